/- More functions of the program: tables of steam. -/
import Derived.Test.YtcjjbjagbnfnfaaH04
import Derived.Test.YtcjjbjagbnfnfaaH05
set_option linter.all false
/- More functions of the program: tables of steam. -/
namespace Go.Hx
set_option maxRecDepth 100000
noncomputable def L12 : LFunc := ⟨174, (.seq (.reg [⟨(.some 6), (.box (.t 0)), .none, []⟩, ⟨(.some 7), (.box (.t 1)), .none, []⟩, ⟨(.some 9), (.box (.t 3)), .none, []⟩, ⟨(.some 10), (.box (.t 4)), .none, []⟩, ⟨(.some 12), (.move (.c (.bool .false))), .none, []⟩]) (.seq (.seq (.reg [⟨(.some 23), (.load .true 2 (.t 6)), .none, []⟩, ⟨(.some 24), (.load .true 2 (.t 7)), .none, []⟩, ⟨(.some 25), (.buildSlice 2 [(.int .i64 0), (.int .i64 0)] [(0, (2, (.t 23))), (2, (2, (.t 24)))]), .none, []⟩, ⟨(.some 26), (.load .true 2 (.t 10)), .none, []⟩, ⟨(.some 27), (.call (.c (.func 48 [] [])) [(.t 25), (.t 26)]), .none, []⟩, ⟨(.some 28), (.un .not (.t 27)), .none, []⟩, ⟨(.some 29), (.move (.t 28)), .none, []⟩, ⟨(.some 30), (.move (.t 2)), (.some (29, .false)), []⟩, ⟨(.some 31), (.load .true 2 (.t 9)), (.some (29, .false)), []⟩, ⟨(.some 32), (.call (.c (.func 50 [] [])) [(.t 30), (.t 31)]), (.some (29, .false)), []⟩, ⟨(.some 33), (.un .not (.t 32)), (.some (29, .false)), []⟩, ⟨(.some 34), (.pick (.t 29) (.c (.bool .true)) (.t 33)), .none, []⟩]) (.cond (.t 34) (.seq (.reg [⟨(.some 35), (.call (.c (.func 22 [] [])) []), .none, []⟩, ⟨(.some 12), (.move (.t 35)), .none, []⟩]) .ret) .skip)) (.seq (.reg [⟨(.some 36), (.fieldAddr 0 (.t 10)), .none, []⟩, ⟨(.some 37), (.load .false 1 (.t 36)), .none, []⟩, ⟨(.some 38), (.move (.t 5)), .none, []⟩, ⟨(.some 39), (.convInt .i64 (.t 38)), .none, []⟩, ⟨(.some 40), (.bin .rem (.t 39) (.c (.int .i64 4))), .none, []⟩, ⟨(.some 41), (.bin .sub (.t 37) (.t 40)), .none, []⟩, ⟨(.some 42), (.fieldAddr 1 (.t 10)), .none, []⟩, ⟨(.some 43), (.load .false 1 (.t 42)), .none, []⟩, ⟨(.some 44), (.move (.t 5)), .none, []⟩, ⟨(.some 45), (.convInt .i64 (.t 44)), .none, []⟩, ⟨(.some 46), (.bin .quo (.t 45) (.c (.int .i64 4))), .none, []⟩, ⟨(.some 47), (.bin .rem (.t 46) (.c (.int .i64 4))), .none, []⟩, ⟨(.some 48), (.bin .add (.t 43) (.t 47)), .none, []⟩, ⟨(.some 49), (.build [(.int .i64 0), (.int .i64 0)] [(0, (1, (.t 41))), (1, (1, (.t 48)))]), .none, []⟩, ⟨(.some 13), (.alloc [(.int .i64 0), (.int .i64 0)]), .none, []⟩, ⟨.none, (.store 2 (.t 13) (.t 49)), .none, []⟩]) (.seq (.draw 27 [⟨(.some 50), (.move (.t 2)), .none, []⟩, ⟨(.some 51), (.indexAddrS 2 (.t 50) (.c (.int .i64 0))), .none, []⟩, ⟨(.some 52), (.fieldAddr 0 (.t 51)), .none, []⟩, ⟨(.some 53), (.load .false 1 (.t 52)), .none, []⟩, ⟨(.some 54), (.fieldAddr 0 (.t 9)), .none, []⟩, ⟨(.some 55), (.load .false 1 (.t 54)), .none, []⟩, ⟨(.some 56), (.move (.t 5)), .none, []⟩, ⟨(.some 57), (.convInt .i64 (.t 56)), .none, []⟩, ⟨(.some 58), (.bin .quo (.t 57) (.c (.int .i64 16))), .none, []⟩, ⟨(.some 59), (.bin .sub (.t 55) (.t 58)), .none, []⟩, ⟨(.some 60), (.max [(.t 53), (.t 59)]), .none, []⟩, ⟨(.some 61), (.move (.t 2)), .none, []⟩, ⟨(.some 62), (.move (.t 2)), .none, []⟩, ⟨(.some 63), (.len .slice (.t 62)), .none, []⟩, ⟨(.some 64), (.bin .sub (.t 63) (.c (.int .i64 1))), .none, []⟩, ⟨(.some 65), (.indexAddrS 2 (.t 61) (.t 64)), .none, []⟩, ⟨(.some 66), (.fieldAddr 0 (.t 65)), .none, []⟩, ⟨(.some 67), (.load .false 1 (.t 66)), .none, []⟩, ⟨(.some 68), (.fieldAddr 1 (.t 9)), .none, []⟩, ⟨(.some 69), (.load .false 1 (.t 68)), .none, []⟩, ⟨(.some 70), (.move (.t 5)), .none, []⟩, ⟨(.some 71), (.convInt .i64 (.t 70)), .none, []⟩, ⟨(.some 72), (.bin .quo (.t 71) (.c (.int .i64 8))), .none, []⟩, ⟨(.some 73), (.bin .add (.t 69) (.t 72)), .none, []⟩, ⟨(.some 74), (.min [(.t 67), (.t 73)]), .none, []⟩, ⟨(.some 75), (.build [(.int .i64 0), (.int .i64 0)] [(0, (1, (.t 60))), (1, (1, (.t 74)))]), .none, []⟩, ⟨(.some 14), (.alloc [(.int .i64 0), (.int .i64 0)]), .none, []⟩, ⟨.none, (.store 2 (.t 14) (.t 75)), .none, [26]⟩]) (.seq (.draw 11 [⟨(.some 77), (.load .true 2 (.t 6)), .none, []⟩, ⟨(.some 78), (.call (.c (.func 17 [] [])) [(.t 77)]), .none, []⟩, ⟨(.some 79), (.load .true 2 (.t 7)), .none, []⟩, ⟨(.some 80), (.call (.c (.func 17 [] [])) [(.t 79)]), .none, [1]⟩, ⟨(.some 81), (.load .true 2 (.t 10)), .none, []⟩, ⟨(.some 82), (.call (.c (.func 19 [] [])) [(.t 81)]), .none, [3, 1]⟩, ⟨(.some 83), (.call (.c (.func 27 [] [])) [(.t 78), (.t 80), (.t 82)]), .none, [5, 3, 1]⟩, ⟨(.some 76), (.move (.t 83)), .none, [6, 5, 3, 1]⟩, ⟨(.some 84), (.extract (.t 76) 0), .none, [6, 5, 3, 1]⟩, ⟨(.some 85), (.extract (.t 76) 1), .none, [6, 5, 3, 1]⟩, ⟨(.some 15), (.alloc [(.int .i64 0), (.int .i64 0)]), .none, []⟩, ⟨.none, (.store 2 (.t 15) (.t 84)), .none, [10, 6, 5, 3, 1]⟩, ⟨(.some 16), (.move (.t 85)), .none, [10, 6, 5, 3, 1]⟩]) (.seq (.draw 11 [⟨(.some 87), (.load .true 2 (.t 6)), .none, []⟩, ⟨(.some 88), (.call (.c (.func 17 [] [])) [(.t 87)]), .none, []⟩, ⟨(.some 89), (.load .true 2 (.t 7)), .none, []⟩, ⟨(.some 90), (.call (.c (.func 17 [] [])) [(.t 89)]), .none, [1]⟩, ⟨(.some 91), (.load .true 2 (.t 13)), .none, []⟩, ⟨(.some 92), (.call (.c (.func 19 [] [])) [(.t 91)]), .none, [3, 1]⟩, ⟨(.some 93), (.call (.c (.func 27 [] [])) [(.t 88), (.t 90), (.t 92)]), .none, [5, 3, 1]⟩, ⟨(.some 86), (.move (.t 93)), .none, [6, 5, 3, 1]⟩, ⟨(.some 94), (.extract (.t 86) 0), .none, [6, 5, 3, 1]⟩, ⟨(.some 95), (.extract (.t 86) 1), .none, [6, 5, 3, 1]⟩, ⟨(.some 17), (.alloc [(.int .i64 0), (.int .i64 0)]), .none, []⟩, ⟨.none, (.store 2 (.t 17) (.t 94)), .none, [10, 6, 5, 3, 1]⟩, ⟨(.some 18), (.move (.t 95)), .none, [10, 6, 5, 3, 1]⟩]) (.seq (.draw 13 [⟨(.some 97), (.load .true 2 (.t 6)), .none, []⟩, ⟨(.some 98), (.call (.c (.func 17 [] [])) [(.t 97)]), .none, []⟩, ⟨(.some 99), (.move (.t 2)), .none, []⟩, ⟨(.some 100), (.call (.c (.func 31 [] [])) [(.t 99)]), .none, [1]⟩, ⟨(.some 101), (.load .true 2 (.t 9)), .none, []⟩, ⟨(.some 102), (.call (.c (.func 19 [] [])) [(.t 101)]), .none, [3, 1]⟩, ⟨(.some 103), (.load .true 2 (.t 10)), .none, []⟩, ⟨(.some 104), (.call (.c (.func 19 [] [])) [(.t 103)]), .none, [5, 3, 1]⟩, ⟨(.some 105), (.call (.c (.func 32 [] [])) [(.t 98), (.t 100), (.t 102), (.t 104)]), .none, [7, 5, 3, 1]⟩, ⟨(.some 96), (.move (.t 105)), .none, [8, 7, 5, 3, 1]⟩, ⟨(.some 106), (.extract (.t 96) 0), .none, [8, 7, 5, 3, 1]⟩, ⟨(.some 107), (.extract (.t 96) 1), .none, [8, 7, 5, 3, 1]⟩, ⟨(.some 19), (.alloc [(.int .i64 0), (.int .i64 0)]), .none, []⟩, ⟨.none, (.store 2 (.t 19) (.t 106)), .none, [12, 8, 7, 5, 3, 1]⟩, ⟨(.some 20), (.move (.t 107)), .none, [12, 8, 7, 5, 3, 1]⟩]) (.seq (.draw 13 [⟨(.some 109), (.load .true 2 (.t 6)), .none, []⟩, ⟨(.some 110), (.call (.c (.func 17 [] [])) [(.t 109)]), .none, []⟩, ⟨(.some 111), (.move (.t 2)), .none, []⟩, ⟨(.some 112), (.call (.c (.func 31 [] [])) [(.t 111)]), .none, [1]⟩, ⟨(.some 113), (.load .true 2 (.t 14)), .none, []⟩, ⟨(.some 114), (.call (.c (.func 19 [] [])) [(.t 113)]), .none, [3, 1]⟩, ⟨(.some 115), (.load .true 2 (.t 13)), .none, []⟩, ⟨(.some 116), (.call (.c (.func 19 [] [])) [(.t 115)]), .none, [5, 3, 1]⟩, ⟨(.some 117), (.call (.c (.func 32 [] [])) [(.t 110), (.t 112), (.t 114), (.t 116)]), .none, [7, 5, 3, 1]⟩, ⟨(.some 108), (.move (.t 117)), .none, [8, 7, 5, 3, 1]⟩, ⟨(.some 118), (.extract (.t 108) 0), .none, [8, 7, 5, 3, 1]⟩, ⟨(.some 119), (.extract (.t 108) 1), .none, [8, 7, 5, 3, 1]⟩, ⟨(.some 21), (.alloc [(.int .i64 0), (.int .i64 0)]), .none, []⟩, ⟨.none, (.store 2 (.t 21) (.t 118)), .none, [12, 8, 7, 5, 3, 1]⟩, ⟨(.some 22), (.move (.t 119)), .none, [12, 8, 7, 5, 3, 1]⟩]) (.seq (.seq (.reg [⟨(.some 120), (.move (.t 20)), .none, []⟩, ⟨(.some 121), (.eq (.cell (.i .i64)) .true (.t 120) (.c (.int .i64 0))), .none, []⟩, ⟨(.some 122), (.move (.t 121)), .none, []⟩, ⟨(.some 123), (.move (.t 22)), (.some (122, .false)), []⟩, ⟨(.some 124), (.eq (.cell (.i .i64)) .true (.t 123) (.c (.int .i64 0))), (.some (122, .false)), []⟩, ⟨(.some 125), (.pick (.t 122) (.c (.bool .true)) (.t 124)), .none, []⟩, ⟨(.some 126), (.move (.t 125)), .none, []⟩, ⟨(.some 127), (.fieldAddr 0 (.t 21)), (.some (126, .false)), []⟩, ⟨(.some 128), (.load .false 1 (.t 127)), (.some (126, .false)), []⟩, ⟨(.some 129), (.fieldAddr 0 (.t 19)), (.some (126, .false)), []⟩, ⟨(.some 130), (.load .false 1 (.t 129)), (.some (126, .false)), []⟩, ⟨(.some 131), (.bin .gtr (.t 128) (.t 130)), (.some (126, .false)), []⟩, ⟨(.some 132), (.pick (.t 126) (.c (.bool .true)) (.t 131)), .none, []⟩, ⟨(.some 133), (.move (.t 132)), .none, []⟩, ⟨(.some 134), (.fieldAddr 1 (.t 21)), (.some (133, .false)), []⟩, ⟨(.some 135), (.load .false 1 (.t 134)), (.some (133, .false)), []⟩, ⟨(.some 136), (.fieldAddr 1 (.t 19)), (.some (133, .false)), []⟩, ⟨(.some 137), (.load .false 1 (.t 136)), (.some (133, .false)), []⟩, ⟨(.some 138), (.bin .lss (.t 135) (.t 137)), (.some (133, .false)), []⟩, ⟨(.some 139), (.pick (.t 133) (.c (.bool .true)) (.t 138)), .none, []⟩]) (.cond (.t 139) (.seq (.reg [⟨(.some 12), (.move (.c (.bool .false))), .none, []⟩]) .ret) .skip)) (.seq (.seq (.reg [⟨(.some 140), (.move (.t 18)), .none, []⟩, ⟨(.some 141), (.eq (.cell (.i .i64)) .true (.t 140) (.c (.int .i64 0))), .none, []⟩]) (.cond (.t 141) (.seq (.reg [⟨(.some 142), (.move (.t 18)), .none, []⟩, ⟨(.some 143), (.eq (.cell (.i .i64)) .false (.t 142) (.c (.int .i64 10))), .none, []⟩, ⟨(.some 144), (.move (.t 143)), .none, []⟩, ⟨(.some 145), (.move (.t 16)), (.some (144, .true)), []⟩, ⟨(.some 146), (.eq (.cell (.i .i64)) .false (.t 145) (.c (.int .i64 0))), (.some (144, .true)), []⟩, ⟨(.some 147), (.move (.t 146)), (.some (144, .true)), []⟩, ⟨(.some 148), (.move (.t 16)), (.some (147, .false)), []⟩, ⟨(.some 149), (.eq (.cell (.i .i64)) .false (.t 148) (.c (.int .i64 10))), (.some (147, .false)), []⟩, ⟨(.some 150), (.pick (.t 147) (.c (.bool .true)) (.t 149)), (.some (144, .true)), []⟩, ⟨(.some 151), (.pick (.t 144) (.t 150) (.c (.bool .false))), .none, []⟩, ⟨(.some 152), (.move (.t 151)), .none, []⟩, ⟨(.some 153), (.call (.c (.func 22 [] [])) []), (.some (152, .true)), []⟩, ⟨(.some 154), (.pick (.t 152) (.t 153) (.c (.bool .false))), .none, []⟩, ⟨(.some 12), (.move (.t 154)), .none, []⟩]) .ret) .skip)) (.seq (.reg [⟨(.some 155), (.move (.t 16)), .none, []⟩, ⟨(.some 156), (.eq (.cell (.i .i64)) .false (.t 155) (.c (.int .i64 0))), .none, []⟩, ⟨(.some 157), (.move (.t 156)), .none, []⟩, ⟨(.some 158), (.fieldAddr 0 (.t 17)), (.some (157, .true)), []⟩, ⟨(.some 159), (.load .false 1 (.t 158)), (.some (157, .true)), []⟩, ⟨(.some 160), (.fieldAddr 0 (.t 15)), (.some (157, .true)), []⟩, ⟨(.some 161), (.load .false 1 (.t 160)), (.some (157, .true)), []⟩, ⟨(.some 162), (.bin .leq (.t 159) (.t 161)), (.some (157, .true)), []⟩, ⟨(.some 163), (.pick (.t 157) (.t 162) (.c (.bool .false))), .none, []⟩, ⟨(.some 164), (.move (.t 163)), .none, []⟩, ⟨(.some 165), (.fieldAddr 1 (.t 17)), (.some (164, .true)), []⟩, ⟨(.some 166), (.load .false 1 (.t 165)), (.some (164, .true)), []⟩, ⟨(.some 167), (.fieldAddr 1 (.t 15)), (.some (164, .true)), []⟩, ⟨(.some 168), (.load .false 1 (.t 167)), (.some (164, .true)), []⟩, ⟨(.some 169), (.bin .geq (.t 166) (.t 168)), (.some (164, .true)), []⟩, ⟨(.some 170), (.pick (.t 164) (.t 169) (.c (.bool .false))), .none, []⟩, ⟨(.some 171), (.move (.t 170)), .none, []⟩, ⟨(.some 172), (.call (.c (.func 22 [] [])) []), (.some (171, .true)), []⟩, ⟨(.some 173), (.pick (.t 171) (.t 172) (.c (.bool .false))), .none, []⟩, ⟨(.some 12), (.move (.t 173)), .none, []⟩]) .ret))))))))))), [(.t 12)], .false, .none⟩
theorem lp12 : LP 12 = some L12 := by kernel_rfl
noncomputable def L30 : LFunc := ⟨28, (.seq (.reg [⟨(.some 3), (.box (.t 1)), .none, []⟩, ⟨(.some 4), (.alloc [(.int .i64 0), (.int .i64 0)]), .none, []⟩, ⟨(.some 5), (.move (.c (.int .i64 0))), .none, []⟩]) (.seq (.seq (.reg [⟨(.some 7), (.move (.t 0)), .none, []⟩, ⟨(.some 8), (.call (.c (.func 63 [] [])) [(.t 7)]), .none, []⟩, ⟨(.some 6), (.move (.t 8)), .none, []⟩]) (.seq (.reg [⟨(.some 9), (.move (.t 6)), .none, []⟩, ⟨(.some 10), (.eq (.cell (.i .i64)) .true (.t 9) (.c (.int .i64 0))), .none, []⟩]) (.cond (.t 10) (.seq (.reg [⟨(.some 11), (.build [(.int .i64 0), (.int .i64 0)] []), .none, []⟩, ⟨(.some 12), (.move (.t 6)), .none, []⟩, ⟨.none, (.store 2 (.t 4) (.t 11)), .none, []⟩, ⟨(.some 5), (.move (.t 12)), .none, []⟩]) .ret) .skip))) (.seq (.seq (.draw 3 [⟨(.some 13), (.load .true 2 (.t 3)), .none, []⟩, ⟨(.some 14), (.move (.t 0)), .none, []⟩, ⟨(.some 15), (.call (.c (.func 65 [] [])) [(.t 14)]), .none, []⟩, ⟨(.some 16), (.call (.c (.func 64 [] [])) [(.t 13), (.t 15)]), .none, [2]⟩, ⟨(.some 17), (.un .not (.t 16)), .none, [3, 2]⟩]) (.cond (.t 17) (.seq (.reg [⟨(.some 18), (.build [(.int .i64 0), (.int .i64 0)] []), .none, []⟩, ⟨.none, (.store 2 (.t 4) (.t 18)), .none, []⟩, ⟨(.some 5), (.move (.c (.int .i64 2))), .none, []⟩]) .ret) .skip)) (.seq (.draw 7 [⟨(.some 19), (.move (.t 0)), .none, []⟩, ⟨(.some 20), (.fieldAddr 0 (.t 3)), .none, []⟩, ⟨(.some 21), (.load .false 1 (.t 20)), .none, []⟩, ⟨(.some 22), (.call (.c (.func 66 [] [])) [(.t 19), (.t 21)]), .none, []⟩, ⟨(.some 23), (.move (.t 0)), .none, []⟩, ⟨(.some 24), (.fieldAddr 1 (.t 3)), .none, []⟩, ⟨(.some 25), (.load .false 1 (.t 24)), .none, []⟩, ⟨(.some 26), (.call (.c (.func 66 [] [])) [(.t 23), (.t 25)]), .none, [3]⟩, ⟨(.some 27), (.build [(.int .i64 0), (.int .i64 0)] [(0, (1, (.t 22))), (1, (1, (.t 26)))]), .none, [7, 3]⟩, ⟨.none, (.store 2 (.t 4) (.t 27)), .none, [7, 3]⟩, ⟨(.some 5), (.move (.c (.int .i64 0))), .none, [7, 3]⟩]) .ret)))), [(.cell 4 .true 2), (.t 5)], .false, .none⟩
theorem lp30 : LP 30 = some L30 := by kernel_rfl
noncomputable def L31w0 : LCode := (.seq (.seq (.reg [⟨(.some 5), (.move (.t 4)), .none, []⟩, ⟨(.some 6), (.move (.t 0)), .none, []⟩, ⟨(.some 7), (.len .slice (.t 6)), .none, []⟩, ⟨(.some 8), (.bin .lss (.t 5) (.t 7)), .none, []⟩]) (.cond (.t 8) .skip (.exit 0))) (.seq (.block 1 (.draw 11 [⟨(.some 11), (.move (.t 3)), .none, []⟩, ⟨(.some 12), (.move (.t 0)), .none, []⟩, ⟨(.some 13), (.move (.t 4)), .none, []⟩, ⟨(.some 14), (.indexAddrS 2 (.t 12) (.t 13)), .none, []⟩, ⟨(.some 15), (.fieldAddr 0 (.t 14)), .none, []⟩, ⟨(.some 16), (.load .false 1 (.t 15)), .none, []⟩, ⟨(.some 17), (.move (.t 0)), .none, []⟩, ⟨(.some 18), (.move (.t 4)), .none, []⟩, ⟨(.some 19), (.indexAddrS 2 (.t 17) (.t 18)), .none, []⟩, ⟨(.some 20), (.fieldAddr 1 (.t 19)), .none, []⟩, ⟨(.some 21), (.load .false 1 (.t 20)), .none, []⟩, ⟨(.some 22), (.build [(.int .i64 0), (.int .i64 0)] [(0, (1, (.t 16))), (1, (1, (.t 21)))]), .none, []⟩, ⟨(.some 23), (.buildSlice 1 [(.int .i64 0), (.int .i64 0)] [(0, (2, (.t 22)))]), .none, []⟩, ⟨(.some 24), (.append 2 16 (.t 11) (.t 23)), .none, [12]⟩, ⟨(.some 3), (.move (.t 24)), .none, [13, 12]⟩])) (.reg [⟨(.some 9), (.move (.t 4)), .none, []⟩, ⟨(.some 10), (.bin .add (.t 9) (.c (.int .i64 1))), .none, []⟩, ⟨(.some 4), (.move (.t 10)), .none, []⟩])))
noncomputable def L31 : LFunc := ⟨26, (.seq (.reg [⟨(.some 2), (.move (.c (.slice .none 0 0))), .none, []⟩]) (.seq (.reg [⟨(.some 3), (.move (.c (.slice .none 0 0))), .none, []⟩]) (.seq (.seq (.reg [⟨(.some 4), (.move (.c (.int .i64 0))), .none, []⟩]) (.block 0 (.loop L31w0))) (.seq (.reg [⟨(.some 25), (.move (.t 3)), .none, []⟩, ⟨(.some 2), (.move (.t 25)), .none, []⟩]) .ret)))), [(.t 2)], .false, .none⟩
theorem lp31 : LP 31 = some L31 := by kernel_rfl
noncomputable def L32 : LFunc := ⟨42, (.seq (.reg [⟨(.some 4), (.box (.t 0)), .none, []⟩, ⟨(.some 6), (.box (.t 2)), .none, []⟩, ⟨(.some 7), (.box (.t 3)), .none, []⟩, ⟨(.some 8), (.alloc [(.int .i64 0), (.int .i64 0)]), .none, []⟩, ⟨(.some 9), (.move (.c (.int .i64 0))), .none, []⟩]) (.seq (.seq (.reg [⟨(.some 14), (.move (.t 1)), .none, []⟩, ⟨(.some 15), (.call (.c (.func 63 [] [])) [(.t 14)]), .none, []⟩, ⟨(.some 10), (.move (.t 15)), .none, []⟩]) (.seq (.reg [⟨(.some 16), (.move (.t 10)), .none, []⟩, ⟨(.some 17), (.eq (.cell (.i .i64)) .true (.t 16) (.c (.int .i64 0))), .none, []⟩]) (.cond (.t 17) (.seq (.reg [⟨(.some 18), (.build [(.int .i64 0), (.int .i64 0)] []), .none, []⟩, ⟨(.some 19), (.move (.t 10)), .none, []⟩, ⟨.none, (.store 2 (.t 8) (.t 18)), .none, []⟩, ⟨(.some 9), (.move (.t 19)), .none, []⟩]) .ret) .skip))) (.seq (.seq (.reg [⟨(.some 20), (.load .true 2 (.t 7)), .none, []⟩, ⟨(.some 21), (.load .true 2 (.t 4)), .none, []⟩, ⟨(.some 22), (.buildSlice 1 [(.int .i64 0), (.int .i64 0)] [(0, (2, (.t 21)))]), .none, []⟩, ⟨(.some 23), (.call (.c (.func 53 [] [])) [(.t 20), (.t 22)]), .none, []⟩, ⟨(.some 11), (.move (.t 23)), .none, []⟩]) (.seq (.reg [⟨(.some 24), (.move (.t 11)), .none, []⟩, ⟨(.some 25), (.eq (.cell (.i .i64)) .true (.t 24) (.c (.int .i64 0))), .none, []⟩]) (.cond (.t 25) (.seq (.reg [⟨(.some 26), (.build [(.int .i64 0), (.int .i64 0)] []), .none, []⟩, ⟨(.some 27), (.move (.t 11)), .none, []⟩, ⟨.none, (.store 2 (.t 8) (.t 26)), .none, []⟩, ⟨(.some 9), (.move (.t 27)), .none, []⟩]) .ret) .skip))) (.seq (.reg [⟨(.some 29), (.move (.t 1)), .none, []⟩, ⟨(.some 30), (.load .true 2 (.t 6)), .none, []⟩, ⟨(.some 31), (.call (.c (.func 30 [] [])) [(.t 29), (.t 30)]), .none, []⟩, ⟨(.some 28), (.move (.t 31)), .none, []⟩, ⟨(.some 32), (.extract (.t 28) 0), .none, []⟩, ⟨(.some 33), (.extract (.t 28) 1), .none, []⟩, ⟨(.some 12), (.alloc [(.int .i64 0), (.int .i64 0)]), .none, []⟩, ⟨.none, (.store 2 (.t 12) (.t 32)), .none, []⟩, ⟨(.some 13), (.move (.t 33)), .none, []⟩]) (.seq (.seq (.reg [⟨(.some 34), (.move (.t 13)), .none, []⟩, ⟨(.some 35), (.eq (.cell (.i .i64)) .true (.t 34) (.c (.int .i64 0))), .none, []⟩]) (.cond (.t 35) (.seq (.reg [⟨(.some 36), (.build [(.int .i64 0), (.int .i64 0)] []), .none, []⟩, ⟨(.some 37), (.move (.t 13)), .none, []⟩, ⟨.none, (.store 2 (.t 8) (.t 36)), .none, []⟩, ⟨(.some 9), (.move (.t 37)), .none, []⟩]) .ret) .skip)) (.seq (.reg [⟨(.some 38), (.load .true 2 (.t 4)), .none, []⟩, ⟨(.some 39), (.load .true 2 (.t 12)), .none, []⟩, ⟨(.some 40), (.load .true 2 (.t 7)), .none, []⟩, ⟨(.some 41), (.call (.c (.func 54 [] [])) [(.t 38), (.t 39), (.t 40)]), .none, []⟩, ⟨.none, (.store 2 (.t 8) (.t 41)), .none, []⟩, ⟨(.some 9), (.move (.c (.int .i64 0))), .none, []⟩]) .ret)))))), [(.cell 8 .true 2), (.t 9)], .false, .none⟩
theorem lp32 : LP 32 = some L32 := by kernel_rfl
noncomputable def L33w0 : LCode := (.seq (.seq (.reg [⟨(.some 4), (.move (.t 3)), .none, []⟩, ⟨(.some 5), (.move (.t 0)), .none, []⟩, ⟨(.some 6), (.len .slice (.t 5)), .none, []⟩, ⟨(.some 7), (.bin .lss (.t 4) (.t 6)), .none, []⟩]) (.cond (.t 7) .skip (.exit 0))) (.seq (.block 1 (.seq (.draw 44 [⟨(.some 10), (.move (.t 0)), .none, []⟩, ⟨(.some 11), (.move (.t 3)), .none, []⟩, ⟨(.some 12), (.indexAddrS 2 (.t 10) (.t 11)), .none, []⟩, ⟨(.some 13), (.fieldAddr 0 (.t 12)), .none, []⟩, ⟨(.some 14), (.load .false 1 (.t 13)), .none, []⟩, ⟨(.some 15), (.call (.c (.func 55 [] [])) [(.t 14), (.c (.int .i64 1)), (.c (.int .i64 2000))]), .none, []⟩, ⟨(.some 16), (.un .not (.t 15)), .none, [5]⟩, ⟨(.some 17), (.move (.t 16)), .none, [5]⟩, ⟨(.some 18), (.move (.t 0)), (.some (17, .false)), [5]⟩, ⟨(.some 19), (.move (.t 3)), (.some (17, .false)), [5]⟩, ⟨(.some 20), (.indexAddrS 2 (.t 18) (.t 19)), (.some (17, .false)), [5]⟩, ⟨(.some 21), (.fieldAddr 1 (.t 20)), (.some (17, .false)), [5]⟩, ⟨(.some 22), (.load .false 1 (.t 21)), (.some (17, .false)), [5]⟩, ⟨(.some 23), (.call (.c (.func 55 [] [])) [(.t 22), (.c (.int .i64 1)), (.c (.int .i64 2000))]), (.some (17, .false)), [5]⟩, ⟨(.some 24), (.un .not (.t 23)), (.some (17, .false)), [13, 5]⟩, ⟨(.some 25), (.pick (.t 17) (.c (.bool .true)) (.t 24)), .none, [13, 5]⟩, ⟨(.some 26), (.move (.t 25)), .none, [13, 5]⟩, ⟨(.some 27), (.move (.t 3)), (.some (26, .false)), [13, 5]⟩, ⟨(.some 28), (.bin .gtr (.t 27) (.c (.int .i64 0))), (.some (26, .false)), [13, 5]⟩, ⟨(.some 29), (.move (.t 28)), (.some (26, .false)), [13, 5]⟩, ⟨(.some 30), (.move (.t 0)), (.some (29, .true)), [13, 5]⟩, ⟨(.some 31), (.move (.t 3)), (.some (29, .true)), [13, 5]⟩, ⟨(.some 32), (.indexAddrS 2 (.t 30) (.t 31)), (.some (29, .true)), [13, 5]⟩, ⟨(.some 33), (.fieldAddr 0 (.t 32)), (.some (29, .true)), [13, 5]⟩, ⟨(.some 34), (.load .false 1 (.t 33)), (.some (29, .true)), [13, 5]⟩, ⟨(.some 35), (.move (.t 0)), (.some (29, .true)), [13, 5]⟩, ⟨(.some 36), (.move (.t 3)), (.some (29, .true)), [13, 5]⟩, ⟨(.some 37), (.bin .sub (.t 36) (.c (.int .i64 1))), (.some (29, .true)), [13, 5]⟩, ⟨(.some 38), (.indexAddrS 2 (.t 35) (.t 37)), (.some (29, .true)), [13, 5]⟩, ⟨(.some 39), (.fieldAddr 0 (.t 38)), (.some (29, .true)), [13, 5]⟩, ⟨(.some 40), (.load .false 1 (.t 39)), (.some (29, .true)), [13, 5]⟩, ⟨(.some 41), (.bin .leq (.t 34) (.t 40)), (.some (29, .true)), [13, 5]⟩, ⟨(.some 42), (.move (.t 41)), (.some (29, .true)), [13, 5]⟩, ⟨(.some 43), (.move (.t 0)), (.some (42, .false)), [13, 5]⟩, ⟨(.some 44), (.move (.t 3)), (.some (42, .false)), [13, 5]⟩, ⟨(.some 45), (.indexAddrS 2 (.t 43) (.t 44)), (.some (42, .false)), [13, 5]⟩, ⟨(.some 46), (.fieldAddr 1 (.t 45)), (.some (42, .false)), [13, 5]⟩, ⟨(.some 47), (.load .false 1 (.t 46)), (.some (42, .false)), [13, 5]⟩, ⟨(.some 48), (.move (.t 0)), (.some (42, .false)), [13, 5]⟩, ⟨(.some 49), (.move (.t 3)), (.some (42, .false)), [13, 5]⟩, ⟨(.some 50), (.bin .sub (.t 49) (.c (.int .i64 1))), (.some (42, .false)), [13, 5]⟩, ⟨(.some 51), (.indexAddrS 2 (.t 48) (.t 50)), (.some (42, .false)), [13, 5]⟩, ⟨(.some 52), (.fieldAddr 1 (.t 51)), (.some (42, .false)), [13, 5]⟩, ⟨(.some 53), (.load .false 1 (.t 52)), (.some (42, .false)), [13, 5]⟩, ⟨(.some 54), (.bin .leq (.t 47) (.t 53)), (.some (42, .false)), [13, 5]⟩, ⟨(.some 55), (.pick (.t 42) (.c (.bool .true)) (.t 54)), (.some (29, .true)), [13, 5]⟩, ⟨(.some 56), (.pick (.t 29) (.t 55) (.c (.bool .false))), (.some (26, .false)), [13, 5]⟩, ⟨(.some 57), (.pick (.t 26) (.c (.bool .true)) (.t 56)), .none, [13, 5]⟩]) (.cond (.t 57) (.seq (.reg [⟨(.some 2), (.move (.c (.bool .false))), .none, []⟩]) .ret) .skip))) (.reg [⟨(.some 8), (.move (.t 3)), .none, []⟩, ⟨(.some 9), (.bin .add (.t 8) (.c (.int .i64 1))), .none, []⟩, ⟨(.some 3), (.move (.t 9)), .none, []⟩])))
noncomputable def L33 : LFunc := ⟨61, (.seq (.reg [⟨(.some 2), (.move (.c (.bool .false))), .none, []⟩]) (.seq (.seq (.reg [⟨(.some 3), (.move (.c (.int .i64 0))), .none, []⟩]) (.block 0 (.loop L33w0))) (.seq (.reg [⟨(.some 58), (.move (.t 0)), .none, []⟩, ⟨(.some 59), (.len .slice (.t 58)), .none, []⟩, ⟨(.some 60), (.bin .geq (.t 59) (.c (.int .i64 2))), .none, []⟩, ⟨(.some 2), (.move (.t 60)), .none, []⟩]) .ret))), [(.t 2)], .false, .none⟩
theorem lp33 : LP 33 = some L33 := by kernel_rfl
noncomputable def L50 : LFunc := ⟨27, (.seq (.reg [⟨(.some 3), (.box (.t 1)), .none, []⟩, ⟨(.some 4), (.move (.c (.bool .false))), .none, []⟩]) (.seq (.draw 20 [⟨(.some 5), (.move (.t 0)), .none, []⟩, ⟨(.some 6), (.len .slice (.t 5)), .none, []⟩, ⟨(.some 7), (.bin .leq (.t 6) (.c (.int .i64 8))), .none, []⟩, ⟨(.some 8), (.move (.t 7)), .none, []⟩, ⟨(.some 9), (.move (.t 0)), (.some (8, .true)), []⟩, ⟨(.some 10), (.call (.c (.func 33 [] [])) [(.t 9)]), (.some (8, .true)), []⟩, ⟨(.some 11), (.pick (.t 8) (.t 10) (.c (.bool .false))), .none, [5]⟩, ⟨(.some 12), (.move (.t 11)), .none, [5]⟩, ⟨(.some 13), (.load .true 2 (.t 3)), (.some (12, .true)), [5]⟩, ⟨(.some 14), (.move (.t 0)), (.some (12, .true)), [5]⟩, ⟨(.some 15), (.indexAddrS 2 (.t 14) (.c (.int .i64 0))), (.some (12, .true)), [5]⟩, ⟨(.some 16), (.fieldAddr 0 (.t 15)), (.some (12, .true)), [5]⟩, ⟨(.some 17), (.load .false 1 (.t 16)), (.some (12, .true)), [5]⟩, ⟨(.some 18), (.move (.t 0)), (.some (12, .true)), [5]⟩, ⟨(.some 19), (.move (.t 0)), (.some (12, .true)), [5]⟩, ⟨(.some 20), (.len .slice (.t 19)), (.some (12, .true)), [5]⟩, ⟨(.some 21), (.bin .sub (.t 20) (.c (.int .i64 1))), (.some (12, .true)), [5]⟩, ⟨(.some 22), (.indexAddrS 2 (.t 18) (.t 21)), (.some (12, .true)), [5]⟩, ⟨(.some 23), (.fieldAddr 0 (.t 22)), (.some (12, .true)), [5]⟩, ⟨(.some 24), (.load .false 1 (.t 23)), (.some (12, .true)), [5]⟩, ⟨(.some 25), (.call (.c (.func 34 [] [])) [(.t 13), (.t 17), (.t 24)]), (.some (12, .true)), [5]⟩, ⟨(.some 26), (.pick (.t 12) (.t 25) (.c (.bool .false))), .none, [20, 5]⟩, ⟨(.some 4), (.move (.t 26)), .none, [20, 5]⟩]) .ret)), [(.t 4)], .false, .none⟩
theorem lp50 : LP 50 = some L50 := by kernel_rfl
noncomputable def L63 : LFunc := ⟨19, (.seq (.reg [⟨(.some 2), (.move (.c (.int .i64 0))), .none, []⟩]) (.seq (.seq (.reg [⟨(.some 3), (.move (.t 0)), .none, []⟩, ⟨(.some 4), (.len .slice (.t 3)), .none, []⟩, ⟨(.some 5), (.bin .gtr (.t 4) (.c (.int .i64 8))), .none, []⟩]) (.cond (.t 5) (.seq (.reg [⟨(.some 2), (.move (.c (.int .i64 3))), .none, []⟩]) .ret) .skip)) (.seq (.seq (.reg [⟨(.some 6), (.move (.t 0)), .none, []⟩, ⟨(.some 7), (.len .slice (.t 6)), .none, []⟩, ⟨(.some 8), (.bin .lss (.t 7) (.c (.int .i64 2))), .none, []⟩, ⟨(.some 9), (.move (.t 8)), .none, []⟩, ⟨(.some 10), (.move (.t 0)), (.some (9, .false)), []⟩, ⟨(.some 11), (.call (.c (.func 86 [] [])) [(.t 10), (.c (.func 87 [] []))]), (.some (9, .false)), []⟩, ⟨(.some 12), (.un .not (.t 11)), (.some (9, .false)), []⟩, ⟨(.some 13), (.pick (.t 9) (.c (.bool .true)) (.t 12)), .none, []⟩, ⟨(.some 14), (.move (.t 13)), .none, []⟩, ⟨(.some 15), (.move (.t 0)), (.some (14, .false)), []⟩, ⟨(.some 16), (.call (.c (.func 88 [] [])) [(.t 15), (.c (.func 89 [] []))]), (.some (14, .false)), []⟩, ⟨(.some 17), (.un .not (.t 16)), (.some (14, .false)), []⟩, ⟨(.some 18), (.pick (.t 14) (.c (.bool .true)) (.t 17)), .none, []⟩]) (.cond (.t 18) (.seq (.reg [⟨(.some 2), (.move (.c (.int .i64 1))), .none, []⟩]) .ret) .skip)) (.seq (.reg [⟨(.some 2), (.move (.c (.int .i64 0))), .none, []⟩]) .ret)))), [(.t 2)], .false, .none⟩
theorem lp63 : LP 63 = some L63 := by kernel_rfl
noncomputable def L65 : LFunc := ⟨15, (.seq (.reg [⟨(.some 2), (.alloc [(.int .i64 0), (.int .i64 0)]), .none, []⟩]) (.seq (.draw 11 [⟨(.some 3), (.move (.t 0)), .none, []⟩, ⟨(.some 4), (.indexAddrS 2 (.t 3) (.c (.int .i64 0))), .none, []⟩, ⟨(.some 5), (.fieldAddr 0 (.t 4)), .none, []⟩, ⟨(.some 6), (.load .false 1 (.t 5)), .none, []⟩, ⟨(.some 7), (.move (.t 0)), .none, []⟩, ⟨(.some 8), (.move (.t 0)), .none, []⟩, ⟨(.some 9), (.len .slice (.t 8)), .none, []⟩, ⟨(.some 10), (.bin .sub (.t 9) (.c (.int .i64 1))), .none, []⟩, ⟨(.some 11), (.indexAddrS 2 (.t 7) (.t 10)), .none, []⟩, ⟨(.some 12), (.fieldAddr 0 (.t 11)), .none, []⟩, ⟨(.some 13), (.load .false 1 (.t 12)), .none, []⟩, ⟨(.some 14), (.build [(.int .i64 0), (.int .i64 0)] [(0, (1, (.t 6))), (1, (1, (.t 13)))]), .none, []⟩, ⟨.none, (.store 2 (.t 2) (.t 14)), .none, []⟩]) .ret)), [(.cell 2 .true 2)], .false, .none⟩
theorem lp65 : LP 65 = some L65 := by kernel_rfl
noncomputable def L66 : LFunc := ⟨36, (.seq (.reg [⟨(.some 3), (.box (.t 1)), .none, []⟩, ⟨(.some 4), (.move (.c (.int .i64 0))), .none, []⟩]) (.seq (.reg [⟨(.some 5), (.alloc [(.int .i64 0)]), .none, []⟩, ⟨.none, (.store 1 (.t 5) (.c (.int .i64 0))), .none, []⟩]) (.seq (.seq (.reg [⟨(.some 9), (.move (.t 0)), .none, []⟩, ⟨(.some 10), (.load .false 1 (.t 3)), .none, []⟩, ⟨(.some 11), (.call (.c (.func 90 [] [])) [(.t 9), (.t 10)]), .none, []⟩]) (.block 0 (.rangeFunc (.t 11) [12, 13] (.seq (.reg [⟨(.some 6), (.alloc [(.int .i64 0), (.int .i64 0)]), .none, []⟩, ⟨.none, (.store 2 (.t 6) (.t 12)), .none, []⟩]) (.reg [⟨(.some 7), (.alloc [(.int .i64 0), (.int .i64 0)]), .none, []⟩, ⟨.none, (.store 2 (.t 7) (.t 13)), .none, []⟩])) (.block 1 (.seq (.reg [⟨(.some 14), (.fieldAddr 1 (.t 7)), .none, []⟩, ⟨(.some 15), (.load .false 1 (.t 14)), .none, []⟩, ⟨(.some 16), (.fieldAddr 1 (.t 6)), .none, []⟩, ⟨(.some 17), (.load .false 1 (.t 16)), .none, []⟩, ⟨(.some 18), (.bin .sub (.t 15) (.t 17)), .none, []⟩, ⟨(.some 19), (.load .false 1 (.t 3)), .none, []⟩, ⟨(.some 20), (.fieldAddr 0 (.t 6)), .none, []⟩, ⟨(.some 21), (.load .false 1 (.t 20)), .none, []⟩, ⟨(.some 22), (.bin .sub (.t 19) (.t 21)), .none, []⟩, ⟨(.some 23), (.bin .mul (.t 18) (.t 22)), .none, []⟩, ⟨(.some 24), (.fieldAddr 0 (.t 7)), .none, []⟩, ⟨(.some 25), (.load .false 1 (.t 24)), .none, []⟩, ⟨(.some 26), (.fieldAddr 0 (.t 6)), .none, []⟩, ⟨(.some 27), (.load .false 1 (.t 26)), .none, []⟩, ⟨(.some 28), (.bin .sub (.t 25) (.t 27)), .none, []⟩, ⟨(.some 29), (.build [(.int .i64 0), (.int .i64 0)] [(0, (1, (.t 23))), (1, (1, (.t 28)))]), .none, []⟩, ⟨(.some 8), (.alloc [(.int .i64 0), (.int .i64 0)]), .none, []⟩, ⟨.none, (.store 2 (.t 8) (.t 29)), .none, []⟩]) (.draw 4 [⟨(.some 30), (.fieldAddr 1 (.t 6)), .none, []⟩, ⟨(.some 31), (.load .false 1 (.t 30)), .none, []⟩, ⟨(.some 32), (.load .true 2 (.t 8)), .none, []⟩, ⟨(.some 33), (.call (.c (.func 91 [] [])) [(.t 32)]), .none, []⟩, ⟨(.some 34), (.bin .add (.t 31) (.t 33)), .none, [3]⟩, ⟨.none, (.store 1 (.t 5) (.t 34)), .none, [3]⟩])))))) (.seq (.reg [⟨(.some 35), (.load .false 1 (.t 5)), .none, []⟩, ⟨(.some 4), (.move (.t 35)), .none, []⟩]) .ret)))), [(.t 4)], .false, .none⟩
theorem lp66 : LP 66 = some L66 := by kernel_rfl
noncomputable def L86w0 : LCode := (.seq (.reg [⟨(.some 10), (.bin .lss (.t 9) (.t 8)), .none, []⟩]) (.seq (.cond (.t 10) .skip (.exit 0)) (.seq (.block 1 (.seq (.reg [⟨(.some 11), (.indexAddrS 2 (.t 7) (.t 9)), .none, []⟩, ⟨(.some 12), (.load .true 2 (.t 11)), .none, []⟩, ⟨(.some 6), (.alloc [(.int .i64 0), (.int .i64 0)]), .none, []⟩, ⟨.none, (.store 2 (.t 6) (.t 12)), .none, []⟩]) (.seq (.reg [⟨(.some 13), (.move (.t 1)), .none, []⟩, ⟨(.some 14), (.load .true 2 (.t 6)), .none, []⟩, ⟨(.some 15), (.call (.t 13) [(.t 14)]), .none, []⟩, ⟨(.some 16), (.un .not (.t 15)), .none, []⟩]) (.cond (.t 16) (.seq (.reg [⟨(.some 4), (.move (.c (.bool .false))), .none, []⟩]) .ret) .skip)))) (.reg [⟨(.some 17), (.bin .add (.t 9) (.c (.int .i64 1))), .none, []⟩, ⟨(.some 9), (.move (.t 17)), .none, []⟩]))))
noncomputable def L86 : LFunc := ⟨18, (.seq (.reg [⟨(.some 4), (.move (.c (.bool .false))), .none, []⟩]) (.seq (.seq (.reg [⟨(.some 7), (.move (.t 0)), .none, []⟩, ⟨(.some 8), (.len .slice (.t 7)), .none, []⟩, ⟨(.some 9), (.move (.c (.int .i64 0))), .none, []⟩]) (.block 0 (.loop L86w0))) (.seq (.reg [⟨(.some 4), (.move (.c (.bool .true))), .none, []⟩]) .ret))), [(.t 4)], .false, .none⟩
theorem lp86 : LP 86 = some L86 := by kernel_rfl
noncomputable def L87 : LFunc := ⟨17, (.seq (.reg [⟨(.some 1), (.box (.t 0)), .none, []⟩, ⟨(.some 2), (.move (.c (.bool .false))), .none, []⟩]) (.seq (.reg [⟨(.some 5), (.build [(.int .i64 0), (.int .i64 0)] [(0, (1, (.c (.int .i64 1)))), (1, (1, (.c (.int .i64 2000))))]), .none, []⟩, ⟨(.some 6), (.build [(.int .i64 0), (.int .i64 0)] [(0, (1, (.c (.int .i64 1)))), (1, (1, (.c (.int .i64 2000))))]), .none, []⟩, ⟨(.some 3), (.alloc [(.int .i64 0), (.int .i64 0)]), .none, []⟩, ⟨(.some 4), (.alloc [(.int .i64 0), (.int .i64 0)]), .none, []⟩, ⟨.none, (.store 2 (.t 3) (.t 5)), .none, []⟩, ⟨.none, (.store 2 (.t 4) (.t 6)), .none, []⟩]) (.seq (.reg [⟨(.some 7), (.load .true 2 (.t 3)), .none, []⟩, ⟨(.some 8), (.fieldAddr 0 (.t 1)), .none, []⟩, ⟨(.some 9), (.load .false 1 (.t 8)), .none, []⟩, ⟨(.some 10), (.call (.c (.func 73 [] [])) [(.t 7), (.t 9)]), .none, []⟩, ⟨(.some 11), (.move (.t 10)), .none, []⟩, ⟨(.some 12), (.load .true 2 (.t 4)), (.some (11, .true)), []⟩, ⟨(.some 13), (.fieldAddr 1 (.t 1)), (.some (11, .true)), []⟩, ⟨(.some 14), (.load .false 1 (.t 13)), (.some (11, .true)), []⟩, ⟨(.some 15), (.call (.c (.func 73 [] [])) [(.t 12), (.t 14)]), (.some (11, .true)), []⟩, ⟨(.some 16), (.pick (.t 11) (.t 15) (.c (.bool .false))), .none, []⟩, ⟨(.some 2), (.move (.t 16)), .none, []⟩]) .ret))), [(.t 2)], .false, .none⟩
theorem lp87 : LP 87 = some L87 := by kernel_rfl
noncomputable def L88w0 : LCode := (.seq (.seq (.reg [⟨(.some 6), (.move (.t 5)), .none, []⟩, ⟨(.some 7), (.move (.t 0)), .none, []⟩, ⟨(.some 8), (.len .slice (.t 7)), .none, []⟩, ⟨(.some 9), (.bin .lss (.t 6) (.t 8)), .none, []⟩]) (.cond (.t 9) .skip (.exit 0))) (.seq (.block 1 (.seq (.draw 10 [⟨(.some 12), (.move (.t 1)), .none, []⟩, ⟨(.some 13), (.move (.t 0)), .none, []⟩, ⟨(.some 14), (.move (.t 5)), .none, []⟩, ⟨(.some 15), (.bin .sub (.t 14) (.c (.int .i64 1))), .none, []⟩, ⟨(.some 16), (.indexAddrS 2 (.t 13) (.t 15)), .none, []⟩, ⟨(.some 17), (.load .true 2 (.t 16)), .none, []⟩, ⟨(.some 18), (.move (.t 0)), .none, []⟩, ⟨(.some 19), (.move (.t 5)), .none, []⟩, ⟨(.some 20), (.indexAddrS 2 (.t 18) (.t 19)), .none, []⟩, ⟨(.some 21), (.load .true 2 (.t 20)), .none, []⟩, ⟨(.some 22), (.call (.t 12) [(.t 17), (.t 21)]), .none, []⟩, ⟨(.some 23), (.un .not (.t 22)), .none, [10]⟩]) (.cond (.t 23) (.seq (.reg [⟨(.some 4), (.move (.c (.bool .false))), .none, []⟩]) .ret) .skip))) (.reg [⟨(.some 10), (.move (.t 5)), .none, []⟩, ⟨(.some 11), (.bin .add (.t 10) (.c (.int .i64 1))), .none, []⟩, ⟨(.some 5), (.move (.t 11)), .none, []⟩])))
noncomputable def L88 : LFunc := ⟨24, (.seq (.reg [⟨(.some 4), (.move (.c (.bool .false))), .none, []⟩]) (.seq (.seq (.reg [⟨(.some 5), (.move (.c (.int .i64 1))), .none, []⟩]) (.block 0 (.loop L88w0))) (.seq (.reg [⟨(.some 4), (.move (.c (.bool .true))), .none, []⟩]) .ret))), [(.t 4)], .false, .none⟩
theorem lp88 : LP 88 = some L88 := by kernel_rfl
noncomputable def L89 : LFunc := ⟨17, (.seq (.reg [⟨(.some 2), (.box (.t 0)), .none, []⟩, ⟨(.some 3), (.box (.t 1)), .none, []⟩, ⟨(.some 4), (.move (.c (.bool .false))), .none, []⟩]) (.seq (.reg [⟨(.some 5), (.fieldAddr 0 (.t 2)), .none, []⟩, ⟨(.some 6), (.load .false 1 (.t 5)), .none, []⟩, ⟨(.some 7), (.fieldAddr 0 (.t 3)), .none, []⟩, ⟨(.some 8), (.load .false 1 (.t 7)), .none, []⟩, ⟨(.some 9), (.bin .lss (.t 6) (.t 8)), .none, []⟩, ⟨(.some 10), (.move (.t 9)), .none, []⟩, ⟨(.some 11), (.fieldAddr 1 (.t 2)), (.some (10, .true)), []⟩, ⟨(.some 12), (.load .false 1 (.t 11)), (.some (10, .true)), []⟩, ⟨(.some 13), (.fieldAddr 1 (.t 3)), (.some (10, .true)), []⟩, ⟨(.some 14), (.load .false 1 (.t 13)), (.some (10, .true)), []⟩, ⟨(.some 15), (.bin .lss (.t 12) (.t 14)), (.some (10, .true)), []⟩, ⟨(.some 16), (.pick (.t 10) (.t 15) (.c (.bool .false))), .none, []⟩, ⟨(.some 4), (.move (.t 16)), .none, []⟩]) .ret)), [(.t 4)], .false, .none⟩
theorem lp89 : LP 89 = some L89 := by kernel_rfl
noncomputable def L90 : LFunc := ⟨6, (.seq (.reg [⟨(.some 2), (.box (.t 0)), .none, []⟩, ⟨(.some 3), (.box (.t 1)), .none, []⟩, ⟨(.some 4), (.move (.c .nilFunc)), .none, []⟩]) (.seq (.reg [⟨(.some 5), (.makeFunc 102 [] [(.t 2), (.t 3)]), .none, []⟩, ⟨(.some 4), (.move (.t 5)), .none, []⟩]) .ret)), [(.t 4)], .false, .none⟩
theorem lp90 : LP 90 = some L90 := by kernel_rfl
noncomputable def L102w0 : LCode := (.seq (.seq (.reg [⟨(.some 6), (.move (.t 4)), .none, []⟩, ⟨(.some 7), (.load .false 1 (.t 1)), .none, []⟩, ⟨(.some 8), (.len .slice (.t 7)), .none, []⟩, ⟨(.some 9), (.bin .lss (.t 6) (.t 8)), .none, []⟩]) (.cond (.t 9) .skip (.exit 0))) (.seq (.block 1 (.seq (.reg [⟨(.some 12), (.load .false 1 (.t 1)), .none, []⟩, ⟨(.some 13), (.move (.t 4)), .none, []⟩, ⟨(.some 14), (.bin .sub (.t 13) (.c (.int .i64 1))), .none, []⟩, ⟨(.some 15), (.move (.t 4)), .none, []⟩, ⟨(.some 16), (.bin .add (.t 15) (.c (.int .i64 1))), .none, []⟩, ⟨(.some 17), (.sliceS 2 (.t 12) (.some (.t 14)) (.some (.t 16))), .none, []⟩, ⟨(.some 18), (.call (.c (.func 65 [] [])) [(.t 17)]), .none, []⟩, ⟨(.some 5), (.alloc [(.int .i64 0), (.int .i64 0)]), .none, []⟩, ⟨.none, (.store 2 (.t 5) (.t 18)), .none, []⟩]) (.seq (.draw 14 [⟨(.some 19), (.load .true 2 (.t 5)), .none, []⟩, ⟨(.some 20), (.load .false 1 (.t 2)), .none, []⟩, ⟨(.some 21), (.call (.c (.func 73 [] [])) [(.t 19), (.t 20)]), .none, []⟩, ⟨(.some 22), (.move (.t 21)), .none, [2]⟩, ⟨(.some 23), (.move (.t 0)), (.some (22, .true)), [2]⟩, ⟨(.some 24), (.load .false 1 (.t 1)), (.some (22, .true)), [2]⟩, ⟨(.some 25), (.move (.t 4)), (.some (22, .true)), [2]⟩, ⟨(.some 26), (.bin .sub (.t 25) (.c (.int .i64 1))), (.some (22, .true)), [2]⟩, ⟨(.some 27), (.indexAddrS 2 (.t 24) (.t 26)), (.some (22, .true)), [2]⟩, ⟨(.some 28), (.load .true 2 (.t 27)), (.some (22, .true)), [2]⟩, ⟨(.some 29), (.load .false 1 (.t 1)), (.some (22, .true)), [2]⟩, ⟨(.some 30), (.move (.t 4)), (.some (22, .true)), [2]⟩, ⟨(.some 31), (.indexAddrS 2 (.t 29) (.t 30)), (.some (22, .true)), [2]⟩, ⟨(.some 32), (.load .true 2 (.t 31)), (.some (22, .true)), [2]⟩, ⟨(.some 33), (.call (.t 23) [(.t 28), (.t 32)]), (.some (22, .true)), [2]⟩, ⟨(.some 34), (.un .not (.t 33)), (.some (22, .true)), [14, 2]⟩, ⟨(.some 35), (.pick (.t 22) (.t 34) (.c (.bool .false))), .none, [14, 2]⟩]) (.cond (.t 35) .ret .skip)))) (.reg [⟨(.some 10), (.move (.t 4)), .none, []⟩, ⟨(.some 11), (.bin .add (.t 10) (.c (.int .i64 1))), .none, []⟩, ⟨(.some 4), (.move (.t 11)), .none, []⟩])))
noncomputable def L102 : LFunc := ⟨36, (.seq (.reg [⟨(.some 4), (.move (.c (.int .i64 1))), .none, []⟩]) (.block 0 (.loop L102w0))), [], .true, .none⟩
theorem lp102 : LP 102 = some L102 := by kernel_rfl
theorem lw12 : LW 12 = some L12 := lw_of rfl lp12
theorem lw30 : LW 30 = some L30 := lw_of rfl lp30
theorem lw31 : LW 31 = some L31 := lw_of rfl lp31
theorem lw32 : LW 32 = some L32 := lw_of rfl lp32
theorem lw33 : LW 33 = some L33 := lw_of rfl lp33
theorem lw50 : LW 50 = some L50 := lw_of rfl lp50
theorem lw63 : LW 63 = some L63 := lw_of rfl lp63
theorem lw65 : LW 65 = some L65 := lw_of rfl lp65
theorem lw66 : LW 66 = some L66 := lw_of rfl lp66
theorem lw86 : LW 86 = some L86 := lw_of rfl lp86
theorem lw87 : LW 87 = some L87 := lw_of rfl lp87
theorem lw88 : LW 88 = some L88 := lw_of rfl lp88
theorem lw89 : LW 89 = some L89 := lw_of rfl lp89
theorem lw90 : LW 90 = some L90 := lw_of rfl lp90
theorem lw102 : LW 102 = some L102 := lw_of rfl lp102
end Go.Hx

/- Layer 3: tables of steam: lists of steps, whether they are valid. -/
namespace Go.Hx
set_option linter.unusedSimpArgs false
set_option linter.unusedVariables false
set_option maxRecDepth 20000
set_option maxHeartbeats 4000000
attribute [local irreducible] W R C thenH inBlockH
--dropu
/- 31 -/
theorem loop31 {fl : Nat} {h0 : Tr HBlk} {n0 : Nat} {Q : HExit → HAct → HS → Prop} {p : Option (Nat × Nat)} {l : List (Int × Int)} {cp : Nat} (hlen : l.length < 1000000) (hfl : fl ≤ n0) (hrow : Row renc 2 h0 n0 p l) :
    ∀ (m i : Nat) (a : HAct) (h : Tr HBlk) (nx : Nat) (v : HV), m + i = l.length → Ext h0 n0 h nx → Out renc 2 n0 h nx v (l.take i) → a.nt = 26 → a.defers = [] → a.tmp 0 = .slice p l.length cp → a.tmp 3 = v → a.tmp 4 = i64 i →
      (∀ a' h' n' v', Ext h0 n0 h' n' → a'.nt = 26 → a'.defers = [] → a'.tmp 3 = v' → Out renc 2 n0 h' n' v' l → Q .normal a' ⟨h', n'⟩) → W LW fl none (.loop L31w0) (inBlockH 0 Q) a ⟨h, nx⟩
  | 0, i, a, h, nx, v, hm, he, ho, hnt, hds, h1, h3, h4, hq => by
    have hle := he.le
    refine w_it (show L31w0 = _ by unfold L31w0; exact rfl) ?_
    repeat' first
     | refine r_nil ?_
     | refine th_n ?_
     | refine th_r ?_
     | refine th_e ?_
     | refine ib_n ?_
     | refine ib_r ?_
     | refine ib_e ?_
     | refine ib_x (by decide) ?_
     | refine w_exit ?_
     | refine w_seq ?_
     | refine w_reg ?_
     | refine w_ret ?_
     | refine w_skip ?_
     | refine w_block ?_
     | refine w_t (by simp (disch:=first|decide|(simp only[zF,zG,hnt, h1, h3, h4];decide)) only [zA,zB,zC,zD,zE,zF,zG,zH,zI,zJ,zK,HV.cells,fl0,fl2,flS,flS1,flI1,flU1,flU2,flF,hnt, h1, h3, h4]; first|done|exact rfl) ?_
     | refine w_f (by simp (disch:=first|decide|(simp only[zF,zG,hnt, h1, h3, h4];decide)) only [zA,zB,zC,zD,zE,zF,zG,zH,zI,zJ,zK,HV.cells,fl0,fl2,flS,flS1,flI1,flU1,flU2,flF,hnt, h1, h3, h4]; first|done|exact rfl) ?_
     | refine r_move (by simp (disch:=first|decide|(simp only[zF,zG,hnt, h1, h3, h4];decide)) only [zA,zB,zC,zD,zE,zF,zG,zH,zI,zJ,zK,HV.cells,fl0,fl2,flS,flS1,flI1,flU1,flU2,flF,hnt, h1, h3, h4]; try exact rfl) ?_
     | refine r_fa (by simp (disch:=first|decide|(simp only[zF,zG,hnt, h1, h3, h4];decide)) only [zA,zB,zC,zD,zE,zF,zG,zH,zI,zJ,zK,HV.cells,fl0,fl2,flS,flS1,flI1,flU1,flU2,flF,hnt, h1, h3, h4]; try exact rfl) ?_
     | refine r_ld1 (by simp (disch:=first|decide|(simp only[zF,zG,hnt, h1, h3, h4];decide)) only [zA,zB,zC,zD,zE,zF,zG,zH,zI,zJ,zK,HV.cells,fl0,fl2,flS,flS1,flI1,flU1,flU2,flF,hnt, h1, h3, h4]; try exact rfl) (by first|assumption|(simp (disch:=omega) only [get_same,get_other,hnt, h1, h3, h4]; first|done|exact rfl)) (by first|assumption|exact ow2 _ _ _ _|exact ow3 _ _ _ _ _ _|rfl|(simp only [zI,zJ,HV.cells,hnt, h1, h3, h4]; exact rfl)) ?_
     | refine r_add (by simp (disch:=first|decide|(simp only[zF,zG,hnt, h1, h3, h4];decide)) only [zA,zB,zC,zD,zE,zF,zG,zH,zI,zJ,zK,HV.cells,fl0,fl2,flS,flS1,flI1,flU1,flU2,flF,hnt, h1, h3, h4]; try exact rfl) (by simp (disch:=first|decide|(simp only[zF,zG,hnt, h1, h3, h4];decide)) only [zA,zB,zC,zD,zE,zF,zG,zH,zI,zJ,zK,HV.cells,fl0,fl2,flS,flS1,flI1,flU1,flU2,flF,hnt, h1, h3, h4]; try exact rfl) (by omega) (by omega) ?_
     | refine r_lss (by simp (disch:=first|decide|(simp only[zF,zG,hnt, h1, h3, h4];decide)) only [zA,zB,zC,zD,zE,zF,zG,zH,zI,zJ,zK,HV.cells,fl0,fl2,flS,flS1,flI1,flU1,flU2,flF,hnt, h1, h3, h4]; try exact rfl) (by simp (disch:=first|decide|(simp only[zF,zG,hnt, h1, h3, h4];decide)) only [zA,zB,zC,zD,zE,zF,zG,zH,zI,zJ,zK,HV.cells,fl0,fl2,flS,flS1,flI1,flU1,flU2,flF,hnt, h1, h3, h4]; try exact rfl) (fun hc => ?_) (fun hc => ?_) <;> (try (exfalso; omega))
     | refine r_len (by simp (disch:=first|decide|(simp only[zF,zG,hnt, h1, h3, h4];decide)) only [zA,zB,zC,zD,zE,zF,zG,zH,zI,zJ,zK,HV.cells,fl0,fl2,flS,flS1,flI1,flU1,flU2,flF,hnt, h1, h3, h4]; try exact rfl) ?_
     | refine r_ixs (by simp (disch:=first|decide|(simp only[zF,zG,hnt, h1, h3, h4];decide)) only [zA,zB,zC,zD,zE,zF,zG,zH,zI,zJ,zK,HV.cells,fl0,fl2,flS,flS1,flI1,flU1,flU2,flF,hnt, h1, h3, h4]; try exact rfl) (by simp (disch:=first|decide|(simp only[zF,zG,hnt, h1, h3, h4];decide)) only [zA,zB,zC,zD,zE,zF,zG,zH,zI,zJ,zK,HV.cells,fl0,fl2,flS,flS1,flI1,flU1,flU2,flF,hnt, h1, h3, h4]; try exact rfl) (by omega) ?_
     | refine r_build (by simp (disch:=first|decide|(simp only[zF,zG,hnt, h1, h3, h4];decide)) only [evParts,List.map_cons,List.map_nil,List.nil_append,List.cons_append,List.append_nil,zA,zB,zC,zD,zE,zF,zG,zH,zI,zJ,zK,HV.cells,fl0,fl2,flS,flS1,flI1,flU1,flU2,flF,hnt, h1, h3, h4]; try exact rfl) ?_
     | refine r_bs (by simp (disch:=first|decide|(simp only[zF,zG,hnt, h1, h3, h4];decide)) only [evParts,List.map_cons,List.map_nil,List.nil_append,List.cons_append,List.append_nil,zA,zB,zC,zD,zE,zF,zG,zH,zI,zJ,zK,HV.cells,fl0,fl2,flS,flS1,flI1,flU1,flU2,flF,hnt, h1, h3, h4]; try exact rfl) ?_
     | refine w_draw (by omega) (by (repeat' first|assumption|refine D.upd ?_ (by omega)|exact D.mono (by assumption) (by omega)) <;> fail) ?_
     | refine d_nil ?_
     | refine d_rest rfl ?_
     | refine d_al2 rfl rfl rfl ?_
     | refine d_bs rfl ?_
     | refine d_box rfl ?_
     | refine d_alloc rfl ?_
     | refine d_one rfl ?_
     | refine d_next (by omega) ?_
     | refine d_laid ?_
     | fail
    rw [List.take_of_length_le (by omega)] at ho
    refine hq _ _ _ v he ?_ ?_ ?_ ho
    all_goals first|(simp only [zL,zM,zF,zG,hnt, hds, h3];done)|(simp (disch:=first|decide|(simp only[zF,zG,hnt, hds, h3];decide)) only [zA,zB,zC,zD,zE,zF,zG,zH,zI,zJ,zK,HV.cells,fl0,fl2,flS,flS1,flI1,flU1,flU2,flF,hnt, hds, h3];first|done|exact rfl)|assumption
  | m + 1, i, a, h, nx, v, hm, he, ho, hnt, hds, h1, h3, h4, hq => by
    have hi : i < l.length := by omega
    have hrow0 := hrow.ext he
    obtain ⟨b, o, cs, kk, rfl, hb, hg, hcs⟩ := hrow0 (by intro e; rw [e] at hi; simp at hi)
    have hy : l[i]? = some l[i] := by simp [hi]
    have e0 := hcs i _ hy
    have hd := he.d
    have hle := he.le
    have ef := take_at e0 (j := 0) (v := i64 l[i].1) rfl
    have eg := take_at e0 (j := 1) (v := i64 l[i].2) rfl
    refine w_it (show L31w0 = _ by unfold L31w0; exact rfl) ?_
    repeat' first
     | refine r_nil ?_
     | refine th_n ?_
     | refine th_r ?_
     | refine th_e ?_
     | refine ib_n ?_
     | refine ib_r ?_
     | refine ib_e ?_
     | refine ib_x (by decide) ?_
     | refine w_exit ?_
     | refine w_seq ?_
     | refine w_reg ?_
     | refine w_ret ?_
     | refine w_skip ?_
     | refine w_block ?_
     | refine w_t (by simp (disch:=first|decide|(simp only[zF,zG,hnt, h1, h3, h4];decide)) only [zA,zB,zC,zD,zE,zF,zG,zH,zI,zJ,zK,HV.cells,fl0,fl2,flS,flS1,flI1,flU1,flU2,flF,hnt, h1, h3, h4]; first|done|exact rfl) ?_
     | refine w_f (by simp (disch:=first|decide|(simp only[zF,zG,hnt, h1, h3, h4];decide)) only [zA,zB,zC,zD,zE,zF,zG,zH,zI,zJ,zK,HV.cells,fl0,fl2,flS,flS1,flI1,flU1,flU2,flF,hnt, h1, h3, h4]; first|done|exact rfl) ?_
     | refine r_move (by simp (disch:=first|decide|(simp only[zF,zG,hnt, h1, h3, h4];decide)) only [zA,zB,zC,zD,zE,zF,zG,zH,zI,zJ,zK,HV.cells,fl0,fl2,flS,flS1,flI1,flU1,flU2,flF,hnt, h1, h3, h4]; try exact rfl) ?_
     | refine r_fa (by simp (disch:=first|decide|(simp only[zF,zG,hnt, h1, h3, h4];decide)) only [zA,zB,zC,zD,zE,zF,zG,zH,zI,zJ,zK,HV.cells,fl0,fl2,flS,flS1,flI1,flU1,flU2,flF,hnt, h1, h3, h4]; try exact rfl) ?_
     | refine r_ld1 (by simp (disch:=first|decide|(simp only[zF,zG,hnt, h1, h3, h4];decide)) only [zA,zB,zC,zD,zE,zF,zG,zH,zI,zJ,zK,HV.cells,fl0,fl2,flS,flS1,flI1,flU1,flU2,flF,hnt, h1, h3, h4]; try exact rfl) (by first|assumption|(simp (disch:=omega) only [get_same,get_other,hnt, h1, h3, h4]; first|done|exact rfl)) (by first|assumption|exact ow2 _ _ _ _|exact ow3 _ _ _ _ _ _|rfl|(simp only [zI,zJ,HV.cells,hnt, h1, h3, h4]; exact rfl)) ?_
     | refine r_add (by simp (disch:=first|decide|(simp only[zF,zG,hnt, h1, h3, h4];decide)) only [zA,zB,zC,zD,zE,zF,zG,zH,zI,zJ,zK,HV.cells,fl0,fl2,flS,flS1,flI1,flU1,flU2,flF,hnt, h1, h3, h4]; try exact rfl) (by simp (disch:=first|decide|(simp only[zF,zG,hnt, h1, h3, h4];decide)) only [zA,zB,zC,zD,zE,zF,zG,zH,zI,zJ,zK,HV.cells,fl0,fl2,flS,flS1,flI1,flU1,flU2,flF,hnt, h1, h3, h4]; try exact rfl) (by omega) (by omega) ?_
     | refine r_lss (by simp (disch:=first|decide|(simp only[zF,zG,hnt, h1, h3, h4];decide)) only [zA,zB,zC,zD,zE,zF,zG,zH,zI,zJ,zK,HV.cells,fl0,fl2,flS,flS1,flI1,flU1,flU2,flF,hnt, h1, h3, h4]; try exact rfl) (by simp (disch:=first|decide|(simp only[zF,zG,hnt, h1, h3, h4];decide)) only [zA,zB,zC,zD,zE,zF,zG,zH,zI,zJ,zK,HV.cells,fl0,fl2,flS,flS1,flI1,flU1,flU2,flF,hnt, h1, h3, h4]; try exact rfl) (fun hc => ?_) (fun hc => ?_) <;> (try (exfalso; omega))
     | refine r_len (by simp (disch:=first|decide|(simp only[zF,zG,hnt, h1, h3, h4];decide)) only [zA,zB,zC,zD,zE,zF,zG,zH,zI,zJ,zK,HV.cells,fl0,fl2,flS,flS1,flI1,flU1,flU2,flF,hnt, h1, h3, h4]; try exact rfl) ?_
     | refine r_ixs (by simp (disch:=first|decide|(simp only[zF,zG,hnt, h1, h3, h4];decide)) only [zA,zB,zC,zD,zE,zF,zG,zH,zI,zJ,zK,HV.cells,fl0,fl2,flS,flS1,flI1,flU1,flU2,flF,hnt, h1, h3, h4]; try exact rfl) (by simp (disch:=first|decide|(simp only[zF,zG,hnt, h1, h3, h4];decide)) only [zA,zB,zC,zD,zE,zF,zG,zH,zI,zJ,zK,HV.cells,fl0,fl2,flS,flS1,flI1,flU1,flU2,flF,hnt, h1, h3, h4]; try exact rfl) (by omega) ?_
     | refine r_build (by simp (disch:=first|decide|(simp only[zF,zG,hnt, h1, h3, h4];decide)) only [evParts,List.map_cons,List.map_nil,List.nil_append,List.cons_append,List.append_nil,zA,zB,zC,zD,zE,zF,zG,zH,zI,zJ,zK,HV.cells,fl0,fl2,flS,flS1,flI1,flU1,flU2,flF,hnt, h1, h3, h4]; try exact rfl) ?_
     | refine r_bs (by simp (disch:=first|decide|(simp only[zF,zG,hnt, h1, h3, h4];decide)) only [evParts,List.map_cons,List.map_nil,List.nil_append,List.cons_append,List.append_nil,zA,zB,zC,zD,zE,zF,zG,zH,zI,zJ,zK,HV.cells,fl0,fl2,flS,flS1,flI1,flU1,flU2,flF,hnt, h1, h3, h4]; try exact rfl) ?_
     | refine w_draw (by omega) (by (repeat' first|assumption|refine D.upd ?_ (by omega)|exact D.mono (by assumption) (by omega)) <;> fail) ?_
     | refine d_nil ?_
     | refine d_rest rfl ?_
     | refine d_al2 rfl rfl rfl ?_
     | refine d_bs rfl ?_
     | refine d_box rfl ?_
     | refine d_alloc rfl ?_
     | refine d_one rfl ?_
     | refine d_next (by omega) ?_
     | refine d_laid ?_
     | fail
    have hln : (l.take i).length = i := by simp; omega
    obtain ⟨v', h', ha, ho', hs', hd'⟩ := Out.app (x := l[i]) (bytes := 16) (fl := fl) renc_len (renc_one _) (by omega) hfl hd ho (by omega) (by omega) (by omega)
    rw [show l.take i ++ [l[i]] = l.take (i + 1) by rw [List.take_add_one, hy]; rfl] at ho'
    refine r_app (by simp (disch:=first|decide|(simp only[zF,zG,hnt, h3];decide)) only [zA,zB,zC,zD,zE,zF,zG,zH,zI,zJ,zK,HV.cells,fl0,fl2,flS,flS1,flI1,flU1,flU2,flF,hnt, h3]; try exact rfl) (by simp (disch:=first|decide|(simp only[zF,zG,hnt];decide)) only [zA,zB,zC,zD,zE,zF,zG,zH,zI,zJ,zK,HV.cells,fl0,fl2,flS,flS1,flI1,flU1,flU2,flF,hnt]; try exact rfl) ha ?_
    repeat' first
     | refine r_nil ?_
     | refine th_n ?_
     | refine th_r ?_
     | refine th_e ?_
     | refine ib_n ?_
     | refine ib_r ?_
     | refine ib_e ?_
     | refine ib_x (by decide) ?_
     | refine w_exit ?_
     | refine w_seq ?_
     | refine w_reg ?_
     | refine w_ret ?_
     | refine w_skip ?_
     | refine w_block ?_
     | refine w_t (by simp (disch:=first|decide|(simp only[zF,zG,hnt, h1, h4];decide)) only [zA,zB,zC,zD,zE,zF,zG,zH,zI,zJ,zK,HV.cells,fl0,fl2,flS,flS1,flI1,flU1,flU2,flF,hnt, h1, h4]; first|done|exact rfl) ?_
     | refine w_f (by simp (disch:=first|decide|(simp only[zF,zG,hnt, h1, h4];decide)) only [zA,zB,zC,zD,zE,zF,zG,zH,zI,zJ,zK,HV.cells,fl0,fl2,flS,flS1,flI1,flU1,flU2,flF,hnt, h1, h4]; first|done|exact rfl) ?_
     | refine r_move (by simp (disch:=first|decide|(simp only[zF,zG,hnt, h1, h4];decide)) only [zA,zB,zC,zD,zE,zF,zG,zH,zI,zJ,zK,HV.cells,fl0,fl2,flS,flS1,flI1,flU1,flU2,flF,hnt, h1, h4]; try exact rfl) ?_
     | refine r_fa (by simp (disch:=first|decide|(simp only[zF,zG,hnt, h1, h4];decide)) only [zA,zB,zC,zD,zE,zF,zG,zH,zI,zJ,zK,HV.cells,fl0,fl2,flS,flS1,flI1,flU1,flU2,flF,hnt, h1, h4]; try exact rfl) ?_
     | refine r_ld1 (by simp (disch:=first|decide|(simp only[zF,zG,hnt, h1, h4];decide)) only [zA,zB,zC,zD,zE,zF,zG,zH,zI,zJ,zK,HV.cells,fl0,fl2,flS,flS1,flI1,flU1,flU2,flF,hnt, h1, h4]; try exact rfl) (by first|assumption|(simp (disch:=omega) only [get_same,get_other,hnt, h1, h4]; first|done|exact rfl)) (by first|assumption|exact ow2 _ _ _ _|exact ow3 _ _ _ _ _ _|rfl|(simp only [zI,zJ,HV.cells,hnt, h1, h4]; exact rfl)) ?_
     | refine r_add (by simp (disch:=first|decide|(simp only[zF,zG,hnt, h1, h4];decide)) only [zA,zB,zC,zD,zE,zF,zG,zH,zI,zJ,zK,HV.cells,fl0,fl2,flS,flS1,flI1,flU1,flU2,flF,hnt, h1, h4]; try exact rfl) (by simp (disch:=first|decide|(simp only[zF,zG,hnt, h1, h4];decide)) only [zA,zB,zC,zD,zE,zF,zG,zH,zI,zJ,zK,HV.cells,fl0,fl2,flS,flS1,flI1,flU1,flU2,flF,hnt, h1, h4]; try exact rfl) (by omega) (by omega) ?_
     | refine r_lss (by simp (disch:=first|decide|(simp only[zF,zG,hnt, h1, h4];decide)) only [zA,zB,zC,zD,zE,zF,zG,zH,zI,zJ,zK,HV.cells,fl0,fl2,flS,flS1,flI1,flU1,flU2,flF,hnt, h1, h4]; try exact rfl) (by simp (disch:=first|decide|(simp only[zF,zG,hnt, h1, h4];decide)) only [zA,zB,zC,zD,zE,zF,zG,zH,zI,zJ,zK,HV.cells,fl0,fl2,flS,flS1,flI1,flU1,flU2,flF,hnt, h1, h4]; try exact rfl) (fun hc => ?_) (fun hc => ?_) <;> (try (exfalso; omega))
     | refine r_len (by simp (disch:=first|decide|(simp only[zF,zG,hnt, h1, h4];decide)) only [zA,zB,zC,zD,zE,zF,zG,zH,zI,zJ,zK,HV.cells,fl0,fl2,flS,flS1,flI1,flU1,flU2,flF,hnt, h1, h4]; try exact rfl) ?_
     | refine r_ixs (by simp (disch:=first|decide|(simp only[zF,zG,hnt, h1, h4];decide)) only [zA,zB,zC,zD,zE,zF,zG,zH,zI,zJ,zK,HV.cells,fl0,fl2,flS,flS1,flI1,flU1,flU2,flF,hnt, h1, h4]; try exact rfl) (by simp (disch:=first|decide|(simp only[zF,zG,hnt, h1, h4];decide)) only [zA,zB,zC,zD,zE,zF,zG,zH,zI,zJ,zK,HV.cells,fl0,fl2,flS,flS1,flI1,flU1,flU2,flF,hnt, h1, h4]; try exact rfl) (by omega) ?_
     | refine r_build (by simp (disch:=first|decide|(simp only[zF,zG,hnt, h1, h4];decide)) only [evParts,List.map_cons,List.map_nil,List.nil_append,List.cons_append,List.append_nil,zA,zB,zC,zD,zE,zF,zG,zH,zI,zJ,zK,HV.cells,fl0,fl2,flS,flS1,flI1,flU1,flU2,flF,hnt, h1, h4]; try exact rfl) ?_
     | refine r_bs (by simp (disch:=first|decide|(simp only[zF,zG,hnt, h1, h4];decide)) only [evParts,List.map_cons,List.map_nil,List.nil_append,List.cons_append,List.append_nil,zA,zB,zC,zD,zE,zF,zG,zH,zI,zJ,zK,HV.cells,fl0,fl2,flS,flS1,flI1,flU1,flU2,flF,hnt, h1, h4]; try exact rfl) ?_
     | refine w_draw (by omega) (by (repeat' first|assumption|refine D.upd ?_ (by omega)|exact D.mono (by assumption) (by omega)) <;> fail) ?_
     | refine d_nil ?_
     | refine d_rest rfl ?_
     | refine d_al2 rfl rfl rfl ?_
     | refine d_bs rfl ?_
     | refine d_box rfl ?_
     | refine d_alloc rfl ?_
     | refine d_one rfl ?_
     | refine d_next (by omega) ?_
     | refine d_laid ?_
     | fail
    have e2 : Ext h0 n0 h' (nx + 2) := ⟨by omega, hd', fun b hb => (hs' b hb).trans (he.same b hb)⟩
    refine loop31 (cp := cp) hlen hfl hrow m (i + 1) _ _ _ v' (by omega) e2 ho' ?_ ?_ ?_ ?_ ?_ hq
    all_goals first|(simp only [zL,zM,zF,zG,hnt, hds, h1, h4];done)|(simp (disch:=first|decide|(simp only[zF,zG,hnt, hds, h1, h4];decide)) only [zA,zB,zC,zD,zE,zF,zG,zH,zI,zJ,zK,HV.cells,fl0,fl2,flS,flS1,flI1,flU1,flU2,flF,hnt, hds, h1, h4];first|done|exact rfl)|assumption
theorem c_Table {fl : Nat} {h : Tr HBlk} {nx : Nat} (hd : D h nx) {p : Option (Nat × Nat)} {l : List (Int × Int)} {n cp : Nat} (hn : n = l.length) (hlen : l.length < 1000000) (hrow : Row renc 2 h nx p l) :
    C LW fl 31 [.slice p n cp] ⟨h, nx⟩ (fun v σ' => ∃ p h' n', v = .slice p l.length l.length ∧ σ' = ⟨h', n'⟩ ∧ Ext h nx h' n' ∧ (l ≠ [] → ∃ b, nx ≤ b ∧ b < n' ∧ p = some (b, 0) ∧ ∃ k, h'.get b = some (.cells (l.flatMap renc) k))) := by
  subst hn
  refine c_in lw31 rfl rfl rfl ?_
  dsimp only [L31]
  repeat' first
   | refine r_nil ?_
   | refine th_n ?_
   | refine th_r ?_
   | refine th_e ?_
   | refine ib_n ?_
   | refine ib_r ?_
   | refine ib_e ?_
   | refine ib_x (by decide) ?_
   | refine w_exit ?_
   | refine w_seq ?_
   | refine w_reg ?_
   | refine w_ret ?_
   | refine w_skip ?_
   | refine w_block ?_
   | refine w_t (by simp (disch:=first|decide|(simp only[zF,zG];decide)) only [zA,zB,zC,zD,zE,zF,zG,zH,zI,zJ,zK,HV.cells,fl0,fl2,flS,flS1,flI1,flU1,flU2,flF]; first|done|exact rfl) ?_
   | refine w_f (by simp (disch:=first|decide|(simp only[zF,zG];decide)) only [zA,zB,zC,zD,zE,zF,zG,zH,zI,zJ,zK,HV.cells,fl0,fl2,flS,flS1,flI1,flU1,flU2,flF]; first|done|exact rfl) ?_
   | refine r_move (by simp (disch:=first|decide|(simp only[zF,zG];decide)) only [zA,zB,zC,zD,zE,zF,zG,zH,zI,zJ,zK,HV.cells,fl0,fl2,flS,flS1,flI1,flU1,flU2,flF]; try exact rfl) ?_
   | refine r_fa (by simp (disch:=first|decide|(simp only[zF,zG];decide)) only [zA,zB,zC,zD,zE,zF,zG,zH,zI,zJ,zK,HV.cells,fl0,fl2,flS,flS1,flI1,flU1,flU2,flF]; try exact rfl) ?_
   | refine r_ld1 (by simp (disch:=first|decide|(simp only[zF,zG];decide)) only [zA,zB,zC,zD,zE,zF,zG,zH,zI,zJ,zK,HV.cells,fl0,fl2,flS,flS1,flI1,flU1,flU2,flF]; try exact rfl) (by first|assumption|(simp (disch:=omega) only [get_same,get_other]; first|done|exact rfl)) (by first|assumption|exact ow2 _ _ _ _|exact ow3 _ _ _ _ _ _|rfl|(simp only [zI,zJ,HV.cells]; exact rfl)) ?_
   | refine r_add (by simp (disch:=first|decide|(simp only[zF,zG];decide)) only [zA,zB,zC,zD,zE,zF,zG,zH,zI,zJ,zK,HV.cells,fl0,fl2,flS,flS1,flI1,flU1,flU2,flF]; try exact rfl) (by simp (disch:=first|decide|(simp only[zF,zG];decide)) only [zA,zB,zC,zD,zE,zF,zG,zH,zI,zJ,zK,HV.cells,fl0,fl2,flS,flS1,flI1,flU1,flU2,flF]; try exact rfl) (by omega) (by omega) ?_
   | refine r_lss (by simp (disch:=first|decide|(simp only[zF,zG];decide)) only [zA,zB,zC,zD,zE,zF,zG,zH,zI,zJ,zK,HV.cells,fl0,fl2,flS,flS1,flI1,flU1,flU2,flF]; try exact rfl) (by simp (disch:=first|decide|(simp only[zF,zG];decide)) only [zA,zB,zC,zD,zE,zF,zG,zH,zI,zJ,zK,HV.cells,fl0,fl2,flS,flS1,flI1,flU1,flU2,flF]; try exact rfl) (fun hc => ?_) (fun hc => ?_) <;> (try (exfalso; omega))
   | refine r_len (by simp (disch:=first|decide|(simp only[zF,zG];decide)) only [zA,zB,zC,zD,zE,zF,zG,zH,zI,zJ,zK,HV.cells,fl0,fl2,flS,flS1,flI1,flU1,flU2,flF]; try exact rfl) ?_
   | refine r_ixs (by simp (disch:=first|decide|(simp only[zF,zG];decide)) only [zA,zB,zC,zD,zE,zF,zG,zH,zI,zJ,zK,HV.cells,fl0,fl2,flS,flS1,flI1,flU1,flU2,flF]; try exact rfl) (by simp (disch:=first|decide|(simp only[zF,zG];decide)) only [zA,zB,zC,zD,zE,zF,zG,zH,zI,zJ,zK,HV.cells,fl0,fl2,flS,flS1,flI1,flU1,flU2,flF]; try exact rfl) (by omega) ?_
   | refine r_build (by simp (disch:=first|decide|(simp only[zF,zG];decide)) only [evParts,List.map_cons,List.map_nil,List.nil_append,List.cons_append,List.append_nil,zA,zB,zC,zD,zE,zF,zG,zH,zI,zJ,zK,HV.cells,fl0,fl2,flS,flS1,flI1,flU1,flU2,flF]; try exact rfl) ?_
   | refine r_bs (by simp (disch:=first|decide|(simp only[zF,zG];decide)) only [evParts,List.map_cons,List.map_nil,List.nil_append,List.cons_append,List.append_nil,zA,zB,zC,zD,zE,zF,zG,zH,zI,zJ,zK,HV.cells,fl0,fl2,flS,flS1,flI1,flU1,flU2,flF]; try exact rfl) ?_
   | refine w_draw (by omega) (by (repeat' first|assumption|refine D.upd ?_ (by omega)|exact D.mono (by assumption) (by omega)) <;> fail) ?_
   | refine d_nil ?_
   | refine d_rest rfl ?_
   | refine d_al2 rfl rfl rfl ?_
   | refine d_bs rfl ?_
   | refine d_box rfl ?_
   | refine d_alloc rfl ?_
   | refine d_one rfl ?_
   | refine d_next (by omega) ?_
   | refine d_laid ?_
   | fail
  refine loop31 (cp := cp) hlen (Nat.le_refl _) hrow l.length 0 _ _ _ (.slice none 0 0) (by omega) (Ext.refl hd) Out.nil ?_ ?_ ?_ ?_ ?_ (fun a' h' n' v' g1 g2 g3 g4 g5 => ?_)
  all_goals try first|(simp only [zL,zM,zF,zG];done)|(simp (disch:=first|decide|(simp only[zF,zG];decide)) only [zA,zB,zC,zD,zE,zF,zG,zH,zI,zJ,zK,HV.cells,fl0,fl2,flS,flS1,flI1,flU1,flU2,flF];first|done|exact rfl)|assumption
  repeat' first
   | refine r_nil ?_
   | refine th_n ?_
   | refine th_r ?_
   | refine th_e ?_
   | refine ib_n ?_
   | refine ib_r ?_
   | refine ib_e ?_
   | refine ib_x (by decide) ?_
   | refine w_exit ?_
   | refine w_seq ?_
   | refine w_reg ?_
   | refine w_ret ?_
   | refine w_skip ?_
   | refine w_block ?_
   | refine w_t (by simp (disch:=first|decide|(simp only[zF,zG,g2, g4];decide)) only [zA,zB,zC,zD,zE,zF,zG,zH,zI,zJ,zK,HV.cells,fl0,fl2,flS,flS1,flI1,flU1,flU2,flF,g2, g4]; first|done|exact rfl) ?_
   | refine w_f (by simp (disch:=first|decide|(simp only[zF,zG,g2, g4];decide)) only [zA,zB,zC,zD,zE,zF,zG,zH,zI,zJ,zK,HV.cells,fl0,fl2,flS,flS1,flI1,flU1,flU2,flF,g2, g4]; first|done|exact rfl) ?_
   | refine r_move (by simp (disch:=first|decide|(simp only[zF,zG,g2, g4];decide)) only [zA,zB,zC,zD,zE,zF,zG,zH,zI,zJ,zK,HV.cells,fl0,fl2,flS,flS1,flI1,flU1,flU2,flF,g2, g4]; try exact rfl) ?_
   | refine r_fa (by simp (disch:=first|decide|(simp only[zF,zG,g2, g4];decide)) only [zA,zB,zC,zD,zE,zF,zG,zH,zI,zJ,zK,HV.cells,fl0,fl2,flS,flS1,flI1,flU1,flU2,flF,g2, g4]; try exact rfl) ?_
   | refine r_ld1 (by simp (disch:=first|decide|(simp only[zF,zG,g2, g4];decide)) only [zA,zB,zC,zD,zE,zF,zG,zH,zI,zJ,zK,HV.cells,fl0,fl2,flS,flS1,flI1,flU1,flU2,flF,g2, g4]; try exact rfl) (by first|assumption|(simp (disch:=omega) only [get_same,get_other,g2, g4]; first|done|exact rfl)) (by first|assumption|exact ow2 _ _ _ _|exact ow3 _ _ _ _ _ _|rfl|(simp only [zI,zJ,HV.cells,g2, g4]; exact rfl)) ?_
   | refine r_add (by simp (disch:=first|decide|(simp only[zF,zG,g2, g4];decide)) only [zA,zB,zC,zD,zE,zF,zG,zH,zI,zJ,zK,HV.cells,fl0,fl2,flS,flS1,flI1,flU1,flU2,flF,g2, g4]; try exact rfl) (by simp (disch:=first|decide|(simp only[zF,zG,g2, g4];decide)) only [zA,zB,zC,zD,zE,zF,zG,zH,zI,zJ,zK,HV.cells,fl0,fl2,flS,flS1,flI1,flU1,flU2,flF,g2, g4]; try exact rfl) (by omega) (by omega) ?_
   | refine r_lss (by simp (disch:=first|decide|(simp only[zF,zG,g2, g4];decide)) only [zA,zB,zC,zD,zE,zF,zG,zH,zI,zJ,zK,HV.cells,fl0,fl2,flS,flS1,flI1,flU1,flU2,flF,g2, g4]; try exact rfl) (by simp (disch:=first|decide|(simp only[zF,zG,g2, g4];decide)) only [zA,zB,zC,zD,zE,zF,zG,zH,zI,zJ,zK,HV.cells,fl0,fl2,flS,flS1,flI1,flU1,flU2,flF,g2, g4]; try exact rfl) (fun hc => ?_) (fun hc => ?_) <;> (try (exfalso; omega))
   | refine r_len (by simp (disch:=first|decide|(simp only[zF,zG,g2, g4];decide)) only [zA,zB,zC,zD,zE,zF,zG,zH,zI,zJ,zK,HV.cells,fl0,fl2,flS,flS1,flI1,flU1,flU2,flF,g2, g4]; try exact rfl) ?_
   | refine r_ixs (by simp (disch:=first|decide|(simp only[zF,zG,g2, g4];decide)) only [zA,zB,zC,zD,zE,zF,zG,zH,zI,zJ,zK,HV.cells,fl0,fl2,flS,flS1,flI1,flU1,flU2,flF,g2, g4]; try exact rfl) (by simp (disch:=first|decide|(simp only[zF,zG,g2, g4];decide)) only [zA,zB,zC,zD,zE,zF,zG,zH,zI,zJ,zK,HV.cells,fl0,fl2,flS,flS1,flI1,flU1,flU2,flF,g2, g4]; try exact rfl) (by omega) ?_
   | refine r_build (by simp (disch:=first|decide|(simp only[zF,zG,g2, g4];decide)) only [evParts,List.map_cons,List.map_nil,List.nil_append,List.cons_append,List.append_nil,zA,zB,zC,zD,zE,zF,zG,zH,zI,zJ,zK,HV.cells,fl0,fl2,flS,flS1,flI1,flU1,flU2,flF,g2, g4]; try exact rfl) ?_
   | refine r_bs (by simp (disch:=first|decide|(simp only[zF,zG,g2, g4];decide)) only [evParts,List.map_cons,List.map_nil,List.nil_append,List.cons_append,List.append_nil,zA,zB,zC,zD,zE,zF,zG,zH,zI,zJ,zK,HV.cells,fl0,fl2,flS,flS1,flI1,flU1,flU2,flF,g2, g4]; try exact rfl) ?_
   | refine w_draw (by omega) (by (repeat' first|assumption|refine D.upd ?_ (by omega)|exact D.mono (by assumption) (by omega)) <;> fail) ?_
   | refine d_nil ?_
   | refine d_rest rfl ?_
   | refine d_al2 rfl rfl rfl ?_
   | refine d_bs rfl ?_
   | refine d_box rfl ?_
   | refine d_alloc rfl ?_
   | refine d_one rfl ?_
   | refine d_next (by omega) ?_
   | refine d_laid ?_
   | fail
  refine fin_r (by simp only [zL, g3]) (by simp (disch:=first|decide|(simp only[zF,zG,g2, g4];decide)) only [zA,zB,zC,zD,zE,zF,zG,zH,zI,zJ,zK,HV.cells,fl0,fl2,flS,flS1,flI1,flU1,flU2,flF,g2, g4]; try exact rfl) ?_
  have hle := g1.le
  rcases g5 with ⟨rfl, rfl⟩ | ⟨b, h1, h2, rfl, h4⟩
  · exact ⟨none, h, n', rfl, gc_none, Ext.nx hd hle, fun e => absurd rfl e⟩
  · rw [gc_row h1 h4 (flat_flat renc_flat _)]
    exact ⟨some (b, 0), _, n', rfl, rfl, Ext.set hd (by omega) h1 h2, fun _ => ⟨b, h1, h2, rfl, _, get_same _ _ _⟩⟩
/- 86 -/
theorem loop86 {fl : Nat} {h0 : Tr HBlk} {n0 : Nat} {Q : HExit → HAct → HS → Prop} {p : Option (Nat × Nat)} {l : List (Int × Int)} {cp : Nat} {k : Nat} {first captured : List HV} {P : Int × Int → Prop} [DecidablePred P] (hlen : l.length < 1000000000) (hfl : fl ≤ n0)
    (hf : ∀ r ∈ l, ∀ fl h n, Ext h0 n0 h n → C LW fl k (first ++ [.agg (renc r)] ++ captured) ⟨h, n⟩ (Sc (· = .bool (decide (P r))) ⟨h, n⟩)) :
    ∀ (m i : Nat) (a : HAct) (h : Tr HBlk) (nx : Nat), m + i = l.length → Ext h0 n0 h nx → Row renc 2 h nx p l → a.nt = 18 → a.defers = [] → a.tmp 1 = .func k first captured → a.tmp 7 = .slice p l.length cp → a.tmp 8 = i64 l.length → a.tmp 9 = i64 i →
      (∀ a' h' n', Ext h0 n0 h' n' → a'.nt = 18 → a'.defers = [] → (∀ r ∈ l.drop i, P r) → Q .normal a' ⟨h', n'⟩) →
      (∀ a' h' n', Ext h0 n0 h' n' → a'.nt = 18 → a'.defers = [] → a'.tmp 4 = .bool false → ¬ (∀ r ∈ l.drop i, P r) → Q .ret a' ⟨h', n'⟩) → W LW fl none (.loop L86w0) (inBlockH 0 Q) a ⟨h, nx⟩
  | 0, i, a, h, nx, hm, he, hrow, hnt, hds, h1, h7, h8, h9, hq, hr => by
    have hle := he.le
    refine w_it (show L86w0 = _ by unfold L86w0; exact rfl) ?_
    repeat' first
     | refine r_nil ?_
     | refine th_n ?_
     | refine th_r ?_
     | refine th_e ?_
     | refine ib_n ?_
     | refine ib_r ?_
     | refine ib_e ?_
     | refine ib_x (by decide) ?_
     | refine w_exit ?_
     | refine w_seq ?_
     | refine w_reg ?_
     | refine w_ret ?_
     | refine w_skip ?_
     | refine w_block ?_
     | refine w_t (by simp (disch:=first|decide|(simp only[zF,zG,hnt, h1, h7, h8, h9];decide)) only [zA,zB,zC,zD,zE,zF,zG,zH,zI,zJ,zK,HV.cells,fl0,fl2,flS,flS1,flI1,flU1,flU2,flF,hnt, h1, h7, h8, h9]; first|done|exact rfl) ?_
     | refine w_f (by simp (disch:=first|decide|(simp only[zF,zG,hnt, h1, h7, h8, h9];decide)) only [zA,zB,zC,zD,zE,zF,zG,zH,zI,zJ,zK,HV.cells,fl0,fl2,flS,flS1,flI1,flU1,flU2,flF,hnt, h1, h7, h8, h9]; first|done|exact rfl) ?_
     | refine r_take (by simp (disch:=first|decide|(simp only[zF,zG,hnt, h1, h7, h8, h9];decide)) only [zA,zB,zC,zD,zE,zF,zG,zH,zI,zJ,zK,HV.cells,fl0,fl2,flS,flS1,flI1,flU1,flU2,flF,hnt, h1, h7, h8, h9]; first|done|exact rfl) ?_
     | refine r_drop (by simp (disch:=first|decide|(simp only[zF,zG,Bool.not_true,Bool.not_false,hnt, h1, h7, h8, h9];decide)) only [zA,zB,zC,zD,zE,zF,zG,zH,zI,zJ,zK,HV.cells,fl0,fl2,flS,flS1,flI1,flU1,flU2,flF,Bool.not_true,Bool.not_false,hnt, h1, h7, h8, h9]; first|done|exact rfl) ?_
     | refine r_dropu (by simp (disch:=first|decide|(simp only[zF,zG,hnt, h1, h7, h8, h9];decide)) only [zA,zB,zC,zD,zE,zF,zG,zH,zI,zJ,zK,HV.cells,fl0,fl2,flS,flS1,flI1,flU1,flU2,flF,hnt, h1, h7, h8, h9]; first|done|exact rfl) ?_
     | refine r_move (by simp (disch:=first|decide|(simp only[zF,zG,hnt, h1, h7, h8, h9];decide)) only [zA,zB,zC,zD,zE,zF,zG,zH,zI,zJ,zK,HV.cells,fl0,fl2,flS,flS1,flI1,flU1,flU2,flF,hnt, h1, h7, h8, h9]; try exact rfl) ?_
     | refine r_ldn (by simp (disch:=first|decide|(simp only[zF,zG,hnt, h1, h7, h8, h9];decide)) only [zA,zB,zC,zD,zE,zF,zG,zH,zI,zJ,zK,HV.cells,fl0,fl2,flS,flS1,flI1,flU1,flU2,flF,hnt, h1, h7, h8, h9]; try exact rfl) (by first|assumption|(simp (disch:=omega) only [get_same,get_other,hnt, h1, h7, h8, h9]; first|done|exact rfl)) (by first|assumption|exact ow2 _ _ _ _|exact ow3 _ _ _ _ _ _|rfl|(simp only [zI,zJ,HV.cells,hnt, h1, h7, h8, h9]; exact rfl)) ?_
     | refine r_alloc ?_
     | refine r_st (cs' := _) (by simp (disch:=first|decide|(simp only[zF,zG,hnt, h1, h7, h8, h9];decide)) only [zA,zB,zC,zD,zE,zF,zG,zH,zI,zJ,zK,HV.cells,fl0,fl2,flS,flS1,flI1,flU1,flU2,flF,hnt, h1, h7, h8, h9]; try exact rfl) (by simp (disch:=first|decide|(simp only[zF,zG,hnt, h1, h7, h8, h9];decide)) only [zA,zB,zC,zD,zE,zF,zG,zH,zI,zJ,zK,HV.cells,fl0,fl2,flS,flS1,flI1,flU1,flU2,flF,hnt, h1, h7, h8, h9]; try exact rfl) (by first|assumption|(simp (disch:=omega) only [get_same,get_other,hnt, h1, h7, h8, h9]; first|done|exact rfl)) (by exact True.intro) (by rfl) (by rfl) (by first|assumption|exact ow2 _ _ _ _|exact ow3 _ _ _ _ _ _|rfl|(simp only [zI,zJ,HV.cells,hnt, h1, h7, h8, h9]; exact rfl)) (by omega) ?_
     | refine r_add (by simp (disch:=first|decide|(simp only[zF,zG,hnt, h1, h7, h8, h9];decide)) only [zA,zB,zC,zD,zE,zF,zG,zH,zI,zJ,zK,HV.cells,fl0,fl2,flS,flS1,flI1,flU1,flU2,flF,hnt, h1, h7, h8, h9]; try exact rfl) (by simp (disch:=first|decide|(simp only[zF,zG,hnt, h1, h7, h8, h9];decide)) only [zA,zB,zC,zD,zE,zF,zG,zH,zI,zJ,zK,HV.cells,fl0,fl2,flS,flS1,flI1,flU1,flU2,flF,hnt, h1, h7, h8, h9]; try exact rfl) (by omega) (by omega) ?_
     | refine r_lss (by simp (disch:=first|decide|(simp only[zF,zG,hnt, h1, h7, h8, h9];decide)) only [zA,zB,zC,zD,zE,zF,zG,zH,zI,zJ,zK,HV.cells,fl0,fl2,flS,flS1,flI1,flU1,flU2,flF,hnt, h1, h7, h8, h9]; try exact rfl) (by simp (disch:=first|decide|(simp only[zF,zG,hnt, h1, h7, h8, h9];decide)) only [zA,zB,zC,zD,zE,zF,zG,zH,zI,zJ,zK,HV.cells,fl0,fl2,flS,flS1,flI1,flU1,flU2,flF,hnt, h1, h7, h8, h9]; try exact rfl) (fun hc => ?_) (fun hc => ?_) <;> (try (exfalso; omega))
     | refine r_not1 (by simp (disch:=first|decide|(simp only[zF,zG,hnt, h1, h7, h8, h9];decide)) only [zA,zB,zC,zD,zE,zF,zG,zH,zI,zJ,zK,HV.cells,fl0,fl2,flS,flS1,flI1,flU1,flU2,flF,hnt, h1, h7, h8, h9]; try exact rfl) ?_
     | refine r_len (by simp (disch:=first|decide|(simp only[zF,zG,hnt, h1, h7, h8, h9];decide)) only [zA,zB,zC,zD,zE,zF,zG,zH,zI,zJ,zK,HV.cells,fl0,fl2,flS,flS1,flI1,flU1,flU2,flF,hnt, h1, h7, h8, h9]; try exact rfl) ?_
     | refine r_ixs (by simp (disch:=first|decide|(simp only[zF,zG,hnt, h1, h7, h8, h9];decide)) only [zA,zB,zC,zD,zE,zF,zG,zH,zI,zJ,zK,HV.cells,fl0,fl2,flS,flS1,flI1,flU1,flU2,flF,hnt, h1, h7, h8, h9]; try exact rfl) (by simp (disch:=first|decide|(simp only[zF,zG,hnt, h1, h7, h8, h9];decide)) only [zA,zB,zC,zD,zE,zF,zG,zH,zI,zJ,zK,HV.cells,fl0,fl2,flS,flS1,flI1,flU1,flU2,flF,hnt, h1, h7, h8, h9]; try exact rfl) (by omega) ?_
     | fail
    refine hq _ _ _ he ?_ ?_ (fun r hr => by rw [List.drop_of_length_le (by omega)] at hr; cases hr)
    all_goals first|(simp only [zL,zM,zF,zG,hnt, hds];done)|(simp (disch:=first|decide|(simp only[zF,zG,hnt, hds];decide)) only [zA,zB,zC,zD,zE,zF,zG,zH,zI,zJ,zK,HV.cells,fl0,fl2,flS,flS1,flI1,flU1,flU2,flF,hnt, hds];first|done|exact rfl)|assumption
  | m + 1, i, a, h, nx, hm, he, hrow, hnt, hds, h1, h7, h8, h9, hq, hr => by
    have hi : i < l.length := by omega
    have hrow0 := hrow
    obtain ⟨b, o, cs, kk, rfl, hb, hg, hcs⟩ := hrow (by intro e; rw [e] at hi; simp at hi)
    have hy : l[i]? = some l[i] := by simp [hi]
    have e0 := hcs i _ hy
    have hf' := hf l[i] (List.getElem_mem hi)
    have ow : overwrite [i64 0, i64 0] 0 (HV.agg (renc l[i])).cells = some (renc l[i]) := rfl
    have tk : takeN 2 ((renc l[i]).drop 0) = some (renc l[i]) := rfl
    have hd := he.d
    have hle := he.le
    have hdrop := List.drop_eq_getElem_cons hi
    refine w_it (show L86w0 = _ by unfold L86w0; exact rfl) ?_
    repeat' first
     | refine r_nil ?_
     | refine th_n ?_
     | refine th_r ?_
     | refine th_e ?_
     | refine ib_n ?_
     | refine ib_r ?_
     | refine ib_e ?_
     | refine ib_x (by decide) ?_
     | refine w_exit ?_
     | refine w_seq ?_
     | refine w_reg ?_
     | refine w_ret ?_
     | refine w_skip ?_
     | refine w_block ?_
     | refine w_t (by simp (disch:=first|decide|(simp only[zF,zG,hnt, h1, h7, h8, h9];decide)) only [zA,zB,zC,zD,zE,zF,zG,zH,zI,zJ,zK,HV.cells,fl0,fl2,flS,flS1,flI1,flU1,flU2,flF,hnt, h1, h7, h8, h9]; first|done|exact rfl) ?_
     | refine w_f (by simp (disch:=first|decide|(simp only[zF,zG,hnt, h1, h7, h8, h9];decide)) only [zA,zB,zC,zD,zE,zF,zG,zH,zI,zJ,zK,HV.cells,fl0,fl2,flS,flS1,flI1,flU1,flU2,flF,hnt, h1, h7, h8, h9]; first|done|exact rfl) ?_
     | refine r_take (by simp (disch:=first|decide|(simp only[zF,zG,hnt, h1, h7, h8, h9];decide)) only [zA,zB,zC,zD,zE,zF,zG,zH,zI,zJ,zK,HV.cells,fl0,fl2,flS,flS1,flI1,flU1,flU2,flF,hnt, h1, h7, h8, h9]; first|done|exact rfl) ?_
     | refine r_drop (by simp (disch:=first|decide|(simp only[zF,zG,Bool.not_true,Bool.not_false,hnt, h1, h7, h8, h9];decide)) only [zA,zB,zC,zD,zE,zF,zG,zH,zI,zJ,zK,HV.cells,fl0,fl2,flS,flS1,flI1,flU1,flU2,flF,Bool.not_true,Bool.not_false,hnt, h1, h7, h8, h9]; first|done|exact rfl) ?_
     | refine r_dropu (by simp (disch:=first|decide|(simp only[zF,zG,hnt, h1, h7, h8, h9];decide)) only [zA,zB,zC,zD,zE,zF,zG,zH,zI,zJ,zK,HV.cells,fl0,fl2,flS,flS1,flI1,flU1,flU2,flF,hnt, h1, h7, h8, h9]; first|done|exact rfl) ?_
     | refine r_move (by simp (disch:=first|decide|(simp only[zF,zG,hnt, h1, h7, h8, h9];decide)) only [zA,zB,zC,zD,zE,zF,zG,zH,zI,zJ,zK,HV.cells,fl0,fl2,flS,flS1,flI1,flU1,flU2,flF,hnt, h1, h7, h8, h9]; try exact rfl) ?_
     | refine r_ldn (by simp (disch:=first|decide|(simp only[zF,zG,hnt, h1, h7, h8, h9];decide)) only [zA,zB,zC,zD,zE,zF,zG,zH,zI,zJ,zK,HV.cells,fl0,fl2,flS,flS1,flI1,flU1,flU2,flF,hnt, h1, h7, h8, h9]; try exact rfl) (by first|assumption|(simp (disch:=omega) only [get_same,get_other,hnt, h1, h7, h8, h9]; first|done|exact rfl)) (by first|assumption|exact ow2 _ _ _ _|exact ow3 _ _ _ _ _ _|rfl|(simp only [zI,zJ,HV.cells,hnt, h1, h7, h8, h9]; exact rfl)) ?_
     | refine r_alloc ?_
     | refine r_st (cs' := _) (by simp (disch:=first|decide|(simp only[zF,zG,hnt, h1, h7, h8, h9];decide)) only [zA,zB,zC,zD,zE,zF,zG,zH,zI,zJ,zK,HV.cells,fl0,fl2,flS,flS1,flI1,flU1,flU2,flF,hnt, h1, h7, h8, h9]; try exact rfl) (by simp (disch:=first|decide|(simp only[zF,zG,hnt, h1, h7, h8, h9];decide)) only [zA,zB,zC,zD,zE,zF,zG,zH,zI,zJ,zK,HV.cells,fl0,fl2,flS,flS1,flI1,flU1,flU2,flF,hnt, h1, h7, h8, h9]; try exact rfl) (by first|assumption|(simp (disch:=omega) only [get_same,get_other,hnt, h1, h7, h8, h9]; first|done|exact rfl)) (by exact True.intro) (by rfl) (by rfl) (by first|assumption|exact ow2 _ _ _ _|exact ow3 _ _ _ _ _ _|rfl|(simp only [zI,zJ,HV.cells,hnt, h1, h7, h8, h9]; exact rfl)) (by omega) ?_
     | refine r_add (by simp (disch:=first|decide|(simp only[zF,zG,hnt, h1, h7, h8, h9];decide)) only [zA,zB,zC,zD,zE,zF,zG,zH,zI,zJ,zK,HV.cells,fl0,fl2,flS,flS1,flI1,flU1,flU2,flF,hnt, h1, h7, h8, h9]; try exact rfl) (by simp (disch:=first|decide|(simp only[zF,zG,hnt, h1, h7, h8, h9];decide)) only [zA,zB,zC,zD,zE,zF,zG,zH,zI,zJ,zK,HV.cells,fl0,fl2,flS,flS1,flI1,flU1,flU2,flF,hnt, h1, h7, h8, h9]; try exact rfl) (by omega) (by omega) ?_
     | refine r_lss (by simp (disch:=first|decide|(simp only[zF,zG,hnt, h1, h7, h8, h9];decide)) only [zA,zB,zC,zD,zE,zF,zG,zH,zI,zJ,zK,HV.cells,fl0,fl2,flS,flS1,flI1,flU1,flU2,flF,hnt, h1, h7, h8, h9]; try exact rfl) (by simp (disch:=first|decide|(simp only[zF,zG,hnt, h1, h7, h8, h9];decide)) only [zA,zB,zC,zD,zE,zF,zG,zH,zI,zJ,zK,HV.cells,fl0,fl2,flS,flS1,flI1,flU1,flU2,flF,hnt, h1, h7, h8, h9]; try exact rfl) (fun hc => ?_) (fun hc => ?_) <;> (try (exfalso; omega))
     | refine r_not1 (by simp (disch:=first|decide|(simp only[zF,zG,hnt, h1, h7, h8, h9];decide)) only [zA,zB,zC,zD,zE,zF,zG,zH,zI,zJ,zK,HV.cells,fl0,fl2,flS,flS1,flI1,flU1,flU2,flF,hnt, h1, h7, h8, h9]; try exact rfl) ?_
     | refine r_len (by simp (disch:=first|decide|(simp only[zF,zG,hnt, h1, h7, h8, h9];decide)) only [zA,zB,zC,zD,zE,zF,zG,zH,zI,zJ,zK,HV.cells,fl0,fl2,flS,flS1,flI1,flU1,flU2,flF,hnt, h1, h7, h8, h9]; try exact rfl) ?_
     | refine r_ixs (by simp (disch:=first|decide|(simp only[zF,zG,hnt, h1, h7, h8, h9];decide)) only [zA,zB,zC,zD,zE,zF,zG,zH,zI,zJ,zK,HV.cells,fl0,fl2,flS,flS1,flI1,flU1,flU2,flF,hnt, h1, h7, h8, h9]; try exact rfl) (by simp (disch:=first|decide|(simp only[zF,zG,hnt, h1, h7, h8, h9];decide)) only [zA,zB,zC,zD,zE,zF,zG,zH,zI,zJ,zK,HV.cells,fl0,fl2,flS,flS1,flI1,flU1,flU2,flF,hnt, h1, h7, h8, h9]; try exact rfl) (by omega) ?_
     | refine r_calld (by simp (disch:=first|decide|(simp only[zF,zG,hnt, h1, h7, h8, h9];decide)) only [zA,zB,zC,zD,zE,zF,zG,zH,zI,zJ,zK,HV.cells,fl0,fl2,flS,flS1,flI1,flU1,flU2,flF,hnt, h1, h7, h8, h9]; try exact rfl) (by simp (disch:=first|decide|(simp only[zF,zG,hnt, h1, h7, h8, h9];decide)) only [List.map_cons,List.map_nil,List.nil_append,List.cons_append,List.append_nil,zA,zB,zC,zD,zE,zF,zG,zH,zI,zJ,zK,HV.cells,fl0,fl2,flS,flS1,flI1,flU1,flU2,flF,hnt, h1, h7, h8, h9]; first|done|exact rfl) (hf' _ _ _ (by repeat' first|assumption|refine Ext.put ?_ (by omega) (by omega)|exact Ext.up (by assumption) (by omega)|exact Ext.nx (by assumption) (by omega))) (fun n' hn' hc => ?_) (fun n' hn' hc => ?_) <;> (try (exfalso; omega))
     | fail
    · refine loop86 (cp := cp) hlen hfl hf m (i + 1) _ _ _ (by omega) (by repeat' first|assumption|refine Ext.put ?_ (by omega) (by omega)|exact Ext.up (by assumption) (by omega)|exact Ext.nx (by assumption) (by omega)) (Row.ext hrow0 (h' := _) (n' := _) (by repeat' first|assumption|refine Ext.put ?_ (by omega) (by omega)|exact Ext.up (by assumption) (by omega)|exact Ext.nx (by assumption) (by omega))) ?_ ?_ ?_ ?_ ?_ ?_ (fun a' h' n2 g1 g2 g3 g4 => hq a' h' n2 g1 g2 g3 ?_) (fun a' h' n2 g1 g2 g3 g4 g5 => hr a' h' n2 g1 g2 g3 g4 ?_)
      all_goals try first|(simp only [zL,zM,zF,zG,hnt, hds, h1, h7, h8, h9];done)|(simp (disch:=first|decide|(simp only[zF,zG,hnt, hds, h1, h7, h8, h9];decide)) only [zA,zB,zC,zD,zE,zF,zG,zH,zI,zJ,zK,HV.cells,fl0,fl2,flS,flS1,flI1,flU1,flU2,flF,hnt, hds, h1, h7, h8, h9];first|done|exact rfl)|assumption
      · rw [hdrop]; intro r hr; rcases List.mem_cons.1 hr with e | e
        · rw [e]; exact hc
        · exact g4 r e
      · rw [hdrop]; exact fun e => g5 fun r hr => e r (List.mem_cons_of_mem _ hr)
    · refine hr _ _ _ (by repeat' first|assumption|refine Ext.put ?_ (by omega) (by omega)|exact Ext.up (by assumption) (by omega)|exact Ext.nx (by assumption) (by omega)) ?_ ?_ ?_ (fun e => hc (e _ (by rw [hdrop]; exact List.mem_cons_self ..)))
      all_goals first|(simp only [zL,zM,zF,zG,hnt, hds];done)|(simp (disch:=first|decide|(simp only[zF,zG,hnt, hds];decide)) only [zA,zB,zC,zD,zE,zF,zG,zH,zI,zJ,zK,HV.cells,fl0,fl2,flS,flS1,flI1,flU1,flU2,flF,hnt, hds];first|done|exact rfl)|assumption
theorem c_all86 {fl : Nat} {h : Tr HBlk} {nx : Nat} (hd : D h nx) {p : Option (Nat × Nat)} {l : List (Int × Int)} {n cp : Nat} {k : Nat} {first captured : List HV} {P : Int × Int → Prop} [DecidablePred P] (hn : n = l.length) (hlen : l.length < 1000000000)
    (hrow : Row renc 2 h nx p l) (hf : ∀ r ∈ l, ∀ fl h1 n1, Ext h nx h1 n1 → C LW fl k (first ++ [.agg (renc r)] ++ captured) ⟨h1, n1⟩ (Sc (· = .bool (decide (P r))) ⟨h1, n1⟩)) :
    C LW fl 86 [.slice p n cp, .func k first captured] ⟨h, nx⟩ (Sc (· = .bool (decide (∀ r ∈ l, P r))) ⟨h, nx⟩) := by
  subst hn
  refine c_in lw86 rfl rfl rfl ?_
  dsimp only [L86]
  repeat' first
   | refine r_nil ?_
   | refine th_n ?_
   | refine th_r ?_
   | refine th_e ?_
   | refine ib_n ?_
   | refine ib_r ?_
   | refine ib_e ?_
   | refine ib_x (by decide) ?_
   | refine w_exit ?_
   | refine w_seq ?_
   | refine w_reg ?_
   | refine w_ret ?_
   | refine w_skip ?_
   | refine w_block ?_
   | refine w_t (by simp (disch:=first|decide|(simp only[zF,zG];decide)) only [zA,zB,zC,zD,zE,zF,zG,zH,zI,zJ,zK,HV.cells,fl0,fl2,flS,flS1,flI1,flU1,flU2,flF]; first|done|exact rfl) ?_
   | refine w_f (by simp (disch:=first|decide|(simp only[zF,zG];decide)) only [zA,zB,zC,zD,zE,zF,zG,zH,zI,zJ,zK,HV.cells,fl0,fl2,flS,flS1,flI1,flU1,flU2,flF]; first|done|exact rfl) ?_
   | refine r_take (by simp (disch:=first|decide|(simp only[zF,zG];decide)) only [zA,zB,zC,zD,zE,zF,zG,zH,zI,zJ,zK,HV.cells,fl0,fl2,flS,flS1,flI1,flU1,flU2,flF]; first|done|exact rfl) ?_
   | refine r_drop (by simp (disch:=first|decide|(simp only[zF,zG,Bool.not_true,Bool.not_false];decide)) only [zA,zB,zC,zD,zE,zF,zG,zH,zI,zJ,zK,HV.cells,fl0,fl2,flS,flS1,flI1,flU1,flU2,flF,Bool.not_true,Bool.not_false]; first|done|exact rfl) ?_
   | refine r_dropu (by simp (disch:=first|decide|(simp only[zF,zG];decide)) only [zA,zB,zC,zD,zE,zF,zG,zH,zI,zJ,zK,HV.cells,fl0,fl2,flS,flS1,flI1,flU1,flU2,flF]; first|done|exact rfl) ?_
   | refine r_move (by simp (disch:=first|decide|(simp only[zF,zG];decide)) only [zA,zB,zC,zD,zE,zF,zG,zH,zI,zJ,zK,HV.cells,fl0,fl2,flS,flS1,flI1,flU1,flU2,flF]; try exact rfl) ?_
   | refine r_ldn (by simp (disch:=first|decide|(simp only[zF,zG];decide)) only [zA,zB,zC,zD,zE,zF,zG,zH,zI,zJ,zK,HV.cells,fl0,fl2,flS,flS1,flI1,flU1,flU2,flF]; try exact rfl) (by first|assumption|(simp (disch:=omega) only [get_same,get_other]; first|done|exact rfl)) (by first|assumption|exact ow2 _ _ _ _|exact ow3 _ _ _ _ _ _|rfl|(simp only [zI,zJ,HV.cells]; exact rfl)) ?_
   | refine r_alloc ?_
   | refine r_st (cs' := _) (by simp (disch:=first|decide|(simp only[zF,zG];decide)) only [zA,zB,zC,zD,zE,zF,zG,zH,zI,zJ,zK,HV.cells,fl0,fl2,flS,flS1,flI1,flU1,flU2,flF]; try exact rfl) (by simp (disch:=first|decide|(simp only[zF,zG];decide)) only [zA,zB,zC,zD,zE,zF,zG,zH,zI,zJ,zK,HV.cells,fl0,fl2,flS,flS1,flI1,flU1,flU2,flF]; try exact rfl) (by first|assumption|(simp (disch:=omega) only [get_same,get_other]; first|done|exact rfl)) (by exact True.intro) (by rfl) (by rfl) (by first|assumption|exact ow2 _ _ _ _|exact ow3 _ _ _ _ _ _|rfl|(simp only [zI,zJ,HV.cells]; exact rfl)) (by omega) ?_
   | refine r_add (by simp (disch:=first|decide|(simp only[zF,zG];decide)) only [zA,zB,zC,zD,zE,zF,zG,zH,zI,zJ,zK,HV.cells,fl0,fl2,flS,flS1,flI1,flU1,flU2,flF]; try exact rfl) (by simp (disch:=first|decide|(simp only[zF,zG];decide)) only [zA,zB,zC,zD,zE,zF,zG,zH,zI,zJ,zK,HV.cells,fl0,fl2,flS,flS1,flI1,flU1,flU2,flF]; try exact rfl) (by omega) (by omega) ?_
   | refine r_lss (by simp (disch:=first|decide|(simp only[zF,zG];decide)) only [zA,zB,zC,zD,zE,zF,zG,zH,zI,zJ,zK,HV.cells,fl0,fl2,flS,flS1,flI1,flU1,flU2,flF]; try exact rfl) (by simp (disch:=first|decide|(simp only[zF,zG];decide)) only [zA,zB,zC,zD,zE,zF,zG,zH,zI,zJ,zK,HV.cells,fl0,fl2,flS,flS1,flI1,flU1,flU2,flF]; try exact rfl) (fun hc => ?_) (fun hc => ?_) <;> (try (exfalso; omega))
   | refine r_not1 (by simp (disch:=first|decide|(simp only[zF,zG];decide)) only [zA,zB,zC,zD,zE,zF,zG,zH,zI,zJ,zK,HV.cells,fl0,fl2,flS,flS1,flI1,flU1,flU2,flF]; try exact rfl) ?_
   | refine r_len (by simp (disch:=first|decide|(simp only[zF,zG];decide)) only [zA,zB,zC,zD,zE,zF,zG,zH,zI,zJ,zK,HV.cells,fl0,fl2,flS,flS1,flI1,flU1,flU2,flF]; try exact rfl) ?_
   | refine r_ixs (by simp (disch:=first|decide|(simp only[zF,zG];decide)) only [zA,zB,zC,zD,zE,zF,zG,zH,zI,zJ,zK,HV.cells,fl0,fl2,flS,flS1,flI1,flU1,flU2,flF]; try exact rfl) (by simp (disch:=first|decide|(simp only[zF,zG];decide)) only [zA,zB,zC,zD,zE,zF,zG,zH,zI,zJ,zK,HV.cells,fl0,fl2,flS,flS1,flI1,flU1,flU2,flF]; try exact rfl) (by omega) ?_
   | fail
  refine loop86 (cp := cp) hlen (Nat.le_refl _) hf l.length 0 _ _ _ (by omega) (Ext.refl hd) hrow ?_ ?_ ?_ ?_ ?_ ?_ (fun a' h' n2 g1 g2 g3 g4 => ?_) (fun a' h' n2 g1 g2 g3 g4 g5 => ?_)
  all_goals try first|(simp only [zL,zM,zF,zG];done)|(simp (disch:=first|decide|(simp only[zF,zG];decide)) only [zA,zB,zC,zD,zE,zF,zG,zH,zI,zJ,zK,HV.cells,fl0,fl2,flS,flS1,flI1,flU1,flU2,flF];first|done|exact rfl)|assumption
  · have hle := g1.le
    repeat' first
     | refine r_nil ?_
     | refine th_n ?_
     | refine th_r ?_
     | refine th_e ?_
     | refine ib_n ?_
     | refine ib_r ?_
     | refine ib_e ?_
     | refine ib_x (by decide) ?_
     | refine w_exit ?_
     | refine w_seq ?_
     | refine w_reg ?_
     | refine w_ret ?_
     | refine w_skip ?_
     | refine w_block ?_
     | refine w_t (by simp (disch:=first|decide|(simp only[zF,zG,g2];decide)) only [zA,zB,zC,zD,zE,zF,zG,zH,zI,zJ,zK,HV.cells,fl0,fl2,flS,flS1,flI1,flU1,flU2,flF,g2]; first|done|exact rfl) ?_
     | refine w_f (by simp (disch:=first|decide|(simp only[zF,zG,g2];decide)) only [zA,zB,zC,zD,zE,zF,zG,zH,zI,zJ,zK,HV.cells,fl0,fl2,flS,flS1,flI1,flU1,flU2,flF,g2]; first|done|exact rfl) ?_
     | refine r_take (by simp (disch:=first|decide|(simp only[zF,zG,g2];decide)) only [zA,zB,zC,zD,zE,zF,zG,zH,zI,zJ,zK,HV.cells,fl0,fl2,flS,flS1,flI1,flU1,flU2,flF,g2]; first|done|exact rfl) ?_
     | refine r_drop (by simp (disch:=first|decide|(simp only[zF,zG,Bool.not_true,Bool.not_false,g2];decide)) only [zA,zB,zC,zD,zE,zF,zG,zH,zI,zJ,zK,HV.cells,fl0,fl2,flS,flS1,flI1,flU1,flU2,flF,Bool.not_true,Bool.not_false,g2]; first|done|exact rfl) ?_
     | refine r_dropu (by simp (disch:=first|decide|(simp only[zF,zG,g2];decide)) only [zA,zB,zC,zD,zE,zF,zG,zH,zI,zJ,zK,HV.cells,fl0,fl2,flS,flS1,flI1,flU1,flU2,flF,g2]; first|done|exact rfl) ?_
     | refine r_move (by simp (disch:=first|decide|(simp only[zF,zG,g2];decide)) only [zA,zB,zC,zD,zE,zF,zG,zH,zI,zJ,zK,HV.cells,fl0,fl2,flS,flS1,flI1,flU1,flU2,flF,g2]; try exact rfl) ?_
     | refine r_ldn (by simp (disch:=first|decide|(simp only[zF,zG,g2];decide)) only [zA,zB,zC,zD,zE,zF,zG,zH,zI,zJ,zK,HV.cells,fl0,fl2,flS,flS1,flI1,flU1,flU2,flF,g2]; try exact rfl) (by first|assumption|(simp (disch:=omega) only [get_same,get_other,g2]; first|done|exact rfl)) (by first|assumption|exact ow2 _ _ _ _|exact ow3 _ _ _ _ _ _|rfl|(simp only [zI,zJ,HV.cells,g2]; exact rfl)) ?_
     | refine r_alloc ?_
     | refine r_st (cs' := _) (by simp (disch:=first|decide|(simp only[zF,zG,g2];decide)) only [zA,zB,zC,zD,zE,zF,zG,zH,zI,zJ,zK,HV.cells,fl0,fl2,flS,flS1,flI1,flU1,flU2,flF,g2]; try exact rfl) (by simp (disch:=first|decide|(simp only[zF,zG,g2];decide)) only [zA,zB,zC,zD,zE,zF,zG,zH,zI,zJ,zK,HV.cells,fl0,fl2,flS,flS1,flI1,flU1,flU2,flF,g2]; try exact rfl) (by first|assumption|(simp (disch:=omega) only [get_same,get_other,g2]; first|done|exact rfl)) (by exact True.intro) (by rfl) (by rfl) (by first|assumption|exact ow2 _ _ _ _|exact ow3 _ _ _ _ _ _|rfl|(simp only [zI,zJ,HV.cells,g2]; exact rfl)) (by omega) ?_
     | refine r_add (by simp (disch:=first|decide|(simp only[zF,zG,g2];decide)) only [zA,zB,zC,zD,zE,zF,zG,zH,zI,zJ,zK,HV.cells,fl0,fl2,flS,flS1,flI1,flU1,flU2,flF,g2]; try exact rfl) (by simp (disch:=first|decide|(simp only[zF,zG,g2];decide)) only [zA,zB,zC,zD,zE,zF,zG,zH,zI,zJ,zK,HV.cells,fl0,fl2,flS,flS1,flI1,flU1,flU2,flF,g2]; try exact rfl) (by omega) (by omega) ?_
     | refine r_lss (by simp (disch:=first|decide|(simp only[zF,zG,g2];decide)) only [zA,zB,zC,zD,zE,zF,zG,zH,zI,zJ,zK,HV.cells,fl0,fl2,flS,flS1,flI1,flU1,flU2,flF,g2]; try exact rfl) (by simp (disch:=first|decide|(simp only[zF,zG,g2];decide)) only [zA,zB,zC,zD,zE,zF,zG,zH,zI,zJ,zK,HV.cells,fl0,fl2,flS,flS1,flI1,flU1,flU2,flF,g2]; try exact rfl) (fun hc => ?_) (fun hc => ?_) <;> (try (exfalso; omega))
     | refine r_not1 (by simp (disch:=first|decide|(simp only[zF,zG,g2];decide)) only [zA,zB,zC,zD,zE,zF,zG,zH,zI,zJ,zK,HV.cells,fl0,fl2,flS,flS1,flI1,flU1,flU2,flF,g2]; try exact rfl) ?_
     | refine r_len (by simp (disch:=first|decide|(simp only[zF,zG,g2];decide)) only [zA,zB,zC,zD,zE,zF,zG,zH,zI,zJ,zK,HV.cells,fl0,fl2,flS,flS1,flI1,flU1,flU2,flF,g2]; try exact rfl) ?_
     | refine r_ixs (by simp (disch:=first|decide|(simp only[zF,zG,g2];decide)) only [zA,zB,zC,zD,zE,zF,zG,zH,zI,zJ,zK,HV.cells,fl0,fl2,flS,flS1,flI1,flU1,flU2,flF,g2]; try exact rfl) (by simp (disch:=first|decide|(simp only[zF,zG,g2];decide)) only [zA,zB,zC,zD,zE,zF,zG,zH,zI,zJ,zK,HV.cells,fl0,fl2,flS,flS1,flI1,flU1,flU2,flF,g2]; try exact rfl) (by omega) ?_
     | fail
    refine fin_r (by simp only [zL, g3]) (by simp (disch:=first|decide|(simp only[zF,zG,g2];decide)) only [zA,zB,zC,zD,zE,zF,zG,zH,zI,zJ,zK,HV.cells,fl0,fl2,flS,flS1,flI1,flU1,flU2,flF,g2]; try exact rfl) (sc_flat rfl (by dsimp only; omega) ?_)
    rw [decide_eq_true (by simpa using g4)]
  · have hle := g1.le
    repeat' first
     | refine r_nil ?_
     | refine th_n ?_
     | refine th_r ?_
     | refine th_e ?_
     | refine ib_n ?_
     | refine ib_r ?_
     | refine ib_e ?_
     | refine ib_x (by decide) ?_
     | refine w_exit ?_
     | refine w_seq ?_
     | refine w_reg ?_
     | refine w_ret ?_
     | refine w_skip ?_
     | refine w_block ?_
     | refine w_t (by simp (disch:=first|decide|(simp only[zF,zG,g2];decide)) only [zA,zB,zC,zD,zE,zF,zG,zH,zI,zJ,zK,HV.cells,fl0,fl2,flS,flS1,flI1,flU1,flU2,flF,g2]; first|done|exact rfl) ?_
     | refine w_f (by simp (disch:=first|decide|(simp only[zF,zG,g2];decide)) only [zA,zB,zC,zD,zE,zF,zG,zH,zI,zJ,zK,HV.cells,fl0,fl2,flS,flS1,flI1,flU1,flU2,flF,g2]; first|done|exact rfl) ?_
     | refine r_take (by simp (disch:=first|decide|(simp only[zF,zG,g2];decide)) only [zA,zB,zC,zD,zE,zF,zG,zH,zI,zJ,zK,HV.cells,fl0,fl2,flS,flS1,flI1,flU1,flU2,flF,g2]; first|done|exact rfl) ?_
     | refine r_drop (by simp (disch:=first|decide|(simp only[zF,zG,Bool.not_true,Bool.not_false,g2];decide)) only [zA,zB,zC,zD,zE,zF,zG,zH,zI,zJ,zK,HV.cells,fl0,fl2,flS,flS1,flI1,flU1,flU2,flF,Bool.not_true,Bool.not_false,g2]; first|done|exact rfl) ?_
     | refine r_dropu (by simp (disch:=first|decide|(simp only[zF,zG,g2];decide)) only [zA,zB,zC,zD,zE,zF,zG,zH,zI,zJ,zK,HV.cells,fl0,fl2,flS,flS1,flI1,flU1,flU2,flF,g2]; first|done|exact rfl) ?_
     | refine r_move (by simp (disch:=first|decide|(simp only[zF,zG,g2];decide)) only [zA,zB,zC,zD,zE,zF,zG,zH,zI,zJ,zK,HV.cells,fl0,fl2,flS,flS1,flI1,flU1,flU2,flF,g2]; try exact rfl) ?_
     | refine r_ldn (by simp (disch:=first|decide|(simp only[zF,zG,g2];decide)) only [zA,zB,zC,zD,zE,zF,zG,zH,zI,zJ,zK,HV.cells,fl0,fl2,flS,flS1,flI1,flU1,flU2,flF,g2]; try exact rfl) (by first|assumption|(simp (disch:=omega) only [get_same,get_other,g2]; first|done|exact rfl)) (by first|assumption|exact ow2 _ _ _ _|exact ow3 _ _ _ _ _ _|rfl|(simp only [zI,zJ,HV.cells,g2]; exact rfl)) ?_
     | refine r_alloc ?_
     | refine r_st (cs' := _) (by simp (disch:=first|decide|(simp only[zF,zG,g2];decide)) only [zA,zB,zC,zD,zE,zF,zG,zH,zI,zJ,zK,HV.cells,fl0,fl2,flS,flS1,flI1,flU1,flU2,flF,g2]; try exact rfl) (by simp (disch:=first|decide|(simp only[zF,zG,g2];decide)) only [zA,zB,zC,zD,zE,zF,zG,zH,zI,zJ,zK,HV.cells,fl0,fl2,flS,flS1,flI1,flU1,flU2,flF,g2]; try exact rfl) (by first|assumption|(simp (disch:=omega) only [get_same,get_other,g2]; first|done|exact rfl)) (by exact True.intro) (by rfl) (by rfl) (by first|assumption|exact ow2 _ _ _ _|exact ow3 _ _ _ _ _ _|rfl|(simp only [zI,zJ,HV.cells,g2]; exact rfl)) (by omega) ?_
     | refine r_add (by simp (disch:=first|decide|(simp only[zF,zG,g2];decide)) only [zA,zB,zC,zD,zE,zF,zG,zH,zI,zJ,zK,HV.cells,fl0,fl2,flS,flS1,flI1,flU1,flU2,flF,g2]; try exact rfl) (by simp (disch:=first|decide|(simp only[zF,zG,g2];decide)) only [zA,zB,zC,zD,zE,zF,zG,zH,zI,zJ,zK,HV.cells,fl0,fl2,flS,flS1,flI1,flU1,flU2,flF,g2]; try exact rfl) (by omega) (by omega) ?_
     | refine r_lss (by simp (disch:=first|decide|(simp only[zF,zG,g2];decide)) only [zA,zB,zC,zD,zE,zF,zG,zH,zI,zJ,zK,HV.cells,fl0,fl2,flS,flS1,flI1,flU1,flU2,flF,g2]; try exact rfl) (by simp (disch:=first|decide|(simp only[zF,zG,g2];decide)) only [zA,zB,zC,zD,zE,zF,zG,zH,zI,zJ,zK,HV.cells,fl0,fl2,flS,flS1,flI1,flU1,flU2,flF,g2]; try exact rfl) (fun hc => ?_) (fun hc => ?_) <;> (try (exfalso; omega))
     | refine r_not1 (by simp (disch:=first|decide|(simp only[zF,zG,g2];decide)) only [zA,zB,zC,zD,zE,zF,zG,zH,zI,zJ,zK,HV.cells,fl0,fl2,flS,flS1,flI1,flU1,flU2,flF,g2]; try exact rfl) ?_
     | refine r_len (by simp (disch:=first|decide|(simp only[zF,zG,g2];decide)) only [zA,zB,zC,zD,zE,zF,zG,zH,zI,zJ,zK,HV.cells,fl0,fl2,flS,flS1,flI1,flU1,flU2,flF,g2]; try exact rfl) ?_
     | refine r_ixs (by simp (disch:=first|decide|(simp only[zF,zG,g2];decide)) only [zA,zB,zC,zD,zE,zF,zG,zH,zI,zJ,zK,HV.cells,fl0,fl2,flS,flS1,flI1,flU1,flU2,flF,g2]; try exact rfl) (by simp (disch:=first|decide|(simp only[zF,zG,g2];decide)) only [zA,zB,zC,zD,zE,zF,zG,zH,zI,zJ,zK,HV.cells,fl0,fl2,flS,flS1,flI1,flU1,flU2,flF,g2]; try exact rfl) (by omega) ?_
     | fail
    refine fin_r (by simp only [zL, g3]) (by simp (disch:=first|decide|(simp only[zF,zG,g2, g4];decide)) only [zA,zB,zC,zD,zE,zF,zG,zH,zI,zJ,zK,HV.cells,fl0,fl2,flS,flS1,flI1,flU1,flU2,flF,g2, g4]; try exact rfl) (sc_flat rfl (by dsimp only; omega) ?_)
    rw [decide_eq_false (by simpa using g5)]
def StOk (s : Int × Int) : Prop := (1 ≤ s.1 ∧ s.1 ≤ 2000) ∧ 1 ≤ s.2 ∧ s.2 ≤ 2000
instance (s : Int × Int) : Decidable (StOk s) := by unfold StOk; infer_instance
/- 87 -/
theorem c_stepValid {fl : Nat} {h : Tr HBlk} {nx : Nat} {s : Int × Int} : C LW fl 87 [.agg (renc s)] ⟨h, nx⟩ (Sc (· = .bool (decide (StOk s))) ⟨h, nx⟩) := by
  refine c_in lw87 rfl rfl rfl ?_
  dsimp only [L87]
  repeat' first
   | refine r_nil ?_
   | refine th_n ?_
   | refine th_r ?_
   | refine w_seq ?_
   | refine w_reg ?_
   | refine w_ret ?_
   | refine w_skip ?_
   | refine r_take (by simp (disch:=first|decide|(simp only[zF,zG];decide)) only [zA,zB,zC,zD,zE,zF,zG,zH,zI,zJ,zK,HV.cells,fl0,fl2,flS,flS1,flI1,flU1,flU2,flF]; first|done|exact rfl) ?_
   | refine r_drop (by simp (disch:=first|decide|(simp only[zF,zG,Bool.not_true,Bool.not_false];decide)) only [zA,zB,zC,zD,zE,zF,zG,zH,zI,zJ,zK,HV.cells,fl0,fl2,flS,flS1,flI1,flU1,flU2,flF,Bool.not_true,Bool.not_false]; first|done|exact rfl) ?_
   | refine r_dropu (by simp (disch:=first|decide|(simp only[zF,zG];decide)) only [zA,zB,zC,zD,zE,zF,zG,zH,zI,zJ,zK,HV.cells,fl0,fl2,flS,flS1,flI1,flU1,flU2,flF]; first|done|exact rfl) ?_
   | refine r_move (by simp (disch:=first|decide|(simp only[zF,zG];decide)) only [zA,zB,zC,zD,zE,zF,zG,zH,zI,zJ,zK,HV.cells,fl0,fl2,flS,flS1,flI1,flU1,flU2,flF]; try exact rfl) ?_
   | refine r_fa (by simp (disch:=first|decide|(simp only[zF,zG];decide)) only [zA,zB,zC,zD,zE,zF,zG,zH,zI,zJ,zK,HV.cells,fl0,fl2,flS,flS1,flI1,flU1,flU2,flF]; try exact rfl) ?_
   | refine r_ld1 (by simp (disch:=first|decide|(simp only[zF,zG];decide)) only [zA,zB,zC,zD,zE,zF,zG,zH,zI,zJ,zK,HV.cells,fl0,fl2,flS,flS1,flI1,flU1,flU2,flF]; try exact rfl) (by first|assumption|(simp (disch:=omega) only [get_same,get_other]; first|done|exact rfl)) (by first|assumption|exact ow2 _ _ _ _|exact ow3 _ _ _ _ _ _|rfl|(simp only [zI,zJ,HV.cells]; exact rfl)) ?_
   | refine r_ldn (by simp (disch:=first|decide|(simp only[zF,zG];decide)) only [zA,zB,zC,zD,zE,zF,zG,zH,zI,zJ,zK,HV.cells,fl0,fl2,flS,flS1,flI1,flU1,flU2,flF]; try exact rfl) (by first|assumption|(simp (disch:=omega) only [get_same,get_other]; first|done|exact rfl)) (by first|assumption|exact ow2 _ _ _ _|exact ow3 _ _ _ _ _ _|rfl|(simp only [zI,zJ,HV.cells]; exact rfl)) ?_
   | refine r_box (by simp (disch:=first|decide|(simp only[zF,zG];decide)) only [zA,zB,zC,zD,zE,zF,zG,zH,zI,zJ,zK,HV.cells,fl0,fl2,flS,flS1,flI1,flU1,flU2,flF]; try exact rfl) ?_
   | refine r_alloc ?_
   | refine r_st (cs' := _) (by simp (disch:=first|decide|(simp only[zF,zG];decide)) only [zA,zB,zC,zD,zE,zF,zG,zH,zI,zJ,zK,HV.cells,fl0,fl2,flS,flS1,flI1,flU1,flU2,flF]; try exact rfl) (by simp (disch:=first|decide|(simp only[zF,zG];decide)) only [zA,zB,zC,zD,zE,zF,zG,zH,zI,zJ,zK,HV.cells,fl0,fl2,flS,flS1,flI1,flU1,flU2,flF]; try exact rfl) (by first|assumption|(simp (disch:=omega) only [get_same,get_other]; first|done|exact rfl)) (by exact True.intro) (by rfl) (by rfl) (by first|assumption|exact ow2 _ _ _ _|exact ow3 _ _ _ _ _ _|rfl|(simp only [zI,zJ,HV.cells]; exact rfl)) (by omega) ?_
   | refine r_pt (by simp (disch:=first|decide|(simp only[zF,zG];decide)) only [zA,zB,zC,zD,zE,zF,zG,zH,zI,zJ,zK,HV.cells,fl0,fl2,flS,flS1,flI1,flU1,flU2,flF]; first|done|exact rfl) (by simp (disch:=first|decide|(simp only[zF,zG];decide)) only [zA,zB,zC,zD,zE,zF,zG,zH,zI,zJ,zK,HV.cells,fl0,fl2,flS,flS1,flI1,flU1,flU2,flF]; try exact rfl) ?_
   | refine r_pf (by simp (disch:=first|decide|(simp only[zF,zG];decide)) only [zA,zB,zC,zD,zE,zF,zG,zH,zI,zJ,zK,HV.cells,fl0,fl2,flS,flS1,flI1,flU1,flU2,flF]; first|done|exact rfl) (by simp (disch:=first|decide|(simp only[zF,zG];decide)) only [zA,zB,zC,zD,zE,zF,zG,zH,zI,zJ,zK,HV.cells,fl0,fl2,flS,flS1,flI1,flU1,flU2,flF]; try exact rfl) ?_
   | refine r_build (by simp (disch:=first|decide|(simp only[zF,zG];decide)) only [evParts,List.map_cons,List.map_nil,List.nil_append,List.cons_append,List.append_nil,zA,zB,zC,zD,zE,zF,zG,zH,zI,zJ,zK,HV.cells,fl0,fl2,flS,flS1,flI1,flU1,flU2,flF]; try exact rfl) ?_
   | refine r_calld (by simp (disch:=first|decide|(simp only[zF,zG];decide)) only [zA,zB,zC,zD,zE,zF,zG,zH,zI,zJ,zK,HV.cells,fl0,fl2,flS,flS1,flI1,flU1,flU2,flF]; try exact rfl) (by simp (disch:=first|decide|(simp only[zF,zG];decide)) only [List.map_cons,List.map_nil,List.nil_append,List.cons_append,List.append_nil,zA,zB,zC,zD,zE,zF,zG,zH,zI,zJ,zK,HV.cells,fl0,fl2,flS,flS1,flI1,flU1,flU2,flF]; first|done|exact rfl) c_has (fun n' hn' hc => ?_) (fun n' hn' hc => ?_) <;> (try (exfalso; omega))
   | fail
  all_goals (refine fin_r (by simp only [zL,zM]) (by simp (disch:=first|decide|(simp only[zF,zG];decide)) only [zA,zB,zC,zD,zE,zF,zG,zH,zI,zJ,zK,HV.cells,fl0,fl2,flS,flS1,flI1,flU1,flU2,flF]; try exact rfl) (sc_flat rfl (by dsimp only; omega) ?_); first|rfl|(rw [decide_eq_true (by unfold StOk at *; (try dsimp only at *); omega)])|(rw [decide_eq_false (by unfold StOk at *; (try dsimp only at *); omega)]))
def Pre (s q : Int × Int) : Prop := s.1 < q.1 ∧ s.2 < q.2
instance (s q : Int × Int) : Decidable (Pre s q) := by unfold Pre; infer_instance
/- 89 -/
theorem c_mayPrecede {fl : Nat} {h : Tr HBlk} {nx : Nat} {s q : Int × Int} : C LW fl 89 [.agg (renc s), .agg (renc q)] ⟨h, nx⟩ (Sc (· = .bool (decide (Pre s q))) ⟨h, nx⟩) := by
  refine c_in lw89 rfl rfl rfl ?_
  dsimp only [L89]
  repeat' first
   | refine r_nil ?_
   | refine th_n ?_
   | refine th_r ?_
   | refine w_seq ?_
   | refine w_reg ?_
   | refine w_ret ?_
   | refine w_skip ?_
   | refine r_take (by simp (disch:=first|decide|(simp only[zF,zG];decide)) only [zA,zB,zC,zD,zE,zF,zG,zH,zI,zJ,zK,HV.cells,fl0,fl2,flS,flS1,flI1,flU1,flU2,flF]; first|done|exact rfl) ?_
   | refine r_drop (by simp (disch:=first|decide|(simp only[zF,zG,Bool.not_true,Bool.not_false];decide)) only [zA,zB,zC,zD,zE,zF,zG,zH,zI,zJ,zK,HV.cells,fl0,fl2,flS,flS1,flI1,flU1,flU2,flF,Bool.not_true,Bool.not_false]; first|done|exact rfl) ?_
   | refine r_dropu (by simp (disch:=first|decide|(simp only[zF,zG];decide)) only [zA,zB,zC,zD,zE,zF,zG,zH,zI,zJ,zK,HV.cells,fl0,fl2,flS,flS1,flI1,flU1,flU2,flF]; first|done|exact rfl) ?_
   | refine r_move (by simp (disch:=first|decide|(simp only[zF,zG];decide)) only [zA,zB,zC,zD,zE,zF,zG,zH,zI,zJ,zK,HV.cells,fl0,fl2,flS,flS1,flI1,flU1,flU2,flF]; try exact rfl) ?_
   | refine r_fa (by simp (disch:=first|decide|(simp only[zF,zG];decide)) only [zA,zB,zC,zD,zE,zF,zG,zH,zI,zJ,zK,HV.cells,fl0,fl2,flS,flS1,flI1,flU1,flU2,flF]; try exact rfl) ?_
   | refine r_ld1 (by simp (disch:=first|decide|(simp only[zF,zG];decide)) only [zA,zB,zC,zD,zE,zF,zG,zH,zI,zJ,zK,HV.cells,fl0,fl2,flS,flS1,flI1,flU1,flU2,flF]; try exact rfl) (by first|assumption|(simp (disch:=omega) only [get_same,get_other]; first|done|exact rfl)) (by first|assumption|exact ow2 _ _ _ _|exact ow3 _ _ _ _ _ _|rfl|(simp only [zI,zJ,HV.cells]; exact rfl)) ?_
   | refine r_box (by simp (disch:=first|decide|(simp only[zF,zG];decide)) only [zA,zB,zC,zD,zE,zF,zG,zH,zI,zJ,zK,HV.cells,fl0,fl2,flS,flS1,flI1,flU1,flU2,flF]; try exact rfl) ?_
   | refine r_lss (by simp (disch:=first|decide|(simp only[zF,zG];decide)) only [zA,zB,zC,zD,zE,zF,zG,zH,zI,zJ,zK,HV.cells,fl0,fl2,flS,flS1,flI1,flU1,flU2,flF]; try exact rfl) (by simp (disch:=first|decide|(simp only[zF,zG];decide)) only [zA,zB,zC,zD,zE,zF,zG,zH,zI,zJ,zK,HV.cells,fl0,fl2,flS,flS1,flI1,flU1,flU2,flF]; try exact rfl) (fun hc => ?_) (fun hc => ?_) <;> (try (exfalso; omega))
   | refine r_pt (by simp (disch:=first|decide|(simp only[zF,zG];decide)) only [zA,zB,zC,zD,zE,zF,zG,zH,zI,zJ,zK,HV.cells,fl0,fl2,flS,flS1,flI1,flU1,flU2,flF]; first|done|exact rfl) (by simp (disch:=first|decide|(simp only[zF,zG];decide)) only [zA,zB,zC,zD,zE,zF,zG,zH,zI,zJ,zK,HV.cells,fl0,fl2,flS,flS1,flI1,flU1,flU2,flF]; try exact rfl) ?_
   | refine r_pf (by simp (disch:=first|decide|(simp only[zF,zG];decide)) only [zA,zB,zC,zD,zE,zF,zG,zH,zI,zJ,zK,HV.cells,fl0,fl2,flS,flS1,flI1,flU1,flU2,flF]; first|done|exact rfl) (by simp (disch:=first|decide|(simp only[zF,zG];decide)) only [zA,zB,zC,zD,zE,zF,zG,zH,zI,zJ,zK,HV.cells,fl0,fl2,flS,flS1,flI1,flU1,flU2,flF]; try exact rfl) ?_
   | fail
  all_goals (refine fin_r (by simp only [zL,zM]) (by simp (disch:=first|decide|(simp only[zF,zG];decide)) only [zA,zB,zC,zD,zE,zF,zG,zH,zI,zJ,zK,HV.cells,fl0,fl2,flS,flS1,flI1,flU1,flU2,flF]; try exact rfl) (sc_flat rfl (by dsimp only; omega) ?_); first|rfl|(rw [decide_eq_true (by unfold Pre at *; (try dsimp only at *); omega)])|(rw [decide_eq_false (by unfold Pre at *; (try dsimp only at *); omega)]))
/-- Steps rise. -/
def Ris : List (Int × Int) → Prop
  | s :: q :: l => Pre s q ∧ Ris (q :: l)
  | _ => True
/- 88 -/
theorem loop88 {fl : Nat} {h0 : Tr HBlk} {n0 : Nat} {Q : HExit → HAct → HS → Prop} {p : Option (Nat × Nat)} {l : List (Int × Int)} {cp : Nat} (hlen : l.length < 1000000000) (hfl : fl ≤ n0) (hrow : Row renc 2 h0 n0 p l) :
    ∀ (m j : Nat) (a : HAct) (h : Tr HBlk) (nx : Nat), m + j + 1 = l.length → Ext h0 n0 h nx → a.nt = 24 → a.defers = [] → a.tmp 0 = .slice p l.length cp → a.tmp 1 = .func 89 [] [] → a.tmp 5 = i64 ((j + 1 : Nat) : Int) →
      (∀ a' h' n', Ris (l.drop j) → Ext h0 n0 h' n' → a'.nt = 24 → a'.defers = [] → Q .normal a' ⟨h', n'⟩) →
      (∀ a' h' n', ¬ Ris (l.drop j) → Ext h0 n0 h' n' → a'.nt = 24 → a'.defers = [] → a'.tmp 4 = .bool false → Q .ret a' ⟨h', n'⟩) → W LW fl none (.loop L88w0) (inBlockH 0 Q) a ⟨h, nx⟩
  | 0, j, a, h, nx, hm, he, hnt, hds, t0, t1, t5, hq, hq2 => by
    have hle := he.le
    refine w_it (show L88w0 = _ by unfold L88w0; exact rfl) ?_
    repeat' first
     | refine r_nil ?_
     | refine th_n ?_
     | refine th_r ?_
     | refine th_e ?_
     | refine ib_n ?_
     | refine ib_r ?_
     | refine ib_e ?_
     | refine ib_x (by decide) ?_
     | refine w_exit ?_
     | refine w_seq ?_
     | refine w_reg ?_
     | refine w_ret ?_
     | refine w_skip ?_
     | refine w_block ?_
     | refine w_t (by simp (disch:=first|decide|(simp only[zF,zG,hnt, t0, t1, t5];decide)) only [zA,zB,zC,zD,zE,zF,zG,zH,zI,zJ,zK,HV.cells,fl0,fl2,flS,flS1,flI1,flU1,flU2,flF,hnt, t0, t1, t5]; first|done|exact rfl) ?_
     | refine w_f (by simp (disch:=first|decide|(simp only[zF,zG,hnt, t0, t1, t5];decide)) only [zA,zB,zC,zD,zE,zF,zG,zH,zI,zJ,zK,HV.cells,fl0,fl2,flS,flS1,flI1,flU1,flU2,flF,hnt, t0, t1, t5]; first|done|exact rfl) ?_
     | refine r_take (by simp (disch:=first|decide|(simp only[zF,zG,hnt, t0, t1, t5];decide)) only [zA,zB,zC,zD,zE,zF,zG,zH,zI,zJ,zK,HV.cells,fl0,fl2,flS,flS1,flI1,flU1,flU2,flF,hnt, t0, t1, t5]; first|done|exact rfl) ?_
     | refine r_drop (by simp (disch:=first|decide|(simp only[zF,zG,Bool.not_true,Bool.not_false,hnt, t0, t1, t5];decide)) only [zA,zB,zC,zD,zE,zF,zG,zH,zI,zJ,zK,HV.cells,fl0,fl2,flS,flS1,flI1,flU1,flU2,flF,Bool.not_true,Bool.not_false,hnt, t0, t1, t5]; first|done|exact rfl) ?_
     | refine r_dropu (by simp (disch:=first|decide|(simp only[zF,zG,hnt, t0, t1, t5];decide)) only [zA,zB,zC,zD,zE,zF,zG,zH,zI,zJ,zK,HV.cells,fl0,fl2,flS,flS1,flI1,flU1,flU2,flF,hnt, t0, t1, t5]; first|done|exact rfl) ?_
     | refine r_move (by simp (disch:=first|decide|(simp only[zF,zG,hnt, t0, t1, t5];decide)) only [zA,zB,zC,zD,zE,zF,zG,zH,zI,zJ,zK,HV.cells,fl0,fl2,flS,flS1,flI1,flU1,flU2,flF,hnt, t0, t1, t5]; try exact rfl) ?_
     | refine r_ldn (by simp (disch:=first|decide|(simp only[zF,zG,hnt, t0, t1, t5];decide)) only [zA,zB,zC,zD,zE,zF,zG,zH,zI,zJ,zK,HV.cells,fl0,fl2,flS,flS1,flI1,flU1,flU2,flF,hnt, t0, t1, t5]; try exact rfl) (by first|assumption|(simp (disch:=omega) only [get_same,get_other,hnt, t0, t1, t5]; first|done|exact rfl)) (by first|assumption|exact ow2 _ _ _ _|exact ow3 _ _ _ _ _ _|rfl|(simp only [zI,zJ,HV.cells,hnt, t0, t1, t5]; exact rfl)) ?_
     | refine r_add (by simp (disch:=first|decide|(simp only[zF,zG,hnt, t0, t1, t5];decide)) only [zA,zB,zC,zD,zE,zF,zG,zH,zI,zJ,zK,HV.cells,fl0,fl2,flS,flS1,flI1,flU1,flU2,flF,hnt, t0, t1, t5]; try exact rfl) (by simp (disch:=first|decide|(simp only[zF,zG,hnt, t0, t1, t5];decide)) only [zA,zB,zC,zD,zE,zF,zG,zH,zI,zJ,zK,HV.cells,fl0,fl2,flS,flS1,flI1,flU1,flU2,flF,hnt, t0, t1, t5]; try exact rfl) (by omega) (by omega) ?_
     | refine r_sub (by simp (disch:=first|decide|(simp only[zF,zG,hnt, t0, t1, t5];decide)) only [zA,zB,zC,zD,zE,zF,zG,zH,zI,zJ,zK,HV.cells,fl0,fl2,flS,flS1,flI1,flU1,flU2,flF,hnt, t0, t1, t5]; try exact rfl) (by simp (disch:=first|decide|(simp only[zF,zG,hnt, t0, t1, t5];decide)) only [zA,zB,zC,zD,zE,zF,zG,zH,zI,zJ,zK,HV.cells,fl0,fl2,flS,flS1,flI1,flU1,flU2,flF,hnt, t0, t1, t5]; try exact rfl) (by omega) (by omega) ?_
     | refine r_lss (by simp (disch:=first|decide|(simp only[zF,zG,hnt, t0, t1, t5];decide)) only [zA,zB,zC,zD,zE,zF,zG,zH,zI,zJ,zK,HV.cells,fl0,fl2,flS,flS1,flI1,flU1,flU2,flF,hnt, t0, t1, t5]; try exact rfl) (by simp (disch:=first|decide|(simp only[zF,zG,hnt, t0, t1, t5];decide)) only [zA,zB,zC,zD,zE,zF,zG,zH,zI,zJ,zK,HV.cells,fl0,fl2,flS,flS1,flI1,flU1,flU2,flF,hnt, t0, t1, t5]; try exact rfl) (fun hc => ?_) (fun hc => ?_) <;> (try (exfalso; omega))
     | refine r_not1 (by simp (disch:=first|decide|(simp only[zF,zG,hnt, t0, t1, t5];decide)) only [zA,zB,zC,zD,zE,zF,zG,zH,zI,zJ,zK,HV.cells,fl0,fl2,flS,flS1,flI1,flU1,flU2,flF,hnt, t0, t1, t5]; try exact rfl) ?_
     | refine r_len (by simp (disch:=first|decide|(simp only[zF,zG,hnt, t0, t1, t5];decide)) only [zA,zB,zC,zD,zE,zF,zG,zH,zI,zJ,zK,HV.cells,fl0,fl2,flS,flS1,flI1,flU1,flU2,flF,hnt, t0, t1, t5]; try exact rfl) ?_
     | refine r_ixs (by simp (disch:=first|decide|(simp only[zF,zG,hnt, t0, t1, t5];decide)) only [zA,zB,zC,zD,zE,zF,zG,zH,zI,zJ,zK,HV.cells,fl0,fl2,flS,flS1,flI1,flU1,flU2,flF,hnt, t0, t1, t5]; try exact rfl) (by simp (disch:=first|decide|(simp only[zF,zG,hnt, t0, t1, t5];decide)) only [zA,zB,zC,zD,zE,zF,zG,zH,zI,zJ,zK,HV.cells,fl0,fl2,flS,flS1,flI1,flU1,flU2,flF,hnt, t0, t1, t5]; try exact rfl) (by omega) ?_
     | refine w_draw (by omega) (by (repeat' first|assumption|refine D.upd ?_ (by omega)|exact D.mono (by assumption) (by omega)) <;> fail) ?_
     | refine d_nil ?_
     | refine d_rest rfl ?_
     | refine d_al2 rfl rfl rfl ?_
     | refine d_bs rfl ?_
     | refine d_box rfl ?_
     | refine d_alloc rfl ?_
     | refine d_one rfl ?_
     | refine d_next (by omega) ?_
     | refine d_laid ?_
     | fail
    have e : Ris (l.drop j) := by
      have : (l.drop j).length = 1 := by rw [List.length_drop]; omega
      match l.drop j, this with
      | [s], _ => trivial
    refine hq _ _ _ e he ?_ ?_
    all_goals first|(simp only [zL,zM,zF,zG,hnt, hds];done)|(simp (disch:=first|decide|(simp only[zF,zG,hnt, hds];decide)) only [zA,zB,zC,zD,zE,zF,zG,zH,zI,zJ,zK,HV.cells,fl0,fl2,flS,flS1,flI1,flU1,flU2,flF,hnt, hds];first|done|exact rfl)|assumption
  | m + 1, j, a, h, nx, hm, he, hnt, hds, t0, t1, t5, hq, hq2 => by
    have hle := he.le
    have hd := he.d
    have hrow0 := hrow.ext he
    obtain ⟨b, o, cs, kk, rfl, hb, hg, hcs⟩ := hrow0 (by intro e; rw [e] at hm; simp at hm)
    have hy : l[j]? = some l[j] := by simp [show j < l.length by omega]
    have hz : l[j + 1]? = some l[j + 1] := by simp [show j + 1 < l.length by omega]
    have e0 := hcs j _ hy
    have e1 := hcs (j + 1) _ hz
    have ed : l.drop j = l[j] :: l[j + 1] :: l.drop (j + 2) := by rw [List.drop_eq_getElem_cons (show j < l.length by omega), List.drop_eq_getElem_cons (show j + 1 < l.length by omega)]
    have ed1 : l.drop (j + 1) = l[j + 1] :: l.drop (j + 2) := by rw [List.drop_eq_getElem_cons (show j + 1 < l.length by omega)]
    have ej : ((j + 1 : Nat) : Int) - 1 = (j : Int) := by omega
    have cP : ∀ fl h' n', C LW fl 89 [.agg (renc l[j]), .agg (renc l[j + 1])] ⟨h', n'⟩ (Sc (· = .bool (decide (Pre l[j] l[j + 1]))) ⟨h', n'⟩) := fun fl h' n' => c_mayPrecede
    refine w_it (show L88w0 = _ by unfold L88w0; exact rfl) ?_
    repeat' first
     | refine r_nil ?_
     | refine th_n ?_
     | refine th_r ?_
     | refine th_e ?_
     | refine ib_n ?_
     | refine ib_r ?_
     | refine ib_e ?_
     | refine ib_x (by decide) ?_
     | refine w_exit ?_
     | refine w_seq ?_
     | refine w_reg ?_
     | refine w_ret ?_
     | refine w_skip ?_
     | refine w_block ?_
     | refine w_t (by simp (disch:=first|decide|(simp only[zF,zG,hnt, t0, t1, t5, hg, ej];decide)) only [zA,zB,zC,zD,zE,zF,zG,zH,zI,zJ,zK,HV.cells,fl0,fl2,flS,flS1,flI1,flU1,flU2,flF,hnt, t0, t1, t5, hg, ej]; first|done|exact rfl) ?_
     | refine w_f (by simp (disch:=first|decide|(simp only[zF,zG,hnt, t0, t1, t5, hg, ej];decide)) only [zA,zB,zC,zD,zE,zF,zG,zH,zI,zJ,zK,HV.cells,fl0,fl2,flS,flS1,flI1,flU1,flU2,flF,hnt, t0, t1, t5, hg, ej]; first|done|exact rfl) ?_
     | refine r_take (by simp (disch:=first|decide|(simp only[zF,zG,hnt, t0, t1, t5, hg, ej];decide)) only [zA,zB,zC,zD,zE,zF,zG,zH,zI,zJ,zK,HV.cells,fl0,fl2,flS,flS1,flI1,flU1,flU2,flF,hnt, t0, t1, t5, hg, ej]; first|done|exact rfl) ?_
     | refine r_drop (by simp (disch:=first|decide|(simp only[zF,zG,Bool.not_true,Bool.not_false,hnt, t0, t1, t5, hg, ej];decide)) only [zA,zB,zC,zD,zE,zF,zG,zH,zI,zJ,zK,HV.cells,fl0,fl2,flS,flS1,flI1,flU1,flU2,flF,Bool.not_true,Bool.not_false,hnt, t0, t1, t5, hg, ej]; first|done|exact rfl) ?_
     | refine r_dropu (by simp (disch:=first|decide|(simp only[zF,zG,hnt, t0, t1, t5, hg, ej];decide)) only [zA,zB,zC,zD,zE,zF,zG,zH,zI,zJ,zK,HV.cells,fl0,fl2,flS,flS1,flI1,flU1,flU2,flF,hnt, t0, t1, t5, hg, ej]; first|done|exact rfl) ?_
     | refine r_move (by simp (disch:=first|decide|(simp only[zF,zG,hnt, t0, t1, t5, hg, ej];decide)) only [zA,zB,zC,zD,zE,zF,zG,zH,zI,zJ,zK,HV.cells,fl0,fl2,flS,flS1,flI1,flU1,flU2,flF,hnt, t0, t1, t5, hg, ej]; try exact rfl) ?_
     | refine r_ldn (by simp (disch:=first|decide|(simp only[zF,zG,hnt, t0, t1, t5, hg, ej];decide)) only [zA,zB,zC,zD,zE,zF,zG,zH,zI,zJ,zK,HV.cells,fl0,fl2,flS,flS1,flI1,flU1,flU2,flF,hnt, t0, t1, t5, hg, ej]; try exact rfl) (by first|assumption|(simp (disch:=omega) only [get_same,get_other,hnt, t0, t1, t5, hg, ej]; first|done|exact rfl)) (by first|assumption|exact ow2 _ _ _ _|exact ow3 _ _ _ _ _ _|rfl|(simp only [zI,zJ,HV.cells,hnt, t0, t1, t5, hg, ej]; exact rfl)) ?_
     | refine r_add (by simp (disch:=first|decide|(simp only[zF,zG,hnt, t0, t1, t5, hg, ej];decide)) only [zA,zB,zC,zD,zE,zF,zG,zH,zI,zJ,zK,HV.cells,fl0,fl2,flS,flS1,flI1,flU1,flU2,flF,hnt, t0, t1, t5, hg, ej]; try exact rfl) (by simp (disch:=first|decide|(simp only[zF,zG,hnt, t0, t1, t5, hg, ej];decide)) only [zA,zB,zC,zD,zE,zF,zG,zH,zI,zJ,zK,HV.cells,fl0,fl2,flS,flS1,flI1,flU1,flU2,flF,hnt, t0, t1, t5, hg, ej]; try exact rfl) (by omega) (by omega) ?_
     | refine r_sub (by simp (disch:=first|decide|(simp only[zF,zG,hnt, t0, t1, t5, hg, ej];decide)) only [zA,zB,zC,zD,zE,zF,zG,zH,zI,zJ,zK,HV.cells,fl0,fl2,flS,flS1,flI1,flU1,flU2,flF,hnt, t0, t1, t5, hg, ej]; try exact rfl) (by simp (disch:=first|decide|(simp only[zF,zG,hnt, t0, t1, t5, hg, ej];decide)) only [zA,zB,zC,zD,zE,zF,zG,zH,zI,zJ,zK,HV.cells,fl0,fl2,flS,flS1,flI1,flU1,flU2,flF,hnt, t0, t1, t5, hg, ej]; try exact rfl) (by omega) (by omega) ?_
     | refine r_lss (by simp (disch:=first|decide|(simp only[zF,zG,hnt, t0, t1, t5, hg, ej];decide)) only [zA,zB,zC,zD,zE,zF,zG,zH,zI,zJ,zK,HV.cells,fl0,fl2,flS,flS1,flI1,flU1,flU2,flF,hnt, t0, t1, t5, hg, ej]; try exact rfl) (by simp (disch:=first|decide|(simp only[zF,zG,hnt, t0, t1, t5, hg, ej];decide)) only [zA,zB,zC,zD,zE,zF,zG,zH,zI,zJ,zK,HV.cells,fl0,fl2,flS,flS1,flI1,flU1,flU2,flF,hnt, t0, t1, t5, hg, ej]; try exact rfl) (fun hc => ?_) (fun hc => ?_) <;> (try (exfalso; omega))
     | refine r_not1 (by simp (disch:=first|decide|(simp only[zF,zG,hnt, t0, t1, t5, hg, ej];decide)) only [zA,zB,zC,zD,zE,zF,zG,zH,zI,zJ,zK,HV.cells,fl0,fl2,flS,flS1,flI1,flU1,flU2,flF,hnt, t0, t1, t5, hg, ej]; try exact rfl) ?_
     | refine r_len (by simp (disch:=first|decide|(simp only[zF,zG,hnt, t0, t1, t5, hg, ej];decide)) only [zA,zB,zC,zD,zE,zF,zG,zH,zI,zJ,zK,HV.cells,fl0,fl2,flS,flS1,flI1,flU1,flU2,flF,hnt, t0, t1, t5, hg, ej]; try exact rfl) ?_
     | refine r_ixs (by simp (disch:=first|decide|(simp only[zF,zG,hnt, t0, t1, t5, hg, ej];decide)) only [zA,zB,zC,zD,zE,zF,zG,zH,zI,zJ,zK,HV.cells,fl0,fl2,flS,flS1,flI1,flU1,flU2,flF,hnt, t0, t1, t5, hg, ej]; try exact rfl) (by simp (disch:=first|decide|(simp only[zF,zG,hnt, t0, t1, t5, hg, ej];decide)) only [zA,zB,zC,zD,zE,zF,zG,zH,zI,zJ,zK,HV.cells,fl0,fl2,flS,flS1,flI1,flU1,flU2,flF,hnt, t0, t1, t5, hg, ej]; try exact rfl) (by omega) ?_
     | refine r_calld (by simp (disch:=first|decide|(simp only[zF,zG,hnt, t0, t1, t5, hg, ej];decide)) only [zA,zB,zC,zD,zE,zF,zG,zH,zI,zJ,zK,HV.cells,fl0,fl2,flS,flS1,flI1,flU1,flU2,flF,hnt, t0, t1, t5, hg, ej]; try exact rfl) (by simp (disch:=first|decide|(simp only[zF,zG,hnt, t0, t1, t5, hg, ej];decide)) only [List.map_cons,List.map_nil,List.nil_append,List.cons_append,List.append_nil,zA,zB,zC,zD,zE,zF,zG,zH,zI,zJ,zK,HV.cells,fl0,fl2,flS,flS1,flI1,flU1,flU2,flF,hnt, t0, t1, t5, hg, ej]; first|done|exact rfl) (cP _ _ _) (fun n' hn' hc => ?_) (fun n' hn' hc => ?_) <;> (try (exfalso; omega))
     | refine w_draw (by omega) (by (repeat' first|assumption|refine D.upd ?_ (by omega)|exact D.mono (by assumption) (by omega)) <;> fail) ?_
     | refine d_nil ?_
     | refine d_rest rfl ?_
     | refine d_al2 rfl rfl rfl ?_
     | refine d_bs rfl ?_
     | refine d_box rfl ?_
     | refine d_alloc rfl ?_
     | refine d_one rfl ?_
     | refine d_next (by omega) ?_
     | refine d_laid ?_
     | fail
    · refine loop88 (cp := cp) hlen hfl hrow m (j + 1) _ _ _ (by omega) (he.up (by omega)) ?_ ?_ ?_ ?_ ?_ (fun a' h' n' g => hq a' h' n' (by rw [ed]; rw [ed1] at g; exact ⟨hc, g⟩)) (fun a' h' n' g => hq2 a' h' n' (by rw [ed]; rw [ed1] at g; exact fun e => g e.2))
      all_goals first|(simp only [zL,zM,zF,zG,hnt, hds, t0, t1, t5];done)|(simp (disch:=first|decide|(simp only[zF,zG,hnt, hds, t0, t1, t5];decide)) only [zA,zB,zC,zD,zE,zF,zG,zH,zI,zJ,zK,HV.cells,fl0,fl2,flS,flS1,flI1,flU1,flU2,flF,hnt, hds, t0, t1, t5];first|done|exact rfl)|assumption
    · refine hq2 _ _ _ (by rw [ed]; exact fun e => hc e.1) (he.up (by omega)) ?_ ?_ ?_
      all_goals first|(simp only [zL,zM,zF,zG,hnt, hds];done)|(simp (disch:=first|decide|(simp only[zF,zG,hnt, hds];decide)) only [zA,zB,zC,zD,zE,zF,zG,zH,zI,zJ,zK,HV.cells,fl0,fl2,flS,flS1,flI1,flU1,flU2,flF,hnt, hds];first|done|exact rfl)|assumption
end Go.Hx

/- Layer 3: whether a table is valid; between which pressures it lies. -/
namespace Go.Hx
set_option linter.unusedSimpArgs false
set_option linter.unusedVariables false
set_option maxRecDepth 20000
set_option maxHeartbeats 4000000
attribute [local irreducible] W R C thenH inBlockH
--dropu
instance decRis : ∀ l : List (Int × Int), Decidable (Ris l)
  | [] => .isTrue trivial
  | [_] => .isTrue trivial
  | s :: q :: l => match decRis (q :: l) with
    | .isTrue h => if g : Pre s q then .isTrue ⟨g, h⟩ else .isFalse fun e => g e.1
    | .isFalse h => .isFalse fun e => h e.2
/- 88 -/
theorem c_inOrder {fl : Nat} {h : Tr HBlk} {nx : Nat} (hd : D h nx) {p : Option (Nat × Nat)} {l : List (Int × Int)} {n cp : Nat} (hn : n = l.length) (hlen : l.length < 1000000000) (hrow : Row renc 2 h nx p l) :
    C LW fl 88 [.slice p n cp, .func 89 [] []] ⟨h, nx⟩ (Sc (· = .bool (decide (Ris l))) ⟨h, nx⟩) := by
  subst hn
  refine c_in lw88 rfl rfl rfl ?_
  dsimp only [L88]
  by_cases h0 : l.length = 0
  · have hl0 : l = [] := List.eq_nil_of_length_eq_zero h0
    repeat' first
     | refine r_nil ?_
     | refine th_n ?_
     | refine th_r ?_
     | refine th_e ?_
     | refine ib_n ?_
     | refine ib_r ?_
     | refine ib_e ?_
     | refine ib_x (by decide) ?_
     | refine w_exit ?_
     | refine w_seq ?_
     | refine w_reg ?_
     | refine w_ret ?_
     | refine w_skip ?_
     | refine w_block ?_
     | refine w_t (by simp (disch:=first|decide|(simp only[zF,zG];decide)) only [zA,zB,zC,zD,zE,zF,zG,zH,zI,zJ,zK,HV.cells,fl0,fl2,flS,flS1,flI1,flU1,flU2,flF]; first|done|exact rfl) ?_
     | refine w_f (by simp (disch:=first|decide|(simp only[zF,zG];decide)) only [zA,zB,zC,zD,zE,zF,zG,zH,zI,zJ,zK,HV.cells,fl0,fl2,flS,flS1,flI1,flU1,flU2,flF]; first|done|exact rfl) ?_
     | refine r_take (by simp (disch:=first|decide|(simp only[zF,zG];decide)) only [zA,zB,zC,zD,zE,zF,zG,zH,zI,zJ,zK,HV.cells,fl0,fl2,flS,flS1,flI1,flU1,flU2,flF]; first|done|exact rfl) ?_
     | refine r_drop (by simp (disch:=first|decide|(simp only[zF,zG,Bool.not_true,Bool.not_false];decide)) only [zA,zB,zC,zD,zE,zF,zG,zH,zI,zJ,zK,HV.cells,fl0,fl2,flS,flS1,flI1,flU1,flU2,flF,Bool.not_true,Bool.not_false]; first|done|exact rfl) ?_
     | refine r_dropu (by simp (disch:=first|decide|(simp only[zF,zG];decide)) only [zA,zB,zC,zD,zE,zF,zG,zH,zI,zJ,zK,HV.cells,fl0,fl2,flS,flS1,flI1,flU1,flU2,flF]; first|done|exact rfl) ?_
     | refine r_move (by simp (disch:=first|decide|(simp only[zF,zG];decide)) only [zA,zB,zC,zD,zE,zF,zG,zH,zI,zJ,zK,HV.cells,fl0,fl2,flS,flS1,flI1,flU1,flU2,flF]; try exact rfl) ?_
     | refine r_ldn (by simp (disch:=first|decide|(simp only[zF,zG];decide)) only [zA,zB,zC,zD,zE,zF,zG,zH,zI,zJ,zK,HV.cells,fl0,fl2,flS,flS1,flI1,flU1,flU2,flF]; try exact rfl) (by first|assumption|(simp (disch:=omega) only [get_same,get_other]; first|done|exact rfl)) (by first|assumption|exact ow2 _ _ _ _|exact ow3 _ _ _ _ _ _|rfl|(simp only [zI,zJ,HV.cells]; exact rfl)) ?_
     | refine r_add (by simp (disch:=first|decide|(simp only[zF,zG];decide)) only [zA,zB,zC,zD,zE,zF,zG,zH,zI,zJ,zK,HV.cells,fl0,fl2,flS,flS1,flI1,flU1,flU2,flF]; try exact rfl) (by simp (disch:=first|decide|(simp only[zF,zG];decide)) only [zA,zB,zC,zD,zE,zF,zG,zH,zI,zJ,zK,HV.cells,fl0,fl2,flS,flS1,flI1,flU1,flU2,flF]; try exact rfl) (by omega) (by omega) ?_
     | refine r_sub (by simp (disch:=first|decide|(simp only[zF,zG];decide)) only [zA,zB,zC,zD,zE,zF,zG,zH,zI,zJ,zK,HV.cells,fl0,fl2,flS,flS1,flI1,flU1,flU2,flF]; try exact rfl) (by simp (disch:=first|decide|(simp only[zF,zG];decide)) only [zA,zB,zC,zD,zE,zF,zG,zH,zI,zJ,zK,HV.cells,fl0,fl2,flS,flS1,flI1,flU1,flU2,flF]; try exact rfl) (by omega) (by omega) ?_
     | refine r_lss (by simp (disch:=first|decide|(simp only[zF,zG];decide)) only [zA,zB,zC,zD,zE,zF,zG,zH,zI,zJ,zK,HV.cells,fl0,fl2,flS,flS1,flI1,flU1,flU2,flF]; try exact rfl) (by simp (disch:=first|decide|(simp only[zF,zG];decide)) only [zA,zB,zC,zD,zE,zF,zG,zH,zI,zJ,zK,HV.cells,fl0,fl2,flS,flS1,flI1,flU1,flU2,flF]; try exact rfl) (fun hc => ?_) (fun hc => ?_) <;> (try (exfalso; omega))
     | refine r_not1 (by simp (disch:=first|decide|(simp only[zF,zG];decide)) only [zA,zB,zC,zD,zE,zF,zG,zH,zI,zJ,zK,HV.cells,fl0,fl2,flS,flS1,flI1,flU1,flU2,flF]; try exact rfl) ?_
     | refine r_len (by simp (disch:=first|decide|(simp only[zF,zG];decide)) only [zA,zB,zC,zD,zE,zF,zG,zH,zI,zJ,zK,HV.cells,fl0,fl2,flS,flS1,flI1,flU1,flU2,flF]; try exact rfl) ?_
     | refine r_ixs (by simp (disch:=first|decide|(simp only[zF,zG];decide)) only [zA,zB,zC,zD,zE,zF,zG,zH,zI,zJ,zK,HV.cells,fl0,fl2,flS,flS1,flI1,flU1,flU2,flF]; try exact rfl) (by simp (disch:=first|decide|(simp only[zF,zG];decide)) only [zA,zB,zC,zD,zE,zF,zG,zH,zI,zJ,zK,HV.cells,fl0,fl2,flS,flS1,flI1,flU1,flU2,flF]; try exact rfl) (by omega) ?_
     | refine w_draw (by omega) (by (repeat' first|assumption|refine D.upd ?_ (by omega)|exact D.mono (by assumption) (by omega)) <;> fail) ?_
     | refine d_nil ?_
     | refine d_rest rfl ?_
     | refine d_al2 rfl rfl rfl ?_
     | refine d_bs rfl ?_
     | refine d_box rfl ?_
     | refine d_alloc rfl ?_
     | refine d_one rfl ?_
     | refine d_next (by omega) ?_
     | refine d_laid ?_
     | fail
    refine w_it (show L88w0 = _ by unfold L88w0; exact rfl) ?_
    repeat' first
     | refine r_nil ?_
     | refine th_n ?_
     | refine th_r ?_
     | refine th_e ?_
     | refine ib_n ?_
     | refine ib_r ?_
     | refine ib_e ?_
     | refine ib_x (by decide) ?_
     | refine w_exit ?_
     | refine w_seq ?_
     | refine w_reg ?_
     | refine w_ret ?_
     | refine w_skip ?_
     | refine w_block ?_
     | refine w_t (by simp (disch:=first|decide|(simp only[zF,zG];decide)) only [zA,zB,zC,zD,zE,zF,zG,zH,zI,zJ,zK,HV.cells,fl0,fl2,flS,flS1,flI1,flU1,flU2,flF]; first|done|exact rfl) ?_
     | refine w_f (by simp (disch:=first|decide|(simp only[zF,zG];decide)) only [zA,zB,zC,zD,zE,zF,zG,zH,zI,zJ,zK,HV.cells,fl0,fl2,flS,flS1,flI1,flU1,flU2,flF]; first|done|exact rfl) ?_
     | refine r_take (by simp (disch:=first|decide|(simp only[zF,zG];decide)) only [zA,zB,zC,zD,zE,zF,zG,zH,zI,zJ,zK,HV.cells,fl0,fl2,flS,flS1,flI1,flU1,flU2,flF]; first|done|exact rfl) ?_
     | refine r_drop (by simp (disch:=first|decide|(simp only[zF,zG,Bool.not_true,Bool.not_false];decide)) only [zA,zB,zC,zD,zE,zF,zG,zH,zI,zJ,zK,HV.cells,fl0,fl2,flS,flS1,flI1,flU1,flU2,flF,Bool.not_true,Bool.not_false]; first|done|exact rfl) ?_
     | refine r_dropu (by simp (disch:=first|decide|(simp only[zF,zG];decide)) only [zA,zB,zC,zD,zE,zF,zG,zH,zI,zJ,zK,HV.cells,fl0,fl2,flS,flS1,flI1,flU1,flU2,flF]; first|done|exact rfl) ?_
     | refine r_move (by simp (disch:=first|decide|(simp only[zF,zG];decide)) only [zA,zB,zC,zD,zE,zF,zG,zH,zI,zJ,zK,HV.cells,fl0,fl2,flS,flS1,flI1,flU1,flU2,flF]; try exact rfl) ?_
     | refine r_ldn (by simp (disch:=first|decide|(simp only[zF,zG];decide)) only [zA,zB,zC,zD,zE,zF,zG,zH,zI,zJ,zK,HV.cells,fl0,fl2,flS,flS1,flI1,flU1,flU2,flF]; try exact rfl) (by first|assumption|(simp (disch:=omega) only [get_same,get_other]; first|done|exact rfl)) (by first|assumption|exact ow2 _ _ _ _|exact ow3 _ _ _ _ _ _|rfl|(simp only [zI,zJ,HV.cells]; exact rfl)) ?_
     | refine r_add (by simp (disch:=first|decide|(simp only[zF,zG];decide)) only [zA,zB,zC,zD,zE,zF,zG,zH,zI,zJ,zK,HV.cells,fl0,fl2,flS,flS1,flI1,flU1,flU2,flF]; try exact rfl) (by simp (disch:=first|decide|(simp only[zF,zG];decide)) only [zA,zB,zC,zD,zE,zF,zG,zH,zI,zJ,zK,HV.cells,fl0,fl2,flS,flS1,flI1,flU1,flU2,flF]; try exact rfl) (by omega) (by omega) ?_
     | refine r_sub (by simp (disch:=first|decide|(simp only[zF,zG];decide)) only [zA,zB,zC,zD,zE,zF,zG,zH,zI,zJ,zK,HV.cells,fl0,fl2,flS,flS1,flI1,flU1,flU2,flF]; try exact rfl) (by simp (disch:=first|decide|(simp only[zF,zG];decide)) only [zA,zB,zC,zD,zE,zF,zG,zH,zI,zJ,zK,HV.cells,fl0,fl2,flS,flS1,flI1,flU1,flU2,flF]; try exact rfl) (by omega) (by omega) ?_
     | refine r_lss (by simp (disch:=first|decide|(simp only[zF,zG];decide)) only [zA,zB,zC,zD,zE,zF,zG,zH,zI,zJ,zK,HV.cells,fl0,fl2,flS,flS1,flI1,flU1,flU2,flF]; try exact rfl) (by simp (disch:=first|decide|(simp only[zF,zG];decide)) only [zA,zB,zC,zD,zE,zF,zG,zH,zI,zJ,zK,HV.cells,fl0,fl2,flS,flS1,flI1,flU1,flU2,flF]; try exact rfl) (fun hc => ?_) (fun hc => ?_) <;> (try (exfalso; omega))
     | refine r_not1 (by simp (disch:=first|decide|(simp only[zF,zG];decide)) only [zA,zB,zC,zD,zE,zF,zG,zH,zI,zJ,zK,HV.cells,fl0,fl2,flS,flS1,flI1,flU1,flU2,flF]; try exact rfl) ?_
     | refine r_len (by simp (disch:=first|decide|(simp only[zF,zG];decide)) only [zA,zB,zC,zD,zE,zF,zG,zH,zI,zJ,zK,HV.cells,fl0,fl2,flS,flS1,flI1,flU1,flU2,flF]; try exact rfl) ?_
     | refine r_ixs (by simp (disch:=first|decide|(simp only[zF,zG];decide)) only [zA,zB,zC,zD,zE,zF,zG,zH,zI,zJ,zK,HV.cells,fl0,fl2,flS,flS1,flI1,flU1,flU2,flF]; try exact rfl) (by simp (disch:=first|decide|(simp only[zF,zG];decide)) only [zA,zB,zC,zD,zE,zF,zG,zH,zI,zJ,zK,HV.cells,fl0,fl2,flS,flS1,flI1,flU1,flU2,flF]; try exact rfl) (by omega) ?_
     | refine w_draw (by omega) (by (repeat' first|assumption|refine D.upd ?_ (by omega)|exact D.mono (by assumption) (by omega)) <;> fail) ?_
     | refine d_nil ?_
     | refine d_rest rfl ?_
     | refine d_al2 rfl rfl rfl ?_
     | refine d_bs rfl ?_
     | refine d_box rfl ?_
     | refine d_alloc rfl ?_
     | refine d_one rfl ?_
     | refine d_next (by omega) ?_
     | refine d_laid ?_
     | fail
    refine fin_r (by simp only [zL,zM]) (by simp (disch:=first|decide|(simp only[zF,zG];decide)) only [zA,zB,zC,zD,zE,zF,zG,zH,zI,zJ,zK,HV.cells,fl0,fl2,flS,flS1,flI1,flU1,flU2,flF]; try exact rfl) (sc_flat rfl (by dsimp only; omega) ?_)
    rw [hl0]
    rfl
  repeat' first
   | refine r_nil ?_
   | refine th_n ?_
   | refine th_r ?_
   | refine th_e ?_
   | refine ib_n ?_
   | refine ib_r ?_
   | refine ib_e ?_
   | refine ib_x (by decide) ?_
   | refine w_exit ?_
   | refine w_seq ?_
   | refine w_reg ?_
   | refine w_ret ?_
   | refine w_skip ?_
   | refine w_block ?_
   | refine w_t (by simp (disch:=first|decide|(simp only[zF,zG];decide)) only [zA,zB,zC,zD,zE,zF,zG,zH,zI,zJ,zK,HV.cells,fl0,fl2,flS,flS1,flI1,flU1,flU2,flF]; first|done|exact rfl) ?_
   | refine w_f (by simp (disch:=first|decide|(simp only[zF,zG];decide)) only [zA,zB,zC,zD,zE,zF,zG,zH,zI,zJ,zK,HV.cells,fl0,fl2,flS,flS1,flI1,flU1,flU2,flF]; first|done|exact rfl) ?_
   | refine r_take (by simp (disch:=first|decide|(simp only[zF,zG];decide)) only [zA,zB,zC,zD,zE,zF,zG,zH,zI,zJ,zK,HV.cells,fl0,fl2,flS,flS1,flI1,flU1,flU2,flF]; first|done|exact rfl) ?_
   | refine r_drop (by simp (disch:=first|decide|(simp only[zF,zG,Bool.not_true,Bool.not_false];decide)) only [zA,zB,zC,zD,zE,zF,zG,zH,zI,zJ,zK,HV.cells,fl0,fl2,flS,flS1,flI1,flU1,flU2,flF,Bool.not_true,Bool.not_false]; first|done|exact rfl) ?_
   | refine r_dropu (by simp (disch:=first|decide|(simp only[zF,zG];decide)) only [zA,zB,zC,zD,zE,zF,zG,zH,zI,zJ,zK,HV.cells,fl0,fl2,flS,flS1,flI1,flU1,flU2,flF]; first|done|exact rfl) ?_
   | refine r_move (by simp (disch:=first|decide|(simp only[zF,zG];decide)) only [zA,zB,zC,zD,zE,zF,zG,zH,zI,zJ,zK,HV.cells,fl0,fl2,flS,flS1,flI1,flU1,flU2,flF]; try exact rfl) ?_
   | refine r_ldn (by simp (disch:=first|decide|(simp only[zF,zG];decide)) only [zA,zB,zC,zD,zE,zF,zG,zH,zI,zJ,zK,HV.cells,fl0,fl2,flS,flS1,flI1,flU1,flU2,flF]; try exact rfl) (by first|assumption|(simp (disch:=omega) only [get_same,get_other]; first|done|exact rfl)) (by first|assumption|exact ow2 _ _ _ _|exact ow3 _ _ _ _ _ _|rfl|(simp only [zI,zJ,HV.cells]; exact rfl)) ?_
   | refine r_add (by simp (disch:=first|decide|(simp only[zF,zG];decide)) only [zA,zB,zC,zD,zE,zF,zG,zH,zI,zJ,zK,HV.cells,fl0,fl2,flS,flS1,flI1,flU1,flU2,flF]; try exact rfl) (by simp (disch:=first|decide|(simp only[zF,zG];decide)) only [zA,zB,zC,zD,zE,zF,zG,zH,zI,zJ,zK,HV.cells,fl0,fl2,flS,flS1,flI1,flU1,flU2,flF]; try exact rfl) (by omega) (by omega) ?_
   | refine r_sub (by simp (disch:=first|decide|(simp only[zF,zG];decide)) only [zA,zB,zC,zD,zE,zF,zG,zH,zI,zJ,zK,HV.cells,fl0,fl2,flS,flS1,flI1,flU1,flU2,flF]; try exact rfl) (by simp (disch:=first|decide|(simp only[zF,zG];decide)) only [zA,zB,zC,zD,zE,zF,zG,zH,zI,zJ,zK,HV.cells,fl0,fl2,flS,flS1,flI1,flU1,flU2,flF]; try exact rfl) (by omega) (by omega) ?_
   | refine r_lss (by simp (disch:=first|decide|(simp only[zF,zG];decide)) only [zA,zB,zC,zD,zE,zF,zG,zH,zI,zJ,zK,HV.cells,fl0,fl2,flS,flS1,flI1,flU1,flU2,flF]; try exact rfl) (by simp (disch:=first|decide|(simp only[zF,zG];decide)) only [zA,zB,zC,zD,zE,zF,zG,zH,zI,zJ,zK,HV.cells,fl0,fl2,flS,flS1,flI1,flU1,flU2,flF]; try exact rfl) (fun hc => ?_) (fun hc => ?_) <;> (try (exfalso; omega))
   | refine r_not1 (by simp (disch:=first|decide|(simp only[zF,zG];decide)) only [zA,zB,zC,zD,zE,zF,zG,zH,zI,zJ,zK,HV.cells,fl0,fl2,flS,flS1,flI1,flU1,flU2,flF]; try exact rfl) ?_
   | refine r_len (by simp (disch:=first|decide|(simp only[zF,zG];decide)) only [zA,zB,zC,zD,zE,zF,zG,zH,zI,zJ,zK,HV.cells,fl0,fl2,flS,flS1,flI1,flU1,flU2,flF]; try exact rfl) ?_
   | refine r_ixs (by simp (disch:=first|decide|(simp only[zF,zG];decide)) only [zA,zB,zC,zD,zE,zF,zG,zH,zI,zJ,zK,HV.cells,fl0,fl2,flS,flS1,flI1,flU1,flU2,flF]; try exact rfl) (by simp (disch:=first|decide|(simp only[zF,zG];decide)) only [zA,zB,zC,zD,zE,zF,zG,zH,zI,zJ,zK,HV.cells,fl0,fl2,flS,flS1,flI1,flU1,flU2,flF]; try exact rfl) (by omega) ?_
   | refine w_draw (by omega) (by (repeat' first|assumption|refine D.upd ?_ (by omega)|exact D.mono (by assumption) (by omega)) <;> fail) ?_
   | refine d_nil ?_
   | refine d_rest rfl ?_
   | refine d_al2 rfl rfl rfl ?_
   | refine d_bs rfl ?_
   | refine d_box rfl ?_
   | refine d_alloc rfl ?_
   | refine d_one rfl ?_
   | refine d_next (by omega) ?_
   | refine d_laid ?_
   | fail
  refine loop88 (h0 := h) (n0 := nx) (l := l) (p := p) (cp := cp) hlen (by omega) hrow (l.length - 1) 0 _ _ _ (by omega) (Ext.refl hd) ?_ ?_ ?_ ?_ ?_ (fun a' h' n' g0 g1 g2 g3 => ?_) (fun a' h' n' g0 g1 g2 g3 g4 => ?_)
  all_goals try first|(simp only [zL,zM,zF,zG];done)|(simp (disch:=first|decide|(simp only[zF,zG];decide)) only [zA,zB,zC,zD,zE,zF,zG,zH,zI,zJ,zK,HV.cells,fl0,fl2,flS,flS1,flI1,flU1,flU2,flF];first|done|exact rfl)|assumption
  · have hle := g1.le
    repeat' first
     | refine r_nil ?_
     | refine th_n ?_
     | refine th_r ?_
     | refine th_e ?_
     | refine ib_n ?_
     | refine ib_r ?_
     | refine ib_e ?_
     | refine ib_x (by decide) ?_
     | refine w_exit ?_
     | refine w_seq ?_
     | refine w_reg ?_
     | refine w_ret ?_
     | refine w_skip ?_
     | refine w_block ?_
     | refine w_t (by simp (disch:=first|decide|(simp only[zF,zG,g2];decide)) only [zA,zB,zC,zD,zE,zF,zG,zH,zI,zJ,zK,HV.cells,fl0,fl2,flS,flS1,flI1,flU1,flU2,flF,g2]; first|done|exact rfl) ?_
     | refine w_f (by simp (disch:=first|decide|(simp only[zF,zG,g2];decide)) only [zA,zB,zC,zD,zE,zF,zG,zH,zI,zJ,zK,HV.cells,fl0,fl2,flS,flS1,flI1,flU1,flU2,flF,g2]; first|done|exact rfl) ?_
     | refine r_take (by simp (disch:=first|decide|(simp only[zF,zG,g2];decide)) only [zA,zB,zC,zD,zE,zF,zG,zH,zI,zJ,zK,HV.cells,fl0,fl2,flS,flS1,flI1,flU1,flU2,flF,g2]; first|done|exact rfl) ?_
     | refine r_drop (by simp (disch:=first|decide|(simp only[zF,zG,Bool.not_true,Bool.not_false,g2];decide)) only [zA,zB,zC,zD,zE,zF,zG,zH,zI,zJ,zK,HV.cells,fl0,fl2,flS,flS1,flI1,flU1,flU2,flF,Bool.not_true,Bool.not_false,g2]; first|done|exact rfl) ?_
     | refine r_dropu (by simp (disch:=first|decide|(simp only[zF,zG,g2];decide)) only [zA,zB,zC,zD,zE,zF,zG,zH,zI,zJ,zK,HV.cells,fl0,fl2,flS,flS1,flI1,flU1,flU2,flF,g2]; first|done|exact rfl) ?_
     | refine r_move (by simp (disch:=first|decide|(simp only[zF,zG,g2];decide)) only [zA,zB,zC,zD,zE,zF,zG,zH,zI,zJ,zK,HV.cells,fl0,fl2,flS,flS1,flI1,flU1,flU2,flF,g2]; try exact rfl) ?_
     | refine r_ldn (by simp (disch:=first|decide|(simp only[zF,zG,g2];decide)) only [zA,zB,zC,zD,zE,zF,zG,zH,zI,zJ,zK,HV.cells,fl0,fl2,flS,flS1,flI1,flU1,flU2,flF,g2]; try exact rfl) (by first|assumption|(simp (disch:=omega) only [get_same,get_other,g2]; first|done|exact rfl)) (by first|assumption|exact ow2 _ _ _ _|exact ow3 _ _ _ _ _ _|rfl|(simp only [zI,zJ,HV.cells,g2]; exact rfl)) ?_
     | refine r_add (by simp (disch:=first|decide|(simp only[zF,zG,g2];decide)) only [zA,zB,zC,zD,zE,zF,zG,zH,zI,zJ,zK,HV.cells,fl0,fl2,flS,flS1,flI1,flU1,flU2,flF,g2]; try exact rfl) (by simp (disch:=first|decide|(simp only[zF,zG,g2];decide)) only [zA,zB,zC,zD,zE,zF,zG,zH,zI,zJ,zK,HV.cells,fl0,fl2,flS,flS1,flI1,flU1,flU2,flF,g2]; try exact rfl) (by omega) (by omega) ?_
     | refine r_sub (by simp (disch:=first|decide|(simp only[zF,zG,g2];decide)) only [zA,zB,zC,zD,zE,zF,zG,zH,zI,zJ,zK,HV.cells,fl0,fl2,flS,flS1,flI1,flU1,flU2,flF,g2]; try exact rfl) (by simp (disch:=first|decide|(simp only[zF,zG,g2];decide)) only [zA,zB,zC,zD,zE,zF,zG,zH,zI,zJ,zK,HV.cells,fl0,fl2,flS,flS1,flI1,flU1,flU2,flF,g2]; try exact rfl) (by omega) (by omega) ?_
     | refine r_lss (by simp (disch:=first|decide|(simp only[zF,zG,g2];decide)) only [zA,zB,zC,zD,zE,zF,zG,zH,zI,zJ,zK,HV.cells,fl0,fl2,flS,flS1,flI1,flU1,flU2,flF,g2]; try exact rfl) (by simp (disch:=first|decide|(simp only[zF,zG,g2];decide)) only [zA,zB,zC,zD,zE,zF,zG,zH,zI,zJ,zK,HV.cells,fl0,fl2,flS,flS1,flI1,flU1,flU2,flF,g2]; try exact rfl) (fun hc => ?_) (fun hc => ?_) <;> (try (exfalso; omega))
     | refine r_not1 (by simp (disch:=first|decide|(simp only[zF,zG,g2];decide)) only [zA,zB,zC,zD,zE,zF,zG,zH,zI,zJ,zK,HV.cells,fl0,fl2,flS,flS1,flI1,flU1,flU2,flF,g2]; try exact rfl) ?_
     | refine r_len (by simp (disch:=first|decide|(simp only[zF,zG,g2];decide)) only [zA,zB,zC,zD,zE,zF,zG,zH,zI,zJ,zK,HV.cells,fl0,fl2,flS,flS1,flI1,flU1,flU2,flF,g2]; try exact rfl) ?_
     | refine r_ixs (by simp (disch:=first|decide|(simp only[zF,zG,g2];decide)) only [zA,zB,zC,zD,zE,zF,zG,zH,zI,zJ,zK,HV.cells,fl0,fl2,flS,flS1,flI1,flU1,flU2,flF,g2]; try exact rfl) (by simp (disch:=first|decide|(simp only[zF,zG,g2];decide)) only [zA,zB,zC,zD,zE,zF,zG,zH,zI,zJ,zK,HV.cells,fl0,fl2,flS,flS1,flI1,flU1,flU2,flF,g2]; try exact rfl) (by omega) ?_
     | refine w_draw (by omega) (by (repeat' first|assumption|refine D.upd ?_ (by omega)|exact D.mono (by assumption) (by omega)) <;> fail) ?_
     | refine d_nil ?_
     | refine d_rest rfl ?_
     | refine d_al2 rfl rfl rfl ?_
     | refine d_bs rfl ?_
     | refine d_box rfl ?_
     | refine d_alloc rfl ?_
     | refine d_one rfl ?_
     | refine d_next (by omega) ?_
     | refine d_laid ?_
     | fail
    refine fin_r (by simp only [zL, zM, g3]) (by simp (disch:=first|decide|(simp only[zF,zG,g2];decide)) only [zA,zB,zC,zD,zE,zF,zG,zH,zI,zJ,zK,HV.cells,fl0,fl2,flS,flS1,flI1,flU1,flU2,flF,g2]; try exact rfl) (sc_flat rfl (by dsimp only; omega) ?_)
    rw [List.drop_zero] at g0
    rw [decide_eq_true g0]
  · have hle := g1.le
    repeat' first
     | refine r_nil ?_
     | refine th_n ?_
     | refine th_r ?_
     | refine th_e ?_
     | refine ib_n ?_
     | refine ib_r ?_
     | refine ib_e ?_
     | refine ib_x (by decide) ?_
     | refine w_exit ?_
     | refine w_seq ?_
     | refine w_reg ?_
     | refine w_ret ?_
     | refine w_skip ?_
     | refine w_block ?_
     | refine w_t (by simp (disch:=first|decide|(simp only[zF,zG,g2];decide)) only [zA,zB,zC,zD,zE,zF,zG,zH,zI,zJ,zK,HV.cells,fl0,fl2,flS,flS1,flI1,flU1,flU2,flF,g2]; first|done|exact rfl) ?_
     | refine w_f (by simp (disch:=first|decide|(simp only[zF,zG,g2];decide)) only [zA,zB,zC,zD,zE,zF,zG,zH,zI,zJ,zK,HV.cells,fl0,fl2,flS,flS1,flI1,flU1,flU2,flF,g2]; first|done|exact rfl) ?_
     | refine r_take (by simp (disch:=first|decide|(simp only[zF,zG,g2];decide)) only [zA,zB,zC,zD,zE,zF,zG,zH,zI,zJ,zK,HV.cells,fl0,fl2,flS,flS1,flI1,flU1,flU2,flF,g2]; first|done|exact rfl) ?_
     | refine r_drop (by simp (disch:=first|decide|(simp only[zF,zG,Bool.not_true,Bool.not_false,g2];decide)) only [zA,zB,zC,zD,zE,zF,zG,zH,zI,zJ,zK,HV.cells,fl0,fl2,flS,flS1,flI1,flU1,flU2,flF,Bool.not_true,Bool.not_false,g2]; first|done|exact rfl) ?_
     | refine r_dropu (by simp (disch:=first|decide|(simp only[zF,zG,g2];decide)) only [zA,zB,zC,zD,zE,zF,zG,zH,zI,zJ,zK,HV.cells,fl0,fl2,flS,flS1,flI1,flU1,flU2,flF,g2]; first|done|exact rfl) ?_
     | refine r_move (by simp (disch:=first|decide|(simp only[zF,zG,g2];decide)) only [zA,zB,zC,zD,zE,zF,zG,zH,zI,zJ,zK,HV.cells,fl0,fl2,flS,flS1,flI1,flU1,flU2,flF,g2]; try exact rfl) ?_
     | refine r_ldn (by simp (disch:=first|decide|(simp only[zF,zG,g2];decide)) only [zA,zB,zC,zD,zE,zF,zG,zH,zI,zJ,zK,HV.cells,fl0,fl2,flS,flS1,flI1,flU1,flU2,flF,g2]; try exact rfl) (by first|assumption|(simp (disch:=omega) only [get_same,get_other,g2]; first|done|exact rfl)) (by first|assumption|exact ow2 _ _ _ _|exact ow3 _ _ _ _ _ _|rfl|(simp only [zI,zJ,HV.cells,g2]; exact rfl)) ?_
     | refine r_add (by simp (disch:=first|decide|(simp only[zF,zG,g2];decide)) only [zA,zB,zC,zD,zE,zF,zG,zH,zI,zJ,zK,HV.cells,fl0,fl2,flS,flS1,flI1,flU1,flU2,flF,g2]; try exact rfl) (by simp (disch:=first|decide|(simp only[zF,zG,g2];decide)) only [zA,zB,zC,zD,zE,zF,zG,zH,zI,zJ,zK,HV.cells,fl0,fl2,flS,flS1,flI1,flU1,flU2,flF,g2]; try exact rfl) (by omega) (by omega) ?_
     | refine r_sub (by simp (disch:=first|decide|(simp only[zF,zG,g2];decide)) only [zA,zB,zC,zD,zE,zF,zG,zH,zI,zJ,zK,HV.cells,fl0,fl2,flS,flS1,flI1,flU1,flU2,flF,g2]; try exact rfl) (by simp (disch:=first|decide|(simp only[zF,zG,g2];decide)) only [zA,zB,zC,zD,zE,zF,zG,zH,zI,zJ,zK,HV.cells,fl0,fl2,flS,flS1,flI1,flU1,flU2,flF,g2]; try exact rfl) (by omega) (by omega) ?_
     | refine r_lss (by simp (disch:=first|decide|(simp only[zF,zG,g2];decide)) only [zA,zB,zC,zD,zE,zF,zG,zH,zI,zJ,zK,HV.cells,fl0,fl2,flS,flS1,flI1,flU1,flU2,flF,g2]; try exact rfl) (by simp (disch:=first|decide|(simp only[zF,zG,g2];decide)) only [zA,zB,zC,zD,zE,zF,zG,zH,zI,zJ,zK,HV.cells,fl0,fl2,flS,flS1,flI1,flU1,flU2,flF,g2]; try exact rfl) (fun hc => ?_) (fun hc => ?_) <;> (try (exfalso; omega))
     | refine r_not1 (by simp (disch:=first|decide|(simp only[zF,zG,g2];decide)) only [zA,zB,zC,zD,zE,zF,zG,zH,zI,zJ,zK,HV.cells,fl0,fl2,flS,flS1,flI1,flU1,flU2,flF,g2]; try exact rfl) ?_
     | refine r_len (by simp (disch:=first|decide|(simp only[zF,zG,g2];decide)) only [zA,zB,zC,zD,zE,zF,zG,zH,zI,zJ,zK,HV.cells,fl0,fl2,flS,flS1,flI1,flU1,flU2,flF,g2]; try exact rfl) ?_
     | refine r_ixs (by simp (disch:=first|decide|(simp only[zF,zG,g2];decide)) only [zA,zB,zC,zD,zE,zF,zG,zH,zI,zJ,zK,HV.cells,fl0,fl2,flS,flS1,flI1,flU1,flU2,flF,g2]; try exact rfl) (by simp (disch:=first|decide|(simp only[zF,zG,g2];decide)) only [zA,zB,zC,zD,zE,zF,zG,zH,zI,zJ,zK,HV.cells,fl0,fl2,flS,flS1,flI1,flU1,flU2,flF,g2]; try exact rfl) (by omega) ?_
     | refine w_draw (by omega) (by (repeat' first|assumption|refine D.upd ?_ (by omega)|exact D.mono (by assumption) (by omega)) <;> fail) ?_
     | refine d_nil ?_
     | refine d_rest rfl ?_
     | refine d_al2 rfl rfl rfl ?_
     | refine d_bs rfl ?_
     | refine d_box rfl ?_
     | refine d_alloc rfl ?_
     | refine d_one rfl ?_
     | refine d_next (by omega) ?_
     | refine d_laid ?_
     | fail
    refine fin_r (by simp only [zL, zM, g3]) (by simp (disch:=first|decide|(simp only[zF,zG,g2, g4];decide)) only [zA,zB,zC,zD,zE,zF,zG,zH,zI,zJ,zK,HV.cells,fl0,fl2,flS,flS1,flI1,flU1,flU2,flF,g2, g4]; try exact rfl) (sc_flat rfl (by dsimp only; omega) ?_)
    rw [List.drop_zero] at g0
    rw [decide_eq_false g0]
def TbOk (l : List (Int × Int)) : Prop := 2 ≤ l.length ∧ (∀ s ∈ l, StOk s) ∧ Ris l
instance (l : List (Int × Int)) : Decidable (TbOk l) := by unfold TbOk; infer_instance
def chkT (l : List (Int × Int)) : Int := if l.length ≤ 8 then (if TbOk l then 0 else 1) else 3
/- 63 -/
theorem c_checkTable {fl : Nat} {h : Tr HBlk} {nx : Nat} (hd : D h nx) {p : Option (Nat × Nat)} {l : List (Int × Int)} {n cp : Nat} (hn : n = l.length) (hlen : l.length < 1000000000) (hrow : Row renc 2 h nx p l) :
    C LW fl 63 [.slice p n cp] ⟨h, nx⟩ (Sc (· = i64 (chkT l)) ⟨h, nx⟩) := by
  subst hn
  have cA : ∀ fl h' n', Ext h nx h' n' → C LW fl 86 [.slice p l.length cp, .func 87 [] []] ⟨h', n'⟩ (Sc (· = .bool (decide (∀ s ∈ l, StOk s))) ⟨h', n'⟩) := fun fl h' n' e => c_all86 (P := StOk) e.d rfl hlen (hrow.ext e) (fun r _ fl h1 n1 _ => c_stepValid)
  have cO : ∀ fl h' n', Ext h nx h' n' → C LW fl 88 [.slice p l.length cp, .func 89 [] []] ⟨h', n'⟩ (Sc (· = .bool (decide (Ris l))) ⟨h', n'⟩) := fun fl h' n' e => c_inOrder e.d rfl hlen (hrow.ext e)
  refine c_in lw63 rfl rfl rfl ?_
  dsimp only [L63]
  by_cases h8 : l.length ≤ 8
  · have e : chkT l = if TbOk l then 0 else 1 := if_pos h8
    rw [e]
    by_cases hk : TbOk l
    · obtain ⟨k1, k2, k3⟩ := hk
      rw [if_pos ⟨k1, k2, k3⟩]
      repeat' first
       | refine r_nil ?_
       | refine th_n ?_
       | refine th_r ?_
       | refine w_seq ?_
       | refine w_reg ?_
       | refine w_ret ?_
       | refine w_skip ?_
       | refine w_t (by simp (disch:=first|decide|(simp only[zF,zG];decide)) only [zA,zB,zC,zD,zE,zF,zG,zH,zI,zJ,zK,HV.cells,fl0,fl2,flS,flS1,flI1,flU1,flU2,flF]; first|done|exact rfl) ?_
       | refine w_f (by simp (disch:=first|decide|(simp only[zF,zG];decide)) only [zA,zB,zC,zD,zE,zF,zG,zH,zI,zJ,zK,HV.cells,fl0,fl2,flS,flS1,flI1,flU1,flU2,flF]; first|done|exact rfl) ?_
       | refine r_take (by simp (disch:=first|decide|(simp only[zF,zG];decide)) only [zA,zB,zC,zD,zE,zF,zG,zH,zI,zJ,zK,HV.cells,fl0,fl2,flS,flS1,flI1,flU1,flU2,flF]; first|done|exact rfl) ?_
       | refine r_drop (by simp (disch:=first|decide|(simp only[zF,zG,Bool.not_true,Bool.not_false];decide)) only [zA,zB,zC,zD,zE,zF,zG,zH,zI,zJ,zK,HV.cells,fl0,fl2,flS,flS1,flI1,flU1,flU2,flF,Bool.not_true,Bool.not_false]; first|done|exact rfl) ?_
       | refine r_dropu (by simp (disch:=first|decide|(simp only[zF,zG];decide)) only [zA,zB,zC,zD,zE,zF,zG,zH,zI,zJ,zK,HV.cells,fl0,fl2,flS,flS1,flI1,flU1,flU2,flF]; first|done|exact rfl) ?_
       | refine r_move (by simp (disch:=first|decide|(simp only[zF,zG];decide)) only [zA,zB,zC,zD,zE,zF,zG,zH,zI,zJ,zK,HV.cells,fl0,fl2,flS,flS1,flI1,flU1,flU2,flF]; try exact rfl) ?_
       | refine r_lss (by simp (disch:=first|decide|(simp only[zF,zG];decide)) only [zA,zB,zC,zD,zE,zF,zG,zH,zI,zJ,zK,HV.cells,fl0,fl2,flS,flS1,flI1,flU1,flU2,flF]; try exact rfl) (by simp (disch:=first|decide|(simp only[zF,zG];decide)) only [zA,zB,zC,zD,zE,zF,zG,zH,zI,zJ,zK,HV.cells,fl0,fl2,flS,flS1,flI1,flU1,flU2,flF]; try exact rfl) (fun hc => ?_) (fun hc => ?_) <;> (try (exfalso; omega))
       | refine r_gtr (by simp (disch:=first|decide|(simp only[zF,zG];decide)) only [zA,zB,zC,zD,zE,zF,zG,zH,zI,zJ,zK,HV.cells,fl0,fl2,flS,flS1,flI1,flU1,flU2,flF]; try exact rfl) (by simp (disch:=first|decide|(simp only[zF,zG];decide)) only [zA,zB,zC,zD,zE,zF,zG,zH,zI,zJ,zK,HV.cells,fl0,fl2,flS,flS1,flI1,flU1,flU2,flF]; try exact rfl) (fun hc => ?_) (fun hc => ?_) <;> (try (exfalso; omega))
       | refine r_not1 (by simp (disch:=first|decide|(simp only[zF,zG];decide)) only [zA,zB,zC,zD,zE,zF,zG,zH,zI,zJ,zK,HV.cells,fl0,fl2,flS,flS1,flI1,flU1,flU2,flF]; try exact rfl) ?_
       | refine r_pt (by simp (disch:=first|decide|(simp only[zF,zG];decide)) only [zA,zB,zC,zD,zE,zF,zG,zH,zI,zJ,zK,HV.cells,fl0,fl2,flS,flS1,flI1,flU1,flU2,flF]; first|done|exact rfl) (by simp (disch:=first|decide|(simp only[zF,zG];decide)) only [zA,zB,zC,zD,zE,zF,zG,zH,zI,zJ,zK,HV.cells,fl0,fl2,flS,flS1,flI1,flU1,flU2,flF]; try exact rfl) ?_
       | refine r_pf (by simp (disch:=first|decide|(simp only[zF,zG];decide)) only [zA,zB,zC,zD,zE,zF,zG,zH,zI,zJ,zK,HV.cells,fl0,fl2,flS,flS1,flI1,flU1,flU2,flF]; first|done|exact rfl) (by simp (disch:=first|decide|(simp only[zF,zG];decide)) only [zA,zB,zC,zD,zE,zF,zG,zH,zI,zJ,zK,HV.cells,fl0,fl2,flS,flS1,flI1,flU1,flU2,flF]; try exact rfl) ?_
       | refine r_len (by simp (disch:=first|decide|(simp only[zF,zG];decide)) only [zA,zB,zC,zD,zE,zF,zG,zH,zI,zJ,zK,HV.cells,fl0,fl2,flS,flS1,flI1,flU1,flU2,flF]; try exact rfl) ?_
       | refine r_calld (by simp (disch:=first|decide|(simp only[zF,zG];decide)) only [zA,zB,zC,zD,zE,zF,zG,zH,zI,zJ,zK,HV.cells,fl0,fl2,flS,flS1,flI1,flU1,flU2,flF]; try exact rfl) (by simp (disch:=first|decide|(simp only[zF,zG];decide)) only [List.map_cons,List.map_nil,List.nil_append,List.cons_append,List.append_nil,zA,zB,zC,zD,zE,zF,zG,zH,zI,zJ,zK,HV.cells,fl0,fl2,flS,flS1,flI1,flU1,flU2,flF]; first|done|exact rfl) (cA _ _ _ (by repeat' first|assumption|refine Ext.put ?_ (by omega) (by omega)|exact Ext.up (by assumption) (by omega)|exact Ext.nx (by assumption) (by omega))) (fun n' hn' hc => ?_) (fun n' hn' hc => ?_) <;> (try (exfalso; omega))
       | refine r_calld (by simp (disch:=first|decide|(simp only[zF,zG];decide)) only [zA,zB,zC,zD,zE,zF,zG,zH,zI,zJ,zK,HV.cells,fl0,fl2,flS,flS1,flI1,flU1,flU2,flF]; try exact rfl) (by simp (disch:=first|decide|(simp only[zF,zG];decide)) only [List.map_cons,List.map_nil,List.nil_append,List.cons_append,List.append_nil,zA,zB,zC,zD,zE,zF,zG,zH,zI,zJ,zK,HV.cells,fl0,fl2,flS,flS1,flI1,flU1,flU2,flF]; first|done|exact rfl) (cO _ _ _ (by repeat' first|assumption|refine Ext.put ?_ (by omega) (by omega)|exact Ext.up (by assumption) (by omega)|exact Ext.nx (by assumption) (by omega))) (fun n' hn' hc => ?_) (fun n' hn' hc => ?_) <;> (try (exfalso; omega))
       | fail
      all_goals first
        | exact absurd k2 (by assumption)
        | exact absurd k3 (by assumption)
        | (refine fin_r (by simp only [zL,zM]) (by simp (disch:=first|decide|(simp only[zF,zG];decide)) only [zA,zB,zC,zD,zE,zF,zG,zH,zI,zJ,zK,HV.cells,fl0,fl2,flS,flS1,flI1,flU1,flU2,flF]; try exact rfl) (sc_flat rfl (by dsimp only; omega) ?_); rfl)
    · rw [if_neg hk]
      repeat' first
       | refine r_nil ?_
       | refine th_n ?_
       | refine th_r ?_
       | refine w_seq ?_
       | refine w_reg ?_
       | refine w_ret ?_
       | refine w_skip ?_
       | refine w_t (by simp (disch:=first|decide|(simp only[zF,zG];decide)) only [zA,zB,zC,zD,zE,zF,zG,zH,zI,zJ,zK,HV.cells,fl0,fl2,flS,flS1,flI1,flU1,flU2,flF]; first|done|exact rfl) ?_
       | refine w_f (by simp (disch:=first|decide|(simp only[zF,zG];decide)) only [zA,zB,zC,zD,zE,zF,zG,zH,zI,zJ,zK,HV.cells,fl0,fl2,flS,flS1,flI1,flU1,flU2,flF]; first|done|exact rfl) ?_
       | refine r_take (by simp (disch:=first|decide|(simp only[zF,zG];decide)) only [zA,zB,zC,zD,zE,zF,zG,zH,zI,zJ,zK,HV.cells,fl0,fl2,flS,flS1,flI1,flU1,flU2,flF]; first|done|exact rfl) ?_
       | refine r_drop (by simp (disch:=first|decide|(simp only[zF,zG,Bool.not_true,Bool.not_false];decide)) only [zA,zB,zC,zD,zE,zF,zG,zH,zI,zJ,zK,HV.cells,fl0,fl2,flS,flS1,flI1,flU1,flU2,flF,Bool.not_true,Bool.not_false]; first|done|exact rfl) ?_
       | refine r_dropu (by simp (disch:=first|decide|(simp only[zF,zG];decide)) only [zA,zB,zC,zD,zE,zF,zG,zH,zI,zJ,zK,HV.cells,fl0,fl2,flS,flS1,flI1,flU1,flU2,flF]; first|done|exact rfl) ?_
       | refine r_move (by simp (disch:=first|decide|(simp only[zF,zG];decide)) only [zA,zB,zC,zD,zE,zF,zG,zH,zI,zJ,zK,HV.cells,fl0,fl2,flS,flS1,flI1,flU1,flU2,flF]; try exact rfl) ?_
       | refine r_lss (by simp (disch:=first|decide|(simp only[zF,zG];decide)) only [zA,zB,zC,zD,zE,zF,zG,zH,zI,zJ,zK,HV.cells,fl0,fl2,flS,flS1,flI1,flU1,flU2,flF]; try exact rfl) (by simp (disch:=first|decide|(simp only[zF,zG];decide)) only [zA,zB,zC,zD,zE,zF,zG,zH,zI,zJ,zK,HV.cells,fl0,fl2,flS,flS1,flI1,flU1,flU2,flF]; try exact rfl) (fun hc => ?_) (fun hc => ?_) <;> (try (exfalso; omega))
       | refine r_gtr (by simp (disch:=first|decide|(simp only[zF,zG];decide)) only [zA,zB,zC,zD,zE,zF,zG,zH,zI,zJ,zK,HV.cells,fl0,fl2,flS,flS1,flI1,flU1,flU2,flF]; try exact rfl) (by simp (disch:=first|decide|(simp only[zF,zG];decide)) only [zA,zB,zC,zD,zE,zF,zG,zH,zI,zJ,zK,HV.cells,fl0,fl2,flS,flS1,flI1,flU1,flU2,flF]; try exact rfl) (fun hc => ?_) (fun hc => ?_) <;> (try (exfalso; omega))
       | refine r_not1 (by simp (disch:=first|decide|(simp only[zF,zG];decide)) only [zA,zB,zC,zD,zE,zF,zG,zH,zI,zJ,zK,HV.cells,fl0,fl2,flS,flS1,flI1,flU1,flU2,flF]; try exact rfl) ?_
       | refine r_pt (by simp (disch:=first|decide|(simp only[zF,zG];decide)) only [zA,zB,zC,zD,zE,zF,zG,zH,zI,zJ,zK,HV.cells,fl0,fl2,flS,flS1,flI1,flU1,flU2,flF]; first|done|exact rfl) (by simp (disch:=first|decide|(simp only[zF,zG];decide)) only [zA,zB,zC,zD,zE,zF,zG,zH,zI,zJ,zK,HV.cells,fl0,fl2,flS,flS1,flI1,flU1,flU2,flF]; try exact rfl) ?_
       | refine r_pf (by simp (disch:=first|decide|(simp only[zF,zG];decide)) only [zA,zB,zC,zD,zE,zF,zG,zH,zI,zJ,zK,HV.cells,fl0,fl2,flS,flS1,flI1,flU1,flU2,flF]; first|done|exact rfl) (by simp (disch:=first|decide|(simp only[zF,zG];decide)) only [zA,zB,zC,zD,zE,zF,zG,zH,zI,zJ,zK,HV.cells,fl0,fl2,flS,flS1,flI1,flU1,flU2,flF]; try exact rfl) ?_
       | refine r_len (by simp (disch:=first|decide|(simp only[zF,zG];decide)) only [zA,zB,zC,zD,zE,zF,zG,zH,zI,zJ,zK,HV.cells,fl0,fl2,flS,flS1,flI1,flU1,flU2,flF]; try exact rfl) ?_
       | refine r_calld (by simp (disch:=first|decide|(simp only[zF,zG];decide)) only [zA,zB,zC,zD,zE,zF,zG,zH,zI,zJ,zK,HV.cells,fl0,fl2,flS,flS1,flI1,flU1,flU2,flF]; try exact rfl) (by simp (disch:=first|decide|(simp only[zF,zG];decide)) only [List.map_cons,List.map_nil,List.nil_append,List.cons_append,List.append_nil,zA,zB,zC,zD,zE,zF,zG,zH,zI,zJ,zK,HV.cells,fl0,fl2,flS,flS1,flI1,flU1,flU2,flF]; first|done|exact rfl) (cA _ _ _ (by repeat' first|assumption|refine Ext.put ?_ (by omega) (by omega)|exact Ext.up (by assumption) (by omega)|exact Ext.nx (by assumption) (by omega))) (fun n' hn' hc => ?_) (fun n' hn' hc => ?_) <;> (try (exfalso; omega))
       | refine r_calld (by simp (disch:=first|decide|(simp only[zF,zG];decide)) only [zA,zB,zC,zD,zE,zF,zG,zH,zI,zJ,zK,HV.cells,fl0,fl2,flS,flS1,flI1,flU1,flU2,flF]; try exact rfl) (by simp (disch:=first|decide|(simp only[zF,zG];decide)) only [List.map_cons,List.map_nil,List.nil_append,List.cons_append,List.append_nil,zA,zB,zC,zD,zE,zF,zG,zH,zI,zJ,zK,HV.cells,fl0,fl2,flS,flS1,flI1,flU1,flU2,flF]; first|done|exact rfl) (cO _ _ _ (by repeat' first|assumption|refine Ext.put ?_ (by omega) (by omega)|exact Ext.up (by assumption) (by omega)|exact Ext.nx (by assumption) (by omega))) (fun n' hn' hc => ?_) (fun n' hn' hc => ?_) <;> (try (exfalso; omega))
       | fail
      all_goals first
        | exact absurd ⟨by omega, by assumption, by assumption⟩ hk
        | (refine fin_r (by simp only [zL,zM]) (by simp (disch:=first|decide|(simp only[zF,zG];decide)) only [zA,zB,zC,zD,zE,zF,zG,zH,zI,zJ,zK,HV.cells,fl0,fl2,flS,flS1,flI1,flU1,flU2,flF]; try exact rfl) (sc_flat rfl (by dsimp only; omega) ?_); rfl)
  · have e : chkT l = 3 := if_neg h8
    rw [e]
    repeat' first
     | refine r_nil ?_
     | refine th_n ?_
     | refine th_r ?_
     | refine w_seq ?_
     | refine w_reg ?_
     | refine w_ret ?_
     | refine w_skip ?_
     | refine w_t (by simp (disch:=first|decide|(simp only[zF,zG];decide)) only [zA,zB,zC,zD,zE,zF,zG,zH,zI,zJ,zK,HV.cells,fl0,fl2,flS,flS1,flI1,flU1,flU2,flF]; first|done|exact rfl) ?_
     | refine w_f (by simp (disch:=first|decide|(simp only[zF,zG];decide)) only [zA,zB,zC,zD,zE,zF,zG,zH,zI,zJ,zK,HV.cells,fl0,fl2,flS,flS1,flI1,flU1,flU2,flF]; first|done|exact rfl) ?_
     | refine r_take (by simp (disch:=first|decide|(simp only[zF,zG];decide)) only [zA,zB,zC,zD,zE,zF,zG,zH,zI,zJ,zK,HV.cells,fl0,fl2,flS,flS1,flI1,flU1,flU2,flF]; first|done|exact rfl) ?_
     | refine r_drop (by simp (disch:=first|decide|(simp only[zF,zG,Bool.not_true,Bool.not_false];decide)) only [zA,zB,zC,zD,zE,zF,zG,zH,zI,zJ,zK,HV.cells,fl0,fl2,flS,flS1,flI1,flU1,flU2,flF,Bool.not_true,Bool.not_false]; first|done|exact rfl) ?_
     | refine r_dropu (by simp (disch:=first|decide|(simp only[zF,zG];decide)) only [zA,zB,zC,zD,zE,zF,zG,zH,zI,zJ,zK,HV.cells,fl0,fl2,flS,flS1,flI1,flU1,flU2,flF]; first|done|exact rfl) ?_
     | refine r_move (by simp (disch:=first|decide|(simp only[zF,zG];decide)) only [zA,zB,zC,zD,zE,zF,zG,zH,zI,zJ,zK,HV.cells,fl0,fl2,flS,flS1,flI1,flU1,flU2,flF]; try exact rfl) ?_
     | refine r_lss (by simp (disch:=first|decide|(simp only[zF,zG];decide)) only [zA,zB,zC,zD,zE,zF,zG,zH,zI,zJ,zK,HV.cells,fl0,fl2,flS,flS1,flI1,flU1,flU2,flF]; try exact rfl) (by simp (disch:=first|decide|(simp only[zF,zG];decide)) only [zA,zB,zC,zD,zE,zF,zG,zH,zI,zJ,zK,HV.cells,fl0,fl2,flS,flS1,flI1,flU1,flU2,flF]; try exact rfl) (fun hc => ?_) (fun hc => ?_) <;> (try (exfalso; omega))
     | refine r_gtr (by simp (disch:=first|decide|(simp only[zF,zG];decide)) only [zA,zB,zC,zD,zE,zF,zG,zH,zI,zJ,zK,HV.cells,fl0,fl2,flS,flS1,flI1,flU1,flU2,flF]; try exact rfl) (by simp (disch:=first|decide|(simp only[zF,zG];decide)) only [zA,zB,zC,zD,zE,zF,zG,zH,zI,zJ,zK,HV.cells,fl0,fl2,flS,flS1,flI1,flU1,flU2,flF]; try exact rfl) (fun hc => ?_) (fun hc => ?_) <;> (try (exfalso; omega))
     | refine r_not1 (by simp (disch:=first|decide|(simp only[zF,zG];decide)) only [zA,zB,zC,zD,zE,zF,zG,zH,zI,zJ,zK,HV.cells,fl0,fl2,flS,flS1,flI1,flU1,flU2,flF]; try exact rfl) ?_
     | refine r_pt (by simp (disch:=first|decide|(simp only[zF,zG];decide)) only [zA,zB,zC,zD,zE,zF,zG,zH,zI,zJ,zK,HV.cells,fl0,fl2,flS,flS1,flI1,flU1,flU2,flF]; first|done|exact rfl) (by simp (disch:=first|decide|(simp only[zF,zG];decide)) only [zA,zB,zC,zD,zE,zF,zG,zH,zI,zJ,zK,HV.cells,fl0,fl2,flS,flS1,flI1,flU1,flU2,flF]; try exact rfl) ?_
     | refine r_pf (by simp (disch:=first|decide|(simp only[zF,zG];decide)) only [zA,zB,zC,zD,zE,zF,zG,zH,zI,zJ,zK,HV.cells,fl0,fl2,flS,flS1,flI1,flU1,flU2,flF]; first|done|exact rfl) (by simp (disch:=first|decide|(simp only[zF,zG];decide)) only [zA,zB,zC,zD,zE,zF,zG,zH,zI,zJ,zK,HV.cells,fl0,fl2,flS,flS1,flI1,flU1,flU2,flF]; try exact rfl) ?_
     | refine r_len (by simp (disch:=first|decide|(simp only[zF,zG];decide)) only [zA,zB,zC,zD,zE,zF,zG,zH,zI,zJ,zK,HV.cells,fl0,fl2,flS,flS1,flI1,flU1,flU2,flF]; try exact rfl) ?_
     | fail
    refine fin_r (by simp only [zL,zM]) (by simp (disch:=first|decide|(simp only[zF,zG];decide)) only [zA,zB,zC,zD,zE,zF,zG,zH,zI,zJ,zK,HV.cells,fl0,fl2,flS,flS1,flI1,flU1,flU2,flF]; try exact rfl) (sc_flat rfl (by dsimp only; omega) ?_); rfl
end Go.Hx

/- More functions of the program: the reference's halving, through scales. -/
namespace Go.Hx
set_option maxRecDepth 100000
noncomputable def L4 : LFunc := ⟨121, (.seq (.reg [⟨(.some 3), (.box (.t 1)), .none, []⟩, ⟨(.some 4), (.move (.c (.bool .false))), .none, []⟩]) (.seq (.seq (.reg [⟨(.some 13), (.move (.t 0)), .none, []⟩, ⟨(.some 14), (.len .slice (.t 13)), .none, []⟩, ⟨(.some 15), (.bin .gtr (.t 14) (.c (.int .i64 11))), .none, []⟩]) (.cond (.t 15) (.seq (.reg [⟨(.some 16), (.call (.c (.func 22 [] [])) []), .none, []⟩, ⟨(.some 4), (.move (.t 16)), .none, []⟩]) .ret) .skip)) (.seq (.draw 9 [⟨(.some 18), (.move (.t 0)), .none, []⟩, ⟨(.some 19), (.call (.c (.func 25 [] [])) [(.t 18)]), .none, []⟩, ⟨(.some 20), (.load .true 2 (.t 3)), .none, []⟩, ⟨(.some 21), (.call (.c (.func 19 [] [])) [(.t 20)]), .none, [1]⟩, ⟨(.some 22), (.call (.c (.func 24 [] [])) [(.t 19), (.t 21)]), .none, [3, 1]⟩, ⟨(.some 17), (.move (.t 22)), .none, [4, 3, 1]⟩, ⟨(.some 23), (.extract (.t 17) 0), .none, [4, 3, 1]⟩, ⟨(.some 24), (.extract (.t 17) 1), .none, [4, 3, 1]⟩, ⟨(.some 5), (.alloc [(.int .i64 0), (.int .i64 0)]), .none, []⟩, ⟨.none, (.store 2 (.t 5) (.t 23)), .none, [8, 4, 3, 1]⟩, ⟨(.some 6), (.move (.t 24)), .none, [8, 4, 3, 1]⟩]) (.seq (.reg [⟨(.some 25), (.move (.t 0)), .none, []⟩, ⟨(.some 26), (.load .true 2 (.t 3)), .none, []⟩, ⟨(.some 27), (.call (.c (.func 21 [] [])) [(.t 25), (.t 26)]), .none, []⟩, ⟨(.some 7), (.move (.t 27)), .none, []⟩]) (.seq (.seq (.reg [⟨(.some 28), (.move (.t 7)), .none, []⟩, ⟨(.some 29), (.eq (.cell (.i .i64)) .true (.t 28) (.c (.int .i64 3))), .none, []⟩, ⟨(.some 30), (.move (.t 29)), .none, []⟩, ⟨(.some 31), (.move (.t 0)), (.some (30, .true)), []⟩, ⟨(.some 32), (.len .slice (.t 31)), (.some (30, .true)), []⟩, ⟨(.some 33), (.eq (.cell (.i .i64)) .false (.t 32) (.c (.int .i64 0))), (.some (30, .true)), []⟩, ⟨(.some 34), (.pick (.t 30) (.t 33) (.c (.bool .false))), .none, []⟩]) (.cond (.t 34) (.reg [⟨(.some 7), (.move (.c (.int .i64 1))), .none, []⟩]) .skip)) (.seq (.reg [⟨(.some 8), (.alloc [(.int .i64 0), (.int .i64 0)]), .none, []⟩]) (.seq (.seq (.reg [⟨(.some 35), (.move (.t 7)), .none, []⟩, ⟨(.some 36), (.eq (.cell (.i .i64)) .false (.t 35) (.c (.int .i64 0))), .none, []⟩]) (.cond (.t 36) (.seq (.reg [⟨(.some 9), (.move (.c (.bool .false))), .none, []⟩]) (.seq (.reg [⟨(.some 38), (.move (.t 0)), .none, []⟩, ⟨(.some 39), (.load .true 2 (.t 3)), .none, []⟩, ⟨(.some 40), (.call (.c (.func 26 [] [])) [(.t 38), (.t 39)]), .none, []⟩, ⟨(.some 37), (.move (.t 40)), .none, []⟩, ⟨(.some 41), (.extract (.t 37) 0), .none, []⟩, ⟨(.some 42), (.extract (.t 37) 1), .none, []⟩, ⟨.none, (.store 2 (.t 8) (.t 41)), .none, []⟩, ⟨(.some 9), (.move (.t 42)), .none, []⟩]) (.seq (.reg [⟨(.some 43), (.move (.t 9)), .none, []⟩, ⟨(.some 44), (.un .not (.t 43)), .none, []⟩]) (.cond (.t 44) (.reg [⟨(.some 45), (.build [(.int .i64 0), (.int .i64 0)] []), .none, []⟩, ⟨(.some 7), (.move (.c (.int .i64 10))), .none, []⟩, ⟨.none, (.store 2 (.t 8) (.t 45)), .none, []⟩]) .skip)))) .skip)) (.seq (.seq (.draw 7 [⟨(.some 46), (.move (.t 6)), .none, []⟩, ⟨(.some 47), (.move (.t 7)), .none, []⟩, ⟨(.some 48), (.eq (.cell (.i .i64)) .true (.t 46) (.t 47)), .none, []⟩, ⟨(.some 49), (.move (.t 48)), .none, []⟩, ⟨(.some 50), (.load .true 2 (.t 5)), (.some (49, .false)), []⟩, ⟨(.some 51), (.load .true 2 (.t 8)), (.some (49, .false)), []⟩, ⟨(.some 52), (.call (.c (.func 19 [] [])) [(.t 51)]), (.some (49, .false)), []⟩, ⟨(.some 53), (.eq (.row [(.i .i64), (.i .i64)]) .true (.t 50) (.t 52)), (.some (49, .false)), [6]⟩, ⟨(.some 54), (.pick (.t 49) (.c (.bool .true)) (.t 53)), .none, [6]⟩]) (.cond (.t 54) (.seq (.reg [⟨(.some 4), (.move (.c (.bool .false))), .none, []⟩]) .ret) .skip)) (.seq (.seq (.reg [⟨(.some 55), (.move (.t 0)), .none, []⟩, ⟨(.some 56), (.len .slice (.t 55)), .none, []⟩, ⟨(.some 57), (.bin .lss (.t 56) (.c (.int .i64 2))), .none, []⟩]) (.cond (.t 57) (.seq (.reg [⟨(.some 58), (.call (.c (.func 22 [] [])) []), .none, []⟩, ⟨(.some 4), (.move (.t 58)), .none, []⟩]) .ret) .skip)) (.seq (.draw 15 [⟨(.some 60), (.move (.t 0)), .none, []⟩, ⟨(.some 61), (.indexAddrS 2 (.t 60) (.c (.int .i64 0))), .none, []⟩, ⟨(.some 62), (.load .true 2 (.t 61)), .none, []⟩, ⟨(.some 63), (.call (.c (.func 17 [] [])) [(.t 62)]), .none, []⟩, ⟨(.some 64), (.move (.t 0)), .none, []⟩, ⟨(.some 65), (.indexAddrS 2 (.t 64) (.c (.int .i64 1))), .none, []⟩, ⟨(.some 66), (.load .true 2 (.t 65)), .none, []⟩, ⟨(.some 67), (.call (.c (.func 17 [] [])) [(.t 66)]), .none, [3]⟩, ⟨(.some 68), (.load .true 2 (.t 3)), .none, []⟩, ⟨(.some 69), (.call (.c (.func 19 [] [])) [(.t 68)]), .none, [7, 3]⟩, ⟨(.some 70), (.call (.c (.func 27 [] [])) [(.t 63), (.t 67), (.t 69)]), .none, [9, 7, 3]⟩, ⟨(.some 59), (.move (.t 70)), .none, [10, 9, 7, 3]⟩, ⟨(.some 71), (.extract (.t 59) 0), .none, [10, 9, 7, 3]⟩, ⟨(.some 72), (.extract (.t 59) 1), .none, [10, 9, 7, 3]⟩, ⟨(.some 10), (.alloc [(.int .i64 0), (.int .i64 0)]), .none, []⟩, ⟨.none, (.store 2 (.t 10) (.t 71)), .none, [14, 10, 9, 7, 3]⟩, ⟨(.some 11), (.move (.t 72)), .none, [14, 10, 9, 7, 3]⟩]) (.seq (.seq (.draw 3 [⟨(.some 73), (.move (.t 0)), .none, []⟩, ⟨(.some 74), (.sliceS 2 (.t 73) .none (.some (.c (.int .i64 2)))), .none, []⟩, ⟨(.some 75), (.load .true 2 (.t 3)), .none, []⟩, ⟨(.some 76), (.call (.c (.func 21 [] [])) [(.t 74), (.t 75)]), .none, []⟩, ⟨(.some 7), (.move (.t 76)), .none, [3]⟩]) (.seq (.reg [⟨(.some 77), (.move (.t 7)), .none, []⟩, ⟨(.some 78), (.eq (.cell (.i .i64)) .true (.t 77) (.c (.int .i64 0))), .none, []⟩]) (.cond (.t 78) (.seq (.reg [⟨(.some 79), (.move (.t 11)), .none, []⟩, ⟨(.some 80), (.move (.t 7)), .none, []⟩, ⟨(.some 81), (.eq (.cell (.i .i64)) .false (.t 79) (.t 80)), .none, []⟩, ⟨(.some 82), (.move (.t 81)), .none, []⟩, ⟨(.some 83), (.load .true 2 (.t 10)), (.some (82, .true)), []⟩, ⟨(.some 84), (.build [(.int .i64 0), (.int .i64 0)] []), (.some (82, .true)), []⟩, ⟨(.some 85), (.eq (.row [(.i .i64), (.i .i64)]) .false (.t 83) (.t 84)), (.some (82, .true)), []⟩, ⟨(.some 86), (.pick (.t 82) (.t 85) (.c (.bool .false))), .none, []⟩, ⟨(.some 87), (.move (.t 86)), .none, []⟩, ⟨(.some 88), (.call (.c (.func 22 [] [])) []), (.some (87, .true)), []⟩, ⟨(.some 89), (.pick (.t 87) (.t 88) (.c (.bool .false))), .none, []⟩, ⟨(.some 4), (.move (.t 89)), .none, []⟩]) .ret) .skip))) (.seq (.seq (.draw 9 [⟨(.some 90), (.move (.t 0)), .none, []⟩, ⟨(.some 91), (.indexAddrS 2 (.t 90) (.c (.int .i64 0))), .none, []⟩, ⟨(.some 92), (.load .true 2 (.t 91)), .none, []⟩, ⟨(.some 93), (.move (.t 0)), .none, []⟩, ⟨(.some 94), (.indexAddrS 2 (.t 93) (.c (.int .i64 1))), .none, []⟩, ⟨(.some 95), (.load .true 2 (.t 94)), .none, []⟩, ⟨(.some 96), (.load .true 2 (.t 3)), .none, []⟩, ⟨(.some 97), (.call (.c (.func 28 [] [])) [(.t 92), (.t 95), (.t 96)]), .none, []⟩, ⟨(.some 12), (.alloc [(.int .i64 0), (.int .i64 0)]), .none, []⟩, ⟨.none, (.store 2 (.t 12) (.t 97)), .none, [8, 7]⟩]) (.seq (.reg [⟨(.some 98), (.load .true 2 (.t 12)), .none, []⟩, ⟨(.some 99), (.call (.c (.func 29 [] [])) [(.t 98)]), .none, []⟩]) (.cond (.t 99) (.seq (.draw 6 [⟨(.some 100), (.move (.t 11)), .none, []⟩, ⟨(.some 101), (.eq (.cell (.i .i64)) .false (.t 100) (.c (.int .i64 0))), .none, []⟩, ⟨(.some 102), (.move (.t 101)), .none, []⟩, ⟨(.some 103), (.load .true 2 (.t 10)), (.some (102, .true)), []⟩, ⟨(.some 104), (.load .true 2 (.t 12)), (.some (102, .true)), []⟩, ⟨(.some 105), (.call (.c (.func 19 [] [])) [(.t 104)]), (.some (102, .true)), []⟩, ⟨(.some 106), (.eq (.row [(.i .i64), (.i .i64)]) .false (.t 103) (.t 105)), (.some (102, .true)), [5]⟩, ⟨(.some 107), (.pick (.t 102) (.t 106) (.c (.bool .false))), .none, [5]⟩, ⟨(.some 108), (.move (.t 107)), .none, [5]⟩, ⟨(.some 109), (.call (.c (.func 22 [] [])) []), (.some (108, .true)), [5]⟩, ⟨(.some 110), (.pick (.t 108) (.t 109) (.c (.bool .false))), .none, [9, 5]⟩, ⟨(.some 4), (.move (.t 110)), .none, [9, 5]⟩]) .ret) .skip))) (.seq (.reg [⟨(.some 111), (.move (.t 11)), .none, []⟩, ⟨(.some 112), (.eq (.cell (.i .i64)) .false (.t 111) (.c (.int .i64 10))), .none, []⟩, ⟨(.some 113), (.move (.t 112)), .none, []⟩, ⟨(.some 114), (.load .true 2 (.t 10)), (.some (113, .true)), []⟩, ⟨(.some 115), (.build [(.int .i64 0), (.int .i64 0)] []), (.some (113, .true)), []⟩, ⟨(.some 116), (.eq (.row [(.i .i64), (.i .i64)]) .false (.t 114) (.t 115)), (.some (113, .true)), []⟩, ⟨(.some 117), (.pick (.t 113) (.t 116) (.c (.bool .false))), .none, []⟩, ⟨(.some 118), (.move (.t 117)), .none, []⟩, ⟨(.some 119), (.call (.c (.func 22 [] [])) []), (.some (118, .true)), []⟩, ⟨(.some 120), (.pick (.t 118) (.t 119) (.c (.bool .false))), .none, []⟩, ⟨(.some 4), (.move (.t 120)), .none, []⟩]) .ret))))))))))))), [(.t 4)], .false, .none⟩
end Go.Hx

/- Layer 3: what can stand, by the reference: halving. -/
namespace Go.Hx
set_option linter.unusedSimpArgs false
set_option linter.unusedVariables false
set_option maxRecDepth 20000
set_option maxHeartbeats 4000000
attribute [local irreducible] W R C thenH inBlockH
--dropu
def RW (r : Int × Int) : Prop := r.1 ≤ r.2 ∧ -20000000000 ≤ r.1 ∧ r.2 ≤ 20000000000
theorem ROk.rw {r : Int × Int} (h : ROk r.1 r.2) : RW r := by unfold ROk at h; unfold RW; omega
end Go.Hx

/- Layer 3: through scales, by the reference. -/
namespace Go.Hx
set_option linter.unusedSimpArgs false
set_option linter.unusedVariables false
set_option maxRecDepth 20000
set_option maxHeartbeats 4000000
attribute [local irreducible] W R C thenH inBlockH
--dropu
end Go.Hx

/- Layer 3: the law of P3.2 and P3.3, behind its first part. -/
namespace Go.Hx
set_option linter.unusedSimpArgs false
set_option linter.unusedVariables false
set_option maxRecDepth 20000
set_option maxHeartbeats 4000000
attribute [local irreducible] W R C thenH inBlockH
--dropu
section
variable {lp : Nat → Option LFunc} {fl : Nat} {N : HAct → HS → Prop} {a : HAct} {h : Tr HBlk} {nx : Nat} {os : List LOper} {dst : Option Nat} {anc : List Nat}
theorem r_ixs0 {size : Nat} {x : Lo} {b o n c : Nat} {σ : HS} (hx : a.ev x = .slice (some (b, o)) n c) (hj : 0 < n) (hn : R lp fl os N (a.put dst (.ptr (some (b, o + 0 * size)))) σ) : R lp fl (⟨dst, .indexAddrS size x (.c (.int .i64 0)), none, anc⟩ :: os) N a σ :=
  r_ixs (j := 0) hx rfl hj hn
end
end Go.Hx

/- Layer 3: between which pressures a table lies. -/
namespace Go.Hx
set_option linter.unusedSimpArgs false
set_option linter.unusedVariables false
set_option maxRecDepth 20000
set_option maxHeartbeats 4000000
attribute [local irreducible] W R C thenH inBlockH
--dropu
/- 65 -/
theorem c_pressuresOf {fl : Nat} {h : Tr HBlk} {nx : Nat} (hd : D h nx) {p : Option (Nat × Nat)} {l : List (Int × Int)} {n cp : Nat} (hn : n = l.length) (h0 : 0 < l.length) (hlen : l.length < 1000000000) (hrow : Row renc 2 h nx p l) :
    C LW fl 65 [.slice p n cp] ⟨h, nx⟩ (Sc (· = .agg [i64 l[0].1, i64 l[l.length - 1].1]) ⟨h, nx⟩) := by
  subst hn
  obtain ⟨b, o, cs, kk, rfl, hb, hg, hcs⟩ := hrow (by intro e; rw [e] at h0; simp at h0)
  have e0 := take_at (hcs 0 _ (List.getElem?_eq_getElem h0)) (j := 0) (v := i64 l[0].1) rfl
  have e1 := take_at (hcs (l.length - 1) _ (List.getElem?_eq_getElem (show l.length - 1 < l.length by omega))) (j := 0) (v := i64 l[l.length - 1].1) rfl
  have ej : ((l.length : Nat) : Int) - 1 = ((l.length - 1 : Nat) : Int) := by omega
  refine c_in lw65 rfl rfl rfl ?_
  dsimp only [L65]
  repeat' first
   | refine r_nil ?_
   | refine th_n ?_
   | refine th_r ?_
   | refine w_seq ?_
   | refine w_reg ?_
   | refine w_ret ?_
   | refine w_skip ?_
   | refine r_move (by simp (disch:=first|decide|(simp only[zF,zG,hg, ej];decide)) only [zA,zB,zC,zD,zE,zF,zG,zH,zI,zJ,zK,HV.cells,fl0,fl2,flS,flS1,flI1,flU1,flU2,flF,hg, ej]; try exact rfl) ?_
   | refine r_fa (by simp (disch:=first|decide|(simp only[zF,zG,hg, ej];decide)) only [zA,zB,zC,zD,zE,zF,zG,zH,zI,zJ,zK,HV.cells,fl0,fl2,flS,flS1,flI1,flU1,flU2,flF,hg, ej]; try exact rfl) ?_
   | refine r_ld1 (by simp (disch:=first|decide|(simp only[zF,zG,hg, ej];decide)) only [zA,zB,zC,zD,zE,zF,zG,zH,zI,zJ,zK,HV.cells,fl0,fl2,flS,flS1,flI1,flU1,flU2,flF,hg, ej]; try exact rfl) (by first|assumption|(simp (disch:=omega) only [get_same,get_other,hg, ej]; first|done|exact rfl)) (by first|assumption|exact ow2 _ _ _ _|exact ow3 _ _ _ _ _ _|rfl|(simp only [zI,zJ,HV.cells,hg, ej]; exact rfl)) ?_
   | refine r_alloc ?_
   | refine r_st (cs' := _) (by simp (disch:=first|decide|(simp only[zF,zG,hg, ej];decide)) only [zA,zB,zC,zD,zE,zF,zG,zH,zI,zJ,zK,HV.cells,fl0,fl2,flS,flS1,flI1,flU1,flU2,flF,hg, ej]; try exact rfl) (by simp (disch:=first|decide|(simp only[zF,zG,hg, ej];decide)) only [zA,zB,zC,zD,zE,zF,zG,zH,zI,zJ,zK,HV.cells,fl0,fl2,flS,flS1,flI1,flU1,flU2,flF,hg, ej]; try exact rfl) (by first|assumption|(simp (disch:=omega) only [get_same,get_other,hg, ej]; first|done|exact rfl)) (by exact True.intro) (by rfl) (by rfl) (by first|assumption|exact ow2 _ _ _ _|exact ow3 _ _ _ _ _ _|rfl|(simp only [zI,zJ,HV.cells,hg, ej]; exact rfl)) (by omega) ?_
   | refine r_sub (by simp (disch:=first|decide|(simp only[zF,zG,hg, ej];decide)) only [zA,zB,zC,zD,zE,zF,zG,zH,zI,zJ,zK,HV.cells,fl0,fl2,flS,flS1,flI1,flU1,flU2,flF,hg, ej]; try exact rfl) (by simp (disch:=first|decide|(simp only[zF,zG,hg, ej];decide)) only [zA,zB,zC,zD,zE,zF,zG,zH,zI,zJ,zK,HV.cells,fl0,fl2,flS,flS1,flI1,flU1,flU2,flF,hg, ej]; try exact rfl) (by omega) (by omega) ?_
   | refine r_len (by simp (disch:=first|decide|(simp only[zF,zG,hg, ej];decide)) only [zA,zB,zC,zD,zE,zF,zG,zH,zI,zJ,zK,HV.cells,fl0,fl2,flS,flS1,flI1,flU1,flU2,flF,hg, ej]; try exact rfl) ?_
   | refine r_ixs (by simp (disch:=first|decide|(simp only[zF,zG,hg, ej];decide)) only [zA,zB,zC,zD,zE,zF,zG,zH,zI,zJ,zK,HV.cells,fl0,fl2,flS,flS1,flI1,flU1,flU2,flF,hg, ej]; try exact rfl) (by simp (disch:=first|decide|(simp only[zF,zG,hg, ej];decide)) only [zA,zB,zC,zD,zE,zF,zG,zH,zI,zJ,zK,HV.cells,fl0,fl2,flS,flS1,flI1,flU1,flU2,flF,hg, ej]; try exact rfl) (by omega) ?_
   | refine r_build (by simp (disch:=first|decide|(simp only[zF,zG,hg, ej];decide)) only [evParts,List.map_cons,List.map_nil,List.nil_append,List.cons_append,List.append_nil,zA,zB,zC,zD,zE,zF,zG,zH,zI,zJ,zK,HV.cells,fl0,fl2,flS,flS1,flI1,flU1,flU2,flF,hg, ej]; try exact rfl) ?_
   | refine r_ixs0 (by simp (disch:=first|decide|(simp only[zF,zG,hg, ej];decide)) only [zA,zB,zC,zD,zE,zF,zG,zH,zI,zJ,zK,HV.cells,fl0,fl2,flS,flS1,flI1,flU1,flU2,flF,hg, ej]; try exact rfl) (by omega) ?_
   | refine w_draw (by omega) (by (repeat' first|assumption|refine D.upd ?_ (by omega)|exact D.mono (by assumption) (by omega)) <;> fail) ?_
   | refine d_nil ?_
   | refine d_rest rfl ?_
   | refine d_al2 rfl rfl rfl ?_
   | refine d_bs rfl ?_
   | refine d_box rfl ?_
   | refine d_alloc rfl ?_
   | refine d_one rfl ?_
   | refine d_next (by omega) ?_
   | refine d_laid ?_
   | fail
  exact fin_m (by simp only [zL,zM]) (res_c (by simp (disch:=first|decide|(simp only[zF,zG];decide)) only [zA,zB,zC,zD,zE,zF,zG,zH,zI,zJ,zK,HV.cells,fl0,fl2,flS,flS1,flI1,flU1,flU2,flF]; try exact rfl) (by first|assumption|(simp (disch:=omega) only [get_same,get_other]; first|done|exact rfl)) rfl res_nil) (sc_flat rfl (by dsimp only; omega) rfl)
end Go.Hx

