/- Layer 3: the law of P3.11. -/
import Derived.Test.YtpihggnmoljgeaaH07
import Derived.Test.YtpihggnmoljgeaaH05
import Derived.Test.YtpihggnmoljgeaaH00
import Derived.Test.YtpihggnmoljgeaaH02
import Derived.Test.YtpihggnmoljgeaaH01
set_option linter.all false
/- Layer 3: the law of P3.11. -/
namespace Go.Hx
set_option linter.unusedSimpArgs false
set_option linter.unusedVariables false
set_option maxRecDepth 20000
set_option maxHeartbeats 4000000
attribute [local irreducible] W R C thenH inBlockH
--dropu
noncomputable def T12f : LCode := (.seq (.seq (.reg [⟨(.some 120), (.move (.t 20)), .none, []⟩, ⟨(.some 121), (.eq (.cell (.i .i64)) .true (.t 120) (.c (.int .i64 0))), .none, []⟩, ⟨(.some 122), (.move (.t 121)), .none, []⟩, ⟨(.some 123), (.move (.t 22)), (.some (122, .false)), []⟩, ⟨(.some 124), (.eq (.cell (.i .i64)) .true (.t 123) (.c (.int .i64 0))), (.some (122, .false)), []⟩, ⟨(.some 125), (.pick (.t 122) (.c (.bool .true)) (.t 124)), .none, []⟩, ⟨(.some 126), (.move (.t 125)), .none, []⟩, ⟨(.some 127), (.fieldAddr 0 (.t 21)), (.some (126, .false)), []⟩, ⟨(.some 128), (.load .false 1 (.t 127)), (.some (126, .false)), []⟩, ⟨(.some 129), (.fieldAddr 0 (.t 19)), (.some (126, .false)), []⟩, ⟨(.some 130), (.load .false 1 (.t 129)), (.some (126, .false)), []⟩, ⟨(.some 131), (.bin .gtr (.t 128) (.t 130)), (.some (126, .false)), []⟩, ⟨(.some 132), (.pick (.t 126) (.c (.bool .true)) (.t 131)), .none, []⟩, ⟨(.some 133), (.move (.t 132)), .none, []⟩, ⟨(.some 134), (.fieldAddr 1 (.t 21)), (.some (133, .false)), []⟩, ⟨(.some 135), (.load .false 1 (.t 134)), (.some (133, .false)), []⟩, ⟨(.some 136), (.fieldAddr 1 (.t 19)), (.some (133, .false)), []⟩, ⟨(.some 137), (.load .false 1 (.t 136)), (.some (133, .false)), []⟩, ⟨(.some 138), (.bin .lss (.t 135) (.t 137)), (.some (133, .false)), []⟩, ⟨(.some 139), (.pick (.t 133) (.c (.bool .true)) (.t 138)), .none, []⟩]) (.cond (.t 139) (.seq (.reg [⟨(.some 12), (.move (.c (.bool .false))), .none, []⟩]) .ret) .skip)) (.seq (.seq (.reg [⟨(.some 140), (.move (.t 18)), .none, []⟩, ⟨(.some 141), (.eq (.cell (.i .i64)) .true (.t 140) (.c (.int .i64 0))), .none, []⟩]) (.cond (.t 141) (.seq (.reg [⟨(.some 142), (.move (.t 18)), .none, []⟩, ⟨(.some 143), (.eq (.cell (.i .i64)) .false (.t 142) (.c (.int .i64 10))), .none, []⟩, ⟨(.some 144), (.move (.t 143)), .none, []⟩, ⟨(.some 145), (.move (.t 16)), (.some (144, .true)), []⟩, ⟨(.some 146), (.eq (.cell (.i .i64)) .false (.t 145) (.c (.int .i64 0))), (.some (144, .true)), []⟩, ⟨(.some 147), (.move (.t 146)), (.some (144, .true)), []⟩, ⟨(.some 148), (.move (.t 16)), (.some (147, .false)), []⟩, ⟨(.some 149), (.eq (.cell (.i .i64)) .false (.t 148) (.c (.int .i64 10))), (.some (147, .false)), []⟩, ⟨(.some 150), (.pick (.t 147) (.c (.bool .true)) (.t 149)), (.some (144, .true)), []⟩, ⟨(.some 151), (.pick (.t 144) (.t 150) (.c (.bool .false))), .none, []⟩, ⟨(.some 152), (.move (.t 151)), .none, []⟩, ⟨(.some 153), (.call (.c (.func 22 [] [])) []), (.some (152, .true)), []⟩, ⟨(.some 154), (.pick (.t 152) (.t 153) (.c (.bool .false))), .none, []⟩, ⟨(.some 12), (.move (.t 154)), .none, []⟩]) .ret) .skip)) (.seq (.reg [⟨(.some 155), (.move (.t 16)), .none, []⟩, ⟨(.some 156), (.eq (.cell (.i .i64)) .false (.t 155) (.c (.int .i64 0))), .none, []⟩, ⟨(.some 157), (.move (.t 156)), .none, []⟩, ⟨(.some 158), (.fieldAddr 0 (.t 17)), (.some (157, .true)), []⟩, ⟨(.some 159), (.load .false 1 (.t 158)), (.some (157, .true)), []⟩, ⟨(.some 160), (.fieldAddr 0 (.t 15)), (.some (157, .true)), []⟩, ⟨(.some 161), (.load .false 1 (.t 160)), (.some (157, .true)), []⟩, ⟨(.some 162), (.bin .leq (.t 159) (.t 161)), (.some (157, .true)), []⟩, ⟨(.some 163), (.pick (.t 157) (.t 162) (.c (.bool .false))), .none, []⟩, ⟨(.some 164), (.move (.t 163)), .none, []⟩, ⟨(.some 165), (.fieldAddr 1 (.t 17)), (.some (164, .true)), []⟩, ⟨(.some 166), (.load .false 1 (.t 165)), (.some (164, .true)), []⟩, ⟨(.some 167), (.fieldAddr 1 (.t 15)), (.some (164, .true)), []⟩, ⟨(.some 168), (.load .false 1 (.t 167)), (.some (164, .true)), []⟩, ⟨(.some 169), (.bin .geq (.t 166) (.t 168)), (.some (164, .true)), []⟩, ⟨(.some 170), (.pick (.t 164) (.t 169) (.c (.bool .false))), .none, []⟩, ⟨(.some 171), (.move (.t 170)), .none, []⟩, ⟨(.some 172), (.call (.c (.func 22 [] [])) []), (.some (171, .true)), []⟩, ⟨(.some 173), (.pick (.t 171) (.t 172) (.c (.bool .false))), .none, []⟩, ⟨(.some 12), (.move (.t 173)), .none, []⟩]) .ret)))
noncomputable def T12b : LCode := (.seq (.draw 13 [⟨(.some 109), (.load .true 2 (.t 6)), .none, []⟩, ⟨(.some 110), (.call (.c (.func 17 [] [])) [(.t 109)]), .none, []⟩, ⟨(.some 111), (.move (.t 2)), .none, []⟩, ⟨(.some 112), (.call (.c (.func 31 [] [])) [(.t 111)]), .none, [1]⟩, ⟨(.some 113), (.load .true 2 (.t 14)), .none, []⟩, ⟨(.some 114), (.call (.c (.func 19 [] [])) [(.t 113)]), .none, [3, 1]⟩, ⟨(.some 115), (.load .true 2 (.t 13)), .none, []⟩, ⟨(.some 116), (.call (.c (.func 19 [] [])) [(.t 115)]), .none, [5, 3, 1]⟩, ⟨(.some 117), (.call (.c (.func 32 [] [])) [(.t 110), (.t 112), (.t 114), (.t 116)]), .none, [7, 5, 3, 1]⟩, ⟨(.some 108), (.move (.t 117)), .none, [8, 7, 5, 3, 1]⟩, ⟨(.some 118), (.extract (.t 108) 0), .none, [8, 7, 5, 3, 1]⟩, ⟨(.some 119), (.extract (.t 108) 1), .none, [8, 7, 5, 3, 1]⟩, ⟨(.some 21), (.alloc [(.int .i64 0), (.int .i64 0)]), .none, []⟩, ⟨.none, (.store 2 (.t 21) (.t 118)), .none, [12, 8, 7, 5, 3, 1]⟩, ⟨(.some 22), (.move (.t 119)), .none, [12, 8, 7, 5, 3, 1]⟩]) T12f)
noncomputable def T12c : LCode := (.seq (.draw 13 [⟨(.some 97), (.load .true 2 (.t 6)), .none, []⟩, ⟨(.some 98), (.call (.c (.func 17 [] [])) [(.t 97)]), .none, []⟩, ⟨(.some 99), (.move (.t 2)), .none, []⟩, ⟨(.some 100), (.call (.c (.func 31 [] [])) [(.t 99)]), .none, [1]⟩, ⟨(.some 101), (.load .true 2 (.t 9)), .none, []⟩, ⟨(.some 102), (.call (.c (.func 19 [] [])) [(.t 101)]), .none, [3, 1]⟩, ⟨(.some 103), (.load .true 2 (.t 10)), .none, []⟩, ⟨(.some 104), (.call (.c (.func 19 [] [])) [(.t 103)]), .none, [5, 3, 1]⟩, ⟨(.some 105), (.call (.c (.func 32 [] [])) [(.t 98), (.t 100), (.t 102), (.t 104)]), .none, [7, 5, 3, 1]⟩, ⟨(.some 96), (.move (.t 105)), .none, [8, 7, 5, 3, 1]⟩, ⟨(.some 106), (.extract (.t 96) 0), .none, [8, 7, 5, 3, 1]⟩, ⟨(.some 107), (.extract (.t 96) 1), .none, [8, 7, 5, 3, 1]⟩, ⟨(.some 19), (.alloc [(.int .i64 0), (.int .i64 0)]), .none, []⟩, ⟨.none, (.store 2 (.t 19) (.t 106)), .none, [12, 8, 7, 5, 3, 1]⟩, ⟨(.some 20), (.move (.t 107)), .none, [12, 8, 7, 5, 3, 1]⟩]) T12b)
noncomputable def T12e : LCode := (.seq (.reg [⟨(.some 36), (.fieldAddr 0 (.t 10)), .none, []⟩, ⟨(.some 37), (.load .false 1 (.t 36)), .none, []⟩, ⟨(.some 38), (.move (.t 5)), .none, []⟩, ⟨(.some 39), (.convInt .i64 (.t 38)), .none, []⟩, ⟨(.some 40), (.bin .rem (.t 39) (.c (.int .i64 4))), .none, []⟩, ⟨(.some 41), (.bin .sub (.t 37) (.t 40)), .none, []⟩, ⟨(.some 42), (.fieldAddr 1 (.t 10)), .none, []⟩, ⟨(.some 43), (.load .false 1 (.t 42)), .none, []⟩, ⟨(.some 44), (.move (.t 5)), .none, []⟩, ⟨(.some 45), (.convInt .i64 (.t 44)), .none, []⟩, ⟨(.some 46), (.bin .quo (.t 45) (.c (.int .i64 4))), .none, []⟩, ⟨(.some 47), (.bin .rem (.t 46) (.c (.int .i64 4))), .none, []⟩, ⟨(.some 48), (.bin .add (.t 43) (.t 47)), .none, []⟩, ⟨(.some 49), (.build [(.int .i64 0), (.int .i64 0)] [(0, (1, (.t 41))), (1, (1, (.t 48)))]), .none, []⟩, ⟨(.some 13), (.alloc [(.int .i64 0), (.int .i64 0)]), .none, []⟩, ⟨.none, (.store 2 (.t 13) (.t 49)), .none, []⟩]) (.seq (.draw 27 [⟨(.some 50), (.move (.t 2)), .none, []⟩, ⟨(.some 51), (.indexAddrS 2 (.t 50) (.c (.int .i64 0))), .none, []⟩, ⟨(.some 52), (.fieldAddr 0 (.t 51)), .none, []⟩, ⟨(.some 53), (.load .false 1 (.t 52)), .none, []⟩, ⟨(.some 54), (.fieldAddr 0 (.t 9)), .none, []⟩, ⟨(.some 55), (.load .false 1 (.t 54)), .none, []⟩, ⟨(.some 56), (.move (.t 5)), .none, []⟩, ⟨(.some 57), (.convInt .i64 (.t 56)), .none, []⟩, ⟨(.some 58), (.bin .quo (.t 57) (.c (.int .i64 16))), .none, []⟩, ⟨(.some 59), (.bin .sub (.t 55) (.t 58)), .none, []⟩, ⟨(.some 60), (.max [(.t 53), (.t 59)]), .none, []⟩, ⟨(.some 61), (.move (.t 2)), .none, []⟩, ⟨(.some 62), (.move (.t 2)), .none, []⟩, ⟨(.some 63), (.len .slice (.t 62)), .none, []⟩, ⟨(.some 64), (.bin .sub (.t 63) (.c (.int .i64 1))), .none, []⟩, ⟨(.some 65), (.indexAddrS 2 (.t 61) (.t 64)), .none, []⟩, ⟨(.some 66), (.fieldAddr 0 (.t 65)), .none, []⟩, ⟨(.some 67), (.load .false 1 (.t 66)), .none, []⟩, ⟨(.some 68), (.fieldAddr 1 (.t 9)), .none, []⟩, ⟨(.some 69), (.load .false 1 (.t 68)), .none, []⟩, ⟨(.some 70), (.move (.t 5)), .none, []⟩, ⟨(.some 71), (.convInt .i64 (.t 70)), .none, []⟩, ⟨(.some 72), (.bin .quo (.t 71) (.c (.int .i64 8))), .none, []⟩, ⟨(.some 73), (.bin .add (.t 69) (.t 72)), .none, []⟩, ⟨(.some 74), (.min [(.t 67), (.t 73)]), .none, []⟩, ⟨(.some 75), (.build [(.int .i64 0), (.int .i64 0)] [(0, (1, (.t 60))), (1, (1, (.t 74)))]), .none, []⟩, ⟨(.some 14), (.alloc [(.int .i64 0), (.int .i64 0)]), .none, []⟩, ⟨.none, (.store 2 (.t 14) (.t 75)), .none, [26]⟩]) (.seq (.draw 11 [⟨(.some 77), (.load .true 2 (.t 6)), .none, []⟩, ⟨(.some 78), (.call (.c (.func 17 [] [])) [(.t 77)]), .none, []⟩, ⟨(.some 79), (.load .true 2 (.t 7)), .none, []⟩, ⟨(.some 80), (.call (.c (.func 17 [] [])) [(.t 79)]), .none, [1]⟩, ⟨(.some 81), (.load .true 2 (.t 10)), .none, []⟩, ⟨(.some 82), (.call (.c (.func 19 [] [])) [(.t 81)]), .none, [3, 1]⟩, ⟨(.some 83), (.call (.c (.func 27 [] [])) [(.t 78), (.t 80), (.t 82)]), .none, [5, 3, 1]⟩, ⟨(.some 76), (.move (.t 83)), .none, [6, 5, 3, 1]⟩, ⟨(.some 84), (.extract (.t 76) 0), .none, [6, 5, 3, 1]⟩, ⟨(.some 85), (.extract (.t 76) 1), .none, [6, 5, 3, 1]⟩, ⟨(.some 15), (.alloc [(.int .i64 0), (.int .i64 0)]), .none, []⟩, ⟨.none, (.store 2 (.t 15) (.t 84)), .none, [10, 6, 5, 3, 1]⟩, ⟨(.some 16), (.move (.t 85)), .none, [10, 6, 5, 3, 1]⟩]) (.seq (.draw 11 [⟨(.some 87), (.load .true 2 (.t 6)), .none, []⟩, ⟨(.some 88), (.call (.c (.func 17 [] [])) [(.t 87)]), .none, []⟩, ⟨(.some 89), (.load .true 2 (.t 7)), .none, []⟩, ⟨(.some 90), (.call (.c (.func 17 [] [])) [(.t 89)]), .none, [1]⟩, ⟨(.some 91), (.load .true 2 (.t 13)), .none, []⟩, ⟨(.some 92), (.call (.c (.func 19 [] [])) [(.t 91)]), .none, [3, 1]⟩, ⟨(.some 93), (.call (.c (.func 27 [] [])) [(.t 88), (.t 90), (.t 92)]), .none, [5, 3, 1]⟩, ⟨(.some 86), (.move (.t 93)), .none, [6, 5, 3, 1]⟩, ⟨(.some 94), (.extract (.t 86) 0), .none, [6, 5, 3, 1]⟩, ⟨(.some 95), (.extract (.t 86) 1), .none, [6, 5, 3, 1]⟩, ⟨(.some 17), (.alloc [(.int .i64 0), (.int .i64 0)]), .none, []⟩, ⟨.none, (.store 2 (.t 17) (.t 94)), .none, [10, 6, 5, 3, 1]⟩, ⟨(.some 18), (.move (.t 95)), .none, [10, 6, 5, 3, 1]⟩]) T12c))))
noncomputable def H12 : LCode := (.seq (.reg [⟨(.some 6), (.box (.t 0)), .none, []⟩, ⟨(.some 7), (.box (.t 1)), .none, []⟩, ⟨(.some 9), (.box (.t 3)), .none, []⟩, ⟨(.some 10), (.box (.t 4)), .none, []⟩, ⟨(.some 12), (.move (.c (.bool .false))), .none, []⟩]) (.seq (.seq (.reg [⟨(.some 23), (.load .true 2 (.t 6)), .none, []⟩, ⟨(.some 24), (.load .true 2 (.t 7)), .none, []⟩, ⟨(.some 25), (.buildSlice 2 [(.int .i64 0), (.int .i64 0)] [(0, (2, (.t 23))), (2, (2, (.t 24)))]), .none, []⟩, ⟨(.some 26), (.load .true 2 (.t 10)), .none, []⟩, ⟨(.some 27), (.call (.c (.func 48 [] [])) [(.t 25), (.t 26)]), .none, []⟩, ⟨(.some 28), (.un .not (.t 27)), .none, []⟩, ⟨(.some 29), (.move (.t 28)), .none, []⟩, ⟨(.some 30), (.move (.t 2)), (.some (29, .false)), []⟩, ⟨(.some 31), (.load .true 2 (.t 9)), (.some (29, .false)), []⟩, ⟨(.some 32), (.call (.c (.func 50 [] [])) [(.t 30), (.t 31)]), (.some (29, .false)), []⟩, ⟨(.some 33), (.un .not (.t 32)), (.some (29, .false)), []⟩, ⟨(.some 34), (.pick (.t 29) (.c (.bool .true)) (.t 33)), .none, []⟩]) (.cond (.t 34) (.seq (.reg [⟨(.some 35), (.call (.c (.func 22 [] [])) []), .none, []⟩, ⟨(.some 12), (.move (.t 35)), .none, []⟩]) .ret) .skip)) T12e))
theorem l12_eq : L12 = ⟨174, H12, [.t 12], false, none⟩ := rfl
attribute [local irreducible] T12f T12b T12c T12e
theorem boi_ok2 {l : List (Int × Int)} {q q' : Int × Int} (hT : Tbd l q) (h : PrOk l q') : boi l q' = ((stp l q'.1, stp l q'.2), 0) := by
  unfold boi
  rw [if_pos (show chkT l = 0 by unfold chkT; rw [if_pos hT.1, if_pos hT.2.1]), if_pos h]
theorem cor_ok {s r : Int × Int} {l : List (Int × Int)} {q q' : Int × Int} (hT : Tbd l q) (h : PrOk l q') (hr : chkR [s] r = 0) : cor s l q' r = (tru s (stp l q'.1, stp l q'.2) r, 0) := by
  unfold cor
  rw [if_pos (show chkT l = 0 by unfold chkT; rw [if_pos hT.1, if_pos hT.2.1]), if_pos hr, boi_ok2 hT h, if_pos rfl]
theorem min_lin {k a x b : Int} (h1 : a ≤ x) (h2 : x ≤ b) : min (k * a) (k * b) ≤ k * x := by
  rcases Int.le_total 0 k with h | h
  · have := Int.mul_le_mul_of_nonneg_left h1 h
    omega
  · have := Int.mul_le_mul_of_nonpos_left h h2
    omega
theorem max_lin {k a x b : Int} (h1 : a ≤ x) (h2 : x ≤ b) : k * x ≤ max (k * a) (k * b) := by
  rcases Int.le_total 0 k with h | h
  · have := Int.mul_le_mul_of_nonneg_left h2 h
    omega
  · have := Int.mul_le_mul_of_nonpos_left h h1
    omega
theorem cdiv_mono {m n k : Int} (h : 0 < k) (hm : m ≤ n) : cdiv m k ≤ cdiv n k := by
  unfold cdiv
  have := Int.ediv_le_ediv h (show -n ≤ -m by omega)
  omega
theorem hl_wide {s r m : Int × Int} (hr : r.1 ≤ r.2) (h1 : m.1 ≤ r.1) (h2 : r.2 ≤ m.2) : hlo s m ≤ hlo s r ∧ hhi s r ≤ hhi s m := by
  unfold hlo hhi tl th
  cases tn s.1 s.2 <;> simp only [if_true, if_false, Bool.false_eq_true] <;> omega
theorem tru_wide {s q f r m : Int × Int} (hs : 1 ≤ dg s) (hr : r.1 ≤ r.2) (h1 : m.1 ≤ r.1) (h2 : r.2 ≤ m.2) (q0 : 0 ≤ f.1) (q1 : f.1 ≤ q.1) (q2 : q.1 ≤ q.2) (q3 : q.2 ≤ f.2) :
    (tru s f m).1 ≤ (tru s q r).1 ∧ (tru s q r).2 ≤ (tru s f m).2 := by
  obtain ⟨w1, w2⟩ := hl_wide (s := s) hr h1 h2
  unfold tru
  dsimp only
  refine ⟨Int.ediv_le_ediv (by omega) ?_, cdiv_mono (by omega) ?_⟩
  · have a := min_lin (k := hlo s m) q1 (show q.1 ≤ f.2 by omega)
    have b := min_lin (k := hlo s m) (show f.1 ≤ q.2 by omega) q3
    have c := Int.mul_le_mul_of_nonneg_right w1 (show 0 ≤ q.1 by omega)
    have d := Int.mul_le_mul_of_nonneg_right w1 (show 0 ≤ q.2 by omega)
    omega
  · have a := max_lin (k := hhi s m) q1 (show q.1 ≤ f.2 by omega)
    have b := max_lin (k := hhi s m) (show f.1 ≤ q.2 by omega) q3
    have c := Int.mul_le_mul_of_nonneg_right w2 (show 0 ≤ q.1 by omega)
    have d := Int.mul_le_mul_of_nonneg_right w2 (show 0 ≤ q.2 by omega)
    omega
theorem thr_wide {a b r m : Int × Int} (ha : SOk a.1 a.2) (hb : SOk b.1 b.2) (hr : ROk r.1 r.2) (hm : ROk m.1 m.2) (h1 : m.1 ≤ r.1) (h2 : r.2 ≤ m.2) :
    ((thrE [a, b] m).2 = 10 ∧ ((thrE [a, b] r).2 = 0 ∨ (thrE [a, b] r).2 = 10)) ∨ ((thrE [a, b] m).2 = 0 ∧ (thrE [a, b] r).2 = 0 ∧ (thrE [a, b] m).1.1 ≤ (thrE [a, b] r).1.1 ∧ (thrE [a, b] r).1.2 ≤ (thrE [a, b] m).1.2) := by
  have da := s_bd ha
  have db := s_bd hb
  have ga : 1 ≤ dg a := by unfold dg; omega
  have gb : 1 ≤ dg b := by unfold dg; omega
  have hr0 := hr
  unfold ROk at hr0
  obtain ⟨w1, w2⟩ := hl_wide (s := a) hr0.1 h1 h2
  obtain ⟨v1, v2⟩ := son_mono (b := b) ga gb w1 w2
  obtain ⟨u1, u2⟩ := son_sub (tn b.1 b.2) (i := ic b.1 b.2) v1 v2
  have le := son_le (r := r) ga gb hr0.1
  rw [cvt_ok ha hb hr, cvt_ok ha hb hm]
  have s1 : (son a b m).1 ≤ (son a b r).1 := u1
  have s2 : (son a b r).2 ≤ (son a b m).2 := u2
  by_cases hS : ROk (son a b m).1 (son a b m).2
  · have hS2 : ROk (son a b r).1 (son a b r).2 := by unfold ROk at *; omega
    rw [if_pos hS, if_pos hS2]
    exact .inr ⟨rfl, rfl, s1, s2⟩
  · rw [if_neg hS]
    by_cases hS2 : ROk (son a b r).1 (son a b r).2
    · rw [if_pos hS2]; exact .inl ⟨rfl, .inl rfl⟩
    · rw [if_neg hS2]; exact .inl ⟨rfl, .inr rfl⟩
/- 12 -/
theorem rest12f {fl : Nat} {h0 : Tr HBlk} {n0 b15 b17 b19 b21 : Nat} {h : Tr HBlk} {nx : Nat} {a : HAct} {c d P U : Int × Int} {e1 e2 : Int} (he : Ext h0 n0 h nx) (hfl : fl ≤ n0) (hnt : a.nt = 174) (hds : a.defers = []) (hU : U.1 ≤ P.1 ∧ P.2 ≤ U.2) (hC : (e2 = 10 ∧ (e1 = 0 ∨ e1 = 10)) ∨ (e2 = 0 ∧ e1 = 0 ∧ d.1 ≤ c.1 ∧ c.2 ≤ d.2)) (k15 : n0 < b15 ∧ b15 < nx) (g15 : h.get b15 = some (.cells (renc c) .exact)) (h15 : a.tmp 15 = .ptr (some (b15, 0))) (h16 : a.tmp 16 = i64 e1) (k17 : n0 < b17 ∧ b17 < nx) (g17 : h.get b17 = some (.cells (renc d) .exact)) (h17 : a.tmp 17 = .ptr (some (b17, 0))) (h18 : a.tmp 18 = i64 e2) (k19 : n0 < b19 ∧ b19 < nx) (g19 : h.get b19 = some (.cells (renc P) .exact)) (h19 : a.tmp 19 = .ptr (some (b19, 0))) (h20 : a.tmp 20 = i64 0) (k21 : n0 < b21 ∧ b21 < nx) (g21 : h.get b21 = some (.cells (renc U) .exact)) (h21 : a.tmp 21 = .ptr (some (b21, 0))) (h22 : a.tmp 22 = i64 0) :
    W LW fl none T12f (Fin ⟨h0, n0⟩ [.t 12] (Sc (· = .bool true) ⟨h0, n0⟩)) a ⟨h, nx⟩ := by
  have hd := he.d
  have hle := he.le
  unfold T12f
  repeat' first
   | refine r_nil ?_
   | refine th_n ?_
   | refine th_r ?_
   | refine w_seq ?_
   | refine w_reg ?_
   | refine w_ret ?_
   | refine w_skip ?_
   | refine w_t (by simp (disch:=first|decide|(simp only[zF,zG,hnt, h15, h16, h17, h18, h19, h20, h21, h22, g15, g17, g19, g21];decide)) only [zA,zB,zC,zD,zE,zF,zG,zH,zI,zJ,zK,HV.cells,fl0,fl2,flS,flS1,flI1,flU1,flU2,flF,hnt, h15, h16, h17, h18, h19, h20, h21, h22, g15, g17, g19, g21]; first|done|exact rfl) ?_
   | refine w_f (by simp (disch:=first|decide|(simp only[zF,zG,hnt, h15, h16, h17, h18, h19, h20, h21, h22, g15, g17, g19, g21];decide)) only [zA,zB,zC,zD,zE,zF,zG,zH,zI,zJ,zK,HV.cells,fl0,fl2,flS,flS1,flI1,flU1,flU2,flF,hnt, h15, h16, h17, h18, h19, h20, h21, h22, g15, g17, g19, g21]; first|done|exact rfl) ?_
   | refine r_take (by simp (disch:=first|decide|(simp only[zF,zG,hnt, h15, h16, h17, h18, h19, h20, h21, h22, g15, g17, g19, g21];decide)) only [zA,zB,zC,zD,zE,zF,zG,zH,zI,zJ,zK,HV.cells,fl0,fl2,flS,flS1,flI1,flU1,flU2,flF,hnt, h15, h16, h17, h18, h19, h20, h21, h22, g15, g17, g19, g21]; first|done|exact rfl) ?_
   | refine r_drop (by simp (disch:=first|decide|(simp only[zF,zG,Bool.not_true,Bool.not_false,hnt, h15, h16, h17, h18, h19, h20, h21, h22, g15, g17, g19, g21];decide)) only [zA,zB,zC,zD,zE,zF,zG,zH,zI,zJ,zK,HV.cells,fl0,fl2,flS,flS1,flI1,flU1,flU2,flF,Bool.not_true,Bool.not_false,hnt, h15, h16, h17, h18, h19, h20, h21, h22, g15, g17, g19, g21]; first|done|exact rfl) ?_
   | refine r_move (by simp (disch:=first|decide|(simp only[zF,zG,hnt, h15, h16, h17, h18, h19, h20, h21, h22, g15, g17, g19, g21];decide)) only [zA,zB,zC,zD,zE,zF,zG,zH,zI,zJ,zK,HV.cells,fl0,fl2,flS,flS1,flI1,flU1,flU2,flF,hnt, h15, h16, h17, h18, h19, h20, h21, h22, g15, g17, g19, g21]; try exact rfl) ?_
   | refine r_fa (by simp (disch:=first|decide|(simp only[zF,zG,hnt, h15, h16, h17, h18, h19, h20, h21, h22, g15, g17, g19, g21];decide)) only [zA,zB,zC,zD,zE,zF,zG,zH,zI,zJ,zK,HV.cells,fl0,fl2,flS,flS1,flI1,flU1,flU2,flF,hnt, h15, h16, h17, h18, h19, h20, h21, h22, g15, g17, g19, g21]; try exact rfl) ?_
   | refine r_ld1 (by simp (disch:=first|decide|(simp only[zF,zG,hnt, h15, h16, h17, h18, h19, h20, h21, h22, g15, g17, g19, g21];decide)) only [zA,zB,zC,zD,zE,zF,zG,zH,zI,zJ,zK,HV.cells,fl0,fl2,flS,flS1,flI1,flU1,flU2,flF,hnt, h15, h16, h17, h18, h19, h20, h21, h22, g15, g17, g19, g21]; try exact rfl) (by first|assumption|(simp (disch:=omega) only [get_same,get_other,hnt, h15, h16, h17, h18, h19, h20, h21, h22, g15, g17, g19, g21]; first|done|exact rfl)) (by first|assumption|exact ow2 _ _ _ _|exact ow3 _ _ _ _ _ _|rfl|(simp only [zI,zJ,HV.cells,hnt, h15, h16, h17, h18, h19, h20, h21, h22, g15, g17, g19, g21]; exact rfl)) ?_
   | refine r_lss (by simp (disch:=first|decide|(simp only[zF,zG,hnt, h15, h16, h17, h18, h19, h20, h21, h22, g15, g17, g19, g21];decide)) only [zA,zB,zC,zD,zE,zF,zG,zH,zI,zJ,zK,HV.cells,fl0,fl2,flS,flS1,flI1,flU1,flU2,flF,hnt, h15, h16, h17, h18, h19, h20, h21, h22, g15, g17, g19, g21]; try exact rfl) (by simp (disch:=first|decide|(simp only[zF,zG,hnt, h15, h16, h17, h18, h19, h20, h21, h22, g15, g17, g19, g21];decide)) only [zA,zB,zC,zD,zE,zF,zG,zH,zI,zJ,zK,HV.cells,fl0,fl2,flS,flS1,flI1,flU1,flU2,flF,hnt, h15, h16, h17, h18, h19, h20, h21, h22, g15, g17, g19, g21]; try exact rfl) (fun hc => ?_) (fun hc => ?_) <;> (try (exfalso; omega))
   | refine r_leq (by simp (disch:=first|decide|(simp only[zF,zG,hnt, h15, h16, h17, h18, h19, h20, h21, h22, g15, g17, g19, g21];decide)) only [zA,zB,zC,zD,zE,zF,zG,zH,zI,zJ,zK,HV.cells,fl0,fl2,flS,flS1,flI1,flU1,flU2,flF,hnt, h15, h16, h17, h18, h19, h20, h21, h22, g15, g17, g19, g21]; try exact rfl) (by simp (disch:=first|decide|(simp only[zF,zG,hnt, h15, h16, h17, h18, h19, h20, h21, h22, g15, g17, g19, g21];decide)) only [zA,zB,zC,zD,zE,zF,zG,zH,zI,zJ,zK,HV.cells,fl0,fl2,flS,flS1,flI1,flU1,flU2,flF,hnt, h15, h16, h17, h18, h19, h20, h21, h22, g15, g17, g19, g21]; try exact rfl) (fun hc => ?_) (fun hc => ?_) <;> (try (exfalso; omega))
   | refine r_gtr (by simp (disch:=first|decide|(simp only[zF,zG,hnt, h15, h16, h17, h18, h19, h20, h21, h22, g15, g17, g19, g21];decide)) only [zA,zB,zC,zD,zE,zF,zG,zH,zI,zJ,zK,HV.cells,fl0,fl2,flS,flS1,flI1,flU1,flU2,flF,hnt, h15, h16, h17, h18, h19, h20, h21, h22, g15, g17, g19, g21]; try exact rfl) (by simp (disch:=first|decide|(simp only[zF,zG,hnt, h15, h16, h17, h18, h19, h20, h21, h22, g15, g17, g19, g21];decide)) only [zA,zB,zC,zD,zE,zF,zG,zH,zI,zJ,zK,HV.cells,fl0,fl2,flS,flS1,flI1,flU1,flU2,flF,hnt, h15, h16, h17, h18, h19, h20, h21, h22, g15, g17, g19, g21]; try exact rfl) (fun hc => ?_) (fun hc => ?_) <;> (try (exfalso; omega))
   | refine r_geq (by simp (disch:=first|decide|(simp only[zF,zG,hnt, h15, h16, h17, h18, h19, h20, h21, h22, g15, g17, g19, g21];decide)) only [zA,zB,zC,zD,zE,zF,zG,zH,zI,zJ,zK,HV.cells,fl0,fl2,flS,flS1,flI1,flU1,flU2,flF,hnt, h15, h16, h17, h18, h19, h20, h21, h22, g15, g17, g19, g21]; try exact rfl) (by simp (disch:=first|decide|(simp only[zF,zG,hnt, h15, h16, h17, h18, h19, h20, h21, h22, g15, g17, g19, g21];decide)) only [zA,zB,zC,zD,zE,zF,zG,zH,zI,zJ,zK,HV.cells,fl0,fl2,flS,flS1,flI1,flU1,flU2,flF,hnt, h15, h16, h17, h18, h19, h20, h21, h22, g15, g17, g19, g21]; try exact rfl) (fun hc => ?_) (fun hc => ?_) <;> (try (exfalso; omega))
   | refine r_eq (by simp (disch:=first|decide|(simp only[zF,zG,hnt, h15, h16, h17, h18, h19, h20, h21, h22, g15, g17, g19, g21];decide)) only [zA,zB,zC,zD,zE,zF,zG,zH,zI,zJ,zK,HV.cells,fl0,fl2,flS,flS1,flI1,flU1,flU2,flF,hnt, h15, h16, h17, h18, h19, h20, h21, h22, g15, g17, g19, g21]; try exact rfl) (by simp (disch:=first|decide|(simp only[zF,zG,hnt, h15, h16, h17, h18, h19, h20, h21, h22, g15, g17, g19, g21];decide)) only [zA,zB,zC,zD,zE,zF,zG,zH,zI,zJ,zK,HV.cells,fl0,fl2,flS,flS1,flI1,flU1,flU2,flF,hnt, h15, h16, h17, h18, h19, h20, h21, h22, g15, g17, g19, g21]; try exact rfl) (fun hc => ?_) (fun hc => ?_) <;> (try (exfalso; omega))
   | refine r_ne (by simp (disch:=first|decide|(simp only[zF,zG,hnt, h15, h16, h17, h18, h19, h20, h21, h22, g15, g17, g19, g21];decide)) only [zA,zB,zC,zD,zE,zF,zG,zH,zI,zJ,zK,HV.cells,fl0,fl2,flS,flS1,flI1,flU1,flU2,flF,hnt, h15, h16, h17, h18, h19, h20, h21, h22, g15, g17, g19, g21]; try exact rfl) (by simp (disch:=first|decide|(simp only[zF,zG,hnt, h15, h16, h17, h18, h19, h20, h21, h22, g15, g17, g19, g21];decide)) only [zA,zB,zC,zD,zE,zF,zG,zH,zI,zJ,zK,HV.cells,fl0,fl2,flS,flS1,flI1,flU1,flU2,flF,hnt, h15, h16, h17, h18, h19, h20, h21, h22, g15, g17, g19, g21]; try exact rfl) (fun hc => ?_) (fun hc => ?_) <;> (try (exfalso; omega))
   | refine r_pt (by simp (disch:=first|decide|(simp only[zF,zG,hnt, h15, h16, h17, h18, h19, h20, h21, h22, g15, g17, g19, g21];decide)) only [zA,zB,zC,zD,zE,zF,zG,zH,zI,zJ,zK,HV.cells,fl0,fl2,flS,flS1,flI1,flU1,flU2,flF,hnt, h15, h16, h17, h18, h19, h20, h21, h22, g15, g17, g19, g21]; first|done|exact rfl) (by simp (disch:=first|decide|(simp only[zF,zG,hnt, h15, h16, h17, h18, h19, h20, h21, h22, g15, g17, g19, g21];decide)) only [zA,zB,zC,zD,zE,zF,zG,zH,zI,zJ,zK,HV.cells,fl0,fl2,flS,flS1,flI1,flU1,flU2,flF,hnt, h15, h16, h17, h18, h19, h20, h21, h22, g15, g17, g19, g21]; try exact rfl) ?_
   | refine r_pf (by simp (disch:=first|decide|(simp only[zF,zG,hnt, h15, h16, h17, h18, h19, h20, h21, h22, g15, g17, g19, g21];decide)) only [zA,zB,zC,zD,zE,zF,zG,zH,zI,zJ,zK,HV.cells,fl0,fl2,flS,flS1,flI1,flU1,flU2,flF,hnt, h15, h16, h17, h18, h19, h20, h21, h22, g15, g17, g19, g21]; first|done|exact rfl) (by simp (disch:=first|decide|(simp only[zF,zG,hnt, h15, h16, h17, h18, h19, h20, h21, h22, g15, g17, g19, g21];decide)) only [zA,zB,zC,zD,zE,zF,zG,zH,zI,zJ,zK,HV.cells,fl0,fl2,flS,flS1,flI1,flU1,flU2,flF,hnt, h15, h16, h17, h18, h19, h20, h21, h22, g15, g17, g19, g21]; try exact rfl) ?_
   | refine r_calls (by simp (disch:=first|decide|(simp only[zF,zG,hnt, h15, h16, h17, h18, h19, h20, h21, h22, g15, g17, g19, g21];decide)) only [zA,zB,zC,zD,zE,zF,zG,zH,zI,zJ,zK,HV.cells,fl0,fl2,flS,flS1,flI1,flU1,flU2,flF,hnt, h15, h16, h17, h18, h19, h20, h21, h22, g15, g17, g19, g21]; try exact rfl) (by simp (disch:=first|decide|(simp only[zF,zG,hnt, h15, h16, h17, h18, h19, h20, h21, h22, g15, g17, g19, g21];decide)) only [List.map_cons,List.map_nil,List.nil_append,List.cons_append,List.append_nil,zA,zB,zC,zD,zE,zF,zG,zH,zI,zJ,zK,HV.cells,fl0,fl2,flS,flS1,flI1,flU1,flU2,flF,hnt, h15, h16, h17, h18, h19, h20, h21, h22, g15, g17, g19, g21]; first|done|exact rfl) c_wakes (fun n' hn' => ?_)
   | fail
  all_goals (refine fin_r (by simp only [zL, zM, hds]) (by simp (disch:=first|decide|(simp only[zF,zG,hnt];decide)) only [zA,zB,zC,zD,zE,zF,zG,zH,zI,zJ,zK,HV.cells,fl0,fl2,flS,flS1,flI1,flU1,flU2,flF,hnt]; try exact rfl) (sc_flat rfl (by dsimp only; omega) ?_); rfl)
/- 12 -/
theorem rest12b {fl : Nat} {h0 : Tr HBlk} {n0 b13 b14 b15 b17 b19 : Nat} {h : Tr HBlk} {nx : Nat} {a : HAct} {A q r M F c d P U : Int × Int} {e1 e2 : Int} {l : List (Int × Int)} {p : Option (Nat × Nat)} {cp : Nat} (he : Ext h0 n0 h nx) (hfl : fl ≤ n0) (hnt : a.nt = 174) (hds : a.defers = []) (hU : U.1 ≤ P.1 ∧ P.2 ≤ U.2) (hC : (e2 = 10 ∧ (e1 = 0 ∨ e1 = 10)) ∨ (e2 = 0 ∧ e1 = 0 ∧ d.1 ≤ c.1 ∧ c.2 ≤ d.2)) (hT : Tbd l q) (hrow : Row renc 2 h0 n0 p l) (cor1 : cor A l q r = (P, 0)) (cor2 : cor A l F M = (U, 0)) (k0 : n0 + 1 + 1 + 1 < nx) (g6 : h.get n0 = some (.cells (renc A) .exact)) (g9 : h.get (n0 + 1 + 1) = some (.cells (renc q) .exact)) (g10 : h.get (n0 + 1 + 1 + 1) = some (.cells (renc r) .exact)) (h2 : a.tmp 2 = .slice p l.length cp) (h6 : a.tmp 6 = .ptr (some (n0, 0))) (h9 : a.tmp 9 = .ptr (some (n0 + 1 + 1, 0))) (h10 : a.tmp 10 = .ptr (some (n0 + 1 + 1 + 1, 0))) (k13 : n0 < b13 ∧ b13 < nx) (g13 : h.get b13 = some (.cells (renc M) .exact)) (h13 : a.tmp 13 = .ptr (some (b13, 0))) (k14 : n0 < b14 ∧ b14 < nx) (g14 : h.get b14 = some (.cells (renc F) .exact)) (h14 : a.tmp 14 = .ptr (some (b14, 0))) (k15 : n0 < b15 ∧ b15 < nx) (g15 : h.get b15 = some (.cells (renc c) .exact)) (h15 : a.tmp 15 = .ptr (some (b15, 0))) (h16 : a.tmp 16 = i64 e1) (k17 : n0 < b17 ∧ b17 < nx) (g17 : h.get b17 = some (.cells (renc d) .exact)) (h17 : a.tmp 17 = .ptr (some (b17, 0))) (h18 : a.tmp 18 = i64 e2) (k19 : n0 < b19 ∧ b19 < nx) (g19 : h.get b19 = some (.cells (renc P) .exact)) (h19 : a.tmp 19 = .ptr (some (b19, 0))) (h20 : a.tmp 20 = i64 0) :
    W LW fl none T12b (Fin ⟨h0, n0⟩ [.t 12] (Sc (· = .bool true) ⟨h0, n0⟩)) a ⟨h, nx⟩ := by
  have hd := he.d
  have hle := he.le
  obtain ⟨hl8, ht, hP⟩ := id hT
  have hl2 := ht.1
  have hne : l ≠ [] := by intro e; rw [e] at hl2; simp at hl2
  unfold T12b
  repeat' first
   | refine r_nil ?_
   | refine w_seq ?_
   | refine r_move (by simp (disch:=first|decide|(simp only[zF,zG,hnt, h2, h6, h9, h10, h13, h14, h15, h16, h17, h18, g6, g9, g10, g13, g14, g15, g17, h19, h20, g19];decide)) only [zA,zB,zC,zD,zE,zF,zG,zH,zI,zJ,zK,HV.cells,fl0,fl2,flS,flS1,flI1,flU1,flU2,flF,hnt, h2, h6, h9, h10, h13, h14, h15, h16, h17, h18, g6, g9, g10, g13, g14, g15, g17, h19, h20, g19]; try exact rfl) ?_
   | refine r_ldn (by simp (disch:=first|decide|(simp only[zF,zG,hnt, h2, h6, h9, h10, h13, h14, h15, h16, h17, h18, g6, g9, g10, g13, g14, g15, g17, h19, h20, g19];decide)) only [zA,zB,zC,zD,zE,zF,zG,zH,zI,zJ,zK,HV.cells,fl0,fl2,flS,flS1,flI1,flU1,flU2,flF,hnt, h2, h6, h9, h10, h13, h14, h15, h16, h17, h18, g6, g9, g10, g13, g14, g15, g17, h19, h20, g19]; try exact rfl) (by first|assumption|(simp (disch:=omega) only [get_same,get_other,hnt, h2, h6, h9, h10, h13, h14, h15, h16, h17, h18, g6, g9, g10, g13, g14, g15, g17, h19, h20, g19]; first|done|exact rfl)) (by first|assumption|exact ow2 _ _ _ _|exact ow3 _ _ _ _ _ _|rfl|(simp only [zI,zJ,HV.cells,hnt, h2, h6, h9, h10, h13, h14, h15, h16, h17, h18, g6, g9, g10, g13, g14, g15, g17, h19, h20, g19]; exact rfl)) ?_
   | refine r_calls (by simp (disch:=first|decide|(simp only[zF,zG,hnt, h2, h6, h9, h10, h13, h14, h15, h16, h17, h18, g6, g9, g10, g13, g14, g15, g17, h19, h20, g19];decide)) only [zA,zB,zC,zD,zE,zF,zG,zH,zI,zJ,zK,HV.cells,fl0,fl2,flS,flS1,flI1,flU1,flU2,flF,hnt, h2, h6, h9, h10, h13, h14, h15, h16, h17, h18, g6, g9, g10, g13, g14, g15, g17, h19, h20, g19]; try exact rfl) (by simp (disch:=first|decide|(simp only[zF,zG,hnt, h2, h6, h9, h10, h13, h14, h15, h16, h17, h18, g6, g9, g10, g13, g14, g15, g17, h19, h20, g19];decide)) only [List.map_cons,List.map_nil,List.nil_append,List.cons_append,List.append_nil,zA,zB,zC,zD,zE,zF,zG,zH,zI,zJ,zK,HV.cells,fl0,fl2,flS,flS1,flI1,flU1,flU2,flF,hnt, h2, h6, h9, h10, h13, h14, h15, h16, h17, h18, g6, g9, g10, g13, g14, g15, g17, h19, h20, g19]; first|done|exact rfl) c_Scale (fun n' hn' => ?_)
   | refine w_drawg (by omega) ?_
   | refine x_step rfl (by simp (disch:=decide) only [mg_nil,mg_all,mg_in,mg_out,ad_nil,ad_cons]; try exact rfl) ?_
   | refine x_same ?_
   | refine x_call (by omega) (by (repeat' first|assumption|refine D.upd ?_ (by omega)|exact D.mono (by assumption) (by omega)) <;> fail) ?_
   | fail
  refine r_callc (by simp (disch:=first|decide|(simp only[zF,zG,hnt, h2];decide)) only [zA,zB,zC,zD,zE,zF,zG,zH,zI,zJ,zK,HV.cells,fl0,fl2,flS,flS1,flI1,flU1,flU2,flF,hnt, h2]; try exact rfl) (by simp (disch:=first|decide|(simp only[zF,zG,hnt, h2];decide)) only [List.map_cons,List.map_nil,List.nil_append,List.cons_append,List.append_nil,zA,zB,zC,zD,zE,zF,zG,zH,zI,zJ,zK,HV.cells,fl0,fl2,flS,flS1,flI1,flU1,flU2,flF,hnt, h2]; try exact rfl) (c_Table (l := l) (cp := cp) (by (repeat' first|assumption|refine D.upd ?_ (by omega)|exact D.mono (by assumption) (by omega)) <;> fail) rfl (by omega) ((hrow.ext he).ext (by repeat' first|assumption|refine Ext.put ?_ (by omega) (by omega)|exact Ext.up (by assumption) (by omega)|exact Ext.nx (by assumption) (by omega)))) ?_
  rintro v σ ⟨ps, h2', n2, rfl, rfl, ex, hp⟩
  obtain ⟨bs, hb1, hb2, rfl, ks, hbs⟩ := hp hne
  have hle2 := ex.le
  refine r_nil ?_
  refine x_ext ex (fun L aL1 aL2 aL3 => ?_)
  have aX : ∀ g, (addAll g L).get bs = some (.cells (l.flatMap renc) ks) := fun g => aL2 g bs _ hb1 hbs
  have aLa : ∀ g b, b < nx → (addAll g L).get b = g.get b := fun g b hb => aL1 g b (.inl (by omega))
  have aLb : ∀ g b, n2 ≤ b → (addAll g L).get b = g.get b := fun g b hb => aL1 g b (.inr hb)
  have aE : ∀ g n', n2 ≤ n' → D g n' → (∀ b, b < nx → g.get b = h.get b) → Ext h nx (addAll g L) n' := fun g n' hn hg hs => ⟨by omega, aL3 g n' hn hg, fun b hb => (aLa g b (by omega)).trans (hs b hb)⟩
  have cB : ∀ fl g n', n2 ≤ n' → D g n' → C LW fl 32 [.agg (renc A), .slice (some (bs, 0)) l.length l.length, .agg (renc F), .agg (renc M)] ⟨addAll g L, n'⟩ (Sc (· = .tuple [.agg (renc U), i64 0]) ⟨addAll g L, n'⟩) := fun fl g n' hn e => by
    have := c_Corrected (fl := fl) (aL3 g n' hn e) (l := l) (s := A) (q := F) (r := M) (cp := l.length) rfl (Nat.le_refl _) (by omega) (row_flat (k := ks) renc_len (by omega) (aX g))
    rwa [cor2] at this
  repeat' first
   | refine r_nil ?_
   | refine th_n ?_
   | refine r_move (by simp (disch:=first|decide|(simp only[zF,zG,hnt, h2, h6, h9, h10, h13, h14, h15, h16, h17, h18, g6, g9, g10, g13, g14, g15, g17, h19, h20, g19, aLa, aLb];decide)) only [zA,zB,zC,zD,zE,zF,zG,zH,zI,zJ,zK,HV.cells,fl0,fl2,flS,flS1,flI1,flU1,flU2,flF,hnt, h2, h6, h9, h10, h13, h14, h15, h16, h17, h18, g6, g9, g10, g13, g14, g15, g17, h19, h20, g19, aLa, aLb]; try exact rfl) ?_
   | refine r_ldn (by simp (disch:=first|decide|(simp only[zF,zG,hnt, h2, h6, h9, h10, h13, h14, h15, h16, h17, h18, g6, g9, g10, g13, g14, g15, g17, h19, h20, g19, aLa, aLb];decide)) only [zA,zB,zC,zD,zE,zF,zG,zH,zI,zJ,zK,HV.cells,fl0,fl2,flS,flS1,flI1,flU1,flU2,flF,hnt, h2, h6, h9, h10, h13, h14, h15, h16, h17, h18, g6, g9, g10, g13, g14, g15, g17, h19, h20, g19, aLa, aLb]; try exact rfl) (by first|assumption|(simp (disch:=omega) only [get_same,get_other,hnt, h2, h6, h9, h10, h13, h14, h15, h16, h17, h18, g6, g9, g10, g13, g14, g15, g17, h19, h20, g19, aLa, aLb]; first|done|exact rfl)) (by first|assumption|exact ow2 _ _ _ _|exact ow3 _ _ _ _ _ _|rfl|(simp only [zI,zJ,HV.cells,hnt, h2, h6, h9, h10, h13, h14, h15, h16, h17, h18, g6, g9, g10, g13, g14, g15, g17, h19, h20, g19, aLa, aLb]; exact rfl)) ?_
   | refine r_alloc ?_
   | refine r_st (cs' := _) (by simp (disch:=first|decide|(simp only[zF,zG,hnt, h2, h6, h9, h10, h13, h14, h15, h16, h17, h18, g6, g9, g10, g13, g14, g15, g17, h19, h20, g19, aLa, aLb];decide)) only [zA,zB,zC,zD,zE,zF,zG,zH,zI,zJ,zK,HV.cells,fl0,fl2,flS,flS1,flI1,flU1,flU2,flF,hnt, h2, h6, h9, h10, h13, h14, h15, h16, h17, h18, g6, g9, g10, g13, g14, g15, g17, h19, h20, g19, aLa, aLb]; try exact rfl) (by simp (disch:=first|decide|(simp only[zF,zG,hnt, h2, h6, h9, h10, h13, h14, h15, h16, h17, h18, g6, g9, g10, g13, g14, g15, g17, h19, h20, g19, aLa, aLb];decide)) only [zA,zB,zC,zD,zE,zF,zG,zH,zI,zJ,zK,HV.cells,fl0,fl2,flS,flS1,flI1,flU1,flU2,flF,hnt, h2, h6, h9, h10, h13, h14, h15, h16, h17, h18, g6, g9, g10, g13, g14, g15, g17, h19, h20, g19, aLa, aLb]; try exact rfl) (by first|assumption|(simp (disch:=omega) only [get_same,get_other,hnt, h2, h6, h9, h10, h13, h14, h15, h16, h17, h18, g6, g9, g10, g13, g14, g15, g17, h19, h20, g19, aLa, aLb]; first|done|exact rfl)) (by exact True.intro) (by rfl) (by rfl) (by first|assumption|exact ow2 _ _ _ _|exact ow3 _ _ _ _ _ _|rfl|(simp only [zI,zJ,HV.cells,hnt, h2, h6, h9, h10, h13, h14, h15, h16, h17, h18, g6, g9, g10, g13, g14, g15, g17, h19, h20, g19, aLa, aLb]; exact rfl)) (by omega) ?_
   | refine r_ext (by simp (disch:=first|decide|(simp only[zF,zG,hnt, h2, h6, h9, h10, h13, h14, h15, h16, h17, h18, g6, g9, g10, g13, g14, g15, g17, h19, h20, g19, aLa, aLb];decide)) only [zA,zB,zC,zD,zE,zF,zG,zH,zI,zJ,zK,HV.cells,fl0,fl2,flS,flS1,flI1,flU1,flU2,flF,hnt, h2, h6, h9, h10, h13, h14, h15, h16, h17, h18, g6, g9, g10, g13, g14, g15, g17, h19, h20, g19, aLa, aLb]; try exact rfl) (by first|assumption|exact ow2 _ _ _ _|exact ow3 _ _ _ _ _ _|rfl|(simp only [zI,zJ,HV.cells,hnt, h2, h6, h9, h10, h13, h14, h15, h16, h17, h18, g6, g9, g10, g13, g14, g15, g17, h19, h20, g19, aLa, aLb]; exact rfl)) ?_
   | refine r_calls (by simp (disch:=first|decide|(simp only[zF,zG,hnt, h2, h6, h9, h10, h13, h14, h15, h16, h17, h18, g6, g9, g10, g13, g14, g15, g17, h19, h20, g19, aLa, aLb];decide)) only [zA,zB,zC,zD,zE,zF,zG,zH,zI,zJ,zK,HV.cells,fl0,fl2,flS,flS1,flI1,flU1,flU2,flF,hnt, h2, h6, h9, h10, h13, h14, h15, h16, h17, h18, g6, g9, g10, g13, g14, g15, g17, h19, h20, g19, aLa, aLb]; try exact rfl) (by simp (disch:=first|decide|(simp only[zF,zG,hnt, h2, h6, h9, h10, h13, h14, h15, h16, h17, h18, g6, g9, g10, g13, g14, g15, g17, h19, h20, g19, aLa, aLb];decide)) only [List.map_cons,List.map_nil,List.nil_append,List.cons_append,List.append_nil,zA,zB,zC,zD,zE,zF,zG,zH,zI,zJ,zK,HV.cells,fl0,fl2,flS,flS1,flI1,flU1,flU2,flF,hnt, h2, h6, h9, h10, h13, h14, h15, h16, h17, h18, g6, g9, g10, g13, g14, g15, g17, h19, h20, g19, aLa, aLb]; first|done|exact rfl) c_to (fun n' hn' => ?_)
   | refine r_calls (by simp (disch:=first|decide|(simp only[zF,zG,hnt, h2, h6, h9, h10, h13, h14, h15, h16, h17, h18, g6, g9, g10, g13, g14, g15, g17, h19, h20, g19, aLa, aLb];decide)) only [zA,zB,zC,zD,zE,zF,zG,zH,zI,zJ,zK,HV.cells,fl0,fl2,flS,flS1,flI1,flU1,flU2,flF,hnt, h2, h6, h9, h10, h13, h14, h15, h16, h17, h18, g6, g9, g10, g13, g14, g15, g17, h19, h20, g19, aLa, aLb]; try exact rfl) (by simp (disch:=first|decide|(simp only[zF,zG,hnt, h2, h6, h9, h10, h13, h14, h15, h16, h17, h18, g6, g9, g10, g13, g14, g15, g17, h19, h20, g19, aLa, aLb];decide)) only [List.map_cons,List.map_nil,List.nil_append,List.cons_append,List.append_nil,zA,zB,zC,zD,zE,zF,zG,zH,zI,zJ,zK,HV.cells,fl0,fl2,flS,flS1,flI1,flU1,flU2,flF,hnt, h2, h6, h9, h10, h13, h14, h15, h16, h17, h18, g6, g9, g10, g13, g14, g15, g17, h19, h20, g19, aLa, aLb]; first|done|exact rfl) (cB _ _ _ (by omega) (by repeat' first|assumption|refine aL3 _ _ (by omega) ?_|refine D.upd ?_ (by omega)|exact D.mono (by assumption) (by omega))) (fun n' hn' => ?_)
   | refine g_end rfl (by simp (disch:=decide) only [mg_nil,mg_all,mg_in,mg_out,ad_nil,ad_cons]; try exact rfl) ?_
   | refine x_step rfl (by simp (disch:=decide) only [mg_nil,mg_all,mg_in,mg_out,ad_nil,ad_cons]; try exact rfl) ?_
   | refine x_same ?_
   | refine x_new ?_
   | refine x_call (by omega) (by (repeat' first|assumption|refine aL3 _ _ (by omega) ?_|refine D.upd ?_ (by omega)|exact D.mono (by assumption) (by omega)) <;> fail) ?_
   | fail
  refine rest12f (b15 := b15) (b17 := b17) (b19 := b19) (b21 := n') (he.trans (by repeat' first|assumption|refine Ext.put ?_ (by omega) (by omega)|refine aE _ _ (by omega) (by repeat' first|assumption|refine aL3 _ _ (by omega) ?_|refine D.upd ?_ (by omega)|exact D.mono (by assumption) (by omega)) (fun b hb => by simp (disch:=omega) only [get_other])|exact Ext.up (by assumption) (by omega))) hfl ?_ ?_ hU hC (by omega) (by first|assumption|(simp (disch:=omega) only [get_same,get_other,aLa, aLb, g15]; first|done|exact rfl)) ?_ ?_ (by omega) (by first|assumption|(simp (disch:=omega) only [get_same,get_other,aLa, aLb, g17]; first|done|exact rfl)) ?_ ?_ (by omega) (by first|assumption|(simp (disch:=omega) only [get_same,get_other,aLa, aLb, g19]; first|done|exact rfl)) ?_ ?_ (by omega) (by first|assumption|(simp (disch:=omega) only [get_same,get_other]; first|done|exact rfl)) ?_ ?_
  all_goals first|(simp only [zL,zM,zF,zG,hnt, hds, h15, h16, h17, h18, h19, h20];done)|(simp (disch:=first|decide|(simp only[zF,zG,hnt, hds, h15, h16, h17, h18, h19, h20];decide)) only [zA,zB,zC,zD,zE,zF,zG,zH,zI,zJ,zK,HV.cells,fl0,fl2,flS,flS1,flI1,flU1,flU2,flF,hnt, hds, h15, h16, h17, h18, h19, h20];first|done|exact rfl)|assumption
/- 12 -/
theorem rest12c {fl : Nat} {h0 : Tr HBlk} {n0 b13 b14 b15 b17 : Nat} {h : Tr HBlk} {nx : Nat} {a : HAct} {A q r M F c d P U : Int × Int} {e1 e2 : Int} {l : List (Int × Int)} {p : Option (Nat × Nat)} {cp : Nat} (he : Ext h0 n0 h nx) (hfl : fl ≤ n0) (hnt : a.nt = 174) (hds : a.defers = []) (hU : U.1 ≤ P.1 ∧ P.2 ≤ U.2) (hC : (e2 = 10 ∧ (e1 = 0 ∨ e1 = 10)) ∨ (e2 = 0 ∧ e1 = 0 ∧ d.1 ≤ c.1 ∧ c.2 ≤ d.2)) (hT : Tbd l q) (hrow : Row renc 2 h0 n0 p l) (cor1 : cor A l q r = (P, 0)) (cor2 : cor A l F M = (U, 0)) (k0 : n0 + 1 + 1 + 1 < nx) (g6 : h.get n0 = some (.cells (renc A) .exact)) (g9 : h.get (n0 + 1 + 1) = some (.cells (renc q) .exact)) (g10 : h.get (n0 + 1 + 1 + 1) = some (.cells (renc r) .exact)) (h2 : a.tmp 2 = .slice p l.length cp) (h6 : a.tmp 6 = .ptr (some (n0, 0))) (h9 : a.tmp 9 = .ptr (some (n0 + 1 + 1, 0))) (h10 : a.tmp 10 = .ptr (some (n0 + 1 + 1 + 1, 0))) (k13 : n0 < b13 ∧ b13 < nx) (g13 : h.get b13 = some (.cells (renc M) .exact)) (h13 : a.tmp 13 = .ptr (some (b13, 0))) (k14 : n0 < b14 ∧ b14 < nx) (g14 : h.get b14 = some (.cells (renc F) .exact)) (h14 : a.tmp 14 = .ptr (some (b14, 0))) (k15 : n0 < b15 ∧ b15 < nx) (g15 : h.get b15 = some (.cells (renc c) .exact)) (h15 : a.tmp 15 = .ptr (some (b15, 0))) (h16 : a.tmp 16 = i64 e1) (k17 : n0 < b17 ∧ b17 < nx) (g17 : h.get b17 = some (.cells (renc d) .exact)) (h17 : a.tmp 17 = .ptr (some (b17, 0))) (h18 : a.tmp 18 = i64 e2)  :
    W LW fl none T12c (Fin ⟨h0, n0⟩ [.t 12] (Sc (· = .bool true) ⟨h0, n0⟩)) a ⟨h, nx⟩ := by
  have hd := he.d
  have hle := he.le
  obtain ⟨hl8, ht, hP⟩ := id hT
  have hl2 := ht.1
  have hne : l ≠ [] := by intro e; rw [e] at hl2; simp at hl2
  unfold T12c
  repeat' first
   | refine r_nil ?_
   | refine w_seq ?_
   | refine r_move (by simp (disch:=first|decide|(simp only[zF,zG,hnt, h2, h6, h9, h10, h13, h14, h15, h16, h17, h18, g6, g9, g10, g13, g14, g15, g17];decide)) only [zA,zB,zC,zD,zE,zF,zG,zH,zI,zJ,zK,HV.cells,fl0,fl2,flS,flS1,flI1,flU1,flU2,flF,hnt, h2, h6, h9, h10, h13, h14, h15, h16, h17, h18, g6, g9, g10, g13, g14, g15, g17]; try exact rfl) ?_
   | refine r_ldn (by simp (disch:=first|decide|(simp only[zF,zG,hnt, h2, h6, h9, h10, h13, h14, h15, h16, h17, h18, g6, g9, g10, g13, g14, g15, g17];decide)) only [zA,zB,zC,zD,zE,zF,zG,zH,zI,zJ,zK,HV.cells,fl0,fl2,flS,flS1,flI1,flU1,flU2,flF,hnt, h2, h6, h9, h10, h13, h14, h15, h16, h17, h18, g6, g9, g10, g13, g14, g15, g17]; try exact rfl) (by first|assumption|(simp (disch:=omega) only [get_same,get_other,hnt, h2, h6, h9, h10, h13, h14, h15, h16, h17, h18, g6, g9, g10, g13, g14, g15, g17]; first|done|exact rfl)) (by first|assumption|exact ow2 _ _ _ _|exact ow3 _ _ _ _ _ _|rfl|(simp only [zI,zJ,HV.cells,hnt, h2, h6, h9, h10, h13, h14, h15, h16, h17, h18, g6, g9, g10, g13, g14, g15, g17]; exact rfl)) ?_
   | refine r_calls (by simp (disch:=first|decide|(simp only[zF,zG,hnt, h2, h6, h9, h10, h13, h14, h15, h16, h17, h18, g6, g9, g10, g13, g14, g15, g17];decide)) only [zA,zB,zC,zD,zE,zF,zG,zH,zI,zJ,zK,HV.cells,fl0,fl2,flS,flS1,flI1,flU1,flU2,flF,hnt, h2, h6, h9, h10, h13, h14, h15, h16, h17, h18, g6, g9, g10, g13, g14, g15, g17]; try exact rfl) (by simp (disch:=first|decide|(simp only[zF,zG,hnt, h2, h6, h9, h10, h13, h14, h15, h16, h17, h18, g6, g9, g10, g13, g14, g15, g17];decide)) only [List.map_cons,List.map_nil,List.nil_append,List.cons_append,List.append_nil,zA,zB,zC,zD,zE,zF,zG,zH,zI,zJ,zK,HV.cells,fl0,fl2,flS,flS1,flI1,flU1,flU2,flF,hnt, h2, h6, h9, h10, h13, h14, h15, h16, h17, h18, g6, g9, g10, g13, g14, g15, g17]; first|done|exact rfl) c_Scale (fun n' hn' => ?_)
   | refine w_drawg (by omega) ?_
   | refine x_step rfl (by simp (disch:=decide) only [mg_nil,mg_all,mg_in,mg_out,ad_nil,ad_cons]; try exact rfl) ?_
   | refine x_same ?_
   | refine x_call (by omega) (by (repeat' first|assumption|refine D.upd ?_ (by omega)|exact D.mono (by assumption) (by omega)) <;> fail) ?_
   | fail
  refine r_callc (by simp (disch:=first|decide|(simp only[zF,zG,hnt, h2];decide)) only [zA,zB,zC,zD,zE,zF,zG,zH,zI,zJ,zK,HV.cells,fl0,fl2,flS,flS1,flI1,flU1,flU2,flF,hnt, h2]; try exact rfl) (by simp (disch:=first|decide|(simp only[zF,zG,hnt, h2];decide)) only [List.map_cons,List.map_nil,List.nil_append,List.cons_append,List.append_nil,zA,zB,zC,zD,zE,zF,zG,zH,zI,zJ,zK,HV.cells,fl0,fl2,flS,flS1,flI1,flU1,flU2,flF,hnt, h2]; try exact rfl) (c_Table (l := l) (cp := cp) (by (repeat' first|assumption|refine D.upd ?_ (by omega)|exact D.mono (by assumption) (by omega)) <;> fail) rfl (by omega) ((hrow.ext he).ext (by repeat' first|assumption|refine Ext.put ?_ (by omega) (by omega)|exact Ext.up (by assumption) (by omega)|exact Ext.nx (by assumption) (by omega)))) ?_
  rintro v σ ⟨ps, h2', n2, rfl, rfl, ex, hp⟩
  obtain ⟨bs, hb1, hb2, rfl, ks, hbs⟩ := hp hne
  have hle2 := ex.le
  refine r_nil ?_
  refine x_ext ex (fun L aL1 aL2 aL3 => ?_)
  have aX : ∀ g, (addAll g L).get bs = some (.cells (l.flatMap renc) ks) := fun g => aL2 g bs _ hb1 hbs
  have aLa : ∀ g b, b < nx → (addAll g L).get b = g.get b := fun g b hb => aL1 g b (.inl (by omega))
  have aLb : ∀ g b, n2 ≤ b → (addAll g L).get b = g.get b := fun g b hb => aL1 g b (.inr hb)
  have aE : ∀ g n', n2 ≤ n' → D g n' → (∀ b, b < nx → g.get b = h.get b) → Ext h nx (addAll g L) n' := fun g n' hn hg hs => ⟨by omega, aL3 g n' hn hg, fun b hb => (aLa g b (by omega)).trans (hs b hb)⟩
  have cB : ∀ fl g n', n2 ≤ n' → D g n' → C LW fl 32 [.agg (renc A), .slice (some (bs, 0)) l.length l.length, .agg (renc q), .agg (renc r)] ⟨addAll g L, n'⟩ (Sc (· = .tuple [.agg (renc P), i64 0]) ⟨addAll g L, n'⟩) := fun fl g n' hn e => by
    have := c_Corrected (fl := fl) (aL3 g n' hn e) (l := l) (s := A) (q := q) (r := r) (cp := l.length) rfl (Nat.le_refl _) (by omega) (row_flat (k := ks) renc_len (by omega) (aX g))
    rwa [cor1] at this
  repeat' first
   | refine r_nil ?_
   | refine th_n ?_
   | refine r_move (by simp (disch:=first|decide|(simp only[zF,zG,hnt, h2, h6, h9, h10, h13, h14, h15, h16, h17, h18, g6, g9, g10, g13, g14, g15, g17, aLa, aLb];decide)) only [zA,zB,zC,zD,zE,zF,zG,zH,zI,zJ,zK,HV.cells,fl0,fl2,flS,flS1,flI1,flU1,flU2,flF,hnt, h2, h6, h9, h10, h13, h14, h15, h16, h17, h18, g6, g9, g10, g13, g14, g15, g17, aLa, aLb]; try exact rfl) ?_
   | refine r_ldn (by simp (disch:=first|decide|(simp only[zF,zG,hnt, h2, h6, h9, h10, h13, h14, h15, h16, h17, h18, g6, g9, g10, g13, g14, g15, g17, aLa, aLb];decide)) only [zA,zB,zC,zD,zE,zF,zG,zH,zI,zJ,zK,HV.cells,fl0,fl2,flS,flS1,flI1,flU1,flU2,flF,hnt, h2, h6, h9, h10, h13, h14, h15, h16, h17, h18, g6, g9, g10, g13, g14, g15, g17, aLa, aLb]; try exact rfl) (by first|assumption|(simp (disch:=omega) only [get_same,get_other,hnt, h2, h6, h9, h10, h13, h14, h15, h16, h17, h18, g6, g9, g10, g13, g14, g15, g17, aLa, aLb]; first|done|exact rfl)) (by first|assumption|exact ow2 _ _ _ _|exact ow3 _ _ _ _ _ _|rfl|(simp only [zI,zJ,HV.cells,hnt, h2, h6, h9, h10, h13, h14, h15, h16, h17, h18, g6, g9, g10, g13, g14, g15, g17, aLa, aLb]; exact rfl)) ?_
   | refine r_alloc ?_
   | refine r_st (cs' := _) (by simp (disch:=first|decide|(simp only[zF,zG,hnt, h2, h6, h9, h10, h13, h14, h15, h16, h17, h18, g6, g9, g10, g13, g14, g15, g17, aLa, aLb];decide)) only [zA,zB,zC,zD,zE,zF,zG,zH,zI,zJ,zK,HV.cells,fl0,fl2,flS,flS1,flI1,flU1,flU2,flF,hnt, h2, h6, h9, h10, h13, h14, h15, h16, h17, h18, g6, g9, g10, g13, g14, g15, g17, aLa, aLb]; try exact rfl) (by simp (disch:=first|decide|(simp only[zF,zG,hnt, h2, h6, h9, h10, h13, h14, h15, h16, h17, h18, g6, g9, g10, g13, g14, g15, g17, aLa, aLb];decide)) only [zA,zB,zC,zD,zE,zF,zG,zH,zI,zJ,zK,HV.cells,fl0,fl2,flS,flS1,flI1,flU1,flU2,flF,hnt, h2, h6, h9, h10, h13, h14, h15, h16, h17, h18, g6, g9, g10, g13, g14, g15, g17, aLa, aLb]; try exact rfl) (by first|assumption|(simp (disch:=omega) only [get_same,get_other,hnt, h2, h6, h9, h10, h13, h14, h15, h16, h17, h18, g6, g9, g10, g13, g14, g15, g17, aLa, aLb]; first|done|exact rfl)) (by exact True.intro) (by rfl) (by rfl) (by first|assumption|exact ow2 _ _ _ _|exact ow3 _ _ _ _ _ _|rfl|(simp only [zI,zJ,HV.cells,hnt, h2, h6, h9, h10, h13, h14, h15, h16, h17, h18, g6, g9, g10, g13, g14, g15, g17, aLa, aLb]; exact rfl)) (by omega) ?_
   | refine r_ext (by simp (disch:=first|decide|(simp only[zF,zG,hnt, h2, h6, h9, h10, h13, h14, h15, h16, h17, h18, g6, g9, g10, g13, g14, g15, g17, aLa, aLb];decide)) only [zA,zB,zC,zD,zE,zF,zG,zH,zI,zJ,zK,HV.cells,fl0,fl2,flS,flS1,flI1,flU1,flU2,flF,hnt, h2, h6, h9, h10, h13, h14, h15, h16, h17, h18, g6, g9, g10, g13, g14, g15, g17, aLa, aLb]; try exact rfl) (by first|assumption|exact ow2 _ _ _ _|exact ow3 _ _ _ _ _ _|rfl|(simp only [zI,zJ,HV.cells,hnt, h2, h6, h9, h10, h13, h14, h15, h16, h17, h18, g6, g9, g10, g13, g14, g15, g17, aLa, aLb]; exact rfl)) ?_
   | refine r_calls (by simp (disch:=first|decide|(simp only[zF,zG,hnt, h2, h6, h9, h10, h13, h14, h15, h16, h17, h18, g6, g9, g10, g13, g14, g15, g17, aLa, aLb];decide)) only [zA,zB,zC,zD,zE,zF,zG,zH,zI,zJ,zK,HV.cells,fl0,fl2,flS,flS1,flI1,flU1,flU2,flF,hnt, h2, h6, h9, h10, h13, h14, h15, h16, h17, h18, g6, g9, g10, g13, g14, g15, g17, aLa, aLb]; try exact rfl) (by simp (disch:=first|decide|(simp only[zF,zG,hnt, h2, h6, h9, h10, h13, h14, h15, h16, h17, h18, g6, g9, g10, g13, g14, g15, g17, aLa, aLb];decide)) only [List.map_cons,List.map_nil,List.nil_append,List.cons_append,List.append_nil,zA,zB,zC,zD,zE,zF,zG,zH,zI,zJ,zK,HV.cells,fl0,fl2,flS,flS1,flI1,flU1,flU2,flF,hnt, h2, h6, h9, h10, h13, h14, h15, h16, h17, h18, g6, g9, g10, g13, g14, g15, g17, aLa, aLb]; first|done|exact rfl) c_to (fun n' hn' => ?_)
   | refine r_calls (by simp (disch:=first|decide|(simp only[zF,zG,hnt, h2, h6, h9, h10, h13, h14, h15, h16, h17, h18, g6, g9, g10, g13, g14, g15, g17, aLa, aLb];decide)) only [zA,zB,zC,zD,zE,zF,zG,zH,zI,zJ,zK,HV.cells,fl0,fl2,flS,flS1,flI1,flU1,flU2,flF,hnt, h2, h6, h9, h10, h13, h14, h15, h16, h17, h18, g6, g9, g10, g13, g14, g15, g17, aLa, aLb]; try exact rfl) (by simp (disch:=first|decide|(simp only[zF,zG,hnt, h2, h6, h9, h10, h13, h14, h15, h16, h17, h18, g6, g9, g10, g13, g14, g15, g17, aLa, aLb];decide)) only [List.map_cons,List.map_nil,List.nil_append,List.cons_append,List.append_nil,zA,zB,zC,zD,zE,zF,zG,zH,zI,zJ,zK,HV.cells,fl0,fl2,flS,flS1,flI1,flU1,flU2,flF,hnt, h2, h6, h9, h10, h13, h14, h15, h16, h17, h18, g6, g9, g10, g13, g14, g15, g17, aLa, aLb]; first|done|exact rfl) (cB _ _ _ (by omega) (by repeat' first|assumption|refine aL3 _ _ (by omega) ?_|refine D.upd ?_ (by omega)|exact D.mono (by assumption) (by omega))) (fun n' hn' => ?_)
   | refine g_end rfl (by simp (disch:=decide) only [mg_nil,mg_all,mg_in,mg_out,ad_nil,ad_cons]; try exact rfl) ?_
   | refine x_step rfl (by simp (disch:=decide) only [mg_nil,mg_all,mg_in,mg_out,ad_nil,ad_cons]; try exact rfl) ?_
   | refine x_same ?_
   | refine x_new ?_
   | refine x_call (by omega) (by (repeat' first|assumption|refine aL3 _ _ (by omega) ?_|refine D.upd ?_ (by omega)|exact D.mono (by assumption) (by omega)) <;> fail) ?_
   | fail
  refine rest12b (b13 := b13) (b14 := b14) (b15 := b15) (b17 := b17) (b19 := n') (cp := cp) (F := F) (M := M) (q := q) (r := r) (he.trans (by repeat' first|assumption|refine Ext.put ?_ (by omega) (by omega)|refine aE _ _ (by omega) (by repeat' first|assumption|refine aL3 _ _ (by omega) ?_|refine D.upd ?_ (by omega)|exact D.mono (by assumption) (by omega)) (fun b hb => by simp (disch:=omega) only [get_other])|exact Ext.up (by assumption) (by omega))) hfl ?_ ?_ hU hC hT hrow cor1 cor2 (by omega) (by first|assumption|(simp (disch:=omega) only [get_same,get_other,aLa, aLb, g6]; first|done|exact rfl)) (by first|assumption|(simp (disch:=omega) only [get_same,get_other,aLa, aLb, g9]; first|done|exact rfl)) (by first|assumption|(simp (disch:=omega) only [get_same,get_other,aLa, aLb, g10]; first|done|exact rfl)) ?_ ?_ ?_ ?_ (by omega) (by first|assumption|(simp (disch:=omega) only [get_same,get_other,aLa, aLb, g13]; first|done|exact rfl)) ?_ (by omega) (by first|assumption|(simp (disch:=omega) only [get_same,get_other,aLa, aLb, g14]; first|done|exact rfl)) ?_ (by omega) (by first|assumption|(simp (disch:=omega) only [get_same,get_other,aLa, aLb, g15]; first|done|exact rfl)) ?_ ?_ (by omega) (by first|assumption|(simp (disch:=omega) only [get_same,get_other,aLa, aLb, g17]; first|done|exact rfl)) ?_ ?_ (by omega) (by first|assumption|(simp (disch:=omega) only [get_same,get_other]; first|done|exact rfl)) ?_ ?_
  all_goals first|(simp only [zL,zM,zF,zG,hnt, hds, h2, h6, h9, h10, h13, h14, h15, h16, h17, h18];done)|(simp (disch:=first|decide|(simp only[zF,zG,hnt, hds, h2, h6, h9, h10, h13, h14, h15, h16, h17, h18];decide)) only [zA,zB,zC,zD,zE,zF,zG,zH,zI,zJ,zK,HV.cells,fl0,fl2,flS,flS1,flI1,flU1,flU2,flF,hnt, hds, h2, h6, h9, h10, h13, h14, h15, h16, h17, h18];first|done|exact rfl)|assumption
theorem chkR_of {s r : Int × Int} (h1 : SOk s.1 s.2) (h2 : ROk r.1 r.2) : chkR [s] r = 0 := by
  unfold chkR
  rw [if_pos (show chkS [s] = 0 by unfold chkS; rw [if_pos (by simp), if_pos (show LOk [s] from fun x hx => by rw [List.mem_singleton.1 hx]; exact h1)]), if_neg (by simp), if_pos h2]
/- 12 -/
theorem rest12e {fl : Nat} {h0 : Tr HBlk} {n0 : Nat} {h : Tr HBlk} {nx : Nat} {a : HAct} {A B q r : Int × Int} {k : Int} {l : List (Int × Int)} {p : Option (Nat × Nat)} {cp : Nat} (he : Ext h0 n0 h nx) (hfl : fl ≤ n0) (hnt : a.nt = 174) (hds : a.defers = []) (hk : 0 ≤ k ∧ k ≤ 255) (hA : SOk A.1 A.2) (hB : SOk B.1 B.2) (hr : ROk r.1 r.2) (hr2 : -400 ≤ r.1 ∧ r.2 ≤ 400) (hT : Tbd l q) (hrow : Row renc 2 h0 n0 p l)
    (k0 : n0 + 1 + 1 + 1 < nx) (g6 : h.get n0 = some (.cells (renc A) .exact)) (g9 : h.get (n0 + 1 + 1) = some (.cells (renc q) .exact)) (g10 : h.get (n0 + 1 + 1 + 1) = some (.cells (renc r) .exact)) (h2 : a.tmp 2 = .slice p l.length cp) (h6 : a.tmp 6 = .ptr (some (n0, 0))) (h9 : a.tmp 9 = .ptr (some (n0 + 1 + 1, 0))) (h10 : a.tmp 10 = .ptr (some (n0 + 1 + 1 + 1, 0))) (g7 : h.get (n0 + 1) = some (.cells (renc B) .exact)) (h7 : a.tmp 7 = .ptr (some (n0 + 1, 0))) (h5 : a.tmp 5 = .int .u8 k) :
    W LW fl none T12e (Fin ⟨h0, n0⟩ [.t 12] (Sc (· = .bool true) ⟨h0, n0⟩)) a ⟨h, nx⟩ := by
  have hd := he.d
  have hle := he.le
  obtain ⟨hl8, ht, hP⟩ := id hT
  have l2 := ht.1
  obtain ⟨b, o, cs, kk, rfl, hb, hg0, hcs⟩ := id (hrow (by intro e; rw [e] at l2; simp at l2))
  have hg := (he.same b hb).trans hg0
  have e0 := take_at (hcs 0 _ (List.getElem?_eq_getElem (show 0 < l.length by omega))) (j := 0) (v := i64 l[0].1) rfl
  have e1 := take_at (hcs (l.length - 1) _ (List.getElem?_eq_getElem (show l.length - 1 < l.length by omega))) (j := 0) (v := i64 l[l.length - 1].1) rfl
  have ej : ((l.length : Nat) : Int) - 1 = ((l.length - 1 : Nat) : Int) := by omega
  obtain ⟨P1, P2, P3⟩ := id hP
  have pa := pP_at (l := l) (show 0 < l.length by omega)
  have pb := pP_at (l := l) (show l.length - 1 < l.length by omega)
  have sa := ht.2.1 l[0] (List.getElem_mem (by omega))
  have sb := ht.2.1 l[l.length - 1] (List.getElem_mem (by omega))
  unfold StOk at sa sb
  have k1 : Int.tmod k 4 = k % 4 := Int.tmod_eq_emod_of_nonneg hk.1
  have k2 : Int.tdiv k 4 = k / 4 := Int.tdiv_eq_ediv_of_nonneg hk.1
  have k3 : Int.tmod (k / 4) 4 = (k / 4) % 4 := Int.tmod_eq_emod_of_nonneg (by omega)
  have k4 : Int.tdiv k 16 = k / 16 := Int.tdiv_eq_ediv_of_nonneg hk.1
  have k5 : Int.tdiv k 8 = k / 8 := Int.tdiv_eq_ediv_of_nonneg hk.1
  obtain ⟨M, hM⟩ : ∃ M : Int × Int, M = (r.1 - k % 4, r.2 + (k / 4) % 4) := ⟨_, rfl⟩
  obtain ⟨F, hF⟩ : ∃ F : Int × Int, F = (max l[0].1 (q.1 - k / 16), min l[l.length - 1].1 (q.2 + k / 8)) := ⟨_, rfl⟩
  have M1 : M.1 = r.1 - k % 4 := by rw [hM]
  have M2 : M.2 = r.2 + (k / 4) % 4 := by rw [hM]
  have F1 : F.1 = max l[0].1 (q.1 - k / 16) := by rw [hF]
  have F2 : F.2 = min l[l.length - 1].1 (q.2 + k / 8) := by rw [hF]
  have hrr := hr
  unfold ROk at hrr
  have hm : ROk M.1 M.2 := by unfold ROk; omega
  have hPF : PrOk l F := by unfold PrOk; omega
  have hW := thr_wide hA hB hr hm (by omega) (by omega)
  have cA := stp_bd ht (x := F.1) (by omega) (by omega)
  have hp0 := pH_bd ht (j := 0) (by omega)
  have U := tru_wide (s := A) (q := (stp l q.1, stp l q.2)) (f := (stp l F.1, stp l F.2)) (r := r) (m := M) (by have := s_bd hA; unfold dg; omega) (by omega) (by omega) (by omega) (by dsimp only; omega)
    (stg_mono (up_tb ht) l2 (by omega) (by omega) (by omega)) (stg_mono (up_tb ht) l2 P1 P2 P3) (stg_mono (up_tb ht) l2 (by omega) (by omega) (by omega))
  have c1 := cor_ok (s := A) hT hP (chkR_of hA hr)
  have c2 := cor_ok (s := A) hT hPF (chkR_of hA hm)
  obtain ⟨u, hu⟩ : ∃ x, x = tru A (stp l F.1, stp l F.2) M := ⟨_, rfl⟩
  obtain ⟨w, hw⟩ : ∃ x, x = tru A (stp l q.1, stp l q.2) r := ⟨_, rfl⟩
  obtain ⟨c, hc⟩ : ∃ x, x = thrE [A, B] r := ⟨_, rfl⟩
  obtain ⟨d, hdd⟩ : ∃ x, x = thrE [A, B] M := ⟨_, rfl⟩
  rw [← hw, ← hu] at U
  rw [← hw] at c1
  rw [← hu] at c2
  rw [← hc, ← hdd] at hW
  have cV : ∀ fl h' n', D h' n' → C LW fl 27 [.agg (renc A), .agg (renc B), .agg (renc r)] ⟨h', n'⟩ (Sc (· = .tuple [.agg (renc c.1), i64 c.2]) ⟨h', n'⟩) := fun fl h' n' e => cvt_of e (by rw [← hc])
  have cW : ∀ fl h' n', D h' n' → C LW fl 27 [.agg (renc A), .agg (renc B), .agg [i64 (r.1 - k % 4), i64 (r.2 + (k / 4) % 4)]] ⟨h', n'⟩ (Sc (· = .tuple [.agg (renc d.1), i64 d.2]) ⟨h', n'⟩) := fun fl h' n' e => by
    have := cvt_of (fl := fl) (h := h') (nx := n') (a := A) (b := B) (r := M) (c := d.1) (e := d.2) e (by rw [← hdd])
    rwa [show renc M = [i64 (r.1 - k % 4), i64 (r.2 + (k / 4) % 4)] by rw [hM]] at this
  unfold T12e
  repeat' first
   | refine r_nil ?_
   | refine th_n ?_
   | refine w_seq ?_
   | refine w_reg ?_
   | refine r_move (by simp (disch:=first|decide|(simp only[zF,zG,hnt, h2, h5, h6, h7, h9, h10, g6, g7, g9, g10, hg, ej, k1, k2, k3, k4, k5];decide)) only [zA,zB,zC,zD,zE,zF,zG,zH,zI,zJ,zK,HV.cells,fl0,fl2,flS,flS1,flI1,flU1,flU2,flF,hnt, h2, h5, h6, h7, h9, h10, g6, g7, g9, g10, hg, ej, k1, k2, k3, k4, k5]; try exact rfl) ?_
   | refine r_fa (by simp (disch:=first|decide|(simp only[zF,zG,hnt, h2, h5, h6, h7, h9, h10, g6, g7, g9, g10, hg, ej, k1, k2, k3, k4, k5];decide)) only [zA,zB,zC,zD,zE,zF,zG,zH,zI,zJ,zK,HV.cells,fl0,fl2,flS,flS1,flI1,flU1,flU2,flF,hnt, h2, h5, h6, h7, h9, h10, g6, g7, g9, g10, hg, ej, k1, k2, k3, k4, k5]; try exact rfl) ?_
   | refine r_ld1 (by simp (disch:=first|decide|(simp only[zF,zG,hnt, h2, h5, h6, h7, h9, h10, g6, g7, g9, g10, hg, ej, k1, k2, k3, k4, k5];decide)) only [zA,zB,zC,zD,zE,zF,zG,zH,zI,zJ,zK,HV.cells,fl0,fl2,flS,flS1,flI1,flU1,flU2,flF,hnt, h2, h5, h6, h7, h9, h10, g6, g7, g9, g10, hg, ej, k1, k2, k3, k4, k5]; try exact rfl) (by first|assumption|(simp (disch:=omega) only [get_same,get_other,hnt, h2, h5, h6, h7, h9, h10, g6, g7, g9, g10, hg, ej, k1, k2, k3, k4, k5]; first|done|exact rfl)) (by first|assumption|exact ow2 _ _ _ _|exact ow3 _ _ _ _ _ _|rfl|(simp only [zI,zJ,HV.cells,hnt, h2, h5, h6, h7, h9, h10, g6, g7, g9, g10, hg, ej, k1, k2, k3, k4, k5]; exact rfl)) ?_
   | refine r_ldn (by simp (disch:=first|decide|(simp only[zF,zG,hnt, h2, h5, h6, h7, h9, h10, g6, g7, g9, g10, hg, ej, k1, k2, k3, k4, k5];decide)) only [zA,zB,zC,zD,zE,zF,zG,zH,zI,zJ,zK,HV.cells,fl0,fl2,flS,flS1,flI1,flU1,flU2,flF,hnt, h2, h5, h6, h7, h9, h10, g6, g7, g9, g10, hg, ej, k1, k2, k3, k4, k5]; try exact rfl) (by first|assumption|(simp (disch:=omega) only [get_same,get_other,hnt, h2, h5, h6, h7, h9, h10, g6, g7, g9, g10, hg, ej, k1, k2, k3, k4, k5]; first|done|exact rfl)) (by first|assumption|exact ow2 _ _ _ _|exact ow3 _ _ _ _ _ _|rfl|(simp only [zI,zJ,HV.cells,hnt, h2, h5, h6, h7, h9, h10, g6, g7, g9, g10, hg, ej, k1, k2, k3, k4, k5]; exact rfl)) ?_
   | refine r_alloc ?_
   | refine r_st (cs' := _) (by simp (disch:=first|decide|(simp only[zF,zG,hnt, h2, h5, h6, h7, h9, h10, g6, g7, g9, g10, hg, ej, k1, k2, k3, k4, k5];decide)) only [zA,zB,zC,zD,zE,zF,zG,zH,zI,zJ,zK,HV.cells,fl0,fl2,flS,flS1,flI1,flU1,flU2,flF,hnt, h2, h5, h6, h7, h9, h10, g6, g7, g9, g10, hg, ej, k1, k2, k3, k4, k5]; try exact rfl) (by simp (disch:=first|decide|(simp only[zF,zG,hnt, h2, h5, h6, h7, h9, h10, g6, g7, g9, g10, hg, ej, k1, k2, k3, k4, k5];decide)) only [zA,zB,zC,zD,zE,zF,zG,zH,zI,zJ,zK,HV.cells,fl0,fl2,flS,flS1,flI1,flU1,flU2,flF,hnt, h2, h5, h6, h7, h9, h10, g6, g7, g9, g10, hg, ej, k1, k2, k3, k4, k5]; try exact rfl) (by first|assumption|(simp (disch:=omega) only [get_same,get_other,hnt, h2, h5, h6, h7, h9, h10, g6, g7, g9, g10, hg, ej, k1, k2, k3, k4, k5]; first|done|exact rfl)) (by exact True.intro) (by rfl) (by rfl) (by first|assumption|exact ow2 _ _ _ _|exact ow3 _ _ _ _ _ _|rfl|(simp only [zI,zJ,HV.cells,hnt, h2, h5, h6, h7, h9, h10, g6, g7, g9, g10, hg, ej, k1, k2, k3, k4, k5]; exact rfl)) (by omega) ?_
   | refine r_add (by simp (disch:=first|decide|(simp only[zF,zG,hnt, h2, h5, h6, h7, h9, h10, g6, g7, g9, g10, hg, ej, k1, k2, k3, k4, k5];decide)) only [zA,zB,zC,zD,zE,zF,zG,zH,zI,zJ,zK,HV.cells,fl0,fl2,flS,flS1,flI1,flU1,flU2,flF,hnt, h2, h5, h6, h7, h9, h10, g6, g7, g9, g10, hg, ej, k1, k2, k3, k4, k5]; try exact rfl) (by simp (disch:=first|decide|(simp only[zF,zG,hnt, h2, h5, h6, h7, h9, h10, g6, g7, g9, g10, hg, ej, k1, k2, k3, k4, k5];decide)) only [zA,zB,zC,zD,zE,zF,zG,zH,zI,zJ,zK,HV.cells,fl0,fl2,flS,flS1,flI1,flU1,flU2,flF,hnt, h2, h5, h6, h7, h9, h10, g6, g7, g9, g10, hg, ej, k1, k2, k3, k4, k5]; try exact rfl) (by omega) (by omega) ?_
   | refine r_sub (by simp (disch:=first|decide|(simp only[zF,zG,hnt, h2, h5, h6, h7, h9, h10, g6, g7, g9, g10, hg, ej, k1, k2, k3, k4, k5];decide)) only [zA,zB,zC,zD,zE,zF,zG,zH,zI,zJ,zK,HV.cells,fl0,fl2,flS,flS1,flI1,flU1,flU2,flF,hnt, h2, h5, h6, h7, h9, h10, g6, g7, g9, g10, hg, ej, k1, k2, k3, k4, k5]; try exact rfl) (by simp (disch:=first|decide|(simp only[zF,zG,hnt, h2, h5, h6, h7, h9, h10, g6, g7, g9, g10, hg, ej, k1, k2, k3, k4, k5];decide)) only [zA,zB,zC,zD,zE,zF,zG,zH,zI,zJ,zK,HV.cells,fl0,fl2,flS,flS1,flI1,flU1,flU2,flF,hnt, h2, h5, h6, h7, h9, h10, g6, g7, g9, g10, hg, ej, k1, k2, k3, k4, k5]; try exact rfl) (by omega) (by omega) ?_
   | refine r_max2 (by simp (disch:=first|decide|(simp only[zF,zG,hnt, h2, h5, h6, h7, h9, h10, g6, g7, g9, g10, hg, ej, k1, k2, k3, k4, k5];decide)) only [zA,zB,zC,zD,zE,zF,zG,zH,zI,zJ,zK,HV.cells,fl0,fl2,flS,flS1,flI1,flU1,flU2,flF,hnt, h2, h5, h6, h7, h9, h10, g6, g7, g9, g10, hg, ej, k1, k2, k3, k4, k5]; try exact rfl) (by simp (disch:=first|decide|(simp only[zF,zG,hnt, h2, h5, h6, h7, h9, h10, g6, g7, g9, g10, hg, ej, k1, k2, k3, k4, k5];decide)) only [zA,zB,zC,zD,zE,zF,zG,zH,zI,zJ,zK,HV.cells,fl0,fl2,flS,flS1,flI1,flU1,flU2,flF,hnt, h2, h5, h6, h7, h9, h10, g6, g7, g9, g10, hg, ej, k1, k2, k3, k4, k5]; try exact rfl) ?_
   | refine r_min2 (by simp (disch:=first|decide|(simp only[zF,zG,hnt, h2, h5, h6, h7, h9, h10, g6, g7, g9, g10, hg, ej, k1, k2, k3, k4, k5];decide)) only [zA,zB,zC,zD,zE,zF,zG,zH,zI,zJ,zK,HV.cells,fl0,fl2,flS,flS1,flI1,flU1,flU2,flF,hnt, h2, h5, h6, h7, h9, h10, g6, g7, g9, g10, hg, ej, k1, k2, k3, k4, k5]; try exact rfl) (by simp (disch:=first|decide|(simp only[zF,zG,hnt, h2, h5, h6, h7, h9, h10, g6, g7, g9, g10, hg, ej, k1, k2, k3, k4, k5];decide)) only [zA,zB,zC,zD,zE,zF,zG,zH,zI,zJ,zK,HV.cells,fl0,fl2,flS,flS1,flI1,flU1,flU2,flF,hnt, h2, h5, h6, h7, h9, h10, g6, g7, g9, g10, hg, ej, k1, k2, k3, k4, k5]; try exact rfl) ?_
   | refine r_len (by simp (disch:=first|decide|(simp only[zF,zG,hnt, h2, h5, h6, h7, h9, h10, g6, g7, g9, g10, hg, ej, k1, k2, k3, k4, k5];decide)) only [zA,zB,zC,zD,zE,zF,zG,zH,zI,zJ,zK,HV.cells,fl0,fl2,flS,flS1,flI1,flU1,flU2,flF,hnt, h2, h5, h6, h7, h9, h10, g6, g7, g9, g10, hg, ej, k1, k2, k3, k4, k5]; try exact rfl) ?_
   | refine r_ixs (by simp (disch:=first|decide|(simp only[zF,zG,hnt, h2, h5, h6, h7, h9, h10, g6, g7, g9, g10, hg, ej, k1, k2, k3, k4, k5];decide)) only [zA,zB,zC,zD,zE,zF,zG,zH,zI,zJ,zK,HV.cells,fl0,fl2,flS,flS1,flI1,flU1,flU2,flF,hnt, h2, h5, h6, h7, h9, h10, g6, g7, g9, g10, hg, ej, k1, k2, k3, k4, k5]; try exact rfl) (by simp (disch:=first|decide|(simp only[zF,zG,hnt, h2, h5, h6, h7, h9, h10, g6, g7, g9, g10, hg, ej, k1, k2, k3, k4, k5];decide)) only [zA,zB,zC,zD,zE,zF,zG,zH,zI,zJ,zK,HV.cells,fl0,fl2,flS,flS1,flI1,flU1,flU2,flF,hnt, h2, h5, h6, h7, h9, h10, g6, g7, g9, g10, hg, ej, k1, k2, k3, k4, k5]; try exact rfl) (by omega) ?_
   | refine r_ext (by simp (disch:=first|decide|(simp only[zF,zG,hnt, h2, h5, h6, h7, h9, h10, g6, g7, g9, g10, hg, ej, k1, k2, k3, k4, k5];decide)) only [zA,zB,zC,zD,zE,zF,zG,zH,zI,zJ,zK,HV.cells,fl0,fl2,flS,flS1,flI1,flU1,flU2,flF,hnt, h2, h5, h6, h7, h9, h10, g6, g7, g9, g10, hg, ej, k1, k2, k3, k4, k5]; try exact rfl) (by first|assumption|exact ow2 _ _ _ _|exact ow3 _ _ _ _ _ _|rfl|(simp only [zI,zJ,HV.cells,hnt, h2, h5, h6, h7, h9, h10, g6, g7, g9, g10, hg, ej, k1, k2, k3, k4, k5]; exact rfl)) ?_
   | refine r_build (by simp (disch:=first|decide|(simp only[zF,zG,hnt, h2, h5, h6, h7, h9, h10, g6, g7, g9, g10, hg, ej, k1, k2, k3, k4, k5];decide)) only [evParts,List.map_cons,List.map_nil,List.nil_append,List.cons_append,List.append_nil,zA,zB,zC,zD,zE,zF,zG,zH,zI,zJ,zK,HV.cells,fl0,fl2,flS,flS1,flI1,flU1,flU2,flF,hnt, h2, h5, h6, h7, h9, h10, g6, g7, g9, g10, hg, ej, k1, k2, k3, k4, k5]; try exact rfl) ?_
   | refine r_remt (by simp (disch:=first|decide|(simp only[zF,zG,hnt, h2, h5, h6, h7, h9, h10, g6, g7, g9, g10, hg, ej, k1, k2, k3, k4, k5];decide)) only [zA,zB,zC,zD,zE,zF,zG,zH,zI,zJ,zK,HV.cells,fl0,fl2,flS,flS1,flI1,flU1,flU2,flF,hnt, h2, h5, h6, h7, h9, h10, g6, g7, g9, g10, hg, ej, k1, k2, k3, k4, k5]; try exact rfl) (by simp (disch:=first|decide|(simp only[zF,zG,hnt, h2, h5, h6, h7, h9, h10, g6, g7, g9, g10, hg, ej, k1, k2, k3, k4, k5];decide)) only [zA,zB,zC,zD,zE,zF,zG,zH,zI,zJ,zK,HV.cells,fl0,fl2,flS,flS1,flI1,flU1,flU2,flF,hnt, h2, h5, h6, h7, h9, h10, g6, g7, g9, g10, hg, ej, k1, k2, k3, k4, k5]; try exact rfl) (by omega) ?_
   | refine r_quot (by simp (disch:=first|decide|(simp only[zF,zG,hnt, h2, h5, h6, h7, h9, h10, g6, g7, g9, g10, hg, ej, k1, k2, k3, k4, k5];decide)) only [zA,zB,zC,zD,zE,zF,zG,zH,zI,zJ,zK,HV.cells,fl0,fl2,flS,flS1,flI1,flU1,flU2,flF,hnt, h2, h5, h6, h7, h9, h10, g6, g7, g9, g10, hg, ej, k1, k2, k3, k4, k5]; try exact rfl) (by simp (disch:=first|decide|(simp only[zF,zG,hnt, h2, h5, h6, h7, h9, h10, g6, g7, g9, g10, hg, ej, k1, k2, k3, k4, k5];decide)) only [zA,zB,zC,zD,zE,zF,zG,zH,zI,zJ,zK,HV.cells,fl0,fl2,flS,flS1,flI1,flU1,flU2,flF,hnt, h2, h5, h6, h7, h9, h10, g6, g7, g9, g10, hg, ej, k1, k2, k3, k4, k5]; try exact rfl) (by omega) (by omega) ?_
   | refine r_conv (by simp (disch:=first|decide|(simp only[zF,zG,hnt, h2, h5, h6, h7, h9, h10, g6, g7, g9, g10, hg, ej, k1, k2, k3, k4, k5];decide)) only [zA,zB,zC,zD,zE,zF,zG,zH,zI,zJ,zK,HV.cells,fl0,fl2,flS,flS1,flI1,flU1,flU2,flF,hnt, h2, h5, h6, h7, h9, h10, g6, g7, g9, g10, hg, ej, k1, k2, k3, k4, k5]; try exact rfl) (by omega) (by omega) ?_
   | refine r_ixs0 (by simp (disch:=first|decide|(simp only[zF,zG,hnt, h2, h5, h6, h7, h9, h10, g6, g7, g9, g10, hg, ej, k1, k2, k3, k4, k5];decide)) only [zA,zB,zC,zD,zE,zF,zG,zH,zI,zJ,zK,HV.cells,fl0,fl2,flS,flS1,flI1,flU1,flU2,flF,hnt, h2, h5, h6, h7, h9, h10, g6, g7, g9, g10, hg, ej, k1, k2, k3, k4, k5]; try exact rfl) (by omega) ?_
   | refine r_calls (by simp (disch:=first|decide|(simp only[zF,zG,hnt, h2, h5, h6, h7, h9, h10, g6, g7, g9, g10, hg, ej, k1, k2, k3, k4, k5];decide)) only [zA,zB,zC,zD,zE,zF,zG,zH,zI,zJ,zK,HV.cells,fl0,fl2,flS,flS1,flI1,flU1,flU2,flF,hnt, h2, h5, h6, h7, h9, h10, g6, g7, g9, g10, hg, ej, k1, k2, k3, k4, k5]; try exact rfl) (by simp (disch:=first|decide|(simp only[zF,zG,hnt, h2, h5, h6, h7, h9, h10, g6, g7, g9, g10, hg, ej, k1, k2, k3, k4, k5];decide)) only [List.map_cons,List.map_nil,List.nil_append,List.cons_append,List.append_nil,zA,zB,zC,zD,zE,zF,zG,zH,zI,zJ,zK,HV.cells,fl0,fl2,flS,flS1,flI1,flU1,flU2,flF,hnt, h2, h5, h6, h7, h9, h10, g6, g7, g9, g10, hg, ej, k1, k2, k3, k4, k5]; first|done|exact rfl) c_Scale (fun n' hn' => ?_)
   | refine r_calls (by simp (disch:=first|decide|(simp only[zF,zG,hnt, h2, h5, h6, h7, h9, h10, g6, g7, g9, g10, hg, ej, k1, k2, k3, k4, k5];decide)) only [zA,zB,zC,zD,zE,zF,zG,zH,zI,zJ,zK,HV.cells,fl0,fl2,flS,flS1,flI1,flU1,flU2,flF,hnt, h2, h5, h6, h7, h9, h10, g6, g7, g9, g10, hg, ej, k1, k2, k3, k4, k5]; try exact rfl) (by simp (disch:=first|decide|(simp only[zF,zG,hnt, h2, h5, h6, h7, h9, h10, g6, g7, g9, g10, hg, ej, k1, k2, k3, k4, k5];decide)) only [List.map_cons,List.map_nil,List.nil_append,List.cons_append,List.append_nil,zA,zB,zC,zD,zE,zF,zG,zH,zI,zJ,zK,HV.cells,fl0,fl2,flS,flS1,flI1,flU1,flU2,flF,hnt, h2, h5, h6, h7, h9, h10, g6, g7, g9, g10, hg, ej, k1, k2, k3, k4, k5]; first|done|exact rfl) c_to (fun n' hn' => ?_)
   | refine r_calls (by simp (disch:=first|decide|(simp only[zF,zG,hnt, h2, h5, h6, h7, h9, h10, g6, g7, g9, g10, hg, ej, k1, k2, k3, k4, k5];decide)) only [zA,zB,zC,zD,zE,zF,zG,zH,zI,zJ,zK,HV.cells,fl0,fl2,flS,flS1,flI1,flU1,flU2,flF,hnt, h2, h5, h6, h7, h9, h10, g6, g7, g9, g10, hg, ej, k1, k2, k3, k4, k5]; try exact rfl) (by simp (disch:=first|decide|(simp only[zF,zG,hnt, h2, h5, h6, h7, h9, h10, g6, g7, g9, g10, hg, ej, k1, k2, k3, k4, k5];decide)) only [List.map_cons,List.map_nil,List.nil_append,List.cons_append,List.append_nil,zA,zB,zC,zD,zE,zF,zG,zH,zI,zJ,zK,HV.cells,fl0,fl2,flS,flS1,flI1,flU1,flU2,flF,hnt, h2, h5, h6, h7, h9, h10, g6, g7, g9, g10, hg, ej, k1, k2, k3, k4, k5]; first|done|exact rfl) (cV _ _ _ (by (repeat' first|assumption|refine D.upd ?_ (by omega)|exact D.mono (by assumption) (by omega)) <;> fail)) (fun n' hn' => ?_)
   | refine r_calls (by simp (disch:=first|decide|(simp only[zF,zG,hnt, h2, h5, h6, h7, h9, h10, g6, g7, g9, g10, hg, ej, k1, k2, k3, k4, k5];decide)) only [zA,zB,zC,zD,zE,zF,zG,zH,zI,zJ,zK,HV.cells,fl0,fl2,flS,flS1,flI1,flU1,flU2,flF,hnt, h2, h5, h6, h7, h9, h10, g6, g7, g9, g10, hg, ej, k1, k2, k3, k4, k5]; try exact rfl) (by simp (disch:=first|decide|(simp only[zF,zG,hnt, h2, h5, h6, h7, h9, h10, g6, g7, g9, g10, hg, ej, k1, k2, k3, k4, k5];decide)) only [List.map_cons,List.map_nil,List.nil_append,List.cons_append,List.append_nil,zA,zB,zC,zD,zE,zF,zG,zH,zI,zJ,zK,HV.cells,fl0,fl2,flS,flS1,flI1,flU1,flU2,flF,hnt, h2, h5, h6, h7, h9, h10, g6, g7, g9, g10, hg, ej, k1, k2, k3, k4, k5]; first|done|exact rfl) (cW _ _ _ (by (repeat' first|assumption|refine D.upd ?_ (by omega)|exact D.mono (by assumption) (by omega)) <;> fail)) (fun n' hn' => ?_)
   | refine w_drawg (by omega) ?_
   | refine g_end rfl (by simp (disch:=decide) only [mg_nil,mg_all,mg_in,mg_out,ad_nil,ad_cons]; try exact rfl) ?_
   | refine x_step rfl (by simp (disch:=decide) only [mg_nil,mg_all,mg_in,mg_out,ad_nil,ad_cons]; try exact rfl) ?_
   | refine x_same ?_
   | refine x_new ?_
   | refine x_call (by omega) (by (repeat' first|assumption|refine D.upd ?_ (by omega)|exact D.mono (by assumption) (by omega)) <;> fail) ?_
   | fail
  rename_i m6 _ m5 _ m4 _ m3 _ m2 _ m1 _ m0 _
  refine rest12c (b13 := nx) (b14 := nx + 1) (b15 := m3) (b17 := n') (cp := cp) (M := M) (F := F) (c := c.1) (d := d.1) (e1 := c.2) (e2 := d.2) (he.trans (by repeat' first|assumption|refine Ext.put ?_ (by omega) (by omega)|exact Ext.up (by assumption) (by omega)|exact Ext.nx (by assumption) (by omega))) hfl ?_ ?_ U hW hT hrow c1 c2 (by omega) (by first|assumption|(simp (disch:=omega) only [get_same,get_other,g6]; first|done|exact rfl)) (by first|assumption|(simp (disch:=omega) only [get_same,get_other,g9]; first|done|exact rfl)) (by first|assumption|(simp (disch:=omega) only [get_same,get_other,g10]; first|done|exact rfl)) ?_ ?_ ?_ ?_ (by omega) ?_ ?_ (by omega) ?_ ?_ (by omega) (by first|assumption|(simp (disch:=omega) only [get_same,get_other]; first|done|exact rfl)) ?_ ?_ (by omega) (by first|assumption|(simp (disch:=omega) only [get_same,get_other]; first|done|exact rfl)) ?_ ?_
  all_goals try first|(simp only [zL,zM,zF,zG,hnt, hds, h2, h6, h9, h10];done)|(simp (disch:=first|decide|(simp only[zF,zG,hnt, hds, h2, h6, h9, h10];decide)) only [zA,zB,zC,zD,zE,zF,zG,zH,zI,zJ,zK,HV.cells,fl0,fl2,flS,flS1,flI1,flU1,flU2,flF,hnt, hds, h2, h6, h9, h10];first|done|exact rfl)|assumption
  · rw [hM]; exact (by first|assumption|(simp (disch:=omega) only [get_same,get_other]; first|done|exact rfl))
  · rw [hF]; exact (by first|assumption|(simp (disch:=omega) only [get_same,get_other]; first|done|exact rfl))
/- 12 -/
theorem c_law12 {fl : Nat} {h : Tr HBlk} {nx : Nat} (hd : D h nx) {A B q r : Int × Int} {k : Int} {l : List (Int × Int)} {p : Option (Nat × Nat)} {n cp : Nat} (hn : n = l.length) (hrow : Row renc 2 h nx p l) (hk : 0 ≤ k ∧ k ≤ 255) :
    C LW fl 12 [.agg (renc A), .agg (renc B), .slice p n cp, .agg (renc q), .agg (renc r), .int .u8 k] ⟨h, nx⟩ (Sc (· = .bool true) ⟨h, nx⟩) := by
  subst hn
  refine c_in (lw12.trans (congrArg some l12_eq)) rfl rfl rfl ?_
  dsimp only
  unfold H12
  have cT : ∀ fl h' n', Ext h nx h' n' → C LW fl 50 [.slice p l.length cp, .agg (renc q)] ⟨h', n'⟩ (Sc (· = .bool (decide (Tbd l q))) ⟨h', n'⟩) := fun fl h' n' e => c_tabled e.d rfl (hrow.ext e)
  repeat' first
   | refine r_nil ?_
   | refine th_n ?_
   | refine w_seq ?_
   | refine w_reg ?_
   | refine r_move (by simp (disch:=first|decide|(simp only[zF,zG];decide)) only [zA,zB,zC,zD,zE,zF,zG,zH,zI,zJ,zK,HV.cells,fl0,fl2,flS,flS1,flI1,flU1,flU2,flF]; try exact rfl) ?_
   | refine r_ldn (by simp (disch:=first|decide|(simp only[zF,zG];decide)) only [zA,zB,zC,zD,zE,zF,zG,zH,zI,zJ,zK,HV.cells,fl0,fl2,flS,flS1,flI1,flU1,flU2,flF]; try exact rfl) (by first|assumption|(simp (disch:=omega) only [get_same,get_other]; first|done|exact rfl)) (by first|assumption|exact ow2 _ _ _ _|exact ow3 _ _ _ _ _ _|rfl|(simp only [zI,zJ,HV.cells]; exact rfl)) ?_
   | refine r_box (by simp (disch:=first|decide|(simp only[zF,zG];decide)) only [zA,zB,zC,zD,zE,zF,zG,zH,zI,zJ,zK,HV.cells,fl0,fl2,flS,flS1,flI1,flU1,flU2,flF]; try exact rfl) ?_
   | refine r_bs (by simp (disch:=first|decide|(simp only[zF,zG];decide)) only [evParts,List.map_cons,List.map_nil,List.nil_append,List.cons_append,List.append_nil,zA,zB,zC,zD,zE,zF,zG,zH,zI,zJ,zK,HV.cells,fl0,fl2,flS,flS1,flI1,flU1,flU2,flF]; try exact rfl) ?_
   | fail
  refine r_calld (by simp (disch:=first|decide|(simp only[zF,zG];decide)) only [zA,zB,zC,zD,zE,zF,zG,zH,zI,zJ,zK,HV.cells,fl0,fl2,flS,flS1,flI1,flU1,flU2,flF]; try exact rfl) (by simp (disch:=first|decide|(simp only[zF,zG];decide)) only [List.map_cons,List.map_nil,List.nil_append,List.cons_append,List.append_nil,zA,zB,zC,zD,zE,zF,zG,zH,zI,zJ,zK,HV.cells,fl0,fl2,flS,flS1,flI1,flU1,flU2,flF]; try exact rfl) (c_ready (l := [A, B]) (r := r) (cp := 2) (by (repeat' first|assumption|refine D.upd ?_ (by omega)|exact D.mono (by assumption) (by omega)) <;> fail) rfl (by simp) (row_flat (k := .exact) renc_len (by omega) (by first|assumption|(simp (disch:=omega) only [get_same,get_other]; first|done|exact rfl)))) (fun n1 hn1 hc => ?_) (fun n1 hn1 hc => ?_)
  rotate_left
  · repeat' first
     | refine r_nil ?_
     | refine th_n ?_
     | refine th_r ?_
     | refine w_seq ?_
     | refine w_reg ?_
     | refine w_ret ?_
     | refine w_t (by simp (disch:=first|decide|(simp only[zF,zG];decide)) only [zA,zB,zC,zD,zE,zF,zG,zH,zI,zJ,zK,HV.cells,fl0,fl2,flS,flS1,flI1,flU1,flU2,flF]; first|done|exact rfl) ?_
     | refine r_drop (by simp (disch:=first|decide|(simp only[zF,zG,Bool.not_true,Bool.not_false];decide)) only [zA,zB,zC,zD,zE,zF,zG,zH,zI,zJ,zK,HV.cells,fl0,fl2,flS,flS1,flI1,flU1,flU2,flF,Bool.not_true,Bool.not_false]; first|done|exact rfl) ?_
     | refine r_move (by simp (disch:=first|decide|(simp only[zF,zG];decide)) only [zA,zB,zC,zD,zE,zF,zG,zH,zI,zJ,zK,HV.cells,fl0,fl2,flS,flS1,flI1,flU1,flU2,flF]; try exact rfl) ?_
     | refine r_not1 (by simp (disch:=first|decide|(simp only[zF,zG];decide)) only [zA,zB,zC,zD,zE,zF,zG,zH,zI,zJ,zK,HV.cells,fl0,fl2,flS,flS1,flI1,flU1,flU2,flF]; try exact rfl) ?_
     | refine r_pt (by simp (disch:=first|decide|(simp only[zF,zG];decide)) only [zA,zB,zC,zD,zE,zF,zG,zH,zI,zJ,zK,HV.cells,fl0,fl2,flS,flS1,flI1,flU1,flU2,flF]; first|done|exact rfl) (by simp (disch:=first|decide|(simp only[zF,zG];decide)) only [zA,zB,zC,zD,zE,zF,zG,zH,zI,zJ,zK,HV.cells,fl0,fl2,flS,flS1,flI1,flU1,flU2,flF]; try exact rfl) ?_
     | refine r_calls (by simp (disch:=first|decide|(simp only[zF,zG];decide)) only [zA,zB,zC,zD,zE,zF,zG,zH,zI,zJ,zK,HV.cells,fl0,fl2,flS,flS1,flI1,flU1,flU2,flF]; try exact rfl) (by simp (disch:=first|decide|(simp only[zF,zG];decide)) only [List.map_cons,List.map_nil,List.nil_append,List.cons_append,List.append_nil,zA,zB,zC,zD,zE,zF,zG,zH,zI,zJ,zK,HV.cells,fl0,fl2,flS,flS1,flI1,flU1,flU2,flF]; first|done|exact rfl) c_wakes (fun n' hn' => ?_)
     | fail
    refine fin_r (by simp only [zL,zM]) (by simp (disch:=first|decide|(simp only[zF,zG];decide)) only [zA,zB,zC,zD,zE,zF,zG,zH,zI,zJ,zK,HV.cells,fl0,fl2,flS,flS1,flI1,flU1,flU2,flF]; try exact rfl) (sc_flat rfl (by dsimp only; omega) ?_); rfl
  repeat' first
   | refine r_nil ?_
   | refine th_n ?_
   | refine w_seq ?_
   | refine w_reg ?_
   | refine w_skip ?_
   | refine w_t (by simp (disch:=first|decide|(simp only[zF,zG];decide)) only [zA,zB,zC,zD,zE,zF,zG,zH,zI,zJ,zK,HV.cells,fl0,fl2,flS,flS1,flI1,flU1,flU2,flF]; first|done|exact rfl) ?_
   | refine w_f (by simp (disch:=first|decide|(simp only[zF,zG];decide)) only [zA,zB,zC,zD,zE,zF,zG,zH,zI,zJ,zK,HV.cells,fl0,fl2,flS,flS1,flI1,flU1,flU2,flF]; first|done|exact rfl) ?_
   | refine r_take (by simp (disch:=first|decide|(simp only[zF,zG];decide)) only [zA,zB,zC,zD,zE,zF,zG,zH,zI,zJ,zK,HV.cells,fl0,fl2,flS,flS1,flI1,flU1,flU2,flF]; first|done|exact rfl) ?_
   | refine r_move (by simp (disch:=first|decide|(simp only[zF,zG];decide)) only [zA,zB,zC,zD,zE,zF,zG,zH,zI,zJ,zK,HV.cells,fl0,fl2,flS,flS1,flI1,flU1,flU2,flF]; try exact rfl) ?_
   | refine r_ldn (by simp (disch:=first|decide|(simp only[zF,zG];decide)) only [zA,zB,zC,zD,zE,zF,zG,zH,zI,zJ,zK,HV.cells,fl0,fl2,flS,flS1,flI1,flU1,flU2,flF]; try exact rfl) (by first|assumption|(simp (disch:=omega) only [get_same,get_other]; first|done|exact rfl)) (by first|assumption|exact ow2 _ _ _ _|exact ow3 _ _ _ _ _ _|rfl|(simp only [zI,zJ,HV.cells]; exact rfl)) ?_
   | refine r_not1 (by simp (disch:=first|decide|(simp only[zF,zG];decide)) only [zA,zB,zC,zD,zE,zF,zG,zH,zI,zJ,zK,HV.cells,fl0,fl2,flS,flS1,flI1,flU1,flU2,flF]; try exact rfl) ?_
   | refine r_pf (by simp (disch:=first|decide|(simp only[zF,zG];decide)) only [zA,zB,zC,zD,zE,zF,zG,zH,zI,zJ,zK,HV.cells,fl0,fl2,flS,flS1,flI1,flU1,flU2,flF]; first|done|exact rfl) (by simp (disch:=first|decide|(simp only[zF,zG];decide)) only [zA,zB,zC,zD,zE,zF,zG,zH,zI,zJ,zK,HV.cells,fl0,fl2,flS,flS1,flI1,flU1,flU2,flF]; try exact rfl) ?_
   | refine r_calld (by simp (disch:=first|decide|(simp only[zF,zG];decide)) only [zA,zB,zC,zD,zE,zF,zG,zH,zI,zJ,zK,HV.cells,fl0,fl2,flS,flS1,flI1,flU1,flU2,flF]; try exact rfl) (by simp (disch:=first|decide|(simp only[zF,zG];decide)) only [List.map_cons,List.map_nil,List.nil_append,List.cons_append,List.append_nil,zA,zB,zC,zD,zE,zF,zG,zH,zI,zJ,zK,HV.cells,fl0,fl2,flS,flS1,flI1,flU1,flU2,flF]; first|done|exact rfl) (cT _ _ _ (by repeat' first|assumption|refine Ext.put ?_ (by omega) (by omega)|exact Ext.up (by assumption) (by omega)|exact Ext.nx (by assumption) (by omega))) (fun n' hn' hc => ?_) (fun n' hn' hc => ?_) <;> (try (exfalso; omega))
   | fail
  rotate_left
  · repeat' first
     | refine r_nil ?_
     | refine th_n ?_
     | refine th_r ?_
     | refine w_ret ?_
     | refine r_move (by simp (disch:=first|decide|(simp only[zF,zG];decide)) only [zA,zB,zC,zD,zE,zF,zG,zH,zI,zJ,zK,HV.cells,fl0,fl2,flS,flS1,flI1,flU1,flU2,flF]; try exact rfl) ?_
     | refine r_calls (by simp (disch:=first|decide|(simp only[zF,zG];decide)) only [zA,zB,zC,zD,zE,zF,zG,zH,zI,zJ,zK,HV.cells,fl0,fl2,flS,flS1,flI1,flU1,flU2,flF]; try exact rfl) (by simp (disch:=first|decide|(simp only[zF,zG];decide)) only [List.map_cons,List.map_nil,List.nil_append,List.cons_append,List.append_nil,zA,zB,zC,zD,zE,zF,zG,zH,zI,zJ,zK,HV.cells,fl0,fl2,flS,flS1,flI1,flU1,flU2,flF]; first|done|exact rfl) c_wakes (fun n' hn' => ?_)
     | fail
    refine fin_r (by simp only [zL,zM]) (by simp (disch:=first|decide|(simp only[zF,zG];decide)) only [zA,zB,zC,zD,zE,zF,zG,zH,zI,zJ,zK,HV.cells,fl0,fl2,flS,flS1,flI1,flU1,flU2,flF]; try exact rfl) (sc_flat rfl (by dsimp only; omega) ?_); rfl

  obtain ⟨z1, z2, z3⟩ := (by assumption : Rdy [A, B] r)
  obtain ⟨_, zL', zR⟩ := scl_zero z1
  refine rest12e (cp := cp) (by repeat' first|assumption|refine Ext.put ?_ (by omega) (by omega)|exact Ext.up (by assumption) (by omega)|exact Ext.nx (by assumption) (by omega)) (Nat.le_refl _) ?_ ?_ hk (zL' A (by simp)) (zL' B (by simp)) zR ⟨z2, z3⟩ (by assumption) hrow (by omega) (by first|assumption|(simp (disch:=omega) only [get_same,get_other]; first|done|exact rfl)) (by first|assumption|(simp (disch:=omega) only [get_same,get_other]; first|done|exact rfl)) (by first|assumption|(simp (disch:=omega) only [get_same,get_other]; first|done|exact rfl)) ?_ ?_ ?_ ?_ (by first|assumption|(simp (disch:=omega) only [get_same,get_other]; first|done|exact rfl)) ?_ ?_
  all_goals first|(simp only [zL,zM,zF,zG];done)|(simp (disch:=first|decide|(simp only[zF,zG];decide)) only [zA,zB,zC,zD,zE,zF,zG,zH,zI,zJ,zK,HV.cells,fl0,fl2,flS,flS1,flI1,flU1,flU2,flF];first|done|exact rfl)|assumption
end Go.Hx

/- The plain machine once more, as closures: what the kernel can reckon fast. This file: the machine. -/
namespace Go.Hx
noncomputable section

/-- Where a run goes on: temporaries, marks, blocks, the next number. -/
abbrev Kt := Tr HV → List Nat → Tr HBlk → Nat → Option (HV × HS)
/-- Where an operation's value goes. -/
abbrev Kv := HV → Tr HBlk → Nat → Option (HV × HS)
/-- Operations: the floor, temporaries, blocks, the next number, and where the value goes. -/
abbrev Ko := Nat → Tr HV → Tr HBlk → Nat → Kv → Option (HV × HS)
/-- Codes: the floor, the round, and where they go: behind, out of a block, out of the function. -/
abbrev Kc := Nat → Option Nat → Kt → (Nat → Kt) → Kt → Kt
/-- Functions. -/
abbrev Kf := Nat → List HV → Tr HBlk → Nat → Kv → Option (HV × HS)

def Pa.tmp (p : Pa) (a : Tr HV) : HV := Option.rec (motive := fun _ => HV) .undef (fun v => v) (Tr.getP p a)
/-- A closure that is made once: the kernel keeps what a closed term comes to. -/
inductive Bx (α : Type) where
  | mk (f : α)
def Bx.run {α : Type} (b : Bx α) : α := Bx.rec (motive := fun _ => α) (fun f => f) b
def Bx.then {α β : Type} (b : Bx α) (g : α → Bx β) : Bx β := Bx.rec (motive := fun _ => Bx β) g b
/-- A road, made once. -/
def Pa.then {β : Type} (p : Pa) (g : Pa → Bx β) : Bx β := Pa.rec (motive := fun _ => Bx β) (g .z) (fun q _ => g (.a q)) (fun q _ => g (.b q)) (fun q _ => g (.c q)) (fun q _ => g (.d q)) p
def evK (x : Lo) : Bx (Tr HV → HV) :=
  match x with
  | .t n => .mk (Pa.tmp (pa n))
  | .c v => .mk (fun _ => v)
def evL (x : Lo) (a : Tr HV) : HV := (evK x).run a
/-- All that is not served by itself. -/
def slowK (lp : Nat → Option LFunc) (nt : Nat) (o : LOp) : Ko := fun fl a h nx k =>
  match opH lp (exec lp 0) fl o ⟨nt, a, []⟩ ⟨h, nx⟩ with
  | some (v, σ) => k v σ.h σ.nx
  | none => none
def callK (fn : Nat → Bx Kf) (ro : Nat → Nat → List HV → Tr HBlk → Nat → Kv → Option (HV × HS)) (f : Tr HV → HV) (xs : List Lo) : Ko := fun fl a h nx k =>
  match f a with
  | .func g first captured => (fn g).run fl (first ++ xs.map (fun x => evL x a) ++ captured) h nx k
  | .yield l => ro fl l (xs.map fun x => evL x a) h nx k
  | _ => none
def binK (g : IntKind → Int → Int → Option HV) (x y : HV) (h : Tr HBlk) (nx : Nat) (k : Kv) : Option (HV × HS) :=
  match x, y with
  | .int k1 m, .int k2 n => bif sameK k1 k2 then (match g k1 m n with | some v => k v h nx | none => none) else none
  | _, _ => none
def addrK (off : Nat) (x : HV) (h : Tr HBlk) (nx : Nat) (k : Kv) : Option (HV × HS) :=
  match x with
  | .ptr (some (b, o)) => k (.ptr (some (b, Nat.add o off))) h nx
  | _ => none
def idxK (len size : Nat) (x i : HV) (h : Tr HBlk) (nx : Nat) (k : Kv) : Option (HV × HS) :=
  match x, i with
  | .ptr (some (b, o)), .int _ (.ofNat i) => bif Nat.blt i len then k (.ptr (some (b, Nat.add o (Nat.mul i size)))) h nx else none
  | _, _ => none
def nilK (x : HV) (h : Tr HBlk) (nx : Nat) (k : Kv) : Option (HV × HS) :=
  match x with
  | .ptr (some p) => k (.ptr (some p)) h nx
  | .func f first captured => k (.func f first captured) h nx
  | _ => none
def nthK (i : Nat) : List HV → Option HV :=
  Nat.rec (motive := fun _ => List HV → Option HV) (fun l => List.rec (motive := fun _ => Option HV) none (fun v _ _ => some v) l) (fun _ ih l => List.rec (motive := fun _ => Option HV) none (fun _ t _ => ih t) l) i
def setR (i : Nat) (v : HV) : List HV → List HV :=
  Nat.rec (motive := fun _ => List HV → List HV) (fun l => List.rec (motive := fun _ => List HV) [] (fun _ t _ => v :: t) l) (fun _ ih l => List.rec (motive := fun _ => List HV) [] (fun x t _ => x :: ih t) l) i
def loadK (x : HV) (h : Tr HBlk) (nx : Nat) (k : Kv) : Option (HV × HS) :=
  match x with
  | .ptr (some (b, o)) =>
    match h.get b with
    | some (.cells cs _) =>
      match nthK o cs with
      | some v => k v h nx
      | none => none
    | _ => none
  | _ => none
def wrOk : BK → Bool
  | .ro => false
  | _ => true
def storeK (fl : Nat) (x v : HV) (h : Tr HBlk) (nx : Nat) (k : Kv) : Option (HV × HS) :=
  match x with
  | .ptr (some (b, o)) =>
    match h.get b with
    | some (.cells cs bk) =>
      bif Nat.ble fl b && v.one && wrOk bk then
        match nthK o cs with
        | some _ => k .undef (h.set b (some (.cells (setR o v cs) bk))) nx
        | none => none
      else none
    | _ => none
  | _ => none
def compOp (lp : Nat → Option LFunc) (fn : Nat → Bx Kf) (ro : Nat → Nat → List HV → Tr HBlk → Nat → Kv → Option (HV × HS)) (nt : Nat) (o : LOp) : Bx Ko :=
  match o with
  | .move x => (evK x).then fun e => .mk fun _ a h nx k => k (e a) h nx
  | .bin op x y => (evK x).then fun e => (evK y).then fun f => .mk fun _ a h nx k => binK (bif isShift op then shiftH op else intFast op) (e a) (f a) h nx k
  | .fieldAddr off x => (evK x).then fun e => .mk fun _ a h nx k => addrK off (e a) h nx k
  | .indexAddrA len size x i => (evK x).then fun e => (evK i).then fun f => .mk fun _ a h nx k => idxK len size (e a) (f a) h nx k
  | .nilCheck x => (evK x).then fun e => .mk fun _ a h nx k => nilK (e a) h nx k
  | .load false 1 x => (evK x).then fun e => .mk fun _ a h nx k => loadK (e a) h nx k
  | .store 1 x v => (evK x).then fun e => (evK v).then fun f => .mk fun fl a h nx k => storeK fl (e a) (f a) h nx k
  | .call f xs => (evK f).then fun e => .mk (callK fn ro e xs)
  | o => .mk (slowK lp nt o)
def putK (nt : Nat) (dst : Option Nat) : Bx (Tr HV → HV → Tr HV) :=
  match dst with
  | none => .mk fun a _ => a
  | some d => bif Nat.blt d nt then (pa d).then fun p => .mk (fun a v => Tr.setP (some v) p a) else .mk fun a _ => a
def isB (want : Bool) : HV → Bool
  | .bool b => b == want
  | _ => false
def guardK (g : Option (Nat × Bool)) (o : Bx Ko) : Bx Ko :=
  match g with
  | none => o
  | some (t, want) => (evK (.t t)).then fun e => o.then fun o => .mk fun fl a h nx k =>
      bif isB want (e a) then o fl a h nx k else k .undef h nx
def compOps (op : LOp → Bx Ko) (nt : Nat) : List LOper → Bx (Nat → Kt → Kt)
  | [] => .mk fun _ k => k
  | o :: os => (guardK o.g (op o.op)).then fun f => (putK nt o.dst).then fun p => (compOps op nt os).then fun r => .mk fun fl k a ds h nx => f fl a h nx fun v h nx => r fl k (p a v) ds h nx
def drawK (op : LOp → Bx Ko) (nt s : Nat) : List LOper → Bx (Nat → Nat → Tr HBlk → List (Nat × List (Nat × HBlk)) → Kt → Tr HV → List Nat → Nat → Option (HV × HS))
  | [] => .mk fun _ _ h0 done k a ds nx => k a ds (merge h0 none done) nx
  | o :: os => (guardK o.g (op o.op)).then fun f => (putK nt o.dst).then fun p => (drawK op nt s os).then fun r => (compOps op nt (o :: os)).then fun q => .mk fun fl i h0 done k a ds nx =>
      bif Nat.blt i s then
        f nx a (merge h0 (some o.anc) done) nx fun v h nx' => bif Nat.ble nx nx' then r fl (Nat.succ i) h0 (bif Nat.beq nx nx' then done else (i, newFrom h nx (Nat.sub nx' nx)) :: done) k (p a v) ds nx' else none
      else q fl k a ds (merge h0 none done) nx
/-- The loop's record, by its parts. -/
def loopK (b : Option HBlk) (k : LState → HExit → Nat → Tr HV → List Nat → LCode → LCode → Nat → Option (HV × HS)) : Option (HV × HS) :=
  match b with
  | some (.loop ⟨st, pe, nt, tm, ps, asg, bo, mk⟩) => k st pe nt tm ps asg bo mk
  | _ => none
def marksK (rd : Option Nat) (h : Tr HBlk) (nx : Nat) (k : Nat → List Nat → Tr HBlk → Nat → Option (HV × HS)) : Option (HV × HS) :=
  match rd with
  | none => k nx [nx] (h.set nx (some .marks)) (Nat.succ nx)
  | some l => loopK (h.get l) fun _ _ _ _ _ _ _ mk => k mk [] h nx
def notBusy : LState → Bool
  | .busy => false
  | _ => true
def isReady : LState → Bool
  | .ready => true
  | _ => false
def jumpK (e : HExit) (kn : Kt) (kx : Nat → Kt) (kr : Kt) : Kt :=
  match e with
  | .normal => kn
  | .exit i => kx i
  | .ret => kr
def rangeK (fn : Nat → Bx Kf) (nt : Nat) (e : Tr HV → HV) (ps : List Nat) (assign body : LCode) : Kc := fun fl rd kn kx kr a ds h nx =>
  match e a with
  | .func g first captured =>
    marksK rd h nx fun mk ms h1 n1 =>
      (fn g).run fl (first ++ [.yield n1] ++ captured) (h1.set n1 (some (.loop ⟨.ready, .normal, nt, a, ps, assign, body, mk⟩))) (Nat.succ n1) fun _ h3 n3 =>
        loopK (h3.get n1) fun st pe nt' tm ps' asg bo mk' =>
          bif notBusy st && Nat.ble fl n1 then jumpK pe kn kx kr a (ms ++ ds) (h3.set n1 (some (.loop ⟨.exhausted, pe, nt', tm, ps', asg, bo, mk'⟩))) n3 else none
  | _ => none
def endK (l : Nat) (e : HExit) (k : Kv) (h : Tr HBlk) (nx : Nat) : Option (HV × HS) :=
  loopK (h.get l) fun _ _ nt tm ps asg bo mk =>
    match e with
    | .normal => k (.bool true) (h.set l (some (.loop ⟨.ready, .normal, nt, tm, ps, asg, bo, mk⟩))) nx
    | e => k (.bool false) (h.set l (some (.loop ⟨.done, e, nt, tm, ps, asg, bo, mk⟩))) nx
def roundK (co : Nat → LCode → Bx Kc) : Nat → Nat → List HV → Tr HBlk → Nat → Kv → Option (HV × HS) := fun fl l args h nx k =>
  loopK (h.get l) fun _ _ nt tm ps asg bo _ =>
    match zipPut nt tm ps args with
    | some tm1 =>
      (co nt asg).run fl (some l)
        (fun a1 ds1 h1 n1 => loopK (h1.get l) fun st pe nt' tm' ps' asg' bo' mk' =>
          bif isReady st && Nat.ble fl l then
            (co nt bo).run fl (some l) (fun _ _ => endK l .normal k) (fun i _ _ => endK l (.exit i) k) (fun _ _ => endK l .ret k) a1 ds1 (h1.set l (some (.loop ⟨.busy, pe, nt', tm', ps', asg', bo', mk'⟩))) n1
          else none)
        (fun _ _ _ _ _ => none) (fun _ _ _ _ => none) tm1 [] h nx
    | none => none
def comp (op : LOp → Bx Ko) (fn : Nat → Bx Kf) (nt : Nat) : LCode → Bx Kc
  | .skip => .mk fun _ _ kn _ _ => kn
  | .seq x y => (comp op fn nt x).then fun f => (comp op fn nt y).then fun g => .mk fun fl rd kn kx kr => f fl rd (g fl rd kn kx kr) kx kr
  | .cond c x y => (evK c).then fun e => (comp op fn nt x).then fun f => (comp op fn nt y).then fun g => .mk fun fl rd kn kx kr a ds h nx =>
      match e a with
      | .bool b => bif b then f fl rd kn kx kr a ds h nx else g fl rd kn kx kr a ds h nx
      | _ => none
  | .block id x => (comp op fn nt x).then fun f => .mk fun fl rd kn kx kr => f fl rd kn (fun i => bif Nat.beq i id then kn else kx i) kr
  | .loop x => (comp op fn nt x).then fun f => .mk fun fl rd _ kx kr => Nat.rec (motive := fun _ => Kt) (fun _ _ _ _ => none) (fun _ ih => f fl rd ih kx kr) 1000000
  | .scope x => comp op fn nt x
  | .exit id => .mk fun _ _ _ kx _ => kx id
  | .ret => .mk fun _ _ _ _ kr => kr
  | .reg ops => (compOps op nt ops).then fun f => .mk fun fl _ kn _ _ => f fl kn
  | .draw s ops => (drawK op nt s ops).then fun f => .mk fun fl _ kn _ _ a ds h nx => bif Nat.ble fl nx then f fl 0 h [] kn a ds nx else none
  | .rangeFunc f ps assign body => (evK f).then fun e => .mk (rangeK fn nt e ps assign body)
  | .bad => .mk fun _ _ _ _ _ _ _ _ _ => none
def leaveK (fl : Nat) (nt : Nat) (res : List LRes) (k : Kv) : Kt := fun a ds h nx =>
  match leaveH fl ⟨nt, a, ds⟩ res ⟨h, nx⟩ with
  | some (v, σ) => k v σ.h σ.nx
  | none => none
abbrev Kr := Nat → Nat → List HV → Tr HBlk → Nat → Kv → Option (HV × HS)
/-- Behind a call that wrote nothing of its caller's. -/
def gcK (h : Tr HBlk) (nx : Nat) (k : Kv) : Kv := fun v h' nx' => k v (keepD h' nx 5 [v] h) nx'
def specK (g : List HV → HS → Option (HV × HS)) : Kf := fun _ args h nx k =>
  match g args ⟨h, nx⟩ with
  | some (v, σ) => bif Nat.ble nx σ.nx then k v σ.h σ.nx else none
  | none => none
def enterK (lf : LFunc) (body : Kc) : Bx Kf :=
  bif lf.imp then .mk fun fl args h nx k => bif Nat.ble args.length lf.nt then body fl none (leaveK fl lf.nt lf.res k) (fun _ _ _ _ _ => none) (leaveK fl lf.nt lf.res k) (putAll .e 0 args) [] h nx else none
  else .mk fun _ args h nx k => bif Nat.ble args.length lf.nt then body nx none (leaveK nx lf.nt lf.res (gcK h nx k)) (fun _ _ _ _ _ => none) (leaveK nx lf.nt lf.res (gcK h nx k)) (putAll .e 0 args) [] h nx else none
/-- Functions and rounds, so deep. -/
def bothK (lp : Nat → Option LFunc) : Nat → (Nat → Bx Kf) × Kr
  | 0 => (fun _ => .mk fun _ _ _ _ _ => none, fun _ _ _ _ _ _ => none)
  | n + 1 =>
    (fun f =>
      match lp f with
      | none => .mk fun _ _ _ _ _ => none
      | some lf =>
        match lf.spec with
        | some g => .mk (specK g)
        | none => (comp (compOp lp (bothK lp n).1 (bothK lp n).2 lf.nt) (bothK lp n).1 lf.nt lf.body).then (enterK lf),
     roundK fun nt c => comp (compOp lp (bothK lp n).1 (bothK lp n).2 nt) (bothK lp n).1 nt c)
def fnK (lp : Nat → Option LFunc) (n : Nat) : Nat → Bx Kf := (bothK lp n).1
end
end Go.Hx

/- The plain machine as closures: where it comes to something, the plain machine comes to the same. -/
namespace Go.Hx
variable {lp : Nat → Option LFunc} {nt : Nat}

theorem run_mk {α : Type} (f : α) : (Bx.mk f).run = f := rfl
theorem then_eq {α β : Type} (b : Bx α) (g : α → Bx β) : b.then g = g b.run := by cases b; rfl
theorem pa_then {β : Type} (p : Pa) (g : Pa → Bx β) : p.then g = g p := by cases p <;> rfl
theorem tmp_eq (a : Tr HV) (ds : List Nat) (n : Nat) : (pa n).tmp a = (⟨nt, a, ds⟩ : HAct).tmp n := by
  show Option.rec (motive := fun _ => HV) HV.undef (fun v => v) (a.get n) = (a.get n).getD .undef
  cases a.get n <;> rfl
theorem ev_eq (x : Lo) (a : Tr HV) (ds : List Nat) : (evK x).run a = (⟨nt, a, ds⟩ : HAct).ev x := by
  cases x with
  | t n => exact tmp_eq a ds n
  | c v => rfl
theorem evs_eq (xs : List Lo) (a : Tr HV) (ds : List Nat) : (xs.map fun x => evL x a) = xs.map (⟨nt, a, ds⟩ : HAct).ev := by
  apply List.map_congr_left
  intro x _
  exact ev_eq x a ds

def KoOk (lp : Nat → Option LFunc) (nt : Nat) (G : Ko) (o : LOp) : Prop := ∀ fl a ds h nx (k : Kv) r, G fl a h nx k = some r → ∃ n v σ', opH lp (exec lp n) fl o ⟨nt, a, ds⟩ ⟨h, nx⟩ = some (v, σ') ∧ k v σ'.h σ'.nx = some r
def KosOk (lp : Nat → Option LFunc) (nt : Nat) (G : Nat → Kt → Kt) (os : List LOper) : Prop := ∀ fl (k : Kt) a ds h nx r, G fl k a ds h nx = some r → ∃ n a' σ', runOps lp (exec lp n) fl os ⟨nt, a, ds⟩ ⟨h, nx⟩ = some (a', σ') ∧ a'.nt = nt ∧ k a'.tmps a'.defers σ'.h σ'.nx = some r
def contK (e : HExit) (kn : Kt) (kx : Nat → Kt) (kr : Kt) (a : HAct) (σ : HS) : Option (HV × HS) :=
  match e with
  | .normal => kn a.tmps a.defers σ.h σ.nx
  | .exit i => kx i a.tmps a.defers σ.h σ.nx
  | .ret => kr a.tmps a.defers σ.h σ.nx
def KcOk (lp : Nat → Option LFunc) (nt : Nat) (F : Kc) (c : LCode) : Prop := ∀ fl rd kn kx kr a ds h nx r, F fl rd kn kx kr a ds h nx = some r → ∃ n e a' σ', exec lp n fl rd c ⟨nt, a, ds⟩ ⟨h, nx⟩ = some (e, a', σ') ∧ a'.nt = nt ∧ contK e kn kx kr a' σ' = some r
def KfOk (lp : Nat → Option LFunc) (F : Kf) (f : Nat) : Prop := ∀ fl args h nx (k : Kv) r, F fl args h nx k = some r → ∃ n v σ', callF lp (exec lp n) fl f args ⟨h, nx⟩ = some (v, σ') ∧ k v σ'.h σ'.nx = some r

def KrOk (lp : Nat → Option LFunc) (ro : Kr) : Prop := ∀ fl l args h nx (k : Kv) r, ro fl l args h nx k = some r → ∃ n v σ', roundH (exec lp n) fl l args ⟨h, nx⟩ = some (v, σ') ∧ k v σ'.h σ'.nx = some r
theorem slow_ok (o : LOp) : KoOk lp nt (slowK lp nt o) o := by
  intro fl a ds h nx k r hr
  unfold slowK at hr
  rw [op_congr (a := ⟨nt, a, []⟩) (b := ⟨nt, a, ds⟩) ⟨h, nx⟩ (fun _ _ => rfl)] at hr
  split at hr
  · rename_i v σ' ho; exact ⟨0, v, σ', ho, hr⟩
  · cases hr
theorem call_ok {fn : Nat → Bx Kf} {ro : Kr} (hfn : ∀ f, KfOk lp (fn f).run f) (hro : KrOk lp ro) (f : Lo) (xs : List Lo) : KoOk lp nt (callK fn ro (evK f).run xs) (.call f xs) := by
  intro fl a ds h nx k r hr
  unfold callK at hr
  rw [ev_eq (nt := nt) f a ds, evs_eq (nt := nt) xs a ds] at hr
  split at hr
  · rename_i g first captured hf
    obtain ⟨n, v, σ', h1, h2⟩ := hfn g _ _ _ _ _ _ hr
    refine ⟨n, v, σ', ?_, h2⟩
    show callH lp _ fl _ _ _ = _
    unfold callH
    rw [hf]
    exact h1
  · rename_i l hf
    obtain ⟨n, v, σ', h1, h2⟩ := hro _ _ _ _ _ _ _ hr
    refine ⟨n, v, σ', ?_, h2⟩
    show callH lp _ fl _ _ _ = _
    unfold callH
    rw [hf]
    exact h1
  · cases hr
theorem nth_eq : ∀ (i : Nat) (l : List HV), nthK i l = l[i]?
  | 0, [] => rfl
  | 0, v :: l => rfl
  | i + 1, [] => rfl
  | i + 1, v :: l => (nth_eq i l).trans (by simp)
theorem set_eq (v : HV) : ∀ (i : Nat) (l : List HV), i < l.length → overwrite l i [v] = some (setR i v l)
  | _, [], h => by simp at h
  | 0, x :: l, _ => by cases l <;> rfl
  | i + 1, x :: l, h => by
    unfold overwrite
    rw [set_eq v i l (by simpa using h)]
    rfl
theorem op_ok {fn : Nat → Bx Kf} {ro : Kr} (hfn : ∀ f, KfOk lp (fn f).run f) (hro : KrOk lp ro) (o : LOp) : KoOk lp nt (compOp lp fn ro nt o).run o := by
  have slow := slow_ok (lp := lp) (nt := nt) o
  unfold compOp
  split
  case h_1 x =>
    rw [then_eq, run_mk]
    intro fl a ds h nx k r hr
    dsimp only at hr
    rw [ev_eq (nt := nt) x a ds] at hr
    exact ⟨0, _, ⟨h, nx⟩, rfl, hr⟩
  case h_2 op x y =>
    rw [then_eq, then_eq, run_mk]
    intro fl a ds h nx k r hr
    dsimp only at hr
    rw [ev_eq (nt := nt) x a ds, ev_eq (nt := nt) y a ds] at hr
    unfold binK at hr
    split at hr
    · rename_i k1 m k2 n e1 e2
      cases hk : sameK k1 k2 with
      | false => rw [hk] at hr; cases hr
      | true =>
        rw [hk] at hr
        simp only [cond_true] at hr
        split at hr
        · rename_i v e3
          refine ⟨0, v, ⟨h, nx⟩, ?_, hr⟩
          show keep _ (binH op _ _) = _
          rw [e1, e2]
          unfold binH
          dsimp only
          cases hsh : isShift op with
          | true => rw [hsh] at e3; simp only [cond_true] at e3 ⊢; rw [e3]; rfl
          | false => rw [hsh] at e3; simp only [cond_false] at e3 ⊢; rw [hk, e3]; rfl
        · cases hr
    · cases hr
  case h_3 off x =>
    rw [then_eq, run_mk]
    intro fl a ds h nx k r hr
    dsimp only at hr
    rw [ev_eq (nt := nt) x a ds] at hr
    unfold addrK at hr
    split at hr
    · rename_i b o e1
      refine ⟨0, _, ⟨h, nx⟩, ?_, hr⟩
      show oFieldAddr off x _ _ = _
      unfold oFieldAddr
      rw [e1]
    · cases hr
  case h_4 len size x i =>
    rw [then_eq, then_eq, run_mk]
    intro fl a ds h nx k r hr
    dsimp only at hr
    rw [ev_eq (nt := nt) x a ds, ev_eq (nt := nt) i a ds] at hr
    unfold idxK at hr
    split at hr
    · rename_i b o kk j e1 e2
      cases hb : Nat.blt j len with
      | false => rw [hb] at hr; cases hr
      | true =>
        rw [hb] at hr
        refine ⟨0, _, ⟨h, nx⟩, ?_, hr⟩
        show oIndexAddrA len size x i _ _ = _
        unfold oIndexAddrA
        rw [e1, e2]
        simp only [natOf, stepTo, hb, cond_true]
    · cases hr
  case h_5 x =>
    rw [then_eq, run_mk]
    intro fl a ds h nx k r hr
    dsimp only at hr
    rw [ev_eq (nt := nt) x a ds] at hr
    unfold nilK at hr
    split at hr
    · rename_i p e1
      refine ⟨0, _, ⟨h, nx⟩, ?_, hr⟩
      show oNilCheck x _ _ = _
      unfold oNilCheck
      rw [e1]
    · rename_i f first captured e1
      refine ⟨0, _, ⟨h, nx⟩, ?_, hr⟩
      show oNilCheck x _ _ = _
      unfold oNilCheck
      rw [e1]
    · cases hr
  case h_6 x =>
    rw [then_eq, run_mk]
    intro fl a ds h nx k r hr
    dsimp only at hr
    rw [ev_eq (nt := nt) x a ds] at hr
    unfold loadK at hr
    split at hr
    · rename_i b o e1
      split at hr
      · rename_i cs bk e2
        rw [nth_eq] at hr
        split at hr
        · rename_i v e3
          refine ⟨0, v, ⟨h, nx⟩, ?_, hr⟩
          show oLoad false 1 x _ _ = _
          unfold oLoad
          rw [e1]
          have hc : (⟨h, nx⟩ : HS).cells b = some cs := by unfold HS.cells; rw [e2]
          have hr2 : (⟨h, nx⟩ : HS).read (b, o) 1 = some [v] := by
            unfold HS.read
            simp only [hc, Option.bind_eq_bind, Option.bind_some]
            have hlt : o < cs.length := by
              rcases Nat.lt_or_ge o cs.length with h | h
              · exact h
              · rw [List.getElem?_eq_none h] at e3; cases e3
            rw [List.drop_eq_getElem_cons hlt]
            rw [List.getElem?_eq_getElem hlt] at e3
            cases e3
            simp [takeN]
          simp only [hr2, whole, keep]
        · cases hr
      · cases hr
    · cases hr
  case h_7 x y =>
    rw [then_eq, then_eq, run_mk]
    intro fl a ds h nx k r hr
    dsimp only at hr
    rw [ev_eq (nt := nt) x a ds, ev_eq (nt := nt) y a ds] at hr
    unfold storeK at hr
    split at hr
    · rename_i b o e1
      split at hr
      · rename_i cs bk e2
        revert hr
        cases hc : (Nat.ble fl b && ((⟨nt, a, ds⟩ : HAct).ev y).one && wrOk bk) with
        | false => intro hr; cases hr
        | true =>
          intro hr
          simp only [cond_true] at hr
          simp only [Bool.and_eq_true] at hc
          obtain ⟨⟨c1, c2⟩, c3⟩ := hc
          rw [nth_eq] at hr
          split at hr
          · rename_i u e3
            have hlt : o < cs.length := by
              rcases Nat.lt_or_ge o cs.length with h | h
              · exact h
              · rw [List.getElem?_eq_none h] at e3; cases e3
            refine ⟨0, .undef, ⟨h.set b (some (.cells (setR o ((⟨nt, a, ds⟩ : HAct).ev y) cs) bk)), nx⟩, ?_, hr⟩
            have hcells : ((⟨nt, a, ds⟩ : HAct).ev y).cells = [(⟨nt, a, ds⟩ : HAct).ev y] := by
              generalize (⟨nt, a, ds⟩ : HAct).ev y = v at c2
              cases v <;> first | rfl | cases c2
            show oStore fl 1 x y _ _ = _
            unfold oStore
            rw [e1, hcells]
            have hw : (⟨h, nx⟩ : HS).write fl (b, o) [(⟨nt, a, ds⟩ : HAct).ev y] = some ⟨h.set b (some (.cells (setR o ((⟨nt, a, ds⟩ : HAct).ev y) cs) bk)), nx⟩ := by
              unfold HS.write
              simp only [e2]
              cases bk with
              | ro => cases c3
              | exact => simp only [c1, List.all_cons, c2, List.all_nil, Bool.and_true, cond_true, set_eq _ _ _ hlt, Option.map_some]; rfl
              | opn z => simp only [c1, List.all_cons, c2, List.all_nil, Bool.and_true, cond_true, set_eq _ _ _ hlt, Option.map_some]; rfl
            simp only [hw]
            rfl
          · cases hr
      · cases hr
    · cases hr
  case h_8 f xs =>
    rw [then_eq, run_mk]
    exact call_ok hfn hro f xs
  case h_9 => exact slow
theorem guard_k {G : Bx Ko} {o : LOper} (h : KoOk lp nt G.run o.op) : ∀ fl a ds hp nx (k : Kv) r, (guardK o.g G).run fl a hp nx k = some r →
    ∃ n v σ', (bif wantedH o.g ⟨nt, a, ds⟩ then opH lp (exec lp n) fl o.op ⟨nt, a, ds⟩ ⟨hp, nx⟩ else some (.undef, ⟨hp, nx⟩)) = some (v, σ') ∧ k v σ'.h σ'.nx = some r := by
  intro fl a ds hp nx k r hr
  unfold guardK at hr
  split at hr
  · rename_i hg
    obtain ⟨n, v, σ', h1, h2⟩ := h fl a ds hp nx k r hr
    refine ⟨n, v, σ', ?_, h2⟩
    rw [hg]
    exact h1
  · rename_i t want hg
    rw [then_eq, then_eq, run_mk] at hr
    rw [ev_eq (nt := nt) (.t t) a ds] at hr
    have hw : wantedH o.g ⟨nt, a, ds⟩ = isB want ((⟨nt, a, ds⟩ : HAct).ev (.t t)) := by
      rw [hg]
      unfold wantedH isB
      dsimp only [HAct.ev]
      generalize (⟨nt, a, ds⟩ : HAct).tmp t = x
      cases x <;> rfl
    rw [hw]
    cases hb : isB want ((⟨nt, a, ds⟩ : HAct).ev (.t t)) with
    | true =>
      rw [hb] at hr
      exact h fl a ds hp nx k r hr
    | false =>
      rw [hb] at hr
      exact ⟨0, .undef, ⟨hp, nx⟩, rfl, hr⟩
theorem put_k (dst : Option Nat) (a : Tr HV) (ds : List Nat) (v : HV) : (⟨nt, a, ds⟩ : HAct).put dst v = ⟨nt, (putK nt dst).run a v, ds⟩ := by
  unfold HAct.put putK
  cases dst with
  | none => rfl
  | some d =>
    dsimp only
    cases Nat.blt d nt with
    | false => rfl
    | true => rw [cond_true, cond_true, pa_then]; rfl
theorem step_k {G : Bx Ko} {o : LOper} (h : KoOk lp nt G.run o.op) : ∀ fl a ds hp nx (k : Kv) r, (guardK o.g G).run fl a hp nx k = some r →
    ∃ n v σ', stepOp lp (exec lp n) fl o ⟨nt, a, ds⟩ ⟨hp, nx⟩ = some (⟨nt, (putK nt o.dst).run a v, ds⟩, σ') ∧ k v σ'.h σ'.nx = some r := by
  intro fl a ds hp nx k r hr
  obtain ⟨n, v, σ', h1, h2⟩ := guard_k h fl a ds hp nx k r hr
  refine ⟨n, v, σ', ?_, h2⟩
  unfold stepOp
  cases hw : wantedH o.g ⟨nt, a, ds⟩ with
  | true => rw [hw] at h1; simp only [cond_true] at h1 ⊢; rw [h1]; simp only [put_k]
  | false =>
    rw [hw] at h1
    cases h1
    simp only [cond_false, put_k]
theorem ops_k {op : LOp → Bx Ko} (hop : ∀ o, KoOk lp nt (op o).run o) : ∀ os, KosOk lp nt (compOps op nt os).run os
  | [] => fun fl k a ds h nx r hr => ⟨0, _, _, rfl, rfl, hr⟩
  | o :: os => by
    intro fl k a ds h nx r hr
    unfold compOps at hr
    rw [then_eq, then_eq, then_eq, run_mk] at hr
    obtain ⟨n, v, σ1, h1, h2⟩ := step_k (hop o.op) fl a ds h nx _ r hr
    obtain ⟨m, a', σ', h3, h4, h5⟩ := ops_k hop os fl k _ ds _ _ r h2
    refine ⟨max n m, a', σ', ?_, h4, h5⟩
    unfold runOps
    rw [stepOp_mon (exec_mon (Nat.le_max_left n m)) h1]
    exact runOps_mon (exec_mon (Nat.le_max_right n m)) h3
theorem draw_k {op : LOp → Bx Ko} (hop : ∀ o, KoOk lp nt (op o).run o) {s : Nat} : ∀ os fl i h0 done (k : Kt) a ds nx r, fl ≤ nx → (drawK op nt s os).run fl i h0 done k a ds nx = some r →
    ∃ n a' σ', drawOps lp (exec lp n) fl s h0 os i done ⟨nt, a, ds⟩ nx = some (a', σ') ∧ a'.nt = nt ∧ k a'.tmps a'.defers σ'.h σ'.nx = some r
  | [], fl, i, h0, done, k, a, ds, nx, r, _, hr => ⟨0, _, _, rfl, rfl, hr⟩
  | o :: os, fl, i, h0, done, k, a, ds, nx, r, hfl, hr => by
    unfold drawK at hr
    rw [then_eq, then_eq, then_eq, then_eq, run_mk] at hr
    cases hc : Nat.blt i s with
    | false =>
      rw [hc] at hr
      obtain ⟨n, a', σ', h1, h2, h3⟩ := ops_k hop (o :: os) fl k a ds _ nx r hr
      refine ⟨n, a', σ', ?_, h2, h3⟩
      unfold drawOps
      rw [hc]
      exact h1
    | true =>
      rw [hc] at hr
      simp only [cond_true] at hr
      obtain ⟨n, v, σ1, h1, h2⟩ := step_k (hop o.op) nx a ds _ nx _ r hr
      revert h2
      cases hb : Nat.ble nx σ1.nx with
      | false => intro h2; cases h2
      | true =>
        intro h2
        simp only [cond_true] at h2
        have hle := Nat.le_of_ble_eq_true hb
        obtain ⟨m, a', σ', h3, h4, h5⟩ := draw_k hop os fl (Nat.succ i) h0 _ k _ ds _ r (Nat.le_trans hfl hle) h2
        refine ⟨max n m, a', σ', ?_, h4, h5⟩
        have hmx : Nat.max fl nx = nx := Nat.max_eq_right hfl
        unfold drawOps
        rw [hc]
        simp only [cond_true, hmx]
        rw [stepOp_mon (exec_mon (Nat.le_max_left n m)) h1]
        simp only [hb, Bool.not_true, cond_false]
        exact drawOps_mon (exec_mon (Nat.le_max_right n m)) h3
theorem seq_run {n : Nat} {fl : Nat} {rd : Option Nat} {x y : LCode} {a a1 : HAct} {σ σ1 : HS} {q : HExit × HAct × HS} {m : Nat} (h1 : exec lp n fl rd x a σ = some (.normal, a1, σ1)) (h2 : exec lp m fl rd y a1 σ1 = some q) : xSeq (exec lp (max n m)) fl rd x y a σ = some q := by
  unfold xSeq
  rw [exec_mon (Nat.le_max_left n m) _ _ _ _ _ _ h1]
  exact exec_mon (Nat.le_max_right n m) _ _ _ _ _ _ h2
theorem loop_k {b : Option HBlk} {k : LState → HExit → Nat → Tr HV → List Nat → LCode → LCode → Nat → Option (HV × HS)} {r : HV × HS} (hr : loopK b k = some r) : ∃ q : HLoop, b = some (.loop q) ∧ k q.state q.pending q.nt q.tmps q.params q.assign q.body q.marks = some r := by
  unfold loopK at hr
  split at hr
  · exact ⟨_, rfl, hr⟩
  · cases hr
theorem marks_k {rd : Option Nat} {h : Tr HBlk} {nx : Nat} {k : Nat → List Nat → Tr HBlk → Nat → Option (HV × HS)} {r : HV × HS} (hr : marksK rd h nx k = some r) : ∃ mk ms h1 n1, marksOf rd ⟨h, nx⟩ = some (mk, ms, ⟨h1, n1⟩) ∧ k mk ms h1 n1 = some r := by
  unfold marksK at hr
  cases rd with
  | none => exact ⟨_, _, _, _, rfl, hr⟩
  | some l =>
    obtain ⟨q, hq, hk⟩ := loop_k hr
    refine ⟨_, _, _, _, ?_, hk⟩
    unfold marksOf
    simp only [hq]
theorem jump_k (e : HExit) (kn : Kt) (kx : Nat → Kt) (kr : Kt) (a : HAct) (σ : HS) : jumpK e kn kx kr a.tmps a.defers σ.h σ.nx = contK e kn kx kr a σ := by cases e <;> rfl
theorem range_k {fn : Nat → Bx Kf} (hfn : ∀ f, KfOk lp (fn f).run f) (f : Lo) (ps : List Nat) (assign body : LCode) : KcOk lp nt (rangeK fn nt (evK f).run ps assign body) (.rangeFunc f ps assign body) := by
  intro fl rd kn kx kr a ds h nx r hr
  unfold rangeK at hr
  rw [ev_eq (nt := nt) f a ds] at hr
  split at hr
  · rename_i g first captured hf
    obtain ⟨mk, ms, h1, n1, hm, hr⟩ := marks_k hr
    obtain ⟨n, v, σ3, hc, hr⟩ := hfn g _ _ _ _ _ _ hr
    obtain ⟨q, hq, hr⟩ := loop_k hr
    revert hr
    cases hb : (notBusy q.state && Nat.ble fl n1) with
    | false => intro hr; cases hr
    | true =>
      intro hr
      simp only [cond_true] at hr
      simp only [Bool.and_eq_true] at hb
      refine ⟨n + 1, q.pending, ⟨nt, a, ms ++ ds⟩, σ3.upd n1 (some (.loop { q with state := .exhausted })), ?_, rfl, ?_⟩
      · show xRange lp (exec lp n) fl rd f ps assign body _ _ = _
        unfold xRange
        rw [hf, hm]
        dsimp only
        have hc' : callF lp (exec lp n) fl g (first ++ [.yield n1] ++ captured) ((⟨h1, n1⟩ : HS).new (.loop ⟨.ready, .normal, nt, a, ps, assign, body, mk⟩)) = some (v, σ3) := hc
        rw [hc']
        dsimp only
        unfold endLoopH
        rw [hq]
        dsimp only
        have hnb := hb.1
        cases hst : q.state <;> rw [hst] at hnb <;> first | (exact absurd hnb (by decide)) | (dsimp only; rw [hb.2]; rfl)
      · rw [← jump_k]; exact hr
  · cases hr
theorem end_k {l : Nat} {e : HExit} {k : Kv} {h : Tr HBlk} {nx : Nat} {r : HV × HS} (hr : endK l e k h nx = some r) : ∃ v σ', endRoundH l e ⟨h, nx⟩ = some (v, σ') ∧ k v σ'.h σ'.nx = some r := by
  unfold endK at hr
  obtain ⟨q, hq, hr⟩ := loop_k hr
  cases e with
  | normal =>
    refine ⟨.bool true, (⟨h, nx⟩ : HS).upd l (some (.loop { q with state := .ready, pending := .normal })), ?_, hr⟩
    unfold endRoundH
    simp only [hq]
  | exit id =>
    refine ⟨.bool false, (⟨h, nx⟩ : HS).upd l (some (.loop { q with state := .done, pending := .exit id })), ?_, hr⟩
    unfold endRoundH
    simp only [hq]
  | ret =>
    refine ⟨.bool false, (⟨h, nx⟩ : HS).upd l (some (.loop { q with state := .done, pending := .ret })), ?_, hr⟩
    unfold endRoundH
    simp only [hq]
theorem round_k {co : Nat → LCode → Bx Kc} (hco : ∀ nt c, KcOk lp nt (co nt c).run c) : KrOk lp (roundK co) := by
  intro fl l args h nx k r hr
  unfold roundK at hr
  obtain ⟨q, hq, hr⟩ := loop_k hr
  split at hr
  · rename_i tm1 hz
    obtain ⟨n, e, a1, σ1, h1, h2, h3⟩ := hco _ _ _ _ _ _ _ _ _ _ _ _ hr
    cases e with
    | normal =>
      dsimp only [contK] at h3
      obtain ⟨q1, hq1, h3⟩ := loop_k h3
      revert h3
      cases hb : (isReady q1.state && Nat.ble fl l) with
      | false => intro h3; cases h3
      | true =>
        intro h3
        simp only [cond_true] at h3
        simp only [Bool.and_eq_true] at hb
        obtain ⟨m, e, a2, σ2, h4, h5, h6⟩ := hco _ _ _ _ _ _ _ _ _ _ _ _ h3
        have ea : (⟨q.nt, a1.tmps, a1.defers⟩ : HAct) = a1 := by rw [← h2]
        rw [ea] at h4
        have hbegin : beginRoundH fl l σ1 = some ⟨σ1.h.set l (some (.loop { q1 with state := .busy })), σ1.nx⟩ := by
          unfold beginRoundH
          rw [hq1]
          dsimp only
          have hrd := hb.1
          cases hst : q1.state <;> rw [hst] at hrd <;> first | (exact absurd hrd (by decide)) | (dsimp only; rw [hb.2]; rfl)
        have hend : ∃ v σ', endRoundH l e σ2 = some (v, σ') ∧ k v σ'.h σ'.nx = some r := by
          cases e <;> exact end_k h6
        obtain ⟨v, σ', g1, g2⟩ := hend
        refine ⟨max n m, v, σ', ?_, g2⟩
        unfold roundH
        rw [hq]
        dsimp only
        rw [hz]
        dsimp only
        rw [exec_mon (Nat.le_max_left n m) _ _ _ _ _ _ h1]
        dsimp only
        rw [hbegin]
        dsimp only
        rw [exec_mon (Nat.le_max_right n m) _ _ _ _ _ _ h4]
        exact g1
    | exit id => cases h3
    | ret => cases h3
  · cases hr
theorem comp_k {op : LOp → Bx Ko} {fn : Nat → Bx Kf} (hop : ∀ o, KoOk lp nt (op o).run o) (hfn : ∀ f, KfOk lp (fn f).run f) : ∀ c, KcOk lp nt (comp op fn nt c).run c
  | .skip => fun fl rd kn kx kr a ds h nx r hr => ⟨1, .normal, _, _, rfl, rfl, hr⟩
  | .seq x y => by
    intro fl rd kn kx kr a ds h nx r hr
    unfold comp at hr
    rw [then_eq, then_eq, run_mk] at hr
    obtain ⟨n, e, a1, σ1, h1, h2, h3⟩ := comp_k hop hfn x fl rd _ kx kr a ds h nx r hr
    cases e with
    | normal =>
      dsimp only [contK] at h3
      obtain ⟨m, e, a', σ', h4, h5, h6⟩ := comp_k hop hfn y fl rd kn kx kr a1.tmps a1.defers σ1.h σ1.nx r h3
      have ea : (⟨nt, a1.tmps, a1.defers⟩ : HAct) = a1 := by rw [← h2]
      rw [ea] at h4
      exact ⟨max n m + 1, e, a', σ', seq_run h1 h4, h5, h6⟩
    | exit id => exact ⟨n + 1, .exit id, a1, σ1, by show xSeq _ _ _ _ _ _ _ = _; unfold xSeq; rw [h1], h2, h3⟩
    | ret => exact ⟨n + 1, .ret, a1, σ1, by show xSeq _ _ _ _ _ _ _ = _; unfold xSeq; rw [h1], h2, h3⟩
  | .cond c x y => by
    intro fl rd kn kx kr a ds h nx r hr
    unfold comp at hr
    rw [then_eq, then_eq, then_eq, run_mk] at hr
    rw [ev_eq (nt := nt) c a ds] at hr
    split at hr
    · rename_i b hb
      cases b with
      | true =>
        obtain ⟨n, e, a', σ', h1, h2, h3⟩ := comp_k hop hfn x fl rd kn kx kr a ds h nx r hr
        refine ⟨n + 1, e, a', σ', ?_, h2, h3⟩
        show xCond _ _ _ _ _ _ _ _ = _
        unfold xCond
        rw [hb]; exact h1
      | false =>
        obtain ⟨n, e, a', σ', h1, h2, h3⟩ := comp_k hop hfn y fl rd kn kx kr a ds h nx r hr
        refine ⟨n + 1, e, a', σ', ?_, h2, h3⟩
        show xCond _ _ _ _ _ _ _ _ = _
        unfold xCond
        rw [hb]; exact h1
    · cases hr
  | .block id x => by
    intro fl rd kn kx kr a ds h nx r hr
    unfold comp at hr
    rw [then_eq, run_mk] at hr
    obtain ⟨n, e, a', σ', h1, h2, h3⟩ := comp_k hop hfn x fl rd kn _ kr a ds h nx r hr
    cases e with
    | normal => exact ⟨n + 1, .normal, a', σ', by show xBlock _ _ _ _ _ _ _ = _; unfold xBlock; rw [h1], h2, h3⟩
    | ret => exact ⟨n + 1, .ret, a', σ', by show xBlock _ _ _ _ _ _ _ = _; unfold xBlock; rw [h1], h2, h3⟩
    | exit i =>
      dsimp only [contK] at h3
      refine ⟨n + 1, bif Nat.beq i id then .normal else .exit i, a', σ', by show xBlock _ _ _ _ _ _ _ = _; unfold xBlock; rw [h1], h2, ?_⟩
      revert h3
      cases Nat.beq i id <;> exact fun h => h
  | .loop x => by
    intro fl rd kn kx kr a ds h nx r hr
    unfold comp at hr
    rw [then_eq, run_mk] at hr
    have ihx := comp_k hop hfn x
    revert hr
    generalize 1000000 = m
    induction m generalizing a ds h nx with
    | zero => intro hr; cases hr
    | succ m ih =>
      intro hr
      obtain ⟨n, e, a1, σ1, h1, h2, h3⟩ := ihx fl rd _ kx kr a ds h nx r hr
      cases e with
      | normal =>
        dsimp only [contK] at h3
        obtain ⟨k, e, a', σ', h4, h5, h6⟩ := ih a1.tmps a1.defers σ1.h σ1.nx h3
        have ea : (⟨nt, a1.tmps, a1.defers⟩ : HAct) = a1 := by rw [← h2]
        rw [ea] at h4
        exact ⟨max n k + 1, e, a', σ', seq_run h1 h4, h5, h6⟩
      | exit id => exact ⟨n + 1, .exit id, a1, σ1, by show xSeq _ _ _ _ _ _ _ = _; unfold xSeq; rw [h1], h2, h3⟩
      | ret => exact ⟨n + 1, .ret, a1, σ1, by show xSeq _ _ _ _ _ _ _ = _; unfold xSeq; rw [h1], h2, h3⟩
  | .scope x => by
    intro fl rd kn kx kr a ds h nx r hr
    obtain ⟨n, e, a', σ', h1, h2, h3⟩ := comp_k hop hfn x fl rd kn kx kr a ds h nx r hr
    exact ⟨n + 1, e, a', σ', h1, h2, h3⟩
  | .exit id => fun fl rd kn kx kr a ds h nx r hr => ⟨1, .exit id, _, _, rfl, rfl, hr⟩
  | .ret => fun fl rd kn kx kr a ds h nx r hr => ⟨1, .ret, _, _, rfl, rfl, hr⟩
  | .reg ops => by
    intro fl rd kn kx kr a ds h nx r hr
    unfold comp at hr
    rw [then_eq, run_mk] at hr
    obtain ⟨n, a', σ', h1, h2, h3⟩ := ops_k hop ops fl kn a ds h nx r hr
    refine ⟨n + 1, .normal, a', σ', ?_, h2, h3⟩
    show xNormal _ = _
    rw [h1]; rfl
  | .draw s ops => by
    intro fl rd kn kx kr a ds h nx r hr
    unfold comp at hr
    rw [then_eq, run_mk] at hr
    cases hb : Nat.ble fl nx with
    | false => rw [hb] at hr; cases hr
    | true =>
      rw [hb] at hr
      obtain ⟨n, a', σ', h1, h2, h3⟩ := draw_k hop ops fl 0 h [] kn a ds nx r (Nat.le_of_ble_eq_true hb) hr
      refine ⟨n + 1, .normal, a', σ', ?_, h2, h3⟩
      show xDraw lp (exec lp n) fl s ops _ _ = _
      unfold xDraw
      rw [hb]
      simp only [cond_true, h1]
      rfl
  | .rangeFunc f ps assign body => by
    unfold comp
    rw [then_eq, run_mk]
    exact range_k hfn f ps assign body
  | .bad => fun fl rd kn kx kr a ds h nx r hr => by cases hr
theorem leave_k {fl : Nat} {res : List LRes} {k : Kv} {a : HAct} {σ : HS} {r : HV × HS} (hn : a.nt = nt) (hr : leaveK fl nt res k a.tmps a.defers σ.h σ.nx = some r) : ∃ v σ', leaveH fl a res σ = some (v, σ') ∧ k v σ'.h σ'.nx = some r := by
  unfold leaveK at hr
  have ea : (⟨nt, a.tmps, a.defers⟩ : HAct) = a := by rw [← hn]
  rw [ea] at hr
  split at hr
  · rename_i v σ' h1; exact ⟨v, σ', h1, hr⟩
  · cases hr
theorem both_k : ∀ n, (∀ f, KfOk lp ((bothK lp n).1 f).run f) ∧ KrOk lp (bothK lp n).2
  | 0 => ⟨fun f fl args h nx k r hr => (by cases hr), fun fl l args h nx k r hr => (by cases hr)⟩
  | n + 1 => by
    obtain ⟨hfn, hro⟩ := both_k n
    have hco : ∀ nt c, KcOk lp nt (comp (compOp lp (bothK lp n).1 (bothK lp n).2 nt) (bothK lp n).1 nt c).run c := fun nt c => comp_k (fun o => op_ok hfn hro o) hfn c
    refine ⟨fun f fl args h nx k r hr => ?_, round_k hco⟩
    unfold bothK at hr
    dsimp only at hr
    split at hr
    · cases hr
    · rename_i lf hlf
      split at hr
      · rename_i g hg
        rw [run_mk] at hr
        unfold specK at hr
        split at hr
        · rename_i v σ h1
          cases hb : Nat.ble nx σ.nx with
          | false => rw [hb] at hr; cases hr
          | true =>
            rw [hb] at hr
            refine ⟨0, v, σ, ?_, hr⟩
            unfold callF
            rw [hlf]
            simp only [hg]
            unfold specH
            rw [h1]
            simp only [hb, cond_true]
        · cases hr
      rename_i hsp
      rw [then_eq] at hr
      have run : ∀ (fl0 : Nat) (k0 : Kv), (bif Nat.ble args.length lf.nt then (comp (compOp lp (bothK lp n).1 (bothK lp n).2 lf.nt) (bothK lp n).1 lf.nt lf.body).run fl0 none (leaveK fl0 lf.nt lf.res k0) (fun _ _ _ _ _ => none) (leaveK fl0 lf.nt lf.res k0) (putAll .e 0 args) [] h nx else none) = some r →
          ∃ m v σ', callB (exec lp m) fl0 lf args ⟨h, nx⟩ = some (v, σ') ∧ k0 v σ'.h σ'.nx = some r := by
        intro fl0 k0 hr
        cases hb : Nat.ble args.length lf.nt with
        | false => rw [hb] at hr; cases hr
        | true =>
          rw [hb] at hr
          simp only [cond_true] at hr
          have hmx : Nat.max lf.nt args.length = lf.nt := Nat.max_eq_left (Nat.le_of_ble_eq_true hb)
          obtain ⟨m, e, a', σ', h1, h2, h3⟩ := hco lf.nt lf.body fl0 none _ _ _ _ _ _ _ r hr
          cases e with
          | normal =>
            obtain ⟨v, σ'', g1, g2⟩ := leave_k h2 h3
            refine ⟨m, v, σ'', ?_, g2⟩
            unfold callB
            rw [hmx, h1]
            exact g1
          | exit id => cases h3
          | ret =>
            obtain ⟨v, σ'', g1, g2⟩ := leave_k h2 h3
            refine ⟨m, v, σ'', ?_, g2⟩
            unfold callB
            rw [hmx, h1]
            exact g1
      unfold enterK at hr
      cases hi : lf.imp with
      | true =>
        rw [hi] at hr
        simp only [cond_true] at hr
        rw [run_mk] at hr
        obtain ⟨m, v, σ', g1, g2⟩ := run fl k hr
        refine ⟨m, v, σ', ?_, g2⟩
        unfold callF
        rw [hlf]
        simp only [hsp, hi, cond_true]
        exact g1
      | false =>
        rw [hi] at hr
        simp only [cond_false] at hr
        rw [run_mk] at hr
        obtain ⟨m, v, σ', g1, g2⟩ := run nx (gcK h nx k) hr
        refine ⟨m, v, gcH ⟨h, nx⟩ σ' v, ?_, g2⟩
        unfold callF
        rw [hlf]
        simp only [hsp, hi, cond_false, g1]
theorem fn_k (n f : Nat) : KfOk lp ((fnK lp n f).run) f := (both_k n).1 f
/-- **What the closures reckon, the plain machine does.** -/
theorem c_of_k {n f : Nat} {args : List HV} {h : Tr HBlk} {nx : Nat} {Q : HV → HS → Prop} {k : Kv} {r : HV × HS} (hr : (fnK lp n f).run 0 args h nx k = some r) (hk : ∀ v h nx, k v h nx = some r → Q v ⟨h, nx⟩) : C lp 0 f args ⟨h, nx⟩ Q := by
  obtain ⟨m, v, σ', h1, h2⟩ := fn_k n f 0 args h nx k r hr
  exact ⟨m, v, σ', h1, hk _ _ _ h2⟩
end Go.Hx

