import Derived.Test.YtcejjaaoainfjaaH00
import Derived.Test.YtcejjaaoainfjaaProg
import Derived.ProofKit
set_option linter.all false
namespace Go.Hx
set_option maxRecDepth 100000
noncomputable section
abbrev F.m (d x:Nat):zh:=⟨some d,.move (.t x),none,[]⟩
abbrev F.f (d k x:Nat):zh:=⟨some d,.fieldAddr k (.t x),none,[]⟩
abbrev F.l (d x:Nat):zh:=⟨some d,.load false 1 (.t x),none,[]⟩
abbrev F.g (d n x:Nat):zh:=⟨some d,.load true n (.t x),none,[]⟩
abbrev F.x (d x k:Nat):zh:=⟨some d,.extract (.t x) k,none,[]⟩
abbrev F.s (n x y:Nat):zh:=⟨none,.store n (.t x) (.t y),none,[]⟩
abbrev F.i (n:Int):HV:=.int .i64 n
abbrev F.c (f:Nat) (a:List Lo):LOp:=.call (.c (.func f [] [])) a
abbrev F.b (o:BinOp) (x y:Lo):LOp:=.bin o x y
abbrev F.k (n:Int):Lo:=.c (.int .i64 n)
abbrev F.t (n:Nat):Lo:=.t n
open F
abbrev o (d:Nat) (p:LOp):zh:=⟨some d,p,none,[]⟩
abbrev oa (d:Nat) (p:LOp) (a:List Nat):zh:=⟨some d,p,none,a⟩
abbrev og (d:Nat) (p:LOp) (t:Nat) (b:Bool):zh:=⟨some d,p,some (t,b),[]⟩
abbrev oga (d:Nat) (p:LOp) (t:Nat) (b:Bool) (a:List Nat):zh:=⟨some d,p,some (t,b),a⟩
abbrev on (p:LOp):zh:=⟨none,p,none,[]⟩
abbrev ona (p:LOp) (a:List Nat):zh:=⟨none,p,none,a⟩
def Zr (n:Nat):List HV:=List.replicate n (i 0)
noncomputable abbrev vO:=viaOff Go.Proofs.Try.prog
noncomputable abbrev LP:Nat → Option zp:=lowP Go.Proofs.Try.prog [22,24,27,28,29,35,36,37,38,40,44,45,46,49,52,54,55,56,58,59,61,65,66,71,74,79,80,82,83,89,93,94,103,107,108,109,120,121,122,129]
def L4s0:ze:=(.cond (t 13) (.seq (.reg [(o 14 (c 20 [])),(m 2 14)]) .ret) .skip)
def L4r0:List zh:=[(x 20 15 1),(m 3 19),(m 4 20)]
def L4r1:List zh:=[(x 26 21 1),(m 5 25),(m 6 26)]
def L4r2:List zh:=[(x 36 31 2),(m 8 34),(m 9 35),(m 10 36)]
def L4s1:ze:=(.cond (t 38) (.reg [(o 7 (.move (k 9)))]) .skip)
def L4s2:ze:=(.seq (.reg [(m 37 10),(o 38 (.un .not (t 37)))]) L4s1)
def L4s3:ze:=(.seq (.reg ((g 32 3 1) :: (o 33 (c 29 [(t 32)])) :: (m 31 33) :: (x 34 31 0) :: (x 35 31 1) :: L4r2)) L4s2)
def L4s4:ze:=(.cond (t 30) (.seq (.reg [(o 10 (.move (.c (.bool .false))))]) L4s3) .skip)
def L4r3:List zh:=[(o 56 (.pick (t 49) (t 55) (.c (.bool .false)))),(m 57 56),(og 58 (c 20 []) 57 .true),(o 59 (.pick (t 57) (t 58) (.c (.bool .false)))),(m 2 59)]
def L4r4:List zh:=((og 51 (.len .slice (t 50)) 49 .true) :: (og 52 (.move (t 5)) 49 .true) :: (og 53 (.len .slice (t 52)) 49 .true) :: (og 54 (b .add (t 51) (t 53)) 49 .true) :: (og 55 (.eq (.cell (.i .i64)) .false (t 54) (k 0)) 49 .true) :: L4r3)
def L4r5:List zh:=((og 46 (.move (t 7)) 44 .true) :: (og 47 (.eq (.cell (.i .i64)) .false (t 45) (t 46)) 44 .true) :: (o 48 (.pick (t 44) (t 47) (.c (.bool .false)))) :: (m 49 48) :: (og 50 (.move (t 3)) 49 .true) :: L4r4)
def L4s5:ze:=(.cond (t 40) (.seq (.reg ((m 41 4) :: (m 42 7) :: (o 43 (.eq (.cell (.i .i64)) .false (t 41) (t 42))) :: (m 44 43) :: (og 45 (.move (t 6)) 44 .true) :: L4r5)) .ret) .skip)
def L4r6:List zh:=[(o 75 (.pick (t 71) (t 74) (.c (.bool .false)))),(m 76 75),(og 77 (c 20 []) 76 .true),(o 78 (.pick (t 76) (t 77) (.c (.bool .false)))),(m 2 78)]
def L4r7:List zh:=((o 70 (.pick (t 67) (t 69) (.c (.bool .false)))) :: (m 71 70) :: (og 72 (.move (t 5)) 71 .true) :: (og 73 (.move (t 9)) 71 .true) :: (og 74 (c 30 [(t 72),(t 73)]) 71 .true) :: L4r6)
def L4r8:List zh:=((og 65 (c 30 [(t 63),(t 64)]) 62 .true) :: (o 66 (.pick (t 62) (t 65) (.c (.bool .false)))) :: (m 67 66) :: (og 68 (.move (t 6)) 67 .true) :: (og 69 (.eq (.cell (.i .i64)) .false (t 68) (k 0)) 67 .true) :: L4r7)
def L4s6:ze:=(.seq (.reg ((m 60 4) :: (o 61 (.eq (.cell (.i .i64)) .false (t 60) (k 0))) :: (m 62 61) :: (og 63 (.move (t 3)) 62 .true) :: (og 64 (.move (t 8)) 62 .true) :: L4r8)) .ret)
def L4s7:ze:=(.seq (.seq (.reg [(m 39 7),(o 40 (.eq (.cell (.i .i64)) .true (t 39) (k 0)))]) L4s5) L4s6)
def L4s8:ze:=(.seq (.seq (.reg [(m 29 7),(o 30 (.eq (.cell (.i .i64)) .false (t 29) (k 0)))]) L4s4) L4s7)
def L4s9:ze:=(.seq (.reg [(o 8 (.move (.c (.slice .none 0 0)))),(o 9 (.move (.c (.slice .none 0 0))))]) L4s8)
def L4s10:ze:=(.seq (.reg [(g 27 3 1),(o 28 (c 25 [(t 27)])),(m 7 28)]) L4s9)
def L4s11:ze:=(.seq (.reg ((g 22 3 1) :: (o 23 (c 22 [(t 22)])) :: (o 24 (c 28 [(t 23)])) :: (m 21 24) :: (x 25 21 0) :: L4r1)) L4s10)
def L4s12:ze:=(.seq (.reg ((g 16 3 1) :: (o 17 (c 22 [(t 16)])) :: (o 18 (c 27 [(t 17)])) :: (m 15 18) :: (x 19 15 0) :: L4r0)) L4s11)
def L4s13:ze:=(.seq (.seq (.reg [(g 11 3 1),(o 12 (c 19 [(t 11)])),(o 13 (.un .not (t 12)))]) L4s0) L4s12)
def L4:zp:=⟨79,(.seq (.reg [(o 1 (.box (t 0))),(o 2 (.move (.c (.bool .false))))]) L4s13),[(.t 2)],.false,.none,vO⟩
def L16s0:ze:=(.cond (t 33) (.seq (.reg [(o 34 (c 20 [])),(m 8 34)]) .ret) .skip)
def L16r0:List zh:=[(o 40 (b .rem (t 36) (t 39))),(m 41 2),(o 42 (.convInt .i64 (t 41))),(m 9 40),(m 10 42)]
def L16r1:List zh:=[(l 48 47),(oa 49 (.build [(.slice .none 0 0),(i 0),(.slice .none 0 0)] [(0,(1,(t 46))),(1,(1,(t 48)))]) [3,0]),(o 11 (.alloc [(.slice .none 0 0),(i 0),(.slice .none 0 0)])),(ona (.store 3 (t 11) (t 49)) [7,3,0])]
def L16r2:List zh:=[(f 65 1 64),(l 66 65),(m 67 10),(o 68 (b .add (t 66) (t 67))),(o 69 (.build [(i 0),(i 0)] [(0,(1,(t 60))),(1,(1,(t 68)))])),(o 70 (.indexAddrS 2 (t 51) (t 52))),(s 2 70 69)]
def L16r3:List zh:=((o 60 (b .add (t 58) (t 59))) :: (f 61 0 4) :: (l 62 61) :: (m 63 9) :: (o 64 (.indexAddrS 2 (t 62) (t 63))) :: L16r2)
def L16r4:List zh:=((m 55 9) :: (o 56 (.indexAddrS 2 (t 54) (t 55))) :: (f 57 0 56) :: (l 58 57) :: (m 59 10) :: L16r3)
def L16r5:List zh:=[(g 83 2 82),(o 84 (.build [(i 0),(i 0),(.slice .none 0 0)] [(0,(2,(t 83)))])),(o 13 (.alloc [(i 0),(i 0),(.slice .none 0 0)])),(s 3 13 84)]
def L16r6:List zh:=[(f 90 2 89),(l 91 90),(o 92 (.len .slice (t 91))),(o 93 (b .lss (t 85) (t 92)))]
def L16r7:List zh:=[(l 101 100),(m 102 14),(o 103 (.indexAddrS 2 (t 101) (t 102))),(g 104 2 103),(o 15 (.alloc [(i 0),(i 0)])),(s 2 15 104)]
def L16s1:ze:=(.cond (t 108) (.reg [(f 109 1 15),(l 110 109),(m 111 10),(o 112 (b .add (t 110) (t 111))),(f 113 1 15),(s 1 113 112)]) .skip)
def L16s2:ze:=(.reg [(f 114 2 13),(l 115 114),(g 116 2 15),(o 117 (.buildSlice 1 [(i 0),(i 0)] [(0,(2,(t 116)))])),(o 118 (.append 2 16 (t 115) (t 117))),(f 119 2 13),(s 1 119 118)])
def L16s3:ze:=(.seq (.seq (.reg [(f 105 0 15),(l 106 105),(m 107 9),(o 108 (.eq (.cell (.i .i64)) .false (t 106) (t 107)))]) L16s1) L16s2)
def L16s4:ze:=(.reg [(m 94 14),(o 95 (b .add (t 94) (k 1))),(m 14 95)])
def L16s5:ze:=(.seq (.block 3 (.seq (.reg ((f 96 2 4) :: (l 97 96) :: (m 98 12) :: (o 99 (.indexAddrS 3 (t 97) (t 98))) :: (f 100 2 99) :: L16r7)) L16s3)) L16s4)
def L16w1:ze:=(.seq (.seq (.reg ((m 85 14) :: (f 86 2 4) :: (l 87 86) :: (m 88 12) :: (o 89 (.indexAddrS 3 (t 87) (t 88))) :: L16r6)) (.cond (t 93) .skip (.exit 2))) L16s5)
def L16s6:ze:=(.reg [(f 120 2 11),(l 121 120),(g 122 3 13),(o 123 (.buildSlice 1 [(i 0),(i 0),(.slice .none 0 0)] [(0,(3,(t 122)))])),(o 124 (.append 3 40 (t 121) (t 123))),(f 125 2 11),(s 1 125 124)])
def L16s7:ze:=(.seq (.seq (.reg [(o 14 (.move (k 0)))]) (.block 2 (.loop L16w1))) L16s6)
def L16s8:ze:=(.reg [(m 76 12),(o 77 (b .add (t 76) (k 1))),(m 12 77)])
def L16s9:ze:=(.seq (.block 1 (.seq (.reg ((f 78 2 4) :: (l 79 78) :: (m 80 12) :: (o 81 (.indexAddrS 3 (t 79) (t 80))) :: (f 82 0 81) :: L16r5)) L16s7)) L16s8)
def L16w2:ze:=(.seq (.seq (.reg [(m 71 12),(f 72 2 4),(l 73 72),(o 74 (.len .slice (t 73))),(o 75 (b .lss (t 71) (t 74)))]) (.cond (t 75) .skip (.exit 0))) L16s9)
def L16r8:List zh:=[(x 131 126 1),(m 16 130),(m 17 131)]
def L16r9:List zh:=[(x 137 132 1),(m 18 136),(m 19 137)]
def L16r10:List zh:=[(oa 158 (.append 3 40 (t 153) (t 157)) [5,0]),(oa 159 (.fieldAddr 2 (t 21)) [10,5,0]),(ona (.store 1 (t 159) (t 158)) [10,5,0])]
def L16r11:List zh:=((oa 153 (.append 3 40 (t 148) (t 152)) [5,0]) :: (f 154 2 4) :: (l 155 154) :: (m 156 22) :: (o 157 (.sliceS 3 (t 155) .none (.some (t 156)))) :: L16r10)
def L16r12:List zh:=[(x 165 160 1),(m 23 164),(m 24 165)]
def L16r13:List zh:=[(og 176 (.move (t 23)) 175 .false),(og 177 (.move (t 16)) 175 .false),(og 178 (c 64 [(t 176),(t 177)]) 175 .false),(og 179 (.un .not (t 178)) 175 .false),(o 180 (.pick (t 175) (.c (.bool .true)) (t 179)))]
def L16r14:List zh:=((og 171 (.move (t 23)) 169 .false) :: (og 172 (c 64 [(t 170),(t 171)]) 169 .false) :: (og 173 (.un .not (t 172)) 169 .false) :: (o 174 (.pick (t 169) (.c (.bool .true)) (t 173))) :: (m 175 174) :: L16r13)
def L16s10:ze:=(.cond (t 180) (.seq (.reg [(o 8 (.move (.c (.bool .false))))]) .ret) .skip)
def L16s11:ze:=(.seq (.reg ((m 166 24) :: (m 167 17) :: (o 168 (.eq (.cell (.i .i64)) .true (t 166) (t 167))) :: (m 169 168) :: (og 170 (.move (t 16)) 169 .false) :: L16r14)) L16s10)
def L16s12:ze:=(.seq (.reg ((g 161 3 21) :: (o 162 (c 22 [(t 161)])) :: (o 163 (c 27 [(t 162)])) :: (m 160 163) :: (x 164 160 0) :: L16r12)) L16s11)
def L16s13:ze:=(.seq (.draw 10 ((o 148 (.buildSlice 0 [(i 0),(i 0),(.slice .none 0 0)] [])) :: (f 149 2 4) :: (l 150 149) :: (m 151 22) :: (o 152 (.sliceS 3 (t 150) (.some (t 151)) .none)) :: L16r11)) L16s12)
def L16s14:ze:=(.seq (.reg [(m 144 3),(o 145 (.convInt .i64 (t 144))),(m 146 20),(o 147 (b .rem (t 145) (t 146))),(m 22 147)]) L16s13)
def L16s15:ze:=(.cond (t 142) (.seq (.reg [(g 143 3 4),(o 21 (.alloc [(.slice .none 0 0),(i 0),(.slice .none 0 0)])),(s 3 21 143)]) L16s14) .skip)
def L16s16:ze:=(.seq (.reg [(m 141 20),(o 142 (b .gtr (t 141) (k 0)))]) L16s15)
def L16s17:ze:=(.cond (t 183) (.seq (.reg [(o 184 (c 20 [])),(m 8 184)]) .ret) .skip)
def L16r15:List zh:=[(x 190 185 1),(m 25 189),(m 26 190)]
def L16r16:List zh:=[(x 196 191 1),(m 27 195),(m 28 196)]
def L16r17:List zh:=[(o 222 (.pick (t 217) (.c (.bool .true)) (t 221))),(m 223 222),(og 224 (.move (t 27)) 223 .false),(og 225 (.move (t 18)) 223 .false),(og 226 (c 64 [(t 224),(t 225)]) 223 .false),(og 227 (.un .not (t 226)) 223 .false),(o 228 (.pick (t 223) (.c (.bool .true)) (t 227)))]
def L16r18:List zh:=((m 217 216) :: (og 218 (.move (t 18)) 217 .false) :: (og 219 (.move (t 27)) 217 .false) :: (og 220 (c 64 [(t 218),(t 219)]) 217 .false) :: (og 221 (.un .not (t 220)) 217 .false) :: L16r17)
def L16r19:List zh:=((og 212 (.len .slice (t 211)) 210 .false) :: (og 213 (.move (t 16)) 210 .false) :: (og 214 (.len .slice (t 213)) 210 .false) :: (og 215 (.eq (.cell (.i .i64)) .true (t 212) (t 214)) 210 .false) :: (o 216 (.pick (t 210) (.c (.bool .true)) (t 215))) :: L16r18)
def L16r20:List zh:=((og 207 (.move (t 17)) 205 .false) :: (og 208 (.eq (.cell (.i .i64)) .true (t 206) (t 207)) 205 .false) :: (o 209 (.pick (t 205) (.c (.bool .true)) (t 208))) :: (m 210 209) :: (og 211 (.move (t 25)) 210 .false) :: L16r19)
def L16r21:List zh:=((og 202 (.move (t 17)) 200 .false) :: (og 203 (.eq (.cell (.i .i64)) .true (t 201) (t 202)) 200 .false) :: (o 204 (.pick (t 200) (.c (.bool .true)) (t 203))) :: (m 205 204) :: (og 206 (.move (t 28)) 205 .false) :: L16r20)
def L16s18:ze:=(.cond (t 228) (.seq (.reg [(o 8 (.move (.c (.bool .false))))]) .ret) .skip)
def L16s19:ze:=(.cond (t 237) (.reg [(m 238 10),(m 30 238)]) .skip)
def L16r22:List zh:=[(l 254 253),(m 255 30),(o 256 (b .add (t 254) (t 255))),(o 257 (c 57 [(t 249),(t 256)])),(oa 258 (.eq (.row [(.i .i64),(.i .i64)]) .true (t 242) (t 257)) [18])]
def L16r23:List zh:=((o 249 (b .add (t 247) (t 248))) :: (m 250 16) :: (m 251 29) :: (o 252 (.indexAddrS 2 (t 250) (t 251))) :: (f 253 1 252) :: L16r22)
def L16r24:List zh:=((m 244 29) :: (o 245 (.indexAddrS 2 (t 243) (t 244))) :: (f 246 0 245) :: (l 247 246) :: (m 248 30) :: L16r23)
def L16s20:ze:=(.cond (t 258) (.seq (.reg [(o 8 (.move (.c (.bool .false))))]) .ret) .skip)
def L16s21:ze:=(.seq (.draw 19 ((m 239 25) :: (m 240 29) :: (o 241 (.indexAddrS 2 (t 239) (t 240))) :: (g 242 2 241) :: (m 243 16) :: L16r24)) L16s20)
def L16s22:ze:=(.seq (.seq (.reg [(m 235 29),(m 236 9),(o 237 (.eq (.cell (.i .i64)) .false (t 235) (t 236)))]) L16s19) L16s21)
def L16s23:ze:=(.reg [(m 233 29),(o 234 (b .add (t 233) (k 1))),(m 29 234)])
def L16s24:ze:=(.seq (.block 5 (.seq (.reg [(o 30 (.move (k 0)))]) L16s22)) L16s23)
def L16w0:ze:=(.seq (.seq (.reg [(m 229 29),(m 230 16),(o 231 (.len .slice (t 230))),(o 232 (b .lss (t 229) (t 231)))]) (.cond (t 232) .skip (.exit 4))) L16s24)
def L16r25:List zh:=[(o 264 (.pick (t 261) (.c (.bool .true)) (t 263))),(m 265 264),(og 266 (c 20 []) 265 .true),(o 267 (.pick (t 265) (t 266) (.c (.bool .false)))),(m 8 267)]
def L16s25:ze:=(.seq (.reg ((m 259 17) :: (o 260 (.eq (.cell (.i .i64)) .false (t 259) (k 0))) :: (m 261 260) :: (og 262 (.move (t 17)) 261 .false) :: (og 263 (.eq (.cell (.i .i64)) .false (t 262) (k 9)) 261 .false) :: L16r25)) .ret)
def L16s26:ze:=(.seq (.seq (.reg [(o 29 (.move (k 0)))]) (.block 4 (.loop L16w0))) L16s25)
def L16s27:ze:=(.seq (.seq (.reg ((m 197 17) :: (m 198 19) :: (o 199 (.eq (.cell (.i .i64)) .true (t 197) (t 198))) :: (m 200 199) :: (og 201 (.move (t 26)) 200 .false) :: L16r21)) L16s18) L16s26)
def L16s28:ze:=(.seq (.reg ((g 192 3 11) :: (o 193 (c 22 [(t 192)])) :: (o 194 (c 28 [(t 193)])) :: (m 191 194) :: (x 195 191 0) :: L16r16)) L16s27)
def L16s29:ze:=(.seq (.reg ((g 186 3 11) :: (o 187 (c 22 [(t 186)])) :: (o 188 (c 27 [(t 187)])) :: (m 185 188) :: (x 189 185 0) :: L16r15)) L16s28)
def L16s30:ze:=(.seq (.seq (.reg [(g 181 3 11),(o 182 (c 25 [(t 181)])),(o 183 (.eq (.cell (.i .i64)) .true (t 182) (k 0)))]) L16s17) L16s29)
def L16s31:ze:=(.seq (.seq (.reg [(f 138 2 4),(l 139 138),(o 140 (.len .slice (t 139))),(m 20 140)]) L16s16) L16s30)
def L16s32:ze:=(.seq (.reg ((g 133 3 4) :: (o 134 (c 22 [(t 133)])) :: (o 135 (c 28 [(t 134)])) :: (m 132 135) :: (x 136 132 0) :: L16r9)) L16s31)
def L16s33:ze:=(.seq (.reg ((g 127 3 4) :: (o 128 (c 22 [(t 127)])) :: (o 129 (c 27 [(t 128)])) :: (m 126 129) :: (x 130 126 0) :: L16r8)) L16s32)
def L16s34:ze:=(.seq (.seq (.reg [(o 12 (.move (k 0)))]) (.block 0 (.loop L16w2))) L16s33)
def L16s35:ze:=(.seq (.draw 0 ((f 50 0 11) :: (l 51 50) :: (m 52 9) :: (f 53 0 4) :: (l 54 53) :: L16r4)) L16s34)
def L16s36:ze:=(.seq (.draw 8 ((o 43 (.buildSlice 0 [(i 0),(i 0)] [])) :: (f 44 0 4) :: (l 45 44) :: (oa 46 (.append 2 16 (t 43) (t 45)) [3,0]) :: (f 47 1 4) :: L16r1)) L16s35)
def L16s37:ze:=(.seq (.reg ((m 35 1) :: (o 36 (.convInt .i64 (t 35))) :: (f 37 0 4) :: (l 38 37) :: (o 39 (.len .slice (t 38))) :: L16r0)) L16s36)
def L16s38:ze:=(.seq (.seq (.reg [(g 31 3 4),(o 32 (c 60 [(t 31)])),(o 33 (.un .not (t 32)))]) L16s0) L16s37)
def L16:zp:=⟨268,(.seq (.reg [(o 4 (.box (t 0))),(o 8 (.move (.c (.bool .false))))]) L16s38),[(.t 8)],.false,.none,vO⟩
theorem lp16:LP 16 = some L16:=by kernel_rfl
def L19r0:List zh:=[(m 9 8),(og 10 (.move (t 3)) 9 .true),(og 11 (b .lss (t 10) (k 10)) 9 .true),(o 12 (.pick (t 9) (t 11) (.c (.bool .false))))]
def L19r1:List zh:=[(l 20 19),(o 21 (.len .slice (t 20))),(o 22 (b .gtr (t 21) (k 9)))]
def L19s0:ze:=(.cond (t 22) (.seq (.reg [(o 2 (.move (.c (.bool .false))))]) .ret) .skip)
def L19s1:ze:=(.reg [(m 13 3),(o 14 (b .add (t 13) (k 1))),(m 3 14)])
def L19s2:ze:=(.seq (.block 1 (.seq (.reg ((f 15 2 1) :: (l 16 15) :: (m 17 3) :: (o 18 (.indexAddrS 3 (t 16) (t 17))) :: (f 19 2 18) :: L19r1)) L19s0)) L19s1)
def L19w0:ze:=(.seq (.seq (.reg ((m 4 3) :: (f 5 2 1) :: (l 6 5) :: (o 7 (.len .slice (t 6))) :: (o 8 (b .lss (t 4) (t 7))) :: L19r0)) (.cond (t 12) .skip (.exit 0))) L19s2)
def L19r2:List zh:=[(og 28 (.fieldAddr 2 (t 1)) 27 .true),(og 29 (.load .false 1 (t 28)) 27 .true),(og 30 (.len .slice (t 29)) 27 .true),(og 31 (b .leq (t 30) (k 9)) 27 .true),(o 32 (.pick (t 27) (t 31) (.c (.bool .false)))),(m 2 32)]
def L19s3:ze:=(.seq (.reg ((f 23 0 1) :: (l 24 23) :: (o 25 (.len .slice (t 24))) :: (o 26 (b .leq (t 25) (k 9))) :: (m 27 26) :: L19r2)) .ret)
def L19s4:ze:=(.seq (.seq (.reg [(o 3 (.move (k 0)))]) (.block 0 (.loop L19w0))) L19s3)
def L19:zp:=⟨33,(.seq (.reg [(o 1 (.box (t 0))),(o 2 (.move (.c (.bool .false))))]) L19s4),[(.t 2)],.false,.none,vO⟩
theorem lp19:LP 19 = some L19:=by kernel_rfl
def L21r0:List zh:=[(og 8 (.fieldAddr 2 (t 1)) 7 .false),(og 9 (.load .false 1 (t 8)) 7 .false),(og 10 (.len .slice (t 9)) 7 .false),(og 11 (b .gtr (t 10) (k 6)) 7 .false),(o 12 (.pick (t 7) (.c (.bool .true)) (t 11)))]
def L21s0:ze:=(.cond (t 12) (.seq (.reg [(o 2 (.move (k 3)))]) .ret) .skip)
def L21s1:ze:=(.cond (t 15) (.seq (.reg [(o 2 (.move (k 1)))]) .ret) .skip)
def L21s2:ze:=(.seq (.seq (.reg [(g 13 3 1),(o 14 (c 69 [(t 13)])),(o 15 (.un .not (t 14)))]) L21s1) (.seq (.reg [(o 2 (.move (k 0)))]) .ret))
def L21s3:ze:=(.seq (.seq (.reg ((f 3 0 1) :: (l 4 3) :: (o 5 (.len .slice (t 4))) :: (o 6 (b .gtr (t 5) (k 6))) :: (m 7 6) :: L21r0)) L21s0) L21s2)
def L21:zp:=⟨16,(.seq (.reg [(o 1 (.box (t 0))),(o 2 (.move (k 0)))]) L21s3),[(.t 2)],.false,.none,vO⟩
theorem lp21:LP 21 = some L21:=by kernel_rfl
def L22r0:List zh:=[(o 24 (.indexAddrS 2 (t 22) (t 23))),(g 25 2 24),(o 26 (c 33 [(t 25)])),(oa 27 (.buildSlice 1 [(i 0),(i 0)] [(0,(2,(t 26)))]) [7]),(oa 28 (.append 2 16 (t 20) (t 27)) [8,7]),(oa 29 (.fieldAddr 0 (t 3)) [9,8,7]),(ona (.store 1 (t 29) (t 28)) [9,8,7])]
def L22s0:ze:=(.reg [(m 17 4),(o 18 (b .add (t 17) (k 1))),(m 4 18)])
def L22s1:ze:=(.seq (.block 1 (.draw 9 ((f 19 0 3) :: (l 20 19) :: (f 21 0 1) :: (l 22 21) :: (m 23 4) :: L22r0))) L22s0)
def L22w2:ze:=(.seq (.seq (.reg [(m 12 4),(f 13 0 1),(l 14 13),(o 15 (.len .slice (t 14))),(o 16 (b .lss (t 12) (t 15)))]) (.cond (t 16) .skip (.exit 0))) L22s1)
def L22r1:List zh:=[(g 42 2 41),(o 43 (c 33 [(t 42)])),(o 44 (.build [(i 0),(i 0),(.slice .none 0 0)] [(0,(2,(t 43)))])),(o 6 (.alloc [(i 0),(i 0),(.slice .none 0 0)])),(s 3 6 44)]
def L22r2:List zh:=[(f 50 2 49),(l 51 50),(o 52 (.len .slice (t 51))),(o 53 (b .lss (t 45) (t 52)))]
def L22r3:List zh:=[(l 61 60),(m 62 7),(o 63 (.indexAddrS 2 (t 61) (t 62))),(g 64 2 63),(o 8 (.alloc [(i 0),(i 0)])),(s 2 8 64)]
def L22r4:List zh:=[(l 70 69),(o 71 (.build [(i 0),(i 0)] [(0,(1,(t 68))),(1,(1,(t 70)))])),(o 72 (.buildSlice 1 [(i 0),(i 0)] [(0,(2,(t 71)))])),(o 73 (.append 2 16 (t 66) (t 72))),(f 74 2 6),(s 1 74 73)]
def L22s2:ze:=(.reg ((f 65 2 6) :: (l 66 65) :: (f 67 0 8) :: (l 68 67) :: (f 69 1 8) :: L22r4))
def L22s3:ze:=(.reg [(m 54 7),(o 55 (b .add (t 54) (k 1))),(m 7 55)])
def L22s4:ze:=(.seq (.block 5 (.seq (.reg ((f 56 2 1) :: (l 57 56) :: (m 58 5) :: (o 59 (.indexAddrS 3 (t 57) (t 58))) :: (f 60 2 59) :: L22r3)) L22s2)) L22s3)
def L22w0:ze:=(.seq (.seq (.reg ((m 45 7) :: (f 46 2 1) :: (l 47 46) :: (m 48 5) :: (o 49 (.indexAddrS 3 (t 47) (t 48))) :: L22r2)) (.cond (t 53) .skip (.exit 4))) L22s4)
def L22s5:ze:=(.reg [(f 75 2 3),(l 76 75),(g 77 3 6),(o 78 (.buildSlice 1 [(i 0),(i 0),(.slice .none 0 0)] [(0,(3,(t 77)))])),(o 79 (.append 3 40 (t 76) (t 78))),(f 80 2 3),(s 1 80 79)])
def L22s6:ze:=(.seq (.seq (.reg [(o 7 (.move (k 0)))]) (.block 4 (.loop L22w0))) L22s5)
def L22s7:ze:=(.reg [(m 35 5),(o 36 (b .add (t 35) (k 1))),(m 5 36)])
def L22s8:ze:=(.seq (.block 3 (.seq (.reg ((f 37 2 1) :: (l 38 37) :: (m 39 5) :: (o 40 (.indexAddrS 3 (t 38) (t 39))) :: (f 41 0 40) :: L22r1)) L22s6)) L22s7)
def L22w1:ze:=(.seq (.seq (.reg [(m 30 5),(f 31 2 1),(l 32 31),(o 33 (.len .slice (t 32))),(o 34 (b .lss (t 30) (t 33)))]) (.cond (t 34) .skip (.exit 2))) L22s8)
def L22s9:ze:=(.seq (.reg [(g 81 3 3),(s 3 2 81)]) .ret)
def L22s10:ze:=(.seq (.seq (.reg [(o 5 (.move (k 0)))]) (.block 2 (.loop L22w1))) L22s9)
def L22s11:ze:=(.seq (.seq (.reg [(o 4 (.move (k 0)))]) (.block 0 (.loop L22w2))) L22s10)
def L22s12:ze:=(.seq (.reg [(f 9 1 1),(l 10 9),(o 11 (.build [(.slice .none 0 0),(i 0),(.slice .none 0 0)] [(1,(1,(t 10)))])),(o 3 (.alloc [(.slice .none 0 0),(i 0),(.slice .none 0 0)])),(s 3 3 11)]) L22s11)
def L22:zp:=⟨82,(.seq (.reg [(o 1 (.box (t 0))),(o 2 (.alloc [(.slice .none 0 0),(i 0),(.slice .none 0 0)]))]) L22s12),[(.cell 2 .true 3)],.true,.none,vO⟩
theorem lp22:LP 22 = some L22:=by kernel_rfl
def L25s0:ze:=(.seq (.reg [(g 3 3 1),(o 4 (c 73 [(t 3)])),(m 2 4)]) .ret)
def L25:zp:=⟨5,(.seq (.reg [(o 1 (.box (t 0))),(o 2 (.move (k 0)))]) L25s0),[(.t 2)],.false,.none,vO⟩
theorem lp25:LP 25 = some L25:=by kernel_rfl
def L27r0:List zh:=[(o 4 (.alloc [(.slice .none 0 0),(i 0),(.slice .none 0 0),(i 0),(i 0),(i 0),(i 0),(i 0),(i 0),(i 0),(i 0),(i 0),(i 0),(i 0),(i 0),(i 0),(i 0),(i 0),(i 0),(i 0),(i 0),(i 0),(i 0),(i 0),(i 0),(i 0),(i 0),(i 0),(i 0),(i 0),(i 0),(i 0),(i 0),(i 0),(i 0),(i 0),(i 0),(i 0),(i 0),(i 0),(i 0),(i 0),(i 0),(i 0),(i 0),(i 0),(i 0),(i 0),(i 0),(i 0),(i 0),(i 0),(i 0),(i 0),(i 0),(i 0),(i 0),(i 0),(i 0),(i 0),(i 0),(i 0),(i 0),(i 0),(i 0),(i 0),(i 0),(i 0),(i 0),(i 0),(i 0),(i 0),(i 0),(i 0),(i 0),(i 0),(i 0),(i 0),(i 0),(i 0),(i 0),(i 0),(i 0),(i 0),(i 0),(i 0),(i 0),(i 0),(i 0),(i 0),(i 0),(i 0),(i 0),(i 0),(i 0),(i 0),(i 0),(i 0),(i 0),(i 0),(i 0),(i 0),(i 0),(i 0),(i 0),(i 0),(i 0),(i 0),(i 0),(i 0),(i 0),(i 0),(i 0),(i 0),(i 0),(i 0),(i 0),(i 0),(i 0),(i 0),(i 0),(i 0),(i 0),(i 0),(i 0),(i 0),(i 0),(i 0),(i 0),(i 0),(i 0),(i 0),(i 0),(i 0),(i 0),(i 0),(i 0),(i 0),(i 0),(i 0),(i 0),(i 0),(i 0),(i 0),(i 0),(i 0),(i 0),(i 0),(i 0),(i 0),(i 0),(i 0),(i 0),(i 0),(i 0),(i 0),(i 0),(i 0),(i 0),(i 0),(i 0),(i 0),(i 0),(i 0),(i 0),(i 0),(i 0),(i 0),(i 0),(i 0),(i 0),(i 0),(i 0)])),(s 173 4 11),(m 5 12)]
def L27s0:ze:=(.cond (t 14) (.seq (.reg [(m 15 5),(o 2 (.move (.c (.slice .none 0 0)))),(m 3 15)]) .ret) .skip)
def L27s1:ze:=(.reg [(m 26 6),(m 27 7),(o 28 (c 75 [(t 4),(t 27)])),(o 29 (.buildSlice 1 [(i 0),(i 0)] [(0,(2,(t 28)))])),(o 30 (.append 2 16 (t 26) (t 29))),(m 6 30)])
def L27s2:ze:=(.reg [(o 31 (b .add (t 23) (k 1))),(m 23 31)])
def L27s3:ze:=(.seq (.block 1 (.seq (.reg [(m 25 23),(m 7 25)]) L27s1)) L27s2)
def L27w0:ze:=(.seq (.reg [(o 24 (b .lss (t 23) (t 22)))]) (.seq (.cond (t 24) .skip (.exit 0)) L27s3))
def L27s4:ze:=(.seq (.reg [(m 32 6),(m 2 32),(o 3 (.move (k 0)))]) .ret)
def L27s5:ze:=(.seq (.seq (.reg [(f 20 0 1),(l 21 20),(o 22 (.len .slice (t 21))),(o 23 (.move (k 0)))]) (.block 0 (.loop L27w0))) L27s4)
def L27s6:ze:=(.seq (.reg [(f 16 0 1),(l 17 16),(o 18 (.len .slice (t 17))),(o 19 (.makeSlice [(i 0),(i 0)] 16 (k 0) (t 18))),(m 6 19)]) L27s5)
def L27s7:ze:=(.seq (.seq (.reg [(m 13 5),(o 14 (.eq (.cell (.i .i64)) .true (t 13) (k 0)))]) L27s0) L27s6)
def L27s8:ze:=(.seq (.reg ((g 9 3 1) :: (o 10 (c 74 [(t 9),(.c (.bool .true))])) :: (m 8 10) :: (x 11 8 0) :: (x 12 8 1) :: L27r0)) L27s7)
def L27:zp:=⟨33,(.seq (.reg [(o 1 (.box (t 0))),(o 2 (.move (.c (.slice .none 0 0)))),(o 3 (.move (k 0)))]) L27s8),[(.t 2),(.t 3)],.true,.none,vO⟩
theorem lp27:LP 27 = some L27:=by kernel_rfl
def L28r0:List zh:=[(o 4 (.alloc [(.slice .none 0 0),(i 0),(.slice .none 0 0),(i 0),(i 0),(i 0),(i 0),(i 0),(i 0),(i 0),(i 0),(i 0),(i 0),(i 0),(i 0),(i 0),(i 0),(i 0),(i 0),(i 0),(i 0),(i 0),(i 0),(i 0),(i 0),(i 0),(i 0),(i 0),(i 0),(i 0),(i 0),(i 0),(i 0),(i 0),(i 0),(i 0),(i 0),(i 0),(i 0),(i 0),(i 0),(i 0),(i 0),(i 0),(i 0),(i 0),(i 0),(i 0),(i 0),(i 0),(i 0),(i 0),(i 0),(i 0),(i 0),(i 0),(i 0),(i 0),(i 0),(i 0),(i 0),(i 0),(i 0),(i 0),(i 0),(i 0),(i 0),(i 0),(i 0),(i 0),(i 0),(i 0),(i 0),(i 0),(i 0),(i 0),(i 0),(i 0),(i 0),(i 0),(i 0),(i 0),(i 0),(i 0),(i 0),(i 0),(i 0),(i 0),(i 0),(i 0),(i 0),(i 0),(i 0),(i 0),(i 0),(i 0),(i 0),(i 0),(i 0),(i 0),(i 0),(i 0),(i 0),(i 0),(i 0),(i 0),(i 0),(i 0),(i 0),(i 0),(i 0),(i 0),(i 0),(i 0),(i 0),(i 0),(i 0),(i 0),(i 0),(i 0),(i 0),(i 0),(i 0),(i 0),(i 0),(i 0),(i 0),(i 0),(i 0),(i 0),(i 0),(i 0),(i 0),(i 0),(i 0),(i 0),(i 0),(i 0),(i 0),(i 0),(i 0),(i 0),(i 0),(i 0),(i 0),(i 0),(i 0),(i 0),(i 0),(i 0),(i 0),(i 0),(i 0),(i 0),(i 0),(i 0),(i 0),(i 0),(i 0),(i 0),(i 0),(i 0),(i 0),(i 0),(i 0),(i 0),(i 0),(i 0),(i 0),(i 0),(i 0),(i 0),(i 0)])),(s 173 4 11),(m 5 12)]
def L28s0:ze:=(.cond (t 14) (.seq (.reg [(m 15 5),(o 2 (.move (.c (.slice .none 0 0)))),(m 3 15)]) .ret) .skip)
def L28s1:ze:=(.reg [(m 26 6),(m 27 7),(o 28 (c 76 [(t 4),(t 27)])),(o 29 (.buildSlice 1 [(i 0),(i 0)] [(0,(2,(t 28)))])),(o 30 (.append 2 16 (t 26) (t 29))),(m 6 30)])
def L28s2:ze:=(.reg [(o 31 (b .add (t 23) (k 1))),(m 23 31)])
def L28s3:ze:=(.seq (.block 1 (.seq (.reg [(m 25 23),(m 7 25)]) L28s1)) L28s2)
def L28w0:ze:=(.seq (.reg [(o 24 (b .lss (t 23) (t 22)))]) (.seq (.cond (t 24) .skip (.exit 0)) L28s3))
def L28s4:ze:=(.seq (.reg [(m 32 6),(m 2 32),(o 3 (.move (k 0)))]) .ret)
def L28s5:ze:=(.seq (.seq (.reg [(f 20 2 1),(l 21 20),(o 22 (.len .slice (t 21))),(o 23 (.move (k 0)))]) (.block 0 (.loop L28w0))) L28s4)
def L28s6:ze:=(.seq (.reg [(f 16 2 1),(l 17 16),(o 18 (.len .slice (t 17))),(o 19 (.makeSlice [(i 0),(i 0)] 16 (k 0) (t 18))),(m 6 19)]) L28s5)
def L28s7:ze:=(.seq (.seq (.reg [(m 13 5),(o 14 (.eq (.cell (.i .i64)) .true (t 13) (k 0)))]) L28s0) L28s6)
def L28s8:ze:=(.seq (.reg ((g 9 3 1) :: (o 10 (c 74 [(t 9),(.c (.bool .true))])) :: (m 8 10) :: (x 11 8 0) :: (x 12 8 1) :: L28r0)) L28s7)
def L28:zp:=⟨33,(.seq (.reg [(o 1 (.box (t 0))),(o 2 (.move (.c (.slice .none 0 0)))),(o 3 (.move (k 0)))]) L28s8),[(.t 2),(.t 3)],.true,.none,vO⟩
theorem lp28:LP 28 = some L28:=by kernel_rfl
def L32r0:List zh:=[(og 12 (.move (t 2)) 10 .true),(og 13 (b .leq (t 11) (t 12)) 10 .true),(o 14 (.pick (t 10) (t 13) (.c (.bool .false)))),(m 6 14)]
def L32s0:ze:=(.seq (.reg ((m 7 0) :: (m 8 1) :: (o 9 (b .geq (t 7) (t 8))) :: (m 10 9) :: (og 11 (.move (t 0)) 10 .true) :: L32r0)) .ret)
def L32:zp:=⟨15,(.seq (.reg [(o 6 (.move (.c (.bool .false))))]) L32s0),[(.t 6)],.false,.none,vO⟩
theorem lp32:LP 32 = some L32:=by kernel_rfl
def L33s0:ze:=(.seq (.reg [(f 3 0 1),(l 4 3),(f 5 1 1),(l 6 5),(o 7 (.build [(i 0),(i 0)] [(0,(1,(t 4))),(1,(1,(t 6)))])),(s 2 2 7)]) .ret)
def L33:zp:=⟨8,(.seq (.reg [(o 1 (.box (t 0))),(o 2 (.alloc [(i 0),(i 0)]))]) L33s0),[(.cell 2 .true 2)],.false,.none,vO⟩
theorem lp33:LP 33 = some L33:=by kernel_rfl
def L57s0:ze:=(.seq (.reg [(m 5 0),(m 6 1),(o 7 (.build [(i 0),(i 0)] [(0,(1,(t 5))),(1,(1,(t 6)))])),(s 2 4 7)]) .ret)
def L57:zp:=⟨8,(.seq (.reg [(o 4 (.alloc [(i 0),(i 0)]))]) L57s0),[(.cell 4 .true 2)],.false,.none,vO⟩
theorem lp57:LP 57 = some L57:=by kernel_rfl
def L60r0:List zh:=[(og 8 (.eq (.cell (.i .i64)) .false (t 7) (k 0)) 5 .true),(o 9 (.pick (t 5) (t 8) (.c (.bool .false)))),(m 2 9)]
def L60s0:ze:=(.seq (.reg ((g 3 3 1) :: (o 4 (c 19 [(t 3)])) :: (m 5 4) :: (og 6 (.load .true 3 (t 1)) 5 .true) :: (og 7 (c 25 [(t 6)]) 5 .true) :: L60r0)) .ret)
def L60:zp:=⟨10,(.seq (.reg [(o 1 (.box (t 0))),(o 2 (.move (.c (.bool .false))))]) L60s0),[(.t 2)],.false,.none,vO⟩
theorem lp60:LP 60 = some L60:=by kernel_rfl
def L64s0:ze:=(.cond (t 10) (.seq (.reg [(o 4 (.move (.c (.bool .false))))]) .ret) .skip)
def L64r0:List zh:=[(og 37 (.fieldAddr 1 (t 36)) 28 .false),(og 38 (.load .false 1 (t 37)) 28 .false),(og 39 (b .gtr (t 33) (t 38)) 28 .false),(o 40 (.pick (t 28) (.c (.bool .true)) (t 39)))]
def L64r1:List zh:=((og 32 (.fieldAddr 1 (t 31)) 28 .false) :: (og 33 (.load .false 1 (t 32)) 28 .false) :: (og 34 (.move (t 1)) 28 .false) :: (og 35 (.move (t 5)) 28 .false) :: (og 36 (.indexAddrS 2 (t 34) (t 35)) 28 .false) :: L64r0)
def L64r2:List zh:=((o 27 (b .lss (t 21) (t 26))) :: (m 28 27) :: (og 29 (.move (t 0)) 28 .false) :: (og 30 (.move (t 5)) 28 .false) :: (og 31 (.indexAddrS 2 (t 29) (t 30)) 28 .false) :: L64r1)
def L64r3:List zh:=((m 22 1) :: (m 23 5) :: (o 24 (.indexAddrS 2 (t 22) (t 23))) :: (f 25 0 24) :: (l 26 25) :: L64r2)
def L64s1:ze:=(.cond (t 40) (.seq (.reg [(o 4 (.move (.c (.bool .false))))]) .ret) .skip)
def L64s2:ze:=(.reg [(m 15 5),(o 16 (b .add (t 15) (k 1))),(m 5 16)])
def L64s3:ze:=(.seq (.block 1 (.seq (.draw 0 ((m 17 0) :: (m 18 5) :: (o 19 (.indexAddrS 2 (t 17) (t 18))) :: (f 20 0 19) :: (l 21 20) :: L64r3)) L64s1)) L64s2)
def L64w0:ze:=(.seq (.seq (.reg [(m 11 5),(m 12 0),(o 13 (.len .slice (t 12))),(o 14 (b .lss (t 11) (t 13)))]) (.cond (t 14) .skip (.exit 0))) L64s3)
def L64s4:ze:=(.seq (.seq (.reg [(o 5 (.move (k 0)))]) (.block 0 (.loop L64w0))) (.seq (.reg [(o 4 (.move (.c (.bool .true))))]) .ret))
def L64s5:ze:=(.seq (.seq (.reg [(m 6 0),(o 7 (.len .slice (t 6))),(m 8 1),(o 9 (.len .slice (t 8))),(o 10 (.eq (.cell (.i .i64)) .true (t 7) (t 9)))]) L64s0) L64s4)
def L64:zp:=⟨41,(.seq (.reg [(o 4 (.move (.c (.bool .false))))]) L64s5),[(.t 4)],.false,.none,vO⟩
theorem lp64:LP 64 = some L64:=by kernel_rfl
def L69r0:List zh:=[(og 23 (.fieldAddr 2 (t 1)) 22 .true),(og 24 (.load .false 1 (t 23)) 22 .true),(og 25 (.load .true 3 (t 1)) 22 .true),(og 26 (.makeFunc 101 [(t 25)] []) 22 .true),(og 27 (c 100 [(t 24),(t 26)]) 22 .true),(o 28 (.pick (t 22) (t 27) (.c (.bool .false)))),(m 2 28)]
def L69r1:List zh:=((og 18 (.fieldAddr 1 (t 1)) 17 .true) :: (og 19 (.load .false 1 (t 18)) 17 .true) :: (og 20 (b .leq (t 19) (k 20)) 17 .true) :: (o 21 (.pick (t 17) (t 20) (.c (.bool .false)))) :: (m 22 21) :: L69r0)
def L69r2:List zh:=((og 13 (.fieldAddr 1 (t 1)) 12 .true) :: (og 14 (.load .false 1 (t 13)) 12 .true) :: (og 15 (b .leq (k 0) (t 14)) 12 .true) :: (o 16 (.pick (t 12) (t 15) (.c (.bool .false)))) :: (m 17 16) :: L69r1)
def L69r3:List zh:=((og 8 (.fieldAddr 0 (t 1)) 7 .true) :: (og 9 (.load .false 1 (t 8)) 7 .true) :: (og 10 (c 98 [(t 9),(.c (.func 99 [] []))]) 7 .true) :: (o 11 (.pick (t 7) (t 10) (.c (.bool .false)))) :: (m 12 11) :: L69r2)
def L69s0:ze:=(.seq (.reg ((f 3 0 1) :: (l 4 3) :: (o 5 (.len .slice (t 4))) :: (o 6 (b .gtr (t 5) (k 0))) :: (m 7 6) :: L69r3)) .ret)
def L69:zp:=⟨29,(.seq (.reg [(o 1 (.box (t 0))),(o 2 (.move (.c (.bool .false))))]) L69s0),[(.t 2)],.false,.none,vO⟩
theorem lp69:LP 69 = some L69:=by kernel_rfl
def L71s0:ze:=(.seq (.reg [(o 3 (.makeFunc 103 [] [(t 1)])),(m 2 3)]) .ret)
def L71:zp:=⟨4,(.seq (.reg [(o 1 (.box (t 0))),(o 2 (.move (.c .nilFunc)))]) L71s0),[(.t 2)],.true,.none,vO⟩
theorem lp71:LP 71 = some L71:=by kernel_rfl
def L73r0:List zh:=[(og 13 (.fieldAddr 2 (t 1)) 12 .false),(og 14 (.load .false 1 (t 13)) 12 .false),(og 15 (.len .slice (t 14)) 12 .false),(og 16 (b .gtr (t 15) (k 6)) 12 .false),(o 17 (.pick (t 12) (.c (.bool .true)) (t 16)))]
def L73s0:ze:=(.cond (t 17) (.seq (.reg [(o 2 (.move (k 3)))]) .ret) .skip)
def L73r1:List zh:=[(og 23 (.fieldAddr 1 (t 1)) 22 .false),(og 24 (.load .false 1 (t 23)) 22 .false),(og 25 (c 32 [(t 24),(k 0),(k 20)]) 22 .false),(og 26 (.un .not (t 25)) 22 .false),(o 27 (.pick (t 22) (.c (.bool .true)) (t 26)))]
def L73s1:ze:=(.cond (t 27) (.seq (.reg [(o 2 (.move (k 1)))]) .ret) .skip)
def L73s2:ze:=(.cond (t 41) (.seq (.reg [(o 2 (.move (k 1)))]) .ret) .skip)
def L73s3:ze:=(.reg [(m 33 3),(o 34 (b .add (t 33) (k 1))),(m 3 34)])
def L73s4:ze:=(.seq (.block 1 (.seq (.reg [(f 35 0 1),(l 36 35),(m 37 3),(o 38 (.indexAddrS 2 (t 36) (t 37))),(g 39 2 38),(o 40 (c 90 [(t 39),(.c (.int .i64 (-100))),(k 100)])),(o 41 (.un .not (t 40)))]) L73s2)) L73s3)
def L73w3:ze:=(.seq (.seq (.reg [(m 28 3),(f 29 0 1),(l 30 29),(o 31 (.len .slice (t 30))),(o 32 (b .lss (t 28) (t 31)))]) (.cond (t 32) .skip (.exit 0))) L73s4)
def L73s5:ze:=(.cond (t 57) (.seq (.reg [(o 2 (.move (k 1)))]) .ret) .skip)
def L73r2:List zh:=[(oga 80 (.move (t 6)) 77 .false [10]),(oga 81 (.indexAddrS 2 (t 79) (t 80)) 77 .false [10]),(oga 82 (.fieldAddr 1 (t 81)) 77 .false [10]),(oga 83 (.load .false 1 (t 82)) 77 .false [10]),(oga 84 (c 32 [(t 83),(.c (.int .i64 (-1000))),(k 2000)]) 77 .false [10]),(oga 85 (.un .not (t 84)) 77 .false [19,10]),(oa 86 (.pick (t 77) (.c (.bool .true)) (t 85)) [19,10])]
def L73r3:List zh:=((o 75 (c 32 [(t 70),(k 0),(t 74)])) :: (oa 76 (.un .not (t 75)) [10]) :: (oa 77 (.move (t 76)) [10]) :: (oga 78 (.fieldAddr 2 (t 5)) 77 .false [10]) :: (oga 79 (.load .false 1 (t 78)) 77 .false [10]) :: L73r2)
def L73r4:List zh:=((l 70 69) :: (f 71 0 1) :: (l 72 71) :: (o 73 (.len .slice (t 72))) :: (o 74 (b .sub (t 73) (k 1))) :: L73r3)
def L73s6:ze:=(.cond (t 86) (.seq (.reg [(o 2 (.move (k 1)))]) .ret) .skip)
def L73r5:List zh:=[(f 102 0 101),(l 103 102),(o 104 (.eq (.cell (.i .i64)) .false (t 97) (t 103)))]
def L73r6:List zh:=((l 97 96) :: (f 98 2 5) :: (l 99 98) :: (m 100 6) :: (o 101 (.indexAddrS 2 (t 99) (t 100))) :: L73r5)
def L73s7:ze:=(.cond (t 104) (.seq (.reg [(o 2 (.move (k 1)))]) .ret) .skip)
def L73s8:ze:=(.reg [(m 90 7),(o 91 (b .add (t 90) (k 1))),(m 7 91)])
def L73s9:ze:=(.seq (.block 7 (.seq (.draw 0 ((f 92 2 5) :: (l 93 92) :: (m 94 7) :: (o 95 (.indexAddrS 2 (t 93) (t 94))) :: (f 96 0 95) :: L73r6)) L73s7)) L73s8)
def L73w0:ze:=(.seq (.seq (.reg [(m 87 7),(m 88 6),(o 89 (b .lss (t 87) (t 88)))]) (.cond (t 89) .skip (.exit 6))) L73s9)
def L73s10:ze:=(.seq (.reg [(o 7 (.move (k 0)))]) (.block 6 (.loop L73w0)))
def L73s11:ze:=(.reg [(m 63 6),(o 64 (b .add (t 63) (k 1))),(m 6 64)])
def L73s12:ze:=(.seq (.block 5 (.seq (.seq (.draw 0 ((f 65 2 5) :: (l 66 65) :: (m 67 6) :: (o 68 (.indexAddrS 2 (t 66) (t 67))) :: (f 69 0 68) :: L73r4)) L73s6) L73s10)) L73s11)
def L73w1:ze:=(.seq (.seq (.reg [(m 58 6),(f 59 2 5),(l 60 59),(o 61 (.len .slice (t 60))),(o 62 (b .lss (t 58) (t 61)))]) (.cond (t 62) .skip (.exit 4))) L73s12)
def L73s13:ze:=(.seq (.reg [(o 6 (.move (k 0)))]) (.block 4 (.loop L73w1)))
def L73s14:ze:=(.seq (.seq (.reg [(f 54 0 5),(g 55 2 54),(o 56 (c 90 [(t 55),(k 0),(k 1000)])),(o 57 (.un .not (t 56)))]) L73s5) L73s13)
def L73s15:ze:=(.reg [(m 47 4),(o 48 (b .add (t 47) (k 1))),(m 4 48)])
def L73s16:ze:=(.seq (.block 3 (.seq (.reg [(f 49 2 1),(l 50 49),(m 51 4),(o 52 (.indexAddrS 3 (t 50) (t 51))),(g 53 3 52),(o 5 (.alloc [(i 0),(i 0),(.slice .none 0 0)])),(s 3 5 53)]) L73s14)) L73s15)
def L73w2:ze:=(.seq (.seq (.reg [(m 42 4),(f 43 2 1),(l 44 43),(o 45 (.len .slice (t 44))),(o 46 (b .lss (t 42) (t 45)))]) (.cond (t 46) .skip (.exit 2))) L73s16)
def L73s17:ze:=(.seq (.seq (.reg [(o 4 (.move (k 0)))]) (.block 2 (.loop L73w2))) (.seq (.reg [(o 2 (.move (k 0)))]) .ret))
def L73s18:ze:=(.seq (.seq (.reg [(o 3 (.move (k 0)))]) (.block 0 (.loop L73w3))) L73s17)
def L73s19:ze:=(.seq (.seq (.reg ((f 18 0 1) :: (l 19 18) :: (o 20 (.len .slice (t 19))) :: (o 21 (.eq (.cell (.i .i64)) .false (t 20) (k 0))) :: (m 22 21) :: L73r1)) L73s1) L73s18)
def L73s20:ze:=(.seq (.seq (.reg ((f 8 0 1) :: (l 9 8) :: (o 10 (.len .slice (t 9))) :: (o 11 (b .gtr (t 10) (k 6))) :: (m 12 11) :: L73r0)) L73s0) L73s19)
def L73:zp:=⟨105,(.seq (.reg [(o 1 (.box (t 0))),(o 2 (.move (k 0)))]) L73s20),[(.t 2)],.false,.none,vO⟩
theorem lp73:LP 73 = some L73:=by kernel_rfl
end
end Go.Hx

