import Derived.Test.YtcejjaaoainfjaaH05
import Derived.Test.YtcejjaaoainfjaaH06
import Derived.Test.YtcejjaaoainfjaaH03
import Derived.Test.YtcejjaaoainfjaaH00
set_option linter.all false
namespace Go.Hx.V
open Go.Hx
set_option maxRecDepth 20000
set_option maxHeartbeats 4000000
variable {fl : Nat} {h0 : Tr HBlk} {n0 : Nat} {F0 : PH}
attribute [local irreducible] W R C thenH inBlockH Tr.get Tr.set lo ck bnd ix iter
theorem ct16 (N:Nat) {a0_0:(List (Int × Int))} {a0_1:Int} {a0_2:(List (Int × Int × (List (Int × Int))))} {a1 a2 a3:Int} {r:Bool} (hF:sf16 N a0_0 a0_1 a0_2 a1 a2 a3 = some r) (hd:D h0 n0) (hs:F0.sub h0) {pa0_0:Option (Nat × Nat)} {ca0_0:Nat} {pa0_2:Option (Nat × Nat)} {ca0_2:Nat} (ra0_0:RowF (rP rI rI) 2 F0 pa0_0 ca0_0 a0_0) (ra0_2:RowF (rP rI (rP rI (rL (rP rI rI) 2))) 3 F0 pa0_2 ca0_2 a0_2):C LW fl 16 [(.agg [(.slice pa0_0 (a0_0).length ca0_0),(i64 a0_1),(.slice pa0_2 (a0_2).length ca0_2)]),(.int .u8 a1),(.int .i8 a2),(.int .u8 a3)] ⟨h0,n0⟩ (KS (.bool r) n0 h0):=by
 unfold sf16 at hF
 refine yg hd hs lw16 rfl rfl (by rfl) (fun st T hT=>?_)
 have hfl:n0 ≤ n0:=Nat.le_refl n0
 have t0:=hT 0 _ rfl
 have t1:=hT 1 _ rfl
 have t2:=hT 2 _ rfl
 have t3:=hT 3 _ rfl
 dsimp only [L16]
 refine zd (zg ?_);refine yi st (fun b1 h2 n3 st=>?_);refine za ?_;refine zb (th_n ?_);refine zd ?_;refine zd (zg ?_);refine zM (vs:=[(.slice pa0_0 (a0_0).length ca0_0),(i64 a0_1),(.slice pa0_2 (a0_2).length ca0_2)]) (st.at (i:=0) rfl).2.2 rfl ?_;obtain ⟨v4,e5,hF⟩:=zj hF;refine zT st (ct60 N e5 st.d st.sub ra0_0 ra0_2) (fun n6 st=>?_);refine yv ?_;refine zb (th_n ?_);refine zE (fun hb7=>?_) (fun hb7=>?_)
 ·have hF:=zy hb7 hF;refine zd (zg ?_);refine zT st (ct_wakes (h:=_) (nx:=_)) (fun n8 st=>?_);refine za ?_;refine zb (th_n ?_);refine zD ?_;refine th_r ?_;obtain rfl:=inj hF
  exact zJ st (Res.t gA Res.nil) rfl rfl
 ·have hF:=zA hb7 hF;refine zF (th_n ?_);refine zd (zg ?_);refine za ?_;obtain ⟨q9,hF⟩:=zn hF;refine XU q9 ?_;refine v_fa ?_;refine zq (st.at (i:=0) rfl).2.2 rfl ?_;refine z2 ?_;obtain ⟨q10,hF⟩:=zn hF;refine v_rem q10 ?_;refine za ?_;obtain ⟨q11,hF⟩:=zn hF;refine XU q11 ?_;refine za ?_;refine za ?_;refine zb (th_n ?_);refine zd ?_;refine yn (Nat.le_trans hfl st.ext.le) (fun dw=>?_);refine km st.d dw (fun hm vw=>u_bs (cs:=[]) rfl zu) (fun done dw=>?_);refine zB st.d dw (fun hm vw=>v_fa zu) ?_;refine zB st.d dw (fun hm vw=>zq (vw.bx (st.at (i:=0) rfl)) rfl zu) ?_
  obtain ⟨q12,hF⟩:=zn hF
  refine y_own (m:=a0_0.length) (sz:=2) (rel:=(rP rI rI)) (l:=a0_0) st dw rfl (fun hm vw=>u_app (m:=a0_0.length) (cx:=ca0_0) st vw (vw.vis _ (List.mem_cons_self ..) rfl _ _ (if_pos rfl)) (by have:=dw.le;omega) (Nat.le_trans hfl st.ext.le) ra0_0 q12 (by decide) rfl) (fun o12 c12 cs12 n12 done G12 hn12 dw ok12 gb12 w12=>?_)
  refine zB st.d dw (fun hm vw=>v_fa zu) ?_;refine zB st.d dw (fun hm vw=>zq (vw.bx (st.at (i:=0) rfl)) rfl zu) ?_;refine zB st.d dw (fun hm vw=>ya (cs:=[(slv o12 (a0_0).length c12),(i64 a0_1),(.slice none 0 0)]) rfl zu) ?_;refine km st.d dw (fun hm vw=>kM zu) (fun done dw=>?_);refine vd st.d dw rfl (fun h13 ex vs=>?_)
  have sto:=st
  have st:=St.laid st ex (Lay.cons (b:=n12) (cs:=[(.slice none 0 0),(i64 0),(.slice none 0 0)]) (by have:=dw.le;omega) (vs _ (List.mem_cons_self ..) _ _ (if_pos rfl)) (Lay.nil (by have:=dw.le;omega)))
  have st:=St.ownB (G:=G12) sto st (ok12 _ _ (vs _ (List.mem_cons_of_mem _ (List.mem_cons_self ..))) (by have:=dw.le;omega)) gb12 (by intro e he;simp only [List.mem_cons,List.not_mem_nil,or_false] at he;rcases he with rfl <;> exact Dw.not dw (by first | exact .inl (by first | exact List.Sublist.refl _ | (repeat first | exact List.nil_sublist _ | refine List.Sublist.cons_cons _ ?_ | refine List.Sublist.cons _ ?_)) | exact .inr (by first | exact List.Sublist.refl _ | (repeat first | exact List.nil_sublist _ | refine List.Sublist.cons_cons _ ?_ | refine List.Sublist.cons _ ?_))))
  refine v_st (cs':=[(slv o12 (a0_0).length c12),(i64 a0_1),(.slice none 0 0)]) st 1 rfl rfl rfl rfl hfl (fun h14 st=>?_);refine zb (th_n ?_);refine zd ?_;refine yn (Nat.le_trans hfl st.ext.le) (fun dw=>?_);refine vd st.d dw rfl (fun h15 ex vs=>?_)
  have st:=st.ext1 ex
  refine v_fa ?_;refine zq (st.at (i:=1) rfl).2.2 rfl ?_;refine za ?_;refine v_fa ?_;refine zq (st.at (i:=0) rfl).2.2 rfl ?_;refine za ?_;obtain ⟨n16,x16,z16,l16,g16,hF⟩:=zO hF;obtain ⟨b16,o16,s16,j16,r16,e16,f16,k16,⟨_,_,rfl,rfl,rfl⟩⟩:=RowF.get ra0_0 g16;refine z9 e16 z16 l16 ?_;refine v_fa ?_;refine zq (st.sub _ _ f16) (yk (j:=0) k16 rfl) ?_;refine za ?_;obtain ⟨q17,hF⟩:=zn hF;refine zY q17 ?_;refine v_fa ?_;refine zq (st.at (i:=0) rfl).2.2 rfl ?_;refine za ?_;obtain ⟨n18,x18,z18,l18,g18,hF⟩:=zO hF;obtain ⟨b18,o18,s18,j18,r18,e18,f18,k18,⟨_,_,rfl,rfl,rfl⟩⟩:=RowF.get ra0_0 g18
  refine z9 e18 z18 l18 ?_;refine v_fa ?_;refine zq (st.sub _ _ f18) (yk (j:=1) k18 rfl) ?_;refine za ?_;obtain ⟨q19,hF⟩:=zn hF;refine zY q19 ?_;refine ya (cs:=[(i64 (x16.1+a2)),(i64 (x18.2+a2))]) rfl ?_;obtain ⟨n20,x20,z20,l20,g20,hF⟩:=zO hF
  obtain ⟨b20,s20,j20,r20,e20,lt20,f20,k20,⟨_,_,rfl,rfl,rfl⟩⟩:=LE.getb (st.at (i:=2) rfl) w12 (by decide) g20
  refine z9 e20 z20 l20 ?_
  refine v_se (e':=((x16.1+a2),(x18.2+a2))) (off:=0) (r':=[(i64 (x16.1+a2)),(i64 (x18.2+a2))]) (v:=(.agg [(i64 (x16.1+a2)),(i64 (x18.2+a2))])) st 2 rfl w12 (by decide) g20 e20 f20 k20 rfl (⟨[(i64 (x16.1+a2))],_,rfl,rfl,rfl⟩) rfl rfl hfl (fun h22 cs21 st w21=>?_)
  have zt21:Int.toNat ((Int.tmod a1 ((a0_0).length:Int))) = n20:=by rw [z20];exact Int.toNat_natCast _
  rw [← zt21] at w21
  have lz21:((a0_0.set (Int.toNat (Int.tmod a1 ((a0_0).length:Int))) ((x16.1+a2),(x18.2+a2)))).length = (a0_0).length:=List.length_set
  have st:St n0 h0 F0 F0 h22 (n12+1) [.bx b1 [(.slice pa0_0 (a0_0).length ca0_0),(i64 a0_1),(.slice pa0_2 (a0_2).length ca0_2)],.bx n12 [(slv o12 ((a0_0.set (Int.toNat (Int.tmod a1 ((a0_0).length:Int))) ((x16.1+a2),(x18.2+a2)))).length c12),(i64 a0_1),(.slice none 0 0)],.ls o12 c12 cs21 2]:=by rw [lz21];exact st
  refine zb (th_n ?_);refine zd ?_;refine zd (zg ?_);refine za ?_;refine zb (th_n ?_);refine zx ?_
  have st:=st.nilL 3
  have w147:LR (rP rI (rP rI (rL (rP rI rI) 2))) 3 F0 ([]:List (Int × Int × (List (Int × Int)))) []:=LR.nil
  obtain ⟨y270,hy,hF⟩:=zj hF;refine zW (sf16_L2 N a0_0 a0_2 a1 a2) (fun x149 T ds150 h nx=>∃ (F150:PH) (o151:Option Nat) (c151:Nat) (cs151:List HV),ds150 = [] ∧ PH.le F0 F150 ∧ St n0 h0 F0 F150 h nx [.bx b1 [(.slice pa0_0 (a0_0).length ca0_0),(i64 a0_1),(.slice pa0_2 (a0_2).length ca0_2)],.bx n12 [(slv o12 ((a0_0.set (Int.toNat (Int.tmod a1 ((a0_0).length:Int))) ((x16.1+a2),(x18.2+a2)))).length c12),(i64 a0_1),(slv o151 (x149.2).length c151)],.ls o12 c12 cs21 2,.ls o151 c151 cs151 3] ∧ LR (rP rI (rP rI (rL (rP rI rI) 2))) 3 F150 x149.2 cs151 ∧ T.get 3 = some (.int .u8 a3) ∧ T.get 4 = some (.ptr (some (b1,0))) ∧ T.get 9 = some (i64 (Int.tmod a1 ((a0_0).length:Int))) ∧ T.get 10 = some (i64 a2) ∧ T.get 11 = some (.ptr (some (n12,0))) ∧ T.get 12 = some (i64 x149.1)) (fun y e a σ=>e = .exit 0 ∧ a.nt = 268 ∧ ∃ (F271:PH) (o272:Option Nat) (c272:Nat) (cs272:List HV),a.defers = [] ∧ PH.le F0 F271 ∧ St n0 h0 F0 F271 σ.h σ.nx [.bx b1 [(.slice pa0_0 (a0_0).length ca0_0),(i64 a0_1),(.slice pa0_2 (a0_2).length ca0_2)],.bx n12 [(slv o12 ((a0_0.set (Int.toNat (Int.tmod a1 ((a0_0).length:Int))) ((x16.1+a2),(x18.2+a2)))).length c12),(i64 a0_1),(slv o272 (y).length c272)],.ls o12 c12 cs21 2,.ls o272 c272 cs272 3] ∧ LR (rP rI (rP rI (rL (rP rI rI) 2))) 3 F271 y cs272 ∧ a.tmps.get 3 = some (.int .u8 a3) ∧ a.tmps.get 4 = some (.ptr (some (b1,0))) ∧ a.tmps.get 9 = some (i64 (Int.tmod a1 ((a0_0).length:Int))) ∧ a.tmps.get 10 = some (i64 a2) ∧ a.tmps.get 11 = some (.ptr (some (n12,0)))) (fun x149 T ds150 h nx s hp hF=>?_) N _ y270 _ _ _ _ hy ⟨F0,none,0,[],rfl,(PH.le.refl _),st,w147,gA,gA,gA,gA,gA,gA⟩ (fun e a σ hne hq=>?_)
  ·obtain ⟨F150,o151,c151,cs151,rfl,le150,st,w151,t3,t4,t9,t10,t11,t12⟩:=hp;unfold sf16_L2 at hF;unfold L16w2;refine zd ?_;refine zd (zg ?_);refine za ?_;refine v_fa ?_;refine zq (st.at (i:=0) rfl).2.2 rfl ?_;refine z2 ?_;refine yc ?_;refine zb (th_n ?_);refine zE (fun hb273=>?_) (fun hb273=>?_)
   ·have hF:=zy hb273 hF;refine zF (th_n ?_);refine zd ?_;refine zx ?_;refine zd (zg ?_);refine v_fa ?_;refine zq (st.at (i:=0) rfl).2.2 rfl ?_;refine za ?_;obtain ⟨n274,x274,z274,l274,g274,hF⟩:=zO hF;obtain ⟨b274,o274,s274,j274,r274,e274,f274,k274,⟨_,_,rfl,rfl,⟨_,_,rfl,rfl,⟨py275,cy275,rfl,ry275⟩⟩⟩⟩:=RowF.get ra0_2 g274;refine z9 e274 z274 l274 ?_;refine v_fa ?_
    refine zM (vs:=[(i64 x274.1),(i64 x274.2.1)]) (st.sub _ _ (le150 _ _ f274)) (Xa (j:=0) k274 (by decide) rfl) ?_
    refine ya (cs:=[(i64 x274.1),(i64 x274.2.1),(.slice none 0 0)]) rfl ?_;refine zQ st (fun b276 h277 n278 st=>?_);refine v_st (cs':=[(i64 x274.1),(i64 x274.2.1),(.slice none 0 0)]) st 4 rfl rfl rfl rfl hfl (fun h279 st=>?_);refine zb (th_n ?_);refine zd ?_;refine zd (zg ?_);refine za ?_;refine zb (th_n ?_);refine zx ?_
    have st:=st.nilL 2
    have w314:LR (rP rI rI) 2 F150 ([]:List (Int × Int)) []:=LR.nil
    obtain ⟨y348,hy,hF⟩:=zj hF;refine zW (sf16_L1 a0_0 a0_2 a1 a2 x149) (fun x316 T ds317 h nx=>∃ (F317:PH) (o318:Option Nat) (c318:Nat) (cs318:List HV),ds317 = [] ∧ PH.le F150 F317 ∧ St n0 h0 F0 F317 h nx [.bx b1 [(.slice pa0_0 (a0_0).length ca0_0),(i64 a0_1),(.slice pa0_2 (a0_2).length ca0_2)],.bx n12 [(slv o12 ((a0_0.set (Int.toNat (Int.tmod a1 ((a0_0).length:Int))) ((x16.1+a2),(x18.2+a2)))).length c12),(i64 a0_1),(slv o151 (x149.2).length c151)],.ls o12 c12 cs21 2,.ls o151 c151 cs151 3,.bx b276 [(i64 x274.1),(i64 x274.2.1),(slv o318 (x316.2).length c318)],.ls o318 c318 cs318 2] ∧ LR (rP rI rI) 2 F317 x316.2 cs318 ∧ T.get 3 = some (.int .u8 a3) ∧ T.get 4 = some (.ptr (some (b1,0))) ∧ T.get 9 = some (i64 (Int.tmod a1 ((a0_0).length:Int))) ∧ T.get 10 = some (i64 a2) ∧ T.get 11 = some (.ptr (some (n12,0))) ∧ T.get 12 = some (i64 x149.1) ∧ T.get 13 = some (.ptr (some (b276,0))) ∧ T.get 14 = some (i64 x316.1)) (fun y e a σ=>e = .exit 2 ∧ a.nt = 268 ∧ ∃ (F349:PH) (o350:Option Nat) (c350:Nat) (cs350:List HV),a.defers = [] ∧ PH.le F150 F349 ∧ St n0 h0 F0 F349 σ.h σ.nx [.bx b1 [(.slice pa0_0 (a0_0).length ca0_0),(i64 a0_1),(.slice pa0_2 (a0_2).length ca0_2)],.bx n12 [(slv o12 ((a0_0.set (Int.toNat (Int.tmod a1 ((a0_0).length:Int))) ((x16.1+a2),(x18.2+a2)))).length c12),(i64 a0_1),(slv o151 (x149.2).length c151)],.ls o12 c12 cs21 2,.ls o151 c151 cs151 3,.bx b276 [(i64 x274.1),(i64 x274.2.1),(slv o350 (y).length c350)],.ls o350 c350 cs350 2] ∧ LR (rP rI rI) 2 F349 y cs350 ∧ a.tmps.get 3 = some (.int .u8 a3) ∧ a.tmps.get 4 = some (.ptr (some (b1,0))) ∧ a.tmps.get 9 = some (i64 (Int.tmod a1 ((a0_0).length:Int))) ∧ a.tmps.get 10 = some (i64 a2) ∧ a.tmps.get 11 = some (.ptr (some (n12,0))) ∧ a.tmps.get 12 = some (i64 x149.1) ∧ a.tmps.get 13 = some (.ptr (some (b276,0)))) (fun x316 T ds317 h nx s hp hF=>?_) N _ y348 _ _ _ _ hy ⟨F150,none,0,[],rfl,(PH.le.refl _),st,w314,gA,gA,gA,gA,gA,gA,gA,gA⟩ (fun e a σ hne hq=>?_)
    ·obtain ⟨F317,o318,c318,cs318,rfl,le317,st,w318,t3,t4,t9,t10,t11,t12,t13,t14⟩:=hp
     have le319:=PH.le.trans le150 le317
     unfold sf16_L1 at hF;unfold L16w1;refine zd ?_;refine zd (zg ?_);refine za ?_;refine v_fa ?_;refine zq (st.at (i:=0) rfl).2.2 rfl ?_;refine za ?_;obtain ⟨n351,x351,z351,l351,g351,hF⟩:=zO hF;obtain ⟨b351,o351,s351,j351,r351,e351,f351,k351,⟨_,_,rfl,rfl,⟨_,_,rfl,rfl,⟨py352,cy352,rfl,ry352⟩⟩⟩⟩:=RowF.get ra0_2 g351;refine z9 e351 z351 l351 ?_;refine v_fa ?_;refine zq (st.sub _ _ (le319 _ _ f351)) (yk (j:=2) k351 rfl) ?_;refine z2 ?_;refine yc ?_;refine zb (th_n ?_);refine zE (fun hb353=>?_) (fun hb353=>?_)
     ·have hF:=zy hb353 hF;refine zF (th_n ?_);refine zd ?_;refine zx ?_;refine zd (zg ?_);refine v_fa ?_;refine zq (st.at (i:=0) rfl).2.2 rfl ?_;refine za ?_;obtain ⟨n354,x354,z354,l354,g354,hF⟩:=zO hF;obtain ⟨b354,o354,s354,j354,r354,e354,f354,k354,⟨_,_,rfl,rfl,⟨_,_,rfl,rfl,⟨py355,cy355,rfl,ry355⟩⟩⟩⟩:=RowF.get ra0_2 g354;refine z9 e354 z354 l354 ?_;refine v_fa ?_;refine zq (st.sub _ _ (le319 _ _ f354)) (yk (j:=2) k354 rfl) ?_;refine za ?_;obtain ⟨n356,x356,z356,l356,g356,hF⟩:=zO hF;obtain ⟨b356,o356,s356,j356,r356,e356,f356,k356,⟨_,_,rfl,rfl,rfl⟩⟩:=RowF.get ry355 g356
      refine z9 e356 z356 l356 ?_;refine zM (st.sub _ _ (le319 _ _ f356)) k356 ?_;refine zQ st (fun b357 h358 n359 st=>?_);refine v_st (cs':=[(i64 x356.1),(i64 x356.2)]) st 6 rfl rfl rfl rfl hfl (fun h360 st=>?_);refine zb (th_n ?_);obtain ⟨y364,hA365,hF⟩:=zj hF;refine yt (fun T ds367 h nx=>∃ (F367:PH),ds367 = [] ∧ PH.le F317 F367 ∧ St n0 h0 F0 F367 h nx [.bx b1 [(.slice pa0_0 (a0_0).length ca0_0),(i64 a0_1),(.slice pa0_2 (a0_2).length ca0_2)],.bx n12 [(slv o12 ((a0_0.set (Int.toNat (Int.tmod a1 ((a0_0).length:Int))) ((x16.1+a2),(x18.2+a2)))).length c12),(i64 a0_1),(slv o151 (x149.2).length c151)],.ls o12 c12 cs21 2,.ls o151 c151 cs151 3,.bx b276 [(i64 x274.1),(i64 x274.2.1),(slv o318 (x316.2).length c318)],.ls o318 c318 cs318 2,.bx b357 [(i64 x356.1),(i64 y364)]] ∧ T.get 3 = some (.int .u8 a3) ∧ T.get 4 = some (.ptr (some (b1,0))) ∧ T.get 9 = some (i64 (Int.tmod a1 ((a0_0).length:Int))) ∧ T.get 10 = some (i64 a2) ∧ T.get 11 = some (.ptr (some (n12,0))) ∧ T.get 12 = some (i64 x149.1) ∧ T.get 13 = some (.ptr (some (b276,0))) ∧ T.get 14 = some (i64 x316.1) ∧ T.get 15 = some (.ptr (some (b357,0)))) ?_ (fun T ds367 h nx hp=>?_)
      ·have hK366:=hF
       have hF:=hA365;refine zd (zg ?_);refine v_fa ?_;refine zq (st.at (i:=6) rfl).2.2 rfl ?_;refine za ?_;refine jz ?_;refine zb (th_n ?_);refine zE (fun hb368=>?_) (fun hb368=>?_)
       ·have hF:=zy hb368 hF;refine zg ?_;refine v_fa ?_;refine zq (st.at (i:=6) rfl).2.2 rfl ?_;refine za ?_;obtain ⟨q369,hF⟩:=zn hF;refine zY q369 ?_;refine v_fa ?_;refine v_st (cs':=[(i64 x356.1),(i64 (x356.2+a2))]) st 6 rfl rfl rfl rfl hfl (fun h370 st=>?_);refine zb ?_;obtain rfl:=inj hF;refine thn ⟨rfl,?_⟩;dsimp only
        exact ⟨F317,rfl,(PH.le.refl _),st,gA,gA,gA,gA,gA,gA,gA,gA,gA⟩
       ·have hF:=zA hb368 hF;refine zF ?_;obtain rfl:=inj hF;refine thn ⟨rfl,?_⟩;dsimp only
        exact ⟨F317,rfl,(PH.le.refl _),st,gA,gA,gA,gA,gA,gA,gA,gA,gA⟩
      ·obtain ⟨F367,rfl,le367,st,t3,t4,t9,t10,t11,t12,t13,t14,t15⟩:=hp
       have le372:=PH.le.trans le317 le367
       refine zg ?_;refine v_fa ?_;refine zq (st.at (i:=4) rfl).2.2 rfl ?_;refine zM (vs:=[(i64 x356.1),(i64 y364)]) (st.at (i:=6) rfl).2.2 rfl ?_;refine v_bs (cs:=[(i64 x356.1),(i64 y364)]) st rfl (fun b373 h374 n375 st=>?_);obtain ⟨q376,hF⟩:=zn hF
       have w376:LR (rP rI rI) 2 F367 (x316.2 ++ [(x356.1,y364)]) (cs318 ++ [(i64 x356.1),(i64 y364)]):=LR.app (LR.mono le367 w318) (LR.one (⟨[(i64 x356.1)],_,rfl,rfl,rfl⟩))
       refine jh (n:=1) (ox:=0) (m:=(x316.2 ++ [(x356.1,y364)]).length) (row:=[(i64 x356.1),(i64 y364)]) st 5 rfl (LR.mono le367 w318).1 (st.at (i:=7) rfl).2.2 rfl rfl q376 hfl (by decide) (by decide) (by simp) (fun o376 c376 h376 n376 st=>?_)
       refine v_fa ?_;refine v_st (cs':=[(i64 x274.1),(i64 x274.2.1),(slv o376 ((x316.2 ++ [(x356.1,y364)])).length c376)]) st 4 rfl rfl rfl rfl hfl (fun h377 st=>?_);refine zb ?_;refine ib_n ?_;refine th_n ?_;refine zg ?_;refine za ?_;obtain ⟨q378,hF⟩:=zn hF;refine zY q378 ?_;refine za ?_;refine zb ?_;refine thn ⟨_,(inj hF).symm,rfl,?_⟩;dsimp only
       exact ⟨F367,o376,c376,(cs318 ++ [(i64 x356.1),(i64 y364)]),rfl,le372,(st.drop (by first | exact List.Sublist.refl _ | (repeat first | exact List.nil_sublist _ | refine List.Sublist.cons_cons _ ?_ | refine List.Sublist.cons _ ?_))),w376,gA,gA,gA,gA,gA,gA,gA,gA⟩
     ·have hF:=zA hb353 hF;refine z6 ?_;refine th_e ?_;refine th_e ?_;refine ⟨_,(inj hF).symm,rfl,rfl,?_⟩;dsimp only
      exact ⟨F317,o318,c318,cs318,rfl,le317,st,w318,gA,gA,gA,gA,gA,gA,gA⟩
    ·obtain ⟨N9,T,ds349⟩:=a;obtain ⟨h380,n381⟩:=σ;obtain ⟨rfl,e1,F349,o350,c350,cs350,e2,le349,st,w350,t3,t4,t9,t10,t11,t12,t13⟩:=hq
     dsimp only at e1 e2
     subst e1
     subst e2
     dsimp only at st t3 t4 t9 t10 t11 t12 t13
     have le379:=PH.le.trans le150 le349
     refine ib_e ?_;refine th_n ?_;refine zg ?_;refine v_fa ?_;refine zq (st.at (i:=1) rfl).2.2 rfl ?_;refine zM (vs:=[(i64 x274.1),(i64 x274.2.1),(slv o350 (y348).length c350)]) (st.at (i:=4) rfl).2.2 rfl ?_;refine v_bs (cs:=[(i64 x274.1),(i64 x274.2.1),(slv o350 (y348).length c350)]) st rfl (fun b382 h383 n384 st=>?_)
     obtain ⟨F385,le385,st,rf385⟩:=St.freeze st 5 rfl w350 (by decide)
     have le386:=PH.le.trans le379 le385
     have le387:=PH.le.trans le349 le385
     obtain ⟨q388,hF⟩:=zn hF
     have w388:LR (rP rI (rP rI (rL (rP rI rI) 2))) 3 F385 (x149.2 ++ [(x274.1,x274.2.1,y348)]) (cs151 ++ [(i64 x274.1),(i64 x274.2.1),(.slice (o350.map fun b=>(b,0)) (y348).length c350)]):=LR.app (LR.mono le387 w151) (LR.one (⟨[(i64 x274.1)],_,rfl,rfl,⟨[(i64 x274.2.1)],_,rfl,rfl,⟨_,_,rfl,rf385⟩⟩⟩))
     refine jh (n:=1) (ox:=0) (m:=(x149.2 ++ [(x274.1,x274.2.1,y348)]).length) (row:=[(i64 x274.1),(i64 x274.2.1),(.slice (o350.map fun b=>(b,0)) (y348).length c350)]) st 3 rfl (LR.mono le387 w151).1 (st.at (i:=5) rfl).2.2 rfl rfl q388 hfl (by decide) (by decide) (by simp) (fun o388 c388 h388 n388 st=>?_)
     refine v_fa ?_;refine v_st (cs':=[(slv o12 ((a0_0.set (Int.toNat (Int.tmod a1 ((a0_0).length:Int))) ((x16.1+a2),(x18.2+a2)))).length c12),(i64 a0_1),(slv o388 ((x149.2 ++ [(x274.1,x274.2.1,y348)])).length c388)]) st 1 rfl rfl rfl rfl hfl (fun h389 st=>?_);refine zb ?_;refine ib_n ?_;refine th_n ?_;refine zg ?_;refine za ?_;obtain ⟨q390,hF⟩:=zn hF;refine zY q390 ?_;refine za ?_;refine zb ?_;refine thn ⟨_,(inj hF).symm,rfl,?_⟩;dsimp only
     exact ⟨F385,o388,c388,(cs151 ++ [(i64 x274.1),(i64 x274.2.1),(.slice (o350.map fun b=>(b,0)) (y348).length c350)]),rfl,le386,(st.drop (by first | exact List.Sublist.refl _ | (repeat first | exact List.nil_sublist _ | refine List.Sublist.cons_cons _ ?_ | refine List.Sublist.cons _ ?_))),w388,gA,gA,gA,gA,gA,gA⟩
   ·have hF:=zA hb273 hF;refine z6 ?_;refine th_e ?_;refine th_e ?_;refine ⟨_,(inj hF).symm,rfl,rfl,?_⟩;dsimp only
    exact ⟨F150,o151,c151,cs151,rfl,le150,st,w151,gA,gA,gA,gA,gA⟩
  ·obtain ⟨N9,T,ds271⟩:=a;obtain ⟨h391,n392⟩:=σ;obtain ⟨rfl,e1,F271,o272,c272,cs272,e2,le271,st,w272,t3,t4,t9,t10,t11⟩:=hq
   dsimp only at e1 e2
   subst e1
   subst e2
   dsimp only at st t3 t4 t9 t10 t11
   refine ib_e ?_;refine th_n ?_;refine zd (zg ?_);refine zM (vs:=[(.slice pa0_0 (a0_0).length ca0_0),(i64 a0_1),(.slice pa0_2 (a0_2).length ca0_2)]) (st.at (i:=0) rfl).2.2 rfl ?_;obtain ⟨v393,e394,hF⟩:=zj hF;refine yr st (ct22 N e394 st.d st.sub (Nat.le_trans hfl st.ext.le) (RowF.mono le271 ra0_0) (RowF.mono le271 ra0_2)) (fun u395 F395 h395 n395 le395 rv395 st=>?_)
   have le396:=PH.le.trans le271 le395
   obtain ⟨_,rfl,⟨_,_,rfl,⟨py397,cy397,rfl,ry397⟩,⟨_,_,rfl,rfl,⟨py398,cy398,rfl,ry398⟩⟩⟩⟩:=rv395;obtain ⟨v399,e400,hF⟩:=zj hF;refine yr st (ct27 N e400 st.d st.sub (Nat.le_trans hfl st.ext.le) ry397 ry398) (fun u401 F401 h401 n401 le401 rv401 st=>?_)
   have le402:=PH.le.trans le396 le401
   have le403:=PH.le.trans le395 le401
   obtain ⟨_,_,rfl,⟨py404,cy404,rfl,ry404⟩,rfl⟩:=rv401;refine za ?_;refine v_xt rfl ?_;refine v_xt rfl ?_;refine za ?_;refine za ?_;refine zb (th_n ?_);refine zd (zg ?_);refine zM (vs:=[(.slice pa0_0 (a0_0).length ca0_0),(i64 a0_1),(.slice pa0_2 (a0_2).length ca0_2)]) (st.at (i:=0) rfl).2.2 rfl ?_;obtain ⟨v405,e406,hF⟩:=zj hF;refine yr st (ct22 N e406 st.d st.sub (Nat.le_trans hfl st.ext.le) (RowF.mono le402 ra0_0) (RowF.mono le402 ra0_2)) (fun u407 F407 h407 n407 le407 rv407 st=>?_)
   have le408:=PH.le.trans le402 le407
   have le409:=PH.le.trans le403 le407
   obtain ⟨_,rfl,⟨_,_,rfl,⟨py411,cy411,rfl,ry411⟩,⟨_,_,rfl,rfl,⟨py412,cy412,rfl,ry412⟩⟩⟩⟩:=rv407;obtain ⟨v413,e414,hF⟩:=zj hF;refine yr st (ct28 N e414 st.d st.sub (Nat.le_trans hfl st.ext.le) ry411 ry412) (fun u415 F415 h415 n415 le415 rv415 st=>?_)
   have le416:=PH.le.trans le408 le415
   have le417:=PH.le.trans le409 le415
   have le419:=PH.le.trans le407 le415
   obtain ⟨_,_,rfl,⟨py420,cy420,rfl,ry420⟩,rfl⟩:=rv415;refine za ?_;refine v_xt rfl ?_;refine v_xt rfl ?_;refine za ?_;refine za ?_;refine zb (th_n ?_);obtain ⟨y493,hA494,hF⟩:=zj hF;refine yt (fun T ds499 h nx=>∃ u,y493 = (.inr u) ∧ ∃ (F499:PH),ds499 = [] ∧ PH.le F415 F499 ∧ St n0 h0 F0 F499 h nx [.bx b1 [(.slice pa0_0 (a0_0).length ca0_0),(i64 a0_1),(.slice pa0_2 (a0_2).length ca0_2)],.bx n12 [(slv o12 ((a0_0.set (Int.toNat (Int.tmod a1 ((a0_0).length:Int))) ((x16.1+a2),(x18.2+a2)))).length c12),(i64 a0_1),(slv o272 (y270).length c272)],.ls o12 c12 cs21 2,.ls o272 c272 cs272 3] ∧ T.get 9 = some (i64 (Int.tmod a1 ((a0_0).length:Int))) ∧ T.get 10 = some (i64 a2) ∧ T.get 11 = some (.ptr (some (n12,0))) ∧ T.get 16 = some (.slice py404 (v399.1).length cy404) ∧ T.get 17 = some (i64 v399.2) ∧ T.get 18 = some (.slice py420 (v413.1).length cy420) ∧ T.get 19 = some (i64 v413.2)) ?_ (fun T ds499 h nx hp=>?_)
   ·have hK495:=hF
    have hF:=hA494;refine zd (zg ?_);refine v_fa ?_;refine zq (st.at (i:=0) rfl).2.2 rfl ?_;refine z2 ?_;refine za ?_;refine zb (th_n ?_);refine zd (zg ?_);refine za ?_;refine jg ?_;refine zb (th_n ?_);refine zE (fun hb500=>?_) (fun hb500=>?_)
    ·have hF:=zy hb500 hF;refine zd (zg ?_);refine zM (vs:=[(.slice pa0_0 (a0_0).length ca0_0),(i64 a0_1),(.slice pa0_2 (a0_2).length ca0_2)]) (st.at (i:=0) rfl).2.2 rfl ?_;refine zQ st (fun b501 h502 n503 st=>?_);refine v_st (cs':=[(.slice pa0_0 (a0_0).length ca0_0),(i64 a0_1),(.slice pa0_2 (a0_2).length ca0_2)]) st 4 rfl rfl rfl rfl hfl (fun h504 st=>?_);refine zb (th_n ?_);refine zd (zg ?_);refine za ?_;obtain ⟨q505,hF⟩:=zn hF;refine XU q505 ?_;refine za ?_;obtain ⟨q506,hF⟩:=zn hF;refine v_rem q506 ?_;refine za ?_;refine zb (th_n ?_);refine zd ?_;refine yn (Nat.le_trans hfl st.ext.le) (fun dw=>?_)
     refine km st.d dw (fun hm vw=>u_bs (cs:=[]) rfl zu) (fun done dw=>?_);refine zB st.d dw (fun hm vw=>v_fa zu) ?_;refine zB st.d dw (fun hm vw=>zq (vw.bx (st.at (i:=0) rfl)) rfl zu) ?_;refine zB st.d dw (fun hm vw=>za zu) ?_;obtain ⟨q507,hF⟩:=zn hF
     refine jw st.d dw rfl rfl (fun hm vw=>v_slf (m:=((a0_2.drop (Int.toNat (Int.tmod a3 ((a0_2).length:Int)))).take (a0_2.length - (Int.toNat (Int.tmod a3 ((a0_2).length:Int))))).length) (Int.toNat (Int.tmod a3 ((a0_2).length:Int))) a0_2.length ra0_2 (Y3 (by first | exact ev_c | (apply ev_t;repeat first | exact ge_h | refine ge_w rfl ?_ | refine ge_f rfl ?_ | refine ge_m rfl ?_ | assumption)) (Int.toNat_of_nonneg q507.1).symm) Y4 q507.2.2 (sl_len q507.2.2.2) (fun p507 c507 n508 hn' rs507=>zb (XP dw hn' vw.d (fun dw=>?_))))
     obtain ⟨q509,hF⟩:=zn hF
     refine y_own (m:=((a0_2.drop (Int.toNat (Int.tmod a3 ((a0_2).length:Int)))).take (a0_2.length - (Int.toNat (Int.tmod a3 ((a0_2).length:Int))))).length) (sz:=3) (rel:=(rP rI (rP rI (rL (rP rI rI) 2)))) (l:=((a0_2.drop (Int.toNat (Int.tmod a3 ((a0_2).length:Int)))).take (a0_2.length - (Int.toNat (Int.tmod a3 ((a0_2).length:Int)))))) st dw rfl (fun hm vw=>u_app (m:=((a0_2.drop (Int.toNat (Int.tmod a3 ((a0_2).length:Int)))).take (a0_2.length - (Int.toNat (Int.tmod a3 ((a0_2).length:Int))))).length) (cx:=c507) st vw (vw.vis _ (List.mem_cons_self ..) rfl _ _ (if_pos rfl)) (by have:=dw.le;omega) (Nat.le_trans hfl st.ext.le) (RowF.mono le416 rs507) q509 (by decide) rfl) (fun o509 c509 cs509 n509 done G509 hn509 dw ok509 gb509 w509=>?_)
     refine zB st.d dw (fun hm vw=>v_fa zu) ?_;refine zB st.d dw (fun hm vw=>zq (vw.bx (st.at (i:=0) rfl)) rfl zu) ?_;refine zB st.d dw (fun hm vw=>za zu) ?_;obtain ⟨q510,hF⟩:=zn hF
     refine jw st.d dw rfl rfl (fun hm vw=>v_slf (m:=((a0_2.drop 0).take ((Int.toNat (Int.tmod a3 ((a0_2).length:Int))) - 0)).length) 0 (Int.toNat (Int.tmod a3 ((a0_2).length:Int))) ra0_2 Y4 (Y3 (by first | exact ev_c | (apply ev_t;repeat first | exact ge_h | refine ge_w rfl ?_ | refine ge_f rfl ?_ | refine ge_m rfl ?_ | assumption)) (Int.toNat_of_nonneg q510.2.1).symm) q510.2.2 (sl_len q510.2.2.2) (fun p510 c510 n511 hn' rs510=>zb (XP dw hn' vw.d (fun dw=>?_))))
     refine vd st.d dw rfl (fun h512 ex vs=>?_)
     have sto:=st
     have st:=St.laid st ex (Lay.nil (by have:=dw.le;omega))
     have st:=St.ownB (G:=G509) sto st (ok509 _ _ (vs _ (List.mem_cons_self ..)) (by have:=dw.le;omega)) gb509 (fun e he=>by cases he)
     obtain ⟨q513,hF⟩:=zn hF
     refine v_apr (m:=(((a0_2.drop (Int.toNat (Int.tmod a3 ((a0_2).length:Int)))).take (a0_2.length - (Int.toNat (Int.tmod a3 ((a0_2).length:Int))))) ++ ((a0_2.drop 0).take ((Int.toNat (Int.tmod a3 ((a0_2).length:Int))) - 0))).length) st 5 rfl w509 (RowF.mono le416 rs510) q513 hfl (by decide) (by first | (simp;done) | (simp;omega)) (fun o513 c513 cs513 h513 n513 st w513=>?_)
     refine v_fa ?_;refine v_st (cs':=[(.slice pa0_0 (a0_0).length ca0_0),(i64 a0_1),(slv o513 ((((a0_2.drop (Int.toNat (Int.tmod a3 ((a0_2).length:Int)))).take (a0_2.length - (Int.toNat (Int.tmod a3 ((a0_2).length:Int))))) ++ ((a0_2.drop 0).take ((Int.toNat (Int.tmod a3 ((a0_2).length:Int))) - 0)))).length c513)]) st 4 rfl rfl rfl rfl hfl (fun h514 st=>?_);refine zb (th_n ?_);refine zd (zg ?_);refine zM (vs:=[(.slice pa0_0 (a0_0).length ca0_0),(i64 a0_1),(slv o513 ((((a0_2.drop (Int.toNat (Int.tmod a3 ((a0_2).length:Int)))).take (a0_2.length - (Int.toNat (Int.tmod a3 ((a0_2).length:Int))))) ++ ((a0_2.drop 0).take ((Int.toNat (Int.tmod a3 ((a0_2).length:Int))) - 0)))).length c513)]) (st.at (i:=4) rfl).2.2 rfl ?_
     obtain ⟨v515,e516,hF⟩:=zj hF
     obtain ⟨F517,le517,st,rf517⟩:=St.freeze st 5 rfl w513 (by decide)
     have le518:=PH.le.trans le416 le517
     have le521:=PH.le.trans le419 le517
     refine yr st (ct22 N e516 st.d st.sub (Nat.le_trans hfl st.ext.le) (RowF.mono le518 ra0_0) rf517) (fun u523 F523 h523 n523 le523 rv523 st=>?_)
     have le527:=PH.le.trans le521 le523
     have le529:=PH.le.trans le517 le523
     obtain ⟨_,rfl,⟨_,_,rfl,⟨py530,cy530,rfl,ry530⟩,⟨_,_,rfl,rfl,⟨py531,cy531,rfl,ry531⟩⟩⟩⟩:=rv523;obtain ⟨v532,e533,hF⟩:=zj hF;refine yr st (ct27 N e533 st.d st.sub (Nat.le_trans hfl st.ext.le) ry530 ry531) (fun u534 F534 h534 n534 le534 rv534 st=>?_)
     have le538:=PH.le.trans le527 le534
     have le540:=PH.le.trans le529 le534
     obtain ⟨_,_,rfl,⟨py542,cy542,rfl,ry542⟩,rfl⟩:=rv534;refine za ?_;refine v_xt rfl ?_;refine v_xt rfl ?_;refine za ?_;refine za ?_;refine zb (th_n ?_);obtain ⟨y551,hA552,hF⟩:=zj hF;refine yt (fun T ds554 h nx=>∃ (F554:PH),ds554 = [] ∧ PH.le F534 F554 ∧ St n0 h0 F0 F554 h nx [.bx b1 [(.slice pa0_0 (a0_0).length ca0_0),(i64 a0_1),(.slice pa0_2 (a0_2).length ca0_2)],.bx n12 [(slv o12 ((a0_0.set (Int.toNat (Int.tmod a1 ((a0_0).length:Int))) ((x16.1+a2),(x18.2+a2)))).length c12),(i64 a0_1),(slv o272 (y270).length c272)],.ls o12 c12 cs21 2,.ls o272 c272 cs272 3,.bx b501 [(.slice pa0_0 (a0_0).length ca0_0),(i64 a0_1),(.slice (o513.map fun b=>(b,0)) ((((a0_2.drop (Int.toNat (Int.tmod a3 ((a0_2).length:Int)))).take (a0_2.length - (Int.toNat (Int.tmod a3 ((a0_2).length:Int))))) ++ ((a0_2.drop 0).take ((Int.toNat (Int.tmod a3 ((a0_2).length:Int))) - 0)))).length c513)]] ∧ T.get 9 = some (i64 (Int.tmod a1 ((a0_0).length:Int))) ∧ T.get 10 = some (i64 a2) ∧ T.get 11 = some (.ptr (some (n12,0))) ∧ T.get 16 = some (.slice py404 (v399.1).length cy404) ∧ T.get 17 = some (i64 v399.2) ∧ T.get 18 = some (.slice py420 (v413.1).length cy420) ∧ T.get 19 = some (i64 v413.2) ∧ T.get 180 = some (.bool y551)) ?_ (fun T ds554 h nx hp=>?_)
     ·have hK553:=hF
      have hF:=hA552;refine zg ?_;refine za ?_;refine za ?_;refine vN ?_;refine za ?_
      rcases Bool.eq_false_or_eq_true (!(decide (v532.2 = v399.2))) with hb555 | hb555
      ·have hF:=zy hb555 hF;refine zf hb555 ?_;refine zf hb555 ?_;refine zf hb555 ?_;refine zf hb555 ?_;refine zK hb555 ?_;refine za ?_;refine zf rfl ?_;refine zf rfl ?_;refine zf rfl ?_;refine zf rfl ?_;refine zK rfl ?_;refine zb ?_;obtain rfl:=inj hF;refine thn ⟨rfl,?_⟩;dsimp only
       exact ⟨F534,rfl,(PH.le.refl _),st,gA,gA,gA,gA,gA,gA,gA,gA⟩
      ·have hF:=zA hb555 hF;refine zk hb555 (za ?_);refine zk hb555 (za ?_);obtain ⟨v556,e557,hF⟩:=zj hF;refine zk hb555 (zT st (ct64 N e557 st.d st.sub (RowF.mono le538 ry404) ry542) (fun n558 st=>?_));refine zk hb555 (yv ?_);refine zI hb555 ?_;refine za ?_
       rcases Bool.eq_false_or_eq_true (!v556) with hb559 | hb559
       ·have hF:=zy hb559 hF;refine zf hb559 ?_;refine zf hb559 ?_;refine zf hb559 ?_;refine zf hb559 ?_;refine zK hb559 ?_;refine zb ?_;obtain rfl:=inj hF;refine thn ⟨rfl,?_⟩;dsimp only
        exact ⟨F534,rfl,(PH.le.refl _),st,gA,gA,gA,gA,gA,gA,gA,gA⟩
       ·have hF:=zA hb559 hF;refine zk hb559 (za ?_);refine zk hb559 (za ?_);obtain ⟨v560,e561,hF⟩:=zj hF;refine zk hb559 (zT st (ct64 N e561 st.d st.sub ry542 (RowF.mono le538 ry404)) (fun n562 st=>?_));refine zk hb559 (yv ?_);refine zI hb559 ?_;refine zb ?_;obtain rfl:=inj hF;refine thn ⟨rfl,?_⟩;dsimp only
        exact ⟨F534,rfl,(PH.le.refl _),st,gA,gA,gA,gA,gA,gA,gA,gA⟩
     ·obtain ⟨F554,rfl,le554,st,t9,t10,t11,t16,t17,t18,t19,t180⟩:=hp
      have le568:=PH.le.trans le540 le554
      refine zE (fun hb571=>?_) (fun hb571=>?_)
      ·have hF:=zy hb571 hF;refine zd (zg ?_);refine za ?_;refine zb (th_n ?_);refine zD ?_;obtain rfl:=inj hF;have hF:=hK495;have hF:=yM hF;refine th_r ?_;obtain rfl:=inj hF
       exact zJ st (Res.t gA Res.nil) rfl rfl
      ·have hF:=zA hb571 hF;refine zF ?_;obtain rfl:=inj hF;refine thn ⟨rfl,_,rfl,?_⟩;dsimp only
       exact ⟨F554,rfl,le568,(st.drop (by first | exact List.Sublist.refl _ | (repeat first | exact List.nil_sublist _ | refine List.Sublist.cons_cons _ ?_ | refine List.Sublist.cons _ ?_))),gA,gA,gA,gA,gA,gA,gA⟩
    ·have hF:=zA hb500 hF;refine zF ?_;obtain rfl:=inj hF;refine thn ⟨rfl,_,rfl,?_⟩;dsimp only
     exact ⟨F415,rfl,(PH.le.refl _),st,gA,gA,gA,gA,gA,gA,gA⟩
   ·obtain ⟨w498,rfl,F499,rfl,le499,st,t9,t10,t11,t16,t17,t18,t19⟩:=hp;have hF:=yL hF
    have le577:=PH.le.trans le416 le499
    have le578:=PH.le.trans le417 le499
    have le580:=PH.le.trans le419 le499
    refine zd ?_;refine zd (zg ?_);refine zM (vs:=[(slv o12 ((a0_0.set (Int.toNat (Int.tmod a1 ((a0_0).length:Int))) ((x16.1+a2),(x18.2+a2)))).length c12),(i64 a0_1),(slv o272 (y270).length c272)]) (st.at (i:=1) rfl).2.2 rfl ?_;obtain ⟨v582,e583,hF⟩:=zj hF
    refine zT st (ct25 N e583 st.d (all_sub _) (st.row_all (i:=2) rfl (LR.mono le577 w21) (by decide)) (st.row_all (i:=3) rfl (LR.mono le578 w272) (by decide))) (fun n584 st=>?_)
    refine vN ?_;refine zb (th_n ?_);refine zE (fun hb585=>?_) (fun hb585=>?_)
    ·have hF:=zy hb585 hF;refine zd (zg ?_);refine zT st (ct_wakes (h:=_) (nx:=_)) (fun n586 st=>?_);refine za ?_;refine zb (th_n ?_);refine zD ?_;refine th_r ?_;obtain rfl:=inj hF
     exact zJ st (Res.t gA Res.nil) rfl rfl
    ·have hF:=zA hb585 hF;refine zF (th_n ?_);refine zd (zg ?_);refine zM (vs:=[(slv o12 ((a0_0.set (Int.toNat (Int.tmod a1 ((a0_0).length:Int))) ((x16.1+a2),(x18.2+a2)))).length c12),(i64 a0_1),(slv o272 (y270).length c272)]) (st.at (i:=1) rfl).2.2 rfl ?_;obtain ⟨v587,e588,hF⟩:=zj hF
     obtain ⟨F589,le589,st,rf589⟩:=St.freeze st 2 rfl (LR.mono le577 w21) (by decide)
     have le591:=PH.le.trans le578 le589
     have le593:=PH.le.trans le580 le589
     have le595:=PH.le.trans le499 le589
     obtain ⟨F596,le596,st,rf596⟩:=St.freeze st 2 rfl (LR.mono le591 w272) (by decide)
     have le600:=PH.le.trans le593 le596
     have le602:=PH.le.trans le595 le596
     refine yr st (ct22 N e588 st.d st.sub (Nat.le_trans hfl st.ext.le) (RowF.mono le596 rf589) rf596) (fun u604 F604 h604 n604 le604 rv604 st=>?_)
     have le608:=PH.le.trans le600 le604
     have le610:=PH.le.trans le602 le604
     have le612:=PH.le.trans le596 le604
     obtain ⟨_,rfl,⟨_,_,rfl,⟨py613,cy613,rfl,ry613⟩,⟨_,_,rfl,rfl,⟨py614,cy614,rfl,ry614⟩⟩⟩⟩:=rv604;obtain ⟨v615,e616,hF⟩:=zj hF;refine yr st (ct27 N e616 st.d st.sub (Nat.le_trans hfl st.ext.le) ry613 ry614) (fun u617 F617 h617 n617 le617 rv617 st=>?_)
     have le621:=PH.le.trans le608 le617
     have le623:=PH.le.trans le610 le617
     have le625:=PH.le.trans le612 le617
     have le626:=PH.le.trans le604 le617
     obtain ⟨_,_,rfl,⟨py627,cy627,rfl,ry627⟩,rfl⟩:=rv617;refine za ?_;refine v_xt rfl ?_;refine v_xt rfl ?_;refine za ?_;refine za ?_;refine zb (th_n ?_);refine zd (zg ?_);refine zM (vs:=[(.slice (o12.map fun b=>(b,0)) ((a0_0.set (Int.toNat (Int.tmod a1 ((a0_0).length:Int))) ((x16.1+a2),(x18.2+a2)))).length c12),(i64 a0_1),(.slice (o272.map fun b=>(b,0)) (y270).length c272)]) (st.at (i:=1) rfl).2.2 rfl ?_;obtain ⟨v628,e629,hF⟩:=zj hF;refine yr st (ct22 N e629 st.d st.sub (Nat.le_trans hfl st.ext.le) (RowF.mono le625 rf589) (RowF.mono le626 rf596)) (fun u630 F630 h630 n630 le630 rv630 st=>?_)
     have le634:=PH.le.trans le621 le630
     have le636:=PH.le.trans le623 le630
     obtain ⟨_,rfl,⟨_,_,rfl,⟨py641,cy641,rfl,ry641⟩,⟨_,_,rfl,rfl,⟨py642,cy642,rfl,ry642⟩⟩⟩⟩:=rv630;obtain ⟨v643,e644,hF⟩:=zj hF;refine yr st (ct28 N e644 st.d st.sub (Nat.le_trans hfl st.ext.le) ry641 ry642) (fun u645 F645 h645 n645 le645 rv645 st=>?_)
     have le649:=PH.le.trans le634 le645
     have le651:=PH.le.trans le636 le645
     have le656:=PH.le.trans le630 le645
     obtain ⟨_,_,rfl,⟨py657,cy657,rfl,ry657⟩,rfl⟩:=rv645;refine za ?_;refine v_xt rfl ?_;refine v_xt rfl ?_;refine za ?_;refine za ?_;refine zb (th_n ?_);obtain ⟨y697,hA698,hF⟩:=zj hF;refine yt (fun T ds703 h nx=>∃ u,y697 = (.inr u) ∧ ∃ (F703:PH),ds703 = [] ∧ PH.le F645 F703 ∧ St n0 h0 F0 F703 h nx [.bx b1 [(.slice pa0_0 (a0_0).length ca0_0),(i64 a0_1),(.slice pa0_2 (a0_2).length ca0_2)],.bx n12 [(.slice (o12.map fun b=>(b,0)) ((a0_0.set (Int.toNat (Int.tmod a1 ((a0_0).length:Int))) ((x16.1+a2),(x18.2+a2)))).length c12),(i64 a0_1),(.slice (o272.map fun b=>(b,0)) (y270).length c272)]] ∧ T.get 9 = some (i64 (Int.tmod a1 ((a0_0).length:Int))) ∧ T.get 10 = some (i64 a2) ∧ T.get 16 = some (.slice py404 (v399.1).length cy404) ∧ T.get 17 = some (i64 v399.2) ∧ T.get 25 = some (.slice py627 (v615.1).length cy627)) ?_ (fun T ds703 h nx hp=>?_)
     ·have hK699:=hF
      have hF:=hA698;obtain ⟨y715,hA716,hF⟩:=zj hF;refine yt (fun T ds718 h nx=>∃ (F718:PH),ds718 = [] ∧ PH.le F645 F718 ∧ St n0 h0 F0 F718 h nx [.bx b1 [(.slice pa0_0 (a0_0).length ca0_0),(i64 a0_1),(.slice pa0_2 (a0_2).length ca0_2)],.bx n12 [(.slice (o12.map fun b=>(b,0)) ((a0_0.set (Int.toNat (Int.tmod a1 ((a0_0).length:Int))) ((x16.1+a2),(x18.2+a2)))).length c12),(i64 a0_1),(.slice (o272.map fun b=>(b,0)) (y270).length c272)]] ∧ T.get 9 = some (i64 (Int.tmod a1 ((a0_0).length:Int))) ∧ T.get 10 = some (i64 a2) ∧ T.get 16 = some (.slice py404 (v399.1).length cy404) ∧ T.get 17 = some (i64 v399.2) ∧ T.get 25 = some (.slice py627 (v615.1).length cy627) ∧ T.get 228 = some (.bool y715)) ?_ (fun T ds718 h nx hp=>?_)
      ·have hK717:=hF
       have hF:=hA716;refine zg ?_;refine za ?_;refine za ?_;refine vN ?_;refine za ?_
       rcases Bool.eq_false_or_eq_true (!(decide (v399.2 = v413.2))) with hb719 | hb719
       ·have hF:=zy hb719 hF;refine zf hb719 ?_;refine zf hb719 ?_;refine zf hb719 ?_;refine zK hb719 ?_;refine za ?_;refine zf rfl ?_;refine zf rfl ?_;refine zf rfl ?_;refine zK rfl ?_;refine za ?_;refine zf rfl ?_;refine zf rfl ?_;refine zf rfl ?_;refine zf rfl ?_;refine zf rfl ?_;refine zK rfl ?_;refine za ?_;refine zf rfl ?_;refine zf rfl ?_;refine zf rfl ?_;refine zf rfl ?_;refine zK rfl ?_;refine za ?_;refine zf rfl ?_;refine zf rfl ?_;refine zf rfl ?_;refine zf rfl ?_;refine zK rfl ?_;refine zb ?_;obtain rfl:=inj hF;refine thn ⟨rfl,?_⟩
        dsimp only
        exact ⟨F645,rfl,(PH.le.refl _),st,gA,gA,gA,gA,gA,gA⟩
       ·have hF:=zA hb719 hF;refine zk hb719 (za ?_);refine zk hb719 (za ?_);refine zk hb719 (vN ?_);refine zI hb719 ?_;refine za ?_
        rcases Bool.eq_false_or_eq_true (!(decide (v615.2 = v399.2))) with hb720 | hb720
        ·have hF:=zy hb720 hF;refine zf hb720 ?_;refine zf hb720 ?_;refine zf hb720 ?_;refine zK hb720 ?_;refine za ?_;refine zf rfl ?_;refine zf rfl ?_;refine zf rfl ?_;refine zf rfl ?_;refine zf rfl ?_;refine zK rfl ?_;refine za ?_;refine zf rfl ?_;refine zf rfl ?_;refine zf rfl ?_;refine zf rfl ?_;refine zK rfl ?_;refine za ?_;refine zf rfl ?_;refine zf rfl ?_;refine zf rfl ?_;refine zf rfl ?_;refine zK rfl ?_;refine zb ?_;obtain rfl:=inj hF;refine thn ⟨rfl,?_⟩;dsimp only
         exact ⟨F645,rfl,(PH.le.refl _),st,gA,gA,gA,gA,gA,gA⟩
        ·have hF:=zA hb720 hF;refine zk hb720 (za ?_);refine zk hb720 (za ?_);refine zk hb720 (vN ?_);refine zI hb720 ?_;refine za ?_
         rcases Bool.eq_false_or_eq_true (!(decide (v643.2 = v399.2))) with hb721 | hb721
         ·have hF:=zy hb721 hF;refine zf hb721 ?_;refine zf hb721 ?_;refine zf hb721 ?_;refine zf hb721 ?_;refine zf hb721 ?_;refine zK hb721 ?_;refine za ?_;refine zf rfl ?_;refine zf rfl ?_;refine zf rfl ?_;refine zf rfl ?_;refine zK rfl ?_;refine za ?_;refine zf rfl ?_;refine zf rfl ?_;refine zf rfl ?_;refine zf rfl ?_;refine zK rfl ?_;refine zb ?_;obtain rfl:=inj hF;refine thn ⟨rfl,?_⟩;dsimp only
          exact ⟨F645,rfl,(PH.le.refl _),st,gA,gA,gA,gA,gA,gA⟩
         ·have hF:=zA hb721 hF;refine zk hb721 (za ?_);refine zk hb721 (z2 ?_);refine zk hb721 (za ?_);refine zk hb721 (z2 ?_);refine zk hb721 (vN ?_);refine zI hb721 ?_;refine za ?_
          rcases Bool.eq_false_or_eq_true (!(decide (((v615.1).length:Int) = ((v399.1).length:Int)))) with hb722 | hb722
          ·have hF:=zy hb722 hF;refine zf hb722 ?_;refine zf hb722 ?_;refine zf hb722 ?_;refine zf hb722 ?_;refine zK hb722 ?_;refine za ?_;refine zf rfl ?_;refine zf rfl ?_;refine zf rfl ?_;refine zf rfl ?_;refine zK rfl ?_;refine zb ?_;obtain rfl:=inj hF;refine thn ⟨rfl,?_⟩;dsimp only
           exact ⟨F645,rfl,(PH.le.refl _),st,gA,gA,gA,gA,gA,gA⟩
          ·have hF:=zA hb722 hF;refine zk hb722 (za ?_);refine zk hb722 (za ?_);obtain ⟨v723,e724,hF⟩:=zj hF;refine zk hb722 (zT st (ct64 N e724 st.d st.sub (RowF.mono le651 ry420) ry657) (fun n725 st=>?_));refine zk hb722 (yv ?_);refine zI hb722 ?_;refine za ?_
           rcases Bool.eq_false_or_eq_true (!v723) with hb726 | hb726
           ·have hF:=zy hb726 hF;refine zf hb726 ?_;refine zf hb726 ?_;refine zf hb726 ?_;refine zf hb726 ?_;refine zK hb726 ?_;refine zb ?_;obtain rfl:=inj hF;refine thn ⟨rfl,?_⟩;dsimp only
            exact ⟨F645,rfl,(PH.le.refl _),st,gA,gA,gA,gA,gA,gA⟩
           ·have hF:=zA hb726 hF;refine zk hb726 (za ?_);refine zk hb726 (za ?_);obtain ⟨v727,e728,hF⟩:=zj hF;refine zk hb726 (zT st (ct64 N e728 st.d st.sub ry657 (RowF.mono le651 ry420)) (fun n729 st=>?_));refine zk hb726 (yv ?_);refine zI hb726 ?_;refine zb ?_;obtain rfl:=inj hF;refine thn ⟨rfl,?_⟩;dsimp only
            exact ⟨F645,rfl,(PH.le.refl _),st,gA,gA,gA,gA,gA,gA⟩
      ·obtain ⟨F718,rfl,le718,st,t9,t10,t16,t17,t25,t228⟩:=hp
       refine zE (fun hb742=>?_) (fun hb742=>?_)
       ·have hF:=zy hb742 hF;refine zd (zg ?_);refine za ?_;refine zb (th_n ?_);refine zD ?_;obtain rfl:=inj hF;have hF:=hK699;have hF:=yM hF;refine th_r ?_;obtain rfl:=inj hF
        exact zJ st (Res.t gA Res.nil) rfl rfl
       ·have hF:=zA hb742 hF;refine zF ?_;obtain rfl:=inj hF;refine thn ⟨rfl,_,rfl,?_⟩;dsimp only
        exact ⟨F718,rfl,le718,st,gA,gA,gA,gA,gA⟩
     ·obtain ⟨w702,rfl,F703,rfl,le703,st,t9,t10,t16,t17,t25⟩:=hp;have hF:=yL hF
      have le758:=PH.le.trans le649 le703
      have le765:=PH.le.trans le656 le703
      refine zd ?_;refine zd (zg ?_);refine za ?_;refine zb (th_n ?_);refine zx ?_;obtain ⟨y814,hy,hF⟩:=zj hF;refine zW (sf16_L3 N a0_0 a1 a2 v399 v615) (fun x767 T ds768 h nx=>∃ (F768:PH),ds768 = [] ∧ PH.le F703 F768 ∧ St n0 h0 F0 F768 h nx [.bx b1 [(.slice pa0_0 (a0_0).length ca0_0),(i64 a0_1),(.slice pa0_2 (a0_2).length ca0_2)],.bx n12 [(.slice (o12.map fun b=>(b,0)) ((a0_0.set (Int.toNat (Int.tmod a1 ((a0_0).length:Int))) ((x16.1+a2),(x18.2+a2)))).length c12),(i64 a0_1),(.slice (o272.map fun b=>(b,0)) (y270).length c272)]] ∧ T.get 9 = some (i64 (Int.tmod a1 ((a0_0).length:Int))) ∧ T.get 10 = some (i64 a2) ∧ T.get 16 = some (.slice py404 (v399.1).length cy404) ∧ T.get 17 = some (i64 v399.2) ∧ T.get 25 = some (.slice py627 (v615.1).length cy627) ∧ T.get 29 = some (i64 x767)) (fun y e a σ=>(∃ u,y = (.inl u) ∧ e = .ret ∧ a.nt = 268 ∧ ∃ (F816:PH),a.defers = [] ∧ PH.le F703 F816 ∧ St n0 h0 F0 F816 σ.h σ.nx [.bx b1 [(.slice pa0_0 (a0_0).length ca0_0),(i64 a0_1),(.slice pa0_2 (a0_2).length ca0_2)],.bx n12 [(.slice (o12.map fun b=>(b,0)) ((a0_0.set (Int.toNat (Int.tmod a1 ((a0_0).length:Int))) ((x16.1+a2),(x18.2+a2)))).length c12),(i64 a0_1),(.slice (o272.map fun b=>(b,0)) (y270).length c272)]] ∧ a.tmps.get 8 = some (.bool false)) ∨ (∃ u,y = (.inr u) ∧ e = .exit 4 ∧ a.nt = 268 ∧ ∃ (F818:PH),a.defers = [] ∧ PH.le F703 F818 ∧ St n0 h0 F0 F818 σ.h σ.nx [.bx b1 [(.slice pa0_0 (a0_0).length ca0_0),(i64 a0_1),(.slice pa0_2 (a0_2).length ca0_2)],.bx n12 [(.slice (o12.map fun b=>(b,0)) ((a0_0.set (Int.toNat (Int.tmod a1 ((a0_0).length:Int))) ((x16.1+a2),(x18.2+a2)))).length c12),(i64 a0_1),(.slice (o272.map fun b=>(b,0)) (y270).length c272)]] ∧ a.tmps.get 17 = some (i64 v399.2))) (fun x767 T ds768 h nx s hp hF=>?_) N _ y814 _ _ _ _ hy ⟨F703,rfl,(PH.le.refl _),st,gA,gA,gA,gA,gA,gA⟩ (fun e a σ hne hq=>?_)
      ·obtain ⟨F768,rfl,le768,st,t9,t10,t16,t17,t25,t29⟩:=hp
       have le772:=PH.le.trans le758 le768
       have le779:=PH.le.trans le765 le768
       unfold sf16_L3 at hF;unfold L16w0;refine zd ?_;refine zd (zg ?_);refine za ?_;refine za ?_;refine z2 ?_;refine yc ?_;refine zb (th_n ?_);refine zE (fun hb819=>?_) (fun hb819=>?_)
       ·have hF:=zy hb819 hF;refine zF (th_n ?_);refine zd ?_;refine zx ?_;refine zd (zg ?_);refine za ?_;refine zb (th_n ?_);obtain ⟨y821,hA822,hF⟩:=zj hF;refine yt (fun T ds824 h nx=>∃ (F824:PH),ds824 = [] ∧ PH.le F768 F824 ∧ St n0 h0 F0 F824 h nx [.bx b1 [(.slice pa0_0 (a0_0).length ca0_0),(i64 a0_1),(.slice pa0_2 (a0_2).length ca0_2)],.bx n12 [(.slice (o12.map fun b=>(b,0)) ((a0_0.set (Int.toNat (Int.tmod a1 ((a0_0).length:Int))) ((x16.1+a2),(x18.2+a2)))).length c12),(i64 a0_1),(.slice (o272.map fun b=>(b,0)) (y270).length c272)]] ∧ T.get 9 = some (i64 (Int.tmod a1 ((a0_0).length:Int))) ∧ T.get 10 = some (i64 a2) ∧ T.get 16 = some (.slice py404 (v399.1).length cy404) ∧ T.get 17 = some (i64 v399.2) ∧ T.get 25 = some (.slice py627 (v615.1).length cy627) ∧ T.get 29 = some (i64 x767) ∧ T.get 30 = some (i64 y821)) ?_ (fun T ds824 h nx hp=>?_)
        ·have hK823:=hF
         have hF:=hA822;refine zd (zg ?_);refine za ?_;refine za ?_;refine jz ?_;refine zb (th_n ?_);refine zE (fun hb825=>?_) (fun hb825=>?_)
         ·have hF:=zy hb825 hF;refine zg ?_;refine za ?_;refine za ?_;refine zb ?_;obtain rfl:=inj hF;refine thn ⟨rfl,?_⟩;dsimp only
          exact ⟨F768,rfl,(PH.le.refl _),st,gA,gA,gA,gA,gA,gA,gA⟩
         ·have hF:=zA hb825 hF;refine zF ?_;obtain rfl:=inj hF;refine thn ⟨rfl,?_⟩;dsimp only
          exact ⟨F768,rfl,(PH.le.refl _),st,gA,gA,gA,gA,gA,gA,gA⟩
        ·obtain ⟨F824,rfl,le824,st,t9,t10,t16,t17,t25,t29,t30⟩:=hp
         have le829:=PH.le.trans le772 le824
         have le836:=PH.le.trans le779 le824
         have le839:=PH.le.trans le768 le824
         refine zd ?_;refine yn (Nat.le_trans hfl st.ext.le) (fun dw=>?_);refine zB st.d dw (fun hm vw=>za zu) ?_;refine zB st.d dw (fun hm vw=>za zu) ?_;obtain ⟨n840,x840,z840,l840,g840,hF⟩:=zO hF;obtain ⟨b840,o840,s840,j840,r840,e840,f840,k840,⟨_,_,rfl,rfl,rfl⟩⟩:=RowF.get ry627 g840;refine zB st.d dw (fun hm vw=>z9 e840 z840 l840 zu) ?_;refine zB st.d dw (fun hm vw=>zM (vw.fz st (le836 _ _ f840)) k840 zu) ?_;refine zB st.d dw (fun hm vw=>za zu) ?_;refine zB st.d dw (fun hm vw=>za zu) ?_;obtain ⟨n841,x841,z841,l841,g841,hF⟩:=zO hF;obtain ⟨b841,o841,s841,j841,r841,e841,f841,k841,⟨_,_,rfl,rfl,rfl⟩⟩:=RowF.get ry404 g841
         refine zB st.d dw (fun hm vw=>z9 e841 z841 l841 zu) ?_;refine zB st.d dw (fun hm vw=>v_fa zu) ?_;refine zB st.d dw (fun hm vw=>zq (vw.fz st (le829 _ _ f841)) (yk (j:=0) k841 rfl) zu) ?_;refine zB st.d dw (fun hm vw=>za zu) ?_;obtain ⟨q842,hF⟩:=zn hF;refine zB st.d dw (fun hm vw=>zY q842 zu) ?_;refine zB st.d dw (fun hm vw=>za zu) ?_;refine zB st.d dw (fun hm vw=>za zu) ?_;obtain ⟨n843,x843,z843,l843,g843,hF⟩:=zO hF;obtain ⟨b843,o843,s843,j843,r843,e843,f843,k843,⟨_,_,rfl,rfl,rfl⟩⟩:=RowF.get ry404 g843;refine zB st.d dw (fun hm vw=>z9 e843 z843 l843 zu) ?_
         refine zB st.d dw (fun hm vw=>v_fa zu) ?_;refine zB st.d dw (fun hm vw=>zq (vw.fz st (le829 _ _ f843)) (yk (j:=1) k843 rfl) zu) ?_;refine zB st.d dw (fun hm vw=>za zu) ?_;obtain ⟨q844,hF⟩:=zn hF;refine zB st.d dw (fun hm vw=>zY q844 zu) ?_;obtain ⟨v845,e846,hF⟩:=zj hF;refine vy st.d dw (fun hm vw=>um (ct57 N e846 vw.d (vw.sub st) ) (fun n' hn'=>vC hn')) (fun n847 hn' dw=>?_);refine vd st.d dw rfl (fun h848 ex vs=>?_)
         have st:=st.ext1 ex
         refine v_ner (b:=(x840.1 == v845.1 && (x840.2 == v845.2 && true))) rfl ?_;refine zb (th_n ?_);refine zE (fun hb849=>?_) (fun hb849=>?_)
         ·have hF:=zy hb849 hF;refine zd (zg ?_);refine za ?_;refine zb (th_n ?_);refine zD ?_;refine ib_r ?_;refine th_r ?_;refine th_r ?_;refine ⟨_,(inj hF).symm,.inl ⟨_,rfl,rfl,rfl,?_⟩⟩;dsimp only
          exact ⟨F824,rfl,le839,st,gA⟩
         ·have hF:=zA hb849 hF;refine zF ?_;refine ib_n ?_;refine th_n ?_;refine zg ?_;refine za ?_;obtain ⟨q850,hF⟩:=zn hF;refine zY q850 ?_;refine za ?_;refine zb ?_;refine thn ⟨_,(inj hF).symm,rfl,?_⟩;dsimp only
          exact ⟨F824,rfl,le839,st,gA,gA,gA,gA,gA,gA⟩
       ·have hF:=zA hb819 hF;refine z6 ?_;refine th_e ?_;refine th_e ?_;refine ⟨_,(inj hF).symm,.inr (⟨_,rfl,rfl,rfl,?_⟩)⟩;dsimp only
        exact ⟨F768,rfl,le768,st,gA⟩
      ·rcases hq with hq | hq
       ·obtain ⟨N9,T,ds816⟩:=a;obtain ⟨h864,n865⟩:=σ;obtain ⟨w815,rfl,rfl,e1,F816,e2,le816,st,t8⟩:=hq
        dsimp only at e1 e2
        subst e1
        subst e2
        dsimp only at st t8
        have hF:=yM hF;refine ib_r ?_;refine th_r ?_;obtain rfl:=inj hF
        exact zJ st (Res.t gA Res.nil) rfl rfl
       ·obtain ⟨N9,T,ds818⟩:=a;obtain ⟨h879,n880⟩:=σ;obtain ⟨w817,rfl,rfl,e1,F818,e2,le818,st,t17⟩:=hq
        dsimp only at e1 e2
        subst e1
        subst e2
        dsimp only at st t17
        have hF:=yL hF;refine ib_e ?_;refine th_n ?_;refine zd (zg ?_);refine za ?_;refine jz ?_;refine za ?_
        rcases Bool.eq_false_or_eq_true (decide (v399.2 = (0:Int))) with hb881 | hb881
        ·have hF:=zy hb881 hF;refine zf hb881 ?_;refine zf hb881 ?_;refine zK hb881 ?_;refine za ?_;refine zk rfl (zT st (ct_wakes (h:=_) (nx:=_)) (fun n882 st=>?_));refine zK rfl ?_;refine za ?_;refine zb (th_n ?_);refine zD ?_;obtain rfl:=inj hF
         exact zJ st (Res.t gA Res.nil) rfl rfl
        ·have hF:=zA hb881 hF;refine zk hb881 (za ?_);refine zk hb881 (jz ?_);refine zI hb881 ?_;refine za ?_
         rcases Bool.eq_false_or_eq_true (decide (v399.2 = (9:Int))) with hb883 | hb883
         ·have hF:=zy hb883 hF;refine zk hb883 (zT st (ct_wakes (h:=_) (nx:=_)) (fun n884 st=>?_));refine zK hb883 ?_;refine za ?_;refine zb (th_n ?_);refine zD ?_;obtain rfl:=inj hF
          exact zJ st (Res.t gA Res.nil) rfl rfl
         ·have hF:=zA hb883 hF;refine zf hb883 ?_;refine zI hb883 ?_;refine za ?_;refine zb (th_n ?_);refine zD ?_;obtain rfl:=inj hF
          exact zJ st (Res.t gA Res.nil) rfl rfl
end Go.Hx.V


namespace Go.Hx.V
open Go.Hx
theorem jZ {α β : Type} {step : α → Option (α ⊕ β)} (P : α → Prop) (m : α → Nat) (Y : β → Prop)
  (h : ∀ x, P x → (∃ x', step x = some (.inl x') ∧ P x' ∧ m x' < m x) ∨ ∃ y, step x = some (.inr y) ∧ Y y) : ∀ (N : Nat) (x : α), P x → m x < N → ∃ y, iter step N x = some y ∧ Y y
 | 0, x, hp, hm => by omega
 | N + 1, x, hp, hm => by
  unfold iter
  rcases h x hp with ⟨x', e, hp', hm'⟩ | ⟨y, e, hy⟩
  ·rw [e]; exact jZ P m Y h N x' hp' (by omega)
  ·rw [e]; exact ⟨y, rfl, hy⟩
theorem Xw {α β : Type} {step : α → Option (α ⊕ β)} (s : Nat → α) (y : β) : ∀ (n i N : Nat), (∀ j, i ≤ j → j < i + n → step (s j) = some (.inl (s (j + 1)))) → step (s (i + n)) = some (.inr y) → n < N → iter step N (s i) = some y
 | 0, i, N, hs, he, hN => by
  obtain ⟨N, rfl⟩ : ∃ k, N = k + 1 := ⟨N - 1, by omega⟩
  unfold iter; rw [Nat.add_zero] at he; rw [he]; rfl
 | n + 1, i, N, hs, he, hN => by
  obtain ⟨N, rfl⟩ : ∃ k, N = k + 1 := ⟨N - 1, by omega⟩
  unfold iter
  rw [hs i (by omega) (by omega)]
  exact Xw s y n (i + 1) N (fun j h1 h2 => hs j (by omega) (by omega)) (by rw [show i + 1 + n = i + (n + 1) by omega]; exact he) (by omega)
theorem ym {α β : Type} {step : α → Option (α ⊕ β)} {x : α} {N : Nat} (s : Nat → α) (n : Nat) (y : β) (hx : x = s 0) (hs : ∀ j, j < n → step (s j) = some (.inl (s (j + 1)))) (he : step (s n) = some (.inr y)) (hN : n < N) : iter step N x = some y := by
 subst hx
 exact Xw s y n 0 N (fun j _ h2 => hs j (by omega)) (by rw [Nat.zero_add]; exact he) hN
theorem j3 {α β : Type} {step : α → Option (α ⊕ β)} {x : α} {N : Nat} (s : Nat → α) (n : Nat) (p : Nat → Prop) [DecidablePred p] (good bad : β) (hx : x = s 0) (hs : ∀ j, j < n → p j → step (s j) = some (.inl (s (j + 1)))) (hf : ∀ j, j < n → ¬ p j → step (s j) = some (.inr bad)) (he : step (s n) = some (.inr good)) (hN : n < N) :
  ((∀ j, j < n → p j) ∧ iter step N x = some good) ∨ (¬ (∀ j, j < n → p j) ∧ iter step N x = some bad) := by
 by_cases h : ∀ j, j < n → p j
 ·exact .inl ⟨h, ym s n good hx (fun j hj => hs j hj (h j hj)) he hN⟩
 ·refine .inr ⟨h, ?_⟩
  have h1 : ∃ j, j < n ∧ ¬ p j := by
   refine Classical.byContradiction fun hc => h fun j hj => Classical.byContradiction fun hp => hc ⟨j, hj, hp⟩
  -- the first one
  obtain ⟨j, hj, hp, hmin⟩ : ∃ j, j < n ∧ ¬ p j ∧ ∀ i, i < j → p i := by
   obtain ⟨j, hj⟩ := h1
   induction j using Nat.strongRecOn with
   | ind j ih =>
    by_cases g : ∀ i, i < j → p i
    ·exact ⟨j, hj.1, hj.2, g⟩
    ·have : ∃ i, i < j ∧ ¬ p i := Classical.byContradiction fun hc => g fun i hi => Classical.byContradiction fun hp => hc ⟨i, hi, hp⟩
     obtain ⟨i, hi, hpi⟩ := this
     exact ih i hi ⟨by omega, hpi⟩
  exact ym s j bad hx (fun i hi => hs i (by omega) (hmin i hi)) (hf j hj hp) (by omega)
theorem zU {α β : Type} {l : List α} {j : Int} {n : Nat} {x : α} {k : α → Option β} (hj : j = n) (h : l[n]? = some x) : ix l j k = k x := by
 subst hj; exact ix_pos h
theorem zZ {α : Type} {l : List α} {n : Nat} (h : n < l.length) : l[n]? = some l[n] := List.getElem?_eq_getElem h
theorem z3 {α : Type} {l : List α} {n : Nat} {x : α} (h : l[n]? = some x) : n < l.length := by
 rcases Nat.lt_or_ge n l.length with g | g
 ·exact g
 ·rw [List.getElem?_eq_none g] at h; cases h
theorem yo {α : Type} {l : List α} {n : Nat} {x : α} (h : l[n]? = some x) : l.take (n + 1) = l.take n ++ [x] := by
 rw [List.take_add_one, h]; rfl
end Go.Hx.V

namespace Go.Hx.V
open Go.Hx
def lI (T f g m : Int) (x y : Int × (Nat → Int)) : Option ((Int × (Nat → Int)) ⊕ (Nat → Int)) :=
 (bif (decide (y.1 < T)) then (ck (0 ≤ g ∧ g < 13) ((ck (0 ≤ y.1 ∧ y.1 < 13) ((ck (rng (((x.2 (((Int.toNat x.1) * 13) + (Int.toNat f))) + m) + (y.2 (((Int.toNat g) * 13) + (Int.toNat y.1))))) ((ck (0 ≤ x.1 ∧ x.1 < 13) ((ck (0 ≤ y.1 ∧ y.1 < 13) ((bif (decide ((((x.2 (((Int.toNat x.1) * 13) + (Int.toNat f))) + m) + (y.2 (((Int.toNat g) * 13) + (Int.toNat y.1)))) < (y.2 (((Int.toNat x.1) * 13) + (Int.toNat y.1))))) then (ck (0 ≤ x.1 ∧ x.1 < 13) ((ck (0 ≤ y.1 ∧ y.1 < 13) ((ck (rng (y.1 + (1 : Int))) (some (.inl ((y.1 + (1 : Int)), (ups y.2 (((Int.toNat x.1) * 13) + (Int.toNat y.1)) (((x.2 (((Int.toNat x.1) * 13) + (Int.toNat f))) + m) + (y.2 (((Int.toNat g) * 13) + (Int.toNat y.1))))))))))))) else (ck (rng (y.1 + (1 : Int))) (some (.inl ((y.1 + (1 : Int)), y.2))))))))))))))) else some (.inr y.2))
def lO (N : Nat) (T f g m : Int) (x : Int × (Nat → Int)) : Option ((Int × (Nat → Int)) ⊕ (Nat → Int)) :=
 (bif (decide (x.1 < T)) then (ck (0 ≤ x.1 ∧ x.1 < 13) ((ck (0 ≤ f ∧ f < 13) ((ck (rng ((x.2 (((Int.toNat x.1) * 13) + (Int.toNat f))) + m)) ((ck (0 ≤ x.1 ∧ x.1 < 13) ((ck (0 ≤ g ∧ g < 13) ((bif (decide ((x.2 (((Int.toNat x.1) * 13) + (Int.toNat g))) ≤ ((x.2 (((Int.toNat x.1) * 13) + (Int.toNat f))) + m))) then (ck (rng (x.1 + (1 : Int))) (some (.inl ((x.1 + (1 : Int)), x.2)))) else bnd (iter (lI T f g m x) N ((0 : Int), x.2)) (fun y133 => (ck (rng (x.1 + (1 : Int))) (some (.inl ((x.1 + (1 : Int)), y133)))))))))))))))) else some (.inr x.2))
theorem toN (a : Nat) : Int.toNat (a : Int) = a := Int.toNat_natCast a
theorem dv {a b : Nat} (h : b < 13) : (a * 13 + b) / 13 = a := by omega
theorem md {a b : Nat} (h : b < 13) : (a * 13 + b) % 13 = b := by omega
def rowR (i f g : Nat) (m : Int) (F : Nat → Int) (j : Nat) : Nat → Int := fun q => if q / 13 = i ∧ q % 13 < j then min (F q) (F (i * 13 + f) + m + F (g * 13 + q % 13)) else F q
theorem lI_run {n i f g N : Nat} {m : Int} {F : Nat → Int} (hn : n ≤ 12) (hi : i ≤ n) (hf : f ≤ n) (hg : g ≤ n) (hne : g ≠ i) (hb : ∀ j, j ≤ n → rng (F (i * 13 + f) + m + F (g * 13 + j))) (hN : n + 1 < N) :
  iter (lI ((n : Int) + 1) f g m ((i : Int), F)) N ((0 : Int), F) = some (rowR i f g m F (n + 1)) := by
 refine ym (fun j => ((j : Int), rowR i f g m F j)) (n + 1) _ ?_ (fun j hj => ?_) ?_ hN
 ·refine Prod.ext rfl ?_
  funext q
  unfold rowR
  dsimp only
  rw [if_neg (by omega)]
 ·have e1 : rowR i f g m F j (g * 13 + j) = F (g * 13 + j) := by unfold rowR; rw [if_neg (by omega)]
  have e2 : rowR i f g m F j (i * 13 + j) = F (i * 13 + j) := by unfold rowR; rw [if_neg (by omega)]
  unfold lI
  simp only [toN]
  rw [show decide ((j : Int) < (n : Int) + 1) = true from decide_eq_true (by omega), cond_true, zr (by omega), zr (by omega), e1, e2, zr (hb j (by omega)), zr (by omega), zr (by omega)]
  have hr : rng ((j : Int) + 1) := by unfold rng; omega
  by_cases hc : F (i * 13 + f) + m + F (g * 13 + j) < F (i * 13 + j)
  ·rw [decide_eq_true hc, cond_true, zr (by omega), zr (by omega), zr hr]
   congr 3
   funext q
   unfold ups rowR
   by_cases hq : q = i * 13 + j
   ·subst hq
    rw [if_pos rfl, if_pos (by omega), md (by omega)]; omega
   ·rw [if_neg hq]
    by_cases h1 : q / 13 = i ∧ q % 13 < j
    ·rw [if_pos h1, if_pos (by omega)]
    ·rw [if_neg h1, if_neg (by omega)]
  ·rw [decide_eq_false hc, cond_false, zr hr]
   congr 3
   funext q
   unfold rowR
   by_cases hq : q = i * 13 + j
   ·subst hq
    rw [if_neg (by omega), if_pos (by omega), md (by omega)]; omega
   ·by_cases h1 : q / 13 = i ∧ q % 13 < j
    ·rw [if_pos h1, if_pos (by omega)]
    ·rw [if_neg h1, if_neg (by omega)]
 ·unfold lI
  dsimp only
  rw [show decide (((n + 1 : Nat) : Int) < (n : Int) + 1) = false from decide_eq_false (by omega), cond_false]
structure Gd (n : Nat) (F : Nat → Int) : Prop where
 tri : ∀ i j k, i ≤ n → j ≤ n → k ≤ n → F (i * 13 + k) ≤ F (i * 13 + j) + F (j * 13 + k)
 dg : ∀ i, i ≤ n → F (i * 13 + i) = 0
 ub : ∀ i j, i ≤ n → j ≤ n → F (i * 13 + j) ≤ 4000
theorem Gd.lb {n : Nat} {F : Nat → Int} (h : Gd n F) {i j : Nat} (hi : i ≤ n) (hj : j ≤ n) : -4000 ≤ F (i * 13 + j) := by
 have := h.tri i j i hi hj hi
 have := h.dg i hi
 have := h.ub j i hj hi
 omega
def rowS (n f g : Nat) (m : Int) (F : Nat → Int) (k : Nat) : Nat → Int := fun q => if q / 13 < k ∧ q % 13 ≤ n then min (F q) (F (q / 13 * 13 + f) + m + F (g * 13 + q % 13)) else F q
theorem Yh {n f g N : Nat} {m : Int} {F : Nat → Int} (hn : n ≤ 12) (hf : f ≤ n) (hg : g ≤ n) (h : Gd n F) (hm : -1000000 ≤ m ∧ m ≤ 1000000) (hc : 0 ≤ m + F (g * 13 + f)) (hN : n + 1 < N) :
  iter (lO N ((n : Int) + 1) f g m) N ((0 : Int), F) = some (rowS n f g m F (n + 1)) := by
 refine ym (fun k => ((k : Int), rowS n f g m F k)) (n + 1) _ ?_ (fun k hk => ?_) ?_ hN
 ·refine Prod.ext rfl ?_
  funext q
  unfold rowS
  dsimp only
  rw [if_neg (by omega)]
 ·have e1 : ∀ j, j ≤ n → rowS n f g m F k (k * 13 + j) = F (k * 13 + j) := fun j hj => by unfold rowS; rw [if_neg (by omega)]
  have e2 : ∀ j, j ≤ n → rowS n f g m F k (g * 13 + j) = F (g * 13 + j) := fun j hj => by
   unfold rowS
   split
   ·rw [dv (by omega), md (by omega)]; omega
   ·rfl
  have b1 := h.ub k f (by omega) hf
  have b2 := h.lb (i := k) (j := f) (by omega) hf
  unfold lO
  simp only [toN]
  rw [show decide ((k : Int) < (n : Int) + 1) = true from decide_eq_true (by omega), cond_true, zr (by omega), zr (by omega), e1 f hf, e1 g hg, zr (by unfold rng; omega), zr (by omega), zr (by omega)]
  have hr : rng ((k : Int) + 1) := by unfold rng; omega
  by_cases hs : F (k * 13 + g) ≤ F (k * 13 + f) + m
  ·rw [decide_eq_true hs, cond_true, zr hr]
   congr 3
   funext q
   unfold rowS
   by_cases h1 : q / 13 < k ∧ q % 13 ≤ n
   ·rw [if_pos h1, if_pos (by omega)]
   ·rw [if_neg h1]
    by_cases h2 : q / 13 = k ∧ q % 13 ≤ n
    ·rw [if_pos (by omega)]
     have t := h.tri k g (q % 13) (by omega) hg h2.2
     rw [h2.1]
     have e : F q = F (k * 13 + q % 13) := congrArg F (by omega)
     rw [e]; omega
    ·rw [if_neg (by omega)]
  ·have hne : g ≠ k := fun e => by
    subst e
    have := h.dg g hg
    omega
   rw [decide_eq_false hs, cond_false, lI_run hn (by omega) hf hg hne (fun j hj => by
    rw [e1 f hf, e2 j hj]
    have := h.ub g j hg hj
    have := h.lb (i := g) (j := j) hg hj
    unfold rng; omega) hN, zi, zr hr]
   congr 3
   funext q
   unfold rowR
   by_cases h2 : q / 13 = k ∧ q % 13 < n + 1
   ·rw [if_pos h2, e1 f hf, e2 (q % 13) (by omega)]
    unfold rowS
    rw [if_neg (by omega), if_pos (by omega), h2.1]
   ·rw [if_neg h2]
    unfold rowS
    by_cases h1 : q / 13 < k ∧ q % 13 ≤ n
    ·rw [if_pos h1, if_pos (by omega)]
    ·rw [if_neg h1, if_neg (by omega)]
 ·unfold lO
  dsimp only
  rw [show decide (((n + 1 : Nat) : Int) < (n : Int) + 1) = false from decide_eq_false (by omega), cond_false]
def AllP {α : Type} (p : α → Prop) (l : List α) : Prop := ∀ x, x ∈ l → p x
theorem vu {α ε : Type} {bad : ε} {step : Int → Option (Int ⊕ (ε ⊕ Unit))} {l : List α} {p : α → Prop} [DecidablePred p] {N : Nat} (hN : l.length < N)
  (hs : ∀ (j : Nat) z, l[j]? = some z → p z → step (j : Int) = some (.inl ((j : Int) + 1)))
  (hf : ∀ (j : Nat) z, l[j]? = some z → ¬ p z → step (j : Int) = some (.inr (.inl bad)))
  (he : step (l.length : Int) = some (.inr (.inr ()))) : (AllP p l ∧ iter step N 0 = some (.inr ())) ∨ (¬ AllP p l ∧ iter step N 0 = some (.inl bad)) := by
 have H : ((∀ j, j < l.length → ∀ z, l[j]? = some z → p z) ∧ iter step N (0 : Int) = some (.inr ())) ∨ (¬ (∀ j, j < l.length → ∀ z, l[j]? = some z → p z) ∧ iter step N (0 : Int) = some (.inl bad)) := by
  haveI : DecidablePred fun (j : Nat) => ∀ z, l[j]? = some z → p z := fun j => Classical.propDecidable _
  refine j3 (fun j => (j : Int)) l.length (fun j => ∀ z, l[j]? = some z → p z) (Sum.inr () : ε ⊕ Unit) (Sum.inl bad : ε ⊕ Unit) rfl (fun j hj hp => ?_) (fun j hj hp => ?_) he hN
  ·obtain ⟨z, hz⟩ : ∃ z, l[j]? = some z := ⟨_, zZ hj⟩
   exact hs j z hz (hp z hz)
  ·obtain ⟨z, hz⟩ : ∃ z, l[j]? = some z := ⟨_, zZ hj⟩
   exact hf j z hz fun q => hp fun z' hz' => by rw [hz] at hz'; cases hz'; exact q
 rcases H with ⟨h1, h2⟩ | ⟨h1, h2⟩
 ·refine .inl ⟨fun x hx => ?_, h2⟩
  obtain ⟨j, hj, rfl⟩ := List.getElem_of_mem hx
  exact h1 j hj _ (zZ hj)
 ·exact .inr ⟨fun q => h1 fun j hj z hz => q z (List.mem_of_getElem? hz), h2⟩
instance {α : Type} {p : α → Prop} [DecidablePred p] {l : List α} : Decidable (AllP p l) := inferInstanceAs (Decidable (∀ x, x ∈ l → p x))
theorem sL {α β γ : Type} {f : α → Option γ} {g : β → Option γ} {x : α} : sel f g (.inl x) = f x := rfl
theorem sR {α β γ : Type} {f : α → Option γ} {g : β → Option γ} {x : β} : sel f g (.inr x) = g x := rfl
theorem vm {n f g i j : Nat} {m : Int} {F : Nat → Int} (hn : n ≤ 12) (h1 : i ≤ n) (h2 : j ≤ n) : rowS n f g m F (n + 1) (i * 13 + j) = min (F (i * 13 + j)) (F (i * 13 + f) + m + F (g * 13 + j)) := by
 unfold rowS
 rw [if_pos (by omega), dv (by omega), md (by omega)]
theorem gd_lim {n f g : Nat} {m : Int} {F : Nat → Int} (hn : n ≤ 12) (h : Gd n F) (hf : f ≤ n) (hg : g ≤ n) (hm : 0 ≤ m + F (g * 13 + f)) : Gd n (rowS n f g m F (n + 1)) := by
 refine ⟨fun i j k hi hj hk => ?_, fun i hi => ?_, fun i j hi hj => ?_⟩
 ·rw [vm hn hi hk, vm hn hi hj, vm hn hj hk]
  have := h.tri i j k hi hj hk
  have := h.tri i j f hi hj hf
  have := h.tri g j k hg hj hk
  have := h.tri g j f hg hj hf
  omega
 ·rw [vm hn hi hi, h.dg i hi]
  have := h.tri g i f hg hi hf
  omega
 ·rw [vm hn hi hj]
  have := h.ub i j hi hj
  omega
def SatF (n : Nat) (F : Nat → Int) (p : Nat → Int) : Prop := ∀ i j, i ≤ n → j ≤ n → p j - p i ≤ F (i * 13 + j)
theorem YH {n f g : Nat} {m : Int} {F p : Nat → Int} (hn : n ≤ 12) (h : Gd n F) (hf : f ≤ n) (hg : g ≤ n) : SatF n (rowS n f g m F (n + 1)) p ↔ SatF n F p ∧ p g - p f ≤ m := by
 refine ⟨fun hs => ⟨fun i j hi hj => ?_, ?_⟩, fun ⟨h1, h2⟩ i j hi hj => ?_⟩
 ·have := hs i j hi hj
  rw [vm hn hi hj] at this; omega
 ·have := hs f g hf hg
  rw [vm hn hf hg, h.dg f hf, h.dg g hg] at this; omega
 ·have a1 := h1 i j hi hj
  have a2 := h1 i f hi hf
  have a3 := h1 g j hg hj
  rw [vm hn hi hj]; omega
theorem iter_s {α β : Type} {step : α → Option (α ⊕ β)} {x x' : α} {M : Nat} (h : step x = some (.inl x')) : iter step (M + 1) x = iter step M x' := by
 conv => lhs; unfold iter
 rw [h]; rfl
theorem j0 {α β : Type} {step : α → Option (α ⊕ β)} {x : α} {y : β} {M : Nat} (h : step x = some (.inr y)) : iter step (M + 1) x = some y := by
 unfold iter
 rw [h]; rfl
theorem ug {n : Nat} {F : Nat → Int} (h : Gd n F) : SatF n F fun j => -F (j * 13 + 0) := fun i j hi hj => by
 have := h.tri i j 0 hi hj (Nat.zero_le _)
 show -F (j * 13 + 0) - -F (i * 13 + 0) ≤ _
 omega
theorem Xz {n : Nat} {F : Nat → Int} (h : Gd n F) : SatF n F fun j => F (0 * 13 + j) := fun i j hi hj => by
 have := h.tri 0 i j (Nat.zero_le _) hi hj
 show F (0 * 13 + j) - F (0 * 13 + i) ≤ _
 omega
end Go.Hx.V

namespace Go.Hx.V
open Go.Hx
abbrev Ba := Int × Int × List (Int × Int)
def OffOk (r : Int × Int) : Prop := -100 ≤ r.1 ∧ r.1 ≤ r.2 ∧ r.2 ≤ 100
instance : DecidablePred OffOk := fun r => inferInstanceAs (Decidable (_ ∧ _))
def RdOk (m : Nat) (r : Int × Int) : Prop := (0 ≤ r.1 ∧ r.1 < (m : Int)) ∧ -1000 ≤ r.2 ∧ r.2 ≤ 2000
instance {m : Nat} : DecidablePred (RdOk m) := fun r => inferInstanceAs (Decidable (_ ∧ _))
def Once (l : List (Int × Int)) : Prop := ∀ (i j : Nat) (a b : Int × Int), i < j → l[i]? = some a → l[j]? = some b → a.1 ≠ b.1
def HtOk (a b : Int) : Prop := 0 ≤ a ∧ a ≤ b ∧ b ≤ 1000
def BathOk (m : Nat) (b : Ba) : Prop := HtOk b.1 b.2.1 ∧ AllP (RdOk m) b.2.2 ∧ Once b.2.2
def SerOk (off : List (Int × Int)) (er : Int) (B : List Ba) : Prop := (1 ≤ off.length ∧ off.length ≤ 6) ∧ AllP OffOk off ∧ (0 ≤ er ∧ er ≤ 20) ∧ B.length ≤ 6 ∧ AllP (BathOk off.length) B
theorem s123 {N : Nat} {p q a b : Int} : sf123 N p q a b = some (decide (a ≤ p ∧ p ≤ q ∧ q ≤ b)) := by
 unfold sf123
 by_cases h1 : a ≤ p
 ·rw [decide_eq_true h1, cond_true]
  by_cases h2 : p ≤ q
  ·rw [decide_eq_true h2, cond_true]
   congr 1
   by_cases h3 : q ≤ b
   ·rw [decide_eq_true h3, decide_eq_true ⟨h1, h2, h3⟩]
   ·rw [decide_eq_false h3, decide_eq_false (fun h => h3 h.2.2)]
  ·rw [decide_eq_false h2, cond_false, decide_eq_false (fun h => h2 h.2.1)]
 ·rw [decide_eq_false h1, cond_false, decide_eq_false (fun h => h1 h.1)]
theorem s99 {N : Nat} {z : Int × Int} : sf99 N z.1 z.2 = some (decide (OffOk z)) := by
 unfold sf99; rw [s123, zi]; rfl
theorem s113 {N : Nat} {a b : Int} : sf113 N a b = some (decide (0 ≤ a ∧ a ≤ b ∧ b ≤ 1000)) := by
 unfold sf113; rw [s123, zi]
theorem s98 {N : Nat} {l : List (Int × Int)} (h : l.length ≤ 100) (hN : 1000 ≤ N) : (AllP OffOk l ∧ sf98 N l = some true) ∨ (¬ AllP OffOk l ∧ sf98 N l = some false) := by
 unfold sf98
 rcases vu (step := sf98_L1 N l) (l := l) (p := OffOk) (N := N) (by omega) (by
   intro j z hz hp
   have := z3 hz
   unfold sf98_L1
   rw [decide_eq_true (by omega), cond_true, zU rfl hz, s99, zi, decide_eq_true hp, Bool.not_true, cond_false, zr (by unfold rng; omega)]) (by
   intro j z hz hp
   have := z3 hz
   unfold sf98_L1
   rw [decide_eq_true (by omega), cond_true, zU rfl hz, s99, zi, decide_eq_false hp]
   rfl) (by
   unfold sf98_L1
   rw [decide_eq_false (by omega), cond_false]) with ⟨hA, e⟩ | ⟨hA, e⟩
 ·exact .inl ⟨hA, by rw [e, zi]; rfl⟩
 ·exact .inr ⟨hA, by rw [e, zi]; rfl⟩
section
variable {off : List (Int × Int)} {er : Int} {B : List Ba} {N : Nat}
theorem s77 {a : Int} : sf77 N off er B a = some (decide (0 ≤ a ∧ a < (off.length : Int))) := by
 unfold sf77
 by_cases h1 : 0 ≤ a
 ·rw [decide_eq_true h1, cond_true]
  congr 1
  by_cases h2 : a < (off.length : Int)
  ·rw [decide_eq_true h2, decide_eq_true ⟨h1, h2⟩]
  ·rw [decide_eq_false h2, decide_eq_false (fun h => h2 h.2)]
 ·rw [decide_eq_false h1, cond_false, decide_eq_false (fun h => h1 h.1)]
theorem s125 {r : Int × Int} : sf125 N off er B r.1 r.2 = some (decide (RdOk off.length r)) := by
 unfold sf125
 rw [s77, zi]
 by_cases h1 : 0 ≤ r.1 ∧ r.1 < (off.length : Int)
 ·rw [decide_eq_true h1, cond_true]
  by_cases h2 : -1000 ≤ r.2
  ·rw [decide_eq_true h2, cond_true]
   congr 1
   by_cases h3 : r.2 ≤ 2000
   ·rw [decide_eq_true h3, decide_eq_true (show RdOk off.length r from ⟨h1, h2, h3⟩)]
   ·rw [decide_eq_false h3, decide_eq_false (show ¬ RdOk off.length r from fun h => h3 h.2.2)]
  ·rw [decide_eq_false h2, cond_false, decide_eq_false (show ¬ RdOk off.length r from fun h => h2 h.2.1)]
 ·rw [decide_eq_false h1, cond_false, decide_eq_false (show ¬ RdOk off.length r from fun h => h1 h.1)]
theorem s124 {l : List (Int × Int)} (h : l.length ≤ 100) (hN : 1000 ≤ N) : (AllP (RdOk off.length) l ∧ sf124 N l off er B = some true) ∨ (¬ AllP (RdOk off.length) l ∧ sf124 N l off er B = some false) := by
 unfold sf124
 rcases vu (step := sf124_L1 N l off er B) (l := l) (p := RdOk off.length) (N := N) (by omega) (by
   intro j z hz hp
   have := z3 hz
   unfold sf124_L1
   rw [decide_eq_true (by omega), cond_true, zU rfl hz, s125, zi, decide_eq_true hp, Bool.not_true, cond_false, zr (by unfold rng; omega)]) (by
   intro j z hz hp
   have := z3 hz
   unfold sf124_L1
   rw [decide_eq_true (by omega), cond_true, zU rfl hz, s125, zi, decide_eq_false hp]
   rfl) (by
   unfold sf124_L1
   rw [decide_eq_false (by omega), cond_false]) with ⟨hA, e⟩ | ⟨hA, e⟩
 ·exact .inl ⟨hA, by rw [e, zi]; rfl⟩
 ·exact .inr ⟨hA, by rw [e, zi]; rfl⟩
noncomputable def met (l : List (Int × Int)) (j : Nat) : Int → Option Bool := open Classical in fun k => if ∃ i a, i < j ∧ l[i]? = some a ∧ a.1 = k then some true else none
theorem s126 {a b : Int} {l : List (Int × Int)} (h : l.length ≤ 100) (hN : 1000 ≤ N) : (Once l ∧ sf126 N a b l = some true) ∨ (¬ Once l ∧ sf126 N a b l = some false) := by
 classical
 unfold sf126
 obtain ⟨y, e, hy⟩ := jZ (step := sf126_L1 l) (fun x => ∃ j : Nat, j ≤ l.length ∧ x = ((j : Int), met l j) ∧ ∀ (i k : Nat) (a b : Int × Int), i < k → k < j → l[i]? = some a → l[k]? = some b → a.1 ≠ b.1) (fun x => l.length - x.1.toNat)
  (fun y => (∃ m, y = .inl m ∧ ¬ Once l) ∨ (∃ m, y = .inr m ∧ Once l)) (by
   rintro x ⟨j, hj, rfl, ho⟩
   by_cases hlt : j < l.length
   ·obtain ⟨z, hz⟩ : ∃ z, l[j]? = some z := ⟨_, zZ hlt⟩
    by_cases hm : ∃ i a, i < j ∧ l[i]? = some a ∧ a.1 = z.1
    ·refine .inr ⟨.inl (met l j), ?_, .inl ⟨_, rfl, fun hO => ?_⟩⟩
     ·unfold sf126_L1
      rw [decide_eq_true (by simpa using hlt), cond_true, zU rfl hz]
      have : met l j z.1 = some true := by unfold met; rw [if_pos hm]
      dsimp only
      rw [this]; rfl
     ·obtain ⟨i, a, h1, h2, h3⟩ := hm
      exact hO i j a z h1 h2 hz h3
    ·refine .inl ⟨(((j + 1 : Nat) : Int), met l (j + 1)), ?_, ⟨j + 1, by omega, rfl, fun i k a b h1 h2 h3 h4 => ?_⟩, by simp; omega⟩
     ·unfold sf126_L1
      rw [decide_eq_true (by simpa using hlt), cond_true, zU rfl hz]
      have : met l j z.1 = none := by unfold met; rw [if_neg hm]
      dsimp only
      rw [this, show Option.getD (none : Option Bool) false = false from rfl, cond_false, zr (by unfold rng; omega)]
      have e2 : upm (met l j) z.1 true = met l (j + 1) := by
       funext k
       unfold upm met
       by_cases hk : k = z.1
       ·rw [if_pos hk, if_pos ⟨j, z, by omega, hz, hk.symm⟩]
       ·rw [if_neg hk]
        by_cases g : ∃ i a, i < j ∧ l[i]? = some a ∧ a.1 = k
        ·obtain ⟨i, a, g1, g2, g3⟩ := g
         rw [if_pos ⟨i, a, g1, g2, g3⟩, if_pos ⟨i, a, by omega, g2, g3⟩]
        ·rw [if_neg g, if_neg]
         rintro ⟨i, a, g1, g2, g3⟩
         by_cases e : i = j
         ·subst e; rw [hz] at g2; cases g2; exact hk g3.symm
         ·exact g ⟨i, a, by omega, g2, g3⟩
      rw [e2]; rfl
     ·by_cases e : k = j
      ·subst e; rw [hz] at h4; cases h4
       exact fun h5 => hm ⟨i, a, h1, h3, h5⟩
      ·exact ho i k a b h1 (by omega) h3 h4
   ·have e : j = l.length := by omega
    subst e
    refine .inr ⟨.inr (met l l.length), ?_, .inr ⟨_, rfl, fun i k a b h1 h3 h4 => ho i k a b h1 (z3 h4) h3 h4⟩⟩
    unfold sf126_L1
    rw [decide_eq_false (by simp), cond_false]) N ((0 : Int), (fun _ => none)) ⟨0, by omega, by
    refine Prod.ext rfl ?_
    funext k
    unfold met
    dsimp only
    rw [if_neg]
    rintro ⟨i, a, h1, _⟩; omega, fun i k a b h1 h2 => by omega⟩ (by simp; omega)
 rw [e, zi]
 rcases hy with ⟨m, rfl, h⟩ | ⟨m, rfl, h⟩
 ·exact .inr ⟨h, rfl⟩
 ·exact .inl ⟨h, rfl⟩
theorem s101 {b : Ba} (h : b.2.2.length ≤ 100) (hN : 1000 ≤ N) : (BathOk off.length b ∧ sf101 N off er B b.1 b.2.1 b.2.2 = some true) ∨ (¬ BathOk off.length b ∧ sf101 N off er B b.1 b.2.1 b.2.2 = some false) := by
 unfold sf101
 rw [s113, zi]
 by_cases h1 : HtOk b.1 b.2.1
 ·rw [decide_eq_true (p := 0 ≤ b.1 ∧ b.1 ≤ b.2.1 ∧ b.2.1 ≤ 1000) h1, cond_true]
  rcases s124 (off := off) (er := er) (B := B) h hN with ⟨h2, e⟩ | ⟨h2, e⟩
  ·rw [e, zi, cond_true]
   rcases s126 (a := b.1) (b := b.2.1) h hN with ⟨h3, e⟩ | ⟨h3, e⟩
   ·rw [e, zi]; exact .inl ⟨⟨h1, h2, h3⟩, rfl⟩
   ·rw [e, zi]; exact .inr ⟨fun g => h3 g.2.2, rfl⟩
  ·rw [e, zi, cond_false]; exact .inr ⟨fun g => h2 g.2.1, rfl⟩
 ·rw [decide_eq_false (p := 0 ≤ b.1 ∧ b.1 ≤ b.2.1 ∧ b.2.1 ≤ 1000) h1, cond_false]
  exact .inr ⟨fun g => h1 g.1, rfl⟩
def Short (B : List Ba) : Prop := ∀ b, b ∈ B → b.2.2.length ≤ 100
theorem s100 {C : List Ba} (h : C.length ≤ 100) (hs : Short C) (hN : 1000 ≤ N) : (AllP (BathOk off.length) C ∧ sf100 N C off er B = some true) ∨ (¬ AllP (BathOk off.length) C ∧ sf100 N C off er B = some false) := by
 classical
 unfold sf100
 rcases vu (step := sf100_L1 N C off er B) (l := C) (p := BathOk off.length) (N := N) (by omega) (by
   intro j z hz hp
   have := z3 hz
   unfold sf100_L1
   rw [decide_eq_true (by omega), cond_true, zU rfl hz]
   rcases s101 (off := off) (er := er) (B := B) (hs z (List.mem_of_getElem? hz)) hN with ⟨_, e⟩ | ⟨g, _⟩
   ·rw [e, zi, Bool.not_true, cond_false, zr (by unfold rng; omega)]
   ·exact absurd hp g) (by
   intro j z hz hp
   have := z3 hz
   unfold sf100_L1
   rw [decide_eq_true (by omega), cond_true, zU rfl hz]
   rcases s101 (off := off) (er := er) (B := B) (hs z (List.mem_of_getElem? hz)) hN with ⟨g, _⟩ | ⟨_, e⟩
   ·exact absurd g hp
   ·rw [e, zi]; rfl) (by
   unfold sf100_L1
   rw [decide_eq_false (by omega), cond_false]) with ⟨hA, e⟩ | ⟨hA, e⟩
 ·exact .inl ⟨hA, by rw [e, zi]; rfl⟩
 ·exact .inr ⟨hA, by rw [e, zi]; rfl⟩
theorem s69 (h1 : off.length ≤ 6) (h2 : B.length ≤ 6) (hs : Short B) (hN : 1000 ≤ N) : (SerOk off er B ∧ sf69 N off er B = some true) ∨ (¬ SerOk off er B ∧ sf69 N off er B = some false) := by
 unfold sf69
 by_cases c1 : (0 : Int) < (off.length : Int)
 ·rw [decide_eq_true c1, cond_true]
  rcases s98 (l := off) (N := N) (by omega) hN with ⟨c2, e⟩ | ⟨c2, e⟩
  ·rw [e, zi, cond_true]
   by_cases c3 : 0 ≤ er
   ·rw [decide_eq_true c3, cond_true]
    by_cases c4 : er ≤ 20
    ·rw [decide_eq_true c4, cond_true]
     rcases s100 (off := off) (er := er) (B := B) (C := B) (by omega) hs hN with ⟨c5, e⟩ | ⟨c5, e⟩
     ·rw [e, zi]; exact .inl ⟨⟨⟨by omega, h1⟩, c2, ⟨c3, c4⟩, h2, c5⟩, rfl⟩
     ·rw [e, zi]; exact .inr ⟨fun g => c5 g.2.2.2.2, rfl⟩
    ·rw [decide_eq_false c4, cond_false]; exact .inr ⟨fun g => c4 g.2.2.1.2, rfl⟩
   ·rw [decide_eq_false c3, cond_false]; exact .inr ⟨fun g => c3 g.2.2.1.1, rfl⟩
  ·rw [e, zi, cond_false]; exact .inr ⟨fun g => c2 g.2.1, rfl⟩
 ·rw [decide_eq_false c1, cond_false]; exact .inr ⟨fun g => c1 (by have := g.1.1; omega), rfl⟩
noncomputable def code (off : List (Int × Int)) (er : Int) (B : List Ba) : Int := open Classical in if 6 < off.length ∨ 6 < B.length then 3 else if SerOk off er B then 0 else 1
theorem jv (h : SerOk off er B) : code off er B = 0 := by
 unfold code
 rw [if_neg (by have := h.1; have := h.2.2.2.1; omega), if_pos h]
theorem kD (h : code off er B = 0) : SerOk off er B := by
 unfold code at h
 split at h
 ·cases h
 ·split at h
  ·assumption
  ·cases h
theorem s21 (hs : Short B) (hN : 1000 ≤ N) : sf21 N off er B = some (code off er B) := by
 unfold sf21 code
 by_cases c1 : (6 : Int) < (off.length : Int)
 ·rw [decide_eq_true c1, if_pos (.inl (by omega))]; rfl
 ·rw [decide_eq_false c1, cond_false, zi]
  by_cases c2 : (6 : Int) < (B.length : Int)
  ·rw [decide_eq_true c2, if_pos (.inr (by omega))]; rfl
  ·rw [decide_eq_false c2, cond_false, if_neg (by omega)]
   rcases s69 (off := off) (er := er) (B := B) (by omega) (by omega) hs hN with ⟨c, e⟩ | ⟨c, e⟩
   ·rw [e, zi, if_pos c]; rfl
   ·rw [e, zi, if_neg c]; rfl
end
end Go.Hx.V

namespace Go.Hx.V
open Go.Hx
def stand (off : List (Int × Int)) (B : List Ba) : List (Int × Int) := [((0 : Int), (0 : Int))] ++ off ++ B.map fun b => (-b.2.1, -b.1)
theorem uW {off : List (Int × Int)} {B : List Ba} : (stand off B).length = 1 + off.length + B.length := by unfold stand; simp; omega
def StOk (r : Int × Int) : Prop := -1000 ≤ r.1 ∧ r.1 ≤ r.2 ∧ r.2 ≤ 100
section
variable {off : List (Int × Int)} {er : Int} {B : List Ba} {N : Nat}
theorem Xb (h : SerOk off er B) : AllP StOk (stand off B) := by
 intro r hr
 unfold stand at hr
 rcases List.mem_append.1 hr with hr | hr
 ·rcases List.mem_append.1 hr with hr | hr
  ·rw [List.mem_singleton.1 hr]; exact ⟨by decide, by decide, by decide⟩
  ·have := h.2.1 r hr
   unfold OffOk at this
   unfold StOk; omega
 ·obtain ⟨b, hb, rfl⟩ := List.mem_map.1 hr
  have := (h.2.2.2.2 b hb).1
  unfold HtOk at this
  unfold StOk
  dsimp only
  omega
def farF (st : List (Int × Int)) (i j : Nat) : Int := if i = j then 0 else ((st[j]?).getD (0, 0)).2 - ((st[i]?).getD (0, 0)).1
def uG (st : List (Int × Int)) (i j : Nat) : Nat → Int := fun q => if q / 13 < st.length ∧ q % 13 < st.length ∧ (q / 13 < i ∨ (q / 13 = i ∧ q % 13 < j)) then farF st (q / 13) (q % 13) else 0
theorem u_in1 {st : List (Int × Int)} {i : Nat} {x : Int × Int} (hl : st.length ≤ 13) (hx : st[i]? = some x) (hs : AllP StOk st) (hN : 1000 ≤ N) :
  iter (sf107_L2 st ((i : Int), uG st i 0) x) N ((0 : Int), uG st i 0) = some (uG st i st.length) := by
 have hi := z3 hx
 have hxs := hs x (List.mem_of_getElem? hx)
 unfold StOk at hxs
 refine ym (fun j => ((j : Int), uG st i j)) st.length _ rfl (fun j hj => ?_) ?_ (by omega)
 ·obtain ⟨z, hz⟩ : ∃ z, st[j]? = some z := ⟨_, zZ hj⟩
  have hzs := hs z (List.mem_of_getElem? hz)
  unfold StOk at hzs
  unfold sf107_L2
  dsimp only
  rw [decide_eq_true (by omega), cond_true, zU rfl hz]
  by_cases e : i = j
  ·subst e
   rw [decide_eq_true (p := (i : Int) = (i : Int)) rfl, Bool.not_true, cond_false, zr (by unfold rng; omega)]
   congr 3
   funext q
   unfold uG
   by_cases h1 : q / 13 < st.length ∧ q % 13 < st.length ∧ (q / 13 < i ∨ (q / 13 = i ∧ q % 13 < i))
   ·rw [if_pos h1, if_pos (by omega)]
   ·rw [if_neg h1]
    by_cases h2 : q / 13 = i ∧ q % 13 = i
    ·rw [if_pos (by omega), h2.1, h2.2]; unfold farF; rw [if_pos rfl]
    ·rw [if_neg (by omega)]
  ·rw [decide_eq_false (p := (i : Int) = (j : Int)) (by omega), Bool.not_false, cond_true, zr (by unfold rng; omega), zr (by omega), zr (by omega), zr (by unfold rng; omega)]
   congr 3
   funext q
   unfold ups uG
   simp only [toN]
   by_cases hq : q = i * 13 + j
   ·subst hq
    rw [if_pos rfl, if_pos (by rw [dv (by omega), md (by omega)]; omega), dv (by omega), md (by omega)]
    unfold farF
    rw [if_neg e, hz, hx]; rfl
   ·rw [if_neg hq]
    by_cases h1 : q / 13 < st.length ∧ q % 13 < st.length ∧ (q / 13 < i ∨ (q / 13 = i ∧ q % 13 < j))
    ·rw [if_pos h1, if_pos (by omega)]
    ·rw [if_neg h1, if_neg (by omega)]
 ·unfold sf107_L2
  rw [decide_eq_false (by omega), cond_false]
theorem u_out1 {st : List (Int × Int)} (hl : st.length ≤ 13) (hs : AllP StOk st) (hN : 1000 ≤ N) :
  iter (sf107_L3 N st) N ((0 : Int), (fun _ => 0)) = some (uG st st.length 0) := by
 refine ym (fun i => ((i : Int), uG st i 0)) st.length _ ?_ (fun i hi => ?_) ?_ (by omega)
 ·refine Prod.ext rfl ?_
  funext q
  unfold uG
  dsimp only
  rw [if_neg (by omega)]
 ·obtain ⟨x, hx⟩ : ∃ x, st[i]? = some x := ⟨_, zZ hi⟩
  unfold sf107_L3
  dsimp only
  rw [decide_eq_true (by omega), cond_true, zU rfl hx, u_in1 hl hx hs hN, zi, zr (by unfold rng; omega)]
  congr 3
  funext q
  unfold uG
  by_cases h1 : q / 13 < st.length ∧ q % 13 < st.length ∧ (q / 13 < i ∨ (q / 13 = i ∧ q % 13 < st.length))
  ·rw [if_pos h1, if_pos (by omega)]
  ·rw [if_neg h1, if_neg (by omega)]
 ·unfold sf107_L3
  rw [decide_eq_false (by omega), cond_false]
theorem ji {st : List (Int × Int)} {i j : Nat} (hl : st.length ≤ 13) (hi : i < st.length) (hj : j < st.length) : uG st st.length 0 (i * 13 + j) = farF st i j := by
 unfold uG
 rw [dv (by omega), md (by omega), if_pos (by omega)]
theorem ux {st : List (Int × Int)} {i j : Nat} {a b : Int × Int} (ha : st[i]? = some a) (hb : st[j]? = some b) (h : i ≠ j) : farF st i j = b.2 - a.1 := by
 unfold farF; rw [if_neg h, ha, hb]; rfl
theorem kC {st : List (Int × Int)} {i : Nat} : farF st i i = 0 := by unfold farF; rw [if_pos rfl]
theorem gd_st {st : List (Int × Int)} {n : Nat} (hn : st.length = n + 1) (hl : n ≤ 12) (hs : AllP StOk st) : Gd n (uG st st.length 0) := by
 have get : ∀ i, i ≤ n → ∃ x, st[i]? = some x ∧ StOk x := fun i hi => ⟨_, zZ (by omega), hs _ (List.getElem_mem _)⟩
 refine ⟨fun i j k hi hj hk => ?_, fun i hi => ?_, fun i j hi hj => ?_⟩
 ·rw [ji (by omega) (by omega) (by omega), ji (by omega) (by omega) (by omega), ji (by omega) (by omega) (by omega)]
  obtain ⟨a, ha, pa⟩ := get i hi
  obtain ⟨b, hb, pb⟩ := get j hj
  obtain ⟨c, hc, pc⟩ := get k hk
  unfold StOk at pa pb pc
  by_cases e1 : i = j
  ·subst e1; rw [kC]; omega
  ·by_cases e2 : j = k
   ·subst e2; rw [kC (i := j)]; omega
   ·rw [ux ha hb e1, ux hb hc e2]
    by_cases e3 : i = k
    ·subst e3; rw [kC]; rw [ha] at hc; cases hc; omega
    ·rw [ux ha hc e3]; omega
 ·rw [ji (by omega) (by omega) (by omega), kC]
 ·rw [ji (by omega) (by omega) (by omega)]
  obtain ⟨a, ha, pa⟩ := get i hi
  obtain ⟨b, hb, pb⟩ := get j hj
  unfold StOk at pa pb
  by_cases e1 : i = j
  ·subst e1; rw [kC]; omega
  ·rw [ux ha hb e1]; omega
def StS (st : List (Int × Int)) (p : Nat → Int) : Prop := ∀ i r, st[i]? = some r → r.1 ≤ p i - p 0 ∧ p i - p 0 ≤ r.2
theorem sat_st {st : List (Int × Int)} {n : Nat} {p : Nat → Int} (hn : st.length = n + 1) (hl : n ≤ 12) (h0 : st[0]? = some (0, 0)) : SatF n (uG st st.length 0) p ↔ StS st p := by
 constructor
 ·intro h i r hr
  have hi := z3 hr
  by_cases e : i = 0
  ·subst e; rw [h0] at hr; cases hr; dsimp only; omega
  ·have h1 := h 0 i (Nat.zero_le _) (by omega)
   have h2 := h i 0 (by omega) (Nat.zero_le _)
   rw [ji (by omega) (by omega) (by omega), ux h0 hr (fun h => e h.symm)] at h1
   rw [ji (by omega) (by omega) (by omega), ux hr h0 e] at h2
   dsimp only at h1 h2
   omega
 ·intro h i j hi hj
  rw [ji (by omega) (by omega) (by omega)]
  by_cases e : i = j
  ·subst e; rw [kC]; omega
  ·have h1 : st[i]? = some st[i] := zZ (by omega)
   have h2 : st[j]? = some st[j] := zZ (by omega)
   rw [ux h1 h2 e]
   have := h i _ h1
   have := h j _ h2
   omega
theorem u_list (hB : B.length ≤ 100) (ho : off.length ≤ 100) (hv : ∀ b, b ∈ B → -100000 ≤ b.1 ∧ b.1 ≤ 100000 ∧ -100000 ≤ b.2.1 ∧ b.2.1 ≤ 100000) (hN : 1000 ≤ N) :
  iter (sf107_L1 B) N (([((0 : Int), (0 : Int))] ++ off), (0 : Int)) = some (stand off B) := by
 have hst : stand off B = [((0 : Int), (0 : Int))] ++ off ++ B.map fun b => (-b.2.1, -b.1) := rfl
 refine ym (fun j => ([((0 : Int), (0 : Int))] ++ off ++ ((B.map fun b => (-b.2.1, -b.1)).take j), (j : Int))) B.length _ (by simp) (fun j hj => ?_) ?_ (by omega)
 ·obtain ⟨z, hz⟩ : ∃ z, B[j]? = some z := ⟨_, zZ hj⟩
  have hb := hv z (List.mem_of_getElem? hz)
  have hm : (B.map fun b => (-b.2.1, -b.1))[j]? = some (-z.2.1, -z.1) := by rw [List.getElem?_map, hz]; rfl
  unfold sf107_L1
  dsimp only
  rw [decide_eq_true (by omega), cond_true, zU rfl hz, zr (by unfold rng; omega), zr (by unfold rng; omega), zr (by simp; omega), zr (by unfold rng; omega), yo hm, ← List.append_assoc]
  rfl
 ·unfold sf107_L1
  dsimp only
  rw [decide_eq_false (by omega), cond_false, List.take_of_length_le (by simp), ← hst]
theorem s107 (h : SerOk off er B) (hN : 1000 ≤ N) : sf107 N off er B = some (off, er, B, ((off.length + B.length : Nat) : Int) + 1, uG (stand off B) (stand off B).length 0) := by
 have h1 := h.1; have h2 := h.2.2.2.1
 unfold sf107
 rw [zr (by simp; omega), u_list (by omega) (by omega) (fun b hb => by have := (h.2.2.2.2 b hb).1; unfold HtOk at this; omega) hN, zi, u_out1 (by rw [uW]; omega) (Xb h) hN, zi, show ((stand off B).length : Int) = ((off.length + B.length : Nat) : Int) + 1 by rw [uW]; omega]
def RdS (m : Nat) (er : Int) (b : Nat) (r : Int × Int) (p : Nat → Int) : Prop := p (1 + r.1.toNat) - p (1 + m + b) ≤ r.2 + er ∧ p (1 + m + b) - p (1 + r.1.toNat) ≤ er - r.2
def TrS (off : List (Int × Int)) (er : Int) (B : List Ba) (p : Nat → Int) : Prop := StS (stand off B) p ∧ ∀ (b : Nat) (x : Ba), B[b]? = some x → ∀ r, r ∈ x.2.2 → RdS off.length er b r p
theorem s106 {b : Nat} (h1 : off.length ≤ 100) (h2 : b ≤ 100) : sf106 N off er B (b : Int) = some ((1 + off.length + b : Nat) : Int) := by
 unfold sf106
 rw [zr (by unfold rng; omega), zr (by unfold rng; omega)]
 congr 1
theorem s105 {a : Int} (h1 : 0 ≤ a) (h2 : a ≤ 100) : sf105 N off er B a = some ((1 + a.toNat : Nat) : Int) := by
 unfold sf105
 rw [zr (by unfold rng; omega)]
 congr 1; omega
theorem s134 {n x y : Nat} {T m : Int} {F : Nat → Int} (hn : n ≤ 12) (hx : x ≤ n) (hy : y ≤ n) (h : Gd n F) (hm : -1000000 ≤ m ∧ m ≤ 1000000) : sf134 N off er B T F x y m = some (decide (0 ≤ m + F (y * 13 + x))) := by
 have := h.ub y x hy hx
 have := h.lb (i := y) (j := x) hy hx
 unfold sf134
 simp only [toN]
 rw [zr (by omega), zr (by omega), zr (by unfold rng; omega)]
theorem no_sat {n f g : Nat} {m : Int} {F p : Nat → Int} (hf : f ≤ n) (hg : g ≤ n) (h : ¬ 0 ≤ m + F (g * 13 + f)) (hs : SatF n F p) : ¬ p g - p f ≤ m := by
 have := hs g f hg hf
 omega
end
end Go.Hx.V

namespace Go.Hx.V
open Go.Hx
section
variable {off : List (Int × Int)} {er : Int} {B : List Ba} {N : Nat}
abbrev Vt := List (Int × Int) × Int × List Ba × Int × (Nat → Int)
theorem l2 (v : Vt) (x : Int × Int) (f t : Int) : sf80_L2 N v x f t = lO N v.2.2.2.1 f t (x.2 + v.2.1) := rfl
theorem l4 (v : Vt) (x : Int × Int) (f t : Int) : sf80_L4 N v x f t = lO N v.2.2.2.1 t f (v.2.1 - x.2) := rfl
theorem L5_run {n b : Nat} {x : Ba} {F0 : Nat → Int} (hs : SerOk off er B) (hS : Short B) (hn : n = off.length + B.length) (hb : B[b]? = some x) (hN : 1000 ≤ N) : ∀ (k j M : Nat) (F F1 : Nat → Int), j + k = x.2.2.length → k < M → Gd n F →
  (∃ F', iter (sf80_L5 N (off, er, B, (n : Int) + 1, F0) ((b : Int), F1) x) M ((j : Int), F) = some (.inr F') ∧ Gd n F' ∧ ∀ p, SatF n F' p ↔ SatF n F p ∧ ∀ r, r ∈ x.2.2.drop j → RdS off.length er b r p) ∨
  ((∃ F', iter (sf80_L5 N (off, er, B, (n : Int) + 1, F0) ((b : Int), F1) x) M ((j : Int), F) = some (.inl F')) ∧ ∀ p, SatF n F p → ¬ ∀ r, r ∈ x.2.2.drop j → RdS off.length er b r p)
 | 0, j, M, F, F1, h1, h2, hg => by
  obtain ⟨M, rfl⟩ : ∃ q, M = q + 1 := ⟨M - 1, by omega⟩
  refine .inl ⟨F, ?_, hg, fun p => ⟨fun h => ⟨h, fun r hr => ?_⟩, fun h => h.1⟩⟩
  ·refine j0 ?_
   unfold sf80_L5
   dsimp only
   rw [decide_eq_false (by omega), cond_false]
  ·rw [List.drop_of_length_le (by omega)] at hr; cases hr
 | k + 1, j, M, F, F1, h1, h2, hg => by
  obtain ⟨M, rfl⟩ : ∃ q, M = q + 1 := ⟨M - 1, by omega⟩
  obtain ⟨r, hr⟩ : ∃ r, x.2.2[j]? = some r := ⟨_, zZ (by omega)⟩
  have hx := hs.2.2.2.2 x (List.mem_of_getElem? hb)
  have hrd := hx.2.1 r (List.mem_of_getElem? hr)
  have o1 := hs.1; have o2 := hs.2.2.1; have o3 := hs.2.2.2.1
  have hbl := z3 hb
  have hdr : x.2.2.drop j = r :: x.2.2.drop (j + 1) := by rw [List.drop_eq_getElem_cons (by omega)]; rw [zZ (by omega)] at hr; cases hr; rfl
  have hsp : ∀ p, (∀ q, q ∈ x.2.2.drop j → RdS off.length er b q p) ↔ RdS off.length er b r p ∧ ∀ q, q ∈ x.2.2.drop (j + 1) → RdS off.length er b q p := fun p => by rw [hdr]; simp
  have n1 : 1 + off.length + b ≤ n := by omega
  have n2 : 1 + r.1.toNat ≤ n := by have := hrd.1; omega
  have n3 : n ≤ 12 := by omega
  obtain ⟨⟨a1, a2⟩, b1, b2⟩ : (0 ≤ r.1 ∧ r.1 < (off.length : Int)) ∧ -1000 ≤ r.2 ∧ r.2 ≤ 2000 := hrd
  have hxl := hS x (List.mem_of_getElem? hb)
  by_cases c1 : 0 ≤ (r.2 + er) + F ((1 + r.1.toNat) * 13 + (1 + off.length + b))
  ·obtain ⟨G, hG⟩ : ∃ G, G = rowS n (1 + off.length + b) (1 + r.1.toNat) (r.2 + er) F (n + 1) := ⟨_, rfl⟩
   have gd1 : Gd n G := by rw [hG]; exact gd_lim n3 hg n1 n2 c1
   have sat1 : ∀ p, SatF n G p ↔ SatF n F p ∧ p (1 + r.1.toNat) - p (1 + off.length + b) ≤ r.2 + er := fun p => by rw [hG]; exact YH n3 hg n1 n2
   by_cases c2 : 0 ≤ (er - r.2) + G ((1 + off.length + b) * 13 + (1 + r.1.toNat))
   ·obtain ⟨K, hK⟩ : ∃ K, K = rowS n (1 + r.1.toNat) (1 + off.length + b) (er - r.2) G (n + 1) := ⟨_, rfl⟩
    have gd2 : Gd n K := by rw [hK]; exact gd_lim n3 gd1 n2 n1 c2
    have sat2 : ∀ p, SatF n K p ↔ SatF n F p ∧ RdS off.length er b r p := fun p => by
     rw [hK, YH n3 gd1 n2 n1, sat1 p]
     unfold RdS
     exact ⟨fun h => ⟨h.1.1, h.1.2, h.2⟩, fun h => ⟨⟨h.1, h.2.1⟩, h.2.2⟩⟩
    have step : sf80_L5 N (off, er, B, (n : Int) + 1, F0) ((b : Int), F1) x ((j : Int), F) = some (.inl (((j + 1 : Nat) : Int), K)) := by
     unfold sf80_L5
     dsimp only
     rw [decide_eq_true (by omega), cond_true, zU rfl hr]
     rw [show sf81 N r.1 r.2 = some true from rfl, zi, cond_true, s106 (by omega) (by omega), zi, s105 (by omega) (by omega), zi, zr (by unfold rng; omega), s134 n3 n1 n2 hg (by omega), zi, decide_eq_true c1, Bool.not_true, cond_false,
      l2, Yh n3 n1 n2 hg (by dsimp only; omega) (by dsimp only; exact c1) (by omega)]
     rw [show rowS n (1 + off.length + b) (1 + r.1.toNat) (r.2 + er) F (n + 1) = G from hG.symm, zi, zr (by unfold rng; omega), s134 n3 n2 n1 gd1 (by omega), zi, decide_eq_true c2, Bool.not_true, cond_false,
      l4, Yh n3 n2 n1 gd1 (by dsimp only; omega) (by dsimp only; exact c2) (by omega)]
     rw [show rowS n (1 + r.1.toNat) (1 + off.length + b) (er - r.2) G (n + 1) = K from hK.symm, zi, zi, cond_false, zr (by unfold rng; omega)]
     rfl
    rw [iter_s step]
    rcases L5_run hs hS hn hb hN k (j + 1) M K F1 (by omega) (by omega) gd2 with ⟨F', e, g, hp⟩ | ⟨⟨F', e⟩, hp⟩
    ·refine .inl ⟨F', e, g, fun p => ?_⟩
     rw [hp p, sat2 p, hsp p, and_assoc]
    ·refine .inr ⟨⟨F', e⟩, fun p h1 h2 => ?_⟩
     have := (hsp p).1 h2
     exact hp p ((sat2 p).2 ⟨h1, this.1⟩) this.2
   ·refine .inr ⟨⟨G, j0 ?_⟩, fun p h3 h4 => ?_⟩
    ·unfold sf80_L5
     dsimp only
     rw [decide_eq_true (by omega), cond_true, zU rfl hr]
     rw [show sf81 N r.1 r.2 = some true from rfl, zi, cond_true, s106 (by omega) (by omega), zi, s105 (by omega) (by omega), zi, zr (by unfold rng; omega), s134 n3 n1 n2 hg (by omega), zi, decide_eq_true c1, Bool.not_true, cond_false,
      l2, Yh n3 n1 n2 hg (by dsimp only; omega) (by dsimp only; exact c1) (by omega)]
     rw [show rowS n (1 + off.length + b) (1 + r.1.toNat) (r.2 + er) F (n + 1) = G from hG.symm, zi, zr (by unfold rng; omega), s134 n3 n2 n1 gd1 (by omega), zi, decide_eq_false c2]
     rfl
    ·have h5 := ((hsp p).1 h4).1
     unfold RdS at h5
     exact no_sat n2 n1 c2 ((sat1 p).2 ⟨h3, h5.1⟩) h5.2
  ·refine .inr ⟨⟨F, j0 ?_⟩, fun p h3 h4 => ?_⟩
   ·unfold sf80_L5
    dsimp only
    rw [decide_eq_true (by omega), cond_true, zU rfl hr]
    rw [show sf81 N r.1 r.2 = some true from rfl, zi, cond_true, s106 (by omega) (by omega), zi, s105 (by omega) (by omega), zi, zr (by unfold rng; omega), s134 n3 n1 n2 hg (by omega), zi, decide_eq_false c1]
    rfl
   ·have h5 := ((hsp p).1 h4).1
    unfold RdS at h5
    exact no_sat n1 n2 c1 h3 h5.1
theorem L6_run {n : Nat} {F0 : Nat → Int} (hs : SerOk off er B) (hS : Short B) (hn : n = off.length + B.length) (hN : 1000 ≤ N) : ∀ (k j M : Nat) (F : Nat → Int), j + k = B.length → k < M → Gd n F →
  (∃ F', iter (sf80_L6 N B (off, er, B, (n : Int) + 1, F0)) M ((j : Int), F) = some (.inr F') ∧ Gd n F' ∧ ∀ p, SatF n F' p ↔ SatF n F p ∧ ∀ b x, j ≤ b → B[b]? = some x → ∀ r, r ∈ x.2.2 → RdS off.length er b r p) ∨
  ((∃ F', iter (sf80_L6 N B (off, er, B, (n : Int) + 1, F0)) M ((j : Int), F) = some (.inl F')) ∧ ∀ p, SatF n F p → ¬ ∀ b x, j ≤ b → B[b]? = some x → ∀ r, r ∈ x.2.2 → RdS off.length er b r p)
 | 0, j, M, F, h1, h2, hg => by
  obtain ⟨M, rfl⟩ : ∃ q, M = q + 1 := ⟨M - 1, by omega⟩
  refine .inl ⟨F, ?_, hg, fun p => ⟨fun h => ⟨h, fun b x hb hx => ?_⟩, fun h => h.1⟩⟩
  ·refine j0 ?_
   unfold sf80_L6
   dsimp only
   rw [decide_eq_false (by omega), cond_false]
  ·have := z3 hx; omega
 | k + 1, j, M, F, h1, h2, hg => by
  obtain ⟨M, rfl⟩ : ∃ q, M = q + 1 := ⟨M - 1, by omega⟩
  obtain ⟨x, hx⟩ : ∃ x, B[j]? = some x := ⟨_, zZ (by omega)⟩
  have o3 := hs.2.2.2.1
  have hxl := hS x (List.mem_of_getElem? hx)
  have hsp : ∀ p, (∀ b y, j ≤ b → B[b]? = some y → ∀ r, r ∈ y.2.2 → RdS off.length er b r p) ↔ (∀ r, r ∈ x.2.2.drop 0 → RdS off.length er j r p) ∧ ∀ b y, j + 1 ≤ b → B[b]? = some y → ∀ r, r ∈ y.2.2 → RdS off.length er b r p := fun p => by
   constructor
   ·exact fun h => ⟨fun r hr => h j x (Nat.le_refl _) hx r hr, fun b y hb => h b y (by omega)⟩
   ·rintro ⟨h1, h2⟩ b y hb hy r hr
    by_cases e : b = j
    ·subst e; rw [hx] at hy; cases hy; exact h1 r hr
    ·exact h2 b y (by omega) hy r hr
  rcases L5_run (F0 := F0) hs hS hn hx hN x.2.2.length 0 N F F (by omega) (by omega) hg with ⟨K, e, g, hp⟩ | ⟨⟨K, e⟩, hp⟩
  ·have step : sf80_L6 N B (off, er, B, (n : Int) + 1, F0) ((j : Int), F) = some (.inl (((j + 1 : Nat) : Int), K)) := by
    unfold sf80_L6
    dsimp only
    rw [decide_eq_true (by omega), cond_true, zU rfl hx]
    rw [show iter (sf80_L5 N (off, er, B, (n : Int) + 1, F0) ((j : Int), F) x) N ((0 : Int), F) = some (.inr K) from e, zi, sR]
    rw [zr (by unfold rng; omega)]
    rfl
   rw [iter_s step]
   rcases L6_run hs hS hn hN k (j + 1) M K (by omega) (by omega) g with ⟨F', e2, g2, hp2⟩ | ⟨⟨F', e2⟩, hp2⟩
   ·refine .inl ⟨F', e2, g2, fun p => ?_⟩
    rw [hp2 p, hp p, hsp p, and_assoc]
   ·refine .inr ⟨⟨F', e2⟩, fun p h3 h4 => ?_⟩
    have := (hsp p).1 h4
    exact hp2 p ((hp p).2 ⟨h3, this.1⟩) this.2
  ·refine .inr ⟨⟨K, j0 ?_⟩, fun p h3 h4 => hp p h3 ((hsp p).1 h4).1⟩
   unfold sf80_L6
   dsimp only
   rw [decide_eq_true (by omega), cond_true, zU rfl hx]
   rw [show iter (sf80_L5 N (off, er, B, (n : Int) + 1, F0) ((j : Int), F) x) N ((0 : Int), F) = some (.inl K) from e, zi]
   rfl
theorem s80 (hs : SerOk off er B) (hS : Short B) (hN : 1000 ≤ N) :
  (∃ F, sf80 N off er B = some (off, er, B, ((off.length + B.length : Nat) : Int) + 1, F, true) ∧ Gd (off.length + B.length) F ∧ ∀ p, SatF (off.length + B.length) F p ↔ TrS off er B p) ∨
  (sf80 N off er B = some ([], 0, [], 0, (fun _ => 0), false) ∧ ∀ p, ¬ TrS off er B p) := by
 have o1 := hs.1; have o3 := hs.2.2.2.1
 have hl : (stand off B).length = off.length + B.length + 1 := by rw [uW]; omega
 have g0 := gd_st (st := stand off B) (n := off.length + B.length) hl (by omega) (Xb hs)
 have t0 : ∀ p, SatF (off.length + B.length) (uG (stand off B) (stand off B).length 0) p ↔ StS (stand off B) p := fun p => sat_st hl (by omega) (by unfold stand; rfl)
 have ex : ∀ p, (∀ b x, 0 ≤ b → B[b]? = some x → ∀ r, r ∈ x.2.2 → RdS off.length er b r p) ↔ ∀ (b : Nat) (x : Ba), B[b]? = some x → ∀ r, r ∈ x.2.2 → RdS off.length er b r p := fun p => ⟨fun h b x => h b x (Nat.zero_le _), fun h b x _ => h b x⟩
 unfold sf80
 rw [s107 hs hN, zi]
 rcases L6_run (N := N) (n := off.length + B.length) (F0 := uG (stand off B) (stand off B).length 0) hs hS rfl hN B.length 0 N _ (by omega) (by omega) g0 with ⟨F, e, g, hp⟩ | ⟨⟨F, e⟩, hp⟩
 ·refine .inl ⟨F, ?_, g, fun p => by rw [hp p, t0 p, ex p]; rfl⟩
  dsimp only
  rw [show iter (sf80_L6 N B (off, er, B, ((off.length + B.length : Nat) : Int) + 1, uG (stand off B) (stand off B).length 0)) N ((0 : Int), uG (stand off B) (stand off B).length 0) = some (.inr F) from e, zi]
  rfl
 ·refine .inr ⟨?_, fun p h => hp p ((t0 p).2 h.1) ((ex p).2 h.2)⟩
  dsimp only
  rw [show iter (sf80_L6 N B (off, er, B, ((off.length + B.length : Nat) : Int) + 1, uG (stand off B) (stand off B).length 0)) N ((0 : Int), uG (stand off B) (stand off B).length 0) = some (.inl F) from e, zi]
  rfl
end
end Go.Hx.V

namespace Go.Hx.V
open Go.Hx
section
variable {off : List (Int × Int)} {er : Int} {B : List Ba} {N : Nat}
def ofs (m : Nat) (F : Nat → Int) : List (Int × Int) := (List.range m).map fun i => (-F ((1 + i) * 13 + 0), F (0 * 13 + (1 + i)))
def hts (m k : Nat) (F : Nat → Int) : List (Int × Int) := (List.range k).map fun b => (-F (0 * 13 + (1 + m + b)), F ((1 + m + b) * 13 + 0))
theorem s127 {n x : Nat} {T : Int} {F : Nat → Int} (hn : n ≤ 12) (hx : x ≤ n) (h : Gd n F) : sf127 N off er B T F x = some (-F (x * 13 + 0)) := by
 have := h.ub x 0 hx (Nat.zero_le _)
 have := h.lb (i := x) (j := 0) hx (Nat.zero_le _)
 unfold sf127
 rw [toN, show (0 : Int).toNat = 0 from rfl, zr (by omega), zr (by omega), zr (by unfold rng; omega)]
theorem s128 {n x : Nat} {T : Int} {F : Nat → Int} (hn : n ≤ 12) (hx : x ≤ n) : sf128 N off er B T F x = some (F (0 * 13 + x)) := by
 unfold sf128
 rw [toN, show (0 : Int).toNat = 0 from rfl, zr (by omega), zr (by omega)]
theorem s75 {n i : Nat} {T : Int} {F : Nat → Int} (hn : n ≤ 12) (hx : 1 + i ≤ n) (h : Gd n F) : sf75 N off er B T F i = some (-F ((1 + i) * 13 + 0), F (0 * 13 + (1 + i))) := by
 unfold sf75
 rw [show sf104 N = some () from rfl, zi, s105 (by omega) (by omega), zi, toN, s127 hn hx h, zi, s128 hn hx, zi]
theorem s76 {n b : Nat} {T : Int} {F : Nat → Int} (ho : off.length ≤ 12) (hn : n ≤ 12) (hx : 1 + off.length + b ≤ n) (h : Gd n F) : sf76 N off er B T F b = some (-F (0 * 13 + (1 + off.length + b)), F ((1 + off.length + b) * 13 + 0)) := by
 have := h.ub 0 (1 + off.length + b) (Nat.zero_le _) hx
 have := h.lb (i := 0) (j := 1 + off.length + b) (Nat.zero_le _) hx
 have := h.ub (1 + off.length + b) 0 hx (Nat.zero_le _)
 have := h.lb (i := 1 + off.length + b) (j := 0) hx (Nat.zero_le _)
 unfold sf76
 rw [show sf104 N = some () from rfl, zi, s106 (by omega) (by omega), zi, s128 hn hx, zi, zr (by unfold rng; omega), s127 hn hx h, zi, zr (by unfold rng; omega), Int.neg_neg]
theorem rg_at {α : Type} {f : Nat → α} {m i : Nat} (h : i < m) : ((List.range m).map f)[i]? = some (f i) := by
 rw [List.getElem?_map, List.getElem?_range h]; rfl
theorem jR {m i : Nat} {F : Nat → Int} (h : i < m) : (ofs m F)[i]? = some (-F ((1 + i) * 13 + 0), F (0 * 13 + (1 + i))) := rg_at h
theorem Yl {m k i : Nat} {F : Nat → Int} (h : i < k) : (hts m k F)[i]? = some (-F (0 * 13 + (1 + m + i)), F ((1 + m + i) * 13 + 0)) := rg_at (f := fun b => (-F (0 * 13 + (1 + m + b)), F ((1 + m + b) * 13 + 0))) h
theorem jI {F : Nat → Int} (hs : SerOk off er B) (hS : Short B) (hN : 1000 ≤ N) (e : sf80 N off er B = some (off, er, B, ((off.length + B.length : Nat) : Int) + 1, F, true)) (g : Gd (off.length + B.length) F) : sf27 N off er B = some (ofs off.length F, 0) := by
 have o1 := hs.1; have o3 := hs.2.2.2.1
 unfold sf27 sf74
 rw [s21 hS hN, jv hs, zi, decide_eq_true (p := (0 : Int) = 0) rfl, Bool.not_true, cond_false, cond_false, e, zi]
 dsimp only
 rw [Bool.not_true, cond_false, zi]
 dsimp only
 rw [decide_eq_true (p := (0 : Int) = 0) rfl, Bool.not_true, cond_false, zr (by omega)]
 rw [ym (x := ((List.replicate (Int.toNat (0 : Int)) ((0 : Int), (0 : Int))), (0 : Int))) (fun j => ((ofs off.length F).take j, (j : Int))) off.length (ofs off.length F) rfl (fun j hj => by
  unfold sf27_L1
  dsimp only
  rw [decide_eq_true (by omega), cond_true, s75 (n := off.length + B.length) (by omega) (by omega) g, zi, zr (by rw [List.length_take]; omega), zr (by unfold rng; omega), yo (jR hj)]
  rfl) (by
  unfold sf27_L1
  dsimp only
  rw [decide_eq_false (by omega), cond_false, List.take_of_length_le (by unfold ofs; simp)]) (by omega)]
 rfl
theorem X1 {F : Nat → Int} (hs : SerOk off er B) (hS : Short B) (hN : 1000 ≤ N) (e : sf80 N off er B = some (off, er, B, ((off.length + B.length : Nat) : Int) + 1, F, true)) (g : Gd (off.length + B.length) F) : sf28 N off er B = some (hts off.length B.length F, 0) := by
 have o1 := hs.1; have o3 := hs.2.2.2.1
 unfold sf28 sf74
 rw [s21 hS hN, jv hs, zi, decide_eq_true (p := (0 : Int) = 0) rfl, Bool.not_true, cond_false, cond_false, e, zi]
 dsimp only
 rw [Bool.not_true, cond_false, zi]
 dsimp only
 rw [decide_eq_true (p := (0 : Int) = 0) rfl, Bool.not_true, cond_false, zr (by omega)]
 rw [ym (x := ((List.replicate (Int.toNat (0 : Int)) ((0 : Int), (0 : Int))), (0 : Int))) (fun j => ((hts off.length B.length F).take j, (j : Int))) B.length (hts off.length B.length F) rfl (fun j hj => by
  unfold sf28_L1
  dsimp only
  rw [decide_eq_true (by omega), cond_true, s76 (n := off.length + B.length) (by omega) (by omega) (by omega) g, zi, zr (by rw [List.length_take]; omega), zr (by unfold rng; omega), yo (Yl hj)]
  rfl) (by
  unfold sf28_L1
  dsimp only
  rw [decide_eq_false (by omega), cond_false, List.take_of_length_le (by unfold hts; simp)]) (by omega)]
 rfl
theorem uc (hs : SerOk off er B) (hS : Short B) (hN : 1000 ≤ N) (e : sf80 N off er B = some ([], 0, [], 0, (fun _ => 0), false)) : sf27 N off er B = some ([], 9) ∧ sf28 N off er B = some ([], 9) := by
 constructor
 ·unfold sf27 sf74
  rw [s21 hS hN, jv hs, zi, decide_eq_true (p := (0 : Int) = 0) rfl, Bool.not_true, cond_false, cond_false, e, zi]
  rfl
 ·unfold sf28 sf74
  rw [s21 hS hN, jv hs, zi, decide_eq_true (p := (0 : Int) = 0) rfl, Bool.not_true, cond_false, cond_false, e, zi]
  rfl
theorem s64 {a b : List (Int × Int)} (hl : a.length = b.length) (h100 : a.length ≤ 100) (h : ∀ (i : Nat) (x y : Int × Int), a[i]? = some x → b[i]? = some y → y.1 ≤ x.1 ∧ x.2 ≤ y.2) (hN : 1000 ≤ N) : sf64 N a b = some true := by
 unfold sf64
 rw [decide_eq_true (by omega), Bool.not_true, cond_false]
 rw [ym (x := (0 : Int)) (fun j => (j : Int)) a.length (Sum.inr ()) rfl (fun j hj => by
  obtain ⟨x, hx⟩ : ∃ x, a[j]? = some x := ⟨_, zZ hj⟩
  obtain ⟨y, hy⟩ : ∃ y, b[j]? = some y := ⟨_, zZ (by omega)⟩
  have := h j x y hx hy
  unfold sf64_L1
  rw [decide_eq_true (by omega), cond_true, zU rfl hx, zU rfl hy, decide_eq_false (by omega), cond_false, zU rfl hx, zU rfl hy, decide_eq_false (by omega), zi, cond_false, zr (by unfold rng; omega)]
  rfl) (by
  unfold sf64_L1
  rw [decide_eq_false (by omega), cond_false]) (by omega)]
 rfl
theorem s22 (ho : off.length ≤ 100) (hB : B.length ≤ 100) (hS : Short B) (hN : 1000 ≤ N) : sf22 N off er B = some (off, er, B) := by
 unfold sf22
 rw [ym (x := ((0 : Int), ([] : List (Int × Int)))) (fun j => ((j : Int), off.take j)) off.length off rfl (fun j hj => by
  obtain ⟨x, hx⟩ : ∃ x, off[j]? = some x := ⟨_, zZ hj⟩
  unfold sf22_L1
  dsimp only
  rw [decide_eq_true (by omega), cond_true, zU rfl hx, show sf33 N x.1 x.2 = some (x.1, x.2) from rfl, zi, zr (by rw [List.length_take]; omega), zr (by unfold rng; omega), yo hx]
  rfl) (by
  unfold sf22_L1
  dsimp only
  rw [decide_eq_false (by omega), cond_false, List.take_of_length_le (Nat.le_refl _)]) (by omega), zi]
 rw [ym (x := ((0 : Int), ([] : List Ba))) (fun j => ((j : Int), B.take j)) B.length B rfl (fun j hj => by
  obtain ⟨x, hx⟩ : ∃ x, B[j]? = some x := ⟨_, zZ hj⟩
  have hxl := hS x (List.mem_of_getElem? hx)
  unfold sf22_L3
  dsimp only
  rw [decide_eq_true (by omega), cond_true, zU rfl hx, show sf33 N x.1 x.2.1 = some (x.1, x.2.1) from rfl, zi]
  rw [ym (x := ((0 : Int), ([] : List (Int × Int)))) (fun i => ((i : Int), x.2.2.take i)) x.2.2.length x.2.2 rfl (fun i hi => by
   obtain ⟨r, hr⟩ : ∃ r, x.2.2[i]? = some r := ⟨_, zZ hi⟩
   unfold sf22_L2
   dsimp only
   rw [zU rfl hx, decide_eq_true (by omega), cond_true, zU rfl hx, zU rfl hr, zr (by rw [List.length_take]; omega), zr (by unfold rng; omega), yo hr]
   rfl) (by
   unfold sf22_L2
   dsimp only
   rw [zU rfl hx, decide_eq_false (by omega), cond_false, List.take_of_length_le (Nat.le_refl _)]) (by omega), zi, zr (by rw [List.length_take]; omega), zr (by unfold rng; omega), yo hx]
  rfl) (by
  unfold sf22_L3
  dsimp only
  rw [decide_eq_false (by omega), cond_false, List.take_of_length_le (Nat.le_refl _)]) (by omega), zi]
end
end Go.Hx.V

namespace Go.Hx.V
open Go.Hx
def Less (B' B : List Ba) : Prop := B'.length = B.length ∧ ∀ (b : Nat) (x' : Ba), B'[b]? = some x' → ∃ x, B[b]? = some x ∧ x'.1 = x.1 ∧ x'.2.1 = x.2.1 ∧ List.Sublist x'.2.2 x.2.2
section
variable {off : List (Int × Int)} {er er' : Int} {B B' : List Ba} {N : Nat}
end
end Go.Hx.V

namespace Go.Hx.V
open Go.Hx
theorem s32 {N : Nat} {n a b : Int} : sf32 N n a b = some (decide (a ≤ n ∧ n ≤ b)) := by
 unfold sf32
 by_cases h1 : a ≤ n
 ·rw [decide_eq_true h1, cond_true]
  congr 1
  by_cases h2 : n ≤ b
  ·rw [decide_eq_true h2, decide_eq_true ⟨h1, h2⟩]
  ·rw [decide_eq_false h2, decide_eq_false (fun h => h2 h.2)]
 ·rw [decide_eq_false h1, cond_false, decide_eq_false (fun h => h1 h.1)]
theorem s90 {N : Nat} {p q a b : Int} : sf90 N p q a b = some (decide (a ≤ p ∧ p ≤ q ∧ q ≤ b)) := by
 unfold sf90
 rw [s32, zi]
 by_cases h1 : a ≤ p ∧ p ≤ q
 ·rw [decide_eq_true h1, cond_true]
  congr 1
  by_cases h2 : q ≤ b
  ·rw [decide_eq_true h2, decide_eq_true ⟨h1.1, h1.2, h2⟩]
  ·rw [decide_eq_false h2, decide_eq_false (fun h => h2 h.2.2)]
 ·rw [decide_eq_false h1, cond_false, decide_eq_false (fun h => h1 ⟨h.1, h.2.1⟩)]
section
variable {off : List (Int × Int)} {er : Int} {B : List Ba} {N : Nat}
theorem f_in {x : Ba} {j : Nat} {z : Int × Int} (hz : x.2.2[j]? = some z) (h : x.2.2.length ≤ 100) (hN : 1000 ≤ N) :
  ((∀ i a, i < j → x.2.2[i]? = some a → a.1 ≠ z.1) ∧ iter (sf73_L2 x (j : Int)) N (0 : Int) = some (.inr ())) ∨ (¬ (∀ i a, i < j → x.2.2[i]? = some a → a.1 ≠ z.1) ∧ iter (sf73_L2 x (j : Int)) N (0 : Int) = some (.inl 1)) := by
 have hj := z3 hz
 haveI : DecidablePred fun (i : Nat) => ∀ a, x.2.2[i]? = some a → a.1 ≠ z.1 := fun _ => Classical.propDecidable _
 rcases j3 (step := sf73_L2 x (j : Int)) (x := (0 : Int)) (N := N) (fun i => (i : Int)) j (fun i => ∀ a, x.2.2[i]? = some a → a.1 ≠ z.1) (Sum.inr ()) (Sum.inl 1) rfl (fun i hi hp => by
   obtain ⟨a, ha⟩ : ∃ a, x.2.2[i]? = some a := ⟨_, zZ (by omega)⟩
   unfold sf73_L2
   rw [decide_eq_true (by omega), cond_true, zU rfl ha, zU rfl hz, decide_eq_false (hp a ha), cond_false, zr (by unfold rng; omega)]
   rfl) (fun i hi hp => by
   obtain ⟨a, ha⟩ : ∃ a, x.2.2[i]? = some a := ⟨_, zZ (by omega)⟩
   have : a.1 = z.1 := Classical.byContradiction fun hc => hp fun b hb => by rw [ha] at hb; cases hb; exact hc
   unfold sf73_L2
   rw [decide_eq_true (by omega), cond_true, zU rfl ha, zU rfl hz, decide_eq_true this, cond_true]) (by
   unfold sf73_L2
   rw [decide_eq_false (by omega), cond_false]) (by omega) with ⟨h1, h2⟩ | ⟨h1, h2⟩
 ·exact .inl ⟨fun i a hi ha => h1 i hi a ha, h2⟩
 ·exact .inr ⟨fun g => h1 fun i hi a ha => g i a hi ha, h2⟩
theorem f_bath {x : Ba} (ho : off.length ≤ 100) (h : x.2.2.length ≤ 100) (hN : 1000 ≤ N) :
  ((AllP (RdOk off.length) x.2.2 ∧ Once x.2.2) ∧ iter (sf73_L3 N off x) N (0 : Int) = some (.inr ())) ∨ (¬ (AllP (RdOk off.length) x.2.2 ∧ Once x.2.2) ∧ iter (sf73_L3 N off x) N (0 : Int) = some (.inl 1)) := by
 have dec : ∀ (j : Nat) (z : Int × Int), x.2.2[j]? = some z → ∀ (K : Option (Int ⊕ (Int ⊕ Unit))), sf73_L3 N off x (j : Int) = (if RdOk off.length z then bnd (iter (sf73_L2 x (j : Int)) N (0 : Int)) (sel (fun w => some (.inr (.inl w))) (fun w => (ck (rng ((j : Int) + (1 : Int))) (some (.inl ((j : Int) + (1 : Int))))))) else some (.inr (.inl 1))) := fun j z hz K => by
  have hj := z3 hz
  unfold sf73_L3
  rw [decide_eq_true (by omega), cond_true, zU rfl hz, zr (by unfold rng; omega), s32, zi]
  by_cases c1 : 0 ≤ z.1 ∧ z.1 ≤ (off.length : Int) - 1
  ·rw [decide_eq_true c1, Bool.not_true, cond_false, zU rfl hz, s32, zi]
   by_cases c2 : -1000 ≤ z.2 ∧ z.2 ≤ 2000
   ·rw [decide_eq_true c2, if_pos (show RdOk off.length z from ⟨⟨c1.1, by omega⟩, c2⟩), Bool.not_true, zi, cond_false, zi, sR]
   ·rw [decide_eq_false c2, if_neg (show ¬ RdOk off.length z from fun g => c2 g.2), Bool.not_false, zi, cond_true, zi, sL]
  ·rw [decide_eq_false c1, if_neg (show ¬ RdOk off.length z from fun g => c1 ⟨g.1.1, by have := g.1.2; omega⟩), Bool.not_false, cond_true, zi, cond_true, zi, sL]
 haveI : DecidablePred fun (j : Nat) => ∀ z, x.2.2[j]? = some z → RdOk off.length z ∧ ∀ i a, i < j → x.2.2[i]? = some a → a.1 ≠ z.1 := fun _ => Classical.propDecidable _
 rcases j3 (step := sf73_L3 N off x) (x := (0 : Int)) (N := N) (fun j => (j : Int)) x.2.2.length (fun j => ∀ z, x.2.2[j]? = some z → RdOk off.length z ∧ ∀ i a, i < j → x.2.2[i]? = some a → a.1 ≠ z.1) (Sum.inr ()) (Sum.inl 1) rfl (fun j hj hp => by
   obtain ⟨z, hz⟩ : ∃ z, x.2.2[j]? = some z := ⟨_, zZ hj⟩
   have q := hp z hz
   rw [dec j z hz none, if_pos q.1]
   rcases f_in hz h hN with ⟨_, e⟩ | ⟨g, _⟩
   ·rw [e, zi, sR, zr (by unfold rng; omega)]; rfl
   ·exact absurd q.2 g) (fun j hj hp => by
   obtain ⟨z, hz⟩ : ∃ z, x.2.2[j]? = some z := ⟨_, zZ hj⟩
   rw [dec j z hz none]
   by_cases c : RdOk off.length z
   ·rw [if_pos c]
    rcases f_in hz h hN with ⟨g, _⟩ | ⟨_, e⟩
    ·exact absurd (fun z' hz' => by rw [hz] at hz'; cases hz'; exact ⟨c, g⟩) hp
    ·rw [e, zi, sL]
   ·rw [if_neg c]) (by
   unfold sf73_L3
   rw [decide_eq_false (by omega), cond_false]) (by omega) with ⟨h1, h2⟩ | ⟨h1, h2⟩
 ·refine .inl ⟨⟨fun r hr => ?_, fun i j a b hij ha hb => (h1 j (z3 hb) b hb).2 i a hij ha⟩, h2⟩
  obtain ⟨j, hj⟩ := List.getElem?_of_mem hr
  exact (h1 j (z3 hj) r hj).1
 ·exact .inr ⟨fun g => h1 fun j hj z hz => ⟨g.1 z (List.mem_of_getElem? hz), fun i a hi ha => g.2 i j a z hi ha hz⟩, h2⟩
theorem s73 (hS : Short B) (hN : 1000 ≤ N) : sf73 N off er B = some (code off er B) := by
 classical
 unfold sf73 code
 by_cases c0 : 6 < off.length ∨ 6 < B.length
 ·rw [if_pos c0]
  by_cases c1 : (6 : Int) < (off.length : Int)
  ·rw [decide_eq_true c1]; rfl
  ·rw [decide_eq_false c1, cond_false, decide_eq_true (by omega)]; rfl
 ·rw [if_neg c0, decide_eq_false (p := (6 : Int) < (off.length : Int)) (by omega), cond_false, decide_eq_false (p := (6 : Int) < (B.length : Int)) (by omega), zi, cond_false, zi, sR]
  by_cases c1 : (off.length : Int) = 0
  ·rw [decide_eq_true c1, cond_true, if_neg (fun g : SerOk off er B => by have := g.1; omega)]; rfl
  ·rw [decide_eq_false c1, cond_false, s32, zi]
   by_cases c2 : 0 ≤ er ∧ er ≤ 20
   ·rw [decide_eq_true c2, Bool.not_true, zi, cond_false, zi, sR]
    rcases vu (step := sf73_L1 N off) (l := off) (p := OffOk) (bad := (1 : Int)) (N := N) (by omega) (by
     intro j z hz hp
     have := z3 hz
     unfold sf73_L1
     rw [decide_eq_true (by omega), cond_true, zU rfl hz, s90, zi, decide_eq_true (p := -100 ≤ z.1 ∧ z.1 ≤ z.2 ∧ z.2 ≤ 100) hp, Bool.not_true, cond_false, zr (by unfold rng; omega)]) (by
     intro j z hz hp
     have := z3 hz
     unfold sf73_L1
     rw [decide_eq_true (by omega), cond_true, zU rfl hz, s90, zi, decide_eq_false (p := -100 ≤ z.1 ∧ z.1 ≤ z.2 ∧ z.2 ≤ 100) hp]
     rfl) (by
     unfold sf73_L1
     rw [decide_eq_false (by omega), cond_false]) with ⟨hA, e⟩ | ⟨hA, e⟩
    ·rw [e, zi, sR]
     rcases vu (step := sf73_L4 N off B) (l := B) (p := BathOk off.length) (bad := (1 : Int)) (N := N) (by omega) (by
      intro j z hz hp
      have := z3 hz
      unfold sf73_L4
      rw [decide_eq_true (by omega), cond_true, zU rfl hz, s90, zi, decide_eq_true (p := 0 ≤ z.1 ∧ z.1 ≤ z.2.1 ∧ z.2.1 ≤ 1000) hp.1, Bool.not_true, cond_false]
      rcases f_bath (off := off) (x := z) (by omega) (hS z (List.mem_of_getElem? hz)) hN with ⟨_, e⟩ | ⟨g, _⟩
      ·rw [e, zi, sR, zr (by unfold rng; omega)]
      ·exact absurd hp.2 g) (by
      intro j z hz hp
      have := z3 hz
      unfold sf73_L4
      rw [decide_eq_true (by omega), cond_true, zU rfl hz, s90, zi]
      by_cases c : 0 ≤ z.1 ∧ z.1 ≤ z.2.1 ∧ z.2.1 ≤ 1000
      ·rw [decide_eq_true c, Bool.not_true, cond_false]
       rcases f_bath (off := off) (x := z) (by omega) (hS z (List.mem_of_getElem? hz)) hN with ⟨g, _⟩ | ⟨_, e⟩
       ·exact absurd ⟨c, g⟩ hp
       ·rw [e, zi, sL]
      ·rw [decide_eq_false c]; rfl) (by
      unfold sf73_L4
      rw [decide_eq_false (by omega), cond_false]) with ⟨hB, e⟩ | ⟨hB, e⟩
     ·rw [e, zi, sR, if_pos (show SerOk off er B from ⟨by omega, hA, c2, by omega, hB⟩)]
     ·rw [e, zi, sL, if_neg (fun g : SerOk off er B => hB g.2.2.2.2)]
    ·rw [e, zi, sL, if_neg (fun g : SerOk off er B => hA g.2.1)]
   ·rw [decide_eq_false c2, if_neg (fun g : SerOk off er B => c2 g.2.2.1)]; rfl
def ThinP (off : List (Int × Int)) (B : List Ba) : Prop := off.length ≤ 9 ∧ B.length ≤ 9 ∧ ∀ b, b ∈ B → b.2.2.length ≤ 9
theorem s19 (hN : 1000 ≤ N) : ∃ v : Bool, sf19 N off er B = some v ∧ (v = true → ThinP off B) := by
 unfold sf19
 obtain ⟨y, e, hy⟩ := jZ (step := sf19_L1 B) (fun x => ∃ j : Nat, j ≤ B.length ∧ j ≤ 10 ∧ x = (j : Int) ∧ ∀ i b, i < j → B[i]? = some b → b.2.2.length ≤ 9) (fun x => 10 - x.toNat)
  (fun y => y = .inr () ∨ (y = .inl () ∧ ∀ i b, i < 10 → B[i]? = some b → b.2.2.length ≤ 9)) (by
   rintro x ⟨j, h1, h2, rfl, h3⟩
   unfold sf19_L1
   by_cases c1 : j < B.length
   ·rw [decide_eq_true (p := (j : Int) < (B.length : Int)) (by omega), cond_true, zi]
    by_cases c2 : j < 10
    ·rw [decide_eq_true (p := (j : Int) < 10) (by omega), cond_true, zi, sL]
     obtain ⟨z, hz⟩ : ∃ z, B[j]? = some z := ⟨_, zZ c1⟩
     rw [zU rfl hz]
     by_cases c3 : 9 < z.2.2.length
     ·rw [decide_eq_true (by omega), cond_true]; exact .inr ⟨_, rfl, .inl rfl⟩
     ·rw [decide_eq_false (by omega), cond_false, zr (by unfold rng; omega)]
      refine .inl ⟨_, rfl, ⟨j + 1, by omega, by omega, rfl, fun i b hi hb => ?_⟩, by simp; omega⟩
      by_cases e : i = j
      ·subst e; rw [hz] at hb; cases hb; omega
      ·exact h3 i b (by omega) hb
    ·rw [decide_eq_false (p := (j : Int) < 10) (by omega), cond_false, zi, sR]
     exact .inr ⟨_, rfl, .inr ⟨rfl, fun i b hi hb => h3 i b (by omega) hb⟩⟩
   ·rw [decide_eq_false (p := (j : Int) < (B.length : Int)) (by omega), cond_false, zi, cond_false, zi, sR]
    exact .inr ⟨_, rfl, .inr ⟨rfl, fun i b hi hb => h3 i b (by have := z3 hb; omega) hb⟩⟩) N 0 ⟨0, by omega, by omega, rfl, fun i b hi => by omega⟩ (by simp; omega)
 rw [e, zi]
 rcases hy with rfl | ⟨rfl, h⟩
 ·exact ⟨false, rfl, fun h => by cases h⟩
 ·rw [sL]
  by_cases c1 : (off.length : Int) ≤ 9
  ·rw [decide_eq_true c1, cond_true]
   refine ⟨_, rfl, fun h2 => ?_⟩
   have h2 := of_decide_eq_true h2
   refine ⟨by omega, by omega, fun b hb => ?_⟩
   obtain ⟨i, hi⟩ := List.getElem?_of_mem hb
   exact h i b (by have := z3 hi; omega) hi
  ·rw [decide_eq_false c1, cond_false]
   exact ⟨false, rfl, fun h => by cases h⟩
theorem jB (h : ThinP off B) : Short B := fun b hb => Nat.le_trans (h.2.2 b hb) (by decide)
theorem s60 (hN : 1000 ≤ N) : ∃ v : Bool, sf60 N off er B = some v ∧ (v = true → ThinP off B ∧ SerOk off er B) := by
 unfold sf60
 obtain ⟨v, e, h⟩ := s19 (off := off) (er := er) (B := B) hN
 rw [e, zi]
 cases v with
 | false => exact ⟨false, rfl, fun h => by cases h⟩
 | true =>
  have ht := h rfl
  rw [cond_true]
  unfold sf25
  rw [s73 (jB ht) hN, zi, zi]
  exact ⟨_, rfl, fun g => ⟨ht, kD (of_decide_eq_true g)⟩⟩
theorem Yy {x : Int} (h : 0 ≤ x ∧ x < 256) : IntKind.wrap .i64 x = x := yE x (by omega) (by omega)
theorem bnd_use {α β : Type} {x : Option α} {k : α → Option β} {r : Option β} (P : α → Prop) (h1 : ∃ a, x = some a ∧ P a) (h2 : ∀ a, P a → k a = r) : bnd x k = r := by
 obtain ⟨a, rfl, h⟩ := h1
 rw [zi]; exact h2 a h
end
end Go.Hx.V

namespace Go.Hx.V
open Go.Hx
theorem YY {n n' : Nat} {F F' : Nat → Int} {Tr Tr' : (Nat → Int) → Prop} (g : Gd n F) (g' : Gd n' F') (t : ∀ p, SatF n F p ↔ Tr p) (t' : ∀ p, SatF n' F' p ↔ Tr' p) {i i' : Nat} {m : Int} (hi : i ≤ n) (hi' : i' ≤ n')
  (h1 : ∀ p, Tr p → ∃ p', Tr' p' ∧ p' i' - p' 0 = p i - p 0 + m) (h2 : ∀ p', Tr' p' → ∃ p, Tr p ∧ p' i' - p' 0 = p i - p 0 + m) : F' (0 * 13 + i') = F (0 * 13 + i) + m ∧ -F' (i' * 13 + 0) = -F (i * 13 + 0) + m := by
 have d0 := g.dg 0 (Nat.zero_le _)
 have d0' := g'.dg 0 (Nat.zero_le _)
 obtain ⟨a, ha, ea⟩ := h1 _ ((t _).1 (Xz g))
 obtain ⟨b, hb, eb⟩ := h1 _ ((t _).1 (ug g))
 obtain ⟨c, hc, ec⟩ := h2 _ ((t' _).1 (Xz g'))
 obtain ⟨d, hd, ed⟩ := h2 _ ((t' _).1 (ug g'))
 have a1 := (t' _).2 ha 0 i' (Nat.zero_le _) hi'
 have b1 := (t' _).2 hb i' 0 hi' (Nat.zero_le _)
 have c1 := (t _).2 hc 0 i (Nat.zero_le _) hi
 have d1 := (t _).2 hd i 0 hi (Nat.zero_le _)
 omega
section
variable {off : List (Int × Int)} {er : Int} {B B' : List Ba} {N : Nat}
theorem jE {i : Nat} (h : i ≤ off.length) : (stand off B)[i]? = ([((0 : Int), (0 : Int))] ++ off)[i]? := by
 unfold stand
 rw [List.getElem?_append_left (by simp; omega)]
theorem uB {b : Nat} : (stand off B)[1 + off.length + b]? = (B[b]?).map fun x => (-x.2.1, -x.1) := by
 unfold stand
 rw [List.getElem?_append_right (by simp; omega), List.getElem?_map, show 1 + off.length + b - ([((0 : Int), (0 : Int))] ++ off).length = b by simp; omega]
def tu (m : Nat) (f : Nat → Nat) (p : Nat → Int) : Nat → Int := fun i => if i ≤ m then p i else p (1 + m + f (i - 1 - m))
theorem tu_tr {f : Nat → Nat} {p : Nat → Int} (hm : 1 ≤ off.length) (hf : ∀ (b : Nat) (x : Ba), B'[b]? = some x → B[f b]? = some x) (hr : ∀ x, x ∈ B → AllP (RdOk off.length) x.2.2) (h : TrS off er B p) : TrS off er B' (tu off.length f p) := by
 have t0 : tu off.length f p 0 = p 0 := by unfold tu; rw [if_pos (Nat.zero_le _)]
 have tb : ∀ b, tu off.length f p (1 + off.length + b) = p (1 + off.length + f b) := fun b => by unfold tu; rw [if_neg (by omega), show 1 + off.length + b - 1 - off.length = b by omega]
 have tl : ∀ i, i ≤ off.length → tu off.length f p i = p i := fun i hi => by unfold tu; rw [if_pos hi]
 refine ⟨fun i r hi => ?_, fun b x hx r hrr => ?_⟩
 ·rw [t0]
  by_cases c : i ≤ off.length
  ·rw [tl i c]
   rw [jE c] at hi
   exact h.1 i r (by rw [jE c]; exact hi)
  ·obtain ⟨b, rfl⟩ : ∃ b, i = 1 + off.length + b := ⟨i - 1 - off.length, by omega⟩
   rw [uB] at hi
   cases hb : B'[b]? with
   | none => rw [hb] at hi; cases hi
   | some x =>
    rw [hb] at hi
    rw [tb]
    exact h.1 (1 + off.length + f b) r (by rw [uB, hf b x hb]; exact hi)
 ·have hx' := hf b x hx
  have := h.2 (f b) x hx' r hrr
  have hro := hr x (List.mem_of_getElem? hx') r hrr
  unfold RdS at this ⊢
  rw [tb, tl _ (by have := hro.1; omega)]
  exact this
theorem rot_at {t b : Nat} (ht : t ≤ B.length) : (B.drop t ++ B.take t)[b]? = if b + t < B.length then B[b + t]? else if b < B.length then B[b + t - B.length]? else none := by
 by_cases c : b + t < B.length
 ·rw [if_pos c, List.getElem?_append_left (by rw [List.length_drop]; omega), List.getElem?_drop, Nat.add_comm]
 ·rw [if_neg c, List.getElem?_append_right (by rw [List.length_drop]; omega), List.length_drop, List.getElem?_take]
  by_cases c2 : b < B.length
  ·rw [if_pos c2, if_pos (by omega), show b - (B.length - t) = b + t - B.length by omega]
  ·rw [if_neg c2]
   split
   ·omega
   ·rfl
theorem YJ {t : Nat} (ht : t ≤ B.length) : (B.drop t ++ B.take t).length = B.length := by rw [List.length_append, List.length_drop, List.length_take]; omega
theorem jq {t : Nat} {x : Ba} : x ∈ B.drop t ++ B.take t ↔ x ∈ B := by
 rw [List.mem_append]
 constructor
 ·rintro (h | h)
  ·exact List.mem_of_mem_drop h
  ·exact List.mem_of_mem_take h
 ·intro h
  rw [← List.take_append_drop t B] at h
  rcases List.mem_append.1 h with h | h
  ·exact .inr h
  ·exact .inl h
theorem ser_rot {t : Nat} (h : SerOk off er B) (ht : t ≤ B.length) : SerOk off er (B.drop t ++ B.take t) :=
 ⟨h.1, h.2.1, h.2.2.1, by rw [YJ ht]; exact h.2.2.2.1, fun x hx => h.2.2.2.2 x (jq.1 hx)⟩
theorem rot_1 {t : Nat} (ht : t < B.length) (b : Nat) (x : Ba) (h : (B.drop t ++ B.take t)[b]? = some x) : B[if b + t < B.length then b + t else b + t - B.length]? = some x := by
 rw [rot_at (by omega)] at h
 by_cases c : b + t < B.length
 ·rw [if_pos c] at h ⊢; exact h
 ·rw [if_neg c] at h ⊢
  split at h
  ·exact h
  ·cases h
theorem rot_2 {t : Nat} (ht : t < B.length) (b : Nat) (x : Ba) (h : B[b]? = some x) : (B.drop t ++ B.take t)[if t ≤ b then b - t else b + B.length - t]? = some x := by
 have hb := z3 h
 rw [rot_at (by omega)]
 by_cases c : t ≤ b
 ·rw [if_pos c, if_pos (by omega), show b - t + t = b by omega]; exact h
 ·rw [if_neg c, if_neg (by omega), if_pos (by omega), show b + B.length - t + t - B.length = b by omega]; exact h
theorem vD {m : Nat} {F : Nat → Int} : (ofs m F).length = m := by unfold ofs; simp
theorem jt {m k : Nat} {F : Nat → Int} : (hts m k F).length = k := by unfold hts; simp
theorem YI {a : List (Int × Int)} (h : a.length ≤ 100) (hN : 1000 ≤ N) : sf64 N a a = some true := s64 rfl h (fun i x y hx hy => by rw [hx] at hy; cases hy; exact ⟨Int.le_refl _, Int.le_refl _⟩) hN
theorem turned {t : Nat} (hs : SerOk off er B) (hS : Short B) (ht : t < B.length) (hN : 1000 ≤ N) : sf27 N off er (B.drop t ++ B.take t) = sf27 N off er B := by
 have o1 := hs.1; have o3 := hs.2.2.2.1
 have hs' := ser_rot hs (t := t) (by omega)
 have hS' : Short (B.drop t ++ B.take t) := fun x hx => hS x (jq.1 hx)
 have rd : ∀ x, x ∈ B → AllP (RdOk off.length) x.2.2 := fun x hx => (hs.2.2.2.2 x hx).2.1
 have rd' : ∀ x, x ∈ B.drop t ++ B.take t → AllP (RdOk off.length) x.2.2 := fun x hx => rd x (jq.1 hx)
 have f1 := fun p (h : TrS off er B p) => tu_tr o1.1 (rot_1 ht) rd h
 have f2 := fun p (h : TrS off er (B.drop t ++ B.take t) p) => tu_tr o1.1 (rot_2 ht) rd' h
 have at_ : ∀ (f : Nat → Nat) p i, i ≤ off.length → tu off.length f p i = p i := fun f p i hi => by unfold tu; rw [if_pos hi]
 rcases s80 hs hS hN with ⟨F, e, g, tt⟩ | ⟨e, tt⟩
 ·rcases s80 hs' hS' hN with ⟨F', e', g', tt'⟩ | ⟨e', tt'⟩
  ·rw [jI hs hS hN e g, jI hs' hS' hN e' g']
   congr 2
   refine List.ext_getElem? fun i => ?_
   by_cases hi : i < off.length
   ·rw [jR hi, jR hi]
    obtain ⟨q1, q2⟩ := YY (i := 1 + i) (i' := 1 + i) (m := 0) g g' tt tt' (by omega) (by omega)
     (fun p h => ⟨_, f1 p h, by rw [at_ _ _ _ (by omega), at_ _ _ _ (by omega)]; omega⟩) (fun p h => ⟨_, f2 p h, by rw [at_ _ _ _ (by omega), at_ _ _ _ (by omega)]; omega⟩)
    congr 1
    refine Prod.ext ?_ ?_
    ·dsimp only; omega
    ·dsimp only; omega
   ·rw [List.getElem?_eq_none (by rw [vD]; omega), List.getElem?_eq_none (by rw [vD]; omega)]
  ·exact absurd (f1 _ ((tt _).1 (ug g))) (tt' _)
 ·rcases s80 hs' hS' hN with ⟨F', e', g', tt'⟩ | ⟨e', tt'⟩
  ·exact absurd (f2 _ ((tt' _).1 (ug g'))) (tt _)
  ·rw [(uc hs hS hN e).1, (uc hs' hS' hN e').1]
def shR (k : Nat) (n : Int) (r : Int × Int) : Int × Int := if r.1 = (k : Int) then (r.1, r.2 + n) else r
def shB (k : Nat) (n : Int) (B : List Ba) : List Ba := B.map fun x => (x.1, x.2.1, x.2.2.map (shR k n))
def shP (k : Nat) (n : Int) (p : Nat → Int) : Nat → Int := fun i => if i = 1 + k then p i + n else p i
theorem shR_1 {k : Nat} {n : Int} {r : Int × Int} : (shR k n r).1 = r.1 := by unfold shR; split <;> rfl
theorem sh_tr {k : Nat} {n lo hi : Int} {p : Nat → Int} (hk : off[k]? = some (lo, hi)) (hr : ∀ x, x ∈ B → AllP (RdOk off.length) x.2.2) : TrS (off.set k (lo + n, hi + n)) er (shB k n B) (shP k n p) ↔ TrS off er B p := by
 have hkl := z3 hk
 have l1 : (off.set k (lo + n, hi + n)).length = off.length := List.length_set
 have p0 : shP k n p 0 = p 0 := by unfold shP; rw [if_neg (by omega)]
 have pb : ∀ b, shP k n p (1 + off.length + b) = p (1 + off.length + b) := fun b => by unfold shP; rw [if_neg (by omega)]
 have sb : ∀ b, (shB k n B)[b]? = (B[b]?).map fun (x : Ba) => (x.1, x.2.1, x.2.2.map (shR k n)) := fun b => by unfold shB; rw [List.getElem?_map]
 have hst : StS (stand (off.set k (lo + n, hi + n)) (shB k n B)) (shP k n p) ↔ StS (stand off B) p := by
  have hi' : ∀ b, (stand (off.set k (lo + n, hi + n)) (shB k n B))[1 + off.length + b]? = (stand off B)[1 + off.length + b]? := fun b => by
   have := uB (off := off.set k (lo + n, hi + n)) (B := shB k n B) (b := b)
   rw [l1] at this
   rw [this, uB, sb, Option.map_map]; rfl
  have z0 : ∀ (o : List (Int × Int)) (C : List Ba), (stand o C)[0]? = some (0, 0) := fun o C => by unfold stand; rfl
  have zo : ∀ (o : List (Int × Int)) (C : List Ba) i, i < o.length → (stand o C)[1 + i]? = o[i]? := fun o C i hi => by
   rw [jE (by omega), Nat.add_comm]; rfl
  constructor
  ·intro h i r hr2
   by_cases c : i ≤ off.length
   ·cases i with
    | zero => rw [z0] at hr2; cases hr2; dsimp only; omega
    | succ j =>
     rw [show j + 1 = 1 + j by omega] at hr2 ⊢
     rw [zo _ _ _ (by omega)] at hr2
     by_cases e : j = k
     ·subst e
      rw [hk] at hr2; cases hr2
      have := h (1 + j) (lo + n, hi + n) (by rw [zo _ _ _ (by omega), List.getElem?_set_self hkl])
      rw [p0] at this
      unfold shP at this
      rw [if_pos rfl] at this
      dsimp only at this ⊢
      omega
     ·have := h (1 + j) r (by rw [zo _ _ _ (by omega), List.getElem?_set_ne (fun q => e q.symm)]; exact hr2)
      rw [p0] at this
      unfold shP at this
      rw [if_neg (by omega)] at this
      exact this
   ·obtain ⟨b, rfl⟩ : ∃ b, i = 1 + off.length + b := ⟨i - 1 - off.length, by omega⟩
    have := h (1 + off.length + b) r (by rw [hi' b]; exact hr2)
    rw [p0, pb] at this
    exact this
  ·intro h i r hr2
   rw [p0]
   by_cases c : i ≤ off.length
   ·cases i with
    | zero => rw [z0] at hr2; cases hr2; rw [p0]; dsimp only; omega
    | succ j =>
     rw [show j + 1 = 1 + j by omega] at hr2 ⊢
     rw [zo _ _ _ (by omega)] at hr2
     by_cases e : j = k
     ·subst e
      rw [List.getElem?_set_self hkl] at hr2; cases hr2
      have := h (1 + j) (lo, hi) (by rw [zo _ _ _ (by omega)]; exact hk)
      unfold shP
      rw [if_pos rfl]
      dsimp only at this ⊢
      omega
     ·rw [List.getElem?_set_ne (fun q => e q.symm)] at hr2
      have := h (1 + j) r (by rw [zo _ _ _ (by omega)]; exact hr2)
      unfold shP
      rw [if_neg (by omega)]
      exact this
   ·obtain ⟨b, rfl⟩ : ∃ b, i = 1 + off.length + b := ⟨i - 1 - off.length, by omega⟩
    rw [pb]
    exact h (1 + off.length + b) r (by rw [← hi' b]; exact hr2)
 have hrd : ∀ b (r : Int × Int), RdOk off.length r → (RdS off.length er b (shR k n r) (shP k n p) ↔ RdS off.length er b r p) := fun b r ho => by
  unfold RdS
  rw [shR_1, pb]
  unfold shP shR
  by_cases c : r.1 = (k : Int)
  ·rw [if_pos (by omega), if_pos c]; dsimp only; omega
  ·rw [if_neg (by have := ho.1; omega), if_neg c]
 constructor
 ·rintro ⟨h1, h2⟩
  refine ⟨hst.1 h1, fun b x hx r hrr => ?_⟩
  have := h2 b _ (by rw [sb, hx]; rfl) (shR k n r) (List.mem_map.2 ⟨r, hrr, rfl⟩)
  rw [l1] at this
  exact (hrd b r (hr x (List.mem_of_getElem? hx) r hrr)).1 this
 ·rintro ⟨h1, h2⟩
  refine ⟨hst.2 h1, fun b y hy r hrr => ?_⟩
  rw [sb] at hy
  cases hb : B[b]? with
  | none => rw [hb] at hy; cases hy
  | some x =>
   rw [hb] at hy
   cases hy
   obtain ⟨r0, hr0, rfl⟩ := List.mem_map.1 hrr
   rw [l1]
   exact (hrd b r0 (hr x (List.mem_of_getElem? hb) r0 hr0)).2 (h2 b x hb r0 hr0)
theorem sh_inv {k : Nat} {n : Int} {p : Nat → Int} : shP k n (shP k (-n) p) = p := by
 funext i
 unfold shP
 split <;> omega
end
end Go.Hx.V

namespace Go.Hx.V
open Go.Hx
section
variable {off : List (Int × Int)} {er : Int} {B : List Ba} {N : Nat}
theorem s16a {k b : Nat} {a n : Int} {x : Ba} {acc : List Ba} (hs : SerOk off er B) (hx : B[b]? = some x) (hxl : x.2.2.length ≤ 100) (hk : Int.tmod a (off.length : Int) = (k : Int)) (hn : -128 ≤ n ∧ n < 128) (hN : 1000 ≤ N) :
  iter (sf16_L1 off B a n ((b : Int), acc)) N ((0 : Int), ([] : List (Int × Int))) = some (x.2.2.map (shR k n)) := by
 have hxo := hs.2.2.2.2 x (List.mem_of_getElem? hx)
 refine ym (fun j => ((j : Int), (x.2.2.map (shR k n)).take j)) x.2.2.length _ rfl (fun j hj => ?_) ?_ (by omega)
 ·obtain ⟨r, hr⟩ : ∃ r, x.2.2[j]? = some r := ⟨_, zZ hj⟩
  have hro := hxo.2.1 r (List.mem_of_getElem? hr)
  obtain ⟨_, b1, b2⟩ : (0 ≤ r.1 ∧ r.1 < (off.length : Int)) ∧ -1000 ≤ r.2 ∧ r.2 ≤ 2000 := hro
  have hm : (x.2.2.map (shR k n))[j]? = some (shR k n r) := by rw [List.getElem?_map, hr]; rfl
  have tl : ((x.2.2.map (shR k n)).take j).length ≤ 100 := by rw [List.length_take, List.length_map]; omega
  unfold sf16_L1
  dsimp only
  rw [zU rfl hx, decide_eq_true (by omega), cond_true, zU rfl hx, zU rfl hr, hk]
  by_cases c : r.1 = (k : Int)
  ·rw [decide_eq_true c, cond_true, zr (by unfold rng; omega), zi, zr (by omega), zr (by unfold rng; omega), yo hm]
   unfold shR; rw [if_pos c]; rfl
  ·rw [decide_eq_false c, cond_false, zi, zr (by omega), zr (by unfold rng; omega), yo hm]
   unfold shR; rw [if_neg c]; rfl
 ·unfold sf16_L1
  dsimp only
  rw [zU rfl hx, decide_eq_false (by omega), cond_false, List.take_of_length_le (by rw [List.length_map]; exact Nat.le_refl _)]
theorem s16b {k : Nat} {a n : Int} (hs : SerOk off er B) (hS : Short B) (hk : Int.tmod a (off.length : Int) = (k : Int)) (hn : -128 ≤ n ∧ n < 128) (hN : 1000 ≤ N) :
  iter (sf16_L2 N off B a n) N ((0 : Int), ([] : List Ba)) = some (shB k n B) := by
 have o3 := hs.2.2.2.1
 have hl : (shB k n B).length = B.length := by unfold shB; rw [List.length_map]
 refine ym (fun j => ((j : Int), (shB k n B).take j)) B.length _ rfl (fun j hj => ?_) ?_ (by omega)
 ·obtain ⟨x, hx⟩ : ∃ x, B[j]? = some x := ⟨_, zZ hj⟩
  have hm : (shB k n B)[j]? = some (x.1, x.2.1, x.2.2.map (shR k n)) := by unfold shB; rw [List.getElem?_map, hx]; rfl
  have tl : ((shB k n B).take j).length ≤ 100 := by rw [List.length_take, hl]; omega
  unfold sf16_L2
  dsimp only
  rw [decide_eq_true (by omega), cond_true, zU rfl hx, s16a hs hx (hS x (List.mem_of_getElem? hx)) hk hn hN, zi, zr (by omega), zr (by unfold rng; omega), yo hm]
  rfl
 ·unfold sf16_L2
  dsimp only
  rw [decide_eq_false (by omega), cond_false, List.take_of_length_le (by rw [hl]; exact Nat.le_refl _)]
theorem shifted {k : Nat} {n lo hi : Int} (hs : SerOk off er B) (hS : Short B) (hk : off[k]? = some (lo, hi)) (hx : SerOk (off.set k (lo + n, hi + n)) er (shB k n B)) (hN : 1000 ≤ N) :
  ∃ o h o' e, sf27 N off er B = some (o, e) ∧ sf28 N off er B = some (h, e) ∧ sf27 N (off.set k (lo + n, hi + n)) er (shB k n B) = some (o', e) ∧ sf28 N (off.set k (lo + n, hi + n)) er (shB k n B) = some (h, e) ∧ (e = 0 ∨ e = 9) ∧
   o'.length = o.length ∧ o.length ≤ 100 ∧ h.length ≤ 100 ∧ ∀ (j : Nat) (y : Int × Int), o[j]? = some y → (-1000000 ≤ y.1 ∧ y.1 ≤ 1000000 ∧ -1000000 ≤ y.2 ∧ y.2 ≤ 1000000) ∧ o'[j]? = some (y.1 + (if j = k then n else 0), y.2 + (if j = k then n else 0)) := by
 have o1 := hs.1; have o3 := hs.2.2.2.1
 have hkl := z3 hk
 have l1 : (off.set k (lo + n, hi + n)).length = off.length := List.length_set
 have l2 : (shB k n B).length = B.length := by unfold shB; rw [List.length_map]
 have hSx : Short (shB k n B) := fun y hy => by
  unfold shB at hy
  obtain ⟨x, hx, rfl⟩ := List.mem_map.1 hy
  dsimp only
  rw [List.length_map]; exact hS x hx
 have rd : ∀ x, x ∈ B → AllP (RdOk off.length) x.2.2 := fun x hx => (hs.2.2.2.2 x hx).2.1
 have f1 : ∀ p, TrS off er B p → TrS (off.set k (lo + n, hi + n)) er (shB k n B) (shP k n p) := fun p h => (sh_tr hk rd).2 h
 have f2 : ∀ p, TrS (off.set k (lo + n, hi + n)) er (shB k n B) p → TrS off er B (shP k (-n) p) := fun p h => (sh_tr (p := shP k (-n) p) hk rd).1 (by rw [sh_inv]; exact h)
 rcases s80 hs hS hN with ⟨F, e, g, tt⟩ | ⟨e, tt⟩
 ·rcases s80 hx hSx hN with ⟨F', e', g', tt'⟩ | ⟨e', tt'⟩
  ·have r1 := jI hs hS hN e g
   have r2 := X1 hs hS hN e g
   have r3 := jI hx hSx hN e' g'
   have r4 := X1 hx hSx hN e' g'
   rw [l1] at r3 r4
   rw [l2] at r4
   have he : ∀ (i : Nat) (m : Int), i ≤ off.length + B.length → (∀ p, shP k n p i - shP k n p 0 = p i - p 0 + m) → (∀ p, p i - p 0 = shP k (-n) p i - shP k (-n) p 0 + m) → F' (0 * 13 + i) = F (0 * 13 + i) + m ∧ -F' (i * 13 + 0) = -F (i * 13 + 0) + m := fun i m hi q1 q2 =>
    YY g g' tt tt' hi (by rw [l1, l2]; exact hi) (fun p h => ⟨_, f1 p h, q1 p⟩) (fun p h => ⟨_, f2 p h, q2 p⟩)
   have hh : hts off.length B.length F' = hts off.length B.length F := by
    refine List.ext_getElem? fun b => ?_
    by_cases hb : b < B.length
    ·rw [Yl hb, Yl hb]
     obtain ⟨q1, q2⟩ := he (1 + off.length + b) 0 (by omega) (fun p => by unfold shP; rw [if_neg (by omega), if_neg (by omega)]; omega) (fun p => by unfold shP; rw [if_neg (by omega), if_neg (by omega)]; omega)
     congr 1
     refine Prod.ext ?_ ?_
     ·dsimp only; omega
     ·dsimp only; omega
    ·rw [List.getElem?_eq_none (by rw [jt]; omega), List.getElem?_eq_none (by rw [jt]; omega)]
   rw [hh] at r4
   refine ⟨_, _, _, 0, r1, r2, r3, r4, .inl rfl, by rw [vD, vD], by rw [vD]; omega, by rw [jt]; omega, fun j y hy => ?_⟩
   have hj : j < off.length := by have := z3 hy; rw [vD] at this; exact this
   rw [jR hj] at hy
   cases hy
   have v1 := g.ub 0 (1 + j) (Nat.zero_le _) (by omega)
   have v2 := g.lb (i := 0) (j := 1 + j) (Nat.zero_le _) (by omega)
   have v3 := g.ub (1 + j) 0 (by omega) (Nat.zero_le _)
   have v4 := g.lb (i := 1 + j) (j := 0) (by omega) (Nat.zero_le _)
   refine ⟨by dsimp only; omega, ?_⟩
   rw [jR hj]
   obtain ⟨q1, q2⟩ := he (1 + j) (if j = k then n else 0) (by omega) (fun p => by
    unfold shP
    rw [if_neg (show ¬ 0 = 1 + k by omega)]
    by_cases c : j = k
    ·rw [if_pos (by omega), if_pos c]; omega
    ·rw [if_neg (by omega), if_neg c]; omega) (fun p => by
    unfold shP
    rw [if_neg (show ¬ 0 = 1 + k by omega)]
    by_cases c : j = k
    ·rw [if_pos (by omega), if_pos c]; omega
    ·rw [if_neg (by omega), if_neg c]; omega)
   dsimp only
   rw [q1, q2]
  ·exact absurd (f1 _ ((tt _).1 (ug g))) (tt' _)
 ·rcases s80 hx hSx hN with ⟨F', e', g', tt'⟩ | ⟨e', tt'⟩
  ·exact absurd (f2 _ ((tt' _).1 (ug g'))) (tt _)
  ·obtain ⟨b1, b2⟩ := uc hs hS hN e
   obtain ⟨c1, c2⟩ := uc hx hSx hN e'
   exact ⟨[], [], [], 9, b1, b2, c1, c2, .inr rfl, rfl, by simp, by simp, fun j y hy => by simp at hy⟩
theorem wrap8 {x : Int} (h : -128 ≤ x ∧ x < 128) : IntKind.wrap .i64 x = x := yE x (by omega) (by omega)
theorem law16 {a n t : Int} (ha : 0 ≤ a ∧ a < 256) (hn : -128 ≤ n ∧ n < 128) (ht : 0 ≤ t ∧ t < 256) (hN : 1000 ≤ N) : sf16 N off er B a n t = some true := by
 obtain ⟨v, e0, hv⟩ := s60 (N := N) (off := off) (er := er) (B := B) hN
 unfold sf16
 rw [e0, zi]
 cases v with
 | false => rfl
 | true =>
  obtain ⟨hth, hs⟩ := hv rfl
  have hS := jB hth
  have o1 := hs.1; have o3 := hs.2.2.2.1
  have hol : (0 : Int) < (off.length : Int) := by omega
  have q1 := Int.tmod_nonneg (off.length : Int) ha.1
  have q2 := Int.tmod_lt_of_pos a hol
  obtain ⟨k, hk⟩ : ∃ k : Nat, Int.tmod a (off.length : Int) = (k : Int) := ⟨(Int.tmod a (off.length : Int)).toNat, by omega⟩
  have hkl : k < off.length := by omega
  obtain ⟨lo, hi, hx⟩ : ∃ lo hi, off[k]? = some (lo, hi) := ⟨_, _, zZ hkl⟩
  have hoo := hs.2.1 _ (List.mem_of_getElem? hx)
  unfold OffOk at hoo
  dsimp only at hoo
  rw [Bool.not_true, cond_false, zr (Yy ha), zr (by omega), zr (wrap8 hn), zr (by simp; omega), zU hk hx, zr (by unfold rng; omega), zU hk hx, zr (by unfold rng; omega), zU hk hx, s16b hs hS hk hn hN, zi]
  rw [s22 (by omega) (by omega) hS hN, zi, show Int.toNat (Int.tmod a (off.length : Int)) = k by omega]
  dsimp only
  have l1 : (off.set k (lo + n, hi + n)).length = off.length := List.length_set
  have l2 : (shB k n B).length = B.length := by unfold shB; rw [List.length_map]
  have hSx : Short (shB k n B) := fun y hy => by
   unfold shB at hy
   obtain ⟨x, hx, rfl⟩ := List.mem_map.1 hy
   dsimp only
   rw [List.length_map]; exact hS x hx
  -- what the series itself comes to
  obtain ⟨o, h, e, k1, k2, kl, kh, ke⟩ : ∃ o h e, sf27 N off er B = some (o, e) ∧ sf28 N off er B = some (h, e) ∧ o.length ≤ 100 ∧ h.length ≤ 100 ∧ (e = 0 ∨ e = 9) := by
   rcases s80 hs hS hN with ⟨F, e, g, _⟩ | ⟨e, _⟩
   ·exact ⟨_, _, _, jI hs hS hN e g, X1 hs hS hN e g, by rw [vD]; omega, by rw [jt]; omega, .inl rfl⟩
   ·exact ⟨_, _, _, (uc hs hS hN e).1, (uc hs hS hN e).2, by simp, by simp, .inr rfl⟩
  rw [k1, zi, zi, k2, zi]
  refine bnd_use (fun y => y = .inr ()) ?_ ?_
  ·by_cases c : (0 : Int) < (B.length : Int)
   ·have w1 := Int.tmod_nonneg (B.length : Int) ht.1
    have w2 := Int.tmod_lt_of_pos t c
    obtain ⟨z, hz⟩ : ∃ z : Nat, Int.tmod t (B.length : Int) = (z : Int) := ⟨(Int.tmod t (B.length : Int)).toNat, by omega⟩
    have hzl : z < B.length := by omega
    rw [decide_eq_true c, cond_true, zr (Yy ht), zr (by omega), zr (by omega), show Int.toNat (Int.tmod t (B.length : Int)) = z by omega, List.drop_zero, Nat.sub_zero,
     show (B.drop z).take (B.length - z) = B.drop z from List.take_of_length_le (by rw [List.length_drop]; exact Nat.le_refl _), zr (by rw [List.length_drop]; simp; omega), zr (by omega), zr (by rw [List.length_drop, List.length_take]; omega),
     s22 (by omega) (by rw [YJ (by omega)]; omega) (fun x hx => hS x (jq.1 hx)) hN, zi]
    dsimp only
    rw [turned hs hS hzl hN, k1, zi]
    dsimp only
    rw [decide_eq_true (p := e = e) rfl, Bool.not_true, cond_false, YI kl hN, zi, Bool.not_true, cond_false, zi, zi, Bool.not_true, cond_false]
    exact ⟨_, rfl, rfl⟩
   ·rw [decide_eq_false c, cond_false]
    exact ⟨_, rfl, rfl⟩
  ·rintro y rfl
   rw [sR]
   unfold sf25
   rw [s73 hSx hN, zi, zi]
   by_cases hc : code (off.set k (lo + n, hi + n)) er (shB k n B) = 0
   ·have hxs := kD hc
    rw [decide_eq_true hc, Bool.not_true, cond_false, s22 (by rw [l1]; omega) (by rw [l2]; omega) hSx hN, zi]
    dsimp only
    obtain ⟨o2, h2, o', e2, r1, r2, r3, r4, r5, r6, r7, r8, r9⟩ := shifted hs hS hx hxs hN
    rw [k1] at r1; cases r1
    rw [k2] at r2; cases r2
    rw [r3, zi, zi, r4, zi]
    dsimp only
    rw [decide_eq_true (p := e = e) rfl, Bool.not_true, cond_false, cond_false, cond_false, decide_eq_true (by omega), Bool.not_true, cond_false, YI kh hN, zi, Bool.not_true, cond_false, zi, zi, Bool.not_true, cond_false, zi, sR]
    rw [ym (x := (0 : Int)) (fun j => (j : Int)) o.length (Sum.inr ()) rfl (fun j hj => by
     obtain ⟨y, hy⟩ : ∃ y, o[j]? = some y := ⟨_, zZ hj⟩
     obtain ⟨bb, hy'⟩ := r9 j y hy
     unfold sf16_L3
     dsimp only
     rw [decide_eq_true (by omega), cond_true, hk]
     by_cases c : j = k
     ·rw [if_pos c] at hy'
      rw [decide_eq_true (by omega), cond_true, zi, zU rfl hy', zU rfl hy, zr (by unfold rng; omega), zU rfl hy, zr (by unfold rng; omega), show sf57 N (y.1 + n) (y.2 + n) = some (y.1 + n, y.2 + n) from rfl, zi]
      dsimp only
      rw [beq_self_eq_true, beq_self_eq_true, zr (by unfold rng; omega)]
      rfl
     ·rw [if_neg c] at hy'
      rw [decide_eq_false (by omega), cond_false, zi, zU rfl hy', zU rfl hy, zr (by unfold rng; omega), zU rfl hy, zr (by unfold rng; omega), show sf57 N (y.1 + 0) (y.2 + 0) = some (y.1 + 0, y.2 + 0) from rfl, zi]
      dsimp only
      rw [beq_self_eq_true, beq_self_eq_true, zr (by unfold rng; omega)]
      rfl) (by
     unfold sf16_L3
     dsimp only
     rw [decide_eq_false (by omega), cond_false]) (by omega), zi, sR]
    rcases ke with rfl | rfl <;> rfl
   ·rw [decide_eq_false hc]; rfl
end
end Go.Hx.V

namespace Go.Hx
noncomputable section
abbrev Kt := Tr HV → List Nat → Tr HBlk → Nat → Option (HV × HS)
abbrev Kv := HV → Tr HBlk → Nat → Option (HV × HS)
abbrev Ko := Nat → Tr HV → Tr HBlk → Nat → Kv → Option (HV × HS)
abbrev Kc := Nat → Option Nat → Kt → (Nat → Kt) → Kt → Kt
abbrev Kf := Nat → List HV → Tr HBlk → Nat → Kv → Option (HV × HS)
def Pa.tmp (p : Pa) (a : Tr HV) : HV := Option.rec (motive := fun _ => HV) .undef (fun v => v) (Tr.getP p a)
inductive Bx (α : Type) where
  | mk (f : α)
def Bx.run {α : Type} (b : Bx α) : α := Bx.rec (motive := fun _ => α) (fun f => f) b
def Bx.then {α β : Type} (b : Bx α) (g : α → Bx β) : Bx β := Bx.rec (motive := fun _ => Bx β) g b
def Pa.then {β : Type} (p : Pa) (g : Pa → Bx β) : Bx β := Pa.rec (motive := fun _ => Bx β) (g .z) (fun q _ => g (.a q)) (fun q _ => g (.b q)) (fun q _ => g (.c q)) (fun q _ => g (.d q)) p
def evK (x : Lo) : Bx (Tr HV → HV) :=
  match x with
  | .t n => .mk (Pa.tmp (pa n))
  | .c v => .mk (fun _ => v)
def evL (x : Lo) (a : Tr HV) : HV := (evK x).run a
def slowK (lp : Nat → Option zp) (nt : Nat) (o : LOp) : Ko := fun fl a h nx k =>
  match opH lp (exec lp 0) fl o ⟨nt, a, []⟩ ⟨h, nx⟩ with
  | some (v, σ) => k v σ.h σ.nx
  | none => none
def viaK (lp : Nat → Option zp) (fn : Nat → Bx Kf) (t : Nat) (name : String) (g : Nat) (args : List HV) : Nat → Tr HBlk → Nat → Kv → Option (HV × HS) := fun fl h nx k =>
  match viaOf lp g t name, args with
  | some off, .ptr (some (b, o)) :: rest => (fn g).run fl (.ptr (some (b, Nat.add o off)) :: rest) h nx k
  | _, _ => none
def callK (lp : Nat → Option zp) (fn : Nat → Bx Kf) (ro : Nat → Nat → List HV → Tr HBlk → Nat → Kv → Option (HV × HS)) (f : Tr HV → HV) (xs : List Lo) : Ko := fun fl a h nx k =>
  match f a with
  | .func g first captured => (fn g).run fl (first ++ xs.map (fun x => evL x a) ++ captured) h nx k
  | .yield l => ro fl l (xs.map fun x => evL x a) h nx k
  | .via t name g => viaK lp fn t name g (xs.map fun x => evL x a) fl h nx k
  | _ => none
def binK (g : IntKind → Int → Int → Option HV) (x y : HV) (h : Tr HBlk) (nx : Nat) (k : Kv) : Option (HV × HS) :=
  match x, y with
  | .int k1 m, .int k2 n => bif sameK k1 k2 then (match g k1 m n with | some v => k v h nx | none => none) else none
  | _, _ => none
def addrK (off : Nat) (x : HV) (h : Tr HBlk) (nx : Nat) (k : Kv) : Option (HV × HS) :=
  match x with
  | .ptr (some (b, o)) => k (.ptr (some (b, Nat.add o off))) h nx
  | _ => none
def idxK (len size : Nat) (x i : HV) (h : Tr HBlk) (nx : Nat) (k : Kv) : Option (HV × HS) :=
  match x, i with
  | .ptr (some (b, o)), .int _ (.ofNat i) => bif Nat.blt i len then k (.ptr (some (b, Nat.add o (Nat.mul i size)))) h nx else none
  | _, _ => none
def nilK (x : HV) (h : Tr HBlk) (nx : Nat) (k : Kv) : Option (HV × HS) :=
  match x with
  | .ptr (some p) => k (.ptr (some p)) h nx
  | .func f first captured => k (.func f first captured) h nx
  | _ => none
def nthK (i : Nat) : List HV → Option HV :=
  Nat.rec (motive := fun _ => List HV → Option HV) (fun l => List.rec (motive := fun _ => Option HV) none (fun v _ _ => some v) l) (fun _ ih l => List.rec (motive := fun _ => Option HV) none (fun _ t _ => ih t) l) i
def setR (i : Nat) (v : HV) : List HV → List HV :=
  Nat.rec (motive := fun _ => List HV → List HV) (fun l => List.rec (motive := fun _ => List HV) [] (fun _ t _ => v :: t) l) (fun _ ih l => List.rec (motive := fun _ => List HV) [] (fun x t _ => x :: ih t) l) i
def loadK (x : HV) (h : Tr HBlk) (nx : Nat) (k : Kv) : Option (HV × HS) :=
  match x with
  | .ptr (some (b, o)) =>
    match h.get b with
    | some (.cells cs _) =>
      match nthK o cs with
      | some v => k v h nx
      | none => none
    | _ => none
  | _ => none
def wrOk : BK → Bool
  | .ro => false
  | _ => true
def storeK (fl : Nat) (x v : HV) (h : Tr HBlk) (nx : Nat) (k : Kv) : Option (HV × HS) :=
  match x with
  | .ptr (some (b, o)) =>
    match h.get b with
    | some (.cells cs bk) =>
      bif Nat.ble fl b && v.one && wrOk bk then
        match nthK o cs with
        | some _ => k .undef (h.set b (some (.cells (setR o v cs) bk))) nx
        | none => none
      else none
    | _ => none
  | _ => none
def compOp (lp : Nat → Option zp) (fn : Nat → Bx Kf) (ro : Nat → Nat → List HV → Tr HBlk → Nat → Kv → Option (HV × HS)) (nt : Nat) (o : LOp) : Bx Ko :=
  match o with
  | .move x => (evK x).then fun e => .mk fun _ a h nx k => k (e a) h nx
  | .bin op x y => (evK x).then fun e => (evK y).then fun f => .mk fun _ a h nx k => binK (bif isShift op then shiftH op else intFast op) (e a) (f a) h nx k
  | .fieldAddr off x => (evK x).then fun e => .mk fun _ a h nx k => addrK off (e a) h nx k
  | .indexAddrA len size x i => (evK x).then fun e => (evK i).then fun f => .mk fun _ a h nx k => idxK len size (e a) (f a) h nx k
  | .nilCheck x => (evK x).then fun e => .mk fun _ a h nx k => nilK (e a) h nx k
  | .load false 1 x => (evK x).then fun e => .mk fun _ a h nx k => loadK (e a) h nx k
  | .store 1 x v => (evK x).then fun e => (evK v).then fun f => .mk fun fl a h nx k => bif (f a).one then storeK fl (e a) (f a) h nx k else slowK lp nt (.store 1 x v) fl a h nx k
  | .call f xs => (evK f).then fun e => .mk (callK lp fn ro e xs)
  | .callC f xs cs => (evK f).then fun e => .mk fun fl a h nx k => callK lp fn ro e xs fl a h nx fun v h nx => bif chkH ⟨nt, a, []⟩ ⟨h, nx⟩ cs then k v h nx else none
  | o => .mk (slowK lp nt o)
def putK (nt : Nat) (dst : Option Nat) : Bx (Tr HV → HV → Tr HV) :=
  match dst with
  | none => .mk fun a _ => a
  | some d => bif Nat.blt d nt then (pa d).then fun p => .mk (fun a v => Tr.setP (some v) p a) else .mk fun a _ => a
def isB (want : Bool) : HV → Bool
  | .bool b => b == want
  | _ => false
def guardK (g : Option (Nat × Bool)) (o : Bx Ko) : Bx Ko :=
  match g with
  | none => o
  | some (t, want) => (evK (.t t)).then fun e => o.then fun o => .mk fun fl a h nx k =>
      bif isB want (e a) then o fl a h nx k else k .undef h nx
def compOps (op : LOp → Bx Ko) (nt : Nat) : List zh → Bx (Nat → Kt → Kt)
  | [] => .mk fun _ k => k
  | o :: os => (guardK o.g (op o.op)).then fun f => (putK nt o.dst).then fun p => (compOps op nt os).then fun r => .mk fun fl k a ds h nx => f fl a h nx fun v h nx => r fl k (p a v) ds h nx
def drawK (op : LOp → Bx Ko) (nt s : Nat) : List zh → Bx (Nat → Nat → Nat → Tr HBlk → List (Nat × List (Nat × HBlk)) → Kt → Tr HV → List Nat → Nat → Option (HV × HS))
  | [] => .mk fun _ _ _ h0 done k a ds nx => k a ds (merge h0 none done) nx
  | o :: os => (guardK o.g (op o.op)).then fun f => (putK nt o.dst).then fun p => (drawK op nt s os).then fun r => (compOps op nt (o :: os)).then fun q => .mk fun fl n0 i h0 done k a ds nx =>
      bif Nat.blt i s then
        bif o.anc.contains i then
          f n0 a (merge h0 (some o.anc) done) nx fun v h nx' => bif Nat.ble nx nx' then r fl n0 (Nat.succ i) h0 ((i, newFrom h n0 (Nat.sub nx' n0)) :: dropAll o.anc done) k (p a v) ds nx' else none
        else
          f nx a (merge h0 (some o.anc) done) nx fun v h nx' => bif Nat.ble nx nx' then r fl n0 (Nat.succ i) h0 (bif Nat.beq nx nx' then done else (i, newFrom h nx (Nat.sub nx' nx)) :: done) k (p a v) ds nx' else none
      else q fl k a ds (merge h0 none done) nx
def loopK (b : Option HBlk) (k : LState → HExit → Nat → Tr HV → List Nat → ze → ze → Nat → Option (HV × HS)) : Option (HV × HS) :=
  match b with
  | some (.loop ⟨st, pe, nt, tm, ps, asg, bo, mk⟩) => k st pe nt tm ps asg bo mk
  | _ => none
def marksK (rd : Option Nat) (h : Tr HBlk) (nx : Nat) (k : Nat → List Nat → Tr HBlk → Nat → Option (HV × HS)) : Option (HV × HS) :=
  match rd with
  | none => k nx [nx] (h.set nx (some .marks)) (Nat.succ nx)
  | some l => loopK (h.get l) fun _ _ _ _ _ _ _ mk => k mk [] h nx
def notBusy : LState → Bool
  | .busy => false
  | _ => true
def isReady : LState → Bool
  | .ready => true
  | _ => false
def jumpK (e : HExit) (kn : Kt) (kx : Nat → Kt) (kr : Kt) : Kt :=
  match e with
  | .normal => kn
  | .exit i => kx i
  | .ret => kr
def rangeK (fn : Nat → Bx Kf) (nt : Nat) (e : Tr HV → HV) (ps : List Nat) (assign body : ze) : Kc := fun fl rd kn kx kr a ds h nx =>
  match e a with
  | .func g first captured =>
    marksK rd h nx fun mk ms h1 n1 =>
      (fn g).run fl (first ++ [.yield n1] ++ captured) (h1.set n1 (some (.loop ⟨.ready, .normal, nt, a, ps, assign, body, mk⟩))) (Nat.succ n1) fun _ h3 n3 =>
        loopK (h3.get n1) fun st pe nt' tm ps' asg bo mk' =>
          bif notBusy st && Nat.ble fl n1 then jumpK pe kn kx kr a (ms ++ ds) (h3.set n1 (some (.loop ⟨.exhausted, pe, nt', tm, ps', asg, bo, mk'⟩))) n3 else none
  | _ => none
def endK (l : Nat) (e : HExit) (k : Kv) (h : Tr HBlk) (nx : Nat) : Option (HV × HS) :=
  loopK (h.get l) fun _ _ nt tm ps asg bo mk =>
    match e with
    | .normal => k (.bool true) (h.set l (some (.loop ⟨.ready, .normal, nt, tm, ps, asg, bo, mk⟩))) nx
    | e => k (.bool false) (h.set l (some (.loop ⟨.done, e, nt, tm, ps, asg, bo, mk⟩))) nx
def roundK (co : Nat → ze → Bx Kc) : Nat → Nat → List HV → Tr HBlk → Nat → Kv → Option (HV × HS) := fun fl l args h nx k =>
  loopK (h.get l) fun _ _ nt tm ps asg bo _ =>
    match zipPut nt tm ps args with
    | some tm1 =>
      (co nt asg).run fl (some l)
        (fun a1 ds1 h1 n1 => loopK (h1.get l) fun st pe nt' tm' ps' asg' bo' mk' =>
          bif isReady st && Nat.ble fl l then
            (co nt bo).run fl (some l) (fun _ _ => endK l .normal k) (fun i _ _ => endK l (.exit i) k) (fun _ _ => endK l .ret k) a1 ds1 (h1.set l (some (.loop ⟨.busy, pe, nt', tm', ps', asg', bo', mk'⟩))) n1
          else none)
        (fun _ _ _ _ _ => none) (fun _ _ _ _ => none) tm1 [] h nx
    | none => none
def comp (op : LOp → Bx Ko) (fn : Nat → Bx Kf) (nt : Nat) : ze → Bx Kc
  | .skip => .mk fun _ _ kn _ _ => kn
  | .seq x y => (comp op fn nt x).then fun f => (comp op fn nt y).then fun g => .mk fun fl rd kn kx kr => f fl rd (g fl rd kn kx kr) kx kr
  | .cond c x y => (evK c).then fun e => (comp op fn nt x).then fun f => (comp op fn nt y).then fun g => .mk fun fl rd kn kx kr a ds h nx =>
      match e a with
      | .bool b => bif b then f fl rd kn kx kr a ds h nx else g fl rd kn kx kr a ds h nx
      | _ => none
  | .block id x => (comp op fn nt x).then fun f => .mk fun fl rd kn kx kr => f fl rd kn (fun i => bif Nat.beq i id then kn else kx i) kr
  | .loop x => (comp op fn nt x).then fun f => .mk fun fl rd _ kx kr => Nat.rec (motive := fun _ => Kt) (fun _ _ _ _ => none) (fun _ ih => f fl rd ih kx kr) 1000000
  | .scope x => comp op fn nt x
  | .exit id => .mk fun _ _ _ kx _ => kx id
  | .ret => .mk fun _ _ _ _ kr => kr
  | .reg ops => (compOps op nt ops).then fun f => .mk fun fl _ kn _ _ => f fl kn
  | .draw s ops => (drawK op nt s ops).then fun f => .mk fun fl _ kn _ _ a ds h nx => bif Nat.ble fl nx then f fl nx 0 h [] kn a ds nx else none
  | .rangeFunc f ps assign body => (evK f).then fun e => .mk (rangeK fn nt e ps assign body)
  | .bad => .mk fun _ _ _ _ _ _ _ _ _ => none
def leaveK (fl : Nat) (nt : Nat) (res : List LRes) (k : Kv) : Kt := fun a ds h nx =>
  match leaveH fl ⟨nt, a, ds⟩ res ⟨h, nx⟩ with
  | some (v, σ) => k v σ.h σ.nx
  | none => none
abbrev Kr := Nat → Nat → List HV → Tr HBlk → Nat → Kv → Option (HV × HS)
def gcK (h : Tr HBlk) (nx : Nat) (k : Kv) : Kv := fun v h' nx' => k v (keepD h' nx 5 [v] h) nx'
def specK (g : List HV → HS → Option (HV × HS)) : Kf := fun _ args h nx k =>
  match g args ⟨h, nx⟩ with
  | some (v, σ) => bif Nat.ble nx σ.nx then k v σ.h σ.nx else none
  | none => none
def enterK (lf : zp) (body : Kc) : Bx Kf :=
  bif lf.imp then .mk fun fl args h nx k => bif Nat.ble args.length lf.nt then body fl none (leaveK fl lf.nt lf.res k) (fun _ _ _ _ _ => none) (leaveK fl lf.nt lf.res k) (putAll .e 0 args) [] h nx else none
  else .mk fun _ args h nx k => bif Nat.ble args.length lf.nt then body nx none (leaveK nx lf.nt lf.res (gcK h nx k)) (fun _ _ _ _ _ => none) (leaveK nx lf.nt lf.res (gcK h nx k)) (putAll .e 0 args) [] h nx else none
def bothK (lp : Nat → Option zp) : Nat → (Nat → Bx Kf) × Kr
  | 0 => (fun _ => .mk fun _ _ _ _ _ => none, fun _ _ _ _ _ _ => none)
  | n + 1 =>
    (fun f =>
      match lp f with
      | none => .mk fun _ _ _ _ _ => none
      | some lf =>
        match lf.spec with
        | some g => .mk (specK g)
        | none => (comp (compOp lp (bothK lp n).1 (bothK lp n).2 lf.nt) (bothK lp n).1 lf.nt lf.body).then (enterK lf),
     roundK fun nt c => comp (compOp lp (bothK lp n).1 (bothK lp n).2 nt) (bothK lp n).1 nt c)
def fnK (lp : Nat → Option zp) (n : Nat) : Nat → Bx Kf := (bothK lp n).1
end
end Go.Hx

