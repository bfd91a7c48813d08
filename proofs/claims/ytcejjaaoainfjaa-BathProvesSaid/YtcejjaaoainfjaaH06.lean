import Derived.Test.YtcejjaaoainfjaaH05
import Derived.Test.YtcejjaaoainfjaaH03
import Derived.Test.YtcejjaaoainfjaaH00
import Derived.Test.YtcejjaaoainfjaaH02
import Derived.Test.YtcejjaaoainfjaaH01
import Derived.OpenShut
import Derived.ChangeSlices
import Derived.Test.YtcejjaaoainfjaaRows
set_option linter.all false
namespace Go.Hx.V
open Go.Hx
set_option maxRecDepth 20000
set_option maxHeartbeats 4000000
variable {fl : Nat} {h0 : Tr HBlk} {n0 : Nat} {F0 : PH}
attribute [local irreducible] W R C thenH inBlockH Tr.get Tr.set lo ck bnd ix iter
theorem ct23 (N:Nat) {a0_0:(List (Int × Int))} {a0_1:Int} {a0_2:(List (Int × Int × (List (Int × Int))))} {a1:(List Int)} {a2:(List Int)} {r:Bool} (hF:sf23 N a0_0 a0_1 a0_2 a1 a2 = some r) (hd:D h0 n0) (hs:F0.sub h0) {pa0_0:Option (Nat × Nat)} {ca0_0:Nat} {pa0_2:Option (Nat × Nat)} {ca0_2:Nat} {pa1:Option (Nat × Nat)} {ca1:Nat} {pa2:Option (Nat × Nat)} {ca2:Nat} (ra0_0:RowF (rP rI rI) 2 F0 pa0_0 ca0_0 a0_0) (ra0_2:RowF (rP rI (rP rI (rL (rP rI rI) 2))) 3 F0 pa0_2 ca0_2 a0_2) (ra1:RowF rI 1 F0 pa1 ca1 a1) (ra2:RowF rI 1 F0 pa2 ca2 a2):C LW fl 23 [(.agg [(.slice pa0_0 (a0_0).length ca0_0),(i64 a0_1),(.slice pa0_2 (a0_2).length ca0_2)]),(.slice pa1 (a1).length ca1),(.slice pa2 (a2).length ca2)] ⟨h0,n0⟩ (KS (.bool r) n0 h0):=by
 unfold sf23 at hF
 refine yd hd hs lw23 rfl rfl (by rfl) (fun st T hT=>?_)
 have hfl:n0 ≤ n0:=Nat.le_refl n0
 have t0:=hT 0 _ rfl
 have t1:=hT 1 _ rfl
 have t2:=hT 2 _ rfl
 dsimp only [L23]
 have st:=st.mk0
 refine zd (zi ?_);refine ya st (fun b1 h2 n3 st=>?_);refine ya st (fun b4 h5 n6 st=>?_);refine ya st (fun b7 h8 n9 st=>?_);refine z6 st (fun b10 h11 n12 st=>?_);refine zc (th_n ?_);obtain ⟨y33,hA34,hF⟩:=zk hF;refine ye (fun T ds39 h nx=>∃ u,y33 = (.inr u) ∧ ∃ (F39:PH),PH.le F0 F39 ∧ St n0 h0 F0 F39 h nx [.mks ds39,.bx b1 [(.slice pa0_0 (a0_0).length ca0_0),(i64 a0_1),(.slice pa0_2 (a0_2).length ca0_2)],.bx b4 [(.slice pa1 (a1).length ca1)],.bx b7 [(.slice pa2 (a2).length ca2)],.bx b10 [(.bool false)]] ∧ T.get 3 = some (.ptr (some (b1,0))) ∧ T.get 4 = some (.ptr (some (b4,0))) ∧ T.get 5 = some (.ptr (some (b7,0))) ∧ T.get 6 = some (.ptr (some (b10,0)))) ?_ (fun T ds39 h nx hp=>?_)
 ·have hK35:=hF
  have hF:=hA34;obtain ⟨y47,hA48,hF⟩:=zk hF;refine ye (fun T ds50 h nx=>∃ (F50:PH),PH.le F0 F50 ∧ St n0 h0 F0 F50 h nx [.mks ds50,.bx b1 [(.slice pa0_0 (a0_0).length ca0_0),(i64 a0_1),(.slice pa0_2 (a0_2).length ca0_2)],.bx b4 [(.slice pa1 (a1).length ca1)],.bx b7 [(.slice pa2 (a2).length ca2)],.bx b10 [(.bool false)]] ∧ T.get 3 = some (.ptr (some (b1,0))) ∧ T.get 4 = some (.ptr (some (b4,0))) ∧ T.get 5 = some (.ptr (some (b7,0))) ∧ T.get 6 = some (.ptr (some (b10,0))) ∧ T.get 19 = some (.bool y47)) ?_ (fun T ds50 h nx hp=>?_)
  ·have hK49:=hF
   have hF:=hA48;refine zi ?_;refine zT (vs:=[(.slice pa0_0 (a0_0).length ca0_0),(i64 a0_1),(.slice pa0_2 (a0_2).length ca0_2)]) (st.at (i:=1) rfl).2.2 rfl ?_;obtain ⟨v51,e52,hF⟩:=zk hF;refine zL st (ct21 N e52 st.d st.sub ra0_0 ra0_2) (fun n53 st=>?_);refine j3 ?_;refine za ?_
   rcases Bool.eq_false_or_eq_true (!(decide (v51 = (0:Int)))) with hb54 | hb54
   ·have hF:=zt hb54 hF;refine zg hb54 ?_;refine zg hb54 ?_;refine zg hb54 ?_;refine zg hb54 ?_;refine zg hb54 ?_;refine zQ hb54 ?_;refine zc ?_;obtain rfl:=inj hF;refine thn ⟨rfl,?_⟩;dsimp only
    exact ⟨F0,(PH.le.refl _),st,gA,gA,gA,gA,gA⟩
   ·have hF:=zu hb54 hF;refine zj hb54 (zT (vs:=[(.slice pa0_0 (a0_0).length ca0_0),(i64 a0_1),(.slice pa0_2 (a0_2).length ca0_2)]) (st.at (i:=1) rfl).2.2 rfl ?_);refine zj hb54 (zn (st.at (i:=2) rfl).2.2 rfl ?_);refine zj hb54 (zn (st.at (i:=3) rfl).2.2 rfl ?_);obtain ⟨v55,e56,hF⟩:=zk hF;refine zj hb54 (zL st (ct70 N e56 st.d st.sub ra0_0 ra0_2 ra1 ra2) (fun n57 st=>?_));refine zj hb54 (yD ?_);refine zA hb54 ?_;refine zc ?_;obtain rfl:=inj hF;refine thn ⟨rfl,?_⟩;dsimp only
    exact ⟨F0,(PH.le.refl _),st,gA,gA,gA,gA,gA⟩
  ·obtain ⟨F50,le50,st,t3,t4,t5,t6,t19⟩:=hp;refine zB (fun hb58=>?_) (fun hb58=>?_)
   ·have hF:=zt hb58 hF;refine zd (zi ?_);refine v_st (cs':=[(.bool false)]) st 4 rfl rfl rfl rfl hfl (fun h59 st=>?_);refine zc (th_n ?_);refine zy ?_;obtain rfl:=inj hF;have hF:=hK35;have hF:=yc hF;refine th_r ?_;obtain rfl:=inj hF
    exact Xp st 0 rfl (.inl rfl) [(.bool false)] (fun h st=>(Res.c1 gA (st.at (i:=4) rfl).2.2 rfl Res.nil)) rfl rfl
   ·have hF:=zu hb58 hF;refine zC ?_;obtain rfl:=inj hF;refine thn ⟨rfl,_,rfl,?_⟩;dsimp only
    exact ⟨F50,le50,st,gA,gA,gA,gA⟩
 ·obtain ⟨w38,rfl,F39,le39,st,t3,t4,t5,t6⟩:=hp;have hF:=yb hF;refine zd ?_;refine zd (zi ?_);refine zT (vs:=[(.slice pa0_0 (a0_0).length ca0_0),(i64 a0_1),(.slice pa0_2 (a0_2).length ca0_2)]) (st.at (i:=1) rfl).2.2 rfl ?_;refine v_inl lw71 rfl rfl (fun T hT=>?_)
  have t0:=hT 0 _ rfl
  dsimp only [L71]
  refine zd (zi ?_);refine ya st (fun b61 h62 n63 st=>?_);refine za ?_;refine zc (th_n ?_);refine zd (zi ?_);refine v_mf ?_;refine za ?_;refine zc (th_n ?_);refine zy ?_;refine inl_end (v:=(.func 103 [] [(.ptr (some (b61,0)))])) (Res.t gA Res.nil) rfl (.inl rfl) (ik ?_);refine zc (th_n ?_);refine zx ?_;refine w_rangeV st 0 rfl hfl lw103 rfl rfl (fun l=>rfl) (fun m64 l64 r64 T h64 n64 rs64 rp64 rn64 rT64 ro64 ra64 rb64 st hT=>?_);obtain ⟨T64,rt64⟩:∃ X,X = r64.tmps:=⟨_,rfl⟩
  have u64_3:T64.get 3 = some (.ptr (some (b1,0))):=by rw [rt64,rT64];repeat first | exact ge_h | refine ge_w rfl ?_ | refine ge_f rfl ?_ | refine ge_m rfl ?_ | assumption
  have u64_4:T64.get 4 = some (.ptr (some (b4,0))):=by rw [rt64,rT64];repeat first | exact ge_h | refine ge_w rfl ?_ | refine ge_f rfl ?_ | refine ge_m rfl ?_ | assumption
  have u64_5:T64.get 5 = some (.ptr (some (b7,0))):=by rw [rt64,rT64];repeat first | exact ge_h | refine ge_w rfl ?_ | refine ge_f rfl ?_ | refine ge_m rfl ?_ | assumption
  have u64_6:T64.get 6 = some (.ptr (some (b10,0))):=by rw [rt64,rT64];repeat first | exact ge_h | refine ge_w rfl ?_ | refine ge_f rfl ?_ | refine ge_m rfl ?_ | assumption
  have t0:=hT 0 _ rfl
  have t1:=hT 1 _ rfl
  dsimp only [L103]
  refine zd (zi ?_);refine v_fa ?_;refine zn (st.at (i:=5) rfl).2.2 rfl ?_;refine zS ?_;refine za ?_;refine zc (th_n ?_);refine zx ?_;obtain ⟨y303,hy,hF⟩:=zk hF;refine zU (sf23_L2 N a0_1 a0_2 a1 a2) (fun x184 T ds185 h nx=>∃ (F185:PH),ds185 = [] ∧ PH.le F39 F185 ∧ St n0 h0 F0 F185 h nx [.mks (m64 :: ds39),.bx b1 [(.slice pa0_0 (a0_0).length ca0_0),(i64 a0_1),(.slice pa0_2 (a0_2).length ca0_2)],.bx b4 [(.slice pa1 (a1).length ca1)],.bx b7 [(.slice pa2 (a2).length ca2)],.bx b10 [(.bool false)],.bx b61 [(.slice pa0_0 (a0_0).length ca0_0),(i64 a0_1),(.slice pa0_2 (a0_2).length ca0_2)],.any l64 (.loop r64)] ∧ T.get 0 = some (.yield l64) ∧ T.get 8 = some (.slice pa0_2 (a0_2).length ca0_2) ∧ T.get 9 = some (i64 ((a0_2).length:Int)) ∧ T.get 10 = some (i64 x184)) (fun y e a σ=>(∃ u,y = (.inl u) ∧ e = .ret ∧ a.nt = 32 ∧ ∃ (F305:PH),a.defers = [] ∧ PH.le F39 F305 ∧ St n0 h0 F0 F305 σ.h σ.nx [.mks (m64 :: ds39),.bx b1 [(.slice pa0_0 (a0_0).length ca0_0),(i64 a0_1),(.slice pa0_2 (a0_2).length ca0_2)],.bx b4 [(.slice pa1 (a1).length ca1)],.bx b7 [(.slice pa2 (a2).length ca2)],.bx b10 [(.bool false)],.bx b61 [(.slice pa0_0 (a0_0).length ca0_0),(i64 a0_1),(.slice pa0_2 (a0_2).length ca0_2)],.any l64 (.loop { r64 with state:=.done,pending:=.ret })]) ∨ (∃ u,y = (.inr u) ∧ e = .exit 0 ∧ a.nt = 32 ∧ ∃ (F307:PH),a.defers = [] ∧ PH.le F39 F307 ∧ St n0 h0 F0 F307 σ.h σ.nx [.mks (m64 :: ds39),.bx b1 [(.slice pa0_0 (a0_0).length ca0_0),(i64 a0_1),(.slice pa0_2 (a0_2).length ca0_2)],.bx b4 [(.slice pa1 (a1).length ca1)],.bx b7 [(.slice pa2 (a2).length ca2)],.bx b10 [(.bool false)],.bx b61 [(.slice pa0_0 (a0_0).length ca0_0),(i64 a0_1),(.slice pa0_2 (a0_2).length ca0_2)],.any l64 (.loop r64)])) (fun x184 T ds185 h nx s hp hF=>?_) N _ y303 _ _ _ _ hy ⟨F39,rfl,(PH.le.refl _),st,gA,gA,gA,gA⟩ (fun e a σ hne hq=>?_)
  ·obtain ⟨F185,rfl,le185,st,t0,t8,t9,t10⟩:=hp
   have le186:=PH.le.trans le39 le185
   unfold sf23_L2 at hF;unfold L103w1;refine zd (zi ?_);refine yk ?_;refine zc (th_n ?_);refine zd ?_;refine zB (fun hb308=>?_) (fun hb308=>?_)
   ·have hF:=zt hb308 hF;refine zC (th_n ?_);refine zd ?_;refine zx ?_;refine zd (zi ?_);refine za ?_;obtain ⟨n309,x309,z309,l309,g309,hF⟩:=zE hF;obtain ⟨b309,o309,s309,j309,r309,e309,f309,k309,⟨_,_,rfl,rfl,⟨_,_,rfl,rfl,⟨py310,cy310,rfl,ry310⟩⟩⟩⟩:=RowF.get ra0_2 g309;refine zV e309 z309 l309 ?_;refine zT (st.sub _ _ (le186 _ _ f309)) k309 ?_;refine z6 st (fun b311 h312 n313 st=>?_);refine za ?_;refine v_st (cs':=[(i64 x309.1),(i64 x309.2.1),(.slice py310 (x309.2.2).length cy310)]) st 7 rfl rfl rfl rfl hfl (fun h314 st=>?_);refine zc (th_n ?_);refine zd ?_;refine zi ?_
    refine v_fa ?_;refine zn (st.at (i:=7) rfl).2.2 rfl ?_;refine zS ?_;refine za ?_;refine zc (th_n ?_);refine zx ?_;obtain ⟨y381,hy,hF⟩:=zk hF;refine zU (sf23_L1 N a0_1 a1 a2 x184 x309) (fun x348 T ds349 h nx=>∃ (F349:PH),ds349 = [] ∧ PH.le F185 F349 ∧ St n0 h0 F0 F349 h nx [.mks (m64 :: ds39),.bx b1 [(.slice pa0_0 (a0_0).length ca0_0),(i64 a0_1),(.slice pa0_2 (a0_2).length ca0_2)],.bx b4 [(.slice pa1 (a1).length ca1)],.bx b7 [(.slice pa2 (a2).length ca2)],.bx b10 [(.bool false)],.bx b61 [(.slice pa0_0 (a0_0).length ca0_0),(i64 a0_1),(.slice pa0_2 (a0_2).length ca0_2)],.any l64 (.loop r64),.bx b311 [(i64 x309.1),(i64 x309.2.1),(.slice py310 (x309.2.2).length cy310)]] ∧ T.get 0 = some (.yield l64) ∧ T.get 3 = some (i64 x184) ∧ T.get 8 = some (.slice pa0_2 (a0_2).length ca0_2) ∧ T.get 9 = some (i64 ((a0_2).length:Int)) ∧ T.get 10 = some (i64 x184) ∧ T.get 16 = some (.slice py310 (x309.2.2).length cy310) ∧ T.get 17 = some (i64 ((x309.2.2).length:Int)) ∧ T.get 18 = some (i64 x348)) (fun y e a σ=>(∃ u,y = (.inl u) ∧ e = .ret ∧ a.nt = 32 ∧ ∃ (F383:PH),a.defers = [] ∧ PH.le F185 F383 ∧ St n0 h0 F0 F383 σ.h σ.nx [.mks (m64 :: ds39),.bx b1 [(.slice pa0_0 (a0_0).length ca0_0),(i64 a0_1),(.slice pa0_2 (a0_2).length ca0_2)],.bx b4 [(.slice pa1 (a1).length ca1)],.bx b7 [(.slice pa2 (a2).length ca2)],.bx b10 [(.bool false)],.bx b61 [(.slice pa0_0 (a0_0).length ca0_0),(i64 a0_1),(.slice pa0_2 (a0_2).length ca0_2)],.any l64 (.loop { r64 with state:=.done,pending:=.ret }),.bx b311 [(i64 x309.1),(i64 x309.2.1),(.slice py310 (x309.2.2).length cy310)]]) ∨ (∃ u,y = (.inr u) ∧ e = .exit 2 ∧ a.nt = 32 ∧ ∃ (F385:PH),a.defers = [] ∧ PH.le F185 F385 ∧ St n0 h0 F0 F385 σ.h σ.nx [.mks (m64 :: ds39),.bx b1 [(.slice pa0_0 (a0_0).length ca0_0),(i64 a0_1),(.slice pa0_2 (a0_2).length ca0_2)],.bx b4 [(.slice pa1 (a1).length ca1)],.bx b7 [(.slice pa2 (a2).length ca2)],.bx b10 [(.bool false)],.bx b61 [(.slice pa0_0 (a0_0).length ca0_0),(i64 a0_1),(.slice pa0_2 (a0_2).length ca0_2)],.any l64 (.loop r64),.bx b311 [(i64 x309.1),(i64 x309.2.1),(.slice py310 (x309.2.2).length cy310)]] ∧ a.tmps.get 0 = some (.yield l64) ∧ a.tmps.get 8 = some (.slice pa0_2 (a0_2).length ca0_2) ∧ a.tmps.get 9 = some (i64 ((a0_2).length:Int)) ∧ a.tmps.get 10 = some (i64 x184))) (fun x348 T ds349 h nx s hp hF=>?_) N _ y381 _ _ _ _ hy ⟨F185,rfl,(PH.le.refl _),st,gA,gA,gA,gA,gA,gA,gA,gA⟩ (fun e a σ hne hq=>?_)
    ·obtain ⟨F349,rfl,le349,st,t0,t3,t8,t9,t10,t16,t17,t18⟩:=hp
     have le350:=PH.le.trans le186 le349
     unfold sf23_L1 at hF;unfold L103w0;refine zd (zi ?_);refine yk ?_;refine zc (th_n ?_);refine zd ?_;refine zB (fun hb386=>?_) (fun hb386=>?_)
     ·have hF:=zt hb386 hF;refine zC (th_n ?_);refine zd ?_;refine zx ?_;refine zd (zi ?_);refine za ?_;obtain ⟨n387,x387,z387,l387,g387,hF⟩:=zE hF;obtain ⟨b387,o387,s387,j387,r387,e387,f387,k387,⟨_,_,rfl,rfl,rfl⟩⟩:=RowF.get ry310 g387;refine zV e387 z387 l387 ?_;refine zT (st.sub _ _ (le350 _ _ f387)) k387 ?_;refine z6 st (fun b388 h389 n390 st=>?_);refine za ?_;refine v_st (cs':=[(i64 x387.1),(i64 x387.2)]) st 8 rfl rfl rfl rfl hfl (fun h391 st=>?_);refine zc (th_n ?_);refine zd (zi ?_);refine za ?_;refine za ?_;refine za ?_;refine v3 (cs:=[(i64 x184),(i64 x348)]) rfl ?_
      refine zT (vs:=[(i64 x387.1),(i64 x387.2)]) (st.at (i:=8) rfl).2.2 rfl ?_;refine v_yield (Tc:=T64) (tmps:=((T64.set 22 (some (.agg [(i64 x184),(i64 x348)]))).set 23 (some (.agg [(i64 x387.1),(i64 x387.2)])))) st 6 rfl rn64 rt64.symm ro64 ra64 rb64 (fun hz=>?_) rfl;refine zd (zi ?_);refine z6 st (fun b392 h393 n394 st=>?_);refine v_st (cs':=[(i64 x184),(i64 x348)]) st 9 rfl rfl rfl rfl hfl (fun h395 st=>?_);refine zc (th_n ?_);refine zi ?_;refine z6 st (fun b396 h397 n398 st=>?_);refine v_st (cs':=[(i64 x387.1),(i64 x387.2)]) st 10 rfl rfl rfl rfl hfl (fun h399 st=>?_);refine zc ?_;refine ya_n st 6 rfl rs64 hfl (fun h st=>?_)
      refine zx ?_;refine zd ?_;refine yX (Nat.le_trans hfl st.ext.le) (fun dw=>?_);refine uD st.d dw rfl (fun h400 ex vs=>?_)
      have st:=st.ext1 ex
      refine v_fa ?_;refine zn (st.at (i:=10) rfl).2.2 rfl ?_;refine zn (st.at (i:=3) rfl).2.2 rfl ?_;refine v_fa ?_;refine zn (st.at (i:=9) rfl).2.2 rfl ?_;obtain ⟨n401,x401,z401,l401,g401,hF⟩:=zE hF;obtain ⟨b401,o401,s401,j401,r401,e401,f401,k401,rfl⟩:=RowF.get ra2 g401;refine zV e401 z401 l401 ?_;refine zn (st.sub _ _ (le350 _ _ f401)) (zW (j:=0) k401 rfl) ?_;obtain ⟨q402,hF⟩:=zH hF;refine j0 q402 ?_;refine zn (st.at (i:=2) rfl).2.2 rfl ?_;refine v_fa ?_;refine zn (st.at (i:=10) rfl).2.2 rfl ?_;obtain ⟨n403,x403,z403,l403,g403,hF⟩:=zE hF;obtain ⟨b403,o403,s403,j403,r403,e403,f403,k403,rfl⟩:=RowF.get ra1 g403
      refine zV e403 z403 l403 ?_;refine zn (st.sub _ _ (le350 _ _ f403)) (zW (j:=0) k403 rfl) ?_;obtain ⟨q404,hF⟩:=zH hF;refine j0 q404 ?_;refine za ?_;refine zc (th_n ?_);refine zd ?_;refine yX (Nat.le_trans hfl st.ext.le) (fun dw=>?_);refine yM st.d dw (fun hm vw=>za yy) ?_;refine yM st.d dw (fun hm vw=>za yy) ?_;obtain ⟨q405,hF⟩:=zH hF;refine yM st.d dw (fun hm vw=>v_neg q405 yy) ?_;refine y_lay st.d dw (fun hm vw=>u_bs (cs:=[(i64 (-((x387.2 - x401) - x403)))]) rfl yy) (fun done dw=>?_);obtain ⟨v406,e407,hF⟩:=zk hF;refine y_flat st.d dw (fun hm vw=>u_call (ct72 N e407 vw.d (all_sub _) (RowF.blk (F:=F349) (vw.vis _ (List.mem_cons_self ..) rfl _ _ (if_pos rfl)) (show LR rI 1 F349 [(-((x387.2 - x401) - x403))] [(i64 (-((x387.2 - x401) - x403)))] from (LR.cons1 (x:=(-((x387.2 - x401) - x403))) (r:=[(i64 (-((x387.2 - x401) - x403)))]) (l:=[]) (cs:=[]) (rfl) LR.nil)) (vw.sub st))) (fun n' hn'=>pf_nil hn')) (fun n408 hn' dw=>?_)
      refine yM st.d dw (fun hm vw=>v_fa yy) ?_;refine yM st.d dw (fun hm vw=>zn (vw.bx (st.at (i:=1) rfl)) rfl yy) ?_;refine uD st.d dw rfl (fun h409 ex vs=>?_)
      have st:=St.laid st ex (Lay.cons (b:=n398) (cs:=[(i64 (-((x387.2 - x401) - x403)))]) (by have:=dw.le;omega) (vs _ (List.mem_cons_self ..) _ _ (if_pos rfl)) (Lay.nil (by have:=dw.le;omega)))
      refine vL ?_;refine zc (th_n ?_);refine zB (fun hb410=>?_) (fun hb410=>?_)
      ·have hF:=zt hb410 hF;refine zd (zi ?_);refine v_st (cs':=[(.bool false)]) st 4 rfl rfl rfl rfl hfl (fun h411 st=>?_);refine zc (th_n ?_);refine zy ?_;refine ib_r ?_
       refine yb_e st 6 rfl (fun e=>by cases e) (fun h st=>?_)
       refine yD ?_;refine zc (th_n ?_);refine zB (fun hq412=>?_) (fun hq412=>?_)
       ·refine zy ?_;refine ib_r ?_;refine th_r ?_;refine th_r ?_;refine ⟨_,(inj hF).symm,.inl ⟨_,rfl,rfl,rfl,?_⟩⟩;dsimp only
        exact ⟨F349,rfl,le349,(st.drop (by first | exact List.Sublist.refl _ | (repeat first | exact List.nil_sublist _ | refine List.Sublist.cons_cons _ ?_ | refine List.Sublist.cons _ ?_)))⟩
       ·exact absurd hq412 (by rw [(congrArg (!·) rfl)];decide)
      ·have hF:=zu hb410 hF;refine zC ?_;refine ib_n ?_;refine yb_n st 6 rfl rs64 rp64 (fun h st=>?_);refine yD ?_;refine zc (th_n ?_);refine zB (fun hq413=>?_) (fun hq413=>?_)
       ·exact absurd hq413 (by rw [(congrArg (!·) rfl)];decide)
       ·refine zC ?_;refine ib_n ?_;refine th_n ?_;refine zi ?_;obtain ⟨q414,hF⟩:=zH hF;refine yl q414 ?_;refine za ?_;refine zc ?_;refine thn ⟨_,(inj hF).symm,rfl,?_⟩;dsimp only
        exact ⟨F349,rfl,le349,(st.drop (by first | exact List.Sublist.refl _ | (repeat first | exact List.nil_sublist _ | refine List.Sublist.cons_cons _ ?_ | refine List.Sublist.cons _ ?_))),gA,gA,gA,gA,gA,gA,gA,gA⟩
     ·have hF:=zu hb386 hF;refine z7 ?_;refine th_e ?_;refine th_e ?_;refine ⟨_,(inj hF).symm,.inr (⟨_,rfl,rfl,rfl,?_⟩)⟩;dsimp only
      exact ⟨F349,rfl,le349,st,gA,gA,gA,gA⟩
    ·rcases hq with hq | hq
     ·obtain ⟨N9,T,ds383⟩:=a;obtain ⟨h417,n418⟩:=σ;obtain ⟨w382,rfl,rfl,e1,F383,e2,le383,st⟩:=hq
      dsimp only at e1 e2
      subst e1
      subst e2
      dsimp only at st
      have le416:=PH.le.trans le185 le383
      have hF:=yc hF;refine ib_r ?_;refine ib_r ?_;refine th_r ?_;refine th_r ?_;refine ⟨_,(inj hF).symm,.inl ⟨_,rfl,rfl,rfl,?_⟩⟩;dsimp only
      exact ⟨F383,rfl,le416,(st.drop (by first | exact List.Sublist.refl _ | (repeat first | exact List.nil_sublist _ | refine List.Sublist.cons_cons _ ?_ | refine List.Sublist.cons _ ?_)))⟩
     ·obtain ⟨N9,T,ds385⟩:=a;obtain ⟨h421,n422⟩:=σ;obtain ⟨w384,rfl,rfl,e1,F385,e2,le385,st,t0,t8,t9,t10⟩:=hq
      dsimp only at e1 e2
      subst e1
      subst e2
      dsimp only at st t0 t8 t9 t10
      have le420:=PH.le.trans le185 le385
      have hF:=yb hF;refine ib_e ?_;refine ib_n ?_;refine th_n ?_;refine zi ?_;obtain ⟨q423,hF⟩:=zH hF;refine yl q423 ?_;refine za ?_;refine zc ?_;refine thn ⟨_,(inj hF).symm,rfl,?_⟩;dsimp only
      exact ⟨F385,rfl,le420,(st.drop (by first | exact List.Sublist.refl _ | (repeat first | exact List.nil_sublist _ | refine List.Sublist.cons_cons _ ?_ | refine List.Sublist.cons _ ?_))),gA,gA,gA,gA⟩
   ·have hF:=zu hb308 hF;refine z7 ?_;refine th_e ?_;refine th_e ?_;refine ⟨_,(inj hF).symm,.inr (⟨_,rfl,rfl,rfl,?_⟩)⟩;dsimp only
    exact ⟨F185,rfl,le185,st⟩
  ·rcases hq with hq | hq
   ·obtain ⟨N9,T,ds305⟩:=a;obtain ⟨h425,n426⟩:=σ;obtain ⟨w304,rfl,rfl,e1,F305,e2,le305,st⟩:=hq
    dsimp only at e1 e2
    subst e1
    subst e2
    dsimp only at st
    have hF:=yc hF;refine ib_r ?_
    refine jx st 6 rfl (fun e=>by cases e) rfl hfl (.inl rfl) (fun h st=>?_)
    have st:=st.drop (List.eraseIdx_sublist _ 6)
    refine ib_r ?_;refine th_r ?_;obtain rfl:=inj hF
    exact Xp st 0 rfl (.inl rfl) [(.bool false)] (fun h st=>(Res.c1 gA (st.at (i:=4) rfl).2.2 rfl Res.nil)) rfl rfl
   ·obtain ⟨N9,T,ds307⟩:=a;obtain ⟨h428,n429⟩:=σ;obtain ⟨w306,rfl,rfl,e1,F307,e2,le307,st⟩:=hq
    dsimp only at e1 e2
    subst e1
    subst e2
    dsimp only at st
    have hF:=yb hF;refine ib_e ?_
    refine jx st 6 rfl (by rw [rs64];exact fun e=>by cases e) rp64 hfl (.inr rfl) (fun h st=>?_)
    have st:=st.drop (List.eraseIdx_sublist _ 6)
    refine ib_n ?_;refine th_n ?_;refine zd (zi ?_);refine v_st (cs':=[(.bool true)]) st 4 rfl rfl rfl rfl hfl (fun h430 st=>?_);refine zc (th_n ?_);refine zy ?_;obtain rfl:=inj hF
    exact Xp st 0 rfl (.inl rfl) [(.bool true)] (fun h st=>(Res.c1 gA (st.at (i:=4) rfl).2.2 rfl Res.nil)) rfl rfl
end Go.Hx.V

namespace Go.Hx.V
open Go.Hx
set_option maxRecDepth 20000
set_option maxHeartbeats 4000000
variable {fl : Nat} {h0 : Tr HBlk} {n0 : Nat} {F0 : PH}
attribute [local irreducible] W R C thenH inBlockH Tr.get Tr.set lo ck bnd ix iter
end Go.Hx.V

namespace Go.Hx.V
open Go.Hx
set_option maxRecDepth 20000
set_option maxHeartbeats 4000000
variable {fl : Nat} {h0 : Tr HBlk} {n0 : Nat} {F0 : PH}
attribute [local irreducible] W R C thenH inBlockH Tr.get Tr.set lo ck bnd ix iter
theorem ct3 (N:Nat) {a0_0:(List (Int × Int))} {a0_1:Int} {a0_2:(List (Int × Int × (List (Int × Int))))} {a1:(List Int)} {a2:(List Int)} {r:Bool} (hF:sf3 N a0_0 a0_1 a0_2 a1 a2 = some r) (hd:D h0 n0) (hs:F0.sub h0) {pa0_0:Option (Nat × Nat)} {ca0_0:Nat} {pa0_2:Option (Nat × Nat)} {ca0_2:Nat} {pa1:Option (Nat × Nat)} {ca1:Nat} {pa2:Option (Nat × Nat)} {ca2:Nat} (ra0_0:RowF (rP rI rI) 2 F0 pa0_0 ca0_0 a0_0) (ra0_2:RowF (rP rI (rP rI (rL (rP rI rI) 2))) 3 F0 pa0_2 ca0_2 a0_2) (ra1:RowF rI 1 F0 pa1 ca1 a1) (ra2:RowF rI 1 F0 pa2 ca2 a2):C LW fl 3 [(.agg [(.slice pa0_0 (a0_0).length ca0_0),(i64 a0_1),(.slice pa0_2 (a0_2).length ca0_2)]),(.slice pa1 (a1).length ca1),(.slice pa2 (a2).length ca2)] ⟨h0,n0⟩ (KS (.bool r) n0 h0):=by
 unfold sf3 at hF
 refine yd hd hs lw3 rfl rfl (by rfl) (fun st T hT=>?_)
 have hfl:n0 ≤ n0:=Nat.le_refl n0
 have t0:=hT 0 _ rfl
 have t1:=hT 1 _ rfl
 have t2:=hT 2 _ rfl
 dsimp only [L3]
 refine zd (zi ?_);refine ya st (fun b1 h2 n3 st=>?_);refine za ?_;refine zc (th_n ?_);obtain ⟨y20,hA21,hF⟩:=zk hF;refine ye (fun T ds26 h nx=>∃ u,y20 = (.inr u) ∧ ∃ (F26:PH),ds26 = [] ∧ PH.le F0 F26 ∧ St n0 h0 F0 F26 h nx [.bx b1 [(.slice pa0_0 (a0_0).length ca0_0),(i64 a0_1),(.slice pa0_2 (a0_2).length ca0_2)]] ∧ T.get 1 = some (.slice pa1 (a1).length ca1) ∧ T.get 2 = some (.slice pa2 (a2).length ca2) ∧ T.get 3 = some (.ptr (some (b1,0)))) ?_ (fun T ds26 h nx hp=>?_)
 ·have hK22:=hF
  have hF:=hA21;obtain ⟨y32,hA33,hF⟩:=zk hF;refine ye (fun T ds35 h nx=>∃ (F35:PH),ds35 = [] ∧ PH.le F0 F35 ∧ St n0 h0 F0 F35 h nx [.bx b1 [(.slice pa0_0 (a0_0).length ca0_0),(i64 a0_1),(.slice pa0_2 (a0_2).length ca0_2)]] ∧ T.get 1 = some (.slice pa1 (a1).length ca1) ∧ T.get 2 = some (.slice pa2 (a2).length ca2) ∧ T.get 3 = some (.ptr (some (b1,0))) ∧ T.get 21 = some (.bool y32)) ?_ (fun T ds35 h nx hp=>?_)
  ·have hK34:=hF
   have hF:=hA33;refine zi ?_;refine zT (vs:=[(.slice pa0_0 (a0_0).length ca0_0),(i64 a0_1),(.slice pa0_2 (a0_2).length ca0_2)]) (st.at (i:=0) rfl).2.2 rfl ?_;obtain ⟨v36,e37,hF⟩:=zk hF;refine zL st (ct19 N e37 st.d st.sub ra0_0 ra0_2) (fun n38 st=>?_);refine yD ?_;refine za ?_
   rcases Bool.eq_false_or_eq_true (!v36) with hb39 | hb39
   ·have hF:=zt hb39 hF;refine zg hb39 ?_;refine zg hb39 ?_;refine zg hb39 ?_;refine zQ hb39 ?_;refine za ?_;refine zg rfl ?_;refine zg rfl ?_;refine zg rfl ?_;refine zQ rfl ?_;refine zc ?_;obtain rfl:=inj hF;refine thn ⟨rfl,?_⟩;dsimp only
    exact ⟨F0,rfl,(PH.le.refl _),st,gA,gA,gA,gA⟩
   ·have hF:=zu hb39 hF;refine zj hb39 (za ?_);refine zj hb39 (zS ?_);refine zj hb39 (vL ?_);refine zA hb39 ?_;refine za ?_
    rcases Bool.eq_false_or_eq_true (decide ((12:Int) < ((a1).length:Int))) with hb40 | hb40
    ·have hF:=zt hb40 hF;refine zg hb40 ?_;refine zg hb40 ?_;refine zg hb40 ?_;refine zQ hb40 ?_;refine zc ?_;obtain rfl:=inj hF;refine thn ⟨rfl,?_⟩;dsimp only
     exact ⟨F0,rfl,(PH.le.refl _),st,gA,gA,gA,gA⟩
    ·have hF:=zu hb40 hF;refine zj hb40 (za ?_);refine zj hb40 (zS ?_);refine zj hb40 (vL ?_);refine zA hb40 ?_;refine zc ?_;obtain rfl:=inj hF;refine thn ⟨rfl,?_⟩;dsimp only
     exact ⟨F0,rfl,(PH.le.refl _),st,gA,gA,gA,gA⟩
  ·obtain ⟨F35,rfl,le35,st,t1,t2,t3,t21⟩:=hp;refine zB (fun hb41=>?_) (fun hb41=>?_)
   ·have hF:=zt hb41 hF;refine zd (zi ?_);refine zL st (ct_wakes (h:=_) (nx:=_)) (fun n42 st=>?_);refine za ?_;refine zc (th_n ?_);refine zy ?_;obtain rfl:=inj hF;have hF:=hK22;have hF:=yc hF;refine th_r ?_;obtain rfl:=inj hF
    exact zD st (Res.t gA Res.nil) rfl rfl
   ·have hF:=zu hb41 hF;refine zC ?_;obtain rfl:=inj hF;refine thn ⟨rfl,_,rfl,?_⟩;dsimp only
    exact ⟨F35,rfl,le35,st,gA,gA,gA⟩
 ·obtain ⟨w25,rfl,F26,rfl,le26,st,t1,t2,t3⟩:=hp;have hF:=yb hF;refine zd (zi ?_);refine zT (vs:=[(.slice pa0_0 (a0_0).length ca0_0),(i64 a0_1),(.slice pa0_2 (a0_2).length ca0_2)]) (st.at (i:=0) rfl).2.2 rfl ?_;obtain ⟨v43,e44,hF⟩:=zk hF;refine uM st (ct22 N e44 st.d st.sub (Nat.le_trans hfl st.ext.le) (RowF.mono le26 ra0_0) (RowF.mono le26 ra0_2)) (fun u45 F45 h45 n45 le45 rv45 st=>?_)
  have le46:=PH.le.trans le26 le45
  obtain ⟨_,rfl,⟨_,_,rfl,⟨py47,cy47,rfl,ry47⟩,⟨_,_,rfl,rfl,⟨py48,cy48,rfl,ry48⟩⟩⟩⟩:=rv45;obtain ⟨v49,e50,hF⟩:=zk hF;refine zL st (ct21 N e50 st.d st.sub ry47 ry48) (fun n51 st=>?_);refine za ?_;refine zc (th_n ?_);refine zd (zi ?_);refine zT (vs:=[(.slice pa0_0 (a0_0).length ca0_0),(i64 a0_1),(.slice pa0_2 (a0_2).length ca0_2)]) (st.at (i:=0) rfl).2.2 rfl ?_;obtain ⟨v52,e53,hF⟩:=zk hF;refine uM st (ct22 N e53 st.d st.sub (Nat.le_trans hfl st.ext.le) (RowF.mono le46 ra0_0) (RowF.mono le46 ra0_2)) (fun u54 F54 h54 n54 le54 rv54 st=>?_)
  have le55:=PH.le.trans le46 le54
  obtain ⟨_,rfl,⟨_,_,rfl,⟨py57,cy57,rfl,ry57⟩,⟨_,_,rfl,rfl,⟨py58,cy58,rfl,ry58⟩⟩⟩⟩:=rv54;refine za ?_;obtain ⟨v59,e60,hF⟩:=zk hF;refine uM st (ct24 N e60 st.d st.sub (Nat.le_trans hfl st.ext.le) (RowF.mono le55 ra1)) (fun u61 F61 h61 n61 le61 rv61 st=>?_)
  have le62:=PH.le.trans le55 le61
  obtain ⟨py65,cy65,rfl,ry65⟩:=rv61;refine za ?_;obtain ⟨v66,e67,hF⟩:=zk hF;refine uM st (ct24 N e67 st.d st.sub (Nat.le_trans hfl st.ext.le) (RowF.mono le62 ra2)) (fun u68 F68 h68 n68 le68 rv68 st=>?_)
  have le69:=PH.le.trans le62 le68
  have le72:=PH.le.trans le61 le68
  obtain ⟨py73,cy73,rfl,ry73⟩:=rv68;obtain ⟨v74,e75,hF⟩:=zk hF;refine zL st (ct23 N e75 st.d st.sub (RowF.mono le72 ry57) (RowF.mono le72 ry58) (RowF.mono le68 ry65) ry73) (fun n76 st=>?_);refine za ?_;refine zc (th_n ?_);refine zd (zi ?_);refine za ?_;refine zT (vs:=[(.slice pa0_0 (a0_0).length ca0_0),(i64 a0_1),(.slice pa0_2 (a0_2).length ca0_2)]) (st.at (i:=0) rfl).2.2 rfl ?_;obtain ⟨v77,e78,hF⟩:=zk hF;refine zL st (ct25 N e78 st.d st.sub (RowF.mono le69 ra0_0) (RowF.mono le69 ra0_2)) (fun n79 st=>?_);refine Xx ?_;refine za ?_
  rcases Bool.eq_false_or_eq_true (decide (v49 = v77)) with hb80 | hb80
  ·have hF:=zt hb80 hF;refine zj hb80 (za ?_);refine zj hb80 (za ?_);refine zj hb80 (Xx ?_);refine zj hb80 (za ?_)
   rcases Bool.eq_false_or_eq_true (decide (v49 = (0:Int))) with hb81 | hb81
   ·have hF:=zt hb81 hF;refine zj hb81 (zT (vs:=[(.slice pa0_0 (a0_0).length ca0_0),(i64 a0_1),(.slice pa0_2 (a0_2).length ca0_2)]) (st.at (i:=0) rfl).2.2 rfl ?_);refine zj hb81 (za ?_);refine zj hb81 (za ?_);obtain ⟨v82,e83,hF⟩:=zk hF;refine zj hb81 (zL st (ct26 N e83 st.d st.sub (RowF.mono le69 ra0_0) (RowF.mono le69 ra0_2) (RowF.mono le69 ra1) (RowF.mono le69 ra2)) (fun n84 st=>?_));refine zj hb80 (zQ hb81 ?_);refine zj hb80 (v_eqb ?_);refine zQ hb80 ?_;refine za ?_
    rcases Bool.eq_false_or_eq_true (v74 == v82) with hb85 | hb85
    ·have hF:=zt hb85 hF;refine zj hb85 (zL st (ct_wakes (h:=_) (nx:=_)) (fun n86 st=>?_));refine zQ hb85 ?_;refine za ?_;refine zc (th_n ?_);refine zy ?_;obtain rfl:=inj hF
     exact zD st (Res.t gA Res.nil) rfl rfl
    ·have hF:=zu hb85 hF;refine zg hb85 ?_;refine zA hb85 ?_;refine za ?_;refine zc (th_n ?_);refine zy ?_;obtain rfl:=inj hF
     exact zD st (Res.t gA Res.nil) rfl rfl
   ·have hF:=zu hb81 hF;refine zg hb81 ?_;refine zg hb81 ?_;refine zg hb81 ?_;refine zg hb81 ?_;refine zj hb80 (zA hb81 ?_);refine zj hb80 (v_eqb ?_);refine zQ hb80 ?_;refine za ?_
    rcases Bool.eq_false_or_eq_true (v74 == false) with hb87 | hb87
    ·have hF:=zt hb87 hF;refine zj hb87 (zL st (ct_wakes (h:=_) (nx:=_)) (fun n88 st=>?_));refine zQ hb87 ?_;refine za ?_;refine zc (th_n ?_);refine zy ?_;obtain rfl:=inj hF
     exact zD st (Res.t gA Res.nil) rfl rfl
    ·have hF:=zu hb87 hF;refine zg hb87 ?_;refine zA hb87 ?_;refine za ?_;refine zc (th_n ?_);refine zy ?_;obtain rfl:=inj hF
     exact zD st (Res.t gA Res.nil) rfl rfl
  ·have hF:=zu hb80 hF;refine zg hb80 ?_;refine zg hb80 ?_;refine zg hb80 ?_;refine zg hb80 ?_;refine uQ ?_;refine uQ ?_;refine uQ ?_;refine uQ ?_;refine zg hb80 ?_;refine zg hb80 ?_;refine zA hb80 ?_;refine za ?_;refine zg rfl ?_;refine zA rfl ?_;refine za ?_;refine zc (th_n ?_);refine zy ?_;obtain rfl:=inj hF
   exact zD st (Res.t gA Res.nil) rfl rfl
end Go.Hx.V

namespace Go.Hx.V
open Go.Hx
set_option maxRecDepth 20000
set_option maxHeartbeats 4000000
variable {fl : Nat} {h0 : Tr HBlk} {n0 : Nat} {F0 : PH}
attribute [local irreducible] W R C thenH inBlockH Tr.get Tr.set lo ck bnd ix iter
end Go.Hx.V

namespace Go.Hx.V
open Go.Hx
set_option maxRecDepth 20000
set_option maxHeartbeats 4000000
variable {fl : Nat} {h0 : Tr HBlk} {n0 : Nat} {F0 : PH}
attribute [local irreducible] W R C thenH inBlockH Tr.get Tr.set lo ck bnd ix iter
end Go.Hx.V


namespace Go.Hx.V
open Go.Hx
theorem jh {α β : Type} {step : α → Option (α ⊕ β)} (P : α → Prop) (m : α → Nat) (Y : β → Prop)
  (h : ∀ x, P x → (∃ x', step x = some (.inl x') ∧ P x' ∧ m x' < m x) ∨ ∃ y, step x = some (.inr y) ∧ Y y) : ∀ (N : Nat) (x : α), P x → m x < N → ∃ y, iter step N x = some y ∧ Y y
 | 0, x, hp, hm => by omega
 | N + 1, x, hp, hm => by
  unfold iter
  rcases h x hp with ⟨x', e, hp', hm'⟩ | ⟨y, e, hy⟩
  ·rw [e]; exact jh P m Y h N x' hp' (by omega)
  ·rw [e]; exact ⟨y, rfl, hy⟩
theorem kw {α β : Type} {step : α → Option (α ⊕ β)} (s : Nat → α) (y : β) : ∀ (n i N : Nat), (∀ j, i ≤ j → j < i + n → step (s j) = some (.inl (s (j + 1)))) → step (s (i + n)) = some (.inr y) → n < N → iter step N (s i) = some y
 | 0, i, N, hs, he, hN => by
  obtain ⟨N, rfl⟩ : ∃ k, N = k + 1 := ⟨N - 1, by omega⟩
  unfold iter; rw [Nat.add_zero] at he; rw [he]; rfl
 | n + 1, i, N, hs, he, hN => by
  obtain ⟨N, rfl⟩ : ∃ k, N = k + 1 := ⟨N - 1, by omega⟩
  unfold iter
  rw [hs i (by omega) (by omega)]
  exact kw s y n (i + 1) N (fun j h1 h2 => hs j (by omega) (by omega)) (by rw [show i + 1 + n = i + (n + 1) by omega]; exact he) (by omega)
theorem vH {α β : Type} {step : α → Option (α ⊕ β)} {x : α} {N : Nat} (s : Nat → α) (n : Nat) (y : β) (hx : x = s 0) (hs : ∀ j, j < n → step (s j) = some (.inl (s (j + 1)))) (he : step (s n) = some (.inr y)) (hN : n < N) : iter step N x = some y := by
 subst hx
 exact kw s y n 0 N (fun j _ h2 => hs j (by omega)) (by rw [Nat.zero_add]; exact he) hN
theorem yC {α β : Type} {step : α → Option (α ⊕ β)} {x : α} {N : Nat} (s : Nat → α) (n : Nat) (p : Nat → Prop) [DecidablePred p] (good bad : β) (hx : x = s 0) (hs : ∀ j, j < n → p j → step (s j) = some (.inl (s (j + 1)))) (hf : ∀ j, j < n → ¬ p j → step (s j) = some (.inr bad)) (he : step (s n) = some (.inr good)) (hN : n < N) :
  ((∀ j, j < n → p j) ∧ iter step N x = some good) ∨ (¬ (∀ j, j < n → p j) ∧ iter step N x = some bad) := by
 by_cases h : ∀ j, j < n → p j
 ·exact .inl ⟨h, vH s n good hx (fun j hj => hs j hj (h j hj)) he hN⟩
 ·refine .inr ⟨h, ?_⟩
  have h1 : ∃ j, j < n ∧ ¬ p j := by
   refine Classical.byContradiction fun hc => h fun j hj => Classical.byContradiction fun hp => hc ⟨j, hj, hp⟩
  -- the first one
  obtain ⟨j, hj, hp, hmin⟩ : ∃ j, j < n ∧ ¬ p j ∧ ∀ i, i < j → p i := by
   obtain ⟨j, hj⟩ := h1
   induction j using Nat.strongRecOn with
   | ind j ih =>
    by_cases g : ∀ i, i < j → p i
    ·exact ⟨j, hj.1, hj.2, g⟩
    ·have : ∃ i, i < j ∧ ¬ p i := Classical.byContradiction fun hc => g fun i hi => Classical.byContradiction fun hp => hc ⟨i, hi, hp⟩
     obtain ⟨i, hi, hpi⟩ := this
     exact ih i hi ⟨by omega, hpi⟩
  exact vH s j bad hx (fun i hi => hs i (by omega) (hmin i hi)) (hf j hj hp) (by omega)
theorem zJ {α β : Type} {l : List α} {j : Int} {n : Nat} {x : α} {k : α → Option β} (hj : j = n) (h : l[n]? = some x) : ix l j k = k x := by
 subst hj; exact ix_pos h
theorem ix_0 {α β : Type} {l : List α} {x : α} {k : α → Option β} (h : l[0]? = some x) : ix l (0 : Int) k = k x := zJ (n := 0) rfl h
theorem zp {α : Type} {l : List α} {n : Nat} (h : n < l.length) : l[n]? = some l[n] := List.getElem?_eq_getElem h
theorem zR {α : Type} {l : List α} {n : Nat} {x : α} (h : l[n]? = some x) : n < l.length := by
 rcases Nat.lt_or_ge n l.length with g | g
 ·exact g
 ·rw [List.getElem?_eq_none g] at h; cases h
theorem vQ {α : Type} {l : List α} {n : Nat} {x : α} (h : l[n]? = some x) : l.take (n + 1) = l.take n ++ [x] := by
 rw [List.take_add_one, h]; rfl
end Go.Hx.V

namespace Go.Hx.V
open Go.Hx
def lI (T f g m : Int) (x y : Int × (Nat → Int)) : Option ((Int × (Nat → Int)) ⊕ (Nat → Int)) :=
 (bif (decide (y.1 < T)) then (ck (0 ≤ g ∧ g < 13) ((ck (0 ≤ y.1 ∧ y.1 < 13) ((ck (rng (((x.2 (((Int.toNat x.1) * 13) + (Int.toNat f))) + m) + (y.2 (((Int.toNat g) * 13) + (Int.toNat y.1))))) ((ck (0 ≤ x.1 ∧ x.1 < 13) ((ck (0 ≤ y.1 ∧ y.1 < 13) ((bif (decide ((((x.2 (((Int.toNat x.1) * 13) + (Int.toNat f))) + m) + (y.2 (((Int.toNat g) * 13) + (Int.toNat y.1)))) < (y.2 (((Int.toNat x.1) * 13) + (Int.toNat y.1))))) then (ck (0 ≤ x.1 ∧ x.1 < 13) ((ck (0 ≤ y.1 ∧ y.1 < 13) ((ck (rng (y.1 + (1 : Int))) (some (.inl ((y.1 + (1 : Int)), (ups y.2 (((Int.toNat x.1) * 13) + (Int.toNat y.1)) (((x.2 (((Int.toNat x.1) * 13) + (Int.toNat f))) + m) + (y.2 (((Int.toNat g) * 13) + (Int.toNat y.1))))))))))))) else (ck (rng (y.1 + (1 : Int))) (some (.inl ((y.1 + (1 : Int)), y.2))))))))))))))) else some (.inr y.2))
def lO (N : Nat) (T f g m : Int) (x : Int × (Nat → Int)) : Option ((Int × (Nat → Int)) ⊕ (Nat → Int)) :=
 (bif (decide (x.1 < T)) then (ck (0 ≤ x.1 ∧ x.1 < 13) ((ck (0 ≤ f ∧ f < 13) ((ck (rng ((x.2 (((Int.toNat x.1) * 13) + (Int.toNat f))) + m)) ((ck (0 ≤ x.1 ∧ x.1 < 13) ((ck (0 ≤ g ∧ g < 13) ((bif (decide ((x.2 (((Int.toNat x.1) * 13) + (Int.toNat g))) ≤ ((x.2 (((Int.toNat x.1) * 13) + (Int.toNat f))) + m))) then (ck (rng (x.1 + (1 : Int))) (some (.inl ((x.1 + (1 : Int)), x.2)))) else bnd (iter (lI T f g m x) N ((0 : Int), x.2)) (fun y133 => (ck (rng (x.1 + (1 : Int))) (some (.inl ((x.1 + (1 : Int)), y133)))))))))))))))) else some (.inr x.2))
theorem toN (a : Nat) : Int.toNat (a : Int) = a := Int.toNat_natCast a
structure Gd (n : Nat) (F : Nat → Int) : Prop where
 tri : ∀ i j k, i ≤ n → j ≤ n → k ≤ n → F (i * 13 + k) ≤ F (i * 13 + j) + F (j * 13 + k)
 dg : ∀ i, i ≤ n → F (i * 13 + i) = 0
 ub : ∀ i j, i ≤ n → j ≤ n → F (i * 13 + j) ≤ 4000
theorem Gd.lb {n : Nat} {F : Nat → Int} (h : Gd n F) {i j : Nat} (hi : i ≤ n) (hj : j ≤ n) : -4000 ≤ F (i * 13 + j) := by
 have := h.tri i j i hi hj hi
 have := h.dg i hi
 have := h.ub j i hj hi
 omega
def AllP {α : Type} (p : α → Prop) (l : List α) : Prop := ∀ x, x ∈ l → p x
theorem y6 {α ε : Type} {bad : ε} {step : Int → Option (Int ⊕ (ε ⊕ Unit))} {l : List α} {p : α → Prop} [DecidablePred p] {N : Nat} (hN : l.length < N)
  (hs : ∀ (j : Nat) z, l[j]? = some z → p z → step (j : Int) = some (.inl ((j : Int) + 1)))
  (hf : ∀ (j : Nat) z, l[j]? = some z → ¬ p z → step (j : Int) = some (.inr (.inl bad)))
  (he : step (l.length : Int) = some (.inr (.inr ()))) : (AllP p l ∧ iter step N 0 = some (.inr ())) ∨ (¬ AllP p l ∧ iter step N 0 = some (.inl bad)) := by
 have H : ((∀ j, j < l.length → ∀ z, l[j]? = some z → p z) ∧ iter step N (0 : Int) = some (.inr ())) ∨ (¬ (∀ j, j < l.length → ∀ z, l[j]? = some z → p z) ∧ iter step N (0 : Int) = some (.inl bad)) := by
  haveI : DecidablePred fun (j : Nat) => ∀ z, l[j]? = some z → p z := fun j => Classical.propDecidable _
  refine yC (fun j => (j : Int)) l.length (fun j => ∀ z, l[j]? = some z → p z) (Sum.inr () : ε ⊕ Unit) (Sum.inl bad : ε ⊕ Unit) rfl (fun j hj hp => ?_) (fun j hj hp => ?_) he hN
  ·obtain ⟨z, hz⟩ : ∃ z, l[j]? = some z := ⟨_, zp hj⟩
   exact hs j z hz (hp z hz)
  ·obtain ⟨z, hz⟩ : ∃ z, l[j]? = some z := ⟨_, zp hj⟩
   exact hf j z hz fun q => hp fun z' hz' => by rw [hz] at hz'; cases hz'; exact q
 rcases H with ⟨h1, h2⟩ | ⟨h1, h2⟩
 ·refine .inl ⟨fun x hx => ?_, h2⟩
  obtain ⟨j, hj, rfl⟩ := List.getElem_of_mem hx
  exact h1 j hj _ (zp hj)
 ·exact .inr ⟨fun q => h1 fun j hj z hz => q z (List.mem_of_getElem? hz), h2⟩
instance {α : Type} {p : α → Prop} [DecidablePred p] {l : List α} : Decidable (AllP p l) := inferInstanceAs (Decidable (∀ x, x ∈ l → p x))
theorem sL {α β γ : Type} {f : α → Option γ} {g : β → Option γ} {x : α} : sel f g (.inl x) = f x := rfl
theorem sR {α β γ : Type} {f : α → Option γ} {g : β → Option γ} {x : β} : sel f g (.inr x) = g x := rfl
theorem iter_s {α β : Type} {step : α → Option (α ⊕ β)} {x x' : α} {M : Nat} (h : step x = some (.inl x')) : iter step (M + 1) x = iter step M x' := by
 conv => lhs; unfold iter
 rw [h]; rfl
theorem iter_e {α β : Type} {step : α → Option (α ⊕ β)} {x : α} {y : β} {M : Nat} (h : step x = some (.inr y)) : iter step (M + 1) x = some y := by
 unfold iter
 rw [h]; rfl
end Go.Hx.V

namespace Go.Hx.V
open Go.Hx
abbrev Ba := Int × Int × List (Int × Int)
def OffOk (r : Int × Int) : Prop := -100 ≤ r.1 ∧ r.1 ≤ r.2 ∧ r.2 ≤ 100
instance : DecidablePred OffOk := fun r => inferInstanceAs (Decidable (_ ∧ _))
def RdOk (m : Nat) (r : Int × Int) : Prop := (0 ≤ r.1 ∧ r.1 < (m : Int)) ∧ -1000 ≤ r.2 ∧ r.2 ≤ 2000
instance {m : Nat} : DecidablePred (RdOk m) := fun r => inferInstanceAs (Decidable (_ ∧ _))
def Once (l : List (Int × Int)) : Prop := ∀ (i j : Nat) (a b : Int × Int), i < j → l[i]? = some a → l[j]? = some b → a.1 ≠ b.1
def HtOk (a b : Int) : Prop := 0 ≤ a ∧ a ≤ b ∧ b ≤ 1000
def BathOk (m : Nat) (b : Ba) : Prop := HtOk b.1 b.2.1 ∧ AllP (RdOk m) b.2.2 ∧ Once b.2.2
def SerOk (off : List (Int × Int)) (er : Int) (B : List Ba) : Prop := (1 ≤ off.length ∧ off.length ≤ 6) ∧ AllP OffOk off ∧ (0 ≤ er ∧ er ≤ 20) ∧ B.length ≤ 6 ∧ AllP (BathOk off.length) B
theorem s123 {N : Nat} {p q a b : Int} : sf123 N p q a b = some (decide (a ≤ p ∧ p ≤ q ∧ q ≤ b)) := by
 unfold sf123
 by_cases h1 : a ≤ p
 ·rw [decide_eq_true h1, cond_true]
  by_cases h2 : p ≤ q
  ·rw [decide_eq_true h2, cond_true]
   congr 1
   by_cases h3 : q ≤ b
   ·rw [decide_eq_true h3, decide_eq_true ⟨h1, h2, h3⟩]
   ·rw [decide_eq_false h3, decide_eq_false (fun h => h3 h.2.2)]
  ·rw [decide_eq_false h2, cond_false, decide_eq_false (fun h => h2 h.2.1)]
 ·rw [decide_eq_false h1, cond_false, decide_eq_false (fun h => h1 h.1)]
theorem s99 {N : Nat} {z : Int × Int} : sf99 N z.1 z.2 = some (decide (OffOk z)) := by
 unfold sf99; rw [s123, zf]; rfl
theorem s113 {N : Nat} {a b : Int} : sf113 N a b = some (decide (0 ≤ a ∧ a ≤ b ∧ b ≤ 1000)) := by
 unfold sf113; rw [s123, zf]
theorem s98 {N : Nat} {l : List (Int × Int)} (h : l.length ≤ 100) (hN : 1000 ≤ N) : (AllP OffOk l ∧ sf98 N l = some true) ∨ (¬ AllP OffOk l ∧ sf98 N l = some false) := by
 unfold sf98
 rcases y6 (step := sf98_L1 N l) (l := l) (p := OffOk) (N := N) (by omega) (by
   intro j z hz hp
   have := zR hz
   unfold sf98_L1
   rw [decide_eq_true (by omega), cond_true, zJ rfl hz, s99, zf, decide_eq_true hp, Bool.not_true, cond_false, zI (by unfold rng; omega)]) (by
   intro j z hz hp
   have := zR hz
   unfold sf98_L1
   rw [decide_eq_true (by omega), cond_true, zJ rfl hz, s99, zf, decide_eq_false hp]
   rfl) (by
   unfold sf98_L1
   rw [decide_eq_false (by omega), cond_false]) with ⟨hA, e⟩ | ⟨hA, e⟩
 ·exact .inl ⟨hA, by rw [e, zf]; rfl⟩
 ·exact .inr ⟨hA, by rw [e, zf]; rfl⟩
section
variable {off : List (Int × Int)} {er : Int} {B : List Ba} {N : Nat}
theorem s77 {a : Int} : sf77 N off er B a = some (decide (0 ≤ a ∧ a < (off.length : Int))) := by
 unfold sf77
 by_cases h1 : 0 ≤ a
 ·rw [decide_eq_true h1, cond_true]
  congr 1
  by_cases h2 : a < (off.length : Int)
  ·rw [decide_eq_true h2, decide_eq_true ⟨h1, h2⟩]
  ·rw [decide_eq_false h2, decide_eq_false (fun h => h2 h.2)]
 ·rw [decide_eq_false h1, cond_false, decide_eq_false (fun h => h1 h.1)]
theorem s125 {r : Int × Int} : sf125 N off er B r.1 r.2 = some (decide (RdOk off.length r)) := by
 unfold sf125
 rw [s77, zf]
 by_cases h1 : 0 ≤ r.1 ∧ r.1 < (off.length : Int)
 ·rw [decide_eq_true h1, cond_true]
  by_cases h2 : -1000 ≤ r.2
  ·rw [decide_eq_true h2, cond_true]
   congr 1
   by_cases h3 : r.2 ≤ 2000
   ·rw [decide_eq_true h3, decide_eq_true (show RdOk off.length r from ⟨h1, h2, h3⟩)]
   ·rw [decide_eq_false h3, decide_eq_false (show ¬ RdOk off.length r from fun h => h3 h.2.2)]
  ·rw [decide_eq_false h2, cond_false, decide_eq_false (show ¬ RdOk off.length r from fun h => h2 h.2.1)]
 ·rw [decide_eq_false h1, cond_false, decide_eq_false (show ¬ RdOk off.length r from fun h => h1 h.1)]
theorem s124 {l : List (Int × Int)} (h : l.length ≤ 100) (hN : 1000 ≤ N) : (AllP (RdOk off.length) l ∧ sf124 N l off er B = some true) ∨ (¬ AllP (RdOk off.length) l ∧ sf124 N l off er B = some false) := by
 unfold sf124
 rcases y6 (step := sf124_L1 N l off er B) (l := l) (p := RdOk off.length) (N := N) (by omega) (by
   intro j z hz hp
   have := zR hz
   unfold sf124_L1
   rw [decide_eq_true (by omega), cond_true, zJ rfl hz, s125, zf, decide_eq_true hp, Bool.not_true, cond_false, zI (by unfold rng; omega)]) (by
   intro j z hz hp
   have := zR hz
   unfold sf124_L1
   rw [decide_eq_true (by omega), cond_true, zJ rfl hz, s125, zf, decide_eq_false hp]
   rfl) (by
   unfold sf124_L1
   rw [decide_eq_false (by omega), cond_false]) with ⟨hA, e⟩ | ⟨hA, e⟩
 ·exact .inl ⟨hA, by rw [e, zf]; rfl⟩
 ·exact .inr ⟨hA, by rw [e, zf]; rfl⟩
noncomputable def met (l : List (Int × Int)) (j : Nat) : Int → Option Bool := open Classical in fun k => if ∃ i a, i < j ∧ l[i]? = some a ∧ a.1 = k then some true else none
theorem s126 {a b : Int} {l : List (Int × Int)} (h : l.length ≤ 100) (hN : 1000 ≤ N) : (Once l ∧ sf126 N a b l = some true) ∨ (¬ Once l ∧ sf126 N a b l = some false) := by
 classical
 unfold sf126
 obtain ⟨y, e, hy⟩ := jh (step := sf126_L1 l) (fun x => ∃ j : Nat, j ≤ l.length ∧ x = ((j : Int), met l j) ∧ ∀ (i k : Nat) (a b : Int × Int), i < k → k < j → l[i]? = some a → l[k]? = some b → a.1 ≠ b.1) (fun x => l.length - x.1.toNat)
  (fun y => (∃ m, y = .inl m ∧ ¬ Once l) ∨ (∃ m, y = .inr m ∧ Once l)) (by
   rintro x ⟨j, hj, rfl, ho⟩
   by_cases hlt : j < l.length
   ·obtain ⟨z, hz⟩ : ∃ z, l[j]? = some z := ⟨_, zp hlt⟩
    by_cases hm : ∃ i a, i < j ∧ l[i]? = some a ∧ a.1 = z.1
    ·refine .inr ⟨.inl (met l j), ?_, .inl ⟨_, rfl, fun hO => ?_⟩⟩
     ·unfold sf126_L1
      rw [decide_eq_true (by simpa using hlt), cond_true, zJ rfl hz]
      have : met l j z.1 = some true := by unfold met; rw [if_pos hm]
      dsimp only
      rw [this]; rfl
     ·obtain ⟨i, a, h1, h2, h3⟩ := hm
      exact hO i j a z h1 h2 hz h3
    ·refine .inl ⟨(((j + 1 : Nat) : Int), met l (j + 1)), ?_, ⟨j + 1, by omega, rfl, fun i k a b h1 h2 h3 h4 => ?_⟩, by simp; omega⟩
     ·unfold sf126_L1
      rw [decide_eq_true (by simpa using hlt), cond_true, zJ rfl hz]
      have : met l j z.1 = none := by unfold met; rw [if_neg hm]
      dsimp only
      rw [this, show Option.getD (none : Option Bool) false = false from rfl, cond_false, zI (by unfold rng; omega)]
      have e2 : upm (met l j) z.1 true = met l (j + 1) := by
       funext k
       unfold upm met
       by_cases hk : k = z.1
       ·rw [if_pos hk, if_pos ⟨j, z, by omega, hz, hk.symm⟩]
       ·rw [if_neg hk]
        by_cases g : ∃ i a, i < j ∧ l[i]? = some a ∧ a.1 = k
        ·obtain ⟨i, a, g1, g2, g3⟩ := g
         rw [if_pos ⟨i, a, g1, g2, g3⟩, if_pos ⟨i, a, by omega, g2, g3⟩]
        ·rw [if_neg g, if_neg]
         rintro ⟨i, a, g1, g2, g3⟩
         by_cases e : i = j
         ·subst e; rw [hz] at g2; cases g2; exact hk g3.symm
         ·exact g ⟨i, a, by omega, g2, g3⟩
      rw [e2]; rfl
     ·by_cases e : k = j
      ·subst e; rw [hz] at h4; cases h4
       exact fun h5 => hm ⟨i, a, h1, h3, h5⟩
      ·exact ho i k a b h1 (by omega) h3 h4
   ·have e : j = l.length := by omega
    subst e
    refine .inr ⟨.inr (met l l.length), ?_, .inr ⟨_, rfl, fun i k a b h1 h3 h4 => ho i k a b h1 (zR h4) h3 h4⟩⟩
    unfold sf126_L1
    rw [decide_eq_false (by simp), cond_false]) N ((0 : Int), (fun _ => none)) ⟨0, by omega, by
    refine Prod.ext rfl ?_
    funext k
    unfold met
    dsimp only
    rw [if_neg]
    rintro ⟨i, a, h1, _⟩; omega, fun i k a b h1 h2 => by omega⟩ (by simp; omega)
 rw [e, zf]
 rcases hy with ⟨m, rfl, h⟩ | ⟨m, rfl, h⟩
 ·exact .inr ⟨h, rfl⟩
 ·exact .inl ⟨h, rfl⟩
theorem s101 {b : Ba} (h : b.2.2.length ≤ 100) (hN : 1000 ≤ N) : (BathOk off.length b ∧ sf101 N off er B b.1 b.2.1 b.2.2 = some true) ∨ (¬ BathOk off.length b ∧ sf101 N off er B b.1 b.2.1 b.2.2 = some false) := by
 unfold sf101
 rw [s113, zf]
 by_cases h1 : HtOk b.1 b.2.1
 ·rw [decide_eq_true (p := 0 ≤ b.1 ∧ b.1 ≤ b.2.1 ∧ b.2.1 ≤ 1000) h1, cond_true]
  rcases s124 (off := off) (er := er) (B := B) h hN with ⟨h2, e⟩ | ⟨h2, e⟩
  ·rw [e, zf, cond_true]
   rcases s126 (a := b.1) (b := b.2.1) h hN with ⟨h3, e⟩ | ⟨h3, e⟩
   ·rw [e, zf]; exact .inl ⟨⟨h1, h2, h3⟩, rfl⟩
   ·rw [e, zf]; exact .inr ⟨fun g => h3 g.2.2, rfl⟩
  ·rw [e, zf, cond_false]; exact .inr ⟨fun g => h2 g.2.1, rfl⟩
 ·rw [decide_eq_false (p := 0 ≤ b.1 ∧ b.1 ≤ b.2.1 ∧ b.2.1 ≤ 1000) h1, cond_false]
  exact .inr ⟨fun g => h1 g.1, rfl⟩
def Short (B : List Ba) : Prop := ∀ b, b ∈ B → b.2.2.length ≤ 100
theorem s100 {C : List Ba} (h : C.length ≤ 100) (hs : Short C) (hN : 1000 ≤ N) : (AllP (BathOk off.length) C ∧ sf100 N C off er B = some true) ∨ (¬ AllP (BathOk off.length) C ∧ sf100 N C off er B = some false) := by
 classical
 unfold sf100
 rcases y6 (step := sf100_L1 N C off er B) (l := C) (p := BathOk off.length) (N := N) (by omega) (by
   intro j z hz hp
   have := zR hz
   unfold sf100_L1
   rw [decide_eq_true (by omega), cond_true, zJ rfl hz]
   rcases s101 (off := off) (er := er) (B := B) (hs z (List.mem_of_getElem? hz)) hN with ⟨_, e⟩ | ⟨g, _⟩
   ·rw [e, zf, Bool.not_true, cond_false, zI (by unfold rng; omega)]
   ·exact absurd hp g) (by
   intro j z hz hp
   have := zR hz
   unfold sf100_L1
   rw [decide_eq_true (by omega), cond_true, zJ rfl hz]
   rcases s101 (off := off) (er := er) (B := B) (hs z (List.mem_of_getElem? hz)) hN with ⟨g, _⟩ | ⟨_, e⟩
   ·exact absurd g hp
   ·rw [e, zf]; rfl) (by
   unfold sf100_L1
   rw [decide_eq_false (by omega), cond_false]) with ⟨hA, e⟩ | ⟨hA, e⟩
 ·exact .inl ⟨hA, by rw [e, zf]; rfl⟩
 ·exact .inr ⟨hA, by rw [e, zf]; rfl⟩
theorem s69 (h1 : off.length ≤ 6) (h2 : B.length ≤ 6) (hs : Short B) (hN : 1000 ≤ N) : (SerOk off er B ∧ sf69 N off er B = some true) ∨ (¬ SerOk off er B ∧ sf69 N off er B = some false) := by
 unfold sf69
 by_cases c1 : (0 : Int) < (off.length : Int)
 ·rw [decide_eq_true c1, cond_true]
  rcases s98 (l := off) (N := N) (by omega) hN with ⟨c2, e⟩ | ⟨c2, e⟩
  ·rw [e, zf, cond_true]
   by_cases c3 : 0 ≤ er
   ·rw [decide_eq_true c3, cond_true]
    by_cases c4 : er ≤ 20
    ·rw [decide_eq_true c4, cond_true]
     rcases s100 (off := off) (er := er) (B := B) (C := B) (by omega) hs hN with ⟨c5, e⟩ | ⟨c5, e⟩
     ·rw [e, zf]; exact .inl ⟨⟨⟨by omega, h1⟩, c2, ⟨c3, c4⟩, h2, c5⟩, rfl⟩
     ·rw [e, zf]; exact .inr ⟨fun g => c5 g.2.2.2.2, rfl⟩
    ·rw [decide_eq_false c4, cond_false]; exact .inr ⟨fun g => c4 g.2.2.1.2, rfl⟩
   ·rw [decide_eq_false c3, cond_false]; exact .inr ⟨fun g => c3 g.2.2.1.1, rfl⟩
  ·rw [e, zf, cond_false]; exact .inr ⟨fun g => c2 g.2.1, rfl⟩
 ·rw [decide_eq_false c1, cond_false]; exact .inr ⟨fun g => c1 (by have := g.1.1; omega), rfl⟩
noncomputable def code (off : List (Int × Int)) (er : Int) (B : List Ba) : Int := open Classical in if 6 < off.length ∨ 6 < B.length then 3 else if SerOk off er B then 0 else 1
theorem XP (h : SerOk off er B) : code off er B = 0 := by
 unfold code
 rw [if_neg (by have := h.1; have := h.2.2.2.1; omega), if_pos h]
theorem X9 (h : code off er B = 0) : SerOk off er B := by
 unfold code at h
 split at h
 ·cases h
 ·split at h
  ·assumption
  ·cases h
theorem s21 (hs : Short B) (hN : 1000 ≤ N) : sf21 N off er B = some (code off er B) := by
 unfold sf21 code
 by_cases c1 : (6 : Int) < (off.length : Int)
 ·rw [decide_eq_true c1, if_pos (.inl (by omega))]; rfl
 ·rw [decide_eq_false c1, cond_false, zf]
  by_cases c2 : (6 : Int) < (B.length : Int)
  ·rw [decide_eq_true c2, if_pos (.inr (by omega))]; rfl
  ·rw [decide_eq_false c2, cond_false, if_neg (by omega)]
   rcases s69 (off := off) (er := er) (B := B) (by omega) (by omega) hs hN with ⟨c, e⟩ | ⟨c, e⟩
   ·rw [e, zf, if_pos c]; rfl
   ·rw [e, zf, if_neg c]; rfl
end
end Go.Hx.V

namespace Go.Hx.V
open Go.Hx
section
variable {off : List (Int × Int)} {er : Int} {B : List Ba} {N : Nat}
theorem s105 {a : Int} (h1 : 0 ≤ a) (h2 : a ≤ 100) : sf105 N off er B a = some ((1 + a.toNat : Nat) : Int) := by
 unfold sf105
 rw [zI (by unfold rng; omega)]
 congr 1; omega
end
end Go.Hx.V

namespace Go.Hx.V
open Go.Hx
section
variable {off : List (Int × Int)} {er : Int} {B : List Ba} {N : Nat}
abbrev Vt := List (Int × Int) × Int × List Ba × Int × (Nat → Int)
theorem l2 (v : Vt) (x : Int × Int) (f t : Int) : sf80_L2 N v x f t = lO N v.2.2.2.1 f t (x.2 + v.2.1) := rfl
theorem l4 (v : Vt) (x : Int × Int) (f t : Int) : sf80_L4 N v x f t = lO N v.2.2.2.1 t f (v.2.1 - x.2) := rfl
end
end Go.Hx.V

namespace Go.Hx.V
open Go.Hx
section
variable {off : List (Int × Int)} {er : Int} {B : List Ba} {N : Nat}
theorem s127 {n x : Nat} {T : Int} {F : Nat → Int} (hn : n ≤ 12) (hx : x ≤ n) (h : Gd n F) : sf127 N off er B T F x = some (-F (x * 13 + 0)) := by
 have := h.ub x 0 hx (Nat.zero_le _)
 have := h.lb (i := x) (j := 0) hx (Nat.zero_le _)
 unfold sf127
 rw [toN, show (0 : Int).toNat = 0 from rfl, zI (by omega), zI (by omega), zI (by unfold rng; omega)]
theorem s128 {n x : Nat} {T : Int} {F : Nat → Int} (hn : n ≤ 12) (hx : x ≤ n) : sf128 N off er B T F x = some (F (0 * 13 + x)) := by
 unfold sf128
 rw [toN, show (0 : Int).toNat = 0 from rfl, zI (by omega), zI (by omega)]
theorem s75 {n i : Nat} {T : Int} {F : Nat → Int} (hn : n ≤ 12) (hx : 1 + i ≤ n) (h : Gd n F) : sf75 N off er B T F i = some (-F ((1 + i) * 13 + 0), F (0 * 13 + (1 + i))) := by
 unfold sf75
 rw [show sf104 N = some () from rfl, zf, s105 (by omega) (by omega), zf, toN, s127 hn hx h, zf, s128 hn hx, zf]
theorem s64 {a b : List (Int × Int)} (hl : a.length = b.length) (h100 : a.length ≤ 100) (h : ∀ (i : Nat) (x y : Int × Int), a[i]? = some x → b[i]? = some y → y.1 ≤ x.1 ∧ x.2 ≤ y.2) (hN : 1000 ≤ N) : sf64 N a b = some true := by
 unfold sf64
 rw [decide_eq_true (by omega), Bool.not_true, cond_false]
 rw [vH (x := (0 : Int)) (fun j => (j : Int)) a.length (Sum.inr ()) rfl (fun j hj => by
  obtain ⟨x, hx⟩ : ∃ x, a[j]? = some x := ⟨_, zp hj⟩
  obtain ⟨y, hy⟩ : ∃ y, b[j]? = some y := ⟨_, zp (by omega)⟩
  have := h j x y hx hy
  unfold sf64_L1
  rw [decide_eq_true (by omega), cond_true, zJ rfl hx, zJ rfl hy, decide_eq_false (by omega), cond_false, zJ rfl hx, zJ rfl hy, decide_eq_false (by omega), zf, cond_false, zI (by unfold rng; omega)]
  rfl) (by
  unfold sf64_L1
  rw [decide_eq_false (by omega), cond_false]) (by omega)]
 rfl
theorem s22 (ho : off.length ≤ 100) (hB : B.length ≤ 100) (hS : Short B) (hN : 1000 ≤ N) : sf22 N off er B = some (off, er, B) := by
 unfold sf22
 rw [vH (x := ((0 : Int), ([] : List (Int × Int)))) (fun j => ((j : Int), off.take j)) off.length off rfl (fun j hj => by
  obtain ⟨x, hx⟩ : ∃ x, off[j]? = some x := ⟨_, zp hj⟩
  unfold sf22_L1
  dsimp only
  rw [decide_eq_true (by omega), cond_true, zJ rfl hx, show sf33 N x.1 x.2 = some (x.1, x.2) from rfl, zf, zI (by rw [List.length_take]; omega), zI (by unfold rng; omega), vQ hx]
  rfl) (by
  unfold sf22_L1
  dsimp only
  rw [decide_eq_false (by omega), cond_false, List.take_of_length_le (Nat.le_refl _)]) (by omega), zf]
 rw [vH (x := ((0 : Int), ([] : List Ba))) (fun j => ((j : Int), B.take j)) B.length B rfl (fun j hj => by
  obtain ⟨x, hx⟩ : ∃ x, B[j]? = some x := ⟨_, zp hj⟩
  have hxl := hS x (List.mem_of_getElem? hx)
  unfold sf22_L3
  dsimp only
  rw [decide_eq_true (by omega), cond_true, zJ rfl hx, show sf33 N x.1 x.2.1 = some (x.1, x.2.1) from rfl, zf]
  rw [vH (x := ((0 : Int), ([] : List (Int × Int)))) (fun i => ((i : Int), x.2.2.take i)) x.2.2.length x.2.2 rfl (fun i hi => by
   obtain ⟨r, hr⟩ : ∃ r, x.2.2[i]? = some r := ⟨_, zp hi⟩
   unfold sf22_L2
   dsimp only
   rw [zJ rfl hx, decide_eq_true (by omega), cond_true, zJ rfl hx, zJ rfl hr, zI (by rw [List.length_take]; omega), zI (by unfold rng; omega), vQ hr]
   rfl) (by
   unfold sf22_L2
   dsimp only
   rw [zJ rfl hx, decide_eq_false (by omega), cond_false, List.take_of_length_le (Nat.le_refl _)]) (by omega), zf, zI (by rw [List.length_take]; omega), zI (by unfold rng; omega), vQ hx]
  rfl) (by
  unfold sf22_L3
  dsimp only
  rw [decide_eq_false (by omega), cond_false, List.take_of_length_le (Nat.le_refl _)]) (by omega), zf]
end
end Go.Hx.V

namespace Go.Hx.V
open Go.Hx
def Less (B' B : List Ba) : Prop := B'.length = B.length ∧ ∀ (b : Nat) (x' : Ba), B'[b]? = some x' → ∃ x, B[b]? = some x ∧ x'.1 = x.1 ∧ x'.2.1 = x.2.1 ∧ List.Sublist x'.2.2 x.2.2
section
variable {off : List (Int × Int)} {er er' : Int} {B B' : List Ba} {N : Nat}
end
end Go.Hx.V

namespace Go.Hx.V
open Go.Hx
theorem s32 {N : Nat} {n a b : Int} : sf32 N n a b = some (decide (a ≤ n ∧ n ≤ b)) := by
 unfold sf32
 by_cases h1 : a ≤ n
 ·rw [decide_eq_true h1, cond_true]
  congr 1
  by_cases h2 : n ≤ b
  ·rw [decide_eq_true h2, decide_eq_true ⟨h1, h2⟩]
  ·rw [decide_eq_false h2, decide_eq_false (fun h => h2 h.2)]
 ·rw [decide_eq_false h1, cond_false, decide_eq_false (fun h => h1 h.1)]
theorem s90 {N : Nat} {p q a b : Int} : sf90 N p q a b = some (decide (a ≤ p ∧ p ≤ q ∧ q ≤ b)) := by
 unfold sf90
 rw [s32, zf]
 by_cases h1 : a ≤ p ∧ p ≤ q
 ·rw [decide_eq_true h1, cond_true]
  congr 1
  by_cases h2 : q ≤ b
  ·rw [decide_eq_true h2, decide_eq_true ⟨h1.1, h1.2, h2⟩]
  ·rw [decide_eq_false h2, decide_eq_false (fun h => h2 h.2.2)]
 ·rw [decide_eq_false h1, cond_false, decide_eq_false (fun h => h1 ⟨h.1, h.2.1⟩)]
section
variable {off : List (Int × Int)} {er : Int} {B : List Ba} {N : Nat}
theorem f_in {x : Ba} {j : Nat} {z : Int × Int} (hz : x.2.2[j]? = some z) (h : x.2.2.length ≤ 100) (hN : 1000 ≤ N) :
  ((∀ i a, i < j → x.2.2[i]? = some a → a.1 ≠ z.1) ∧ iter (sf73_L2 x (j : Int)) N (0 : Int) = some (.inr ())) ∨ (¬ (∀ i a, i < j → x.2.2[i]? = some a → a.1 ≠ z.1) ∧ iter (sf73_L2 x (j : Int)) N (0 : Int) = some (.inl 1)) := by
 have hj := zR hz
 haveI : DecidablePred fun (i : Nat) => ∀ a, x.2.2[i]? = some a → a.1 ≠ z.1 := fun _ => Classical.propDecidable _
 rcases yC (step := sf73_L2 x (j : Int)) (x := (0 : Int)) (N := N) (fun i => (i : Int)) j (fun i => ∀ a, x.2.2[i]? = some a → a.1 ≠ z.1) (Sum.inr ()) (Sum.inl 1) rfl (fun i hi hp => by
   obtain ⟨a, ha⟩ : ∃ a, x.2.2[i]? = some a := ⟨_, zp (by omega)⟩
   unfold sf73_L2
   rw [decide_eq_true (by omega), cond_true, zJ rfl ha, zJ rfl hz, decide_eq_false (hp a ha), cond_false, zI (by unfold rng; omega)]
   rfl) (fun i hi hp => by
   obtain ⟨a, ha⟩ : ∃ a, x.2.2[i]? = some a := ⟨_, zp (by omega)⟩
   have : a.1 = z.1 := Classical.byContradiction fun hc => hp fun b hb => by rw [ha] at hb; cases hb; exact hc
   unfold sf73_L2
   rw [decide_eq_true (by omega), cond_true, zJ rfl ha, zJ rfl hz, decide_eq_true this, cond_true]) (by
   unfold sf73_L2
   rw [decide_eq_false (by omega), cond_false]) (by omega) with ⟨h1, h2⟩ | ⟨h1, h2⟩
 ·exact .inl ⟨fun i a hi ha => h1 i hi a ha, h2⟩
 ·exact .inr ⟨fun g => h1 fun i hi a ha => g i a hi ha, h2⟩
theorem f_bath {x : Ba} (ho : off.length ≤ 100) (h : x.2.2.length ≤ 100) (hN : 1000 ≤ N) :
  ((AllP (RdOk off.length) x.2.2 ∧ Once x.2.2) ∧ iter (sf73_L3 N off x) N (0 : Int) = some (.inr ())) ∨ (¬ (AllP (RdOk off.length) x.2.2 ∧ Once x.2.2) ∧ iter (sf73_L3 N off x) N (0 : Int) = some (.inl 1)) := by
 have dec : ∀ (j : Nat) (z : Int × Int), x.2.2[j]? = some z → ∀ (K : Option (Int ⊕ (Int ⊕ Unit))), sf73_L3 N off x (j : Int) = (if RdOk off.length z then bnd (iter (sf73_L2 x (j : Int)) N (0 : Int)) (sel (fun w => some (.inr (.inl w))) (fun w => (ck (rng ((j : Int) + (1 : Int))) (some (.inl ((j : Int) + (1 : Int))))))) else some (.inr (.inl 1))) := fun j z hz K => by
  have hj := zR hz
  unfold sf73_L3
  rw [decide_eq_true (by omega), cond_true, zJ rfl hz, zI (by unfold rng; omega), s32, zf]
  by_cases c1 : 0 ≤ z.1 ∧ z.1 ≤ (off.length : Int) - 1
  ·rw [decide_eq_true c1, Bool.not_true, cond_false, zJ rfl hz, s32, zf]
   by_cases c2 : -1000 ≤ z.2 ∧ z.2 ≤ 2000
   ·rw [decide_eq_true c2, if_pos (show RdOk off.length z from ⟨⟨c1.1, by omega⟩, c2⟩), Bool.not_true, zf, cond_false, zf, sR]
   ·rw [decide_eq_false c2, if_neg (show ¬ RdOk off.length z from fun g => c2 g.2), Bool.not_false, zf, cond_true, zf, sL]
  ·rw [decide_eq_false c1, if_neg (show ¬ RdOk off.length z from fun g => c1 ⟨g.1.1, by have := g.1.2; omega⟩), Bool.not_false, cond_true, zf, cond_true, zf, sL]
 haveI : DecidablePred fun (j : Nat) => ∀ z, x.2.2[j]? = some z → RdOk off.length z ∧ ∀ i a, i < j → x.2.2[i]? = some a → a.1 ≠ z.1 := fun _ => Classical.propDecidable _
 rcases yC (step := sf73_L3 N off x) (x := (0 : Int)) (N := N) (fun j => (j : Int)) x.2.2.length (fun j => ∀ z, x.2.2[j]? = some z → RdOk off.length z ∧ ∀ i a, i < j → x.2.2[i]? = some a → a.1 ≠ z.1) (Sum.inr ()) (Sum.inl 1) rfl (fun j hj hp => by
   obtain ⟨z, hz⟩ : ∃ z, x.2.2[j]? = some z := ⟨_, zp hj⟩
   have q := hp z hz
   rw [dec j z hz none, if_pos q.1]
   rcases f_in hz h hN with ⟨_, e⟩ | ⟨g, _⟩
   ·rw [e, zf, sR, zI (by unfold rng; omega)]; rfl
   ·exact absurd q.2 g) (fun j hj hp => by
   obtain ⟨z, hz⟩ : ∃ z, x.2.2[j]? = some z := ⟨_, zp hj⟩
   rw [dec j z hz none]
   by_cases c : RdOk off.length z
   ·rw [if_pos c]
    rcases f_in hz h hN with ⟨g, _⟩ | ⟨_, e⟩
    ·exact absurd (fun z' hz' => by rw [hz] at hz'; cases hz'; exact ⟨c, g⟩) hp
    ·rw [e, zf, sL]
   ·rw [if_neg c]) (by
   unfold sf73_L3
   rw [decide_eq_false (by omega), cond_false]) (by omega) with ⟨h1, h2⟩ | ⟨h1, h2⟩
 ·refine .inl ⟨⟨fun r hr => ?_, fun i j a b hij ha hb => (h1 j (zR hb) b hb).2 i a hij ha⟩, h2⟩
  obtain ⟨j, hj⟩ := List.getElem?_of_mem hr
  exact (h1 j (zR hj) r hj).1
 ·exact .inr ⟨fun g => h1 fun j hj z hz => ⟨g.1 z (List.mem_of_getElem? hz), fun i a hi ha => g.2 i j a z hi ha hz⟩, h2⟩
theorem s73 (hS : Short B) (hN : 1000 ≤ N) : sf73 N off er B = some (code off er B) := by
 classical
 unfold sf73 code
 by_cases c0 : 6 < off.length ∨ 6 < B.length
 ·rw [if_pos c0]
  by_cases c1 : (6 : Int) < (off.length : Int)
  ·rw [decide_eq_true c1]; rfl
  ·rw [decide_eq_false c1, cond_false, decide_eq_true (by omega)]; rfl
 ·rw [if_neg c0, decide_eq_false (p := (6 : Int) < (off.length : Int)) (by omega), cond_false, decide_eq_false (p := (6 : Int) < (B.length : Int)) (by omega), zf, cond_false, zf, sR]
  by_cases c1 : (off.length : Int) = 0
  ·rw [decide_eq_true c1, cond_true, if_neg (fun g : SerOk off er B => by have := g.1; omega)]; rfl
  ·rw [decide_eq_false c1, cond_false, s32, zf]
   by_cases c2 : 0 ≤ er ∧ er ≤ 20
   ·rw [decide_eq_true c2, Bool.not_true, zf, cond_false, zf, sR]
    rcases y6 (step := sf73_L1 N off) (l := off) (p := OffOk) (bad := (1 : Int)) (N := N) (by omega) (by
     intro j z hz hp
     have := zR hz
     unfold sf73_L1
     rw [decide_eq_true (by omega), cond_true, zJ rfl hz, s90, zf, decide_eq_true (p := -100 ≤ z.1 ∧ z.1 ≤ z.2 ∧ z.2 ≤ 100) hp, Bool.not_true, cond_false, zI (by unfold rng; omega)]) (by
     intro j z hz hp
     have := zR hz
     unfold sf73_L1
     rw [decide_eq_true (by omega), cond_true, zJ rfl hz, s90, zf, decide_eq_false (p := -100 ≤ z.1 ∧ z.1 ≤ z.2 ∧ z.2 ≤ 100) hp]
     rfl) (by
     unfold sf73_L1
     rw [decide_eq_false (by omega), cond_false]) with ⟨hA, e⟩ | ⟨hA, e⟩
    ·rw [e, zf, sR]
     rcases y6 (step := sf73_L4 N off B) (l := B) (p := BathOk off.length) (bad := (1 : Int)) (N := N) (by omega) (by
      intro j z hz hp
      have := zR hz
      unfold sf73_L4
      rw [decide_eq_true (by omega), cond_true, zJ rfl hz, s90, zf, decide_eq_true (p := 0 ≤ z.1 ∧ z.1 ≤ z.2.1 ∧ z.2.1 ≤ 1000) hp.1, Bool.not_true, cond_false]
      rcases f_bath (off := off) (x := z) (by omega) (hS z (List.mem_of_getElem? hz)) hN with ⟨_, e⟩ | ⟨g, _⟩
      ·rw [e, zf, sR, zI (by unfold rng; omega)]
      ·exact absurd hp.2 g) (by
      intro j z hz hp
      have := zR hz
      unfold sf73_L4
      rw [decide_eq_true (by omega), cond_true, zJ rfl hz, s90, zf]
      by_cases c : 0 ≤ z.1 ∧ z.1 ≤ z.2.1 ∧ z.2.1 ≤ 1000
      ·rw [decide_eq_true c, Bool.not_true, cond_false]
       rcases f_bath (off := off) (x := z) (by omega) (hS z (List.mem_of_getElem? hz)) hN with ⟨g, _⟩ | ⟨_, e⟩
       ·exact absurd ⟨c, g⟩ hp
       ·rw [e, zf, sL]
      ·rw [decide_eq_false c]; rfl) (by
      unfold sf73_L4
      rw [decide_eq_false (by omega), cond_false]) with ⟨hB, e⟩ | ⟨hB, e⟩
     ·rw [e, zf, sR, if_pos (show SerOk off er B from ⟨by omega, hA, c2, by omega, hB⟩)]
     ·rw [e, zf, sL, if_neg (fun g : SerOk off er B => hB g.2.2.2.2)]
    ·rw [e, zf, sL, if_neg (fun g : SerOk off er B => hA g.2.1)]
   ·rw [decide_eq_false c2, if_neg (fun g : SerOk off er B => c2 g.2.2.1)]; rfl
def ThinP (off : List (Int × Int)) (B : List Ba) : Prop := off.length ≤ 9 ∧ B.length ≤ 9 ∧ ∀ b, b ∈ B → b.2.2.length ≤ 9
theorem s19 (hN : 1000 ≤ N) : ∃ v : Bool, sf19 N off er B = some v ∧ (v = true → ThinP off B) := by
 unfold sf19
 obtain ⟨y, e, hy⟩ := jh (step := sf19_L1 B) (fun x => ∃ j : Nat, j ≤ B.length ∧ j ≤ 10 ∧ x = (j : Int) ∧ ∀ i b, i < j → B[i]? = some b → b.2.2.length ≤ 9) (fun x => 10 - x.toNat)
  (fun y => y = .inr () ∨ (y = .inl () ∧ ∀ i b, i < 10 → B[i]? = some b → b.2.2.length ≤ 9)) (by
   rintro x ⟨j, h1, h2, rfl, h3⟩
   unfold sf19_L1
   by_cases c1 : j < B.length
   ·rw [decide_eq_true (p := (j : Int) < (B.length : Int)) (by omega), cond_true, zf]
    by_cases c2 : j < 10
    ·rw [decide_eq_true (p := (j : Int) < 10) (by omega), cond_true, zf, sL]
     obtain ⟨z, hz⟩ : ∃ z, B[j]? = some z := ⟨_, zp c1⟩
     rw [zJ rfl hz]
     by_cases c3 : 9 < z.2.2.length
     ·rw [decide_eq_true (by omega), cond_true]; exact .inr ⟨_, rfl, .inl rfl⟩
     ·rw [decide_eq_false (by omega), cond_false, zI (by unfold rng; omega)]
      refine .inl ⟨_, rfl, ⟨j + 1, by omega, by omega, rfl, fun i b hi hb => ?_⟩, by simp; omega⟩
      by_cases e : i = j
      ·subst e; rw [hz] at hb; cases hb; omega
      ·exact h3 i b (by omega) hb
    ·rw [decide_eq_false (p := (j : Int) < 10) (by omega), cond_false, zf, sR]
     exact .inr ⟨_, rfl, .inr ⟨rfl, fun i b hi hb => h3 i b (by omega) hb⟩⟩
   ·rw [decide_eq_false (p := (j : Int) < (B.length : Int)) (by omega), cond_false, zf, cond_false, zf, sR]
    exact .inr ⟨_, rfl, .inr ⟨rfl, fun i b hi hb => h3 i b (by have := zR hb; omega) hb⟩⟩) N 0 ⟨0, by omega, by omega, rfl, fun i b hi => by omega⟩ (by simp; omega)
 rw [e, zf]
 rcases hy with rfl | ⟨rfl, h⟩
 ·exact ⟨false, rfl, fun h => by cases h⟩
 ·rw [sL]
  by_cases c1 : (off.length : Int) ≤ 9
  ·rw [decide_eq_true c1, cond_true]
   refine ⟨_, rfl, fun h2 => ?_⟩
   have h2 := of_decide_eq_true h2
   refine ⟨by omega, by omega, fun b hb => ?_⟩
   obtain ⟨i, hi⟩ := List.getElem?_of_mem hb
   exact h i b (by have := zR hi; omega) hi
  ·rw [decide_eq_false c1, cond_false]
   exact ⟨false, rfl, fun h => by cases h⟩
theorem kR (h : ThinP off B) : Short B := fun b hb => Nat.le_trans (h.2.2 b hb) (by decide)
end
end Go.Hx.V

namespace Go.Hx.V
open Go.Hx
section
variable {off : List (Int × Int)} {er : Int} {B : List Ba} {o h : List Int} {N : Nat}
theorem s102 {a b x : Int} : sf102 N a b x = some (decide (a ≤ x ∧ x ≤ b)) := by
 unfold sf102
 by_cases h1 : a ≤ x
 ·rw [decide_eq_true h1, cond_true]
  congr 1
  by_cases h2 : x ≤ b
  ·rw [decide_eq_true h2, decide_eq_true ⟨h1, h2⟩]
  ·rw [decide_eq_false h2, decide_eq_false (fun h => h2 h.2)]
 ·rw [decide_eq_false h1, cond_false, decide_eq_false (fun h => h1 h.1)]
def OffAt (off : List (Int × Int)) (o : List Int) (j : Nat) : Prop := ∀ r x, off[j]? = some r → o[j]? = some x → r.1 ≤ x ∧ x ≤ r.2
def HtAt (B : List Ba) (h : List Int) (b : Nat) : Prop := ∀ y x, B[b]? = some y → h[b]? = some x → y.1 ≤ x ∧ x ≤ y.2.1
def RdAt1 (er : Int) (y : Ba) (x : Int) (o : List Int) (i : Nat) : Prop := ∀ r oi, y.2.2[i]? = some r → o[r.1.toNat]? = some oi → -er ≤ r.2 - x - oi ∧ r.2 - x - oi ≤ er
def RdAt (er : Int) (B : List Ba) (o h : List Int) (b : Nat) : Prop := ∀ y x, B[b]? = some y → h[b]? = some x → ∀ i, i < y.2.2.length → RdAt1 er y x o i
def IsTr (off : List (Int × Int)) (er : Int) (B : List Ba) (o h : List Int) : Prop := (o.length = off.length ∧ h.length = B.length) ∧ (∀ j, j < o.length → OffAt off o j) ∧ (∀ b, b < h.length → HtAt B h b) ∧ ∀ b, b < h.length → RdAt er B o h b
theorem XG {step : Int → Option (Int ⊕ (Unit ⊕ Unit))} (hl : o.length = off.length) (h100 : o.length ≤ 100) (hN : 1000 ≤ N)
  (hs : ∀ (j : Nat) (r : Int × Int) (x : Int), off[j]? = some r → o[j]? = some x → step (j : Int) = (if r.1 ≤ x ∧ x ≤ r.2 then some (.inl ((j : Int) + 1)) else some (.inr (.inl ())))) (he : step (o.length : Int) = some (.inr (.inr ()))) :
  ((∀ j, j < o.length → OffAt off o j) ∧ iter step N (0 : Int) = some (.inr ())) ∨ (¬ (∀ j, j < o.length → OffAt off o j) ∧ iter step N (0 : Int) = some (.inl ())) := by
 haveI : DecidablePred (OffAt off o) := fun _ => Classical.propDecidable _
 exact yC (step := step) (x := (0 : Int)) (N := N) (fun j => (j : Int)) o.length (OffAt off o) (Sum.inr ()) (Sum.inl ()) rfl (fun j hj hp => by
  rw [hs j _ _ (zp (by omega)) (zp hj), if_pos (hp _ _ (zp (by omega)) (zp hj))]; rfl) (fun j hj hp => by
  rw [hs j _ _ (zp (by omega)) (zp hj), if_neg (fun q => hp fun r x hr hx => by
   rw [zp (by omega)] at hr; rw [zp hj] at hx; cases hr; cases hx; exact q)]) he (by omega)
theorem s70a (hl : o.length = off.length) (h100 : o.length ≤ 100) (hN : 1000 ≤ N) : ((∀ j, j < o.length → OffAt off o j) ∧ iter (sf70_L1 N off o) N (0 : Int) = some (.inr ())) ∨ (¬ (∀ j, j < o.length → OffAt off o j) ∧ iter (sf70_L1 N off o) N (0 : Int) = some (.inl ())) :=
 XG hl h100 hN (fun j r x hr hx => by
  have := zR hx
  unfold sf70_L1
  rw [decide_eq_true (by omega), cond_true, zJ rfl hx, zJ rfl hr, s102, zf]
  by_cases c : r.1 ≤ x ∧ x ≤ r.2
  ·rw [decide_eq_true c, if_pos c, Bool.not_true, cond_false, zI (by unfold rng; omega)]
  ·rw [decide_eq_false c, if_neg c, Bool.not_false, cond_true]) (by
  unfold sf70_L1
  rw [decide_eq_false (by omega), cond_false])
theorem s26a (hl : o.length = off.length) (h100 : o.length ≤ 100) (hN : 1000 ≤ N) : ((∀ j, j < o.length → OffAt off o j) ∧ iter (sf26_L1 N off o) N (0 : Int) = some (.inr ())) ∨ (¬ (∀ j, j < o.length → OffAt off o j) ∧ iter (sf26_L1 N off o) N (0 : Int) = some (.inl ())) :=
 XG hl h100 hN (fun j r x hr hx => by
  have := zR hx
  unfold sf26_L1
  rw [decide_eq_true (by omega), cond_true, zJ rfl hx, zJ rfl hr, zJ rfl hr, s32, zf]
  by_cases c : r.1 ≤ x ∧ x ≤ r.2
  ·rw [decide_eq_true c, if_pos c, Bool.not_true, cond_false, zI (by unfold rng; omega)]
  ·rw [decide_eq_false c, if_neg c, Bool.not_false, cond_true]) (by
  unfold sf26_L1
  rw [decide_eq_false (by omega), cond_false])
theorem s70b (hl : h.length = B.length) (h100 : h.length ≤ 100) (hN : 1000 ≤ N) : ((∀ b, b < h.length → HtAt B h b) ∧ iter (sf70_L2 N B h) N (0 : Int) = some (.inr ())) ∨ (¬ (∀ b, b < h.length → HtAt B h b) ∧ iter (sf70_L2 N B h) N (0 : Int) = some (.inl ())) := by
 haveI : DecidablePred (HtAt B h) := fun _ => Classical.propDecidable _
 have hs : ∀ (j : Nat) (y : Ba) (x : Int), B[j]? = some y → h[j]? = some x → sf70_L2 N B h (j : Int) = (if y.1 ≤ x ∧ x ≤ y.2.1 then some (.inl ((j : Int) + 1)) else some (.inr (.inl ()))) := fun j y x hy hx => by
  have := zR hx
  unfold sf70_L2
  rw [decide_eq_true (by omega), cond_true, zJ rfl hx, zJ rfl hy, s102, zf]
  by_cases c : y.1 ≤ x ∧ x ≤ y.2.1
  ·rw [decide_eq_true c, if_pos c, Bool.not_true, cond_false, zI (by unfold rng; omega)]
  ·rw [decide_eq_false c, if_neg c, Bool.not_false, cond_true]
 exact yC (step := sf70_L2 N B h) (x := (0 : Int)) (N := N) (fun j => (j : Int)) h.length (HtAt B h) (Sum.inr ()) (Sum.inl ()) rfl (fun j hj hp => by
  rw [hs j _ _ (zp (by omega)) (zp hj), if_pos (hp _ _ (zp (by omega)) (zp hj))]; rfl) (fun j hj hp => by
  rw [hs j _ _ (zp (by omega)) (zp hj), if_neg (fun q => hp fun r x hr hx => by
   rw [zp (by omega)] at hr; rw [zp hj] at hx; cases hr; cases hx; exact q)]) (by
  unfold sf70_L2
  rw [decide_eq_false (by omega), cond_false]) (by omega)
theorem s72 {a z : Int} (hN : 1000 ≤ N) : sf72 N a [z] = some (max a z) := by
 obtain ⟨M, rfl⟩ : ∃ M, N = M + 2 := ⟨N - 2, by omega⟩
 unfold sf72
 have st : sf72_L1 [z] (a, 0) = some (.inl (max a z, 1)) := by
  unfold sf72_L1
  dsimp only
  rw [decide_eq_true (by simp), cond_true, ix_0 (x := z) rfl]
  by_cases c : a < z
  ·rw [decide_eq_true c, cond_true, zI (by unfold rng; omega), show max a z = z by omega]; rfl
  ·rw [decide_eq_false c, cond_false, zI (by unfold rng; omega), show max a z = a by omega]; rfl
 rw [iter_s (M := M + 1) st, iter_e (M := M) (y := max a z) (by
  unfold sf72_L1
  dsimp only
  rw [decide_eq_false (by simp), cond_false]), zf]
theorem rd_b {y : Ba} {x : Int} {i : Nat} {r : Int × Int} (hy : AllP (RdOk off.length) y.2.2) (hol : o.length = off.length) (hr : y.2.2[i]? = some r) : RdOk off.length r ∧ ∃ oi, o[r.1.toNat]? = some oi := by
 have := hy r (List.mem_of_getElem? hr)
 exact ⟨this, _, zp (by have := this.1; omega)⟩
theorem s23a {y : Ba} {x : Int} {b : Nat} (hs : SerOk off er B) (hB : B[b]? = some y) (hol : o.length = off.length) (ho : ∀ j, j < o.length → OffAt off o j) (hx : h[b]? = some x) (hxr : 0 ≤ x ∧ x ≤ 1000) (hyl : y.2.2.length ≤ 100) (hN : 1000 ≤ N) :
  ((∀ i, i < y.2.2.length → RdAt1 er y x o i) ∧ iter (sf23_L1 N er o h (b : Int) y) N (0 : Int) = some (.inr ())) ∨ (¬ (∀ i, i < y.2.2.length → RdAt1 er y x o i) ∧ iter (sf23_L1 N er o h (b : Int) y) N (0 : Int) = some (.inl ())) := by
 haveI : DecidablePred (RdAt1 er y x o) := fun _ => Classical.propDecidable _
 have hyo := hs.2.2.2.2 y (List.mem_of_getElem? hB)
 have st : ∀ (i : Nat) (r : Int × Int) (oi : Int), y.2.2[i]? = some r → o[r.1.toNat]? = some oi → sf23_L1 N er o h (b : Int) y (i : Int) = (if -er ≤ r.2 - x - oi ∧ r.2 - x - oi ≤ er then some (.inl ((i : Int) + 1)) else some (.inr (.inl ()))) := fun i r oi hr hoi => by
  have := zR hr
  have hrd := hyo.2.1 r (List.mem_of_getElem? hr)
  obtain ⟨⟨a1, a2⟩, a3, a4⟩ : (0 ≤ r.1 ∧ r.1 < (off.length : Int)) ∧ -1000 ≤ r.2 ∧ r.2 ≤ 2000 := hrd
  have hro : off[r.1.toNat]? = some off[r.1.toNat] := zp (by omega)
  have b1 := ho r.1.toNat (zR hoi) _ _ hro hoi
  have b2 := hs.2.1 _ (List.mem_of_getElem? hro)
  unfold OffOk at b2
  unfold sf23_L1
  rw [decide_eq_true (by omega), cond_true, zJ rfl hr, zJ rfl hx, zI (by unfold rng; omega), zJ (n := r.1.toNat) (by omega) hoi, zI (by unfold rng; omega), zI (by unfold rng; omega), s72 hN, zf]
  by_cases c : -er ≤ r.2 - x - oi ∧ r.2 - x - oi ≤ er
  ·rw [if_pos c, decide_eq_false (by omega), cond_false, zI (by unfold rng; omega)]
  ·rw [if_neg c, decide_eq_true (by omega), cond_true]
 exact yC (step := sf23_L1 N er o h (b : Int) y) (x := (0 : Int)) (N := N) (fun j => (j : Int)) y.2.2.length (RdAt1 er y x o) (Sum.inr ()) (Sum.inl ()) rfl (fun i hi hp => by
  obtain ⟨_, oi, hoi⟩ := rd_b (x := x) hyo.2.1 hol (zp hi)
  rw [st i _ oi (zp hi) hoi, if_pos (hp _ oi (zp hi) hoi)]; rfl) (fun i hi hp => by
  obtain ⟨_, oi, hoi⟩ := rd_b (x := x) hyo.2.1 hol (zp hi)
  rw [st i _ oi (zp hi) hoi, if_neg (fun q => hp fun r' oi' hr' hoi' => by
   rw [zp hi] at hr'; cases hr'; rw [hoi] at hoi'; cases hoi'; exact q)]) (by
  unfold sf23_L1
  rw [decide_eq_false (by omega), cond_false]) (by omega)
theorem s26b {y : Ba} {x : Int} {b : Nat} (hs : SerOk off er B) (hB : B[b]? = some y) (hol : o.length = off.length) (ho : ∀ j, j < o.length → OffAt off o j) (hx : h[b]? = some x) (hxr : 0 ≤ x ∧ x ≤ 1000) (hyl : y.2.2.length ≤ 100) (hN : 1000 ≤ N) :
  ((∀ i, i < y.2.2.length → RdAt1 er y x o i) ∧ iter (sf26_L2 N er o h (b : Int) y) N (0 : Int) = some (.inr ())) ∨ (¬ (∀ i, i < y.2.2.length → RdAt1 er y x o i) ∧ iter (sf26_L2 N er o h (b : Int) y) N (0 : Int) = some (.inl ())) := by
 haveI : DecidablePred (RdAt1 er y x o) := fun _ => Classical.propDecidable _
 have hyo := hs.2.2.2.2 y (List.mem_of_getElem? hB)
 have her := hs.2.2.1
 have st : ∀ (i : Nat) (r : Int × Int) (oi : Int), y.2.2[i]? = some r → o[r.1.toNat]? = some oi → sf26_L2 N er o h (b : Int) y (i : Int) = (if -er ≤ r.2 - x - oi ∧ r.2 - x - oi ≤ er then some (.inl ((i : Int) + 1)) else some (.inr (.inl ()))) := fun i r oi hr hoi => by
  have := zR hr
  have hrd := hyo.2.1 r (List.mem_of_getElem? hr)
  obtain ⟨⟨a1, a2⟩, a3, a4⟩ : (0 ≤ r.1 ∧ r.1 < (off.length : Int)) ∧ -1000 ≤ r.2 ∧ r.2 ≤ 2000 := hrd
  have hro : off[r.1.toNat]? = some off[r.1.toNat] := zp (by omega)
  have b1 := ho r.1.toNat (zR hoi) _ _ hro hoi
  have b2 := hs.2.1 _ (List.mem_of_getElem? hro)
  unfold OffOk at b2
  unfold sf26_L2
  rw [decide_eq_true (by omega), cond_true, zJ rfl hr, zJ rfl hx, zI (by unfold rng; omega), zJ rfl hr, zJ (n := r.1.toNat) (by omega) hoi, zI (by unfold rng; omega), zI (by unfold rng; omega), s32, zf]
  by_cases c : -er ≤ r.2 - x - oi ∧ r.2 - x - oi ≤ er
  ·rw [if_pos c, decide_eq_true c, Bool.not_true, cond_false, zI (by unfold rng; omega)]
  ·rw [if_neg c, decide_eq_false c, Bool.not_false, cond_true]
 exact yC (step := sf26_L2 N er o h (b : Int) y) (x := (0 : Int)) (N := N) (fun j => (j : Int)) y.2.2.length (RdAt1 er y x o) (Sum.inr ()) (Sum.inl ()) rfl (fun i hi hp => by
  obtain ⟨_, oi, hoi⟩ := rd_b (x := x) hyo.2.1 hol (zp hi)
  rw [st i _ oi (zp hi) hoi, if_pos (hp _ oi (zp hi) hoi)]; rfl) (fun i hi hp => by
  obtain ⟨_, oi, hoi⟩ := rd_b (x := x) hyo.2.1 hol (zp hi)
  rw [st i _ oi (zp hi) hoi, if_neg (fun q => hp fun r' oi' hr' hoi' => by
   rw [zp hi] at hr'; cases hr'; rw [hoi] at hoi'; cases hoi'; exact q)]) (by
  unfold sf26_L2
  rw [decide_eq_false (by omega), cond_false]) (by omega)
theorem ht_b {y : Ba} {x : Int} {b : Nat} (hs : SerOk off er B) (hB : B[b]? = some y) (hx : h[b]? = some x) (hh : HtAt B h b) : 0 ≤ x ∧ x ≤ 1000 := by
 have h1 := hh y x hB hx
 have h2 := (hs.2.2.2.2 y (List.mem_of_getElem? hB)).1
 unfold HtOk at h2
 omega
theorem s23b (hs : SerOk off er B) (hS : Short B) (hol : o.length = off.length) (hhl : h.length = B.length) (ho : ∀ j, j < o.length → OffAt off o j) (hh : ∀ b, b < h.length → HtAt B h b) (hN : 1000 ≤ N) :
  ((∀ b, b < h.length → RdAt er B o h b) ∧ iter (sf23_L2 N er B o h) N (0 : Int) = some (.inr ())) ∨ (¬ (∀ b, b < h.length → RdAt er B o h b) ∧ iter (sf23_L2 N er B o h) N (0 : Int) = some (.inl ())) := by
 haveI : DecidablePred (RdAt er B o h) := fun _ => Classical.propDecidable _
 have o3 := hs.2.2.2.1
 exact yC (step := sf23_L2 N er B o h) (x := (0 : Int)) (N := N) (fun j => (j : Int)) h.length (RdAt er B o h) (Sum.inr ()) (Sum.inl ()) rfl (fun b hb hp => by
  have hy : B[b]? = some B[b] := zp (by omega)
  have hx : h[b]? = some h[b] := zp hb
  unfold sf23_L2
  rw [decide_eq_true (by omega), cond_true, zJ rfl hy]
  rcases s23a (N := N) hs hy hol ho hx (ht_b hs hy hx (hh b hb)) (hS _ (List.mem_of_getElem? hy)) hN with ⟨_, e⟩ | ⟨g, _⟩
  ·rw [e, zf, sR, zI (by unfold rng; omega)]; rfl
  ·exact absurd (hp _ _ hy hx) g) (fun b hb hp => by
  have hy : B[b]? = some B[b] := zp (by omega)
  have hx : h[b]? = some h[b] := zp hb
  unfold sf23_L2
  rw [decide_eq_true (by omega), cond_true, zJ rfl hy]
  rcases s23a (N := N) hs hy hol ho hx (ht_b hs hy hx (hh b hb)) (hS _ (List.mem_of_getElem? hy)) hN with ⟨g, _⟩ | ⟨_, e⟩
  ·exact absurd (fun y x hy' hx' => by rw [hy] at hy'; rw [hx] at hx'; cases hy'; cases hx'; exact g) hp
  ·rw [e, zf, sL]) (by
  unfold sf23_L2
  rw [decide_eq_false (by omega), cond_false]) (by omega)
theorem s26c (hs : SerOk off er B) (hS : Short B) (hol : o.length = off.length) (hhl : h.length = B.length) (ho : ∀ j, j < o.length → OffAt off o j) (hN : 1000 ≤ N) :
  ((∀ b, b < h.length → HtAt B h b ∧ RdAt er B o h b) ∧ iter (sf26_L3 N er B o h) N (0 : Int) = some (.inr ())) ∨ (¬ (∀ b, b < h.length → HtAt B h b ∧ RdAt er B o h b) ∧ iter (sf26_L3 N er B o h) N (0 : Int) = some (.inl ())) := by
 haveI : DecidablePred (fun b => HtAt B h b ∧ RdAt er B o h b) := fun _ => Classical.propDecidable _
 have o3 := hs.2.2.2.1
 exact yC (step := sf26_L3 N er B o h) (x := (0 : Int)) (N := N) (fun j => (j : Int)) h.length (fun b => HtAt B h b ∧ RdAt er B o h b) (Sum.inr ()) (Sum.inl ()) rfl (fun b hb hp => by
  have hy : B[b]? = some B[b] := zp (by omega)
  have hx : h[b]? = some h[b] := zp hb
  have c := hp.1 _ _ hy hx
  unfold sf26_L3
  rw [decide_eq_true (by omega), cond_true, zJ rfl hy, zJ rfl hx, s32, zf, decide_eq_true c, Bool.not_true, cond_false]
  rcases s26b (N := N) hs hy hol ho hx (ht_b hs hy hx hp.1) (hS _ (List.mem_of_getElem? hy)) hN with ⟨_, e⟩ | ⟨g, _⟩
  ·rw [e, zf, sR, zI (by unfold rng; omega)]; rfl
  ·exact absurd (hp.2 _ _ hy hx) g) (fun b hb hp => by
  have hy : B[b]? = some B[b] := zp (by omega)
  have hx : h[b]? = some h[b] := zp hb
  unfold sf26_L3
  rw [decide_eq_true (by omega), cond_true, zJ rfl hy, zJ rfl hx, s32, zf]
  by_cases c : B[b].1 ≤ h[b] ∧ h[b] ≤ B[b].2.1
  ·have hH : HtAt B h b := fun y x hy' hx' => by rw [hy] at hy'; rw [hx] at hx'; cases hy'; cases hx'; exact c
   rw [decide_eq_true c, Bool.not_true, cond_false]
   rcases s26b (N := N) hs hy hol ho hx (ht_b hs hy hx hH) (hS _ (List.mem_of_getElem? hy)) hN with ⟨g, _⟩ | ⟨_, e⟩
   ·exact absurd ⟨hH, fun y x hy' hx' => by rw [hy] at hy'; rw [hx] at hx'; cases hy'; cases hx'; exact g⟩ hp
   ·rw [e, zf, sL]
  ·rw [decide_eq_false c, Bool.not_false, cond_true]) (by
  unfold sf26_L3
  rw [decide_eq_false (by omega), cond_false]) (by omega)
theorem s26 (hs : SerOk off er B) (hS : Short B) (hN : 1000 ≤ N) : (IsTr off er B o h ∧ sf26 N off er B o h = some true) ∨ (¬ IsTr off er B o h ∧ sf26 N off er B o h = some false) := by
 have o1 := hs.1; have o3 := hs.2.2.2.1
 unfold sf26
 by_cases c1 : o.length = off.length
 ·rw [decide_eq_true (by omega), Bool.not_true, cond_false]
  by_cases c2 : h.length = B.length
  ·rw [decide_eq_true (by omega), Bool.not_true, zf, cond_false, zf, sR]
   rcases s26a (N := N) c1 (by omega) hN with ⟨g1, e⟩ | ⟨g1, e⟩
   ·rw [e, zf, sR]
    rcases s26c (N := N) hs hS c1 c2 g1 hN with ⟨g2, e⟩ | ⟨g2, e⟩
    ·rw [e, zf, sR]; exact .inl ⟨⟨⟨c1, c2⟩, g1, fun b hb => (g2 b hb).1, fun b hb => (g2 b hb).2⟩, rfl⟩
    ·rw [e, zf, sL]; exact .inr ⟨fun q => g2 fun b hb => ⟨q.2.2.1 b hb, q.2.2.2 b hb⟩, rfl⟩
   ·rw [e, zf, sL]; exact .inr ⟨fun q => g1 q.2.1, rfl⟩
  ·rw [decide_eq_false (by omega)]; exact .inr ⟨fun q => c2 q.1.2, rfl⟩
 ·rw [decide_eq_false (by omega)]; exact .inr ⟨fun q => c1 q.1.1, rfl⟩
theorem s70 (h1 : off.length ≤ 100) (h2 : B.length ≤ 100) (hN : 1000 ≤ N) : (((o.length = off.length ∧ h.length = B.length) ∧ (∀ j, j < o.length → OffAt off o j) ∧ ∀ b, b < h.length → HtAt B h b) ∧ sf70 N off er B o h = some true) ∨
  (¬ ((o.length = off.length ∧ h.length = B.length) ∧ (∀ j, j < o.length → OffAt off o j) ∧ ∀ b, b < h.length → HtAt B h b) ∧ sf70 N off er B o h = some false) := by
 unfold sf70
 by_cases c1 : o.length = off.length
 ·rw [decide_eq_true (by omega), Bool.not_true, cond_false]
  by_cases c2 : h.length = B.length
  ·rw [decide_eq_true (by omega), Bool.not_true, zf, cond_false, zf, sR]
   rcases s70a (N := N) c1 (by omega) hN with ⟨g1, e⟩ | ⟨g1, e⟩
   ·rw [e, zf, sR]
    rcases s70b (N := N) c2 (by omega) hN with ⟨g2, e⟩ | ⟨g2, e⟩
    ·rw [e, zf, sR]; exact .inl ⟨⟨⟨c1, c2⟩, g1, g2⟩, rfl⟩
    ·rw [e, zf, sL]; exact .inr ⟨fun q => g2 q.2.2, rfl⟩
   ·rw [e, zf, sL]; exact .inr ⟨fun q => g1 q.2.1, rfl⟩
  ·rw [decide_eq_false (by omega)]; exact .inr ⟨fun q => c2 q.1.2, rfl⟩
 ·rw [decide_eq_false (by omega)]; exact .inr ⟨fun q => c1 q.1.1, rfl⟩
theorem s23 (hs : SerOk off er B) (hS : Short B) (hN : 1000 ≤ N) : (IsTr off er B o h ∧ sf23 N off er B o h = some true) ∨ (¬ IsTr off er B o h ∧ sf23 N off er B o h = some false) := by
 have o1 := hs.1; have o3 := hs.2.2.2.1
 unfold sf23
 rw [s21 hS hN, XP hs, zf, decide_eq_true (p := (0 : Int) = 0) rfl, Bool.not_true, cond_false]
 rcases s70 (N := N) (off := off) (er := er) (B := B) (o := o) (h := h) (by omega) (by omega) hN with ⟨⟨⟨c1, c2⟩, g1, g2⟩, e⟩ | ⟨g, e⟩
 ·rw [e, zf, Bool.not_true, zf, cond_false, zf, sR]
  rcases s23b (N := N) hs hS c1 c2 g1 g2 hN with ⟨g3, e⟩ | ⟨g3, e⟩
  ·rw [e, zf, sR]; exact .inl ⟨⟨⟨c1, c2⟩, g1, g2, g3⟩, rfl⟩
  ·rw [e, zf, sL]; exact .inr ⟨fun q => g3 q.2.2.2, rfl⟩
 ·rw [e, zf, Bool.not_false, zf, cond_true, zf, sL]
  exact .inr ⟨fun q => g ⟨q.1, q.2.1, q.2.2.1⟩, rfl⟩
theorem law3 (hN : 1000 ≤ N) : sf3 N off er B o h = some true := by
 unfold sf3
 obtain ⟨v, e, hv⟩ := s19 (N := N) (off := off) (er := er) (B := B) hN
 rw [e, zf]
 cases v with
 | false => rfl
 | true =>
  have ht := hv rfl
  have hS := kR ht
  have t1 := ht.1; have t2 := ht.2.1
  rw [Bool.not_true, cond_false]
  by_cases c1 : (12 : Int) < (o.length : Int)
  ·rw [decide_eq_true c1]; rfl
  ·rw [decide_eq_false c1, cond_false]
   by_cases c2 : (12 : Int) < (h.length : Int)
   ·rw [decide_eq_true c2]; rfl
   ·rw [decide_eq_false c2, zf, cond_false, zf, sR]
    have k1 : sf24 N o = some o := by unfold sf24; rw [zI (by simp; omega)]; rfl
    have k2 : sf24 N h = some h := by unfold sf24; rw [zI (by simp; omega)]; rfl
    rw [s22 (by omega) (by omega) hS hN, zf, s21 hS hN, zf, zf, k1, zf, k2, zf]
    by_cases hs : SerOk off er B
    ·unfold sf25
     rw [s73 hS hN, XP hs]
     rcases s23 (N := N) (o := o) (h := h) hs hS hN with ⟨g, e⟩ | ⟨g, e⟩
     ·rw [e, zf, zf, zf, decide_eq_true (p := (0 : Int) = 0) rfl, cond_true, cond_true]
      rcases s26 (N := N) (o := o) (h := h) hs hS hN with ⟨_, e⟩ | ⟨q, _⟩
      ·rw [e]; rfl
      ·exact absurd g q
     ·rw [e, zf, zf, zf, decide_eq_true (p := (0 : Int) = 0) rfl, cond_true, cond_true]
      rcases s26 (N := N) (o := o) (h := h) hs hS hN with ⟨q, _⟩ | ⟨_, e⟩
      ·exact absurd q g
      ·rw [e]; rfl
    ·have cz : code off er B ≠ 0 := fun q => hs (X9 q)
     have k3 : sf23 N off er B o h = some false := by
      unfold sf23
      rw [s21 hS hN, zf, decide_eq_false cz]; rfl
     rw [k3, zf]
     unfold sf25
     rw [s73 hS hN, zf, zf, decide_eq_true (p := code off er B = code off er B) rfl, cond_true, decide_eq_false cz, cond_false]
     rfl
end
end Go.Hx.V

namespace Go.Hx
noncomputable section
abbrev Kt := Tr HV → List Nat → Tr HBlk → Nat → Option (HV × HS)
abbrev Kv := HV → Tr HBlk → Nat → Option (HV × HS)
abbrev Ko := Nat → Tr HV → Tr HBlk → Nat → Kv → Option (HV × HS)
abbrev Kc := Nat → Option Nat → Kt → (Nat → Kt) → Kt → Kt
abbrev Kf := Nat → List HV → Tr HBlk → Nat → Kv → Option (HV × HS)
def Pa.tmp (p : Pa) (a : Tr HV) : HV := Option.rec (motive := fun _ => HV) .undef (fun v => v) (Tr.getP p a)
inductive Bx (α : Type) where
  | mk (f : α)
def Bx.run {α : Type} (b : Bx α) : α := Bx.rec (motive := fun _ => α) (fun f => f) b
def Bx.then {α β : Type} (b : Bx α) (g : α → Bx β) : Bx β := Bx.rec (motive := fun _ => Bx β) g b
def Pa.then {β : Type} (p : Pa) (g : Pa → Bx β) : Bx β := Pa.rec (motive := fun _ => Bx β) (g .z) (fun q _ => g (.a q)) (fun q _ => g (.b q)) (fun q _ => g (.c q)) (fun q _ => g (.d q)) p
def evK (x : Lo) : Bx (Tr HV → HV) :=
  match x with
  | .t n => .mk (Pa.tmp (pa n))
  | .c v => .mk (fun _ => v)
def evL (x : Lo) (a : Tr HV) : HV := (evK x).run a
def slowK (lp : Nat → Option zl) (nt : Nat) (o : LOp) : Ko := fun fl a h nx k =>
  match opH lp (exec lp 0) fl o ⟨nt, a, []⟩ ⟨h, nx⟩ with
  | some (v, σ) => k v σ.h σ.nx
  | none => none
def viaK (lp : Nat → Option zl) (fn : Nat → Bx Kf) (t : Nat) (name : String) (g : Nat) (args : List HV) : Nat → Tr HBlk → Nat → Kv → Option (HV × HS) := fun fl h nx k =>
  match viaOf lp g t name, args with
  | some off, .ptr (some (b, o)) :: rest => (fn g).run fl (.ptr (some (b, Nat.add o off)) :: rest) h nx k
  | _, _ => none
def callK (lp : Nat → Option zl) (fn : Nat → Bx Kf) (ro : Nat → Nat → List HV → Tr HBlk → Nat → Kv → Option (HV × HS)) (f : Tr HV → HV) (xs : List Lo) : Ko := fun fl a h nx k =>
  match f a with
  | .func g first captured => (fn g).run fl (first ++ xs.map (fun x => evL x a) ++ captured) h nx k
  | .yield l => ro fl l (xs.map fun x => evL x a) h nx k
  | .via t name g => viaK lp fn t name g (xs.map fun x => evL x a) fl h nx k
  | _ => none
def binK (g : IntKind → Int → Int → Option HV) (x y : HV) (h : Tr HBlk) (nx : Nat) (k : Kv) : Option (HV × HS) :=
  match x, y with
  | .int k1 m, .int k2 n => bif sameK k1 k2 then (match g k1 m n with | some v => k v h nx | none => none) else none
  | _, _ => none
def addrK (off : Nat) (x : HV) (h : Tr HBlk) (nx : Nat) (k : Kv) : Option (HV × HS) :=
  match x with
  | .ptr (some (b, o)) => k (.ptr (some (b, Nat.add o off))) h nx
  | _ => none
def idxK (len size : Nat) (x i : HV) (h : Tr HBlk) (nx : Nat) (k : Kv) : Option (HV × HS) :=
  match x, i with
  | .ptr (some (b, o)), .int _ (.ofNat i) => bif Nat.blt i len then k (.ptr (some (b, Nat.add o (Nat.mul i size)))) h nx else none
  | _, _ => none
def nilK (x : HV) (h : Tr HBlk) (nx : Nat) (k : Kv) : Option (HV × HS) :=
  match x with
  | .ptr (some p) => k (.ptr (some p)) h nx
  | .func f first captured => k (.func f first captured) h nx
  | _ => none
def nthK (i : Nat) : List HV → Option HV :=
  Nat.rec (motive := fun _ => List HV → Option HV) (fun l => List.rec (motive := fun _ => Option HV) none (fun v _ _ => some v) l) (fun _ ih l => List.rec (motive := fun _ => Option HV) none (fun _ t _ => ih t) l) i
def setR (i : Nat) (v : HV) : List HV → List HV :=
  Nat.rec (motive := fun _ => List HV → List HV) (fun l => List.rec (motive := fun _ => List HV) [] (fun _ t _ => v :: t) l) (fun _ ih l => List.rec (motive := fun _ => List HV) [] (fun x t _ => x :: ih t) l) i
def loadK (x : HV) (h : Tr HBlk) (nx : Nat) (k : Kv) : Option (HV × HS) :=
  match x with
  | .ptr (some (b, o)) =>
    match h.get b with
    | some (.cells cs _) =>
      match nthK o cs with
      | some v => k v h nx
      | none => none
    | _ => none
  | _ => none
def wrOk : BK → Bool
  | .ro => false
  | _ => true
def storeK (fl : Nat) (x v : HV) (h : Tr HBlk) (nx : Nat) (k : Kv) : Option (HV × HS) :=
  match x with
  | .ptr (some (b, o)) =>
    match h.get b with
    | some (.cells cs bk) =>
      bif Nat.ble fl b && v.one && wrOk bk then
        match nthK o cs with
        | some _ => k .undef (h.set b (some (.cells (setR o v cs) bk))) nx
        | none => none
      else none
    | _ => none
  | _ => none
def compOp (lp : Nat → Option zl) (fn : Nat → Bx Kf) (ro : Nat → Nat → List HV → Tr HBlk → Nat → Kv → Option (HV × HS)) (nt : Nat) (o : LOp) : Bx Ko :=
  match o with
  | .move x => (evK x).then fun e => .mk fun _ a h nx k => k (e a) h nx
  | .bin op x y => (evK x).then fun e => (evK y).then fun f => .mk fun _ a h nx k => binK (bif isShift op then shiftH op else intFast op) (e a) (f a) h nx k
  | .fieldAddr off x => (evK x).then fun e => .mk fun _ a h nx k => addrK off (e a) h nx k
  | .indexAddrA len size x i => (evK x).then fun e => (evK i).then fun f => .mk fun _ a h nx k => idxK len size (e a) (f a) h nx k
  | .nilCheck x => (evK x).then fun e => .mk fun _ a h nx k => nilK (e a) h nx k
  | .load false 1 x => (evK x).then fun e => .mk fun _ a h nx k => loadK (e a) h nx k
  | .store 1 x v => (evK x).then fun e => (evK v).then fun f => .mk fun fl a h nx k => bif (f a).one then storeK fl (e a) (f a) h nx k else slowK lp nt (.store 1 x v) fl a h nx k
  | .call f xs => (evK f).then fun e => .mk (callK lp fn ro e xs)
  | .callC f xs cs => (evK f).then fun e => .mk fun fl a h nx k => callK lp fn ro e xs fl a h nx fun v h nx => bif chkH ⟨nt, a, []⟩ ⟨h, nx⟩ cs then k v h nx else none
  | o => .mk (slowK lp nt o)
def putK (nt : Nat) (dst : Option Nat) : Bx (Tr HV → HV → Tr HV) :=
  match dst with
  | none => .mk fun a _ => a
  | some d => bif Nat.blt d nt then (pa d).then fun p => .mk (fun a v => Tr.setP (some v) p a) else .mk fun a _ => a
def isB (want : Bool) : HV → Bool
  | .bool b => b == want
  | _ => false
def guardK (g : Option (Nat × Bool)) (o : Bx Ko) : Bx Ko :=
  match g with
  | none => o
  | some (t, want) => (evK (.t t)).then fun e => o.then fun o => .mk fun fl a h nx k =>
      bif isB want (e a) then o fl a h nx k else k .undef h nx
def compOps (op : LOp → Bx Ko) (nt : Nat) : List zb → Bx (Nat → Kt → Kt)
  | [] => .mk fun _ k => k
  | o :: os => (guardK o.g (op o.op)).then fun f => (putK nt o.dst).then fun p => (compOps op nt os).then fun r => .mk fun fl k a ds h nx => f fl a h nx fun v h nx => r fl k (p a v) ds h nx
def drawK (op : LOp → Bx Ko) (nt s : Nat) : List zb → Bx (Nat → Nat → Nat → Tr HBlk → List (Nat × List (Nat × HBlk)) → Kt → Tr HV → List Nat → Nat → Option (HV × HS))
  | [] => .mk fun _ _ _ h0 done k a ds nx => k a ds (merge h0 none done) nx
  | o :: os => (guardK o.g (op o.op)).then fun f => (putK nt o.dst).then fun p => (drawK op nt s os).then fun r => (compOps op nt (o :: os)).then fun q => .mk fun fl n0 i h0 done k a ds nx =>
      bif Nat.blt i s then
        bif o.anc.contains i then
          f n0 a (merge h0 (some o.anc) done) nx fun v h nx' => bif Nat.ble nx nx' then r fl n0 (Nat.succ i) h0 ((i, newFrom h n0 (Nat.sub nx' n0)) :: dropAll o.anc done) k (p a v) ds nx' else none
        else
          f nx a (merge h0 (some o.anc) done) nx fun v h nx' => bif Nat.ble nx nx' then r fl n0 (Nat.succ i) h0 (bif Nat.beq nx nx' then done else (i, newFrom h nx (Nat.sub nx' nx)) :: done) k (p a v) ds nx' else none
      else q fl k a ds (merge h0 none done) nx
def loopK (b : Option HBlk) (k : LState → HExit → Nat → Tr HV → List Nat → ze → ze → Nat → Option (HV × HS)) : Option (HV × HS) :=
  match b with
  | some (.loop ⟨st, pe, nt, tm, ps, asg, bo, mk⟩) => k st pe nt tm ps asg bo mk
  | _ => none
def marksK (rd : Option Nat) (h : Tr HBlk) (nx : Nat) (k : Nat → List Nat → Tr HBlk → Nat → Option (HV × HS)) : Option (HV × HS) :=
  match rd with
  | none => k nx [nx] (h.set nx (some .marks)) (Nat.succ nx)
  | some l => loopK (h.get l) fun _ _ _ _ _ _ _ mk => k mk [] h nx
def notBusy : LState → Bool
  | .busy => false
  | _ => true
def isReady : LState → Bool
  | .ready => true
  | _ => false
def jumpK (e : HExit) (kn : Kt) (kx : Nat → Kt) (kr : Kt) : Kt :=
  match e with
  | .normal => kn
  | .exit i => kx i
  | .ret => kr
def rangeK (fn : Nat → Bx Kf) (nt : Nat) (e : Tr HV → HV) (ps : List Nat) (assign body : ze) : Kc := fun fl rd kn kx kr a ds h nx =>
  match e a with
  | .func g first captured =>
    marksK rd h nx fun mk ms h1 n1 =>
      (fn g).run fl (first ++ [.yield n1] ++ captured) (h1.set n1 (some (.loop ⟨.ready, .normal, nt, a, ps, assign, body, mk⟩))) (Nat.succ n1) fun _ h3 n3 =>
        loopK (h3.get n1) fun st pe nt' tm ps' asg bo mk' =>
          bif notBusy st && Nat.ble fl n1 then jumpK pe kn kx kr a (ms ++ ds) (h3.set n1 (some (.loop ⟨.exhausted, pe, nt', tm, ps', asg, bo, mk'⟩))) n3 else none
  | _ => none
def endK (l : Nat) (e : HExit) (k : Kv) (h : Tr HBlk) (nx : Nat) : Option (HV × HS) :=
  loopK (h.get l) fun _ _ nt tm ps asg bo mk =>
    match e with
    | .normal => k (.bool true) (h.set l (some (.loop ⟨.ready, .normal, nt, tm, ps, asg, bo, mk⟩))) nx
    | e => k (.bool false) (h.set l (some (.loop ⟨.done, e, nt, tm, ps, asg, bo, mk⟩))) nx
def roundK (co : Nat → ze → Bx Kc) : Nat → Nat → List HV → Tr HBlk → Nat → Kv → Option (HV × HS) := fun fl l args h nx k =>
  loopK (h.get l) fun _ _ nt tm ps asg bo _ =>
    match zipPut nt tm ps args with
    | some tm1 =>
      (co nt asg).run fl (some l)
        (fun a1 ds1 h1 n1 => loopK (h1.get l) fun st pe nt' tm' ps' asg' bo' mk' =>
          bif isReady st && Nat.ble fl l then
            (co nt bo).run fl (some l) (fun _ _ => endK l .normal k) (fun i _ _ => endK l (.exit i) k) (fun _ _ => endK l .ret k) a1 ds1 (h1.set l (some (.loop ⟨.busy, pe, nt', tm', ps', asg', bo', mk'⟩))) n1
          else none)
        (fun _ _ _ _ _ => none) (fun _ _ _ _ => none) tm1 [] h nx
    | none => none
def comp (op : LOp → Bx Ko) (fn : Nat → Bx Kf) (nt : Nat) : ze → Bx Kc
  | .skip => .mk fun _ _ kn _ _ => kn
  | .seq x y => (comp op fn nt x).then fun f => (comp op fn nt y).then fun g => .mk fun fl rd kn kx kr => f fl rd (g fl rd kn kx kr) kx kr
  | .cond c x y => (evK c).then fun e => (comp op fn nt x).then fun f => (comp op fn nt y).then fun g => .mk fun fl rd kn kx kr a ds h nx =>
      match e a with
      | .bool b => bif b then f fl rd kn kx kr a ds h nx else g fl rd kn kx kr a ds h nx
      | _ => none
  | .block id x => (comp op fn nt x).then fun f => .mk fun fl rd kn kx kr => f fl rd kn (fun i => bif Nat.beq i id then kn else kx i) kr
  | .loop x => (comp op fn nt x).then fun f => .mk fun fl rd _ kx kr => Nat.rec (motive := fun _ => Kt) (fun _ _ _ _ => none) (fun _ ih => f fl rd ih kx kr) 1000000
  | .scope x => comp op fn nt x
  | .exit id => .mk fun _ _ _ kx _ => kx id
  | .ret => .mk fun _ _ _ _ kr => kr
  | .reg ops => (compOps op nt ops).then fun f => .mk fun fl _ kn _ _ => f fl kn
  | .draw s ops => (drawK op nt s ops).then fun f => .mk fun fl _ kn _ _ a ds h nx => bif Nat.ble fl nx then f fl nx 0 h [] kn a ds nx else none
  | .rangeFunc f ps assign body => (evK f).then fun e => .mk (rangeK fn nt e ps assign body)
  | .bad => .mk fun _ _ _ _ _ _ _ _ _ => none
def leaveK (fl : Nat) (nt : Nat) (res : List LRes) (k : Kv) : Kt := fun a ds h nx =>
  match leaveH fl ⟨nt, a, ds⟩ res ⟨h, nx⟩ with
  | some (v, σ) => k v σ.h σ.nx
  | none => none
abbrev Kr := Nat → Nat → List HV → Tr HBlk → Nat → Kv → Option (HV × HS)
def gcK (h : Tr HBlk) (nx : Nat) (k : Kv) : Kv := fun v h' nx' => k v (keepD h' nx 5 [v] h) nx'
def specK (g : List HV → HS → Option (HV × HS)) : Kf := fun _ args h nx k =>
  match g args ⟨h, nx⟩ with
  | some (v, σ) => bif Nat.ble nx σ.nx then k v σ.h σ.nx else none
  | none => none
def enterK (lf : zl) (body : Kc) : Bx Kf :=
  bif lf.imp then .mk fun fl args h nx k => bif Nat.ble args.length lf.nt then body fl none (leaveK fl lf.nt lf.res k) (fun _ _ _ _ _ => none) (leaveK fl lf.nt lf.res k) (putAll .e 0 args) [] h nx else none
  else .mk fun _ args h nx k => bif Nat.ble args.length lf.nt then body nx none (leaveK nx lf.nt lf.res (gcK h nx k)) (fun _ _ _ _ _ => none) (leaveK nx lf.nt lf.res (gcK h nx k)) (putAll .e 0 args) [] h nx else none
def bothK (lp : Nat → Option zl) : Nat → (Nat → Bx Kf) × Kr
  | 0 => (fun _ => .mk fun _ _ _ _ _ => none, fun _ _ _ _ _ _ => none)
  | n + 1 =>
    (fun f =>
      match lp f with
      | none => .mk fun _ _ _ _ _ => none
      | some lf =>
        match lf.spec with
        | some g => .mk (specK g)
        | none => (comp (compOp lp (bothK lp n).1 (bothK lp n).2 lf.nt) (bothK lp n).1 lf.nt lf.body).then (enterK lf),
     roundK fun nt c => comp (compOp lp (bothK lp n).1 (bothK lp n).2 nt) (bothK lp n).1 nt c)
def fnK (lp : Nat → Option zl) (n : Nat) : Nat → Bx Kf := (bothK lp n).1
end
end Go.Hx

namespace Go.Hx
variable {lp : Nat → Option zl} {nt : Nat}
theorem z2 {α : Type} (f : α) : (Bx.mk f).run = f := rfl
theorem zG {α β : Type} (b : Bx α) (g : α → Bx β) : b.then g = g b.run := by cases b; rfl
theorem pa_then {β : Type} (p : Pa) (g : Pa → Bx β) : p.then g = g p := by cases p <;> rfl
theorem tmp_eq (a : Tr HV) (ds : List Nat) (n : Nat) : (pa n).tmp a = (⟨nt, a, ds⟩ : HAct).tmp n := by
 show Option.rec (motive := fun _ => HV) HV.undef (fun v => v) (a.get n) = (a.get n).getD .undef
 cases a.get n <;> rfl
theorem zw (x : Lo) (a : Tr HV) (ds : List Nat) : (evK x).run a = (⟨nt, a, ds⟩ : HAct).ev x := by
 cases x with
 | t n => exact tmp_eq a ds n
 | c v => rfl
theorem evs_eq (xs : List Lo) (a : Tr HV) (ds : List Nat) : (xs.map fun x => evL x a) = xs.map (⟨nt, a, ds⟩ : HAct).ev := by
 apply List.map_congr_left
 intro x _
 exact zw x a ds
def KoOk (lp : Nat → Option zl) (nt : Nat) (G : Ko) (o : LOp) : Prop := ∀ fl a ds h nx (k : Kv) r, G fl a h nx k = some r → ∃ n v σ', opH lp (exec lp n) fl o ⟨nt, a, ds⟩ ⟨h, nx⟩ = some (v, σ') ∧ k v σ'.h σ'.nx = some r
def KosOk (lp : Nat → Option zl) (nt : Nat) (G : Nat → Kt → Kt) (os : List zb) : Prop := ∀ fl (k : Kt) a ds h nx r, G fl k a ds h nx = some r → ∃ n a' σ', runOps lp (exec lp n) fl os ⟨nt, a, ds⟩ ⟨h, nx⟩ = some (a', σ') ∧ a'.nt = nt ∧ k a'.tmps a'.defers σ'.h σ'.nx = some r
def contK (e : HExit) (kn : Kt) (kx : Nat → Kt) (kr : Kt) (a : HAct) (σ : HS) : Option (HV × HS) :=
 match e with
 | .normal => kn a.tmps a.defers σ.h σ.nx
 | .exit i => kx i a.tmps a.defers σ.h σ.nx
 | .ret => kr a.tmps a.defers σ.h σ.nx
def KcOk (lp : Nat → Option zl) (nt : Nat) (F : Kc) (c : ze) : Prop := ∀ fl rd kn kx kr a ds h nx r, F fl rd kn kx kr a ds h nx = some r → ∃ n e a' σ', exec lp n fl rd c ⟨nt, a, ds⟩ ⟨h, nx⟩ = some (e, a', σ') ∧ a'.nt = nt ∧ contK e kn kx kr a' σ' = some r
def KfOk (lp : Nat → Option zl) (F : Kf) (f : Nat) : Prop := ∀ fl args h nx (k : Kv) r, F fl args h nx k = some r → ∃ n v σ', callF lp (exec lp n) fl f args ⟨h, nx⟩ = some (v, σ') ∧ k v σ'.h σ'.nx = some r
def KrOk (lp : Nat → Option zl) (ro : Kr) : Prop := ∀ fl l args h nx (k : Kv) r, ro fl l args h nx k = some r → ∃ n v σ', roundH (exec lp n) fl l args ⟨h, nx⟩ = some (v, σ') ∧ k v σ'.h σ'.nx = some r
theorem slow_ok (o : LOp) : KoOk lp nt (slowK lp nt o) o := by
 intro fl a ds h nx k r hr
 unfold slowK at hr
 rw [ki (a := ⟨nt, a, []⟩) (b := ⟨nt, a, ds⟩) ⟨h, nx⟩ rfl (fun _ _ => rfl)] at hr
 split at hr
 ·rename_i v σ' ho; exact ⟨0, v, σ', ho, hr⟩
 ·cases hr
theorem chk_ds {nt : Nat} {a : Tr HV} {ds ds' : List Nat} {σ : HS} : ∀ (cs : List (Bool × Nat × Lo × Nat)), chkH ⟨nt, a, ds⟩ σ cs = chkH ⟨nt, a, ds'⟩ σ cs
 | [] => rfl
 | (g, n, x, t) :: cs => by
  unfold chkH
  rw [chk_ds (ds' := ds') cs]
  rfl
theorem XR {fn : Nat → Bx Kf} {ro : Kr} (hfn : ∀ f, KfOk lp (fn f).run f) (hro : KrOk lp ro) (f : Lo) (xs : List Lo) : KoOk lp nt (callK lp fn ro (evK f).run xs) (.call f xs) := by
 intro fl a ds h nx k r hr
 unfold callK at hr
 rw [zw (nt := nt) f a ds, evs_eq (nt := nt) xs a ds] at hr
 split at hr
 ·rename_i g first captured hf
  obtain ⟨n, v, σ', h1, h2⟩ := hfn g _ _ _ _ _ _ hr
  refine ⟨n, v, σ', ?_, h2⟩
  show callH lp _ fl _ _ _ = _
  unfold callH
  rw [hf]
  exact h1
 ·rename_i l hf
  obtain ⟨n, v, σ', h1, h2⟩ := hro _ _ _ _ _ _ _ hr
  refine ⟨n, v, σ', ?_, h2⟩
  show callH lp _ fl _ _ _ = _
  unfold callH
  rw [hf]
  exact h1
 ·rename_i t name g hf
  unfold viaK at hr
  split at hr
  ·rename_i off b o rest e1 e2
   obtain ⟨n, v, σ', h1, h2⟩ := hfn g _ _ _ _ _ _ hr
   refine ⟨n, v, σ', ?_, h2⟩
   show callH lp _ fl _ _ _ = _
   unfold callH
   rw [hf]
   show callV lp _ fl t name g _ _ = _
   unfold callV
   rw [e1, e2]
   exact h1
  ·cases hr
 ·cases hr
theorem Xi : ∀ (i : Nat) (l : List HV), nthK i l = l[i]?
 | 0, [] => rfl
 | 0, v :: l => rfl
 | i + 1, [] => rfl
 | i + 1, v :: l => (Xi i l).trans (by simp)
theorem kX (v : HV) : ∀ (i : Nat) (l : List HV), i < l.length → overwrite l i [v] = some (setR i v l)
 | _, [], h => by simp at h
 | 0, x :: l, _ => by cases l <;> rfl
 | i + 1, x :: l, h => by
  unfold overwrite
  rw [kX v i l (by simpa using h)]
  rfl
theorem op_ok {fn : Nat → Bx Kf} {ro : Kr} (hfn : ∀ f, KfOk lp (fn f).run f) (hro : KrOk lp ro) (o : LOp) : KoOk lp nt (compOp lp fn ro nt o).run o := by
 have slow := slow_ok (lp := lp) (nt := nt) o
 unfold compOp
 split
 case h_1 x =>
  rw [zG, z2]
  intro fl a ds h nx k r hr
  dsimp only at hr
  rw [zw (nt := nt) x a ds] at hr
  exact ⟨0, _, ⟨h, nx⟩, rfl, hr⟩
 case h_2 op x y =>
  rw [zG, zG, z2]
  intro fl a ds h nx k r hr
  dsimp only at hr
  rw [zw (nt := nt) x a ds, zw (nt := nt) y a ds] at hr
  unfold binK at hr
  split at hr
  ·rename_i k1 m k2 n e1 e2
   cases hk : sameK k1 k2 with
   | false => rw [hk] at hr; cases hr
   | true =>
    rw [hk] at hr
    simp only [cond_true] at hr
    split at hr
    ·rename_i v e3
     refine ⟨0, v, ⟨h, nx⟩, ?_, hr⟩
     show keep _ (binH op _ _) = _
     rw [e1, e2]
     unfold binH
     dsimp only
     cases hsh : isShift op with
     | true => rw [hsh] at e3; simp only [cond_true] at e3 ⊢; rw [e3]; rfl
     | false => rw [hsh] at e3; simp only [cond_false] at e3 ⊢; rw [hk, e3]; rfl
    ·cases hr
  ·cases hr
 case h_3 off x =>
  rw [zG, z2]
  intro fl a ds h nx k r hr
  dsimp only at hr
  rw [zw (nt := nt) x a ds] at hr
  unfold addrK at hr
  split at hr
  ·rename_i b o e1
   refine ⟨0, _, ⟨h, nx⟩, ?_, hr⟩
   show oFieldAddr off x _ _ = _
   unfold oFieldAddr
   rw [e1]
  ·cases hr
 case h_4 len size x i =>
  rw [zG, zG, z2]
  intro fl a ds h nx k r hr
  dsimp only at hr
  rw [zw (nt := nt) x a ds, zw (nt := nt) i a ds] at hr
  unfold idxK at hr
  split at hr
  ·rename_i b o kk j e1 e2
   cases hb : Nat.blt j len with
   | false => rw [hb] at hr; cases hr
   | true =>
    rw [hb] at hr
    refine ⟨0, _, ⟨h, nx⟩, ?_, hr⟩
    show oIndexAddrA len size x i _ _ = _
    unfold oIndexAddrA
    rw [e1, e2]
    simp only [natOf, stepTo, hb, cond_true]
  ·cases hr
 case h_5 x =>
  rw [zG, z2]
  intro fl a ds h nx k r hr
  dsimp only at hr
  rw [zw (nt := nt) x a ds] at hr
  unfold nilK at hr
  split at hr
  ·rename_i p e1
   refine ⟨0, _, ⟨h, nx⟩, ?_, hr⟩
   show oNilCheck x _ _ = _
   unfold oNilCheck
   rw [e1]
  ·rename_i f first captured e1
   refine ⟨0, _, ⟨h, nx⟩, ?_, hr⟩
   show oNilCheck x _ _ = _
   unfold oNilCheck
   rw [e1]
  ·cases hr
 case h_6 x =>
  rw [zG, z2]
  intro fl a ds h nx k r hr
  dsimp only at hr
  rw [zw (nt := nt) x a ds] at hr
  unfold loadK at hr
  split at hr
  ·rename_i b o e1
   split at hr
   ·rename_i cs bk e2
    rw [Xi] at hr
    split at hr
    ·rename_i v e3
     refine ⟨0, v, ⟨h, nx⟩, ?_, hr⟩
     show oLoad false 1 x _ _ = _
     unfold oLoad
     rw [e1]
     have hc : (⟨h, nx⟩ : HS).cells b = some cs := by unfold HS.cells; rw [e2]
     have hr2 : (⟨h, nx⟩ : HS).read (b, o) 1 = some [v] := by
      unfold HS.read
      simp only [hc, Option.bind_eq_bind, Option.bind_some]
      have hlt : o < cs.length := by
       rcases Nat.lt_or_ge o cs.length with h | h
       ·exact h
       ·rw [List.getElem?_eq_none h] at e3; cases e3
      rw [List.drop_eq_getElem_cons hlt]
      rw [List.getElem?_eq_getElem hlt] at e3
      cases e3
      simp [takeN]
     simp only [hr2, whole, keep]
    ·cases hr
   ·cases hr
  ·cases hr
 case h_7 x y =>
  rw [zG, zG, z2]
  intro fl a ds h nx k r hr
  dsimp only at hr
  rw [zw (nt := nt) x a ds, zw (nt := nt) y a ds] at hr
  revert hr
  cases h1 : ((⟨nt, a, ds⟩ : HAct).ev y).one with
  | false => exact fun hr => slow fl a ds h nx k r hr
  | true =>
  intro hr
  simp only [cond_true] at hr
  unfold storeK at hr
  split at hr
  ·rename_i b o e1
   split at hr
   ·rename_i cs bk e2
    revert hr
    cases hc : (Nat.ble fl b && ((⟨nt, a, ds⟩ : HAct).ev y).one && wrOk bk) with
    | false => intro hr; cases hr
    | true =>
     intro hr
     simp only [cond_true] at hr
     simp only [Bool.and_eq_true] at hc
     obtain ⟨⟨c1, c2⟩, c3⟩ := hc
     rw [Xi] at hr
     split at hr
     ·rename_i u e3
      have hlt : o < cs.length := by
       rcases Nat.lt_or_ge o cs.length with h | h
       ·exact h
       ·rw [List.getElem?_eq_none h] at e3; cases e3
      refine ⟨0, .undef, ⟨h.set b (some (.cells (setR o ((⟨nt, a, ds⟩ : HAct).ev y) cs) bk)), nx⟩, ?_, hr⟩
      have hcells : ((⟨nt, a, ds⟩ : HAct).ev y).cells = [(⟨nt, a, ds⟩ : HAct).ev y] := by
       generalize (⟨nt, a, ds⟩ : HAct).ev y = v at c2
       cases v <;> first | rfl | cases c2
      show oStore fl 1 x y _ _ = _
      unfold oStore
      rw [e1, hcells]
      have hw : (⟨h, nx⟩ : HS).write fl (b, o) [(⟨nt, a, ds⟩ : HAct).ev y] = some ⟨h.set b (some (.cells (setR o ((⟨nt, a, ds⟩ : HAct).ev y) cs) bk)), nx⟩ := by
       unfold HS.write
       simp only [e2]
       cases bk with
       | ro => cases c3
       | exact => simp only [c1, List.all_cons, c2, List.all_nil, Bool.and_true, cond_true, kX _ _ _ hlt, Option.map_some]; rfl
       | opn z => simp only [c1, List.all_cons, c2, List.all_nil, Bool.and_true, cond_true, kX _ _ _ hlt, Option.map_some]; rfl
      simp only [hw]
      rfl
     ·cases hr
   ·cases hr
  ·cases hr
 case h_8 f xs =>
  rw [zG, z2]
  exact XR hfn hro f xs
 case h_9 f xs cs =>
  rw [zG, z2]
  intro fl a ds h nx k r hr
  obtain ⟨n, v, σ', h1, h2⟩ := XR hfn hro f xs _ _ ds _ _ _ _ hr
  refine ⟨n, v, σ', ?_, ?_⟩
  ·cases hc : chkH ⟨nt, a, []⟩ ⟨σ'.h, σ'.nx⟩ cs with
   | false => rw [hc] at h2; cases h2
   | true =>
    have h1 : callH lp (exec lp n) fl ((⟨nt, a, ds⟩ : HAct).ev f) (xs.map (⟨nt, a, ds⟩ : HAct).ev) ⟨h, nx⟩ = some (v, σ') := h1
    have hc : chkH ⟨nt, a, ds⟩ σ' cs = true := by rw [← hc]; exact chk_ds cs
    show oCallC lp _ fl f xs cs _ _ = _
    unfold oCallC
    rw [h1]
    simp only [hc, cond_true]
  ·cases hc : chkH ⟨nt, a, []⟩ ⟨σ'.h, σ'.nx⟩ cs with
   | false => rw [hc] at h2; cases h2
   | true => rw [hc] at h2; exact h2
 case h_10 => exact slow
theorem guard_k {G : Bx Ko} {o : zb} (h : KoOk lp nt G.run o.op) : ∀ fl a ds hp nx (k : Kv) r, (guardK o.g G).run fl a hp nx k = some r →
  ∃ n v σ', (bif wantedH o.g ⟨nt, a, ds⟩ then opH lp (exec lp n) fl o.op ⟨nt, a, ds⟩ ⟨hp, nx⟩ else some (.undef, ⟨hp, nx⟩)) = some (v, σ') ∧ k v σ'.h σ'.nx = some r := by
 intro fl a ds hp nx k r hr
 unfold guardK at hr
 split at hr
 ·rename_i hg
  obtain ⟨n, v, σ', h1, h2⟩ := h fl a ds hp nx k r hr
  refine ⟨n, v, σ', ?_, h2⟩
  rw [hg]
  exact h1
 ·rename_i t want hg
  rw [zG, zG, z2] at hr
  rw [zw (nt := nt) (.t t) a ds] at hr
  have hw : wantedH o.g ⟨nt, a, ds⟩ = isB want ((⟨nt, a, ds⟩ : HAct).ev (.t t)) := by
   rw [hg]
   unfold wantedH isB
   dsimp only [HAct.ev]
   generalize (⟨nt, a, ds⟩ : HAct).tmp t = x
   cases x <;> rfl
  rw [hw]
  cases hb : isB want ((⟨nt, a, ds⟩ : HAct).ev (.t t)) with
  | true =>
   rw [hb] at hr
   exact h fl a ds hp nx k r hr
  | false =>
   rw [hb] at hr
   exact ⟨0, .undef, ⟨hp, nx⟩, rfl, hr⟩
theorem put_k (dst : Option Nat) (a : Tr HV) (ds : List Nat) (v : HV) : (⟨nt, a, ds⟩ : HAct).put dst v = ⟨nt, (putK nt dst).run a v, ds⟩ := by
 unfold HAct.put putK
 cases dst with
 | none => rfl
 | some d =>
  dsimp only
  cases Nat.blt d nt with
  | false => rfl
  | true => rw [cond_true, cond_true, pa_then]; rfl
theorem kU {G : Bx Ko} {o : zb} (h : KoOk lp nt G.run o.op) : ∀ fl a ds hp nx (k : Kv) r, (guardK o.g G).run fl a hp nx k = some r →
  ∃ n v σ', stepOp lp (exec lp n) fl o ⟨nt, a, ds⟩ ⟨hp, nx⟩ = some (⟨nt, (putK nt o.dst).run a v, ds⟩, σ') ∧ k v σ'.h σ'.nx = some r := by
 intro fl a ds hp nx k r hr
 obtain ⟨n, v, σ', h1, h2⟩ := guard_k h fl a ds hp nx k r hr
 refine ⟨n, v, σ', ?_, h2⟩
 unfold stepOp
 cases hw : wantedH o.g ⟨nt, a, ds⟩ with
 | true => rw [hw] at h1; simp only [cond_true] at h1 ⊢; rw [h1]; simp only [put_k]
 | false =>
  rw [hw] at h1
  cases h1
  simp only [cond_false, put_k]
theorem ops_k {op : LOp → Bx Ko} (hop : ∀ o, KoOk lp nt (op o).run o) : ∀ os, KosOk lp nt (compOps op nt os).run os
 | [] => fun fl k a ds h nx r hr => ⟨0, _, _, rfl, rfl, hr⟩
 | o :: os => by
  intro fl k a ds h nx r hr
  unfold compOps at hr
  rw [zG, zG, zG, z2] at hr
  obtain ⟨n, v, σ1, h1, h2⟩ := kU (hop o.op) fl a ds h nx _ r hr
  obtain ⟨m, a', σ', h3, h4, h5⟩ := ops_k hop os fl k _ ds _ _ r h2
  refine ⟨max n m, a', σ', ?_, h4, h5⟩
  unfold runOps
  rw [z4 (zF (Nat.le_max_left n m)) h1]
  exact yo (zF (Nat.le_max_right n m)) h3
theorem Xr {op : LOp → Bx Ko} (hop : ∀ o, KoOk lp nt (op o).run o) {s : Nat} : ∀ os fl n0 i h0 done (k : Kt) a ds nx r, fl ≤ n0 → n0 ≤ nx → (drawK op nt s os).run fl n0 i h0 done k a ds nx = some r →
  ∃ n a' σ', drawOps lp (exec lp n) fl s n0 h0 os i done ⟨nt, a, ds⟩ nx = some (a', σ') ∧ a'.nt = nt ∧ k a'.tmps a'.defers σ'.h σ'.nx = some r
 | [], fl, n0, i, h0, done, k, a, ds, nx, r, _, _, hr => ⟨0, _, _, rfl, rfl, hr⟩
 | o :: os, fl, n0, i, h0, done, k, a, ds, nx, r, hfl, hn0, hr => by
  unfold drawK at hr
  rw [zG, zG, zG, zG, z2] at hr
  cases hc : Nat.blt i s with
  | false =>
   rw [hc] at hr
   obtain ⟨n, a', σ', h1, h2, h3⟩ := ops_k hop (o :: os) fl k a ds _ nx r hr
   refine ⟨n, a', σ', ?_, h2, h3⟩
   unfold drawOps
   rw [hc]
   exact h1
  | true =>
   rw [hc] at hr
   simp only [cond_true] at hr
   cases hw : o.anc.contains i with
   | true =>
    rw [hw] at hr
    simp only [cond_true] at hr
    obtain ⟨n, v, σ1, h1, h2⟩ := kU (hop o.op) n0 a ds _ nx _ r hr
    revert h2
    cases hb : Nat.ble nx σ1.nx with
    | false => intro h2; cases h2
    | true =>
     intro h2
     simp only [cond_true] at h2
     have hle := Nat.le_of_ble_eq_true hb
     obtain ⟨m, a', σ', h3, h4, h5⟩ := Xr hop os fl n0 (Nat.succ i) h0 _ k _ ds _ r hfl (Nat.le_trans hn0 hle) h2
     refine ⟨max n m, a', σ', ?_, h4, h5⟩
     have hmx : Nat.max fl n0 = n0 := Nat.max_eq_right hfl
     unfold drawOps
     rw [hc, hw]
     simp only [cond_true, hmx]
     rw [z4 (zF (Nat.le_max_left n m)) h1]
     simp only [hb, Bool.not_true, cond_false]
     exact z3 (zF (Nat.le_max_right n m)) h3
   | false =>
    rw [hw] at hr
    simp only [cond_false] at hr
    obtain ⟨n, v, σ1, h1, h2⟩ := kU (hop o.op) nx a ds _ nx _ r hr
    revert h2
    cases hb : Nat.ble nx σ1.nx with
    | false => intro h2; cases h2
    | true =>
     intro h2
     simp only [cond_true] at h2
     have hle := Nat.le_of_ble_eq_true hb
     obtain ⟨m, a', σ', h3, h4, h5⟩ := Xr hop os fl n0 (Nat.succ i) h0 _ k _ ds _ r hfl (Nat.le_trans hn0 hle) h2
     refine ⟨max n m, a', σ', ?_, h4, h5⟩
     have hmx : Nat.max fl nx = nx := Nat.max_eq_right (by omega)
     unfold drawOps
     rw [hc, hw]
     simp only [cond_true, cond_false, hmx]
     rw [z4 (zF (Nat.le_max_left n m)) h1]
     simp only [hb, Bool.not_true, cond_false]
     exact z3 (zF (Nat.le_max_right n m)) h3
theorem Xz {n : Nat} {fl : Nat} {rd : Option Nat} {x y : ze} {a a1 : HAct} {σ σ1 : HS} {q : HExit × HAct × HS} {m : Nat} (h1 : exec lp n fl rd x a σ = some (.normal, a1, σ1)) (h2 : exec lp m fl rd y a1 σ1 = some q) : xSeq (exec lp (max n m)) fl rd x y a σ = some q := by
 unfold xSeq
 rw [zF (Nat.le_max_left n m) _ _ _ _ _ _ h1]
 exact zF (Nat.le_max_right n m) _ _ _ _ _ _ h2
theorem jd {b : Option HBlk} {k : LState → HExit → Nat → Tr HV → List Nat → ze → ze → Nat → Option (HV × HS)} {r : HV × HS} (hr : loopK b k = some r) : ∃ q : HLoop, b = some (.loop q) ∧ k q.state q.pending q.nt q.tmps q.params q.assign q.body q.marks = some r := by
 unfold loopK at hr
 split at hr
 ·exact ⟨_, rfl, hr⟩
 ·cases hr
theorem marks_k {rd : Option Nat} {h : Tr HBlk} {nx : Nat} {k : Nat → List Nat → Tr HBlk → Nat → Option (HV × HS)} {r : HV × HS} (hr : marksK rd h nx k = some r) : ∃ mk ms h1 n1, marksOf rd ⟨h, nx⟩ = some (mk, ms, ⟨h1, n1⟩) ∧ k mk ms h1 n1 = some r := by
 unfold marksK at hr
 cases rd with
 | none => exact ⟨_, _, _, _, rfl, hr⟩
 | some l =>
  obtain ⟨q, hq, hk⟩ := jd hr
  refine ⟨_, _, _, _, ?_, hk⟩
  unfold marksOf
  simp only [hq]
theorem jump_k (e : HExit) (kn : Kt) (kx : Nat → Kt) (kr : Kt) (a : HAct) (σ : HS) : jumpK e kn kx kr a.tmps a.defers σ.h σ.nx = contK e kn kx kr a σ := by cases e <;> rfl
theorem range_k {fn : Nat → Bx Kf} (hfn : ∀ f, KfOk lp (fn f).run f) (f : Lo) (ps : List Nat) (assign body : ze) : KcOk lp nt (rangeK fn nt (evK f).run ps assign body) (.rangeFunc f ps assign body) := by
 intro fl rd kn kx kr a ds h nx r hr
 unfold rangeK at hr
 rw [zw (nt := nt) f a ds] at hr
 split at hr
 ·rename_i g first captured hf
  obtain ⟨mk, ms, h1, n1, hm, hr⟩ := marks_k hr
  obtain ⟨n, v, σ3, hc, hr⟩ := hfn g _ _ _ _ _ _ hr
  obtain ⟨q, hq, hr⟩ := jd hr
  revert hr
  cases hb : (notBusy q.state && Nat.ble fl n1) with
  | false => intro hr; cases hr
  | true =>
   intro hr
   simp only [cond_true] at hr
   simp only [Bool.and_eq_true] at hb
   refine ⟨n + 1, q.pending, ⟨nt, a, ms ++ ds⟩, σ3.upd n1 (some (.loop { q with state := .exhausted })), ?_, rfl, ?_⟩
   ·show xRange lp (exec lp n) fl rd f ps assign body _ _ = _
    unfold xRange
    rw [hf, hm]
    dsimp only
    have hc' : callF lp (exec lp n) fl g (first ++ [.yield n1] ++ captured) ((⟨h1, n1⟩ : HS).new (.loop ⟨.ready, .normal, nt, a, ps, assign, body, mk⟩)) = some (v, σ3) := hc
    rw [hc']
    dsimp only
    unfold endLoopH
    rw [hq]
    dsimp only
    have hnb := hb.1
    cases hst : q.state <;> rw [hst] at hnb <;> first | (exact absurd hnb (by decide)) | (dsimp only; rw [hb.2]; rfl)
   ·rw [← jump_k]; exact hr
 ·cases hr
theorem end_k {l : Nat} {e : HExit} {k : Kv} {h : Tr HBlk} {nx : Nat} {r : HV × HS} (hr : endK l e k h nx = some r) : ∃ v σ', endRoundH l e ⟨h, nx⟩ = some (v, σ') ∧ k v σ'.h σ'.nx = some r := by
 unfold endK at hr
 obtain ⟨q, hq, hr⟩ := jd hr
 cases e with
 | normal =>
  refine ⟨.bool true, (⟨h, nx⟩ : HS).upd l (some (.loop { q with state := .ready, pending := .normal })), ?_, hr⟩
  unfold endRoundH
  simp only [hq]
 | exit id =>
  refine ⟨.bool false, (⟨h, nx⟩ : HS).upd l (some (.loop { q with state := .done, pending := .exit id })), ?_, hr⟩
  unfold endRoundH
  simp only [hq]
 | ret =>
  refine ⟨.bool false, (⟨h, nx⟩ : HS).upd l (some (.loop { q with state := .done, pending := .ret })), ?_, hr⟩
  unfold endRoundH
  simp only [hq]
theorem round_k {co : Nat → ze → Bx Kc} (hco : ∀ nt c, KcOk lp nt (co nt c).run c) : KrOk lp (roundK co) := by
 intro fl l args h nx k r hr
 unfold roundK at hr
 obtain ⟨q, hq, hr⟩ := jd hr
 split at hr
 ·rename_i tm1 hz
  obtain ⟨n, e, a1, σ1, h1, h2, h3⟩ := hco _ _ _ _ _ _ _ _ _ _ _ _ hr
  cases e with
  | normal =>
   dsimp only [contK] at h3
   obtain ⟨q1, hq1, h3⟩ := jd h3
   revert h3
   cases hb : (isReady q1.state && Nat.ble fl l) with
   | false => intro h3; cases h3
   | true =>
    intro h3
    simp only [cond_true] at h3
    simp only [Bool.and_eq_true] at hb
    obtain ⟨m, e, a2, σ2, h4, h5, h6⟩ := hco _ _ _ _ _ _ _ _ _ _ _ _ h3
    have ea : (⟨q.nt, a1.tmps, a1.defers⟩ : HAct) = a1 := by rw [← h2]
    rw [ea] at h4
    have hbegin : beginRoundH fl l σ1 = some ⟨σ1.h.set l (some (.loop { q1 with state := .busy })), σ1.nx⟩ := by
     unfold beginRoundH
     rw [hq1]
     dsimp only
     have hrd := hb.1
     cases hst : q1.state <;> rw [hst] at hrd <;> first | (exact absurd hrd (by decide)) | (dsimp only; rw [hb.2]; rfl)
    have hend : ∃ v σ', endRoundH l e σ2 = some (v, σ') ∧ k v σ'.h σ'.nx = some r := by
     cases e <;> exact end_k h6
    obtain ⟨v, σ', g1, g2⟩ := hend
    refine ⟨max n m, v, σ', ?_, g2⟩
    unfold roundH
    rw [hq]
    dsimp only
    rw [hz]
    dsimp only
    rw [zF (Nat.le_max_left n m) _ _ _ _ _ _ h1]
    dsimp only
    rw [hbegin]
    dsimp only
    rw [zF (Nat.le_max_right n m) _ _ _ _ _ _ h4]
    exact g1
  | exit id => cases h3
  | ret => cases h3
 ·cases hr
theorem vu {op : LOp → Bx Ko} {fn : Nat → Bx Kf} (hop : ∀ o, KoOk lp nt (op o).run o) (hfn : ∀ f, KfOk lp (fn f).run f) : ∀ c, KcOk lp nt (comp op fn nt c).run c
 | .skip => fun fl rd kn kx kr a ds h nx r hr => ⟨1, .normal, _, _, rfl, rfl, hr⟩
 | .seq x y => by
  intro fl rd kn kx kr a ds h nx r hr
  unfold comp at hr
  rw [zG, zG, z2] at hr
  obtain ⟨n, e, a1, σ1, h1, h2, h3⟩ := vu hop hfn x fl rd _ kx kr a ds h nx r hr
  cases e with
  | normal =>
   dsimp only [contK] at h3
   obtain ⟨m, e, a', σ', h4, h5, h6⟩ := vu hop hfn y fl rd kn kx kr a1.tmps a1.defers σ1.h σ1.nx r h3
   have ea : (⟨nt, a1.tmps, a1.defers⟩ : HAct) = a1 := by rw [← h2]
   rw [ea] at h4
   exact ⟨max n m + 1, e, a', σ', Xz h1 h4, h5, h6⟩
  | exit id => exact ⟨n + 1, .exit id, a1, σ1, by show xSeq _ _ _ _ _ _ _ = _; unfold xSeq; rw [h1], h2, h3⟩
  | ret => exact ⟨n + 1, .ret, a1, σ1, by show xSeq _ _ _ _ _ _ _ = _; unfold xSeq; rw [h1], h2, h3⟩
 | .cond c x y => by
  intro fl rd kn kx kr a ds h nx r hr
  unfold comp at hr
  rw [zG, zG, zG, z2] at hr
  rw [zw (nt := nt) c a ds] at hr
  split at hr
  ·rename_i b hb
   cases b with
   | true =>
    obtain ⟨n, e, a', σ', h1, h2, h3⟩ := vu hop hfn x fl rd kn kx kr a ds h nx r hr
    refine ⟨n + 1, e, a', σ', ?_, h2, h3⟩
    show xCond _ _ _ _ _ _ _ _ = _
    unfold xCond
    rw [hb]; exact h1
   | false =>
    obtain ⟨n, e, a', σ', h1, h2, h3⟩ := vu hop hfn y fl rd kn kx kr a ds h nx r hr
    refine ⟨n + 1, e, a', σ', ?_, h2, h3⟩
    show xCond _ _ _ _ _ _ _ _ = _
    unfold xCond
    rw [hb]; exact h1
  ·cases hr
 | .block id x => by
  intro fl rd kn kx kr a ds h nx r hr
  unfold comp at hr
  rw [zG, z2] at hr
  obtain ⟨n, e, a', σ', h1, h2, h3⟩ := vu hop hfn x fl rd kn _ kr a ds h nx r hr
  cases e with
  | normal => exact ⟨n + 1, .normal, a', σ', by show xBlock _ _ _ _ _ _ _ = _; unfold xBlock; rw [h1], h2, h3⟩
  | ret => exact ⟨n + 1, .ret, a', σ', by show xBlock _ _ _ _ _ _ _ = _; unfold xBlock; rw [h1], h2, h3⟩
  | exit i =>
   dsimp only [contK] at h3
   refine ⟨n + 1, bif Nat.beq i id then .normal else .exit i, a', σ', by show xBlock _ _ _ _ _ _ _ = _; unfold xBlock; rw [h1], h2, ?_⟩
   revert h3
   cases Nat.beq i id <;> exact fun h => h
 | .loop x => by
  intro fl rd kn kx kr a ds h nx r hr
  unfold comp at hr
  rw [zG, z2] at hr
  have ihx := vu hop hfn x
  revert hr
  generalize 1000000 = m
  induction m generalizing a ds h nx with
  | zero => intro hr; cases hr
  | succ m ih =>
   intro hr
   obtain ⟨n, e, a1, σ1, h1, h2, h3⟩ := ihx fl rd _ kx kr a ds h nx r hr
   cases e with
   | normal =>
    dsimp only [contK] at h3
    obtain ⟨k, e, a', σ', h4, h5, h6⟩ := ih a1.tmps a1.defers σ1.h σ1.nx h3
    have ea : (⟨nt, a1.tmps, a1.defers⟩ : HAct) = a1 := by rw [← h2]
    rw [ea] at h4
    exact ⟨max n k + 1, e, a', σ', Xz h1 h4, h5, h6⟩
   | exit id => exact ⟨n + 1, .exit id, a1, σ1, by show xSeq _ _ _ _ _ _ _ = _; unfold xSeq; rw [h1], h2, h3⟩
   | ret => exact ⟨n + 1, .ret, a1, σ1, by show xSeq _ _ _ _ _ _ _ = _; unfold xSeq; rw [h1], h2, h3⟩
 | .scope x => by
  intro fl rd kn kx kr a ds h nx r hr
  obtain ⟨n, e, a', σ', h1, h2, h3⟩ := vu hop hfn x fl rd kn kx kr a ds h nx r hr
  exact ⟨n + 1, e, a', σ', h1, h2, h3⟩
 | .exit id => fun fl rd kn kx kr a ds h nx r hr => ⟨1, .exit id, _, _, rfl, rfl, hr⟩
 | .ret => fun fl rd kn kx kr a ds h nx r hr => ⟨1, .ret, _, _, rfl, rfl, hr⟩
 | .reg ops => by
  intro fl rd kn kx kr a ds h nx r hr
  unfold comp at hr
  rw [zG, z2] at hr
  obtain ⟨n, a', σ', h1, h2, h3⟩ := ops_k hop ops fl kn a ds h nx r hr
  refine ⟨n + 1, .normal, a', σ', ?_, h2, h3⟩
  show xNormal _ = _
  rw [h1]; rfl
 | .draw s ops => by
  intro fl rd kn kx kr a ds h nx r hr
  unfold comp at hr
  rw [zG, z2] at hr
  cases hb : Nat.ble fl nx with
  | false => rw [hb] at hr; cases hr
  | true =>
   rw [hb] at hr
   obtain ⟨n, a', σ', h1, h2, h3⟩ := Xr hop ops fl nx 0 h [] kn a ds nx r (Nat.le_of_ble_eq_true hb) (Nat.le_refl _) hr
   refine ⟨n + 1, .normal, a', σ', ?_, h2, h3⟩
   show xDraw lp (exec lp n) fl s ops _ _ = _
   unfold xDraw
   rw [hb]
   simp only [cond_true, h1]
   rfl
 | .rangeFunc f ps assign body => by
  unfold comp
  rw [zG, z2]
  exact range_k hfn f ps assign body
 | .bad => fun fl rd kn kx kr a ds h nx r hr => by cases hr
theorem XK {fl : Nat} {res : List LRes} {k : Kv} {a : HAct} {σ : HS} {r : HV × HS} (hn : a.nt = nt) (hr : leaveK fl nt res k a.tmps a.defers σ.h σ.nx = some r) : ∃ v σ', leaveH fl a res σ = some (v, σ') ∧ k v σ'.h σ'.nx = some r := by
 unfold leaveK at hr
 have ea : (⟨nt, a.tmps, a.defers⟩ : HAct) = a := by rw [← hn]
 rw [ea] at hr
 split at hr
 ·rename_i v σ' h1; exact ⟨v, σ', h1, hr⟩
 ·cases hr
theorem both_k : ∀ n, (∀ f, KfOk lp ((bothK lp n).1 f).run f) ∧ KrOk lp (bothK lp n).2
 | 0 => ⟨fun f fl args h nx k r hr => (by cases hr), fun fl l args h nx k r hr => (by cases hr)⟩
 | n + 1 => by
  obtain ⟨hfn, hro⟩ := both_k n
  have hco : ∀ nt c, KcOk lp nt (comp (compOp lp (bothK lp n).1 (bothK lp n).2 nt) (bothK lp n).1 nt c).run c := fun nt c => vu (fun o => op_ok hfn hro o) hfn c
  refine ⟨fun f fl args h nx k r hr => ?_, round_k hco⟩
  unfold bothK at hr
  dsimp only at hr
  split at hr
  ·cases hr
  ·rename_i lf hlf
   split at hr
   ·rename_i g hg
    rw [z2] at hr
    unfold specK at hr
    split at hr
    ·rename_i v σ h1
     cases hb : Nat.ble nx σ.nx with
     | false => rw [hb] at hr; cases hr
     | true =>
      rw [hb] at hr
      refine ⟨0, v, σ, ?_, hr⟩
      unfold callF
      rw [hlf]
      simp only [hg]
      unfold specH
      rw [h1]
      simp only [hb, cond_true]
    ·cases hr
   rename_i hsp
   rw [zG] at hr
   have run : ∀ (fl0 : Nat) (k0 : Kv), (bif Nat.ble args.length lf.nt then (comp (compOp lp (bothK lp n).1 (bothK lp n).2 lf.nt) (bothK lp n).1 lf.nt lf.body).run fl0 none (leaveK fl0 lf.nt lf.res k0) (fun _ _ _ _ _ => none) (leaveK fl0 lf.nt lf.res k0) (putAll .e 0 args) [] h nx else none) = some r →
     ∃ m v σ', callB (exec lp m) fl0 lf args ⟨h, nx⟩ = some (v, σ') ∧ k0 v σ'.h σ'.nx = some r := by
    intro fl0 k0 hr
    cases hb : Nat.ble args.length lf.nt with
    | false => rw [hb] at hr; cases hr
    | true =>
     rw [hb] at hr
     simp only [cond_true] at hr
     have hmx : Nat.max lf.nt args.length = lf.nt := Nat.max_eq_left (Nat.le_of_ble_eq_true hb)
     obtain ⟨m, e, a', σ', h1, h2, h3⟩ := hco lf.nt lf.body fl0 none _ _ _ _ _ _ _ r hr
     cases e with
     | normal =>
      obtain ⟨v, σ'', g1, g2⟩ := XK h2 h3
      refine ⟨m, v, σ'', ?_, g2⟩
      unfold callB
      rw [hmx, h1]
      exact g1
     | exit id => cases h3
     | ret =>
      obtain ⟨v, σ'', g1, g2⟩ := XK h2 h3
      refine ⟨m, v, σ'', ?_, g2⟩
      unfold callB
      rw [hmx, h1]
      exact g1
   unfold enterK at hr
   cases hi : lf.imp with
   | true =>
    rw [hi] at hr
    simp only [cond_true] at hr
    rw [z2] at hr
    obtain ⟨m, v, σ', g1, g2⟩ := run fl k hr
    refine ⟨m, v, σ', ?_, g2⟩
    unfold callF
    rw [hlf]
    simp only [hsp, hi, cond_true]
    exact g1
   | false =>
    rw [hi] at hr
    simp only [cond_false] at hr
    rw [z2] at hr
    obtain ⟨m, v, σ', g1, g2⟩ := run nx (gcK h nx k) hr
    refine ⟨m, v, gcH ⟨h, nx⟩ σ' v, ?_, g2⟩
    unfold callF
    rw [hlf]
    simp only [hsp, hi, cond_false, g1]
theorem fn_k (n f : Nat) : KfOk lp ((fnK lp n f).run) f := (both_k n).1 f
theorem c_of_k {n f : Nat} {args : List HV} {h : Tr HBlk} {nx : Nat} {Q : HV → HS → Prop} {k : Kv} {r : HV × HS} (hr : (fnK lp n f).run 0 args h nx k = some r) (hk : ∀ v h nx, k v h nx = some r → Q v ⟨h, nx⟩) : C lp 0 f args ⟨h, nx⟩ Q := by
 obtain ⟨m, v, σ', h1, h2⟩ := fn_k n f 0 args h nx k r hr
 exact ⟨m, v, σ', h1, hk _ _ _ h2⟩
end Go.Hx

namespace Go.Hx
theorem mixed : (Go.Proofs.Try.prog).follows .mixedOrders = true := by kernel_rfl
noncomputable def endK0 : Kv := fun v _ _ => some (v, ⟨.e, 0⟩)
theorem Ya {lp : Nat → Option zl} {n f : Nat} (hr : (fnK lp n f).run 0 [] .e 0 endK0 = some (.bool true, ⟨.e, 0⟩)) : C lp 0 f [] ⟨.e, 0⟩ (fun v _ => v = .bool true) :=
 c_of_k hr fun v h nx hk => by unfold endK0 at hk; cases hk; rfl
theorem closed20 : C LP 0 20 [] ⟨.e, 0⟩ (fun v _ => v = .bool true) := Ya (n := 400) (by kernel_rfl)
end Go.Hx

namespace Go.Hx
open Go.RowKit
variable {P : Program}
end Go.Hx

namespace Go.Hx
open Go.RowKit Go.ChangeShapes Go.WideShapes Go.ChangeAt
theorem kW : ∀ args σ v σ', spWakes args σ = some (v, σ') → σ' = σ ∧ args.all flat = true ∧ flatV v = true ∧ C LP 0 20 args ⟨.e, 0⟩ (fun v' _ => v' = v) := by
 intro args σ v σ' h
 cases args with
 | nil => cases h; exact ⟨rfl, rfl, rfl, closed20⟩
 | cons a l => cases h
theorem lw_ok : LpOk Go.Proofs.Try.prog LW := withS_ok XJ (kV mixed XJ kW)
def e2 (x : Int × Int) : List HV := [i64 x.1, i64 x.2]
def e3 (x : Int × Int × Int) : List HV := [i64 x.1, i64 x.2.1, i64 x.2.2]
theorem dec2 : ∀ us : Nat → Value, (∀ j k, [Leaf.i .i64, .i .i64][j]? = some k → LeafV k (us j)) → ∃ x : Int × Int, ∀ j u, (e2 x)[j]? = some u → ∀ ρ, VR ρ u (us j) := by
 intro us h
 obtain ⟨a, e0⟩ := ue (h 0 _ rfl)
 obtain ⟨b, e1⟩ := ue (h 1 _ rfl)
 refine ⟨(a, b), fun j u hj ρ => ?_⟩
 match j, hj with
 | 0, hj => cases hj; rw [e0]; exact .int _ _
 | 1, hj => cases hj; rw [e1]; exact .int _ _
 | j + 2, hj => simp [e2] at hj
theorem rel2 (F : V.PH) (x : Int × Int) : V.rP V.rI V.rI F x (e2 x) := ⟨[_], [_], rfl, rfl, rfl⟩
def e4 (x : Int × Int × Int × Int) : List HV := [i64 x.1, i64 x.2.1, i64 x.2.2.1, i64 x.2.2.2]
end Go.Hx

namespace Go.Hx
open Go.RowKit
variable {P : Program}
def SlotN (ρ : Rho) (w : World) (s : Slot) : Prop := ∃ (C : Array Value) (e : TypeId) (z : Nat × Nat), w.heap[s.ri.blk]? = some (.cells C e z) ∧ ∀ (i : Nat) (v : HV), s.cs[i]? = some v → ∃ u, C[s.ri.off + i]? = some u ∧ VR ρ v u
theorem SlotOk.n {w : World} {s : Slot} (h : SlotOk w s) (ρ : Rho) : SlotN ρ w s := by
 obtain ⟨C, e, z, h1, h2⟩ := h
 exact ⟨C, e, z, h1, fun i v hv => let ⟨u, a, b⟩ := h2 i v hv; ⟨u, a, b ρ⟩⟩
theorem calls_argsN {lp : Nat → Option zl} (hm : P.follows .mixedOrders = true) (hlp : LpOk P lp) {f : Nat} {args : List HV} {ss : List (Option Slot)} {W : World} (hs : ∀ s, some s ∈ ss → SlotN (rhoOf ss) W s)
  (h : C lp 0 f args ⟨lay ss, ss.length⟩ (Sc (· = .bool true) ⟨lay ss, ss.length⟩)) {Args : Array Value} (ha : LR (rhoOf ss) args Args.toList) :
  Calls P f Args W fun e W' => e = .returned (.bool true) ∧ Below W.heap.size W W' := by
 have hro : ∀ b x, (lay ss).get b = some x → x.own = false := fun b x hx => by
  rw [lay_get] at hx
  cases e : ss.getD b none with
  | none => rw [e] at hx; cases hx
  | some s => rw [e] at hx; cases hx; rfl
 have mem : ∀ b s, ss.getD b none = some s → some s ∈ ss ∧ b < ss.length := fun b s e => by
  rw [List.getD_eq_getElem?_getD] at e
  cases e2 : ss[b]? with
  | none => rw [e2] at e; cases e
  | some o =>
   rw [e2] at e
   have : o = some s := e
   subst this
   refine ⟨List.mem_of_getElem? e2, ?_⟩
   rcases Nat.lt_or_ge b ss.length with h | h
   ·exact h
   ·rw [List.getElem?_eq_none h] at e2; cases e2
 have hdom : Dom ⟨lay ss, ss.length⟩ := fun b x hx => by
  have hx' : (lay ss).get b = some x := hx
  rw [lay_get] at hx'
  cases e : ss.getD b none with
  | none => rw [e] at hx'; cases hx'
  | some s => exact (mem b s e).2
 have hsim : Sim P W.heap.size (lay ss).get (rhoOf ss) W := by
  refine ⟨fun b x hx => ?_, fun b b' x x' r r' hx _ ho => by rw [hro b x hx] at ho; cases ho⟩
  rw [lay_get] at hx
  cases e : ss.getD b none with
  | none => rw [e] at hx; cases hx
  | some s =>
   rw [e] at hx
   cases hx
   obtain ⟨C, el, z, hw, hc⟩ := hs s (mem b s e).1
   refine ⟨s.ri, C, el, z, by unfold rhoOf riOf; rw [e]; rfl, hw, fun i v hv => ?_, (Array.getElem?_eq_some_iff.1 hw).1⟩
   obtain ⟨u, h1, h2⟩ := hc i v hv
   exact ⟨u, h1, h2⟩
 obtain ⟨n, v, σ', h1, h2⟩ := h
 have hin : In P W.heap.size ⟨lay ss, ss.length⟩ σ' (rhoOf ss) W := ⟨Nat.le_refl _, hsim, fun b hb _ => by
  show riOf (ss.getD b none) = none
  rw [List.getD_eq_getElem?_getD, List.getElem?_eq_none hb]; rfl⟩
 have := XX hm hlp h1 hdom W.heap.size (rhoOf ss) Args W hin ha
 rw [fr_none] at this
 refine (callsIn_wide.1 this).mono ?_
 rintro e W' ⟨V, ρ', rfl, hv, hp⟩
 obtain ⟨rfl, _⟩ := h2
 cases hv
 exact ⟨rfl, jt hp hro⟩
theorem jD {α : Type} {enc : α → List HV} {sz : Nat} : ∀ (l : List α), (∀ x ∈ l, (enc x).length = sz) → ∀ (i : Nat) (x : α), l[i]? = some x → takeN sz ((l.flatMap enc).drop (0 + i * sz)) = some (enc x)
 | [], _, i, x, h => by simp at h
 | y :: l, he, 0, x, h => by
  simp at h; subst h
  rw [Nat.zero_mul, List.flatMap_cons, ← he y (List.mem_cons_self ..)]
  exact vD _ _
 | y :: l, he, i + 1, x, h => by
  have := jD l (fun x hx => he x (List.mem_cons_of_mem _ hx)) i x (by simpa using h)
  have hy := he y (List.mem_cons_self ..)
  rw [List.flatMap_cons, List.drop_append, show 0 + (i + 1) * sz - (enc y).length = 0 + i * sz by rw [hy, Nat.add_mul]; omega, List.drop_of_length_le (by rw [hy, Nat.add_mul]; omega), List.nil_append]
  exact this
theorem uy {α β : Type} {f : α → List β} {m : Nat} : ∀ (l : List α), (∀ x ∈ l, (f x).length = m) → ∀ (i j : Nat) (x : α), l[i]? = some x → j < m → (l.flatMap f)[i * m + j]? = (f x)[j]?
 | [], _, i, j, x, h, _ => by simp at h
 | y :: l, he, 0, j, x, h, hj => by
  simp at h; subst h
  rw [List.flatMap_cons, Nat.zero_mul, Nat.zero_add, List.getElem?_append_left (by rw [he y (List.mem_cons_self ..)]; exact hj)]
 | y :: l, he, i + 1, j, x, h, hj => by
  have hy := he y (List.mem_cons_self ..)
  rw [List.flatMap_cons, List.getElem?_append_right (by rw [hy, Nat.add_mul]; omega), hy, show (i + 1) * m + j - m = i * m + j by rw [Nat.add_mul]; omega]
  exact uy l (fun x hx => he x (List.mem_cons_of_mem _ hx)) i j x (by simpa using h) hj
theorem ux {α β : Type} {f : α → List β} {m : Nat} : ∀ (l : List α), (∀ x ∈ l, (f x).length = m) → (l.flatMap f).length = l.length * m
 | [], _ => by simp
 | y :: l, he => by
  rw [List.flatMap_cons, List.length_append, ux l (fun x hx => he x (List.mem_cons_of_mem _ hx)), he y (List.mem_cons_self ..), List.length_cons, Nat.add_mul]; omega
theorem flat_ix {α β : Type} {f : α → List β} {m : Nat} (hm : 0 < m) (l : List α) (he : ∀ x ∈ l, (f x).length = m) (p : Nat) (v : β) (h : (l.flatMap f)[p]? = some v) : ∃ i j x, p = i * m + j ∧ j < m ∧ l[i]? = some x ∧ (f x)[j]? = some v := by
 have hp : p < (l.flatMap f).length := (List.getElem?_eq_some_iff.1 h).1
 rw [ux l he] at hp
 have h1 : p / m < l.length := Nat.div_lt_of_lt_mul (by rw [Nat.mul_comm]; exact hp)
 have h2 : p % m < m := Nat.mod_lt _ hm
 have h3 : p = p / m * m + p % m := by rw [Nat.mul_comm]; exact (Nat.div_add_mod p m).symm
 refine ⟨p / m, p % m, l[p / m], h3, h2, List.getElem?_eq_getElem h1, ?_⟩
 rw [← uy l he (p / m) (p % m) _ (List.getElem?_eq_getElem h1) h2, ← h3]; exact h
section
variable {H : Type} {enc : TypeId × Value → H} {w : World} {base : Nat} {held : Bool}
theorem XD {t e : TypeId} {fuel : Nat} {cs : List Value} {x : DataW H × List MemPlace} (ht : P.underlying t = some (.slice e)) (hc : 0 < P.cellsOf e) (h : DataW.trod enc P w base (fun _ => true) held fuel t cs = some x) :
  (∃ a, cs = [a] ∧ (a = .slice none 0 0 ∨ ∃ b, a = .slice (some b) 0 0)) ∨ ∃ (blk off len cap : Nat) (C : Array Value) (el : TypeId) (z : Nat × Nat), cs = [.slice (some ⟨blk, off, none⟩) len cap] ∧ len ≤ cap ∧ w.heap[blk]? = some (.cells C el z) ∧
   ∀ i, i < len → ∃ (us : List Value) (n : Nat) (y : DataW H × List MemPlace), us.length = P.cellsOf e ∧ (∀ j, j < us.length → C[off + (i * P.cellsOf e + j)]? = us[j]?) ∧ DataW.trod enc P w base (fun _ => true) held n e us = some y := by
 rcases Deep.open_slice ht h with ⟨rfl, _⟩ | ⟨a, len, cap, m, n, D, Pl, rfl, _, hlc, hm, hmm, _, hx⟩
 ·exact .inl ⟨_, rfl, .inl rfl⟩
 ·simp only [if_true] at hmm
  subst hmm
  by_cases h0 : m = 0
  ·subst h0
   have : len = 0 := by omega
   subst this
   exact .inl ⟨_, rfl, .inr ⟨a, rfl⟩⟩
  ·obtain ⟨blk, off, spot⟩ := a
   obtain ⟨cs', h1, h2⟩ := hx 0 (by omega)
   obtain ⟨_, hlen, hcell⟩ := World.cells?_some h1
   have hc0 := hcell 0 hc
   have e0 : ((Addr.mk blk off spot).add (0 * P.cellsOf e)).add 0 = Addr.mk blk off spot := by rw [Nat.zero_mul]; rfl
   rw [e0, List.getElem?_eq_getElem (by omega)] at hc0
   unfold World.cell? at hc0
   dsimp only at hc0
   split at hc0
   ·rename_i C el z hw
    cases hsp : spot with
    | some s => rw [hsp] at hc0; simp at hc0
    | none =>
     refine .inr ⟨blk, off, len, m, C, el, z, rfl, hlc, hw, fun i hi => ?_⟩
     subst hsp
     obtain ⟨us, g1, g2⟩ := hx i (by omega)
     obtain ⟨_, glen, gcell⟩ := World.cells?_some g1
     refine ⟨us, n, _, glen, fun j hj => ?_, g2⟩
     have hcj := gcell j (by omega)
     rw [Deep.add_add] at hcj
     have key : w.cell? (Addr.add ⟨blk, off, none⟩ (i * P.cellsOf e + j)) = C[off + (i * P.cellsOf e + j)]? := by
      unfold Addr.add World.cell?
      by_cases h0 : i * P.cellsOf e + j = 0
      ·rw [if_pos h0, h0]
       simp only [hw, Nat.add_zero]
       rfl
      ·rw [if_neg h0]
       simp only [hw]
       rfl
     rw [key] at hcj
     exact hcj
   ·cases hc0
structure ArgP {α : Type} (rel : V.Rel α) (sz : Nat) (w : World) (v : Value) (o : Option Slot) (mk : Nat → HV) (l : List α) : Prop where
 ok : ∀ s, o = some s → SlotOk w s
 vr : ∀ (k : Nat) (ρ : Rho), ρ k = riOf o → VR ρ (mk k) v
 row : ∀ k, ∃ p c, mk k = .slice p l.length c ∧ ∀ (h : Tr HBlk), h.get k = (o.map fun s => .cells s.cs .ro) → V.RowF rel sz (V.all h) p c l
theorem argP {α : Type} [Inhabited α] {rel : V.Rel α} {enc0 : α → List HV} {t e : TypeId} {d : Nat} {ks : List Leaf} {fuel : Nat} {cs : List Value} {x : DataW H × List MemPlace} (ht : P.underlying t = some (.slice e)) (hk : leaves P d e = some ks) (hl : ks.length = P.cellsOf e) (hpos : 0 < ks.length)
  (h : DataW.trod enc P w base (fun _ => true) held fuel t cs = some x) (he : ∀ x, (enc0 x).length = ks.length) (hrel : ∀ F x, rel F x (enc0 x))
  (hdec : ∀ us : Nat → Value, (∀ j k, ks[j]? = some k → LeafV k (us j)) → ∃ x : α, ∀ j u, (enc0 x)[j]? = some u → ∀ ρ, VR ρ u (us j)) :
  ∃ (v : Value) (o : Option Slot) (mk : Nat → HV) (l : List α), cs = [v] ∧ ArgP rel ks.length w v o mk l := by
 rcases XD ht (by omega) h with ⟨a, rfl, ha⟩ | ⟨blk, off, len, cap, C, el, z, rfl, hlc, hw, hx⟩
 ·rcases ha with rfl | ⟨b, rfl⟩
  ·exact ⟨_, none, fun _ => .slice none 0 0, [], rfl, ⟨fun s e => (by cases e), fun k ρ _ => .slice0, fun k => ⟨none, 0, rfl, fun h _ => ⟨Nat.le_refl _, fun hne => absurd rfl hne⟩⟩⟩⟩
  ·exact ⟨_, none, fun k => .slice (some (k, 0)) 0 0, [], rfl, ⟨fun s e => (by cases e), fun k ρ _ => .slice00 b, fun k => ⟨some (k, 0), 0, rfl, fun h _ => ⟨Nat.le_refl _, fun hne => absurd rfl hne⟩⟩⟩⟩
 ·have each : ∀ i, i < len → ∃ x : α, ∀ j u, (enc0 x)[j]? = some u → ∃ c, C[off + (i * ks.length + j)]? = some c ∧ ∀ ρ, VR ρ u c := by
   intro i hi
   obtain ⟨us, n, y, g1, g2, g3⟩ := hx i hi
   have hf2 := yZ d e ks n us _ hk hl g3
   obtain ⟨x, hx1⟩ := hdec (fun j => (us[j]?).getD .nilFunc) (fun j k hj => by
    have hjl : j < ks.length := (List.getElem?_eq_some_iff.1 hj).1
    have hju : us[j]? = some us[j] := List.getElem?_eq_getElem (by rw [← hf2.1]; exact hjl)
    rw [hju]
    exact hf2.2 j k _ hj hju)
   refine ⟨x, fun j u hj => ?_⟩
   have hjl : j < ks.length := by rw [← he x]; exact (List.getElem?_eq_some_iff.1 hj).1
   have hju : us[j]? = some us[j] := List.getElem?_eq_getElem (by rw [← hf2.1]; exact hjl)
   refine ⟨us[j], by rw [hl, g2 j (by rw [← hf2.1]; exact hjl)]; exact hju, fun ρ => ?_⟩
   have := hx1 j u hj ρ
   rwa [hju] at this
  obtain ⟨f, hf⟩ := Deep.choose_lt each
  refine ⟨_, some ⟨((List.range len).map f).flatMap enc0, ⟨blk, off, 0⟩⟩, fun k => .slice (some (k, 0)) len cap, (List.range len).map f, rfl, ⟨fun s e => ?_, fun k ρ hr => ?_, fun k => ⟨some (k, 0), cap, by simp, fun h hg => ⟨by simpa using hlc, fun _ => ⟨k, 0, _, .ro, rfl, hg, fun i x hx => ⟨_, kA he _ i x hx, hrel _ x⟩⟩⟩⟩⟩⟩
  ·cases e
   refine ⟨C, el, z, hw, fun i u hu => ?_⟩
   obtain ⟨i', j, x, rfl, h2, h3⟩ := XM he _ i u hu
   have hi' : i' < len := by
    rcases Nat.lt_or_ge i' len with h | h
    ·exact h
    ·rw [List.getElem?_eq_none (by simp; omega)] at h2; cases h2
   rw [List.getElem?_map, List.getElem?_range hi'] at h2
   cases h2
   exact hf i' hi' j u h3
  ·exact VR.slice (r := ⟨blk, off, 0⟩) (o := 0) hr
structure ElOk {α : Type} (rel : V.Rel α) (sz m : Nat) (w : World) (us : List Value) (x : α) (cells : Nat → List HV) (inner : List (Option Slot)) : Prop where
 len : inner.length = m
 sz : ∀ k, (cells k).length = sz
 ok : ∀ s, some s ∈ inner → SlotOk w s
 vr : ∀ k (ρ : Rho), (∀ i, i < m → ρ (k + i) = riOf (inner.getD i none)) → ∀ (j : Nat) (u : HV), (cells k)[j]? = some u → ∃ c : Value, us[j]? = some c ∧ VR ρ u c
 rel : ∀ k (h : Tr HBlk), (∀ i, i < m → h.get (k + i) = ((inner.getD i none).map fun s => .cells s.cs .ro)) → rel (V.all h) x (cells k)
def Has (ss : List (Option Slot)) (k : Nat) (part : List (Option Slot)) : Prop := ∀ i, i < part.length → ss.getD (k + i) none = part.getD i none
theorem Has.mid (a b c : List (Option Slot)) : Has (a ++ (b ++ c)) a.length b := fun i hi => by
 rw [List.getD_eq_getElem?_getD, List.getD_eq_getElem?_getD, List.getElem?_append_right (by omega), show a.length + i - a.length = i by omega, List.getElem?_append_left hi]
structure ArgN {α : Type} (rel : V.Rel α) (sz : Nat) (w : World) (v : Value) (mk : Nat → HV) (part : Nat → List (Option Slot)) (l : List α) : Prop where
 ok : ∀ ss k, Has ss k (part k) → ∀ s, some s ∈ part k → SlotN (rhoOf ss) w s
 vr : ∀ ss k, Has ss k (part k) → VR (rhoOf ss) (mk k) v
 row : ∀ k, ∃ p c, mk k = .slice p l.length c ∧ ∀ ss, Has ss k (part k) → V.RowF rel sz (V.all (lay ss)) p c l
theorem argN {α : Type} [Inhabited α] {rel : V.Rel α} {sz m : Nat} {t e : TypeId} {fuel : Nat} {cs : List Value} {x : DataW H × List MemPlace} (ht : P.underlying t = some (.slice e)) (hc : sz = P.cellsOf e) (hpos : 0 < sz) (hm : 0 < m)
  (h : DataW.trod enc P w base (fun _ => true) held fuel t cs = some x)
  (hdec : ∀ (us : List Value) (n : Nat) (y : DataW H × List MemPlace), us.length = sz → DataW.trod enc P w base (fun _ => true) held n e us = some y → ∃ (x : α) (cells : Nat → List HV) (inner : List (Option Slot)), ElOk rel sz m w us x cells inner) :
  ∃ (v : Value) (mk : Nat → HV) (part : Nat → List (Option Slot)) (l : List α), cs = [v] ∧ ArgN rel sz w v mk part l := by
 rcases XD ht (by omega) h with ⟨a, rfl, ha⟩ | ⟨blk, off, len, cap, C, el, z, rfl, hlc, hw, hx⟩
 ·rcases ha with rfl | ⟨b, rfl⟩
  ·exact ⟨_, fun _ => .slice none 0 0, fun _ => [], [], rfl, ⟨fun ss k _ s hs => by simp at hs, fun ss k _ => .slice0, fun k => ⟨none, 0, rfl, fun ss _ => ⟨Nat.le_refl _, fun hne => absurd rfl hne⟩⟩⟩⟩
  ·exact ⟨_, fun k => .slice (some (k, 0)) 0 0, fun _ => [], [], rfl, ⟨fun ss k _ s hs => by simp at hs, fun ss k _ => .slice00 b, fun k => ⟨some (k, 0), 0, rfl, fun ss _ => ⟨Nat.le_refl _, fun hne => absurd rfl hne⟩⟩⟩⟩
 ·have each : ∀ i, i < len → ∃ y : α × (Nat → List HV) × List (Option Slot), ∃ us : List Value, (∀ j, j < us.length → C[off + (i * sz + j)]? = us[j]?) ∧ us.length = sz ∧ ElOk rel sz m w us y.1 y.2.1 y.2.2 := by
   intro i hi
   obtain ⟨us, n, y, g1, g2, g3⟩ := hx i hi
   obtain ⟨x, ce, inn, hel⟩ := hdec us n y (by omega) g3
   exact ⟨(x, ce, inn), us, by rw [hc]; exact g2, by omega, hel⟩
  obtain ⟨f, hf⟩ := Deep.choose_lt each
  have hlen : ∀ i ∈ List.range len, (f i).2.2.length = m := fun i hi => (hf i (by simpa using hi)).elim fun us h => h.2.2.len
  have hsz : ∀ k, ∀ i ∈ List.range len, ((f i).2.1 (k + 1 + i * m)).length = sz := fun k i hi => (hf i (by simpa using hi)).elim fun us h => h.2.2.sz _
  have hrg : ∀ i, i < len → (List.range len)[i]? = some i := fun i hi => List.getElem?_range hi
  let outer : Nat → Slot := fun k => ⟨(List.range len).flatMap fun i => (f i).2.1 (k + 1 + i * m), ⟨blk, off, 0⟩⟩
  let part : Nat → List (Option Slot) := fun k => some (outer k) :: (List.range len).flatMap fun i => (f i).2.2
  have plen : ∀ k, (part k).length = 1 + len * m := fun k => by
   show (_ :: _).length = _
   rw [List.length_cons, ux _ hlen, List.length_range]; omega
  have at0 : ∀ k ss, Has ss k (part k) → ss.getD k none = some (outer k) := fun k ss h => by
   have := h 0 (by rw [plen]; omega)
   rw [Nat.add_zero] at this
   exact this
  have atI : ∀ k ss, Has ss k (part k) → ∀ i j, i < len → j < m → ss.getD (k + 1 + i * m + j) none = (f i).2.2.getD j none := fun k ss h i j hi hj => by
   have hb : i * m + j < len * m := by
    have : (i + 1) * m ≤ len * m := Nat.mul_le_mul_right _ hi
    rw [Nat.add_mul] at this; omega
   have := h (1 + (i * m + j)) (by rw [plen]; omega)
   rw [show k + (1 + (i * m + j)) = k + 1 + i * m + j by omega] at this
   rw [this, List.getD_eq_getElem?_getD, List.getD_eq_getElem?_getD, Nat.add_comm 1]
   show (((List.range len).flatMap fun i => (f i).2.2)[i * m + j]?).getD none = _
   rw [uy (f := fun i => (f i).2.2) _ hlen i j i (hrg i hi) hj]
  refine ⟨_, fun k => .slice (some (k, 0)) len cap, part, (List.range len).map fun i => (f i).1, rfl, ⟨fun ss k hh s hs => ?_, fun ss k hh => ?_, fun k => ⟨some (k, 0), cap, by simp, fun ss hh => ⟨by simpa using hlc, fun _ => ⟨k, 0, (outer k).cs, .ro, rfl, ?_, fun i x hx => ?_⟩⟩⟩⟩⟩
  ·rcases List.mem_cons.1 hs with e | hs
   ·cases e
    refine ⟨C, el, z, hw, fun i u hu => ?_⟩
    obtain ⟨i', j, x, rfl, hj, h2, h3⟩ := flat_ix hpos _ (hsz k) i u hu
    have hi' : i' < len := by have := (List.getElem?_eq_some_iff.1 h2).1; simpa using this
    rw [hrg i' hi'] at h2
    cases h2
    obtain ⟨us, g1, g2, hel⟩ := hf i' hi'
    obtain ⟨c, h4, h5⟩ := hel.vr (k + 1 + i' * m) (rhoOf ss) (fun q hq => by unfold rhoOf; rw [atI k ss hh i' q hi' hq]) j u h3
    exact ⟨c, by rw [g1 j (by omega)]; exact h4, h5⟩
   ·obtain ⟨i, hi, hs⟩ := List.mem_flatMap.1 hs
    obtain ⟨us, g1, g2, hel⟩ := hf i (by simpa using hi)
    exact (hel.ok s hs).n _
  ·refine VR.slice (r := ⟨blk, off, 0⟩) (o := 0) ?_
   unfold rhoOf
   rw [at0 k ss hh]; rfl
  ·unfold V.all
   rw [lay_get, at0 k ss hh]; rfl
  ·have hi : i < len := by have := (List.getElem?_eq_some_iff.1 hx).1; simpa using this
   rw [List.getElem?_map, hrg i hi] at hx
   cases hx
   obtain ⟨us, g1, g2, hel⟩ := hf i hi
   refine ⟨_, jD (enc := fun i => (f i).2.1 (k + 1 + i * m)) _ (hsz k) i i (hrg i hi), hel.rel _ _ fun q hq => ?_⟩
   rw [lay_get, atI k ss hh i q hi hq]
end
end Go.Hx

namespace Go.Hx
open Go.RowKit Go.ChangeShapes Go.WideShapes Go.ChangeAt
open Go.Proofs
set_option maxRecDepth 100000
theorem leaves51 : leaves Try.prog 20 51 = some [.i .i64, .i .i64] := by kernel_rfl
theorem leaves108 : leaves Try.prog 20 108 = some [.i .i64, .i .i64] := by kernel_rfl
theorem leaves3 : leaves Try.prog 20 3 = some [.i .i64] := by kernel_rfl
theorem cells51 : 2 = Try.prog.cellsOf 51 := by kernel_rfl
theorem cells108 : 2 = Try.prog.cellsOf 108 := by kernel_rfl
theorem cells3 : 1 = Try.prog.cellsOf 3 := by kernel_rfl
theorem cells22 : 1 = Try.prog.cellsOf 22 := by kernel_rfl
theorem cells23 : 1 = Try.prog.cellsOf 23 := by kernel_rfl
theorem cells101 : 1 = Try.prog.cellsOf 101 := by kernel_rfl
theorem cells103 : 3 = Try.prog.cellsOf 103 := by kernel_rfl
theorem cells25 : Try.prog.cellsOf 25 = 3 := by kernel_rfl
abbrev relB : V.Rel (Int × Int × List (Int × Int)) := V.rP V.rI (V.rP V.rI (V.rL (V.rP V.rI V.rI) 2))
section
variable {P : Program} {H : Type} {enc : TypeId × Value → H} {w : World} {base : Nat} {held : Bool}
theorem vt {spare : Nat → Bool} {t : TypeId} {fs : Array Field} {fuel : Nat} {cs : List Value} {x : DataW H × List MemPlace} (ht : P.underlying t = some (.struct fs)) (h : DataW.trod enc P w base spare held fuel t cs = some x) {j : Nat} {f : Field} (hj : fs[j]? = some f) :
  ∃ n y, DataW.trod enc P w base spare held n f.type ((cs.drop f.offset).take (P.cellsOf f.type)) = some y := by
 obtain ⟨xs, n, _, _, hlen, hxl, hx⟩ := DataW.trod_struct ht h
 have h3 := hx j f hj
 have hjl : j < xs.length := by
  have : j < fs.size := (Array.getElem?_eq_some_iff.1 hj).1
  omega
 rw [List.getElem?_eq_getElem hjl] at h3
 exact ⟨n, _, h3⟩
end
section
variable {H : Type} {enc : TypeId × Value → H} {w : World} {base : Nat} {held : Bool} {v : Value} {dd : DataW H} {p : List MemPlace} {b0 : Nat}
theorem two_ints {us : List Value} (h : F2 [.i .i64, .i .i64] us) : ∃ a b : Int, us = [.int .i64 a, .int .i64 b] := by
 obtain ⟨u0, C, rfl, h0, h⟩ := XN h
 obtain ⟨u1, C, rfl, h1, h⟩ := XN h
 obtain rfl := f2_nil h
 obtain ⟨a, rfl⟩ := ue h0
 obtain ⟨b, rfl⟩ := ue h1
 exact ⟨a, b, rfl⟩
theorem el_bath (us : List Value) (n : Nat) (y : DataW H × List MemPlace) (hl : us.length = 3) (h : DataW.trod enc Try.prog w base (fun _ => true) held n 103 us = some y) :
  ∃ (x : Int × Int × List (Int × Int)) (cells : Nat → List HV) (inner : List (Option Slot)), ElOk relB 3 1 w us x cells inner := by
 obtain ⟨n1, y1, h1⟩ := vt Try.underlying103 h (j := 0) rfl
 obtain ⟨n2, y2, h2⟩ := vt Try.underlying103 h (j := 1) rfl
 obtain ⟨u0, u1, u2, rfl⟩ : ∃ u0 u1 u2, us = [u0, u1, u2] := by
  match us, hl with
  | [a, b, c], _ => exact ⟨a, b, c, rfl⟩
 have h1 : DataW.trod enc Try.prog w base (fun _ => true) held n1 51 (([u0, u1, u2].drop 0).take (Try.prog.cellsOf 51)) = some y1 := h1
 have h2 : DataW.trod enc Try.prog w base (fun _ => true) held n2 101 (([u0, u1, u2].drop 2).take (Try.prog.cellsOf 101)) = some y2 := h2
 rw [← cells51] at h1
 rw [← cells101] at h2
 obtain ⟨a, b, e⟩ := two_ints (yZ 20 51 _ n1 _ _ leaves51 cells51 h1)
 obtain ⟨v, o, mk, l, e2, ha⟩ := argP (rel := V.rP V.rI V.rI) (enc0 := e2) Try.underlying101 leaves108 cells108 (by decide) h2 (fun _ => rfl) rel2 dec2
 have e : [u0, u1] = [.int .i64 a, .int .i64 b] := e
 have e2 : [u2] = [v] := e2
 cases e
 cases e2
 refine ⟨(a, b, l), fun k => [i64 a, i64 b, mk k], [o], rfl, fun k => rfl, fun s hs => ?_, fun k ρ hr j u hu => ?_, fun k h hg => ?_⟩
 ·rcases List.mem_cons.1 hs with e | hs
  ·exact ha.ok s e.symm
  ·cases hs
 ·match j, hu with
  | 0, hu => cases hu; exact ⟨_, rfl, .int _ _⟩
  | 1, hu => cases hu; exact ⟨_, rfl, .int _ _⟩
  | 2, hu => cases hu; exact ⟨_, rfl, ha.vr k ρ (hr 0 (by decide))⟩
  | j + 3, hu => simp at hu
 ·obtain ⟨p, c, e, hrow⟩ := ha.row k
  exact ⟨[_], [_, _], rfl, rfl, ⟨[_], [_], rfl, rfl, ⟨p, c, by rw [e], hrow h (hg 0 (by decide))⟩⟩⟩
theorem relI (F : V.PH) (x : Int) : V.rI F x (ienc x) := rfl
theorem arg_intsP (hv : Value.okWide Try.prog w .any b0 26 v) (h : DataW.Trod enc Try.prog w base (fun _ => true) held 26 v dd p) : ∃ (oo : Option Slot) (mo : Nat → HV) (lo : List Int), ArgP V.rI 1 w v oo mo lo := by
 obtain ⟨fuel, hf⟩ := h
 obtain ⟨v', o, mk, l, e, ha⟩ := argP (rel := V.rI) (enc0 := ienc) Try.underlying26 leaves3 cells3 (by decide) hf (fun _ => rfl) relI dec_int
 obtain ⟨a, n, c, rfl⟩ := okWide_slice Try.underlying26 hv
 have e : [Value.slice a n c] = [v'] := e
 cases e
 exact ⟨o, mk, l, ha⟩
def SerA (W : World) (v : Value) : Prop := ∃ (e : Int) (vo vb : Value), v = .agg #[vo, .int .i64 e, vb] ∧ (∃ oo mo lo, ArgP (V.rP V.rI V.rI) 2 W vo oo mo lo) ∧ ∃ mk part l, ArgN relB 3 W vb mk part l
theorem arg_series (hv : Value.okWide Try.prog w .any b0 25 v) (h : DataW.Trod enc Try.prog w base (fun _ => true) held 25 v dd p) : SerA w v := by
 obtain ⟨C, rfl, hs⟩ := okWide_struct Try.underlying25 hv
 obtain ⟨fuel, hf⟩ := h
 obtain ⟨n0, y0, h0⟩ := vt Try.underlying25 hf (j := 0) rfl
 obtain ⟨n1, y1, h1⟩ := vt Try.underlying25 hf (j := 1) rfl
 obtain ⟨n2, y2, h2⟩ := vt Try.underlying25 hf (j := 2) rfl
 have hs := hs.trans cells25
 obtain ⟨u0, u1, u2, rfl⟩ : ∃ u0 u1 u2, C = #[u0, u1, u2] := by
  obtain ⟨l⟩ := C
  match l, hs with
  | [a, b, c], _ => exact ⟨a, b, c, rfl⟩
 have h0 : DataW.trod enc Try.prog w base (fun _ => true) held n0 22 (([u0, u1, u2].drop 0).take (Try.prog.cellsOf 22)) = some y0 := h0
 have h1 : DataW.trod enc Try.prog w base (fun _ => true) held n1 3 (([u0, u1, u2].drop 1).take (Try.prog.cellsOf 3)) = some y1 := h1
 have h2 : DataW.trod enc Try.prog w base (fun _ => true) held n2 23 (([u0, u1, u2].drop 2).take (Try.prog.cellsOf 23)) = some y2 := h2
 rw [← cells22] at h0
 rw [← cells3] at h1
 rw [← cells23] at h2
 obtain ⟨vo, oo, mo, lo, e0, ha⟩ := argP (rel := V.rP V.rI V.rI) (enc0 := e2) Try.underlying22 leaves51 cells51 (by decide) h0 (fun _ => rfl) rel2 dec2
 obtain ⟨e, e1, _⟩ := DataW.trod_int Try.underlying3 h1
 obtain ⟨vb, mk, part, l, e2, hb⟩ := argN (rel := relB) (sz := 3) (m := 1) Try.underlying23 cells103 (by decide) (by decide) h2 el_bath
 have e0 : [u0] = [vo] := e0
 have e1 : [u1] = [.int .i64 e] := e1
 have e2 : [u2] = [vb] := e2
 cases e0; cases e1; cases e2
 exact ⟨e, _, _, rfl, ⟨oo, mo, lo, ha⟩, mk, part, l, hb⟩
end
end Go.Hx

