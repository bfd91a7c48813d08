import Derived.Test.YtcejjaaoainfjaaH05
import Derived.Test.YtcejjaaoainfjaaH03
set_option linter.all false
namespace Go.Hx.V
open Go.Hx
set_option maxRecDepth 20000
set_option maxHeartbeats 4000000
variable {fl : Nat} {h0 : Tr HBlk} {n0 : Nat} {F0 : PH}
attribute [local irreducible] W R C thenH inBlockH Tr.get Tr.set lo ck bnd ix iter
theorem ct37 (N:Nat) {a0_0:(List (Int × Int))} {a0_1:Int} {a0_2:(List (Int × Int × (List (Int × Int))))} {a1:(List (Int × Int))} {r:((List (Int × Int)) × Int × (List (Int × Int × (List (Int × Int)))))} (hF:sf37 N a0_0 a0_1 a0_2 a1 = some r) (hd:D h0 n0) (hs:F0.sub h0) (hfl:fl ≤ n0) {pa0_0:Option (Nat × Nat)} {ca0_0:Nat} {pa0_2:Option (Nat × Nat)} {ca0_2:Nat} {pa1:Option (Nat × Nat)} {ca1:Nat} (ra0_0:RowF (rP rI rI) 2 F0 pa0_0 ca0_0 a0_0) (ra0_2:RowF (rP rI (rP rI (rL (rP rI rI) 2))) 3 F0 pa0_2 ca0_2 a0_2) (ra1:RowF (rP rI rI) 2 F0 pa1 ca1 a1):C LW fl 37 [(.agg [(.slice pa0_0 (a0_0).length ca0_0),(i64 a0_1),(.slice pa0_2 (a0_2).length ca0_2)]),(.slice pa1 (a1).length ca1)] ⟨h0,n0⟩ (KR (rvA (rP (rL (rP rI rI) 2) (rP rI (rL (rP rI (rP rI (rL (rP rI rI) 2))) 3)))) F0 h0 n0 r):=by
 unfold sf37 at hF
 refine jc hd hs hfl lw37 rfl rfl (by rfl) (fun st T hT=>?_)
 have t0:=hT 0 _ rfl
 have t1:=hT 1 _ rfl
 dsimp only [L37]
 refine zd (ze ?_);refine z9 st (fun b1 h2 n3 st=>?_);refine zM st (fun b4 h5 n6 st=>?_);refine zb (th_n ?_);refine zd (ze ?_);refine v_fa ?_;refine zq (st.at (i:=0) rfl).2.2 rfl ?_;refine v_fa ?_;refine zq (st.at (i:=0) rfl).2.2 rfl ?_;refine z7 (cs:=[(.slice pa0_0 (a0_0).length ca0_0),(i64 a0_1),(.slice none 0 0)]) rfl ?_;refine zM st (fun b7 h8 n9 st=>?_);refine v_st (cs':=[(.slice pa0_0 (a0_0).length ca0_0),(i64 a0_1),(.slice none 0 0)]) st 2 rfl rfl rfl rfl hfl (fun h10 st=>?_);refine zb (th_n ?_);refine zd ?_;refine zd (ze ?_);refine za ?_;refine zb ?_
 refine th_n ?_;refine zt ?_
 have st:=st.nilL 3
 have w96:LR (rP rI (rP rI (rL (rP rI rI) 2))) 3 F0 ([]:List (Int × Int × (List (Int × Int)))) []:=LR.nil
 obtain ⟨y180,hy,hF⟩:=zk hF;refine zT (sf37_L2 N a0_2 a1) (fun x98 T ds99 h nx=>∃ (F99:PH) (o100:Option Nat) (c100:Nat) (cs100:List HV),ds99 = [] ∧ PH.le F0 F99 ∧ St n0 h0 F0 F99 h nx [.bx b1 [(.slice pa0_0 (a0_0).length ca0_0),(i64 a0_1),(.slice pa0_2 (a0_2).length ca0_2)],.bx b4 [(.slice none 0 0),(i64 0),(.slice none 0 0)],.bx b7 [(.slice pa0_0 (a0_0).length ca0_0),(i64 a0_1),(slv o100 (x98.2).length c100)],.ls o100 c100 cs100 3] ∧ LR (rP rI (rP rI (rL (rP rI rI) 2))) 3 F99 x98.2 cs100 ∧ T.get 1 = some (.slice pa1 (a1).length ca1) ∧ T.get 2 = some (.ptr (some (b1,0))) ∧ T.get 4 = some (.ptr (some (b4,0))) ∧ T.get 5 = some (.ptr (some (b7,0))) ∧ T.get 6 = some (i64 x98.1)) (fun y e a σ=>e = .exit 0 ∧ a.nt = 66 ∧ ∃ (F181:PH) (o182:Option Nat) (c182:Nat) (cs182:List HV),a.defers = [] ∧ PH.le F0 F181 ∧ St n0 h0 F0 F181 σ.h σ.nx [.bx b1 [(.slice pa0_0 (a0_0).length ca0_0),(i64 a0_1),(.slice pa0_2 (a0_2).length ca0_2)],.bx b4 [(.slice none 0 0),(i64 0),(.slice none 0 0)],.bx b7 [(.slice pa0_0 (a0_0).length ca0_0),(i64 a0_1),(slv o182 (y).length c182)],.ls o182 c182 cs182 3] ∧ LR (rP rI (rP rI (rL (rP rI rI) 2))) 3 F181 y cs182 ∧ a.tmps.get 4 = some (.ptr (some (b4,0))) ∧ a.tmps.get 5 = some (.ptr (some (b7,0)))) (fun x98 T ds99 h nx s hp hF=>?_) N _ y180 _ _ _ _ hy ⟨F0,none,0,[],rfl,(PH.le.refl _),st,w96,gA,gA,gA,gA,gA⟩ (fun e a σ hne hq=>?_)
 ·obtain ⟨F99,o100,c100,cs100,rfl,le99,st,w100,t1,t2,t4,t5,t6⟩:=hp;unfold sf37_L2 at hF;unfold L37w1;refine zd ?_;refine zd (ze ?_);refine za ?_;refine v_fa ?_;refine zq (st.at (i:=0) rfl).2.2 rfl ?_;refine zZ ?_;refine z6 ?_;refine zb (th_n ?_);refine zC (fun hb183=>?_) (fun hb183=>?_)
  ·have hF:=zw hb183 hF;refine zD (th_n ?_);refine zd ?_;refine zt ?_;refine zd (ze ?_);refine v_fa ?_;refine zq (st.at (i:=0) rfl).2.2 rfl ?_;refine za ?_;obtain ⟨n184,x184,z184,l184,g184,hF⟩:=zS hF;obtain ⟨b184,o184,s184,j184,r184,e184,f184,k184,⟨_,_,rfl,rfl,⟨_,_,rfl,rfl,⟨py185,cy185,rfl,ry185⟩⟩⟩⟩:=RowF.get ra0_2 g184;refine yc e184 z184 l184 ?_;refine v_fa ?_
   refine zJ (vs:=[(i64 x184.1),(i64 x184.2.1)]) (st.sub _ _ (le99 _ _ f184)) (kL (j:=0) k184 (by decide) rfl) ?_
   refine z7 (cs:=[(i64 x184.1),(i64 x184.2.1),(.slice none 0 0)]) rfl ?_;refine zM st (fun b186 h187 n188 st=>?_);refine v_st (cs':=[(i64 x184.1),(i64 x184.2.1),(.slice none 0 0)]) st 4 rfl rfl rfl rfl hfl (fun h189 st=>?_);refine zb (th_n ?_);refine zd ?_;refine zd (ze ?_);refine za ?_;refine zb (th_n ?_);refine zt ?_
   have st:=st.nilL 2
   have w211:LR (rP rI rI) 2 F99 ([]:List (Int × Int)) []:=LR.nil
   obtain ⟨y232,hy,hF⟩:=zk hF;refine zT (sf37_L1 N a0_2 a1 x98) (fun x213 T ds214 h nx=>∃ (F214:PH) (o215:Option Nat) (c215:Nat) (cs215:List HV),ds214 = [] ∧ PH.le F99 F214 ∧ St n0 h0 F0 F214 h nx [.bx b1 [(.slice pa0_0 (a0_0).length ca0_0),(i64 a0_1),(.slice pa0_2 (a0_2).length ca0_2)],.bx b4 [(.slice none 0 0),(i64 0),(.slice none 0 0)],.bx b7 [(.slice pa0_0 (a0_0).length ca0_0),(i64 a0_1),(slv o100 (x98.2).length c100)],.ls o100 c100 cs100 3,.bx b186 [(i64 x184.1),(i64 x184.2.1),(slv o215 (x213.2).length c215)],.ls o215 c215 cs215 2] ∧ LR (rP rI rI) 2 F214 x213.2 cs215 ∧ T.get 1 = some (.slice pa1 (a1).length ca1) ∧ T.get 2 = some (.ptr (some (b1,0))) ∧ T.get 4 = some (.ptr (some (b4,0))) ∧ T.get 5 = some (.ptr (some (b7,0))) ∧ T.get 6 = some (i64 x98.1) ∧ T.get 7 = some (.ptr (some (b186,0))) ∧ T.get 8 = some (i64 x213.1)) (fun y e a σ=>e = .exit 2 ∧ a.nt = 66 ∧ ∃ (F233:PH) (o234:Option Nat) (c234:Nat) (cs234:List HV),a.defers = [] ∧ PH.le F99 F233 ∧ St n0 h0 F0 F233 σ.h σ.nx [.bx b1 [(.slice pa0_0 (a0_0).length ca0_0),(i64 a0_1),(.slice pa0_2 (a0_2).length ca0_2)],.bx b4 [(.slice none 0 0),(i64 0),(.slice none 0 0)],.bx b7 [(.slice pa0_0 (a0_0).length ca0_0),(i64 a0_1),(slv o100 (x98.2).length c100)],.ls o100 c100 cs100 3,.bx b186 [(i64 x184.1),(i64 x184.2.1),(slv o234 (y).length c234)],.ls o234 c234 cs234 2] ∧ LR (rP rI rI) 2 F233 y cs234 ∧ a.tmps.get 1 = some (.slice pa1 (a1).length ca1) ∧ a.tmps.get 2 = some (.ptr (some (b1,0))) ∧ a.tmps.get 4 = some (.ptr (some (b4,0))) ∧ a.tmps.get 5 = some (.ptr (some (b7,0))) ∧ a.tmps.get 6 = some (i64 x98.1) ∧ a.tmps.get 7 = some (.ptr (some (b186,0)))) (fun x213 T ds214 h nx s hp hF=>?_) N _ y232 _ _ _ _ hy ⟨F99,none,0,[],rfl,(PH.le.refl _),st,w211,gA,gA,gA,gA,gA,gA,gA⟩ (fun e a σ hne hq=>?_)
   ·obtain ⟨F214,o215,c215,cs215,rfl,le214,st,w215,t1,t2,t4,t5,t6,t7,t8⟩:=hp
    have le216:=PH.le.trans le99 le214
    unfold sf37_L1 at hF;unfold L37w0;refine zd ?_;refine zd (ze ?_);refine za ?_;refine v_fa ?_;refine zq (st.at (i:=0) rfl).2.2 rfl ?_;refine za ?_;obtain ⟨n235,x235,z235,l235,g235,hF⟩:=zS hF;obtain ⟨b235,o235,s235,j235,r235,e235,f235,k235,⟨_,_,rfl,rfl,⟨_,_,rfl,rfl,⟨py236,cy236,rfl,ry236⟩⟩⟩⟩:=RowF.get ra0_2 g235;refine yc e235 z235 l235 ?_;refine v_fa ?_;refine zq (st.sub _ _ (le216 _ _ f235)) (yp (j:=2) k235 rfl) ?_;refine zZ ?_;refine z6 ?_;refine zb (th_n ?_);refine zC (fun hb237=>?_) (fun hb237=>?_)
    ·have hF:=zw hb237 hF;refine zD (th_n ?_);refine zd ?_;refine zt ?_;refine zd (ze ?_);refine za ?_;refine za ?_;refine za ?_;refine z7 (cs:=[(i64 x98.1),(i64 x213.1)]) rfl ?_;obtain ⟨v238,e239,hF⟩:=zk hF;refine zU st (ct84 N e239 st.d st.sub (RowF.mono le216 ra1)) (fun n240 st=>?_);refine yE ?_;refine zb (th_n ?_);refine zC (fun hb241=>?_) (fun hb241=>?_)
     ·have hF:=zw hb241 hF;refine yn (Nat.le_trans hfl st.ext.le) (fun dw=>?_);refine zG st.d dw (fun hm vw=>v_fa zF) ?_;refine zG st.d dw (fun hm vw=>zq (vw.bx (st.at (i:=4) rfl)) rfl zF) ?_;refine zG st.d dw (fun hm vw=>v_fa zF) ?_;refine zG st.d dw (fun hm vw=>zq (vw.bx (st.at (i:=0) rfl)) rfl zF) ?_;refine zG st.d dw (fun hm vw=>za zF) ?_;obtain ⟨n242,x242,z242,l242,g242,hF⟩:=zS hF;obtain ⟨b242,o242,s242,j242,r242,e242,f242,k242,⟨_,_,rfl,rfl,⟨_,_,rfl,rfl,⟨py243,cy243,rfl,ry243⟩⟩⟩⟩:=RowF.get ra0_2 g242;refine zG st.d dw (fun hm vw=>yc e242 z242 l242 zF) ?_
      refine zG st.d dw (fun hm vw=>v_fa zF) ?_;refine zG st.d dw (fun hm vw=>zq (vw.fz st (le216 _ _ f242)) (yp (j:=2) k242 rfl) zF) ?_;refine zG st.d dw (fun hm vw=>za zF) ?_;obtain ⟨n244,x244,z244,l244,g244,hF⟩:=zS hF;obtain ⟨b244,o244,s244,j244,r244,e244,f244,k244,⟨_,_,rfl,rfl,rfl⟩⟩:=RowF.get ry243 g244;refine zG st.d dw (fun hm vw=>yc e244 z244 l244 zF) ?_;refine zG st.d dw (fun hm vw=>zJ (vw.fz st (le216 _ _ f244)) k244 zF) ?_;refine Yd st.d dw (fun hm vw=>u_bs (cs:=[(i64 x244.1),(i64 x244.2)]) rfl zF) (fun done dw=>?_);refine vk st.d dw rfl (fun h245 ex vs=>?_)
      have st:=St.laid st ex (Lay.cons (b:=n240) (cs:=[(i64 x244.1),(i64 x244.2)]) (by have:=dw.le;omega) (vs _ (List.mem_cons_self ..) _ _ (if_pos rfl)) (Lay.nil (by have:=dw.le;omega)))
      obtain ⟨q246,hF⟩:=zn hF
      have w246:LR (rP rI rI) 2 F214 (x213.2 ++ [(x244.1,x244.2)]) (cs215 ++ [(i64 x244.1),(i64 x244.2)]):=LR.app w215 (LR.one (⟨[(i64 x244.1)],_,rfl,rfl,rfl⟩))
      refine uv (n:=1) (ox:=0) (m:=(x213.2 ++ [(x244.1,x244.2)]).length) (row:=[(i64 x244.1),(i64 x244.2)]) st 5 rfl w215.1 (st.at (i:=6) rfl).2.2 rfl rfl q246 hfl (by decide) (by decide) (by simp) (fun o246 c246 h246 n246 st=>?_)
      refine v_fa ?_;refine v_st (cs':=[(i64 x184.1),(i64 x184.2.1),(slv o246 ((x213.2 ++ [(x244.1,x244.2)])).length c246)]) st 4 rfl rfl rfl rfl hfl (fun h247 st=>?_);refine zb ?_;refine ib_n ?_;refine th_n ?_;refine ze ?_;refine za ?_;obtain ⟨q248,hF⟩:=zn hF;refine zX q248 ?_;refine za ?_;refine zb ?_;refine thn ⟨_,(inj hF).symm,rfl,?_⟩;dsimp only
      exact ⟨F214,o246,c246,(cs215 ++ [(i64 x244.1),(i64 x244.2)]),rfl,le214,(st.drop (by first | exact List.Sublist.refl _ | (repeat first | exact List.nil_sublist _ | refine List.Sublist.cons_cons _ ?_ | refine List.Sublist.cons _ ?_))),w246,gA,gA,gA,gA,gA,gA,gA⟩
     ·have hF:=zx hb241 hF;refine zD ?_;refine ib_n ?_;refine th_n ?_;refine ze ?_;refine za ?_;obtain ⟨q249,hF⟩:=zn hF;refine zX q249 ?_;refine za ?_;refine zb ?_;refine thn ⟨_,(inj hF).symm,rfl,?_⟩;dsimp only
      exact ⟨F214,o215,c215,cs215,rfl,le214,st,w215,gA,gA,gA,gA,gA,gA,gA⟩
    ·have hF:=zx hb237 hF;refine z5 ?_;refine th_e ?_;refine th_e ?_;refine ⟨_,(inj hF).symm,rfl,rfl,?_⟩;dsimp only
     exact ⟨F214,o215,c215,cs215,rfl,le214,st,w215,gA,gA,gA,gA,gA,gA⟩
   ·obtain ⟨N9,T,ds233⟩:=a;obtain ⟨h251,n252⟩:=σ;obtain ⟨rfl,e1,F233,o234,c234,cs234,e2,le233,st,w234,t1,t2,t4,t5,t6,t7⟩:=hq
    dsimp only at e1 e2
    subst e1
    subst e2
    dsimp only at st t1 t2 t4 t5 t6 t7
    have le250:=PH.le.trans le99 le233
    refine ib_e ?_;refine th_n ?_;refine ze ?_;refine v_fa ?_;refine zq (st.at (i:=2) rfl).2.2 rfl ?_;refine zJ (vs:=[(i64 x184.1),(i64 x184.2.1),(slv o234 (y232).length c234)]) (st.at (i:=4) rfl).2.2 rfl ?_;refine v_bs (cs:=[(i64 x184.1),(i64 x184.2.1),(slv o234 (y232).length c234)]) st rfl (fun b253 h254 n255 st=>?_)
    obtain ⟨F256,le256,st,rf256⟩:=St.freeze st 5 rfl w234 (by decide)
    have le257:=PH.le.trans le250 le256
    have le258:=PH.le.trans le233 le256
    obtain ⟨q259,hF⟩:=zn hF
    have w259:LR (rP rI (rP rI (rL (rP rI rI) 2))) 3 F256 (x98.2 ++ [(x184.1,x184.2.1,y232)]) (cs100 ++ [(i64 x184.1),(i64 x184.2.1),(.slice (o234.map fun b=>(b,0)) (y232).length c234)]):=LR.app (LR.mono le258 w100) (LR.one (⟨[(i64 x184.1)],_,rfl,rfl,⟨[(i64 x184.2.1)],_,rfl,rfl,⟨_,_,rfl,rf256⟩⟩⟩))
    refine uv (n:=1) (ox:=0) (m:=(x98.2 ++ [(x184.1,x184.2.1,y232)]).length) (row:=[(i64 x184.1),(i64 x184.2.1),(.slice (o234.map fun b=>(b,0)) (y232).length c234)]) st 3 rfl (LR.mono le258 w100).1 (st.at (i:=5) rfl).2.2 rfl rfl q259 hfl (by decide) (by decide) (by simp) (fun o259 c259 h259 n259 st=>?_)
    refine v_fa ?_;refine v_st (cs':=[(.slice pa0_0 (a0_0).length ca0_0),(i64 a0_1),(slv o259 ((x98.2 ++ [(x184.1,x184.2.1,y232)])).length c259)]) st 2 rfl rfl rfl rfl hfl (fun h260 st=>?_);refine zb ?_;refine ib_n ?_;refine th_n ?_;refine ze ?_;refine za ?_;obtain ⟨q261,hF⟩:=zn hF;refine zX q261 ?_;refine za ?_;refine zb ?_;refine thn ⟨_,(inj hF).symm,rfl,?_⟩;dsimp only
    exact ⟨F256,o259,c259,(cs100 ++ [(i64 x184.1),(i64 x184.2.1),(.slice (o234.map fun b=>(b,0)) (y232).length c234)]),rfl,le257,(st.drop (by first | exact List.Sublist.refl _ | (repeat first | exact List.nil_sublist _ | refine List.Sublist.cons_cons _ ?_ | refine List.Sublist.cons _ ?_))),w259,gA,gA,gA,gA,gA⟩
  ·have hF:=zx hb183 hF;refine z5 ?_;refine th_e ?_;refine th_e ?_;refine ⟨_,(inj hF).symm,rfl,rfl,?_⟩;dsimp only
   exact ⟨F99,o100,c100,cs100,rfl,le99,st,w100,gA,gA⟩
 ·obtain ⟨N9,T,ds181⟩:=a;obtain ⟨h262,n263⟩:=σ;obtain ⟨rfl,e1,F181,o182,c182,cs182,e2,le181,st,w182,t4,t5⟩:=hq
  dsimp only at e1 e2
  subst e1
  subst e2
  dsimp only at st t4 t5
  refine ib_e ?_;refine th_n ?_;refine zd (ze ?_);refine zJ (vs:=[(.slice pa0_0 (a0_0).length ca0_0),(i64 a0_1),(slv o182 (y180).length c182)]) (st.at (i:=2) rfl).2.2 rfl ?_;refine v_st (cs':=[(.slice pa0_0 (a0_0).length ca0_0),(i64 a0_1),(slv o182 (y180).length c182)]) st 1 rfl rfl rfl rfl hfl (fun h264 st=>?_);refine zb (th_n ?_);refine zy ?_;obtain rfl:=inj hF
  obtain ⟨F265,le265,st,rf265⟩:=St.freeze st 3 rfl w182 (by decide)
  have le266:=PH.le.trans le181 le265
  exact vK st (Res.c gA (st.at (i:=1) rfl).2.2 (show takeN _ _ = some [(.slice pa0_0 (a0_0).length ca0_0),(i64 a0_1),(.slice (o182.map fun b=>(b,0)) (y180).length c182)] from rfl) Res.nil) ⟨_,rfl,⟨[(.slice pa0_0 (a0_0).length ca0_0)],_,rfl,⟨_,_,rfl,(RowF.mono le266 ra0_0)⟩,⟨[(i64 a0_1)],_,rfl,rfl,⟨_,_,rfl,rf265⟩⟩⟩⟩
end Go.Hx.V

namespace Go.Hx.V
open Go.Hx
set_option maxRecDepth 20000
set_option maxHeartbeats 4000000
variable {fl : Nat} {h0 : Tr HBlk} {n0 : Nat} {F0 : PH}
attribute [local irreducible] W R C thenH inBlockH Tr.get Tr.set lo ck bnd ix iter
theorem ct80 (N:Nat) {a0_0:(List (Int × Int))} {a0_1:Int} {a0_2:(List (Int × Int × (List (Int × Int))))} {r:((List (Int × Int)) × Int × (List (Int × Int × (List (Int × Int)))) × Int × (Nat → Int) × Bool)} (hF:sf80 N a0_0 a0_1 a0_2 = some r) (hd:D h0 n0) (hs:F0.sub h0) (hfl:fl ≤ n0) {pa0_0:Option (Nat × Nat)} {ca0_0:Nat} {pa0_2:Option (Nat × Nat)} {ca0_2:Nat} (ra0_0:RowF (rP rI rI) 2 F0 pa0_0 ca0_0 a0_0) (ra0_2:RowF (rP rI (rP rI (rL (rP rI rI) 2))) 3 F0 pa0_2 ca0_2 a0_2):C LW fl 80 [(.agg [(.slice pa0_0 (a0_0).length ca0_0),(i64 a0_1),(.slice pa0_2 (a0_2).length ca0_2)]),(.func 81 [] [])] ⟨h0,n0⟩ (KR (rvT2A (rqC (rL (rP rI rI) 2) (rqC rI (rqC (rL (rP rI (rP rI (rL (rP rI rI) 2))) 3) (rqC rI (rqL (rF .i64 169) lvB)))))) F0 h0 n0 r):=by
 unfold sf80 at hF
 refine jc hd hs hfl lw80 rfl rfl (by rfl) (fun st T hT=>?_)
 have t0:=hT 0 _ rfl
 have t1:=hT 1 _ rfl
 dsimp only [L80]
 have st:=st.mk0
 refine zd (ze ?_);refine z9 st (fun b1 h2 n3 st=>?_);refine z9 st (fun b4 h5 n6 st=>?_);refine zM st (fun b7 h8 n9 st=>?_)
 have st:=st.cells 3 rfl ([(.slice none 0 0),(i64 0),(.slice none 0 0),(i64 0)] ++ (eI .i64 169 (fun _=>0))) rfl
 refine zM st (fun b10 h11 n12 st=>?_);refine zb (th_n ?_);refine zd (ze ?_);refine zJ (vs:=[(.slice pa0_0 (a0_0).length ca0_0),(i64 a0_1),(.slice pa0_2 (a0_2).length ca0_2)]) (st.at (i:=1) rfl).2.2 rfl ?_;obtain ⟨v13,e14,hF⟩:=zk hF;refine yo st (ct107 N e14 st.d st.sub (Nat.le_trans hfl st.ext.le) ra0_0 ra0_2) (fun u15 F15 h15 n15 le15 rv15 st=>?_);obtain ⟨_,rfl,⟨_,_,rfl,⟨py16,cy16,rfl,ry16⟩,⟨_,_,rfl,rfl,⟨_,_,rfl,⟨py17,cy17,rfl,ry17⟩,⟨_,_,rfl,rfl,rfl⟩⟩⟩⟩⟩:=rv15;refine zM st (fun b18 h19 n20 st=>?_)
 have st:=st.cells 5 rfl ([(.slice none 0 0),(i64 0),(.slice none 0 0),(i64 0)] ++ (eI .i64 169 (fun _=>0))) rfl
 refine v_st (v:=(.agg ([(.slice py16 (v13.1).length cy16),(i64 v13.2.1),(.slice py17 (v13.2.2.1).length cy17),(i64 v13.2.2.2.1)] ++ (eI .i64 169 v13.2.2.2.2)))) (cs':=([(.slice py16 (v13.1).length cy16),(i64 v13.2.1),(.slice py17 (v13.2.2.1).length cy17),(i64 v13.2.2.2.1)] ++ (eI .i64 169 v13.2.2.2.2))) st 5 rfl (yy [] rfl (by simp [HV.cells,zR,yW])) (ym _ zR (by rfl)) (yl _ (by rfl) yV) hfl (fun h21 st=>?_)
 refine zb (th_n ?_);refine zd ?_;refine zd (ze ?_);refine zJ (vs:=[(.slice pa0_0 (a0_0).length ca0_0),(i64 a0_1),(.slice pa0_2 (a0_2).length ca0_2)]) (st.at (i:=1) rfl).2.2 rfl ?_;refine Yf lw71 rfl rfl (fun T hT=>?_)
 have t0:=hT 0 _ rfl
 dsimp only [L71]
 refine zd (ze ?_);refine z9 st (fun b23 h24 n25 st=>?_);refine za ?_;refine zb (th_n ?_);refine zd (ze ?_);refine v_mf ?_;refine za ?_;refine zb (th_n ?_);refine zy ?_;refine vp (v:=(.func 103 [] [(.ptr (some (b23,0)))])) (Res.t gA Res.nil) rfl (.inl rfl) (ik ?_);refine zb (th_n ?_);refine zt ?_;refine w_rangeV st 0 rfl hfl lw103 rfl rfl (fun l=>rfl) (fun m26 l26 r26 T h26 n26 rs26 rp26 rn26 rT26 ro26 ra26 rb26 st hT=>?_);obtain ⟨T26,rt26⟩:∃ X,X = r26.tmps:=⟨_,rfl⟩
 have u26_3:T26.get 3 = some (.ptr (some (b4,0))):=by rw [rt26,rT26];repeat first | exact ge_h | refine ge_w rfl ?_ | refine ge_f rfl ?_ | refine ge_m rfl ?_ | assumption
 have u26_4:T26.get 4 = some (.ptr (some (b7,0))):=by rw [rt26,rT26];repeat first | exact ge_h | refine ge_w rfl ?_ | refine ge_f rfl ?_ | refine ge_m rfl ?_ | assumption
 have u26_5:T26.get 5 = some (.ptr (some (b10,0))):=by rw [rt26,rT26];repeat first | exact ge_h | refine ge_w rfl ?_ | refine ge_f rfl ?_ | refine ge_m rfl ?_ | assumption
 have u26_6:T26.get 6 = some (.ptr (some (b18,0))):=by rw [rt26,rT26];repeat first | exact ge_h | refine ge_w rfl ?_ | refine ge_f rfl ?_ | refine ge_m rfl ?_ | assumption
 have t0:=hT 0 _ rfl
 have t1:=hT 1 _ rfl
 dsimp only [L103]
 refine zd (ze ?_);refine v_fa ?_;refine zq (st.at (i:=6) rfl).2.2 rfl ?_;refine zZ ?_;refine za ?_;refine zb (th_n ?_);refine zt ?_;obtain ⟨y6033,hy,hF⟩:=zk hF;refine zT (sf80_L6 N a0_2 v13) (fun x3032 T ds3033 h nx=>∃ (F3033:PH),ds3033 = [] ∧ PH.le F15 F3033 ∧ St n0 h0 F0 F3033 h nx [.mks (m26 :: []),.bx b1 [(.slice pa0_0 (a0_0).length ca0_0),(i64 a0_1),(.slice pa0_2 (a0_2).length ca0_2)],.bx b4 [(.func 81 [] [])],.bx b7 ([(.slice none 0 0),(i64 0),(.slice none 0 0),(i64 0)] ++ (eI .i64 169 (fun _=>0))),.bx b10 [(.bool false)],.bx b18 ([(.slice py16 (v13.1).length cy16),(i64 v13.2.1),(.slice py17 (v13.2.2.1).length cy17),(i64 v13.2.2.2.1)] ++ (eI .i64 169 x3032.2)),.bx b23 [(.slice pa0_0 (a0_0).length ca0_0),(i64 a0_1),(.slice pa0_2 (a0_2).length ca0_2)],.any l26 (.loop r26)] ∧ T.get 0 = some (.yield l26) ∧ T.get 8 = some (.slice pa0_2 (a0_2).length ca0_2) ∧ T.get 9 = some (i64 ((a0_2).length:Int)) ∧ T.get 10 = some (i64 x3032.1)) (fun y e a σ=>(∃ u,y = (.inl u) ∧ e = .ret ∧ a.nt = 32 ∧ ∃ (F6035:PH),a.defers = [] ∧ PH.le F15 F6035 ∧ St n0 h0 F0 F6035 σ.h σ.nx [.mks (m26 :: []),.bx b1 [(.slice pa0_0 (a0_0).length ca0_0),(i64 a0_1),(.slice pa0_2 (a0_2).length ca0_2)],.bx b4 [(.func 81 [] [])],.bx b7 ([(.slice none 0 0),(i64 0),(.slice none 0 0),(i64 0)] ++ (eI .i64 169 (fun _=>0))),.bx b10 [(.bool false)],.bx b18 ([(.slice py16 (v13.1).length cy16),(i64 v13.2.1),(.slice py17 (v13.2.2.1).length cy17),(i64 v13.2.2.2.1)] ++ (eI .i64 169 u)),.bx b23 [(.slice pa0_0 (a0_0).length ca0_0),(i64 a0_1),(.slice pa0_2 (a0_2).length ca0_2)],.any l26 (.loop { r26 with state:=.done,pending:=.ret })]) ∨ (∃ u,y = (.inr u) ∧ e = .exit 0 ∧ a.nt = 32 ∧ ∃ (F6037:PH),a.defers = [] ∧ PH.le F15 F6037 ∧ St n0 h0 F0 F6037 σ.h σ.nx [.mks (m26 :: []),.bx b1 [(.slice pa0_0 (a0_0).length ca0_0),(i64 a0_1),(.slice pa0_2 (a0_2).length ca0_2)],.bx b4 [(.func 81 [] [])],.bx b7 ([(.slice none 0 0),(i64 0),(.slice none 0 0),(i64 0)] ++ (eI .i64 169 (fun _=>0))),.bx b10 [(.bool false)],.bx b18 ([(.slice py16 (v13.1).length cy16),(i64 v13.2.1),(.slice py17 (v13.2.2.1).length cy17),(i64 v13.2.2.2.1)] ++ (eI .i64 169 u)),.bx b23 [(.slice pa0_0 (a0_0).length ca0_0),(i64 a0_1),(.slice pa0_2 (a0_2).length ca0_2)],.any l26 (.loop r26)])) (fun x3032 T ds3033 h nx s hp hF=>?_) N _ y6033 _ _ _ _ hy ⟨F15,rfl,(PH.le.refl _),st,gA,gA,gA,gA⟩ (fun e a σ hne hq=>?_)
 ·obtain ⟨F3033,rfl,le3033,st,t0,t8,t9,t10⟩:=hp
  have le3034:=PH.le.trans le15 le3033
  unfold sf80_L6 at hF;unfold L103w1;refine zd (ze ?_);refine z6 ?_;refine zb (th_n ?_);refine zd ?_;refine zC (fun hb6038=>?_) (fun hb6038=>?_)
  ·have hF:=zw hb6038 hF;refine zD (th_n ?_);refine zd ?_;refine zt ?_;refine zd (ze ?_);refine za ?_;obtain ⟨n6039,x6039,z6039,l6039,g6039,hF⟩:=zS hF;obtain ⟨b6039,o6039,s6039,j6039,r6039,e6039,f6039,k6039,⟨_,_,rfl,rfl,⟨_,_,rfl,rfl,⟨py6040,cy6040,rfl,ry6040⟩⟩⟩⟩:=RowF.get ra0_2 g6039;refine yc e6039 z6039 l6039 ?_;refine zJ (st.sub _ _ (le3034 _ _ f6039)) k6039 ?_;refine zM st (fun b6041 h6042 n6043 st=>?_);refine za ?_;refine v_st (cs':=[(i64 x6039.1),(i64 x6039.2.1),(.slice py6040 (x6039.2.2).length cy6040)]) st 8 rfl rfl rfl rfl hfl (fun h6044 st=>?_);refine zb ?_;refine th_n ?_
   refine zd (ze ?_);refine v_fa ?_;refine zq (st.at (i:=8) rfl).2.2 rfl ?_;refine zZ ?_;refine za ?_;refine zb (th_n ?_);refine zt ?_;obtain ⟨y8035,hy,hF⟩:=zk hF;refine zT (sf80_L5 N v13 x3032 x6039) (fun x7044 T ds7045 h nx=>∃ (F7045:PH),ds7045 = [] ∧ PH.le F3033 F7045 ∧ St n0 h0 F0 F7045 h nx [.mks (m26 :: []),.bx b1 [(.slice pa0_0 (a0_0).length ca0_0),(i64 a0_1),(.slice pa0_2 (a0_2).length ca0_2)],.bx b4 [(.func 81 [] [])],.bx b7 ([(.slice none 0 0),(i64 0),(.slice none 0 0),(i64 0)] ++ (eI .i64 169 (fun _=>0))),.bx b10 [(.bool false)],.bx b18 ([(.slice py16 (v13.1).length cy16),(i64 v13.2.1),(.slice py17 (v13.2.2.1).length cy17),(i64 v13.2.2.2.1)] ++ (eI .i64 169 x7044.2)),.bx b23 [(.slice pa0_0 (a0_0).length ca0_0),(i64 a0_1),(.slice pa0_2 (a0_2).length ca0_2)],.any l26 (.loop r26),.bx b6041 [(i64 x6039.1),(i64 x6039.2.1),(.slice py6040 (x6039.2.2).length cy6040)]] ∧ T.get 0 = some (.yield l26) ∧ T.get 3 = some (i64 x3032.1) ∧ T.get 8 = some (.slice pa0_2 (a0_2).length ca0_2) ∧ T.get 9 = some (i64 ((a0_2).length:Int)) ∧ T.get 10 = some (i64 x3032.1) ∧ T.get 16 = some (.slice py6040 (x6039.2.2).length cy6040) ∧ T.get 17 = some (i64 ((x6039.2.2).length:Int)) ∧ T.get 18 = some (i64 x7044.1)) (fun y e a σ=>(∃ u,y = (.inl u) ∧ e = .ret ∧ a.nt = 32 ∧ ∃ (F8037:PH),a.defers = [] ∧ PH.le F3033 F8037 ∧ St n0 h0 F0 F8037 σ.h σ.nx [.mks (m26 :: []),.bx b1 [(.slice pa0_0 (a0_0).length ca0_0),(i64 a0_1),(.slice pa0_2 (a0_2).length ca0_2)],.bx b4 [(.func 81 [] [])],.bx b7 ([(.slice none 0 0),(i64 0),(.slice none 0 0),(i64 0)] ++ (eI .i64 169 (fun _=>0))),.bx b10 [(.bool false)],.bx b18 ([(.slice py16 (v13.1).length cy16),(i64 v13.2.1),(.slice py17 (v13.2.2.1).length cy17),(i64 v13.2.2.2.1)] ++ (eI .i64 169 u)),.bx b23 [(.slice pa0_0 (a0_0).length ca0_0),(i64 a0_1),(.slice pa0_2 (a0_2).length ca0_2)],.any l26 (.loop { r26 with state:=.done,pending:=.ret }),.bx b6041 [(i64 x6039.1),(i64 x6039.2.1),(.slice py6040 (x6039.2.2).length cy6040)]]) ∨ (∃ u,y = (.inr u) ∧ e = .exit 2 ∧ a.nt = 32 ∧ ∃ (F8039:PH),a.defers = [] ∧ PH.le F3033 F8039 ∧ St n0 h0 F0 F8039 σ.h σ.nx [.mks (m26 :: []),.bx b1 [(.slice pa0_0 (a0_0).length ca0_0),(i64 a0_1),(.slice pa0_2 (a0_2).length ca0_2)],.bx b4 [(.func 81 [] [])],.bx b7 ([(.slice none 0 0),(i64 0),(.slice none 0 0),(i64 0)] ++ (eI .i64 169 (fun _=>0))),.bx b10 [(.bool false)],.bx b18 ([(.slice py16 (v13.1).length cy16),(i64 v13.2.1),(.slice py17 (v13.2.2.1).length cy17),(i64 v13.2.2.2.1)] ++ (eI .i64 169 u)),.bx b23 [(.slice pa0_0 (a0_0).length ca0_0),(i64 a0_1),(.slice pa0_2 (a0_2).length ca0_2)],.any l26 (.loop r26),.bx b6041 [(i64 x6039.1),(i64 x6039.2.1),(.slice py6040 (x6039.2.2).length cy6040)]] ∧ a.tmps.get 0 = some (.yield l26) ∧ a.tmps.get 8 = some (.slice pa0_2 (a0_2).length ca0_2) ∧ a.tmps.get 9 = some (i64 ((a0_2).length:Int)) ∧ a.tmps.get 10 = some (i64 x3032.1))) (fun x7044 T ds7045 h nx s hp hF=>?_) N _ y8035 _ _ _ _ hy ⟨F3033,rfl,(PH.le.refl _),st,gA,gA,gA,gA,gA,gA,gA,gA⟩ (fun e a σ hne hq=>?_)
   ·obtain ⟨F7045,rfl,le7045,st,t0,t3,t8,t9,t10,t16,t17,t18⟩:=hp
    have le7046:=PH.le.trans le3034 le7045
    have le7047:=PH.le.trans le3033 le7045
    unfold sf80_L5 at hF;unfold L103w0;refine zd (ze ?_);refine z6 ?_;refine zb (th_n ?_);refine zd ?_;refine zC (fun hb8040=>?_) (fun hb8040=>?_)
    ·have hF:=zw hb8040 hF;refine zD (th_n ?_);refine zd ?_;refine zt ?_;refine zd (ze ?_);refine za ?_;obtain ⟨n8041,x8041,z8041,l8041,g8041,hF⟩:=zS hF;obtain ⟨b8041,o8041,s8041,j8041,r8041,e8041,f8041,k8041,⟨_,_,rfl,rfl,rfl⟩⟩:=RowF.get ry6040 g8041;refine yc e8041 z8041 l8041 ?_;refine zJ (st.sub _ _ (le7046 _ _ f8041)) k8041 ?_;refine zM st (fun b8042 h8043 n8044 st=>?_);refine za ?_;refine v_st (cs':=[(i64 x8041.1),(i64 x8041.2)]) st 9 rfl rfl rfl rfl hfl (fun h8045 st=>?_);refine zb (th_n ?_);refine zd (ze ?_);refine za ?_;refine za ?_;refine za ?_
     refine z7 (cs:=[(i64 x3032.1),(i64 x7044.1)]) rfl ?_;refine zJ (vs:=[(i64 x8041.1),(i64 x8041.2)]) (st.at (i:=9) rfl).2.2 rfl ?_;refine v_yield (Tc:=T26) (tmps:=((T26.set 13 (some (.agg [(i64 x3032.1),(i64 x7044.1)]))).set 14 (some (.agg [(i64 x8041.1),(i64 x8041.2)])))) st 7 rfl rn26 rt26.symm ro26 ra26 rb26 (fun hz=>?_) rfl;refine zd (ze ?_);refine zM st (fun b8046 h8047 n8048 st=>?_);refine v_st (cs':=[(i64 x3032.1),(i64 x7044.1)]) st 10 rfl rfl rfl rfl hfl (fun h8049 st=>?_);refine zb (th_n ?_);refine ze ?_;refine zM st (fun b8050 h8051 n8052 st=>?_);refine v_st (cs':=[(i64 x8041.1),(i64 x8041.2)]) st 11 rfl rfl rfl rfl hfl (fun h8053 st=>?_)
     refine zb ?_;refine ya_n st 7 rfl rs26 hfl (fun h st=>?_);refine zt ?_;obtain ⟨y8534,hA8535,hF⟩:=zk hF;refine yJ (fun T ds8537 h nx=>∃ (F8537:PH),ds8537 = [] ∧ PH.le F7045 F8537 ∧ St n0 h0 F0 F8537 h nx [.mks (m26 :: []),.bx b1 [(.slice pa0_0 (a0_0).length ca0_0),(i64 a0_1),(.slice pa0_2 (a0_2).length ca0_2)],.bx b4 [(.func 81 [] [])],.bx b7 ([(.slice none 0 0),(i64 0),(.slice none 0 0),(i64 0)] ++ (eI .i64 169 (fun _=>0))),.bx b10 [(.bool false)],.bx b18 ([(.slice py16 (v13.1).length cy16),(i64 v13.2.1),(.slice py17 (v13.2.2.1).length cy17),(i64 v13.2.2.2.1)] ++ (eI .i64 169 y8534.2)),.bx b23 [(.slice pa0_0 (a0_0).length ca0_0),(i64 a0_1),(.slice pa0_2 (a0_2).length ca0_2)],.any l26 (.loop { r26 with state:=.busy }),.bx b6041 [(i64 x6039.1),(i64 x6039.2.1),(.slice py6040 (x6039.2.2).length cy6040)],.bx b8042 [(i64 x8041.1),(i64 x8041.2)],.bx b8046 [(i64 x3032.1),(i64 x7044.1)],.bx b8050 [(i64 x8041.1),(i64 x8041.2)]] ∧ T.get 4 = some (.ptr (some (b7,0))) ∧ T.get 5 = some (.ptr (some (b10,0))) ∧ T.get 24 = some (.bool y8534.1)) ?_ (fun T ds8537 h nx hp=>?_)
     ·have hK8536:=hF
      have hF:=hA8535;refine ze ?_;refine zq (st.at (i:=2) rfl).2.2 rfl ?_;refine zJ (vs:=[(i64 x8041.1),(i64 x8041.2)]) (st.at (i:=11) rfl).2.2 rfl ?_;obtain ⟨v8538,e8539,hF⟩:=zk hF;refine zU st (ct81 N e8539 st.d st.sub ) (fun n8540 st=>?_);refine za ?_
      rcases Bool.eq_false_or_eq_true v8538 with hb8541 | hb8541
      ·have hF:=zw hb8541 hF;refine zj hb8541 (v_fa ?_);refine zj hb8541 (zq (st.at (i:=10) rfl).2.2 rfl ?_);refine zj hb8541 (zJ (vs:=[(i64 x8041.1),(i64 x8041.2)]) (st.at (i:=11) rfl).2.2 rfl ?_);refine zj hb8541 (Yf lw108 rfl rfl (fun T hT=>?_))
       have t0:=hT 0 _ rfl
       have t1:=hT 1 _ rfl
       have t2:=hT 2 _ rfl
       dsimp only [L108]
       refine zd (ze ?_);refine z9 st (fun b8543 h8544 n8545 st=>?_);refine za ?_;refine zb (th_n ?_);refine zd ?_;refine yn (Nat.le_trans hfl st.ext.le) (fun dw=>?_);refine zG st.d dw (fun hm vw=>za zF) ?_;refine zG st.d dw (fun hm vw=>v_nc zF) ?_;refine zG st.d dw (fun hm vw=>v_fa zF) ?_;refine zG st.d dw (fun hm vw=>zJ (vs:=[(.slice py16 (v13.1).length cy16),(i64 v13.2.1),(.slice py17 (v13.2.2.1).length cy17)]) (vw.bx (st.at (i:=5) rfl)) rfl zF) ?_;refine zG st.d dw (fun hm vw=>za zF) ?_;obtain ⟨v8546,e8547,hF⟩:=zk hF;refine vL st.d dw (fun hm vw=>uN (ct106 N e8547 vw.d (vw.sub st) (RowF.mono le7047 ry16) (RowF.mono le7047 ry17)) (fun n' hn'=>vR hn')) (fun n8548 hn' dw=>?_)
       refine zG st.d dw (fun hm vw=>za zF) ?_;refine zG st.d dw (fun hm vw=>v_nc zF) ?_;refine zG st.d dw (fun hm vw=>v_fa zF) ?_;refine zG st.d dw (fun hm vw=>zJ (vs:=[(.slice py16 (v13.1).length cy16),(i64 v13.2.1),(.slice py17 (v13.2.2.1).length cy17)]) (vw.bx (st.at (i:=5) rfl)) rfl zF) ?_;refine zG st.d dw (fun hm vw=>v_fa zF) ?_;refine zG st.d dw (fun hm vw=>zq (vw.bx (st.at (i:=12) rfl)) rfl zF) ?_;refine vk st.d dw rfl (fun h8549 ex vs=>?_)
       have st:=st.ext1 ex
       obtain ⟨v8550,e8551,hF⟩:=zk hF;refine zU st (ct105 N e8551 st.d st.sub (RowF.mono le7047 ry16) (RowF.mono le7047 ry17)) (fun n8552 st=>?_);refine za ?_;refine za ?_;refine zb (th_n ?_);refine zd ?_;refine yn (Nat.le_trans hfl st.ext.le) (fun dw=>?_);refine vk st.d dw rfl (fun h8553 ex vs=>?_)
       have st:=st.ext1 ex
       refine za ?_;refine v_nc ?_;refine v_fa ?_;refine za ?_;refine za ?_;refine v_fa ?_;refine zq (st.at (i:=12) rfl).2.2 rfl ?_;refine za ?_;refine v_nc ?_;refine v_fa ?_;refine v_fa ?_;refine zq (st.at (i:=5) rfl).2.2 rfl ?_;obtain ⟨q8554,hF⟩:=zn hF;refine zX q8554 ?_;refine Yf lw129 rfl rfl (fun T hT=>?_)
       have t0:=hT 0 _ rfl
       have t1:=hT 1 _ rfl
       have t2:=hT 2 _ rfl
       have t3:=hT 3 _ rfl
       dsimp only [L129]
       refine zd (ze ?_);refine za ?_;refine zb (th_n ?_);refine zd ?_;refine zd (ze ?_);refine za ?_;refine za ?_;refine za ?_;refine za ?_;obtain ⟨v8556,e8557,hF⟩:=zk hF;refine zU st (ct134 N e8557 st.d (all_sub _) (RowF.mono st.all_le (RowF.mono le7047 ry16)) (RowF.mono st.all_le (RowF.mono le7047 ry17)) (st.at (i:=5) rfl).2.2) (fun n8558 st=>?_);refine yE ?_;refine zb (th_n ?_);refine zC (fun hb8559=>?_) (fun hb8559=>?_)
       ·have hF:=zw hb8559 hF;refine zd (ze ?_);refine za ?_;refine zb (th_n ?_);refine zy ?_;refine th_r ?_;refine vp (v:=(.bool false)) (Res.t gA Res.nil) rfl (.inl rfl) (ik ?_);refine za ?_;refine zh rfl ?_;refine zh rfl ?_;refine zh rfl ?_;refine zh rfl ?_;refine zh rfl ?_;refine zh rfl ?_;refine zh rfl ?_;refine zh rfl ?_;refine zh rfl ?_;refine zh rfl ?_;refine zh rfl ?_;refine zh rfl ?_;refine zh rfl ?_;refine zh rfl ?_;refine zB rfl ?_;refine za ?_;refine zb (th_n ?_);refine zy ?_;refine vp (v:=(.bool false)) (Res.t gA Res.nil) rfl (.inl rfl) (ik ?_)
        refine zj hb8541 (yE ?_);refine zQ hb8541 ?_;refine zb ?_;obtain rfl:=inj hF;refine thn ⟨rfl,?_⟩;dsimp only
        exact ⟨F7045,rfl,(PH.le.refl _),(st.drop (by first | exact List.Sublist.refl _ | (repeat first | exact List.nil_sublist _ | refine List.Sublist.cons_cons _ ?_ | refine List.Sublist.cons _ ?_))),gA,gA,gA⟩
       ·have hF:=zx hb8559 hF;refine zD (th_n ?_);refine zd ?_;refine zd (ze ?_);refine za ?_;refine v_nc ?_;refine v_fa ?_;refine zq (st.at (i:=5) rfl).2.2 rfl ?_;refine za ?_;refine zb (th_n ?_);refine zt ?_;obtain ⟨y8706,hy,hF⟩:=zk hF;refine zT (sf80_L2 N v13 x8041 v8546 v8550) (fun x8634 T ds8635 h nx=>∃ (F8635:PH),ds8635 = [] ∧ PH.le F7045 F8635 ∧ St n0 h0 F0 F8635 h nx [.mks (m26 :: []),.bx b1 [(.slice pa0_0 (a0_0).length ca0_0),(i64 a0_1),(.slice pa0_2 (a0_2).length ca0_2)],.bx b4 [(.func 81 [] [])],.bx b7 ([(.slice none 0 0),(i64 0),(.slice none 0 0),(i64 0)] ++ (eI .i64 169 (fun _=>0))),.bx b10 [(.bool false)],.bx b18 ([(.slice py16 (v13.1).length cy16),(i64 v13.2.1),(.slice py17 (v13.2.2.1).length cy17),(i64 v13.2.2.2.1)] ++ (eI .i64 169 x8634.2)),.bx b23 [(.slice pa0_0 (a0_0).length ca0_0),(i64 a0_1),(.slice pa0_2 (a0_2).length ca0_2)],.any l26 (.loop { r26 with state:=.busy }),.bx b6041 [(i64 x6039.1),(i64 x6039.2.1),(.slice py6040 (x6039.2.2).length cy6040)],.bx b8042 [(i64 x8041.1),(i64 x8041.2)],.bx b8046 [(i64 x3032.1),(i64 x7044.1)],.bx b8050 [(i64 x8041.1),(i64 x8041.2)],.bx b8543 [(i64 x8041.1),(i64 x8041.2)]] ∧ T.get 0 = some (.ptr (some (b18,3))) ∧ T.get 1 = some (i64 v8546) ∧ T.get 2 = some (i64 v8550) ∧ T.get 3 = some (i64 (x8041.2+v13.2.1)) ∧ T.get 22 = some (i64 v13.2.2.2.1) ∧ T.get 23 = some (i64 x8634.1)) (fun y e a σ=>e = .exit 0 ∧ a.nt = 83 ∧ ∃ (F8707:PH),a.defers = [] ∧ PH.le F7045 F8707 ∧ St n0 h0 F0 F8707 σ.h σ.nx [.mks (m26 :: []),.bx b1 [(.slice pa0_0 (a0_0).length ca0_0),(i64 a0_1),(.slice pa0_2 (a0_2).length ca0_2)],.bx b4 [(.func 81 [] [])],.bx b7 ([(.slice none 0 0),(i64 0),(.slice none 0 0),(i64 0)] ++ (eI .i64 169 (fun _=>0))),.bx b10 [(.bool false)],.bx b18 ([(.slice py16 (v13.1).length cy16),(i64 v13.2.1),(.slice py17 (v13.2.2.1).length cy17),(i64 v13.2.2.2.1)] ++ (eI .i64 169 y)),.bx b23 [(.slice pa0_0 (a0_0).length ca0_0),(i64 a0_1),(.slice pa0_2 (a0_2).length ca0_2)],.any l26 (.loop { r26 with state:=.busy }),.bx b6041 [(i64 x6039.1),(i64 x6039.2.1),(.slice py6040 (x6039.2.2).length cy6040)],.bx b8042 [(i64 x8041.1),(i64 x8041.2)],.bx b8046 [(i64 x3032.1),(i64 x7044.1)],.bx b8050 [(i64 x8041.1),(i64 x8041.2)],.bx b8543 [(i64 x8041.1),(i64 x8041.2)]]) (fun x8634 T ds8635 h nx s hp hF=>?_) N _ y8706 _ _ _ _ hy ⟨F7045,rfl,(PH.le.refl _),st,gA,gA,gA,gA,gA,gA⟩ (fun e a σ hne hq=>?_)
        ·obtain ⟨F8635,rfl,le8635,st,t0,t1,t2,t3,t22,t23⟩:=hp
         unfold sf80_L2 at hF;unfold L129w1;refine zd (ze ?_);refine z6 ?_;refine zb (th_n ?_);refine zd ?_;refine zC (fun hb8708=>?_) (fun hb8708=>?_)
         ·have hF:=zw hb8708 hF;refine zD (th_n ?_);refine zd ?_;refine zt ?_;refine zd (ze ?_);refine za ?_;refine za ?_;refine zb (th_n ?_);refine zd (ze ?_);refine za ?_;refine za ?_;refine za ?_;refine v_nc ?_;refine v_fa ?_;obtain ⟨q8709,hF⟩:=zn hF
          refine yj (j:=(Int.toNat x8634.1)) (Int.toNat_of_nonneg q8709.1).symm (by omega) ?_
          obtain ⟨q8710,hF⟩:=zn hF
          refine yj (j:=(Int.toNat v8546)) (Int.toNat_of_nonneg q8710.1).symm (by omega) ?_
          refine zq (o:=((4+(Int.toNat x8634.1) * 13)+(Int.toNat v8546) * 1)) (st.at (i:=5) rfl).2.2 (vj (p:=4) (ix:=(((Int.toNat x8634.1) * 13)+(Int.toNat v8546))) [(.slice py16 (v13.1).length cy16),(i64 v13.2.1),(.slice py17 (v13.2.2.1).length cy17),(i64 v13.2.2.2.1)] rfl (by omega) (by omega)) ?_
          refine za ?_;obtain ⟨q8711,hF⟩:=zn hF;refine zX q8711 ?_;refine za ?_;refine zb (th_n ?_);refine zd ?_;refine zd (ze ?_);refine za ?_;refine za ?_;refine za ?_;refine za ?_;refine v_nc ?_;refine v_fa ?_;obtain ⟨q8712,hF⟩:=zn hF
          refine yj (j:=(Int.toNat x8634.1)) (Int.toNat_of_nonneg q8712.1).symm (by omega) ?_
          obtain ⟨q8713,hF⟩:=zn hF
          refine yj (j:=(Int.toNat v8550)) (Int.toNat_of_nonneg q8713.1).symm (by omega) ?_
          refine zq (o:=((4+(Int.toNat x8634.1) * 13)+(Int.toNat v8550) * 1)) (st.at (i:=5) rfl).2.2 (vj (p:=4) (ix:=(((Int.toNat x8634.1) * 13)+(Int.toNat v8550))) [(.slice py16 (v13.1).length cy16),(i64 v13.2.1),(.slice py17 (v13.2.2.1).length cy17),(i64 v13.2.2.2.1)] rfl (by omega) (by omega)) ?_
          refine Yg ?_;refine zb (th_n ?_);refine zC (fun hb8714=>?_) (fun hb8714=>?_)
          ·have hF:=zw hb8714 hF;refine z5 ?_;refine th_e ?_;refine ib_e ?_;refine th_n ?_;refine ze ?_;obtain ⟨q8715,hF⟩:=zn hF;refine zX q8715 ?_;refine za ?_;refine zb ?_;refine thn ⟨_,(inj hF).symm,rfl,?_⟩;dsimp only
           exact ⟨F8635,rfl,le8635,st,gA,gA,gA,gA,gA,gA⟩
          ·have hF:=zx hb8714 hF;refine zD (th_n ?_);refine zd (ze ?_);refine za ?_;refine v_nc ?_;refine v_fa ?_;refine zq (st.at (i:=5) rfl).2.2 rfl ?_;refine za ?_;refine zb (th_n ?_);refine zt ?_;obtain ⟨y8754,hy,hF⟩:=zk hF;refine zT (sf80_L1 v13 x8041 v8546 v8550 x8634) (fun x8736 T ds8737 h nx=>∃ (F8737:PH),ds8737 = [] ∧ PH.le F8635 F8737 ∧ St n0 h0 F0 F8737 h nx [.mks (m26 :: []),.bx b1 [(.slice pa0_0 (a0_0).length ca0_0),(i64 a0_1),(.slice pa0_2 (a0_2).length ca0_2)],.bx b4 [(.func 81 [] [])],.bx b7 ([(.slice none 0 0),(i64 0),(.slice none 0 0),(i64 0)] ++ (eI .i64 169 (fun _=>0))),.bx b10 [(.bool false)],.bx b18 ([(.slice py16 (v13.1).length cy16),(i64 v13.2.1),(.slice py17 (v13.2.2.1).length cy17),(i64 v13.2.2.2.1)] ++ (eI .i64 169 x8736.2)),.bx b23 [(.slice pa0_0 (a0_0).length ca0_0),(i64 a0_1),(.slice pa0_2 (a0_2).length ca0_2)],.any l26 (.loop { r26 with state:=.busy }),.bx b6041 [(i64 x6039.1),(i64 x6039.2.1),(.slice py6040 (x6039.2.2).length cy6040)],.bx b8042 [(i64 x8041.1),(i64 x8041.2)],.bx b8046 [(i64 x3032.1),(i64 x7044.1)],.bx b8050 [(i64 x8041.1),(i64 x8041.2)],.bx b8543 [(i64 x8041.1),(i64 x8041.2)]] ∧ T.get 0 = some (.ptr (some (b18,3))) ∧ T.get 1 = some (i64 v8546) ∧ T.get 2 = some (i64 v8550) ∧ T.get 3 = some (i64 (x8041.2+v13.2.1)) ∧ T.get 9 = some (i64 x8634.1) ∧ T.get 10 = some (i64 ((x8634.2 (((Int.toNat x8634.1) * 13)+(Int.toNat v8546)))+(x8041.2+v13.2.1))) ∧ T.get 22 = some (i64 v13.2.2.2.1) ∧ T.get 23 = some (i64 x8634.1) ∧ T.get 49 = some (i64 v13.2.2.2.1) ∧ T.get 50 = some (i64 x8736.1)) (fun y e a σ=>e = .exit 2 ∧ a.nt = 83 ∧ ∃ (F8755:PH),a.defers = [] ∧ PH.le F8635 F8755 ∧ St n0 h0 F0 F8755 σ.h σ.nx [.mks (m26 :: []),.bx b1 [(.slice pa0_0 (a0_0).length ca0_0),(i64 a0_1),(.slice pa0_2 (a0_2).length ca0_2)],.bx b4 [(.func 81 [] [])],.bx b7 ([(.slice none 0 0),(i64 0),(.slice none 0 0),(i64 0)] ++ (eI .i64 169 (fun _=>0))),.bx b10 [(.bool false)],.bx b18 ([(.slice py16 (v13.1).length cy16),(i64 v13.2.1),(.slice py17 (v13.2.2.1).length cy17),(i64 v13.2.2.2.1)] ++ (eI .i64 169 y)),.bx b23 [(.slice pa0_0 (a0_0).length ca0_0),(i64 a0_1),(.slice pa0_2 (a0_2).length ca0_2)],.any l26 (.loop { r26 with state:=.busy }),.bx b6041 [(i64 x6039.1),(i64 x6039.2.1),(.slice py6040 (x6039.2.2).length cy6040)],.bx b8042 [(i64 x8041.1),(i64 x8041.2)],.bx b8046 [(i64 x3032.1),(i64 x7044.1)],.bx b8050 [(i64 x8041.1),(i64 x8041.2)],.bx b8543 [(i64 x8041.1),(i64 x8041.2)]] ∧ a.tmps.get 0 = some (.ptr (some (b18,3))) ∧ a.tmps.get 1 = some (i64 v8546) ∧ a.tmps.get 2 = some (i64 v8550) ∧ a.tmps.get 3 = some (i64 (x8041.2+v13.2.1)) ∧ a.tmps.get 22 = some (i64 v13.2.2.2.1) ∧ a.tmps.get 23 = some (i64 x8634.1)) (fun x8736 T ds8737 h nx s hp hF=>?_) N _ y8754 _ _ _ _ hy ⟨F8635,rfl,(PH.le.refl _),st,gA,gA,gA,gA,gA,gA,gA,gA,gA,gA⟩ (fun e a σ hne hq=>?_)
           ·obtain ⟨F8737,rfl,le8737,st,t0,t1,t2,t3,t9,t10,t22,t23,t49,t50⟩:=hp
            unfold sf80_L1 at hF;unfold L129w0;refine zd (ze ?_);refine z6 ?_;refine zb (th_n ?_);refine zd ?_;refine zC (fun hb8756=>?_) (fun hb8756=>?_)
            ·have hF:=zw hb8756 hF;refine zD (th_n ?_);refine zd ?_;refine zt ?_;refine zd (ze ?_);refine za ?_;refine za ?_;refine zb (th_n ?_);refine zd (ze ?_);refine za ?_;refine za ?_;refine za ?_;refine za ?_;refine v_nc ?_;refine v_fa ?_;obtain ⟨q8757,hF⟩:=zn hF
             refine yj (j:=(Int.toNat v8550)) (Int.toNat_of_nonneg q8757.1).symm (by omega) ?_
             obtain ⟨q8758,hF⟩:=zn hF
             refine yj (j:=(Int.toNat x8736.1)) (Int.toNat_of_nonneg q8758.1).symm (by omega) ?_
             refine zq (o:=((4+(Int.toNat v8550) * 13)+(Int.toNat x8736.1) * 1)) (st.at (i:=5) rfl).2.2 (vj (p:=4) (ix:=(((Int.toNat v8550) * 13)+(Int.toNat x8736.1))) [(.slice py16 (v13.1).length cy16),(i64 v13.2.1),(.slice py17 (v13.2.2.1).length cy17),(i64 v13.2.2.2.1)] rfl (by omega) (by omega)) ?_
             obtain ⟨q8759,hF⟩:=zn hF;refine zX q8759 ?_;refine za ?_;refine zb (th_n ?_);refine zd (ze ?_);refine za ?_;refine za ?_;refine za ?_;refine za ?_;refine v_nc ?_;refine v_fa ?_;obtain ⟨q8760,hF⟩:=zn hF
             refine yj (j:=(Int.toNat x8634.1)) (Int.toNat_of_nonneg q8760.1).symm (by omega) ?_
             obtain ⟨q8761,hF⟩:=zn hF
             refine yj (j:=(Int.toNat x8736.1)) (Int.toNat_of_nonneg q8761.1).symm (by omega) ?_
             refine zq (o:=((4+(Int.toNat x8634.1) * 13)+(Int.toNat x8736.1) * 1)) (st.at (i:=5) rfl).2.2 (vj (p:=4) (ix:=(((Int.toNat x8634.1) * 13)+(Int.toNat x8736.1))) [(.slice py16 (v13.1).length cy16),(i64 v13.2.1),(.slice py17 (v13.2.2.1).length cy17),(i64 v13.2.2.2.1)] rfl (by omega) (by omega)) ?_
             refine z6 ?_;refine zb (th_n ?_);refine zC (fun hb8762=>?_) (fun hb8762=>?_)
             ·have hF:=zw hb8762 hF;refine ze ?_;refine za ?_;refine za ?_;refine za ?_;refine za ?_;refine v_nc ?_;refine v_fa ?_;obtain ⟨q8763,hF⟩:=zn hF
              refine yj (j:=(Int.toNat x8634.1)) (Int.toNat_of_nonneg q8763.1).symm (by omega) ?_
              obtain ⟨q8764,hF⟩:=zn hF
              refine yj (j:=(Int.toNat x8736.1)) (Int.toNat_of_nonneg q8764.1).symm (by omega) ?_
              refine v_st (o:=((4+(Int.toNat x8634.1) * 13)+(Int.toNat x8736.1) * 1)) (v:=(i64 (((x8634.2 (((Int.toNat x8634.1) * 13)+(Int.toNat v8546)))+(x8041.2+v13.2.1))+(x8736.2 (((Int.toNat v8550) * 13)+(Int.toNat x8736.1)))))) (cs':=([(.slice py16 (v13.1).length cy16),(i64 v13.2.1),(.slice py17 (v13.2.2.1).length cy17),(i64 v13.2.2.2.1)] ++ (eI .i64 169 (ups x8736.2 (((Int.toNat x8634.1) * 13)+(Int.toNat x8736.1)) (((x8634.2 (((Int.toNat x8634.1) * 13)+(Int.toNat v8546)))+(x8041.2+v13.2.1))+(x8736.2 (((Int.toNat v8550) * 13)+(Int.toNat x8736.1)))))))) st 5 rfl (Yb (p:=4) (ix:=(((Int.toNat x8634.1) * 13)+(Int.toNat x8736.1))) [(.slice py16 (v13.1).length cy16),(i64 v13.2.1),(.slice py17 (v13.2.2.1).length cy17),(i64 v13.2.2.2.1)] rfl (by omega) (by omega)) rfl rfl hfl (fun h8765 st=>?_)
              refine zb ?_;refine ib_n ?_;refine th_n ?_;refine ze ?_;obtain ⟨q8766,hF⟩:=zn hF;refine zX q8766 ?_;refine za ?_;refine zb ?_;refine thn ⟨_,(inj hF).symm,rfl,?_⟩;dsimp only
              exact ⟨F8737,rfl,le8737,st,gA,gA,gA,gA,gA,gA,gA,gA,gA,gA⟩
             ·have hF:=zx hb8762 hF;refine zD ?_;refine ib_n ?_;refine th_n ?_;refine ze ?_;obtain ⟨q8767,hF⟩:=zn hF;refine zX q8767 ?_;refine za ?_;refine zb ?_;refine thn ⟨_,(inj hF).symm,rfl,?_⟩;dsimp only
              exact ⟨F8737,rfl,le8737,st,gA,gA,gA,gA,gA,gA,gA,gA,gA,gA⟩
            ·have hF:=zx hb8756 hF;refine z5 ?_;refine th_e ?_;refine th_e ?_;refine ⟨_,(inj hF).symm,rfl,rfl,?_⟩;dsimp only
             exact ⟨F8737,rfl,le8737,st,gA,gA,gA,gA,gA,gA⟩
           ·obtain ⟨N9,T,ds8755⟩:=a;obtain ⟨h8772,n8773⟩:=σ;obtain ⟨rfl,e1,F8755,e2,le8755,st,t0,t1,t2,t3,t22,t23⟩:=hq
            dsimp only at e1 e2
            subst e1
            subst e2
            dsimp only at st t0 t1 t2 t3 t22 t23
            have le8771:=PH.le.trans le8635 le8755
            refine ib_e ?_;refine ib_n ?_;refine th_n ?_;refine ze ?_;obtain ⟨q8774,hF⟩:=zn hF;refine zX q8774 ?_;refine za ?_;refine zb ?_;refine thn ⟨_,(inj hF).symm,rfl,?_⟩;dsimp only
            exact ⟨F8755,rfl,le8771,st,gA,gA,gA,gA,gA,gA⟩
         ·have hF:=zx hb8708 hF;refine z5 ?_;refine th_e ?_;refine th_e ?_;refine ⟨_,(inj hF).symm,rfl,rfl,?_⟩;dsimp only
          exact ⟨F8635,rfl,le8635,st⟩
        ·obtain ⟨N9,T,ds8707⟩:=a;obtain ⟨h8778,n8779⟩:=σ;obtain ⟨rfl,e1,F8707,e2,le8707,st⟩:=hq
         dsimp only at e1 e2
         subst e1
         subst e2
         dsimp only at st
         have le8776:=PH.le.trans le7047 le8707
         refine ib_e ?_;refine th_n ?_;refine zd (ze ?_);refine za ?_;refine zb (th_n ?_);refine zy ?_;refine vp (v:=(.bool true)) (Res.t gA Res.nil) rfl (.inl rfl) (ik ?_);refine za ?_;refine zj rfl (za ?_);refine zj rfl (v_nc ?_);refine zj rfl (v_fa ?_);refine zj rfl (za ?_);refine zj rfl (za ?_);refine zj rfl (za ?_);refine zj rfl (v_nc ?_);refine zj rfl (v_fa ?_);refine zj rfl (v_fa ?_);refine zj rfl (zq (st.at (i:=5) rfl).2.2 rfl ?_);refine zj rfl (v_fa ?_);refine zj rfl (zq (st.at (i:=12) rfl).2.2 rfl ?_);obtain ⟨q8780,hF⟩:=zn hF;refine zj rfl (v_sub q8780 ?_)
         refine zj rfl (Yf lw129 rfl rfl (fun T hT=>?_))
         have t0:=hT 0 _ rfl
         have t1:=hT 1 _ rfl
         have t2:=hT 2 _ rfl
         have t3:=hT 3 _ rfl
         dsimp only [L129]
         refine zd (ze ?_);refine za ?_;refine zb (th_n ?_);refine zd ?_;refine zd (ze ?_);refine za ?_;refine za ?_;refine za ?_;refine za ?_;obtain ⟨v8782,e8783,hF⟩:=zk hF;refine zU st (ct134 N e8783 st.d (all_sub _) (RowF.mono st.all_le (RowF.mono le8776 ry16)) (RowF.mono st.all_le (RowF.mono le8776 ry17)) (st.at (i:=5) rfl).2.2) (fun n8784 st=>?_);refine yE ?_;refine zb (th_n ?_);refine zC (fun hb8785=>?_) (fun hb8785=>?_)
         ·have hF:=zw hb8785 hF;refine zd (ze ?_);refine za ?_;refine zb (th_n ?_);refine zy ?_;refine th_r ?_;refine vp (v:=(.bool false)) (Res.t gA Res.nil) rfl (.inl rfl) (ik ?_);refine zQ rfl ?_;refine za ?_;refine zb (th_n ?_);refine zy ?_;refine vp (v:=(.bool false)) (Res.t gA Res.nil) rfl (.inl rfl) (ik ?_);refine zj hb8541 (yE ?_);refine zQ hb8541 ?_;refine zb ?_;obtain rfl:=inj hF;refine thn ⟨rfl,?_⟩;dsimp only
          exact ⟨F8707,rfl,le8707,(st.drop (by first | exact List.Sublist.refl _ | (repeat first | exact List.nil_sublist _ | refine List.Sublist.cons_cons _ ?_ | refine List.Sublist.cons _ ?_))),gA,gA,gA⟩
         ·have hF:=zx hb8785 hF;refine zD (th_n ?_);refine zd ?_;refine zd (ze ?_);refine za ?_;refine v_nc ?_;refine v_fa ?_;refine zq (st.at (i:=5) rfl).2.2 rfl ?_;refine za ?_;refine zb (th_n ?_);refine zt ?_;obtain ⟨y8940,hy,hF⟩:=zk hF;refine zT (sf80_L4 N v13 x8041 v8546 v8550) (fun x8864 T ds8865 h nx=>∃ (F8865:PH),ds8865 = [] ∧ PH.le F8707 F8865 ∧ St n0 h0 F0 F8865 h nx [.mks (m26 :: []),.bx b1 [(.slice pa0_0 (a0_0).length ca0_0),(i64 a0_1),(.slice pa0_2 (a0_2).length ca0_2)],.bx b4 [(.func 81 [] [])],.bx b7 ([(.slice none 0 0),(i64 0),(.slice none 0 0),(i64 0)] ++ (eI .i64 169 (fun _=>0))),.bx b10 [(.bool false)],.bx b18 ([(.slice py16 (v13.1).length cy16),(i64 v13.2.1),(.slice py17 (v13.2.2.1).length cy17),(i64 v13.2.2.2.1)] ++ (eI .i64 169 x8864.2)),.bx b23 [(.slice pa0_0 (a0_0).length ca0_0),(i64 a0_1),(.slice pa0_2 (a0_2).length ca0_2)],.any l26 (.loop { r26 with state:=.busy }),.bx b6041 [(i64 x6039.1),(i64 x6039.2.1),(.slice py6040 (x6039.2.2).length cy6040)],.bx b8042 [(i64 x8041.1),(i64 x8041.2)],.bx b8046 [(i64 x3032.1),(i64 x7044.1)],.bx b8050 [(i64 x8041.1),(i64 x8041.2)],.bx b8543 [(i64 x8041.1),(i64 x8041.2)]] ∧ T.get 0 = some (.ptr (some (b18,3))) ∧ T.get 1 = some (i64 v8550) ∧ T.get 2 = some (i64 v8546) ∧ T.get 3 = some (i64 (v13.2.1 - x8041.2)) ∧ T.get 22 = some (i64 v13.2.2.2.1) ∧ T.get 23 = some (i64 x8864.1)) (fun y e a σ=>e = .exit 0 ∧ a.nt = 83 ∧ ∃ (F8941:PH),a.defers = [] ∧ PH.le F8707 F8941 ∧ St n0 h0 F0 F8941 σ.h σ.nx [.mks (m26 :: []),.bx b1 [(.slice pa0_0 (a0_0).length ca0_0),(i64 a0_1),(.slice pa0_2 (a0_2).length ca0_2)],.bx b4 [(.func 81 [] [])],.bx b7 ([(.slice none 0 0),(i64 0),(.slice none 0 0),(i64 0)] ++ (eI .i64 169 (fun _=>0))),.bx b10 [(.bool false)],.bx b18 ([(.slice py16 (v13.1).length cy16),(i64 v13.2.1),(.slice py17 (v13.2.2.1).length cy17),(i64 v13.2.2.2.1)] ++ (eI .i64 169 y)),.bx b23 [(.slice pa0_0 (a0_0).length ca0_0),(i64 a0_1),(.slice pa0_2 (a0_2).length ca0_2)],.any l26 (.loop { r26 with state:=.busy }),.bx b6041 [(i64 x6039.1),(i64 x6039.2.1),(.slice py6040 (x6039.2.2).length cy6040)],.bx b8042 [(i64 x8041.1),(i64 x8041.2)],.bx b8046 [(i64 x3032.1),(i64 x7044.1)],.bx b8050 [(i64 x8041.1),(i64 x8041.2)],.bx b8543 [(i64 x8041.1),(i64 x8041.2)]]) (fun x8864 T ds8865 h nx s hp hF=>?_) N _ y8940 _ _ _ _ hy ⟨F8707,rfl,(PH.le.refl _),st,gA,gA,gA,gA,gA,gA⟩ (fun e a σ hne hq=>?_)
          ·obtain ⟨F8865,rfl,le8865,st,t0,t1,t2,t3,t22,t23⟩:=hp
           unfold sf80_L4 at hF;unfold L129w1;refine zd (ze ?_);refine z6 ?_;refine zb (th_n ?_);refine zd ?_;refine zC (fun hb8942=>?_) (fun hb8942=>?_)
           ·have hF:=zw hb8942 hF;refine zD (th_n ?_);refine zd ?_;refine zt ?_;refine zd (ze ?_);refine za ?_;refine za ?_;refine zb (th_n ?_);refine zd (ze ?_);refine za ?_;refine za ?_;refine za ?_;refine v_nc ?_;refine v_fa ?_;obtain ⟨q8943,hF⟩:=zn hF
            refine yj (j:=(Int.toNat x8864.1)) (Int.toNat_of_nonneg q8943.1).symm (by omega) ?_
            obtain ⟨q8944,hF⟩:=zn hF
            refine yj (j:=(Int.toNat v8550)) (Int.toNat_of_nonneg q8944.1).symm (by omega) ?_
            refine zq (o:=((4+(Int.toNat x8864.1) * 13)+(Int.toNat v8550) * 1)) (st.at (i:=5) rfl).2.2 (vj (p:=4) (ix:=(((Int.toNat x8864.1) * 13)+(Int.toNat v8550))) [(.slice py16 (v13.1).length cy16),(i64 v13.2.1),(.slice py17 (v13.2.2.1).length cy17),(i64 v13.2.2.2.1)] rfl (by omega) (by omega)) ?_
            refine za ?_;obtain ⟨q8945,hF⟩:=zn hF;refine zX q8945 ?_;refine za ?_;refine zb (th_n ?_);refine zd ?_;refine zd (ze ?_);refine za ?_;refine za ?_;refine za ?_;refine za ?_;refine v_nc ?_;refine v_fa ?_;obtain ⟨q8946,hF⟩:=zn hF
            refine yj (j:=(Int.toNat x8864.1)) (Int.toNat_of_nonneg q8946.1).symm (by omega) ?_
            obtain ⟨q8947,hF⟩:=zn hF
            refine yj (j:=(Int.toNat v8546)) (Int.toNat_of_nonneg q8947.1).symm (by omega) ?_
            refine zq (o:=((4+(Int.toNat x8864.1) * 13)+(Int.toNat v8546) * 1)) (st.at (i:=5) rfl).2.2 (vj (p:=4) (ix:=(((Int.toNat x8864.1) * 13)+(Int.toNat v8546))) [(.slice py16 (v13.1).length cy16),(i64 v13.2.1),(.slice py17 (v13.2.2.1).length cy17),(i64 v13.2.2.2.1)] rfl (by omega) (by omega)) ?_
            refine Yg ?_;refine zb (th_n ?_);refine zC (fun hb8948=>?_) (fun hb8948=>?_)
            ·have hF:=zw hb8948 hF;refine z5 ?_;refine th_e ?_;refine ib_e ?_;refine th_n ?_;refine ze ?_;obtain ⟨q8949,hF⟩:=zn hF;refine zX q8949 ?_;refine za ?_;refine zb ?_;refine thn ⟨_,(inj hF).symm,rfl,?_⟩;dsimp only
             exact ⟨F8865,rfl,le8865,st,gA,gA,gA,gA,gA,gA⟩
            ·have hF:=zx hb8948 hF;refine zD (th_n ?_);refine zd (ze ?_);refine za ?_;refine v_nc ?_;refine v_fa ?_;refine zq (st.at (i:=5) rfl).2.2 rfl ?_;refine za ?_;refine zb (th_n ?_);refine zt ?_;obtain ⟨y8990,hy,hF⟩:=zk hF;refine zT (sf80_L3 v13 x8041 v8546 v8550 x8864) (fun x8971 T ds8972 h nx=>∃ (F8972:PH),ds8972 = [] ∧ PH.le F8865 F8972 ∧ St n0 h0 F0 F8972 h nx [.mks (m26 :: []),.bx b1 [(.slice pa0_0 (a0_0).length ca0_0),(i64 a0_1),(.slice pa0_2 (a0_2).length ca0_2)],.bx b4 [(.func 81 [] [])],.bx b7 ([(.slice none 0 0),(i64 0),(.slice none 0 0),(i64 0)] ++ (eI .i64 169 (fun _=>0))),.bx b10 [(.bool false)],.bx b18 ([(.slice py16 (v13.1).length cy16),(i64 v13.2.1),(.slice py17 (v13.2.2.1).length cy17),(i64 v13.2.2.2.1)] ++ (eI .i64 169 x8971.2)),.bx b23 [(.slice pa0_0 (a0_0).length ca0_0),(i64 a0_1),(.slice pa0_2 (a0_2).length ca0_2)],.any l26 (.loop { r26 with state:=.busy }),.bx b6041 [(i64 x6039.1),(i64 x6039.2.1),(.slice py6040 (x6039.2.2).length cy6040)],.bx b8042 [(i64 x8041.1),(i64 x8041.2)],.bx b8046 [(i64 x3032.1),(i64 x7044.1)],.bx b8050 [(i64 x8041.1),(i64 x8041.2)],.bx b8543 [(i64 x8041.1),(i64 x8041.2)]] ∧ T.get 0 = some (.ptr (some (b18,3))) ∧ T.get 1 = some (i64 v8550) ∧ T.get 2 = some (i64 v8546) ∧ T.get 3 = some (i64 (v13.2.1 - x8041.2)) ∧ T.get 9 = some (i64 x8864.1) ∧ T.get 10 = some (i64 ((x8864.2 (((Int.toNat x8864.1) * 13)+(Int.toNat v8550)))+(v13.2.1 - x8041.2))) ∧ T.get 22 = some (i64 v13.2.2.2.1) ∧ T.get 23 = some (i64 x8864.1) ∧ T.get 49 = some (i64 v13.2.2.2.1) ∧ T.get 50 = some (i64 x8971.1)) (fun y e a σ=>e = .exit 2 ∧ a.nt = 83 ∧ ∃ (F8991:PH),a.defers = [] ∧ PH.le F8865 F8991 ∧ St n0 h0 F0 F8991 σ.h σ.nx [.mks (m26 :: []),.bx b1 [(.slice pa0_0 (a0_0).length ca0_0),(i64 a0_1),(.slice pa0_2 (a0_2).length ca0_2)],.bx b4 [(.func 81 [] [])],.bx b7 ([(.slice none 0 0),(i64 0),(.slice none 0 0),(i64 0)] ++ (eI .i64 169 (fun _=>0))),.bx b10 [(.bool false)],.bx b18 ([(.slice py16 (v13.1).length cy16),(i64 v13.2.1),(.slice py17 (v13.2.2.1).length cy17),(i64 v13.2.2.2.1)] ++ (eI .i64 169 y)),.bx b23 [(.slice pa0_0 (a0_0).length ca0_0),(i64 a0_1),(.slice pa0_2 (a0_2).length ca0_2)],.any l26 (.loop { r26 with state:=.busy }),.bx b6041 [(i64 x6039.1),(i64 x6039.2.1),(.slice py6040 (x6039.2.2).length cy6040)],.bx b8042 [(i64 x8041.1),(i64 x8041.2)],.bx b8046 [(i64 x3032.1),(i64 x7044.1)],.bx b8050 [(i64 x8041.1),(i64 x8041.2)],.bx b8543 [(i64 x8041.1),(i64 x8041.2)]] ∧ a.tmps.get 0 = some (.ptr (some (b18,3))) ∧ a.tmps.get 1 = some (i64 v8550) ∧ a.tmps.get 2 = some (i64 v8546) ∧ a.tmps.get 3 = some (i64 (v13.2.1 - x8041.2)) ∧ a.tmps.get 22 = some (i64 v13.2.2.2.1) ∧ a.tmps.get 23 = some (i64 x8864.1)) (fun x8971 T ds8972 h nx s hp hF=>?_) N _ y8990 _ _ _ _ hy ⟨F8865,rfl,(PH.le.refl _),st,gA,gA,gA,gA,gA,gA,gA,gA,gA,gA⟩ (fun e a σ hne hq=>?_)
             ·obtain ⟨F8972,rfl,le8972,st,t0,t1,t2,t3,t9,t10,t22,t23,t49,t50⟩:=hp
              unfold sf80_L3 at hF;unfold L129w0;refine zd (ze ?_);refine z6 ?_;refine zb (th_n ?_);refine zd ?_;refine zC (fun hb8992=>?_) (fun hb8992=>?_)
              ·have hF:=zw hb8992 hF;refine zD (th_n ?_);refine zd ?_;refine zt ?_;refine zd (ze ?_);refine za ?_;refine za ?_;refine zb (th_n ?_);refine zd (ze ?_);refine za ?_;refine za ?_;refine za ?_;refine za ?_;refine v_nc ?_;refine v_fa ?_;obtain ⟨q8993,hF⟩:=zn hF
               refine yj (j:=(Int.toNat v8546)) (Int.toNat_of_nonneg q8993.1).symm (by omega) ?_
               obtain ⟨q8994,hF⟩:=zn hF
               refine yj (j:=(Int.toNat x8971.1)) (Int.toNat_of_nonneg q8994.1).symm (by omega) ?_
               refine zq (o:=((4+(Int.toNat v8546) * 13)+(Int.toNat x8971.1) * 1)) (st.at (i:=5) rfl).2.2 (vj (p:=4) (ix:=(((Int.toNat v8546) * 13)+(Int.toNat x8971.1))) [(.slice py16 (v13.1).length cy16),(i64 v13.2.1),(.slice py17 (v13.2.2.1).length cy17),(i64 v13.2.2.2.1)] rfl (by omega) (by omega)) ?_
               obtain ⟨q8995,hF⟩:=zn hF;refine zX q8995 ?_;refine za ?_;refine zb (th_n ?_);refine zd (ze ?_);refine za ?_;refine za ?_;refine za ?_;refine za ?_;refine v_nc ?_;refine v_fa ?_;obtain ⟨q8996,hF⟩:=zn hF
               refine yj (j:=(Int.toNat x8864.1)) (Int.toNat_of_nonneg q8996.1).symm (by omega) ?_
               obtain ⟨q8997,hF⟩:=zn hF
               refine yj (j:=(Int.toNat x8971.1)) (Int.toNat_of_nonneg q8997.1).symm (by omega) ?_
               refine zq (o:=((4+(Int.toNat x8864.1) * 13)+(Int.toNat x8971.1) * 1)) (st.at (i:=5) rfl).2.2 (vj (p:=4) (ix:=(((Int.toNat x8864.1) * 13)+(Int.toNat x8971.1))) [(.slice py16 (v13.1).length cy16),(i64 v13.2.1),(.slice py17 (v13.2.2.1).length cy17),(i64 v13.2.2.2.1)] rfl (by omega) (by omega)) ?_
               refine z6 ?_;refine zb (th_n ?_);refine zC (fun hb8998=>?_) (fun hb8998=>?_)
               ·have hF:=zw hb8998 hF;refine ze ?_;refine za ?_;refine za ?_;refine za ?_;refine za ?_;refine v_nc ?_;refine v_fa ?_;obtain ⟨q8999,hF⟩:=zn hF
                refine yj (j:=(Int.toNat x8864.1)) (Int.toNat_of_nonneg q8999.1).symm (by omega) ?_
                obtain ⟨q9000,hF⟩:=zn hF
                refine yj (j:=(Int.toNat x8971.1)) (Int.toNat_of_nonneg q9000.1).symm (by omega) ?_
                refine v_st (o:=((4+(Int.toNat x8864.1) * 13)+(Int.toNat x8971.1) * 1)) (v:=(i64 (((x8864.2 (((Int.toNat x8864.1) * 13)+(Int.toNat v8550)))+(v13.2.1 - x8041.2))+(x8971.2 (((Int.toNat v8546) * 13)+(Int.toNat x8971.1)))))) (cs':=([(.slice py16 (v13.1).length cy16),(i64 v13.2.1),(.slice py17 (v13.2.2.1).length cy17),(i64 v13.2.2.2.1)] ++ (eI .i64 169 (ups x8971.2 (((Int.toNat x8864.1) * 13)+(Int.toNat x8971.1)) (((x8864.2 (((Int.toNat x8864.1) * 13)+(Int.toNat v8550)))+(v13.2.1 - x8041.2))+(x8971.2 (((Int.toNat v8546) * 13)+(Int.toNat x8971.1)))))))) st 5 rfl (Yb (p:=4) (ix:=(((Int.toNat x8864.1) * 13)+(Int.toNat x8971.1))) [(.slice py16 (v13.1).length cy16),(i64 v13.2.1),(.slice py17 (v13.2.2.1).length cy17),(i64 v13.2.2.2.1)] rfl (by omega) (by omega)) rfl rfl hfl (fun h9001 st=>?_)
                refine zb ?_;refine ib_n ?_;refine th_n ?_;refine ze ?_;obtain ⟨q9002,hF⟩:=zn hF;refine zX q9002 ?_;refine za ?_;refine zb ?_;refine thn ⟨_,(inj hF).symm,rfl,?_⟩;dsimp only
                exact ⟨F8972,rfl,le8972,st,gA,gA,gA,gA,gA,gA,gA,gA,gA,gA⟩
               ·have hF:=zx hb8998 hF;refine zD ?_;refine ib_n ?_;refine th_n ?_;refine ze ?_;obtain ⟨q9003,hF⟩:=zn hF;refine zX q9003 ?_;refine za ?_;refine zb ?_;refine thn ⟨_,(inj hF).symm,rfl,?_⟩;dsimp only
                exact ⟨F8972,rfl,le8972,st,gA,gA,gA,gA,gA,gA,gA,gA,gA,gA⟩
              ·have hF:=zx hb8992 hF;refine z5 ?_;refine th_e ?_;refine th_e ?_;refine ⟨_,(inj hF).symm,rfl,rfl,?_⟩;dsimp only
               exact ⟨F8972,rfl,le8972,st,gA,gA,gA,gA,gA,gA⟩
             ·obtain ⟨N9,T,ds8991⟩:=a;obtain ⟨h9009,n9010⟩:=σ;obtain ⟨rfl,e1,F8991,e2,le8991,st,t0,t1,t2,t3,t22,t23⟩:=hq
              dsimp only at e1 e2
              subst e1
              subst e2
              dsimp only at st t0 t1 t2 t3 t22 t23
              have le9008:=PH.le.trans le8865 le8991
              refine ib_e ?_;refine ib_n ?_;refine th_n ?_;refine ze ?_;obtain ⟨q9011,hF⟩:=zn hF;refine zX q9011 ?_;refine za ?_;refine zb ?_;refine thn ⟨_,(inj hF).symm,rfl,?_⟩;dsimp only
              exact ⟨F8991,rfl,le9008,st,gA,gA,gA,gA,gA,gA⟩
           ·have hF:=zx hb8942 hF;refine z5 ?_;refine th_e ?_;refine th_e ?_;refine ⟨_,(inj hF).symm,rfl,rfl,?_⟩;dsimp only
            exact ⟨F8865,rfl,le8865,st⟩
          ·obtain ⟨N9,T,ds8941⟩:=a;obtain ⟨h9016,n9017⟩:=σ;obtain ⟨rfl,e1,F8941,e2,le8941,st⟩:=hq
           dsimp only at e1 e2
           subst e1
           subst e2
           dsimp only at st
           have le9015:=PH.le.trans le8707 le8941
           refine ib_e ?_;refine th_n ?_;refine zd (ze ?_);refine za ?_;refine zb (th_n ?_);refine zy ?_;refine vp (v:=(.bool true)) (Res.t gA Res.nil) rfl (.inl rfl) (ik ?_);refine zQ rfl ?_;refine za ?_;refine zb (th_n ?_);refine zy ?_;refine vp (v:=(.bool true)) (Res.t gA Res.nil) rfl (.inl rfl) (ik ?_);refine zj hb8541 (yE ?_);refine zQ hb8541 ?_;refine zb ?_;obtain rfl:=inj hF;refine thn ⟨rfl,?_⟩;dsimp only
           exact ⟨F8941,rfl,le9015,(st.drop (by first | exact List.Sublist.refl _ | (repeat first | exact List.nil_sublist _ | refine List.Sublist.cons_cons _ ?_ | refine List.Sublist.cons _ ?_))),gA,gA,gA⟩
      ·have hF:=zx hb8541 hF;refine zh hb8541 ?_;refine zh hb8541 ?_;refine zh hb8541 ?_;refine zh hb8541 ?_;refine zh hb8541 ?_;refine zB hb8541 ?_;refine zb ?_;obtain rfl:=inj hF;refine thn ⟨rfl,?_⟩;dsimp only
       exact ⟨F7045,rfl,(PH.le.refl _),st,gA,gA,gA⟩
     ·obtain ⟨F8537,rfl,le8537,st,t4,t5,t24⟩:=hp
      have le9020:=PH.le.trans le7045 le8537
      refine zC (fun hb9021=>?_) (fun hb9021=>?_)
      ·have hF:=zw hb9021 hF;refine zd (ze ?_);refine z7 (cs:=([(.slice none 0 0),(i64 0),(.slice none 0 0),(i64 0)] ++ (eI .i64 169 (fun _=>0)))) rfl ?_
       refine v_st (v:=(.agg ([(.slice none 0 0),(i64 0),(.slice none 0 0),(i64 0)] ++ (eI .i64 169 (fun _=>0))))) (cs':=([(.slice none 0 0),(i64 0),(.slice none 0 0),(i64 0)] ++ (eI .i64 169 (fun _=>0)))) st 3 rfl (yy [] rfl (by simp [HV.cells,zR,yW])) (ym _ zR (by rfl)) (yl _ (by rfl) yV) hfl (fun h9022 st=>?_)
       refine v_st (cs':=[(.bool false)]) st 4 rfl rfl rfl rfl hfl (fun h9023 st=>?_);refine zb (th_n ?_);refine zy ?_;refine ib_r ?_
       refine yb_e st 7 rfl (fun e=>by cases e) (fun h st=>?_)
       refine yE ?_;refine zb (th_n ?_);refine zC (fun hq9024=>?_) (fun hq9024=>?_)
       ·refine zy ?_;refine ib_r ?_;refine th_r ?_;refine th_r ?_;refine ⟨_,(inj hF).symm,.inl ⟨_,rfl,rfl,rfl,?_⟩⟩;dsimp only
        exact ⟨F8537,rfl,le9020,(st.drop (by first | exact List.Sublist.refl _ | (repeat first | exact List.nil_sublist _ | refine List.Sublist.cons_cons _ ?_ | refine List.Sublist.cons _ ?_)))⟩
       ·exact absurd hq9024 (by rw [(congrArg (!·) rfl)];decide)
      ·have hF:=zx hb9021 hF;refine zD ?_;refine ib_n ?_;refine yb_n st 7 rfl rs26 rp26 (fun h st=>?_);refine yE ?_;refine zb (th_n ?_);refine zC (fun hq9025=>?_) (fun hq9025=>?_)
       ·exact absurd hq9025 (by rw [(congrArg (!·) rfl)];decide)
       ·refine zD ?_;refine ib_n ?_;refine th_n ?_;refine ze ?_;obtain ⟨q9026,hF⟩:=zn hF;refine zX q9026 ?_;refine za ?_;refine zb ?_;refine thn ⟨_,(inj hF).symm,rfl,?_⟩;dsimp only
        exact ⟨F8537,rfl,le9020,(st.drop (by first | exact List.Sublist.refl _ | (repeat first | exact List.nil_sublist _ | refine List.Sublist.cons_cons _ ?_ | refine List.Sublist.cons _ ?_))),gA,gA,gA,gA,gA,gA,gA,gA⟩
    ·have hF:=zx hb8040 hF;refine z5 ?_;refine th_e ?_;refine th_e ?_;refine ⟨_,(inj hF).symm,.inr (⟨_,rfl,rfl,rfl,?_⟩)⟩;dsimp only
     exact ⟨F7045,rfl,le7045,st,gA,gA,gA,gA⟩
   ·rcases hq with hq | hq
    ·obtain ⟨N9,T,ds8037⟩:=a;obtain ⟨h9029,n9030⟩:=σ;obtain ⟨w8036,rfl,rfl,e1,F8037,e2,le8037,st⟩:=hq
     dsimp only at e1 e2
     subst e1
     subst e2
     dsimp only at st
     have le9028:=PH.le.trans le3033 le8037
     have hF:=yQ hF;refine ib_r ?_;refine ib_r ?_;refine th_r ?_;refine th_r ?_;refine ⟨_,(inj hF).symm,.inl ⟨_,rfl,rfl,rfl,?_⟩⟩;dsimp only
     exact ⟨F8037,rfl,le9028,(st.drop (by first | exact List.Sublist.refl _ | (repeat first | exact List.nil_sublist _ | refine List.Sublist.cons_cons _ ?_ | refine List.Sublist.cons _ ?_)))⟩
    ·obtain ⟨N9,T,ds8039⟩:=a;obtain ⟨h9033,n9034⟩:=σ;obtain ⟨w8038,rfl,rfl,e1,F8039,e2,le8039,st,t0,t8,t9,t10⟩:=hq
     dsimp only at e1 e2
     subst e1
     subst e2
     dsimp only at st t0 t8 t9 t10
     have le9032:=PH.le.trans le3033 le8039
     have hF:=yP hF;refine ib_e ?_;refine ib_n ?_;refine th_n ?_;refine ze ?_;obtain ⟨q9035,hF⟩:=zn hF;refine zX q9035 ?_;refine za ?_;refine zb ?_;refine thn ⟨_,(inj hF).symm,rfl,?_⟩;dsimp only
     exact ⟨F8039,rfl,le9032,(st.drop (by first | exact List.Sublist.refl _ | (repeat first | exact List.nil_sublist _ | refine List.Sublist.cons_cons _ ?_ | refine List.Sublist.cons _ ?_))),gA,gA,gA,gA⟩
  ·have hF:=zx hb6038 hF;refine z5 ?_;refine th_e ?_;refine th_e ?_;refine ⟨_,(inj hF).symm,.inr (⟨_,rfl,rfl,rfl,?_⟩)⟩;dsimp only
   exact ⟨F3033,rfl,le3033,st⟩
 ·rcases hq with hq | hq
  ·obtain ⟨N9,T,ds6035⟩:=a;obtain ⟨h9037,n9038⟩:=σ;obtain ⟨w6034,rfl,rfl,e1,F6035,e2,le6035,st⟩:=hq
   dsimp only at e1 e2
   subst e1
   subst e2
   dsimp only at st
   have hF:=yQ hF;refine ib_r ?_
   refine j5 st 7 rfl (fun e=>by cases e) rfl hfl (.inl rfl) (fun h st=>?_)
   have st:=st.drop (List.eraseIdx_sublist _ 7)
   refine ib_r ?_;refine th_r ?_;obtain rfl:=inj hF
   exact end_rM st 0 rfl hfl (.inl rfl) [(.agg ([(.slice none 0 0),(i64 0),(.slice none 0 0),(i64 0)] ++ (eI .i64 169 (fun _=>0)))),(.bool false)] (fun h st=>(Res.c gA (st.at (i:=3) rfl).2.2 (show takeN _ _ = some ([(.slice none 0 0),(i64 0),(.slice none 0 0),(i64 0)] ++ (eI .i64 169 (fun _=>0))) from (yY (E:=(eI .i64 169 (fun _=>0))) [] [(.slice none 0 0),(i64 0),(.slice none 0 0),(i64 0)] rfl zR rfl)) (Res.c1 gA (st.at (i:=4) rfl).2.2 rfl Res.nil))) ⟨_,_,rfl,⟨[(.slice none 0 0)],_,rfl,⟨none,0,rfl,RowF.nil⟩,⟨[(i64 0)],_,rfl,rfl,⟨[(.slice none 0 0)],_,rfl,⟨none,0,rfl,RowF.nil⟩,⟨[(i64 0)],_,rfl,rfl,⟨rfl,rfl⟩⟩⟩⟩⟩⟩
  ·obtain ⟨N9,T,ds6037⟩:=a;obtain ⟨h9040,n9041⟩:=σ;obtain ⟨w6036,rfl,rfl,e1,F6037,e2,le6037,st⟩:=hq
   dsimp only at e1 e2
   subst e1
   subst e2
   dsimp only at st
   have hF:=yP hF;refine ib_e ?_
   refine j5 st 7 rfl (by rw [rs26];exact fun e=>by cases e) rp26 hfl (.inr rfl) (fun h st=>?_)
   have st:=st.drop (List.eraseIdx_sublist _ 7)
   refine ib_n ?_;refine th_n ?_;refine zd (ze ?_);refine zJ (vs:=([(.slice py16 (v13.1).length cy16),(i64 v13.2.1),(.slice py17 (v13.2.2.1).length cy17),(i64 v13.2.2.2.1)] ++ (eI .i64 169 w6036))) (st.at (i:=5) rfl).2.2 (yY (E:=(eI .i64 169 w6036)) [] [(.slice py16 (v13.1).length cy16),(i64 v13.2.1),(.slice py17 (v13.2.2.1).length cy17),(i64 v13.2.2.2.1)] rfl zR rfl) ?_
   refine v_st (v:=(.agg ([(.slice py16 (v13.1).length cy16),(i64 v13.2.1),(.slice py17 (v13.2.2.1).length cy17),(i64 v13.2.2.2.1)] ++ (eI .i64 169 w6036)))) (cs':=([(.slice py16 (v13.1).length cy16),(i64 v13.2.1),(.slice py17 (v13.2.2.1).length cy17),(i64 v13.2.2.2.1)] ++ (eI .i64 169 w6036))) st 3 rfl (yy [] rfl (by simp [HV.cells,zR,yW])) (ym _ zR (by rfl)) (yl _ (by rfl) yV) hfl (fun h9042 st=>?_)
   refine v_st (cs':=[(.bool true)]) st 4 rfl rfl rfl rfl hfl (fun h9043 st=>?_);refine zb (th_n ?_);refine zy ?_;obtain rfl:=inj hF
   exact end_rM st 0 rfl hfl (.inl rfl) [(.agg ([(.slice py16 (v13.1).length cy16),(i64 v13.2.1),(.slice py17 (v13.2.2.1).length cy17),(i64 v13.2.2.2.1)] ++ (eI .i64 169 w6036))),(.bool true)] (fun h st=>(Res.c gA (st.at (i:=3) rfl).2.2 (show takeN _ _ = some ([(.slice py16 (v13.1).length cy16),(i64 v13.2.1),(.slice py17 (v13.2.2.1).length cy17),(i64 v13.2.2.2.1)] ++ (eI .i64 169 w6036)) from (yY (E:=(eI .i64 169 w6036)) [] [(.slice py16 (v13.1).length cy16),(i64 v13.2.1),(.slice py17 (v13.2.2.1).length cy17),(i64 v13.2.2.2.1)] rfl zR rfl)) (Res.c1 gA (st.at (i:=4) rfl).2.2 rfl Res.nil))) ⟨_,_,rfl,⟨[(.slice py16 (v13.1).length cy16)],_,rfl,⟨_,_,rfl,(RowF.mono le6037 ry16)⟩,⟨[(i64 v13.2.1)],_,rfl,rfl,⟨[(.slice py17 (v13.2.2.1).length cy17)],_,rfl,⟨_,_,rfl,(RowF.mono le6037 ry17)⟩,⟨[(i64 v13.2.2.2.1)],_,rfl,rfl,⟨rfl,rfl⟩⟩⟩⟩⟩⟩
end Go.Hx.V

namespace Go.Hx.V
open Go.Hx
set_option maxRecDepth 20000
set_option maxHeartbeats 4000000
variable {fl : Nat} {h0 : Tr HBlk} {n0 : Nat} {F0 : PH}
attribute [local irreducible] W R C thenH inBlockH Tr.get Tr.set lo ck bnd ix iter
theorem ct75 (N:Nat) {a0p0:(List (Int × Int))} {a0p1:Int} {a0p2:(List (Int × Int × (List (Int × Int))))} {a0p3:Int} {a0p4:(Nat → Int)} {a1:Int} {r:(Int × Int)} (hF:sf75 N a0p0 a0p1 a0p2 a0p3 a0p4 a1 = some r) (hd:D h0 n0) (hs:F0.sub h0) {pa0p0:Option (Nat × Nat)} {ca0p0:Nat} {pa0p2:Option (Nat × Nat)} {ca0p2:Nat} {ba0:Nat} (ra0p0:RowF (rP rI rI) 2 F0 pa0p0 ca0p0 a0p0) (ra0p2:RowF (rP rI (rP rI (rL (rP rI rI) 2))) 3 F0 pa0p2 ca0p2 a0p2) (hba0:F0 ba0 = some (.cells ([(.slice pa0p0 (a0p0).length ca0p0),(i64 a0p1),(.slice pa0p2 (a0p2).length ca0p2),(i64 a0p3)] ++ (eI .i64 169 a0p4)) .exact)):C LW fl 75 [(.ptr (some (ba0,0))),(i64 a1)] ⟨h0,n0⟩ (KS (.agg [(i64 r.1),(i64 r.2)]) n0 h0):=by
 unfold sf75 at hF
 refine yd hd hs lw75 rfl rfl (by rfl) (fun st T hT=>?_)
 have hfl:n0 ≤ n0:=Nat.le_refl n0
 have t0:=hT 0 _ rfl
 have t1:=hT 1 _ rfl
 dsimp only [L75]
 refine zd (ze ?_);refine zM st (fun b1 h2 n3 st=>?_);refine zb (th_n ?_);refine zd ?_;refine yn (Nat.le_trans hfl st.ext.le) (fun dw=>?_);obtain ⟨v4,e5,hF⟩:=zk hF;refine vL st.d dw (fun hm vw=>uN (ct104 N e5 vw.d (vw.sub st) ) (fun n' hn'=>vR hn')) (fun n6 hn' dw=>?_);refine zG st.d dw (fun hm vw=>za zF) ?_;refine zG st.d dw (fun hm vw=>v_nc zF) ?_;refine zG st.d dw (fun hm vw=>v_fa zF) ?_;refine zG st.d dw (fun hm vw=>zJ (vs:=[(.slice pa0p0 (a0p0).length ca0p0),(i64 a0p1),(.slice pa0p2 (a0p2).length ca0p2)]) (vw.fz st hba0) rfl zF) ?_;refine zG st.d dw (fun hm vw=>za zF) ?_
 obtain ⟨v7,e8,hF⟩:=zk hF;refine vL st.d dw (fun hm vw=>uN (ct105 N e8 vw.d (vw.sub st) ra0p0 ra0p2) (fun n' hn'=>vR hn')) (fun n9 hn' dw=>?_);refine Yd st.d dw (fun hm vw=>Yl zF) (fun done dw=>?_);refine vk st.d dw rfl (fun h10 ex vs=>?_)
 have st:=St.laid st ex (Lay.cons (b:=n9) (cs:=[.nilFunc,.nilFunc]) (by have:=dw.le;omega) (vs _ (List.mem_cons_self ..) _ _ (if_pos rfl)) (Lay.nil (by have:=dw.le;omega)))
 refine v_st (cs':=[(.via 165 "Lowest" 127),(.via 165 "Highest" 128)]) st 1 rfl rfl rfl rfl hfl (fun h11 st=>?_);refine za ?_;refine zb (th_n ?_);refine zd ?_;refine yn (Nat.le_trans hfl st.ext.le) (fun dw=>?_)
 have wf:=Wf.start st
 refine zG st.d dw (fun hm vw=>v_fa zF) ?_;refine zG st.d dw (fun hm vw=>zq (vw.bx (st.at (i:=1) rfl)) rfl zF) ?_;refine zG st.d dw (fun hm vw=>za zF) ?_;refine zG st.d dw (fun hm vw=>za zF) ?_;obtain ⟨v12,e13,hF⟩:=zk hF
 refine vL st.d dw (fun hm vw=>Yk (off:=3) (by kernel_rfl) (ct127 N e13 vw.d (FF.sub wf st vw) (RowF.mono FF.base ra0p0) (RowF.mono FF.base ra0p2) (FF.base _ _ hba0)) (fun n' hn'=>vR hn')) (fun n14 hn' dw=>?_)
 refine zG st.d dw (fun hm vw=>v_fa zF) ?_;refine zG st.d dw (fun hm vw=>zq (vw.bx (st.at (i:=1) rfl)) rfl zF) ?_;refine vk st.d dw rfl (fun h15 ex vs=>?_)
 have st:=st.ext1 ex
 refine za ?_;refine za ?_;obtain ⟨v16,e17,hF⟩:=zk hF
 refine Yi (off:=3) (by kernel_rfl) st (ct128 N e17 st.d st.sub ra0p0 ra0p2 hba0) (fun n18 st=>?_)
 refine z7 (cs:=[(i64 v12),(i64 v16)]) rfl ?_;refine v_st (cs':=[(i64 v12),(i64 v16)]) st 0 rfl rfl rfl rfl hfl (fun h19 st=>?_);refine zb (th_n ?_);refine zy ?_;obtain rfl:=inj hF
 exact zI st (Res.c gA (st.at (i:=0) rfl).2.2 (show takeN _ _ = some [(i64 v12),(i64 v16)] from rfl) Res.nil) rfl rfl
theorem ct76 (N:Nat) {a0p0:(List (Int × Int))} {a0p1:Int} {a0p2:(List (Int × Int × (List (Int × Int))))} {a0p3:Int} {a0p4:(Nat → Int)} {a1:Int} {r:(Int × Int)} (hF:sf76 N a0p0 a0p1 a0p2 a0p3 a0p4 a1 = some r) (hd:D h0 n0) (hs:F0.sub h0) {pa0p0:Option (Nat × Nat)} {ca0p0:Nat} {pa0p2:Option (Nat × Nat)} {ca0p2:Nat} {ba0:Nat} (ra0p0:RowF (rP rI rI) 2 F0 pa0p0 ca0p0 a0p0) (ra0p2:RowF (rP rI (rP rI (rL (rP rI rI) 2))) 3 F0 pa0p2 ca0p2 a0p2) (hba0:F0 ba0 = some (.cells ([(.slice pa0p0 (a0p0).length ca0p0),(i64 a0p1),(.slice pa0p2 (a0p2).length ca0p2),(i64 a0p3)] ++ (eI .i64 169 a0p4)) .exact)):C LW fl 76 [(.ptr (some (ba0,0))),(i64 a1)] ⟨h0,n0⟩ (KS (.agg [(i64 r.1),(i64 r.2)]) n0 h0):=by
 unfold sf76 at hF
 refine yd hd hs lw76 rfl rfl (by rfl) (fun st T hT=>?_)
 have hfl:n0 ≤ n0:=Nat.le_refl n0
 have t0:=hT 0 _ rfl
 have t1:=hT 1 _ rfl
 dsimp only [L76]
 refine zd (ze ?_);refine zM st (fun b1 h2 n3 st=>?_);refine zb (th_n ?_);refine zd ?_;refine yn (Nat.le_trans hfl st.ext.le) (fun dw=>?_);obtain ⟨v4,e5,hF⟩:=zk hF;refine vL st.d dw (fun hm vw=>uN (ct104 N e5 vw.d (vw.sub st) ) (fun n' hn'=>vR hn')) (fun n6 hn' dw=>?_);refine zG st.d dw (fun hm vw=>za zF) ?_;refine zG st.d dw (fun hm vw=>v_nc zF) ?_;refine zG st.d dw (fun hm vw=>v_fa zF) ?_;refine zG st.d dw (fun hm vw=>zJ (vs:=[(.slice pa0p0 (a0p0).length ca0p0),(i64 a0p1),(.slice pa0p2 (a0p2).length ca0p2)]) (vw.fz st hba0) rfl zF) ?_;refine zG st.d dw (fun hm vw=>za zF) ?_
 obtain ⟨v7,e8,hF⟩:=zk hF;refine vL st.d dw (fun hm vw=>uN (ct106 N e8 vw.d (vw.sub st) ra0p0 ra0p2) (fun n' hn'=>vR hn')) (fun n9 hn' dw=>?_);refine Yd st.d dw (fun hm vw=>Yl zF) (fun done dw=>?_);refine vk st.d dw rfl (fun h10 ex vs=>?_)
 have st:=St.laid st ex (Lay.cons (b:=n9) (cs:=[.nilFunc,.nilFunc]) (by have:=dw.le;omega) (vs _ (List.mem_cons_self ..) _ _ (if_pos rfl)) (Lay.nil (by have:=dw.le;omega)))
 refine v_st (cs':=[(.via 165 "Lowest" 127),(.via 165 "Highest" 128)]) st 1 rfl rfl rfl rfl hfl (fun h11 st=>?_);refine za ?_;refine zb (th_n ?_);refine zd ?_;refine yn (Nat.le_trans hfl st.ext.le) (fun dw=>?_)
 have wf:=Wf.start st
 refine zG st.d dw (fun hm vw=>v_fa zF) ?_;refine zG st.d dw (fun hm vw=>zq (vw.bx (st.at (i:=1) rfl)) rfl zF) ?_;refine zG st.d dw (fun hm vw=>za zF) ?_;refine zG st.d dw (fun hm vw=>za zF) ?_;obtain ⟨v12,e13,hF⟩:=zk hF
 refine vL st.d dw (fun hm vw=>Yk (off:=3) (by kernel_rfl) (ct128 N e13 vw.d (FF.sub wf st vw) (RowF.mono FF.base ra0p0) (RowF.mono FF.base ra0p2) (FF.base _ _ hba0)) (fun n' hn'=>vR hn')) (fun n14 hn' dw=>?_)
 obtain ⟨q15,hF⟩:=zn hF;refine zG st.d dw (fun hm vw=>kK q15 zF) ?_;refine zG st.d dw (fun hm vw=>v_fa zF) ?_;refine zG st.d dw (fun hm vw=>zq (vw.bx (st.at (i:=1) rfl)) rfl zF) ?_;refine vk st.d dw rfl (fun h16 ex vs=>?_)
 have st:=st.ext1 ex
 refine za ?_;refine za ?_;obtain ⟨v17,e18,hF⟩:=zk hF
 refine Yi (off:=3) (by kernel_rfl) st (ct127 N e18 st.d st.sub ra0p0 ra0p2 hba0) (fun n19 st=>?_)
 obtain ⟨q20,hF⟩:=zn hF;refine kK q20 ?_;refine z7 (cs:=[(i64 (-v12)),(i64 (-v17))]) rfl ?_;refine v_st (cs':=[(i64 (-v12)),(i64 (-v17))]) st 0 rfl rfl rfl rfl hfl (fun h21 st=>?_);refine zb (th_n ?_);refine zy ?_;obtain rfl:=inj hF
 exact zI st (Res.c gA (st.at (i:=0) rfl).2.2 (show takeN _ _ = some [(i64 (-v12)),(i64 (-v17))] from rfl) Res.nil) rfl rfl
end Go.Hx.V

namespace Go.Hx.V
open Go.Hx
set_option maxRecDepth 20000
set_option maxHeartbeats 4000000
variable {fl : Nat} {h0 : Tr HBlk} {n0 : Nat} {F0 : PH}
attribute [local irreducible] W R C thenH inBlockH Tr.get Tr.set lo ck bnd ix iter
theorem ct98 (N:Nat) {a0:(List (Int × Int))} {r:Bool} (hF:sf98 N a0 = some r) (hd:D h0 n0) (hs:F0.sub h0) {pa0:Option (Nat × Nat)} {ca0:Nat} (ra0:RowF (rP rI rI) 2 F0 pa0 ca0 a0):C LW fl 98 [(.slice pa0 (a0).length ca0),(.func 99 [] [])] ⟨h0,n0⟩ (KS (.bool r) n0 h0):=by
 unfold sf98 at hF
 refine yd hd hs lw98 rfl rfl (by rfl) (fun st T hT=>?_)
 have hfl:n0 ≤ n0:=Nat.le_refl n0
 have t0:=hT 0 _ rfl
 have t1:=hT 1 _ rfl
 dsimp only [L98]
 refine zd (ze ?_);refine za ?_;refine zb (th_n ?_);refine zd ?_;refine zd (ze ?_);refine za ?_;refine zZ ?_;refine za ?_;refine zb (th_n ?_);refine zt ?_;obtain ⟨y14,hy,hF⟩:=zk hF;refine zT (sf98_L1 N a0) (fun x1 T ds2 h nx=>∃ (F2:PH),ds2 = [] ∧ PH.le F0 F2 ∧ St n0 h0 F0 F2 h nx [] ∧ T.get 1 = some (.func 99 [] []) ∧ T.get 7 = some (.slice pa0 (a0).length ca0) ∧ T.get 8 = some (i64 ((a0).length:Int)) ∧ T.get 9 = some (i64 x1)) (fun y e a σ=>(∃ u,y = (.inl u) ∧ e = .ret ∧ a.nt = 18 ∧ ∃ (F16:PH),a.defers = [] ∧ PH.le F0 F16 ∧ St n0 h0 F0 F16 σ.h σ.nx [] ∧ a.tmps.get 4 = some (.bool false)) ∨ (∃ u,y = (.inr u) ∧ e = .exit 0 ∧ a.nt = 18 ∧ ∃ (F18:PH),a.defers = [] ∧ PH.le F0 F18 ∧ St n0 h0 F0 F18 σ.h σ.nx [])) (fun x1 T ds2 h nx s hp hF=>?_) N _ y14 _ _ _ _ hy ⟨F0,rfl,(PH.le.refl _),st,gA,gA,gA,gA⟩ (fun e a σ hne hq=>?_)
 ·obtain ⟨F2,rfl,le2,st,t1,t7,t8,t9⟩:=hp;unfold sf98_L1 at hF;unfold L98w0;refine zd (ze ?_);refine z6 ?_;refine zb (th_n ?_);refine zd ?_;refine zC (fun hb19=>?_) (fun hb19=>?_)
  ·have hF:=zw hb19 hF;refine zD (th_n ?_);refine zd ?_;refine zt ?_;refine zd (ze ?_);obtain ⟨n20,x20,z20,l20,g20,hF⟩:=zS hF;obtain ⟨b20,o20,s20,j20,r20,e20,f20,k20,⟨_,_,rfl,rfl,rfl⟩⟩:=RowF.get ra0 g20;refine yc e20 z20 l20 ?_;refine zJ (st.sub _ _ (le2 _ _ f20)) k20 ?_;refine zM st (fun b21 h22 n23 st=>?_);refine v_st (cs':=[(i64 x20.1),(i64 x20.2)]) st 0 rfl rfl rfl rfl hfl (fun h24 st=>?_);refine zb (th_n ?_);refine zd (ze ?_);refine za ?_;refine zJ (vs:=[(i64 x20.1),(i64 x20.2)]) (st.at (i:=0) rfl).2.2 rfl ?_;obtain ⟨v25,e26,hF⟩:=zk hF;refine zU st (ct99 N e26 st.d st.sub ) (fun n27 st=>?_)
   refine yE ?_;refine zb (th_n ?_);refine zC (fun hb28=>?_) (fun hb28=>?_)
   ·have hF:=zw hb28 hF;refine zd (ze ?_);refine za ?_;refine zb (th_n ?_);refine zy ?_;refine ib_r ?_;refine th_r ?_;refine th_r ?_;refine ⟨_,(inj hF).symm,.inl ⟨_,rfl,rfl,rfl,?_⟩⟩;dsimp only
    exact ⟨F2,rfl,le2,(st.drop (by first | exact List.Sublist.refl _ | (repeat first | exact List.nil_sublist _ | refine List.Sublist.cons_cons _ ?_ | refine List.Sublist.cons _ ?_))),gA⟩
   ·have hF:=zx hb28 hF;refine zD ?_;refine ib_n ?_;refine th_n ?_;refine ze ?_;obtain ⟨q29,hF⟩:=zn hF;refine zX q29 ?_;refine za ?_;refine zb ?_;refine thn ⟨_,(inj hF).symm,rfl,?_⟩;dsimp only
    exact ⟨F2,rfl,le2,(st.drop (by first | exact List.Sublist.refl _ | (repeat first | exact List.nil_sublist _ | refine List.Sublist.cons_cons _ ?_ | refine List.Sublist.cons _ ?_))),gA,gA,gA,gA⟩
  ·have hF:=zx hb19 hF;refine z5 ?_;refine th_e ?_;refine th_e ?_;refine ⟨_,(inj hF).symm,.inr (⟨_,rfl,rfl,rfl,?_⟩)⟩;dsimp only
   exact ⟨F2,rfl,le2,st⟩
 ·rcases hq with hq | hq
  ·obtain ⟨N9,T,ds16⟩:=a;obtain ⟨h30,n31⟩:=σ;obtain ⟨w15,rfl,rfl,e1,F16,e2,le16,st,t4⟩:=hq
   dsimp only at e1 e2
   subst e1
   subst e2
   dsimp only at st t4
   have hF:=yQ hF;refine ib_r ?_;refine th_r ?_;obtain rfl:=inj hF
   exact zI st (Res.t gA Res.nil) rfl rfl
  ·obtain ⟨N9,T,ds18⟩:=a;obtain ⟨h32,n33⟩:=σ;obtain ⟨w17,rfl,rfl,e1,F18,e2,le18,st⟩:=hq
   dsimp only at e1 e2
   subst e1
   subst e2
   dsimp only at st
   have hF:=yP hF;refine ib_e ?_;refine th_n ?_;refine zd (ze ?_);refine za ?_;refine zb (th_n ?_);refine zy ?_;obtain rfl:=inj hF
   exact zI st (Res.t gA Res.nil) rfl rfl
theorem ct124 (N:Nat) {a0:(List (Int × Int))} {a1f0_0:(List (Int × Int))} {a1f0_1:Int} {a1f0_2:(List (Int × Int × (List (Int × Int))))} {r:Bool} (hF:sf124 N a0 a1f0_0 a1f0_1 a1f0_2 = some r) (hd:D h0 n0) (hs:F0.sub h0) {pa0:Option (Nat × Nat)} {ca0:Nat} {pa1f0_0:Option (Nat × Nat)} {ca1f0_0:Nat} {pa1f0_2:Option (Nat × Nat)} {ca1f0_2:Nat} (ra0:RowF (rP rI rI) 2 F0 pa0 ca0 a0) (ra1f0_0:RowF (rP rI rI) 2 F0 pa1f0_0 ca1f0_0 a1f0_0) (ra1f0_2:RowF (rP rI (rP rI (rL (rP rI rI) 2))) 3 F0 pa1f0_2 ca1f0_2 a1f0_2):C LW fl 124 [(.slice pa0 (a0).length ca0),(.func 125 [(.agg [(.slice pa1f0_0 (a1f0_0).length ca1f0_0),(i64 a1f0_1),(.slice pa1f0_2 (a1f0_2).length ca1f0_2)])] [])] ⟨h0,n0⟩ (KS (.bool r) n0 h0):=by
 unfold sf124 at hF
 refine yd hd hs lw124 rfl rfl (by rfl) (fun st T hT=>?_)
 have hfl:n0 ≤ n0:=Nat.le_refl n0
 have t0:=hT 0 _ rfl
 have t1:=hT 1 _ rfl
 dsimp only [L124]
 refine zd (ze ?_);refine za ?_;refine zb (th_n ?_);refine zd ?_;refine zd (ze ?_);refine za ?_;refine zZ ?_;refine za ?_;refine zb (th_n ?_);refine zt ?_;obtain ⟨y14,hy,hF⟩:=zk hF;refine zT (sf124_L1 N a0 a1f0_0 a1f0_1 a1f0_2) (fun x1 T ds2 h nx=>∃ (F2:PH),ds2 = [] ∧ PH.le F0 F2 ∧ St n0 h0 F0 F2 h nx [] ∧ T.get 1 = some (.func 125 [(.agg [(.slice pa1f0_0 (a1f0_0).length ca1f0_0),(i64 a1f0_1),(.slice pa1f0_2 (a1f0_2).length ca1f0_2)])] []) ∧ T.get 7 = some (.slice pa0 (a0).length ca0) ∧ T.get 8 = some (i64 ((a0).length:Int)) ∧ T.get 9 = some (i64 x1)) (fun y e a σ=>(∃ u,y = (.inl u) ∧ e = .ret ∧ a.nt = 18 ∧ ∃ (F16:PH),a.defers = [] ∧ PH.le F0 F16 ∧ St n0 h0 F0 F16 σ.h σ.nx [] ∧ a.tmps.get 4 = some (.bool false)) ∨ (∃ u,y = (.inr u) ∧ e = .exit 0 ∧ a.nt = 18 ∧ ∃ (F18:PH),a.defers = [] ∧ PH.le F0 F18 ∧ St n0 h0 F0 F18 σ.h σ.nx [])) (fun x1 T ds2 h nx s hp hF=>?_) N _ y14 _ _ _ _ hy ⟨F0,rfl,(PH.le.refl _),st,gA,gA,gA,gA⟩ (fun e a σ hne hq=>?_)
 ·obtain ⟨F2,rfl,le2,st,t1,t7,t8,t9⟩:=hp;unfold sf124_L1 at hF;unfold L124w0;refine zd (ze ?_);refine z6 ?_;refine zb (th_n ?_);refine zd ?_;refine zC (fun hb19=>?_) (fun hb19=>?_)
  ·have hF:=zw hb19 hF;refine zD (th_n ?_);refine zd ?_;refine zt ?_;refine zd (ze ?_);obtain ⟨n20,x20,z20,l20,g20,hF⟩:=zS hF;obtain ⟨b20,o20,s20,j20,r20,e20,f20,k20,⟨_,_,rfl,rfl,rfl⟩⟩:=RowF.get ra0 g20;refine yc e20 z20 l20 ?_;refine zJ (st.sub _ _ (le2 _ _ f20)) k20 ?_;refine zM st (fun b21 h22 n23 st=>?_);refine v_st (cs':=[(i64 x20.1),(i64 x20.2)]) st 0 rfl rfl rfl rfl hfl (fun h24 st=>?_);refine zb (th_n ?_);refine zd (ze ?_);refine za ?_;refine zJ (vs:=[(i64 x20.1),(i64 x20.2)]) (st.at (i:=0) rfl).2.2 rfl ?_;obtain ⟨v25,e26,hF⟩:=zk hF;refine zU st (ct125 N e26 st.d st.sub (RowF.mono le2 ra1f0_0) (RowF.mono le2 ra1f0_2)) (fun n27 st=>?_)
   refine yE ?_;refine zb (th_n ?_);refine zC (fun hb28=>?_) (fun hb28=>?_)
   ·have hF:=zw hb28 hF;refine zd (ze ?_);refine za ?_;refine zb (th_n ?_);refine zy ?_;refine ib_r ?_;refine th_r ?_;refine th_r ?_;refine ⟨_,(inj hF).symm,.inl ⟨_,rfl,rfl,rfl,?_⟩⟩;dsimp only
    exact ⟨F2,rfl,le2,(st.drop (by first | exact List.Sublist.refl _ | (repeat first | exact List.nil_sublist _ | refine List.Sublist.cons_cons _ ?_ | refine List.Sublist.cons _ ?_))),gA⟩
   ·have hF:=zx hb28 hF;refine zD ?_;refine ib_n ?_;refine th_n ?_;refine ze ?_;obtain ⟨q29,hF⟩:=zn hF;refine zX q29 ?_;refine za ?_;refine zb ?_;refine thn ⟨_,(inj hF).symm,rfl,?_⟩;dsimp only
    exact ⟨F2,rfl,le2,(st.drop (by first | exact List.Sublist.refl _ | (repeat first | exact List.nil_sublist _ | refine List.Sublist.cons_cons _ ?_ | refine List.Sublist.cons _ ?_))),gA,gA,gA,gA⟩
  ·have hF:=zx hb19 hF;refine z5 ?_;refine th_e ?_;refine th_e ?_;refine ⟨_,(inj hF).symm,.inr (⟨_,rfl,rfl,rfl,?_⟩)⟩;dsimp only
   exact ⟨F2,rfl,le2,st⟩
 ·rcases hq with hq | hq
  ·obtain ⟨N9,T,ds16⟩:=a;obtain ⟨h30,n31⟩:=σ;obtain ⟨w15,rfl,rfl,e1,F16,e2,le16,st,t4⟩:=hq
   dsimp only at e1 e2
   subst e1
   subst e2
   dsimp only at st t4
   have hF:=yQ hF;refine ib_r ?_;refine th_r ?_;obtain rfl:=inj hF
   exact zI st (Res.t gA Res.nil) rfl rfl
  ·obtain ⟨N9,T,ds18⟩:=a;obtain ⟨h32,n33⟩:=σ;obtain ⟨w17,rfl,rfl,e1,F18,e2,le18,st⟩:=hq
   dsimp only at e1 e2
   subst e1
   subst e2
   dsimp only at st
   have hF:=yP hF;refine ib_e ?_;refine th_n ?_;refine zd (ze ?_);refine za ?_;refine zb (th_n ?_);refine zy ?_;obtain rfl:=inj hF
   exact zI st (Res.t gA Res.nil) rfl rfl
end Go.Hx.V

namespace Go.Hx.V
open Go.Hx
set_option maxRecDepth 20000
set_option maxHeartbeats 4000000
variable {fl : Nat} {h0 : Tr HBlk} {n0 : Nat} {F0 : PH}
attribute [local irreducible] W R C thenH inBlockH Tr.get Tr.set lo ck bnd ix iter
theorem ct73 (N:Nat) {a0_0:(List (Int × Int))} {a0_1:Int} {a0_2:(List (Int × Int × (List (Int × Int))))} {r:Int} (hF:sf73 N a0_0 a0_1 a0_2 = some r) (hd:D h0 n0) (hs:F0.sub h0) {pa0_0:Option (Nat × Nat)} {ca0_0:Nat} {pa0_2:Option (Nat × Nat)} {ca0_2:Nat} (ra0_0:RowF (rP rI rI) 2 F0 pa0_0 ca0_0 a0_0) (ra0_2:RowF (rP rI (rP rI (rL (rP rI rI) 2))) 3 F0 pa0_2 ca0_2 a0_2):C LW fl 73 [(.agg [(.slice pa0_0 (a0_0).length ca0_0),(i64 a0_1),(.slice pa0_2 (a0_2).length ca0_2)])] ⟨h0,n0⟩ (KS (i64 r) n0 h0):=by
 unfold sf73 at hF
 refine yd hd hs lw73 rfl rfl (by rfl) (fun st T hT=>?_)
 have hfl:n0 ≤ n0:=Nat.le_refl n0
 have t0:=hT 0 _ rfl
 dsimp only [L73]
 refine zd (ze ?_);refine z9 st (fun b1 h2 n3 st=>?_);refine za ?_;refine zb (th_n ?_);obtain ⟨y11,hA12,hF⟩:=zk hF;refine yJ (fun T ds17 h nx=>∃ u,y11 = (.inr u) ∧ ∃ (F17:PH),ds17 = [] ∧ PH.le F0 F17 ∧ St n0 h0 F0 F17 h nx [.bx b1 [(.slice pa0_0 (a0_0).length ca0_0),(i64 a0_1),(.slice pa0_2 (a0_2).length ca0_2)]] ∧ T.get 1 = some (.ptr (some (b1,0)))) ?_ (fun T ds17 h nx hp=>?_)
 ·have hK13:=hF
  have hF:=hA12;obtain ⟨y19,hA20,hF⟩:=zk hF;refine yJ (fun T ds22 h nx=>∃ (F22:PH),ds22 = [] ∧ PH.le F0 F22 ∧ St n0 h0 F0 F22 h nx [.bx b1 [(.slice pa0_0 (a0_0).length ca0_0),(i64 a0_1),(.slice pa0_2 (a0_2).length ca0_2)]] ∧ T.get 1 = some (.ptr (some (b1,0))) ∧ T.get 17 = some (.bool y19)) ?_ (fun T ds22 h nx hp=>?_)
  ·have hK21:=hF
   have hF:=hA20;refine ze ?_;refine v_fa ?_;refine zq (st.at (i:=0) rfl).2.2 rfl ?_;refine zZ ?_;refine ja ?_;refine za ?_
   rcases Bool.eq_false_or_eq_true (decide ((6:Int) < ((a0_0).length:Int))) with hb23 | hb23
   ·have hF:=zw hb23 hF;refine zh hb23 ?_;refine zh hb23 ?_;refine zh hb23 ?_;refine zh hb23 ?_;refine zQ hb23 ?_;refine zb ?_;obtain rfl:=inj hF;refine thn ⟨rfl,?_⟩;dsimp only
    exact ⟨F0,rfl,(PH.le.refl _),st,gA,gA⟩
   ·have hF:=zx hb23 hF;refine zj hb23 (v_fa ?_);refine zj hb23 (zq (st.at (i:=0) rfl).2.2 rfl ?_);refine zj hb23 (zZ ?_);refine zj hb23 (ja ?_);refine zB hb23 ?_;refine zb ?_;obtain rfl:=inj hF;refine thn ⟨rfl,?_⟩;dsimp only
    exact ⟨F0,rfl,(PH.le.refl _),st,gA,gA⟩
  ·obtain ⟨F22,rfl,le22,st,t1,t17⟩:=hp;refine zC (fun hb24=>?_) (fun hb24=>?_)
   ·have hF:=zw hb24 hF;refine zd (ze ?_);refine za ?_;refine zb (th_n ?_);refine zy ?_;obtain rfl:=inj hF;have hF:=hK13;have hF:=yQ hF;refine th_r ?_;obtain rfl:=inj hF
    exact zI st (Res.t gA Res.nil) rfl rfl
   ·have hF:=zx hb24 hF;refine zD ?_;obtain rfl:=inj hF;refine thn ⟨rfl,_,rfl,?_⟩;dsimp only
    exact ⟨F22,rfl,le22,st,gA⟩
 ·obtain ⟨w16,rfl,F17,rfl,le17,st,t1⟩:=hp;have hF:=yP hF;obtain ⟨y39,hA40,hF⟩:=zk hF;refine yJ (fun T ds45 h nx=>∃ u,y39 = (.inr u) ∧ ∃ (F45:PH),ds45 = [] ∧ PH.le F17 F45 ∧ St n0 h0 F0 F45 h nx [.bx b1 [(.slice pa0_0 (a0_0).length ca0_0),(i64 a0_1),(.slice pa0_2 (a0_2).length ca0_2)]] ∧ T.get 1 = some (.ptr (some (b1,0)))) ?_ (fun T ds45 h nx hp=>?_)
  ·have hK41:=hF
   have hF:=hA40;obtain ⟨y50,hA51,hF⟩:=zk hF;refine yJ (fun T ds53 h nx=>∃ (F53:PH),ds53 = [] ∧ PH.le F17 F53 ∧ St n0 h0 F0 F53 h nx [.bx b1 [(.slice pa0_0 (a0_0).length ca0_0),(i64 a0_1),(.slice pa0_2 (a0_2).length ca0_2)]] ∧ T.get 1 = some (.ptr (some (b1,0))) ∧ T.get 27 = some (.bool y50)) ?_ (fun T ds53 h nx hp=>?_)
   ·have hK52:=hF
    have hF:=hA51;refine ze ?_;refine v_fa ?_;refine zq (st.at (i:=0) rfl).2.2 rfl ?_;refine zZ ?_;refine Yh ?_;refine za ?_
    rcases Bool.eq_false_or_eq_true (decide (((a0_0).length:Int) = (0:Int))) with hb54 | hb54
    ·have hF:=zw hb54 hF;refine zh hb54 ?_;refine zh hb54 ?_;refine zh hb54 ?_;refine zh hb54 ?_;refine zQ hb54 ?_;refine zb ?_;obtain rfl:=inj hF;refine thn ⟨rfl,?_⟩;dsimp only
     exact ⟨F17,rfl,(PH.le.refl _),st,gA,gA⟩
    ·have hF:=zx hb54 hF;refine zj hb54 (v_fa ?_);refine zj hb54 (zq (st.at (i:=0) rfl).2.2 rfl ?_);obtain ⟨v55,e56,hF⟩:=zk hF;refine zj hb54 (zU st (ct32 N e56 st.d st.sub ) (fun n57 st=>?_));refine zj hb54 (yE ?_);refine zB hb54 ?_;refine zb ?_;obtain rfl:=inj hF;refine thn ⟨rfl,?_⟩;dsimp only
     exact ⟨F17,rfl,(PH.le.refl _),st,gA,gA⟩
   ·obtain ⟨F53,rfl,le53,st,t1,t27⟩:=hp
    refine zC (fun hb59=>?_) (fun hb59=>?_)
    ·have hF:=zw hb59 hF;refine zd (ze ?_);refine za ?_;refine zb (th_n ?_);refine zy ?_;obtain rfl:=inj hF;have hF:=hK41;have hF:=yQ hF;refine th_r ?_;obtain rfl:=inj hF
     exact zI st (Res.t gA Res.nil) rfl rfl
    ·have hF:=zx hb59 hF;refine zD ?_;obtain rfl:=inj hF;refine thn ⟨rfl,_,rfl,?_⟩;dsimp only
     exact ⟨F53,rfl,le53,st,gA⟩
  ·obtain ⟨w44,rfl,F45,rfl,le45,st,t1⟩:=hp;have hF:=yP hF
   have le61:=PH.le.trans le17 le45
   refine zd ?_;refine zd (ze ?_);refine za ?_;refine zb (th_n ?_);refine zt ?_;obtain ⟨y73,hy,hF⟩:=zk hF;refine zT (sf73_L1 N a0_0) (fun x62 T ds63 h nx=>∃ (F63:PH),ds63 = [] ∧ PH.le F45 F63 ∧ St n0 h0 F0 F63 h nx [.bx b1 [(.slice pa0_0 (a0_0).length ca0_0),(i64 a0_1),(.slice pa0_2 (a0_2).length ca0_2)]] ∧ T.get 1 = some (.ptr (some (b1,0))) ∧ T.get 3 = some (i64 x62)) (fun y e a σ=>(∃ u,y = (.inl u) ∧ e = .ret ∧ a.nt = 105 ∧ ∃ (F75:PH),a.defers = [] ∧ PH.le F45 F75 ∧ St n0 h0 F0 F75 σ.h σ.nx [.bx b1 [(.slice pa0_0 (a0_0).length ca0_0),(i64 a0_1),(.slice pa0_2 (a0_2).length ca0_2)]] ∧ a.tmps.get 2 = some (i64 u)) ∨ (∃ u,y = (.inr u) ∧ e = .exit 0 ∧ a.nt = 105 ∧ ∃ (F77:PH),a.defers = [] ∧ PH.le F45 F77 ∧ St n0 h0 F0 F77 σ.h σ.nx [.bx b1 [(.slice pa0_0 (a0_0).length ca0_0),(i64 a0_1),(.slice pa0_2 (a0_2).length ca0_2)]] ∧ a.tmps.get 1 = some (.ptr (some (b1,0))))) (fun x62 T ds63 h nx s hp hF=>?_) N _ y73 _ _ _ _ hy ⟨F45,rfl,(PH.le.refl _),st,gA,gA⟩ (fun e a σ hne hq=>?_)
   ·obtain ⟨F63,rfl,le63,st,t1,t3⟩:=hp
    have le64:=PH.le.trans le61 le63
    unfold sf73_L1 at hF;unfold L73w3;refine zd ?_;refine zd (ze ?_);refine za ?_;refine v_fa ?_;refine zq (st.at (i:=0) rfl).2.2 rfl ?_;refine zZ ?_;refine z6 ?_;refine zb (th_n ?_);refine zC (fun hb78=>?_) (fun hb78=>?_)
    ·have hF:=zw hb78 hF;refine zD (th_n ?_);refine zd ?_;refine zt ?_;refine zd (ze ?_);refine v_fa ?_;refine zq (st.at (i:=0) rfl).2.2 rfl ?_;refine za ?_;obtain ⟨n79,x79,z79,l79,g79,hF⟩:=zS hF;obtain ⟨b79,o79,s79,j79,r79,e79,f79,k79,⟨_,_,rfl,rfl,rfl⟩⟩:=RowF.get ra0_0 g79;refine yc e79 z79 l79 ?_;refine zJ (st.sub _ _ (le64 _ _ f79)) k79 ?_;obtain ⟨v80,e81,hF⟩:=zk hF;refine zU st (ct90 N e81 st.d st.sub ) (fun n82 st=>?_);refine yE ?_;refine zb (th_n ?_);refine zC (fun hb83=>?_) (fun hb83=>?_)
     ·have hF:=zw hb83 hF;refine zd (ze ?_);refine za ?_;refine zb (th_n ?_);refine zy ?_;refine ib_r ?_;refine th_r ?_;refine th_r ?_;refine ⟨_,(inj hF).symm,.inl ⟨_,rfl,rfl,rfl,?_⟩⟩;dsimp only
      exact ⟨F63,rfl,le63,st,gA⟩
     ·have hF:=zx hb83 hF;refine zD ?_;refine ib_n ?_;refine th_n ?_;refine ze ?_;refine za ?_;obtain ⟨q84,hF⟩:=zn hF;refine zX q84 ?_;refine za ?_;refine zb ?_;refine thn ⟨_,(inj hF).symm,rfl,?_⟩;dsimp only
      exact ⟨F63,rfl,le63,st,gA,gA⟩
    ·have hF:=zx hb78 hF;refine z5 ?_;refine th_e ?_;refine th_e ?_;refine ⟨_,(inj hF).symm,.inr (⟨_,rfl,rfl,rfl,?_⟩)⟩;dsimp only
     exact ⟨F63,rfl,le63,st,gA⟩
   ·rcases hq with hq | hq
    ·obtain ⟨N9,T,ds75⟩:=a;obtain ⟨h87,n88⟩:=σ;obtain ⟨w74,rfl,rfl,e1,F75,e2,le75,st,t2⟩:=hq
     dsimp only at e1 e2
     subst e1
     subst e2
     dsimp only at st t2
     have hF:=yQ hF;refine ib_r ?_;refine th_r ?_;obtain rfl:=inj hF
     exact zI st (Res.t gA Res.nil) rfl rfl
    ·obtain ⟨N9,T,ds77⟩:=a;obtain ⟨h91,n92⟩:=σ;obtain ⟨w76,rfl,rfl,e1,F77,e2,le77,st,t1⟩:=hq
     dsimp only at e1 e2
     subst e1
     subst e2
     dsimp only at st t1
     have le89:=PH.le.trans le61 le77
     have hF:=yP hF;refine ib_e ?_;refine th_n ?_;refine zd ?_;refine zd (ze ?_);refine za ?_;refine zb (th_n ?_);refine zt ?_;obtain ⟨y381,hy,hF⟩:=zk hF;refine zT (sf73_L4 N a0_0 a0_2) (fun x93 T ds94 h nx=>∃ (F94:PH),ds94 = [] ∧ PH.le F77 F94 ∧ St n0 h0 F0 F94 h nx [.bx b1 [(.slice pa0_0 (a0_0).length ca0_0),(i64 a0_1),(.slice pa0_2 (a0_2).length ca0_2)]] ∧ T.get 1 = some (.ptr (some (b1,0))) ∧ T.get 4 = some (i64 x93)) (fun y e a σ=>(∃ u,y = (.inl u) ∧ e = .ret ∧ a.nt = 105 ∧ ∃ (F383:PH),a.defers = [] ∧ PH.le F77 F383 ∧ St n0 h0 F0 F383 σ.h σ.nx [.bx b1 [(.slice pa0_0 (a0_0).length ca0_0),(i64 a0_1),(.slice pa0_2 (a0_2).length ca0_2)]] ∧ a.tmps.get 2 = some (i64 u)) ∨ (∃ u,y = (.inr u) ∧ e = .exit 2 ∧ a.nt = 105 ∧ ∃ (F385:PH),a.defers = [] ∧ PH.le F77 F385 ∧ St n0 h0 F0 F385 σ.h σ.nx [.bx b1 [(.slice pa0_0 (a0_0).length ca0_0),(i64 a0_1),(.slice pa0_2 (a0_2).length ca0_2)]])) (fun x93 T ds94 h nx s hp hF=>?_) N _ y381 _ _ _ _ hy ⟨F77,rfl,(PH.le.refl _),st,gA,gA⟩ (fun e a σ hne hq=>?_)
     ·obtain ⟨F94,rfl,le94,st,t1,t4⟩:=hp
      have le95:=PH.le.trans le89 le94
      unfold sf73_L4 at hF;unfold L73w2;refine zd ?_;refine zd (ze ?_);refine za ?_;refine v_fa ?_;refine zq (st.at (i:=0) rfl).2.2 rfl ?_;refine zZ ?_;refine z6 ?_;refine zb (th_n ?_);refine zC (fun hb386=>?_) (fun hb386=>?_)
      ·have hF:=zw hb386 hF;refine zD (th_n ?_);refine zd ?_;refine zt ?_;refine zd (ze ?_);refine v_fa ?_;refine zq (st.at (i:=0) rfl).2.2 rfl ?_;refine za ?_;obtain ⟨n387,x387,z387,l387,g387,hF⟩:=zS hF;obtain ⟨b387,o387,s387,j387,r387,e387,f387,k387,⟨_,_,rfl,rfl,⟨_,_,rfl,rfl,⟨py388,cy388,rfl,ry388⟩⟩⟩⟩:=RowF.get ra0_2 g387;refine yc e387 z387 l387 ?_;refine zJ (st.sub _ _ (le95 _ _ f387)) k387 ?_;refine zM st (fun b389 h390 n391 st=>?_);refine v_st (cs':=[(i64 x387.1),(i64 x387.2.1),(.slice py388 (x387.2.2).length cy388)]) st 1 rfl rfl rfl rfl hfl (fun h392 st=>?_);refine zb ?_
       refine th_n ?_;refine zd ?_;refine zd (ze ?_);refine v_fa ?_;refine zJ (vs:=[(i64 x387.1),(i64 x387.2.1)]) (st.at (i:=1) rfl).2.2 rfl ?_;obtain ⟨v393,e394,hF⟩:=zk hF;refine zU st (ct90 N e394 st.d st.sub ) (fun n395 st=>?_);refine yE ?_;refine zb (th_n ?_);refine zC (fun hb396=>?_) (fun hb396=>?_)
       ·have hF:=zw hb396 hF;refine zd (ze ?_);refine za ?_;refine zb (th_n ?_);refine zy ?_;refine th_r ?_;refine ib_r ?_;refine th_r ?_;refine th_r ?_;refine ⟨_,(inj hF).symm,.inl ⟨_,rfl,rfl,rfl,?_⟩⟩;dsimp only
        exact ⟨F94,rfl,le94,(st.drop (by first | exact List.Sublist.refl _ | (repeat first | exact List.nil_sublist _ | refine List.Sublist.cons_cons _ ?_ | refine List.Sublist.cons _ ?_))),gA⟩
       ·have hF:=zx hb396 hF;refine zD (th_n ?_);refine zd (ze ?_);refine za ?_;refine zb (th_n ?_);refine zt ?_;obtain ⟨y527,hy,hF⟩:=zk hF;refine zT (sf73_L3 N a0_0 x387) (fun x397 T ds398 h nx=>∃ (F398:PH),ds398 = [] ∧ PH.le F94 F398 ∧ St n0 h0 F0 F398 h nx [.bx b1 [(.slice pa0_0 (a0_0).length ca0_0),(i64 a0_1),(.slice pa0_2 (a0_2).length ca0_2)],.bx b389 [(i64 x387.1),(i64 x387.2.1),(.slice py388 (x387.2.2).length cy388)]] ∧ T.get 1 = some (.ptr (some (b1,0))) ∧ T.get 4 = some (i64 x93) ∧ T.get 5 = some (.ptr (some (b389,0))) ∧ T.get 6 = some (i64 x397)) (fun y e a σ=>(∃ u,y = (.inl u) ∧ e = .ret ∧ a.nt = 105 ∧ ∃ (F529:PH),a.defers = [] ∧ PH.le F94 F529 ∧ St n0 h0 F0 F529 σ.h σ.nx [.bx b1 [(.slice pa0_0 (a0_0).length ca0_0),(i64 a0_1),(.slice pa0_2 (a0_2).length ca0_2)],.bx b389 [(i64 x387.1),(i64 x387.2.1),(.slice py388 (x387.2.2).length cy388)]] ∧ a.tmps.get 2 = some (i64 u)) ∨ (∃ u,y = (.inr u) ∧ e = .exit 4 ∧ a.nt = 105 ∧ ∃ (F531:PH),a.defers = [] ∧ PH.le F94 F531 ∧ St n0 h0 F0 F531 σ.h σ.nx [.bx b1 [(.slice pa0_0 (a0_0).length ca0_0),(i64 a0_1),(.slice pa0_2 (a0_2).length ca0_2)],.bx b389 [(i64 x387.1),(i64 x387.2.1),(.slice py388 (x387.2.2).length cy388)]] ∧ a.tmps.get 1 = some (.ptr (some (b1,0))) ∧ a.tmps.get 4 = some (i64 x93))) (fun x397 T ds398 h nx s hp hF=>?_) N _ y527 _ _ _ _ hy ⟨F94,rfl,(PH.le.refl _),st,gA,gA,gA,gA⟩ (fun e a σ hne hq=>?_)
        ·obtain ⟨F398,rfl,le398,st,t1,t4,t5,t6⟩:=hp
         have le399:=PH.le.trans le95 le398
         unfold sf73_L3 at hF;unfold L73w1;refine zd ?_;refine zd (ze ?_);refine za ?_;refine v_fa ?_;refine zq (st.at (i:=1) rfl).2.2 rfl ?_;refine zZ ?_;refine z6 ?_;refine zb (th_n ?_);refine zC (fun hb532=>?_) (fun hb532=>?_)
         ·have hF:=zw hb532 hF;refine zD (th_n ?_);refine zd ?_;refine zt ?_;obtain ⟨y565,hA566,hF⟩:=zk hF;refine yJ (fun T ds571 h nx=>∃ u,y565 = (.inr u) ∧ ∃ (F571:PH),ds571 = [] ∧ PH.le F398 F571 ∧ St n0 h0 F0 F571 h nx [.bx b1 [(.slice pa0_0 (a0_0).length ca0_0),(i64 a0_1),(.slice pa0_2 (a0_2).length ca0_2)],.bx b389 [(i64 x387.1),(i64 x387.2.1),(.slice py388 (x387.2.2).length cy388)]] ∧ T.get 1 = some (.ptr (some (b1,0))) ∧ T.get 4 = some (i64 x93) ∧ T.get 5 = some (.ptr (some (b389,0))) ∧ T.get 6 = some (i64 x397)) ?_ (fun T ds571 h nx hp=>?_)
          ·have hK567:=hF
           have hF:=hA566;obtain ⟨y583,hA584,hF⟩:=zk hF;refine yJ (fun T ds586 h nx=>∃ (F586:PH),ds586 = [] ∧ PH.le F398 F586 ∧ St n0 h0 F0 F586 h nx [.bx b1 [(.slice pa0_0 (a0_0).length ca0_0),(i64 a0_1),(.slice pa0_2 (a0_2).length ca0_2)],.bx b389 [(i64 x387.1),(i64 x387.2.1),(.slice py388 (x387.2.2).length cy388)]] ∧ T.get 1 = some (.ptr (some (b1,0))) ∧ T.get 4 = some (i64 x93) ∧ T.get 5 = some (.ptr (some (b389,0))) ∧ T.get 6 = some (i64 x397) ∧ T.get 86 = some (.bool y583)) ?_ (fun T ds586 h nx hp=>?_)
           ·have hK585:=hF
            have hF:=hA584;refine yn (Nat.le_trans hfl st.ext.le) (fun dw=>?_);refine vk st.d dw rfl (fun h587 ex vs=>?_)
            have st:=st.ext1 ex
            refine v_fa ?_;refine zq (st.at (i:=1) rfl).2.2 rfl ?_;refine za ?_;obtain ⟨n588,x588,z588,l588,g588,hF⟩:=zS hF;obtain ⟨b588,o588,s588,j588,r588,e588,f588,k588,⟨_,_,rfl,rfl,rfl⟩⟩:=RowF.get ry388 g588;refine yc e588 z588 l588 ?_;refine v_fa ?_;refine zq (st.sub _ _ (le399 _ _ f588)) (yp (j:=0) k588 rfl) ?_;refine v_fa ?_;refine zq (st.at (i:=0) rfl).2.2 rfl ?_;refine zZ ?_;obtain ⟨q589,hF⟩:=zn hF;refine v_sub q589 ?_;obtain ⟨v590,e591,hF⟩:=zk hF;refine zU st (ct32 N e591 st.d st.sub ) (fun n592 st=>?_);refine yE ?_;refine za ?_
            rcases Bool.eq_false_or_eq_true (!v590) with hb593 | hb593
            ·have hF:=zw hb593 hF;refine zh hb593 ?_;refine zh hb593 ?_;refine zh hb593 ?_;refine zh hb593 ?_;refine zh hb593 ?_;refine zh hb593 ?_;refine zh hb593 ?_;refine zh hb593 ?_;refine zQ hb593 ?_;refine zb ?_;obtain rfl:=inj hF;refine thn ⟨rfl,?_⟩;dsimp only
             exact ⟨F398,rfl,(PH.le.refl _),st,gA,gA,gA,gA,gA⟩
            ·have hF:=zx hb593 hF;refine zj hb593 (v_fa ?_);refine zj hb593 (zq (st.at (i:=1) rfl).2.2 rfl ?_);refine zj hb593 (za ?_);obtain ⟨n594,x594,z594,l594,g594,hF⟩:=zS hF;obtain ⟨b594,o594,s594,j594,r594,e594,f594,k594,⟨_,_,rfl,rfl,rfl⟩⟩:=RowF.get ry388 g594;refine zj hb593 (yc e594 z594 l594 ?_);refine zj hb593 (v_fa ?_);refine zj hb593 (zq (st.sub _ _ (le399 _ _ f594)) (yp (j:=1) k594 rfl) ?_);obtain ⟨v595,e596,hF⟩:=zk hF;refine zj hb593 (zU st (ct32 N e596 st.d st.sub ) (fun n597 st=>?_));refine zj hb593 (yE ?_);refine zB hb593 ?_;refine zb ?_;obtain rfl:=inj hF
             refine thn ⟨rfl,?_⟩;dsimp only
             exact ⟨F398,rfl,(PH.le.refl _),st,gA,gA,gA,gA,gA⟩
           ·obtain ⟨F586,rfl,le586,st,t1,t4,t5,t6,t86⟩:=hp
            have le602:=PH.le.trans le398 le586
            refine zC (fun hb603=>?_) (fun hb603=>?_)
            ·have hF:=zw hb603 hF;refine zd (ze ?_);refine za ?_;refine zb (th_n ?_);refine zy ?_;obtain rfl:=inj hF;have hF:=hK567;have hF:=yQ hF;refine th_r ?_;refine ib_r ?_;refine th_r ?_;refine th_r ?_;refine ⟨_,(inj hF).symm,.inl ⟨_,rfl,rfl,rfl,?_⟩⟩;dsimp only
             exact ⟨F586,rfl,le602,st,gA⟩
            ·have hF:=zx hb603 hF;refine zD ?_;obtain rfl:=inj hF;refine thn ⟨rfl,_,rfl,?_⟩;dsimp only
             exact ⟨F586,rfl,le586,st,gA,gA,gA,gA⟩
          ·obtain ⟨w570,rfl,F571,rfl,le571,st,t1,t4,t5,t6⟩:=hp;have hF:=yP hF
           have le609:=PH.le.trans le399 le571
           have le613:=PH.le.trans le398 le571
           refine zd (ze ?_);refine za ?_;refine zb (th_n ?_);refine zt ?_;obtain ⟨y628,hy,hF⟩:=zk hF;refine zT (sf73_L2 x387 x397) (fun x614 T ds615 h nx=>∃ (F615:PH),ds615 = [] ∧ PH.le F571 F615 ∧ St n0 h0 F0 F615 h nx [.bx b1 [(.slice pa0_0 (a0_0).length ca0_0),(i64 a0_1),(.slice pa0_2 (a0_2).length ca0_2)],.bx b389 [(i64 x387.1),(i64 x387.2.1),(.slice py388 (x387.2.2).length cy388)]] ∧ T.get 1 = some (.ptr (some (b1,0))) ∧ T.get 4 = some (i64 x93) ∧ T.get 5 = some (.ptr (some (b389,0))) ∧ T.get 6 = some (i64 x397) ∧ T.get 7 = some (i64 x614)) (fun y e a σ=>(∃ u,y = (.inl u) ∧ e = .ret ∧ a.nt = 105 ∧ ∃ (F630:PH),a.defers = [] ∧ PH.le F571 F630 ∧ St n0 h0 F0 F630 σ.h σ.nx [.bx b1 [(.slice pa0_0 (a0_0).length ca0_0),(i64 a0_1),(.slice pa0_2 (a0_2).length ca0_2)],.bx b389 [(i64 x387.1),(i64 x387.2.1),(.slice py388 (x387.2.2).length cy388)]] ∧ a.tmps.get 2 = some (i64 u)) ∨ (∃ u,y = (.inr u) ∧ e = .exit 6 ∧ a.nt = 105 ∧ ∃ (F632:PH),a.defers = [] ∧ PH.le F571 F632 ∧ St n0 h0 F0 F632 σ.h σ.nx [.bx b1 [(.slice pa0_0 (a0_0).length ca0_0),(i64 a0_1),(.slice pa0_2 (a0_2).length ca0_2)],.bx b389 [(i64 x387.1),(i64 x387.2.1),(.slice py388 (x387.2.2).length cy388)]] ∧ a.tmps.get 1 = some (.ptr (some (b1,0))) ∧ a.tmps.get 4 = some (i64 x93) ∧ a.tmps.get 5 = some (.ptr (some (b389,0))) ∧ a.tmps.get 6 = some (i64 x397))) (fun x614 T ds615 h nx s hp hF=>?_) N _ y628 _ _ _ _ hy ⟨F571,rfl,(PH.le.refl _),st,gA,gA,gA,gA,gA⟩ (fun e a σ hne hq=>?_)
           ·obtain ⟨F615,rfl,le615,st,t1,t4,t5,t6,t7⟩:=hp
            have le616:=PH.le.trans le609 le615
            unfold sf73_L2 at hF;unfold L73w0;refine zd ?_;refine zd (ze ?_);refine za ?_;refine za ?_;refine z6 ?_;refine zb (th_n ?_);refine zC (fun hb633=>?_) (fun hb633=>?_)
            ·have hF:=zw hb633 hF;refine zD (th_n ?_);refine zd ?_;refine zt ?_;refine zd ?_;refine yn (Nat.le_trans hfl st.ext.le) (fun dw=>?_);refine vk st.d dw rfl (fun h634 ex vs=>?_)
             have st:=st.ext1 ex
             refine v_fa ?_;refine zq (st.at (i:=1) rfl).2.2 rfl ?_;refine za ?_;obtain ⟨n635,x635,z635,l635,g635,hF⟩:=zS hF;obtain ⟨b635,o635,s635,j635,r635,e635,f635,k635,⟨_,_,rfl,rfl,rfl⟩⟩:=RowF.get ry388 g635;refine yc e635 z635 l635 ?_;refine v_fa ?_;refine zq (st.sub _ _ (le616 _ _ f635)) (yp (j:=0) k635 rfl) ?_;refine v_fa ?_;refine zq (st.at (i:=1) rfl).2.2 rfl ?_;refine za ?_;obtain ⟨n636,x636,z636,l636,g636,hF⟩:=zS hF;obtain ⟨b636,o636,s636,j636,r636,e636,f636,k636,⟨_,_,rfl,rfl,rfl⟩⟩:=RowF.get ry388 g636;refine yc e636 z636 l636 ?_;refine v_fa ?_;refine zq (st.sub _ _ (le616 _ _ f636)) (yp (j:=0) k636 rfl) ?_
             refine Yh ?_;refine zb (th_n ?_);refine zC (fun hb637=>?_) (fun hb637=>?_)
             ·have hF:=zw hb637 hF;refine zd (ze ?_);refine za ?_;refine zb (th_n ?_);refine zy ?_;refine ib_r ?_;refine th_r ?_;refine th_r ?_;refine ⟨_,(inj hF).symm,.inl ⟨_,rfl,rfl,rfl,?_⟩⟩;dsimp only
              exact ⟨F615,rfl,le615,st,gA⟩
             ·have hF:=zx hb637 hF;refine zD ?_;refine ib_n ?_;refine th_n ?_;refine ze ?_;refine za ?_;obtain ⟨q638,hF⟩:=zn hF;refine zX q638 ?_;refine za ?_;refine zb ?_;refine thn ⟨_,(inj hF).symm,rfl,?_⟩;dsimp only
              exact ⟨F615,rfl,le615,st,gA,gA,gA,gA,gA⟩
            ·have hF:=zx hb633 hF;refine z5 ?_;refine th_e ?_;refine th_e ?_;refine ⟨_,(inj hF).symm,.inr (⟨_,rfl,rfl,rfl,?_⟩)⟩;dsimp only
             exact ⟨F615,rfl,le615,st,gA,gA,gA,gA⟩
           ·rcases hq with hq | hq
            ·obtain ⟨N9,T,ds630⟩:=a;obtain ⟨h645,n646⟩:=σ;obtain ⟨w629,rfl,rfl,e1,F630,e2,le630,st,t2⟩:=hq
             dsimp only at e1 e2
             subst e1
             subst e2
             dsimp only at st t2
             have le643:=PH.le.trans le613 le630
             have hF:=yQ hF;refine ib_r ?_;refine ib_r ?_;refine th_r ?_;refine th_r ?_;refine ⟨_,(inj hF).symm,.inl ⟨_,rfl,rfl,rfl,?_⟩⟩;dsimp only
             exact ⟨F630,rfl,le643,st,gA⟩
            ·obtain ⟨N9,T,ds632⟩:=a;obtain ⟨h653,n654⟩:=σ;obtain ⟨w631,rfl,rfl,e1,F632,e2,le632,st,t1,t4,t5,t6⟩:=hq
             dsimp only at e1 e2
             subst e1
             subst e2
             dsimp only at st t1 t4 t5 t6
             have le651:=PH.le.trans le613 le632
             have hF:=yP hF;refine ib_e ?_;refine ib_n ?_;refine th_n ?_;refine ze ?_;refine za ?_;obtain ⟨q655,hF⟩:=zn hF;refine zX q655 ?_;refine za ?_;refine zb ?_;refine thn ⟨_,(inj hF).symm,rfl,?_⟩;dsimp only
             exact ⟨F632,rfl,le651,st,gA,gA,gA,gA⟩
         ·have hF:=zx hb532 hF;refine z5 ?_;refine th_e ?_;refine th_e ?_;refine ⟨_,(inj hF).symm,.inr (⟨_,rfl,rfl,rfl,?_⟩)⟩;dsimp only
          exact ⟨F398,rfl,le398,st,gA,gA⟩
        ·rcases hq with hq | hq
         ·obtain ⟨N9,T,ds529⟩:=a;obtain ⟨h660,n661⟩:=σ;obtain ⟨w528,rfl,rfl,e1,F529,e2,le529,st,t2⟩:=hq
          dsimp only at e1 e2
          subst e1
          subst e2
          dsimp only at st t2
          have le659:=PH.le.trans le94 le529
          have hF:=yQ hF;refine ib_r ?_;refine ib_r ?_;refine th_r ?_;refine th_r ?_;refine ⟨_,(inj hF).symm,.inl ⟨_,rfl,rfl,rfl,?_⟩⟩;dsimp only
          exact ⟨F529,rfl,le659,(st.drop (by first | exact List.Sublist.refl _ | (repeat first | exact List.nil_sublist _ | refine List.Sublist.cons_cons _ ?_ | refine List.Sublist.cons _ ?_))),gA⟩
         ·obtain ⟨N9,T,ds531⟩:=a;obtain ⟨h666,n667⟩:=σ;obtain ⟨w530,rfl,rfl,e1,F531,e2,le531,st,t1,t4⟩:=hq
          dsimp only at e1 e2
          subst e1
          subst e2
          dsimp only at st t1 t4
          have le665:=PH.le.trans le94 le531
          have hF:=yP hF;refine ib_e ?_;refine ib_n ?_;refine th_n ?_;refine ze ?_;refine za ?_;obtain ⟨q668,hF⟩:=zn hF;refine zX q668 ?_;refine za ?_;refine zb ?_;refine thn ⟨_,(inj hF).symm,rfl,?_⟩;dsimp only
          exact ⟨F531,rfl,le665,(st.drop (by first | exact List.Sublist.refl _ | (repeat first | exact List.nil_sublist _ | refine List.Sublist.cons_cons _ ?_ | refine List.Sublist.cons _ ?_))),gA,gA⟩
      ·have hF:=zx hb386 hF;refine z5 ?_;refine th_e ?_;refine th_e ?_;refine ⟨_,(inj hF).symm,.inr (⟨_,rfl,rfl,rfl,?_⟩)⟩;dsimp only
       exact ⟨F94,rfl,le94,st⟩
     ·rcases hq with hq | hq
      ·obtain ⟨N9,T,ds383⟩:=a;obtain ⟨h672,n673⟩:=σ;obtain ⟨w382,rfl,rfl,e1,F383,e2,le383,st,t2⟩:=hq
       dsimp only at e1 e2
       subst e1
       subst e2
       dsimp only at st t2
       have hF:=yQ hF;refine ib_r ?_;refine th_r ?_;obtain rfl:=inj hF
       exact zI st (Res.t gA Res.nil) rfl rfl
      ·obtain ⟨N9,T,ds385⟩:=a;obtain ⟨h677,n678⟩:=σ;obtain ⟨w384,rfl,rfl,e1,F385,e2,le385,st⟩:=hq
       dsimp only at e1 e2
       subst e1
       subst e2
       dsimp only at st
       have hF:=yP hF;refine ib_e ?_;refine th_n ?_;refine zd (ze ?_);refine za ?_;refine zb (th_n ?_);refine zy ?_;obtain rfl:=inj hF
       exact zI st (Res.t gA Res.nil) rfl rfl
end Go.Hx.V

namespace Go.Hx.V
open Go.Hx
set_option maxRecDepth 20000
set_option maxHeartbeats 4000000
variable {fl : Nat} {h0 : Tr HBlk} {n0 : Nat} {F0 : PH}
attribute [local irreducible] W R C thenH inBlockH Tr.get Tr.set lo ck bnd ix iter
theorem ct101 (N:Nat) {a0_0:(List (Int × Int))} {a0_1:Int} {a0_2:(List (Int × Int × (List (Int × Int))))} {a1_0 a1_1:Int} {a1_2:(List (Int × Int))} {r:Bool} (hF:sf101 N a0_0 a0_1 a0_2 a1_0 a1_1 a1_2 = some r) (hd:D h0 n0) (hs:F0.sub h0) {pa0_0:Option (Nat × Nat)} {ca0_0:Nat} {pa0_2:Option (Nat × Nat)} {ca0_2:Nat} {pa1_2:Option (Nat × Nat)} {ca1_2:Nat} (ra0_0:RowF (rP rI rI) 2 F0 pa0_0 ca0_0 a0_0) (ra0_2:RowF (rP rI (rP rI (rL (rP rI rI) 2))) 3 F0 pa0_2 ca0_2 a0_2) (ra1_2:RowF (rP rI rI) 2 F0 pa1_2 ca1_2 a1_2):C LW fl 101 [(.agg [(.slice pa0_0 (a0_0).length ca0_0),(i64 a0_1),(.slice pa0_2 (a0_2).length ca0_2)]),(.agg [(i64 a1_0),(i64 a1_1),(.slice pa1_2 (a1_2).length ca1_2)])] ⟨h0,n0⟩ (KS (.bool r) n0 h0):=by
 unfold sf101 at hF
 refine yd hd hs lw101 rfl rfl (by rfl) (fun st T hT=>?_)
 have hfl:n0 ≤ n0:=Nat.le_refl n0
 have t0:=hT 0 _ rfl
 have t1:=hT 1 _ rfl
 dsimp only [L101]
 refine zd (ze ?_);refine z9 st (fun b1 h2 n3 st=>?_);refine z9 st (fun b4 h5 n6 st=>?_);refine za ?_;refine zb (th_n ?_);refine zd (ze ?_);refine v_fa ?_;refine zJ (vs:=[(i64 a1_0),(i64 a1_1)]) (st.at (i:=1) rfl).2.2 rfl ?_;obtain ⟨v7,e8,hF⟩:=zk hF;refine zU st (ct113 N e8 st.d st.sub ) (fun n9 st=>?_);refine za ?_
 rcases Bool.eq_false_or_eq_true v7 with hb10 | hb10
 ·have hF:=zw hb10 hF;refine zj hb10 (v_fa ?_);refine zj hb10 (zq (st.at (i:=1) rfl).2.2 rfl ?_);refine zj hb10 (zJ (vs:=[(.slice pa0_0 (a0_0).length ca0_0),(i64 a0_1),(.slice pa0_2 (a0_2).length ca0_2)]) (st.at (i:=0) rfl).2.2 rfl ?_);refine zj hb10 (v_mf ?_);obtain ⟨v11,e12,hF⟩:=zk hF;refine zj hb10 (zU st (ct124 N e12 st.d st.sub ra1_2 ra0_0 ra0_2) (fun n13 st=>?_));refine zQ hb10 ?_;refine za ?_
  rcases Bool.eq_false_or_eq_true v11 with hb14 | hb14
  ·have hF:=zw hb14 hF;refine zj hb14 (zJ (vs:=[(i64 a1_0),(i64 a1_1),(.slice pa1_2 (a1_2).length ca1_2)]) (st.at (i:=1) rfl).2.2 rfl ?_);obtain ⟨v15,e16,hF⟩:=zk hF;refine zj hb14 (zU st (ct126 N e16 st.d st.sub ra1_2) (fun n17 st=>?_));refine zQ hb14 ?_;refine za ?_;refine zb (th_n ?_);refine zy ?_;obtain rfl:=inj hF
   exact zI st (Res.t gA Res.nil) rfl rfl
  ·have hF:=zx hb14 hF;refine zh hb14 ?_;refine zh hb14 ?_;refine zB hb14 ?_;refine za ?_;refine zb (th_n ?_);refine zy ?_;obtain rfl:=inj hF
   exact zI st (Res.t gA Res.nil) rfl rfl
 ·have hF:=zx hb10 hF;refine zh hb10 ?_;refine zh hb10 ?_;refine zh hb10 ?_;refine zh hb10 ?_;refine zh hb10 ?_;refine zB hb10 ?_;refine za ?_;refine zh rfl ?_;refine zh rfl ?_;refine zB rfl ?_;refine za ?_;refine zb (th_n ?_);refine zy ?_;obtain rfl:=inj hF
  exact zI st (Res.t gA Res.nil) rfl rfl
theorem ct25 (N:Nat) {a0_0:(List (Int × Int))} {a0_1:Int} {a0_2:(List (Int × Int × (List (Int × Int))))} {r:Int} (hF:sf25 N a0_0 a0_1 a0_2 = some r) (hd:D h0 n0) (hs:F0.sub h0) {pa0_0:Option (Nat × Nat)} {ca0_0:Nat} {pa0_2:Option (Nat × Nat)} {ca0_2:Nat} (ra0_0:RowF (rP rI rI) 2 F0 pa0_0 ca0_0 a0_0) (ra0_2:RowF (rP rI (rP rI (rL (rP rI rI) 2))) 3 F0 pa0_2 ca0_2 a0_2):C LW fl 25 [(.agg [(.slice pa0_0 (a0_0).length ca0_0),(i64 a0_1),(.slice pa0_2 (a0_2).length ca0_2)])] ⟨h0,n0⟩ (KS (i64 r) n0 h0):=by
 unfold sf25 at hF
 refine yd hd hs lw25 rfl rfl (by rfl) (fun st T hT=>?_)
 have hfl:n0 ≤ n0:=Nat.le_refl n0
 have t0:=hT 0 _ rfl
 dsimp only [L25]
 refine zd (ze ?_);refine z9 st (fun b1 h2 n3 st=>?_);refine za ?_;refine zb (th_n ?_);refine zd (ze ?_);refine zJ (vs:=[(.slice pa0_0 (a0_0).length ca0_0),(i64 a0_1),(.slice pa0_2 (a0_2).length ca0_2)]) (st.at (i:=0) rfl).2.2 rfl ?_;obtain ⟨v4,e5,hF⟩:=zk hF;refine zU st (ct73 N e5 st.d st.sub ra0_0 ra0_2) (fun n6 st=>?_);refine za ?_;refine zb (th_n ?_);refine zy ?_;obtain rfl:=inj hF
 exact zI st (Res.t gA Res.nil) rfl rfl
end Go.Hx.V

namespace Go.Hx.V
open Go.Hx
set_option maxRecDepth 20000
set_option maxHeartbeats 4000000
variable {fl : Nat} {h0 : Tr HBlk} {n0 : Nat} {F0 : PH}
attribute [local irreducible] W R C thenH inBlockH Tr.get Tr.set lo ck bnd ix iter
theorem ct100 (N:Nat) {a0:(List (Int × Int × (List (Int × Int))))} {a1f0_0:(List (Int × Int))} {a1f0_1:Int} {a1f0_2:(List (Int × Int × (List (Int × Int))))} {r:Bool} (hF:sf100 N a0 a1f0_0 a1f0_1 a1f0_2 = some r) (hd:D h0 n0) (hs:F0.sub h0) {pa0:Option (Nat × Nat)} {ca0:Nat} {pa1f0_0:Option (Nat × Nat)} {ca1f0_0:Nat} {pa1f0_2:Option (Nat × Nat)} {ca1f0_2:Nat} (ra0:RowF (rP rI (rP rI (rL (rP rI rI) 2))) 3 F0 pa0 ca0 a0) (ra1f0_0:RowF (rP rI rI) 2 F0 pa1f0_0 ca1f0_0 a1f0_0) (ra1f0_2:RowF (rP rI (rP rI (rL (rP rI rI) 2))) 3 F0 pa1f0_2 ca1f0_2 a1f0_2):C LW fl 100 [(.slice pa0 (a0).length ca0),(.func 101 [(.agg [(.slice pa1f0_0 (a1f0_0).length ca1f0_0),(i64 a1f0_1),(.slice pa1f0_2 (a1f0_2).length ca1f0_2)])] [])] ⟨h0,n0⟩ (KS (.bool r) n0 h0):=by
 unfold sf100 at hF
 refine yd hd hs lw100 rfl rfl (by rfl) (fun st T hT=>?_)
 have hfl:n0 ≤ n0:=Nat.le_refl n0
 have t0:=hT 0 _ rfl
 have t1:=hT 1 _ rfl
 dsimp only [L100]
 refine zd (ze ?_);refine za ?_;refine zb (th_n ?_);refine zd ?_;refine zd (ze ?_);refine za ?_;refine zZ ?_;refine za ?_;refine zb (th_n ?_);refine zt ?_;obtain ⟨y15,hy,hF⟩:=zk hF;refine zT (sf100_L1 N a0 a1f0_0 a1f0_1 a1f0_2) (fun x1 T ds2 h nx=>∃ (F2:PH),ds2 = [] ∧ PH.le F0 F2 ∧ St n0 h0 F0 F2 h nx [] ∧ T.get 1 = some (.func 101 [(.agg [(.slice pa1f0_0 (a1f0_0).length ca1f0_0),(i64 a1f0_1),(.slice pa1f0_2 (a1f0_2).length ca1f0_2)])] []) ∧ T.get 7 = some (.slice pa0 (a0).length ca0) ∧ T.get 8 = some (i64 ((a0).length:Int)) ∧ T.get 9 = some (i64 x1)) (fun y e a σ=>(∃ u,y = (.inl u) ∧ e = .ret ∧ a.nt = 18 ∧ ∃ (F17:PH),a.defers = [] ∧ PH.le F0 F17 ∧ St n0 h0 F0 F17 σ.h σ.nx [] ∧ a.tmps.get 4 = some (.bool false)) ∨ (∃ u,y = (.inr u) ∧ e = .exit 0 ∧ a.nt = 18 ∧ ∃ (F19:PH),a.defers = [] ∧ PH.le F0 F19 ∧ St n0 h0 F0 F19 σ.h σ.nx [])) (fun x1 T ds2 h nx s hp hF=>?_) N _ y15 _ _ _ _ hy ⟨F0,rfl,(PH.le.refl _),st,gA,gA,gA,gA⟩ (fun e a σ hne hq=>?_)
 ·obtain ⟨F2,rfl,le2,st,t1,t7,t8,t9⟩:=hp;unfold sf100_L1 at hF;unfold L100w0;refine zd (ze ?_);refine z6 ?_;refine zb (th_n ?_);refine zd ?_;refine zC (fun hb20=>?_) (fun hb20=>?_)
  ·have hF:=zw hb20 hF;refine zD (th_n ?_);refine zd ?_;refine zt ?_;refine zd (ze ?_);obtain ⟨n21,x21,z21,l21,g21,hF⟩:=zS hF;obtain ⟨b21,o21,s21,j21,r21,e21,f21,k21,⟨_,_,rfl,rfl,⟨_,_,rfl,rfl,⟨py22,cy22,rfl,ry22⟩⟩⟩⟩:=RowF.get ra0 g21;refine yc e21 z21 l21 ?_;refine zJ (st.sub _ _ (le2 _ _ f21)) k21 ?_;refine zM st (fun b23 h24 n25 st=>?_);refine v_st (cs':=[(i64 x21.1),(i64 x21.2.1),(.slice py22 (x21.2.2).length cy22)]) st 0 rfl rfl rfl rfl hfl (fun h26 st=>?_);refine zb (th_n ?_);refine zd (ze ?_);refine za ?_;refine zJ (vs:=[(i64 x21.1),(i64 x21.2.1),(.slice py22 (x21.2.2).length cy22)]) (st.at (i:=0) rfl).2.2 rfl ?_
   obtain ⟨v27,e28,hF⟩:=zk hF;refine zU st (ct101 N e28 st.d st.sub (RowF.mono le2 ra1f0_0) (RowF.mono le2 ra1f0_2) (RowF.mono le2 ry22)) (fun n29 st=>?_);refine yE ?_;refine zb (th_n ?_);refine zC (fun hb30=>?_) (fun hb30=>?_)
   ·have hF:=zw hb30 hF;refine zd (ze ?_);refine za ?_;refine zb (th_n ?_);refine zy ?_;refine ib_r ?_;refine th_r ?_;refine th_r ?_;refine ⟨_,(inj hF).symm,.inl ⟨_,rfl,rfl,rfl,?_⟩⟩;dsimp only
    exact ⟨F2,rfl,le2,(st.drop (by first | exact List.Sublist.refl _ | (repeat first | exact List.nil_sublist _ | refine List.Sublist.cons_cons _ ?_ | refine List.Sublist.cons _ ?_))),gA⟩
   ·have hF:=zx hb30 hF;refine zD ?_;refine ib_n ?_;refine th_n ?_;refine ze ?_;obtain ⟨q31,hF⟩:=zn hF;refine zX q31 ?_;refine za ?_;refine zb ?_;refine thn ⟨_,(inj hF).symm,rfl,?_⟩;dsimp only
    exact ⟨F2,rfl,le2,(st.drop (by first | exact List.Sublist.refl _ | (repeat first | exact List.nil_sublist _ | refine List.Sublist.cons_cons _ ?_ | refine List.Sublist.cons _ ?_))),gA,gA,gA,gA⟩
  ·have hF:=zx hb20 hF;refine z5 ?_;refine th_e ?_;refine th_e ?_;refine ⟨_,(inj hF).symm,.inr (⟨_,rfl,rfl,rfl,?_⟩)⟩;dsimp only
   exact ⟨F2,rfl,le2,st⟩
 ·rcases hq with hq | hq
  ·obtain ⟨N9,T,ds17⟩:=a;obtain ⟨h32,n33⟩:=σ;obtain ⟨w16,rfl,rfl,e1,F17,e2,le17,st,t4⟩:=hq
   dsimp only at e1 e2
   subst e1
   subst e2
   dsimp only at st t4
   have hF:=yQ hF;refine ib_r ?_;refine th_r ?_;obtain rfl:=inj hF
   exact zI st (Res.t gA Res.nil) rfl rfl
  ·obtain ⟨N9,T,ds19⟩:=a;obtain ⟨h34,n35⟩:=σ;obtain ⟨w18,rfl,rfl,e1,F19,e2,le19,st⟩:=hq
   dsimp only at e1 e2
   subst e1
   subst e2
   dsimp only at st
   have hF:=yP hF;refine ib_e ?_;refine th_n ?_;refine zd (ze ?_);refine za ?_;refine zb (th_n ?_);refine zy ?_;obtain rfl:=inj hF
   exact zI st (Res.t gA Res.nil) rfl rfl
theorem ct60 (N:Nat) {a0_0:(List (Int × Int))} {a0_1:Int} {a0_2:(List (Int × Int × (List (Int × Int))))} {r:Bool} (hF:sf60 N a0_0 a0_1 a0_2 = some r) (hd:D h0 n0) (hs:F0.sub h0) {pa0_0:Option (Nat × Nat)} {ca0_0:Nat} {pa0_2:Option (Nat × Nat)} {ca0_2:Nat} (ra0_0:RowF (rP rI rI) 2 F0 pa0_0 ca0_0 a0_0) (ra0_2:RowF (rP rI (rP rI (rL (rP rI rI) 2))) 3 F0 pa0_2 ca0_2 a0_2):C LW fl 60 [(.agg [(.slice pa0_0 (a0_0).length ca0_0),(i64 a0_1),(.slice pa0_2 (a0_2).length ca0_2)])] ⟨h0,n0⟩ (KS (.bool r) n0 h0):=by
 unfold sf60 at hF
 refine yd hd hs lw60 rfl rfl (by rfl) (fun st T hT=>?_)
 have hfl:n0 ≤ n0:=Nat.le_refl n0
 have t0:=hT 0 _ rfl
 dsimp only [L60]
 refine zd (ze ?_);refine z9 st (fun b1 h2 n3 st=>?_);refine za ?_;refine zb (th_n ?_);refine zd (ze ?_);refine zJ (vs:=[(.slice pa0_0 (a0_0).length ca0_0),(i64 a0_1),(.slice pa0_2 (a0_2).length ca0_2)]) (st.at (i:=0) rfl).2.2 rfl ?_;obtain ⟨v4,e5,hF⟩:=zk hF;refine zU st (ct19 N e5 st.d st.sub ra0_0 ra0_2) (fun n6 st=>?_);refine za ?_
 rcases Bool.eq_false_or_eq_true v4 with hb7 | hb7
 ·have hF:=zw hb7 hF;refine zj hb7 (zJ (vs:=[(.slice pa0_0 (a0_0).length ca0_0),(i64 a0_1),(.slice pa0_2 (a0_2).length ca0_2)]) (st.at (i:=0) rfl).2.2 rfl ?_);obtain ⟨v8,e9,hF⟩:=zk hF;refine zj hb7 (zU st (ct25 N e9 st.d st.sub ra0_0 ra0_2) (fun n10 st=>?_));refine zj hb7 (Yh ?_);refine zQ hb7 ?_;refine za ?_;refine zb (th_n ?_);refine zy ?_;obtain rfl:=inj hF
  exact zI st (Res.t gA Res.nil) rfl rfl
 ·have hF:=zx hb7 hF;refine zh hb7 ?_;refine zh hb7 ?_;refine zh hb7 ?_;refine zB hb7 ?_;refine za ?_;refine zb (th_n ?_);refine zy ?_;obtain rfl:=inj hF
  exact zI st (Res.t gA Res.nil) rfl rfl
end Go.Hx.V

namespace Go.Hx.V
open Go.Hx
set_option maxRecDepth 20000
set_option maxHeartbeats 4000000
variable {fl : Nat} {h0 : Tr HBlk} {n0 : Nat} {F0 : PH}
attribute [local irreducible] W R C thenH inBlockH Tr.get Tr.set lo ck bnd ix iter
theorem ct69 (N:Nat) {a0_0:(List (Int × Int))} {a0_1:Int} {a0_2:(List (Int × Int × (List (Int × Int))))} {r:Bool} (hF:sf69 N a0_0 a0_1 a0_2 = some r) (hd:D h0 n0) (hs:F0.sub h0) {pa0_0:Option (Nat × Nat)} {ca0_0:Nat} {pa0_2:Option (Nat × Nat)} {ca0_2:Nat} (ra0_0:RowF (rP rI rI) 2 F0 pa0_0 ca0_0 a0_0) (ra0_2:RowF (rP rI (rP rI (rL (rP rI rI) 2))) 3 F0 pa0_2 ca0_2 a0_2):C LW fl 69 [(.agg [(.slice pa0_0 (a0_0).length ca0_0),(i64 a0_1),(.slice pa0_2 (a0_2).length ca0_2)])] ⟨h0,n0⟩ (KS (.bool r) n0 h0):=by
 unfold sf69 at hF
 refine yd hd hs lw69 rfl rfl (by rfl) (fun st T hT=>?_)
 have hfl:n0 ≤ n0:=Nat.le_refl n0
 have t0:=hT 0 _ rfl
 dsimp only [L69]
 refine zd (ze ?_);refine z9 st (fun b1 h2 n3 st=>?_);refine za ?_;refine zb (th_n ?_);refine zd (ze ?_);refine v_fa ?_;refine zq (st.at (i:=0) rfl).2.2 rfl ?_;refine zZ ?_;refine ja ?_;refine za ?_
 rcases Bool.eq_false_or_eq_true (decide ((0:Int) < ((a0_0).length:Int))) with hb4 | hb4
 ·have hF:=zw hb4 hF;refine zj hb4 (v_fa ?_);refine zj hb4 (zq (st.at (i:=0) rfl).2.2 rfl ?_);obtain ⟨v5,e6,hF⟩:=zk hF;refine zj hb4 (zU st (ct98 N e6 st.d st.sub ra0_0) (fun n7 st=>?_));refine zQ hb4 ?_;refine za ?_
  rcases Bool.eq_false_or_eq_true v5 with hb8 | hb8
  ·have hF:=zw hb8 hF;refine zj hb8 (v_fa ?_);refine zj hb8 (zq (st.at (i:=0) rfl).2.2 rfl ?_);refine zj hb8 (vJ ?_);refine zQ hb8 ?_;refine za ?_
   rcases Bool.eq_false_or_eq_true (decide ((0:Int) ≤ a0_1)) with hb9 | hb9
   ·have hF:=zw hb9 hF;refine zj hb9 (v_fa ?_);refine zj hb9 (zq (st.at (i:=0) rfl).2.2 rfl ?_);refine zj hb9 (vJ ?_);refine zQ hb9 ?_;refine za ?_
    rcases Bool.eq_false_or_eq_true (decide (a0_1 ≤ (20:Int))) with hb10 | hb10
    ·have hF:=zw hb10 hF;refine zj hb10 (v_fa ?_);refine zj hb10 (zq (st.at (i:=0) rfl).2.2 rfl ?_);refine zj hb10 (zJ (vs:=[(.slice pa0_0 (a0_0).length ca0_0),(i64 a0_1),(.slice pa0_2 (a0_2).length ca0_2)]) (st.at (i:=0) rfl).2.2 rfl ?_);refine zj hb10 (v_mf ?_);obtain ⟨v11,e12,hF⟩:=zk hF;refine zj hb10 (zU st (ct100 N e12 st.d st.sub ra0_2 ra0_0 ra0_2) (fun n13 st=>?_));refine zQ hb10 ?_;refine za ?_;refine zb (th_n ?_);refine zy ?_;obtain rfl:=inj hF
     exact zI st (Res.t gA Res.nil) rfl rfl
    ·have hF:=zx hb10 hF;refine zh hb10 ?_;refine zh hb10 ?_;refine zh hb10 ?_;refine zh hb10 ?_;refine zh hb10 ?_;refine zB hb10 ?_;refine za ?_;refine zb (th_n ?_);refine zy ?_;obtain rfl:=inj hF
     exact zI st (Res.t gA Res.nil) rfl rfl
   ·have hF:=zx hb9 hF;refine zh hb9 ?_;refine zh hb9 ?_;refine zh hb9 ?_;refine zB hb9 ?_;refine za ?_;refine zh rfl ?_;refine zh rfl ?_;refine zh rfl ?_;refine zh rfl ?_;refine zh rfl ?_;refine zB rfl ?_;refine za ?_;refine zb (th_n ?_);refine zy ?_;obtain rfl:=inj hF
    exact zI st (Res.t gA Res.nil) rfl rfl
  ·have hF:=zx hb8 hF;refine zh hb8 ?_;refine zh hb8 ?_;refine zh hb8 ?_;refine zB hb8 ?_;refine za ?_;refine zh rfl ?_;refine zh rfl ?_;refine zh rfl ?_;refine zB rfl ?_;refine za ?_;refine zh rfl ?_;refine zh rfl ?_;refine zh rfl ?_;refine zh rfl ?_;refine zh rfl ?_;refine zB rfl ?_;refine za ?_;refine zb (th_n ?_);refine zy ?_;obtain rfl:=inj hF
   exact zI st (Res.t gA Res.nil) rfl rfl
 ·have hF:=zx hb4 hF;refine zh hb4 ?_;refine zh hb4 ?_;refine zh hb4 ?_;refine zB hb4 ?_;refine za ?_;refine zh rfl ?_;refine zh rfl ?_;refine zh rfl ?_;refine zB rfl ?_;refine za ?_;refine zh rfl ?_;refine zh rfl ?_;refine zh rfl ?_;refine zB rfl ?_;refine za ?_;refine zh rfl ?_;refine zh rfl ?_;refine zh rfl ?_;refine zh rfl ?_;refine zh rfl ?_;refine zB rfl ?_;refine za ?_;refine zb (th_n ?_);refine zy ?_;obtain rfl:=inj hF
  exact zI st (Res.t gA Res.nil) rfl rfl
end Go.Hx.V

namespace Go.Hx.V
open Go.Hx
set_option maxRecDepth 20000
set_option maxHeartbeats 4000000
variable {fl : Nat} {h0 : Tr HBlk} {n0 : Nat} {F0 : PH}
attribute [local irreducible] W R C thenH inBlockH Tr.get Tr.set lo ck bnd ix iter
theorem ct21 (N:Nat) {a0_0:(List (Int × Int))} {a0_1:Int} {a0_2:(List (Int × Int × (List (Int × Int))))} {r:Int} (hF:sf21 N a0_0 a0_1 a0_2 = some r) (hd:D h0 n0) (hs:F0.sub h0) {pa0_0:Option (Nat × Nat)} {ca0_0:Nat} {pa0_2:Option (Nat × Nat)} {ca0_2:Nat} (ra0_0:RowF (rP rI rI) 2 F0 pa0_0 ca0_0 a0_0) (ra0_2:RowF (rP rI (rP rI (rL (rP rI rI) 2))) 3 F0 pa0_2 ca0_2 a0_2):C LW fl 21 [(.agg [(.slice pa0_0 (a0_0).length ca0_0),(i64 a0_1),(.slice pa0_2 (a0_2).length ca0_2)])] ⟨h0,n0⟩ (KS (i64 r) n0 h0):=by
 unfold sf21 at hF
 refine yd hd hs lw21 rfl rfl (by rfl) (fun st T hT=>?_)
 have hfl:n0 ≤ n0:=Nat.le_refl n0
 have t0:=hT 0 _ rfl
 dsimp only [L21]
 refine zd (ze ?_);refine z9 st (fun b1 h2 n3 st=>?_);refine za ?_;refine zb (th_n ?_);refine zd ?_;obtain ⟨y5,hA6,hF⟩:=zk hF;refine yJ (fun T ds8 h nx=>∃ (F8:PH),ds8 = [] ∧ PH.le F0 F8 ∧ St n0 h0 F0 F8 h nx [.bx b1 [(.slice pa0_0 (a0_0).length ca0_0),(i64 a0_1),(.slice pa0_2 (a0_2).length ca0_2)]] ∧ T.get 1 = some (.ptr (some (b1,0))) ∧ T.get 12 = some (.bool y5)) ?_ (fun T ds8 h nx hp=>?_)
 ·have hK7:=hF
  have hF:=hA6;refine ze ?_;refine v_fa ?_;refine zq (st.at (i:=0) rfl).2.2 rfl ?_;refine zZ ?_;refine ja ?_;refine za ?_
  rcases Bool.eq_false_or_eq_true (decide ((6:Int) < ((a0_0).length:Int))) with hb9 | hb9
  ·have hF:=zw hb9 hF;refine zh hb9 ?_;refine zh hb9 ?_;refine zh hb9 ?_;refine zh hb9 ?_;refine zQ hb9 ?_;refine zb ?_;obtain rfl:=inj hF;refine thn ⟨rfl,?_⟩;dsimp only
   exact ⟨F0,rfl,(PH.le.refl _),st,gA,gA⟩
  ·have hF:=zx hb9 hF;refine zj hb9 (v_fa ?_);refine zj hb9 (zq (st.at (i:=0) rfl).2.2 rfl ?_);refine zj hb9 (zZ ?_);refine zj hb9 (ja ?_);refine zB hb9 ?_;refine zb ?_;obtain rfl:=inj hF;refine thn ⟨rfl,?_⟩;dsimp only
   exact ⟨F0,rfl,(PH.le.refl _),st,gA,gA⟩
 ·obtain ⟨F8,rfl,le8,st,t1,t12⟩:=hp;refine zC (fun hb10=>?_) (fun hb10=>?_)
  ·have hF:=zw hb10 hF;refine zd (ze ?_);refine za ?_;refine zb (th_n ?_);refine zy ?_;refine th_r ?_;obtain rfl:=inj hF
   exact zI st (Res.t gA Res.nil) rfl rfl
  ·have hF:=zx hb10 hF;refine zD (th_n ?_);refine zd ?_;refine zd (ze ?_);refine zJ (vs:=[(.slice pa0_0 (a0_0).length ca0_0),(i64 a0_1),(.slice pa0_2 (a0_2).length ca0_2)]) (st.at (i:=0) rfl).2.2 rfl ?_;obtain ⟨v11,e12,hF⟩:=zk hF;refine zU st (ct69 N e12 st.d st.sub (RowF.mono le8 ra0_0) (RowF.mono le8 ra0_2)) (fun n13 st=>?_);refine yE ?_;refine zb (th_n ?_);refine zC (fun hb14=>?_) (fun hb14=>?_)
   ·have hF:=zw hb14 hF;refine zd (ze ?_);refine za ?_;refine zb (th_n ?_);refine zy ?_;refine th_r ?_;obtain rfl:=inj hF
    exact zI st (Res.t gA Res.nil) rfl rfl
   ·have hF:=zx hb14 hF;refine zD (th_n ?_);refine zd (ze ?_);refine za ?_;refine zb (th_n ?_);refine zy ?_;obtain rfl:=inj hF
    exact zI st (Res.t gA Res.nil) rfl rfl
end Go.Hx.V

namespace Go.Hx.V
open Go.Hx
set_option maxRecDepth 20000
set_option maxHeartbeats 4000000
variable {fl : Nat} {h0 : Tr HBlk} {n0 : Nat} {F0 : PH}
attribute [local irreducible] W R C thenH inBlockH Tr.get Tr.set lo ck bnd ix iter
end Go.Hx.V

namespace Go.Hx.V
open Go.Hx
set_option maxRecDepth 20000
set_option maxHeartbeats 4000000
variable {fl : Nat} {h0 : Tr HBlk} {n0 : Nat} {F0 : PH}
attribute [local irreducible] W R C thenH inBlockH Tr.get Tr.set lo ck bnd ix iter
theorem ct74 (N:Nat) {a0_0:(List (Int × Int))} {a0_1:Int} {a0_2:(List (Int × Int × (List (Int × Int))))} {a1:Bool} {r:((List (Int × Int)) × Int × (List (Int × Int × (List (Int × Int)))) × Int × (Nat → Int) × Int)} (hF:sf74 N a0_0 a0_1 a0_2 a1 = some r) (hd:D h0 n0) (hs:F0.sub h0) (hfl:fl ≤ n0) {pa0_0:Option (Nat × Nat)} {ca0_0:Nat} {pa0_2:Option (Nat × Nat)} {ca0_2:Nat} (ra0_0:RowF (rP rI rI) 2 F0 pa0_0 ca0_0 a0_0) (ra0_2:RowF (rP rI (rP rI (rL (rP rI rI) 2))) 3 F0 pa0_2 ca0_2 a0_2):C LW fl 74 [(.agg [(.slice pa0_0 (a0_0).length ca0_0),(i64 a0_1),(.slice pa0_2 (a0_2).length ca0_2)]),(.bool a1)] ⟨h0,n0⟩ (KR (rvT2A (rqC (rL (rP rI rI) 2) (rqC rI (rqC (rL (rP rI (rP rI (rL (rP rI rI) 2))) 3) (rqC rI (rqL (rF .i64 169) lvI)))))) F0 h0 n0 r):=by
 unfold sf74 at hF
 refine jc hd hs hfl lw74 rfl rfl (by rfl) (fun st T hT=>?_)
 have t0:=hT 0 _ rfl
 have t1:=hT 1 _ rfl
 dsimp only [L74]
 refine zd (ze ?_);refine z9 st (fun b1 h2 n3 st=>?_);refine zM st (fun b4 h5 n6 st=>?_)
 have st:=st.cells 1 rfl ([(.slice none 0 0),(i64 0),(.slice none 0 0),(i64 0)] ++ (eI .i64 169 (fun _=>0))) rfl
 refine za ?_;refine zb (th_n ?_);refine zd ?_;refine zd (ze ?_);refine zJ (vs:=[(.slice pa0_0 (a0_0).length ca0_0),(i64 a0_1),(.slice pa0_2 (a0_2).length ca0_2)]) (st.at (i:=0) rfl).2.2 rfl ?_;obtain ⟨v7,e8,hF⟩:=zk hF;refine zU st (ct21 N e8 st.d st.sub ra0_0 ra0_2) (fun n9 st=>?_);refine za ?_;refine zb (th_n ?_);refine zd (ze ?_);refine za ?_;refine vl ?_;refine zb (th_n ?_);refine zC (fun hb10=>?_) (fun hb10=>?_)
 ·have hF:=zw hb10 hF;refine zd (ze ?_);refine z7 (cs:=([(.slice none 0 0),(i64 0),(.slice none 0 0),(i64 0)] ++ (eI .i64 169 (fun _=>0)))) rfl ?_;refine za ?_
  refine v_st (v:=(.agg ([(.slice none 0 0),(i64 0),(.slice none 0 0),(i64 0)] ++ (eI .i64 169 (fun _=>0))))) (cs':=([(.slice none 0 0),(i64 0),(.slice none 0 0),(i64 0)] ++ (eI .i64 169 (fun _=>0)))) st 1 rfl (yy [] rfl (by simp [HV.cells,zR,yW])) (ym _ zR (by rfl)) (yl _ (by rfl) yV) hfl (fun h11 st=>?_)
  refine za ?_;refine zb (th_n ?_);refine zy ?_;refine th_r ?_;obtain rfl:=inj hF
  exact vK st (Res.c gA (st.at (i:=1) rfl).2.2 (show takeN _ _ = some ([(.slice none 0 0),(i64 0),(.slice none 0 0),(i64 0)] ++ (eI .i64 169 (fun _=>0))) from (yY (E:=(eI .i64 169 (fun _=>0))) [] [(.slice none 0 0),(i64 0),(.slice none 0 0),(i64 0)] rfl zR rfl)) (Res.t gA Res.nil)) ⟨_,_,rfl,⟨[(.slice none 0 0)],_,rfl,⟨none,0,rfl,RowF.nil⟩,⟨[(i64 0)],_,rfl,rfl,⟨[(.slice none 0 0)],_,rfl,⟨none,0,rfl,RowF.nil⟩,⟨[(i64 0)],_,rfl,rfl,⟨rfl,rfl⟩⟩⟩⟩⟩⟩
 ·have hF:=zx hb10 hF;refine zD (th_n ?_);refine zd ?_;refine zd (ze ?_);refine za ?_;refine yE ?_;refine zb (th_n ?_);refine zC (fun hb12=>?_) (fun hb12=>?_)
  ·have hF:=zw hb12 hF;refine zd (ze ?_);refine z7 (cs:=([(.slice none 0 0),(i64 0),(.slice none 0 0),(i64 0)] ++ (eI .i64 169 (fun _=>0)))) rfl ?_
   refine v_st (v:=(.agg ([(.slice none 0 0),(i64 0),(.slice none 0 0),(i64 0)] ++ (eI .i64 169 (fun _=>0))))) (cs':=([(.slice none 0 0),(i64 0),(.slice none 0 0),(i64 0)] ++ (eI .i64 169 (fun _=>0)))) st 1 rfl (yy [] rfl (by simp [HV.cells,zR,yW])) (ym _ zR (by rfl)) (yl _ (by rfl) yV) hfl (fun h13 st=>?_)
   refine za ?_;refine zb (th_n ?_);refine zy ?_;refine th_r ?_;obtain rfl:=inj hF
   exact vK st (Res.c gA (st.at (i:=1) rfl).2.2 (show takeN _ _ = some ([(.slice none 0 0),(i64 0),(.slice none 0 0),(i64 0)] ++ (eI .i64 169 (fun _=>0))) from (yY (E:=(eI .i64 169 (fun _=>0))) [] [(.slice none 0 0),(i64 0),(.slice none 0 0),(i64 0)] rfl zR rfl)) (Res.t gA Res.nil)) ⟨_,_,rfl,⟨[(.slice none 0 0)],_,rfl,⟨none,0,rfl,RowF.nil⟩,⟨[(i64 0)],_,rfl,rfl,⟨[(.slice none 0 0)],_,rfl,⟨none,0,rfl,RowF.nil⟩,⟨[(i64 0)],_,rfl,rfl,⟨rfl,rfl⟩⟩⟩⟩⟩⟩
  ·have hF:=zx hb12 hF;refine zD (th_n ?_);refine zd (ze ?_);refine zJ (vs:=[(.slice pa0_0 (a0_0).length ca0_0),(i64 a0_1),(.slice pa0_2 (a0_2).length ca0_2)]) (st.at (i:=0) rfl).2.2 rfl ?_;obtain ⟨v14,e15,hF⟩:=zk hF;refine yo st (ct80 N e15 st.d st.sub (Nat.le_trans hfl st.ext.le) ra0_0 ra0_2) (fun u16 F16 h16 n16 le16 rv16 st=>?_);obtain ⟨_,_,rfl,⟨_,_,rfl,⟨py17,cy17,rfl,ry17⟩,⟨_,_,rfl,rfl,⟨_,_,rfl,⟨py18,cy18,rfl,ry18⟩,⟨_,_,rfl,rfl,⟨rfl,rfl⟩⟩⟩⟩⟩⟩:=rv16;refine za ?_;refine v_xt rfl ?_;refine v_xt rfl ?_;refine zM st (fun b19 h20 n21 st=>?_)
   have st:=st.cells 2 rfl ([(.slice none 0 0),(i64 0),(.slice none 0 0),(i64 0)] ++ (eI .i64 169 (fun _=>0))) rfl
   refine v_st (v:=(.agg ([(.slice py17 (v14.1).length cy17),(i64 v14.2.1),(.slice py18 (v14.2.2.1).length cy18),(i64 v14.2.2.2.1)] ++ (eI .i64 169 v14.2.2.2.2.1)))) (cs':=([(.slice py17 (v14.1).length cy17),(i64 v14.2.1),(.slice py18 (v14.2.2.1).length cy18),(i64 v14.2.2.2.1)] ++ (eI .i64 169 v14.2.2.2.2.1))) st 2 rfl (yy [] rfl (by simp [HV.cells,zR,yW])) (ym _ zR (by rfl)) (yl _ (by rfl) yV) hfl (fun h22 st=>?_)
   refine za ?_;refine zb (th_n ?_);refine zd ?_;refine zd (ze ?_);refine za ?_;refine yE ?_;refine zb (th_n ?_);refine zC (fun hb23=>?_) (fun hb23=>?_)
   ·have hF:=zw hb23 hF;refine zd (ze ?_);refine z7 (cs:=([(.slice none 0 0),(i64 0),(.slice none 0 0),(i64 0)] ++ (eI .i64 169 (fun _=>0)))) rfl ?_
    refine v_st (v:=(.agg ([(.slice none 0 0),(i64 0),(.slice none 0 0),(i64 0)] ++ (eI .i64 169 (fun _=>0))))) (cs':=([(.slice none 0 0),(i64 0),(.slice none 0 0),(i64 0)] ++ (eI .i64 169 (fun _=>0)))) st 1 rfl (yy [] rfl (by simp [HV.cells,zR,yW])) (ym _ zR (by rfl)) (yl _ (by rfl) yV) hfl (fun h24 st=>?_)
    refine za ?_;refine zb (th_n ?_);refine zy ?_;refine th_r ?_;obtain rfl:=inj hF
    exact vK st (Res.c gA (st.at (i:=1) rfl).2.2 (show takeN _ _ = some ([(.slice none 0 0),(i64 0),(.slice none 0 0),(i64 0)] ++ (eI .i64 169 (fun _=>0))) from (yY (E:=(eI .i64 169 (fun _=>0))) [] [(.slice none 0 0),(i64 0),(.slice none 0 0),(i64 0)] rfl zR rfl)) (Res.t gA Res.nil)) ⟨_,_,rfl,⟨[(.slice none 0 0)],_,rfl,⟨none,0,rfl,RowF.nil⟩,⟨[(i64 0)],_,rfl,rfl,⟨[(.slice none 0 0)],_,rfl,⟨none,0,rfl,RowF.nil⟩,⟨[(i64 0)],_,rfl,rfl,⟨rfl,rfl⟩⟩⟩⟩⟩⟩
   ·have hF:=zx hb23 hF;refine zD (th_n ?_);refine zd (ze ?_);refine zJ (vs:=([(.slice py17 (v14.1).length cy17),(i64 v14.2.1),(.slice py18 (v14.2.2.1).length cy18),(i64 v14.2.2.2.1)] ++ (eI .i64 169 v14.2.2.2.2.1))) (st.at (i:=2) rfl).2.2 (yY (E:=(eI .i64 169 v14.2.2.2.2.1)) [] [(.slice py17 (v14.1).length cy17),(i64 v14.2.1),(.slice py18 (v14.2.2.1).length cy18),(i64 v14.2.2.2.1)] rfl zR rfl) ?_
    refine v_st (v:=(.agg ([(.slice py17 (v14.1).length cy17),(i64 v14.2.1),(.slice py18 (v14.2.2.1).length cy18),(i64 v14.2.2.2.1)] ++ (eI .i64 169 v14.2.2.2.2.1)))) (cs':=([(.slice py17 (v14.1).length cy17),(i64 v14.2.1),(.slice py18 (v14.2.2.1).length cy18),(i64 v14.2.2.2.1)] ++ (eI .i64 169 v14.2.2.2.2.1))) st 1 rfl (yy [] rfl (by simp [HV.cells,zR,yW])) (ym _ zR (by rfl)) (yl _ (by rfl) yV) hfl (fun h25 st=>?_)
    refine za ?_;refine zb (th_n ?_);refine zy ?_;obtain rfl:=inj hF
    exact vK st (Res.c gA (st.at (i:=1) rfl).2.2 (show takeN _ _ = some ([(.slice py17 (v14.1).length cy17),(i64 v14.2.1),(.slice py18 (v14.2.2.1).length cy18),(i64 v14.2.2.2.1)] ++ (eI .i64 169 v14.2.2.2.2.1)) from (yY (E:=(eI .i64 169 v14.2.2.2.2.1)) [] [(.slice py17 (v14.1).length cy17),(i64 v14.2.1),(.slice py18 (v14.2.2.1).length cy18),(i64 v14.2.2.2.1)] rfl zR rfl)) (Res.t gA Res.nil)) ⟨_,_,rfl,⟨[(.slice py17 (v14.1).length cy17)],_,rfl,⟨_,_,rfl,ry17⟩,⟨[(i64 v14.2.1)],_,rfl,rfl,⟨[(.slice py18 (v14.2.2.1).length cy18)],_,rfl,⟨_,_,rfl,ry18⟩,⟨[(i64 v14.2.2.2.1)],_,rfl,rfl,⟨rfl,rfl⟩⟩⟩⟩⟩⟩
end Go.Hx.V

namespace Go.Hx.V
open Go.Hx
set_option maxRecDepth 20000
set_option maxHeartbeats 4000000
variable {fl : Nat} {h0 : Tr HBlk} {n0 : Nat} {F0 : PH}
attribute [local irreducible] W R C thenH inBlockH Tr.get Tr.set lo ck bnd ix iter
theorem ct27 (N:Nat) {a0_0:(List (Int × Int))} {a0_1:Int} {a0_2:(List (Int × Int × (List (Int × Int))))} {r:((List (Int × Int)) × Int)} (hF:sf27 N a0_0 a0_1 a0_2 = some r) (hd:D h0 n0) (hs:F0.sub h0) (hfl:fl ≤ n0) {pa0_0:Option (Nat × Nat)} {ca0_0:Nat} {pa0_2:Option (Nat × Nat)} {ca0_2:Nat} (ra0_0:RowF (rP rI rI) 2 F0 pa0_0 ca0_0 a0_0) (ra0_2:RowF (rP rI (rP rI (rL (rP rI rI) 2))) 3 F0 pa0_2 ca0_2 a0_2):C LW fl 27 [(.agg [(.slice pa0_0 (a0_0).length ca0_0),(i64 a0_1),(.slice pa0_2 (a0_2).length ca0_2)])] ⟨h0,n0⟩ (KR (rvT2 (lvL (rP rI rI) 2) lvI) F0 h0 n0 r):=by
 unfold sf27 at hF
 refine jc hd hs hfl lw27 rfl rfl (by rfl) (fun st T hT=>?_)
 have t0:=hT 0 _ rfl
 dsimp only [L27]
 refine zd (ze ?_);refine z9 st (fun b1 h2 n3 st=>?_);refine za ?_;refine za ?_;refine zb (th_n ?_);refine zd (ze ?_);refine zJ (vs:=[(.slice pa0_0 (a0_0).length ca0_0),(i64 a0_1),(.slice pa0_2 (a0_2).length ca0_2)]) (st.at (i:=0) rfl).2.2 rfl ?_;obtain ⟨v4,e5,hF⟩:=zk hF;refine yo st (ct74 N e5 st.d st.sub (Nat.le_trans hfl st.ext.le) ra0_0 ra0_2) (fun u6 F6 h6 n6 le6 rv6 st=>?_);obtain ⟨_,_,rfl,⟨_,_,rfl,⟨py7,cy7,rfl,ry7⟩,⟨_,_,rfl,rfl,⟨_,_,rfl,⟨py8,cy8,rfl,ry8⟩,⟨_,_,rfl,rfl,⟨rfl,rfl⟩⟩⟩⟩⟩⟩:=rv6;refine za ?_;refine v_xt rfl ?_;refine v_xt rfl ?_;refine zM st (fun b9 h10 n11 st=>?_)
 have st:=st.cells 1 rfl ([(.slice none 0 0),(i64 0),(.slice none 0 0),(i64 0)] ++ (eI .i64 169 (fun _=>0))) rfl
 refine v_st (v:=(.agg ([(.slice py7 (v4.1).length cy7),(i64 v4.2.1),(.slice py8 (v4.2.2.1).length cy8),(i64 v4.2.2.2.1)] ++ (eI .i64 169 v4.2.2.2.2.1)))) (cs':=([(.slice py7 (v4.1).length cy7),(i64 v4.2.1),(.slice py8 (v4.2.2.1).length cy8),(i64 v4.2.2.2.1)] ++ (eI .i64 169 v4.2.2.2.2.1))) st 1 rfl (yy [] rfl (by simp [HV.cells,zR,yW])) (ym _ zR (by rfl)) (yl _ (by rfl) yV) hfl (fun h12 st=>?_)
 refine za ?_;refine zb (th_n ?_);refine zd ?_;refine zd (ze ?_);refine za ?_;refine vl ?_;refine zb (th_n ?_);refine zC (fun hb13=>?_) (fun hb13=>?_)
 ·have hF:=zw hb13 hF;refine zd (ze ?_);refine za ?_;refine za ?_;refine za ?_;refine zb (th_n ?_);refine zy ?_;refine th_r ?_;obtain rfl:=inj hF
  exact vK st (Res.t gA (Res.t gA Res.nil)) ⟨_,_,rfl,⟨none,0,rfl,RowF.nil⟩,rfl⟩
 ·have hF:=zx hb13 hF;refine zD (th_n ?_);refine zd (ze ?_);refine v_fa ?_;refine zq (st.at (i:=0) rfl).2.2 rfl ?_;refine zZ ?_;obtain ⟨q14,hF⟩:=zn hF
  have w14:LR (rP rI rI) 2 F6 (List.replicate (Int.toNat (0:Int)) (0,0)) (Go.Hx.repl (Int.toNat (0:Int)) [(i64 0),(i64 0)]):=LR.repl (⟨[(i64 0)],_,rfl,rfl,rfl⟩) _
  refine v_mk st (n:=(List.replicate (Int.toNat (0:Int)) (0,0)).length) q14.1 q14.2.1 (by simp) q14.2.2.1 q14.2.2.2 (fun o14 h14 n14 st=>?_)
  refine za ?_;refine zb (th_n ?_);refine zd ?_;refine zd (ze ?_);refine v_fa ?_;refine zq (st.at (i:=0) rfl).2.2 rfl ?_;refine zZ ?_;refine za ?_;refine zb (th_n ?_);refine zt ?_;obtain ⟨y28,hy,hF⟩:=zk hF;refine zT (sf27_L1 N a0_0 v4) (fun x15 T ds16 h nx=>∃ (F16:PH) (o17:Option Nat) (c17:Nat) (cs17:List HV),ds16 = [] ∧ PH.le F6 F16 ∧ St n0 h0 F0 F16 h nx [.bx b1 [(.slice pa0_0 (a0_0).length ca0_0),(i64 a0_1),(.slice pa0_2 (a0_2).length ca0_2)],.bx b9 ([(.slice py7 (v4.1).length cy7),(i64 v4.2.1),(.slice py8 (v4.2.2.1).length cy8),(i64 v4.2.2.2.1)] ++ (eI .i64 169 v4.2.2.2.2.1)),.ls o17 c17 cs17 2] ∧ LR (rP rI rI) 2 F16 x15.1 cs17 ∧ T.get 4 = some (.ptr (some (b9,0))) ∧ T.get 6 = some (slv o17 (x15.1).length c17) ∧ T.get 22 = some (i64 ((a0_0).length:Int)) ∧ T.get 23 = some (i64 x15.2)) (fun y e a σ=>e = .exit 0 ∧ a.nt = 33 ∧ ∃ (F29:PH) (o30:Option Nat) (c30:Nat) (cs30:List HV),a.defers = [] ∧ PH.le F6 F29 ∧ St n0 h0 F0 F29 σ.h σ.nx [.bx b1 [(.slice pa0_0 (a0_0).length ca0_0),(i64 a0_1),(.slice pa0_2 (a0_2).length ca0_2)],.bx b9 ([(.slice py7 (v4.1).length cy7),(i64 v4.2.1),(.slice py8 (v4.2.2.1).length cy8),(i64 v4.2.2.2.1)] ++ (eI .i64 169 v4.2.2.2.2.1)),.ls o30 c30 cs30 2] ∧ LR (rP rI rI) 2 F29 y cs30 ∧ a.tmps.get 6 = some (slv o30 (y).length c30)) (fun x15 T ds16 h nx s hp hF=>?_) N _ y28 _ _ _ _ hy ⟨F6,o14,(Int.toNat ((a0_0).length:Int)),(Go.Hx.repl (Int.toNat (0:Int)) [(i64 0),(i64 0)]),rfl,(PH.le.refl _),st,w14,gA,gA,gA,gA⟩ (fun e a σ hne hq=>?_)
  ·obtain ⟨F16,o17,c17,cs17,rfl,le16,st,w17,t4,t6,t22,t23⟩:=hp
   unfold sf27_L1 at hF;unfold L27w0;refine zd (ze ?_);refine z6 ?_;refine zb (th_n ?_);refine zd ?_;refine zC (fun hb31=>?_) (fun hb31=>?_)
   ·have hF:=zw hb31 hF;refine zD (th_n ?_);refine zd ?_;refine zt ?_;refine zd (ze ?_);refine za ?_;refine za ?_;refine zb (th_n ?_);refine ze ?_;refine za ?_;refine za ?_;obtain ⟨v32,e33,hF⟩:=zk hF;refine zU st (ct75 N e33 st.d (all_sub _) (RowF.mono st.all_le (RowF.mono le16 ry7)) (RowF.mono st.all_le (RowF.mono le16 ry8)) (st.at (i:=1) rfl).2.2) (fun n34 st=>?_);refine v_bs (cs:=[(i64 v32.1),(i64 v32.2)]) st rfl (fun b35 h36 n37 st=>?_);obtain ⟨q38,hF⟩:=zn hF
    have w38:LR (rP rI rI) 2 F16 (x15.1 ++ [(v32.1,v32.2)]) (cs17 ++ [(i64 v32.1),(i64 v32.2)]):=LR.app w17 (LR.one (⟨[(i64 v32.1)],_,rfl,rfl,rfl⟩))
    refine uv (n:=1) (ox:=0) (m:=(x15.1 ++ [(v32.1,v32.2)]).length) (row:=[(i64 v32.1),(i64 v32.2)]) st 2 rfl w17.1 (st.at (i:=3) rfl).2.2 rfl rfl q38 hfl (by decide) (by decide) (by simp) (fun o38 c38 h38 n38 st=>?_)
    refine za ?_;refine zb ?_;refine ib_n ?_;refine th_n ?_;refine ze ?_;obtain ⟨q39,hF⟩:=zn hF;refine zX q39 ?_;refine za ?_;refine zb ?_;refine thn ⟨_,(inj hF).symm,rfl,?_⟩;dsimp only
    exact ⟨F16,o38,c38,(cs17 ++ [(i64 v32.1),(i64 v32.2)]),rfl,le16,(st.drop (by first | exact List.Sublist.refl _ | (repeat first | exact List.nil_sublist _ | refine List.Sublist.cons_cons _ ?_ | refine List.Sublist.cons _ ?_))),w38,gA,gA,gA,gA⟩
   ·have hF:=zx hb31 hF;refine z5 ?_;refine th_e ?_;refine th_e ?_;refine ⟨_,(inj hF).symm,rfl,rfl,?_⟩;dsimp only
    exact ⟨F16,o17,c17,cs17,rfl,le16,st,w17,gA⟩
  ·obtain ⟨N9,T,ds29⟩:=a;obtain ⟨h41,n42⟩:=σ;obtain ⟨rfl,e1,F29,o30,c30,cs30,e2,le29,st,w30,t6⟩:=hq
   dsimp only at e1 e2
   subst e1
   subst e2
   dsimp only at st t6
   refine ib_e ?_;refine th_n ?_;refine zd (ze ?_);refine za ?_;refine za ?_;refine za ?_;refine zb (th_n ?_);refine zy ?_;obtain rfl:=inj hF
   obtain ⟨F43,le43,st,rf43⟩:=St.freeze st 2 rfl w30 (by decide)
   exact vK st (Res.t gA (Res.t gA Res.nil)) ⟨_,_,rfl,⟨_,_,rfl,rf43⟩,rfl⟩
end Go.Hx.V

namespace Go.Hx.V
open Go.Hx
set_option maxRecDepth 20000
set_option maxHeartbeats 4000000
variable {fl : Nat} {h0 : Tr HBlk} {n0 : Nat} {F0 : PH}
attribute [local irreducible] W R C thenH inBlockH Tr.get Tr.set lo ck bnd ix iter
theorem ct28 (N:Nat) {a0_0:(List (Int × Int))} {a0_1:Int} {a0_2:(List (Int × Int × (List (Int × Int))))} {r:((List (Int × Int)) × Int)} (hF:sf28 N a0_0 a0_1 a0_2 = some r) (hd:D h0 n0) (hs:F0.sub h0) (hfl:fl ≤ n0) {pa0_0:Option (Nat × Nat)} {ca0_0:Nat} {pa0_2:Option (Nat × Nat)} {ca0_2:Nat} (ra0_0:RowF (rP rI rI) 2 F0 pa0_0 ca0_0 a0_0) (ra0_2:RowF (rP rI (rP rI (rL (rP rI rI) 2))) 3 F0 pa0_2 ca0_2 a0_2):C LW fl 28 [(.agg [(.slice pa0_0 (a0_0).length ca0_0),(i64 a0_1),(.slice pa0_2 (a0_2).length ca0_2)])] ⟨h0,n0⟩ (KR (rvT2 (lvL (rP rI rI) 2) lvI) F0 h0 n0 r):=by
 unfold sf28 at hF
 refine jc hd hs hfl lw28 rfl rfl (by rfl) (fun st T hT=>?_)
 have t0:=hT 0 _ rfl
 dsimp only [L28]
 refine zd (ze ?_);refine z9 st (fun b1 h2 n3 st=>?_);refine za ?_;refine za ?_;refine zb (th_n ?_);refine zd (ze ?_);refine zJ (vs:=[(.slice pa0_0 (a0_0).length ca0_0),(i64 a0_1),(.slice pa0_2 (a0_2).length ca0_2)]) (st.at (i:=0) rfl).2.2 rfl ?_;obtain ⟨v4,e5,hF⟩:=zk hF;refine yo st (ct74 N e5 st.d st.sub (Nat.le_trans hfl st.ext.le) ra0_0 ra0_2) (fun u6 F6 h6 n6 le6 rv6 st=>?_);obtain ⟨_,_,rfl,⟨_,_,rfl,⟨py7,cy7,rfl,ry7⟩,⟨_,_,rfl,rfl,⟨_,_,rfl,⟨py8,cy8,rfl,ry8⟩,⟨_,_,rfl,rfl,⟨rfl,rfl⟩⟩⟩⟩⟩⟩:=rv6;refine za ?_;refine v_xt rfl ?_;refine v_xt rfl ?_;refine zM st (fun b9 h10 n11 st=>?_)
 have st:=st.cells 1 rfl ([(.slice none 0 0),(i64 0),(.slice none 0 0),(i64 0)] ++ (eI .i64 169 (fun _=>0))) rfl
 refine v_st (v:=(.agg ([(.slice py7 (v4.1).length cy7),(i64 v4.2.1),(.slice py8 (v4.2.2.1).length cy8),(i64 v4.2.2.2.1)] ++ (eI .i64 169 v4.2.2.2.2.1)))) (cs':=([(.slice py7 (v4.1).length cy7),(i64 v4.2.1),(.slice py8 (v4.2.2.1).length cy8),(i64 v4.2.2.2.1)] ++ (eI .i64 169 v4.2.2.2.2.1))) st 1 rfl (yy [] rfl (by simp [HV.cells,zR,yW])) (ym _ zR (by rfl)) (yl _ (by rfl) yV) hfl (fun h12 st=>?_)
 refine za ?_;refine zb (th_n ?_);refine zd ?_;refine zd (ze ?_);refine za ?_;refine vl ?_;refine zb (th_n ?_);refine zC (fun hb13=>?_) (fun hb13=>?_)
 ·have hF:=zw hb13 hF;refine zd (ze ?_);refine za ?_;refine za ?_;refine za ?_;refine zb (th_n ?_);refine zy ?_;refine th_r ?_;obtain rfl:=inj hF
  exact vK st (Res.t gA (Res.t gA Res.nil)) ⟨_,_,rfl,⟨none,0,rfl,RowF.nil⟩,rfl⟩
 ·have hF:=zx hb13 hF;refine zD (th_n ?_);refine zd (ze ?_);refine v_fa ?_;refine zq (st.at (i:=0) rfl).2.2 rfl ?_;refine zZ ?_;obtain ⟨q14,hF⟩:=zn hF
  have w14:LR (rP rI rI) 2 F6 (List.replicate (Int.toNat (0:Int)) (0,0)) (Go.Hx.repl (Int.toNat (0:Int)) [(i64 0),(i64 0)]):=LR.repl (⟨[(i64 0)],_,rfl,rfl,rfl⟩) _
  refine v_mk st (n:=(List.replicate (Int.toNat (0:Int)) (0,0)).length) q14.1 q14.2.1 (by simp) q14.2.2.1 q14.2.2.2 (fun o14 h14 n14 st=>?_)
  refine za ?_;refine zb (th_n ?_);refine zd ?_;refine zd (ze ?_);refine v_fa ?_;refine zq (st.at (i:=0) rfl).2.2 rfl ?_;refine zZ ?_;refine za ?_;refine zb (th_n ?_);refine zt ?_;obtain ⟨y28,hy,hF⟩:=zk hF;refine zT (sf28_L1 N a0_2 v4) (fun x15 T ds16 h nx=>∃ (F16:PH) (o17:Option Nat) (c17:Nat) (cs17:List HV),ds16 = [] ∧ PH.le F6 F16 ∧ St n0 h0 F0 F16 h nx [.bx b1 [(.slice pa0_0 (a0_0).length ca0_0),(i64 a0_1),(.slice pa0_2 (a0_2).length ca0_2)],.bx b9 ([(.slice py7 (v4.1).length cy7),(i64 v4.2.1),(.slice py8 (v4.2.2.1).length cy8),(i64 v4.2.2.2.1)] ++ (eI .i64 169 v4.2.2.2.2.1)),.ls o17 c17 cs17 2] ∧ LR (rP rI rI) 2 F16 x15.1 cs17 ∧ T.get 4 = some (.ptr (some (b9,0))) ∧ T.get 6 = some (slv o17 (x15.1).length c17) ∧ T.get 22 = some (i64 ((a0_2).length:Int)) ∧ T.get 23 = some (i64 x15.2)) (fun y e a σ=>e = .exit 0 ∧ a.nt = 33 ∧ ∃ (F29:PH) (o30:Option Nat) (c30:Nat) (cs30:List HV),a.defers = [] ∧ PH.le F6 F29 ∧ St n0 h0 F0 F29 σ.h σ.nx [.bx b1 [(.slice pa0_0 (a0_0).length ca0_0),(i64 a0_1),(.slice pa0_2 (a0_2).length ca0_2)],.bx b9 ([(.slice py7 (v4.1).length cy7),(i64 v4.2.1),(.slice py8 (v4.2.2.1).length cy8),(i64 v4.2.2.2.1)] ++ (eI .i64 169 v4.2.2.2.2.1)),.ls o30 c30 cs30 2] ∧ LR (rP rI rI) 2 F29 y cs30 ∧ a.tmps.get 6 = some (slv o30 (y).length c30)) (fun x15 T ds16 h nx s hp hF=>?_) N _ y28 _ _ _ _ hy ⟨F6,o14,(Int.toNat ((a0_2).length:Int)),(Go.Hx.repl (Int.toNat (0:Int)) [(i64 0),(i64 0)]),rfl,(PH.le.refl _),st,w14,gA,gA,gA,gA⟩ (fun e a σ hne hq=>?_)
  ·obtain ⟨F16,o17,c17,cs17,rfl,le16,st,w17,t4,t6,t22,t23⟩:=hp
   unfold sf28_L1 at hF;unfold L28w0;refine zd (ze ?_);refine z6 ?_;refine zb (th_n ?_);refine zd ?_;refine zC (fun hb31=>?_) (fun hb31=>?_)
   ·have hF:=zw hb31 hF;refine zD (th_n ?_);refine zd ?_;refine zt ?_;refine zd (ze ?_);refine za ?_;refine za ?_;refine zb (th_n ?_);refine ze ?_;refine za ?_;refine za ?_;obtain ⟨v32,e33,hF⟩:=zk hF;refine zU st (ct76 N e33 st.d (all_sub _) (RowF.mono st.all_le (RowF.mono le16 ry7)) (RowF.mono st.all_le (RowF.mono le16 ry8)) (st.at (i:=1) rfl).2.2) (fun n34 st=>?_);refine v_bs (cs:=[(i64 v32.1),(i64 v32.2)]) st rfl (fun b35 h36 n37 st=>?_);obtain ⟨q38,hF⟩:=zn hF
    have w38:LR (rP rI rI) 2 F16 (x15.1 ++ [(v32.1,v32.2)]) (cs17 ++ [(i64 v32.1),(i64 v32.2)]):=LR.app w17 (LR.one (⟨[(i64 v32.1)],_,rfl,rfl,rfl⟩))
    refine uv (n:=1) (ox:=0) (m:=(x15.1 ++ [(v32.1,v32.2)]).length) (row:=[(i64 v32.1),(i64 v32.2)]) st 2 rfl w17.1 (st.at (i:=3) rfl).2.2 rfl rfl q38 hfl (by decide) (by decide) (by simp) (fun o38 c38 h38 n38 st=>?_)
    refine za ?_;refine zb ?_;refine ib_n ?_;refine th_n ?_;refine ze ?_;obtain ⟨q39,hF⟩:=zn hF;refine zX q39 ?_;refine za ?_;refine zb ?_;refine thn ⟨_,(inj hF).symm,rfl,?_⟩;dsimp only
    exact ⟨F16,o38,c38,(cs17 ++ [(i64 v32.1),(i64 v32.2)]),rfl,le16,(st.drop (by first | exact List.Sublist.refl _ | (repeat first | exact List.nil_sublist _ | refine List.Sublist.cons_cons _ ?_ | refine List.Sublist.cons _ ?_))),w38,gA,gA,gA,gA⟩
   ·have hF:=zx hb31 hF;refine z5 ?_;refine th_e ?_;refine th_e ?_;refine ⟨_,(inj hF).symm,rfl,rfl,?_⟩;dsimp only
    exact ⟨F16,o17,c17,cs17,rfl,le16,st,w17,gA⟩
  ·obtain ⟨N9,T,ds29⟩:=a;obtain ⟨h41,n42⟩:=σ;obtain ⟨rfl,e1,F29,o30,c30,cs30,e2,le29,st,w30,t6⟩:=hq
   dsimp only at e1 e2
   subst e1
   subst e2
   dsimp only at st t6
   refine ib_e ?_;refine th_n ?_;refine zd (ze ?_);refine za ?_;refine za ?_;refine za ?_;refine zb (th_n ?_);refine zy ?_;obtain rfl:=inj hF
   obtain ⟨F43,le43,st,rf43⟩:=St.freeze st 2 rfl w30 (by decide)
   exact vK st (Res.t gA (Res.t gA Res.nil)) ⟨_,_,rfl,⟨_,_,rfl,rf43⟩,rfl⟩
end Go.Hx.V

namespace Go.Hx.V
open Go.Hx
set_option maxRecDepth 20000
set_option maxHeartbeats 4000000
variable {fl : Nat} {h0 : Tr HBlk} {n0 : Nat} {F0 : PH}
attribute [local irreducible] W R C thenH inBlockH Tr.get Tr.set lo ck bnd ix iter
theorem ct12 (N:Nat) {a0_0:(List (Int × Int))} {a0_1:Int} {a0_2:(List (Int × Int × (List (Int × Int))))} {a1 a2:Int} {r:Bool} (hF:sf12 N a0_0 a0_1 a0_2 a1 a2 = some r) (hd:D h0 n0) (hs:F0.sub h0) {pa0_0:Option (Nat × Nat)} {ca0_0:Nat} {pa0_2:Option (Nat × Nat)} {ca0_2:Nat} (ra0_0:RowF (rP rI rI) 2 F0 pa0_0 ca0_0 a0_0) (ra0_2:RowF (rP rI (rP rI (rL (rP rI rI) 2))) 3 F0 pa0_2 ca0_2 a0_2):C LW fl 12 [(.agg [(.slice pa0_0 (a0_0).length ca0_0),(i64 a0_1),(.slice pa0_2 (a0_2).length ca0_2)]),(.int .u8 a1),(.int .u8 a2)] ⟨h0,n0⟩ (KS (.bool r) n0 h0):=by
 unfold sf12 at hF
 refine yd hd hs lw12 rfl rfl (by rfl) (fun st T hT=>?_)
 have hfl:n0 ≤ n0:=Nat.le_refl n0
 have t0:=hT 0 _ rfl
 have t1:=hT 1 _ rfl
 have t2:=hT 2 _ rfl
 dsimp only [L12]
 refine zd (ze ?_);refine z9 st (fun b1 h2 n3 st=>?_);refine za ?_;refine zb (th_n ?_);refine zd ?_;refine zd (ze ?_);refine zJ (vs:=[(.slice pa0_0 (a0_0).length ca0_0),(i64 a0_1),(.slice pa0_2 (a0_2).length ca0_2)]) (st.at (i:=0) rfl).2.2 rfl ?_;obtain ⟨v4,e5,hF⟩:=zk hF;refine zU st (ct60 N e5 st.d st.sub ra0_0 ra0_2) (fun n6 st=>?_);refine yE ?_;refine zb (th_n ?_);refine zC (fun hb7=>?_) (fun hb7=>?_)
 ·have hF:=zw hb7 hF;refine zd (ze ?_);refine zU st (ct_wakes (h:=_) (nx:=_)) (fun n8 st=>?_);refine za ?_;refine zb (th_n ?_);refine zy ?_;refine th_r ?_;obtain rfl:=inj hF
  exact zI st (Res.t gA Res.nil) rfl rfl
 ·have hF:=zx hb7 hF;refine zD (th_n ?_);refine zd (ze ?_);refine zJ (vs:=[(.slice pa0_0 (a0_0).length ca0_0),(i64 a0_1),(.slice pa0_2 (a0_2).length ca0_2)]) (st.at (i:=0) rfl).2.2 rfl ?_;refine zM st (fun b9 h10 n11 st=>?_);refine v_st (cs':=[(.slice pa0_0 (a0_0).length ca0_0),(i64 a0_1),(.slice pa0_2 (a0_2).length ca0_2)]) st 1 rfl rfl rfl rfl hfl (fun h12 st=>?_);refine zb (th_n ?_);obtain ⟨y31,hA32,hF⟩:=zk hF;refine yJ (fun T ds34 h nx=>∃ (F34:PH) (p35:Option (Nat × Nat)) (c35:Nat) (p36:Option (Nat × Nat)) (c36:Nat),ds34 = [] ∧ PH.le F0 F34 ∧ St n0 h0 F0 F34 h nx [.bx b1 [(.slice pa0_0 (a0_0).length ca0_0),(i64 a0_1),(.slice pa0_2 (a0_2).length ca0_2)],.bx b9 [(.slice p35 (y31.1).length c35),(i64 y31.2.1),(.slice p36 (y31.2.2).length c36)]] ∧ RowF (rP rI rI) 2 F34 p35 c35 y31.1 ∧ RowF (rP rI (rP rI (rL (rP rI rI) 2))) 3 F34 p36 c36 y31.2.2 ∧ T.get 2 = some (.int .u8 a2) ∧ T.get 3 = some (.ptr (some (b1,0))) ∧ T.get 7 = some (.ptr (some (b9,0)))) ?_ (fun T ds34 h nx hp=>?_)
  ·have hK33:=hF
   have hF:=hA32;refine zd (ze ?_);refine zJ (vs:=[(.slice pa0_0 (a0_0).length ca0_0),(i64 a0_1),(.slice pa0_2 (a0_2).length ca0_2)]) (st.at (i:=0) rfl).2.2 rfl ?_;obtain ⟨v37,e38,hF⟩:=zk hF;refine yo st (ct35 N e38 st.d st.sub (Nat.le_trans hfl st.ext.le) ra0_0 ra0_2) (fun u39 F39 h39 n39 le39 rv39 st=>?_);obtain ⟨py40,cy40,rfl,ry40⟩:=rv39;refine za ?_;refine zb (th_n ?_);refine zd (ze ?_);refine za ?_;refine zZ ?_;refine ja ?_;refine zb (th_n ?_);refine zC (fun hb41=>?_) (fun hb41=>?_)
   ·have hF:=zw hb41 hF;refine zd (ze ?_);refine za ?_;obtain ⟨q42,hF⟩:=zn hF;refine v_conv q42 ?_;refine za ?_;refine zZ ?_;obtain ⟨q43,hF⟩:=zn hF;refine v_rem q43 ?_;refine za ?_;refine zb (th_n ?_);refine yn (Nat.le_trans hfl st.ext.le) (fun dw=>?_);refine zG st.d dw (fun hm vw=>zJ (vs:=[(.slice pa0_0 (a0_0).length ca0_0),(i64 a0_1),(.slice pa0_2 (a0_2).length ca0_2)]) (vw.bx (st.at (i:=0) rfl)) rfl zF) ?_;refine zG st.d dw (fun hm vw=>za zF) ?_;refine zG st.d dw (fun hm vw=>za zF) ?_;refine zG st.d dw (fun hm vw=>za zF) ?_;obtain ⟨q44,hF⟩:=zn hF
    refine zG st.d dw (fun hm vw=>zX q44 zF) ?_;obtain ⟨q45,hF⟩:=zn hF
    refine kl st.d dw rfl rfl (fun hm vw=>v_slf (m:=((v37.drop (Int.toNat (Int.tmod a1 ((v37).length:Int)))).take ((Int.toNat ((Int.tmod a1 ((v37).length:Int))+(1:Int))) - (Int.toNat (Int.tmod a1 ((v37).length:Int))))).length) (Int.toNat (Int.tmod a1 ((v37).length:Int))) (Int.toNat ((Int.tmod a1 ((v37).length:Int))+(1:Int))) ry40 (YJ (by first | exact ev_c | (apply ev_t;repeat first | exact ge_h | refine ge_w rfl ?_ | refine ge_f rfl ?_ | refine ge_m rfl ?_ | assumption)) (Int.toNat_of_nonneg q45.1).symm) (YJ (by first | exact ev_c | (apply ev_t;repeat first | exact ge_h | refine ge_w rfl ?_ | refine ge_f rfl ?_ | refine ge_m rfl ?_ | assumption)) (Int.toNat_of_nonneg q45.2.1).symm) q45.2.2 (sl_len q45.2.2.2) (fun p45 c45 n46 hn' rs45=>zb (y_call dw hn' vw.d (fun dw=>?_))))
    refine vk st.d dw rfl (fun h47 ex vs=>?_)
    have st:=st.ext1 ex
    obtain ⟨v48,e49,hF⟩:=zk hF;refine yo st (ct37 N e49 st.d st.sub (Nat.le_trans hfl st.ext.le) (RowF.mono le39 ra0_0) (RowF.mono le39 ra0_2) rs45) (fun u50 F50 h50 n50 le50 rv50 st=>?_)
    have le51:=PH.le.trans le39 le50
    obtain ⟨_,rfl,⟨_,_,rfl,⟨py52,cy52,rfl,ry52⟩,⟨_,_,rfl,rfl,⟨py53,cy53,rfl,ry53⟩⟩⟩⟩:=rv50;refine v_st (cs':=[(.slice py52 (v48.1).length cy52),(i64 v48.2.1),(.slice py53 (v48.2.2).length cy53)]) st 1 rfl rfl rfl rfl hfl (fun h54 st=>?_);refine zb ?_;obtain rfl:=inj hF;refine thn ⟨rfl,?_⟩;dsimp only
    exact ⟨F50,py52,cy52,py53,cy53,rfl,le51,st,ry52,ry53,gA,gA,gA⟩
   ·have hF:=zx hb41 hF;refine zD ?_;obtain rfl:=inj hF;refine thn ⟨rfl,?_⟩;dsimp only
    exact ⟨F39,pa0_0,ca0_0,pa0_2,ca0_2,rfl,le39,st,(RowF.mono le39 ra0_0),(RowF.mono le39 ra0_2),gA,gA,gA⟩
  ·obtain ⟨F34,p35,c35,p36,c36,rfl,le34,st,rf35,rf36,t2,t3,t7⟩:=hp;refine zd (ze ?_);refine v_fa ?_;refine zq (st.at (i:=1) rfl).2.2 rfl ?_;refine za ?_;obtain ⟨q55,hF⟩:=zn hF;refine v_conv q55 ?_;obtain ⟨q56,hF⟩:=zn hF;refine v_rem q56 ?_;obtain ⟨q57,hF⟩:=zn hF;refine zX q57 ?_;refine v_min ?_;refine v_fa ?_;refine v_st (cs':=[(.slice p35 (y31.1).length c35),(i64 (min (20:Int) (y31.2.1+(Int.tmod a2 (4:Int))))),(.slice p36 (y31.2.2).length c36)]) st 1 rfl rfl rfl rfl hfl (fun h58 st=>?_);refine zb (th_n ?_);refine zd (ze ?_);refine zJ (vs:=[(.slice pa0_0 (a0_0).length ca0_0),(i64 a0_1),(.slice pa0_2 (a0_2).length ca0_2)]) (st.at (i:=0) rfl).2.2 rfl ?_
   obtain ⟨v59,e60,hF⟩:=zk hF;refine yo st (ct22 N e60 st.d st.sub (Nat.le_trans hfl st.ext.le) (RowF.mono le34 ra0_0) (RowF.mono le34 ra0_2)) (fun u61 F61 h61 n61 le61 rv61 st=>?_)
   have le62:=PH.le.trans le34 le61
   obtain ⟨_,rfl,⟨_,_,rfl,⟨py63,cy63,rfl,ry63⟩,⟨_,_,rfl,rfl,⟨py64,cy64,rfl,ry64⟩⟩⟩⟩:=rv61;obtain ⟨v65,e66,hF⟩:=zk hF;refine yo st (ct27 N e66 st.d st.sub (Nat.le_trans hfl st.ext.le) ry63 ry64) (fun u67 F67 h67 n67 le67 rv67 st=>?_)
   have le68:=PH.le.trans le62 le67
   have le69:=PH.le.trans le61 le67
   obtain ⟨_,_,rfl,⟨py70,cy70,rfl,ry70⟩,rfl⟩:=rv67;refine za ?_;refine v_xt rfl ?_;refine v_xt rfl ?_;refine za ?_;refine za ?_;refine zb (th_n ?_);refine zd (ze ?_);refine zJ (vs:=[(.slice p35 (y31.1).length c35),(i64 (min (20:Int) (y31.2.1+(Int.tmod a2 (4:Int))))),(.slice p36 (y31.2.2).length c36)]) (st.at (i:=1) rfl).2.2 rfl ?_;obtain ⟨v71,e72,hF⟩:=zk hF;refine yo st (ct22 N e72 st.d st.sub (Nat.le_trans hfl st.ext.le) (RowF.mono le69 rf35) (RowF.mono le69 rf36)) (fun u73 F73 h73 n73 le73 rv73 st=>?_)
   have le74:=PH.le.trans le68 le73
   have le75:=PH.le.trans le69 le73
   obtain ⟨_,rfl,⟨_,_,rfl,⟨py77,cy77,rfl,ry77⟩,⟨_,_,rfl,rfl,⟨py78,cy78,rfl,ry78⟩⟩⟩⟩:=rv73;obtain ⟨v79,e80,hF⟩:=zk hF;refine yo st (ct27 N e80 st.d st.sub (Nat.le_trans hfl st.ext.le) ry77 ry78) (fun u81 F81 h81 n81 le81 rv81 st=>?_)
   have le82:=PH.le.trans le74 le81
   have le83:=PH.le.trans le75 le81
   have le85:=PH.le.trans le73 le81
   obtain ⟨_,_,rfl,⟨py86,cy86,rfl,ry86⟩,rfl⟩:=rv81;refine za ?_;refine v_xt rfl ?_;refine v_xt rfl ?_;refine za ?_;refine za ?_;refine zb (th_n ?_);refine zd (ze ?_);refine zJ (vs:=[(.slice pa0_0 (a0_0).length ca0_0),(i64 a0_1),(.slice pa0_2 (a0_2).length ca0_2)]) (st.at (i:=0) rfl).2.2 rfl ?_;obtain ⟨v87,e88,hF⟩:=zk hF;refine yo st (ct22 N e88 st.d st.sub (Nat.le_trans hfl st.ext.le) (RowF.mono le82 ra0_0) (RowF.mono le82 ra0_2)) (fun u89 F89 h89 n89 le89 rv89 st=>?_)
   have le91:=PH.le.trans le83 le89
   have le93:=PH.le.trans le85 le89
   obtain ⟨_,rfl,⟨_,_,rfl,⟨py95,cy95,rfl,ry95⟩,⟨_,_,rfl,rfl,⟨py96,cy96,rfl,ry96⟩⟩⟩⟩:=rv89;obtain ⟨v97,e98,hF⟩:=zk hF;refine yo st (ct28 N e98 st.d st.sub (Nat.le_trans hfl st.ext.le) ry95 ry96) (fun u99 F99 h99 n99 le99 rv99 st=>?_)
   have le101:=PH.le.trans le91 le99
   have le103:=PH.le.trans le93 le99
   have le105:=PH.le.trans le89 le99
   obtain ⟨_,_,rfl,⟨py106,cy106,rfl,ry106⟩,rfl⟩:=rv99;refine za ?_;refine v_xt rfl ?_;refine v_xt rfl ?_;refine za ?_;refine za ?_;refine zb (th_n ?_);refine zd (ze ?_);refine zJ (vs:=[(.slice p35 (y31.1).length c35),(i64 (min (20:Int) (y31.2.1+(Int.tmod a2 (4:Int))))),(.slice p36 (y31.2.2).length c36)]) (st.at (i:=1) rfl).2.2 rfl ?_;obtain ⟨v107,e108,hF⟩:=zk hF;refine yo st (ct22 N e108 st.d st.sub (Nat.le_trans hfl st.ext.le) (RowF.mono le101 rf35) (RowF.mono le101 rf36)) (fun u109 F109 h109 n109 le109 rv109 st=>?_)
   have le113:=PH.le.trans le103 le109
   have le115:=PH.le.trans le105 le109
   obtain ⟨_,rfl,⟨_,_,rfl,⟨py117,cy117,rfl,ry117⟩,⟨_,_,rfl,rfl,⟨py118,cy118,rfl,ry118⟩⟩⟩⟩:=rv109;obtain ⟨v119,e120,hF⟩:=zk hF;refine yo st (ct28 N e120 st.d st.sub (Nat.le_trans hfl st.ext.le) ry117 ry118) (fun u121 F121 h121 n121 le121 rv121 st=>?_)
   have le125:=PH.le.trans le113 le121
   have le127:=PH.le.trans le115 le121
   have le129:=PH.le.trans le109 le121
   obtain ⟨_,_,rfl,⟨py130,cy130,rfl,ry130⟩,rfl⟩:=rv121;refine za ?_;refine v_xt rfl ?_;refine v_xt rfl ?_;refine za ?_;refine za ?_;refine zb (th_n ?_);obtain ⟨y157,hA158,hF⟩:=zk hF;refine yJ (fun T ds163 h nx=>∃ u,y157 = (.inr u) ∧ ∃ (F163:PH),ds163 = [] ∧ PH.le F121 F163 ∧ St n0 h0 F0 F163 h nx [.bx b1 [(.slice pa0_0 (a0_0).length ca0_0),(i64 a0_1),(.slice pa0_2 (a0_2).length ca0_2)],.bx b9 [(.slice p35 (y31.1).length c35),(i64 (min (20:Int) (y31.2.1+(Int.tmod a2 (4:Int))))),(.slice p36 (y31.2.2).length c36)]] ∧ T.get 10 = some (.slice py70 (v65.1).length cy70) ∧ T.get 11 = some (i64 v65.2) ∧ T.get 12 = some (.slice py86 (v79.1).length cy86) ∧ T.get 13 = some (i64 v79.2) ∧ T.get 14 = some (.slice py106 (v97.1).length cy106) ∧ T.get 16 = some (.slice py130 (v119.1).length cy130)) ?_ (fun T ds163 h nx hp=>?_)
   ·have hK159:=hF
    have hF:=hA158;obtain ⟨y170,hA171,hF⟩:=zk hF;refine yJ (fun T ds173 h nx=>∃ (F173:PH),ds173 = [] ∧ PH.le F121 F173 ∧ St n0 h0 F0 F173 h nx [.bx b1 [(.slice pa0_0 (a0_0).length ca0_0),(i64 a0_1),(.slice pa0_2 (a0_2).length ca0_2)],.bx b9 [(.slice p35 (y31.1).length c35),(i64 (min (20:Int) (y31.2.1+(Int.tmod a2 (4:Int))))),(.slice p36 (y31.2.2).length c36)]] ∧ T.get 10 = some (.slice py70 (v65.1).length cy70) ∧ T.get 11 = some (i64 v65.2) ∧ T.get 12 = some (.slice py86 (v79.1).length cy86) ∧ T.get 13 = some (i64 v79.2) ∧ T.get 14 = some (.slice py106 (v97.1).length cy106) ∧ T.get 16 = some (.slice py130 (v119.1).length cy130) ∧ T.get 95 = some (.bool y170)) ?_ (fun T ds173 h nx hp=>?_)
    ·have hK172:=hF
     have hF:=hA171;refine ze ?_;refine za ?_;refine za ?_;refine vl ?_;refine za ?_
     rcases Bool.eq_false_or_eq_true (!(decide (v65.2 = v97.2))) with hb174 | hb174
     ·have hF:=zw hb174 hF;refine zh hb174 ?_;refine zh hb174 ?_;refine zh hb174 ?_;refine zQ hb174 ?_;refine za ?_;refine zh rfl ?_;refine zh rfl ?_;refine zh rfl ?_;refine yk ?_;refine yk ?_;refine zh rfl ?_;refine zQ rfl ?_;refine za ?_;refine zh rfl ?_;refine zh rfl ?_;refine zh rfl ?_;refine yk ?_;refine yk ?_;refine zh rfl ?_;refine zQ rfl ?_;refine zb ?_;obtain rfl:=inj hF;refine thn ⟨rfl,?_⟩;dsimp only
      exact ⟨F121,rfl,(PH.le.refl _),st,gA,gA,gA,gA,gA,gA,gA⟩
     ·have hF:=zx hb174 hF;refine zj hb174 (za ?_);refine zj hb174 (za ?_);refine zj hb174 (vl ?_);refine zB hb174 ?_;refine za ?_
      rcases Bool.eq_false_or_eq_true (!(decide (v79.2 = v119.2))) with hb175 | hb175
      ·have hF:=zw hb175 hF;refine zh hb175 ?_;refine zh hb175 ?_;refine zh hb175 ?_;refine yk ?_;refine yk ?_;refine zh hb175 ?_;refine zQ hb175 ?_;refine za ?_;refine zh rfl ?_;refine zh rfl ?_;refine zh rfl ?_;refine yk ?_;refine yk ?_;refine zh rfl ?_;refine zQ rfl ?_;refine zb ?_;obtain rfl:=inj hF;refine thn ⟨rfl,?_⟩;dsimp only
       exact ⟨F121,rfl,(PH.le.refl _),st,gA,gA,gA,gA,gA,gA,gA⟩
      ·have hF:=zx hb175 hF;refine zj hb175 (za ?_);refine zj hb175 (vl ?_);refine zj hb175 (za ?_)
       rcases Bool.eq_false_or_eq_true (!(decide (v65.2 = (0:Int)))) with hb176 | hb176
       ·have hF:=zw hb176 hF;refine zj hb176 (za ?_);refine zj hb176 (vl ?_);refine zj hb175 (zQ hb176 ?_);refine zB hb175 ?_;refine za ?_
        rcases Bool.eq_false_or_eq_true (!(decide (v65.2 = (9:Int)))) with hb177 | hb177
        ·have hF:=zw hb177 hF;refine zh hb177 ?_;refine zh hb177 ?_;refine zh hb177 ?_;refine yk ?_;refine yk ?_;refine zh hb177 ?_;refine zQ hb177 ?_;refine zb ?_;obtain rfl:=inj hF;refine thn ⟨rfl,?_⟩;dsimp only
         exact ⟨F121,rfl,(PH.le.refl _),st,gA,gA,gA,gA,gA,gA,gA⟩
        ·have hF:=zx hb177 hF;refine zj hb177 (za ?_);refine zj hb177 (vl ?_);refine zj hb177 (za ?_)
         rcases Bool.eq_false_or_eq_true (!(decide (v79.2 = (0:Int)))) with hb178 | hb178
         ·have hF:=zw hb178 hF;refine zj hb178 (za ?_);refine zj hb178 (vl ?_);refine zj hb177 (zQ hb178 ?_);refine zB hb177 ?_;refine zb ?_;obtain rfl:=inj hF;refine thn ⟨rfl,?_⟩;dsimp only
          exact ⟨F121,rfl,(PH.le.refl _),st,gA,gA,gA,gA,gA,gA,gA⟩
         ·have hF:=zx hb178 hF;refine zh hb178 ?_;refine zh hb178 ?_;refine zj hb177 (zB hb178 ?_);refine zB hb177 ?_;refine zb ?_;obtain rfl:=inj hF;refine thn ⟨rfl,?_⟩;dsimp only
          exact ⟨F121,rfl,(PH.le.refl _),st,gA,gA,gA,gA,gA,gA,gA⟩
       ·have hF:=zx hb176 hF;refine zh hb176 ?_;refine zh hb176 ?_;refine zj hb175 (zB hb176 ?_);refine zB hb175 ?_;refine za ?_;refine zj rfl (za ?_);refine zj rfl (vl ?_);refine zj rfl (za ?_)
        rcases Bool.eq_false_or_eq_true (!(decide (v79.2 = (0:Int)))) with hb179 | hb179
        ·have hF:=zw hb179 hF;refine zj hb179 (za ?_);refine zj hb179 (vl ?_);refine zj rfl (zQ hb179 ?_);refine zB rfl ?_;refine zb ?_;obtain rfl:=inj hF;refine thn ⟨rfl,?_⟩;dsimp only
         exact ⟨F121,rfl,(PH.le.refl _),st,gA,gA,gA,gA,gA,gA,gA⟩
        ·have hF:=zx hb179 hF;refine zh hb179 ?_;refine zh hb179 ?_;refine zj rfl (zB hb179 ?_);refine zB rfl ?_;refine zb ?_;obtain rfl:=inj hF;refine thn ⟨rfl,?_⟩;dsimp only
         exact ⟨F121,rfl,(PH.le.refl _),st,gA,gA,gA,gA,gA,gA,gA⟩
    ·obtain ⟨F173,rfl,le173,st,t10,t11,t12,t13,t14,t16,t95⟩:=hp
     refine zC (fun hb189=>?_) (fun hb189=>?_)
     ·have hF:=zw hb189 hF;refine zd (ze ?_);refine za ?_;refine zb (th_n ?_);refine zy ?_;obtain rfl:=inj hF;have hF:=hK159;have hF:=yQ hF;refine th_r ?_;obtain rfl:=inj hF
      exact zI st (Res.t gA Res.nil) rfl rfl
     ·have hF:=zx hb189 hF;refine zD ?_;obtain rfl:=inj hF;refine thn ⟨rfl,_,rfl,?_⟩;dsimp only
      exact ⟨F173,rfl,le173,st,gA,gA,gA,gA,gA,gA⟩
   ·obtain ⟨w162,rfl,F163,rfl,le163,st,t10,t11,t12,t13,t14,t16⟩:=hp;have hF:=yP hF
    have le202:=PH.le.trans le125 le163
    have le204:=PH.le.trans le127 le163
    have le206:=PH.le.trans le129 le163
    refine zd (ze ?_);refine za ?_;refine vl ?_;refine za ?_
    rcases Bool.eq_false_or_eq_true (!(decide (v65.2 = (0:Int)))) with hb208 | hb208
    ·have hF:=zw hb208 hF;refine zh hb208 ?_;refine zh hb208 ?_;refine zh hb208 ?_;refine yk ?_;refine yk ?_;refine yk ?_;refine zh hb208 ?_;refine zh hb208 ?_;refine yk ?_;refine yk ?_;refine yk ?_;refine zh hb208 ?_;refine zQ hb208 ?_;refine za ?_;refine zj rfl (zU st (ct_wakes (h:=_) (nx:=_)) (fun n209 st=>?_));refine zQ rfl ?_;refine za ?_;refine zb (th_n ?_);refine zy ?_;obtain rfl:=inj hF
     exact zI st (Res.t gA Res.nil) rfl rfl
    ·have hF:=zx hb208 hF;refine zj hb208 (za ?_);refine zj hb208 (Yh ?_);refine zj hb208 (za ?_)
     rcases Bool.eq_false_or_eq_true (decide (v79.2 = (0:Int))) with hb210 | hb210
     ·have hF:=zw hb210 hF;refine zj hb210 (za ?_);refine zj hb210 (za ?_);obtain ⟨v211,e212,hF⟩:=zk hF;refine zj hb210 (zU st (ct64 N e212 st.d st.sub (RowF.mono le202 ry70) (RowF.mono le204 ry86)) (fun n213 st=>?_));refine zj hb208 (zQ hb210 ?_);refine zj hb208 (za ?_)
      rcases Bool.eq_false_or_eq_true v211 with hb214 | hb214
      ·have hF:=zw hb214 hF;refine zj hb214 (za ?_);refine zj hb214 (za ?_);obtain ⟨v215,e216,hF⟩:=zk hF;refine zj hb214 (zU st (ct64 N e216 st.d st.sub (RowF.mono le206 ry106) (RowF.mono le163 ry130)) (fun n217 st=>?_));refine zj hb208 (zQ hb214 ?_);refine zB hb208 ?_;refine za ?_
       rcases Bool.eq_false_or_eq_true v215 with hb218 | hb218
       ·have hF:=zw hb218 hF;refine zj hb218 (zU st (ct_wakes (h:=_) (nx:=_)) (fun n219 st=>?_));refine zQ hb218 ?_;refine za ?_;refine zb (th_n ?_);refine zy ?_;obtain rfl:=inj hF
        exact zI st (Res.t gA Res.nil) rfl rfl
       ·have hF:=zx hb218 hF;refine zh hb218 ?_;refine zB hb218 ?_;refine za ?_;refine zb (th_n ?_);refine zy ?_;obtain rfl:=inj hF
        exact zI st (Res.t gA Res.nil) rfl rfl
      ·have hF:=zx hb214 hF;refine zh hb214 ?_;refine zh hb214 ?_;refine zh hb214 ?_;refine zj hb208 (zB hb214 ?_);refine zB hb208 ?_;refine za ?_;refine zh rfl ?_;refine zB rfl ?_;refine za ?_;refine zb (th_n ?_);refine zy ?_;obtain rfl:=inj hF
       exact zI st (Res.t gA Res.nil) rfl rfl
     ·have hF:=zx hb210 hF;refine zh hb210 ?_;refine zh hb210 ?_;refine zh hb210 ?_;refine zj hb208 (zB hb210 ?_);refine zj hb208 (za ?_);refine zh rfl ?_;refine zh rfl ?_;refine zh rfl ?_;refine zj hb208 (zB rfl ?_);refine zB hb208 ?_;refine za ?_;refine zh rfl ?_;refine zB rfl ?_;refine za ?_;refine zb (th_n ?_);refine zy ?_;obtain rfl:=inj hF
      exact zI st (Res.t gA Res.nil) rfl rfl
end Go.Hx.V


namespace Go.Hx.V
open Go.Hx
theorem y4 {α β : Type} {step : α → Option (α ⊕ β)} (P : α → Prop) (m : α → Nat) (Y : β → Prop)
  (h : ∀ x, P x → (∃ x', step x = some (.inl x') ∧ P x' ∧ m x' < m x) ∨ ∃ y, step x = some (.inr y) ∧ Y y) : ∀ (N : Nat) (x : α), P x → m x < N → ∃ y, iter step N x = some y ∧ Y y
 | 0, x, hp, hm => by omega
 | N + 1, x, hp, hm => by
  unfold iter
  rcases h x hp with ⟨x', e, hp', hm'⟩ | ⟨y, e, hy⟩
  ·rw [e]; exact y4 P m Y h N x' hp' (by omega)
  ·rw [e]; exact ⟨y, rfl, hy⟩
theorem Xf {α β : Type} {step : α → Option (α ⊕ β)} (s : Nat → α) (y : β) : ∀ (n i N : Nat), (∀ j, i ≤ j → j < i + n → step (s j) = some (.inl (s (j + 1)))) → step (s (i + n)) = some (.inr y) → n < N → iter step N (s i) = some y
 | 0, i, N, hs, he, hN => by
  obtain ⟨N, rfl⟩ : ∃ k, N = k + 1 := ⟨N - 1, by omega⟩
  unfold iter; rw [Nat.add_zero] at he; rw [he]; rfl
 | n + 1, i, N, hs, he, hN => by
  obtain ⟨N, rfl⟩ : ∃ k, N = k + 1 := ⟨N - 1, by omega⟩
  unfold iter
  rw [hs i (by omega) (by omega)]
  exact Xf s y n (i + 1) N (fun j h1 h2 => hs j (by omega) (by omega)) (by rw [show i + 1 + n = i + (n + 1) by omega]; exact he) (by omega)
theorem yz {α β : Type} {step : α → Option (α ⊕ β)} {x : α} {N : Nat} (s : Nat → α) (n : Nat) (y : β) (hx : x = s 0) (hs : ∀ j, j < n → step (s j) = some (.inl (s (j + 1)))) (he : step (s n) = some (.inr y)) (hN : n < N) : iter step N x = some y := by
 subst hx
 exact Xf s y n 0 N (fun j _ h2 => hs j (by omega)) (by rw [Nat.zero_add]; exact he) hN
theorem jO {α β : Type} {step : α → Option (α ⊕ β)} {x : α} {N : Nat} (s : Nat → α) (n : Nat) (p : Nat → Prop) [DecidablePred p] (good bad : β) (hx : x = s 0) (hs : ∀ j, j < n → p j → step (s j) = some (.inl (s (j + 1)))) (hf : ∀ j, j < n → ¬ p j → step (s j) = some (.inr bad)) (he : step (s n) = some (.inr good)) (hN : n < N) :
  ((∀ j, j < n → p j) ∧ iter step N x = some good) ∨ (¬ (∀ j, j < n → p j) ∧ iter step N x = some bad) := by
 by_cases h : ∀ j, j < n → p j
 ·exact .inl ⟨h, yz s n good hx (fun j hj => hs j hj (h j hj)) he hN⟩
 ·refine .inr ⟨h, ?_⟩
  have h1 : ∃ j, j < n ∧ ¬ p j := by
   refine Classical.byContradiction fun hc => h fun j hj => Classical.byContradiction fun hp => hc ⟨j, hj, hp⟩
  -- the first one
  obtain ⟨j, hj, hp, hmin⟩ : ∃ j, j < n ∧ ¬ p j ∧ ∀ i, i < j → p i := by
   obtain ⟨j, hj⟩ := h1
   induction j using Nat.strongRecOn with
   | ind j ih =>
    by_cases g : ∀ i, i < j → p i
    ·exact ⟨j, hj.1, hj.2, g⟩
    ·have : ∃ i, i < j ∧ ¬ p i := Classical.byContradiction fun hc => g fun i hi => Classical.byContradiction fun hp => hc ⟨i, hi, hp⟩
     obtain ⟨i, hi, hpi⟩ := this
     exact ih i hi ⟨by omega, hpi⟩
  exact yz s j bad hx (fun i hi => hs i (by omega) (hmin i hi)) (hf j hj hp) (by omega)
theorem z3 {α β : Type} {l : List α} {j : Int} {n : Nat} {x : α} {k : α → Option β} (hj : j = n) (h : l[n]? = some x) : ix l j k = k x := by
 subst hj; exact ix_pos h
theorem zO {α : Type} {l : List α} {n : Nat} (h : n < l.length) : l[n]? = some l[n] := List.getElem?_eq_getElem h
theorem zY {α : Type} {l : List α} {n : Nat} {x : α} (h : l[n]? = some x) : n < l.length := by
 rcases Nat.lt_or_ge n l.length with g | g
 ·exact g
 ·rw [List.getElem?_eq_none g] at h; cases h
theorem yr {α : Type} {l : List α} {n : Nat} {x : α} (h : l[n]? = some x) : l.take (n + 1) = l.take n ++ [x] := by
 rw [List.take_add_one, h]; rfl
end Go.Hx.V

