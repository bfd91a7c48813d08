import Derived.Test.YtjjnncelpnijiaaGreatH05
set_option linter.all false
namespace Go.Hx.V
open Go.Hx
set_option maxRecDepth 20000
set_option maxHeartbeats 4000000
variable {fl : Nat} {h0 : Tr HBlk} {n0 : Nat} {F0 : PH}
attribute [local irreducible] W R C thenH inBlockH Tr.get Tr.set lo ck bnd ix iter
theorem ct59 (N:Nat) {a0_0 a0_1 a0_2 a0_3:Int} {r:(Int × Int × Int × Int)} (hF:sf59 N a0_0 a0_1 a0_2 a0_3 = some r) (hd:D h0 n0) (hs:F0.sub h0):C LW fl 59 [(.agg [(i64 a0_0),(i64 a0_1),(i64 a0_2),(i64 a0_3)])] ⟨h0,n0⟩ (KS (.agg [(i64 r.1),(i64 r.2.1),(i64 r.2.2.1),(i64 r.2.2.2)]) n0 h0):=by
 unfold sf59 at hF
 refine z8 hd hs lw59 rfl rfl (by rfl) (fun st T hT=>?_)
 have hfl:n0 ≤ n0:=Nat.le_refl n0
 have t0:=hT 0 _ rfl
 dsimp only [L59]
 refine zg (zh ?_);refine zW st (fun b1 h2 n3 st=>?_);refine zM st (fun b4 h5 n6 st=>?_);refine zf (th_n ?_);refine zg ?_;refine zV (Nat.le_trans hfl st.ext.le) (fun dw=>?_);refine zd st.d dw (fun hm vw=>v_fa zb) ?_;refine zd st.d dw (fun hm vw=>zq (vw.bx (st.at (i:=0) rfl)) rfl zb) ?_;refine zd st.d dw (fun hm vw=>v_fa zb) ?_;refine zd st.d dw (fun hm vw=>zq (vw.bx (st.at (i:=0) rfl)) rfl zb) ?_;refine zd st.d dw (fun hm vw=>v_fa zb) ?_;refine zd st.d dw (fun hm vw=>zK (vs:=[(i64 a0_2),(i64 a0_3)]) (vw.bx (st.at (i:=0) rfl)) rfl zb) ?_;obtain ⟨v7,e8,hF⟩:=zm hF
 refine yj st.d dw (fun hm vw=>yl (ct97 N e8 vw.d (vw.sub st) ) (fun n' hn'=>yk hn')) (fun n9 hn' dw=>?_);refine ye st.d dw rfl (fun h10 ex vs=>?_)
 have st:=st.ext1 ex
 refine zR (cs:=[(i64 a0_0),(i64 a0_1),(i64 v7.1),(i64 v7.2)]) rfl ?_;refine v_st (cs':=[(i64 a0_0),(i64 a0_1),(i64 v7.1),(i64 v7.2)]) st 1 rfl rfl rfl rfl hfl (fun h11 st=>?_);refine zf (th_n ?_);refine zu ?_;obtain rfl:=inj hF
 exact zD st (Res.c gA (st.at (i:=1) rfl).2.2 (show takeN _ _ = some [(i64 a0_0),(i64 a0_1),(i64 v7.1),(i64 v7.2)] from rfl) Res.nil) rfl rfl
theorem ct60 (N:Nat) {a0:(List (Int × Int × Int × Int))} {r:(List (Int × Int × Int × Int))} (hF:sf60 N a0 = some r) (hd:D h0 n0) (hs:F0.sub h0) (hfl:fl ≤ n0) {pa0:Option (Nat × Nat)} {ca0:Nat} (ra0:RowF (rP rI (rP rI (rP rI rI))) 4 F0 pa0 ca0 a0):C LW fl 60 [(.slice pa0 (a0).length ca0)] ⟨h0,n0⟩ (KR (lvL (rP rI (rP rI (rP rI rI))) 4) F0 h0 n0 r):=by
 unfold sf60 at hF
 refine vu hd hs hfl lw60 rfl rfl (by rfl) (fun st T hT=>?_)
 have t0:=hT 0 _ rfl
 dsimp only [L60]
 refine zg (zh ?_);refine za ?_;refine zf (th_n ?_);refine zg (zh ?_);refine za ?_;refine zf (th_n ?_);refine zg ?_;refine zg (zh ?_);refine za ?_;refine zf (th_n ?_);refine zE ?_
 have st:=st.nilL 4
 have w1:LR (rP rI (rP rI (rP rI rI))) 4 F0 ([]:List (Int × Int × Int × Int)) []:=LR.nil
 obtain ⟨y19,hy,hF⟩:=zm hF;refine z5 (sf60_L1 N a0) (fun x3 T ds4 h nx=>∃ (F4:PH) (o5:Option Nat) (c5:Nat) (cs5:List HV),ds4 = [] ∧ PH.le F0 F4 ∧ St n0 h0 F0 F4 h nx [.ls o5 c5 cs5 4] ∧ LR (rP rI (rP rI (rP rI rI))) 4 F4 x3.1 cs5 ∧ T.get 0 = some (.slice pa0 (a0).length ca0) ∧ T.get 3 = some (slv o5 (x3.1).length c5) ∧ T.get 4 = some (i64 x3.2)) (fun y e a σ=>e = .exit 0 ∧ a.nt = 32 ∧ ∃ (F20:PH) (o21:Option Nat) (c21:Nat) (cs21:List HV),a.defers = [] ∧ PH.le F0 F20 ∧ St n0 h0 F0 F20 σ.h σ.nx [.ls o21 c21 cs21 4] ∧ LR (rP rI (rP rI (rP rI rI))) 4 F20 y cs21 ∧ a.tmps.get 3 = some (slv o21 (y).length c21)) (fun x3 T ds4 h nx s hp hF=>?_) N _ y19 _ _ _ _ hy ⟨F0,none,0,[],rfl,(PH.le.refl _),st,w1,gA,gA,gA⟩ (fun e a σ hne hq=>?_)
 ·obtain ⟨F4,o5,c5,cs5,rfl,le4,st,w5,t0,t3,t4⟩:=hp;unfold sf60_L1 at hF;unfold L60w0;refine zg ?_;refine zg (zh ?_);refine za ?_;refine za ?_;refine yA ?_;refine yg ?_;refine zf (th_n ?_);refine zB (fun hb22=>?_) (fun hb22=>?_)
  ·have hF:=zw hb22 hF;refine zA (th_n ?_);refine zg ?_;refine zE ?_;refine zV (Nat.le_trans hfl st.ext.le) (fun dw=>?_);refine zd st.d dw (fun hm vw=>za zb) ?_;refine zd st.d dw (fun hm vw=>za zb) ?_;refine zd st.d dw (fun hm vw=>za zb) ?_;obtain ⟨n23,x23,z23,l23,g23,hF⟩:=zZ hF;obtain ⟨b23,o23,s23,j23,r23,e23,f23,k23,⟨_,_,rfl,rfl,⟨_,_,rfl,rfl,⟨_,_,rfl,rfl,rfl⟩⟩⟩⟩:=RowF.get ra0 g23;refine zd st.d dw (fun hm vw=>yt e23 z23 l23 zb) ?_;refine zd st.d dw (fun hm vw=>v_fa zb) ?_;refine zd st.d dw (fun hm vw=>zq (vw.fz st (le4 _ _ f23)) (yp (j:=0) k23 rfl) zb) ?_
   refine zd st.d dw (fun hm vw=>za zb) ?_;refine zd st.d dw (fun hm vw=>za zb) ?_;obtain ⟨n24,x24,z24,l24,g24,hF⟩:=zZ hF;obtain ⟨b24,o24,s24,j24,r24,e24,f24,k24,⟨_,_,rfl,rfl,⟨_,_,rfl,rfl,⟨_,_,rfl,rfl,rfl⟩⟩⟩⟩:=RowF.get ra0 g24;refine zd st.d dw (fun hm vw=>yt e24 z24 l24 zb) ?_;refine zd st.d dw (fun hm vw=>v_fa zb) ?_;refine zd st.d dw (fun hm vw=>zq (vw.fz st (le4 _ _ f24)) (yp (j:=1) k24 rfl) zb) ?_;refine zd st.d dw (fun hm vw=>za zb) ?_;refine zd st.d dw (fun hm vw=>za zb) ?_;obtain ⟨n25,x25,z25,l25,g25,hF⟩:=zZ hF;obtain ⟨b25,o25,s25,j25,r25,e25,f25,k25,⟨_,_,rfl,rfl,⟨_,_,rfl,rfl,⟨_,_,rfl,rfl,rfl⟩⟩⟩⟩:=RowF.get ra0 g25
   refine zd st.d dw (fun hm vw=>yt e25 z25 l25 zb) ?_;refine zd st.d dw (fun hm vw=>v_fa zb) ?_
   refine zd st.d dw (fun hm vw=>zK (vs:=[(i64 x25.2.2.1),(i64 x25.2.2.2)]) (vw.fz st (le4 _ _ f25)) (take_sub (j:=2) k25 (by decide) rfl) zb) ?_
   obtain ⟨v26,e27,hF⟩:=zm hF;refine yj st.d dw (fun hm vw=>yl (ct97 N e27 vw.d (vw.sub st) ) (fun n' hn'=>yk hn')) (fun n28 hn' dw=>?_);refine ye st.d dw rfl (fun h29 ex vs=>?_)
   have st:=st.ext1 ex
   refine zR (cs:=[(i64 x23.1),(i64 x24.2.1),(i64 v26.1),(i64 v26.2)]) rfl ?_;refine v_bs (cs:=[(i64 x23.1),(i64 x24.2.1),(i64 v26.1),(i64 v26.2)]) st rfl (fun b30 h31 n32 st=>?_);obtain ⟨q33,hF⟩:=zj hF
   have w33:LR (rP rI (rP rI (rP rI rI))) 4 F4 (x3.1 ++ [(x23.1,x24.2.1,v26.1,v26.2)]) (cs5 ++ [(i64 x23.1),(i64 x24.2.1),(i64 v26.1),(i64 v26.2)]):=LR.app w5 (LR.one (⟨[(i64 x23.1)],_,rfl,rfl,⟨[(i64 x24.2.1)],_,rfl,rfl,⟨[(i64 v26.1)],_,rfl,rfl,rfl⟩⟩⟩))
   refine jn (n:=1) (ox:=0) (m:=(x3.1 ++ [(x23.1,x24.2.1,v26.1,v26.2)]).length) (row:=[(i64 x23.1),(i64 x24.2.1),(i64 v26.1),(i64 v26.2)]) st 0 rfl w5.1 (st.at (i:=1) rfl).2.2 rfl rfl q33 hfl (by decide) (by decide) (by simp) (fun o33 c33 h33 n33 st=>?_)
   refine za ?_;refine zf ?_;refine ib_n ?_;refine th_n ?_;refine zh ?_;refine za ?_;obtain ⟨q34,hF⟩:=zj hF;refine zO q34 ?_;refine za ?_;refine zf ?_;refine thn ⟨_,(inj hF).symm,rfl,?_⟩;dsimp only
   exact ⟨F4,o33,c33,(cs5 ++ [(i64 x23.1),(i64 x24.2.1),(i64 v26.1),(i64 v26.2)]),rfl,le4,(st.drop (by first | exact List.Sublist.refl _ | (repeat first | exact List.nil_sublist _ | refine List.Sublist.cons_cons _ ?_ | refine List.Sublist.cons _ ?_))),w33,gA,gA,gA⟩
  ·have hF:=zx hb22 hF;refine ya ?_;refine th_e ?_;refine th_e ?_;refine ⟨_,(inj hF).symm,rfl,rfl,?_⟩;dsimp only
   exact ⟨F4,o5,c5,cs5,rfl,le4,st,w5,gA⟩
 ·obtain ⟨N9,T,ds20⟩:=a;obtain ⟨h35,n36⟩:=σ;obtain ⟨rfl,e1,F20,o21,c21,cs21,e2,le20,st,w21,t3⟩:=hq
  dsimp only at e1 e2
  subst e1
  subst e2
  dsimp only at st t3
  refine ib_e ?_;refine th_n ?_;refine zg (zh ?_);refine za ?_;refine za ?_;refine zf (th_n ?_);refine zu ?_;obtain rfl:=inj hF
  obtain ⟨F37,le37,st,rf37⟩:=St.freeze st 0 rfl w21 (by decide)
  exact yJ st (Res.t gA Res.nil) ⟨_,_,rfl,rf37⟩
theorem ct168 (N:Nat) {a0_0 a0_1 a0_2 a0_3:Int} {r:Bool} (hF:sf168 N a0_0 a0_1 a0_2 a0_3 = some r) (hd:D h0 n0) (hs:F0.sub h0):C LW fl 168 [(.agg [(i64 a0_0),(i64 a0_1),(i64 a0_2),(i64 a0_3)])] ⟨h0,n0⟩ (KS (.bool r) n0 h0):=by
 unfold sf168 at hF
 refine z8 hd hs lw168 rfl rfl (by rfl) (fun st T hT=>?_)
 have hfl:n0 ≤ n0:=Nat.le_refl n0
 have t0:=hT 0 _ rfl
 dsimp only [L168]
 refine zg (zh ?_);refine zW st (fun b1 h2 n3 st=>?_);refine za ?_;refine zf (th_n ?_);obtain ⟨y19,hA20,hF⟩:=zm hF;refine yG (fun T ds25 h nx=>∃ u,y19 = (.inr u) ∧ ∃ (F25:PH),ds25 = [] ∧ PH.le F0 F25 ∧ St n0 h0 F0 F25 h nx [.bx b1 [(i64 a0_0),(i64 a0_1),(i64 a0_2),(i64 a0_3)]] ∧ T.get 1 = some (.ptr (some (b1,0)))) ?_ (fun T ds25 h nx hp=>?_)
 ·have hK21:=hF
  have hF:=hA20;obtain ⟨y31,hA32,hF⟩:=zm hF;refine yG (fun T ds34 h nx=>∃ (F34:PH),ds34 = [] ∧ PH.le F0 F34 ∧ St n0 h0 F0 F34 h nx [.bx b1 [(i64 a0_0),(i64 a0_1),(i64 a0_2),(i64 a0_3)]] ∧ T.get 1 = some (.ptr (some (b1,0))) ∧ T.get 17 = some (.bool y31)) ?_ (fun T ds34 h nx hp=>?_)
  ·have hK33:=hF
   have hF:=hA32;refine zh ?_;refine v_fa ?_;refine zq (st.at (i:=0) rfl).2.2 rfl ?_;refine yg ?_;refine za ?_
   rcases Bool.eq_false_or_eq_true (decide (a0_0 < (1:Int))) with hb35 | hb35
   ·have hF:=zw hb35 hF;refine ze hb35 ?_;refine ze hb35 ?_;refine ze hb35 ?_;refine zG hb35 ?_;refine za ?_;refine ze rfl ?_;refine ze rfl ?_;refine ze rfl ?_;refine ze rfl ?_;refine zG rfl ?_;refine zf ?_;obtain rfl:=inj hF;refine thn ⟨rfl,?_⟩;dsimp only
    exact ⟨F0,rfl,(PH.le.refl _),st,gA,gA⟩
   ·have hF:=zx hb35 hF;refine zi hb35 (v_fa ?_);refine zi hb35 (zq (st.at (i:=0) rfl).2.2 rfl ?_);refine zi hb35 (vV ?_);refine zC hb35 ?_;refine za ?_
    rcases Bool.eq_false_or_eq_true (decide ((10:Int) < a0_0)) with hb36 | hb36
    ·have hF:=zw hb36 hF;refine ze hb36 ?_;refine ze hb36 ?_;refine ze hb36 ?_;refine ze hb36 ?_;refine zG hb36 ?_;refine zf ?_;obtain rfl:=inj hF;refine thn ⟨rfl,?_⟩;dsimp only
     exact ⟨F0,rfl,(PH.le.refl _),st,gA,gA⟩
    ·have hF:=zx hb36 hF;refine zi hb36 (v_fa ?_);refine zi hb36 (zK (vs:=[(i64 a0_2),(i64 a0_3)]) (st.at (i:=0) rfl).2.2 rfl ?_);obtain ⟨v37,e38,hF⟩:=zm hF;refine zi hb36 (zI st (ct169 N e38 st.d st.sub ) (fun n39 st=>?_));refine zi hb36 (yo ?_);refine zC hb36 ?_;refine zf ?_;obtain rfl:=inj hF;refine thn ⟨rfl,?_⟩;dsimp only
     exact ⟨F0,rfl,(PH.le.refl _),st,gA,gA⟩
  ·obtain ⟨F34,rfl,le34,st,t1,t17⟩:=hp;refine zB (fun hb40=>?_) (fun hb40=>?_)
   ·have hF:=zw hb40 hF;refine zg (zh ?_);refine za ?_;refine zf (th_n ?_);refine zu ?_;obtain rfl:=inj hF;have hF:=hK21;have hF:=vg hF;refine th_r ?_;obtain rfl:=inj hF
    exact zD st (Res.t gA Res.nil) rfl rfl
   ·have hF:=zx hb40 hF;refine zA ?_;obtain rfl:=inj hF;refine thn ⟨rfl,_,rfl,?_⟩;dsimp only
    exact ⟨F34,rfl,le34,st,gA⟩
 ·obtain ⟨w24,rfl,F25,rfl,le25,st,t1⟩:=hp;have hF:=ve hF;refine zg (zh ?_);refine v_fa ?_;refine zq (st.at (i:=0) rfl).2.2 rfl ?_;refine v_fa ?_;refine v_fa ?_;refine zq (st.at (i:=0) rfl).2.2 rfl ?_;obtain ⟨q41,hF⟩:=zj hF;refine yL q41 ?_;refine v_fa ?_;refine zq (st.at (i:=0) rfl).2.2 rfl ?_;refine v_fa ?_;refine v_fa ?_;refine zq (st.at (i:=0) rfl).2.2 rfl ?_;obtain ⟨q42,hF⟩:=zj hF;refine yL q42 ?_;refine zR (cs:=[(i64 (a0_0 * a0_2)),(i64 (a0_0 * a0_3))]) rfl ?_;refine zM st (fun b43 h44 n45 st=>?_);refine v_st (cs':=[(i64 (a0_0 * a0_2)),(i64 (a0_0 * a0_3))]) st 1 rfl rfl rfl rfl hfl (fun h46 st=>?_)
  refine zf (th_n ?_);refine zg (zh ?_);refine v_fa ?_;refine zq (st.at (i:=0) rfl).2.2 rfl ?_;refine yx ?_;refine za ?_
  rcases Bool.eq_false_or_eq_true (decide (a0_1 ≤ (2000:Int))) with hb47 | hb47
  ·have hF:=zw hb47 hF;refine zi hb47 (zK (vs:=[(i64 (a0_0 * a0_2)),(i64 (a0_0 * a0_3))]) (st.at (i:=1) rfl).2.2 rfl ?_);refine zi hb47 (v_fa ?_);refine zi hb47 (zq (st.at (i:=0) rfl).2.2 rfl ?_);obtain ⟨v48,e49,hF⟩:=zm hF;refine zi hb47 (zI st (ct180 N e49 st.d st.sub ) (fun n50 st=>?_));refine zG hb47 ?_;refine za ?_;refine zf (th_n ?_);refine zu ?_;obtain rfl:=inj hF
   exact zD st (Res.t gA Res.nil) rfl rfl
  ·have hF:=zx hb47 hF;refine ze hb47 ?_;refine ze hb47 ?_;refine ze hb47 ?_;refine ze hb47 ?_;refine zC hb47 ?_;refine za ?_;refine zf (th_n ?_);refine zu ?_;obtain rfl:=inj hF
   exact zD st (Res.t gA Res.nil) rfl rfl
theorem ct152 (N:Nat) {a0_0 a0_1 a0_2 a0_3 a1_0 a1_1 a1_2 a1_3:Int} {r:Bool} (hF:sf152 N a0_0 a0_1 a0_2 a0_3 a1_0 a1_1 a1_2 a1_3 = some r) (hd:D h0 n0) (hs:F0.sub h0):C LW fl 152 [(.agg [(i64 a0_0),(i64 a0_1),(i64 a0_2),(i64 a0_3)]),(.agg [(i64 a1_0),(i64 a1_1),(i64 a1_2),(i64 a1_3)])] ⟨h0,n0⟩ (KS (.bool r) n0 h0):=by
 unfold sf152 at hF
 refine z8 hd hs lw152 rfl rfl (by rfl) (fun st T hT=>?_)
 have hfl:n0 ≤ n0:=Nat.le_refl n0
 have t0:=hT 0 _ rfl
 have t1:=hT 1 _ rfl
 dsimp only [L152]
 refine zg (zh ?_);refine zW st (fun b1 h2 n3 st=>?_);refine zW st (fun b4 h5 n6 st=>?_);refine za ?_;refine zf (th_n ?_);refine zg (zh ?_);refine v_fa ?_;refine zq (st.at (i:=1) rfl).2.2 rfl ?_;refine yx ?_;refine za ?_
 rcases Bool.eq_false_or_eq_true (decide ((0:Int) ≤ a1_0)) with hb7 | hb7
 ·have hF:=zw hb7 hF;refine zi hb7 (v_fa ?_);refine zi hb7 (zq (st.at (i:=1) rfl).2.2 rfl ?_);refine zi hb7 (v_fa ?_);refine zi hb7 (zq (st.at (i:=0) rfl).2.2 rfl ?_);refine zi hb7 (yg ?_);refine zG hb7 ?_;refine za ?_
  rcases Bool.eq_false_or_eq_true (decide (a1_0 < a0_0)) with hb8 | hb8
  ·have hF:=zw hb8 hF;refine zi hb8 (v_fa ?_);refine zi hb8 (zq (st.at (i:=1) rfl).2.2 rfl ?_);refine zi hb8 (v_fa ?_);refine zi hb8 (zq (st.at (i:=1) rfl).2.2 rfl ?_);refine zi hb8 (yx ?_);refine zG hb8 ?_;refine za ?_
   rcases Bool.eq_false_or_eq_true (decide (a1_0 ≤ a1_1)) with hb9 | hb9
   ·have hF:=zw hb9 hF;refine zi hb9 (v_fa ?_);refine zi hb9 (zq (st.at (i:=1) rfl).2.2 rfl ?_);refine zi hb9 (v_fa ?_);refine zi hb9 (zq (st.at (i:=0) rfl).2.2 rfl ?_);refine zi hb9 (yx ?_);refine zG hb9 ?_;refine za ?_
    rcases Bool.eq_false_or_eq_true (decide (a1_1 ≤ a0_0)) with hb10 | hb10
    ·have hF:=zw hb10 hF;refine zi hb10 (v_fa ?_);refine zi hb10 (zK (vs:=[(i64 a1_2),(i64 a1_3)]) (st.at (i:=1) rfl).2.2 rfl ?_);obtain ⟨v11,e12,hF⟩:=zm hF;refine zi hb10 (zI st (ct169 N e12 st.d st.sub ) (fun n13 st=>?_));refine zG hb10 ?_;refine za ?_;refine zf (th_n ?_);refine zu ?_;obtain rfl:=inj hF
     exact zD st (Res.t gA Res.nil) rfl rfl
    ·have hF:=zx hb10 hF;refine ze hb10 ?_;refine ze hb10 ?_;refine ze hb10 ?_;refine zC hb10 ?_;refine za ?_;refine zf (th_n ?_);refine zu ?_;obtain rfl:=inj hF
     exact zD st (Res.t gA Res.nil) rfl rfl
   ·have hF:=zx hb9 hF;refine ze hb9 ?_;refine ze hb9 ?_;refine ze hb9 ?_;refine ze hb9 ?_;refine ze hb9 ?_;refine zC hb9 ?_;refine za ?_;refine ze rfl ?_;refine ze rfl ?_;refine ze rfl ?_;refine zC rfl ?_;refine za ?_;refine zf (th_n ?_);refine zu ?_;obtain rfl:=inj hF
    exact zD st (Res.t gA Res.nil) rfl rfl
  ·have hF:=zx hb8 hF;refine ze hb8 ?_;refine ze hb8 ?_;refine ze hb8 ?_;refine ze hb8 ?_;refine ze hb8 ?_;refine zC hb8 ?_;refine za ?_;refine ze rfl ?_;refine ze rfl ?_;refine ze rfl ?_;refine ze rfl ?_;refine ze rfl ?_;refine zC rfl ?_;refine za ?_;refine ze rfl ?_;refine ze rfl ?_;refine ze rfl ?_;refine zC rfl ?_;refine za ?_;refine zf (th_n ?_);refine zu ?_;obtain rfl:=inj hF
   exact zD st (Res.t gA Res.nil) rfl rfl
 ·have hF:=zx hb7 hF;refine ze hb7 ?_;refine ze hb7 ?_;refine ze hb7 ?_;refine ze hb7 ?_;refine ze hb7 ?_;refine zC hb7 ?_;refine za ?_;refine ze rfl ?_;refine ze rfl ?_;refine ze rfl ?_;refine ze rfl ?_;refine ze rfl ?_;refine zC rfl ?_;refine za ?_;refine ze rfl ?_;refine ze rfl ?_;refine ze rfl ?_;refine ze rfl ?_;refine ze rfl ?_;refine zC rfl ?_;refine za ?_;refine ze rfl ?_;refine ze rfl ?_;refine ze rfl ?_;refine zC rfl ?_;refine za ?_;refine zf (th_n ?_);refine zu ?_;obtain rfl:=inj hF
  exact zD st (Res.t gA Res.nil) rfl rfl
end Go.Hx.V

namespace Go.Hx.V
open Go.Hx
set_option maxRecDepth 20000
set_option maxHeartbeats 4000000
variable {fl : Nat} {h0 : Tr HBlk} {n0 : Nat} {F0 : PH}
attribute [local irreducible] W R C thenH inBlockH Tr.get Tr.set lo ck bnd ix iter
theorem ct153 (N:Nat) {a0_0 a0_1 a0_2 a0_3:Int} {r:(Int × Int × Int × Int × Int × (Nat → Int))} (hF:sf153 N a0_0 a0_1 a0_2 a0_3 = some r) (hd:D h0 n0) (hs:F0.sub h0):C LW fl 153 [(.agg [(i64 a0_0),(i64 a0_1),(i64 a0_2),(i64 a0_3)])] ⟨h0,n0⟩ (KS (.agg ([(i64 r.1),(i64 r.2.1),(i64 r.2.2.1),(i64 r.2.2.2.1),(i64 r.2.2.2.2.1)] ++ (eI .i64 169 r.2.2.2.2.2))) n0 h0):=by
 unfold sf153 at hF
 refine z8 hd hs lw153 rfl rfl (by rfl) (fun st T hT=>?_)
 have hfl:n0 ≤ n0:=Nat.le_refl n0
 have t0:=hT 0 _ rfl
 dsimp only [L153]
 refine zg (zh ?_);refine zW st (fun b1 h2 n3 st=>?_);refine zM st (fun b4 h5 n6 st=>?_)
 have st:=st.cells 1 rfl ([(i64 0),(i64 0),(i64 0),(i64 0),(i64 0)] ++ (eI .i64 169 (fun _=>0))) rfl
 refine zf (th_n ?_);refine zg (zh ?_);refine zK (vs:=[(i64 a0_0),(i64 a0_1),(i64 a0_2),(i64 a0_3)]) (st.at (i:=0) rfl).2.2 rfl ?_;refine v_fa ?_;refine zq (st.at (i:=0) rfl).2.2 rfl ?_;obtain ⟨q7,hF⟩:=zj hF;refine zO q7 ?_;refine zR (cs:=([(i64 (a0_0+(1:Int)))] ++ (eI .i64 169 (fun _=>0)))) rfl ?_;refine zR (cs:=([(i64 a0_0),(i64 a0_1),(i64 a0_2),(i64 a0_3),(i64 (a0_0+(1:Int)))] ++ (eI .i64 169 (fun _=>0)))) rfl ?_;refine zM st (fun b8 h9 n10 st=>?_)
 have st:=st.cells 2 rfl ([(i64 0),(i64 0),(i64 0),(i64 0),(i64 0)] ++ (eI .i64 169 (fun _=>0))) rfl
 refine v_st (v:=(.agg ([(i64 a0_0),(i64 a0_1),(i64 a0_2),(i64 a0_3),(i64 (a0_0+(1:Int)))] ++ (eI .i64 169 (fun _=>0))))) (cs':=([(i64 a0_0),(i64 a0_1),(i64 a0_2),(i64 a0_3),(i64 (a0_0+(1:Int)))] ++ (eI .i64 169 (fun _=>0)))) st 2 rfl (yc [] rfl (by simp [HV.cells,zy,yn])) (zY _ zy (by rfl)) (zX _ (by rfl) ym) hfl (fun h11 st=>?_)
 refine zf (th_n ?_);refine zg ?_;refine zg (zh ?_);refine za ?_;refine zf (th_n ?_);refine zE ?_;obtain ⟨y126,hy,hF⟩:=zm hF;refine z5 (sf153_L2 N a0_0 a0_2 a0_3) (fun x69 T ds70 h nx=>∃ (F70:PH),ds70 = [] ∧ PH.le F0 F70 ∧ St n0 h0 F0 F70 h nx [.bx b1 [(i64 a0_0),(i64 a0_1),(i64 a0_2),(i64 a0_3)],.bx b4 ([(i64 0),(i64 0),(i64 0),(i64 0),(i64 0)] ++ (eI .i64 169 (fun _=>0))),.bx b8 ([(i64 a0_0),(i64 a0_1),(i64 a0_2),(i64 a0_3),(i64 (a0_0+(1:Int)))] ++ (eI .i64 169 x69.2))] ∧ T.get 1 = some (.ptr (some (b1,0))) ∧ T.get 2 = some (.ptr (some (b4,0))) ∧ T.get 3 = some (.ptr (some (b8,0))) ∧ T.get 4 = some (i64 x69.1)) (fun y e a σ=>e = .exit 0 ∧ a.nt = 65 ∧ ∃ (F127:PH),a.defers = [] ∧ PH.le F0 F127 ∧ St n0 h0 F0 F127 σ.h σ.nx [.bx b1 [(i64 a0_0),(i64 a0_1),(i64 a0_2),(i64 a0_3)],.bx b4 ([(i64 0),(i64 0),(i64 0),(i64 0),(i64 0)] ++ (eI .i64 169 (fun _=>0))),.bx b8 ([(i64 a0_0),(i64 a0_1),(i64 a0_2),(i64 a0_3),(i64 (a0_0+(1:Int)))] ++ (eI .i64 169 y))] ∧ a.tmps.get 1 = some (.ptr (some (b1,0))) ∧ a.tmps.get 2 = some (.ptr (some (b4,0))) ∧ a.tmps.get 3 = some (.ptr (some (b8,0)))) (fun x69 T ds70 h nx s hp hF=>?_) N _ y126 _ _ _ _ hy ⟨F0,rfl,(PH.le.refl _),st,gA,gA,gA,gA⟩ (fun e a σ hne hq=>?_)
 ·obtain ⟨F70,rfl,le70,st,t1,t2,t3,t4⟩:=hp;unfold sf153_L2 at hF;unfold L153w1;refine zg ?_;refine zg (zh ?_);refine za ?_;refine v_fa ?_;refine zq (st.at (i:=0) rfl).2.2 rfl ?_;refine yx ?_;refine zf (th_n ?_);refine zB (fun hb128=>?_) (fun hb128=>?_)
  ·have hF:=zw hb128 hF;refine zA (th_n ?_);refine zg ?_;refine zE ?_;refine zg (zh ?_);refine za ?_;refine za ?_;refine zf (th_n ?_);refine zE ?_;obtain ⟨y163,hy,hF⟩:=zm hF;refine z5 (sf153_L1 a0_0 a0_2 a0_3 x69) (fun x146 T ds147 h nx=>∃ (F147:PH),ds147 = [] ∧ PH.le F70 F147 ∧ St n0 h0 F0 F147 h nx [.bx b1 [(i64 a0_0),(i64 a0_1),(i64 a0_2),(i64 a0_3)],.bx b4 ([(i64 0),(i64 0),(i64 0),(i64 0),(i64 0)] ++ (eI .i64 169 (fun _=>0))),.bx b8 ([(i64 a0_0),(i64 a0_1),(i64 a0_2),(i64 a0_3),(i64 (a0_0+(1:Int)))] ++ (eI .i64 169 x146.2))] ∧ T.get 1 = some (.ptr (some (b1,0))) ∧ T.get 2 = some (.ptr (some (b4,0))) ∧ T.get 3 = some (.ptr (some (b8,0))) ∧ T.get 4 = some (i64 x69.1) ∧ T.get 5 = some (i64 x146.1)) (fun y e a σ=>e = .exit 2 ∧ a.nt = 65 ∧ ∃ (F164:PH),a.defers = [] ∧ PH.le F70 F164 ∧ St n0 h0 F0 F164 σ.h σ.nx [.bx b1 [(i64 a0_0),(i64 a0_1),(i64 a0_2),(i64 a0_3)],.bx b4 ([(i64 0),(i64 0),(i64 0),(i64 0),(i64 0)] ++ (eI .i64 169 (fun _=>0))),.bx b8 ([(i64 a0_0),(i64 a0_1),(i64 a0_2),(i64 a0_3),(i64 (a0_0+(1:Int)))] ++ (eI .i64 169 y))] ∧ a.tmps.get 1 = some (.ptr (some (b1,0))) ∧ a.tmps.get 2 = some (.ptr (some (b4,0))) ∧ a.tmps.get 3 = some (.ptr (some (b8,0))) ∧ a.tmps.get 4 = some (i64 x69.1)) (fun x146 T ds147 h nx s hp hF=>?_) N _ y163 _ _ _ _ hy ⟨F70,rfl,(PH.le.refl _),st,gA,gA,gA,gA,gA⟩ (fun e a σ hne hq=>?_)
   ·obtain ⟨F147,rfl,le147,st,t1,t2,t3,t4,t5⟩:=hp
    unfold sf153_L1 at hF;unfold L153w0;refine zg ?_;refine zg (zh ?_);refine za ?_;refine v_fa ?_;refine zq (st.at (i:=0) rfl).2.2 rfl ?_;refine yx ?_;refine zf (th_n ?_);refine zB (fun hb165=>?_) (fun hb165=>?_)
    ·have hF:=zw hb165 hF;refine zA (th_n ?_);refine zg ?_;refine zE ?_;refine zg ?_;refine zV (Nat.le_trans hfl st.ext.le) (fun dw=>?_);refine ye st.d dw rfl (fun h166 ex vs=>?_)
     have st:=st.ext1 ex
     refine za ?_;refine za ?_;refine za ?_;refine za ?_;obtain ⟨q167,hF⟩:=zj hF;refine yq q167 ?_;refine v_fa ?_;refine v_fa ?_;refine zq (st.at (i:=0) rfl).2.2 rfl ?_;obtain ⟨q168,hF⟩:=zj hF;refine yL q168 ?_;refine v_fa ?_;refine v_fa ?_;obtain ⟨q169,hF⟩:=zj hF
     refine zT (j:=(Int.toNat x69.1)) (Int.toNat_of_nonneg q169.1).symm (by omega) ?_
     obtain ⟨q170,hF⟩:=zj hF
     refine zT (j:=(Int.toNat x146.1)) (Int.toNat_of_nonneg q170.1).symm (by omega) ?_
     refine v_st (o:=((5+(Int.toNat x69.1) * 13)+(Int.toNat x146.1) * 1)) (v:=(i64 ((x146.1 - x69.1) * a0_3))) (cs':=([(i64 a0_0),(i64 a0_1),(i64 a0_2),(i64 a0_3),(i64 (a0_0+(1:Int)))] ++ (eI .i64 169 (ups x146.2 (((Int.toNat x69.1) * 13)+(Int.toNat x146.1)) ((x146.1 - x69.1) * a0_3))))) st 2 rfl (uE (p:=5) (ix:=(((Int.toNat x69.1) * 13)+(Int.toNat x146.1))) [(i64 a0_0),(i64 a0_1),(i64 a0_2),(i64 a0_3),(i64 (a0_0+(1:Int)))] rfl (by omega) (by omega)) rfl rfl hfl (fun h171 st=>?_)
     refine zf (th_n ?_);refine zV (Nat.le_trans hfl st.ext.le) (fun dw=>?_);refine ye st.d dw rfl (fun h172 ex vs=>?_)
     have st:=st.ext1 ex
     refine za ?_;refine za ?_;refine za ?_;refine za ?_;obtain ⟨q173,hF⟩:=zj hF;refine yq q173 ?_;refine v_fa ?_;refine v_fa ?_;refine zq (st.at (i:=0) rfl).2.2 rfl ?_;obtain ⟨q174,hF⟩:=zj hF;refine yL q174 ?_;refine v_fa ?_;refine v_fa ?_;obtain ⟨q175,hF⟩:=zj hF
     refine zT (j:=(Int.toNat x146.1)) (Int.toNat_of_nonneg q175.1).symm (by omega) ?_
     obtain ⟨q176,hF⟩:=zj hF
     refine zT (j:=(Int.toNat x69.1)) (Int.toNat_of_nonneg q176.1).symm (by omega) ?_
     refine v_st (o:=((5+(Int.toNat x146.1) * 13)+(Int.toNat x69.1) * 1)) (v:=(i64 ((x69.1 - x146.1) * a0_2))) (cs':=([(i64 a0_0),(i64 a0_1),(i64 a0_2),(i64 a0_3),(i64 (a0_0+(1:Int)))] ++ (eI .i64 169 (ups (ups x146.2 (((Int.toNat x69.1) * 13)+(Int.toNat x146.1)) ((x146.1 - x69.1) * a0_3)) (((Int.toNat x146.1) * 13)+(Int.toNat x69.1)) ((x69.1 - x146.1) * a0_2))))) st 2 rfl (uE (p:=5) (ix:=(((Int.toNat x146.1) * 13)+(Int.toNat x69.1))) [(i64 a0_0),(i64 a0_1),(i64 a0_2),(i64 a0_3),(i64 (a0_0+(1:Int)))] rfl (by omega) (by omega)) rfl rfl hfl (fun h177 st=>?_)
     refine zf ?_;refine ib_n ?_;refine th_n ?_;refine zh ?_;refine za ?_;obtain ⟨q178,hF⟩:=zj hF;refine zO q178 ?_;refine za ?_;refine zf ?_;refine thn ⟨_,(inj hF).symm,rfl,?_⟩;dsimp only
     exact ⟨F147,rfl,le147,st,gA,gA,gA,gA,gA⟩
    ·have hF:=zx hb165 hF;refine ya ?_;refine th_e ?_;refine th_e ?_;refine ⟨_,(inj hF).symm,rfl,rfl,?_⟩;dsimp only
     exact ⟨F147,rfl,le147,st,gA,gA,gA,gA⟩
   ·obtain ⟨N9,T,ds164⟩:=a;obtain ⟨h180,n181⟩:=σ;obtain ⟨rfl,e1,F164,e2,le164,st,t1,t2,t3,t4⟩:=hq
    dsimp only at e1 e2
    subst e1
    subst e2
    dsimp only at st t1 t2 t3 t4
    have le179:=PH.le.trans le70 le164
    refine ib_e ?_;refine ib_n ?_;refine th_n ?_;refine zh ?_;refine za ?_;obtain ⟨q182,hF⟩:=zj hF;refine zO q182 ?_;refine za ?_;refine zf ?_;refine thn ⟨_,(inj hF).symm,rfl,?_⟩;dsimp only
    exact ⟨F164,rfl,le179,st,gA,gA,gA,gA⟩
  ·have hF:=zx hb128 hF;refine ya ?_;refine th_e ?_;refine th_e ?_;refine ⟨_,(inj hF).symm,rfl,rfl,?_⟩;dsimp only
   exact ⟨F70,rfl,le70,st,gA,gA,gA⟩
 ·obtain ⟨N9,T,ds127⟩:=a;obtain ⟨h183,n184⟩:=σ;obtain ⟨rfl,e1,F127,e2,le127,st,t1,t2,t3⟩:=hq
  dsimp only at e1 e2
  subst e1
  subst e2
  dsimp only at st t1 t2 t3
  refine ib_e ?_;refine th_n ?_;refine zg (zh ?_);refine v_fa ?_;refine v_fa ?_;refine zq (st.at (i:=0) rfl).2.2 rfl ?_;refine v_fa ?_;refine zq (st.at (i:=0) rfl).2.2 rfl ?_;refine kq lw170 rfl rfl (fun T hT=>?_)
  have t0:=hT 0 _ rfl
  have t1:=hT 1 _ rfl
  have t2:=hT 2 _ rfl
  have t3:=hT 3 _ rfl
  dsimp only [L170]
  refine zg (zh ?_);refine za ?_;refine zf (th_n ?_);refine zg ?_;refine zg (zh ?_);refine za ?_;refine za ?_;refine za ?_;refine za ?_;obtain ⟨v186,e187,hF⟩:=zm hF;refine zI st (ct181 N e187 st.d (all_sub _)  (st.at (i:=2) rfl).2.2) (fun n188 st=>?_);refine yo ?_;refine zf (th_n ?_);refine zB (fun hb189=>?_) (fun hb189=>?_)
  ·have hF:=zw hb189 hF;refine zg (zh ?_);refine za ?_;refine zf (th_n ?_);refine zu ?_;refine th_r ?_;refine y4 (v:=(.bool false)) (Res.t gA Res.nil) rfl (.inl rfl) (ik ?_);refine zf (th_n ?_);refine zg (zh ?_);refine v_fa ?_;refine v_fa ?_;refine zq (st.at (i:=0) rfl).2.2 rfl ?_;refine v_fa ?_;refine zq (st.at (i:=0) rfl).2.2 rfl ?_;obtain ⟨q190,hF⟩:=zj hF;refine Yy q190 ?_;refine kq lw170 rfl rfl (fun T hT=>?_)
   have t0:=hT 0 _ rfl
   have t1:=hT 1 _ rfl
   have t2:=hT 2 _ rfl
   have t3:=hT 3 _ rfl
   dsimp only [L170]
   refine zg (zh ?_);refine za ?_;refine zf (th_n ?_);refine zg ?_;refine zg (zh ?_);refine za ?_;refine za ?_;refine za ?_;refine za ?_;obtain ⟨v192,e193,hF⟩:=zm hF;refine zI st (ct181 N e193 st.d (all_sub _)  (st.at (i:=2) rfl).2.2) (fun n194 st=>?_);refine yo ?_;refine zf (th_n ?_);refine zB (fun hb195=>?_) (fun hb195=>?_)
   ·have hF:=zw hb195 hF;refine zg (zh ?_);refine za ?_;refine zf (th_n ?_);refine zu ?_;refine th_r ?_;refine y4 (v:=(.bool false)) (Res.t gA Res.nil) rfl (.inl rfl) (ik ?_);refine zf (th_n ?_);refine zg (zh ?_);refine zK (vs:=([(i64 a0_0),(i64 a0_1),(i64 a0_2),(i64 a0_3),(i64 (a0_0+(1:Int)))] ++ (eI .i64 169 y126))) (st.at (i:=2) rfl).2.2 (zS (E:=(eI .i64 169 y126)) [] [(i64 a0_0),(i64 a0_1),(i64 a0_2),(i64 a0_3),(i64 (a0_0+(1:Int)))] rfl zy rfl) ?_
    refine v_st (v:=(.agg ([(i64 a0_0),(i64 a0_1),(i64 a0_2),(i64 a0_3),(i64 (a0_0+(1:Int)))] ++ (eI .i64 169 y126)))) (cs':=([(i64 a0_0),(i64 a0_1),(i64 a0_2),(i64 a0_3),(i64 (a0_0+(1:Int)))] ++ (eI .i64 169 y126))) st 1 rfl (yc [] rfl (by simp [HV.cells,zy,yn])) (zY _ zy (by rfl)) (zX _ (by rfl) ym) hfl (fun h196 st=>?_)
    refine zf (th_n ?_);refine zu ?_;obtain rfl:=inj hF
    exact zD st (Res.c gA (st.at (i:=1) rfl).2.2 (show takeN _ _ = some ([(i64 a0_0),(i64 a0_1),(i64 a0_2),(i64 a0_3),(i64 (a0_0+(1:Int)))] ++ (eI .i64 169 y126)) from (zS (E:=(eI .i64 169 y126)) [] [(i64 a0_0),(i64 a0_1),(i64 a0_2),(i64 a0_3),(i64 (a0_0+(1:Int)))] rfl zy rfl)) Res.nil) rfl rfl
   ·have hF:=zx hb195 hF;refine zA (th_n ?_);refine zg ?_;refine zg (zh ?_);refine za ?_;refine v_nc ?_;refine v_fa ?_;refine zq (st.at (i:=2) rfl).2.2 rfl ?_;refine za ?_;refine zf (th_n ?_);refine zE ?_;obtain ⟨y321,hy,hF⟩:=zm hF;refine z5 (sf153_L4 N a0_0 a0_1) (fun x259 T ds260 h nx=>∃ (F260:PH),ds260 = [] ∧ PH.le F127 F260 ∧ St n0 h0 F0 F260 h nx [.bx b1 [(i64 a0_0),(i64 a0_1),(i64 a0_2),(i64 a0_3)],.bx b4 ([(i64 0),(i64 0),(i64 0),(i64 0),(i64 0)] ++ (eI .i64 169 (fun _=>0))),.bx b8 ([(i64 a0_0),(i64 a0_1),(i64 a0_2),(i64 a0_3),(i64 (a0_0+(1:Int)))] ++ (eI .i64 169 x259.2))] ∧ T.get 0 = some (.ptr (some (b8,4))) ∧ T.get 1 = some (i64 a0_0) ∧ T.get 2 = some (i64 0) ∧ T.get 3 = some (i64 (-a0_1)) ∧ T.get 22 = some (i64 (a0_0+(1:Int))) ∧ T.get 23 = some (i64 x259.1)) (fun y e a σ=>e = .exit 0 ∧ a.nt = 83 ∧ ∃ (F322:PH),a.defers = [] ∧ PH.le F127 F322 ∧ St n0 h0 F0 F322 σ.h σ.nx [.bx b1 [(i64 a0_0),(i64 a0_1),(i64 a0_2),(i64 a0_3)],.bx b4 ([(i64 0),(i64 0),(i64 0),(i64 0),(i64 0)] ++ (eI .i64 169 (fun _=>0))),.bx b8 ([(i64 a0_0),(i64 a0_1),(i64 a0_2),(i64 a0_3),(i64 (a0_0+(1:Int)))] ++ (eI .i64 169 y))]) (fun x259 T ds260 h nx s hp hF=>?_) N _ y321 _ _ _ _ hy ⟨F127,rfl,(PH.le.refl _),st,gA,gA,gA,gA,gA,gA⟩ (fun e a σ hne hq=>?_)
    ·obtain ⟨F260,rfl,le260,st,t0,t1,t2,t3,t22,t23⟩:=hp
     unfold sf153_L4 at hF;unfold L170w1;refine zg (zh ?_);refine yg ?_;refine zf (th_n ?_);refine zg ?_;refine zB (fun hb323=>?_) (fun hb323=>?_)
     ·have hF:=zw hb323 hF;refine zA (th_n ?_);refine zg ?_;refine zE ?_;refine zg (zh ?_);refine za ?_;refine za ?_;refine zf (th_n ?_);refine zg (zh ?_);refine za ?_;refine za ?_;refine za ?_;refine v_nc ?_;refine v_fa ?_;obtain ⟨q324,hF⟩:=zj hF
      refine zT (j:=(Int.toNat x259.1)) (Int.toNat_of_nonneg q324.1).symm (by omega) ?_
      obtain ⟨q325,hF⟩:=zj hF
      refine zT (j:=(Int.toNat a0_0)) (Int.toNat_of_nonneg q325.1).symm (by omega) ?_
      refine zq (o:=((5+(Int.toNat x259.1) * 13)+(Int.toNat a0_0) * 1)) (st.at (i:=2) rfl).2.2 (yw (p:=5) (ix:=(((Int.toNat x259.1) * 13)+(Int.toNat a0_0))) [(i64 a0_0),(i64 a0_1),(i64 a0_2),(i64 a0_3),(i64 (a0_0+(1:Int)))] rfl (by omega) (by omega)) ?_
      refine za ?_;obtain ⟨q326,hF⟩:=zj hF;refine zO q326 ?_;refine za ?_;refine zf (th_n ?_);refine zg ?_;refine zg (zh ?_);refine za ?_;refine za ?_;refine za ?_;refine za ?_;refine v_nc ?_;refine v_fa ?_;obtain ⟨q327,hF⟩:=zj hF
      refine zT (j:=(Int.toNat x259.1)) (Int.toNat_of_nonneg q327.1).symm (by omega) ?_
      obtain ⟨q328,hF⟩:=zj hF
      refine zT (j:=(Int.toNat (0:Int))) (Int.toNat_of_nonneg q328.1).symm (by omega) ?_
      refine zq (o:=((5+(Int.toNat x259.1) * 13)+(Int.toNat (0:Int)) * 1)) (st.at (i:=2) rfl).2.2 (yw (p:=5) (ix:=(((Int.toNat x259.1) * 13)+(Int.toNat (0:Int)))) [(i64 a0_0),(i64 a0_1),(i64 a0_2),(i64 a0_3),(i64 (a0_0+(1:Int)))] rfl (by omega) (by omega)) ?_
      refine uq ?_;refine zf (th_n ?_);refine zB (fun hb329=>?_) (fun hb329=>?_)
      ·have hF:=zw hb329 hF;refine ya ?_;refine th_e ?_;refine ib_e ?_;refine th_n ?_;refine zh ?_;obtain ⟨q330,hF⟩:=zj hF;refine zO q330 ?_;refine za ?_;refine zf ?_;refine thn ⟨_,(inj hF).symm,rfl,?_⟩;dsimp only
       exact ⟨F260,rfl,le260,st,gA,gA,gA,gA,gA,gA⟩
      ·have hF:=zx hb329 hF;refine zA (th_n ?_);refine zg (zh ?_);refine za ?_;refine v_nc ?_;refine v_fa ?_;refine zq (st.at (i:=2) rfl).2.2 rfl ?_;refine za ?_;refine zf (th_n ?_);refine zE ?_;obtain ⟨y363,hy,hF⟩:=zm hF;refine z5 (sf153_L3 a0_0 a0_1 x259) (fun x347 T ds348 h nx=>∃ (F348:PH),ds348 = [] ∧ PH.le F260 F348 ∧ St n0 h0 F0 F348 h nx [.bx b1 [(i64 a0_0),(i64 a0_1),(i64 a0_2),(i64 a0_3)],.bx b4 ([(i64 0),(i64 0),(i64 0),(i64 0),(i64 0)] ++ (eI .i64 169 (fun _=>0))),.bx b8 ([(i64 a0_0),(i64 a0_1),(i64 a0_2),(i64 a0_3),(i64 (a0_0+(1:Int)))] ++ (eI .i64 169 x347.2))] ∧ T.get 0 = some (.ptr (some (b8,4))) ∧ T.get 1 = some (i64 a0_0) ∧ T.get 2 = some (i64 0) ∧ T.get 3 = some (i64 (-a0_1)) ∧ T.get 9 = some (i64 x259.1) ∧ T.get 10 = some (i64 ((x259.2 (((Int.toNat x259.1) * 13)+(Int.toNat a0_0)))+(-a0_1))) ∧ T.get 22 = some (i64 (a0_0+(1:Int))) ∧ T.get 23 = some (i64 x259.1) ∧ T.get 49 = some (i64 (a0_0+(1:Int))) ∧ T.get 50 = some (i64 x347.1)) (fun y e a σ=>e = .exit 2 ∧ a.nt = 83 ∧ ∃ (F364:PH),a.defers = [] ∧ PH.le F260 F364 ∧ St n0 h0 F0 F364 σ.h σ.nx [.bx b1 [(i64 a0_0),(i64 a0_1),(i64 a0_2),(i64 a0_3)],.bx b4 ([(i64 0),(i64 0),(i64 0),(i64 0),(i64 0)] ++ (eI .i64 169 (fun _=>0))),.bx b8 ([(i64 a0_0),(i64 a0_1),(i64 a0_2),(i64 a0_3),(i64 (a0_0+(1:Int)))] ++ (eI .i64 169 y))] ∧ a.tmps.get 0 = some (.ptr (some (b8,4))) ∧ a.tmps.get 1 = some (i64 a0_0) ∧ a.tmps.get 2 = some (i64 0) ∧ a.tmps.get 3 = some (i64 (-a0_1)) ∧ a.tmps.get 22 = some (i64 (a0_0+(1:Int))) ∧ a.tmps.get 23 = some (i64 x259.1)) (fun x347 T ds348 h nx s hp hF=>?_) N _ y363 _ _ _ _ hy ⟨F260,rfl,(PH.le.refl _),st,gA,gA,gA,gA,gA,gA,gA,gA,gA,gA⟩ (fun e a σ hne hq=>?_)
       ·obtain ⟨F348,rfl,le348,st,t0,t1,t2,t3,t9,t10,t22,t23,t49,t50⟩:=hp
        unfold sf153_L3 at hF;unfold L170w0;refine zg (zh ?_);refine yg ?_;refine zf (th_n ?_);refine zg ?_;refine zB (fun hb365=>?_) (fun hb365=>?_)
        ·have hF:=zw hb365 hF;refine zA (th_n ?_);refine zg ?_;refine zE ?_;refine zg (zh ?_);refine za ?_;refine za ?_;refine zf (th_n ?_);refine zg (zh ?_);refine za ?_;refine za ?_;refine za ?_;refine za ?_;refine v_nc ?_;refine v_fa ?_;obtain ⟨q366,hF⟩:=zj hF
         refine zT (j:=(Int.toNat (0:Int))) (Int.toNat_of_nonneg q366.1).symm (by omega) ?_
         obtain ⟨q367,hF⟩:=zj hF
         refine zT (j:=(Int.toNat x347.1)) (Int.toNat_of_nonneg q367.1).symm (by omega) ?_
         refine zq (o:=((5+(Int.toNat (0:Int)) * 13)+(Int.toNat x347.1) * 1)) (st.at (i:=2) rfl).2.2 (yw (p:=5) (ix:=(((Int.toNat (0:Int)) * 13)+(Int.toNat x347.1))) [(i64 a0_0),(i64 a0_1),(i64 a0_2),(i64 a0_3),(i64 (a0_0+(1:Int)))] rfl (by omega) (by omega)) ?_
         obtain ⟨q368,hF⟩:=zj hF;refine zO q368 ?_;refine za ?_;refine zf (th_n ?_);refine zg (zh ?_);refine za ?_;refine za ?_;refine za ?_;refine za ?_;refine v_nc ?_;refine v_fa ?_;obtain ⟨q369,hF⟩:=zj hF
         refine zT (j:=(Int.toNat x259.1)) (Int.toNat_of_nonneg q369.1).symm (by omega) ?_
         obtain ⟨q370,hF⟩:=zj hF
         refine zT (j:=(Int.toNat x347.1)) (Int.toNat_of_nonneg q370.1).symm (by omega) ?_
         refine zq (o:=((5+(Int.toNat x259.1) * 13)+(Int.toNat x347.1) * 1)) (st.at (i:=2) rfl).2.2 (yw (p:=5) (ix:=(((Int.toNat x259.1) * 13)+(Int.toNat x347.1))) [(i64 a0_0),(i64 a0_1),(i64 a0_2),(i64 a0_3),(i64 (a0_0+(1:Int)))] rfl (by omega) (by omega)) ?_
         refine yg ?_;refine zf (th_n ?_);refine zB (fun hb371=>?_) (fun hb371=>?_)
         ·have hF:=zw hb371 hF;refine zh ?_;refine za ?_;refine za ?_;refine za ?_;refine za ?_;refine v_nc ?_;refine v_fa ?_;obtain ⟨q372,hF⟩:=zj hF
          refine zT (j:=(Int.toNat x259.1)) (Int.toNat_of_nonneg q372.1).symm (by omega) ?_
          obtain ⟨q373,hF⟩:=zj hF
          refine zT (j:=(Int.toNat x347.1)) (Int.toNat_of_nonneg q373.1).symm (by omega) ?_
          refine v_st (o:=((5+(Int.toNat x259.1) * 13)+(Int.toNat x347.1) * 1)) (v:=(i64 (((x259.2 (((Int.toNat x259.1) * 13)+(Int.toNat a0_0)))+(-a0_1))+(x347.2 (((Int.toNat (0:Int)) * 13)+(Int.toNat x347.1)))))) (cs':=([(i64 a0_0),(i64 a0_1),(i64 a0_2),(i64 a0_3),(i64 (a0_0+(1:Int)))] ++ (eI .i64 169 (ups x347.2 (((Int.toNat x259.1) * 13)+(Int.toNat x347.1)) (((x259.2 (((Int.toNat x259.1) * 13)+(Int.toNat a0_0)))+(-a0_1))+(x347.2 (((Int.toNat (0:Int)) * 13)+(Int.toNat x347.1)))))))) st 2 rfl (uE (p:=5) (ix:=(((Int.toNat x259.1) * 13)+(Int.toNat x347.1))) [(i64 a0_0),(i64 a0_1),(i64 a0_2),(i64 a0_3),(i64 (a0_0+(1:Int)))] rfl (by omega) (by omega)) rfl rfl hfl (fun h374 st=>?_)
          refine zf ?_;refine ib_n ?_;refine th_n ?_;refine zh ?_;obtain ⟨q375,hF⟩:=zj hF;refine zO q375 ?_;refine za ?_;refine zf ?_;refine thn ⟨_,(inj hF).symm,rfl,?_⟩;dsimp only
          exact ⟨F348,rfl,le348,st,gA,gA,gA,gA,gA,gA,gA,gA,gA,gA⟩
         ·have hF:=zx hb371 hF;refine zA ?_;refine ib_n ?_;refine th_n ?_;refine zh ?_;obtain ⟨q376,hF⟩:=zj hF;refine zO q376 ?_;refine za ?_;refine zf ?_;refine thn ⟨_,(inj hF).symm,rfl,?_⟩;dsimp only
          exact ⟨F348,rfl,le348,st,gA,gA,gA,gA,gA,gA,gA,gA,gA,gA⟩
        ·have hF:=zx hb365 hF;refine ya ?_;refine th_e ?_;refine th_e ?_;refine ⟨_,(inj hF).symm,rfl,rfl,?_⟩;dsimp only
         exact ⟨F348,rfl,le348,st,gA,gA,gA,gA,gA,gA⟩
       ·obtain ⟨N9,T,ds364⟩:=a;obtain ⟨h379,n380⟩:=σ;obtain ⟨rfl,e1,F364,e2,le364,st,t0,t1,t2,t3,t22,t23⟩:=hq
        dsimp only at e1 e2
        subst e1
        subst e2
        dsimp only at st t0 t1 t2 t3 t22 t23
        have le378:=PH.le.trans le260 le364
        refine ib_e ?_;refine ib_n ?_;refine th_n ?_;refine zh ?_;obtain ⟨q381,hF⟩:=zj hF;refine zO q381 ?_;refine za ?_;refine zf ?_;refine thn ⟨_,(inj hF).symm,rfl,?_⟩;dsimp only
        exact ⟨F364,rfl,le378,st,gA,gA,gA,gA,gA,gA⟩
     ·have hF:=zx hb323 hF;refine ya ?_;refine th_e ?_;refine th_e ?_;refine ⟨_,(inj hF).symm,rfl,rfl,?_⟩;dsimp only
      exact ⟨F260,rfl,le260,st⟩
    ·obtain ⟨N9,T,ds322⟩:=a;obtain ⟨h383,n384⟩:=σ;obtain ⟨rfl,e1,F322,e2,le322,st⟩:=hq
     dsimp only at e1 e2
     subst e1
     subst e2
     dsimp only at st
     refine ib_e ?_;refine th_n ?_;refine zg (zh ?_);refine za ?_;refine zf (th_n ?_);refine zu ?_;refine y4 (v:=(.bool true)) (Res.t gA Res.nil) rfl (.inl rfl) (ik ?_);refine zf (th_n ?_);refine zg (zh ?_);refine zK (vs:=([(i64 a0_0),(i64 a0_1),(i64 a0_2),(i64 a0_3),(i64 (a0_0+(1:Int)))] ++ (eI .i64 169 y321))) (st.at (i:=2) rfl).2.2 (zS (E:=(eI .i64 169 y321)) [] [(i64 a0_0),(i64 a0_1),(i64 a0_2),(i64 a0_3),(i64 (a0_0+(1:Int)))] rfl zy rfl) ?_
     refine v_st (v:=(.agg ([(i64 a0_0),(i64 a0_1),(i64 a0_2),(i64 a0_3),(i64 (a0_0+(1:Int)))] ++ (eI .i64 169 y321)))) (cs':=([(i64 a0_0),(i64 a0_1),(i64 a0_2),(i64 a0_3),(i64 (a0_0+(1:Int)))] ++ (eI .i64 169 y321))) st 1 rfl (yc [] rfl (by simp [HV.cells,zy,yn])) (zY _ zy (by rfl)) (zX _ (by rfl) ym) hfl (fun h385 st=>?_)
     refine zf (th_n ?_);refine zu ?_;obtain rfl:=inj hF
     exact zD st (Res.c gA (st.at (i:=1) rfl).2.2 (show takeN _ _ = some ([(i64 a0_0),(i64 a0_1),(i64 a0_2),(i64 a0_3),(i64 (a0_0+(1:Int)))] ++ (eI .i64 169 y321)) from (zS (E:=(eI .i64 169 y321)) [] [(i64 a0_0),(i64 a0_1),(i64 a0_2),(i64 a0_3),(i64 (a0_0+(1:Int)))] rfl zy rfl)) Res.nil) rfl rfl
  ·have hF:=zx hb189 hF;refine zA (th_n ?_);refine zg ?_;refine zg (zh ?_);refine za ?_;refine v_nc ?_;refine v_fa ?_;refine zq (st.at (i:=2) rfl).2.2 rfl ?_;refine za ?_;refine zf (th_n ?_);refine zE ?_;obtain ⟨y510,hy,hF⟩:=zm hF;refine z5 (sf153_L6 N a0_0 a0_1) (fun x448 T ds449 h nx=>∃ (F449:PH),ds449 = [] ∧ PH.le F127 F449 ∧ St n0 h0 F0 F449 h nx [.bx b1 [(i64 a0_0),(i64 a0_1),(i64 a0_2),(i64 a0_3)],.bx b4 ([(i64 0),(i64 0),(i64 0),(i64 0),(i64 0)] ++ (eI .i64 169 (fun _=>0))),.bx b8 ([(i64 a0_0),(i64 a0_1),(i64 a0_2),(i64 a0_3),(i64 (a0_0+(1:Int)))] ++ (eI .i64 169 x448.2))] ∧ T.get 0 = some (.ptr (some (b8,4))) ∧ T.get 1 = some (i64 0) ∧ T.get 2 = some (i64 a0_0) ∧ T.get 3 = some (i64 a0_1) ∧ T.get 22 = some (i64 (a0_0+(1:Int))) ∧ T.get 23 = some (i64 x448.1)) (fun y e a σ=>e = .exit 0 ∧ a.nt = 83 ∧ ∃ (F511:PH),a.defers = [] ∧ PH.le F127 F511 ∧ St n0 h0 F0 F511 σ.h σ.nx [.bx b1 [(i64 a0_0),(i64 a0_1),(i64 a0_2),(i64 a0_3)],.bx b4 ([(i64 0),(i64 0),(i64 0),(i64 0),(i64 0)] ++ (eI .i64 169 (fun _=>0))),.bx b8 ([(i64 a0_0),(i64 a0_1),(i64 a0_2),(i64 a0_3),(i64 (a0_0+(1:Int)))] ++ (eI .i64 169 y))]) (fun x448 T ds449 h nx s hp hF=>?_) N _ y510 _ _ _ _ hy ⟨F127,rfl,(PH.le.refl _),st,gA,gA,gA,gA,gA,gA⟩ (fun e a σ hne hq=>?_)
   ·obtain ⟨F449,rfl,le449,st,t0,t1,t2,t3,t22,t23⟩:=hp
    unfold sf153_L6 at hF;unfold L170w1;refine zg (zh ?_);refine yg ?_;refine zf (th_n ?_);refine zg ?_;refine zB (fun hb512=>?_) (fun hb512=>?_)
    ·have hF:=zw hb512 hF;refine zA (th_n ?_);refine zg ?_;refine zE ?_;refine zg (zh ?_);refine za ?_;refine za ?_;refine zf (th_n ?_);refine zg (zh ?_);refine za ?_;refine za ?_;refine za ?_;refine v_nc ?_;refine v_fa ?_;obtain ⟨q513,hF⟩:=zj hF
     refine zT (j:=(Int.toNat x448.1)) (Int.toNat_of_nonneg q513.1).symm (by omega) ?_
     obtain ⟨q514,hF⟩:=zj hF
     refine zT (j:=(Int.toNat (0:Int))) (Int.toNat_of_nonneg q514.1).symm (by omega) ?_
     refine zq (o:=((5+(Int.toNat x448.1) * 13)+(Int.toNat (0:Int)) * 1)) (st.at (i:=2) rfl).2.2 (yw (p:=5) (ix:=(((Int.toNat x448.1) * 13)+(Int.toNat (0:Int)))) [(i64 a0_0),(i64 a0_1),(i64 a0_2),(i64 a0_3),(i64 (a0_0+(1:Int)))] rfl (by omega) (by omega)) ?_
     refine za ?_;obtain ⟨q515,hF⟩:=zj hF;refine zO q515 ?_;refine za ?_;refine zf (th_n ?_);refine zg ?_;refine zg (zh ?_);refine za ?_;refine za ?_;refine za ?_;refine za ?_;refine v_nc ?_;refine v_fa ?_;obtain ⟨q516,hF⟩:=zj hF
     refine zT (j:=(Int.toNat x448.1)) (Int.toNat_of_nonneg q516.1).symm (by omega) ?_
     obtain ⟨q517,hF⟩:=zj hF
     refine zT (j:=(Int.toNat a0_0)) (Int.toNat_of_nonneg q517.1).symm (by omega) ?_
     refine zq (o:=((5+(Int.toNat x448.1) * 13)+(Int.toNat a0_0) * 1)) (st.at (i:=2) rfl).2.2 (yw (p:=5) (ix:=(((Int.toNat x448.1) * 13)+(Int.toNat a0_0))) [(i64 a0_0),(i64 a0_1),(i64 a0_2),(i64 a0_3),(i64 (a0_0+(1:Int)))] rfl (by omega) (by omega)) ?_
     refine uq ?_;refine zf (th_n ?_);refine zB (fun hb518=>?_) (fun hb518=>?_)
     ·have hF:=zw hb518 hF;refine ya ?_;refine th_e ?_;refine ib_e ?_;refine th_n ?_;refine zh ?_;obtain ⟨q519,hF⟩:=zj hF;refine zO q519 ?_;refine za ?_;refine zf ?_;refine thn ⟨_,(inj hF).symm,rfl,?_⟩;dsimp only
      exact ⟨F449,rfl,le449,st,gA,gA,gA,gA,gA,gA⟩
     ·have hF:=zx hb518 hF;refine zA (th_n ?_);refine zg (zh ?_);refine za ?_;refine v_nc ?_;refine v_fa ?_;refine zq (st.at (i:=2) rfl).2.2 rfl ?_;refine za ?_;refine zf (th_n ?_);refine zE ?_;obtain ⟨y552,hy,hF⟩:=zm hF;refine z5 (sf153_L5 a0_0 a0_1 x448) (fun x536 T ds537 h nx=>∃ (F537:PH),ds537 = [] ∧ PH.le F449 F537 ∧ St n0 h0 F0 F537 h nx [.bx b1 [(i64 a0_0),(i64 a0_1),(i64 a0_2),(i64 a0_3)],.bx b4 ([(i64 0),(i64 0),(i64 0),(i64 0),(i64 0)] ++ (eI .i64 169 (fun _=>0))),.bx b8 ([(i64 a0_0),(i64 a0_1),(i64 a0_2),(i64 a0_3),(i64 (a0_0+(1:Int)))] ++ (eI .i64 169 x536.2))] ∧ T.get 0 = some (.ptr (some (b8,4))) ∧ T.get 1 = some (i64 0) ∧ T.get 2 = some (i64 a0_0) ∧ T.get 3 = some (i64 a0_1) ∧ T.get 9 = some (i64 x448.1) ∧ T.get 10 = some (i64 ((x448.2 (((Int.toNat x448.1) * 13)+(Int.toNat (0:Int))))+a0_1)) ∧ T.get 22 = some (i64 (a0_0+(1:Int))) ∧ T.get 23 = some (i64 x448.1) ∧ T.get 49 = some (i64 (a0_0+(1:Int))) ∧ T.get 50 = some (i64 x536.1)) (fun y e a σ=>e = .exit 2 ∧ a.nt = 83 ∧ ∃ (F553:PH),a.defers = [] ∧ PH.le F449 F553 ∧ St n0 h0 F0 F553 σ.h σ.nx [.bx b1 [(i64 a0_0),(i64 a0_1),(i64 a0_2),(i64 a0_3)],.bx b4 ([(i64 0),(i64 0),(i64 0),(i64 0),(i64 0)] ++ (eI .i64 169 (fun _=>0))),.bx b8 ([(i64 a0_0),(i64 a0_1),(i64 a0_2),(i64 a0_3),(i64 (a0_0+(1:Int)))] ++ (eI .i64 169 y))] ∧ a.tmps.get 0 = some (.ptr (some (b8,4))) ∧ a.tmps.get 1 = some (i64 0) ∧ a.tmps.get 2 = some (i64 a0_0) ∧ a.tmps.get 3 = some (i64 a0_1) ∧ a.tmps.get 22 = some (i64 (a0_0+(1:Int))) ∧ a.tmps.get 23 = some (i64 x448.1)) (fun x536 T ds537 h nx s hp hF=>?_) N _ y552 _ _ _ _ hy ⟨F449,rfl,(PH.le.refl _),st,gA,gA,gA,gA,gA,gA,gA,gA,gA,gA⟩ (fun e a σ hne hq=>?_)
      ·obtain ⟨F537,rfl,le537,st,t0,t1,t2,t3,t9,t10,t22,t23,t49,t50⟩:=hp
       unfold sf153_L5 at hF;unfold L170w0;refine zg (zh ?_);refine yg ?_;refine zf (th_n ?_);refine zg ?_;refine zB (fun hb554=>?_) (fun hb554=>?_)
       ·have hF:=zw hb554 hF;refine zA (th_n ?_);refine zg ?_;refine zE ?_;refine zg (zh ?_);refine za ?_;refine za ?_;refine zf (th_n ?_);refine zg (zh ?_);refine za ?_;refine za ?_;refine za ?_;refine za ?_;refine v_nc ?_;refine v_fa ?_;obtain ⟨q555,hF⟩:=zj hF
        refine zT (j:=(Int.toNat a0_0)) (Int.toNat_of_nonneg q555.1).symm (by omega) ?_
        obtain ⟨q556,hF⟩:=zj hF
        refine zT (j:=(Int.toNat x536.1)) (Int.toNat_of_nonneg q556.1).symm (by omega) ?_
        refine zq (o:=((5+(Int.toNat a0_0) * 13)+(Int.toNat x536.1) * 1)) (st.at (i:=2) rfl).2.2 (yw (p:=5) (ix:=(((Int.toNat a0_0) * 13)+(Int.toNat x536.1))) [(i64 a0_0),(i64 a0_1),(i64 a0_2),(i64 a0_3),(i64 (a0_0+(1:Int)))] rfl (by omega) (by omega)) ?_
        obtain ⟨q557,hF⟩:=zj hF;refine zO q557 ?_;refine za ?_;refine zf (th_n ?_);refine zg (zh ?_);refine za ?_;refine za ?_;refine za ?_;refine za ?_;refine v_nc ?_;refine v_fa ?_;obtain ⟨q558,hF⟩:=zj hF
        refine zT (j:=(Int.toNat x448.1)) (Int.toNat_of_nonneg q558.1).symm (by omega) ?_
        obtain ⟨q559,hF⟩:=zj hF
        refine zT (j:=(Int.toNat x536.1)) (Int.toNat_of_nonneg q559.1).symm (by omega) ?_
        refine zq (o:=((5+(Int.toNat x448.1) * 13)+(Int.toNat x536.1) * 1)) (st.at (i:=2) rfl).2.2 (yw (p:=5) (ix:=(((Int.toNat x448.1) * 13)+(Int.toNat x536.1))) [(i64 a0_0),(i64 a0_1),(i64 a0_2),(i64 a0_3),(i64 (a0_0+(1:Int)))] rfl (by omega) (by omega)) ?_
        refine yg ?_;refine zf (th_n ?_);refine zB (fun hb560=>?_) (fun hb560=>?_)
        ·have hF:=zw hb560 hF;refine zh ?_;refine za ?_;refine za ?_;refine za ?_;refine za ?_;refine v_nc ?_;refine v_fa ?_;obtain ⟨q561,hF⟩:=zj hF
         refine zT (j:=(Int.toNat x448.1)) (Int.toNat_of_nonneg q561.1).symm (by omega) ?_
         obtain ⟨q562,hF⟩:=zj hF
         refine zT (j:=(Int.toNat x536.1)) (Int.toNat_of_nonneg q562.1).symm (by omega) ?_
         refine v_st (o:=((5+(Int.toNat x448.1) * 13)+(Int.toNat x536.1) * 1)) (v:=(i64 (((x448.2 (((Int.toNat x448.1) * 13)+(Int.toNat (0:Int))))+a0_1)+(x536.2 (((Int.toNat a0_0) * 13)+(Int.toNat x536.1)))))) (cs':=([(i64 a0_0),(i64 a0_1),(i64 a0_2),(i64 a0_3),(i64 (a0_0+(1:Int)))] ++ (eI .i64 169 (ups x536.2 (((Int.toNat x448.1) * 13)+(Int.toNat x536.1)) (((x448.2 (((Int.toNat x448.1) * 13)+(Int.toNat (0:Int))))+a0_1)+(x536.2 (((Int.toNat a0_0) * 13)+(Int.toNat x536.1)))))))) st 2 rfl (uE (p:=5) (ix:=(((Int.toNat x448.1) * 13)+(Int.toNat x536.1))) [(i64 a0_0),(i64 a0_1),(i64 a0_2),(i64 a0_3),(i64 (a0_0+(1:Int)))] rfl (by omega) (by omega)) rfl rfl hfl (fun h563 st=>?_)
         refine zf ?_;refine ib_n ?_;refine th_n ?_;refine zh ?_;obtain ⟨q564,hF⟩:=zj hF;refine zO q564 ?_;refine za ?_;refine zf ?_;refine thn ⟨_,(inj hF).symm,rfl,?_⟩;dsimp only
         exact ⟨F537,rfl,le537,st,gA,gA,gA,gA,gA,gA,gA,gA,gA,gA⟩
        ·have hF:=zx hb560 hF;refine zA ?_;refine ib_n ?_;refine th_n ?_;refine zh ?_;obtain ⟨q565,hF⟩:=zj hF;refine zO q565 ?_;refine za ?_;refine zf ?_;refine thn ⟨_,(inj hF).symm,rfl,?_⟩;dsimp only
         exact ⟨F537,rfl,le537,st,gA,gA,gA,gA,gA,gA,gA,gA,gA,gA⟩
       ·have hF:=zx hb554 hF;refine ya ?_;refine th_e ?_;refine th_e ?_;refine ⟨_,(inj hF).symm,rfl,rfl,?_⟩;dsimp only
        exact ⟨F537,rfl,le537,st,gA,gA,gA,gA,gA,gA⟩
      ·obtain ⟨N9,T,ds553⟩:=a;obtain ⟨h568,n569⟩:=σ;obtain ⟨rfl,e1,F553,e2,le553,st,t0,t1,t2,t3,t22,t23⟩:=hq
       dsimp only at e1 e2
       subst e1
       subst e2
       dsimp only at st t0 t1 t2 t3 t22 t23
       have le567:=PH.le.trans le449 le553
       refine ib_e ?_;refine ib_n ?_;refine th_n ?_;refine zh ?_;obtain ⟨q570,hF⟩:=zj hF;refine zO q570 ?_;refine za ?_;refine zf ?_;refine thn ⟨_,(inj hF).symm,rfl,?_⟩;dsimp only
       exact ⟨F553,rfl,le567,st,gA,gA,gA,gA,gA,gA⟩
    ·have hF:=zx hb512 hF;refine ya ?_;refine th_e ?_;refine th_e ?_;refine ⟨_,(inj hF).symm,rfl,rfl,?_⟩;dsimp only
     exact ⟨F449,rfl,le449,st⟩
   ·obtain ⟨N9,T,ds511⟩:=a;obtain ⟨h572,n573⟩:=σ;obtain ⟨rfl,e1,F511,e2,le511,st⟩:=hq
    dsimp only at e1 e2
    subst e1
    subst e2
    dsimp only at st
    refine ib_e ?_;refine th_n ?_;refine zg (zh ?_);refine za ?_;refine zf (th_n ?_);refine zu ?_;refine y4 (v:=(.bool true)) (Res.t gA Res.nil) rfl (.inl rfl) (ik ?_);refine zf (th_n ?_);refine zg (zh ?_);refine v_fa ?_;refine v_fa ?_;refine zq (st.at (i:=0) rfl).2.2 rfl ?_;refine v_fa ?_;refine zq (st.at (i:=0) rfl).2.2 rfl ?_;obtain ⟨q574,hF⟩:=zj hF;refine Yy q574 ?_;refine kq lw170 rfl rfl (fun T hT=>?_)
    have t0:=hT 0 _ rfl
    have t1:=hT 1 _ rfl
    have t2:=hT 2 _ rfl
    have t3:=hT 3 _ rfl
    dsimp only [L170]
    refine zg (zh ?_);refine za ?_;refine zf (th_n ?_);refine zg ?_;refine zg (zh ?_);refine za ?_;refine za ?_;refine za ?_;refine za ?_;obtain ⟨v576,e577,hF⟩:=zm hF;refine zI st (ct181 N e577 st.d (all_sub _)  (st.at (i:=2) rfl).2.2) (fun n578 st=>?_);refine yo ?_;refine zf (th_n ?_);refine zB (fun hb579=>?_) (fun hb579=>?_)
    ·have hF:=zw hb579 hF;refine zg (zh ?_);refine za ?_;refine zf (th_n ?_);refine zu ?_;refine th_r ?_;refine y4 (v:=(.bool false)) (Res.t gA Res.nil) rfl (.inl rfl) (ik ?_);refine zf (th_n ?_);refine zg (zh ?_);refine zK (vs:=([(i64 a0_0),(i64 a0_1),(i64 a0_2),(i64 a0_3),(i64 (a0_0+(1:Int)))] ++ (eI .i64 169 y510))) (st.at (i:=2) rfl).2.2 (zS (E:=(eI .i64 169 y510)) [] [(i64 a0_0),(i64 a0_1),(i64 a0_2),(i64 a0_3),(i64 (a0_0+(1:Int)))] rfl zy rfl) ?_
     refine v_st (v:=(.agg ([(i64 a0_0),(i64 a0_1),(i64 a0_2),(i64 a0_3),(i64 (a0_0+(1:Int)))] ++ (eI .i64 169 y510)))) (cs':=([(i64 a0_0),(i64 a0_1),(i64 a0_2),(i64 a0_3),(i64 (a0_0+(1:Int)))] ++ (eI .i64 169 y510))) st 1 rfl (yc [] rfl (by simp [HV.cells,zy,yn])) (zY _ zy (by rfl)) (zX _ (by rfl) ym) hfl (fun h580 st=>?_)
     refine zf (th_n ?_);refine zu ?_;obtain rfl:=inj hF
     exact zD st (Res.c gA (st.at (i:=1) rfl).2.2 (show takeN _ _ = some ([(i64 a0_0),(i64 a0_1),(i64 a0_2),(i64 a0_3),(i64 (a0_0+(1:Int)))] ++ (eI .i64 169 y510)) from (zS (E:=(eI .i64 169 y510)) [] [(i64 a0_0),(i64 a0_1),(i64 a0_2),(i64 a0_3),(i64 (a0_0+(1:Int)))] rfl zy rfl)) Res.nil) rfl rfl
    ·have hF:=zx hb579 hF;refine zA (th_n ?_);refine zg ?_;refine zg (zh ?_);refine za ?_;refine v_nc ?_;refine v_fa ?_;refine zq (st.at (i:=2) rfl).2.2 rfl ?_;refine za ?_;refine zf (th_n ?_);refine zE ?_;obtain ⟨y713,hy,hF⟩:=zm hF;refine z5 (sf153_L8 N a0_0 a0_1) (fun x647 T ds648 h nx=>∃ (F648:PH),ds648 = [] ∧ PH.le F511 F648 ∧ St n0 h0 F0 F648 h nx [.bx b1 [(i64 a0_0),(i64 a0_1),(i64 a0_2),(i64 a0_3)],.bx b4 ([(i64 0),(i64 0),(i64 0),(i64 0),(i64 0)] ++ (eI .i64 169 (fun _=>0))),.bx b8 ([(i64 a0_0),(i64 a0_1),(i64 a0_2),(i64 a0_3),(i64 (a0_0+(1:Int)))] ++ (eI .i64 169 x647.2))] ∧ T.get 0 = some (.ptr (some (b8,4))) ∧ T.get 1 = some (i64 a0_0) ∧ T.get 2 = some (i64 0) ∧ T.get 3 = some (i64 (-a0_1)) ∧ T.get 22 = some (i64 (a0_0+(1:Int))) ∧ T.get 23 = some (i64 x647.1)) (fun y e a σ=>e = .exit 0 ∧ a.nt = 83 ∧ ∃ (F714:PH),a.defers = [] ∧ PH.le F511 F714 ∧ St n0 h0 F0 F714 σ.h σ.nx [.bx b1 [(i64 a0_0),(i64 a0_1),(i64 a0_2),(i64 a0_3)],.bx b4 ([(i64 0),(i64 0),(i64 0),(i64 0),(i64 0)] ++ (eI .i64 169 (fun _=>0))),.bx b8 ([(i64 a0_0),(i64 a0_1),(i64 a0_2),(i64 a0_3),(i64 (a0_0+(1:Int)))] ++ (eI .i64 169 y))]) (fun x647 T ds648 h nx s hp hF=>?_) N _ y713 _ _ _ _ hy ⟨F511,rfl,(PH.le.refl _),st,gA,gA,gA,gA,gA,gA⟩ (fun e a σ hne hq=>?_)
     ·obtain ⟨F648,rfl,le648,st,t0,t1,t2,t3,t22,t23⟩:=hp
      unfold sf153_L8 at hF;unfold L170w1;refine zg (zh ?_);refine yg ?_;refine zf (th_n ?_);refine zg ?_;refine zB (fun hb715=>?_) (fun hb715=>?_)
      ·have hF:=zw hb715 hF;refine zA (th_n ?_);refine zg ?_;refine zE ?_;refine zg (zh ?_);refine za ?_;refine za ?_;refine zf (th_n ?_);refine zg (zh ?_);refine za ?_;refine za ?_;refine za ?_;refine v_nc ?_;refine v_fa ?_;obtain ⟨q716,hF⟩:=zj hF
       refine zT (j:=(Int.toNat x647.1)) (Int.toNat_of_nonneg q716.1).symm (by omega) ?_
       obtain ⟨q717,hF⟩:=zj hF
       refine zT (j:=(Int.toNat a0_0)) (Int.toNat_of_nonneg q717.1).symm (by omega) ?_
       refine zq (o:=((5+(Int.toNat x647.1) * 13)+(Int.toNat a0_0) * 1)) (st.at (i:=2) rfl).2.2 (yw (p:=5) (ix:=(((Int.toNat x647.1) * 13)+(Int.toNat a0_0))) [(i64 a0_0),(i64 a0_1),(i64 a0_2),(i64 a0_3),(i64 (a0_0+(1:Int)))] rfl (by omega) (by omega)) ?_
       refine za ?_;obtain ⟨q718,hF⟩:=zj hF;refine zO q718 ?_;refine za ?_;refine zf (th_n ?_);refine zg ?_;refine zg (zh ?_);refine za ?_;refine za ?_;refine za ?_;refine za ?_;refine v_nc ?_;refine v_fa ?_;obtain ⟨q719,hF⟩:=zj hF
       refine zT (j:=(Int.toNat x647.1)) (Int.toNat_of_nonneg q719.1).symm (by omega) ?_
       obtain ⟨q720,hF⟩:=zj hF
       refine zT (j:=(Int.toNat (0:Int))) (Int.toNat_of_nonneg q720.1).symm (by omega) ?_
       refine zq (o:=((5+(Int.toNat x647.1) * 13)+(Int.toNat (0:Int)) * 1)) (st.at (i:=2) rfl).2.2 (yw (p:=5) (ix:=(((Int.toNat x647.1) * 13)+(Int.toNat (0:Int)))) [(i64 a0_0),(i64 a0_1),(i64 a0_2),(i64 a0_3),(i64 (a0_0+(1:Int)))] rfl (by omega) (by omega)) ?_
       refine uq ?_;refine zf (th_n ?_);refine zB (fun hb721=>?_) (fun hb721=>?_)
       ·have hF:=zw hb721 hF;refine ya ?_;refine th_e ?_;refine ib_e ?_;refine th_n ?_;refine zh ?_;obtain ⟨q722,hF⟩:=zj hF;refine zO q722 ?_;refine za ?_;refine zf ?_;refine thn ⟨_,(inj hF).symm,rfl,?_⟩;dsimp only
        exact ⟨F648,rfl,le648,st,gA,gA,gA,gA,gA,gA⟩
       ·have hF:=zx hb721 hF;refine zA (th_n ?_);refine zg (zh ?_);refine za ?_;refine v_nc ?_;refine v_fa ?_;refine zq (st.at (i:=2) rfl).2.2 rfl ?_;refine za ?_;refine zf (th_n ?_);refine zE ?_;obtain ⟨y757,hy,hF⟩:=zm hF;refine z5 (sf153_L7 a0_0 a0_1 x647) (fun x740 T ds741 h nx=>∃ (F741:PH),ds741 = [] ∧ PH.le F648 F741 ∧ St n0 h0 F0 F741 h nx [.bx b1 [(i64 a0_0),(i64 a0_1),(i64 a0_2),(i64 a0_3)],.bx b4 ([(i64 0),(i64 0),(i64 0),(i64 0),(i64 0)] ++ (eI .i64 169 (fun _=>0))),.bx b8 ([(i64 a0_0),(i64 a0_1),(i64 a0_2),(i64 a0_3),(i64 (a0_0+(1:Int)))] ++ (eI .i64 169 x740.2))] ∧ T.get 0 = some (.ptr (some (b8,4))) ∧ T.get 1 = some (i64 a0_0) ∧ T.get 2 = some (i64 0) ∧ T.get 3 = some (i64 (-a0_1)) ∧ T.get 9 = some (i64 x647.1) ∧ T.get 10 = some (i64 ((x647.2 (((Int.toNat x647.1) * 13)+(Int.toNat a0_0)))+(-a0_1))) ∧ T.get 22 = some (i64 (a0_0+(1:Int))) ∧ T.get 23 = some (i64 x647.1) ∧ T.get 49 = some (i64 (a0_0+(1:Int))) ∧ T.get 50 = some (i64 x740.1)) (fun y e a σ=>e = .exit 2 ∧ a.nt = 83 ∧ ∃ (F758:PH),a.defers = [] ∧ PH.le F648 F758 ∧ St n0 h0 F0 F758 σ.h σ.nx [.bx b1 [(i64 a0_0),(i64 a0_1),(i64 a0_2),(i64 a0_3)],.bx b4 ([(i64 0),(i64 0),(i64 0),(i64 0),(i64 0)] ++ (eI .i64 169 (fun _=>0))),.bx b8 ([(i64 a0_0),(i64 a0_1),(i64 a0_2),(i64 a0_3),(i64 (a0_0+(1:Int)))] ++ (eI .i64 169 y))] ∧ a.tmps.get 0 = some (.ptr (some (b8,4))) ∧ a.tmps.get 1 = some (i64 a0_0) ∧ a.tmps.get 2 = some (i64 0) ∧ a.tmps.get 3 = some (i64 (-a0_1)) ∧ a.tmps.get 22 = some (i64 (a0_0+(1:Int))) ∧ a.tmps.get 23 = some (i64 x647.1)) (fun x740 T ds741 h nx s hp hF=>?_) N _ y757 _ _ _ _ hy ⟨F648,rfl,(PH.le.refl _),st,gA,gA,gA,gA,gA,gA,gA,gA,gA,gA⟩ (fun e a σ hne hq=>?_)
        ·obtain ⟨F741,rfl,le741,st,t0,t1,t2,t3,t9,t10,t22,t23,t49,t50⟩:=hp
         unfold sf153_L7 at hF;unfold L170w0;refine zg (zh ?_);refine yg ?_;refine zf (th_n ?_);refine zg ?_;refine zB (fun hb759=>?_) (fun hb759=>?_)
         ·have hF:=zw hb759 hF;refine zA (th_n ?_);refine zg ?_;refine zE ?_;refine zg (zh ?_);refine za ?_;refine za ?_;refine zf (th_n ?_);refine zg (zh ?_);refine za ?_;refine za ?_;refine za ?_;refine za ?_;refine v_nc ?_;refine v_fa ?_;obtain ⟨q760,hF⟩:=zj hF
          refine zT (j:=(Int.toNat (0:Int))) (Int.toNat_of_nonneg q760.1).symm (by omega) ?_
          obtain ⟨q761,hF⟩:=zj hF
          refine zT (j:=(Int.toNat x740.1)) (Int.toNat_of_nonneg q761.1).symm (by omega) ?_
          refine zq (o:=((5+(Int.toNat (0:Int)) * 13)+(Int.toNat x740.1) * 1)) (st.at (i:=2) rfl).2.2 (yw (p:=5) (ix:=(((Int.toNat (0:Int)) * 13)+(Int.toNat x740.1))) [(i64 a0_0),(i64 a0_1),(i64 a0_2),(i64 a0_3),(i64 (a0_0+(1:Int)))] rfl (by omega) (by omega)) ?_
          obtain ⟨q762,hF⟩:=zj hF;refine zO q762 ?_;refine za ?_;refine zf (th_n ?_);refine zg (zh ?_);refine za ?_;refine za ?_;refine za ?_;refine za ?_;refine v_nc ?_;refine v_fa ?_;obtain ⟨q763,hF⟩:=zj hF
          refine zT (j:=(Int.toNat x647.1)) (Int.toNat_of_nonneg q763.1).symm (by omega) ?_
          obtain ⟨q764,hF⟩:=zj hF
          refine zT (j:=(Int.toNat x740.1)) (Int.toNat_of_nonneg q764.1).symm (by omega) ?_
          refine zq (o:=((5+(Int.toNat x647.1) * 13)+(Int.toNat x740.1) * 1)) (st.at (i:=2) rfl).2.2 (yw (p:=5) (ix:=(((Int.toNat x647.1) * 13)+(Int.toNat x740.1))) [(i64 a0_0),(i64 a0_1),(i64 a0_2),(i64 a0_3),(i64 (a0_0+(1:Int)))] rfl (by omega) (by omega)) ?_
          refine yg ?_;refine zf (th_n ?_);refine zB (fun hb765=>?_) (fun hb765=>?_)
          ·have hF:=zw hb765 hF;refine zh ?_;refine za ?_;refine za ?_;refine za ?_;refine za ?_;refine v_nc ?_;refine v_fa ?_;obtain ⟨q766,hF⟩:=zj hF
           refine zT (j:=(Int.toNat x647.1)) (Int.toNat_of_nonneg q766.1).symm (by omega) ?_
           obtain ⟨q767,hF⟩:=zj hF
           refine zT (j:=(Int.toNat x740.1)) (Int.toNat_of_nonneg q767.1).symm (by omega) ?_
           refine v_st (o:=((5+(Int.toNat x647.1) * 13)+(Int.toNat x740.1) * 1)) (v:=(i64 (((x647.2 (((Int.toNat x647.1) * 13)+(Int.toNat a0_0)))+(-a0_1))+(x740.2 (((Int.toNat (0:Int)) * 13)+(Int.toNat x740.1)))))) (cs':=([(i64 a0_0),(i64 a0_1),(i64 a0_2),(i64 a0_3),(i64 (a0_0+(1:Int)))] ++ (eI .i64 169 (ups x740.2 (((Int.toNat x647.1) * 13)+(Int.toNat x740.1)) (((x647.2 (((Int.toNat x647.1) * 13)+(Int.toNat a0_0)))+(-a0_1))+(x740.2 (((Int.toNat (0:Int)) * 13)+(Int.toNat x740.1)))))))) st 2 rfl (uE (p:=5) (ix:=(((Int.toNat x647.1) * 13)+(Int.toNat x740.1))) [(i64 a0_0),(i64 a0_1),(i64 a0_2),(i64 a0_3),(i64 (a0_0+(1:Int)))] rfl (by omega) (by omega)) rfl rfl hfl (fun h768 st=>?_)
           refine zf ?_;refine ib_n ?_;refine th_n ?_;refine zh ?_;obtain ⟨q769,hF⟩:=zj hF;refine zO q769 ?_;refine za ?_;refine zf ?_;refine thn ⟨_,(inj hF).symm,rfl,?_⟩;dsimp only
           exact ⟨F741,rfl,le741,st,gA,gA,gA,gA,gA,gA,gA,gA,gA,gA⟩
          ·have hF:=zx hb765 hF;refine zA ?_;refine ib_n ?_;refine th_n ?_;refine zh ?_;obtain ⟨q770,hF⟩:=zj hF;refine zO q770 ?_;refine za ?_;refine zf ?_;refine thn ⟨_,(inj hF).symm,rfl,?_⟩;dsimp only
           exact ⟨F741,rfl,le741,st,gA,gA,gA,gA,gA,gA,gA,gA,gA,gA⟩
         ·have hF:=zx hb759 hF;refine ya ?_;refine th_e ?_;refine th_e ?_;refine ⟨_,(inj hF).symm,rfl,rfl,?_⟩;dsimp only
          exact ⟨F741,rfl,le741,st,gA,gA,gA,gA,gA,gA⟩
        ·obtain ⟨N9,T,ds758⟩:=a;obtain ⟨h774,n775⟩:=σ;obtain ⟨rfl,e1,F758,e2,le758,st,t0,t1,t2,t3,t22,t23⟩:=hq
         dsimp only at e1 e2
         subst e1
         subst e2
         dsimp only at st t0 t1 t2 t3 t22 t23
         have le773:=PH.le.trans le648 le758
         refine ib_e ?_;refine ib_n ?_;refine th_n ?_;refine zh ?_;obtain ⟨q776,hF⟩:=zj hF;refine zO q776 ?_;refine za ?_;refine zf ?_;refine thn ⟨_,(inj hF).symm,rfl,?_⟩;dsimp only
         exact ⟨F758,rfl,le773,st,gA,gA,gA,gA,gA,gA⟩
      ·have hF:=zx hb715 hF;refine ya ?_;refine th_e ?_;refine th_e ?_;refine ⟨_,(inj hF).symm,rfl,rfl,?_⟩;dsimp only
       exact ⟨F648,rfl,le648,st⟩
     ·obtain ⟨N9,T,ds714⟩:=a;obtain ⟨h779,n780⟩:=σ;obtain ⟨rfl,e1,F714,e2,le714,st⟩:=hq
      dsimp only at e1 e2
      subst e1
      subst e2
      dsimp only at st
      refine ib_e ?_;refine th_n ?_;refine zg (zh ?_);refine za ?_;refine zf (th_n ?_);refine zu ?_;refine y4 (v:=(.bool true)) (Res.t gA Res.nil) rfl (.inl rfl) (ik ?_);refine zf (th_n ?_);refine zg (zh ?_);refine zK (vs:=([(i64 a0_0),(i64 a0_1),(i64 a0_2),(i64 a0_3),(i64 (a0_0+(1:Int)))] ++ (eI .i64 169 y713))) (st.at (i:=2) rfl).2.2 (zS (E:=(eI .i64 169 y713)) [] [(i64 a0_0),(i64 a0_1),(i64 a0_2),(i64 a0_3),(i64 (a0_0+(1:Int)))] rfl zy rfl) ?_
      refine v_st (v:=(.agg ([(i64 a0_0),(i64 a0_1),(i64 a0_2),(i64 a0_3),(i64 (a0_0+(1:Int)))] ++ (eI .i64 169 y713)))) (cs':=([(i64 a0_0),(i64 a0_1),(i64 a0_2),(i64 a0_3),(i64 (a0_0+(1:Int)))] ++ (eI .i64 169 y713))) st 1 rfl (yc [] rfl (by simp [HV.cells,zy,yn])) (zY _ zy (by rfl)) (zX _ (by rfl) ym) hfl (fun h781 st=>?_)
      refine zf (th_n ?_);refine zu ?_;obtain rfl:=inj hF
      exact zD st (Res.c gA (st.at (i:=1) rfl).2.2 (show takeN _ _ = some ([(i64 a0_0),(i64 a0_1),(i64 a0_2),(i64 a0_3),(i64 (a0_0+(1:Int)))] ++ (eI .i64 169 y713)) from (zS (E:=(eI .i64 169 y713)) [] [(i64 a0_0),(i64 a0_1),(i64 a0_2),(i64 a0_3),(i64 (a0_0+(1:Int)))] rfl zy rfl)) Res.nil) rfl rfl
end Go.Hx.V

namespace Go.Hx.V
open Go.Hx
set_option maxRecDepth 20000
set_option maxHeartbeats 4000000
variable {fl : Nat} {h0 : Tr HBlk} {n0 : Nat} {F0 : PH}
attribute [local irreducible] W R C thenH inBlockH Tr.get Tr.set lo ck bnd ix iter
theorem ct154 (N:Nat) {a0_0 a0_1 a0_2 a0_3 a0_4:Int} {a0_5:(Nat → Int)} {a1_0 a1_1 a1_2 a1_3:Int} {r:(Int × Int × Int × Int × Int × (Nat → Int) × Bool)} (hF:sf154 N a0_0 a0_1 a0_2 a0_3 a0_4 a0_5 a1_0 a1_1 a1_2 a1_3 = some r) (hd:D h0 n0) (hs:F0.sub h0):C LW fl 154 [(.agg ([(i64 a0_0),(i64 a0_1),(i64 a0_2),(i64 a0_3),(i64 a0_4)] ++ (eI .i64 169 a0_5))),(.agg [(i64 a1_0),(i64 a1_1),(i64 a1_2),(i64 a1_3)])] ⟨h0,n0⟩ (KS (.tuple [(.agg ([(i64 r.1),(i64 r.2.1),(i64 r.2.2.1),(i64 r.2.2.2.1),(i64 r.2.2.2.2.1)] ++ (eI .i64 169 r.2.2.2.2.2.1))),(.bool r.2.2.2.2.2.2)]) n0 h0):=by
 unfold sf154 at hF
 refine z8 hd hs lw154 rfl rfl (by rfl) (fun st T hT=>?_)
 have hfl:n0 ≤ n0:=Nat.le_refl n0
 have t0:=hT 0 _ rfl
 have t1:=hT 1 _ rfl
 dsimp only [L154]
 refine zg (zh ?_);refine zW st (fun b1 h2 n3 st=>?_);refine zW st (fun b4 h5 n6 st=>?_);refine zM st (fun b7 h8 n9 st=>?_)
 have st:=st.cells 2 rfl ([(i64 0),(i64 0),(i64 0),(i64 0),(i64 0)] ++ (eI .i64 169 (fun _=>0))) rfl
 refine za ?_;refine zf (th_n ?_);refine zg ?_;refine zg (zh ?_);refine v_fa ?_;refine v_fa ?_;refine zq (st.at (i:=1) rfl).2.2 rfl ?_;refine v_fa ?_;refine zq (st.at (i:=1) rfl).2.2 rfl ?_;refine v_fa ?_;refine v_fa ?_;refine zq (st.at (i:=1) rfl).2.2 rfl ?_;refine kq lw170 rfl rfl (fun T hT=>?_)
 have t0:=hT 0 _ rfl
 have t1:=hT 1 _ rfl
 have t2:=hT 2 _ rfl
 have t3:=hT 3 _ rfl
 dsimp only [L170]
 refine zg (zh ?_);refine za ?_;refine zf (th_n ?_);refine zg ?_;refine zg (zh ?_);refine za ?_;refine za ?_;refine za ?_;refine za ?_;obtain ⟨v11,e12,hF⟩:=zm hF;refine zI st (ct181 N e12 st.d (all_sub _)  (st.at (i:=0) rfl).2.2) (fun n13 st=>?_);refine yo ?_;refine zf (th_n ?_);refine zB (fun hb14=>?_) (fun hb14=>?_)
 ·have hF:=zw hb14 hF;refine zg (zh ?_);refine za ?_;refine zf (th_n ?_);refine zu ?_;refine th_r ?_;refine y4 (v:=(.bool false)) (Res.t gA Res.nil) rfl (.inl rfl) (ik ?_);refine yo ?_;refine zf (th_n ?_);refine zB (fun hq15=>?_) (fun hq15=>?_)
  ·refine zg (zh ?_);refine zR (cs:=([(i64 0),(i64 0),(i64 0),(i64 0),(i64 0)] ++ (eI .i64 169 (fun _=>0)))) rfl ?_
   refine v_st (v:=(.agg ([(i64 0),(i64 0),(i64 0),(i64 0),(i64 0)] ++ (eI .i64 169 (fun _=>0))))) (cs':=([(i64 0),(i64 0),(i64 0),(i64 0),(i64 0)] ++ (eI .i64 169 (fun _=>0)))) st 2 rfl (yc [] rfl (by simp [HV.cells,zy,yn])) (zY _ zy (by rfl)) (zX _ (by rfl) ym) hfl (fun h16 st=>?_)
   refine za ?_;refine zf (th_n ?_);refine zu ?_;refine th_r ?_;obtain rfl:=inj hF
   exact zD st (Res.c gA (st.at (i:=2) rfl).2.2 (show takeN _ _ = some ([(i64 0),(i64 0),(i64 0),(i64 0),(i64 0)] ++ (eI .i64 169 (fun _=>0))) from (zS (E:=(eI .i64 169 (fun _=>0))) [] [(i64 0),(i64 0),(i64 0),(i64 0),(i64 0)] rfl zy rfl)) (Res.t gA Res.nil)) rfl rfl
  ·exact absurd hq15 (by rw [(congrArg (!·) rfl)];decide)
 ·have hF:=zx hb14 hF;refine zA (th_n ?_);refine zg ?_;refine zg (zh ?_);refine za ?_;refine v_nc ?_;refine v_fa ?_;refine zq (st.at (i:=0) rfl).2.2 rfl ?_;refine za ?_;refine zf (th_n ?_);refine zE ?_;obtain ⟨y133,hy,hF⟩:=zm hF;refine z5 (sf154_L2 N a0_4 a1_0 a1_1 a1_3) (fun x75 T ds76 h nx=>∃ (F76:PH),ds76 = [] ∧ PH.le F0 F76 ∧ St n0 h0 F0 F76 h nx [.bx b1 ([(i64 a0_0),(i64 a0_1),(i64 a0_2),(i64 a0_3),(i64 a0_4)] ++ (eI .i64 169 x75.2)),.bx b4 [(i64 a1_0),(i64 a1_1),(i64 a1_2),(i64 a1_3)],.bx b7 ([(i64 0),(i64 0),(i64 0),(i64 0),(i64 0)] ++ (eI .i64 169 (fun _=>0)))] ∧ T.get 0 = some (.ptr (some (b1,4))) ∧ T.get 1 = some (i64 a1_0) ∧ T.get 2 = some (i64 a1_1) ∧ T.get 3 = some (i64 a1_3) ∧ T.get 22 = some (i64 a0_4) ∧ T.get 23 = some (i64 x75.1)) (fun y e a σ=>e = .exit 0 ∧ a.nt = 83 ∧ ∃ (F134:PH),a.defers = [] ∧ PH.le F0 F134 ∧ St n0 h0 F0 F134 σ.h σ.nx [.bx b1 ([(i64 a0_0),(i64 a0_1),(i64 a0_2),(i64 a0_3),(i64 a0_4)] ++ (eI .i64 169 y)),.bx b4 [(i64 a1_0),(i64 a1_1),(i64 a1_2),(i64 a1_3)],.bx b7 ([(i64 0),(i64 0),(i64 0),(i64 0),(i64 0)] ++ (eI .i64 169 (fun _=>0)))]) (fun x75 T ds76 h nx s hp hF=>?_) N _ y133 _ _ _ _ hy ⟨F0,rfl,(PH.le.refl _),st,gA,gA,gA,gA,gA,gA⟩ (fun e a σ hne hq=>?_)
  ·obtain ⟨F76,rfl,le76,st,t0,t1,t2,t3,t22,t23⟩:=hp;unfold sf154_L2 at hF;unfold L170w1;refine zg (zh ?_);refine yg ?_;refine zf (th_n ?_);refine zg ?_;refine zB (fun hb135=>?_) (fun hb135=>?_)
   ·have hF:=zw hb135 hF;refine zA (th_n ?_);refine zg ?_;refine zE ?_;refine zg (zh ?_);refine za ?_;refine za ?_;refine zf (th_n ?_);refine zg (zh ?_);refine za ?_;refine za ?_;refine za ?_;refine v_nc ?_;refine v_fa ?_;obtain ⟨q136,hF⟩:=zj hF
    refine zT (j:=(Int.toNat x75.1)) (Int.toNat_of_nonneg q136.1).symm (by omega) ?_
    obtain ⟨q137,hF⟩:=zj hF
    refine zT (j:=(Int.toNat a1_0)) (Int.toNat_of_nonneg q137.1).symm (by omega) ?_
    refine zq (o:=((5+(Int.toNat x75.1) * 13)+(Int.toNat a1_0) * 1)) (st.at (i:=0) rfl).2.2 (yw (p:=5) (ix:=(((Int.toNat x75.1) * 13)+(Int.toNat a1_0))) [(i64 a0_0),(i64 a0_1),(i64 a0_2),(i64 a0_3),(i64 a0_4)] rfl (by omega) (by omega)) ?_
    refine za ?_;obtain ⟨q138,hF⟩:=zj hF;refine zO q138 ?_;refine za ?_;refine zf (th_n ?_);refine zg ?_;refine zg (zh ?_);refine za ?_;refine za ?_;refine za ?_;refine za ?_;refine v_nc ?_;refine v_fa ?_;obtain ⟨q139,hF⟩:=zj hF
    refine zT (j:=(Int.toNat x75.1)) (Int.toNat_of_nonneg q139.1).symm (by omega) ?_
    obtain ⟨q140,hF⟩:=zj hF
    refine zT (j:=(Int.toNat a1_1)) (Int.toNat_of_nonneg q140.1).symm (by omega) ?_
    refine zq (o:=((5+(Int.toNat x75.1) * 13)+(Int.toNat a1_1) * 1)) (st.at (i:=0) rfl).2.2 (yw (p:=5) (ix:=(((Int.toNat x75.1) * 13)+(Int.toNat a1_1))) [(i64 a0_0),(i64 a0_1),(i64 a0_2),(i64 a0_3),(i64 a0_4)] rfl (by omega) (by omega)) ?_
    refine uq ?_;refine zf (th_n ?_);refine zB (fun hb141=>?_) (fun hb141=>?_)
    ·have hF:=zw hb141 hF;refine ya ?_;refine th_e ?_;refine ib_e ?_;refine th_n ?_;refine zh ?_;obtain ⟨q142,hF⟩:=zj hF;refine zO q142 ?_;refine za ?_;refine zf ?_;refine thn ⟨_,(inj hF).symm,rfl,?_⟩;dsimp only
     exact ⟨F76,rfl,le76,st,gA,gA,gA,gA,gA,gA⟩
    ·have hF:=zx hb141 hF;refine zA (th_n ?_);refine zg (zh ?_);refine za ?_;refine v_nc ?_;refine v_fa ?_;refine zq (st.at (i:=0) rfl).2.2 rfl ?_;refine za ?_;refine zf (th_n ?_);refine zE ?_;obtain ⟨y173,hy,hF⟩:=zm hF;refine z5 (sf154_L1 a0_4 a1_0 a1_1 a1_3 x75) (fun x158 T ds159 h nx=>∃ (F159:PH),ds159 = [] ∧ PH.le F76 F159 ∧ St n0 h0 F0 F159 h nx [.bx b1 ([(i64 a0_0),(i64 a0_1),(i64 a0_2),(i64 a0_3),(i64 a0_4)] ++ (eI .i64 169 x158.2)),.bx b4 [(i64 a1_0),(i64 a1_1),(i64 a1_2),(i64 a1_3)],.bx b7 ([(i64 0),(i64 0),(i64 0),(i64 0),(i64 0)] ++ (eI .i64 169 (fun _=>0)))] ∧ T.get 0 = some (.ptr (some (b1,4))) ∧ T.get 1 = some (i64 a1_0) ∧ T.get 2 = some (i64 a1_1) ∧ T.get 3 = some (i64 a1_3) ∧ T.get 9 = some (i64 x75.1) ∧ T.get 10 = some (i64 ((x75.2 (((Int.toNat x75.1) * 13)+(Int.toNat a1_0)))+a1_3)) ∧ T.get 22 = some (i64 a0_4) ∧ T.get 23 = some (i64 x75.1) ∧ T.get 49 = some (i64 a0_4) ∧ T.get 50 = some (i64 x158.1)) (fun y e a σ=>e = .exit 2 ∧ a.nt = 83 ∧ ∃ (F174:PH),a.defers = [] ∧ PH.le F76 F174 ∧ St n0 h0 F0 F174 σ.h σ.nx [.bx b1 ([(i64 a0_0),(i64 a0_1),(i64 a0_2),(i64 a0_3),(i64 a0_4)] ++ (eI .i64 169 y)),.bx b4 [(i64 a1_0),(i64 a1_1),(i64 a1_2),(i64 a1_3)],.bx b7 ([(i64 0),(i64 0),(i64 0),(i64 0),(i64 0)] ++ (eI .i64 169 (fun _=>0)))] ∧ a.tmps.get 0 = some (.ptr (some (b1,4))) ∧ a.tmps.get 1 = some (i64 a1_0) ∧ a.tmps.get 2 = some (i64 a1_1) ∧ a.tmps.get 3 = some (i64 a1_3) ∧ a.tmps.get 22 = some (i64 a0_4) ∧ a.tmps.get 23 = some (i64 x75.1)) (fun x158 T ds159 h nx s hp hF=>?_) N _ y173 _ _ _ _ hy ⟨F76,rfl,(PH.le.refl _),st,gA,gA,gA,gA,gA,gA,gA,gA,gA,gA⟩ (fun e a σ hne hq=>?_)
     ·obtain ⟨F159,rfl,le159,st,t0,t1,t2,t3,t9,t10,t22,t23,t49,t50⟩:=hp
      unfold sf154_L1 at hF;unfold L170w0;refine zg (zh ?_);refine yg ?_;refine zf (th_n ?_);refine zg ?_;refine zB (fun hb175=>?_) (fun hb175=>?_)
      ·have hF:=zw hb175 hF;refine zA (th_n ?_);refine zg ?_;refine zE ?_;refine zg (zh ?_);refine za ?_;refine za ?_;refine zf (th_n ?_);refine zg (zh ?_);refine za ?_;refine za ?_;refine za ?_;refine za ?_;refine v_nc ?_;refine v_fa ?_;obtain ⟨q176,hF⟩:=zj hF
       refine zT (j:=(Int.toNat a1_1)) (Int.toNat_of_nonneg q176.1).symm (by omega) ?_
       obtain ⟨q177,hF⟩:=zj hF
       refine zT (j:=(Int.toNat x158.1)) (Int.toNat_of_nonneg q177.1).symm (by omega) ?_
       refine zq (o:=((5+(Int.toNat a1_1) * 13)+(Int.toNat x158.1) * 1)) (st.at (i:=0) rfl).2.2 (yw (p:=5) (ix:=(((Int.toNat a1_1) * 13)+(Int.toNat x158.1))) [(i64 a0_0),(i64 a0_1),(i64 a0_2),(i64 a0_3),(i64 a0_4)] rfl (by omega) (by omega)) ?_
       obtain ⟨q178,hF⟩:=zj hF;refine zO q178 ?_;refine za ?_;refine zf (th_n ?_);refine zg (zh ?_);refine za ?_;refine za ?_;refine za ?_;refine za ?_;refine v_nc ?_;refine v_fa ?_;obtain ⟨q179,hF⟩:=zj hF
       refine zT (j:=(Int.toNat x75.1)) (Int.toNat_of_nonneg q179.1).symm (by omega) ?_
       obtain ⟨q180,hF⟩:=zj hF
       refine zT (j:=(Int.toNat x158.1)) (Int.toNat_of_nonneg q180.1).symm (by omega) ?_
       refine zq (o:=((5+(Int.toNat x75.1) * 13)+(Int.toNat x158.1) * 1)) (st.at (i:=0) rfl).2.2 (yw (p:=5) (ix:=(((Int.toNat x75.1) * 13)+(Int.toNat x158.1))) [(i64 a0_0),(i64 a0_1),(i64 a0_2),(i64 a0_3),(i64 a0_4)] rfl (by omega) (by omega)) ?_
       refine yg ?_;refine zf (th_n ?_);refine zB (fun hb181=>?_) (fun hb181=>?_)
       ·have hF:=zw hb181 hF;refine zh ?_;refine za ?_;refine za ?_;refine za ?_;refine za ?_;refine v_nc ?_;refine v_fa ?_;obtain ⟨q182,hF⟩:=zj hF
        refine zT (j:=(Int.toNat x75.1)) (Int.toNat_of_nonneg q182.1).symm (by omega) ?_
        obtain ⟨q183,hF⟩:=zj hF
        refine zT (j:=(Int.toNat x158.1)) (Int.toNat_of_nonneg q183.1).symm (by omega) ?_
        refine v_st (o:=((5+(Int.toNat x75.1) * 13)+(Int.toNat x158.1) * 1)) (v:=(i64 (((x75.2 (((Int.toNat x75.1) * 13)+(Int.toNat a1_0)))+a1_3)+(x158.2 (((Int.toNat a1_1) * 13)+(Int.toNat x158.1)))))) (cs':=([(i64 a0_0),(i64 a0_1),(i64 a0_2),(i64 a0_3),(i64 a0_4)] ++ (eI .i64 169 (ups x158.2 (((Int.toNat x75.1) * 13)+(Int.toNat x158.1)) (((x75.2 (((Int.toNat x75.1) * 13)+(Int.toNat a1_0)))+a1_3)+(x158.2 (((Int.toNat a1_1) * 13)+(Int.toNat x158.1)))))))) st 0 rfl (uE (p:=5) (ix:=(((Int.toNat x75.1) * 13)+(Int.toNat x158.1))) [(i64 a0_0),(i64 a0_1),(i64 a0_2),(i64 a0_3),(i64 a0_4)] rfl (by omega) (by omega)) rfl rfl hfl (fun h184 st=>?_)
        refine zf ?_;refine ib_n ?_;refine th_n ?_;refine zh ?_;obtain ⟨q185,hF⟩:=zj hF;refine zO q185 ?_;refine za ?_;refine zf ?_;refine thn ⟨_,(inj hF).symm,rfl,?_⟩;dsimp only
        exact ⟨F159,rfl,le159,st,gA,gA,gA,gA,gA,gA,gA,gA,gA,gA⟩
       ·have hF:=zx hb181 hF;refine zA ?_;refine ib_n ?_;refine th_n ?_;refine zh ?_;obtain ⟨q186,hF⟩:=zj hF;refine zO q186 ?_;refine za ?_;refine zf ?_;refine thn ⟨_,(inj hF).symm,rfl,?_⟩;dsimp only
        exact ⟨F159,rfl,le159,st,gA,gA,gA,gA,gA,gA,gA,gA,gA,gA⟩
      ·have hF:=zx hb175 hF;refine ya ?_;refine th_e ?_;refine th_e ?_;refine ⟨_,(inj hF).symm,rfl,rfl,?_⟩;dsimp only
       exact ⟨F159,rfl,le159,st,gA,gA,gA,gA,gA,gA⟩
     ·obtain ⟨N9,T,ds174⟩:=a;obtain ⟨h188,n189⟩:=σ;obtain ⟨rfl,e1,F174,e2,le174,st,t0,t1,t2,t3,t22,t23⟩:=hq
      dsimp only at e1 e2
      subst e1
      subst e2
      dsimp only at st t0 t1 t2 t3 t22 t23
      have le187:=PH.le.trans le76 le174
      refine ib_e ?_;refine ib_n ?_;refine th_n ?_;refine zh ?_;obtain ⟨q190,hF⟩:=zj hF;refine zO q190 ?_;refine za ?_;refine zf ?_;refine thn ⟨_,(inj hF).symm,rfl,?_⟩;dsimp only
      exact ⟨F174,rfl,le187,st,gA,gA,gA,gA,gA,gA⟩
   ·have hF:=zx hb135 hF;refine ya ?_;refine th_e ?_;refine th_e ?_;refine ⟨_,(inj hF).symm,rfl,rfl,?_⟩;dsimp only
    exact ⟨F76,rfl,le76,st⟩
  ·obtain ⟨N9,T,ds134⟩:=a;obtain ⟨h191,n192⟩:=σ;obtain ⟨rfl,e1,F134,e2,le134,st⟩:=hq
   dsimp only at e1 e2
   subst e1
   subst e2
   dsimp only at st
   refine ib_e ?_;refine th_n ?_;refine zg (zh ?_);refine za ?_;refine zf (th_n ?_);refine zu ?_;refine y4 (v:=(.bool true)) (Res.t gA Res.nil) rfl (.inl rfl) (ik ?_);refine yo ?_;refine zf (th_n ?_);refine zB (fun hq193=>?_) (fun hq193=>?_)
   ·exact absurd hq193 (by rw [(congrArg (!·) rfl)];decide)
   ·refine zA (th_n ?_);refine zg ?_;obtain ⟨y391,hA392,hF⟩:=zm hF;refine yG (fun T ds394 h nx=>∃ (F394:PH),ds394 = [] ∧ PH.le F134 F394 ∧ St n0 h0 F0 F394 h nx [.bx b1 ([(i64 a0_0),(i64 a0_1),(i64 a0_2),(i64 a0_3),(i64 a0_4)] ++ (eI .i64 169 y391.2)),.bx b4 [(i64 a1_0),(i64 a1_1),(i64 a1_2),(i64 a1_3)],.bx b7 ([(i64 0),(i64 0),(i64 0),(i64 0),(i64 0)] ++ (eI .i64 169 (fun _=>0)))] ∧ T.get 2 = some (.ptr (some (b1,0))) ∧ T.get 4 = some (.ptr (some (b7,0))) ∧ T.get 37 = some (.bool y391.1)) ?_ (fun T ds394 h nx hp=>?_)
    ·have hK393:=hF
     have hF:=hA392;refine zh ?_;refine v_fa ?_;refine zq (st.at (i:=1) rfl).2.2 rfl ?_;refine v_fa ?_;refine v_fa ?_;refine zq (st.at (i:=0) rfl).2.2 rfl ?_;refine yg ?_;refine za ?_
     rcases Bool.eq_false_or_eq_true (decide (a1_1 < a0_0)) with hb395 | hb395
     ·have hF:=zw hb395 hF;refine zi hb395 (v_fa ?_);refine zi hb395 (v_fa ?_);refine zi hb395 (zq (st.at (i:=1) rfl).2.2 rfl ?_);obtain ⟨q396,hF⟩:=zj hF;refine zi hb395 (zO q396 ?_);refine zi hb395 (v_fa ?_);refine zi hb395 (zq (st.at (i:=1) rfl).2.2 rfl ?_);refine zi hb395 (v_fa ?_);refine zi hb395 (v_fa ?_);refine zi hb395 (zq (st.at (i:=1) rfl).2.2 rfl ?_);obtain ⟨q397,hF⟩:=zj hF;refine zi hb395 (Yy q397 ?_);obtain ⟨q398,hF⟩:=zj hF;refine zi hb395 (yq q398 ?_);refine zi hb395 (kq lw170 rfl rfl (fun T hT=>?_))
      have t0:=hT 0 _ rfl
      have t1:=hT 1 _ rfl
      have t2:=hT 2 _ rfl
      have t3:=hT 3 _ rfl
      dsimp only [L170]
      refine zg (zh ?_);refine za ?_;refine zf (th_n ?_);refine zg ?_;refine zg (zh ?_);refine za ?_;refine za ?_;refine za ?_;refine za ?_;obtain ⟨v400,e401,hF⟩:=zm hF;refine zI st (ct181 N e401 st.d (all_sub _)  (st.at (i:=0) rfl).2.2) (fun n402 st=>?_);refine yo ?_;refine zf (th_n ?_);refine zB (fun hb403=>?_) (fun hb403=>?_)
      ·have hF:=zw hb403 hF;refine zg (zh ?_);refine za ?_;refine zf (th_n ?_);refine zu ?_;refine th_r ?_;refine y4 (v:=(.bool false)) (Res.t gA Res.nil) rfl (.inl rfl) (ik ?_);refine zi hb395 (yo ?_);refine zG hb395 ?_;refine zf ?_;obtain rfl:=inj hF;refine thn ⟨rfl,?_⟩;dsimp only
       exact ⟨F134,rfl,(PH.le.refl _),st,gA,gA,gA⟩
      ·have hF:=zx hb403 hF;refine zA (th_n ?_);refine zg ?_;refine zg (zh ?_);refine za ?_;refine v_nc ?_;refine v_fa ?_;refine zq (st.at (i:=0) rfl).2.2 rfl ?_;refine za ?_;refine zf (th_n ?_);refine zE ?_;obtain ⟨y528,hy,hF⟩:=zm hF;refine z5 (sf154_L4 N a0_4 a1_0 a1_1 a1_2) (fun x466 T ds467 h nx=>∃ (F467:PH),ds467 = [] ∧ PH.le F134 F467 ∧ St n0 h0 F0 F467 h nx [.bx b1 ([(i64 a0_0),(i64 a0_1),(i64 a0_2),(i64 a0_3),(i64 a0_4)] ++ (eI .i64 169 x466.2)),.bx b4 [(i64 a1_0),(i64 a1_1),(i64 a1_2),(i64 a1_3)],.bx b7 ([(i64 0),(i64 0),(i64 0),(i64 0),(i64 0)] ++ (eI .i64 169 (fun _=>0)))] ∧ T.get 0 = some (.ptr (some (b1,4))) ∧ T.get 1 = some (i64 (a1_1+(1:Int))) ∧ T.get 2 = some (i64 a1_0) ∧ T.get 3 = some (i64 ((-a1_2) - (1:Int))) ∧ T.get 22 = some (i64 a0_4) ∧ T.get 23 = some (i64 x466.1)) (fun y e a σ=>e = .exit 0 ∧ a.nt = 83 ∧ ∃ (F529:PH),a.defers = [] ∧ PH.le F134 F529 ∧ St n0 h0 F0 F529 σ.h σ.nx [.bx b1 ([(i64 a0_0),(i64 a0_1),(i64 a0_2),(i64 a0_3),(i64 a0_4)] ++ (eI .i64 169 y)),.bx b4 [(i64 a1_0),(i64 a1_1),(i64 a1_2),(i64 a1_3)],.bx b7 ([(i64 0),(i64 0),(i64 0),(i64 0),(i64 0)] ++ (eI .i64 169 (fun _=>0)))]) (fun x466 T ds467 h nx s hp hF=>?_) N _ y528 _ _ _ _ hy ⟨F134,rfl,(PH.le.refl _),st,gA,gA,gA,gA,gA,gA⟩ (fun e a σ hne hq=>?_)
       ·obtain ⟨F467,rfl,le467,st,t0,t1,t2,t3,t22,t23⟩:=hp
        unfold sf154_L4 at hF;unfold L170w1;refine zg (zh ?_);refine yg ?_;refine zf (th_n ?_);refine zg ?_;refine zB (fun hb530=>?_) (fun hb530=>?_)
        ·have hF:=zw hb530 hF;refine zA (th_n ?_);refine zg ?_;refine zE ?_;refine zg (zh ?_);refine za ?_;refine za ?_;refine zf (th_n ?_);refine zg (zh ?_);refine za ?_;refine za ?_;refine za ?_;refine v_nc ?_;refine v_fa ?_;obtain ⟨q531,hF⟩:=zj hF
         refine zT (j:=(Int.toNat x466.1)) (Int.toNat_of_nonneg q531.1).symm (by omega) ?_
         obtain ⟨q532,hF⟩:=zj hF
         refine zT (j:=(Int.toNat (a1_1+(1:Int)))) (Int.toNat_of_nonneg q532.1).symm (by omega) ?_
         refine zq (o:=((5+(Int.toNat x466.1) * 13)+(Int.toNat (a1_1+(1:Int))) * 1)) (st.at (i:=0) rfl).2.2 (yw (p:=5) (ix:=(((Int.toNat x466.1) * 13)+(Int.toNat (a1_1+(1:Int))))) [(i64 a0_0),(i64 a0_1),(i64 a0_2),(i64 a0_3),(i64 a0_4)] rfl (by omega) (by omega)) ?_
         refine za ?_;obtain ⟨q533,hF⟩:=zj hF;refine zO q533 ?_;refine za ?_;refine zf (th_n ?_);refine zg ?_;refine zg (zh ?_);refine za ?_;refine za ?_;refine za ?_;refine za ?_;refine v_nc ?_;refine v_fa ?_;obtain ⟨q534,hF⟩:=zj hF
         refine zT (j:=(Int.toNat x466.1)) (Int.toNat_of_nonneg q534.1).symm (by omega) ?_
         obtain ⟨q535,hF⟩:=zj hF
         refine zT (j:=(Int.toNat a1_0)) (Int.toNat_of_nonneg q535.1).symm (by omega) ?_
         refine zq (o:=((5+(Int.toNat x466.1) * 13)+(Int.toNat a1_0) * 1)) (st.at (i:=0) rfl).2.2 (yw (p:=5) (ix:=(((Int.toNat x466.1) * 13)+(Int.toNat a1_0))) [(i64 a0_0),(i64 a0_1),(i64 a0_2),(i64 a0_3),(i64 a0_4)] rfl (by omega) (by omega)) ?_
         refine uq ?_;refine zf (th_n ?_);refine zB (fun hb536=>?_) (fun hb536=>?_)
         ·have hF:=zw hb536 hF;refine ya ?_;refine th_e ?_;refine ib_e ?_;refine th_n ?_;refine zh ?_;obtain ⟨q537,hF⟩:=zj hF;refine zO q537 ?_;refine za ?_;refine zf ?_;refine thn ⟨_,(inj hF).symm,rfl,?_⟩;dsimp only
          exact ⟨F467,rfl,le467,st,gA,gA,gA,gA,gA,gA⟩
         ·have hF:=zx hb536 hF;refine zA (th_n ?_);refine zg (zh ?_);refine za ?_;refine v_nc ?_;refine v_fa ?_;refine zq (st.at (i:=0) rfl).2.2 rfl ?_;refine za ?_;refine zf (th_n ?_);refine zE ?_;obtain ⟨y570,hy,hF⟩:=zm hF;refine z5 (sf154_L3 a0_4 a1_0 a1_1 a1_2 x466) (fun x554 T ds555 h nx=>∃ (F555:PH),ds555 = [] ∧ PH.le F467 F555 ∧ St n0 h0 F0 F555 h nx [.bx b1 ([(i64 a0_0),(i64 a0_1),(i64 a0_2),(i64 a0_3),(i64 a0_4)] ++ (eI .i64 169 x554.2)),.bx b4 [(i64 a1_0),(i64 a1_1),(i64 a1_2),(i64 a1_3)],.bx b7 ([(i64 0),(i64 0),(i64 0),(i64 0),(i64 0)] ++ (eI .i64 169 (fun _=>0)))] ∧ T.get 0 = some (.ptr (some (b1,4))) ∧ T.get 1 = some (i64 (a1_1+(1:Int))) ∧ T.get 2 = some (i64 a1_0) ∧ T.get 3 = some (i64 ((-a1_2) - (1:Int))) ∧ T.get 9 = some (i64 x466.1) ∧ T.get 10 = some (i64 ((x466.2 (((Int.toNat x466.1) * 13)+(Int.toNat (a1_1+(1:Int)))))+((-a1_2) - (1:Int)))) ∧ T.get 22 = some (i64 a0_4) ∧ T.get 23 = some (i64 x466.1) ∧ T.get 49 = some (i64 a0_4) ∧ T.get 50 = some (i64 x554.1)) (fun y e a σ=>e = .exit 2 ∧ a.nt = 83 ∧ ∃ (F571:PH),a.defers = [] ∧ PH.le F467 F571 ∧ St n0 h0 F0 F571 σ.h σ.nx [.bx b1 ([(i64 a0_0),(i64 a0_1),(i64 a0_2),(i64 a0_3),(i64 a0_4)] ++ (eI .i64 169 y)),.bx b4 [(i64 a1_0),(i64 a1_1),(i64 a1_2),(i64 a1_3)],.bx b7 ([(i64 0),(i64 0),(i64 0),(i64 0),(i64 0)] ++ (eI .i64 169 (fun _=>0)))] ∧ a.tmps.get 0 = some (.ptr (some (b1,4))) ∧ a.tmps.get 1 = some (i64 (a1_1+(1:Int))) ∧ a.tmps.get 2 = some (i64 a1_0) ∧ a.tmps.get 3 = some (i64 ((-a1_2) - (1:Int))) ∧ a.tmps.get 22 = some (i64 a0_4) ∧ a.tmps.get 23 = some (i64 x466.1)) (fun x554 T ds555 h nx s hp hF=>?_) N _ y570 _ _ _ _ hy ⟨F467,rfl,(PH.le.refl _),st,gA,gA,gA,gA,gA,gA,gA,gA,gA,gA⟩ (fun e a σ hne hq=>?_)
          ·obtain ⟨F555,rfl,le555,st,t0,t1,t2,t3,t9,t10,t22,t23,t49,t50⟩:=hp
           unfold sf154_L3 at hF;unfold L170w0;refine zg (zh ?_);refine yg ?_;refine zf (th_n ?_);refine zg ?_;refine zB (fun hb572=>?_) (fun hb572=>?_)
           ·have hF:=zw hb572 hF;refine zA (th_n ?_);refine zg ?_;refine zE ?_;refine zg (zh ?_);refine za ?_;refine za ?_;refine zf (th_n ?_);refine zg (zh ?_);refine za ?_;refine za ?_;refine za ?_;refine za ?_;refine v_nc ?_;refine v_fa ?_;obtain ⟨q573,hF⟩:=zj hF
            refine zT (j:=(Int.toNat a1_0)) (Int.toNat_of_nonneg q573.1).symm (by omega) ?_
            obtain ⟨q574,hF⟩:=zj hF
            refine zT (j:=(Int.toNat x554.1)) (Int.toNat_of_nonneg q574.1).symm (by omega) ?_
            refine zq (o:=((5+(Int.toNat a1_0) * 13)+(Int.toNat x554.1) * 1)) (st.at (i:=0) rfl).2.2 (yw (p:=5) (ix:=(((Int.toNat a1_0) * 13)+(Int.toNat x554.1))) [(i64 a0_0),(i64 a0_1),(i64 a0_2),(i64 a0_3),(i64 a0_4)] rfl (by omega) (by omega)) ?_
            obtain ⟨q575,hF⟩:=zj hF;refine zO q575 ?_;refine za ?_;refine zf (th_n ?_);refine zg (zh ?_);refine za ?_;refine za ?_;refine za ?_;refine za ?_;refine v_nc ?_;refine v_fa ?_;obtain ⟨q576,hF⟩:=zj hF
            refine zT (j:=(Int.toNat x466.1)) (Int.toNat_of_nonneg q576.1).symm (by omega) ?_
            obtain ⟨q577,hF⟩:=zj hF
            refine zT (j:=(Int.toNat x554.1)) (Int.toNat_of_nonneg q577.1).symm (by omega) ?_
            refine zq (o:=((5+(Int.toNat x466.1) * 13)+(Int.toNat x554.1) * 1)) (st.at (i:=0) rfl).2.2 (yw (p:=5) (ix:=(((Int.toNat x466.1) * 13)+(Int.toNat x554.1))) [(i64 a0_0),(i64 a0_1),(i64 a0_2),(i64 a0_3),(i64 a0_4)] rfl (by omega) (by omega)) ?_
            refine yg ?_;refine zf (th_n ?_);refine zB (fun hb578=>?_) (fun hb578=>?_)
            ·have hF:=zw hb578 hF;refine zh ?_;refine za ?_;refine za ?_;refine za ?_;refine za ?_;refine v_nc ?_;refine v_fa ?_;obtain ⟨q579,hF⟩:=zj hF
             refine zT (j:=(Int.toNat x466.1)) (Int.toNat_of_nonneg q579.1).symm (by omega) ?_
             obtain ⟨q580,hF⟩:=zj hF
             refine zT (j:=(Int.toNat x554.1)) (Int.toNat_of_nonneg q580.1).symm (by omega) ?_
             refine v_st (o:=((5+(Int.toNat x466.1) * 13)+(Int.toNat x554.1) * 1)) (v:=(i64 (((x466.2 (((Int.toNat x466.1) * 13)+(Int.toNat (a1_1+(1:Int)))))+((-a1_2) - (1:Int)))+(x554.2 (((Int.toNat a1_0) * 13)+(Int.toNat x554.1)))))) (cs':=([(i64 a0_0),(i64 a0_1),(i64 a0_2),(i64 a0_3),(i64 a0_4)] ++ (eI .i64 169 (ups x554.2 (((Int.toNat x466.1) * 13)+(Int.toNat x554.1)) (((x466.2 (((Int.toNat x466.1) * 13)+(Int.toNat (a1_1+(1:Int)))))+((-a1_2) - (1:Int)))+(x554.2 (((Int.toNat a1_0) * 13)+(Int.toNat x554.1)))))))) st 0 rfl (uE (p:=5) (ix:=(((Int.toNat x466.1) * 13)+(Int.toNat x554.1))) [(i64 a0_0),(i64 a0_1),(i64 a0_2),(i64 a0_3),(i64 a0_4)] rfl (by omega) (by omega)) rfl rfl hfl (fun h581 st=>?_)
             refine zf ?_;refine ib_n ?_;refine th_n ?_;refine zh ?_;obtain ⟨q582,hF⟩:=zj hF;refine zO q582 ?_;refine za ?_;refine zf ?_;refine thn ⟨_,(inj hF).symm,rfl,?_⟩;dsimp only
             exact ⟨F555,rfl,le555,st,gA,gA,gA,gA,gA,gA,gA,gA,gA,gA⟩
            ·have hF:=zx hb578 hF;refine zA ?_;refine ib_n ?_;refine th_n ?_;refine zh ?_;obtain ⟨q583,hF⟩:=zj hF;refine zO q583 ?_;refine za ?_;refine zf ?_;refine thn ⟨_,(inj hF).symm,rfl,?_⟩;dsimp only
             exact ⟨F555,rfl,le555,st,gA,gA,gA,gA,gA,gA,gA,gA,gA,gA⟩
           ·have hF:=zx hb572 hF;refine ya ?_;refine th_e ?_;refine th_e ?_;refine ⟨_,(inj hF).symm,rfl,rfl,?_⟩;dsimp only
            exact ⟨F555,rfl,le555,st,gA,gA,gA,gA,gA,gA⟩
          ·obtain ⟨N9,T,ds571⟩:=a;obtain ⟨h586,n587⟩:=σ;obtain ⟨rfl,e1,F571,e2,le571,st,t0,t1,t2,t3,t22,t23⟩:=hq
           dsimp only at e1 e2
           subst e1
           subst e2
           dsimp only at st t0 t1 t2 t3 t22 t23
           have le585:=PH.le.trans le467 le571
           refine ib_e ?_;refine ib_n ?_;refine th_n ?_;refine zh ?_;obtain ⟨q588,hF⟩:=zj hF;refine zO q588 ?_;refine za ?_;refine zf ?_;refine thn ⟨_,(inj hF).symm,rfl,?_⟩;dsimp only
           exact ⟨F571,rfl,le585,st,gA,gA,gA,gA,gA,gA⟩
        ·have hF:=zx hb530 hF;refine ya ?_;refine th_e ?_;refine th_e ?_;refine ⟨_,(inj hF).symm,rfl,rfl,?_⟩;dsimp only
         exact ⟨F467,rfl,le467,st⟩
       ·obtain ⟨N9,T,ds529⟩:=a;obtain ⟨h590,n591⟩:=σ;obtain ⟨rfl,e1,F529,e2,le529,st⟩:=hq
        dsimp only at e1 e2
        subst e1
        subst e2
        dsimp only at st
        refine ib_e ?_;refine th_n ?_;refine zg (zh ?_);refine za ?_;refine zf (th_n ?_);refine zu ?_;refine y4 (v:=(.bool true)) (Res.t gA Res.nil) rfl (.inl rfl) (ik ?_);refine zi hb395 (yo ?_);refine zG hb395 ?_;refine zf ?_;obtain rfl:=inj hF;refine thn ⟨rfl,?_⟩;dsimp only
        exact ⟨F529,rfl,le529,st,gA,gA,gA⟩
     ·have hF:=zx hb395 hF;refine ze hb395 ?_;refine ze hb395 ?_;refine ze hb395 ?_;refine ze hb395 ?_;refine ze hb395 ?_;refine ze hb395 ?_;refine ze hb395 ?_;refine ze hb395 ?_;refine ze hb395 ?_;refine ze hb395 ?_;refine ze hb395 ?_;refine ze hb395 ?_;refine ze hb395 ?_;refine zC hb395 ?_;refine zf ?_;obtain rfl:=inj hF;refine thn ⟨rfl,?_⟩;dsimp only
      exact ⟨F134,rfl,(PH.le.refl _),st,gA,gA,gA⟩
    ·obtain ⟨F394,rfl,le394,st,t2,t4,t37⟩:=hp
     refine zB (fun hb593=>?_) (fun hb593=>?_)
     ·have hF:=zw hb593 hF;refine zg (zh ?_);refine zR (cs:=([(i64 0),(i64 0),(i64 0),(i64 0),(i64 0)] ++ (eI .i64 169 (fun _=>0)))) rfl ?_
      refine v_st (v:=(.agg ([(i64 0),(i64 0),(i64 0),(i64 0),(i64 0)] ++ (eI .i64 169 (fun _=>0))))) (cs':=([(i64 0),(i64 0),(i64 0),(i64 0),(i64 0)] ++ (eI .i64 169 (fun _=>0)))) st 2 rfl (yc [] rfl (by simp [HV.cells,zy,yn])) (zY _ zy (by rfl)) (zX _ (by rfl) ym) hfl (fun h594 st=>?_)
      refine za ?_;refine zf (th_n ?_);refine zu ?_;refine th_r ?_;obtain rfl:=inj hF
      exact zD st (Res.c gA (st.at (i:=2) rfl).2.2 (show takeN _ _ = some ([(i64 0),(i64 0),(i64 0),(i64 0),(i64 0)] ++ (eI .i64 169 (fun _=>0))) from (zS (E:=(eI .i64 169 (fun _=>0))) [] [(i64 0),(i64 0),(i64 0),(i64 0),(i64 0)] rfl zy rfl)) (Res.t gA Res.nil)) rfl rfl
     ·have hF:=zx hb593 hF;refine zA (th_n ?_);refine zg (zh ?_);refine zK (vs:=([(i64 a0_0),(i64 a0_1),(i64 a0_2),(i64 a0_3),(i64 a0_4)] ++ (eI .i64 169 y391.2))) (st.at (i:=0) rfl).2.2 (zS (E:=(eI .i64 169 y391.2)) [] [(i64 a0_0),(i64 a0_1),(i64 a0_2),(i64 a0_3),(i64 a0_4)] rfl zy rfl) ?_
      refine v_st (v:=(.agg ([(i64 a0_0),(i64 a0_1),(i64 a0_2),(i64 a0_3),(i64 a0_4)] ++ (eI .i64 169 y391.2)))) (cs':=([(i64 a0_0),(i64 a0_1),(i64 a0_2),(i64 a0_3),(i64 a0_4)] ++ (eI .i64 169 y391.2))) st 2 rfl (yc [] rfl (by simp [HV.cells,zy,yn])) (zY _ zy (by rfl)) (zX _ (by rfl) ym) hfl (fun h595 st=>?_)
      refine za ?_;refine zf (th_n ?_);refine zu ?_;obtain rfl:=inj hF
      exact zD st (Res.c gA (st.at (i:=2) rfl).2.2 (show takeN _ _ = some ([(i64 a0_0),(i64 a0_1),(i64 a0_2),(i64 a0_3),(i64 a0_4)] ++ (eI .i64 169 y391.2)) from (zS (E:=(eI .i64 169 y391.2)) [] [(i64 a0_0),(i64 a0_1),(i64 a0_2),(i64 a0_3),(i64 a0_4)] rfl zy rfl)) (Res.t gA Res.nil)) rfl rfl
end Go.Hx.V

namespace Go.Hx.V
open Go.Hx
set_option maxRecDepth 20000
set_option maxHeartbeats 4000000
variable {fl : Nat} {h0 : Tr HBlk} {n0 : Nat} {F0 : PH}
attribute [local irreducible] W R C thenH inBlockH Tr.get Tr.set lo ck bnd ix iter
theorem ct108 (N:Nat) {a0_0 a0_1 a0_2 a0_3 a0_4:Int} {a0_5:(Nat → Int)} {r:(List (Int × Int))} (hF:sf108 N a0_0 a0_1 a0_2 a0_3 a0_4 a0_5 = some r) (hd:D h0 n0) (hs:F0.sub h0) (hfl:fl ≤ n0):C LW fl 108 [(.agg ([(i64 a0_0),(i64 a0_1),(i64 a0_2),(i64 a0_3),(i64 a0_4)] ++ (eI .i64 169 a0_5)))] ⟨h0,n0⟩ (KR (lvL (rP rI rI) 2) F0 h0 n0 r):=by
 unfold sf108 at hF
 refine vu hd hs hfl lw108 rfl rfl (by rfl) (fun st T hT=>?_)
 have t0:=hT 0 _ rfl
 dsimp only [L108]
 refine zg (zh ?_);refine zW st (fun b1 h2 n3 st=>?_);refine za ?_;refine zf (th_n ?_);refine zg (zh ?_);obtain ⟨v4,e5,hF⟩:=zm hF;refine zI st (ct96 N e5 st.d st.sub ) (fun n6 st=>?_);refine zM st (fun b7 h8 n9 st=>?_);refine v_st (cs':=[(.via 215 "Lowest" 136),(.via 215 "Highest" 137)]) st 1 rfl rfl rfl rfl hfl (fun h10 st=>?_);refine zf (th_n ?_);refine zg (zh ?_);refine v_fa ?_;refine v_fa ?_;refine zq (st.at (i:=0) rfl).2.2 rfl ?_;obtain ⟨q11,hF⟩:=zj hF;refine zO q11 ?_;obtain ⟨q12,hF⟩:=zj hF
 have w12:LR (rP rI rI) 2 F0 (List.replicate (Int.toNat (0:Int)) (0,0)) (Go.Hx.repl (Int.toNat (0:Int)) [(i64 0),(i64 0)]):=LR.repl (⟨[(i64 0)],_,rfl,rfl,rfl⟩) _
 refine v_mk st (n:=(List.replicate (Int.toNat (0:Int)) (0,0)).length) q12.1 q12.2.1 (by simp) q12.2.2.1 q12.2.2.2 (fun o12 h12 n12 st=>?_)
 refine za ?_;refine zf (th_n ?_);refine zg ?_;refine zg (zh ?_);refine za ?_;refine zf (th_n ?_);refine zE ?_;obtain ⟨y45,hy,hF⟩:=zm hF;refine z5 (sf108_L1 N a0_0 a0_1 a0_2 a0_3 a0_4 a0_5) (fun x29 T ds30 h nx=>∃ (F30:PH) (o31:Option Nat) (c31:Nat) (cs31:List HV),ds30 = [] ∧ PH.le F0 F30 ∧ St n0 h0 F0 F30 h nx [.bx b1 ([(i64 a0_0),(i64 a0_1),(i64 a0_2),(i64 a0_3),(i64 a0_4)] ++ (eI .i64 169 a0_5)),.bx b7 [(.via 215 "Lowest" 136),(.via 215 "Highest" 137)],.ls o31 c31 cs31 2] ∧ LR (rP rI rI) 2 F30 x29.1 cs31 ∧ T.get 1 = some (.ptr (some (b1,0))) ∧ T.get 3 = some (.ptr (some (b7,0))) ∧ T.get 4 = some (slv o31 (x29.1).length c31) ∧ T.get 5 = some (i64 x29.2)) (fun y e a σ=>e = .exit 0 ∧ a.nt = 32 ∧ ∃ (F46:PH) (o47:Option Nat) (c47:Nat) (cs47:List HV),a.defers = [] ∧ PH.le F0 F46 ∧ St n0 h0 F0 F46 σ.h σ.nx [.bx b1 ([(i64 a0_0),(i64 a0_1),(i64 a0_2),(i64 a0_3),(i64 a0_4)] ++ (eI .i64 169 a0_5)),.bx b7 [(.via 215 "Lowest" 136),(.via 215 "Highest" 137)],.ls o47 c47 cs47 2] ∧ LR (rP rI rI) 2 F46 y cs47 ∧ a.tmps.get 4 = some (slv o47 (y).length c47)) (fun x29 T ds30 h nx s hp hF=>?_) N _ y45 _ _ _ _ hy ⟨F0,o12,(Int.toNat (a0_0+(1:Int))),(Go.Hx.repl (Int.toNat (0:Int)) [(i64 0),(i64 0)]),rfl,(PH.le.refl _),st,w12,gA,gA,gA,gA⟩ (fun e a σ hne hq=>?_)
 ·obtain ⟨F30,o31,c31,cs31,rfl,le30,st,w31,t1,t3,t4,t5⟩:=hp;unfold sf108_L1 at hF;unfold L108w0;refine zg ?_;refine zg (zh ?_);refine za ?_;refine v_fa ?_;refine v_fa ?_;refine zq (st.at (i:=0) rfl).2.2 rfl ?_;refine yx ?_;refine zf (th_n ?_);refine zB (fun hb48=>?_) (fun hb48=>?_)
  ·have hF:=zw hb48 hF;refine zA (th_n ?_);refine zg ?_;refine zE ?_;refine zV (Nat.le_trans hfl st.ext.le) (fun dw=>?_)
   have wf:=Wf.start st
   refine zd st.d dw (fun hm vw=>za zb) ?_;refine zd st.d dw (fun hm vw=>v_fa zb) ?_;refine zd st.d dw (fun hm vw=>zq (vw.bx (st.at (i:=1) rfl)) rfl zb) ?_;refine zd st.d dw (fun hm vw=>za zb) ?_;obtain ⟨v49,e50,hF⟩:=zm hF
   refine yj st.d dw (fun hm vw=>u_callV (off:=4) (by kernel_rfl) (ct136 N e50 vw.d (all_sub _)  (vw.bx (st.at (i:=0) rfl))) (fun n' hn'=>yk hn')) (fun n51 hn' dw=>?_)
   refine zd st.d dw (fun hm vw=>v_fa zb) ?_;refine zd st.d dw (fun hm vw=>zq (vw.bx (st.at (i:=1) rfl)) rfl zb) ?_;refine ye st.d dw rfl (fun h52 ex vs=>?_)
   have st:=st.ext1 ex
   refine za ?_;obtain ⟨v53,e54,hF⟩:=zm hF
   refine uI (off:=4) (by kernel_rfl) st (ct137 N e54 st.d (all_sub _)  (st.at (i:=0) rfl).2.2) (fun n55 st=>?_)
   refine zR (cs:=[(i64 v49),(i64 v53)]) rfl ?_;refine v_bs (cs:=[(i64 v49),(i64 v53)]) st rfl (fun b56 h57 n58 st=>?_);obtain ⟨q59,hF⟩:=zj hF
   have w59:LR (rP rI rI) 2 F30 (x29.1 ++ [(v49,v53)]) (cs31 ++ [(i64 v49),(i64 v53)]):=LR.app w31 (LR.one (⟨[(i64 v49)],_,rfl,rfl,rfl⟩))
   refine jn (n:=1) (ox:=0) (m:=(x29.1 ++ [(v49,v53)]).length) (row:=[(i64 v49),(i64 v53)]) st 2 rfl w31.1 (st.at (i:=3) rfl).2.2 rfl rfl q59 hfl (by decide) (by decide) (by simp) (fun o59 c59 h59 n59 st=>?_)
   refine za ?_;refine zf ?_;refine ib_n ?_;refine th_n ?_;refine zh ?_;refine za ?_;obtain ⟨q60,hF⟩:=zj hF;refine zO q60 ?_;refine za ?_;refine zf ?_;refine thn ⟨_,(inj hF).symm,rfl,?_⟩;dsimp only
   exact ⟨F30,o59,c59,(cs31 ++ [(i64 v49),(i64 v53)]),rfl,le30,(st.drop (by first | exact List.Sublist.refl _ | (repeat first | exact List.nil_sublist _ | refine List.Sublist.cons_cons _ ?_ | refine List.Sublist.cons _ ?_))),w59,gA,gA,gA,gA⟩
  ·have hF:=zx hb48 hF;refine ya ?_;refine th_e ?_;refine th_e ?_;refine ⟨_,(inj hF).symm,rfl,rfl,?_⟩;dsimp only
   exact ⟨F30,o31,c31,cs31,rfl,le30,st,w31,gA⟩
 ·obtain ⟨N9,T,ds46⟩:=a;obtain ⟨h61,n62⟩:=σ;obtain ⟨rfl,e1,F46,o47,c47,cs47,e2,le46,st,w47,t4⟩:=hq
  dsimp only at e1 e2
  subst e1
  subst e2
  dsimp only at st t4
  refine ib_e ?_;refine th_n ?_;refine zg (zh ?_);refine za ?_;refine za ?_;refine zf (th_n ?_);refine zu ?_;obtain rfl:=inj hF
  obtain ⟨F63,le63,st,rf63⟩:=St.freeze st 2 rfl w47 (by decide)
  exact yJ st (Res.t gA Res.nil) ⟨_,_,rfl,rf63⟩
theorem ct156 (N:Nat) {a0_0 a0_1:Int} {r:Bool} (hF:sf156 N a0_0 a0_1 = some r) (hd:D h0 n0) (hs:F0.sub h0):C LW fl 156 [(.agg [(i64 a0_0),(i64 a0_1)])] ⟨h0,n0⟩ (KS (.bool r) n0 h0):=by
 unfold sf156 at hF
 refine z8 hd hs lw156 rfl rfl (by rfl) (fun st T hT=>?_)
 have hfl:n0 ≤ n0:=Nat.le_refl n0
 have t0:=hT 0 _ rfl
 dsimp only [L156]
 refine zg (zh ?_);refine zW st (fun b1 h2 n3 st=>?_);refine za ?_;refine zf (th_n ?_);refine zg (zh ?_);refine zR (cs:=[(i64 1),(i64 2000)]) rfl ?_;refine zR (cs:=[(i64 1),(i64 2000)]) rfl ?_;refine zM st (fun b4 h5 n6 st=>?_);refine zM st (fun b7 h8 n9 st=>?_);refine v_st (cs':=[(i64 1),(i64 2000)]) st 1 rfl rfl rfl rfl hfl (fun h10 st=>?_);refine v_st (cs':=[(i64 1),(i64 2000)]) st 2 rfl rfl rfl rfl hfl (fun h11 st=>?_);refine zf (th_n ?_);refine zg (zh ?_);refine zK (vs:=[(i64 1),(i64 2000)]) (st.at (i:=1) rfl).2.2 rfl ?_
 refine v_fa ?_;refine zq (st.at (i:=0) rfl).2.2 rfl ?_;obtain ⟨v12,e13,hF⟩:=zm hF;refine zI st (ct144 N e13 st.d st.sub ) (fun n14 st=>?_);refine za ?_
 rcases Bool.eq_false_or_eq_true v12 with hb15 | hb15
 ·have hF:=zw hb15 hF;refine zi hb15 (zK (vs:=[(i64 1),(i64 2000)]) (st.at (i:=2) rfl).2.2 rfl ?_);refine zi hb15 (v_fa ?_);refine zi hb15 (zq (st.at (i:=0) rfl).2.2 rfl ?_);obtain ⟨v16,e17,hF⟩:=zm hF;refine zi hb15 (zI st (ct144 N e17 st.d st.sub ) (fun n18 st=>?_));refine zG hb15 ?_;refine za ?_;refine zf (th_n ?_);refine zu ?_;obtain rfl:=inj hF
  exact zD st (Res.t gA Res.nil) rfl rfl
 ·have hF:=zx hb15 hF;refine ze hb15 ?_;refine ze hb15 ?_;refine ze hb15 ?_;refine ze hb15 ?_;refine zC hb15 ?_;refine za ?_;refine zf (th_n ?_);refine zu ?_;obtain rfl:=inj hF
  exact zD st (Res.t gA Res.nil) rfl rfl
theorem ct157 (N:Nat) {a0:(List (Int × Int))} {r:Bool} (hF:sf157 N a0 = some r) (hd:D h0 n0) (hs:F0.sub h0) {pa0:Option (Nat × Nat)} {ca0:Nat} (ra0:RowF (rP rI rI) 2 F0 pa0 ca0 a0):C LW fl 157 [(.slice pa0 (a0).length ca0),(.func 158 [] [])] ⟨h0,n0⟩ (KS (.bool r) n0 h0):=by
 unfold sf157 at hF
 refine z8 hd hs lw157 rfl rfl (by rfl) (fun st T hT=>?_)
 have hfl:n0 ≤ n0:=Nat.le_refl n0
 have t0:=hT 0 _ rfl
 have t1:=hT 1 _ rfl
 dsimp only [L157]
 refine zg (zh ?_);refine za ?_;refine zf (th_n ?_);refine zg ?_;refine zg (zh ?_);refine za ?_;refine zf (th_n ?_);refine zE ?_;obtain ⟨y13,hy,hF⟩:=zm hF;refine z5 (sf157_L1 N a0) (fun x1 T ds2 h nx=>∃ (F2:PH),ds2 = [] ∧ PH.le F0 F2 ∧ St n0 h0 F0 F2 h nx [] ∧ T.get 0 = some (.slice pa0 (a0).length ca0) ∧ T.get 1 = some (.func 158 [] []) ∧ T.get 5 = some (i64 x1)) (fun y e a σ=>(∃ u,y = (.inl u) ∧ e = .ret ∧ a.nt = 24 ∧ ∃ (F15:PH),a.defers = [] ∧ PH.le F0 F15 ∧ St n0 h0 F0 F15 σ.h σ.nx [] ∧ a.tmps.get 4 = some (.bool false)) ∨ (∃ u,y = (.inr u) ∧ e = .exit 0 ∧ a.nt = 24 ∧ ∃ (F17:PH),a.defers = [] ∧ PH.le F0 F17 ∧ St n0 h0 F0 F17 σ.h σ.nx [])) (fun x1 T ds2 h nx s hp hF=>?_) N _ y13 _ _ _ _ hy ⟨F0,rfl,(PH.le.refl _),st,gA,gA,gA⟩ (fun e a σ hne hq=>?_)
 ·obtain ⟨F2,rfl,le2,st,t0,t1,t5⟩:=hp;unfold sf157_L1 at hF;unfold L157w0;refine zg ?_;refine zg (zh ?_);refine za ?_;refine za ?_;refine yA ?_;refine yg ?_;refine zf (th_n ?_);refine zB (fun hb18=>?_) (fun hb18=>?_)
  ·have hF:=zw hb18 hF;refine zA (th_n ?_);refine zg ?_;refine zE ?_;refine zg ?_;refine zV (Nat.le_trans hfl st.ext.le) (fun dw=>?_);refine zd st.d dw (fun hm vw=>za zb) ?_;refine zd st.d dw (fun hm vw=>za zb) ?_;refine zd st.d dw (fun hm vw=>za zb) ?_;obtain ⟨q19,hF⟩:=zj hF;refine zd st.d dw (fun hm vw=>yq q19 zb) ?_;obtain ⟨n20,x20,z20,l20,g20,hF⟩:=zZ hF;obtain ⟨b20,o20,s20,j20,r20,e20,f20,k20,⟨_,_,rfl,rfl,rfl⟩⟩:=RowF.get ra0 g20;refine zd st.d dw (fun hm vw=>yt e20 z20 l20 zb) ?_;refine zd st.d dw (fun hm vw=>zK (vw.fz st (le2 _ _ f20)) k20 zb) ?_
   refine zd st.d dw (fun hm vw=>za zb) ?_;refine zd st.d dw (fun hm vw=>za zb) ?_;obtain ⟨n21,x21,z21,l21,g21,hF⟩:=zZ hF;obtain ⟨b21,o21,s21,j21,r21,e21,f21,k21,⟨_,_,rfl,rfl,rfl⟩⟩:=RowF.get ra0 g21;refine zd st.d dw (fun hm vw=>yt e21 z21 l21 zb) ?_;refine zd st.d dw (fun hm vw=>zK (vw.fz st (le2 _ _ f21)) k21 zb) ?_;refine ye st.d dw rfl (fun h22 ex vs=>?_)
   have st:=st.ext1 ex
   obtain ⟨v23,e24,hF⟩:=zm hF;refine zI st (ct158 N e24 st.d st.sub ) (fun n25 st=>?_);refine yo ?_;refine zf (th_n ?_);refine zB (fun hb26=>?_) (fun hb26=>?_)
   ·have hF:=zw hb26 hF;refine zg (zh ?_);refine za ?_;refine zf (th_n ?_);refine zu ?_;refine ib_r ?_;refine th_r ?_;refine th_r ?_;refine ⟨_,(inj hF).symm,.inl ⟨_,rfl,rfl,rfl,?_⟩⟩;dsimp only
    exact ⟨F2,rfl,le2,st,gA⟩
   ·have hF:=zx hb26 hF;refine zA ?_;refine ib_n ?_;refine th_n ?_;refine zh ?_;refine za ?_;obtain ⟨q27,hF⟩:=zj hF;refine zO q27 ?_;refine za ?_;refine zf ?_;refine thn ⟨_,(inj hF).symm,rfl,?_⟩;dsimp only
    exact ⟨F2,rfl,le2,st,gA,gA,gA⟩
  ·have hF:=zx hb18 hF;refine ya ?_;refine th_e ?_;refine th_e ?_;refine ⟨_,(inj hF).symm,.inr (⟨_,rfl,rfl,rfl,?_⟩)⟩;dsimp only
   exact ⟨F2,rfl,le2,st⟩
 ·rcases hq with hq | hq
  ·obtain ⟨N9,T,ds15⟩:=a;obtain ⟨h28,n29⟩:=σ;obtain ⟨w14,rfl,rfl,e1,F15,e2,le15,st,t4⟩:=hq
   dsimp only at e1 e2
   subst e1
   subst e2
   dsimp only at st t4
   have hF:=vg hF;refine ib_r ?_;refine th_r ?_;obtain rfl:=inj hF
   exact zD st (Res.t gA Res.nil) rfl rfl
  ·obtain ⟨N9,T,ds17⟩:=a;obtain ⟨h30,n31⟩:=σ;obtain ⟨w16,rfl,rfl,e1,F17,e2,le17,st⟩:=hq
   dsimp only at e1 e2
   subst e1
   subst e2
   dsimp only at st
   have hF:=ve hF;refine ib_e ?_;refine th_n ?_;refine zg (zh ?_);refine za ?_;refine zf (th_n ?_);refine zu ?_;obtain rfl:=inj hF
   exact zD st (Res.t gA Res.nil) rfl rfl
theorem ct139 (N:Nat) {a0_0 a0_1 a1_0 a1_1:Int} {r:Bool} (hF:sf139 N a0_0 a0_1 a1_0 a1_1 = some r) (hd:D h0 n0) (hs:F0.sub h0):C LW fl 139 [(.agg [(i64 a0_0),(i64 a0_1)]),(.agg [(i64 a1_0),(i64 a1_1)])] ⟨h0,n0⟩ (KS (.bool r) n0 h0):=by
 unfold sf139 at hF
 refine z8 hd hs lw139 rfl rfl (by rfl) (fun st T hT=>?_)
 have hfl:n0 ≤ n0:=Nat.le_refl n0
 have t0:=hT 0 _ rfl
 have t1:=hT 1 _ rfl
 dsimp only [L139]
 refine zg (zh ?_);refine zW st (fun b1 h2 n3 st=>?_);refine zW st (fun b4 h5 n6 st=>?_);refine za ?_;refine zf (th_n ?_);refine zg (zh ?_);refine v_fa ?_;refine zq (st.at (i:=0) rfl).2.2 rfl ?_;refine v_fa ?_;refine zq (st.at (i:=0) rfl).2.2 rfl ?_;refine yx ?_;refine za ?_
 rcases Bool.eq_false_or_eq_true (decide (a0_0 ≤ a0_1)) with hb7 | hb7
 ·have hF:=zw hb7 hF;refine zi hb7 (zK (vs:=[(i64 a1_0),(i64 a1_1)]) (st.at (i:=1) rfl).2.2 rfl ?_);refine zi hb7 (v_fa ?_);refine zi hb7 (zq (st.at (i:=0) rfl).2.2 rfl ?_);obtain ⟨v8,e9,hF⟩:=zm hF;refine zi hb7 (zI st (ct144 N e9 st.d st.sub ) (fun n10 st=>?_));refine zG hb7 ?_;refine za ?_
  rcases Bool.eq_false_or_eq_true v8 with hb11 | hb11
  ·have hF:=zw hb11 hF;refine zi hb11 (zK (vs:=[(i64 a1_0),(i64 a1_1)]) (st.at (i:=1) rfl).2.2 rfl ?_);refine zi hb11 (v_fa ?_);refine zi hb11 (zq (st.at (i:=0) rfl).2.2 rfl ?_);obtain ⟨v12,e13,hF⟩:=zm hF;refine zi hb11 (zI st (ct144 N e13 st.d st.sub ) (fun n14 st=>?_));refine zG hb11 ?_;refine za ?_;refine zf (th_n ?_);refine zu ?_;obtain rfl:=inj hF
   exact zD st (Res.t gA Res.nil) rfl rfl
  ·have hF:=zx hb11 hF;refine ze hb11 ?_;refine ze hb11 ?_;refine ze hb11 ?_;refine ze hb11 ?_;refine zC hb11 ?_;refine za ?_;refine zf (th_n ?_);refine zu ?_;obtain rfl:=inj hF
   exact zD st (Res.t gA Res.nil) rfl rfl
 ·have hF:=zx hb7 hF;refine ze hb7 ?_;refine ze hb7 ?_;refine ze hb7 ?_;refine ze hb7 ?_;refine zC hb7 ?_;refine za ?_;refine ze rfl ?_;refine ze rfl ?_;refine ze rfl ?_;refine ze rfl ?_;refine zC rfl ?_;refine za ?_;refine zf (th_n ?_);refine zu ?_;obtain rfl:=inj hF
  exact zD st (Res.t gA Res.nil) rfl rfl
end Go.Hx.V

namespace Go.Hx.V
open Go.Hx
set_option maxRecDepth 20000
set_option maxHeartbeats 4000000
variable {fl : Nat} {h0 : Tr HBlk} {n0 : Nat} {F0 : PH}
attribute [local irreducible] W R C thenH inBlockH Tr.get Tr.set lo ck bnd ix iter
theorem ct141 (N:Nat) {a0:(List (Int × Int))} {a1 r:Int} (hF:sf141 N a0 a1 = some r) (hd:D h0 n0) (hs:F0.sub h0) {pa0:Option (Nat × Nat)} {ca0:Nat} (ra0:RowF (rP rI rI) 2 F0 pa0 ca0 a0):C LW fl 141 [(.slice pa0 (a0).length ca0),(i64 a1)] ⟨h0,n0⟩ (KS (i64 r) n0 h0):=by
 unfold sf141 at hF
 refine z8 hd hs lw141 rfl rfl (by rfl) (fun st T hT=>?_)
 have hfl:n0 ≤ n0:=Nat.le_refl n0
 have t0:=hT 0 _ rfl
 have t1:=hT 1 _ rfl
 dsimp only [L141]
 have st:=st.mk0
 refine zg (zh ?_);refine zW st (fun b1 h2 n3 st=>?_);refine za ?_;refine zf (th_n ?_);refine zg (zh ?_);refine zM st (fun b4 h5 n6 st=>?_);refine v_st (cs':=[(i64 0)]) st 2 rfl rfl rfl rfl hfl (fun h7 st=>?_);refine zf (th_n ?_);refine zg ?_;refine zg (zh ?_);refine za ?_;refine zq (st.at (i:=1) rfl).2.2 rfl ?_;refine kq lw159 rfl rfl (fun T hT=>?_)
 have t0:=hT 0 _ rfl
 have t1:=hT 1 _ rfl
 dsimp only [L159]
 refine zg (zh ?_);refine zW st (fun b9 h10 n11 st=>?_);refine zW st (fun b12 h13 n14 st=>?_);refine za ?_;refine zf (th_n ?_);refine zg (zh ?_);refine v_mf ?_;refine za ?_;refine zf (th_n ?_);refine zu ?_;refine y4 (v:=(.func 171 [] [(.ptr (some (b9,0))),(.ptr (some (b12,0)))])) (Res.t gA Res.nil) rfl (.inl rfl) (ik ?_);refine zf (th_n ?_);refine zE ?_;refine w_rangeV st 0 rfl hfl lw171 rfl rfl (fun l=>rfl) (fun m15 l15 r15 T h15 n15 rs15 rp15 rn15 rT15 ro15 ra15 rb15 st hT=>?_);obtain ⟨T15,rt15⟩:∃ X,X = r15.tmps:=⟨_,rfl⟩
 have u15_3:T15.get 3 = some (.ptr (some (b1,0))):=by rw [rt15,rT15];repeat first | exact ge_h | refine ge_w rfl ?_ | refine ge_f rfl ?_ | refine ge_m rfl ?_ | assumption
 have u15_5:T15.get 5 = some (.ptr (some (b4,0))):=by rw [rt15,rT15];repeat first | exact ge_h | refine ge_w rfl ?_ | refine ge_f rfl ?_ | refine ge_m rfl ?_ | assumption
 have t0:=hT 0 _ rfl
 have t1:=hT 1 _ rfl
 have t2:=hT 2 _ rfl
 dsimp only [L171]
 refine zg (zh ?_);refine za ?_;refine zf (th_n ?_);refine zE ?_;obtain ⟨y64,hy,hF⟩:=zm hF;refine z5 (sf141_L1 N a0 a1) (fun x16 T ds17 h nx=>∃ (F17:PH),ds17 = [] ∧ PH.le F0 F17 ∧ St n0 h0 F0 F17 h nx [.mks (m15 :: []),.bx b1 [(i64 a1)],.bx b4 [(i64 x16.2)],.bx b9 [(.slice pa0 (a0).length ca0)],.bx b12 [(i64 a1)],.any l15 (.loop r15)] ∧ T.get 0 = some (.yield l15) ∧ T.get 1 = some (.ptr (some (b9,0))) ∧ T.get 2 = some (.ptr (some (b12,0))) ∧ T.get 4 = some (i64 x16.1)) (fun y e a σ=>e = .exit 0 ∧ a.nt = 36 ∧ ∃ (F65:PH),a.defers = [] ∧ PH.le F0 F65 ∧ St n0 h0 F0 F65 σ.h σ.nx [.mks (m15 :: []),.bx b1 [(i64 a1)],.bx b4 [(i64 y)],.bx b9 [(.slice pa0 (a0).length ca0)],.bx b12 [(i64 a1)],.any l15 (.loop r15)]) (fun x16 T ds17 h nx s hp hF=>?_) N _ y64 _ _ _ _ hy ⟨F0,rfl,(PH.le.refl _),st,gA,gA,gA,gA⟩ (fun e a σ hne hq=>?_)
 ·obtain ⟨F17,rfl,le17,st,t0,t1,t2,t4⟩:=hp;unfold sf141_L1 at hF;unfold L171w0;refine zg ?_;refine zg (zh ?_);refine za ?_;refine zq (st.at (i:=3) rfl).2.2 rfl ?_;refine yA ?_;refine yg ?_;refine zf (th_n ?_);refine zB (fun hb66=>?_) (fun hb66=>?_)
  ·have hF:=zw hb66 hF;refine zA (th_n ?_);refine zg ?_;refine zE ?_;refine zg (zh ?_);refine zq (st.at (i:=3) rfl).2.2 rfl ?_;refine za ?_;obtain ⟨q67,hF⟩:=zj hF;refine yq q67 ?_;refine za ?_;obtain ⟨q68,hF⟩:=zj hF;refine zO q68 ?_;obtain ⟨q69,hF⟩:=zj hF
   refine v_slf (m:=((a0.drop (Int.toNat (x16.1 - (1:Int)))).take ((Int.toNat (x16.1+(1:Int))) - (Int.toNat (x16.1 - (1:Int))))).length) (Int.toNat (x16.1 - (1:Int))) (Int.toNat (x16.1+(1:Int))) ra0 (YU (by first | exact ev_c | (apply ev_t;repeat first | exact ge_h | refine ge_w rfl ?_ | refine ge_f rfl ?_ | refine ge_m rfl ?_ | assumption)) (Int.toNat_of_nonneg q69.1).symm) (YU (by first | exact ev_c | (apply ev_t;repeat first | exact ge_h | refine ge_w rfl ?_ | refine ge_f rfl ?_ | refine ge_m rfl ?_ | assumption)) (Int.toNat_of_nonneg q69.2.1).symm) q69.2.2 (sl_len q69.2.2.2) (fun p69 c69 n70 hn' rs69=>?_)
   have st:=st.up hn'
   obtain ⟨v71,e72,hF⟩:=zm hF;refine zI st (ct140 N e72 st.d st.sub (RowF.mono le17 rs69)) (fun n73 st=>?_);refine zM st (fun b74 h75 n76 st=>?_);refine v_st (cs':=[(i64 v71.1),(i64 v71.2)]) st 6 rfl rfl rfl rfl hfl (fun h77 st=>?_);refine zf (th_n ?_);refine zg ?_;refine zV (Nat.le_trans hfl st.ext.le) (fun dw=>?_);refine zd st.d dw (fun hm vw=>zK (vs:=[(i64 v71.1),(i64 v71.2)]) (vw.bx (st.at (i:=6) rfl)) rfl zb) ?_;refine zd st.d dw (fun hm vw=>zq (vw.bx (st.at (i:=4) rfl)) rfl zb) ?_;obtain ⟨v78,e79,hF⟩:=zm hF;refine yj st.d dw (fun hm vw=>yl (ct144 N e79 vw.d (vw.sub st) ) (fun n' hn'=>yk hn')) (fun n80 hn' dw=>?_)
   refine zd st.d dw (fun hm vw=>za zb) ?_
   rcases Bool.eq_false_or_eq_true v78 with hb81 | hb81
   ·have hF:=zw hb81 hF;refine zd st.d dw (fun hm vw=>zi hb81 (za zb)) ?_;refine zd st.d dw (fun hm vw=>zi hb81 (zq (vw.bx (st.at (i:=3) rfl)) rfl zb)) ?_;refine zd st.d dw (fun hm vw=>zi hb81 (za zb)) ?_;obtain ⟨q82,hF⟩:=zj hF;refine zd st.d dw (fun hm vw=>zi hb81 (yq q82 zb)) ?_;obtain ⟨n83,x83,z83,l83,g83,hF⟩:=zZ hF;obtain ⟨b83,o83,s83,j83,r83,e83,f83,k83,⟨_,_,rfl,rfl,rfl⟩⟩:=RowF.get ra0 g83;refine zd st.d dw (fun hm vw=>zi hb81 (yt e83 z83 l83 zb)) ?_;refine zd st.d dw (fun hm vw=>zi hb81 (zK (vw.fz st (le17 _ _ f83)) k83 zb)) ?_;refine zd st.d dw (fun hm vw=>zi hb81 (zq (vw.bx (st.at (i:=3) rfl)) rfl zb)) ?_
    refine zd st.d dw (fun hm vw=>zi hb81 (za zb)) ?_;obtain ⟨n84,x84,z84,l84,g84,hF⟩:=zZ hF;obtain ⟨b84,o84,s84,j84,r84,e84,f84,k84,⟨_,_,rfl,rfl,rfl⟩⟩:=RowF.get ra0 g84;refine zd st.d dw (fun hm vw=>zi hb81 (yt e84 z84 l84 zb)) ?_;refine zd st.d dw (fun hm vw=>zi hb81 (zK (vw.fz st (le17 _ _ f84)) k84 zb)) ?_;refine ye st.d dw rfl (fun h85 ex vs=>?_)
    have st:=st.ext1 ex
    refine zi hb81 (v_yield (Tc:=T15) (tmps:=((T15.set 12 (some (.agg [(i64 x83.1),(i64 x83.2)]))).set 13 (some (.agg [(i64 x84.1),(i64 x84.2)])))) st 5 rfl rn15 rt15.symm ro15 ra15 rb15 (fun hz=>?_) rfl);refine zg (zh ?_);refine zM st (fun b86 h87 n88 st=>?_);refine v_st (cs':=[(i64 x83.1),(i64 x83.2)]) st 7 rfl rfl rfl rfl hfl (fun h89 st=>?_);refine zf (th_n ?_);refine zh ?_;refine zM st (fun b90 h91 n92 st=>?_);refine v_st (cs':=[(i64 x84.1),(i64 x84.2)]) st 8 rfl rfl rfl rfl hfl (fun h93 st=>?_);refine zf ?_;refine ya_n st 5 rfl rs15 hfl (fun h st=>?_);refine zE ?_;refine zg ?_;refine zh ?_
    refine v_fa ?_;refine zq (st.at (i:=8) rfl).2.2 rfl ?_;refine v_fa ?_;refine zq (st.at (i:=7) rfl).2.2 rfl ?_;obtain ⟨q94,hF⟩:=zj hF;refine yq q94 ?_;refine zq (st.at (i:=1) rfl).2.2 rfl ?_;refine v_fa ?_;refine zq (st.at (i:=7) rfl).2.2 rfl ?_;obtain ⟨q95,hF⟩:=zj hF;refine yq q95 ?_;obtain ⟨q96,hF⟩:=zj hF;refine yL q96 ?_;refine v_fa ?_;refine zq (st.at (i:=8) rfl).2.2 rfl ?_;refine v_fa ?_;refine zq (st.at (i:=7) rfl).2.2 rfl ?_;obtain ⟨q97,hF⟩:=zj hF;refine yq q97 ?_;refine zR (cs:=[(i64 ((x84.2 - x83.2) * (a1 - x83.1))),(i64 (x84.1 - x83.1))]) rfl ?_;refine zM st (fun b98 h99 n100 st=>?_)
    refine v_st (cs':=[(i64 ((x84.2 - x83.2) * (a1 - x83.1))),(i64 (x84.1 - x83.1))]) st 9 rfl rfl rfl rfl hfl (fun h101 st=>?_);refine zf (th_n ?_);refine zV (Nat.le_trans hfl st.ext.le) (fun dw=>?_);refine zd st.d dw (fun hm vw=>v_fa zb) ?_;refine zd st.d dw (fun hm vw=>zq (vw.bx (st.at (i:=7) rfl)) rfl zb) ?_;refine zd st.d dw (fun hm vw=>zK (vs:=[(i64 ((x84.2 - x83.2) * (a1 - x83.1))),(i64 (x84.1 - x83.1))]) (vw.bx (st.at (i:=9) rfl)) rfl zb) ?_;obtain ⟨v102,e103,hF⟩:=zm hF;refine yj st.d dw (fun hm vw=>yl (ct160 N e103 vw.d (vw.sub st) ) (fun n' hn'=>yk hn')) (fun n104 hn' dw=>?_);refine ye st.d dw rfl (fun h105 ex vs=>?_)
    have st:=st.ext1 ex
    obtain ⟨q106,hF⟩:=zj hF;refine zO q106 ?_;refine v_st (cs':=[(i64 (x83.2+v102))]) st 2 rfl rfl rfl rfl hfl (fun h107 st=>?_);refine zf ?_;refine ib_n ?_;refine yb_n st 5 rfl rs15 rp15 (fun h st=>?_);refine zi hb81 (yo ?_);refine zG hb81 ?_;refine zf (th_n ?_);refine zB (fun hq108=>?_) (fun hq108=>?_)
    ·exact absurd hq108 (by rw [(congrArg (!·) rfl)];decide)
    ·refine zA ?_;refine ib_n ?_;refine th_n ?_;refine zh ?_;refine za ?_;obtain ⟨q109,hF⟩:=zj hF;refine zO q109 ?_;refine za ?_;refine zf ?_;refine thn ⟨_,(inj hF).symm,rfl,?_⟩;dsimp only
     exact ⟨F17,rfl,le17,(st.drop (by first | exact List.Sublist.refl _ | (repeat first | exact List.nil_sublist _ | refine List.Sublist.cons_cons _ ?_ | refine List.Sublist.cons _ ?_))),gA,gA,gA,gA⟩
   ·have hF:=zx hb81 hF;refine zd st.d dw (fun hm vw=>ze hb81 zb) ?_;refine zd st.d dw (fun hm vw=>ze hb81 zb) ?_;refine zd st.d dw (fun hm vw=>ze hb81 zb) ?_;refine zd st.d dw (fun hm vw=>ze hb81 zb) ?_;refine zd st.d dw (fun hm vw=>ze hb81 zb) ?_;refine zd st.d dw (fun hm vw=>ze hb81 zb) ?_;refine zd st.d dw (fun hm vw=>ze hb81 zb) ?_;refine zd st.d dw (fun hm vw=>ze hb81 zb) ?_;refine zd st.d dw (fun hm vw=>ze hb81 zb) ?_;refine zd st.d dw (fun hm vw=>ze hb81 zb) ?_;refine ye st.d dw rfl (fun h110 ex vs=>?_)
    have st:=st.ext1 ex
    refine ze hb81 ?_;refine ze hb81 ?_;refine zC hb81 ?_;refine zf (th_n ?_);refine v_cf ?_;refine zA ?_;refine ib_n ?_;refine th_n ?_;refine zh ?_;refine za ?_;obtain ⟨q111,hF⟩:=zj hF;refine zO q111 ?_;refine za ?_;refine zf ?_;refine thn ⟨_,(inj hF).symm,rfl,?_⟩;dsimp only
    exact ⟨F17,rfl,le17,(st.drop (by first | exact List.Sublist.refl _ | (repeat first | exact List.nil_sublist _ | refine List.Sublist.cons_cons _ ?_ | refine List.Sublist.cons _ ?_))),gA,gA,gA,gA⟩
  ·have hF:=zx hb66 hF;refine ya ?_;refine th_e ?_;refine th_e ?_;refine ⟨_,(inj hF).symm,rfl,rfl,?_⟩;dsimp only
   exact ⟨F17,rfl,le17,st⟩
 ·obtain ⟨N9,T,ds65⟩:=a;obtain ⟨h112,n113⟩:=σ;obtain ⟨rfl,e1,F65,e2,le65,st⟩:=hq
  dsimp only at e1 e2
  subst e1
  subst e2
  dsimp only at st
  refine ib_e ?_
  refine Y2 st 5 rfl (by rw [rs15];exact fun e=>by cases e) rp15 hfl (.inr rfl) (fun h st=>?_)
  have st:=st.drop (List.eraseIdx_sublist _ 5)
  refine ib_n ?_;refine th_n ?_;refine zg (zh ?_);refine zq (st.at (i:=2) rfl).2.2 rfl ?_;refine za ?_;refine zf (th_n ?_);refine zu ?_;obtain rfl:=inj hF
  exact end_sM st 0 rfl (.inl rfl) [(i64 y64)] (fun h st=>(Res.t gA Res.nil)) rfl rfl
theorem ct102 (N:Nat) {a0_0 a0_1 a1_0 a1_1:Int} {r:Bool} (hF:sf102 N a0_0 a0_1 a1_0 a1_1 = some r) (hd:D h0 n0) (hs:F0.sub h0):C LW fl 102 [(.agg [(i64 a0_0),(i64 a0_1)]),(.agg [(i64 a1_0),(i64 a1_1)])] ⟨h0,n0⟩ (KS (.bool r) n0 h0):=by
 unfold sf102 at hF
 refine z8 hd hs lw102 rfl rfl (by rfl) (fun st T hT=>?_)
 have hfl:n0 ≤ n0:=Nat.le_refl n0
 have t0:=hT 0 _ rfl
 have t1:=hT 1 _ rfl
 dsimp only [L102]
 refine zg (zh ?_);refine zW st (fun b1 h2 n3 st=>?_);refine zW st (fun b4 h5 n6 st=>?_);refine za ?_;refine zf (th_n ?_);refine zg (zh ?_);refine v_fa ?_;refine zq (st.at (i:=0) rfl).2.2 rfl ?_;refine v_fa ?_;refine zq (st.at (i:=0) rfl).2.2 rfl ?_;refine yx ?_;refine za ?_
 rcases Bool.eq_false_or_eq_true (decide (a0_0 ≤ a0_1)) with hb7 | hb7
 ·have hF:=zw hb7 hF;refine zi hb7 (zK (vs:=[(i64 a1_0),(i64 a1_1)]) (st.at (i:=1) rfl).2.2 rfl ?_);refine zi hb7 (v_fa ?_);refine zi hb7 (zq (st.at (i:=0) rfl).2.2 rfl ?_);obtain ⟨v8,e9,hF⟩:=zm hF;refine zi hb7 (zI st (ct110 N e9 st.d st.sub ) (fun n10 st=>?_));refine zG hb7 ?_;refine za ?_
  rcases Bool.eq_false_or_eq_true v8 with hb11 | hb11
  ·have hF:=zw hb11 hF;refine zi hb11 (zK (vs:=[(i64 a1_0),(i64 a1_1)]) (st.at (i:=1) rfl).2.2 rfl ?_);refine zi hb11 (v_fa ?_);refine zi hb11 (zq (st.at (i:=0) rfl).2.2 rfl ?_);obtain ⟨v12,e13,hF⟩:=zm hF;refine zi hb11 (zI st (ct110 N e13 st.d st.sub ) (fun n14 st=>?_));refine zG hb11 ?_;refine za ?_;refine zf (th_n ?_);refine zu ?_;obtain rfl:=inj hF
   exact zD st (Res.t gA Res.nil) rfl rfl
  ·have hF:=zx hb11 hF;refine ze hb11 ?_;refine ze hb11 ?_;refine ze hb11 ?_;refine ze hb11 ?_;refine zC hb11 ?_;refine za ?_;refine zf (th_n ?_);refine zu ?_;obtain rfl:=inj hF
   exact zD st (Res.t gA Res.nil) rfl rfl
 ·have hF:=zx hb7 hF;refine ze hb7 ?_;refine ze hb7 ?_;refine ze hb7 ?_;refine ze hb7 ?_;refine zC hb7 ?_;refine za ?_;refine ze rfl ?_;refine ze rfl ?_;refine ze rfl ?_;refine ze rfl ?_;refine zC rfl ?_;refine za ?_;refine zf (th_n ?_);refine zu ?_;obtain rfl:=inj hF
  exact zD st (Res.t gA Res.nil) rfl rfl
theorem ct142 (N:Nat) {a0_0 a0_1 a1_0 a1_1:Int} {r:(Int × Int)} (hF:sf142 N a0_0 a0_1 a1_0 a1_1 = some r) (hd:D h0 n0) (hs:F0.sub h0):C LW fl 142 [(.agg [(i64 a0_0),(i64 a0_1)]),(.agg [(i64 a1_0),(i64 a1_1)])] ⟨h0,n0⟩ (KS (.agg [(i64 r.1),(i64 r.2)]) n0 h0):=by
 unfold sf142 at hF
 refine z8 hd hs lw142 rfl rfl (by rfl) (fun st T hT=>?_)
 have hfl:n0 ≤ n0:=Nat.le_refl n0
 have t0:=hT 0 _ rfl
 have t1:=hT 1 _ rfl
 dsimp only [L142]
 refine zg (zh ?_);refine zW st (fun b1 h2 n3 st=>?_);refine zW st (fun b4 h5 n6 st=>?_);refine zM st (fun b7 h8 n9 st=>?_);refine zf (th_n ?_);refine zg (zh ?_);obtain ⟨v10,e11,hF⟩:=zm hF;refine zI st (ct161 N e11 st.d st.sub ) (fun n12 st=>?_);refine zM st (fun b13 h14 n15 st=>?_);refine v_st (cs':=[(.func 107 [] []),(.func 172 [] [])]) st 3 rfl rfl rfl rfl hfl (fun h16 st=>?_);refine zf (th_n ?_);refine zg ?_;refine zV (Nat.le_trans hfl st.ext.le) (fun dw=>?_)
 have wf:=Wf.start st
 refine zd st.d dw (fun hm vw=>v_fa zb) ?_;refine zd st.d dw (fun hm vw=>zq (vw.bx (st.at (i:=3) rfl)) rfl zb) ?_;refine zd st.d dw (fun hm vw=>zK (vs:=[(i64 a0_0),(i64 a0_1)]) (vw.bx (st.at (i:=0) rfl)) rfl zb) ?_;obtain ⟨v17,e18,hF⟩:=zm hF;refine yj st.d dw (fun hm vw=>yl (ct107 N e18 vw.d (FF.sub wf st vw) ) (fun n' hn'=>yk hn')) (fun n19 hn' dw=>?_);refine zd st.d dw (fun hm vw=>v_fa zb) ?_;refine zd st.d dw (fun hm vw=>zq (vw.bx (st.at (i:=3) rfl)) rfl zb) ?_;refine zd st.d dw (fun hm vw=>zK (vs:=[(i64 a1_0),(i64 a1_1)]) (vw.bx (st.at (i:=1) rfl)) rfl zb) ?_;refine ye st.d dw rfl (fun h20 ex vs=>?_)
 have st:=st.ext1 ex
 obtain ⟨v21,e22,hF⟩:=zm hF;refine zI st (ct172 N e22 st.d st.sub ) (fun n23 st=>?_);refine zR (cs:=[(i64 v17),(i64 v21)]) rfl ?_;refine v_st (cs':=[(i64 v17),(i64 v21)]) st 2 rfl rfl rfl rfl hfl (fun h24 st=>?_);refine zf (th_n ?_);refine zu ?_;obtain rfl:=inj hF
 exact zD st (Res.c gA (st.at (i:=2) rfl).2.2 (show takeN _ _ = some [(i64 v17),(i64 v21)] from rfl) Res.nil) rfl rfl
theorem ct75 (N:Nat) {a0:Int} {r:Bool} (hF:sf75 N a0 = some r) (hd:D h0 n0) (hs:F0.sub h0):C LW fl 75 [(i64 a0)] ⟨h0,n0⟩ (KS (.bool r) n0 h0):=by
 unfold sf75 at hF
 refine z8 hd hs lw75 rfl rfl (by rfl) (fun st T hT=>?_)
 have hfl:n0 ≤ n0:=Nat.le_refl n0
 have t0:=hT 0 _ rfl
 dsimp only [L75]
 refine zg (zh ?_);refine za ?_;refine zf (th_n ?_);refine zg (zh ?_);obtain ⟨v1,e2,hF⟩:=zm hF;refine zI st (ct103 N e2 st.d st.sub ) (fun n3 st=>?_);refine za ?_;obtain ⟨v4,e5,hF⟩:=zm hF;refine zI st (ct110 N e5 st.d st.sub ) (fun n6 st=>?_);refine za ?_;refine zf (th_n ?_);refine zu ?_;obtain rfl:=inj hF
 exact zD st (Res.t gA Res.nil) rfl rfl
theorem ct124 (N:Nat) {a0_0 a0_1 a1 a2:Int} {r:Bool} (hF:sf124 N a0_0 a0_1 a1 a2 = some r) (hd:D h0 n0) (hs:F0.sub h0):C LW fl 124 [(.agg [(i64 a0_0),(i64 a0_1)]),(i64 a1),(i64 a2)] ⟨h0,n0⟩ (KS (.bool r) n0 h0):=by
 unfold sf124 at hF
 refine z8 hd hs lw124 rfl rfl (by rfl) (fun st T hT=>?_)
 have hfl:n0 ≤ n0:=Nat.le_refl n0
 have t0:=hT 0 _ rfl
 have t1:=hT 1 _ rfl
 have t2:=hT 2 _ rfl
 dsimp only [L124]
 refine zg (zh ?_);refine zW st (fun b1 h2 n3 st=>?_);refine za ?_;refine zf (th_n ?_);refine zg (zh ?_);refine v_fa ?_;refine zq (st.at (i:=0) rfl).2.2 rfl ?_;refine za ?_;refine v_fa ?_;refine zq (st.at (i:=0) rfl).2.2 rfl ?_;obtain ⟨v4,e5,hF⟩:=zm hF;refine zI st (ct98 N e5 st.d st.sub ) (fun n6 st=>?_);refine za ?_
 rcases Bool.eq_false_or_eq_true v4 with hb7 | hb7
 ·have hF:=zw hb7 hF;refine zi hb7 (v_fa ?_);refine zi hb7 (zq (st.at (i:=0) rfl).2.2 rfl ?_);refine zi hb7 (za ?_);refine zi hb7 (yx ?_);refine zG hb7 ?_;refine za ?_;refine zf (th_n ?_);refine zu ?_;obtain rfl:=inj hF
  exact zD st (Res.t gA Res.nil) rfl rfl
 ·have hF:=zx hb7 hF;refine ze hb7 ?_;refine ze hb7 ?_;refine ze hb7 ?_;refine ze hb7 ?_;refine zC hb7 ?_;refine za ?_;refine zf (th_n ?_);refine zu ?_;obtain rfl:=inj hF
  exact zD st (Res.t gA Res.nil) rfl rfl
end Go.Hx.V

namespace Go.Hx.V
open Go.Hx
set_option maxRecDepth 20000
set_option maxHeartbeats 4000000
variable {fl : Nat} {h0 : Tr HBlk} {n0 : Nat} {F0 : PH}
attribute [local irreducible] W R C thenH inBlockH Tr.get Tr.set lo ck bnd ix iter
theorem ct85 (N:Nat) {a0:(List (Int × Int))} {r:Bool} (hF:sf85 N a0 = some r) (hd:D h0 n0) (hs:F0.sub h0) {pa0:Option (Nat × Nat)} {ca0:Nat} (ra0:RowF (rP rI rI) 2 F0 pa0 ca0 a0):C LW fl 85 [(.slice pa0 (a0).length ca0)] ⟨h0,n0⟩ (KS (.bool r) n0 h0):=by
 unfold sf85 at hF
 refine z8 hd hs lw85 rfl rfl (by rfl) (fun st T hT=>?_)
 have hfl:n0 ≤ n0:=Nat.le_refl n0
 have t0:=hT 0 _ rfl
 dsimp only [L85]
 refine zg (zh ?_);refine za ?_;refine zf (th_n ?_);refine zg ?_;refine zg (zh ?_);refine za ?_;refine zf (th_n ?_);refine zE ?_;obtain ⟨y57,hy,hF⟩:=zm hF;refine z5 (sf85_L1 N a0) (fun x1 T ds2 h nx=>∃ (F2:PH),ds2 = [] ∧ PH.le F0 F2 ∧ St n0 h0 F0 F2 h nx [] ∧ T.get 0 = some (.slice pa0 (a0).length ca0) ∧ T.get 3 = some (i64 x1)) (fun y e a σ=>(∃ u,y = (.inl u) ∧ e = .ret ∧ a.nt = 61 ∧ ∃ (F59:PH),a.defers = [] ∧ PH.le F0 F59 ∧ St n0 h0 F0 F59 σ.h σ.nx [] ∧ a.tmps.get 2 = some (.bool false)) ∨ (∃ u,y = (.inr u) ∧ e = .exit 0 ∧ a.nt = 61 ∧ ∃ (F61:PH),a.defers = [] ∧ PH.le F0 F61 ∧ St n0 h0 F0 F61 σ.h σ.nx [] ∧ a.tmps.get 0 = some (.slice pa0 (a0).length ca0))) (fun x1 T ds2 h nx s hp hF=>?_) N _ y57 _ _ _ _ hy ⟨F0,rfl,(PH.le.refl _),st,gA,gA⟩ (fun e a σ hne hq=>?_)
 ·obtain ⟨F2,rfl,le2,st,t0,t3⟩:=hp;unfold sf85_L1 at hF;unfold L85w0;refine zg ?_;refine zg (zh ?_);refine za ?_;refine za ?_;refine yA ?_;refine yg ?_;refine zf (th_n ?_);refine zB (fun hb62=>?_) (fun hb62=>?_)
  ·have hF:=zw hb62 hF;refine zA (th_n ?_);refine zg ?_;refine zE ?_;obtain ⟨y86,hA87,hF⟩:=zm hF;refine yG (fun T ds89 h nx=>∃ (F89:PH),ds89 = [] ∧ PH.le F2 F89 ∧ St n0 h0 F0 F89 h nx [] ∧ T.get 0 = some (.slice pa0 (a0).length ca0) ∧ T.get 3 = some (i64 x1) ∧ T.get 57 = some (.bool y86)) ?_ (fun T ds89 h nx hp=>?_)
   ·have hK88:=hF
    have hF:=hA87;refine zV (Nat.le_trans hfl st.ext.le) (fun dw=>?_);refine zd st.d dw (fun hm vw=>za zb) ?_;refine zd st.d dw (fun hm vw=>za zb) ?_;obtain ⟨n90,x90,z90,l90,g90,hF⟩:=zZ hF;obtain ⟨b90,o90,s90,j90,r90,e90,f90,k90,⟨_,_,rfl,rfl,rfl⟩⟩:=RowF.get ra0 g90;refine zd st.d dw (fun hm vw=>yt e90 z90 l90 zb) ?_;refine zd st.d dw (fun hm vw=>v_fa zb) ?_;refine zd st.d dw (fun hm vw=>zq (vw.fz st (le2 _ _ f90)) (yp (j:=0) k90 rfl) zb) ?_;obtain ⟨v91,e92,hF⟩:=zm hF;refine yj st.d dw (fun hm vw=>yl (ct25 N e92 vw.d (vw.sub st) ) (fun n' hn'=>yk hn')) (fun n93 hn' dw=>?_)
    refine zd st.d dw (fun hm vw=>yo zb) ?_;refine zd st.d dw (fun hm vw=>za zb) ?_
    rcases Bool.eq_false_or_eq_true (!v91) with hb94 | hb94
    ·have hF:=zw hb94 hF;refine zd st.d dw (fun hm vw=>ze hb94 zb) ?_;refine zd st.d dw (fun hm vw=>ze hb94 zb) ?_;refine zd st.d dw (fun hm vw=>ze hb94 zb) ?_;refine zd st.d dw (fun hm vw=>ze hb94 zb) ?_;refine zd st.d dw (fun hm vw=>ze hb94 zb) ?_;refine zd st.d dw (fun hm vw=>ze hb94 zb) ?_;refine zd st.d dw (fun hm vw=>ze hb94 zb) ?_;refine zd st.d dw (fun hm vw=>zG hb94 zb) ?_;refine zd st.d dw (fun hm vw=>za zb) ?_;refine zd st.d dw (fun hm vw=>ze rfl zb) ?_;refine zd st.d dw (fun hm vw=>ze rfl zb) ?_;refine zd st.d dw (fun hm vw=>ze rfl zb) ?_
     refine zd st.d dw (fun hm vw=>zF zb) ?_;refine zd st.d dw (fun hm vw=>zF zb) ?_;refine zd st.d dw (fun hm vw=>zF zb) ?_;refine zd st.d dw (fun hm vw=>zF zb) ?_;refine zd st.d dw (fun hm vw=>zF zb) ?_;refine zd st.d dw (fun hm vw=>zF zb) ?_;refine zd st.d dw (fun hm vw=>zF zb) ?_;refine zd st.d dw (fun hm vw=>zF zb) ?_;refine zd st.d dw (fun hm vw=>zF zb) ?_;refine zd st.d dw (fun hm vw=>zF zb) ?_;refine zd st.d dw (fun hm vw=>zF zb) ?_;refine zd st.d dw (fun hm vw=>zF zb) ?_;refine zd st.d dw (fun hm vw=>zF zb) ?_
     refine zd st.d dw (fun hm vw=>zF zb) ?_;refine zd st.d dw (fun hm vw=>zF zb) ?_;refine zd st.d dw (fun hm vw=>zF zb) ?_;refine zd st.d dw (fun hm vw=>zF zb) ?_;refine zd st.d dw (fun hm vw=>zF zb) ?_;refine zd st.d dw (fun hm vw=>zF zb) ?_;refine zd st.d dw (fun hm vw=>zF zb) ?_;refine zd st.d dw (fun hm vw=>zF zb) ?_;refine zd st.d dw (fun hm vw=>zF zb) ?_;refine zd st.d dw (fun hm vw=>zF zb) ?_;refine zd st.d dw (fun hm vw=>zF zb) ?_;refine ye st.d dw rfl (fun h95 ex vs=>?_)
     have st:=st.ext1 ex
     refine zF ?_;refine zF ?_;refine ze rfl ?_;refine zG rfl ?_;refine zf ?_;obtain rfl:=inj hF;refine thn ⟨rfl,?_⟩;dsimp only
     exact ⟨F2,rfl,(PH.le.refl _),st,gA,gA,gA⟩
    ·have hF:=zx hb94 hF;refine zd st.d dw (fun hm vw=>zi hb94 (za zb)) ?_;refine zd st.d dw (fun hm vw=>zi hb94 (za zb)) ?_;obtain ⟨n96,x96,z96,l96,g96,hF⟩:=zZ hF;obtain ⟨b96,o96,s96,j96,r96,e96,f96,k96,⟨_,_,rfl,rfl,rfl⟩⟩:=RowF.get ra0 g96;refine zd st.d dw (fun hm vw=>zi hb94 (yt e96 z96 l96 zb)) ?_;refine zd st.d dw (fun hm vw=>zi hb94 (v_fa zb)) ?_;refine zd st.d dw (fun hm vw=>zi hb94 (zq (vw.fz st (le2 _ _ f96)) (yp (j:=1) k96 rfl) zb)) ?_;obtain ⟨v97,e98,hF⟩:=zm hF;refine yj st.d dw (fun hm vw=>zi hb94 (yl (ct25 N e98 vw.d (vw.sub st) ) (fun n' hn'=>yk hn'))) (fun n99 hn' dw=>?_)
     refine zd st.d dw (fun hm vw=>zi hb94 (yo zb)) ?_;refine zd st.d dw (fun hm vw=>zC hb94 zb) ?_;refine zd st.d dw (fun hm vw=>za zb) ?_
     rcases Bool.eq_false_or_eq_true (!v97) with hb100 | hb100
     ·have hF:=zw hb100 hF;refine zd st.d dw (fun hm vw=>ze hb100 zb) ?_;refine zd st.d dw (fun hm vw=>ze hb100 zb) ?_;refine zd st.d dw (fun hm vw=>ze hb100 zb) ?_;refine zd st.d dw (fun hm vw=>zF zb) ?_;refine zd st.d dw (fun hm vw=>zF zb) ?_;refine zd st.d dw (fun hm vw=>zF zb) ?_;refine zd st.d dw (fun hm vw=>zF zb) ?_;refine zd st.d dw (fun hm vw=>zF zb) ?_;refine zd st.d dw (fun hm vw=>zF zb) ?_;refine zd st.d dw (fun hm vw=>zF zb) ?_;refine zd st.d dw (fun hm vw=>zF zb) ?_;refine zd st.d dw (fun hm vw=>zF zb) ?_
      refine zd st.d dw (fun hm vw=>zF zb) ?_;refine zd st.d dw (fun hm vw=>zF zb) ?_;refine zd st.d dw (fun hm vw=>zF zb) ?_;refine zd st.d dw (fun hm vw=>zF zb) ?_;refine zd st.d dw (fun hm vw=>zF zb) ?_;refine zd st.d dw (fun hm vw=>zF zb) ?_;refine zd st.d dw (fun hm vw=>zF zb) ?_;refine zd st.d dw (fun hm vw=>zF zb) ?_;refine zd st.d dw (fun hm vw=>zF zb) ?_;refine zd st.d dw (fun hm vw=>zF zb) ?_;refine zd st.d dw (fun hm vw=>zF zb) ?_;refine zd st.d dw (fun hm vw=>zF zb) ?_;refine zd st.d dw (fun hm vw=>zF zb) ?_
      refine zd st.d dw (fun hm vw=>zF zb) ?_;refine zd st.d dw (fun hm vw=>zF zb) ?_;refine ye st.d dw rfl (fun h101 ex vs=>?_)
      have st:=st.ext1 ex
      refine zF ?_;refine zF ?_;refine ze hb100 ?_;refine zG hb100 ?_;refine zf ?_;obtain rfl:=inj hF;refine thn ⟨rfl,?_⟩;dsimp only
      exact ⟨F2,rfl,(PH.le.refl _),st,gA,gA,gA⟩
     ·have hF:=zx hb100 hF;refine zd st.d dw (fun hm vw=>zi hb100 (za zb)) ?_;refine zd st.d dw (fun hm vw=>zi hb100 (vV zb)) ?_;refine zd st.d dw (fun hm vw=>zi hb100 (za zb)) ?_
      rcases Bool.eq_false_or_eq_true (decide ((0:Int) < x1)) with hb102 | hb102
      ·have hF:=zw hb102 hF;refine zd st.d dw (fun hm vw=>zi hb102 (za zb)) ?_;refine zd st.d dw (fun hm vw=>zi hb102 (za zb)) ?_;obtain ⟨n103,x103,z103,l103,g103,hF⟩:=zZ hF;obtain ⟨b103,o103,s103,j103,r103,e103,f103,k103,⟨_,_,rfl,rfl,rfl⟩⟩:=RowF.get ra0 g103;refine zd st.d dw (fun hm vw=>zi hb102 (yt e103 z103 l103 zb)) ?_;refine zd st.d dw (fun hm vw=>zi hb102 (v_fa zb)) ?_;refine zd st.d dw (fun hm vw=>zi hb102 (zq (vw.fz st (le2 _ _ f103)) (yp (j:=0) k103 rfl) zb)) ?_;refine zd st.d dw (fun hm vw=>zi hb102 (za zb)) ?_;refine zd st.d dw (fun hm vw=>zi hb102 (za zb)) ?_
       obtain ⟨q104,hF⟩:=zj hF;refine zd st.d dw (fun hm vw=>zi hb102 (yq q104 zb)) ?_;obtain ⟨n105,x105,z105,l105,g105,hF⟩:=zZ hF;obtain ⟨b105,o105,s105,j105,r105,e105,f105,k105,⟨_,_,rfl,rfl,rfl⟩⟩:=RowF.get ra0 g105;refine zd st.d dw (fun hm vw=>zi hb102 (yt e105 z105 l105 zb)) ?_;refine zd st.d dw (fun hm vw=>zi hb102 (v_fa zb)) ?_;refine zd st.d dw (fun hm vw=>zi hb102 (zq (vw.fz st (le2 _ _ f105)) (yp (j:=0) k105 rfl) zb)) ?_;refine zd st.d dw (fun hm vw=>zi hb102 (yx zb)) ?_;refine zd st.d dw (fun hm vw=>zi hb102 (za zb)) ?_
       rcases Bool.eq_false_or_eq_true (decide (x103.1 ≤ x105.1)) with hb106 | hb106
       ·have hF:=zw hb106 hF;refine zd st.d dw (fun hm vw=>ze hb106 zb) ?_;refine zd st.d dw (fun hm vw=>ze hb106 zb) ?_;refine zd st.d dw (fun hm vw=>ze hb106 zb) ?_;refine zd st.d dw (fun hm vw=>ze hb106 zb) ?_;refine zd st.d dw (fun hm vw=>ze hb106 zb) ?_;refine zd st.d dw (fun hm vw=>ze hb106 zb) ?_;refine zd st.d dw (fun hm vw=>ze hb106 zb) ?_;refine zd st.d dw (fun hm vw=>ze hb106 zb) ?_;refine zd st.d dw (fun hm vw=>ze hb106 zb) ?_;refine zd st.d dw (fun hm vw=>ze hb106 zb) ?_;refine zd st.d dw (fun hm vw=>ze hb106 zb) ?_
        refine ye st.d dw rfl (fun h107 ex vs=>?_)
        have st:=st.ext1 ex
        refine ze hb106 ?_;refine zi hb102 (zG hb106 ?_);refine zi hb100 (zG hb102 ?_);refine zC hb100 ?_;refine zf ?_;obtain rfl:=inj hF;refine thn ⟨rfl,?_⟩;dsimp only
        exact ⟨F2,rfl,(PH.le.refl _),st,gA,gA,gA⟩
       ·have hF:=zx hb106 hF;refine zd st.d dw (fun hm vw=>zi hb106 (za zb)) ?_;refine zd st.d dw (fun hm vw=>zi hb106 (za zb)) ?_;obtain ⟨n108,x108,z108,l108,g108,hF⟩:=zZ hF;obtain ⟨b108,o108,s108,j108,r108,e108,f108,k108,⟨_,_,rfl,rfl,rfl⟩⟩:=RowF.get ra0 g108;refine zd st.d dw (fun hm vw=>zi hb106 (yt e108 z108 l108 zb)) ?_;refine zd st.d dw (fun hm vw=>zi hb106 (v_fa zb)) ?_;refine zd st.d dw (fun hm vw=>zi hb106 (zq (vw.fz st (le2 _ _ f108)) (yp (j:=1) k108 rfl) zb)) ?_;refine zd st.d dw (fun hm vw=>zi hb106 (za zb)) ?_;refine zd st.d dw (fun hm vw=>zi hb106 (za zb)) ?_
        obtain ⟨q109,hF⟩:=zj hF;refine zd st.d dw (fun hm vw=>zi hb106 (yq q109 zb)) ?_;obtain ⟨n110,x110,z110,l110,g110,hF⟩:=zZ hF;obtain ⟨b110,o110,s110,j110,r110,e110,f110,k110,⟨_,_,rfl,rfl,rfl⟩⟩:=RowF.get ra0 g110;refine zd st.d dw (fun hm vw=>zi hb106 (yt e110 z110 l110 zb)) ?_;refine zd st.d dw (fun hm vw=>zi hb106 (v_fa zb)) ?_;refine zd st.d dw (fun hm vw=>zi hb106 (zq (vw.fz st (le2 _ _ f110)) (yp (j:=1) k110 rfl) zb)) ?_;refine ye st.d dw rfl (fun h111 ex vs=>?_)
        have st:=st.ext1 ex
        refine zi hb106 (yx ?_);refine zi hb102 (zC hb106 ?_);refine zi hb100 (zG hb102 ?_);refine zC hb100 ?_;refine zf ?_;obtain rfl:=inj hF;refine thn ⟨rfl,?_⟩;dsimp only
        exact ⟨F2,rfl,(PH.le.refl _),st,gA,gA,gA⟩
      ·have hF:=zx hb102 hF;refine zd st.d dw (fun hm vw=>ze hb102 zb) ?_;refine zd st.d dw (fun hm vw=>ze hb102 zb) ?_;refine zd st.d dw (fun hm vw=>ze hb102 zb) ?_;refine zd st.d dw (fun hm vw=>ze hb102 zb) ?_;refine zd st.d dw (fun hm vw=>ze hb102 zb) ?_;refine zd st.d dw (fun hm vw=>ze hb102 zb) ?_;refine zd st.d dw (fun hm vw=>ze hb102 zb) ?_;refine zd st.d dw (fun hm vw=>ze hb102 zb) ?_;refine zd st.d dw (fun hm vw=>ze hb102 zb) ?_;refine zd st.d dw (fun hm vw=>ze hb102 zb) ?_;refine zd st.d dw (fun hm vw=>ze hb102 zb) ?_
       refine zd st.d dw (fun hm vw=>ze hb102 zb) ?_;refine zd st.d dw (fun hm vw=>ze hb102 zb) ?_;refine zd st.d dw (fun hm vw=>zF zb) ?_;refine zd st.d dw (fun hm vw=>zF zb) ?_;refine zd st.d dw (fun hm vw=>zF zb) ?_;refine zd st.d dw (fun hm vw=>zF zb) ?_;refine zd st.d dw (fun hm vw=>zF zb) ?_;refine zd st.d dw (fun hm vw=>zF zb) ?_;refine zd st.d dw (fun hm vw=>zF zb) ?_;refine zd st.d dw (fun hm vw=>zF zb) ?_;refine zd st.d dw (fun hm vw=>zF zb) ?_;refine zd st.d dw (fun hm vw=>zF zb) ?_;refine zd st.d dw (fun hm vw=>zF zb) ?_
       refine ye st.d dw rfl (fun h112 ex vs=>?_)
       have st:=st.ext1 ex
       refine zF ?_;refine ze hb102 ?_;refine zi hb100 (zC hb102 ?_);refine zC hb100 ?_;refine zf ?_;obtain rfl:=inj hF;refine thn ⟨rfl,?_⟩;dsimp only
       exact ⟨F2,rfl,(PH.le.refl _),st,gA,gA,gA⟩
   ·obtain ⟨F89,rfl,le89,st,t0,t3,t57⟩:=hp
    have le113:=PH.le.trans le2 le89
    refine zB (fun hb114=>?_) (fun hb114=>?_)
    ·have hF:=zw hb114 hF;refine zg (zh ?_);refine za ?_;refine zf (th_n ?_);refine zu ?_;refine ib_r ?_;refine th_r ?_;refine th_r ?_;refine ⟨_,(inj hF).symm,.inl ⟨_,rfl,rfl,rfl,?_⟩⟩;dsimp only
     exact ⟨F89,rfl,le113,st,gA⟩
    ·have hF:=zx hb114 hF;refine zA ?_;refine ib_n ?_;refine th_n ?_;refine zh ?_;refine za ?_;obtain ⟨q115,hF⟩:=zj hF;refine zO q115 ?_;refine za ?_;refine zf ?_;refine thn ⟨_,(inj hF).symm,rfl,?_⟩;dsimp only
     exact ⟨F89,rfl,le113,st,gA,gA⟩
  ·have hF:=zx hb62 hF;refine ya ?_;refine th_e ?_;refine th_e ?_;refine ⟨_,(inj hF).symm,.inr (⟨_,rfl,rfl,rfl,?_⟩)⟩;dsimp only
   exact ⟨F2,rfl,le2,st,gA⟩
 ·rcases hq with hq | hq
  ·obtain ⟨N9,T,ds59⟩:=a;obtain ⟨h116,n117⟩:=σ;obtain ⟨w58,rfl,rfl,e1,F59,e2,le59,st,t2⟩:=hq
   dsimp only at e1 e2
   subst e1
   subst e2
   dsimp only at st t2
   have hF:=vg hF;refine ib_r ?_;refine th_r ?_;obtain rfl:=inj hF
   exact zD st (Res.t gA Res.nil) rfl rfl
  ·obtain ⟨N9,T,ds61⟩:=a;obtain ⟨h118,n119⟩:=σ;obtain ⟨w60,rfl,rfl,e1,F61,e2,le61,st,t0⟩:=hq
   dsimp only at e1 e2
   subst e1
   subst e2
   dsimp only at st t0
   have hF:=ve hF;refine ib_e ?_;refine th_n ?_;refine zg (zh ?_);refine za ?_;refine yA ?_;refine uq ?_;refine za ?_;refine zf (th_n ?_);refine zu ?_;obtain rfl:=inj hF
   exact zD st (Res.t gA Res.nil) rfl rfl
theorem ct86 (N:Nat) {a0_0 a0_1 a1 a2:Int} {r:Bool} (hF:sf86 N a0_0 a0_1 a1 a2 = some r) (hd:D h0 n0) (hs:F0.sub h0):C LW fl 86 [(.agg [(i64 a0_0),(i64 a0_1)]),(i64 a1),(i64 a2)] ⟨h0,n0⟩ (KS (.bool r) n0 h0):=by
 unfold sf86 at hF
 refine z8 hd hs lw86 rfl rfl (by rfl) (fun st T hT=>?_)
 have hfl:n0 ≤ n0:=Nat.le_refl n0
 have t0:=hT 0 _ rfl
 have t1:=hT 1 _ rfl
 have t2:=hT 2 _ rfl
 dsimp only [L86]
 refine zg (zh ?_);refine zW st (fun b1 h2 n3 st=>?_);refine za ?_;refine zf (th_n ?_);refine zg (zh ?_);refine v_fa ?_;refine zq (st.at (i:=0) rfl).2.2 rfl ?_;refine za ?_;refine v_fa ?_;refine zq (st.at (i:=0) rfl).2.2 rfl ?_;obtain ⟨v4,e5,hF⟩:=zm hF;refine zI st (ct25 N e5 st.d st.sub ) (fun n6 st=>?_);refine za ?_
 rcases Bool.eq_false_or_eq_true v4 with hb7 | hb7
 ·have hF:=zw hb7 hF;refine zi hb7 (v_fa ?_);refine zi hb7 (zq (st.at (i:=0) rfl).2.2 rfl ?_);refine zi hb7 (za ?_);refine zi hb7 (yx ?_);refine zG hb7 ?_;refine za ?_;refine zf (th_n ?_);refine zu ?_;obtain rfl:=inj hF
  exact zD st (Res.t gA Res.nil) rfl rfl
 ·have hF:=zx hb7 hF;refine ze hb7 ?_;refine ze hb7 ?_;refine ze hb7 ?_;refine ze hb7 ?_;refine zC hb7 ?_;refine za ?_;refine zf (th_n ?_);refine zu ?_;obtain rfl:=inj hF
  exact zD st (Res.t gA Res.nil) rfl rfl
theorem ct27 (N:Nat) {a0_0 a0_1 a0_2 a0_3:Int} {a0_4:(List (Int × Int × Int × Int))} {a0_5:(List (Int × Int))} {a0_6 a0_7 a0_8 a0_9:Int} {r:(Int × Int)} (hF:sf27 N a0_0 a0_1 a0_2 a0_3 a0_4 a0_5 a0_6 a0_7 a0_8 a0_9 = some r) (hd:D h0 n0) (hs:F0.sub h0) {pa0_4:Option (Nat × Nat)} {ca0_4:Nat} {pa0_5:Option (Nat × Nat)} {ca0_5:Nat} (ra0_4:RowF (rP rI (rP rI (rP rI rI))) 4 F0 pa0_4 ca0_4 a0_4) (ra0_5:RowF (rP rI rI) 2 F0 pa0_5 ca0_5 a0_5):C LW fl 27 [(.agg [(i64 a0_0),(i64 a0_1),(i64 a0_2),(i64 a0_3),(.slice pa0_4 (a0_4).length ca0_4),(.slice pa0_5 (a0_5).length ca0_5),(i64 a0_6),(i64 a0_7),(i64 a0_8),(i64 a0_9)])] ⟨h0,n0⟩ (KS (.agg [(i64 r.1),(i64 r.2)]) n0 h0):=by
 unfold sf27 at hF
 refine z8 hd hs lw27 rfl rfl (by rfl) (fun st T hT=>?_)
 have hfl:n0 ≤ n0:=Nat.le_refl n0
 have t0:=hT 0 _ rfl
 dsimp only [L27]
 refine zg (zh ?_);refine zW st (fun b1 h2 n3 st=>?_);refine zM st (fun b4 h5 n6 st=>?_);refine zf (th_n ?_);refine zg ?_;refine zV (Nat.le_trans hfl st.ext.le) (fun dw=>?_);refine zd st.d dw (fun hm vw=>v_fa zb) ?_;refine zd st.d dw (fun hm vw=>zq (vw.bx (st.at (i:=0) rfl)) rfl zb) ?_;refine zd st.d dw (fun hm vw=>v_fa zb) ?_;refine zd st.d dw (fun hm vw=>v_fa zb) ?_;refine zd st.d dw (fun hm vw=>zq (vw.bx (st.at (i:=0) rfl)) rfl zb) ?_;obtain ⟨v7,e8,hF⟩:=zm hF;refine yj st.d dw (fun hm vw=>yl (ct73 N e8 vw.d (vw.sub st) ra0_5) (fun n' hn'=>yk hn')) (fun n9 hn' dw=>?_)
 refine zd st.d dw (fun hm vw=>v_fa zb) ?_;refine zd st.d dw (fun hm vw=>zq (vw.bx (st.at (i:=0) rfl)) rfl zb) ?_;refine zd st.d dw (fun hm vw=>v_fa zb) ?_;refine zd st.d dw (fun hm vw=>v_fa zb) ?_;refine zd st.d dw (fun hm vw=>zq (vw.bx (st.at (i:=0) rfl)) rfl zb) ?_;refine ye st.d dw rfl (fun h10 ex vs=>?_)
 have st:=st.ext1 ex
 obtain ⟨v11,e12,hF⟩:=zm hF;refine zI st (ct73 N e12 st.d st.sub ra0_5) (fun n13 st=>?_);refine zR (cs:=[(i64 v7),(i64 v11)]) rfl ?_;refine v_st (cs':=[(i64 v7),(i64 v11)]) st 1 rfl rfl rfl rfl hfl (fun h14 st=>?_);refine zf (th_n ?_);refine zu ?_;obtain rfl:=inj hF
 exact zD st (Res.c gA (st.at (i:=1) rfl).2.2 (show takeN _ _ = some [(i64 v7),(i64 v11)] from rfl) Res.nil) rfl rfl
end Go.Hx.V

namespace Go.Hx.V
open Go.Hx
set_option maxRecDepth 20000
set_option maxHeartbeats 4000000
variable {fl : Nat} {h0 : Tr HBlk} {n0 : Nat} {F0 : PH}
attribute [local irreducible] W R C thenH inBlockH Tr.get Tr.set lo ck bnd ix iter
theorem ct92 (N:Nat) {a0_0 a0_1 a0_2 a0_3:Int} {a1:(List Int)} {r:(List Int)} (hF:sf92 N a0_0 a0_1 a0_2 a0_3 a1 = some r) (hd:D h0 n0) (hs:F0.sub h0) (hfl:fl ≤ n0) {pa1:Option (Nat × Nat)} {ca1:Nat} (ra1:RowF (rK .u16) 1 F0 pa1 ca1 a1):C LW fl 92 [(.agg [(i64 a0_0),(i64 a0_1),(i64 a0_2),(i64 a0_3)]),(.slice pa1 (a1).length ca1)] ⟨h0,n0⟩ (KR (lvL rI 1) F0 h0 n0 r):=by
 unfold sf92 at hF
 refine vu hd hs hfl lw92 rfl rfl (by rfl) (fun st T hT=>?_)
 have t0:=hT 0 _ rfl
 have t1:=hT 1 _ rfl
 dsimp only [L92]
 refine zg (zh ?_);refine zW st (fun b1 h2 n3 st=>?_);refine za ?_;refine zf (th_n ?_);refine zg (zh ?_);refine za ?_;refine zf (th_n ?_);refine zg (zh ?_);refine v_fa ?_;refine zq (st.at (i:=0) rfl).2.2 rfl ?_;refine za ?_;refine zf (th_n ?_);refine zg ?_;refine zg (zh ?_);refine za ?_;refine zf (th_n ?_);refine zE ?_
 have st:=st.nilL 1
 have w4:LR rI 1 F0 ([]:List Int) []:=LR.nil
 obtain ⟨y30,hy,hF⟩:=zm hF;refine z5 (sf92_L1 N a0_0 a0_2 a0_3 a1) (fun x6 T ds7 h nx=>∃ (F7:PH) (o8:Option Nat) (c8:Nat) (cs8:List HV),ds7 = [] ∧ PH.le F0 F7 ∧ St n0 h0 F0 F7 h nx [.bx b1 [(i64 a0_0),(i64 a0_1),(i64 a0_2),(i64 a0_3)],.ls o8 c8 cs8 1] ∧ LR rI 1 F7 x6.1 cs8 ∧ T.get 1 = some (.slice pa1 (a1).length ca1) ∧ T.get 2 = some (.ptr (some (b1,0))) ∧ T.get 5 = some (slv o8 (x6.1).length c8) ∧ T.get 6 = some (i64 x6.2.1) ∧ T.get 7 = some (i64 x6.2.2)) (fun y e a σ=>e = .exit 0 ∧ a.nt = 65 ∧ ∃ (F31:PH) (o32:Option Nat) (c32:Nat) (cs32:List HV),a.defers = [] ∧ PH.le F0 F31 ∧ St n0 h0 F0 F31 σ.h σ.nx [.bx b1 [(i64 a0_0),(i64 a0_1),(i64 a0_2),(i64 a0_3)],.ls o32 c32 cs32 1] ∧ LR rI 1 F31 y cs32 ∧ a.tmps.get 5 = some (slv o32 (y).length c32)) (fun x6 T ds7 h nx s hp hF=>?_) N _ y30 _ _ _ _ hy ⟨F0,none,0,[],rfl,(PH.le.refl _),st,w4,gA,gA,gA,gA,gA⟩ (fun e a σ hne hq=>?_)
 ·obtain ⟨F7,o8,c8,cs8,rfl,le7,st,w8,t1,t2,t5,t6,t7⟩:=hp;unfold sf92_L1 at hF;unfold L92w0;refine zg ?_;refine zg (zh ?_);refine za ?_;refine v_fa ?_;refine zq (st.at (i:=0) rfl).2.2 rfl ?_;refine yg ?_;refine zf (th_n ?_);refine zB (fun hb33=>?_) (fun hb33=>?_)
  ·have hF:=zw hb33 hF;refine zA (th_n ?_);refine zg ?_;refine zE ?_;refine zg (zh ?_);refine v_fa ?_;refine zq (st.at (i:=0) rfl).2.2 rfl ?_;obtain ⟨q34,hF⟩:=zj hF;refine yq q34 ?_;refine za ?_;obtain ⟨q35,hF⟩:=zj hF;refine yq q35 ?_;refine za ?_;refine zf (th_n ?_);refine zg ?_;refine zV (Nat.le_trans hfl st.ext.le) (fun dw=>?_);refine zd st.d dw (fun hm vw=>v_fa zb) ?_;refine zd st.d dw (fun hm vw=>v_fa zb) ?_;refine zd st.d dw (fun hm vw=>zq (vw.bx (st.at (i:=0) rfl)) rfl zb) ?_;refine zd st.d dw (fun hm vw=>za zb) ?_;refine zd st.d dw (fun hm vw=>za zb) ?_
   refine zd st.d dw (fun hm vw=>v_fa zb) ?_;refine zd st.d dw (fun hm vw=>v_fa zb) ?_;refine zd st.d dw (fun hm vw=>zq (vw.bx (st.at (i:=0) rfl)) rfl zb) ?_;obtain ⟨q36,hF⟩:=zj hF;refine zd st.d dw (fun hm vw=>yL q36 zb) ?_;obtain ⟨q37,hF⟩:=zj hF;refine zd st.d dw (fun hm vw=>yq q37 zb) ?_;refine zd st.d dw (fun hm vw=>v_max zb) ?_;refine zd st.d dw (fun hm vw=>v_fa zb) ?_;refine zd st.d dw (fun hm vw=>v_fa zb) ?_;refine zd st.d dw (fun hm vw=>zq (vw.bx (st.at (i:=0) rfl)) rfl zb) ?_;refine zd st.d dw (fun hm vw=>za zb) ?_;refine zd st.d dw (fun hm vw=>za zb) ?_
   refine zd st.d dw (fun hm vw=>v_fa zb) ?_;refine zd st.d dw (fun hm vw=>v_fa zb) ?_;refine zd st.d dw (fun hm vw=>zq (vw.bx (st.at (i:=0) rfl)) rfl zb) ?_;obtain ⟨q38,hF⟩:=zj hF;refine zd st.d dw (fun hm vw=>yL q38 zb) ?_;obtain ⟨q39,hF⟩:=zj hF;refine zd st.d dw (fun hm vw=>yq q39 zb) ?_;refine zd st.d dw (fun hm vw=>v_min zb) ?_;refine ye st.d dw rfl (fun h40 ex vs=>?_)
   have st:=st.ext1 ex
   refine za ?_;refine za ?_;refine zf (th_n ?_);refine zg (zh ?_);refine za ?_;refine za ?_;refine za ?_;obtain ⟨v41,e42,hF⟩:=zm hF;refine zI st (ct133 N e42 st.d st.sub (RowF.mono le7 ra1)) (fun n43 st=>?_);refine za ?_;refine za ?_;obtain ⟨q44,hF⟩:=zj hF;refine yq q44 ?_;obtain ⟨q45,hF⟩:=zj hF;refine zO q45 ?_;obtain ⟨q46,hF⟩:=zj hF;refine jm q46 ?_;obtain ⟨q47,hF⟩:=zj hF;refine zO q47 ?_;refine za ?_;refine zf (th_n ?_);refine zg (zh ?_);refine za ?_;refine za ?_;refine v_bs (cs:=[(i64 ((max a0_2 (x6.2.1 - (((a0_0 - (1:Int)) - x6.2.2) * a0_3)))+(Int.tmod v41 (((min a0_3 (x6.2.1 - (((a0_0 - (1:Int)) - x6.2.2) * a0_2))) - (max a0_2 (x6.2.1 - (((a0_0 - (1:Int)) - x6.2.2) * a0_3))))+(1:Int)))))]) st rfl (fun b48 h49 n50 st=>?_)
   obtain ⟨q51,hF⟩:=zj hF
   have w51:LR rI 1 F7 (x6.1 ++ [((max a0_2 (x6.2.1 - (((a0_0 - (1:Int)) - x6.2.2) * a0_3)))+(Int.tmod v41 (((min a0_3 (x6.2.1 - (((a0_0 - (1:Int)) - x6.2.2) * a0_2))) - (max a0_2 (x6.2.1 - (((a0_0 - (1:Int)) - x6.2.2) * a0_3))))+(1:Int))))]) (cs8 ++ [(i64 ((max a0_2 (x6.2.1 - (((a0_0 - (1:Int)) - x6.2.2) * a0_3)))+(Int.tmod v41 (((min a0_3 (x6.2.1 - (((a0_0 - (1:Int)) - x6.2.2) * a0_2))) - (max a0_2 (x6.2.1 - (((a0_0 - (1:Int)) - x6.2.2) * a0_3))))+(1:Int)))))]):=LR.app w8 (LR.one (rfl))
   refine jn (n:=1) (ox:=0) (m:=(x6.1 ++ [((max a0_2 (x6.2.1 - (((a0_0 - (1:Int)) - x6.2.2) * a0_3)))+(Int.tmod v41 (((min a0_3 (x6.2.1 - (((a0_0 - (1:Int)) - x6.2.2) * a0_2))) - (max a0_2 (x6.2.1 - (((a0_0 - (1:Int)) - x6.2.2) * a0_3))))+(1:Int))))]).length) (row:=[(i64 ((max a0_2 (x6.2.1 - (((a0_0 - (1:Int)) - x6.2.2) * a0_3)))+(Int.tmod v41 (((min a0_3 (x6.2.1 - (((a0_0 - (1:Int)) - x6.2.2) * a0_2))) - (max a0_2 (x6.2.1 - (((a0_0 - (1:Int)) - x6.2.2) * a0_3))))+(1:Int)))))]) st 1 rfl w8.1 (st.at (i:=2) rfl).2.2 rfl rfl q51 hfl (by decide) (by decide) (by simp) (fun o51 c51 h51 n51 st=>?_)
   refine za ?_;refine zf (th_n ?_);refine zh ?_;refine za ?_;refine za ?_;obtain ⟨q52,hF⟩:=zj hF;refine yq q52 ?_;refine za ?_;refine zf ?_;refine ib_n ?_;refine th_n ?_;refine zh ?_;refine za ?_;obtain ⟨q53,hF⟩:=zj hF;refine zO q53 ?_;refine za ?_;refine zf ?_;refine thn ⟨_,(inj hF).symm,rfl,?_⟩;dsimp only
   exact ⟨F7,o51,c51,(cs8 ++ [(i64 ((max a0_2 (x6.2.1 - (((a0_0 - (1:Int)) - x6.2.2) * a0_3)))+(Int.tmod v41 (((min a0_3 (x6.2.1 - (((a0_0 - (1:Int)) - x6.2.2) * a0_2))) - (max a0_2 (x6.2.1 - (((a0_0 - (1:Int)) - x6.2.2) * a0_3))))+(1:Int)))))]),rfl,le7,(st.drop (by first | exact List.Sublist.refl _ | (repeat first | exact List.nil_sublist _ | refine List.Sublist.cons_cons _ ?_ | refine List.Sublist.cons _ ?_))),w51,gA,gA,gA,gA,gA⟩
  ·have hF:=zx hb33 hF;refine ya ?_;refine th_e ?_;refine th_e ?_;refine ⟨_,(inj hF).symm,rfl,rfl,?_⟩;dsimp only
   exact ⟨F7,o8,c8,cs8,rfl,le7,st,w8,gA⟩
 ·obtain ⟨N9,T,ds31⟩:=a;obtain ⟨h54,n55⟩:=σ;obtain ⟨rfl,e1,F31,o32,c32,cs32,e2,le31,st,w32,t5⟩:=hq
  dsimp only at e1 e2
  subst e1
  subst e2
  dsimp only at st t5
  refine ib_e ?_;refine th_n ?_;refine zg (zh ?_);refine za ?_;refine za ?_;refine zf (th_n ?_);refine zu ?_;obtain rfl:=inj hF
  obtain ⟨F56,le56,st,rf56⟩:=St.freeze st 1 rfl w32 (by decide)
  exact yJ st (Res.t gA Res.nil) ⟨_,_,rfl,rf56⟩
end Go.Hx.V

namespace Go.Hx.V
open Go.Hx
set_option maxRecDepth 20000
set_option maxHeartbeats 4000000
variable {fl : Nat} {h0 : Tr HBlk} {n0 : Nat} {F0 : PH}
attribute [local irreducible] W R C thenH inBlockH Tr.get Tr.set lo ck bnd ix iter
theorem ct93 (N:Nat) {a0_0 a0_1 a0_2 a0_3:Int} {a1:(List Int)} {a2:(List Int)} {r:(List (Int × Int × Int × Int))} (hF:sf93 N a0_0 a0_1 a0_2 a0_3 a1 a2 = some r) (hd:D h0 n0) (hs:F0.sub h0) (hfl:fl ≤ n0) {pa1:Option (Nat × Nat)} {ca1:Nat} {pa2:Option (Nat × Nat)} {ca2:Nat} (ra1:RowF rI 1 F0 pa1 ca1 a1) (ra2:RowF (rK .u16) 1 F0 pa2 ca2 a2):C LW fl 93 [(.agg [(i64 a0_0),(i64 a0_1),(i64 a0_2),(i64 a0_3)]),(.slice pa1 (a1).length ca1),(.slice pa2 (a2).length ca2)] ⟨h0,n0⟩ (KR (lvL (rP rI (rP rI (rP rI rI))) 4) F0 h0 n0 r):=by
 unfold sf93 at hF
 refine vu hd hs hfl lw93 rfl rfl (by rfl) (fun st T hT=>?_)
 have t0:=hT 0 _ rfl
 have t1:=hT 1 _ rfl
 have t2:=hT 2 _ rfl
 dsimp only [L93]
 refine zg (zh ?_);refine zW st (fun b1 h2 n3 st=>?_);refine za ?_;refine zf (th_n ?_);refine zg (zh ?_);refine za ?_;refine zf (th_n ?_);refine zg ?_;refine zg (zh ?_);refine za ?_;refine zf (th_n ?_);refine zE ?_
 have st:=st.nilL 4
 have w4:LR (rP rI (rP rI (rP rI rI))) 4 F0 ([]:List (Int × Int × Int × Int)) []:=LR.nil
 obtain ⟨y122,hy,hF⟩:=zm hF;refine z5 (sf93_L2 N a0_0 a0_1 a1 a2) (fun x6 T ds7 h nx=>∃ (F7:PH) (o8:Option Nat) (c8:Nat) (cs8:List HV),ds7 = [] ∧ PH.le F0 F7 ∧ St n0 h0 F0 F7 h nx [.bx b1 [(i64 a0_0),(i64 a0_1),(i64 a0_2),(i64 a0_3)],.ls o8 c8 cs8 4] ∧ LR (rP rI (rP rI (rP rI rI))) 4 F7 x6.1 cs8 ∧ T.get 1 = some (.slice pa1 (a1).length ca1) ∧ T.get 2 = some (.slice pa2 (a2).length ca2) ∧ T.get 3 = some (.ptr (some (b1,0))) ∧ T.get 7 = some (slv o8 (x6.1).length c8) ∧ T.get 8 = some (i64 x6.2)) (fun y e a σ=>e = .exit 0 ∧ a.nt = 83 ∧ ∃ (F123:PH) (o124:Option Nat) (c124:Nat) (cs124:List HV),a.defers = [] ∧ PH.le F0 F123 ∧ St n0 h0 F0 F123 σ.h σ.nx [.bx b1 [(i64 a0_0),(i64 a0_1),(i64 a0_2),(i64 a0_3)],.ls o124 c124 cs124 4] ∧ LR (rP rI (rP rI (rP rI rI))) 4 F123 y cs124 ∧ a.tmps.get 7 = some (slv o124 (y).length c124)) (fun x6 T ds7 h nx s hp hF=>?_) N _ y122 _ _ _ _ hy ⟨F0,none,0,[],rfl,(PH.le.refl _),st,w4,gA,gA,gA,gA,gA⟩ (fun e a σ hne hq=>?_)
 ·obtain ⟨F7,o8,c8,cs8,rfl,le7,st,w8,t1,t2,t3,t7,t8⟩:=hp;unfold sf93_L2 at hF;unfold L93w1;obtain ⟨y133,hA134,hF⟩:=zm hF;refine yG (fun T ds137 h nx=>∃ u,y133 = (.inl u) ∧ ∃ (F137:PH),ds137 = [] ∧ PH.le F7 F137 ∧ St n0 h0 F0 F137 h nx [.bx b1 [(i64 a0_0),(i64 a0_1),(i64 a0_2),(i64 a0_3)],.ls o8 c8 cs8 4] ∧ T.get 1 = some (.slice pa1 (a1).length ca1) ∧ T.get 2 = some (.slice pa2 (a2).length ca2) ∧ T.get 3 = some (.ptr (some (b1,0))) ∧ T.get 7 = some (slv o8 (x6.1).length c8) ∧ T.get 8 = some (i64 x6.2)) ?_ (fun T ds137 h nx hp=>?_)
  ·have hK135:=hF
   have hF:=hA134;obtain ⟨y141,hA142,hF⟩:=zm hF;refine yG (fun T ds144 h nx=>∃ (F144:PH),ds144 = [] ∧ PH.le F7 F144 ∧ St n0 h0 F0 F144 h nx [.bx b1 [(i64 a0_0),(i64 a0_1),(i64 a0_2),(i64 a0_3)],.ls o8 c8 cs8 4] ∧ T.get 1 = some (.slice pa1 (a1).length ca1) ∧ T.get 2 = some (.slice pa2 (a2).length ca2) ∧ T.get 3 = some (.ptr (some (b1,0))) ∧ T.get 7 = some (slv o8 (x6.1).length c8) ∧ T.get 8 = some (i64 x6.2) ∧ T.get 20 = some (.bool y141)) ?_ (fun T ds144 h nx hp=>?_)
   ·have hK143:=hF
    have hF:=hA142;refine zh ?_;refine za ?_;refine za ?_;refine yA ?_;refine yg ?_;refine za ?_
    rcases Bool.eq_false_or_eq_true (decide (x6.2 < ((a2).length:Int))) with hb145 | hb145
    ·have hF:=zw hb145 hF;refine zi hb145 (za ?_);refine zi hb145 (yg ?_);refine zG hb145 ?_;refine zf ?_;obtain rfl:=inj hF;refine thn ⟨rfl,?_⟩;dsimp only
     exact ⟨F7,rfl,(PH.le.refl _),st,gA,gA,gA,gA,gA,gA⟩
    ·have hF:=zx hb145 hF;refine ze hb145 ?_;refine ze hb145 ?_;refine zC hb145 ?_;refine zf ?_;obtain rfl:=inj hF;refine thn ⟨rfl,?_⟩;dsimp only
     exact ⟨F7,rfl,(PH.le.refl _),st,gA,gA,gA,gA,gA,gA⟩
   ·obtain ⟨F144,rfl,le144,st,t1,t2,t3,t7,t8,t20⟩:=hp
    have le146:=PH.le.trans le7 le144
    refine zB (fun hb147=>?_) (fun hb147=>?_)
    ·have hF:=zw hb147 hF;refine zA ?_;obtain rfl:=inj hF;refine thn ⟨rfl,_,rfl,?_⟩;dsimp only
     exact ⟨F144,rfl,le144,st,gA,gA,gA,gA,gA⟩
    ·have hF:=zx hb147 hF;refine ya ?_;obtain rfl:=inj hF;have hF:=hK135;have hF:=ve hF;refine th_e ?_;refine th_e ?_;refine ⟨_,(inj hF).symm,rfl,rfl,?_⟩;dsimp only
     exact ⟨F144,o8,c8,cs8,rfl,le146,st,(LR.mono le144 w8),gA⟩
  ·obtain ⟨w136,rfl,F137,rfl,le137,st,t1,t2,t3,t7,t8⟩:=hp;have hF:=vg hF
   have le148:=PH.le.trans le7 le137
   refine zg ?_;refine zE ?_;refine zg (zh ?_);refine za ?_;refine za ?_;obtain ⟨n149,x149,z149,l149,g149,hF⟩:=zZ hF;obtain ⟨b149,o149,s149,j149,r149,e149,f149,k149,rfl⟩:=RowF.get ra2 g149;refine yt e149 z149 l149 ?_;refine zq (st.sub _ _ (le148 _ _ f149)) (yp (j:=0) k149 rfl) ?_;obtain ⟨q150,hF⟩:=zj hF;refine XT q150 ?_;refine za ?_;refine zf (th_n ?_);refine zg (zh ?_);refine za ?_;refine v_fa ?_;refine zq (st.at (i:=0) rfl).2.2 rfl ?_;obtain ⟨q151,hF⟩:=zj hF;refine jm q151 ?_;refine za ?_;refine zf (th_n ?_);refine zg ?_
   refine zV (Nat.le_trans hfl st.ext.le) (fun dw=>?_);refine zd st.d dw (fun hm vw=>za zb) ?_;obtain ⟨q152,hF⟩:=zj hF;refine zd st.d dw (fun hm vw=>uo q152 zb) ?_;obtain ⟨q153,hF⟩:=zj hF;refine zd st.d dw (fun hm vw=>jm q153 zb) ?_;refine zd st.d dw (fun hm vw=>v_fa zb) ?_;refine zd st.d dw (fun hm vw=>zq (vw.bx (st.at (i:=0) rfl)) rfl zb) ?_;refine zd st.d dw (fun hm vw=>za zb) ?_;refine zd st.d dw (fun hm vw=>za zb) ?_;obtain ⟨v154,e155,hF⟩:=zm hF;refine yj st.d dw (fun hm vw=>yl (ct56 N e155 vw.d (vw.sub st) (RowF.mono le148 ra1)) (fun n' hn'=>yk hn')) (fun n156 hn' dw=>?_)
   refine ye st.d dw rfl (fun h157 ex vs=>?_)
   have st:=st.ext1 ex
   obtain ⟨q158,hF⟩:=zj hF;refine yq q158 ?_;obtain ⟨q159,hF⟩:=zj hF;refine zO q159 ?_;obtain ⟨q160,hF⟩:=zj hF;refine yL q160 ?_;obtain ⟨q161,hF⟩:=zj hF;refine uo q161 ?_;refine za ?_;refine zf (th_n ?_);refine zg (zh ?_);refine za ?_;refine za ?_;refine zf (th_n ?_);refine zg ?_;refine zE ?_;obtain ⟨y193,hy,hF⟩:=zm hF;refine z5 (sf93_L1 N a0_0 a0_1 a1 x149 v154) (fun x162 T ds163 h nx=>∃ (F163:PH),ds163 = [] ∧ PH.le F137 F163 ∧ St n0 h0 F0 F163 h nx [.bx b1 [(i64 a0_0),(i64 a0_1),(i64 a0_2),(i64 a0_3)],.ls o8 c8 cs8 4] ∧ T.get 1 = some (.slice pa1 (a1).length ca1) ∧ T.get 2 = some (.slice pa2 (a2).length ca2) ∧ T.get 3 = some (.ptr (some (b1,0))) ∧ T.get 7 = some (slv o8 (x6.1).length c8) ∧ T.get 8 = some (i64 x6.2) ∧ T.get 9 = some (i64 x149) ∧ T.get 10 = some (i64 (Int.tmod x149 a0_0)) ∧ T.get 11 = some (i64 (Int.tdiv ((Int.tmod (Int.tdiv x149 (16:Int)) (256:Int)) * ((a0_1 - v154)+(5:Int))) (256:Int))) ∧ T.get 12 = some (i64 x162)) (fun y e a σ=>e = .exit 2 ∧ a.nt = 83 ∧ ∃ (F194:PH),a.defers = [] ∧ PH.le F137 F194 ∧ St n0 h0 F0 F194 σ.h σ.nx [.bx b1 [(i64 a0_0),(i64 a0_1),(i64 a0_2),(i64 a0_3)],.ls o8 c8 cs8 4] ∧ a.tmps.get 1 = some (.slice pa1 (a1).length ca1) ∧ a.tmps.get 2 = some (.slice pa2 (a2).length ca2) ∧ a.tmps.get 3 = some (.ptr (some (b1,0))) ∧ a.tmps.get 7 = some (slv o8 (x6.1).length c8) ∧ a.tmps.get 8 = some (i64 x6.2) ∧ a.tmps.get 9 = some (i64 x149) ∧ a.tmps.get 10 = some (i64 (Int.tmod x149 a0_0)) ∧ a.tmps.get 11 = some (i64 (Int.tdiv ((Int.tmod (Int.tdiv x149 (16:Int)) (256:Int)) * ((a0_1 - v154)+(5:Int))) (256:Int))) ∧ a.tmps.get 12 = some (i64 y)) (fun x162 T ds163 h nx s hp hF=>?_) N _ y193 _ _ _ _ hy ⟨F137,rfl,(PH.le.refl _),st,gA,gA,gA,gA,gA,gA,gA,gA,gA⟩ (fun e a σ hne hq=>?_)
   ·obtain ⟨F163,rfl,le163,st,t1,t2,t3,t7,t8,t9,t10,t11,t12⟩:=hp
    have le164:=PH.le.trans le148 le163
    unfold sf93_L1 at hF;unfold L93w0;refine zg ?_;obtain ⟨y204,hA205,hF⟩:=zm hF;refine yG (fun T ds207 h nx=>∃ (F207:PH),ds207 = [] ∧ PH.le F163 F207 ∧ St n0 h0 F0 F207 h nx [.bx b1 [(i64 a0_0),(i64 a0_1),(i64 a0_2),(i64 a0_3)],.ls o8 c8 cs8 4] ∧ T.get 1 = some (.slice pa1 (a1).length ca1) ∧ T.get 2 = some (.slice pa2 (a2).length ca2) ∧ T.get 3 = some (.ptr (some (b1,0))) ∧ T.get 7 = some (slv o8 (x6.1).length c8) ∧ T.get 8 = some (i64 x6.2) ∧ T.get 9 = some (i64 x149) ∧ T.get 10 = some (i64 (Int.tmod x149 a0_0)) ∧ T.get 11 = some (i64 (Int.tdiv ((Int.tmod (Int.tdiv x149 (16:Int)) (256:Int)) * ((a0_1 - v154)+(5:Int))) (256:Int))) ∧ T.get 12 = some (i64 x162) ∧ T.get 60 = some (.bool y204)) ?_ (fun T ds207 h nx hp=>?_)
    ·have hK206:=hF
     have hF:=hA205;refine zh ?_;refine za ?_;refine v_fa ?_;refine zq (st.at (i:=0) rfl).2.2 rfl ?_;refine yg ?_;refine za ?_
     rcases Bool.eq_false_or_eq_true (decide (x162 < a0_0)) with hb208 | hb208
     ·have hF:=zw hb208 hF;refine zi hb208 (za ?_);refine zi hb208 (za ?_);obtain ⟨q209,hF⟩:=zj hF;refine zi hb208 (zO q209 ?_);obtain ⟨v210,e211,hF⟩:=zm hF;refine zi hb208 (zI st (ct56 N e211 st.d st.sub (RowF.mono le164 ra1)) (fun n212 st=>?_));refine zi hb208 (za ?_);refine zi hb208 (za ?_);obtain ⟨v213,e214,hF⟩:=zm hF;refine zi hb208 (zI st (ct56 N e214 st.d st.sub (RowF.mono le164 ra1)) (fun n215 st=>?_));obtain ⟨q216,hF⟩:=zj hF;refine zi hb208 (yq q216 ?_);refine zi hb208 (za ?_);refine zi hb208 (yx ?_);refine zG hb208 ?_;refine zf ?_;obtain rfl:=inj hF
      refine thn ⟨rfl,?_⟩;dsimp only
      exact ⟨F163,rfl,(PH.le.refl _),st,gA,gA,gA,gA,gA,gA,gA,gA,gA,gA⟩
     ·have hF:=zx hb208 hF;refine ze hb208 ?_;refine ze hb208 ?_;refine ze hb208 ?_;refine ze hb208 ?_;refine ze hb208 ?_;refine ze hb208 ?_;refine ze hb208 ?_;refine ze hb208 ?_;refine ze hb208 ?_;refine ze hb208 ?_;refine zC hb208 ?_;refine zf ?_;obtain rfl:=inj hF;refine thn ⟨rfl,?_⟩;dsimp only
      exact ⟨F163,rfl,(PH.le.refl _),st,gA,gA,gA,gA,gA,gA,gA,gA,gA,gA⟩
    ·obtain ⟨F207,rfl,le207,st,t1,t2,t3,t7,t8,t9,t10,t11,t12,t60⟩:=hp
     have le219:=PH.le.trans le163 le207
     refine zB (fun hb220=>?_) (fun hb220=>?_)
     ·have hF:=zw hb220 hF;refine zA (th_n ?_);refine zE ?_;refine zh ?_;refine za ?_;obtain ⟨q221,hF⟩:=zj hF;refine zO q221 ?_;refine za ?_;refine zf ?_;refine ib_n ?_;refine thn ⟨_,(inj hF).symm,rfl,?_⟩;dsimp only
      exact ⟨F207,rfl,le219,st,gA,gA,gA,gA,gA,gA,gA,gA,gA⟩
     ·have hF:=zx hb220 hF;refine ya ?_;refine th_e ?_;refine th_e ?_;refine ⟨_,(inj hF).symm,rfl,rfl,?_⟩;dsimp only
      exact ⟨F207,rfl,le219,st,gA,gA,gA,gA,gA,gA,gA,gA,gA⟩
   ·obtain ⟨N9,T,ds194⟩:=a;obtain ⟨h224,n225⟩:=σ;obtain ⟨rfl,e1,F194,e2,le194,st,t1,t2,t3,t7,t8,t9,t10,t11,t12⟩:=hq
    dsimp only at e1 e2
    subst e1
    subst e2
    dsimp only at st t1 t2 t3 t7 t8 t9 t10 t11 t12
    have le222:=PH.le.trans le148 le194
    have le223:=PH.le.trans le137 le194
    refine ib_e ?_;refine th_n ?_;refine zh ?_;refine za ?_;refine za ?_;refine za ?_;refine za ?_;refine za ?_;obtain ⟨q226,hF⟩:=zj hF;refine uo q226 ?_;obtain ⟨q227,hF⟩:=zj hF;refine jm q227 ?_;obtain ⟨q228,hF⟩:=zj hF;refine yq q228 ?_;refine v_max ?_;refine za ?_;refine za ?_;obtain ⟨q229,hF⟩:=zj hF;refine uo q229 ?_;obtain ⟨q230,hF⟩:=zj hF;refine jm q230 ?_;obtain ⟨q231,hF⟩:=zj hF;refine zO q231 ?_;refine v_min ?_;refine zR (cs:=[(i64 (max (0:Int) ((Int.tdiv ((Int.tmod (Int.tdiv x149 (16:Int)) (256:Int)) * ((a0_1 - v154)+(5:Int))) (256:Int)) - (Int.tmod (Int.tdiv x149 (4096:Int)) (4:Int))))),(i64 (min (2000:Int) ((Int.tdiv ((Int.tmod (Int.tdiv x149 (16:Int)) (256:Int)) * ((a0_1 - v154)+(5:Int))) (256:Int))+(Int.tmod (Int.tdiv x149 (8192:Int)) (3:Int)))))]) rfl ?_
    refine zR (cs:=[(i64 (Int.tmod x149 a0_0)),(i64 y193),(i64 (max (0:Int) ((Int.tdiv ((Int.tmod (Int.tdiv x149 (16:Int)) (256:Int)) * ((a0_1 - v154)+(5:Int))) (256:Int)) - (Int.tmod (Int.tdiv x149 (4096:Int)) (4:Int))))),(i64 (min (2000:Int) ((Int.tdiv ((Int.tmod (Int.tdiv x149 (16:Int)) (256:Int)) * ((a0_1 - v154)+(5:Int))) (256:Int))+(Int.tmod (Int.tdiv x149 (8192:Int)) (3:Int)))))]) rfl ?_;refine v_bs (cs:=[(i64 (Int.tmod x149 a0_0)),(i64 y193),(i64 (max (0:Int) ((Int.tdiv ((Int.tmod (Int.tdiv x149 (16:Int)) (256:Int)) * ((a0_1 - v154)+(5:Int))) (256:Int)) - (Int.tmod (Int.tdiv x149 (4096:Int)) (4:Int))))),(i64 (min (2000:Int) ((Int.tdiv ((Int.tmod (Int.tdiv x149 (16:Int)) (256:Int)) * ((a0_1 - v154)+(5:Int))) (256:Int))+(Int.tmod (Int.tdiv x149 (8192:Int)) (3:Int)))))]) st rfl (fun b232 h233 n234 st=>?_)
    obtain ⟨q235,hF⟩:=zj hF
    have w235:LR (rP rI (rP rI (rP rI rI))) 4 F194 (x6.1 ++ [((Int.tmod x149 a0_0),y193,(max (0:Int) ((Int.tdiv ((Int.tmod (Int.tdiv x149 (16:Int)) (256:Int)) * ((a0_1 - v154)+(5:Int))) (256:Int)) - (Int.tmod (Int.tdiv x149 (4096:Int)) (4:Int)))),(min (2000:Int) ((Int.tdiv ((Int.tmod (Int.tdiv x149 (16:Int)) (256:Int)) * ((a0_1 - v154)+(5:Int))) (256:Int))+(Int.tmod (Int.tdiv x149 (8192:Int)) (3:Int)))))]) (cs8 ++ [(i64 (Int.tmod x149 a0_0)),(i64 y193),(i64 (max (0:Int) ((Int.tdiv ((Int.tmod (Int.tdiv x149 (16:Int)) (256:Int)) * ((a0_1 - v154)+(5:Int))) (256:Int)) - (Int.tmod (Int.tdiv x149 (4096:Int)) (4:Int))))),(i64 (min (2000:Int) ((Int.tdiv ((Int.tmod (Int.tdiv x149 (16:Int)) (256:Int)) * ((a0_1 - v154)+(5:Int))) (256:Int))+(Int.tmod (Int.tdiv x149 (8192:Int)) (3:Int)))))]):=LR.app (LR.mono le223 w8) (LR.one (⟨[(i64 (Int.tmod x149 a0_0))],_,rfl,rfl,⟨[(i64 y193)],_,rfl,rfl,⟨[(i64 (max (0:Int) ((Int.tdiv ((Int.tmod (Int.tdiv x149 (16:Int)) (256:Int)) * ((a0_1 - v154)+(5:Int))) (256:Int)) - (Int.tmod (Int.tdiv x149 (4096:Int)) (4:Int)))))],_,rfl,rfl,rfl⟩⟩⟩))
    refine jn (n:=1) (ox:=0) (m:=(x6.1 ++ [((Int.tmod x149 a0_0),y193,(max (0:Int) ((Int.tdiv ((Int.tmod (Int.tdiv x149 (16:Int)) (256:Int)) * ((a0_1 - v154)+(5:Int))) (256:Int)) - (Int.tmod (Int.tdiv x149 (4096:Int)) (4:Int)))),(min (2000:Int) ((Int.tdiv ((Int.tmod (Int.tdiv x149 (16:Int)) (256:Int)) * ((a0_1 - v154)+(5:Int))) (256:Int))+(Int.tmod (Int.tdiv x149 (8192:Int)) (3:Int)))))]).length) (row:=[(i64 (Int.tmod x149 a0_0)),(i64 y193),(i64 (max (0:Int) ((Int.tdiv ((Int.tmod (Int.tdiv x149 (16:Int)) (256:Int)) * ((a0_1 - v154)+(5:Int))) (256:Int)) - (Int.tmod (Int.tdiv x149 (4096:Int)) (4:Int))))),(i64 (min (2000:Int) ((Int.tdiv ((Int.tmod (Int.tdiv x149 (16:Int)) (256:Int)) * ((a0_1 - v154)+(5:Int))) (256:Int))+(Int.tmod (Int.tdiv x149 (8192:Int)) (3:Int)))))]) st 1 rfl (LR.mono le223 w8).1 (st.at (i:=2) rfl).2.2 rfl rfl q235 hfl (by decide) (by decide) (by simp) (fun o235 c235 h235 n235 st=>?_)
    refine za ?_;refine zf ?_;refine ib_n ?_;refine th_n ?_;refine zh ?_;refine za ?_;obtain ⟨q236,hF⟩:=zj hF;refine zO q236 ?_;refine za ?_;refine zf ?_;refine thn ⟨_,(inj hF).symm,rfl,?_⟩;dsimp only
    exact ⟨F194,o235,c235,(cs8 ++ [(i64 (Int.tmod x149 a0_0)),(i64 y193),(i64 (max (0:Int) ((Int.tdiv ((Int.tmod (Int.tdiv x149 (16:Int)) (256:Int)) * ((a0_1 - v154)+(5:Int))) (256:Int)) - (Int.tmod (Int.tdiv x149 (4096:Int)) (4:Int))))),(i64 (min (2000:Int) ((Int.tdiv ((Int.tmod (Int.tdiv x149 (16:Int)) (256:Int)) * ((a0_1 - v154)+(5:Int))) (256:Int))+(Int.tmod (Int.tdiv x149 (8192:Int)) (3:Int)))))]),rfl,le222,(st.drop (by first | exact List.Sublist.refl _ | (repeat first | exact List.nil_sublist _ | refine List.Sublist.cons_cons _ ?_ | refine List.Sublist.cons _ ?_))),w235,gA,gA,gA,gA,gA⟩
 ·obtain ⟨N9,T,ds123⟩:=a;obtain ⟨h238,n239⟩:=σ;obtain ⟨rfl,e1,F123,o124,c124,cs124,e2,le123,st,w124,t7⟩:=hq
  dsimp only at e1 e2
  subst e1
  subst e2
  dsimp only at st t7
  refine ib_e ?_;refine th_n ?_;refine zg (zh ?_);refine za ?_;refine za ?_;refine zf (th_n ?_);refine zu ?_;obtain rfl:=inj hF
  obtain ⟨F240,le240,st,rf240⟩:=St.freeze st 1 rfl w124 (by decide)
  exact yJ st (Res.t gA Res.nil) ⟨_,_,rfl,rf240⟩
end Go.Hx.V

namespace Go.Hx.V
open Go.Hx
set_option maxRecDepth 20000
set_option maxHeartbeats 4000000
variable {fl : Nat} {h0 : Tr HBlk} {n0 : Nat} {F0 : PH}
attribute [local irreducible] W R C thenH inBlockH Tr.get Tr.set lo ck bnd ix iter
theorem ct95 (N:Nat) {a0_0 a0_1 a0_2 a0_3 a0_4:Int} {a0_5:(Nat → Int)} {r:(List Int)} (hF:sf95 N a0_0 a0_1 a0_2 a0_3 a0_4 a0_5 = some r) (hd:D h0 n0) (hs:F0.sub h0) (hfl:fl ≤ n0):C LW fl 95 [(.agg ([(i64 a0_0),(i64 a0_1),(i64 a0_2),(i64 a0_3),(i64 a0_4)] ++ (eI .i64 169 a0_5))),(.via 215 "Highest" 137)] ⟨h0,n0⟩ (KR (lvL rI 1) F0 h0 n0 r):=by
 unfold sf95 at hF
 refine vu hd hs hfl lw95 rfl rfl (by rfl) (fun st T hT=>?_)
 have t0:=hT 0 _ rfl
 have t1:=hT 1 _ rfl
 dsimp only [L95]
 refine zg (zh ?_);refine zW st (fun b1 h2 n3 st=>?_);refine za ?_;refine zf (th_n ?_);refine zg (zh ?_);refine v_fa ?_;refine v_fa ?_;refine zq (st.at (i:=0) rfl).2.2 rfl ?_;obtain ⟨q4,hF⟩:=zj hF
 have w4:LR rI 1 F0 (List.replicate (Int.toNat (0:Int)) 0) (Go.Hx.repl (Int.toNat (0:Int)) [(i64 0)]):=LR.repl (rfl) _
 refine v_mk st (n:=(List.replicate (Int.toNat (0:Int)) 0).length) q4.1 q4.2.1 (by simp) q4.2.2.1 q4.2.2.2 (fun o4 h4 n4 st=>?_)
 refine za ?_;refine zf (th_n ?_);refine zg ?_;refine zg (zh ?_);refine za ?_;refine zf (th_n ?_);refine zE ?_;obtain ⟨y39,hy,hF⟩:=zm hF;refine z5 (sf95_L1 N a0_0 a0_1 a0_2 a0_3 a0_4 a0_5) (fun x22 T ds23 h nx=>∃ (F23:PH) (o24:Option Nat) (c24:Nat) (cs24:List HV),ds23 = [] ∧ PH.le F0 F23 ∧ St n0 h0 F0 F23 h nx [.bx b1 ([(i64 a0_0),(i64 a0_1),(i64 a0_2),(i64 a0_3),(i64 a0_4)] ++ (eI .i64 169 a0_5)),.ls o24 c24 cs24 1] ∧ LR rI 1 F23 x22.1 cs24 ∧ T.get 1 = some (.via 215 "Highest" 137) ∧ T.get 2 = some (.ptr (some (b1,0))) ∧ T.get 5 = some (slv o24 (x22.1).length c24) ∧ T.get 6 = some (i64 x22.2)) (fun y e a σ=>e = .exit 0 ∧ a.nt = 30 ∧ ∃ (F40:PH) (o41:Option Nat) (c41:Nat) (cs41:List HV),a.defers = [] ∧ PH.le F0 F40 ∧ St n0 h0 F0 F40 σ.h σ.nx [.bx b1 ([(i64 a0_0),(i64 a0_1),(i64 a0_2),(i64 a0_3),(i64 a0_4)] ++ (eI .i64 169 a0_5)),.ls o41 c41 cs41 1] ∧ LR rI 1 F40 y cs41 ∧ a.tmps.get 5 = some (slv o41 (y).length c41)) (fun x22 T ds23 h nx s hp hF=>?_) N _ y39 _ _ _ _ hy ⟨F0,o4,(Int.toNat a0_0),(Go.Hx.repl (Int.toNat (0:Int)) [(i64 0)]),rfl,(PH.le.refl _),st,w4,gA,gA,gA,gA⟩ (fun e a σ hne hq=>?_)
 ·obtain ⟨F23,o24,c24,cs24,rfl,le23,st,w24,t1,t2,t5,t6⟩:=hp;unfold sf95_L1 at hF;unfold L95w0;refine zg ?_;refine zg (zh ?_);refine za ?_;refine v_fa ?_;refine v_fa ?_;refine zq (st.at (i:=0) rfl).2.2 rfl ?_;refine yg ?_;refine zf (th_n ?_);refine zB (fun hb42=>?_) (fun hb42=>?_)
  ·have hF:=zw hb42 hF;refine zA (th_n ?_);refine zg ?_;refine zE ?_;refine zh ?_;refine za ?_;refine za ?_;refine za ?_;obtain ⟨q43,hF⟩:=zj hF;refine zO q43 ?_;obtain ⟨v44,e45,hF⟩:=zm hF
   refine uI (off:=4) (by kernel_rfl) st (ct137 N e45 st.d (all_sub _)  (st.at (i:=0) rfl).2.2) (fun n46 st=>?_)
   refine za ?_;refine za ?_;obtain ⟨v47,e48,hF⟩:=zm hF
   refine uI (off:=4) (by kernel_rfl) st (ct137 N e48 st.d (all_sub _)  (st.at (i:=0) rfl).2.2) (fun n49 st=>?_)
   obtain ⟨q50,hF⟩:=zj hF;refine yq q50 ?_;refine v_bs (cs:=[(i64 (v44 - v47))]) st rfl (fun b51 h52 n53 st=>?_);obtain ⟨q54,hF⟩:=zj hF
   have w54:LR rI 1 F23 (x22.1 ++ [(v44 - v47)]) (cs24 ++ [(i64 (v44 - v47))]):=LR.app w24 (LR.one (rfl))
   refine jn (n:=1) (ox:=0) (m:=(x22.1 ++ [(v44 - v47)]).length) (row:=[(i64 (v44 - v47))]) st 1 rfl w24.1 (st.at (i:=2) rfl).2.2 rfl rfl q54 hfl (by decide) (by decide) (by simp) (fun o54 c54 h54 n54 st=>?_)
   refine za ?_;refine zf ?_;refine ib_n ?_;refine th_n ?_;refine zh ?_;refine za ?_;obtain ⟨q55,hF⟩:=zj hF;refine zO q55 ?_;refine za ?_;refine zf ?_;refine thn ⟨_,(inj hF).symm,rfl,?_⟩;dsimp only
   exact ⟨F23,o54,c54,(cs24 ++ [(i64 (v44 - v47))]),rfl,le23,(st.drop (by first | exact List.Sublist.refl _ | (repeat first | exact List.nil_sublist _ | refine List.Sublist.cons_cons _ ?_ | refine List.Sublist.cons _ ?_))),w54,gA,gA,gA,gA⟩
  ·have hF:=zx hb42 hF;refine ya ?_;refine th_e ?_;refine th_e ?_;refine ⟨_,(inj hF).symm,rfl,rfl,?_⟩;dsimp only
   exact ⟨F23,o24,c24,cs24,rfl,le23,st,w24,gA⟩
 ·obtain ⟨N9,T,ds40⟩:=a;obtain ⟨h56,n57⟩:=σ;obtain ⟨rfl,e1,F40,o41,c41,cs41,e2,le40,st,w41,t5⟩:=hq
  dsimp only at e1 e2
  subst e1
  subst e2
  dsimp only at st t5
  refine ib_e ?_;refine th_n ?_;refine zg (zh ?_);refine za ?_;refine za ?_;refine zf (th_n ?_);refine zu ?_;obtain rfl:=inj hF
  obtain ⟨F58,le58,st,rf58⟩:=St.freeze st 1 rfl w41 (by decide)
  exact yJ st (Res.t gA Res.nil) ⟨_,_,rfl,rf58⟩
theorem ct95_2 (N:Nat) {a0_0 a0_1 a0_2 a0_3 a0_4:Int} {a0_5:(Nat → Int)} {r:(List Int)} (hF:sf95_2 N a0_0 a0_1 a0_2 a0_3 a0_4 a0_5 = some r) (hd:D h0 n0) (hs:F0.sub h0) (hfl:fl ≤ n0):C LW fl 95 [(.agg ([(i64 a0_0),(i64 a0_1),(i64 a0_2),(i64 a0_3),(i64 a0_4)] ++ (eI .i64 169 a0_5))),(.via 215 "Lowest" 136)] ⟨h0,n0⟩ (KR (lvL rI 1) F0 h0 n0 r):=by
 unfold sf95_2 at hF
 refine vu hd hs hfl lw95 rfl rfl (by rfl) (fun st T hT=>?_)
 have t0:=hT 0 _ rfl
 have t1:=hT 1 _ rfl
 dsimp only [L95]
 refine zg (zh ?_);refine zW st (fun b1 h2 n3 st=>?_);refine za ?_;refine zf (th_n ?_);refine zg (zh ?_);refine v_fa ?_;refine v_fa ?_;refine zq (st.at (i:=0) rfl).2.2 rfl ?_;obtain ⟨q4,hF⟩:=zj hF
 have w4:LR rI 1 F0 (List.replicate (Int.toNat (0:Int)) 0) (Go.Hx.repl (Int.toNat (0:Int)) [(i64 0)]):=LR.repl (rfl) _
 refine v_mk st (n:=(List.replicate (Int.toNat (0:Int)) 0).length) q4.1 q4.2.1 (by simp) q4.2.2.1 q4.2.2.2 (fun o4 h4 n4 st=>?_)
 refine za ?_;refine zf (th_n ?_);refine zg ?_;refine zg (zh ?_);refine za ?_;refine zf (th_n ?_);refine zE ?_;obtain ⟨y39,hy,hF⟩:=zm hF;refine z5 (sf95_2_L1 N a0_0 a0_1 a0_2 a0_3 a0_4 a0_5) (fun x22 T ds23 h nx=>∃ (F23:PH) (o24:Option Nat) (c24:Nat) (cs24:List HV),ds23 = [] ∧ PH.le F0 F23 ∧ St n0 h0 F0 F23 h nx [.bx b1 ([(i64 a0_0),(i64 a0_1),(i64 a0_2),(i64 a0_3),(i64 a0_4)] ++ (eI .i64 169 a0_5)),.ls o24 c24 cs24 1] ∧ LR rI 1 F23 x22.1 cs24 ∧ T.get 1 = some (.via 215 "Lowest" 136) ∧ T.get 2 = some (.ptr (some (b1,0))) ∧ T.get 5 = some (slv o24 (x22.1).length c24) ∧ T.get 6 = some (i64 x22.2)) (fun y e a σ=>e = .exit 0 ∧ a.nt = 30 ∧ ∃ (F40:PH) (o41:Option Nat) (c41:Nat) (cs41:List HV),a.defers = [] ∧ PH.le F0 F40 ∧ St n0 h0 F0 F40 σ.h σ.nx [.bx b1 ([(i64 a0_0),(i64 a0_1),(i64 a0_2),(i64 a0_3),(i64 a0_4)] ++ (eI .i64 169 a0_5)),.ls o41 c41 cs41 1] ∧ LR rI 1 F40 y cs41 ∧ a.tmps.get 5 = some (slv o41 (y).length c41)) (fun x22 T ds23 h nx s hp hF=>?_) N _ y39 _ _ _ _ hy ⟨F0,o4,(Int.toNat a0_0),(Go.Hx.repl (Int.toNat (0:Int)) [(i64 0)]),rfl,(PH.le.refl _),st,w4,gA,gA,gA,gA⟩ (fun e a σ hne hq=>?_)
 ·obtain ⟨F23,o24,c24,cs24,rfl,le23,st,w24,t1,t2,t5,t6⟩:=hp;unfold sf95_2_L1 at hF;unfold L95w0;refine zg ?_;refine zg (zh ?_);refine za ?_;refine v_fa ?_;refine v_fa ?_;refine zq (st.at (i:=0) rfl).2.2 rfl ?_;refine yg ?_;refine zf (th_n ?_);refine zB (fun hb42=>?_) (fun hb42=>?_)
  ·have hF:=zw hb42 hF;refine zA (th_n ?_);refine zg ?_;refine zE ?_;refine zh ?_;refine za ?_;refine za ?_;refine za ?_;obtain ⟨q43,hF⟩:=zj hF;refine zO q43 ?_;obtain ⟨v44,e45,hF⟩:=zm hF
   refine uI (off:=4) (by kernel_rfl) st (ct136 N e45 st.d (all_sub _)  (st.at (i:=0) rfl).2.2) (fun n46 st=>?_)
   refine za ?_;refine za ?_;obtain ⟨v47,e48,hF⟩:=zm hF
   refine uI (off:=4) (by kernel_rfl) st (ct136 N e48 st.d (all_sub _)  (st.at (i:=0) rfl).2.2) (fun n49 st=>?_)
   obtain ⟨q50,hF⟩:=zj hF;refine yq q50 ?_;refine v_bs (cs:=[(i64 (v44 - v47))]) st rfl (fun b51 h52 n53 st=>?_);obtain ⟨q54,hF⟩:=zj hF
   have w54:LR rI 1 F23 (x22.1 ++ [(v44 - v47)]) (cs24 ++ [(i64 (v44 - v47))]):=LR.app w24 (LR.one (rfl))
   refine jn (n:=1) (ox:=0) (m:=(x22.1 ++ [(v44 - v47)]).length) (row:=[(i64 (v44 - v47))]) st 1 rfl w24.1 (st.at (i:=2) rfl).2.2 rfl rfl q54 hfl (by decide) (by decide) (by simp) (fun o54 c54 h54 n54 st=>?_)
   refine za ?_;refine zf ?_;refine ib_n ?_;refine th_n ?_;refine zh ?_;refine za ?_;obtain ⟨q55,hF⟩:=zj hF;refine zO q55 ?_;refine za ?_;refine zf ?_;refine thn ⟨_,(inj hF).symm,rfl,?_⟩;dsimp only
   exact ⟨F23,o54,c54,(cs24 ++ [(i64 (v44 - v47))]),rfl,le23,(st.drop (by first | exact List.Sublist.refl _ | (repeat first | exact List.nil_sublist _ | refine List.Sublist.cons_cons _ ?_ | refine List.Sublist.cons _ ?_))),w54,gA,gA,gA,gA⟩
  ·have hF:=zx hb42 hF;refine ya ?_;refine th_e ?_;refine th_e ?_;refine ⟨_,(inj hF).symm,rfl,rfl,?_⟩;dsimp only
   exact ⟨F23,o24,c24,cs24,rfl,le23,st,w24,gA⟩
 ·obtain ⟨N9,T,ds40⟩:=a;obtain ⟨h56,n57⟩:=σ;obtain ⟨rfl,e1,F40,o41,c41,cs41,e2,le40,st,w41,t5⟩:=hq
  dsimp only at e1 e2
  subst e1
  subst e2
  dsimp only at st t5
  refine ib_e ?_;refine th_n ?_;refine zg (zh ?_);refine za ?_;refine za ?_;refine zf (th_n ?_);refine zu ?_;obtain rfl:=inj hF
  obtain ⟨F58,le58,st,rf58⟩:=St.freeze st 1 rfl w41 (by decide)
  exact yJ st (Res.t gA Res.nil) ⟨_,_,rfl,rf58⟩
theorem ct99 (N:Nat) {a0_0 a0_1 a0_2 a0_3 a1_0 a1_1 a1_2 a1_3:Int} {a2:(List Int)} {r:Bool} (hF:sf99 N a0_0 a0_1 a0_2 a0_3 a1_0 a1_1 a1_2 a1_3 a2 = some r) (hd:D h0 n0) (hs:F0.sub h0) {pa2:Option (Nat × Nat)} {ca2:Nat} (ra2:RowF rI 1 F0 pa2 ca2 a2):C LW fl 99 [(.agg [(i64 a0_0),(i64 a0_1),(i64 a0_2),(i64 a0_3)]),(.agg [(i64 a1_0),(i64 a1_1),(i64 a1_2),(i64 a1_3)]),(.slice pa2 (a2).length ca2)] ⟨h0,n0⟩ (KS (.bool r) n0 h0):=by
 unfold sf99 at hF
 refine z8 hd hs lw99 rfl rfl (by rfl) (fun st T hT=>?_)
 have hfl:n0 ≤ n0:=Nat.le_refl n0
 have t0:=hT 0 _ rfl
 have t1:=hT 1 _ rfl
 have t2:=hT 2 _ rfl
 dsimp only [L99]
 refine zg (zh ?_);refine zW st (fun b1 h2 n3 st=>?_);refine zW st (fun b4 h5 n6 st=>?_);refine za ?_;refine zf (th_n ?_);refine zg (zh ?_);refine za ?_;refine v_fa ?_;refine zq (st.at (i:=1) rfl).2.2 rfl ?_;obtain ⟨v7,e8,hF⟩:=zm hF;refine zI st (ct56 N e8 st.d st.sub ra2) (fun n9 st=>?_);refine za ?_;refine zf (th_n ?_);refine zg ?_;refine zV (Nat.le_trans hfl st.ext.le) (fun dw=>?_);refine zd st.d dw (fun hm vw=>v_fa zb) ?_;refine zd st.d dw (fun hm vw=>v_fa zb) ?_;refine zd st.d dw (fun hm vw=>zq (vw.bx (st.at (i:=1) rfl)) rfl zb) ?_
 refine zd st.d dw (fun hm vw=>za zb) ?_;refine zd st.d dw (fun hm vw=>v_fa zb) ?_;refine zd st.d dw (fun hm vw=>zq (vw.bx (st.at (i:=1) rfl)) rfl zb) ?_;obtain ⟨v10,e11,hF⟩:=zm hF;refine yj st.d dw (fun hm vw=>yl (ct56 N e11 vw.d (vw.sub st) ra2) (fun n' hn'=>yk hn')) (fun n12 hn' dw=>?_);refine zd st.d dw (fun hm vw=>za zb) ?_;obtain ⟨q13,hF⟩:=zj hF;refine zd st.d dw (fun hm vw=>yq q13 zb) ?_;refine zd st.d dw (fun hm vw=>v_max zb) ?_;refine zd st.d dw (fun hm vw=>v_fa zb) ?_;refine zd st.d dw (fun hm vw=>v_fa zb) ?_;refine zd st.d dw (fun hm vw=>zq (vw.bx (st.at (i:=1) rfl)) rfl zb) ?_
 refine ye st.d dw rfl (fun h14 ex vs=>?_)
 have st:=st.ext1 ex
 refine za ?_;refine za ?_;refine zf (th_n ?_);refine zg ?_;refine zg (zh ?_);refine v_fa ?_;refine zq (st.at (i:=1) rfl).2.2 rfl ?_;refine v_fa ?_;refine zq (st.at (i:=0) rfl).2.2 rfl ?_;refine yg ?_;refine zf (th_n ?_);refine zB (fun hb15=>?_) (fun hb15=>?_)
 ·have hF:=zw hb15 hF;refine zh ?_;refine za ?_;refine za ?_;refine v_fa ?_;refine zq (st.at (i:=1) rfl).2.2 rfl ?_;obtain ⟨q16,hF⟩:=zj hF;refine zO q16 ?_;obtain ⟨v17,e18,hF⟩:=zm hF;refine zI st (ct56 N e18 st.d st.sub ra2) (fun n19 st=>?_);refine za ?_;obtain ⟨q20,hF⟩:=zj hF;refine yq q20 ?_;obtain ⟨q21,hF⟩:=zj hF;refine yq q21 ?_;refine v_min ?_;refine za ?_;refine zf (th_n ?_);refine zg (zh ?_);refine za ?_;refine za ?_;refine yx ?_;refine za ?_;refine zf (th_n ?_);refine zu ?_;obtain rfl:=inj hF
  exact zD st (Res.t gA Res.nil) rfl rfl
 ·have hF:=zx hb15 hF;refine zA (th_n ?_);refine zg (zh ?_);refine za ?_;refine za ?_;refine yx ?_;refine za ?_;refine zf (th_n ?_);refine zu ?_;obtain rfl:=inj hF
  exact zD st (Res.t gA Res.nil) rfl rfl
end Go.Hx.V

