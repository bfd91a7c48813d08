import Derived.Test.YtjjnncelpnijiaaGreatH05
import Derived.Test.YtjjnncelpnijiaaGreatH06
set_option linter.all false
namespace Go.Hx.V
open Go.Hx
set_option maxRecDepth 20000
set_option maxHeartbeats 4000000
variable {fl : Nat} {h0 : Tr HBlk} {n0 : Nat} {F0 : PH}
attribute [local irreducible] W R C thenH inBlockH Tr.get Tr.set lo ck bnd ix iter
theorem ct21 (N:Nat) {a0_0 a0_1 a0_2 a0_3:Int} {a0_4:(List (Int × Int × Int × Int))} {a0_5:(List (Int × Int))} {a0_6 a0_7 a0_8 a0_9:Int} {r:(Int × Int × Int × Int × (List (Int × Int × Int × Int)) × (List (Int × Int)) × Int × Int × Int × Int)} (hF:sf21 N a0_0 a0_1 a0_2 a0_3 a0_4 a0_5 a0_6 a0_7 a0_8 a0_9 = some r) (hd:D h0 n0) (hs:F0.sub h0) (hfl:fl ≤ n0) {pa0_4:Option (Nat × Nat)} {ca0_4:Nat} {pa0_5:Option (Nat × Nat)} {ca0_5:Nat} (ra0_4:RowF (rP rI (rP rI (rP rI rI))) 4 F0 pa0_4 ca0_4 a0_4) (ra0_5:RowF (rP rI rI) 2 F0 pa0_5 ca0_5 a0_5):C LW fl 21 [(.agg [(i64 a0_0),(i64 a0_1),(i64 a0_2),(i64 a0_3),(.slice pa0_4 (a0_4).length ca0_4),(.slice pa0_5 (a0_5).length ca0_5),(i64 a0_6),(i64 a0_7),(i64 a0_8),(i64 a0_9)])] ⟨h0,n0⟩ (KR (rvA (rP rI (rP rI (rP rI (rP rI (rP (rL (rP rI (rP rI (rP rI rI))) 4) (rP (rL (rP rI rI) 2) (rP rI (rP rI (rP rI rI)))))))))) F0 h0 n0 r):=by
 unfold sf21 at hF
 refine vu hd hs hfl lw21 rfl rfl (by rfl) (fun st T hT=>?_)
 have t0:=hT 0 _ rfl
 dsimp only [L21]
 refine zg (zh ?_);refine zW st (fun b1 h2 n3 st=>?_);refine zM st (fun b4 h5 n6 st=>?_);refine zf (th_n ?_);refine zg ?_;refine zV (Nat.le_trans hfl st.ext.le) (fun dw=>?_)
 have wf:=Wf.start st
 refine zd st.d dw (fun hm vw=>v_fa zb) ?_;refine zd st.d dw (fun hm vw=>zK (vs:=[(i64 a0_0),(i64 a0_1),(i64 a0_2),(i64 a0_3)]) (vw.bx (st.at (i:=0) rfl)) rfl zb) ?_;obtain ⟨v7,e8,hF⟩:=zm hF;refine yj st.d dw (fun hm vw=>yl (ct59 N e8 vw.d (FF.sub wf st vw) ) (fun n' hn'=>yk hn')) (fun n9 hn' dw=>?_);refine zd st.d dw (fun hm vw=>v_fa zb) ?_;refine zd st.d dw (fun hm vw=>zq (vw.bx (st.at (i:=0) rfl)) rfl zb) ?_;obtain ⟨v10,e11,hF⟩:=zm hF
 refine y_deep st dw wf (fun hm vw=>YD (ct60 N e11 vw.d (FF.sub wf st vw) (Nat.max_le.2 ⟨by have:=dw.le;have:=st.ext.le;omega,Nat.le_refl _⟩) (RowF.mono FF.base ra0_4)) (fun v F' h' n' ex l1 l2 l3 l4=>zf ⟨_,_,rfl,ex,l1,l2,l3,l4⟩)) (fun u12 F12 n12 done hn' dw12 wf12 rv12 le12=>?_)
 have wf:=wf12
 have dw:=dw12
 obtain ⟨py13,cy13,rfl,ry13⟩:=rv12;refine zd st.d dw (fun hm vw=>v_fa zb) ?_;refine zd st.d dw (fun hm vw=>zq (vw.bx (st.at (i:=0) rfl)) rfl zb) ?_;obtain ⟨v14,e15,hF⟩:=zm hF
 refine y_deep st dw wf (fun hm vw=>YD (ct66 N e15 vw.d (FF.sub wf st vw) (Nat.max_le.2 ⟨by have:=dw.le;have:=st.ext.le;omega,Nat.le_refl _⟩) (RowF.mono FF.base ra0_5)) (fun v F' h' n' ex l1 l2 l3 l4=>zf ⟨_,_,rfl,ex,l1,l2,l3,l4⟩)) (fun u16 F16 n16 done hn' dw16 wf16 rv16 le16=>?_)
 have le18:=fun (f:Nat → Bool) q1 q2=>PH.le.trans (le12 f q1 q2) (FF.cons wf wf16 dw16)
 have wf:=wf16
 have dw:=dw16
 obtain ⟨py17,cy17,rfl,ry17⟩:=rv16;refine zd st.d dw (fun hm vw=>v_fa zb) ?_;refine zd st.d dw (fun hm vw=>v_fa zb) ?_;refine zd st.d dw (fun hm vw=>zq (vw.bx (st.at (i:=0) rfl)) rfl zb) ?_;refine zd st.d dw (fun hm vw=>v_fa zb) ?_;refine zd st.d dw (fun hm vw=>v_fa zb) ?_;refine zd st.d dw (fun hm vw=>zq (vw.bx (st.at (i:=0) rfl)) rfl zb) ?_;refine zd st.d dw (fun hm vw=>zR (cs:=[(i64 a0_6),(i64 a0_7)]) rfl zb) ?_;refine zd st.d dw (fun hm vw=>v_fa zb) ?_;refine zd st.d dw (fun hm vw=>zK (vs:=[(i64 a0_8),(i64 a0_9)]) (vw.bx (st.at (i:=0) rfl)) rfl zb) ?_;obtain ⟨v19,e20,hF⟩:=zm hF
 refine yj st.d dw (fun hm vw=>yl (ct29 N e20 vw.d (FF.sub wf st vw) ) (fun n' hn'=>yk hn')) (fun n21 hn' dw=>?_);refine ye st.d dw rfl (fun h22 ex vs=>?_)
 obtain ⟨F23,lt23,st⟩:=St.laidF st dw wf ex vs (Lay.nil (by have:=dw.le;omega)) (fun e he=>by cases he)
 have lz24:=lt23 _ (le18 (fun _=>true) rfl (fun _ _=>rfl))
 have lz25:=lt23 _ (le16 (fun _=>true) rfl (fun _ _=>rfl))
 refine zR (cs:=[(i64 v7.1),(i64 v7.2.1),(i64 v7.2.2.1),(i64 v7.2.2.2),(.slice py13 (v10).length cy13),(.slice py17 (v14).length cy17),(i64 a0_6),(i64 a0_7),(i64 v19.1),(i64 v19.2)]) rfl ?_;refine v_st (cs':=[(i64 v7.1),(i64 v7.2.1),(i64 v7.2.2.1),(i64 v7.2.2.2),(.slice py13 (v10).length cy13),(.slice py17 (v14).length cy17),(i64 a0_6),(i64 a0_7),(i64 v19.1),(i64 v19.2)]) st 1 rfl rfl rfl rfl hfl (fun h26 st=>?_);refine zf (th_n ?_);refine zu ?_;obtain rfl:=inj hF
 exact yJ st (Res.c gA (st.at (i:=1) rfl).2.2 (show takeN _ _ = some [(i64 v7.1),(i64 v7.2.1),(i64 v7.2.2.1),(i64 v7.2.2.2),(.slice py13 (v10).length cy13),(.slice py17 (v14).length cy17),(i64 a0_6),(i64 a0_7),(i64 v19.1),(i64 v19.2)] from rfl) Res.nil) ⟨_,rfl,⟨[(i64 v7.1)],_,rfl,rfl,⟨[(i64 v7.2.1)],_,rfl,rfl,⟨[(i64 v7.2.2.1)],_,rfl,rfl,⟨[(i64 v7.2.2.2)],_,rfl,rfl,⟨[(.slice py13 (v10).length cy13)],_,rfl,⟨_,_,rfl,(RowF.mono lz24 ry13)⟩,⟨[(.slice py17 (v14).length cy17)],_,rfl,⟨_,_,rfl,(RowF.mono lz25 ry17)⟩,⟨[(i64 a0_6)],_,rfl,rfl,⟨[(i64 a0_7)],_,rfl,rfl,⟨[(i64 v19.1)],_,rfl,rfl,rfl⟩⟩⟩⟩⟩⟩⟩⟩⟩⟩
theorem ct150 (N:Nat) {a0_0 a0_1 a0_2 a0_3 r:Int} (hF:sf150 N a0_0 a0_1 a0_2 a0_3 = some r) (hd:D h0 n0) (hs:F0.sub h0):C LW fl 150 [(.agg [(i64 a0_0),(i64 a0_1),(i64 a0_2),(i64 a0_3)])] ⟨h0,n0⟩ (KS (i64 r) n0 h0):=by
 unfold sf150 at hF
 refine z8 hd hs lw150 rfl rfl (by rfl) (fun st T hT=>?_)
 have hfl:n0 ≤ n0:=Nat.le_refl n0
 have t0:=hT 0 _ rfl
 dsimp only [L150]
 refine zg (zh ?_);refine zW st (fun b1 h2 n3 st=>?_);refine za ?_;refine zf (th_n ?_);refine zg ?_;refine zg (zh ?_);refine zK (vs:=[(i64 a0_0),(i64 a0_1),(i64 a0_2),(i64 a0_3)]) (st.at (i:=0) rfl).2.2 rfl ?_;obtain ⟨v4,e5,hF⟩:=zm hF;refine zI st (ct168 N e5 st.d st.sub ) (fun n6 st=>?_);refine yo ?_;refine zf (th_n ?_);refine zB (fun hb7=>?_) (fun hb7=>?_)
 ·have hF:=zw hb7 hF;refine zg (zh ?_);refine za ?_;refine zf (th_n ?_);refine zu ?_;refine th_r ?_;obtain rfl:=inj hF
  exact zD st (Res.t gA Res.nil) rfl rfl
 ·have hF:=zx hb7 hF;refine zA (th_n ?_);refine zg (zh ?_);refine za ?_;refine zf (th_n ?_);refine zu ?_;obtain rfl:=inj hF
  exact zD st (Res.t gA Res.nil) rfl rfl
theorem ct151 (N:Nat) {a0:(List (Int × Int × Int × Int))} {a1f0_0 a1f0_1 a1f0_2 a1f0_3:Int} {r:Bool} (hF:sf151 N a0 a1f0_0 a1f0_1 a1f0_2 a1f0_3 = some r) (hd:D h0 n0) (hs:F0.sub h0) {pa0:Option (Nat × Nat)} {ca0:Nat} (ra0:RowF (rP rI (rP rI (rP rI rI))) 4 F0 pa0 ca0 a0):C LW fl 151 [(.slice pa0 (a0).length ca0),(.func 152 [(.agg [(i64 a1f0_0),(i64 a1f0_1),(i64 a1f0_2),(i64 a1f0_3)])] [])] ⟨h0,n0⟩ (KS (.bool r) n0 h0):=by
 unfold sf151 at hF
 refine z8 hd hs lw151 rfl rfl (by rfl) (fun st T hT=>?_)
 have hfl:n0 ≤ n0:=Nat.le_refl n0
 have t0:=hT 0 _ rfl
 have t1:=hT 1 _ rfl
 dsimp only [L151]
 refine zg (zh ?_);refine za ?_;refine zf (th_n ?_);refine zg ?_;refine zg (zh ?_);refine za ?_;refine yA ?_;refine za ?_;refine zf (th_n ?_);refine zE ?_;obtain ⟨y14,hy,hF⟩:=zm hF;refine z5 (sf151_L1 N a0 a1f0_0 a1f0_1 a1f0_2 a1f0_3) (fun x1 T ds2 h nx=>∃ (F2:PH),ds2 = [] ∧ PH.le F0 F2 ∧ St n0 h0 F0 F2 h nx [] ∧ T.get 1 = some (.func 152 [(.agg [(i64 a1f0_0),(i64 a1f0_1),(i64 a1f0_2),(i64 a1f0_3)])] []) ∧ T.get 7 = some (.slice pa0 (a0).length ca0) ∧ T.get 8 = some (i64 ((a0).length:Int)) ∧ T.get 9 = some (i64 x1)) (fun y e a σ=>(∃ u,y = (.inl u) ∧ e = .ret ∧ a.nt = 18 ∧ ∃ (F16:PH),a.defers = [] ∧ PH.le F0 F16 ∧ St n0 h0 F0 F16 σ.h σ.nx [] ∧ a.tmps.get 4 = some (.bool false)) ∨ (∃ u,y = (.inr u) ∧ e = .exit 0 ∧ a.nt = 18 ∧ ∃ (F18:PH),a.defers = [] ∧ PH.le F0 F18 ∧ St n0 h0 F0 F18 σ.h σ.nx [])) (fun x1 T ds2 h nx s hp hF=>?_) N _ y14 _ _ _ _ hy ⟨F0,rfl,(PH.le.refl _),st,gA,gA,gA,gA⟩ (fun e a σ hne hq=>?_)
 ·obtain ⟨F2,rfl,le2,st,t1,t7,t8,t9⟩:=hp;unfold sf151_L1 at hF;unfold L151w0;refine zg (zh ?_);refine yg ?_;refine zf (th_n ?_);refine zg ?_;refine zB (fun hb19=>?_) (fun hb19=>?_)
  ·have hF:=zw hb19 hF;refine zA (th_n ?_);refine zg ?_;refine zE ?_;refine zg (zh ?_);obtain ⟨n20,x20,z20,l20,g20,hF⟩:=zZ hF;obtain ⟨b20,o20,s20,j20,r20,e20,f20,k20,⟨_,_,rfl,rfl,⟨_,_,rfl,rfl,⟨_,_,rfl,rfl,rfl⟩⟩⟩⟩:=RowF.get ra0 g20;refine yt e20 z20 l20 ?_;refine zK (st.sub _ _ (le2 _ _ f20)) k20 ?_;refine zM st (fun b21 h22 n23 st=>?_);refine v_st (cs':=[(i64 x20.1),(i64 x20.2.1),(i64 x20.2.2.1),(i64 x20.2.2.2)]) st 0 rfl rfl rfl rfl hfl (fun h24 st=>?_);refine zf (th_n ?_);refine zg (zh ?_);refine za ?_;refine zK (vs:=[(i64 x20.1),(i64 x20.2.1),(i64 x20.2.2.1),(i64 x20.2.2.2)]) (st.at (i:=0) rfl).2.2 rfl ?_
   obtain ⟨v25,e26,hF⟩:=zm hF;refine zI st (ct152 N e26 st.d st.sub ) (fun n27 st=>?_);refine yo ?_;refine zf (th_n ?_);refine zB (fun hb28=>?_) (fun hb28=>?_)
   ·have hF:=zw hb28 hF;refine zg (zh ?_);refine za ?_;refine zf (th_n ?_);refine zu ?_;refine ib_r ?_;refine th_r ?_;refine th_r ?_;refine ⟨_,(inj hF).symm,.inl ⟨_,rfl,rfl,rfl,?_⟩⟩;dsimp only
    exact ⟨F2,rfl,le2,(st.drop (by first | exact List.Sublist.refl _ | (repeat first | exact List.nil_sublist _ | refine List.Sublist.cons_cons _ ?_ | refine List.Sublist.cons _ ?_))),gA⟩
   ·have hF:=zx hb28 hF;refine zA ?_;refine ib_n ?_;refine th_n ?_;refine zh ?_;obtain ⟨q29,hF⟩:=zj hF;refine zO q29 ?_;refine za ?_;refine zf ?_;refine thn ⟨_,(inj hF).symm,rfl,?_⟩;dsimp only
    exact ⟨F2,rfl,le2,(st.drop (by first | exact List.Sublist.refl _ | (repeat first | exact List.nil_sublist _ | refine List.Sublist.cons_cons _ ?_ | refine List.Sublist.cons _ ?_))),gA,gA,gA,gA⟩
  ·have hF:=zx hb19 hF;refine ya ?_;refine th_e ?_;refine th_e ?_;refine ⟨_,(inj hF).symm,.inr (⟨_,rfl,rfl,rfl,?_⟩)⟩;dsimp only
   exact ⟨F2,rfl,le2,st⟩
 ·rcases hq with hq | hq
  ·obtain ⟨N9,T,ds16⟩:=a;obtain ⟨h30,n31⟩:=σ;obtain ⟨w15,rfl,rfl,e1,F16,e2,le16,st,t4⟩:=hq
   dsimp only at e1 e2
   subst e1
   subst e2
   dsimp only at st t4
   have hF:=vg hF;refine ib_r ?_;refine th_r ?_;obtain rfl:=inj hF
   exact zD st (Res.t gA Res.nil) rfl rfl
  ·obtain ⟨N9,T,ds18⟩:=a;obtain ⟨h32,n33⟩:=σ;obtain ⟨w17,rfl,rfl,e1,F18,e2,le18,st⟩:=hq
   dsimp only at e1 e2
   subst e1
   subst e2
   dsimp only at st
   have hF:=ve hF;refine ib_e ?_;refine th_n ?_;refine zg (zh ?_);refine za ?_;refine zf (th_n ?_);refine zu ?_;obtain rfl:=inj hF
   exact zD st (Res.t gA Res.nil) rfl rfl
end Go.Hx.V

namespace Go.Hx.V
open Go.Hx
set_option maxRecDepth 20000
set_option maxHeartbeats 4000000
variable {fl : Nat} {h0 : Tr HBlk} {n0 : Nat} {F0 : PH}
attribute [local irreducible] W R C thenH inBlockH Tr.get Tr.set lo ck bnd ix iter
theorem ct135 (N:Nat) {a0_0 a0_1 a0_2 a0_3:Int} {a1:(List (Int × Int × Int × Int))} {r:(Int × Int × Int × Int × Int × (Nat → Int) × Bool)} (hF:sf135 N a0_0 a0_1 a0_2 a0_3 a1 = some r) (hd:D h0 n0) (hs:F0.sub h0) {pa1:Option (Nat × Nat)} {ca1:Nat} (ra1:RowF (rP rI (rP rI (rP rI rI))) 4 F0 pa1 ca1 a1):C LW fl 135 [(.agg [(i64 a0_0),(i64 a0_1),(i64 a0_2),(i64 a0_3)]),(.slice pa1 (a1).length ca1)] ⟨h0,n0⟩ (KS (.tuple [(.agg ([(i64 r.1),(i64 r.2.1),(i64 r.2.2.1),(i64 r.2.2.2.1),(i64 r.2.2.2.2.1)] ++ (eI .i64 169 r.2.2.2.2.2.1))),(.bool r.2.2.2.2.2.2)]) n0 h0):=by
 unfold sf135 at hF
 refine z8 hd hs lw135 rfl rfl (by rfl) (fun st T hT=>?_)
 have hfl:n0 ≤ n0:=Nat.le_refl n0
 have t0:=hT 0 _ rfl
 have t1:=hT 1 _ rfl
 dsimp only [L135]
 refine zg (zh ?_);refine zW st (fun b1 h2 n3 st=>?_);refine zM st (fun b4 h5 n6 st=>?_)
 have st:=st.cells 1 rfl ([(i64 0),(i64 0),(i64 0),(i64 0),(i64 0)] ++ (eI .i64 169 (fun _=>0))) rfl
 refine za ?_;refine zf (th_n ?_);refine zg (zh ?_);refine zK (vs:=[(i64 a0_0),(i64 a0_1),(i64 a0_2),(i64 a0_3)]) (st.at (i:=0) rfl).2.2 rfl ?_;obtain ⟨v7,e8,hF⟩:=zm hF;refine zI st (ct153 N e8 st.d st.sub ) (fun n9 st=>?_);refine zM st (fun b10 h11 n12 st=>?_)
 have st:=st.cells 2 rfl ([(i64 0),(i64 0),(i64 0),(i64 0),(i64 0)] ++ (eI .i64 169 (fun _=>0))) rfl
 refine v_st (v:=(.agg ([(i64 v7.1),(i64 v7.2.1),(i64 v7.2.2.1),(i64 v7.2.2.2.1),(i64 v7.2.2.2.2.1)] ++ (eI .i64 169 v7.2.2.2.2.2)))) (cs':=([(i64 v7.1),(i64 v7.2.1),(i64 v7.2.2.1),(i64 v7.2.2.2.1),(i64 v7.2.2.2.2.1)] ++ (eI .i64 169 v7.2.2.2.2.2))) st 2 rfl (yc [] rfl (by simp [HV.cells,zy,yn])) (zY _ zy (by rfl)) (zX _ (by rfl) ym) hfl (fun h13 st=>?_)
 refine za ?_;refine zf (th_n ?_);refine zg ?_;refine zh ?_
 have w17:MR (.row [.i .i64,.i .i64,.i .i64,.i .i64]) (fun x:(Int × Int × Int × Int)=>HV.agg [HV.int .i64 x.1,HV.int .i64 x.2.1,HV.int .i64 x.2.2.1,HV.int .i64 x.2.2.2]) (fun x:Bool=>HV.bool x) [] ((fun _=>none):((Int × Int × Int × Int) → Option Bool)):=MR.nil (KD.row (KRw.cons (KRw.cons (KRw.cons KRw.one))))
 refine v_mm st (fun b14 h15 n16 st=>?_);refine za ?_;refine zf (th_n ?_);refine zg ?_;refine zg (zh ?_);refine za ?_;refine yA ?_;refine za ?_;refine zf (th_n ?_);refine zE ?_;obtain ⟨y38,hy,hF⟩:=zm hF;refine z5 (sf135_L1 N a1) (fun x18 T ds19 h nx=>∃ (F19:PH) (es20:List (HV × HV)),ds19 = [] ∧ PH.le F0 F19 ∧ St n0 h0 F0 F19 h nx [.bx b1 [(i64 a0_0),(i64 a0_1),(i64 a0_2),(i64 a0_3)],.bx b4 ([(i64 x18.2.2.2.2.2.2.2.2.1),(i64 x18.2.2.2.2.2.2.2.2.2.1),(i64 x18.2.2.2.2.2.2.2.2.2.2.1),(i64 x18.2.2.2.2.2.2.2.2.2.2.2.1),(i64 x18.2.2.2.2.2.2.2.2.2.2.2.2.1)] ++ (eI .i64 169 x18.2.2.2.2.2.2.2.2.2.2.2.2.2)),.bx b10 ([(i64 x18.2.2.1),(i64 x18.2.2.2.1),(i64 x18.2.2.2.2.1),(i64 x18.2.2.2.2.2.1),(i64 x18.2.2.2.2.2.2.1)] ++ (eI .i64 169 x18.2.2.2.2.2.2.2.1)),.any b14 (.map es20)] ∧ MR (.row [.i .i64,.i .i64,.i .i64,.i .i64]) (fun x:(Int × Int × Int × Int)=>HV.agg [HV.int .i64 x.1,HV.int .i64 x.2.1,HV.int .i64 x.2.2.1,HV.int .i64 x.2.2.2]) (fun x:Bool=>HV.bool x) es20 x18.2.1 ∧ T.get 4 = some (.ptr (some (b4,0))) ∧ T.get 6 = some (.ptr (some (b10,0))) ∧ T.get 8 = some (.map (some b14)) ∧ T.get 14 = some (.slice pa1 (a1).length ca1) ∧ T.get 15 = some (i64 ((a1).length:Int)) ∧ T.get 16 = some (i64 x18.1)) (fun y e a σ=>(∃ u,y = (.inl u) ∧ e = .ret ∧ a.nt = 36 ∧ ∃ (F40:PH) (es41:List (HV × HV)),a.defers = [] ∧ PH.le F0 F40 ∧ St n0 h0 F0 F40 σ.h σ.nx [.bx b1 [(i64 a0_0),(i64 a0_1),(i64 a0_2),(i64 a0_3)],.bx b4 ([(i64 u.2.2.2.2.2.2.2.1),(i64 u.2.2.2.2.2.2.2.2.1),(i64 u.2.2.2.2.2.2.2.2.2.1),(i64 u.2.2.2.2.2.2.2.2.2.2.1),(i64 u.2.2.2.2.2.2.2.2.2.2.2.1)] ++ (eI .i64 169 u.2.2.2.2.2.2.2.2.2.2.2.2)),.bx b10 ([(i64 u.2.1),(i64 u.2.2.1),(i64 u.2.2.2.1),(i64 u.2.2.2.2.1),(i64 u.2.2.2.2.2.1)] ++ (eI .i64 169 u.2.2.2.2.2.2.1)),.any b14 (.map es41)] ∧ MR (.row [.i .i64,.i .i64,.i .i64,.i .i64]) (fun x:(Int × Int × Int × Int)=>HV.agg [HV.int .i64 x.1,HV.int .i64 x.2.1,HV.int .i64 x.2.2.1,HV.int .i64 x.2.2.2]) (fun x:Bool=>HV.bool x) es41 u.1 ∧ a.tmps.get 4 = some (.ptr (some (b4,0))) ∧ a.tmps.get 5 = some (.bool false)) ∨ (∃ u,y = (.inr u) ∧ e = .exit 0 ∧ a.nt = 36 ∧ ∃ (F43:PH) (es44:List (HV × HV)),a.defers = [] ∧ PH.le F0 F43 ∧ St n0 h0 F0 F43 σ.h σ.nx [.bx b1 [(i64 a0_0),(i64 a0_1),(i64 a0_2),(i64 a0_3)],.bx b4 ([(i64 u.2.2.2.2.2.2.2.1),(i64 u.2.2.2.2.2.2.2.2.1),(i64 u.2.2.2.2.2.2.2.2.2.1),(i64 u.2.2.2.2.2.2.2.2.2.2.1),(i64 u.2.2.2.2.2.2.2.2.2.2.2.1)] ++ (eI .i64 169 u.2.2.2.2.2.2.2.2.2.2.2.2)),.bx b10 ([(i64 u.2.1),(i64 u.2.2.1),(i64 u.2.2.2.1),(i64 u.2.2.2.2.1),(i64 u.2.2.2.2.2.1)] ++ (eI .i64 169 u.2.2.2.2.2.2.1)),.any b14 (.map es44)] ∧ MR (.row [.i .i64,.i .i64,.i .i64,.i .i64]) (fun x:(Int × Int × Int × Int)=>HV.agg [HV.int .i64 x.1,HV.int .i64 x.2.1,HV.int .i64 x.2.2.1,HV.int .i64 x.2.2.2]) (fun x:Bool=>HV.bool x) es44 u.1 ∧ a.tmps.get 4 = some (.ptr (some (b4,0))) ∧ a.tmps.get 6 = some (.ptr (some (b10,0))))) (fun x18 T ds19 h nx s hp hF=>?_) N _ y38 _ _ _ _ hy ⟨F0,[],rfl,(PH.le.refl _),st,w17,gA,gA,gA,gA,gA,gA⟩ (fun e a σ hne hq=>?_)
 ·obtain ⟨F19,es20,rfl,le19,st,w20,t4,t6,t8,t14,t15,t16⟩:=hp;unfold sf135_L1 at hF;unfold L135w0;refine zg (zh ?_);refine yg ?_;refine zf (th_n ?_);refine zg ?_;refine zB (fun hb45=>?_) (fun hb45=>?_)
  ·have hF:=zw hb45 hF;refine zA (th_n ?_);refine zg ?_;refine zE ?_;refine zg (zh ?_);obtain ⟨n46,x46,z46,l46,g46,hF⟩:=zZ hF;obtain ⟨b46,o46,s46,j46,r46,e46,f46,k46,⟨_,_,rfl,rfl,⟨_,_,rfl,rfl,⟨_,_,rfl,rfl,rfl⟩⟩⟩⟩:=RowF.get ra1 g46;refine yt e46 z46 l46 ?_;refine zK (st.sub _ _ (le19 _ _ f46)) k46 ?_;refine zM st (fun b47 h48 n49 st=>?_);refine v_st (cs':=[(i64 x46.1),(i64 x46.2.1),(i64 x46.2.2.1),(i64 x46.2.2.2)]) st 4 rfl rfl rfl rfl hfl (fun h50 st=>?_);refine zf (th_n ?_);refine zg ?_;refine zg (zh ?_);refine za ?_;refine zK (vs:=[(i64 x46.1),(i64 x46.2.1),(i64 x46.2.2.1),(i64 x46.2.2.2)]) (st.at (i:=4) rfl).2.2 rfl ?_
   refine v_lk1 w20 (st.at (i:=3) rfl).2.2 (x46.1,x46.2.1,x46.2.2.1,x46.2.2.2) false (kv:=(.agg [(i64 x46.1),(i64 x46.2.1),(i64 x46.2.2.1),(i64 x46.2.2.2)])) rfl rfl ?_;refine zf (th_n ?_);refine zB (fun hb51=>?_) (fun hb51=>?_)
   ·have hF:=zw hb51 hF;refine ya ?_;refine th_e ?_;refine ib_e ?_;refine th_n ?_;refine zh ?_;obtain ⟨q52,hF⟩:=zj hF;refine zO q52 ?_;refine za ?_;refine zf ?_;refine thn ⟨_,(inj hF).symm,rfl,?_⟩;dsimp only
    exact ⟨F19,es20,rfl,le19,(st.drop (by first | exact List.Sublist.refl _ | (repeat first | exact List.nil_sublist _ | refine List.Sublist.cons_cons _ ?_ | refine List.Sublist.cons _ ?_))),w20,gA,gA,gA,gA,gA,gA⟩
   ·have hF:=zx hb51 hF;refine zA (th_n ?_);refine zg (zh ?_);refine za ?_;refine zK (vs:=[(i64 x46.1),(i64 x46.2.1),(i64 x46.2.2.1),(i64 x46.2.2.2)]) (st.at (i:=4) rfl).2.2 rfl ?_;refine v_mu st 3 rfl w20 (x46.1,x46.2.1,x46.2.2.1,x46.2.2.2) true (kv:=(.agg [(i64 x46.1),(i64 x46.2.1),(i64 x46.2.2.1),(i64 x46.2.2.2)])) (vv:=(.bool true)) rfl rfl hfl (fun es53 h54 w53 st=>?_);refine zf (th_n ?_);refine zg (zh ?_);refine zK (vs:=([(i64 x18.2.2.1),(i64 x18.2.2.2.1),(i64 x18.2.2.2.2.1),(i64 x18.2.2.2.2.2.1),(i64 x18.2.2.2.2.2.2.1)] ++ (eI .i64 169 x18.2.2.2.2.2.2.2.1))) (st.at (i:=2) rfl).2.2 (zS (E:=(eI .i64 169 x18.2.2.2.2.2.2.2.1)) [] [(i64 x18.2.2.1),(i64 x18.2.2.2.1),(i64 x18.2.2.2.2.1),(i64 x18.2.2.2.2.2.1),(i64 x18.2.2.2.2.2.2.1)] rfl zy rfl) ?_
    refine zK (vs:=[(i64 x46.1),(i64 x46.2.1),(i64 x46.2.2.1),(i64 x46.2.2.2)]) (st.at (i:=4) rfl).2.2 rfl ?_;obtain ⟨v55,e56,hF⟩:=zm hF;refine zI st (ct154 N e56 st.d st.sub ) (fun n57 st=>?_);refine za ?_;refine v_xt rfl ?_;refine v_xt rfl ?_
    refine v_st (v:=(.agg ([(i64 v55.1),(i64 v55.2.1),(i64 v55.2.2.1),(i64 v55.2.2.2.1),(i64 v55.2.2.2.2.1)] ++ (eI .i64 169 v55.2.2.2.2.2.1)))) (cs':=([(i64 v55.1),(i64 v55.2.1),(i64 v55.2.2.1),(i64 v55.2.2.2.1),(i64 v55.2.2.2.2.1)] ++ (eI .i64 169 v55.2.2.2.2.2.1))) st 2 rfl (yc [] rfl (by simp [HV.cells,zy,yn])) (zY _ zy (by rfl)) (zX _ (by rfl) ym) hfl (fun h58 st=>?_)
    refine za ?_;refine zf (th_n ?_);refine zg (zh ?_);refine za ?_;refine yo ?_;refine zf (th_n ?_);refine zB (fun hb59=>?_) (fun hb59=>?_)
    ·have hF:=zw hb59 hF;refine zg (zh ?_);refine zR (cs:=([(i64 0),(i64 0),(i64 0),(i64 0),(i64 0)] ++ (eI .i64 169 (fun _=>0)))) rfl ?_
     refine v_st (v:=(.agg ([(i64 0),(i64 0),(i64 0),(i64 0),(i64 0)] ++ (eI .i64 169 (fun _=>0))))) (cs':=([(i64 0),(i64 0),(i64 0),(i64 0),(i64 0)] ++ (eI .i64 169 (fun _=>0)))) st 1 rfl (yc [] rfl (by simp [HV.cells,zy,yn])) (zY _ zy (by rfl)) (zX _ (by rfl) ym) hfl (fun h60 st=>?_)
     refine za ?_;refine zf (th_n ?_);refine zu ?_;refine ib_r ?_;refine th_r ?_;refine th_r ?_;refine ⟨_,(inj hF).symm,.inl ⟨_,rfl,rfl,rfl,?_⟩⟩;dsimp only
     exact ⟨F19,es53,rfl,le19,(st.drop (by first | exact List.Sublist.refl _ | (repeat first | exact List.nil_sublist _ | refine List.Sublist.cons_cons _ ?_ | refine List.Sublist.cons _ ?_))),w53,gA,gA⟩
    ·have hF:=zx hb59 hF;refine zA ?_;refine ib_n ?_;refine th_n ?_;refine zh ?_;obtain ⟨q61,hF⟩:=zj hF;refine zO q61 ?_;refine za ?_;refine zf ?_;refine thn ⟨_,(inj hF).symm,rfl,?_⟩;dsimp only
     exact ⟨F19,es53,rfl,le19,(st.drop (by first | exact List.Sublist.refl _ | (repeat first | exact List.nil_sublist _ | refine List.Sublist.cons_cons _ ?_ | refine List.Sublist.cons _ ?_))),w53,gA,gA,gA,gA,gA,gA⟩
  ·have hF:=zx hb45 hF;refine ya ?_;refine th_e ?_;refine th_e ?_;refine ⟨_,(inj hF).symm,.inr (⟨_,rfl,rfl,rfl,?_⟩)⟩;dsimp only
   exact ⟨F19,es20,rfl,le19,st,w20,gA,gA⟩
 ·rcases hq with hq | hq
  ·obtain ⟨N9,T,ds40⟩:=a;obtain ⟨h62,n63⟩:=σ;obtain ⟨w39,rfl,rfl,e1,F40,es41,e2,le40,st,w41,t4,t5⟩:=hq
   dsimp only at e1 e2
   subst e1
   subst e2
   dsimp only at st t4 t5
   have hF:=vg hF;refine ib_r ?_;refine th_r ?_;obtain rfl:=inj hF
   exact zD st (Res.c gA (st.at (i:=1) rfl).2.2 (show takeN _ _ = some ([(i64 w39.2.2.2.2.2.2.2.1),(i64 w39.2.2.2.2.2.2.2.2.1),(i64 w39.2.2.2.2.2.2.2.2.2.1),(i64 w39.2.2.2.2.2.2.2.2.2.2.1),(i64 w39.2.2.2.2.2.2.2.2.2.2.2.1)] ++ (eI .i64 169 w39.2.2.2.2.2.2.2.2.2.2.2.2)) from (zS (E:=(eI .i64 169 w39.2.2.2.2.2.2.2.2.2.2.2.2)) [] [(i64 w39.2.2.2.2.2.2.2.1),(i64 w39.2.2.2.2.2.2.2.2.1),(i64 w39.2.2.2.2.2.2.2.2.2.1),(i64 w39.2.2.2.2.2.2.2.2.2.2.1),(i64 w39.2.2.2.2.2.2.2.2.2.2.2.1)] rfl zy rfl)) (Res.t gA Res.nil)) rfl rfl
  ·obtain ⟨N9,T,ds43⟩:=a;obtain ⟨h64,n65⟩:=σ;obtain ⟨w42,rfl,rfl,e1,F43,es44,e2,le43,st,w44,t4,t6⟩:=hq
   dsimp only at e1 e2
   subst e1
   subst e2
   dsimp only at st t4 t6
   have hF:=ve hF;refine ib_e ?_;refine th_n ?_;refine zg (zh ?_);refine zK (vs:=([(i64 w42.2.1),(i64 w42.2.2.1),(i64 w42.2.2.2.1),(i64 w42.2.2.2.2.1),(i64 w42.2.2.2.2.2.1)] ++ (eI .i64 169 w42.2.2.2.2.2.2.1))) (st.at (i:=2) rfl).2.2 (zS (E:=(eI .i64 169 w42.2.2.2.2.2.2.1)) [] [(i64 w42.2.1),(i64 w42.2.2.1),(i64 w42.2.2.2.1),(i64 w42.2.2.2.2.1),(i64 w42.2.2.2.2.2.1)] rfl zy rfl) ?_
   refine v_st (v:=(.agg ([(i64 w42.2.1),(i64 w42.2.2.1),(i64 w42.2.2.2.1),(i64 w42.2.2.2.2.1),(i64 w42.2.2.2.2.2.1)] ++ (eI .i64 169 w42.2.2.2.2.2.2.1)))) (cs':=([(i64 w42.2.1),(i64 w42.2.2.1),(i64 w42.2.2.2.1),(i64 w42.2.2.2.2.1),(i64 w42.2.2.2.2.2.1)] ++ (eI .i64 169 w42.2.2.2.2.2.2.1))) st 1 rfl (yc [] rfl (by simp [HV.cells,zy,yn])) (zY _ zy (by rfl)) (zX _ (by rfl) ym) hfl (fun h66 st=>?_)
   refine za ?_;refine zf (th_n ?_);refine zu ?_;obtain rfl:=inj hF
   exact zD st (Res.c gA (st.at (i:=1) rfl).2.2 (show takeN _ _ = some ([(i64 w42.2.1),(i64 w42.2.2.1),(i64 w42.2.2.2.1),(i64 w42.2.2.2.2.1),(i64 w42.2.2.2.2.2.1)] ++ (eI .i64 169 w42.2.2.2.2.2.2.1)) from (zS (E:=(eI .i64 169 w42.2.2.2.2.2.2.1)) [] [(i64 w42.2.1),(i64 w42.2.2.1),(i64 w42.2.2.2.1),(i64 w42.2.2.2.2.1),(i64 w42.2.2.2.2.2.1)] rfl zy rfl)) (Res.t gA Res.nil)) rfl rfl
theorem ct155 (N:Nat) {a0:(List (Int × Int))} {r:Bool} (hF:sf155 N a0 = some r) (hd:D h0 n0) (hs:F0.sub h0) {pa0:Option (Nat × Nat)} {ca0:Nat} (ra0:RowF (rP rI rI) 2 F0 pa0 ca0 a0):C LW fl 155 [(.slice pa0 (a0).length ca0),(.func 156 [] [])] ⟨h0,n0⟩ (KS (.bool r) n0 h0):=by
 unfold sf155 at hF
 refine z8 hd hs lw155 rfl rfl (by rfl) (fun st T hT=>?_)
 have hfl:n0 ≤ n0:=Nat.le_refl n0
 have t0:=hT 0 _ rfl
 have t1:=hT 1 _ rfl
 dsimp only [L155]
 refine zg (zh ?_);refine za ?_;refine zf (th_n ?_);refine zg ?_;refine zg (zh ?_);refine za ?_;refine yA ?_;refine za ?_;refine zf (th_n ?_);refine zE ?_;obtain ⟨y14,hy,hF⟩:=zm hF;refine z5 (sf155_L1 N a0) (fun x1 T ds2 h nx=>∃ (F2:PH),ds2 = [] ∧ PH.le F0 F2 ∧ St n0 h0 F0 F2 h nx [] ∧ T.get 1 = some (.func 156 [] []) ∧ T.get 7 = some (.slice pa0 (a0).length ca0) ∧ T.get 8 = some (i64 ((a0).length:Int)) ∧ T.get 9 = some (i64 x1)) (fun y e a σ=>(∃ u,y = (.inl u) ∧ e = .ret ∧ a.nt = 18 ∧ ∃ (F16:PH),a.defers = [] ∧ PH.le F0 F16 ∧ St n0 h0 F0 F16 σ.h σ.nx [] ∧ a.tmps.get 4 = some (.bool false)) ∨ (∃ u,y = (.inr u) ∧ e = .exit 0 ∧ a.nt = 18 ∧ ∃ (F18:PH),a.defers = [] ∧ PH.le F0 F18 ∧ St n0 h0 F0 F18 σ.h σ.nx [])) (fun x1 T ds2 h nx s hp hF=>?_) N _ y14 _ _ _ _ hy ⟨F0,rfl,(PH.le.refl _),st,gA,gA,gA,gA⟩ (fun e a σ hne hq=>?_)
 ·obtain ⟨F2,rfl,le2,st,t1,t7,t8,t9⟩:=hp;unfold sf155_L1 at hF;unfold L155w0;refine zg (zh ?_);refine yg ?_;refine zf (th_n ?_);refine zg ?_;refine zB (fun hb19=>?_) (fun hb19=>?_)
  ·have hF:=zw hb19 hF;refine zA (th_n ?_);refine zg ?_;refine zE ?_;refine zg (zh ?_);obtain ⟨n20,x20,z20,l20,g20,hF⟩:=zZ hF;obtain ⟨b20,o20,s20,j20,r20,e20,f20,k20,⟨_,_,rfl,rfl,rfl⟩⟩:=RowF.get ra0 g20;refine yt e20 z20 l20 ?_;refine zK (st.sub _ _ (le2 _ _ f20)) k20 ?_;refine zM st (fun b21 h22 n23 st=>?_);refine v_st (cs':=[(i64 x20.1),(i64 x20.2)]) st 0 rfl rfl rfl rfl hfl (fun h24 st=>?_);refine zf (th_n ?_);refine zg (zh ?_);refine za ?_;refine zK (vs:=[(i64 x20.1),(i64 x20.2)]) (st.at (i:=0) rfl).2.2 rfl ?_;obtain ⟨v25,e26,hF⟩:=zm hF;refine zI st (ct156 N e26 st.d st.sub ) (fun n27 st=>?_)
   refine yo ?_;refine zf (th_n ?_);refine zB (fun hb28=>?_) (fun hb28=>?_)
   ·have hF:=zw hb28 hF;refine zg (zh ?_);refine za ?_;refine zf (th_n ?_);refine zu ?_;refine ib_r ?_;refine th_r ?_;refine th_r ?_;refine ⟨_,(inj hF).symm,.inl ⟨_,rfl,rfl,rfl,?_⟩⟩;dsimp only
    exact ⟨F2,rfl,le2,(st.drop (by first | exact List.Sublist.refl _ | (repeat first | exact List.nil_sublist _ | refine List.Sublist.cons_cons _ ?_ | refine List.Sublist.cons _ ?_))),gA⟩
   ·have hF:=zx hb28 hF;refine zA ?_;refine ib_n ?_;refine th_n ?_;refine zh ?_;obtain ⟨q29,hF⟩:=zj hF;refine zO q29 ?_;refine za ?_;refine zf ?_;refine thn ⟨_,(inj hF).symm,rfl,?_⟩;dsimp only
    exact ⟨F2,rfl,le2,(st.drop (by first | exact List.Sublist.refl _ | (repeat first | exact List.nil_sublist _ | refine List.Sublist.cons_cons _ ?_ | refine List.Sublist.cons _ ?_))),gA,gA,gA,gA⟩
  ·have hF:=zx hb19 hF;refine ya ?_;refine th_e ?_;refine th_e ?_;refine ⟨_,(inj hF).symm,.inr (⟨_,rfl,rfl,rfl,?_⟩)⟩;dsimp only
   exact ⟨F2,rfl,le2,st⟩
 ·rcases hq with hq | hq
  ·obtain ⟨N9,T,ds16⟩:=a;obtain ⟨h30,n31⟩:=σ;obtain ⟨w15,rfl,rfl,e1,F16,e2,le16,st,t4⟩:=hq
   dsimp only at e1 e2
   subst e1
   subst e2
   dsimp only at st t4
   have hF:=vg hF;refine ib_r ?_;refine th_r ?_;obtain rfl:=inj hF
   exact zD st (Res.t gA Res.nil) rfl rfl
  ·obtain ⟨N9,T,ds18⟩:=a;obtain ⟨h32,n33⟩:=σ;obtain ⟨w17,rfl,rfl,e1,F18,e2,le18,st⟩:=hq
   dsimp only at e1 e2
   subst e1
   subst e2
   dsimp only at st
   have hF:=ve hF;refine ib_e ?_;refine th_n ?_;refine zg (zh ?_);refine za ?_;refine zf (th_n ?_);refine zu ?_;obtain rfl:=inj hF
   exact zD st (Res.t gA Res.nil) rfl rfl
theorem ct104 (N:Nat) {a0:(List (Int × Int))} {a1_0 a1_1 a2:Int} {r:(Nat → Int)} (hF:sf104 N a0 a1_0 a1_1 a2 = some r) (hd:D h0 n0) (hs:F0.sub h0) {pa0:Option (Nat × Nat)} {ca0:Nat} (ra0:RowF (rP rI rI) 2 F0 pa0 ca0 a0):C LW fl 104 [(.slice pa0 (a0).length ca0),(.agg [(i64 a1_0),(i64 a1_1)]),(i64 a2)] ⟨h0,n0⟩ (KS (.agg (eI .i64 22 r)) n0 h0):=by
 unfold sf104 at hF
 refine z8 hd hs lw104 rfl rfl (by rfl) (fun st T hT=>?_)
 have hfl:n0 ≤ n0:=Nat.le_refl n0
 have t0:=hT 0 _ rfl
 have t1:=hT 1 _ rfl
 have t2:=hT 2 _ rfl
 dsimp only [L104]
 refine zg (zh ?_);refine zW st (fun b1 h2 n3 st=>?_);refine zM st (fun b4 h5 n6 st=>?_)
 have st:=st.cells 1 rfl (eI .i64 22 (fun _=>0)) rfl
 refine zf (th_n ?_);refine zg (zh ?_);refine zM st (fun b7 h8 n9 st=>?_)
 have st:=st.cells 2 rfl (eI .i64 22 (fun _=>0)) rfl
 refine zf (th_n ?_);refine zg ?_;refine zg (zh ?_);refine za ?_;refine yA ?_;refine za ?_;refine zf (th_n ?_);refine zE ?_;obtain ⟨y26,hy,hF⟩:=zm hF;refine z5 (sf104_L1 N a0 a1_0 a1_1 a2) (fun x10 T ds11 h nx=>∃ (F11:PH),ds11 = [] ∧ PH.le F0 F11 ∧ St n0 h0 F0 F11 h nx [.bx b1 [(i64 a1_0),(i64 a1_1)],.bx b4 (eI .i64 22 (fun _=>0)),.bx b7 (eI .i64 22 x10.2)] ∧ T.get 2 = some (i64 a2) ∧ T.get 4 = some (.ptr (some (b1,0))) ∧ T.get 6 = some (.ptr (some (b4,0))) ∧ T.get 7 = some (.ptr (some (b7,0))) ∧ T.get 10 = some (.slice pa0 (a0).length ca0) ∧ T.get 11 = some (i64 ((a0).length:Int)) ∧ T.get 12 = some (i64 x10.1)) (fun y e a σ=>e = .exit 0 ∧ a.nt = 36 ∧ ∃ (F27:PH),a.defers = [] ∧ PH.le F0 F27 ∧ St n0 h0 F0 F27 σ.h σ.nx [.bx b1 [(i64 a1_0),(i64 a1_1)],.bx b4 (eI .i64 22 (fun _=>0)),.bx b7 (eI .i64 22 y)] ∧ a.tmps.get 6 = some (.ptr (some (b4,0))) ∧ a.tmps.get 7 = some (.ptr (some (b7,0)))) (fun x10 T ds11 h nx s hp hF=>?_) N _ y26 _ _ _ _ hy ⟨F0,rfl,(PH.le.refl _),st,gA,gA,gA,gA,gA,gA,gA⟩ (fun e a σ hne hq=>?_)
 ·obtain ⟨F11,rfl,le11,st,t2,t4,t6,t7,t10,t11,t12⟩:=hp;unfold sf104_L1 at hF;unfold L104w0;refine zg (zh ?_);refine yg ?_;refine zf (th_n ?_);refine zg ?_;refine zB (fun hb28=>?_) (fun hb28=>?_)
  ·have hF:=zw hb28 hF;refine zA (th_n ?_);refine zg ?_;refine zE ?_;refine zg (zh ?_);refine za ?_;obtain ⟨n29,x29,z29,l29,g29,hF⟩:=zZ hF;obtain ⟨b29,o29,s29,j29,r29,e29,f29,k29,⟨_,_,rfl,rfl,rfl⟩⟩:=RowF.get ra0 g29;refine yt e29 z29 l29 ?_;refine zK (st.sub _ _ (le11 _ _ f29)) k29 ?_;refine zM st (fun b30 h31 n32 st=>?_);refine za ?_;refine v_st (cs':=[(i64 x29.1),(i64 x29.2)]) st 3 rfl rfl rfl rfl hfl (fun h33 st=>?_);refine zf (th_n ?_);refine zh ?_;refine za ?_;refine v_fa ?_;refine zq (st.at (i:=3) rfl).2.2 rfl ?_;refine v_fa ?_;refine zq (st.at (i:=0) rfl).2.2 rfl ?_
   obtain ⟨q34,hF⟩:=zj hF;refine yL q34 ?_;refine za ?_;refine zR (cs:=[(i64 (x29.1 * a1_0)),(i64 a2)]) rfl ?_;refine v_fa ?_;refine zq (st.at (i:=3) rfl).2.2 rfl ?_;refine v_fa ?_;refine zq (st.at (i:=0) rfl).2.2 rfl ?_;obtain ⟨q35,hF⟩:=zj hF;refine yL q35 ?_;refine za ?_;refine zR (cs:=[(i64 (x29.2 * a1_1)),(i64 a2)]) rfl ?_;obtain ⟨v36,e37,hF⟩:=zm hF;refine zI st (ct142 N e37 st.d st.sub ) (fun n38 st=>?_);obtain ⟨q39,hF⟩:=zj hF
   refine zT (j:=(Int.toNat x10.1)) (Int.toNat_of_nonneg q39.1).symm (by omega) ?_
   refine v_st (o:=(0+(Int.toNat x10.1) * 2)) (v:=(.agg [(i64 v36.1),(i64 v36.2)])) (cs':=(eI .i64 22 (ups (ups x10.2 ((Int.toNat x10.1) * 2) v36.1) (((Int.toNat x10.1) * 2)+1) v36.2))) st 2 rfl (V.ar_set20 (ix:=((Int.toNat x10.1) * 2)) (by omega) (by omega)) rfl rfl hfl (fun h40 st=>?_)
   refine zf ?_;refine ib_n ?_;refine th_n ?_;refine zh ?_;obtain ⟨q41,hF⟩:=zj hF;refine zO q41 ?_;refine za ?_;refine zf ?_;refine thn ⟨_,(inj hF).symm,rfl,?_⟩;dsimp only
   exact ⟨F11,rfl,le11,(st.drop (by first | exact List.Sublist.refl _ | (repeat first | exact List.nil_sublist _ | refine List.Sublist.cons_cons _ ?_ | refine List.Sublist.cons _ ?_))),gA,gA,gA,gA,gA,gA,gA⟩
  ·have hF:=zx hb28 hF;refine ya ?_;refine th_e ?_;refine th_e ?_;refine ⟨_,(inj hF).symm,rfl,rfl,?_⟩;dsimp only
   exact ⟨F11,rfl,le11,st,gA,gA⟩
 ·obtain ⟨N9,T,ds27⟩:=a;obtain ⟨h42,n43⟩:=σ;obtain ⟨rfl,e1,F27,e2,le27,st,t6,t7⟩:=hq
  dsimp only at e1 e2
  subst e1
  subst e2
  dsimp only at st t6 t7
  refine ib_e ?_;refine th_n ?_;refine zg (zh ?_);refine zK (vs:=(eI .i64 22 y26)) (st.at (i:=2) rfl).2.2 (zS (E:=(eI .i64 22 y26)) [] [] rfl zy rfl) ?_
  refine v_st (v:=(.agg (eI .i64 22 y26))) (cs':=(eI .i64 22 y26)) st 1 rfl (yc [] rfl (by simp [HV.cells,zy,yn])) (zY (E:=(eI .i64 22 y26)) [] zy (by rfl)) (zX (E:=(eI .i64 22 y26)) [] (by rfl) ym) hfl (fun h44 st=>?_)
  refine zf (th_n ?_);refine zu ?_;obtain rfl:=inj hF
  exact zD st (Res.c gA (st.at (i:=1) rfl).2.2 (show takeN _ _ = some (eI .i64 22 y26) from (zS (E:=(eI .i64 22 y26)) [] [] rfl zy rfl)) Res.nil) rfl rfl
end Go.Hx.V

namespace Go.Hx.V
open Go.Hx
set_option maxRecDepth 20000
set_option maxHeartbeats 4000000
variable {fl : Nat} {h0 : Tr HBlk} {n0 : Nat} {F0 : PH}
attribute [local irreducible] W R C thenH inBlockH Tr.get Tr.set lo ck bnd ix iter
theorem ct106 (N:Nat) {a0_0 a0_1 a0_2 a0_3:Int} {a0_4:(List (Int × Int × Int × Int))} {a0_5:(List (Int × Int))} {a0_6 a0_7 a0_8 a0_9:Int} {a0_10:(Nat → Int)} {a1:Int} {r:(Int × Int)} (hF:sf106 N a0_0 a0_1 a0_2 a0_3 a0_4 a0_5 a0_6 a0_7 a0_8 a0_9 a0_10 a1 = some r) (hd:D h0 n0) (hs:F0.sub h0) {pa0_4:Option (Nat × Nat)} {ca0_4:Nat} {pa0_5:Option (Nat × Nat)} {ca0_5:Nat} (ra0_4:RowF (rP rI (rP rI (rP rI rI))) 4 F0 pa0_4 ca0_4 a0_4) (ra0_5:RowF (rP rI rI) 2 F0 pa0_5 ca0_5 a0_5):C LW fl 106 [(.agg ([(i64 a0_0),(i64 a0_1),(i64 a0_2),(i64 a0_3),(.slice pa0_4 (a0_4).length ca0_4),(.slice pa0_5 (a0_5).length ca0_5),(i64 a0_6),(i64 a0_7),(i64 a0_8),(i64 a0_9)] ++ (eI .i64 22 a0_10))),(i64 a1)] ⟨h0,n0⟩ (KS (.agg [(i64 r.1),(i64 r.2)]) n0 h0):=by
 unfold sf106 at hF
 refine z8 hd hs lw106 rfl rfl (by rfl) (fun st T hT=>?_)
 have hfl:n0 ≤ n0:=Nat.le_refl n0
 have t0:=hT 0 _ rfl
 have t1:=hT 1 _ rfl
 dsimp only [L106]
 refine zg (zh ?_);refine zW st (fun b1 h2 n3 st=>?_);refine zM st (fun b4 h5 n6 st=>?_);refine zf (th_n ?_);refine zg (zh ?_);refine v_fa ?_;refine v_fa ?_;refine v_fa ?_;refine zq (st.at (i:=0) rfl).2.2 rfl ?_;refine za ?_;obtain ⟨q7,hF⟩:=zj hF;refine yL q7 ?_;refine zR (cs:=[(i64 (a0_8 * a1)),(i64 100)]) rfl ?_;refine v_fa ?_;refine v_fa ?_;refine v_fa ?_;refine zq (st.at (i:=0) rfl).2.2 rfl ?_;refine za ?_;obtain ⟨q8,hF⟩:=zj hF;refine yL q8 ?_;refine zR (cs:=[(i64 (a0_9 * a1)),(i64 100)]) rfl ?_;obtain ⟨v9,e10,hF⟩:=zm hF;refine zI st (ct142 N e10 st.d st.sub ) (fun n11 st=>?_)
 refine v_st (cs':=[(i64 v9.1),(i64 v9.2)]) st 1 rfl rfl rfl rfl hfl (fun h12 st=>?_);refine zf (th_n ?_);refine zu ?_;obtain rfl:=inj hF
 exact zD st (Res.c gA (st.at (i:=1) rfl).2.2 (show takeN _ _ = some [(i64 v9.1),(i64 v9.2)] from rfl) Res.nil) rfl rfl
theorem ct123 (N:Nat) {a0_0 a0_1 a0_2 a0_3:Int} {r:Bool} (hF:sf123 N a0_0 a0_1 a0_2 a0_3 = some r) (hd:D h0 n0) (hs:F0.sub h0):C LW fl 123 [(.agg [(i64 a0_0),(i64 a0_1),(i64 a0_2),(i64 a0_3)])] ⟨h0,n0⟩ (KS (.bool r) n0 h0):=by
 unfold sf123 at hF
 refine z8 hd hs lw123 rfl rfl (by rfl) (fun st T hT=>?_)
 have hfl:n0 ≤ n0:=Nat.le_refl n0
 have t0:=hT 0 _ rfl
 dsimp only [L123]
 refine zg (zh ?_);refine zW st (fun b1 h2 n3 st=>?_);refine za ?_;refine zf (th_n ?_);refine zg (zh ?_);refine v_fa ?_;refine zq (st.at (i:=0) rfl).2.2 rfl ?_;obtain ⟨v4,e5,hF⟩:=zm hF;refine zI st (ct98 N e5 st.d st.sub ) (fun n6 st=>?_);refine za ?_
 rcases Bool.eq_false_or_eq_true v4 with hb7 | hb7
 ·have hF:=zw hb7 hF;refine zi hb7 (v_fa ?_);refine zi hb7 (zK (vs:=[(i64 a0_2),(i64 a0_3)]) (st.at (i:=0) rfl).2.2 rfl ?_);obtain ⟨v8,e9,hF⟩:=zm hF;refine zi hb7 (zI st (ct124 N e9 st.d st.sub ) (fun n10 st=>?_));refine zG hb7 ?_;refine za ?_
  rcases Bool.eq_false_or_eq_true v8 with hb11 | hb11
  ·have hF:=zw hb11 hF;refine zi hb11 (v_fa ?_);refine zi hb11 (zq (st.at (i:=0) rfl).2.2 rfl ?_);obtain ⟨v12,e13,hF⟩:=zm hF;refine zi hb11 (zI st (ct98 N e13 st.d st.sub ) (fun n14 st=>?_));refine zG hb11 ?_;refine za ?_
   rcases Bool.eq_false_or_eq_true v12 with hb15 | hb15
   ·have hF:=zw hb15 hF;refine zi hb15 (v_fa ?_);refine zi hb15 (zq (st.at (i:=0) rfl).2.2 rfl ?_);refine zi hb15 (v_fa ?_);refine zi hb15 (zq (st.at (i:=0) rfl).2.2 rfl ?_);refine zi hb15 (v_fa ?_);refine zi hb15 (v_fa ?_);refine zi hb15 (zq (st.at (i:=0) rfl).2.2 rfl ?_);obtain ⟨q16,hF⟩:=zj hF;refine zi hb15 (yL q16 ?_);refine zi hb15 (v_fa ?_);refine zi hb15 (zq (st.at (i:=0) rfl).2.2 rfl ?_);refine zi hb15 (v_fa ?_);refine zi hb15 (v_fa ?_);refine zi hb15 (zq (st.at (i:=0) rfl).2.2 rfl ?_);obtain ⟨q17,hF⟩:=zj hF;refine zi hb15 (yL q17 ?_);obtain ⟨v18,e19,hF⟩:=zm hF
    refine zi hb15 (zI st (ct98 N e19 st.d st.sub ) (fun n20 st=>?_));refine zG hb15 ?_;refine za ?_;refine zf (th_n ?_);refine zu ?_;obtain rfl:=inj hF
    exact zD st (Res.t gA Res.nil) rfl rfl
   ·have hF:=zx hb15 hF;refine ze hb15 ?_;refine ze hb15 ?_;refine ze hb15 ?_;refine ze hb15 ?_;refine ze hb15 ?_;refine ze hb15 ?_;refine ze hb15 ?_;refine ze hb15 ?_;refine ze hb15 ?_;refine ze hb15 ?_;refine ze hb15 ?_;refine ze hb15 ?_;refine ze hb15 ?_;refine ze hb15 ?_;refine ze hb15 ?_;refine zC hb15 ?_;refine za ?_;refine zf (th_n ?_);refine zu ?_;obtain rfl:=inj hF
    exact zD st (Res.t gA Res.nil) rfl rfl
  ·have hF:=zx hb11 hF;refine ze hb11 ?_;refine ze hb11 ?_;refine ze hb11 ?_;refine zC hb11 ?_;refine za ?_;refine ze rfl ?_;refine ze rfl ?_;refine ze rfl ?_;refine ze rfl ?_;refine ze rfl ?_;refine ze rfl ?_;refine ze rfl ?_;refine ze rfl ?_;refine ze rfl ?_;refine ze rfl ?_;refine ze rfl ?_;refine ze rfl ?_;refine ze rfl ?_;refine ze rfl ?_;refine ze rfl ?_;refine zC rfl ?_;refine za ?_;refine zf (th_n ?_);refine zu ?_;obtain rfl:=inj hF
   exact zD st (Res.t gA Res.nil) rfl rfl
 ·have hF:=zx hb7 hF;refine ze hb7 ?_;refine ze hb7 ?_;refine ze hb7 ?_;refine zC hb7 ?_;refine za ?_;refine ze rfl ?_;refine ze rfl ?_;refine ze rfl ?_;refine zC rfl ?_;refine za ?_;refine ze rfl ?_;refine ze rfl ?_;refine ze rfl ?_;refine ze rfl ?_;refine ze rfl ?_;refine ze rfl ?_;refine ze rfl ?_;refine ze rfl ?_;refine ze rfl ?_;refine ze rfl ?_;refine ze rfl ?_;refine ze rfl ?_;refine ze rfl ?_;refine ze rfl ?_;refine ze rfl ?_;refine zC rfl ?_;refine za ?_;refine zf (th_n ?_);refine zu ?_;obtain rfl:=inj hF
  exact zD st (Res.t gA Res.nil) rfl rfl
theorem ct53 (N:Nat) {a0_0 a0_1 a0_2 a0_3:Int} {a0_4:(List (Int × Int × Int × Int))} {a0_5:(List (Int × Int))} {a0_6 a0_7 a0_8 a0_9:Int} {a1:(List Int)} {a2:(List Int)} {r:(Int × Int × Int × Int × (List (Int × Int × Int × Int)) × (List (Int × Int)) × Int × Int × Int × Int × (List Int))} (hF:sf53 N a0_0 a0_1 a0_2 a0_3 a0_4 a0_5 a0_6 a0_7 a0_8 a0_9 a1 a2 = some r) (hd:D h0 n0) (hs:F0.sub h0) (hfl:fl ≤ n0) {pa0_4:Option (Nat × Nat)} {ca0_4:Nat} {pa0_5:Option (Nat × Nat)} {ca0_5:Nat} {pa1:Option (Nat × Nat)} {ca1:Nat} {pa2:Option (Nat × Nat)} {ca2:Nat} (ra0_4:RowF (rP rI (rP rI (rP rI rI))) 4 F0 pa0_4 ca0_4 a0_4) (ra0_5:RowF (rP rI rI) 2 F0 pa0_5 ca0_5 a0_5) (ra1:RowF (rK .u16) 1 F0 pa1 ca1 a1) (ra2:RowF (rK .u16) 1 F0 pa2 ca2 a2):C LW fl 53 [(.agg [(i64 a0_0),(i64 a0_1),(i64 a0_2),(i64 a0_3),(.slice pa0_4 (a0_4).length ca0_4),(.slice pa0_5 (a0_5).length ca0_5),(i64 a0_6),(i64 a0_7),(i64 a0_8),(i64 a0_9)]),(.slice pa1 (a1).length ca1),(.slice pa2 (a2).length ca2)] ⟨h0,n0⟩ (KR (rvT2A (rqC rI (rqC rI (rqC rI (rqC rI (rqC (rL (rP rI (rP rI (rP rI rI))) 4) (rqC (rL (rP rI rI) 2) (rqC rI (rqC rI (rqC rI (rqL rI (lvL rI 1)))))))))))) F0 h0 n0 r):=by
 unfold sf53 at hF
 refine vu hd hs hfl lw53 rfl rfl (by rfl) (fun st T hT=>?_)
 have t0:=hT 0 _ rfl
 have t1:=hT 1 _ rfl
 have t2:=hT 2 _ rfl
 dsimp only [L53]
 refine zg (zh ?_);refine zW st (fun b1 h2 n3 st=>?_);refine zM st (fun b4 h5 n6 st=>?_);refine za ?_;refine zf (th_n ?_);refine zg (zh ?_);refine v_fa ?_;refine zK (vs:=[(i64 a0_0),(i64 a0_1),(i64 a0_2),(i64 a0_3)]) (st.at (i:=0) rfl).2.2 rfl ?_;refine za ?_;obtain ⟨v7,e8,hF⟩:=zm hF;refine yC st (ct92 N e8 st.d st.sub (Nat.le_trans hfl st.ext.le) ra1) (fun u9 F9 h9 n9 le9 rv9 st=>?_);obtain ⟨py10,cy10,rfl,ry10⟩:=rv9;refine za ?_;refine zf (th_n ?_);refine zg (zh ?_);refine v_fa ?_;refine zK (vs:=[(i64 a0_0),(i64 a0_1),(i64 a0_2),(i64 a0_3)]) (st.at (i:=0) rfl).2.2 rfl ?_
 refine za ?_;refine za ?_;obtain ⟨v11,e12,hF⟩:=zm hF;refine yC st (ct93 N e12 st.d st.sub (Nat.le_trans hfl st.ext.le) ry10 (RowF.mono le9 ra2)) (fun u13 F13 h13 n13 le13 rv13 st=>?_)
 have le14:=PH.le.trans le9 le13
 obtain ⟨py15,cy15,rfl,ry15⟩:=rv13;refine v_fa ?_;refine v_st (cs':=[(i64 a0_0),(i64 a0_1),(i64 a0_2),(i64 a0_3),(.slice py15 (v11).length cy15),(.slice pa0_5 (a0_5).length ca0_5),(i64 a0_6),(i64 a0_7),(i64 a0_8),(i64 a0_9)]) st 0 rfl rfl rfl rfl hfl (fun h16 st=>?_);refine zf (th_n ?_);refine zg (zh ?_);refine zK (vs:=[(i64 a0_0),(i64 a0_1),(i64 a0_2),(i64 a0_3),(.slice py15 (v11).length cy15),(.slice pa0_5 (a0_5).length ca0_5),(i64 a0_6),(i64 a0_7),(i64 a0_8),(i64 a0_9)]) (st.at (i:=0) rfl).2.2 rfl ?_;refine za ?_;refine v_st (cs':=[(i64 a0_0),(i64 a0_1),(i64 a0_2),(i64 a0_3),(.slice py15 (v11).length cy15),(.slice pa0_5 (a0_5).length ca0_5),(i64 a0_6),(i64 a0_7),(i64 a0_8),(i64 a0_9)]) st 1 rfl rfl rfl rfl hfl (fun h17 st=>?_)
 refine za ?_;refine zf (th_n ?_);refine zu ?_;obtain rfl:=inj hF
 exact yJ st (Res.c gA (st.at (i:=1) rfl).2.2 (show takeN _ _ = some [(i64 a0_0),(i64 a0_1),(i64 a0_2),(i64 a0_3),(.slice py15 (v11).length cy15),(.slice pa0_5 (a0_5).length ca0_5),(i64 a0_6),(i64 a0_7),(i64 a0_8),(i64 a0_9)] from rfl) (Res.t gA Res.nil)) ⟨_,_,rfl,⟨[(i64 a0_0)],_,rfl,rfl,⟨[(i64 a0_1)],_,rfl,rfl,⟨[(i64 a0_2)],_,rfl,rfl,⟨[(i64 a0_3)],_,rfl,rfl,⟨[(.slice py15 (v11).length cy15)],_,rfl,⟨_,_,rfl,ry15⟩,⟨[(.slice pa0_5 (a0_5).length ca0_5)],_,rfl,⟨_,_,rfl,(RowF.mono le14 ra0_5)⟩,⟨[(i64 a0_6)],_,rfl,rfl,⟨[(i64 a0_7)],_,rfl,rfl,⟨[(i64 a0_8)],_,rfl,rfl,⟨rfl,⟨_,_,rfl,(RowF.mono le13 ry10)⟩⟩⟩⟩⟩⟩⟩⟩⟩⟩⟩⟩
end Go.Hx.V

namespace Go.Hx.V
open Go.Hx
set_option maxRecDepth 20000
set_option maxHeartbeats 4000000
variable {fl : Nat} {h0 : Tr HBlk} {n0 : Nat} {F0 : PH}
attribute [local irreducible] W R C thenH inBlockH Tr.get Tr.set lo ck bnd ix iter
theorem ct61 (N:Nat) {a0_0 a0_1 a0_2 a0_3:Int} {a1:(List (Int × Int × Int × Int))} {a2:(List Int)} {r:Bool} (hF:sf61 N a0_0 a0_1 a0_2 a0_3 a1 a2 = some r) (hd:D h0 n0) (hs:F0.sub h0) {pa1:Option (Nat × Nat)} {ca1:Nat} {pa2:Option (Nat × Nat)} {ca2:Nat} (ra1:RowF (rP rI (rP rI (rP rI rI))) 4 F0 pa1 ca1 a1) (ra2:RowF rI 1 F0 pa2 ca2 a2):C LW fl 61 [(.agg [(i64 a0_0),(i64 a0_1),(i64 a0_2),(i64 a0_3)]),(.slice pa1 (a1).length ca1),(.slice pa2 (a2).length ca2)] ⟨h0,n0⟩ (KS (.bool r) n0 h0):=by
 unfold sf61 at hF
 refine z8 hd hs lw61 rfl rfl (by rfl) (fun st T hT=>?_)
 have hfl:n0 ≤ n0:=Nat.le_refl n0
 have t0:=hT 0 _ rfl
 have t1:=hT 1 _ rfl
 have t2:=hT 2 _ rfl
 dsimp only [L61]
 refine zg (zh ?_);refine zW st (fun b1 h2 n3 st=>?_);refine za ?_;refine zf (th_n ?_);refine zg ?_;refine zg (zh ?_);refine za ?_;refine yA ?_;refine v_fa ?_;refine zq (st.at (i:=0) rfl).2.2 rfl ?_;refine va ?_;refine zf (th_n ?_);refine zB (fun hb4=>?_) (fun hb4=>?_)
 ·have hF:=zw hb4 hF;refine zg (zh ?_);refine za ?_;refine zf (th_n ?_);refine zu ?_;refine th_r ?_;obtain rfl:=inj hF
  exact zD st (Res.t gA Res.nil) rfl rfl
 ·have hF:=zx hb4 hF;refine zA (th_n ?_);refine zg ?_;refine zg (zh ?_);refine za ?_;refine zf (th_n ?_);refine zE ?_;obtain ⟨y15,hy,hF⟩:=zm hF;refine z5 (sf61_L1 N a0_2 a0_3 a2) (fun x5 T ds6 h nx=>∃ (F6:PH),ds6 = [] ∧ PH.le F0 F6 ∧ St n0 h0 F0 F6 h nx [.bx b1 [(i64 a0_0),(i64 a0_1),(i64 a0_2),(i64 a0_3)]] ∧ T.get 1 = some (.slice pa1 (a1).length ca1) ∧ T.get 2 = some (.slice pa2 (a2).length ca2) ∧ T.get 3 = some (.ptr (some (b1,0))) ∧ T.get 7 = some (i64 x5)) (fun y e a σ=>(∃ u,y = (.inl u) ∧ e = .ret ∧ a.nt = 53 ∧ ∃ (F17:PH),a.defers = [] ∧ PH.le F0 F17 ∧ St n0 h0 F0 F17 σ.h σ.nx [.bx b1 [(i64 a0_0),(i64 a0_1),(i64 a0_2),(i64 a0_3)]] ∧ a.tmps.get 6 = some (.bool false)) ∨ (∃ u,y = (.inr u) ∧ e = .exit 0 ∧ a.nt = 53 ∧ ∃ (F19:PH),a.defers = [] ∧ PH.le F0 F19 ∧ St n0 h0 F0 F19 σ.h σ.nx [.bx b1 [(i64 a0_0),(i64 a0_1),(i64 a0_2),(i64 a0_3)]] ∧ a.tmps.get 1 = some (.slice pa1 (a1).length ca1) ∧ a.tmps.get 2 = some (.slice pa2 (a2).length ca2) ∧ a.tmps.get 3 = some (.ptr (some (b1,0))))) (fun x5 T ds6 h nx s hp hF=>?_) N _ y15 _ _ _ _ hy ⟨F0,rfl,(PH.le.refl _),st,gA,gA,gA,gA⟩ (fun e a σ hne hq=>?_)
  ·obtain ⟨F6,rfl,le6,st,t1,t2,t3,t7⟩:=hp;unfold sf61_L1 at hF;unfold L61w1;refine zg ?_;refine zg (zh ?_);refine za ?_;refine za ?_;refine yA ?_;refine yg ?_;refine zf (th_n ?_);refine zB (fun hb20=>?_) (fun hb20=>?_)
   ·have hF:=zw hb20 hF;refine zA (th_n ?_);refine zg ?_;refine zE ?_;refine zg ?_;refine zV (Nat.le_trans hfl st.ext.le) (fun dw=>?_);refine zd st.d dw (fun hm vw=>za zb) ?_;refine zd st.d dw (fun hm vw=>za zb) ?_;obtain ⟨n21,x21,z21,l21,g21,hF⟩:=zZ hF;obtain ⟨b21,o21,s21,j21,r21,e21,f21,k21,rfl⟩:=RowF.get ra2 g21;refine zd st.d dw (fun hm vw=>yt e21 z21 l21 zb) ?_;refine zd st.d dw (fun hm vw=>zq (vw.fz st (le6 _ _ f21)) (yp (j:=0) k21 rfl) zb) ?_;refine zd st.d dw (fun hm vw=>v_fa zb) ?_;refine zd st.d dw (fun hm vw=>v_fa zb) ?_;refine zd st.d dw (fun hm vw=>zq (vw.bx (st.at (i:=0) rfl)) rfl zb) ?_
    refine zd st.d dw (fun hm vw=>v_fa zb) ?_;refine zd st.d dw (fun hm vw=>v_fa zb) ?_;refine zd st.d dw (fun hm vw=>zq (vw.bx (st.at (i:=0) rfl)) rfl zb) ?_;refine ye st.d dw rfl (fun h22 ex vs=>?_)
    have st:=st.ext1 ex
    obtain ⟨v23,e24,hF⟩:=zm hF;refine zI st (ct98 N e24 st.d st.sub ) (fun n25 st=>?_);refine yo ?_;refine zf (th_n ?_);refine zB (fun hb26=>?_) (fun hb26=>?_)
    ·have hF:=zw hb26 hF;refine zg (zh ?_);refine za ?_;refine zf (th_n ?_);refine zu ?_;refine ib_r ?_;refine th_r ?_;refine th_r ?_;refine ⟨_,(inj hF).symm,.inl ⟨_,rfl,rfl,rfl,?_⟩⟩;dsimp only
     exact ⟨F6,rfl,le6,st,gA⟩
    ·have hF:=zx hb26 hF;refine zA ?_;refine ib_n ?_;refine th_n ?_;refine zh ?_;refine za ?_;obtain ⟨q27,hF⟩:=zj hF;refine zO q27 ?_;refine za ?_;refine zf ?_;refine thn ⟨_,(inj hF).symm,rfl,?_⟩;dsimp only
     exact ⟨F6,rfl,le6,st,gA,gA,gA,gA⟩
   ·have hF:=zx hb20 hF;refine ya ?_;refine th_e ?_;refine th_e ?_;refine ⟨_,(inj hF).symm,.inr (⟨_,rfl,rfl,rfl,?_⟩)⟩;dsimp only
    exact ⟨F6,rfl,le6,st,gA,gA,gA⟩
  ·rcases hq with hq | hq
   ·obtain ⟨N9,T,ds17⟩:=a;obtain ⟨h28,n29⟩:=σ;obtain ⟨w16,rfl,rfl,e1,F17,e2,le17,st,t6⟩:=hq
    dsimp only at e1 e2
    subst e1
    subst e2
    dsimp only at st t6
    have hF:=vg hF;refine ib_r ?_;refine th_r ?_;obtain rfl:=inj hF
    exact zD st (Res.t gA Res.nil) rfl rfl
   ·obtain ⟨N9,T,ds19⟩:=a;obtain ⟨h30,n31⟩:=σ;obtain ⟨w18,rfl,rfl,e1,F19,e2,le19,st,t1,t2,t3⟩:=hq
    dsimp only at e1 e2
    subst e1
    subst e2
    dsimp only at st t1 t2 t3
    have hF:=ve hF;refine ib_e ?_;refine th_n ?_;refine zg ?_;refine zg (zh ?_);refine za ?_;refine zf (th_n ?_);refine zE ?_;obtain ⟨y43,hy,hF⟩:=zm hF;refine z5 (sf61_L2 N a0_0 a0_1 a0_2 a0_3 a1 a2) (fun x32 T ds33 h nx=>∃ (F33:PH),ds33 = [] ∧ PH.le F19 F33 ∧ St n0 h0 F0 F33 h nx [.bx b1 [(i64 a0_0),(i64 a0_1),(i64 a0_2),(i64 a0_3)]] ∧ T.get 1 = some (.slice pa1 (a1).length ca1) ∧ T.get 2 = some (.slice pa2 (a2).length ca2) ∧ T.get 3 = some (.ptr (some (b1,0))) ∧ T.get 8 = some (i64 x32)) (fun y e a σ=>(∃ u,y = (.inl u) ∧ e = .ret ∧ a.nt = 53 ∧ ∃ (F45:PH),a.defers = [] ∧ PH.le F19 F45 ∧ St n0 h0 F0 F45 σ.h σ.nx [.bx b1 [(i64 a0_0),(i64 a0_1),(i64 a0_2),(i64 a0_3)]] ∧ a.tmps.get 6 = some (.bool false)) ∨ (∃ u,y = (.inr u) ∧ e = .exit 2 ∧ a.nt = 53 ∧ ∃ (F47:PH),a.defers = [] ∧ PH.le F19 F47 ∧ St n0 h0 F0 F47 σ.h σ.nx [.bx b1 [(i64 a0_0),(i64 a0_1),(i64 a0_2),(i64 a0_3)]] ∧ a.tmps.get 2 = some (.slice pa2 (a2).length ca2) ∧ a.tmps.get 3 = some (.ptr (some (b1,0))))) (fun x32 T ds33 h nx s hp hF=>?_) N _ y43 _ _ _ _ hy ⟨F19,rfl,(PH.le.refl _),st,gA,gA,gA,gA⟩ (fun e a σ hne hq=>?_)
    ·obtain ⟨F33,rfl,le33,st,t1,t2,t3,t8⟩:=hp
     have le34:=PH.le.trans le19 le33
     unfold sf61_L2 at hF;unfold L61w0;refine zg ?_;refine zg (zh ?_);refine za ?_;refine za ?_;refine yA ?_;refine yg ?_;refine zf (th_n ?_);refine zB (fun hb48=>?_) (fun hb48=>?_)
     ·have hF:=zw hb48 hF;refine zA (th_n ?_);refine zg ?_;refine zE ?_;refine zg ?_;refine zV (Nat.le_trans hfl st.ext.le) (fun dw=>?_);refine zd st.d dw (fun hm vw=>zK (vs:=[(i64 a0_0),(i64 a0_1),(i64 a0_2),(i64 a0_3)]) (vw.bx (st.at (i:=0) rfl)) rfl zb) ?_;refine zd st.d dw (fun hm vw=>za zb) ?_;refine zd st.d dw (fun hm vw=>za zb) ?_;obtain ⟨n49,x49,z49,l49,g49,hF⟩:=zZ hF;obtain ⟨b49,o49,s49,j49,r49,e49,f49,k49,⟨_,_,rfl,rfl,⟨_,_,rfl,rfl,⟨_,_,rfl,rfl,rfl⟩⟩⟩⟩:=RowF.get ra1 g49;refine zd st.d dw (fun hm vw=>yt e49 z49 l49 zb) ?_;refine zd st.d dw (fun hm vw=>zK (vw.fz st (le34 _ _ f49)) k49 zb) ?_
      refine ye st.d dw rfl (fun h50 ex vs=>?_)
      have st:=st.ext1 ex
      refine za ?_;obtain ⟨v51,e52,hF⟩:=zm hF;refine zI st (ct99 N e52 st.d st.sub (RowF.mono le34 ra2)) (fun n53 st=>?_);refine yo ?_;refine zf (th_n ?_);refine zB (fun hb54=>?_) (fun hb54=>?_)
      ·have hF:=zw hb54 hF;refine zg (zh ?_);refine za ?_;refine zf (th_n ?_);refine zu ?_;refine ib_r ?_;refine th_r ?_;refine th_r ?_;refine ⟨_,(inj hF).symm,.inl ⟨_,rfl,rfl,rfl,?_⟩⟩;dsimp only
       exact ⟨F33,rfl,le33,st,gA⟩
      ·have hF:=zx hb54 hF;refine zA ?_;refine ib_n ?_;refine th_n ?_;refine zh ?_;refine za ?_;obtain ⟨q55,hF⟩:=zj hF;refine zO q55 ?_;refine za ?_;refine zf ?_;refine thn ⟨_,(inj hF).symm,rfl,?_⟩;dsimp only
       exact ⟨F33,rfl,le33,st,gA,gA,gA,gA⟩
     ·have hF:=zx hb48 hF;refine ya ?_;refine th_e ?_;refine th_e ?_;refine ⟨_,(inj hF).symm,.inr (⟨_,rfl,rfl,rfl,?_⟩)⟩;dsimp only
      exact ⟨F33,rfl,le33,st,gA,gA⟩
    ·rcases hq with hq | hq
     ·obtain ⟨N9,T,ds45⟩:=a;obtain ⟨h57,n58⟩:=σ;obtain ⟨w44,rfl,rfl,e1,F45,e2,le45,st,t6⟩:=hq
      dsimp only at e1 e2
      subst e1
      subst e2
      dsimp only at st t6
      have hF:=vg hF;refine ib_r ?_;refine th_r ?_;obtain rfl:=inj hF
      exact zD st (Res.t gA Res.nil) rfl rfl
     ·obtain ⟨N9,T,ds47⟩:=a;obtain ⟨h60,n61⟩:=σ;obtain ⟨w46,rfl,rfl,e1,F47,e2,le47,st,t2,t3⟩:=hq
      dsimp only at e1 e2
      subst e1
      subst e2
      dsimp only at st t2 t3
      have le59:=PH.le.trans le19 le47
      have hF:=ve hF;refine ib_e ?_;refine th_n ?_;refine zg ?_;refine zV (Nat.le_trans hfl st.ext.le) (fun dw=>?_);refine zd st.d dw (fun hm vw=>za zb) ?_;refine zd st.d dw (fun hm vw=>v_fa zb) ?_;refine zd st.d dw (fun hm vw=>zq (vw.bx (st.at (i:=0) rfl)) rfl zb) ?_;obtain ⟨v62,e63,hF⟩:=zm hF;refine yj st.d dw (fun hm vw=>yl (ct56 N e63 vw.d (vw.sub st) (RowF.mono le59 ra2)) (fun n' hn'=>yk hn')) (fun n64 hn' dw=>?_);refine zd st.d dw (fun hm vw=>v_fa zb) ?_;refine zd st.d dw (fun hm vw=>zq (vw.bx (st.at (i:=0) rfl)) rfl zb) ?_;refine ye st.d dw rfl (fun h65 ex vs=>?_)
      have st:=st.ext1 ex
      refine Yz ?_;refine za ?_;refine zf (th_n ?_);refine zu ?_;obtain rfl:=inj hF
      exact zD st (Res.t gA Res.nil) rfl rfl
end Go.Hx.V

namespace Go.Hx.V
open Go.Hx
set_option maxRecDepth 20000
set_option maxHeartbeats 4000000
variable {fl : Nat} {h0 : Tr HBlk} {n0 : Nat} {F0 : PH}
attribute [local irreducible] W R C thenH inBlockH Tr.get Tr.set lo ck bnd ix iter
theorem ct134 (N:Nat) {a0_0 a0_1 a0_2 a0_3:Int} {a1:(List (Int × Int × Int × Int))} {r:Int} (hF:sf134 N a0_0 a0_1 a0_2 a0_3 a1 = some r) (hd:D h0 n0) (hs:F0.sub h0) {pa1:Option (Nat × Nat)} {ca1:Nat} (ra1:RowF (rP rI (rP rI (rP rI rI))) 4 F0 pa1 ca1 a1):C LW fl 134 [(.agg [(i64 a0_0),(i64 a0_1),(i64 a0_2),(i64 a0_3)]),(.slice pa1 (a1).length ca1)] ⟨h0,n0⟩ (KS (i64 r) n0 h0):=by
 unfold sf134 at hF
 refine z8 hd hs lw134 rfl rfl (by rfl) (fun st T hT=>?_)
 have hfl:n0 ≤ n0:=Nat.le_refl n0
 have t0:=hT 0 _ rfl
 have t1:=hT 1 _ rfl
 dsimp only [L134]
 refine zg (zh ?_);refine zW st (fun b1 h2 n3 st=>?_);refine za ?_;refine zf (th_n ?_);refine zg ?_;refine zg (zh ?_);refine zK (vs:=[(i64 a0_0),(i64 a0_1),(i64 a0_2),(i64 a0_3)]) (st.at (i:=0) rfl).2.2 rfl ?_;obtain ⟨v4,e5,hF⟩:=zm hF;refine zI st (ct150 N e5 st.d st.sub ) (fun n6 st=>?_);refine za ?_;refine zf (th_n ?_);refine zg (zh ?_);refine za ?_;refine va ?_;refine zf (th_n ?_);refine zB (fun hb7=>?_) (fun hb7=>?_)
 ·have hF:=zw hb7 hF;refine zg (zh ?_);refine za ?_;refine za ?_;refine zf (th_n ?_);refine zu ?_;refine th_r ?_;obtain rfl:=inj hF
  exact zD st (Res.t gA Res.nil) rfl rfl
 ·have hF:=zx hb7 hF;refine zA (th_n ?_);refine zg ?_;refine zg (zh ?_);refine za ?_;refine yA ?_;refine vV ?_;refine zf (th_n ?_);refine zB (fun hb8=>?_) (fun hb8=>?_)
  ·have hF:=zw hb8 hF;refine zg (zh ?_);refine za ?_;refine zf (th_n ?_);refine zu ?_;refine th_r ?_;obtain rfl:=inj hF
   exact zD st (Res.t gA Res.nil) rfl rfl
  ·have hF:=zx hb8 hF;refine zA (th_n ?_);refine zg ?_;refine zg (zh ?_);refine za ?_;refine zK (vs:=[(i64 a0_0),(i64 a0_1),(i64 a0_2),(i64 a0_3)]) (st.at (i:=0) rfl).2.2 rfl ?_;refine v_mf ?_;obtain ⟨v9,e10,hF⟩:=zm hF;refine zI st (ct151 N e10 st.d st.sub ra1) (fun n11 st=>?_);refine yo ?_;refine zf (th_n ?_);refine zB (fun hb12=>?_) (fun hb12=>?_)
   ·have hF:=zw hb12 hF;refine zg (zh ?_);refine za ?_;refine zf (th_n ?_);refine zu ?_;refine th_r ?_;obtain rfl:=inj hF
    exact zD st (Res.t gA Res.nil) rfl rfl
   ·have hF:=zx hb12 hF;refine zA (th_n ?_);refine zg (zh ?_);refine za ?_;refine zf (th_n ?_);refine zu ?_;obtain rfl:=inj hF
    exact zD st (Res.t gA Res.nil) rfl rfl
theorem ct138 (N:Nat) {a0:(List (Int × Int))} {r:Int} (hF:sf138 N a0 = some r) (hd:D h0 n0) (hs:F0.sub h0) {pa0:Option (Nat × Nat)} {ca0:Nat} (ra0:RowF (rP rI rI) 2 F0 pa0 ca0 a0):C LW fl 138 [(.slice pa0 (a0).length ca0)] ⟨h0,n0⟩ (KS (i64 r) n0 h0):=by
 unfold sf138 at hF
 refine z8 hd hs lw138 rfl rfl (by rfl) (fun st T hT=>?_)
 have hfl:n0 ≤ n0:=Nat.le_refl n0
 have t0:=hT 0 _ rfl
 dsimp only [L138]
 refine zg (zh ?_);refine za ?_;refine zf (th_n ?_);refine zg ?_;refine zg (zh ?_);refine za ?_;refine yA ?_;refine vV ?_;refine zf (th_n ?_);refine zB (fun hb1=>?_) (fun hb1=>?_)
 ·have hF:=zw hb1 hF;refine zg (zh ?_);refine za ?_;refine zf (th_n ?_);refine zu ?_;refine th_r ?_;obtain rfl:=inj hF
  exact zD st (Res.t gA Res.nil) rfl rfl
 ·have hF:=zx hb1 hF;refine zA (th_n ?_);refine zg ?_;obtain ⟨y10,hA11,hF⟩:=zm hF;refine yG (fun T ds13 h nx=>∃ (F13:PH),ds13 = [] ∧ PH.le F0 F13 ∧ St n0 h0 F0 F13 h nx [] ∧ T.get 18 = some (.bool y10)) ?_ (fun T ds13 h nx hp=>?_)
  ·have hK12:=hF
   have hF:=hA11;refine zh ?_;refine za ?_;refine yA ?_;refine yg ?_;refine za ?_
   rcases Bool.eq_false_or_eq_true (decide (((a0).length:Int) < (2:Int))) with hb14 | hb14
   ·have hF:=zw hb14 hF;refine ze hb14 ?_;refine ze hb14 ?_;refine ze hb14 ?_;refine zG hb14 ?_;refine za ?_;refine ze rfl ?_;refine ze rfl ?_;refine ze rfl ?_;refine zG rfl ?_;refine zf ?_;obtain rfl:=inj hF;refine thn ⟨rfl,?_⟩;dsimp only
    exact ⟨F0,rfl,(PH.le.refl _),st,gA⟩
   ·have hF:=zx hb14 hF;refine zi hb14 (za ?_);obtain ⟨v15,e16,hF⟩:=zm hF;refine zi hb14 (zI st (ct155 N e16 st.d st.sub ra0) (fun n17 st=>?_));refine zi hb14 (yo ?_);refine zC hb14 ?_;refine za ?_
    rcases Bool.eq_false_or_eq_true (!v15) with hb18 | hb18
    ·have hF:=zw hb18 hF;refine ze hb18 ?_;refine ze hb18 ?_;refine ze hb18 ?_;refine zG hb18 ?_;refine zf ?_;obtain rfl:=inj hF;refine thn ⟨rfl,?_⟩;dsimp only
     exact ⟨F0,rfl,(PH.le.refl _),st,gA⟩
    ·have hF:=zx hb18 hF;refine zi hb18 (za ?_);obtain ⟨v19,e20,hF⟩:=zm hF;refine zi hb18 (zI st (ct157 N e20 st.d st.sub ra0) (fun n21 st=>?_));refine zi hb18 (yo ?_);refine zC hb18 ?_;refine zf ?_;obtain rfl:=inj hF;refine thn ⟨rfl,?_⟩;dsimp only
     exact ⟨F0,rfl,(PH.le.refl _),st,gA⟩
  ·obtain ⟨F13,rfl,le13,st,t18⟩:=hp;refine zB (fun hb22=>?_) (fun hb22=>?_)
   ·have hF:=zw hb22 hF;refine zg (zh ?_);refine za ?_;refine zf (th_n ?_);refine zu ?_;refine th_r ?_;obtain rfl:=inj hF
    exact zD st (Res.t gA Res.nil) rfl rfl
   ·have hF:=zx hb22 hF;refine zA (th_n ?_);refine zg (zh ?_);refine za ?_;refine zf (th_n ?_);refine zu ?_;obtain rfl:=inj hF
    exact zD st (Res.t gA Res.nil) rfl rfl
theorem ct68 (N:Nat) {a0_0 a0_1 a0_2 a0_3:Int} {a0_4:(List (Int × Int × Int × Int))} {a0_5:(List (Int × Int))} {a0_6 a0_7 a0_8 a0_9:Int} {a0_10:(Nat → Int)} {a1 a2:Int} {r:(Int × Int)} (hF:sf68 N a0_0 a0_1 a0_2 a0_3 a0_4 a0_5 a0_6 a0_7 a0_8 a0_9 a0_10 a1 a2 = some r) (hd:D h0 n0) (hs:F0.sub h0) {pa0_4:Option (Nat × Nat)} {ca0_4:Nat} {pa0_5:Option (Nat × Nat)} {ca0_5:Nat} (ra0_4:RowF (rP rI (rP rI (rP rI rI))) 4 F0 pa0_4 ca0_4 a0_4) (ra0_5:RowF (rP rI rI) 2 F0 pa0_5 ca0_5 a0_5):C LW fl 68 [(.agg ([(i64 a0_0),(i64 a0_1),(i64 a0_2),(i64 a0_3),(.slice pa0_4 (a0_4).length ca0_4),(.slice pa0_5 (a0_5).length ca0_5),(i64 a0_6),(i64 a0_7),(i64 a0_8),(i64 a0_9)] ++ (eI .i64 22 a0_10))),(i64 a1),(i64 a2)] ⟨h0,n0⟩ (KS (.agg [(i64 r.1),(i64 r.2)]) n0 h0):=by
 unfold sf68 at hF
 refine z8 hd hs lw68 rfl rfl (by rfl) (fun st T hT=>?_)
 have hfl:n0 ≤ n0:=Nat.le_refl n0
 have t0:=hT 0 _ rfl
 have t1:=hT 1 _ rfl
 have t2:=hT 2 _ rfl
 dsimp only [L68]
 refine zg (zh ?_);refine zW st (fun b1 h2 n3 st=>?_);refine zM st (fun b4 h5 n6 st=>?_);refine zf (th_n ?_);refine zg (zh ?_);refine zK (vs:=([(i64 a0_0),(i64 a0_1),(i64 a0_2),(i64 a0_3),(.slice pa0_4 (a0_4).length ca0_4),(.slice pa0_5 (a0_5).length ca0_5),(i64 a0_6),(i64 a0_7),(i64 a0_8),(i64 a0_9)] ++ (eI .i64 22 a0_10))) (st.at (i:=0) rfl).2.2 (zS (E:=(eI .i64 22 a0_10)) [] [(i64 a0_0),(i64 a0_1),(i64 a0_2),(i64 a0_3),(.slice pa0_4 (a0_4).length ca0_4),(.slice pa0_5 (a0_5).length ca0_5),(i64 a0_6),(i64 a0_7),(i64 a0_8),(i64 a0_9)] rfl zy rfl) ?_;refine za ?_;obtain ⟨v7,e8,hF⟩:=zm hF
 refine zI st (ct106 N e8 st.d st.sub ra0_4 ra0_5) (fun n9 st=>?_);refine zM st (fun b10 h11 n12 st=>?_);refine v_st (cs':=[(i64 v7.1),(i64 v7.2)]) st 2 rfl rfl rfl rfl hfl (fun h13 st=>?_);refine zf (th_n ?_);refine zg ?_;refine zV (Nat.le_trans hfl st.ext.le) (fun dw=>?_);refine zd st.d dw (fun hm vw=>za zb) ?_;refine zd st.d dw (fun hm vw=>v_fa zb) ?_;obtain ⟨q14,hF⟩:=zj hF
 refine zd st.d dw (fun hm vw=>zT (j:=(Int.toNat a1)) (Int.toNat_of_nonneg q14.1).symm (by omega) zb) ?_
 refine zd st.d dw (fun hm vw=>v_fa zb) ?_
 refine zd st.d dw (fun hm vw=>zq (o:=((10+(Int.toNat a1) * 2)+0)) (vw.bx (st.at (i:=0) rfl)) (yw (p:=10) (ix:=(((Int.toNat a1) * 2)+0)) [(i64 a0_0),(i64 a0_1),(i64 a0_2),(i64 a0_3),(.slice pa0_4 (a0_4).length ca0_4),(.slice pa0_5 (a0_5).length ca0_5),(i64 a0_6),(i64 a0_7),(i64 a0_8),(i64 a0_9)] rfl (by omega) (by omega)) zb) ?_
 refine zd st.d dw (fun hm vw=>v_fa zb) ?_;refine zd st.d dw (fun hm vw=>zq (vw.bx (st.at (i:=2) rfl)) rfl zb) ?_;obtain ⟨q15,hF⟩:=zj hF;refine zd st.d dw (fun hm vw=>yq q15 zb) ?_;refine zd st.d dw (fun hm vw=>za zb) ?_;refine zd st.d dw (fun hm vw=>v_fa zb) ?_;obtain ⟨q16,hF⟩:=zj hF
 refine zd st.d dw (fun hm vw=>zT (j:=(Int.toNat a1)) (Int.toNat_of_nonneg q16.1).symm (by omega) zb) ?_
 refine zd st.d dw (fun hm vw=>v_fa zb) ?_
 refine zd st.d dw (fun hm vw=>zq (o:=((10+(Int.toNat a1) * 2)+1)) (vw.bx (st.at (i:=0) rfl)) (yw (p:=10) (ix:=(((Int.toNat a1) * 2)+1)) [(i64 a0_0),(i64 a0_1),(i64 a0_2),(i64 a0_3),(.slice pa0_4 (a0_4).length ca0_4),(.slice pa0_5 (a0_5).length ca0_5),(i64 a0_6),(i64 a0_7),(i64 a0_8),(i64 a0_9)] rfl (by omega) (by omega)) zb) ?_
 refine zd st.d dw (fun hm vw=>v_fa zb) ?_;refine zd st.d dw (fun hm vw=>zq (vw.bx (st.at (i:=2) rfl)) rfl zb) ?_;refine ye st.d dw rfl (fun h17 ex vs=>?_)
 have st:=st.ext1 ex
 obtain ⟨q18,hF⟩:=zj hF;refine yq q18 ?_;refine zR (cs:=[(i64 ((a0_10 (((Int.toNat a1) * 2)+0)) - v7.2)),(i64 ((a0_10 (((Int.toNat a1) * 2)+1)) - v7.1))]) rfl ?_;refine v_st (cs':=[(i64 ((a0_10 (((Int.toNat a1) * 2)+0)) - v7.2)),(i64 ((a0_10 (((Int.toNat a1) * 2)+1)) - v7.1))]) st 1 rfl rfl rfl rfl hfl (fun h19 st=>?_);refine zf (th_n ?_);refine zu ?_;obtain rfl:=inj hF
 exact zD st (Res.c gA (st.at (i:=1) rfl).2.2 (show takeN _ _ = some [(i64 ((a0_10 (((Int.toNat a1) * 2)+0)) - v7.2)),(i64 ((a0_10 (((Int.toNat a1) * 2)+1)) - v7.1))] from rfl) Res.nil) rfl rfl
theorem ct84 (N:Nat) {a0_0 a0_1 a0_2 a0_3:Int} {a1:(List (Int × Int × Int × Int))} {r:Int} (hF:sf84 N a0_0 a0_1 a0_2 a0_3 a1 = some r) (hd:D h0 n0) (hs:F0.sub h0) {pa1:Option (Nat × Nat)} {ca1:Nat} (ra1:RowF (rP rI (rP rI (rP rI rI))) 4 F0 pa1 ca1 a1):C LW fl 84 [(.agg [(i64 a0_0),(i64 a0_1),(i64 a0_2),(i64 a0_3)]),(.slice pa1 (a1).length ca1)] ⟨h0,n0⟩ (KS (i64 r) n0 h0):=by
 unfold sf84 at hF
 refine z8 hd hs lw84 rfl rfl (by rfl) (fun st T hT=>?_)
 have hfl:n0 ≤ n0:=Nat.le_refl n0
 have t0:=hT 0 _ rfl
 have t1:=hT 1 _ rfl
 dsimp only [L84]
 refine zg (zh ?_);refine zW st (fun b1 h2 n3 st=>?_);refine za ?_;refine zf (th_n ?_);refine zg ?_;refine zg (zh ?_);refine zK (vs:=[(i64 a0_0),(i64 a0_1),(i64 a0_2),(i64 a0_3)]) (st.at (i:=0) rfl).2.2 rfl ?_;obtain ⟨v4,e5,hF⟩:=zm hF;refine zI st (ct123 N e5 st.d st.sub ) (fun n6 st=>?_);refine yo ?_;refine zf (th_n ?_);refine zB (fun hb7=>?_) (fun hb7=>?_)
 ·have hF:=zw hb7 hF;refine zg (zh ?_);refine za ?_;refine zf (th_n ?_);refine zu ?_;refine th_r ?_;obtain rfl:=inj hF
  exact zD st (Res.t gA Res.nil) rfl rfl
 ·have hF:=zx hb7 hF;refine zA (th_n ?_);refine zg ?_;refine zg (zh ?_);refine za ?_;refine yA ?_;refine vV ?_;refine zf (th_n ?_);refine zB (fun hb8=>?_) (fun hb8=>?_)
  ·have hF:=zw hb8 hF;refine zg (zh ?_);refine za ?_;refine zf (th_n ?_);refine zu ?_;refine th_r ?_;obtain rfl:=inj hF
   exact zD st (Res.t gA Res.nil) rfl rfl
  ·have hF:=zx hb8 hF;refine zA (th_n ?_);refine zg ?_;refine zg (zh ?_);refine za ?_;refine zf (th_n ?_);refine zE ?_;obtain ⟨y48,hy,hF⟩:=zm hF;refine z5 (sf84_L1 N a0_0 a1) (fun x9 T ds10 h nx=>∃ (F10:PH),ds10 = [] ∧ PH.le F0 F10 ∧ St n0 h0 F0 F10 h nx [.bx b1 [(i64 a0_0),(i64 a0_1),(i64 a0_2),(i64 a0_3)]] ∧ T.get 1 = some (.slice pa1 (a1).length ca1) ∧ T.get 2 = some (.ptr (some (b1,0))) ∧ T.get 5 = some (i64 x9)) (fun y e a σ=>(∃ u,y = (.inl u) ∧ e = .ret ∧ a.nt = 46 ∧ ∃ (F50:PH),a.defers = [] ∧ PH.le F0 F50 ∧ St n0 h0 F0 F50 σ.h σ.nx [.bx b1 [(i64 a0_0),(i64 a0_1),(i64 a0_2),(i64 a0_3)]] ∧ a.tmps.get 4 = some (i64 u)) ∨ (∃ u,y = (.inr u) ∧ e = .exit 0 ∧ a.nt = 46 ∧ ∃ (F52:PH),a.defers = [] ∧ PH.le F0 F52 ∧ St n0 h0 F0 F52 σ.h σ.nx [.bx b1 [(i64 a0_0),(i64 a0_1),(i64 a0_2),(i64 a0_3)]])) (fun x9 T ds10 h nx s hp hF=>?_) N _ y48 _ _ _ _ hy ⟨F0,rfl,(PH.le.refl _),st,gA,gA,gA⟩ (fun e a σ hne hq=>?_)
   ·obtain ⟨F10,rfl,le10,st,t1,t2,t5⟩:=hp;unfold sf84_L1 at hF;unfold L84w0;refine zg ?_;refine zg (zh ?_);refine za ?_;refine za ?_;refine yA ?_;refine yg ?_;refine zf (th_n ?_);refine zB (fun hb53=>?_) (fun hb53=>?_)
    ·have hF:=zw hb53 hF;refine zA (th_n ?_);refine zg ?_;refine zE ?_;refine zg (zh ?_);refine za ?_;refine za ?_;obtain ⟨n54,x54,z54,l54,g54,hF⟩:=zZ hF;obtain ⟨b54,o54,s54,j54,r54,e54,f54,k54,⟨_,_,rfl,rfl,⟨_,_,rfl,rfl,⟨_,_,rfl,rfl,rfl⟩⟩⟩⟩:=RowF.get ra1 g54;refine yt e54 z54 l54 ?_;refine zK (st.sub _ _ (le10 _ _ f54)) k54 ?_;refine zM st (fun b55 h56 n57 st=>?_);refine v_st (cs':=[(i64 x54.1),(i64 x54.2.1),(i64 x54.2.2.1),(i64 x54.2.2.2)]) st 1 rfl rfl rfl rfl hfl (fun h58 st=>?_);refine zf (th_n ?_);obtain ⟨y71,hA72,hF⟩:=zm hF;refine yG (fun T ds74 h nx=>∃ (F74:PH),ds74 = [] ∧ PH.le F10 F74 ∧ St n0 h0 F0 F74 h nx [.bx b1 [(i64 a0_0),(i64 a0_1),(i64 a0_2),(i64 a0_3)],.bx b55 [(i64 x54.1),(i64 x54.2.1),(i64 x54.2.2.1),(i64 x54.2.2.2)]] ∧ T.get 1 = some (.slice pa1 (a1).length ca1) ∧ T.get 2 = some (.ptr (some (b1,0))) ∧ T.get 5 = some (i64 x9) ∧ T.get 45 = some (.bool y71)) ?_ (fun T ds74 h nx hp=>?_)
     ·have hK73:=hF
      have hF:=hA72;refine zh ?_;refine v_fa ?_;refine zq (st.at (i:=1) rfl).2.2 rfl ?_;refine v_fa ?_;refine zq (st.at (i:=0) rfl).2.2 rfl ?_;obtain ⟨q75,hF⟩:=zj hF;refine yq q75 ?_;obtain ⟨v76,e77,hF⟩:=zm hF;refine zI st (ct98 N e77 st.d st.sub ) (fun n78 st=>?_);refine yo ?_;refine za ?_
      rcases Bool.eq_false_or_eq_true (!v76) with hb79 | hb79
      ·have hF:=zw hb79 hF;refine ze hb79 ?_;refine ze hb79 ?_;refine ze hb79 ?_;refine ze hb79 ?_;refine ze hb79 ?_;refine ze hb79 ?_;refine ze hb79 ?_;refine ze hb79 ?_;refine zG hb79 ?_;refine za ?_;refine ze rfl ?_;refine ze rfl ?_;refine ze rfl ?_;refine ze rfl ?_;refine zG rfl ?_;refine zf ?_;obtain rfl:=inj hF;refine thn ⟨rfl,?_⟩;dsimp only
       exact ⟨F10,rfl,(PH.le.refl _),st,gA,gA,gA,gA⟩
      ·have hF:=zx hb79 hF;refine zi hb79 (v_fa ?_);refine zi hb79 (zq (st.at (i:=1) rfl).2.2 rfl ?_);refine zi hb79 (v_fa ?_);refine zi hb79 (zq (st.at (i:=1) rfl).2.2 rfl ?_);refine zi hb79 (v_fa ?_);refine zi hb79 (zq (st.at (i:=0) rfl).2.2 rfl ?_);obtain ⟨v80,e81,hF⟩:=zm hF;refine zi hb79 (zI st (ct98 N e81 st.d st.sub ) (fun n82 st=>?_));refine zi hb79 (yo ?_);refine zC hb79 ?_;refine za ?_
       rcases Bool.eq_false_or_eq_true (!v80) with hb83 | hb83
       ·have hF:=zw hb83 hF;refine ze hb83 ?_;refine ze hb83 ?_;refine ze hb83 ?_;refine ze hb83 ?_;refine zG hb83 ?_;refine zf ?_;obtain rfl:=inj hF;refine thn ⟨rfl,?_⟩;dsimp only
        exact ⟨F10,rfl,(PH.le.refl _),st,gA,gA,gA,gA⟩
       ·have hF:=zx hb83 hF;refine zi hb83 (v_fa ?_);refine zi hb83 (zK (vs:=[(i64 x54.2.2.1),(i64 x54.2.2.2)]) (st.at (i:=1) rfl).2.2 rfl ?_);obtain ⟨v84,e85,hF⟩:=zm hF;refine zi hb83 (zI st (ct124 N e85 st.d st.sub ) (fun n86 st=>?_));refine zi hb83 (yo ?_);refine zC hb83 ?_;refine zf ?_;obtain rfl:=inj hF;refine thn ⟨rfl,?_⟩;dsimp only
        exact ⟨F10,rfl,(PH.le.refl _),st,gA,gA,gA,gA⟩
     ·obtain ⟨F74,rfl,le74,st,t1,t2,t5,t45⟩:=hp
      have le87:=PH.le.trans le10 le74
      refine zB (fun hb88=>?_) (fun hb88=>?_)
      ·have hF:=zw hb88 hF;refine zg (zh ?_);refine za ?_;refine zf (th_n ?_);refine zu ?_;refine ib_r ?_;refine th_r ?_;refine th_r ?_;refine ⟨_,(inj hF).symm,.inl ⟨_,rfl,rfl,rfl,?_⟩⟩;dsimp only
       exact ⟨F74,rfl,le87,(st.drop (by first | exact List.Sublist.refl _ | (repeat first | exact List.nil_sublist _ | refine List.Sublist.cons_cons _ ?_ | refine List.Sublist.cons _ ?_))),gA⟩
      ·have hF:=zx hb88 hF;refine zA ?_;refine ib_n ?_;refine th_n ?_;refine zh ?_;refine za ?_;obtain ⟨q89,hF⟩:=zj hF;refine zO q89 ?_;refine za ?_;refine zf ?_;refine thn ⟨_,(inj hF).symm,rfl,?_⟩;dsimp only
       exact ⟨F74,rfl,le87,(st.drop (by first | exact List.Sublist.refl _ | (repeat first | exact List.nil_sublist _ | refine List.Sublist.cons_cons _ ?_ | refine List.Sublist.cons _ ?_))),gA,gA,gA⟩
    ·have hF:=zx hb53 hF;refine ya ?_;refine th_e ?_;refine th_e ?_;refine ⟨_,(inj hF).symm,.inr (⟨_,rfl,rfl,rfl,?_⟩)⟩;dsimp only
     exact ⟨F10,rfl,le10,st⟩
   ·rcases hq with hq | hq
    ·obtain ⟨N9,T,ds50⟩:=a;obtain ⟨h90,n91⟩:=σ;obtain ⟨w49,rfl,rfl,e1,F50,e2,le50,st,t4⟩:=hq
     dsimp only at e1 e2
     subst e1
     subst e2
     dsimp only at st t4
     have hF:=vg hF;refine ib_r ?_;refine th_r ?_;obtain rfl:=inj hF
     exact zD st (Res.t gA Res.nil) rfl rfl
    ·obtain ⟨N9,T,ds52⟩:=a;obtain ⟨h92,n93⟩:=σ;obtain ⟨w51,rfl,rfl,e1,F52,e2,le52,st⟩:=hq
     dsimp only at e1 e2
     subst e1
     subst e2
     dsimp only at st
     have hF:=ve hF;refine ib_e ?_;refine th_n ?_;refine zg (zh ?_);refine za ?_;refine zf (th_n ?_);refine zu ?_;obtain rfl:=inj hF
     exact zD st (Res.t gA Res.nil) rfl rfl
end Go.Hx.V

namespace Go.Hx.V
open Go.Hx
set_option maxRecDepth 20000
set_option maxHeartbeats 4000000
variable {fl : Nat} {h0 : Tr HBlk} {n0 : Nat} {F0 : PH}
attribute [local irreducible] W R C thenH inBlockH Tr.get Tr.set lo ck bnd ix iter
theorem ct94 (N:Nat) {a0_0 a0_1 a0_2 a0_3:Int} {a1:(List (Int × Int × Int × Int))} {a2:Bool} {r:(Int × Int × Int × Int × Int × (Nat → Int) × Int)} (hF:sf94 N a0_0 a0_1 a0_2 a0_3 a1 a2 = some r) (hd:D h0 n0) (hs:F0.sub h0) {pa1:Option (Nat × Nat)} {ca1:Nat} (ra1:RowF (rP rI (rP rI (rP rI rI))) 4 F0 pa1 ca1 a1):C LW fl 94 [(.agg [(i64 a0_0),(i64 a0_1),(i64 a0_2),(i64 a0_3)]),(.slice pa1 (a1).length ca1),(.bool a2)] ⟨h0,n0⟩ (KS (.tuple [(.agg ([(i64 r.1),(i64 r.2.1),(i64 r.2.2.1),(i64 r.2.2.2.1),(i64 r.2.2.2.2.1)] ++ (eI .i64 169 r.2.2.2.2.2.1))),(i64 r.2.2.2.2.2.2)]) n0 h0):=by
 unfold sf94 at hF
 refine z8 hd hs lw94 rfl rfl (by rfl) (fun st T hT=>?_)
 have hfl:n0 ≤ n0:=Nat.le_refl n0
 have t0:=hT 0 _ rfl
 have t1:=hT 1 _ rfl
 have t2:=hT 2 _ rfl
 dsimp only [L94]
 refine zg (zh ?_);refine zW st (fun b1 h2 n3 st=>?_);refine zM st (fun b4 h5 n6 st=>?_)
 have st:=st.cells 1 rfl ([(i64 0),(i64 0),(i64 0),(i64 0),(i64 0)] ++ (eI .i64 169 (fun _=>0))) rfl
 refine za ?_;refine zf (th_n ?_);refine zg ?_;refine zg (zh ?_);refine zK (vs:=[(i64 a0_0),(i64 a0_1),(i64 a0_2),(i64 a0_3)]) (st.at (i:=0) rfl).2.2 rfl ?_;refine za ?_;obtain ⟨v7,e8,hF⟩:=zm hF;refine zI st (ct134 N e8 st.d st.sub ra1) (fun n9 st=>?_);refine za ?_;refine zf (th_n ?_);refine zg (zh ?_);refine za ?_;refine va ?_;refine zf (th_n ?_);refine zB (fun hb10=>?_) (fun hb10=>?_)
 ·have hF:=zw hb10 hF;refine zg (zh ?_);refine zR (cs:=([(i64 0),(i64 0),(i64 0),(i64 0),(i64 0)] ++ (eI .i64 169 (fun _=>0)))) rfl ?_;refine za ?_
  refine v_st (v:=(.agg ([(i64 0),(i64 0),(i64 0),(i64 0),(i64 0)] ++ (eI .i64 169 (fun _=>0))))) (cs':=([(i64 0),(i64 0),(i64 0),(i64 0),(i64 0)] ++ (eI .i64 169 (fun _=>0)))) st 1 rfl (yc [] rfl (by simp [HV.cells,zy,yn])) (zY _ zy (by rfl)) (zX _ (by rfl) ym) hfl (fun h11 st=>?_)
  refine za ?_;refine zf (th_n ?_);refine zu ?_;refine th_r ?_;obtain rfl:=inj hF
  exact zD st (Res.c gA (st.at (i:=1) rfl).2.2 (show takeN _ _ = some ([(i64 0),(i64 0),(i64 0),(i64 0),(i64 0)] ++ (eI .i64 169 (fun _=>0))) from (zS (E:=(eI .i64 169 (fun _=>0))) [] [(i64 0),(i64 0),(i64 0),(i64 0),(i64 0)] rfl zy rfl)) (Res.t gA Res.nil)) rfl rfl
 ·have hF:=zx hb10 hF;refine zA (th_n ?_);refine zg ?_;refine zg (zh ?_);refine za ?_;refine yo ?_;refine zf (th_n ?_);refine zB (fun hb12=>?_) (fun hb12=>?_)
  ·have hF:=zw hb12 hF;refine zg (zh ?_);refine zR (cs:=([(i64 0),(i64 0),(i64 0),(i64 0),(i64 0)] ++ (eI .i64 169 (fun _=>0)))) rfl ?_
   refine v_st (v:=(.agg ([(i64 0),(i64 0),(i64 0),(i64 0),(i64 0)] ++ (eI .i64 169 (fun _=>0))))) (cs':=([(i64 0),(i64 0),(i64 0),(i64 0),(i64 0)] ++ (eI .i64 169 (fun _=>0)))) st 1 rfl (yc [] rfl (by simp [HV.cells,zy,yn])) (zY _ zy (by rfl)) (zX _ (by rfl) ym) hfl (fun h13 st=>?_)
   refine za ?_;refine zf (th_n ?_);refine zu ?_;refine th_r ?_;obtain rfl:=inj hF
   exact zD st (Res.c gA (st.at (i:=1) rfl).2.2 (show takeN _ _ = some ([(i64 0),(i64 0),(i64 0),(i64 0),(i64 0)] ++ (eI .i64 169 (fun _=>0))) from (zS (E:=(eI .i64 169 (fun _=>0))) [] [(i64 0),(i64 0),(i64 0),(i64 0),(i64 0)] rfl zy rfl)) (Res.t gA Res.nil)) rfl rfl
  ·have hF:=zx hb12 hF;refine zA (th_n ?_);refine zg (zh ?_);refine zK (vs:=[(i64 a0_0),(i64 a0_1),(i64 a0_2),(i64 a0_3)]) (st.at (i:=0) rfl).2.2 rfl ?_;refine za ?_;obtain ⟨v14,e15,hF⟩:=zm hF;refine zI st (ct135 N e15 st.d st.sub ra1) (fun n16 st=>?_);refine za ?_;refine v_xt rfl ?_;refine v_xt rfl ?_;refine zM st (fun b17 h18 n19 st=>?_)
   have st:=st.cells 2 rfl ([(i64 0),(i64 0),(i64 0),(i64 0),(i64 0)] ++ (eI .i64 169 (fun _=>0))) rfl
   refine v_st (v:=(.agg ([(i64 v14.1),(i64 v14.2.1),(i64 v14.2.2.1),(i64 v14.2.2.2.1),(i64 v14.2.2.2.2.1)] ++ (eI .i64 169 v14.2.2.2.2.2.1)))) (cs':=([(i64 v14.1),(i64 v14.2.1),(i64 v14.2.2.1),(i64 v14.2.2.2.1),(i64 v14.2.2.2.2.1)] ++ (eI .i64 169 v14.2.2.2.2.2.1))) st 2 rfl (yc [] rfl (by simp [HV.cells,zy,yn])) (zY _ zy (by rfl)) (zX _ (by rfl) ym) hfl (fun h20 st=>?_)
   refine za ?_;refine zf (th_n ?_);refine zg ?_;refine zg (zh ?_);refine za ?_;refine yo ?_;refine zf (th_n ?_);refine zB (fun hb21=>?_) (fun hb21=>?_)
   ·have hF:=zw hb21 hF;refine zg (zh ?_);refine zR (cs:=([(i64 0),(i64 0),(i64 0),(i64 0),(i64 0)] ++ (eI .i64 169 (fun _=>0)))) rfl ?_
    refine v_st (v:=(.agg ([(i64 0),(i64 0),(i64 0),(i64 0),(i64 0)] ++ (eI .i64 169 (fun _=>0))))) (cs':=([(i64 0),(i64 0),(i64 0),(i64 0),(i64 0)] ++ (eI .i64 169 (fun _=>0)))) st 1 rfl (yc [] rfl (by simp [HV.cells,zy,yn])) (zY _ zy (by rfl)) (zX _ (by rfl) ym) hfl (fun h22 st=>?_)
    refine za ?_;refine zf (th_n ?_);refine zu ?_;refine th_r ?_;obtain rfl:=inj hF
    exact zD st (Res.c gA (st.at (i:=1) rfl).2.2 (show takeN _ _ = some ([(i64 0),(i64 0),(i64 0),(i64 0),(i64 0)] ++ (eI .i64 169 (fun _=>0))) from (zS (E:=(eI .i64 169 (fun _=>0))) [] [(i64 0),(i64 0),(i64 0),(i64 0),(i64 0)] rfl zy rfl)) (Res.t gA Res.nil)) rfl rfl
   ·have hF:=zx hb21 hF;refine zA (th_n ?_);refine zg (zh ?_);refine zK (vs:=([(i64 v14.1),(i64 v14.2.1),(i64 v14.2.2.1),(i64 v14.2.2.2.1),(i64 v14.2.2.2.2.1)] ++ (eI .i64 169 v14.2.2.2.2.2.1))) (st.at (i:=2) rfl).2.2 (zS (E:=(eI .i64 169 v14.2.2.2.2.2.1)) [] [(i64 v14.1),(i64 v14.2.1),(i64 v14.2.2.1),(i64 v14.2.2.2.1),(i64 v14.2.2.2.2.1)] rfl zy rfl) ?_
    refine v_st (v:=(.agg ([(i64 v14.1),(i64 v14.2.1),(i64 v14.2.2.1),(i64 v14.2.2.2.1),(i64 v14.2.2.2.2.1)] ++ (eI .i64 169 v14.2.2.2.2.2.1)))) (cs':=([(i64 v14.1),(i64 v14.2.1),(i64 v14.2.2.1),(i64 v14.2.2.2.1),(i64 v14.2.2.2.2.1)] ++ (eI .i64 169 v14.2.2.2.2.2.1))) st 1 rfl (yc [] rfl (by simp [HV.cells,zy,yn])) (zY _ zy (by rfl)) (zX _ (by rfl) ym) hfl (fun h23 st=>?_)
    refine za ?_;refine zf (th_n ?_);refine zu ?_;obtain rfl:=inj hF
    exact zD st (Res.c gA (st.at (i:=1) rfl).2.2 (show takeN _ _ = some ([(i64 v14.1),(i64 v14.2.1),(i64 v14.2.2.1),(i64 v14.2.2.2.1),(i64 v14.2.2.2.2.1)] ++ (eI .i64 169 v14.2.2.2.2.2.1)) from (zS (E:=(eI .i64 169 v14.2.2.2.2.2.1)) [] [(i64 v14.1),(i64 v14.2.1),(i64 v14.2.2.1),(i64 v14.2.2.2.1),(i64 v14.2.2.2.2.1)] rfl zy rfl)) (Res.t gA Res.nil)) rfl rfl
theorem ct101 (N:Nat) {a0:(List (Int × Int))} {a1_0 a1_1:Int} {r:(Int × Int × Int)} (hF:sf101 N a0 a1_0 a1_1 = some r) (hd:D h0 n0) (hs:F0.sub h0) {pa0:Option (Nat × Nat)} {ca0:Nat} (ra0:RowF (rP rI rI) 2 F0 pa0 ca0 a0):C LW fl 101 [(.slice pa0 (a0).length ca0),(.agg [(i64 a1_0),(i64 a1_1)])] ⟨h0,n0⟩ (KS (.tuple [(.agg [(i64 r.1),(i64 r.2.1)]),(i64 r.2.2)]) n0 h0):=by
 unfold sf101 at hF
 refine z8 hd hs lw101 rfl rfl (by rfl) (fun st T hT=>?_)
 have hfl:n0 ≤ n0:=Nat.le_refl n0
 have t0:=hT 0 _ rfl
 have t1:=hT 1 _ rfl
 dsimp only [L101]
 refine zg (zh ?_);refine zW st (fun b1 h2 n3 st=>?_);refine zM st (fun b4 h5 n6 st=>?_);refine za ?_;refine zf (th_n ?_);refine zg ?_;refine zg (zh ?_);refine za ?_;obtain ⟨v7,e8,hF⟩:=zm hF;refine zI st (ct138 N e8 st.d st.sub ra0) (fun n9 st=>?_);refine za ?_;refine zf (th_n ?_);refine zg (zh ?_);refine za ?_;refine va ?_;refine zf (th_n ?_);refine zB (fun hb10=>?_) (fun hb10=>?_)
 ·have hF:=zw hb10 hF;refine zg (zh ?_);refine zR (cs:=[(i64 0),(i64 0)]) rfl ?_;refine za ?_;refine v_st (cs':=[(i64 0),(i64 0)]) st 1 rfl rfl rfl rfl hfl (fun h11 st=>?_);refine za ?_;refine zf (th_n ?_);refine zu ?_;refine th_r ?_;obtain rfl:=inj hF
  exact zD st (Res.c gA (st.at (i:=1) rfl).2.2 (show takeN _ _ = some [(i64 0),(i64 0)] from rfl) (Res.t gA Res.nil)) rfl rfl
 ·have hF:=zx hb10 hF;refine zA (th_n ?_);refine zg ?_;refine zg ?_;refine zV (Nat.le_trans hfl st.ext.le) (fun dw=>?_);refine zd st.d dw (fun hm vw=>zK (vs:=[(i64 a1_0),(i64 a1_1)]) (vw.bx (st.at (i:=0) rfl)) rfl zb) ?_;refine zd st.d dw (fun hm vw=>za zb) ?_;obtain ⟨v12,e13,hF⟩:=zm hF;refine yj st.d dw (fun hm vw=>yl (ct140 N e13 vw.d (vw.sub st) ra0) (fun n' hn'=>yk hn')) (fun n14 hn' dw=>?_);refine ye st.d dw rfl (fun h15 ex vs=>?_)
  have st:=st.ext1 ex
  obtain ⟨v16,e17,hF⟩:=zm hF;refine zI st (ct139 N e17 st.d st.sub ) (fun n18 st=>?_);refine yo ?_;refine zf (th_n ?_);refine zB (fun hb19=>?_) (fun hb19=>?_)
  ·have hF:=zw hb19 hF;refine zg (zh ?_);refine zR (cs:=[(i64 0),(i64 0)]) rfl ?_;refine v_st (cs':=[(i64 0),(i64 0)]) st 1 rfl rfl rfl rfl hfl (fun h20 st=>?_);refine za ?_;refine zf (th_n ?_);refine zu ?_;refine th_r ?_;obtain rfl:=inj hF
   exact zD st (Res.c gA (st.at (i:=1) rfl).2.2 (show takeN _ _ = some [(i64 0),(i64 0)] from rfl) (Res.t gA Res.nil)) rfl rfl
  ·have hF:=zx hb19 hF;refine zA (th_n ?_);refine zg ?_;refine zV (Nat.le_trans hfl st.ext.le) (fun dw=>?_);refine zd st.d dw (fun hm vw=>za zb) ?_;refine zd st.d dw (fun hm vw=>v_fa zb) ?_;refine zd st.d dw (fun hm vw=>zq (vw.bx (st.at (i:=0) rfl)) rfl zb) ?_;obtain ⟨v21,e22,hF⟩:=zm hF;refine yj st.d dw (fun hm vw=>yl (ct141 N e22 vw.d (vw.sub st) ra0) (fun n' hn'=>yk hn')) (fun n23 hn' dw=>?_);refine zd st.d dw (fun hm vw=>za zb) ?_;refine zd st.d dw (fun hm vw=>v_fa zb) ?_;refine zd st.d dw (fun hm vw=>zq (vw.bx (st.at (i:=0) rfl)) rfl zb) ?_;refine ye st.d dw rfl (fun h24 ex vs=>?_)
   have st:=st.ext1 ex
   obtain ⟨v25,e26,hF⟩:=zm hF;refine zI st (ct141 N e26 st.d st.sub ra0) (fun n27 st=>?_);refine zR (cs:=[(i64 v21),(i64 v25)]) rfl ?_;refine v_st (cs':=[(i64 v21),(i64 v25)]) st 1 rfl rfl rfl rfl hfl (fun h28 st=>?_);refine za ?_;refine zf (th_n ?_);refine zu ?_;obtain rfl:=inj hF
   exact zD st (Res.c gA (st.at (i:=1) rfl).2.2 (show takeN _ _ = some [(i64 v21),(i64 v25)] from rfl) (Res.t gA Res.nil)) rfl rfl
end Go.Hx.V

namespace Go.Hx.V
open Go.Hx
set_option maxRecDepth 20000
set_option maxHeartbeats 4000000
variable {fl : Nat} {h0 : Tr HBlk} {n0 : Nat} {F0 : PH}
attribute [local irreducible] W R C thenH inBlockH Tr.get Tr.set lo ck bnd ix iter
theorem ct40 (N:Nat) {a0_0 a0_1 a0_2 a0_3:Int} {a0_4:(List (Int × Int × Int × Int))} {a0_5:(List (Int × Int))} {a0_6 a0_7 a0_8 a0_9 r:Int} (hF:sf40 N a0_0 a0_1 a0_2 a0_3 a0_4 a0_5 a0_6 a0_7 a0_8 a0_9 = some r) (hd:D h0 n0) (hs:F0.sub h0) {pa0_4:Option (Nat × Nat)} {ca0_4:Nat} {pa0_5:Option (Nat × Nat)} {ca0_5:Nat} (ra0_4:RowF (rP rI (rP rI (rP rI rI))) 4 F0 pa0_4 ca0_4 a0_4) (ra0_5:RowF (rP rI rI) 2 F0 pa0_5 ca0_5 a0_5):C LW fl 40 [(.agg [(i64 a0_0),(i64 a0_1),(i64 a0_2),(i64 a0_3),(.slice pa0_4 (a0_4).length ca0_4),(.slice pa0_5 (a0_5).length ca0_5),(i64 a0_6),(i64 a0_7),(i64 a0_8),(i64 a0_9)])] ⟨h0,n0⟩ (KS (i64 r) n0 h0):=by
 unfold sf40 at hF
 refine z8 hd hs lw40 rfl rfl (by rfl) (fun st T hT=>?_)
 have hfl:n0 ≤ n0:=Nat.le_refl n0
 have t0:=hT 0 _ rfl
 dsimp only [L40]
 refine zg (zh ?_);refine zW st (fun b1 h2 n3 st=>?_);refine za ?_;refine zf (th_n ?_);obtain ⟨y11,hA12,hF⟩:=zm hF;refine yG (fun T ds17 h nx=>∃ u,y11 = (.inr u) ∧ ∃ (F17:PH),ds17 = [] ∧ PH.le F0 F17 ∧ St n0 h0 F0 F17 h nx [.bx b1 [(i64 a0_0),(i64 a0_1),(i64 a0_2),(i64 a0_3),(.slice pa0_4 (a0_4).length ca0_4),(.slice pa0_5 (a0_5).length ca0_5),(i64 a0_6),(i64 a0_7),(i64 a0_8),(i64 a0_9)]] ∧ T.get 1 = some (.ptr (some (b1,0)))) ?_ (fun T ds17 h nx hp=>?_)
 ·have hK13:=hF
  have hF:=hA12;obtain ⟨y19,hA20,hF⟩:=zm hF;refine yG (fun T ds22 h nx=>∃ (F22:PH),ds22 = [] ∧ PH.le F0 F22 ∧ St n0 h0 F0 F22 h nx [.bx b1 [(i64 a0_0),(i64 a0_1),(i64 a0_2),(i64 a0_3),(.slice pa0_4 (a0_4).length ca0_4),(.slice pa0_5 (a0_5).length ca0_5),(i64 a0_6),(i64 a0_7),(i64 a0_8),(i64 a0_9)]] ∧ T.get 1 = some (.ptr (some (b1,0))) ∧ T.get 12 = some (.bool y19)) ?_ (fun T ds22 h nx hp=>?_)
  ·have hK21:=hF
   have hF:=hA20;refine zh ?_;refine v_fa ?_;refine zq (st.at (i:=0) rfl).2.2 rfl ?_;refine yA ?_;refine vV ?_;refine za ?_
   rcases Bool.eq_false_or_eq_true (decide ((12:Int) < ((a0_4).length:Int))) with hb23 | hb23
   ·have hF:=zw hb23 hF;refine ze hb23 ?_;refine ze hb23 ?_;refine ze hb23 ?_;refine ze hb23 ?_;refine zG hb23 ?_;refine zf ?_;obtain rfl:=inj hF;refine thn ⟨rfl,?_⟩;dsimp only
    exact ⟨F0,rfl,(PH.le.refl _),st,gA,gA⟩
   ·have hF:=zx hb23 hF;refine zi hb23 (v_fa ?_);refine zi hb23 (zq (st.at (i:=0) rfl).2.2 rfl ?_);refine zi hb23 (yA ?_);refine zi hb23 (vV ?_);refine zC hb23 ?_;refine zf ?_;obtain rfl:=inj hF;refine thn ⟨rfl,?_⟩;dsimp only
    exact ⟨F0,rfl,(PH.le.refl _),st,gA,gA⟩
  ·obtain ⟨F22,rfl,le22,st,t1,t12⟩:=hp;refine zB (fun hb24=>?_) (fun hb24=>?_)
   ·have hF:=zw hb24 hF;refine zg (zh ?_);refine za ?_;refine zf (th_n ?_);refine zu ?_;obtain rfl:=inj hF;have hF:=hK13;have hF:=vg hF;refine th_r ?_;obtain rfl:=inj hF
    exact zD st (Res.t gA Res.nil) rfl rfl
   ·have hF:=zx hb24 hF;refine zA ?_;obtain rfl:=inj hF;refine thn ⟨rfl,_,rfl,?_⟩;dsimp only
    exact ⟨F22,rfl,le22,st,gA⟩
 ·obtain ⟨w16,rfl,F17,rfl,le17,st,t1⟩:=hp;have hF:=ve hF;refine zg ?_;obtain ⟨y48,hA49,hF⟩:=zm hF;refine yG (fun T ds51 h nx=>∃ (F51:PH),ds51 = [] ∧ PH.le F17 F51 ∧ St n0 h0 F0 F51 h nx [.bx b1 [(i64 a0_0),(i64 a0_1),(i64 a0_2),(i64 a0_3),(.slice pa0_4 (a0_4).length ca0_4),(.slice pa0_5 (a0_5).length ca0_5),(i64 a0_6),(i64 a0_7),(i64 a0_8),(i64 a0_9)]] ∧ T.get 60 = some (.bool y48)) ?_ (fun T ds51 h nx hp=>?_)
  ·have hK50:=hF
   have hF:=hA49;refine zV (Nat.le_trans hfl st.ext.le) (fun dw=>?_);refine zd st.d dw (fun hm vw=>v_fa zb) ?_;refine zd st.d dw (fun hm vw=>zK (vs:=[(i64 a0_0),(i64 a0_1),(i64 a0_2),(i64 a0_3)]) (vw.bx (st.at (i:=0) rfl)) rfl zb) ?_;refine zd st.d dw (fun hm vw=>v_fa zb) ?_;refine zd st.d dw (fun hm vw=>zq (vw.bx (st.at (i:=0) rfl)) rfl zb) ?_;obtain ⟨v52,e53,hF⟩:=zm hF;refine yj st.d dw (fun hm vw=>yl (ct84 N e53 vw.d (vw.sub st) (RowF.mono le17 ra0_4)) (fun n' hn'=>yk hn')) (fun n54 hn' dw=>?_);refine zd st.d dw (fun hm vw=>va zb) ?_;refine zd st.d dw (fun hm vw=>za zb) ?_
   rcases Bool.eq_false_or_eq_true (!(decide (v52 = (0:Int)))) with hb55 | hb55
   ·have hF:=zw hb55 hF;refine zd st.d dw (fun hm vw=>ze hb55 zb) ?_;refine zd st.d dw (fun hm vw=>ze hb55 zb) ?_;refine zd st.d dw (fun hm vw=>ze hb55 zb) ?_;refine zd st.d dw (fun hm vw=>ze hb55 zb) ?_;refine zd st.d dw (fun hm vw=>zG hb55 zb) ?_;refine zd st.d dw (fun hm vw=>za zb) ?_;refine zd st.d dw (fun hm vw=>ze rfl zb) ?_;refine zd st.d dw (fun hm vw=>ze rfl zb) ?_;refine zd st.d dw (fun hm vw=>ze rfl zb) ?_;refine zd st.d dw (fun hm vw=>ze rfl zb) ?_;refine zd st.d dw (fun hm vw=>ze rfl zb) ?_;refine zd st.d dw (fun hm vw=>ze rfl zb) ?_
    refine zd st.d dw (fun hm vw=>ze rfl zb) ?_;refine zd st.d dw (fun hm vw=>ze rfl zb) ?_;refine zd st.d dw (fun hm vw=>ze rfl zb) ?_;refine zd st.d dw (fun hm vw=>ze rfl zb) ?_;refine zd st.d dw (fun hm vw=>ze rfl zb) ?_;refine zd st.d dw (fun hm vw=>ze rfl zb) ?_;refine zd st.d dw (fun hm vw=>ze rfl zb) ?_;refine zd st.d dw (fun hm vw=>ze rfl zb) ?_;refine zd st.d dw (fun hm vw=>ze rfl zb) ?_;refine zd st.d dw (fun hm vw=>ze rfl zb) ?_;refine zd st.d dw (fun hm vw=>ze rfl zb) ?_;refine zd st.d dw (fun hm vw=>ze rfl zb) ?_
    refine zd st.d dw (fun hm vw=>zG rfl zb) ?_;refine zd st.d dw (fun hm vw=>za zb) ?_;refine zd st.d dw (fun hm vw=>ze rfl zb) ?_;refine zd st.d dw (fun hm vw=>ze rfl zb) ?_;refine zd st.d dw (fun hm vw=>ze rfl zb) ?_;refine zd st.d dw (fun hm vw=>ze rfl zb) ?_;refine zd st.d dw (fun hm vw=>ze rfl zb) ?_;refine zd st.d dw (fun hm vw=>ze rfl zb) ?_;refine ye st.d dw rfl (fun h56 ex vs=>?_)
    have st:=st.ext1 ex
    refine ze rfl ?_;refine ze rfl ?_;refine zG rfl ?_;refine za ?_;refine ze rfl ?_;refine ze rfl ?_;refine ze rfl ?_;refine ze rfl ?_;refine zG rfl ?_;refine zf ?_;obtain rfl:=inj hF;refine thn ⟨rfl,?_⟩;dsimp only
    exact ⟨F17,rfl,(PH.le.refl _),st,gA⟩
   ·have hF:=zx hb55 hF;refine zd st.d dw (fun hm vw=>zi hb55 (v_fa zb)) ?_;refine zd st.d dw (fun hm vw=>zi hb55 (zq (vw.bx (st.at (i:=0) rfl)) rfl zb)) ?_;obtain ⟨v57,e58,hF⟩:=zm hF;refine yj st.d dw (fun hm vw=>zi hb55 (yl (ct85 N e58 vw.d (vw.sub st) (RowF.mono le17 ra0_5)) (fun n' hn'=>yk hn'))) (fun n59 hn' dw=>?_);refine zd st.d dw (fun hm vw=>zi hb55 (yo zb)) ?_;refine zd st.d dw (fun hm vw=>zC hb55 zb) ?_;refine zd st.d dw (fun hm vw=>za zb) ?_
    rcases Bool.eq_false_or_eq_true (!v57) with hb60 | hb60
    ·have hF:=zw hb60 hF;refine zd st.d dw (fun hm vw=>ze hb60 zb) ?_;refine zd st.d dw (fun hm vw=>ze hb60 zb) ?_;refine zd st.d dw (fun hm vw=>ze hb60 zb) ?_;refine zd st.d dw (fun hm vw=>ze hb60 zb) ?_;refine zd st.d dw (fun hm vw=>ze hb60 zb) ?_;refine zd st.d dw (fun hm vw=>ze hb60 zb) ?_;refine zd st.d dw (fun hm vw=>ze hb60 zb) ?_;refine zd st.d dw (fun hm vw=>ze hb60 zb) ?_;refine zd st.d dw (fun hm vw=>ze hb60 zb) ?_;refine zd st.d dw (fun hm vw=>ze hb60 zb) ?_;refine zd st.d dw (fun hm vw=>ze hb60 zb) ?_;refine zd st.d dw (fun hm vw=>ze hb60 zb) ?_
     refine zd st.d dw (fun hm vw=>ze hb60 zb) ?_;refine zd st.d dw (fun hm vw=>ze hb60 zb) ?_;refine zd st.d dw (fun hm vw=>ze hb60 zb) ?_;refine zd st.d dw (fun hm vw=>ze hb60 zb) ?_;refine zd st.d dw (fun hm vw=>ze hb60 zb) ?_;refine zd st.d dw (fun hm vw=>ze hb60 zb) ?_;refine zd st.d dw (fun hm vw=>zG hb60 zb) ?_;refine zd st.d dw (fun hm vw=>za zb) ?_;refine zd st.d dw (fun hm vw=>ze rfl zb) ?_;refine zd st.d dw (fun hm vw=>ze rfl zb) ?_;refine zd st.d dw (fun hm vw=>ze rfl zb) ?_;refine zd st.d dw (fun hm vw=>ze rfl zb) ?_
     refine zd st.d dw (fun hm vw=>ze rfl zb) ?_;refine zd st.d dw (fun hm vw=>ze rfl zb) ?_;refine ye st.d dw rfl (fun h61 ex vs=>?_)
     have st:=st.ext1 ex
     refine ze rfl ?_;refine ze rfl ?_;refine zG rfl ?_;refine za ?_;refine ze rfl ?_;refine ze rfl ?_;refine ze rfl ?_;refine ze rfl ?_;refine zG rfl ?_;refine zf ?_;obtain rfl:=inj hF;refine thn ⟨rfl,?_⟩;dsimp only
     exact ⟨F17,rfl,(PH.le.refl _),st,gA⟩
    ·have hF:=zx hb60 hF;refine zd st.d dw (fun hm vw=>zi hb60 (v_fa zb)) ?_;refine zd st.d dw (fun hm vw=>zi hb60 (zK (vs:=[(i64 a0_6),(i64 a0_7)]) (vw.bx (st.at (i:=0) rfl)) rfl zb)) ?_;refine zd st.d dw (fun hm vw=>zi hb60 (v_fa zb)) ?_;refine zd st.d dw (fun hm vw=>zi hb60 (zq (vw.bx (st.at (i:=0) rfl)) rfl zb)) ?_;obtain ⟨n62,x62,z62,l62,g62,hF⟩:=zZ hF;obtain ⟨b62,o62,s62,j62,r62,e62,f62,k62,⟨_,_,rfl,rfl,rfl⟩⟩:=RowF.get ra0_5 g62;refine zd st.d dw (fun hm vw=>zi hb60 (yt e62 z62 l62 zb)) ?_;refine zd st.d dw (fun hm vw=>zi hb60 (v_fa zb)) ?_;refine zd st.d dw (fun hm vw=>zi hb60 (zq (vw.fz st (le17 _ _ f62)) (yp (j:=0) k62 rfl) zb)) ?_
     refine zd st.d dw (fun hm vw=>zi hb60 (v_fa zb)) ?_;refine zd st.d dw (fun hm vw=>zi hb60 (zq (vw.bx (st.at (i:=0) rfl)) rfl zb)) ?_;refine zd st.d dw (fun hm vw=>zi hb60 (v_fa zb)) ?_;refine zd st.d dw (fun hm vw=>zi hb60 (zq (vw.bx (st.at (i:=0) rfl)) rfl zb)) ?_;refine zd st.d dw (fun hm vw=>zi hb60 (yA zb)) ?_;obtain ⟨q63,hF⟩:=zj hF;refine zd st.d dw (fun hm vw=>zi hb60 (yq q63 zb)) ?_;obtain ⟨n64,x64,z64,l64,g64,hF⟩:=zZ hF;obtain ⟨b64,o64,s64,j64,r64,e64,f64,k64,⟨_,_,rfl,rfl,rfl⟩⟩:=RowF.get ra0_5 g64;refine zd st.d dw (fun hm vw=>zi hb60 (yt e64 z64 l64 zb)) ?_
     refine zd st.d dw (fun hm vw=>zi hb60 (v_fa zb)) ?_;refine zd st.d dw (fun hm vw=>zi hb60 (zq (vw.fz st (le17 _ _ f64)) (yp (j:=0) k64 rfl) zb)) ?_;obtain ⟨v65,e66,hF⟩:=zm hF;refine yj st.d dw (fun hm vw=>zi hb60 (yl (ct86 N e66 vw.d (vw.sub st) ) (fun n' hn'=>yk hn'))) (fun n67 hn' dw=>?_);refine zd st.d dw (fun hm vw=>zi hb60 (yo zb)) ?_;refine zd st.d dw (fun hm vw=>zC hb60 zb) ?_;refine zd st.d dw (fun hm vw=>za zb) ?_
     rcases Bool.eq_false_or_eq_true (!v65) with hb68 | hb68
     ·have hF:=zw hb68 hF;refine zd st.d dw (fun hm vw=>ze hb68 zb) ?_;refine zd st.d dw (fun hm vw=>ze hb68 zb) ?_;refine zd st.d dw (fun hm vw=>ze hb68 zb) ?_;refine zd st.d dw (fun hm vw=>ze hb68 zb) ?_;refine zd st.d dw (fun hm vw=>ze hb68 zb) ?_;refine zd st.d dw (fun hm vw=>ze hb68 zb) ?_;refine ye st.d dw rfl (fun h69 ex vs=>?_)
      have st:=st.ext1 ex
      refine ze hb68 ?_;refine ze hb68 ?_;refine zG hb68 ?_;refine za ?_;refine ze rfl ?_;refine ze rfl ?_;refine ze rfl ?_;refine ze rfl ?_;refine zG rfl ?_;refine zf ?_;obtain rfl:=inj hF;refine thn ⟨rfl,?_⟩;dsimp only
      exact ⟨F17,rfl,(PH.le.refl _),st,gA⟩
     ·have hF:=zx hb68 hF;refine zd st.d dw (fun hm vw=>zi hb68 (v_fa zb)) ?_;refine zd st.d dw (fun hm vw=>zi hb68 (v_fa zb)) ?_;refine zd st.d dw (fun hm vw=>zi hb68 (zq (vw.bx (st.at (i:=0) rfl)) rfl zb)) ?_;refine zd st.d dw (fun hm vw=>zi hb68 (v_fa zb)) ?_;refine zd st.d dw (fun hm vw=>zi hb68 (v_fa zb)) ?_;refine zd st.d dw (fun hm vw=>zi hb68 (zq (vw.bx (st.at (i:=0) rfl)) rfl zb)) ?_;refine ye st.d dw rfl (fun h70 ex vs=>?_)
      have st:=st.ext1 ex
      obtain ⟨v71,e72,hF⟩:=zm hF;refine zi hb68 (zI st (ct25 N e72 st.d st.sub ) (fun n73 st=>?_));refine zi hb68 (yo ?_);refine zC hb68 ?_;refine za ?_
      rcases Bool.eq_false_or_eq_true (!v71) with hb74 | hb74
      ·have hF:=zw hb74 hF;refine ze hb74 ?_;refine ze hb74 ?_;refine ze hb74 ?_;refine ze hb74 ?_;refine zG hb74 ?_;refine zf ?_;obtain rfl:=inj hF;refine thn ⟨rfl,?_⟩;dsimp only
       exact ⟨F17,rfl,(PH.le.refl _),st,gA⟩
      ·have hF:=zx hb74 hF;refine zi hb74 (v_fa ?_);refine zi hb74 (v_fa ?_);refine zi hb74 (zq (st.at (i:=0) rfl).2.2 rfl ?_);refine zi hb74 (vV ?_);refine zC hb74 ?_;refine zf ?_;obtain rfl:=inj hF;refine thn ⟨rfl,?_⟩;dsimp only
       exact ⟨F17,rfl,(PH.le.refl _),st,gA⟩
  ·obtain ⟨F51,rfl,le51,st,t60⟩:=hp
   refine zB (fun hb76=>?_) (fun hb76=>?_)
   ·have hF:=zw hb76 hF;refine zg (zh ?_);refine za ?_;refine zf (th_n ?_);refine zu ?_;refine th_r ?_;obtain rfl:=inj hF
    exact zD st (Res.t gA Res.nil) rfl rfl
   ·have hF:=zx hb76 hF;refine zA (th_n ?_);refine zg (zh ?_);refine za ?_;refine zf (th_n ?_);refine zu ?_;obtain rfl:=inj hF
    exact zD st (Res.t gA Res.nil) rfl rfl
end Go.Hx.V

namespace Go.Hx.V
open Go.Hx
set_option maxRecDepth 20000
set_option maxHeartbeats 4000000
variable {fl : Nat} {h0 : Tr HBlk} {n0 : Nat} {F0 : PH}
attribute [local irreducible] W R C thenH inBlockH Tr.get Tr.set lo ck bnd ix iter
theorem ct70 (N:Nat) {a0_0 a0_1 a0_2 a0_3:Int} {a1:(List (Int × Int × Int × Int))} {r:((List (Int × Int)) × Int)} (hF:sf70 N a0_0 a0_1 a0_2 a0_3 a1 = some r) (hd:D h0 n0) (hs:F0.sub h0) (hfl:fl ≤ n0) {pa1:Option (Nat × Nat)} {ca1:Nat} (ra1:RowF (rP rI (rP rI (rP rI rI))) 4 F0 pa1 ca1 a1):C LW fl 70 [(.agg [(i64 a0_0),(i64 a0_1),(i64 a0_2),(i64 a0_3)]),(.slice pa1 (a1).length ca1)] ⟨h0,n0⟩ (KR (rvT2 (lvL (rP rI rI) 2) lvI) F0 h0 n0 r):=by
 unfold sf70 at hF
 refine vu hd hs hfl lw70 rfl rfl (by rfl) (fun st T hT=>?_)
 have t0:=hT 0 _ rfl
 have t1:=hT 1 _ rfl
 dsimp only [L70]
 refine zg (zh ?_);refine zW st (fun b1 h2 n3 st=>?_);refine za ?_;refine za ?_;refine zf (th_n ?_);refine zg (zh ?_);refine zK (vs:=[(i64 a0_0),(i64 a0_1),(i64 a0_2),(i64 a0_3)]) (st.at (i:=0) rfl).2.2 rfl ?_;refine za ?_;obtain ⟨v4,e5,hF⟩:=zm hF;refine zI st (ct94 N e5 st.d st.sub ra1) (fun n6 st=>?_);refine za ?_;refine v_xt rfl ?_;refine v_xt rfl ?_;refine zM st (fun b7 h8 n9 st=>?_)
 have st:=st.cells 1 rfl ([(i64 0),(i64 0),(i64 0),(i64 0),(i64 0)] ++ (eI .i64 169 (fun _=>0))) rfl
 refine v_st (v:=(.agg ([(i64 v4.1),(i64 v4.2.1),(i64 v4.2.2.1),(i64 v4.2.2.2.1),(i64 v4.2.2.2.2.1)] ++ (eI .i64 169 v4.2.2.2.2.2.1)))) (cs':=([(i64 v4.1),(i64 v4.2.1),(i64 v4.2.2.1),(i64 v4.2.2.2.1),(i64 v4.2.2.2.2.1)] ++ (eI .i64 169 v4.2.2.2.2.2.1))) st 1 rfl (yc [] rfl (by simp [HV.cells,zy,yn])) (zY _ zy (by rfl)) (zX _ (by rfl) ym) hfl (fun h10 st=>?_)
 refine za ?_;refine zf (th_n ?_);refine zg ?_;refine zg (zh ?_);refine za ?_;refine va ?_;refine zf (th_n ?_);refine zB (fun hb11=>?_) (fun hb11=>?_)
 ·have hF:=zw hb11 hF;refine zg (zh ?_);refine za ?_;refine za ?_;refine za ?_;refine zf (th_n ?_);refine zu ?_;refine th_r ?_;obtain rfl:=inj hF
  exact yJ st (Res.t gA (Res.t gA Res.nil)) ⟨_,_,rfl,⟨none,0,rfl,RowF.nil⟩,rfl⟩
 ·have hF:=zx hb11 hF;refine zA (th_n ?_);refine zg (zh ?_);refine zK (vs:=([(i64 v4.1),(i64 v4.2.1),(i64 v4.2.2.1),(i64 v4.2.2.2.1),(i64 v4.2.2.2.2.1)] ++ (eI .i64 169 v4.2.2.2.2.2.1))) (st.at (i:=1) rfl).2.2 (zS (E:=(eI .i64 169 v4.2.2.2.2.2.1)) [] [(i64 v4.1),(i64 v4.2.1),(i64 v4.2.2.1),(i64 v4.2.2.2.1),(i64 v4.2.2.2.2.1)] rfl zy rfl) ?_;obtain ⟨v12,e13,hF⟩:=zm hF;refine yC st (ct108 N e13 st.d st.sub (Nat.le_trans hfl st.ext.le) ) (fun u14 F14 h14 n14 le14 rv14 st=>?_);obtain ⟨py15,cy15,rfl,ry15⟩:=rv14;refine za ?_;refine za ?_;refine zf (th_n ?_);refine zu ?_;obtain rfl:=inj hF
  exact yJ st (Res.t gA (Res.t gA Res.nil)) ⟨_,_,rfl,⟨_,_,rfl,ry15⟩,rfl⟩
theorem ct52 (N:Nat) {a0_0 a0_1 a0_2 a0_3:Int} {a0_4:(List (Int × Int × Int × Int))} {a0_5:(List (Int × Int))} {a0_6 a0_7 a0_8 a0_9:Int} {r:Bool} (hF:sf52 N a0_0 a0_1 a0_2 a0_3 a0_4 a0_5 a0_6 a0_7 a0_8 a0_9 = some r) (hd:D h0 n0) (hs:F0.sub h0) {pa0_4:Option (Nat × Nat)} {ca0_4:Nat} {pa0_5:Option (Nat × Nat)} {ca0_5:Nat} (ra0_4:RowF (rP rI (rP rI (rP rI rI))) 4 F0 pa0_4 ca0_4 a0_4) (ra0_5:RowF (rP rI rI) 2 F0 pa0_5 ca0_5 a0_5):C LW fl 52 [(.agg [(i64 a0_0),(i64 a0_1),(i64 a0_2),(i64 a0_3),(.slice pa0_4 (a0_4).length ca0_4),(.slice pa0_5 (a0_5).length ca0_5),(i64 a0_6),(i64 a0_7),(i64 a0_8),(i64 a0_9)])] ⟨h0,n0⟩ (KS (.bool r) n0 h0):=by
 unfold sf52 at hF
 refine z8 hd hs lw52 rfl rfl (by rfl) (fun st T hT=>?_)
 have hfl:n0 ≤ n0:=Nat.le_refl n0
 have t0:=hT 0 _ rfl
 dsimp only [L52]
 refine zg (zh ?_);refine zW st (fun b1 h2 n3 st=>?_);refine za ?_;refine zf (th_n ?_);refine zg (zh ?_);refine v_fa ?_;refine v_st (cs':=[(i64 a0_0),(i64 a0_1),(i64 a0_2),(i64 a0_3),(.slice none 0 0),(.slice pa0_5 (a0_5).length ca0_5),(i64 a0_6),(i64 a0_7),(i64 a0_8),(i64 a0_9)]) st 0 rfl rfl rfl rfl hfl (fun h4 st=>?_);refine zf (th_n ?_);refine zg (zh ?_);refine zK (vs:=[(i64 a0_0),(i64 a0_1),(i64 a0_2),(i64 a0_3),(.slice none 0 0),(.slice pa0_5 (a0_5).length ca0_5),(i64 a0_6),(i64 a0_7),(i64 a0_8),(i64 a0_9)]) (st.at (i:=0) rfl).2.2 rfl ?_;obtain ⟨v5,e6,hF⟩:=zm hF
 refine zI st (ct18 N e6 st.d st.sub RowF.nil ra0_5) (fun n7 st=>?_);refine za ?_
 rcases Bool.eq_false_or_eq_true v5 with hb8 | hb8
 ·have hF:=zw hb8 hF;refine zi hb8 (zK (vs:=[(i64 a0_0),(i64 a0_1),(i64 a0_2),(i64 a0_3),(.slice none 0 0),(.slice pa0_5 (a0_5).length ca0_5),(i64 a0_6),(i64 a0_7),(i64 a0_8),(i64 a0_9)]) (st.at (i:=0) rfl).2.2 rfl ?_);obtain ⟨v9,e10,hF⟩:=zm hF;refine zi hb8 (zI st (ct40 N e10 st.d st.sub RowF.nil ra0_5) (fun n11 st=>?_));refine zi hb8 (Yz ?_);refine zG hb8 ?_;refine za ?_;refine zf (th_n ?_);refine zu ?_;obtain rfl:=inj hF
  exact zD st (Res.t gA Res.nil) rfl rfl
 ·have hF:=zx hb8 hF;refine ze hb8 ?_;refine ze hb8 ?_;refine ze hb8 ?_;refine zC hb8 ?_;refine za ?_;refine zf (th_n ?_);refine zu ?_;obtain rfl:=inj hF
  exact zD st (Res.t gA Res.nil) rfl rfl
end Go.Hx.V

namespace Go.Hx.V
open Go.Hx
set_option maxRecDepth 20000
set_option maxHeartbeats 4000000
variable {fl : Nat} {h0 : Tr HBlk} {n0 : Nat} {F0 : PH}
attribute [local irreducible] W R C thenH inBlockH Tr.get Tr.set lo ck bnd ix iter
theorem ct58 (N:Nat) {a0_0 a0_1 a0_2 a0_3:Int} {a1:(List (Int × Int × Int × Int))} {a2:Int} {a3:Bool} {r:((List Int) × Int)} (hF:sf58 N a0_0 a0_1 a0_2 a0_3 a1 a2 a3 = some r) (hd:D h0 n0) (hs:F0.sub h0) (hfl:fl ≤ n0) {pa1:Option (Nat × Nat)} {ca1:Nat} (ra1:RowF (rP rI (rP rI (rP rI rI))) 4 F0 pa1 ca1 a1):C LW fl 58 [(.agg [(i64 a0_0),(i64 a0_1),(i64 a0_2),(i64 a0_3)]),(.slice pa1 (a1).length ca1),(i64 a2),(.bool a3)] ⟨h0,n0⟩ (KR (rvT2 (lvL rI 1) lvI) F0 h0 n0 r):=by
 unfold sf58 at hF
 refine vu hd hs hfl lw58 rfl rfl (by rfl) (fun st T hT=>?_)
 have t0:=hT 0 _ rfl
 have t1:=hT 1 _ rfl
 have t2:=hT 2 _ rfl
 have t3:=hT 3 _ rfl
 dsimp only [L58]
 refine zg (zh ?_);refine zW st (fun b1 h2 n3 st=>?_);refine za ?_;refine za ?_;refine zf (th_n ?_);refine zg (zh ?_);refine zK (vs:=[(i64 a0_0),(i64 a0_1),(i64 a0_2),(i64 a0_3)]) (st.at (i:=0) rfl).2.2 rfl ?_;refine za ?_;refine za ?_;refine yx ?_;refine za ?_
 rcases Bool.eq_false_or_eq_true (decide ((0:Int) ≤ a2)) with hb4 | hb4
 ·have hF:=zw hb4 hF;refine zi hb4 (za ?_);refine zi hb4 (v_fa ?_);refine zi hb4 (zq (st.at (i:=0) rfl).2.2 rfl ?_);refine zi hb4 (yx ?_);refine zG hb4 ?_;obtain ⟨v5,e6,hF⟩:=zm hF;refine zI st (ct94 N e6 st.d st.sub ra1) (fun n7 st=>?_);refine za ?_;refine v_xt rfl ?_;refine v_xt rfl ?_;refine zM st (fun b8 h9 n10 st=>?_)
  have st:=st.cells 1 rfl ([(i64 0),(i64 0),(i64 0),(i64 0),(i64 0)] ++ (eI .i64 169 (fun _=>0))) rfl
  refine v_st (v:=(.agg ([(i64 v5.1),(i64 v5.2.1),(i64 v5.2.2.1),(i64 v5.2.2.2.1),(i64 v5.2.2.2.2.1)] ++ (eI .i64 169 v5.2.2.2.2.2.1)))) (cs':=([(i64 v5.1),(i64 v5.2.1),(i64 v5.2.2.1),(i64 v5.2.2.2.1),(i64 v5.2.2.2.2.1)] ++ (eI .i64 169 v5.2.2.2.2.2.1))) st 1 rfl (yc [] rfl (by simp [HV.cells,zy,yn])) (zY _ zy (by rfl)) (zX _ (by rfl) ym) hfl (fun h11 st=>?_)
  refine za ?_;refine zf (th_n ?_);refine zg ?_;refine zg (zh ?_);refine za ?_;refine va ?_;refine zf (th_n ?_);refine zB (fun hb12=>?_) (fun hb12=>?_)
  ·have hF:=zw hb12 hF;refine zg (zh ?_);refine za ?_;refine za ?_;refine za ?_;refine zf (th_n ?_);refine zu ?_;refine th_r ?_;obtain rfl:=inj hF
   exact yJ st (Res.t gA (Res.t gA Res.nil)) ⟨_,_,rfl,⟨none,0,rfl,RowF.nil⟩,rfl⟩
  ·have hF:=zx hb12 hF;refine zA (th_n ?_);refine zg ?_;refine zg (zh ?_);refine za ?_;refine zf (th_n ?_);refine zB (fun hb13=>?_) (fun hb13=>?_)
   ·have hF:=zw hb13 hF;refine zg ?_;refine zV (Nat.le_trans hfl st.ext.le) (fun dw=>?_);refine zd st.d dw (fun hm vw=>zK (vs:=([(i64 v5.1),(i64 v5.2.1),(i64 v5.2.2.1),(i64 v5.2.2.2.1),(i64 v5.2.2.2.2.1)] ++ (eI .i64 169 v5.2.2.2.2.2.1))) (vw.bx (st.at (i:=1) rfl)) (zS (E:=(eI .i64 169 v5.2.2.2.2.2.1)) [] [(i64 v5.1),(i64 v5.2.1),(i64 v5.2.2.1),(i64 v5.2.2.2.1),(i64 v5.2.2.2.2.1)] rfl zy rfl) zb) ?_;obtain ⟨v14,e15,hF⟩:=zm hF;refine yj st.d dw (fun hm vw=>yl (ct96 N e15 vw.d (vw.sub st) ) (fun n' hn'=>yk hn')) (fun n16 hn' dw=>?_);refine ye st.d dw rfl (fun h17 ex vs=>?_)
    have st:=st.ext1 ex
    refine kO rfl ?_;obtain ⟨v18,e19,hF⟩:=zm hF;refine yC st (ct95 N e19 st.d st.sub (Nat.le_trans hfl st.ext.le) ) (fun u20 F20 h20 n20 le20 rv20 st=>?_);obtain ⟨py21,cy21,rfl,ry21⟩:=rv20;refine za ?_;refine za ?_;refine zf (th_n ?_);refine zu ?_;refine th_r ?_;obtain rfl:=inj hF
    exact yJ st (Res.t gA (Res.t gA Res.nil)) ⟨_,_,rfl,⟨_,_,rfl,ry21⟩,rfl⟩
   ·have hF:=zx hb13 hF;refine zA (th_n ?_);refine zg ?_;refine zV (Nat.le_trans hfl st.ext.le) (fun dw=>?_);refine zd st.d dw (fun hm vw=>zK (vs:=([(i64 v5.1),(i64 v5.2.1),(i64 v5.2.2.1),(i64 v5.2.2.2.1),(i64 v5.2.2.2.2.1)] ++ (eI .i64 169 v5.2.2.2.2.2.1))) (vw.bx (st.at (i:=1) rfl)) (zS (E:=(eI .i64 169 v5.2.2.2.2.2.1)) [] [(i64 v5.1),(i64 v5.2.1),(i64 v5.2.2.1),(i64 v5.2.2.2.1),(i64 v5.2.2.2.2.1)] rfl zy rfl) zb) ?_;obtain ⟨v22,e23,hF⟩:=zm hF;refine yj st.d dw (fun hm vw=>yl (ct96 N e23 vw.d (vw.sub st) ) (fun n' hn'=>yk hn')) (fun n24 hn' dw=>?_);refine ye st.d dw rfl (fun h25 ex vs=>?_)
    have st:=st.ext1 ex
    refine kO rfl ?_;obtain ⟨v26,e27,hF⟩:=zm hF;refine yC st (ct95_2 N e27 st.d st.sub (Nat.le_trans hfl st.ext.le) ) (fun u28 F28 h28 n28 le28 rv28 st=>?_);obtain ⟨py29,cy29,rfl,ry29⟩:=rv28;refine za ?_;refine za ?_;refine zf (th_n ?_);refine zu ?_;obtain rfl:=inj hF
    exact yJ st (Res.t gA (Res.t gA Res.nil)) ⟨_,_,rfl,⟨_,_,rfl,ry29⟩,rfl⟩
 ·have hF:=zx hb4 hF;refine ze hb4 ?_;refine ze hb4 ?_;refine ze hb4 ?_;refine ze hb4 ?_;refine zC hb4 ?_;obtain ⟨v30,e31,hF⟩:=zm hF;refine zI st (ct94 N e31 st.d st.sub ra1) (fun n32 st=>?_);refine za ?_;refine v_xt rfl ?_;refine v_xt rfl ?_;refine zM st (fun b33 h34 n35 st=>?_)
  have st:=st.cells 1 rfl ([(i64 0),(i64 0),(i64 0),(i64 0),(i64 0)] ++ (eI .i64 169 (fun _=>0))) rfl
  refine v_st (v:=(.agg ([(i64 v30.1),(i64 v30.2.1),(i64 v30.2.2.1),(i64 v30.2.2.2.1),(i64 v30.2.2.2.2.1)] ++ (eI .i64 169 v30.2.2.2.2.2.1)))) (cs':=([(i64 v30.1),(i64 v30.2.1),(i64 v30.2.2.1),(i64 v30.2.2.2.1),(i64 v30.2.2.2.2.1)] ++ (eI .i64 169 v30.2.2.2.2.2.1))) st 1 rfl (yc [] rfl (by simp [HV.cells,zy,yn])) (zY _ zy (by rfl)) (zX _ (by rfl) ym) hfl (fun h36 st=>?_)
  refine za ?_;refine zf (th_n ?_);refine zg ?_;refine zg (zh ?_);refine za ?_;refine va ?_;refine zf (th_n ?_);refine zB (fun hb37=>?_) (fun hb37=>?_)
  ·have hF:=zw hb37 hF;refine zg (zh ?_);refine za ?_;refine za ?_;refine za ?_;refine zf (th_n ?_);refine zu ?_;refine th_r ?_;obtain rfl:=inj hF
   exact yJ st (Res.t gA (Res.t gA Res.nil)) ⟨_,_,rfl,⟨none,0,rfl,RowF.nil⟩,rfl⟩
  ·have hF:=zx hb37 hF;refine zA (th_n ?_);refine zg ?_;refine zg (zh ?_);refine za ?_;refine zf (th_n ?_);refine zB (fun hb38=>?_) (fun hb38=>?_)
   ·have hF:=zw hb38 hF;refine zg ?_;refine zV (Nat.le_trans hfl st.ext.le) (fun dw=>?_);refine zd st.d dw (fun hm vw=>zK (vs:=([(i64 v30.1),(i64 v30.2.1),(i64 v30.2.2.1),(i64 v30.2.2.2.1),(i64 v30.2.2.2.2.1)] ++ (eI .i64 169 v30.2.2.2.2.2.1))) (vw.bx (st.at (i:=1) rfl)) (zS (E:=(eI .i64 169 v30.2.2.2.2.2.1)) [] [(i64 v30.1),(i64 v30.2.1),(i64 v30.2.2.1),(i64 v30.2.2.2.1),(i64 v30.2.2.2.2.1)] rfl zy rfl) zb) ?_;obtain ⟨v39,e40,hF⟩:=zm hF;refine yj st.d dw (fun hm vw=>yl (ct96 N e40 vw.d (vw.sub st) ) (fun n' hn'=>yk hn')) (fun n41 hn' dw=>?_);refine ye st.d dw rfl (fun h42 ex vs=>?_)
    have st:=st.ext1 ex
    refine kO rfl ?_;obtain ⟨v43,e44,hF⟩:=zm hF;refine yC st (ct95 N e44 st.d st.sub (Nat.le_trans hfl st.ext.le) ) (fun u45 F45 h45 n45 le45 rv45 st=>?_);obtain ⟨py46,cy46,rfl,ry46⟩:=rv45;refine za ?_;refine za ?_;refine zf (th_n ?_);refine zu ?_;refine th_r ?_;obtain rfl:=inj hF
    exact yJ st (Res.t gA (Res.t gA Res.nil)) ⟨_,_,rfl,⟨_,_,rfl,ry46⟩,rfl⟩
   ·have hF:=zx hb38 hF;refine zA (th_n ?_);refine zg ?_;refine zV (Nat.le_trans hfl st.ext.le) (fun dw=>?_);refine zd st.d dw (fun hm vw=>zK (vs:=([(i64 v30.1),(i64 v30.2.1),(i64 v30.2.2.1),(i64 v30.2.2.2.1),(i64 v30.2.2.2.2.1)] ++ (eI .i64 169 v30.2.2.2.2.2.1))) (vw.bx (st.at (i:=1) rfl)) (zS (E:=(eI .i64 169 v30.2.2.2.2.2.1)) [] [(i64 v30.1),(i64 v30.2.1),(i64 v30.2.2.1),(i64 v30.2.2.2.1),(i64 v30.2.2.2.2.1)] rfl zy rfl) zb) ?_;obtain ⟨v47,e48,hF⟩:=zm hF;refine yj st.d dw (fun hm vw=>yl (ct96 N e48 vw.d (vw.sub st) ) (fun n' hn'=>yk hn')) (fun n49 hn' dw=>?_);refine ye st.d dw rfl (fun h50 ex vs=>?_)
    have st:=st.ext1 ex
    refine kO rfl ?_;obtain ⟨v51,e52,hF⟩:=zm hF;refine yC st (ct95_2 N e52 st.d st.sub (Nat.le_trans hfl st.ext.le) ) (fun u53 F53 h53 n53 le53 rv53 st=>?_);obtain ⟨py54,cy54,rfl,ry54⟩:=rv53;refine za ?_;refine za ?_;refine zf (th_n ?_);refine zu ?_;obtain rfl:=inj hF
    exact yJ st (Res.t gA (Res.t gA Res.nil)) ⟨_,_,rfl,⟨_,_,rfl,ry54⟩,rfl⟩
end Go.Hx.V

namespace Go.Hx.V
open Go.Hx
set_option maxRecDepth 20000
set_option maxHeartbeats 4000000
variable {fl : Nat} {h0 : Tr HBlk} {n0 : Nat} {F0 : PH}
attribute [local irreducible] W R C thenH inBlockH Tr.get Tr.set lo ck bnd ix iter
theorem ct65 (N:Nat) {a0_0 a0_1 a0_2 a0_3:Int} {a0_4:(List (Int × Int × Int × Int))} {a0_5:(List (Int × Int))} {a0_6 a0_7 a0_8 a0_9:Int} {r:(Int × Int × Int × Int × (List (Int × Int × Int × Int)) × (List (Int × Int)) × Int × Int × Int × Int × (Nat → Int) × Int)} (hF:sf65 N a0_0 a0_1 a0_2 a0_3 a0_4 a0_5 a0_6 a0_7 a0_8 a0_9 = some r) (hd:D h0 n0) (hs:F0.sub h0) (hfl:fl ≤ n0) {pa0_4:Option (Nat × Nat)} {ca0_4:Nat} {pa0_5:Option (Nat × Nat)} {ca0_5:Nat} (ra0_4:RowF (rP rI (rP rI (rP rI rI))) 4 F0 pa0_4 ca0_4 a0_4) (ra0_5:RowF (rP rI rI) 2 F0 pa0_5 ca0_5 a0_5):C LW fl 65 [(.agg [(i64 a0_0),(i64 a0_1),(i64 a0_2),(i64 a0_3),(.slice pa0_4 (a0_4).length ca0_4),(.slice pa0_5 (a0_5).length ca0_5),(i64 a0_6),(i64 a0_7),(i64 a0_8),(i64 a0_9)])] ⟨h0,n0⟩ (KR (rvT2A (rqC rI (rqC rI (rqC rI (rqC rI (rqC (rL (rP rI (rP rI (rP rI rI))) 4) (rqC (rL (rP rI rI) 2) (rqC rI (rqC rI (rqC rI (rqC rI (rqL (rF .i64 22) lvI)))))))))))) F0 h0 n0 r):=by
 unfold sf65 at hF
 refine vu hd hs hfl lw65 rfl rfl (by rfl) (fun st T hT=>?_)
 have t0:=hT 0 _ rfl
 dsimp only [L65]
 refine zg (zh ?_);refine zW st (fun b1 h2 n3 st=>?_);refine zM st (fun b4 h5 n6 st=>?_)
 have st:=st.cells 1 rfl ([(i64 0),(i64 0),(i64 0),(i64 0),(.slice none 0 0),(.slice none 0 0),(i64 0),(i64 0),(i64 0),(i64 0)] ++ (eI .i64 22 (fun _=>0))) rfl
 refine za ?_;refine zf (th_n ?_);obtain ⟨y15,hA16,hF⟩:=zm hF;refine yG (fun T ds21 h nx=>∃ u,y15 = (.inr u) ∧ ∃ (F21:PH),ds21 = [] ∧ PH.le F0 F21 ∧ St n0 h0 F0 F21 h nx [.bx b1 [(i64 a0_0),(i64 a0_1),(i64 a0_2),(i64 a0_3),(.slice pa0_4 (a0_4).length ca0_4),(.slice pa0_5 (a0_5).length ca0_5),(i64 a0_6),(i64 a0_7),(i64 a0_8),(i64 a0_9)],.bx b4 ([(i64 0),(i64 0),(i64 0),(i64 0),(.slice none 0 0),(.slice none 0 0),(i64 0),(i64 0),(i64 0),(i64 0)] ++ (eI .i64 22 (fun _=>0)))] ∧ T.get 1 = some (.ptr (some (b1,0))) ∧ T.get 2 = some (.ptr (some (b4,0)))) ?_ (fun T ds21 h nx hp=>?_)
 ·have hK17:=hF
  have hF:=hA16;obtain ⟨y23,hA24,hF⟩:=zm hF;refine yG (fun T ds26 h nx=>∃ (F26:PH),ds26 = [] ∧ PH.le F0 F26 ∧ St n0 h0 F0 F26 h nx [.bx b1 [(i64 a0_0),(i64 a0_1),(i64 a0_2),(i64 a0_3),(.slice pa0_4 (a0_4).length ca0_4),(.slice pa0_5 (a0_5).length ca0_5),(i64 a0_6),(i64 a0_7),(i64 a0_8),(i64 a0_9)],.bx b4 ([(i64 0),(i64 0),(i64 0),(i64 0),(.slice none 0 0),(.slice none 0 0),(i64 0),(i64 0),(i64 0),(i64 0)] ++ (eI .i64 22 (fun _=>0)))] ∧ T.get 1 = some (.ptr (some (b1,0))) ∧ T.get 2 = some (.ptr (some (b4,0))) ∧ T.get 18 = some (.bool y23)) ?_ (fun T ds26 h nx hp=>?_)
  ·have hK25:=hF
   have hF:=hA24;refine zh ?_;refine v_fa ?_;refine zq (st.at (i:=0) rfl).2.2 rfl ?_;refine yA ?_;refine vV ?_;refine za ?_
   rcases Bool.eq_false_or_eq_true (decide ((12:Int) < ((a0_4).length:Int))) with hb27 | hb27
   ·have hF:=zw hb27 hF;refine ze hb27 ?_;refine ze hb27 ?_;refine ze hb27 ?_;refine ze hb27 ?_;refine zG hb27 ?_;refine zf ?_;obtain rfl:=inj hF;refine thn ⟨rfl,?_⟩;dsimp only
    exact ⟨F0,rfl,(PH.le.refl _),st,gA,gA,gA⟩
   ·have hF:=zx hb27 hF;refine zi hb27 (v_fa ?_);refine zi hb27 (zq (st.at (i:=0) rfl).2.2 rfl ?_);refine zi hb27 (yA ?_);refine zi hb27 (vV ?_);refine zC hb27 ?_;refine zf ?_;obtain rfl:=inj hF;refine thn ⟨rfl,?_⟩;dsimp only
    exact ⟨F0,rfl,(PH.le.refl _),st,gA,gA,gA⟩
  ·obtain ⟨F26,rfl,le26,st,t1,t2,t18⟩:=hp;refine zB (fun hb28=>?_) (fun hb28=>?_)
   ·have hF:=zw hb28 hF;refine zg (zh ?_);refine zR (cs:=([(i64 0),(i64 0),(i64 0),(i64 0),(.slice none 0 0),(.slice none 0 0),(i64 0),(i64 0),(i64 0),(i64 0)] ++ (eI .i64 22 (fun _=>0)))) rfl ?_
    refine v_st (v:=(.agg ([(i64 0),(i64 0),(i64 0),(i64 0),(.slice none 0 0),(.slice none 0 0),(i64 0),(i64 0),(i64 0),(i64 0)] ++ (eI .i64 22 (fun _=>0))))) (cs':=([(i64 0),(i64 0),(i64 0),(i64 0),(.slice none 0 0),(.slice none 0 0),(i64 0),(i64 0),(i64 0),(i64 0)] ++ (eI .i64 22 (fun _=>0)))) st 1 rfl (yc [] rfl (by simp [HV.cells,zy,yn])) (zY _ zy (by rfl)) (zX _ (by rfl) ym) hfl (fun h29 st=>?_)
    refine za ?_;refine zf (th_n ?_);refine zu ?_;obtain rfl:=inj hF;have hF:=hK17;have hF:=vg hF;refine th_r ?_;obtain rfl:=inj hF
    exact yJ st (Res.c gA (st.at (i:=1) rfl).2.2 (show takeN _ _ = some ([(i64 0),(i64 0),(i64 0),(i64 0),(.slice none 0 0),(.slice none 0 0),(i64 0),(i64 0),(i64 0),(i64 0)] ++ (eI .i64 22 (fun _=>0))) from (zS (E:=(eI .i64 22 (fun _=>0))) [] [(i64 0),(i64 0),(i64 0),(i64 0),(.slice none 0 0),(.slice none 0 0),(i64 0),(i64 0),(i64 0),(i64 0)] rfl zy rfl)) (Res.t gA Res.nil)) ⟨_,_,rfl,⟨[(i64 0)],_,rfl,rfl,⟨[(i64 0)],_,rfl,rfl,⟨[(i64 0)],_,rfl,rfl,⟨[(i64 0)],_,rfl,rfl,⟨[(.slice none 0 0)],_,rfl,⟨none,0,rfl,RowF.nil⟩,⟨[(.slice none 0 0)],_,rfl,⟨none,0,rfl,RowF.nil⟩,⟨[(i64 0)],_,rfl,rfl,⟨[(i64 0)],_,rfl,rfl,⟨[(i64 0)],_,rfl,rfl,⟨[(i64 0)],_,rfl,rfl,⟨rfl,rfl⟩⟩⟩⟩⟩⟩⟩⟩⟩⟩⟩⟩
   ·have hF:=zx hb28 hF;refine zA ?_;obtain rfl:=inj hF;refine thn ⟨rfl,_,rfl,?_⟩;dsimp only
    exact ⟨F26,rfl,le26,st,gA,gA⟩
 ·obtain ⟨w20,rfl,F21,rfl,le21,st,t1,t2⟩:=hp;have hF:=ve hF;refine zg (zh ?_);refine v_fa ?_;refine zK (vs:=[(i64 a0_0),(i64 a0_1),(i64 a0_2),(i64 a0_3)]) (st.at (i:=0) rfl).2.2 rfl ?_;refine v_fa ?_;refine zq (st.at (i:=0) rfl).2.2 rfl ?_;obtain ⟨v30,e31,hF⟩:=zm hF;refine yC st (ct70 N e31 st.d st.sub (Nat.le_trans hfl st.ext.le) (RowF.mono le21 ra0_4)) (fun u32 F32 h32 n32 le32 rv32 st=>?_)
  have le33:=PH.le.trans le21 le32
  obtain ⟨_,_,rfl,⟨py34,cy34,rfl,ry34⟩,rfl⟩:=rv32;refine za ?_;refine v_xt rfl ?_;refine v_xt rfl ?_;refine za ?_;refine za ?_;refine zf (th_n ?_);refine zg (zh ?_);refine v_fa ?_;refine zq (st.at (i:=0) rfl).2.2 rfl ?_;refine v_fa ?_;refine zK (vs:=[(i64 a0_6),(i64 a0_7)]) (st.at (i:=0) rfl).2.2 rfl ?_;obtain ⟨v35,e36,hF⟩:=zm hF;refine zI st (ct101 N e36 st.d st.sub (RowF.mono le33 ra0_5)) (fun n37 st=>?_);refine za ?_;refine v_xt rfl ?_;refine v_xt rfl ?_;refine zM st (fun b38 h39 n40 st=>?_);refine v_st (cs':=[(i64 v35.1),(i64 v35.2.1)]) st 2 rfl rfl rfl rfl hfl (fun h41 st=>?_)
  refine za ?_;refine zf (th_n ?_);refine zg (zh ?_);refine za ?_;refine Yz ?_;refine za ?_;refine zf (th_n ?_);obtain ⟨y92,hA93,hF⟩:=zm hF;refine yG (fun T ds98 h nx=>∃ u,y92 = (.inr u) ∧ ∃ (F98:PH),ds98 = [] ∧ PH.le F32 F98 ∧ St n0 h0 F0 F98 h nx [.bx b1 [(i64 a0_0),(i64 a0_1),(i64 a0_2),(i64 a0_3),(.slice pa0_4 (a0_4).length ca0_4),(.slice pa0_5 (a0_5).length ca0_5),(i64 a0_6),(i64 a0_7),(i64 a0_8),(i64 a0_9)],.bx b4 ([(i64 0),(i64 0),(i64 0),(i64 0),(.slice none 0 0),(.slice none 0 0),(i64 0),(i64 0),(i64 0),(i64 0)] ++ (eI .i64 22 (fun _=>0))),.bx b38 [(i64 v35.1),(i64 v35.2.1)]] ∧ T.get 1 = some (.ptr (some (b1,0))) ∧ T.get 2 = some (.ptr (some (b4,0))) ∧ T.get 4 = some (.slice py34 (v30.1).length cy34) ∧ T.get 6 = some (.ptr (some (b38,0))) ∧ T.get 8 = some (.bool (decide (v30.2 = (9:Int))))) ?_ (fun T ds98 h nx hp=>?_)
  ·have hK94:=hF
   have hF:=hA93;obtain ⟨y120,hA121,hF⟩:=zm hF;refine yG (fun T ds123 h nx=>∃ (F123:PH),ds123 = [] ∧ PH.le F32 F123 ∧ St n0 h0 F0 F123 h nx [.bx b1 [(i64 a0_0),(i64 a0_1),(i64 a0_2),(i64 a0_3),(.slice pa0_4 (a0_4).length ca0_4),(.slice pa0_5 (a0_5).length ca0_5),(i64 a0_6),(i64 a0_7),(i64 a0_8),(i64 a0_9)],.bx b4 ([(i64 0),(i64 0),(i64 0),(i64 0),(.slice none 0 0),(.slice none 0 0),(i64 0),(i64 0),(i64 0),(i64 0)] ++ (eI .i64 22 (fun _=>0))),.bx b38 [(i64 v35.1),(i64 v35.2.1)]] ∧ T.get 1 = some (.ptr (some (b1,0))) ∧ T.get 2 = some (.ptr (some (b4,0))) ∧ T.get 4 = some (.slice py34 (v30.1).length cy34) ∧ T.get 6 = some (.ptr (some (b38,0))) ∧ T.get 8 = some (.bool (decide (v30.2 = (9:Int)))) ∧ T.get 54 = some (.bool y120)) ?_ (fun T ds123 h nx hp=>?_)
   ·have hK122:=hF
    have hF:=hA121;refine zV (Nat.le_trans hfl st.ext.le) (fun dw=>?_);refine zd st.d dw (fun hm vw=>za zb) ?_;refine zd st.d dw (fun hm vw=>va zb) ?_;refine zd st.d dw (fun hm vw=>za zb) ?_
    rcases Bool.eq_false_or_eq_true (!(decide (v30.2 = (0:Int)))) with hb124 | hb124
    ·have hF:=zw hb124 hF;refine zd st.d dw (fun hm vw=>zi hb124 (za zb)) ?_;refine zd st.d dw (fun hm vw=>zi hb124 (yo zb)) ?_;refine zd st.d dw (fun hm vw=>zG hb124 zb) ?_;refine zd st.d dw (fun hm vw=>za zb) ?_
     rcases Bool.eq_false_or_eq_true (!(decide (v30.2 = (9:Int)))) with hb125 | hb125
     ·have hF:=zw hb125 hF;refine zd st.d dw (fun hm vw=>ze hb125 zb) ?_;refine zd st.d dw (fun hm vw=>ze hb125 zb) ?_;refine zd st.d dw (fun hm vw=>zG hb125 zb) ?_;refine zd st.d dw (fun hm vw=>za zb) ?_;refine zd st.d dw (fun hm vw=>ze rfl zb) ?_;refine zd st.d dw (fun hm vw=>ze rfl zb) ?_;refine zd st.d dw (fun hm vw=>ze rfl zb) ?_;refine ye st.d dw rfl (fun h126 ex vs=>?_)
      have st:=st.ext1 ex
      refine ze rfl ?_;refine ze rfl ?_;refine zG rfl ?_;refine zf ?_;obtain rfl:=inj hF;refine thn ⟨rfl,?_⟩;dsimp only
      exact ⟨F32,rfl,(PH.le.refl _),st,gA,gA,gA,gA,gA,gA⟩
     ·have hF:=zx hb125 hF;refine zd st.d dw (fun hm vw=>zi hb125 (za zb)) ?_;refine zd st.d dw (fun hm vw=>zi hb125 (va zb)) ?_;refine zd st.d dw (fun hm vw=>zC hb125 zb) ?_;refine zd st.d dw (fun hm vw=>za zb) ?_
      rcases Bool.eq_false_or_eq_true (!(decide (v35.2.2 = (0:Int)))) with hb127 | hb127
      ·have hF:=zw hb127 hF;refine zd st.d dw (fun hm vw=>ze hb127 zb) ?_;refine zd st.d dw (fun hm vw=>ze hb127 zb) ?_;refine zd st.d dw (fun hm vw=>ze hb127 zb) ?_;refine ye st.d dw rfl (fun h128 ex vs=>?_)
       have st:=st.ext1 ex
       refine ze hb127 ?_;refine ze hb127 ?_;refine zG hb127 ?_;refine zf ?_;obtain rfl:=inj hF;refine thn ⟨rfl,?_⟩;dsimp only
       exact ⟨F32,rfl,(PH.le.refl _),st,gA,gA,gA,gA,gA,gA⟩
      ·have hF:=zx hb127 hF;refine zd st.d dw (fun hm vw=>zi hb127 (v_fa zb)) ?_;refine zd st.d dw (fun hm vw=>zi hb127 (zK (vs:=[(i64 a0_8),(i64 a0_9)]) (vw.bx (st.at (i:=0) rfl)) rfl zb)) ?_;obtain ⟨v129,e130,hF⟩:=zm hF;refine yj st.d dw (fun hm vw=>zi hb127 (yl (ct103 N e130 vw.d (vw.sub st) ) (fun n' hn'=>yk hn'))) (fun n131 hn' dw=>?_);refine ye st.d dw rfl (fun h132 ex vs=>?_)
       have st:=st.ext1 ex
       obtain ⟨v133,e134,hF⟩:=zm hF;refine zi hb127 (zI st (ct102 N e134 st.d st.sub ) (fun n135 st=>?_));refine zi hb127 (yo ?_);refine zC hb127 ?_;refine zf ?_;obtain rfl:=inj hF;refine thn ⟨rfl,?_⟩;dsimp only
       exact ⟨F32,rfl,(PH.le.refl _),st,gA,gA,gA,gA,gA,gA⟩
    ·have hF:=zx hb124 hF;refine zd st.d dw (fun hm vw=>ze hb124 zb) ?_;refine zd st.d dw (fun hm vw=>ze hb124 zb) ?_;refine zd st.d dw (fun hm vw=>zC hb124 zb) ?_;refine zd st.d dw (fun hm vw=>za zb) ?_;refine zd st.d dw (fun hm vw=>zi rfl (za zb)) ?_;refine zd st.d dw (fun hm vw=>zi rfl (va zb)) ?_;refine zd st.d dw (fun hm vw=>zC rfl zb) ?_;refine zd st.d dw (fun hm vw=>za zb) ?_
     rcases Bool.eq_false_or_eq_true (!(decide (v35.2.2 = (0:Int)))) with hb136 | hb136
     ·have hF:=zw hb136 hF;refine zd st.d dw (fun hm vw=>ze hb136 zb) ?_;refine zd st.d dw (fun hm vw=>ze hb136 zb) ?_;refine zd st.d dw (fun hm vw=>ze hb136 zb) ?_;refine ye st.d dw rfl (fun h137 ex vs=>?_)
      have st:=st.ext1 ex
      refine ze hb136 ?_;refine ze hb136 ?_;refine zG hb136 ?_;refine zf ?_;obtain rfl:=inj hF;refine thn ⟨rfl,?_⟩;dsimp only
      exact ⟨F32,rfl,(PH.le.refl _),st,gA,gA,gA,gA,gA,gA⟩
     ·have hF:=zx hb136 hF;refine zd st.d dw (fun hm vw=>zi hb136 (v_fa zb)) ?_;refine zd st.d dw (fun hm vw=>zi hb136 (zK (vs:=[(i64 a0_8),(i64 a0_9)]) (vw.bx (st.at (i:=0) rfl)) rfl zb)) ?_;obtain ⟨v138,e139,hF⟩:=zm hF;refine yj st.d dw (fun hm vw=>zi hb136 (yl (ct103 N e139 vw.d (vw.sub st) ) (fun n' hn'=>yk hn'))) (fun n140 hn' dw=>?_);refine ye st.d dw rfl (fun h141 ex vs=>?_)
      have st:=st.ext1 ex
      obtain ⟨v142,e143,hF⟩:=zm hF;refine zi hb136 (zI st (ct102 N e143 st.d st.sub ) (fun n144 st=>?_));refine zi hb136 (yo ?_);refine zC hb136 ?_;refine zf ?_;obtain rfl:=inj hF;refine thn ⟨rfl,?_⟩;dsimp only
      exact ⟨F32,rfl,(PH.le.refl _),st,gA,gA,gA,gA,gA,gA⟩
   ·obtain ⟨F123,rfl,le123,st,t1,t2,t4,t6,t8,t54⟩:=hp
    refine zB (fun hb147=>?_) (fun hb147=>?_)
    ·have hF:=zw hb147 hF;refine zg (zh ?_);refine zR (cs:=([(i64 0),(i64 0),(i64 0),(i64 0),(.slice none 0 0),(.slice none 0 0),(i64 0),(i64 0),(i64 0),(i64 0)] ++ (eI .i64 22 (fun _=>0)))) rfl ?_
     refine v_st (v:=(.agg ([(i64 0),(i64 0),(i64 0),(i64 0),(.slice none 0 0),(.slice none 0 0),(i64 0),(i64 0),(i64 0),(i64 0)] ++ (eI .i64 22 (fun _=>0))))) (cs':=([(i64 0),(i64 0),(i64 0),(i64 0),(.slice none 0 0),(.slice none 0 0),(i64 0),(i64 0),(i64 0),(i64 0)] ++ (eI .i64 22 (fun _=>0)))) st 1 rfl (yc [] rfl (by simp [HV.cells,zy,yn])) (zY _ zy (by rfl)) (zX _ (by rfl) ym) hfl (fun h148 st=>?_)
     refine za ?_;refine zf (th_n ?_);refine zu ?_;obtain rfl:=inj hF;have hF:=hK94;have hF:=vg hF;refine th_r ?_;obtain rfl:=inj hF
     exact yJ st (Res.c gA (st.at (i:=1) rfl).2.2 (show takeN _ _ = some ([(i64 0),(i64 0),(i64 0),(i64 0),(.slice none 0 0),(.slice none 0 0),(i64 0),(i64 0),(i64 0),(i64 0)] ++ (eI .i64 22 (fun _=>0))) from (zS (E:=(eI .i64 22 (fun _=>0))) [] [(i64 0),(i64 0),(i64 0),(i64 0),(.slice none 0 0),(.slice none 0 0),(i64 0),(i64 0),(i64 0),(i64 0)] rfl zy rfl)) (Res.t gA Res.nil)) ⟨_,_,rfl,⟨[(i64 0)],_,rfl,rfl,⟨[(i64 0)],_,rfl,rfl,⟨[(i64 0)],_,rfl,rfl,⟨[(i64 0)],_,rfl,rfl,⟨[(.slice none 0 0)],_,rfl,⟨none,0,rfl,RowF.nil⟩,⟨[(.slice none 0 0)],_,rfl,⟨none,0,rfl,RowF.nil⟩,⟨[(i64 0)],_,rfl,rfl,⟨[(i64 0)],_,rfl,rfl,⟨[(i64 0)],_,rfl,rfl,⟨[(i64 0)],_,rfl,rfl,⟨rfl,rfl⟩⟩⟩⟩⟩⟩⟩⟩⟩⟩⟩⟩
    ·have hF:=zx hb147 hF;refine zA ?_;obtain rfl:=inj hF;refine thn ⟨rfl,_,rfl,?_⟩;dsimp only
     exact ⟨F123,rfl,le123,st,gA,gA,gA,gA,gA⟩
  ·obtain ⟨w97,rfl,F98,rfl,le98,st,t1,t2,t4,t6,t8⟩:=hp;have hF:=ve hF
   have le151:=PH.le.trans le33 le98
   refine zg ?_;refine zg (zh ?_);refine za ?_;refine zf (th_n ?_);refine zB (fun hb153=>?_) (fun hb153=>?_)
   ·have hF:=zw hb153 hF;refine zg (zh ?_);refine zR (cs:=([(i64 0),(i64 0),(i64 0),(i64 0),(.slice none 0 0),(.slice none 0 0),(i64 0),(i64 0),(i64 0),(i64 0)] ++ (eI .i64 22 (fun _=>0)))) rfl ?_
    refine v_st (v:=(.agg ([(i64 0),(i64 0),(i64 0),(i64 0),(.slice none 0 0),(.slice none 0 0),(i64 0),(i64 0),(i64 0),(i64 0)] ++ (eI .i64 22 (fun _=>0))))) (cs':=([(i64 0),(i64 0),(i64 0),(i64 0),(.slice none 0 0),(.slice none 0 0),(i64 0),(i64 0),(i64 0),(i64 0)] ++ (eI .i64 22 (fun _=>0)))) st 1 rfl (yc [] rfl (by simp [HV.cells,zy,yn])) (zY _ zy (by rfl)) (zX _ (by rfl) ym) hfl (fun h154 st=>?_)
    refine za ?_;refine zf (th_n ?_);refine zu ?_;refine th_r ?_;obtain rfl:=inj hF
    exact yJ st (Res.c gA (st.at (i:=1) rfl).2.2 (show takeN _ _ = some ([(i64 0),(i64 0),(i64 0),(i64 0),(.slice none 0 0),(.slice none 0 0),(i64 0),(i64 0),(i64 0),(i64 0)] ++ (eI .i64 22 (fun _=>0))) from (zS (E:=(eI .i64 22 (fun _=>0))) [] [(i64 0),(i64 0),(i64 0),(i64 0),(.slice none 0 0),(.slice none 0 0),(i64 0),(i64 0),(i64 0),(i64 0)] rfl zy rfl)) (Res.t gA Res.nil)) ⟨_,_,rfl,⟨[(i64 0)],_,rfl,rfl,⟨[(i64 0)],_,rfl,rfl,⟨[(i64 0)],_,rfl,rfl,⟨[(i64 0)],_,rfl,rfl,⟨[(.slice none 0 0)],_,rfl,⟨none,0,rfl,RowF.nil⟩,⟨[(.slice none 0 0)],_,rfl,⟨none,0,rfl,RowF.nil⟩,⟨[(i64 0)],_,rfl,rfl,⟨[(i64 0)],_,rfl,rfl,⟨[(i64 0)],_,rfl,rfl,⟨[(i64 0)],_,rfl,rfl,⟨rfl,rfl⟩⟩⟩⟩⟩⟩⟩⟩⟩⟩⟩⟩
   ·have hF:=zx hb153 hF;refine zA (th_n ?_);refine zg ?_;refine zV (Nat.le_trans hfl st.ext.le) (fun dw=>?_);refine zd st.d dw (fun hm vw=>zK (vs:=[(i64 a0_0),(i64 a0_1),(i64 a0_2),(i64 a0_3),(.slice pa0_4 (a0_4).length ca0_4),(.slice pa0_5 (a0_5).length ca0_5),(i64 a0_6),(i64 a0_7),(i64 a0_8),(i64 a0_9)]) (vw.bx (st.at (i:=0) rfl)) rfl zb) ?_;refine zd st.d dw (fun hm vw=>za zb) ?_;refine zd st.d dw (fun hm vw=>zK (vs:=[(i64 v35.1),(i64 v35.2.1)]) (vw.bx (st.at (i:=2) rfl)) rfl zb) ?_;refine zd st.d dw (fun hm vw=>v_fa zb) ?_;refine zd st.d dw (fun hm vw=>v_fa zb) ?_;refine zd st.d dw (fun hm vw=>zq (vw.bx (st.at (i:=0) rfl)) rfl zb) ?_
    obtain ⟨v155,e156,hF⟩:=zm hF;refine yj st.d dw (fun hm vw=>yl (ct104 N e156 vw.d (vw.sub st) (RowF.mono le98 ry34)) (fun n' hn'=>yk hn')) (fun n157 hn' dw=>?_);refine ye st.d dw rfl (fun h158 ex vs=>?_)
    have st:=st.ext1 ex
    refine zR (cs:=([(i64 a0_0),(i64 a0_1),(i64 a0_2),(i64 a0_3),(.slice pa0_4 (a0_4).length ca0_4),(.slice pa0_5 (a0_5).length ca0_5),(i64 a0_6),(i64 a0_7),(i64 a0_8),(i64 a0_9)] ++ (eI .i64 22 v155))) rfl ?_
    refine v_st (v:=(.agg ([(i64 a0_0),(i64 a0_1),(i64 a0_2),(i64 a0_3),(.slice pa0_4 (a0_4).length ca0_4),(.slice pa0_5 (a0_5).length ca0_5),(i64 a0_6),(i64 a0_7),(i64 a0_8),(i64 a0_9)] ++ (eI .i64 22 v155)))) (cs':=([(i64 a0_0),(i64 a0_1),(i64 a0_2),(i64 a0_3),(.slice pa0_4 (a0_4).length ca0_4),(.slice pa0_5 (a0_5).length ca0_5),(i64 a0_6),(i64 a0_7),(i64 a0_8),(i64 a0_9)] ++ (eI .i64 22 v155))) st 1 rfl (yc [] rfl (by simp [HV.cells,zy,yn])) (zY _ zy (by rfl)) (zX _ (by rfl) ym) hfl (fun h159 st=>?_)
    refine za ?_;refine zf (th_n ?_);refine zu ?_;obtain rfl:=inj hF
    exact yJ st (Res.c gA (st.at (i:=1) rfl).2.2 (show takeN _ _ = some ([(i64 a0_0),(i64 a0_1),(i64 a0_2),(i64 a0_3),(.slice pa0_4 (a0_4).length ca0_4),(.slice pa0_5 (a0_5).length ca0_5),(i64 a0_6),(i64 a0_7),(i64 a0_8),(i64 a0_9)] ++ (eI .i64 22 v155)) from (zS (E:=(eI .i64 22 v155)) [] [(i64 a0_0),(i64 a0_1),(i64 a0_2),(i64 a0_3),(.slice pa0_4 (a0_4).length ca0_4),(.slice pa0_5 (a0_5).length ca0_5),(i64 a0_6),(i64 a0_7),(i64 a0_8),(i64 a0_9)] rfl zy rfl)) (Res.t gA Res.nil)) ⟨_,_,rfl,⟨[(i64 a0_0)],_,rfl,rfl,⟨[(i64 a0_1)],_,rfl,rfl,⟨[(i64 a0_2)],_,rfl,rfl,⟨[(i64 a0_3)],_,rfl,rfl,⟨[(.slice pa0_4 (a0_4).length ca0_4)],_,rfl,⟨_,_,rfl,(RowF.mono le151 ra0_4)⟩,⟨[(.slice pa0_5 (a0_5).length ca0_5)],_,rfl,⟨_,_,rfl,(RowF.mono le151 ra0_5)⟩,⟨[(i64 a0_6)],_,rfl,rfl,⟨[(i64 a0_7)],_,rfl,rfl,⟨[(i64 a0_8)],_,rfl,rfl,⟨[(i64 a0_9)],_,rfl,rfl,⟨rfl,rfl⟩⟩⟩⟩⟩⟩⟩⟩⟩⟩⟩⟩
end Go.Hx.V

namespace Go.Hx.V
open Go.Hx
set_option maxRecDepth 20000
set_option maxHeartbeats 4000000
variable {fl : Nat} {h0 : Tr HBlk} {n0 : Nat} {F0 : PH}
attribute [local irreducible] W R C thenH inBlockH Tr.get Tr.set lo ck bnd ix iter
end Go.Hx.V

namespace Go.Hx.V
open Go.Hx
set_option maxRecDepth 20000
set_option maxHeartbeats 4000000
variable {fl : Nat} {h0 : Tr HBlk} {n0 : Nat} {F0 : PH}
attribute [local irreducible] W R C thenH inBlockH Tr.get Tr.set lo ck bnd ix iter
theorem ct105 (N:Nat) {a0_0 a0_1 a0_2 a0_3:Int} {a0_4:(List (Int × Int × Int × Int))} {a0_5:(List (Int × Int))} {a0_6 a0_7 a0_8 a0_9 a1:Int} {r:(Int × Int × Int × Int × (List (Int × Int × Int × Int)) × (List (Int × Int)) × Int × Int × Int × Int × (Nat → Int) × Int)} (hF:sf105 N a0_0 a0_1 a0_2 a0_3 a0_4 a0_5 a0_6 a0_7 a0_8 a0_9 a1 = some r) (hd:D h0 n0) (hs:F0.sub h0) (hfl:fl ≤ n0) {pa0_4:Option (Nat × Nat)} {ca0_4:Nat} {pa0_5:Option (Nat × Nat)} {ca0_5:Nat} (ra0_4:RowF (rP rI (rP rI (rP rI rI))) 4 F0 pa0_4 ca0_4 a0_4) (ra0_5:RowF (rP rI rI) 2 F0 pa0_5 ca0_5 a0_5):C LW fl 105 [(.agg [(i64 a0_0),(i64 a0_1),(i64 a0_2),(i64 a0_3),(.slice pa0_4 (a0_4).length ca0_4),(.slice pa0_5 (a0_5).length ca0_5),(i64 a0_6),(i64 a0_7),(i64 a0_8),(i64 a0_9)]),(i64 a1)] ⟨h0,n0⟩ (KR (rvT2A (rqC rI (rqC rI (rqC rI (rqC rI (rqC (rL (rP rI (rP rI (rP rI rI))) 4) (rqC (rL (rP rI rI) 2) (rqC rI (rqC rI (rqC rI (rqC rI (rqL (rF .i64 22) lvI)))))))))))) F0 h0 n0 r):=by
 unfold sf105 at hF
 refine vu hd hs hfl lw105 rfl rfl (by rfl) (fun st T hT=>?_)
 have t0:=hT 0 _ rfl
 have t1:=hT 1 _ rfl
 dsimp only [L105]
 refine zg (zh ?_);refine zW st (fun b1 h2 n3 st=>?_);refine zM st (fun b4 h5 n6 st=>?_)
 have st:=st.cells 1 rfl ([(i64 0),(i64 0),(i64 0),(i64 0),(.slice none 0 0),(.slice none 0 0),(i64 0),(i64 0),(i64 0),(i64 0)] ++ (eI .i64 22 (fun _=>0))) rfl
 refine za ?_;refine zf (th_n ?_);refine zg (zh ?_);refine zK (vs:=[(i64 a0_0),(i64 a0_1),(i64 a0_2),(i64 a0_3),(.slice pa0_4 (a0_4).length ca0_4),(.slice pa0_5 (a0_5).length ca0_5),(i64 a0_6),(i64 a0_7),(i64 a0_8),(i64 a0_9)]) (st.at (i:=0) rfl).2.2 rfl ?_;obtain ⟨v7,e8,hF⟩:=zm hF;refine yC st (ct65 N e8 st.d st.sub (Nat.le_trans hfl st.ext.le) ra0_4 ra0_5) (fun u9 F9 h9 n9 le9 rv9 st=>?_);obtain ⟨_,_,rfl,⟨_,_,rfl,rfl,⟨_,_,rfl,rfl,⟨_,_,rfl,rfl,⟨_,_,rfl,rfl,⟨_,_,rfl,⟨py10,cy10,rfl,ry10⟩,⟨_,_,rfl,⟨py11,cy11,rfl,ry11⟩,⟨_,_,rfl,rfl,⟨_,_,rfl,rfl,⟨_,_,rfl,rfl,⟨_,_,rfl,rfl,⟨rfl,rfl⟩⟩⟩⟩⟩⟩⟩⟩⟩⟩⟩⟩:=rv9
 refine za ?_;refine v_xt rfl ?_;refine v_xt rfl ?_;refine zM st (fun b12 h13 n14 st=>?_)
 have st:=st.cells 2 rfl ([(i64 0),(i64 0),(i64 0),(i64 0),(.slice none 0 0),(.slice none 0 0),(i64 0),(i64 0),(i64 0),(i64 0)] ++ (eI .i64 22 (fun _=>0))) rfl
 refine v_st (v:=(.agg ([(i64 v7.1),(i64 v7.2.1),(i64 v7.2.2.1),(i64 v7.2.2.2.1),(.slice py10 (v7.2.2.2.2.1).length cy10),(.slice py11 (v7.2.2.2.2.2.1).length cy11),(i64 v7.2.2.2.2.2.2.1),(i64 v7.2.2.2.2.2.2.2.1),(i64 v7.2.2.2.2.2.2.2.2.1),(i64 v7.2.2.2.2.2.2.2.2.2.1)] ++ (eI .i64 22 v7.2.2.2.2.2.2.2.2.2.2.1)))) (cs':=([(i64 v7.1),(i64 v7.2.1),(i64 v7.2.2.1),(i64 v7.2.2.2.1),(.slice py10 (v7.2.2.2.2.1).length cy10),(.slice py11 (v7.2.2.2.2.2.1).length cy11),(i64 v7.2.2.2.2.2.2.1),(i64 v7.2.2.2.2.2.2.2.1),(i64 v7.2.2.2.2.2.2.2.2.1),(i64 v7.2.2.2.2.2.2.2.2.2.1)] ++ (eI .i64 22 v7.2.2.2.2.2.2.2.2.2.2.1))) st 2 rfl (yc [] rfl (by simp [HV.cells,zy,yn])) (zY _ zy (by rfl)) (zX _ (by rfl) ym) hfl (fun h15 st=>?_)
 refine za ?_;refine zf (th_n ?_);refine zg ?_;refine zg (zh ?_);refine za ?_;refine va ?_;refine zf (th_n ?_);refine zB (fun hb16=>?_) (fun hb16=>?_)
 ·have hF:=zw hb16 hF;refine zg (zh ?_);refine zR (cs:=([(i64 0),(i64 0),(i64 0),(i64 0),(.slice none 0 0),(.slice none 0 0),(i64 0),(i64 0),(i64 0),(i64 0)] ++ (eI .i64 22 (fun _=>0)))) rfl ?_;refine za ?_
  refine v_st (v:=(.agg ([(i64 0),(i64 0),(i64 0),(i64 0),(.slice none 0 0),(.slice none 0 0),(i64 0),(i64 0),(i64 0),(i64 0)] ++ (eI .i64 22 (fun _=>0))))) (cs':=([(i64 0),(i64 0),(i64 0),(i64 0),(.slice none 0 0),(.slice none 0 0),(i64 0),(i64 0),(i64 0),(i64 0)] ++ (eI .i64 22 (fun _=>0)))) st 1 rfl (yc [] rfl (by simp [HV.cells,zy,yn])) (zY _ zy (by rfl)) (zX _ (by rfl) ym) hfl (fun h17 st=>?_)
  refine za ?_;refine zf (th_n ?_);refine zu ?_;refine th_r ?_;obtain rfl:=inj hF
  exact yJ st (Res.c gA (st.at (i:=1) rfl).2.2 (show takeN _ _ = some ([(i64 0),(i64 0),(i64 0),(i64 0),(.slice none 0 0),(.slice none 0 0),(i64 0),(i64 0),(i64 0),(i64 0)] ++ (eI .i64 22 (fun _=>0))) from (zS (E:=(eI .i64 22 (fun _=>0))) [] [(i64 0),(i64 0),(i64 0),(i64 0),(.slice none 0 0),(.slice none 0 0),(i64 0),(i64 0),(i64 0),(i64 0)] rfl zy rfl)) (Res.t gA Res.nil)) ⟨_,_,rfl,⟨[(i64 0)],_,rfl,rfl,⟨[(i64 0)],_,rfl,rfl,⟨[(i64 0)],_,rfl,rfl,⟨[(i64 0)],_,rfl,rfl,⟨[(.slice none 0 0)],_,rfl,⟨none,0,rfl,RowF.nil⟩,⟨[(.slice none 0 0)],_,rfl,⟨none,0,rfl,RowF.nil⟩,⟨[(i64 0)],_,rfl,rfl,⟨[(i64 0)],_,rfl,rfl,⟨[(i64 0)],_,rfl,rfl,⟨[(i64 0)],_,rfl,rfl,⟨rfl,rfl⟩⟩⟩⟩⟩⟩⟩⟩⟩⟩⟩⟩
 ·have hF:=zx hb16 hF;refine zA (th_n ?_);refine zg ?_;refine zg (zh ?_);refine za ?_;obtain ⟨v18,e19,hF⟩:=zm hF;refine zI st (ct75 N e19 st.d st.sub ) (fun n20 st=>?_);refine yo ?_;refine zf (th_n ?_);refine zB (fun hb21=>?_) (fun hb21=>?_)
  ·have hF:=zw hb21 hF;refine zg (zh ?_);refine zR (cs:=([(i64 0),(i64 0),(i64 0),(i64 0),(.slice none 0 0),(.slice none 0 0),(i64 0),(i64 0),(i64 0),(i64 0)] ++ (eI .i64 22 (fun _=>0)))) rfl ?_
   refine v_st (v:=(.agg ([(i64 0),(i64 0),(i64 0),(i64 0),(.slice none 0 0),(.slice none 0 0),(i64 0),(i64 0),(i64 0),(i64 0)] ++ (eI .i64 22 (fun _=>0))))) (cs':=([(i64 0),(i64 0),(i64 0),(i64 0),(.slice none 0 0),(.slice none 0 0),(i64 0),(i64 0),(i64 0),(i64 0)] ++ (eI .i64 22 (fun _=>0)))) st 1 rfl (yc [] rfl (by simp [HV.cells,zy,yn])) (zY _ zy (by rfl)) (zX _ (by rfl) ym) hfl (fun h22 st=>?_)
   refine za ?_;refine zf (th_n ?_);refine zu ?_;refine th_r ?_;obtain rfl:=inj hF
   exact yJ st (Res.c gA (st.at (i:=1) rfl).2.2 (show takeN _ _ = some ([(i64 0),(i64 0),(i64 0),(i64 0),(.slice none 0 0),(.slice none 0 0),(i64 0),(i64 0),(i64 0),(i64 0)] ++ (eI .i64 22 (fun _=>0))) from (zS (E:=(eI .i64 22 (fun _=>0))) [] [(i64 0),(i64 0),(i64 0),(i64 0),(.slice none 0 0),(.slice none 0 0),(i64 0),(i64 0),(i64 0),(i64 0)] rfl zy rfl)) (Res.t gA Res.nil)) ⟨_,_,rfl,⟨[(i64 0)],_,rfl,rfl,⟨[(i64 0)],_,rfl,rfl,⟨[(i64 0)],_,rfl,rfl,⟨[(i64 0)],_,rfl,rfl,⟨[(.slice none 0 0)],_,rfl,⟨none,0,rfl,RowF.nil⟩,⟨[(.slice none 0 0)],_,rfl,⟨none,0,rfl,RowF.nil⟩,⟨[(i64 0)],_,rfl,rfl,⟨[(i64 0)],_,rfl,rfl,⟨[(i64 0)],_,rfl,rfl,⟨[(i64 0)],_,rfl,rfl,⟨rfl,rfl⟩⟩⟩⟩⟩⟩⟩⟩⟩⟩⟩⟩
  ·have hF:=zx hb21 hF;refine zA (th_n ?_);refine zg (zh ?_);refine zK (vs:=([(i64 v7.1),(i64 v7.2.1),(i64 v7.2.2.1),(i64 v7.2.2.2.1),(.slice py10 (v7.2.2.2.2.1).length cy10),(.slice py11 (v7.2.2.2.2.2.1).length cy11),(i64 v7.2.2.2.2.2.2.1),(i64 v7.2.2.2.2.2.2.2.1),(i64 v7.2.2.2.2.2.2.2.2.1),(i64 v7.2.2.2.2.2.2.2.2.2.1)] ++ (eI .i64 22 v7.2.2.2.2.2.2.2.2.2.2.1))) (st.at (i:=2) rfl).2.2 (zS (E:=(eI .i64 22 v7.2.2.2.2.2.2.2.2.2.2.1)) [] [(i64 v7.1),(i64 v7.2.1),(i64 v7.2.2.1),(i64 v7.2.2.2.1),(.slice py10 (v7.2.2.2.2.1).length cy10),(.slice py11 (v7.2.2.2.2.2.1).length cy11),(i64 v7.2.2.2.2.2.2.1),(i64 v7.2.2.2.2.2.2.2.1),(i64 v7.2.2.2.2.2.2.2.2.1),(i64 v7.2.2.2.2.2.2.2.2.2.1)] rfl zy rfl) ?_
   refine v_st (v:=(.agg ([(i64 v7.1),(i64 v7.2.1),(i64 v7.2.2.1),(i64 v7.2.2.2.1),(.slice py10 (v7.2.2.2.2.1).length cy10),(.slice py11 (v7.2.2.2.2.2.1).length cy11),(i64 v7.2.2.2.2.2.2.1),(i64 v7.2.2.2.2.2.2.2.1),(i64 v7.2.2.2.2.2.2.2.2.1),(i64 v7.2.2.2.2.2.2.2.2.2.1)] ++ (eI .i64 22 v7.2.2.2.2.2.2.2.2.2.2.1)))) (cs':=([(i64 v7.1),(i64 v7.2.1),(i64 v7.2.2.1),(i64 v7.2.2.2.1),(.slice py10 (v7.2.2.2.2.1).length cy10),(.slice py11 (v7.2.2.2.2.2.1).length cy11),(i64 v7.2.2.2.2.2.2.1),(i64 v7.2.2.2.2.2.2.2.1),(i64 v7.2.2.2.2.2.2.2.2.1),(i64 v7.2.2.2.2.2.2.2.2.2.1)] ++ (eI .i64 22 v7.2.2.2.2.2.2.2.2.2.2.1))) st 1 rfl (yc [] rfl (by simp [HV.cells,zy,yn])) (zY _ zy (by rfl)) (zX _ (by rfl) ym) hfl (fun h23 st=>?_)
   refine za ?_;refine zf (th_n ?_);refine zu ?_;obtain rfl:=inj hF
   exact yJ st (Res.c gA (st.at (i:=1) rfl).2.2 (show takeN _ _ = some ([(i64 v7.1),(i64 v7.2.1),(i64 v7.2.2.1),(i64 v7.2.2.2.1),(.slice py10 (v7.2.2.2.2.1).length cy10),(.slice py11 (v7.2.2.2.2.2.1).length cy11),(i64 v7.2.2.2.2.2.2.1),(i64 v7.2.2.2.2.2.2.2.1),(i64 v7.2.2.2.2.2.2.2.2.1),(i64 v7.2.2.2.2.2.2.2.2.2.1)] ++ (eI .i64 22 v7.2.2.2.2.2.2.2.2.2.2.1)) from (zS (E:=(eI .i64 22 v7.2.2.2.2.2.2.2.2.2.2.1)) [] [(i64 v7.1),(i64 v7.2.1),(i64 v7.2.2.1),(i64 v7.2.2.2.1),(.slice py10 (v7.2.2.2.2.1).length cy10),(.slice py11 (v7.2.2.2.2.2.1).length cy11),(i64 v7.2.2.2.2.2.2.1),(i64 v7.2.2.2.2.2.2.2.1),(i64 v7.2.2.2.2.2.2.2.2.1),(i64 v7.2.2.2.2.2.2.2.2.2.1)] rfl zy rfl)) (Res.t gA Res.nil)) ⟨_,_,rfl,⟨[(i64 v7.1)],_,rfl,rfl,⟨[(i64 v7.2.1)],_,rfl,rfl,⟨[(i64 v7.2.2.1)],_,rfl,rfl,⟨[(i64 v7.2.2.2.1)],_,rfl,rfl,⟨[(.slice py10 (v7.2.2.2.2.1).length cy10)],_,rfl,⟨_,_,rfl,ry10⟩,⟨[(.slice py11 (v7.2.2.2.2.2.1).length cy11)],_,rfl,⟨_,_,rfl,ry11⟩,⟨[(i64 v7.2.2.2.2.2.2.1)],_,rfl,rfl,⟨[(i64 v7.2.2.2.2.2.2.2.1)],_,rfl,rfl,⟨[(i64 v7.2.2.2.2.2.2.2.2.1)],_,rfl,rfl,⟨[(i64 v7.2.2.2.2.2.2.2.2.2.1)],_,rfl,rfl,⟨rfl,rfl⟩⟩⟩⟩⟩⟩⟩⟩⟩⟩⟩⟩
end Go.Hx.V

namespace Go.Hx.V
open Go.Hx
set_option maxRecDepth 20000
set_option maxHeartbeats 4000000
variable {fl : Nat} {h0 : Tr HBlk} {n0 : Nat} {F0 : PH}
attribute [local irreducible] W R C thenH inBlockH Tr.get Tr.set lo ck bnd ix iter
end Go.Hx.V

namespace Go.Hx.V
open Go.Hx
set_option maxRecDepth 20000
set_option maxHeartbeats 4000000
variable {fl : Nat} {h0 : Tr HBlk} {n0 : Nat} {F0 : PH}
attribute [local irreducible] W R C thenH inBlockH Tr.get Tr.set lo ck bnd ix iter
theorem ct67 (N:Nat) {a0_0 a0_1 a0_2 a0_3:Int} {a0_4:(List (Int × Int × Int × Int))} {a0_5:(List (Int × Int))} {a0_6 a0_7 a0_8 a0_9 a1:Int} {r:((List (Int × Int)) × Int)} (hF:sf67 N a0_0 a0_1 a0_2 a0_3 a0_4 a0_5 a0_6 a0_7 a0_8 a0_9 a1 = some r) (hd:D h0 n0) (hs:F0.sub h0) (hfl:fl ≤ n0) {pa0_4:Option (Nat × Nat)} {ca0_4:Nat} {pa0_5:Option (Nat × Nat)} {ca0_5:Nat} (ra0_4:RowF (rP rI (rP rI (rP rI rI))) 4 F0 pa0_4 ca0_4 a0_4) (ra0_5:RowF (rP rI rI) 2 F0 pa0_5 ca0_5 a0_5):C LW fl 67 [(.agg [(i64 a0_0),(i64 a0_1),(i64 a0_2),(i64 a0_3),(.slice pa0_4 (a0_4).length ca0_4),(.slice pa0_5 (a0_5).length ca0_5),(i64 a0_6),(i64 a0_7),(i64 a0_8),(i64 a0_9)]),(i64 a1),(.func 68 [] [])] ⟨h0,n0⟩ (KR (rvT2 (lvL (rP rI rI) 2) lvI) F0 h0 n0 r):=by
 unfold sf67 at hF
 refine vu hd hs hfl lw67 rfl rfl (by rfl) (fun st T hT=>?_)
 have t0:=hT 0 _ rfl
 have t1:=hT 1 _ rfl
 have t2:=hT 2 _ rfl
 dsimp only [L67]
 refine zg (zh ?_);refine zW st (fun b1 h2 n3 st=>?_);refine za ?_;refine za ?_;refine zf (th_n ?_);refine zg (zh ?_);refine zK (vs:=[(i64 a0_0),(i64 a0_1),(i64 a0_2),(i64 a0_3),(.slice pa0_4 (a0_4).length ca0_4),(.slice pa0_5 (a0_5).length ca0_5),(i64 a0_6),(i64 a0_7),(i64 a0_8),(i64 a0_9)]) (st.at (i:=0) rfl).2.2 rfl ?_;refine za ?_;obtain ⟨v4,e5,hF⟩:=zm hF;refine yC st (ct105 N e5 st.d st.sub (Nat.le_trans hfl st.ext.le) ra0_4 ra0_5) (fun u6 F6 h6 n6 le6 rv6 st=>?_);obtain ⟨_,_,rfl,⟨_,_,rfl,rfl,⟨_,_,rfl,rfl,⟨_,_,rfl,rfl,⟨_,_,rfl,rfl,⟨_,_,rfl,⟨py7,cy7,rfl,ry7⟩,⟨_,_,rfl,⟨py8,cy8,rfl,ry8⟩,⟨_,_,rfl,rfl,⟨_,_,rfl,rfl,⟨_,_,rfl,rfl,⟨_,_,rfl,rfl,⟨rfl,rfl⟩⟩⟩⟩⟩⟩⟩⟩⟩⟩⟩⟩:=rv6
 refine za ?_;refine v_xt rfl ?_;refine v_xt rfl ?_;refine zM st (fun b9 h10 n11 st=>?_)
 have st:=st.cells 1 rfl ([(i64 0),(i64 0),(i64 0),(i64 0),(.slice none 0 0),(.slice none 0 0),(i64 0),(i64 0),(i64 0),(i64 0)] ++ (eI .i64 22 (fun _=>0))) rfl
 refine v_st (v:=(.agg ([(i64 v4.1),(i64 v4.2.1),(i64 v4.2.2.1),(i64 v4.2.2.2.1),(.slice py7 (v4.2.2.2.2.1).length cy7),(.slice py8 (v4.2.2.2.2.2.1).length cy8),(i64 v4.2.2.2.2.2.2.1),(i64 v4.2.2.2.2.2.2.2.1),(i64 v4.2.2.2.2.2.2.2.2.1),(i64 v4.2.2.2.2.2.2.2.2.2.1)] ++ (eI .i64 22 v4.2.2.2.2.2.2.2.2.2.2.1)))) (cs':=([(i64 v4.1),(i64 v4.2.1),(i64 v4.2.2.1),(i64 v4.2.2.2.1),(.slice py7 (v4.2.2.2.2.1).length cy7),(.slice py8 (v4.2.2.2.2.2.1).length cy8),(i64 v4.2.2.2.2.2.2.1),(i64 v4.2.2.2.2.2.2.2.1),(i64 v4.2.2.2.2.2.2.2.2.1),(i64 v4.2.2.2.2.2.2.2.2.2.1)] ++ (eI .i64 22 v4.2.2.2.2.2.2.2.2.2.2.1))) st 1 rfl (yc [] rfl (by simp [HV.cells,zy,yn])) (zY _ zy (by rfl)) (zX _ (by rfl) ym) hfl (fun h12 st=>?_)
 refine za ?_;refine zf (th_n ?_);refine zg ?_;refine zg (zh ?_);refine za ?_;refine va ?_;refine zf (th_n ?_);refine zB (fun hb13=>?_) (fun hb13=>?_)
 ·have hF:=zw hb13 hF;refine zg (zh ?_);refine za ?_;refine za ?_;refine za ?_;refine zf (th_n ?_);refine zu ?_;refine th_r ?_;obtain rfl:=inj hF
  exact yJ st (Res.t gA (Res.t gA Res.nil)) ⟨_,_,rfl,⟨none,0,rfl,RowF.nil⟩,rfl⟩
 ·have hF:=zx hb13 hF;refine zA (th_n ?_);refine zg (zh ?_);refine v_fa ?_;refine v_fa ?_;refine v_fa ?_;refine zq (st.at (i:=1) rfl).2.2 rfl ?_;obtain ⟨q14,hF⟩:=zj hF;refine zO q14 ?_;obtain ⟨q15,hF⟩:=zj hF
  have w15:LR (rP rI rI) 2 F6 (List.replicate (Int.toNat (0:Int)) (0,0)) (Go.Hx.repl (Int.toNat (0:Int)) [(i64 0),(i64 0)]):=LR.repl (⟨[(i64 0)],_,rfl,rfl,rfl⟩) _
  refine v_mk st (n:=(List.replicate (Int.toNat (0:Int)) (0,0)).length) q15.1 q15.2.1 (by simp) q15.2.2.1 q15.2.2.2 (fun o15 h15 n15 st=>?_)
  refine za ?_;refine zf (th_n ?_);refine zg ?_;refine zg (zh ?_);refine za ?_;refine zf (th_n ?_);refine zE ?_;obtain ⟨y29,hy,hF⟩:=zm hF;refine z5 (sf67_L1 N a1 v4) (fun x16 T ds17 h nx=>∃ (F17:PH) (o18:Option Nat) (c18:Nat) (cs18:List HV),ds17 = [] ∧ PH.le F6 F17 ∧ St n0 h0 F0 F17 h nx [.bx b1 [(i64 a0_0),(i64 a0_1),(i64 a0_2),(i64 a0_3),(.slice pa0_4 (a0_4).length ca0_4),(.slice pa0_5 (a0_5).length ca0_5),(i64 a0_6),(i64 a0_7),(i64 a0_8),(i64 a0_9)],.bx b9 ([(i64 v4.1),(i64 v4.2.1),(i64 v4.2.2.1),(i64 v4.2.2.2.1),(.slice py7 (v4.2.2.2.2.1).length cy7),(.slice py8 (v4.2.2.2.2.2.1).length cy8),(i64 v4.2.2.2.2.2.2.1),(i64 v4.2.2.2.2.2.2.2.1),(i64 v4.2.2.2.2.2.2.2.2.1),(i64 v4.2.2.2.2.2.2.2.2.2.1)] ++ (eI .i64 22 v4.2.2.2.2.2.2.2.2.2.2.1)),.ls o18 c18 cs18 2] ∧ LR (rP rI rI) 2 F17 x16.1 cs18 ∧ T.get 1 = some (i64 a1) ∧ T.get 2 = some (.func 68 [] []) ∧ T.get 8 = some (.ptr (some (b9,0))) ∧ T.get 10 = some (slv o18 (x16.1).length c18) ∧ T.get 11 = some (i64 x16.2)) (fun y e a σ=>e = .exit 0 ∧ a.nt = 44 ∧ ∃ (F30:PH) (o31:Option Nat) (c31:Nat) (cs31:List HV),a.defers = [] ∧ PH.le F6 F30 ∧ St n0 h0 F0 F30 σ.h σ.nx [.bx b1 [(i64 a0_0),(i64 a0_1),(i64 a0_2),(i64 a0_3),(.slice pa0_4 (a0_4).length ca0_4),(.slice pa0_5 (a0_5).length ca0_5),(i64 a0_6),(i64 a0_7),(i64 a0_8),(i64 a0_9)],.bx b9 ([(i64 v4.1),(i64 v4.2.1),(i64 v4.2.2.1),(i64 v4.2.2.2.1),(.slice py7 (v4.2.2.2.2.1).length cy7),(.slice py8 (v4.2.2.2.2.2.1).length cy8),(i64 v4.2.2.2.2.2.2.1),(i64 v4.2.2.2.2.2.2.2.1),(i64 v4.2.2.2.2.2.2.2.2.1),(i64 v4.2.2.2.2.2.2.2.2.2.1)] ++ (eI .i64 22 v4.2.2.2.2.2.2.2.2.2.2.1)),.ls o31 c31 cs31 2] ∧ LR (rP rI rI) 2 F30 y cs31 ∧ a.tmps.get 10 = some (slv o31 (y).length c31)) (fun x16 T ds17 h nx s hp hF=>?_) N _ y29 _ _ _ _ hy ⟨F6,o15,(Int.toNat (v4.1+(1:Int))),(Go.Hx.repl (Int.toNat (0:Int)) [(i64 0),(i64 0)]),rfl,(PH.le.refl _),st,w15,gA,gA,gA,gA,gA⟩ (fun e a σ hne hq=>?_)
  ·obtain ⟨F17,o18,c18,cs18,rfl,le17,st,w18,t1,t2,t8,t10,t11⟩:=hp
   unfold sf67_L1 at hF;unfold L67w0;refine zg ?_;refine zg (zh ?_);refine za ?_;refine v_fa ?_;refine v_fa ?_;refine v_fa ?_;refine zq (st.at (i:=1) rfl).2.2 rfl ?_;refine yx ?_;refine zf (th_n ?_);refine zB (fun hb32=>?_) (fun hb32=>?_)
   ·have hF:=zw hb32 hF;refine zA (th_n ?_);refine zg ?_;refine zE ?_;refine zh ?_;refine za ?_;refine za ?_;refine zK (vs:=([(i64 v4.1),(i64 v4.2.1),(i64 v4.2.2.1),(i64 v4.2.2.2.1),(.slice py7 (v4.2.2.2.2.1).length cy7),(.slice py8 (v4.2.2.2.2.2.1).length cy8),(i64 v4.2.2.2.2.2.2.1),(i64 v4.2.2.2.2.2.2.2.1),(i64 v4.2.2.2.2.2.2.2.2.1),(i64 v4.2.2.2.2.2.2.2.2.2.1)] ++ (eI .i64 22 v4.2.2.2.2.2.2.2.2.2.2.1))) (st.at (i:=1) rfl).2.2 (zS (E:=(eI .i64 22 v4.2.2.2.2.2.2.2.2.2.2.1)) [] [(i64 v4.1),(i64 v4.2.1),(i64 v4.2.2.1),(i64 v4.2.2.2.1),(.slice py7 (v4.2.2.2.2.1).length cy7),(.slice py8 (v4.2.2.2.2.2.1).length cy8),(i64 v4.2.2.2.2.2.2.1),(i64 v4.2.2.2.2.2.2.2.1),(i64 v4.2.2.2.2.2.2.2.2.1),(i64 v4.2.2.2.2.2.2.2.2.2.1)] rfl zy rfl) ?_
    refine za ?_;refine za ?_;obtain ⟨v33,e34,hF⟩:=zm hF;refine zI st (ct68 N e34 st.d st.sub (RowF.mono le17 ry7) (RowF.mono le17 ry8)) (fun n35 st=>?_);refine v_bs (cs:=[(i64 v33.1),(i64 v33.2)]) st rfl (fun b36 h37 n38 st=>?_);obtain ⟨q39,hF⟩:=zj hF
    have w39:LR (rP rI rI) 2 F17 (x16.1 ++ [(v33.1,v33.2)]) (cs18 ++ [(i64 v33.1),(i64 v33.2)]):=LR.app w18 (LR.one (⟨[(i64 v33.1)],_,rfl,rfl,rfl⟩))
    refine jn (n:=1) (ox:=0) (m:=(x16.1 ++ [(v33.1,v33.2)]).length) (row:=[(i64 v33.1),(i64 v33.2)]) st 2 rfl w18.1 (st.at (i:=3) rfl).2.2 rfl rfl q39 hfl (by decide) (by decide) (by simp) (fun o39 c39 h39 n39 st=>?_)
    refine za ?_;refine zf ?_;refine ib_n ?_;refine th_n ?_;refine zh ?_;refine za ?_;obtain ⟨q40,hF⟩:=zj hF;refine zO q40 ?_;refine za ?_;refine zf ?_;refine thn ⟨_,(inj hF).symm,rfl,?_⟩;dsimp only
    exact ⟨F17,o39,c39,(cs18 ++ [(i64 v33.1),(i64 v33.2)]),rfl,le17,(st.drop (by first | exact List.Sublist.refl _ | (repeat first | exact List.nil_sublist _ | refine List.Sublist.cons_cons _ ?_ | refine List.Sublist.cons _ ?_))),w39,gA,gA,gA,gA,gA⟩
   ·have hF:=zx hb32 hF;refine ya ?_;refine th_e ?_;refine th_e ?_;refine ⟨_,(inj hF).symm,rfl,rfl,?_⟩;dsimp only
    exact ⟨F17,o18,c18,cs18,rfl,le17,st,w18,gA⟩
  ·obtain ⟨N9,T,ds30⟩:=a;obtain ⟨h42,n43⟩:=σ;obtain ⟨rfl,e1,F30,o31,c31,cs31,e2,le30,st,w31,t10⟩:=hq
   dsimp only at e1 e2
   subst e1
   subst e2
   dsimp only at st t10
   refine ib_e ?_;refine th_n ?_;refine zg (zh ?_);refine za ?_;refine za ?_;refine za ?_;refine zf (th_n ?_);refine zu ?_;obtain rfl:=inj hF
   obtain ⟨F44,le44,st,rf44⟩:=St.freeze st 2 rfl w31 (by decide)
   exact yJ st (Res.t gA (Res.t gA Res.nil)) ⟨_,_,rfl,⟨_,_,rfl,rf44⟩,rfl⟩
end Go.Hx.V

namespace Go.Hx.V
open Go.Hx
set_option maxRecDepth 20000
set_option maxHeartbeats 4000000
variable {fl : Nat} {h0 : Tr HBlk} {n0 : Nat} {F0 : PH}
attribute [local irreducible] W R C thenH inBlockH Tr.get Tr.set lo ck bnd ix iter
end Go.Hx.V

namespace Go.Hx.V
open Go.Hx
set_option maxRecDepth 20000
set_option maxHeartbeats 4000000
variable {fl : Nat} {h0 : Tr HBlk} {n0 : Nat} {F0 : PH}
attribute [local irreducible] W R C thenH inBlockH Tr.get Tr.set lo ck bnd ix iter
theorem ct22 (N:Nat) {a0_0 a0_1 a0_2 a0_3:Int} {a0_4:(List (Int × Int × Int × Int))} {a0_5:(List (Int × Int))} {a0_6 a0_7 a0_8 a0_9 a1:Int} {r:((List (Int × Int)) × Int)} (hF:sf22 N a0_0 a0_1 a0_2 a0_3 a0_4 a0_5 a0_6 a0_7 a0_8 a0_9 a1 = some r) (hd:D h0 n0) (hs:F0.sub h0) (hfl:fl ≤ n0) {pa0_4:Option (Nat × Nat)} {ca0_4:Nat} {pa0_5:Option (Nat × Nat)} {ca0_5:Nat} (ra0_4:RowF (rP rI (rP rI (rP rI rI))) 4 F0 pa0_4 ca0_4 a0_4) (ra0_5:RowF (rP rI rI) 2 F0 pa0_5 ca0_5 a0_5):C LW fl 22 [(.agg [(i64 a0_0),(i64 a0_1),(i64 a0_2),(i64 a0_3),(.slice pa0_4 (a0_4).length ca0_4),(.slice pa0_5 (a0_5).length ca0_5),(i64 a0_6),(i64 a0_7),(i64 a0_8),(i64 a0_9)]),(i64 a1)] ⟨h0,n0⟩ (KR (rvT2 (lvL (rP rI rI) 2) lvI) F0 h0 n0 r):=by
 unfold sf22 at hF
 refine vu hd hs hfl lw22 rfl rfl (by rfl) (fun st T hT=>?_)
 have t0:=hT 0 _ rfl
 have t1:=hT 1 _ rfl
 dsimp only [L22]
 refine zg (zh ?_);refine zW st (fun b1 h2 n3 st=>?_);refine za ?_;refine za ?_;refine zf (th_n ?_);refine zg (zh ?_);refine zK (vs:=[(i64 a0_0),(i64 a0_1),(i64 a0_2),(i64 a0_3),(.slice pa0_4 (a0_4).length ca0_4),(.slice pa0_5 (a0_5).length ca0_5),(i64 a0_6),(i64 a0_7),(i64 a0_8),(i64 a0_9)]) (st.at (i:=0) rfl).2.2 rfl ?_;refine za ?_;obtain ⟨v4,e5,hF⟩:=zm hF;refine yC st (ct67 N e5 st.d st.sub (Nat.le_trans hfl st.ext.le) ra0_4 ra0_5) (fun u6 F6 h6 n6 le6 rv6 st=>?_);obtain ⟨_,_,rfl,⟨py7,cy7,rfl,ry7⟩,rfl⟩:=rv6;refine v_xt rfl ?_;refine v_xt rfl ?_;refine za ?_;refine za ?_
 refine zf (th_n ?_);refine zu ?_;obtain rfl:=inj hF
 exact yJ st (Res.t gA (Res.t gA Res.nil)) ⟨_,_,rfl,⟨_,_,rfl,ry7⟩,rfl⟩
end Go.Hx.V

namespace Go.Hx.V
open Go.Hx
set_option maxRecDepth 20000
set_option maxHeartbeats 4000000
variable {fl : Nat} {h0 : Tr HBlk} {n0 : Nat} {F0 : PH}
attribute [local irreducible] W R C thenH inBlockH Tr.get Tr.set lo ck bnd ix iter
end Go.Hx.V

namespace Go.Hx.V
open Go.Hx
set_option maxRecDepth 20000
set_option maxHeartbeats 4000000
variable {fl : Nat} {h0 : Tr HBlk} {n0 : Nat} {F0 : PH}
attribute [local irreducible] W R C thenH inBlockH Tr.get Tr.set lo ck bnd ix iter
end Go.Hx.V

namespace Go.Hx.V
open Go.Hx
set_option maxRecDepth 20000
set_option maxHeartbeats 4000000
variable {fl : Nat} {h0 : Tr HBlk} {n0 : Nat} {F0 : PH}
attribute [local irreducible] W R C thenH inBlockH Tr.get Tr.set lo ck bnd ix iter
end Go.Hx.V

namespace Go.Hx.V
open Go.Hx
set_option maxRecDepth 20000
set_option maxHeartbeats 4000000
variable {fl : Nat} {h0 : Tr HBlk} {n0 : Nat} {F0 : PH}
attribute [local irreducible] W R C thenH inBlockH Tr.get Tr.set lo ck bnd ix iter
end Go.Hx.V

namespace Go.Hx.V
open Go.Hx
set_option maxRecDepth 20000
set_option maxHeartbeats 4000000
variable {fl : Nat} {h0 : Tr HBlk} {n0 : Nat} {F0 : PH}
attribute [local irreducible] W R C thenH inBlockH Tr.get Tr.set lo ck bnd ix iter
end Go.Hx.V

