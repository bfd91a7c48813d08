import Derived.Test.YtcejjaaoainfjaaH05
set_option linter.all false
namespace Go.Hx.V
open Go.Hx
set_option maxRecDepth 20000
set_option maxHeartbeats 4000000
variable {fl : Nat} {h0 : Tr HBlk} {n0 : Nat} {F0 : PH}
attribute [local irreducible] W R C thenH inBlockH Tr.get Tr.set lo ck bnd ix iter
theorem ct80 (N:Nat) {a0_0:(List (Int × Int))} {a0_1:Int} {a0_2:(List (Int × Int × (List (Int × Int))))} {r:((List (Int × Int)) × Int × (List (Int × Int × (List (Int × Int)))) × Int × (Nat → Int) × Bool)} (hF:sf80 N a0_0 a0_1 a0_2 = some r) (hd:D h0 n0) (hs:F0.sub h0) (hfl:fl ≤ n0) {pa0_0:Option (Nat × Nat)} {ca0_0:Nat} {pa0_2:Option (Nat × Nat)} {ca0_2:Nat} (ra0_0:RowF (rP rI rI) 2 F0 pa0_0 ca0_0 a0_0) (ra0_2:RowF (rP rI (rP rI (rL (rP rI rI) 2))) 3 F0 pa0_2 ca0_2 a0_2):C LW fl 80 [(.agg [(.slice pa0_0 (a0_0).length ca0_0),(i64 a0_1),(.slice pa0_2 (a0_2).length ca0_2)]),(.func 81 [] [])] ⟨h0,n0⟩ (KR (rvT2A (rqC (rL (rP rI rI) 2) (rqC rI (rqC (rL (rP rI (rP rI (rL (rP rI rI) 2))) 3) (rqC rI (rqL (rF .i64 169) lvB)))))) F0 h0 n0 r):=by
 unfold sf80 at hF
 refine ky hd hs hfl lw80 rfl rfl (by rfl) (fun st T hT=>?_)
 have t0:=hT 0 _ rfl
 have t1:=hT 1 _ rfl
 dsimp only [L80]
 have st:=st.mk0
 refine zd (zg ?_);refine yi st (fun b1 h2 n3 st=>?_);refine yi st (fun b4 h5 n6 st=>?_);refine zQ st (fun b7 h8 n9 st=>?_)
 have st:=st.cells 3 rfl ([(.slice none 0 0),(i64 0),(.slice none 0 0),(i64 0)] ++ (eI .i64 169 (fun _=>0))) rfl
 refine zQ st (fun b10 h11 n12 st=>?_);refine zb (th_n ?_);refine zd (zg ?_);refine zM (vs:=[(.slice pa0_0 (a0_0).length ca0_0),(i64 a0_1),(.slice pa0_2 (a0_2).length ca0_2)]) (st.at (i:=1) rfl).2.2 rfl ?_;obtain ⟨v13,e14,hF⟩:=zj hF;refine yr st (ct107 N e14 st.d st.sub (Nat.le_trans hfl st.ext.le) ra0_0 ra0_2) (fun u15 F15 h15 n15 le15 rv15 st=>?_);obtain ⟨_,rfl,⟨_,_,rfl,⟨py16,cy16,rfl,ry16⟩,⟨_,_,rfl,rfl,⟨_,_,rfl,⟨py17,cy17,rfl,ry17⟩,⟨_,_,rfl,rfl,rfl⟩⟩⟩⟩⟩:=rv15;refine zQ st (fun b18 h19 n20 st=>?_)
 have st:=st.cells 5 rfl ([(.slice none 0 0),(i64 0),(.slice none 0 0),(i64 0)] ++ (eI .i64 169 (fun _=>0))) rfl
 refine v_st (v:=(.agg ([(.slice py16 (v13.1).length cy16),(i64 v13.2.1),(.slice py17 (v13.2.2.1).length cy17),(i64 v13.2.2.2.1)] ++ (eI .i64 169 v13.2.2.2.2)))) (cs':=([(.slice py16 (v13.1).length cy16),(i64 v13.2.1),(.slice py17 (v13.2.2.1).length cy17),(i64 v13.2.2.2.1)] ++ (eI .i64 169 v13.2.2.2.2))) st 5 rfl (yB [] rfl (by simp [HV.cells,zS,yW])) (yq _ zS (by rfl)) (yp _ (by rfl) yV) hfl (fun h21 st=>?_)
 refine zb (th_n ?_);refine zd ?_;refine zd (zg ?_);refine zM (vs:=[(.slice pa0_0 (a0_0).length ca0_0),(i64 a0_1),(.slice pa0_2 (a0_2).length ca0_2)]) (st.at (i:=1) rfl).2.2 rfl ?_;refine Yz lw71 rfl rfl (fun T hT=>?_)
 have t0:=hT 0 _ rfl
 dsimp only [L71]
 refine zd (zg ?_);refine yi st (fun b23 h24 n25 st=>?_);refine za ?_;refine zb (th_n ?_);refine zd (zg ?_);refine v_mf ?_;refine za ?_;refine zb (th_n ?_);refine zD ?_;refine vn (v:=(.func 103 [] [(.ptr (some (b23,0)))])) (Res.t gA Res.nil) rfl (.inl rfl) (ik ?_);refine zb (th_n ?_);refine zx ?_;refine w_rangeV st 0 rfl hfl lw103 rfl rfl (fun l=>rfl) (fun m26 l26 r26 T h26 n26 rs26 rp26 rn26 rT26 ro26 ra26 rb26 st hT=>?_);obtain ⟨T26,rt26⟩:∃ X,X = r26.tmps:=⟨_,rfl⟩
 have u26_3:T26.get 3 = some (.ptr (some (b4,0))):=by rw [rt26,rT26];repeat first | exact ge_h | refine ge_w rfl ?_ | refine ge_f rfl ?_ | refine ge_m rfl ?_ | assumption
 have u26_4:T26.get 4 = some (.ptr (some (b7,0))):=by rw [rt26,rT26];repeat first | exact ge_h | refine ge_w rfl ?_ | refine ge_f rfl ?_ | refine ge_m rfl ?_ | assumption
 have u26_5:T26.get 5 = some (.ptr (some (b10,0))):=by rw [rt26,rT26];repeat first | exact ge_h | refine ge_w rfl ?_ | refine ge_f rfl ?_ | refine ge_m rfl ?_ | assumption
 have u26_6:T26.get 6 = some (.ptr (some (b18,0))):=by rw [rt26,rT26];repeat first | exact ge_h | refine ge_w rfl ?_ | refine ge_f rfl ?_ | refine ge_m rfl ?_ | assumption
 have t0:=hT 0 _ rfl
 have t1:=hT 1 _ rfl
 dsimp only [L103]
 refine zd (zg ?_);refine v_fa ?_;refine zq (st.at (i:=6) rfl).2.2 rfl ?_;refine z2 ?_;refine za ?_;refine zb (th_n ?_);refine zx ?_;obtain ⟨y6033,hy,hF⟩:=zj hF;refine zW (sf80_L6 N a0_2 v13) (fun x3032 T ds3033 h nx=>∃ (F3033:PH),ds3033 = [] ∧ PH.le F15 F3033 ∧ St n0 h0 F0 F3033 h nx [.mks (m26 :: []),.bx b1 [(.slice pa0_0 (a0_0).length ca0_0),(i64 a0_1),(.slice pa0_2 (a0_2).length ca0_2)],.bx b4 [(.func 81 [] [])],.bx b7 ([(.slice none 0 0),(i64 0),(.slice none 0 0),(i64 0)] ++ (eI .i64 169 (fun _=>0))),.bx b10 [(.bool false)],.bx b18 ([(.slice py16 (v13.1).length cy16),(i64 v13.2.1),(.slice py17 (v13.2.2.1).length cy17),(i64 v13.2.2.2.1)] ++ (eI .i64 169 x3032.2)),.bx b23 [(.slice pa0_0 (a0_0).length ca0_0),(i64 a0_1),(.slice pa0_2 (a0_2).length ca0_2)],.any l26 (.loop r26)] ∧ T.get 0 = some (.yield l26) ∧ T.get 8 = some (.slice pa0_2 (a0_2).length ca0_2) ∧ T.get 9 = some (i64 ((a0_2).length:Int)) ∧ T.get 10 = some (i64 x3032.1)) (fun y e a σ=>(∃ u,y = (.inl u) ∧ e = .ret ∧ a.nt = 32 ∧ ∃ (F6035:PH),a.defers = [] ∧ PH.le F15 F6035 ∧ St n0 h0 F0 F6035 σ.h σ.nx [.mks (m26 :: []),.bx b1 [(.slice pa0_0 (a0_0).length ca0_0),(i64 a0_1),(.slice pa0_2 (a0_2).length ca0_2)],.bx b4 [(.func 81 [] [])],.bx b7 ([(.slice none 0 0),(i64 0),(.slice none 0 0),(i64 0)] ++ (eI .i64 169 (fun _=>0))),.bx b10 [(.bool false)],.bx b18 ([(.slice py16 (v13.1).length cy16),(i64 v13.2.1),(.slice py17 (v13.2.2.1).length cy17),(i64 v13.2.2.2.1)] ++ (eI .i64 169 u)),.bx b23 [(.slice pa0_0 (a0_0).length ca0_0),(i64 a0_1),(.slice pa0_2 (a0_2).length ca0_2)],.any l26 (.loop { r26 with state:=.done,pending:=.ret })]) ∨ (∃ u,y = (.inr u) ∧ e = .exit 0 ∧ a.nt = 32 ∧ ∃ (F6037:PH),a.defers = [] ∧ PH.le F15 F6037 ∧ St n0 h0 F0 F6037 σ.h σ.nx [.mks (m26 :: []),.bx b1 [(.slice pa0_0 (a0_0).length ca0_0),(i64 a0_1),(.slice pa0_2 (a0_2).length ca0_2)],.bx b4 [(.func 81 [] [])],.bx b7 ([(.slice none 0 0),(i64 0),(.slice none 0 0),(i64 0)] ++ (eI .i64 169 (fun _=>0))),.bx b10 [(.bool false)],.bx b18 ([(.slice py16 (v13.1).length cy16),(i64 v13.2.1),(.slice py17 (v13.2.2.1).length cy17),(i64 v13.2.2.2.1)] ++ (eI .i64 169 u)),.bx b23 [(.slice pa0_0 (a0_0).length ca0_0),(i64 a0_1),(.slice pa0_2 (a0_2).length ca0_2)],.any l26 (.loop r26)])) (fun x3032 T ds3033 h nx s hp hF=>?_) N _ y6033 _ _ _ _ hy ⟨F15,rfl,(PH.le.refl _),st,gA,gA,gA,gA⟩ (fun e a σ hne hq=>?_)
 ·obtain ⟨F3033,rfl,le3033,st,t0,t8,t9,t10⟩:=hp
  have le3034:=PH.le.trans le15 le3033
  unfold sf80_L6 at hF;unfold L103w1;refine zd (zg ?_);refine yc ?_;refine zb (th_n ?_);refine zd ?_;refine zE (fun hb6038=>?_) (fun hb6038=>?_)
  ·have hF:=zy hb6038 hF;refine zF (th_n ?_);refine zd ?_;refine zx ?_;refine zd (zg ?_);refine za ?_;obtain ⟨n6039,x6039,z6039,l6039,g6039,hF⟩:=zO hF;obtain ⟨b6039,o6039,s6039,j6039,r6039,e6039,f6039,k6039,⟨_,_,rfl,rfl,⟨_,_,rfl,rfl,⟨py6040,cy6040,rfl,ry6040⟩⟩⟩⟩:=RowF.get ra0_2 g6039;refine z9 e6039 z6039 l6039 ?_;refine zM (st.sub _ _ (le3034 _ _ f6039)) k6039 ?_;refine zQ st (fun b6041 h6042 n6043 st=>?_);refine za ?_;refine v_st (cs':=[(i64 x6039.1),(i64 x6039.2.1),(.slice py6040 (x6039.2.2).length cy6040)]) st 8 rfl rfl rfl rfl hfl (fun h6044 st=>?_);refine zb ?_;refine th_n ?_
   refine zd (zg ?_);refine v_fa ?_;refine zq (st.at (i:=8) rfl).2.2 rfl ?_;refine z2 ?_;refine za ?_;refine zb (th_n ?_);refine zx ?_;obtain ⟨y8035,hy,hF⟩:=zj hF;refine zW (sf80_L5 N v13 x3032 x6039) (fun x7044 T ds7045 h nx=>∃ (F7045:PH),ds7045 = [] ∧ PH.le F3033 F7045 ∧ St n0 h0 F0 F7045 h nx [.mks (m26 :: []),.bx b1 [(.slice pa0_0 (a0_0).length ca0_0),(i64 a0_1),(.slice pa0_2 (a0_2).length ca0_2)],.bx b4 [(.func 81 [] [])],.bx b7 ([(.slice none 0 0),(i64 0),(.slice none 0 0),(i64 0)] ++ (eI .i64 169 (fun _=>0))),.bx b10 [(.bool false)],.bx b18 ([(.slice py16 (v13.1).length cy16),(i64 v13.2.1),(.slice py17 (v13.2.2.1).length cy17),(i64 v13.2.2.2.1)] ++ (eI .i64 169 x7044.2)),.bx b23 [(.slice pa0_0 (a0_0).length ca0_0),(i64 a0_1),(.slice pa0_2 (a0_2).length ca0_2)],.any l26 (.loop r26),.bx b6041 [(i64 x6039.1),(i64 x6039.2.1),(.slice py6040 (x6039.2.2).length cy6040)]] ∧ T.get 0 = some (.yield l26) ∧ T.get 3 = some (i64 x3032.1) ∧ T.get 8 = some (.slice pa0_2 (a0_2).length ca0_2) ∧ T.get 9 = some (i64 ((a0_2).length:Int)) ∧ T.get 10 = some (i64 x3032.1) ∧ T.get 16 = some (.slice py6040 (x6039.2.2).length cy6040) ∧ T.get 17 = some (i64 ((x6039.2.2).length:Int)) ∧ T.get 18 = some (i64 x7044.1)) (fun y e a σ=>(∃ u,y = (.inl u) ∧ e = .ret ∧ a.nt = 32 ∧ ∃ (F8037:PH),a.defers = [] ∧ PH.le F3033 F8037 ∧ St n0 h0 F0 F8037 σ.h σ.nx [.mks (m26 :: []),.bx b1 [(.slice pa0_0 (a0_0).length ca0_0),(i64 a0_1),(.slice pa0_2 (a0_2).length ca0_2)],.bx b4 [(.func 81 [] [])],.bx b7 ([(.slice none 0 0),(i64 0),(.slice none 0 0),(i64 0)] ++ (eI .i64 169 (fun _=>0))),.bx b10 [(.bool false)],.bx b18 ([(.slice py16 (v13.1).length cy16),(i64 v13.2.1),(.slice py17 (v13.2.2.1).length cy17),(i64 v13.2.2.2.1)] ++ (eI .i64 169 u)),.bx b23 [(.slice pa0_0 (a0_0).length ca0_0),(i64 a0_1),(.slice pa0_2 (a0_2).length ca0_2)],.any l26 (.loop { r26 with state:=.done,pending:=.ret }),.bx b6041 [(i64 x6039.1),(i64 x6039.2.1),(.slice py6040 (x6039.2.2).length cy6040)]]) ∨ (∃ u,y = (.inr u) ∧ e = .exit 2 ∧ a.nt = 32 ∧ ∃ (F8039:PH),a.defers = [] ∧ PH.le F3033 F8039 ∧ St n0 h0 F0 F8039 σ.h σ.nx [.mks (m26 :: []),.bx b1 [(.slice pa0_0 (a0_0).length ca0_0),(i64 a0_1),(.slice pa0_2 (a0_2).length ca0_2)],.bx b4 [(.func 81 [] [])],.bx b7 ([(.slice none 0 0),(i64 0),(.slice none 0 0),(i64 0)] ++ (eI .i64 169 (fun _=>0))),.bx b10 [(.bool false)],.bx b18 ([(.slice py16 (v13.1).length cy16),(i64 v13.2.1),(.slice py17 (v13.2.2.1).length cy17),(i64 v13.2.2.2.1)] ++ (eI .i64 169 u)),.bx b23 [(.slice pa0_0 (a0_0).length ca0_0),(i64 a0_1),(.slice pa0_2 (a0_2).length ca0_2)],.any l26 (.loop r26),.bx b6041 [(i64 x6039.1),(i64 x6039.2.1),(.slice py6040 (x6039.2.2).length cy6040)]] ∧ a.tmps.get 0 = some (.yield l26) ∧ a.tmps.get 8 = some (.slice pa0_2 (a0_2).length ca0_2) ∧ a.tmps.get 9 = some (i64 ((a0_2).length:Int)) ∧ a.tmps.get 10 = some (i64 x3032.1))) (fun x7044 T ds7045 h nx s hp hF=>?_) N _ y8035 _ _ _ _ hy ⟨F3033,rfl,(PH.le.refl _),st,gA,gA,gA,gA,gA,gA,gA,gA⟩ (fun e a σ hne hq=>?_)
   ·obtain ⟨F7045,rfl,le7045,st,t0,t3,t8,t9,t10,t16,t17,t18⟩:=hp
    have le7046:=PH.le.trans le3034 le7045
    have le7047:=PH.le.trans le3033 le7045
    unfold sf80_L5 at hF;unfold L103w0;refine zd (zg ?_);refine yc ?_;refine zb (th_n ?_);refine zd ?_;refine zE (fun hb8040=>?_) (fun hb8040=>?_)
    ·have hF:=zy hb8040 hF;refine zF (th_n ?_);refine zd ?_;refine zx ?_;refine zd (zg ?_);refine za ?_;obtain ⟨n8041,x8041,z8041,l8041,g8041,hF⟩:=zO hF;obtain ⟨b8041,o8041,s8041,j8041,r8041,e8041,f8041,k8041,⟨_,_,rfl,rfl,rfl⟩⟩:=RowF.get ry6040 g8041;refine z9 e8041 z8041 l8041 ?_;refine zM (st.sub _ _ (le7046 _ _ f8041)) k8041 ?_;refine zQ st (fun b8042 h8043 n8044 st=>?_);refine za ?_;refine v_st (cs':=[(i64 x8041.1),(i64 x8041.2)]) st 9 rfl rfl rfl rfl hfl (fun h8045 st=>?_);refine zb (th_n ?_);refine zd (zg ?_);refine za ?_;refine za ?_;refine za ?_
     refine ya (cs:=[(i64 x3032.1),(i64 x7044.1)]) rfl ?_;refine zM (vs:=[(i64 x8041.1),(i64 x8041.2)]) (st.at (i:=9) rfl).2.2 rfl ?_;refine v_yield (Tc:=T26) (tmps:=((T26.set 13 (some (.agg [(i64 x3032.1),(i64 x7044.1)]))).set 14 (some (.agg [(i64 x8041.1),(i64 x8041.2)])))) st 7 rfl rn26 rt26.symm ro26 ra26 rb26 (fun hz=>?_) rfl;refine zd (zg ?_);refine zQ st (fun b8046 h8047 n8048 st=>?_);refine v_st (cs':=[(i64 x3032.1),(i64 x7044.1)]) st 10 rfl rfl rfl rfl hfl (fun h8049 st=>?_);refine zb (th_n ?_);refine zg ?_;refine zQ st (fun b8050 h8051 n8052 st=>?_);refine v_st (cs':=[(i64 x8041.1),(i64 x8041.2)]) st 11 rfl rfl rfl rfl hfl (fun h8053 st=>?_)
     refine zb ?_;refine ya_n st 7 rfl rs26 hfl (fun h st=>?_);refine zx ?_;obtain ⟨y8534,hA8535,hF⟩:=zj hF;refine yt (fun T ds8537 h nx=>∃ (F8537:PH),ds8537 = [] ∧ PH.le F7045 F8537 ∧ St n0 h0 F0 F8537 h nx [.mks (m26 :: []),.bx b1 [(.slice pa0_0 (a0_0).length ca0_0),(i64 a0_1),(.slice pa0_2 (a0_2).length ca0_2)],.bx b4 [(.func 81 [] [])],.bx b7 ([(.slice none 0 0),(i64 0),(.slice none 0 0),(i64 0)] ++ (eI .i64 169 (fun _=>0))),.bx b10 [(.bool false)],.bx b18 ([(.slice py16 (v13.1).length cy16),(i64 v13.2.1),(.slice py17 (v13.2.2.1).length cy17),(i64 v13.2.2.2.1)] ++ (eI .i64 169 y8534.2)),.bx b23 [(.slice pa0_0 (a0_0).length ca0_0),(i64 a0_1),(.slice pa0_2 (a0_2).length ca0_2)],.any l26 (.loop { r26 with state:=.busy }),.bx b6041 [(i64 x6039.1),(i64 x6039.2.1),(.slice py6040 (x6039.2.2).length cy6040)],.bx b8042 [(i64 x8041.1),(i64 x8041.2)],.bx b8046 [(i64 x3032.1),(i64 x7044.1)],.bx b8050 [(i64 x8041.1),(i64 x8041.2)]] ∧ T.get 4 = some (.ptr (some (b7,0))) ∧ T.get 5 = some (.ptr (some (b10,0))) ∧ T.get 24 = some (.bool y8534.1)) ?_ (fun T ds8537 h nx hp=>?_)
     ·have hK8536:=hF
      have hF:=hA8535;refine zg ?_;refine zq (st.at (i:=2) rfl).2.2 rfl ?_;refine zM (vs:=[(i64 x8041.1),(i64 x8041.2)]) (st.at (i:=11) rfl).2.2 rfl ?_;obtain ⟨v8538,e8539,hF⟩:=zj hF;refine zT st (ct81 N e8539 st.d st.sub ) (fun n8540 st=>?_);refine za ?_
      rcases Bool.eq_false_or_eq_true v8538 with hb8541 | hb8541
      ·have hF:=zy hb8541 hF;refine zk hb8541 (v_fa ?_);refine zk hb8541 (zq (st.at (i:=10) rfl).2.2 rfl ?_);refine zk hb8541 (zM (vs:=[(i64 x8041.1),(i64 x8041.2)]) (st.at (i:=11) rfl).2.2 rfl ?_);refine zk hb8541 (Yz lw108 rfl rfl (fun T hT=>?_))
       have t0:=hT 0 _ rfl
       have t1:=hT 1 _ rfl
       have t2:=hT 2 _ rfl
       dsimp only [L108]
       refine zd (zg ?_);refine yi st (fun b8543 h8544 n8545 st=>?_);refine za ?_;refine zb (th_n ?_);refine zd ?_;refine yn (Nat.le_trans hfl st.ext.le) (fun dw=>?_);refine zB st.d dw (fun hm vw=>za zu) ?_;refine zB st.d dw (fun hm vw=>v_nc zu) ?_;refine zB st.d dw (fun hm vw=>v_fa zu) ?_;refine zB st.d dw (fun hm vw=>zM (vs:=[(.slice py16 (v13.1).length cy16),(i64 v13.2.1),(.slice py17 (v13.2.2.1).length cy17)]) (vw.bx (st.at (i:=5) rfl)) rfl zu) ?_;refine zB st.d dw (fun hm vw=>za zu) ?_;obtain ⟨v8546,e8547,hF⟩:=zj hF;refine vy st.d dw (fun hm vw=>um (ct106 N e8547 vw.d (vw.sub st) (RowF.mono le7047 ry16) (RowF.mono le7047 ry17)) (fun n' hn'=>vC hn')) (fun n8548 hn' dw=>?_)
       refine zB st.d dw (fun hm vw=>za zu) ?_;refine zB st.d dw (fun hm vw=>v_nc zu) ?_;refine zB st.d dw (fun hm vw=>v_fa zu) ?_;refine zB st.d dw (fun hm vw=>zM (vs:=[(.slice py16 (v13.1).length cy16),(i64 v13.2.1),(.slice py17 (v13.2.2.1).length cy17)]) (vw.bx (st.at (i:=5) rfl)) rfl zu) ?_;refine zB st.d dw (fun hm vw=>v_fa zu) ?_;refine zB st.d dw (fun hm vw=>zq (vw.bx (st.at (i:=12) rfl)) rfl zu) ?_;refine vd st.d dw rfl (fun h8549 ex vs=>?_)
       have st:=st.ext1 ex
       obtain ⟨v8550,e8551,hF⟩:=zj hF;refine zT st (ct105 N e8551 st.d st.sub (RowF.mono le7047 ry16) (RowF.mono le7047 ry17)) (fun n8552 st=>?_);refine za ?_;refine za ?_;refine zb (th_n ?_);refine zd ?_;refine yn (Nat.le_trans hfl st.ext.le) (fun dw=>?_);refine vd st.d dw rfl (fun h8553 ex vs=>?_)
       have st:=st.ext1 ex
       refine za ?_;refine v_nc ?_;refine v_fa ?_;refine za ?_;refine za ?_;refine v_fa ?_;refine zq (st.at (i:=12) rfl).2.2 rfl ?_;refine za ?_;refine v_nc ?_;refine v_fa ?_;refine v_fa ?_;refine zq (st.at (i:=5) rfl).2.2 rfl ?_;obtain ⟨q8554,hF⟩:=zn hF;refine zY q8554 ?_;refine Yz lw129 rfl rfl (fun T hT=>?_)
       have t0:=hT 0 _ rfl
       have t1:=hT 1 _ rfl
       have t2:=hT 2 _ rfl
       have t3:=hT 3 _ rfl
       dsimp only [L129]
       refine zd (zg ?_);refine za ?_;refine zb (th_n ?_);refine zd ?_;refine zd (zg ?_);refine za ?_;refine za ?_;refine za ?_;refine za ?_;obtain ⟨v8556,e8557,hF⟩:=zj hF;refine zT st (ct134 N e8557 st.d (all_sub _) (RowF.mono st.all_le (RowF.mono le7047 ry16)) (RowF.mono st.all_le (RowF.mono le7047 ry17)) (st.at (i:=5) rfl).2.2) (fun n8558 st=>?_);refine yv ?_;refine zb (th_n ?_);refine zE (fun hb8559=>?_) (fun hb8559=>?_)
       ·have hF:=zy hb8559 hF;refine zd (zg ?_);refine za ?_;refine zb (th_n ?_);refine zD ?_;refine th_r ?_;refine vn (v:=(.bool false)) (Res.t gA Res.nil) rfl (.inl rfl) (ik ?_);refine za ?_;refine zf rfl ?_;refine zf rfl ?_;refine zf rfl ?_;refine zf rfl ?_;refine zf rfl ?_;refine zf rfl ?_;refine zf rfl ?_;refine zf rfl ?_;refine zf rfl ?_;refine zf rfl ?_;refine zf rfl ?_;refine zf rfl ?_;refine zf rfl ?_;refine zf rfl ?_;refine zI rfl ?_;refine za ?_;refine zb (th_n ?_);refine zD ?_;refine vn (v:=(.bool false)) (Res.t gA Res.nil) rfl (.inl rfl) (ik ?_)
        refine zk hb8541 (yv ?_);refine zK hb8541 ?_;refine zb ?_;obtain rfl:=inj hF;refine thn ⟨rfl,?_⟩;dsimp only
        exact ⟨F7045,rfl,(PH.le.refl _),(st.drop (by first | exact List.Sublist.refl _ | (repeat first | exact List.nil_sublist _ | refine List.Sublist.cons_cons _ ?_ | refine List.Sublist.cons _ ?_))),gA,gA,gA⟩
       ·have hF:=zA hb8559 hF;refine zF (th_n ?_);refine zd ?_;refine zd (zg ?_);refine za ?_;refine v_nc ?_;refine v_fa ?_;refine zq (st.at (i:=5) rfl).2.2 rfl ?_;refine za ?_;refine zb (th_n ?_);refine zx ?_;obtain ⟨y8706,hy,hF⟩:=zj hF;refine zW (sf80_L2 N v13 x8041 v8546 v8550) (fun x8634 T ds8635 h nx=>∃ (F8635:PH),ds8635 = [] ∧ PH.le F7045 F8635 ∧ St n0 h0 F0 F8635 h nx [.mks (m26 :: []),.bx b1 [(.slice pa0_0 (a0_0).length ca0_0),(i64 a0_1),(.slice pa0_2 (a0_2).length ca0_2)],.bx b4 [(.func 81 [] [])],.bx b7 ([(.slice none 0 0),(i64 0),(.slice none 0 0),(i64 0)] ++ (eI .i64 169 (fun _=>0))),.bx b10 [(.bool false)],.bx b18 ([(.slice py16 (v13.1).length cy16),(i64 v13.2.1),(.slice py17 (v13.2.2.1).length cy17),(i64 v13.2.2.2.1)] ++ (eI .i64 169 x8634.2)),.bx b23 [(.slice pa0_0 (a0_0).length ca0_0),(i64 a0_1),(.slice pa0_2 (a0_2).length ca0_2)],.any l26 (.loop { r26 with state:=.busy }),.bx b6041 [(i64 x6039.1),(i64 x6039.2.1),(.slice py6040 (x6039.2.2).length cy6040)],.bx b8042 [(i64 x8041.1),(i64 x8041.2)],.bx b8046 [(i64 x3032.1),(i64 x7044.1)],.bx b8050 [(i64 x8041.1),(i64 x8041.2)],.bx b8543 [(i64 x8041.1),(i64 x8041.2)]] ∧ T.get 0 = some (.ptr (some (b18,3))) ∧ T.get 1 = some (i64 v8546) ∧ T.get 2 = some (i64 v8550) ∧ T.get 3 = some (i64 (x8041.2+v13.2.1)) ∧ T.get 22 = some (i64 v13.2.2.2.1) ∧ T.get 23 = some (i64 x8634.1)) (fun y e a σ=>e = .exit 0 ∧ a.nt = 83 ∧ ∃ (F8707:PH),a.defers = [] ∧ PH.le F7045 F8707 ∧ St n0 h0 F0 F8707 σ.h σ.nx [.mks (m26 :: []),.bx b1 [(.slice pa0_0 (a0_0).length ca0_0),(i64 a0_1),(.slice pa0_2 (a0_2).length ca0_2)],.bx b4 [(.func 81 [] [])],.bx b7 ([(.slice none 0 0),(i64 0),(.slice none 0 0),(i64 0)] ++ (eI .i64 169 (fun _=>0))),.bx b10 [(.bool false)],.bx b18 ([(.slice py16 (v13.1).length cy16),(i64 v13.2.1),(.slice py17 (v13.2.2.1).length cy17),(i64 v13.2.2.2.1)] ++ (eI .i64 169 y)),.bx b23 [(.slice pa0_0 (a0_0).length ca0_0),(i64 a0_1),(.slice pa0_2 (a0_2).length ca0_2)],.any l26 (.loop { r26 with state:=.busy }),.bx b6041 [(i64 x6039.1),(i64 x6039.2.1),(.slice py6040 (x6039.2.2).length cy6040)],.bx b8042 [(i64 x8041.1),(i64 x8041.2)],.bx b8046 [(i64 x3032.1),(i64 x7044.1)],.bx b8050 [(i64 x8041.1),(i64 x8041.2)],.bx b8543 [(i64 x8041.1),(i64 x8041.2)]]) (fun x8634 T ds8635 h nx s hp hF=>?_) N _ y8706 _ _ _ _ hy ⟨F7045,rfl,(PH.le.refl _),st,gA,gA,gA,gA,gA,gA⟩ (fun e a σ hne hq=>?_)
        ·obtain ⟨F8635,rfl,le8635,st,t0,t1,t2,t3,t22,t23⟩:=hp
         unfold sf80_L2 at hF;unfold L129w1;refine zd (zg ?_);refine yc ?_;refine zb (th_n ?_);refine zd ?_;refine zE (fun hb8708=>?_) (fun hb8708=>?_)
         ·have hF:=zy hb8708 hF;refine zF (th_n ?_);refine zd ?_;refine zx ?_;refine zd (zg ?_);refine za ?_;refine za ?_;refine zb (th_n ?_);refine zd (zg ?_);refine za ?_;refine za ?_;refine za ?_;refine v_nc ?_;refine v_fa ?_;obtain ⟨q8709,hF⟩:=zn hF
          refine yl (j:=(Int.toNat x8634.1)) (Int.toNat_of_nonneg q8709.1).symm (by omega) ?_
          obtain ⟨q8710,hF⟩:=zn hF
          refine yl (j:=(Int.toNat v8546)) (Int.toNat_of_nonneg q8710.1).symm (by omega) ?_
          refine zq (o:=((4+(Int.toNat x8634.1) * 13)+(Int.toNat v8546) * 1)) (st.at (i:=5) rfl).2.2 (vk (p:=4) (ix:=(((Int.toNat x8634.1) * 13)+(Int.toNat v8546))) [(.slice py16 (v13.1).length cy16),(i64 v13.2.1),(.slice py17 (v13.2.2.1).length cy17),(i64 v13.2.2.2.1)] rfl (by omega) (by omega)) ?_
          refine za ?_;obtain ⟨q8711,hF⟩:=zn hF;refine zY q8711 ?_;refine za ?_;refine zb (th_n ?_);refine zd ?_;refine zd (zg ?_);refine za ?_;refine za ?_;refine za ?_;refine za ?_;refine v_nc ?_;refine v_fa ?_;obtain ⟨q8712,hF⟩:=zn hF
          refine yl (j:=(Int.toNat x8634.1)) (Int.toNat_of_nonneg q8712.1).symm (by omega) ?_
          obtain ⟨q8713,hF⟩:=zn hF
          refine yl (j:=(Int.toNat v8550)) (Int.toNat_of_nonneg q8713.1).symm (by omega) ?_
          refine zq (o:=((4+(Int.toNat x8634.1) * 13)+(Int.toNat v8550) * 1)) (st.at (i:=5) rfl).2.2 (vk (p:=4) (ix:=(((Int.toNat x8634.1) * 13)+(Int.toNat v8550))) [(.slice py16 (v13.1).length cy16),(i64 v13.2.1),(.slice py17 (v13.2.2.1).length cy17),(i64 v13.2.2.2.1)] rfl (by omega) (by omega)) ?_
          refine YC ?_;refine zb (th_n ?_);refine zE (fun hb8714=>?_) (fun hb8714=>?_)
          ·have hF:=zy hb8714 hF;refine z6 ?_;refine th_e ?_;refine ib_e ?_;refine th_n ?_;refine zg ?_;obtain ⟨q8715,hF⟩:=zn hF;refine zY q8715 ?_;refine za ?_;refine zb ?_;refine thn ⟨_,(inj hF).symm,rfl,?_⟩;dsimp only
           exact ⟨F8635,rfl,le8635,st,gA,gA,gA,gA,gA,gA⟩
          ·have hF:=zA hb8714 hF;refine zF (th_n ?_);refine zd (zg ?_);refine za ?_;refine v_nc ?_;refine v_fa ?_;refine zq (st.at (i:=5) rfl).2.2 rfl ?_;refine za ?_;refine zb (th_n ?_);refine zx ?_;obtain ⟨y8754,hy,hF⟩:=zj hF;refine zW (sf80_L1 v13 x8041 v8546 v8550 x8634) (fun x8736 T ds8737 h nx=>∃ (F8737:PH),ds8737 = [] ∧ PH.le F8635 F8737 ∧ St n0 h0 F0 F8737 h nx [.mks (m26 :: []),.bx b1 [(.slice pa0_0 (a0_0).length ca0_0),(i64 a0_1),(.slice pa0_2 (a0_2).length ca0_2)],.bx b4 [(.func 81 [] [])],.bx b7 ([(.slice none 0 0),(i64 0),(.slice none 0 0),(i64 0)] ++ (eI .i64 169 (fun _=>0))),.bx b10 [(.bool false)],.bx b18 ([(.slice py16 (v13.1).length cy16),(i64 v13.2.1),(.slice py17 (v13.2.2.1).length cy17),(i64 v13.2.2.2.1)] ++ (eI .i64 169 x8736.2)),.bx b23 [(.slice pa0_0 (a0_0).length ca0_0),(i64 a0_1),(.slice pa0_2 (a0_2).length ca0_2)],.any l26 (.loop { r26 with state:=.busy }),.bx b6041 [(i64 x6039.1),(i64 x6039.2.1),(.slice py6040 (x6039.2.2).length cy6040)],.bx b8042 [(i64 x8041.1),(i64 x8041.2)],.bx b8046 [(i64 x3032.1),(i64 x7044.1)],.bx b8050 [(i64 x8041.1),(i64 x8041.2)],.bx b8543 [(i64 x8041.1),(i64 x8041.2)]] ∧ T.get 0 = some (.ptr (some (b18,3))) ∧ T.get 1 = some (i64 v8546) ∧ T.get 2 = some (i64 v8550) ∧ T.get 3 = some (i64 (x8041.2+v13.2.1)) ∧ T.get 9 = some (i64 x8634.1) ∧ T.get 10 = some (i64 ((x8634.2 (((Int.toNat x8634.1) * 13)+(Int.toNat v8546)))+(x8041.2+v13.2.1))) ∧ T.get 22 = some (i64 v13.2.2.2.1) ∧ T.get 23 = some (i64 x8634.1) ∧ T.get 49 = some (i64 v13.2.2.2.1) ∧ T.get 50 = some (i64 x8736.1)) (fun y e a σ=>e = .exit 2 ∧ a.nt = 83 ∧ ∃ (F8755:PH),a.defers = [] ∧ PH.le F8635 F8755 ∧ St n0 h0 F0 F8755 σ.h σ.nx [.mks (m26 :: []),.bx b1 [(.slice pa0_0 (a0_0).length ca0_0),(i64 a0_1),(.slice pa0_2 (a0_2).length ca0_2)],.bx b4 [(.func 81 [] [])],.bx b7 ([(.slice none 0 0),(i64 0),(.slice none 0 0),(i64 0)] ++ (eI .i64 169 (fun _=>0))),.bx b10 [(.bool false)],.bx b18 ([(.slice py16 (v13.1).length cy16),(i64 v13.2.1),(.slice py17 (v13.2.2.1).length cy17),(i64 v13.2.2.2.1)] ++ (eI .i64 169 y)),.bx b23 [(.slice pa0_0 (a0_0).length ca0_0),(i64 a0_1),(.slice pa0_2 (a0_2).length ca0_2)],.any l26 (.loop { r26 with state:=.busy }),.bx b6041 [(i64 x6039.1),(i64 x6039.2.1),(.slice py6040 (x6039.2.2).length cy6040)],.bx b8042 [(i64 x8041.1),(i64 x8041.2)],.bx b8046 [(i64 x3032.1),(i64 x7044.1)],.bx b8050 [(i64 x8041.1),(i64 x8041.2)],.bx b8543 [(i64 x8041.1),(i64 x8041.2)]] ∧ a.tmps.get 0 = some (.ptr (some (b18,3))) ∧ a.tmps.get 1 = some (i64 v8546) ∧ a.tmps.get 2 = some (i64 v8550) ∧ a.tmps.get 3 = some (i64 (x8041.2+v13.2.1)) ∧ a.tmps.get 22 = some (i64 v13.2.2.2.1) ∧ a.tmps.get 23 = some (i64 x8634.1)) (fun x8736 T ds8737 h nx s hp hF=>?_) N _ y8754 _ _ _ _ hy ⟨F8635,rfl,(PH.le.refl _),st,gA,gA,gA,gA,gA,gA,gA,gA,gA,gA⟩ (fun e a σ hne hq=>?_)
           ·obtain ⟨F8737,rfl,le8737,st,t0,t1,t2,t3,t9,t10,t22,t23,t49,t50⟩:=hp
            unfold sf80_L1 at hF;unfold L129w0;refine zd (zg ?_);refine yc ?_;refine zb (th_n ?_);refine zd ?_;refine zE (fun hb8756=>?_) (fun hb8756=>?_)
            ·have hF:=zy hb8756 hF;refine zF (th_n ?_);refine zd ?_;refine zx ?_;refine zd (zg ?_);refine za ?_;refine za ?_;refine zb (th_n ?_);refine zd (zg ?_);refine za ?_;refine za ?_;refine za ?_;refine za ?_;refine v_nc ?_;refine v_fa ?_;obtain ⟨q8757,hF⟩:=zn hF
             refine yl (j:=(Int.toNat v8550)) (Int.toNat_of_nonneg q8757.1).symm (by omega) ?_
             obtain ⟨q8758,hF⟩:=zn hF
             refine yl (j:=(Int.toNat x8736.1)) (Int.toNat_of_nonneg q8758.1).symm (by omega) ?_
             refine zq (o:=((4+(Int.toNat v8550) * 13)+(Int.toNat x8736.1) * 1)) (st.at (i:=5) rfl).2.2 (vk (p:=4) (ix:=(((Int.toNat v8550) * 13)+(Int.toNat x8736.1))) [(.slice py16 (v13.1).length cy16),(i64 v13.2.1),(.slice py17 (v13.2.2.1).length cy17),(i64 v13.2.2.2.1)] rfl (by omega) (by omega)) ?_
             obtain ⟨q8759,hF⟩:=zn hF;refine zY q8759 ?_;refine za ?_;refine zb (th_n ?_);refine zd (zg ?_);refine za ?_;refine za ?_;refine za ?_;refine za ?_;refine v_nc ?_;refine v_fa ?_;obtain ⟨q8760,hF⟩:=zn hF
             refine yl (j:=(Int.toNat x8634.1)) (Int.toNat_of_nonneg q8760.1).symm (by omega) ?_
             obtain ⟨q8761,hF⟩:=zn hF
             refine yl (j:=(Int.toNat x8736.1)) (Int.toNat_of_nonneg q8761.1).symm (by omega) ?_
             refine zq (o:=((4+(Int.toNat x8634.1) * 13)+(Int.toNat x8736.1) * 1)) (st.at (i:=5) rfl).2.2 (vk (p:=4) (ix:=(((Int.toNat x8634.1) * 13)+(Int.toNat x8736.1))) [(.slice py16 (v13.1).length cy16),(i64 v13.2.1),(.slice py17 (v13.2.2.1).length cy17),(i64 v13.2.2.2.1)] rfl (by omega) (by omega)) ?_
             refine yc ?_;refine zb (th_n ?_);refine zE (fun hb8762=>?_) (fun hb8762=>?_)
             ·have hF:=zy hb8762 hF;refine zg ?_;refine za ?_;refine za ?_;refine za ?_;refine za ?_;refine v_nc ?_;refine v_fa ?_;obtain ⟨q8763,hF⟩:=zn hF
              refine yl (j:=(Int.toNat x8634.1)) (Int.toNat_of_nonneg q8763.1).symm (by omega) ?_
              obtain ⟨q8764,hF⟩:=zn hF
              refine yl (j:=(Int.toNat x8736.1)) (Int.toNat_of_nonneg q8764.1).symm (by omega) ?_
              refine v_st (o:=((4+(Int.toNat x8634.1) * 13)+(Int.toNat x8736.1) * 1)) (v:=(i64 (((x8634.2 (((Int.toNat x8634.1) * 13)+(Int.toNat v8546)))+(x8041.2+v13.2.1))+(x8736.2 (((Int.toNat v8550) * 13)+(Int.toNat x8736.1)))))) (cs':=([(.slice py16 (v13.1).length cy16),(i64 v13.2.1),(.slice py17 (v13.2.2.1).length cy17),(i64 v13.2.2.2.1)] ++ (eI .i64 169 (ups x8736.2 (((Int.toNat x8634.1) * 13)+(Int.toNat x8736.1)) (((x8634.2 (((Int.toNat x8634.1) * 13)+(Int.toNat v8546)))+(x8041.2+v13.2.1))+(x8736.2 (((Int.toNat v8550) * 13)+(Int.toNat x8736.1)))))))) st 5 rfl (Yw (p:=4) (ix:=(((Int.toNat x8634.1) * 13)+(Int.toNat x8736.1))) [(.slice py16 (v13.1).length cy16),(i64 v13.2.1),(.slice py17 (v13.2.2.1).length cy17),(i64 v13.2.2.2.1)] rfl (by omega) (by omega)) rfl rfl hfl (fun h8765 st=>?_)
              refine zb ?_;refine ib_n ?_;refine th_n ?_;refine zg ?_;obtain ⟨q8766,hF⟩:=zn hF;refine zY q8766 ?_;refine za ?_;refine zb ?_;refine thn ⟨_,(inj hF).symm,rfl,?_⟩;dsimp only
              exact ⟨F8737,rfl,le8737,st,gA,gA,gA,gA,gA,gA,gA,gA,gA,gA⟩
             ·have hF:=zA hb8762 hF;refine zF ?_;refine ib_n ?_;refine th_n ?_;refine zg ?_;obtain ⟨q8767,hF⟩:=zn hF;refine zY q8767 ?_;refine za ?_;refine zb ?_;refine thn ⟨_,(inj hF).symm,rfl,?_⟩;dsimp only
              exact ⟨F8737,rfl,le8737,st,gA,gA,gA,gA,gA,gA,gA,gA,gA,gA⟩
            ·have hF:=zA hb8756 hF;refine z6 ?_;refine th_e ?_;refine th_e ?_;refine ⟨_,(inj hF).symm,rfl,rfl,?_⟩;dsimp only
             exact ⟨F8737,rfl,le8737,st,gA,gA,gA,gA,gA,gA⟩
           ·obtain ⟨N9,T,ds8755⟩:=a;obtain ⟨h8772,n8773⟩:=σ;obtain ⟨rfl,e1,F8755,e2,le8755,st,t0,t1,t2,t3,t22,t23⟩:=hq
            dsimp only at e1 e2
            subst e1
            subst e2
            dsimp only at st t0 t1 t2 t3 t22 t23
            have le8771:=PH.le.trans le8635 le8755
            refine ib_e ?_;refine ib_n ?_;refine th_n ?_;refine zg ?_;obtain ⟨q8774,hF⟩:=zn hF;refine zY q8774 ?_;refine za ?_;refine zb ?_;refine thn ⟨_,(inj hF).symm,rfl,?_⟩;dsimp only
            exact ⟨F8755,rfl,le8771,st,gA,gA,gA,gA,gA,gA⟩
         ·have hF:=zA hb8708 hF;refine z6 ?_;refine th_e ?_;refine th_e ?_;refine ⟨_,(inj hF).symm,rfl,rfl,?_⟩;dsimp only
          exact ⟨F8635,rfl,le8635,st⟩
        ·obtain ⟨N9,T,ds8707⟩:=a;obtain ⟨h8778,n8779⟩:=σ;obtain ⟨rfl,e1,F8707,e2,le8707,st⟩:=hq
         dsimp only at e1 e2
         subst e1
         subst e2
         dsimp only at st
         have le8776:=PH.le.trans le7047 le8707
         refine ib_e ?_;refine th_n ?_;refine zd (zg ?_);refine za ?_;refine zb (th_n ?_);refine zD ?_;refine vn (v:=(.bool true)) (Res.t gA Res.nil) rfl (.inl rfl) (ik ?_);refine za ?_;refine zk rfl (za ?_);refine zk rfl (v_nc ?_);refine zk rfl (v_fa ?_);refine zk rfl (za ?_);refine zk rfl (za ?_);refine zk rfl (za ?_);refine zk rfl (v_nc ?_);refine zk rfl (v_fa ?_);refine zk rfl (v_fa ?_);refine zk rfl (zq (st.at (i:=5) rfl).2.2 rfl ?_);refine zk rfl (v_fa ?_);refine zk rfl (zq (st.at (i:=12) rfl).2.2 rfl ?_);obtain ⟨q8780,hF⟩:=zn hF;refine zk rfl (v_sub q8780 ?_)
         refine zk rfl (Yz lw129 rfl rfl (fun T hT=>?_))
         have t0:=hT 0 _ rfl
         have t1:=hT 1 _ rfl
         have t2:=hT 2 _ rfl
         have t3:=hT 3 _ rfl
         dsimp only [L129]
         refine zd (zg ?_);refine za ?_;refine zb (th_n ?_);refine zd ?_;refine zd (zg ?_);refine za ?_;refine za ?_;refine za ?_;refine za ?_;obtain ⟨v8782,e8783,hF⟩:=zj hF;refine zT st (ct134 N e8783 st.d (all_sub _) (RowF.mono st.all_le (RowF.mono le8776 ry16)) (RowF.mono st.all_le (RowF.mono le8776 ry17)) (st.at (i:=5) rfl).2.2) (fun n8784 st=>?_);refine yv ?_;refine zb (th_n ?_);refine zE (fun hb8785=>?_) (fun hb8785=>?_)
         ·have hF:=zy hb8785 hF;refine zd (zg ?_);refine za ?_;refine zb (th_n ?_);refine zD ?_;refine th_r ?_;refine vn (v:=(.bool false)) (Res.t gA Res.nil) rfl (.inl rfl) (ik ?_);refine zK rfl ?_;refine za ?_;refine zb (th_n ?_);refine zD ?_;refine vn (v:=(.bool false)) (Res.t gA Res.nil) rfl (.inl rfl) (ik ?_);refine zk hb8541 (yv ?_);refine zK hb8541 ?_;refine zb ?_;obtain rfl:=inj hF;refine thn ⟨rfl,?_⟩;dsimp only
          exact ⟨F8707,rfl,le8707,(st.drop (by first | exact List.Sublist.refl _ | (repeat first | exact List.nil_sublist _ | refine List.Sublist.cons_cons _ ?_ | refine List.Sublist.cons _ ?_))),gA,gA,gA⟩
         ·have hF:=zA hb8785 hF;refine zF (th_n ?_);refine zd ?_;refine zd (zg ?_);refine za ?_;refine v_nc ?_;refine v_fa ?_;refine zq (st.at (i:=5) rfl).2.2 rfl ?_;refine za ?_;refine zb (th_n ?_);refine zx ?_;obtain ⟨y8940,hy,hF⟩:=zj hF;refine zW (sf80_L4 N v13 x8041 v8546 v8550) (fun x8864 T ds8865 h nx=>∃ (F8865:PH),ds8865 = [] ∧ PH.le F8707 F8865 ∧ St n0 h0 F0 F8865 h nx [.mks (m26 :: []),.bx b1 [(.slice pa0_0 (a0_0).length ca0_0),(i64 a0_1),(.slice pa0_2 (a0_2).length ca0_2)],.bx b4 [(.func 81 [] [])],.bx b7 ([(.slice none 0 0),(i64 0),(.slice none 0 0),(i64 0)] ++ (eI .i64 169 (fun _=>0))),.bx b10 [(.bool false)],.bx b18 ([(.slice py16 (v13.1).length cy16),(i64 v13.2.1),(.slice py17 (v13.2.2.1).length cy17),(i64 v13.2.2.2.1)] ++ (eI .i64 169 x8864.2)),.bx b23 [(.slice pa0_0 (a0_0).length ca0_0),(i64 a0_1),(.slice pa0_2 (a0_2).length ca0_2)],.any l26 (.loop { r26 with state:=.busy }),.bx b6041 [(i64 x6039.1),(i64 x6039.2.1),(.slice py6040 (x6039.2.2).length cy6040)],.bx b8042 [(i64 x8041.1),(i64 x8041.2)],.bx b8046 [(i64 x3032.1),(i64 x7044.1)],.bx b8050 [(i64 x8041.1),(i64 x8041.2)],.bx b8543 [(i64 x8041.1),(i64 x8041.2)]] ∧ T.get 0 = some (.ptr (some (b18,3))) ∧ T.get 1 = some (i64 v8550) ∧ T.get 2 = some (i64 v8546) ∧ T.get 3 = some (i64 (v13.2.1 - x8041.2)) ∧ T.get 22 = some (i64 v13.2.2.2.1) ∧ T.get 23 = some (i64 x8864.1)) (fun y e a σ=>e = .exit 0 ∧ a.nt = 83 ∧ ∃ (F8941:PH),a.defers = [] ∧ PH.le F8707 F8941 ∧ St n0 h0 F0 F8941 σ.h σ.nx [.mks (m26 :: []),.bx b1 [(.slice pa0_0 (a0_0).length ca0_0),(i64 a0_1),(.slice pa0_2 (a0_2).length ca0_2)],.bx b4 [(.func 81 [] [])],.bx b7 ([(.slice none 0 0),(i64 0),(.slice none 0 0),(i64 0)] ++ (eI .i64 169 (fun _=>0))),.bx b10 [(.bool false)],.bx b18 ([(.slice py16 (v13.1).length cy16),(i64 v13.2.1),(.slice py17 (v13.2.2.1).length cy17),(i64 v13.2.2.2.1)] ++ (eI .i64 169 y)),.bx b23 [(.slice pa0_0 (a0_0).length ca0_0),(i64 a0_1),(.slice pa0_2 (a0_2).length ca0_2)],.any l26 (.loop { r26 with state:=.busy }),.bx b6041 [(i64 x6039.1),(i64 x6039.2.1),(.slice py6040 (x6039.2.2).length cy6040)],.bx b8042 [(i64 x8041.1),(i64 x8041.2)],.bx b8046 [(i64 x3032.1),(i64 x7044.1)],.bx b8050 [(i64 x8041.1),(i64 x8041.2)],.bx b8543 [(i64 x8041.1),(i64 x8041.2)]]) (fun x8864 T ds8865 h nx s hp hF=>?_) N _ y8940 _ _ _ _ hy ⟨F8707,rfl,(PH.le.refl _),st,gA,gA,gA,gA,gA,gA⟩ (fun e a σ hne hq=>?_)
          ·obtain ⟨F8865,rfl,le8865,st,t0,t1,t2,t3,t22,t23⟩:=hp
           unfold sf80_L4 at hF;unfold L129w1;refine zd (zg ?_);refine yc ?_;refine zb (th_n ?_);refine zd ?_;refine zE (fun hb8942=>?_) (fun hb8942=>?_)
           ·have hF:=zy hb8942 hF;refine zF (th_n ?_);refine zd ?_;refine zx ?_;refine zd (zg ?_);refine za ?_;refine za ?_;refine zb (th_n ?_);refine zd (zg ?_);refine za ?_;refine za ?_;refine za ?_;refine v_nc ?_;refine v_fa ?_;obtain ⟨q8943,hF⟩:=zn hF
            refine yl (j:=(Int.toNat x8864.1)) (Int.toNat_of_nonneg q8943.1).symm (by omega) ?_
            obtain ⟨q8944,hF⟩:=zn hF
            refine yl (j:=(Int.toNat v8550)) (Int.toNat_of_nonneg q8944.1).symm (by omega) ?_
            refine zq (o:=((4+(Int.toNat x8864.1) * 13)+(Int.toNat v8550) * 1)) (st.at (i:=5) rfl).2.2 (vk (p:=4) (ix:=(((Int.toNat x8864.1) * 13)+(Int.toNat v8550))) [(.slice py16 (v13.1).length cy16),(i64 v13.2.1),(.slice py17 (v13.2.2.1).length cy17),(i64 v13.2.2.2.1)] rfl (by omega) (by omega)) ?_
            refine za ?_;obtain ⟨q8945,hF⟩:=zn hF;refine zY q8945 ?_;refine za ?_;refine zb (th_n ?_);refine zd ?_;refine zd (zg ?_);refine za ?_;refine za ?_;refine za ?_;refine za ?_;refine v_nc ?_;refine v_fa ?_;obtain ⟨q8946,hF⟩:=zn hF
            refine yl (j:=(Int.toNat x8864.1)) (Int.toNat_of_nonneg q8946.1).symm (by omega) ?_
            obtain ⟨q8947,hF⟩:=zn hF
            refine yl (j:=(Int.toNat v8546)) (Int.toNat_of_nonneg q8947.1).symm (by omega) ?_
            refine zq (o:=((4+(Int.toNat x8864.1) * 13)+(Int.toNat v8546) * 1)) (st.at (i:=5) rfl).2.2 (vk (p:=4) (ix:=(((Int.toNat x8864.1) * 13)+(Int.toNat v8546))) [(.slice py16 (v13.1).length cy16),(i64 v13.2.1),(.slice py17 (v13.2.2.1).length cy17),(i64 v13.2.2.2.1)] rfl (by omega) (by omega)) ?_
            refine YC ?_;refine zb (th_n ?_);refine zE (fun hb8948=>?_) (fun hb8948=>?_)
            ·have hF:=zy hb8948 hF;refine z6 ?_;refine th_e ?_;refine ib_e ?_;refine th_n ?_;refine zg ?_;obtain ⟨q8949,hF⟩:=zn hF;refine zY q8949 ?_;refine za ?_;refine zb ?_;refine thn ⟨_,(inj hF).symm,rfl,?_⟩;dsimp only
             exact ⟨F8865,rfl,le8865,st,gA,gA,gA,gA,gA,gA⟩
            ·have hF:=zA hb8948 hF;refine zF (th_n ?_);refine zd (zg ?_);refine za ?_;refine v_nc ?_;refine v_fa ?_;refine zq (st.at (i:=5) rfl).2.2 rfl ?_;refine za ?_;refine zb (th_n ?_);refine zx ?_;obtain ⟨y8990,hy,hF⟩:=zj hF;refine zW (sf80_L3 v13 x8041 v8546 v8550 x8864) (fun x8971 T ds8972 h nx=>∃ (F8972:PH),ds8972 = [] ∧ PH.le F8865 F8972 ∧ St n0 h0 F0 F8972 h nx [.mks (m26 :: []),.bx b1 [(.slice pa0_0 (a0_0).length ca0_0),(i64 a0_1),(.slice pa0_2 (a0_2).length ca0_2)],.bx b4 [(.func 81 [] [])],.bx b7 ([(.slice none 0 0),(i64 0),(.slice none 0 0),(i64 0)] ++ (eI .i64 169 (fun _=>0))),.bx b10 [(.bool false)],.bx b18 ([(.slice py16 (v13.1).length cy16),(i64 v13.2.1),(.slice py17 (v13.2.2.1).length cy17),(i64 v13.2.2.2.1)] ++ (eI .i64 169 x8971.2)),.bx b23 [(.slice pa0_0 (a0_0).length ca0_0),(i64 a0_1),(.slice pa0_2 (a0_2).length ca0_2)],.any l26 (.loop { r26 with state:=.busy }),.bx b6041 [(i64 x6039.1),(i64 x6039.2.1),(.slice py6040 (x6039.2.2).length cy6040)],.bx b8042 [(i64 x8041.1),(i64 x8041.2)],.bx b8046 [(i64 x3032.1),(i64 x7044.1)],.bx b8050 [(i64 x8041.1),(i64 x8041.2)],.bx b8543 [(i64 x8041.1),(i64 x8041.2)]] ∧ T.get 0 = some (.ptr (some (b18,3))) ∧ T.get 1 = some (i64 v8550) ∧ T.get 2 = some (i64 v8546) ∧ T.get 3 = some (i64 (v13.2.1 - x8041.2)) ∧ T.get 9 = some (i64 x8864.1) ∧ T.get 10 = some (i64 ((x8864.2 (((Int.toNat x8864.1) * 13)+(Int.toNat v8550)))+(v13.2.1 - x8041.2))) ∧ T.get 22 = some (i64 v13.2.2.2.1) ∧ T.get 23 = some (i64 x8864.1) ∧ T.get 49 = some (i64 v13.2.2.2.1) ∧ T.get 50 = some (i64 x8971.1)) (fun y e a σ=>e = .exit 2 ∧ a.nt = 83 ∧ ∃ (F8991:PH),a.defers = [] ∧ PH.le F8865 F8991 ∧ St n0 h0 F0 F8991 σ.h σ.nx [.mks (m26 :: []),.bx b1 [(.slice pa0_0 (a0_0).length ca0_0),(i64 a0_1),(.slice pa0_2 (a0_2).length ca0_2)],.bx b4 [(.func 81 [] [])],.bx b7 ([(.slice none 0 0),(i64 0),(.slice none 0 0),(i64 0)] ++ (eI .i64 169 (fun _=>0))),.bx b10 [(.bool false)],.bx b18 ([(.slice py16 (v13.1).length cy16),(i64 v13.2.1),(.slice py17 (v13.2.2.1).length cy17),(i64 v13.2.2.2.1)] ++ (eI .i64 169 y)),.bx b23 [(.slice pa0_0 (a0_0).length ca0_0),(i64 a0_1),(.slice pa0_2 (a0_2).length ca0_2)],.any l26 (.loop { r26 with state:=.busy }),.bx b6041 [(i64 x6039.1),(i64 x6039.2.1),(.slice py6040 (x6039.2.2).length cy6040)],.bx b8042 [(i64 x8041.1),(i64 x8041.2)],.bx b8046 [(i64 x3032.1),(i64 x7044.1)],.bx b8050 [(i64 x8041.1),(i64 x8041.2)],.bx b8543 [(i64 x8041.1),(i64 x8041.2)]] ∧ a.tmps.get 0 = some (.ptr (some (b18,3))) ∧ a.tmps.get 1 = some (i64 v8550) ∧ a.tmps.get 2 = some (i64 v8546) ∧ a.tmps.get 3 = some (i64 (v13.2.1 - x8041.2)) ∧ a.tmps.get 22 = some (i64 v13.2.2.2.1) ∧ a.tmps.get 23 = some (i64 x8864.1)) (fun x8971 T ds8972 h nx s hp hF=>?_) N _ y8990 _ _ _ _ hy ⟨F8865,rfl,(PH.le.refl _),st,gA,gA,gA,gA,gA,gA,gA,gA,gA,gA⟩ (fun e a σ hne hq=>?_)
             ·obtain ⟨F8972,rfl,le8972,st,t0,t1,t2,t3,t9,t10,t22,t23,t49,t50⟩:=hp
              unfold sf80_L3 at hF;unfold L129w0;refine zd (zg ?_);refine yc ?_;refine zb (th_n ?_);refine zd ?_;refine zE (fun hb8992=>?_) (fun hb8992=>?_)
              ·have hF:=zy hb8992 hF;refine zF (th_n ?_);refine zd ?_;refine zx ?_;refine zd (zg ?_);refine za ?_;refine za ?_;refine zb (th_n ?_);refine zd (zg ?_);refine za ?_;refine za ?_;refine za ?_;refine za ?_;refine v_nc ?_;refine v_fa ?_;obtain ⟨q8993,hF⟩:=zn hF
               refine yl (j:=(Int.toNat v8546)) (Int.toNat_of_nonneg q8993.1).symm (by omega) ?_
               obtain ⟨q8994,hF⟩:=zn hF
               refine yl (j:=(Int.toNat x8971.1)) (Int.toNat_of_nonneg q8994.1).symm (by omega) ?_
               refine zq (o:=((4+(Int.toNat v8546) * 13)+(Int.toNat x8971.1) * 1)) (st.at (i:=5) rfl).2.2 (vk (p:=4) (ix:=(((Int.toNat v8546) * 13)+(Int.toNat x8971.1))) [(.slice py16 (v13.1).length cy16),(i64 v13.2.1),(.slice py17 (v13.2.2.1).length cy17),(i64 v13.2.2.2.1)] rfl (by omega) (by omega)) ?_
               obtain ⟨q8995,hF⟩:=zn hF;refine zY q8995 ?_;refine za ?_;refine zb (th_n ?_);refine zd (zg ?_);refine za ?_;refine za ?_;refine za ?_;refine za ?_;refine v_nc ?_;refine v_fa ?_;obtain ⟨q8996,hF⟩:=zn hF
               refine yl (j:=(Int.toNat x8864.1)) (Int.toNat_of_nonneg q8996.1).symm (by omega) ?_
               obtain ⟨q8997,hF⟩:=zn hF
               refine yl (j:=(Int.toNat x8971.1)) (Int.toNat_of_nonneg q8997.1).symm (by omega) ?_
               refine zq (o:=((4+(Int.toNat x8864.1) * 13)+(Int.toNat x8971.1) * 1)) (st.at (i:=5) rfl).2.2 (vk (p:=4) (ix:=(((Int.toNat x8864.1) * 13)+(Int.toNat x8971.1))) [(.slice py16 (v13.1).length cy16),(i64 v13.2.1),(.slice py17 (v13.2.2.1).length cy17),(i64 v13.2.2.2.1)] rfl (by omega) (by omega)) ?_
               refine yc ?_;refine zb (th_n ?_);refine zE (fun hb8998=>?_) (fun hb8998=>?_)
               ·have hF:=zy hb8998 hF;refine zg ?_;refine za ?_;refine za ?_;refine za ?_;refine za ?_;refine v_nc ?_;refine v_fa ?_;obtain ⟨q8999,hF⟩:=zn hF
                refine yl (j:=(Int.toNat x8864.1)) (Int.toNat_of_nonneg q8999.1).symm (by omega) ?_
                obtain ⟨q9000,hF⟩:=zn hF
                refine yl (j:=(Int.toNat x8971.1)) (Int.toNat_of_nonneg q9000.1).symm (by omega) ?_
                refine v_st (o:=((4+(Int.toNat x8864.1) * 13)+(Int.toNat x8971.1) * 1)) (v:=(i64 (((x8864.2 (((Int.toNat x8864.1) * 13)+(Int.toNat v8550)))+(v13.2.1 - x8041.2))+(x8971.2 (((Int.toNat v8546) * 13)+(Int.toNat x8971.1)))))) (cs':=([(.slice py16 (v13.1).length cy16),(i64 v13.2.1),(.slice py17 (v13.2.2.1).length cy17),(i64 v13.2.2.2.1)] ++ (eI .i64 169 (ups x8971.2 (((Int.toNat x8864.1) * 13)+(Int.toNat x8971.1)) (((x8864.2 (((Int.toNat x8864.1) * 13)+(Int.toNat v8550)))+(v13.2.1 - x8041.2))+(x8971.2 (((Int.toNat v8546) * 13)+(Int.toNat x8971.1)))))))) st 5 rfl (Yw (p:=4) (ix:=(((Int.toNat x8864.1) * 13)+(Int.toNat x8971.1))) [(.slice py16 (v13.1).length cy16),(i64 v13.2.1),(.slice py17 (v13.2.2.1).length cy17),(i64 v13.2.2.2.1)] rfl (by omega) (by omega)) rfl rfl hfl (fun h9001 st=>?_)
                refine zb ?_;refine ib_n ?_;refine th_n ?_;refine zg ?_;obtain ⟨q9002,hF⟩:=zn hF;refine zY q9002 ?_;refine za ?_;refine zb ?_;refine thn ⟨_,(inj hF).symm,rfl,?_⟩;dsimp only
                exact ⟨F8972,rfl,le8972,st,gA,gA,gA,gA,gA,gA,gA,gA,gA,gA⟩
               ·have hF:=zA hb8998 hF;refine zF ?_;refine ib_n ?_;refine th_n ?_;refine zg ?_;obtain ⟨q9003,hF⟩:=zn hF;refine zY q9003 ?_;refine za ?_;refine zb ?_;refine thn ⟨_,(inj hF).symm,rfl,?_⟩;dsimp only
                exact ⟨F8972,rfl,le8972,st,gA,gA,gA,gA,gA,gA,gA,gA,gA,gA⟩
              ·have hF:=zA hb8992 hF;refine z6 ?_;refine th_e ?_;refine th_e ?_;refine ⟨_,(inj hF).symm,rfl,rfl,?_⟩;dsimp only
               exact ⟨F8972,rfl,le8972,st,gA,gA,gA,gA,gA,gA⟩
             ·obtain ⟨N9,T,ds8991⟩:=a;obtain ⟨h9009,n9010⟩:=σ;obtain ⟨rfl,e1,F8991,e2,le8991,st,t0,t1,t2,t3,t22,t23⟩:=hq
              dsimp only at e1 e2
              subst e1
              subst e2
              dsimp only at st t0 t1 t2 t3 t22 t23
              have le9008:=PH.le.trans le8865 le8991
              refine ib_e ?_;refine ib_n ?_;refine th_n ?_;refine zg ?_;obtain ⟨q9011,hF⟩:=zn hF;refine zY q9011 ?_;refine za ?_;refine zb ?_;refine thn ⟨_,(inj hF).symm,rfl,?_⟩;dsimp only
              exact ⟨F8991,rfl,le9008,st,gA,gA,gA,gA,gA,gA⟩
           ·have hF:=zA hb8942 hF;refine z6 ?_;refine th_e ?_;refine th_e ?_;refine ⟨_,(inj hF).symm,rfl,rfl,?_⟩;dsimp only
            exact ⟨F8865,rfl,le8865,st⟩
          ·obtain ⟨N9,T,ds8941⟩:=a;obtain ⟨h9016,n9017⟩:=σ;obtain ⟨rfl,e1,F8941,e2,le8941,st⟩:=hq
           dsimp only at e1 e2
           subst e1
           subst e2
           dsimp only at st
           have le9015:=PH.le.trans le8707 le8941
           refine ib_e ?_;refine th_n ?_;refine zd (zg ?_);refine za ?_;refine zb (th_n ?_);refine zD ?_;refine vn (v:=(.bool true)) (Res.t gA Res.nil) rfl (.inl rfl) (ik ?_);refine zK rfl ?_;refine za ?_;refine zb (th_n ?_);refine zD ?_;refine vn (v:=(.bool true)) (Res.t gA Res.nil) rfl (.inl rfl) (ik ?_);refine zk hb8541 (yv ?_);refine zK hb8541 ?_;refine zb ?_;obtain rfl:=inj hF;refine thn ⟨rfl,?_⟩;dsimp only
           exact ⟨F8941,rfl,le9015,(st.drop (by first | exact List.Sublist.refl _ | (repeat first | exact List.nil_sublist _ | refine List.Sublist.cons_cons _ ?_ | refine List.Sublist.cons _ ?_))),gA,gA,gA⟩
      ·have hF:=zA hb8541 hF;refine zf hb8541 ?_;refine zf hb8541 ?_;refine zf hb8541 ?_;refine zf hb8541 ?_;refine zf hb8541 ?_;refine zI hb8541 ?_;refine zb ?_;obtain rfl:=inj hF;refine thn ⟨rfl,?_⟩;dsimp only
       exact ⟨F7045,rfl,(PH.le.refl _),st,gA,gA,gA⟩
     ·obtain ⟨F8537,rfl,le8537,st,t4,t5,t24⟩:=hp
      have le9020:=PH.le.trans le7045 le8537
      refine zE (fun hb9021=>?_) (fun hb9021=>?_)
      ·have hF:=zy hb9021 hF;refine zd (zg ?_);refine ya (cs:=([(.slice none 0 0),(i64 0),(.slice none 0 0),(i64 0)] ++ (eI .i64 169 (fun _=>0)))) rfl ?_
       refine v_st (v:=(.agg ([(.slice none 0 0),(i64 0),(.slice none 0 0),(i64 0)] ++ (eI .i64 169 (fun _=>0))))) (cs':=([(.slice none 0 0),(i64 0),(.slice none 0 0),(i64 0)] ++ (eI .i64 169 (fun _=>0)))) st 3 rfl (yB [] rfl (by simp [HV.cells,zS,yW])) (yq _ zS (by rfl)) (yp _ (by rfl) yV) hfl (fun h9022 st=>?_)
       refine v_st (cs':=[(.bool false)]) st 4 rfl rfl rfl rfl hfl (fun h9023 st=>?_);refine zb (th_n ?_);refine zD ?_;refine ib_r ?_
       refine yb_e st 7 rfl (fun e=>by cases e) (fun h st=>?_)
       refine yv ?_;refine zb (th_n ?_);refine zE (fun hq9024=>?_) (fun hq9024=>?_)
       ·refine zD ?_;refine ib_r ?_;refine th_r ?_;refine th_r ?_;refine ⟨_,(inj hF).symm,.inl ⟨_,rfl,rfl,rfl,?_⟩⟩;dsimp only
        exact ⟨F8537,rfl,le9020,(st.drop (by first | exact List.Sublist.refl _ | (repeat first | exact List.nil_sublist _ | refine List.Sublist.cons_cons _ ?_ | refine List.Sublist.cons _ ?_)))⟩
       ·exact absurd hq9024 (by rw [(congrArg (!·) rfl)];decide)
      ·have hF:=zA hb9021 hF;refine zF ?_;refine ib_n ?_;refine yb_n st 7 rfl rs26 rp26 (fun h st=>?_);refine yv ?_;refine zb (th_n ?_);refine zE (fun hq9025=>?_) (fun hq9025=>?_)
       ·exact absurd hq9025 (by rw [(congrArg (!·) rfl)];decide)
       ·refine zF ?_;refine ib_n ?_;refine th_n ?_;refine zg ?_;obtain ⟨q9026,hF⟩:=zn hF;refine zY q9026 ?_;refine za ?_;refine zb ?_;refine thn ⟨_,(inj hF).symm,rfl,?_⟩;dsimp only
        exact ⟨F8537,rfl,le9020,(st.drop (by first | exact List.Sublist.refl _ | (repeat first | exact List.nil_sublist _ | refine List.Sublist.cons_cons _ ?_ | refine List.Sublist.cons _ ?_))),gA,gA,gA,gA,gA,gA,gA,gA⟩
    ·have hF:=zA hb8040 hF;refine z6 ?_;refine th_e ?_;refine th_e ?_;refine ⟨_,(inj hF).symm,.inr (⟨_,rfl,rfl,rfl,?_⟩)⟩;dsimp only
     exact ⟨F7045,rfl,le7045,st,gA,gA,gA,gA⟩
   ·rcases hq with hq | hq
    ·obtain ⟨N9,T,ds8037⟩:=a;obtain ⟨h9029,n9030⟩:=σ;obtain ⟨w8036,rfl,rfl,e1,F8037,e2,le8037,st⟩:=hq
     dsimp only at e1 e2
     subst e1
     subst e2
     dsimp only at st
     have le9028:=PH.le.trans le3033 le8037
     have hF:=yM hF;refine ib_r ?_;refine ib_r ?_;refine th_r ?_;refine th_r ?_;refine ⟨_,(inj hF).symm,.inl ⟨_,rfl,rfl,rfl,?_⟩⟩;dsimp only
     exact ⟨F8037,rfl,le9028,(st.drop (by first | exact List.Sublist.refl _ | (repeat first | exact List.nil_sublist _ | refine List.Sublist.cons_cons _ ?_ | refine List.Sublist.cons _ ?_)))⟩
    ·obtain ⟨N9,T,ds8039⟩:=a;obtain ⟨h9033,n9034⟩:=σ;obtain ⟨w8038,rfl,rfl,e1,F8039,e2,le8039,st,t0,t8,t9,t10⟩:=hq
     dsimp only at e1 e2
     subst e1
     subst e2
     dsimp only at st t0 t8 t9 t10
     have le9032:=PH.le.trans le3033 le8039
     have hF:=yL hF;refine ib_e ?_;refine ib_n ?_;refine th_n ?_;refine zg ?_;obtain ⟨q9035,hF⟩:=zn hF;refine zY q9035 ?_;refine za ?_;refine zb ?_;refine thn ⟨_,(inj hF).symm,rfl,?_⟩;dsimp only
     exact ⟨F8039,rfl,le9032,(st.drop (by first | exact List.Sublist.refl _ | (repeat first | exact List.nil_sublist _ | refine List.Sublist.cons_cons _ ?_ | refine List.Sublist.cons _ ?_))),gA,gA,gA,gA⟩
  ·have hF:=zA hb6038 hF;refine z6 ?_;refine th_e ?_;refine th_e ?_;refine ⟨_,(inj hF).symm,.inr (⟨_,rfl,rfl,rfl,?_⟩)⟩;dsimp only
   exact ⟨F3033,rfl,le3033,st⟩
 ·rcases hq with hq | hq
  ·obtain ⟨N9,T,ds6035⟩:=a;obtain ⟨h9037,n9038⟩:=σ;obtain ⟨w6034,rfl,rfl,e1,F6035,e2,le6035,st⟩:=hq
   dsimp only at e1 e2
   subst e1
   subst e2
   dsimp only at st
   have hF:=yM hF;refine ib_r ?_
   refine kq st 7 rfl (fun e=>by cases e) rfl hfl (.inl rfl) (fun h st=>?_)
   have st:=st.drop (List.eraseIdx_sublist _ 7)
   refine ib_r ?_;refine th_r ?_;obtain rfl:=inj hF
   exact end_rM st 0 rfl hfl (.inl rfl) [(.agg ([(.slice none 0 0),(i64 0),(.slice none 0 0),(i64 0)] ++ (eI .i64 169 (fun _=>0)))),(.bool false)] (fun h st=>(Res.c gA (st.at (i:=3) rfl).2.2 (show takeN _ _ = some ([(.slice none 0 0),(i64 0),(.slice none 0 0),(i64 0)] ++ (eI .i64 169 (fun _=>0))) from (yY (E:=(eI .i64 169 (fun _=>0))) [] [(.slice none 0 0),(i64 0),(.slice none 0 0),(i64 0)] rfl zS rfl)) (Res.c1 gA (st.at (i:=4) rfl).2.2 rfl Res.nil))) ⟨_,_,rfl,⟨[(.slice none 0 0)],_,rfl,⟨none,0,rfl,RowF.nil⟩,⟨[(i64 0)],_,rfl,rfl,⟨[(.slice none 0 0)],_,rfl,⟨none,0,rfl,RowF.nil⟩,⟨[(i64 0)],_,rfl,rfl,⟨rfl,rfl⟩⟩⟩⟩⟩⟩
  ·obtain ⟨N9,T,ds6037⟩:=a;obtain ⟨h9040,n9041⟩:=σ;obtain ⟨w6036,rfl,rfl,e1,F6037,e2,le6037,st⟩:=hq
   dsimp only at e1 e2
   subst e1
   subst e2
   dsimp only at st
   have hF:=yL hF;refine ib_e ?_
   refine kq st 7 rfl (by rw [rs26];exact fun e=>by cases e) rp26 hfl (.inr rfl) (fun h st=>?_)
   have st:=st.drop (List.eraseIdx_sublist _ 7)
   refine ib_n ?_;refine th_n ?_;refine zd (zg ?_);refine zM (vs:=([(.slice py16 (v13.1).length cy16),(i64 v13.2.1),(.slice py17 (v13.2.2.1).length cy17),(i64 v13.2.2.2.1)] ++ (eI .i64 169 w6036))) (st.at (i:=5) rfl).2.2 (yY (E:=(eI .i64 169 w6036)) [] [(.slice py16 (v13.1).length cy16),(i64 v13.2.1),(.slice py17 (v13.2.2.1).length cy17),(i64 v13.2.2.2.1)] rfl zS rfl) ?_
   refine v_st (v:=(.agg ([(.slice py16 (v13.1).length cy16),(i64 v13.2.1),(.slice py17 (v13.2.2.1).length cy17),(i64 v13.2.2.2.1)] ++ (eI .i64 169 w6036)))) (cs':=([(.slice py16 (v13.1).length cy16),(i64 v13.2.1),(.slice py17 (v13.2.2.1).length cy17),(i64 v13.2.2.2.1)] ++ (eI .i64 169 w6036))) st 3 rfl (yB [] rfl (by simp [HV.cells,zS,yW])) (yq _ zS (by rfl)) (yp _ (by rfl) yV) hfl (fun h9042 st=>?_)
   refine v_st (cs':=[(.bool true)]) st 4 rfl rfl rfl rfl hfl (fun h9043 st=>?_);refine zb (th_n ?_);refine zD ?_;obtain rfl:=inj hF
   exact end_rM st 0 rfl hfl (.inl rfl) [(.agg ([(.slice py16 (v13.1).length cy16),(i64 v13.2.1),(.slice py17 (v13.2.2.1).length cy17),(i64 v13.2.2.2.1)] ++ (eI .i64 169 w6036))),(.bool true)] (fun h st=>(Res.c gA (st.at (i:=3) rfl).2.2 (show takeN _ _ = some ([(.slice py16 (v13.1).length cy16),(i64 v13.2.1),(.slice py17 (v13.2.2.1).length cy17),(i64 v13.2.2.2.1)] ++ (eI .i64 169 w6036)) from (yY (E:=(eI .i64 169 w6036)) [] [(.slice py16 (v13.1).length cy16),(i64 v13.2.1),(.slice py17 (v13.2.2.1).length cy17),(i64 v13.2.2.2.1)] rfl zS rfl)) (Res.c1 gA (st.at (i:=4) rfl).2.2 rfl Res.nil))) ⟨_,_,rfl,⟨[(.slice py16 (v13.1).length cy16)],_,rfl,⟨_,_,rfl,(RowF.mono le6037 ry16)⟩,⟨[(i64 v13.2.1)],_,rfl,rfl,⟨[(.slice py17 (v13.2.2.1).length cy17)],_,rfl,⟨_,_,rfl,(RowF.mono le6037 ry17)⟩,⟨[(i64 v13.2.2.2.1)],_,rfl,rfl,⟨rfl,rfl⟩⟩⟩⟩⟩⟩
end Go.Hx.V

namespace Go.Hx.V
open Go.Hx
set_option maxRecDepth 20000
set_option maxHeartbeats 4000000
variable {fl : Nat} {h0 : Tr HBlk} {n0 : Nat} {F0 : PH}
attribute [local irreducible] W R C thenH inBlockH Tr.get Tr.set lo ck bnd ix iter
theorem ct75 (N:Nat) {a0p0:(List (Int × Int))} {a0p1:Int} {a0p2:(List (Int × Int × (List (Int × Int))))} {a0p3:Int} {a0p4:(Nat → Int)} {a1:Int} {r:(Int × Int)} (hF:sf75 N a0p0 a0p1 a0p2 a0p3 a0p4 a1 = some r) (hd:D h0 n0) (hs:F0.sub h0) {pa0p0:Option (Nat × Nat)} {ca0p0:Nat} {pa0p2:Option (Nat × Nat)} {ca0p2:Nat} {ba0:Nat} (ra0p0:RowF (rP rI rI) 2 F0 pa0p0 ca0p0 a0p0) (ra0p2:RowF (rP rI (rP rI (rL (rP rI rI) 2))) 3 F0 pa0p2 ca0p2 a0p2) (hba0:F0 ba0 = some (.cells ([(.slice pa0p0 (a0p0).length ca0p0),(i64 a0p1),(.slice pa0p2 (a0p2).length ca0p2),(i64 a0p3)] ++ (eI .i64 169 a0p4)) .exact)):C LW fl 75 [(.ptr (some (ba0,0))),(i64 a1)] ⟨h0,n0⟩ (KS (.agg [(i64 r.1),(i64 r.2)]) n0 h0):=by
 unfold sf75 at hF
 refine yg hd hs lw75 rfl rfl (by rfl) (fun st T hT=>?_)
 have hfl:n0 ≤ n0:=Nat.le_refl n0
 have t0:=hT 0 _ rfl
 have t1:=hT 1 _ rfl
 dsimp only [L75]
 refine zd (zg ?_);refine zQ st (fun b1 h2 n3 st=>?_);refine zb (th_n ?_);refine zd ?_;refine yn (Nat.le_trans hfl st.ext.le) (fun dw=>?_);obtain ⟨v4,e5,hF⟩:=zj hF;refine vy st.d dw (fun hm vw=>um (ct104 N e5 vw.d (vw.sub st) ) (fun n' hn'=>vC hn')) (fun n6 hn' dw=>?_);refine zB st.d dw (fun hm vw=>za zu) ?_;refine zB st.d dw (fun hm vw=>v_nc zu) ?_;refine zB st.d dw (fun hm vw=>v_fa zu) ?_;refine zB st.d dw (fun hm vw=>zM (vs:=[(.slice pa0p0 (a0p0).length ca0p0),(i64 a0p1),(.slice pa0p2 (a0p2).length ca0p2)]) (vw.fz st hba0) rfl zu) ?_;refine zB st.d dw (fun hm vw=>za zu) ?_
 obtain ⟨v7,e8,hF⟩:=zj hF;refine vy st.d dw (fun hm vw=>um (ct105 N e8 vw.d (vw.sub st) ra0p0 ra0p2) (fun n' hn'=>vC hn')) (fun n9 hn' dw=>?_);refine km st.d dw (fun hm vw=>kM zu) (fun done dw=>?_);refine vd st.d dw rfl (fun h10 ex vs=>?_)
 have st:=St.laid st ex (Lay.cons (b:=n9) (cs:=[.nilFunc,.nilFunc]) (by have:=dw.le;omega) (vs _ (List.mem_cons_self ..) _ _ (if_pos rfl)) (Lay.nil (by have:=dw.le;omega)))
 refine v_st (cs':=[(.via 165 "Lowest" 127),(.via 165 "Highest" 128)]) st 1 rfl rfl rfl rfl hfl (fun h11 st=>?_);refine za ?_;refine zb (th_n ?_);refine zd ?_;refine yn (Nat.le_trans hfl st.ext.le) (fun dw=>?_)
 have wf:=Wf.start st
 refine zB st.d dw (fun hm vw=>v_fa zu) ?_;refine zB st.d dw (fun hm vw=>zq (vw.bx (st.at (i:=1) rfl)) rfl zu) ?_;refine zB st.d dw (fun hm vw=>za zu) ?_;refine zB st.d dw (fun hm vw=>za zu) ?_;obtain ⟨v12,e13,hF⟩:=zj hF
 refine vy st.d dw (fun hm vw=>YF (off:=3) (by kernel_rfl) (ct127 N e13 vw.d (FF.sub wf st vw) (RowF.mono FF.base ra0p0) (RowF.mono FF.base ra0p2) (FF.base _ _ hba0)) (fun n' hn'=>vC hn')) (fun n14 hn' dw=>?_)
 refine zB st.d dw (fun hm vw=>v_fa zu) ?_;refine zB st.d dw (fun hm vw=>zq (vw.bx (st.at (i:=1) rfl)) rfl zu) ?_;refine vd st.d dw rfl (fun h15 ex vs=>?_)
 have st:=st.ext1 ex
 refine za ?_;refine za ?_;obtain ⟨v16,e17,hF⟩:=zj hF
 refine YD (off:=3) (by kernel_rfl) st (ct128 N e17 st.d st.sub ra0p0 ra0p2 hba0) (fun n18 st=>?_)
 refine ya (cs:=[(i64 v12),(i64 v16)]) rfl ?_;refine v_st (cs':=[(i64 v12),(i64 v16)]) st 0 rfl rfl rfl rfl hfl (fun h19 st=>?_);refine zb (th_n ?_);refine zD ?_;obtain rfl:=inj hF
 exact zJ st (Res.c gA (st.at (i:=0) rfl).2.2 (show takeN _ _ = some [(i64 v12),(i64 v16)] from rfl) Res.nil) rfl rfl
theorem ct76 (N:Nat) {a0p0:(List (Int × Int))} {a0p1:Int} {a0p2:(List (Int × Int × (List (Int × Int))))} {a0p3:Int} {a0p4:(Nat → Int)} {a1:Int} {r:(Int × Int)} (hF:sf76 N a0p0 a0p1 a0p2 a0p3 a0p4 a1 = some r) (hd:D h0 n0) (hs:F0.sub h0) {pa0p0:Option (Nat × Nat)} {ca0p0:Nat} {pa0p2:Option (Nat × Nat)} {ca0p2:Nat} {ba0:Nat} (ra0p0:RowF (rP rI rI) 2 F0 pa0p0 ca0p0 a0p0) (ra0p2:RowF (rP rI (rP rI (rL (rP rI rI) 2))) 3 F0 pa0p2 ca0p2 a0p2) (hba0:F0 ba0 = some (.cells ([(.slice pa0p0 (a0p0).length ca0p0),(i64 a0p1),(.slice pa0p2 (a0p2).length ca0p2),(i64 a0p3)] ++ (eI .i64 169 a0p4)) .exact)):C LW fl 76 [(.ptr (some (ba0,0))),(i64 a1)] ⟨h0,n0⟩ (KS (.agg [(i64 r.1),(i64 r.2)]) n0 h0):=by
 unfold sf76 at hF
 refine yg hd hs lw76 rfl rfl (by rfl) (fun st T hT=>?_)
 have hfl:n0 ≤ n0:=Nat.le_refl n0
 have t0:=hT 0 _ rfl
 have t1:=hT 1 _ rfl
 dsimp only [L76]
 refine zd (zg ?_);refine zQ st (fun b1 h2 n3 st=>?_);refine zb (th_n ?_);refine zd ?_;refine yn (Nat.le_trans hfl st.ext.le) (fun dw=>?_);obtain ⟨v4,e5,hF⟩:=zj hF;refine vy st.d dw (fun hm vw=>um (ct104 N e5 vw.d (vw.sub st) ) (fun n' hn'=>vC hn')) (fun n6 hn' dw=>?_);refine zB st.d dw (fun hm vw=>za zu) ?_;refine zB st.d dw (fun hm vw=>v_nc zu) ?_;refine zB st.d dw (fun hm vw=>v_fa zu) ?_;refine zB st.d dw (fun hm vw=>zM (vs:=[(.slice pa0p0 (a0p0).length ca0p0),(i64 a0p1),(.slice pa0p2 (a0p2).length ca0p2)]) (vw.fz st hba0) rfl zu) ?_;refine zB st.d dw (fun hm vw=>za zu) ?_
 obtain ⟨v7,e8,hF⟩:=zj hF;refine vy st.d dw (fun hm vw=>um (ct106 N e8 vw.d (vw.sub st) ra0p0 ra0p2) (fun n' hn'=>vC hn')) (fun n9 hn' dw=>?_);refine km st.d dw (fun hm vw=>kM zu) (fun done dw=>?_);refine vd st.d dw rfl (fun h10 ex vs=>?_)
 have st:=St.laid st ex (Lay.cons (b:=n9) (cs:=[.nilFunc,.nilFunc]) (by have:=dw.le;omega) (vs _ (List.mem_cons_self ..) _ _ (if_pos rfl)) (Lay.nil (by have:=dw.le;omega)))
 refine v_st (cs':=[(.via 165 "Lowest" 127),(.via 165 "Highest" 128)]) st 1 rfl rfl rfl rfl hfl (fun h11 st=>?_);refine za ?_;refine zb (th_n ?_);refine zd ?_;refine yn (Nat.le_trans hfl st.ext.le) (fun dw=>?_)
 have wf:=Wf.start st
 refine zB st.d dw (fun hm vw=>v_fa zu) ?_;refine zB st.d dw (fun hm vw=>zq (vw.bx (st.at (i:=1) rfl)) rfl zu) ?_;refine zB st.d dw (fun hm vw=>za zu) ?_;refine zB st.d dw (fun hm vw=>za zu) ?_;obtain ⟨v12,e13,hF⟩:=zj hF
 refine vy st.d dw (fun hm vw=>YF (off:=3) (by kernel_rfl) (ct128 N e13 vw.d (FF.sub wf st vw) (RowF.mono FF.base ra0p0) (RowF.mono FF.base ra0p2) (FF.base _ _ hba0)) (fun n' hn'=>vC hn')) (fun n14 hn' dw=>?_)
 obtain ⟨q15,hF⟩:=zn hF;refine zB st.d dw (fun hm vw=>k9 q15 zu) ?_;refine zB st.d dw (fun hm vw=>v_fa zu) ?_;refine zB st.d dw (fun hm vw=>zq (vw.bx (st.at (i:=1) rfl)) rfl zu) ?_;refine vd st.d dw rfl (fun h16 ex vs=>?_)
 have st:=st.ext1 ex
 refine za ?_;refine za ?_;obtain ⟨v17,e18,hF⟩:=zj hF
 refine YD (off:=3) (by kernel_rfl) st (ct127 N e18 st.d st.sub ra0p0 ra0p2 hba0) (fun n19 st=>?_)
 obtain ⟨q20,hF⟩:=zn hF;refine k9 q20 ?_;refine ya (cs:=[(i64 (-v12)),(i64 (-v17))]) rfl ?_;refine v_st (cs':=[(i64 (-v12)),(i64 (-v17))]) st 0 rfl rfl rfl rfl hfl (fun h21 st=>?_);refine zb (th_n ?_);refine zD ?_;obtain rfl:=inj hF
 exact zJ st (Res.c gA (st.at (i:=0) rfl).2.2 (show takeN _ _ = some [(i64 (-v12)),(i64 (-v17))] from rfl) Res.nil) rfl rfl
end Go.Hx.V

namespace Go.Hx.V
open Go.Hx
set_option maxRecDepth 20000
set_option maxHeartbeats 4000000
variable {fl : Nat} {h0 : Tr HBlk} {n0 : Nat} {F0 : PH}
attribute [local irreducible] W R C thenH inBlockH Tr.get Tr.set lo ck bnd ix iter
theorem ct98 (N:Nat) {a0:(List (Int × Int))} {r:Bool} (hF:sf98 N a0 = some r) (hd:D h0 n0) (hs:F0.sub h0) {pa0:Option (Nat × Nat)} {ca0:Nat} (ra0:RowF (rP rI rI) 2 F0 pa0 ca0 a0):C LW fl 98 [(.slice pa0 (a0).length ca0),(.func 99 [] [])] ⟨h0,n0⟩ (KS (.bool r) n0 h0):=by
 unfold sf98 at hF
 refine yg hd hs lw98 rfl rfl (by rfl) (fun st T hT=>?_)
 have hfl:n0 ≤ n0:=Nat.le_refl n0
 have t0:=hT 0 _ rfl
 have t1:=hT 1 _ rfl
 dsimp only [L98]
 refine zd (zg ?_);refine za ?_;refine zb (th_n ?_);refine zd ?_;refine zd (zg ?_);refine za ?_;refine z2 ?_;refine za ?_;refine zb (th_n ?_);refine zx ?_;obtain ⟨y14,hy,hF⟩:=zj hF;refine zW (sf98_L1 N a0) (fun x1 T ds2 h nx=>∃ (F2:PH),ds2 = [] ∧ PH.le F0 F2 ∧ St n0 h0 F0 F2 h nx [] ∧ T.get 1 = some (.func 99 [] []) ∧ T.get 7 = some (.slice pa0 (a0).length ca0) ∧ T.get 8 = some (i64 ((a0).length:Int)) ∧ T.get 9 = some (i64 x1)) (fun y e a σ=>(∃ u,y = (.inl u) ∧ e = .ret ∧ a.nt = 18 ∧ ∃ (F16:PH),a.defers = [] ∧ PH.le F0 F16 ∧ St n0 h0 F0 F16 σ.h σ.nx [] ∧ a.tmps.get 4 = some (.bool false)) ∨ (∃ u,y = (.inr u) ∧ e = .exit 0 ∧ a.nt = 18 ∧ ∃ (F18:PH),a.defers = [] ∧ PH.le F0 F18 ∧ St n0 h0 F0 F18 σ.h σ.nx [])) (fun x1 T ds2 h nx s hp hF=>?_) N _ y14 _ _ _ _ hy ⟨F0,rfl,(PH.le.refl _),st,gA,gA,gA,gA⟩ (fun e a σ hne hq=>?_)
 ·obtain ⟨F2,rfl,le2,st,t1,t7,t8,t9⟩:=hp;unfold sf98_L1 at hF;unfold L98w0;refine zd (zg ?_);refine yc ?_;refine zb (th_n ?_);refine zd ?_;refine zE (fun hb19=>?_) (fun hb19=>?_)
  ·have hF:=zy hb19 hF;refine zF (th_n ?_);refine zd ?_;refine zx ?_;refine zd (zg ?_);obtain ⟨n20,x20,z20,l20,g20,hF⟩:=zO hF;obtain ⟨b20,o20,s20,j20,r20,e20,f20,k20,⟨_,_,rfl,rfl,rfl⟩⟩:=RowF.get ra0 g20;refine z9 e20 z20 l20 ?_;refine zM (st.sub _ _ (le2 _ _ f20)) k20 ?_;refine zQ st (fun b21 h22 n23 st=>?_);refine v_st (cs':=[(i64 x20.1),(i64 x20.2)]) st 0 rfl rfl rfl rfl hfl (fun h24 st=>?_);refine zb (th_n ?_);refine zd (zg ?_);refine za ?_;refine zM (vs:=[(i64 x20.1),(i64 x20.2)]) (st.at (i:=0) rfl).2.2 rfl ?_;obtain ⟨v25,e26,hF⟩:=zj hF;refine zT st (ct99 N e26 st.d st.sub ) (fun n27 st=>?_)
   refine yv ?_;refine zb (th_n ?_);refine zE (fun hb28=>?_) (fun hb28=>?_)
   ·have hF:=zy hb28 hF;refine zd (zg ?_);refine za ?_;refine zb (th_n ?_);refine zD ?_;refine ib_r ?_;refine th_r ?_;refine th_r ?_;refine ⟨_,(inj hF).symm,.inl ⟨_,rfl,rfl,rfl,?_⟩⟩;dsimp only
    exact ⟨F2,rfl,le2,(st.drop (by first | exact List.Sublist.refl _ | (repeat first | exact List.nil_sublist _ | refine List.Sublist.cons_cons _ ?_ | refine List.Sublist.cons _ ?_))),gA⟩
   ·have hF:=zA hb28 hF;refine zF ?_;refine ib_n ?_;refine th_n ?_;refine zg ?_;obtain ⟨q29,hF⟩:=zn hF;refine zY q29 ?_;refine za ?_;refine zb ?_;refine thn ⟨_,(inj hF).symm,rfl,?_⟩;dsimp only
    exact ⟨F2,rfl,le2,(st.drop (by first | exact List.Sublist.refl _ | (repeat first | exact List.nil_sublist _ | refine List.Sublist.cons_cons _ ?_ | refine List.Sublist.cons _ ?_))),gA,gA,gA,gA⟩
  ·have hF:=zA hb19 hF;refine z6 ?_;refine th_e ?_;refine th_e ?_;refine ⟨_,(inj hF).symm,.inr (⟨_,rfl,rfl,rfl,?_⟩)⟩;dsimp only
   exact ⟨F2,rfl,le2,st⟩
 ·rcases hq with hq | hq
  ·obtain ⟨N9,T,ds16⟩:=a;obtain ⟨h30,n31⟩:=σ;obtain ⟨w15,rfl,rfl,e1,F16,e2,le16,st,t4⟩:=hq
   dsimp only at e1 e2
   subst e1
   subst e2
   dsimp only at st t4
   have hF:=yM hF;refine ib_r ?_;refine th_r ?_;obtain rfl:=inj hF
   exact zJ st (Res.t gA Res.nil) rfl rfl
  ·obtain ⟨N9,T,ds18⟩:=a;obtain ⟨h32,n33⟩:=σ;obtain ⟨w17,rfl,rfl,e1,F18,e2,le18,st⟩:=hq
   dsimp only at e1 e2
   subst e1
   subst e2
   dsimp only at st
   have hF:=yL hF;refine ib_e ?_;refine th_n ?_;refine zd (zg ?_);refine za ?_;refine zb (th_n ?_);refine zD ?_;obtain rfl:=inj hF
   exact zJ st (Res.t gA Res.nil) rfl rfl
theorem ct124 (N:Nat) {a0:(List (Int × Int))} {a1f0_0:(List (Int × Int))} {a1f0_1:Int} {a1f0_2:(List (Int × Int × (List (Int × Int))))} {r:Bool} (hF:sf124 N a0 a1f0_0 a1f0_1 a1f0_2 = some r) (hd:D h0 n0) (hs:F0.sub h0) {pa0:Option (Nat × Nat)} {ca0:Nat} {pa1f0_0:Option (Nat × Nat)} {ca1f0_0:Nat} {pa1f0_2:Option (Nat × Nat)} {ca1f0_2:Nat} (ra0:RowF (rP rI rI) 2 F0 pa0 ca0 a0) (ra1f0_0:RowF (rP rI rI) 2 F0 pa1f0_0 ca1f0_0 a1f0_0) (ra1f0_2:RowF (rP rI (rP rI (rL (rP rI rI) 2))) 3 F0 pa1f0_2 ca1f0_2 a1f0_2):C LW fl 124 [(.slice pa0 (a0).length ca0),(.func 125 [(.agg [(.slice pa1f0_0 (a1f0_0).length ca1f0_0),(i64 a1f0_1),(.slice pa1f0_2 (a1f0_2).length ca1f0_2)])] [])] ⟨h0,n0⟩ (KS (.bool r) n0 h0):=by
 unfold sf124 at hF
 refine yg hd hs lw124 rfl rfl (by rfl) (fun st T hT=>?_)
 have hfl:n0 ≤ n0:=Nat.le_refl n0
 have t0:=hT 0 _ rfl
 have t1:=hT 1 _ rfl
 dsimp only [L124]
 refine zd (zg ?_);refine za ?_;refine zb (th_n ?_);refine zd ?_;refine zd (zg ?_);refine za ?_;refine z2 ?_;refine za ?_;refine zb (th_n ?_);refine zx ?_;obtain ⟨y14,hy,hF⟩:=zj hF;refine zW (sf124_L1 N a0 a1f0_0 a1f0_1 a1f0_2) (fun x1 T ds2 h nx=>∃ (F2:PH),ds2 = [] ∧ PH.le F0 F2 ∧ St n0 h0 F0 F2 h nx [] ∧ T.get 1 = some (.func 125 [(.agg [(.slice pa1f0_0 (a1f0_0).length ca1f0_0),(i64 a1f0_1),(.slice pa1f0_2 (a1f0_2).length ca1f0_2)])] []) ∧ T.get 7 = some (.slice pa0 (a0).length ca0) ∧ T.get 8 = some (i64 ((a0).length:Int)) ∧ T.get 9 = some (i64 x1)) (fun y e a σ=>(∃ u,y = (.inl u) ∧ e = .ret ∧ a.nt = 18 ∧ ∃ (F16:PH),a.defers = [] ∧ PH.le F0 F16 ∧ St n0 h0 F0 F16 σ.h σ.nx [] ∧ a.tmps.get 4 = some (.bool false)) ∨ (∃ u,y = (.inr u) ∧ e = .exit 0 ∧ a.nt = 18 ∧ ∃ (F18:PH),a.defers = [] ∧ PH.le F0 F18 ∧ St n0 h0 F0 F18 σ.h σ.nx [])) (fun x1 T ds2 h nx s hp hF=>?_) N _ y14 _ _ _ _ hy ⟨F0,rfl,(PH.le.refl _),st,gA,gA,gA,gA⟩ (fun e a σ hne hq=>?_)
 ·obtain ⟨F2,rfl,le2,st,t1,t7,t8,t9⟩:=hp;unfold sf124_L1 at hF;unfold L124w0;refine zd (zg ?_);refine yc ?_;refine zb (th_n ?_);refine zd ?_;refine zE (fun hb19=>?_) (fun hb19=>?_)
  ·have hF:=zy hb19 hF;refine zF (th_n ?_);refine zd ?_;refine zx ?_;refine zd (zg ?_);obtain ⟨n20,x20,z20,l20,g20,hF⟩:=zO hF;obtain ⟨b20,o20,s20,j20,r20,e20,f20,k20,⟨_,_,rfl,rfl,rfl⟩⟩:=RowF.get ra0 g20;refine z9 e20 z20 l20 ?_;refine zM (st.sub _ _ (le2 _ _ f20)) k20 ?_;refine zQ st (fun b21 h22 n23 st=>?_);refine v_st (cs':=[(i64 x20.1),(i64 x20.2)]) st 0 rfl rfl rfl rfl hfl (fun h24 st=>?_);refine zb (th_n ?_);refine zd (zg ?_);refine za ?_;refine zM (vs:=[(i64 x20.1),(i64 x20.2)]) (st.at (i:=0) rfl).2.2 rfl ?_;obtain ⟨v25,e26,hF⟩:=zj hF;refine zT st (ct125 N e26 st.d st.sub (RowF.mono le2 ra1f0_0) (RowF.mono le2 ra1f0_2)) (fun n27 st=>?_)
   refine yv ?_;refine zb (th_n ?_);refine zE (fun hb28=>?_) (fun hb28=>?_)
   ·have hF:=zy hb28 hF;refine zd (zg ?_);refine za ?_;refine zb (th_n ?_);refine zD ?_;refine ib_r ?_;refine th_r ?_;refine th_r ?_;refine ⟨_,(inj hF).symm,.inl ⟨_,rfl,rfl,rfl,?_⟩⟩;dsimp only
    exact ⟨F2,rfl,le2,(st.drop (by first | exact List.Sublist.refl _ | (repeat first | exact List.nil_sublist _ | refine List.Sublist.cons_cons _ ?_ | refine List.Sublist.cons _ ?_))),gA⟩
   ·have hF:=zA hb28 hF;refine zF ?_;refine ib_n ?_;refine th_n ?_;refine zg ?_;obtain ⟨q29,hF⟩:=zn hF;refine zY q29 ?_;refine za ?_;refine zb ?_;refine thn ⟨_,(inj hF).symm,rfl,?_⟩;dsimp only
    exact ⟨F2,rfl,le2,(st.drop (by first | exact List.Sublist.refl _ | (repeat first | exact List.nil_sublist _ | refine List.Sublist.cons_cons _ ?_ | refine List.Sublist.cons _ ?_))),gA,gA,gA,gA⟩
  ·have hF:=zA hb19 hF;refine z6 ?_;refine th_e ?_;refine th_e ?_;refine ⟨_,(inj hF).symm,.inr (⟨_,rfl,rfl,rfl,?_⟩)⟩;dsimp only
   exact ⟨F2,rfl,le2,st⟩
 ·rcases hq with hq | hq
  ·obtain ⟨N9,T,ds16⟩:=a;obtain ⟨h30,n31⟩:=σ;obtain ⟨w15,rfl,rfl,e1,F16,e2,le16,st,t4⟩:=hq
   dsimp only at e1 e2
   subst e1
   subst e2
   dsimp only at st t4
   have hF:=yM hF;refine ib_r ?_;refine th_r ?_;obtain rfl:=inj hF
   exact zJ st (Res.t gA Res.nil) rfl rfl
  ·obtain ⟨N9,T,ds18⟩:=a;obtain ⟨h32,n33⟩:=σ;obtain ⟨w17,rfl,rfl,e1,F18,e2,le18,st⟩:=hq
   dsimp only at e1 e2
   subst e1
   subst e2
   dsimp only at st
   have hF:=yL hF;refine ib_e ?_;refine th_n ?_;refine zd (zg ?_);refine za ?_;refine zb (th_n ?_);refine zD ?_;obtain rfl:=inj hF
   exact zJ st (Res.t gA Res.nil) rfl rfl
end Go.Hx.V

namespace Go.Hx.V
open Go.Hx
set_option maxRecDepth 20000
set_option maxHeartbeats 4000000
variable {fl : Nat} {h0 : Tr HBlk} {n0 : Nat} {F0 : PH}
attribute [local irreducible] W R C thenH inBlockH Tr.get Tr.set lo ck bnd ix iter
theorem ct73 (N:Nat) {a0_0:(List (Int × Int))} {a0_1:Int} {a0_2:(List (Int × Int × (List (Int × Int))))} {r:Int} (hF:sf73 N a0_0 a0_1 a0_2 = some r) (hd:D h0 n0) (hs:F0.sub h0) {pa0_0:Option (Nat × Nat)} {ca0_0:Nat} {pa0_2:Option (Nat × Nat)} {ca0_2:Nat} (ra0_0:RowF (rP rI rI) 2 F0 pa0_0 ca0_0 a0_0) (ra0_2:RowF (rP rI (rP rI (rL (rP rI rI) 2))) 3 F0 pa0_2 ca0_2 a0_2):C LW fl 73 [(.agg [(.slice pa0_0 (a0_0).length ca0_0),(i64 a0_1),(.slice pa0_2 (a0_2).length ca0_2)])] ⟨h0,n0⟩ (KS (i64 r) n0 h0):=by
 unfold sf73 at hF
 refine yg hd hs lw73 rfl rfl (by rfl) (fun st T hT=>?_)
 have hfl:n0 ≤ n0:=Nat.le_refl n0
 have t0:=hT 0 _ rfl
 dsimp only [L73]
 refine zd (zg ?_);refine yi st (fun b1 h2 n3 st=>?_);refine za ?_;refine zb (th_n ?_);obtain ⟨y11,hA12,hF⟩:=zj hF;refine yt (fun T ds17 h nx=>∃ u,y11 = (.inr u) ∧ ∃ (F17:PH),ds17 = [] ∧ PH.le F0 F17 ∧ St n0 h0 F0 F17 h nx [.bx b1 [(.slice pa0_0 (a0_0).length ca0_0),(i64 a0_1),(.slice pa0_2 (a0_2).length ca0_2)]] ∧ T.get 1 = some (.ptr (some (b1,0)))) ?_ (fun T ds17 h nx hp=>?_)
 ·have hK13:=hF
  have hF:=hA12;obtain ⟨y19,hA20,hF⟩:=zj hF;refine yt (fun T ds22 h nx=>∃ (F22:PH),ds22 = [] ∧ PH.le F0 F22 ∧ St n0 h0 F0 F22 h nx [.bx b1 [(.slice pa0_0 (a0_0).length ca0_0),(i64 a0_1),(.slice pa0_2 (a0_2).length ca0_2)]] ∧ T.get 1 = some (.ptr (some (b1,0))) ∧ T.get 17 = some (.bool y19)) ?_ (fun T ds22 h nx hp=>?_)
  ·have hK21:=hF
   have hF:=hA20;refine zg ?_;refine v_fa ?_;refine zq (st.at (i:=0) rfl).2.2 rfl ?_;refine z2 ?_;refine jg ?_;refine za ?_
   rcases Bool.eq_false_or_eq_true (decide ((6:Int) < ((a0_0).length:Int))) with hb23 | hb23
   ·have hF:=zy hb23 hF;refine zf hb23 ?_;refine zf hb23 ?_;refine zf hb23 ?_;refine zf hb23 ?_;refine zK hb23 ?_;refine zb ?_;obtain rfl:=inj hF;refine thn ⟨rfl,?_⟩;dsimp only
    exact ⟨F0,rfl,(PH.le.refl _),st,gA,gA⟩
   ·have hF:=zA hb23 hF;refine zk hb23 (v_fa ?_);refine zk hb23 (zq (st.at (i:=0) rfl).2.2 rfl ?_);refine zk hb23 (z2 ?_);refine zk hb23 (jg ?_);refine zI hb23 ?_;refine zb ?_;obtain rfl:=inj hF;refine thn ⟨rfl,?_⟩;dsimp only
    exact ⟨F0,rfl,(PH.le.refl _),st,gA,gA⟩
  ·obtain ⟨F22,rfl,le22,st,t1,t17⟩:=hp;refine zE (fun hb24=>?_) (fun hb24=>?_)
   ·have hF:=zy hb24 hF;refine zd (zg ?_);refine za ?_;refine zb (th_n ?_);refine zD ?_;obtain rfl:=inj hF;have hF:=hK13;have hF:=yM hF;refine th_r ?_;obtain rfl:=inj hF
    exact zJ st (Res.t gA Res.nil) rfl rfl
   ·have hF:=zA hb24 hF;refine zF ?_;obtain rfl:=inj hF;refine thn ⟨rfl,_,rfl,?_⟩;dsimp only
    exact ⟨F22,rfl,le22,st,gA⟩
 ·obtain ⟨w16,rfl,F17,rfl,le17,st,t1⟩:=hp;have hF:=yL hF;obtain ⟨y39,hA40,hF⟩:=zj hF;refine yt (fun T ds45 h nx=>∃ u,y39 = (.inr u) ∧ ∃ (F45:PH),ds45 = [] ∧ PH.le F17 F45 ∧ St n0 h0 F0 F45 h nx [.bx b1 [(.slice pa0_0 (a0_0).length ca0_0),(i64 a0_1),(.slice pa0_2 (a0_2).length ca0_2)]] ∧ T.get 1 = some (.ptr (some (b1,0)))) ?_ (fun T ds45 h nx hp=>?_)
  ·have hK41:=hF
   have hF:=hA40;obtain ⟨y50,hA51,hF⟩:=zj hF;refine yt (fun T ds53 h nx=>∃ (F53:PH),ds53 = [] ∧ PH.le F17 F53 ∧ St n0 h0 F0 F53 h nx [.bx b1 [(.slice pa0_0 (a0_0).length ca0_0),(i64 a0_1),(.slice pa0_2 (a0_2).length ca0_2)]] ∧ T.get 1 = some (.ptr (some (b1,0))) ∧ T.get 27 = some (.bool y50)) ?_ (fun T ds53 h nx hp=>?_)
   ·have hK52:=hF
    have hF:=hA51;refine zg ?_;refine v_fa ?_;refine zq (st.at (i:=0) rfl).2.2 rfl ?_;refine z2 ?_;refine jz ?_;refine za ?_
    rcases Bool.eq_false_or_eq_true (decide (((a0_0).length:Int) = (0:Int))) with hb54 | hb54
    ·have hF:=zy hb54 hF;refine zf hb54 ?_;refine zf hb54 ?_;refine zf hb54 ?_;refine zf hb54 ?_;refine zK hb54 ?_;refine zb ?_;obtain rfl:=inj hF;refine thn ⟨rfl,?_⟩;dsimp only
     exact ⟨F17,rfl,(PH.le.refl _),st,gA,gA⟩
    ·have hF:=zA hb54 hF;refine zk hb54 (v_fa ?_);refine zk hb54 (zq (st.at (i:=0) rfl).2.2 rfl ?_);obtain ⟨v55,e56,hF⟩:=zj hF;refine zk hb54 (zT st (ct32 N e56 st.d st.sub ) (fun n57 st=>?_));refine zk hb54 (yv ?_);refine zI hb54 ?_;refine zb ?_;obtain rfl:=inj hF;refine thn ⟨rfl,?_⟩;dsimp only
     exact ⟨F17,rfl,(PH.le.refl _),st,gA,gA⟩
   ·obtain ⟨F53,rfl,le53,st,t1,t27⟩:=hp
    refine zE (fun hb59=>?_) (fun hb59=>?_)
    ·have hF:=zy hb59 hF;refine zd (zg ?_);refine za ?_;refine zb (th_n ?_);refine zD ?_;obtain rfl:=inj hF;have hF:=hK41;have hF:=yM hF;refine th_r ?_;obtain rfl:=inj hF
     exact zJ st (Res.t gA Res.nil) rfl rfl
    ·have hF:=zA hb59 hF;refine zF ?_;obtain rfl:=inj hF;refine thn ⟨rfl,_,rfl,?_⟩;dsimp only
     exact ⟨F53,rfl,le53,st,gA⟩
  ·obtain ⟨w44,rfl,F45,rfl,le45,st,t1⟩:=hp;have hF:=yL hF
   have le61:=PH.le.trans le17 le45
   refine zd ?_;refine zd (zg ?_);refine za ?_;refine zb (th_n ?_);refine zx ?_;obtain ⟨y73,hy,hF⟩:=zj hF;refine zW (sf73_L1 N a0_0) (fun x62 T ds63 h nx=>∃ (F63:PH),ds63 = [] ∧ PH.le F45 F63 ∧ St n0 h0 F0 F63 h nx [.bx b1 [(.slice pa0_0 (a0_0).length ca0_0),(i64 a0_1),(.slice pa0_2 (a0_2).length ca0_2)]] ∧ T.get 1 = some (.ptr (some (b1,0))) ∧ T.get 3 = some (i64 x62)) (fun y e a σ=>(∃ u,y = (.inl u) ∧ e = .ret ∧ a.nt = 105 ∧ ∃ (F75:PH),a.defers = [] ∧ PH.le F45 F75 ∧ St n0 h0 F0 F75 σ.h σ.nx [.bx b1 [(.slice pa0_0 (a0_0).length ca0_0),(i64 a0_1),(.slice pa0_2 (a0_2).length ca0_2)]] ∧ a.tmps.get 2 = some (i64 u)) ∨ (∃ u,y = (.inr u) ∧ e = .exit 0 ∧ a.nt = 105 ∧ ∃ (F77:PH),a.defers = [] ∧ PH.le F45 F77 ∧ St n0 h0 F0 F77 σ.h σ.nx [.bx b1 [(.slice pa0_0 (a0_0).length ca0_0),(i64 a0_1),(.slice pa0_2 (a0_2).length ca0_2)]] ∧ a.tmps.get 1 = some (.ptr (some (b1,0))))) (fun x62 T ds63 h nx s hp hF=>?_) N _ y73 _ _ _ _ hy ⟨F45,rfl,(PH.le.refl _),st,gA,gA⟩ (fun e a σ hne hq=>?_)
   ·obtain ⟨F63,rfl,le63,st,t1,t3⟩:=hp
    have le64:=PH.le.trans le61 le63
    unfold sf73_L1 at hF;unfold L73w3;refine zd ?_;refine zd (zg ?_);refine za ?_;refine v_fa ?_;refine zq (st.at (i:=0) rfl).2.2 rfl ?_;refine z2 ?_;refine yc ?_;refine zb (th_n ?_);refine zE (fun hb78=>?_) (fun hb78=>?_)
    ·have hF:=zy hb78 hF;refine zF (th_n ?_);refine zd ?_;refine zx ?_;refine zd (zg ?_);refine v_fa ?_;refine zq (st.at (i:=0) rfl).2.2 rfl ?_;refine za ?_;obtain ⟨n79,x79,z79,l79,g79,hF⟩:=zO hF;obtain ⟨b79,o79,s79,j79,r79,e79,f79,k79,⟨_,_,rfl,rfl,rfl⟩⟩:=RowF.get ra0_0 g79;refine z9 e79 z79 l79 ?_;refine zM (st.sub _ _ (le64 _ _ f79)) k79 ?_;obtain ⟨v80,e81,hF⟩:=zj hF;refine zT st (ct90 N e81 st.d st.sub ) (fun n82 st=>?_);refine yv ?_;refine zb (th_n ?_);refine zE (fun hb83=>?_) (fun hb83=>?_)
     ·have hF:=zy hb83 hF;refine zd (zg ?_);refine za ?_;refine zb (th_n ?_);refine zD ?_;refine ib_r ?_;refine th_r ?_;refine th_r ?_;refine ⟨_,(inj hF).symm,.inl ⟨_,rfl,rfl,rfl,?_⟩⟩;dsimp only
      exact ⟨F63,rfl,le63,st,gA⟩
     ·have hF:=zA hb83 hF;refine zF ?_;refine ib_n ?_;refine th_n ?_;refine zg ?_;refine za ?_;obtain ⟨q84,hF⟩:=zn hF;refine zY q84 ?_;refine za ?_;refine zb ?_;refine thn ⟨_,(inj hF).symm,rfl,?_⟩;dsimp only
      exact ⟨F63,rfl,le63,st,gA,gA⟩
    ·have hF:=zA hb78 hF;refine z6 ?_;refine th_e ?_;refine th_e ?_;refine ⟨_,(inj hF).symm,.inr (⟨_,rfl,rfl,rfl,?_⟩)⟩;dsimp only
     exact ⟨F63,rfl,le63,st,gA⟩
   ·rcases hq with hq | hq
    ·obtain ⟨N9,T,ds75⟩:=a;obtain ⟨h87,n88⟩:=σ;obtain ⟨w74,rfl,rfl,e1,F75,e2,le75,st,t2⟩:=hq
     dsimp only at e1 e2
     subst e1
     subst e2
     dsimp only at st t2
     have hF:=yM hF;refine ib_r ?_;refine th_r ?_;obtain rfl:=inj hF
     exact zJ st (Res.t gA Res.nil) rfl rfl
    ·obtain ⟨N9,T,ds77⟩:=a;obtain ⟨h91,n92⟩:=σ;obtain ⟨w76,rfl,rfl,e1,F77,e2,le77,st,t1⟩:=hq
     dsimp only at e1 e2
     subst e1
     subst e2
     dsimp only at st t1
     have le89:=PH.le.trans le61 le77
     have hF:=yL hF;refine ib_e ?_;refine th_n ?_;refine zd ?_;refine zd (zg ?_);refine za ?_;refine zb (th_n ?_);refine zx ?_;obtain ⟨y381,hy,hF⟩:=zj hF;refine zW (sf73_L4 N a0_0 a0_2) (fun x93 T ds94 h nx=>∃ (F94:PH),ds94 = [] ∧ PH.le F77 F94 ∧ St n0 h0 F0 F94 h nx [.bx b1 [(.slice pa0_0 (a0_0).length ca0_0),(i64 a0_1),(.slice pa0_2 (a0_2).length ca0_2)]] ∧ T.get 1 = some (.ptr (some (b1,0))) ∧ T.get 4 = some (i64 x93)) (fun y e a σ=>(∃ u,y = (.inl u) ∧ e = .ret ∧ a.nt = 105 ∧ ∃ (F383:PH),a.defers = [] ∧ PH.le F77 F383 ∧ St n0 h0 F0 F383 σ.h σ.nx [.bx b1 [(.slice pa0_0 (a0_0).length ca0_0),(i64 a0_1),(.slice pa0_2 (a0_2).length ca0_2)]] ∧ a.tmps.get 2 = some (i64 u)) ∨ (∃ u,y = (.inr u) ∧ e = .exit 2 ∧ a.nt = 105 ∧ ∃ (F385:PH),a.defers = [] ∧ PH.le F77 F385 ∧ St n0 h0 F0 F385 σ.h σ.nx [.bx b1 [(.slice pa0_0 (a0_0).length ca0_0),(i64 a0_1),(.slice pa0_2 (a0_2).length ca0_2)]])) (fun x93 T ds94 h nx s hp hF=>?_) N _ y381 _ _ _ _ hy ⟨F77,rfl,(PH.le.refl _),st,gA,gA⟩ (fun e a σ hne hq=>?_)
     ·obtain ⟨F94,rfl,le94,st,t1,t4⟩:=hp
      have le95:=PH.le.trans le89 le94
      unfold sf73_L4 at hF;unfold L73w2;refine zd ?_;refine zd (zg ?_);refine za ?_;refine v_fa ?_;refine zq (st.at (i:=0) rfl).2.2 rfl ?_;refine z2 ?_;refine yc ?_;refine zb (th_n ?_);refine zE (fun hb386=>?_) (fun hb386=>?_)
      ·have hF:=zy hb386 hF;refine zF (th_n ?_);refine zd ?_;refine zx ?_;refine zd (zg ?_);refine v_fa ?_;refine zq (st.at (i:=0) rfl).2.2 rfl ?_;refine za ?_;obtain ⟨n387,x387,z387,l387,g387,hF⟩:=zO hF;obtain ⟨b387,o387,s387,j387,r387,e387,f387,k387,⟨_,_,rfl,rfl,⟨_,_,rfl,rfl,⟨py388,cy388,rfl,ry388⟩⟩⟩⟩:=RowF.get ra0_2 g387;refine z9 e387 z387 l387 ?_;refine zM (st.sub _ _ (le95 _ _ f387)) k387 ?_;refine zQ st (fun b389 h390 n391 st=>?_);refine v_st (cs':=[(i64 x387.1),(i64 x387.2.1),(.slice py388 (x387.2.2).length cy388)]) st 1 rfl rfl rfl rfl hfl (fun h392 st=>?_);refine zb ?_
       refine th_n ?_;refine zd ?_;refine zd (zg ?_);refine v_fa ?_;refine zM (vs:=[(i64 x387.1),(i64 x387.2.1)]) (st.at (i:=1) rfl).2.2 rfl ?_;obtain ⟨v393,e394,hF⟩:=zj hF;refine zT st (ct90 N e394 st.d st.sub ) (fun n395 st=>?_);refine yv ?_;refine zb (th_n ?_);refine zE (fun hb396=>?_) (fun hb396=>?_)
       ·have hF:=zy hb396 hF;refine zd (zg ?_);refine za ?_;refine zb (th_n ?_);refine zD ?_;refine th_r ?_;refine ib_r ?_;refine th_r ?_;refine th_r ?_;refine ⟨_,(inj hF).symm,.inl ⟨_,rfl,rfl,rfl,?_⟩⟩;dsimp only
        exact ⟨F94,rfl,le94,(st.drop (by first | exact List.Sublist.refl _ | (repeat first | exact List.nil_sublist _ | refine List.Sublist.cons_cons _ ?_ | refine List.Sublist.cons _ ?_))),gA⟩
       ·have hF:=zA hb396 hF;refine zF (th_n ?_);refine zd (zg ?_);refine za ?_;refine zb (th_n ?_);refine zx ?_;obtain ⟨y527,hy,hF⟩:=zj hF;refine zW (sf73_L3 N a0_0 x387) (fun x397 T ds398 h nx=>∃ (F398:PH),ds398 = [] ∧ PH.le F94 F398 ∧ St n0 h0 F0 F398 h nx [.bx b1 [(.slice pa0_0 (a0_0).length ca0_0),(i64 a0_1),(.slice pa0_2 (a0_2).length ca0_2)],.bx b389 [(i64 x387.1),(i64 x387.2.1),(.slice py388 (x387.2.2).length cy388)]] ∧ T.get 1 = some (.ptr (some (b1,0))) ∧ T.get 4 = some (i64 x93) ∧ T.get 5 = some (.ptr (some (b389,0))) ∧ T.get 6 = some (i64 x397)) (fun y e a σ=>(∃ u,y = (.inl u) ∧ e = .ret ∧ a.nt = 105 ∧ ∃ (F529:PH),a.defers = [] ∧ PH.le F94 F529 ∧ St n0 h0 F0 F529 σ.h σ.nx [.bx b1 [(.slice pa0_0 (a0_0).length ca0_0),(i64 a0_1),(.slice pa0_2 (a0_2).length ca0_2)],.bx b389 [(i64 x387.1),(i64 x387.2.1),(.slice py388 (x387.2.2).length cy388)]] ∧ a.tmps.get 2 = some (i64 u)) ∨ (∃ u,y = (.inr u) ∧ e = .exit 4 ∧ a.nt = 105 ∧ ∃ (F531:PH),a.defers = [] ∧ PH.le F94 F531 ∧ St n0 h0 F0 F531 σ.h σ.nx [.bx b1 [(.slice pa0_0 (a0_0).length ca0_0),(i64 a0_1),(.slice pa0_2 (a0_2).length ca0_2)],.bx b389 [(i64 x387.1),(i64 x387.2.1),(.slice py388 (x387.2.2).length cy388)]] ∧ a.tmps.get 1 = some (.ptr (some (b1,0))) ∧ a.tmps.get 4 = some (i64 x93))) (fun x397 T ds398 h nx s hp hF=>?_) N _ y527 _ _ _ _ hy ⟨F94,rfl,(PH.le.refl _),st,gA,gA,gA,gA⟩ (fun e a σ hne hq=>?_)
        ·obtain ⟨F398,rfl,le398,st,t1,t4,t5,t6⟩:=hp
         have le399:=PH.le.trans le95 le398
         unfold sf73_L3 at hF;unfold L73w1;refine zd ?_;refine zd (zg ?_);refine za ?_;refine v_fa ?_;refine zq (st.at (i:=1) rfl).2.2 rfl ?_;refine z2 ?_;refine yc ?_;refine zb (th_n ?_);refine zE (fun hb532=>?_) (fun hb532=>?_)
         ·have hF:=zy hb532 hF;refine zF (th_n ?_);refine zd ?_;refine zx ?_;obtain ⟨y565,hA566,hF⟩:=zj hF;refine yt (fun T ds571 h nx=>∃ u,y565 = (.inr u) ∧ ∃ (F571:PH),ds571 = [] ∧ PH.le F398 F571 ∧ St n0 h0 F0 F571 h nx [.bx b1 [(.slice pa0_0 (a0_0).length ca0_0),(i64 a0_1),(.slice pa0_2 (a0_2).length ca0_2)],.bx b389 [(i64 x387.1),(i64 x387.2.1),(.slice py388 (x387.2.2).length cy388)]] ∧ T.get 1 = some (.ptr (some (b1,0))) ∧ T.get 4 = some (i64 x93) ∧ T.get 5 = some (.ptr (some (b389,0))) ∧ T.get 6 = some (i64 x397)) ?_ (fun T ds571 h nx hp=>?_)
          ·have hK567:=hF
           have hF:=hA566;obtain ⟨y583,hA584,hF⟩:=zj hF;refine yt (fun T ds586 h nx=>∃ (F586:PH),ds586 = [] ∧ PH.le F398 F586 ∧ St n0 h0 F0 F586 h nx [.bx b1 [(.slice pa0_0 (a0_0).length ca0_0),(i64 a0_1),(.slice pa0_2 (a0_2).length ca0_2)],.bx b389 [(i64 x387.1),(i64 x387.2.1),(.slice py388 (x387.2.2).length cy388)]] ∧ T.get 1 = some (.ptr (some (b1,0))) ∧ T.get 4 = some (i64 x93) ∧ T.get 5 = some (.ptr (some (b389,0))) ∧ T.get 6 = some (i64 x397) ∧ T.get 86 = some (.bool y583)) ?_ (fun T ds586 h nx hp=>?_)
           ·have hK585:=hF
            have hF:=hA584;refine yn (Nat.le_trans hfl st.ext.le) (fun dw=>?_);refine vd st.d dw rfl (fun h587 ex vs=>?_)
            have st:=st.ext1 ex
            refine v_fa ?_;refine zq (st.at (i:=1) rfl).2.2 rfl ?_;refine za ?_;obtain ⟨n588,x588,z588,l588,g588,hF⟩:=zO hF;obtain ⟨b588,o588,s588,j588,r588,e588,f588,k588,⟨_,_,rfl,rfl,rfl⟩⟩:=RowF.get ry388 g588;refine z9 e588 z588 l588 ?_;refine v_fa ?_;refine zq (st.sub _ _ (le399 _ _ f588)) (yk (j:=0) k588 rfl) ?_;refine v_fa ?_;refine zq (st.at (i:=0) rfl).2.2 rfl ?_;refine z2 ?_;obtain ⟨q589,hF⟩:=zn hF;refine v_sub q589 ?_;obtain ⟨v590,e591,hF⟩:=zj hF;refine zT st (ct32 N e591 st.d st.sub ) (fun n592 st=>?_);refine yv ?_;refine za ?_
            rcases Bool.eq_false_or_eq_true (!v590) with hb593 | hb593
            ·have hF:=zy hb593 hF;refine zf hb593 ?_;refine zf hb593 ?_;refine zf hb593 ?_;refine zf hb593 ?_;refine zf hb593 ?_;refine zf hb593 ?_;refine zf hb593 ?_;refine zf hb593 ?_;refine zK hb593 ?_;refine zb ?_;obtain rfl:=inj hF;refine thn ⟨rfl,?_⟩;dsimp only
             exact ⟨F398,rfl,(PH.le.refl _),st,gA,gA,gA,gA,gA⟩
            ·have hF:=zA hb593 hF;refine zk hb593 (v_fa ?_);refine zk hb593 (zq (st.at (i:=1) rfl).2.2 rfl ?_);refine zk hb593 (za ?_);obtain ⟨n594,x594,z594,l594,g594,hF⟩:=zO hF;obtain ⟨b594,o594,s594,j594,r594,e594,f594,k594,⟨_,_,rfl,rfl,rfl⟩⟩:=RowF.get ry388 g594;refine zk hb593 (z9 e594 z594 l594 ?_);refine zk hb593 (v_fa ?_);refine zk hb593 (zq (st.sub _ _ (le399 _ _ f594)) (yk (j:=1) k594 rfl) ?_);obtain ⟨v595,e596,hF⟩:=zj hF;refine zk hb593 (zT st (ct32 N e596 st.d st.sub ) (fun n597 st=>?_));refine zk hb593 (yv ?_);refine zI hb593 ?_;refine zb ?_;obtain rfl:=inj hF
             refine thn ⟨rfl,?_⟩;dsimp only
             exact ⟨F398,rfl,(PH.le.refl _),st,gA,gA,gA,gA,gA⟩
           ·obtain ⟨F586,rfl,le586,st,t1,t4,t5,t6,t86⟩:=hp
            have le602:=PH.le.trans le398 le586
            refine zE (fun hb603=>?_) (fun hb603=>?_)
            ·have hF:=zy hb603 hF;refine zd (zg ?_);refine za ?_;refine zb (th_n ?_);refine zD ?_;obtain rfl:=inj hF;have hF:=hK567;have hF:=yM hF;refine th_r ?_;refine ib_r ?_;refine th_r ?_;refine th_r ?_;refine ⟨_,(inj hF).symm,.inl ⟨_,rfl,rfl,rfl,?_⟩⟩;dsimp only
             exact ⟨F586,rfl,le602,st,gA⟩
            ·have hF:=zA hb603 hF;refine zF ?_;obtain rfl:=inj hF;refine thn ⟨rfl,_,rfl,?_⟩;dsimp only
             exact ⟨F586,rfl,le586,st,gA,gA,gA,gA⟩
          ·obtain ⟨w570,rfl,F571,rfl,le571,st,t1,t4,t5,t6⟩:=hp;have hF:=yL hF
           have le609:=PH.le.trans le399 le571
           have le613:=PH.le.trans le398 le571
           refine zd (zg ?_);refine za ?_;refine zb (th_n ?_);refine zx ?_;obtain ⟨y628,hy,hF⟩:=zj hF;refine zW (sf73_L2 x387 x397) (fun x614 T ds615 h nx=>∃ (F615:PH),ds615 = [] ∧ PH.le F571 F615 ∧ St n0 h0 F0 F615 h nx [.bx b1 [(.slice pa0_0 (a0_0).length ca0_0),(i64 a0_1),(.slice pa0_2 (a0_2).length ca0_2)],.bx b389 [(i64 x387.1),(i64 x387.2.1),(.slice py388 (x387.2.2).length cy388)]] ∧ T.get 1 = some (.ptr (some (b1,0))) ∧ T.get 4 = some (i64 x93) ∧ T.get 5 = some (.ptr (some (b389,0))) ∧ T.get 6 = some (i64 x397) ∧ T.get 7 = some (i64 x614)) (fun y e a σ=>(∃ u,y = (.inl u) ∧ e = .ret ∧ a.nt = 105 ∧ ∃ (F630:PH),a.defers = [] ∧ PH.le F571 F630 ∧ St n0 h0 F0 F630 σ.h σ.nx [.bx b1 [(.slice pa0_0 (a0_0).length ca0_0),(i64 a0_1),(.slice pa0_2 (a0_2).length ca0_2)],.bx b389 [(i64 x387.1),(i64 x387.2.1),(.slice py388 (x387.2.2).length cy388)]] ∧ a.tmps.get 2 = some (i64 u)) ∨ (∃ u,y = (.inr u) ∧ e = .exit 6 ∧ a.nt = 105 ∧ ∃ (F632:PH),a.defers = [] ∧ PH.le F571 F632 ∧ St n0 h0 F0 F632 σ.h σ.nx [.bx b1 [(.slice pa0_0 (a0_0).length ca0_0),(i64 a0_1),(.slice pa0_2 (a0_2).length ca0_2)],.bx b389 [(i64 x387.1),(i64 x387.2.1),(.slice py388 (x387.2.2).length cy388)]] ∧ a.tmps.get 1 = some (.ptr (some (b1,0))) ∧ a.tmps.get 4 = some (i64 x93) ∧ a.tmps.get 5 = some (.ptr (some (b389,0))) ∧ a.tmps.get 6 = some (i64 x397))) (fun x614 T ds615 h nx s hp hF=>?_) N _ y628 _ _ _ _ hy ⟨F571,rfl,(PH.le.refl _),st,gA,gA,gA,gA,gA⟩ (fun e a σ hne hq=>?_)
           ·obtain ⟨F615,rfl,le615,st,t1,t4,t5,t6,t7⟩:=hp
            have le616:=PH.le.trans le609 le615
            unfold sf73_L2 at hF;unfold L73w0;refine zd ?_;refine zd (zg ?_);refine za ?_;refine za ?_;refine yc ?_;refine zb (th_n ?_);refine zE (fun hb633=>?_) (fun hb633=>?_)
            ·have hF:=zy hb633 hF;refine zF (th_n ?_);refine zd ?_;refine zx ?_;refine zd ?_;refine yn (Nat.le_trans hfl st.ext.le) (fun dw=>?_);refine vd st.d dw rfl (fun h634 ex vs=>?_)
             have st:=st.ext1 ex
             refine v_fa ?_;refine zq (st.at (i:=1) rfl).2.2 rfl ?_;refine za ?_;obtain ⟨n635,x635,z635,l635,g635,hF⟩:=zO hF;obtain ⟨b635,o635,s635,j635,r635,e635,f635,k635,⟨_,_,rfl,rfl,rfl⟩⟩:=RowF.get ry388 g635;refine z9 e635 z635 l635 ?_;refine v_fa ?_;refine zq (st.sub _ _ (le616 _ _ f635)) (yk (j:=0) k635 rfl) ?_;refine v_fa ?_;refine zq (st.at (i:=1) rfl).2.2 rfl ?_;refine za ?_;obtain ⟨n636,x636,z636,l636,g636,hF⟩:=zO hF;obtain ⟨b636,o636,s636,j636,r636,e636,f636,k636,⟨_,_,rfl,rfl,rfl⟩⟩:=RowF.get ry388 g636;refine z9 e636 z636 l636 ?_;refine v_fa ?_;refine zq (st.sub _ _ (le616 _ _ f636)) (yk (j:=0) k636 rfl) ?_
             refine jz ?_;refine zb (th_n ?_);refine zE (fun hb637=>?_) (fun hb637=>?_)
             ·have hF:=zy hb637 hF;refine zd (zg ?_);refine za ?_;refine zb (th_n ?_);refine zD ?_;refine ib_r ?_;refine th_r ?_;refine th_r ?_;refine ⟨_,(inj hF).symm,.inl ⟨_,rfl,rfl,rfl,?_⟩⟩;dsimp only
              exact ⟨F615,rfl,le615,st,gA⟩
             ·have hF:=zA hb637 hF;refine zF ?_;refine ib_n ?_;refine th_n ?_;refine zg ?_;refine za ?_;obtain ⟨q638,hF⟩:=zn hF;refine zY q638 ?_;refine za ?_;refine zb ?_;refine thn ⟨_,(inj hF).symm,rfl,?_⟩;dsimp only
              exact ⟨F615,rfl,le615,st,gA,gA,gA,gA,gA⟩
            ·have hF:=zA hb633 hF;refine z6 ?_;refine th_e ?_;refine th_e ?_;refine ⟨_,(inj hF).symm,.inr (⟨_,rfl,rfl,rfl,?_⟩)⟩;dsimp only
             exact ⟨F615,rfl,le615,st,gA,gA,gA,gA⟩
           ·rcases hq with hq | hq
            ·obtain ⟨N9,T,ds630⟩:=a;obtain ⟨h645,n646⟩:=σ;obtain ⟨w629,rfl,rfl,e1,F630,e2,le630,st,t2⟩:=hq
             dsimp only at e1 e2
             subst e1
             subst e2
             dsimp only at st t2
             have le643:=PH.le.trans le613 le630
             have hF:=yM hF;refine ib_r ?_;refine ib_r ?_;refine th_r ?_;refine th_r ?_;refine ⟨_,(inj hF).symm,.inl ⟨_,rfl,rfl,rfl,?_⟩⟩;dsimp only
             exact ⟨F630,rfl,le643,st,gA⟩
            ·obtain ⟨N9,T,ds632⟩:=a;obtain ⟨h653,n654⟩:=σ;obtain ⟨w631,rfl,rfl,e1,F632,e2,le632,st,t1,t4,t5,t6⟩:=hq
             dsimp only at e1 e2
             subst e1
             subst e2
             dsimp only at st t1 t4 t5 t6
             have le651:=PH.le.trans le613 le632
             have hF:=yL hF;refine ib_e ?_;refine ib_n ?_;refine th_n ?_;refine zg ?_;refine za ?_;obtain ⟨q655,hF⟩:=zn hF;refine zY q655 ?_;refine za ?_;refine zb ?_;refine thn ⟨_,(inj hF).symm,rfl,?_⟩;dsimp only
             exact ⟨F632,rfl,le651,st,gA,gA,gA,gA⟩
         ·have hF:=zA hb532 hF;refine z6 ?_;refine th_e ?_;refine th_e ?_;refine ⟨_,(inj hF).symm,.inr (⟨_,rfl,rfl,rfl,?_⟩)⟩;dsimp only
          exact ⟨F398,rfl,le398,st,gA,gA⟩
        ·rcases hq with hq | hq
         ·obtain ⟨N9,T,ds529⟩:=a;obtain ⟨h660,n661⟩:=σ;obtain ⟨w528,rfl,rfl,e1,F529,e2,le529,st,t2⟩:=hq
          dsimp only at e1 e2
          subst e1
          subst e2
          dsimp only at st t2
          have le659:=PH.le.trans le94 le529
          have hF:=yM hF;refine ib_r ?_;refine ib_r ?_;refine th_r ?_;refine th_r ?_;refine ⟨_,(inj hF).symm,.inl ⟨_,rfl,rfl,rfl,?_⟩⟩;dsimp only
          exact ⟨F529,rfl,le659,(st.drop (by first | exact List.Sublist.refl _ | (repeat first | exact List.nil_sublist _ | refine List.Sublist.cons_cons _ ?_ | refine List.Sublist.cons _ ?_))),gA⟩
         ·obtain ⟨N9,T,ds531⟩:=a;obtain ⟨h666,n667⟩:=σ;obtain ⟨w530,rfl,rfl,e1,F531,e2,le531,st,t1,t4⟩:=hq
          dsimp only at e1 e2
          subst e1
          subst e2
          dsimp only at st t1 t4
          have le665:=PH.le.trans le94 le531
          have hF:=yL hF;refine ib_e ?_;refine ib_n ?_;refine th_n ?_;refine zg ?_;refine za ?_;obtain ⟨q668,hF⟩:=zn hF;refine zY q668 ?_;refine za ?_;refine zb ?_;refine thn ⟨_,(inj hF).symm,rfl,?_⟩;dsimp only
          exact ⟨F531,rfl,le665,(st.drop (by first | exact List.Sublist.refl _ | (repeat first | exact List.nil_sublist _ | refine List.Sublist.cons_cons _ ?_ | refine List.Sublist.cons _ ?_))),gA,gA⟩
      ·have hF:=zA hb386 hF;refine z6 ?_;refine th_e ?_;refine th_e ?_;refine ⟨_,(inj hF).symm,.inr (⟨_,rfl,rfl,rfl,?_⟩)⟩;dsimp only
       exact ⟨F94,rfl,le94,st⟩
     ·rcases hq with hq | hq
      ·obtain ⟨N9,T,ds383⟩:=a;obtain ⟨h672,n673⟩:=σ;obtain ⟨w382,rfl,rfl,e1,F383,e2,le383,st,t2⟩:=hq
       dsimp only at e1 e2
       subst e1
       subst e2
       dsimp only at st t2
       have hF:=yM hF;refine ib_r ?_;refine th_r ?_;obtain rfl:=inj hF
       exact zJ st (Res.t gA Res.nil) rfl rfl
      ·obtain ⟨N9,T,ds385⟩:=a;obtain ⟨h677,n678⟩:=σ;obtain ⟨w384,rfl,rfl,e1,F385,e2,le385,st⟩:=hq
       dsimp only at e1 e2
       subst e1
       subst e2
       dsimp only at st
       have hF:=yL hF;refine ib_e ?_;refine th_n ?_;refine zd (zg ?_);refine za ?_;refine zb (th_n ?_);refine zD ?_;obtain rfl:=inj hF
       exact zJ st (Res.t gA Res.nil) rfl rfl
end Go.Hx.V

namespace Go.Hx.V
open Go.Hx
set_option maxRecDepth 20000
set_option maxHeartbeats 4000000
variable {fl : Nat} {h0 : Tr HBlk} {n0 : Nat} {F0 : PH}
attribute [local irreducible] W R C thenH inBlockH Tr.get Tr.set lo ck bnd ix iter
theorem ct101 (N:Nat) {a0_0:(List (Int × Int))} {a0_1:Int} {a0_2:(List (Int × Int × (List (Int × Int))))} {a1_0 a1_1:Int} {a1_2:(List (Int × Int))} {r:Bool} (hF:sf101 N a0_0 a0_1 a0_2 a1_0 a1_1 a1_2 = some r) (hd:D h0 n0) (hs:F0.sub h0) {pa0_0:Option (Nat × Nat)} {ca0_0:Nat} {pa0_2:Option (Nat × Nat)} {ca0_2:Nat} {pa1_2:Option (Nat × Nat)} {ca1_2:Nat} (ra0_0:RowF (rP rI rI) 2 F0 pa0_0 ca0_0 a0_0) (ra0_2:RowF (rP rI (rP rI (rL (rP rI rI) 2))) 3 F0 pa0_2 ca0_2 a0_2) (ra1_2:RowF (rP rI rI) 2 F0 pa1_2 ca1_2 a1_2):C LW fl 101 [(.agg [(.slice pa0_0 (a0_0).length ca0_0),(i64 a0_1),(.slice pa0_2 (a0_2).length ca0_2)]),(.agg [(i64 a1_0),(i64 a1_1),(.slice pa1_2 (a1_2).length ca1_2)])] ⟨h0,n0⟩ (KS (.bool r) n0 h0):=by
 unfold sf101 at hF
 refine yg hd hs lw101 rfl rfl (by rfl) (fun st T hT=>?_)
 have hfl:n0 ≤ n0:=Nat.le_refl n0
 have t0:=hT 0 _ rfl
 have t1:=hT 1 _ rfl
 dsimp only [L101]
 refine zd (zg ?_);refine yi st (fun b1 h2 n3 st=>?_);refine yi st (fun b4 h5 n6 st=>?_);refine za ?_;refine zb (th_n ?_);refine zd (zg ?_);refine v_fa ?_;refine zM (vs:=[(i64 a1_0),(i64 a1_1)]) (st.at (i:=1) rfl).2.2 rfl ?_;obtain ⟨v7,e8,hF⟩:=zj hF;refine zT st (ct113 N e8 st.d st.sub ) (fun n9 st=>?_);refine za ?_
 rcases Bool.eq_false_or_eq_true v7 with hb10 | hb10
 ·have hF:=zy hb10 hF;refine zk hb10 (v_fa ?_);refine zk hb10 (zq (st.at (i:=1) rfl).2.2 rfl ?_);refine zk hb10 (zM (vs:=[(.slice pa0_0 (a0_0).length ca0_0),(i64 a0_1),(.slice pa0_2 (a0_2).length ca0_2)]) (st.at (i:=0) rfl).2.2 rfl ?_);refine zk hb10 (v_mf ?_);obtain ⟨v11,e12,hF⟩:=zj hF;refine zk hb10 (zT st (ct124 N e12 st.d st.sub ra1_2 ra0_0 ra0_2) (fun n13 st=>?_));refine zK hb10 ?_;refine za ?_
  rcases Bool.eq_false_or_eq_true v11 with hb14 | hb14
  ·have hF:=zy hb14 hF;refine zk hb14 (zM (vs:=[(i64 a1_0),(i64 a1_1),(.slice pa1_2 (a1_2).length ca1_2)]) (st.at (i:=1) rfl).2.2 rfl ?_);obtain ⟨v15,e16,hF⟩:=zj hF;refine zk hb14 (zT st (ct126 N e16 st.d st.sub ra1_2) (fun n17 st=>?_));refine zK hb14 ?_;refine za ?_;refine zb (th_n ?_);refine zD ?_;obtain rfl:=inj hF
   exact zJ st (Res.t gA Res.nil) rfl rfl
  ·have hF:=zA hb14 hF;refine zf hb14 ?_;refine zf hb14 ?_;refine zI hb14 ?_;refine za ?_;refine zb (th_n ?_);refine zD ?_;obtain rfl:=inj hF
   exact zJ st (Res.t gA Res.nil) rfl rfl
 ·have hF:=zA hb10 hF;refine zf hb10 ?_;refine zf hb10 ?_;refine zf hb10 ?_;refine zf hb10 ?_;refine zf hb10 ?_;refine zI hb10 ?_;refine za ?_;refine zf rfl ?_;refine zf rfl ?_;refine zI rfl ?_;refine za ?_;refine zb (th_n ?_);refine zD ?_;obtain rfl:=inj hF
  exact zJ st (Res.t gA Res.nil) rfl rfl
theorem ct25 (N:Nat) {a0_0:(List (Int × Int))} {a0_1:Int} {a0_2:(List (Int × Int × (List (Int × Int))))} {r:Int} (hF:sf25 N a0_0 a0_1 a0_2 = some r) (hd:D h0 n0) (hs:F0.sub h0) {pa0_0:Option (Nat × Nat)} {ca0_0:Nat} {pa0_2:Option (Nat × Nat)} {ca0_2:Nat} (ra0_0:RowF (rP rI rI) 2 F0 pa0_0 ca0_0 a0_0) (ra0_2:RowF (rP rI (rP rI (rL (rP rI rI) 2))) 3 F0 pa0_2 ca0_2 a0_2):C LW fl 25 [(.agg [(.slice pa0_0 (a0_0).length ca0_0),(i64 a0_1),(.slice pa0_2 (a0_2).length ca0_2)])] ⟨h0,n0⟩ (KS (i64 r) n0 h0):=by
 unfold sf25 at hF
 refine yg hd hs lw25 rfl rfl (by rfl) (fun st T hT=>?_)
 have hfl:n0 ≤ n0:=Nat.le_refl n0
 have t0:=hT 0 _ rfl
 dsimp only [L25]
 refine zd (zg ?_);refine yi st (fun b1 h2 n3 st=>?_);refine za ?_;refine zb (th_n ?_);refine zd (zg ?_);refine zM (vs:=[(.slice pa0_0 (a0_0).length ca0_0),(i64 a0_1),(.slice pa0_2 (a0_2).length ca0_2)]) (st.at (i:=0) rfl).2.2 rfl ?_;obtain ⟨v4,e5,hF⟩:=zj hF;refine zT st (ct73 N e5 st.d st.sub ra0_0 ra0_2) (fun n6 st=>?_);refine za ?_;refine zb (th_n ?_);refine zD ?_;obtain rfl:=inj hF
 exact zJ st (Res.t gA Res.nil) rfl rfl
end Go.Hx.V

namespace Go.Hx.V
open Go.Hx
set_option maxRecDepth 20000
set_option maxHeartbeats 4000000
variable {fl : Nat} {h0 : Tr HBlk} {n0 : Nat} {F0 : PH}
attribute [local irreducible] W R C thenH inBlockH Tr.get Tr.set lo ck bnd ix iter
theorem ct100 (N:Nat) {a0:(List (Int × Int × (List (Int × Int))))} {a1f0_0:(List (Int × Int))} {a1f0_1:Int} {a1f0_2:(List (Int × Int × (List (Int × Int))))} {r:Bool} (hF:sf100 N a0 a1f0_0 a1f0_1 a1f0_2 = some r) (hd:D h0 n0) (hs:F0.sub h0) {pa0:Option (Nat × Nat)} {ca0:Nat} {pa1f0_0:Option (Nat × Nat)} {ca1f0_0:Nat} {pa1f0_2:Option (Nat × Nat)} {ca1f0_2:Nat} (ra0:RowF (rP rI (rP rI (rL (rP rI rI) 2))) 3 F0 pa0 ca0 a0) (ra1f0_0:RowF (rP rI rI) 2 F0 pa1f0_0 ca1f0_0 a1f0_0) (ra1f0_2:RowF (rP rI (rP rI (rL (rP rI rI) 2))) 3 F0 pa1f0_2 ca1f0_2 a1f0_2):C LW fl 100 [(.slice pa0 (a0).length ca0),(.func 101 [(.agg [(.slice pa1f0_0 (a1f0_0).length ca1f0_0),(i64 a1f0_1),(.slice pa1f0_2 (a1f0_2).length ca1f0_2)])] [])] ⟨h0,n0⟩ (KS (.bool r) n0 h0):=by
 unfold sf100 at hF
 refine yg hd hs lw100 rfl rfl (by rfl) (fun st T hT=>?_)
 have hfl:n0 ≤ n0:=Nat.le_refl n0
 have t0:=hT 0 _ rfl
 have t1:=hT 1 _ rfl
 dsimp only [L100]
 refine zd (zg ?_);refine za ?_;refine zb (th_n ?_);refine zd ?_;refine zd (zg ?_);refine za ?_;refine z2 ?_;refine za ?_;refine zb (th_n ?_);refine zx ?_;obtain ⟨y15,hy,hF⟩:=zj hF;refine zW (sf100_L1 N a0 a1f0_0 a1f0_1 a1f0_2) (fun x1 T ds2 h nx=>∃ (F2:PH),ds2 = [] ∧ PH.le F0 F2 ∧ St n0 h0 F0 F2 h nx [] ∧ T.get 1 = some (.func 101 [(.agg [(.slice pa1f0_0 (a1f0_0).length ca1f0_0),(i64 a1f0_1),(.slice pa1f0_2 (a1f0_2).length ca1f0_2)])] []) ∧ T.get 7 = some (.slice pa0 (a0).length ca0) ∧ T.get 8 = some (i64 ((a0).length:Int)) ∧ T.get 9 = some (i64 x1)) (fun y e a σ=>(∃ u,y = (.inl u) ∧ e = .ret ∧ a.nt = 18 ∧ ∃ (F17:PH),a.defers = [] ∧ PH.le F0 F17 ∧ St n0 h0 F0 F17 σ.h σ.nx [] ∧ a.tmps.get 4 = some (.bool false)) ∨ (∃ u,y = (.inr u) ∧ e = .exit 0 ∧ a.nt = 18 ∧ ∃ (F19:PH),a.defers = [] ∧ PH.le F0 F19 ∧ St n0 h0 F0 F19 σ.h σ.nx [])) (fun x1 T ds2 h nx s hp hF=>?_) N _ y15 _ _ _ _ hy ⟨F0,rfl,(PH.le.refl _),st,gA,gA,gA,gA⟩ (fun e a σ hne hq=>?_)
 ·obtain ⟨F2,rfl,le2,st,t1,t7,t8,t9⟩:=hp;unfold sf100_L1 at hF;unfold L100w0;refine zd (zg ?_);refine yc ?_;refine zb (th_n ?_);refine zd ?_;refine zE (fun hb20=>?_) (fun hb20=>?_)
  ·have hF:=zy hb20 hF;refine zF (th_n ?_);refine zd ?_;refine zx ?_;refine zd (zg ?_);obtain ⟨n21,x21,z21,l21,g21,hF⟩:=zO hF;obtain ⟨b21,o21,s21,j21,r21,e21,f21,k21,⟨_,_,rfl,rfl,⟨_,_,rfl,rfl,⟨py22,cy22,rfl,ry22⟩⟩⟩⟩:=RowF.get ra0 g21;refine z9 e21 z21 l21 ?_;refine zM (st.sub _ _ (le2 _ _ f21)) k21 ?_;refine zQ st (fun b23 h24 n25 st=>?_);refine v_st (cs':=[(i64 x21.1),(i64 x21.2.1),(.slice py22 (x21.2.2).length cy22)]) st 0 rfl rfl rfl rfl hfl (fun h26 st=>?_);refine zb (th_n ?_);refine zd (zg ?_);refine za ?_;refine zM (vs:=[(i64 x21.1),(i64 x21.2.1),(.slice py22 (x21.2.2).length cy22)]) (st.at (i:=0) rfl).2.2 rfl ?_
   obtain ⟨v27,e28,hF⟩:=zj hF;refine zT st (ct101 N e28 st.d st.sub (RowF.mono le2 ra1f0_0) (RowF.mono le2 ra1f0_2) (RowF.mono le2 ry22)) (fun n29 st=>?_);refine yv ?_;refine zb (th_n ?_);refine zE (fun hb30=>?_) (fun hb30=>?_)
   ·have hF:=zy hb30 hF;refine zd (zg ?_);refine za ?_;refine zb (th_n ?_);refine zD ?_;refine ib_r ?_;refine th_r ?_;refine th_r ?_;refine ⟨_,(inj hF).symm,.inl ⟨_,rfl,rfl,rfl,?_⟩⟩;dsimp only
    exact ⟨F2,rfl,le2,(st.drop (by first | exact List.Sublist.refl _ | (repeat first | exact List.nil_sublist _ | refine List.Sublist.cons_cons _ ?_ | refine List.Sublist.cons _ ?_))),gA⟩
   ·have hF:=zA hb30 hF;refine zF ?_;refine ib_n ?_;refine th_n ?_;refine zg ?_;obtain ⟨q31,hF⟩:=zn hF;refine zY q31 ?_;refine za ?_;refine zb ?_;refine thn ⟨_,(inj hF).symm,rfl,?_⟩;dsimp only
    exact ⟨F2,rfl,le2,(st.drop (by first | exact List.Sublist.refl _ | (repeat first | exact List.nil_sublist _ | refine List.Sublist.cons_cons _ ?_ | refine List.Sublist.cons _ ?_))),gA,gA,gA,gA⟩
  ·have hF:=zA hb20 hF;refine z6 ?_;refine th_e ?_;refine th_e ?_;refine ⟨_,(inj hF).symm,.inr (⟨_,rfl,rfl,rfl,?_⟩)⟩;dsimp only
   exact ⟨F2,rfl,le2,st⟩
 ·rcases hq with hq | hq
  ·obtain ⟨N9,T,ds17⟩:=a;obtain ⟨h32,n33⟩:=σ;obtain ⟨w16,rfl,rfl,e1,F17,e2,le17,st,t4⟩:=hq
   dsimp only at e1 e2
   subst e1
   subst e2
   dsimp only at st t4
   have hF:=yM hF;refine ib_r ?_;refine th_r ?_;obtain rfl:=inj hF
   exact zJ st (Res.t gA Res.nil) rfl rfl
  ·obtain ⟨N9,T,ds19⟩:=a;obtain ⟨h34,n35⟩:=σ;obtain ⟨w18,rfl,rfl,e1,F19,e2,le19,st⟩:=hq
   dsimp only at e1 e2
   subst e1
   subst e2
   dsimp only at st
   have hF:=yL hF;refine ib_e ?_;refine th_n ?_;refine zd (zg ?_);refine za ?_;refine zb (th_n ?_);refine zD ?_;obtain rfl:=inj hF
   exact zJ st (Res.t gA Res.nil) rfl rfl
theorem ct60 (N:Nat) {a0_0:(List (Int × Int))} {a0_1:Int} {a0_2:(List (Int × Int × (List (Int × Int))))} {r:Bool} (hF:sf60 N a0_0 a0_1 a0_2 = some r) (hd:D h0 n0) (hs:F0.sub h0) {pa0_0:Option (Nat × Nat)} {ca0_0:Nat} {pa0_2:Option (Nat × Nat)} {ca0_2:Nat} (ra0_0:RowF (rP rI rI) 2 F0 pa0_0 ca0_0 a0_0) (ra0_2:RowF (rP rI (rP rI (rL (rP rI rI) 2))) 3 F0 pa0_2 ca0_2 a0_2):C LW fl 60 [(.agg [(.slice pa0_0 (a0_0).length ca0_0),(i64 a0_1),(.slice pa0_2 (a0_2).length ca0_2)])] ⟨h0,n0⟩ (KS (.bool r) n0 h0):=by
 unfold sf60 at hF
 refine yg hd hs lw60 rfl rfl (by rfl) (fun st T hT=>?_)
 have hfl:n0 ≤ n0:=Nat.le_refl n0
 have t0:=hT 0 _ rfl
 dsimp only [L60]
 refine zd (zg ?_);refine yi st (fun b1 h2 n3 st=>?_);refine za ?_;refine zb (th_n ?_);refine zd (zg ?_);refine zM (vs:=[(.slice pa0_0 (a0_0).length ca0_0),(i64 a0_1),(.slice pa0_2 (a0_2).length ca0_2)]) (st.at (i:=0) rfl).2.2 rfl ?_;obtain ⟨v4,e5,hF⟩:=zj hF;refine zT st (ct19 N e5 st.d st.sub ra0_0 ra0_2) (fun n6 st=>?_);refine za ?_
 rcases Bool.eq_false_or_eq_true v4 with hb7 | hb7
 ·have hF:=zy hb7 hF;refine zk hb7 (zM (vs:=[(.slice pa0_0 (a0_0).length ca0_0),(i64 a0_1),(.slice pa0_2 (a0_2).length ca0_2)]) (st.at (i:=0) rfl).2.2 rfl ?_);obtain ⟨v8,e9,hF⟩:=zj hF;refine zk hb7 (zT st (ct25 N e9 st.d st.sub ra0_0 ra0_2) (fun n10 st=>?_));refine zk hb7 (jz ?_);refine zK hb7 ?_;refine za ?_;refine zb (th_n ?_);refine zD ?_;obtain rfl:=inj hF
  exact zJ st (Res.t gA Res.nil) rfl rfl
 ·have hF:=zA hb7 hF;refine zf hb7 ?_;refine zf hb7 ?_;refine zf hb7 ?_;refine zI hb7 ?_;refine za ?_;refine zb (th_n ?_);refine zD ?_;obtain rfl:=inj hF
  exact zJ st (Res.t gA Res.nil) rfl rfl
end Go.Hx.V

namespace Go.Hx.V
open Go.Hx
set_option maxRecDepth 20000
set_option maxHeartbeats 4000000
variable {fl : Nat} {h0 : Tr HBlk} {n0 : Nat} {F0 : PH}
attribute [local irreducible] W R C thenH inBlockH Tr.get Tr.set lo ck bnd ix iter
theorem ct69 (N:Nat) {a0_0:(List (Int × Int))} {a0_1:Int} {a0_2:(List (Int × Int × (List (Int × Int))))} {r:Bool} (hF:sf69 N a0_0 a0_1 a0_2 = some r) (hd:D h0 n0) (hs:F0.sub h0) {pa0_0:Option (Nat × Nat)} {ca0_0:Nat} {pa0_2:Option (Nat × Nat)} {ca0_2:Nat} (ra0_0:RowF (rP rI rI) 2 F0 pa0_0 ca0_0 a0_0) (ra0_2:RowF (rP rI (rP rI (rL (rP rI rI) 2))) 3 F0 pa0_2 ca0_2 a0_2):C LW fl 69 [(.agg [(.slice pa0_0 (a0_0).length ca0_0),(i64 a0_1),(.slice pa0_2 (a0_2).length ca0_2)])] ⟨h0,n0⟩ (KS (.bool r) n0 h0):=by
 unfold sf69 at hF
 refine yg hd hs lw69 rfl rfl (by rfl) (fun st T hT=>?_)
 have hfl:n0 ≤ n0:=Nat.le_refl n0
 have t0:=hT 0 _ rfl
 dsimp only [L69]
 refine zd (zg ?_);refine yi st (fun b1 h2 n3 st=>?_);refine za ?_;refine zb (th_n ?_);refine zd (zg ?_);refine v_fa ?_;refine zq (st.at (i:=0) rfl).2.2 rfl ?_;refine z2 ?_;refine jg ?_;refine za ?_
 rcases Bool.eq_false_or_eq_true (decide ((0:Int) < ((a0_0).length:Int))) with hb4 | hb4
 ·have hF:=zy hb4 hF;refine zk hb4 (v_fa ?_);refine zk hb4 (zq (st.at (i:=0) rfl).2.2 rfl ?_);obtain ⟨v5,e6,hF⟩:=zj hF;refine zk hb4 (zT st (ct98 N e6 st.d st.sub ra0_0) (fun n7 st=>?_));refine zK hb4 ?_;refine za ?_
  rcases Bool.eq_false_or_eq_true v5 with hb8 | hb8
  ·have hF:=zy hb8 hF;refine zk hb8 (v_fa ?_);refine zk hb8 (zq (st.at (i:=0) rfl).2.2 rfl ?_);refine zk hb8 (vL ?_);refine zK hb8 ?_;refine za ?_
   rcases Bool.eq_false_or_eq_true (decide ((0:Int) ≤ a0_1)) with hb9 | hb9
   ·have hF:=zy hb9 hF;refine zk hb9 (v_fa ?_);refine zk hb9 (zq (st.at (i:=0) rfl).2.2 rfl ?_);refine zk hb9 (vL ?_);refine zK hb9 ?_;refine za ?_
    rcases Bool.eq_false_or_eq_true (decide (a0_1 ≤ (20:Int))) with hb10 | hb10
    ·have hF:=zy hb10 hF;refine zk hb10 (v_fa ?_);refine zk hb10 (zq (st.at (i:=0) rfl).2.2 rfl ?_);refine zk hb10 (zM (vs:=[(.slice pa0_0 (a0_0).length ca0_0),(i64 a0_1),(.slice pa0_2 (a0_2).length ca0_2)]) (st.at (i:=0) rfl).2.2 rfl ?_);refine zk hb10 (v_mf ?_);obtain ⟨v11,e12,hF⟩:=zj hF;refine zk hb10 (zT st (ct100 N e12 st.d st.sub ra0_2 ra0_0 ra0_2) (fun n13 st=>?_));refine zK hb10 ?_;refine za ?_;refine zb (th_n ?_);refine zD ?_;obtain rfl:=inj hF
     exact zJ st (Res.t gA Res.nil) rfl rfl
    ·have hF:=zA hb10 hF;refine zf hb10 ?_;refine zf hb10 ?_;refine zf hb10 ?_;refine zf hb10 ?_;refine zf hb10 ?_;refine zI hb10 ?_;refine za ?_;refine zb (th_n ?_);refine zD ?_;obtain rfl:=inj hF
     exact zJ st (Res.t gA Res.nil) rfl rfl
   ·have hF:=zA hb9 hF;refine zf hb9 ?_;refine zf hb9 ?_;refine zf hb9 ?_;refine zI hb9 ?_;refine za ?_;refine zf rfl ?_;refine zf rfl ?_;refine zf rfl ?_;refine zf rfl ?_;refine zf rfl ?_;refine zI rfl ?_;refine za ?_;refine zb (th_n ?_);refine zD ?_;obtain rfl:=inj hF
    exact zJ st (Res.t gA Res.nil) rfl rfl
  ·have hF:=zA hb8 hF;refine zf hb8 ?_;refine zf hb8 ?_;refine zf hb8 ?_;refine zI hb8 ?_;refine za ?_;refine zf rfl ?_;refine zf rfl ?_;refine zf rfl ?_;refine zI rfl ?_;refine za ?_;refine zf rfl ?_;refine zf rfl ?_;refine zf rfl ?_;refine zf rfl ?_;refine zf rfl ?_;refine zI rfl ?_;refine za ?_;refine zb (th_n ?_);refine zD ?_;obtain rfl:=inj hF
   exact zJ st (Res.t gA Res.nil) rfl rfl
 ·have hF:=zA hb4 hF;refine zf hb4 ?_;refine zf hb4 ?_;refine zf hb4 ?_;refine zI hb4 ?_;refine za ?_;refine zf rfl ?_;refine zf rfl ?_;refine zf rfl ?_;refine zI rfl ?_;refine za ?_;refine zf rfl ?_;refine zf rfl ?_;refine zf rfl ?_;refine zI rfl ?_;refine za ?_;refine zf rfl ?_;refine zf rfl ?_;refine zf rfl ?_;refine zf rfl ?_;refine zf rfl ?_;refine zI rfl ?_;refine za ?_;refine zb (th_n ?_);refine zD ?_;obtain rfl:=inj hF
  exact zJ st (Res.t gA Res.nil) rfl rfl
end Go.Hx.V

namespace Go.Hx.V
open Go.Hx
set_option maxRecDepth 20000
set_option maxHeartbeats 4000000
variable {fl : Nat} {h0 : Tr HBlk} {n0 : Nat} {F0 : PH}
attribute [local irreducible] W R C thenH inBlockH Tr.get Tr.set lo ck bnd ix iter
theorem ct21 (N:Nat) {a0_0:(List (Int × Int))} {a0_1:Int} {a0_2:(List (Int × Int × (List (Int × Int))))} {r:Int} (hF:sf21 N a0_0 a0_1 a0_2 = some r) (hd:D h0 n0) (hs:F0.sub h0) {pa0_0:Option (Nat × Nat)} {ca0_0:Nat} {pa0_2:Option (Nat × Nat)} {ca0_2:Nat} (ra0_0:RowF (rP rI rI) 2 F0 pa0_0 ca0_0 a0_0) (ra0_2:RowF (rP rI (rP rI (rL (rP rI rI) 2))) 3 F0 pa0_2 ca0_2 a0_2):C LW fl 21 [(.agg [(.slice pa0_0 (a0_0).length ca0_0),(i64 a0_1),(.slice pa0_2 (a0_2).length ca0_2)])] ⟨h0,n0⟩ (KS (i64 r) n0 h0):=by
 unfold sf21 at hF
 refine yg hd hs lw21 rfl rfl (by rfl) (fun st T hT=>?_)
 have hfl:n0 ≤ n0:=Nat.le_refl n0
 have t0:=hT 0 _ rfl
 dsimp only [L21]
 refine zd (zg ?_);refine yi st (fun b1 h2 n3 st=>?_);refine za ?_;refine zb (th_n ?_);refine zd ?_;obtain ⟨y5,hA6,hF⟩:=zj hF;refine yt (fun T ds8 h nx=>∃ (F8:PH),ds8 = [] ∧ PH.le F0 F8 ∧ St n0 h0 F0 F8 h nx [.bx b1 [(.slice pa0_0 (a0_0).length ca0_0),(i64 a0_1),(.slice pa0_2 (a0_2).length ca0_2)]] ∧ T.get 1 = some (.ptr (some (b1,0))) ∧ T.get 12 = some (.bool y5)) ?_ (fun T ds8 h nx hp=>?_)
 ·have hK7:=hF
  have hF:=hA6;refine zg ?_;refine v_fa ?_;refine zq (st.at (i:=0) rfl).2.2 rfl ?_;refine z2 ?_;refine jg ?_;refine za ?_
  rcases Bool.eq_false_or_eq_true (decide ((6:Int) < ((a0_0).length:Int))) with hb9 | hb9
  ·have hF:=zy hb9 hF;refine zf hb9 ?_;refine zf hb9 ?_;refine zf hb9 ?_;refine zf hb9 ?_;refine zK hb9 ?_;refine zb ?_;obtain rfl:=inj hF;refine thn ⟨rfl,?_⟩;dsimp only
   exact ⟨F0,rfl,(PH.le.refl _),st,gA,gA⟩
  ·have hF:=zA hb9 hF;refine zk hb9 (v_fa ?_);refine zk hb9 (zq (st.at (i:=0) rfl).2.2 rfl ?_);refine zk hb9 (z2 ?_);refine zk hb9 (jg ?_);refine zI hb9 ?_;refine zb ?_;obtain rfl:=inj hF;refine thn ⟨rfl,?_⟩;dsimp only
   exact ⟨F0,rfl,(PH.le.refl _),st,gA,gA⟩
 ·obtain ⟨F8,rfl,le8,st,t1,t12⟩:=hp;refine zE (fun hb10=>?_) (fun hb10=>?_)
  ·have hF:=zy hb10 hF;refine zd (zg ?_);refine za ?_;refine zb (th_n ?_);refine zD ?_;refine th_r ?_;obtain rfl:=inj hF
   exact zJ st (Res.t gA Res.nil) rfl rfl
  ·have hF:=zA hb10 hF;refine zF (th_n ?_);refine zd ?_;refine zd (zg ?_);refine zM (vs:=[(.slice pa0_0 (a0_0).length ca0_0),(i64 a0_1),(.slice pa0_2 (a0_2).length ca0_2)]) (st.at (i:=0) rfl).2.2 rfl ?_;obtain ⟨v11,e12,hF⟩:=zj hF;refine zT st (ct69 N e12 st.d st.sub (RowF.mono le8 ra0_0) (RowF.mono le8 ra0_2)) (fun n13 st=>?_);refine yv ?_;refine zb (th_n ?_);refine zE (fun hb14=>?_) (fun hb14=>?_)
   ·have hF:=zy hb14 hF;refine zd (zg ?_);refine za ?_;refine zb (th_n ?_);refine zD ?_;refine th_r ?_;obtain rfl:=inj hF
    exact zJ st (Res.t gA Res.nil) rfl rfl
   ·have hF:=zA hb14 hF;refine zF (th_n ?_);refine zd (zg ?_);refine za ?_;refine zb (th_n ?_);refine zD ?_;obtain rfl:=inj hF
    exact zJ st (Res.t gA Res.nil) rfl rfl
end Go.Hx.V

namespace Go.Hx.V
open Go.Hx
set_option maxRecDepth 20000
set_option maxHeartbeats 4000000
variable {fl : Nat} {h0 : Tr HBlk} {n0 : Nat} {F0 : PH}
attribute [local irreducible] W R C thenH inBlockH Tr.get Tr.set lo ck bnd ix iter
end Go.Hx.V

namespace Go.Hx.V
open Go.Hx
set_option maxRecDepth 20000
set_option maxHeartbeats 4000000
variable {fl : Nat} {h0 : Tr HBlk} {n0 : Nat} {F0 : PH}
attribute [local irreducible] W R C thenH inBlockH Tr.get Tr.set lo ck bnd ix iter
theorem ct74 (N:Nat) {a0_0:(List (Int × Int))} {a0_1:Int} {a0_2:(List (Int × Int × (List (Int × Int))))} {a1:Bool} {r:((List (Int × Int)) × Int × (List (Int × Int × (List (Int × Int)))) × Int × (Nat → Int) × Int)} (hF:sf74 N a0_0 a0_1 a0_2 a1 = some r) (hd:D h0 n0) (hs:F0.sub h0) (hfl:fl ≤ n0) {pa0_0:Option (Nat × Nat)} {ca0_0:Nat} {pa0_2:Option (Nat × Nat)} {ca0_2:Nat} (ra0_0:RowF (rP rI rI) 2 F0 pa0_0 ca0_0 a0_0) (ra0_2:RowF (rP rI (rP rI (rL (rP rI rI) 2))) 3 F0 pa0_2 ca0_2 a0_2):C LW fl 74 [(.agg [(.slice pa0_0 (a0_0).length ca0_0),(i64 a0_1),(.slice pa0_2 (a0_2).length ca0_2)]),(.bool a1)] ⟨h0,n0⟩ (KR (rvT2A (rqC (rL (rP rI rI) 2) (rqC rI (rqC (rL (rP rI (rP rI (rL (rP rI rI) 2))) 3) (rqC rI (rqL (rF .i64 169) lvI)))))) F0 h0 n0 r):=by
 unfold sf74 at hF
 refine ky hd hs hfl lw74 rfl rfl (by rfl) (fun st T hT=>?_)
 have t0:=hT 0 _ rfl
 have t1:=hT 1 _ rfl
 dsimp only [L74]
 refine zd (zg ?_);refine yi st (fun b1 h2 n3 st=>?_);refine zQ st (fun b4 h5 n6 st=>?_)
 have st:=st.cells 1 rfl ([(.slice none 0 0),(i64 0),(.slice none 0 0),(i64 0)] ++ (eI .i64 169 (fun _=>0))) rfl
 refine za ?_;refine zb (th_n ?_);refine zd ?_;refine zd (zg ?_);refine zM (vs:=[(.slice pa0_0 (a0_0).length ca0_0),(i64 a0_1),(.slice pa0_2 (a0_2).length ca0_2)]) (st.at (i:=0) rfl).2.2 rfl ?_;obtain ⟨v7,e8,hF⟩:=zj hF;refine zT st (ct21 N e8 st.d st.sub ra0_0 ra0_2) (fun n9 st=>?_);refine za ?_;refine zb (th_n ?_);refine zd (zg ?_);refine za ?_;refine vN ?_;refine zb (th_n ?_);refine zE (fun hb10=>?_) (fun hb10=>?_)
 ·have hF:=zy hb10 hF;refine zd (zg ?_);refine ya (cs:=([(.slice none 0 0),(i64 0),(.slice none 0 0),(i64 0)] ++ (eI .i64 169 (fun _=>0)))) rfl ?_;refine za ?_
  refine v_st (v:=(.agg ([(.slice none 0 0),(i64 0),(.slice none 0 0),(i64 0)] ++ (eI .i64 169 (fun _=>0))))) (cs':=([(.slice none 0 0),(i64 0),(.slice none 0 0),(i64 0)] ++ (eI .i64 169 (fun _=>0)))) st 1 rfl (yB [] rfl (by simp [HV.cells,zS,yW])) (yq _ zS (by rfl)) (yp _ (by rfl) yV) hfl (fun h11 st=>?_)
  refine za ?_;refine zb (th_n ?_);refine zD ?_;refine th_r ?_;obtain rfl:=inj hF
  exact ul st (Res.c gA (st.at (i:=1) rfl).2.2 (show takeN _ _ = some ([(.slice none 0 0),(i64 0),(.slice none 0 0),(i64 0)] ++ (eI .i64 169 (fun _=>0))) from (yY (E:=(eI .i64 169 (fun _=>0))) [] [(.slice none 0 0),(i64 0),(.slice none 0 0),(i64 0)] rfl zS rfl)) (Res.t gA Res.nil)) ⟨_,_,rfl,⟨[(.slice none 0 0)],_,rfl,⟨none,0,rfl,RowF.nil⟩,⟨[(i64 0)],_,rfl,rfl,⟨[(.slice none 0 0)],_,rfl,⟨none,0,rfl,RowF.nil⟩,⟨[(i64 0)],_,rfl,rfl,⟨rfl,rfl⟩⟩⟩⟩⟩⟩
 ·have hF:=zA hb10 hF;refine zF (th_n ?_);refine zd ?_;refine zd (zg ?_);refine za ?_;refine yv ?_;refine zb (th_n ?_);refine zE (fun hb12=>?_) (fun hb12=>?_)
  ·have hF:=zy hb12 hF;refine zd (zg ?_);refine ya (cs:=([(.slice none 0 0),(i64 0),(.slice none 0 0),(i64 0)] ++ (eI .i64 169 (fun _=>0)))) rfl ?_
   refine v_st (v:=(.agg ([(.slice none 0 0),(i64 0),(.slice none 0 0),(i64 0)] ++ (eI .i64 169 (fun _=>0))))) (cs':=([(.slice none 0 0),(i64 0),(.slice none 0 0),(i64 0)] ++ (eI .i64 169 (fun _=>0)))) st 1 rfl (yB [] rfl (by simp [HV.cells,zS,yW])) (yq _ zS (by rfl)) (yp _ (by rfl) yV) hfl (fun h13 st=>?_)
   refine za ?_;refine zb (th_n ?_);refine zD ?_;refine th_r ?_;obtain rfl:=inj hF
   exact ul st (Res.c gA (st.at (i:=1) rfl).2.2 (show takeN _ _ = some ([(.slice none 0 0),(i64 0),(.slice none 0 0),(i64 0)] ++ (eI .i64 169 (fun _=>0))) from (yY (E:=(eI .i64 169 (fun _=>0))) [] [(.slice none 0 0),(i64 0),(.slice none 0 0),(i64 0)] rfl zS rfl)) (Res.t gA Res.nil)) ⟨_,_,rfl,⟨[(.slice none 0 0)],_,rfl,⟨none,0,rfl,RowF.nil⟩,⟨[(i64 0)],_,rfl,rfl,⟨[(.slice none 0 0)],_,rfl,⟨none,0,rfl,RowF.nil⟩,⟨[(i64 0)],_,rfl,rfl,⟨rfl,rfl⟩⟩⟩⟩⟩⟩
  ·have hF:=zA hb12 hF;refine zF (th_n ?_);refine zd (zg ?_);refine zM (vs:=[(.slice pa0_0 (a0_0).length ca0_0),(i64 a0_1),(.slice pa0_2 (a0_2).length ca0_2)]) (st.at (i:=0) rfl).2.2 rfl ?_;obtain ⟨v14,e15,hF⟩:=zj hF;refine yr st (ct80 N e15 st.d st.sub (Nat.le_trans hfl st.ext.le) ra0_0 ra0_2) (fun u16 F16 h16 n16 le16 rv16 st=>?_);obtain ⟨_,_,rfl,⟨_,_,rfl,⟨py17,cy17,rfl,ry17⟩,⟨_,_,rfl,rfl,⟨_,_,rfl,⟨py18,cy18,rfl,ry18⟩,⟨_,_,rfl,rfl,⟨rfl,rfl⟩⟩⟩⟩⟩⟩:=rv16;refine za ?_;refine v_xt rfl ?_;refine v_xt rfl ?_;refine zQ st (fun b19 h20 n21 st=>?_)
   have st:=st.cells 2 rfl ([(.slice none 0 0),(i64 0),(.slice none 0 0),(i64 0)] ++ (eI .i64 169 (fun _=>0))) rfl
   refine v_st (v:=(.agg ([(.slice py17 (v14.1).length cy17),(i64 v14.2.1),(.slice py18 (v14.2.2.1).length cy18),(i64 v14.2.2.2.1)] ++ (eI .i64 169 v14.2.2.2.2.1)))) (cs':=([(.slice py17 (v14.1).length cy17),(i64 v14.2.1),(.slice py18 (v14.2.2.1).length cy18),(i64 v14.2.2.2.1)] ++ (eI .i64 169 v14.2.2.2.2.1))) st 2 rfl (yB [] rfl (by simp [HV.cells,zS,yW])) (yq _ zS (by rfl)) (yp _ (by rfl) yV) hfl (fun h22 st=>?_)
   refine za ?_;refine zb (th_n ?_);refine zd ?_;refine zd (zg ?_);refine za ?_;refine yv ?_;refine zb (th_n ?_);refine zE (fun hb23=>?_) (fun hb23=>?_)
   ·have hF:=zy hb23 hF;refine zd (zg ?_);refine ya (cs:=([(.slice none 0 0),(i64 0),(.slice none 0 0),(i64 0)] ++ (eI .i64 169 (fun _=>0)))) rfl ?_
    refine v_st (v:=(.agg ([(.slice none 0 0),(i64 0),(.slice none 0 0),(i64 0)] ++ (eI .i64 169 (fun _=>0))))) (cs':=([(.slice none 0 0),(i64 0),(.slice none 0 0),(i64 0)] ++ (eI .i64 169 (fun _=>0)))) st 1 rfl (yB [] rfl (by simp [HV.cells,zS,yW])) (yq _ zS (by rfl)) (yp _ (by rfl) yV) hfl (fun h24 st=>?_)
    refine za ?_;refine zb (th_n ?_);refine zD ?_;refine th_r ?_;obtain rfl:=inj hF
    exact ul st (Res.c gA (st.at (i:=1) rfl).2.2 (show takeN _ _ = some ([(.slice none 0 0),(i64 0),(.slice none 0 0),(i64 0)] ++ (eI .i64 169 (fun _=>0))) from (yY (E:=(eI .i64 169 (fun _=>0))) [] [(.slice none 0 0),(i64 0),(.slice none 0 0),(i64 0)] rfl zS rfl)) (Res.t gA Res.nil)) ⟨_,_,rfl,⟨[(.slice none 0 0)],_,rfl,⟨none,0,rfl,RowF.nil⟩,⟨[(i64 0)],_,rfl,rfl,⟨[(.slice none 0 0)],_,rfl,⟨none,0,rfl,RowF.nil⟩,⟨[(i64 0)],_,rfl,rfl,⟨rfl,rfl⟩⟩⟩⟩⟩⟩
   ·have hF:=zA hb23 hF;refine zF (th_n ?_);refine zd (zg ?_);refine zM (vs:=([(.slice py17 (v14.1).length cy17),(i64 v14.2.1),(.slice py18 (v14.2.2.1).length cy18),(i64 v14.2.2.2.1)] ++ (eI .i64 169 v14.2.2.2.2.1))) (st.at (i:=2) rfl).2.2 (yY (E:=(eI .i64 169 v14.2.2.2.2.1)) [] [(.slice py17 (v14.1).length cy17),(i64 v14.2.1),(.slice py18 (v14.2.2.1).length cy18),(i64 v14.2.2.2.1)] rfl zS rfl) ?_
    refine v_st (v:=(.agg ([(.slice py17 (v14.1).length cy17),(i64 v14.2.1),(.slice py18 (v14.2.2.1).length cy18),(i64 v14.2.2.2.1)] ++ (eI .i64 169 v14.2.2.2.2.1)))) (cs':=([(.slice py17 (v14.1).length cy17),(i64 v14.2.1),(.slice py18 (v14.2.2.1).length cy18),(i64 v14.2.2.2.1)] ++ (eI .i64 169 v14.2.2.2.2.1))) st 1 rfl (yB [] rfl (by simp [HV.cells,zS,yW])) (yq _ zS (by rfl)) (yp _ (by rfl) yV) hfl (fun h25 st=>?_)
    refine za ?_;refine zb (th_n ?_);refine zD ?_;obtain rfl:=inj hF
    exact ul st (Res.c gA (st.at (i:=1) rfl).2.2 (show takeN _ _ = some ([(.slice py17 (v14.1).length cy17),(i64 v14.2.1),(.slice py18 (v14.2.2.1).length cy18),(i64 v14.2.2.2.1)] ++ (eI .i64 169 v14.2.2.2.2.1)) from (yY (E:=(eI .i64 169 v14.2.2.2.2.1)) [] [(.slice py17 (v14.1).length cy17),(i64 v14.2.1),(.slice py18 (v14.2.2.1).length cy18),(i64 v14.2.2.2.1)] rfl zS rfl)) (Res.t gA Res.nil)) ⟨_,_,rfl,⟨[(.slice py17 (v14.1).length cy17)],_,rfl,⟨_,_,rfl,ry17⟩,⟨[(i64 v14.2.1)],_,rfl,rfl,⟨[(.slice py18 (v14.2.2.1).length cy18)],_,rfl,⟨_,_,rfl,ry18⟩,⟨[(i64 v14.2.2.2.1)],_,rfl,rfl,⟨rfl,rfl⟩⟩⟩⟩⟩⟩
end Go.Hx.V

namespace Go.Hx.V
open Go.Hx
set_option maxRecDepth 20000
set_option maxHeartbeats 4000000
variable {fl : Nat} {h0 : Tr HBlk} {n0 : Nat} {F0 : PH}
attribute [local irreducible] W R C thenH inBlockH Tr.get Tr.set lo ck bnd ix iter
theorem ct27 (N:Nat) {a0_0:(List (Int × Int))} {a0_1:Int} {a0_2:(List (Int × Int × (List (Int × Int))))} {r:((List (Int × Int)) × Int)} (hF:sf27 N a0_0 a0_1 a0_2 = some r) (hd:D h0 n0) (hs:F0.sub h0) (hfl:fl ≤ n0) {pa0_0:Option (Nat × Nat)} {ca0_0:Nat} {pa0_2:Option (Nat × Nat)} {ca0_2:Nat} (ra0_0:RowF (rP rI rI) 2 F0 pa0_0 ca0_0 a0_0) (ra0_2:RowF (rP rI (rP rI (rL (rP rI rI) 2))) 3 F0 pa0_2 ca0_2 a0_2):C LW fl 27 [(.agg [(.slice pa0_0 (a0_0).length ca0_0),(i64 a0_1),(.slice pa0_2 (a0_2).length ca0_2)])] ⟨h0,n0⟩ (KR (rvT2 (lvL (rP rI rI) 2) lvI) F0 h0 n0 r):=by
 unfold sf27 at hF
 refine ky hd hs hfl lw27 rfl rfl (by rfl) (fun st T hT=>?_)
 have t0:=hT 0 _ rfl
 dsimp only [L27]
 refine zd (zg ?_);refine yi st (fun b1 h2 n3 st=>?_);refine za ?_;refine za ?_;refine zb (th_n ?_);refine zd (zg ?_);refine zM (vs:=[(.slice pa0_0 (a0_0).length ca0_0),(i64 a0_1),(.slice pa0_2 (a0_2).length ca0_2)]) (st.at (i:=0) rfl).2.2 rfl ?_;obtain ⟨v4,e5,hF⟩:=zj hF;refine yr st (ct74 N e5 st.d st.sub (Nat.le_trans hfl st.ext.le) ra0_0 ra0_2) (fun u6 F6 h6 n6 le6 rv6 st=>?_);obtain ⟨_,_,rfl,⟨_,_,rfl,⟨py7,cy7,rfl,ry7⟩,⟨_,_,rfl,rfl,⟨_,_,rfl,⟨py8,cy8,rfl,ry8⟩,⟨_,_,rfl,rfl,⟨rfl,rfl⟩⟩⟩⟩⟩⟩:=rv6;refine za ?_;refine v_xt rfl ?_;refine v_xt rfl ?_;refine zQ st (fun b9 h10 n11 st=>?_)
 have st:=st.cells 1 rfl ([(.slice none 0 0),(i64 0),(.slice none 0 0),(i64 0)] ++ (eI .i64 169 (fun _=>0))) rfl
 refine v_st (v:=(.agg ([(.slice py7 (v4.1).length cy7),(i64 v4.2.1),(.slice py8 (v4.2.2.1).length cy8),(i64 v4.2.2.2.1)] ++ (eI .i64 169 v4.2.2.2.2.1)))) (cs':=([(.slice py7 (v4.1).length cy7),(i64 v4.2.1),(.slice py8 (v4.2.2.1).length cy8),(i64 v4.2.2.2.1)] ++ (eI .i64 169 v4.2.2.2.2.1))) st 1 rfl (yB [] rfl (by simp [HV.cells,zS,yW])) (yq _ zS (by rfl)) (yp _ (by rfl) yV) hfl (fun h12 st=>?_)
 refine za ?_;refine zb (th_n ?_);refine zd ?_;refine zd (zg ?_);refine za ?_;refine vN ?_;refine zb (th_n ?_);refine zE (fun hb13=>?_) (fun hb13=>?_)
 ·have hF:=zy hb13 hF;refine zd (zg ?_);refine za ?_;refine za ?_;refine za ?_;refine zb (th_n ?_);refine zD ?_;refine th_r ?_;obtain rfl:=inj hF
  exact ul st (Res.t gA (Res.t gA Res.nil)) ⟨_,_,rfl,⟨none,0,rfl,RowF.nil⟩,rfl⟩
 ·have hF:=zA hb13 hF;refine zF (th_n ?_);refine zd (zg ?_);refine v_fa ?_;refine zq (st.at (i:=0) rfl).2.2 rfl ?_;refine z2 ?_;obtain ⟨q14,hF⟩:=zn hF
  have w14:LR (rP rI rI) 2 F6 (List.replicate (Int.toNat (0:Int)) (0,0)) (Go.Hx.repl (Int.toNat (0:Int)) [(i64 0),(i64 0)]):=LR.repl (⟨[(i64 0)],_,rfl,rfl,rfl⟩) _
  refine v_mk st (n:=(List.replicate (Int.toNat (0:Int)) (0,0)).length) q14.1 q14.2.1 (by simp) q14.2.2.1 q14.2.2.2 (fun o14 h14 n14 st=>?_)
  refine za ?_;refine zb (th_n ?_);refine zd ?_;refine zd (zg ?_);refine v_fa ?_;refine zq (st.at (i:=0) rfl).2.2 rfl ?_;refine z2 ?_;refine za ?_;refine zb (th_n ?_);refine zx ?_;obtain ⟨y28,hy,hF⟩:=zj hF;refine zW (sf27_L1 N a0_0 v4) (fun x15 T ds16 h nx=>∃ (F16:PH) (o17:Option Nat) (c17:Nat) (cs17:List HV),ds16 = [] ∧ PH.le F6 F16 ∧ St n0 h0 F0 F16 h nx [.bx b1 [(.slice pa0_0 (a0_0).length ca0_0),(i64 a0_1),(.slice pa0_2 (a0_2).length ca0_2)],.bx b9 ([(.slice py7 (v4.1).length cy7),(i64 v4.2.1),(.slice py8 (v4.2.2.1).length cy8),(i64 v4.2.2.2.1)] ++ (eI .i64 169 v4.2.2.2.2.1)),.ls o17 c17 cs17 2] ∧ LR (rP rI rI) 2 F16 x15.1 cs17 ∧ T.get 4 = some (.ptr (some (b9,0))) ∧ T.get 6 = some (slv o17 (x15.1).length c17) ∧ T.get 22 = some (i64 ((a0_0).length:Int)) ∧ T.get 23 = some (i64 x15.2)) (fun y e a σ=>e = .exit 0 ∧ a.nt = 33 ∧ ∃ (F29:PH) (o30:Option Nat) (c30:Nat) (cs30:List HV),a.defers = [] ∧ PH.le F6 F29 ∧ St n0 h0 F0 F29 σ.h σ.nx [.bx b1 [(.slice pa0_0 (a0_0).length ca0_0),(i64 a0_1),(.slice pa0_2 (a0_2).length ca0_2)],.bx b9 ([(.slice py7 (v4.1).length cy7),(i64 v4.2.1),(.slice py8 (v4.2.2.1).length cy8),(i64 v4.2.2.2.1)] ++ (eI .i64 169 v4.2.2.2.2.1)),.ls o30 c30 cs30 2] ∧ LR (rP rI rI) 2 F29 y cs30 ∧ a.tmps.get 6 = some (slv o30 (y).length c30)) (fun x15 T ds16 h nx s hp hF=>?_) N _ y28 _ _ _ _ hy ⟨F6,o14,(Int.toNat ((a0_0).length:Int)),(Go.Hx.repl (Int.toNat (0:Int)) [(i64 0),(i64 0)]),rfl,(PH.le.refl _),st,w14,gA,gA,gA,gA⟩ (fun e a σ hne hq=>?_)
  ·obtain ⟨F16,o17,c17,cs17,rfl,le16,st,w17,t4,t6,t22,t23⟩:=hp
   unfold sf27_L1 at hF;unfold L27w0;refine zd (zg ?_);refine yc ?_;refine zb (th_n ?_);refine zd ?_;refine zE (fun hb31=>?_) (fun hb31=>?_)
   ·have hF:=zy hb31 hF;refine zF (th_n ?_);refine zd ?_;refine zx ?_;refine zd (zg ?_);refine za ?_;refine za ?_;refine zb (th_n ?_);refine zg ?_;refine za ?_;refine za ?_;obtain ⟨v32,e33,hF⟩:=zj hF;refine zT st (ct75 N e33 st.d (all_sub _) (RowF.mono st.all_le (RowF.mono le16 ry7)) (RowF.mono st.all_le (RowF.mono le16 ry8)) (st.at (i:=1) rfl).2.2) (fun n34 st=>?_);refine v_bs (cs:=[(i64 v32.1),(i64 v32.2)]) st rfl (fun b35 h36 n37 st=>?_);obtain ⟨q38,hF⟩:=zn hF
    have w38:LR (rP rI rI) 2 F16 (x15.1 ++ [(v32.1,v32.2)]) (cs17 ++ [(i64 v32.1),(i64 v32.2)]):=LR.app w17 (LR.one (⟨[(i64 v32.1)],_,rfl,rfl,rfl⟩))
    refine jh (n:=1) (ox:=0) (m:=(x15.1 ++ [(v32.1,v32.2)]).length) (row:=[(i64 v32.1),(i64 v32.2)]) st 2 rfl w17.1 (st.at (i:=3) rfl).2.2 rfl rfl q38 hfl (by decide) (by decide) (by simp) (fun o38 c38 h38 n38 st=>?_)
    refine za ?_;refine zb ?_;refine ib_n ?_;refine th_n ?_;refine zg ?_;obtain ⟨q39,hF⟩:=zn hF;refine zY q39 ?_;refine za ?_;refine zb ?_;refine thn ⟨_,(inj hF).symm,rfl,?_⟩;dsimp only
    exact ⟨F16,o38,c38,(cs17 ++ [(i64 v32.1),(i64 v32.2)]),rfl,le16,(st.drop (by first | exact List.Sublist.refl _ | (repeat first | exact List.nil_sublist _ | refine List.Sublist.cons_cons _ ?_ | refine List.Sublist.cons _ ?_))),w38,gA,gA,gA,gA⟩
   ·have hF:=zA hb31 hF;refine z6 ?_;refine th_e ?_;refine th_e ?_;refine ⟨_,(inj hF).symm,rfl,rfl,?_⟩;dsimp only
    exact ⟨F16,o17,c17,cs17,rfl,le16,st,w17,gA⟩
  ·obtain ⟨N9,T,ds29⟩:=a;obtain ⟨h41,n42⟩:=σ;obtain ⟨rfl,e1,F29,o30,c30,cs30,e2,le29,st,w30,t6⟩:=hq
   dsimp only at e1 e2
   subst e1
   subst e2
   dsimp only at st t6
   refine ib_e ?_;refine th_n ?_;refine zd (zg ?_);refine za ?_;refine za ?_;refine za ?_;refine zb (th_n ?_);refine zD ?_;obtain rfl:=inj hF
   obtain ⟨F43,le43,st,rf43⟩:=St.freeze st 2 rfl w30 (by decide)
   exact ul st (Res.t gA (Res.t gA Res.nil)) ⟨_,_,rfl,⟨_,_,rfl,rf43⟩,rfl⟩
end Go.Hx.V

namespace Go.Hx.V
open Go.Hx
set_option maxRecDepth 20000
set_option maxHeartbeats 4000000
variable {fl : Nat} {h0 : Tr HBlk} {n0 : Nat} {F0 : PH}
attribute [local irreducible] W R C thenH inBlockH Tr.get Tr.set lo ck bnd ix iter
theorem ct28 (N:Nat) {a0_0:(List (Int × Int))} {a0_1:Int} {a0_2:(List (Int × Int × (List (Int × Int))))} {r:((List (Int × Int)) × Int)} (hF:sf28 N a0_0 a0_1 a0_2 = some r) (hd:D h0 n0) (hs:F0.sub h0) (hfl:fl ≤ n0) {pa0_0:Option (Nat × Nat)} {ca0_0:Nat} {pa0_2:Option (Nat × Nat)} {ca0_2:Nat} (ra0_0:RowF (rP rI rI) 2 F0 pa0_0 ca0_0 a0_0) (ra0_2:RowF (rP rI (rP rI (rL (rP rI rI) 2))) 3 F0 pa0_2 ca0_2 a0_2):C LW fl 28 [(.agg [(.slice pa0_0 (a0_0).length ca0_0),(i64 a0_1),(.slice pa0_2 (a0_2).length ca0_2)])] ⟨h0,n0⟩ (KR (rvT2 (lvL (rP rI rI) 2) lvI) F0 h0 n0 r):=by
 unfold sf28 at hF
 refine ky hd hs hfl lw28 rfl rfl (by rfl) (fun st T hT=>?_)
 have t0:=hT 0 _ rfl
 dsimp only [L28]
 refine zd (zg ?_);refine yi st (fun b1 h2 n3 st=>?_);refine za ?_;refine za ?_;refine zb (th_n ?_);refine zd (zg ?_);refine zM (vs:=[(.slice pa0_0 (a0_0).length ca0_0),(i64 a0_1),(.slice pa0_2 (a0_2).length ca0_2)]) (st.at (i:=0) rfl).2.2 rfl ?_;obtain ⟨v4,e5,hF⟩:=zj hF;refine yr st (ct74 N e5 st.d st.sub (Nat.le_trans hfl st.ext.le) ra0_0 ra0_2) (fun u6 F6 h6 n6 le6 rv6 st=>?_);obtain ⟨_,_,rfl,⟨_,_,rfl,⟨py7,cy7,rfl,ry7⟩,⟨_,_,rfl,rfl,⟨_,_,rfl,⟨py8,cy8,rfl,ry8⟩,⟨_,_,rfl,rfl,⟨rfl,rfl⟩⟩⟩⟩⟩⟩:=rv6;refine za ?_;refine v_xt rfl ?_;refine v_xt rfl ?_;refine zQ st (fun b9 h10 n11 st=>?_)
 have st:=st.cells 1 rfl ([(.slice none 0 0),(i64 0),(.slice none 0 0),(i64 0)] ++ (eI .i64 169 (fun _=>0))) rfl
 refine v_st (v:=(.agg ([(.slice py7 (v4.1).length cy7),(i64 v4.2.1),(.slice py8 (v4.2.2.1).length cy8),(i64 v4.2.2.2.1)] ++ (eI .i64 169 v4.2.2.2.2.1)))) (cs':=([(.slice py7 (v4.1).length cy7),(i64 v4.2.1),(.slice py8 (v4.2.2.1).length cy8),(i64 v4.2.2.2.1)] ++ (eI .i64 169 v4.2.2.2.2.1))) st 1 rfl (yB [] rfl (by simp [HV.cells,zS,yW])) (yq _ zS (by rfl)) (yp _ (by rfl) yV) hfl (fun h12 st=>?_)
 refine za ?_;refine zb (th_n ?_);refine zd ?_;refine zd (zg ?_);refine za ?_;refine vN ?_;refine zb (th_n ?_);refine zE (fun hb13=>?_) (fun hb13=>?_)
 ·have hF:=zy hb13 hF;refine zd (zg ?_);refine za ?_;refine za ?_;refine za ?_;refine zb (th_n ?_);refine zD ?_;refine th_r ?_;obtain rfl:=inj hF
  exact ul st (Res.t gA (Res.t gA Res.nil)) ⟨_,_,rfl,⟨none,0,rfl,RowF.nil⟩,rfl⟩
 ·have hF:=zA hb13 hF;refine zF (th_n ?_);refine zd (zg ?_);refine v_fa ?_;refine zq (st.at (i:=0) rfl).2.2 rfl ?_;refine z2 ?_;obtain ⟨q14,hF⟩:=zn hF
  have w14:LR (rP rI rI) 2 F6 (List.replicate (Int.toNat (0:Int)) (0,0)) (Go.Hx.repl (Int.toNat (0:Int)) [(i64 0),(i64 0)]):=LR.repl (⟨[(i64 0)],_,rfl,rfl,rfl⟩) _
  refine v_mk st (n:=(List.replicate (Int.toNat (0:Int)) (0,0)).length) q14.1 q14.2.1 (by simp) q14.2.2.1 q14.2.2.2 (fun o14 h14 n14 st=>?_)
  refine za ?_;refine zb (th_n ?_);refine zd ?_;refine zd (zg ?_);refine v_fa ?_;refine zq (st.at (i:=0) rfl).2.2 rfl ?_;refine z2 ?_;refine za ?_;refine zb (th_n ?_);refine zx ?_;obtain ⟨y28,hy,hF⟩:=zj hF;refine zW (sf28_L1 N a0_2 v4) (fun x15 T ds16 h nx=>∃ (F16:PH) (o17:Option Nat) (c17:Nat) (cs17:List HV),ds16 = [] ∧ PH.le F6 F16 ∧ St n0 h0 F0 F16 h nx [.bx b1 [(.slice pa0_0 (a0_0).length ca0_0),(i64 a0_1),(.slice pa0_2 (a0_2).length ca0_2)],.bx b9 ([(.slice py7 (v4.1).length cy7),(i64 v4.2.1),(.slice py8 (v4.2.2.1).length cy8),(i64 v4.2.2.2.1)] ++ (eI .i64 169 v4.2.2.2.2.1)),.ls o17 c17 cs17 2] ∧ LR (rP rI rI) 2 F16 x15.1 cs17 ∧ T.get 4 = some (.ptr (some (b9,0))) ∧ T.get 6 = some (slv o17 (x15.1).length c17) ∧ T.get 22 = some (i64 ((a0_2).length:Int)) ∧ T.get 23 = some (i64 x15.2)) (fun y e a σ=>e = .exit 0 ∧ a.nt = 33 ∧ ∃ (F29:PH) (o30:Option Nat) (c30:Nat) (cs30:List HV),a.defers = [] ∧ PH.le F6 F29 ∧ St n0 h0 F0 F29 σ.h σ.nx [.bx b1 [(.slice pa0_0 (a0_0).length ca0_0),(i64 a0_1),(.slice pa0_2 (a0_2).length ca0_2)],.bx b9 ([(.slice py7 (v4.1).length cy7),(i64 v4.2.1),(.slice py8 (v4.2.2.1).length cy8),(i64 v4.2.2.2.1)] ++ (eI .i64 169 v4.2.2.2.2.1)),.ls o30 c30 cs30 2] ∧ LR (rP rI rI) 2 F29 y cs30 ∧ a.tmps.get 6 = some (slv o30 (y).length c30)) (fun x15 T ds16 h nx s hp hF=>?_) N _ y28 _ _ _ _ hy ⟨F6,o14,(Int.toNat ((a0_2).length:Int)),(Go.Hx.repl (Int.toNat (0:Int)) [(i64 0),(i64 0)]),rfl,(PH.le.refl _),st,w14,gA,gA,gA,gA⟩ (fun e a σ hne hq=>?_)
  ·obtain ⟨F16,o17,c17,cs17,rfl,le16,st,w17,t4,t6,t22,t23⟩:=hp
   unfold sf28_L1 at hF;unfold L28w0;refine zd (zg ?_);refine yc ?_;refine zb (th_n ?_);refine zd ?_;refine zE (fun hb31=>?_) (fun hb31=>?_)
   ·have hF:=zy hb31 hF;refine zF (th_n ?_);refine zd ?_;refine zx ?_;refine zd (zg ?_);refine za ?_;refine za ?_;refine zb (th_n ?_);refine zg ?_;refine za ?_;refine za ?_;obtain ⟨v32,e33,hF⟩:=zj hF;refine zT st (ct76 N e33 st.d (all_sub _) (RowF.mono st.all_le (RowF.mono le16 ry7)) (RowF.mono st.all_le (RowF.mono le16 ry8)) (st.at (i:=1) rfl).2.2) (fun n34 st=>?_);refine v_bs (cs:=[(i64 v32.1),(i64 v32.2)]) st rfl (fun b35 h36 n37 st=>?_);obtain ⟨q38,hF⟩:=zn hF
    have w38:LR (rP rI rI) 2 F16 (x15.1 ++ [(v32.1,v32.2)]) (cs17 ++ [(i64 v32.1),(i64 v32.2)]):=LR.app w17 (LR.one (⟨[(i64 v32.1)],_,rfl,rfl,rfl⟩))
    refine jh (n:=1) (ox:=0) (m:=(x15.1 ++ [(v32.1,v32.2)]).length) (row:=[(i64 v32.1),(i64 v32.2)]) st 2 rfl w17.1 (st.at (i:=3) rfl).2.2 rfl rfl q38 hfl (by decide) (by decide) (by simp) (fun o38 c38 h38 n38 st=>?_)
    refine za ?_;refine zb ?_;refine ib_n ?_;refine th_n ?_;refine zg ?_;obtain ⟨q39,hF⟩:=zn hF;refine zY q39 ?_;refine za ?_;refine zb ?_;refine thn ⟨_,(inj hF).symm,rfl,?_⟩;dsimp only
    exact ⟨F16,o38,c38,(cs17 ++ [(i64 v32.1),(i64 v32.2)]),rfl,le16,(st.drop (by first | exact List.Sublist.refl _ | (repeat first | exact List.nil_sublist _ | refine List.Sublist.cons_cons _ ?_ | refine List.Sublist.cons _ ?_))),w38,gA,gA,gA,gA⟩
   ·have hF:=zA hb31 hF;refine z6 ?_;refine th_e ?_;refine th_e ?_;refine ⟨_,(inj hF).symm,rfl,rfl,?_⟩;dsimp only
    exact ⟨F16,o17,c17,cs17,rfl,le16,st,w17,gA⟩
  ·obtain ⟨N9,T,ds29⟩:=a;obtain ⟨h41,n42⟩:=σ;obtain ⟨rfl,e1,F29,o30,c30,cs30,e2,le29,st,w30,t6⟩:=hq
   dsimp only at e1 e2
   subst e1
   subst e2
   dsimp only at st t6
   refine ib_e ?_;refine th_n ?_;refine zd (zg ?_);refine za ?_;refine za ?_;refine za ?_;refine zb (th_n ?_);refine zD ?_;obtain rfl:=inj hF
   obtain ⟨F43,le43,st,rf43⟩:=St.freeze st 2 rfl w30 (by decide)
   exact ul st (Res.t gA (Res.t gA Res.nil)) ⟨_,_,rfl,⟨_,_,rfl,rf43⟩,rfl⟩
end Go.Hx.V

namespace Go.Hx.V
open Go.Hx
set_option maxRecDepth 20000
set_option maxHeartbeats 4000000
variable {fl : Nat} {h0 : Tr HBlk} {n0 : Nat} {F0 : PH}
attribute [local irreducible] W R C thenH inBlockH Tr.get Tr.set lo ck bnd ix iter
end Go.Hx.V

