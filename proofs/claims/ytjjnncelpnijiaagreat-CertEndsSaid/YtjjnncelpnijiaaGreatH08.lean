import Derived.Test.YtjjnncelpnijiaaGreatH05
import Derived.Test.YtjjnncelpnijiaaGreatH07
import Derived.Test.YtjjnncelpnijiaaGreatH06
import Derived.Test.YtjjnncelpnijiaaGreatH03
set_option linter.all false
namespace Go.Hx.V
open Go.Hx
set_option maxRecDepth 20000
set_option maxHeartbeats 4000000
variable {fl : Nat} {h0 : Tr HBlk} {n0 : Nat} {F0 : PH}
attribute [local irreducible] W R C thenH inBlockH Tr.get Tr.set lo ck bnd ix iter
theorem ct10 (N:Nat) {a0_0 a0_1 a0_2 a0_3:Int} {a0_4:(List (Int × Int × Int × Int))} {a0_5:(List (Int × Int))} {a0_6 a0_7 a0_8 a0_9:Int} {a1:(List Int)} {a2:(List Int)} {a3:Int} {r:Bool} (hF:sf10 N a0_0 a0_1 a0_2 a0_3 a0_4 a0_5 a0_6 a0_7 a0_8 a0_9 a1 a2 a3 = some r) (hd:D h0 n0) (hs:F0.sub h0) {pa0_4:Option (Nat × Nat)} {ca0_4:Nat} {pa0_5:Option (Nat × Nat)} {ca0_5:Nat} {pa1:Option (Nat × Nat)} {ca1:Nat} {pa2:Option (Nat × Nat)} {ca2:Nat} (ra0_4:RowF (rP rI (rP rI (rP rI rI))) 4 F0 pa0_4 ca0_4 a0_4) (ra0_5:RowF (rP rI rI) 2 F0 pa0_5 ca0_5 a0_5) (ra1:RowF (rK .u16) 1 F0 pa1 ca1 a1) (ra2:RowF (rK .u16) 1 F0 pa2 ca2 a2):C LW fl 10 [(.agg [(i64 a0_0),(i64 a0_1),(i64 a0_2),(i64 a0_3),(.slice pa0_4 (a0_4).length ca0_4),(.slice pa0_5 (a0_5).length ca0_5),(i64 a0_6),(i64 a0_7),(i64 a0_8),(i64 a0_9)]),(.slice pa1 (a1).length ca1),(.slice pa2 (a2).length ca2),(.int .u16 a3)] ⟨h0,n0⟩ (KS (.bool r) n0 h0):=by
 unfold sf10 at hF
 refine z8 hd hs lw10 rfl rfl (by rfl) (fun st T hT=>?_)
 have hfl:n0 ≤ n0:=Nat.le_refl n0
 have t0:=hT 0 _ rfl
 have t1:=hT 1 _ rfl
 have t2:=hT 2 _ rfl
 have t3:=hT 3 _ rfl
 dsimp only [L10]
 refine zg (zh ?_);refine zW st (fun b1 h2 n3 st=>?_);refine za ?_;refine zf (th_n ?_);refine zg ?_;refine zg (zh ?_);refine zK (vs:=[(i64 a0_0),(i64 a0_1),(i64 a0_2),(i64 a0_3),(.slice pa0_4 (a0_4).length ca0_4),(.slice pa0_5 (a0_5).length ca0_5),(i64 a0_6),(i64 a0_7),(i64 a0_8),(i64 a0_9)]) (st.at (i:=0) rfl).2.2 rfl ?_;obtain ⟨v4,e5,hF⟩:=zm hF;refine zI st (ct52 N e5 st.d st.sub ra0_4 ra0_5) (fun n6 st=>?_);refine yo ?_;refine zf (th_n ?_);refine zB (fun hb7=>?_) (fun hb7=>?_)
 ·have hF:=zw hb7 hF;refine zg (zh ?_);refine zI st (ct_wakes (h:=_) (nx:=_)) (fun n8 st=>?_);refine za ?_;refine zf (th_n ?_);refine zu ?_;refine th_r ?_;obtain rfl:=inj hF
  exact zD st (Res.t gA Res.nil) rfl rfl
 ·have hF:=zx hb7 hF;refine zA (th_n ?_);refine zg (zh ?_);refine zK (vs:=[(i64 a0_0),(i64 a0_1),(i64 a0_2),(i64 a0_3),(.slice pa0_4 (a0_4).length ca0_4),(.slice pa0_5 (a0_5).length ca0_5),(i64 a0_6),(i64 a0_7),(i64 a0_8),(i64 a0_9)]) (st.at (i:=0) rfl).2.2 rfl ?_;refine za ?_;refine za ?_;obtain ⟨v9,e10,hF⟩:=zm hF;refine yC st (ct53 N e10 st.d st.sub (Nat.le_trans hfl st.ext.le) ra0_4 ra0_5 ra1 ra2) (fun u11 F11 h11 n11 le11 rv11 st=>?_);obtain ⟨_,_,rfl,⟨_,_,rfl,rfl,⟨_,_,rfl,rfl,⟨_,_,rfl,rfl,⟨_,_,rfl,rfl,⟨_,_,rfl,⟨py12,cy12,rfl,ry12⟩,⟨_,_,rfl,⟨py13,cy13,rfl,ry13⟩,⟨_,_,rfl,rfl,⟨_,_,rfl,rfl,⟨_,_,rfl,rfl,⟨rfl,⟨py14,cy14,rfl,ry14⟩⟩⟩⟩⟩⟩⟩⟩⟩⟩⟩⟩:=rv11
  refine za ?_;refine v_xt rfl ?_;refine v_xt rfl ?_;refine zM st (fun b15 h16 n17 st=>?_);refine v_st (cs':=[(i64 v9.1),(i64 v9.2.1),(i64 v9.2.2.1),(i64 v9.2.2.2.1),(.slice py12 (v9.2.2.2.2.1).length cy12),(.slice py13 (v9.2.2.2.2.2.1).length cy13),(i64 v9.2.2.2.2.2.2.1),(i64 v9.2.2.2.2.2.2.2.1),(i64 v9.2.2.2.2.2.2.2.2.1),(i64 v9.2.2.2.2.2.2.2.2.2.1)]) st 1 rfl rfl rfl rfl hfl (fun h18 st=>?_);refine za ?_;refine zf (th_n ?_);refine zg ?_;refine zV (Nat.le_trans hfl st.ext.le) (fun dw=>?_);refine ye st.d dw rfl (fun h19 ex vs=>?_)
  have st:=st.ext1 ex
  refine za ?_;obtain ⟨q20,hF⟩:=zj hF;refine XT q20 ?_;obtain ⟨q21,hF⟩:=zj hF;refine jm q21 ?_;refine v_fa ?_;refine v_fa ?_;refine zq (st.at (i:=0) rfl).2.2 rfl ?_;refine za ?_;refine za ?_;refine zf (th_n ?_);refine zg (zh ?_);refine zK (vs:=[(i64 v9.1),(i64 v9.2.1),(i64 v9.2.2.1),(i64 v9.2.2.2.1),(.slice py12 (v9.2.2.2.2.1).length cy12),(.slice py13 (v9.2.2.2.2.2.1).length cy13),(i64 v9.2.2.2.2.2.2.1),(i64 v9.2.2.2.2.2.2.2.1),(i64 v9.2.2.2.2.2.2.2.2.1),(i64 v9.2.2.2.2.2.2.2.2.2.1)]) (st.at (i:=1) rfl).2.2 rfl ?_;obtain ⟨v22,e23,hF⟩:=zm hF;refine yC st (ct21 N e23 st.d st.sub (Nat.le_trans hfl st.ext.le) ry12 ry13) (fun u24 F24 h24 n24 le24 rv24 st=>?_)
  obtain ⟨_,rfl,⟨_,_,rfl,rfl,⟨_,_,rfl,rfl,⟨_,_,rfl,rfl,⟨_,_,rfl,rfl,⟨_,_,rfl,⟨py26,cy26,rfl,ry26⟩,⟨_,_,rfl,⟨py27,cy27,rfl,ry27⟩,⟨_,_,rfl,rfl,⟨_,_,rfl,rfl,⟨_,_,rfl,rfl,rfl⟩⟩⟩⟩⟩⟩⟩⟩⟩⟩:=rv24;refine za ?_;obtain ⟨v28,e29,hF⟩:=zm hF;refine yC st (ct22 N e29 st.d st.sub (Nat.le_trans hfl st.ext.le) ry26 ry27) (fun u30 F30 h30 n30 le30 rv30 st=>?_)
  have le32:=PH.le.trans le24 le30
  obtain ⟨_,_,rfl,⟨py33,cy33,rfl,ry33⟩,rfl⟩:=rv30;refine za ?_;refine v_xt rfl ?_;refine v_xt rfl ?_;refine za ?_;refine za ?_;refine zf (th_n ?_);obtain ⟨y46,hA47,hF⟩:=zm hF;refine yG (fun T ds52 h nx=>∃ u,y46 = (.inr u) ∧ ∃ (F52:PH),ds52 = [] ∧ PH.le F30 F52 ∧ St n0 h0 F0 F52 h nx [.bx b1 [(i64 a0_0),(i64 a0_1),(i64 a0_2),(i64 a0_3),(.slice pa0_4 (a0_4).length ca0_4),(.slice pa0_5 (a0_5).length ca0_5),(i64 a0_6),(i64 a0_7),(i64 a0_8),(i64 a0_9)],.bx b15 [(i64 v9.1),(i64 v9.2.1),(i64 v9.2.2.1),(i64 v9.2.2.2.1),(.slice py12 (v9.2.2.2.2.1).length cy12),(.slice py13 (v9.2.2.2.2.2.1).length cy13),(i64 v9.2.2.2.2.2.2.1),(i64 v9.2.2.2.2.2.2.2.1),(i64 v9.2.2.2.2.2.2.2.2.1),(i64 v9.2.2.2.2.2.2.2.2.2.1)]] ∧ T.get 9 = some (.ptr (some (b15,0))) ∧ T.get 11 = some (i64 (Int.tmod a3 (10001:Int))) ∧ T.get 12 = some (i64 a0_1) ∧ T.get 13 = some (.slice py33 (v28.1).length cy33)) ?_ (fun T ds52 h nx hp=>?_)
  ·have hK48:=hF
   have hF:=hA47;obtain ⟨y55,hA56,hF⟩:=zm hF;refine yG (fun T ds58 h nx=>∃ (F58:PH),ds58 = [] ∧ PH.le F30 F58 ∧ St n0 h0 F0 F58 h nx [.bx b1 [(i64 a0_0),(i64 a0_1),(i64 a0_2),(i64 a0_3),(.slice pa0_4 (a0_4).length ca0_4),(.slice pa0_5 (a0_5).length ca0_5),(i64 a0_6),(i64 a0_7),(i64 a0_8),(i64 a0_9)],.bx b15 [(i64 v9.1),(i64 v9.2.1),(i64 v9.2.2.1),(i64 v9.2.2.2.1),(.slice py12 (v9.2.2.2.2.1).length cy12),(.slice py13 (v9.2.2.2.2.2.1).length cy13),(i64 v9.2.2.2.2.2.2.1),(i64 v9.2.2.2.2.2.2.2.1),(i64 v9.2.2.2.2.2.2.2.2.1),(i64 v9.2.2.2.2.2.2.2.2.2.1)]] ∧ T.get 9 = some (.ptr (some (b15,0))) ∧ T.get 11 = some (i64 (Int.tmod a3 (10001:Int))) ∧ T.get 12 = some (i64 a0_1) ∧ T.get 13 = some (.slice py33 (v28.1).length cy33) ∧ T.get 58 = some (.bool y55)) ?_ (fun T ds58 h nx hp=>?_)
   ·have hK57:=hF
    have hF:=hA56;refine zh ?_;refine za ?_;refine va ?_;refine za ?_
    rcases Bool.eq_false_or_eq_true (!(decide (v28.2 = (0:Int)))) with hb59 | hb59
    ·have hF:=zw hb59 hF;refine ze hb59 ?_;refine ze hb59 ?_;refine ze hb59 ?_;refine ze hb59 ?_;refine ze hb59 ?_;refine ze hb59 ?_;refine ze hb59 ?_;refine zG hb59 ?_;refine zf ?_;obtain rfl:=inj hF;refine thn ⟨rfl,?_⟩;dsimp only
     exact ⟨F30,rfl,(PH.le.refl _),st,gA,gA,gA,gA,gA⟩
    ·have hF:=zx hb59 hF;refine zi hb59 (za ?_);refine zi hb59 (yA ?_);refine zi hb59 (v_fa ?_);refine zi hb59 (v_fa ?_);refine zi hb59 (zq (st.at (i:=1) rfl).2.2 rfl ?_);obtain ⟨q60,hF⟩:=zj hF;refine zi hb59 (zO q60 ?_);refine zi hb59 (va ?_);refine zC hb59 ?_;refine zf ?_;obtain rfl:=inj hF;refine thn ⟨rfl,?_⟩;dsimp only
     exact ⟨F30,rfl,(PH.le.refl _),st,gA,gA,gA,gA,gA⟩
   ·obtain ⟨F58,rfl,le58,st,t9,t11,t12,t13,t58⟩:=hp
    refine zB (fun hb64=>?_) (fun hb64=>?_)
    ·have hF:=zw hb64 hF;refine zg (zh ?_);refine za ?_;refine zf (th_n ?_);refine zu ?_;obtain rfl:=inj hF;have hF:=hK48;have hF:=vg hF;refine th_r ?_;obtain rfl:=inj hF
     exact zD st (Res.t gA Res.nil) rfl rfl
    ·have hF:=zx hb64 hF;refine zA ?_;obtain rfl:=inj hF;refine thn ⟨rfl,_,rfl,?_⟩;dsimp only
     exact ⟨F58,rfl,le58,st,gA,gA,gA,gA⟩
  ·obtain ⟨w51,rfl,F52,rfl,le52,st,t9,t11,t12,t13⟩:=hp;have hF:=ve hF
   have le69:=PH.le.trans le32 le52
   refine zg ?_;refine zV (Nat.le_trans hfl st.ext.le) (fun dw=>?_);refine zd st.d dw (fun hm vw=>zK (vs:=[(i64 v9.1),(i64 v9.2.1),(i64 v9.2.2.1),(i64 v9.2.2.2.1),(.slice py12 (v9.2.2.2.2.1).length cy12),(.slice py13 (v9.2.2.2.2.2.1).length cy13),(i64 v9.2.2.2.2.2.2.1),(i64 v9.2.2.2.2.2.2.2.1),(i64 v9.2.2.2.2.2.2.2.2.1),(i64 v9.2.2.2.2.2.2.2.2.2.1)]) (vw.bx (st.at (i:=1) rfl)) rfl zb) ?_;obtain ⟨v71,e72,hF⟩:=zm hF;refine yj st.d dw (fun hm vw=>yl (ct27 N e72 vw.d (vw.sub st) (RowF.mono le69 ry12) (RowF.mono le69 ry13)) (fun n' hn'=>yk hn')) (fun n73 hn' dw=>?_);refine zd st.d dw (fun hm vw=>zK (vs:=[(i64 v9.1),(i64 v9.2.1),(i64 v9.2.2.1),(i64 v9.2.2.2.1),(.slice py12 (v9.2.2.2.2.1).length cy12),(.slice py13 (v9.2.2.2.2.2.1).length cy13),(i64 v9.2.2.2.2.2.2.1),(i64 v9.2.2.2.2.2.2.2.1),(i64 v9.2.2.2.2.2.2.2.2.1),(i64 v9.2.2.2.2.2.2.2.2.2.1)]) (vw.bx (st.at (i:=1) rfl)) rfl zb) ?_
   refine zd st.d dw (fun hm vw=>za zb) ?_;obtain ⟨v74,e75,hF⟩:=zm hF;refine yj st.d dw (fun hm vw=>yl (ct55 N e75 vw.d (vw.sub st) (RowF.mono le69 ry12) (RowF.mono le69 ry13)) (fun n' hn'=>yk hn')) (fun n76 hn' dw=>?_);refine Yw st.d dw (fun hm vw=>jw zb) (fun done dw=>?_);refine Yw st.d dw (fun hm vw=>jw zb) (fun done dw=>?_);refine ye st.d dw rfl (fun h77 ex vs=>?_)
   have st:=St.laid st ex (Lay.cons (b:=n76) (cs:=[(i64 0),(i64 0)]) (by have:=dw.le;omega) (vs _ (List.mem_cons_of_mem _ (List.mem_cons_self ..)) _ _ (if_pos rfl)) (Lay.cons (b:=(n76+1)) (cs:=[(i64 0),(i64 0)]) (by have:=dw.le;omega) (vs _ (List.mem_cons_self ..) _ _ (if_pos rfl)) (Lay.nil (by have:=dw.le;omega))))
   refine v_st (cs':=[(i64 v71.1),(i64 v71.2)]) st 2 rfl rfl rfl rfl hfl (fun h78 st=>?_);refine v_st (cs':=[(i64 v74.1),(i64 v74.2)]) st 3 rfl rfl rfl rfl hfl (fun h79 st=>?_);refine zf (th_n ?_);refine zg ?_;refine zg (zh ?_);refine za ?_;refine zf (th_n ?_);refine zE ?_;obtain ⟨y281,hy,hF⟩:=zm hF;refine z5 (sf10_L1 N a0_1 v9 v28 v71 v74) (fun x80 T ds81 h nx=>∃ (F81:PH),ds81 = [] ∧ PH.le F52 F81 ∧ St n0 h0 F0 F81 h nx [.bx b1 [(i64 a0_0),(i64 a0_1),(i64 a0_2),(i64 a0_3),(.slice pa0_4 (a0_4).length ca0_4),(.slice pa0_5 (a0_5).length ca0_5),(i64 a0_6),(i64 a0_7),(i64 a0_8),(i64 a0_9)],.bx b15 [(i64 v9.1),(i64 v9.2.1),(i64 v9.2.2.1),(i64 v9.2.2.2.1),(.slice py12 (v9.2.2.2.2.1).length cy12),(.slice py13 (v9.2.2.2.2.2.1).length cy13),(i64 v9.2.2.2.2.2.2.1),(i64 v9.2.2.2.2.2.2.2.1),(i64 v9.2.2.2.2.2.2.2.2.1),(i64 v9.2.2.2.2.2.2.2.2.2.1)],.bx n76 [(i64 v71.1),(i64 v71.2)],.bx (n76+1) [(i64 v74.1),(i64 v74.2)]] ∧ T.get 9 = some (.ptr (some (b15,0))) ∧ T.get 12 = some (i64 a0_1) ∧ T.get 13 = some (.slice py33 (v28.1).length cy33) ∧ T.get 15 = some (.ptr (some (n76,0))) ∧ T.get 16 = some (.ptr (some ((n76+1),0))) ∧ T.get 17 = some (i64 x80)) (fun y e a σ=>(∃ u,y = (.inl u) ∧ e = .ret ∧ a.nt = 183 ∧ ∃ (F283:PH),a.defers = [] ∧ PH.le F52 F283 ∧ St n0 h0 F0 F283 σ.h σ.nx [.bx b1 [(i64 a0_0),(i64 a0_1),(i64 a0_2),(i64 a0_3),(.slice pa0_4 (a0_4).length ca0_4),(.slice pa0_5 (a0_5).length ca0_5),(i64 a0_6),(i64 a0_7),(i64 a0_8),(i64 a0_9)],.bx b15 [(i64 v9.1),(i64 v9.2.1),(i64 v9.2.2.1),(i64 v9.2.2.2.1),(.slice py12 (v9.2.2.2.2.1).length cy12),(.slice py13 (v9.2.2.2.2.2.1).length cy13),(i64 v9.2.2.2.2.2.2.1),(i64 v9.2.2.2.2.2.2.2.1),(i64 v9.2.2.2.2.2.2.2.2.1),(i64 v9.2.2.2.2.2.2.2.2.2.1)],.bx n76 [(i64 v71.1),(i64 v71.2)],.bx (n76+1) [(i64 v74.1),(i64 v74.2)]] ∧ a.tmps.get 8 = some (.bool false)) ∨ (∃ u,y = (.inr u) ∧ e = .exit 0 ∧ a.nt = 183 ∧ ∃ (F285:PH),a.defers = [] ∧ PH.le F52 F285 ∧ St n0 h0 F0 F285 σ.h σ.nx [.bx b1 [(i64 a0_0),(i64 a0_1),(i64 a0_2),(i64 a0_3),(.slice pa0_4 (a0_4).length ca0_4),(.slice pa0_5 (a0_5).length ca0_5),(i64 a0_6),(i64 a0_7),(i64 a0_8),(i64 a0_9)],.bx b15 [(i64 v9.1),(i64 v9.2.1),(i64 v9.2.2.1),(i64 v9.2.2.2.1),(.slice py12 (v9.2.2.2.2.1).length cy12),(.slice py13 (v9.2.2.2.2.2.1).length cy13),(i64 v9.2.2.2.2.2.2.1),(i64 v9.2.2.2.2.2.2.2.1),(i64 v9.2.2.2.2.2.2.2.2.1),(i64 v9.2.2.2.2.2.2.2.2.2.1)],.bx n76 [(i64 v71.1),(i64 v71.2)],.bx (n76+1) [(i64 v74.1),(i64 v74.2)]])) (fun x80 T ds81 h nx s hp hF=>?_) N _ y281 _ _ _ _ hy ⟨F52,rfl,(PH.le.refl _),st,gA,gA,gA,gA,gA,gA⟩ (fun e a σ hne hq=>?_)
   ·obtain ⟨F81,rfl,le81,st,t9,t12,t13,t15,t16,t17⟩:=hp
    have le83:=PH.le.trans le69 le81
    have le85:=PH.le.trans le52 le81
    unfold sf10_L1 at hF;unfold L10w0;refine zg ?_;refine zg (zh ?_);refine za ?_;refine za ?_;refine yA ?_;refine yg ?_;refine zf (th_n ?_);refine zB (fun hb286=>?_) (fun hb286=>?_)
    ·have hF:=zw hb286 hF;refine zA (th_n ?_);refine zg ?_;refine zE ?_;refine zg ?_;refine zV (Nat.le_trans hfl st.ext.le) (fun dw=>?_);refine zd st.d dw (fun hm vw=>v_fa zb) ?_;refine zd st.d dw (fun hm vw=>zK (vs:=[(i64 v9.1),(i64 v9.2.1),(i64 v9.2.2.1),(i64 v9.2.2.2.1)]) (vw.bx (st.at (i:=1) rfl)) rfl zb) ?_;obtain ⟨v287,e288,hF⟩:=zm hF;refine yj st.d dw (fun hm vw=>yl (ct59 N e288 vw.d (vw.sub st) ) (fun n' hn'=>yk hn')) (fun n289 hn' dw=>?_);refine zd st.d dw (fun hm vw=>v_fa zb) ?_;refine zd st.d dw (fun hm vw=>zq (vw.bx (st.at (i:=1) rfl)) rfl zb) ?_;refine ye st.d dw rfl (fun h290 ex vs=>?_)
     have st:=st.ext1 ex
     obtain ⟨v291,e292,hF⟩:=zm hF;refine yC st (ct60 N e292 st.d st.sub (Nat.le_trans hfl st.ext.le) (RowF.mono le83 ry12)) (fun u293 F293 h293 n293 le293 rv293 st=>?_)
     have le295:=PH.le.trans le83 le293
     have le297:=PH.le.trans le85 le293
     have le298:=PH.le.trans le81 le293
     obtain ⟨py299,cy299,rfl,ry299⟩:=rv293;refine za ?_;obtain ⟨v300,e301,hF⟩:=zm hF;refine yC st (ct58 N e301 st.d st.sub (Nat.le_trans hfl st.ext.le) ry299) (fun u302 F302 h302 n302 le302 rv302 st=>?_)
     have le304:=PH.le.trans le295 le302
     have le306:=PH.le.trans le297 le302
     have le307:=PH.le.trans le298 le302
     obtain ⟨_,_,rfl,⟨py309,cy309,rfl,ry309⟩,rfl⟩:=rv302;refine za ?_;refine v_xt rfl ?_;refine v_xt rfl ?_;refine za ?_;refine za ?_;refine zf (th_n ?_);refine zg ?_;refine zV (Nat.le_trans hfl st.ext.le) (fun dw=>?_);refine zd st.d dw (fun hm vw=>v_fa zb) ?_;refine zd st.d dw (fun hm vw=>zK (vs:=[(i64 v9.1),(i64 v9.2.1),(i64 v9.2.2.1),(i64 v9.2.2.2.1)]) (vw.bx (st.at (i:=1) rfl)) rfl zb) ?_;obtain ⟨v310,e311,hF⟩:=zm hF;refine yj st.d dw (fun hm vw=>yl (ct59 N e311 vw.d (vw.sub st) ) (fun n' hn'=>yk hn')) (fun n312 hn' dw=>?_);refine zd st.d dw (fun hm vw=>v_fa zb) ?_
     refine zd st.d dw (fun hm vw=>zq (vw.bx (st.at (i:=1) rfl)) rfl zb) ?_;refine ye st.d dw rfl (fun h313 ex vs=>?_)
     have st:=st.ext1 ex
     obtain ⟨v314,e315,hF⟩:=zm hF;refine yC st (ct60 N e315 st.d st.sub (Nat.le_trans hfl st.ext.le) (RowF.mono le304 ry12)) (fun u316 F316 h316 n316 le316 rv316 st=>?_)
     have le318:=PH.le.trans le304 le316
     have le320:=PH.le.trans le306 le316
     have le321:=PH.le.trans le307 le316
     obtain ⟨py324,cy324,rfl,ry324⟩:=rv316;refine za ?_;obtain ⟨v325,e326,hF⟩:=zm hF;refine yC st (ct58 N e326 st.d st.sub (Nat.le_trans hfl st.ext.le) ry324) (fun u327 F327 h327 n327 le327 rv327 st=>?_)
     have le329:=PH.le.trans le318 le327
     have le331:=PH.le.trans le320 le327
     have le332:=PH.le.trans le321 le327
     have le335:=PH.le.trans le316 le327
     obtain ⟨_,_,rfl,⟨py336,cy336,rfl,ry336⟩,rfl⟩:=rv327;refine za ?_;refine v_xt rfl ?_;refine v_xt rfl ?_;refine za ?_;refine za ?_;refine zf (th_n ?_);obtain ⟨y369,hA370,hF⟩:=zm hF;refine yG (fun T ds375 h nx=>∃ u,y369 = (.inr u) ∧ ∃ (F375:PH),ds375 = [] ∧ PH.le F327 F375 ∧ St n0 h0 F0 F375 h nx [.bx b1 [(i64 a0_0),(i64 a0_1),(i64 a0_2),(i64 a0_3),(.slice pa0_4 (a0_4).length ca0_4),(.slice pa0_5 (a0_5).length ca0_5),(i64 a0_6),(i64 a0_7),(i64 a0_8),(i64 a0_9)],.bx b15 [(i64 v9.1),(i64 v9.2.1),(i64 v9.2.2.1),(i64 v9.2.2.2.1),(.slice py12 (v9.2.2.2.2.1).length cy12),(.slice py13 (v9.2.2.2.2.2.1).length cy13),(i64 v9.2.2.2.2.2.2.1),(i64 v9.2.2.2.2.2.2.2.1),(i64 v9.2.2.2.2.2.2.2.2.1),(i64 v9.2.2.2.2.2.2.2.2.2.1)],.bx n76 [(i64 v71.1),(i64 v71.2)],.bx (n76+1) [(i64 v74.1),(i64 v74.2)]] ∧ T.get 9 = some (.ptr (some (b15,0))) ∧ T.get 12 = some (i64 a0_1) ∧ T.get 13 = some (.slice py33 (v28.1).length cy33) ∧ T.get 15 = some (.ptr (some (n76,0))) ∧ T.get 16 = some (.ptr (some ((n76+1),0))) ∧ T.get 17 = some (i64 x80) ∧ T.get 18 = some (.slice py309 (v300.1).length cy309) ∧ T.get 20 = some (.slice py336 (v325.1).length cy336)) ?_ (fun T ds375 h nx hp=>?_)
     ·have hK371:=hF
      have hF:=hA370;obtain ⟨y385,hA386,hF⟩:=zm hF;refine yG (fun T ds388 h nx=>∃ (F388:PH),ds388 = [] ∧ PH.le F327 F388 ∧ St n0 h0 F0 F388 h nx [.bx b1 [(i64 a0_0),(i64 a0_1),(i64 a0_2),(i64 a0_3),(.slice pa0_4 (a0_4).length ca0_4),(.slice pa0_5 (a0_5).length ca0_5),(i64 a0_6),(i64 a0_7),(i64 a0_8),(i64 a0_9)],.bx b15 [(i64 v9.1),(i64 v9.2.1),(i64 v9.2.2.1),(i64 v9.2.2.2.1),(.slice py12 (v9.2.2.2.2.1).length cy12),(.slice py13 (v9.2.2.2.2.2.1).length cy13),(i64 v9.2.2.2.2.2.2.1),(i64 v9.2.2.2.2.2.2.2.1),(i64 v9.2.2.2.2.2.2.2.2.1),(i64 v9.2.2.2.2.2.2.2.2.2.1)],.bx n76 [(i64 v71.1),(i64 v71.2)],.bx (n76+1) [(i64 v74.1),(i64 v74.2)]] ∧ T.get 9 = some (.ptr (some (b15,0))) ∧ T.get 12 = some (i64 a0_1) ∧ T.get 13 = some (.slice py33 (v28.1).length cy33) ∧ T.get 15 = some (.ptr (some (n76,0))) ∧ T.get 16 = some (.ptr (some ((n76+1),0))) ∧ T.get 17 = some (i64 x80) ∧ T.get 18 = some (.slice py309 (v300.1).length cy309) ∧ T.get 20 = some (.slice py336 (v325.1).length cy336) ∧ T.get 115 = some (.bool y385)) ?_ (fun T ds388 h nx hp=>?_)
      ·have hK387:=hF
       have hF:=hA386;refine zh ?_;refine za ?_;refine va ?_;refine za ?_
       rcases Bool.eq_false_or_eq_true (!(decide (v300.2 = (0:Int)))) with hb389 | hb389
       ·have hF:=zw hb389 hF;refine ze hb389 ?_;refine ze hb389 ?_;refine zG hb389 ?_;refine za ?_;refine ze rfl ?_;refine ze rfl ?_;refine ze rfl ?_;refine ze rfl ?_;refine ze rfl ?_;refine ze rfl ?_;refine ze rfl ?_;refine zG rfl ?_;refine za ?_;refine ze rfl ?_;refine ze rfl ?_;refine ze rfl ?_;refine ze rfl ?_;refine ze rfl ?_;refine ze rfl ?_;refine ze rfl ?_;refine zG rfl ?_;refine zf ?_;obtain rfl:=inj hF;refine thn ⟨rfl,?_⟩;dsimp only
        exact ⟨F327,rfl,(PH.le.refl _),st,gA,gA,gA,gA,gA,gA,gA,gA,gA⟩
       ·have hF:=zx hb389 hF;refine zi hb389 (za ?_);refine zi hb389 (va ?_);refine zC hb389 ?_;refine za ?_
        rcases Bool.eq_false_or_eq_true (!(decide (v325.2 = (0:Int)))) with hb390 | hb390
        ·have hF:=zw hb390 hF;refine ze hb390 ?_;refine ze hb390 ?_;refine ze hb390 ?_;refine ze hb390 ?_;refine ze hb390 ?_;refine ze hb390 ?_;refine ze hb390 ?_;refine zG hb390 ?_;refine za ?_;refine ze rfl ?_;refine ze rfl ?_;refine ze rfl ?_;refine ze rfl ?_;refine ze rfl ?_;refine ze rfl ?_;refine ze rfl ?_;refine zG rfl ?_;refine zf ?_;obtain rfl:=inj hF;refine thn ⟨rfl,?_⟩;dsimp only
         exact ⟨F327,rfl,(PH.le.refl _),st,gA,gA,gA,gA,gA,gA,gA,gA,gA⟩
        ·have hF:=zx hb390 hF;refine zi hb390 (v_fa ?_);refine zi hb390 (zK (vs:=[(i64 v9.1),(i64 v9.2.1),(i64 v9.2.2.1),(i64 v9.2.2.2.1)]) (st.at (i:=1) rfl).2.2 rfl ?_);refine zi hb390 (v_fa ?_);refine zi hb390 (zq (st.at (i:=1) rfl).2.2 rfl ?_);refine zi hb390 (za ?_);obtain ⟨v391,e392,hF⟩:=zm hF;refine zi hb390 (zI st (ct61 N e392 st.d st.sub (RowF.mono le329 ry12) (RowF.mono le335 ry309)) (fun n393 st=>?_));refine zi hb390 (yo ?_);refine zC hb390 ?_;refine za ?_
         rcases Bool.eq_false_or_eq_true (!v391) with hb394 | hb394
         ·have hF:=zw hb394 hF;refine ze hb394 ?_;refine ze hb394 ?_;refine ze hb394 ?_;refine ze hb394 ?_;refine ze hb394 ?_;refine ze hb394 ?_;refine ze hb394 ?_;refine zG hb394 ?_;refine zf ?_;obtain rfl:=inj hF;refine thn ⟨rfl,?_⟩;dsimp only
          exact ⟨F327,rfl,(PH.le.refl _),st,gA,gA,gA,gA,gA,gA,gA,gA,gA⟩
         ·have hF:=zx hb394 hF;refine zi hb394 (v_fa ?_);refine zi hb394 (zK (vs:=[(i64 v9.1),(i64 v9.2.1),(i64 v9.2.2.1),(i64 v9.2.2.2.1)]) (st.at (i:=1) rfl).2.2 rfl ?_);refine zi hb394 (v_fa ?_);refine zi hb394 (zq (st.at (i:=1) rfl).2.2 rfl ?_);refine zi hb394 (za ?_);obtain ⟨v395,e396,hF⟩:=zm hF;refine zi hb394 (zI st (ct61 N e396 st.d st.sub (RowF.mono le329 ry12) ry336) (fun n397 st=>?_));refine zi hb394 (yo ?_);refine zC hb394 ?_;refine zf ?_;obtain rfl:=inj hF;refine thn ⟨rfl,?_⟩;dsimp only
          exact ⟨F327,rfl,(PH.le.refl _),st,gA,gA,gA,gA,gA,gA,gA,gA,gA⟩
      ·obtain ⟨F388,rfl,le388,st,t9,t12,t13,t15,t16,t17,t18,t20,t115⟩:=hp
       have le402:=PH.le.trans le332 le388
       refine zB (fun hb407=>?_) (fun hb407=>?_)
       ·have hF:=zw hb407 hF;refine zg (zh ?_);refine za ?_;refine zf (th_n ?_);refine zu ?_;obtain rfl:=inj hF;have hF:=hK371;have hF:=vg hF;refine th_r ?_;refine ib_r ?_;refine th_r ?_;refine th_r ?_;refine ⟨_,(inj hF).symm,.inl ⟨_,rfl,rfl,rfl,?_⟩⟩;dsimp only
        exact ⟨F388,rfl,le402,st,gA⟩
       ·have hF:=zx hb407 hF;refine zA ?_;obtain rfl:=inj hF;refine thn ⟨rfl,_,rfl,?_⟩;dsimp only
        exact ⟨F388,rfl,le388,st,gA,gA,gA,gA,gA,gA,gA,gA⟩
     ·obtain ⟨w374,rfl,F375,rfl,le375,st,t9,t12,t13,t15,t16,t17,t18,t20⟩:=hp;have hF:=ve hF
      have le420:=PH.le.trans le331 le375
      have le421:=PH.le.trans le332 le375
      have le424:=PH.le.trans le335 le375
      refine zg ?_;refine zV (Nat.le_trans hfl st.ext.le) (fun dw=>?_);refine zd st.d dw (fun hm vw=>za zb) ?_;refine zd st.d dw (fun hm vw=>za zb) ?_;obtain ⟨v426,e427,hF⟩:=zm hF;refine yj st.d dw (fun hm vw=>yl (ct56 N e427 vw.d (vw.sub st) (RowF.mono le424 ry309)) (fun n' hn'=>yk hn')) (fun n428 hn' dw=>?_);refine zd st.d dw (fun hm vw=>v_fa zb) ?_;refine zd st.d dw (fun hm vw=>zq (vw.bx (st.at (i:=2) rfl)) rfl zb) ?_;obtain ⟨q429,hF⟩:=zj hF;refine zd st.d dw (fun hm vw=>yL q429 zb) ?_;refine zd st.d dw (fun hm vw=>v_fa zb) ?_;refine zd st.d dw (fun hm vw=>zq (vw.bx (st.at (i:=3) rfl)) rfl zb) ?_
      refine zd st.d dw (fun hm vw=>za zb) ?_;obtain ⟨q430,hF⟩:=zj hF;refine zd st.d dw (fun hm vw=>yL q430 zb) ?_;obtain ⟨q431,hF⟩:=zj hF;refine zd st.d dw (fun hm vw=>yq q431 zb) ?_;refine zd st.d dw (fun hm vw=>za zb) ?_;refine zd st.d dw (fun hm vw=>za zb) ?_;obtain ⟨v432,e433,hF⟩:=zm hF;refine yj st.d dw (fun hm vw=>yl (ct56 N e433 vw.d (vw.sub st) (RowF.mono le375 ry336)) (fun n' hn'=>yk hn')) (fun n434 hn' dw=>?_);refine zd st.d dw (fun hm vw=>v_fa zb) ?_;refine zd st.d dw (fun hm vw=>zq (vw.bx (st.at (i:=2) rfl)) rfl zb) ?_;obtain ⟨q435,hF⟩:=zj hF
      refine zd st.d dw (fun hm vw=>yL q435 zb) ?_;refine zd st.d dw (fun hm vw=>v_fa zb) ?_;refine zd st.d dw (fun hm vw=>zq (vw.bx (st.at (i:=3) rfl)) rfl zb) ?_;refine ye st.d dw rfl (fun h436 ex vs=>?_)
      have st:=st.ext1 ex
      refine za ?_;obtain ⟨q437,hF⟩:=zj hF;refine yL q437 ?_;obtain ⟨q438,hF⟩:=zj hF;refine yq q438 ?_;refine za ?_;refine za ?_;refine zf (th_n ?_);obtain ⟨y452,hA453,hF⟩:=zm hF;refine yG (fun T ds455 h nx=>∃ (F455:PH),ds455 = [] ∧ PH.le F375 F455 ∧ St n0 h0 F0 F455 h nx [.bx b1 [(i64 a0_0),(i64 a0_1),(i64 a0_2),(i64 a0_3),(.slice pa0_4 (a0_4).length ca0_4),(.slice pa0_5 (a0_5).length ca0_5),(i64 a0_6),(i64 a0_7),(i64 a0_8),(i64 a0_9)],.bx b15 [(i64 v9.1),(i64 v9.2.1),(i64 v9.2.2.1),(i64 v9.2.2.2.1),(.slice py12 (v9.2.2.2.2.1).length cy12),(.slice py13 (v9.2.2.2.2.2.1).length cy13),(i64 v9.2.2.2.2.2.2.1),(i64 v9.2.2.2.2.2.2.2.1),(i64 v9.2.2.2.2.2.2.2.2.1),(i64 v9.2.2.2.2.2.2.2.2.2.1)],.bx n76 [(i64 v71.1),(i64 v71.2)],.bx (n76+1) [(i64 v74.1),(i64 v74.2)]] ∧ T.get 9 = some (.ptr (some (b15,0))) ∧ T.get 12 = some (i64 a0_1) ∧ T.get 13 = some (.slice py33 (v28.1).length cy33) ∧ T.get 15 = some (.ptr (some (n76,0))) ∧ T.get 16 = some (.ptr (some ((n76+1),0))) ∧ T.get 17 = some (i64 x80) ∧ T.get 181 = some (.bool y452)) ?_ (fun T ds455 h nx hp=>?_)
      ·have hK454:=hF
       have hF:=hA453;refine zh ?_;refine za ?_;refine za ?_;refine za ?_;obtain ⟨n456,x456,z456,l456,g456,hF⟩:=zZ hF;obtain ⟨b456,o456,s456,j456,r456,e456,f456,k456,⟨_,_,rfl,rfl,rfl⟩⟩:=RowF.get ry33 g456;refine yt e456 z456 l456 ?_;refine v_fa ?_;refine zq (st.sub _ _ (le420 _ _ f456)) (yp (j:=0) k456 rfl) ?_;refine za ?_;obtain ⟨q457,hF⟩:=zj hF;refine yL q457 ?_;refine yg ?_;refine za ?_
       rcases Bool.eq_false_or_eq_true (decide (((v426 * v71.1) - (v74.2 * a0_1)) < (x456.1 * a0_1))) with hb458 | hb458
       ·have hF:=zw hb458 hF;refine ze hb458 ?_;refine ze hb458 ?_;refine ze hb458 ?_;refine ze hb458 ?_;refine ze hb458 ?_;refine ze hb458 ?_;refine ze hb458 ?_;refine ze hb458 ?_;refine ze hb458 ?_;refine ze hb458 ?_;refine zG hb458 ?_;refine za ?_;refine ze rfl ?_;refine ze rfl ?_;refine ze rfl ?_;refine ze rfl ?_;refine ze rfl ?_;refine ze rfl ?_;refine ze rfl ?_;refine ze rfl ?_;refine ze rfl ?_;refine zG rfl ?_;refine za ?_;refine ze rfl ?_;refine ze rfl ?_;refine ze rfl ?_;refine ze rfl ?_;refine ze rfl ?_;refine ze rfl ?_;refine ze rfl ?_
        refine ze rfl ?_;refine ze rfl ?_;refine ze rfl ?_;refine zG rfl ?_;refine zf ?_;obtain rfl:=inj hF;refine thn ⟨rfl,?_⟩;dsimp only
        exact ⟨F375,rfl,(PH.le.refl _),st,gA,gA,gA,gA,gA,gA,gA⟩
       ·have hF:=zx hb458 hF;refine zi hb458 (za ?_);refine zi hb458 (za ?_);refine zi hb458 (za ?_);obtain ⟨n459,x459,z459,l459,g459,hF⟩:=zZ hF;obtain ⟨b459,o459,s459,j459,r459,e459,f459,k459,⟨_,_,rfl,rfl,rfl⟩⟩:=RowF.get ry33 g459;refine zi hb458 (yt e459 z459 l459 ?_);refine zi hb458 (v_fa ?_);refine zi hb458 (zq (st.sub _ _ (le420 _ _ f459)) (yp (j:=0) k459 rfl) ?_);obtain ⟨q460,hF⟩:=zj hF;refine zi hb458 (zO q460 ?_);refine zi hb458 (za ?_);obtain ⟨q461,hF⟩:=zj hF;refine zi hb458 (yL q461 ?_);refine zi hb458 (uq ?_);refine zC hb458 ?_;refine za ?_
        rcases Bool.eq_false_or_eq_true (decide (((x459.1+(1:Int)) * a0_1) ≤ ((v426 * v71.1) - (v74.2 * a0_1)))) with hb462 | hb462
        ·have hF:=zw hb462 hF;refine ze hb462 ?_;refine ze hb462 ?_;refine ze hb462 ?_;refine ze hb462 ?_;refine ze hb462 ?_;refine ze hb462 ?_;refine ze hb462 ?_;refine ze hb462 ?_;refine ze hb462 ?_;refine zG hb462 ?_;refine za ?_;refine ze rfl ?_;refine ze rfl ?_;refine ze rfl ?_;refine ze rfl ?_;refine ze rfl ?_;refine ze rfl ?_;refine ze rfl ?_;refine ze rfl ?_;refine ze rfl ?_;refine ze rfl ?_;refine zG rfl ?_;refine zf ?_;obtain rfl:=inj hF;refine thn ⟨rfl,?_⟩;dsimp only
         exact ⟨F375,rfl,(PH.le.refl _),st,gA,gA,gA,gA,gA,gA,gA⟩
        ·have hF:=zx hb462 hF;refine zi hb462 (za ?_);refine zi hb462 (za ?_);refine zi hb462 (za ?_);obtain ⟨n463,x463,z463,l463,g463,hF⟩:=zZ hF;obtain ⟨b463,o463,s463,j463,r463,e463,f463,k463,⟨_,_,rfl,rfl,rfl⟩⟩:=RowF.get ry33 g463;refine zi hb462 (yt e463 z463 l463 ?_);refine zi hb462 (v_fa ?_);refine zi hb462 (zq (st.sub _ _ (le420 _ _ f463)) (yp (j:=1) k463 rfl) ?_);refine zi hb462 (za ?_);obtain ⟨q464,hF⟩:=zj hF;refine zi hb462 (yL q464 ?_);refine zi hb462 (vV ?_);refine zC hb462 ?_;refine za ?_
         rcases Bool.eq_false_or_eq_true (decide ((x463.2 * a0_1) < ((v432 * v71.2) - (v74.1 * a0_1)))) with hb465 | hb465
         ·have hF:=zw hb465 hF;refine ze hb465 ?_;refine ze hb465 ?_;refine ze hb465 ?_;refine ze hb465 ?_;refine ze hb465 ?_;refine ze hb465 ?_;refine ze hb465 ?_;refine ze hb465 ?_;refine ze hb465 ?_;refine ze hb465 ?_;refine zG hb465 ?_;refine zf ?_;obtain rfl:=inj hF;refine thn ⟨rfl,?_⟩;dsimp only
          exact ⟨F375,rfl,(PH.le.refl _),st,gA,gA,gA,gA,gA,gA,gA⟩
         ·have hF:=zx hb465 hF;refine zi hb465 (za ?_);refine zi hb465 (za ?_);refine zi hb465 (za ?_);obtain ⟨n466,x466,z466,l466,g466,hF⟩:=zZ hF;obtain ⟨b466,o466,s466,j466,r466,e466,f466,k466,⟨_,_,rfl,rfl,rfl⟩⟩:=RowF.get ry33 g466;refine zi hb465 (yt e466 z466 l466 ?_);refine zi hb465 (v_fa ?_);refine zi hb465 (zq (st.sub _ _ (le420 _ _ f466)) (yp (j:=1) k466 rfl) ?_);obtain ⟨q467,hF⟩:=zj hF;refine zi hb465 (yq q467 ?_);refine zi hb465 (za ?_);obtain ⟨q468,hF⟩:=zj hF;refine zi hb465 (yL q468 ?_);refine zi hb465 (yx ?_);refine zC hb465 ?_
          refine zf ?_;obtain rfl:=inj hF;refine thn ⟨rfl,?_⟩;dsimp only
          exact ⟨F375,rfl,(PH.le.refl _),st,gA,gA,gA,gA,gA,gA,gA⟩
      ·obtain ⟨F455,rfl,le455,st,t9,t12,t13,t15,t16,t17,t181⟩:=hp
       have le473:=PH.le.trans le421 le455
       refine zB (fun hb479=>?_) (fun hb479=>?_)
       ·have hF:=zw hb479 hF;refine zg (zh ?_);refine za ?_;refine zf (th_n ?_);refine zu ?_;refine ib_r ?_;refine th_r ?_;refine th_r ?_;refine ⟨_,(inj hF).symm,.inl ⟨_,rfl,rfl,rfl,?_⟩⟩;dsimp only
        exact ⟨F455,rfl,le473,st,gA⟩
       ·have hF:=zx hb479 hF;refine zA ?_;refine ib_n ?_;refine th_n ?_;refine zh ?_;refine za ?_;obtain ⟨q480,hF⟩:=zj hF;refine zO q480 ?_;refine za ?_;refine zf ?_;refine thn ⟨_,(inj hF).symm,rfl,?_⟩;dsimp only
        exact ⟨F455,rfl,le473,st,gA,gA,gA,gA,gA,gA⟩
    ·have hF:=zx hb286 hF;refine ya ?_;refine th_e ?_;refine th_e ?_;refine ⟨_,(inj hF).symm,.inr (⟨_,rfl,rfl,rfl,?_⟩)⟩;dsimp only
     exact ⟨F81,rfl,le81,st⟩
   ·rcases hq with hq | hq
    ·obtain ⟨N9,T,ds283⟩:=a;obtain ⟨h485,n486⟩:=σ;obtain ⟨w282,rfl,rfl,e1,F283,e2,le283,st,t8⟩:=hq
     dsimp only at e1 e2
     subst e1
     subst e2
     dsimp only at st t8
     have hF:=vg hF;refine ib_r ?_;refine th_r ?_;obtain rfl:=inj hF
     exact zD st (Res.t gA Res.nil) rfl rfl
    ·obtain ⟨N9,T,ds285⟩:=a;obtain ⟨h491,n492⟩:=σ;obtain ⟨w284,rfl,rfl,e1,F285,e2,le285,st⟩:=hq
     dsimp only at e1 e2
     subst e1
     subst e2
     dsimp only at st
     have hF:=ve hF;refine ib_e ?_;refine th_n ?_;refine zg (zh ?_);refine zI st (ct_wakes (h:=_) (nx:=_)) (fun n493 st=>?_);refine za ?_;refine zf (th_n ?_);refine zu ?_;obtain rfl:=inj hF
     exact zD st (Res.t gA Res.nil) rfl rfl
end Go.Hx.V


namespace Go.Hx.V
open Go.Hx
theorem uc {α β : Type} {step : α → Option (α ⊕ β)} (P : α → Prop) (m : α → Nat) (Y : β → Prop)
  (h : ∀ x, P x → (∃ x', step x = some (.inl x') ∧ P x' ∧ m x' < m x) ∨ ∃ y, step x = some (.inr y) ∧ Y y) : ∀ (N : Nat) (x : α), P x → m x < N → ∃ y, iter step N x = some y ∧ Y y
 | 0, x, hp, hm => by omega
 | N + 1, x, hp, hm => by
  unfold iter
  rcases h x hp with ⟨x', e, hp', hm'⟩ | ⟨y, e, hy⟩
  ·rw [e]; exact uc P m Y h N x' hp' (by omega)
  ·rw [e]; exact ⟨y, rfl, hy⟩
theorem Xy {α β : Type} {step : α → Option (α ⊕ β)} (s : Nat → α) (y : β) : ∀ (n i N : Nat), (∀ j, i ≤ j → j < i + n → step (s j) = some (.inl (s (j + 1)))) → step (s (i + n)) = some (.inr y) → n < N → iter step N (s i) = some y
 | 0, i, N, hs, he, hN => by
  obtain ⟨N, rfl⟩ : ∃ k, N = k + 1 := ⟨N - 1, by omega⟩
  unfold iter; rw [Nat.add_zero] at he; rw [he]; rfl
 | n + 1, i, N, hs, he, hN => by
  obtain ⟨N, rfl⟩ : ∃ k, N = k + 1 := ⟨N - 1, by omega⟩
  unfold iter
  rw [hs i (by omega) (by omega)]
  exact Xy s y n (i + 1) N (fun j h1 h2 => hs j (by omega) (by omega)) (by rw [show i + 1 + n = i + (n + 1) by omega]; exact he) (by omega)
theorem yF {α β : Type} {step : α → Option (α ⊕ β)} {x : α} {N : Nat} (s : Nat → α) (n : Nat) (y : β) (hx : x = s 0) (hs : ∀ j, j < n → step (s j) = some (.inl (s (j + 1)))) (he : step (s n) = some (.inr y)) (hN : n < N) : iter step N x = some y := by
 subst hx
 exact Xy s y n 0 N (fun j _ h2 => hs j (by omega)) (by rw [Nat.zero_add]; exact he) hN
theorem j0 {α β : Type} {step : α → Option (α ⊕ β)} {x : α} {N : Nat} (s : Nat → α) (n : Nat) (p : Nat → Prop) [DecidablePred p] (good bad : β) (hx : x = s 0) (hs : ∀ j, j < n → p j → step (s j) = some (.inl (s (j + 1)))) (hf : ∀ j, j < n → ¬ p j → step (s j) = some (.inr bad)) (he : step (s n) = some (.inr good)) (hN : n < N) :
  ((∀ j, j < n → p j) ∧ iter step N x = some good) ∨ (¬ (∀ j, j < n → p j) ∧ iter step N x = some bad) := by
 by_cases h : ∀ j, j < n → p j
 ·exact .inl ⟨h, yF s n good hx (fun j hj => hs j hj (h j hj)) he hN⟩
 ·refine .inr ⟨h, ?_⟩
  have h1 : ∃ j, j < n ∧ ¬ p j := by
   refine Classical.byContradiction fun hc => h fun j hj => Classical.byContradiction fun hp => hc ⟨j, hj, hp⟩
  -- the first one
  obtain ⟨j, hj, hp, hmin⟩ : ∃ j, j < n ∧ ¬ p j ∧ ∀ i, i < j → p i := by
   obtain ⟨j, hj⟩ := h1
   induction j using Nat.strongRecOn with
   | ind j ih =>
    by_cases g : ∀ i, i < j → p i
    ·exact ⟨j, hj.1, hj.2, g⟩
    ·have : ∃ i, i < j ∧ ¬ p i := Classical.byContradiction fun hc => g fun i hi => Classical.byContradiction fun hp => hc ⟨i, hi, hp⟩
     obtain ⟨i, hi, hpi⟩ := this
     exact ih i hi ⟨by omega, hpi⟩
  exact yF s j bad hx (fun i hi => hs i (by omega) (hmin i hi)) (hf j hj hp) (by omega)
theorem yd {α β : Type} {l : List α} {j : Int} {n : Nat} {x : α} {k : α → Option β} (hj : j = n) (h : l[n]? = some x) : ix l j k = k x := by
 subst hj; exact ix_pos h
theorem ix_0 {α β : Type} {l : List α} {x : α} {k : α → Option β} (h : l[0]? = some x) : ix l (0 : Int) k = k x := yd (n := 0) rfl h
theorem yf {α : Type} {l : List α} {n : Nat} (h : n < l.length) : l[n]? = some l[n] := List.getElem?_eq_getElem h
theorem yE {α : Type} {l : List α} {n : Nat} {x : α} (h : l[n]? = some x) : n < l.length := by
 rcases Nat.lt_or_ge n l.length with g | g
 ·exact g
 ·rw [List.getElem?_eq_none g] at h; cases h
theorem vJ {α : Type} {l : List α} {n : Nat} {x : α} (h : l[n]? = some x) : l.take (n + 1) = l.take n ++ [x] := by
 rw [List.take_add_one, h]; rfl
end Go.Hx.V

namespace Go.Hx.V
open Go.Hx
def lI (T f g m : Int) (x y : Int × (Nat → Int)) : Option ((Int × (Nat → Int)) ⊕ (Nat → Int)) :=
 (bif (decide (y.1 < T)) then (ck (0 ≤ g ∧ g < 13) ((ck (0 ≤ y.1 ∧ y.1 < 13) ((ck (rng (((x.2 (((Int.toNat x.1) * 13) + (Int.toNat f))) + m) + (y.2 (((Int.toNat g) * 13) + (Int.toNat y.1))))) ((ck (0 ≤ x.1 ∧ x.1 < 13) ((ck (0 ≤ y.1 ∧ y.1 < 13) ((bif (decide ((((x.2 (((Int.toNat x.1) * 13) + (Int.toNat f))) + m) + (y.2 (((Int.toNat g) * 13) + (Int.toNat y.1)))) < (y.2 (((Int.toNat x.1) * 13) + (Int.toNat y.1))))) then (ck (0 ≤ x.1 ∧ x.1 < 13) ((ck (0 ≤ y.1 ∧ y.1 < 13) ((ck (rng (y.1 + (1 : Int))) (some (.inl ((y.1 + (1 : Int)), (ups y.2 (((Int.toNat x.1) * 13) + (Int.toNat y.1)) (((x.2 (((Int.toNat x.1) * 13) + (Int.toNat f))) + m) + (y.2 (((Int.toNat g) * 13) + (Int.toNat y.1))))))))))))) else (ck (rng (y.1 + (1 : Int))) (some (.inl ((y.1 + (1 : Int)), y.2))))))))))))))) else some (.inr y.2))
def lO (N : Nat) (T f g m : Int) (x : Int × (Nat → Int)) : Option ((Int × (Nat → Int)) ⊕ (Nat → Int)) :=
 (bif (decide (x.1 < T)) then (ck (0 ≤ x.1 ∧ x.1 < 13) ((ck (0 ≤ f ∧ f < 13) ((ck (rng ((x.2 (((Int.toNat x.1) * 13) + (Int.toNat f))) + m)) ((ck (0 ≤ x.1 ∧ x.1 < 13) ((ck (0 ≤ g ∧ g < 13) ((bif (decide ((x.2 (((Int.toNat x.1) * 13) + (Int.toNat g))) ≤ ((x.2 (((Int.toNat x.1) * 13) + (Int.toNat f))) + m))) then (ck (rng (x.1 + (1 : Int))) (some (.inl ((x.1 + (1 : Int)), x.2)))) else bnd (iter (lI T f g m x) N ((0 : Int), x.2)) (fun y133 => (ck (rng (x.1 + (1 : Int))) (some (.inl ((x.1 + (1 : Int)), y133)))))))))))))))) else some (.inr x.2))
theorem l96_2 (N : Nat) (T f g m : Int) : sf154_L2 N T f g m = lO N T f g m := rfl
theorem l96_4 (N : Nat) (T f g m : Int) : sf154_L4 N T f g m = lO N T (g + 1) f ((-m) - 1) := rfl
theorem l97_6 (N : Nat) (n t : Int) : sf153_L6 N n t = lO N (n + 1) 0 n t := rfl
theorem l97_8 (N : Nat) (n t : Int) : sf153_L8 N n t = lO N (n + 1) n 0 (-t) := rfl
theorem toN (a : Nat) : Int.toNat (a : Int) = a := Int.toNat_natCast a
theorem dv {a b : Nat} (h : b < 13) : (a * 13 + b) / 13 = a := by omega
theorem md {a b : Nat} (h : b < 13) : (a * 13 + b) % 13 = b := by omega
def rowR (i f g : Nat) (m : Int) (F : Nat → Int) (j : Nat) : Nat → Int := fun q => if q / 13 = i ∧ q % 13 < j then min (F q) (F (i * 13 + f) + m + F (g * 13 + q % 13)) else F q
theorem lI_run {n i f g N : Nat} {m : Int} {F : Nat → Int} (hn : n ≤ 12) (hi : i ≤ n) (hf : f ≤ n) (hg : g ≤ n) (hne : g ≠ i) (hb : ∀ j, j ≤ n → rng (F (i * 13 + f) + m + F (g * 13 + j))) (hN : n + 1 < N) :
  iter (lI ((n : Int) + 1) f g m ((i : Int), F)) N ((0 : Int), F) = some (rowR i f g m F (n + 1)) := by
 refine yF (fun j => ((j : Int), rowR i f g m F j)) (n + 1) _ ?_ (fun j hj => ?_) ?_ hN
 ·refine Prod.ext rfl ?_
  funext q
  unfold rowR
  dsimp only
  rw [if_neg (by omega)]
 ·have e1 : rowR i f g m F j (g * 13 + j) = F (g * 13 + j) := by unfold rowR; rw [if_neg (by omega)]
  have e2 : rowR i f g m F j (i * 13 + j) = F (i * 13 + j) := by unfold rowR; rw [if_neg (by omega)]
  unfold lI
  simp only [toN]
  rw [show decide ((j : Int) < (n : Int) + 1) = true from decide_eq_true (by omega), cond_true, zp (by omega), zp (by omega), e1, e2, zp (hb j (by omega)), zp (by omega), zp (by omega)]
  have hr : rng ((j : Int) + 1) := by unfold rng; omega
  by_cases hc : F (i * 13 + f) + m + F (g * 13 + j) < F (i * 13 + j)
  ·rw [decide_eq_true hc, cond_true, zp (by omega), zp (by omega), zp hr]
   congr 3
   funext q
   unfold ups rowR
   by_cases hq : q = i * 13 + j
   ·subst hq
    rw [if_pos rfl, if_pos (by omega), md (by omega)]; omega
   ·rw [if_neg hq]
    by_cases h1 : q / 13 = i ∧ q % 13 < j
    ·rw [if_pos h1, if_pos (by omega)]
    ·rw [if_neg h1, if_neg (by omega)]
  ·rw [decide_eq_false hc, cond_false, zp hr]
   congr 3
   funext q
   unfold rowR
   by_cases hq : q = i * 13 + j
   ·subst hq
    rw [if_neg (by omega), if_pos (by omega), md (by omega)]; omega
   ·by_cases h1 : q / 13 = i ∧ q % 13 < j
    ·rw [if_pos h1, if_pos (by omega)]
    ·rw [if_neg h1, if_neg (by omega)]
 ·unfold lI
  dsimp only
  rw [show decide (((n + 1 : Nat) : Int) < (n : Int) + 1) = false from decide_eq_false (by omega), cond_false]
structure Gd (n : Nat) (F : Nat → Int) : Prop where
 tri : ∀ i j k, i ≤ n → j ≤ n → k ≤ n → F (i * 13 + k) ≤ F (i * 13 + j) + F (j * 13 + k)
 dg : ∀ i, i ≤ n → F (i * 13 + i) = 0
 ub : ∀ i j, i ≤ n → j ≤ n → F (i * 13 + j) ≤ 4000
theorem Gd.lb {n : Nat} {F : Nat → Int} (h : Gd n F) {i j : Nat} (hi : i ≤ n) (hj : j ≤ n) : -4000 ≤ F (i * 13 + j) := by
 have := h.tri i j i hi hj hi
 have := h.dg i hi
 have := h.ub j i hj hi
 omega
def rowS (n f g : Nat) (m : Int) (F : Nat → Int) (k : Nat) : Nat → Int := fun q => if q / 13 < k ∧ q % 13 ≤ n then min (F q) (F (q / 13 * 13 + f) + m + F (g * 13 + q % 13)) else F q
theorem kZ {n f g N : Nat} {m : Int} {F : Nat → Int} (hn : n ≤ 12) (hf : f ≤ n) (hg : g ≤ n) (h : Gd n F) (hm : -1000000 ≤ m ∧ m ≤ 1000000) (hc : 0 ≤ m + F (g * 13 + f)) (hN : n + 1 < N) :
  iter (lO N ((n : Int) + 1) f g m) N ((0 : Int), F) = some (rowS n f g m F (n + 1)) := by
 refine yF (fun k => ((k : Int), rowS n f g m F k)) (n + 1) _ ?_ (fun k hk => ?_) ?_ hN
 ·refine Prod.ext rfl ?_
  funext q
  unfold rowS
  dsimp only
  rw [if_neg (by omega)]
 ·have e1 : ∀ j, j ≤ n → rowS n f g m F k (k * 13 + j) = F (k * 13 + j) := fun j hj => by unfold rowS; rw [if_neg (by omega)]
  have e2 : ∀ j, j ≤ n → rowS n f g m F k (g * 13 + j) = F (g * 13 + j) := fun j hj => by
   unfold rowS
   split
   ·rw [dv (by omega), md (by omega)]; omega
   ·rfl
  have b1 := h.ub k f (by omega) hf
  have b2 := h.lb (i := k) (j := f) (by omega) hf
  unfold lO
  simp only [toN]
  rw [show decide ((k : Int) < (n : Int) + 1) = true from decide_eq_true (by omega), cond_true, zp (by omega), zp (by omega), e1 f hf, e1 g hg, zp (by unfold rng; omega), zp (by omega), zp (by omega)]
  have hr : rng ((k : Int) + 1) := by unfold rng; omega
  by_cases hs : F (k * 13 + g) ≤ F (k * 13 + f) + m
  ·rw [decide_eq_true hs, cond_true, zp hr]
   congr 3
   funext q
   unfold rowS
   by_cases h1 : q / 13 < k ∧ q % 13 ≤ n
   ·rw [if_pos h1, if_pos (by omega)]
   ·rw [if_neg h1]
    by_cases h2 : q / 13 = k ∧ q % 13 ≤ n
    ·rw [if_pos (by omega)]
     have t := h.tri k g (q % 13) (by omega) hg h2.2
     rw [h2.1]
     have e : F q = F (k * 13 + q % 13) := congrArg F (by omega)
     rw [e]; omega
    ·rw [if_neg (by omega)]
  ·have hne : g ≠ k := fun e => by
    subst e
    have := h.dg g hg
    omega
   rw [decide_eq_false hs, cond_false, lI_run hn (by omega) hf hg hne (fun j hj => by
    rw [e1 f hf, e2 j hj]
    have := h.ub g j hg hj
    have := h.lb (i := g) (j := j) hg hj
    unfold rng; omega) hN, zn, zp hr]
   congr 3
   funext q
   unfold rowR
   by_cases h2 : q / 13 = k ∧ q % 13 < n + 1
   ·rw [if_pos h2, e1 f hf, e2 (q % 13) (by omega)]
    unfold rowS
    rw [if_neg (by omega), if_pos (by omega), h2.1]
   ·rw [if_neg h2]
    unfold rowS
    by_cases h1 : q / 13 < k ∧ q % 13 ≤ n
    ·rw [if_pos h1, if_pos (by omega)]
    ·rw [if_neg h1, if_neg (by omega)]
 ·unfold lO
  dsimp only
  rw [show decide (((n + 1 : Nat) : Int) < (n : Int) + 1) = false from decide_eq_false (by omega), cond_false]
theorem s21 {N : Nat} {a b c d : Int} : sf59 N a b c d = some (a, b, c, d) := rfl
theorem s37 {N : Nat} {a b c : Int} : sf98 N a b c = some (decide (b ≤ a ∧ a ≤ c)) := by
 unfold sf98
 by_cases h : b ≤ a
 ·rw [decide_eq_true h, cond_true]; simp [h]
 ·rw [decide_eq_false h, cond_false]; simp [h]
theorem s48 {N : Nat} {p q a b : Int} : sf124 N p q a b = some (decide (a ≤ p ∧ p ≤ q ∧ q ≤ b)) := by
 unfold sf124
 rw [s37, zn]
 by_cases h : a ≤ p ∧ p ≤ q
 ·rw [decide_eq_true h, cond_true]; simp [h]
 ·rw [decide_eq_false h, cond_false]
  congr 1
  exact (decide_eq_false fun h' => h ⟨h'.1, h'.2.1⟩).symm
theorem s83 {N : Nat} {p q a b : Int} : sf169 N p q a b = some (decide (a ≤ p ∧ p ≤ q ∧ q ≤ b)) := by
 unfold sf169
 by_cases h : a ≤ p <;> by_cases h2 : p ≤ q <;> simp [h, h2]
theorem s66 {N : Nat} {p q x : Int} : sf180 N p q x = some (decide (p ≤ x ∧ x ≤ q)) := by
 unfold sf180
 by_cases h : p ≤ x <;> simp [h]
def TubeOk (n t lo hi : Int) : Prop := 1 ≤ n ∧ n ≤ 10 ∧ (1 ≤ lo ∧ lo ≤ hi ∧ hi ≤ 200) ∧ 1 ≤ t ∧ t ≤ 2000 ∧ n * lo ≤ t ∧ t ≤ n * hi
instance {n t lo hi : Int} : Decidable (TubeOk n t lo hi) := by unfold TubeOk; infer_instance
theorem kS {n a : Int} (h1 : 1 ≤ n) (h2 : n ≤ 10) (h3 : 1 ≤ a) (h4 : a ≤ 200) : 1 ≤ n * a ∧ n * a ≤ 2000 := by
 have q1 : 1 * a ≤ n * a := Int.mul_le_mul_of_nonneg_right h1 (by omega)
 have q2 : n * a ≤ 10 * a := Int.mul_le_mul_of_nonneg_right h2 (by omega)
 omega
theorem s25 {N : Nat} {n t lo hi : Int} : sf123 N n t lo hi = some (decide (TubeOk n t lo hi)) := by
 unfold sf123
 rw [s37, zn]
 by_cases h1 : 1 ≤ n ∧ n ≤ 10
 ·rw [decide_eq_true h1, cond_true, s48, zn]
  by_cases h2 : 1 ≤ lo ∧ lo ≤ hi ∧ hi ≤ 200
  ·rw [decide_eq_true h2, cond_true, s37, zn]
   by_cases h3 : 1 ≤ t ∧ t ≤ 2000
   ·have b1 := kS (a := lo) h1.1 h1.2 (by omega) (by omega)
    have b2 := kS (a := hi) h1.1 h1.2 (by omega) (by omega)
    rw [decide_eq_true h3, cond_true, zp (by unfold rng; omega), zp (by unfold rng; omega), s37, zn]
    congr 1
    by_cases h4 : n * lo ≤ t ∧ t ≤ n * hi
    ·rw [decide_eq_true h4]; exact (decide_eq_true ⟨h1.1, h1.2, h2, h3.1, h3.2, h4⟩).symm
    ·rw [decide_eq_false h4]; exact (decide_eq_false fun q => h4 q.2.2.2.2.2).symm
   ·rw [decide_eq_false h3, cond_false]
    congr 1
    exact (decide_eq_false fun q => h3 ⟨q.2.2.2.1, q.2.2.2.2.1⟩).symm
  ·rw [decide_eq_false h2, cond_false]
   congr 1
   exact (decide_eq_false fun q => h2 q.2.2.1).symm
 ·rw [decide_eq_false h1, cond_false]
  congr 1
  exact (decide_eq_false fun q => h1 ⟨q.1, q.2.1⟩).symm
theorem s23 {N : Nat} {l : List (Int × Int × Int × Int)} (h : l.length ≤ 100) (hN : 1000 ≤ N) : sf60 N l = some l := by
 unfold sf60
 have e : iter (sf60_L1 N l) N (([] : List (Int × Int × Int × Int)), (0 : Int)) = some l := by
  refine yF (fun j => (l.take j, (j : Int))) l.length l rfl (fun j hj => ?_) ?_ (by omega)
  ·obtain ⟨z, hz⟩ : ∃ z, l[j]? = some z := ⟨_, yf hj⟩
   unfold sf60_L1
   dsimp only
   rw [decide_eq_true (by omega), cond_true, yd rfl hz, yd rfl hz, yd rfl hz]
   show bnd (some (z.2.2.1, z.2.2.2)) _ = _
   rw [zn, zp (by rw [List.length_take]; omega), zp (by unfold rng; omega), vJ hz]
   rfl
  ·unfold sf60_L1
   dsimp only
   rw [decide_eq_false (by omega), cond_false, List.take_length]
 rw [e, zn]
theorem s63 {N : Nat} {n t lo hi : Int} : sf168 N n t lo hi = some (decide (TubeOk n t lo hi)) := by
 unfold sf168
 by_cases h1 : n < 1
 ·rw [decide_eq_true h1, cond_true, zn, cond_true, zn]
  show some false = _
  congr 1
  exact (decide_eq_false fun q => by have := q.1; omega).symm
 rw [decide_eq_false h1, cond_false]
 by_cases h2 : 10 < n
 ·rw [decide_eq_true h2, cond_true, zn, cond_true, zn]
  show some false = _
  congr 1
  exact (decide_eq_false fun q => by have := q.2.1; omega).symm
 rw [decide_eq_false h2, cond_false, s83, zn]
 by_cases h3 : 1 ≤ lo ∧ lo ≤ hi ∧ hi ≤ 200
 ·have b1 := kS (n := n) (a := lo) (by omega) (by omega) (by omega) (by omega)
  have b2 := kS (n := n) (a := hi) (by omega) (by omega) (by omega) (by omega)
  rw [decide_eq_true h3, zn]
  show ck _ _ = _
  rw [zp (by unfold rng; omega), zp (by unfold rng; omega)]
  by_cases h4 : t ≤ 2000
  ·rw [decide_eq_true h4, cond_true, s66, zn]
   congr 1
   by_cases h5 : n * lo ≤ t ∧ t ≤ n * hi
   ·rw [decide_eq_true h5]; exact (decide_eq_true ⟨by omega, by omega, h3, by omega, h4, h5⟩).symm
   ·rw [decide_eq_false h5]; exact (decide_eq_false fun q => h5 q.2.2.2.2.2).symm
  ·rw [decide_eq_false h4, cond_false]
   congr 1
   exact (decide_eq_false fun q => h4 q.2.2.2.2.1).symm
 ·rw [decide_eq_false h3, zn]
  show some false = _
  congr 1
  exact (decide_eq_false fun q => h3 q.2.2.1).symm
theorem s20 {N : Nat} {n t lo hi : Int} : sf150 N n t lo hi = some (if TubeOk n t lo hi then 0 else 1) := by
 unfold sf150
 rw [s63, zn]
 by_cases h : TubeOk n t lo hi
 ·rw [decide_eq_true h, if_pos h]; rfl
 ·rw [decide_eq_false h, if_neg h]; rfl
def RdOk' (n : Int) (r : Int × Int × Int × Int) : Prop := (0 ≤ r.1 ∧ r.1 < n) ∧ (r.1 ≤ r.2.1 ∧ r.2.1 ≤ n) ∧ 0 ≤ r.2.2.1 ∧ r.2.2.1 ≤ r.2.2.2 ∧ r.2.2.2 ≤ 2000
instance {n : Int} {r : Int × Int × Int × Int} : Decidable (RdOk' n r) := by unfold RdOk'; infer_instance
theorem s86 {N : Nat} {n t lo hi : Int} {r : Int × Int × Int × Int} : sf152 N n t lo hi r.1 r.2.1 r.2.2.1 r.2.2.2 = some (decide (RdOk' n r)) := by
 unfold sf152
 rw [s83, zn]
 by_cases h1 : 0 ≤ r.1
 ·by_cases h2 : r.1 < n
  ·by_cases h3 : r.1 ≤ r.2.1
   ·by_cases h4 : r.2.1 ≤ n
    ·rw [decide_eq_true h1, decide_eq_true h2, decide_eq_true h3, decide_eq_true h4, cond_true, cond_true, cond_true, cond_true]
     congr 1
     by_cases h5 : 0 ≤ r.2.2.1 ∧ r.2.2.1 ≤ r.2.2.2 ∧ r.2.2.2 ≤ 2000
     ·rw [decide_eq_true h5]; exact (decide_eq_true ⟨⟨h1, h2⟩, ⟨h3, h4⟩, h5⟩).symm
     ·rw [decide_eq_false h5]; exact (decide_eq_false fun q => h5 q.2.2).symm
    ·rw [decide_eq_true h1, decide_eq_true h2, decide_eq_true h3, decide_eq_false h4, cond_true, cond_true, cond_true, cond_false]
     congr 1; exact (decide_eq_false fun q => h4 q.2.1.2).symm
   ·rw [decide_eq_true h1, decide_eq_true h2, decide_eq_false h3, cond_true, cond_true, cond_false]
    congr 1; exact (decide_eq_false fun q => h3 q.2.1.1).symm
  ·rw [decide_eq_true h1, decide_eq_false h2, cond_true, cond_false]
   congr 1; exact (decide_eq_false fun q => h2 q.1.2).symm
 ·rw [decide_eq_false h1, cond_false]
  congr 1; exact (decide_eq_false fun q => h1 q.1.1).symm
def AllP {α : Type} (p : α → Prop) (l : List α) : Prop := ∀ x, x ∈ l → p x
theorem vH {α ε : Type} {bad : ε} {step : Int → Option (Int ⊕ (ε ⊕ Unit))} {l : List α} {p : α → Prop} [DecidablePred p] {N : Nat} (hN : l.length < N)
  (hs : ∀ (j : Nat) z, l[j]? = some z → p z → step (j : Int) = some (.inl ((j : Int) + 1)))
  (hf : ∀ (j : Nat) z, l[j]? = some z → ¬ p z → step (j : Int) = some (.inr (.inl bad)))
  (he : step (l.length : Int) = some (.inr (.inr ()))) : (AllP p l ∧ iter step N 0 = some (.inr ())) ∨ (¬ AllP p l ∧ iter step N 0 = some (.inl bad)) := by
 have H : ((∀ j, j < l.length → ∀ z, l[j]? = some z → p z) ∧ iter step N (0 : Int) = some (.inr ())) ∨ (¬ (∀ j, j < l.length → ∀ z, l[j]? = some z → p z) ∧ iter step N (0 : Int) = some (.inl bad)) := by
  haveI : DecidablePred fun (j : Nat) => ∀ z, l[j]? = some z → p z := fun j => Classical.propDecidable _
  refine j0 (fun j => (j : Int)) l.length (fun j => ∀ z, l[j]? = some z → p z) (Sum.inr () : ε ⊕ Unit) (Sum.inl bad : ε ⊕ Unit) rfl (fun j hj hp => ?_) (fun j hj hp => ?_) he hN
  ·obtain ⟨z, hz⟩ : ∃ z, l[j]? = some z := ⟨_, yf hj⟩
   exact hs j z hz (hp z hz)
  ·obtain ⟨z, hz⟩ : ∃ z, l[j]? = some z := ⟨_, yf hj⟩
   exact hf j z hz fun q => hp fun z' hz' => by rw [hz] at hz'; cases hz'; exact q
 rcases H with ⟨h1, h2⟩ | ⟨h1, h2⟩
 ·refine .inl ⟨fun x hx => ?_, h2⟩
  obtain ⟨j, hj, rfl⟩ := List.getElem_of_mem hx
  exact h1 j hj _ (yf hj)
 ·exact .inr ⟨fun q => h1 fun j hj z hz => q z (List.mem_of_getElem? hz), h2⟩
instance {α : Type} {p : α → Prop} [DecidablePred p] {l : List α} : Decidable (AllP p l) := inferInstanceAs (Decidable (∀ x, x ∈ l → p x))
theorem s68 {N : Nat} {n t lo hi : Int} {l : List (Int × Int × Int × Int)} (h : l.length ≤ 100) (hN : 1000 ≤ N) : sf151 N l n t lo hi = some (decide (AllP (RdOk' n) l)) := by
 unfold sf151
 rcases vH (step := sf151_L1 N l n t lo hi) (l := l) (p := RdOk' n) (N := N) (by omega) (by
   intro j z hz hp
   have := yE hz
   unfold sf151_L1
   rw [decide_eq_true (by omega), cond_true, yd rfl hz, s86, zn, decide_eq_true hp, Bool.not_true, cond_false, zp (by unfold rng; omega)]) (by
   intro j z hz hp
   have := yE hz
   unfold sf151_L1
   rw [decide_eq_true (by omega), cond_true, yd rfl hz, s86, zn, decide_eq_false hp]
   rfl) (by
   unfold sf151_L1
   rw [decide_eq_false (by omega), cond_false]) with ⟨hA, e⟩ | ⟨hA, e⟩
 ·rw [e, zn, decide_eq_true hA]; rfl
 ·rw [e, zn, decide_eq_false hA]; rfl
theorem s64 {N : Nat} {n t lo hi : Int} {l : List (Int × Int × Int × Int)} (h : l.length ≤ 100) (hN : 1000 ≤ N) : sf134 N n t lo hi l = some (if TubeOk n t lo hi then if l.length ≤ 12 then if AllP (RdOk' n) l then 0 else 2 else 3 else 1) := by
 unfold sf134
 rw [s20, zn]
 by_cases h1 : TubeOk n t lo hi
 ·rw [if_pos h1, if_pos h1]
  show (bif (decide ((12 : Int) < (l.length : Int))) then _ else _) = _
  by_cases h2 : l.length ≤ 12
  ·rw [decide_eq_false (by omega), cond_false, if_pos h2, s68 h hN, zn]
   by_cases h3 : AllP (RdOk' n) l
   ·rw [decide_eq_true h3, if_pos h3]; rfl
   ·rw [decide_eq_false h3, if_neg h3]; rfl
  ·rw [decide_eq_true (by omega), cond_true, if_neg h2]
 ·rw [if_neg h1, if_neg h1]; rfl
theorem s70 {N : Nat} {n t lo hi : Int} {l : List (Int × Int × Int × Int)} (h : l.length ≤ 100) (hN : 1000 ≤ N) : sf84 N n t lo hi l = some (if TubeOk n t lo hi then if l.length ≤ 12 then if AllP (RdOk' n) l then 0 else 2 else 3 else 1) := by
 unfold sf84
 rw [s25, zn]
 by_cases h1 : TubeOk n t lo hi
 ·rw [decide_eq_true h1, if_pos h1]
  show (bif (decide ((12 : Int) < (l.length : Int))) then _ else _) = _
  by_cases h2 : l.length ≤ 12
  ·rw [decide_eq_false (by omega), cond_false, if_pos h2]
   have hn : 1 ≤ n ∧ n ≤ 10 := ⟨h1.1, h1.2.1⟩
   have key : ∀ z : Int × Int × Int × Int, (ck (rng (n - 1)) (bnd (sf98 N z.1 0 (n - 1)) fun v76 => (bif (!v76) then some true else (bnd (sf98 N z.2.1 z.1 n) fun v80 => (bif (!v80) then some true else (bnd (sf124 N z.2.2.1 z.2.2.2 0 2000) fun v84 => some (!v84))))))) = some (!(decide (RdOk' n z))) := fun z => by
    rw [zp (by unfold rng; omega), s37, zn]
    by_cases a1 : 0 ≤ z.1 ∧ z.1 ≤ n - 1
    ·rw [decide_eq_true a1]
     show bnd _ _ = _
     rw [s37, zn]
     by_cases a2 : z.1 ≤ z.2.1 ∧ z.2.1 ≤ n
     ·rw [decide_eq_true a2]
      show bnd _ _ = _
      rw [s48, zn]
      by_cases a3 : 0 ≤ z.2.2.1 ∧ z.2.2.1 ≤ z.2.2.2 ∧ z.2.2.2 ≤ 2000
      ·rw [decide_eq_true a3, decide_eq_true (p := RdOk' n z) ⟨⟨a1.1, by omega⟩, a2, a3⟩]
      ·rw [decide_eq_false a3, decide_eq_false (p := RdOk' n z) fun q => a3 q.2.2]
     ·rw [decide_eq_false a2, decide_eq_false (p := RdOk' n z) fun q => a2 q.2.1]; rfl
    ·rw [decide_eq_false a1, decide_eq_false (p := RdOk' n z) fun q => a1 ⟨q.1.1, by have := q.1.2; omega⟩]; rfl
   rcases vH (step := sf84_L1 N n l) (l := l) (p := RdOk' n) (N := N) (by omega) (by
     intro j z hz hp
     have := yE hz
     unfold sf84_L1
     rw [decide_eq_true (by omega), cond_true, yd rfl hz, key, zn, decide_eq_true hp, Bool.not_true, cond_false, zp (by unfold rng; omega)]) (by
     intro j z hz hp
     have := yE hz
     unfold sf84_L1
     rw [decide_eq_true (by omega), cond_true, yd rfl hz, key, zn, decide_eq_false hp]
     rfl) (by
     unfold sf84_L1
     rw [decide_eq_false (by omega), cond_false]) with ⟨hA, e⟩ | ⟨hA, e⟩
   ·rw [e, zn, if_pos hA]; rfl
   ·rw [e, zn, if_neg hA]; rfl
  ·rw [decide_eq_true (by omega), cond_true, if_neg h2]
 ·rw [decide_eq_false h1, if_neg h1]; rfl
def hs (l : List Int) (j : Nat) : Int := (l.take j).sum
theorem uU {l : List Int} {j : Nat} {x : Int} (h : l[j]? = some x) : hs l (j + 1) = hs l j + x := by
 unfold hs
 rw [vJ h, List.sum_append]
 simp
def Vol (x : Int) : Prop := 0 ≤ x ∧ x ≤ 200
theorem hs_b {l : List Int} (h : AllP Vol l) : ∀ j, j ≤ l.length → 0 ≤ hs l j ∧ hs l j ≤ 200 * j
 | 0, _ => by unfold hs; simp
 | j + 1, hj => by
  have ih := hs_b h j (by omega)
  obtain ⟨x, hx⟩ : ∃ x, l[j]? = some x := ⟨_, yf (by omega)⟩
  have := h x (List.mem_of_getElem? hx)
  unfold Vol at this
  rw [uU hx]; omega
theorem s38 {N : Nat} {l : List Int} {a : Nat} (ha : a ≤ l.length) (hl : l.length ≤ 15) (hb : AllP Vol l) (hN : 1000 ≤ N) : sf56 N l a = some (hs l a) := by
 unfold sf56
 have e : iter (sf56_L1 l a) N ((0 : Int), (0 : Int)) = some (hs l a) := by
  refine yF (fun j => (hs l j, (j : Int))) a _ rfl (fun j hj => ?_) ?_ (by omega)
  ·obtain ⟨x, hx⟩ : ∃ x, l[j]? = some x := ⟨_, yf (by omega)⟩
   have b := hs_b hb (j + 1) (by omega)
   unfold sf56_L1
   dsimp only
   rw [uU hx] at *
   rw [decide_eq_true (by omega), cond_true, yd rfl hx, zp (by unfold rng; omega), zp (by unfold rng; omega)]
   rfl
  ·unfold sf56_L1
   dsimp only
   rw [decide_eq_false (by omega), cond_false]
 rw [e, zn]
def InV (lo hi : Int) (x : Int) : Prop := lo ≤ x ∧ x ≤ hi
instance {lo hi x : Int} : Decidable (InV lo hi x) := by unfold InV; infer_instance
theorem sL {α β γ : Type} {f : α → Option γ} {g : β → Option γ} {x : α} : sel f g (.inl x) = f x := rfl
theorem sR {α β γ : Type} {f : α → Option γ} {g : β → Option γ} {x : β} : sel f g (.inr x) = g x := rfl
def uV (lo hi : Int) (a b : Nat) : Int := if a ≤ b then ((b : Int) - a) * hi else ((b : Int) - a) * lo
def uF (n : Nat) (lo hi : Int) (i j : Nat) : Nat → Int := fun q => if q / 13 ≤ n ∧ q % 13 ≤ n ∧ (min (q / 13) (q % 13) < i ∨ (min (q / 13) (q % 13) = i ∧ max (q / 13) (q % 13) < j)) then uV lo hi (q / 13) (q % 13) else 0
theorem jo {d a : Int} (h1 : 0 ≤ d) (h2 : d ≤ 12) (h3 : 1 ≤ a) (h4 : a ≤ 200) : 0 ≤ d * a ∧ d * a ≤ 2400 := by
 have q1 : 0 * a ≤ d * a := Int.mul_le_mul_of_nonneg_right h1 (by omega)
 have q2 : d * a ≤ 12 * a := Int.mul_le_mul_of_nonneg_right h2 (by omega)
 omega
theorem u_in {n i N : Nat} {lo hi : Int} (hn : n ≤ 12) (hi' : i ≤ n) (h1 : 1 ≤ lo ∧ lo ≤ 200) (h2 : 1 ≤ hi ∧ hi ≤ 200) (hN : 100 ≤ N) :
  iter (sf153_L1 n lo hi ((i : Int), uF n lo hi i i)) N ((i : Int), uF n lo hi i i) = some (uF n lo hi i (n + 1)) := by
 refine yF (fun k => (((i + k : Nat) : Int), uF n lo hi i (i + k))) (n + 1 - i) _ rfl (fun k hk => ?_) ?_ (by omega)
 ·unfold sf153_L1
  dsimp only
  obtain ⟨j, hj⟩ : ∃ j, j = i + k := ⟨_, rfl⟩
  rw [show i + (k + 1) = j + 1 by omega, ← hj]
  have m1 := jo (d := (j : Int) - i) (a := hi) (by omega) (by omega) h2.1 h2.2
  have m2 := jo (d := (j : Int) - i) (a := lo) (by omega) (by omega) h1.1 h1.2
  have m3 : ((i : Int) - j) * lo = -(((j : Int) - i) * lo) := by rw [← Int.neg_mul]; congr 1; omega
  rw [decide_eq_true (by omega), cond_true, zp (by unfold rng; omega), zp (by unfold rng; omega), zp (by omega), zp (by omega), zp (by unfold rng; omega), zp (by rw [m3]; unfold rng; omega), zp (by omega), zp (by omega), zp (by unfold rng; omega), toN, toN]
  congr 3
  funext q
  unfold ups uF
  by_cases q1 : q = j * 13 + i
  ·rw [if_pos q1, if_pos (by omega), q1, dv (by omega), md (by omega)]
   unfold uV
   by_cases e : j ≤ i
   ·have : i = j := by omega
    subst this
    rw [if_pos (Nat.le_refl _)]; simp
   ·rw [if_neg e]
  ·rw [if_neg q1]
   by_cases q2 : q = i * 13 + j
   ·rw [if_pos q2, if_pos (by omega), q2, dv (by omega), md (by omega)]
    unfold uV
    rw [if_pos (by omega)]
   ·rw [if_neg q2]
    by_cases c : q / 13 ≤ n ∧ q % 13 ≤ n ∧ (min (q / 13) (q % 13) < i ∨ (min (q / 13) (q % 13) = i ∧ max (q / 13) (q % 13) < j))
    ·rw [if_pos c, if_pos (by omega)]
    ·rw [if_neg c, if_neg (by omega)]
 ·unfold sf153_L1
  dsimp only
  rw [show i + (n + 1 - i) = n + 1 by omega, decide_eq_false (by omega), cond_false]
theorem u_out {n N : Nat} {lo hi : Int} (hn : n ≤ 12) (h1 : 1 ≤ lo ∧ lo ≤ 200) (h2 : 1 ≤ hi ∧ hi ≤ 200) (hN : 100 ≤ N) :
  iter (sf153_L2 N n lo hi) N ((0 : Int), (fun _ => 0)) = some (uF n lo hi (n + 1) (n + 1)) := by
 refine yF (fun i => ((i : Int), uF n lo hi i i)) (n + 1) _ ?_ (fun i hi' => ?_) ?_ (by omega)
 ·refine Prod.ext rfl ?_
  funext q
  unfold uF
  dsimp only
  rw [if_neg (by omega)]
 ·unfold sf153_L2
  dsimp only
  rw [decide_eq_true (by omega), cond_true, u_in hn (by omega) h1 h2 hN, zn, zp (by unfold rng; omega)]
  congr 3
  funext q
  unfold uF
  by_cases c : q / 13 ≤ n ∧ q % 13 ≤ n ∧ (min (q / 13) (q % 13) < i ∨ (min (q / 13) (q % 13) = i ∧ max (q / 13) (q % 13) < n + 1))
  ·rw [if_pos c, if_pos (by omega)]
  ·rw [if_neg c, if_neg (by omega)]
 ·unfold sf153_L2
  dsimp only
  rw [decide_eq_false (by omega), cond_false]
theorem uJ {n i j : Nat} {lo hi : Int} (hn : n ≤ 12) (h1 : i ≤ n) (h2 : j ≤ n) : uF n lo hi (n + 1) (n + 1) (i * 13 + j) = uV lo hi i j := by
 unfold uF
 rw [if_pos (by omega), dv (by omega), md (by omega)]
theorem kP {lo hi : Int} {i j : Nat} (h : lo ≤ hi) : uV lo hi i j = max (((j : Int) - i) * lo) (((j : Int) - i) * hi) := by
 unfold uV
 by_cases d : i ≤ j
 ·rw [if_pos d]
  have := Int.mul_le_mul_of_nonneg_left h (show 0 ≤ (j : Int) - i by omega)
  omega
 ·rw [if_neg d]
  have := Int.mul_le_mul_of_nonneg_left h (show 0 ≤ -((j : Int) - i) by omega)
  rw [Int.neg_mul, Int.neg_mul] at this
  omega
theorem gd_u {n : Nat} {lo hi : Int} (hn : n ≤ 12) (h1 : 1 ≤ lo) (h2 : lo ≤ hi) (h3 : hi ≤ 200) : Gd n (uF n lo hi (n + 1) (n + 1)) := by
 refine ⟨fun i j k a b c => ?_, fun i a => ?_, fun i j a b => ?_⟩
 ·rw [uJ hn a c, uJ hn a b, uJ hn b c, kP h2, kP h2, kP h2, show (k : Int) - i = ((j : Int) - i) + ((k : Int) - j) by omega, Int.add_mul, Int.add_mul]
  omega
 ·rw [uJ hn a a, kP h2, show (i : Int) - i = 0 by omega, Int.zero_mul, Int.zero_mul]; rfl
 ·rw [uJ hn a b]
  unfold uV
  by_cases d : i ≤ j
  ·rw [if_pos d]
   have := jo (d := (j : Int) - i) (a := hi) (by omega) (by omega) (by omega) (by omega)
   omega
  ·rw [if_neg d]
   have := jo (d := (i : Int) - j) (a := lo) (by omega) (by omega) (by omega) (by omega)
   rw [show (j : Int) - i = -((i : Int) - j) by omega, Int.neg_mul]
   omega
theorem y0 {n f g i j : Nat} {m : Int} {F : Nat → Int} (hn : n ≤ 12) (h1 : i ≤ n) (h2 : j ≤ n) : rowS n f g m F (n + 1) (i * 13 + j) = min (F (i * 13 + j)) (F (i * 13 + f) + m + F (g * 13 + j)) := by
 unfold rowS
 rw [if_pos (by omega), dv (by omega), md (by omega)]
theorem j7 {n f g : Nat} {m : Int} {F : Nat → Int} (hn : n ≤ 12) (h : Gd n F) (hf : f ≤ n) (hg : g ≤ n) (hm : 0 ≤ m + F (g * 13 + f)) : Gd n (rowS n f g m F (n + 1)) := by
 refine ⟨fun i j k hi hj hk => ?_, fun i hi => ?_, fun i j hi hj => ?_⟩
 ·rw [y0 hn hi hk, y0 hn hi hj, y0 hn hj hk]
  have := h.tri i j k hi hj hk
  have := h.tri i j f hi hj hf
  have := h.tri g j k hg hj hk
  have := h.tri g j f hg hj hf
  omega
 ·rw [y0 hn hi hi, h.dg i hi]
  have := h.tri g i f hg hi hf
  omega
 ·rw [y0 hn hi hj]
  have := h.ub i j hi hj
  omega
theorem s103 {N : Nat} {a b c d e : Int} {F : Nat → Int} {x y n : Nat} {m : Int} (hn : n ≤ 12) (hx : x ≤ n) (hy : y ≤ n) (h : Gd n F) (hm : -1000000 ≤ m ∧ m ≤ 1000000) : sf181 N a b c d e F x y m = some (decide (0 ≤ m + F (y * 13 + x))) := by
 have := h.lb (i := y) (j := x) hy hx
 have := h.ub y x hy hx
 unfold sf181
 rw [zp (by omega), zp (by omega), toN, toN, zp (by unfold rng; omega)]
def unr (n : Nat) (t lo hi : Int) : Nat → Int := rowS n n 0 (-t) (rowS n 0 n t (uF n lo hi (n + 1) (n + 1)) (n + 1)) (n + 1)
theorem s97 {N n : Nat} {t lo hi : Int} (ht : TubeOk n t lo hi) (hN : 1000 ≤ N) : sf153 N n t lo hi = some ((n : Int), t, lo, hi, (n : Int) + 1, unr n t lo hi) ∧ Gd n (unr n t lo hi) ∧
  (∀ i, i ≤ n → unr n t lo hi (0 * 13 + i) = min ((i : Int) * hi) (t - ((n : Int) - i) * lo)) ∧ (∀ i, i ≤ n → unr n t lo hi (i * 13 + 0) = -(max ((i : Int) * lo) (t - ((n : Int) - i) * hi))) := by
 obtain ⟨t1, t2, ⟨t3, t4, t5⟩, t6, t7, t8, t9⟩ := ht
 have hn : n ≤ 12 := by omega
 have g0 := gd_u hn t3 t4 t5
 have e0 : ∀ i j, i ≤ n → j ≤ n → uF n lo hi (n + 1) (n + 1) (i * 13 + j) = uV lo hi i j := fun i j a b => uJ hn a b
 have un0 : ∀ i, i ≤ n → uV lo hi i 0 = -((i : Int) * lo) := fun i a => by
  unfold uV
  by_cases d : i ≤ 0
  ·have : i = 0 := by omega
   subst this; simp
  ·rw [if_neg d, show ((0 : Nat) : Int) - i = -(i : Int) by omega, Int.neg_mul]
 have u0n : ∀ i, uV lo hi 0 i = (i : Int) * hi := fun i => by
  unfold uV
  rw [if_pos (Nat.zero_le _), show (i : Int) - ((0 : Nat) : Int) = i by omega]
 have unn : ∀ i, i ≤ n → uV lo hi n i = -(((n : Int) - i) * lo) := fun i a => by
  unfold uV
  by_cases d : n ≤ i
  ·have : i = n := by omega
   subst this
   rw [if_pos (Nat.le_refl _), show (i : Int) - i = 0 by omega, Int.zero_mul, Int.zero_mul]; rfl
  ·rw [if_neg d, show (i : Int) - n = -((n : Int) - i) by omega, Int.neg_mul]
 have uin : ∀ i, i ≤ n → uV lo hi i n = ((n : Int) - i) * hi := fun i a => by
  unfold uV
  rw [if_pos a]
 have c1 : 0 ≤ t + uF n lo hi (n + 1) (n + 1) (n * 13 + 0) := by rw [e0 n 0 (Nat.le_refl _) (Nat.zero_le _), un0 n (Nat.le_refl _)]; omega
 have g1 := j7 hn g0 (Nat.zero_le _) (Nat.le_refl _) c1
 have r1 : ∀ i j, i ≤ n → j ≤ n → rowS n 0 n t (uF n lo hi (n + 1) (n + 1)) (n + 1) (i * 13 + j) = min (uV lo hi i j) (uV lo hi i 0 + t + uV lo hi n j) := fun i j a b => by
  rw [y0 hn a b, e0 i j a b, e0 i 0 a (Nat.zero_le _), e0 n j (Nat.le_refl _) b]
 have z0 : uV lo hi 0 0 = 0 := by rw [u0n]; simp
 have f0n : rowS n 0 n t (uF n lo hi (n + 1) (n + 1)) (n + 1) (0 * 13 + n) = t := by
  rw [r1 0 n (Nat.zero_le _) (Nat.le_refl _), u0n, z0, unn n (Nat.le_refl _), show (n : Int) - n = 0 by omega, Int.zero_mul]
  omega
 have c2 : 0 ≤ -t + rowS n 0 n t (uF n lo hi (n + 1) (n + 1)) (n + 1) (0 * 13 + n) := by rw [f0n]; omega
 have g2 := j7 hn g1 (Nat.le_refl _) (Nat.zero_le _) c2
 refine ⟨?_, g2, fun i a => ?_, fun i a => ?_⟩
 ·unfold sf153
  have q1 := s103 (N := N) (a := n) (b := t) (c := lo) (d := hi) (e := (n : Int) + 1) (x := 0) (y := n) (m := t) hn (Nat.zero_le _) (Nat.le_refl _) g0 (by omega)
  have q2 := s103 (N := N) (a := n) (b := t) (c := lo) (d := hi) (e := (n : Int) + 1) (x := n) (y := 0) (m := -t) hn (Nat.le_refl _) (Nat.zero_le _) g1 (by omega)
  have w1 := kZ (N := N) hn (Nat.zero_le _) (Nat.le_refl n) g0 (m := t) (by omega) c1 (by omega)
  have w2 := kZ (N := N) hn (Nat.le_refl n) (Nat.zero_le _) g1 (m := -t) (by omega) c2 (by omega)
  rw [zp (by unfold rng; omega), u_out hn ⟨t3, by omega⟩ ⟨by omega, t5⟩ (by omega), zn, show (0 : Int) = ((0 : Nat) : Int) from rfl, q1, zn, decide_eq_true c1, Bool.not_true, cond_false, l97_6]
  show bnd (iter (lO N ((n : Int) + 1) ((0 : Nat) : Int) n t) N ((0 : Int), _)) _ = _
  rw [w1, zn, zp (by unfold rng; omega), q2, zn, decide_eq_true c2, Bool.not_true, cond_false, l97_8]
  show bnd (iter (lO N ((n : Int) + 1) n ((0 : Nat) : Int) (-t)) N ((0 : Int), _)) _ = _
  rw [w2, zn]
  rfl
 ·unfold unr
  rw [y0 hn (Nat.zero_le _) a, f0n, r1 0 i (Nat.zero_le _) a, u0n, z0, unn i a]
  omega
 ·unfold unr
  have := un0 n (Nat.le_refl _)
  rw [y0 hn a (Nat.zero_le _), r1 i 0 a (Nat.zero_le _), r1 i n a (Nat.le_refl _), r1 0 0 (Nat.zero_le _) (Nat.zero_le _), z0, un0 i a, this, uin i a, unn n (Nat.le_refl _), show (n : Int) - n = 0 by omega, Int.zero_mul]
  omega
def SatF (n : Nat) (F : Nat → Int) (p : Nat → Int) : Prop := ∀ i j, i ≤ n → j ≤ n → p j - p i ≤ F (i * 13 + j)
theorem uj {n f g : Nat} {m : Int} {F p : Nat → Int} (hn : n ≤ 12) (h : Gd n F) (hf : f ≤ n) (hg : g ≤ n) : SatF n (rowS n f g m F (n + 1)) p ↔ SatF n F p ∧ p g - p f ≤ m := by
 refine ⟨fun hs => ⟨fun i j hi hj => ?_, ?_⟩, fun ⟨h1, h2⟩ i j hi hj => ?_⟩
 ·have := hs i j hi hj
  rw [y0 hn hi hj] at this; omega
 ·have := hs f g hf hg
  rw [y0 hn hf hg, h.dg f hf, h.dg g hg] at this; omega
 ·have a1 := h1 i j hi hj
  have a2 := h1 i f hi hf
  have a3 := h1 g j hg hj
  rw [y0 hn hi hj]; omega
def CellS (n : Nat) (lo hi : Int) (p : Nat → Int) : Prop := ∀ i, i < n → lo ≤ p (i + 1) - p i ∧ p (i + 1) - p i ≤ hi
theorem uf {n : Nat} {lo hi : Int} {p : Nat → Int} (h : CellS n lo hi p) (i : Nat) : ∀ d, i + d ≤ n → (d : Int) * lo ≤ p (i + d) - p i ∧ p (i + d) - p i ≤ (d : Int) * hi
 | 0, _ => by simp
 | d + 1, hd => by
  have ih := uf h i d (by omega)
  have c := h (i + d) (by omega)
  have e1 : ((d + 1 : Nat) : Int) * lo = (d : Int) * lo + lo := by push_cast; rw [Int.add_mul, Int.one_mul]
  have e2 : ((d + 1 : Nat) : Int) * hi = (d : Int) * hi + hi := by push_cast; rw [Int.add_mul, Int.one_mul]
  rw [e1, e2, ← Nat.add_assoc]; omega
theorem sat_u {n : Nat} {lo hi : Int} {p : Nat → Int} (hn : n ≤ 12) : SatF n (uF n lo hi (n + 1) (n + 1)) p ↔ CellS n lo hi p := by
 refine ⟨fun hs i hi' => ?_, fun h i j hi' hj => ?_⟩
 ·have a := hs i (i + 1) (by omega) (by omega)
  have b := hs (i + 1) i (by omega) (by omega)
  rw [uJ hn (by omega) (by omega)] at a b
  unfold uV at a b
  rw [if_pos (by omega), show ((i + 1 : Nat) : Int) - i = 1 by omega, Int.one_mul] at a
  rw [if_neg (by omega), show (i : Int) - (i + 1 : Nat) = -1 by omega, Int.neg_mul, Int.one_mul] at b
  omega
 ·rw [uJ hn hi' hj]
  unfold uV
  by_cases d : i ≤ j
  ·rw [if_pos d]
   have := uf h i (j - i) (by omega)
   rw [show i + (j - i) = j by omega, show ((j - i : Nat) : Int) = (j : Int) - i by omega] at this
   exact this.2
  ·rw [if_neg d]
   have := uf h j (i - j) (by omega)
   rw [show j + (i - j) = i by omega, show ((i - j : Nat) : Int) = -((j : Int) - i) by omega, Int.neg_mul, Int.neg_mul] at this
   omega
theorem uni_c {n : Nat} {t lo hi : Int} (ht : TubeOk n t lo hi) : 0 ≤ t + uF n lo hi (n + 1) (n + 1) (n * 13 + 0) := by
 obtain ⟨t1, t2, ⟨t3, t4, t5⟩, t6, t7, t8, t9⟩ := ht
 rw [uJ (by omega) (Nat.le_refl _) (Nat.zero_le _)]
 unfold uV
 rw [if_neg (by omega), show ((0 : Nat) : Int) - n = -(n : Int) by omega, Int.neg_mul]
 omega
theorem sat_unr {n : Nat} {t lo hi : Int} {p : Nat → Int} (ht : TubeOk n t lo hi) : SatF n (unr n t lo hi) p ↔ CellS n lo hi p ∧ p n - p 0 = t := by
 have hn : n ≤ 12 := by have := ht.2.1; omega
 have g0 := gd_u hn ht.2.2.1.1 ht.2.2.1.2.1 ht.2.2.1.2.2
 have g1 := j7 hn g0 (Nat.zero_le _) (Nat.le_refl _) (uni_c ht)
 unfold unr
 rw [uj hn g1 (Nat.le_refl _) (Nat.zero_le _), uj hn g0 (Nat.zero_le _) (Nat.le_refl _), sat_u hn]
 constructor
 ·rintro ⟨⟨a, b⟩, c⟩; exact ⟨a, by omega⟩
 ·rintro ⟨a, b⟩; exact ⟨⟨a, by omega⟩, by omega⟩
def RdS (n : Nat) (r : Int × Int × Int × Int) (p : Nat → Int) : Prop := p r.2.1.toNat - p r.1.toNat ≤ r.2.2.2 ∧ (r.2.1 < n → r.2.2.1 + 1 ≤ p (r.2.1.toNat + 1) - p r.1.toNat)
theorem s96 {N n : Nat} {t lo hi : Int} {F : Nat → Int} {r : Int × Int × Int × Int} (hn : n ≤ 12) (h : Gd n F) (hr : RdOk' n r) (hN : 1000 ≤ N) :
  (∃ F', sf154 N n t lo hi ((n : Int) + 1) F r.1 r.2.1 r.2.2.1 r.2.2.2 = some ((n : Int), t, lo, hi, (n : Int) + 1, F', true) ∧ Gd n F' ∧ ∀ p, SatF n F' p ↔ SatF n F p ∧ RdS n r p) ∨
  (sf154 N n t lo hi ((n : Int) + 1) F r.1 r.2.1 r.2.2.1 r.2.2.2 = some ((0 : Int), (0 : Int), (0 : Int), (0 : Int), (0 : Int), (fun _ => 0), false) ∧ ∀ p, SatF n F p → ¬ RdS n r p) := by
 obtain ⟨f, g, vl, vh⟩ := r
 obtain ⟨h1, h2, h3⟩ := hr
 dsimp only at h1 h2 h3
 obtain ⟨f, rfl⟩ : ∃ k : Nat, f = k := ⟨f.toNat, by omega⟩
 obtain ⟨g, rfl⟩ : ∃ k : Nat, g = k := ⟨g.toNat, by omega⟩
 have hf : f ≤ n := by omega
 have hg : g ≤ n := by omega
 unfold RdS
 simp only [toN]
 unfold sf154
 rw [s103 hn hf hg h (by omega), zn]
 by_cases c1 : 0 ≤ vh + F (g * 13 + f)
 ·have G1 := j7 hn h hf hg c1
  rw [decide_eq_true c1, Bool.not_true, cond_false, l96_2, kZ hn hf hg h (by omega) c1 (by omega), zn]
  by_cases c2 : g < n
  ·rw [decide_eq_true (by omega), cond_true, zp (by unfold rng; omega), zp (by unfold rng; omega), zp (by unfold rng; omega), show (g : Int) + 1 = ((g + 1 : Nat) : Int) from rfl, s103 hn (by omega) hf G1 (by omega), zn]
   by_cases c3 : 0 ≤ -vl - 1 + rowS n f g vh F (n + 1) (f * 13 + (g + 1))
   ·have G2 := j7 hn G1 (f := g + 1) (g := f) (by omega) hf c3
    rw [decide_eq_true c3, Bool.not_true, cond_false, l96_4]
    refine .inl ⟨rowS n (g + 1) f (-vl - 1) (rowS n f g vh F (n + 1)) (n + 1), ?_, G2, fun p => ?_⟩
    ·have := kZ (N := N) hn (f := g + 1) (g := f) (by omega) hf G1 (m := -vl - 1) (by omega) c3 (by omega)
     rw [show ((g : Int) + 1) = ((g + 1 : Nat) : Int) from rfl, this, zn, zn]
     rfl
    ·rw [uj hn G1 (by omega) hf, uj hn h hf hg]
     constructor
     ·rintro ⟨⟨a, b⟩, c⟩; exact ⟨a, b, fun _ => by omega⟩
     ·rintro ⟨a, b, c⟩; have := c (by omega); exact ⟨⟨a, b⟩, by omega⟩
   ·rw [decide_eq_false c3, Bool.not_false, cond_true, zn]
    refine .inr ⟨rfl, fun p hp ⟨q1, q2⟩ => c3 ?_⟩
    have := (uj (m := vh) hn h hf hg).2 ⟨hp, q1⟩ f (g + 1) hf (by omega)
    have := q2 (by omega)
    omega
  ·rw [decide_eq_false (by omega), cond_false, zn]
   refine .inl ⟨rowS n f g vh F (n + 1), rfl, G1, fun p => ?_⟩
   rw [uj hn h hf hg]
   constructor
   ·rintro ⟨a, b⟩; exact ⟨a, b, fun q => absurd q (by omega)⟩
   ·rintro ⟨a, b, _⟩; exact ⟨a, b⟩
 ·rw [decide_eq_false c1, Bool.not_false, cond_true]
  refine .inr ⟨rfl, fun p hp ⟨q1, q2⟩ => c1 ?_⟩
  have := hp g f hg hf
  omega
def TruS (n : Nat) (t lo hi : Int) (L : List (Int × Int × Int × Int)) (p : Nat → Int) : Prop := (CellS n lo hi p ∧ p n - p 0 = t) ∧ ∀ r, r ∈ L → RdS n r p
theorem Xr {α : Type} {P : α → Prop} {l : List α} {x : α} : (∀ r, r ∈ l ++ [x] → P r) ↔ (∀ r, r ∈ l → P r) ∧ P x := by
 constructor
 ·exact fun h => ⟨fun r hr => h r (List.mem_append.2 (.inl hr)), h x (List.mem_append.2 (.inr (List.mem_singleton.2 rfl)))⟩
 ·rintro ⟨h1, h2⟩ r hr
  rcases List.mem_append.1 hr with q | q
  ·exact h1 r q
  ·rw [List.mem_singleton.1 q]; exact h2
theorem Yh {α β : Type} {step : α → Option (α ⊕ β)} {x x' : α} {M : Nat} (h : step x = some (.inl x')) : iter step (M + 1) x = iter step M x' := by
 conv => lhs; unfold iter
 rw [h]; rfl
theorem jZ {α β : Type} {step : α → Option (α ⊕ β)} {x : α} {y : β} {M : Nat} (h : step x = some (.inr y)) : iter step (M + 1) x = some y := by
 unfold iter
 rw [h]; rfl
theorem jJ {N n : Nat} {t lo hi : Int} {L : List (Int × Int × Int × Int)} (hn : n ≤ 12) (hL : L.length ≤ 100) (hr : AllP (RdOk' n) L) (hN : 1000 ≤ N) : ∀ (k j M : Nat) (mp : Int × Int × Int × Int → Option Bool) (F : Nat → Int), j + k = L.length → k < M → Gd n F → (∀ p, SatF n F p ↔ (CellS n lo hi p ∧ p n - p 0 = t) ∧ ∀ r, r ∈ L.take j → RdS n r p) → (∀ r b, mp r = some b → r ∈ L.take j) →
  (∃ mp' F', iter (sf135_L1 N L) M ((j : Int), mp, (n : Int), t, lo, hi, (n : Int) + 1, F, (0 : Int), (0 : Int), (0 : Int), (0 : Int), (0 : Int), (fun _ => 0)) = some (.inr (mp', (n : Int), t, lo, hi, (n : Int) + 1, F', (0 : Int), (0 : Int), (0 : Int), (0 : Int), (0 : Int), (fun _ => 0))) ∧ Gd n F' ∧ ∀ p, SatF n F' p ↔ TruS n t lo hi L p) ∨
  (∃ w : ((Int × Int × Int × Int) → Option Bool) × Int × Int × Int × Int × Int × (Nat → Int), iter (sf135_L1 N L) M ((j : Int), mp, (n : Int), t, lo, hi, (n : Int) + 1, F, (0 : Int), (0 : Int), (0 : Int), (0 : Int), (0 : Int), (fun _ => 0)) = some (.inl (w.1, w.2.1, w.2.2.1, w.2.2.2.1, w.2.2.2.2.1, w.2.2.2.2.2.1, w.2.2.2.2.2.2, (0 : Int), (0 : Int), (0 : Int), (0 : Int), (0 : Int), (fun _ => 0))) ∧ ∀ p, ¬ TruS n t lo hi L p)
 | 0, j, 0, mp, F, hj, hM, _, _, _ => by omega
 | 0, j, M + 1, mp, F, hj, hM, hG, hS, hm => by
  refine .inl ⟨mp, F, jZ ?_, hG, fun p => ?_⟩
  ·unfold sf135_L1
   dsimp only
   rw [decide_eq_false (by omega), cond_false]
  ·rw [hS p, List.take_of_length_le (by omega)]
   rfl
 | k + 1, j, 0, mp, F, hj, hM, _, _, _ => by omega
 | k + 1, j, M + 1, mp, F, hj, hM, hG, hS, hm => by
  obtain ⟨z, hz⟩ : ∃ z, L[j]? = some z := ⟨_, yf (by omega)⟩
  have hzL : z ∈ L := List.mem_of_getElem? hz
  have tk := vJ hz
  have hck : rng ((j : Int) + 1) := by unfold rng; omega
  by_cases hmp : mp z = some true
  ·have hz0 := hm z true hmp
   have key : ∀ p, ((CellS n lo hi p ∧ p n - p 0 = t) ∧ ∀ r, r ∈ L.take (j + 1) → RdS n r p) ↔ ((CellS n lo hi p ∧ p n - p 0 = t) ∧ ∀ r, r ∈ L.take j → RdS n r p) := fun p => by
    rw [tk, Xr]
    exact ⟨fun ⟨a, b, c⟩ => ⟨a, b⟩, fun ⟨a, b⟩ => ⟨a, b, b z hz0⟩⟩
   have e1 : sf135_L1 N L ((j : Int), mp, (n : Int), t, lo, hi, (n : Int) + 1, F, (0 : Int), (0 : Int), (0 : Int), (0 : Int), (0 : Int), (fun _ => 0)) = some (.inl (((j + 1 : Nat) : Int), mp, (n : Int), t, lo, hi, (n : Int) + 1, F, (0 : Int), (0 : Int), (0 : Int), (0 : Int), (0 : Int), (fun _ => 0))) := by
    unfold sf135_L1
    dsimp only
    rw [decide_eq_true (by omega), cond_true, yd rfl hz, hmp, show Option.getD (some true) false = true from rfl, cond_true, zp hck]
    rfl
   rw [Yh e1]
   exact jJ hn hL hr hN k (j + 1) M mp F (by omega) (by omega) hG (fun p => by rw [hS p, key p]) (fun r b q => by rw [tk]; exact List.mem_append.2 (.inl (hm r b q)))
  ·have hg : Option.getD (mp z) false = false := by
    cases h : mp z with
    | none => rfl
    | some b =>
     cases b with
     | true => exact absurd h hmp
     | false => rfl
   rcases s96 (N := N) (t := t) (lo := lo) (hi := hi) hn hG (hr z hzL) hN with ⟨F', e, G', S'⟩ | ⟨e, S'⟩
   ·have e1 : sf135_L1 N L ((j : Int), mp, (n : Int), t, lo, hi, (n : Int) + 1, F, (0 : Int), (0 : Int), (0 : Int), (0 : Int), (0 : Int), (fun _ => 0)) = some (.inl (((j + 1 : Nat) : Int), upm mp z true, (n : Int), t, lo, hi, (n : Int) + 1, F', (0 : Int), (0 : Int), (0 : Int), (0 : Int), (0 : Int), (fun _ => 0))) := by
     unfold sf135_L1
     dsimp only
     rw [decide_eq_true (by omega), cond_true, yd rfl hz, hg, cond_false, e, zn]
     dsimp only
     rw [Bool.not_true, cond_false, zp hck]
     rfl
    rw [Yh e1]
    exact jJ hn hL hr hN k (j + 1) M _ F' (by omega) (by omega) G' (fun p => by rw [S' p, hS p, tk, Xr]; exact ⟨fun ⟨⟨a, b⟩, c⟩ => ⟨a, b, c⟩, fun ⟨a, b, c⟩ => ⟨⟨a, b⟩, c⟩⟩) (fun r b q => by
     unfold upm at q
     rw [tk]
     by_cases hrz : r = z
     ·rw [hrz]; exact List.mem_append.2 (.inr (List.mem_singleton.2 rfl))
     ·rw [if_neg hrz] at q; exact List.mem_append.2 (.inl (hm r b q)))
   ·have e1 : sf135_L1 N L ((j : Int), mp, (n : Int), t, lo, hi, (n : Int) + 1, F, (0 : Int), (0 : Int), (0 : Int), (0 : Int), (0 : Int), (fun _ => 0)) = some (.inr (.inl (upm mp z true, (0 : Int), (0 : Int), (0 : Int), (0 : Int), (0 : Int), (fun _ => 0), (0 : Int), (0 : Int), (0 : Int), (0 : Int), (0 : Int), (fun _ => 0)))) := by
     unfold sf135_L1
     dsimp only
     rw [decide_eq_true (by omega), cond_true, yd rfl hz, hg, cond_false, e, zn]
     rfl
    exact .inr ⟨(upm mp z true, (0 : Int), (0 : Int), (0 : Int), (0 : Int), (0 : Int), (fun _ => 0)), jZ e1, fun p hp => S' p ((hS p).2 ⟨hp.1, fun r hr' => hp.2 r (List.mem_of_mem_take hr')⟩) (hp.2 z hzL)⟩
theorem s89 {N n : Nat} {t lo hi : Int} {L : List (Int × Int × Int × Int)} (ht : TubeOk n t lo hi) (hL : L.length ≤ 100) (hr : AllP (RdOk' n) L) (hN : 1000 ≤ N) :
  (∃ F, sf135 N n t lo hi L = some ((n : Int), t, lo, hi, (n : Int) + 1, F, true) ∧ Gd n F ∧ ∀ p, SatF n F p ↔ TruS n t lo hi L p) ∨
  (sf135 N n t lo hi L = some ((0 : Int), (0 : Int), (0 : Int), (0 : Int), (0 : Int), (fun _ => 0), false) ∧ ∀ p, ¬ TruS n t lo hi L p) := by
 have hn : n ≤ 12 := by have := ht.2.1; omega
 obtain ⟨e97, g97, _, _⟩ := s97 (N := N) ht hN
 unfold sf135
 rw [e97, zn]
 dsimp only
 rcases jJ (N := N) (t := t) (lo := lo) (hi := hi) hn hL hr hN L.length 0 N (fun _ => none) (unr n t lo hi) (by omega) (by omega) g97 (fun p => by rw [sat_unr ht]; simp) (fun r b q => by cases q) with ⟨mp', F', e, G, S⟩ | ⟨w, e, S⟩
 ·refine .inl ⟨F', ?_, G, S⟩
  rw [show (0 : Int) = ((0 : Nat) : Int) from rfl] at e ⊢
  rw [e]; rfl
 ·refine .inr ⟨?_, S⟩
  rw [show (0 : Int) = ((0 : Nat) : Int) from rfl] at e ⊢
  rw [e]; rfl
def bdF (n : Nat) (F : Nat → Int) : List (Int × Int) := (List.range (n + 1)).map fun (i : Nat) => (-F (i * 13 + 0), F (0 * 13 + i))
theorem YV {n : Nat} {F : Nat → Int} : (bdF n F).length = n + 1 := by unfold bdF; simp
theorem bdF_at {n i : Nat} {F : Nat → Int} (h : i ≤ n) : (bdF n F)[i]? = some (-F (i * 13 + 0), F (0 * 13 + i)) := by
 unfold bdF
 rw [List.getElem?_map, List.getElem?_range (by omega)]; rfl
theorem s73F {N n : Nat} {t lo hi : Int} {F : Nat → Int} (hn : n ≤ 12) (gd : Gd n F) (hN : 1000 ≤ N) : sf108 N n t lo hi ((n : Int) + 1) F = some (bdF n F) := by
 unfold sf108
 have e : iter (sf108_L1 N n t lo hi ((n : Int) + 1) F) N (([] : List (Int × Int)), (0 : Int)) = some (bdF n F) := by
  refine yF (fun k => ((List.range k).map (fun i : Nat => (-F (i * 13 + 0), F (0 * 13 + i))), (k : Int))) (n + 1) _ rfl (fun k hk => ?_) ?_ (by omega)
  ·have l1 := gd.lb (i := k) (j := 0) (by omega) (by omega)
   have l2 := gd.ub k 0 (by omega) (by omega)
   have x90 : sf136 N n t lo hi ((n : Int) + 1) F k = some (-F (k * 13 + 0)) := by
    unfold sf136
    rw [zp (by omega), zp (by omega), toN, show Int.toNat 0 = 0 from rfl, zp (by unfold rng; omega)]
   have x91 : sf137 N n t lo hi ((n : Int) + 1) F k = some (F (0 * 13 + k)) := by
    unfold sf137
    rw [zp (by omega), zp (by omega), toN, show Int.toNat 0 = 0 from rfl]
   unfold sf108_L1
   dsimp only
   rw [decide_eq_true (by omega), cond_true, x90, zn, x91, zn, zp (by simp; omega), zp (by unfold rng; omega), List.range_succ, List.map_append]
   rfl
  ·unfold sf108_L1
   dsimp only
   rw [decide_eq_false (by omega), cond_false]
   rfl
 rw [show sf96 N = some () from rfl, zn, zp (by unfold rng; omega), zp (by omega), show List.replicate (Int.toNat 0) ((0 : Int), (0 : Int)) = [] from rfl, e, zn]
theorem s29_ok {N n : Nat} {t lo hi : Int} {L : List (Int × Int × Int × Int)} (ht : TubeOk n t lo hi) (hL : L.length ≤ 12) (hr : AllP (RdOk' n) L) (hN : 1000 ≤ N) :
  (∃ F, sf70 N n t lo hi L = some (bdF n F, 0) ∧ Gd n F ∧ ∀ p, SatF n F p ↔ TruS n t lo hi L p) ∨
  (sf70 N n t lo hi L = some ([], 9) ∧ ∀ p, ¬ TruS n t lo hi L p) := by
 have hn : n ≤ 12 := by have := ht.2.1; omega
 have e64 : sf134 N n t lo hi L = some 0 := by rw [s64 (by omega) hN, if_pos ht, if_pos hL, if_pos hr]
 unfold sf70 sf94
 rw [e64, zn]
 rw [decide_eq_true rfl, Bool.not_true, cond_false, cond_false]
 rcases s89 (N := N) ht (by omega) hr hN with ⟨F, e, G, S⟩ | ⟨e, S⟩
 ·refine .inl ⟨F, ?_, G, S⟩
  rw [e, zn]
  dsimp only
  rw [Bool.not_true, cond_false, zn]
  dsimp only
  rw [decide_eq_true rfl, Bool.not_true, cond_false, s73F hn G hN, zn]
 ·refine .inr ⟨?_, S⟩
  rw [e, zn]
  rfl
theorem jz {n : Nat} {F : Nat → Int} (h : Gd n F) : SatF n F fun j => -F (j * 13 + 0) := fun i j hi hj => by
 have := h.tri i j 0 hi hj (Nat.zero_le _)
 show -F (j * 13 + 0) - -F (i * 13 + 0) ≤ _
 omega
theorem uW {n : Nat} {F : Nat → Int} (h : Gd n F) : SatF n F fun j => F (0 * 13 + j) := fun i j hi hj => by
 have := h.tri 0 i j (Nat.zero_le _) hi hj
 show F (0 * 13 + j) - F (0 * 13 + i) ≤ _
 omega
def W16 (x : Int) : Prop := 0 ≤ x ∧ x < 65536
theorem tm {a b : Int} (ha : 0 ≤ a) (hb : 0 < b) : 0 ≤ Int.tmod a b ∧ Int.tmod a b < b := by
 rw [Int.tmod_eq_emod_of_nonneg ha]
 exact ⟨Int.emod_nonneg _ (by omega), Int.emod_lt_of_pos _ hb⟩
theorem td {a b : Int} (ha : 0 ≤ a) : Int.tdiv a b = a / b := Int.tdiv_eq_ediv_of_nonneg ha
theorem tme {a b : Int} (ha : 0 ≤ a) : Int.tmod a b = a % b := Int.tmod_eq_emod_of_nonneg ha
theorem jv {x : Int} (h : W16 x) : IntKind.wrap .i64 x = x := by
 unfold W16 at h
 have e : x % 2 ^ IntKind.bits .i64 = x := by
  show x % 18446744073709551616 = x
  omega
 unfold IntKind.wrap
 simp only [e]
 rw [if_neg]
 intro hc
 have hc2 := of_decide_eq_true (Bool.and_eq_true_iff.1 hc).2
 have : (9223372036854775808 : Int) ≤ x := hc2
 omega
theorem s62 {N : Nat} {l : List Int} {k : Int} (hl : AllP W16 l) (hk : 0 ≤ k) : ∃ w, sf133 N l k = some w ∧ W16 w := by
 unfold sf133
 by_cases h : l.length = 0
 ·rw [decide_eq_true (by omega), cond_true]; exact ⟨0, rfl, by unfold W16; omega⟩
 ·rw [decide_eq_false (by omega), cond_false, zp (by omega)]
  have := tm (a := k) (b := l.length) hk (by omega)
  obtain ⟨j, hj⟩ : ∃ j : Nat, Int.tmod k l.length = j := ⟨(Int.tmod k l.length).toNat, by omega⟩
  obtain ⟨z, hz⟩ : ∃ z, l[j]? = some z := ⟨_, yf (by omega)⟩
  have hw := hl z (List.mem_of_getElem? hz)
  rw [hj, yd rfl hz, zp (jv hw)]
  exact ⟨z, rfl, hw⟩
theorem s53 {N n : Nat} {t lo hi : Int} {W : List Int} (ht : TubeOk n t lo hi) (hW : AllP W16 W) (hN : 1000 ≤ N) : ∃ v, sf92 N n t lo hi W = some v ∧ v.length = n ∧ AllP (InV lo hi) v ∧ v.sum = t := by
 obtain ⟨t1, t2, ⟨t3, t4, t5⟩, t6, t7, t8, t9⟩ := ht
 have H := uc (step := sf92_L1 N n lo hi W) (fun x => ∃ k : Nat, x.2.2 = k ∧ k ≤ n ∧ x.1.length = k ∧ AllP (InV lo hi) x.1 ∧ x.1.sum + x.2.1 = t ∧ ((n : Int) - k) * lo ≤ x.2.1 ∧ x.2.1 ≤ ((n : Int) - k) * hi) (fun x => n - x.2.2.toNat) (fun v => v.length = n ∧ AllP (InV lo hi) v ∧ v.sum = t) (by
  rintro ⟨out, left, _⟩ ⟨k, rfl, hk, hl, hA, hsum, b1, b2⟩
  dsimp only at hl hA hsum b1 b2 ⊢
  by_cases hkn : k < n
  ·refine .inl ?_
   have e1 : ((n : Int) - k) * lo = ((n : Int) - 1 - k) * lo + lo := by rw [show (n : Int) - k = ((n : Int) - 1 - k) + 1 by omega, Int.add_mul, Int.one_mul]
   have e2 : ((n : Int) - k) * hi = ((n : Int) - 1 - k) * hi + hi := by rw [show (n : Int) - k = ((n : Int) - 1 - k) + 1 by omega, Int.add_mul, Int.one_mul]
   have m1 := jo (d := (n : Int) - 1 - k) (a := lo) (by omega) (by omega) (by omega) (by omega)
   have m2 := jo (d := (n : Int) - 1 - k) (a := hi) (by omega) (by omega) (by omega) (by omega)
   obtain ⟨w, ew, hw⟩ := s62 (N := N) (l := W) (k := (k : Int)) hW (by omega)
   rw [e1] at b1
   rw [e2] at b2
   have mm : ((n : Int) - 1 - k) * lo ≤ ((n : Int) - 1 - k) * hi := Int.mul_le_mul_of_nonneg_left t4 (by omega)
   generalize hX : ((n : Int) - 1 - k) * lo = X at *
   generalize hY : ((n : Int) - 1 - k) * hi = Y at *
   have hh : 0 < min hi (left - X) - max lo (left - Y) + 1 := by omega
   have tq := tm (a := w) (b := min hi (left - X) - max lo (left - Y) + 1) (by unfold W16 at hw; omega) hh
   unfold sf92_L1
   dsimp only
   generalize hT : Int.tmod w (min hi (left - X) - max lo (left - Y) + 1) = T at *
   refine ⟨(out ++ [max lo (left - Y) + T], left - (max lo (left - Y) + T), ((k + 1 : Nat) : Int)), ?_, ⟨k + 1, rfl, by omega, by simp; omega, ?_, ?_, ?_⟩, by dsimp only; omega⟩
   ·rw [decide_eq_true (by omega), cond_true, zp (by unfold rng; omega), zp (by unfold rng; omega), hY, hX, zp (by unfold rng; omega), zp (by unfold rng; omega), zp (by unfold rng; omega), zp (by unfold rng; omega), ew, zn, zp (by unfold rng; omega), zp (by unfold rng; omega), zp (by omega), hT, zp (by unfold rng; omega), zp (by omega), zp (by unfold rng; omega), zp (by unfold rng; omega)]
    rfl
   ·intro x hx
    rcases List.mem_append.1 hx with q | q
    ·exact hA x q
    ·rw [List.mem_singleton.1 q]; unfold InV; omega
   ·dsimp only
    rw [List.sum_append]; simp; omega
   ·dsimp only
    rw [show ((n : Int) - ((k + 1 : Nat) : Int)) = (n : Int) - 1 - k by omega, hX, hY]
    omega
  ·refine .inr ⟨out, ?_, by omega, hA, ?_⟩
   ·unfold sf92_L1
    dsimp only
    rw [decide_eq_false (by omega), cond_false]
   ·have : k = n := by omega
    subst this
    rw [show (k : Int) - k = 0 by omega, Int.zero_mul] at b1 b2
    omega) N (([] : List Int), t, (0 : Int)) ⟨0, rfl, by omega, rfl, fun x hx => (by cases hx), by simp, by simpa using t8, by simpa using t9⟩ (by dsimp only; omega)
 obtain ⟨v, e, q1, q2, q3⟩ := H
 refine ⟨v, ?_, q1, q2, q3⟩
 unfold sf92
 rw [e, zn]
theorem hs_all {l : List Int} {k : Nat} (h : l.length = k) : hs l k = l.sum := by
 unfold hs
 rw [List.take_of_length_le (by omega)]
theorem XR {lo hi : Int} {l : List Int} (h1 : 1 ≤ lo) (h2 : hi ≤ 200) (h : AllP (InV lo hi) l) : AllP Vol l := fun x hx => by
 have := h x hx
 unfold InV at this
 unfold Vol; omega
theorem hs_cell {lo hi : Int} {l : List Int} {n : Nat} (hl : l.length = n) (h : AllP (InV lo hi) l) : CellS n lo hi (hs l) := fun i hi' => by
 obtain ⟨x, hx⟩ : ∃ x, l[i]? = some x := ⟨_, yf (by omega)⟩
 have := h x (List.mem_of_getElem? hx)
 unfold InV at this
 rw [uU hx]; omega
theorem YQ {l : List Int} (h : AllP Vol l) (i : Nat) : ∀ d, i + d ≤ l.length → hs l i ≤ hs l (i + d)
 | 0, _ => Int.le_refl _
 | d + 1, hd => by
  have ih := YQ h i d (by omega)
  obtain ⟨x, hx⟩ : ∃ x, l[i + d]? = some x := ⟨_, yf (by omega)⟩
  have := h x (List.mem_of_getElem? hx)
  unfold Vol at this
  rw [← Nat.add_assoc, uU hx]; omega
def RdX (n : Nat) (v : List Int) (r : Int × Int × Int × Int) : Prop := RdOk' n r ∧ RdS n r (hs v)
theorem s54 {N n : Nat} {t lo hi : Int} {v W : List Int} (ht : TubeOk n t lo hi) (hl : v.length = n) (hv : AllP (InV lo hi) v) (hs' : v.sum = t) (hW : AllP W16 W) (hN : 1000 ≤ N) : ∃ L, sf93 N n t lo hi v W = some L ∧ L.length ≤ 12 ∧ L.length ≤ W.length ∧ AllP (RdX n v) L := by
 obtain ⟨t1, t2, ⟨t3, t4, t5⟩, t6, t7, t8, t9⟩ := ht
 have hb := XR t3 t5 hv
 have ht' : hs v n = t := by rw [hs_all hl, hs']
 have H := uc (step := sf93_L2 N n t v W) (fun x => ∃ k : Nat, x.2 = k ∧ k ≤ 12 ∧ k ≤ W.length ∧ x.1.length = k ∧ AllP (RdX n v) x.1) (fun x => 12 - x.2.toNat) (fun L => L.length ≤ 12 ∧ L.length ≤ W.length ∧ AllP (RdX n v) L) (by
  rintro ⟨out, _⟩ ⟨k, rfl, hk, hkw, hlen, hA⟩
  dsimp only at hlen hA ⊢
  by_cases hc : k < W.length ∧ k < 12
  ·refine .inl ?_
   obtain ⟨w, hw⟩ : ∃ w, W[k]? = some w := ⟨_, yf hc.1⟩
   have w16 := hW w (List.mem_of_getElem? hw)
   have w0 : 0 ≤ w := w16.1
   have tf := tm (a := w) (b := n) w0 (by omega)
   obtain ⟨f, hf⟩ : ∃ f : Nat, Int.tmod w n = f := ⟨(Int.tmod w n).toNat, by omega⟩
   have hfn : f < n := by omega
   have bf := hs_b hb f (by omega)
   have mf := YQ hb f (n - f) (by omega)
   rw [show f + (n - f) = n by omega, ht'] at mf
   unfold W16 at w16
   have ea : Int.tdiv w 16 = w / 16 := td w0
   have eb : Int.tmod (Int.tdiv w 16) 256 = w / 16 % 256 := by rw [ea, tme (by omega)]
   have ec : Int.tdiv w 4096 = w / 4096 := td w0
   have ed : Int.tmod (Int.tdiv w 4096) 4 = w / 4096 % 4 := by rw [ec, tme (by omega)]
   have ee : Int.tdiv w 8192 = w / 8192 := td w0
   have ef : Int.tmod (Int.tdiv w 8192) 3 = w / 8192 % 3 := by rw [ee, tme (by omega)]
   obtain ⟨A, hAdef⟩ : ∃ A, A = w / 16 % 256 := ⟨_, rfl⟩
   have A0 : 0 ≤ A ∧ A ≤ 255 := by omega
   obtain ⟨B, hB⟩ : ∃ B, B = t - hs v f + 5 := ⟨_, rfl⟩
   have B0 : 5 ≤ B ∧ B ≤ 2005 := by omega
   have p1 : 0 * B ≤ A * B := Int.mul_le_mul_of_nonneg_right A0.1 (by omega)
   have p2 : A * B ≤ 255 * B := Int.mul_le_mul_of_nonneg_right A0.2 (by omega)
   obtain ⟨T, hT⟩ : ∃ T, Int.tdiv (A * B) 256 = T := ⟨_, rfl⟩
   have T0 : 0 ≤ T ∧ T ≤ 1998 := by rw [td (by omega)] at hT; omega
   obtain ⟨a, ha⟩ : ∃ a, a = w / 4096 % 4 := ⟨_, rfl⟩
   obtain ⟨b, hb'⟩ : ∃ b, b = w / 8192 % 3 := ⟨_, rfl⟩
   have a0 : 0 ≤ a ∧ a ≤ 3 := by omega
   have b0 : 0 ≤ b ∧ b ≤ 2 := by omega
   -- where the thread ends
   have hin : ∃ g : Nat, iter (sf93_L1 N n t v w (hs v f)) N (f : Int) = some (g : Int) ∧ f ≤ g ∧ g ≤ n ∧ hs v g - hs v f ≤ T ∧ (g < n → T < hs v (g + 1) - hs v f) := by
    have H := uc (step := sf93_L1 N n t v w (hs v f)) (fun x => ∃ g : Nat, x = g ∧ f ≤ g ∧ g ≤ n ∧ hs v g - hs v f ≤ T) (fun x => n - x.toNat) (fun y => ∃ g : Nat, y = g ∧ f ≤ g ∧ g ≤ n ∧ hs v g - hs v f ≤ T ∧ (g < n → T < hs v (g + 1) - hs v f)) (by
     rintro _ ⟨g, rfl, g1, g2, g3⟩
     unfold sf93_L1
     rw [hf, eb, ← hAdef, ← hB, hT]
     by_cases hg : g < n
     ·have bg := hs_b hb (g + 1) (by omega)
      rw [decide_eq_true (by omega), cond_true, zp (by unfold rng; omega), show (g : Int) + 1 = ((g + 1 : Nat) : Int) from rfl, s38 (by omega) (by omega) hb hN, zn, s38 (by omega) (by omega) hb hN, zn, zp (by unfold rng; omega)]
      by_cases hd : hs v (g + 1) - hs v f ≤ T
      ·rw [decide_eq_true hd, zn, cond_true, zp (by unfold rng; omega)]
       exact .inl ⟨_, rfl, ⟨g + 1, rfl, by omega, by omega, hd⟩, by omega⟩
      ·rw [decide_eq_false hd, zn, cond_false]
       exact .inr ⟨_, rfl, g, rfl, g1, g2, g3, fun _ => by omega⟩
     ·rw [decide_eq_false (by omega), cond_false, zn, cond_false]
      exact .inr ⟨_, rfl, g, rfl, g1, g2, g3, fun q => absurd q hg⟩) N (f : Int) ⟨f, rfl, Nat.le_refl _, by omega, by omega⟩ (by omega)
    obtain ⟨y, e, g, rfl, q⟩ := H
    exact ⟨g, e, q⟩
   obtain ⟨g, eg, g1, g2, g3, g4⟩ := hin
   refine ⟨(out ++ [((f : Int), (g : Int), max 0 (T - a), min 2000 (T + b))], ((k + 1 : Nat) : Int)), ?_, ⟨k + 1, rfl, by omega, by omega, by simp; omega, ?_⟩, by dsimp only; omega⟩
   ·unfold sf93_L2
    dsimp only
    rw [decide_eq_true (by omega), cond_true, decide_eq_true (by omega), zn, cond_true, zn, sL, yd rfl hw, zp (jv ⟨w0, by omega⟩), zp (by omega), zp (by rw [ea]; unfold rng; omega), zp (by omega), hf, s38 (by omega) (by omega) hb hN, zn, zp (by unfold rng; omega), zp (by unfold rng; omega), eb, ← hAdef, ← hB, zp (by unfold rng; omega), hT, zp (by unfold rng; omega), eg, zn, ed, ef, ← ha, ← hb', zp (by rw [ec]; unfold rng; omega), zp (by omega), zp (by unfold rng; omega), zp (by rw [ee]; unfold rng; omega), zp (by omega), zp (by unfold rng; omega), zp (by omega), zp (by unfold rng; omega)]
    rfl
   ·intro x hx
    rcases List.mem_append.1 hx with q | q
    ·exact hA x q
    ·rw [List.mem_singleton.1 q]
     refine ⟨⟨⟨by dsimp only; omega, by dsimp only; omega⟩, ⟨by dsimp only; omega, by dsimp only; omega⟩, by dsimp only; omega, by dsimp only; omega, by dsimp only; omega⟩, ?_, fun q => ?_⟩
     ·dsimp only [toN]
      show hs v (Int.toNat g) - hs v (Int.toNat f) ≤ _
      rw [toN, toN]; omega
     ·dsimp only at q ⊢
      rw [toN, toN]
      have := g4 (by omega)
      omega
  ·refine .inr ⟨out, ?_, by omega, by omega, hA⟩
   unfold sf93_L2
   dsimp only
   by_cases h1 : k < W.length
   ·rw [decide_eq_true (by omega), cond_true, decide_eq_false (by omega)]; rfl
   ·rw [decide_eq_false (by omega), cond_false]; rfl) N (([] : List (Int × Int × Int × Int)), (0 : Int)) ⟨0, rfl, by omega, by omega, rfl, fun x hx => (by cases hx)⟩ (by dsimp only; omega)
 obtain ⟨L, e, q1, q2, q3⟩ := H
 refine ⟨L, ?_, q1, q2, q3⟩
 unfold sf93
 rw [e, zn]
theorem tru_of {n : Nat} {t lo hi : Int} {v : List Int} {L : List (Int × Int × Int × Int)} (hl : v.length = n) (hv : AllP (InV lo hi) v) (hs' : v.sum = t) (hL : AllP (RdX n v) L) : TruS n t lo hi L (hs v) := by
 refine ⟨⟨hs_cell hl hv, ?_⟩, fun r hr => (hL r hr).2⟩
 rw [hs_all hl, hs']
 show t - hs v 0 = t
 unfold hs; simp
end Go.Hx.V

namespace Go.Hx.V
open Go.Hx
def Pr (z : Int × Int) : Prop := (1 ≤ z.1 ∧ z.1 ≤ 2000) ∧ 1 ≤ z.2 ∧ z.2 ≤ 2000
instance {z : Int × Int} : Decidable (Pr z) := by unfold Pr; infer_instance
def OrdT (l : List (Int × Int)) : Prop := ∀ i a b, l[i]? = some a → l[i + 1]? = some b → a.1 < b.1 ∧ a.2 < b.2
def TbOk (l : List (Int × Int)) : Prop := 2 ≤ l.length ∧ AllP Pr l ∧ OrdT l
theorem q25 {N : Nat} {a b c : Int} : sf25 N a b c = some (decide (b ≤ a ∧ a ≤ c)) := by
 unfold sf25
 by_cases h : b ≤ a <;> simp [h]
theorem q144 {N : Nat} {a b c : Int} : sf144 N a b c = some (decide (a ≤ c ∧ c ≤ b)) := by
 unfold sf144
 by_cases h : a ≤ c <;> simp [h]
theorem q110 {N : Nat} {a b c : Int} : sf110 N a b c = some (decide (a ≤ c ∧ c ≤ b)) := by
 unfold sf110
 by_cases h : a ≤ c <;> simp [h]
theorem q86 {N : Nat} {p q a b : Int} : sf86 N p q a b = some (decide (a ≤ p ∧ p ≤ q ∧ q ≤ b)) := by
 unfold sf86
 rw [q25, zn]
 by_cases h : a ≤ p ∧ p ≤ q
 ·rw [decide_eq_true h, cond_true]; simp [h]
 ·rw [decide_eq_false h, cond_false]
  congr 1
  exact (decide_eq_false fun h' => h ⟨h'.1, h'.2.1⟩).symm
theorem q139 {N : Nat} {p q a b : Int} : sf139 N p q a b = some (decide (a ≤ p ∧ p ≤ q ∧ q ≤ b)) := by
 unfold sf139
 by_cases h : p ≤ q
 ·rw [decide_eq_true h, cond_true, q144, zn]
  by_cases h2 : a ≤ p ∧ p ≤ b
  ·rw [decide_eq_true h2, cond_true, q144, zn]
   refine congrArg some (decide_eq_decide.2 ?_); omega
  ·rw [decide_eq_false h2, cond_false]
   exact congrArg some (decide_eq_false (by omega)).symm
 ·rw [decide_eq_false h, cond_false]
  exact congrArg some (decide_eq_false (by omega)).symm
theorem q102 {N : Nat} {p q a b : Int} : sf102 N p q a b = some (decide (a ≤ p ∧ p ≤ q ∧ q ≤ b)) := by
 unfold sf102
 by_cases h : p ≤ q
 ·rw [decide_eq_true h, cond_true, q110, zn]
  by_cases h2 : a ≤ p ∧ p ≤ b
  ·rw [decide_eq_true h2, cond_true, q110, zn]
   refine congrArg some (decide_eq_decide.2 ?_); omega
  ·rw [decide_eq_false h2, cond_false]
   exact congrArg some (decide_eq_false (by omega)).symm
 ·rw [decide_eq_false h, cond_false]
  exact congrArg some (decide_eq_false (by omega)).symm
theorem q156 {N : Nat} {z : Int × Int} : sf156 N z.1 z.2 = some (decide (Pr z)) := by
 unfold sf156
 rw [q144, zn]
 by_cases h : 1 ≤ z.1 ∧ z.1 ≤ 2000
 ·rw [decide_eq_true h, cond_true, q144, zn]
  refine congrArg some (decide_eq_decide.2 ⟨fun q => ⟨h, q⟩, fun q => q.2⟩)
 ·rw [decide_eq_false h, cond_false]
  exact congrArg some (decide_eq_false fun q => h q.1).symm
theorem q155 {N : Nat} {l : List (Int × Int)} (h : l.length ≤ 100) (hN : 1000 ≤ N) : sf155 N l = some (decide (AllP Pr l)) := by
 unfold sf155
 rcases vH (step := sf155_L1 N l) (l := l) (p := Pr) (N := N) (by omega) (by
   intro j z hz hp
   have := yE hz
   unfold sf155_L1
   rw [decide_eq_true (by omega), cond_true, yd rfl hz, q156, zn, decide_eq_true hp, Bool.not_true, cond_false, zp (by unfold rng; omega)]) (by
   intro j z hz hp
   have := yE hz
   unfold sf155_L1
   rw [decide_eq_true (by omega), cond_true, yd rfl hz, q156, zn, decide_eq_false hp]
   rfl) (by
   unfold sf155_L1
   rw [decide_eq_false (by omega), cond_false]) with ⟨hA, e⟩ | ⟨hA, e⟩
 ·rw [e, zn, decide_eq_true hA]; rfl
 ·rw [e, zn, decide_eq_false hA]; rfl
theorem q157 {N : Nat} {l : List (Int × Int)} (h : l.length ≤ 100) (h2 : 2 ≤ l.length) (hN : 1000 ≤ N) : ∃ b : Bool, sf157 N l = some b ∧ (b = true ↔ OrdT l) := by
 haveI : DecidablePred fun (j : Nat) => ∀ a b, l[j]? = some a → l[j + 1]? = some b → a.1 < b.1 ∧ a.2 < b.2 := fun j => Classical.propDecidable _
 have H := j0 (step := sf157_L1 N l) (x := (1 : Int)) (N := N) (fun j => ((j + 1 : Nat) : Int)) (l.length - 1) (fun (j : Nat) => ∀ a b, l[j]? = some a → l[j + 1]? = some b → a.1 < b.1 ∧ a.2 < b.2) (Sum.inr () : Unit ⊕ Unit) (Sum.inl () : Unit ⊕ Unit) rfl (fun j hj hp => by
   obtain ⟨a, ha⟩ : ∃ a, l[j]? = some a := ⟨_, yf (by omega)⟩
   obtain ⟨b, hb⟩ : ∃ b, l[j + 1]? = some b := ⟨_, yf (by omega)⟩
   have := hp a b ha hb
   unfold sf157_L1 sf158
   rw [decide_eq_true (by omega), cond_true, zp (by unfold rng; omega), yd (n := j) (by omega) ha, yd rfl hb, decide_eq_true this.1, cond_true, decide_eq_true this.2, zn, Bool.not_true, cond_false, zp (by unfold rng; omega)]
   rfl) (fun j hj hp => by
   obtain ⟨a, ha⟩ : ∃ a, l[j]? = some a := ⟨_, yf (by omega)⟩
   obtain ⟨b, hb⟩ : ∃ b, l[j + 1]? = some b := ⟨_, yf (by omega)⟩
   have hp' : ¬ (a.1 < b.1 ∧ a.2 < b.2) := fun q => hp fun a' b' e1 e2 => by
    rw [ha] at e1; rw [hb] at e2; cases e1; cases e2; exact q
   unfold sf157_L1 sf158
   rw [decide_eq_true (by omega), cond_true, zp (by unfold rng; omega), yd (n := j) (by omega) ha, yd rfl hb]
   by_cases c : a.1 < b.1
   ·rw [decide_eq_true c, cond_true, decide_eq_false (by omega), zn]; rfl
   ·rw [decide_eq_false c, cond_false, zn]; rfl) (by
   unfold sf157_L1
   rw [show l.length - 1 + 1 = l.length by omega, decide_eq_false (by omega), cond_false]) (by omega)
 unfold sf157
 rcases H with ⟨h1, e⟩ | ⟨h1, e⟩
 ·refine ⟨true, by rw [e]; rfl, fun _ i a b ha hb => ?_, fun _ => rfl⟩
  have := yE hb
  exact h1 i (by omega) a b ha hb
 ·refine ⟨false, by rw [e]; rfl, fun q => (by cases q), fun q => (h1 fun j hj => q j).elim⟩
theorem q138 {N : Nat} {l : List (Int × Int)} (h : l.length ≤ 8) (hN : 1000 ≤ N) : (TbOk l ∧ sf138 N l = some 0) ∨ (¬ TbOk l ∧ sf138 N l = some 1) := by
 unfold sf138
 rw [decide_eq_false (by omega), cond_false]
 by_cases h2 : l.length < 2
 ·rw [decide_eq_true (by omega), cond_true, zn]
  exact .inr ⟨fun q => by have := q.1; omega, rfl⟩
 ·rw [decide_eq_false (by omega), cond_false, q155 (by omega) hN, zn]
  by_cases hA : AllP Pr l
  ·obtain ⟨b, e, hb⟩ := q157 (N := N) (l := l) (by omega) (by omega) hN
   rw [decide_eq_true hA, Bool.not_true, cond_false, e, zn, zn]
   cases b with
   | true => exact .inl ⟨⟨by omega, hA, hb.1 rfl⟩, rfl⟩
   | false => exact .inr ⟨fun q => (by have := hb.2 q.2.2; cases this), rfl⟩
  ·rw [decide_eq_false hA]
   exact .inr ⟨fun q => hA q.2.1, rfl⟩
theorem q85 {N : Nat} {l : List (Int × Int)} (h : l.length ≤ 100) (hN : 1000 ≤ N) : (TbOk l ∧ sf85 N l = some true) ∨ (¬ TbOk l ∧ sf85 N l = some false) := by
 haveI : DecidablePred fun (j : Nat) => ∀ b, l[j]? = some b → Pr b ∧ (0 < j → ∀ a, l[j - 1]? = some a → a.1 < b.1 ∧ a.2 < b.2) := fun j => Classical.propDecidable _
 have H := j0 (step := sf85_L1 N l) (x := (0 : Int)) (N := N) (fun j => (j : Int)) l.length (fun (j : Nat) => ∀ b, l[j]? = some b → Pr b ∧ (0 < j → ∀ a, l[j - 1]? = some a → a.1 < b.1 ∧ a.2 < b.2)) (Sum.inr () : Unit ⊕ Unit) (Sum.inl () : Unit ⊕ Unit) rfl (fun j hj hp => by
   obtain ⟨b, hb⟩ : ∃ b, l[j]? = some b := ⟨_, yf (by omega)⟩
   obtain ⟨⟨q1, q2⟩, q3⟩ := hp b hb
   unfold sf85_L1
   rw [decide_eq_true (by omega), cond_true, yd rfl hb, q25, zn, decide_eq_true q1, Bool.not_true, cond_false, yd rfl hb, q25, zn, decide_eq_true q2, Bool.not_true, cond_false]
   by_cases c : 0 < j
   ·obtain ⟨a, ha⟩ : ∃ a, l[j - 1]? = some a := ⟨_, yf (by omega)⟩
    have := q3 c a ha
    rw [decide_eq_true (by omega), cond_true, yd rfl hb, zp (by unfold rng; omega), yd (n := j - 1) (by omega) ha, decide_eq_false (by omega), cond_false, yd rfl hb, zp (by unfold rng; omega), yd (n := j - 1) (by omega) ha, decide_eq_false (by omega), zn, cond_false, zp (by unfold rng; omega)]
    rfl
   ·rw [decide_eq_false (by omega), cond_false, zn, cond_false, zp (by unfold rng; omega)]
    rfl) (fun j hj hp => by
   obtain ⟨b, hb⟩ : ∃ b, l[j]? = some b := ⟨_, yf (by omega)⟩
   unfold sf85_L1
   rw [decide_eq_true (by omega), cond_true, yd rfl hb, q25, zn]
   by_cases q1 : 1 ≤ b.1 ∧ b.1 ≤ 2000
   ·rw [decide_eq_true q1, Bool.not_true, cond_false, yd rfl hb, q25, zn]
    by_cases q2 : 1 ≤ b.2 ∧ b.2 ≤ 2000
    ·rw [decide_eq_true q2, Bool.not_true, cond_false]
     by_cases c : 0 < j
     ·obtain ⟨a, ha⟩ : ∃ a, l[j - 1]? = some a := ⟨_, yf (by omega)⟩
      have q3 : ¬ (a.1 < b.1 ∧ a.2 < b.2) := fun q => hp fun b' e => by
       rw [hb] at e; cases e
       exact ⟨⟨q1, q2⟩, fun _ a' e => by rw [ha] at e; cases e; exact q⟩
      rw [decide_eq_true (by omega), cond_true, yd rfl hb, zp (by unfold rng; omega), yd (n := j - 1) (by omega) ha]
      by_cases q4 : b.1 ≤ a.1
      ·rw [decide_eq_true q4, cond_true, zn]; rfl
      ·rw [decide_eq_false q4, cond_false, yd rfl hb, zp (by unfold rng; omega), yd (n := j - 1) (by omega) ha, decide_eq_true (by omega), zn]; rfl
     ·exact (hp fun b' e => by rw [hb] at e; cases e; exact ⟨⟨q1, q2⟩, fun c' => absurd c' c⟩).elim
    ·rw [decide_eq_false q2]; rfl
   ·rw [decide_eq_false q1]; rfl) (by
   unfold sf85_L1
   rw [decide_eq_false (by omega), cond_false]) (by omega)
 unfold sf85
 rcases H with ⟨h1, e⟩ | ⟨h1, e⟩
 ·rw [e, zn, sR]
  have hA : AllP Pr l := fun x hx => by
   obtain ⟨j, hj, rfl⟩ := List.getElem_of_mem hx
   exact (h1 j hj _ (yf hj)).1
  have hO : OrdT l := fun i a b ha hb => by
   have := yE hb
   exact (h1 (i + 1) this b hb).2 (by omega) a ha
  by_cases c : 2 ≤ l.length
  ·rw [decide_eq_true (by omega)]; exact .inl ⟨⟨c, hA, hO⟩, rfl⟩
  ·rw [decide_eq_false (by omega)]; exact .inr ⟨fun q => c q.1, rfl⟩
 ·rw [e, zn, sL]
  refine .inr ⟨fun q => h1 fun j hj b hb => ⟨q.2.1 b (List.mem_of_getElem? hb), fun c a ha => ?_⟩, rfl⟩
  exact q.2.2 (j - 1) a b ha (by rw [show j - 1 + 1 = j by omega]; exact hb)
def seg (x y : Int × Int) (p : Int) : Int := x.2 + Int.tdiv ((y.2 - x.2) * (p - x.1)) (y.1 - x.1)
theorem Xg {x y : Int × Int} {p : Int} (hx : Pr x) (hy : Pr y) (h1 : x.1 < y.1) (h2 : x.2 < y.2) (h3 : x.1 ≤ p) (h4 : p ≤ y.1) : 0 ≤ (y.2 - x.2) * (p - x.1) ∧ (y.2 - x.2) * (p - x.1) ≤ 4000000 ∧ 0 ≤ Int.tdiv ((y.2 - x.2) * (p - x.1)) (y.1 - x.1) ∧ Int.tdiv ((y.2 - x.2) * (p - x.1)) (y.1 - x.1) ≤ y.2 - x.2 := by
 unfold Pr at hx hy
 have a1 : 0 ≤ (y.2 - x.2) * (p - x.1) := Int.mul_nonneg (by omega) (by omega)
 have a2 : (y.2 - x.2) * (p - x.1) ≤ (y.2 - x.2) * (y.1 - x.1) := Int.mul_le_mul_of_nonneg_left (by omega) (by omega)
 have a3 : (y.2 - x.2) * (p - x.1) ≤ 2000 * (p - x.1) := Int.mul_le_mul_of_nonneg_right (by omega) (by omega)
 rw [td a1]
 refine ⟨a1, by omega, Int.ediv_nonneg a1 (by omega), ?_⟩
 exact Int.ediv_le_of_le_mul (by omega) a2
theorem q160 {N : Nat} {a b : Int} (h : 0 ≤ a) (hb : 0 < b) (h2 : a ≤ 4000000) : sf160 N a b = some (Int.tdiv a b) := by
 unfold sf160
 have t := tm h hb
 have e : Int.tdiv a b = a / b := td h
 have b1 : 0 ≤ a / b := Int.ediv_nonneg h (by omega)
 have b2 : a / b ≤ a := Int.ediv_le_self _ h
 rw [zp (by rw [e]; unfold rng; omega), zp (by omega), decide_eq_false (by omega), cond_false]
def At (l : List (Int × Int)) (p : Int) (k : Nat) (x y : Int × Int) : Prop := l[k]? = some x ∧ l[k + 1]? = some y ∧ x.1 ≤ p ∧ p ≤ y.1 ∧ ∀ i z, i < k → l[i + 1]? = some z → z.1 < p
theorem at_ex {l : List (Int × Int)} {p : Int} (hl : TbOk l) {a b : Int × Int} (ha : l[0]? = some a) (hb : l[l.length - 1]? = some b) (h1 : a.1 ≤ p) (h2 : p ≤ b.1) : ∃ k x y, At l p k x y := by
 have h2l := hl.1
 have : ∃ k, k + 1 < l.length ∧ ∀ z, l[k + 1]? = some z → p ≤ z.1 := ⟨l.length - 2, by omega, fun z hz => by
  rw [show l.length - 2 + 1 = l.length - 1 by omega, hb] at hz; cases hz; exact h2⟩
 obtain ⟨k, hk, hmin⟩ : ∃ k, (k + 1 < l.length ∧ ∀ z, l[k + 1]? = some z → p ≤ z.1) ∧ ∀ i, i < k → ¬ (i + 1 < l.length ∧ ∀ z, l[i + 1]? = some z → p ≤ z.1) := by
  obtain ⟨k, hk⟩ := this
  induction k using Nat.strongRecOn with
  | ind k ih =>
   by_cases g : ∃ i, i < k ∧ (i + 1 < l.length ∧ ∀ z, l[i + 1]? = some z → p ≤ z.1)
   ·obtain ⟨i, hi, hi2⟩ := g
    exact ih i hi hi2
   ·exact ⟨k, hk, fun i hi q => g ⟨i, hi, q⟩⟩
 obtain ⟨x, hx⟩ : ∃ x, l[k]? = some x := ⟨_, yf (by omega)⟩
 obtain ⟨y, hy⟩ : ∃ y, l[k + 1]? = some y := ⟨_, yf (by omega)⟩
 refine ⟨k, x, y, hx, hy, ?_, hk.2 y hy, fun i z hi hz => ?_⟩
 ·cases k with
  | zero => rw [ha] at hx; cases hx; exact h1
  | succ k =>
   refine Int.le_of_lt (Int.not_le.1 fun q => hmin k (by omega) ⟨by omega, fun z hz => ?_⟩)
   rw [hx] at hz; cases hz; exact q
 ·exact Int.not_le.1 fun q => hmin i hi ⟨yE hz, fun z' hz' => by rw [hz] at hz'; cases hz'; exact q⟩
theorem q73 {N : Nat} {l : List (Int × Int)} {p : Int} {k : Nat} {x y : Int × Int} (hl : TbOk l) (h8 : l.length ≤ 100) (h : At l p k x y) (hN : 1000 ≤ N) : sf73 N l p = some (seg x y p) := by
 obtain ⟨hx, hy, h1, h2, h3⟩ := h
 have hk := yE hy
 have px := hl.2.1 x (List.mem_of_getElem? hx)
 have py := hl.2.1 y (List.mem_of_getElem? hy)
 have o := hl.2.2 k x y hx hy
 have sb := Xg px py o.1 o.2 h1 h2
 have e : iter (sf73_L1 l p) N (0 : Int) = some (k : Int) := by
  refine yF (fun j => (j : Int)) k _ rfl (fun j hj => ?_) ?_ (by omega)
  ·obtain ⟨z, hz⟩ : ∃ z, l[j + 1]? = some z := ⟨_, yf (by omega)⟩
   unfold sf73_L1
   rw [zp (by unfold rng; omega), yd (j := (j : Int) + 1) (n := j + 1) (by omega) hz, decide_eq_true (h3 j z hj hz), cond_true, zp (by unfold rng; omega)]
   rfl
  ·unfold sf73_L1
   rw [zp (by unfold rng; omega), yd (j := (k : Int) + 1) (n := k + 1) (by omega) hy, decide_eq_false (by omega), cond_false]
 unfold sf73
 unfold Pr at px py
 rw [e, zn, yd rfl hx, zp (by unfold rng; omega), yd (j := (k : Int) + 1) (n := k + 1) (by omega) hy, zp (by unfold rng; omega), zp (by unfold rng; omega), zp (by unfold rng; omega), zp (by unfold rng; omega), zp (by unfold rng; omega), zp (by unfold rng; omega)]
 rfl
theorem tb_lt {l : List (Int × Int)} (hl : TbOk l) {i : Nat} {a : Int × Int} (ha : l[i]? = some a) : ∀ (d : Nat) (b : Int × Int), l[i + d + 1]? = some b → a.1 < b.1 ∧ a.2 < b.2
 | 0, b, hb => hl.2.2 i a b ha hb
 | d + 1, b, hb => by
  have := yE hb
  obtain ⟨c, hc⟩ : ∃ c, l[i + d + 1]? = some c := ⟨_, yf (by omega)⟩
  have q1 := tb_lt hl ha d c hc
  have q2 := hl.2.2 (i + d + 1) c b hc (by rw [show i + d + 1 + 1 = i + (d + 1) + 1 by omega]; exact hb)
  omega
theorem seg_end {x y : Int × Int} (h : x.1 < y.1) : seg x y y.1 = y.2 := by
 unfold seg
 rw [Int.mul_tdiv_cancel _ (by omega)]; omega
theorem Y0 {x y : Int × Int} : seg x y x.1 = x.2 := by
 unfold seg
 rw [Int.sub_self, Int.mul_zero, Int.zero_tdiv]; omega
theorem q140 {N : Nat} {l : List (Int × Int)} {a b : Int × Int} (h : l.length ≤ 100) (ha : l[0]? = some a) (hb : l[l.length - 1]? = some b) : sf140 N l = some (a.1, b.1) := by
 have := yE ha
 unfold sf140
 rw [ix_0 ha, zp (by unfold rng; omega), yd (n := l.length - 1) (by omega) hb]
theorem q141 {N : Nat} {l : List (Int × Int)} {p : Int} {k : Nat} {x y : Int × Int} (hl : TbOk l) (h8 : l.length ≤ 100) (h : At l p k x y) (hN : 1000 ≤ N) : sf141 N l p = some (seg x y p) := by
 obtain ⟨hx, hy, h1, h2, h3⟩ := h
 have hk := yE hy
 have px := hl.2.1 x (List.mem_of_getElem? hx)
 have py := hl.2.1 y (List.mem_of_getElem? hy)
 have o := hl.2.2 k x y hx hy
 have hp : 1 ≤ p ∧ p ≤ 2000 := by unfold Pr at px py; omega
 have e : iter (sf141_L1 N l p) N ((1 : Int), (0 : Int)) = some (seg x y p) := by
  refine yF (fun j => (((j + 1 : Nat) : Int), if j ≤ k then (0 : Int) else seg x y p)) (l.length - 1) _ (by simp) (fun j hj => ?_) ?_ (by omega)
  ·obtain ⟨a, ha⟩ : ∃ a, l[j]? = some a := ⟨_, yf (by omega)⟩
   obtain ⟨b, hb⟩ : ∃ b, l[j + 1]? = some b := ⟨_, yf (by omega)⟩
   have pa := hl.2.1 a (List.mem_of_getElem? ha)
   have pb := hl.2.1 b (List.mem_of_getElem? hb)
   have ob := hl.2.2 j a b ha hb
   have e2 : (l.drop (Int.toNat (((j + 1 : Nat) : Int) - 1))).take ((Int.toNat (((j + 1 : Nat) : Int) + 1)) - (Int.toNat (((j + 1 : Nat) : Int) - 1))) = [a, b] := by
    rw [show Int.toNat (((j + 1 : Nat) : Int) - 1) = j by omega, show Int.toNat (((j + 1 : Nat) : Int) + 1) - j = 2 by omega]
    apply List.ext_getElem?
    intro i
    rw [List.getElem?_take]
    by_cases c : i < 2
    ·rw [if_pos c, List.getElem?_drop]
     rcases show i = 0 ∨ i = 1 by omega with rfl | rfl
     ·exact ha
     ·exact hb
    ·rw [if_neg c, List.getElem?_eq_none (by simp; omega)]
   have e3 : sf140 N [a, b] = some (a.1, b.1) := q140 (by simp) rfl rfl
   unfold sf141_L1
   dsimp only
   rw [decide_eq_true (by omega), cond_true, zp (by unfold rng; omega), zp (by unfold rng; omega), zp (by omega), e2, e3, zn, q144, zn]
   dsimp only
   by_cases c : a.1 ≤ p ∧ p ≤ b.1
   ·have sb := Xg pa pb ob.1 ob.2 c.1 c.2
    have hv : seg a b p = seg x y p := by
     rcases Nat.lt_trichotomy j k with q | q | q
     ·have := h3 j b q hb; omega
     ·subst q
      rw [hx] at ha; cases ha
      rw [hy] at hb; cases hb
      rfl
     ·rcases Nat.lt_or_ge j (k + 2) with q2 | q2
      ·obtain rfl : j = k + 1 := by omega
       rw [hy] at ha; cases ha
       have : p = y.1 := by omega
       rw [this, Y0, seg_end o.1]
      ·have := tb_lt hl hy (j - k - 2) a (by rw [show k + 1 + (j - k - 2) + 1 = j by omega]; exact ha)
       omega
    have hjk : k ≤ j := by
     rcases Nat.lt_or_ge j k with q | q
     ·have := h3 j b q hb; omega
     ·exact q
    unfold Pr at pa pb
    rw [decide_eq_true c, cond_true, zp (by unfold rng; omega), yd (n := j) (by omega) ha, yd rfl hb, zp (by unfold rng; omega), zp (by unfold rng; omega), zp (by unfold rng; omega), zp (by unfold rng; omega), q160 sb.1 (by omega) sb.2.1, zn, zp (by unfold rng; omega), zp (by unfold rng; omega)]
    rw [if_neg (by omega)]
    show some (Sum.inl (_, seg a b p)) = _
    rw [hv]
    rfl
   ·rw [decide_eq_false c, cond_false, zp (by unfold rng; omega)]
    have hne : j ≠ k := fun q => by
     subst q
     rw [hx] at ha; cases ha
     rw [hy] at hb; cases hb
     exact c ⟨h1, h2⟩
    have e5 : (if j + 1 ≤ k then (0 : Int) else seg x y p) = if j ≤ k then (0 : Int) else seg x y p := by
     by_cases q : j ≤ k
     ·rw [if_pos q, if_pos (by omega)]
     ·rw [if_neg q, if_neg (by omega)]
    rw [e5]
    rfl
  ·unfold sf141_L1
   dsimp only
   rw [show l.length - 1 + 1 = l.length by omega, decide_eq_false (by omega), cond_false, if_neg (by omega)]
 unfold sf141
 rw [e, zn]
end Go.Hx.V

namespace Go.Hx.V
open Go.Hx
theorem XE {x b k : Int} (hb : 0 < b) (h1 : k * b ≤ x) (h2 : x < (k + 1) * b) : x / b = k := by
 have a1 := Int.le_ediv_of_mul_le hb h1
 have a2 := Int.ediv_lt_of_lt_mul hb h2
 omega
theorem k9 {a b : Int} (hb : 0 < b) : a / b * b ≤ a := Int.ediv_mul_le a (by omega)
theorem Yp {a b : Int} (hb : 0 < b) : a < (a / b + 1) * b := Int.lt_ediv_add_one_mul_self a hb
theorem up_lo {a b : Int} (hb : 0 < b) : a ≤ (a + b - 1) / b * b := by
 have := Yp (a := a + b - 1) hb
 rw [Int.add_mul, Int.one_mul] at this
 omega
theorem up_hi {a b : Int} (hb : 0 < b) : ((a + b - 1) / b - 1) * b < a := by
 have := k9 (a := a + b - 1) hb
 rw [Int.sub_mul, Int.one_mul]
 omega
theorem YT {a b m : Int} (ha : 0 ≤ a) (hb : 0 < b) (h : a ≤ m) : 0 ≤ a / b ∧ a / b ≤ m := ⟨Int.ediv_nonneg ha (by omega), by have := Int.ediv_le_self b ha; omega⟩
theorem q107 {N : Nat} {a b : Int} (ha : 0 ≤ a) (hb : 0 < b) (h : a ≤ 100000000) : sf107 N a b = some (a / b) := by
 have := YT ha hb h
 unfold sf107
 rw [zp (by rw [td ha]; unfold rng; omega), td ha]
theorem q172 {N : Nat} {a b : Int} (ha : 0 ≤ a) (hb : 0 < b) (h : a ≤ 100000000) (h2 : b ≤ 100000) : sf172 N a b = some ((a + b - 1) / b) := by
 have := YT (a := a + b - 1) (m := 100100000) (by omega) hb (by omega)
 unfold sf172
 rw [zp (by unfold rng; omega), zp (by unfold rng; omega), zp (by rw [td (by omega)]; unfold rng; omega), td (by omega)]
theorem q142 {N : Nat} {a b c d : Int} (ha : 0 ≤ a) (hb : 0 < b) (h : a ≤ 100000000) (hc : 0 ≤ c) (hd : 0 < d) (h3 : c ≤ 100000000) (h4 : d ≤ 100000) : sf142 N a b c d = some (a / b, (c + d - 1) / d) := by
 unfold sf142
 rw [show sf161 N = some () from rfl, zn, q107 ha hb h, zn, q172 hc hd h3 h4, zn]
theorem q71 {N : Nat} {a b : Int} (ha : 0 ≤ a) (hb : 0 < b) (h : a ≤ 100000000) (h2 : b ≤ 100000) (hN : 1000 ≤ N) : sf71 N a b = some (a / b) := by
 have := YT ha hb h
 have l := k9 (a := a) hb
 have p : 0 ≤ a / b * b := Int.mul_nonneg this.1 (by omega)
 obtain ⟨M, rfl⟩ : ∃ M, N = M + 1 := ⟨N - 1, by omega⟩
 unfold sf71
 rw [td ha, zp (by unfold rng; omega), jZ (y := a / b) (by unfold sf71_L1; rw [zp (by unfold rng; omega), decide_eq_false (by omega), cond_false]), zn]
theorem q72 {N : Nat} {a b : Int} (ha : 0 ≤ a) (hb : 0 < b) (h : a ≤ 100000000) (h2 : b ≤ 100000) (hN : 1000 ≤ N) : sf72 N a b = some ((a + b - 1) / b) := by
 have := YT ha hb h
 have l := k9 (a := a) hb
 have g := Yp (a := a) hb
 have p : 0 ≤ a / b * b := Int.mul_nonneg this.1 (by omega)
 rw [Int.add_mul, Int.one_mul] at g
 obtain ⟨M, rfl⟩ : ∃ M, N = M + 1 + 1 := ⟨N - 2, by omega⟩
 unfold sf72
 rw [td ha, zp (by unfold rng; omega)]
 by_cases c : a / b * b < a
 ·have e : (a + b - 1) / b = a / b + 1 := XE hb (by rw [Int.add_mul, Int.one_mul]; omega) (by rw [Int.add_mul, Int.add_mul, Int.one_mul]; omega)
  rw [Yh (x' := a / b + 1) (by unfold sf72_L1; rw [zp (by unfold rng; omega), decide_eq_true c, cond_true, zp (by unfold rng; omega)]), jZ (y := a / b + 1) (by unfold sf72_L1; rw [Int.add_mul, Int.one_mul, zp (by unfold rng; omega), decide_eq_false (by omega), cond_false]), zn, e]
 ·have e : (a + b - 1) / b = a / b := XE hb (by omega) (by rw [Int.add_mul, Int.one_mul]; omega)
  rw [jZ (y := a / b) (by unfold sf72_L1; rw [zp (by unfold rng; omega), decide_eq_false c, cond_false]), zn, e]
theorem q66 {N : Nat} {l : List (Int × Int)} (h : l.length ≤ 100) (hN : 1000 ≤ N) : sf66 N l = some l := by
 unfold sf66
 have e : iter (sf66_L1 l) N (([] : List (Int × Int)), (0 : Int)) = some l := by
  refine yF (fun j => (l.take j, (j : Int))) l.length l rfl (fun j hj => ?_) ?_ (by omega)
  ·obtain ⟨z, hz⟩ : ∃ z, l[j]? = some z := ⟨_, yf hj⟩
   unfold sf66_L1
   dsimp only
   rw [decide_eq_true (by omega), cond_true, yd rfl hz, yd rfl hz, zp (by rw [List.length_take]; omega), zp (by unfold rng; omega), vJ hz]
   rfl
  ·unfold sf66_L1
   dsimp only
   rw [decide_eq_false (by omega), cond_false, List.take_length]
 rw [e, zn]
section
variable {N : Nat} {n t lo hi : Int} {L : List (Int × Int × Int × Int)} {Tb : List (Int × Int)} {p q d1 d2 : Int}
theorem q21 (hL : L.length ≤ 100) (hT : Tb.length ≤ 100) (hN : 1000 ≤ N) : sf21 N n t lo hi L Tb p q d1 d2 = some (n, t, lo, hi, L, Tb, p, q, d1, d2) := by
 unfold sf21
 rw [s21, zn, s23 hL hN, zn, q66 hT hN, zn, show sf29 N d1 d2 = some (d1, d2) from rfl, zn]
def PrOk (Tb : List (Int × Int)) (p q : Int) : Prop := ∃ a b, Tb[0]? = some a ∧ Tb[Tb.length - 1]? = some b ∧ a.1 ≤ p ∧ p ≤ q ∧ q ≤ b.1
def InOk (n t lo hi : Int) (L : List (Int × Int × Int × Int)) (Tb : List (Int × Int)) (p q d1 d2 : Int) : Prop := (TubeOk n t lo hi ∧ AllP (RdOk' n) L) ∧ TbOk Tb ∧ PrOk Tb p q ∧ 0 ≤ d1 ∧ d1 ≤ d2 ∧ d2 ≤ 100
def Lim (L : List (Int × Int × Int × Int)) (Tb : List (Int × Int)) : Prop := L.length ≤ 12 ∧ Tb.length ≤ 8
theorem q84 (hL : L.length ≤ 12) (hN : 1000 ≤ N) : ∃ e, sf84 N n t lo hi L = some e ∧ (e = 0 ↔ TubeOk n t lo hi ∧ AllP (RdOk' n) L) := by
 rw [s70 (by omega) hN]
 by_cases a1 : TubeOk n t lo hi
 ·rw [if_pos a1, if_pos hL]
  by_cases a3 : AllP (RdOk' n) L
  ·rw [if_pos a3]; exact ⟨0, rfl, fun _ => ⟨a1, a3⟩, fun _ => rfl⟩
  ·rw [if_neg a3]; exact ⟨2, rfl, fun q => by omega, fun q => (a3 q.2).elim⟩
 ·rw [if_neg a1]; exact ⟨1, rfl, fun q => by omega, fun q => (a1 q.1).elim⟩
theorem q40_lim (h : ¬ Lim L Tb) : sf40 N n t lo hi L Tb p q d1 d2 = some 3 := by
 unfold Lim at h
 unfold sf40
 by_cases c : 12 < L.length
 ·rw [decide_eq_true (by omega)]; rfl
 ·rw [decide_eq_false (by omega), cond_false, decide_eq_true (by omega)]; rfl
theorem q40 (h : Lim L Tb) (hN : 1000 ≤ N) : (InOk n t lo hi L Tb p q d1 d2 ∧ sf40 N n t lo hi L Tb p q d1 d2 = some 0) ∨ (¬ InOk n t lo hi L Tb p q d1 d2 ∧ sf40 N n t lo hi L Tb p q d1 d2 = some 1) := by
 obtain ⟨h1, h2⟩ := h
 obtain ⟨e, e84, he⟩ := q84 (N := N) (n := n) (t := t) (lo := lo) (hi := hi) h1 hN
 unfold sf40
 rw [decide_eq_false (by omega), cond_false, decide_eq_false (by omega), zn, cond_false, zn, sR, e84, zn]
 by_cases c1 : e = 0
 ·have ok1 := he.1 c1
  rw [decide_eq_true c1, Bool.not_true, cond_false]
  rcases q85 (N := N) (l := Tb) (by omega) hN with ⟨ok2, e85⟩ | ⟨no, e85⟩
  ·have hl := ok2.1
   obtain ⟨a, ha⟩ : ∃ a, Tb[0]? = some a := ⟨_, yf (by omega)⟩
   obtain ⟨b, hb⟩ : ∃ b, Tb[Tb.length - 1]? = some b := ⟨_, yf (by omega)⟩
   rw [e85, zn, Bool.not_true, cond_false, ix_0 ha, zp (by unfold rng; omega), yd (n := Tb.length - 1) (by omega) hb, q86, zn]
   by_cases c3 : a.1 ≤ p ∧ p ≤ q ∧ q ≤ b.1
   ·rw [decide_eq_true c3, Bool.not_true, cond_false, q25, zn]
    by_cases c4 : 0 ≤ d1 ∧ d1 ≤ d2
    ·rw [decide_eq_true c4, Bool.not_true, cond_false]
     by_cases c5 : d2 ≤ 100
     ·rw [decide_eq_false (by omega)]
      exact .inl ⟨⟨ok1, ok2, ⟨a, b, ha, hb, c3⟩, c4.1, c4.2, c5⟩, rfl⟩
     ·rw [decide_eq_true (by omega)]
      exact .inr ⟨fun q => c5 q.2.2.2.2.2, rfl⟩
    ·rw [decide_eq_false c4]
     exact .inr ⟨fun q => c4 ⟨q.2.2.2.1, q.2.2.2.2.1⟩, rfl⟩
   ·rw [decide_eq_false c3]
    refine .inr ⟨fun q => c3 ?_, rfl⟩
    obtain ⟨a', b', g1, g2, g3⟩ := q.2.2.1
    rw [ha] at g1; rw [hb] at g2; cases g1; cases g2
    exact g3
  ·rw [e85]
   exact .inr ⟨fun q => no q.2.1, rfl⟩
 ·rw [decide_eq_false c1]
  exact .inr ⟨fun q => c1 (he.2 q.1), rfl⟩
theorem q101 (h2 : Tb.length ≤ 8) (hN : 1000 ≤ N) (hT : TbOk Tb) (hP : PrOk Tb p q) : ∃ s1 s2, sf101 N Tb p q = some (s1, s2, 0) ∧ sf73 N Tb p = some s1 ∧ sf73 N Tb q = some s2 ∧ 1 ≤ s1 ∧ s1 ≤ s2 ∧ s2 ≤ 2000 := by
 obtain ⟨a, b, ha, hb, c1, c2, c3⟩ := hP
 obtain ⟨k, x, y, hA⟩ := at_ex (p := p) hT ha hb c1 (by omega)
 obtain ⟨k', x', y', hA'⟩ := at_ex (p := q) hT ha hb (by omega) c3
 have sg : ∀ {p : Int} {k x y}, At Tb p k x y → x.2 ≤ seg x y p ∧ seg x y p ≤ y.2 ∧ 1 ≤ seg x y p ∧ seg x y p ≤ 2000 := fun {p k x y} h => by
  have px := hT.2.1 x (List.mem_of_getElem? h.1)
  have py := hT.2.1 y (List.mem_of_getElem? h.2.1)
  have o := hT.2.2 k x y h.1 h.2.1
  have := Xg px py o.1 o.2 h.2.2.1 h.2.2.2.1
  unfold Pr at px py
  unfold seg; omega
 have g1 := sg hA
 have g2 := sg hA'
 refine ⟨seg x y p, seg x' y' q, ?_, q73 hT (by omega) hA hN, q73 hT (by omega) hA' hN, g1.2.2.1, ?_, g2.2.2.2⟩
 ·unfold sf101
  rcases q138 (N := N) h2 hN with ⟨ok, e⟩ | ⟨no, e⟩
  ·rw [e, zn, decide_eq_true rfl, Bool.not_true, cond_false, q140 (by omega) ha hb, zn, q139, zn]
   dsimp only
   rw [decide_eq_true ⟨c1, c2, c3⟩, Bool.not_true, cond_false, q141 hT (by omega) hA hN, zn, q141 hT (by omega) hA' hN, zn]
  ·exact absurd hT no
 ·rcases Nat.lt_trichotomy k k' with h | h | h
  ·have m : y.2 ≤ x'.2 := by
    rcases Nat.lt_or_ge (k + 1) k' with w | w
    ·have := tb_lt hT hA.2.1 (k' - (k + 1) - 1) x' (by rw [show k + 1 + (k' - (k + 1) - 1) + 1 = k' by omega]; exact hA'.1)
     omega
    ·have : k' = k + 1 := by omega
     subst this
     have := hA'.1
     rw [hA.2.1] at this
     cases this
     omega
   omega
  ·subst h
   have e1 := hA'.1
   have e2 := hA'.2.1
   rw [hA.1] at e1; rw [hA.2.1] at e2
   cases e1; cases e2
   have px := hT.2.1 x (List.mem_of_getElem? hA.1)
   have py := hT.2.1 y (List.mem_of_getElem? hA.2.1)
   have o := hT.2.2 k x y hA.1 hA.2.1
   have b1 := Xg px py o.1 o.2 hA.2.2.1 hA.2.2.2.1
   have b2 := Xg px py o.1 o.2 hA'.2.2.1 hA'.2.2.2.1
   unfold seg
   rw [td b1.1, td b2.1]
   have : (y.2 - x.2) * (p - x.1) ≤ (y.2 - x.2) * (q - x.1) := Int.mul_le_mul_of_nonneg_left (by omega) (by omega)
   have := Int.ediv_le_ediv (c := y.1 - x.1) (by omega) this
   omega
  ·have hz : ∃ z, Tb[k' + 1]? = some z := ⟨_, hA'.2.1⟩
   have := hA.2.2.2.2 k' y' h hA'.2.1
   have := hA'.2.2.2.1
   omega
end
end Go.Hx.V

namespace Go.Hx.V
open Go.Hx
theorem Xa {n : Nat} {t lo hi : Int} {L : List (Int × Int × Int × Int)} {F : Nat → Int} (ht : TubeOk n t lo hi) (gF : Gd n F) (SF : ∀ p, SatF n F p ↔ TruS n t lo hi L p) {k : Nat} (hk : k ≤ n) : 0 ≤ -F (k * 13 + 0) ∧ -F (k * 13 + 0) ≤ F (0 * 13 + k) ∧ F (0 * 13 + k) ≤ t := by
 obtain ⟨t1, t2, ⟨t3, t4, t5⟩, t6, t7, t8, t9⟩ := ht
 have a1 := ((SF _).1 (jz gF)).1
 have a2 := ((SF _).1 (uW gF)).1
 have b1 := uf a1.1 0 k (by omega)
 have b2 := uf a2.1 k (n - k) (by omega)
 have c2 := a2.2
 have d0 := gF.dg 0 (Nat.zero_le _)
 have t0 := gF.tri 0 k 0 (Nat.zero_le _) hk (Nat.zero_le _)
 have m1 := jo (d := (k : Int)) (a := lo) (by omega) (by omega) t3 (by omega)
 have m2 := jo (d := ((n - k : Nat) : Int)) (a := lo) (by omega) (by omega) t3 (by omega)
 dsimp only at b1 b2 c2
 rw [Nat.zero_add] at b1
 rw [show k + (n - k) = n by omega] at b2
 omega
def fA (t s1 : Int) (F : Nat → Int) (k : Nat) : Int := (-F (k * 13 + 0)) * s1 / t
def fB (t s2 : Int) (F : Nat → Int) (k : Nat) : Int := (F (0 * 13 + k) * s2 + t - 1) / t
def Fresh (n : Nat) (t s1 s2 : Int) (F : Nat → Int) (M : Nat → Int) : Prop := ∀ k, k ≤ n → M (k * 2 + 0) = fA t s1 F k ∧ M (k * 2 + 1) = fB t s2 F k
theorem pr_b {a s t : Int} (h1 : 0 ≤ a) (h2 : a ≤ t) (h3 : t ≤ 2000) (h4 : 1 ≤ s) (h5 : s ≤ 2000) : 0 ≤ a * s ∧ a * s ≤ t * 2000 := by
 have q1 : 0 * s ≤ a * s := Int.mul_le_mul_of_nonneg_right h1 (by omega)
 have q2 : a * s ≤ t * s := Int.mul_le_mul_of_nonneg_right h2 (by omega)
 have q3 : t * s ≤ t * 2000 := Int.mul_le_mul_of_nonneg_left h5 (by omega)
 omega
theorem fA_b {n : Nat} {t lo hi s1 s2 : Int} {L : List (Int × Int × Int × Int)} {F : Nat → Int} (ht : TubeOk n t lo hi) (gF : Gd n F) (SF : ∀ p, SatF n F p ↔ TruS n t lo hi L p) (h1 : 1 ≤ s1) (h2 : s1 ≤ s2) (h3 : s2 ≤ 2000) {k : Nat} (hk : k ≤ n) : 0 ≤ fA t s1 F k ∧ fA t s1 F k ≤ 2000 ∧ 0 ≤ fB t s2 F k ∧ fB t s2 F k ≤ 2000 ∧ fA t s1 F k ≤ fB t s2 F k := by
 have b := Xa ht gF SF hk
 have t0 := ht.2.2.2.1
 have t1 := ht.2.2.2.2.1
 have p1 := pr_b (a := -F (k * 13 + 0)) (s := s1) (t := t) (by omega) (by omega) t1 h1 (by omega)
 have p2 := pr_b (a := F (0 * 13 + k)) (s := s2) (t := t) (by omega) (by omega) t1 (by omega) h3
 have q1 : (-F (k * 13 + 0)) * s1 ≤ F (0 * 13 + k) * s1 := Int.mul_le_mul_of_nonneg_right b.2.1 (by omega)
 have q2 : F (0 * 13 + k) * s1 ≤ F (0 * 13 + k) * s2 := Int.mul_le_mul_of_nonneg_left h2 (by omega)
 unfold fA fB
 refine ⟨Int.ediv_nonneg p1.1 (by omega), Int.ediv_le_of_le_mul (by omega) (by omega), Int.ediv_nonneg (by omega) (by omega), ?_, Int.ediv_le_ediv (by omega) (by omega)⟩
 have : (F (0 * 13 + k) * s2 + t - 1) / t < 2001 := Int.ediv_lt_of_lt_mul (by omega) (by omega)
 omega
theorem q104 {N n : Nat} {t lo hi s1 s2 : Int} {L : List (Int × Int × Int × Int)} {F : Nat → Int} (ht : TubeOk n t lo hi) (gF : Gd n F) (SF : ∀ p, SatF n F p ↔ TruS n t lo hi L p) (h1 : 1 ≤ s1) (h2 : s1 ≤ s2) (h3 : s2 ≤ 2000) (hN : 1000 ≤ N) : ∃ M, sf104 N (bdF n F) s1 s2 t = some M ∧ Fresh n t s1 s2 F M := by
 have hn : n ≤ 10 := by have := ht.2.1; omega
 have t0 := ht.2.2.2.1
 have t1 := ht.2.2.2.2.1
 have H := uc (step := sf104_L1 N (bdF n F) s1 s2 t) (fun x => ∃ j : Nat, x.1 = j ∧ j ≤ n + 1 ∧ ∀ k, k < j → x.2 (k * 2 + 0) = fA t s1 F k ∧ x.2 (k * 2 + 1) = fB t s2 F k) (fun x => n + 1 - x.1.toNat) (fun M => Fresh n t s1 s2 F M) (by
  rintro ⟨_, G⟩ ⟨j, rfl, hj, hG⟩
  dsimp only at hG ⊢
  by_cases c : j < n + 1
  ·refine .inl ⟨(((j + 1 : Nat) : Int), ups (ups G (j * 2) (fA t s1 F j)) (j * 2 + 1) (fB t s2 F j)), ?_, ⟨j + 1, rfl, by omega, fun k hk => ?_⟩, by dsimp only; omega⟩
   ·have b := Xa ht gF SF (k := j) (by omega)
    have p1 := pr_b (a := -F (j * 13 + 0)) (s := s1) (t := t) (by omega) (by omega) t1 h1 (by omega)
    have p2 := pr_b (a := F (0 * 13 + j)) (s := s2) (t := t) (by omega) (by omega) t1 (by omega) h3
    unfold sf104_L1
    dsimp only
    rw [YV, decide_eq_true (by omega), cond_true, yd rfl (bdF_at (by omega)), zp (by dsimp only; unfold rng; omega), zp (by dsimp only; unfold rng; omega), q142 p1.1 (by omega) (by omega) p2.1 (by omega) (by omega) (by omega), zn, zp (by omega), zp (by unfold rng; omega), toN]
    rfl
   ·dsimp only
    unfold ups
    by_cases e : k = j
    ·subst e
     rw [if_neg (by omega), if_pos (by omega), if_pos rfl]
     exact ⟨rfl, rfl⟩
    ·rw [if_neg (by omega), if_neg (by omega), if_neg (by omega), if_neg (by omega)]
     exact hG k (by omega)
  ·refine .inr ⟨G, ?_, fun k hk => hG k (by omega)⟩
   unfold sf104_L1
   dsimp only
   rw [YV, decide_eq_false (by omega), cond_false]) N ((0 : Int), (fun _ => 0)) ⟨0, rfl, by omega, fun k hk => by omega⟩ (by dsimp only; omega)
 obtain ⟨M, e, hM⟩ := H
 refine ⟨M, ?_, hM⟩
 unfold sf104
 rw [e, zn]
section
variable {N n : Nat} {t lo hi : Int} {L : List (Int × Int × Int × Int)} {Tb : List (Int × Int)} {p q d1 d2 : Int}
theorem q65 (h : Lim L Tb) (hN : 1000 ≤ N) (hI : InOk n t lo hi L Tb p q d1 d2) :
  (∃ F s1 s2 M, sf70 N n t lo hi L = some (bdF n F, 0) ∧ Gd n F ∧ (∀ p, SatF n F p ↔ TruS n t lo hi L p) ∧ sf73 N Tb p = some s1 ∧ sf73 N Tb q = some s2 ∧ (1 ≤ s1 ∧ s1 ≤ s2 ∧ s2 ≤ 2000) ∧ Fresh n t s1 s2 F M ∧ sf65 N n t lo hi L Tb p q d1 d2 = some ((n : Int), t, lo, hi, L, Tb, p, q, d1, d2, M, 0)) ∨
  ((∀ p, ¬ TruS n t lo hi L p) ∧ sf70 N n t lo hi L = some ([], 9) ∧ sf65 N n t lo hi L Tb p q d1 d2 = some (0, 0, 0, 0, [], [], 0, 0, 0, 0, (fun _ => 0), 9)) := by
 obtain ⟨h1, h2⟩ := h
 obtain ⟨⟨i1, i2⟩, i3, i4, i5⟩ := hI
 obtain ⟨s1, s2, e101, g1, g2, g3⟩ := q101 (N := N) h2 hN i3 i4
 unfold sf65
 rw [decide_eq_false (by omega), cond_false, decide_eq_false (by omega), zn, cond_false, zn, sR, e101]
 rcases s29_ok (N := N) i1 h1 i2 hN with ⟨F, e70, gF, SF⟩ | ⟨e70, SF⟩
 ·obtain ⟨M, eM, hM⟩ := q104 (N := N) i1 gF SF g3.1 g3.2.1 g3.2.2 hN
  refine .inl ⟨F, s1, s2, M, e70, gF, SF, g1, g2, g3, hM, ?_⟩
  rw [e70, zn, zn]
  dsimp only
  rw [decide_eq_true rfl, Bool.not_true, cond_false, cond_false, show sf103 N 100 = some (0, 100) from rfl, zn]
  dsimp only
  rw [q102, zn, decide_eq_true i5, Bool.not_true, zn, cond_false, zn, sR, decide_eq_false (by decide), cond_false, eM, zn]
 ·refine .inr ⟨SF, e70, ?_⟩
  rw [e70, zn, zn]
  dsimp only
  rw [decide_eq_false (by decide), Bool.not_false, cond_true, decide_eq_true rfl, Bool.not_true, cond_false, decide_eq_true rfl, Bool.not_true, cond_false, show sf103 N 100 = some (0, 100) from rfl, zn]
  dsimp only
  rw [q102, zn, decide_eq_true i5, Bool.not_true, zn, cond_false, zn, sR]
  rfl
theorem q75 {day : Int} : sf75 N day = some (decide (0 ≤ day ∧ day ≤ 10000)) := by
 unfold sf75
 rw [show sf103 N 10000 = some (0, 10000) from rfl, zn]
 dsimp only
 rw [q110, zn]
def r1 (d1 day : Int) : Int := d1 * day / 100
def r2 (d2 day : Int) : Int := (d2 * day + 99) / 100
theorem r_b {day : Int} (hd : 0 ≤ day ∧ day ≤ 10000) (h : 0 ≤ d1 ∧ d1 ≤ d2 ∧ d2 ≤ 100) : (0 ≤ d1 * day ∧ d1 * day ≤ 1000000 ∧ 0 ≤ d2 * day ∧ d2 * day ≤ 1000000) ∧ 0 ≤ r1 d1 day ∧ r1 d1 day ≤ r2 d2 day ∧ r2 d2 day ≤ 10001 := by
 have a1 : 0 * day ≤ d1 * day := Int.mul_le_mul_of_nonneg_right h.1 hd.1
 have a2 : d1 * day ≤ d2 * day := Int.mul_le_mul_of_nonneg_right h.2.1 hd.1
 have a3 : d2 * day ≤ 100 * day := Int.mul_le_mul_of_nonneg_right h.2.2 hd.1
 unfold r1 r2
 omega
theorem q106 {n t lo hi p q : Int} {M : Nat → Int} {day : Int} (hd : 0 ≤ day ∧ day ≤ 10000) (h : 0 ≤ d1 ∧ d1 ≤ d2 ∧ d2 ≤ 100) : sf106 N n t lo hi L Tb p q d1 d2 M day = some (r1 d1 day, r2 d2 day) := by
 have b := r_b (d1 := d1) (d2 := d2) hd h
 unfold sf106
 rw [zp (by unfold rng; omega), zp (by unfold rng; omega), q142 (by omega) (by omega) (by omega) (by omega) (by omega) (by omega) (by omega), zn]
 show some (d1 * day / 100, (d2 * day + 100 - 1) / 100) = _
 unfold r1 r2
 rw [show d2 * day + 100 - 1 = d2 * day + 99 by omega]
theorem q55 {n t lo hi p q : Int} {day : Int} (hd : 0 ≤ day ∧ day ≤ 10000) (h : 0 ≤ d1 ∧ d1 ≤ d2 ∧ d2 ≤ 100) : sf55 N n t lo hi L Tb p q d1 d2 day = some (r1 d1 day, r2 d2 day) := by
 have b := r_b (d1 := d1) (d2 := d2) hd h
 unfold r1 r2 at *
 unfold sf55
 rw [td (by omega), td (by omega), zp (by unfold rng; omega), zp (by unfold rng; omega), zp (by unfold rng; omega), zp (by unfold rng; omega), zp (by unfold rng; omega)]
def bnd1 (t s1 d2 : Int) (F : Nat → Int) (day : Int) (k : Nat) : Int := fA t s1 F k - r2 d2 day
def bnd2 (t s2 d1 : Int) (F : Nat → Int) (day : Int) (k : Nat) : Int := fB t s2 F k - r1 d1 day
def tells (n k : Nat) : Int := 1000 * (k : Int) / n
theorem tells_b {k : Nat} (hn : 1 ≤ n) (hk : k ≤ n) : 0 ≤ tells n k ∧ tells n k ≤ 1000 := by
 unfold tells
 exact ⟨Int.ediv_nonneg (by omega) (by omega), Int.ediv_le_of_le_mul (by omega) (by omega)⟩
end
section
variable {N n : Nat} {t lo hi s1 s2 : Int} {L L' : List (Int × Int × Int × Int)} {Tb : List (Int × Int)} {p q d1 d2 : Int} {F M : Nat → Int} {day : Int} {k : Nat}
theorem q68 (ht : TubeOk n t lo hi) (gF : Gd n F) (SF : ∀ p, SatF n F p ↔ TruS n t lo hi L' p) (h1 : 1 ≤ s1 ∧ s1 ≤ s2 ∧ s2 ≤ 2000) (hM : Fresh n t s1 s2 F M) (hd : 0 ≤ day ∧ day ≤ 10000) (h : 0 ≤ d1 ∧ d1 ≤ d2 ∧ d2 ≤ 100) (hk : k ≤ n) {a b c e : Int} :
  sf68 N a b c e L Tb p q d1 d2 M k day = some (bnd1 t s1 d2 F day k, bnd2 t s2 d1 F day k) := by
 have hn := ht.2.1
 have f := fA_b ht gF SF h1.1 h1.2.1 h1.2.2 hk
 have r := r_b (d1 := d1) (d2 := d2) hd h
 obtain ⟨m1, m2⟩ := hM k hk
 unfold sf68
 rw [q106 hd h, zn]
 dsimp only
 rw [toN, m1, m2, zp (by omega), zp (by unfold rng; omega), zp (by omega), zp (by unfold rng; omega)]
 rfl
theorem q69 (ht : TubeOk n t lo hi) (gF : Gd n F) (SF : ∀ p, SatF n F p ↔ TruS n t lo hi L' p) (h1 : 1 ≤ s1 ∧ s1 ≤ s2 ∧ s2 ≤ 2000) (hM : Fresh n t s1 s2 F M) (hd : 0 ≤ day ∧ day ≤ 10000) (h : 0 ≤ d1 ∧ d1 ≤ d2 ∧ d2 ≤ 100) (hk : k ≤ n) {b c e : Int} :
  sf69 N n b c e L Tb p q d1 d2 M k day = some (bnd1 t s1 d2 F day k - tells n k, bnd2 t s2 d1 F day k - tells n k) := by
 have hn := ht.1
 have hn2 := ht.2.1
 have f := fA_b ht gF SF h1.1 h1.2.1 h1.2.2 hk
 have r := r_b (d1 := d1) (d2 := d2) hd h
 have tl := tells_b (n := n) (k := k) (by omega) hk
 unfold sf69
 rw [zp (by unfold rng; omega), q107 (by omega) (by omega) (by omega), zn, q68 ht gF SF h1 hM hd h hk, zn]
 dsimp only
 show ck (rng (bnd1 t s1 d2 F day k - tells n k)) (ck (rng (bnd2 t s2 d1 F day k - tells n k)) _) = _
 unfold bnd1 bnd2 at *
 rw [zp (by unfold rng; omega), zp (by unfold rng; omega)]
 rfl
def hgtL (n : Nat) (t s1 s2 d1 d2 : Int) (F : Nat → Int) (day : Int) : List (Int × Int) := (List.range (n + 1)).map fun (k : Nat) => (bnd1 t s1 d2 F day k, bnd2 t s2 d1 F day k)
def corL (n : Nat) (t s1 s2 d1 d2 : Int) (F : Nat → Int) (day : Int) : List (Int × Int) := (List.range (n + 1)).map fun (k : Nat) => (bnd1 t s1 d2 F day k - tells n k, bnd2 t s2 d1 F day k - tells n k)
theorem j5 : (hgtL n t s1 s2 d1 d2 F day).length = n + 1 := by unfold hgtL; simp
theorem jA (hk : k ≤ n) : (hgtL n t s1 s2 d1 d2 F day)[k]? = some (bnd1 t s1 d2 F day k, bnd2 t s2 d1 F day k) := by
 unfold hgtL
 rw [List.getElem?_map, List.getElem?_range (by omega)]; rfl
theorem q67 (ht : TubeOk n t lo hi) (gF : Gd n F) (SF : ∀ p, SatF n F p ↔ TruS n t lo hi L p) (h1 : 1 ≤ s1 ∧ s1 ≤ s2 ∧ s2 ≤ 2000) (hM : Fresh n t s1 s2 F M) (hd : 0 ≤ day ∧ day ≤ 10000) (h : 0 ≤ d1 ∧ d1 ≤ d2 ∧ d2 ≤ 100) (h65 : sf65 N n t lo hi L Tb p q d1 d2 = some ((n : Int), t, lo, hi, L, Tb, p, q, d1, d2, M, 0)) (hN : 1000 ≤ N) :
  sf67 N n t lo hi L Tb p q d1 d2 day = some (hgtL n t s1 s2 d1 d2 F day, 0) ∧ sf67_2 N n t lo hi L Tb p q d1 d2 day = some (corL n t s1 s2 d1 d2 F day, 0) := by
 have hn := ht.2.1
 have e1 : iter (sf67_L1 N day ((n : Int), t, lo, hi, L, Tb, p, q, d1, d2, M, 0)) N (([] : List (Int × Int)), (0 : Int)) = some (hgtL n t s1 s2 d1 d2 F day) := by
  refine yF (fun k => ((List.range k).map (fun (k : Nat) => (bnd1 t s1 d2 F day k, bnd2 t s2 d1 F day k)), (k : Int))) (n + 1) _ rfl (fun k hk => ?_) ?_ (by omega)
  ·unfold sf67_L1
   dsimp only
   rw [decide_eq_true (by omega), cond_true, q68 ht gF SF h1 hM hd h (by omega), zn, zp (by simp; omega), zp (by unfold rng; omega), List.range_succ, List.map_append]
   rfl
  ·unfold sf67_L1
   dsimp only
   rw [decide_eq_false (by omega), cond_false]
   rfl
 have e2 : iter (sf67_2_L1 N day ((n : Int), t, lo, hi, L, Tb, p, q, d1, d2, M, 0)) N (([] : List (Int × Int)), (0 : Int)) = some (corL n t s1 s2 d1 d2 F day) := by
  refine yF (fun k => ((List.range k).map (fun (k : Nat) => (bnd1 t s1 d2 F day k - tells n k, bnd2 t s2 d1 F day k - tells n k)), (k : Int))) (n + 1) _ rfl (fun k hk => ?_) ?_ (by omega)
  ·unfold sf67_2_L1
   dsimp only
   rw [decide_eq_true (by omega), cond_true, q69 ht gF SF h1 hM hd h (by omega), zn, zp (by simp; omega), zp (by unfold rng; omega), List.range_succ, List.map_append]
   rfl
  ·unfold sf67_2_L1
   dsimp only
   rw [decide_eq_false (by omega), cond_false]
   rfl
 unfold sf67 sf67_2 sf105
 rw [h65, zn]
 dsimp only
 rw [decide_eq_true rfl, Bool.not_true, cond_false, q75, zn, decide_eq_true hd, Bool.not_true, cond_false, zn, zn]
 dsimp only
 rw [decide_eq_true rfl, Bool.not_true, cond_false, cond_false, zp (by unfold rng; omega), zp (by omega), zp (by unfold rng; omega), zp (by omega), show List.replicate (Int.toNat 0) ((0 : Int), (0 : Int)) = [] from rfl, e1, e2]
 exact ⟨rfl, rfl⟩
end
end Go.Hx.V

namespace Go.Hx.V
open Go.Hx
section
variable {N n : Nat} {t lo hi s1 s2 : Int} {L : List (Int × Int × Int × Int)} {Tb : List (Int × Int)} {p q d1 d2 : Int} {F M : Nat → Int} {day : Int} {k : Nat}
theorem q27 {n : Int} (h1 : sf73 N Tb p = some s1) (h2 : sf73 N Tb q = some s2) : sf27 N n t lo hi L Tb p q d1 d2 = some (s1, s2) := by
 unfold sf27
 rw [h1, zn, h2, zn]
theorem q26 (ht : TubeOk n t lo hi) (gF : Gd n F) (SF : ∀ p, SatF n F p ↔ TruS n t lo hi L p) (h1 : 1 ≤ s1 ∧ s1 ≤ s2 ∧ s2 ≤ 2000) (hd : 0 ≤ day ∧ day ≤ 10000) (h : 0 ≤ d1 ∧ d1 ≤ d2 ∧ d2 ≤ 100) (hk : k ≤ n) (hN : 1000 ≤ N) :
  sf26 N n t lo hi L Tb p q d1 d2 (-F (k * 13 + 0)) (F (0 * 13 + k)) s1 s2 day = some (bnd1 t s1 d2 F day k, bnd2 t s2 d1 F day k) := by
 have b := Xa ht gF SF hk
 have t0 := ht.2.2.2.1
 have t1 := ht.2.2.2.2.1
 have f := fA_b ht gF SF h1.1 h1.2.1 h1.2.2 hk
 have r := r_b (d1 := d1) (d2 := d2) hd h
 have p1 := pr_b (a := -F (k * 13 + 0)) (s := s1) (t := t) (by omega) (by omega) t1 h1.1 (by omega)
 have p2 := pr_b (a := F (0 * 13 + k)) (s := s2) (t := t) (by omega) (by omega) t1 (by omega) h1.2.2
 unfold sf26
 rw [q55 hd h, zn, zp (by unfold rng; omega), q71 p1.1 (by omega) (by omega) (by omega) hN, zn]
 show ck (rng (fA t s1 F k - r2 d2 day)) _ = _
 rw [zp (by unfold rng; omega), zp (by unfold rng; omega), q72 p2.1 (by omega) (by omega) (by omega) hN, zn]
 show ck (rng (fB t s2 F k - r1 d1 day)) _ = _
 rw [zp (by unfold rng; omega)]
 rfl
end
end Go.Hx.V

namespace Go.Hx.V
open Go.Hx
def Rdy (n t lo hi : Int) (Tb : List (Int × Int)) (p q d1 d2 : Int) : Prop := Tb.length ≤ 8 ∧ TubeOk n t lo hi ∧ TbOk Tb ∧ PrOk Tb p q ∧ 0 ≤ d1 ∧ d1 ≤ d2 ∧ d2 ≤ 100
section
variable {N : Nat} {t lo hi : Int} {L : List (Int × Int × Int × Int)} {Tb : List (Int × Int)} {p q d1 d2 : Int}
theorem q52 {n : Int} (hN : 1000 ≤ N) : (Rdy n t lo hi Tb p q d1 d2 ∧ sf52 N n t lo hi L Tb p q d1 d2 = some true) ∨ sf52 N n t lo hi L Tb p q d1 d2 = some false := by
 unfold sf52 sf18
 rw [decide_eq_true (by simp), cond_true, zn]
 by_cases h : Tb.length ≤ 11
 ·rw [decide_eq_true (by omega), cond_true]
  by_cases h8 : Tb.length ≤ 8
  ·rcases q40 (N := N) (n := n) (t := t) (lo := lo) (hi := hi) (L := []) (Tb := Tb) (p := p) (q := q) (d1 := d1) (d2 := d2) ⟨by simp, h8⟩ hN with ⟨hI, e⟩ | ⟨_, e⟩
   ·rw [e, zn, decide_eq_true rfl]
    exact .inl ⟨⟨h8, hI.1.1, hI.2⟩, rfl⟩
   ·rw [e, zn]; exact .inr rfl
  ·rw [q40_lim (fun q => h8 q.2), zn]; exact .inr rfl
 ·rw [decide_eq_false (by omega)]; exact .inr rfl
structure Inst (N n : Nat) (t lo hi : Int) (Tb : List (Int × Int)) (p q d1 d2 : Int) (v : List Int) (L : List (Int × Int × Int × Int)) (F : Nat → Int) (s1 s2 : Int) (M : Nat → Int) : Prop where
 ht : TubeOk n t lo hi
 hT : Tb.length ≤ 8
 hL : L.length ≤ 12
 hd : 0 ≤ d1 ∧ d1 ≤ d2 ∧ d2 ≤ 100
 lim : Lim L Tb
 ok : InOk n t lo hi L Tb p q d1 d2
 v1 : v.length = n
 v2 : AllP (InV lo hi) v
 v3 : v.sum = t
 tr : TruS n t lo hi L (hs v)
 gF : Gd n F
 SF : ∀ p, SatF n F p ↔ TruS n t lo hi L p
 b1 : sf73 N Tb p = some s1
 b2 : sf73 N Tb q = some s2
 hs : 1 ≤ s1 ∧ s1 ≤ s2 ∧ s2 ≤ 2000
 hM : Fresh n t s1 s2 F M
 e65 : sf65 N n t lo hi L Tb p q d1 d2 = some ((n : Int), t, lo, hi, L, Tb, p, q, d1, d2, M, 0)
theorem inst {n : Nat} {W U : List Int} (hR : Rdy n t lo hi Tb p q d1 d2) (hW : AllP W16 W) (hU : AllP W16 U) (hN : 1000 ≤ N) : ∃ v L' F s1 s2 M, sf53 N n t lo hi L Tb p q d1 d2 W U = some ((n : Int), t, lo, hi, L', Tb, p, q, d1, d2, v) ∧ Inst N n t lo hi Tb p q d1 d2 v L' F s1 s2 M := by
 obtain ⟨h8, ht, hTb, hP, hd⟩ := hR
 obtain ⟨v, ev, v1, v2, v3⟩ := s53 (N := N) ht hW hN
 obtain ⟨L', eL, L1, L2, L3⟩ := s54 (N := N) ht v1 v2 v3 hU hN
 have hRd : AllP (RdOk' n) L' := fun x hx => (L3 x hx).1
 have tr := tru_of v1 v2 v3 L3
 obtain ⟨F, s1, s2, M, _, gF, SF, b1, b2, hs, hM, e65⟩ := (q65 (N := N) (L := L') (Tb := Tb) (p := p) (q := q) (d1 := d1) (d2 := d2) ⟨L1, h8⟩ hN ⟨⟨ht, hRd⟩, hTb, hP, hd⟩).resolve_right fun q => q.1 _ tr
 refine ⟨v, L', F, s1, s2, M, ?_, ht, h8, L1, hd, ⟨L1, h8⟩, ⟨⟨ht, hRd⟩, hTb, hP, hd⟩, v1, v2, v3, tr, gF, SF, b1, b2, hs, hM, e65⟩
 unfold sf53
 rw [ev, zn, eL, zn]
end
section
variable {N n : Nat} {t lo hi s1 s2 : Int} {L : List (Int × Int × Int × Int)} {Tb : List (Int × Int)} {p q d1 d2 : Int} {F M : Nat → Int} {day : Int} {v : List Int}
theorem Inst.q21 (I : Inst N n t lo hi Tb p q d1 d2 v L F s1 s2 M) (hN : 1000 ≤ N) : sf21 N n t lo hi L Tb p q d1 d2 = some ((n : Int), t, lo, hi, L, Tb, p, q, d1, d2) := V.q21 (by have := I.hL; omega) (by have := I.hT; omega) hN
theorem Inst.q22 (I : Inst N n t lo hi Tb p q d1 d2 v L F s1 s2 M) (hd : 0 ≤ day ∧ day ≤ 10000) (hN : 1000 ≤ N) : sf22 N n t lo hi L Tb p q d1 d2 day = some (hgtL n t s1 s2 d1 d2 F day, 0) := by
 have := (q67 I.ht I.gF I.SF I.hs I.hM hd I.hd I.e65 hN).1
 unfold sf22
 rw [this, zn]
end
theorem tmd {a b : Int} (ha : 0 ≤ a) (hb : 0 < b) : 0 ≤ Int.tmod a b ∧ Int.tmod a b ≤ b - 1 := by
 have := tm ha hb; omega
end Go.Hx.V

namespace Go.Hx.V
open Go.Hx
section
variable {N n : Nat} {t lo hi s1 s2 : Int} {L : List (Int × Int × Int × Int)} {Tb : List (Int × Int)} {p q d1 d2 : Int} {F M : Nat → Int} {day : Int} {v : List Int} {a b : Nat} {w : Int}
end
end Go.Hx.V

namespace Go.Hx.V
open Go.Hx
theorem q54 {N : Nat} {a b w : Int} (h : a ≤ b) (h1 : -100000 ≤ a) (h2 : b ≤ 100000) (hw : W16 w) : ∃ s, sf54 N a b w = some s ∧ a ≤ s ∧ s ≤ b := by
 have t := tm (a := w) (b := b - a + 1) hw.1 (by omega)
 refine ⟨a + Int.tmod w (b - a + 1), ?_, by omega, by omega⟩
 unfold sf54
 rw [zp (jv hw), zp (by unfold rng; omega), zp (by unfold rng; omega), zp (by omega), zp (by unfold rng; omega)]
section
variable {N n : Nat} {t lo hi s1 s2 : Int} {L : List (Int × Int × Int × Int)} {Tb : List (Int × Int)} {p q d1 d2 : Int} {F M : Nat → Int} {day : Int} {v : List Int} {k : Nat} {s rr : Int}
end
end Go.Hx.V

namespace Go.Hx.V
open Go.Hx
def RightP (l : List Int) (r : Int × Int × Int × Int) : Prop := max r.2.2.1 (hs l r.2.1.toNat - hs l r.1.toNat) ≤ if r.2.1 < l.length then min r.2.2.2 (hs l (r.2.1.toNat + 1) - hs l r.1.toNat - 1) else r.2.2.2
instance {l : List Int} {r : Int × Int × Int × Int} : Decidable (RightP l r) := by unfold RightP; infer_instance
theorem rp {l : List Int} {f g : Nat} {lo hi : Int} : RightP l ((f : Int), (g : Int), lo, hi) = (max lo (hs l g - hs l f) ≤ if (g : Int) < l.length then min hi (hs l (g + 1) - hs l f - 1) else hi) := rfl
theorem s71 {N : Nat} {l : List Int} {t lo' hi' : Int} {r : Int × Int × Int × Int} (hl : l.length ≤ 15) (hb : AllP Vol l) (hr : RdOk' l.length r) (hN : 1000 ≤ N) : sf99 N l.length t lo' hi' r.1 r.2.1 r.2.2.1 r.2.2.2 l = some (decide (RightP l r)) := by
 obtain ⟨f, g, lo, hi⟩ := r
 obtain ⟨h1, h2, h3⟩ := hr
 dsimp only at h1 h2 h3
 obtain ⟨f, rfl⟩ : ∃ k : Nat, f = k := ⟨f.toNat, by omega⟩
 obtain ⟨g, rfl⟩ : ∃ k : Nat, g = k := ⟨g.toNat, by omega⟩
 have b1 := hs_b hb f (by omega)
 have b2 := hs_b hb g (by omega)
 unfold sf99
 dsimp only
 rw [s38 (by omega) hl hb hN, zn, s38 (by omega) hl hb hN, zn, zp (by unfold rng; omega)]
 by_cases h : g < l.length
 ·have b3 := hs_b hb (g + 1) (by omega)
  rw [decide_eq_true (by omega), cond_true, zp (by unfold rng; omega), show (g : Int) + 1 = ((g + 1 : Nat) : Int) from rfl, s38 (by omega) hl hb hN, zn, zp (by unfold rng; omega), zp (by unfold rng; omega)]
  refine congrArg some (decide_eq_decide.2 ?_)
  rw [rp, if_pos (by omega)]
 ·rw [decide_eq_false (by omega), cond_false]
  refine congrArg some (decide_eq_decide.2 ?_)
  rw [rp, if_neg (by omega)]
theorem s27 {N : Nat} {n t lo hi : Int} {L : List (Int × Int × Int × Int)} {l : List Int} (h : L.length ≤ 100) (hl : l.length ≤ 15) (ht : TubeOk n t lo hi) (hr : AllP (RdOk' n) L) (hN : 1000 ≤ N) :
  sf61 N n t lo hi L l = some (decide ((l.length : Int) = n ∧ AllP (InV lo hi) l ∧ AllP (RightP l) L ∧ hs l l.length = t)) := by
 unfold sf61
 by_cases h1 : (l.length : Int) = n
 ·subst h1
  rw [decide_eq_true rfl, Bool.not_true, cond_false]
  rcases vH (step := sf61_L1 N lo hi l) (l := l) (p := InV lo hi) (N := N) (by omega) (by
    intro j z hz hp
    have := yE hz
    unfold sf61_L1
    rw [decide_eq_true (by omega), cond_true, yd rfl hz, s37, zn, decide_eq_true (p := lo ≤ z ∧ z ≤ hi) hp, Bool.not_true, cond_false, zp (by unfold rng; omega)]) (by
    intro j z hz hp
    have := yE hz
    unfold sf61_L1
    rw [decide_eq_true (by omega), cond_true, yd rfl hz, s37, zn, decide_eq_false (p := lo ≤ z ∧ z ≤ hi) hp]
    rfl) (by
    unfold sf61_L1
    rw [decide_eq_false (by omega), cond_false]) with ⟨hA, e⟩ | ⟨hA, e⟩
  ·rw [e, zn]
   show bnd (iter _ N 0) _ = _
   have hb : AllP Vol l := fun x hx => by
    have := hA x hx
    have := ht.2.2.1
    unfold InV at *
    unfold Vol
    omega
   rcases vH (step := sf61_L2 N l.length t lo hi L l) (l := L) (p := RightP l) (N := N) (by omega) (by
     intro j z hz hp
     have := yE hz
     unfold sf61_L2
     rw [decide_eq_true (by omega), cond_true, yd rfl hz, s71 hl hb (hr z (List.mem_of_getElem? hz)) hN, zn, decide_eq_true hp, Bool.not_true, cond_false, zp (by unfold rng; omega)]) (by
     intro j z hz hp
     have := yE hz
     unfold sf61_L2
     rw [decide_eq_true (by omega), cond_true, yd rfl hz, s71 hl hb (hr z (List.mem_of_getElem? hz)) hN, zn, decide_eq_false hp]
     rfl) (by
     unfold sf61_L2
     rw [decide_eq_false (by omega), cond_false]) with ⟨hB, e⟩ | ⟨hB, e⟩
   ·rw [e, zn]
    show bnd (sf56 N l l.length) _ = _
    rw [s38 (Nat.le_refl _) hl hb hN, zn]
    refine congrArg some (decide_eq_decide.2 ⟨fun q => ⟨rfl, hA, hB, q⟩, fun q => q.2.2.2⟩)
   ·rw [e, zn, decide_eq_false fun q => hB q.2.2.1]; rfl
  ·rw [e, zn, decide_eq_false fun q => hA q.2.1]; rfl
 ·rw [decide_eq_false h1, decide_eq_false fun q => h1 q.1]; rfl
def vols (n : Nat) (p : Nat → Int) : List Int := (List.range n).map fun j => p (j + 1) - p j
theorem y9 {n : Nat} {p : Nat → Int} : (vols n p).length = n := by unfold vols; simp
theorem vols_at {n j : Nat} {p : Nat → Int} (h : j < n) : (vols n p)[j]? = some (p (j + 1) - p j) := by
 unfold vols
 rw [List.getElem?_map, List.getElem?_range h]; rfl
theorem vP {n : Nat} {p : Nat → Int} : ∀ k, k ≤ n → hs (vols n p) k = p k - p 0
 | 0, _ => by unfold hs; simp
 | k + 1, h => by
  rw [uU (vols_at (p := p) (show k < n by omega)), vP k (by omega)]; omega
theorem kN {n : Nat} {lo hi : Int} {p : Nat → Int} (h : CellS n lo hi p) : AllP (InV lo hi) (vols n p) := fun x hx => by
 obtain ⟨j, hj, rfl⟩ := List.mem_map.1 hx
 exact h j (List.mem_range.1 hj)
theorem right_of {n : Nat} {lo hi : Int} {p : Nat → Int} {r : Int × Int × Int × Int} (hlo : 1 ≤ lo) (hc : CellS n lo hi p) (hr : RdOk' n r) (h : RdS n r p) : RightP (vols n p) r := by
 obtain ⟨f, g, vl, vh⟩ := r
 obtain ⟨h1, h2, h3⟩ := hr
 dsimp only at h1 h2 h3
 obtain ⟨f, rfl⟩ : ∃ k : Nat, f = k := ⟨f.toNat, by omega⟩
 obtain ⟨g, rfl⟩ : ∃ k : Nat, g = k := ⟨g.toNat, by omega⟩
 obtain ⟨q1, q2⟩ := h
 dsimp only at q1 q2
 rw [toN, toN] at q1 q2
 rw [rp, y9, vP g (by omega), vP f (by omega)]
 by_cases c : (g : Int) < n
 ·have := q2 c
  have := hc g (by omega)
  rw [if_pos c, vP (g + 1) (by omega)]; omega
 ·rw [if_neg c]; omega
theorem s72F {N n : Nat} {t lo hi : Int} {L : List (Int × Int × Int × Int)} {F : Nat → Int} (ht : TubeOk n t lo hi) (hL : L.length ≤ 12) (hr : AllP (RdOk' n) L) (h : sf135 N n t lo hi L = some ((n : Int), t, lo, hi, (n : Int) + 1, F, true)) (hN : 1000 ≤ N) : sf94 N n t lo hi L true = some ((n : Int), t, lo, hi, (n : Int) + 1, F, 0) := by
 have e64 : sf134 N n t lo hi L = some 0 := by rw [s64 (by omega) hN, if_pos ht, if_pos hL, if_pos hr]
 unfold sf94
 rw [e64, zn, decide_eq_true rfl, Bool.not_true, cond_false, cond_false, h, zn]
 rfl
theorem s90F {N n : Nat} {t lo hi : Int} {F : Nat → Int} {k : Nat} (hn : n ≤ 12) (gF : Gd n F) (hk : k ≤ n) : sf136 N n t lo hi ((n : Int) + 1) F k = some (-F (k * 13 + 0)) := by
 have := gF.ub k 0 hk (Nat.zero_le _)
 have := gF.lb (i := k) (j := 0) hk (Nat.zero_le _)
 unfold sf136
 rw [zp (by omega), zp (by omega), toN, show Int.toNat 0 = 0 from rfl, zp (by unfold rng; omega)]
theorem s91F {N n : Nat} {t lo hi : Int} {F : Nat → Int} {k : Nat} (hn : n ≤ 12) (hk : k ≤ n) : sf137 N n t lo hi ((n : Int) + 1) F k = some (F (0 * 13 + k)) := by
 unfold sf137
 rw [zp (by omega), zp (by omega), toN, show Int.toNat 0 = 0 from rfl]
theorem s76 {N n : Nat} {t lo hi : Int} {F : Nat → Int} (hn : n ≤ 12) (gF : Gd n F) (hN : 1000 ≤ N) : sf95 N n t lo hi ((n : Int) + 1) F = some (vols n fun j => F (0 * 13 + j)) := by
 unfold sf95
 have e : iter (sf95_L1 N n t lo hi ((n : Int) + 1) F) N (([] : List Int), (0 : Int)) = some (vols n fun j => F (0 * 13 + j)) := by
  refine yF (fun k => ((List.range k).map (fun j => F (0 * 13 + (j + 1)) - F (0 * 13 + j)), (k : Int))) n _ rfl (fun k hk => ?_) ?_ (by omega)
  ·have u1 := gF.ub 0 (k + 1) (Nat.zero_le _) (by omega)
   have u2 := gF.ub 0 k (Nat.zero_le _) (by omega)
   have l1 := gF.lb (i := 0) (j := k + 1) (Nat.zero_le _) (by omega)
   have l2 := gF.lb (i := 0) (j := k) (Nat.zero_le _) (by omega)
   unfold sf95_L1
   dsimp only
   rw [decide_eq_true (by omega), cond_true, zp (by unfold rng; omega), show (k : Int) + 1 = ((k + 1 : Nat) : Int) from rfl, s91F hn (by omega), zn, s91F hn (by omega), zn, zp (by unfold rng; omega), zp (by simp; omega), zp (by unfold rng; omega), List.range_succ, List.map_append]
   rfl
  ·unfold sf95_L1
   dsimp only
   rw [decide_eq_false (by omega), cond_false]
   rfl
 rw [zp (by omega), show List.replicate (Int.toNat 0) (0 : Int) = [] from rfl, e, zn]
theorem s76_2 {N n : Nat} {t lo hi : Int} {F : Nat → Int} (hn : n ≤ 12) (gF : Gd n F) (hN : 1000 ≤ N) : sf95_2 N n t lo hi ((n : Int) + 1) F = some (vols n fun j => -F (j * 13 + 0)) := by
 unfold sf95_2
 have e : iter (sf95_2_L1 N n t lo hi ((n : Int) + 1) F) N (([] : List Int), (0 : Int)) = some (vols n fun j => -F (j * 13 + 0)) := by
  refine yF (fun k => ((List.range k).map (fun j => -F ((j + 1) * 13 + 0) - -F (j * 13 + 0)), (k : Int))) n _ rfl (fun k hk => ?_) ?_ (by omega)
  ·have u1 := gF.ub (k + 1) 0 (by omega) (Nat.zero_le _)
   have u2 := gF.ub k 0 (by omega) (Nat.zero_le _)
   have l1 := gF.lb (i := k + 1) (j := 0) (by omega) (Nat.zero_le _)
   have l2 := gF.lb (i := k) (j := 0) (by omega) (Nat.zero_le _)
   unfold sf95_2_L1
   dsimp only
   rw [decide_eq_true (by omega), cond_true, zp (by unfold rng; omega), show (k : Int) + 1 = ((k + 1 : Nat) : Int) from rfl, s90F hn gF (by omega), zn, s90F hn gF (by omega), zn, zp (by unfold rng; omega), zp (by simp; omega), zp (by unfold rng; omega), List.range_succ, List.map_append]
   rfl
  ·unfold sf95_2_L1
   dsimp only
   rw [decide_eq_false (by omega), cond_false]
   rfl
 rw [zp (by omega), show List.replicate (Int.toNat 0) (0 : Int) = [] from rfl, e, zn]
theorem s36t {N n : Nat} {t lo hi : Int} {L : List (Int × Int × Int × Int)} {F : Nat → Int} {k : Nat} (hn : n ≤ 12) (gF : Gd n F) (h : sf94 N n t lo hi L true = some ((n : Int), t, lo, hi, (n : Int) + 1, F, 0)) (hk : k ≤ n) (hN : 1000 ≤ N) : sf58 N n t lo hi L k true = some (vols n fun j => F (0 * 13 + j), 0) := by
 unfold sf58
 rw [decide_eq_true (by omega), cond_true, decide_eq_true (show (k : Int) ≤ n by omega), h, zn]
 dsimp only
 rw [decide_eq_true rfl, Bool.not_true, cond_false, cond_true, show sf96 N = some () from rfl, zn, s76 hn gF hN, zn]
theorem s36f {N n : Nat} {t lo hi : Int} {L : List (Int × Int × Int × Int)} {F : Nat → Int} {k : Nat} (hn : n ≤ 12) (gF : Gd n F) (h : sf94 N n t lo hi L true = some ((n : Int), t, lo, hi, (n : Int) + 1, F, 0)) (hk : k ≤ n) (hN : 1000 ≤ N) : sf58 N n t lo hi L k false = some (vols n fun j => -F (j * 13 + 0), 0) := by
 unfold sf58
 rw [decide_eq_true (by omega), cond_true, decide_eq_true (show (k : Int) ≤ n by omega), h, zn]
 dsimp only
 rw [decide_eq_true rfl, Bool.not_true, cond_false, cond_false, show sf96 N = some () from rfl, zn, s76_2 hn gF hN, zn]
theorem YF {N n : Nat} {t lo hi : Int} {L : List (Int × Int × Int × Int)} {p : Nat → Int} (ht : TubeOk n t lo hi) (hL : L.length ≤ 12) (hr : AllP (RdOk' n) L) (h : TruS n t lo hi L p) (hN : 1000 ≤ N) : sf61 N n t lo hi L (vols n p) = some true := by
 have hn := ht.2.1
 rw [s27 (by omega) (by rw [y9]; omega) ht hr hN, decide_eq_true ⟨by rw [y9], kN h.1.1, fun r hr' => right_of ht.2.2.1.1 h.1.1 (hr r hr') (h.2 r hr'), by rw [y9, vP n (Nat.le_refl _)]; exact h.1.2⟩]
theorem bd_eq {n : Nat} {t lo hi : Int} {L : List (Int × Int × Int × Int)} {F G : Nat → Int} (gF : Gd n F) (gG : Gd n G) (SF : ∀ p, SatF n F p ↔ TruS n t lo hi L p) (SG : ∀ p, SatF n G p ↔ TruS n t lo hi L p) {k : Nat} (hk : k ≤ n) : F (k * 13 + 0) ≤ G (k * 13 + 0) ∧ F (0 * 13 + k) ≤ G (0 * 13 + k) := by
 have a1 := (SG _).2 ((SF _).1 (jz gF)) k 0 hk (Nat.zero_le _)
 have a2 := (SG _).2 ((SF _).1 (uW gF)) 0 k (Nat.zero_le _) hk
 have d0 := gF.dg 0 (Nat.zero_le _)
 omega
section
variable {N n : Nat} {t lo hi s1 s2 : Int} {L : List (Int × Int × Int × Int)} {Tb : List (Int × Int)} {p q d1 d2 : Int} {F M : Nat → Int} {day : Int} {v : List Int} {k : Nat}
theorem Inst.sharp (I : Inst N n t lo hi Tb p q d1 d2 v L F s1 s2 M) (hk : k ≤ n) (hd : 0 ≤ day ∧ day ≤ 10000) :
  ((0 ≤ -F (k * 13 + 0) * s1 ∧ -F (k * 13 + 0) * s1 ≤ 4000000 ∧ 0 ≤ r2 d2 day * t ∧ r2 d2 day * t ≤ 30000000) ∧ (0 ≤ F (0 * 13 + k) * s2 ∧ F (0 * 13 + k) * s2 ≤ 4000000 ∧ 0 ≤ r1 d1 day * t ∧ r1 d1 day * t ≤ 30000000)) ∧ (rng (bnd1 t s1 d2 F day k + 1) ∧ rng (bnd2 t s2 d1 F day k - 1)) ∧
  (bnd1 t s1 d2 F day k * t ≤ -F (k * 13 + 0) * s1 - r2 d2 day * t ∧ -F (k * 13 + 0) * s1 - r2 d2 day * t < (bnd1 t s1 d2 F day k + 1) * t) ∧ (F (0 * 13 + k) * s2 - r1 d1 day * t ≤ bnd2 t s2 d1 F day k * t ∧ (bnd2 t s2 d1 F day k - 1) * t < F (0 * 13 + k) * s2 - r1 d1 day * t) ∧ (bnd1 t s1 d2 F day k + 1) * t = bnd1 t s1 d2 F day k * t + t ∧ (bnd2 t s2 d1 F day k - 1) * t = bnd2 t s2 d1 F day k * t - t := by
 have b := Xa I.ht I.gF I.SF hk
 have t0 := I.ht.2.2.2.1
 have t1 := I.ht.2.2.2.2.1
 have r := r_b (d1 := d1) (d2 := d2) hd I.hd
 have hs' := I.hs
 have f := fA_b I.ht I.gF I.SF hs'.1 hs'.2.1 hs'.2.2 hk
 have p1 := pr_b (a := -F (k * 13 + 0)) (s := s1) (t := t) (by omega) (by omega) t1 hs'.1 (by omega)
 have p2 := pr_b (a := F (0 * 13 + k)) (s := s2) (t := t) (by omega) (by omega) t1 (by omega) hs'.2.2
 have l1 : fA t s1 F k * t ≤ (-F (k * 13 + 0)) * s1 := k9 (by omega)
 have l2 : F (0 * 13 + k) * s2 ≤ fB t s2 F k * t := up_lo (by omega)
 have l3 : (-F (k * 13 + 0)) * s1 < (fA t s1 F k + 1) * t := Yp (by omega)
 have l4 : (fB t s2 F k - 1) * t < F (0 * 13 + k) * s2 := up_hi (by omega)
 have m2 : r2 d2 day * t ≤ 10001 * t := Int.mul_le_mul_of_nonneg_right r.2.2.2 (by omega)
 have m4 : 0 * t ≤ r1 d1 day * t := Int.mul_le_mul_of_nonneg_right r.2.1 (by omega)
 have m5 : r1 d1 day * t ≤ r2 d2 day * t := Int.mul_le_mul_of_nonneg_right r.2.2.1 (by omega)
 rw [Int.add_mul] at l3
 rw [Int.sub_mul] at l4
 rw [Int.add_mul, Int.sub_mul (bnd2 t s2 d1 F day k)]
 unfold bnd1 bnd2 rng
 rw [Int.sub_mul, Int.sub_mul]
 omega
theorem Inst.ends_L1 (I : Inst N n t lo hi Tb p q d1 d2 v L F s1 s2 M) (hd : 0 ≤ day ∧ day ≤ 10000) (hN : 1000 ≤ N) :
  iter (sf10_L1 N t ((n : Int), t, lo, hi, L, Tb, p, q, d1, d2, v) (hgtL n t s1 s2 d1 d2 F day, 0) (s1, s2) (r1 d1 day, r2 d2 day)) N (0 : Int) = some (.inr ()) := by
 have hn := I.ht.2.1
 have t0 := I.ht.2.2.2.1
 have t1 := I.ht.2.2.2.2.1
 have gF := I.gF
 have d0 := gF.dg 0 (Nat.zero_le _)
 have hRd : AllP (RdOk' n) L := I.ok.1.2
 have z23 := s23 (N := N) (l := L) (by have := I.hL; omega) hN
 have tl := (I.SF _).1 (jz gF)
 have th := (I.SF _).1 (uW gF)
 obtain ⟨G, e89, gG, SG⟩ := (s89 (N := N) I.ht (by have := I.hL; omega) hRd hN).resolve_right fun q => q.2 _ I.tr
 refine yF (fun k => (k : Int)) (n + 1) _ rfl (fun k hk => ?_) ?_ (by omega)
 ·have z1 := bd_eq gF gG I.SF SG (k := k) (by omega)
  have z2 := bd_eq gG gF SG I.SF (k := k) (by omega)
  have tlG := (SG _).1 (jz gG)
  have thG := (SG _).1 (uW gG)
  have dG := gG.dg 0 (Nat.zero_le _)
  have vb1 : AllP Vol (vols n fun j => -G (j * 13 + 0)) := XR I.ht.2.2.1.1 I.ht.2.2.1.2.2 (kN tlG.1.1)
  have vb2 : AllP Vol (vols n fun j => G (0 * 13 + j)) := XR I.ht.2.2.1.1 I.ht.2.2.1.2.2 (kN thG.1.1)
  have g1 : sf56 N (vols n fun j => -G (j * 13 + 0)) k = some (-F (k * 13 + 0)) := by
   rw [s38 (by rw [y9]; omega) (by rw [y9]; omega) vb1 hN, vP k (by omega)]
   exact congrArg some (show -G (k * 13 + 0) - -G (0 * 13 + 0) = _ by omega)
  have g2 : sf56 N (vols n fun j => G (0 * 13 + j)) k = some (F (0 * 13 + k)) := by
   rw [s38 (by rw [y9]; omega) (by rw [y9]; omega) vb2 hN, vP k (by omega)]
   exact congrArg some (show G (0 * 13 + k) - G (0 * 13 + 0) = _ by omega)
  have e72 := s72F I.ht I.hL hRd e89 hN
  have u1 := YF I.ht I.hL hRd tlG hN
  have u2 := YF I.ht I.hL hRd thG hN
  have p1 := s36f (by omega) gG e72 (k := k) (by omega) hN
  have p2 := s36t (by omega) gG e72 (k := k) (by omega) hN
  obtain ⟨A, hA⟩ : ∃ A, A = vols n fun j => -G (j * 13 + 0) := ⟨_, rfl⟩
  obtain ⟨B, hB⟩ : ∃ B, B = vols n fun j => G (0 * 13 + j) := ⟨_, rfl⟩
  rw [← hA] at g1 u1 p1
  rw [← hB] at g2 u2 p2
  obtain ⟨⟨K1, K2⟩, ⟨K3, K4⟩, K5, K6, K7, K8⟩ := I.sharp (k := k) (by omega) hd
  unfold sf10_L1
  dsimp only
  rw [j5, decide_eq_true (by omega), cond_true, s21, zn, z23, zn]
  dsimp only
  rw [p1, zn, zn, zn]
  dsimp only
  rw [p2, zn]
  dsimp only
  rw [decide_eq_true rfl, Bool.not_true, cond_false, cond_false, u1, zn, Bool.not_true, cond_false, u2, zn, Bool.not_true, zn, cond_false, zn, sR, g1, zn, zp (by unfold rng; omega), zp (by unfold rng; omega), zp (by unfold rng; omega), g2, zn, zp (by unfold rng; omega), zp (by unfold rng; omega), zp (by unfold rng; omega)]
  rw [yd rfl (jA (by omega)), zp (by dsimp only; unfold rng; omega), decide_eq_false (by dsimp only; omega), cond_false, yd rfl (jA (by omega)), zp K3, zp (by dsimp only; unfold rng; omega), decide_eq_false (by dsimp only; omega), cond_false, yd rfl (jA (by omega)), zp (by dsimp only; unfold rng; omega), decide_eq_false (by dsimp only; omega), cond_false, yd rfl (jA (by omega)), zp K4, zp (by dsimp only; unfold rng; omega), decide_eq_false (by dsimp only; omega), zn, cond_false, zp (by unfold rng; omega)]
  rfl
 ·unfold sf10_L1
  dsimp only
  rw [j5, decide_eq_false (by omega), cond_false]
end
theorem law10 {N : Nat} {n t lo hi : Int} {L : List (Int × Int × Int × Int)} {Tb : List (Int × Int)} {p q d1 d2 day : Int} {W U : List Int} (hW : AllP W16 W) (hU : AllP W16 U) (hday : W16 day) (hN : 1000 ≤ N) : sf10 N n t lo hi L Tb p q d1 d2 W U day = some true := by
 unfold sf10
 rcases q52 (N := N) (n := n) (t := t) (lo := lo) (hi := hi) (L := L) (Tb := Tb) (p := p) (q := q) (d1 := d1) (d2 := d2) (by omega) with ⟨hR, e⟩ | e
 ·have ht := hR.2.1
  obtain ⟨n, rfl⟩ : ∃ k : Nat, n = k := ⟨n.toNat, by have := ht.1; omega⟩
  obtain ⟨v, L', F, s1, s2, M, e53, I⟩ := inst (N := N) (L := L) hR hW hU (by omega)
  have td' := tmd (a := day) (b := 10001) hday.1 (by decide)
  obtain ⟨on, hon⟩ : ∃ x, Int.tmod day 10001 = x := ⟨_, rfl⟩
  rw [hon] at td'
  have hd : 0 ≤ on ∧ on ≤ 10000 := by omega
  have hn := ht.2.1
  rw [e, zn, Bool.not_true, cond_false, e53, zn, hon]
  dsimp only
  rw [zp (jv hday), zp (by decide), I.q21 (by omega), zn]
  dsimp only
  rw [I.q22 hd (by omega), zn]
  dsimp only
  rw [decide_eq_true rfl, Bool.not_true, cond_false, zp (by unfold rng; omega), j5, decide_eq_true (show ((n + 1 : Nat) : Int) = (n : Int) + 1 by omega), Bool.not_true, zn, cond_false, zn, sR, q27 I.b1 I.b2, zn, q55 hd I.hd, zn, I.ends_L1 hd hN, zn, sR]
 ·rw [e, zn]; rfl
end Go.Hx.V

