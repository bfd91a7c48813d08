import Derived.Test.YtjjnncelpnijiaaGreatH05
import Derived.Test.YtjjnncelpnijiaaGreatH07
import Derived.Test.YtjjnncelpnijiaaGreatH06
import Derived.Test.YtjjnncelpnijiaaGreatH03
set_option linter.all false
namespace Go.Hx.V
open Go.Hx
set_option maxRecDepth 20000
set_option maxHeartbeats 4000000
variable {fl : Nat} {h0 : Tr HBlk} {n0 : Nat} {F0 : PH}
attribute [local irreducible] W R C thenH inBlockH Tr.get Tr.set lo ck bnd ix iter
theorem ct67 (N:Nat) {a0_0 a0_1 a0_2 a0_3:Int} {a0_4:(List (Int × Int × Int × Int))} {a0_5:(List (Int × Int))} {a0_6 a0_7 a0_8 a0_9 a1:Int} {r:((List (Int × Int)) × Int)} (hF:sf67 N a0_0 a0_1 a0_2 a0_3 a0_4 a0_5 a0_6 a0_7 a0_8 a0_9 a1 = some r) (hd:D h0 n0) (hs:F0.sub h0) (hfl:fl ≤ n0) {pa0_4:Option (Nat × Nat)} {ca0_4:Nat} {pa0_5:Option (Nat × Nat)} {ca0_5:Nat} (ra0_4:RowF (rP rI (rP rI (rP rI rI))) 4 F0 pa0_4 ca0_4 a0_4) (ra0_5:RowF (rP rI rI) 2 F0 pa0_5 ca0_5 a0_5):C LW fl 67 [(.agg [(i64 a0_0),(i64 a0_1),(i64 a0_2),(i64 a0_3),(.slice pa0_4 (a0_4).length ca0_4),(.slice pa0_5 (a0_5).length ca0_5),(i64 a0_6),(i64 a0_7),(i64 a0_8),(i64 a0_9)]),(i64 a1),(.func 68 [] [])] ⟨h0,n0⟩ (KR (rvT2 (lvL (rP rI rI) 2) lvI) F0 h0 n0 r):=by
 unfold sf67 at hF
 refine vu hd hs hfl lw67 rfl rfl (by rfl) (fun st T hT=>?_)
 have t0:=hT 0 _ rfl
 have t1:=hT 1 _ rfl
 have t2:=hT 2 _ rfl
 dsimp only [L67]
 refine zg (zh ?_);refine zQ st (fun b1 h2 n3 st=>?_);refine za ?_;refine za ?_;refine zf (th_n ?_);refine zg (zh ?_);refine zG (vs:=[(i64 a0_0),(i64 a0_1),(i64 a0_2),(i64 a0_3),(.slice pa0_4 (a0_4).length ca0_4),(.slice pa0_5 (a0_5).length ca0_5),(i64 a0_6),(i64 a0_7),(i64 a0_8),(i64 a0_9)]) (st.at (i:=0) rfl).2.2 rfl ?_;refine za ?_;obtain ⟨v4,e5,hF⟩:=zk hF;refine yF st (ct105 N e5 st.d st.sub (Nat.le_trans hfl st.ext.le) ra0_4 ra0_5) (fun u6 F6 h6 n6 le6 rv6 st=>?_);obtain ⟨_,_,rfl,⟨_,_,rfl,rfl,⟨_,_,rfl,rfl,⟨_,_,rfl,rfl,⟨_,_,rfl,rfl,⟨_,_,rfl,⟨py7,cy7,rfl,ry7⟩,⟨_,_,rfl,⟨py8,cy8,rfl,ry8⟩,⟨_,_,rfl,rfl,⟨_,_,rfl,rfl,⟨_,_,rfl,rfl,⟨_,_,rfl,rfl,⟨rfl,rfl⟩⟩⟩⟩⟩⟩⟩⟩⟩⟩⟩⟩:=rv6
 refine za ?_;refine v_xt rfl ?_;refine v_xt rfl ?_;refine zJ st (fun b9 h10 n11 st=>?_)
 have st:=st.cells 1 rfl ([(i64 0),(i64 0),(i64 0),(i64 0),(.slice none 0 0),(.slice none 0 0),(i64 0),(i64 0),(i64 0),(i64 0)] ++ (eI .i64 22 (fun _=>0))) rfl
 refine v_st (v:=(.agg ([(i64 v4.1),(i64 v4.2.1),(i64 v4.2.2.1),(i64 v4.2.2.2.1),(.slice py7 (v4.2.2.2.2.1).length cy7),(.slice py8 (v4.2.2.2.2.2.1).length cy8),(i64 v4.2.2.2.2.2.2.1),(i64 v4.2.2.2.2.2.2.2.1),(i64 v4.2.2.2.2.2.2.2.2.1),(i64 v4.2.2.2.2.2.2.2.2.2.1)] ++ (eI .i64 22 v4.2.2.2.2.2.2.2.2.2.2.1)))) (cs':=([(i64 v4.1),(i64 v4.2.1),(i64 v4.2.2.1),(i64 v4.2.2.2.1),(.slice py7 (v4.2.2.2.2.1).length cy7),(.slice py8 (v4.2.2.2.2.2.1).length cy8),(i64 v4.2.2.2.2.2.2.1),(i64 v4.2.2.2.2.2.2.2.1),(i64 v4.2.2.2.2.2.2.2.2.1),(i64 v4.2.2.2.2.2.2.2.2.2.1)] ++ (eI .i64 22 v4.2.2.2.2.2.2.2.2.2.2.1))) st 1 rfl (yc [] rfl (by simp [HV.cells,zD,yl])) (z5 _ zD (by rfl)) (z2 _ (by rfl) yk) hfl (fun h12 st=>?_)
 refine za ?_;refine zf (th_n ?_);refine zg ?_;refine zg (zh ?_);refine za ?_;refine yV ?_;refine zf (th_n ?_);refine zB (fun hb13=>?_) (fun hb13=>?_)
 ·have hF:=zu hb13 hF;refine zg (zh ?_);refine za ?_;refine za ?_;refine za ?_;refine zf (th_n ?_);refine zt ?_;refine th_r ?_;obtain rfl:=inj hF
  exact yJ st (Res.t gA (Res.t gA Res.nil)) ⟨_,_,rfl,⟨none,0,rfl,RowF.nil⟩,rfl⟩
 ·have hF:=zw hb13 hF;refine zC (th_n ?_);refine zg (zh ?_);refine v_fa ?_;refine v_fa ?_;refine v_fa ?_;refine zq (st.at (i:=1) rfl).2.2 rfl ?_;obtain ⟨q14,hF⟩:=zm hF;refine zR q14 ?_;obtain ⟨q15,hF⟩:=zm hF
  have w15:LR (rP rI rI) 2 F6 (List.replicate (Int.toNat (0:Int)) (0,0)) (Go.Hx.repl (Int.toNat (0:Int)) [(i64 0),(i64 0)]):=LR.repl (⟨[(i64 0)],_,rfl,rfl,rfl⟩) _
  refine v_mk st (n:=(List.replicate (Int.toNat (0:Int)) (0,0)).length) q15.1 q15.2.1 (by simp) q15.2.2.1 q15.2.2.2 (fun o15 h15 n15 st=>?_)
  refine za ?_;refine zf (th_n ?_);refine zg ?_;refine zg (zh ?_);refine za ?_;refine zf (th_n ?_);refine zE ?_;obtain ⟨y29,hy,hF⟩:=zk hF;refine zV (sf67_L1 N a1 v4) (fun x16 T ds17 h nx=>∃ (F17:PH) (o18:Option Nat) (c18:Nat) (cs18:List HV),ds17 = [] ∧ PH.le F6 F17 ∧ St n0 h0 F0 F17 h nx [.bx b1 [(i64 a0_0),(i64 a0_1),(i64 a0_2),(i64 a0_3),(.slice pa0_4 (a0_4).length ca0_4),(.slice pa0_5 (a0_5).length ca0_5),(i64 a0_6),(i64 a0_7),(i64 a0_8),(i64 a0_9)],.bx b9 ([(i64 v4.1),(i64 v4.2.1),(i64 v4.2.2.1),(i64 v4.2.2.2.1),(.slice py7 (v4.2.2.2.2.1).length cy7),(.slice py8 (v4.2.2.2.2.2.1).length cy8),(i64 v4.2.2.2.2.2.2.1),(i64 v4.2.2.2.2.2.2.2.1),(i64 v4.2.2.2.2.2.2.2.2.1),(i64 v4.2.2.2.2.2.2.2.2.2.1)] ++ (eI .i64 22 v4.2.2.2.2.2.2.2.2.2.2.1)),.ls o18 c18 cs18 2] ∧ LR (rP rI rI) 2 F17 x16.1 cs18 ∧ T.get 1 = some (i64 a1) ∧ T.get 2 = some (.func 68 [] []) ∧ T.get 8 = some (.ptr (some (b9,0))) ∧ T.get 10 = some (slv o18 (x16.1).length c18) ∧ T.get 11 = some (i64 x16.2)) (fun y e a σ=>e = .exit 0 ∧ a.nt = 44 ∧ ∃ (F30:PH) (o31:Option Nat) (c31:Nat) (cs31:List HV),a.defers = [] ∧ PH.le F6 F30 ∧ St n0 h0 F0 F30 σ.h σ.nx [.bx b1 [(i64 a0_0),(i64 a0_1),(i64 a0_2),(i64 a0_3),(.slice pa0_4 (a0_4).length ca0_4),(.slice pa0_5 (a0_5).length ca0_5),(i64 a0_6),(i64 a0_7),(i64 a0_8),(i64 a0_9)],.bx b9 ([(i64 v4.1),(i64 v4.2.1),(i64 v4.2.2.1),(i64 v4.2.2.2.1),(.slice py7 (v4.2.2.2.2.1).length cy7),(.slice py8 (v4.2.2.2.2.2.1).length cy8),(i64 v4.2.2.2.2.2.2.1),(i64 v4.2.2.2.2.2.2.2.1),(i64 v4.2.2.2.2.2.2.2.2.1),(i64 v4.2.2.2.2.2.2.2.2.2.1)] ++ (eI .i64 22 v4.2.2.2.2.2.2.2.2.2.2.1)),.ls o31 c31 cs31 2] ∧ LR (rP rI rI) 2 F30 y cs31 ∧ a.tmps.get 10 = some (slv o31 (y).length c31)) (fun x16 T ds17 h nx s hp hF=>?_) N _ y29 _ _ _ _ hy ⟨F6,o15,(Int.toNat (v4.1+(1:Int))),(Go.Hx.repl (Int.toNat (0:Int)) [(i64 0),(i64 0)]),rfl,(PH.le.refl _),st,w15,gA,gA,gA,gA,gA⟩ (fun e a σ hne hq=>?_)
  ·obtain ⟨F17,o18,c18,cs18,rfl,le17,st,w18,t1,t2,t8,t10,t11⟩:=hp
   unfold sf67_L1 at hF;unfold L67w0;refine zg ?_;refine zg (zh ?_);refine za ?_;refine v_fa ?_;refine v_fa ?_;refine v_fa ?_;refine zq (st.at (i:=1) rfl).2.2 rfl ?_;refine yy ?_;refine zf (th_n ?_);refine zB (fun hb32=>?_) (fun hb32=>?_)
   ·have hF:=zu hb32 hF;refine zC (th_n ?_);refine zg ?_;refine zE ?_;refine zh ?_;refine za ?_;refine za ?_;refine zG (vs:=([(i64 v4.1),(i64 v4.2.1),(i64 v4.2.2.1),(i64 v4.2.2.2.1),(.slice py7 (v4.2.2.2.2.1).length cy7),(.slice py8 (v4.2.2.2.2.2.1).length cy8),(i64 v4.2.2.2.2.2.2.1),(i64 v4.2.2.2.2.2.2.2.1),(i64 v4.2.2.2.2.2.2.2.2.1),(i64 v4.2.2.2.2.2.2.2.2.2.1)] ++ (eI .i64 22 v4.2.2.2.2.2.2.2.2.2.2.1))) (st.at (i:=1) rfl).2.2 (zX (E:=(eI .i64 22 v4.2.2.2.2.2.2.2.2.2.2.1)) [] [(i64 v4.1),(i64 v4.2.1),(i64 v4.2.2.1),(i64 v4.2.2.2.1),(.slice py7 (v4.2.2.2.2.1).length cy7),(.slice py8 (v4.2.2.2.2.2.1).length cy8),(i64 v4.2.2.2.2.2.2.1),(i64 v4.2.2.2.2.2.2.2.1),(i64 v4.2.2.2.2.2.2.2.2.1),(i64 v4.2.2.2.2.2.2.2.2.2.1)] rfl zD rfl) ?_
    refine za ?_;refine za ?_;obtain ⟨v33,e34,hF⟩:=zk hF;refine zF st (ct68 N e34 st.d st.sub (RowF.mono le17 ry7) (RowF.mono le17 ry8)) (fun n35 st=>?_);refine v_bs (cs:=[(i64 v33.1),(i64 v33.2)]) st rfl (fun b36 h37 n38 st=>?_);obtain ⟨q39,hF⟩:=zm hF
    have w39:LR (rP rI rI) 2 F17 (x16.1 ++ [(v33.1,v33.2)]) (cs18 ++ [(i64 v33.1),(i64 v33.2)]):=LR.app w18 (LR.one (⟨[(i64 v33.1)],_,rfl,rfl,rfl⟩))
    refine jD (n:=1) (ox:=0) (m:=(x16.1 ++ [(v33.1,v33.2)]).length) (row:=[(i64 v33.1),(i64 v33.2)]) st 2 rfl w18.1 (st.at (i:=3) rfl).2.2 rfl rfl q39 hfl (by decide) (by decide) (by simp) (fun o39 c39 h39 n39 st=>?_)
    refine za ?_;refine zf ?_;refine ib_n ?_;refine th_n ?_;refine zh ?_;refine za ?_;obtain ⟨q40,hF⟩:=zm hF;refine zR q40 ?_;refine za ?_;refine zf ?_;refine thn ⟨_,(inj hF).symm,rfl,?_⟩;dsimp only
    exact ⟨F17,o39,c39,(cs18 ++ [(i64 v33.1),(i64 v33.2)]),rfl,le17,(st.drop (by first | exact List.Sublist.refl _ | (repeat first | exact List.nil_sublist _ | refine List.Sublist.cons_cons _ ?_ | refine List.Sublist.cons _ ?_))),w39,gA,gA,gA,gA,gA⟩
   ·have hF:=zw hb32 hF;refine z8 ?_;refine th_e ?_;refine th_e ?_;refine ⟨_,(inj hF).symm,rfl,rfl,?_⟩;dsimp only
    exact ⟨F17,o18,c18,cs18,rfl,le17,st,w18,gA⟩
  ·obtain ⟨N9,T,ds30⟩:=a;obtain ⟨h42,n43⟩:=σ;obtain ⟨rfl,e1,F30,o31,c31,cs31,e2,le30,st,w31,t10⟩:=hq
   dsimp only at e1 e2
   subst e1
   subst e2
   dsimp only at st t10
   refine ib_e ?_;refine th_n ?_;refine zg (zh ?_);refine za ?_;refine za ?_;refine za ?_;refine zf (th_n ?_);refine zt ?_;obtain rfl:=inj hF
   obtain ⟨F44,le44,st,rf44⟩:=St.freeze st 2 rfl w31 (by decide)
   exact yJ st (Res.t gA (Res.t gA Res.nil)) ⟨_,_,rfl,⟨_,_,rfl,rf44⟩,rfl⟩
theorem ct83 (N:Nat) {a0_0 a0_1 a0_2 a0_3:Int} {a0_4:(List (Int × Int × Int × Int))} {a0_5:(List (Int × Int))} {a0_6 a0_7 a0_8 a0_9:Int} {a0_10:(Nat → Int)} {a0_11 a0_12 a0_13:Int} {r:(Int × Int × Bool)} (hF:sf83 N a0_0 a0_1 a0_2 a0_3 a0_4 a0_5 a0_6 a0_7 a0_8 a0_9 a0_10 a0_11 a0_12 a0_13 = some r) (hd:D h0 n0) (hs:F0.sub h0) {pa0_4:Option (Nat × Nat)} {ca0_4:Nat} {pa0_5:Option (Nat × Nat)} {ca0_5:Nat} (ra0_4:RowF (rP rI (rP rI (rP rI rI))) 4 F0 pa0_4 ca0_4 a0_4) (ra0_5:RowF (rP rI rI) 2 F0 pa0_5 ca0_5 a0_5):C LW fl 83 [(.agg ([(i64 a0_0),(i64 a0_1),(i64 a0_2),(i64 a0_3),(.slice pa0_4 (a0_4).length ca0_4),(.slice pa0_5 (a0_5).length ca0_5),(i64 a0_6),(i64 a0_7),(i64 a0_8),(i64 a0_9)] ++ ((eI .i64 22 a0_10) ++ [(i64 a0_11),(i64 a0_12),(i64 a0_13)])))] ⟨h0,n0⟩ (KS (.tuple [(.agg [(i64 r.1),(i64 r.2.1)]),(.bool r.2.2)]) n0 h0):=by
 unfold sf83 at hF
 refine zT hd hs lw83 rfl rfl (by rfl) (fun st T hT=>?_)
 have hfl:n0 ≤ n0:=Nat.le_refl n0
 have t0:=hT 0 _ rfl
 dsimp only [L83]
 refine zg (zh ?_);refine zQ st (fun b1 h2 n3 st=>?_);refine zJ st (fun b4 h5 n6 st=>?_);refine za ?_;refine zf (th_n ?_);refine zg (zh ?_);refine v_mf ?_;obtain ⟨v7,e8,hF⟩:=zk hF;refine zF st (ct118 N e8 st.d (all_sub _) (RowF.mono st.all_le ra0_4) (RowF.mono st.all_le ra0_5) (st.at (i:=0) rfl).2.2) (fun n9 st=>?_);refine za ?_;refine zf (th_n ?_);refine zg (zh ?_);refine v_mf ?_;obtain ⟨v10,e11,hF⟩:=zk hF;refine zF st (ct118_2 N e11 st.d (all_sub _) (RowF.mono st.all_le ra0_4) (RowF.mono st.all_le ra0_5) (st.at (i:=0) rfl).2.2) (fun n12 st=>?_);refine za ?_
 refine zf (th_n ?_);refine zg (zh ?_);refine za ?_;refine za ?_;obtain ⟨q13,hF⟩:=zm hF;refine yv q13 ?_;refine zO (cs:=[(i64 v7),(i64 (v10 - (1:Int)))]) rfl ?_;refine za ?_;refine za ?_;refine yg ?_;refine v_st (cs':=[(i64 v7),(i64 (v10 - (1:Int)))]) st 1 rfl rfl rfl rfl hfl (fun h14 st=>?_);refine za ?_;refine zf (th_n ?_);refine zt ?_;obtain rfl:=inj hF
 exact zA st (Res.c gA (st.at (i:=1) rfl).2.2 (show takeN _ _ = some [(i64 v7),(i64 (v10 - (1:Int)))] from rfl) (Res.t gA Res.nil)) rfl rfl
end Go.Hx.V

namespace Go.Hx.V
open Go.Hx
set_option maxRecDepth 20000
set_option maxHeartbeats 4000000
variable {fl : Nat} {h0 : Tr HBlk} {n0 : Nat} {F0 : PH}
attribute [local irreducible] W R C thenH inBlockH Tr.get Tr.set lo ck bnd ix iter
theorem ct80 (N:Nat) {a0_0 a0_1 a0_2 a0_3:Int} {a0_4:(List (Int × Int × Int × Int))} {a0_5:(List (Int × Int))} {a0_6 a0_7 a0_8 a0_9 a1_0 a1_1 a1_2 a2:Int} {r:(Int × Int × Int × Int × (List (Int × Int × Int × Int)) × (List (Int × Int)) × Int × Int × Int × Int × (Nat → Int) × Int × Int × Int × Int)} (hF:sf80 N a0_0 a0_1 a0_2 a0_3 a0_4 a0_5 a0_6 a0_7 a0_8 a0_9 a1_0 a1_1 a1_2 a2 = some r) (hd:D h0 n0) (hs:F0.sub h0) (hfl:fl ≤ n0) {pa0_4:Option (Nat × Nat)} {ca0_4:Nat} {pa0_5:Option (Nat × Nat)} {ca0_5:Nat} (ra0_4:RowF (rP rI (rP rI (rP rI rI))) 4 F0 pa0_4 ca0_4 a0_4) (ra0_5:RowF (rP rI rI) 2 F0 pa0_5 ca0_5 a0_5):C LW fl 80 [(.agg [(i64 a0_0),(i64 a0_1),(i64 a0_2),(i64 a0_3),(.slice pa0_4 (a0_4).length ca0_4),(.slice pa0_5 (a0_5).length ca0_5),(i64 a0_6),(i64 a0_7),(i64 a0_8),(i64 a0_9)]),(.agg [(i64 a1_0),(i64 a1_1),(i64 a1_2)]),(i64 a2)] ⟨h0,n0⟩ (KR (rvT2A (rqC rI (rqC rI (rqC rI (rqC rI (rqC (rL (rP rI (rP rI (rP rI rI))) 4) (rqC (rL (rP rI rI) 2) (rqC rI (rqC rI (rqC rI (rqC rI (rqC (rF .i64 22) (rqC rI (rqC rI (rqL rI lvI))))))))))))))) F0 h0 n0 r):=by
 unfold sf80 at hF
 refine vu hd hs hfl lw80 rfl rfl (by rfl) (fun st T hT=>?_)
 have t0:=hT 0 _ rfl
 have t1:=hT 1 _ rfl
 have t2:=hT 2 _ rfl
 dsimp only [L80]
 refine zg (zh ?_);refine zQ st (fun b1 h2 n3 st=>?_);refine zQ st (fun b4 h5 n6 st=>?_);refine zJ st (fun b7 h8 n9 st=>?_)
 have st:=st.cells 2 rfl ([(i64 0),(i64 0),(i64 0),(i64 0),(.slice none 0 0),(.slice none 0 0),(i64 0),(i64 0),(i64 0),(i64 0)] ++ ((eI .i64 22 (fun _=>0)) ++ [(i64 0),(i64 0),(i64 0)])) rfl
 refine za ?_;refine zf (th_n ?_);refine zg (zh ?_);refine zG (vs:=[(i64 a0_0),(i64 a0_1),(i64 a0_2),(i64 a0_3),(.slice pa0_4 (a0_4).length ca0_4),(.slice pa0_5 (a0_5).length ca0_5),(i64 a0_6),(i64 a0_7),(i64 a0_8),(i64 a0_9)]) (st.at (i:=0) rfl).2.2 rfl ?_;refine zG (vs:=[(i64 a1_0),(i64 a1_1),(i64 a1_2)]) (st.at (i:=1) rfl).2.2 rfl ?_;obtain ⟨v10,e11,hF⟩:=zk hF;refine yF st (ct82 N e11 st.d st.sub (Nat.le_trans hfl st.ext.le) ra0_4 ra0_5) (fun u12 F12 h12 n12 le12 rv12 st=>?_);obtain ⟨_,_,rfl,⟨_,_,rfl,rfl,⟨_,_,rfl,rfl,⟨_,_,rfl,rfl,⟨_,_,rfl,rfl,⟨_,_,rfl,⟨py13,cy13,rfl,ry13⟩,⟨_,_,rfl,⟨py14,cy14,rfl,ry14⟩,⟨_,_,rfl,rfl,⟨_,_,rfl,rfl,⟨_,_,rfl,rfl,⟨_,_,rfl,rfl,⟨_,_,rfl,rfl,⟨_,_,rfl,rfl,⟨_,_,rfl,rfl,⟨rfl,rfl⟩⟩⟩⟩⟩⟩⟩⟩⟩⟩⟩⟩⟩⟩⟩:=rv12
 refine za ?_;refine v_xt rfl ?_;refine v_xt rfl ?_;refine zJ st (fun b15 h16 n17 st=>?_)
 have st:=st.cells 3 rfl ([(i64 0),(i64 0),(i64 0),(i64 0),(.slice none 0 0),(.slice none 0 0),(i64 0),(i64 0),(i64 0),(i64 0)] ++ ((eI .i64 22 (fun _=>0)) ++ [(i64 0),(i64 0),(i64 0)])) rfl
 refine v_st (v:=(.agg ([(i64 v10.1),(i64 v10.2.1),(i64 v10.2.2.1),(i64 v10.2.2.2.1),(.slice py13 (v10.2.2.2.2.1).length cy13),(.slice py14 (v10.2.2.2.2.2.1).length cy14),(i64 v10.2.2.2.2.2.2.1),(i64 v10.2.2.2.2.2.2.2.1),(i64 v10.2.2.2.2.2.2.2.2.1),(i64 v10.2.2.2.2.2.2.2.2.2.1)] ++ ((eI .i64 22 v10.2.2.2.2.2.2.2.2.2.2.1) ++ [(i64 v10.2.2.2.2.2.2.2.2.2.2.2.1),(i64 v10.2.2.2.2.2.2.2.2.2.2.2.2.1),(i64 v10.2.2.2.2.2.2.2.2.2.2.2.2.2.1)])))) (cs':=([(i64 v10.1),(i64 v10.2.1),(i64 v10.2.2.1),(i64 v10.2.2.2.1),(.slice py13 (v10.2.2.2.2.1).length cy13),(.slice py14 (v10.2.2.2.2.2.1).length cy14),(i64 v10.2.2.2.2.2.2.1),(i64 v10.2.2.2.2.2.2.2.1),(i64 v10.2.2.2.2.2.2.2.2.1),(i64 v10.2.2.2.2.2.2.2.2.2.1)] ++ ((eI .i64 22 v10.2.2.2.2.2.2.2.2.2.2.1) ++ [(i64 v10.2.2.2.2.2.2.2.2.2.2.2.1),(i64 v10.2.2.2.2.2.2.2.2.2.2.2.2.1),(i64 v10.2.2.2.2.2.2.2.2.2.2.2.2.2.1)]))) st 3 rfl rfl rfl rfl hfl (fun h18 st=>?_)
 refine za ?_;refine zf (th_n ?_);refine zg ?_;refine zg (zh ?_);refine za ?_;refine yV ?_;refine zf (th_n ?_);refine zB (fun hb19=>?_) (fun hb19=>?_)
 ·have hF:=zu hb19 hF;refine zg (zh ?_);refine zO (cs:=([(i64 0),(i64 0),(i64 0),(i64 0),(.slice none 0 0),(.slice none 0 0),(i64 0),(i64 0),(i64 0),(i64 0)] ++ ((eI .i64 22 (fun _=>0)) ++ [(i64 0),(i64 0),(i64 0)]))) rfl ?_;refine za ?_;refine v_st (v:=(.agg ([(i64 0),(i64 0),(i64 0),(i64 0),(.slice none 0 0),(.slice none 0 0),(i64 0),(i64 0),(i64 0),(i64 0)] ++ ((eI .i64 22 (fun _=>0)) ++ [(i64 0),(i64 0),(i64 0)])))) (cs':=([(i64 0),(i64 0),(i64 0),(i64 0),(.slice none 0 0),(.slice none 0 0),(i64 0),(i64 0),(i64 0),(i64 0)] ++ ((eI .i64 22 (fun _=>0)) ++ [(i64 0),(i64 0),(i64 0)]))) st 2 rfl rfl rfl rfl hfl (fun h20 st=>?_)
  refine za ?_;refine zf (th_n ?_);refine zt ?_;refine th_r ?_;obtain rfl:=inj hF
  exact yJ st (Res.c gA (st.at (i:=2) rfl).2.2 (show takeN _ _ = some ([(i64 0),(i64 0),(i64 0),(i64 0),(.slice none 0 0),(.slice none 0 0),(i64 0),(i64 0),(i64 0),(i64 0)] ++ ((eI .i64 22 (fun _=>0)) ++ [(i64 0),(i64 0),(i64 0)])) from rfl) (Res.t gA Res.nil)) ⟨_,_,rfl,⟨[(i64 0)],_,rfl,rfl,⟨[(i64 0)],_,rfl,rfl,⟨[(i64 0)],_,rfl,rfl,⟨[(i64 0)],_,rfl,rfl,⟨[(.slice none 0 0)],_,rfl,⟨none,0,rfl,RowF.nil⟩,⟨[(.slice none 0 0)],_,rfl,⟨none,0,rfl,RowF.nil⟩,⟨[(i64 0)],_,rfl,rfl,⟨[(i64 0)],_,rfl,rfl,⟨[(i64 0)],_,rfl,rfl,⟨[(i64 0)],_,rfl,rfl,⟨(eI .i64 22 (fun _=>0)),_,rfl,rfl,⟨[(i64 0)],_,rfl,rfl,⟨[(i64 0)],_,rfl,rfl,⟨rfl,rfl⟩⟩⟩⟩⟩⟩⟩⟩⟩⟩⟩⟩⟩⟩⟩
 ·have hF:=zw hb19 hF;refine zC (th_n ?_);refine zg ?_;refine zg (zh ?_);refine za ?_;obtain ⟨v21,e22,hF⟩:=zk hF;refine zF st (ct75 N e22 st.d st.sub ) (fun n23 st=>?_);refine yf ?_;refine zf (th_n ?_);refine zB (fun hb24=>?_) (fun hb24=>?_)
  ·have hF:=zu hb24 hF;refine zg (zh ?_);refine zO (cs:=([(i64 0),(i64 0),(i64 0),(i64 0),(.slice none 0 0),(.slice none 0 0),(i64 0),(i64 0),(i64 0),(i64 0)] ++ ((eI .i64 22 (fun _=>0)) ++ [(i64 0),(i64 0),(i64 0)]))) rfl ?_;refine v_st (v:=(.agg ([(i64 0),(i64 0),(i64 0),(i64 0),(.slice none 0 0),(.slice none 0 0),(i64 0),(i64 0),(i64 0),(i64 0)] ++ ((eI .i64 22 (fun _=>0)) ++ [(i64 0),(i64 0),(i64 0)])))) (cs':=([(i64 0),(i64 0),(i64 0),(i64 0),(.slice none 0 0),(.slice none 0 0),(i64 0),(i64 0),(i64 0),(i64 0)] ++ ((eI .i64 22 (fun _=>0)) ++ [(i64 0),(i64 0),(i64 0)]))) st 2 rfl rfl rfl rfl hfl (fun h25 st=>?_)
   refine za ?_;refine zf (th_n ?_);refine zt ?_;refine th_r ?_;obtain rfl:=inj hF
   exact yJ st (Res.c gA (st.at (i:=2) rfl).2.2 (show takeN _ _ = some ([(i64 0),(i64 0),(i64 0),(i64 0),(.slice none 0 0),(.slice none 0 0),(i64 0),(i64 0),(i64 0),(i64 0)] ++ ((eI .i64 22 (fun _=>0)) ++ [(i64 0),(i64 0),(i64 0)])) from rfl) (Res.t gA Res.nil)) ⟨_,_,rfl,⟨[(i64 0)],_,rfl,rfl,⟨[(i64 0)],_,rfl,rfl,⟨[(i64 0)],_,rfl,rfl,⟨[(i64 0)],_,rfl,rfl,⟨[(.slice none 0 0)],_,rfl,⟨none,0,rfl,RowF.nil⟩,⟨[(.slice none 0 0)],_,rfl,⟨none,0,rfl,RowF.nil⟩,⟨[(i64 0)],_,rfl,rfl,⟨[(i64 0)],_,rfl,rfl,⟨[(i64 0)],_,rfl,rfl,⟨[(i64 0)],_,rfl,rfl,⟨(eI .i64 22 (fun _=>0)),_,rfl,rfl,⟨[(i64 0)],_,rfl,rfl,⟨[(i64 0)],_,rfl,rfl,⟨rfl,rfl⟩⟩⟩⟩⟩⟩⟩⟩⟩⟩⟩⟩⟩⟩⟩
  ·have hF:=zw hb24 hF;refine zC (th_n ?_);refine zg (zh ?_);refine zG (vs:=([(i64 v10.1),(i64 v10.2.1),(i64 v10.2.2.1),(i64 v10.2.2.2.1),(.slice py13 (v10.2.2.2.2.1).length cy13),(.slice py14 (v10.2.2.2.2.2.1).length cy14),(i64 v10.2.2.2.2.2.2.1),(i64 v10.2.2.2.2.2.2.2.1),(i64 v10.2.2.2.2.2.2.2.2.1),(i64 v10.2.2.2.2.2.2.2.2.2.1)] ++ ((eI .i64 22 v10.2.2.2.2.2.2.2.2.2.2.1) ++ [(i64 v10.2.2.2.2.2.2.2.2.2.2.2.1),(i64 v10.2.2.2.2.2.2.2.2.2.2.2.2.1),(i64 v10.2.2.2.2.2.2.2.2.2.2.2.2.2.1)]))) (st.at (i:=3) rfl).2.2 rfl ?_;refine v_st (v:=(.agg ([(i64 v10.1),(i64 v10.2.1),(i64 v10.2.2.1),(i64 v10.2.2.2.1),(.slice py13 (v10.2.2.2.2.1).length cy13),(.slice py14 (v10.2.2.2.2.2.1).length cy14),(i64 v10.2.2.2.2.2.2.1),(i64 v10.2.2.2.2.2.2.2.1),(i64 v10.2.2.2.2.2.2.2.2.1),(i64 v10.2.2.2.2.2.2.2.2.2.1)] ++ ((eI .i64 22 v10.2.2.2.2.2.2.2.2.2.2.1) ++ [(i64 v10.2.2.2.2.2.2.2.2.2.2.2.1),(i64 v10.2.2.2.2.2.2.2.2.2.2.2.2.1),(i64 v10.2.2.2.2.2.2.2.2.2.2.2.2.2.1)])))) (cs':=([(i64 v10.1),(i64 v10.2.1),(i64 v10.2.2.1),(i64 v10.2.2.2.1),(.slice py13 (v10.2.2.2.2.1).length cy13),(.slice py14 (v10.2.2.2.2.2.1).length cy14),(i64 v10.2.2.2.2.2.2.1),(i64 v10.2.2.2.2.2.2.2.1),(i64 v10.2.2.2.2.2.2.2.2.1),(i64 v10.2.2.2.2.2.2.2.2.2.1)] ++ ((eI .i64 22 v10.2.2.2.2.2.2.2.2.2.2.1) ++ [(i64 v10.2.2.2.2.2.2.2.2.2.2.2.1),(i64 v10.2.2.2.2.2.2.2.2.2.2.2.2.1),(i64 v10.2.2.2.2.2.2.2.2.2.2.2.2.2.1)]))) st 2 rfl rfl rfl rfl hfl (fun h26 st=>?_)
   refine za ?_;refine zf (th_n ?_);refine zt ?_;obtain rfl:=inj hF
   exact yJ st (Res.c gA (st.at (i:=2) rfl).2.2 (show takeN _ _ = some ([(i64 v10.1),(i64 v10.2.1),(i64 v10.2.2.1),(i64 v10.2.2.2.1),(.slice py13 (v10.2.2.2.2.1).length cy13),(.slice py14 (v10.2.2.2.2.2.1).length cy14),(i64 v10.2.2.2.2.2.2.1),(i64 v10.2.2.2.2.2.2.2.1),(i64 v10.2.2.2.2.2.2.2.2.1),(i64 v10.2.2.2.2.2.2.2.2.2.1)] ++ ((eI .i64 22 v10.2.2.2.2.2.2.2.2.2.2.1) ++ [(i64 v10.2.2.2.2.2.2.2.2.2.2.2.1),(i64 v10.2.2.2.2.2.2.2.2.2.2.2.2.1),(i64 v10.2.2.2.2.2.2.2.2.2.2.2.2.2.1)])) from rfl) (Res.t gA Res.nil)) ⟨_,_,rfl,⟨[(i64 v10.1)],_,rfl,rfl,⟨[(i64 v10.2.1)],_,rfl,rfl,⟨[(i64 v10.2.2.1)],_,rfl,rfl,⟨[(i64 v10.2.2.2.1)],_,rfl,rfl,⟨[(.slice py13 (v10.2.2.2.2.1).length cy13)],_,rfl,⟨_,_,rfl,ry13⟩,⟨[(.slice py14 (v10.2.2.2.2.2.1).length cy14)],_,rfl,⟨_,_,rfl,ry14⟩,⟨[(i64 v10.2.2.2.2.2.2.1)],_,rfl,rfl,⟨[(i64 v10.2.2.2.2.2.2.2.1)],_,rfl,rfl,⟨[(i64 v10.2.2.2.2.2.2.2.2.1)],_,rfl,rfl,⟨[(i64 v10.2.2.2.2.2.2.2.2.2.1)],_,rfl,rfl,⟨(eI .i64 22 v10.2.2.2.2.2.2.2.2.2.2.1),_,rfl,rfl,⟨[(i64 v10.2.2.2.2.2.2.2.2.2.2.2.1)],_,rfl,rfl,⟨[(i64 v10.2.2.2.2.2.2.2.2.2.2.2.2.1)],_,rfl,rfl,⟨rfl,rfl⟩⟩⟩⟩⟩⟩⟩⟩⟩⟩⟩⟩⟩⟩⟩
end Go.Hx.V

namespace Go.Hx.V
open Go.Hx
set_option maxRecDepth 20000
set_option maxHeartbeats 4000000
variable {fl : Nat} {h0 : Tr HBlk} {n0 : Nat} {F0 : PH}
attribute [local irreducible] W R C thenH inBlockH Tr.get Tr.set lo ck bnd ix iter
theorem ct22 (N:Nat) {a0_0 a0_1 a0_2 a0_3:Int} {a0_4:(List (Int × Int × Int × Int))} {a0_5:(List (Int × Int))} {a0_6 a0_7 a0_8 a0_9 a1:Int} {r:((List (Int × Int)) × Int)} (hF:sf22 N a0_0 a0_1 a0_2 a0_3 a0_4 a0_5 a0_6 a0_7 a0_8 a0_9 a1 = some r) (hd:D h0 n0) (hs:F0.sub h0) (hfl:fl ≤ n0) {pa0_4:Option (Nat × Nat)} {ca0_4:Nat} {pa0_5:Option (Nat × Nat)} {ca0_5:Nat} (ra0_4:RowF (rP rI (rP rI (rP rI rI))) 4 F0 pa0_4 ca0_4 a0_4) (ra0_5:RowF (rP rI rI) 2 F0 pa0_5 ca0_5 a0_5):C LW fl 22 [(.agg [(i64 a0_0),(i64 a0_1),(i64 a0_2),(i64 a0_3),(.slice pa0_4 (a0_4).length ca0_4),(.slice pa0_5 (a0_5).length ca0_5),(i64 a0_6),(i64 a0_7),(i64 a0_8),(i64 a0_9)]),(i64 a1)] ⟨h0,n0⟩ (KR (rvT2 (lvL (rP rI rI) 2) lvI) F0 h0 n0 r):=by
 unfold sf22 at hF
 refine vu hd hs hfl lw22 rfl rfl (by rfl) (fun st T hT=>?_)
 have t0:=hT 0 _ rfl
 have t1:=hT 1 _ rfl
 dsimp only [L22]
 refine zg (zh ?_);refine zQ st (fun b1 h2 n3 st=>?_);refine za ?_;refine za ?_;refine zf (th_n ?_);refine zg (zh ?_);refine zG (vs:=[(i64 a0_0),(i64 a0_1),(i64 a0_2),(i64 a0_3),(.slice pa0_4 (a0_4).length ca0_4),(.slice pa0_5 (a0_5).length ca0_5),(i64 a0_6),(i64 a0_7),(i64 a0_8),(i64 a0_9)]) (st.at (i:=0) rfl).2.2 rfl ?_;refine za ?_;obtain ⟨v4,e5,hF⟩:=zk hF;refine yF st (ct67 N e5 st.d st.sub (Nat.le_trans hfl st.ext.le) ra0_4 ra0_5) (fun u6 F6 h6 n6 le6 rv6 st=>?_);obtain ⟨_,_,rfl,⟨py7,cy7,rfl,ry7⟩,rfl⟩:=rv6;refine v_xt rfl ?_;refine v_xt rfl ?_;refine za ?_;refine za ?_
 refine zf (th_n ?_);refine zt ?_;obtain rfl:=inj hF
 exact yJ st (Res.t gA (Res.t gA Res.nil)) ⟨_,_,rfl,⟨_,_,rfl,ry7⟩,rfl⟩
theorem ct36 (N:Nat) {a0_0 a0_1 a0_2 a0_3:Int} {a0_4:(List (Int × Int × Int × Int))} {a0_5:(List (Int × Int))} {a0_6 a0_7 a0_8 a0_9 a1_0 a1_1 a1_2:Int} {r:(Int × Int × Int)} (hF:sf36 N a0_0 a0_1 a0_2 a0_3 a0_4 a0_5 a0_6 a0_7 a0_8 a0_9 a1_0 a1_1 a1_2 = some r) (hd:D h0 n0) (hs:F0.sub h0) {pa0_4:Option (Nat × Nat)} {ca0_4:Nat} {pa0_5:Option (Nat × Nat)} {ca0_5:Nat} (ra0_4:RowF (rP rI (rP rI (rP rI rI))) 4 F0 pa0_4 ca0_4 a0_4) (ra0_5:RowF (rP rI rI) 2 F0 pa0_5 ca0_5 a0_5):C LW fl 36 [(.agg [(i64 a0_0),(i64 a0_1),(i64 a0_2),(i64 a0_3),(.slice pa0_4 (a0_4).length ca0_4),(.slice pa0_5 (a0_5).length ca0_5),(i64 a0_6),(i64 a0_7),(i64 a0_8),(i64 a0_9)]),(.agg [(i64 a1_0),(i64 a1_1),(i64 a1_2)])] ⟨h0,n0⟩ (KS (.tuple [(.agg [(i64 r.1),(i64 r.2.1)]),(i64 r.2.2)]) n0 h0):=by
 unfold sf36 at hF
 refine zT hd hs lw36 rfl rfl (by rfl) (fun st T hT=>?_)
 have hfl:n0 ≤ n0:=Nat.le_refl n0
 have t0:=hT 0 _ rfl
 have t1:=hT 1 _ rfl
 dsimp only [L36]
 refine zg (zh ?_);refine zQ st (fun b1 h2 n3 st=>?_);refine zQ st (fun b4 h5 n6 st=>?_);refine zJ st (fun b7 h8 n9 st=>?_);refine za ?_;refine zf (th_n ?_);refine zg (zh ?_);refine zG (vs:=[(i64 a0_0),(i64 a0_1),(i64 a0_2),(i64 a0_3),(.slice pa0_4 (a0_4).length ca0_4),(.slice pa0_5 (a0_5).length ca0_5),(i64 a0_6),(i64 a0_7),(i64 a0_8),(i64 a0_9)]) (st.at (i:=0) rfl).2.2 rfl ?_;refine zG (vs:=[(i64 a1_0),(i64 a1_1),(i64 a1_2)]) (st.at (i:=1) rfl).2.2 rfl ?_;obtain ⟨v10,e11,hF⟩:=zk hF;refine yF st (ct82 N e11 st.d st.sub (Nat.le_trans hfl st.ext.le) ra0_4 ra0_5) (fun u12 F12 h12 n12 le12 rv12 st=>?_)
 obtain ⟨_,_,rfl,⟨_,_,rfl,rfl,⟨_,_,rfl,rfl,⟨_,_,rfl,rfl,⟨_,_,rfl,rfl,⟨_,_,rfl,⟨py13,cy13,rfl,ry13⟩,⟨_,_,rfl,⟨py14,cy14,rfl,ry14⟩,⟨_,_,rfl,rfl,⟨_,_,rfl,rfl,⟨_,_,rfl,rfl,⟨_,_,rfl,rfl,⟨_,_,rfl,rfl,⟨_,_,rfl,rfl,⟨_,_,rfl,rfl,⟨rfl,rfl⟩⟩⟩⟩⟩⟩⟩⟩⟩⟩⟩⟩⟩⟩⟩:=rv12;refine za ?_;refine v_xt rfl ?_;refine v_xt rfl ?_;refine zJ st (fun b15 h16 n17 st=>?_)
 have st:=st.cells 3 rfl ([(i64 0),(i64 0),(i64 0),(i64 0),(.slice none 0 0),(.slice none 0 0),(i64 0),(i64 0),(i64 0),(i64 0)] ++ ((eI .i64 22 (fun _=>0)) ++ [(i64 0),(i64 0),(i64 0)])) rfl
 refine v_st (v:=(.agg ([(i64 v10.1),(i64 v10.2.1),(i64 v10.2.2.1),(i64 v10.2.2.2.1),(.slice py13 (v10.2.2.2.2.1).length cy13),(.slice py14 (v10.2.2.2.2.2.1).length cy14),(i64 v10.2.2.2.2.2.2.1),(i64 v10.2.2.2.2.2.2.2.1),(i64 v10.2.2.2.2.2.2.2.2.1),(i64 v10.2.2.2.2.2.2.2.2.2.1)] ++ ((eI .i64 22 v10.2.2.2.2.2.2.2.2.2.2.1) ++ [(i64 v10.2.2.2.2.2.2.2.2.2.2.2.1),(i64 v10.2.2.2.2.2.2.2.2.2.2.2.2.1),(i64 v10.2.2.2.2.2.2.2.2.2.2.2.2.2.1)])))) (cs':=([(i64 v10.1),(i64 v10.2.1),(i64 v10.2.2.1),(i64 v10.2.2.2.1),(.slice py13 (v10.2.2.2.2.1).length cy13),(.slice py14 (v10.2.2.2.2.2.1).length cy14),(i64 v10.2.2.2.2.2.2.1),(i64 v10.2.2.2.2.2.2.2.1),(i64 v10.2.2.2.2.2.2.2.2.1),(i64 v10.2.2.2.2.2.2.2.2.2.1)] ++ ((eI .i64 22 v10.2.2.2.2.2.2.2.2.2.2.1) ++ [(i64 v10.2.2.2.2.2.2.2.2.2.2.2.1),(i64 v10.2.2.2.2.2.2.2.2.2.2.2.2.1),(i64 v10.2.2.2.2.2.2.2.2.2.2.2.2.2.1)]))) st 3 rfl rfl rfl rfl hfl (fun h18 st=>?_)
 refine za ?_;refine zf (th_n ?_);refine zg ?_;refine zg (zh ?_);refine za ?_;refine yV ?_;refine zf (th_n ?_);refine zB (fun hb19=>?_) (fun hb19=>?_)
 ·have hF:=zu hb19 hF;refine zg (zh ?_);refine zO (cs:=[(i64 0),(i64 0)]) rfl ?_;refine za ?_;refine v_st (cs':=[(i64 0),(i64 0)]) st 2 rfl rfl rfl rfl hfl (fun h20 st=>?_);refine za ?_;refine zf (th_n ?_);refine zt ?_;refine th_r ?_;obtain rfl:=inj hF
  exact zA st (Res.c gA (st.at (i:=2) rfl).2.2 (show takeN _ _ = some [(i64 0),(i64 0)] from rfl) (Res.t gA Res.nil)) rfl rfl
 ·have hF:=zw hb19 hF;refine zC (th_n ?_);refine zg (zh ?_);refine zG (vs:=([(i64 v10.1),(i64 v10.2.1),(i64 v10.2.2.1),(i64 v10.2.2.2.1),(.slice py13 (v10.2.2.2.2.1).length cy13),(.slice py14 (v10.2.2.2.2.2.1).length cy14),(i64 v10.2.2.2.2.2.2.1),(i64 v10.2.2.2.2.2.2.2.1),(i64 v10.2.2.2.2.2.2.2.2.1),(i64 v10.2.2.2.2.2.2.2.2.2.1)] ++ ((eI .i64 22 v10.2.2.2.2.2.2.2.2.2.2.1) ++ [(i64 v10.2.2.2.2.2.2.2.2.2.2.2.1),(i64 v10.2.2.2.2.2.2.2.2.2.2.2.2.1),(i64 v10.2.2.2.2.2.2.2.2.2.2.2.2.2.1)]))) (st.at (i:=3) rfl).2.2 rfl ?_;obtain ⟨v21,e22,hF⟩:=zk hF;refine zF st (ct83 N e22 st.d st.sub ry13 ry14) (fun n23 st=>?_);refine za ?_
  refine v_xt rfl ?_;refine v_xt rfl ?_;refine zJ st (fun b24 h25 n26 st=>?_);refine v_st (cs':=[(i64 v21.1),(i64 v21.2.1)]) st 4 rfl rfl rfl rfl hfl (fun h27 st=>?_);refine za ?_;refine zf (th_n ?_);refine zg ?_;refine zg (zh ?_);refine za ?_;refine yf ?_;refine zf (th_n ?_);refine zB (fun hb28=>?_) (fun hb28=>?_)
  ·have hF:=zu hb28 hF;refine zg (zh ?_);refine zO (cs:=[(i64 0),(i64 0)]) rfl ?_;refine v_st (cs':=[(i64 0),(i64 0)]) st 2 rfl rfl rfl rfl hfl (fun h29 st=>?_);refine za ?_;refine zf (th_n ?_);refine zt ?_;refine th_r ?_;obtain rfl:=inj hF
   exact zA st (Res.c gA (st.at (i:=2) rfl).2.2 (show takeN _ _ = some [(i64 0),(i64 0)] from rfl) (Res.t gA Res.nil)) rfl rfl
  ·have hF:=zw hb28 hF;refine zC (th_n ?_);refine zg (zh ?_);refine zG (vs:=[(i64 v21.1),(i64 v21.2.1)]) (st.at (i:=4) rfl).2.2 rfl ?_;refine v_st (cs':=[(i64 v21.1),(i64 v21.2.1)]) st 2 rfl rfl rfl rfl hfl (fun h30 st=>?_);refine za ?_;refine zf (th_n ?_);refine zt ?_;obtain rfl:=inj hF
   exact zA st (Res.c gA (st.at (i:=2) rfl).2.2 (show takeN _ _ = some [(i64 v21.1),(i64 v21.2.1)] from rfl) (Res.t gA Res.nil)) rfl rfl
theorem ct34 (N:Nat) {a0_0 a0_1 a0_2 a0_3:Int} {a0_4:(List (Int × Int × Int × Int))} {a0_5:(List (Int × Int))} {a0_6 a0_7 a0_8 a0_9 a1_0 a1_1 a1_2 a2:Int} {r:(Bool × Int)} (hF:sf34 N a0_0 a0_1 a0_2 a0_3 a0_4 a0_5 a0_6 a0_7 a0_8 a0_9 a1_0 a1_1 a1_2 a2 = some r) (hd:D h0 n0) (hs:F0.sub h0) {pa0_4:Option (Nat × Nat)} {ca0_4:Nat} {pa0_5:Option (Nat × Nat)} {ca0_5:Nat} (ra0_4:RowF (rP rI (rP rI (rP rI rI))) 4 F0 pa0_4 ca0_4 a0_4) (ra0_5:RowF (rP rI rI) 2 F0 pa0_5 ca0_5 a0_5):C LW fl 34 [(.agg [(i64 a0_0),(i64 a0_1),(i64 a0_2),(i64 a0_3),(.slice pa0_4 (a0_4).length ca0_4),(.slice pa0_5 (a0_5).length ca0_5),(i64 a0_6),(i64 a0_7),(i64 a0_8),(i64 a0_9)]),(.agg [(i64 a1_0),(i64 a1_1),(i64 a1_2)]),(i64 a2)] ⟨h0,n0⟩ (KS (.tuple [(.bool r.1),(i64 r.2)]) n0 h0):=by
 unfold sf34 at hF
 refine zT hd hs lw34 rfl rfl (by rfl) (fun st T hT=>?_)
 have hfl:n0 ≤ n0:=Nat.le_refl n0
 have t0:=hT 0 _ rfl
 have t1:=hT 1 _ rfl
 have t2:=hT 2 _ rfl
 dsimp only [L34]
 refine zg (zh ?_);refine zQ st (fun b1 h2 n3 st=>?_);refine zQ st (fun b4 h5 n6 st=>?_);refine za ?_;refine za ?_;refine zf (th_n ?_);refine zg (zh ?_);refine zG (vs:=[(i64 a0_0),(i64 a0_1),(i64 a0_2),(i64 a0_3),(.slice pa0_4 (a0_4).length ca0_4),(.slice pa0_5 (a0_5).length ca0_5),(i64 a0_6),(i64 a0_7),(i64 a0_8),(i64 a0_9)]) (st.at (i:=0) rfl).2.2 rfl ?_;refine zG (vs:=[(i64 a1_0),(i64 a1_1),(i64 a1_2)]) (st.at (i:=1) rfl).2.2 rfl ?_;refine za ?_;obtain ⟨v7,e8,hF⟩:=zk hF;refine yF st (ct80 N e8 st.d st.sub (Nat.le_trans hfl st.ext.le) ra0_4 ra0_5) (fun u9 F9 h9 n9 le9 rv9 st=>?_)
 obtain ⟨_,_,rfl,⟨_,_,rfl,rfl,⟨_,_,rfl,rfl,⟨_,_,rfl,rfl,⟨_,_,rfl,rfl,⟨_,_,rfl,⟨py10,cy10,rfl,ry10⟩,⟨_,_,rfl,⟨py11,cy11,rfl,ry11⟩,⟨_,_,rfl,rfl,⟨_,_,rfl,rfl,⟨_,_,rfl,rfl,⟨_,_,rfl,rfl,⟨_,_,rfl,rfl,⟨_,_,rfl,rfl,⟨_,_,rfl,rfl,⟨rfl,rfl⟩⟩⟩⟩⟩⟩⟩⟩⟩⟩⟩⟩⟩⟩⟩:=rv9;refine za ?_;refine v_xt rfl ?_;refine v_xt rfl ?_;refine zJ st (fun b12 h13 n14 st=>?_)
 have st:=st.cells 2 rfl ([(i64 0),(i64 0),(i64 0),(i64 0),(.slice none 0 0),(.slice none 0 0),(i64 0),(i64 0),(i64 0),(i64 0)] ++ ((eI .i64 22 (fun _=>0)) ++ [(i64 0),(i64 0),(i64 0)])) rfl
 refine v_st (v:=(.agg ([(i64 v7.1),(i64 v7.2.1),(i64 v7.2.2.1),(i64 v7.2.2.2.1),(.slice py10 (v7.2.2.2.2.1).length cy10),(.slice py11 (v7.2.2.2.2.2.1).length cy11),(i64 v7.2.2.2.2.2.2.1),(i64 v7.2.2.2.2.2.2.2.1),(i64 v7.2.2.2.2.2.2.2.2.1),(i64 v7.2.2.2.2.2.2.2.2.2.1)] ++ ((eI .i64 22 v7.2.2.2.2.2.2.2.2.2.2.1) ++ [(i64 v7.2.2.2.2.2.2.2.2.2.2.2.1),(i64 v7.2.2.2.2.2.2.2.2.2.2.2.2.1),(i64 v7.2.2.2.2.2.2.2.2.2.2.2.2.2.1)])))) (cs':=([(i64 v7.1),(i64 v7.2.1),(i64 v7.2.2.1),(i64 v7.2.2.2.1),(.slice py10 (v7.2.2.2.2.1).length cy10),(.slice py11 (v7.2.2.2.2.2.1).length cy11),(i64 v7.2.2.2.2.2.2.1),(i64 v7.2.2.2.2.2.2.2.1),(i64 v7.2.2.2.2.2.2.2.2.1),(i64 v7.2.2.2.2.2.2.2.2.2.1)] ++ ((eI .i64 22 v7.2.2.2.2.2.2.2.2.2.2.1) ++ [(i64 v7.2.2.2.2.2.2.2.2.2.2.2.1),(i64 v7.2.2.2.2.2.2.2.2.2.2.2.2.1),(i64 v7.2.2.2.2.2.2.2.2.2.2.2.2.2.1)]))) st 2 rfl rfl rfl rfl hfl (fun h15 st=>?_)
 refine za ?_;refine zf (th_n ?_);refine zg ?_;refine zg (zh ?_);refine za ?_;refine yV ?_;refine zf (th_n ?_);refine zB (fun hb16=>?_) (fun hb16=>?_)
 ·have hF:=zu hb16 hF;refine zg (zh ?_);refine za ?_;refine za ?_;refine za ?_;refine zf (th_n ?_);refine zt ?_;refine th_r ?_;obtain rfl:=inj hF
  exact zA st (Res.t gA (Res.t gA Res.nil)) rfl rfl
 ·have hF:=zw hb16 hF;refine zC (th_n ?_);refine zg (zh ?_);refine zG (vs:=([(i64 v7.1),(i64 v7.2.1),(i64 v7.2.2.1),(i64 v7.2.2.2.1),(.slice py10 (v7.2.2.2.2.1).length cy10),(.slice py11 (v7.2.2.2.2.2.1).length cy11),(i64 v7.2.2.2.2.2.2.1),(i64 v7.2.2.2.2.2.2.2.1),(i64 v7.2.2.2.2.2.2.2.2.1),(i64 v7.2.2.2.2.2.2.2.2.2.1)] ++ ((eI .i64 22 v7.2.2.2.2.2.2.2.2.2.2.1) ++ [(i64 v7.2.2.2.2.2.2.2.2.2.2.2.1),(i64 v7.2.2.2.2.2.2.2.2.2.2.2.2.1),(i64 v7.2.2.2.2.2.2.2.2.2.2.2.2.2.1)]))) (st.at (i:=2) rfl).2.2 rfl ?_;refine za ?_;obtain ⟨v17,e18,hF⟩:=zk hF;refine zF st (ct81 N e18 st.d st.sub ry10 ry11) (fun n19 st=>?_);refine za ?_
  refine za ?_;refine zf (th_n ?_);refine zt ?_;obtain rfl:=inj hF
  exact zA st (Res.t gA (Res.t gA Res.nil)) rfl rfl
end Go.Hx.V

namespace Go.Hx.V
open Go.Hx
set_option maxRecDepth 20000
set_option maxHeartbeats 4000000
variable {fl : Nat} {h0 : Tr HBlk} {n0 : Nat} {F0 : PH}
attribute [local irreducible] W R C thenH inBlockH Tr.get Tr.set lo ck bnd ix iter
end Go.Hx.V

namespace Go.Hx.V
open Go.Hx
set_option maxRecDepth 20000
set_option maxHeartbeats 4000000
variable {fl : Nat} {h0 : Tr HBlk} {n0 : Nat} {F0 : PH}
attribute [local irreducible] W R C thenH inBlockH Tr.get Tr.set lo ck bnd ix iter
theorem ct11 (N:Nat) {a0_0 a0_1 a0_2 a0_3:Int} {a0_4:(List (Int × Int × Int × Int))} {a0_5:(List (Int × Int))} {a0_6 a0_7 a0_8 a0_9:Int} {a1:(List Int)} {a2:(List Int)} {a3_0 a3_1 a3_2 a4:Int} {r:Bool} (hF:sf11 N a0_0 a0_1 a0_2 a0_3 a0_4 a0_5 a0_6 a0_7 a0_8 a0_9 a1 a2 a3_0 a3_1 a3_2 a4 = some r) (hd:D h0 n0) (hs:F0.sub h0) {pa0_4:Option (Nat × Nat)} {ca0_4:Nat} {pa0_5:Option (Nat × Nat)} {ca0_5:Nat} {pa1:Option (Nat × Nat)} {ca1:Nat} {pa2:Option (Nat × Nat)} {ca2:Nat} (ra0_4:RowF (rP rI (rP rI (rP rI rI))) 4 F0 pa0_4 ca0_4 a0_4) (ra0_5:RowF (rP rI rI) 2 F0 pa0_5 ca0_5 a0_5) (ra1:RowF (rK .u16) 1 F0 pa1 ca1 a1) (ra2:RowF (rK .u16) 1 F0 pa2 ca2 a2):C LW fl 11 [(.agg [(i64 a0_0),(i64 a0_1),(i64 a0_2),(i64 a0_3),(.slice pa0_4 (a0_4).length ca0_4),(.slice pa0_5 (a0_5).length ca0_5),(i64 a0_6),(i64 a0_7),(i64 a0_8),(i64 a0_9)]),(.slice pa1 (a1).length ca1),(.slice pa2 (a2).length ca2),(.agg [(i64 a3_0),(i64 a3_1),(i64 a3_2)]),(.int .u16 a4)] ⟨h0,n0⟩ (KS (.bool r) n0 h0):=by
 unfold sf11 at hF
 refine zT hd hs lw11 rfl rfl (by rfl) (fun st T hT=>?_)
 have hfl:n0 ≤ n0:=Nat.le_refl n0
 have t0:=hT 0 _ rfl
 have t1:=hT 1 _ rfl
 have t2:=hT 2 _ rfl
 have t3:=hT 3 _ rfl
 have t4:=hT 4 _ rfl
 dsimp only [L11]
 refine zg (zh ?_);refine zQ st (fun b1 h2 n3 st=>?_);refine zQ st (fun b4 h5 n6 st=>?_);refine za ?_;refine zf (th_n ?_);obtain ⟨y27,hA28,hF⟩:=zk hF;refine yq (fun T ds33 h nx=>∃ u,y27 = (.inr u) ∧ ∃ (F33:PH),ds33 = [] ∧ PH.le F0 F33 ∧ St n0 h0 F0 F33 h nx [.bx b1 [(i64 a0_0),(i64 a0_1),(i64 a0_2),(i64 a0_3),(.slice pa0_4 (a0_4).length ca0_4),(.slice pa0_5 (a0_5).length ca0_5),(i64 a0_6),(i64 a0_7),(i64 a0_8),(i64 a0_9)],.bx b4 [(i64 a3_0),(i64 a3_1),(i64 a3_2)]] ∧ T.get 1 = some (.slice pa1 (a1).length ca1) ∧ T.get 2 = some (.slice pa2 (a2).length ca2) ∧ T.get 4 = some (.int .u16 a4) ∧ T.get 5 = some (.ptr (some (b1,0))) ∧ T.get 8 = some (.ptr (some (b4,0)))) ?_ (fun T ds33 h nx hp=>?_)
 ·have hK29:=hF
  have hF:=hA28;obtain ⟨y41,hA42,hF⟩:=zk hF;refine yq (fun T ds44 h nx=>∃ (F44:PH),ds44 = [] ∧ PH.le F0 F44 ∧ St n0 h0 F0 F44 h nx [.bx b1 [(i64 a0_0),(i64 a0_1),(i64 a0_2),(i64 a0_3),(.slice pa0_4 (a0_4).length ca0_4),(.slice pa0_5 (a0_5).length ca0_5),(i64 a0_6),(i64 a0_7),(i64 a0_8),(i64 a0_9)],.bx b4 [(i64 a3_0),(i64 a3_1),(i64 a3_2)]] ∧ T.get 1 = some (.slice pa1 (a1).length ca1) ∧ T.get 2 = some (.slice pa2 (a2).length ca2) ∧ T.get 4 = some (.int .u16 a4) ∧ T.get 5 = some (.ptr (some (b1,0))) ∧ T.get 8 = some (.ptr (some (b4,0))) ∧ T.get 35 = some (.bool y41)) ?_ (fun T ds44 h nx hp=>?_)
  ·have hK43:=hF
   have hF:=hA42;refine zh ?_;refine zG (vs:=[(i64 a0_0),(i64 a0_1),(i64 a0_2),(i64 a0_3),(.slice pa0_4 (a0_4).length ca0_4),(.slice pa0_5 (a0_5).length ca0_5),(i64 a0_6),(i64 a0_7),(i64 a0_8),(i64 a0_9)]) (st.at (i:=0) rfl).2.2 rfl ?_;obtain ⟨v45,e46,hF⟩:=zk hF;refine zF st (ct52 N e46 st.d st.sub ra0_4 ra0_5) (fun n47 st=>?_);refine yf ?_;refine za ?_
   rcases Bool.eq_false_or_eq_true (!v45) with hb48 | hb48
   ·have hF:=zu hb48 hF;refine ze hb48 ?_;refine ze hb48 ?_;refine ze hb48 ?_;refine ze hb48 ?_;refine zH hb48 ?_;refine zf ?_;obtain rfl:=inj hF;refine thn ⟨rfl,?_⟩;dsimp only
    exact ⟨F0,rfl,(PH.le.refl _),st,gA,gA,gA,gA,gA,gA⟩
   ·have hF:=zw hb48 hF;refine zi hb48 (zG (vs:=[(i64 a0_0),(i64 a0_1),(i64 a0_2),(i64 a0_3),(.slice pa0_4 (a0_4).length ca0_4),(.slice pa0_5 (a0_5).length ca0_5),(i64 a0_6),(i64 a0_7),(i64 a0_8),(i64 a0_9)]) (st.at (i:=0) rfl).2.2 rfl ?_);refine zi hb48 (zG (vs:=[(i64 a3_0),(i64 a3_1),(i64 a3_2)]) (st.at (i:=1) rfl).2.2 rfl ?_);obtain ⟨v49,e50,hF⟩:=zk hF;refine zi hb48 (zF st (ct57 N e50 st.d st.sub ra0_4 ra0_5) (fun n51 st=>?_));refine zi hb48 (yf ?_);refine zy hb48 ?_;refine zf ?_;obtain rfl:=inj hF;refine thn ⟨rfl,?_⟩;dsimp only
    exact ⟨F0,rfl,(PH.le.refl _),st,gA,gA,gA,gA,gA,gA⟩
  ·obtain ⟨F44,rfl,le44,st,t1,t2,t4,t5,t8,t35⟩:=hp;refine zB (fun hb52=>?_) (fun hb52=>?_)
   ·have hF:=zu hb52 hF;refine zg (zh ?_);refine zF st (ct_wakes (h:=_) (nx:=_)) (fun n53 st=>?_);refine za ?_;refine zf (th_n ?_);refine zt ?_;obtain rfl:=inj hF;have hF:=hK29;have hF:=yY hF;refine th_r ?_;obtain rfl:=inj hF
    exact zA st (Res.t gA Res.nil) rfl rfl
   ·have hF:=zw hb52 hF;refine zC ?_;obtain rfl:=inj hF;refine thn ⟨rfl,_,rfl,?_⟩;dsimp only
    exact ⟨F44,rfl,le44,st,gA,gA,gA,gA,gA⟩
 ·obtain ⟨w32,rfl,F33,rfl,le33,st,t1,t2,t4,t5,t8⟩:=hp;have hF:=yX hF;refine zg (zh ?_);refine zG (vs:=[(i64 a0_0),(i64 a0_1),(i64 a0_2),(i64 a0_3),(.slice pa0_4 (a0_4).length ca0_4),(.slice pa0_5 (a0_5).length ca0_5),(i64 a0_6),(i64 a0_7),(i64 a0_8),(i64 a0_9)]) (st.at (i:=0) rfl).2.2 rfl ?_;refine za ?_;refine za ?_;obtain ⟨v54,e55,hF⟩:=zk hF;refine yF st (ct53 N e55 st.d st.sub (Nat.le_trans hfl st.ext.le) (RowF.mono le33 ra0_4) (RowF.mono le33 ra0_5) (RowF.mono le33 ra1) (RowF.mono le33 ra2)) (fun u56 F56 h56 n56 le56 rv56 st=>?_)
  obtain ⟨_,_,rfl,⟨_,_,rfl,rfl,⟨_,_,rfl,rfl,⟨_,_,rfl,rfl,⟨_,_,rfl,rfl,⟨_,_,rfl,⟨py58,cy58,rfl,ry58⟩,⟨_,_,rfl,⟨py59,cy59,rfl,ry59⟩,⟨_,_,rfl,rfl,⟨_,_,rfl,rfl,⟨_,_,rfl,rfl,⟨rfl,⟨py60,cy60,rfl,ry60⟩⟩⟩⟩⟩⟩⟩⟩⟩⟩⟩⟩:=rv56;refine za ?_;refine v_xt rfl ?_;refine v_xt rfl ?_;refine zJ st (fun b61 h62 n63 st=>?_);refine v_st (cs':=[(i64 v54.1),(i64 v54.2.1),(i64 v54.2.2.1),(i64 v54.2.2.2.1),(.slice py58 (v54.2.2.2.2.1).length cy58),(.slice py59 (v54.2.2.2.2.2.1).length cy59),(i64 v54.2.2.2.2.2.2.1),(i64 v54.2.2.2.2.2.2.2.1),(i64 v54.2.2.2.2.2.2.2.2.1),(i64 v54.2.2.2.2.2.2.2.2.2.1)]) st 2 rfl rfl rfl rfl hfl (fun h64 st=>?_);refine za ?_
  refine zf (th_n ?_);refine zg (zh ?_);refine za ?_;obtain ⟨q65,hF⟩:=zm hF;refine uu q65 ?_;obtain ⟨q66,hF⟩:=zm hF;refine uH q66 ?_;refine za ?_;refine zf (th_n ?_);refine zg (zh ?_);refine zG (vs:=[(i64 v54.1),(i64 v54.2.1),(i64 v54.2.2.1),(i64 v54.2.2.2.1),(.slice py58 (v54.2.2.2.2.1).length cy58),(.slice py59 (v54.2.2.2.2.2.1).length cy59),(i64 v54.2.2.2.2.2.2.1),(i64 v54.2.2.2.2.2.2.2.1),(i64 v54.2.2.2.2.2.2.2.2.1),(i64 v54.2.2.2.2.2.2.2.2.2.1)]) (st.at (i:=2) rfl).2.2 rfl ?_;obtain ⟨v67,e68,hF⟩:=zk hF;refine yF st (ct21 N e68 st.d st.sub (Nat.le_trans hfl st.ext.le) ry58 ry59) (fun u69 F69 h69 n69 le69 rv69 st=>?_)
  obtain ⟨_,rfl,⟨_,_,rfl,rfl,⟨_,_,rfl,rfl,⟨_,_,rfl,rfl,⟨_,_,rfl,rfl,⟨_,_,rfl,⟨py72,cy72,rfl,ry72⟩,⟨_,_,rfl,⟨py73,cy73,rfl,ry73⟩,⟨_,_,rfl,rfl,⟨_,_,rfl,rfl,⟨_,_,rfl,rfl,rfl⟩⟩⟩⟩⟩⟩⟩⟩⟩⟩:=rv69;refine za ?_;obtain ⟨v74,e75,hF⟩:=zk hF;refine yF st (ct22 N e75 st.d st.sub (Nat.le_trans hfl st.ext.le) ry72 ry73) (fun u76 F76 h76 n76 le76 rv76 st=>?_)
  have le79:=PH.le.trans le69 le76
  obtain ⟨_,_,rfl,⟨py80,cy80,rfl,ry80⟩,rfl⟩:=rv76;refine za ?_;refine v_xt rfl ?_;refine v_xt rfl ?_;refine za ?_;refine za ?_;refine zf (th_n ?_);refine zg (zh ?_);refine zG (vs:=[(i64 v54.1),(i64 v54.2.1),(i64 v54.2.2.1),(i64 v54.2.2.2.1),(.slice py58 (v54.2.2.2.2.1).length cy58),(.slice py59 (v54.2.2.2.2.2.1).length cy59),(i64 v54.2.2.2.2.2.2.1),(i64 v54.2.2.2.2.2.2.2.1),(i64 v54.2.2.2.2.2.2.2.2.1),(i64 v54.2.2.2.2.2.2.2.2.2.1)]) (st.at (i:=2) rfl).2.2 rfl ?_;obtain ⟨v81,e82,hF⟩:=zk hF;refine yF st (ct21 N e82 st.d st.sub (Nat.le_trans hfl st.ext.le) (RowF.mono le79 ry58) (RowF.mono le79 ry59)) (fun u83 F83 h83 n83 le83 rv83 st=>?_)
  have le86:=PH.le.trans le79 le83
  obtain ⟨_,rfl,⟨_,_,rfl,rfl,⟨_,_,rfl,rfl,⟨_,_,rfl,rfl,⟨_,_,rfl,rfl,⟨_,_,rfl,⟨py88,cy88,rfl,ry88⟩,⟨_,_,rfl,⟨py89,cy89,rfl,ry89⟩,⟨_,_,rfl,rfl,⟨_,_,rfl,rfl,⟨_,_,rfl,rfl,rfl⟩⟩⟩⟩⟩⟩⟩⟩⟩⟩:=rv83;refine za ?_;obtain ⟨q90,hF⟩:=zm hF;refine zR q90 ?_;obtain ⟨v91,e92,hF⟩:=zk hF;refine yF st (ct22 N e92 st.d st.sub (Nat.le_trans hfl st.ext.le) ry88 ry89) (fun u93 F93 h93 n93 le93 rv93 st=>?_)
  have le96:=PH.le.trans le86 le93
  have le98:=PH.le.trans le83 le93
  obtain ⟨_,_,rfl,⟨py99,cy99,rfl,ry99⟩,rfl⟩:=rv93;refine za ?_;refine v_xt rfl ?_;refine v_xt rfl ?_;refine za ?_;refine za ?_;refine zf (th_n ?_);obtain ⟨y119,hA120,hF⟩:=zk hF;refine yq (fun T ds125 h nx=>∃ u,y119 = (.inr u) ∧ ∃ (F125:PH),ds125 = [] ∧ PH.le F93 F125 ∧ St n0 h0 F0 F125 h nx [.bx b1 [(i64 a0_0),(i64 a0_1),(i64 a0_2),(i64 a0_3),(.slice pa0_4 (a0_4).length ca0_4),(.slice pa0_5 (a0_5).length ca0_5),(i64 a0_6),(i64 a0_7),(i64 a0_8),(i64 a0_9)],.bx b4 [(i64 a3_0),(i64 a3_1),(i64 a3_2)],.bx b61 [(i64 v54.1),(i64 v54.2.1),(i64 v54.2.2.1),(i64 v54.2.2.2.1),(.slice py58 (v54.2.2.2.2.1).length cy58),(.slice py59 (v54.2.2.2.2.2.1).length cy59),(i64 v54.2.2.2.2.2.2.1),(i64 v54.2.2.2.2.2.2.2.1),(i64 v54.2.2.2.2.2.2.2.2.1),(i64 v54.2.2.2.2.2.2.2.2.2.1)]] ∧ T.get 8 = some (.ptr (some (b4,0))) ∧ T.get 11 = some (.ptr (some (b61,0))) ∧ T.get 13 = some (i64 (Int.tmod a4 (10000:Int))) ∧ T.get 14 = some (.slice py80 (v74.1).length cy80) ∧ T.get 16 = some (.slice py99 (v91.1).length cy99)) ?_ (fun T ds125 h nx hp=>?_)
  ·have hK121:=hF
   have hF:=hA120;obtain ⟨y130,hA131,hF⟩:=zk hF;refine yq (fun T ds133 h nx=>∃ (F133:PH),ds133 = [] ∧ PH.le F93 F133 ∧ St n0 h0 F0 F133 h nx [.bx b1 [(i64 a0_0),(i64 a0_1),(i64 a0_2),(i64 a0_3),(.slice pa0_4 (a0_4).length ca0_4),(.slice pa0_5 (a0_5).length ca0_5),(i64 a0_6),(i64 a0_7),(i64 a0_8),(i64 a0_9)],.bx b4 [(i64 a3_0),(i64 a3_1),(i64 a3_2)],.bx b61 [(i64 v54.1),(i64 v54.2.1),(i64 v54.2.2.1),(i64 v54.2.2.2.1),(.slice py58 (v54.2.2.2.2.1).length cy58),(.slice py59 (v54.2.2.2.2.2.1).length cy59),(i64 v54.2.2.2.2.2.2.1),(i64 v54.2.2.2.2.2.2.2.1),(i64 v54.2.2.2.2.2.2.2.2.1),(i64 v54.2.2.2.2.2.2.2.2.2.1)]] ∧ T.get 8 = some (.ptr (some (b4,0))) ∧ T.get 11 = some (.ptr (some (b61,0))) ∧ T.get 13 = some (i64 (Int.tmod a4 (10000:Int))) ∧ T.get 14 = some (.slice py80 (v74.1).length cy80) ∧ T.get 16 = some (.slice py99 (v91.1).length cy99) ∧ T.get 83 = some (.bool y130)) ?_ (fun T ds133 h nx hp=>?_)
   ·have hK132:=hF
    have hF:=hA131;refine zh ?_;refine za ?_;refine yV ?_;refine za ?_
    rcases Bool.eq_false_or_eq_true (!(decide (v74.2 = (0:Int)))) with hb134 | hb134
    ·have hF:=zu hb134 hF;refine ze hb134 ?_;refine ze hb134 ?_;refine zH hb134 ?_;refine za ?_;refine ze rfl ?_;refine ze rfl ?_;refine ze rfl ?_;refine ze rfl ?_;refine ze rfl ?_;refine zH rfl ?_;refine za ?_;refine ze rfl ?_;refine ze rfl ?_;refine ze rfl ?_;refine ze rfl ?_;refine ze rfl ?_;refine ze rfl ?_;refine ze rfl ?_;refine zH rfl ?_;refine zf ?_;obtain rfl:=inj hF;refine thn ⟨rfl,?_⟩;dsimp only
     exact ⟨F93,rfl,(PH.le.refl _),st,gA,gA,gA,gA,gA,gA⟩
    ·have hF:=zw hb134 hF;refine zi hb134 (za ?_);refine zi hb134 (yV ?_);refine zy hb134 ?_;refine za ?_
     rcases Bool.eq_false_or_eq_true (!(decide (v91.2 = (0:Int)))) with hb135 | hb135
     ·have hF:=zu hb135 hF;refine ze hb135 ?_;refine ze hb135 ?_;refine ze hb135 ?_;refine ze hb135 ?_;refine ze hb135 ?_;refine zH hb135 ?_;refine za ?_;refine ze rfl ?_;refine ze rfl ?_;refine ze rfl ?_;refine ze rfl ?_;refine ze rfl ?_;refine ze rfl ?_;refine ze rfl ?_;refine zH rfl ?_;refine zf ?_;obtain rfl:=inj hF;refine thn ⟨rfl,?_⟩;dsimp only
      exact ⟨F93,rfl,(PH.le.refl _),st,gA,gA,gA,gA,gA,gA⟩
     ·have hF:=zw hb135 hF;refine zi hb135 (za ?_);refine zi hb135 (yw ?_);refine zi hb135 (za ?_);refine zi hb135 (yw ?_);refine zi hb135 (yV ?_);refine zy hb135 ?_;refine za ?_
      rcases Bool.eq_false_or_eq_true (!(decide (((v74.1).length:Int) = ((v91.1).length:Int)))) with hb136 | hb136
      ·have hF:=zu hb136 hF;refine ze hb136 ?_;refine ze hb136 ?_;refine ze hb136 ?_;refine ze hb136 ?_;refine ze hb136 ?_;refine ze hb136 ?_;refine ze hb136 ?_;refine zH hb136 ?_;refine zf ?_;obtain rfl:=inj hF;refine thn ⟨rfl,?_⟩;dsimp only
       exact ⟨F93,rfl,(PH.le.refl _),st,gA,gA,gA,gA,gA,gA⟩
      ·have hF:=zw hb136 hF;refine zi hb136 (za ?_);refine zi hb136 (yw ?_);refine zi hb136 (v_fa ?_);refine zi hb136 (v_fa ?_);refine zi hb136 (zq (st.at (i:=2) rfl).2.2 rfl ?_);obtain ⟨q137,hF⟩:=zm hF;refine zi hb136 (zR q137 ?_);refine zi hb136 (yV ?_);refine zy hb136 ?_;refine zf ?_;obtain rfl:=inj hF;refine thn ⟨rfl,?_⟩;dsimp only
       exact ⟨F93,rfl,(PH.le.refl _),st,gA,gA,gA,gA,gA,gA⟩
   ·obtain ⟨F133,rfl,le133,st,t8,t11,t13,t14,t16,t83⟩:=hp
    refine zB (fun hb144=>?_) (fun hb144=>?_)
    ·have hF:=zu hb144 hF;refine zg (zh ?_);refine za ?_;refine zf (th_n ?_);refine zt ?_;obtain rfl:=inj hF;have hF:=hK121;have hF:=yY hF;refine th_r ?_;obtain rfl:=inj hF
     exact zA st (Res.t gA Res.nil) rfl rfl
    ·have hF:=zw hb144 hF;refine zC ?_;obtain rfl:=inj hF;refine thn ⟨rfl,_,rfl,?_⟩;dsimp only
     exact ⟨F133,rfl,le133,st,gA,gA,gA,gA,gA⟩
  ·obtain ⟨w124,rfl,F125,rfl,le125,st,t8,t11,t13,t14,t16⟩:=hp;have hF:=yX hF
   have le153:=PH.le.trans le96 le125
   have le155:=PH.le.trans le98 le125
   refine zg ?_;refine zg (zh ?_);refine za ?_;refine zf (th_n ?_);refine zE ?_;obtain ⟨y203,hy,hF⟩:=zk hF;refine zV (sf11_L1 v74 v91) (fun x157 T ds158 h nx=>∃ (F158:PH),ds158 = [] ∧ PH.le F125 F158 ∧ St n0 h0 F0 F158 h nx [.bx b1 [(i64 a0_0),(i64 a0_1),(i64 a0_2),(i64 a0_3),(.slice pa0_4 (a0_4).length ca0_4),(.slice pa0_5 (a0_5).length ca0_5),(i64 a0_6),(i64 a0_7),(i64 a0_8),(i64 a0_9)],.bx b4 [(i64 a3_0),(i64 a3_1),(i64 a3_2)],.bx b61 [(i64 v54.1),(i64 v54.2.1),(i64 v54.2.2.1),(i64 v54.2.2.2.1),(.slice py58 (v54.2.2.2.2.1).length cy58),(.slice py59 (v54.2.2.2.2.2.1).length cy59),(i64 v54.2.2.2.2.2.2.1),(i64 v54.2.2.2.2.2.2.2.1),(i64 v54.2.2.2.2.2.2.2.2.1),(i64 v54.2.2.2.2.2.2.2.2.2.1)]] ∧ T.get 8 = some (.ptr (some (b4,0))) ∧ T.get 11 = some (.ptr (some (b61,0))) ∧ T.get 13 = some (i64 (Int.tmod a4 (10000:Int))) ∧ T.get 14 = some (.slice py80 (v74.1).length cy80) ∧ T.get 16 = some (.slice py99 (v91.1).length cy99) ∧ T.get 18 = some (i64 x157)) (fun y e a σ=>(∃ u,y = (.inl u) ∧ e = .ret ∧ a.nt = 231 ∧ ∃ (F205:PH),a.defers = [] ∧ PH.le F125 F205 ∧ St n0 h0 F0 F205 σ.h σ.nx [.bx b1 [(i64 a0_0),(i64 a0_1),(i64 a0_2),(i64 a0_3),(.slice pa0_4 (a0_4).length ca0_4),(.slice pa0_5 (a0_5).length ca0_5),(i64 a0_6),(i64 a0_7),(i64 a0_8),(i64 a0_9)],.bx b4 [(i64 a3_0),(i64 a3_1),(i64 a3_2)],.bx b61 [(i64 v54.1),(i64 v54.2.1),(i64 v54.2.2.1),(i64 v54.2.2.2.1),(.slice py58 (v54.2.2.2.2.1).length cy58),(.slice py59 (v54.2.2.2.2.2.1).length cy59),(i64 v54.2.2.2.2.2.2.1),(i64 v54.2.2.2.2.2.2.2.1),(i64 v54.2.2.2.2.2.2.2.2.1),(i64 v54.2.2.2.2.2.2.2.2.2.1)]] ∧ a.tmps.get 10 = some (.bool false)) ∨ (∃ u,y = (.inr u) ∧ e = .exit 0 ∧ a.nt = 231 ∧ ∃ (F207:PH),a.defers = [] ∧ PH.le F125 F207 ∧ St n0 h0 F0 F207 σ.h σ.nx [.bx b1 [(i64 a0_0),(i64 a0_1),(i64 a0_2),(i64 a0_3),(.slice pa0_4 (a0_4).length ca0_4),(.slice pa0_5 (a0_5).length ca0_5),(i64 a0_6),(i64 a0_7),(i64 a0_8),(i64 a0_9)],.bx b4 [(i64 a3_0),(i64 a3_1),(i64 a3_2)],.bx b61 [(i64 v54.1),(i64 v54.2.1),(i64 v54.2.2.1),(i64 v54.2.2.2.1),(.slice py58 (v54.2.2.2.2.1).length cy58),(.slice py59 (v54.2.2.2.2.2.1).length cy59),(i64 v54.2.2.2.2.2.2.1),(i64 v54.2.2.2.2.2.2.2.1),(i64 v54.2.2.2.2.2.2.2.2.1),(i64 v54.2.2.2.2.2.2.2.2.2.1)]] ∧ a.tmps.get 8 = some (.ptr (some (b4,0))) ∧ a.tmps.get 11 = some (.ptr (some (b61,0))) ∧ a.tmps.get 13 = some (i64 (Int.tmod a4 (10000:Int))))) (fun x157 T ds158 h nx s hp hF=>?_) N _ y203 _ _ _ _ hy ⟨F125,rfl,(PH.le.refl _),st,gA,gA,gA,gA,gA,gA⟩ (fun e a σ hne hq=>?_)
   ·obtain ⟨F158,rfl,le158,st,t8,t11,t13,t14,t16,t18⟩:=hp
    have le163:=PH.le.trans le155 le158
    have le165:=PH.le.trans le125 le158
    unfold sf11_L1 at hF;unfold L11w1;refine zg ?_;refine zg (zh ?_);refine za ?_;refine za ?_;refine yw ?_;refine yg ?_;refine zf (th_n ?_);refine zB (fun hb208=>?_) (fun hb208=>?_)
    ·have hF:=zu hb208 hF;refine zC (th_n ?_);refine zg ?_;refine zE ?_;obtain ⟨y220,hA221,hF⟩:=zk hF;refine yq (fun T ds223 h nx=>∃ (F223:PH),ds223 = [] ∧ PH.le F158 F223 ∧ St n0 h0 F0 F223 h nx [.bx b1 [(i64 a0_0),(i64 a0_1),(i64 a0_2),(i64 a0_3),(.slice pa0_4 (a0_4).length ca0_4),(.slice pa0_5 (a0_5).length ca0_5),(i64 a0_6),(i64 a0_7),(i64 a0_8),(i64 a0_9)],.bx b4 [(i64 a3_0),(i64 a3_1),(i64 a3_2)],.bx b61 [(i64 v54.1),(i64 v54.2.1),(i64 v54.2.2.1),(i64 v54.2.2.2.1),(.slice py58 (v54.2.2.2.2.1).length cy58),(.slice py59 (v54.2.2.2.2.2.1).length cy59),(i64 v54.2.2.2.2.2.2.1),(i64 v54.2.2.2.2.2.2.2.1),(i64 v54.2.2.2.2.2.2.2.2.1),(i64 v54.2.2.2.2.2.2.2.2.2.1)]] ∧ T.get 8 = some (.ptr (some (b4,0))) ∧ T.get 11 = some (.ptr (some (b61,0))) ∧ T.get 13 = some (i64 (Int.tmod a4 (10000:Int))) ∧ T.get 14 = some (.slice py80 (v74.1).length cy80) ∧ T.get 16 = some (.slice py99 (v91.1).length cy99) ∧ T.get 18 = some (i64 x157) ∧ T.get 126 = some (.bool y220)) ?_ (fun T ds223 h nx hp=>?_)
     ·have hK222:=hF
      have hF:=hA221;refine z9 (Nat.le_trans hfl st.ext.le) (fun dw=>?_);refine zd st.d dw (fun hm vw=>za zb) ?_;refine zd st.d dw (fun hm vw=>za zb) ?_;obtain ⟨n224,x224,z224,l224,g224,hF⟩:=zW hF;obtain ⟨b224,o224,s224,j224,r224,e224,f224,k224,⟨_,_,rfl,rfl,rfl⟩⟩:=RowF.get ry99 g224;refine zd st.d dw (fun hm vw=>ym e224 z224 l224 zb) ?_;refine zd st.d dw (fun hm vw=>v_fa zb) ?_;refine zd st.d dw (fun hm vw=>zq (vw.fz st (le165 _ _ f224)) (yj (j:=0) k224 rfl) zb) ?_;refine zd st.d dw (fun hm vw=>za zb) ?_;refine zd st.d dw (fun hm vw=>za zb) ?_;obtain ⟨n225,x225,z225,l225,g225,hF⟩:=zW hF
      obtain ⟨b225,o225,s225,j225,r225,e225,f225,k225,⟨_,_,rfl,rfl,rfl⟩⟩:=RowF.get ry80 g225;refine zd st.d dw (fun hm vw=>ym e225 z225 l225 zb) ?_;refine zd st.d dw (fun hm vw=>v_fa zb) ?_;refine zd st.d dw (fun hm vw=>zq (vw.fz st (le163 _ _ f225)) (yj (j:=0) k225 rfl) zb) ?_;refine zd st.d dw (fun hm vw=>vb zb) ?_;refine zd st.d dw (fun hm vw=>za zb) ?_
      rcases Bool.eq_false_or_eq_true (decide (x225.1 < x224.1)) with hb226 | hb226
      ·have hF:=zu hb226 hF;refine zd st.d dw (fun hm vw=>ze hb226 zb) ?_;refine zd st.d dw (fun hm vw=>ze hb226 zb) ?_;refine zd st.d dw (fun hm vw=>ze hb226 zb) ?_;refine zd st.d dw (fun hm vw=>ze hb226 zb) ?_;refine zd st.d dw (fun hm vw=>ze hb226 zb) ?_;refine zd st.d dw (fun hm vw=>ze hb226 zb) ?_;refine zd st.d dw (fun hm vw=>ze hb226 zb) ?_;refine zd st.d dw (fun hm vw=>ze hb226 zb) ?_;refine zd st.d dw (fun hm vw=>ze hb226 zb) ?_;refine zd st.d dw (fun hm vw=>ze hb226 zb) ?_;refine zd st.d dw (fun hm vw=>ze hb226 zb) ?_
       refine zd st.d dw (fun hm vw=>zH hb226 zb) ?_;refine zd st.d dw (fun hm vw=>za zb) ?_;refine zd st.d dw (fun hm vw=>ze rfl zb) ?_;refine zd st.d dw (fun hm vw=>ze rfl zb) ?_;refine zd st.d dw (fun hm vw=>ze rfl zb) ?_;refine zd st.d dw (fun hm vw=>ze rfl zb) ?_;refine zd st.d dw (fun hm vw=>ze rfl zb) ?_;refine zd st.d dw (fun hm vw=>ze rfl zb) ?_;refine zd st.d dw (fun hm vw=>ze rfl zb) ?_;refine zd st.d dw (fun hm vw=>ze rfl zb) ?_;refine zd st.d dw (fun hm vw=>ze rfl zb) ?_;refine zd st.d dw (fun hm vw=>ze rfl zb) ?_
       refine ye st.d dw rfl (fun h227 ex vs=>?_)
       have st:=st.ext1 ex
       refine ze rfl ?_;refine zH rfl ?_;refine zf ?_;obtain rfl:=inj hF;refine thn ⟨rfl,?_⟩;dsimp only
       exact ⟨F158,rfl,(PH.le.refl _),st,gA,gA,gA,gA,gA,gA,gA⟩
      ·have hF:=zw hb226 hF;refine zd st.d dw (fun hm vw=>zi hb226 (za zb)) ?_;refine zd st.d dw (fun hm vw=>zi hb226 (za zb)) ?_;obtain ⟨n228,x228,z228,l228,g228,hF⟩:=zW hF;obtain ⟨b228,o228,s228,j228,r228,e228,f228,k228,⟨_,_,rfl,rfl,rfl⟩⟩:=RowF.get ry99 g228;refine zd st.d dw (fun hm vw=>zi hb226 (ym e228 z228 l228 zb)) ?_;refine zd st.d dw (fun hm vw=>zi hb226 (v_fa zb)) ?_;refine zd st.d dw (fun hm vw=>zi hb226 (zq (vw.fz st (le165 _ _ f228)) (yj (j:=1) k228 rfl) zb)) ?_;refine zd st.d dw (fun hm vw=>zi hb226 (za zb)) ?_;refine zd st.d dw (fun hm vw=>zi hb226 (za zb)) ?_
       obtain ⟨n229,x229,z229,l229,g229,hF⟩:=zW hF;obtain ⟨b229,o229,s229,j229,r229,e229,f229,k229,⟨_,_,rfl,rfl,rfl⟩⟩:=RowF.get ry80 g229;refine zd st.d dw (fun hm vw=>zi hb226 (ym e229 z229 l229 zb)) ?_;refine zd st.d dw (fun hm vw=>zi hb226 (v_fa zb)) ?_;refine zd st.d dw (fun hm vw=>zi hb226 (zq (vw.fz st (le163 _ _ f229)) (yj (j:=1) k229 rfl) zb)) ?_;refine zd st.d dw (fun hm vw=>zi hb226 (vb zb)) ?_;refine zd st.d dw (fun hm vw=>zy hb226 zb) ?_;refine zd st.d dw (fun hm vw=>za zb) ?_
       rcases Bool.eq_false_or_eq_true (decide (x229.2 < x228.2)) with hb230 | hb230
       ·have hF:=zu hb230 hF;refine zd st.d dw (fun hm vw=>ze hb230 zb) ?_;refine zd st.d dw (fun hm vw=>ze hb230 zb) ?_;refine zd st.d dw (fun hm vw=>ze hb230 zb) ?_;refine zd st.d dw (fun hm vw=>ze hb230 zb) ?_;refine zd st.d dw (fun hm vw=>ze hb230 zb) ?_;refine zd st.d dw (fun hm vw=>ze hb230 zb) ?_;refine zd st.d dw (fun hm vw=>ze hb230 zb) ?_;refine zd st.d dw (fun hm vw=>ze hb230 zb) ?_;refine zd st.d dw (fun hm vw=>ze hb230 zb) ?_;refine zd st.d dw (fun hm vw=>ze hb230 zb) ?_;refine ye st.d dw rfl (fun h231 ex vs=>?_)
        have st:=st.ext1 ex
        refine ze hb230 ?_;refine zH hb230 ?_;refine zf ?_;obtain rfl:=inj hF;refine thn ⟨rfl,?_⟩;dsimp only
        exact ⟨F158,rfl,(PH.le.refl _),st,gA,gA,gA,gA,gA,gA,gA⟩
       ·have hF:=zw hb230 hF;refine zd st.d dw (fun hm vw=>zi hb230 (za zb)) ?_;refine zd st.d dw (fun hm vw=>zi hb230 (za zb)) ?_;obtain ⟨n232,x232,z232,l232,g232,hF⟩:=zW hF;obtain ⟨b232,o232,s232,j232,r232,e232,f232,k232,⟨_,_,rfl,rfl,rfl⟩⟩:=RowF.get ry80 g232;refine zd st.d dw (fun hm vw=>zi hb230 (ym e232 z232 l232 zb)) ?_;refine zd st.d dw (fun hm vw=>zi hb230 (v_fa zb)) ?_;refine zd st.d dw (fun hm vw=>zi hb230 (zq (vw.fz st (le163 _ _ f232)) (yj (j:=0) k232 rfl) zb)) ?_;refine zd st.d dw (fun hm vw=>zi hb230 (za zb)) ?_;refine zd st.d dw (fun hm vw=>zi hb230 (za zb)) ?_
        obtain ⟨n233,x233,z233,l233,g233,hF⟩:=zW hF;obtain ⟨b233,o233,s233,j233,r233,e233,f233,k233,⟨_,_,rfl,rfl,rfl⟩⟩:=RowF.get ry80 g233;refine zd st.d dw (fun hm vw=>zi hb230 (ym e233 z233 l233 zb)) ?_;refine zd st.d dw (fun hm vw=>zi hb230 (v_fa zb)) ?_;refine zd st.d dw (fun hm vw=>zi hb230 (zq (vw.fz st (le163 _ _ f233)) (yj (j:=1) k233 rfl) zb)) ?_;refine ye st.d dw rfl (fun h234 ex vs=>?_)
        have st:=st.ext1 ex
        refine zi hb230 (vb ?_);refine zy hb230 ?_;refine zf ?_;obtain rfl:=inj hF;refine thn ⟨rfl,?_⟩;dsimp only
        exact ⟨F158,rfl,(PH.le.refl _),st,gA,gA,gA,gA,gA,gA,gA⟩
     ·obtain ⟨F223,rfl,le223,st,t8,t11,t13,t14,t16,t18,t126⟩:=hp
      have le242:=PH.le.trans le158 le223
      refine zB (fun hb243=>?_) (fun hb243=>?_)
      ·have hF:=zu hb243 hF;refine zg (zh ?_);refine za ?_;refine zf (th_n ?_);refine zt ?_;refine ib_r ?_;refine th_r ?_;refine th_r ?_;refine ⟨_,(inj hF).symm,.inl ⟨_,rfl,rfl,rfl,?_⟩⟩;dsimp only
       exact ⟨F223,rfl,le242,st,gA⟩
      ·have hF:=zw hb243 hF;refine zC ?_;refine ib_n ?_;refine th_n ?_;refine zh ?_;refine za ?_;obtain ⟨q244,hF⟩:=zm hF;refine zR q244 ?_;refine za ?_;refine zf ?_;refine thn ⟨_,(inj hF).symm,rfl,?_⟩;dsimp only
       exact ⟨F223,rfl,le242,st,gA,gA,gA,gA,gA,gA⟩
    ·have hF:=zw hb208 hF;refine z8 ?_;refine th_e ?_;refine th_e ?_;refine ⟨_,(inj hF).symm,.inr (⟨_,rfl,rfl,rfl,?_⟩)⟩;dsimp only
     exact ⟨F158,rfl,le158,st,gA,gA,gA⟩
   ·rcases hq with hq | hq
    ·obtain ⟨N9,T,ds205⟩:=a;obtain ⟨h252,n253⟩:=σ;obtain ⟨w204,rfl,rfl,e1,F205,e2,le205,st,t10⟩:=hq
     dsimp only at e1 e2
     subst e1
     subst e2
     dsimp only at st t10
     have hF:=yY hF;refine ib_r ?_;refine th_r ?_;obtain rfl:=inj hF
     exact zA st (Res.t gA Res.nil) rfl rfl
    ·obtain ⟨N9,T,ds207⟩:=a;obtain ⟨h261,n262⟩:=σ;obtain ⟨w206,rfl,rfl,e1,F207,e2,le207,st,t8,t11,t13⟩:=hq
     dsimp only at e1 e2
     subst e1
     subst e2
     dsimp only at st t8 t11 t13
     have le256:=PH.le.trans le153 le207
     have hF:=yX hF;refine ib_e ?_;refine th_n ?_;refine zg ?_;refine z9 (Nat.le_trans hfl st.ext.le) (fun dw=>?_)
     have wf:=Wf.start st
     refine zd st.d dw (fun hm vw=>zG (vs:=[(i64 v54.1),(i64 v54.2.1),(i64 v54.2.2.1),(i64 v54.2.2.2.1),(.slice py58 (v54.2.2.2.2.1).length cy58),(.slice py59 (v54.2.2.2.2.2.1).length cy59),(i64 v54.2.2.2.2.2.2.1),(i64 v54.2.2.2.2.2.2.2.1),(i64 v54.2.2.2.2.2.2.2.2.1),(i64 v54.2.2.2.2.2.2.2.2.2.1)]) (vw.bx (st.at (i:=2) rfl)) rfl zb) ?_;obtain ⟨v263,e264,hF⟩:=zk hF
     refine vV st dw wf (fun hm vw=>vB (ct21 N e264 vw.d (FF.sub wf st vw) (Nat.max_le.2 ⟨by have:=dw.le;have:=st.ext.le;omega,Nat.le_refl _⟩) (RowF.mono (PH.le.trans le256 FF.base) ry58) (RowF.mono (PH.le.trans le256 FF.base) ry59)) (fun v F' h' n' ex l1 l2 l3 l4=>zf ⟨_,_,rfl,ex,l1,l2,l3,l4⟩)) (fun u265 F265 n265 done hn' dw265 wf265 rv265 le265=>?_)
     have wf:=wf265
     have dw:=dw265
     obtain ⟨_,rfl,⟨_,_,rfl,rfl,⟨_,_,rfl,rfl,⟨_,_,rfl,rfl,⟨_,_,rfl,rfl,⟨_,_,rfl,⟨py266,cy266,rfl,ry266⟩,⟨_,_,rfl,⟨py267,cy267,rfl,ry267⟩,⟨_,_,rfl,rfl,⟨_,_,rfl,rfl,⟨_,_,rfl,rfl,rfl⟩⟩⟩⟩⟩⟩⟩⟩⟩⟩:=rv265;refine zd st.d dw (fun hm vw=>zG (vs:=[(i64 a3_0),(i64 a3_1),(i64 a3_2)]) (vw.bx (st.at (i:=1) rfl)) rfl zb) ?_;obtain ⟨v268,e269,hF⟩:=zk hF;refine yr st.d dw (fun hm vw=>yx (ct35 N e269 vw.d (FF.sub wf st vw) ) (fun n' hn'=>yt hn')) (fun n270 hn' dw=>?_);obtain ⟨v271,e272,hF⟩:=zk hF;refine yr st.d dw (fun hm vw=>yx (ct36 N e272 vw.d (FF.sub wf st vw) (RowF.mono (le265 _ rfl (YS rfl)) ry266) (RowF.mono (le265 _ rfl (YS rfl)) ry267)) (fun n' hn'=>yt hn')) (fun n273 hn' dw=>?_)
     refine zd st.d dw (fun hm vw=>za zb) ?_;refine zd st.d dw (fun hm vw=>v_xt rfl zb) ?_;refine zd st.d dw (fun hm vw=>v_xt rfl zb) ?_;refine y_lay st.d dw (fun hm vw=>u_alloc zb) (fun done dw=>?_)
     have wf:=Wf.lay wf (e:=(8,one n273 (.cells [(i64 0),(i64 0)] .exact)))
     refine ye st.d dw rfl (fun h274 ex vs=>?_)
     obtain ⟨F275,lt275,st⟩:=St.laidF st dw wf ex vs (Lay.cons (b:=n273) (cs:=[(i64 0),(i64 0)]) (by have:=dw.le;omega) (vs _ (List.mem_cons_self ..) _ _ (if_pos rfl)) (Lay.nil (by have:=dw.le;omega))) (by intro e he w hw;simp only [List.mem_cons,List.not_mem_nil,or_false] at he hw;rcases he with rfl <;> rcases hw with rfl <;> exact Dw.not dw (by first | exact .inl (by first | exact List.Sublist.refl _ | (repeat first | exact List.nil_sublist _ | refine List.Sublist.cons_cons _ ?_ | refine List.Sublist.cons _ ?_)) | exact .inr (by first | exact List.Sublist.refl _ | (repeat first | exact List.nil_sublist _ | refine List.Sublist.cons_cons _ ?_ | refine List.Sublist.cons _ ?_))))
     have lb275:=lt275 _ FF.base
     have le279:=PH.le.trans le256 lb275
     refine v_st (cs':=[(i64 v271.1),(i64 v271.2.1)]) st 3 rfl rfl rfl rfl hfl (fun h285 st=>?_);refine za ?_;refine zf (th_n ?_);refine zg ?_;refine zg (zh ?_);refine za ?_;refine yV ?_;refine zf (th_n ?_);refine zB (fun hb286=>?_) (fun hb286=>?_)
     ·have hF:=zu hb286 hF;refine zg ?_;refine z9 (Nat.le_trans hfl st.ext.le) (fun dw=>?_)
      have wf:=Wf.start st
      refine zd st.d dw (fun hm vw=>zG (vs:=[(i64 v54.1),(i64 v54.2.1),(i64 v54.2.2.1),(i64 v54.2.2.2.1),(.slice py58 (v54.2.2.2.2.1).length cy58),(.slice py59 (v54.2.2.2.2.2.1).length cy59),(i64 v54.2.2.2.2.2.2.1),(i64 v54.2.2.2.2.2.2.2.1),(i64 v54.2.2.2.2.2.2.2.2.1),(i64 v54.2.2.2.2.2.2.2.2.2.1)]) (vw.bx (st.at (i:=2) rfl)) rfl zb) ?_;obtain ⟨v287,e288,hF⟩:=zk hF
      refine vV st dw wf (fun hm vw=>vB (ct21 N e288 vw.d (FF.sub wf st vw) (Nat.max_le.2 ⟨by have:=dw.le;have:=st.ext.le;omega,Nat.le_refl _⟩) (RowF.mono (PH.le.trans le279 FF.base) ry58) (RowF.mono (PH.le.trans le279 FF.base) ry59)) (fun v F' h' n' ex l1 l2 l3 l4=>zf ⟨_,_,rfl,ex,l1,l2,l3,l4⟩)) (fun u289 F289 n289 done hn' dw289 wf289 rv289 le289=>?_)
      have wf:=wf289
      have dw:=dw289
      obtain ⟨_,rfl,⟨_,_,rfl,rfl,⟨_,_,rfl,rfl,⟨_,_,rfl,rfl,⟨_,_,rfl,rfl,⟨_,_,rfl,⟨py290,cy290,rfl,ry290⟩,⟨_,_,rfl,⟨py291,cy291,rfl,ry291⟩,⟨_,_,rfl,rfl,⟨_,_,rfl,rfl,⟨_,_,rfl,rfl,rfl⟩⟩⟩⟩⟩⟩⟩⟩⟩⟩:=rv289;refine zd st.d dw (fun hm vw=>zG (vs:=[(i64 a3_0),(i64 a3_1),(i64 a3_2)]) (vw.bx (st.at (i:=1) rfl)) rfl zb) ?_;refine ye st.d dw rfl (fun h292 ex vs=>?_)
      obtain ⟨F293,lt293,st⟩:=St.laidF st dw wf ex vs (Lay.nil (by have:=dw.le;omega)) (fun e he=>by cases he)
      have lz294:=lt293 _ (le289 (fun _=>true) rfl (fun _ _=>rfl))
      obtain ⟨v305,e306,hF⟩:=zk hF;refine zF st (ct35 N e306 st.d st.sub ) (fun n307 st=>?_);refine za ?_;obtain ⟨v308,e309,hF⟩:=zk hF;refine zF st (ct34 N e309 st.d st.sub (RowF.mono lz294 ry290) (RowF.mono lz294 ry291)) (fun n310 st=>?_);refine za ?_;refine v_xt rfl ?_;refine v_xt rfl ?_;refine za ?_;refine za ?_;refine zf (th_n ?_);refine zg (zh ?_);refine za ?_;refine Xh ?_;refine za ?_
      rcases Bool.eq_false_or_eq_true (decide (v271.2.2 = (11:Int))) with hb311 | hb311
      ·have hF:=zu hb311 hF;refine zi hb311 (za ?_);refine zi hb311 (Xh ?_);refine zH hb311 ?_;refine za ?_
       rcases Bool.eq_false_or_eq_true (decide (v308.2 = (0:Int))) with hb312 | hb312
       ·have hF:=zu hb312 hF;refine zi hb312 (za ?_);refine zi hb312 (yf ?_);refine zH hb312 ?_;refine za ?_
        rcases Bool.eq_false_or_eq_true (!v308.1) with hb313 | hb313
        ·have hF:=zu hb313 hF;refine zi hb313 (zF st (ct_wakes (h:=_) (nx:=_)) (fun n314 st=>?_));refine zH hb313 ?_;refine za ?_;refine zf (th_n ?_);refine zt ?_;refine th_r ?_;obtain rfl:=inj hF
         exact zA st (Res.t gA Res.nil) rfl rfl
        ·have hF:=zw hb313 hF;refine ze hb313 ?_;refine zy hb313 ?_;refine za ?_;refine zf (th_n ?_);refine zt ?_;refine th_r ?_;obtain rfl:=inj hF
         exact zA st (Res.t gA Res.nil) rfl rfl
       ·have hF:=zw hb312 hF;refine ze hb312 ?_;refine ze hb312 ?_;refine zy hb312 ?_;refine za ?_;refine ze rfl ?_;refine zy rfl ?_;refine za ?_;refine zf (th_n ?_);refine zt ?_;refine th_r ?_;obtain rfl:=inj hF
        exact zA st (Res.t gA Res.nil) rfl rfl
      ·have hF:=zw hb311 hF;refine ze hb311 ?_;refine ze hb311 ?_;refine zy hb311 ?_;refine za ?_;refine ze rfl ?_;refine ze rfl ?_;refine zy rfl ?_;refine za ?_;refine ze rfl ?_;refine zy rfl ?_;refine za ?_;refine zf (th_n ?_);refine zt ?_;refine th_r ?_;obtain rfl:=inj hF
       exact zA st (Res.t gA Res.nil) rfl rfl
     ·have hF:=zw hb286 hF;refine zC (th_n ?_);obtain ⟨y334,hA335,hF⟩:=zk hF;refine yq (fun T ds340 h nx=>∃ u,y334 = (.inr u) ∧ ∃ (F340:PH),ds340 = [] ∧ PH.le F275 F340 ∧ St n0 h0 F0 F340 h nx [.bx b1 [(i64 a0_0),(i64 a0_1),(i64 a0_2),(i64 a0_3),(.slice pa0_4 (a0_4).length ca0_4),(.slice pa0_5 (a0_5).length ca0_5),(i64 a0_6),(i64 a0_7),(i64 a0_8),(i64 a0_9)],.bx b4 [(i64 a3_0),(i64 a3_1),(i64 a3_2)],.bx b61 [(i64 v54.1),(i64 v54.2.1),(i64 v54.2.2.1),(i64 v54.2.2.2.1),(.slice py58 (v54.2.2.2.2.1).length cy58),(.slice py59 (v54.2.2.2.2.2.1).length cy59),(i64 v54.2.2.2.2.2.2.1),(i64 v54.2.2.2.2.2.2.2.1),(i64 v54.2.2.2.2.2.2.2.2.1),(i64 v54.2.2.2.2.2.2.2.2.2.1)],.bx n273 [(i64 v271.1),(i64 v271.2.1)]] ∧ T.get 8 = some (.ptr (some (b4,0))) ∧ T.get 11 = some (.ptr (some (b61,0))) ∧ T.get 13 = some (i64 (Int.tmod a4 (10000:Int))) ∧ T.get 19 = some (.ptr (some (n273,0)))) ?_ (fun T ds340 h nx hp=>?_)
      ·have hK336:=hF
       have hF:=hA335;obtain ⟨y343,hA344,hF⟩:=zk hF;refine yq (fun T ds346 h nx=>∃ (F346:PH),ds346 = [] ∧ PH.le F275 F346 ∧ St n0 h0 F0 F346 h nx [.bx b1 [(i64 a0_0),(i64 a0_1),(i64 a0_2),(i64 a0_3),(.slice pa0_4 (a0_4).length ca0_4),(.slice pa0_5 (a0_5).length ca0_5),(i64 a0_6),(i64 a0_7),(i64 a0_8),(i64 a0_9)],.bx b4 [(i64 a3_0),(i64 a3_1),(i64 a3_2)],.bx b61 [(i64 v54.1),(i64 v54.2.1),(i64 v54.2.2.1),(i64 v54.2.2.2.1),(.slice py58 (v54.2.2.2.2.1).length cy58),(.slice py59 (v54.2.2.2.2.2.1).length cy59),(i64 v54.2.2.2.2.2.2.1),(i64 v54.2.2.2.2.2.2.2.1),(i64 v54.2.2.2.2.2.2.2.2.1),(i64 v54.2.2.2.2.2.2.2.2.2.1)],.bx n273 [(i64 v271.1),(i64 v271.2.1)]] ∧ T.get 8 = some (.ptr (some (b4,0))) ∧ T.get 11 = some (.ptr (some (b61,0))) ∧ T.get 13 = some (i64 (Int.tmod a4 (10000:Int))) ∧ T.get 19 = some (.ptr (some (n273,0))) ∧ T.get 173 = some (.bool y343)) ?_ (fun T ds346 h nx hp=>?_)
       ·have hK345:=hF
        have hF:=hA344;refine zh ?_;refine v_fa ?_;refine zq (st.at (i:=3) rfl).2.2 rfl ?_;refine yg ?_;refine za ?_
        rcases Bool.eq_false_or_eq_true (decide (v271.1 < (0:Int))) with hb347 | hb347
        ·have hF:=zu hb347 hF;refine ze hb347 ?_;refine ze hb347 ?_;refine ze hb347 ?_;refine ze hb347 ?_;refine ze hb347 ?_;refine zH hb347 ?_;refine za ?_;refine ze rfl ?_;refine ze rfl ?_;refine ze rfl ?_;refine zH rfl ?_;refine zf ?_;obtain rfl:=inj hF;refine thn ⟨rfl,?_⟩;dsimp only
         exact ⟨F275,rfl,(PH.le.refl _),st,gA,gA,gA,gA,gA⟩
        ·have hF:=zw hb347 hF;refine zi hb347 (v_fa ?_);refine zi hb347 (zq (st.at (i:=3) rfl).2.2 rfl ?_);refine zi hb347 (v_fa ?_);refine zi hb347 (zq (st.at (i:=3) rfl).2.2 rfl ?_);refine zi hb347 (vb ?_);refine zy hb347 ?_;refine za ?_
         rcases Bool.eq_false_or_eq_true (decide (v271.2.1 < v271.1)) with hb348 | hb348
         ·have hF:=zu hb348 hF;refine ze hb348 ?_;refine ze hb348 ?_;refine ze hb348 ?_;refine zH hb348 ?_;refine zf ?_;obtain rfl:=inj hF;refine thn ⟨rfl,?_⟩;dsimp only
          exact ⟨F275,rfl,(PH.le.refl _),st,gA,gA,gA,gA,gA⟩
         ·have hF:=zw hb348 hF;refine zi hb348 (v_fa ?_);refine zi hb348 (zq (st.at (i:=3) rfl).2.2 rfl ?_);refine zi hb348 (vb ?_);refine zy hb348 ?_;refine zf ?_;obtain rfl:=inj hF;refine thn ⟨rfl,?_⟩;dsimp only
          exact ⟨F275,rfl,(PH.le.refl _),st,gA,gA,gA,gA,gA⟩
       ·obtain ⟨F346,rfl,le346,st,t8,t11,t13,t19,t173⟩:=hp
        refine zB (fun hb359=>?_) (fun hb359=>?_)
        ·have hF:=zu hb359 hF;refine zg (zh ?_);refine za ?_;refine zf (th_n ?_);refine zt ?_;obtain rfl:=inj hF;have hF:=hK336;have hF:=yY hF;refine th_r ?_;obtain rfl:=inj hF
         exact zA st (Res.t gA Res.nil) rfl rfl
        ·have hF:=zw hb359 hF;refine zC ?_;obtain rfl:=inj hF;refine thn ⟨rfl,_,rfl,?_⟩;dsimp only
         exact ⟨F346,rfl,le346,st,gA,gA,gA,gA⟩
      ·obtain ⟨w339,rfl,F340,rfl,le340,st,t8,t11,t13,t19⟩:=hp;have hF:=yX hF
       have le372:=PH.le.trans le279 le340
       refine zg ?_;refine zg (zh ?_);refine za ?_;refine zf (th_n ?_);refine zE ?_;obtain ⟨y529,hy,hF⟩:=zk hF;refine zV (sf11_L2 N a3_0 a3_1 a3_2 a4 v54 v271) (fun x380 T ds381 h nx=>∃ (F381:PH),ds381 = [] ∧ PH.le F340 F381 ∧ St n0 h0 F0 F381 h nx [.bx b1 [(i64 a0_0),(i64 a0_1),(i64 a0_2),(i64 a0_3),(.slice pa0_4 (a0_4).length ca0_4),(.slice pa0_5 (a0_5).length ca0_5),(i64 a0_6),(i64 a0_7),(i64 a0_8),(i64 a0_9)],.bx b4 [(i64 a3_0),(i64 a3_1),(i64 a3_2)],.bx b61 [(i64 v54.1),(i64 v54.2.1),(i64 v54.2.2.1),(i64 v54.2.2.2.1),(.slice py58 (v54.2.2.2.2.1).length cy58),(.slice py59 (v54.2.2.2.2.2.1).length cy59),(i64 v54.2.2.2.2.2.2.1),(i64 v54.2.2.2.2.2.2.2.1),(i64 v54.2.2.2.2.2.2.2.2.1),(i64 v54.2.2.2.2.2.2.2.2.2.1)],.bx n273 [(i64 v271.1),(i64 v271.2.1)]] ∧ T.get 8 = some (.ptr (some (b4,0))) ∧ T.get 11 = some (.ptr (some (b61,0))) ∧ T.get 13 = some (i64 (Int.tmod a4 (10000:Int))) ∧ T.get 19 = some (.ptr (some (n273,0))) ∧ T.get 23 = some (i64 x380)) (fun y e a σ=>(∃ u,y = (.inl u) ∧ e = .ret ∧ a.nt = 231 ∧ ∃ (F531:PH),a.defers = [] ∧ PH.le F340 F531 ∧ St n0 h0 F0 F531 σ.h σ.nx [.bx b1 [(i64 a0_0),(i64 a0_1),(i64 a0_2),(i64 a0_3),(.slice pa0_4 (a0_4).length ca0_4),(.slice pa0_5 (a0_5).length ca0_5),(i64 a0_6),(i64 a0_7),(i64 a0_8),(i64 a0_9)],.bx b4 [(i64 a3_0),(i64 a3_1),(i64 a3_2)],.bx b61 [(i64 v54.1),(i64 v54.2.1),(i64 v54.2.2.1),(i64 v54.2.2.2.1),(.slice py58 (v54.2.2.2.2.1).length cy58),(.slice py59 (v54.2.2.2.2.2.1).length cy59),(i64 v54.2.2.2.2.2.2.1),(i64 v54.2.2.2.2.2.2.2.1),(i64 v54.2.2.2.2.2.2.2.2.1),(i64 v54.2.2.2.2.2.2.2.2.2.1)],.bx n273 [(i64 v271.1),(i64 v271.2.1)]] ∧ a.tmps.get 10 = some (.bool false)) ∨ (∃ u,y = (.inr u) ∧ e = .exit 2 ∧ a.nt = 231 ∧ ∃ (F533:PH),a.defers = [] ∧ PH.le F340 F533 ∧ St n0 h0 F0 F533 σ.h σ.nx [.bx b1 [(i64 a0_0),(i64 a0_1),(i64 a0_2),(i64 a0_3),(.slice pa0_4 (a0_4).length ca0_4),(.slice pa0_5 (a0_5).length ca0_5),(i64 a0_6),(i64 a0_7),(i64 a0_8),(i64 a0_9)],.bx b4 [(i64 a3_0),(i64 a3_1),(i64 a3_2)],.bx b61 [(i64 v54.1),(i64 v54.2.1),(i64 v54.2.2.1),(i64 v54.2.2.2.1),(.slice py58 (v54.2.2.2.2.1).length cy58),(.slice py59 (v54.2.2.2.2.2.1).length cy59),(i64 v54.2.2.2.2.2.2.1),(i64 v54.2.2.2.2.2.2.2.1),(i64 v54.2.2.2.2.2.2.2.2.1),(i64 v54.2.2.2.2.2.2.2.2.2.1)],.bx n273 [(i64 v271.1),(i64 v271.2.1)]])) (fun x380 T ds381 h nx s hp hF=>?_) N _ y529 _ _ _ _ hy ⟨F340,rfl,(PH.le.refl _),st,gA,gA,gA,gA,gA⟩ (fun e a σ hne hq=>?_)
       ·obtain ⟨F381,rfl,le381,st,t8,t11,t13,t19,t23⟩:=hp
        have le384:=PH.le.trans le372 le381
        unfold sf11_L2 at hF;unfold L11w0;refine zg ?_;refine zg (zh ?_);refine za ?_;refine yg ?_;refine zf (th_n ?_);refine zB (fun hb534=>?_) (fun hb534=>?_)
        ·have hF:=zu hb534 hF;refine zC (th_n ?_);refine zg ?_;refine zE ?_;refine zg ?_;refine z9 (Nat.le_trans hfl st.ext.le) (fun dw=>?_);refine zd st.d dw (fun hm vw=>v_fa zb) ?_;refine zd st.d dw (fun hm vw=>zq (vw.bx (st.at (i:=3) rfl)) rfl zb) ?_;obtain ⟨q535,hF⟩:=zm hF;refine zd st.d dw (fun hm vw=>yv q535 zb) ?_;refine zd st.d dw (fun hm vw=>v_fa zb) ?_;refine zd st.d dw (fun hm vw=>zq (vw.bx (st.at (i:=3) rfl)) rfl zb) ?_;refine zd st.d dw (fun hm vw=>v_fa zb) ?_;refine zd st.d dw (fun hm vw=>zq (vw.bx (st.at (i:=3) rfl)) rfl zb) ?_
         refine zd st.d dw (fun hm vw=>za zb) ?_;refine zd st.d dw (fun hm vw=>v_fa zb) ?_;refine zd st.d dw (fun hm vw=>zq (vw.bx (st.at (i:=3) rfl)) rfl zb) ?_;refine zd st.d dw (fun hm vw=>v_fa zb) ?_;refine zd st.d dw (fun hm vw=>zq (vw.bx (st.at (i:=3) rfl)) rfl zb) ?_;obtain ⟨q536,hF⟩:=zm hF;refine zd st.d dw (fun hm vw=>yv q536 zb) ?_;obtain ⟨q537,hF⟩:=zm hF;refine zd st.d dw (fun hm vw=>zR q537 zb) ?_;obtain ⟨q538,hF⟩:=zm hF;refine zd st.d dw (fun hm vw=>uH q538 zb) ?_;obtain ⟨q539,hF⟩:=zm hF;refine zd st.d dw (fun hm vw=>zR q539 zb) ?_
         refine zd st.d dw (fun hm vw=>v_fa zb) ?_;refine zd st.d dw (fun hm vw=>zq (vw.bx (st.at (i:=3) rfl)) rfl zb) ?_;refine zd st.d dw (fun hm vw=>v_fa zb) ?_;refine zd st.d dw (fun hm vw=>zq (vw.bx (st.at (i:=3) rfl)) rfl zb) ?_;refine ye st.d dw rfl (fun h540 ex vs=>?_)
         have st:=st.ext1 ex
         obtain ⟨q541,hF⟩:=zm hF;refine zR q541 ?_;refine v_bs (cs:=[(i64 (v271.1 - (1:Int))),(i64 v271.1),(i64 (v271.1+(Int.tmod (Int.tmod a4 (10000:Int)) ((v271.2.1 - v271.1)+(1:Int))))),(i64 v271.2.1),(i64 (v271.2.1+(1:Int)))]) st rfl (fun b542 h543 n544 st=>?_);refine za ?_
         have st:=St.asL st 4 rfl (n:=5) (sz:=1) rfl
         have w545:LR rI 1 F381 [(v271.1 - (1:Int)),v271.1,(v271.1+(Int.tmod (Int.tmod a4 (10000:Int)) ((v271.2.1 - v271.1)+(1:Int)))),v271.2.1,(v271.2.1+(1:Int))] [(i64 (v271.1 - (1:Int))),(i64 v271.1),(i64 (v271.1+(Int.tmod (Int.tmod a4 (10000:Int)) ((v271.2.1 - v271.1)+(1:Int))))),(i64 v271.2.1),(i64 (v271.2.1+(1:Int)))]:=(LR.cons1 (x:=(v271.1 - (1:Int))) (r:=[(i64 (v271.1 - (1:Int)))]) (l:=[v271.1,(v271.1+(Int.tmod (Int.tmod a4 (10000:Int)) ((v271.2.1 - v271.1)+(1:Int)))),v271.2.1,(v271.2.1+(1:Int))]) (cs:=[(i64 v271.1),(i64 (v271.1+(Int.tmod (Int.tmod a4 (10000:Int)) ((v271.2.1 - v271.1)+(1:Int))))),(i64 v271.2.1),(i64 (v271.2.1+(1:Int)))]) (rfl) (LR.cons1 (x:=v271.1) (r:=[(i64 v271.1)]) (l:=[(v271.1+(Int.tmod (Int.tmod a4 (10000:Int)) ((v271.2.1 - v271.1)+(1:Int)))),v271.2.1,(v271.2.1+(1:Int))]) (cs:=[(i64 (v271.1+(Int.tmod (Int.tmod a4 (10000:Int)) ((v271.2.1 - v271.1)+(1:Int))))),(i64 v271.2.1),(i64 (v271.2.1+(1:Int)))]) (rfl) (LR.cons1 (x:=(v271.1+(Int.tmod (Int.tmod a4 (10000:Int)) ((v271.2.1 - v271.1)+(1:Int))))) (r:=[(i64 (v271.1+(Int.tmod (Int.tmod a4 (10000:Int)) ((v271.2.1 - v271.1)+(1:Int)))))]) (l:=[v271.2.1,(v271.2.1+(1:Int))]) (cs:=[(i64 v271.2.1),(i64 (v271.2.1+(1:Int)))]) (rfl) (LR.cons1 (x:=v271.2.1) (r:=[(i64 v271.2.1)]) (l:=[(v271.2.1+(1:Int))]) (cs:=[(i64 (v271.2.1+(1:Int)))]) (rfl) (LR.cons1 (x:=(v271.2.1+(1:Int))) (r:=[(i64 (v271.2.1+(1:Int)))]) (l:=[]) (cs:=[]) (rfl) LR.nil)))))
         obtain ⟨n546,x546,z546,l546,g546,hF⟩:=zW hF
         obtain ⟨b546,s546,j546,r546,e546,lt546,f546,k546,rfl⟩:=LE.getb (st.at (i:=4) rfl) w545 (by decide) g546
         refine ym e546 z546 l546 ?_;refine zq f546 (yj (j:=0) k546 rfl) ?_;refine za ?_;refine zf (th_n ?_);obtain ⟨y566,hA567,hF⟩:=zk hF;refine yq (fun T ds572 h nx=>∃ u,y566 = (.inr u) ∧ ∃ (F572:PH),ds572 = [] ∧ PH.le F381 F572 ∧ St n0 h0 F0 F572 h nx [.bx b1 [(i64 a0_0),(i64 a0_1),(i64 a0_2),(i64 a0_3),(.slice pa0_4 (a0_4).length ca0_4),(.slice pa0_5 (a0_5).length ca0_5),(i64 a0_6),(i64 a0_7),(i64 a0_8),(i64 a0_9)],.bx b4 [(i64 a3_0),(i64 a3_1),(i64 a3_2)],.bx b61 [(i64 v54.1),(i64 v54.2.1),(i64 v54.2.2.1),(i64 v54.2.2.2.1),(.slice py58 (v54.2.2.2.2.1).length cy58),(.slice py59 (v54.2.2.2.2.2.1).length cy59),(i64 v54.2.2.2.2.2.2.1),(i64 v54.2.2.2.2.2.2.2.1),(i64 v54.2.2.2.2.2.2.2.2.1),(i64 v54.2.2.2.2.2.2.2.2.2.1)],.bx n273 [(i64 v271.1),(i64 v271.2.1)],.ls (some b542) 5 [(i64 (v271.1 - (1:Int))),(i64 v271.1),(i64 (v271.1+(Int.tmod (Int.tmod a4 (10000:Int)) ((v271.2.1 - v271.1)+(1:Int))))),(i64 v271.2.1),(i64 (v271.2.1+(1:Int)))] 1] ∧ T.get 8 = some (.ptr (some (b4,0))) ∧ T.get 11 = some (.ptr (some (b61,0))) ∧ T.get 13 = some (i64 (Int.tmod a4 (10000:Int))) ∧ T.get 19 = some (.ptr (some (n273,0))) ∧ T.get 23 = some (i64 x380) ∧ T.get 24 = some (i64 x546)) ?_ (fun T ds572 h nx hp=>?_)
         ·have hK568:=hF
          have hF:=hA567;obtain ⟨y574,hA575,hF⟩:=zk hF;refine yq (fun T ds577 h nx=>∃ (F577:PH),ds577 = [] ∧ PH.le F381 F577 ∧ St n0 h0 F0 F577 h nx [.bx b1 [(i64 a0_0),(i64 a0_1),(i64 a0_2),(i64 a0_3),(.slice pa0_4 (a0_4).length ca0_4),(.slice pa0_5 (a0_5).length ca0_5),(i64 a0_6),(i64 a0_7),(i64 a0_8),(i64 a0_9)],.bx b4 [(i64 a3_0),(i64 a3_1),(i64 a3_2)],.bx b61 [(i64 v54.1),(i64 v54.2.1),(i64 v54.2.2.1),(i64 v54.2.2.2.1),(.slice py58 (v54.2.2.2.2.1).length cy58),(.slice py59 (v54.2.2.2.2.2.1).length cy59),(i64 v54.2.2.2.2.2.2.1),(i64 v54.2.2.2.2.2.2.2.1),(i64 v54.2.2.2.2.2.2.2.2.1),(i64 v54.2.2.2.2.2.2.2.2.2.1)],.bx n273 [(i64 v271.1),(i64 v271.2.1)],.ls (some b542) 5 [(i64 (v271.1 - (1:Int))),(i64 v271.1),(i64 (v271.1+(Int.tmod (Int.tmod a4 (10000:Int)) ((v271.2.1 - v271.1)+(1:Int))))),(i64 v271.2.1),(i64 (v271.2.1+(1:Int)))] 1] ∧ T.get 8 = some (.ptr (some (b4,0))) ∧ T.get 11 = some (.ptr (some (b61,0))) ∧ T.get 13 = some (i64 (Int.tmod a4 (10000:Int))) ∧ T.get 19 = some (.ptr (some (n273,0))) ∧ T.get 23 = some (i64 x380) ∧ T.get 24 = some (i64 x546) ∧ T.get 208 = some (.bool y574)) ?_ (fun T ds577 h nx hp=>?_)
          ·have hK576:=hF
           have hF:=hA575;refine zh ?_;refine za ?_;refine yg ?_;refine za ?_
           rcases Bool.eq_false_or_eq_true (decide (x546 < (0:Int))) with hb578 | hb578
           ·have hF:=zu hb578 hF;refine ze hb578 ?_;refine ze hb578 ?_;refine zH hb578 ?_;refine zf ?_;obtain rfl:=inj hF;refine thn ⟨rfl,?_⟩;dsimp only
            exact ⟨F381,rfl,(PH.le.refl _),st,gA,gA,gA,gA,gA,gA,gA⟩
           ·have hF:=zw hb578 hF;refine zi hb578 (za ?_);refine zi hb578 (vb ?_);refine zy hb578 ?_;refine zf ?_;obtain rfl:=inj hF;refine thn ⟨rfl,?_⟩;dsimp only
            exact ⟨F381,rfl,(PH.le.refl _),st,gA,gA,gA,gA,gA,gA,gA⟩
          ·obtain ⟨F577,rfl,le577,st,t8,t11,t13,t19,t23,t24,t208⟩:=hp
           have le590:=PH.le.trans le381 le577
           refine zB (fun hb591=>?_) (fun hb591=>?_)
           ·have hF:=zu hb591 hF;refine z8 ?_;obtain rfl:=inj hF;have hF:=hK568;have hF:=yY hF;refine th_e ?_;refine ib_e ?_;refine th_n ?_;refine zh ?_;refine za ?_;obtain ⟨q592,hF⟩:=zm hF;refine zR q592 ?_;refine za ?_;refine zf ?_;refine thn ⟨_,(inj hF).symm,rfl,?_⟩;dsimp only
            exact ⟨F577,rfl,le590,(st.drop (by first | exact List.Sublist.refl _ | (repeat first | exact List.nil_sublist _ | refine List.Sublist.cons_cons _ ?_ | refine List.Sublist.cons _ ?_))),gA,gA,gA,gA,gA⟩
           ·have hF:=zw hb591 hF;refine zC ?_;obtain rfl:=inj hF;refine thn ⟨rfl,_,rfl,?_⟩;dsimp only
            exact ⟨F577,rfl,le577,st,gA,gA,gA,gA,gA,gA⟩
         ·obtain ⟨w571,rfl,F572,rfl,le572,st,t8,t11,t13,t19,t23,t24⟩:=hp;have hF:=yX hF
          have le608:=PH.le.trans le384 le572
          have le617:=PH.le.trans le381 le572
          refine zg ?_;refine z9 (Nat.le_trans hfl st.ext.le) (fun dw=>?_)
          have wf:=Wf.start st
          refine zd st.d dw (fun hm vw=>zG (vs:=[(i64 v54.1),(i64 v54.2.1),(i64 v54.2.2.1),(i64 v54.2.2.2.1),(.slice py58 (v54.2.2.2.2.1).length cy58),(.slice py59 (v54.2.2.2.2.2.1).length cy59),(i64 v54.2.2.2.2.2.2.1),(i64 v54.2.2.2.2.2.2.2.1),(i64 v54.2.2.2.2.2.2.2.2.1),(i64 v54.2.2.2.2.2.2.2.2.2.1)]) (vw.bx (st.at (i:=2) rfl)) rfl zb) ?_;obtain ⟨v618,e619,hF⟩:=zk hF
          refine vV st dw wf (fun hm vw=>vB (ct21 N e619 vw.d (FF.sub wf st vw) (Nat.max_le.2 ⟨by have:=dw.le;have:=st.ext.le;omega,Nat.le_refl _⟩) (RowF.mono (PH.le.trans le608 FF.base) ry58) (RowF.mono (PH.le.trans le608 FF.base) ry59)) (fun v F' h' n' ex l1 l2 l3 l4=>zf ⟨_,_,rfl,ex,l1,l2,l3,l4⟩)) (fun u620 F620 n620 done hn' dw620 wf620 rv620 le620=>?_)
          have wf:=wf620
          have dw:=dw620
          obtain ⟨_,rfl,⟨_,_,rfl,rfl,⟨_,_,rfl,rfl,⟨_,_,rfl,rfl,⟨_,_,rfl,rfl,⟨_,_,rfl,⟨py621,cy621,rfl,ry621⟩,⟨_,_,rfl,⟨py622,cy622,rfl,ry622⟩,⟨_,_,rfl,rfl,⟨_,_,rfl,rfl,⟨_,_,rfl,rfl,rfl⟩⟩⟩⟩⟩⟩⟩⟩⟩⟩:=rv620;refine zd st.d dw (fun hm vw=>zG (vs:=[(i64 a3_0),(i64 a3_1),(i64 a3_2)]) (vw.bx (st.at (i:=1) rfl)) rfl zb) ?_;refine ye st.d dw rfl (fun h623 ex vs=>?_)
          obtain ⟨F624,lt624,st⟩:=St.laidF st dw wf ex vs (Lay.nil (by have:=dw.le;omega)) (fun e he=>by cases he)
          have lz625:=lt624 _ (le620 (fun _=>true) rfl (fun _ _=>rfl))
          have lb624:=lt624 _ FF.base
          have le637:=PH.le.trans le617 lb624
          obtain ⟨v639,e640,hF⟩:=zk hF;refine zF st (ct35 N e640 st.d st.sub ) (fun n641 st=>?_);refine za ?_;obtain ⟨v642,e643,hF⟩:=zk hF;refine zF st (ct34 N e643 st.d st.sub (RowF.mono lz625 ry621) (RowF.mono lz625 ry622)) (fun n644 st=>?_);refine za ?_;refine v_xt rfl ?_;refine v_xt rfl ?_;refine za ?_;refine za ?_;refine zf (th_n ?_);obtain ⟨y647,hA648,hF⟩:=zk hF;refine yq (fun T ds650 h nx=>∃ (F650:PH),ds650 = [] ∧ PH.le F624 F650 ∧ St n0 h0 F0 F650 h nx [.bx b1 [(i64 a0_0),(i64 a0_1),(i64 a0_2),(i64 a0_3),(.slice pa0_4 (a0_4).length ca0_4),(.slice pa0_5 (a0_5).length ca0_5),(i64 a0_6),(i64 a0_7),(i64 a0_8),(i64 a0_9)],.bx b4 [(i64 a3_0),(i64 a3_1),(i64 a3_2)],.bx b61 [(i64 v54.1),(i64 v54.2.1),(i64 v54.2.2.1),(i64 v54.2.2.2.1),(.slice py58 (v54.2.2.2.2.1).length cy58),(.slice py59 (v54.2.2.2.2.2.1).length cy59),(i64 v54.2.2.2.2.2.2.1),(i64 v54.2.2.2.2.2.2.2.1),(i64 v54.2.2.2.2.2.2.2.2.1),(i64 v54.2.2.2.2.2.2.2.2.2.1)],.bx n273 [(i64 v271.1),(i64 v271.2.1)],.ls (some b542) 5 [(i64 (v271.1 - (1:Int))),(i64 v271.1),(i64 (v271.1+(Int.tmod (Int.tmod a4 (10000:Int)) ((v271.2.1 - v271.1)+(1:Int))))),(i64 v271.2.1),(i64 (v271.2.1+(1:Int)))] 1] ∧ T.get 8 = some (.ptr (some (b4,0))) ∧ T.get 11 = some (.ptr (some (b61,0))) ∧ T.get 13 = some (i64 (Int.tmod a4 (10000:Int))) ∧ T.get 19 = some (.ptr (some (n273,0))) ∧ T.get 23 = some (i64 x380) ∧ T.get 229 = some (.bool y647)) ?_ (fun T ds650 h nx hp=>?_)
          ·have hK649:=hF
           have hF:=hA648;refine zh ?_;refine za ?_;refine yV ?_;refine za ?_
           rcases Bool.eq_false_or_eq_true (!(decide (v642.2 = (0:Int)))) with hb651 | hb651
           ·have hF:=zu hb651 hF;refine ze hb651 ?_;refine ze hb651 ?_;refine ze hb651 ?_;refine ze hb651 ?_;refine zI ?_;refine zI ?_;refine ze hb651 ?_;refine ze hb651 ?_;refine zH hb651 ?_;refine zf ?_;obtain rfl:=inj hF;refine thn ⟨rfl,?_⟩;dsimp only
            exact ⟨F624,rfl,(PH.le.refl _),st,gA,gA,gA,gA,gA,gA⟩
           ·have hF:=zw hb651 hF;refine zi hb651 (za ?_);refine zi hb651 (za ?_);refine zi hb651 (vb ?_);refine zi hb651 (za ?_)
            rcases Bool.eq_false_or_eq_true (decide ((0:Int) < x380)) with hb652 | hb652
            ·have hF:=zu hb652 hF;refine zi hb652 (za ?_);refine zi hb652 (yg ?_);refine zi hb651 (zH hb652 ?_);refine zi hb651 (v_neb ?_);refine zy hb651 ?_;refine zf ?_;obtain rfl:=inj hF;refine thn ⟨rfl,?_⟩;dsimp only
             exact ⟨F624,rfl,(PH.le.refl _),st,gA,gA,gA,gA,gA,gA⟩
            ·have hF:=zw hb652 hF;refine ze hb652 ?_;refine ze hb652 ?_;refine zi hb651 (zy hb652 ?_);refine zi hb651 (v_neb ?_);refine zy hb651 ?_;refine zf ?_;obtain rfl:=inj hF;refine thn ⟨rfl,?_⟩;dsimp only
             exact ⟨F624,rfl,(PH.le.refl _),st,gA,gA,gA,gA,gA,gA⟩
          ·obtain ⟨F650,rfl,le650,st,t8,t11,t13,t19,t23,t229⟩:=hp
           have le664:=PH.le.trans le637 le650
           refine zB (fun hb668=>?_) (fun hb668=>?_)
           ·have hF:=zu hb668 hF;refine zg (zh ?_);refine za ?_;refine zf (th_n ?_);refine zt ?_;refine ib_r ?_;refine th_r ?_;refine th_r ?_;refine ⟨_,(inj hF).symm,.inl ⟨_,rfl,rfl,rfl,?_⟩⟩;dsimp only
            exact ⟨F650,rfl,le664,(st.drop (by first | exact List.Sublist.refl _ | (repeat first | exact List.nil_sublist _ | refine List.Sublist.cons_cons _ ?_ | refine List.Sublist.cons _ ?_))),gA⟩
           ·have hF:=zw hb668 hF;refine zC ?_;refine ib_n ?_;refine th_n ?_;refine zh ?_;refine za ?_;obtain ⟨q669,hF⟩:=zm hF;refine zR q669 ?_;refine za ?_;refine zf ?_;refine thn ⟨_,(inj hF).symm,rfl,?_⟩;dsimp only
            exact ⟨F650,rfl,le664,(st.drop (by first | exact List.Sublist.refl _ | (repeat first | exact List.nil_sublist _ | refine List.Sublist.cons_cons _ ?_ | refine List.Sublist.cons _ ?_))),gA,gA,gA,gA,gA⟩
        ·have hF:=zw hb534 hF;refine z8 ?_;refine th_e ?_;refine th_e ?_;refine ⟨_,(inj hF).symm,.inr (⟨_,rfl,rfl,rfl,?_⟩)⟩;dsimp only
         exact ⟨F381,rfl,le381,st⟩
       ·rcases hq with hq | hq
        ·obtain ⟨N9,T,ds531⟩:=a;obtain ⟨h681,n682⟩:=σ;obtain ⟨w530,rfl,rfl,e1,F531,e2,le531,st,t10⟩:=hq
         dsimp only at e1 e2
         subst e1
         subst e2
         dsimp only at st t10
         have hF:=yY hF;refine ib_r ?_;refine th_r ?_;obtain rfl:=inj hF
         exact zA st (Res.t gA Res.nil) rfl rfl
        ·obtain ⟨N9,T,ds533⟩:=a;obtain ⟨h694,n695⟩:=σ;obtain ⟨w532,rfl,rfl,e1,F533,e2,le533,st⟩:=hq
         dsimp only at e1 e2
         subst e1
         subst e2
         dsimp only at st
         have hF:=yX hF;refine ib_e ?_;refine th_n ?_;refine zg (zh ?_);refine zF st (ct_wakes (h:=_) (nx:=_)) (fun n696 st=>?_);refine za ?_;refine zf (th_n ?_);refine zt ?_;obtain rfl:=inj hF
         exact zA st (Res.t gA Res.nil) rfl rfl
end Go.Hx.V

namespace Go.Hx.V
open Go.Hx
set_option maxRecDepth 20000
set_option maxHeartbeats 4000000
variable {fl : Nat} {h0 : Tr HBlk} {n0 : Nat} {F0 : PH}
attribute [local irreducible] W R C thenH inBlockH Tr.get Tr.set lo ck bnd ix iter
end Go.Hx.V

namespace Go.Hx.V
open Go.Hx
set_option maxRecDepth 20000
set_option maxHeartbeats 4000000
variable {fl : Nat} {h0 : Tr HBlk} {n0 : Nat} {F0 : PH}
attribute [local irreducible] W R C thenH inBlockH Tr.get Tr.set lo ck bnd ix iter
end Go.Hx.V

namespace Go.Hx.V
open Go.Hx
set_option maxRecDepth 20000
set_option maxHeartbeats 4000000
variable {fl : Nat} {h0 : Tr HBlk} {n0 : Nat} {F0 : PH}
attribute [local irreducible] W R C thenH inBlockH Tr.get Tr.set lo ck bnd ix iter
end Go.Hx.V


namespace Go.Hx.V
open Go.Hx
theorem vF {α β : Type} {step : α → Option (α ⊕ β)} (P : α → Prop) (m : α → Nat) (Y : β → Prop)
  (h : ∀ x, P x → (∃ x', step x = some (.inl x') ∧ P x' ∧ m x' < m x) ∨ ∃ y, step x = some (.inr y) ∧ Y y) : ∀ (N : Nat) (x : α), P x → m x < N → ∃ y, iter step N x = some y ∧ Y y
 | 0, x, hp, hm => by omega
 | N + 1, x, hp, hm => by
  unfold iter
  rcases h x hp with ⟨x', e, hp', hm'⟩ | ⟨y, e, hy⟩
  ·rw [e]; exact vF P m Y h N x' hp' (by omega)
  ·rw [e]; exact ⟨y, rfl, hy⟩
theorem XB {α β : Type} {step : α → Option (α ⊕ β)} (s : Nat → α) (y : β) : ∀ (n i N : Nat), (∀ j, i ≤ j → j < i + n → step (s j) = some (.inl (s (j + 1)))) → step (s (i + n)) = some (.inr y) → n < N → iter step N (s i) = some y
 | 0, i, N, hs, he, hN => by
  obtain ⟨N, rfl⟩ : ∃ k, N = k + 1 := ⟨N - 1, by omega⟩
  unfold iter; rw [Nat.add_zero] at he; rw [he]; rfl
 | n + 1, i, N, hs, he, hN => by
  obtain ⟨N, rfl⟩ : ∃ k, N = k + 1 := ⟨N - 1, by omega⟩
  unfold iter
  rw [hs i (by omega) (by omega)]
  exact XB s y n (i + 1) N (fun j h1 h2 => hs j (by omega) (by omega)) (by rw [show i + 1 + n = i + (n + 1) by omega]; exact he) (by omega)
theorem yA {α β : Type} {step : α → Option (α ⊕ β)} {x : α} {N : Nat} (s : Nat → α) (n : Nat) (y : β) (hx : x = s 0) (hs : ∀ j, j < n → step (s j) = some (.inl (s (j + 1)))) (he : step (s n) = some (.inr y)) (hN : n < N) : iter step N x = some y := by
 subst hx
 exact XB s y n 0 N (fun j _ h2 => hs j (by omega)) (by rw [Nat.zero_add]; exact he) hN
theorem j5 {α β : Type} {step : α → Option (α ⊕ β)} {x : α} {N : Nat} (s : Nat → α) (n : Nat) (p : Nat → Prop) [DecidablePred p] (good bad : β) (hx : x = s 0) (hs : ∀ j, j < n → p j → step (s j) = some (.inl (s (j + 1)))) (hf : ∀ j, j < n → ¬ p j → step (s j) = some (.inr bad)) (he : step (s n) = some (.inr good)) (hN : n < N) :
  ((∀ j, j < n → p j) ∧ iter step N x = some good) ∨ (¬ (∀ j, j < n → p j) ∧ iter step N x = some bad) := by
 by_cases h : ∀ j, j < n → p j
 ·exact .inl ⟨h, yA s n good hx (fun j hj => hs j hj (h j hj)) he hN⟩
 ·refine .inr ⟨h, ?_⟩
  have h1 : ∃ j, j < n ∧ ¬ p j := by
   refine Classical.byContradiction fun hc => h fun j hj => Classical.byContradiction fun hp => hc ⟨j, hj, hp⟩
  -- the first one
  obtain ⟨j, hj, hp, hmin⟩ : ∃ j, j < n ∧ ¬ p j ∧ ∀ i, i < j → p i := by
   obtain ⟨j, hj⟩ := h1
   induction j using Nat.strongRecOn with
   | ind j ih =>
    by_cases g : ∀ i, i < j → p i
    ·exact ⟨j, hj.1, hj.2, g⟩
    ·have : ∃ i, i < j ∧ ¬ p i := Classical.byContradiction fun hc => g fun i hi => Classical.byContradiction fun hp => hc ⟨i, hi, hp⟩
     obtain ⟨i, hi, hpi⟩ := this
     exact ih i hi ⟨by omega, hpi⟩
  exact yA s j bad hx (fun i hi => hs i (by omega) (hmin i hi)) (hf j hj hp) (by omega)
theorem yb {α β : Type} {l : List α} {j : Int} {n : Nat} {x : α} {k : α → Option β} (hj : j = n) (h : l[n]? = some x) : ix l j k = k x := by
 subst hj; exact ix_pos h
theorem ix_0 {α β : Type} {l : List α} {x : α} {k : α → Option β} (h : l[0]? = some x) : ix l (0 : Int) k = k x := yb (n := 0) rfl h
theorem yd {α : Type} {l : List α} {n : Nat} (h : n < l.length) : l[n]? = some l[n] := List.getElem?_eq_getElem h
theorem yI {α : Type} {l : List α} {n : Nat} {x : α} (h : l[n]? = some x) : n < l.length := by
 rcases Nat.lt_or_ge n l.length with g | g
 ·exact g
 ·rw [List.getElem?_eq_none g] at h; cases h
theorem vJ {α : Type} {l : List α} {n : Nat} {x : α} (h : l[n]? = some x) : l.take (n + 1) = l.take n ++ [x] := by
 rw [List.take_add_one, h]; rfl
end Go.Hx.V

namespace Go.Hx.V
open Go.Hx
def lI (T f g m : Int) (x y : Int × (Nat → Int)) : Option ((Int × (Nat → Int)) ⊕ (Nat → Int)) :=
 (bif (decide (y.1 < T)) then (ck (0 ≤ g ∧ g < 13) ((ck (0 ≤ y.1 ∧ y.1 < 13) ((ck (rng (((x.2 (((Int.toNat x.1) * 13) + (Int.toNat f))) + m) + (y.2 (((Int.toNat g) * 13) + (Int.toNat y.1))))) ((ck (0 ≤ x.1 ∧ x.1 < 13) ((ck (0 ≤ y.1 ∧ y.1 < 13) ((bif (decide ((((x.2 (((Int.toNat x.1) * 13) + (Int.toNat f))) + m) + (y.2 (((Int.toNat g) * 13) + (Int.toNat y.1)))) < (y.2 (((Int.toNat x.1) * 13) + (Int.toNat y.1))))) then (ck (0 ≤ x.1 ∧ x.1 < 13) ((ck (0 ≤ y.1 ∧ y.1 < 13) ((ck (rng (y.1 + (1 : Int))) (some (.inl ((y.1 + (1 : Int)), (ups y.2 (((Int.toNat x.1) * 13) + (Int.toNat y.1)) (((x.2 (((Int.toNat x.1) * 13) + (Int.toNat f))) + m) + (y.2 (((Int.toNat g) * 13) + (Int.toNat y.1))))))))))))) else (ck (rng (y.1 + (1 : Int))) (some (.inl ((y.1 + (1 : Int)), y.2))))))))))))))) else some (.inr y.2))
def lO (N : Nat) (T f g m : Int) (x : Int × (Nat → Int)) : Option ((Int × (Nat → Int)) ⊕ (Nat → Int)) :=
 (bif (decide (x.1 < T)) then (ck (0 ≤ x.1 ∧ x.1 < 13) ((ck (0 ≤ f ∧ f < 13) ((ck (rng ((x.2 (((Int.toNat x.1) * 13) + (Int.toNat f))) + m)) ((ck (0 ≤ x.1 ∧ x.1 < 13) ((ck (0 ≤ g ∧ g < 13) ((bif (decide ((x.2 (((Int.toNat x.1) * 13) + (Int.toNat g))) ≤ ((x.2 (((Int.toNat x.1) * 13) + (Int.toNat f))) + m))) then (ck (rng (x.1 + (1 : Int))) (some (.inl ((x.1 + (1 : Int)), x.2)))) else bnd (iter (lI T f g m x) N ((0 : Int), x.2)) (fun y133 => (ck (rng (x.1 + (1 : Int))) (some (.inl ((x.1 + (1 : Int)), y133)))))))))))))))) else some (.inr x.2))
theorem l96_2 (N : Nat) (T f g m : Int) : sf154_L2 N T f g m = lO N T f g m := rfl
theorem l96_4 (N : Nat) (T f g m : Int) : sf154_L4 N T f g m = lO N T (g + 1) f ((-m) - 1) := rfl
theorem l97_6 (N : Nat) (n t : Int) : sf153_L6 N n t = lO N (n + 1) 0 n t := rfl
theorem l97_8 (N : Nat) (n t : Int) : sf153_L8 N n t = lO N (n + 1) n 0 (-t) := rfl
theorem toN (a : Nat) : Int.toNat (a : Int) = a := Int.toNat_natCast a
theorem dv {a b : Nat} (h : b < 13) : (a * 13 + b) / 13 = a := by omega
theorem md {a b : Nat} (h : b < 13) : (a * 13 + b) % 13 = b := by omega
def rowR (i f g : Nat) (m : Int) (F : Nat → Int) (j : Nat) : Nat → Int := fun q => if q / 13 = i ∧ q % 13 < j then min (F q) (F (i * 13 + f) + m + F (g * 13 + q % 13)) else F q
theorem lI_run {n i f g N : Nat} {m : Int} {F : Nat → Int} (hn : n ≤ 12) (hi : i ≤ n) (hf : f ≤ n) (hg : g ≤ n) (hne : g ≠ i) (hb : ∀ j, j ≤ n → rng (F (i * 13 + f) + m + F (g * 13 + j))) (hN : n + 1 < N) :
  iter (lI ((n : Int) + 1) f g m ((i : Int), F)) N ((0 : Int), F) = some (rowR i f g m F (n + 1)) := by
 refine yA (fun j => ((j : Int), rowR i f g m F j)) (n + 1) _ ?_ (fun j hj => ?_) ?_ hN
 ·refine Prod.ext rfl ?_
  funext q
  unfold rowR
  dsimp only
  rw [if_neg (by omega)]
 ·have e1 : rowR i f g m F j (g * 13 + j) = F (g * 13 + j) := by unfold rowR; rw [if_neg (by omega)]
  have e2 : rowR i f g m F j (i * 13 + j) = F (i * 13 + j) := by unfold rowR; rw [if_neg (by omega)]
  unfold lI
  simp only [toN]
  rw [show decide ((j : Int) < (n : Int) + 1) = true from decide_eq_true (by omega), cond_true, zp (by omega), zp (by omega), e1, e2, zp (hb j (by omega)), zp (by omega), zp (by omega)]
  have hr : rng ((j : Int) + 1) := by unfold rng; omega
  by_cases hc : F (i * 13 + f) + m + F (g * 13 + j) < F (i * 13 + j)
  ·rw [decide_eq_true hc, cond_true, zp (by omega), zp (by omega), zp hr]
   congr 3
   funext q
   unfold ups rowR
   by_cases hq : q = i * 13 + j
   ·subst hq
    rw [if_pos rfl, if_pos (by omega), md (by omega)]; omega
   ·rw [if_neg hq]
    by_cases h1 : q / 13 = i ∧ q % 13 < j
    ·rw [if_pos h1, if_pos (by omega)]
    ·rw [if_neg h1, if_neg (by omega)]
  ·rw [decide_eq_false hc, cond_false, zp hr]
   congr 3
   funext q
   unfold rowR
   by_cases hq : q = i * 13 + j
   ·subst hq
    rw [if_neg (by omega), if_pos (by omega), md (by omega)]; omega
   ·by_cases h1 : q / 13 = i ∧ q % 13 < j
    ·rw [if_pos h1, if_pos (by omega)]
    ·rw [if_neg h1, if_neg (by omega)]
 ·unfold lI
  dsimp only
  rw [show decide (((n + 1 : Nat) : Int) < (n : Int) + 1) = false from decide_eq_false (by omega), cond_false]
structure Gd (n : Nat) (F : Nat → Int) : Prop where
 tri : ∀ i j k, i ≤ n → j ≤ n → k ≤ n → F (i * 13 + k) ≤ F (i * 13 + j) + F (j * 13 + k)
 dg : ∀ i, i ≤ n → F (i * 13 + i) = 0
 ub : ∀ i j, i ≤ n → j ≤ n → F (i * 13 + j) ≤ 4000
theorem Gd.lb {n : Nat} {F : Nat → Int} (h : Gd n F) {i j : Nat} (hi : i ≤ n) (hj : j ≤ n) : -4000 ≤ F (i * 13 + j) := by
 have := h.tri i j i hi hj hi
 have := h.dg i hi
 have := h.ub j i hj hi
 omega
def rowS (n f g : Nat) (m : Int) (F : Nat → Int) (k : Nat) : Nat → Int := fun q => if q / 13 < k ∧ q % 13 ≤ n then min (F q) (F (q / 13 * 13 + f) + m + F (g * 13 + q % 13)) else F q
theorem kX {n f g N : Nat} {m : Int} {F : Nat → Int} (hn : n ≤ 12) (hf : f ≤ n) (hg : g ≤ n) (h : Gd n F) (hm : -1000000 ≤ m ∧ m ≤ 1000000) (hc : 0 ≤ m + F (g * 13 + f)) (hN : n + 1 < N) :
  iter (lO N ((n : Int) + 1) f g m) N ((0 : Int), F) = some (rowS n f g m F (n + 1)) := by
 refine yA (fun k => ((k : Int), rowS n f g m F k)) (n + 1) _ ?_ (fun k hk => ?_) ?_ hN
 ·refine Prod.ext rfl ?_
  funext q
  unfold rowS
  dsimp only
  rw [if_neg (by omega)]
 ·have e1 : ∀ j, j ≤ n → rowS n f g m F k (k * 13 + j) = F (k * 13 + j) := fun j hj => by unfold rowS; rw [if_neg (by omega)]
  have e2 : ∀ j, j ≤ n → rowS n f g m F k (g * 13 + j) = F (g * 13 + j) := fun j hj => by
   unfold rowS
   split
   ·rw [dv (by omega), md (by omega)]; omega
   ·rfl
  have b1 := h.ub k f (by omega) hf
  have b2 := h.lb (i := k) (j := f) (by omega) hf
  unfold lO
  simp only [toN]
  rw [show decide ((k : Int) < (n : Int) + 1) = true from decide_eq_true (by omega), cond_true, zp (by omega), zp (by omega), e1 f hf, e1 g hg, zp (by unfold rng; omega), zp (by omega), zp (by omega)]
  have hr : rng ((k : Int) + 1) := by unfold rng; omega
  by_cases hs : F (k * 13 + g) ≤ F (k * 13 + f) + m
  ·rw [decide_eq_true hs, cond_true, zp hr]
   congr 3
   funext q
   unfold rowS
   by_cases h1 : q / 13 < k ∧ q % 13 ≤ n
   ·rw [if_pos h1, if_pos (by omega)]
   ·rw [if_neg h1]
    by_cases h2 : q / 13 = k ∧ q % 13 ≤ n
    ·rw [if_pos (by omega)]
     have t := h.tri k g (q % 13) (by omega) hg h2.2
     rw [h2.1]
     have e : F q = F (k * 13 + q % 13) := congrArg F (by omega)
     rw [e]; omega
    ·rw [if_neg (by omega)]
  ·have hne : g ≠ k := fun e => by
    subst e
    have := h.dg g hg
    omega
   rw [decide_eq_false hs, cond_false, lI_run hn (by omega) hf hg hne (fun j hj => by
    rw [e1 f hf, e2 j hj]
    have := h.ub g j hg hj
    have := h.lb (i := g) (j := j) hg hj
    unfold rng; omega) hN, zn, zp hr]
   congr 3
   funext q
   unfold rowR
   by_cases h2 : q / 13 = k ∧ q % 13 < n + 1
   ·rw [if_pos h2, e1 f hf, e2 (q % 13) (by omega)]
    unfold rowS
    rw [if_neg (by omega), if_pos (by omega), h2.1]
   ·rw [if_neg h2]
    unfold rowS
    by_cases h1 : q / 13 < k ∧ q % 13 ≤ n
    ·rw [if_pos h1, if_pos (by omega)]
    ·rw [if_neg h1, if_neg (by omega)]
 ·unfold lO
  dsimp only
  rw [show decide (((n + 1 : Nat) : Int) < (n : Int) + 1) = false from decide_eq_false (by omega), cond_false]
theorem s21 {N : Nat} {a b c d : Int} : sf59 N a b c d = some (a, b, c, d) := rfl
theorem s37 {N : Nat} {a b c : Int} : sf98 N a b c = some (decide (b ≤ a ∧ a ≤ c)) := by
 unfold sf98
 by_cases h : b ≤ a
 ·rw [decide_eq_true h, cond_true]; simp [h]
 ·rw [decide_eq_false h, cond_false]; simp [h]
theorem s48 {N : Nat} {p q a b : Int} : sf124 N p q a b = some (decide (a ≤ p ∧ p ≤ q ∧ q ≤ b)) := by
 unfold sf124
 rw [s37, zn]
 by_cases h : a ≤ p ∧ p ≤ q
 ·rw [decide_eq_true h, cond_true]; simp [h]
 ·rw [decide_eq_false h, cond_false]
  congr 1
  exact (decide_eq_false fun h' => h ⟨h'.1, h'.2.1⟩).symm
theorem s83 {N : Nat} {p q a b : Int} : sf169 N p q a b = some (decide (a ≤ p ∧ p ≤ q ∧ q ≤ b)) := by
 unfold sf169
 by_cases h : a ≤ p <;> by_cases h2 : p ≤ q <;> simp [h, h2]
theorem s66 {N : Nat} {p q x : Int} : sf180 N p q x = some (decide (p ≤ x ∧ x ≤ q)) := by
 unfold sf180
 by_cases h : p ≤ x <;> simp [h]
def TubeOk (n t lo hi : Int) : Prop := 1 ≤ n ∧ n ≤ 10 ∧ (1 ≤ lo ∧ lo ≤ hi ∧ hi ≤ 200) ∧ 1 ≤ t ∧ t ≤ 2000 ∧ n * lo ≤ t ∧ t ≤ n * hi
instance {n t lo hi : Int} : Decidable (TubeOk n t lo hi) := by unfold TubeOk; infer_instance
theorem kQ {n a : Int} (h1 : 1 ≤ n) (h2 : n ≤ 10) (h3 : 1 ≤ a) (h4 : a ≤ 200) : 1 ≤ n * a ∧ n * a ≤ 2000 := by
 have q1 : 1 * a ≤ n * a := Int.mul_le_mul_of_nonneg_right h1 (by omega)
 have q2 : n * a ≤ 10 * a := Int.mul_le_mul_of_nonneg_right h2 (by omega)
 omega
theorem s25 {N : Nat} {n t lo hi : Int} : sf123 N n t lo hi = some (decide (TubeOk n t lo hi)) := by
 unfold sf123
 rw [s37, zn]
 by_cases h1 : 1 ≤ n ∧ n ≤ 10
 ·rw [decide_eq_true h1, cond_true, s48, zn]
  by_cases h2 : 1 ≤ lo ∧ lo ≤ hi ∧ hi ≤ 200
  ·rw [decide_eq_true h2, cond_true, s37, zn]
   by_cases h3 : 1 ≤ t ∧ t ≤ 2000
   ·have b1 := kQ (a := lo) h1.1 h1.2 (by omega) (by omega)
    have b2 := kQ (a := hi) h1.1 h1.2 (by omega) (by omega)
    rw [decide_eq_true h3, cond_true, zp (by unfold rng; omega), zp (by unfold rng; omega), s37, zn]
    congr 1
    by_cases h4 : n * lo ≤ t ∧ t ≤ n * hi
    ·rw [decide_eq_true h4]; exact (decide_eq_true ⟨h1.1, h1.2, h2, h3.1, h3.2, h4⟩).symm
    ·rw [decide_eq_false h4]; exact (decide_eq_false fun q => h4 q.2.2.2.2.2).symm
   ·rw [decide_eq_false h3, cond_false]
    congr 1
    exact (decide_eq_false fun q => h3 ⟨q.2.2.2.1, q.2.2.2.2.1⟩).symm
  ·rw [decide_eq_false h2, cond_false]
   congr 1
   exact (decide_eq_false fun q => h2 q.2.2.1).symm
 ·rw [decide_eq_false h1, cond_false]
  congr 1
  exact (decide_eq_false fun q => h1 ⟨q.1, q.2.1⟩).symm
theorem s23 {N : Nat} {l : List (Int × Int × Int × Int)} (h : l.length ≤ 100) (hN : 1000 ≤ N) : sf60 N l = some l := by
 unfold sf60
 have e : iter (sf60_L1 N l) N (([] : List (Int × Int × Int × Int)), (0 : Int)) = some l := by
  refine yA (fun j => (l.take j, (j : Int))) l.length l rfl (fun j hj => ?_) ?_ (by omega)
  ·obtain ⟨z, hz⟩ : ∃ z, l[j]? = some z := ⟨_, yd hj⟩
   unfold sf60_L1
   dsimp only
   rw [decide_eq_true (by omega), cond_true, yb rfl hz, yb rfl hz, yb rfl hz]
   show bnd (some (z.2.2.1, z.2.2.2)) _ = _
   rw [zn, zp (by rw [List.length_take]; omega), zp (by unfold rng; omega), vJ hz]
   rfl
  ·unfold sf60_L1
   dsimp only
   rw [decide_eq_false (by omega), cond_false, List.take_length]
 rw [e, zn]
theorem s63 {N : Nat} {n t lo hi : Int} : sf168 N n t lo hi = some (decide (TubeOk n t lo hi)) := by
 unfold sf168
 by_cases h1 : n < 1
 ·rw [decide_eq_true h1, cond_true, zn, cond_true, zn]
  show some false = _
  congr 1
  exact (decide_eq_false fun q => by have := q.1; omega).symm
 rw [decide_eq_false h1, cond_false]
 by_cases h2 : 10 < n
 ·rw [decide_eq_true h2, cond_true, zn, cond_true, zn]
  show some false = _
  congr 1
  exact (decide_eq_false fun q => by have := q.2.1; omega).symm
 rw [decide_eq_false h2, cond_false, s83, zn]
 by_cases h3 : 1 ≤ lo ∧ lo ≤ hi ∧ hi ≤ 200
 ·have b1 := kQ (n := n) (a := lo) (by omega) (by omega) (by omega) (by omega)
  have b2 := kQ (n := n) (a := hi) (by omega) (by omega) (by omega) (by omega)
  rw [decide_eq_true h3, zn]
  show ck _ _ = _
  rw [zp (by unfold rng; omega), zp (by unfold rng; omega)]
  by_cases h4 : t ≤ 2000
  ·rw [decide_eq_true h4, cond_true, s66, zn]
   congr 1
   by_cases h5 : n * lo ≤ t ∧ t ≤ n * hi
   ·rw [decide_eq_true h5]; exact (decide_eq_true ⟨by omega, by omega, h3, by omega, h4, h5⟩).symm
   ·rw [decide_eq_false h5]; exact (decide_eq_false fun q => h5 q.2.2.2.2.2).symm
  ·rw [decide_eq_false h4, cond_false]
   congr 1
   exact (decide_eq_false fun q => h4 q.2.2.2.2.1).symm
 ·rw [decide_eq_false h3, zn]
  show some false = _
  congr 1
  exact (decide_eq_false fun q => h3 q.2.2.1).symm
theorem s20 {N : Nat} {n t lo hi : Int} : sf150 N n t lo hi = some (if TubeOk n t lo hi then 0 else 1) := by
 unfold sf150
 rw [s63, zn]
 by_cases h : TubeOk n t lo hi
 ·rw [decide_eq_true h, if_pos h]; rfl
 ·rw [decide_eq_false h, if_neg h]; rfl
def RdOk' (n : Int) (r : Int × Int × Int × Int) : Prop := (0 ≤ r.1 ∧ r.1 < n) ∧ (r.1 ≤ r.2.1 ∧ r.2.1 ≤ n) ∧ 0 ≤ r.2.2.1 ∧ r.2.2.1 ≤ r.2.2.2 ∧ r.2.2.2 ≤ 2000
instance {n : Int} {r : Int × Int × Int × Int} : Decidable (RdOk' n r) := by unfold RdOk'; infer_instance
theorem s86 {N : Nat} {n t lo hi : Int} {r : Int × Int × Int × Int} : sf152 N n t lo hi r.1 r.2.1 r.2.2.1 r.2.2.2 = some (decide (RdOk' n r)) := by
 unfold sf152
 rw [s83, zn]
 by_cases h1 : 0 ≤ r.1
 ·by_cases h2 : r.1 < n
  ·by_cases h3 : r.1 ≤ r.2.1
   ·by_cases h4 : r.2.1 ≤ n
    ·rw [decide_eq_true h1, decide_eq_true h2, decide_eq_true h3, decide_eq_true h4, cond_true, cond_true, cond_true, cond_true]
     congr 1
     by_cases h5 : 0 ≤ r.2.2.1 ∧ r.2.2.1 ≤ r.2.2.2 ∧ r.2.2.2 ≤ 2000
     ·rw [decide_eq_true h5]; exact (decide_eq_true ⟨⟨h1, h2⟩, ⟨h3, h4⟩, h5⟩).symm
     ·rw [decide_eq_false h5]; exact (decide_eq_false fun q => h5 q.2.2).symm
    ·rw [decide_eq_true h1, decide_eq_true h2, decide_eq_true h3, decide_eq_false h4, cond_true, cond_true, cond_true, cond_false]
     congr 1; exact (decide_eq_false fun q => h4 q.2.1.2).symm
   ·rw [decide_eq_true h1, decide_eq_true h2, decide_eq_false h3, cond_true, cond_true, cond_false]
    congr 1; exact (decide_eq_false fun q => h3 q.2.1.1).symm
  ·rw [decide_eq_true h1, decide_eq_false h2, cond_true, cond_false]
   congr 1; exact (decide_eq_false fun q => h2 q.1.2).symm
 ·rw [decide_eq_false h1, cond_false]
  congr 1; exact (decide_eq_false fun q => h1 q.1.1).symm
def AllP {α : Type} (p : α → Prop) (l : List α) : Prop := ∀ x, x ∈ l → p x
theorem um {α ε : Type} {bad : ε} {step : Int → Option (Int ⊕ (ε ⊕ Unit))} {l : List α} {p : α → Prop} [DecidablePred p] {N : Nat} (hN : l.length < N)
  (hs : ∀ (j : Nat) z, l[j]? = some z → p z → step (j : Int) = some (.inl ((j : Int) + 1)))
  (hf : ∀ (j : Nat) z, l[j]? = some z → ¬ p z → step (j : Int) = some (.inr (.inl bad)))
  (he : step (l.length : Int) = some (.inr (.inr ()))) : (AllP p l ∧ iter step N 0 = some (.inr ())) ∨ (¬ AllP p l ∧ iter step N 0 = some (.inl bad)) := by
 have H : ((∀ j, j < l.length → ∀ z, l[j]? = some z → p z) ∧ iter step N (0 : Int) = some (.inr ())) ∨ (¬ (∀ j, j < l.length → ∀ z, l[j]? = some z → p z) ∧ iter step N (0 : Int) = some (.inl bad)) := by
  haveI : DecidablePred fun (j : Nat) => ∀ z, l[j]? = some z → p z := fun j => Classical.propDecidable _
  refine j5 (fun j => (j : Int)) l.length (fun j => ∀ z, l[j]? = some z → p z) (Sum.inr () : ε ⊕ Unit) (Sum.inl bad : ε ⊕ Unit) rfl (fun j hj hp => ?_) (fun j hj hp => ?_) he hN
  ·obtain ⟨z, hz⟩ : ∃ z, l[j]? = some z := ⟨_, yd hj⟩
   exact hs j z hz (hp z hz)
  ·obtain ⟨z, hz⟩ : ∃ z, l[j]? = some z := ⟨_, yd hj⟩
   exact hf j z hz fun q => hp fun z' hz' => by rw [hz] at hz'; cases hz'; exact q
 rcases H with ⟨h1, h2⟩ | ⟨h1, h2⟩
 ·refine .inl ⟨fun x hx => ?_, h2⟩
  obtain ⟨j, hj, rfl⟩ := List.getElem_of_mem hx
  exact h1 j hj _ (yd hj)
 ·exact .inr ⟨fun q => h1 fun j hj z hz => q z (List.mem_of_getElem? hz), h2⟩
instance {α : Type} {p : α → Prop} [DecidablePred p] {l : List α} : Decidable (AllP p l) := inferInstanceAs (Decidable (∀ x, x ∈ l → p x))
theorem s68 {N : Nat} {n t lo hi : Int} {l : List (Int × Int × Int × Int)} (h : l.length ≤ 100) (hN : 1000 ≤ N) : sf151 N l n t lo hi = some (decide (AllP (RdOk' n) l)) := by
 unfold sf151
 rcases um (step := sf151_L1 N l n t lo hi) (l := l) (p := RdOk' n) (N := N) (by omega) (by
   intro j z hz hp
   have := yI hz
   unfold sf151_L1
   rw [decide_eq_true (by omega), cond_true, yb rfl hz, s86, zn, decide_eq_true hp, Bool.not_true, cond_false, zp (by unfold rng; omega)]) (by
   intro j z hz hp
   have := yI hz
   unfold sf151_L1
   rw [decide_eq_true (by omega), cond_true, yb rfl hz, s86, zn, decide_eq_false hp]
   rfl) (by
   unfold sf151_L1
   rw [decide_eq_false (by omega), cond_false]) with ⟨hA, e⟩ | ⟨hA, e⟩
 ·rw [e, zn, decide_eq_true hA]; rfl
 ·rw [e, zn, decide_eq_false hA]; rfl
theorem s64 {N : Nat} {n t lo hi : Int} {l : List (Int × Int × Int × Int)} (h : l.length ≤ 100) (hN : 1000 ≤ N) : sf134 N n t lo hi l = some (if TubeOk n t lo hi then if l.length ≤ 12 then if AllP (RdOk' n) l then 0 else 2 else 3 else 1) := by
 unfold sf134
 rw [s20, zn]
 by_cases h1 : TubeOk n t lo hi
 ·rw [if_pos h1, if_pos h1]
  show (bif (decide ((12 : Int) < (l.length : Int))) then _ else _) = _
  by_cases h2 : l.length ≤ 12
  ·rw [decide_eq_false (by omega), cond_false, if_pos h2, s68 h hN, zn]
   by_cases h3 : AllP (RdOk' n) l
   ·rw [decide_eq_true h3, if_pos h3]; rfl
   ·rw [decide_eq_false h3, if_neg h3]; rfl
  ·rw [decide_eq_true (by omega), cond_true, if_neg h2]
 ·rw [if_neg h1, if_neg h1]; rfl
theorem s70 {N : Nat} {n t lo hi : Int} {l : List (Int × Int × Int × Int)} (h : l.length ≤ 100) (hN : 1000 ≤ N) : sf84 N n t lo hi l = some (if TubeOk n t lo hi then if l.length ≤ 12 then if AllP (RdOk' n) l then 0 else 2 else 3 else 1) := by
 unfold sf84
 rw [s25, zn]
 by_cases h1 : TubeOk n t lo hi
 ·rw [decide_eq_true h1, if_pos h1]
  show (bif (decide ((12 : Int) < (l.length : Int))) then _ else _) = _
  by_cases h2 : l.length ≤ 12
  ·rw [decide_eq_false (by omega), cond_false, if_pos h2]
   have hn : 1 ≤ n ∧ n ≤ 10 := ⟨h1.1, h1.2.1⟩
   have key : ∀ z : Int × Int × Int × Int, (ck (rng (n - 1)) (bnd (sf98 N z.1 0 (n - 1)) fun v76 => (bif (!v76) then some true else (bnd (sf98 N z.2.1 z.1 n) fun v80 => (bif (!v80) then some true else (bnd (sf124 N z.2.2.1 z.2.2.2 0 2000) fun v84 => some (!v84))))))) = some (!(decide (RdOk' n z))) := fun z => by
    rw [zp (by unfold rng; omega), s37, zn]
    by_cases a1 : 0 ≤ z.1 ∧ z.1 ≤ n - 1
    ·rw [decide_eq_true a1]
     show bnd _ _ = _
     rw [s37, zn]
     by_cases a2 : z.1 ≤ z.2.1 ∧ z.2.1 ≤ n
     ·rw [decide_eq_true a2]
      show bnd _ _ = _
      rw [s48, zn]
      by_cases a3 : 0 ≤ z.2.2.1 ∧ z.2.2.1 ≤ z.2.2.2 ∧ z.2.2.2 ≤ 2000
      ·rw [decide_eq_true a3, decide_eq_true (p := RdOk' n z) ⟨⟨a1.1, by omega⟩, a2, a3⟩]
      ·rw [decide_eq_false a3, decide_eq_false (p := RdOk' n z) fun q => a3 q.2.2]
     ·rw [decide_eq_false a2, decide_eq_false (p := RdOk' n z) fun q => a2 q.2.1]; rfl
    ·rw [decide_eq_false a1, decide_eq_false (p := RdOk' n z) fun q => a1 ⟨q.1.1, by have := q.1.2; omega⟩]; rfl
   rcases um (step := sf84_L1 N n l) (l := l) (p := RdOk' n) (N := N) (by omega) (by
     intro j z hz hp
     have := yI hz
     unfold sf84_L1
     rw [decide_eq_true (by omega), cond_true, yb rfl hz, key, zn, decide_eq_true hp, Bool.not_true, cond_false, zp (by unfold rng; omega)]) (by
     intro j z hz hp
     have := yI hz
     unfold sf84_L1
     rw [decide_eq_true (by omega), cond_true, yb rfl hz, key, zn, decide_eq_false hp]
     rfl) (by
     unfold sf84_L1
     rw [decide_eq_false (by omega), cond_false]) with ⟨hA, e⟩ | ⟨hA, e⟩
   ·rw [e, zn, if_pos hA]; rfl
   ·rw [e, zn, if_neg hA]; rfl
  ·rw [decide_eq_true (by omega), cond_true, if_neg h2]
 ·rw [decide_eq_false h1, if_neg h1]; rfl
def hs (l : List Int) (j : Nat) : Int := (l.take j).sum
theorem jx {l : List Int} {j : Nat} {x : Int} (h : l[j]? = some x) : hs l (j + 1) = hs l j + x := by
 unfold hs
 rw [vJ h, List.sum_append]
 simp
def Vol (x : Int) : Prop := 0 ≤ x ∧ x ≤ 200
theorem hs_b {l : List Int} (h : AllP Vol l) : ∀ j, j ≤ l.length → 0 ≤ hs l j ∧ hs l j ≤ 200 * j
 | 0, _ => by unfold hs; simp
 | j + 1, hj => by
  have ih := hs_b h j (by omega)
  obtain ⟨x, hx⟩ : ∃ x, l[j]? = some x := ⟨_, yd (by omega)⟩
  have := h x (List.mem_of_getElem? hx)
  unfold Vol at this
  rw [jx hx]; omega
theorem s38 {N : Nat} {l : List Int} {a : Nat} (ha : a ≤ l.length) (hl : l.length ≤ 15) (hb : AllP Vol l) (hN : 1000 ≤ N) : sf56 N l a = some (hs l a) := by
 unfold sf56
 have e : iter (sf56_L1 l a) N ((0 : Int), (0 : Int)) = some (hs l a) := by
  refine yA (fun j => (hs l j, (j : Int))) a _ rfl (fun j hj => ?_) ?_ (by omega)
  ·obtain ⟨x, hx⟩ : ∃ x, l[j]? = some x := ⟨_, yd (by omega)⟩
   have b := hs_b hb (j + 1) (by omega)
   unfold sf56_L1
   dsimp only
   rw [jx hx] at *
   rw [decide_eq_true (by omega), cond_true, yb rfl hx, zp (by unfold rng; omega), zp (by unfold rng; omega)]
   rfl
  ·unfold sf56_L1
   dsimp only
   rw [decide_eq_false (by omega), cond_false]
 rw [e, zn]
def InV (lo hi : Int) (x : Int) : Prop := lo ≤ x ∧ x ≤ hi
instance {lo hi x : Int} : Decidable (InV lo hi x) := by unfold InV; infer_instance
theorem sL {α β γ : Type} {f : α → Option γ} {g : β → Option γ} {x : α} : sel f g (.inl x) = f x := rfl
theorem sR {α β γ : Type} {f : α → Option γ} {g : β → Option γ} {x : β} : sel f g (.inr x) = g x := rfl
def uV (lo hi : Int) (a b : Nat) : Int := if a ≤ b then ((b : Int) - a) * hi else ((b : Int) - a) * lo
def uF (n : Nat) (lo hi : Int) (i j : Nat) : Nat → Int := fun q => if q / 13 ≤ n ∧ q % 13 ≤ n ∧ (min (q / 13) (q % 13) < i ∨ (min (q / 13) (q % 13) = i ∧ max (q / 13) (q % 13) < j)) then uV lo hi (q / 13) (q % 13) else 0
theorem jn {d a : Int} (h1 : 0 ≤ d) (h2 : d ≤ 12) (h3 : 1 ≤ a) (h4 : a ≤ 200) : 0 ≤ d * a ∧ d * a ≤ 2400 := by
 have q1 : 0 * a ≤ d * a := Int.mul_le_mul_of_nonneg_right h1 (by omega)
 have q2 : d * a ≤ 12 * a := Int.mul_le_mul_of_nonneg_right h2 (by omega)
 omega
theorem u_in {n i N : Nat} {lo hi : Int} (hn : n ≤ 12) (hi' : i ≤ n) (h1 : 1 ≤ lo ∧ lo ≤ 200) (h2 : 1 ≤ hi ∧ hi ≤ 200) (hN : 100 ≤ N) :
  iter (sf153_L1 n lo hi ((i : Int), uF n lo hi i i)) N ((i : Int), uF n lo hi i i) = some (uF n lo hi i (n + 1)) := by
 refine yA (fun k => (((i + k : Nat) : Int), uF n lo hi i (i + k))) (n + 1 - i) _ rfl (fun k hk => ?_) ?_ (by omega)
 ·unfold sf153_L1
  dsimp only
  obtain ⟨j, hj⟩ : ∃ j, j = i + k := ⟨_, rfl⟩
  rw [show i + (k + 1) = j + 1 by omega, ← hj]
  have m1 := jn (d := (j : Int) - i) (a := hi) (by omega) (by omega) h2.1 h2.2
  have m2 := jn (d := (j : Int) - i) (a := lo) (by omega) (by omega) h1.1 h1.2
  have m3 : ((i : Int) - j) * lo = -(((j : Int) - i) * lo) := by rw [← Int.neg_mul]; congr 1; omega
  rw [decide_eq_true (by omega), cond_true, zp (by unfold rng; omega), zp (by unfold rng; omega), zp (by omega), zp (by omega), zp (by unfold rng; omega), zp (by rw [m3]; unfold rng; omega), zp (by omega), zp (by omega), zp (by unfold rng; omega), toN, toN]
  congr 3
  funext q
  unfold ups uF
  by_cases q1 : q = j * 13 + i
  ·rw [if_pos q1, if_pos (by omega), q1, dv (by omega), md (by omega)]
   unfold uV
   by_cases e : j ≤ i
   ·have : i = j := by omega
    subst this
    rw [if_pos (Nat.le_refl _)]; simp
   ·rw [if_neg e]
  ·rw [if_neg q1]
   by_cases q2 : q = i * 13 + j
   ·rw [if_pos q2, if_pos (by omega), q2, dv (by omega), md (by omega)]
    unfold uV
    rw [if_pos (by omega)]
   ·rw [if_neg q2]
    by_cases c : q / 13 ≤ n ∧ q % 13 ≤ n ∧ (min (q / 13) (q % 13) < i ∨ (min (q / 13) (q % 13) = i ∧ max (q / 13) (q % 13) < j))
    ·rw [if_pos c, if_pos (by omega)]
    ·rw [if_neg c, if_neg (by omega)]
 ·unfold sf153_L1
  dsimp only
  rw [show i + (n + 1 - i) = n + 1 by omega, decide_eq_false (by omega), cond_false]
theorem u_out {n N : Nat} {lo hi : Int} (hn : n ≤ 12) (h1 : 1 ≤ lo ∧ lo ≤ 200) (h2 : 1 ≤ hi ∧ hi ≤ 200) (hN : 100 ≤ N) :
  iter (sf153_L2 N n lo hi) N ((0 : Int), (fun _ => 0)) = some (uF n lo hi (n + 1) (n + 1)) := by
 refine yA (fun i => ((i : Int), uF n lo hi i i)) (n + 1) _ ?_ (fun i hi' => ?_) ?_ (by omega)
 ·refine Prod.ext rfl ?_
  funext q
  unfold uF
  dsimp only
  rw [if_neg (by omega)]
 ·unfold sf153_L2
  dsimp only
  rw [decide_eq_true (by omega), cond_true, u_in hn (by omega) h1 h2 hN, zn, zp (by unfold rng; omega)]
  congr 3
  funext q
  unfold uF
  by_cases c : q / 13 ≤ n ∧ q % 13 ≤ n ∧ (min (q / 13) (q % 13) < i ∨ (min (q / 13) (q % 13) = i ∧ max (q / 13) (q % 13) < n + 1))
  ·rw [if_pos c, if_pos (by omega)]
  ·rw [if_neg c, if_neg (by omega)]
 ·unfold sf153_L2
  dsimp only
  rw [decide_eq_false (by omega), cond_false]
theorem uI {n i j : Nat} {lo hi : Int} (hn : n ≤ 12) (h1 : i ≤ n) (h2 : j ≤ n) : uF n lo hi (n + 1) (n + 1) (i * 13 + j) = uV lo hi i j := by
 unfold uF
 rw [if_pos (by omega), dv (by omega), md (by omega)]
theorem kN {lo hi : Int} {i j : Nat} (h : lo ≤ hi) : uV lo hi i j = max (((j : Int) - i) * lo) (((j : Int) - i) * hi) := by
 unfold uV
 by_cases d : i ≤ j
 ·rw [if_pos d]
  have := Int.mul_le_mul_of_nonneg_left h (show 0 ≤ (j : Int) - i by omega)
  omega
 ·rw [if_neg d]
  have := Int.mul_le_mul_of_nonneg_left h (show 0 ≤ -((j : Int) - i) by omega)
  rw [Int.neg_mul, Int.neg_mul] at this
  omega
theorem gd_u {n : Nat} {lo hi : Int} (hn : n ≤ 12) (h1 : 1 ≤ lo) (h2 : lo ≤ hi) (h3 : hi ≤ 200) : Gd n (uF n lo hi (n + 1) (n + 1)) := by
 refine ⟨fun i j k a b c => ?_, fun i a => ?_, fun i j a b => ?_⟩
 ·rw [uI hn a c, uI hn a b, uI hn b c, kN h2, kN h2, kN h2, show (k : Int) - i = ((j : Int) - i) + ((k : Int) - j) by omega, Int.add_mul, Int.add_mul]
  omega
 ·rw [uI hn a a, kN h2, show (i : Int) - i = 0 by omega, Int.zero_mul, Int.zero_mul]; rfl
 ·rw [uI hn a b]
  unfold uV
  by_cases d : i ≤ j
  ·rw [if_pos d]
   have := jn (d := (j : Int) - i) (a := hi) (by omega) (by omega) (by omega) (by omega)
   omega
  ·rw [if_neg d]
   have := jn (d := (i : Int) - j) (a := lo) (by omega) (by omega) (by omega) (by omega)
   rw [show (j : Int) - i = -((i : Int) - j) by omega, Int.neg_mul]
   omega
theorem y3 {n f g i j : Nat} {m : Int} {F : Nat → Int} (hn : n ≤ 12) (h1 : i ≤ n) (h2 : j ≤ n) : rowS n f g m F (n + 1) (i * 13 + j) = min (F (i * 13 + j)) (F (i * 13 + f) + m + F (g * 13 + j)) := by
 unfold rowS
 rw [if_pos (by omega), dv (by omega), md (by omega)]
theorem j7 {n f g : Nat} {m : Int} {F : Nat → Int} (hn : n ≤ 12) (h : Gd n F) (hf : f ≤ n) (hg : g ≤ n) (hm : 0 ≤ m + F (g * 13 + f)) : Gd n (rowS n f g m F (n + 1)) := by
 refine ⟨fun i j k hi hj hk => ?_, fun i hi => ?_, fun i j hi hj => ?_⟩
 ·rw [y3 hn hi hk, y3 hn hi hj, y3 hn hj hk]
  have := h.tri i j k hi hj hk
  have := h.tri i j f hi hj hf
  have := h.tri g j k hg hj hk
  have := h.tri g j f hg hj hf
  omega
 ·rw [y3 hn hi hi, h.dg i hi]
  have := h.tri g i f hg hi hf
  omega
 ·rw [y3 hn hi hj]
  have := h.ub i j hi hj
  omega
theorem s103 {N : Nat} {a b c d e : Int} {F : Nat → Int} {x y n : Nat} {m : Int} (hn : n ≤ 12) (hx : x ≤ n) (hy : y ≤ n) (h : Gd n F) (hm : -1000000 ≤ m ∧ m ≤ 1000000) : sf181 N a b c d e F x y m = some (decide (0 ≤ m + F (y * 13 + x))) := by
 have := h.lb (i := y) (j := x) hy hx
 have := h.ub y x hy hx
 unfold sf181
 rw [zp (by omega), zp (by omega), toN, toN, zp (by unfold rng; omega)]
def unr (n : Nat) (t lo hi : Int) : Nat → Int := rowS n n 0 (-t) (rowS n 0 n t (uF n lo hi (n + 1) (n + 1)) (n + 1)) (n + 1)
theorem s97 {N n : Nat} {t lo hi : Int} (ht : TubeOk n t lo hi) (hN : 1000 ≤ N) : sf153 N n t lo hi = some ((n : Int), t, lo, hi, (n : Int) + 1, unr n t lo hi) ∧ Gd n (unr n t lo hi) ∧
  (∀ i, i ≤ n → unr n t lo hi (0 * 13 + i) = min ((i : Int) * hi) (t - ((n : Int) - i) * lo)) ∧ (∀ i, i ≤ n → unr n t lo hi (i * 13 + 0) = -(max ((i : Int) * lo) (t - ((n : Int) - i) * hi))) := by
 obtain ⟨t1, t2, ⟨t3, t4, t5⟩, t6, t7, t8, t9⟩ := ht
 have hn : n ≤ 12 := by omega
 have g0 := gd_u hn t3 t4 t5
 have e0 : ∀ i j, i ≤ n → j ≤ n → uF n lo hi (n + 1) (n + 1) (i * 13 + j) = uV lo hi i j := fun i j a b => uI hn a b
 have un0 : ∀ i, i ≤ n → uV lo hi i 0 = -((i : Int) * lo) := fun i a => by
  unfold uV
  by_cases d : i ≤ 0
  ·have : i = 0 := by omega
   subst this; simp
  ·rw [if_neg d, show ((0 : Nat) : Int) - i = -(i : Int) by omega, Int.neg_mul]
 have u0n : ∀ i, uV lo hi 0 i = (i : Int) * hi := fun i => by
  unfold uV
  rw [if_pos (Nat.zero_le _), show (i : Int) - ((0 : Nat) : Int) = i by omega]
 have unn : ∀ i, i ≤ n → uV lo hi n i = -(((n : Int) - i) * lo) := fun i a => by
  unfold uV
  by_cases d : n ≤ i
  ·have : i = n := by omega
   subst this
   rw [if_pos (Nat.le_refl _), show (i : Int) - i = 0 by omega, Int.zero_mul, Int.zero_mul]; rfl
  ·rw [if_neg d, show (i : Int) - n = -((n : Int) - i) by omega, Int.neg_mul]
 have uin : ∀ i, i ≤ n → uV lo hi i n = ((n : Int) - i) * hi := fun i a => by
  unfold uV
  rw [if_pos a]
 have c1 : 0 ≤ t + uF n lo hi (n + 1) (n + 1) (n * 13 + 0) := by rw [e0 n 0 (Nat.le_refl _) (Nat.zero_le _), un0 n (Nat.le_refl _)]; omega
 have g1 := j7 hn g0 (Nat.zero_le _) (Nat.le_refl _) c1
 have r1 : ∀ i j, i ≤ n → j ≤ n → rowS n 0 n t (uF n lo hi (n + 1) (n + 1)) (n + 1) (i * 13 + j) = min (uV lo hi i j) (uV lo hi i 0 + t + uV lo hi n j) := fun i j a b => by
  rw [y3 hn a b, e0 i j a b, e0 i 0 a (Nat.zero_le _), e0 n j (Nat.le_refl _) b]
 have z0 : uV lo hi 0 0 = 0 := by rw [u0n]; simp
 have f0n : rowS n 0 n t (uF n lo hi (n + 1) (n + 1)) (n + 1) (0 * 13 + n) = t := by
  rw [r1 0 n (Nat.zero_le _) (Nat.le_refl _), u0n, z0, unn n (Nat.le_refl _), show (n : Int) - n = 0 by omega, Int.zero_mul]
  omega
 have c2 : 0 ≤ -t + rowS n 0 n t (uF n lo hi (n + 1) (n + 1)) (n + 1) (0 * 13 + n) := by rw [f0n]; omega
 have g2 := j7 hn g1 (Nat.le_refl _) (Nat.zero_le _) c2
 refine ⟨?_, g2, fun i a => ?_, fun i a => ?_⟩
 ·unfold sf153
  have q1 := s103 (N := N) (a := n) (b := t) (c := lo) (d := hi) (e := (n : Int) + 1) (x := 0) (y := n) (m := t) hn (Nat.zero_le _) (Nat.le_refl _) g0 (by omega)
  have q2 := s103 (N := N) (a := n) (b := t) (c := lo) (d := hi) (e := (n : Int) + 1) (x := n) (y := 0) (m := -t) hn (Nat.le_refl _) (Nat.zero_le _) g1 (by omega)
  have w1 := kX (N := N) hn (Nat.zero_le _) (Nat.le_refl n) g0 (m := t) (by omega) c1 (by omega)
  have w2 := kX (N := N) hn (Nat.le_refl n) (Nat.zero_le _) g1 (m := -t) (by omega) c2 (by omega)
  rw [zp (by unfold rng; omega), u_out hn ⟨t3, by omega⟩ ⟨by omega, t5⟩ (by omega), zn, show (0 : Int) = ((0 : Nat) : Int) from rfl, q1, zn, decide_eq_true c1, Bool.not_true, cond_false, l97_6]
  show bnd (iter (lO N ((n : Int) + 1) ((0 : Nat) : Int) n t) N ((0 : Int), _)) _ = _
  rw [w1, zn, zp (by unfold rng; omega), q2, zn, decide_eq_true c2, Bool.not_true, cond_false, l97_8]
  show bnd (iter (lO N ((n : Int) + 1) n ((0 : Nat) : Int) (-t)) N ((0 : Int), _)) _ = _
  rw [w2, zn]
  rfl
 ·unfold unr
  rw [y3 hn (Nat.zero_le _) a, f0n, r1 0 i (Nat.zero_le _) a, u0n, z0, unn i a]
  omega
 ·unfold unr
  have := un0 n (Nat.le_refl _)
  rw [y3 hn a (Nat.zero_le _), r1 i 0 a (Nat.zero_le _), r1 i n a (Nat.le_refl _), r1 0 0 (Nat.zero_le _) (Nat.zero_le _), z0, un0 i a, this, uin i a, unn n (Nat.le_refl _), show (n : Int) - n = 0 by omega, Int.zero_mul]
  omega
def SatF (n : Nat) (F : Nat → Int) (p : Nat → Int) : Prop := ∀ i j, i ≤ n → j ≤ n → p j - p i ≤ F (i * 13 + j)
theorem uh {n f g : Nat} {m : Int} {F p : Nat → Int} (hn : n ≤ 12) (h : Gd n F) (hf : f ≤ n) (hg : g ≤ n) : SatF n (rowS n f g m F (n + 1)) p ↔ SatF n F p ∧ p g - p f ≤ m := by
 refine ⟨fun hs => ⟨fun i j hi hj => ?_, ?_⟩, fun ⟨h1, h2⟩ i j hi hj => ?_⟩
 ·have := hs i j hi hj
  rw [y3 hn hi hj] at this; omega
 ·have := hs f g hf hg
  rw [y3 hn hf hg, h.dg f hf, h.dg g hg] at this; omega
 ·have a1 := h1 i j hi hj
  have a2 := h1 i f hi hf
  have a3 := h1 g j hg hj
  rw [y3 hn hi hj]; omega
def CellS (n : Nat) (lo hi : Int) (p : Nat → Int) : Prop := ∀ i, i < n → lo ≤ p (i + 1) - p i ∧ p (i + 1) - p i ≤ hi
theorem ud {n : Nat} {lo hi : Int} {p : Nat → Int} (h : CellS n lo hi p) (i : Nat) : ∀ d, i + d ≤ n → (d : Int) * lo ≤ p (i + d) - p i ∧ p (i + d) - p i ≤ (d : Int) * hi
 | 0, _ => by simp
 | d + 1, hd => by
  have ih := ud h i d (by omega)
  have c := h (i + d) (by omega)
  have e1 : ((d + 1 : Nat) : Int) * lo = (d : Int) * lo + lo := by push_cast; rw [Int.add_mul, Int.one_mul]
  have e2 : ((d + 1 : Nat) : Int) * hi = (d : Int) * hi + hi := by push_cast; rw [Int.add_mul, Int.one_mul]
  rw [e1, e2, ← Nat.add_assoc]; omega
theorem sat_u {n : Nat} {lo hi : Int} {p : Nat → Int} (hn : n ≤ 12) : SatF n (uF n lo hi (n + 1) (n + 1)) p ↔ CellS n lo hi p := by
 refine ⟨fun hs i hi' => ?_, fun h i j hi' hj => ?_⟩
 ·have a := hs i (i + 1) (by omega) (by omega)
  have b := hs (i + 1) i (by omega) (by omega)
  rw [uI hn (by omega) (by omega)] at a b
  unfold uV at a b
  rw [if_pos (by omega), show ((i + 1 : Nat) : Int) - i = 1 by omega, Int.one_mul] at a
  rw [if_neg (by omega), show (i : Int) - (i + 1 : Nat) = -1 by omega, Int.neg_mul, Int.one_mul] at b
  omega
 ·rw [uI hn hi' hj]
  unfold uV
  by_cases d : i ≤ j
  ·rw [if_pos d]
   have := ud h i (j - i) (by omega)
   rw [show i + (j - i) = j by omega, show ((j - i : Nat) : Int) = (j : Int) - i by omega] at this
   exact this.2
  ·rw [if_neg d]
   have := ud h j (i - j) (by omega)
   rw [show j + (i - j) = i by omega, show ((i - j : Nat) : Int) = -((j : Int) - i) by omega, Int.neg_mul, Int.neg_mul] at this
   omega
theorem uni_c {n : Nat} {t lo hi : Int} (ht : TubeOk n t lo hi) : 0 ≤ t + uF n lo hi (n + 1) (n + 1) (n * 13 + 0) := by
 obtain ⟨t1, t2, ⟨t3, t4, t5⟩, t6, t7, t8, t9⟩ := ht
 rw [uI (by omega) (Nat.le_refl _) (Nat.zero_le _)]
 unfold uV
 rw [if_neg (by omega), show ((0 : Nat) : Int) - n = -(n : Int) by omega, Int.neg_mul]
 omega
theorem sat_unr {n : Nat} {t lo hi : Int} {p : Nat → Int} (ht : TubeOk n t lo hi) : SatF n (unr n t lo hi) p ↔ CellS n lo hi p ∧ p n - p 0 = t := by
 have hn : n ≤ 12 := by have := ht.2.1; omega
 have g0 := gd_u hn ht.2.2.1.1 ht.2.2.1.2.1 ht.2.2.1.2.2
 have g1 := j7 hn g0 (Nat.zero_le _) (Nat.le_refl _) (uni_c ht)
 unfold unr
 rw [uh hn g1 (Nat.le_refl _) (Nat.zero_le _), uh hn g0 (Nat.zero_le _) (Nat.le_refl _), sat_u hn]
 constructor
 ·rintro ⟨⟨a, b⟩, c⟩; exact ⟨a, by omega⟩
 ·rintro ⟨a, b⟩; exact ⟨⟨a, by omega⟩, by omega⟩
def RdS (n : Nat) (r : Int × Int × Int × Int) (p : Nat → Int) : Prop := p r.2.1.toNat - p r.1.toNat ≤ r.2.2.2 ∧ (r.2.1 < n → r.2.2.1 + 1 ≤ p (r.2.1.toNat + 1) - p r.1.toNat)
theorem s96 {N n : Nat} {t lo hi : Int} {F : Nat → Int} {r : Int × Int × Int × Int} (hn : n ≤ 12) (h : Gd n F) (hr : RdOk' n r) (hN : 1000 ≤ N) :
  (∃ F', sf154 N n t lo hi ((n : Int) + 1) F r.1 r.2.1 r.2.2.1 r.2.2.2 = some ((n : Int), t, lo, hi, (n : Int) + 1, F', true) ∧ Gd n F' ∧ ∀ p, SatF n F' p ↔ SatF n F p ∧ RdS n r p) ∨
  (sf154 N n t lo hi ((n : Int) + 1) F r.1 r.2.1 r.2.2.1 r.2.2.2 = some ((0 : Int), (0 : Int), (0 : Int), (0 : Int), (0 : Int), (fun _ => 0), false) ∧ ∀ p, SatF n F p → ¬ RdS n r p) := by
 obtain ⟨f, g, vl, vh⟩ := r
 obtain ⟨h1, h2, h3⟩ := hr
 dsimp only at h1 h2 h3
 obtain ⟨f, rfl⟩ : ∃ k : Nat, f = k := ⟨f.toNat, by omega⟩
 obtain ⟨g, rfl⟩ : ∃ k : Nat, g = k := ⟨g.toNat, by omega⟩
 have hf : f ≤ n := by omega
 have hg : g ≤ n := by omega
 unfold RdS
 simp only [toN]
 unfold sf154
 rw [s103 hn hf hg h (by omega), zn]
 by_cases c1 : 0 ≤ vh + F (g * 13 + f)
 ·have G1 := j7 hn h hf hg c1
  rw [decide_eq_true c1, Bool.not_true, cond_false, l96_2, kX hn hf hg h (by omega) c1 (by omega), zn]
  by_cases c2 : g < n
  ·rw [decide_eq_true (by omega), cond_true, zp (by unfold rng; omega), zp (by unfold rng; omega), zp (by unfold rng; omega), show (g : Int) + 1 = ((g + 1 : Nat) : Int) from rfl, s103 hn (by omega) hf G1 (by omega), zn]
   by_cases c3 : 0 ≤ -vl - 1 + rowS n f g vh F (n + 1) (f * 13 + (g + 1))
   ·have G2 := j7 hn G1 (f := g + 1) (g := f) (by omega) hf c3
    rw [decide_eq_true c3, Bool.not_true, cond_false, l96_4]
    refine .inl ⟨rowS n (g + 1) f (-vl - 1) (rowS n f g vh F (n + 1)) (n + 1), ?_, G2, fun p => ?_⟩
    ·have := kX (N := N) hn (f := g + 1) (g := f) (by omega) hf G1 (m := -vl - 1) (by omega) c3 (by omega)
     rw [show ((g : Int) + 1) = ((g + 1 : Nat) : Int) from rfl, this, zn, zn]
     rfl
    ·rw [uh hn G1 (by omega) hf, uh hn h hf hg]
     constructor
     ·rintro ⟨⟨a, b⟩, c⟩; exact ⟨a, b, fun _ => by omega⟩
     ·rintro ⟨a, b, c⟩; have := c (by omega); exact ⟨⟨a, b⟩, by omega⟩
   ·rw [decide_eq_false c3, Bool.not_false, cond_true, zn]
    refine .inr ⟨rfl, fun p hp ⟨q1, q2⟩ => c3 ?_⟩
    have := (uh (m := vh) hn h hf hg).2 ⟨hp, q1⟩ f (g + 1) hf (by omega)
    have := q2 (by omega)
    omega
  ·rw [decide_eq_false (by omega), cond_false, zn]
   refine .inl ⟨rowS n f g vh F (n + 1), rfl, G1, fun p => ?_⟩
   rw [uh hn h hf hg]
   constructor
   ·rintro ⟨a, b⟩; exact ⟨a, b, fun q => absurd q (by omega)⟩
   ·rintro ⟨a, b, _⟩; exact ⟨a, b⟩
 ·rw [decide_eq_false c1, Bool.not_false, cond_true]
  refine .inr ⟨rfl, fun p hp ⟨q1, q2⟩ => c1 ?_⟩
  have := hp g f hg hf
  omega
def TruS (n : Nat) (t lo hi : Int) (L : List (Int × Int × Int × Int)) (p : Nat → Int) : Prop := (CellS n lo hi p ∧ p n - p 0 = t) ∧ ∀ r, r ∈ L → RdS n r p
theorem Xu {α : Type} {P : α → Prop} {l : List α} {x : α} : (∀ r, r ∈ l ++ [x] → P r) ↔ (∀ r, r ∈ l → P r) ∧ P x := by
 constructor
 ·exact fun h => ⟨fun r hr => h r (List.mem_append.2 (.inl hr)), h x (List.mem_append.2 (.inr (List.mem_singleton.2 rfl)))⟩
 ·rintro ⟨h1, h2⟩ r hr
  rcases List.mem_append.1 hr with q | q
  ·exact h1 r q
  ·rw [List.mem_singleton.1 q]; exact h2
theorem Yg {α β : Type} {step : α → Option (α ⊕ β)} {x x' : α} {M : Nat} (h : step x = some (.inl x')) : iter step (M + 1) x = iter step M x' := by
 conv => lhs; unfold iter
 rw [h]; rfl
theorem j0 {α β : Type} {step : α → Option (α ⊕ β)} {x : α} {y : β} {M : Nat} (h : step x = some (.inr y)) : iter step (M + 1) x = some y := by
 unfold iter
 rw [h]; rfl
theorem jJ {N n : Nat} {t lo hi : Int} {L : List (Int × Int × Int × Int)} (hn : n ≤ 12) (hL : L.length ≤ 100) (hr : AllP (RdOk' n) L) (hN : 1000 ≤ N) : ∀ (k j M : Nat) (mp : Int × Int × Int × Int → Option Bool) (F : Nat → Int), j + k = L.length → k < M → Gd n F → (∀ p, SatF n F p ↔ (CellS n lo hi p ∧ p n - p 0 = t) ∧ ∀ r, r ∈ L.take j → RdS n r p) → (∀ r b, mp r = some b → r ∈ L.take j) →
  (∃ mp' F', iter (sf135_L1 N L) M ((j : Int), mp, (n : Int), t, lo, hi, (n : Int) + 1, F, (0 : Int), (0 : Int), (0 : Int), (0 : Int), (0 : Int), (fun _ => 0)) = some (.inr (mp', (n : Int), t, lo, hi, (n : Int) + 1, F', (0 : Int), (0 : Int), (0 : Int), (0 : Int), (0 : Int), (fun _ => 0))) ∧ Gd n F' ∧ ∀ p, SatF n F' p ↔ TruS n t lo hi L p) ∨
  (∃ w : ((Int × Int × Int × Int) → Option Bool) × Int × Int × Int × Int × Int × (Nat → Int), iter (sf135_L1 N L) M ((j : Int), mp, (n : Int), t, lo, hi, (n : Int) + 1, F, (0 : Int), (0 : Int), (0 : Int), (0 : Int), (0 : Int), (fun _ => 0)) = some (.inl (w.1, w.2.1, w.2.2.1, w.2.2.2.1, w.2.2.2.2.1, w.2.2.2.2.2.1, w.2.2.2.2.2.2, (0 : Int), (0 : Int), (0 : Int), (0 : Int), (0 : Int), (fun _ => 0))) ∧ ∀ p, ¬ TruS n t lo hi L p)
 | 0, j, 0, mp, F, hj, hM, _, _, _ => by omega
 | 0, j, M + 1, mp, F, hj, hM, hG, hS, hm => by
  refine .inl ⟨mp, F, j0 ?_, hG, fun p => ?_⟩
  ·unfold sf135_L1
   dsimp only
   rw [decide_eq_false (by omega), cond_false]
  ·rw [hS p, List.take_of_length_le (by omega)]
   rfl
 | k + 1, j, 0, mp, F, hj, hM, _, _, _ => by omega
 | k + 1, j, M + 1, mp, F, hj, hM, hG, hS, hm => by
  obtain ⟨z, hz⟩ : ∃ z, L[j]? = some z := ⟨_, yd (by omega)⟩
  have hzL : z ∈ L := List.mem_of_getElem? hz
  have tk := vJ hz
  have hck : rng ((j : Int) + 1) := by unfold rng; omega
  by_cases hmp : mp z = some true
  ·have hz0 := hm z true hmp
   have key : ∀ p, ((CellS n lo hi p ∧ p n - p 0 = t) ∧ ∀ r, r ∈ L.take (j + 1) → RdS n r p) ↔ ((CellS n lo hi p ∧ p n - p 0 = t) ∧ ∀ r, r ∈ L.take j → RdS n r p) := fun p => by
    rw [tk, Xu]
    exact ⟨fun ⟨a, b, c⟩ => ⟨a, b⟩, fun ⟨a, b⟩ => ⟨a, b, b z hz0⟩⟩
   have e1 : sf135_L1 N L ((j : Int), mp, (n : Int), t, lo, hi, (n : Int) + 1, F, (0 : Int), (0 : Int), (0 : Int), (0 : Int), (0 : Int), (fun _ => 0)) = some (.inl (((j + 1 : Nat) : Int), mp, (n : Int), t, lo, hi, (n : Int) + 1, F, (0 : Int), (0 : Int), (0 : Int), (0 : Int), (0 : Int), (fun _ => 0))) := by
    unfold sf135_L1
    dsimp only
    rw [decide_eq_true (by omega), cond_true, yb rfl hz, hmp, show Option.getD (some true) false = true from rfl, cond_true, zp hck]
    rfl
   rw [Yg e1]
   exact jJ hn hL hr hN k (j + 1) M mp F (by omega) (by omega) hG (fun p => by rw [hS p, key p]) (fun r b q => by rw [tk]; exact List.mem_append.2 (.inl (hm r b q)))
  ·have hg : Option.getD (mp z) false = false := by
    cases h : mp z with
    | none => rfl
    | some b =>
     cases b with
     | true => exact absurd h hmp
     | false => rfl
   rcases s96 (N := N) (t := t) (lo := lo) (hi := hi) hn hG (hr z hzL) hN with ⟨F', e, G', S'⟩ | ⟨e, S'⟩
   ·have e1 : sf135_L1 N L ((j : Int), mp, (n : Int), t, lo, hi, (n : Int) + 1, F, (0 : Int), (0 : Int), (0 : Int), (0 : Int), (0 : Int), (fun _ => 0)) = some (.inl (((j + 1 : Nat) : Int), upm mp z true, (n : Int), t, lo, hi, (n : Int) + 1, F', (0 : Int), (0 : Int), (0 : Int), (0 : Int), (0 : Int), (fun _ => 0))) := by
     unfold sf135_L1
     dsimp only
     rw [decide_eq_true (by omega), cond_true, yb rfl hz, hg, cond_false, e, zn]
     dsimp only
     rw [Bool.not_true, cond_false, zp hck]
     rfl
    rw [Yg e1]
    exact jJ hn hL hr hN k (j + 1) M _ F' (by omega) (by omega) G' (fun p => by rw [S' p, hS p, tk, Xu]; exact ⟨fun ⟨⟨a, b⟩, c⟩ => ⟨a, b, c⟩, fun ⟨a, b, c⟩ => ⟨⟨a, b⟩, c⟩⟩) (fun r b q => by
     unfold upm at q
     rw [tk]
     by_cases hrz : r = z
     ·rw [hrz]; exact List.mem_append.2 (.inr (List.mem_singleton.2 rfl))
     ·rw [if_neg hrz] at q; exact List.mem_append.2 (.inl (hm r b q)))
   ·have e1 : sf135_L1 N L ((j : Int), mp, (n : Int), t, lo, hi, (n : Int) + 1, F, (0 : Int), (0 : Int), (0 : Int), (0 : Int), (0 : Int), (fun _ => 0)) = some (.inr (.inl (upm mp z true, (0 : Int), (0 : Int), (0 : Int), (0 : Int), (0 : Int), (fun _ => 0), (0 : Int), (0 : Int), (0 : Int), (0 : Int), (0 : Int), (fun _ => 0)))) := by
     unfold sf135_L1
     dsimp only
     rw [decide_eq_true (by omega), cond_true, yb rfl hz, hg, cond_false, e, zn]
     rfl
    exact .inr ⟨(upm mp z true, (0 : Int), (0 : Int), (0 : Int), (0 : Int), (0 : Int), (fun _ => 0)), j0 e1, fun p hp => S' p ((hS p).2 ⟨hp.1, fun r hr' => hp.2 r (List.mem_of_mem_take hr')⟩) (hp.2 z hzL)⟩
theorem s89 {N n : Nat} {t lo hi : Int} {L : List (Int × Int × Int × Int)} (ht : TubeOk n t lo hi) (hL : L.length ≤ 100) (hr : AllP (RdOk' n) L) (hN : 1000 ≤ N) :
  (∃ F, sf135 N n t lo hi L = some ((n : Int), t, lo, hi, (n : Int) + 1, F, true) ∧ Gd n F ∧ ∀ p, SatF n F p ↔ TruS n t lo hi L p) ∨
  (sf135 N n t lo hi L = some ((0 : Int), (0 : Int), (0 : Int), (0 : Int), (0 : Int), (fun _ => 0), false) ∧ ∀ p, ¬ TruS n t lo hi L p) := by
 have hn : n ≤ 12 := by have := ht.2.1; omega
 obtain ⟨e97, g97, _, _⟩ := s97 (N := N) ht hN
 unfold sf135
 rw [e97, zn]
 dsimp only
 rcases jJ (N := N) (t := t) (lo := lo) (hi := hi) hn hL hr hN L.length 0 N (fun _ => none) (unr n t lo hi) (by omega) (by omega) g97 (fun p => by rw [sat_unr ht]; simp) (fun r b q => by cases q) with ⟨mp', F', e, G, S⟩ | ⟨w, e, S⟩
 ·refine .inl ⟨F', ?_, G, S⟩
  rw [show (0 : Int) = ((0 : Nat) : Int) from rfl] at e ⊢
  rw [e]; rfl
 ·refine .inr ⟨?_, S⟩
  rw [show (0 : Int) = ((0 : Nat) : Int) from rfl] at e ⊢
  rw [e]; rfl
def bdF (n : Nat) (F : Nat → Int) : List (Int × Int) := (List.range (n + 1)).map fun (i : Nat) => (-F (i * 13 + 0), F (0 * 13 + i))
theorem YU {n : Nat} {F : Nat → Int} : (bdF n F).length = n + 1 := by unfold bdF; simp
theorem bdF_at {n i : Nat} {F : Nat → Int} (h : i ≤ n) : (bdF n F)[i]? = some (-F (i * 13 + 0), F (0 * 13 + i)) := by
 unfold bdF
 rw [List.getElem?_map, List.getElem?_range (by omega)]; rfl
theorem s73F {N n : Nat} {t lo hi : Int} {F : Nat → Int} (hn : n ≤ 12) (gd : Gd n F) (hN : 1000 ≤ N) : sf108 N n t lo hi ((n : Int) + 1) F = some (bdF n F) := by
 unfold sf108
 have e : iter (sf108_L1 N n t lo hi ((n : Int) + 1) F) N (([] : List (Int × Int)), (0 : Int)) = some (bdF n F) := by
  refine yA (fun k => ((List.range k).map (fun i : Nat => (-F (i * 13 + 0), F (0 * 13 + i))), (k : Int))) (n + 1) _ rfl (fun k hk => ?_) ?_ (by omega)
  ·have l1 := gd.lb (i := k) (j := 0) (by omega) (by omega)
   have l2 := gd.ub k 0 (by omega) (by omega)
   have x90 : sf136 N n t lo hi ((n : Int) + 1) F k = some (-F (k * 13 + 0)) := by
    unfold sf136
    rw [zp (by omega), zp (by omega), toN, show Int.toNat 0 = 0 from rfl, zp (by unfold rng; omega)]
   have x91 : sf137 N n t lo hi ((n : Int) + 1) F k = some (F (0 * 13 + k)) := by
    unfold sf137
    rw [zp (by omega), zp (by omega), toN, show Int.toNat 0 = 0 from rfl]
   unfold sf108_L1
   dsimp only
   rw [decide_eq_true (by omega), cond_true, x90, zn, x91, zn, zp (by simp; omega), zp (by unfold rng; omega), List.range_succ, List.map_append]
   rfl
  ·unfold sf108_L1
   dsimp only
   rw [decide_eq_false (by omega), cond_false]
   rfl
 rw [show sf96 N = some () from rfl, zn, zp (by unfold rng; omega), zp (by omega), show List.replicate (Int.toNat 0) ((0 : Int), (0 : Int)) = [] from rfl, e, zn]
theorem s29_ok {N n : Nat} {t lo hi : Int} {L : List (Int × Int × Int × Int)} (ht : TubeOk n t lo hi) (hL : L.length ≤ 12) (hr : AllP (RdOk' n) L) (hN : 1000 ≤ N) :
  (∃ F, sf70 N n t lo hi L = some (bdF n F, 0) ∧ Gd n F ∧ ∀ p, SatF n F p ↔ TruS n t lo hi L p) ∨
  (sf70 N n t lo hi L = some ([], 9) ∧ ∀ p, ¬ TruS n t lo hi L p) := by
 have hn : n ≤ 12 := by have := ht.2.1; omega
 have e64 : sf134 N n t lo hi L = some 0 := by rw [s64 (by omega) hN, if_pos ht, if_pos hL, if_pos hr]
 unfold sf70 sf94
 rw [e64, zn]
 rw [decide_eq_true rfl, Bool.not_true, cond_false, cond_false]
 rcases s89 (N := N) ht (by omega) hr hN with ⟨F, e, G, S⟩ | ⟨e, S⟩
 ·refine .inl ⟨F, ?_, G, S⟩
  rw [e, zn]
  dsimp only
  rw [Bool.not_true, cond_false, zn]
  dsimp only
  rw [decide_eq_true rfl, Bool.not_true, cond_false, s73F hn G hN, zn]
 ·refine .inr ⟨?_, S⟩
  rw [e, zn]
  rfl
theorem low_sat {n : Nat} {F : Nat → Int} (h : Gd n F) : SatF n F fun j => -F (j * 13 + 0) := fun i j hi hj => by
 have := h.tri i j 0 hi hj (Nat.zero_le _)
 show -F (j * 13 + 0) - -F (i * 13 + 0) ≤ _
 omega
theorem high_sat {n : Nat} {F : Nat → Int} (h : Gd n F) : SatF n F fun j => F (0 * 13 + j) := fun i j hi hj => by
 have := h.tri 0 i j (Nat.zero_le _) hi hj
 show F (0 * 13 + j) - F (0 * 13 + i) ≤ _
 omega
def W16 (x : Int) : Prop := 0 ≤ x ∧ x < 65536
theorem tm {a b : Int} (ha : 0 ≤ a) (hb : 0 < b) : 0 ≤ Int.tmod a b ∧ Int.tmod a b < b := by
 rw [Int.tmod_eq_emod_of_nonneg ha]
 exact ⟨Int.emod_nonneg _ (by omega), Int.emod_lt_of_pos _ hb⟩
theorem td {a b : Int} (ha : 0 ≤ a) : Int.tdiv a b = a / b := Int.tdiv_eq_ediv_of_nonneg ha
theorem tme {a b : Int} (ha : 0 ≤ a) : Int.tmod a b = a % b := Int.tmod_eq_emod_of_nonneg ha
theorem ju {x : Int} (h : W16 x) : IntKind.wrap .i64 x = x := by
 unfold W16 at h
 have e : x % 2 ^ IntKind.bits .i64 = x := by
  show x % 18446744073709551616 = x
  omega
 unfold IntKind.wrap
 simp only [e]
 rw [if_neg]
 intro hc
 have hc2 := of_decide_eq_true (Bool.and_eq_true_iff.1 hc).2
 have : (9223372036854775808 : Int) ≤ x := hc2
 omega
theorem s62 {N : Nat} {l : List Int} {k : Int} (hl : AllP W16 l) (hk : 0 ≤ k) : ∃ w, sf133 N l k = some w ∧ W16 w := by
 unfold sf133
 by_cases h : l.length = 0
 ·rw [decide_eq_true (by omega), cond_true]; exact ⟨0, rfl, by unfold W16; omega⟩
 ·rw [decide_eq_false (by omega), cond_false, zp (by omega)]
  have := tm (a := k) (b := l.length) hk (by omega)
  obtain ⟨j, hj⟩ : ∃ j : Nat, Int.tmod k l.length = j := ⟨(Int.tmod k l.length).toNat, by omega⟩
  obtain ⟨z, hz⟩ : ∃ z, l[j]? = some z := ⟨_, yd (by omega)⟩
  have hw := hl z (List.mem_of_getElem? hz)
  rw [hj, yb rfl hz, zp (ju hw)]
  exact ⟨z, rfl, hw⟩
theorem s53 {N n : Nat} {t lo hi : Int} {W : List Int} (ht : TubeOk n t lo hi) (hW : AllP W16 W) (hN : 1000 ≤ N) : ∃ v, sf92 N n t lo hi W = some v ∧ v.length = n ∧ AllP (InV lo hi) v ∧ v.sum = t := by
 obtain ⟨t1, t2, ⟨t3, t4, t5⟩, t6, t7, t8, t9⟩ := ht
 have H := vF (step := sf92_L1 N n lo hi W) (fun x => ∃ k : Nat, x.2.2 = k ∧ k ≤ n ∧ x.1.length = k ∧ AllP (InV lo hi) x.1 ∧ x.1.sum + x.2.1 = t ∧ ((n : Int) - k) * lo ≤ x.2.1 ∧ x.2.1 ≤ ((n : Int) - k) * hi) (fun x => n - x.2.2.toNat) (fun v => v.length = n ∧ AllP (InV lo hi) v ∧ v.sum = t) (by
  rintro ⟨out, left, _⟩ ⟨k, rfl, hk, hl, hA, hsum, b1, b2⟩
  dsimp only at hl hA hsum b1 b2 ⊢
  by_cases hkn : k < n
  ·refine .inl ?_
   have e1 : ((n : Int) - k) * lo = ((n : Int) - 1 - k) * lo + lo := by rw [show (n : Int) - k = ((n : Int) - 1 - k) + 1 by omega, Int.add_mul, Int.one_mul]
   have e2 : ((n : Int) - k) * hi = ((n : Int) - 1 - k) * hi + hi := by rw [show (n : Int) - k = ((n : Int) - 1 - k) + 1 by omega, Int.add_mul, Int.one_mul]
   have m1 := jn (d := (n : Int) - 1 - k) (a := lo) (by omega) (by omega) (by omega) (by omega)
   have m2 := jn (d := (n : Int) - 1 - k) (a := hi) (by omega) (by omega) (by omega) (by omega)
   obtain ⟨w, ew, hw⟩ := s62 (N := N) (l := W) (k := (k : Int)) hW (by omega)
   rw [e1] at b1
   rw [e2] at b2
   have mm : ((n : Int) - 1 - k) * lo ≤ ((n : Int) - 1 - k) * hi := Int.mul_le_mul_of_nonneg_left t4 (by omega)
   generalize hX : ((n : Int) - 1 - k) * lo = X at *
   generalize hY : ((n : Int) - 1 - k) * hi = Y at *
   have hh : 0 < min hi (left - X) - max lo (left - Y) + 1 := by omega
   have tq := tm (a := w) (b := min hi (left - X) - max lo (left - Y) + 1) (by unfold W16 at hw; omega) hh
   unfold sf92_L1
   dsimp only
   generalize hT : Int.tmod w (min hi (left - X) - max lo (left - Y) + 1) = T at *
   refine ⟨(out ++ [max lo (left - Y) + T], left - (max lo (left - Y) + T), ((k + 1 : Nat) : Int)), ?_, ⟨k + 1, rfl, by omega, by simp; omega, ?_, ?_, ?_⟩, by dsimp only; omega⟩
   ·rw [decide_eq_true (by omega), cond_true, zp (by unfold rng; omega), zp (by unfold rng; omega), hY, hX, zp (by unfold rng; omega), zp (by unfold rng; omega), zp (by unfold rng; omega), zp (by unfold rng; omega), ew, zn, zp (by unfold rng; omega), zp (by unfold rng; omega), zp (by omega), hT, zp (by unfold rng; omega), zp (by omega), zp (by unfold rng; omega), zp (by unfold rng; omega)]
    rfl
   ·intro x hx
    rcases List.mem_append.1 hx with q | q
    ·exact hA x q
    ·rw [List.mem_singleton.1 q]; unfold InV; omega
   ·dsimp only
    rw [List.sum_append]; simp; omega
   ·dsimp only
    rw [show ((n : Int) - ((k + 1 : Nat) : Int)) = (n : Int) - 1 - k by omega, hX, hY]
    omega
  ·refine .inr ⟨out, ?_, by omega, hA, ?_⟩
   ·unfold sf92_L1
    dsimp only
    rw [decide_eq_false (by omega), cond_false]
   ·have : k = n := by omega
    subst this
    rw [show (k : Int) - k = 0 by omega, Int.zero_mul] at b1 b2
    omega) N (([] : List Int), t, (0 : Int)) ⟨0, rfl, by omega, rfl, fun x hx => (by cases hx), by simp, by simpa using t8, by simpa using t9⟩ (by dsimp only; omega)
 obtain ⟨v, e, q1, q2, q3⟩ := H
 refine ⟨v, ?_, q1, q2, q3⟩
 unfold sf92
 rw [e, zn]
theorem hs_all {l : List Int} {k : Nat} (h : l.length = k) : hs l k = l.sum := by
 unfold hs
 rw [List.take_of_length_le (by omega)]
theorem vol_of {lo hi : Int} {l : List Int} (h1 : 1 ≤ lo) (h2 : hi ≤ 200) (h : AllP (InV lo hi) l) : AllP Vol l := fun x hx => by
 have := h x hx
 unfold InV at this
 unfold Vol; omega
theorem hs_cell {lo hi : Int} {l : List Int} {n : Nat} (hl : l.length = n) (h : AllP (InV lo hi) l) : CellS n lo hi (hs l) := fun i hi' => by
 obtain ⟨x, hx⟩ : ∃ x, l[i]? = some x := ⟨_, yd (by omega)⟩
 have := h x (List.mem_of_getElem? hx)
 unfold InV at this
 rw [jx hx]; omega
theorem YO {l : List Int} (h : AllP Vol l) (i : Nat) : ∀ d, i + d ≤ l.length → hs l i ≤ hs l (i + d)
 | 0, _ => Int.le_refl _
 | d + 1, hd => by
  have ih := YO h i d (by omega)
  obtain ⟨x, hx⟩ : ∃ x, l[i + d]? = some x := ⟨_, yd (by omega)⟩
  have := h x (List.mem_of_getElem? hx)
  unfold Vol at this
  rw [← Nat.add_assoc, jx hx]; omega
def RdX (n : Nat) (v : List Int) (r : Int × Int × Int × Int) : Prop := RdOk' n r ∧ RdS n r (hs v)
theorem s54 {N n : Nat} {t lo hi : Int} {v W : List Int} (ht : TubeOk n t lo hi) (hl : v.length = n) (hv : AllP (InV lo hi) v) (hs' : v.sum = t) (hW : AllP W16 W) (hN : 1000 ≤ N) : ∃ L, sf93 N n t lo hi v W = some L ∧ L.length ≤ 12 ∧ L.length ≤ W.length ∧ AllP (RdX n v) L := by
 obtain ⟨t1, t2, ⟨t3, t4, t5⟩, t6, t7, t8, t9⟩ := ht
 have hb := vol_of t3 t5 hv
 have ht' : hs v n = t := by rw [hs_all hl, hs']
 have H := vF (step := sf93_L2 N n t v W) (fun x => ∃ k : Nat, x.2 = k ∧ k ≤ 12 ∧ k ≤ W.length ∧ x.1.length = k ∧ AllP (RdX n v) x.1) (fun x => 12 - x.2.toNat) (fun L => L.length ≤ 12 ∧ L.length ≤ W.length ∧ AllP (RdX n v) L) (by
  rintro ⟨out, _⟩ ⟨k, rfl, hk, hkw, hlen, hA⟩
  dsimp only at hlen hA ⊢
  by_cases hc : k < W.length ∧ k < 12
  ·refine .inl ?_
   obtain ⟨w, hw⟩ : ∃ w, W[k]? = some w := ⟨_, yd hc.1⟩
   have w16 := hW w (List.mem_of_getElem? hw)
   have w0 : 0 ≤ w := w16.1
   have tf := tm (a := w) (b := n) w0 (by omega)
   obtain ⟨f, hf⟩ : ∃ f : Nat, Int.tmod w n = f := ⟨(Int.tmod w n).toNat, by omega⟩
   have hfn : f < n := by omega
   have bf := hs_b hb f (by omega)
   have mf := YO hb f (n - f) (by omega)
   rw [show f + (n - f) = n by omega, ht'] at mf
   unfold W16 at w16
   have ea : Int.tdiv w 16 = w / 16 := td w0
   have eb : Int.tmod (Int.tdiv w 16) 256 = w / 16 % 256 := by rw [ea, tme (by omega)]
   have ec : Int.tdiv w 4096 = w / 4096 := td w0
   have ed : Int.tmod (Int.tdiv w 4096) 4 = w / 4096 % 4 := by rw [ec, tme (by omega)]
   have ee : Int.tdiv w 8192 = w / 8192 := td w0
   have ef : Int.tmod (Int.tdiv w 8192) 3 = w / 8192 % 3 := by rw [ee, tme (by omega)]
   obtain ⟨A, hAdef⟩ : ∃ A, A = w / 16 % 256 := ⟨_, rfl⟩
   have A0 : 0 ≤ A ∧ A ≤ 255 := by omega
   obtain ⟨B, hB⟩ : ∃ B, B = t - hs v f + 5 := ⟨_, rfl⟩
   have B0 : 5 ≤ B ∧ B ≤ 2005 := by omega
   have p1 : 0 * B ≤ A * B := Int.mul_le_mul_of_nonneg_right A0.1 (by omega)
   have p2 : A * B ≤ 255 * B := Int.mul_le_mul_of_nonneg_right A0.2 (by omega)
   obtain ⟨T, hT⟩ : ∃ T, Int.tdiv (A * B) 256 = T := ⟨_, rfl⟩
   have T0 : 0 ≤ T ∧ T ≤ 1998 := by rw [td (by omega)] at hT; omega
   obtain ⟨a, ha⟩ : ∃ a, a = w / 4096 % 4 := ⟨_, rfl⟩
   obtain ⟨b, hb'⟩ : ∃ b, b = w / 8192 % 3 := ⟨_, rfl⟩
   have a0 : 0 ≤ a ∧ a ≤ 3 := by omega
   have b0 : 0 ≤ b ∧ b ≤ 2 := by omega
   -- where the thread ends
   have hin : ∃ g : Nat, iter (sf93_L1 N n t v w (hs v f)) N (f : Int) = some (g : Int) ∧ f ≤ g ∧ g ≤ n ∧ hs v g - hs v f ≤ T ∧ (g < n → T < hs v (g + 1) - hs v f) := by
    have H := vF (step := sf93_L1 N n t v w (hs v f)) (fun x => ∃ g : Nat, x = g ∧ f ≤ g ∧ g ≤ n ∧ hs v g - hs v f ≤ T) (fun x => n - x.toNat) (fun y => ∃ g : Nat, y = g ∧ f ≤ g ∧ g ≤ n ∧ hs v g - hs v f ≤ T ∧ (g < n → T < hs v (g + 1) - hs v f)) (by
     rintro _ ⟨g, rfl, g1, g2, g3⟩
     unfold sf93_L1
     rw [hf, eb, ← hAdef, ← hB, hT]
     by_cases hg : g < n
     ·have bg := hs_b hb (g + 1) (by omega)
      rw [decide_eq_true (by omega), cond_true, zp (by unfold rng; omega), show (g : Int) + 1 = ((g + 1 : Nat) : Int) from rfl, s38 (by omega) (by omega) hb hN, zn, s38 (by omega) (by omega) hb hN, zn, zp (by unfold rng; omega)]
      by_cases hd : hs v (g + 1) - hs v f ≤ T
      ·rw [decide_eq_true hd, zn, cond_true, zp (by unfold rng; omega)]
       exact .inl ⟨_, rfl, ⟨g + 1, rfl, by omega, by omega, hd⟩, by omega⟩
      ·rw [decide_eq_false hd, zn, cond_false]
       exact .inr ⟨_, rfl, g, rfl, g1, g2, g3, fun _ => by omega⟩
     ·rw [decide_eq_false (by omega), cond_false, zn, cond_false]
      exact .inr ⟨_, rfl, g, rfl, g1, g2, g3, fun q => absurd q hg⟩) N (f : Int) ⟨f, rfl, Nat.le_refl _, by omega, by omega⟩ (by omega)
    obtain ⟨y, e, g, rfl, q⟩ := H
    exact ⟨g, e, q⟩
   obtain ⟨g, eg, g1, g2, g3, g4⟩ := hin
   refine ⟨(out ++ [((f : Int), (g : Int), max 0 (T - a), min 2000 (T + b))], ((k + 1 : Nat) : Int)), ?_, ⟨k + 1, rfl, by omega, by omega, by simp; omega, ?_⟩, by dsimp only; omega⟩
   ·unfold sf93_L2
    dsimp only
    rw [decide_eq_true (by omega), cond_true, decide_eq_true (by omega), zn, cond_true, zn, sL, yb rfl hw, zp (ju ⟨w0, by omega⟩), zp (by omega), zp (by rw [ea]; unfold rng; omega), zp (by omega), hf, s38 (by omega) (by omega) hb hN, zn, zp (by unfold rng; omega), zp (by unfold rng; omega), eb, ← hAdef, ← hB, zp (by unfold rng; omega), hT, zp (by unfold rng; omega), eg, zn, ed, ef, ← ha, ← hb', zp (by rw [ec]; unfold rng; omega), zp (by omega), zp (by unfold rng; omega), zp (by rw [ee]; unfold rng; omega), zp (by omega), zp (by unfold rng; omega), zp (by omega), zp (by unfold rng; omega)]
    rfl
   ·intro x hx
    rcases List.mem_append.1 hx with q | q
    ·exact hA x q
    ·rw [List.mem_singleton.1 q]
     refine ⟨⟨⟨by dsimp only; omega, by dsimp only; omega⟩, ⟨by dsimp only; omega, by dsimp only; omega⟩, by dsimp only; omega, by dsimp only; omega, by dsimp only; omega⟩, ?_, fun q => ?_⟩
     ·dsimp only [toN]
      show hs v (Int.toNat g) - hs v (Int.toNat f) ≤ _
      rw [toN, toN]; omega
     ·dsimp only at q ⊢
      rw [toN, toN]
      have := g4 (by omega)
      omega
  ·refine .inr ⟨out, ?_, by omega, by omega, hA⟩
   unfold sf93_L2
   dsimp only
   by_cases h1 : k < W.length
   ·rw [decide_eq_true (by omega), cond_true, decide_eq_false (by omega)]; rfl
   ·rw [decide_eq_false (by omega), cond_false]; rfl) N (([] : List (Int × Int × Int × Int)), (0 : Int)) ⟨0, rfl, by omega, by omega, rfl, fun x hx => (by cases hx)⟩ (by dsimp only; omega)
 obtain ⟨L, e, q1, q2, q3⟩ := H
 refine ⟨L, ?_, q1, q2, q3⟩
 unfold sf93
 rw [e, zn]
theorem tru_of {n : Nat} {t lo hi : Int} {v : List Int} {L : List (Int × Int × Int × Int)} (hl : v.length = n) (hv : AllP (InV lo hi) v) (hs' : v.sum = t) (hL : AllP (RdX n v) L) : TruS n t lo hi L (hs v) := by
 refine ⟨⟨hs_cell hl hv, ?_⟩, fun r hr => (hL r hr).2⟩
 rw [hs_all hl, hs']
 show t - hs v 0 = t
 unfold hs; simp
end Go.Hx.V

namespace Go.Hx.V
open Go.Hx
def Pr (z : Int × Int) : Prop := (1 ≤ z.1 ∧ z.1 ≤ 2000) ∧ 1 ≤ z.2 ∧ z.2 ≤ 2000
instance {z : Int × Int} : Decidable (Pr z) := by unfold Pr; infer_instance
def OrdT (l : List (Int × Int)) : Prop := ∀ i a b, l[i]? = some a → l[i + 1]? = some b → a.1 < b.1 ∧ a.2 < b.2
def TbOk (l : List (Int × Int)) : Prop := 2 ≤ l.length ∧ AllP Pr l ∧ OrdT l
theorem q25 {N : Nat} {a b c : Int} : sf25 N a b c = some (decide (b ≤ a ∧ a ≤ c)) := by
 unfold sf25
 by_cases h : b ≤ a <;> simp [h]
theorem q144 {N : Nat} {a b c : Int} : sf144 N a b c = some (decide (a ≤ c ∧ c ≤ b)) := by
 unfold sf144
 by_cases h : a ≤ c <;> simp [h]
theorem q110 {N : Nat} {a b c : Int} : sf110 N a b c = some (decide (a ≤ c ∧ c ≤ b)) := by
 unfold sf110
 by_cases h : a ≤ c <;> simp [h]
theorem q86 {N : Nat} {p q a b : Int} : sf86 N p q a b = some (decide (a ≤ p ∧ p ≤ q ∧ q ≤ b)) := by
 unfold sf86
 rw [q25, zn]
 by_cases h : a ≤ p ∧ p ≤ q
 ·rw [decide_eq_true h, cond_true]; simp [h]
 ·rw [decide_eq_false h, cond_false]
  congr 1
  exact (decide_eq_false fun h' => h ⟨h'.1, h'.2.1⟩).symm
theorem q139 {N : Nat} {p q a b : Int} : sf139 N p q a b = some (decide (a ≤ p ∧ p ≤ q ∧ q ≤ b)) := by
 unfold sf139
 by_cases h : p ≤ q
 ·rw [decide_eq_true h, cond_true, q144, zn]
  by_cases h2 : a ≤ p ∧ p ≤ b
  ·rw [decide_eq_true h2, cond_true, q144, zn]
   refine congrArg some (decide_eq_decide.2 ?_); omega
  ·rw [decide_eq_false h2, cond_false]
   exact congrArg some (decide_eq_false (by omega)).symm
 ·rw [decide_eq_false h, cond_false]
  exact congrArg some (decide_eq_false (by omega)).symm
theorem q102 {N : Nat} {p q a b : Int} : sf102 N p q a b = some (decide (a ≤ p ∧ p ≤ q ∧ q ≤ b)) := by
 unfold sf102
 by_cases h : p ≤ q
 ·rw [decide_eq_true h, cond_true, q110, zn]
  by_cases h2 : a ≤ p ∧ p ≤ b
  ·rw [decide_eq_true h2, cond_true, q110, zn]
   refine congrArg some (decide_eq_decide.2 ?_); omega
  ·rw [decide_eq_false h2, cond_false]
   exact congrArg some (decide_eq_false (by omega)).symm
 ·rw [decide_eq_false h, cond_false]
  exact congrArg some (decide_eq_false (by omega)).symm
theorem q156 {N : Nat} {z : Int × Int} : sf156 N z.1 z.2 = some (decide (Pr z)) := by
 unfold sf156
 rw [q144, zn]
 by_cases h : 1 ≤ z.1 ∧ z.1 ≤ 2000
 ·rw [decide_eq_true h, cond_true, q144, zn]
  refine congrArg some (decide_eq_decide.2 ⟨fun q => ⟨h, q⟩, fun q => q.2⟩)
 ·rw [decide_eq_false h, cond_false]
  exact congrArg some (decide_eq_false fun q => h q.1).symm
theorem q155 {N : Nat} {l : List (Int × Int)} (h : l.length ≤ 100) (hN : 1000 ≤ N) : sf155 N l = some (decide (AllP Pr l)) := by
 unfold sf155
 rcases um (step := sf155_L1 N l) (l := l) (p := Pr) (N := N) (by omega) (by
   intro j z hz hp
   have := yI hz
   unfold sf155_L1
   rw [decide_eq_true (by omega), cond_true, yb rfl hz, q156, zn, decide_eq_true hp, Bool.not_true, cond_false, zp (by unfold rng; omega)]) (by
   intro j z hz hp
   have := yI hz
   unfold sf155_L1
   rw [decide_eq_true (by omega), cond_true, yb rfl hz, q156, zn, decide_eq_false hp]
   rfl) (by
   unfold sf155_L1
   rw [decide_eq_false (by omega), cond_false]) with ⟨hA, e⟩ | ⟨hA, e⟩
 ·rw [e, zn, decide_eq_true hA]; rfl
 ·rw [e, zn, decide_eq_false hA]; rfl
theorem q157 {N : Nat} {l : List (Int × Int)} (h : l.length ≤ 100) (h2 : 2 ≤ l.length) (hN : 1000 ≤ N) : ∃ b : Bool, sf157 N l = some b ∧ (b = true ↔ OrdT l) := by
 haveI : DecidablePred fun (j : Nat) => ∀ a b, l[j]? = some a → l[j + 1]? = some b → a.1 < b.1 ∧ a.2 < b.2 := fun j => Classical.propDecidable _
 have H := j5 (step := sf157_L1 N l) (x := (1 : Int)) (N := N) (fun j => ((j + 1 : Nat) : Int)) (l.length - 1) (fun (j : Nat) => ∀ a b, l[j]? = some a → l[j + 1]? = some b → a.1 < b.1 ∧ a.2 < b.2) (Sum.inr () : Unit ⊕ Unit) (Sum.inl () : Unit ⊕ Unit) rfl (fun j hj hp => by
   obtain ⟨a, ha⟩ : ∃ a, l[j]? = some a := ⟨_, yd (by omega)⟩
   obtain ⟨b, hb⟩ : ∃ b, l[j + 1]? = some b := ⟨_, yd (by omega)⟩
   have := hp a b ha hb
   unfold sf157_L1 sf158
   rw [decide_eq_true (by omega), cond_true, zp (by unfold rng; omega), yb (n := j) (by omega) ha, yb rfl hb, decide_eq_true this.1, cond_true, decide_eq_true this.2, zn, Bool.not_true, cond_false, zp (by unfold rng; omega)]
   rfl) (fun j hj hp => by
   obtain ⟨a, ha⟩ : ∃ a, l[j]? = some a := ⟨_, yd (by omega)⟩
   obtain ⟨b, hb⟩ : ∃ b, l[j + 1]? = some b := ⟨_, yd (by omega)⟩
   have hp' : ¬ (a.1 < b.1 ∧ a.2 < b.2) := fun q => hp fun a' b' e1 e2 => by
    rw [ha] at e1; rw [hb] at e2; cases e1; cases e2; exact q
   unfold sf157_L1 sf158
   rw [decide_eq_true (by omega), cond_true, zp (by unfold rng; omega), yb (n := j) (by omega) ha, yb rfl hb]
   by_cases c : a.1 < b.1
   ·rw [decide_eq_true c, cond_true, decide_eq_false (by omega), zn]; rfl
   ·rw [decide_eq_false c, cond_false, zn]; rfl) (by
   unfold sf157_L1
   rw [show l.length - 1 + 1 = l.length by omega, decide_eq_false (by omega), cond_false]) (by omega)
 unfold sf157
 rcases H with ⟨h1, e⟩ | ⟨h1, e⟩
 ·refine ⟨true, by rw [e]; rfl, fun _ i a b ha hb => ?_, fun _ => rfl⟩
  have := yI hb
  exact h1 i (by omega) a b ha hb
 ·refine ⟨false, by rw [e]; rfl, fun q => (by cases q), fun q => (h1 fun j hj => q j).elim⟩
theorem q138 {N : Nat} {l : List (Int × Int)} (h : l.length ≤ 8) (hN : 1000 ≤ N) : (TbOk l ∧ sf138 N l = some 0) ∨ (¬ TbOk l ∧ sf138 N l = some 1) := by
 unfold sf138
 rw [decide_eq_false (by omega), cond_false]
 by_cases h2 : l.length < 2
 ·rw [decide_eq_true (by omega), cond_true, zn]
  exact .inr ⟨fun q => by have := q.1; omega, rfl⟩
 ·rw [decide_eq_false (by omega), cond_false, q155 (by omega) hN, zn]
  by_cases hA : AllP Pr l
  ·obtain ⟨b, e, hb⟩ := q157 (N := N) (l := l) (by omega) (by omega) hN
   rw [decide_eq_true hA, Bool.not_true, cond_false, e, zn, zn]
   cases b with
   | true => exact .inl ⟨⟨by omega, hA, hb.1 rfl⟩, rfl⟩
   | false => exact .inr ⟨fun q => (by have := hb.2 q.2.2; cases this), rfl⟩
  ·rw [decide_eq_false hA]
   exact .inr ⟨fun q => hA q.2.1, rfl⟩
theorem q85 {N : Nat} {l : List (Int × Int)} (h : l.length ≤ 100) (hN : 1000 ≤ N) : (TbOk l ∧ sf85 N l = some true) ∨ (¬ TbOk l ∧ sf85 N l = some false) := by
 haveI : DecidablePred fun (j : Nat) => ∀ b, l[j]? = some b → Pr b ∧ (0 < j → ∀ a, l[j - 1]? = some a → a.1 < b.1 ∧ a.2 < b.2) := fun j => Classical.propDecidable _
 have H := j5 (step := sf85_L1 N l) (x := (0 : Int)) (N := N) (fun j => (j : Int)) l.length (fun (j : Nat) => ∀ b, l[j]? = some b → Pr b ∧ (0 < j → ∀ a, l[j - 1]? = some a → a.1 < b.1 ∧ a.2 < b.2)) (Sum.inr () : Unit ⊕ Unit) (Sum.inl () : Unit ⊕ Unit) rfl (fun j hj hp => by
   obtain ⟨b, hb⟩ : ∃ b, l[j]? = some b := ⟨_, yd (by omega)⟩
   obtain ⟨⟨q1, q2⟩, q3⟩ := hp b hb
   unfold sf85_L1
   rw [decide_eq_true (by omega), cond_true, yb rfl hb, q25, zn, decide_eq_true q1, Bool.not_true, cond_false, yb rfl hb, q25, zn, decide_eq_true q2, Bool.not_true, cond_false]
   by_cases c : 0 < j
   ·obtain ⟨a, ha⟩ : ∃ a, l[j - 1]? = some a := ⟨_, yd (by omega)⟩
    have := q3 c a ha
    rw [decide_eq_true (by omega), cond_true, yb rfl hb, zp (by unfold rng; omega), yb (n := j - 1) (by omega) ha, decide_eq_false (by omega), cond_false, yb rfl hb, zp (by unfold rng; omega), yb (n := j - 1) (by omega) ha, decide_eq_false (by omega), zn, cond_false, zp (by unfold rng; omega)]
    rfl
   ·rw [decide_eq_false (by omega), cond_false, zn, cond_false, zp (by unfold rng; omega)]
    rfl) (fun j hj hp => by
   obtain ⟨b, hb⟩ : ∃ b, l[j]? = some b := ⟨_, yd (by omega)⟩
   unfold sf85_L1
   rw [decide_eq_true (by omega), cond_true, yb rfl hb, q25, zn]
   by_cases q1 : 1 ≤ b.1 ∧ b.1 ≤ 2000
   ·rw [decide_eq_true q1, Bool.not_true, cond_false, yb rfl hb, q25, zn]
    by_cases q2 : 1 ≤ b.2 ∧ b.2 ≤ 2000
    ·rw [decide_eq_true q2, Bool.not_true, cond_false]
     by_cases c : 0 < j
     ·obtain ⟨a, ha⟩ : ∃ a, l[j - 1]? = some a := ⟨_, yd (by omega)⟩
      have q3 : ¬ (a.1 < b.1 ∧ a.2 < b.2) := fun q => hp fun b' e => by
       rw [hb] at e; cases e
       exact ⟨⟨q1, q2⟩, fun _ a' e => by rw [ha] at e; cases e; exact q⟩
      rw [decide_eq_true (by omega), cond_true, yb rfl hb, zp (by unfold rng; omega), yb (n := j - 1) (by omega) ha]
      by_cases q4 : b.1 ≤ a.1
      ·rw [decide_eq_true q4, cond_true, zn]; rfl
      ·rw [decide_eq_false q4, cond_false, yb rfl hb, zp (by unfold rng; omega), yb (n := j - 1) (by omega) ha, decide_eq_true (by omega), zn]; rfl
     ·exact (hp fun b' e => by rw [hb] at e; cases e; exact ⟨⟨q1, q2⟩, fun c' => absurd c' c⟩).elim
    ·rw [decide_eq_false q2]; rfl
   ·rw [decide_eq_false q1]; rfl) (by
   unfold sf85_L1
   rw [decide_eq_false (by omega), cond_false]) (by omega)
 unfold sf85
 rcases H with ⟨h1, e⟩ | ⟨h1, e⟩
 ·rw [e, zn, sR]
  have hA : AllP Pr l := fun x hx => by
   obtain ⟨j, hj, rfl⟩ := List.getElem_of_mem hx
   exact (h1 j hj _ (yd hj)).1
  have hO : OrdT l := fun i a b ha hb => by
   have := yI hb
   exact (h1 (i + 1) this b hb).2 (by omega) a ha
  by_cases c : 2 ≤ l.length
  ·rw [decide_eq_true (by omega)]; exact .inl ⟨⟨c, hA, hO⟩, rfl⟩
  ·rw [decide_eq_false (by omega)]; exact .inr ⟨fun q => c q.1, rfl⟩
 ·rw [e, zn, sL]
  refine .inr ⟨fun q => h1 fun j hj b hb => ⟨q.2.1 b (List.mem_of_getElem? hb), fun c a ha => ?_⟩, rfl⟩
  exact q.2.2 (j - 1) a b ha (by rw [show j - 1 + 1 = j by omega]; exact hb)
def seg (x y : Int × Int) (p : Int) : Int := x.2 + Int.tdiv ((y.2 - x.2) * (p - x.1)) (y.1 - x.1)
theorem Xj {x y : Int × Int} {p : Int} (hx : Pr x) (hy : Pr y) (h1 : x.1 < y.1) (h2 : x.2 < y.2) (h3 : x.1 ≤ p) (h4 : p ≤ y.1) : 0 ≤ (y.2 - x.2) * (p - x.1) ∧ (y.2 - x.2) * (p - x.1) ≤ 4000000 ∧ 0 ≤ Int.tdiv ((y.2 - x.2) * (p - x.1)) (y.1 - x.1) ∧ Int.tdiv ((y.2 - x.2) * (p - x.1)) (y.1 - x.1) ≤ y.2 - x.2 := by
 unfold Pr at hx hy
 have a1 : 0 ≤ (y.2 - x.2) * (p - x.1) := Int.mul_nonneg (by omega) (by omega)
 have a2 : (y.2 - x.2) * (p - x.1) ≤ (y.2 - x.2) * (y.1 - x.1) := Int.mul_le_mul_of_nonneg_left (by omega) (by omega)
 have a3 : (y.2 - x.2) * (p - x.1) ≤ 2000 * (p - x.1) := Int.mul_le_mul_of_nonneg_right (by omega) (by omega)
 rw [td a1]
 refine ⟨a1, by omega, Int.ediv_nonneg a1 (by omega), ?_⟩
 exact Int.ediv_le_of_le_mul (by omega) a2
theorem q160 {N : Nat} {a b : Int} (h : 0 ≤ a) (hb : 0 < b) (h2 : a ≤ 4000000) : sf160 N a b = some (Int.tdiv a b) := by
 unfold sf160
 have t := tm h hb
 have e : Int.tdiv a b = a / b := td h
 have b1 : 0 ≤ a / b := Int.ediv_nonneg h (by omega)
 have b2 : a / b ≤ a := Int.ediv_le_self _ h
 rw [zp (by rw [e]; unfold rng; omega), zp (by omega), decide_eq_false (by omega), cond_false]
def At (l : List (Int × Int)) (p : Int) (k : Nat) (x y : Int × Int) : Prop := l[k]? = some x ∧ l[k + 1]? = some y ∧ x.1 ≤ p ∧ p ≤ y.1 ∧ ∀ i z, i < k → l[i + 1]? = some z → z.1 < p
theorem at_ex {l : List (Int × Int)} {p : Int} (hl : TbOk l) {a b : Int × Int} (ha : l[0]? = some a) (hb : l[l.length - 1]? = some b) (h1 : a.1 ≤ p) (h2 : p ≤ b.1) : ∃ k x y, At l p k x y := by
 have h2l := hl.1
 have : ∃ k, k + 1 < l.length ∧ ∀ z, l[k + 1]? = some z → p ≤ z.1 := ⟨l.length - 2, by omega, fun z hz => by
  rw [show l.length - 2 + 1 = l.length - 1 by omega, hb] at hz; cases hz; exact h2⟩
 obtain ⟨k, hk, hmin⟩ : ∃ k, (k + 1 < l.length ∧ ∀ z, l[k + 1]? = some z → p ≤ z.1) ∧ ∀ i, i < k → ¬ (i + 1 < l.length ∧ ∀ z, l[i + 1]? = some z → p ≤ z.1) := by
  obtain ⟨k, hk⟩ := this
  induction k using Nat.strongRecOn with
  | ind k ih =>
   by_cases g : ∃ i, i < k ∧ (i + 1 < l.length ∧ ∀ z, l[i + 1]? = some z → p ≤ z.1)
   ·obtain ⟨i, hi, hi2⟩ := g
    exact ih i hi hi2
   ·exact ⟨k, hk, fun i hi q => g ⟨i, hi, q⟩⟩
 obtain ⟨x, hx⟩ : ∃ x, l[k]? = some x := ⟨_, yd (by omega)⟩
 obtain ⟨y, hy⟩ : ∃ y, l[k + 1]? = some y := ⟨_, yd (by omega)⟩
 refine ⟨k, x, y, hx, hy, ?_, hk.2 y hy, fun i z hi hz => ?_⟩
 ·cases k with
  | zero => rw [ha] at hx; cases hx; exact h1
  | succ k =>
   refine Int.le_of_lt (Int.not_le.1 fun q => hmin k (by omega) ⟨by omega, fun z hz => ?_⟩)
   rw [hx] at hz; cases hz; exact q
 ·exact Int.not_le.1 fun q => hmin i hi ⟨yI hz, fun z' hz' => by rw [hz] at hz'; cases hz'; exact q⟩
theorem q73 {N : Nat} {l : List (Int × Int)} {p : Int} {k : Nat} {x y : Int × Int} (hl : TbOk l) (h8 : l.length ≤ 100) (h : At l p k x y) (hN : 1000 ≤ N) : sf73 N l p = some (seg x y p) := by
 obtain ⟨hx, hy, h1, h2, h3⟩ := h
 have hk := yI hy
 have px := hl.2.1 x (List.mem_of_getElem? hx)
 have py := hl.2.1 y (List.mem_of_getElem? hy)
 have o := hl.2.2 k x y hx hy
 have sb := Xj px py o.1 o.2 h1 h2
 have e : iter (sf73_L1 l p) N (0 : Int) = some (k : Int) := by
  refine yA (fun j => (j : Int)) k _ rfl (fun j hj => ?_) ?_ (by omega)
  ·obtain ⟨z, hz⟩ : ∃ z, l[j + 1]? = some z := ⟨_, yd (by omega)⟩
   unfold sf73_L1
   rw [zp (by unfold rng; omega), yb (j := (j : Int) + 1) (n := j + 1) (by omega) hz, decide_eq_true (h3 j z hj hz), cond_true, zp (by unfold rng; omega)]
   rfl
  ·unfold sf73_L1
   rw [zp (by unfold rng; omega), yb (j := (k : Int) + 1) (n := k + 1) (by omega) hy, decide_eq_false (by omega), cond_false]
 unfold sf73
 unfold Pr at px py
 rw [e, zn, yb rfl hx, zp (by unfold rng; omega), yb (j := (k : Int) + 1) (n := k + 1) (by omega) hy, zp (by unfold rng; omega), zp (by unfold rng; omega), zp (by unfold rng; omega), zp (by unfold rng; omega), zp (by unfold rng; omega), zp (by unfold rng; omega)]
 rfl
theorem tb_lt {l : List (Int × Int)} (hl : TbOk l) {i : Nat} {a : Int × Int} (ha : l[i]? = some a) : ∀ (d : Nat) (b : Int × Int), l[i + d + 1]? = some b → a.1 < b.1 ∧ a.2 < b.2
 | 0, b, hb => hl.2.2 i a b ha hb
 | d + 1, b, hb => by
  have := yI hb
  obtain ⟨c, hc⟩ : ∃ c, l[i + d + 1]? = some c := ⟨_, yd (by omega)⟩
  have q1 := tb_lt hl ha d c hc
  have q2 := hl.2.2 (i + d + 1) c b hc (by rw [show i + d + 1 + 1 = i + (d + 1) + 1 by omega]; exact hb)
  omega
theorem seg_end {x y : Int × Int} (h : x.1 < y.1) : seg x y y.1 = y.2 := by
 unfold seg
 rw [Int.mul_tdiv_cancel _ (by omega)]; omega
theorem YZ {x y : Int × Int} : seg x y x.1 = x.2 := by
 unfold seg
 rw [Int.sub_self, Int.mul_zero, Int.zero_tdiv]; omega
theorem q140 {N : Nat} {l : List (Int × Int)} {a b : Int × Int} (h : l.length ≤ 100) (ha : l[0]? = some a) (hb : l[l.length - 1]? = some b) : sf140 N l = some (a.1, b.1) := by
 have := yI ha
 unfold sf140
 rw [ix_0 ha, zp (by unfold rng; omega), yb (n := l.length - 1) (by omega) hb]
theorem q141 {N : Nat} {l : List (Int × Int)} {p : Int} {k : Nat} {x y : Int × Int} (hl : TbOk l) (h8 : l.length ≤ 100) (h : At l p k x y) (hN : 1000 ≤ N) : sf141 N l p = some (seg x y p) := by
 obtain ⟨hx, hy, h1, h2, h3⟩ := h
 have hk := yI hy
 have px := hl.2.1 x (List.mem_of_getElem? hx)
 have py := hl.2.1 y (List.mem_of_getElem? hy)
 have o := hl.2.2 k x y hx hy
 have hp : 1 ≤ p ∧ p ≤ 2000 := by unfold Pr at px py; omega
 have e : iter (sf141_L1 N l p) N ((1 : Int), (0 : Int)) = some (seg x y p) := by
  refine yA (fun j => (((j + 1 : Nat) : Int), if j ≤ k then (0 : Int) else seg x y p)) (l.length - 1) _ (by simp) (fun j hj => ?_) ?_ (by omega)
  ·obtain ⟨a, ha⟩ : ∃ a, l[j]? = some a := ⟨_, yd (by omega)⟩
   obtain ⟨b, hb⟩ : ∃ b, l[j + 1]? = some b := ⟨_, yd (by omega)⟩
   have pa := hl.2.1 a (List.mem_of_getElem? ha)
   have pb := hl.2.1 b (List.mem_of_getElem? hb)
   have ob := hl.2.2 j a b ha hb
   have e2 : (l.drop (Int.toNat (((j + 1 : Nat) : Int) - 1))).take ((Int.toNat (((j + 1 : Nat) : Int) + 1)) - (Int.toNat (((j + 1 : Nat) : Int) - 1))) = [a, b] := by
    rw [show Int.toNat (((j + 1 : Nat) : Int) - 1) = j by omega, show Int.toNat (((j + 1 : Nat) : Int) + 1) - j = 2 by omega]
    apply List.ext_getElem?
    intro i
    rw [List.getElem?_take]
    by_cases c : i < 2
    ·rw [if_pos c, List.getElem?_drop]
     rcases show i = 0 ∨ i = 1 by omega with rfl | rfl
     ·exact ha
     ·exact hb
    ·rw [if_neg c, List.getElem?_eq_none (by simp; omega)]
   have e3 : sf140 N [a, b] = some (a.1, b.1) := q140 (by simp) rfl rfl
   unfold sf141_L1
   dsimp only
   rw [decide_eq_true (by omega), cond_true, zp (by unfold rng; omega), zp (by unfold rng; omega), zp (by omega), e2, e3, zn, q144, zn]
   dsimp only
   by_cases c : a.1 ≤ p ∧ p ≤ b.1
   ·have sb := Xj pa pb ob.1 ob.2 c.1 c.2
    have hv : seg a b p = seg x y p := by
     rcases Nat.lt_trichotomy j k with q | q | q
     ·have := h3 j b q hb; omega
     ·subst q
      rw [hx] at ha; cases ha
      rw [hy] at hb; cases hb
      rfl
     ·rcases Nat.lt_or_ge j (k + 2) with q2 | q2
      ·obtain rfl : j = k + 1 := by omega
       rw [hy] at ha; cases ha
       have : p = y.1 := by omega
       rw [this, YZ, seg_end o.1]
      ·have := tb_lt hl hy (j - k - 2) a (by rw [show k + 1 + (j - k - 2) + 1 = j by omega]; exact ha)
       omega
    have hjk : k ≤ j := by
     rcases Nat.lt_or_ge j k with q | q
     ·have := h3 j b q hb; omega
     ·exact q
    unfold Pr at pa pb
    rw [decide_eq_true c, cond_true, zp (by unfold rng; omega), yb (n := j) (by omega) ha, yb rfl hb, zp (by unfold rng; omega), zp (by unfold rng; omega), zp (by unfold rng; omega), zp (by unfold rng; omega), q160 sb.1 (by omega) sb.2.1, zn, zp (by unfold rng; omega), zp (by unfold rng; omega)]
    rw [if_neg (by omega)]
    show some (Sum.inl (_, seg a b p)) = _
    rw [hv]
    rfl
   ·rw [decide_eq_false c, cond_false, zp (by unfold rng; omega)]
    have hne : j ≠ k := fun q => by
     subst q
     rw [hx] at ha; cases ha
     rw [hy] at hb; cases hb
     exact c ⟨h1, h2⟩
    have e5 : (if j + 1 ≤ k then (0 : Int) else seg x y p) = if j ≤ k then (0 : Int) else seg x y p := by
     by_cases q : j ≤ k
     ·rw [if_pos q, if_pos (by omega)]
     ·rw [if_neg q, if_neg (by omega)]
    rw [e5]
    rfl
  ·unfold sf141_L1
   dsimp only
   rw [show l.length - 1 + 1 = l.length by omega, decide_eq_false (by omega), cond_false, if_neg (by omega)]
 unfold sf141
 rw [e, zn]
end Go.Hx.V

