import Derived.Test.YtjjnncelpnijiaaGreatH05
set_option linter.all false
namespace Go.Hx.V
open Go.Hx
set_option maxRecDepth 20000
set_option maxHeartbeats 4000000
variable {fl : Nat} {h0 : Tr HBlk} {n0 : Nat} {F0 : PH}
attribute [local irreducible] W R C thenH inBlockH Tr.get Tr.set lo ck bnd ix iter
theorem ct160 (N : Nat) {a0_0 a0_1 r : Int} (hF : sf160 N a0_0 a0_1 = some r) (hd : D h0 n0) (hs : F0.sub h0) : C LW fl 160 [(.agg [(i64 a0_0), (i64 a0_1)])] ⟨h0, n0⟩ (KS (i64 r) n0 h0) := by
 unfold sf160 at hF
 refine zT hd hs lw160 rfl rfl (by rfl) (fun st T hT => ?_)
 have hfl : n0 ≤ n0 := Nat.le_refl n0
 have t0 := hT 0 _ rfl
 dsimp only [L160]
 refine zg (zh ?_); refine zS st (fun b1 h2 n3 st => ?_); refine za ?_; refine zf (th_n ?_); refine zg (zh ?_); refine v_fa ?_; refine zq (st.at (i := 0) rfl).2.2 rfl ?_; refine v_fa ?_; refine zq (st.at (i := 0) rfl).2.2 rfl ?_; obtain ⟨q4, hF⟩ := zi hF; refine vV q4 ?_; refine za ?_; refine zf (th_n ?_); refine zg ?_; refine zg (zh ?_); refine v_fa ?_; refine zq (st.at (i := 0) rfl).2.2 rfl ?_; refine v_fa ?_; refine zq (st.at (i := 0) rfl).2.2 rfl ?_; obtain ⟨q5, hF⟩ := zi hF; refine uI q5 ?_; refine ye ?_; refine zf (th_n ?_); refine zA (fun hb6 => ?_) (fun hb6 => ?_)
 ·have hF := zw hb6 hF; refine zh ?_; refine za ?_; obtain ⟨q7, hF⟩ := zi hF; refine yn q7 ?_; refine za ?_; refine zf (th_n ?_); refine zg (zh ?_); refine za ?_; refine za ?_; refine zf (th_n ?_); refine zt ?_; obtain rfl := inj hF
  exact zy st (Res.t gA Res.nil) rfl rfl
 ·have hF := zx hb6 hF; refine zB (th_n ?_); refine zg (zh ?_); refine za ?_; refine za ?_; refine zf (th_n ?_); refine zt ?_; obtain rfl := inj hF
  exact zy st (Res.t gA Res.nil) rfl rfl
theorem ct103 (N : Nat) {a0 : Int} {r : (Int × Int)} (hF : sf103 N a0 = some r) (hd : D h0 n0) (hs : F0.sub h0) : C LW fl 103 [(i64 a0)] ⟨h0, n0⟩ (KS (.agg [(i64 r.1), (i64 r.2)]) n0 h0) := by
 unfold sf103 at hF
 refine zT hd hs lw103 rfl rfl (by rfl) (fun st T hT => ?_)
 have hfl : n0 ≤ n0 := Nat.le_refl n0
 have t0 := hT 0 _ rfl
 dsimp only [L103]
 refine zg (zh ?_); refine zJ st (fun b1 h2 n3 st => ?_); refine zf (th_n ?_); refine zg (zh ?_); refine za ?_; refine zO (cs := [(i64 0), (i64 a0)]) rfl ?_; refine v_st (cs' := [(i64 0), (i64 a0)]) st 0 rfl rfl rfl rfl hfl (fun h4 st => ?_); refine zf (th_n ?_); refine zt ?_; obtain rfl := inj hF
 exact zy st (Res.c gA (st.at (i := 0) rfl).2.2 (show takeN _ _ = some [(i64 0), (i64 a0)] from rfl) Res.nil) rfl rfl
theorem ct110 (N : Nat) {a0_0 a0_1 a1 : Int} {r : Bool} (hF : sf110 N a0_0 a0_1 a1 = some r) (hd : D h0 n0) (hs : F0.sub h0) : C LW fl 110 [(.agg [(i64 a0_0), (i64 a0_1)]), (i64 a1)] ⟨h0, n0⟩ (KS (.bool r) n0 h0) := by
 unfold sf110 at hF
 refine zT hd hs lw110 rfl rfl (by rfl) (fun st T hT => ?_)
 have hfl : n0 ≤ n0 := Nat.le_refl n0
 have t0 := hT 0 _ rfl
 have t1 := hT 1 _ rfl
 dsimp only [L110]
 refine zg (zh ?_); refine zS st (fun b1 h2 n3 st => ?_); refine za ?_; refine zf (th_n ?_); refine zg (zh ?_); refine v_fa ?_; refine zq (st.at (i := 0) rfl).2.2 rfl ?_; refine za ?_; refine yw ?_; refine za ?_
 rcases Bool.eq_false_or_eq_true (decide (a0_0 ≤ a1)) with hb4 | hb4
 ·have hF := zw hb4 hF; refine zj hb4 (za ?_); refine zj hb4 (v_fa ?_); refine zj hb4 (zq (st.at (i := 0) rfl).2.2 rfl ?_); refine zj hb4 (yw ?_); refine zK hb4 ?_; refine za ?_; refine zf (th_n ?_); refine zt ?_; obtain rfl := inj hF
  exact zy st (Res.t gA Res.nil) rfl rfl
 ·have hF := zx hb4 hF; refine ze hb4 ?_; refine ze hb4 ?_; refine ze hb4 ?_; refine ze hb4 ?_; refine zD hb4 ?_; refine za ?_; refine zf (th_n ?_); refine zt ?_; obtain rfl := inj hF
  exact zy st (Res.t gA Res.nil) rfl rfl
theorem ct161 (N : Nat) {r : Unit} (hF : sf161 N = some r) (hd : D h0 n0) (hs : F0.sub h0) : C LW fl 161 [] ⟨h0, n0⟩ (KS (.agg [(.func 107 [] []), (.func 172 [] [])]) n0 h0) := by
 unfold sf161 at hF
 refine zT hd hs lw161 rfl rfl (by rfl) (fun st T hT => ?_)
 have hfl : n0 ≤ n0 := Nat.le_refl n0
 dsimp only [L161]
 refine zg (zh ?_); refine zJ st (fun b1 h2 n3 st => ?_); refine zf (th_n ?_); refine zg (zh ?_); refine zO (cs := [(.func 107 [] []), (.func 172 [] [])]) rfl ?_; refine v_st (cs' := [(.func 107 [] []), (.func 172 [] [])]) st 0 rfl rfl rfl rfl hfl (fun h4 st => ?_); refine zf (th_n ?_); refine zt ?_; obtain rfl := inj hF
 exact zy st (Res.c gA (st.at (i := 0) rfl).2.2 (show takeN _ _ = some [(.func 107 [] []), (.func 172 [] [])] from rfl) Res.nil) rfl rfl
theorem ct107 (N : Nat) {a0_0 a0_1 r : Int} (hF : sf107 N a0_0 a0_1 = some r) (hd : D h0 n0) (hs : F0.sub h0) : C LW fl 107 [(.agg [(i64 a0_0), (i64 a0_1)])] ⟨h0, n0⟩ (KS (i64 r) n0 h0) := by
 unfold sf107 at hF
 refine zT hd hs lw107 rfl rfl (by rfl) (fun st T hT => ?_)
 have hfl : n0 ≤ n0 := Nat.le_refl n0
 have t0 := hT 0 _ rfl
 dsimp only [L107]
 refine zg (zh ?_); refine zS st (fun b1 h2 n3 st => ?_); refine za ?_; refine zf (th_n ?_); refine zg (zh ?_); refine v_fa ?_; refine zq (st.at (i := 0) rfl).2.2 rfl ?_; refine v_fa ?_; refine zq (st.at (i := 0) rfl).2.2 rfl ?_; obtain ⟨q4, hF⟩ := zi hF; refine vV q4 ?_; refine za ?_; refine zf (th_n ?_); refine zt ?_; obtain rfl := inj hF
 exact zy st (Res.t gA Res.nil) rfl rfl
theorem ct172 (N : Nat) {a0_0 a0_1 r : Int} (hF : sf172 N a0_0 a0_1 = some r) (hd : D h0 n0) (hs : F0.sub h0) : C LW fl 172 [(.agg [(i64 a0_0), (i64 a0_1)])] ⟨h0, n0⟩ (KS (i64 r) n0 h0) := by
 unfold sf172 at hF
 refine zT hd hs lw172 rfl rfl (by rfl) (fun st T hT => ?_)
 have hfl : n0 ≤ n0 := Nat.le_refl n0
 have t0 := hT 0 _ rfl
 dsimp only [L172]
 refine zg (zh ?_); refine zS st (fun b1 h2 n3 st => ?_); refine za ?_; refine zf (th_n ?_); refine zg (zh ?_); refine v_fa ?_; refine zq (st.at (i := 0) rfl).2.2 rfl ?_; refine v_fa ?_; refine zq (st.at (i := 0) rfl).2.2 rfl ?_; obtain ⟨q4, hF⟩ := zi hF; refine zQ q4 ?_; obtain ⟨q5, hF⟩ := zi hF; refine yn q5 ?_; refine v_fa ?_; refine zq (st.at (i := 0) rfl).2.2 rfl ?_; obtain ⟨q6, hF⟩ := zi hF; refine vV q6 ?_; refine za ?_; refine zf (th_n ?_); refine zt ?_; obtain rfl := inj hF
 exact zy st (Res.t gA Res.nil) rfl rfl
theorem ct98 (N : Nat) {a0 a1 a2 : Int} {r : Bool} (hF : sf98 N a0 a1 a2 = some r) (hd : D h0 n0) (hs : F0.sub h0) : C LW fl 98 [(i64 a0), (i64 a1), (i64 a2)] ⟨h0, n0⟩ (KS (.bool r) n0 h0) := by
 unfold sf98 at hF
 refine zT hd hs lw98 rfl rfl (by rfl) (fun st T hT => ?_)
 have hfl : n0 ≤ n0 := Nat.le_refl n0
 have t0 := hT 0 _ rfl
 have t1 := hT 1 _ rfl
 have t2 := hT 2 _ rfl
 dsimp only [L98]
 refine zg (zh ?_); refine za ?_; refine zf (th_n ?_); refine zg (zh ?_); refine za ?_; refine za ?_; refine uo ?_; refine za ?_
 rcases Bool.eq_false_or_eq_true (decide (a1 ≤ a0)) with hb1 | hb1
 ·have hF := zw hb1 hF; refine zj hb1 (za ?_); refine zj hb1 (za ?_); refine zj hb1 (yw ?_); refine zK hb1 ?_; refine za ?_; refine zf (th_n ?_); refine zt ?_; obtain rfl := inj hF
  exact zy st (Res.t gA Res.nil) rfl rfl
 ·have hF := zx hb1 hF; refine ze hb1 ?_; refine ze hb1 ?_; refine ze hb1 ?_; refine zD hb1 ?_; refine za ?_; refine zf (th_n ?_); refine zt ?_; obtain rfl := inj hF
  exact zy st (Res.t gA Res.nil) rfl rfl
theorem ct25 (N : Nat) {a0 a1 a2 : Int} {r : Bool} (hF : sf25 N a0 a1 a2 = some r) (hd : D h0 n0) (hs : F0.sub h0) : C LW fl 25 [(i64 a0), (i64 a1), (i64 a2)] ⟨h0, n0⟩ (KS (.bool r) n0 h0) := by
 unfold sf25 at hF
 refine zT hd hs lw25 rfl rfl (by rfl) (fun st T hT => ?_)
 have hfl : n0 ≤ n0 := Nat.le_refl n0
 have t0 := hT 0 _ rfl
 have t1 := hT 1 _ rfl
 have t2 := hT 2 _ rfl
 dsimp only [L25]
 refine zg (zh ?_); refine za ?_; refine zf (th_n ?_); refine zg (zh ?_); refine za ?_; refine za ?_; refine uo ?_; refine za ?_
 rcases Bool.eq_false_or_eq_true (decide (a1 ≤ a0)) with hb1 | hb1
 ·have hF := zw hb1 hF; refine zj hb1 (za ?_); refine zj hb1 (za ?_); refine zj hb1 (yw ?_); refine zK hb1 ?_; refine za ?_; refine zf (th_n ?_); refine zt ?_; obtain rfl := inj hF
  exact zy st (Res.t gA Res.nil) rfl rfl
 ·have hF := zx hb1 hF; refine ze hb1 ?_; refine ze hb1 ?_; refine ze hb1 ?_; refine zD hb1 ?_; refine za ?_; refine zf (th_n ?_); refine zt ?_; obtain rfl := inj hF
  exact zy st (Res.t gA Res.nil) rfl rfl
theorem ct73 (N : Nat) {a0 : (List (Int × Int))} {a1 r : Int} (hF : sf73 N a0 a1 = some r) (hd : D h0 n0) (hs : F0.sub h0) {pa0 : Option (Nat × Nat)} {ca0 : Nat} (ra0 : RowF (rP rI rI) 2 F0 pa0 ca0 a0) : C LW fl 73 [(.slice pa0 (a0).length ca0), (i64 a1)] ⟨h0, n0⟩ (KS (i64 r) n0 h0) := by
 unfold sf73 at hF
 refine zT hd hs lw73 rfl rfl (by rfl) (fun st T hT => ?_)
 have hfl : n0 ≤ n0 := Nat.le_refl n0
 have t0 := hT 0 _ rfl
 have t1 := hT 1 _ rfl
 dsimp only [L73]
 refine zg (zh ?_); refine za ?_; refine zf (th_n ?_); refine zg (zh ?_); refine za ?_; refine zf (th_n ?_); refine zg ?_; refine zE ?_; obtain ⟨y7, hy, hF⟩ := zm hF; refine zW (sf73_L1 a0 a1) (fun x1 T ds2 h nx => ∃ (F2 : PH), ds2 = [] ∧ PH.le F0 F2 ∧ St n0 h0 F0 F2 h nx [] ∧ T.get 0 = some (.slice pa0 (a0).length ca0) ∧ T.get 1 = some (i64 a1) ∧ T.get 5 = some (i64 x1)) (fun y e a σ => e = .exit 0 ∧ a.nt = 46 ∧ ∃ (F8 : PH), a.defers = [] ∧ PH.le F0 F8 ∧ St n0 h0 F0 F8 σ.h σ.nx [] ∧ a.tmps.get 0 = some (.slice pa0 (a0).length ca0) ∧ a.tmps.get 1 = some (i64 a1) ∧ a.tmps.get 5 = some (i64 y)) (fun x1 T ds2 h nx s hp hF => ?_) N _ y7 _ _ _ _ hy ⟨F0, rfl, (PH.le.refl _), st, gA, gA, gA⟩ (fun e a σ hne hq => ?_)
 ·obtain ⟨F2, rfl, le2, st, t0, t1, t5⟩ := hp; unfold sf73_L1 at hF; unfold L73w0; refine zg ?_; refine zg (zh ?_); refine za ?_; refine za ?_; obtain ⟨q9, hF⟩ := zi hF; refine zQ q9 ?_; obtain ⟨n10, x10, z10, l10, g10, hF⟩ := z7 hF; obtain ⟨b10, o10, s10, j10, r10, e10, f10, k10, ⟨_, _, rfl, rfl, rfl⟩⟩ := RowF.get ra0 g10; refine yt e10 z10 l10 ?_; refine v_fa ?_; refine zq (st.sub _ _ (le2 _ _ f10)) (yu (j := 0) k10 rfl) ?_; refine za ?_; refine ye ?_; refine zf (th_n ?_); refine zA (fun hb11 => ?_) (fun hb11 => ?_)
  ·have hF := zw hb11 hF; refine zB (th_n ?_); refine zE ?_; refine zh ?_; refine za ?_; obtain ⟨q12, hF⟩ := zi hF; refine zQ q12 ?_; refine za ?_; refine zf ?_; refine ib_n ?_; refine thn ⟨_, (inj hF).symm, rfl, ?_⟩; dsimp only
   exact ⟨F2, rfl, le2, st, gA, gA, gA⟩
  ·have hF := zx hb11 hF; refine z8 ?_; refine th_e ?_; refine th_e ?_; refine ⟨_, (inj hF).symm, rfl, rfl, ?_⟩; dsimp only
   exact ⟨F2, rfl, le2, st, gA, gA, gA⟩
 ·obtain ⟨N9, T, ds8⟩ := a; obtain ⟨h13, n14⟩ := σ; obtain ⟨rfl, e1, F8, e2, le8, st, t0, t1, t5⟩ := hq
  dsimp only at e1 e2
  subst e1
  subst e2
  dsimp only at st t0 t1 t5
  refine ib_e ?_; refine th_n ?_; refine zg ?_; refine z9 (Nat.le_trans hfl st.ext.le) (fun dw => ?_); refine zd st.d dw (fun hm vw => za zb) ?_; refine zd st.d dw (fun hm vw => za zb) ?_; obtain ⟨n15, x15, z15, l15, g15, hF⟩ := z7 hF; obtain ⟨b15, o15, s15, j15, r15, e15, f15, k15, ⟨_, _, rfl, rfl, rfl⟩⟩ := RowF.get ra0 g15; refine zd st.d dw (fun hm vw => yt e15 z15 l15 zb) ?_; refine zd st.d dw (fun hm vw => zH (vw.fz st (le8 _ _ f15)) k15 zb) ?_; refine zd st.d dw (fun hm vw => za zb) ?_; refine zd st.d dw (fun hm vw => za zb) ?_; obtain ⟨q16, hF⟩ := zi hF; refine zd st.d dw (fun hm vw => zQ q16 zb) ?_
  obtain ⟨n17, x17, z17, l17, g17, hF⟩ := z7 hF; obtain ⟨b17, o17, s17, j17, r17, e17, f17, k17, ⟨_, _, rfl, rfl, rfl⟩⟩ := RowF.get ra0 g17; refine zd st.d dw (fun hm vw => yt e17 z17 l17 zb) ?_; refine zd st.d dw (fun hm vw => zH (vw.fz st (le8 _ _ f17)) k17 zb) ?_; refine Yy st.d dw (fun hm vw => kN zb) (fun done dw => ?_); refine Yy st.d dw (fun hm vw => kN zb) (fun done dw => ?_)
  refine y_upd (E := [(n14, [(i64 x15.1), (i64 x15.2)]), ((n14 + 1), [(i64 0), (i64 0)])]) st dw rfl (fun hm vw => u_st (E := [(n14, [(i64 x15.1), (i64 x15.2)]), ((n14 + 1), [(i64 0), (i64 0)])]) (b := n14) (o := 0) (cs := [(i64 0), (i64 0)]) (cs' := [(i64 x15.1), (i64 x15.2)]) (v := (.agg [(i64 x15.1), (i64 x15.2)])) vw (Nat.le_trans hfl st.ext.le) (by have := dw.le; omega) (vw.vis _ (List.mem_cons_of_mem _ (List.mem_cons_self ..)) rfl _ _ (if_pos rfl)) rfl rfl rfl (XM (.inl ⟨rfl, rfl⟩) (XM (.inr ⟨by omega, by have := dw.le; omega, vw.vis _ (List.mem_cons_self ..) rfl _ _ (if_pos rfl)⟩) bls_nil))) (fun done G18 dw hG18 => ?_)
  refine yd st.d dw rfl (fun h19 ex vs => ?_)
  have st := St.laid st ex (Lay.cons (b := n14) (cs := [(i64 x15.1), (i64 x15.2)]) (by have := dw.le; omega) (vs _ (List.mem_cons_self ..) _ _ (hG18 _ _ bls_0)) (Lay.cons (b := (n14 + 1)) (cs := [(i64 0), (i64 0)]) (by have := dw.le; omega) (vs _ (List.mem_cons_self ..) _ _ (hG18 _ _ (bls_s (by omega) bls_0))) (Lay.nil (by have := dw.le; omega))))
  refine v_st (cs' := [(i64 x17.1), (i64 x17.2)]) st 1 rfl rfl rfl rfl hfl (fun h20 st => ?_); refine zf (th_n ?_); refine zg ?_; refine z9 (Nat.le_trans hfl st.ext.le) (fun dw => ?_); refine zd st.d dw (fun hm vw => v_fa zb) ?_; refine zd st.d dw (fun hm vw => zq (vw.bx (st.at (i := 0) rfl)) rfl zb) ?_; refine zd st.d dw (fun hm vw => v_fa zb) ?_; refine zd st.d dw (fun hm vw => zq (vw.bx (st.at (i := 1) rfl)) rfl zb) ?_; refine zd st.d dw (fun hm vw => v_fa zb) ?_; refine zd st.d dw (fun hm vw => zq (vw.bx (st.at (i := 0) rfl)) rfl zb) ?_; obtain ⟨q21, hF⟩ := zi hF; refine zd st.d dw (fun hm vw => yn q21 zb) ?_
  refine zd st.d dw (fun hm vw => za zb) ?_; refine zd st.d dw (fun hm vw => v_fa zb) ?_; refine zd st.d dw (fun hm vw => zq (vw.bx (st.at (i := 0) rfl)) rfl zb) ?_; obtain ⟨q22, hF⟩ := zi hF; refine zd st.d dw (fun hm vw => yn q22 zb) ?_; obtain ⟨q23, hF⟩ := zi hF; refine zd st.d dw (fun hm vw => yF q23 zb) ?_; refine zd st.d dw (fun hm vw => v_fa zb) ?_; refine zd st.d dw (fun hm vw => zq (vw.bx (st.at (i := 1) rfl)) rfl zb) ?_; refine zd st.d dw (fun hm vw => v_fa zb) ?_; refine zd st.d dw (fun hm vw => zq (vw.bx (st.at (i := 0) rfl)) rfl zb) ?_; refine yd st.d dw rfl (fun h24 ex vs => ?_)
  have st := st.ext1 ex
  obtain ⟨q25, hF⟩ := zi hF; refine yn q25 ?_; obtain ⟨q26, hF⟩ := zi hF; refine vV q26 ?_; obtain ⟨q27, hF⟩ := zi hF; refine zQ q27 ?_; refine za ?_; refine zf (th_n ?_); refine zt ?_; obtain rfl := inj hF
  exact zy st (Res.t gA Res.nil) rfl rfl
theorem ct55 (N : Nat) {a0_0 a0_1 a0_2 a0_3 : Int} {a0_4 : (List (Int × Int × Int × Int))} {a0_5 : (List (Int × Int))} {a0_6 a0_7 a0_8 a0_9 a1 : Int} {r : (Int × Int)} (hF : sf55 N a0_0 a0_1 a0_2 a0_3 a0_4 a0_5 a0_6 a0_7 a0_8 a0_9 a1 = some r) (hd : D h0 n0) (hs : F0.sub h0) {pa0_4 : Option (Nat × Nat)} {ca0_4 : Nat} {pa0_5 : Option (Nat × Nat)} {ca0_5 : Nat} (ra0_4 : RowF (rP rI (rP rI (rP rI rI))) 4 F0 pa0_4 ca0_4 a0_4) (ra0_5 : RowF (rP rI rI) 2 F0 pa0_5 ca0_5 a0_5) : C LW fl 55 [(.agg [(i64 a0_0), (i64 a0_1), (i64 a0_2), (i64 a0_3), (.slice pa0_4 (a0_4).length ca0_4), (.slice pa0_5 (a0_5).length ca0_5), (i64 a0_6), (i64 a0_7), (i64 a0_8), (i64 a0_9)]), (i64 a1)] ⟨h0, n0⟩ (KS (.agg [(i64 r.1), (i64 r.2)]) n0 h0) := by
 unfold sf55 at hF
 refine zT hd hs lw55 rfl rfl (by rfl) (fun st T hT => ?_)
 have hfl : n0 ≤ n0 := Nat.le_refl n0
 have t0 := hT 0 _ rfl
 have t1 := hT 1 _ rfl
 dsimp only [L55]
 refine zg (zh ?_); refine zS st (fun b1 h2 n3 st => ?_); refine zJ st (fun b4 h5 n6 st => ?_); refine zf (th_n ?_); refine zg (zh ?_); refine v_fa ?_; refine v_fa ?_; refine zq (st.at (i := 0) rfl).2.2 rfl ?_; refine za ?_; obtain ⟨q7, hF⟩ := zi hF; refine yF q7 ?_; obtain ⟨q8, hF⟩ := zi hF; refine vV q8 ?_; refine v_fa ?_; refine v_fa ?_; refine zq (st.at (i := 0) rfl).2.2 rfl ?_; refine za ?_; obtain ⟨q9, hF⟩ := zi hF; refine yF q9 ?_; obtain ⟨q10, hF⟩ := zi hF; refine zQ q10 ?_; obtain ⟨q11, hF⟩ := zi hF; refine vV q11 ?_; refine zO (cs := [(i64 (Int.tdiv (a0_8 * a1) (100 : Int))), (i64 (Int.tdiv ((a0_9 * a1) + (99 : Int)) (100 : Int)))]) rfl ?_
 refine v_st (cs' := [(i64 (Int.tdiv (a0_8 * a1) (100 : Int))), (i64 (Int.tdiv ((a0_9 * a1) + (99 : Int)) (100 : Int)))]) st 1 rfl rfl rfl rfl hfl (fun h12 st => ?_); refine zf (th_n ?_); refine zt ?_; obtain rfl := inj hF
 exact zy st (Res.c gA (st.at (i := 1) rfl).2.2 (show takeN _ _ = some [(i64 (Int.tdiv (a0_8 * a1) (100 : Int))), (i64 (Int.tdiv ((a0_9 * a1) + (99 : Int)) (100 : Int)))] from rfl) Res.nil) rfl rfl
theorem ct28 (N : Nat) {a0_0 a0_1 a0_2 a0_3 : Int} {a0_4 : (List (Int × Int × Int × Int))} {a0_5 : (List (Int × Int))} {a0_6 a0_7 a0_8 a0_9 a1 r : Int} (hF : sf28 N a0_0 a0_1 a0_2 a0_3 a0_4 a0_5 a0_6 a0_7 a0_8 a0_9 a1 = some r) (hd : D h0 n0) (hs : F0.sub h0) {pa0_4 : Option (Nat × Nat)} {ca0_4 : Nat} {pa0_5 : Option (Nat × Nat)} {ca0_5 : Nat} (ra0_4 : RowF (rP rI (rP rI (rP rI rI))) 4 F0 pa0_4 ca0_4 a0_4) (ra0_5 : RowF (rP rI rI) 2 F0 pa0_5 ca0_5 a0_5) : C LW fl 28 [(.agg [(i64 a0_0), (i64 a0_1), (i64 a0_2), (i64 a0_3), (.slice pa0_4 (a0_4).length ca0_4), (.slice pa0_5 (a0_5).length ca0_5), (i64 a0_6), (i64 a0_7), (i64 a0_8), (i64 a0_9)]), (i64 a1)] ⟨h0, n0⟩ (KS (i64 r) n0 h0) := by
 unfold sf28 at hF
 refine zT hd hs lw28 rfl rfl (by rfl) (fun st T hT => ?_)
 have hfl : n0 ≤ n0 := Nat.le_refl n0
 have t0 := hT 0 _ rfl
 have t1 := hT 1 _ rfl
 dsimp only [L28]
 refine zg (zh ?_); refine zS st (fun b1 h2 n3 st => ?_); refine za ?_; refine zf (th_n ?_); refine zg (zh ?_); refine za ?_; obtain ⟨q4, hF⟩ := zi hF; refine yF q4 ?_; refine v_fa ?_; refine v_fa ?_; refine zq (st.at (i := 0) rfl).2.2 rfl ?_; obtain ⟨q5, hF⟩ := zi hF; refine vV q5 ?_; refine za ?_; refine zf (th_n ?_); refine zt ?_; obtain rfl := inj hF
 exact zy st (Res.t gA Res.nil) rfl rfl
end Go.Hx.V

namespace Go.Hx.V
open Go.Hx
set_option maxRecDepth 20000
set_option maxHeartbeats 4000000
variable {fl : Nat} {h0 : Tr HBlk} {n0 : Nat} {F0 : PH}
attribute [local irreducible] W R C thenH inBlockH Tr.get Tr.set lo ck bnd ix iter
theorem ct133 (N : Nat) {a0 : (List Int)} {a1 r : Int} (hF : sf133 N a0 a1 = some r) (hd : D h0 n0) (hs : F0.sub h0) {pa0 : Option (Nat × Nat)} {ca0 : Nat} (ra0 : RowF (rK .u16) 1 F0 pa0 ca0 a0) : C LW fl 133 [(.slice pa0 (a0).length ca0), (i64 a1)] ⟨h0, n0⟩ (KS (i64 r) n0 h0) := by
 unfold sf133 at hF
 refine zT hd hs lw133 rfl rfl (by rfl) (fun st T hT => ?_)
 have hfl : n0 ≤ n0 := Nat.le_refl n0
 have t0 := hT 0 _ rfl
 have t1 := hT 1 _ rfl
 dsimp only [L133]
 refine zg (zh ?_); refine za ?_; refine zf (th_n ?_); refine zg ?_; refine zg (zh ?_); refine za ?_; refine yA ?_; refine YE ?_; refine zf (th_n ?_); refine zA (fun hb1 => ?_) (fun hb1 => ?_)
 ·have hF := zw hb1 hF; refine zg (zh ?_); refine za ?_; refine zf (th_n ?_); refine zt ?_; refine th_r ?_; obtain rfl := inj hF
  exact zy st (Res.t gA Res.nil) rfl rfl
 ·have hF := zx hb1 hF; refine zB (th_n ?_); refine zg (zh ?_); refine za ?_; refine za ?_; refine za ?_; refine yA ?_; obtain ⟨q2, hF⟩ := zi hF; refine uI q2 ?_; obtain ⟨n3, x3, z3, l3, g3, hF⟩ := z7 hF; obtain ⟨b3, o3, s3, j3, r3, e3, f3, k3, rfl⟩ := RowF.get ra0 g3; refine yt e3 z3 l3 ?_; refine zq (st.sub _ _ f3) (yu (j := 0) k3 rfl) ?_; obtain ⟨q4, hF⟩ := zi hF; refine vW q4 ?_; refine za ?_; refine zf (th_n ?_); refine zt ?_; obtain rfl := inj hF
  exact zy st (Res.t gA Res.nil) rfl rfl
theorem ct56 (N : Nat) {a0 : (List Int)} {a1 r : Int} (hF : sf56 N a0 a1 = some r) (hd : D h0 n0) (hs : F0.sub h0) {pa0 : Option (Nat × Nat)} {ca0 : Nat} (ra0 : RowF rI 1 F0 pa0 ca0 a0) : C LW fl 56 [(.slice pa0 (a0).length ca0), (i64 a1)] ⟨h0, n0⟩ (KS (i64 r) n0 h0) := by
 unfold sf56 at hF
 refine zT hd hs lw56 rfl rfl (by rfl) (fun st T hT => ?_)
 have hfl : n0 ≤ n0 := Nat.le_refl n0
 have t0 := hT 0 _ rfl
 have t1 := hT 1 _ rfl
 dsimp only [L56]
 refine zg (zh ?_); refine za ?_; refine zf (th_n ?_); refine zg (zh ?_); refine za ?_; refine zf (th_n ?_); refine zg ?_; refine zg (zh ?_); refine za ?_; refine zf (th_n ?_); refine zE ?_; obtain ⟨y7, hy, hF⟩ := zm hF; refine zW (sf56_L1 a0 a1) (fun x1 T ds2 h nx => ∃ (F2 : PH), ds2 = [] ∧ PH.le F0 F2 ∧ St n0 h0 F0 F2 h nx [] ∧ T.get 0 = some (.slice pa0 (a0).length ca0) ∧ T.get 1 = some (i64 a1) ∧ T.get 5 = some (i64 x1.1) ∧ T.get 6 = some (i64 x1.2)) (fun y e a σ => e = .exit 0 ∧ a.nt = 19 ∧ ∃ (F8 : PH), a.defers = [] ∧ PH.le F0 F8 ∧ St n0 h0 F0 F8 σ.h σ.nx [] ∧ a.tmps.get 5 = some (i64 y)) (fun x1 T ds2 h nx s hp hF => ?_) N _ y7 _ _ _ _ hy ⟨F0, rfl, (PH.le.refl _), st, gA, gA, gA, gA⟩ (fun e a σ hne hq => ?_)
 ·obtain ⟨F2, rfl, le2, st, t0, t1, t5, t6⟩ := hp; unfold sf56_L1 at hF; unfold L56w0; refine zg ?_; refine zg (zh ?_); refine za ?_; refine za ?_; refine ye ?_; refine zf (th_n ?_); refine zA (fun hb9 => ?_) (fun hb9 => ?_)
  ·have hF := zw hb9 hF; refine zB (th_n ?_); refine zg ?_; refine zE ?_; refine zh ?_; refine za ?_; refine za ?_; refine za ?_; obtain ⟨n10, x10, z10, l10, g10, hF⟩ := z7 hF; obtain ⟨b10, o10, s10, j10, r10, e10, f10, k10, rfl⟩ := RowF.get ra0 g10; refine yt e10 z10 l10 ?_; refine zq (st.sub _ _ (le2 _ _ f10)) (yu (j := 0) k10 rfl) ?_; obtain ⟨q11, hF⟩ := zi hF; refine zQ q11 ?_; refine za ?_; refine zf ?_; refine ib_n ?_; refine th_n ?_; refine zh ?_; refine za ?_; obtain ⟨q12, hF⟩ := zi hF; refine zQ q12 ?_; refine za ?_; refine zf ?_; refine thn ⟨_, (inj hF).symm, rfl, ?_⟩; dsimp only
   exact ⟨F2, rfl, le2, st, gA, gA, gA, gA⟩
  ·have hF := zx hb9 hF; refine z8 ?_; refine th_e ?_; refine th_e ?_; refine ⟨_, (inj hF).symm, rfl, rfl, ?_⟩; dsimp only
   exact ⟨F2, rfl, le2, st, gA⟩
 ·obtain ⟨N9, T, ds8⟩ := a; obtain ⟨h13, n14⟩ := σ; obtain ⟨rfl, e1, F8, e2, le8, st, t5⟩ := hq
  dsimp only at e1 e2
  subst e1
  subst e2
  dsimp only at st t5
  refine ib_e ?_; refine th_n ?_; refine zg (zh ?_); refine za ?_; refine za ?_; refine zf (th_n ?_); refine zt ?_; obtain rfl := inj hF
  exact zy st (Res.t gA Res.nil) rfl rfl
theorem ct35 (N : Nat) {a0_0 a0_1 a0_2 : Int} {r : (Int × Int × Int)} (hF : sf35 N a0_0 a0_1 a0_2 = some r) (hd : D h0 n0) (hs : F0.sub h0) : C LW fl 35 [(.agg [(i64 a0_0), (i64 a0_1), (i64 a0_2)])] ⟨h0, n0⟩ (KS (.agg [(i64 r.1), (i64 r.2.1), (i64 r.2.2)]) n0 h0) := by
 unfold sf35 at hF
 refine zT hd hs lw35 rfl rfl (by rfl) (fun st T hT => ?_)
 have hfl : n0 ≤ n0 := Nat.le_refl n0
 have t0 := hT 0 _ rfl
 dsimp only [L35]
 refine zg (zh ?_); refine zS st (fun b1 h2 n3 st => ?_); refine zJ st (fun b4 h5 n6 st => ?_); refine zf (th_n ?_); refine zg (zh ?_); refine v_fa ?_; refine zq (st.at (i := 0) rfl).2.2 rfl ?_; refine v_fa ?_; refine zq (st.at (i := 0) rfl).2.2 rfl ?_; refine v_fa ?_; refine zq (st.at (i := 0) rfl).2.2 rfl ?_; refine zO (cs := [(i64 a0_0), (i64 a0_1), (i64 a0_2)]) rfl ?_; refine v_st (cs' := [(i64 a0_0), (i64 a0_1), (i64 a0_2)]) st 1 rfl rfl rfl rfl hfl (fun h7 st => ?_); refine zf (th_n ?_); refine zt ?_; obtain rfl := inj hF
 exact zy st (Res.c gA (st.at (i := 1) rfl).2.2 (show takeN _ _ = some [(i64 a0_0), (i64 a0_1), (i64 a0_2)] from rfl) Res.nil) rfl rfl
theorem ct120 (N : Nat) {a0_0 a0_1 a0_2 a1_0 a1_1 : Int} {r : Bool} (hF : sf120 N a0_0 a0_1 a0_2 a1_0 a1_1 = some r) (hd : D h0 n0) (hs : F0.sub h0) : C LW fl 120 [(.agg [(i64 a0_0), (i64 a0_1), (i64 a0_2)]), (.agg [(i64 a1_0), (i64 a1_1)])] ⟨h0, n0⟩ (KS (.bool r) n0 h0) := by
 unfold sf120 at hF
 refine zT hd hs lw120 rfl rfl (by rfl) (fun st T hT => ?_)
 have hfl : n0 ≤ n0 := Nat.le_refl n0
 have t0 := hT 0 _ rfl
 have t1 := hT 1 _ rfl
 dsimp only [L120]
 refine zg (zh ?_); refine zS st (fun b1 h2 n3 st => ?_); refine zS st (fun b4 h5 n6 st => ?_); refine za ?_; refine zf (th_n ?_); refine zg (zh ?_); refine v_fa ?_; refine zq (st.at (i := 1) rfl).2.2 rfl ?_; refine v_fa ?_; refine zq (st.at (i := 0) rfl).2.2 rfl ?_; refine yw ?_; refine za ?_; refine zf (th_n ?_); refine zt ?_; obtain rfl := inj hF
 exact zy st (Res.t gA Res.nil) rfl rfl
theorem ct122 (N : Nat) {a0_0 a0_1 a0_2 a1_0 a1_1 : Int} {r : Bool} (hF : sf122 N a0_0 a0_1 a0_2 a1_0 a1_1 = some r) (hd : D h0 n0) (hs : F0.sub h0) : C LW fl 122 [(.agg [(i64 a0_0), (i64 a0_1), (i64 a0_2)]), (.agg [(i64 a1_0), (i64 a1_1)])] ⟨h0, n0⟩ (KS (.bool r) n0 h0) := by
 unfold sf122 at hF
 refine zT hd hs lw122 rfl rfl (by rfl) (fun st T hT => ?_)
 have hfl : n0 ≤ n0 := Nat.le_refl n0
 have t0 := hT 0 _ rfl
 have t1 := hT 1 _ rfl
 dsimp only [L122]
 refine zg (zh ?_); refine zS st (fun b1 h2 n3 st => ?_); refine zS st (fun b4 h5 n6 st => ?_); refine za ?_; refine zf (th_n ?_); refine zg (zh ?_); refine v_fa ?_; refine zq (st.at (i := 1) rfl).2.2 rfl ?_; refine v_fa ?_; refine zq (st.at (i := 0) rfl).2.2 rfl ?_; obtain ⟨q7, hF⟩ := zi hF; refine kp q7 ?_; refine uo ?_; refine za ?_; refine zf (th_n ?_); refine zt ?_; obtain rfl := inj hF
 exact zy st (Res.t gA Res.nil) rfl rfl
theorem ct54 (N : Nat) {a0_0 a0_1 a1 r : Int} (hF : sf54 N a0_0 a0_1 a1 = some r) (hd : D h0 n0) (hs : F0.sub h0) : C LW fl 54 [(.agg [(i64 a0_0), (i64 a0_1)]), (.int .u16 a1)] ⟨h0, n0⟩ (KS (i64 r) n0 h0) := by
 unfold sf54 at hF
 refine zT hd hs lw54 rfl rfl (by rfl) (fun st T hT => ?_)
 have hfl : n0 ≤ n0 := Nat.le_refl n0
 have t0 := hT 0 _ rfl
 have t1 := hT 1 _ rfl
 dsimp only [L54]
 refine zg (zh ?_); refine zS st (fun b1 h2 n3 st => ?_); refine za ?_; refine zf (th_n ?_); refine zg ?_; refine z9 (Nat.le_trans hfl st.ext.le) (fun dw => ?_); refine zd st.d dw (fun hm vw => v_fa zb) ?_; refine zd st.d dw (fun hm vw => zq (vw.bx (st.at (i := 0) rfl)) rfl zb) ?_; refine zd st.d dw (fun hm vw => za zb) ?_; obtain ⟨q4, hF⟩ := zi hF; refine zd st.d dw (fun hm vw => vW q4 zb) ?_; refine zd st.d dw (fun hm vw => v_fa zb) ?_; refine zd st.d dw (fun hm vw => zq (vw.bx (st.at (i := 0) rfl)) rfl zb) ?_; refine zd st.d dw (fun hm vw => v_fa zb) ?_; refine zd st.d dw (fun hm vw => zq (vw.bx (st.at (i := 0) rfl)) rfl zb) ?_
 refine yd st.d dw rfl (fun h5 ex vs => ?_)
 have st := st.ext1 ex
 obtain ⟨q6, hF⟩ := zi hF; refine yn q6 ?_; obtain ⟨q7, hF⟩ := zi hF; refine zQ q7 ?_; obtain ⟨q8, hF⟩ := zi hF; refine uI q8 ?_; obtain ⟨q9, hF⟩ := zi hF; refine zQ q9 ?_; refine za ?_; refine zf (th_n ?_); refine zt ?_; obtain rfl := inj hF
 exact zy st (Res.t gA Res.nil) rfl rfl
end Go.Hx.V

namespace Go.Hx.V
open Go.Hx
set_option maxRecDepth 20000
set_option maxHeartbeats 4000000
variable {fl : Nat} {h0 : Tr HBlk} {n0 : Nat} {F0 : PH}
attribute [local irreducible] W R C thenH inBlockH Tr.get Tr.set lo ck bnd ix iter
theorem ct59 (N : Nat) {a0_0 a0_1 a0_2 a0_3 : Int} {r : (Int × Int × Int × Int)} (hF : sf59 N a0_0 a0_1 a0_2 a0_3 = some r) (hd : D h0 n0) (hs : F0.sub h0) : C LW fl 59 [(.agg [(i64 a0_0), (i64 a0_1), (i64 a0_2), (i64 a0_3)])] ⟨h0, n0⟩ (KS (.agg [(i64 r.1), (i64 r.2.1), (i64 r.2.2.1), (i64 r.2.2.2)]) n0 h0) := by
 unfold sf59 at hF
 refine zT hd hs lw59 rfl rfl (by rfl) (fun st T hT => ?_)
 have hfl : n0 ≤ n0 := Nat.le_refl n0
 have t0 := hT 0 _ rfl
 dsimp only [L59]
 refine zg (zh ?_); refine zS st (fun b1 h2 n3 st => ?_); refine zJ st (fun b4 h5 n6 st => ?_); refine zf (th_n ?_); refine zg ?_; refine z9 (Nat.le_trans hfl st.ext.le) (fun dw => ?_); refine zd st.d dw (fun hm vw => v_fa zb) ?_; refine zd st.d dw (fun hm vw => zq (vw.bx (st.at (i := 0) rfl)) rfl zb) ?_; refine zd st.d dw (fun hm vw => v_fa zb) ?_; refine zd st.d dw (fun hm vw => zq (vw.bx (st.at (i := 0) rfl)) rfl zb) ?_; refine zd st.d dw (fun hm vw => v_fa zb) ?_; refine zd st.d dw (fun hm vw => zH (vs := [(i64 a0_2), (i64 a0_3)]) (vw.bx (st.at (i := 0) rfl)) rfl zb) ?_; obtain ⟨v7, e8, hF⟩ := zm hF
 refine yl st.d dw (fun hm vw => yo (ct97 N e8 vw.d (vw.sub st) ) (fun n' hn' => ym hn')) (fun n9 hn' dw => ?_); refine yd st.d dw rfl (fun h10 ex vs => ?_)
 have st := st.ext1 ex
 refine zO (cs := [(i64 a0_0), (i64 a0_1), (i64 v7.1), (i64 v7.2)]) rfl ?_; refine v_st (cs' := [(i64 a0_0), (i64 a0_1), (i64 v7.1), (i64 v7.2)]) st 1 rfl rfl rfl rfl hfl (fun h11 st => ?_); refine zf (th_n ?_); refine zt ?_; obtain rfl := inj hF
 exact zy st (Res.c gA (st.at (i := 1) rfl).2.2 (show takeN _ _ = some [(i64 a0_0), (i64 a0_1), (i64 v7.1), (i64 v7.2)] from rfl) Res.nil) rfl rfl
theorem ct60 (N : Nat) {a0 : (List (Int × Int × Int × Int))} {r : (List (Int × Int × Int × Int))} (hF : sf60 N a0 = some r) (hd : D h0 n0) (hs : F0.sub h0) (hfl : fl ≤ n0) {pa0 : Option (Nat × Nat)} {ca0 : Nat} (ra0 : RowF (rP rI (rP rI (rP rI rI))) 4 F0 pa0 ca0 a0) : C LW fl 60 [(.slice pa0 (a0).length ca0)] ⟨h0, n0⟩ (KR (lvL (rP rI (rP rI (rP rI rI))) 4) F0 h0 n0 r) := by
 unfold sf60 at hF
 refine vB hd hs hfl lw60 rfl rfl (by rfl) (fun st T hT => ?_)
 have t0 := hT 0 _ rfl
 dsimp only [L60]
 refine zg (zh ?_); refine za ?_; refine zf (th_n ?_); refine zg (zh ?_); refine za ?_; refine zf (th_n ?_); refine zg ?_; refine zg (zh ?_); refine za ?_; refine zf (th_n ?_); refine zE ?_
 have st := st.nilL 4
 have w1 : LR (rP rI (rP rI (rP rI rI))) 4 F0 ([] : List (Int × Int × Int × Int)) [] := LR.nil
 obtain ⟨y19, hy, hF⟩ := zm hF; refine zW (sf60_L1 N a0) (fun x3 T ds4 h nx => ∃ (F4 : PH) (o5 : Option Nat) (c5 : Nat) (cs5 : List HV), ds4 = [] ∧ PH.le F0 F4 ∧ St n0 h0 F0 F4 h nx [.ls o5 c5 cs5 4] ∧ LR (rP rI (rP rI (rP rI rI))) 4 F4 x3.1 cs5 ∧ T.get 0 = some (.slice pa0 (a0).length ca0) ∧ T.get 3 = some (slv o5 (x3.1).length c5) ∧ T.get 4 = some (i64 x3.2)) (fun y e a σ => e = .exit 0 ∧ a.nt = 32 ∧ ∃ (F20 : PH) (o21 : Option Nat) (c21 : Nat) (cs21 : List HV), a.defers = [] ∧ PH.le F0 F20 ∧ St n0 h0 F0 F20 σ.h σ.nx [.ls o21 c21 cs21 4] ∧ LR (rP rI (rP rI (rP rI rI))) 4 F20 y cs21 ∧ a.tmps.get 3 = some (slv o21 (y).length c21)) (fun x3 T ds4 h nx s hp hF => ?_) N _ y19 _ _ _ _ hy ⟨F0, none, 0, [], rfl, (PH.le.refl _), st, w1, gA, gA, gA⟩ (fun e a σ hne hq => ?_)
 ·obtain ⟨F4, o5, c5, cs5, rfl, le4, st, w5, t0, t3, t4⟩ := hp; unfold sf60_L1 at hF; unfold L60w0; refine zg ?_; refine zg (zh ?_); refine za ?_; refine za ?_; refine yA ?_; refine ye ?_; refine zf (th_n ?_); refine zA (fun hb22 => ?_) (fun hb22 => ?_)
  ·have hF := zw hb22 hF; refine zB (th_n ?_); refine zg ?_; refine zE ?_; refine z9 (Nat.le_trans hfl st.ext.le) (fun dw => ?_); refine zd st.d dw (fun hm vw => za zb) ?_; refine zd st.d dw (fun hm vw => za zb) ?_; refine zd st.d dw (fun hm vw => za zb) ?_; obtain ⟨n23, x23, z23, l23, g23, hF⟩ := z7 hF; obtain ⟨b23, o23, s23, j23, r23, e23, f23, k23, ⟨_, _, rfl, rfl, ⟨_, _, rfl, rfl, ⟨_, _, rfl, rfl, rfl⟩⟩⟩⟩ := RowF.get ra0 g23; refine zd st.d dw (fun hm vw => yt e23 z23 l23 zb) ?_; refine zd st.d dw (fun hm vw => v_fa zb) ?_; refine zd st.d dw (fun hm vw => zq (vw.fz st (le4 _ _ f23)) (yu (j := 0) k23 rfl) zb) ?_
   refine zd st.d dw (fun hm vw => za zb) ?_; refine zd st.d dw (fun hm vw => za zb) ?_; obtain ⟨n24, x24, z24, l24, g24, hF⟩ := z7 hF; obtain ⟨b24, o24, s24, j24, r24, e24, f24, k24, ⟨_, _, rfl, rfl, ⟨_, _, rfl, rfl, ⟨_, _, rfl, rfl, rfl⟩⟩⟩⟩ := RowF.get ra0 g24; refine zd st.d dw (fun hm vw => yt e24 z24 l24 zb) ?_; refine zd st.d dw (fun hm vw => v_fa zb) ?_; refine zd st.d dw (fun hm vw => zq (vw.fz st (le4 _ _ f24)) (yu (j := 1) k24 rfl) zb) ?_; refine zd st.d dw (fun hm vw => za zb) ?_; refine zd st.d dw (fun hm vw => za zb) ?_; obtain ⟨n25, x25, z25, l25, g25, hF⟩ := z7 hF; obtain ⟨b25, o25, s25, j25, r25, e25, f25, k25, ⟨_, _, rfl, rfl, ⟨_, _, rfl, rfl, ⟨_, _, rfl, rfl, rfl⟩⟩⟩⟩ := RowF.get ra0 g25
   refine zd st.d dw (fun hm vw => yt e25 z25 l25 zb) ?_; refine zd st.d dw (fun hm vw => v_fa zb) ?_
   refine zd st.d dw (fun hm vw => zH (vs := [(i64 x25.2.2.1), (i64 x25.2.2.2)]) (vw.fz st (le4 _ _ f25)) (take_sub (j := 2) k25 (by decide) rfl) zb) ?_
   obtain ⟨v26, e27, hF⟩ := zm hF; refine yl st.d dw (fun hm vw => yo (ct97 N e27 vw.d (vw.sub st) ) (fun n' hn' => ym hn')) (fun n28 hn' dw => ?_); refine yd st.d dw rfl (fun h29 ex vs => ?_)
   have st := st.ext1 ex
   refine zO (cs := [(i64 x23.1), (i64 x24.2.1), (i64 v26.1), (i64 v26.2)]) rfl ?_; refine v_bs (cs := [(i64 x23.1), (i64 x24.2.1), (i64 v26.1), (i64 v26.2)]) st rfl (fun b30 h31 n32 st => ?_); obtain ⟨q33, hF⟩ := zi hF
   have w33 : LR (rP rI (rP rI (rP rI rI))) 4 F4 (x3.1 ++ [(x23.1, x24.2.1, v26.1, v26.2)]) (cs5 ++ [(i64 x23.1), (i64 x24.2.1), (i64 v26.1), (i64 v26.2)]) := LR.app w5 (LR.one (⟨[(i64 x23.1)], _, rfl, rfl, ⟨[(i64 x24.2.1)], _, rfl, rfl, ⟨[(i64 v26.1)], _, rfl, rfl, rfl⟩⟩⟩))
   refine jC (n := 1) (ox := 0) (m := (x3.1 ++ [(x23.1, x24.2.1, v26.1, v26.2)]).length) (row := [(i64 x23.1), (i64 x24.2.1), (i64 v26.1), (i64 v26.2)]) st 0 rfl w5.1 (st.at (i := 1) rfl).2.2 rfl rfl q33 hfl (by decide) (by decide) (by simp) (fun o33 c33 h33 n33 st => ?_)
   refine za ?_; refine zf ?_; refine ib_n ?_; refine th_n ?_; refine zh ?_; refine za ?_; obtain ⟨q34, hF⟩ := zi hF; refine zQ q34 ?_; refine za ?_; refine zf ?_; refine thn ⟨_, (inj hF).symm, rfl, ?_⟩; dsimp only
   exact ⟨F4, o33, c33, (cs5 ++ [(i64 x23.1), (i64 x24.2.1), (i64 v26.1), (i64 v26.2)]), rfl, le4, (st.drop (by first | exact List.Sublist.refl _ | (repeat first | exact List.nil_sublist _ | refine List.Sublist.cons_cons _ ?_ | refine List.Sublist.cons _ ?_))), w33, gA, gA, gA⟩
  ·have hF := zx hb22 hF; refine z8 ?_; refine th_e ?_; refine th_e ?_; refine ⟨_, (inj hF).symm, rfl, rfl, ?_⟩; dsimp only
   exact ⟨F4, o5, c5, cs5, rfl, le4, st, w5, gA⟩
 ·obtain ⟨N9, T, ds20⟩ := a; obtain ⟨h35, n36⟩ := σ; obtain ⟨rfl, e1, F20, o21, c21, cs21, e2, le20, st, w21, t3⟩ := hq
  dsimp only at e1 e2
  subst e1
  subst e2
  dsimp only at st t3
  refine ib_e ?_; refine th_n ?_; refine zg (zh ?_); refine za ?_; refine za ?_; refine zf (th_n ?_); refine zt ?_; obtain rfl := inj hF
  obtain ⟨F37, le37, st, rf37⟩ := St.freeze st 0 rfl w21 (by decide)
  exact yO st (Res.t gA Res.nil) ⟨_, _, rfl, rf37⟩
theorem ct168 (N : Nat) {a0_0 a0_1 a0_2 a0_3 : Int} {r : Bool} (hF : sf168 N a0_0 a0_1 a0_2 a0_3 = some r) (hd : D h0 n0) (hs : F0.sub h0) : C LW fl 168 [(.agg [(i64 a0_0), (i64 a0_1), (i64 a0_2), (i64 a0_3)])] ⟨h0, n0⟩ (KS (.bool r) n0 h0) := by
 unfold sf168 at hF
 refine zT hd hs lw168 rfl rfl (by rfl) (fun st T hT => ?_)
 have hfl : n0 ≤ n0 := Nat.le_refl n0
 have t0 := hT 0 _ rfl
 dsimp only [L168]
 refine zg (zh ?_); refine zS st (fun b1 h2 n3 st => ?_); refine za ?_; refine zf (th_n ?_); obtain ⟨y19, hA20, hF⟩ := zm hF; refine yB (fun T ds25 h nx => ∃ u, y19 = (.inr u) ∧ ∃ (F25 : PH), ds25 = [] ∧ PH.le F0 F25 ∧ St n0 h0 F0 F25 h nx [.bx b1 [(i64 a0_0), (i64 a0_1), (i64 a0_2), (i64 a0_3)]] ∧ T.get 1 = some (.ptr (some (b1, 0)))) ?_ (fun T ds25 h nx hp => ?_)
 ·have hK21 := hF
  have hF := hA20; obtain ⟨y31, hA32, hF⟩ := zm hF; refine yB (fun T ds34 h nx => ∃ (F34 : PH), ds34 = [] ∧ PH.le F0 F34 ∧ St n0 h0 F0 F34 h nx [.bx b1 [(i64 a0_0), (i64 a0_1), (i64 a0_2), (i64 a0_3)]] ∧ T.get 1 = some (.ptr (some (b1, 0))) ∧ T.get 17 = some (.bool y31)) ?_ (fun T ds34 h nx hp => ?_)
  ·have hK33 := hF
   have hF := hA32; refine zh ?_; refine v_fa ?_; refine zq (st.at (i := 0) rfl).2.2 rfl ?_; refine ye ?_; refine za ?_
   rcases Bool.eq_false_or_eq_true (decide (a0_0 < (1 : Int))) with hb35 | hb35
   ·have hF := zw hb35 hF; refine ze hb35 ?_; refine ze hb35 ?_; refine ze hb35 ?_; refine zK hb35 ?_; refine za ?_; refine ze rfl ?_; refine ze rfl ?_; refine ze rfl ?_; refine ze rfl ?_; refine zK rfl ?_; refine zf ?_; obtain rfl := inj hF; refine thn ⟨rfl, ?_⟩; dsimp only
    exact ⟨F0, rfl, (PH.le.refl _), st, gA, gA⟩
   ·have hF := zx hb35 hF; refine zj hb35 (v_fa ?_); refine zj hb35 (zq (st.at (i := 0) rfl).2.2 rfl ?_); refine zj hb35 (vE ?_); refine zD hb35 ?_; refine za ?_
    rcases Bool.eq_false_or_eq_true (decide ((10 : Int) < a0_0)) with hb36 | hb36
    ·have hF := zw hb36 hF; refine ze hb36 ?_; refine ze hb36 ?_; refine ze hb36 ?_; refine ze hb36 ?_; refine zK hb36 ?_; refine zf ?_; obtain rfl := inj hF; refine thn ⟨rfl, ?_⟩; dsimp only
     exact ⟨F0, rfl, (PH.le.refl _), st, gA, gA⟩
    ·have hF := zx hb36 hF; refine zj hb36 (v_fa ?_); refine zj hb36 (zH (vs := [(i64 a0_2), (i64 a0_3)]) (st.at (i := 0) rfl).2.2 rfl ?_); obtain ⟨v37, e38, hF⟩ := zm hF; refine zj hb36 (zF st (ct169 N e38 st.d st.sub ) (fun n39 st => ?_)); refine zj hb36 (yg ?_); refine zD hb36 ?_; refine zf ?_; obtain rfl := inj hF; refine thn ⟨rfl, ?_⟩; dsimp only
     exact ⟨F0, rfl, (PH.le.refl _), st, gA, gA⟩
  ·obtain ⟨F34, rfl, le34, st, t1, t17⟩ := hp; refine zA (fun hb40 => ?_) (fun hb40 => ?_)
   ·have hF := zw hb40 hF; refine zg (zh ?_); refine za ?_; refine zf (th_n ?_); refine zt ?_; obtain rfl := inj hF; have hF := hK21; have hF := va hF; refine th_r ?_; obtain rfl := inj hF
    exact zy st (Res.t gA Res.nil) rfl rfl
   ·have hF := zx hb40 hF; refine zB ?_; obtain rfl := inj hF; refine thn ⟨rfl, _, rfl, ?_⟩; dsimp only
    exact ⟨F34, rfl, le34, st, gA⟩
 ·obtain ⟨w24, rfl, F25, rfl, le25, st, t1⟩ := hp; have hF := y9 hF; refine zg (zh ?_); refine v_fa ?_; refine zq (st.at (i := 0) rfl).2.2 rfl ?_; refine v_fa ?_; refine v_fa ?_; refine zq (st.at (i := 0) rfl).2.2 rfl ?_; obtain ⟨q41, hF⟩ := zi hF; refine yF q41 ?_; refine v_fa ?_; refine zq (st.at (i := 0) rfl).2.2 rfl ?_; refine v_fa ?_; refine v_fa ?_; refine zq (st.at (i := 0) rfl).2.2 rfl ?_; obtain ⟨q42, hF⟩ := zi hF; refine yF q42 ?_; refine zO (cs := [(i64 (a0_0 * a0_2)), (i64 (a0_0 * a0_3))]) rfl ?_; refine zJ st (fun b43 h44 n45 st => ?_); refine v_st (cs' := [(i64 (a0_0 * a0_2)), (i64 (a0_0 * a0_3))]) st 1 rfl rfl rfl rfl hfl (fun h46 st => ?_)
  refine zf (th_n ?_); refine zg (zh ?_); refine v_fa ?_; refine zq (st.at (i := 0) rfl).2.2 rfl ?_; refine yw ?_; refine za ?_
  rcases Bool.eq_false_or_eq_true (decide (a0_1 ≤ (2000 : Int))) with hb47 | hb47
  ·have hF := zw hb47 hF; refine zj hb47 (zH (vs := [(i64 (a0_0 * a0_2)), (i64 (a0_0 * a0_3))]) (st.at (i := 1) rfl).2.2 rfl ?_); refine zj hb47 (v_fa ?_); refine zj hb47 (zq (st.at (i := 0) rfl).2.2 rfl ?_); obtain ⟨v48, e49, hF⟩ := zm hF; refine zj hb47 (zF st (ct180 N e49 st.d st.sub ) (fun n50 st => ?_)); refine zK hb47 ?_; refine za ?_; refine zf (th_n ?_); refine zt ?_; obtain rfl := inj hF
   exact zy st (Res.t gA Res.nil) rfl rfl
  ·have hF := zx hb47 hF; refine ze hb47 ?_; refine ze hb47 ?_; refine ze hb47 ?_; refine ze hb47 ?_; refine zD hb47 ?_; refine za ?_; refine zf (th_n ?_); refine zt ?_; obtain rfl := inj hF
   exact zy st (Res.t gA Res.nil) rfl rfl
theorem ct152 (N : Nat) {a0_0 a0_1 a0_2 a0_3 a1_0 a1_1 a1_2 a1_3 : Int} {r : Bool} (hF : sf152 N a0_0 a0_1 a0_2 a0_3 a1_0 a1_1 a1_2 a1_3 = some r) (hd : D h0 n0) (hs : F0.sub h0) : C LW fl 152 [(.agg [(i64 a0_0), (i64 a0_1), (i64 a0_2), (i64 a0_3)]), (.agg [(i64 a1_0), (i64 a1_1), (i64 a1_2), (i64 a1_3)])] ⟨h0, n0⟩ (KS (.bool r) n0 h0) := by
 unfold sf152 at hF
 refine zT hd hs lw152 rfl rfl (by rfl) (fun st T hT => ?_)
 have hfl : n0 ≤ n0 := Nat.le_refl n0
 have t0 := hT 0 _ rfl
 have t1 := hT 1 _ rfl
 dsimp only [L152]
 refine zg (zh ?_); refine zS st (fun b1 h2 n3 st => ?_); refine zS st (fun b4 h5 n6 st => ?_); refine za ?_; refine zf (th_n ?_); refine zg (zh ?_); refine v_fa ?_; refine zq (st.at (i := 1) rfl).2.2 rfl ?_; refine yw ?_; refine za ?_
 rcases Bool.eq_false_or_eq_true (decide ((0 : Int) ≤ a1_0)) with hb7 | hb7
 ·have hF := zw hb7 hF; refine zj hb7 (v_fa ?_); refine zj hb7 (zq (st.at (i := 1) rfl).2.2 rfl ?_); refine zj hb7 (v_fa ?_); refine zj hb7 (zq (st.at (i := 0) rfl).2.2 rfl ?_); refine zj hb7 (ye ?_); refine zK hb7 ?_; refine za ?_
  rcases Bool.eq_false_or_eq_true (decide (a1_0 < a0_0)) with hb8 | hb8
  ·have hF := zw hb8 hF; refine zj hb8 (v_fa ?_); refine zj hb8 (zq (st.at (i := 1) rfl).2.2 rfl ?_); refine zj hb8 (v_fa ?_); refine zj hb8 (zq (st.at (i := 1) rfl).2.2 rfl ?_); refine zj hb8 (yw ?_); refine zK hb8 ?_; refine za ?_
   rcases Bool.eq_false_or_eq_true (decide (a1_0 ≤ a1_1)) with hb9 | hb9
   ·have hF := zw hb9 hF; refine zj hb9 (v_fa ?_); refine zj hb9 (zq (st.at (i := 1) rfl).2.2 rfl ?_); refine zj hb9 (v_fa ?_); refine zj hb9 (zq (st.at (i := 0) rfl).2.2 rfl ?_); refine zj hb9 (yw ?_); refine zK hb9 ?_; refine za ?_
    rcases Bool.eq_false_or_eq_true (decide (a1_1 ≤ a0_0)) with hb10 | hb10
    ·have hF := zw hb10 hF; refine zj hb10 (v_fa ?_); refine zj hb10 (zH (vs := [(i64 a1_2), (i64 a1_3)]) (st.at (i := 1) rfl).2.2 rfl ?_); obtain ⟨v11, e12, hF⟩ := zm hF; refine zj hb10 (zF st (ct169 N e12 st.d st.sub ) (fun n13 st => ?_)); refine zK hb10 ?_; refine za ?_; refine zf (th_n ?_); refine zt ?_; obtain rfl := inj hF
     exact zy st (Res.t gA Res.nil) rfl rfl
    ·have hF := zx hb10 hF; refine ze hb10 ?_; refine ze hb10 ?_; refine ze hb10 ?_; refine zD hb10 ?_; refine za ?_; refine zf (th_n ?_); refine zt ?_; obtain rfl := inj hF
     exact zy st (Res.t gA Res.nil) rfl rfl
   ·have hF := zx hb9 hF; refine ze hb9 ?_; refine ze hb9 ?_; refine ze hb9 ?_; refine ze hb9 ?_; refine ze hb9 ?_; refine zD hb9 ?_; refine za ?_; refine ze rfl ?_; refine ze rfl ?_; refine ze rfl ?_; refine zD rfl ?_; refine za ?_; refine zf (th_n ?_); refine zt ?_; obtain rfl := inj hF
    exact zy st (Res.t gA Res.nil) rfl rfl
  ·have hF := zx hb8 hF; refine ze hb8 ?_; refine ze hb8 ?_; refine ze hb8 ?_; refine ze hb8 ?_; refine ze hb8 ?_; refine zD hb8 ?_; refine za ?_; refine ze rfl ?_; refine ze rfl ?_; refine ze rfl ?_; refine ze rfl ?_; refine ze rfl ?_; refine zD rfl ?_; refine za ?_; refine ze rfl ?_; refine ze rfl ?_; refine ze rfl ?_; refine zD rfl ?_; refine za ?_; refine zf (th_n ?_); refine zt ?_; obtain rfl := inj hF
   exact zy st (Res.t gA Res.nil) rfl rfl
 ·have hF := zx hb7 hF; refine ze hb7 ?_; refine ze hb7 ?_; refine ze hb7 ?_; refine ze hb7 ?_; refine ze hb7 ?_; refine zD hb7 ?_; refine za ?_; refine ze rfl ?_; refine ze rfl ?_; refine ze rfl ?_; refine ze rfl ?_; refine ze rfl ?_; refine zD rfl ?_; refine za ?_; refine ze rfl ?_; refine ze rfl ?_; refine ze rfl ?_; refine ze rfl ?_; refine ze rfl ?_; refine zD rfl ?_; refine za ?_; refine ze rfl ?_; refine ze rfl ?_; refine ze rfl ?_; refine zD rfl ?_; refine za ?_; refine zf (th_n ?_); refine zt ?_; obtain rfl := inj hF
  exact zy st (Res.t gA Res.nil) rfl rfl
end Go.Hx.V

namespace Go.Hx.V
open Go.Hx
set_option maxRecDepth 20000
set_option maxHeartbeats 4000000
variable {fl : Nat} {h0 : Tr HBlk} {n0 : Nat} {F0 : PH}
attribute [local irreducible] W R C thenH inBlockH Tr.get Tr.set lo ck bnd ix iter
theorem ct153 (N : Nat) {a0_0 a0_1 a0_2 a0_3 : Int} {r : (Int × Int × Int × Int × Int × (Nat → Int))} (hF : sf153 N a0_0 a0_1 a0_2 a0_3 = some r) (hd : D h0 n0) (hs : F0.sub h0) : C LW fl 153 [(.agg [(i64 a0_0), (i64 a0_1), (i64 a0_2), (i64 a0_3)])] ⟨h0, n0⟩ (KS (.agg ([(i64 r.1), (i64 r.2.1), (i64 r.2.2.1), (i64 r.2.2.2.1), (i64 r.2.2.2.2.1)] ++ (eI .i64 169 r.2.2.2.2.2))) n0 h0) := by
 unfold sf153 at hF
 refine zT hd hs lw153 rfl rfl (by rfl) (fun st T hT => ?_)
 have hfl : n0 ≤ n0 := Nat.le_refl n0
 have t0 := hT 0 _ rfl
 dsimp only [L153]
 refine zg (zh ?_); refine zS st (fun b1 h2 n3 st => ?_); refine zJ st (fun b4 h5 n6 st => ?_)
 have st := st.cells 1 rfl ([(i64 0), (i64 0), (i64 0), (i64 0), (i64 0)] ++ (eI .i64 169 (fun _ => 0))) rfl
 refine zf (th_n ?_); refine zg (zh ?_); refine zH (vs := [(i64 a0_0), (i64 a0_1), (i64 a0_2), (i64 a0_3)]) (st.at (i := 0) rfl).2.2 rfl ?_; refine v_fa ?_; refine zq (st.at (i := 0) rfl).2.2 rfl ?_; obtain ⟨q7, hF⟩ := zi hF; refine zQ q7 ?_; refine zO (cs := ([(i64 (a0_0 + (1 : Int)))] ++ (eI .i64 169 (fun _ => 0)))) rfl ?_; refine zO (cs := ([(i64 a0_0), (i64 a0_1), (i64 a0_2), (i64 a0_3), (i64 (a0_0 + (1 : Int)))] ++ (eI .i64 169 (fun _ => 0)))) rfl ?_; refine zJ st (fun b8 h9 n10 st => ?_)
 have st := st.cells 2 rfl ([(i64 0), (i64 0), (i64 0), (i64 0), (i64 0)] ++ (eI .i64 169 (fun _ => 0))) rfl
 refine v_st (v := (.agg ([(i64 a0_0), (i64 a0_1), (i64 a0_2), (i64 a0_3), (i64 (a0_0 + (1 : Int)))] ++ (eI .i64 169 (fun _ => 0))))) (cs' := ([(i64 a0_0), (i64 a0_1), (i64 a0_2), (i64 a0_3), (i64 (a0_0 + (1 : Int)))] ++ (eI .i64 169 (fun _ => 0)))) st 2 rfl (yb [] rfl (by simp [HV.cells, zC, yk])) (z2 _ zC (by rfl)) (zZ _ (by rfl) yj) hfl (fun h11 st => ?_)
 refine zf (th_n ?_); refine zg ?_; refine zg (zh ?_); refine za ?_; refine zf (th_n ?_); refine zE ?_; obtain ⟨y126, hy, hF⟩ := zm hF; refine zW (sf153_L2 N a0_0 a0_2 a0_3) (fun x69 T ds70 h nx => ∃ (F70 : PH), ds70 = [] ∧ PH.le F0 F70 ∧ St n0 h0 F0 F70 h nx [.bx b1 [(i64 a0_0), (i64 a0_1), (i64 a0_2), (i64 a0_3)], .bx b4 ([(i64 0), (i64 0), (i64 0), (i64 0), (i64 0)] ++ (eI .i64 169 (fun _ => 0))), .bx b8 ([(i64 a0_0), (i64 a0_1), (i64 a0_2), (i64 a0_3), (i64 (a0_0 + (1 : Int)))] ++ (eI .i64 169 x69.2))] ∧ T.get 1 = some (.ptr (some (b1, 0))) ∧ T.get 2 = some (.ptr (some (b4, 0))) ∧ T.get 3 = some (.ptr (some (b8, 0))) ∧ T.get 4 = some (i64 x69.1)) (fun y e a σ => e = .exit 0 ∧ a.nt = 65 ∧ ∃ (F127 : PH), a.defers = [] ∧ PH.le F0 F127 ∧ St n0 h0 F0 F127 σ.h σ.nx [.bx b1 [(i64 a0_0), (i64 a0_1), (i64 a0_2), (i64 a0_3)], .bx b4 ([(i64 0), (i64 0), (i64 0), (i64 0), (i64 0)] ++ (eI .i64 169 (fun _ => 0))), .bx b8 ([(i64 a0_0), (i64 a0_1), (i64 a0_2), (i64 a0_3), (i64 (a0_0 + (1 : Int)))] ++ (eI .i64 169 y))] ∧ a.tmps.get 1 = some (.ptr (some (b1, 0))) ∧ a.tmps.get 2 = some (.ptr (some (b4, 0))) ∧ a.tmps.get 3 = some (.ptr (some (b8, 0)))) (fun x69 T ds70 h nx s hp hF => ?_) N _ y126 _ _ _ _ hy ⟨F0, rfl, (PH.le.refl _), st, gA, gA, gA, gA⟩ (fun e a σ hne hq => ?_)
 ·obtain ⟨F70, rfl, le70, st, t1, t2, t3, t4⟩ := hp; unfold sf153_L2 at hF; unfold L153w1; refine zg ?_; refine zg (zh ?_); refine za ?_; refine v_fa ?_; refine zq (st.at (i := 0) rfl).2.2 rfl ?_; refine yw ?_; refine zf (th_n ?_); refine zA (fun hb128 => ?_) (fun hb128 => ?_)
  ·have hF := zw hb128 hF; refine zB (th_n ?_); refine zg ?_; refine zE ?_; refine zg (zh ?_); refine za ?_; refine za ?_; refine zf (th_n ?_); refine zE ?_; obtain ⟨y163, hy, hF⟩ := zm hF; refine zW (sf153_L1 a0_0 a0_2 a0_3 x69) (fun x146 T ds147 h nx => ∃ (F147 : PH), ds147 = [] ∧ PH.le F70 F147 ∧ St n0 h0 F0 F147 h nx [.bx b1 [(i64 a0_0), (i64 a0_1), (i64 a0_2), (i64 a0_3)], .bx b4 ([(i64 0), (i64 0), (i64 0), (i64 0), (i64 0)] ++ (eI .i64 169 (fun _ => 0))), .bx b8 ([(i64 a0_0), (i64 a0_1), (i64 a0_2), (i64 a0_3), (i64 (a0_0 + (1 : Int)))] ++ (eI .i64 169 x146.2))] ∧ T.get 1 = some (.ptr (some (b1, 0))) ∧ T.get 2 = some (.ptr (some (b4, 0))) ∧ T.get 3 = some (.ptr (some (b8, 0))) ∧ T.get 4 = some (i64 x69.1) ∧ T.get 5 = some (i64 x146.1)) (fun y e a σ => e = .exit 2 ∧ a.nt = 65 ∧ ∃ (F164 : PH), a.defers = [] ∧ PH.le F70 F164 ∧ St n0 h0 F0 F164 σ.h σ.nx [.bx b1 [(i64 a0_0), (i64 a0_1), (i64 a0_2), (i64 a0_3)], .bx b4 ([(i64 0), (i64 0), (i64 0), (i64 0), (i64 0)] ++ (eI .i64 169 (fun _ => 0))), .bx b8 ([(i64 a0_0), (i64 a0_1), (i64 a0_2), (i64 a0_3), (i64 (a0_0 + (1 : Int)))] ++ (eI .i64 169 y))] ∧ a.tmps.get 1 = some (.ptr (some (b1, 0))) ∧ a.tmps.get 2 = some (.ptr (some (b4, 0))) ∧ a.tmps.get 3 = some (.ptr (some (b8, 0))) ∧ a.tmps.get 4 = some (i64 x69.1)) (fun x146 T ds147 h nx s hp hF => ?_) N _ y163 _ _ _ _ hy ⟨F70, rfl, (PH.le.refl _), st, gA, gA, gA, gA, gA⟩ (fun e a σ hne hq => ?_)
   ·obtain ⟨F147, rfl, le147, st, t1, t2, t3, t4, t5⟩ := hp
    unfold sf153_L1 at hF; unfold L153w0; refine zg ?_; refine zg (zh ?_); refine za ?_; refine v_fa ?_; refine zq (st.at (i := 0) rfl).2.2 rfl ?_; refine yw ?_; refine zf (th_n ?_); refine zA (fun hb165 => ?_) (fun hb165 => ?_)
    ·have hF := zw hb165 hF; refine zB (th_n ?_); refine zg ?_; refine zE ?_; refine zg ?_; refine z9 (Nat.le_trans hfl st.ext.le) (fun dw => ?_); refine yd st.d dw rfl (fun h166 ex vs => ?_)
     have st := st.ext1 ex
     refine za ?_; refine za ?_; refine za ?_; refine za ?_; obtain ⟨q167, hF⟩ := zi hF; refine yn q167 ?_; refine v_fa ?_; refine v_fa ?_; refine zq (st.at (i := 0) rfl).2.2 rfl ?_; obtain ⟨q168, hF⟩ := zi hF; refine yF q168 ?_; refine v_fa ?_; refine v_fa ?_; obtain ⟨q169, hF⟩ := zi hF
     refine zU (j := (Int.toNat x69.1)) (Int.toNat_of_nonneg q169.1).symm (by omega) ?_
     obtain ⟨q170, hF⟩ := zi hF
     refine zU (j := (Int.toNat x146.1)) (Int.toNat_of_nonneg q170.1).symm (by omega) ?_
     refine v_st (o := ((5 + (Int.toNat x69.1) * 13) + (Int.toNat x146.1) * 1)) (v := (i64 ((x146.1 - x69.1) * a0_3))) (cs' := ([(i64 a0_0), (i64 a0_1), (i64 a0_2), (i64 a0_3), (i64 (a0_0 + (1 : Int)))] ++ (eI .i64 169 (ups x146.2 (((Int.toNat x69.1) * 13) + (Int.toNat x146.1)) ((x146.1 - x69.1) * a0_3))))) st 2 rfl (uD (p := 5) (ix := (((Int.toNat x69.1) * 13) + (Int.toNat x146.1))) [(i64 a0_0), (i64 a0_1), (i64 a0_2), (i64 a0_3), (i64 (a0_0 + (1 : Int)))] rfl (by omega) (by omega)) rfl rfl hfl (fun h171 st => ?_)
     refine zf (th_n ?_); refine z9 (Nat.le_trans hfl st.ext.le) (fun dw => ?_); refine yd st.d dw rfl (fun h172 ex vs => ?_)
     have st := st.ext1 ex
     refine za ?_; refine za ?_; refine za ?_; refine za ?_; obtain ⟨q173, hF⟩ := zi hF; refine yn q173 ?_; refine v_fa ?_; refine v_fa ?_; refine zq (st.at (i := 0) rfl).2.2 rfl ?_; obtain ⟨q174, hF⟩ := zi hF; refine yF q174 ?_; refine v_fa ?_; refine v_fa ?_; obtain ⟨q175, hF⟩ := zi hF
     refine zU (j := (Int.toNat x146.1)) (Int.toNat_of_nonneg q175.1).symm (by omega) ?_
     obtain ⟨q176, hF⟩ := zi hF
     refine zU (j := (Int.toNat x69.1)) (Int.toNat_of_nonneg q176.1).symm (by omega) ?_
     refine v_st (o := ((5 + (Int.toNat x146.1) * 13) + (Int.toNat x69.1) * 1)) (v := (i64 ((x69.1 - x146.1) * a0_2))) (cs' := ([(i64 a0_0), (i64 a0_1), (i64 a0_2), (i64 a0_3), (i64 (a0_0 + (1 : Int)))] ++ (eI .i64 169 (ups (ups x146.2 (((Int.toNat x69.1) * 13) + (Int.toNat x146.1)) ((x146.1 - x69.1) * a0_3)) (((Int.toNat x146.1) * 13) + (Int.toNat x69.1)) ((x69.1 - x146.1) * a0_2))))) st 2 rfl (uD (p := 5) (ix := (((Int.toNat x146.1) * 13) + (Int.toNat x69.1))) [(i64 a0_0), (i64 a0_1), (i64 a0_2), (i64 a0_3), (i64 (a0_0 + (1 : Int)))] rfl (by omega) (by omega)) rfl rfl hfl (fun h177 st => ?_)
     refine zf ?_; refine ib_n ?_; refine th_n ?_; refine zh ?_; refine za ?_; obtain ⟨q178, hF⟩ := zi hF; refine zQ q178 ?_; refine za ?_; refine zf ?_; refine thn ⟨_, (inj hF).symm, rfl, ?_⟩; dsimp only
     exact ⟨F147, rfl, le147, st, gA, gA, gA, gA, gA⟩
    ·have hF := zx hb165 hF; refine z8 ?_; refine th_e ?_; refine th_e ?_; refine ⟨_, (inj hF).symm, rfl, rfl, ?_⟩; dsimp only
     exact ⟨F147, rfl, le147, st, gA, gA, gA, gA⟩
   ·obtain ⟨N9, T, ds164⟩ := a; obtain ⟨h180, n181⟩ := σ; obtain ⟨rfl, e1, F164, e2, le164, st, t1, t2, t3, t4⟩ := hq
    dsimp only at e1 e2
    subst e1
    subst e2
    dsimp only at st t1 t2 t3 t4
    have le179 := PH.le.trans le70 le164
    refine ib_e ?_; refine ib_n ?_; refine th_n ?_; refine zh ?_; refine za ?_; obtain ⟨q182, hF⟩ := zi hF; refine zQ q182 ?_; refine za ?_; refine zf ?_; refine thn ⟨_, (inj hF).symm, rfl, ?_⟩; dsimp only
    exact ⟨F164, rfl, le179, st, gA, gA, gA, gA⟩
  ·have hF := zx hb128 hF; refine z8 ?_; refine th_e ?_; refine th_e ?_; refine ⟨_, (inj hF).symm, rfl, rfl, ?_⟩; dsimp only
   exact ⟨F70, rfl, le70, st, gA, gA, gA⟩
 ·obtain ⟨N9, T, ds127⟩ := a; obtain ⟨h183, n184⟩ := σ; obtain ⟨rfl, e1, F127, e2, le127, st, t1, t2, t3⟩ := hq
  dsimp only at e1 e2
  subst e1
  subst e2
  dsimp only at st t1 t2 t3
  refine ib_e ?_; refine th_n ?_; refine zg (zh ?_); refine v_fa ?_; refine v_fa ?_; refine zq (st.at (i := 0) rfl).2.2 rfl ?_; refine v_fa ?_; refine zq (st.at (i := 0) rfl).2.2 rfl ?_; refine jB lw170 rfl rfl (fun T hT => ?_)
  have t0 := hT 0 _ rfl
  have t1 := hT 1 _ rfl
  have t2 := hT 2 _ rfl
  have t3 := hT 3 _ rfl
  dsimp only [L170]
  refine zg (zh ?_); refine za ?_; refine zf (th_n ?_); refine zg ?_; refine zg (zh ?_); refine za ?_; refine za ?_; refine za ?_; refine za ?_; obtain ⟨v186, e187, hF⟩ := zm hF; refine zF st (ct181 N e187 st.d (all_sub _)  (st.at (i := 2) rfl).2.2) (fun n188 st => ?_); refine yg ?_; refine zf (th_n ?_); refine zA (fun hb189 => ?_) (fun hb189 => ?_)
  ·have hF := zw hb189 hF; refine zg (zh ?_); refine za ?_; refine zf (th_n ?_); refine zt ?_; refine th_r ?_; refine yT (v := (.bool false)) (Res.t gA Res.nil) rfl (.inl rfl) (ik ?_); refine zf (th_n ?_); refine zg (zh ?_); refine v_fa ?_; refine v_fa ?_; refine zq (st.at (i := 0) rfl).2.2 rfl ?_; refine v_fa ?_; refine zq (st.at (i := 0) rfl).2.2 rfl ?_; obtain ⟨q190, hF⟩ := zi hF; refine kp q190 ?_; refine jB lw170 rfl rfl (fun T hT => ?_)
   have t0 := hT 0 _ rfl
   have t1 := hT 1 _ rfl
   have t2 := hT 2 _ rfl
   have t3 := hT 3 _ rfl
   dsimp only [L170]
   refine zg (zh ?_); refine za ?_; refine zf (th_n ?_); refine zg ?_; refine zg (zh ?_); refine za ?_; refine za ?_; refine za ?_; refine za ?_; obtain ⟨v192, e193, hF⟩ := zm hF; refine zF st (ct181 N e193 st.d (all_sub _)  (st.at (i := 2) rfl).2.2) (fun n194 st => ?_); refine yg ?_; refine zf (th_n ?_); refine zA (fun hb195 => ?_) (fun hb195 => ?_)
   ·have hF := zw hb195 hF; refine zg (zh ?_); refine za ?_; refine zf (th_n ?_); refine zt ?_; refine th_r ?_; refine yT (v := (.bool false)) (Res.t gA Res.nil) rfl (.inl rfl) (ik ?_); refine zf (th_n ?_); refine zg (zh ?_); refine zH (vs := ([(i64 a0_0), (i64 a0_1), (i64 a0_2), (i64 a0_3), (i64 (a0_0 + (1 : Int)))] ++ (eI .i64 169 y126))) (st.at (i := 2) rfl).2.2 (zX (E := (eI .i64 169 y126)) [] [(i64 a0_0), (i64 a0_1), (i64 a0_2), (i64 a0_3), (i64 (a0_0 + (1 : Int)))] rfl zC rfl) ?_
    refine v_st (v := (.agg ([(i64 a0_0), (i64 a0_1), (i64 a0_2), (i64 a0_3), (i64 (a0_0 + (1 : Int)))] ++ (eI .i64 169 y126)))) (cs' := ([(i64 a0_0), (i64 a0_1), (i64 a0_2), (i64 a0_3), (i64 (a0_0 + (1 : Int)))] ++ (eI .i64 169 y126))) st 1 rfl (yb [] rfl (by simp [HV.cells, zC, yk])) (z2 _ zC (by rfl)) (zZ _ (by rfl) yj) hfl (fun h196 st => ?_)
    refine zf (th_n ?_); refine zt ?_; obtain rfl := inj hF
    exact zy st (Res.c gA (st.at (i := 1) rfl).2.2 (show takeN _ _ = some ([(i64 a0_0), (i64 a0_1), (i64 a0_2), (i64 a0_3), (i64 (a0_0 + (1 : Int)))] ++ (eI .i64 169 y126)) from (zX (E := (eI .i64 169 y126)) [] [(i64 a0_0), (i64 a0_1), (i64 a0_2), (i64 a0_3), (i64 (a0_0 + (1 : Int)))] rfl zC rfl)) Res.nil) rfl rfl
   ·have hF := zx hb195 hF; refine zB (th_n ?_); refine zg ?_; refine zg (zh ?_); refine za ?_; refine v_nc ?_; refine v_fa ?_; refine zq (st.at (i := 2) rfl).2.2 rfl ?_; refine za ?_; refine zf (th_n ?_); refine zE ?_; obtain ⟨y321, hy, hF⟩ := zm hF; refine zW (sf153_L4 N a0_0 a0_1) (fun x259 T ds260 h nx => ∃ (F260 : PH), ds260 = [] ∧ PH.le F127 F260 ∧ St n0 h0 F0 F260 h nx [.bx b1 [(i64 a0_0), (i64 a0_1), (i64 a0_2), (i64 a0_3)], .bx b4 ([(i64 0), (i64 0), (i64 0), (i64 0), (i64 0)] ++ (eI .i64 169 (fun _ => 0))), .bx b8 ([(i64 a0_0), (i64 a0_1), (i64 a0_2), (i64 a0_3), (i64 (a0_0 + (1 : Int)))] ++ (eI .i64 169 x259.2))] ∧ T.get 0 = some (.ptr (some (b8, 4))) ∧ T.get 1 = some (i64 a0_0) ∧ T.get 2 = some (i64 0) ∧ T.get 3 = some (i64 (-a0_1)) ∧ T.get 22 = some (i64 (a0_0 + (1 : Int))) ∧ T.get 23 = some (i64 x259.1)) (fun y e a σ => e = .exit 0 ∧ a.nt = 83 ∧ ∃ (F322 : PH), a.defers = [] ∧ PH.le F127 F322 ∧ St n0 h0 F0 F322 σ.h σ.nx [.bx b1 [(i64 a0_0), (i64 a0_1), (i64 a0_2), (i64 a0_3)], .bx b4 ([(i64 0), (i64 0), (i64 0), (i64 0), (i64 0)] ++ (eI .i64 169 (fun _ => 0))), .bx b8 ([(i64 a0_0), (i64 a0_1), (i64 a0_2), (i64 a0_3), (i64 (a0_0 + (1 : Int)))] ++ (eI .i64 169 y))]) (fun x259 T ds260 h nx s hp hF => ?_) N _ y321 _ _ _ _ hy ⟨F127, rfl, (PH.le.refl _), st, gA, gA, gA, gA, gA, gA⟩ (fun e a σ hne hq => ?_)
    ·obtain ⟨F260, rfl, le260, st, t0, t1, t2, t3, t22, t23⟩ := hp
     unfold sf153_L4 at hF; unfold L170w1; refine zg (zh ?_); refine ye ?_; refine zf (th_n ?_); refine zg ?_; refine zA (fun hb323 => ?_) (fun hb323 => ?_)
     ·have hF := zw hb323 hF; refine zB (th_n ?_); refine zg ?_; refine zE ?_; refine zg (zh ?_); refine za ?_; refine za ?_; refine zf (th_n ?_); refine zg (zh ?_); refine za ?_; refine za ?_; refine za ?_; refine v_nc ?_; refine v_fa ?_; obtain ⟨q324, hF⟩ := zi hF
      refine zU (j := (Int.toNat x259.1)) (Int.toNat_of_nonneg q324.1).symm (by omega) ?_
      obtain ⟨q325, hF⟩ := zi hF
      refine zU (j := (Int.toNat a0_0)) (Int.toNat_of_nonneg q325.1).symm (by omega) ?_
      refine zq (o := ((5 + (Int.toNat x259.1) * 13) + (Int.toNat a0_0) * 1)) (st.at (i := 2) rfl).2.2 (yv (p := 5) (ix := (((Int.toNat x259.1) * 13) + (Int.toNat a0_0))) [(i64 a0_0), (i64 a0_1), (i64 a0_2), (i64 a0_3), (i64 (a0_0 + (1 : Int)))] rfl (by omega) (by omega)) ?_
      refine za ?_; obtain ⟨q326, hF⟩ := zi hF; refine zQ q326 ?_; refine za ?_; refine zf (th_n ?_); refine zg ?_; refine zg (zh ?_); refine za ?_; refine za ?_; refine za ?_; refine za ?_; refine v_nc ?_; refine v_fa ?_; obtain ⟨q327, hF⟩ := zi hF
      refine zU (j := (Int.toNat x259.1)) (Int.toNat_of_nonneg q327.1).symm (by omega) ?_
      obtain ⟨q328, hF⟩ := zi hF
      refine zU (j := (Int.toNat (0 : Int))) (Int.toNat_of_nonneg q328.1).symm (by omega) ?_
      refine zq (o := ((5 + (Int.toNat x259.1) * 13) + (Int.toNat (0 : Int)) * 1)) (st.at (i := 2) rfl).2.2 (yv (p := 5) (ix := (((Int.toNat x259.1) * 13) + (Int.toNat (0 : Int)))) [(i64 a0_0), (i64 a0_1), (i64 a0_2), (i64 a0_3), (i64 (a0_0 + (1 : Int)))] rfl (by omega) (by omega)) ?_
      refine uo ?_; refine zf (th_n ?_); refine zA (fun hb329 => ?_) (fun hb329 => ?_)
      ·have hF := zw hb329 hF; refine z8 ?_; refine th_e ?_; refine ib_e ?_; refine th_n ?_; refine zh ?_; obtain ⟨q330, hF⟩ := zi hF; refine zQ q330 ?_; refine za ?_; refine zf ?_; refine thn ⟨_, (inj hF).symm, rfl, ?_⟩; dsimp only
       exact ⟨F260, rfl, le260, st, gA, gA, gA, gA, gA, gA⟩
      ·have hF := zx hb329 hF; refine zB (th_n ?_); refine zg (zh ?_); refine za ?_; refine v_nc ?_; refine v_fa ?_; refine zq (st.at (i := 2) rfl).2.2 rfl ?_; refine za ?_; refine zf (th_n ?_); refine zE ?_; obtain ⟨y363, hy, hF⟩ := zm hF; refine zW (sf153_L3 a0_0 a0_1 x259) (fun x347 T ds348 h nx => ∃ (F348 : PH), ds348 = [] ∧ PH.le F260 F348 ∧ St n0 h0 F0 F348 h nx [.bx b1 [(i64 a0_0), (i64 a0_1), (i64 a0_2), (i64 a0_3)], .bx b4 ([(i64 0), (i64 0), (i64 0), (i64 0), (i64 0)] ++ (eI .i64 169 (fun _ => 0))), .bx b8 ([(i64 a0_0), (i64 a0_1), (i64 a0_2), (i64 a0_3), (i64 (a0_0 + (1 : Int)))] ++ (eI .i64 169 x347.2))] ∧ T.get 0 = some (.ptr (some (b8, 4))) ∧ T.get 1 = some (i64 a0_0) ∧ T.get 2 = some (i64 0) ∧ T.get 3 = some (i64 (-a0_1)) ∧ T.get 9 = some (i64 x259.1) ∧ T.get 10 = some (i64 ((x259.2 (((Int.toNat x259.1) * 13) + (Int.toNat a0_0))) + (-a0_1))) ∧ T.get 22 = some (i64 (a0_0 + (1 : Int))) ∧ T.get 23 = some (i64 x259.1) ∧ T.get 49 = some (i64 (a0_0 + (1 : Int))) ∧ T.get 50 = some (i64 x347.1)) (fun y e a σ => e = .exit 2 ∧ a.nt = 83 ∧ ∃ (F364 : PH), a.defers = [] ∧ PH.le F260 F364 ∧ St n0 h0 F0 F364 σ.h σ.nx [.bx b1 [(i64 a0_0), (i64 a0_1), (i64 a0_2), (i64 a0_3)], .bx b4 ([(i64 0), (i64 0), (i64 0), (i64 0), (i64 0)] ++ (eI .i64 169 (fun _ => 0))), .bx b8 ([(i64 a0_0), (i64 a0_1), (i64 a0_2), (i64 a0_3), (i64 (a0_0 + (1 : Int)))] ++ (eI .i64 169 y))] ∧ a.tmps.get 0 = some (.ptr (some (b8, 4))) ∧ a.tmps.get 1 = some (i64 a0_0) ∧ a.tmps.get 2 = some (i64 0) ∧ a.tmps.get 3 = some (i64 (-a0_1)) ∧ a.tmps.get 22 = some (i64 (a0_0 + (1 : Int))) ∧ a.tmps.get 23 = some (i64 x259.1)) (fun x347 T ds348 h nx s hp hF => ?_) N _ y363 _ _ _ _ hy ⟨F260, rfl, (PH.le.refl _), st, gA, gA, gA, gA, gA, gA, gA, gA, gA, gA⟩ (fun e a σ hne hq => ?_)
       ·obtain ⟨F348, rfl, le348, st, t0, t1, t2, t3, t9, t10, t22, t23, t49, t50⟩ := hp
        unfold sf153_L3 at hF; unfold L170w0; refine zg (zh ?_); refine ye ?_; refine zf (th_n ?_); refine zg ?_; refine zA (fun hb365 => ?_) (fun hb365 => ?_)
        ·have hF := zw hb365 hF; refine zB (th_n ?_); refine zg ?_; refine zE ?_; refine zg (zh ?_); refine za ?_; refine za ?_; refine zf (th_n ?_); refine zg (zh ?_); refine za ?_; refine za ?_; refine za ?_; refine za ?_; refine v_nc ?_; refine v_fa ?_; obtain ⟨q366, hF⟩ := zi hF
         refine zU (j := (Int.toNat (0 : Int))) (Int.toNat_of_nonneg q366.1).symm (by omega) ?_
         obtain ⟨q367, hF⟩ := zi hF
         refine zU (j := (Int.toNat x347.1)) (Int.toNat_of_nonneg q367.1).symm (by omega) ?_
         refine zq (o := ((5 + (Int.toNat (0 : Int)) * 13) + (Int.toNat x347.1) * 1)) (st.at (i := 2) rfl).2.2 (yv (p := 5) (ix := (((Int.toNat (0 : Int)) * 13) + (Int.toNat x347.1))) [(i64 a0_0), (i64 a0_1), (i64 a0_2), (i64 a0_3), (i64 (a0_0 + (1 : Int)))] rfl (by omega) (by omega)) ?_
         obtain ⟨q368, hF⟩ := zi hF; refine zQ q368 ?_; refine za ?_; refine zf (th_n ?_); refine zg (zh ?_); refine za ?_; refine za ?_; refine za ?_; refine za ?_; refine v_nc ?_; refine v_fa ?_; obtain ⟨q369, hF⟩ := zi hF
         refine zU (j := (Int.toNat x259.1)) (Int.toNat_of_nonneg q369.1).symm (by omega) ?_
         obtain ⟨q370, hF⟩ := zi hF
         refine zU (j := (Int.toNat x347.1)) (Int.toNat_of_nonneg q370.1).symm (by omega) ?_
         refine zq (o := ((5 + (Int.toNat x259.1) * 13) + (Int.toNat x347.1) * 1)) (st.at (i := 2) rfl).2.2 (yv (p := 5) (ix := (((Int.toNat x259.1) * 13) + (Int.toNat x347.1))) [(i64 a0_0), (i64 a0_1), (i64 a0_2), (i64 a0_3), (i64 (a0_0 + (1 : Int)))] rfl (by omega) (by omega)) ?_
         refine ye ?_; refine zf (th_n ?_); refine zA (fun hb371 => ?_) (fun hb371 => ?_)
         ·have hF := zw hb371 hF; refine zh ?_; refine za ?_; refine za ?_; refine za ?_; refine za ?_; refine v_nc ?_; refine v_fa ?_; obtain ⟨q372, hF⟩ := zi hF
          refine zU (j := (Int.toNat x259.1)) (Int.toNat_of_nonneg q372.1).symm (by omega) ?_
          obtain ⟨q373, hF⟩ := zi hF
          refine zU (j := (Int.toNat x347.1)) (Int.toNat_of_nonneg q373.1).symm (by omega) ?_
          refine v_st (o := ((5 + (Int.toNat x259.1) * 13) + (Int.toNat x347.1) * 1)) (v := (i64 (((x259.2 (((Int.toNat x259.1) * 13) + (Int.toNat a0_0))) + (-a0_1)) + (x347.2 (((Int.toNat (0 : Int)) * 13) + (Int.toNat x347.1)))))) (cs' := ([(i64 a0_0), (i64 a0_1), (i64 a0_2), (i64 a0_3), (i64 (a0_0 + (1 : Int)))] ++ (eI .i64 169 (ups x347.2 (((Int.toNat x259.1) * 13) + (Int.toNat x347.1)) (((x259.2 (((Int.toNat x259.1) * 13) + (Int.toNat a0_0))) + (-a0_1)) + (x347.2 (((Int.toNat (0 : Int)) * 13) + (Int.toNat x347.1)))))))) st 2 rfl (uD (p := 5) (ix := (((Int.toNat x259.1) * 13) + (Int.toNat x347.1))) [(i64 a0_0), (i64 a0_1), (i64 a0_2), (i64 a0_3), (i64 (a0_0 + (1 : Int)))] rfl (by omega) (by omega)) rfl rfl hfl (fun h374 st => ?_)
          refine zf ?_; refine ib_n ?_; refine th_n ?_; refine zh ?_; obtain ⟨q375, hF⟩ := zi hF; refine zQ q375 ?_; refine za ?_; refine zf ?_; refine thn ⟨_, (inj hF).symm, rfl, ?_⟩; dsimp only
          exact ⟨F348, rfl, le348, st, gA, gA, gA, gA, gA, gA, gA, gA, gA, gA⟩
         ·have hF := zx hb371 hF; refine zB ?_; refine ib_n ?_; refine th_n ?_; refine zh ?_; obtain ⟨q376, hF⟩ := zi hF; refine zQ q376 ?_; refine za ?_; refine zf ?_; refine thn ⟨_, (inj hF).symm, rfl, ?_⟩; dsimp only
          exact ⟨F348, rfl, le348, st, gA, gA, gA, gA, gA, gA, gA, gA, gA, gA⟩
        ·have hF := zx hb365 hF; refine z8 ?_; refine th_e ?_; refine th_e ?_; refine ⟨_, (inj hF).symm, rfl, rfl, ?_⟩; dsimp only
         exact ⟨F348, rfl, le348, st, gA, gA, gA, gA, gA, gA⟩
       ·obtain ⟨N9, T, ds364⟩ := a; obtain ⟨h379, n380⟩ := σ; obtain ⟨rfl, e1, F364, e2, le364, st, t0, t1, t2, t3, t22, t23⟩ := hq
        dsimp only at e1 e2
        subst e1
        subst e2
        dsimp only at st t0 t1 t2 t3 t22 t23
        have le378 := PH.le.trans le260 le364
        refine ib_e ?_; refine ib_n ?_; refine th_n ?_; refine zh ?_; obtain ⟨q381, hF⟩ := zi hF; refine zQ q381 ?_; refine za ?_; refine zf ?_; refine thn ⟨_, (inj hF).symm, rfl, ?_⟩; dsimp only
        exact ⟨F364, rfl, le378, st, gA, gA, gA, gA, gA, gA⟩
     ·have hF := zx hb323 hF; refine z8 ?_; refine th_e ?_; refine th_e ?_; refine ⟨_, (inj hF).symm, rfl, rfl, ?_⟩; dsimp only
      exact ⟨F260, rfl, le260, st⟩
    ·obtain ⟨N9, T, ds322⟩ := a; obtain ⟨h383, n384⟩ := σ; obtain ⟨rfl, e1, F322, e2, le322, st⟩ := hq
     dsimp only at e1 e2
     subst e1
     subst e2
     dsimp only at st
     refine ib_e ?_; refine th_n ?_; refine zg (zh ?_); refine za ?_; refine zf (th_n ?_); refine zt ?_; refine yT (v := (.bool true)) (Res.t gA Res.nil) rfl (.inl rfl) (ik ?_); refine zf (th_n ?_); refine zg (zh ?_); refine zH (vs := ([(i64 a0_0), (i64 a0_1), (i64 a0_2), (i64 a0_3), (i64 (a0_0 + (1 : Int)))] ++ (eI .i64 169 y321))) (st.at (i := 2) rfl).2.2 (zX (E := (eI .i64 169 y321)) [] [(i64 a0_0), (i64 a0_1), (i64 a0_2), (i64 a0_3), (i64 (a0_0 + (1 : Int)))] rfl zC rfl) ?_
     refine v_st (v := (.agg ([(i64 a0_0), (i64 a0_1), (i64 a0_2), (i64 a0_3), (i64 (a0_0 + (1 : Int)))] ++ (eI .i64 169 y321)))) (cs' := ([(i64 a0_0), (i64 a0_1), (i64 a0_2), (i64 a0_3), (i64 (a0_0 + (1 : Int)))] ++ (eI .i64 169 y321))) st 1 rfl (yb [] rfl (by simp [HV.cells, zC, yk])) (z2 _ zC (by rfl)) (zZ _ (by rfl) yj) hfl (fun h385 st => ?_)
     refine zf (th_n ?_); refine zt ?_; obtain rfl := inj hF
     exact zy st (Res.c gA (st.at (i := 1) rfl).2.2 (show takeN _ _ = some ([(i64 a0_0), (i64 a0_1), (i64 a0_2), (i64 a0_3), (i64 (a0_0 + (1 : Int)))] ++ (eI .i64 169 y321)) from (zX (E := (eI .i64 169 y321)) [] [(i64 a0_0), (i64 a0_1), (i64 a0_2), (i64 a0_3), (i64 (a0_0 + (1 : Int)))] rfl zC rfl)) Res.nil) rfl rfl
  ·have hF := zx hb189 hF; refine zB (th_n ?_); refine zg ?_; refine zg (zh ?_); refine za ?_; refine v_nc ?_; refine v_fa ?_; refine zq (st.at (i := 2) rfl).2.2 rfl ?_; refine za ?_; refine zf (th_n ?_); refine zE ?_; obtain ⟨y510, hy, hF⟩ := zm hF; refine zW (sf153_L6 N a0_0 a0_1) (fun x448 T ds449 h nx => ∃ (F449 : PH), ds449 = [] ∧ PH.le F127 F449 ∧ St n0 h0 F0 F449 h nx [.bx b1 [(i64 a0_0), (i64 a0_1), (i64 a0_2), (i64 a0_3)], .bx b4 ([(i64 0), (i64 0), (i64 0), (i64 0), (i64 0)] ++ (eI .i64 169 (fun _ => 0))), .bx b8 ([(i64 a0_0), (i64 a0_1), (i64 a0_2), (i64 a0_3), (i64 (a0_0 + (1 : Int)))] ++ (eI .i64 169 x448.2))] ∧ T.get 0 = some (.ptr (some (b8, 4))) ∧ T.get 1 = some (i64 0) ∧ T.get 2 = some (i64 a0_0) ∧ T.get 3 = some (i64 a0_1) ∧ T.get 22 = some (i64 (a0_0 + (1 : Int))) ∧ T.get 23 = some (i64 x448.1)) (fun y e a σ => e = .exit 0 ∧ a.nt = 83 ∧ ∃ (F511 : PH), a.defers = [] ∧ PH.le F127 F511 ∧ St n0 h0 F0 F511 σ.h σ.nx [.bx b1 [(i64 a0_0), (i64 a0_1), (i64 a0_2), (i64 a0_3)], .bx b4 ([(i64 0), (i64 0), (i64 0), (i64 0), (i64 0)] ++ (eI .i64 169 (fun _ => 0))), .bx b8 ([(i64 a0_0), (i64 a0_1), (i64 a0_2), (i64 a0_3), (i64 (a0_0 + (1 : Int)))] ++ (eI .i64 169 y))]) (fun x448 T ds449 h nx s hp hF => ?_) N _ y510 _ _ _ _ hy ⟨F127, rfl, (PH.le.refl _), st, gA, gA, gA, gA, gA, gA⟩ (fun e a σ hne hq => ?_)
   ·obtain ⟨F449, rfl, le449, st, t0, t1, t2, t3, t22, t23⟩ := hp
    unfold sf153_L6 at hF; unfold L170w1; refine zg (zh ?_); refine ye ?_; refine zf (th_n ?_); refine zg ?_; refine zA (fun hb512 => ?_) (fun hb512 => ?_)
    ·have hF := zw hb512 hF; refine zB (th_n ?_); refine zg ?_; refine zE ?_; refine zg (zh ?_); refine za ?_; refine za ?_; refine zf (th_n ?_); refine zg (zh ?_); refine za ?_; refine za ?_; refine za ?_; refine v_nc ?_; refine v_fa ?_; obtain ⟨q513, hF⟩ := zi hF
     refine zU (j := (Int.toNat x448.1)) (Int.toNat_of_nonneg q513.1).symm (by omega) ?_
     obtain ⟨q514, hF⟩ := zi hF
     refine zU (j := (Int.toNat (0 : Int))) (Int.toNat_of_nonneg q514.1).symm (by omega) ?_
     refine zq (o := ((5 + (Int.toNat x448.1) * 13) + (Int.toNat (0 : Int)) * 1)) (st.at (i := 2) rfl).2.2 (yv (p := 5) (ix := (((Int.toNat x448.1) * 13) + (Int.toNat (0 : Int)))) [(i64 a0_0), (i64 a0_1), (i64 a0_2), (i64 a0_3), (i64 (a0_0 + (1 : Int)))] rfl (by omega) (by omega)) ?_
     refine za ?_; obtain ⟨q515, hF⟩ := zi hF; refine zQ q515 ?_; refine za ?_; refine zf (th_n ?_); refine zg ?_; refine zg (zh ?_); refine za ?_; refine za ?_; refine za ?_; refine za ?_; refine v_nc ?_; refine v_fa ?_; obtain ⟨q516, hF⟩ := zi hF
     refine zU (j := (Int.toNat x448.1)) (Int.toNat_of_nonneg q516.1).symm (by omega) ?_
     obtain ⟨q517, hF⟩ := zi hF
     refine zU (j := (Int.toNat a0_0)) (Int.toNat_of_nonneg q517.1).symm (by omega) ?_
     refine zq (o := ((5 + (Int.toNat x448.1) * 13) + (Int.toNat a0_0) * 1)) (st.at (i := 2) rfl).2.2 (yv (p := 5) (ix := (((Int.toNat x448.1) * 13) + (Int.toNat a0_0))) [(i64 a0_0), (i64 a0_1), (i64 a0_2), (i64 a0_3), (i64 (a0_0 + (1 : Int)))] rfl (by omega) (by omega)) ?_
     refine uo ?_; refine zf (th_n ?_); refine zA (fun hb518 => ?_) (fun hb518 => ?_)
     ·have hF := zw hb518 hF; refine z8 ?_; refine th_e ?_; refine ib_e ?_; refine th_n ?_; refine zh ?_; obtain ⟨q519, hF⟩ := zi hF; refine zQ q519 ?_; refine za ?_; refine zf ?_; refine thn ⟨_, (inj hF).symm, rfl, ?_⟩; dsimp only
      exact ⟨F449, rfl, le449, st, gA, gA, gA, gA, gA, gA⟩
     ·have hF := zx hb518 hF; refine zB (th_n ?_); refine zg (zh ?_); refine za ?_; refine v_nc ?_; refine v_fa ?_; refine zq (st.at (i := 2) rfl).2.2 rfl ?_; refine za ?_; refine zf (th_n ?_); refine zE ?_; obtain ⟨y552, hy, hF⟩ := zm hF; refine zW (sf153_L5 a0_0 a0_1 x448) (fun x536 T ds537 h nx => ∃ (F537 : PH), ds537 = [] ∧ PH.le F449 F537 ∧ St n0 h0 F0 F537 h nx [.bx b1 [(i64 a0_0), (i64 a0_1), (i64 a0_2), (i64 a0_3)], .bx b4 ([(i64 0), (i64 0), (i64 0), (i64 0), (i64 0)] ++ (eI .i64 169 (fun _ => 0))), .bx b8 ([(i64 a0_0), (i64 a0_1), (i64 a0_2), (i64 a0_3), (i64 (a0_0 + (1 : Int)))] ++ (eI .i64 169 x536.2))] ∧ T.get 0 = some (.ptr (some (b8, 4))) ∧ T.get 1 = some (i64 0) ∧ T.get 2 = some (i64 a0_0) ∧ T.get 3 = some (i64 a0_1) ∧ T.get 9 = some (i64 x448.1) ∧ T.get 10 = some (i64 ((x448.2 (((Int.toNat x448.1) * 13) + (Int.toNat (0 : Int)))) + a0_1)) ∧ T.get 22 = some (i64 (a0_0 + (1 : Int))) ∧ T.get 23 = some (i64 x448.1) ∧ T.get 49 = some (i64 (a0_0 + (1 : Int))) ∧ T.get 50 = some (i64 x536.1)) (fun y e a σ => e = .exit 2 ∧ a.nt = 83 ∧ ∃ (F553 : PH), a.defers = [] ∧ PH.le F449 F553 ∧ St n0 h0 F0 F553 σ.h σ.nx [.bx b1 [(i64 a0_0), (i64 a0_1), (i64 a0_2), (i64 a0_3)], .bx b4 ([(i64 0), (i64 0), (i64 0), (i64 0), (i64 0)] ++ (eI .i64 169 (fun _ => 0))), .bx b8 ([(i64 a0_0), (i64 a0_1), (i64 a0_2), (i64 a0_3), (i64 (a0_0 + (1 : Int)))] ++ (eI .i64 169 y))] ∧ a.tmps.get 0 = some (.ptr (some (b8, 4))) ∧ a.tmps.get 1 = some (i64 0) ∧ a.tmps.get 2 = some (i64 a0_0) ∧ a.tmps.get 3 = some (i64 a0_1) ∧ a.tmps.get 22 = some (i64 (a0_0 + (1 : Int))) ∧ a.tmps.get 23 = some (i64 x448.1)) (fun x536 T ds537 h nx s hp hF => ?_) N _ y552 _ _ _ _ hy ⟨F449, rfl, (PH.le.refl _), st, gA, gA, gA, gA, gA, gA, gA, gA, gA, gA⟩ (fun e a σ hne hq => ?_)
      ·obtain ⟨F537, rfl, le537, st, t0, t1, t2, t3, t9, t10, t22, t23, t49, t50⟩ := hp
       unfold sf153_L5 at hF; unfold L170w0; refine zg (zh ?_); refine ye ?_; refine zf (th_n ?_); refine zg ?_; refine zA (fun hb554 => ?_) (fun hb554 => ?_)
       ·have hF := zw hb554 hF; refine zB (th_n ?_); refine zg ?_; refine zE ?_; refine zg (zh ?_); refine za ?_; refine za ?_; refine zf (th_n ?_); refine zg (zh ?_); refine za ?_; refine za ?_; refine za ?_; refine za ?_; refine v_nc ?_; refine v_fa ?_; obtain ⟨q555, hF⟩ := zi hF
        refine zU (j := (Int.toNat a0_0)) (Int.toNat_of_nonneg q555.1).symm (by omega) ?_
        obtain ⟨q556, hF⟩ := zi hF
        refine zU (j := (Int.toNat x536.1)) (Int.toNat_of_nonneg q556.1).symm (by omega) ?_
        refine zq (o := ((5 + (Int.toNat a0_0) * 13) + (Int.toNat x536.1) * 1)) (st.at (i := 2) rfl).2.2 (yv (p := 5) (ix := (((Int.toNat a0_0) * 13) + (Int.toNat x536.1))) [(i64 a0_0), (i64 a0_1), (i64 a0_2), (i64 a0_3), (i64 (a0_0 + (1 : Int)))] rfl (by omega) (by omega)) ?_
        obtain ⟨q557, hF⟩ := zi hF; refine zQ q557 ?_; refine za ?_; refine zf (th_n ?_); refine zg (zh ?_); refine za ?_; refine za ?_; refine za ?_; refine za ?_; refine v_nc ?_; refine v_fa ?_; obtain ⟨q558, hF⟩ := zi hF
        refine zU (j := (Int.toNat x448.1)) (Int.toNat_of_nonneg q558.1).symm (by omega) ?_
        obtain ⟨q559, hF⟩ := zi hF
        refine zU (j := (Int.toNat x536.1)) (Int.toNat_of_nonneg q559.1).symm (by omega) ?_
        refine zq (o := ((5 + (Int.toNat x448.1) * 13) + (Int.toNat x536.1) * 1)) (st.at (i := 2) rfl).2.2 (yv (p := 5) (ix := (((Int.toNat x448.1) * 13) + (Int.toNat x536.1))) [(i64 a0_0), (i64 a0_1), (i64 a0_2), (i64 a0_3), (i64 (a0_0 + (1 : Int)))] rfl (by omega) (by omega)) ?_
        refine ye ?_; refine zf (th_n ?_); refine zA (fun hb560 => ?_) (fun hb560 => ?_)
        ·have hF := zw hb560 hF; refine zh ?_; refine za ?_; refine za ?_; refine za ?_; refine za ?_; refine v_nc ?_; refine v_fa ?_; obtain ⟨q561, hF⟩ := zi hF
         refine zU (j := (Int.toNat x448.1)) (Int.toNat_of_nonneg q561.1).symm (by omega) ?_
         obtain ⟨q562, hF⟩ := zi hF
         refine zU (j := (Int.toNat x536.1)) (Int.toNat_of_nonneg q562.1).symm (by omega) ?_
         refine v_st (o := ((5 + (Int.toNat x448.1) * 13) + (Int.toNat x536.1) * 1)) (v := (i64 (((x448.2 (((Int.toNat x448.1) * 13) + (Int.toNat (0 : Int)))) + a0_1) + (x536.2 (((Int.toNat a0_0) * 13) + (Int.toNat x536.1)))))) (cs' := ([(i64 a0_0), (i64 a0_1), (i64 a0_2), (i64 a0_3), (i64 (a0_0 + (1 : Int)))] ++ (eI .i64 169 (ups x536.2 (((Int.toNat x448.1) * 13) + (Int.toNat x536.1)) (((x448.2 (((Int.toNat x448.1) * 13) + (Int.toNat (0 : Int)))) + a0_1) + (x536.2 (((Int.toNat a0_0) * 13) + (Int.toNat x536.1)))))))) st 2 rfl (uD (p := 5) (ix := (((Int.toNat x448.1) * 13) + (Int.toNat x536.1))) [(i64 a0_0), (i64 a0_1), (i64 a0_2), (i64 a0_3), (i64 (a0_0 + (1 : Int)))] rfl (by omega) (by omega)) rfl rfl hfl (fun h563 st => ?_)
         refine zf ?_; refine ib_n ?_; refine th_n ?_; refine zh ?_; obtain ⟨q564, hF⟩ := zi hF; refine zQ q564 ?_; refine za ?_; refine zf ?_; refine thn ⟨_, (inj hF).symm, rfl, ?_⟩; dsimp only
         exact ⟨F537, rfl, le537, st, gA, gA, gA, gA, gA, gA, gA, gA, gA, gA⟩
        ·have hF := zx hb560 hF; refine zB ?_; refine ib_n ?_; refine th_n ?_; refine zh ?_; obtain ⟨q565, hF⟩ := zi hF; refine zQ q565 ?_; refine za ?_; refine zf ?_; refine thn ⟨_, (inj hF).symm, rfl, ?_⟩; dsimp only
         exact ⟨F537, rfl, le537, st, gA, gA, gA, gA, gA, gA, gA, gA, gA, gA⟩
       ·have hF := zx hb554 hF; refine z8 ?_; refine th_e ?_; refine th_e ?_; refine ⟨_, (inj hF).symm, rfl, rfl, ?_⟩; dsimp only
        exact ⟨F537, rfl, le537, st, gA, gA, gA, gA, gA, gA⟩
      ·obtain ⟨N9, T, ds553⟩ := a; obtain ⟨h568, n569⟩ := σ; obtain ⟨rfl, e1, F553, e2, le553, st, t0, t1, t2, t3, t22, t23⟩ := hq
       dsimp only at e1 e2
       subst e1
       subst e2
       dsimp only at st t0 t1 t2 t3 t22 t23
       have le567 := PH.le.trans le449 le553
       refine ib_e ?_; refine ib_n ?_; refine th_n ?_; refine zh ?_; obtain ⟨q570, hF⟩ := zi hF; refine zQ q570 ?_; refine za ?_; refine zf ?_; refine thn ⟨_, (inj hF).symm, rfl, ?_⟩; dsimp only
       exact ⟨F553, rfl, le567, st, gA, gA, gA, gA, gA, gA⟩
    ·have hF := zx hb512 hF; refine z8 ?_; refine th_e ?_; refine th_e ?_; refine ⟨_, (inj hF).symm, rfl, rfl, ?_⟩; dsimp only
     exact ⟨F449, rfl, le449, st⟩
   ·obtain ⟨N9, T, ds511⟩ := a; obtain ⟨h572, n573⟩ := σ; obtain ⟨rfl, e1, F511, e2, le511, st⟩ := hq
    dsimp only at e1 e2
    subst e1
    subst e2
    dsimp only at st
    refine ib_e ?_; refine th_n ?_; refine zg (zh ?_); refine za ?_; refine zf (th_n ?_); refine zt ?_; refine yT (v := (.bool true)) (Res.t gA Res.nil) rfl (.inl rfl) (ik ?_); refine zf (th_n ?_); refine zg (zh ?_); refine v_fa ?_; refine v_fa ?_; refine zq (st.at (i := 0) rfl).2.2 rfl ?_; refine v_fa ?_; refine zq (st.at (i := 0) rfl).2.2 rfl ?_; obtain ⟨q574, hF⟩ := zi hF; refine kp q574 ?_; refine jB lw170 rfl rfl (fun T hT => ?_)
    have t0 := hT 0 _ rfl
    have t1 := hT 1 _ rfl
    have t2 := hT 2 _ rfl
    have t3 := hT 3 _ rfl
    dsimp only [L170]
    refine zg (zh ?_); refine za ?_; refine zf (th_n ?_); refine zg ?_; refine zg (zh ?_); refine za ?_; refine za ?_; refine za ?_; refine za ?_; obtain ⟨v576, e577, hF⟩ := zm hF; refine zF st (ct181 N e577 st.d (all_sub _)  (st.at (i := 2) rfl).2.2) (fun n578 st => ?_); refine yg ?_; refine zf (th_n ?_); refine zA (fun hb579 => ?_) (fun hb579 => ?_)
    ·have hF := zw hb579 hF; refine zg (zh ?_); refine za ?_; refine zf (th_n ?_); refine zt ?_; refine th_r ?_; refine yT (v := (.bool false)) (Res.t gA Res.nil) rfl (.inl rfl) (ik ?_); refine zf (th_n ?_); refine zg (zh ?_); refine zH (vs := ([(i64 a0_0), (i64 a0_1), (i64 a0_2), (i64 a0_3), (i64 (a0_0 + (1 : Int)))] ++ (eI .i64 169 y510))) (st.at (i := 2) rfl).2.2 (zX (E := (eI .i64 169 y510)) [] [(i64 a0_0), (i64 a0_1), (i64 a0_2), (i64 a0_3), (i64 (a0_0 + (1 : Int)))] rfl zC rfl) ?_
     refine v_st (v := (.agg ([(i64 a0_0), (i64 a0_1), (i64 a0_2), (i64 a0_3), (i64 (a0_0 + (1 : Int)))] ++ (eI .i64 169 y510)))) (cs' := ([(i64 a0_0), (i64 a0_1), (i64 a0_2), (i64 a0_3), (i64 (a0_0 + (1 : Int)))] ++ (eI .i64 169 y510))) st 1 rfl (yb [] rfl (by simp [HV.cells, zC, yk])) (z2 _ zC (by rfl)) (zZ _ (by rfl) yj) hfl (fun h580 st => ?_)
     refine zf (th_n ?_); refine zt ?_; obtain rfl := inj hF
     exact zy st (Res.c gA (st.at (i := 1) rfl).2.2 (show takeN _ _ = some ([(i64 a0_0), (i64 a0_1), (i64 a0_2), (i64 a0_3), (i64 (a0_0 + (1 : Int)))] ++ (eI .i64 169 y510)) from (zX (E := (eI .i64 169 y510)) [] [(i64 a0_0), (i64 a0_1), (i64 a0_2), (i64 a0_3), (i64 (a0_0 + (1 : Int)))] rfl zC rfl)) Res.nil) rfl rfl
    ·have hF := zx hb579 hF; refine zB (th_n ?_); refine zg ?_; refine zg (zh ?_); refine za ?_; refine v_nc ?_; refine v_fa ?_; refine zq (st.at (i := 2) rfl).2.2 rfl ?_; refine za ?_; refine zf (th_n ?_); refine zE ?_; obtain ⟨y713, hy, hF⟩ := zm hF; refine zW (sf153_L8 N a0_0 a0_1) (fun x647 T ds648 h nx => ∃ (F648 : PH), ds648 = [] ∧ PH.le F511 F648 ∧ St n0 h0 F0 F648 h nx [.bx b1 [(i64 a0_0), (i64 a0_1), (i64 a0_2), (i64 a0_3)], .bx b4 ([(i64 0), (i64 0), (i64 0), (i64 0), (i64 0)] ++ (eI .i64 169 (fun _ => 0))), .bx b8 ([(i64 a0_0), (i64 a0_1), (i64 a0_2), (i64 a0_3), (i64 (a0_0 + (1 : Int)))] ++ (eI .i64 169 x647.2))] ∧ T.get 0 = some (.ptr (some (b8, 4))) ∧ T.get 1 = some (i64 a0_0) ∧ T.get 2 = some (i64 0) ∧ T.get 3 = some (i64 (-a0_1)) ∧ T.get 22 = some (i64 (a0_0 + (1 : Int))) ∧ T.get 23 = some (i64 x647.1)) (fun y e a σ => e = .exit 0 ∧ a.nt = 83 ∧ ∃ (F714 : PH), a.defers = [] ∧ PH.le F511 F714 ∧ St n0 h0 F0 F714 σ.h σ.nx [.bx b1 [(i64 a0_0), (i64 a0_1), (i64 a0_2), (i64 a0_3)], .bx b4 ([(i64 0), (i64 0), (i64 0), (i64 0), (i64 0)] ++ (eI .i64 169 (fun _ => 0))), .bx b8 ([(i64 a0_0), (i64 a0_1), (i64 a0_2), (i64 a0_3), (i64 (a0_0 + (1 : Int)))] ++ (eI .i64 169 y))]) (fun x647 T ds648 h nx s hp hF => ?_) N _ y713 _ _ _ _ hy ⟨F511, rfl, (PH.le.refl _), st, gA, gA, gA, gA, gA, gA⟩ (fun e a σ hne hq => ?_)
     ·obtain ⟨F648, rfl, le648, st, t0, t1, t2, t3, t22, t23⟩ := hp
      unfold sf153_L8 at hF; unfold L170w1; refine zg (zh ?_); refine ye ?_; refine zf (th_n ?_); refine zg ?_; refine zA (fun hb715 => ?_) (fun hb715 => ?_)
      ·have hF := zw hb715 hF; refine zB (th_n ?_); refine zg ?_; refine zE ?_; refine zg (zh ?_); refine za ?_; refine za ?_; refine zf (th_n ?_); refine zg (zh ?_); refine za ?_; refine za ?_; refine za ?_; refine v_nc ?_; refine v_fa ?_; obtain ⟨q716, hF⟩ := zi hF
       refine zU (j := (Int.toNat x647.1)) (Int.toNat_of_nonneg q716.1).symm (by omega) ?_
       obtain ⟨q717, hF⟩ := zi hF
       refine zU (j := (Int.toNat a0_0)) (Int.toNat_of_nonneg q717.1).symm (by omega) ?_
       refine zq (o := ((5 + (Int.toNat x647.1) * 13) + (Int.toNat a0_0) * 1)) (st.at (i := 2) rfl).2.2 (yv (p := 5) (ix := (((Int.toNat x647.1) * 13) + (Int.toNat a0_0))) [(i64 a0_0), (i64 a0_1), (i64 a0_2), (i64 a0_3), (i64 (a0_0 + (1 : Int)))] rfl (by omega) (by omega)) ?_
       refine za ?_; obtain ⟨q718, hF⟩ := zi hF; refine zQ q718 ?_; refine za ?_; refine zf (th_n ?_); refine zg ?_; refine zg (zh ?_); refine za ?_; refine za ?_; refine za ?_; refine za ?_; refine v_nc ?_; refine v_fa ?_; obtain ⟨q719, hF⟩ := zi hF
       refine zU (j := (Int.toNat x647.1)) (Int.toNat_of_nonneg q719.1).symm (by omega) ?_
       obtain ⟨q720, hF⟩ := zi hF
       refine zU (j := (Int.toNat (0 : Int))) (Int.toNat_of_nonneg q720.1).symm (by omega) ?_
       refine zq (o := ((5 + (Int.toNat x647.1) * 13) + (Int.toNat (0 : Int)) * 1)) (st.at (i := 2) rfl).2.2 (yv (p := 5) (ix := (((Int.toNat x647.1) * 13) + (Int.toNat (0 : Int)))) [(i64 a0_0), (i64 a0_1), (i64 a0_2), (i64 a0_3), (i64 (a0_0 + (1 : Int)))] rfl (by omega) (by omega)) ?_
       refine uo ?_; refine zf (th_n ?_); refine zA (fun hb721 => ?_) (fun hb721 => ?_)
       ·have hF := zw hb721 hF; refine z8 ?_; refine th_e ?_; refine ib_e ?_; refine th_n ?_; refine zh ?_; obtain ⟨q722, hF⟩ := zi hF; refine zQ q722 ?_; refine za ?_; refine zf ?_; refine thn ⟨_, (inj hF).symm, rfl, ?_⟩; dsimp only
        exact ⟨F648, rfl, le648, st, gA, gA, gA, gA, gA, gA⟩
       ·have hF := zx hb721 hF; refine zB (th_n ?_); refine zg (zh ?_); refine za ?_; refine v_nc ?_; refine v_fa ?_; refine zq (st.at (i := 2) rfl).2.2 rfl ?_; refine za ?_; refine zf (th_n ?_); refine zE ?_; obtain ⟨y757, hy, hF⟩ := zm hF; refine zW (sf153_L7 a0_0 a0_1 x647) (fun x740 T ds741 h nx => ∃ (F741 : PH), ds741 = [] ∧ PH.le F648 F741 ∧ St n0 h0 F0 F741 h nx [.bx b1 [(i64 a0_0), (i64 a0_1), (i64 a0_2), (i64 a0_3)], .bx b4 ([(i64 0), (i64 0), (i64 0), (i64 0), (i64 0)] ++ (eI .i64 169 (fun _ => 0))), .bx b8 ([(i64 a0_0), (i64 a0_1), (i64 a0_2), (i64 a0_3), (i64 (a0_0 + (1 : Int)))] ++ (eI .i64 169 x740.2))] ∧ T.get 0 = some (.ptr (some (b8, 4))) ∧ T.get 1 = some (i64 a0_0) ∧ T.get 2 = some (i64 0) ∧ T.get 3 = some (i64 (-a0_1)) ∧ T.get 9 = some (i64 x647.1) ∧ T.get 10 = some (i64 ((x647.2 (((Int.toNat x647.1) * 13) + (Int.toNat a0_0))) + (-a0_1))) ∧ T.get 22 = some (i64 (a0_0 + (1 : Int))) ∧ T.get 23 = some (i64 x647.1) ∧ T.get 49 = some (i64 (a0_0 + (1 : Int))) ∧ T.get 50 = some (i64 x740.1)) (fun y e a σ => e = .exit 2 ∧ a.nt = 83 ∧ ∃ (F758 : PH), a.defers = [] ∧ PH.le F648 F758 ∧ St n0 h0 F0 F758 σ.h σ.nx [.bx b1 [(i64 a0_0), (i64 a0_1), (i64 a0_2), (i64 a0_3)], .bx b4 ([(i64 0), (i64 0), (i64 0), (i64 0), (i64 0)] ++ (eI .i64 169 (fun _ => 0))), .bx b8 ([(i64 a0_0), (i64 a0_1), (i64 a0_2), (i64 a0_3), (i64 (a0_0 + (1 : Int)))] ++ (eI .i64 169 y))] ∧ a.tmps.get 0 = some (.ptr (some (b8, 4))) ∧ a.tmps.get 1 = some (i64 a0_0) ∧ a.tmps.get 2 = some (i64 0) ∧ a.tmps.get 3 = some (i64 (-a0_1)) ∧ a.tmps.get 22 = some (i64 (a0_0 + (1 : Int))) ∧ a.tmps.get 23 = some (i64 x647.1)) (fun x740 T ds741 h nx s hp hF => ?_) N _ y757 _ _ _ _ hy ⟨F648, rfl, (PH.le.refl _), st, gA, gA, gA, gA, gA, gA, gA, gA, gA, gA⟩ (fun e a σ hne hq => ?_)
        ·obtain ⟨F741, rfl, le741, st, t0, t1, t2, t3, t9, t10, t22, t23, t49, t50⟩ := hp
         unfold sf153_L7 at hF; unfold L170w0; refine zg (zh ?_); refine ye ?_; refine zf (th_n ?_); refine zg ?_; refine zA (fun hb759 => ?_) (fun hb759 => ?_)
         ·have hF := zw hb759 hF; refine zB (th_n ?_); refine zg ?_; refine zE ?_; refine zg (zh ?_); refine za ?_; refine za ?_; refine zf (th_n ?_); refine zg (zh ?_); refine za ?_; refine za ?_; refine za ?_; refine za ?_; refine v_nc ?_; refine v_fa ?_; obtain ⟨q760, hF⟩ := zi hF
          refine zU (j := (Int.toNat (0 : Int))) (Int.toNat_of_nonneg q760.1).symm (by omega) ?_
          obtain ⟨q761, hF⟩ := zi hF
          refine zU (j := (Int.toNat x740.1)) (Int.toNat_of_nonneg q761.1).symm (by omega) ?_
          refine zq (o := ((5 + (Int.toNat (0 : Int)) * 13) + (Int.toNat x740.1) * 1)) (st.at (i := 2) rfl).2.2 (yv (p := 5) (ix := (((Int.toNat (0 : Int)) * 13) + (Int.toNat x740.1))) [(i64 a0_0), (i64 a0_1), (i64 a0_2), (i64 a0_3), (i64 (a0_0 + (1 : Int)))] rfl (by omega) (by omega)) ?_
          obtain ⟨q762, hF⟩ := zi hF; refine zQ q762 ?_; refine za ?_; refine zf (th_n ?_); refine zg (zh ?_); refine za ?_; refine za ?_; refine za ?_; refine za ?_; refine v_nc ?_; refine v_fa ?_; obtain ⟨q763, hF⟩ := zi hF
          refine zU (j := (Int.toNat x647.1)) (Int.toNat_of_nonneg q763.1).symm (by omega) ?_
          obtain ⟨q764, hF⟩ := zi hF
          refine zU (j := (Int.toNat x740.1)) (Int.toNat_of_nonneg q764.1).symm (by omega) ?_
          refine zq (o := ((5 + (Int.toNat x647.1) * 13) + (Int.toNat x740.1) * 1)) (st.at (i := 2) rfl).2.2 (yv (p := 5) (ix := (((Int.toNat x647.1) * 13) + (Int.toNat x740.1))) [(i64 a0_0), (i64 a0_1), (i64 a0_2), (i64 a0_3), (i64 (a0_0 + (1 : Int)))] rfl (by omega) (by omega)) ?_
          refine ye ?_; refine zf (th_n ?_); refine zA (fun hb765 => ?_) (fun hb765 => ?_)
          ·have hF := zw hb765 hF; refine zh ?_; refine za ?_; refine za ?_; refine za ?_; refine za ?_; refine v_nc ?_; refine v_fa ?_; obtain ⟨q766, hF⟩ := zi hF
           refine zU (j := (Int.toNat x647.1)) (Int.toNat_of_nonneg q766.1).symm (by omega) ?_
           obtain ⟨q767, hF⟩ := zi hF
           refine zU (j := (Int.toNat x740.1)) (Int.toNat_of_nonneg q767.1).symm (by omega) ?_
           refine v_st (o := ((5 + (Int.toNat x647.1) * 13) + (Int.toNat x740.1) * 1)) (v := (i64 (((x647.2 (((Int.toNat x647.1) * 13) + (Int.toNat a0_0))) + (-a0_1)) + (x740.2 (((Int.toNat (0 : Int)) * 13) + (Int.toNat x740.1)))))) (cs' := ([(i64 a0_0), (i64 a0_1), (i64 a0_2), (i64 a0_3), (i64 (a0_0 + (1 : Int)))] ++ (eI .i64 169 (ups x740.2 (((Int.toNat x647.1) * 13) + (Int.toNat x740.1)) (((x647.2 (((Int.toNat x647.1) * 13) + (Int.toNat a0_0))) + (-a0_1)) + (x740.2 (((Int.toNat (0 : Int)) * 13) + (Int.toNat x740.1)))))))) st 2 rfl (uD (p := 5) (ix := (((Int.toNat x647.1) * 13) + (Int.toNat x740.1))) [(i64 a0_0), (i64 a0_1), (i64 a0_2), (i64 a0_3), (i64 (a0_0 + (1 : Int)))] rfl (by omega) (by omega)) rfl rfl hfl (fun h768 st => ?_)
           refine zf ?_; refine ib_n ?_; refine th_n ?_; refine zh ?_; obtain ⟨q769, hF⟩ := zi hF; refine zQ q769 ?_; refine za ?_; refine zf ?_; refine thn ⟨_, (inj hF).symm, rfl, ?_⟩; dsimp only
           exact ⟨F741, rfl, le741, st, gA, gA, gA, gA, gA, gA, gA, gA, gA, gA⟩
          ·have hF := zx hb765 hF; refine zB ?_; refine ib_n ?_; refine th_n ?_; refine zh ?_; obtain ⟨q770, hF⟩ := zi hF; refine zQ q770 ?_; refine za ?_; refine zf ?_; refine thn ⟨_, (inj hF).symm, rfl, ?_⟩; dsimp only
           exact ⟨F741, rfl, le741, st, gA, gA, gA, gA, gA, gA, gA, gA, gA, gA⟩
         ·have hF := zx hb759 hF; refine z8 ?_; refine th_e ?_; refine th_e ?_; refine ⟨_, (inj hF).symm, rfl, rfl, ?_⟩; dsimp only
          exact ⟨F741, rfl, le741, st, gA, gA, gA, gA, gA, gA⟩
        ·obtain ⟨N9, T, ds758⟩ := a; obtain ⟨h774, n775⟩ := σ; obtain ⟨rfl, e1, F758, e2, le758, st, t0, t1, t2, t3, t22, t23⟩ := hq
         dsimp only at e1 e2
         subst e1
         subst e2
         dsimp only at st t0 t1 t2 t3 t22 t23
         have le773 := PH.le.trans le648 le758
         refine ib_e ?_; refine ib_n ?_; refine th_n ?_; refine zh ?_; obtain ⟨q776, hF⟩ := zi hF; refine zQ q776 ?_; refine za ?_; refine zf ?_; refine thn ⟨_, (inj hF).symm, rfl, ?_⟩; dsimp only
         exact ⟨F758, rfl, le773, st, gA, gA, gA, gA, gA, gA⟩
      ·have hF := zx hb715 hF; refine z8 ?_; refine th_e ?_; refine th_e ?_; refine ⟨_, (inj hF).symm, rfl, rfl, ?_⟩; dsimp only
       exact ⟨F648, rfl, le648, st⟩
     ·obtain ⟨N9, T, ds714⟩ := a; obtain ⟨h779, n780⟩ := σ; obtain ⟨rfl, e1, F714, e2, le714, st⟩ := hq
      dsimp only at e1 e2
      subst e1
      subst e2
      dsimp only at st
      refine ib_e ?_; refine th_n ?_; refine zg (zh ?_); refine za ?_; refine zf (th_n ?_); refine zt ?_; refine yT (v := (.bool true)) (Res.t gA Res.nil) rfl (.inl rfl) (ik ?_); refine zf (th_n ?_); refine zg (zh ?_); refine zH (vs := ([(i64 a0_0), (i64 a0_1), (i64 a0_2), (i64 a0_3), (i64 (a0_0 + (1 : Int)))] ++ (eI .i64 169 y713))) (st.at (i := 2) rfl).2.2 (zX (E := (eI .i64 169 y713)) [] [(i64 a0_0), (i64 a0_1), (i64 a0_2), (i64 a0_3), (i64 (a0_0 + (1 : Int)))] rfl zC rfl) ?_
      refine v_st (v := (.agg ([(i64 a0_0), (i64 a0_1), (i64 a0_2), (i64 a0_3), (i64 (a0_0 + (1 : Int)))] ++ (eI .i64 169 y713)))) (cs' := ([(i64 a0_0), (i64 a0_1), (i64 a0_2), (i64 a0_3), (i64 (a0_0 + (1 : Int)))] ++ (eI .i64 169 y713))) st 1 rfl (yb [] rfl (by simp [HV.cells, zC, yk])) (z2 _ zC (by rfl)) (zZ _ (by rfl) yj) hfl (fun h781 st => ?_)
      refine zf (th_n ?_); refine zt ?_; obtain rfl := inj hF
      exact zy st (Res.c gA (st.at (i := 1) rfl).2.2 (show takeN _ _ = some ([(i64 a0_0), (i64 a0_1), (i64 a0_2), (i64 a0_3), (i64 (a0_0 + (1 : Int)))] ++ (eI .i64 169 y713)) from (zX (E := (eI .i64 169 y713)) [] [(i64 a0_0), (i64 a0_1), (i64 a0_2), (i64 a0_3), (i64 (a0_0 + (1 : Int)))] rfl zC rfl)) Res.nil) rfl rfl
end Go.Hx.V

namespace Go.Hx.V
open Go.Hx
set_option maxRecDepth 20000
set_option maxHeartbeats 4000000
variable {fl : Nat} {h0 : Tr HBlk} {n0 : Nat} {F0 : PH}
attribute [local irreducible] W R C thenH inBlockH Tr.get Tr.set lo ck bnd ix iter
theorem ct154 (N : Nat) {a0_0 a0_1 a0_2 a0_3 a0_4 : Int} {a0_5 : (Nat → Int)} {a1_0 a1_1 a1_2 a1_3 : Int} {r : (Int × Int × Int × Int × Int × (Nat → Int) × Bool)} (hF : sf154 N a0_0 a0_1 a0_2 a0_3 a0_4 a0_5 a1_0 a1_1 a1_2 a1_3 = some r) (hd : D h0 n0) (hs : F0.sub h0) : C LW fl 154 [(.agg ([(i64 a0_0), (i64 a0_1), (i64 a0_2), (i64 a0_3), (i64 a0_4)] ++ (eI .i64 169 a0_5))), (.agg [(i64 a1_0), (i64 a1_1), (i64 a1_2), (i64 a1_3)])] ⟨h0, n0⟩ (KS (.tuple [(.agg ([(i64 r.1), (i64 r.2.1), (i64 r.2.2.1), (i64 r.2.2.2.1), (i64 r.2.2.2.2.1)] ++ (eI .i64 169 r.2.2.2.2.2.1))), (.bool r.2.2.2.2.2.2)]) n0 h0) := by
 unfold sf154 at hF
 refine zT hd hs lw154 rfl rfl (by rfl) (fun st T hT => ?_)
 have hfl : n0 ≤ n0 := Nat.le_refl n0
 have t0 := hT 0 _ rfl
 have t1 := hT 1 _ rfl
 dsimp only [L154]
 refine zg (zh ?_); refine zS st (fun b1 h2 n3 st => ?_); refine zS st (fun b4 h5 n6 st => ?_); refine zJ st (fun b7 h8 n9 st => ?_)
 have st := st.cells 2 rfl ([(i64 0), (i64 0), (i64 0), (i64 0), (i64 0)] ++ (eI .i64 169 (fun _ => 0))) rfl
 refine za ?_; refine zf (th_n ?_); refine zg ?_; refine zg (zh ?_); refine v_fa ?_; refine v_fa ?_; refine zq (st.at (i := 1) rfl).2.2 rfl ?_; refine v_fa ?_; refine zq (st.at (i := 1) rfl).2.2 rfl ?_; refine v_fa ?_; refine v_fa ?_; refine zq (st.at (i := 1) rfl).2.2 rfl ?_; refine jB lw170 rfl rfl (fun T hT => ?_)
 have t0 := hT 0 _ rfl
 have t1 := hT 1 _ rfl
 have t2 := hT 2 _ rfl
 have t3 := hT 3 _ rfl
 dsimp only [L170]
 refine zg (zh ?_); refine za ?_; refine zf (th_n ?_); refine zg ?_; refine zg (zh ?_); refine za ?_; refine za ?_; refine za ?_; refine za ?_; obtain ⟨v11, e12, hF⟩ := zm hF; refine zF st (ct181 N e12 st.d (all_sub _)  (st.at (i := 0) rfl).2.2) (fun n13 st => ?_); refine yg ?_; refine zf (th_n ?_); refine zA (fun hb14 => ?_) (fun hb14 => ?_)
 ·have hF := zw hb14 hF; refine zg (zh ?_); refine za ?_; refine zf (th_n ?_); refine zt ?_; refine th_r ?_; refine yT (v := (.bool false)) (Res.t gA Res.nil) rfl (.inl rfl) (ik ?_); refine yg ?_; refine zf (th_n ?_); refine zA (fun hq15 => ?_) (fun hq15 => ?_)
  ·refine zg (zh ?_); refine zO (cs := ([(i64 0), (i64 0), (i64 0), (i64 0), (i64 0)] ++ (eI .i64 169 (fun _ => 0)))) rfl ?_
   refine v_st (v := (.agg ([(i64 0), (i64 0), (i64 0), (i64 0), (i64 0)] ++ (eI .i64 169 (fun _ => 0))))) (cs' := ([(i64 0), (i64 0), (i64 0), (i64 0), (i64 0)] ++ (eI .i64 169 (fun _ => 0)))) st 2 rfl (yb [] rfl (by simp [HV.cells, zC, yk])) (z2 _ zC (by rfl)) (zZ _ (by rfl) yj) hfl (fun h16 st => ?_)
   refine za ?_; refine zf (th_n ?_); refine zt ?_; refine th_r ?_; obtain rfl := inj hF
   exact zy st (Res.c gA (st.at (i := 2) rfl).2.2 (show takeN _ _ = some ([(i64 0), (i64 0), (i64 0), (i64 0), (i64 0)] ++ (eI .i64 169 (fun _ => 0))) from (zX (E := (eI .i64 169 (fun _ => 0))) [] [(i64 0), (i64 0), (i64 0), (i64 0), (i64 0)] rfl zC rfl)) (Res.t gA Res.nil)) rfl rfl
  ·exact absurd hq15 (by rw [(congrArg (!·) rfl)]; decide)
 ·have hF := zx hb14 hF; refine zB (th_n ?_); refine zg ?_; refine zg (zh ?_); refine za ?_; refine v_nc ?_; refine v_fa ?_; refine zq (st.at (i := 0) rfl).2.2 rfl ?_; refine za ?_; refine zf (th_n ?_); refine zE ?_; obtain ⟨y133, hy, hF⟩ := zm hF; refine zW (sf154_L2 N a0_4 a1_0 a1_1 a1_3) (fun x75 T ds76 h nx => ∃ (F76 : PH), ds76 = [] ∧ PH.le F0 F76 ∧ St n0 h0 F0 F76 h nx [.bx b1 ([(i64 a0_0), (i64 a0_1), (i64 a0_2), (i64 a0_3), (i64 a0_4)] ++ (eI .i64 169 x75.2)), .bx b4 [(i64 a1_0), (i64 a1_1), (i64 a1_2), (i64 a1_3)], .bx b7 ([(i64 0), (i64 0), (i64 0), (i64 0), (i64 0)] ++ (eI .i64 169 (fun _ => 0)))] ∧ T.get 0 = some (.ptr (some (b1, 4))) ∧ T.get 1 = some (i64 a1_0) ∧ T.get 2 = some (i64 a1_1) ∧ T.get 3 = some (i64 a1_3) ∧ T.get 22 = some (i64 a0_4) ∧ T.get 23 = some (i64 x75.1)) (fun y e a σ => e = .exit 0 ∧ a.nt = 83 ∧ ∃ (F134 : PH), a.defers = [] ∧ PH.le F0 F134 ∧ St n0 h0 F0 F134 σ.h σ.nx [.bx b1 ([(i64 a0_0), (i64 a0_1), (i64 a0_2), (i64 a0_3), (i64 a0_4)] ++ (eI .i64 169 y)), .bx b4 [(i64 a1_0), (i64 a1_1), (i64 a1_2), (i64 a1_3)], .bx b7 ([(i64 0), (i64 0), (i64 0), (i64 0), (i64 0)] ++ (eI .i64 169 (fun _ => 0)))]) (fun x75 T ds76 h nx s hp hF => ?_) N _ y133 _ _ _ _ hy ⟨F0, rfl, (PH.le.refl _), st, gA, gA, gA, gA, gA, gA⟩ (fun e a σ hne hq => ?_)
  ·obtain ⟨F76, rfl, le76, st, t0, t1, t2, t3, t22, t23⟩ := hp; unfold sf154_L2 at hF; unfold L170w1; refine zg (zh ?_); refine ye ?_; refine zf (th_n ?_); refine zg ?_; refine zA (fun hb135 => ?_) (fun hb135 => ?_)
   ·have hF := zw hb135 hF; refine zB (th_n ?_); refine zg ?_; refine zE ?_; refine zg (zh ?_); refine za ?_; refine za ?_; refine zf (th_n ?_); refine zg (zh ?_); refine za ?_; refine za ?_; refine za ?_; refine v_nc ?_; refine v_fa ?_; obtain ⟨q136, hF⟩ := zi hF
    refine zU (j := (Int.toNat x75.1)) (Int.toNat_of_nonneg q136.1).symm (by omega) ?_
    obtain ⟨q137, hF⟩ := zi hF
    refine zU (j := (Int.toNat a1_0)) (Int.toNat_of_nonneg q137.1).symm (by omega) ?_
    refine zq (o := ((5 + (Int.toNat x75.1) * 13) + (Int.toNat a1_0) * 1)) (st.at (i := 0) rfl).2.2 (yv (p := 5) (ix := (((Int.toNat x75.1) * 13) + (Int.toNat a1_0))) [(i64 a0_0), (i64 a0_1), (i64 a0_2), (i64 a0_3), (i64 a0_4)] rfl (by omega) (by omega)) ?_
    refine za ?_; obtain ⟨q138, hF⟩ := zi hF; refine zQ q138 ?_; refine za ?_; refine zf (th_n ?_); refine zg ?_; refine zg (zh ?_); refine za ?_; refine za ?_; refine za ?_; refine za ?_; refine v_nc ?_; refine v_fa ?_; obtain ⟨q139, hF⟩ := zi hF
    refine zU (j := (Int.toNat x75.1)) (Int.toNat_of_nonneg q139.1).symm (by omega) ?_
    obtain ⟨q140, hF⟩ := zi hF
    refine zU (j := (Int.toNat a1_1)) (Int.toNat_of_nonneg q140.1).symm (by omega) ?_
    refine zq (o := ((5 + (Int.toNat x75.1) * 13) + (Int.toNat a1_1) * 1)) (st.at (i := 0) rfl).2.2 (yv (p := 5) (ix := (((Int.toNat x75.1) * 13) + (Int.toNat a1_1))) [(i64 a0_0), (i64 a0_1), (i64 a0_2), (i64 a0_3), (i64 a0_4)] rfl (by omega) (by omega)) ?_
    refine uo ?_; refine zf (th_n ?_); refine zA (fun hb141 => ?_) (fun hb141 => ?_)
    ·have hF := zw hb141 hF; refine z8 ?_; refine th_e ?_; refine ib_e ?_; refine th_n ?_; refine zh ?_; obtain ⟨q142, hF⟩ := zi hF; refine zQ q142 ?_; refine za ?_; refine zf ?_; refine thn ⟨_, (inj hF).symm, rfl, ?_⟩; dsimp only
     exact ⟨F76, rfl, le76, st, gA, gA, gA, gA, gA, gA⟩
    ·have hF := zx hb141 hF; refine zB (th_n ?_); refine zg (zh ?_); refine za ?_; refine v_nc ?_; refine v_fa ?_; refine zq (st.at (i := 0) rfl).2.2 rfl ?_; refine za ?_; refine zf (th_n ?_); refine zE ?_; obtain ⟨y173, hy, hF⟩ := zm hF; refine zW (sf154_L1 a0_4 a1_0 a1_1 a1_3 x75) (fun x158 T ds159 h nx => ∃ (F159 : PH), ds159 = [] ∧ PH.le F76 F159 ∧ St n0 h0 F0 F159 h nx [.bx b1 ([(i64 a0_0), (i64 a0_1), (i64 a0_2), (i64 a0_3), (i64 a0_4)] ++ (eI .i64 169 x158.2)), .bx b4 [(i64 a1_0), (i64 a1_1), (i64 a1_2), (i64 a1_3)], .bx b7 ([(i64 0), (i64 0), (i64 0), (i64 0), (i64 0)] ++ (eI .i64 169 (fun _ => 0)))] ∧ T.get 0 = some (.ptr (some (b1, 4))) ∧ T.get 1 = some (i64 a1_0) ∧ T.get 2 = some (i64 a1_1) ∧ T.get 3 = some (i64 a1_3) ∧ T.get 9 = some (i64 x75.1) ∧ T.get 10 = some (i64 ((x75.2 (((Int.toNat x75.1) * 13) + (Int.toNat a1_0))) + a1_3)) ∧ T.get 22 = some (i64 a0_4) ∧ T.get 23 = some (i64 x75.1) ∧ T.get 49 = some (i64 a0_4) ∧ T.get 50 = some (i64 x158.1)) (fun y e a σ => e = .exit 2 ∧ a.nt = 83 ∧ ∃ (F174 : PH), a.defers = [] ∧ PH.le F76 F174 ∧ St n0 h0 F0 F174 σ.h σ.nx [.bx b1 ([(i64 a0_0), (i64 a0_1), (i64 a0_2), (i64 a0_3), (i64 a0_4)] ++ (eI .i64 169 y)), .bx b4 [(i64 a1_0), (i64 a1_1), (i64 a1_2), (i64 a1_3)], .bx b7 ([(i64 0), (i64 0), (i64 0), (i64 0), (i64 0)] ++ (eI .i64 169 (fun _ => 0)))] ∧ a.tmps.get 0 = some (.ptr (some (b1, 4))) ∧ a.tmps.get 1 = some (i64 a1_0) ∧ a.tmps.get 2 = some (i64 a1_1) ∧ a.tmps.get 3 = some (i64 a1_3) ∧ a.tmps.get 22 = some (i64 a0_4) ∧ a.tmps.get 23 = some (i64 x75.1)) (fun x158 T ds159 h nx s hp hF => ?_) N _ y173 _ _ _ _ hy ⟨F76, rfl, (PH.le.refl _), st, gA, gA, gA, gA, gA, gA, gA, gA, gA, gA⟩ (fun e a σ hne hq => ?_)
     ·obtain ⟨F159, rfl, le159, st, t0, t1, t2, t3, t9, t10, t22, t23, t49, t50⟩ := hp
      unfold sf154_L1 at hF; unfold L170w0; refine zg (zh ?_); refine ye ?_; refine zf (th_n ?_); refine zg ?_; refine zA (fun hb175 => ?_) (fun hb175 => ?_)
      ·have hF := zw hb175 hF; refine zB (th_n ?_); refine zg ?_; refine zE ?_; refine zg (zh ?_); refine za ?_; refine za ?_; refine zf (th_n ?_); refine zg (zh ?_); refine za ?_; refine za ?_; refine za ?_; refine za ?_; refine v_nc ?_; refine v_fa ?_; obtain ⟨q176, hF⟩ := zi hF
       refine zU (j := (Int.toNat a1_1)) (Int.toNat_of_nonneg q176.1).symm (by omega) ?_
       obtain ⟨q177, hF⟩ := zi hF
       refine zU (j := (Int.toNat x158.1)) (Int.toNat_of_nonneg q177.1).symm (by omega) ?_
       refine zq (o := ((5 + (Int.toNat a1_1) * 13) + (Int.toNat x158.1) * 1)) (st.at (i := 0) rfl).2.2 (yv (p := 5) (ix := (((Int.toNat a1_1) * 13) + (Int.toNat x158.1))) [(i64 a0_0), (i64 a0_1), (i64 a0_2), (i64 a0_3), (i64 a0_4)] rfl (by omega) (by omega)) ?_
       obtain ⟨q178, hF⟩ := zi hF; refine zQ q178 ?_; refine za ?_; refine zf (th_n ?_); refine zg (zh ?_); refine za ?_; refine za ?_; refine za ?_; refine za ?_; refine v_nc ?_; refine v_fa ?_; obtain ⟨q179, hF⟩ := zi hF
       refine zU (j := (Int.toNat x75.1)) (Int.toNat_of_nonneg q179.1).symm (by omega) ?_
       obtain ⟨q180, hF⟩ := zi hF
       refine zU (j := (Int.toNat x158.1)) (Int.toNat_of_nonneg q180.1).symm (by omega) ?_
       refine zq (o := ((5 + (Int.toNat x75.1) * 13) + (Int.toNat x158.1) * 1)) (st.at (i := 0) rfl).2.2 (yv (p := 5) (ix := (((Int.toNat x75.1) * 13) + (Int.toNat x158.1))) [(i64 a0_0), (i64 a0_1), (i64 a0_2), (i64 a0_3), (i64 a0_4)] rfl (by omega) (by omega)) ?_
       refine ye ?_; refine zf (th_n ?_); refine zA (fun hb181 => ?_) (fun hb181 => ?_)
       ·have hF := zw hb181 hF; refine zh ?_; refine za ?_; refine za ?_; refine za ?_; refine za ?_; refine v_nc ?_; refine v_fa ?_; obtain ⟨q182, hF⟩ := zi hF
        refine zU (j := (Int.toNat x75.1)) (Int.toNat_of_nonneg q182.1).symm (by omega) ?_
        obtain ⟨q183, hF⟩ := zi hF
        refine zU (j := (Int.toNat x158.1)) (Int.toNat_of_nonneg q183.1).symm (by omega) ?_
        refine v_st (o := ((5 + (Int.toNat x75.1) * 13) + (Int.toNat x158.1) * 1)) (v := (i64 (((x75.2 (((Int.toNat x75.1) * 13) + (Int.toNat a1_0))) + a1_3) + (x158.2 (((Int.toNat a1_1) * 13) + (Int.toNat x158.1)))))) (cs' := ([(i64 a0_0), (i64 a0_1), (i64 a0_2), (i64 a0_3), (i64 a0_4)] ++ (eI .i64 169 (ups x158.2 (((Int.toNat x75.1) * 13) + (Int.toNat x158.1)) (((x75.2 (((Int.toNat x75.1) * 13) + (Int.toNat a1_0))) + a1_3) + (x158.2 (((Int.toNat a1_1) * 13) + (Int.toNat x158.1)))))))) st 0 rfl (uD (p := 5) (ix := (((Int.toNat x75.1) * 13) + (Int.toNat x158.1))) [(i64 a0_0), (i64 a0_1), (i64 a0_2), (i64 a0_3), (i64 a0_4)] rfl (by omega) (by omega)) rfl rfl hfl (fun h184 st => ?_)
        refine zf ?_; refine ib_n ?_; refine th_n ?_; refine zh ?_; obtain ⟨q185, hF⟩ := zi hF; refine zQ q185 ?_; refine za ?_; refine zf ?_; refine thn ⟨_, (inj hF).symm, rfl, ?_⟩; dsimp only
        exact ⟨F159, rfl, le159, st, gA, gA, gA, gA, gA, gA, gA, gA, gA, gA⟩
       ·have hF := zx hb181 hF; refine zB ?_; refine ib_n ?_; refine th_n ?_; refine zh ?_; obtain ⟨q186, hF⟩ := zi hF; refine zQ q186 ?_; refine za ?_; refine zf ?_; refine thn ⟨_, (inj hF).symm, rfl, ?_⟩; dsimp only
        exact ⟨F159, rfl, le159, st, gA, gA, gA, gA, gA, gA, gA, gA, gA, gA⟩
      ·have hF := zx hb175 hF; refine z8 ?_; refine th_e ?_; refine th_e ?_; refine ⟨_, (inj hF).symm, rfl, rfl, ?_⟩; dsimp only
       exact ⟨F159, rfl, le159, st, gA, gA, gA, gA, gA, gA⟩
     ·obtain ⟨N9, T, ds174⟩ := a; obtain ⟨h188, n189⟩ := σ; obtain ⟨rfl, e1, F174, e2, le174, st, t0, t1, t2, t3, t22, t23⟩ := hq
      dsimp only at e1 e2
      subst e1
      subst e2
      dsimp only at st t0 t1 t2 t3 t22 t23
      have le187 := PH.le.trans le76 le174
      refine ib_e ?_; refine ib_n ?_; refine th_n ?_; refine zh ?_; obtain ⟨q190, hF⟩ := zi hF; refine zQ q190 ?_; refine za ?_; refine zf ?_; refine thn ⟨_, (inj hF).symm, rfl, ?_⟩; dsimp only
      exact ⟨F174, rfl, le187, st, gA, gA, gA, gA, gA, gA⟩
   ·have hF := zx hb135 hF; refine z8 ?_; refine th_e ?_; refine th_e ?_; refine ⟨_, (inj hF).symm, rfl, rfl, ?_⟩; dsimp only
    exact ⟨F76, rfl, le76, st⟩
  ·obtain ⟨N9, T, ds134⟩ := a; obtain ⟨h191, n192⟩ := σ; obtain ⟨rfl, e1, F134, e2, le134, st⟩ := hq
   dsimp only at e1 e2
   subst e1
   subst e2
   dsimp only at st
   refine ib_e ?_; refine th_n ?_; refine zg (zh ?_); refine za ?_; refine zf (th_n ?_); refine zt ?_; refine yT (v := (.bool true)) (Res.t gA Res.nil) rfl (.inl rfl) (ik ?_); refine yg ?_; refine zf (th_n ?_); refine zA (fun hq193 => ?_) (fun hq193 => ?_)
   ·exact absurd hq193 (by rw [(congrArg (!·) rfl)]; decide)
   ·refine zB (th_n ?_); refine zg ?_; obtain ⟨y391, hA392, hF⟩ := zm hF; refine yB (fun T ds394 h nx => ∃ (F394 : PH), ds394 = [] ∧ PH.le F134 F394 ∧ St n0 h0 F0 F394 h nx [.bx b1 ([(i64 a0_0), (i64 a0_1), (i64 a0_2), (i64 a0_3), (i64 a0_4)] ++ (eI .i64 169 y391.2)), .bx b4 [(i64 a1_0), (i64 a1_1), (i64 a1_2), (i64 a1_3)], .bx b7 ([(i64 0), (i64 0), (i64 0), (i64 0), (i64 0)] ++ (eI .i64 169 (fun _ => 0)))] ∧ T.get 2 = some (.ptr (some (b1, 0))) ∧ T.get 4 = some (.ptr (some (b7, 0))) ∧ T.get 37 = some (.bool y391.1)) ?_ (fun T ds394 h nx hp => ?_)
    ·have hK393 := hF
     have hF := hA392; refine zh ?_; refine v_fa ?_; refine zq (st.at (i := 1) rfl).2.2 rfl ?_; refine v_fa ?_; refine v_fa ?_; refine zq (st.at (i := 0) rfl).2.2 rfl ?_; refine ye ?_; refine za ?_
     rcases Bool.eq_false_or_eq_true (decide (a1_1 < a0_0)) with hb395 | hb395
     ·have hF := zw hb395 hF; refine zj hb395 (v_fa ?_); refine zj hb395 (v_fa ?_); refine zj hb395 (zq (st.at (i := 1) rfl).2.2 rfl ?_); obtain ⟨q396, hF⟩ := zi hF; refine zj hb395 (zQ q396 ?_); refine zj hb395 (v_fa ?_); refine zj hb395 (zq (st.at (i := 1) rfl).2.2 rfl ?_); refine zj hb395 (v_fa ?_); refine zj hb395 (v_fa ?_); refine zj hb395 (zq (st.at (i := 1) rfl).2.2 rfl ?_); obtain ⟨q397, hF⟩ := zi hF; refine zj hb395 (kp q397 ?_); obtain ⟨q398, hF⟩ := zi hF; refine zj hb395 (yn q398 ?_); refine zj hb395 (jB lw170 rfl rfl (fun T hT => ?_))
      have t0 := hT 0 _ rfl
      have t1 := hT 1 _ rfl
      have t2 := hT 2 _ rfl
      have t3 := hT 3 _ rfl
      dsimp only [L170]
      refine zg (zh ?_); refine za ?_; refine zf (th_n ?_); refine zg ?_; refine zg (zh ?_); refine za ?_; refine za ?_; refine za ?_; refine za ?_; obtain ⟨v400, e401, hF⟩ := zm hF; refine zF st (ct181 N e401 st.d (all_sub _)  (st.at (i := 0) rfl).2.2) (fun n402 st => ?_); refine yg ?_; refine zf (th_n ?_); refine zA (fun hb403 => ?_) (fun hb403 => ?_)
      ·have hF := zw hb403 hF; refine zg (zh ?_); refine za ?_; refine zf (th_n ?_); refine zt ?_; refine th_r ?_; refine yT (v := (.bool false)) (Res.t gA Res.nil) rfl (.inl rfl) (ik ?_); refine zj hb395 (yg ?_); refine zK hb395 ?_; refine zf ?_; obtain rfl := inj hF; refine thn ⟨rfl, ?_⟩; dsimp only
       exact ⟨F134, rfl, (PH.le.refl _), st, gA, gA, gA⟩
      ·have hF := zx hb403 hF; refine zB (th_n ?_); refine zg ?_; refine zg (zh ?_); refine za ?_; refine v_nc ?_; refine v_fa ?_; refine zq (st.at (i := 0) rfl).2.2 rfl ?_; refine za ?_; refine zf (th_n ?_); refine zE ?_; obtain ⟨y528, hy, hF⟩ := zm hF; refine zW (sf154_L4 N a0_4 a1_0 a1_1 a1_2) (fun x466 T ds467 h nx => ∃ (F467 : PH), ds467 = [] ∧ PH.le F134 F467 ∧ St n0 h0 F0 F467 h nx [.bx b1 ([(i64 a0_0), (i64 a0_1), (i64 a0_2), (i64 a0_3), (i64 a0_4)] ++ (eI .i64 169 x466.2)), .bx b4 [(i64 a1_0), (i64 a1_1), (i64 a1_2), (i64 a1_3)], .bx b7 ([(i64 0), (i64 0), (i64 0), (i64 0), (i64 0)] ++ (eI .i64 169 (fun _ => 0)))] ∧ T.get 0 = some (.ptr (some (b1, 4))) ∧ T.get 1 = some (i64 (a1_1 + (1 : Int))) ∧ T.get 2 = some (i64 a1_0) ∧ T.get 3 = some (i64 ((-a1_2) - (1 : Int))) ∧ T.get 22 = some (i64 a0_4) ∧ T.get 23 = some (i64 x466.1)) (fun y e a σ => e = .exit 0 ∧ a.nt = 83 ∧ ∃ (F529 : PH), a.defers = [] ∧ PH.le F134 F529 ∧ St n0 h0 F0 F529 σ.h σ.nx [.bx b1 ([(i64 a0_0), (i64 a0_1), (i64 a0_2), (i64 a0_3), (i64 a0_4)] ++ (eI .i64 169 y)), .bx b4 [(i64 a1_0), (i64 a1_1), (i64 a1_2), (i64 a1_3)], .bx b7 ([(i64 0), (i64 0), (i64 0), (i64 0), (i64 0)] ++ (eI .i64 169 (fun _ => 0)))]) (fun x466 T ds467 h nx s hp hF => ?_) N _ y528 _ _ _ _ hy ⟨F134, rfl, (PH.le.refl _), st, gA, gA, gA, gA, gA, gA⟩ (fun e a σ hne hq => ?_)
       ·obtain ⟨F467, rfl, le467, st, t0, t1, t2, t3, t22, t23⟩ := hp
        unfold sf154_L4 at hF; unfold L170w1; refine zg (zh ?_); refine ye ?_; refine zf (th_n ?_); refine zg ?_; refine zA (fun hb530 => ?_) (fun hb530 => ?_)
        ·have hF := zw hb530 hF; refine zB (th_n ?_); refine zg ?_; refine zE ?_; refine zg (zh ?_); refine za ?_; refine za ?_; refine zf (th_n ?_); refine zg (zh ?_); refine za ?_; refine za ?_; refine za ?_; refine v_nc ?_; refine v_fa ?_; obtain ⟨q531, hF⟩ := zi hF
         refine zU (j := (Int.toNat x466.1)) (Int.toNat_of_nonneg q531.1).symm (by omega) ?_
         obtain ⟨q532, hF⟩ := zi hF
         refine zU (j := (Int.toNat (a1_1 + (1 : Int)))) (Int.toNat_of_nonneg q532.1).symm (by omega) ?_
         refine zq (o := ((5 + (Int.toNat x466.1) * 13) + (Int.toNat (a1_1 + (1 : Int))) * 1)) (st.at (i := 0) rfl).2.2 (yv (p := 5) (ix := (((Int.toNat x466.1) * 13) + (Int.toNat (a1_1 + (1 : Int))))) [(i64 a0_0), (i64 a0_1), (i64 a0_2), (i64 a0_3), (i64 a0_4)] rfl (by omega) (by omega)) ?_
         refine za ?_; obtain ⟨q533, hF⟩ := zi hF; refine zQ q533 ?_; refine za ?_; refine zf (th_n ?_); refine zg ?_; refine zg (zh ?_); refine za ?_; refine za ?_; refine za ?_; refine za ?_; refine v_nc ?_; refine v_fa ?_; obtain ⟨q534, hF⟩ := zi hF
         refine zU (j := (Int.toNat x466.1)) (Int.toNat_of_nonneg q534.1).symm (by omega) ?_
         obtain ⟨q535, hF⟩ := zi hF
         refine zU (j := (Int.toNat a1_0)) (Int.toNat_of_nonneg q535.1).symm (by omega) ?_
         refine zq (o := ((5 + (Int.toNat x466.1) * 13) + (Int.toNat a1_0) * 1)) (st.at (i := 0) rfl).2.2 (yv (p := 5) (ix := (((Int.toNat x466.1) * 13) + (Int.toNat a1_0))) [(i64 a0_0), (i64 a0_1), (i64 a0_2), (i64 a0_3), (i64 a0_4)] rfl (by omega) (by omega)) ?_
         refine uo ?_; refine zf (th_n ?_); refine zA (fun hb536 => ?_) (fun hb536 => ?_)
         ·have hF := zw hb536 hF; refine z8 ?_; refine th_e ?_; refine ib_e ?_; refine th_n ?_; refine zh ?_; obtain ⟨q537, hF⟩ := zi hF; refine zQ q537 ?_; refine za ?_; refine zf ?_; refine thn ⟨_, (inj hF).symm, rfl, ?_⟩; dsimp only
          exact ⟨F467, rfl, le467, st, gA, gA, gA, gA, gA, gA⟩
         ·have hF := zx hb536 hF; refine zB (th_n ?_); refine zg (zh ?_); refine za ?_; refine v_nc ?_; refine v_fa ?_; refine zq (st.at (i := 0) rfl).2.2 rfl ?_; refine za ?_; refine zf (th_n ?_); refine zE ?_; obtain ⟨y570, hy, hF⟩ := zm hF; refine zW (sf154_L3 a0_4 a1_0 a1_1 a1_2 x466) (fun x554 T ds555 h nx => ∃ (F555 : PH), ds555 = [] ∧ PH.le F467 F555 ∧ St n0 h0 F0 F555 h nx [.bx b1 ([(i64 a0_0), (i64 a0_1), (i64 a0_2), (i64 a0_3), (i64 a0_4)] ++ (eI .i64 169 x554.2)), .bx b4 [(i64 a1_0), (i64 a1_1), (i64 a1_2), (i64 a1_3)], .bx b7 ([(i64 0), (i64 0), (i64 0), (i64 0), (i64 0)] ++ (eI .i64 169 (fun _ => 0)))] ∧ T.get 0 = some (.ptr (some (b1, 4))) ∧ T.get 1 = some (i64 (a1_1 + (1 : Int))) ∧ T.get 2 = some (i64 a1_0) ∧ T.get 3 = some (i64 ((-a1_2) - (1 : Int))) ∧ T.get 9 = some (i64 x466.1) ∧ T.get 10 = some (i64 ((x466.2 (((Int.toNat x466.1) * 13) + (Int.toNat (a1_1 + (1 : Int))))) + ((-a1_2) - (1 : Int)))) ∧ T.get 22 = some (i64 a0_4) ∧ T.get 23 = some (i64 x466.1) ∧ T.get 49 = some (i64 a0_4) ∧ T.get 50 = some (i64 x554.1)) (fun y e a σ => e = .exit 2 ∧ a.nt = 83 ∧ ∃ (F571 : PH), a.defers = [] ∧ PH.le F467 F571 ∧ St n0 h0 F0 F571 σ.h σ.nx [.bx b1 ([(i64 a0_0), (i64 a0_1), (i64 a0_2), (i64 a0_3), (i64 a0_4)] ++ (eI .i64 169 y)), .bx b4 [(i64 a1_0), (i64 a1_1), (i64 a1_2), (i64 a1_3)], .bx b7 ([(i64 0), (i64 0), (i64 0), (i64 0), (i64 0)] ++ (eI .i64 169 (fun _ => 0)))] ∧ a.tmps.get 0 = some (.ptr (some (b1, 4))) ∧ a.tmps.get 1 = some (i64 (a1_1 + (1 : Int))) ∧ a.tmps.get 2 = some (i64 a1_0) ∧ a.tmps.get 3 = some (i64 ((-a1_2) - (1 : Int))) ∧ a.tmps.get 22 = some (i64 a0_4) ∧ a.tmps.get 23 = some (i64 x466.1)) (fun x554 T ds555 h nx s hp hF => ?_) N _ y570 _ _ _ _ hy ⟨F467, rfl, (PH.le.refl _), st, gA, gA, gA, gA, gA, gA, gA, gA, gA, gA⟩ (fun e a σ hne hq => ?_)
          ·obtain ⟨F555, rfl, le555, st, t0, t1, t2, t3, t9, t10, t22, t23, t49, t50⟩ := hp
           unfold sf154_L3 at hF; unfold L170w0; refine zg (zh ?_); refine ye ?_; refine zf (th_n ?_); refine zg ?_; refine zA (fun hb572 => ?_) (fun hb572 => ?_)
           ·have hF := zw hb572 hF; refine zB (th_n ?_); refine zg ?_; refine zE ?_; refine zg (zh ?_); refine za ?_; refine za ?_; refine zf (th_n ?_); refine zg (zh ?_); refine za ?_; refine za ?_; refine za ?_; refine za ?_; refine v_nc ?_; refine v_fa ?_; obtain ⟨q573, hF⟩ := zi hF
            refine zU (j := (Int.toNat a1_0)) (Int.toNat_of_nonneg q573.1).symm (by omega) ?_
            obtain ⟨q574, hF⟩ := zi hF
            refine zU (j := (Int.toNat x554.1)) (Int.toNat_of_nonneg q574.1).symm (by omega) ?_
            refine zq (o := ((5 + (Int.toNat a1_0) * 13) + (Int.toNat x554.1) * 1)) (st.at (i := 0) rfl).2.2 (yv (p := 5) (ix := (((Int.toNat a1_0) * 13) + (Int.toNat x554.1))) [(i64 a0_0), (i64 a0_1), (i64 a0_2), (i64 a0_3), (i64 a0_4)] rfl (by omega) (by omega)) ?_
            obtain ⟨q575, hF⟩ := zi hF; refine zQ q575 ?_; refine za ?_; refine zf (th_n ?_); refine zg (zh ?_); refine za ?_; refine za ?_; refine za ?_; refine za ?_; refine v_nc ?_; refine v_fa ?_; obtain ⟨q576, hF⟩ := zi hF
            refine zU (j := (Int.toNat x466.1)) (Int.toNat_of_nonneg q576.1).symm (by omega) ?_
            obtain ⟨q577, hF⟩ := zi hF
            refine zU (j := (Int.toNat x554.1)) (Int.toNat_of_nonneg q577.1).symm (by omega) ?_
            refine zq (o := ((5 + (Int.toNat x466.1) * 13) + (Int.toNat x554.1) * 1)) (st.at (i := 0) rfl).2.2 (yv (p := 5) (ix := (((Int.toNat x466.1) * 13) + (Int.toNat x554.1))) [(i64 a0_0), (i64 a0_1), (i64 a0_2), (i64 a0_3), (i64 a0_4)] rfl (by omega) (by omega)) ?_
            refine ye ?_; refine zf (th_n ?_); refine zA (fun hb578 => ?_) (fun hb578 => ?_)
            ·have hF := zw hb578 hF; refine zh ?_; refine za ?_; refine za ?_; refine za ?_; refine za ?_; refine v_nc ?_; refine v_fa ?_; obtain ⟨q579, hF⟩ := zi hF
             refine zU (j := (Int.toNat x466.1)) (Int.toNat_of_nonneg q579.1).symm (by omega) ?_
             obtain ⟨q580, hF⟩ := zi hF
             refine zU (j := (Int.toNat x554.1)) (Int.toNat_of_nonneg q580.1).symm (by omega) ?_
             refine v_st (o := ((5 + (Int.toNat x466.1) * 13) + (Int.toNat x554.1) * 1)) (v := (i64 (((x466.2 (((Int.toNat x466.1) * 13) + (Int.toNat (a1_1 + (1 : Int))))) + ((-a1_2) - (1 : Int))) + (x554.2 (((Int.toNat a1_0) * 13) + (Int.toNat x554.1)))))) (cs' := ([(i64 a0_0), (i64 a0_1), (i64 a0_2), (i64 a0_3), (i64 a0_4)] ++ (eI .i64 169 (ups x554.2 (((Int.toNat x466.1) * 13) + (Int.toNat x554.1)) (((x466.2 (((Int.toNat x466.1) * 13) + (Int.toNat (a1_1 + (1 : Int))))) + ((-a1_2) - (1 : Int))) + (x554.2 (((Int.toNat a1_0) * 13) + (Int.toNat x554.1)))))))) st 0 rfl (uD (p := 5) (ix := (((Int.toNat x466.1) * 13) + (Int.toNat x554.1))) [(i64 a0_0), (i64 a0_1), (i64 a0_2), (i64 a0_3), (i64 a0_4)] rfl (by omega) (by omega)) rfl rfl hfl (fun h581 st => ?_)
             refine zf ?_; refine ib_n ?_; refine th_n ?_; refine zh ?_; obtain ⟨q582, hF⟩ := zi hF; refine zQ q582 ?_; refine za ?_; refine zf ?_; refine thn ⟨_, (inj hF).symm, rfl, ?_⟩; dsimp only
             exact ⟨F555, rfl, le555, st, gA, gA, gA, gA, gA, gA, gA, gA, gA, gA⟩
            ·have hF := zx hb578 hF; refine zB ?_; refine ib_n ?_; refine th_n ?_; refine zh ?_; obtain ⟨q583, hF⟩ := zi hF; refine zQ q583 ?_; refine za ?_; refine zf ?_; refine thn ⟨_, (inj hF).symm, rfl, ?_⟩; dsimp only
             exact ⟨F555, rfl, le555, st, gA, gA, gA, gA, gA, gA, gA, gA, gA, gA⟩
           ·have hF := zx hb572 hF; refine z8 ?_; refine th_e ?_; refine th_e ?_; refine ⟨_, (inj hF).symm, rfl, rfl, ?_⟩; dsimp only
            exact ⟨F555, rfl, le555, st, gA, gA, gA, gA, gA, gA⟩
          ·obtain ⟨N9, T, ds571⟩ := a; obtain ⟨h586, n587⟩ := σ; obtain ⟨rfl, e1, F571, e2, le571, st, t0, t1, t2, t3, t22, t23⟩ := hq
           dsimp only at e1 e2
           subst e1
           subst e2
           dsimp only at st t0 t1 t2 t3 t22 t23
           have le585 := PH.le.trans le467 le571
           refine ib_e ?_; refine ib_n ?_; refine th_n ?_; refine zh ?_; obtain ⟨q588, hF⟩ := zi hF; refine zQ q588 ?_; refine za ?_; refine zf ?_; refine thn ⟨_, (inj hF).symm, rfl, ?_⟩; dsimp only
           exact ⟨F571, rfl, le585, st, gA, gA, gA, gA, gA, gA⟩
        ·have hF := zx hb530 hF; refine z8 ?_; refine th_e ?_; refine th_e ?_; refine ⟨_, (inj hF).symm, rfl, rfl, ?_⟩; dsimp only
         exact ⟨F467, rfl, le467, st⟩
       ·obtain ⟨N9, T, ds529⟩ := a; obtain ⟨h590, n591⟩ := σ; obtain ⟨rfl, e1, F529, e2, le529, st⟩ := hq
        dsimp only at e1 e2
        subst e1
        subst e2
        dsimp only at st
        refine ib_e ?_; refine th_n ?_; refine zg (zh ?_); refine za ?_; refine zf (th_n ?_); refine zt ?_; refine yT (v := (.bool true)) (Res.t gA Res.nil) rfl (.inl rfl) (ik ?_); refine zj hb395 (yg ?_); refine zK hb395 ?_; refine zf ?_; obtain rfl := inj hF; refine thn ⟨rfl, ?_⟩; dsimp only
        exact ⟨F529, rfl, le529, st, gA, gA, gA⟩
     ·have hF := zx hb395 hF; refine ze hb395 ?_; refine ze hb395 ?_; refine ze hb395 ?_; refine ze hb395 ?_; refine ze hb395 ?_; refine ze hb395 ?_; refine ze hb395 ?_; refine ze hb395 ?_; refine ze hb395 ?_; refine ze hb395 ?_; refine ze hb395 ?_; refine ze hb395 ?_; refine ze hb395 ?_; refine zD hb395 ?_; refine zf ?_; obtain rfl := inj hF; refine thn ⟨rfl, ?_⟩; dsimp only
      exact ⟨F134, rfl, (PH.le.refl _), st, gA, gA, gA⟩
    ·obtain ⟨F394, rfl, le394, st, t2, t4, t37⟩ := hp
     refine zA (fun hb593 => ?_) (fun hb593 => ?_)
     ·have hF := zw hb593 hF; refine zg (zh ?_); refine zO (cs := ([(i64 0), (i64 0), (i64 0), (i64 0), (i64 0)] ++ (eI .i64 169 (fun _ => 0)))) rfl ?_
      refine v_st (v := (.agg ([(i64 0), (i64 0), (i64 0), (i64 0), (i64 0)] ++ (eI .i64 169 (fun _ => 0))))) (cs' := ([(i64 0), (i64 0), (i64 0), (i64 0), (i64 0)] ++ (eI .i64 169 (fun _ => 0)))) st 2 rfl (yb [] rfl (by simp [HV.cells, zC, yk])) (z2 _ zC (by rfl)) (zZ _ (by rfl) yj) hfl (fun h594 st => ?_)
      refine za ?_; refine zf (th_n ?_); refine zt ?_; refine th_r ?_; obtain rfl := inj hF
      exact zy st (Res.c gA (st.at (i := 2) rfl).2.2 (show takeN _ _ = some ([(i64 0), (i64 0), (i64 0), (i64 0), (i64 0)] ++ (eI .i64 169 (fun _ => 0))) from (zX (E := (eI .i64 169 (fun _ => 0))) [] [(i64 0), (i64 0), (i64 0), (i64 0), (i64 0)] rfl zC rfl)) (Res.t gA Res.nil)) rfl rfl
     ·have hF := zx hb593 hF; refine zB (th_n ?_); refine zg (zh ?_); refine zH (vs := ([(i64 a0_0), (i64 a0_1), (i64 a0_2), (i64 a0_3), (i64 a0_4)] ++ (eI .i64 169 y391.2))) (st.at (i := 0) rfl).2.2 (zX (E := (eI .i64 169 y391.2)) [] [(i64 a0_0), (i64 a0_1), (i64 a0_2), (i64 a0_3), (i64 a0_4)] rfl zC rfl) ?_
      refine v_st (v := (.agg ([(i64 a0_0), (i64 a0_1), (i64 a0_2), (i64 a0_3), (i64 a0_4)] ++ (eI .i64 169 y391.2)))) (cs' := ([(i64 a0_0), (i64 a0_1), (i64 a0_2), (i64 a0_3), (i64 a0_4)] ++ (eI .i64 169 y391.2))) st 2 rfl (yb [] rfl (by simp [HV.cells, zC, yk])) (z2 _ zC (by rfl)) (zZ _ (by rfl) yj) hfl (fun h595 st => ?_)
      refine za ?_; refine zf (th_n ?_); refine zt ?_; obtain rfl := inj hF
      exact zy st (Res.c gA (st.at (i := 2) rfl).2.2 (show takeN _ _ = some ([(i64 a0_0), (i64 a0_1), (i64 a0_2), (i64 a0_3), (i64 a0_4)] ++ (eI .i64 169 y391.2)) from (zX (E := (eI .i64 169 y391.2)) [] [(i64 a0_0), (i64 a0_1), (i64 a0_2), (i64 a0_3), (i64 a0_4)] rfl zC rfl)) (Res.t gA Res.nil)) rfl rfl
end Go.Hx.V

namespace Go.Hx.V
open Go.Hx
set_option maxRecDepth 20000
set_option maxHeartbeats 4000000
variable {fl : Nat} {h0 : Tr HBlk} {n0 : Nat} {F0 : PH}
attribute [local irreducible] W R C thenH inBlockH Tr.get Tr.set lo ck bnd ix iter
theorem ct108 (N : Nat) {a0_0 a0_1 a0_2 a0_3 a0_4 : Int} {a0_5 : (Nat → Int)} {r : (List (Int × Int))} (hF : sf108 N a0_0 a0_1 a0_2 a0_3 a0_4 a0_5 = some r) (hd : D h0 n0) (hs : F0.sub h0) (hfl : fl ≤ n0) : C LW fl 108 [(.agg ([(i64 a0_0), (i64 a0_1), (i64 a0_2), (i64 a0_3), (i64 a0_4)] ++ (eI .i64 169 a0_5)))] ⟨h0, n0⟩ (KR (lvL (rP rI rI) 2) F0 h0 n0 r) := by
 unfold sf108 at hF
 refine vB hd hs hfl lw108 rfl rfl (by rfl) (fun st T hT => ?_)
 have t0 := hT 0 _ rfl
 dsimp only [L108]
 refine zg (zh ?_); refine zS st (fun b1 h2 n3 st => ?_); refine za ?_; refine zf (th_n ?_); refine zg (zh ?_); obtain ⟨v4, e5, hF⟩ := zm hF; refine zF st (ct96 N e5 st.d st.sub ) (fun n6 st => ?_); refine zJ st (fun b7 h8 n9 st => ?_); refine v_st (cs' := [(.via 215 "Lowest" 136), (.via 215 "Highest" 137)]) st 1 rfl rfl rfl rfl hfl (fun h10 st => ?_); refine zf (th_n ?_); refine zg (zh ?_); refine v_fa ?_; refine v_fa ?_; refine zq (st.at (i := 0) rfl).2.2 rfl ?_; obtain ⟨q11, hF⟩ := zi hF; refine zQ q11 ?_; obtain ⟨q12, hF⟩ := zi hF
 have w12 : LR (rP rI rI) 2 F0 (List.replicate (Int.toNat (0 : Int)) (0, 0)) (Go.Hx.repl (Int.toNat (0 : Int)) [(i64 0), (i64 0)]) := LR.repl (⟨[(i64 0)], _, rfl, rfl, rfl⟩) _
 refine v_mk st (n := (List.replicate (Int.toNat (0 : Int)) (0, 0)).length) q12.1 q12.2.1 (by simp) q12.2.2.1 q12.2.2.2 (fun o12 h12 n12 st => ?_)
 refine za ?_; refine zf (th_n ?_); refine zg ?_; refine zg (zh ?_); refine za ?_; refine zf (th_n ?_); refine zE ?_; obtain ⟨y45, hy, hF⟩ := zm hF; refine zW (sf108_L1 N a0_0 a0_1 a0_2 a0_3 a0_4 a0_5) (fun x29 T ds30 h nx => ∃ (F30 : PH) (o31 : Option Nat) (c31 : Nat) (cs31 : List HV), ds30 = [] ∧ PH.le F0 F30 ∧ St n0 h0 F0 F30 h nx [.bx b1 ([(i64 a0_0), (i64 a0_1), (i64 a0_2), (i64 a0_3), (i64 a0_4)] ++ (eI .i64 169 a0_5)), .bx b7 [(.via 215 "Lowest" 136), (.via 215 "Highest" 137)], .ls o31 c31 cs31 2] ∧ LR (rP rI rI) 2 F30 x29.1 cs31 ∧ T.get 1 = some (.ptr (some (b1, 0))) ∧ T.get 3 = some (.ptr (some (b7, 0))) ∧ T.get 4 = some (slv o31 (x29.1).length c31) ∧ T.get 5 = some (i64 x29.2)) (fun y e a σ => e = .exit 0 ∧ a.nt = 32 ∧ ∃ (F46 : PH) (o47 : Option Nat) (c47 : Nat) (cs47 : List HV), a.defers = [] ∧ PH.le F0 F46 ∧ St n0 h0 F0 F46 σ.h σ.nx [.bx b1 ([(i64 a0_0), (i64 a0_1), (i64 a0_2), (i64 a0_3), (i64 a0_4)] ++ (eI .i64 169 a0_5)), .bx b7 [(.via 215 "Lowest" 136), (.via 215 "Highest" 137)], .ls o47 c47 cs47 2] ∧ LR (rP rI rI) 2 F46 y cs47 ∧ a.tmps.get 4 = some (slv o47 (y).length c47)) (fun x29 T ds30 h nx s hp hF => ?_) N _ y45 _ _ _ _ hy ⟨F0, o12, (Int.toNat (a0_0 + (1 : Int))), (Go.Hx.repl (Int.toNat (0 : Int)) [(i64 0), (i64 0)]), rfl, (PH.le.refl _), st, w12, gA, gA, gA, gA⟩ (fun e a σ hne hq => ?_)
 ·obtain ⟨F30, o31, c31, cs31, rfl, le30, st, w31, t1, t3, t4, t5⟩ := hp; unfold sf108_L1 at hF; unfold L108w0; refine zg ?_; refine zg (zh ?_); refine za ?_; refine v_fa ?_; refine v_fa ?_; refine zq (st.at (i := 0) rfl).2.2 rfl ?_; refine yw ?_; refine zf (th_n ?_); refine zA (fun hb48 => ?_) (fun hb48 => ?_)
  ·have hF := zw hb48 hF; refine zB (th_n ?_); refine zg ?_; refine zE ?_; refine z9 (Nat.le_trans hfl st.ext.le) (fun dw => ?_)
   have wf := Wf.start st
   refine zd st.d dw (fun hm vw => za zb) ?_; refine zd st.d dw (fun hm vw => v_fa zb) ?_; refine zd st.d dw (fun hm vw => zq (vw.bx (st.at (i := 1) rfl)) rfl zb) ?_; refine zd st.d dw (fun hm vw => za zb) ?_; obtain ⟨v49, e50, hF⟩ := zm hF
   refine yl st.d dw (fun hm vw => u_callV (off := 4) (by kernel_rfl) (ct136 N e50 vw.d (all_sub _)  (vw.bx (st.at (i := 0) rfl))) (fun n' hn' => ym hn')) (fun n51 hn' dw => ?_)
   refine zd st.d dw (fun hm vw => v_fa zb) ?_; refine zd st.d dw (fun hm vw => zq (vw.bx (st.at (i := 1) rfl)) rfl zb) ?_; refine yd st.d dw rfl (fun h52 ex vs => ?_)
   have st := st.ext1 ex
   refine za ?_; obtain ⟨v53, e54, hF⟩ := zm hF
   refine v_callV (off := 4) (by kernel_rfl) st (ct137 N e54 st.d (all_sub _)  (st.at (i := 0) rfl).2.2) (fun n55 st => ?_)
   refine zO (cs := [(i64 v49), (i64 v53)]) rfl ?_; refine v_bs (cs := [(i64 v49), (i64 v53)]) st rfl (fun b56 h57 n58 st => ?_); obtain ⟨q59, hF⟩ := zi hF
   have w59 : LR (rP rI rI) 2 F30 (x29.1 ++ [(v49, v53)]) (cs31 ++ [(i64 v49), (i64 v53)]) := LR.app w31 (LR.one (⟨[(i64 v49)], _, rfl, rfl, rfl⟩))
   refine jC (n := 1) (ox := 0) (m := (x29.1 ++ [(v49, v53)]).length) (row := [(i64 v49), (i64 v53)]) st 2 rfl w31.1 (st.at (i := 3) rfl).2.2 rfl rfl q59 hfl (by decide) (by decide) (by simp) (fun o59 c59 h59 n59 st => ?_)
   refine za ?_; refine zf ?_; refine ib_n ?_; refine th_n ?_; refine zh ?_; refine za ?_; obtain ⟨q60, hF⟩ := zi hF; refine zQ q60 ?_; refine za ?_; refine zf ?_; refine thn ⟨_, (inj hF).symm, rfl, ?_⟩; dsimp only
   exact ⟨F30, o59, c59, (cs31 ++ [(i64 v49), (i64 v53)]), rfl, le30, (st.drop (by first | exact List.Sublist.refl _ | (repeat first | exact List.nil_sublist _ | refine List.Sublist.cons_cons _ ?_ | refine List.Sublist.cons _ ?_))), w59, gA, gA, gA, gA⟩
  ·have hF := zx hb48 hF; refine z8 ?_; refine th_e ?_; refine th_e ?_; refine ⟨_, (inj hF).symm, rfl, rfl, ?_⟩; dsimp only
   exact ⟨F30, o31, c31, cs31, rfl, le30, st, w31, gA⟩
 ·obtain ⟨N9, T, ds46⟩ := a; obtain ⟨h61, n62⟩ := σ; obtain ⟨rfl, e1, F46, o47, c47, cs47, e2, le46, st, w47, t4⟩ := hq
  dsimp only at e1 e2
  subst e1
  subst e2
  dsimp only at st t4
  refine ib_e ?_; refine th_n ?_; refine zg (zh ?_); refine za ?_; refine za ?_; refine zf (th_n ?_); refine zt ?_; obtain rfl := inj hF
  obtain ⟨F63, le63, st, rf63⟩ := St.freeze st 2 rfl w47 (by decide)
  exact yO st (Res.t gA Res.nil) ⟨_, _, rfl, rf63⟩
theorem ct156 (N : Nat) {a0_0 a0_1 : Int} {r : Bool} (hF : sf156 N a0_0 a0_1 = some r) (hd : D h0 n0) (hs : F0.sub h0) : C LW fl 156 [(.agg [(i64 a0_0), (i64 a0_1)])] ⟨h0, n0⟩ (KS (.bool r) n0 h0) := by
 unfold sf156 at hF
 refine zT hd hs lw156 rfl rfl (by rfl) (fun st T hT => ?_)
 have hfl : n0 ≤ n0 := Nat.le_refl n0
 have t0 := hT 0 _ rfl
 dsimp only [L156]
 refine zg (zh ?_); refine zS st (fun b1 h2 n3 st => ?_); refine za ?_; refine zf (th_n ?_); refine zg (zh ?_); refine zO (cs := [(i64 1), (i64 2000)]) rfl ?_; refine zO (cs := [(i64 1), (i64 2000)]) rfl ?_; refine zJ st (fun b4 h5 n6 st => ?_); refine zJ st (fun b7 h8 n9 st => ?_); refine v_st (cs' := [(i64 1), (i64 2000)]) st 1 rfl rfl rfl rfl hfl (fun h10 st => ?_); refine v_st (cs' := [(i64 1), (i64 2000)]) st 2 rfl rfl rfl rfl hfl (fun h11 st => ?_); refine zf (th_n ?_); refine zg (zh ?_); refine zH (vs := [(i64 1), (i64 2000)]) (st.at (i := 1) rfl).2.2 rfl ?_
 refine v_fa ?_; refine zq (st.at (i := 0) rfl).2.2 rfl ?_; obtain ⟨v12, e13, hF⟩ := zm hF; refine zF st (ct144 N e13 st.d st.sub ) (fun n14 st => ?_); refine za ?_
 rcases Bool.eq_false_or_eq_true v12 with hb15 | hb15
 ·have hF := zw hb15 hF; refine zj hb15 (zH (vs := [(i64 1), (i64 2000)]) (st.at (i := 2) rfl).2.2 rfl ?_); refine zj hb15 (v_fa ?_); refine zj hb15 (zq (st.at (i := 0) rfl).2.2 rfl ?_); obtain ⟨v16, e17, hF⟩ := zm hF; refine zj hb15 (zF st (ct144 N e17 st.d st.sub ) (fun n18 st => ?_)); refine zK hb15 ?_; refine za ?_; refine zf (th_n ?_); refine zt ?_; obtain rfl := inj hF
  exact zy st (Res.t gA Res.nil) rfl rfl
 ·have hF := zx hb15 hF; refine ze hb15 ?_; refine ze hb15 ?_; refine ze hb15 ?_; refine ze hb15 ?_; refine zD hb15 ?_; refine za ?_; refine zf (th_n ?_); refine zt ?_; obtain rfl := inj hF
  exact zy st (Res.t gA Res.nil) rfl rfl
theorem ct157 (N : Nat) {a0 : (List (Int × Int))} {r : Bool} (hF : sf157 N a0 = some r) (hd : D h0 n0) (hs : F0.sub h0) {pa0 : Option (Nat × Nat)} {ca0 : Nat} (ra0 : RowF (rP rI rI) 2 F0 pa0 ca0 a0) : C LW fl 157 [(.slice pa0 (a0).length ca0), (.func 158 [] [])] ⟨h0, n0⟩ (KS (.bool r) n0 h0) := by
 unfold sf157 at hF
 refine zT hd hs lw157 rfl rfl (by rfl) (fun st T hT => ?_)
 have hfl : n0 ≤ n0 := Nat.le_refl n0
 have t0 := hT 0 _ rfl
 have t1 := hT 1 _ rfl
 dsimp only [L157]
 refine zg (zh ?_); refine za ?_; refine zf (th_n ?_); refine zg ?_; refine zg (zh ?_); refine za ?_; refine zf (th_n ?_); refine zE ?_; obtain ⟨y13, hy, hF⟩ := zm hF; refine zW (sf157_L1 N a0) (fun x1 T ds2 h nx => ∃ (F2 : PH), ds2 = [] ∧ PH.le F0 F2 ∧ St n0 h0 F0 F2 h nx [] ∧ T.get 0 = some (.slice pa0 (a0).length ca0) ∧ T.get 1 = some (.func 158 [] []) ∧ T.get 5 = some (i64 x1)) (fun y e a σ => (∃ u, y = (.inl u) ∧ e = .ret ∧ a.nt = 24 ∧ ∃ (F15 : PH), a.defers = [] ∧ PH.le F0 F15 ∧ St n0 h0 F0 F15 σ.h σ.nx [] ∧ a.tmps.get 4 = some (.bool false)) ∨ (∃ u, y = (.inr u) ∧ e = .exit 0 ∧ a.nt = 24 ∧ ∃ (F17 : PH), a.defers = [] ∧ PH.le F0 F17 ∧ St n0 h0 F0 F17 σ.h σ.nx [])) (fun x1 T ds2 h nx s hp hF => ?_) N _ y13 _ _ _ _ hy ⟨F0, rfl, (PH.le.refl _), st, gA, gA, gA⟩ (fun e a σ hne hq => ?_)
 ·obtain ⟨F2, rfl, le2, st, t0, t1, t5⟩ := hp; unfold sf157_L1 at hF; unfold L157w0; refine zg ?_; refine zg (zh ?_); refine za ?_; refine za ?_; refine yA ?_; refine ye ?_; refine zf (th_n ?_); refine zA (fun hb18 => ?_) (fun hb18 => ?_)
  ·have hF := zw hb18 hF; refine zB (th_n ?_); refine zg ?_; refine zE ?_; refine zg ?_; refine z9 (Nat.le_trans hfl st.ext.le) (fun dw => ?_); refine zd st.d dw (fun hm vw => za zb) ?_; refine zd st.d dw (fun hm vw => za zb) ?_; refine zd st.d dw (fun hm vw => za zb) ?_; obtain ⟨q19, hF⟩ := zi hF; refine zd st.d dw (fun hm vw => yn q19 zb) ?_; obtain ⟨n20, x20, z20, l20, g20, hF⟩ := z7 hF; obtain ⟨b20, o20, s20, j20, r20, e20, f20, k20, ⟨_, _, rfl, rfl, rfl⟩⟩ := RowF.get ra0 g20; refine zd st.d dw (fun hm vw => yt e20 z20 l20 zb) ?_; refine zd st.d dw (fun hm vw => zH (vw.fz st (le2 _ _ f20)) k20 zb) ?_
   refine zd st.d dw (fun hm vw => za zb) ?_; refine zd st.d dw (fun hm vw => za zb) ?_; obtain ⟨n21, x21, z21, l21, g21, hF⟩ := z7 hF; obtain ⟨b21, o21, s21, j21, r21, e21, f21, k21, ⟨_, _, rfl, rfl, rfl⟩⟩ := RowF.get ra0 g21; refine zd st.d dw (fun hm vw => yt e21 z21 l21 zb) ?_; refine zd st.d dw (fun hm vw => zH (vw.fz st (le2 _ _ f21)) k21 zb) ?_; refine yd st.d dw rfl (fun h22 ex vs => ?_)
   have st := st.ext1 ex
   obtain ⟨v23, e24, hF⟩ := zm hF; refine zF st (ct158 N e24 st.d st.sub ) (fun n25 st => ?_); refine yg ?_; refine zf (th_n ?_); refine zA (fun hb26 => ?_) (fun hb26 => ?_)
   ·have hF := zw hb26 hF; refine zg (zh ?_); refine za ?_; refine zf (th_n ?_); refine zt ?_; refine ib_r ?_; refine th_r ?_; refine th_r ?_; refine ⟨_, (inj hF).symm, .inl ⟨_, rfl, rfl, rfl, ?_⟩⟩; dsimp only
    exact ⟨F2, rfl, le2, st, gA⟩
   ·have hF := zx hb26 hF; refine zB ?_; refine ib_n ?_; refine th_n ?_; refine zh ?_; refine za ?_; obtain ⟨q27, hF⟩ := zi hF; refine zQ q27 ?_; refine za ?_; refine zf ?_; refine thn ⟨_, (inj hF).symm, rfl, ?_⟩; dsimp only
    exact ⟨F2, rfl, le2, st, gA, gA, gA⟩
  ·have hF := zx hb18 hF; refine z8 ?_; refine th_e ?_; refine th_e ?_; refine ⟨_, (inj hF).symm, .inr (⟨_, rfl, rfl, rfl, ?_⟩)⟩; dsimp only
   exact ⟨F2, rfl, le2, st⟩
 ·rcases hq with hq | hq
  ·obtain ⟨N9, T, ds15⟩ := a; obtain ⟨h28, n29⟩ := σ; obtain ⟨w14, rfl, rfl, e1, F15, e2, le15, st, t4⟩ := hq
   dsimp only at e1 e2
   subst e1
   subst e2
   dsimp only at st t4
   have hF := va hF; refine ib_r ?_; refine th_r ?_; obtain rfl := inj hF
   exact zy st (Res.t gA Res.nil) rfl rfl
  ·obtain ⟨N9, T, ds17⟩ := a; obtain ⟨h30, n31⟩ := σ; obtain ⟨w16, rfl, rfl, e1, F17, e2, le17, st⟩ := hq
   dsimp only at e1 e2
   subst e1
   subst e2
   dsimp only at st
   have hF := y9 hF; refine ib_e ?_; refine th_n ?_; refine zg (zh ?_); refine za ?_; refine zf (th_n ?_); refine zt ?_; obtain rfl := inj hF
   exact zy st (Res.t gA Res.nil) rfl rfl
theorem ct139 (N : Nat) {a0_0 a0_1 a1_0 a1_1 : Int} {r : Bool} (hF : sf139 N a0_0 a0_1 a1_0 a1_1 = some r) (hd : D h0 n0) (hs : F0.sub h0) : C LW fl 139 [(.agg [(i64 a0_0), (i64 a0_1)]), (.agg [(i64 a1_0), (i64 a1_1)])] ⟨h0, n0⟩ (KS (.bool r) n0 h0) := by
 unfold sf139 at hF
 refine zT hd hs lw139 rfl rfl (by rfl) (fun st T hT => ?_)
 have hfl : n0 ≤ n0 := Nat.le_refl n0
 have t0 := hT 0 _ rfl
 have t1 := hT 1 _ rfl
 dsimp only [L139]
 refine zg (zh ?_); refine zS st (fun b1 h2 n3 st => ?_); refine zS st (fun b4 h5 n6 st => ?_); refine za ?_; refine zf (th_n ?_); refine zg (zh ?_); refine v_fa ?_; refine zq (st.at (i := 0) rfl).2.2 rfl ?_; refine v_fa ?_; refine zq (st.at (i := 0) rfl).2.2 rfl ?_; refine yw ?_; refine za ?_
 rcases Bool.eq_false_or_eq_true (decide (a0_0 ≤ a0_1)) with hb7 | hb7
 ·have hF := zw hb7 hF; refine zj hb7 (zH (vs := [(i64 a1_0), (i64 a1_1)]) (st.at (i := 1) rfl).2.2 rfl ?_); refine zj hb7 (v_fa ?_); refine zj hb7 (zq (st.at (i := 0) rfl).2.2 rfl ?_); obtain ⟨v8, e9, hF⟩ := zm hF; refine zj hb7 (zF st (ct144 N e9 st.d st.sub ) (fun n10 st => ?_)); refine zK hb7 ?_; refine za ?_
  rcases Bool.eq_false_or_eq_true v8 with hb11 | hb11
  ·have hF := zw hb11 hF; refine zj hb11 (zH (vs := [(i64 a1_0), (i64 a1_1)]) (st.at (i := 1) rfl).2.2 rfl ?_); refine zj hb11 (v_fa ?_); refine zj hb11 (zq (st.at (i := 0) rfl).2.2 rfl ?_); obtain ⟨v12, e13, hF⟩ := zm hF; refine zj hb11 (zF st (ct144 N e13 st.d st.sub ) (fun n14 st => ?_)); refine zK hb11 ?_; refine za ?_; refine zf (th_n ?_); refine zt ?_; obtain rfl := inj hF
   exact zy st (Res.t gA Res.nil) rfl rfl
  ·have hF := zx hb11 hF; refine ze hb11 ?_; refine ze hb11 ?_; refine ze hb11 ?_; refine ze hb11 ?_; refine zD hb11 ?_; refine za ?_; refine zf (th_n ?_); refine zt ?_; obtain rfl := inj hF
   exact zy st (Res.t gA Res.nil) rfl rfl
 ·have hF := zx hb7 hF; refine ze hb7 ?_; refine ze hb7 ?_; refine ze hb7 ?_; refine ze hb7 ?_; refine zD hb7 ?_; refine za ?_; refine ze rfl ?_; refine ze rfl ?_; refine ze rfl ?_; refine ze rfl ?_; refine zD rfl ?_; refine za ?_; refine zf (th_n ?_); refine zt ?_; obtain rfl := inj hF
  exact zy st (Res.t gA Res.nil) rfl rfl
end Go.Hx.V

namespace Go.Hx.V
open Go.Hx
set_option maxRecDepth 20000
set_option maxHeartbeats 4000000
variable {fl : Nat} {h0 : Tr HBlk} {n0 : Nat} {F0 : PH}
attribute [local irreducible] W R C thenH inBlockH Tr.get Tr.set lo ck bnd ix iter
theorem ct141 (N : Nat) {a0 : (List (Int × Int))} {a1 r : Int} (hF : sf141 N a0 a1 = some r) (hd : D h0 n0) (hs : F0.sub h0) {pa0 : Option (Nat × Nat)} {ca0 : Nat} (ra0 : RowF (rP rI rI) 2 F0 pa0 ca0 a0) : C LW fl 141 [(.slice pa0 (a0).length ca0), (i64 a1)] ⟨h0, n0⟩ (KS (i64 r) n0 h0) := by
 unfold sf141 at hF
 refine zT hd hs lw141 rfl rfl (by rfl) (fun st T hT => ?_)
 have hfl : n0 ≤ n0 := Nat.le_refl n0
 have t0 := hT 0 _ rfl
 have t1 := hT 1 _ rfl
 dsimp only [L141]
 have st := st.mk0
 refine zg (zh ?_); refine zS st (fun b1 h2 n3 st => ?_); refine za ?_; refine zf (th_n ?_); refine zg (zh ?_); refine zJ st (fun b4 h5 n6 st => ?_); refine v_st (cs' := [(i64 0)]) st 2 rfl rfl rfl rfl hfl (fun h7 st => ?_); refine zf (th_n ?_); refine zg ?_; refine zg (zh ?_); refine za ?_; refine zq (st.at (i := 1) rfl).2.2 rfl ?_; refine jB lw159 rfl rfl (fun T hT => ?_)
 have t0 := hT 0 _ rfl
 have t1 := hT 1 _ rfl
 dsimp only [L159]
 refine zg (zh ?_); refine zS st (fun b9 h10 n11 st => ?_); refine zS st (fun b12 h13 n14 st => ?_); refine za ?_; refine zf (th_n ?_); refine zg (zh ?_); refine v_mf ?_; refine za ?_; refine zf (th_n ?_); refine zt ?_; refine yT (v := (.func 171 [] [(.ptr (some (b9, 0))), (.ptr (some (b12, 0)))])) (Res.t gA Res.nil) rfl (.inl rfl) (ik ?_); refine zf (th_n ?_); refine zE ?_; refine Xe st 0 rfl hfl lw171 rfl rfl (fun l => rfl) (fun m15 l15 r15 T h15 n15 rs15 rp15 rn15 rT15 ro15 ra15 rb15 st hT => ?_); obtain ⟨T15, rt15⟩ : ∃ X, X = r15.tmps := ⟨_, rfl⟩
 have u15_3 : T15.get 3 = some (.ptr (some (b1, 0))) := by rw [rt15, rT15]; repeat first | exact ge_h | refine ge_w rfl ?_ | refine ge_f rfl ?_ | refine ge_m rfl ?_ | assumption
 have u15_5 : T15.get 5 = some (.ptr (some (b4, 0))) := by rw [rt15, rT15]; repeat first | exact ge_h | refine ge_w rfl ?_ | refine ge_f rfl ?_ | refine ge_m rfl ?_ | assumption
 have t0 := hT 0 _ rfl
 have t1 := hT 1 _ rfl
 have t2 := hT 2 _ rfl
 dsimp only [L171]
 refine zg (zh ?_); refine za ?_; refine zf (th_n ?_); refine zE ?_; obtain ⟨y64, hy, hF⟩ := zm hF; refine zW (sf141_L1 N a0 a1) (fun x16 T ds17 h nx => ∃ (F17 : PH), ds17 = [] ∧ PH.le F0 F17 ∧ St n0 h0 F0 F17 h nx [.mks (m15 :: []), .bx b1 [(i64 a1)], .bx b4 [(i64 x16.2)], .bx b9 [(.slice pa0 (a0).length ca0)], .bx b12 [(i64 a1)], .any l15 (.loop r15)] ∧ T.get 0 = some (.yield l15) ∧ T.get 1 = some (.ptr (some (b9, 0))) ∧ T.get 2 = some (.ptr (some (b12, 0))) ∧ T.get 4 = some (i64 x16.1)) (fun y e a σ => e = .exit 0 ∧ a.nt = 36 ∧ ∃ (F65 : PH), a.defers = [] ∧ PH.le F0 F65 ∧ St n0 h0 F0 F65 σ.h σ.nx [.mks (m15 :: []), .bx b1 [(i64 a1)], .bx b4 [(i64 y)], .bx b9 [(.slice pa0 (a0).length ca0)], .bx b12 [(i64 a1)], .any l15 (.loop r15)]) (fun x16 T ds17 h nx s hp hF => ?_) N _ y64 _ _ _ _ hy ⟨F0, rfl, (PH.le.refl _), st, gA, gA, gA, gA⟩ (fun e a σ hne hq => ?_)
 ·obtain ⟨F17, rfl, le17, st, t0, t1, t2, t4⟩ := hp; unfold sf141_L1 at hF; unfold L171w0; refine zg ?_; refine zg (zh ?_); refine za ?_; refine zq (st.at (i := 3) rfl).2.2 rfl ?_; refine yA ?_; refine ye ?_; refine zf (th_n ?_); refine zA (fun hb66 => ?_) (fun hb66 => ?_)
  ·have hF := zw hb66 hF; refine zB (th_n ?_); refine zg ?_; refine zE ?_; refine zg (zh ?_); refine zq (st.at (i := 3) rfl).2.2 rfl ?_; refine za ?_; obtain ⟨q67, hF⟩ := zi hF; refine yn q67 ?_; refine za ?_; obtain ⟨q68, hF⟩ := zi hF; refine zQ q68 ?_; obtain ⟨q69, hF⟩ := zi hF
   refine v_slf (m := ((a0.drop (Int.toNat (x16.1 - (1 : Int)))).take ((Int.toNat (x16.1 + (1 : Int))) - (Int.toNat (x16.1 - (1 : Int))))).length) (Int.toNat (x16.1 - (1 : Int))) (Int.toNat (x16.1 + (1 : Int))) ra0 (YZ (by first | exact ev_c | (apply ev_t; repeat first | exact ge_h | refine ge_w rfl ?_ | refine ge_f rfl ?_ | refine ge_m rfl ?_ | assumption)) (Int.toNat_of_nonneg q69.1).symm) (YZ (by first | exact ev_c | (apply ev_t; repeat first | exact ge_h | refine ge_w rfl ?_ | refine ge_f rfl ?_ | refine ge_m rfl ?_ | assumption)) (Int.toNat_of_nonneg q69.2.1).symm) q69.2.2 (sl_len q69.2.2.2) (fun p69 c69 n70 hn' rs69 => ?_)
   have st := st.up hn'
   obtain ⟨v71, e72, hF⟩ := zm hF; refine zF st (ct140 N e72 st.d st.sub (RowF.mono le17 rs69)) (fun n73 st => ?_); refine zJ st (fun b74 h75 n76 st => ?_); refine v_st (cs' := [(i64 v71.1), (i64 v71.2)]) st 6 rfl rfl rfl rfl hfl (fun h77 st => ?_); refine zf (th_n ?_); refine zg ?_; refine z9 (Nat.le_trans hfl st.ext.le) (fun dw => ?_); refine zd st.d dw (fun hm vw => zH (vs := [(i64 v71.1), (i64 v71.2)]) (vw.bx (st.at (i := 6) rfl)) rfl zb) ?_; refine zd st.d dw (fun hm vw => zq (vw.bx (st.at (i := 4) rfl)) rfl zb) ?_; obtain ⟨v78, e79, hF⟩ := zm hF; refine yl st.d dw (fun hm vw => yo (ct144 N e79 vw.d (vw.sub st) ) (fun n' hn' => ym hn')) (fun n80 hn' dw => ?_)
   refine zd st.d dw (fun hm vw => za zb) ?_
   rcases Bool.eq_false_or_eq_true v78 with hb81 | hb81
   ·have hF := zw hb81 hF; refine zd st.d dw (fun hm vw => zj hb81 (za zb)) ?_; refine zd st.d dw (fun hm vw => zj hb81 (zq (vw.bx (st.at (i := 3) rfl)) rfl zb)) ?_; refine zd st.d dw (fun hm vw => zj hb81 (za zb)) ?_; obtain ⟨q82, hF⟩ := zi hF; refine zd st.d dw (fun hm vw => zj hb81 (yn q82 zb)) ?_; obtain ⟨n83, x83, z83, l83, g83, hF⟩ := z7 hF; obtain ⟨b83, o83, s83, j83, r83, e83, f83, k83, ⟨_, _, rfl, rfl, rfl⟩⟩ := RowF.get ra0 g83; refine zd st.d dw (fun hm vw => zj hb81 (yt e83 z83 l83 zb)) ?_; refine zd st.d dw (fun hm vw => zj hb81 (zH (vw.fz st (le17 _ _ f83)) k83 zb)) ?_; refine zd st.d dw (fun hm vw => zj hb81 (zq (vw.bx (st.at (i := 3) rfl)) rfl zb)) ?_
    refine zd st.d dw (fun hm vw => zj hb81 (za zb)) ?_; obtain ⟨n84, x84, z84, l84, g84, hF⟩ := z7 hF; obtain ⟨b84, o84, s84, j84, r84, e84, f84, k84, ⟨_, _, rfl, rfl, rfl⟩⟩ := RowF.get ra0 g84; refine zd st.d dw (fun hm vw => zj hb81 (yt e84 z84 l84 zb)) ?_; refine zd st.d dw (fun hm vw => zj hb81 (zH (vw.fz st (le17 _ _ f84)) k84 zb)) ?_; refine yd st.d dw rfl (fun h85 ex vs => ?_)
    have st := st.ext1 ex
    refine zj hb81 (YC (Tc := T15) (tmps := ((T15.set 12 (some (.agg [(i64 x83.1), (i64 x83.2)]))).set 13 (some (.agg [(i64 x84.1), (i64 x84.2)])))) st 5 rfl rn15 rt15.symm ro15 ra15 rb15 (fun hz => ?_) rfl); refine zg (zh ?_); refine zJ st (fun b86 h87 n88 st => ?_); refine v_st (cs' := [(i64 x83.1), (i64 x83.2)]) st 7 rfl rfl rfl rfl hfl (fun h89 st => ?_); refine zf (th_n ?_); refine zh ?_; refine zJ st (fun b90 h91 n92 st => ?_); refine v_st (cs' := [(i64 x84.1), (i64 x84.2)]) st 8 rfl rfl rfl rfl hfl (fun h93 st => ?_); refine zf ?_; refine ya_n st 5 rfl rs15 hfl (fun h st => ?_); refine zE ?_; refine zg ?_; refine zh ?_
    refine v_fa ?_; refine zq (st.at (i := 8) rfl).2.2 rfl ?_; refine v_fa ?_; refine zq (st.at (i := 7) rfl).2.2 rfl ?_; obtain ⟨q94, hF⟩ := zi hF; refine yn q94 ?_; refine zq (st.at (i := 1) rfl).2.2 rfl ?_; refine v_fa ?_; refine zq (st.at (i := 7) rfl).2.2 rfl ?_; obtain ⟨q95, hF⟩ := zi hF; refine yn q95 ?_; obtain ⟨q96, hF⟩ := zi hF; refine yF q96 ?_; refine v_fa ?_; refine zq (st.at (i := 8) rfl).2.2 rfl ?_; refine v_fa ?_; refine zq (st.at (i := 7) rfl).2.2 rfl ?_; obtain ⟨q97, hF⟩ := zi hF; refine yn q97 ?_; refine zO (cs := [(i64 ((x84.2 - x83.2) * (a1 - x83.1))), (i64 (x84.1 - x83.1))]) rfl ?_; refine zJ st (fun b98 h99 n100 st => ?_)
    refine v_st (cs' := [(i64 ((x84.2 - x83.2) * (a1 - x83.1))), (i64 (x84.1 - x83.1))]) st 9 rfl rfl rfl rfl hfl (fun h101 st => ?_); refine zf (th_n ?_); refine z9 (Nat.le_trans hfl st.ext.le) (fun dw => ?_); refine zd st.d dw (fun hm vw => v_fa zb) ?_; refine zd st.d dw (fun hm vw => zq (vw.bx (st.at (i := 7) rfl)) rfl zb) ?_; refine zd st.d dw (fun hm vw => zH (vs := [(i64 ((x84.2 - x83.2) * (a1 - x83.1))), (i64 (x84.1 - x83.1))]) (vw.bx (st.at (i := 9) rfl)) rfl zb) ?_; obtain ⟨v102, e103, hF⟩ := zm hF; refine yl st.d dw (fun hm vw => yo (ct160 N e103 vw.d (vw.sub st) ) (fun n' hn' => ym hn')) (fun n104 hn' dw => ?_); refine yd st.d dw rfl (fun h105 ex vs => ?_)
    have st := st.ext1 ex
    obtain ⟨q106, hF⟩ := zi hF; refine zQ q106 ?_; refine v_st (cs' := [(i64 (x83.2 + v102))]) st 2 rfl rfl rfl rfl hfl (fun h107 st => ?_); refine zf ?_; refine ib_n ?_; refine yb_n st 5 rfl rs15 rp15 (fun h st => ?_); refine zj hb81 (yg ?_); refine zK hb81 ?_; refine zf (th_n ?_); refine zA (fun hq108 => ?_) (fun hq108 => ?_)
    ·exact absurd hq108 (by rw [(congrArg (!·) rfl)]; decide)
    ·refine zB ?_; refine ib_n ?_; refine th_n ?_; refine zh ?_; refine za ?_; obtain ⟨q109, hF⟩ := zi hF; refine zQ q109 ?_; refine za ?_; refine zf ?_; refine thn ⟨_, (inj hF).symm, rfl, ?_⟩; dsimp only
     exact ⟨F17, rfl, le17, (st.drop (by first | exact List.Sublist.refl _ | (repeat first | exact List.nil_sublist _ | refine List.Sublist.cons_cons _ ?_ | refine List.Sublist.cons _ ?_))), gA, gA, gA, gA⟩
   ·have hF := zx hb81 hF; refine zd st.d dw (fun hm vw => ze hb81 zb) ?_; refine zd st.d dw (fun hm vw => ze hb81 zb) ?_; refine zd st.d dw (fun hm vw => ze hb81 zb) ?_; refine zd st.d dw (fun hm vw => ze hb81 zb) ?_; refine zd st.d dw (fun hm vw => ze hb81 zb) ?_; refine zd st.d dw (fun hm vw => ze hb81 zb) ?_; refine zd st.d dw (fun hm vw => ze hb81 zb) ?_; refine zd st.d dw (fun hm vw => ze hb81 zb) ?_; refine zd st.d dw (fun hm vw => ze hb81 zb) ?_; refine zd st.d dw (fun hm vw => ze hb81 zb) ?_; refine yd st.d dw rfl (fun h110 ex vs => ?_)
    have st := st.ext1 ex
    refine ze hb81 ?_; refine ze hb81 ?_; refine zD hb81 ?_; refine zf (th_n ?_); refine v_cf ?_; refine zB ?_; refine ib_n ?_; refine th_n ?_; refine zh ?_; refine za ?_; obtain ⟨q111, hF⟩ := zi hF; refine zQ q111 ?_; refine za ?_; refine zf ?_; refine thn ⟨_, (inj hF).symm, rfl, ?_⟩; dsimp only
    exact ⟨F17, rfl, le17, (st.drop (by first | exact List.Sublist.refl _ | (repeat first | exact List.nil_sublist _ | refine List.Sublist.cons_cons _ ?_ | refine List.Sublist.cons _ ?_))), gA, gA, gA, gA⟩
  ·have hF := zx hb66 hF; refine z8 ?_; refine th_e ?_; refine th_e ?_; refine ⟨_, (inj hF).symm, rfl, rfl, ?_⟩; dsimp only
   exact ⟨F17, rfl, le17, st⟩
 ·obtain ⟨N9, T, ds65⟩ := a; obtain ⟨h112, n113⟩ := σ; obtain ⟨rfl, e1, F65, e2, le65, st⟩ := hq
  dsimp only at e1 e2
  subst e1
  subst e2
  dsimp only at st
  refine ib_e ?_
  refine ky st 5 rfl (by rw [rs15]; exact fun e => by cases e) rp15 hfl (.inr rfl) (fun h st => ?_)
  have st := st.drop (List.eraseIdx_sublist _ 5)
  refine ib_n ?_; refine th_n ?_; refine zg (zh ?_); refine zq (st.at (i := 2) rfl).2.2 rfl ?_; refine za ?_; refine zf (th_n ?_); refine zt ?_; obtain rfl := inj hF
  exact end_sM st 0 rfl (.inl rfl) [(i64 y64)] (fun h st => (Res.t gA Res.nil)) rfl rfl
theorem ct102 (N : Nat) {a0_0 a0_1 a1_0 a1_1 : Int} {r : Bool} (hF : sf102 N a0_0 a0_1 a1_0 a1_1 = some r) (hd : D h0 n0) (hs : F0.sub h0) : C LW fl 102 [(.agg [(i64 a0_0), (i64 a0_1)]), (.agg [(i64 a1_0), (i64 a1_1)])] ⟨h0, n0⟩ (KS (.bool r) n0 h0) := by
 unfold sf102 at hF
 refine zT hd hs lw102 rfl rfl (by rfl) (fun st T hT => ?_)
 have hfl : n0 ≤ n0 := Nat.le_refl n0
 have t0 := hT 0 _ rfl
 have t1 := hT 1 _ rfl
 dsimp only [L102]
 refine zg (zh ?_); refine zS st (fun b1 h2 n3 st => ?_); refine zS st (fun b4 h5 n6 st => ?_); refine za ?_; refine zf (th_n ?_); refine zg (zh ?_); refine v_fa ?_; refine zq (st.at (i := 0) rfl).2.2 rfl ?_; refine v_fa ?_; refine zq (st.at (i := 0) rfl).2.2 rfl ?_; refine yw ?_; refine za ?_
 rcases Bool.eq_false_or_eq_true (decide (a0_0 ≤ a0_1)) with hb7 | hb7
 ·have hF := zw hb7 hF; refine zj hb7 (zH (vs := [(i64 a1_0), (i64 a1_1)]) (st.at (i := 1) rfl).2.2 rfl ?_); refine zj hb7 (v_fa ?_); refine zj hb7 (zq (st.at (i := 0) rfl).2.2 rfl ?_); obtain ⟨v8, e9, hF⟩ := zm hF; refine zj hb7 (zF st (ct110 N e9 st.d st.sub ) (fun n10 st => ?_)); refine zK hb7 ?_; refine za ?_
  rcases Bool.eq_false_or_eq_true v8 with hb11 | hb11
  ·have hF := zw hb11 hF; refine zj hb11 (zH (vs := [(i64 a1_0), (i64 a1_1)]) (st.at (i := 1) rfl).2.2 rfl ?_); refine zj hb11 (v_fa ?_); refine zj hb11 (zq (st.at (i := 0) rfl).2.2 rfl ?_); obtain ⟨v12, e13, hF⟩ := zm hF; refine zj hb11 (zF st (ct110 N e13 st.d st.sub ) (fun n14 st => ?_)); refine zK hb11 ?_; refine za ?_; refine zf (th_n ?_); refine zt ?_; obtain rfl := inj hF
   exact zy st (Res.t gA Res.nil) rfl rfl
  ·have hF := zx hb11 hF; refine ze hb11 ?_; refine ze hb11 ?_; refine ze hb11 ?_; refine ze hb11 ?_; refine zD hb11 ?_; refine za ?_; refine zf (th_n ?_); refine zt ?_; obtain rfl := inj hF
   exact zy st (Res.t gA Res.nil) rfl rfl
 ·have hF := zx hb7 hF; refine ze hb7 ?_; refine ze hb7 ?_; refine ze hb7 ?_; refine ze hb7 ?_; refine zD hb7 ?_; refine za ?_; refine ze rfl ?_; refine ze rfl ?_; refine ze rfl ?_; refine ze rfl ?_; refine zD rfl ?_; refine za ?_; refine zf (th_n ?_); refine zt ?_; obtain rfl := inj hF
  exact zy st (Res.t gA Res.nil) rfl rfl
theorem ct142 (N : Nat) {a0_0 a0_1 a1_0 a1_1 : Int} {r : (Int × Int)} (hF : sf142 N a0_0 a0_1 a1_0 a1_1 = some r) (hd : D h0 n0) (hs : F0.sub h0) : C LW fl 142 [(.agg [(i64 a0_0), (i64 a0_1)]), (.agg [(i64 a1_0), (i64 a1_1)])] ⟨h0, n0⟩ (KS (.agg [(i64 r.1), (i64 r.2)]) n0 h0) := by
 unfold sf142 at hF
 refine zT hd hs lw142 rfl rfl (by rfl) (fun st T hT => ?_)
 have hfl : n0 ≤ n0 := Nat.le_refl n0
 have t0 := hT 0 _ rfl
 have t1 := hT 1 _ rfl
 dsimp only [L142]
 refine zg (zh ?_); refine zS st (fun b1 h2 n3 st => ?_); refine zS st (fun b4 h5 n6 st => ?_); refine zJ st (fun b7 h8 n9 st => ?_); refine zf (th_n ?_); refine zg (zh ?_); obtain ⟨v10, e11, hF⟩ := zm hF; refine zF st (ct161 N e11 st.d st.sub ) (fun n12 st => ?_); refine zJ st (fun b13 h14 n15 st => ?_); refine v_st (cs' := [(.func 107 [] []), (.func 172 [] [])]) st 3 rfl rfl rfl rfl hfl (fun h16 st => ?_); refine zf (th_n ?_); refine zg ?_; refine z9 (Nat.le_trans hfl st.ext.le) (fun dw => ?_)
 have wf := Wf.start st
 refine zd st.d dw (fun hm vw => v_fa zb) ?_; refine zd st.d dw (fun hm vw => zq (vw.bx (st.at (i := 3) rfl)) rfl zb) ?_; refine zd st.d dw (fun hm vw => zH (vs := [(i64 a0_0), (i64 a0_1)]) (vw.bx (st.at (i := 0) rfl)) rfl zb) ?_; obtain ⟨v17, e18, hF⟩ := zm hF; refine yl st.d dw (fun hm vw => yo (ct107 N e18 vw.d (FF.sub wf st vw) ) (fun n' hn' => ym hn')) (fun n19 hn' dw => ?_); refine zd st.d dw (fun hm vw => v_fa zb) ?_; refine zd st.d dw (fun hm vw => zq (vw.bx (st.at (i := 3) rfl)) rfl zb) ?_; refine zd st.d dw (fun hm vw => zH (vs := [(i64 a1_0), (i64 a1_1)]) (vw.bx (st.at (i := 1) rfl)) rfl zb) ?_; refine yd st.d dw rfl (fun h20 ex vs => ?_)
 have st := st.ext1 ex
 obtain ⟨v21, e22, hF⟩ := zm hF; refine zF st (ct172 N e22 st.d st.sub ) (fun n23 st => ?_); refine zO (cs := [(i64 v17), (i64 v21)]) rfl ?_; refine v_st (cs' := [(i64 v17), (i64 v21)]) st 2 rfl rfl rfl rfl hfl (fun h24 st => ?_); refine zf (th_n ?_); refine zt ?_; obtain rfl := inj hF
 exact zy st (Res.c gA (st.at (i := 2) rfl).2.2 (show takeN _ _ = some [(i64 v17), (i64 v21)] from rfl) Res.nil) rfl rfl
theorem ct75 (N : Nat) {a0 : Int} {r : Bool} (hF : sf75 N a0 = some r) (hd : D h0 n0) (hs : F0.sub h0) : C LW fl 75 [(i64 a0)] ⟨h0, n0⟩ (KS (.bool r) n0 h0) := by
 unfold sf75 at hF
 refine zT hd hs lw75 rfl rfl (by rfl) (fun st T hT => ?_)
 have hfl : n0 ≤ n0 := Nat.le_refl n0
 have t0 := hT 0 _ rfl
 dsimp only [L75]
 refine zg (zh ?_); refine za ?_; refine zf (th_n ?_); refine zg (zh ?_); obtain ⟨v1, e2, hF⟩ := zm hF; refine zF st (ct103 N e2 st.d st.sub ) (fun n3 st => ?_); refine za ?_; obtain ⟨v4, e5, hF⟩ := zm hF; refine zF st (ct110 N e5 st.d st.sub ) (fun n6 st => ?_); refine za ?_; refine zf (th_n ?_); refine zt ?_; obtain rfl := inj hF
 exact zy st (Res.t gA Res.nil) rfl rfl
theorem ct124 (N : Nat) {a0_0 a0_1 a1 a2 : Int} {r : Bool} (hF : sf124 N a0_0 a0_1 a1 a2 = some r) (hd : D h0 n0) (hs : F0.sub h0) : C LW fl 124 [(.agg [(i64 a0_0), (i64 a0_1)]), (i64 a1), (i64 a2)] ⟨h0, n0⟩ (KS (.bool r) n0 h0) := by
 unfold sf124 at hF
 refine zT hd hs lw124 rfl rfl (by rfl) (fun st T hT => ?_)
 have hfl : n0 ≤ n0 := Nat.le_refl n0
 have t0 := hT 0 _ rfl
 have t1 := hT 1 _ rfl
 have t2 := hT 2 _ rfl
 dsimp only [L124]
 refine zg (zh ?_); refine zS st (fun b1 h2 n3 st => ?_); refine za ?_; refine zf (th_n ?_); refine zg (zh ?_); refine v_fa ?_; refine zq (st.at (i := 0) rfl).2.2 rfl ?_; refine za ?_; refine v_fa ?_; refine zq (st.at (i := 0) rfl).2.2 rfl ?_; obtain ⟨v4, e5, hF⟩ := zm hF; refine zF st (ct98 N e5 st.d st.sub ) (fun n6 st => ?_); refine za ?_
 rcases Bool.eq_false_or_eq_true v4 with hb7 | hb7
 ·have hF := zw hb7 hF; refine zj hb7 (v_fa ?_); refine zj hb7 (zq (st.at (i := 0) rfl).2.2 rfl ?_); refine zj hb7 (za ?_); refine zj hb7 (yw ?_); refine zK hb7 ?_; refine za ?_; refine zf (th_n ?_); refine zt ?_; obtain rfl := inj hF
  exact zy st (Res.t gA Res.nil) rfl rfl
 ·have hF := zx hb7 hF; refine ze hb7 ?_; refine ze hb7 ?_; refine ze hb7 ?_; refine ze hb7 ?_; refine zD hb7 ?_; refine za ?_; refine zf (th_n ?_); refine zt ?_; obtain rfl := inj hF
  exact zy st (Res.t gA Res.nil) rfl rfl
end Go.Hx.V

namespace Go.Hx.V
open Go.Hx
set_option maxRecDepth 20000
set_option maxHeartbeats 4000000
variable {fl : Nat} {h0 : Tr HBlk} {n0 : Nat} {F0 : PH}
attribute [local irreducible] W R C thenH inBlockH Tr.get Tr.set lo ck bnd ix iter
theorem ct85 (N : Nat) {a0 : (List (Int × Int))} {r : Bool} (hF : sf85 N a0 = some r) (hd : D h0 n0) (hs : F0.sub h0) {pa0 : Option (Nat × Nat)} {ca0 : Nat} (ra0 : RowF (rP rI rI) 2 F0 pa0 ca0 a0) : C LW fl 85 [(.slice pa0 (a0).length ca0)] ⟨h0, n0⟩ (KS (.bool r) n0 h0) := by
 unfold sf85 at hF
 refine zT hd hs lw85 rfl rfl (by rfl) (fun st T hT => ?_)
 have hfl : n0 ≤ n0 := Nat.le_refl n0
 have t0 := hT 0 _ rfl
 dsimp only [L85]
 refine zg (zh ?_); refine za ?_; refine zf (th_n ?_); refine zg ?_; refine zg (zh ?_); refine za ?_; refine zf (th_n ?_); refine zE ?_; obtain ⟨y57, hy, hF⟩ := zm hF; refine zW (sf85_L1 N a0) (fun x1 T ds2 h nx => ∃ (F2 : PH), ds2 = [] ∧ PH.le F0 F2 ∧ St n0 h0 F0 F2 h nx [] ∧ T.get 0 = some (.slice pa0 (a0).length ca0) ∧ T.get 3 = some (i64 x1)) (fun y e a σ => (∃ u, y = (.inl u) ∧ e = .ret ∧ a.nt = 61 ∧ ∃ (F59 : PH), a.defers = [] ∧ PH.le F0 F59 ∧ St n0 h0 F0 F59 σ.h σ.nx [] ∧ a.tmps.get 2 = some (.bool false)) ∨ (∃ u, y = (.inr u) ∧ e = .exit 0 ∧ a.nt = 61 ∧ ∃ (F61 : PH), a.defers = [] ∧ PH.le F0 F61 ∧ St n0 h0 F0 F61 σ.h σ.nx [] ∧ a.tmps.get 0 = some (.slice pa0 (a0).length ca0))) (fun x1 T ds2 h nx s hp hF => ?_) N _ y57 _ _ _ _ hy ⟨F0, rfl, (PH.le.refl _), st, gA, gA⟩ (fun e a σ hne hq => ?_)
 ·obtain ⟨F2, rfl, le2, st, t0, t3⟩ := hp; unfold sf85_L1 at hF; unfold L85w0; refine zg ?_; refine zg (zh ?_); refine za ?_; refine za ?_; refine yA ?_; refine ye ?_; refine zf (th_n ?_); refine zA (fun hb62 => ?_) (fun hb62 => ?_)
  ·have hF := zw hb62 hF; refine zB (th_n ?_); refine zg ?_; refine zE ?_; obtain ⟨y86, hA87, hF⟩ := zm hF; refine yB (fun T ds89 h nx => ∃ (F89 : PH), ds89 = [] ∧ PH.le F2 F89 ∧ St n0 h0 F0 F89 h nx [] ∧ T.get 0 = some (.slice pa0 (a0).length ca0) ∧ T.get 3 = some (i64 x1) ∧ T.get 57 = some (.bool y86)) ?_ (fun T ds89 h nx hp => ?_)
   ·have hK88 := hF
    have hF := hA87; refine z9 (Nat.le_trans hfl st.ext.le) (fun dw => ?_); refine zd st.d dw (fun hm vw => za zb) ?_; refine zd st.d dw (fun hm vw => za zb) ?_; obtain ⟨n90, x90, z90, l90, g90, hF⟩ := z7 hF; obtain ⟨b90, o90, s90, j90, r90, e90, f90, k90, ⟨_, _, rfl, rfl, rfl⟩⟩ := RowF.get ra0 g90; refine zd st.d dw (fun hm vw => yt e90 z90 l90 zb) ?_; refine zd st.d dw (fun hm vw => v_fa zb) ?_; refine zd st.d dw (fun hm vw => zq (vw.fz st (le2 _ _ f90)) (yu (j := 0) k90 rfl) zb) ?_; obtain ⟨v91, e92, hF⟩ := zm hF; refine yl st.d dw (fun hm vw => yo (ct25 N e92 vw.d (vw.sub st) ) (fun n' hn' => ym hn')) (fun n93 hn' dw => ?_)
    refine zd st.d dw (fun hm vw => yg zb) ?_; refine zd st.d dw (fun hm vw => za zb) ?_
    rcases Bool.eq_false_or_eq_true (!v91) with hb94 | hb94
    ·have hF := zw hb94 hF; refine zd st.d dw (fun hm vw => ze hb94 zb) ?_; refine zd st.d dw (fun hm vw => ze hb94 zb) ?_; refine zd st.d dw (fun hm vw => ze hb94 zb) ?_; refine zd st.d dw (fun hm vw => ze hb94 zb) ?_; refine zd st.d dw (fun hm vw => ze hb94 zb) ?_; refine zd st.d dw (fun hm vw => ze hb94 zb) ?_; refine zd st.d dw (fun hm vw => ze hb94 zb) ?_; refine zd st.d dw (fun hm vw => zK hb94 zb) ?_; refine zd st.d dw (fun hm vw => za zb) ?_; refine zd st.d dw (fun hm vw => ze rfl zb) ?_; refine zd st.d dw (fun hm vw => ze rfl zb) ?_; refine zd st.d dw (fun hm vw => ze rfl zb) ?_
     refine zd st.d dw (fun hm vw => zG zb) ?_; refine zd st.d dw (fun hm vw => zG zb) ?_; refine zd st.d dw (fun hm vw => zG zb) ?_; refine zd st.d dw (fun hm vw => zG zb) ?_; refine zd st.d dw (fun hm vw => zG zb) ?_; refine zd st.d dw (fun hm vw => zG zb) ?_; refine zd st.d dw (fun hm vw => zG zb) ?_; refine zd st.d dw (fun hm vw => zG zb) ?_; refine zd st.d dw (fun hm vw => zG zb) ?_; refine zd st.d dw (fun hm vw => zG zb) ?_; refine zd st.d dw (fun hm vw => zG zb) ?_; refine zd st.d dw (fun hm vw => zG zb) ?_; refine zd st.d dw (fun hm vw => zG zb) ?_
     refine zd st.d dw (fun hm vw => zG zb) ?_; refine zd st.d dw (fun hm vw => zG zb) ?_; refine zd st.d dw (fun hm vw => zG zb) ?_; refine zd st.d dw (fun hm vw => zG zb) ?_; refine zd st.d dw (fun hm vw => zG zb) ?_; refine zd st.d dw (fun hm vw => zG zb) ?_; refine zd st.d dw (fun hm vw => zG zb) ?_; refine zd st.d dw (fun hm vw => zG zb) ?_; refine zd st.d dw (fun hm vw => zG zb) ?_; refine zd st.d dw (fun hm vw => zG zb) ?_; refine zd st.d dw (fun hm vw => zG zb) ?_; refine yd st.d dw rfl (fun h95 ex vs => ?_)
     have st := st.ext1 ex
     refine zG ?_; refine zG ?_; refine ze rfl ?_; refine zK rfl ?_; refine zf ?_; obtain rfl := inj hF; refine thn ⟨rfl, ?_⟩; dsimp only
     exact ⟨F2, rfl, (PH.le.refl _), st, gA, gA, gA⟩
    ·have hF := zx hb94 hF; refine zd st.d dw (fun hm vw => zj hb94 (za zb)) ?_; refine zd st.d dw (fun hm vw => zj hb94 (za zb)) ?_; obtain ⟨n96, x96, z96, l96, g96, hF⟩ := z7 hF; obtain ⟨b96, o96, s96, j96, r96, e96, f96, k96, ⟨_, _, rfl, rfl, rfl⟩⟩ := RowF.get ra0 g96; refine zd st.d dw (fun hm vw => zj hb94 (yt e96 z96 l96 zb)) ?_; refine zd st.d dw (fun hm vw => zj hb94 (v_fa zb)) ?_; refine zd st.d dw (fun hm vw => zj hb94 (zq (vw.fz st (le2 _ _ f96)) (yu (j := 1) k96 rfl) zb)) ?_; obtain ⟨v97, e98, hF⟩ := zm hF; refine yl st.d dw (fun hm vw => zj hb94 (yo (ct25 N e98 vw.d (vw.sub st) ) (fun n' hn' => ym hn'))) (fun n99 hn' dw => ?_)
     refine zd st.d dw (fun hm vw => zj hb94 (yg zb)) ?_; refine zd st.d dw (fun hm vw => zD hb94 zb) ?_; refine zd st.d dw (fun hm vw => za zb) ?_
     rcases Bool.eq_false_or_eq_true (!v97) with hb100 | hb100
     ·have hF := zw hb100 hF; refine zd st.d dw (fun hm vw => ze hb100 zb) ?_; refine zd st.d dw (fun hm vw => ze hb100 zb) ?_; refine zd st.d dw (fun hm vw => ze hb100 zb) ?_; refine zd st.d dw (fun hm vw => zG zb) ?_; refine zd st.d dw (fun hm vw => zG zb) ?_; refine zd st.d dw (fun hm vw => zG zb) ?_; refine zd st.d dw (fun hm vw => zG zb) ?_; refine zd st.d dw (fun hm vw => zG zb) ?_; refine zd st.d dw (fun hm vw => zG zb) ?_; refine zd st.d dw (fun hm vw => zG zb) ?_; refine zd st.d dw (fun hm vw => zG zb) ?_; refine zd st.d dw (fun hm vw => zG zb) ?_
      refine zd st.d dw (fun hm vw => zG zb) ?_; refine zd st.d dw (fun hm vw => zG zb) ?_; refine zd st.d dw (fun hm vw => zG zb) ?_; refine zd st.d dw (fun hm vw => zG zb) ?_; refine zd st.d dw (fun hm vw => zG zb) ?_; refine zd st.d dw (fun hm vw => zG zb) ?_; refine zd st.d dw (fun hm vw => zG zb) ?_; refine zd st.d dw (fun hm vw => zG zb) ?_; refine zd st.d dw (fun hm vw => zG zb) ?_; refine zd st.d dw (fun hm vw => zG zb) ?_; refine zd st.d dw (fun hm vw => zG zb) ?_; refine zd st.d dw (fun hm vw => zG zb) ?_; refine zd st.d dw (fun hm vw => zG zb) ?_
      refine zd st.d dw (fun hm vw => zG zb) ?_; refine zd st.d dw (fun hm vw => zG zb) ?_; refine yd st.d dw rfl (fun h101 ex vs => ?_)
      have st := st.ext1 ex
      refine zG ?_; refine zG ?_; refine ze hb100 ?_; refine zK hb100 ?_; refine zf ?_; obtain rfl := inj hF; refine thn ⟨rfl, ?_⟩; dsimp only
      exact ⟨F2, rfl, (PH.le.refl _), st, gA, gA, gA⟩
     ·have hF := zx hb100 hF; refine zd st.d dw (fun hm vw => zj hb100 (za zb)) ?_; refine zd st.d dw (fun hm vw => zj hb100 (vE zb)) ?_; refine zd st.d dw (fun hm vw => zj hb100 (za zb)) ?_
      rcases Bool.eq_false_or_eq_true (decide ((0 : Int) < x1)) with hb102 | hb102
      ·have hF := zw hb102 hF; refine zd st.d dw (fun hm vw => zj hb102 (za zb)) ?_; refine zd st.d dw (fun hm vw => zj hb102 (za zb)) ?_; obtain ⟨n103, x103, z103, l103, g103, hF⟩ := z7 hF; obtain ⟨b103, o103, s103, j103, r103, e103, f103, k103, ⟨_, _, rfl, rfl, rfl⟩⟩ := RowF.get ra0 g103; refine zd st.d dw (fun hm vw => zj hb102 (yt e103 z103 l103 zb)) ?_; refine zd st.d dw (fun hm vw => zj hb102 (v_fa zb)) ?_; refine zd st.d dw (fun hm vw => zj hb102 (zq (vw.fz st (le2 _ _ f103)) (yu (j := 0) k103 rfl) zb)) ?_; refine zd st.d dw (fun hm vw => zj hb102 (za zb)) ?_; refine zd st.d dw (fun hm vw => zj hb102 (za zb)) ?_
       obtain ⟨q104, hF⟩ := zi hF; refine zd st.d dw (fun hm vw => zj hb102 (yn q104 zb)) ?_; obtain ⟨n105, x105, z105, l105, g105, hF⟩ := z7 hF; obtain ⟨b105, o105, s105, j105, r105, e105, f105, k105, ⟨_, _, rfl, rfl, rfl⟩⟩ := RowF.get ra0 g105; refine zd st.d dw (fun hm vw => zj hb102 (yt e105 z105 l105 zb)) ?_; refine zd st.d dw (fun hm vw => zj hb102 (v_fa zb)) ?_; refine zd st.d dw (fun hm vw => zj hb102 (zq (vw.fz st (le2 _ _ f105)) (yu (j := 0) k105 rfl) zb)) ?_; refine zd st.d dw (fun hm vw => zj hb102 (yw zb)) ?_; refine zd st.d dw (fun hm vw => zj hb102 (za zb)) ?_
       rcases Bool.eq_false_or_eq_true (decide (x103.1 ≤ x105.1)) with hb106 | hb106
       ·have hF := zw hb106 hF; refine zd st.d dw (fun hm vw => ze hb106 zb) ?_; refine zd st.d dw (fun hm vw => ze hb106 zb) ?_; refine zd st.d dw (fun hm vw => ze hb106 zb) ?_; refine zd st.d dw (fun hm vw => ze hb106 zb) ?_; refine zd st.d dw (fun hm vw => ze hb106 zb) ?_; refine zd st.d dw (fun hm vw => ze hb106 zb) ?_; refine zd st.d dw (fun hm vw => ze hb106 zb) ?_; refine zd st.d dw (fun hm vw => ze hb106 zb) ?_; refine zd st.d dw (fun hm vw => ze hb106 zb) ?_; refine zd st.d dw (fun hm vw => ze hb106 zb) ?_; refine zd st.d dw (fun hm vw => ze hb106 zb) ?_
        refine yd st.d dw rfl (fun h107 ex vs => ?_)
        have st := st.ext1 ex
        refine ze hb106 ?_; refine zj hb102 (zK hb106 ?_); refine zj hb100 (zK hb102 ?_); refine zD hb100 ?_; refine zf ?_; obtain rfl := inj hF; refine thn ⟨rfl, ?_⟩; dsimp only
        exact ⟨F2, rfl, (PH.le.refl _), st, gA, gA, gA⟩
       ·have hF := zx hb106 hF; refine zd st.d dw (fun hm vw => zj hb106 (za zb)) ?_; refine zd st.d dw (fun hm vw => zj hb106 (za zb)) ?_; obtain ⟨n108, x108, z108, l108, g108, hF⟩ := z7 hF; obtain ⟨b108, o108, s108, j108, r108, e108, f108, k108, ⟨_, _, rfl, rfl, rfl⟩⟩ := RowF.get ra0 g108; refine zd st.d dw (fun hm vw => zj hb106 (yt e108 z108 l108 zb)) ?_; refine zd st.d dw (fun hm vw => zj hb106 (v_fa zb)) ?_; refine zd st.d dw (fun hm vw => zj hb106 (zq (vw.fz st (le2 _ _ f108)) (yu (j := 1) k108 rfl) zb)) ?_; refine zd st.d dw (fun hm vw => zj hb106 (za zb)) ?_; refine zd st.d dw (fun hm vw => zj hb106 (za zb)) ?_
        obtain ⟨q109, hF⟩ := zi hF; refine zd st.d dw (fun hm vw => zj hb106 (yn q109 zb)) ?_; obtain ⟨n110, x110, z110, l110, g110, hF⟩ := z7 hF; obtain ⟨b110, o110, s110, j110, r110, e110, f110, k110, ⟨_, _, rfl, rfl, rfl⟩⟩ := RowF.get ra0 g110; refine zd st.d dw (fun hm vw => zj hb106 (yt e110 z110 l110 zb)) ?_; refine zd st.d dw (fun hm vw => zj hb106 (v_fa zb)) ?_; refine zd st.d dw (fun hm vw => zj hb106 (zq (vw.fz st (le2 _ _ f110)) (yu (j := 1) k110 rfl) zb)) ?_; refine yd st.d dw rfl (fun h111 ex vs => ?_)
        have st := st.ext1 ex
        refine zj hb106 (yw ?_); refine zj hb102 (zD hb106 ?_); refine zj hb100 (zK hb102 ?_); refine zD hb100 ?_; refine zf ?_; obtain rfl := inj hF; refine thn ⟨rfl, ?_⟩; dsimp only
        exact ⟨F2, rfl, (PH.le.refl _), st, gA, gA, gA⟩
      ·have hF := zx hb102 hF; refine zd st.d dw (fun hm vw => ze hb102 zb) ?_; refine zd st.d dw (fun hm vw => ze hb102 zb) ?_; refine zd st.d dw (fun hm vw => ze hb102 zb) ?_; refine zd st.d dw (fun hm vw => ze hb102 zb) ?_; refine zd st.d dw (fun hm vw => ze hb102 zb) ?_; refine zd st.d dw (fun hm vw => ze hb102 zb) ?_; refine zd st.d dw (fun hm vw => ze hb102 zb) ?_; refine zd st.d dw (fun hm vw => ze hb102 zb) ?_; refine zd st.d dw (fun hm vw => ze hb102 zb) ?_; refine zd st.d dw (fun hm vw => ze hb102 zb) ?_; refine zd st.d dw (fun hm vw => ze hb102 zb) ?_
       refine zd st.d dw (fun hm vw => ze hb102 zb) ?_; refine zd st.d dw (fun hm vw => ze hb102 zb) ?_; refine zd st.d dw (fun hm vw => zG zb) ?_; refine zd st.d dw (fun hm vw => zG zb) ?_; refine zd st.d dw (fun hm vw => zG zb) ?_; refine zd st.d dw (fun hm vw => zG zb) ?_; refine zd st.d dw (fun hm vw => zG zb) ?_; refine zd st.d dw (fun hm vw => zG zb) ?_; refine zd st.d dw (fun hm vw => zG zb) ?_; refine zd st.d dw (fun hm vw => zG zb) ?_; refine zd st.d dw (fun hm vw => zG zb) ?_; refine zd st.d dw (fun hm vw => zG zb) ?_; refine zd st.d dw (fun hm vw => zG zb) ?_
       refine yd st.d dw rfl (fun h112 ex vs => ?_)
       have st := st.ext1 ex
       refine zG ?_; refine ze hb102 ?_; refine zj hb100 (zD hb102 ?_); refine zD hb100 ?_; refine zf ?_; obtain rfl := inj hF; refine thn ⟨rfl, ?_⟩; dsimp only
       exact ⟨F2, rfl, (PH.le.refl _), st, gA, gA, gA⟩
   ·obtain ⟨F89, rfl, le89, st, t0, t3, t57⟩ := hp
    have le113 := PH.le.trans le2 le89
    refine zA (fun hb114 => ?_) (fun hb114 => ?_)
    ·have hF := zw hb114 hF; refine zg (zh ?_); refine za ?_; refine zf (th_n ?_); refine zt ?_; refine ib_r ?_; refine th_r ?_; refine th_r ?_; refine ⟨_, (inj hF).symm, .inl ⟨_, rfl, rfl, rfl, ?_⟩⟩; dsimp only
     exact ⟨F89, rfl, le113, st, gA⟩
    ·have hF := zx hb114 hF; refine zB ?_; refine ib_n ?_; refine th_n ?_; refine zh ?_; refine za ?_; obtain ⟨q115, hF⟩ := zi hF; refine zQ q115 ?_; refine za ?_; refine zf ?_; refine thn ⟨_, (inj hF).symm, rfl, ?_⟩; dsimp only
     exact ⟨F89, rfl, le113, st, gA, gA⟩
  ·have hF := zx hb62 hF; refine z8 ?_; refine th_e ?_; refine th_e ?_; refine ⟨_, (inj hF).symm, .inr (⟨_, rfl, rfl, rfl, ?_⟩)⟩; dsimp only
   exact ⟨F2, rfl, le2, st, gA⟩
 ·rcases hq with hq | hq
  ·obtain ⟨N9, T, ds59⟩ := a; obtain ⟨h116, n117⟩ := σ; obtain ⟨w58, rfl, rfl, e1, F59, e2, le59, st, t2⟩ := hq
   dsimp only at e1 e2
   subst e1
   subst e2
   dsimp only at st t2
   have hF := va hF; refine ib_r ?_; refine th_r ?_; obtain rfl := inj hF
   exact zy st (Res.t gA Res.nil) rfl rfl
  ·obtain ⟨N9, T, ds61⟩ := a; obtain ⟨h118, n119⟩ := σ; obtain ⟨w60, rfl, rfl, e1, F61, e2, le61, st, t0⟩ := hq
   dsimp only at e1 e2
   subst e1
   subst e2
   dsimp only at st t0
   have hF := y9 hF; refine ib_e ?_; refine th_n ?_; refine zg (zh ?_); refine za ?_; refine yA ?_; refine uo ?_; refine za ?_; refine zf (th_n ?_); refine zt ?_; obtain rfl := inj hF
   exact zy st (Res.t gA Res.nil) rfl rfl
theorem ct86 (N : Nat) {a0_0 a0_1 a1 a2 : Int} {r : Bool} (hF : sf86 N a0_0 a0_1 a1 a2 = some r) (hd : D h0 n0) (hs : F0.sub h0) : C LW fl 86 [(.agg [(i64 a0_0), (i64 a0_1)]), (i64 a1), (i64 a2)] ⟨h0, n0⟩ (KS (.bool r) n0 h0) := by
 unfold sf86 at hF
 refine zT hd hs lw86 rfl rfl (by rfl) (fun st T hT => ?_)
 have hfl : n0 ≤ n0 := Nat.le_refl n0
 have t0 := hT 0 _ rfl
 have t1 := hT 1 _ rfl
 have t2 := hT 2 _ rfl
 dsimp only [L86]
 refine zg (zh ?_); refine zS st (fun b1 h2 n3 st => ?_); refine za ?_; refine zf (th_n ?_); refine zg (zh ?_); refine v_fa ?_; refine zq (st.at (i := 0) rfl).2.2 rfl ?_; refine za ?_; refine v_fa ?_; refine zq (st.at (i := 0) rfl).2.2 rfl ?_; obtain ⟨v4, e5, hF⟩ := zm hF; refine zF st (ct25 N e5 st.d st.sub ) (fun n6 st => ?_); refine za ?_
 rcases Bool.eq_false_or_eq_true v4 with hb7 | hb7
 ·have hF := zw hb7 hF; refine zj hb7 (v_fa ?_); refine zj hb7 (zq (st.at (i := 0) rfl).2.2 rfl ?_); refine zj hb7 (za ?_); refine zj hb7 (yw ?_); refine zK hb7 ?_; refine za ?_; refine zf (th_n ?_); refine zt ?_; obtain rfl := inj hF
  exact zy st (Res.t gA Res.nil) rfl rfl
 ·have hF := zx hb7 hF; refine ze hb7 ?_; refine ze hb7 ?_; refine ze hb7 ?_; refine ze hb7 ?_; refine zD hb7 ?_; refine za ?_; refine zf (th_n ?_); refine zt ?_; obtain rfl := inj hF
  exact zy st (Res.t gA Res.nil) rfl rfl
theorem ct27 (N : Nat) {a0_0 a0_1 a0_2 a0_3 : Int} {a0_4 : (List (Int × Int × Int × Int))} {a0_5 : (List (Int × Int))} {a0_6 a0_7 a0_8 a0_9 : Int} {r : (Int × Int)} (hF : sf27 N a0_0 a0_1 a0_2 a0_3 a0_4 a0_5 a0_6 a0_7 a0_8 a0_9 = some r) (hd : D h0 n0) (hs : F0.sub h0) {pa0_4 : Option (Nat × Nat)} {ca0_4 : Nat} {pa0_5 : Option (Nat × Nat)} {ca0_5 : Nat} (ra0_4 : RowF (rP rI (rP rI (rP rI rI))) 4 F0 pa0_4 ca0_4 a0_4) (ra0_5 : RowF (rP rI rI) 2 F0 pa0_5 ca0_5 a0_5) : C LW fl 27 [(.agg [(i64 a0_0), (i64 a0_1), (i64 a0_2), (i64 a0_3), (.slice pa0_4 (a0_4).length ca0_4), (.slice pa0_5 (a0_5).length ca0_5), (i64 a0_6), (i64 a0_7), (i64 a0_8), (i64 a0_9)])] ⟨h0, n0⟩ (KS (.agg [(i64 r.1), (i64 r.2)]) n0 h0) := by
 unfold sf27 at hF
 refine zT hd hs lw27 rfl rfl (by rfl) (fun st T hT => ?_)
 have hfl : n0 ≤ n0 := Nat.le_refl n0
 have t0 := hT 0 _ rfl
 dsimp only [L27]
 refine zg (zh ?_); refine zS st (fun b1 h2 n3 st => ?_); refine zJ st (fun b4 h5 n6 st => ?_); refine zf (th_n ?_); refine zg ?_; refine z9 (Nat.le_trans hfl st.ext.le) (fun dw => ?_); refine zd st.d dw (fun hm vw => v_fa zb) ?_; refine zd st.d dw (fun hm vw => zq (vw.bx (st.at (i := 0) rfl)) rfl zb) ?_; refine zd st.d dw (fun hm vw => v_fa zb) ?_; refine zd st.d dw (fun hm vw => v_fa zb) ?_; refine zd st.d dw (fun hm vw => zq (vw.bx (st.at (i := 0) rfl)) rfl zb) ?_; obtain ⟨v7, e8, hF⟩ := zm hF; refine yl st.d dw (fun hm vw => yo (ct73 N e8 vw.d (vw.sub st) ra0_5) (fun n' hn' => ym hn')) (fun n9 hn' dw => ?_)
 refine zd st.d dw (fun hm vw => v_fa zb) ?_; refine zd st.d dw (fun hm vw => zq (vw.bx (st.at (i := 0) rfl)) rfl zb) ?_; refine zd st.d dw (fun hm vw => v_fa zb) ?_; refine zd st.d dw (fun hm vw => v_fa zb) ?_; refine zd st.d dw (fun hm vw => zq (vw.bx (st.at (i := 0) rfl)) rfl zb) ?_; refine yd st.d dw rfl (fun h10 ex vs => ?_)
 have st := st.ext1 ex
 obtain ⟨v11, e12, hF⟩ := zm hF; refine zF st (ct73 N e12 st.d st.sub ra0_5) (fun n13 st => ?_); refine zO (cs := [(i64 v7), (i64 v11)]) rfl ?_; refine v_st (cs' := [(i64 v7), (i64 v11)]) st 1 rfl rfl rfl rfl hfl (fun h14 st => ?_); refine zf (th_n ?_); refine zt ?_; obtain rfl := inj hF
 exact zy st (Res.c gA (st.at (i := 1) rfl).2.2 (show takeN _ _ = some [(i64 v7), (i64 v11)] from rfl) Res.nil) rfl rfl
end Go.Hx.V

