/- Functions of the program come to that. -/
import Derived.Test.YtamfcjekhiapdaaH05
import Derived.Test.YtamfcjekhiapdaaH06
set_option linter.all false
/- Functions of the program come to that. -/
namespace Go.Hx.V
open Go.Hx
set_option linter.unusedVariables false
set_option maxRecDepth 20000
set_option maxHeartbeats 4000000
attribute [local irreducible] W R C thenH inBlockH Tr.get Tr.set lo
theorem ct26 (N : Nat) {a0_0 : Int} {a0_1 : (List (Int × Int))} {a0_2 : (List (Int × Int × Int))} {a0_3 : Int} {a1 : Int} {r : (Int × Int)} (hF : sf26 N a0_0 a0_1 a0_2 a0_3 a1 = some r) {fl : Nat} {h0 : Tr HBlk} {n0 : Nat} {F0 : PH} (hd : D h0 n0) (hs : F0.sub h0) {pa0_1 : Option (Nat × Nat)} {ca0_1 : Nat} {pa0_2 : Option (Nat × Nat)} {ca0_2 : Nat} (ra0_1 : RowF (rP rI rI) 2 F0 pa0_1 ca0_1 a0_1) (ra0_2 : RowF (rP rI (rP rI rI)) 3 F0 pa0_2 ca0_2 a0_2) : C LW fl 26 [(.agg [(i64 a0_0), (.slice pa0_1 (a0_1).length ca0_1), (.slice pa0_2 (a0_2).length ca0_2), (i64 a0_3)]), (i64 a1)] ⟨h0, n0⟩ (KS (.agg [(i64 r.1), (i64 r.2)]) n0 h0) := by
  unfold sf26 at hF
  refine in_cT hd hs lw26 rfl rfl (by rfl) (fun st T hT => ?_)
  have hfl : n0 ≤ n0 := Nat.le_refl n0
  have t0 := hT 0 _ rfl
  have t1 := hT 1 _ rfl
  dsimp only [L26]
  refine w_seq ?_; refine w_reg ?_; refine v_box st (fun b1 h2 n3 st => ?_); refine v_alloc st (fun b4 h5 n6 st => ?_); refine r_nil ?_; refine th_n ?_; refine w_seq ?_; refine w_drawV (Nat.le_trans hfl st.ext.le) (fun dw => ?_)
  have wf := Wf.start st
  refine y_pure st.d dw (fun hm vw => v_ldn (vs := [(i64 a0_0), (.slice pa0_1 (a0_1).length ca0_1), (.slice pa0_2 (a0_2).length ca0_2), (i64 a0_3)]) (vw.bx (st.at (i := 0) rfl)) rfl pr_nil) ?_; refine y_pure st.d dw (fun hm vw => v_move pr_nil) ?_; refine y_pure st.d dw (fun hm vw => v_ldn (vs := [(i64 a0_0), (.slice pa0_1 (a0_1).length ca0_1), (.slice pa0_2 (a0_2).length ca0_2), (i64 a0_3)]) (vw.bx (st.at (i := 0) rfl)) rfl pr_nil) ?_; obtain ⟨v7, e8, hF⟩ := bnd_some hF
  refine y_deep st dw wf (fun hm vw => u_callR (ct45 N e8 vw.d (FF.sub wf st vw) (Nat.max_le.2 ⟨by have := dw.le; have := st.ext.le; omega, Nat.le_refl _⟩) (RowF.mono FF.base ra0_1) (RowF.mono FF.base ra0_2)) (fun v F' h' n' ex l1 l2 l3 l4 => r_nil ⟨_, _, rfl, ex, l1, l2, l3, l4⟩)) (fun u9 F9 n9 done hn' dw9 wf9 rv9 le9 => ?_)
  have wf := wf9
  have dw := dw9
  obtain ⟨_, rfl, ⟨_, _, rfl, ⟨py10, cy10, rfl, ry10⟩, ⟨py11, cy11, rfl, ry11⟩⟩⟩ := rv9; obtain ⟨v12, e13, hF⟩ := bnd_some hF; refine y_flat st.d dw (fun hm vw => u_call (ct28 N e13 vw.d (FF.sub wf st vw) (RowF.mono FF.base ra0_1) (RowF.mono FF.base ra0_2) (RowF.mono (le9 _ rfl (con_sub rfl)) ry10) (RowF.mono (le9 _ rfl (con_sub rfl)) ry11)) (fun n' hn' => pf_nil hn')) (fun n14 hn' dw => ?_); refine y_pure st.d dw (fun hm vw => v_ldn (vs := [(i64 a0_0), (.slice pa0_1 (a0_1).length ca0_1), (.slice pa0_2 (a0_2).length ca0_2), (i64 a0_3)]) (vw.bx (st.at (i := 0) rfl)) rfl pr_nil) ?_; refine y_pure st.d dw (fun hm vw => v_move pr_nil) ?_; refine y_pure st.d dw (fun hm vw => v_ldn (vs := [(i64 a0_0), (.slice pa0_1 (a0_1).length ca0_1), (.slice pa0_2 (a0_2).length ca0_2), (i64 a0_3)]) (vw.bx (st.at (i := 0) rfl)) rfl pr_nil) ?_
  obtain ⟨v15, e16, hF⟩ := bnd_some hF
  refine y_deep st dw wf (fun hm vw => u_callR (ct45 N e16 vw.d (FF.sub wf st vw) (Nat.max_le.2 ⟨by have := dw.le; have := st.ext.le; omega, Nat.le_refl _⟩) (RowF.mono FF.base ra0_1) (RowF.mono FF.base ra0_2)) (fun v F' h' n' ex l1 l2 l3 l4 => r_nil ⟨_, _, rfl, ex, l1, l2, l3, l4⟩)) (fun u17 F17 n17 done hn' dw17 wf17 rv17 le17 => ?_)
  have le20 := fun (f : Nat → Bool) q1 q2 => PH.le.trans (le9 f q1 q2) (FF.cons wf wf17 dw17)
  have wf := wf17
  have dw := dw17
  obtain ⟨_, rfl, ⟨_, _, rfl, ⟨py18, cy18, rfl, ry18⟩, ⟨py19, cy19, rfl, ry19⟩⟩⟩ := rv17; refine y_end st.d dw rfl (fun h21 ex vs => ?_)
  obtain ⟨F22, lt22, st⟩ := St.laidF st dw wf ex vs (Lay.nil (by have := dw.le; omega)) (fun e he => by cases he)
  have lz23 := lt22 _ (le20 (fun _ => true) rfl (fun _ _ => rfl))
  have lz24 := lt22 _ (le17 (fun _ => true) rfl (fun _ _ => rfl))
  have lb22 := lt22 _ FF.base
  obtain ⟨v25, e26, hF⟩ := bnd_some hF; refine v_call st (ct28 N e26 st.d st.sub (RowF.mono lb22 ra0_1) (RowF.mono lb22 ra0_2) (RowF.mono lz24 ry18) (RowF.mono lz24 ry19)) (fun n27 st => ?_); refine v_build (cs := [(i64 v12), (i64 v25)]) rfl ?_; refine v_st (cs' := [(i64 v12), (i64 v25)]) st 1 rfl rfl rfl rfl hfl (fun h28 st => ?_); refine r_nil ?_; refine th_n ?_; refine w_ret ?_; obtain rfl := inj hF
  exact end_s st (Res.c gA (st.at (i := 1) rfl).2.2 (show takeN _ _ = some [(i64 v12), (i64 v25)] from rfl) Res.nil) rfl rfl
theorem ct88 (N : Nat) {a0 : (List Int)} {r : Bool} (hF : sf88 N a0 = some r) {fl : Nat} {h0 : Tr HBlk} {n0 : Nat} {F0 : PH} (hd : D h0 n0) (hs : F0.sub h0) {pa0 : Option (Nat × Nat)} {ca0 : Nat} (ra0 : RowF rI 1 F0 pa0 ca0 a0) : C LW fl 88 [(.slice pa0 (a0).length ca0)] ⟨h0, n0⟩ (KS (.bool r) n0 h0) := by
  unfold sf88 at hF
  refine in_cT hd hs lw88 rfl rfl (by rfl) (fun st T hT => ?_)
  have hfl : n0 ≤ n0 := Nat.le_refl n0
  have t0 := hT 0 _ rfl
  dsimp only [L88]
  refine w_seq ?_; refine w_reg ?_; refine v_move ?_; refine r_nil ?_; refine th_n ?_; refine w_seq ?_; refine w_reg ?_; refine v_move ?_; obtain ⟨v1, e2, hF⟩ := bnd_some hF; refine v_call st (ct107 N e2 st.d st.sub ra0) (fun n3 st => ?_); refine v_move ?_; refine r_nil ?_; refine th_n ?_; refine w_ret ?_; obtain rfl := inj hF
  exact end_s st (Res.t gA Res.nil) rfl rfl
theorem ct73 (N : Nat) {a0_0 : Int} {a0_1 : (List (Int × Int))} {a0_2 : (List (Int × Int × Int))} {a0_3 : Int} {a0_4 : (List Int)} {a0_5 : (List Int)} {a0_6 : Int} {a1_0 : Int} {a1_1 : Int} {r : Bool} (hF : sf73 N a0_0 a0_1 a0_2 a0_3 a0_4 a0_5 a0_6 a1_0 a1_1 = some r) {fl : Nat} {h0 : Tr HBlk} {n0 : Nat} {F0 : PH} (hd : D h0 n0) (hs : F0.sub h0) {pa0_1 : Option (Nat × Nat)} {ca0_1 : Nat} {pa0_2 : Option (Nat × Nat)} {ca0_2 : Nat} {pa0_4 : Option (Nat × Nat)} {ca0_4 : Nat} {pa0_5 : Option (Nat × Nat)} {ca0_5 : Nat} (ra0_1 : RowF (rP rI rI) 2 F0 pa0_1 ca0_1 a0_1) (ra0_2 : RowF (rP rI (rP rI rI)) 3 F0 pa0_2 ca0_2 a0_2) (ra0_4 : RowF rI 1 F0 pa0_4 ca0_4 a0_4) (ra0_5 : RowF rI 1 F0 pa0_5 ca0_5 a0_5) : C LW fl 73 [(.agg [(i64 a0_0), (.slice pa0_1 (a0_1).length ca0_1), (.slice pa0_2 (a0_2).length ca0_2), (i64 a0_3), (.slice pa0_4 (a0_4).length ca0_4), (.slice pa0_5 (a0_5).length ca0_5), (i64 a0_6)]), (.agg [(i64 a1_0), (i64 a1_1)])] ⟨h0, n0⟩ (KS (.bool r) n0 h0) := by
  unfold sf73 at hF
  refine in_cT hd hs lw73 rfl rfl (by rfl) (fun st T hT => ?_)
  have hfl : n0 ≤ n0 := Nat.le_refl n0
  have t0 := hT 0 _ rfl
  have t1 := hT 1 _ rfl
  dsimp only [L73]
  refine w_seq ?_; refine w_reg ?_; refine v_box st (fun b1 h2 n3 st => ?_); refine v_box st (fun b4 h5 n6 st => ?_); refine v_move ?_; refine r_nil ?_; refine th_n ?_; refine w_seq ?_; refine w_reg ?_; refine v_fa ?_; refine v_ldn (vs := [(i64 a0_0), (.slice pa0_1 (a0_1).length ca0_1), (.slice pa0_2 (a0_2).length ca0_2), (i64 a0_3), (.slice pa0_4 (a0_4).length ca0_4), (.slice pa0_5 (a0_5).length ca0_5)]) (st.at (i := 0) rfl).2.2 rfl ?_; refine v_ldn (vs := [(i64 a1_0), (i64 a1_1)]) (st.at (i := 1) rfl).2.2 rfl ?_; obtain ⟨v7, e8, hF⟩ := bnd_some hF; refine v_call st (ct59 N e8 st.d st.sub ra0_1 ra0_2 ra0_4 ra0_5) (fun n9 st => ?_); refine v_alloc st (fun b10 h11 n12 st => ?_); refine v_st (cs' := [(i64 v7.1), (i64 v7.2)]) st 2 rfl rfl rfl rfl hfl (fun h13 st => ?_)
  refine r_nil ?_; refine th_n ?_; refine w_seq ?_; refine w_drawV (Nat.le_trans hfl st.ext.le) (fun dw => ?_); refine y_pure st.d dw (fun hm vw => v_fa pr_nil) ?_; refine y_pure st.d dw (fun hm vw => v_ld1 (vw.bx (st.at (i := 2) rfl)) rfl pr_nil) ?_; obtain ⟨q14, hF⟩ := ck_some hF; refine y_pure st.d dw (fun hm vw => v_neg q14 pr_nil) ?_; refine y_pure st.d dw (fun hm vw => v_fa pr_nil) ?_; refine y_pure st.d dw (fun hm vw => v_ld1 (vw.bx (st.at (i := 2) rfl)) rfl pr_nil) ?_; refine y_lay st.d dw (fun hm vw => u_bs (cs := [(i64 v7.2)]) rfl pr_nil) (fun done dw => ?_); obtain ⟨v15, e16, hF⟩ := bnd_some hF; refine y_flat st.d dw (fun hm vw => u_call (ct96 N e16 vw.d (all_sub _) (RowF.blk (F := F0) (vw.vis _ (List.mem_cons_self ..) rfl _ _ (if_pos rfl)) (show LR rI 1 F0 [v7.2] [(i64 v7.2)] from (LR.one (rfl))) (vw.sub st))) (fun n' hn' => pf_nil hn')) (fun n17 hn' dw => ?_)
  refine y_pure st.d dw (fun hm vw => v_fa pr_nil) ?_; refine y_pure st.d dw (fun hm vw => v_ld1 (vw.bx (st.at (i := 0) rfl)) rfl pr_nil) ?_; refine y_end st.d dw rfl (fun h18 ex vs => ?_)
  have st := St.laid st ex (Lay.cons (b := n12) (cs := [(i64 v7.2)]) (by have := dw.le; omega) (vs _ (List.mem_cons_self ..) _ _ (if_pos rfl)) (Lay.nil (by have := dw.le; omega)))
  refine v_leq ?_; refine v_move ?_; refine r_nil ?_; refine th_n ?_; refine w_ret ?_; obtain rfl := inj hF
  exact end_s st (Res.t gA Res.nil) rfl rfl
theorem ct71 (N : Nat) {a0 : (List Int)} {r : Int} (hF : sf71 N a0 = some r) {fl : Nat} {h0 : Tr HBlk} {n0 : Nat} {F0 : PH} (hd : D h0 n0) (hs : F0.sub h0) {pa0 : Option (Nat × Nat)} {ca0 : Nat} (ra0 : RowF rI 1 F0 pa0 ca0 a0) : C LW fl 71 [(.slice pa0 (a0).length ca0)] ⟨h0, n0⟩ (KS (i64 r) n0 h0) := by
  unfold sf71 at hF
  refine in_cT hd hs lw71 rfl rfl (by rfl) (fun st T hT => ?_)
  have hfl : n0 ≤ n0 := Nat.le_refl n0
  have t0 := hT 0 _ rfl
  dsimp only [L71]
  refine w_seq ?_; refine w_reg ?_; refine v_move ?_; refine r_nil ?_; refine th_n ?_; refine w_seq ?_; refine w_reg ?_; obtain ⟨v1, e2, hF⟩ := bnd_some hF; refine v_call st (ct95 N e2 st.d st.sub ) (fun n3 st => ?_); refine v_alloc st (fun b4 h5 n6 st => ?_); refine v_move ?_; refine v_st (cs' := [(i64 v1.1), (i64 v1.2.1), (i64 v1.2.2)]) st 0 rfl rfl rfl rfl hfl (fun h7 st => ?_); refine r_nil ?_; refine th_n ?_; refine w_seq ?_; refine w_seq ?_; refine w_reg ?_; refine v_move ?_; refine v_len ?_; refine v_move ?_; refine r_nil ?_; refine th_n ?_; refine w_block ?_; obtain ⟨y25, hy, hF⟩ := bnd_some hF; refine v_loopD (sf71_L1 N a0) (fun x8 T ds9 h nx => ∃ (F9 : PH), ds9 = [] ∧ PH.le F0 F9 ∧ St n0 h0 F0 F9 h nx [.bx b4 [(i64 x8.2.2.1), (i64 x8.2.2.2.1), (i64 x8.2.2.2.2)]] ∧ T.get 3 = some (i64 x8.1) ∧ T.get 4 = some (.ptr (some (b4, 0))) ∧ T.get 9 = some (.slice pa0 (a0).length ca0) ∧ T.get 10 = some (i64 ((a0).length : Int)) ∧ T.get 11 = some (i64 x8.2.1)) (fun y e a σ => e = .exit 0 ∧ a.nt = 26 ∧ ∃ (F26 : PH), a.defers = [] ∧ PH.le F0 F26 ∧ St n0 h0 F0 F26 σ.h σ.nx [.bx b4 [(i64 y.2.1), (i64 y.2.2.1), (i64 y.2.2.2)]] ∧ a.tmps.get 3 = some (i64 y.1)) (fun x8 T ds9 h nx s hp hF => ?_) N _ y25 _ _ _ _ hy ⟨F0, rfl, (PH.le.refl _), st, gA, gA, gA, gA, gA⟩ (fun e a σ hne hq => ?_)
  · obtain ⟨F9, rfl, le9, st, t3, t4, t9, t10, t11⟩ := hp; unfold sf71_L1 at hF; unfold L71w0; refine w_seq ?_; refine w_reg ?_; refine v_lss ?_; refine r_nil ?_; refine th_n ?_; refine w_seq ?_; refine v_cond (fun hb27 => ?_) (fun hb27 => ?_)
    · have hF := bif_t hb27 hF; refine w_skip ?_; refine th_n ?_; refine w_seq ?_; refine w_block ?_; refine w_seq ?_; refine w_reg ?_; obtain ⟨n28, x28, z28, l28, g28, hF⟩ := ix_some hF; obtain ⟨b28, o28, s28, j28, r28, e28, f28, k28, rfl⟩ := RowF.get ra0 g28; refine v_ixp e28 z28 l28 ?_; refine v_ld1 (st.sub _ _ (le9 _ _ f28)) (take_at (j := 0) k28 rfl) ?_; refine v_move ?_; refine r_nil ?_; refine th_n ?_; refine w_seq ?_; refine w_reg ?_; refine v_ldn (vs := [(i64 x8.2.2.1), (i64 x8.2.2.2.1), (i64 x8.2.2.2.2)]) (st.at (i := 0) rfl).2.2 rfl ?_; refine v_move ?_; obtain ⟨v29, e30, hF⟩ := bnd_some hF; refine v_call st (ct93 N e30 st.d st.sub ) (fun n31 st => ?_); refine v_alloc st (fun b32 h33 n34 st => ?_)
      refine v_st (cs' := [(i64 v29.1), (i64 v29.2.1), (i64 v29.2.2)]) st 1 rfl rfl rfl rfl hfl (fun h35 st => ?_); refine r_nil ?_; refine th_n ?_; refine w_seq ?_; refine w_reg ?_; refine v_move ?_; refine v_ldn (vs := [(i64 x8.2.2.1), (i64 x8.2.2.2.1), (i64 x8.2.2.2.2)]) (st.at (i := 0) rfl).2.2 rfl ?_; refine v_ldn (vs := [(i64 v29.1), (i64 v29.2.1), (i64 v29.2.2)]) (st.at (i := 1) rfl).2.2 rfl ?_; obtain ⟨v36, e37, hF⟩ := bnd_some hF; refine v_call st (ct94 N e37 st.d st.sub ) (fun n38 st => ?_); obtain ⟨q39, hF⟩ := ck_some hF; refine v_add q39 ?_; refine v_move ?_; refine r_nil ?_; refine th_n ?_; refine w_reg ?_; refine v_ldn (vs := [(i64 v29.1), (i64 v29.2.1), (i64 v29.2.2)]) (st.at (i := 1) rfl).2.2 rfl ?_
      refine v_st (cs' := [(i64 v29.1), (i64 v29.2.1), (i64 v29.2.2)]) st 0 rfl rfl rfl rfl hfl (fun h40 st => ?_); refine r_nil ?_; refine ib_n ?_; refine th_n ?_; refine w_reg ?_; obtain ⟨q41, hF⟩ := ck_some hF; refine v_add q41 ?_; refine v_move ?_; refine r_nil ?_; refine thn ⟨_, (inj hF).symm, rfl, ?_⟩; dsimp only
      exact ⟨F9, rfl, le9, (st.drop (by first | exact List.Sublist.refl _ | (repeat first | exact List.nil_sublist _ | refine List.Sublist.cons_cons _ ?_ | refine List.Sublist.cons _ ?_))), gA, gA, gA, gA, gA⟩
    · have hF := bif_f hb27 hF; refine w_exit ?_; refine th_e ?_; refine th_e ?_; refine ⟨_, (inj hF).symm, rfl, rfl, ?_⟩; dsimp only
      exact ⟨F9, rfl, le9, st, gA⟩
  · obtain ⟨N9, T, ds26⟩ := a; obtain ⟨h42, n43⟩ := σ; obtain ⟨rfl, e1, F26, e2, le26, st, t3⟩ := hq
    dsimp only at e1 e2
    subst e1
    subst e2
    dsimp only at st t3
    refine ib_e ?_; refine th_n ?_; refine w_seq ?_; refine w_reg ?_; refine v_move ?_; refine v_move ?_; refine r_nil ?_; refine th_n ?_; refine w_ret ?_; obtain rfl := inj hF
    exact end_s st (Res.t gA Res.nil) rfl rfl
end Go.Hx.V

/- Functions of the program come to that. -/
namespace Go.Hx.V
open Go.Hx
set_option linter.unusedVariables false
set_option maxRecDepth 20000
set_option maxHeartbeats 4000000
attribute [local irreducible] W R C thenH inBlockH Tr.get Tr.set lo
theorem ct77 (N : Nat) {a0_0 : Int} {a0_1 : (List (Int × Int))} {a0_2 : (List (Int × Int × Int))} {a0_3 : Int} {r : Bool} (hF : sf77 N a0_0 a0_1 a0_2 a0_3 = some r) {fl : Nat} {h0 : Tr HBlk} {n0 : Nat} {F0 : PH} (hd : D h0 n0) (hs : F0.sub h0) {pa0_1 : Option (Nat × Nat)} {ca0_1 : Nat} {pa0_2 : Option (Nat × Nat)} {ca0_2 : Nat} (ra0_1 : RowF (rP rI rI) 2 F0 pa0_1 ca0_1 a0_1) (ra0_2 : RowF (rP rI (rP rI rI)) 3 F0 pa0_2 ca0_2 a0_2) : C LW fl 77 [(.agg [(i64 a0_0), (.slice pa0_1 (a0_1).length ca0_1), (.slice pa0_2 (a0_2).length ca0_2), (i64 a0_3)])] ⟨h0, n0⟩ (KS (.bool r) n0 h0) := by
  unfold sf77 at hF
  refine in_cT hd hs lw77 rfl rfl (by rfl) (fun st T hT => ?_)
  have hfl : n0 ≤ n0 := Nat.le_refl n0
  have t0 := hT 0 _ rfl
  dsimp only [L77]
  refine w_seq ?_; refine w_reg ?_; refine v_box st (fun b1 h2 n3 st => ?_); refine v_move ?_; refine r_nil ?_; refine th_n ?_; refine w_seq ?_; refine w_reg ?_; refine v_fa ?_; refine v_ld1 (st.at (i := 0) rfl).2.2 rfl ?_; refine v_len ?_; refine v_gtr ?_; refine v_move ?_
  rcases Bool.eq_false_or_eq_true (decide ((0 : Int) < ((a0_2).length : Int))) with hb4 | hb4
  · have hF := bif_t hb4 hF; refine g_take hb4 (v_fa ?_); refine g_take hb4 (v_ld1 (st.at (i := 0) rfl).2.2 rfl ?_); obtain ⟨n5, x5, z5, l5, g5, hF⟩ := ix_some hF; obtain ⟨b5, o5, s5, j5, r5, e5, f5, k5, ⟨_, _, rfl, rfl, ⟨_, _, rfl, rfl, rfl⟩⟩⟩ := RowF.get ra0_2 g5; refine g_take hb4 (v_ixp e5 z5 l5 ?_); refine g_take hb4 (v_fa ?_); refine g_take hb4 (v_ld1 (st.sub _ _ f5) (take_at (j := 0) k5 rfl) ?_); refine g_take hb4 (v_eqi ?_); refine v_pick hb4 ?_; refine v_move ?_
    rcases Bool.eq_false_or_eq_true (decide (x5.1 = (0 : Int))) with hb6 | hb6
    · have hF := bif_t hb6 hF; refine g_take hb6 (v_fa ?_); refine g_take hb6 (v_ld1 (st.at (i := 0) rfl).2.2 rfl ?_); obtain ⟨v7, e8, hF⟩ := bnd_some hF; refine g_take hb6 (v_call st (ct99 N e8 st.d st.sub ra0_2) (fun n9 st => ?_)); refine v_pick hb6 ?_; refine v_move ?_
      rcases Bool.eq_false_or_eq_true v7 with hb10 | hb10
      · have hF := bif_t hb10 hF; refine g_take hb10 (v_fa ?_); refine g_take hb10 (v_ld1 (st.at (i := 0) rfl).2.2 rfl ?_); obtain ⟨v11, e12, hF⟩ := bnd_some hF; refine g_take hb10 (v_call st (ct101 N e12 st.d st.sub ra0_2) (fun n13 st => ?_)); refine v_pick hb10 ?_; refine v_move ?_; refine r_nil ?_; refine th_n ?_; refine w_ret ?_; obtain rfl := inj hF
        exact end_s st (Res.t gA Res.nil) rfl rfl
      · have hF := bif_f hb10 hF; refine g_skip hb10 ?_; refine g_skip hb10 ?_; refine g_skip hb10 ?_; refine v_pick' hb10 ?_; refine v_move ?_; refine r_nil ?_; refine th_n ?_; refine w_ret ?_; obtain rfl := inj hF
        exact end_s st (Res.t gA Res.nil) rfl rfl
    · have hF := bif_f hb6 hF; refine g_skip hb6 ?_; refine g_skip hb6 ?_; refine g_skip hb6 ?_; refine v_pick' hb6 ?_; refine v_move ?_; refine g_skip rfl ?_; refine g_skip rfl ?_; refine g_skip rfl ?_; refine v_pick' rfl ?_; refine v_move ?_; refine r_nil ?_; refine th_n ?_; refine w_ret ?_; obtain rfl := inj hF
      exact end_s st (Res.t gA Res.nil) rfl rfl
  · have hF := bif_f hb4 hF; refine g_skip hb4 ?_; refine g_skip hb4 ?_; refine g_skip hb4 ?_; refine g_skip hb4 ?_; refine g_skip hb4 ?_; refine g_skip hb4 ?_; refine v_pick' hb4 ?_; refine v_move ?_; refine g_skip rfl ?_; refine g_skip rfl ?_; refine g_skip rfl ?_; refine v_pick' rfl ?_; refine v_move ?_; refine g_skip rfl ?_; refine g_skip rfl ?_; refine g_skip rfl ?_; refine v_pick' rfl ?_; refine v_move ?_; refine r_nil ?_; refine th_n ?_; refine w_ret ?_; obtain rfl := inj hF
    exact end_s st (Res.t gA Res.nil) rfl rfl
theorem ct23 (N : Nat) {a0_0 : Int} {a0_1 : (List (Int × Int))} {a0_2 : (List (Int × Int × Int))} {a0_3 : Int} {r : Int} (hF : sf23 N a0_0 a0_1 a0_2 a0_3 = some r) {fl : Nat} {h0 : Tr HBlk} {n0 : Nat} {F0 : PH} (hd : D h0 n0) (hs : F0.sub h0) {pa0_1 : Option (Nat × Nat)} {ca0_1 : Nat} {pa0_2 : Option (Nat × Nat)} {ca0_2 : Nat} (ra0_1 : RowF (rP rI rI) 2 F0 pa0_1 ca0_1 a0_1) (ra0_2 : RowF (rP rI (rP rI rI)) 3 F0 pa0_2 ca0_2 a0_2) : C LW fl 23 [(.agg [(i64 a0_0), (.slice pa0_1 (a0_1).length ca0_1), (.slice pa0_2 (a0_2).length ca0_2), (i64 a0_3)])] ⟨h0, n0⟩ (KS (i64 r) n0 h0) := by
  unfold sf23 at hF
  refine in_cT hd hs lw23 rfl rfl (by rfl) (fun st T hT => ?_)
  have hfl : n0 ≤ n0 := Nat.le_refl n0
  have t0 := hT 0 _ rfl
  dsimp only [L23]
  refine w_seq ?_; refine w_reg ?_; refine v_box st (fun b1 h2 n3 st => ?_); refine v_move ?_; refine r_nil ?_; refine th_n ?_; refine w_seq ?_; refine w_reg ?_; refine v_ldn (vs := [(i64 a0_0), (.slice pa0_1 (a0_1).length ca0_1), (.slice pa0_2 (a0_2).length ca0_2), (i64 a0_3)]) (st.at (i := 0) rfl).2.2 rfl ?_; obtain ⟨v4, e5, hF⟩ := bnd_some hF; refine v_call st (ct56 N e5 st.d st.sub ra0_1 ra0_2) (fun n6 st => ?_); refine v_move ?_; refine r_nil ?_; refine th_n ?_; refine w_ret ?_; obtain rfl := inj hF
  exact end_s st (Res.t gA Res.nil) rfl rfl
theorem ct62 (N : Nat) {a0_0 : Int} {a0_1 : (List (Int × Int))} {a0_2 : (List (Int × Int × Int))} {a0_3 : Int} {a1 : Int} {r : (Int × (List (Int × Int)) × (List (Int × Int × Int)) × Int × (List Int) × (List Int) × Int)} (hF : sf62 N a0_0 a0_1 a0_2 a0_3 a1 = some r) {fl : Nat} {h0 : Tr HBlk} {n0 : Nat} {F0 : PH} (hd : D h0 n0) (hs : F0.sub h0) (hfl : fl ≤ n0) {pa0_1 : Option (Nat × Nat)} {ca0_1 : Nat} {pa0_2 : Option (Nat × Nat)} {ca0_2 : Nat} (ra0_1 : RowF (rP rI rI) 2 F0 pa0_1 ca0_1 a0_1) (ra0_2 : RowF (rP rI (rP rI rI)) 3 F0 pa0_2 ca0_2 a0_2) : C LW fl 62 [(.agg [(i64 a0_0), (.slice pa0_1 (a0_1).length ca0_1), (.slice pa0_2 (a0_2).length ca0_2), (i64 a0_3)]), (i64 a1)] ⟨h0, n0⟩ (KR (rvA (rP rI (rP (rL (rP rI rI) 2) (rP (rL (rP rI (rP rI rI)) 3) (rP rI (rP (rL rI 1) (rP (rL rI 1) rI))))))) F0 h0 n0 r) := by
  unfold sf62 at hF
  refine in_mT hd hs hfl lw62 rfl rfl (by rfl) (fun st T hT => ?_)
  have t0 := hT 0 _ rfl
  have t1 := hT 1 _ rfl
  dsimp only [L62]
  refine w_seq ?_; refine w_reg ?_; refine v_box st (fun b1 h2 n3 st => ?_); refine v_alloc st (fun b4 h5 n6 st => ?_); refine r_nil ?_; refine th_n ?_; refine w_seq ?_; refine w_reg ?_; refine v_ldn (vs := [(i64 a0_0), (.slice pa0_1 (a0_1).length ca0_1), (.slice pa0_2 (a0_2).length ca0_2), (i64 a0_3)]) (st.at (i := 0) rfl).2.2 rfl ?_; obtain ⟨v7, e8, hF⟩ := bnd_some hF; refine v_callR st (ct54 N e8 st.d st.sub (Nat.le_trans hfl st.ext.le) ra0_1 ra0_2) (fun u9 F9 h9 n9 le9 rv9 st => ?_); obtain ⟨_, rfl, ⟨_, _, rfl, rfl, ⟨_, _, rfl, ⟨py10, cy10, rfl, ry10⟩, ⟨_, _, rfl, ⟨py11, cy11, rfl, ry11⟩, ⟨_, _, rfl, rfl, ⟨_, _, rfl, ⟨py12, cy12, rfl, ry12⟩, ⟨py13, cy13, rfl, ry13⟩⟩⟩⟩⟩⟩⟩ := rv9; refine v_move ?_
  refine v_build (cs := [(i64 v7.1), (.slice py10 (v7.2.1).length cy10), (.slice py11 (v7.2.2.1).length cy11), (i64 v7.2.2.2.1), (.slice py12 (v7.2.2.2.2.1).length cy12), (.slice py13 (v7.2.2.2.2.2).length cy13), (i64 a1)]) rfl ?_; refine v_st (cs' := [(i64 v7.1), (.slice py10 (v7.2.1).length cy10), (.slice py11 (v7.2.2.1).length cy11), (i64 v7.2.2.2.1), (.slice py12 (v7.2.2.2.2.1).length cy12), (.slice py13 (v7.2.2.2.2.2).length cy13), (i64 a1)]) st 1 rfl rfl rfl rfl hfl (fun h14 st => ?_); refine r_nil ?_; refine th_n ?_; refine w_ret ?_; obtain rfl := inj hF
  exact end_r st (Res.c gA (st.at (i := 1) rfl).2.2 (show takeN _ _ = some [(i64 v7.1), (.slice py10 (v7.2.1).length cy10), (.slice py11 (v7.2.2.1).length cy11), (i64 v7.2.2.2.1), (.slice py12 (v7.2.2.2.2.1).length cy12), (.slice py13 (v7.2.2.2.2.2).length cy13), (i64 a1)] from rfl) Res.nil) ⟨_, rfl, ⟨[(i64 v7.1)], [(.slice py10 (v7.2.1).length cy10), (.slice py11 (v7.2.2.1).length cy11), (i64 v7.2.2.2.1), (.slice py12 (v7.2.2.2.2.1).length cy12), (.slice py13 (v7.2.2.2.2.2).length cy13), (i64 a1)], rfl, rfl, ⟨[(.slice py10 (v7.2.1).length cy10)], [(.slice py11 (v7.2.2.1).length cy11), (i64 v7.2.2.2.1), (.slice py12 (v7.2.2.2.2.1).length cy12), (.slice py13 (v7.2.2.2.2.2).length cy13), (i64 a1)], rfl, ⟨_, _, rfl, ry10⟩, ⟨[(.slice py11 (v7.2.2.1).length cy11)], [(i64 v7.2.2.2.1), (.slice py12 (v7.2.2.2.2.1).length cy12), (.slice py13 (v7.2.2.2.2.2).length cy13), (i64 a1)], rfl, ⟨_, _, rfl, ry11⟩, ⟨[(i64 v7.2.2.2.1)], [(.slice py12 (v7.2.2.2.2.1).length cy12), (.slice py13 (v7.2.2.2.2.2).length cy13), (i64 a1)], rfl, rfl, ⟨[(.slice py12 (v7.2.2.2.2.1).length cy12)], [(.slice py13 (v7.2.2.2.2.2).length cy13), (i64 a1)], rfl, ⟨_, _, rfl, ry12⟩, ⟨[(.slice py13 (v7.2.2.2.2.2).length cy13)], [(i64 a1)], rfl, ⟨_, _, rfl, ry13⟩, rfl⟩⟩⟩⟩⟩⟩⟩
theorem ct63 (N : Nat) {a0_0 : Int} {a0_1 : (List (Int × Int))} {a0_2 : (List (Int × Int × Int))} {a0_3 : Int} {a0_4 : (List Int)} {a0_5 : (List Int)} {a0_6 : Int} {a1_0 : Int} {a1_1 : Int} {r : Bool} (hF : sf63 N a0_0 a0_1 a0_2 a0_3 a0_4 a0_5 a0_6 a1_0 a1_1 = some r) {fl : Nat} {h0 : Tr HBlk} {n0 : Nat} {F0 : PH} (hd : D h0 n0) (hs : F0.sub h0) {pa0_1 : Option (Nat × Nat)} {ca0_1 : Nat} {pa0_2 : Option (Nat × Nat)} {ca0_2 : Nat} {pa0_4 : Option (Nat × Nat)} {ca0_4 : Nat} {pa0_5 : Option (Nat × Nat)} {ca0_5 : Nat} (ra0_1 : RowF (rP rI rI) 2 F0 pa0_1 ca0_1 a0_1) (ra0_2 : RowF (rP rI (rP rI rI)) 3 F0 pa0_2 ca0_2 a0_2) (ra0_4 : RowF rI 1 F0 pa0_4 ca0_4 a0_4) (ra0_5 : RowF rI 1 F0 pa0_5 ca0_5 a0_5) : C LW fl 63 [(.agg [(i64 a0_0), (.slice pa0_1 (a0_1).length ca0_1), (.slice pa0_2 (a0_2).length ca0_2), (i64 a0_3), (.slice pa0_4 (a0_4).length ca0_4), (.slice pa0_5 (a0_5).length ca0_5), (i64 a0_6)]), (.agg [(i64 a1_0), (i64 a1_1)])] ⟨h0, n0⟩ (KS (.bool r) n0 h0) := by
  unfold sf63 at hF
  refine in_cT hd hs lw63 rfl rfl (by rfl) (fun st T hT => ?_)
  have hfl : n0 ≤ n0 := Nat.le_refl n0
  have t0 := hT 0 _ rfl
  have t1 := hT 1 _ rfl
  dsimp only [L63]
  refine w_seq ?_; refine w_reg ?_; refine v_box st (fun b1 h2 n3 st => ?_); refine v_box st (fun b4 h5 n6 st => ?_); refine v_move ?_; refine r_nil ?_; refine th_n ?_; refine w_seq ?_; refine w_reg ?_; refine v_ldn (vs := [(i64 a0_0), (.slice pa0_1 (a0_1).length ca0_1), (.slice pa0_2 (a0_2).length ca0_2), (i64 a0_3), (.slice pa0_4 (a0_4).length ca0_4), (.slice pa0_5 (a0_5).length ca0_5), (i64 a0_6)]) (st.at (i := 0) rfl).2.2 rfl ?_; refine v_ldn (vs := [(i64 a1_0), (i64 a1_1)]) (st.at (i := 1) rfl).2.2 rfl ?_; obtain ⟨v7, e8, hF⟩ := bnd_some hF; refine v_call st (ct73 N e8 st.d st.sub ra0_1 ra0_2 ra0_4 ra0_5) (fun n9 st => ?_); refine v_not ?_; refine v_move ?_; refine r_nil ?_; refine th_n ?_
  refine w_ret ?_; obtain rfl := inj hF
  exact end_s st (Res.t gA Res.nil) rfl rfl
theorem ct34 (N : Nat) {a0_0 : Int} {a0_1 : (List (Int × Int))} {a0_2 : (List (Int × Int × Int))} {a0_3 : Int} {a1 : Int} {a2 : Int} {r : Int} (hF : sf34 N a0_0 a0_1 a0_2 a0_3 a1 a2 = some r) {fl : Nat} {h0 : Tr HBlk} {n0 : Nat} {F0 : PH} (hd : D h0 n0) (hs : F0.sub h0) {pa0_1 : Option (Nat × Nat)} {ca0_1 : Nat} {pa0_2 : Option (Nat × Nat)} {ca0_2 : Nat} (ra0_1 : RowF (rP rI rI) 2 F0 pa0_1 ca0_1 a0_1) (ra0_2 : RowF (rP rI (rP rI rI)) 3 F0 pa0_2 ca0_2 a0_2) : C LW fl 34 [(.agg [(i64 a0_0), (.slice pa0_1 (a0_1).length ca0_1), (.slice pa0_2 (a0_2).length ca0_2), (i64 a0_3)]), (i64 a1), (i64 a2)] ⟨h0, n0⟩ (KS (i64 r) n0 h0) := by
  unfold sf34 at hF
  refine in_cT hd hs lw34 rfl rfl (by rfl) (fun st T hT => ?_)
  have hfl : n0 ≤ n0 := Nat.le_refl n0
  have t0 := hT 0 _ rfl
  have t1 := hT 1 _ rfl
  have t2 := hT 2 _ rfl
  dsimp only [L34]
  refine w_seq ?_; refine w_reg ?_; refine v_box st (fun b1 h2 n3 st => ?_); refine v_move ?_; refine r_nil ?_; refine th_n ?_; refine w_seq ?_; refine w_reg ?_; refine v_ldn (vs := [(i64 a0_0), (.slice pa0_1 (a0_1).length ca0_1), (.slice pa0_2 (a0_2).length ca0_2), (i64 a0_3)]) (st.at (i := 0) rfl).2.2 rfl ?_; refine v_move ?_; obtain ⟨v4, e5, hF⟩ := bnd_some hF; refine v_call st (ct26 N e5 st.d st.sub ra0_1 ra0_2) (fun n6 st => ?_); refine v_alloc st (fun b7 h8 n9 st => ?_); refine v_st (cs' := [(i64 v4.1), (i64 v4.2)]) st 1 rfl rfl rfl rfl hfl (fun h10 st => ?_); refine r_nil ?_; refine th_n ?_; refine w_seq ?_; refine w_reg ?_; refine v_move ?_; refine v_fa ?_; refine v_ld1 (st.at (i := 1) rfl).2.2 rfl ?_
  obtain ⟨q11, hF⟩ := ck_some hF; refine v_sub q11 ?_; refine v_fa ?_; refine v_ld1 (st.at (i := 1) rfl).2.2 rfl ?_; refine v_move ?_; obtain ⟨q12, hF⟩ := ck_some hF; refine v_sub q12 ?_; refine v_max3 ?_; refine v_move ?_; refine r_nil ?_; refine th_n ?_; refine w_ret ?_; obtain rfl := inj hF
  exact end_s st (Res.t gA Res.nil) rfl rfl
theorem ct72 (N : Nat) {a0 : (List (Int × Int))} {a1f0_0 : Int} {a1f0_1 : (List (Int × Int))} {a1f0_2 : (List (Int × Int × Int))} {a1f0_3 : Int} {a1f0_4 : (List Int)} {a1f0_5 : (List Int)} {a1f0_6 : Int} {r : Bool} (hF : sf72 N a0 a1f0_0 a1f0_1 a1f0_2 a1f0_3 a1f0_4 a1f0_5 a1f0_6 = some r) {fl : Nat} {h0 : Tr HBlk} {n0 : Nat} {F0 : PH} (hd : D h0 n0) (hs : F0.sub h0) {pa0 : Option (Nat × Nat)} {ca0 : Nat} {pa1f0_1 : Option (Nat × Nat)} {ca1f0_1 : Nat} {pa1f0_2 : Option (Nat × Nat)} {ca1f0_2 : Nat} {pa1f0_4 : Option (Nat × Nat)} {ca1f0_4 : Nat} {pa1f0_5 : Option (Nat × Nat)} {ca1f0_5 : Nat} (ra0 : RowF (rP rI rI) 2 F0 pa0 ca0 a0) (ra1f0_1 : RowF (rP rI rI) 2 F0 pa1f0_1 ca1f0_1 a1f0_1) (ra1f0_2 : RowF (rP rI (rP rI rI)) 3 F0 pa1f0_2 ca1f0_2 a1f0_2) (ra1f0_4 : RowF rI 1 F0 pa1f0_4 ca1f0_4 a1f0_4) (ra1f0_5 : RowF rI 1 F0 pa1f0_5 ca1f0_5 a1f0_5) : C LW fl 72 [(.slice pa0 (a0).length ca0), (.func 73 [(.agg [(i64 a1f0_0), (.slice pa1f0_1 (a1f0_1).length ca1f0_1), (.slice pa1f0_2 (a1f0_2).length ca1f0_2), (i64 a1f0_3), (.slice pa1f0_4 (a1f0_4).length ca1f0_4), (.slice pa1f0_5 (a1f0_5).length ca1f0_5), (i64 a1f0_6)])] [])] ⟨h0, n0⟩ (KS (.bool r) n0 h0) := by
  unfold sf72 at hF
  refine in_cT hd hs lw72 rfl rfl (by rfl) (fun st T hT => ?_)
  have hfl : n0 ≤ n0 := Nat.le_refl n0
  have t0 := hT 0 _ rfl
  have t1 := hT 1 _ rfl
  dsimp only [L72]
  refine w_seq ?_; refine w_reg ?_; refine v_move ?_; refine r_nil ?_; refine th_n ?_; refine w_seq ?_; refine w_seq ?_; refine w_reg ?_; refine v_move ?_; refine v_len ?_; refine v_move ?_; refine r_nil ?_; refine th_n ?_; refine w_block ?_; obtain ⟨y14, hy, hF⟩ := bnd_some hF; refine v_loopD (sf72_L1 N a0 a1f0_0 a1f0_1 a1f0_2 a1f0_3 a1f0_4 a1f0_5 a1f0_6) (fun x1 T ds2 h nx => ∃ (F2 : PH), ds2 = [] ∧ PH.le F0 F2 ∧ St n0 h0 F0 F2 h nx [] ∧ T.get 1 = some (.func 73 [(.agg [(i64 a1f0_0), (.slice pa1f0_1 (a1f0_1).length ca1f0_1), (.slice pa1f0_2 (a1f0_2).length ca1f0_2), (i64 a1f0_3), (.slice pa1f0_4 (a1f0_4).length ca1f0_4), (.slice pa1f0_5 (a1f0_5).length ca1f0_5), (i64 a1f0_6)])] []) ∧ T.get 7 = some (.slice pa0 (a0).length ca0) ∧ T.get 8 = some (i64 ((a0).length : Int)) ∧ T.get 9 = some (i64 x1)) (fun y e a σ => (∃ u, y = (.inl u) ∧ e = .ret ∧ a.nt = 18 ∧ ∃ (F16 : PH), a.defers = [] ∧ PH.le F0 F16 ∧ St n0 h0 F0 F16 σ.h σ.nx [] ∧ a.tmps.get 4 = some (.bool false)) ∨ (∃ u, y = (.inr u) ∧ e = .exit 0 ∧ a.nt = 18 ∧ ∃ (F18 : PH), a.defers = [] ∧ PH.le F0 F18 ∧ St n0 h0 F0 F18 σ.h σ.nx [])) (fun x1 T ds2 h nx s hp hF => ?_) N _ y14 _ _ _ _ hy ⟨F0, rfl, (PH.le.refl _), st, gA, gA, gA, gA⟩ (fun e a σ hne hq => ?_)
  · obtain ⟨F2, rfl, le2, st, t1, t7, t8, t9⟩ := hp; unfold sf72_L1 at hF; unfold L72w0; refine w_seq ?_; refine w_reg ?_; refine v_lss ?_; refine r_nil ?_; refine th_n ?_; refine w_seq ?_; refine v_cond (fun hb19 => ?_) (fun hb19 => ?_)
    · have hF := bif_t hb19 hF; refine w_skip ?_; refine th_n ?_; refine w_seq ?_; refine w_block ?_; refine w_seq ?_; refine w_reg ?_; obtain ⟨n20, x20, z20, l20, g20, hF⟩ := ix_some hF; obtain ⟨b20, o20, s20, j20, r20, e20, f20, k20, ⟨_, _, rfl, rfl, rfl⟩⟩ := RowF.get ra0 g20; refine v_ixp e20 z20 l20 ?_; refine v_ldn (st.sub _ _ (le2 _ _ f20)) k20 ?_; refine v_alloc st (fun b21 h22 n23 st => ?_); refine v_st (cs' := [(i64 x20.1), (i64 x20.2)]) st 0 rfl rfl rfl rfl hfl (fun h24 st => ?_); refine r_nil ?_; refine th_n ?_; refine w_seq ?_; refine w_reg ?_; refine v_move ?_; refine v_ldn (vs := [(i64 x20.1), (i64 x20.2)]) (st.at (i := 0) rfl).2.2 rfl ?_; obtain ⟨v25, e26, hF⟩ := bnd_some hF; refine v_call st (ct73 N e26 st.d st.sub (RowF.mono le2 ra1f0_1) (RowF.mono le2 ra1f0_2) (RowF.mono le2 ra1f0_4) (RowF.mono le2 ra1f0_5)) (fun n27 st => ?_)
      refine v_not ?_; refine r_nil ?_; refine th_n ?_; refine v_cond (fun hb28 => ?_) (fun hb28 => ?_)
      · have hF := bif_t hb28 hF; refine w_seq ?_; refine w_reg ?_; refine v_move ?_; refine r_nil ?_; refine th_n ?_; refine w_ret ?_; refine ib_r ?_; refine th_r ?_; refine th_r ?_; refine ⟨_, (inj hF).symm, .inl ⟨_, rfl, rfl, rfl, ?_⟩⟩; dsimp only
        exact ⟨F2, rfl, le2, (st.drop (by first | exact List.Sublist.refl _ | (repeat first | exact List.nil_sublist _ | refine List.Sublist.cons_cons _ ?_ | refine List.Sublist.cons _ ?_))), gA⟩
      · have hF := bif_f hb28 hF; refine w_skip ?_; refine ib_n ?_; refine th_n ?_; refine w_reg ?_; obtain ⟨q29, hF⟩ := ck_some hF; refine v_add q29 ?_; refine v_move ?_; refine r_nil ?_; refine thn ⟨_, (inj hF).symm, rfl, ?_⟩; dsimp only
        exact ⟨F2, rfl, le2, (st.drop (by first | exact List.Sublist.refl _ | (repeat first | exact List.nil_sublist _ | refine List.Sublist.cons_cons _ ?_ | refine List.Sublist.cons _ ?_))), gA, gA, gA, gA⟩
    · have hF := bif_f hb19 hF; refine w_exit ?_; refine th_e ?_; refine th_e ?_; refine ⟨_, (inj hF).symm, .inr (⟨_, rfl, rfl, rfl, ?_⟩)⟩; dsimp only
      exact ⟨F2, rfl, le2, st⟩
  · rcases hq with hq | hq
    · obtain ⟨N9, T, ds16⟩ := a; obtain ⟨h30, n31⟩ := σ; obtain ⟨w15, rfl, rfl, e1, F16, e2, le16, st, t4⟩ := hq
      dsimp only at e1 e2
      subst e1
      subst e2
      dsimp only at st t4
      have hF := sel_l hF; refine ib_r ?_; refine th_r ?_; obtain rfl := inj hF
      exact end_s st (Res.t gA Res.nil) rfl rfl
    · obtain ⟨N9, T, ds18⟩ := a; obtain ⟨h32, n33⟩ := σ; obtain ⟨w17, rfl, rfl, e1, F18, e2, le18, st⟩ := hq
      dsimp only at e1 e2
      subst e1
      subst e2
      dsimp only at st
      have hF := sel_r hF; refine ib_e ?_; refine th_n ?_; refine w_seq ?_; refine w_reg ?_; refine v_move ?_; refine r_nil ?_; refine th_n ?_; refine w_ret ?_; obtain rfl := inj hF
      exact end_s st (Res.t gA Res.nil) rfl rfl
end Go.Hx.V

/- Functions of the program come to that. -/
namespace Go.Hx.V
open Go.Hx
set_option linter.unusedVariables false
set_option maxRecDepth 20000
set_option maxHeartbeats 4000000
attribute [local irreducible] W R C thenH inBlockH Tr.get Tr.set lo
theorem ct50 (N : Nat) {a0_0 : Int} {a0_1 : (List (Int × Int))} {a0_2 : (List (Int × Int × Int))} {a0_3 : Int} {r : Bool} (hF : sf50 N a0_0 a0_1 a0_2 a0_3 = some r) {fl : Nat} {h0 : Tr HBlk} {n0 : Nat} {F0 : PH} (hd : D h0 n0) (hs : F0.sub h0) {pa0_1 : Option (Nat × Nat)} {ca0_1 : Nat} {pa0_2 : Option (Nat × Nat)} {ca0_2 : Nat} (ra0_1 : RowF (rP rI rI) 2 F0 pa0_1 ca0_1 a0_1) (ra0_2 : RowF (rP rI (rP rI rI)) 3 F0 pa0_2 ca0_2 a0_2) : C LW fl 50 [(.agg [(i64 a0_0), (.slice pa0_1 (a0_1).length ca0_1), (.slice pa0_2 (a0_2).length ca0_2), (i64 a0_3)])] ⟨h0, n0⟩ (KS (.bool r) n0 h0) := by
  unfold sf50 at hF
  refine in_cT hd hs lw50 rfl rfl (by rfl) (fun st T hT => ?_)
  have hfl : n0 ≤ n0 := Nat.le_refl n0
  have t0 := hT 0 _ rfl
  dsimp only [L50]
  refine w_seq ?_; refine w_reg ?_; refine v_box st (fun b1 h2 n3 st => ?_); refine v_move ?_; refine r_nil ?_; refine th_n ?_; refine w_seq ?_; refine w_reg ?_; refine v_fa ?_; refine v_ld1 (st.at (i := 0) rfl).2.2 rfl ?_; refine v_leq ?_; refine v_move ?_
  rcases Bool.eq_false_or_eq_true (decide ((1 : Int) ≤ a0_0)) with hb4 | hb4
  · have hF := bif_t hb4 hF; refine g_take hb4 (v_fa ?_); refine g_take hb4 (v_ld1 (st.at (i := 0) rfl).2.2 rfl ?_); refine g_take hb4 (v_leq ?_); refine v_pick hb4 ?_; refine v_move ?_
    rcases Bool.eq_false_or_eq_true (decide (a0_0 ≤ (50 : Int))) with hb5 | hb5
    · have hF := bif_t hb5 hF; refine g_take hb5 (v_fa ?_); refine g_take hb5 (v_ld1 (st.at (i := 0) rfl).2.2 rfl ?_); refine g_take hb5 (v_leq ?_); refine v_pick hb5 ?_; refine v_move ?_
      rcases Bool.eq_false_or_eq_true (decide ((1 : Int) ≤ a0_3)) with hb6 | hb6
      · have hF := bif_t hb6 hF; refine g_take hb6 (v_fa ?_); refine g_take hb6 (v_ld1 (st.at (i := 0) rfl).2.2 rfl ?_); refine g_take hb6 (v_leq ?_); refine v_pick hb6 ?_; refine v_move ?_
        rcases Bool.eq_false_or_eq_true (decide (a0_3 ≤ (60 : Int))) with hb7 | hb7
        · have hF := bif_t hb7 hF; refine g_take hb7 (v_ldn (vs := [(i64 a0_0), (.slice pa0_1 (a0_1).length ca0_1), (.slice pa0_2 (a0_2).length ca0_2), (i64 a0_3)]) (st.at (i := 0) rfl).2.2 rfl ?_); obtain ⟨v8, e9, hF⟩ := bnd_some hF; refine g_take hb7 (v_call st (ct76 N e9 st.d st.sub ra0_1 ra0_2) (fun n10 st => ?_)); refine v_pick hb7 ?_; refine v_move ?_
          rcases Bool.eq_false_or_eq_true v8 with hb11 | hb11
          · have hF := bif_t hb11 hF; refine g_take hb11 (v_ldn (vs := [(i64 a0_0), (.slice pa0_1 (a0_1).length ca0_1), (.slice pa0_2 (a0_2).length ca0_2), (i64 a0_3)]) (st.at (i := 0) rfl).2.2 rfl ?_); obtain ⟨v12, e13, hF⟩ := bnd_some hF; refine g_take hb11 (v_call st (ct77 N e13 st.d st.sub ra0_1 ra0_2) (fun n14 st => ?_)); refine v_pick hb11 ?_; refine v_move ?_
            rcases Bool.eq_false_or_eq_true v12 with hb15 | hb15
            · have hF := bif_t hb15 hF; refine g_take hb15 (v_ldn (vs := [(i64 a0_0), (.slice pa0_1 (a0_1).length ca0_1), (.slice pa0_2 (a0_2).length ca0_2), (i64 a0_3)]) (st.at (i := 0) rfl).2.2 rfl ?_); obtain ⟨v16, e17, hF⟩ := bnd_some hF; refine g_take hb15 (v_call st (ct78 N e17 st.d st.sub ra0_1 ra0_2) (fun n18 st => ?_)); refine v_pick hb15 ?_; refine v_move ?_; refine r_nil ?_; refine th_n ?_; refine w_ret ?_; obtain rfl := inj hF
              exact end_s st (Res.t gA Res.nil) rfl rfl
            · have hF := bif_f hb15 hF; refine g_skip hb15 ?_; refine g_skip hb15 ?_; refine v_pick' hb15 ?_; refine v_move ?_; refine r_nil ?_; refine th_n ?_; refine w_ret ?_; obtain rfl := inj hF
              exact end_s st (Res.t gA Res.nil) rfl rfl
          · have hF := bif_f hb11 hF; refine g_skip hb11 ?_; refine g_skip hb11 ?_; refine v_pick' hb11 ?_; refine v_move ?_; refine g_skip rfl ?_; refine g_skip rfl ?_; refine v_pick' rfl ?_; refine v_move ?_; refine r_nil ?_; refine th_n ?_; refine w_ret ?_; obtain rfl := inj hF
            exact end_s st (Res.t gA Res.nil) rfl rfl
        · have hF := bif_f hb7 hF; refine g_skip hb7 ?_; refine g_skip hb7 ?_; refine v_pick' hb7 ?_; refine v_move ?_; refine g_skip rfl ?_; refine g_skip rfl ?_; refine v_pick' rfl ?_; refine v_move ?_; refine g_skip rfl ?_; refine g_skip rfl ?_; refine v_pick' rfl ?_; refine v_move ?_; refine r_nil ?_; refine th_n ?_; refine w_ret ?_; obtain rfl := inj hF
          exact end_s st (Res.t gA Res.nil) rfl rfl
      · have hF := bif_f hb6 hF; refine g_skip hb6 ?_; refine g_skip hb6 ?_; refine g_skip hb6 ?_; refine v_pick' hb6 ?_; refine v_move ?_; refine g_skip rfl ?_; refine g_skip rfl ?_; refine v_pick' rfl ?_; refine v_move ?_; refine g_skip rfl ?_; refine g_skip rfl ?_; refine v_pick' rfl ?_; refine v_move ?_; refine g_skip rfl ?_; refine g_skip rfl ?_; refine v_pick' rfl ?_; refine v_move ?_; refine r_nil ?_; refine th_n ?_; refine w_ret ?_; obtain rfl := inj hF
        exact end_s st (Res.t gA Res.nil) rfl rfl
    · have hF := bif_f hb5 hF; refine g_skip hb5 ?_; refine g_skip hb5 ?_; refine g_skip hb5 ?_; refine v_pick' hb5 ?_; refine v_move ?_; refine g_skip rfl ?_; refine g_skip rfl ?_; refine g_skip rfl ?_; refine v_pick' rfl ?_; refine v_move ?_; refine g_skip rfl ?_; refine g_skip rfl ?_; refine v_pick' rfl ?_; refine v_move ?_; refine g_skip rfl ?_; refine g_skip rfl ?_; refine v_pick' rfl ?_; refine v_move ?_; refine g_skip rfl ?_; refine g_skip rfl ?_; refine v_pick' rfl ?_; refine v_move ?_; refine r_nil ?_; refine th_n ?_; refine w_ret ?_; obtain rfl := inj hF
      exact end_s st (Res.t gA Res.nil) rfl rfl
  · have hF := bif_f hb4 hF; refine g_skip hb4 ?_; refine g_skip hb4 ?_; refine g_skip hb4 ?_; refine v_pick' hb4 ?_; refine v_move ?_; refine g_skip rfl ?_; refine g_skip rfl ?_; refine g_skip rfl ?_; refine v_pick' rfl ?_; refine v_move ?_; refine g_skip rfl ?_; refine g_skip rfl ?_; refine g_skip rfl ?_; refine v_pick' rfl ?_; refine v_move ?_; refine g_skip rfl ?_; refine g_skip rfl ?_; refine v_pick' rfl ?_; refine v_move ?_; refine g_skip rfl ?_; refine g_skip rfl ?_; refine v_pick' rfl ?_; refine v_move ?_; refine g_skip rfl ?_; refine g_skip rfl ?_; refine v_pick' rfl ?_; refine v_move ?_; refine r_nil ?_; refine th_n ?_; refine w_ret ?_; obtain rfl := inj hF
    exact end_s st (Res.t gA Res.nil) rfl rfl
theorem ct61 (N : Nat) {a0 : (List (Int × Int))} {a1f0_0 : Int} {a1f0_1 : (List (Int × Int))} {a1f0_2 : (List (Int × Int × Int))} {a1f0_3 : Int} {a1f0_4 : (List Int)} {a1f0_5 : (List Int)} {a1f0_6 : Int} {r : Int} (hF : sf61 N a0 a1f0_0 a1f0_1 a1f0_2 a1f0_3 a1f0_4 a1f0_5 a1f0_6 = some r) {fl : Nat} {h0 : Tr HBlk} {n0 : Nat} {F0 : PH} (hd : D h0 n0) (hs : F0.sub h0) {pa0 : Option (Nat × Nat)} {ca0 : Nat} {pa1f0_1 : Option (Nat × Nat)} {ca1f0_1 : Nat} {pa1f0_2 : Option (Nat × Nat)} {ca1f0_2 : Nat} {pa1f0_4 : Option (Nat × Nat)} {ca1f0_4 : Nat} {pa1f0_5 : Option (Nat × Nat)} {ca1f0_5 : Nat} (ra0 : RowF (rP rI rI) 2 F0 pa0 ca0 a0) (ra1f0_1 : RowF (rP rI rI) 2 F0 pa1f0_1 ca1f0_1 a1f0_1) (ra1f0_2 : RowF (rP rI (rP rI rI)) 3 F0 pa1f0_2 ca1f0_2 a1f0_2) (ra1f0_4 : RowF rI 1 F0 pa1f0_4 ca1f0_4 a1f0_4) (ra1f0_5 : RowF rI 1 F0 pa1f0_5 ca1f0_5 a1f0_5) : C LW fl 61 [(.slice pa0 (a0).length ca0), (.func 63 [(.agg [(i64 a1f0_0), (.slice pa1f0_1 (a1f0_1).length ca1f0_1), (.slice pa1f0_2 (a1f0_2).length ca1f0_2), (i64 a1f0_3), (.slice pa1f0_4 (a1f0_4).length ca1f0_4), (.slice pa1f0_5 (a1f0_5).length ca1f0_5), (i64 a1f0_6)])] [])] ⟨h0, n0⟩ (KS (i64 r) n0 h0) := by
  unfold sf61 at hF
  refine in_cT hd hs lw61 rfl rfl (by rfl) (fun st T hT => ?_)
  have hfl : n0 ≤ n0 := Nat.le_refl n0
  have t0 := hT 0 _ rfl
  have t1 := hT 1 _ rfl
  dsimp only [L61]
  refine w_seq ?_; refine w_reg ?_; refine v_move ?_; refine r_nil ?_; refine th_n ?_; refine w_seq ?_; refine w_seq ?_; refine w_reg ?_; refine v_move ?_; refine v_len ?_; refine v_move ?_; refine r_nil ?_; refine th_n ?_; refine w_block ?_; obtain ⟨y10, hy, hF⟩ := bnd_some hF; refine v_loopD (sf61_L1 N a0 a1f0_0 a1f0_1 a1f0_2 a1f0_3 a1f0_4 a1f0_5 a1f0_6) (fun x1 T ds2 h nx => ∃ (F2 : PH), ds2 = [] ∧ PH.le F0 F2 ∧ St n0 h0 F0 F2 h nx [] ∧ T.get 0 = some (.slice pa0 (a0).length ca0) ∧ T.get 1 = some (.func 63 [(.agg [(i64 a1f0_0), (.slice pa1f0_1 (a1f0_1).length ca1f0_1), (.slice pa1f0_2 (a1f0_2).length ca1f0_2), (i64 a1f0_3), (.slice pa1f0_4 (a1f0_4).length ca1f0_4), (.slice pa1f0_5 (a1f0_5).length ca1f0_5), (i64 a1f0_6)])] []) ∧ T.get 7 = some (i64 ((a0).length : Int)) ∧ T.get 8 = some (i64 x1)) (fun y e a σ => (∃ u, y = (.inl u) ∧ e = .ret ∧ a.nt = 19 ∧ ∃ (F12 : PH), a.defers = [] ∧ PH.le F0 F12 ∧ St n0 h0 F0 F12 σ.h σ.nx [] ∧ a.tmps.get 4 = some (i64 u)) ∨ (∃ u, y = (.inr u) ∧ e = .exit 0 ∧ a.nt = 19 ∧ ∃ (F14 : PH), a.defers = [] ∧ PH.le F0 F14 ∧ St n0 h0 F0 F14 σ.h σ.nx [])) (fun x1 T ds2 h nx s hp hF => ?_) N _ y10 _ _ _ _ hy ⟨F0, rfl, (PH.le.refl _), st, gA, gA, gA, gA⟩ (fun e a σ hne hq => ?_)
  · obtain ⟨F2, rfl, le2, st, t0, t1, t7, t8⟩ := hp; unfold sf61_L1 at hF; unfold L61w0; refine w_seq ?_; refine w_reg ?_; refine v_lss ?_; refine r_nil ?_; refine th_n ?_; refine w_seq ?_; refine v_cond (fun hb15 => ?_) (fun hb15 => ?_)
    · have hF := bif_t hb15 hF; refine w_skip ?_; refine th_n ?_; refine w_seq ?_; refine w_block ?_; refine w_seq ?_; refine w_reg ?_; refine v_move ?_; refine v_move ?_; refine r_nil ?_; refine th_n ?_; refine w_seq ?_; refine w_reg ?_; refine v_move ?_; refine v_move ?_; refine v_move ?_; obtain ⟨n16, x16, z16, l16, g16, hF⟩ := ix_some hF; obtain ⟨b16, o16, s16, j16, r16, e16, f16, k16, ⟨_, _, rfl, rfl, rfl⟩⟩ := RowF.get ra0 g16; refine v_ixp e16 z16 l16 ?_; refine v_ldn (st.sub _ _ (le2 _ _ f16)) k16 ?_; obtain ⟨v17, e18, hF⟩ := bnd_some hF; refine v_call st (ct63 N e18 st.d st.sub (RowF.mono le2 ra1f0_1) (RowF.mono le2 ra1f0_2) (RowF.mono le2 ra1f0_4) (RowF.mono le2 ra1f0_5)) (fun n19 st => ?_)
      refine r_nil ?_; refine th_n ?_; refine v_cond (fun hb20 => ?_) (fun hb20 => ?_)
      · have hF := bif_t hb20 hF; refine w_seq ?_; refine w_reg ?_; refine v_move ?_; refine v_move ?_; refine r_nil ?_; refine th_n ?_; refine w_ret ?_; refine ib_r ?_; refine th_r ?_; refine th_r ?_; refine ⟨_, (inj hF).symm, .inl ⟨_, rfl, rfl, rfl, ?_⟩⟩; dsimp only
        exact ⟨F2, rfl, le2, st, gA⟩
      · have hF := bif_f hb20 hF; refine w_skip ?_; refine ib_n ?_; refine th_n ?_; refine w_reg ?_; obtain ⟨q21, hF⟩ := ck_some hF; refine v_add q21 ?_; refine v_move ?_; refine r_nil ?_; refine thn ⟨_, (inj hF).symm, rfl, ?_⟩; dsimp only
        exact ⟨F2, rfl, le2, st, gA, gA, gA, gA⟩
    · have hF := bif_f hb15 hF; refine w_exit ?_; refine th_e ?_; refine th_e ?_; refine ⟨_, (inj hF).symm, .inr (⟨_, rfl, rfl, rfl, ?_⟩)⟩; dsimp only
      exact ⟨F2, rfl, le2, st⟩
  · rcases hq with hq | hq
    · obtain ⟨N9, T, ds12⟩ := a; obtain ⟨h22, n23⟩ := σ; obtain ⟨w11, rfl, rfl, e1, F12, e2, le12, st, t4⟩ := hq
      dsimp only at e1 e2
      subst e1
      subst e2
      dsimp only at st t4
      have hF := sel_l hF; refine ib_r ?_; refine th_r ?_; obtain rfl := inj hF
      exact end_s st (Res.t gA Res.nil) rfl rfl
    · obtain ⟨N9, T, ds14⟩ := a; obtain ⟨h24, n25⟩ := σ; obtain ⟨w13, rfl, rfl, e1, F14, e2, le14, st⟩ := hq
      dsimp only at e1 e2
      subst e1
      subst e2
      dsimp only at st
      have hF := sel_r hF; refine ib_e ?_; refine th_n ?_; refine w_seq ?_; refine w_reg ?_; refine v_move ?_; refine r_nil ?_; refine th_n ?_; refine w_ret ?_; obtain rfl := inj hF
      exact end_s st (Res.t gA Res.nil) rfl rfl
theorem ct39 (N : Nat) {a0_0 : Int} {a0_1 : (List (Int × Int))} {a0_2 : (List (Int × Int × Int))} {a0_3 : Int} {a1 : (List Int)} {r : Int} (hF : sf39 N a0_0 a0_1 a0_2 a0_3 a1 = some r) {fl : Nat} {h0 : Tr HBlk} {n0 : Nat} {F0 : PH} (hd : D h0 n0) (hs : F0.sub h0) {pa0_1 : Option (Nat × Nat)} {ca0_1 : Nat} {pa0_2 : Option (Nat × Nat)} {ca0_2 : Nat} {pa1 : Option (Nat × Nat)} {ca1 : Nat} (ra0_1 : RowF (rP rI rI) 2 F0 pa0_1 ca0_1 a0_1) (ra0_2 : RowF (rP rI (rP rI rI)) 3 F0 pa0_2 ca0_2 a0_2) (ra1 : RowF rI 1 F0 pa1 ca1 a1) : C LW fl 39 [(.agg [(i64 a0_0), (.slice pa0_1 (a0_1).length ca0_1), (.slice pa0_2 (a0_2).length ca0_2), (i64 a0_3)]), (.slice pa1 (a1).length ca1)] ⟨h0, n0⟩ (KS (i64 r) n0 h0) := by
  unfold sf39 at hF
  refine in_cT hd hs lw39 rfl rfl (by rfl) (fun st T hT => ?_)
  have hfl : n0 ≤ n0 := Nat.le_refl n0
  have t0 := hT 0 _ rfl
  have t1 := hT 1 _ rfl
  dsimp only [L39]
  refine w_seq ?_; refine w_reg ?_; refine v_box st (fun b1 h2 n3 st => ?_); refine v_move ?_; refine r_nil ?_; refine th_n ?_; refine w_seq ?_; refine w_seq ?_; refine w_reg ?_; refine v_ldn (vs := [(i64 a0_0), (.slice pa0_1 (a0_1).length ca0_1), (.slice pa0_2 (a0_2).length ca0_2), (i64 a0_3)]) (st.at (i := 0) rfl).2.2 rfl ?_; obtain ⟨v4, e5, hF⟩ := bnd_some hF; refine v_call st (ct23 N e5 st.d st.sub ra0_1 ra0_2) (fun n6 st => ?_); refine v_move ?_; refine r_nil ?_; refine th_n ?_; refine w_seq ?_; refine w_reg ?_; refine v_move ?_; refine v_nei ?_; refine r_nil ?_; refine th_n ?_; refine v_cond (fun hb7 => ?_) (fun hb7 => ?_)
  · have hF := bif_t hb7 hF; refine w_seq ?_; refine w_reg ?_; refine v_move ?_; refine v_move ?_; refine r_nil ?_; refine th_n ?_; refine w_ret ?_; refine th_r ?_; obtain rfl := inj hF
    exact end_s st (Res.t gA Res.nil) rfl rfl
  · have hF := bif_f hb7 hF; refine w_skip ?_; refine th_n ?_; refine w_seq ?_; refine w_reg ?_; refine v_move ?_; obtain ⟨v8, e9, hF⟩ := bnd_some hF; refine v_call st (ct68 N e9 st.d st.sub ra1) (fun n10 st => ?_); refine v_move ?_; refine r_nil ?_; refine th_n ?_; refine w_ret ?_; obtain rfl := inj hF
    exact end_s st (Res.t gA Res.nil) rfl rfl
end Go.Hx.V

/- Functions of the program come to that. -/
namespace Go.Hx.V
open Go.Hx
set_option linter.unusedVariables false
set_option maxRecDepth 20000
set_option maxHeartbeats 4000000
attribute [local irreducible] W R C thenH inBlockH Tr.get Tr.set lo
theorem ct18 (N : Nat) {a0_0 : Int} {a0_1 : (List (Int × Int))} {a0_2 : (List (Int × Int × Int))} {a0_3 : Int} {r : Int} (hF : sf18 N a0_0 a0_1 a0_2 a0_3 = some r) {fl : Nat} {h0 : Tr HBlk} {n0 : Nat} {F0 : PH} (hd : D h0 n0) (hs : F0.sub h0) {pa0_1 : Option (Nat × Nat)} {ca0_1 : Nat} {pa0_2 : Option (Nat × Nat)} {ca0_2 : Nat} (ra0_1 : RowF (rP rI rI) 2 F0 pa0_1 ca0_1 a0_1) (ra0_2 : RowF (rP rI (rP rI rI)) 3 F0 pa0_2 ca0_2 a0_2) : C LW fl 18 [(.agg [(i64 a0_0), (.slice pa0_1 (a0_1).length ca0_1), (.slice pa0_2 (a0_2).length ca0_2), (i64 a0_3)])] ⟨h0, n0⟩ (KS (i64 r) n0 h0) := by
  unfold sf18 at hF
  refine in_cT hd hs lw18 rfl rfl (by rfl) (fun st T hT => ?_)
  have hfl : n0 ≤ n0 := Nat.le_refl n0
  have t0 := hT 0 _ rfl
  dsimp only [L18]
  refine w_seq ?_; refine w_reg ?_; refine v_box st (fun b1 h2 n3 st => ?_); refine v_move ?_; refine r_nil ?_; refine th_n ?_; refine w_seq ?_; obtain ⟨y5, hA6, hF⟩ := bnd_some hF; refine w_cutD (fun T ds8 h nx => ∃ (F8 : PH), ds8 = [] ∧ PH.le F0 F8 ∧ St n0 h0 F0 F8 h nx [.bx b1 [(i64 a0_0), (.slice pa0_1 (a0_1).length ca0_1), (.slice pa0_2 (a0_2).length ca0_2), (i64 a0_3)]] ∧ T.get 1 = some (.ptr (some (b1, 0))) ∧ T.get 12 = some (.bool y5)) ?_ (fun T ds8 h nx hp => ?_)
  · have hK7 := hF
    have hF := hA6; refine w_reg ?_; refine v_fa ?_; refine v_ld1 (st.at (i := 0) rfl).2.2 rfl ?_; refine v_len ?_; refine v_gtr ?_; refine v_move ?_
    rcases Bool.eq_false_or_eq_true (decide ((8 : Int) < ((a0_1).length : Int))) with hb9 | hb9
    · have hF := bif_t hb9 hF; refine g_skip hb9 ?_; refine g_skip hb9 ?_; refine g_skip hb9 ?_; refine g_skip hb9 ?_; refine v_pick hb9 ?_; refine r_nil ?_; obtain rfl := inj hF; refine thn ⟨rfl, ?_⟩; dsimp only
      exact ⟨F0, rfl, (PH.le.refl _), st, gA, gA⟩
    · have hF := bif_f hb9 hF; refine g_take hb9 (v_fa ?_); refine g_take hb9 (v_ld1 (st.at (i := 0) rfl).2.2 rfl ?_); refine g_take hb9 (v_len ?_); refine g_take hb9 (v_gtr ?_); refine v_pick' hb9 ?_; refine r_nil ?_; obtain rfl := inj hF; refine thn ⟨rfl, ?_⟩; dsimp only
      exact ⟨F0, rfl, (PH.le.refl _), st, gA, gA⟩
  · obtain ⟨F8, rfl, le8, st, t1, t12⟩ := hp; refine v_cond (fun hb10 => ?_) (fun hb10 => ?_)
    · have hF := bif_t hb10 hF; refine w_seq ?_; refine w_reg ?_; refine v_move ?_; refine r_nil ?_; refine th_n ?_; refine w_ret ?_; refine th_r ?_; obtain rfl := inj hF
      exact end_s st (Res.t gA Res.nil) rfl rfl
    · have hF := bif_f hb10 hF; refine w_skip ?_; refine th_n ?_; refine w_seq ?_; refine w_seq ?_; refine w_reg ?_; refine v_ldn (vs := [(i64 a0_0), (.slice pa0_1 (a0_1).length ca0_1), (.slice pa0_2 (a0_2).length ca0_2), (i64 a0_3)]) (st.at (i := 0) rfl).2.2 rfl ?_; obtain ⟨v11, e12, hF⟩ := bnd_some hF; refine v_call st (ct50 N e12 st.d st.sub (RowF.mono le8 ra0_1) (RowF.mono le8 ra0_2)) (fun n13 st => ?_); refine v_not ?_; refine r_nil ?_; refine th_n ?_; refine v_cond (fun hb14 => ?_) (fun hb14 => ?_)
      · have hF := bif_t hb14 hF; refine w_seq ?_; refine w_reg ?_; refine v_move ?_; refine r_nil ?_; refine th_n ?_; refine w_ret ?_; refine th_r ?_; obtain rfl := inj hF
        exact end_s st (Res.t gA Res.nil) rfl rfl
      · have hF := bif_f hb14 hF; refine w_skip ?_; refine th_n ?_; refine w_seq ?_; refine w_reg ?_; refine v_move ?_; refine r_nil ?_; refine th_n ?_; refine w_ret ?_; obtain rfl := inj hF
        exact end_s st (Res.t gA Res.nil) rfl rfl
theorem ct32 (N : Nat) {a0_0 : Int} {a0_1 : (List (Int × Int))} {a0_2 : (List (Int × Int × Int))} {a0_3 : Int} {a1 : (List Int)} {a2 : (List Int)} {r : Int} (hF : sf32 N a0_0 a0_1 a0_2 a0_3 a1 a2 = some r) {fl : Nat} {h0 : Tr HBlk} {n0 : Nat} {F0 : PH} (hd : D h0 n0) (hs : F0.sub h0) {pa0_1 : Option (Nat × Nat)} {ca0_1 : Nat} {pa0_2 : Option (Nat × Nat)} {ca0_2 : Nat} {pa1 : Option (Nat × Nat)} {ca1 : Nat} {pa2 : Option (Nat × Nat)} {ca2 : Nat} (ra0_1 : RowF (rP rI rI) 2 F0 pa0_1 ca0_1 a0_1) (ra0_2 : RowF (rP rI (rP rI rI)) 3 F0 pa0_2 ca0_2 a0_2) (ra1 : RowF rI 1 F0 pa1 ca1 a1) (ra2 : RowF rI 1 F0 pa2 ca2 a2) : C LW fl 32 [(.agg [(i64 a0_0), (.slice pa0_1 (a0_1).length ca0_1), (.slice pa0_2 (a0_2).length ca0_2), (i64 a0_3)]), (.slice pa1 (a1).length ca1), (.slice pa2 (a2).length ca2)] ⟨h0, n0⟩ (KS (i64 r) n0 h0) := by
  unfold sf32 at hF
  refine in_cT hd hs lw32 rfl rfl (by rfl) (fun st T hT => ?_)
  have hfl : n0 ≤ n0 := Nat.le_refl n0
  have t0 := hT 0 _ rfl
  have t1 := hT 1 _ rfl
  have t2 := hT 2 _ rfl
  dsimp only [L32]
  refine w_seq ?_; refine w_reg ?_; refine v_box st (fun b1 h2 n3 st => ?_); refine v_move ?_; refine r_nil ?_; refine th_n ?_; refine w_seq ?_; refine w_seq ?_; refine w_reg ?_; refine v_ldn (vs := [(i64 a0_0), (.slice pa0_1 (a0_1).length ca0_1), (.slice pa0_2 (a0_2).length ca0_2), (i64 a0_3)]) (st.at (i := 0) rfl).2.2 rfl ?_; refine v_move ?_; obtain ⟨v4, e5, hF⟩ := bnd_some hF; refine v_call st (ct39 N e5 st.d st.sub ra0_1 ra0_2 ra1) (fun n6 st => ?_); refine v_move ?_; refine r_nil ?_; refine th_n ?_; refine w_seq ?_; refine w_reg ?_; refine v_move ?_; refine v_nei ?_; refine r_nil ?_; refine th_n ?_; refine v_cond (fun hb7 => ?_) (fun hb7 => ?_)
  · have hF := bif_t hb7 hF; refine w_seq ?_; refine w_reg ?_; refine v_move ?_; refine v_move ?_; refine r_nil ?_; refine th_n ?_; refine w_ret ?_; refine th_r ?_; obtain rfl := inj hF
    exact end_s st (Res.t gA Res.nil) rfl rfl
  · have hF := bif_f hb7 hF; refine w_skip ?_; refine th_n ?_; refine w_seq ?_; refine w_seq ?_; refine w_reg ?_; refine v_ldn (vs := [(i64 a0_0), (.slice pa0_1 (a0_1).length ca0_1), (.slice pa0_2 (a0_2).length ca0_2), (i64 a0_3)]) (st.at (i := 0) rfl).2.2 rfl ?_; refine v_move ?_; refine v_move ?_; obtain ⟨v8, e9, hF⟩ := bnd_some hF; refine v_call st (ct64 N e9 st.d st.sub ra0_1 ra0_2 ra1 ra2) (fun n10 st => ?_); refine v_not ?_; refine r_nil ?_; refine th_n ?_; refine v_cond (fun hb11 => ?_) (fun hb11 => ?_)
    · have hF := bif_t hb11 hF; refine w_seq ?_; refine w_reg ?_; refine v_move ?_; refine r_nil ?_; refine th_n ?_; refine w_ret ?_; refine th_r ?_; obtain rfl := inj hF
      exact end_s st (Res.t gA Res.nil) rfl rfl
    · have hF := bif_f hb11 hF; refine w_skip ?_; refine th_n ?_; refine w_seq ?_; refine w_reg ?_; refine v_move ?_; refine r_nil ?_; refine th_n ?_; refine w_ret ?_; obtain rfl := inj hF
      exact end_s st (Res.t gA Res.nil) rfl rfl
end Go.Hx.V

/- Functions of the program come to that. -/
namespace Go.Hx.V
open Go.Hx
set_option linter.unusedVariables false
set_option maxRecDepth 20000
set_option maxHeartbeats 4000000
attribute [local irreducible] W R C thenH inBlockH Tr.get Tr.set lo
theorem ct51 (N : Nat) {a0_0 : Int} {a0_1 : (List (Int × Int))} {a0_2 : (List (Int × Int × Int))} {a0_3 : Int} {a1 : Int} {r : Int} (hF : sf51 N a0_0 a0_1 a0_2 a0_3 a1 = some r) {fl : Nat} {h0 : Tr HBlk} {n0 : Nat} {F0 : PH} (hd : D h0 n0) (hs : F0.sub h0) {pa0_1 : Option (Nat × Nat)} {ca0_1 : Nat} {pa0_2 : Option (Nat × Nat)} {ca0_2 : Nat} (ra0_1 : RowF (rP rI rI) 2 F0 pa0_1 ca0_1 a0_1) (ra0_2 : RowF (rP rI (rP rI rI)) 3 F0 pa0_2 ca0_2 a0_2) : C LW fl 51 [(.agg [(i64 a0_0), (.slice pa0_1 (a0_1).length ca0_1), (.slice pa0_2 (a0_2).length ca0_2), (i64 a0_3)]), (i64 a1)] ⟨h0, n0⟩ (KS (i64 r) n0 h0) := by
  unfold sf51 at hF
  refine in_cT hd hs lw51 rfl rfl (by rfl) (fun st T hT => ?_)
  have hfl : n0 ≤ n0 := Nat.le_refl n0
  have t0 := hT 0 _ rfl
  have t1 := hT 1 _ rfl
  dsimp only [L51]
  refine w_seq ?_; refine w_reg ?_; refine v_box st (fun b1 h2 n3 st => ?_); refine v_move ?_; refine r_nil ?_; refine th_n ?_; refine w_seq ?_; refine w_seq ?_; refine w_reg ?_; refine v_ldn (vs := [(i64 a0_0), (.slice pa0_1 (a0_1).length ca0_1), (.slice pa0_2 (a0_2).length ca0_2), (i64 a0_3)]) (st.at (i := 0) rfl).2.2 rfl ?_; obtain ⟨v4, e5, hF⟩ := bnd_some hF; refine v_call st (ct18 N e5 st.d st.sub ra0_1 ra0_2) (fun n6 st => ?_); refine v_move ?_; refine r_nil ?_; refine th_n ?_; refine w_seq ?_; refine w_reg ?_; refine v_move ?_; refine v_nei ?_; refine r_nil ?_; refine th_n ?_; refine v_cond (fun hb7 => ?_) (fun hb7 => ?_)
  · have hF := bif_t hb7 hF; refine w_seq ?_; refine w_reg ?_; refine v_move ?_; refine v_move ?_; refine r_nil ?_; refine th_n ?_; refine w_ret ?_; refine th_r ?_; obtain rfl := inj hF
    exact end_s st (Res.t gA Res.nil) rfl rfl
  · have hF := bif_f hb7 hF; refine w_skip ?_; refine th_n ?_; refine w_seq ?_; refine w_seq ?_; refine w_reg ?_; refine v_ldn (vs := [(i64 a0_0), (.slice pa0_1 (a0_1).length ca0_1), (.slice pa0_2 (a0_2).length ca0_2), (i64 a0_3)]) (st.at (i := 0) rfl).2.2 rfl ?_; refine v_move ?_; obtain ⟨v8, e9, hF⟩ := bnd_some hF; refine v_call st (ct79 N e9 st.d st.sub ra0_1 ra0_2) (fun n10 st => ?_); refine v_not ?_; refine r_nil ?_; refine th_n ?_; refine v_cond (fun hb11 => ?_) (fun hb11 => ?_)
    · have hF := bif_t hb11 hF; refine w_seq ?_; refine w_reg ?_; refine v_move ?_; refine r_nil ?_; refine th_n ?_; refine w_ret ?_; refine th_r ?_; obtain rfl := inj hF
      exact end_s st (Res.t gA Res.nil) rfl rfl
    · have hF := bif_f hb11 hF; refine w_skip ?_; refine th_n ?_; refine w_seq ?_; refine w_reg ?_; refine v_move ?_; refine r_nil ?_; refine th_n ?_; refine w_ret ?_; obtain rfl := inj hF
      exact end_s st (Res.t gA Res.nil) rfl rfl
theorem ct66 (N : Nat) {a0_0 : Int} {a0_1 : (List (Int × Int))} {a0_2 : (List (Int × Int × Int))} {a0_3 : Int} {a1 : (List Int)} {r : Int} (hF : sf66 N a0_0 a0_1 a0_2 a0_3 a1 = some r) {fl : Nat} {h0 : Tr HBlk} {n0 : Nat} {F0 : PH} (hd : D h0 n0) (hs : F0.sub h0) {pa0_1 : Option (Nat × Nat)} {ca0_1 : Nat} {pa0_2 : Option (Nat × Nat)} {ca0_2 : Nat} {pa1 : Option (Nat × Nat)} {ca1 : Nat} (ra0_1 : RowF (rP rI rI) 2 F0 pa0_1 ca0_1 a0_1) (ra0_2 : RowF (rP rI (rP rI rI)) 3 F0 pa0_2 ca0_2 a0_2) (ra1 : RowF rI 1 F0 pa1 ca1 a1) : C LW fl 66 [(.agg [(i64 a0_0), (.slice pa0_1 (a0_1).length ca0_1), (.slice pa0_2 (a0_2).length ca0_2), (i64 a0_3)]), (.slice pa1 (a1).length ca1)] ⟨h0, n0⟩ (KS (i64 r) n0 h0) := by
  unfold sf66 at hF
  refine in_cT hd hs lw66 rfl rfl (by rfl) (fun st T hT => ?_)
  have hfl : n0 ≤ n0 := Nat.le_refl n0
  have t0 := hT 0 _ rfl
  have t1 := hT 1 _ rfl
  dsimp only [L66]
  refine w_seq ?_; refine w_reg ?_; refine v_box st (fun b1 h2 n3 st => ?_); refine v_move ?_; refine r_nil ?_; refine th_n ?_; refine w_seq ?_; refine w_seq ?_; refine w_reg ?_; refine v_ldn (vs := [(i64 a0_0), (.slice pa0_1 (a0_1).length ca0_1), (.slice pa0_2 (a0_2).length ca0_2), (i64 a0_3)]) (st.at (i := 0) rfl).2.2 rfl ?_; obtain ⟨v4, e5, hF⟩ := bnd_some hF; refine v_call st (ct18 N e5 st.d st.sub ra0_1 ra0_2) (fun n6 st => ?_); refine v_move ?_; refine r_nil ?_; refine th_n ?_; refine w_seq ?_; refine w_reg ?_; refine v_move ?_; refine v_nei ?_; refine r_nil ?_; refine th_n ?_; refine v_cond (fun hb7 => ?_) (fun hb7 => ?_)
  · have hF := bif_t hb7 hF; refine w_seq ?_; refine w_reg ?_; refine v_move ?_; refine v_move ?_; refine r_nil ?_; refine th_n ?_; refine w_ret ?_; refine th_r ?_; obtain rfl := inj hF
    exact end_s st (Res.t gA Res.nil) rfl rfl
  · have hF := bif_f hb7 hF; refine w_skip ?_; refine th_n ?_; refine w_seq ?_; refine w_seq ?_; refine w_reg ?_; refine v_move ?_; refine v_len ?_; refine v_gtr ?_; refine r_nil ?_; refine th_n ?_; refine v_cond (fun hb8 => ?_) (fun hb8 => ?_)
    · have hF := bif_t hb8 hF; refine w_seq ?_; refine w_reg ?_; refine v_move ?_; refine r_nil ?_; refine th_n ?_; refine w_ret ?_; refine th_r ?_; obtain rfl := inj hF
      exact end_s st (Res.t gA Res.nil) rfl rfl
    · have hF := bif_f hb8 hF; refine w_skip ?_; refine th_n ?_; refine w_seq ?_; obtain ⟨y17, hA18, hF⟩ := bnd_some hF; refine w_cutD (fun T ds20 h nx => ∃ (F20 : PH), ds20 = [] ∧ PH.le F0 F20 ∧ St n0 h0 F0 F20 h nx [.bx b1 [(i64 a0_0), (.slice pa0_1 (a0_1).length ca0_1), (.slice pa0_2 (a0_2).length ca0_2), (i64 a0_3)]] ∧ T.get 26 = some (.bool y17)) ?_ (fun T ds20 h nx hp => ?_)
      · have hK19 := hF
        have hF := hA18; refine w_reg ?_; refine v_move ?_; refine v_len ?_; refine v_eqi ?_; refine v_move ?_
        rcases Bool.eq_false_or_eq_true (decide (((a1).length : Int) = (0 : Int))) with hb21 | hb21
        · have hF := bif_t hb21 hF; refine g_skip hb21 ?_; refine g_skip hb21 ?_; refine g_skip hb21 ?_; refine v_pick hb21 ?_; refine v_move ?_; refine g_skip rfl ?_; refine g_skip rfl ?_; refine g_skip rfl ?_; refine v_pick rfl ?_; refine r_nil ?_; obtain rfl := inj hF; refine thn ⟨rfl, ?_⟩; dsimp only
          exact ⟨F0, rfl, (PH.le.refl _), st, gA⟩
        · have hF := bif_f hb21 hF; refine g_take hb21 (v_move ?_); obtain ⟨v22, e23, hF⟩ := bnd_some hF; refine g_take hb21 (v_call st (ct87 N e23 st.d st.sub ra1) (fun n24 st => ?_)); refine g_take hb21 (v_not ?_); refine v_pick' hb21 ?_; refine v_move ?_
          rcases Bool.eq_false_or_eq_true (!v22) with hb25 | hb25
          · have hF := bif_t hb25 hF; refine g_skip hb25 ?_; refine g_skip hb25 ?_; refine g_skip hb25 ?_; refine v_pick hb25 ?_; refine r_nil ?_; obtain rfl := inj hF; refine thn ⟨rfl, ?_⟩; dsimp only
            exact ⟨F0, rfl, (PH.le.refl _), st, gA⟩
          · have hF := bif_f hb25 hF; refine g_take hb25 (v_move ?_); obtain ⟨v26, e27, hF⟩ := bnd_some hF; refine g_take hb25 (v_call st (ct88 N e27 st.d st.sub ra1) (fun n28 st => ?_)); refine g_take hb25 (v_not ?_); refine v_pick' hb25 ?_; refine r_nil ?_; obtain rfl := inj hF; refine thn ⟨rfl, ?_⟩; dsimp only
            exact ⟨F0, rfl, (PH.le.refl _), st, gA⟩
      · obtain ⟨F20, rfl, le20, st, t26⟩ := hp; refine v_cond (fun hb29 => ?_) (fun hb29 => ?_)
        · have hF := bif_t hb29 hF; refine w_seq ?_; refine w_reg ?_; refine v_move ?_; refine r_nil ?_; refine th_n ?_; refine w_ret ?_; refine th_r ?_; obtain rfl := inj hF
          exact end_s st (Res.t gA Res.nil) rfl rfl
        · have hF := bif_f hb29 hF; refine w_skip ?_; refine th_n ?_; refine w_seq ?_; refine w_reg ?_; refine v_move ?_; refine r_nil ?_; refine th_n ?_; refine w_ret ?_; obtain rfl := inj hF
          exact end_s st (Res.t gA Res.nil) rfl rfl
end Go.Hx.V

/- Functions of the program come to that. -/
namespace Go.Hx.V
open Go.Hx
set_option linter.unusedVariables false
set_option maxRecDepth 20000
set_option maxHeartbeats 4000000
attribute [local irreducible] W R C thenH inBlockH Tr.get Tr.set lo
theorem ct20 (N : Nat) {a0_0 : Int} {a0_1 : (List (Int × Int))} {a0_2 : (List (Int × Int × Int))} {a0_3 : Int} {a1 : Int} {a2_0 : (List Int)} {a2_1 : (List Int)} {r : (Int × Int)} (hF : sf20 N a0_0 a0_1 a0_2 a0_3 a1 a2_0 a2_1 = some r) {fl : Nat} {h0 : Tr HBlk} {n0 : Nat} {F0 : PH} (hd : D h0 n0) (hs : F0.sub h0) {pa0_1 : Option (Nat × Nat)} {ca0_1 : Nat} {pa0_2 : Option (Nat × Nat)} {ca0_2 : Nat} {pa2_0 : Option (Nat × Nat)} {ca2_0 : Nat} {pa2_1 : Option (Nat × Nat)} {ca2_1 : Nat} (ra0_1 : RowF (rP rI rI) 2 F0 pa0_1 ca0_1 a0_1) (ra0_2 : RowF (rP rI (rP rI rI)) 3 F0 pa0_2 ca0_2 a0_2) (ra2_0 : RowF rI 1 F0 pa2_0 ca2_0 a2_0) (ra2_1 : RowF rI 1 F0 pa2_1 ca2_1 a2_1) : C LW fl 20 [(.agg [(i64 a0_0), (.slice pa0_1 (a0_1).length ca0_1), (.slice pa0_2 (a0_2).length ca0_2), (i64 a0_3)]), (i64 a1), (.agg [(.slice pa2_0 (a2_0).length ca2_0), (.slice pa2_1 (a2_1).length ca2_1)])] ⟨h0, n0⟩ (KS (.tuple [(i64 r.1), (i64 r.2)]) n0 h0) := by
  unfold sf20 at hF
  refine in_cT hd hs lw20 rfl rfl (by rfl) (fun st T hT => ?_)
  have hfl : n0 ≤ n0 := Nat.le_refl n0
  have t0 := hT 0 _ rfl
  have t1 := hT 1 _ rfl
  have t2 := hT 2 _ rfl
  dsimp only [L20]
  refine w_seq ?_; refine w_reg ?_; refine v_box st (fun b1 h2 n3 st => ?_); refine v_box st (fun b4 h5 n6 st => ?_); refine v_move ?_; refine v_move ?_; refine r_nil ?_; refine th_n ?_; refine w_seq ?_; refine w_seq ?_; refine w_reg ?_; refine v_ldn (vs := [(i64 a0_0), (.slice pa0_1 (a0_1).length ca0_1), (.slice pa0_2 (a0_2).length ca0_2), (i64 a0_3)]) (st.at (i := 0) rfl).2.2 rfl ?_; refine v_move ?_; obtain ⟨v7, e8, hF⟩ := bnd_some hF; refine v_call st (ct51 N e8 st.d st.sub ra0_1 ra0_2) (fun n9 st => ?_); refine v_move ?_; refine r_nil ?_; refine th_n ?_; refine w_seq ?_; refine w_reg ?_; refine v_move ?_; refine v_nei ?_; refine r_nil ?_; refine th_n ?_; refine v_cond (fun hb10 => ?_) (fun hb10 => ?_)
  · have hF := bif_t hb10 hF; refine w_seq ?_; refine w_reg ?_; refine v_move ?_; refine v_move ?_; refine v_move ?_; refine r_nil ?_; refine th_n ?_; refine w_ret ?_; refine th_r ?_; obtain rfl := inj hF
    exact end_s st (Res.t gA (Res.t gA Res.nil)) rfl rfl
  · have hF := bif_f hb10 hF; refine w_skip ?_; refine th_n ?_; refine w_seq ?_; refine w_seq ?_; refine w_reg ?_; refine v_ldn (vs := [(i64 a0_0), (.slice pa0_1 (a0_1).length ca0_1), (.slice pa0_2 (a0_2).length ca0_2), (i64 a0_3)]) (st.at (i := 0) rfl).2.2 rfl ?_; refine v_ldn (vs := [(.slice pa2_0 (a2_0).length ca2_0), (.slice pa2_1 (a2_1).length ca2_1)]) (st.at (i := 1) rfl).2.2 rfl ?_; obtain ⟨v11, e12, hF⟩ := bnd_some hF; refine v_call st (ct52 N e12 st.d st.sub ra0_1 ra0_2 ra2_0 ra2_1) (fun n13 st => ?_); refine v_not ?_; refine r_nil ?_; refine th_n ?_; refine v_cond (fun hb14 => ?_) (fun hb14 => ?_)
    · have hF := bif_t hb14 hF; refine w_seq ?_; refine w_reg ?_; refine v_move ?_; refine v_move ?_; refine r_nil ?_; refine th_n ?_; refine w_ret ?_; refine th_r ?_; obtain rfl := inj hF
      exact end_s st (Res.t gA (Res.t gA Res.nil)) rfl rfl
    · have hF := bif_f hb14 hF; refine w_skip ?_; refine th_n ?_; refine w_seq ?_; refine w_reg ?_; refine v_ldn (vs := [(i64 a0_0), (.slice pa0_1 (a0_1).length ca0_1), (.slice pa0_2 (a0_2).length ca0_2), (i64 a0_3)]) (st.at (i := 0) rfl).2.2 rfl ?_; refine v_ldn (vs := [(.slice pa2_0 (a2_0).length ca2_0), (.slice pa2_1 (a2_1).length ca2_1)]) (st.at (i := 1) rfl).2.2 rfl ?_; obtain ⟨v15, e16, hF⟩ := bnd_some hF; refine v_callR st (ct53 N e16 st.d st.sub (Nat.le_trans hfl st.ext.le) ra0_1 ra0_2 ra2_0 ra2_1) (fun u17 F17 h17 n17 le17 rv17 st => ?_); obtain ⟨py18, cy18, rfl, ry18⟩ := rv17; refine v_move ?_; obtain ⟨n19, x19, z19, l19, g19, hF⟩ := ix_some hF; obtain ⟨b19, o19, s19, j19, r19, e19, f19, k19, rfl⟩ := RowF.get ry18 g19
      refine v_ixp e19 z19 l19 ?_; refine v_ld1 (st.sub _ _ f19) (take_at (j := 0) k19 rfl) ?_; refine v_move ?_; refine v_move ?_; refine r_nil ?_; refine th_n ?_; refine w_ret ?_; obtain rfl := inj hF
      exact end_s st (Res.t gA (Res.t gA Res.nil)) rfl rfl
theorem ct57 (N : Nat) {a0_0 : Int} {a0_1 : (List (Int × Int))} {a0_2 : (List (Int × Int × Int))} {a0_3 : Int} {a1 : (List Int)} {a2 : (List Int)} {r : Int} (hF : sf57 N a0_0 a0_1 a0_2 a0_3 a1 a2 = some r) {fl : Nat} {h0 : Tr HBlk} {n0 : Nat} {F0 : PH} (hd : D h0 n0) (hs : F0.sub h0) {pa0_1 : Option (Nat × Nat)} {ca0_1 : Nat} {pa0_2 : Option (Nat × Nat)} {ca0_2 : Nat} {pa1 : Option (Nat × Nat)} {ca1 : Nat} {pa2 : Option (Nat × Nat)} {ca2 : Nat} (ra0_1 : RowF (rP rI rI) 2 F0 pa0_1 ca0_1 a0_1) (ra0_2 : RowF (rP rI (rP rI rI)) 3 F0 pa0_2 ca0_2 a0_2) (ra1 : RowF rI 1 F0 pa1 ca1 a1) (ra2 : RowF rI 1 F0 pa2 ca2 a2) : C LW fl 57 [(.agg [(i64 a0_0), (.slice pa0_1 (a0_1).length ca0_1), (.slice pa0_2 (a0_2).length ca0_2), (i64 a0_3)]), (.slice pa1 (a1).length ca1), (.slice pa2 (a2).length ca2)] ⟨h0, n0⟩ (KS (i64 r) n0 h0) := by
  unfold sf57 at hF
  refine in_cT hd hs lw57 rfl rfl (by rfl) (fun st T hT => ?_)
  have hfl : n0 ≤ n0 := Nat.le_refl n0
  have t0 := hT 0 _ rfl
  have t1 := hT 1 _ rfl
  have t2 := hT 2 _ rfl
  dsimp only [L57]
  refine w_seq ?_; refine w_reg ?_; refine v_box st (fun b1 h2 n3 st => ?_); refine v_move ?_; refine r_nil ?_; refine th_n ?_; refine w_seq ?_; refine w_seq ?_; refine w_reg ?_; refine v_ldn (vs := [(i64 a0_0), (.slice pa0_1 (a0_1).length ca0_1), (.slice pa0_2 (a0_2).length ca0_2), (i64 a0_3)]) (st.at (i := 0) rfl).2.2 rfl ?_; refine v_move ?_; obtain ⟨v4, e5, hF⟩ := bnd_some hF; refine v_call st (ct66 N e5 st.d st.sub ra0_1 ra0_2 ra1) (fun n6 st => ?_); refine v_move ?_; refine r_nil ?_; refine th_n ?_; refine w_seq ?_; refine w_reg ?_; refine v_move ?_; refine v_nei ?_; refine r_nil ?_; refine th_n ?_; refine v_cond (fun hb7 => ?_) (fun hb7 => ?_)
  · have hF := bif_t hb7 hF; refine w_seq ?_; refine w_reg ?_; refine v_move ?_; refine v_move ?_; refine r_nil ?_; refine th_n ?_; refine w_ret ?_; refine th_r ?_; obtain rfl := inj hF
    exact end_s st (Res.t gA Res.nil) rfl rfl
  · have hF := bif_f hb7 hF; refine w_skip ?_; refine th_n ?_; refine w_seq ?_; obtain ⟨y16, hA17, hF⟩ := bnd_some hF; refine w_cutD (fun T ds19 h nx => ∃ (F19 : PH), ds19 = [] ∧ PH.le F0 F19 ∧ St n0 h0 F0 F19 h nx [.bx b1 [(i64 a0_0), (.slice pa0_1 (a0_1).length ca0_1), (.slice pa0_2 (a0_2).length ca0_2), (i64 a0_3)]] ∧ T.get 30 = some (.bool y16)) ?_ (fun T ds19 h nx hp => ?_)
    · have hK18 := hF
      have hF := hA17; refine w_reg ?_; refine v_move ?_; refine v_len ?_; refine v_move ?_; refine v_len ?_; refine v_nei ?_; refine v_move ?_
      rcases Bool.eq_false_or_eq_true (!(decide (((a2).length : Int) = ((a1).length : Int)))) with hb20 | hb20
      · have hF := bif_t hb20 hF; refine g_skip hb20 ?_; refine g_skip hb20 ?_; refine g_skip hb20 ?_; refine g_skip hb20 ?_; refine g_skip hb20 ?_; refine v_pick hb20 ?_; refine v_move ?_; refine g_skip rfl ?_; refine g_skip rfl ?_; refine g_skip rfl ?_; refine v_pick rfl ?_; refine r_nil ?_; obtain rfl := inj hF; refine thn ⟨rfl, ?_⟩; dsimp only
        exact ⟨F0, rfl, (PH.le.refl _), st, gA⟩
      · have hF := bif_f hb20 hF; refine g_take hb20 (v_move ?_); refine g_take hb20 (v_ldn (vs := [(i64 a0_0), (.slice pa0_1 (a0_1).length ca0_1), (.slice pa0_2 (a0_2).length ca0_2), (i64 a0_3)]) (st.at (i := 0) rfl).2.2 rfl ?_); refine g_take hb20 (v_mf ?_); obtain ⟨v21, e22, hF⟩ := bnd_some hF; refine g_take hb20 (v_call st (ct87_2 N e22 st.d st.sub ra2 ra0_1 ra0_2) (fun n23 st => ?_)); refine g_take hb20 (v_not ?_); refine v_pick' hb20 ?_; refine v_move ?_
        rcases Bool.eq_false_or_eq_true (!v21) with hb24 | hb24
        · have hF := bif_t hb24 hF; refine g_skip hb24 ?_; refine g_skip hb24 ?_; refine g_skip hb24 ?_; refine v_pick hb24 ?_; refine r_nil ?_; obtain rfl := inj hF; refine thn ⟨rfl, ?_⟩; dsimp only
          exact ⟨F0, rfl, (PH.le.refl _), st, gA⟩
        · have hF := bif_f hb24 hF; refine g_take hb24 (v_move ?_); obtain ⟨v25, e26, hF⟩ := bnd_some hF; refine g_take hb24 (v_call st (ct88 N e26 st.d st.sub ra2) (fun n27 st => ?_)); refine g_take hb24 (v_not ?_); refine v_pick' hb24 ?_; refine r_nil ?_; obtain rfl := inj hF; refine thn ⟨rfl, ?_⟩; dsimp only
          exact ⟨F0, rfl, (PH.le.refl _), st, gA⟩
    · obtain ⟨F19, rfl, le19, st, t30⟩ := hp; refine v_cond (fun hb28 => ?_) (fun hb28 => ?_)
      · have hF := bif_t hb28 hF; refine w_seq ?_; refine w_reg ?_; refine v_move ?_; refine r_nil ?_; refine th_n ?_; refine w_ret ?_; refine th_r ?_; obtain rfl := inj hF
        exact end_s st (Res.t gA Res.nil) rfl rfl
      · have hF := bif_f hb28 hF; refine w_skip ?_; refine th_n ?_; refine w_seq ?_; refine w_reg ?_; refine v_move ?_; refine r_nil ?_; refine th_n ?_; refine w_ret ?_; obtain rfl := inj hF
        exact end_s st (Res.t gA Res.nil) rfl rfl
end Go.Hx.V

/- Functions of the program come to that. -/
namespace Go.Hx.V
open Go.Hx
set_option linter.unusedVariables false
set_option maxRecDepth 20000
set_option maxHeartbeats 4000000
attribute [local irreducible] W R C thenH inBlockH Tr.get Tr.set lo
end Go.Hx.V

/- Functions of the program come to that. -/
namespace Go.Hx.V
open Go.Hx
set_option linter.unusedVariables false
set_option maxRecDepth 20000
set_option maxHeartbeats 4000000
attribute [local irreducible] W R C thenH inBlockH Tr.get Tr.set lo
theorem ct29 (N : Nat) {a0_0 : Int} {a0_1 : (List (Int × Int))} {a0_2 : (List (Int × Int × Int))} {a0_3 : Int} {a1 : (List Int)} {a2 : (List Int)} {r : ((List (Int × Int)) × Int)} (hF : sf29 N a0_0 a0_1 a0_2 a0_3 a1 a2 = some r) {fl : Nat} {h0 : Tr HBlk} {n0 : Nat} {F0 : PH} (hd : D h0 n0) (hs : F0.sub h0) (hfl : fl ≤ n0) {pa0_1 : Option (Nat × Nat)} {ca0_1 : Nat} {pa0_2 : Option (Nat × Nat)} {ca0_2 : Nat} {pa1 : Option (Nat × Nat)} {ca1 : Nat} {pa2 : Option (Nat × Nat)} {ca2 : Nat} (ra0_1 : RowF (rP rI rI) 2 F0 pa0_1 ca0_1 a0_1) (ra0_2 : RowF (rP rI (rP rI rI)) 3 F0 pa0_2 ca0_2 a0_2) (ra1 : RowF rI 1 F0 pa1 ca1 a1) (ra2 : RowF rI 1 F0 pa2 ca2 a2) : C LW fl 29 [(.agg [(i64 a0_0), (.slice pa0_1 (a0_1).length ca0_1), (.slice pa0_2 (a0_2).length ca0_2), (i64 a0_3)]), (.slice pa1 (a1).length ca1), (.slice pa2 (a2).length ca2)] ⟨h0, n0⟩ (KR (rvT2 (lvL (rP rI rI) 2) lvI) F0 h0 n0 r) := by
  unfold sf29 at hF
  refine in_mT hd hs hfl lw29 rfl rfl (by rfl) (fun st T hT => ?_)
  have t0 := hT 0 _ rfl
  have t1 := hT 1 _ rfl
  have t2 := hT 2 _ rfl
  dsimp only [L29]
  refine w_seq ?_; refine w_reg ?_; refine v_box st (fun b1 h2 n3 st => ?_); refine v_move ?_; refine v_move ?_; refine r_nil ?_; refine th_n ?_; refine w_seq ?_; refine w_seq ?_; refine w_reg ?_; refine v_ldn (vs := [(i64 a0_0), (.slice pa0_1 (a0_1).length ca0_1), (.slice pa0_2 (a0_2).length ca0_2), (i64 a0_3)]) (st.at (i := 0) rfl).2.2 rfl ?_; refine v_move ?_; refine v_move ?_; obtain ⟨v4, e5, hF⟩ := bnd_some hF; refine v_call st (ct57 N e5 st.d st.sub ra0_1 ra0_2 ra1 ra2) (fun n6 st => ?_); refine v_move ?_; refine r_nil ?_; refine th_n ?_; refine w_seq ?_; refine w_reg ?_; refine v_move ?_; refine v_nei ?_; refine r_nil ?_; refine th_n ?_; refine v_cond (fun hb7 => ?_) (fun hb7 => ?_)
  · have hF := bif_t hb7 hF; refine w_seq ?_; refine w_reg ?_; refine v_move ?_; refine v_move ?_; refine v_move ?_; refine r_nil ?_; refine th_n ?_; refine w_ret ?_; refine th_r ?_; obtain rfl := inj hF
    exact end_r st (Res.t gA (Res.t gA Res.nil)) ⟨_, _, rfl, ⟨none, 0, rfl, RowF.nil⟩, rfl⟩
  · have hF := bif_f hb7 hF; refine w_skip ?_; refine th_n ?_; refine w_seq ?_; refine w_reg ?_; refine v_ldn (vs := [(i64 a0_0), (.slice pa0_1 (a0_1).length ca0_1), (.slice pa0_2 (a0_2).length ca0_2), (i64 a0_3)]) (st.at (i := 0) rfl).2.2 rfl ?_; obtain ⟨v8, e9, hF⟩ := bnd_some hF; refine v_callR st (ct54 N e9 st.d st.sub (Nat.le_trans hfl st.ext.le) ra0_1 ra0_2) (fun u10 F10 h10 n10 le10 rv10 st => ?_); obtain ⟨_, rfl, ⟨_, _, rfl, rfl, ⟨_, _, rfl, ⟨py11, cy11, rfl, ry11⟩, ⟨_, _, rfl, ⟨py12, cy12, rfl, ry12⟩, ⟨_, _, rfl, rfl, ⟨_, _, rfl, ⟨py13, cy13, rfl, ry13⟩, ⟨py14, cy14, rfl, ry14⟩⟩⟩⟩⟩⟩⟩ := rv10; refine v_alloc st (fun b15 h16 n17 st => ?_); refine v_st (cs' := [(i64 v8.1), (.slice py11 (v8.2.1).length cy11), (.slice py12 (v8.2.2.1).length cy12), (i64 v8.2.2.2.1), (.slice py13 (v8.2.2.2.2.1).length cy13), (.slice py14 (v8.2.2.2.2.2).length cy14)]) st 1 rfl rfl rfl rfl hfl (fun h18 st => ?_)
    refine r_nil ?_; refine th_n ?_; refine w_seq ?_; refine w_reg ?_; refine v_move ?_; refine v_len ?_; obtain ⟨q19, hF⟩ := ck_some hF
    have w19 : LR (rP rI rI) 2 F10 (List.replicate (Int.toNat (0 : Int)) (0, 0)) (Go.Hx.repl (Int.toNat (0 : Int)) [(i64 (0 : Int)), (i64 (0 : Int))]) := LR.repl (⟨[(i64 (0 : Int))], [(i64 (0 : Int))], rfl, rfl, rfl⟩) _
    refine v_mk st (n := (List.replicate (Int.toNat (0 : Int)) (0, 0)).length) q19.1 q19.2.1 (by simp) q19.2.2.1 q19.2.2.2 (fun o19 h19 n19 st => ?_)
    refine v_move ?_; refine r_nil ?_; refine th_n ?_; refine w_seq ?_; refine w_seq ?_; refine w_reg ?_; refine v_move ?_; refine v_move ?_; obtain ⟨v20, e21, hF⟩ := bnd_some hF; refine v_callR st (ct58 N e21 st.d st.sub (Nat.le_trans hfl st.ext.le) (RowF.mono le10 ra1) (RowF.mono le10 ra2)) (fun u22 F22 h22 n22 le22 rv22 st => ?_)
    have le23 := PH.le.trans le10 le22
    obtain ⟨py24, cy24, rfl, ry24⟩ := rv22; refine v_len ?_; refine v_move ?_; refine r_nil ?_; refine th_n ?_; refine w_block ?_; obtain ⟨y44, hy, hF⟩ := bnd_some hF; refine v_loopD (sf29_L1 N v8 v20) (fun x25 T ds26 h nx => ∃ (F26 : PH) (o27 : Option Nat) (c27 : Nat) (cs27 : List HV), ds26 = [] ∧ PH.le F22 F26 ∧ St n0 h0 F0 F26 h nx [.bx b1 [(i64 a0_0), (.slice pa0_1 (a0_1).length ca0_1), (.slice pa0_2 (a0_2).length ca0_2), (i64 a0_3)], .bx b15 [(i64 v8.1), (.slice py11 (v8.2.1).length cy11), (.slice py12 (v8.2.2.1).length cy12), (i64 v8.2.2.2.1), (.slice py13 (v8.2.2.2.2.1).length cy13), (.slice py14 (v8.2.2.2.2.2).length cy14)], .ls o27 c27 cs27 2] ∧ LR (rP rI rI) 2 F26 x25.1 cs27 ∧ T.get 9 = some (.ptr (some (b15, 0))) ∧ T.get 10 = some (slv o27 (x25.1).length c27) ∧ T.get 27 = some (.slice py24 (v20).length cy24) ∧ T.get 28 = some (i64 ((v20).length : Int)) ∧ T.get 29 = some (i64 x25.2)) (fun y e a σ => e = .exit 0 ∧ a.nt = 41 ∧ ∃ (F45 : PH) (o46 : Option Nat) (c46 : Nat) (cs46 : List HV), a.defers = [] ∧ PH.le F22 F45 ∧ St n0 h0 F0 F45 σ.h σ.nx [.bx b1 [(i64 a0_0), (.slice pa0_1 (a0_1).length ca0_1), (.slice pa0_2 (a0_2).length ca0_2), (i64 a0_3)], .bx b15 [(i64 v8.1), (.slice py11 (v8.2.1).length cy11), (.slice py12 (v8.2.2.1).length cy12), (i64 v8.2.2.2.1), (.slice py13 (v8.2.2.2.2.1).length cy13), (.slice py14 (v8.2.2.2.2.2).length cy14)], .ls o46 c46 cs46 2] ∧ LR (rP rI rI) 2 F45 y cs46 ∧ a.tmps.get 10 = some (slv o46 (y).length c46)) (fun x25 T ds26 h nx s hp hF => ?_) N _ y44 _ _ _ _ hy ⟨F22, o19, (Int.toNat ((a1).length : Int)), (Go.Hx.repl (Int.toNat (0 : Int)) [(i64 (0 : Int)), (i64 (0 : Int))]), rfl, (PH.le.refl _), st, (LR.mono le22 w19), gA, gA, gA, gA, gA⟩ (fun e a σ hne hq => ?_)
    · obtain ⟨F26, o27, c27, cs27, rfl, le26, st, w27, t9, t10, t27, t28, t29⟩ := hp
      have le28 := PH.le.trans le23 le26
      have le29 := PH.le.trans le22 le26
      unfold sf29_L1 at hF; unfold L29w0; refine w_seq ?_; refine w_reg ?_; refine v_lss ?_; refine r_nil ?_; refine th_n ?_; refine w_seq ?_; refine v_cond (fun hb47 => ?_) (fun hb47 => ?_)
      · have hF := bif_t hb47 hF; refine w_skip ?_; refine th_n ?_; refine w_seq ?_; refine w_block ?_; refine w_seq ?_; refine w_reg ?_; obtain ⟨n48, x48, z48, l48, g48, hF⟩ := ix_some hF; obtain ⟨b48, o48, s48, j48, r48, e48, f48, k48, ⟨_, _, rfl, rfl, rfl⟩⟩ := RowF.get ry24 g48; refine v_ixp e48 z48 l48 ?_; refine v_ldn (st.sub _ _ (le26 _ _ f48)) k48 ?_; refine v_alloc st (fun b49 h50 n51 st => ?_); refine v_st (cs' := [(i64 x48.1), (i64 x48.2)]) st 3 rfl rfl rfl rfl hfl (fun h52 st => ?_); refine r_nil ?_; refine th_n ?_; refine w_reg ?_; refine v_move ?_; refine v_ldn (vs := [(i64 v8.1), (.slice py11 (v8.2.1).length cy11), (.slice py12 (v8.2.2.1).length cy12), (i64 v8.2.2.2.1), (.slice py13 (v8.2.2.2.2.1).length cy13), (.slice py14 (v8.2.2.2.2.2).length cy14)]) (st.at (i := 1) rfl).2.2 rfl ?_
        refine v_ldn (vs := [(i64 x48.1), (i64 x48.2)]) (st.at (i := 3) rfl).2.2 rfl ?_; obtain ⟨v53, e54, hF⟩ := bnd_some hF; refine v_call st (ct59 N e54 st.d st.sub (RowF.mono le29 ry11) (RowF.mono le29 ry12) (RowF.mono le29 ry13) (RowF.mono le29 ry14)) (fun n55 st => ?_); refine v_bs (cs := [(i64 v53.1), (i64 v53.2)]) st rfl (fun b56 h57 n58 st => ?_); obtain ⟨q59, hF⟩ := ck_some hF
        have w59 : LR (rP rI rI) 2 F26 (x25.1 ++ [(v53.1, v53.2)]) (cs27 ++ [(i64 v53.1), (i64 v53.2)]) := LR.app w27 (LR.one (⟨[(i64 v53.1)], [(i64 v53.2)], rfl, rfl, rfl⟩))
        refine v_aps (n := 1) (ox := 0) (m := (x25.1 ++ [(v53.1, v53.2)]).length) (row := [(i64 v53.1), (i64 v53.2)]) st 2 rfl w27.1 (st.at (i := 4) rfl).2.2 rfl rfl q59 hfl (by decide) (by decide) (by simp) (fun o59 c59 h59 n59 st => ?_)
        refine v_move ?_; refine r_nil ?_; refine ib_n ?_; refine th_n ?_; refine w_reg ?_; obtain ⟨q60, hF⟩ := ck_some hF; refine v_add q60 ?_; refine v_move ?_; refine r_nil ?_; refine thn ⟨_, (inj hF).symm, rfl, ?_⟩; dsimp only
        exact ⟨F26, o59, c59, (cs27 ++ [(i64 v53.1), (i64 v53.2)]), rfl, le26, (st.drop (by first | exact List.Sublist.refl _ | (repeat first | exact List.nil_sublist _ | refine List.Sublist.cons_cons _ ?_ | refine List.Sublist.cons _ ?_))), w59, gA, gA, gA, gA, gA⟩
      · have hF := bif_f hb47 hF; refine w_exit ?_; refine th_e ?_; refine th_e ?_; refine ⟨_, (inj hF).symm, rfl, rfl, ?_⟩; dsimp only
        exact ⟨F26, o27, c27, cs27, rfl, le26, st, w27, gA⟩
    · obtain ⟨N9, T, ds45⟩ := a; obtain ⟨h63, n64⟩ := σ; obtain ⟨rfl, e1, F45, o46, c46, cs46, e2, le45, st, w46, t10⟩ := hq
      dsimp only at e1 e2
      subst e1
      subst e2
      dsimp only at st t10
      have le61 := PH.le.trans le23 le45
      have le62 := PH.le.trans le22 le45
      refine ib_e ?_; refine th_n ?_; refine w_seq ?_; refine w_reg ?_; refine v_move ?_; refine v_move ?_; refine v_move ?_; refine r_nil ?_; refine th_n ?_; refine w_ret ?_; obtain rfl := inj hF
      obtain ⟨F65, le65, st, rf65⟩ := St.freeze st 2 rfl w46 (by decide)
      have le66 := PH.le.trans le61 le65
      have le67 := PH.le.trans le62 le65
      have le68 := PH.le.trans le45 le65
      exact end_r st (Res.t gA (Res.t gA Res.nil)) ⟨_, _, rfl, ⟨_, _, rfl, rf65⟩, rfl⟩
theorem ct31 (N : Nat) {a0_0 : Int} {a0_1 : (List (Int × Int))} {a0_2 : (List (Int × Int × Int))} {a0_3 : Int} {a1 : (List Int)} {a2 : (List Int)} {a3 : Int} {r : (Int × Int)} (hF : sf31 N a0_0 a0_1 a0_2 a0_3 a1 a2 a3 = some r) {fl : Nat} {h0 : Tr HBlk} {n0 : Nat} {F0 : PH} (hd : D h0 n0) (hs : F0.sub h0) {pa0_1 : Option (Nat × Nat)} {ca0_1 : Nat} {pa0_2 : Option (Nat × Nat)} {ca0_2 : Nat} {pa1 : Option (Nat × Nat)} {ca1 : Nat} {pa2 : Option (Nat × Nat)} {ca2 : Nat} (ra0_1 : RowF (rP rI rI) 2 F0 pa0_1 ca0_1 a0_1) (ra0_2 : RowF (rP rI (rP rI rI)) 3 F0 pa0_2 ca0_2 a0_2) (ra1 : RowF rI 1 F0 pa1 ca1 a1) (ra2 : RowF rI 1 F0 pa2 ca2 a2) : C LW fl 31 [(.agg [(i64 a0_0), (.slice pa0_1 (a0_1).length ca0_1), (.slice pa0_2 (a0_2).length ca0_2), (i64 a0_3)]), (.slice pa1 (a1).length ca1), (.slice pa2 (a2).length ca2), (i64 a3)] ⟨h0, n0⟩ (KS (.tuple [(i64 r.1), (i64 r.2)]) n0 h0) := by
  unfold sf31 at hF
  refine in_cT hd hs lw31 rfl rfl (by rfl) (fun st T hT => ?_)
  have hfl : n0 ≤ n0 := Nat.le_refl n0
  have t0 := hT 0 _ rfl
  have t1 := hT 1 _ rfl
  have t2 := hT 2 _ rfl
  have t3 := hT 3 _ rfl
  dsimp only [L31]
  refine w_seq ?_; refine w_reg ?_; refine v_box st (fun b1 h2 n3 st => ?_); refine v_move ?_; refine v_move ?_; refine r_nil ?_; refine th_n ?_; refine w_seq ?_; refine w_seq ?_; refine w_reg ?_; refine v_ldn (vs := [(i64 a0_0), (.slice pa0_1 (a0_1).length ca0_1), (.slice pa0_2 (a0_2).length ca0_2), (i64 a0_3)]) (st.at (i := 0) rfl).2.2 rfl ?_; refine v_move ?_; refine v_move ?_; obtain ⟨v4, e5, hF⟩ := bnd_some hF; refine v_call st (ct57 N e5 st.d st.sub ra0_1 ra0_2 ra1 ra2) (fun n6 st => ?_); refine v_move ?_; refine r_nil ?_; refine th_n ?_; refine w_seq ?_; refine w_reg ?_; refine v_move ?_; refine v_nei ?_; refine r_nil ?_; refine th_n ?_; refine v_cond (fun hb7 => ?_) (fun hb7 => ?_)
  · have hF := bif_t hb7 hF; refine w_seq ?_; refine w_reg ?_; refine v_move ?_; refine v_move ?_; refine v_move ?_; refine r_nil ?_; refine th_n ?_; refine w_ret ?_; refine th_r ?_; obtain rfl := inj hF
    exact end_s st (Res.t gA (Res.t gA Res.nil)) rfl rfl
  · have hF := bif_f hb7 hF; refine w_skip ?_; refine th_n ?_; refine w_seq ?_; refine w_seq ?_; refine w_reg ?_; refine v_move ?_; obtain ⟨v8, e9, hF⟩ := bnd_some hF; refine v_call st (ct60 N e9 st.d st.sub ) (fun n10 st => ?_); refine v_not ?_; refine r_nil ?_; refine th_n ?_; refine v_cond (fun hb11 => ?_) (fun hb11 => ?_)
    · have hF := bif_t hb11 hF; refine w_seq ?_; refine w_reg ?_; refine v_move ?_; refine v_move ?_; refine r_nil ?_; refine th_n ?_; refine w_ret ?_; refine th_r ?_; obtain rfl := inj hF
      exact end_s st (Res.t gA (Res.t gA Res.nil)) rfl rfl
    · have hF := bif_f hb11 hF; refine w_skip ?_; refine th_n ?_; refine w_seq ?_; refine w_drawV (Nat.le_trans hfl st.ext.le) (fun dw => ?_)
      have wf := Wf.start st
      refine y_pure st.d dw (fun hm vw => v_move pr_nil) ?_; refine y_pure st.d dw (fun hm vw => v_move pr_nil) ?_; obtain ⟨v12, e13, hF⟩ := bnd_some hF
      refine y_deep st dw wf (fun hm vw => u_callR (ct58 N e13 vw.d (FF.sub wf st vw) (Nat.max_le.2 ⟨by have := dw.le; have := st.ext.le; omega, Nat.le_refl _⟩) (RowF.mono FF.base ra1) (RowF.mono FF.base ra2)) (fun v F' h' n' ex l1 l2 l3 l4 => r_nil ⟨_, _, rfl, ex, l1, l2, l3, l4⟩)) (fun u14 F14 n14 done hn' dw14 wf14 rv14 le14 => ?_)
      have wf := wf14
      have dw := dw14
      obtain ⟨py15, cy15, rfl, ry15⟩ := rv14; refine y_pure st.d dw (fun hm vw => v_ldn (vs := [(i64 a0_0), (.slice pa0_1 (a0_1).length ca0_1), (.slice pa0_2 (a0_2).length ca0_2), (i64 a0_3)]) (vw.bx (st.at (i := 0) rfl)) rfl pr_nil) ?_; refine y_end st.d dw rfl (fun h16 ex vs => ?_)
      obtain ⟨F17, lt17, st⟩ := St.laidF st dw wf ex vs (Lay.nil (by have := dw.le; omega)) (fun e he => by cases he)
      have lz18 := lt17 _ (le14 (fun _ => true) rfl (fun _ _ => rfl))
      have lb17 := lt17 _ FF.base
      refine v_move ?_; obtain ⟨v19, e20, hF⟩ := bnd_some hF; refine v_callR st (ct62 N e20 st.d st.sub (Nat.le_trans hfl st.ext.le) (RowF.mono lb17 ra0_1) (RowF.mono lb17 ra0_2)) (fun u21 F21 h21 n21 le21 rv21 st => ?_)
      have le22 := PH.le.trans lb17 le21
      have le23 := PH.le.trans lz18 le21
      obtain ⟨_, rfl, ⟨_, _, rfl, rfl, ⟨_, _, rfl, ⟨py24, cy24, rfl, ry24⟩, ⟨_, _, rfl, ⟨py25, cy25, rfl, ry25⟩, ⟨_, _, rfl, rfl, ⟨_, _, rfl, ⟨py26, cy26, rfl, ry26⟩, ⟨_, _, rfl, ⟨py27, cy27, rfl, ry27⟩, rfl⟩⟩⟩⟩⟩⟩⟩ := rv21; refine v_mf ?_; obtain ⟨v28, e29, hF⟩ := bnd_some hF; refine v_call st (ct61 N e29 st.d st.sub (RowF.mono le23 ry15) ry24 ry25 ry26 ry27) (fun n30 st => ?_); refine v_move ?_; refine r_nil ?_; refine th_n ?_; refine w_seq ?_; refine w_seq ?_; refine w_reg ?_; refine v_move ?_; refine v_lss ?_; refine r_nil ?_; refine th_n ?_; refine v_cond (fun hb31 => ?_) (fun hb31 => ?_)
      · have hF := bif_t hb31 hF; refine w_seq ?_; refine w_reg ?_; refine v_move ?_; refine v_move ?_; refine r_nil ?_; refine th_n ?_; refine w_ret ?_; refine th_r ?_; obtain rfl := inj hF
        exact end_s st (Res.t gA (Res.t gA Res.nil)) rfl rfl
      · have hF := bif_f hb31 hF; refine w_skip ?_; refine th_n ?_; refine w_seq ?_; refine w_reg ?_; refine v_move ?_; refine v_move ?_; refine v_move ?_; refine r_nil ?_; refine th_n ?_; refine w_ret ?_; obtain rfl := inj hF
        exact end_s st (Res.t gA (Res.t gA Res.nil)) rfl rfl
theorem ct43 (N : Nat) {a0_0 : Int} {a0_1 : (List (Int × Int))} {a0_2 : (List (Int × Int × Int))} {a0_3 : Int} {a1 : (List Int)} {a2 : (List Int)} {a3 : Int} {a4 : Int} {r : Bool} (hF : sf43 N a0_0 a0_1 a0_2 a0_3 a1 a2 a3 a4 = some r) {fl : Nat} {h0 : Tr HBlk} {n0 : Nat} {F0 : PH} (hd : D h0 n0) (hs : F0.sub h0) {pa0_1 : Option (Nat × Nat)} {ca0_1 : Nat} {pa0_2 : Option (Nat × Nat)} {ca0_2 : Nat} {pa1 : Option (Nat × Nat)} {ca1 : Nat} {pa2 : Option (Nat × Nat)} {ca2 : Nat} (ra0_1 : RowF (rP rI rI) 2 F0 pa0_1 ca0_1 a0_1) (ra0_2 : RowF (rP rI (rP rI rI)) 3 F0 pa0_2 ca0_2 a0_2) (ra1 : RowF rI 1 F0 pa1 ca1 a1) (ra2 : RowF rI 1 F0 pa2 ca2 a2) : C LW fl 43 [(.agg [(i64 a0_0), (.slice pa0_1 (a0_1).length ca0_1), (.slice pa0_2 (a0_2).length ca0_2), (i64 a0_3)]), (.slice pa1 (a1).length ca1), (.slice pa2 (a2).length ca2), (i64 a3), (i64 a4)] ⟨h0, n0⟩ (KS (.bool r) n0 h0) := by
  unfold sf43 at hF
  refine in_cT hd hs lw43 rfl rfl (by rfl) (fun st T hT => ?_)
  have hfl : n0 ≤ n0 := Nat.le_refl n0
  have t0 := hT 0 _ rfl
  have t1 := hT 1 _ rfl
  have t2 := hT 2 _ rfl
  have t3 := hT 3 _ rfl
  have t4 := hT 4 _ rfl
  dsimp only [L43]
  refine w_seq ?_; refine w_reg ?_; refine v_box st (fun b1 h2 n3 st => ?_); refine v_move ?_; refine r_nil ?_; refine th_n ?_; obtain ⟨y31, hA32, hF⟩ := bnd_some hF; refine w_cutD (fun T ds37 h nx => ∃ u, y31 = (.inr u) ∧ ∃ (F37 : PH), ds37 = [] ∧ PH.le F0 F37 ∧ St n0 h0 F0 F37 h nx [.bx b1 [(i64 a0_0), (.slice pa0_1 (a0_1).length ca0_1), (.slice pa0_2 (a0_2).length ca0_2), (i64 a0_3)]] ∧ T.get 1 = some (.slice pa1 (a1).length ca1) ∧ T.get 2 = some (.slice pa2 (a2).length ca2) ∧ T.get 3 = some (i64 a3) ∧ T.get 5 = some (.ptr (some (b1, 0)))) ?_ (fun T ds37 h nx hp => ?_)
  · have hK33 := hF
    have hF := hA32; obtain ⟨y49, hA50, hF⟩ := bnd_some hF; refine w_cutD (fun T ds52 h nx => ∃ (F52 : PH), ds52 = [] ∧ PH.le F0 F52 ∧ St n0 h0 F0 F52 h nx [.bx b1 [(i64 a0_0), (.slice pa0_1 (a0_1).length ca0_1), (.slice pa0_2 (a0_2).length ca0_2), (i64 a0_3)]] ∧ T.get 1 = some (.slice pa1 (a1).length ca1) ∧ T.get 2 = some (.slice pa2 (a2).length ca2) ∧ T.get 3 = some (i64 a3) ∧ T.get 5 = some (.ptr (some (b1, 0))) ∧ T.get 26 = some (.bool y49)) ?_ (fun T ds52 h nx hp => ?_)
    · have hK51 := hF
      have hF := hA50; refine w_reg ?_; refine v_ldn (vs := [(i64 a0_0), (.slice pa0_1 (a0_1).length ca0_1), (.slice pa0_2 (a0_2).length ca0_2), (i64 a0_3)]) (st.at (i := 0) rfl).2.2 rfl ?_; refine v_move ?_; refine v_move ?_; obtain ⟨v53, e54, hF⟩ := bnd_some hF; refine v_call st (ct57 N e54 st.d st.sub ra0_1 ra0_2 ra1 ra2) (fun n55 st => ?_); refine v_nei ?_; refine v_move ?_
      rcases Bool.eq_false_or_eq_true (!(decide (v53 = (0 : Int)))) with hb56 | hb56
      · have hF := bif_t hb56 hF; refine g_skip hb56 ?_; refine g_skip hb56 ?_; refine g_skip hb56 ?_; refine v_pick hb56 ?_; refine v_move ?_; refine g_skip rfl ?_; refine g_skip rfl ?_; refine g_skip rfl ?_; refine g_skip rfl ?_; refine v_pick rfl ?_; refine r_nil ?_; obtain rfl := inj hF; refine thn ⟨rfl, ?_⟩; dsimp only
        exact ⟨F0, rfl, (PH.le.refl _), st, gA, gA, gA, gA, gA⟩
      · have hF := bif_f hb56 hF; refine g_take hb56 (v_move ?_); obtain ⟨v57, e58, hF⟩ := bnd_some hF; refine g_take hb56 (v_call st (ct60 N e58 st.d st.sub ) (fun n59 st => ?_)); refine g_take hb56 (v_not ?_); refine v_pick' hb56 ?_; refine v_move ?_
        rcases Bool.eq_false_or_eq_true (!v57) with hb60 | hb60
        · have hF := bif_t hb60 hF; refine g_skip hb60 ?_; refine g_skip hb60 ?_; refine g_skip hb60 ?_; refine g_skip hb60 ?_; refine v_pick hb60 ?_; refine r_nil ?_; obtain rfl := inj hF; refine thn ⟨rfl, ?_⟩; dsimp only
          exact ⟨F0, rfl, (PH.le.refl _), st, gA, gA, gA, gA, gA⟩
        · have hF := bif_f hb60 hF; refine g_take hb60 (v_move ?_); obtain ⟨v61, e62, hF⟩ := bnd_some hF; refine g_take hb60 (v_call st (ct71 N e62 st.d st.sub ra2) (fun n63 st => ?_)); refine g_take hb60 (v_move ?_); refine g_take hb60 (v_gtr ?_); refine v_pick' hb60 ?_; refine r_nil ?_; obtain rfl := inj hF; refine thn ⟨rfl, ?_⟩; dsimp only
          exact ⟨F0, rfl, (PH.le.refl _), st, gA, gA, gA, gA, gA⟩
    · obtain ⟨F52, rfl, le52, st, t1, t2, t3, t5, t26⟩ := hp; refine v_cond (fun hb64 => ?_) (fun hb64 => ?_)
      · have hF := bif_t hb64 hF; refine w_seq ?_; refine w_reg ?_; refine v_move ?_; refine r_nil ?_; refine th_n ?_; refine w_ret ?_; obtain rfl := inj hF; have hF := hK33; have hF := sel_l hF; refine th_r ?_; obtain rfl := inj hF
        exact end_s st (Res.t gA Res.nil) rfl rfl
      · have hF := bif_f hb64 hF; refine w_skip ?_; obtain rfl := inj hF; refine thn ⟨rfl, _, rfl, ?_⟩; dsimp only
        exact ⟨F52, rfl, le52, st, gA, gA, gA, gA⟩
  · obtain ⟨w36, rfl, F37, rfl, le37, st, t1, t2, t3, t5⟩ := hp; have hF := sel_r hF; refine w_seq ?_; refine w_drawV (Nat.le_trans hfl st.ext.le) (fun dw => ?_)
    have wf := Wf.start st
    refine y_pure st.d dw (fun hm vw => v_move pr_nil) ?_; refine y_pure st.d dw (fun hm vw => v_move pr_nil) ?_; obtain ⟨v65, e66, hF⟩ := bnd_some hF
    refine y_deep st dw wf (fun hm vw => u_callR (ct58 N e66 vw.d (FF.sub wf st vw) (Nat.max_le.2 ⟨by have := dw.le; have := st.ext.le; omega, Nat.le_refl _⟩) (RowF.mono (PH.le.trans le37 FF.base) ra1) (RowF.mono (PH.le.trans le37 FF.base) ra2)) (fun v F' h' n' ex l1 l2 l3 l4 => r_nil ⟨_, _, rfl, ex, l1, l2, l3, l4⟩)) (fun u67 F67 n67 done hn' dw67 wf67 rv67 le67 => ?_)
    have wf := wf67
    have dw := dw67
    obtain ⟨py68, cy68, rfl, ry68⟩ := rv67; refine y_pure st.d dw (fun hm vw => v_ldn (vs := [(i64 a0_0), (.slice pa0_1 (a0_1).length ca0_1), (.slice pa0_2 (a0_2).length ca0_2), (i64 a0_3)]) (vw.bx (st.at (i := 0) rfl)) rfl pr_nil) ?_; refine y_end st.d dw rfl (fun h69 ex vs => ?_)
    obtain ⟨F70, lt70, st⟩ := St.laidF st dw wf ex vs (Lay.nil (by have := dw.le; omega)) (fun e he => by cases he)
    have lz71 := lt70 _ (le67 (fun _ => true) rfl (fun _ _ => rfl))
    have lb70 := lt70 _ FF.base
    have le72 := PH.le.trans le37 lb70
    refine v_move ?_; obtain ⟨v73, e74, hF⟩ := bnd_some hF; refine v_callR st (ct62 N e74 st.d st.sub (Nat.le_trans hfl st.ext.le) (RowF.mono le72 ra0_1) (RowF.mono le72 ra0_2)) (fun u75 F75 h75 n75 le75 rv75 st => ?_)
    have le76 := PH.le.trans le72 le75
    have le77 := PH.le.trans lb70 le75
    have le78 := PH.le.trans lz71 le75
    obtain ⟨_, rfl, ⟨_, _, rfl, rfl, ⟨_, _, rfl, ⟨py79, cy79, rfl, ry79⟩, ⟨_, _, rfl, ⟨py80, cy80, rfl, ry80⟩, ⟨_, _, rfl, rfl, ⟨_, _, rfl, ⟨py81, cy81, rfl, ry81⟩, ⟨_, _, rfl, ⟨py82, cy82, rfl, ry82⟩, rfl⟩⟩⟩⟩⟩⟩⟩ := rv75; refine v_mf ?_; obtain ⟨v83, e84, hF⟩ := bnd_some hF; refine v_call st (ct72 N e84 st.d st.sub (RowF.mono le78 ry68) ry79 ry80 ry81 ry82) (fun n85 st => ?_); refine v_move ?_; refine r_nil ?_; refine th_n ?_; refine w_ret ?_; obtain rfl := inj hF
    exact end_s st (Res.t gA Res.nil) rfl rfl
end Go.Hx.V

/- Functions of the program come to that. -/
namespace Go.Hx.V
open Go.Hx
set_option linter.unusedVariables false
set_option maxRecDepth 20000
set_option maxHeartbeats 4000000
attribute [local irreducible] W R C thenH inBlockH Tr.get Tr.set lo
end Go.Hx.V

/- Functions of the program come to that. -/
namespace Go.Hx.V
open Go.Hx
set_option linter.unusedVariables false
set_option maxRecDepth 20000
set_option maxHeartbeats 4000000
attribute [local irreducible] W R C thenH inBlockH Tr.get Tr.set lo
end Go.Hx.V

/- Functions of the program come to that. -/
namespace Go.Hx.V
open Go.Hx
set_option linter.unusedVariables false
set_option maxRecDepth 20000
set_option maxHeartbeats 4000000
attribute [local irreducible] W R C thenH inBlockH Tr.get Tr.set lo
end Go.Hx.V

/- Functions of the program come to that. -/
namespace Go.Hx.V
open Go.Hx
set_option linter.unusedVariables false
set_option maxRecDepth 20000
set_option maxHeartbeats 4000000
attribute [local irreducible] W R C thenH inBlockH Tr.get Tr.set lo
theorem ct4 (N : Nat) {a0_0 : Int} {a0_1 : (List (Int × Int))} {a0_2 : (List (Int × Int × Int))} {a0_3 : Int} {a1 : (List Int)} {a2 : (List Int)} {a3 : Int} {r : Bool} (hF : sf4 N a0_0 a0_1 a0_2 a0_3 a1 a2 a3 = some r) {fl : Nat} {h0 : Tr HBlk} {n0 : Nat} {F0 : PH} (hd : D h0 n0) (hs : F0.sub h0) {pa0_1 : Option (Nat × Nat)} {ca0_1 : Nat} {pa0_2 : Option (Nat × Nat)} {ca0_2 : Nat} {pa1 : Option (Nat × Nat)} {ca1 : Nat} {pa2 : Option (Nat × Nat)} {ca2 : Nat} (ra0_1 : RowF (rP rI rI) 2 F0 pa0_1 ca0_1 a0_1) (ra0_2 : RowF (rP rI (rP rI rI)) 3 F0 pa0_2 ca0_2 a0_2) (ra1 : RowF rI 1 F0 pa1 ca1 a1) (ra2 : RowF rI 1 F0 pa2 ca2 a2) : C LW fl 4 [(.agg [(i64 a0_0), (.slice pa0_1 (a0_1).length ca0_1), (.slice pa0_2 (a0_2).length ca0_2), (i64 a0_3)]), (.slice pa1 (a1).length ca1), (.slice pa2 (a2).length ca2), (i64 a3)] ⟨h0, n0⟩ (KS (.bool r) n0 h0) := by
  unfold sf4 at hF
  refine in_cT hd hs lw4 rfl rfl (by rfl) (fun st T hT => ?_)
  have hfl : n0 ≤ n0 := Nat.le_refl n0
  have t0 := hT 0 _ rfl
  have t1 := hT 1 _ rfl
  have t2 := hT 2 _ rfl
  have t3 := hT 3 _ rfl
  dsimp only [L4]
  refine w_seq ?_; refine w_reg ?_; refine v_box st (fun b1 h2 n3 st => ?_); refine v_move ?_; refine r_nil ?_; refine th_n ?_; refine w_seq ?_; refine w_seq ?_; refine w_reg ?_; refine v_ldn (vs := [(i64 a0_0), (.slice pa0_1 (a0_1).length ca0_1), (.slice pa0_2 (a0_2).length ca0_2), (i64 a0_3)]) (st.at (i := 0) rfl).2.2 rfl ?_; refine v_move ?_; refine v_move ?_; obtain ⟨v4, e5, hF⟩ := bnd_some hF; refine v_call st (ct16 N e5 st.d st.sub ra0_1 ra0_2 ra1 ra2) (fun n6 st => ?_); refine v_not ?_; refine r_nil ?_; refine th_n ?_; refine v_cond (fun hb7 => ?_) (fun hb7 => ?_)
  · have hF := bif_t hb7 hF; refine w_seq ?_; refine w_reg ?_; refine v_call st (ct_wakes (h := _) (nx := _)) (fun n8 st => ?_); refine v_move ?_; refine r_nil ?_; refine th_n ?_; refine w_ret ?_; refine th_r ?_; obtain rfl := inj hF
    exact end_s st (Res.t gA Res.nil) rfl rfl
  · have hF := bif_f hb7 hF; refine w_skip ?_; refine th_n ?_; refine w_seq ?_; refine w_reg ?_; refine v_ldn (vs := [(i64 a0_0), (.slice pa0_1 (a0_1).length ca0_1), (.slice pa0_2 (a0_2).length ca0_2), (i64 a0_3)]) (st.at (i := 0) rfl).2.2 rfl ?_; obtain ⟨v9, e10, hF⟩ := bnd_some hF; refine v_callR st (ct19 N e10 st.d st.sub (Nat.le_trans hfl st.ext.le) ra0_1 ra0_2) (fun u11 F11 h11 n11 le11 rv11 st => ?_); obtain ⟨_, rfl, ⟨_, _, rfl, rfl, ⟨_, _, rfl, ⟨py12, cy12, rfl, ry12⟩, ⟨_, _, rfl, ⟨py13, cy13, rfl, ry13⟩, rfl⟩⟩⟩⟩ := rv11; refine v_move ?_; obtain ⟨v14, e15, hF⟩ := bnd_some hF; refine v_callR st (ct30 N e15 st.d st.sub (Nat.le_trans hfl st.ext.le) (RowF.mono le11 ra1)) (fun u16 F16 h16 n16 le16 rv16 st => ?_)
    have le17 := PH.le.trans le11 le16
    obtain ⟨py18, cy18, rfl, ry18⟩ := rv16; refine v_move ?_; obtain ⟨v19, e20, hF⟩ := bnd_some hF; refine v_callR st (ct30 N e20 st.d st.sub (Nat.le_trans hfl st.ext.le) (RowF.mono le17 ra2)) (fun u21 F21 h21 n21 le21 rv21 st => ?_)
    have le22 := PH.le.trans le17 le21
    have le23 := PH.le.trans le16 le21
    obtain ⟨py24, cy24, rfl, ry24⟩ := rv21; obtain ⟨v25, e26, hF⟩ := bnd_some hF; refine v_callR st (ct29 N e26 st.d st.sub (Nat.le_trans hfl st.ext.le) (RowF.mono le23 ry12) (RowF.mono le23 ry13) (RowF.mono le21 ry18) ry24) (fun u27 F27 h27 n27 le27 rv27 st => ?_)
    have le28 := PH.le.trans le22 le27
    have le29 := PH.le.trans le23 le27
    have le30 := PH.le.trans le21 le27
    obtain ⟨_, _, rfl, ⟨py31, cy31, rfl, ry31⟩, rfl⟩ := rv27; refine v_move ?_; refine v_xt rfl ?_; refine v_xt rfl ?_; refine v_move ?_; refine v_move ?_; refine r_nil ?_; refine th_n ?_; refine w_seq ?_; refine w_reg ?_; refine v_ldn (vs := [(i64 a0_0), (.slice pa0_1 (a0_1).length ca0_1), (.slice pa0_2 (a0_2).length ca0_2), (i64 a0_3)]) (st.at (i := 0) rfl).2.2 rfl ?_; obtain ⟨v32, e33, hF⟩ := bnd_some hF; refine v_callR st (ct19 N e33 st.d st.sub (Nat.le_trans hfl st.ext.le) (RowF.mono le28 ra0_1) (RowF.mono le28 ra0_2)) (fun u34 F34 h34 n34 le34 rv34 st => ?_)
    have le35 := PH.le.trans le28 le34
    have le36 := PH.le.trans le29 le34
    have le37 := PH.le.trans le30 le34
    have le38 := PH.le.trans le27 le34
    obtain ⟨_, rfl, ⟨_, _, rfl, rfl, ⟨_, _, rfl, ⟨py39, cy39, rfl, ry39⟩, ⟨_, _, rfl, ⟨py40, cy40, rfl, ry40⟩, rfl⟩⟩⟩⟩ := rv34; refine v_move ?_; obtain ⟨v41, e42, hF⟩ := bnd_some hF; refine v_callR st (ct30 N e42 st.d st.sub (Nat.le_trans hfl st.ext.le) (RowF.mono le35 ra1)) (fun u43 F43 h43 n43 le43 rv43 st => ?_)
    have le44 := PH.le.trans le35 le43
    have le45 := PH.le.trans le36 le43
    have le46 := PH.le.trans le37 le43
    have le47 := PH.le.trans le38 le43
    have le48 := PH.le.trans le34 le43
    obtain ⟨py49, cy49, rfl, ry49⟩ := rv43; refine v_move ?_; obtain ⟨v50, e51, hF⟩ := bnd_some hF; refine v_callR st (ct30 N e51 st.d st.sub (Nat.le_trans hfl st.ext.le) (RowF.mono le44 ra2)) (fun u52 F52 h52 n52 le52 rv52 st => ?_)
    have le53 := PH.le.trans le44 le52
    have le54 := PH.le.trans le45 le52
    have le55 := PH.le.trans le46 le52
    have le56 := PH.le.trans le47 le52
    have le57 := PH.le.trans le48 le52
    have le58 := PH.le.trans le43 le52
    obtain ⟨py59, cy59, rfl, ry59⟩ := rv52; refine v_move ?_; obtain ⟨v60, e61, hF⟩ := bnd_some hF; refine v_call st (ct31 N e61 st.d st.sub (RowF.mono le58 ry39) (RowF.mono le58 ry40) (RowF.mono le52 ry49) ry59) (fun n62 st => ?_); refine v_move ?_; refine v_xt rfl ?_; refine v_xt rfl ?_; refine v_move ?_; refine v_move ?_; refine r_nil ?_; refine th_n ?_; refine w_seq ?_; refine w_reg ?_; refine v_ldn (vs := [(i64 a0_0), (.slice pa0_1 (a0_1).length ca0_1), (.slice pa0_2 (a0_2).length ca0_2), (i64 a0_3)]) (st.at (i := 0) rfl).2.2 rfl ?_; refine v_move ?_; refine v_move ?_; obtain ⟨v63, e64, hF⟩ := bnd_some hF; refine v_call st (ct32 N e64 st.d st.sub (RowF.mono le53 ra0_1) (RowF.mono le53 ra0_2) (RowF.mono le53 ra1) (RowF.mono le53 ra2)) (fun n65 st => ?_)
    refine v_move ?_; refine r_nil ?_; refine th_n ?_; refine w_seq ?_; refine w_seq ?_; refine w_reg ?_; refine v_move ?_; refine v_nei ?_; refine r_nil ?_; refine th_n ?_; refine v_cond (fun hb66 => ?_) (fun hb66 => ?_)
    · have hF := bif_t hb66 hF; refine w_seq ?_; refine w_reg ?_; refine v_move ?_; refine v_move ?_; refine v_eqi ?_; refine v_move ?_
      rcases Bool.eq_false_or_eq_true (decide (v25.2 = v63)) with hb67 | hb67
      · have hF := bif_t hb67 hF; refine g_take hb67 (v_move ?_); refine g_take hb67 (v_move ?_); refine g_take hb67 (v_eqi ?_); refine v_pick hb67 ?_; refine v_move ?_
        rcases Bool.eq_false_or_eq_true (decide (v60.2 = v63)) with hb68 | hb68
        · have hF := bif_t hb68 hF; refine g_take hb68 (v_move ?_); refine g_take hb68 (v_len ?_); refine g_take hb68 (v_eqi ?_); refine v_pick hb68 ?_; refine v_move ?_
          rcases Bool.eq_false_or_eq_true (decide (((v25.1).length : Int) = (0 : Int))) with hb69 | hb69
          · have hF := bif_t hb69 hF; refine g_take hb69 (v_move ?_); refine g_take hb69 (v_eqi ?_); refine v_pick hb69 ?_; refine v_move ?_
            rcases Bool.eq_false_or_eq_true (decide (v60.1 = (0 : Int))) with hb70 | hb70
            · have hF := bif_t hb70 hF; refine g_take hb70 (v_call st (ct_wakes (h := _) (nx := _)) (fun n71 st => ?_)); refine v_pick hb70 ?_; refine v_move ?_; refine r_nil ?_; refine th_n ?_; refine w_ret ?_; refine th_r ?_; obtain rfl := inj hF
              exact end_s st (Res.t gA Res.nil) rfl rfl
            · have hF := bif_f hb70 hF; refine g_skip hb70 ?_; refine v_pick' hb70 ?_; refine v_move ?_; refine r_nil ?_; refine th_n ?_; refine w_ret ?_; refine th_r ?_; obtain rfl := inj hF
              exact end_s st (Res.t gA Res.nil) rfl rfl
          · have hF := bif_f hb69 hF; refine g_skip hb69 ?_; refine g_skip hb69 ?_; refine v_pick' hb69 ?_; refine v_move ?_; refine g_skip rfl ?_; refine v_pick' rfl ?_; refine v_move ?_; refine r_nil ?_; refine th_n ?_; refine w_ret ?_; refine th_r ?_; obtain rfl := inj hF
            exact end_s st (Res.t gA Res.nil) rfl rfl
        · have hF := bif_f hb68 hF; refine g_skip hb68 ?_; refine g_skip hb68 ?_; refine g_skip hb68 ?_; refine v_pick' hb68 ?_; refine v_move ?_; refine g_skip rfl ?_; refine g_skip rfl ?_; refine v_pick' rfl ?_; refine v_move ?_; refine g_skip rfl ?_; refine v_pick' rfl ?_; refine v_move ?_; refine r_nil ?_; refine th_n ?_; refine w_ret ?_; refine th_r ?_; obtain rfl := inj hF
          exact end_s st (Res.t gA Res.nil) rfl rfl
      · have hF := bif_f hb67 hF; refine g_skip hb67 ?_; refine g_skip hb67 ?_; refine g_skip hb67 ?_; refine v_pick' hb67 ?_; refine v_move ?_; refine g_skip rfl ?_; refine g_skip rfl ?_; refine g_skip rfl ?_; refine v_pick' rfl ?_; refine v_move ?_; refine g_skip rfl ?_; refine g_skip rfl ?_; refine v_pick' rfl ?_; refine v_move ?_; refine g_skip rfl ?_; refine v_pick' rfl ?_; refine v_move ?_; refine r_nil ?_; refine th_n ?_; refine w_ret ?_; refine th_r ?_; obtain rfl := inj hF
        exact end_s st (Res.t gA Res.nil) rfl rfl
    · have hF := bif_f hb66 hF; refine w_skip ?_; refine th_n ?_; obtain ⟨y86, hA87, hF⟩ := bnd_some hF; refine w_cutD (fun T ds92 h nx => ∃ u, y86 = (.inr u) ∧ ∃ (F92 : PH), ds92 = [] ∧ PH.le F52 F92 ∧ St n0 h0 F0 F92 h nx [.bx b1 [(i64 a0_0), (.slice pa0_1 (a0_1).length ca0_1), (.slice pa0_2 (a0_2).length ca0_2), (i64 a0_3)]] ∧ T.get 1 = some (.slice pa1 (a1).length ca1) ∧ T.get 2 = some (.slice pa2 (a2).length ca2) ∧ T.get 3 = some (i64 a3) ∧ T.get 4 = some (.ptr (some (b1, 0))) ∧ T.get 9 = some (.slice py31 (v25.1).length cy31) ∧ T.get 11 = some (i64 v60.1) ∧ T.get 12 = some (i64 v60.2)) ?_ (fun T ds92 h nx hp => ?_)
      · have hK88 := hF
        have hF := hA87; obtain ⟨y94, hA95, hF⟩ := bnd_some hF; refine w_cutD (fun T ds97 h nx => ∃ (F97 : PH), ds97 = [] ∧ PH.le F52 F97 ∧ St n0 h0 F0 F97 h nx [.bx b1 [(i64 a0_0), (.slice pa0_1 (a0_1).length ca0_1), (.slice pa0_2 (a0_2).length ca0_2), (i64 a0_3)]] ∧ T.get 1 = some (.slice pa1 (a1).length ca1) ∧ T.get 2 = some (.slice pa2 (a2).length ca2) ∧ T.get 3 = some (i64 a3) ∧ T.get 4 = some (.ptr (some (b1, 0))) ∧ T.get 9 = some (.slice py31 (v25.1).length cy31) ∧ T.get 11 = some (i64 v60.1) ∧ T.get 12 = some (i64 v60.2) ∧ T.get 78 = some (.bool y94)) ?_ (fun T ds97 h nx hp => ?_)
        · have hK96 := hF
          have hF := hA95; refine w_reg ?_; refine v_move ?_; refine v_nei ?_; refine v_move ?_
          rcases Bool.eq_false_or_eq_true (!(decide (v25.2 = (0 : Int)))) with hb98 | hb98
          · have hF := bif_t hb98 hF; refine g_skip hb98 ?_; refine g_skip hb98 ?_; refine g_skip hb98 ?_; refine g_skip hb98 ?_; refine g_skip hb98 ?_; refine v_pick hb98 ?_; refine r_nil ?_; obtain rfl := inj hF; refine thn ⟨rfl, ?_⟩; dsimp only
            exact ⟨F52, rfl, (PH.le.refl _), st, gA, gA, gA, gA, gA, gA, gA, gA⟩
          · have hF := bif_f hb98 hF; refine g_take hb98 (v_move ?_); refine g_take hb98 (v_len ?_); refine g_take hb98 (v_move ?_); refine g_take hb98 (v_len ?_); refine g_take hb98 (v_nei ?_); refine v_pick' hb98 ?_; refine r_nil ?_; obtain rfl := inj hF; refine thn ⟨rfl, ?_⟩; dsimp only
            exact ⟨F52, rfl, (PH.le.refl _), st, gA, gA, gA, gA, gA, gA, gA, gA⟩
        · obtain ⟨F97, rfl, le97, st, t1, t2, t3, t4, t9, t11, t12, t78⟩ := hp
          have le99 := PH.le.trans le53 le97
          have le100 := PH.le.trans le54 le97
          have le101 := PH.le.trans le55 le97
          have le102 := PH.le.trans le56 le97
          have le103 := PH.le.trans le57 le97
          have le104 := PH.le.trans le58 le97
          have le105 := PH.le.trans le52 le97
          refine v_cond (fun hb106 => ?_) (fun hb106 => ?_)
          · have hF := bif_t hb106 hF; refine w_seq ?_; refine w_reg ?_; refine v_move ?_; refine r_nil ?_; refine th_n ?_; refine w_ret ?_; obtain rfl := inj hF; have hF := hK88; have hF := sel_l hF; refine th_r ?_; obtain rfl := inj hF
            exact end_s st (Res.t gA Res.nil) rfl rfl
          · have hF := bif_f hb106 hF; refine w_skip ?_; obtain rfl := inj hF; refine thn ⟨rfl, _, rfl, ?_⟩; dsimp only
            exact ⟨F97, rfl, le97, st, gA, gA, gA, gA, gA, gA, gA⟩
      · obtain ⟨w91, rfl, F92, rfl, le92, st, t1, t2, t3, t4, t9, t11, t12⟩ := hp; have hF := sel_r hF
        have le114 := PH.le.trans le53 le92
        have le115 := PH.le.trans le54 le92
        have le116 := PH.le.trans le55 le92
        have le117 := PH.le.trans le56 le92
        have le118 := PH.le.trans le57 le92
        have le119 := PH.le.trans le58 le92
        have le120 := PH.le.trans le52 le92
        refine w_seq ?_; refine w_reg ?_; refine v_move ?_; refine v_len ?_; refine v_move ?_; refine r_nil ?_; refine th_n ?_; refine w_seq ?_; refine w_seq ?_; refine w_reg ?_; refine v_move ?_; refine v_len ?_; obtain ⟨q121, hF⟩ := ck_some hF; refine v_sub q121 ?_; refine v_move ?_; refine r_nil ?_; refine th_n ?_; refine w_block ?_; obtain ⟨y158, hy, hF⟩ := bnd_some hF; refine v_loopD (sf4_L1 N a0_0 a0_1 a0_2 a0_3 a1 a2 a3 v25) (fun x122 T ds123 h nx => ∃ (F123 : PH), ds123 = [] ∧ PH.le F92 F123 ∧ St n0 h0 F0 F123 h nx [.bx b1 [(i64 a0_0), (.slice pa0_1 (a0_1).length ca0_1), (.slice pa0_2 (a0_2).length ca0_2), (i64 a0_3)]] ∧ T.get 1 = some (.slice pa1 (a1).length ca1) ∧ T.get 2 = some (.slice pa2 (a2).length ca2) ∧ T.get 3 = some (i64 a3) ∧ T.get 4 = some (.ptr (some (b1, 0))) ∧ T.get 9 = some (.slice py31 (v25.1).length cy31) ∧ T.get 11 = some (i64 v60.1) ∧ T.get 12 = some (i64 v60.2) ∧ T.get 14 = some (i64 x122.1) ∧ T.get 15 = some (i64 x122.2)) (fun y e a σ => (∃ u, y = (.inl u) ∧ e = .ret ∧ a.nt = 162 ∧ ∃ (F160 : PH), a.defers = [] ∧ PH.le F92 F160 ∧ St n0 h0 F0 F160 σ.h σ.nx [.bx b1 [(i64 a0_0), (.slice pa0_1 (a0_1).length ca0_1), (.slice pa0_2 (a0_2).length ca0_2), (i64 a0_3)]] ∧ a.tmps.get 8 = some (.bool false)) ∨ (∃ u, y = (.inr u) ∧ e = .exit 0 ∧ a.nt = 162 ∧ ∃ (F162 : PH), a.defers = [] ∧ PH.le F92 F162 ∧ St n0 h0 F0 F162 σ.h σ.nx [.bx b1 [(i64 a0_0), (.slice pa0_1 (a0_1).length ca0_1), (.slice pa0_2 (a0_2).length ca0_2), (i64 a0_3)]] ∧ a.tmps.get 3 = some (i64 a3) ∧ a.tmps.get 9 = some (.slice py31 (v25.1).length cy31) ∧ a.tmps.get 11 = some (i64 v60.1) ∧ a.tmps.get 12 = some (i64 v60.2) ∧ a.tmps.get 14 = some (i64 u))) (fun x122 T ds123 h nx s hp hF => ?_) N _ y158 _ _ _ _ hy ⟨F92, rfl, (PH.le.refl _), st, gA, gA, gA, gA, gA, gA, gA, gA, gA⟩ (fun e a σ hne hq => ?_)
        · obtain ⟨F123, rfl, le123, st, t1, t2, t3, t4, t9, t11, t12, t14, t15⟩ := hp
          have le124 := PH.le.trans le114 le123
          have le125 := PH.le.trans le115 le123
          have le126 := PH.le.trans le116 le123
          have le127 := PH.le.trans le117 le123
          have le128 := PH.le.trans le118 le123
          have le129 := PH.le.trans le119 le123
          have le130 := PH.le.trans le120 le123
          have le131 := PH.le.trans le92 le123
          unfold sf4_L1 at hF; unfold L4w0; refine w_seq ?_; refine w_seq ?_; refine w_reg ?_; refine v_move ?_; refine v_geq ?_; refine r_nil ?_; refine th_n ?_; refine v_cond (fun hb163 => ?_) (fun hb163 => ?_)
          · have hF := bif_t hb163 hF; refine w_skip ?_; refine th_n ?_; refine w_seq ?_; refine w_block ?_; refine w_seq ?_; refine w_drawV (Nat.le_trans hfl st.ext.le) (fun dw => ?_); refine y_pure st.d dw (fun hm vw => v_ldn (vs := [(i64 a0_0), (.slice pa0_1 (a0_1).length ca0_1), (.slice pa0_2 (a0_2).length ca0_2), (i64 a0_3)]) (vw.bx (st.at (i := 0) rfl)) rfl pr_nil) ?_; refine y_pure st.d dw (fun hm vw => v_move pr_nil) ?_; refine y_pure st.d dw (fun hm vw => v_move pr_nil) ?_; obtain ⟨n164, x164, z164, l164, g164, hF⟩ := ix_some hF; obtain ⟨b164, o164, s164, j164, r164, e164, f164, k164, rfl⟩ := RowF.get ra2 g164; refine y_pure st.d dw (fun hm vw => v_ixp e164 z164 l164 pr_nil) ?_; refine y_pure st.d dw (fun hm vw => v_ld1 (vw.fz st (le124 _ _ f164)) (take_at (j := 0) k164 rfl) pr_nil) ?_
            obtain ⟨v165, e166, hF⟩ := bnd_some hF; refine y_flat st.d dw (fun hm vw => u_call (ct26 N e166 vw.d (vw.sub st) (RowF.mono le124 ra0_1) (RowF.mono le124 ra0_2)) (fun n' hn' => pf_nil hn')) (fun n167 hn' dw => ?_); refine y_lay st.d dw (fun hm vw => u_alloc pr_nil) (fun done dw => ?_); refine y_end st.d dw rfl (fun h168 ex vs => ?_)
            have st := St.laid st ex (Lay.cons (b := n167) (cs := [(i64 (0 : Int)), (i64 (0 : Int))]) (by have := dw.le; omega) (vs _ (List.mem_cons_self ..) _ _ (if_pos rfl)) (Lay.nil (by have := dw.le; omega)))
            refine v_st (cs' := [(i64 v165.1), (i64 v165.2)]) st 1 rfl rfl rfl rfl hfl (fun h169 st => ?_); refine r_nil ?_; refine th_n ?_; refine w_seq ?_; refine w_seq ?_; refine w_drawV (Nat.le_trans hfl st.ext.le) (fun dw => ?_); refine y_pure st.d dw (fun hm vw => v_move pr_nil) ?_; refine y_pure st.d dw (fun hm vw => v_move pr_nil) ?_; obtain ⟨n170, x170, z170, l170, g170, hF⟩ := ix_some hF; obtain ⟨b170, o170, s170, j170, r170, e170, f170, k170, ⟨_, _, rfl, rfl, rfl⟩⟩ := RowF.get ry31 g170; refine y_pure st.d dw (fun hm vw => v_ixp e170 z170 l170 pr_nil) ?_; refine y_pure st.d dw (fun hm vw => v_ldn (vw.fz st (le128 _ _ f170)) k170 pr_nil) ?_; refine y_pure st.d dw (fun hm vw => v_fa pr_nil) ?_
            refine y_pure st.d dw (fun hm vw => v_ld1 (vw.bx (st.at (i := 1) rfl)) rfl pr_nil) ?_; refine y_pure st.d dw (fun hm vw => v_move pr_nil) ?_; refine y_pure st.d dw (fun hm vw => v_move pr_nil) ?_; obtain ⟨n171, x171, z171, l171, g171, hF⟩ := ix_some hF; obtain ⟨b171, o171, s171, j171, r171, e171, f171, k171, rfl⟩ := RowF.get ra1 g171; refine y_pure st.d dw (fun hm vw => v_ixp e171 z171 l171 pr_nil) ?_; refine y_pure st.d dw (fun hm vw => v_ld1 (vw.fz st (le124 _ _ f171)) (take_at (j := 0) k171 rfl) pr_nil) ?_; obtain ⟨q172, hF⟩ := ck_some hF; refine y_pure st.d dw (fun hm vw => v_sub q172 pr_nil) ?_; refine y_pure st.d dw (fun hm vw => v_fa pr_nil) ?_; refine y_pure st.d dw (fun hm vw => v_ld1 (vw.bx (st.at (i := 1) rfl)) rfl pr_nil) ?_
            refine y_pure st.d dw (fun hm vw => v_move pr_nil) ?_; refine y_pure st.d dw (fun hm vw => v_move pr_nil) ?_; obtain ⟨n173, x173, z173, l173, g173, hF⟩ := ix_some hF; obtain ⟨b173, o173, s173, j173, r173, e173, f173, k173, rfl⟩ := RowF.get ra1 g173; refine y_pure st.d dw (fun hm vw => v_ixp e173 z173 l173 pr_nil) ?_; refine y_pure st.d dw (fun hm vw => v_ld1 (vw.fz st (le124 _ _ f173)) (take_at (j := 0) k173 rfl) pr_nil) ?_; obtain ⟨q174, hF⟩ := ck_some hF; refine y_pure st.d dw (fun hm vw => v_sub q174 pr_nil) ?_; obtain ⟨v175, e176, hF⟩ := bnd_some hF; refine y_flat st.d dw (fun hm vw => u_call (ct33 N e176 vw.d (vw.sub st) ) (fun n' hn' => pf_nil hn')) (fun n177 hn' dw => ?_); refine y_end st.d dw rfl (fun h178 ex vs => ?_)
            have st := st.ext1 ex
            refine v_ner (b := (x170.1 == v175.1 && (x170.2 == v175.2 && true))) rfl ?_; refine r_nil ?_; refine th_n ?_; refine v_cond (fun hb179 => ?_) (fun hb179 => ?_)
            · have hF := bif_t hb179 hF; refine w_seq ?_; refine w_reg ?_; refine v_move ?_; refine r_nil ?_; refine th_n ?_; refine w_ret ?_; refine th_r ?_; refine ib_r ?_; refine th_r ?_; refine th_r ?_; refine ⟨_, (inj hF).symm, .inl ⟨_, rfl, rfl, rfl, ?_⟩⟩; dsimp only
              exact ⟨F123, rfl, le123, (st.drop (by first | exact List.Sublist.refl _ | (repeat first | exact List.nil_sublist _ | refine List.Sublist.cons_cons _ ?_ | refine List.Sublist.cons _ ?_))), gA⟩
            · have hF := bif_f hb179 hF; refine w_skip ?_; refine th_n ?_; refine w_seq ?_; refine w_drawV (Nat.le_trans hfl st.ext.le) (fun dw => ?_); refine y_pure st.d dw (fun hm vw => v_ldn (vs := [(i64 a0_0), (.slice pa0_1 (a0_1).length ca0_1), (.slice pa0_2 (a0_2).length ca0_2), (i64 a0_3)]) (vw.bx (st.at (i := 0) rfl)) rfl pr_nil) ?_; refine y_pure st.d dw (fun hm vw => v_move pr_nil) ?_; refine y_pure st.d dw (fun hm vw => v_move pr_nil) ?_; obtain ⟨n180, x180, z180, l180, g180, hF⟩ := ix_some hF; obtain ⟨b180, o180, s180, j180, r180, e180, f180, k180, rfl⟩ := RowF.get ra2 g180; refine y_pure st.d dw (fun hm vw => v_ixp e180 z180 l180 pr_nil) ?_; refine y_pure st.d dw (fun hm vw => v_ld1 (vw.fz st (le124 _ _ f180)) (take_at (j := 0) k180 rfl) pr_nil) ?_
              refine y_pure st.d dw (fun hm vw => v_move pr_nil) ?_; refine y_pure st.d dw (fun hm vw => v_move pr_nil) ?_; obtain ⟨n181, x181, z181, l181, g181, hF⟩ := ix_some hF; obtain ⟨b181, o181, s181, j181, r181, e181, f181, k181, rfl⟩ := RowF.get ra1 g181; refine y_pure st.d dw (fun hm vw => v_ixp e181 z181 l181 pr_nil) ?_; refine y_pure st.d dw (fun hm vw => v_ld1 (vw.fz st (le124 _ _ f181)) (take_at (j := 0) k181 rfl) pr_nil) ?_; refine y_end st.d dw rfl (fun h182 ex vs => ?_)
              have st := st.ext1 ex
              obtain ⟨v183, e184, hF⟩ := bnd_some hF; refine v_call st (ct34 N e184 st.d st.sub (RowF.mono le124 ra0_1) (RowF.mono le124 ra0_2)) (fun n185 st => ?_); refine v_move ?_; refine v_gtr ?_; refine r_nil ?_; refine th_n ?_; refine v_cond (fun hb186 => ?_) (fun hb186 => ?_)
              · have hF := bif_t hb186 hF; refine w_reg ?_; refine v_move ?_; refine v_move ?_; refine r_nil ?_; refine ib_n ?_; refine th_n ?_; refine w_reg ?_; refine v_move ?_; obtain ⟨q187, hF⟩ := ck_some hF; refine v_sub q187 ?_; refine v_move ?_; refine r_nil ?_; refine thn ⟨_, (inj hF).symm, rfl, ?_⟩; dsimp only
                exact ⟨F123, rfl, le123, (st.drop (by first | exact List.Sublist.refl _ | (repeat first | exact List.nil_sublist _ | refine List.Sublist.cons_cons _ ?_ | refine List.Sublist.cons _ ?_))), gA, gA, gA, gA, gA, gA, gA, gA, gA⟩
              · have hF := bif_f hb186 hF; refine w_skip ?_; refine ib_n ?_; refine th_n ?_; refine w_reg ?_; refine v_move ?_; obtain ⟨q188, hF⟩ := ck_some hF; refine v_sub q188 ?_; refine v_move ?_; refine r_nil ?_; refine thn ⟨_, (inj hF).symm, rfl, ?_⟩; dsimp only
                exact ⟨F123, rfl, le123, (st.drop (by first | exact List.Sublist.refl _ | (repeat first | exact List.nil_sublist _ | refine List.Sublist.cons_cons _ ?_ | refine List.Sublist.cons _ ?_))), gA, gA, gA, gA, gA, gA, gA, gA, gA⟩
          · have hF := bif_f hb163 hF; refine w_exit ?_; refine th_e ?_; refine th_e ?_; refine ⟨_, (inj hF).symm, .inr (⟨_, rfl, rfl, rfl, ?_⟩)⟩; dsimp only
            exact ⟨F123, rfl, le123, st, gA, gA, gA, gA, gA⟩
        · rcases hq with hq | hq
          · obtain ⟨N9, T, ds160⟩ := a; obtain ⟨h197, n198⟩ := σ; obtain ⟨w159, rfl, rfl, e1, F160, e2, le160, st, t8⟩ := hq
            dsimp only at e1 e2
            subst e1
            subst e2
            dsimp only at st t8
            have le189 := PH.le.trans le114 le160
            have le190 := PH.le.trans le115 le160
            have le191 := PH.le.trans le116 le160
            have le192 := PH.le.trans le117 le160
            have le193 := PH.le.trans le118 le160
            have le194 := PH.le.trans le119 le160
            have le195 := PH.le.trans le120 le160
            have le196 := PH.le.trans le92 le160
            have hF := sel_l hF; refine ib_r ?_; refine th_r ?_; obtain rfl := inj hF
            exact end_s st (Res.t gA Res.nil) rfl rfl
          · obtain ⟨N9, T, ds162⟩ := a; obtain ⟨h207, n208⟩ := σ; obtain ⟨w161, rfl, rfl, e1, F162, e2, le162, st, t3, t9, t11, t12, t14⟩ := hq
            dsimp only at e1 e2
            subst e1
            subst e2
            dsimp only at st t3 t9 t11 t12 t14
            have le199 := PH.le.trans le114 le162
            have le200 := PH.le.trans le115 le162
            have le201 := PH.le.trans le116 le162
            have le202 := PH.le.trans le117 le162
            have le203 := PH.le.trans le118 le162
            have le204 := PH.le.trans le119 le162
            have le205 := PH.le.trans le120 le162
            have le206 := PH.le.trans le92 le162
            have hF := sel_r hF; refine ib_e ?_; refine th_n ?_; refine w_seq ?_; refine w_seq ?_; refine w_reg ?_; refine v_move ?_; obtain ⟨v209, e210, hF⟩ := bnd_some hF; refine v_call st (ct24 N e210 st.d st.sub ) (fun n211 st => ?_); refine v_not ?_; refine r_nil ?_; refine th_n ?_; refine v_cond (fun hb212 => ?_) (fun hb212 => ?_)
            · have hF := bif_t hb212 hF; refine w_seq ?_; refine w_reg ?_; refine v_move ?_; refine v_eqi ?_; refine v_move ?_
              rcases Bool.eq_false_or_eq_true (decide (v60.2 = (2 : Int))) with hb213 | hb213
              · have hF := bif_t hb213 hF; refine g_take hb213 (v_move ?_); refine g_take hb213 (v_eqi ?_); refine v_pick hb213 ?_; refine v_move ?_
                rcases Bool.eq_false_or_eq_true (decide (v60.1 = (0 : Int))) with hb214 | hb214
                · have hF := bif_t hb214 hF; refine g_take hb214 (v_call st (ct_wakes (h := _) (nx := _)) (fun n215 st => ?_)); refine v_pick hb214 ?_; refine v_move ?_; refine r_nil ?_; refine th_n ?_; refine w_ret ?_; refine th_r ?_; obtain rfl := inj hF
                  exact end_s st (Res.t gA Res.nil) rfl rfl
                · have hF := bif_f hb214 hF; refine g_skip hb214 ?_; refine v_pick' hb214 ?_; refine v_move ?_; refine r_nil ?_; refine th_n ?_; refine w_ret ?_; refine th_r ?_; obtain rfl := inj hF
                  exact end_s st (Res.t gA Res.nil) rfl rfl
              · have hF := bif_f hb213 hF; refine g_skip hb213 ?_; refine g_skip hb213 ?_; refine v_pick' hb213 ?_; refine v_move ?_; refine g_skip rfl ?_; refine v_pick' rfl ?_; refine v_move ?_; refine r_nil ?_; refine th_n ?_; refine w_ret ?_; refine th_r ?_; obtain rfl := inj hF
                exact end_s st (Res.t gA Res.nil) rfl rfl
            · have hF := bif_f hb212 hF; refine w_skip ?_; refine th_n ?_; refine w_seq ?_; refine w_seq ?_; refine w_reg ?_; refine v_move ?_; refine v_move ?_; refine v_len ?_; refine v_eqi ?_; refine r_nil ?_; refine th_n ?_; refine v_cond (fun hb216 => ?_) (fun hb216 => ?_)
              · have hF := bif_t hb216 hF; refine w_seq ?_; refine w_reg ?_; refine v_move ?_; refine v_eqi ?_; refine v_move ?_
                rcases Bool.eq_false_or_eq_true (decide (v60.2 = (7 : Int))) with hb217 | hb217
                · have hF := bif_t hb217 hF; refine g_take hb217 (v_move ?_); refine g_take hb217 (v_eqi ?_); refine v_pick hb217 ?_; refine v_move ?_
                  rcases Bool.eq_false_or_eq_true (decide (v60.1 = (0 : Int))) with hb218 | hb218
                  · have hF := bif_t hb218 hF; refine g_take hb218 (v_call st (ct_wakes (h := _) (nx := _)) (fun n219 st => ?_)); refine v_pick hb218 ?_; refine v_move ?_; refine r_nil ?_; refine th_n ?_; refine w_ret ?_; refine th_r ?_; obtain rfl := inj hF
                    exact end_s st (Res.t gA Res.nil) rfl rfl
                  · have hF := bif_f hb218 hF; refine g_skip hb218 ?_; refine v_pick' hb218 ?_; refine v_move ?_; refine r_nil ?_; refine th_n ?_; refine w_ret ?_; refine th_r ?_; obtain rfl := inj hF
                    exact end_s st (Res.t gA Res.nil) rfl rfl
                · have hF := bif_f hb217 hF; refine g_skip hb217 ?_; refine g_skip hb217 ?_; refine v_pick' hb217 ?_; refine v_move ?_; refine g_skip rfl ?_; refine v_pick' rfl ?_; refine v_move ?_; refine r_nil ?_; refine th_n ?_; refine w_ret ?_; refine th_r ?_; obtain rfl := inj hF
                  exact end_s st (Res.t gA Res.nil) rfl rfl
              · have hF := bif_f hb216 hF; refine w_skip ?_; refine th_n ?_; refine w_seq ?_; refine w_reg ?_; refine v_move ?_; refine v_eqi ?_; refine v_move ?_
                rcases Bool.eq_false_or_eq_true (decide (v60.2 = (0 : Int))) with hb220 | hb220
                · have hF := bif_t hb220 hF; refine g_take hb220 (v_move ?_); refine g_take hb220 (v_move ?_); refine g_take hb220 (v_eqi ?_); refine v_pick hb220 ?_; refine v_move ?_
                  rcases Bool.eq_false_or_eq_true (decide (v60.1 = w161)) with hb221 | hb221
                  · have hF := bif_t hb221 hF; refine g_take hb221 (v_call st (ct_wakes (h := _) (nx := _)) (fun n222 st => ?_)); refine v_pick hb221 ?_; refine v_move ?_; refine r_nil ?_; refine th_n ?_; refine w_ret ?_; obtain rfl := inj hF
                    exact end_s st (Res.t gA Res.nil) rfl rfl
                  · have hF := bif_f hb221 hF; refine g_skip hb221 ?_; refine v_pick' hb221 ?_; refine v_move ?_; refine r_nil ?_; refine th_n ?_; refine w_ret ?_; obtain rfl := inj hF
                    exact end_s st (Res.t gA Res.nil) rfl rfl
                · have hF := bif_f hb220 hF; refine g_skip hb220 ?_; refine g_skip hb220 ?_; refine g_skip hb220 ?_; refine v_pick' hb220 ?_; refine v_move ?_; refine g_skip rfl ?_; refine v_pick' rfl ?_; refine v_move ?_; refine r_nil ?_; refine th_n ?_; refine w_ret ?_; obtain rfl := inj hF
                  exact end_s st (Res.t gA Res.nil) rfl rfl
end Go.Hx.V

/- Functions of the program come to that. -/
namespace Go.Hx.V
open Go.Hx
set_option linter.unusedVariables false
set_option maxRecDepth 20000
set_option maxHeartbeats 4000000
attribute [local irreducible] W R C thenH inBlockH Tr.get Tr.set lo
theorem ct8 (N : Nat) {a0_0 : Int} {a0_1 : (List (Int × Int))} {a0_2 : (List (Int × Int × Int))} {a0_3 : Int} {a1 : (List Int)} {a2 : (List Int)} {a3 : (List Int)} {a4 : Int} {r : Bool} (hF : sf8 N a0_0 a0_1 a0_2 a0_3 a1 a2 a3 a4 = some r) {fl : Nat} {h0 : Tr HBlk} {n0 : Nat} {F0 : PH} (hd : D h0 n0) (hs : F0.sub h0) {pa0_1 : Option (Nat × Nat)} {ca0_1 : Nat} {pa0_2 : Option (Nat × Nat)} {ca0_2 : Nat} {pa1 : Option (Nat × Nat)} {ca1 : Nat} {pa2 : Option (Nat × Nat)} {ca2 : Nat} {pa3 : Option (Nat × Nat)} {ca3 : Nat} (ra0_1 : RowF (rP rI rI) 2 F0 pa0_1 ca0_1 a0_1) (ra0_2 : RowF (rP rI (rP rI rI)) 3 F0 pa0_2 ca0_2 a0_2) (ra1 : RowF rI 1 F0 pa1 ca1 a1) (ra2 : RowF rI 1 F0 pa2 ca2 a2) (ra3 : RowF (rK .u16) 1 F0 pa3 ca3 a3) : C LW fl 8 [(.agg [(i64 a0_0), (.slice pa0_1 (a0_1).length ca0_1), (.slice pa0_2 (a0_2).length ca0_2), (i64 a0_3)]), (.slice pa1 (a1).length ca1), (.slice pa2 (a2).length ca2), (.slice pa3 (a3).length ca3), (.int .u8 a4)] ⟨h0, n0⟩ (KS (.bool r) n0 h0) := by
  unfold sf8 at hF
  refine in_cT hd hs lw8 rfl rfl (by rfl) (fun st T hT => ?_)
  have hfl : n0 ≤ n0 := Nat.le_refl n0
  have t0 := hT 0 _ rfl
  have t1 := hT 1 _ rfl
  have t2 := hT 2 _ rfl
  have t3 := hT 3 _ rfl
  have t4 := hT 4 _ rfl
  dsimp only [L8]
  refine w_seq ?_; refine w_reg ?_; refine v_box st (fun b1 h2 n3 st => ?_); refine v_move ?_; refine r_nil ?_; refine th_n ?_; obtain ⟨y24, hA25, hF⟩ := bnd_some hF; refine w_cutD (fun T ds30 h nx => ∃ u, y24 = (.inr u) ∧ ∃ (F30 : PH), ds30 = [] ∧ PH.le F0 F30 ∧ St n0 h0 F0 F30 h nx [.bx b1 [(i64 a0_0), (.slice pa0_1 (a0_1).length ca0_1), (.slice pa0_2 (a0_2).length ca0_2), (i64 a0_3)]] ∧ T.get 1 = some (.slice pa1 (a1).length ca1) ∧ T.get 2 = some (.slice pa2 (a2).length ca2) ∧ T.get 3 = some (.slice pa3 (a3).length ca3) ∧ T.get 4 = some (.int .u8 a4) ∧ T.get 5 = some (.ptr (some (b1, 0)))) ?_ (fun T ds30 h nx hp => ?_)
  · have hK26 := hF
    have hF := hA25; obtain ⟨y38, hA39, hF⟩ := bnd_some hF; refine w_cutD (fun T ds41 h nx => ∃ (F41 : PH), ds41 = [] ∧ PH.le F0 F41 ∧ St n0 h0 F0 F41 h nx [.bx b1 [(i64 a0_0), (.slice pa0_1 (a0_1).length ca0_1), (.slice pa0_2 (a0_2).length ca0_2), (i64 a0_3)]] ∧ T.get 1 = some (.slice pa1 (a1).length ca1) ∧ T.get 2 = some (.slice pa2 (a2).length ca2) ∧ T.get 3 = some (.slice pa3 (a3).length ca3) ∧ T.get 4 = some (.int .u8 a4) ∧ T.get 5 = some (.ptr (some (b1, 0))) ∧ T.get 31 = some (.bool y38)) ?_ (fun T ds41 h nx hp => ?_)
    · have hK40 := hF
      have hF := hA39; refine w_reg ?_; refine v_ldn (vs := [(i64 a0_0), (.slice pa0_1 (a0_1).length ca0_1), (.slice pa0_2 (a0_2).length ca0_2), (i64 a0_3)]) (st.at (i := 0) rfl).2.2 rfl ?_; refine v_move ?_; refine v_move ?_; obtain ⟨v42, e43, hF⟩ := bnd_some hF; refine v_call st (ct16 N e43 st.d st.sub ra0_1 ra0_2 ra1 ra2) (fun n44 st => ?_); refine v_not ?_; refine v_move ?_
      rcases Bool.eq_false_or_eq_true (!v42) with hb45 | hb45
      · have hF := bif_t hb45 hF; refine g_skip hb45 ?_; refine g_skip hb45 ?_; refine g_skip hb45 ?_; refine g_skip hb45 ?_; refine g_skip hb45 ?_; refine v_pick hb45 ?_; refine r_nil ?_; obtain rfl := inj hF; refine thn ⟨rfl, ?_⟩; dsimp only
        exact ⟨F0, rfl, (PH.le.refl _), st, gA, gA, gA, gA, gA, gA⟩
      · have hF := bif_f hb45 hF; refine g_take hb45 (v_ldn (vs := [(i64 a0_0), (.slice pa0_1 (a0_1).length ca0_1), (.slice pa0_2 (a0_2).length ca0_2), (i64 a0_3)]) (st.at (i := 0) rfl).2.2 rfl ?_); refine g_take hb45 (v_move ?_); refine g_take hb45 (v_move ?_); obtain ⟨v46, e47, hF⟩ := bnd_some hF; refine g_take hb45 (v_call st (ct32 N e47 st.d st.sub ra0_1 ra0_2 ra1 ra2) (fun n48 st => ?_)); refine g_take hb45 (v_nei ?_); refine v_pick' hb45 ?_; refine r_nil ?_; obtain rfl := inj hF; refine thn ⟨rfl, ?_⟩; dsimp only
        exact ⟨F0, rfl, (PH.le.refl _), st, gA, gA, gA, gA, gA, gA⟩
    · obtain ⟨F41, rfl, le41, st, t1, t2, t3, t4, t5, t31⟩ := hp; refine v_cond (fun hb49 => ?_) (fun hb49 => ?_)
      · have hF := bif_t hb49 hF; refine w_seq ?_; refine w_reg ?_; refine v_call st (ct_wakes (h := _) (nx := _)) (fun n50 st => ?_); refine v_move ?_; refine r_nil ?_; refine th_n ?_; refine w_ret ?_; obtain rfl := inj hF; have hF := hK26; have hF := sel_l hF; refine th_r ?_; obtain rfl := inj hF
        exact end_s st (Res.t gA Res.nil) rfl rfl
      · have hF := bif_f hb49 hF; refine w_skip ?_; obtain rfl := inj hF; refine thn ⟨rfl, _, rfl, ?_⟩; dsimp only
        exact ⟨F41, rfl, le41, st, gA, gA, gA, gA, gA⟩
  · obtain ⟨w29, rfl, F30, rfl, le30, st, t1, t2, t3, t4, t5⟩ := hp; have hF := sel_r hF; refine w_seq ?_; refine w_reg ?_; refine v_ldn (vs := [(i64 a0_0), (.slice pa0_1 (a0_1).length ca0_1), (.slice pa0_2 (a0_2).length ca0_2), (i64 a0_3)]) (st.at (i := 0) rfl).2.2 rfl ?_; obtain ⟨v51, e52, hF⟩ := bnd_some hF; refine v_callR st (ct19 N e52 st.d st.sub (Nat.le_trans hfl st.ext.le) (RowF.mono le30 ra0_1) (RowF.mono le30 ra0_2)) (fun u53 F53 h53 n53 le53 rv53 st => ?_)
    have le54 := PH.le.trans le30 le53
    obtain ⟨_, rfl, ⟨_, _, rfl, rfl, ⟨_, _, rfl, ⟨py55, cy55, rfl, ry55⟩, ⟨_, _, rfl, ⟨py56, cy56, rfl, ry56⟩, rfl⟩⟩⟩⟩ := rv53; refine v_move ?_; obtain ⟨v57, e58, hF⟩ := bnd_some hF; refine v_callR st (ct30 N e58 st.d st.sub (Nat.le_trans hfl st.ext.le) (RowF.mono le54 ra1)) (fun u59 F59 h59 n59 le59 rv59 st => ?_)
    have le60 := PH.le.trans le54 le59
    have le61 := PH.le.trans le53 le59
    obtain ⟨py62, cy62, rfl, ry62⟩ := rv59; refine v_move ?_; obtain ⟨v63, e64, hF⟩ := bnd_some hF; refine v_callR st (ct30 N e64 st.d st.sub (Nat.le_trans hfl st.ext.le) (RowF.mono le60 ra2)) (fun u65 F65 h65 n65 le65 rv65 st => ?_)
    have le66 := PH.le.trans le60 le65
    have le67 := PH.le.trans le61 le65
    have le68 := PH.le.trans le59 le65
    obtain ⟨py69, cy69, rfl, ry69⟩ := rv65; obtain ⟨v70, e71, hF⟩ := bnd_some hF; refine v_callR st (ct29 N e71 st.d st.sub (Nat.le_trans hfl st.ext.le) (RowF.mono le68 ry55) (RowF.mono le68 ry56) (RowF.mono le65 ry62) ry69) (fun u72 F72 h72 n72 le72 rv72 st => ?_)
    have le73 := PH.le.trans le66 le72
    have le74 := PH.le.trans le67 le72
    have le75 := PH.le.trans le68 le72
    have le76 := PH.le.trans le65 le72
    obtain ⟨_, _, rfl, ⟨py77, cy77, rfl, ry77⟩, rfl⟩ := rv72; refine v_move ?_; refine v_xt rfl ?_; refine v_xt rfl ?_; refine v_move ?_; refine v_move ?_; refine r_nil ?_; refine th_n ?_; refine w_seq ?_; refine w_reg ?_; refine v_ldn (vs := [(i64 a0_0), (.slice pa0_1 (a0_1).length ca0_1), (.slice pa0_2 (a0_2).length ca0_2), (i64 a0_3)]) (st.at (i := 0) rfl).2.2 rfl ?_; obtain ⟨v78, e79, hF⟩ := bnd_some hF; refine v_callR st (ct19 N e79 st.d st.sub (Nat.le_trans hfl st.ext.le) (RowF.mono le73 ra0_1) (RowF.mono le73 ra0_2)) (fun u80 F80 h80 n80 le80 rv80 st => ?_)
    have le81 := PH.le.trans le73 le80
    have le82 := PH.le.trans le74 le80
    have le83 := PH.le.trans le75 le80
    have le84 := PH.le.trans le76 le80
    have le85 := PH.le.trans le72 le80
    obtain ⟨_, rfl, ⟨_, _, rfl, rfl, ⟨_, _, rfl, ⟨py86, cy86, rfl, ry86⟩, ⟨_, _, rfl, ⟨py87, cy87, rfl, ry87⟩, rfl⟩⟩⟩⟩ := rv80; refine v_move ?_; obtain ⟨v88, e89, hF⟩ := bnd_some hF; refine v_callR st (ct30 N e89 st.d st.sub (Nat.le_trans hfl st.ext.le) (RowF.mono le81 ra1)) (fun u90 F90 h90 n90 le90 rv90 st => ?_)
    have le91 := PH.le.trans le81 le90
    have le92 := PH.le.trans le82 le90
    have le93 := PH.le.trans le83 le90
    have le94 := PH.le.trans le84 le90
    have le95 := PH.le.trans le85 le90
    have le96 := PH.le.trans le80 le90
    obtain ⟨py97, cy97, rfl, ry97⟩ := rv90; refine v_move ?_; obtain ⟨v98, e99, hF⟩ := bnd_some hF; refine v_callR st (ct30 N e99 st.d st.sub (Nat.le_trans hfl st.ext.le) (RowF.mono le91 ra2)) (fun u100 F100 h100 n100 le100 rv100 st => ?_)
    have le101 := PH.le.trans le91 le100
    have le102 := PH.le.trans le92 le100
    have le103 := PH.le.trans le93 le100
    have le104 := PH.le.trans le94 le100
    have le105 := PH.le.trans le95 le100
    have le106 := PH.le.trans le96 le100
    have le107 := PH.le.trans le90 le100
    obtain ⟨py108, cy108, rfl, ry108⟩ := rv100; refine v_move ?_; obtain ⟨q109, hF⟩ := ck_some hF; refine v_conv q109 ?_; obtain ⟨v110, e111, hF⟩ := bnd_some hF; refine v_call st (ct31 N e111 st.d st.sub (RowF.mono le107 ry86) (RowF.mono le107 ry87) (RowF.mono le100 ry97) ry108) (fun n112 st => ?_); refine v_move ?_; refine v_xt rfl ?_; refine v_xt rfl ?_; refine v_move ?_; refine v_move ?_; refine r_nil ?_; refine th_n ?_; obtain ⟨y142, hA143, hF⟩ := bnd_some hF; refine w_cutD (fun T ds148 h nx => ∃ u, y142 = (.inr u) ∧ ∃ (F148 : PH), ds148 = [] ∧ PH.le F100 F148 ∧ St n0 h0 F0 F148 h nx [.bx b1 [(i64 a0_0), (.slice pa0_1 (a0_1).length ca0_1), (.slice pa0_2 (a0_2).length ca0_2), (i64 a0_3)]] ∧ T.get 1 = some (.slice pa1 (a1).length ca1) ∧ T.get 2 = some (.slice pa2 (a2).length ca2) ∧ T.get 3 = some (.slice pa3 (a3).length ca3) ∧ T.get 4 = some (.int .u8 a4) ∧ T.get 5 = some (.ptr (some (b1, 0))) ∧ T.get 11 = some (.slice py77 (v70.1).length cy77) ∧ T.get 13 = some (i64 v110.1) ∧ T.get 14 = some (i64 v110.2)) ?_ (fun T ds148 h nx hp => ?_)
    · have hK144 := hF
      have hF := hA143; obtain ⟨y157, hA158, hF⟩ := bnd_some hF; refine w_cutD (fun T ds160 h nx => ∃ (F160 : PH), ds160 = [] ∧ PH.le F100 F160 ∧ St n0 h0 F0 F160 h nx [.bx b1 [(i64 a0_0), (.slice pa0_1 (a0_1).length ca0_1), (.slice pa0_2 (a0_2).length ca0_2), (i64 a0_3)]] ∧ T.get 1 = some (.slice pa1 (a1).length ca1) ∧ T.get 2 = some (.slice pa2 (a2).length ca2) ∧ T.get 3 = some (.slice pa3 (a3).length ca3) ∧ T.get 4 = some (.int .u8 a4) ∧ T.get 5 = some (.ptr (some (b1, 0))) ∧ T.get 11 = some (.slice py77 (v70.1).length cy77) ∧ T.get 13 = some (i64 v110.1) ∧ T.get 14 = some (i64 v110.2) ∧ T.get 85 = some (.bool y157)) ?_ (fun T ds160 h nx hp => ?_)
      · have hK159 := hF
        have hF := hA158; refine w_reg ?_; refine v_move ?_; refine v_nei ?_; refine v_move ?_
        rcases Bool.eq_false_or_eq_true (!(decide (v70.2 = (0 : Int)))) with hb161 | hb161
        · have hF := bif_t hb161 hF; refine g_skip hb161 ?_; refine g_skip hb161 ?_; refine g_skip hb161 ?_; refine g_skip hb161 ?_; refine g_skip hb161 ?_; refine v_pick hb161 ?_; refine v_move ?_; refine g_skip rfl ?_; refine g_skip rfl ?_; refine g_skip rfl ?_; refine g_skipu ?_; refine g_skipu ?_; refine g_skip rfl ?_; refine v_pick rfl ?_; refine v_move ?_; refine g_skip rfl ?_; refine g_skip rfl ?_; refine g_skip rfl ?_; refine g_skipu ?_; refine g_skipu ?_; refine g_skipu ?_; refine g_skipu ?_; refine g_skipu ?_; refine g_skipu ?_; refine g_skipu ?_; refine g_skipu ?_; refine g_skip rfl ?_; refine v_pick rfl ?_; refine r_nil ?_; obtain rfl := inj hF; refine thn ⟨rfl, ?_⟩; dsimp only
          exact ⟨F100, rfl, (PH.le.refl _), st, gA, gA, gA, gA, gA, gA, gA, gA, gA⟩
        · have hF := bif_f hb161 hF; refine g_take hb161 (v_move ?_); refine g_take hb161 (v_len ?_); refine g_take hb161 (v_move ?_); refine g_take hb161 (v_len ?_); refine g_take hb161 (v_nei ?_); refine v_pick' hb161 ?_; refine v_move ?_
          rcases Bool.eq_false_or_eq_true (!(decide (((v70.1).length : Int) = ((a1).length : Int)))) with hb162 | hb162
          · have hF := bif_t hb162 hF; refine g_skip hb162 ?_; refine g_skip hb162 ?_; refine g_skip hb162 ?_; refine g_skipu ?_; refine g_skipu ?_; refine g_skip hb162 ?_; refine v_pick hb162 ?_; refine v_move ?_; refine g_skip rfl ?_; refine g_skip rfl ?_; refine g_skip rfl ?_; refine g_skipu ?_; refine g_skipu ?_; refine g_skipu ?_; refine g_skipu ?_; refine g_skipu ?_; refine g_skipu ?_; refine g_skipu ?_; refine g_skipu ?_; refine g_skip rfl ?_; refine v_pick rfl ?_; refine r_nil ?_; obtain rfl := inj hF; refine thn ⟨rfl, ?_⟩; dsimp only
            exact ⟨F100, rfl, (PH.le.refl _), st, gA, gA, gA, gA, gA, gA, gA, gA, gA⟩
          · have hF := bif_f hb162 hF; refine g_take hb162 (v_move ?_); refine g_take hb162 (v_nei ?_); refine g_take hb162 (v_move ?_)
            rcases Bool.eq_false_or_eq_true (!(decide (v110.2 = (0 : Int)))) with hb163 | hb163
            · have hF := bif_t hb163 hF; refine g_take hb163 (v_move ?_); refine g_take hb163 (v_nei ?_); refine g_take hb162 (v_pick hb163 ?_); refine v_pick' hb162 ?_; refine v_move ?_
              rcases Bool.eq_false_or_eq_true (!(decide (v110.2 = (7 : Int)))) with hb164 | hb164
              · have hF := bif_t hb164 hF; refine g_skip hb164 ?_; refine g_skip hb164 ?_; refine g_skip hb164 ?_; refine g_skipu ?_; refine g_skipu ?_; refine g_skipu ?_; refine g_skipu ?_; refine g_skipu ?_; refine g_skipu ?_; refine g_skipu ?_; refine g_skipu ?_; refine g_skip hb164 ?_; refine v_pick hb164 ?_; refine r_nil ?_; obtain rfl := inj hF; refine thn ⟨rfl, ?_⟩; dsimp only
                exact ⟨F100, rfl, (PH.le.refl _), st, gA, gA, gA, gA, gA, gA, gA, gA, gA⟩
              · have hF := bif_f hb164 hF; refine g_take hb164 (v_move ?_); refine g_take hb164 (v_eqi ?_); refine g_take hb164 (v_move ?_)
                rcases Bool.eq_false_or_eq_true (decide (v110.2 = (0 : Int))) with hb165 | hb165
                · have hF := bif_t hb165 hF; refine g_take hb165 (v_move ?_); refine g_take hb165 (v_lss ?_); refine g_take hb165 (v_move ?_)
                  rcases Bool.eq_false_or_eq_true (decide (v110.1 < (0 : Int))) with hb166 | hb166
                  · have hF := bif_t hb166 hF; refine g_skip hb166 ?_; refine g_skip hb166 ?_; refine g_skip hb166 ?_; refine g_skip hb166 ?_; refine g_take hb165 (v_pick hb166 ?_); refine g_take hb164 (v_pick hb165 ?_); refine v_pick' hb164 ?_; refine r_nil ?_; obtain rfl := inj hF; refine thn ⟨rfl, ?_⟩; dsimp only
                    exact ⟨F100, rfl, (PH.le.refl _), st, gA, gA, gA, gA, gA, gA, gA, gA, gA⟩
                  · have hF := bif_f hb166 hF; refine g_take hb166 (v_move ?_); refine g_take hb166 (v_move ?_); refine g_take hb166 (v_len ?_); refine g_take hb166 (v_geq ?_); refine g_take hb165 (v_pick' hb166 ?_); refine g_take hb164 (v_pick hb165 ?_); refine v_pick' hb164 ?_; refine r_nil ?_; obtain rfl := inj hF; refine thn ⟨rfl, ?_⟩; dsimp only
                    exact ⟨F100, rfl, (PH.le.refl _), st, gA, gA, gA, gA, gA, gA, gA, gA, gA⟩
                · have hF := bif_f hb165 hF; refine g_skip hb165 ?_; refine g_skip hb165 ?_; refine g_skip hb165 ?_; refine g_skipu ?_; refine g_skipu ?_; refine g_skipu ?_; refine g_skipu ?_; refine g_skip hb165 ?_; refine g_take hb164 (v_pick' hb165 ?_); refine v_pick' hb164 ?_; refine r_nil ?_; obtain rfl := inj hF; refine thn ⟨rfl, ?_⟩; dsimp only
                  exact ⟨F100, rfl, (PH.le.refl _), st, gA, gA, gA, gA, gA, gA, gA, gA, gA⟩
            · have hF := bif_f hb163 hF; refine g_skip hb163 ?_; refine g_skip hb163 ?_; refine g_take hb162 (v_pick' hb163 ?_); refine v_pick' hb162 ?_; refine v_move ?_; refine g_take rfl (v_move ?_); refine g_take rfl (v_eqi ?_); refine g_take rfl (v_move ?_)
              rcases Bool.eq_false_or_eq_true (decide (v110.2 = (0 : Int))) with hb167 | hb167
              · have hF := bif_t hb167 hF; refine g_take hb167 (v_move ?_); refine g_take hb167 (v_lss ?_); refine g_take hb167 (v_move ?_)
                rcases Bool.eq_false_or_eq_true (decide (v110.1 < (0 : Int))) with hb168 | hb168
                · have hF := bif_t hb168 hF; refine g_skip hb168 ?_; refine g_skip hb168 ?_; refine g_skip hb168 ?_; refine g_skip hb168 ?_; refine g_take hb167 (v_pick hb168 ?_); refine g_take rfl (v_pick hb167 ?_); refine v_pick' rfl ?_; refine r_nil ?_; obtain rfl := inj hF; refine thn ⟨rfl, ?_⟩; dsimp only
                  exact ⟨F100, rfl, (PH.le.refl _), st, gA, gA, gA, gA, gA, gA, gA, gA, gA⟩
                · have hF := bif_f hb168 hF; refine g_take hb168 (v_move ?_); refine g_take hb168 (v_move ?_); refine g_take hb168 (v_len ?_); refine g_take hb168 (v_geq ?_); refine g_take hb167 (v_pick' hb168 ?_); refine g_take rfl (v_pick hb167 ?_); refine v_pick' rfl ?_; refine r_nil ?_; obtain rfl := inj hF; refine thn ⟨rfl, ?_⟩; dsimp only
                  exact ⟨F100, rfl, (PH.le.refl _), st, gA, gA, gA, gA, gA, gA, gA, gA, gA⟩
              · have hF := bif_f hb167 hF; refine g_skip hb167 ?_; refine g_skip hb167 ?_; refine g_skip hb167 ?_; refine g_skipu ?_; refine g_skipu ?_; refine g_skipu ?_; refine g_skipu ?_; refine g_skip hb167 ?_; refine g_take rfl (v_pick' hb167 ?_); refine v_pick' rfl ?_; refine r_nil ?_; obtain rfl := inj hF; refine thn ⟨rfl, ?_⟩; dsimp only
                exact ⟨F100, rfl, (PH.le.refl _), st, gA, gA, gA, gA, gA, gA, gA, gA, gA⟩
      · obtain ⟨F160, rfl, le160, st, t1, t2, t3, t4, t5, t11, t13, t14, t85⟩ := hp
        have le169 := PH.le.trans le101 le160
        have le170 := PH.le.trans le102 le160
        have le171 := PH.le.trans le103 le160
        have le172 := PH.le.trans le104 le160
        have le173 := PH.le.trans le105 le160
        have le174 := PH.le.trans le106 le160
        have le175 := PH.le.trans le107 le160
        have le176 := PH.le.trans le100 le160
        refine v_cond (fun hb177 => ?_) (fun hb177 => ?_)
        · have hF := bif_t hb177 hF; refine w_seq ?_; refine w_reg ?_; refine v_move ?_; refine r_nil ?_; refine th_n ?_; refine w_ret ?_; obtain rfl := inj hF; have hF := hK144; have hF := sel_l hF; refine th_r ?_; obtain rfl := inj hF
          exact end_s st (Res.t gA Res.nil) rfl rfl
        · have hF := bif_f hb177 hF; refine w_skip ?_; obtain rfl := inj hF; refine thn ⟨rfl, _, rfl, ?_⟩; dsimp only
          exact ⟨F160, rfl, le160, st, gA, gA, gA, gA, gA, gA, gA, gA⟩
    · obtain ⟨w147, rfl, F148, rfl, le148, st, t1, t2, t3, t4, t5, t11, t13, t14⟩ := hp; have hF := sel_r hF
      have le186 := PH.le.trans le101 le148
      have le187 := PH.le.trans le102 le148
      have le188 := PH.le.trans le103 le148
      have le189 := PH.le.trans le104 le148
      have le190 := PH.le.trans le105 le148
      have le191 := PH.le.trans le106 le148
      have le192 := PH.le.trans le107 le148
      have le193 := PH.le.trans le100 le148
      refine w_seq ?_; refine w_reg ?_; refine v_ldn (vs := [(i64 a0_0), (.slice pa0_1 (a0_1).length ca0_1), (.slice pa0_2 (a0_2).length ca0_2), (i64 a0_3)]) (st.at (i := 0) rfl).2.2 rfl ?_; refine v_move ?_; obtain ⟨v194, e195, hF⟩ := bnd_some hF; refine v_callR st (ct44 N e195 st.d st.sub (Nat.le_trans hfl st.ext.le) (RowF.mono le186 ra0_1) (RowF.mono le186 ra0_2) (RowF.mono le186 ra3)) (fun u196 F196 h196 n196 le196 rv196 st => ?_)
      have le197 := PH.le.trans le186 le196
      have le198 := PH.le.trans le187 le196
      have le199 := PH.le.trans le188 le196
      have le200 := PH.le.trans le189 le196
      have le201 := PH.le.trans le190 le196
      have le202 := PH.le.trans le191 le196
      have le203 := PH.le.trans le192 le196
      have le204 := PH.le.trans le193 le196
      have le205 := PH.le.trans le148 le196
      obtain ⟨_, rfl, ⟨_, _, rfl, ⟨py206, cy206, rfl, ry206⟩, ⟨py207, cy207, rfl, ry207⟩⟩⟩ := rv196; refine v_alloc st (fun b208 h209 n210 st => ?_); refine v_st (cs' := [(.slice py206 (v194.1).length cy206), (.slice py207 (v194.2).length cy207)]) st 1 rfl rfl rfl rfl hfl (fun h211 st => ?_); refine r_nil ?_; refine th_n ?_; refine w_seq ?_; refine w_seq ?_; refine w_reg ?_; refine v_move ?_; refine r_nil ?_; refine th_n ?_; refine w_block ?_; obtain ⟨y307, hy, hF⟩ := bnd_some hF; refine v_loopD (sf8_L1 N a0_0 a0_1 a0_2 a0_3 a1 a2 a4 v70 v110 v194) (fun x212 T ds213 h nx => ∃ (F213 : PH), ds213 = [] ∧ PH.le F196 F213 ∧ St n0 h0 F0 F213 h nx [.bx b1 [(i64 a0_0), (.slice pa0_1 (a0_1).length ca0_1), (.slice pa0_2 (a0_2).length ca0_2), (i64 a0_3)], .bx b208 [(.slice py206 (v194.1).length cy206), (.slice py207 (v194.2).length cy207)]] ∧ T.get 1 = some (.slice pa1 (a1).length ca1) ∧ T.get 2 = some (.slice pa2 (a2).length ca2) ∧ T.get 4 = some (.int .u8 a4) ∧ T.get 5 = some (.ptr (some (b1, 0))) ∧ T.get 11 = some (.slice py77 (v70.1).length cy77) ∧ T.get 13 = some (i64 v110.1) ∧ T.get 14 = some (i64 v110.2) ∧ T.get 15 = some (.ptr (some (b208, 0))) ∧ T.get 16 = some (i64 x212)) (fun y e a σ => (∃ u, y = (.inl u) ∧ e = .ret ∧ a.nt = 172 ∧ ∃ (F309 : PH), a.defers = [] ∧ PH.le F196 F309 ∧ St n0 h0 F0 F309 σ.h σ.nx [.bx b1 [(i64 a0_0), (.slice pa0_1 (a0_1).length ca0_1), (.slice pa0_2 (a0_2).length ca0_2), (i64 a0_3)], .bx b208 [(.slice py206 (v194.1).length cy206), (.slice py207 (v194.2).length cy207)]] ∧ a.tmps.get 10 = some (.bool false)) ∨ (∃ u, y = (.inr u) ∧ e = .exit 0 ∧ a.nt = 172 ∧ ∃ (F311 : PH), a.defers = [] ∧ PH.le F196 F311 ∧ St n0 h0 F0 F311 σ.h σ.nx [.bx b1 [(i64 a0_0), (.slice pa0_1 (a0_1).length ca0_1), (.slice pa0_2 (a0_2).length ca0_2), (i64 a0_3)], .bx b208 [(.slice py206 (v194.1).length cy206), (.slice py207 (v194.2).length cy207)]] ∧ a.tmps.get 1 = some (.slice pa1 (a1).length ca1) ∧ a.tmps.get 2 = some (.slice pa2 (a2).length ca2) ∧ a.tmps.get 4 = some (.int .u8 a4) ∧ a.tmps.get 5 = some (.ptr (some (b1, 0))) ∧ a.tmps.get 14 = some (i64 v110.2))) (fun x212 T ds213 h nx s hp hF => ?_) N _ y307 _ _ _ _ hy ⟨F196, rfl, (PH.le.refl _), st, gA, gA, gA, gA, gA, gA, gA, gA, gA⟩ (fun e a σ hne hq => ?_)
      · obtain ⟨F213, rfl, le213, st, t1, t2, t4, t5, t11, t13, t14, t15, t16⟩ := hp
        have le214 := PH.le.trans le197 le213
        have le215 := PH.le.trans le198 le213
        have le216 := PH.le.trans le199 le213
        have le217 := PH.le.trans le200 le213
        have le218 := PH.le.trans le201 le213
        have le219 := PH.le.trans le202 le213
        have le220 := PH.le.trans le203 le213
        have le221 := PH.le.trans le204 le213
        have le222 := PH.le.trans le205 le213
        have le223 := PH.le.trans le196 le213
        unfold sf8_L1 at hF; unfold L8w0; refine w_seq ?_; refine w_seq ?_; refine w_reg ?_; refine v_move ?_; refine v_move ?_; refine v_len ?_; refine v_lss ?_; refine r_nil ?_; refine th_n ?_; refine v_cond (fun hb312 => ?_) (fun hb312 => ?_)
        · have hF := bif_t hb312 hF; refine w_skip ?_; refine th_n ?_; refine w_seq ?_; refine w_block ?_; refine w_seq ?_; refine w_drawV (Nat.le_trans hfl st.ext.le) (fun dw => ?_)
          have wf := Wf.start st
          refine y_pure st.d dw (fun hm vw => v_ldn (vs := [(i64 a0_0), (.slice pa0_1 (a0_1).length ca0_1), (.slice pa0_2 (a0_2).length ca0_2), (i64 a0_3)]) (vw.bx (st.at (i := 0) rfl)) rfl pr_nil) ?_; obtain ⟨v313, e314, hF⟩ := bnd_some hF
          refine y_deep st dw wf (fun hm vw => u_callR (ct19 N e314 vw.d (FF.sub wf st vw) (Nat.max_le.2 ⟨by have := dw.le; have := st.ext.le; omega, Nat.le_refl _⟩) (RowF.mono (PH.le.trans le214 FF.base) ra0_1) (RowF.mono (PH.le.trans le214 FF.base) ra0_2)) (fun v F' h' n' ex l1 l2 l3 l4 => r_nil ⟨_, _, rfl, ex, l1, l2, l3, l4⟩)) (fun u315 F315 n315 done hn' dw315 wf315 rv315 le315 => ?_)
          have wf := wf315
          have dw := dw315
          obtain ⟨_, rfl, ⟨_, _, rfl, rfl, ⟨_, _, rfl, ⟨py316, cy316, rfl, ry316⟩, ⟨_, _, rfl, ⟨py317, cy317, rfl, ry317⟩, rfl⟩⟩⟩⟩ := rv315; refine y_pure st.d dw (fun hm vw => v_move pr_nil) ?_; refine y_pure st.d dw (fun hm vw => v_move pr_nil) ?_; obtain ⟨n318, x318, z318, l318, g318, hF⟩ := ix_some hF; obtain ⟨b318, o318, s318, j318, r318, e318, f318, k318, rfl⟩ := RowF.get ra2 g318; refine y_pure st.d dw (fun hm vw => v_ixp e318 z318 l318 pr_nil) ?_; refine y_pure st.d dw (fun hm vw => v_ld1 (vw.fz st (le214 _ _ f318)) (take_at (j := 0) k318 rfl) pr_nil) ?_; refine y_pure st.d dw (fun hm vw => v_ldn (vs := [(.slice py206 (v194.1).length cy206), (.slice py207 (v194.2).length cy207)]) (vw.bx (st.at (i := 1) rfl)) rfl pr_nil) ?_
          obtain ⟨v319, e320, hF⟩ := bnd_some hF
          refine y_deep st dw wf (fun hm vw => u_callR (ct21 N e320 vw.d (FF.sub wf st vw) (Nat.max_le.2 ⟨by have := dw.le; have := st.ext.le; omega, Nat.le_refl _⟩) (RowF.mono (PH.le.trans le213 FF.base) ry206) (RowF.mono (PH.le.trans le213 FF.base) ry207)) (fun v F' h' n' ex l1 l2 l3 l4 => r_nil ⟨_, _, rfl, ex, l1, l2, l3, l4⟩)) (fun u321 F321 n321 done hn' dw321 wf321 rv321 le321 => ?_)
          have le324 := fun (f : Nat → Bool) q1 q2 => PH.le.trans (le315 f q1 q2) (FF.cons wf wf321 dw321)
          have wf := wf321
          have dw := dw321
          obtain ⟨_, rfl, ⟨_, _, rfl, ⟨py322, cy322, rfl, ry322⟩, ⟨py323, cy323, rfl, ry323⟩⟩⟩ := rv321; refine y_end st.d dw rfl (fun h325 ex vs => ?_)
          obtain ⟨F326, lt326, st⟩ := St.laidF st dw wf ex vs (Lay.nil (by have := dw.le; omega)) (fun e he => by cases he)
          have lz327 := lt326 _ (le324 (fun _ => true) rfl (fun _ _ => rfl))
          have lz328 := lt326 _ (le321 (fun _ => true) rfl (fun _ _ => rfl))
          have lb326 := lt326 _ FF.base
          have le329 := PH.le.trans le214 lb326
          have le330 := PH.le.trans le215 lb326
          have le331 := PH.le.trans le216 lb326
          have le332 := PH.le.trans le217 lb326
          have le333 := PH.le.trans le218 lb326
          have le334 := PH.le.trans le219 lb326
          have le335 := PH.le.trans le220 lb326
          have le336 := PH.le.trans le221 lb326
          have le337 := PH.le.trans le222 lb326
          have le338 := PH.le.trans le223 lb326
          have le339 := PH.le.trans le213 lb326
          obtain ⟨v340, e341, hF⟩ := bnd_some hF; refine v_call st (ct20 N e341 st.d st.sub (RowF.mono lz327 ry316) (RowF.mono lz327 ry317) (RowF.mono lz328 ry322) (RowF.mono lz328 ry323)) (fun n342 st => ?_); refine v_move ?_; refine v_xt rfl ?_; refine v_xt rfl ?_; refine v_move ?_; refine v_move ?_; refine r_nil ?_; refine th_n ?_; refine w_seq ?_; refine w_reg ?_; refine v_move ?_; refine v_move ?_; refine v_move ?_; obtain ⟨n343, x343, z343, l343, g343, hF⟩ := ix_some hF; obtain ⟨b343, o343, s343, j343, r343, e343, f343, k343, rfl⟩ := RowF.get ra1 g343; refine v_ixp e343 z343 l343 ?_; refine v_ld1 (st.sub _ _ (le329 _ _ f343)) (take_at (j := 0) k343 rfl) ?_; obtain ⟨q344, hF⟩ := ck_some hF
          refine v_sub q344 ?_; refine v_move ?_; refine r_nil ?_; refine th_n ?_; obtain ⟨y360, hA361, hF⟩ := bnd_some hF; refine w_cutD (fun T ds363 h nx => ∃ (F363 : PH), ds363 = [] ∧ PH.le F326 F363 ∧ St n0 h0 F0 F363 h nx [.bx b1 [(i64 a0_0), (.slice pa0_1 (a0_1).length ca0_1), (.slice pa0_2 (a0_2).length ca0_2), (i64 a0_3)], .bx b208 [(.slice py206 (v194.1).length cy206), (.slice py207 (v194.2).length cy207)]] ∧ T.get 1 = some (.slice pa1 (a1).length ca1) ∧ T.get 2 = some (.slice pa2 (a2).length ca2) ∧ T.get 4 = some (.int .u8 a4) ∧ T.get 5 = some (.ptr (some (b1, 0))) ∧ T.get 11 = some (.slice py77 (v70.1).length cy77) ∧ T.get 13 = some (i64 v110.1) ∧ T.get 14 = some (i64 v110.2) ∧ T.get 15 = some (.ptr (some (b208, 0))) ∧ T.get 16 = some (i64 x212) ∧ T.get 154 = some (.bool y360)) ?_ (fun T ds363 h nx hp => ?_)
          · have hK362 := hF
            have hF := hA361; refine w_reg ?_; refine v_move ?_; refine v_nei ?_; refine v_move ?_
            rcases Bool.eq_false_or_eq_true (!(decide (v340.2 = (0 : Int)))) with hb364 | hb364
            · have hF := bif_t hb364 hF; refine g_skip hb364 ?_; refine g_skip hb364 ?_; refine g_skip hb364 ?_; refine g_skip hb364 ?_; refine g_skip hb364 ?_; refine g_skip hb364 ?_; refine g_skip hb364 ?_; refine v_pick hb364 ?_; refine v_move ?_; refine g_skip rfl ?_; refine g_skip rfl ?_; refine g_skip rfl ?_; refine g_skip rfl ?_; refine g_skip rfl ?_; refine g_skip rfl ?_; refine g_skip rfl ?_; refine v_pick rfl ?_; refine v_move ?_; refine g_skip rfl ?_; refine g_skip rfl ?_; refine g_skip rfl ?_; refine g_skipu ?_; refine g_skipu ?_; refine g_skipu ?_; refine g_skip rfl ?_; refine g_skip rfl ?_; refine g_skipu ?_; refine g_skipu ?_; refine g_skipu ?_; refine g_skipu ?_; refine g_skipu ?_
              refine g_skipu ?_; refine g_skipu ?_; refine g_skipu ?_; refine g_skipu ?_; refine g_skipu ?_; refine g_skipu ?_; refine g_skip rfl ?_; refine v_pick rfl ?_; refine r_nil ?_; obtain rfl := inj hF; refine thn ⟨rfl, ?_⟩; dsimp only
              exact ⟨F326, rfl, (PH.le.refl _), st, gA, gA, gA, gA, gA, gA, gA, gA, gA, gA⟩
            · have hF := bif_f hb364 hF; refine g_take hb364 (v_move ?_); refine g_take hb364 (v_move ?_); refine g_take hb364 (v_move ?_); obtain ⟨n365, x365, z365, l365, g365, hF⟩ := ix_some hF; obtain ⟨b365, o365, s365, j365, r365, e365, f365, k365, ⟨_, _, rfl, rfl, rfl⟩⟩ := RowF.get ry77 g365; refine g_take hb364 (v_ixp e365 z365 l365 ?_); refine g_take hb364 (v_fa ?_); refine g_take hb364 (v_ld1 (st.sub _ _ (le334 _ _ f365)) (take_at (j := 0) k365 rfl) ?_); refine g_take hb364 (v_lss ?_); refine v_pick' hb364 ?_; refine v_move ?_
              rcases Bool.eq_false_or_eq_true (decide ((v340.1 - x343) < x365.1)) with hb366 | hb366
              · have hF := bif_t hb366 hF; refine g_skip hb366 ?_; refine g_skip hb366 ?_; refine g_skip hb366 ?_; refine g_skip hb366 ?_; refine g_skip hb366 ?_; refine g_skip hb366 ?_; refine g_skip hb366 ?_; refine v_pick hb366 ?_; refine v_move ?_; refine g_skip rfl ?_; refine g_skip rfl ?_; refine g_skip rfl ?_; refine g_skipu ?_; refine g_skipu ?_; refine g_skipu ?_; refine g_skip rfl ?_; refine g_skip rfl ?_; refine g_skipu ?_; refine g_skipu ?_; refine g_skipu ?_; refine g_skipu ?_; refine g_skipu ?_; refine g_skipu ?_; refine g_skipu ?_; refine g_skipu ?_; refine g_skipu ?_; refine g_skipu ?_; refine g_skipu ?_; refine g_skip rfl ?_; refine v_pick rfl ?_; refine r_nil ?_; obtain rfl := inj hF
                refine thn ⟨rfl, ?_⟩; dsimp only
                exact ⟨F326, rfl, (PH.le.refl _), st, gA, gA, gA, gA, gA, gA, gA, gA, gA, gA⟩
              · have hF := bif_f hb366 hF; refine g_take hb366 (v_move ?_); refine g_take hb366 (v_move ?_); refine g_take hb366 (v_move ?_); obtain ⟨n367, x367, z367, l367, g367, hF⟩ := ix_some hF; obtain ⟨b367, o367, s367, j367, r367, e367, f367, k367, ⟨_, _, rfl, rfl, rfl⟩⟩ := RowF.get ry77 g367; refine g_take hb366 (v_ixp e367 z367 l367 ?_); refine g_take hb366 (v_fa ?_); refine g_take hb366 (v_ld1 (st.sub _ _ (le334 _ _ f367)) (take_at (j := 1) k367 rfl) ?_); refine g_take hb366 (v_gtr ?_); refine v_pick' hb366 ?_; refine v_move ?_
                rcases Bool.eq_false_or_eq_true (decide (x367.2 < (v340.1 - x343))) with hb368 | hb368
                · have hF := bif_t hb368 hF; refine g_skip hb368 ?_; refine g_skip hb368 ?_; refine g_skip hb368 ?_; refine g_skipu ?_; refine g_skipu ?_; refine g_skipu ?_; refine g_skip hb368 ?_; refine g_skip hb368 ?_; refine g_skipu ?_; refine g_skipu ?_; refine g_skipu ?_; refine g_skipu ?_; refine g_skipu ?_; refine g_skipu ?_; refine g_skipu ?_; refine g_skipu ?_; refine g_skipu ?_; refine g_skipu ?_; refine g_skipu ?_; refine g_skip hb368 ?_; refine v_pick hb368 ?_; refine r_nil ?_; obtain rfl := inj hF; refine thn ⟨rfl, ?_⟩; dsimp only
                  exact ⟨F326, rfl, (PH.le.refl _), st, gA, gA, gA, gA, gA, gA, gA, gA, gA, gA⟩
                · have hF := bif_f hb368 hF; refine g_take hb368 (v_move ?_); refine g_take hb368 (v_eqi ?_); refine g_take hb368 (v_move ?_)
                  rcases Bool.eq_false_or_eq_true (decide (v110.2 = (7 : Int))) with hb369 | hb369
                  · have hF := bif_t hb369 hF; refine g_skip hb369 ?_; refine g_skip hb369 ?_; refine g_skip hb369 ?_; refine g_take hb368 (v_pick hb369 ?_); refine g_take hb368 (v_move ?_); refine g_take rfl (v_move ?_); refine g_take rfl (v_move ?_); obtain ⟨q370, hF⟩ := ck_some hF; refine g_take rfl (v_conv q370 ?_); refine g_take rfl (v_gtr ?_); refine g_take rfl (v_move ?_)
                    rcases Bool.eq_false_or_eq_true (decide (a4 < (v340.1 - x343))) with hb371 | hb371
                    · have hF := bif_t hb371 hF; refine g_skip hb371 ?_; refine g_skip hb371 ?_; refine g_skip hb371 ?_; refine g_skip hb371 ?_; refine g_skip hb371 ?_; refine g_take rfl (v_pick hb371 ?_); refine g_take hb368 (v_pick rfl ?_); refine v_pick' hb368 ?_; refine r_nil ?_; obtain rfl := inj hF; refine thn ⟨rfl, ?_⟩; dsimp only
                      exact ⟨F326, rfl, (PH.le.refl _), st, gA, gA, gA, gA, gA, gA, gA, gA, gA, gA⟩
                    · have hF := bif_f hb371 hF; refine g_take hb371 (v_move ?_); refine g_take hb371 (v_move ?_); obtain ⟨q372, hF⟩ := ck_some hF; refine g_take hb371 (v_conv q372 ?_); obtain ⟨q373, hF⟩ := ck_some hF; refine g_take hb371 (v_neg q373 ?_); refine g_take hb371 (v_lss ?_); refine g_take rfl (v_pick' hb371 ?_); refine g_take hb368 (v_pick rfl ?_); refine v_pick' hb368 ?_; refine r_nil ?_; obtain rfl := inj hF; refine thn ⟨rfl, ?_⟩; dsimp only
                      exact ⟨F326, rfl, (PH.le.refl _), st, gA, gA, gA, gA, gA, gA, gA, gA, gA, gA⟩
                  · have hF := bif_f hb369 hF; refine g_take hb369 (v_move ?_); refine g_take hb369 (v_move ?_); refine g_take hb369 (v_lss ?_); refine g_take hb368 (v_pick' hb369 ?_); refine g_take hb368 (v_move ?_)
                    rcases Bool.eq_false_or_eq_true (decide (x212 < v110.1)) with hb374 | hb374
                    · have hF := bif_t hb374 hF; refine g_take hb374 (v_move ?_); refine g_take hb374 (v_move ?_); obtain ⟨q375, hF⟩ := ck_some hF; refine g_take hb374 (v_conv q375 ?_); refine g_take hb374 (v_gtr ?_); refine g_take hb374 (v_move ?_)
                      rcases Bool.eq_false_or_eq_true (decide (a4 < (v340.1 - x343))) with hb376 | hb376
                      · have hF := bif_t hb376 hF; refine g_skip hb376 ?_; refine g_skip hb376 ?_; refine g_skip hb376 ?_; refine g_skip hb376 ?_; refine g_skip hb376 ?_; refine g_take hb374 (v_pick hb376 ?_); refine g_take hb368 (v_pick hb374 ?_); refine v_pick' hb368 ?_; refine r_nil ?_; obtain rfl := inj hF; refine thn ⟨rfl, ?_⟩; dsimp only
                        exact ⟨F326, rfl, (PH.le.refl _), st, gA, gA, gA, gA, gA, gA, gA, gA, gA, gA⟩
                      · have hF := bif_f hb376 hF; refine g_take hb376 (v_move ?_); refine g_take hb376 (v_move ?_); obtain ⟨q377, hF⟩ := ck_some hF; refine g_take hb376 (v_conv q377 ?_); obtain ⟨q378, hF⟩ := ck_some hF; refine g_take hb376 (v_neg q378 ?_); refine g_take hb376 (v_lss ?_); refine g_take hb374 (v_pick' hb376 ?_); refine g_take hb368 (v_pick hb374 ?_); refine v_pick' hb368 ?_; refine r_nil ?_; obtain rfl := inj hF; refine thn ⟨rfl, ?_⟩; dsimp only
                        exact ⟨F326, rfl, (PH.le.refl _), st, gA, gA, gA, gA, gA, gA, gA, gA, gA, gA⟩
                    · have hF := bif_f hb374 hF; refine g_skip hb374 ?_; refine g_skip hb374 ?_; refine g_skip hb374 ?_; refine g_skip hb374 ?_; refine g_skip hb374 ?_; refine g_skipu ?_; refine g_skipu ?_; refine g_skipu ?_; refine g_skipu ?_; refine g_skipu ?_; refine g_skip hb374 ?_; refine g_take hb368 (v_pick' hb374 ?_); refine v_pick' hb368 ?_; refine r_nil ?_; obtain rfl := inj hF; refine thn ⟨rfl, ?_⟩; dsimp only
                      exact ⟨F326, rfl, (PH.le.refl _), st, gA, gA, gA, gA, gA, gA, gA, gA, gA, gA⟩
          · obtain ⟨F363, rfl, le363, st, t1, t2, t4, t5, t11, t13, t14, t15, t16, t154⟩ := hp
            have le379 := PH.le.trans le329 le363
            have le380 := PH.le.trans le330 le363
            have le381 := PH.le.trans le331 le363
            have le382 := PH.le.trans le332 le363
            have le383 := PH.le.trans le333 le363
            have le384 := PH.le.trans le334 le363
            have le385 := PH.le.trans le335 le363
            have le386 := PH.le.trans le336 le363
            have le387 := PH.le.trans le337 le363
            have le388 := PH.le.trans le338 le363
            have le389 := PH.le.trans le339 le363
            have le390 := PH.le.trans lb326 le363
            have le391 := PH.le.trans lz327 le363
            have le392 := PH.le.trans lz328 le363
            refine v_cond (fun hb393 => ?_) (fun hb393 => ?_)
            · have hF := bif_t hb393 hF; refine w_seq ?_; refine w_reg ?_; refine v_move ?_; refine r_nil ?_; refine th_n ?_; refine w_ret ?_; refine ib_r ?_; refine th_r ?_; refine th_r ?_; refine ⟨_, (inj hF).symm, .inl ⟨_, rfl, rfl, rfl, ?_⟩⟩; dsimp only
              exact ⟨F363, rfl, le389, st, gA⟩
            · have hF := bif_f hb393 hF; refine w_skip ?_; refine ib_n ?_; refine th_n ?_; refine w_reg ?_; refine v_move ?_; obtain ⟨q394, hF⟩ := ck_some hF; refine v_add q394 ?_; refine v_move ?_; refine r_nil ?_; refine thn ⟨_, (inj hF).symm, rfl, ?_⟩; dsimp only
              exact ⟨F363, rfl, le389, st, gA, gA, gA, gA, gA, gA, gA, gA, gA⟩
        · have hF := bif_f hb312 hF; refine w_exit ?_; refine th_e ?_; refine th_e ?_; refine ⟨_, (inj hF).symm, .inr (⟨_, rfl, rfl, rfl, ?_⟩)⟩; dsimp only
          exact ⟨F213, rfl, le213, st, gA, gA, gA, gA, gA⟩
      · rcases hq with hq | hq
        · obtain ⟨N9, T, ds309⟩ := a; obtain ⟨h405, n406⟩ := σ; obtain ⟨w308, rfl, rfl, e1, F309, e2, le309, st, t10⟩ := hq
          dsimp only at e1 e2
          subst e1
          subst e2
          dsimp only at st t10
          have le395 := PH.le.trans le197 le309
          have le396 := PH.le.trans le198 le309
          have le397 := PH.le.trans le199 le309
          have le398 := PH.le.trans le200 le309
          have le399 := PH.le.trans le201 le309
          have le400 := PH.le.trans le202 le309
          have le401 := PH.le.trans le203 le309
          have le402 := PH.le.trans le204 le309
          have le403 := PH.le.trans le205 le309
          have le404 := PH.le.trans le196 le309
          have hF := sel_l hF; refine ib_r ?_; refine th_r ?_; obtain rfl := inj hF
          exact end_s st (Res.t gA Res.nil) rfl rfl
        · obtain ⟨N9, T, ds311⟩ := a; obtain ⟨h417, n418⟩ := σ; obtain ⟨w310, rfl, rfl, e1, F311, e2, le311, st, t1, t2, t4, t5, t14⟩ := hq
          dsimp only at e1 e2
          subst e1
          subst e2
          dsimp only at st t1 t2 t4 t5 t14
          have le407 := PH.le.trans le197 le311
          have le408 := PH.le.trans le198 le311
          have le409 := PH.le.trans le199 le311
          have le410 := PH.le.trans le200 le311
          have le411 := PH.le.trans le201 le311
          have le412 := PH.le.trans le202 le311
          have le413 := PH.le.trans le203 le311
          have le414 := PH.le.trans le204 le311
          have le415 := PH.le.trans le205 le311
          have le416 := PH.le.trans le196 le311
          have hF := sel_r hF; refine ib_e ?_; refine th_n ?_; refine w_seq ?_; refine w_reg ?_; refine v_ldn (vs := [(i64 a0_0), (.slice pa0_1 (a0_1).length ca0_1), (.slice pa0_2 (a0_2).length ca0_2), (i64 a0_3)]) (st.at (i := 0) rfl).2.2 rfl ?_; obtain ⟨v419, e420, hF⟩ := bnd_some hF; refine v_callR st (ct19 N e420 st.d st.sub (Nat.le_trans hfl st.ext.le) (RowF.mono le407 ra0_1) (RowF.mono le407 ra0_2)) (fun u421 F421 h421 n421 le421 rv421 st => ?_)
          have le422 := PH.le.trans le407 le421
          have le423 := PH.le.trans le408 le421
          have le424 := PH.le.trans le409 le421
          have le425 := PH.le.trans le410 le421
          have le426 := PH.le.trans le411 le421
          have le427 := PH.le.trans le412 le421
          have le428 := PH.le.trans le413 le421
          have le429 := PH.le.trans le414 le421
          have le430 := PH.le.trans le415 le421
          have le431 := PH.le.trans le416 le421
          have le432 := PH.le.trans le311 le421
          obtain ⟨_, rfl, ⟨_, _, rfl, rfl, ⟨_, _, rfl, ⟨py433, cy433, rfl, ry433⟩, ⟨_, _, rfl, ⟨py434, cy434, rfl, ry434⟩, rfl⟩⟩⟩⟩ := rv421; refine v_move ?_; obtain ⟨v435, e436, hF⟩ := bnd_some hF; refine v_callR st (ct30 N e436 st.d st.sub (Nat.le_trans hfl st.ext.le) (RowF.mono le422 ra1)) (fun u437 F437 h437 n437 le437 rv437 st => ?_)
          have le438 := PH.le.trans le422 le437
          have le439 := PH.le.trans le423 le437
          have le440 := PH.le.trans le424 le437
          have le441 := PH.le.trans le425 le437
          have le442 := PH.le.trans le426 le437
          have le443 := PH.le.trans le427 le437
          have le444 := PH.le.trans le428 le437
          have le445 := PH.le.trans le429 le437
          have le446 := PH.le.trans le430 le437
          have le447 := PH.le.trans le431 le437
          have le448 := PH.le.trans le432 le437
          have le449 := PH.le.trans le421 le437
          obtain ⟨py450, cy450, rfl, ry450⟩ := rv437; refine v_move ?_; obtain ⟨v451, e452, hF⟩ := bnd_some hF; refine v_callR st (ct30 N e452 st.d st.sub (Nat.le_trans hfl st.ext.le) (RowF.mono le438 ra2)) (fun u453 F453 h453 n453 le453 rv453 st => ?_)
          have le454 := PH.le.trans le438 le453
          have le455 := PH.le.trans le439 le453
          have le456 := PH.le.trans le440 le453
          have le457 := PH.le.trans le441 le453
          have le458 := PH.le.trans le442 le453
          have le459 := PH.le.trans le443 le453
          have le460 := PH.le.trans le444 le453
          have le461 := PH.le.trans le445 le453
          have le462 := PH.le.trans le446 le453
          have le463 := PH.le.trans le447 le453
          have le464 := PH.le.trans le448 le453
          have le465 := PH.le.trans le449 le453
          have le466 := PH.le.trans le437 le453
          obtain ⟨py467, cy467, rfl, ry467⟩ := rv453; refine v_move ?_; obtain ⟨q468, hF⟩ := ck_some hF; refine v_conv q468 ?_; refine v_move ?_; refine v_len ?_; obtain ⟨v469, e470, hF⟩ := bnd_some hF; refine v_call st (ct43 N e470 st.d st.sub (RowF.mono le466 ry433) (RowF.mono le466 ry434) (RowF.mono le453 ry450) ry467) (fun n471 st => ?_); refine v_move ?_; refine v_eqi ?_; refine v_eqb ?_; refine v_move ?_
          rcases Bool.eq_false_or_eq_true (v469 == (decide (v110.2 = (7 : Int)))) with hb472 | hb472
          · have hF := bif_t hb472 hF; refine g_take hb472 (v_call st (ct_wakes (h := _) (nx := _)) (fun n473 st => ?_)); refine v_pick hb472 ?_; refine v_move ?_; refine r_nil ?_; refine th_n ?_; refine w_ret ?_; obtain rfl := inj hF
            exact end_s st (Res.t gA Res.nil) rfl rfl
          · have hF := bif_f hb472 hF; refine g_skip hb472 ?_; refine v_pick' hb472 ?_; refine v_move ?_; refine r_nil ?_; refine th_n ?_; refine w_ret ?_; obtain rfl := inj hF
            exact end_s st (Res.t gA Res.nil) rfl rfl
end Go.Hx.V


