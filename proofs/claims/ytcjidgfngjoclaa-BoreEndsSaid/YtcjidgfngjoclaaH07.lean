/- Functions of the program come to that. -/
import Derived.Test.YtcjidgfngjoclaaH05
import Derived.Test.YtcjidgfngjoclaaH06
import Derived.Test.YtcjidgfngjoclaaH03
import Derived.Test.YtcjidgfngjoclaaH00
import Derived.Test.YtcjidgfngjoclaaH02
import Derived.Test.YtcjidgfngjoclaaH01
set_option linter.all false
/- Functions of the program come to that. -/
namespace Go.Hx.V
open Go.Hx
set_option linter.unusedVariables false
set_option maxRecDepth 20000
set_option maxHeartbeats 4000000
attribute [local irreducible] W R C thenH inBlockH Tr.get Tr.set lo ck bnd ix iter
theorem ct29 (N : Nat) {a0_0 : Int} {a0_1 : Int} {a0_2 : Int} {a0_3 : Int} {a1 : (List (Int × Int × Int × Int))} {r : ((List (Int × Int)) × Int)} (hF : sf29 N a0_0 a0_1 a0_2 a0_3 a1 = some r) {fl : Nat} {h0 : Tr HBlk} {n0 : Nat} {F0 : PH} (hd : D h0 n0) (hs : F0.sub h0) (hfl : fl ≤ n0) {pa1 : Option (Nat × Nat)} {ca1 : Nat} (ra1 : RowF (rP rI (rP rI (rP rI rI))) 4 F0 pa1 ca1 a1) : C LW fl 29 [(.agg [(i64 a0_0), (i64 a0_1), (i64 a0_2), (i64 a0_3)]), (.slice pa1 (a1).length ca1)] ⟨h0, n0⟩ (KR (rvT2 (lvL (rP rI rI) 2) lvI) F0 h0 n0 r) := by
  unfold sf29 at hF
  refine in_mT hd hs hfl lw29 rfl rfl (by rfl) (fun st T hT => ?_)
  have t0 := hT 0 _ rfl
  have t1 := hT 1 _ rfl
  dsimp only [L29]
  refine w_seq ?_; refine w_reg ?_; refine v_box st (fun b1 h2 n3 st => ?_); refine v_move ?_; refine v_move ?_; refine r_nil ?_; refine th_n ?_; refine w_seq ?_; refine w_reg ?_; refine v_ldn (vs := [(i64 a0_0), (i64 a0_1), (i64 a0_2), (i64 a0_3)]) (st.at (i := 0) rfl).2.2 rfl ?_; refine v_move ?_; obtain ⟨v4, e5, hF⟩ := bnd_some hF; refine v_call st (ct72 N e5 st.d st.sub ra1) (fun n6 st => ?_); refine v_move ?_; refine v_xt rfl ?_; refine v_xt rfl ?_; refine v_alloc st (fun b7 h8 n9 st => ?_)
  have st := st.cells 1 rfl ([(i64 (0 : Int)), (i64 (0 : Int)), (i64 (0 : Int)), (i64 (0 : Int)), (i64 (0 : Int))] ++ (eI .i64 169 (fun _ => 0))) rfl
  refine v_st (v := (.agg ([(i64 v4.1), (i64 v4.2.1), (i64 v4.2.2.1), (i64 v4.2.2.2.1), (i64 v4.2.2.2.2.1)] ++ (eI .i64 169 v4.2.2.2.2.2.1)))) (cs' := ([(i64 v4.1), (i64 v4.2.1), (i64 v4.2.2.1), (i64 v4.2.2.2.1), (i64 v4.2.2.2.2.1)] ++ (eI .i64 169 v4.2.2.2.2.2.1))) st 1 rfl (ov_tail (q := ([(i64 (0 : Int)), (i64 (0 : Int)), (i64 (0 : Int)), (i64 (0 : Int)), (i64 (0 : Int))] ++ (eI .i64 169 (fun _ => 0)))) (r := ([(i64 v4.1), (i64 v4.2.1), (i64 v4.2.2.1), (i64 v4.2.2.2.1), (i64 v4.2.2.2.2.1)] ++ (eI .i64 169 v4.2.2.2.2.2.1))) [] rfl (by simp [eI_len, eB_len])) (len_tail _ eI_len (by rfl)) (one_tail _ (by rfl) eI_one) hfl (fun h10 st => ?_)
  refine v_move ?_; refine r_nil ?_; refine th_n ?_; refine w_seq ?_; refine w_seq ?_; refine w_reg ?_; refine v_move ?_; refine v_nei ?_; refine r_nil ?_; refine th_n ?_; refine v_cond (fun hb11 => ?_) (fun hb11 => ?_)
  · have hF := bif_t hb11 hF; refine w_seq ?_; refine w_reg ?_; refine v_move ?_; refine v_move ?_; refine v_move ?_; refine r_nil ?_; refine th_n ?_; refine w_ret ?_; refine th_r ?_; obtain rfl := inj hF
    exact end_r st (Res.t gA (Res.t gA Res.nil)) ⟨_, _, rfl, ⟨none, 0, rfl, RowF.nil⟩, rfl⟩
  · have hF := bif_f hb11 hF; refine w_skip ?_; refine th_n ?_; refine w_seq ?_; refine w_reg ?_; refine v_ldn (vs := ([(i64 v4.1), (i64 v4.2.1), (i64 v4.2.2.1), (i64 v4.2.2.2.1), (i64 v4.2.2.2.2.1)] ++ (eI .i64 169 v4.2.2.2.2.2.1))) (st.at (i := 1) rfl).2.2 (tk_tail (E := (eI .i64 169 v4.2.2.2.2.2.1)) [] [(i64 v4.1), (i64 v4.2.1), (i64 v4.2.2.1), (i64 v4.2.2.2.1), (i64 v4.2.2.2.2.1)] rfl eI_len rfl) ?_; obtain ⟨v12, e13, hF⟩ := bnd_some hF; refine v_callR st (ct73 N e13 st.d st.sub (Nat.le_trans hfl st.ext.le) ) (fun u14 F14 h14 n14 le14 rv14 st => ?_); obtain ⟨py15, cy15, rfl, ry15⟩ := rv14; refine v_move ?_; refine v_move ?_; refine r_nil ?_; refine th_n ?_; refine w_ret ?_; obtain rfl := inj hF
    exact end_r st (Res.t gA (Res.t gA Res.nil)) ⟨_, _, rfl, ⟨_, _, rfl, ry15⟩, rfl⟩
theorem ct36 (N : Nat) {a0_0 : Int} {a0_1 : Int} {a0_2 : Int} {a0_3 : Int} {a1 : (List (Int × Int × Int × Int))} {a2 : Int} {a3 : Bool} {r : ((List Int) × Int)} (hF : sf36 N a0_0 a0_1 a0_2 a0_3 a1 a2 a3 = some r) {fl : Nat} {h0 : Tr HBlk} {n0 : Nat} {F0 : PH} (hd : D h0 n0) (hs : F0.sub h0) (hfl : fl ≤ n0) {pa1 : Option (Nat × Nat)} {ca1 : Nat} (ra1 : RowF (rP rI (rP rI (rP rI rI))) 4 F0 pa1 ca1 a1) : C LW fl 36 [(.agg [(i64 a0_0), (i64 a0_1), (i64 a0_2), (i64 a0_3)]), (.slice pa1 (a1).length ca1), (i64 a2), (.bool a3)] ⟨h0, n0⟩ (KR (rvT2 (lvL rI 1) lvI) F0 h0 n0 r) := by
  unfold sf36 at hF
  refine in_mT hd hs hfl lw36 rfl rfl (by rfl) (fun st T hT => ?_)
  have t0 := hT 0 _ rfl
  have t1 := hT 1 _ rfl
  have t2 := hT 2 _ rfl
  have t3 := hT 3 _ rfl
  dsimp only [L36]
  refine w_seq ?_; refine w_reg ?_; refine v_box st (fun b1 h2 n3 st => ?_); refine v_move ?_; refine v_move ?_; refine r_nil ?_; refine th_n ?_; refine w_seq ?_; refine w_reg ?_; refine v_ldn (vs := [(i64 a0_0), (i64 a0_1), (i64 a0_2), (i64 a0_3)]) (st.at (i := 0) rfl).2.2 rfl ?_; refine v_move ?_; refine v_move ?_; refine v_leq ?_; refine v_move ?_
  rcases Bool.eq_false_or_eq_true (decide ((0 : Int) ≤ a2)) with hb4 | hb4
  · have hF := bif_t hb4 hF; refine g_take hb4 (v_move ?_); refine g_take hb4 (v_fa ?_); refine g_take hb4 (v_ld1 (st.at (i := 0) rfl).2.2 rfl ?_); refine g_take hb4 (v_leq ?_); refine v_pick hb4 ?_; obtain ⟨v5, e6, hF⟩ := bnd_some hF; refine v_call st (ct72 N e6 st.d st.sub ra1) (fun n7 st => ?_); refine v_move ?_; refine v_xt rfl ?_; refine v_xt rfl ?_; refine v_alloc st (fun b8 h9 n10 st => ?_)
    have st := st.cells 1 rfl ([(i64 (0 : Int)), (i64 (0 : Int)), (i64 (0 : Int)), (i64 (0 : Int)), (i64 (0 : Int))] ++ (eI .i64 169 (fun _ => 0))) rfl
    refine v_st (v := (.agg ([(i64 v5.1), (i64 v5.2.1), (i64 v5.2.2.1), (i64 v5.2.2.2.1), (i64 v5.2.2.2.2.1)] ++ (eI .i64 169 v5.2.2.2.2.2.1)))) (cs' := ([(i64 v5.1), (i64 v5.2.1), (i64 v5.2.2.1), (i64 v5.2.2.2.1), (i64 v5.2.2.2.2.1)] ++ (eI .i64 169 v5.2.2.2.2.2.1))) st 1 rfl (ov_tail (q := ([(i64 (0 : Int)), (i64 (0 : Int)), (i64 (0 : Int)), (i64 (0 : Int)), (i64 (0 : Int))] ++ (eI .i64 169 (fun _ => 0)))) (r := ([(i64 v5.1), (i64 v5.2.1), (i64 v5.2.2.1), (i64 v5.2.2.2.1), (i64 v5.2.2.2.2.1)] ++ (eI .i64 169 v5.2.2.2.2.2.1))) [] rfl (by simp [eI_len, eB_len])) (len_tail _ eI_len (by rfl)) (one_tail _ (by rfl) eI_one) hfl (fun h11 st => ?_)
    refine v_move ?_; refine r_nil ?_; refine th_n ?_; refine w_seq ?_; refine w_seq ?_; refine w_reg ?_; refine v_move ?_; refine v_nei ?_; refine r_nil ?_; refine th_n ?_; refine v_cond (fun hb12 => ?_) (fun hb12 => ?_)
    · have hF := bif_t hb12 hF; refine w_seq ?_; refine w_reg ?_; refine v_move ?_; refine v_move ?_; refine v_move ?_; refine r_nil ?_; refine th_n ?_; refine w_ret ?_; refine th_r ?_; obtain rfl := inj hF
      exact end_r st (Res.t gA (Res.t gA Res.nil)) ⟨_, _, rfl, ⟨none, 0, rfl, RowF.nil⟩, rfl⟩
    · have hF := bif_f hb12 hF; refine w_skip ?_; refine th_n ?_; refine w_seq ?_; refine w_seq ?_; refine w_reg ?_; refine v_move ?_; refine r_nil ?_; refine th_n ?_; refine v_cond (fun hb13 => ?_) (fun hb13 => ?_)
      · have hF := bif_t hb13 hF; refine w_seq ?_; refine w_drawV (Nat.le_trans hfl st.ext.le) (fun dw => ?_); refine y_pure st.d dw (fun hm vw => v_ldn (vs := ([(i64 v5.1), (i64 v5.2.1), (i64 v5.2.2.1), (i64 v5.2.2.2.1), (i64 v5.2.2.2.2.1)] ++ (eI .i64 169 v5.2.2.2.2.2.1))) (vw.bx (st.at (i := 1) rfl)) (tk_tail (E := (eI .i64 169 v5.2.2.2.2.2.1)) [] [(i64 v5.1), (i64 v5.2.1), (i64 v5.2.2.1), (i64 v5.2.2.2.1), (i64 v5.2.2.2.2.1)] rfl eI_len rfl) pr_nil) ?_; obtain ⟨v14, e15, hF⟩ := bnd_some hF; refine y_flat st.d dw (fun hm vw => u_call (ct77 N e15 vw.d (vw.sub st) ) (fun n' hn' => pf_nil hn')) (fun n16 hn' dw => ?_); refine y_end st.d dw rfl (fun h17 ex vs => ?_)
        have st := st.ext1 ex
        refine v_fld1 rfl ?_; obtain ⟨v18, e19, hF⟩ := bnd_some hF; refine v_callR st (ct76 N e19 st.d st.sub (Nat.le_trans hfl st.ext.le) ) (fun u20 F20 h20 n20 le20 rv20 st => ?_); obtain ⟨py21, cy21, rfl, ry21⟩ := rv20; refine v_move ?_; refine v_move ?_; refine r_nil ?_; refine th_n ?_; refine w_ret ?_; refine th_r ?_; obtain rfl := inj hF
        exact end_r st (Res.t gA (Res.t gA Res.nil)) ⟨_, _, rfl, ⟨_, _, rfl, ry21⟩, rfl⟩
      · have hF := bif_f hb13 hF; refine w_skip ?_; refine th_n ?_; refine w_seq ?_; refine w_drawV (Nat.le_trans hfl st.ext.le) (fun dw => ?_); refine y_pure st.d dw (fun hm vw => v_ldn (vs := ([(i64 v5.1), (i64 v5.2.1), (i64 v5.2.2.1), (i64 v5.2.2.2.1), (i64 v5.2.2.2.2.1)] ++ (eI .i64 169 v5.2.2.2.2.2.1))) (vw.bx (st.at (i := 1) rfl)) (tk_tail (E := (eI .i64 169 v5.2.2.2.2.2.1)) [] [(i64 v5.1), (i64 v5.2.1), (i64 v5.2.2.1), (i64 v5.2.2.2.1), (i64 v5.2.2.2.2.1)] rfl eI_len rfl) pr_nil) ?_; obtain ⟨v22, e23, hF⟩ := bnd_some hF; refine y_flat st.d dw (fun hm vw => u_call (ct77 N e23 vw.d (vw.sub st) ) (fun n' hn' => pf_nil hn')) (fun n24 hn' dw => ?_); refine y_end st.d dw rfl (fun h25 ex vs => ?_)
        have st := st.ext1 ex
        refine v_fld1 rfl ?_; obtain ⟨v26, e27, hF⟩ := bnd_some hF; refine v_callR st (ct76_2 N e27 st.d st.sub (Nat.le_trans hfl st.ext.le) ) (fun u28 F28 h28 n28 le28 rv28 st => ?_); obtain ⟨py29, cy29, rfl, ry29⟩ := rv28; refine v_move ?_; refine v_move ?_; refine r_nil ?_; refine th_n ?_; refine w_ret ?_; obtain rfl := inj hF
        exact end_r st (Res.t gA (Res.t gA Res.nil)) ⟨_, _, rfl, ⟨_, _, rfl, ry29⟩, rfl⟩
  · have hF := bif_f hb4 hF; refine g_skip hb4 ?_; refine g_skip hb4 ?_; refine g_skip hb4 ?_; refine g_skip hb4 ?_; refine v_pick' hb4 ?_; obtain ⟨v30, e31, hF⟩ := bnd_some hF; refine v_call st (ct72 N e31 st.d st.sub ra1) (fun n32 st => ?_); refine v_move ?_; refine v_xt rfl ?_; refine v_xt rfl ?_; refine v_alloc st (fun b33 h34 n35 st => ?_)
    have st := st.cells 1 rfl ([(i64 (0 : Int)), (i64 (0 : Int)), (i64 (0 : Int)), (i64 (0 : Int)), (i64 (0 : Int))] ++ (eI .i64 169 (fun _ => 0))) rfl
    refine v_st (v := (.agg ([(i64 v30.1), (i64 v30.2.1), (i64 v30.2.2.1), (i64 v30.2.2.2.1), (i64 v30.2.2.2.2.1)] ++ (eI .i64 169 v30.2.2.2.2.2.1)))) (cs' := ([(i64 v30.1), (i64 v30.2.1), (i64 v30.2.2.1), (i64 v30.2.2.2.1), (i64 v30.2.2.2.2.1)] ++ (eI .i64 169 v30.2.2.2.2.2.1))) st 1 rfl (ov_tail (q := ([(i64 (0 : Int)), (i64 (0 : Int)), (i64 (0 : Int)), (i64 (0 : Int)), (i64 (0 : Int))] ++ (eI .i64 169 (fun _ => 0)))) (r := ([(i64 v30.1), (i64 v30.2.1), (i64 v30.2.2.1), (i64 v30.2.2.2.1), (i64 v30.2.2.2.2.1)] ++ (eI .i64 169 v30.2.2.2.2.2.1))) [] rfl (by simp [eI_len, eB_len])) (len_tail _ eI_len (by rfl)) (one_tail _ (by rfl) eI_one) hfl (fun h36 st => ?_)
    refine v_move ?_; refine r_nil ?_; refine th_n ?_; refine w_seq ?_; refine w_seq ?_; refine w_reg ?_; refine v_move ?_; refine v_nei ?_; refine r_nil ?_; refine th_n ?_; refine v_cond (fun hb37 => ?_) (fun hb37 => ?_)
    · have hF := bif_t hb37 hF; refine w_seq ?_; refine w_reg ?_; refine v_move ?_; refine v_move ?_; refine v_move ?_; refine r_nil ?_; refine th_n ?_; refine w_ret ?_; refine th_r ?_; obtain rfl := inj hF
      exact end_r st (Res.t gA (Res.t gA Res.nil)) ⟨_, _, rfl, ⟨none, 0, rfl, RowF.nil⟩, rfl⟩
    · have hF := bif_f hb37 hF; refine w_skip ?_; refine th_n ?_; refine w_seq ?_; refine w_seq ?_; refine w_reg ?_; refine v_move ?_; refine r_nil ?_; refine th_n ?_; refine v_cond (fun hb38 => ?_) (fun hb38 => ?_)
      · have hF := bif_t hb38 hF; refine w_seq ?_; refine w_drawV (Nat.le_trans hfl st.ext.le) (fun dw => ?_); refine y_pure st.d dw (fun hm vw => v_ldn (vs := ([(i64 v30.1), (i64 v30.2.1), (i64 v30.2.2.1), (i64 v30.2.2.2.1), (i64 v30.2.2.2.2.1)] ++ (eI .i64 169 v30.2.2.2.2.2.1))) (vw.bx (st.at (i := 1) rfl)) (tk_tail (E := (eI .i64 169 v30.2.2.2.2.2.1)) [] [(i64 v30.1), (i64 v30.2.1), (i64 v30.2.2.1), (i64 v30.2.2.2.1), (i64 v30.2.2.2.2.1)] rfl eI_len rfl) pr_nil) ?_; obtain ⟨v39, e40, hF⟩ := bnd_some hF; refine y_flat st.d dw (fun hm vw => u_call (ct77 N e40 vw.d (vw.sub st) ) (fun n' hn' => pf_nil hn')) (fun n41 hn' dw => ?_); refine y_end st.d dw rfl (fun h42 ex vs => ?_)
        have st := st.ext1 ex
        refine v_fld1 rfl ?_; obtain ⟨v43, e44, hF⟩ := bnd_some hF; refine v_callR st (ct76 N e44 st.d st.sub (Nat.le_trans hfl st.ext.le) ) (fun u45 F45 h45 n45 le45 rv45 st => ?_); obtain ⟨py46, cy46, rfl, ry46⟩ := rv45; refine v_move ?_; refine v_move ?_; refine r_nil ?_; refine th_n ?_; refine w_ret ?_; refine th_r ?_; obtain rfl := inj hF
        exact end_r st (Res.t gA (Res.t gA Res.nil)) ⟨_, _, rfl, ⟨_, _, rfl, ry46⟩, rfl⟩
      · have hF := bif_f hb38 hF; refine w_skip ?_; refine th_n ?_; refine w_seq ?_; refine w_drawV (Nat.le_trans hfl st.ext.le) (fun dw => ?_); refine y_pure st.d dw (fun hm vw => v_ldn (vs := ([(i64 v30.1), (i64 v30.2.1), (i64 v30.2.2.1), (i64 v30.2.2.2.1), (i64 v30.2.2.2.2.1)] ++ (eI .i64 169 v30.2.2.2.2.2.1))) (vw.bx (st.at (i := 1) rfl)) (tk_tail (E := (eI .i64 169 v30.2.2.2.2.2.1)) [] [(i64 v30.1), (i64 v30.2.1), (i64 v30.2.2.1), (i64 v30.2.2.2.1), (i64 v30.2.2.2.2.1)] rfl eI_len rfl) pr_nil) ?_; obtain ⟨v47, e48, hF⟩ := bnd_some hF; refine y_flat st.d dw (fun hm vw => u_call (ct77 N e48 vw.d (vw.sub st) ) (fun n' hn' => pf_nil hn')) (fun n49 hn' dw => ?_); refine y_end st.d dw rfl (fun h50 ex vs => ?_)
        have st := st.ext1 ex
        refine v_fld1 rfl ?_; obtain ⟨v51, e52, hF⟩ := bnd_some hF; refine v_callR st (ct76_2 N e52 st.d st.sub (Nat.le_trans hfl st.ext.le) ) (fun u53 F53 h53 n53 le53 rv53 st => ?_); obtain ⟨py54, cy54, rfl, ry54⟩ := rv53; refine v_move ?_; refine v_move ?_; refine r_nil ?_; refine th_n ?_; refine w_ret ?_; obtain rfl := inj hF
        exact end_r st (Res.t gA (Res.t gA Res.nil)) ⟨_, _, rfl, ⟨_, _, rfl, ry54⟩, rfl⟩
end Go.Hx.V

/- Functions of the program come to that. -/
namespace Go.Hx.V
open Go.Hx
set_option linter.unusedVariables false
set_option maxRecDepth 20000
set_option maxHeartbeats 4000000
attribute [local irreducible] W R C thenH inBlockH Tr.get Tr.set lo ck bnd ix iter
theorem ct11 (N : Nat) {a0_0 : Int} {a0_1 : Int} {a0_2 : Int} {a0_3 : Int} {a1 : (List Int)} {a2 : (List Int)} {r : Bool} (hF : sf11 N a0_0 a0_1 a0_2 a0_3 a1 a2 = some r) {fl : Nat} {h0 : Tr HBlk} {n0 : Nat} {F0 : PH} (hd : D h0 n0) (hs : F0.sub h0) {pa1 : Option (Nat × Nat)} {ca1 : Nat} {pa2 : Option (Nat × Nat)} {ca2 : Nat} (ra1 : RowF (rK .u16) 1 F0 pa1 ca1 a1) (ra2 : RowF (rK .u16) 1 F0 pa2 ca2 a2) : C LW fl 11 [(.agg [(i64 a0_0), (i64 a0_1), (i64 a0_2), (i64 a0_3)]), (.slice pa1 (a1).length ca1), (.slice pa2 (a2).length ca2)] ⟨h0, n0⟩ (KS (.bool r) n0 h0) := by
  unfold sf11 at hF
  refine in_cT hd hs lw11 rfl rfl (by rfl) (fun st T hT => ?_)
  have hfl : n0 ≤ n0 := Nat.le_refl n0
  have t0 := hT 0 _ rfl
  have t1 := hT 1 _ rfl
  have t2 := hT 2 _ rfl
  dsimp only [L11]
  refine w_seq ?_; refine w_reg ?_; refine v_box st (fun b1 h2 n3 st => ?_); refine v_move ?_; refine r_nil ?_; refine th_n ?_; refine w_seq ?_; refine w_seq ?_; refine w_reg ?_; refine v_ldn (vs := [(i64 a0_0), (i64 a0_1), (i64 a0_2), (i64 a0_3)]) (st.at (i := 0) rfl).2.2 rfl ?_; obtain ⟨v4, e5, hF⟩ := bnd_some hF; refine v_call st (ct25 N e5 st.d st.sub ) (fun n6 st => ?_); refine v_not ?_; refine r_nil ?_; refine th_n ?_; refine v_cond (fun hb7 => ?_) (fun hb7 => ?_)
  · have hF := bif_t hb7 hF; refine w_seq ?_; refine w_reg ?_; refine v_call st (ct_wakes (h := _) (nx := _)) (fun n8 st => ?_); refine v_move ?_; refine r_nil ?_; refine th_n ?_; refine w_ret ?_; refine th_r ?_; obtain rfl := inj hF
    exact end_s st (Res.t gA Res.nil) rfl rfl
  · have hF := bif_f hb7 hF; refine w_skip ?_; refine th_n ?_; refine w_seq ?_; refine w_drawV (Nat.le_trans hfl st.ext.le) (fun dw => ?_)
    have wf := Wf.start st
    refine y_pure st.d dw (fun hm vw => v_ldn (vs := [(i64 a0_0), (i64 a0_1), (i64 a0_2), (i64 a0_3)]) (vw.bx (st.at (i := 0) rfl)) rfl pr_nil) ?_; refine y_pure st.d dw (fun hm vw => v_ldn (vs := [(i64 a0_0), (i64 a0_1), (i64 a0_2), (i64 a0_3)]) (vw.bx (st.at (i := 0) rfl)) rfl pr_nil) ?_; refine y_pure st.d dw (fun hm vw => v_move pr_nil) ?_; obtain ⟨v9, e10, hF⟩ := bnd_some hF
    refine y_deep st dw wf (fun hm vw => u_callR (ct53 N e10 vw.d (FF.sub wf st vw) (Nat.max_le.2 ⟨by have := dw.le; have := st.ext.le; omega, Nat.le_refl _⟩) (RowF.mono FF.base ra1)) (fun v F' h' n' ex l1 l2 l3 l4 => r_nil ⟨_, _, rfl, ex, l1, l2, l3, l4⟩)) (fun u11 F11 n11 done hn' dw11 wf11 rv11 le11 => ?_)
    have wf := wf11
    have dw := dw11
    obtain ⟨py12, cy12, rfl, ry12⟩ := rv11; refine y_end st.d dw rfl (fun h13 ex vs => ?_)
    obtain ⟨F14, lt14, st⟩ := St.laidF st dw wf ex vs (Lay.nil (by have := dw.le; omega)) (fun e he => by cases he)
    have lz15 := lt14 _ (le11 (fun _ => true) rfl (fun _ _ => rfl))
    have lb14 := lt14 _ FF.base
    refine v_move ?_; obtain ⟨v16, e17, hF⟩ := bnd_some hF; refine v_callR st (ct54 N e17 st.d st.sub (Nat.le_trans hfl st.ext.le) (RowF.mono lz15 ry12) (RowF.mono lb14 ra2)) (fun u18 F18 h18 n18 le18 rv18 st => ?_)
    have le19 := PH.le.trans lb14 le18
    have le20 := PH.le.trans lz15 le18
    obtain ⟨py21, cy21, rfl, ry21⟩ := rv18; refine v_move ?_; refine r_nil ?_; refine th_n ?_; refine w_seq ?_; refine w_reg ?_; refine v_ldn (vs := [(i64 a0_0), (i64 a0_1), (i64 a0_2), (i64 a0_3)]) (st.at (i := 0) rfl).2.2 rfl ?_; obtain ⟨v22, e23, hF⟩ := bnd_some hF; refine v_call st (ct21 N e23 st.d st.sub ) (fun n24 st => ?_); refine v_move ?_; obtain ⟨v25, e26, hF⟩ := bnd_some hF; refine v_callR st (ct23 N e26 st.d st.sub (Nat.le_trans hfl st.ext.le) ry21) (fun u27 F27 h27 n27 le27 rv27 st => ?_)
    have le28 := PH.le.trans le19 le27
    have le29 := PH.le.trans le20 le27
    have le30 := PH.le.trans le18 le27
    obtain ⟨py31, cy31, rfl, ry31⟩ := rv27; obtain ⟨v32, e33, hF⟩ := bnd_some hF; refine v_callR st (ct29 N e33 st.d st.sub (Nat.le_trans hfl st.ext.le) ry31) (fun u34 F34 h34 n34 le34 rv34 st => ?_)
    have le35 := PH.le.trans le28 le34
    have le36 := PH.le.trans le29 le34
    have le37 := PH.le.trans le30 le34
    have le38 := PH.le.trans le27 le34
    obtain ⟨_, _, rfl, ⟨py39, cy39, rfl, ry39⟩, rfl⟩ := rv34; refine v_move ?_; refine v_xt rfl ?_; refine v_xt rfl ?_; refine v_move ?_; refine v_move ?_; refine r_nil ?_; refine th_n ?_; obtain ⟨y54, hA55, hF⟩ := bnd_some hF; refine w_cutD (fun T ds60 h nx => ∃ u, y54 = (.inr u) ∧ ∃ (F60 : PH), ds60 = [] ∧ PH.le F34 F60 ∧ St n0 h0 F0 F60 h nx [.bx b1 [(i64 a0_0), (i64 a0_1), (i64 a0_2), (i64 a0_3)]] ∧ T.get 3 = some (.ptr (some (b1, 0))) ∧ T.get 7 = some (.slice py21 (v16).length cy21) ∧ T.get 8 = some (.slice py39 (v32.1).length cy39)) ?_ (fun T ds60 h nx hp => ?_)
    · have hK56 := hF
      have hF := hA55; obtain ⟨y63, hA64, hF⟩ := bnd_some hF; refine w_cutD (fun T ds66 h nx => ∃ (F66 : PH), ds66 = [] ∧ PH.le F34 F66 ∧ St n0 h0 F0 F66 h nx [.bx b1 [(i64 a0_0), (i64 a0_1), (i64 a0_2), (i64 a0_3)]] ∧ T.get 3 = some (.ptr (some (b1, 0))) ∧ T.get 7 = some (.slice py21 (v16).length cy21) ∧ T.get 8 = some (.slice py39 (v32.1).length cy39) ∧ T.get 42 = some (.bool y63)) ?_ (fun T ds66 h nx hp => ?_)
      · have hK65 := hF
        have hF := hA64; refine w_reg ?_; refine v_move ?_; refine v_nei ?_; refine v_move ?_
        rcases Bool.eq_false_or_eq_true (!(decide (v32.2 = (0 : Int)))) with hb67 | hb67
        · have hF := bif_t hb67 hF; refine g_skip hb67 ?_; refine g_skip hb67 ?_; refine g_skip hb67 ?_; refine g_skip hb67 ?_; refine g_skip hb67 ?_; refine g_skip hb67 ?_; refine v_pick hb67 ?_; refine r_nil ?_; obtain rfl := inj hF; refine thn ⟨rfl, ?_⟩; dsimp only
          exact ⟨F34, rfl, (PH.le.refl _), st, gA, gA, gA, gA⟩
        · have hF := bif_f hb67 hF; refine g_take hb67 (v_move ?_); refine g_take hb67 (v_len ?_); refine g_take hb67 (v_fa ?_); refine g_take hb67 (v_ld1 (st.at (i := 0) rfl).2.2 rfl ?_); obtain ⟨q68, hF⟩ := ck_some hF; refine g_take hb67 (v_add q68 ?_); refine g_take hb67 (v_nei ?_); refine v_pick' hb67 ?_; refine r_nil ?_; obtain rfl := inj hF; refine thn ⟨rfl, ?_⟩; dsimp only
          exact ⟨F34, rfl, (PH.le.refl _), st, gA, gA, gA, gA⟩
      · obtain ⟨F66, rfl, le66, st, t3, t7, t8, t42⟩ := hp
        have le69 := PH.le.trans le35 le66
        have le70 := PH.le.trans le36 le66
        have le71 := PH.le.trans le37 le66
        have le72 := PH.le.trans le38 le66
        have le73 := PH.le.trans le34 le66
        refine v_cond (fun hb74 => ?_) (fun hb74 => ?_)
        · have hF := bif_t hb74 hF; refine w_seq ?_; refine w_reg ?_; refine v_move ?_; refine r_nil ?_; refine th_n ?_; refine w_ret ?_; obtain rfl := inj hF; have hF := hK56; have hF := sel_l hF; refine th_r ?_; obtain rfl := inj hF
          exact end_s st (Res.t gA Res.nil) rfl rfl
        · have hF := bif_f hb74 hF; refine w_skip ?_; obtain rfl := inj hF; refine thn ⟨rfl, _, rfl, ?_⟩; dsimp only
          exact ⟨F66, rfl, le66, st, gA, gA, gA⟩
    · obtain ⟨w59, rfl, F60, rfl, le60, st, t3, t7, t8⟩ := hp; have hF := sel_r hF
      have le80 := PH.le.trans le35 le60
      have le81 := PH.le.trans le36 le60
      have le82 := PH.le.trans le37 le60
      have le83 := PH.le.trans le38 le60
      have le84 := PH.le.trans le34 le60
      refine w_seq ?_; refine w_seq ?_; refine w_reg ?_; refine v_move ?_; refine r_nil ?_; refine th_n ?_; refine w_block ?_; obtain ⟨y217, hy, hF⟩ := bnd_some hF; refine v_loopD (sf11_L1 N a0_0 a0_1 a0_2 a0_3 v16 v32) (fun x85 T ds86 h nx => ∃ (F86 : PH), ds86 = [] ∧ PH.le F60 F86 ∧ St n0 h0 F0 F86 h nx [.bx b1 [(i64 a0_0), (i64 a0_1), (i64 a0_2), (i64 a0_3)]] ∧ T.get 3 = some (.ptr (some (b1, 0))) ∧ T.get 7 = some (.slice py21 (v16).length cy21) ∧ T.get 8 = some (.slice py39 (v32.1).length cy39) ∧ T.get 10 = some (i64 x85)) (fun y e a σ => (∃ u, y = (.inl u) ∧ e = .ret ∧ a.nt = 110 ∧ ∃ (F219 : PH), a.defers = [] ∧ PH.le F60 F219 ∧ St n0 h0 F0 F219 σ.h σ.nx [.bx b1 [(i64 a0_0), (i64 a0_1), (i64 a0_2), (i64 a0_3)]] ∧ a.tmps.get 6 = some (.bool false)) ∨ (∃ u, y = (.inr u) ∧ e = .exit 0 ∧ a.nt = 110 ∧ ∃ (F221 : PH), a.defers = [] ∧ PH.le F60 F221 ∧ St n0 h0 F0 F221 σ.h σ.nx [.bx b1 [(i64 a0_0), (i64 a0_1), (i64 a0_2), (i64 a0_3)]])) (fun x85 T ds86 h nx s hp hF => ?_) N _ y217 _ _ _ _ hy ⟨F60, rfl, (PH.le.refl _), st, gA, gA, gA, gA⟩ (fun e a σ hne hq => ?_)
      · obtain ⟨F86, rfl, le86, st, t3, t7, t8, t10⟩ := hp
        have le87 := PH.le.trans le80 le86
        have le88 := PH.le.trans le81 le86
        have le89 := PH.le.trans le82 le86
        have le90 := PH.le.trans le83 le86
        have le91 := PH.le.trans le84 le86
        have le92 := PH.le.trans le60 le86
        unfold sf11_L1 at hF; unfold L11w0; refine w_seq ?_; refine w_seq ?_; refine w_reg ?_; refine v_move ?_; refine v_fa ?_; refine v_ld1 (st.at (i := 0) rfl).2.2 rfl ?_; refine v_leq ?_; refine r_nil ?_; refine th_n ?_; refine v_cond (fun hb222 => ?_) (fun hb222 => ?_)
        · have hF := bif_t hb222 hF; refine w_skip ?_; refine th_n ?_; refine w_seq ?_; refine w_block ?_; refine w_seq ?_; refine w_reg ?_; refine v_ldn (vs := [(i64 a0_0), (i64 a0_1), (i64 a0_2), (i64 a0_3)]) (st.at (i := 0) rfl).2.2 rfl ?_; obtain ⟨v223, e224, hF⟩ := bnd_some hF; refine v_call st (ct21 N e224 st.d st.sub ) (fun n225 st => ?_); refine v_move ?_; obtain ⟨v226, e227, hF⟩ := bnd_some hF; refine v_callR st (ct23 N e227 st.d st.sub (Nat.le_trans hfl st.ext.le) (RowF.mono le90 ry21)) (fun u228 F228 h228 n228 le228 rv228 st => ?_)
          have le229 := PH.le.trans le87 le228
          have le230 := PH.le.trans le88 le228
          have le231 := PH.le.trans le89 le228
          have le232 := PH.le.trans le90 le228
          have le233 := PH.le.trans le91 le228
          have le234 := PH.le.trans le92 le228
          have le235 := PH.le.trans le86 le228
          obtain ⟨py236, cy236, rfl, ry236⟩ := rv228; refine v_move ?_; obtain ⟨v237, e238, hF⟩ := bnd_some hF; refine v_callR st (ct36 N e238 st.d st.sub (Nat.le_trans hfl st.ext.le) ry236) (fun u239 F239 h239 n239 le239 rv239 st => ?_)
          have le240 := PH.le.trans le229 le239
          have le241 := PH.le.trans le230 le239
          have le242 := PH.le.trans le231 le239
          have le243 := PH.le.trans le232 le239
          have le244 := PH.le.trans le233 le239
          have le245 := PH.le.trans le234 le239
          have le246 := PH.le.trans le235 le239
          have le247 := PH.le.trans le228 le239
          obtain ⟨_, _, rfl, ⟨py248, cy248, rfl, ry248⟩, rfl⟩ := rv239; refine v_move ?_; refine v_xt rfl ?_; refine v_xt rfl ?_; refine v_move ?_; refine v_move ?_; refine r_nil ?_; refine th_n ?_; refine w_seq ?_; refine w_reg ?_; refine v_ldn (vs := [(i64 a0_0), (i64 a0_1), (i64 a0_2), (i64 a0_3)]) (st.at (i := 0) rfl).2.2 rfl ?_; obtain ⟨v249, e250, hF⟩ := bnd_some hF; refine v_call st (ct21 N e250 st.d st.sub ) (fun n251 st => ?_); refine v_move ?_; obtain ⟨v252, e253, hF⟩ := bnd_some hF; refine v_callR st (ct23 N e253 st.d st.sub (Nat.le_trans hfl st.ext.le) (RowF.mono le243 ry21)) (fun u254 F254 h254 n254 le254 rv254 st => ?_)
          have le255 := PH.le.trans le240 le254
          have le256 := PH.le.trans le241 le254
          have le257 := PH.le.trans le242 le254
          have le258 := PH.le.trans le243 le254
          have le259 := PH.le.trans le244 le254
          have le260 := PH.le.trans le245 le254
          have le261 := PH.le.trans le246 le254
          have le262 := PH.le.trans le247 le254
          have le263 := PH.le.trans le239 le254
          obtain ⟨py264, cy264, rfl, ry264⟩ := rv254; refine v_move ?_; obtain ⟨v265, e266, hF⟩ := bnd_some hF; refine v_callR st (ct36 N e266 st.d st.sub (Nat.le_trans hfl st.ext.le) ry264) (fun u267 F267 h267 n267 le267 rv267 st => ?_)
          have le268 := PH.le.trans le255 le267
          have le269 := PH.le.trans le256 le267
          have le270 := PH.le.trans le257 le267
          have le271 := PH.le.trans le258 le267
          have le272 := PH.le.trans le259 le267
          have le273 := PH.le.trans le260 le267
          have le274 := PH.le.trans le261 le267
          have le275 := PH.le.trans le262 le267
          have le276 := PH.le.trans le263 le267
          have le277 := PH.le.trans le254 le267
          obtain ⟨_, _, rfl, ⟨py278, cy278, rfl, ry278⟩, rfl⟩ := rv267; refine v_move ?_; refine v_xt rfl ?_; refine v_xt rfl ?_; refine v_move ?_; refine v_move ?_; refine r_nil ?_; refine th_n ?_; obtain ⟨y304, hA305, hF⟩ := bnd_some hF; refine w_cutD (fun T ds307 h nx => ∃ (F307 : PH), ds307 = [] ∧ PH.le F267 F307 ∧ St n0 h0 F0 F307 h nx [.bx b1 [(i64 a0_0), (i64 a0_1), (i64 a0_2), (i64 a0_3)]] ∧ T.get 3 = some (.ptr (some (b1, 0))) ∧ T.get 7 = some (.slice py21 (v16).length cy21) ∧ T.get 8 = some (.slice py39 (v32.1).length cy39) ∧ T.get 10 = some (i64 x85) ∧ T.get 108 = some (.bool y304)) ?_ (fun T ds307 h nx hp => ?_)
          · have hK306 := hF
            have hF := hA305; refine w_drawV (Nat.le_trans hfl st.ext.le) (fun dw => ?_); refine y_pure st.d dw (fun hm vw => v_move pr_nil) ?_; refine y_pure st.d dw (fun hm vw => v_nei pr_nil) ?_; refine y_pure st.d dw (fun hm vw => v_move pr_nil) ?_
            rcases Bool.eq_false_or_eq_true (!(decide (v237.2 = (0 : Int)))) with hb308 | hb308
            · have hF := bif_t hb308 hF; refine y_pure st.d dw (fun hm vw => g_skip hb308 pr_nil) ?_; refine y_pure st.d dw (fun hm vw => g_skip hb308 pr_nil) ?_; refine y_pure st.d dw (fun hm vw => v_pick hb308 pr_nil) ?_; refine y_pure st.d dw (fun hm vw => v_move pr_nil) ?_; refine y_pure st.d dw (fun hm vw => g_skip rfl pr_nil) ?_; refine y_pure st.d dw (fun hm vw => g_skip rfl pr_nil) ?_; refine y_pure st.d dw (fun hm vw => g_skip rfl pr_nil) ?_; refine y_pure st.d dw (fun hm vw => g_skip rfl pr_nil) ?_; refine y_pure st.d dw (fun hm vw => g_skip rfl pr_nil) ?_; refine y_pure st.d dw (fun hm vw => v_pick rfl pr_nil) ?_; refine y_pure st.d dw (fun hm vw => v_move pr_nil) ?_; refine y_pure st.d dw (fun hm vw => g_skip rfl pr_nil) ?_
              refine y_pure st.d dw (fun hm vw => g_skip rfl pr_nil) ?_; refine y_pure st.d dw (fun hm vw => g_skip rfl pr_nil) ?_; refine y_pure st.d dw (fun hm vw => g_skip rfl pr_nil) ?_; refine y_pure st.d dw (fun hm vw => g_skip rfl pr_nil) ?_; refine y_pure st.d dw (fun hm vw => v_pick rfl pr_nil) ?_; refine y_pure st.d dw (fun hm vw => v_move pr_nil) ?_; refine y_pure st.d dw (fun hm vw => g_skip rfl pr_nil) ?_; refine y_pure st.d dw (fun hm vw => g_skip rfl pr_nil) ?_; refine y_pure st.d dw (fun hm vw => g_skip rfl pr_nil) ?_; refine y_pure st.d dw (fun hm vw => g_skip rfl pr_nil) ?_; refine y_pure st.d dw (fun hm vw => g_skip rfl pr_nil) ?_; refine y_pure st.d dw (fun hm vw => g_skip rfl pr_nil) ?_
              refine y_pure st.d dw (fun hm vw => g_skip rfl pr_nil) ?_; refine y_pure st.d dw (fun hm vw => g_skip rfl pr_nil) ?_; refine y_pure st.d dw (fun hm vw => g_skip rfl pr_nil) ?_; refine y_pure st.d dw (fun hm vw => v_pick rfl pr_nil) ?_; refine y_pure st.d dw (fun hm vw => v_move pr_nil) ?_; refine y_pure st.d dw (fun hm vw => g_skip rfl pr_nil) ?_; refine y_pure st.d dw (fun hm vw => g_skip rfl pr_nil) ?_; refine y_pure st.d dw (fun hm vw => g_skip rfl pr_nil) ?_; refine y_pure st.d dw (fun hm vw => g_skip rfl pr_nil) ?_; refine y_pure st.d dw (fun hm vw => g_skip rfl pr_nil) ?_; refine y_pure st.d dw (fun hm vw => g_skip rfl pr_nil) ?_; refine y_pure st.d dw (fun hm vw => g_skip rfl pr_nil) ?_
              refine y_pure st.d dw (fun hm vw => g_skip rfl pr_nil) ?_; refine y_end st.d dw rfl (fun h309 ex vs => ?_)
              have st := st.ext1 ex
              refine g_skip rfl ?_; refine v_pick rfl ?_; refine r_nil ?_; obtain rfl := inj hF; refine thn ⟨rfl, ?_⟩; dsimp only
              exact ⟨F267, rfl, (PH.le.refl _), st, gA, gA, gA, gA, gA⟩
            · have hF := bif_f hb308 hF; refine y_pure st.d dw (fun hm vw => g_take hb308 (v_move pr_nil)) ?_; refine y_pure st.d dw (fun hm vw => g_take hb308 (v_nei pr_nil)) ?_; refine y_pure st.d dw (fun hm vw => v_pick' hb308 pr_nil) ?_; refine y_pure st.d dw (fun hm vw => v_move pr_nil) ?_
              rcases Bool.eq_false_or_eq_true (!(decide (v265.2 = (0 : Int)))) with hb310 | hb310
              · have hF := bif_t hb310 hF; refine y_pure st.d dw (fun hm vw => g_skip hb310 pr_nil) ?_; refine y_pure st.d dw (fun hm vw => g_skip hb310 pr_nil) ?_; refine y_pure st.d dw (fun hm vw => g_skip hb310 pr_nil) ?_; refine y_pure st.d dw (fun hm vw => g_skip hb310 pr_nil) ?_; refine y_pure st.d dw (fun hm vw => g_skip hb310 pr_nil) ?_; refine y_pure st.d dw (fun hm vw => v_pick hb310 pr_nil) ?_; refine y_pure st.d dw (fun hm vw => v_move pr_nil) ?_; refine y_pure st.d dw (fun hm vw => g_skip rfl pr_nil) ?_; refine y_pure st.d dw (fun hm vw => g_skip rfl pr_nil) ?_; refine y_pure st.d dw (fun hm vw => g_skip rfl pr_nil) ?_; refine y_pure st.d dw (fun hm vw => g_skip rfl pr_nil) ?_; refine y_pure st.d dw (fun hm vw => g_skip rfl pr_nil) ?_
                refine y_pure st.d dw (fun hm vw => v_pick rfl pr_nil) ?_; refine y_pure st.d dw (fun hm vw => v_move pr_nil) ?_; refine y_pure st.d dw (fun hm vw => g_skip rfl pr_nil) ?_; refine y_pure st.d dw (fun hm vw => g_skip rfl pr_nil) ?_; refine y_pure st.d dw (fun hm vw => g_skip rfl pr_nil) ?_; refine y_pure st.d dw (fun hm vw => g_skip rfl pr_nil) ?_; refine y_pure st.d dw (fun hm vw => g_skip rfl pr_nil) ?_; refine y_pure st.d dw (fun hm vw => g_skip rfl pr_nil) ?_; refine y_pure st.d dw (fun hm vw => g_skip rfl pr_nil) ?_; refine y_pure st.d dw (fun hm vw => g_skip rfl pr_nil) ?_; refine y_pure st.d dw (fun hm vw => g_skip rfl pr_nil) ?_; refine y_pure st.d dw (fun hm vw => v_pick rfl pr_nil) ?_
                refine y_pure st.d dw (fun hm vw => v_move pr_nil) ?_; refine y_pure st.d dw (fun hm vw => g_skip rfl pr_nil) ?_; refine y_pure st.d dw (fun hm vw => g_skip rfl pr_nil) ?_; refine y_pure st.d dw (fun hm vw => g_skip rfl pr_nil) ?_; refine y_pure st.d dw (fun hm vw => g_skip rfl pr_nil) ?_; refine y_pure st.d dw (fun hm vw => g_skip rfl pr_nil) ?_; refine y_pure st.d dw (fun hm vw => g_skip rfl pr_nil) ?_; refine y_pure st.d dw (fun hm vw => g_skip rfl pr_nil) ?_; refine y_pure st.d dw (fun hm vw => g_skip rfl pr_nil) ?_; refine y_end st.d dw rfl (fun h311 ex vs => ?_)
                have st := st.ext1 ex
                refine g_skip rfl ?_; refine v_pick rfl ?_; refine r_nil ?_; obtain rfl := inj hF; refine thn ⟨rfl, ?_⟩; dsimp only
                exact ⟨F267, rfl, (PH.le.refl _), st, gA, gA, gA, gA, gA⟩
              · have hF := bif_f hb310 hF; refine y_pure st.d dw (fun hm vw => g_take hb310 (v_ldn (vs := [(i64 a0_0), (i64 a0_1), (i64 a0_2), (i64 a0_3)]) (vw.bx (st.at (i := 0) rfl)) rfl pr_nil)) ?_; refine y_pure st.d dw (fun hm vw => g_take hb310 (v_move pr_nil)) ?_; refine y_pure st.d dw (fun hm vw => g_take hb310 (v_move pr_nil)) ?_; obtain ⟨v312, e313, hF⟩ := bnd_some hF; refine y_flat st.d dw (fun hm vw => g_take hb310 (u_call (ct27 N e313 vw.d (vw.sub st) (RowF.mono le271 ry21) (RowF.mono le277 ry248)) (fun n' hn' => pf_nil hn'))) (fun n314 hn' dw => ?_); refine y_pure st.d dw (fun hm vw => g_take hb310 (v_not pr_nil)) ?_; refine y_pure st.d dw (fun hm vw => v_pick' hb310 pr_nil) ?_
                refine y_pure st.d dw (fun hm vw => v_move pr_nil) ?_
                rcases Bool.eq_false_or_eq_true (!v312) with hb315 | hb315
                · have hF := bif_t hb315 hF; refine y_pure st.d dw (fun hm vw => g_skip hb315 pr_nil) ?_; refine y_pure st.d dw (fun hm vw => g_skip hb315 pr_nil) ?_; refine y_pure st.d dw (fun hm vw => g_skip hb315 pr_nil) ?_; refine y_pure st.d dw (fun hm vw => g_skip hb315 pr_nil) ?_; refine y_pure st.d dw (fun hm vw => g_skip hb315 pr_nil) ?_; refine y_pure st.d dw (fun hm vw => v_pick hb315 pr_nil) ?_; refine y_pure st.d dw (fun hm vw => v_move pr_nil) ?_; refine y_pure st.d dw (fun hm vw => g_skip rfl pr_nil) ?_; refine y_pure st.d dw (fun hm vw => g_skip rfl pr_nil) ?_; refine y_pure st.d dw (fun hm vw => g_skip rfl pr_nil) ?_; refine y_pure st.d dw (fun hm vw => g_skip rfl pr_nil) ?_
                  refine y_pure st.d dw (fun hm vw => g_skip rfl pr_nil) ?_; refine y_pure st.d dw (fun hm vw => g_skip rfl pr_nil) ?_; refine y_pure st.d dw (fun hm vw => g_skip rfl pr_nil) ?_; refine y_pure st.d dw (fun hm vw => g_skip rfl pr_nil) ?_; refine y_pure st.d dw (fun hm vw => g_skip rfl pr_nil) ?_; refine y_pure st.d dw (fun hm vw => v_pick rfl pr_nil) ?_; refine y_pure st.d dw (fun hm vw => v_move pr_nil) ?_; refine y_pure st.d dw (fun hm vw => g_skip rfl pr_nil) ?_; refine y_pure st.d dw (fun hm vw => g_skip rfl pr_nil) ?_; refine y_pure st.d dw (fun hm vw => g_skip rfl pr_nil) ?_; refine y_pure st.d dw (fun hm vw => g_skip rfl pr_nil) ?_; refine y_pure st.d dw (fun hm vw => g_skip rfl pr_nil) ?_
                  refine y_pure st.d dw (fun hm vw => g_skip rfl pr_nil) ?_; refine y_pure st.d dw (fun hm vw => g_skip rfl pr_nil) ?_; refine y_pure st.d dw (fun hm vw => g_skip rfl pr_nil) ?_; refine y_end st.d dw rfl (fun h316 ex vs => ?_)
                  have st := st.ext1 ex
                  refine g_skip rfl ?_; refine v_pick rfl ?_; refine r_nil ?_; obtain rfl := inj hF; refine thn ⟨rfl, ?_⟩; dsimp only
                  exact ⟨F267, rfl, (PH.le.refl _), st, gA, gA, gA, gA, gA⟩
                · have hF := bif_f hb315 hF; refine y_pure st.d dw (fun hm vw => g_take hb315 (v_ldn (vs := [(i64 a0_0), (i64 a0_1), (i64 a0_2), (i64 a0_3)]) (vw.bx (st.at (i := 0) rfl)) rfl pr_nil)) ?_; refine y_pure st.d dw (fun hm vw => g_take hb315 (v_move pr_nil)) ?_; refine y_pure st.d dw (fun hm vw => g_take hb315 (v_move pr_nil)) ?_; obtain ⟨v317, e318, hF⟩ := bnd_some hF; refine y_flat st.d dw (fun hm vw => g_take hb315 (u_call (ct27 N e318 vw.d (vw.sub st) (RowF.mono le271 ry21) ry278) (fun n' hn' => pf_nil hn'))) (fun n319 hn' dw => ?_); refine y_pure st.d dw (fun hm vw => g_take hb315 (v_not pr_nil)) ?_; refine y_pure st.d dw (fun hm vw => v_pick' hb315 pr_nil) ?_; refine y_pure st.d dw (fun hm vw => v_move pr_nil) ?_
                  rcases Bool.eq_false_or_eq_true (!v317) with hb320 | hb320
                  · have hF := bif_t hb320 hF; refine y_pure st.d dw (fun hm vw => g_skip hb320 pr_nil) ?_; refine y_pure st.d dw (fun hm vw => g_skip hb320 pr_nil) ?_; refine y_pure st.d dw (fun hm vw => g_skip hb320 pr_nil) ?_; refine y_pure st.d dw (fun hm vw => g_skip hb320 pr_nil) ?_; refine y_pure st.d dw (fun hm vw => g_skip hb320 pr_nil) ?_; refine y_pure st.d dw (fun hm vw => g_skip hb320 pr_nil) ?_; refine y_pure st.d dw (fun hm vw => g_skip hb320 pr_nil) ?_; refine y_pure st.d dw (fun hm vw => g_skip hb320 pr_nil) ?_; refine y_pure st.d dw (fun hm vw => g_skip hb320 pr_nil) ?_; refine y_pure st.d dw (fun hm vw => v_pick hb320 pr_nil) ?_; refine y_pure st.d dw (fun hm vw => v_move pr_nil) ?_
                    refine y_pure st.d dw (fun hm vw => g_skip rfl pr_nil) ?_; refine y_pure st.d dw (fun hm vw => g_skip rfl pr_nil) ?_; refine y_pure st.d dw (fun hm vw => g_skip rfl pr_nil) ?_; refine y_pure st.d dw (fun hm vw => g_skip rfl pr_nil) ?_; refine y_pure st.d dw (fun hm vw => g_skip rfl pr_nil) ?_; refine y_pure st.d dw (fun hm vw => g_skip rfl pr_nil) ?_; refine y_pure st.d dw (fun hm vw => g_skip rfl pr_nil) ?_; refine y_pure st.d dw (fun hm vw => g_skip rfl pr_nil) ?_; refine y_end st.d dw rfl (fun h321 ex vs => ?_)
                    have st := st.ext1 ex
                    refine g_skip rfl ?_; refine v_pick rfl ?_; refine r_nil ?_; obtain rfl := inj hF; refine thn ⟨rfl, ?_⟩; dsimp only
                    exact ⟨F267, rfl, (PH.le.refl _), st, gA, gA, gA, gA, gA⟩
                  · have hF := bif_f hb320 hF; refine y_pure st.d dw (fun hm vw => g_take hb320 (v_move pr_nil)) ?_; refine y_pure st.d dw (fun hm vw => g_take hb320 (v_move pr_nil)) ?_; obtain ⟨v322, e323, hF⟩ := bnd_some hF; refine y_flat st.d dw (fun hm vw => g_take hb320 (u_call (ct38 N e323 vw.d (vw.sub st) (RowF.mono le277 ry248)) (fun n' hn' => pf_nil hn'))) (fun n324 hn' dw => ?_); refine y_pure st.d dw (fun hm vw => g_take hb320 (v_move pr_nil)) ?_; refine y_pure st.d dw (fun hm vw => g_take hb320 (v_move pr_nil)) ?_; obtain ⟨n325, x325, z325, l325, g325, hF⟩ := ix_some hF; obtain ⟨b325, o325, s325, j325, r325, e325, f325, k325, ⟨_, _, rfl, rfl, rfl⟩⟩ := RowF.get ry39 g325; refine y_pure st.d dw (fun hm vw => g_take hb320 (v_ixp e325 z325 l325 pr_nil)) ?_
                    refine y_pure st.d dw (fun hm vw => g_take hb320 (v_fa pr_nil)) ?_; refine y_pure st.d dw (fun hm vw => g_take hb320 (v_ld1 (vw.fz st (le273 _ _ f325)) (take_at (j := 0) k325 rfl) pr_nil)) ?_; refine y_pure st.d dw (fun hm vw => g_take hb320 (v_nei pr_nil)) ?_; refine y_pure st.d dw (fun hm vw => v_pick' hb320 pr_nil) ?_; refine y_pure st.d dw (fun hm vw => v_move pr_nil) ?_
                    rcases Bool.eq_false_or_eq_true (!(decide (v322 = x325.1))) with hb326 | hb326
                    · have hF := bif_t hb326 hF; refine y_pure st.d dw (fun hm vw => g_skip hb326 pr_nil) ?_; refine y_pure st.d dw (fun hm vw => g_skip hb326 pr_nil) ?_; refine y_pure st.d dw (fun hm vw => g_skip hb326 pr_nil) ?_; refine y_pure st.d dw (fun hm vw => g_skip hb326 pr_nil) ?_; refine y_pure st.d dw (fun hm vw => g_skip hb326 pr_nil) ?_; refine y_pure st.d dw (fun hm vw => g_skip hb326 pr_nil) ?_; refine y_pure st.d dw (fun hm vw => g_skip hb326 pr_nil) ?_; refine y_pure st.d dw (fun hm vw => g_skip hb326 pr_nil) ?_; refine y_end st.d dw rfl (fun h327 ex vs => ?_)
                      have st := st.ext1 ex
                      refine g_skip hb326 ?_; refine v_pick hb326 ?_; refine r_nil ?_; obtain rfl := inj hF; refine thn ⟨rfl, ?_⟩; dsimp only
                      exact ⟨F267, rfl, (PH.le.refl _), st, gA, gA, gA, gA, gA⟩
                    · have hF := bif_f hb326 hF; refine y_pure st.d dw (fun hm vw => g_take hb326 (v_move pr_nil)) ?_; refine y_pure st.d dw (fun hm vw => g_take hb326 (v_move pr_nil)) ?_; obtain ⟨v328, e329, hF⟩ := bnd_some hF; refine y_flat st.d dw (fun hm vw => g_take hb326 (u_call (ct38 N e329 vw.d (vw.sub st) ry278) (fun n' hn' => pf_nil hn'))) (fun n330 hn' dw => ?_); refine y_pure st.d dw (fun hm vw => g_take hb326 (v_move pr_nil)) ?_; refine y_pure st.d dw (fun hm vw => g_take hb326 (v_move pr_nil)) ?_; obtain ⟨n331, x331, z331, l331, g331, hF⟩ := ix_some hF; obtain ⟨b331, o331, s331, j331, r331, e331, f331, k331, ⟨_, _, rfl, rfl, rfl⟩⟩ := RowF.get ry39 g331; refine y_pure st.d dw (fun hm vw => g_take hb326 (v_ixp e331 z331 l331 pr_nil)) ?_
                      refine y_pure st.d dw (fun hm vw => g_take hb326 (v_fa pr_nil)) ?_; refine y_pure st.d dw (fun hm vw => g_take hb326 (v_ld1 (vw.fz st (le273 _ _ f331)) (take_at (j := 1) k331 rfl) pr_nil)) ?_; refine y_end st.d dw rfl (fun h332 ex vs => ?_)
                      have st := st.ext1 ex
                      refine g_take hb326 (v_nei ?_); refine v_pick' hb326 ?_; refine r_nil ?_; obtain rfl := inj hF; refine thn ⟨rfl, ?_⟩; dsimp only
                      exact ⟨F267, rfl, (PH.le.refl _), st, gA, gA, gA, gA, gA⟩
          · obtain ⟨F307, rfl, le307, st, t3, t7, t8, t10, t108⟩ := hp
            have le333 := PH.le.trans le268 le307
            have le334 := PH.le.trans le269 le307
            have le335 := PH.le.trans le270 le307
            have le336 := PH.le.trans le271 le307
            have le337 := PH.le.trans le272 le307
            have le338 := PH.le.trans le273 le307
            have le339 := PH.le.trans le274 le307
            have le340 := PH.le.trans le275 le307
            have le341 := PH.le.trans le276 le307
            have le342 := PH.le.trans le277 le307
            have le343 := PH.le.trans le267 le307
            refine v_cond (fun hb344 => ?_) (fun hb344 => ?_)
            · have hF := bif_t hb344 hF; refine w_seq ?_; refine w_reg ?_; refine v_move ?_; refine r_nil ?_; refine th_n ?_; refine w_ret ?_; refine ib_r ?_; refine th_r ?_; refine th_r ?_; refine ⟨_, (inj hF).symm, .inl ⟨_, rfl, rfl, rfl, ?_⟩⟩; dsimp only
              exact ⟨F307, rfl, le339, st, gA⟩
            · have hF := bif_f hb344 hF; refine w_skip ?_; refine ib_n ?_; refine th_n ?_; refine w_reg ?_; refine v_move ?_; obtain ⟨q345, hF⟩ := ck_some hF; refine v_add q345 ?_; refine v_move ?_; refine r_nil ?_; refine thn ⟨_, (inj hF).symm, rfl, ?_⟩; dsimp only
              exact ⟨F307, rfl, le339, st, gA, gA, gA, gA⟩
        · have hF := bif_f hb222 hF; refine w_exit ?_; refine th_e ?_; refine th_e ?_; refine ⟨_, (inj hF).symm, .inr (⟨_, rfl, rfl, rfl, ?_⟩)⟩; dsimp only
          exact ⟨F86, rfl, le86, st⟩
      · rcases hq with hq | hq
        · obtain ⟨N9, T, ds219⟩ := a; obtain ⟨h352, n353⟩ := σ; obtain ⟨w218, rfl, rfl, e1, F219, e2, le219, st, t6⟩ := hq
          dsimp only at e1 e2
          subst e1
          subst e2
          dsimp only at st t6
          have le346 := PH.le.trans le80 le219
          have le347 := PH.le.trans le81 le219
          have le348 := PH.le.trans le82 le219
          have le349 := PH.le.trans le83 le219
          have le350 := PH.le.trans le84 le219
          have le351 := PH.le.trans le60 le219
          have hF := sel_l hF; refine ib_r ?_; refine th_r ?_; obtain rfl := inj hF
          exact end_s st (Res.t gA Res.nil) rfl rfl
        · obtain ⟨N9, T, ds221⟩ := a; obtain ⟨h360, n361⟩ := σ; obtain ⟨w220, rfl, rfl, e1, F221, e2, le221, st⟩ := hq
          dsimp only at e1 e2
          subst e1
          subst e2
          dsimp only at st
          have le354 := PH.le.trans le80 le221
          have le355 := PH.le.trans le81 le221
          have le356 := PH.le.trans le82 le221
          have le357 := PH.le.trans le83 le221
          have le358 := PH.le.trans le84 le221
          have le359 := PH.le.trans le60 le221
          have hF := sel_r hF; refine ib_e ?_; refine th_n ?_; refine w_seq ?_; refine w_reg ?_; refine v_call st (ct_wakes (h := _) (nx := _)) (fun n362 st => ?_); refine v_move ?_; refine r_nil ?_; refine th_n ?_; refine w_ret ?_; obtain rfl := inj hF
          exact end_s st (Res.t gA Res.nil) rfl rfl
end Go.Hx.V

/- Functions of the program come to that. -/
namespace Go.Hx.V
open Go.Hx
set_option linter.unusedVariables false
set_option maxRecDepth 20000
set_option maxHeartbeats 4000000
attribute [local irreducible] W R C thenH inBlockH Tr.get Tr.set lo ck bnd ix iter
end Go.Hx.V

/- Functions of the program come to that. -/
namespace Go.Hx.V
open Go.Hx
set_option linter.unusedVariables false
set_option maxRecDepth 20000
set_option maxHeartbeats 4000000
attribute [local irreducible] W R C thenH inBlockH Tr.get Tr.set lo ck bnd ix iter
end Go.Hx.V


/- Loops of functions on lists and numbers: what they come to. -/
namespace Go.Hx.V
open Go.Hx
theorem iter_ind {α β : Type} {step : α → Option (α ⊕ β)} (P : α → Prop) (m : α → Nat) (Y : β → Prop)
    (h : ∀ x, P x → (∃ x', step x = some (.inl x') ∧ P x' ∧ m x' < m x) ∨ ∃ y, step x = some (.inr y) ∧ Y y) : ∀ (N : Nat) (x : α), P x → m x < N → ∃ y, iter step N x = some y ∧ Y y
  | 0, x, hp, hm => by omega
  | N + 1, x, hp, hm => by
    unfold iter
    rcases h x hp with ⟨x', e, hp', hm'⟩ | ⟨y, e, hy⟩
    · rw [e]; exact iter_ind P m Y h N x' hp' (by omega)
    · rw [e]; exact ⟨y, rfl, hy⟩
theorem iter_run {α β : Type} {step : α → Option (α ⊕ β)} (s : Nat → α) (y : β) : ∀ (n i N : Nat), (∀ j, i ≤ j → j < i + n → step (s j) = some (.inl (s (j + 1)))) → step (s (i + n)) = some (.inr y) → n < N → iter step N (s i) = some y
  | 0, i, N, hs, he, hN => by
    obtain ⟨N, rfl⟩ : ∃ k, N = k + 1 := ⟨N - 1, by omega⟩
    unfold iter; rw [Nat.add_zero] at he; rw [he]; rfl
  | n + 1, i, N, hs, he, hN => by
    obtain ⟨N, rfl⟩ : ∃ k, N = k + 1 := ⟨N - 1, by omega⟩
    unfold iter
    rw [hs i (by omega) (by omega)]
    exact iter_run s y n (i + 1) N (fun j h1 h2 => hs j (by omega) (by omega)) (by rw [show i + 1 + n = i + (n + 1) by omega]; exact he) (by omega)
/-- A loop from 0 on. -/
theorem iter_up {α β : Type} {step : α → Option (α ⊕ β)} {x : α} {N : Nat} (s : Nat → α) (n : Nat) (y : β) (hx : x = s 0) (hs : ∀ j, j < n → step (s j) = some (.inl (s (j + 1)))) (he : step (s n) = some (.inr y)) (hN : n < N) : iter step N x = some y := by
  subst hx
  exact iter_run s y n 0 N (fun j _ h2 => hs j (by omega)) (by rw [Nat.zero_add]; exact he) hN
/-- A loop that ends early, or not. -/
theorem iter_all {α β : Type} {step : α → Option (α ⊕ β)} {x : α} {N : Nat} (s : Nat → α) (n : Nat) (p : Nat → Prop) [DecidablePred p] (good bad : β) (hx : x = s 0) (hs : ∀ j, j < n → p j → step (s j) = some (.inl (s (j + 1)))) (hf : ∀ j, j < n → ¬ p j → step (s j) = some (.inr bad)) (he : step (s n) = some (.inr good)) (hN : n < N) :
    ((∀ j, j < n → p j) ∧ iter step N x = some good) ∨ (¬ (∀ j, j < n → p j) ∧ iter step N x = some bad) := by
  by_cases h : ∀ j, j < n → p j
  · exact .inl ⟨h, iter_up s n good hx (fun j hj => hs j hj (h j hj)) he hN⟩
  · refine .inr ⟨h, ?_⟩
    have h1 : ∃ j, j < n ∧ ¬ p j := by
      refine Classical.byContradiction fun hc => h fun j hj => Classical.byContradiction fun hp => hc ⟨j, hj, hp⟩
    -- the first one
    obtain ⟨j, hj, hp, hmin⟩ : ∃ j, j < n ∧ ¬ p j ∧ ∀ i, i < j → p i := by
      obtain ⟨j, hj⟩ := h1
      induction j using Nat.strongRecOn with
      | ind j ih =>
        by_cases g : ∀ i, i < j → p i
        · exact ⟨j, hj.1, hj.2, g⟩
        · have : ∃ i, i < j ∧ ¬ p i := Classical.byContradiction fun hc => g fun i hi => Classical.byContradiction fun hp => hc ⟨i, hi, hp⟩
          obtain ⟨i, hi, hpi⟩ := this
          exact ih i hi ⟨by omega, hpi⟩
    exact iter_up s j bad hx (fun i hi => hs i (by omega) (hmin i hi)) (hf j hj hp) (by omega)
theorem ix_at {α β : Type} {l : List α} {j : Int} {n : Nat} {x : α} {k : α → Option β} (hj : j = n) (h : l[n]? = some x) : ix l j k = k x := by
  subst hj; exact ix_pos h
theorem lt_some {α : Type} {l : List α} {n : Nat} (h : n < l.length) : l[n]? = some l[n] := List.getElem?_eq_getElem h
theorem some_lt {α : Type} {l : List α} {n : Nat} {x : α} (h : l[n]? = some x) : n < l.length := by
  rcases Nat.lt_or_ge n l.length with g | g
  · exact g
  · rw [List.getElem?_eq_none g] at h; cases h
theorem take_succ' {α : Type} {l : List α} {n : Nat} {x : α} (h : l[n]? = some x) : l.take (n + 1) = l.take n ++ [x] := by
  rw [List.take_add_one, h]; rfl
end Go.Hx.V

/- Bore: what a limit makes of what is known, by the functions on lists and numbers. -/
namespace Go.Hx.V
open Go.Hx
set_option linter.unusedVariables false
def lI (T f g m : Int) (x y : Int × (Nat → Int)) : Option ((Int × (Nat → Int)) ⊕ (Nat → Int)) :=
  (bif (decide (y.1 < T)) then (ck (0 ≤ g ∧ g < 13) ((ck (0 ≤ y.1 ∧ y.1 < 13) ((ck (rng (((x.2 (((Int.toNat x.1) * 13) + (Int.toNat f))) + m) + (y.2 (((Int.toNat g) * 13) + (Int.toNat y.1))))) ((ck (0 ≤ x.1 ∧ x.1 < 13) ((ck (0 ≤ y.1 ∧ y.1 < 13) ((bif (decide ((((x.2 (((Int.toNat x.1) * 13) + (Int.toNat f))) + m) + (y.2 (((Int.toNat g) * 13) + (Int.toNat y.1)))) < (y.2 (((Int.toNat x.1) * 13) + (Int.toNat y.1))))) then (ck (0 ≤ x.1 ∧ x.1 < 13) ((ck (0 ≤ y.1 ∧ y.1 < 13) ((ck (rng (y.1 + (1 : Int))) (some (.inl ((y.1 + (1 : Int)), (ups y.2 (((Int.toNat x.1) * 13) + (Int.toNat y.1)) (((x.2 (((Int.toNat x.1) * 13) + (Int.toNat f))) + m) + (y.2 (((Int.toNat g) * 13) + (Int.toNat y.1))))))))))))) else (ck (rng (y.1 + (1 : Int))) (some (.inl ((y.1 + (1 : Int)), y.2))))))))))))))) else some (.inr y.2))
def lO (N : Nat) (T f g m : Int) (x : Int × (Nat → Int)) : Option ((Int × (Nat → Int)) ⊕ (Nat → Int)) :=
  (bif (decide (x.1 < T)) then (ck (0 ≤ x.1 ∧ x.1 < 13) ((ck (0 ≤ f ∧ f < 13) ((ck (rng ((x.2 (((Int.toNat x.1) * 13) + (Int.toNat f))) + m)) ((ck (0 ≤ x.1 ∧ x.1 < 13) ((ck (0 ≤ g ∧ g < 13) ((bif (decide ((x.2 (((Int.toNat x.1) * 13) + (Int.toNat g))) ≤ ((x.2 (((Int.toNat x.1) * 13) + (Int.toNat f))) + m))) then (ck (rng (x.1 + (1 : Int))) (some (.inl ((x.1 + (1 : Int)), x.2)))) else bnd (iter (lI T f g m x) N ((0 : Int), x.2)) (fun y133 => (ck (rng (x.1 + (1 : Int))) (some (.inl ((x.1 + (1 : Int)), y133)))))))))))))))) else some (.inr x.2))
theorem l96_2 (N : Nat) (T f g m : Int) : sf96_L2 N T f g m = lO N T f g m := rfl
theorem l96_4 (N : Nat) (T f g m : Int) : sf96_L4 N T f g m = lO N T (g + 1) f ((-m) - 1) := rfl
theorem l97_6 (N : Nat) (n t : Int) : sf97_L6 N n t = lO N (n + 1) 0 n t := rfl
theorem l97_8 (N : Nat) (n t : Int) : sf97_L8 N n t = lO N (n + 1) n 0 (-t) := rfl
end Go.Hx.V

/- Bore: what a limit makes of what is known: the loops. -/
namespace Go.Hx.V
open Go.Hx
set_option linter.unusedVariables false
theorem toN (a : Nat) : Int.toNat (a : Int) = a := Int.toNat_natCast a
theorem dv {a b : Nat} (h : b < 13) : (a * 13 + b) / 13 = a := by omega
theorem md {a b : Nat} (h : b < 13) : (a * 13 + b) % 13 = b := by omega
/-- One row, of which the first places are done. -/
def rowR (i f g : Nat) (m : Int) (F : Nat → Int) (j : Nat) : Nat → Int := fun q => if q / 13 = i ∧ q % 13 < j then min (F q) (F (i * 13 + f) + m + F (g * 13 + q % 13)) else F q
theorem lI_run {n i f g N : Nat} {m : Int} {F : Nat → Int} (hn : n ≤ 12) (hi : i ≤ n) (hf : f ≤ n) (hg : g ≤ n) (hne : g ≠ i) (hb : ∀ j, j ≤ n → rng (F (i * 13 + f) + m + F (g * 13 + j))) (hN : n + 1 < N) :
    iter (lI ((n : Int) + 1) f g m ((i : Int), F)) N ((0 : Int), F) = some (rowR i f g m F (n + 1)) := by
  refine iter_up (fun j => ((j : Int), rowR i f g m F j)) (n + 1) _ ?_ (fun j hj => ?_) ?_ hN
  · refine Prod.ext rfl ?_
    funext q
    unfold rowR
    dsimp only
    rw [if_neg (by omega)]
  · have e1 : rowR i f g m F j (g * 13 + j) = F (g * 13 + j) := by unfold rowR; rw [if_neg (by omega)]
    have e2 : rowR i f g m F j (i * 13 + j) = F (i * 13 + j) := by unfold rowR; rw [if_neg (by omega)]
    unfold lI
    simp only [toN]
    rw [show decide ((j : Int) < (n : Int) + 1) = true from decide_eq_true (by omega), cond_true, ck_pos (by omega), ck_pos (by omega), e1, e2, ck_pos (hb j (by omega)), ck_pos (by omega), ck_pos (by omega)]
    have hr : rng ((j : Int) + 1) := by unfold rng; omega
    by_cases hc : F (i * 13 + f) + m + F (g * 13 + j) < F (i * 13 + j)
    · rw [decide_eq_true hc, cond_true, ck_pos (by omega), ck_pos (by omega), ck_pos hr]
      congr 3
      funext q
      unfold ups rowR
      by_cases hq : q = i * 13 + j
      · subst hq
        rw [if_pos rfl, if_pos (by omega), md (by omega)]; omega
      · rw [if_neg hq]
        by_cases h1 : q / 13 = i ∧ q % 13 < j
        · rw [if_pos h1, if_pos (by omega)]
        · rw [if_neg h1, if_neg (by omega)]
    · rw [decide_eq_false hc, cond_false, ck_pos hr]
      congr 3
      funext q
      unfold rowR
      by_cases hq : q = i * 13 + j
      · subst hq
        rw [if_neg (by omega), if_pos (by omega), md (by omega)]; omega
      · by_cases h1 : q / 13 = i ∧ q % 13 < j
        · rw [if_pos h1, if_pos (by omega)]
        · rw [if_neg h1, if_neg (by omega)]
  · unfold lI
    dsimp only
    rw [show decide (((n + 1 : Nat) : Int) < (n : Int) + 1) = false from decide_eq_false (by omega), cond_false]
/-- What is known of n + 1 marks: no way over another mark says more. -/
structure Gd (n : Nat) (F : Nat → Int) : Prop where
  tri : ∀ i j k, i ≤ n → j ≤ n → k ≤ n → F (i * 13 + k) ≤ F (i * 13 + j) + F (j * 13 + k)
  dg : ∀ i, i ≤ n → F (i * 13 + i) = 0
  ub : ∀ i j, i ≤ n → j ≤ n → F (i * 13 + j) ≤ 4000
theorem Gd.lb {n : Nat} {F : Nat → Int} (h : Gd n F) {i j : Nat} (hi : i ≤ n) (hj : j ≤ n) : -4000 ≤ F (i * 13 + j) := by
  have := h.tri i j i hi hj hi
  have := h.dg i hi
  have := h.ub j i hj hi
  omega
/-- The rows below k are done. -/
def rowS (n f g : Nat) (m : Int) (F : Nat → Int) (k : Nat) : Nat → Int := fun q => if q / 13 < k ∧ q % 13 ≤ n then min (F q) (F (q / 13 * 13 + f) + m + F (g * 13 + q % 13)) else F q
theorem lO_run {n f g N : Nat} {m : Int} {F : Nat → Int} (hn : n ≤ 12) (hf : f ≤ n) (hg : g ≤ n) (h : Gd n F) (hm : -1000000 ≤ m ∧ m ≤ 1000000) (hc : 0 ≤ m + F (g * 13 + f)) (hN : n + 1 < N) :
    iter (lO N ((n : Int) + 1) f g m) N ((0 : Int), F) = some (rowS n f g m F (n + 1)) := by
  refine iter_up (fun k => ((k : Int), rowS n f g m F k)) (n + 1) _ ?_ (fun k hk => ?_) ?_ hN
  · refine Prod.ext rfl ?_
    funext q
    unfold rowS
    dsimp only
    rw [if_neg (by omega)]
  · have e1 : ∀ j, j ≤ n → rowS n f g m F k (k * 13 + j) = F (k * 13 + j) := fun j hj => by unfold rowS; rw [if_neg (by omega)]
    have e2 : ∀ j, j ≤ n → rowS n f g m F k (g * 13 + j) = F (g * 13 + j) := fun j hj => by
      unfold rowS
      split
      · rw [dv (by omega), md (by omega)]; omega
      · rfl
    have b1 := h.ub k f (by omega) hf
    have b2 := h.lb (i := k) (j := f) (by omega) hf
    unfold lO
    simp only [toN]
    rw [show decide ((k : Int) < (n : Int) + 1) = true from decide_eq_true (by omega), cond_true, ck_pos (by omega), ck_pos (by omega), e1 f hf, e1 g hg, ck_pos (by unfold rng; omega), ck_pos (by omega), ck_pos (by omega)]
    have hr : rng ((k : Int) + 1) := by unfold rng; omega
    by_cases hs : F (k * 13 + g) ≤ F (k * 13 + f) + m
    · rw [decide_eq_true hs, cond_true, ck_pos hr]
      congr 3
      funext q
      unfold rowS
      by_cases h1 : q / 13 < k ∧ q % 13 ≤ n
      · rw [if_pos h1, if_pos (by omega)]
      · rw [if_neg h1]
        by_cases h2 : q / 13 = k ∧ q % 13 ≤ n
        · rw [if_pos (by omega)]
          have t := h.tri k g (q % 13) (by omega) hg h2.2
          rw [h2.1]
          have e : F q = F (k * 13 + q % 13) := congrArg F (by omega)
          rw [e]; omega
        · rw [if_neg (by omega)]
    · have hne : g ≠ k := fun e => by
        subst e
        have := h.dg g hg
        omega
      rw [decide_eq_false hs, cond_false, lI_run hn (by omega) hf hg hne (fun j hj => by
        rw [e1 f hf, e2 j hj]
        have := h.ub g j hg hj
        have := h.lb (i := g) (j := j) hg hj
        unfold rng; omega) hN, bnd_ret, ck_pos hr]
      congr 3
      funext q
      unfold rowR
      by_cases h2 : q / 13 = k ∧ q % 13 < n + 1
      · rw [if_pos h2, e1 f hf, e2 (q % 13) (by omega)]
        unfold rowS
        rw [if_neg (by omega), if_pos (by omega), h2.1]
      · rw [if_neg h2]
        unfold rowS
        by_cases h1 : q / 13 < k ∧ q % 13 ≤ n
        · rw [if_pos h1, if_pos (by omega)]
        · rw [if_neg h1, if_neg (by omega)]
  · unfold lO
    dsimp only
    rw [show decide (((n + 1 : Nat) : Int) < (n : Int) + 1) = false from decide_eq_false (by omega), cond_false]
end Go.Hx.V

/- Bore: what the simple functions come to. -/
namespace Go.Hx.V
open Go.Hx
set_option linter.unusedVariables false
theorem s21 {N : Nat} {a b c d : Int} : sf21 N a b c d = some (a, b, c, d) := rfl
theorem s37 {N : Nat} {a b c : Int} : sf37 N a b c = some (decide (b ≤ a ∧ a ≤ c)) := by
  unfold sf37
  by_cases h : b ≤ a
  · rw [decide_eq_true h, cond_true]; simp [h]
  · rw [decide_eq_false h, cond_false]; simp [h]
theorem s48 {N : Nat} {p q a b : Int} : sf48 N p q a b = some (decide (a ≤ p ∧ p ≤ q ∧ q ≤ b)) := by
  unfold sf48
  rw [s37, bnd_ret]
  by_cases h : a ≤ p ∧ p ≤ q
  · rw [decide_eq_true h, cond_true]; simp [h]
  · rw [decide_eq_false h, cond_false]
    congr 1
    exact (decide_eq_false fun h' => h ⟨h'.1, h'.2.1⟩).symm
theorem s83 {N : Nat} {p q a b : Int} : sf83 N p q a b = some (decide (a ≤ p ∧ p ≤ q ∧ q ≤ b)) := by
  unfold sf83
  by_cases h : a ≤ p <;> by_cases h2 : p ≤ q <;> simp [h, h2]
theorem s66 {N : Nat} {p q x : Int} : sf66 N p q x = some (decide (p ≤ x ∧ x ≤ q)) := by
  unfold sf66
  by_cases h : p ≤ x <;> simp [h]
/-- A tube is valid. -/
def TubeOk (n t lo hi : Int) : Prop := 1 ≤ n ∧ n ≤ 10 ∧ (1 ≤ lo ∧ lo ≤ hi ∧ hi ≤ 200) ∧ 1 ≤ t ∧ t ≤ 2000 ∧ n * lo ≤ t ∧ t ≤ n * hi
instance {n t lo hi : Int} : Decidable (TubeOk n t lo hi) := by unfold TubeOk; infer_instance
theorem prod_b {n a : Int} (h1 : 1 ≤ n) (h2 : n ≤ 10) (h3 : 1 ≤ a) (h4 : a ≤ 200) : 1 ≤ n * a ∧ n * a ≤ 2000 := by
  have q1 : 1 * a ≤ n * a := Int.mul_le_mul_of_nonneg_right h1 (by omega)
  have q2 : n * a ≤ 10 * a := Int.mul_le_mul_of_nonneg_right h2 (by omega)
  omega
theorem s25 {N : Nat} {n t lo hi : Int} : sf25 N n t lo hi = some (decide (TubeOk n t lo hi)) := by
  unfold sf25
  rw [s37, bnd_ret]
  by_cases h1 : 1 ≤ n ∧ n ≤ 10
  · rw [decide_eq_true h1, cond_true, s48, bnd_ret]
    by_cases h2 : 1 ≤ lo ∧ lo ≤ hi ∧ hi ≤ 200
    · rw [decide_eq_true h2, cond_true, s37, bnd_ret]
      by_cases h3 : 1 ≤ t ∧ t ≤ 2000
      · have b1 := prod_b (a := lo) h1.1 h1.2 (by omega) (by omega)
        have b2 := prod_b (a := hi) h1.1 h1.2 (by omega) (by omega)
        rw [decide_eq_true h3, cond_true, ck_pos (by unfold rng; omega), ck_pos (by unfold rng; omega), s37, bnd_ret]
        congr 1
        by_cases h4 : n * lo ≤ t ∧ t ≤ n * hi
        · rw [decide_eq_true h4]; exact (decide_eq_true ⟨h1.1, h1.2, h2, h3.1, h3.2, h4⟩).symm
        · rw [decide_eq_false h4]; exact (decide_eq_false fun q => h4 q.2.2.2.2.2).symm
      · rw [decide_eq_false h3, cond_false]
        congr 1
        exact (decide_eq_false fun q => h3 ⟨q.2.2.2.1, q.2.2.2.2.1⟩).symm
    · rw [decide_eq_false h2, cond_false]
      congr 1
      exact (decide_eq_false fun q => h2 q.2.2.1).symm
  · rw [decide_eq_false h1, cond_false]
    congr 1
    exact (decide_eq_false fun q => h1 ⟨q.1, q.2.1⟩).symm
theorem s24 {N : Nat} {l : List Int} (h : l.length ≤ 100) : sf24 N l = some l := by
  unfold sf24
  rw [ck_pos (by simp; omega)]
  rfl
theorem s23 {N : Nat} {l : List (Int × Int × Int × Int)} (h : l.length ≤ 100) (hN : 1000 ≤ N) : sf23 N l = some l := by
  unfold sf23
  have e : iter (sf23_L1 N l) N (([] : List (Int × Int × Int × Int)), (0 : Int)) = some l := by
    refine iter_up (fun j => (l.take j, (j : Int))) l.length l rfl (fun j hj => ?_) ?_ (by omega)
    · obtain ⟨z, hz⟩ : ∃ z, l[j]? = some z := ⟨_, lt_some hj⟩
      unfold sf23_L1
      dsimp only
      rw [decide_eq_true (by omega), cond_true, ix_at rfl hz, ix_at rfl hz, ix_at rfl hz]
      show bnd (some (z.2.2.1, z.2.2.2)) _ = _
      rw [bnd_ret, ck_pos (by rw [List.length_take]; omega), ck_pos (by unfold rng; omega), take_succ' hz]
      rfl
    · unfold sf23_L1
      dsimp only
      rw [decide_eq_false (by omega), cond_false, List.take_length]
  rw [e, bnd_ret]
theorem s63 {N : Nat} {n t lo hi : Int} : sf63 N n t lo hi = some (decide (TubeOk n t lo hi)) := by
  unfold sf63
  by_cases h1 : n < 1
  · rw [decide_eq_true h1, cond_true, bnd_ret, cond_true, bnd_ret]
    show some false = _
    congr 1
    exact (decide_eq_false fun q => by have := q.1; omega).symm
  rw [decide_eq_false h1, cond_false]
  by_cases h2 : 10 < n
  · rw [decide_eq_true h2, cond_true, bnd_ret, cond_true, bnd_ret]
    show some false = _
    congr 1
    exact (decide_eq_false fun q => by have := q.2.1; omega).symm
  rw [decide_eq_false h2, cond_false, s83, bnd_ret]
  by_cases h3 : 1 ≤ lo ∧ lo ≤ hi ∧ hi ≤ 200
  · have b1 := prod_b (n := n) (a := lo) (by omega) (by omega) (by omega) (by omega)
    have b2 := prod_b (n := n) (a := hi) (by omega) (by omega) (by omega) (by omega)
    rw [decide_eq_true h3, bnd_ret]
    show ck _ _ = _
    rw [ck_pos (by unfold rng; omega), ck_pos (by unfold rng; omega)]
    by_cases h4 : t ≤ 2000
    · rw [decide_eq_true h4, cond_true, s66, bnd_ret]
      congr 1
      by_cases h5 : n * lo ≤ t ∧ t ≤ n * hi
      · rw [decide_eq_true h5]; exact (decide_eq_true ⟨by omega, by omega, h3, by omega, h4, h5⟩).symm
      · rw [decide_eq_false h5]; exact (decide_eq_false fun q => h5 q.2.2.2.2.2).symm
    · rw [decide_eq_false h4, cond_false]
      congr 1
      exact (decide_eq_false fun q => h4 q.2.2.2.2.1).symm
  · rw [decide_eq_false h3, bnd_ret]
    show some false = _
    congr 1
    exact (decide_eq_false fun q => h3 q.2.2.1).symm
theorem s20 {N : Nat} {n t lo hi : Int} : sf20 N n t lo hi = some (if TubeOk n t lo hi then 0 else 1) := by
  unfold sf20
  rw [s63, bnd_ret]
  by_cases h : TubeOk n t lo hi
  · rw [decide_eq_true h, if_pos h]; rfl
  · rw [decide_eq_false h, if_neg h]; rfl
/-- A reading is one of a tube. -/
def RdOk' (n : Int) (r : Int × Int × Int × Int) : Prop := (0 ≤ r.1 ∧ r.1 < n) ∧ (r.1 ≤ r.2.1 ∧ r.2.1 ≤ n) ∧ 0 ≤ r.2.2.1 ∧ r.2.2.1 ≤ r.2.2.2 ∧ r.2.2.2 ≤ 2000
instance {n : Int} {r : Int × Int × Int × Int} : Decidable (RdOk' n r) := by unfold RdOk'; infer_instance
theorem s86 {N : Nat} {n t lo hi : Int} {r : Int × Int × Int × Int} : sf86 N n t lo hi r.1 r.2.1 r.2.2.1 r.2.2.2 = some (decide (RdOk' n r)) := by
  unfold sf86
  rw [s83, bnd_ret]
  by_cases h1 : 0 ≤ r.1
  · by_cases h2 : r.1 < n
    · by_cases h3 : r.1 ≤ r.2.1
      · by_cases h4 : r.2.1 ≤ n
        · rw [decide_eq_true h1, decide_eq_true h2, decide_eq_true h3, decide_eq_true h4, cond_true, cond_true, cond_true, cond_true]
          congr 1
          by_cases h5 : 0 ≤ r.2.2.1 ∧ r.2.2.1 ≤ r.2.2.2 ∧ r.2.2.2 ≤ 2000
          · rw [decide_eq_true h5]; exact (decide_eq_true ⟨⟨h1, h2⟩, ⟨h3, h4⟩, h5⟩).symm
          · rw [decide_eq_false h5]; exact (decide_eq_false fun q => h5 q.2.2).symm
        · rw [decide_eq_true h1, decide_eq_true h2, decide_eq_true h3, decide_eq_false h4, cond_true, cond_true, cond_true, cond_false]
          congr 1; exact (decide_eq_false fun q => h4 q.2.1.2).symm
      · rw [decide_eq_true h1, decide_eq_true h2, decide_eq_false h3, cond_true, cond_true, cond_false]
        congr 1; exact (decide_eq_false fun q => h3 q.2.1.1).symm
    · rw [decide_eq_true h1, decide_eq_false h2, cond_true, cond_false]
      congr 1; exact (decide_eq_false fun q => h2 q.1.2).symm
  · rw [decide_eq_false h1, cond_false]
    congr 1; exact (decide_eq_false fun q => h1 q.1.1).symm
/-- All of a list. -/
def AllP {α : Type} (p : α → Prop) (l : List α) : Prop := ∀ x, x ∈ l → p x
theorem all_loopE {α ε : Type} {bad : ε} {step : Int → Option (Int ⊕ (ε ⊕ Unit))} {l : List α} {p : α → Prop} [DecidablePred p] {N : Nat} (hN : l.length < N)
    (hs : ∀ (j : Nat) z, l[j]? = some z → p z → step (j : Int) = some (.inl ((j : Int) + 1)))
    (hf : ∀ (j : Nat) z, l[j]? = some z → ¬ p z → step (j : Int) = some (.inr (.inl bad)))
    (he : step (l.length : Int) = some (.inr (.inr ()))) : (AllP p l ∧ iter step N 0 = some (.inr ())) ∨ (¬ AllP p l ∧ iter step N 0 = some (.inl bad)) := by
  have H : ((∀ j, j < l.length → ∀ z, l[j]? = some z → p z) ∧ iter step N (0 : Int) = some (.inr ())) ∨ (¬ (∀ j, j < l.length → ∀ z, l[j]? = some z → p z) ∧ iter step N (0 : Int) = some (.inl bad)) := by
    haveI : DecidablePred fun (j : Nat) => ∀ z, l[j]? = some z → p z := fun j => Classical.propDecidable _
    refine iter_all (fun j => (j : Int)) l.length (fun j => ∀ z, l[j]? = some z → p z) (Sum.inr () : ε ⊕ Unit) (Sum.inl bad : ε ⊕ Unit) rfl (fun j hj hp => ?_) (fun j hj hp => ?_) he hN
    · obtain ⟨z, hz⟩ : ∃ z, l[j]? = some z := ⟨_, lt_some hj⟩
      exact hs j z hz (hp z hz)
    · obtain ⟨z, hz⟩ : ∃ z, l[j]? = some z := ⟨_, lt_some hj⟩
      exact hf j z hz fun q => hp fun z' hz' => by rw [hz] at hz'; cases hz'; exact q
  rcases H with ⟨h1, h2⟩ | ⟨h1, h2⟩
  · refine .inl ⟨fun x hx => ?_, h2⟩
    obtain ⟨j, hj, rfl⟩ := List.getElem_of_mem hx
    exact h1 j hj _ (lt_some hj)
  · exact .inr ⟨fun q => h1 fun j hj z hz => q z (List.mem_of_getElem? hz), h2⟩
instance {α : Type} {p : α → Prop} [DecidablePred p] {l : List α} : Decidable (AllP p l) := inferInstanceAs (Decidable (∀ x, x ∈ l → p x))
theorem s68 {N : Nat} {n t lo hi : Int} {l : List (Int × Int × Int × Int)} (h : l.length ≤ 100) (hN : 1000 ≤ N) : sf68 N l n t lo hi = some (decide (AllP (RdOk' n) l)) := by
  unfold sf68
  rcases all_loopE (step := sf68_L1 N l n t lo hi) (l := l) (p := RdOk' n) (N := N) (by omega) (by
      intro j z hz hp
      have := some_lt hz
      unfold sf68_L1
      rw [decide_eq_true (by omega), cond_true, ix_at rfl hz, s86, bnd_ret, decide_eq_true hp, Bool.not_true, cond_false, ck_pos (by unfold rng; omega)]) (by
      intro j z hz hp
      have := some_lt hz
      unfold sf68_L1
      rw [decide_eq_true (by omega), cond_true, ix_at rfl hz, s86, bnd_ret, decide_eq_false hp]
      rfl) (by
      unfold sf68_L1
      rw [decide_eq_false (by omega), cond_false]) with ⟨hA, e⟩ | ⟨hA, e⟩
  · rw [e, bnd_ret, decide_eq_true hA]; rfl
  · rw [e, bnd_ret, decide_eq_false hA]; rfl
theorem s64 {N : Nat} {n t lo hi : Int} {l : List (Int × Int × Int × Int)} (h : l.length ≤ 100) (hN : 1000 ≤ N) : sf64 N n t lo hi l = some (if TubeOk n t lo hi then if l.length ≤ 12 then if AllP (RdOk' n) l then 0 else 2 else 3 else 1) := by
  unfold sf64
  rw [s20, bnd_ret]
  by_cases h1 : TubeOk n t lo hi
  · rw [if_pos h1, if_pos h1]
    show (bif (decide ((12 : Int) < (l.length : Int))) then _ else _) = _
    by_cases h2 : l.length ≤ 12
    · rw [decide_eq_false (by omega), cond_false, if_pos h2, s68 h hN, bnd_ret]
      by_cases h3 : AllP (RdOk' n) l
      · rw [decide_eq_true h3, if_pos h3]; rfl
      · rw [decide_eq_false h3, if_neg h3]; rfl
    · rw [decide_eq_true (by omega), cond_true, if_neg h2]
  · rw [if_neg h1, if_neg h1]; rfl
end Go.Hx.V

/- Bore: what is known of a tube without readings: the first loops. -/
namespace Go.Hx.V
open Go.Hx
set_option linter.unusedVariables false
def uV (lo hi : Int) (a b : Nat) : Int := if a ≤ b then ((b : Int) - a) * hi else ((b : Int) - a) * lo
def uF (n : Nat) (lo hi : Int) (i j : Nat) : Nat → Int := fun q => if q / 13 ≤ n ∧ q % 13 ≤ n ∧ (min (q / 13) (q % 13) < i ∨ (min (q / 13) (q % 13) = i ∧ max (q / 13) (q % 13) < j)) then uV lo hi (q / 13) (q % 13) else 0
theorem mul_b {d a : Int} (h1 : 0 ≤ d) (h2 : d ≤ 12) (h3 : 1 ≤ a) (h4 : a ≤ 200) : 0 ≤ d * a ∧ d * a ≤ 2400 := by
  have q1 : 0 * a ≤ d * a := Int.mul_le_mul_of_nonneg_right h1 (by omega)
  have q2 : d * a ≤ 12 * a := Int.mul_le_mul_of_nonneg_right h2 (by omega)
  omega
theorem u_in {n i N : Nat} {lo hi : Int} (hn : n ≤ 12) (hi' : i ≤ n) (h1 : 1 ≤ lo ∧ lo ≤ 200) (h2 : 1 ≤ hi ∧ hi ≤ 200) (hN : 100 ≤ N) :
    iter (sf97_L1 n lo hi ((i : Int), uF n lo hi i i)) N ((i : Int), uF n lo hi i i) = some (uF n lo hi i (n + 1)) := by
  refine iter_up (fun k => (((i + k : Nat) : Int), uF n lo hi i (i + k))) (n + 1 - i) _ rfl (fun k hk => ?_) ?_ (by omega)
  · unfold sf97_L1
    dsimp only
    obtain ⟨j, hj⟩ : ∃ j, j = i + k := ⟨_, rfl⟩
    rw [show i + (k + 1) = j + 1 by omega, ← hj]
    have m1 := mul_b (d := (j : Int) - i) (a := hi) (by omega) (by omega) h2.1 h2.2
    have m2 := mul_b (d := (j : Int) - i) (a := lo) (by omega) (by omega) h1.1 h1.2
    have m3 : ((i : Int) - j) * lo = -(((j : Int) - i) * lo) := by rw [← Int.neg_mul]; congr 1; omega
    rw [decide_eq_true (by omega), cond_true, ck_pos (by unfold rng; omega), ck_pos (by unfold rng; omega), ck_pos (by omega), ck_pos (by omega), ck_pos (by unfold rng; omega), ck_pos (by rw [m3]; unfold rng; omega), ck_pos (by omega), ck_pos (by omega), ck_pos (by unfold rng; omega), toN, toN]
    congr 3
    funext q
    unfold ups uF
    by_cases q1 : q = j * 13 + i
    · rw [if_pos q1, if_pos (by omega), q1, dv (by omega), md (by omega)]
      unfold uV
      by_cases e : j ≤ i
      · have : i = j := by omega
        subst this
        rw [if_pos (Nat.le_refl _)]; simp
      · rw [if_neg e]
    · rw [if_neg q1]
      by_cases q2 : q = i * 13 + j
      · rw [if_pos q2, if_pos (by omega), q2, dv (by omega), md (by omega)]
        unfold uV
        rw [if_pos (by omega)]
      · rw [if_neg q2]
        by_cases c : q / 13 ≤ n ∧ q % 13 ≤ n ∧ (min (q / 13) (q % 13) < i ∨ (min (q / 13) (q % 13) = i ∧ max (q / 13) (q % 13) < j))
        · rw [if_pos c, if_pos (by omega)]
        · rw [if_neg c, if_neg (by omega)]
  · unfold sf97_L1
    dsimp only
    rw [show i + (n + 1 - i) = n + 1 by omega, decide_eq_false (by omega), cond_false]
theorem u_out {n N : Nat} {lo hi : Int} (hn : n ≤ 12) (h1 : 1 ≤ lo ∧ lo ≤ 200) (h2 : 1 ≤ hi ∧ hi ≤ 200) (hN : 100 ≤ N) :
    iter (sf97_L2 N n lo hi) N ((0 : Int), (fun _ => 0)) = some (uF n lo hi (n + 1) (n + 1)) := by
  refine iter_up (fun i => ((i : Int), uF n lo hi i i)) (n + 1) _ ?_ (fun i hi' => ?_) ?_ (by omega)
  · refine Prod.ext rfl ?_
    funext q
    unfold uF
    dsimp only
    rw [if_neg (by omega)]
  · unfold sf97_L2
    dsimp only
    rw [decide_eq_true (by omega), cond_true, u_in hn (by omega) h1 h2 hN, bnd_ret, ck_pos (by unfold rng; omega)]
    congr 3
    funext q
    unfold uF
    by_cases c : q / 13 ≤ n ∧ q % 13 ≤ n ∧ (min (q / 13) (q % 13) < i ∨ (min (q / 13) (q % 13) = i ∧ max (q / 13) (q % 13) < n + 1))
    · rw [if_pos c, if_pos (by omega)]
    · rw [if_neg c, if_neg (by omega)]
  · unfold sf97_L2
    dsimp only
    rw [decide_eq_false (by omega), cond_false]
theorem uF_at {n i j : Nat} {lo hi : Int} (hn : n ≤ 12) (h1 : i ≤ n) (h2 : j ≤ n) : uF n lo hi (n + 1) (n + 1) (i * 13 + j) = uV lo hi i j := by
  unfold uF
  rw [if_pos (by omega), dv (by omega), md (by omega)]
theorem uV_max {lo hi : Int} {i j : Nat} (h : lo ≤ hi) : uV lo hi i j = max (((j : Int) - i) * lo) (((j : Int) - i) * hi) := by
  unfold uV
  by_cases d : i ≤ j
  · rw [if_pos d]
    have := Int.mul_le_mul_of_nonneg_left h (show 0 ≤ (j : Int) - i by omega)
    omega
  · rw [if_neg d]
    have := Int.mul_le_mul_of_nonneg_left h (show 0 ≤ -((j : Int) - i) by omega)
    rw [Int.neg_mul, Int.neg_mul] at this
    omega
theorem gd_u {n : Nat} {lo hi : Int} (hn : n ≤ 12) (h1 : 1 ≤ lo) (h2 : lo ≤ hi) (h3 : hi ≤ 200) : Gd n (uF n lo hi (n + 1) (n + 1)) := by
  refine ⟨fun i j k a b c => ?_, fun i a => ?_, fun i j a b => ?_⟩
  · rw [uF_at hn a c, uF_at hn a b, uF_at hn b c, uV_max h2, uV_max h2, uV_max h2, show (k : Int) - i = ((j : Int) - i) + ((k : Int) - j) by omega, Int.add_mul, Int.add_mul]
    omega
  · rw [uF_at hn a a, uV_max h2, show (i : Int) - i = 0 by omega, Int.zero_mul, Int.zero_mul]; rfl
  · rw [uF_at hn a b]
    unfold uV
    by_cases d : i ≤ j
    · rw [if_pos d]
      have := mul_b (d := (j : Int) - i) (a := hi) (by omega) (by omega) (by omega) (by omega)
      omega
    · rw [if_neg d]
      have := mul_b (d := (i : Int) - j) (a := lo) (by omega) (by omega) (by omega) (by omega)
      rw [show (j : Int) - i = -((i : Int) - j) by omega, Int.neg_mul]
      omega
end Go.Hx.V

/- Bore: heights, and whether a reading is right. -/
namespace Go.Hx.V
open Go.Hx
set_option linter.unusedVariables false
def hs (l : List Int) (j : Nat) : Int := (l.take j).sum
theorem hs_succ {l : List Int} {j : Nat} {x : Int} (h : l[j]? = some x) : hs l (j + 1) = hs l j + x := by
  unfold hs
  rw [take_succ' h, List.sum_append]
  simp
def Vol (x : Int) : Prop := 0 ≤ x ∧ x ≤ 200
theorem hs_b {l : List Int} (h : AllP Vol l) : ∀ j, j ≤ l.length → 0 ≤ hs l j ∧ hs l j ≤ 200 * j
  | 0, _ => by unfold hs; simp
  | j + 1, hj => by
    have ih := hs_b h j (by omega)
    obtain ⟨x, hx⟩ : ∃ x, l[j]? = some x := ⟨_, lt_some (by omega)⟩
    have := h x (List.mem_of_getElem? hx)
    unfold Vol at this
    rw [hs_succ hx]; omega
theorem s38 {N : Nat} {l : List Int} {a : Nat} (ha : a ≤ l.length) (hl : l.length ≤ 15) (hb : AllP Vol l) (hN : 1000 ≤ N) : sf38 N l a = some (hs l a) := by
  unfold sf38
  have e : iter (sf38_L1 l a) N ((0 : Int), (0 : Int)) = some (hs l a) := by
    refine iter_up (fun j => (hs l j, (j : Int))) a _ rfl (fun j hj => ?_) ?_ (by omega)
    · obtain ⟨x, hx⟩ : ∃ x, l[j]? = some x := ⟨_, lt_some (by omega)⟩
      have b := hs_b hb (j + 1) (by omega)
      unfold sf38_L1
      dsimp only
      rw [hs_succ hx] at *
      rw [decide_eq_true (by omega), cond_true, ix_at rfl hx, ck_pos (by unfold rng; omega), ck_pos (by unfold rng; omega)]
      rfl
    · unfold sf38_L1
      dsimp only
      rw [decide_eq_false (by omega), cond_false]
  rw [e, bnd_ret]
/-- A reading is right, by heights. -/
def RightP (l : List Int) (r : Int × Int × Int × Int) : Prop := max r.2.2.1 (hs l r.2.1.toNat - hs l r.1.toNat) ≤ if r.2.1 < l.length then min r.2.2.2 (hs l (r.2.1.toNat + 1) - hs l r.1.toNat - 1) else r.2.2.2
instance {l : List Int} {r : Int × Int × Int × Int} : Decidable (RightP l r) := by unfold RightP; infer_instance
theorem rp {l : List Int} {f g : Nat} {lo hi : Int} : RightP l ((f : Int), (g : Int), lo, hi) = (max lo (hs l g - hs l f) ≤ if (g : Int) < l.length then min hi (hs l (g + 1) - hs l f - 1) else hi) := rfl
theorem s71 {N : Nat} {l : List Int} {t lo' hi' : Int} {r : Int × Int × Int × Int} (hl : l.length ≤ 15) (hb : AllP Vol l) (hr : RdOk' l.length r) (hN : 1000 ≤ N) : sf71 N l.length t lo' hi' r.1 r.2.1 r.2.2.1 r.2.2.2 l = some (decide (RightP l r)) := by
  obtain ⟨f, g, lo, hi⟩ := r
  obtain ⟨h1, h2, h3⟩ := hr
  dsimp only at h1 h2 h3
  obtain ⟨f, rfl⟩ : ∃ k : Nat, f = k := ⟨f.toNat, by omega⟩
  obtain ⟨g, rfl⟩ : ∃ k : Nat, g = k := ⟨g.toNat, by omega⟩
  have b1 := hs_b hb f (by omega)
  have b2 := hs_b hb g (by omega)
  unfold sf71
  dsimp only
  rw [s38 (by omega) hl hb hN, bnd_ret, s38 (by omega) hl hb hN, bnd_ret, ck_pos (by unfold rng; omega)]
  by_cases h : g < l.length
  · have b3 := hs_b hb (g + 1) (by omega)
    rw [decide_eq_true (by omega), cond_true, ck_pos (by unfold rng; omega), show (g : Int) + 1 = ((g + 1 : Nat) : Int) from rfl, s38 (by omega) hl hb hN, bnd_ret, ck_pos (by unfold rng; omega), ck_pos (by unfold rng; omega)]
    refine congrArg some (decide_eq_decide.2 ?_)
    rw [rp, if_pos (by omega)]
  · rw [decide_eq_false (by omega), cond_false]
    refine congrArg some (decide_eq_decide.2 ?_)
    rw [rp, if_neg (by omega)]
end Go.Hx.V

/- BoreProves: what the law comes to. -/
namespace Go.Hx.V
open Go.Hx
set_option linter.unusedVariables false
def InV (lo hi : Int) (x : Int) : Prop := lo ≤ x ∧ x ≤ hi
instance {lo hi x : Int} : Decidable (InV lo hi x) := by unfold InV; infer_instance
theorem sL {α β γ : Type} {f : α → Option γ} {g : β → Option γ} {x : α} : sel f g (.inl x) = f x := rfl
theorem sR {α β γ : Type} {f : α → Option γ} {g : β → Option γ} {x : β} : sel f g (.inr x) = g x := rfl
theorem s27 {N : Nat} {n t lo hi : Int} {L : List (Int × Int × Int × Int)} {l : List Int} (h : L.length ≤ 100) (hl : l.length ≤ 15) (ht : TubeOk n t lo hi) (hr : AllP (RdOk' n) L) (hN : 1000 ≤ N) :
    sf27 N n t lo hi L l = some (decide ((l.length : Int) = n ∧ AllP (InV lo hi) l ∧ AllP (RightP l) L ∧ hs l l.length = t)) := by
  unfold sf27
  by_cases h1 : (l.length : Int) = n
  · subst h1
    rw [decide_eq_true rfl, Bool.not_true, cond_false]
    rcases all_loopE (step := sf27_L1 N lo hi l) (l := l) (p := InV lo hi) (N := N) (by omega) (by
        intro j z hz hp
        have := some_lt hz
        unfold sf27_L1
        rw [decide_eq_true (by omega), cond_true, ix_at rfl hz, s37, bnd_ret, decide_eq_true (p := lo ≤ z ∧ z ≤ hi) hp, Bool.not_true, cond_false, ck_pos (by unfold rng; omega)]) (by
        intro j z hz hp
        have := some_lt hz
        unfold sf27_L1
        rw [decide_eq_true (by omega), cond_true, ix_at rfl hz, s37, bnd_ret, decide_eq_false (p := lo ≤ z ∧ z ≤ hi) hp]
        rfl) (by
        unfold sf27_L1
        rw [decide_eq_false (by omega), cond_false]) with ⟨hA, e⟩ | ⟨hA, e⟩
    · rw [e, bnd_ret]
      show bnd (iter _ N 0) _ = _
      have hb : AllP Vol l := fun x hx => by
        have := hA x hx
        have := ht.2.2.1
        unfold InV at *
        unfold Vol
        omega
      rcases all_loopE (step := sf27_L2 N l.length t lo hi L l) (l := L) (p := RightP l) (N := N) (by omega) (by
          intro j z hz hp
          have := some_lt hz
          unfold sf27_L2
          rw [decide_eq_true (by omega), cond_true, ix_at rfl hz, s71 hl hb (hr z (List.mem_of_getElem? hz)) hN, bnd_ret, decide_eq_true hp, Bool.not_true, cond_false, ck_pos (by unfold rng; omega)]) (by
          intro j z hz hp
          have := some_lt hz
          unfold sf27_L2
          rw [decide_eq_true (by omega), cond_true, ix_at rfl hz, s71 hl hb (hr z (List.mem_of_getElem? hz)) hN, bnd_ret, decide_eq_false hp]
          rfl) (by
          unfold sf27_L2
          rw [decide_eq_false (by omega), cond_false]) with ⟨hB, e⟩ | ⟨hB, e⟩
      · rw [e, bnd_ret]
        show bnd (sf38 N l l.length) _ = _
        rw [s38 (Nat.le_refl _) hl hb hN, bnd_ret]
        refine congrArg some (decide_eq_decide.2 ⟨fun q => ⟨rfl, hA, hB, q⟩, fun q => q.2.2.2⟩)
      · rw [e, bnd_ret, decide_eq_false fun q => hB q.2.2.1]; rfl
    · rw [e, bnd_ret, decide_eq_false fun q => hA q.2.1]; rfl
  · rw [decide_eq_false h1, decide_eq_false fun q => h1 q.1]; rfl
end Go.Hx.V

/- Bore: a tube without readings. -/
namespace Go.Hx.V
open Go.Hx
set_option linter.unusedVariables false
theorem rowS_at {n f g i j : Nat} {m : Int} {F : Nat → Int} (hn : n ≤ 12) (h1 : i ≤ n) (h2 : j ≤ n) : rowS n f g m F (n + 1) (i * 13 + j) = min (F (i * 13 + j)) (F (i * 13 + f) + m + F (g * 13 + j)) := by
  unfold rowS
  rw [if_pos (by omega), dv (by omega), md (by omega)]
theorem gd_lim {n f g : Nat} {m : Int} {F : Nat → Int} (hn : n ≤ 12) (h : Gd n F) (hf : f ≤ n) (hg : g ≤ n) (hm : 0 ≤ m + F (g * 13 + f)) : Gd n (rowS n f g m F (n + 1)) := by
  refine ⟨fun i j k hi hj hk => ?_, fun i hi => ?_, fun i j hi hj => ?_⟩
  · rw [rowS_at hn hi hk, rowS_at hn hi hj, rowS_at hn hj hk]
    have := h.tri i j k hi hj hk
    have := h.tri i j f hi hj hf
    have := h.tri g j k hg hj hk
    have := h.tri g j f hg hj hf
    omega
  · rw [rowS_at hn hi hi, h.dg i hi]
    have := h.tri g i f hg hi hf
    omega
  · rw [rowS_at hn hi hj]
    have := h.ub i j hi hj
    omega
theorem s103 {N : Nat} {a b c d e : Int} {F : Nat → Int} {x y n : Nat} {m : Int} (hn : n ≤ 12) (hx : x ≤ n) (hy : y ≤ n) (h : Gd n F) (hm : -1000000 ≤ m ∧ m ≤ 1000000) : sf103 N a b c d e F x y m = some (decide (0 ≤ m + F (y * 13 + x))) := by
  have := h.lb (i := y) (j := x) hy hx
  have := h.ub y x hy hx
  unfold sf103
  rw [ck_pos (by omega), ck_pos (by omega), toN, toN, ck_pos (by unfold rng; omega)]
/-- What is known of a tube without readings. -/
def unr (n : Nat) (t lo hi : Int) : Nat → Int := rowS n n 0 (-t) (rowS n 0 n t (uF n lo hi (n + 1) (n + 1)) (n + 1)) (n + 1)
theorem s97 {N n : Nat} {t lo hi : Int} (ht : TubeOk n t lo hi) (hN : 1000 ≤ N) : sf97 N n t lo hi = some ((n : Int), t, lo, hi, (n : Int) + 1, unr n t lo hi) ∧ Gd n (unr n t lo hi) ∧
    (∀ i, i ≤ n → unr n t lo hi (0 * 13 + i) = min ((i : Int) * hi) (t - ((n : Int) - i) * lo)) ∧ (∀ i, i ≤ n → unr n t lo hi (i * 13 + 0) = -(max ((i : Int) * lo) (t - ((n : Int) - i) * hi))) := by
  obtain ⟨t1, t2, ⟨t3, t4, t5⟩, t6, t7, t8, t9⟩ := ht
  have hn : n ≤ 12 := by omega
  have g0 := gd_u hn t3 t4 t5
  have e0 : ∀ i j, i ≤ n → j ≤ n → uF n lo hi (n + 1) (n + 1) (i * 13 + j) = uV lo hi i j := fun i j a b => uF_at hn a b
  have un0 : ∀ i, i ≤ n → uV lo hi i 0 = -((i : Int) * lo) := fun i a => by
    unfold uV
    by_cases d : i ≤ 0
    · have : i = 0 := by omega
      subst this; simp
    · rw [if_neg d, show ((0 : Nat) : Int) - i = -(i : Int) by omega, Int.neg_mul]
  have u0n : ∀ i, uV lo hi 0 i = (i : Int) * hi := fun i => by
    unfold uV
    rw [if_pos (Nat.zero_le _), show (i : Int) - ((0 : Nat) : Int) = i by omega]
  have unn : ∀ i, i ≤ n → uV lo hi n i = -(((n : Int) - i) * lo) := fun i a => by
    unfold uV
    by_cases d : n ≤ i
    · have : i = n := by omega
      subst this
      rw [if_pos (Nat.le_refl _), show (i : Int) - i = 0 by omega, Int.zero_mul, Int.zero_mul]; rfl
    · rw [if_neg d, show (i : Int) - n = -((n : Int) - i) by omega, Int.neg_mul]
  have uin : ∀ i, i ≤ n → uV lo hi i n = ((n : Int) - i) * hi := fun i a => by
    unfold uV
    rw [if_pos a]
  have c1 : 0 ≤ t + uF n lo hi (n + 1) (n + 1) (n * 13 + 0) := by rw [e0 n 0 (Nat.le_refl _) (Nat.zero_le _), un0 n (Nat.le_refl _)]; omega
  have g1 := gd_lim hn g0 (Nat.zero_le _) (Nat.le_refl _) c1
  have r1 : ∀ i j, i ≤ n → j ≤ n → rowS n 0 n t (uF n lo hi (n + 1) (n + 1)) (n + 1) (i * 13 + j) = min (uV lo hi i j) (uV lo hi i 0 + t + uV lo hi n j) := fun i j a b => by
    rw [rowS_at hn a b, e0 i j a b, e0 i 0 a (Nat.zero_le _), e0 n j (Nat.le_refl _) b]
  have z0 : uV lo hi 0 0 = 0 := by rw [u0n]; simp
  have f0n : rowS n 0 n t (uF n lo hi (n + 1) (n + 1)) (n + 1) (0 * 13 + n) = t := by
    rw [r1 0 n (Nat.zero_le _) (Nat.le_refl _), u0n, z0, unn n (Nat.le_refl _), show (n : Int) - n = 0 by omega, Int.zero_mul]
    omega
  have c2 : 0 ≤ -t + rowS n 0 n t (uF n lo hi (n + 1) (n + 1)) (n + 1) (0 * 13 + n) := by rw [f0n]; omega
  have g2 := gd_lim hn g1 (Nat.le_refl _) (Nat.zero_le _) c2
  refine ⟨?_, g2, fun i a => ?_, fun i a => ?_⟩
  · unfold sf97
    have q1 := s103 (N := N) (a := n) (b := t) (c := lo) (d := hi) (e := (n : Int) + 1) (x := 0) (y := n) (m := t) hn (Nat.zero_le _) (Nat.le_refl _) g0 (by omega)
    have q2 := s103 (N := N) (a := n) (b := t) (c := lo) (d := hi) (e := (n : Int) + 1) (x := n) (y := 0) (m := -t) hn (Nat.le_refl _) (Nat.zero_le _) g1 (by omega)
    have w1 := lO_run (N := N) hn (Nat.zero_le _) (Nat.le_refl n) g0 (m := t) (by omega) c1 (by omega)
    have w2 := lO_run (N := N) hn (Nat.le_refl n) (Nat.zero_le _) g1 (m := -t) (by omega) c2 (by omega)
    rw [ck_pos (by unfold rng; omega), u_out hn ⟨t3, by omega⟩ ⟨by omega, t5⟩ (by omega), bnd_ret, show (0 : Int) = ((0 : Nat) : Int) from rfl, q1, bnd_ret, decide_eq_true c1, Bool.not_true, cond_false, l97_6]
    show bnd (iter (lO N ((n : Int) + 1) ((0 : Nat) : Int) n t) N ((0 : Int), _)) _ = _
    rw [w1, bnd_ret, ck_pos (by unfold rng; omega), q2, bnd_ret, decide_eq_true c2, Bool.not_true, cond_false, l97_8]
    show bnd (iter (lO N ((n : Int) + 1) n ((0 : Nat) : Int) (-t)) N ((0 : Int), _)) _ = _
    rw [w2, bnd_ret]
    rfl
  · unfold unr
    rw [rowS_at hn (Nat.zero_le _) a, f0n, r1 0 i (Nat.zero_le _) a, u0n, z0, unn i a]
    omega
  · unfold unr
    have := un0 n (Nat.le_refl _)
    rw [rowS_at hn a (Nat.zero_le _), r1 i 0 a (Nat.zero_le _), r1 i n a (Nat.le_refl _), r1 0 0 (Nat.zero_le _) (Nat.zero_le _), z0, un0 i a, this, uin i a, unn n (Nat.le_refl _), show (n : Int) - n = 0 by omega, Int.zero_mul]
    omega
end Go.Hx.V

/- BoreFree: what the law comes to. -/
namespace Go.Hx.V
open Go.Hx
set_option linter.unusedVariables false
end Go.Hx.V

/- Bore: what all readings together say: those places that they leave. -/
namespace Go.Hx.V
open Go.Hx
set_option linter.unusedVariables false
def SatF (n : Nat) (F : Nat → Int) (p : Nat → Int) : Prop := ∀ i j, i ≤ n → j ≤ n → p j - p i ≤ F (i * 13 + j)
theorem sat_lim {n f g : Nat} {m : Int} {F p : Nat → Int} (hn : n ≤ 12) (h : Gd n F) (hf : f ≤ n) (hg : g ≤ n) : SatF n (rowS n f g m F (n + 1)) p ↔ SatF n F p ∧ p g - p f ≤ m := by
  refine ⟨fun hs => ⟨fun i j hi hj => ?_, ?_⟩, fun ⟨h1, h2⟩ i j hi hj => ?_⟩
  · have := hs i j hi hj
    rw [rowS_at hn hi hj] at this; omega
  · have := hs f g hf hg
    rw [rowS_at hn hf hg, h.dg f hf, h.dg g hg] at this; omega
  · have a1 := h1 i j hi hj
    have a2 := h1 i f hi hf
    have a3 := h1 g j hg hj
    rw [rowS_at hn hi hj]; omega
def CellS (n : Nat) (lo hi : Int) (p : Nat → Int) : Prop := ∀ i, i < n → lo ≤ p (i + 1) - p i ∧ p (i + 1) - p i ≤ hi
theorem cell_far {n : Nat} {lo hi : Int} {p : Nat → Int} (h : CellS n lo hi p) (i : Nat) : ∀ d, i + d ≤ n → (d : Int) * lo ≤ p (i + d) - p i ∧ p (i + d) - p i ≤ (d : Int) * hi
  | 0, _ => by simp
  | d + 1, hd => by
    have ih := cell_far h i d (by omega)
    have c := h (i + d) (by omega)
    have e1 : ((d + 1 : Nat) : Int) * lo = (d : Int) * lo + lo := by push_cast; rw [Int.add_mul, Int.one_mul]
    have e2 : ((d + 1 : Nat) : Int) * hi = (d : Int) * hi + hi := by push_cast; rw [Int.add_mul, Int.one_mul]
    rw [e1, e2, ← Nat.add_assoc]; omega
theorem sat_u {n : Nat} {lo hi : Int} {p : Nat → Int} (hn : n ≤ 12) : SatF n (uF n lo hi (n + 1) (n + 1)) p ↔ CellS n lo hi p := by
  refine ⟨fun hs i hi' => ?_, fun h i j hi' hj => ?_⟩
  · have a := hs i (i + 1) (by omega) (by omega)
    have b := hs (i + 1) i (by omega) (by omega)
    rw [uF_at hn (by omega) (by omega)] at a b
    unfold uV at a b
    rw [if_pos (by omega), show ((i + 1 : Nat) : Int) - i = 1 by omega, Int.one_mul] at a
    rw [if_neg (by omega), show (i : Int) - (i + 1 : Nat) = -1 by omega, Int.neg_mul, Int.one_mul] at b
    omega
  · rw [uF_at hn hi' hj]
    unfold uV
    by_cases d : i ≤ j
    · rw [if_pos d]
      have := cell_far h i (j - i) (by omega)
      rw [show i + (j - i) = j by omega, show ((j - i : Nat) : Int) = (j : Int) - i by omega] at this
      exact this.2
    · rw [if_neg d]
      have := cell_far h j (i - j) (by omega)
      rw [show j + (i - j) = i by omega, show ((i - j : Nat) : Int) = -((j : Int) - i) by omega, Int.neg_mul, Int.neg_mul] at this
      omega
theorem uni_c {n : Nat} {t lo hi : Int} (ht : TubeOk n t lo hi) : 0 ≤ t + uF n lo hi (n + 1) (n + 1) (n * 13 + 0) := by
  obtain ⟨t1, t2, ⟨t3, t4, t5⟩, t6, t7, t8, t9⟩ := ht
  rw [uF_at (by omega) (Nat.le_refl _) (Nat.zero_le _)]
  unfold uV
  rw [if_neg (by omega), show ((0 : Nat) : Int) - n = -(n : Int) by omega, Int.neg_mul]
  omega
theorem sat_unr {n : Nat} {t lo hi : Int} {p : Nat → Int} (ht : TubeOk n t lo hi) : SatF n (unr n t lo hi) p ↔ CellS n lo hi p ∧ p n - p 0 = t := by
  have hn : n ≤ 12 := by have := ht.2.1; omega
  have g0 := gd_u hn ht.2.2.1.1 ht.2.2.1.2.1 ht.2.2.1.2.2
  have g1 := gd_lim hn g0 (Nat.zero_le _) (Nat.le_refl _) (uni_c ht)
  unfold unr
  rw [sat_lim hn g1 (Nat.le_refl _) (Nat.zero_le _), sat_lim hn g0 (Nat.zero_le _) (Nat.le_refl _), sat_u hn]
  constructor
  · rintro ⟨⟨a, b⟩, c⟩; exact ⟨a, by omega⟩
  · rintro ⟨a, b⟩; exact ⟨⟨a, by omega⟩, by omega⟩
/-- What a reading says of places. -/
def RdS (n : Nat) (r : Int × Int × Int × Int) (p : Nat → Int) : Prop := p r.2.1.toNat - p r.1.toNat ≤ r.2.2.2 ∧ (r.2.1 < n → r.2.2.1 + 1 ≤ p (r.2.1.toNat + 1) - p r.1.toNat)
theorem s96 {N n : Nat} {t lo hi : Int} {F : Nat → Int} {r : Int × Int × Int × Int} (hn : n ≤ 12) (h : Gd n F) (hr : RdOk' n r) (hN : 1000 ≤ N) :
    (∃ F', sf96 N n t lo hi ((n : Int) + 1) F r.1 r.2.1 r.2.2.1 r.2.2.2 = some ((n : Int), t, lo, hi, (n : Int) + 1, F', true) ∧ Gd n F' ∧ ∀ p, SatF n F' p ↔ SatF n F p ∧ RdS n r p) ∨
    (sf96 N n t lo hi ((n : Int) + 1) F r.1 r.2.1 r.2.2.1 r.2.2.2 = some ((0 : Int), (0 : Int), (0 : Int), (0 : Int), (0 : Int), (fun _ => 0), false) ∧ ∀ p, SatF n F p → ¬ RdS n r p) := by
  obtain ⟨f, g, vl, vh⟩ := r
  obtain ⟨h1, h2, h3⟩ := hr
  dsimp only at h1 h2 h3
  obtain ⟨f, rfl⟩ : ∃ k : Nat, f = k := ⟨f.toNat, by omega⟩
  obtain ⟨g, rfl⟩ : ∃ k : Nat, g = k := ⟨g.toNat, by omega⟩
  have hf : f ≤ n := by omega
  have hg : g ≤ n := by omega
  unfold RdS
  simp only [toN]
  unfold sf96
  rw [s103 hn hf hg h (by omega), bnd_ret]
  by_cases c1 : 0 ≤ vh + F (g * 13 + f)
  · have G1 := gd_lim hn h hf hg c1
    rw [decide_eq_true c1, Bool.not_true, cond_false, l96_2, lO_run hn hf hg h (by omega) c1 (by omega), bnd_ret]
    by_cases c2 : g < n
    · rw [decide_eq_true (by omega), cond_true, ck_pos (by unfold rng; omega), ck_pos (by unfold rng; omega), ck_pos (by unfold rng; omega), show (g : Int) + 1 = ((g + 1 : Nat) : Int) from rfl, s103 hn (by omega) hf G1 (by omega), bnd_ret]
      by_cases c3 : 0 ≤ -vl - 1 + rowS n f g vh F (n + 1) (f * 13 + (g + 1))
      · have G2 := gd_lim hn G1 (f := g + 1) (g := f) (by omega) hf c3
        rw [decide_eq_true c3, Bool.not_true, cond_false, l96_4]
        refine .inl ⟨rowS n (g + 1) f (-vl - 1) (rowS n f g vh F (n + 1)) (n + 1), ?_, G2, fun p => ?_⟩
        · have := lO_run (N := N) hn (f := g + 1) (g := f) (by omega) hf G1 (m := -vl - 1) (by omega) c3 (by omega)
          rw [show ((g : Int) + 1) = ((g + 1 : Nat) : Int) from rfl, this, bnd_ret, bnd_ret]
          rfl
        · rw [sat_lim hn G1 (by omega) hf, sat_lim hn h hf hg]
          constructor
          · rintro ⟨⟨a, b⟩, c⟩; exact ⟨a, b, fun _ => by omega⟩
          · rintro ⟨a, b, c⟩; have := c (by omega); exact ⟨⟨a, b⟩, by omega⟩
      · rw [decide_eq_false c3, Bool.not_false, cond_true, bnd_ret]
        refine .inr ⟨rfl, fun p hp ⟨q1, q2⟩ => c3 ?_⟩
        have := (sat_lim (m := vh) hn h hf hg).2 ⟨hp, q1⟩ f (g + 1) hf (by omega)
        have := q2 (by omega)
        omega
    · rw [decide_eq_false (by omega), cond_false, bnd_ret]
      refine .inl ⟨rowS n f g vh F (n + 1), rfl, G1, fun p => ?_⟩
      rw [sat_lim hn h hf hg]
      constructor
      · rintro ⟨a, b⟩; exact ⟨a, b, fun q => absurd q (by omega)⟩
      · rintro ⟨a, b, _⟩; exact ⟨a, b⟩
  · rw [decide_eq_false c1, Bool.not_false, cond_true]
    refine .inr ⟨rfl, fun p hp ⟨q1, q2⟩ => c1 ?_⟩
    have := hp g f hg hf
    omega
end Go.Hx.V

/- Bore: the bounds of all marks by any readings: those of all places that they leave. -/
namespace Go.Hx.V
open Go.Hx
set_option linter.unusedVariables false
/-- Places that the tube and some readings leave. -/
def TruS (n : Nat) (t lo hi : Int) (L : List (Int × Int × Int × Int)) (p : Nat → Int) : Prop := (CellS n lo hi p ∧ p n - p 0 = t) ∧ ∀ r, r ∈ L → RdS n r p
theorem mem_snoc {α : Type} {P : α → Prop} {l : List α} {x : α} : (∀ r, r ∈ l ++ [x] → P r) ↔ (∀ r, r ∈ l → P r) ∧ P x := by
  constructor
  · exact fun h => ⟨fun r hr => h r (List.mem_append.2 (.inl hr)), h x (List.mem_append.2 (.inr (List.mem_singleton.2 rfl)))⟩
  · rintro ⟨h1, h2⟩ r hr
    rcases List.mem_append.1 hr with q | q
    · exact h1 r q
    · rw [List.mem_singleton.1 q]; exact h2
theorem iter_s {α β : Type} {step : α → Option (α ⊕ β)} {x x' : α} {M : Nat} (h : step x = some (.inl x')) : iter step (M + 1) x = iter step M x' := by
  conv => lhs; unfold iter
  rw [h]; rfl
theorem iter_e {α β : Type} {step : α → Option (α ⊕ β)} {x : α} {y : β} {M : Nat} (h : step x = some (.inr y)) : iter step (M + 1) x = some y := by
  unfold iter
  rw [h]; rfl
theorem s89_loop {N n : Nat} {t lo hi : Int} {L : List (Int × Int × Int × Int)} (hn : n ≤ 12) (hL : L.length ≤ 100) (hr : AllP (RdOk' n) L) (hN : 1000 ≤ N) : ∀ (k j M : Nat) (mp : Int × Int × Int × Int → Option Bool) (F : Nat → Int), j + k = L.length → k < M → Gd n F → (∀ p, SatF n F p ↔ (CellS n lo hi p ∧ p n - p 0 = t) ∧ ∀ r, r ∈ L.take j → RdS n r p) → (∀ r b, mp r = some b → r ∈ L.take j) →
    (∃ mp' F', iter (sf89_L1 N L) M ((j : Int), mp, (n : Int), t, lo, hi, (n : Int) + 1, F, (0 : Int), (0 : Int), (0 : Int), (0 : Int), (0 : Int), (fun _ => 0)) = some (.inr (mp', (n : Int), t, lo, hi, (n : Int) + 1, F', (0 : Int), (0 : Int), (0 : Int), (0 : Int), (0 : Int), (fun _ => 0))) ∧ Gd n F' ∧ ∀ p, SatF n F' p ↔ TruS n t lo hi L p) ∨
    (∃ w : ((Int × Int × Int × Int) → Option Bool) × Int × Int × Int × Int × Int × (Nat → Int), iter (sf89_L1 N L) M ((j : Int), mp, (n : Int), t, lo, hi, (n : Int) + 1, F, (0 : Int), (0 : Int), (0 : Int), (0 : Int), (0 : Int), (fun _ => 0)) = some (.inl (w.1, w.2.1, w.2.2.1, w.2.2.2.1, w.2.2.2.2.1, w.2.2.2.2.2.1, w.2.2.2.2.2.2, (0 : Int), (0 : Int), (0 : Int), (0 : Int), (0 : Int), (fun _ => 0))) ∧ ∀ p, ¬ TruS n t lo hi L p)
  | 0, j, 0, mp, F, hj, hM, _, _, _ => by omega
  | 0, j, M + 1, mp, F, hj, hM, hG, hS, hm => by
    refine .inl ⟨mp, F, iter_e ?_, hG, fun p => ?_⟩
    · unfold sf89_L1
      dsimp only
      rw [decide_eq_false (by omega), cond_false]
    · rw [hS p, List.take_of_length_le (by omega)]
      rfl
  | k + 1, j, 0, mp, F, hj, hM, _, _, _ => by omega
  | k + 1, j, M + 1, mp, F, hj, hM, hG, hS, hm => by
    obtain ⟨z, hz⟩ : ∃ z, L[j]? = some z := ⟨_, lt_some (by omega)⟩
    have hzL : z ∈ L := List.mem_of_getElem? hz
    have tk := take_succ' hz
    have hck : rng ((j : Int) + 1) := by unfold rng; omega
    by_cases hmp : mp z = some true
    · have hz0 := hm z true hmp
      have key : ∀ p, ((CellS n lo hi p ∧ p n - p 0 = t) ∧ ∀ r, r ∈ L.take (j + 1) → RdS n r p) ↔ ((CellS n lo hi p ∧ p n - p 0 = t) ∧ ∀ r, r ∈ L.take j → RdS n r p) := fun p => by
        rw [tk, mem_snoc]
        exact ⟨fun ⟨a, b, c⟩ => ⟨a, b⟩, fun ⟨a, b⟩ => ⟨a, b, b z hz0⟩⟩
      have e1 : sf89_L1 N L ((j : Int), mp, (n : Int), t, lo, hi, (n : Int) + 1, F, (0 : Int), (0 : Int), (0 : Int), (0 : Int), (0 : Int), (fun _ => 0)) = some (.inl (((j + 1 : Nat) : Int), mp, (n : Int), t, lo, hi, (n : Int) + 1, F, (0 : Int), (0 : Int), (0 : Int), (0 : Int), (0 : Int), (fun _ => 0))) := by
        unfold sf89_L1
        dsimp only
        rw [decide_eq_true (by omega), cond_true, ix_at rfl hz, hmp, show Option.getD (some true) false = true from rfl, cond_true, ck_pos hck]
        rfl
      rw [iter_s e1]
      exact s89_loop hn hL hr hN k (j + 1) M mp F (by omega) (by omega) hG (fun p => by rw [hS p, key p]) (fun r b q => by rw [tk]; exact List.mem_append.2 (.inl (hm r b q)))
    · have hg : Option.getD (mp z) false = false := by
        cases h : mp z with
        | none => rfl
        | some b =>
          cases b with
          | true => exact absurd h hmp
          | false => rfl
      rcases s96 (N := N) (t := t) (lo := lo) (hi := hi) hn hG (hr z hzL) hN with ⟨F', e, G', S'⟩ | ⟨e, S'⟩
      · have e1 : sf89_L1 N L ((j : Int), mp, (n : Int), t, lo, hi, (n : Int) + 1, F, (0 : Int), (0 : Int), (0 : Int), (0 : Int), (0 : Int), (fun _ => 0)) = some (.inl (((j + 1 : Nat) : Int), upm mp z true, (n : Int), t, lo, hi, (n : Int) + 1, F', (0 : Int), (0 : Int), (0 : Int), (0 : Int), (0 : Int), (fun _ => 0))) := by
          unfold sf89_L1
          dsimp only
          rw [decide_eq_true (by omega), cond_true, ix_at rfl hz, hg, cond_false, e, bnd_ret]
          dsimp only
          rw [Bool.not_true, cond_false, ck_pos hck]
          rfl
        rw [iter_s e1]
        exact s89_loop hn hL hr hN k (j + 1) M _ F' (by omega) (by omega) G' (fun p => by rw [S' p, hS p, tk, mem_snoc]; exact ⟨fun ⟨⟨a, b⟩, c⟩ => ⟨a, b, c⟩, fun ⟨a, b, c⟩ => ⟨⟨a, b⟩, c⟩⟩) (fun r b q => by
          unfold upm at q
          rw [tk]
          by_cases hrz : r = z
          · rw [hrz]; exact List.mem_append.2 (.inr (List.mem_singleton.2 rfl))
          · rw [if_neg hrz] at q; exact List.mem_append.2 (.inl (hm r b q)))
      · have e1 : sf89_L1 N L ((j : Int), mp, (n : Int), t, lo, hi, (n : Int) + 1, F, (0 : Int), (0 : Int), (0 : Int), (0 : Int), (0 : Int), (fun _ => 0)) = some (.inr (.inl (upm mp z true, (0 : Int), (0 : Int), (0 : Int), (0 : Int), (0 : Int), (fun _ => 0), (0 : Int), (0 : Int), (0 : Int), (0 : Int), (0 : Int), (fun _ => 0)))) := by
          unfold sf89_L1
          dsimp only
          rw [decide_eq_true (by omega), cond_true, ix_at rfl hz, hg, cond_false, e, bnd_ret]
          rfl
        exact .inr ⟨(upm mp z true, (0 : Int), (0 : Int), (0 : Int), (0 : Int), (0 : Int), (fun _ => 0)), iter_e e1, fun p hp => S' p ((hS p).2 ⟨hp.1, fun r hr' => hp.2 r (List.mem_of_mem_take hr')⟩) (hp.2 z hzL)⟩
theorem s89 {N n : Nat} {t lo hi : Int} {L : List (Int × Int × Int × Int)} (ht : TubeOk n t lo hi) (hL : L.length ≤ 100) (hr : AllP (RdOk' n) L) (hN : 1000 ≤ N) :
    (∃ F, sf89 N n t lo hi L = some ((n : Int), t, lo, hi, (n : Int) + 1, F, true) ∧ Gd n F ∧ ∀ p, SatF n F p ↔ TruS n t lo hi L p) ∨
    (sf89 N n t lo hi L = some ((0 : Int), (0 : Int), (0 : Int), (0 : Int), (0 : Int), (fun _ => 0), false) ∧ ∀ p, ¬ TruS n t lo hi L p) := by
  have hn : n ≤ 12 := by have := ht.2.1; omega
  obtain ⟨e97, g97, _, _⟩ := s97 (N := N) ht hN
  unfold sf89
  rw [e97, bnd_ret]
  dsimp only
  rcases s89_loop (N := N) (t := t) (lo := lo) (hi := hi) hn hL hr hN L.length 0 N (fun _ => none) (unr n t lo hi) (by omega) (by omega) g97 (fun p => by rw [sat_unr ht]; simp) (fun r b q => by cases q) with ⟨mp', F', e, G, S⟩ | ⟨w, e, S⟩
  · refine .inl ⟨F', ?_, G, S⟩
    rw [show (0 : Int) = ((0 : Nat) : Int) from rfl] at e ⊢
    rw [e]; rfl
  · refine .inr ⟨?_, S⟩
    rw [show (0 : Int) = ((0 : Nat) : Int) from rfl] at e ⊢
    rw [e]; rfl
def bdF (n : Nat) (F : Nat → Int) : List (Int × Int) := (List.range (n + 1)).map fun (i : Nat) => (-F (i * 13 + 0), F (0 * 13 + i))
theorem bdF_len {n : Nat} {F : Nat → Int} : (bdF n F).length = n + 1 := by unfold bdF; simp
theorem bdF_at {n i : Nat} {F : Nat → Int} (h : i ≤ n) : (bdF n F)[i]? = some (-F (i * 13 + 0), F (0 * 13 + i)) := by
  unfold bdF
  rw [List.getElem?_map, List.getElem?_range (by omega)]; rfl
theorem s73F {N n : Nat} {t lo hi : Int} {F : Nat → Int} (hn : n ≤ 12) (gd : Gd n F) (hN : 1000 ≤ N) : sf73 N n t lo hi ((n : Int) + 1) F = some (bdF n F) := by
  unfold sf73
  have e : iter (sf73_L1 N n t lo hi ((n : Int) + 1) F) N (([] : List (Int × Int)), (0 : Int)) = some (bdF n F) := by
    refine iter_up (fun k => ((List.range k).map (fun i : Nat => (-F (i * 13 + 0), F (0 * 13 + i))), (k : Int))) (n + 1) _ rfl (fun k hk => ?_) ?_ (by omega)
    · have l1 := gd.lb (i := k) (j := 0) (by omega) (by omega)
      have l2 := gd.ub k 0 (by omega) (by omega)
      have x90 : sf90 N n t lo hi ((n : Int) + 1) F k = some (-F (k * 13 + 0)) := by
        unfold sf90
        rw [ck_pos (by omega), ck_pos (by omega), toN, show Int.toNat 0 = 0 from rfl, ck_pos (by unfold rng; omega)]
      have x91 : sf91 N n t lo hi ((n : Int) + 1) F k = some (F (0 * 13 + k)) := by
        unfold sf91
        rw [ck_pos (by omega), ck_pos (by omega), toN, show Int.toNat 0 = 0 from rfl]
      unfold sf73_L1
      dsimp only
      rw [decide_eq_true (by omega), cond_true, x90, bnd_ret, x91, bnd_ret, ck_pos (by simp; omega), ck_pos (by unfold rng; omega), List.range_succ, List.map_append]
      rfl
    · unfold sf73_L1
      dsimp only
      rw [decide_eq_false (by omega), cond_false]
      rfl
  rw [show sf77 N = some () from rfl, bnd_ret, ck_pos (by unfold rng; omega), ck_pos (by omega), show List.replicate (Int.toNat 0) ((0 : Int), (0 : Int)) = [] from rfl, e, bnd_ret]
/-- Both ends are those of places. -/
theorem low_sat {n : Nat} {F : Nat → Int} (h : Gd n F) : SatF n F fun j => -F (j * 13 + 0) := fun i j hi hj => by
  have := h.tri i j 0 hi hj (Nat.zero_le _)
  show -F (j * 13 + 0) - -F (i * 13 + 0) ≤ _
  omega
theorem high_sat {n : Nat} {F : Nat → Int} (h : Gd n F) : SatF n F fun j => F (0 * 13 + j) := fun i j hi hj => by
  have := h.tri 0 i j (Nat.zero_le _) hi hj
  show F (0 * 13 + j) - F (0 * 13 + i) ≤ _
  omega
end Go.Hx.V

/- Bore: truths, and what is read of them, by words. -/
namespace Go.Hx.V
open Go.Hx
set_option linter.unusedVariables false
def W16 (x : Int) : Prop := 0 ≤ x ∧ x < 65536
theorem tm {a b : Int} (ha : 0 ≤ a) (hb : 0 < b) : 0 ≤ Int.tmod a b ∧ Int.tmod a b < b := by
  rw [Int.tmod_eq_emod_of_nonneg ha]
  exact ⟨Int.emod_nonneg _ (by omega), Int.emod_lt_of_pos _ hb⟩
theorem td {a b : Int} (ha : 0 ≤ a) : Int.tdiv a b = a / b := Int.tdiv_eq_ediv_of_nonneg ha
theorem tme {a b : Int} (ha : 0 ≤ a) : Int.tmod a b = a % b := Int.tmod_eq_emod_of_nonneg ha
theorem wrap_id {x : Int} (h : W16 x) : IntKind.wrap .i64 x = x := by
  unfold W16 at h
  have e : x % 2 ^ IntKind.bits .i64 = x := by
    show x % 18446744073709551616 = x
    omega
  unfold IntKind.wrap
  simp only [e]
  rw [if_neg]
  intro hc
  have hc2 := of_decide_eq_true (Bool.and_eq_true_iff.1 hc).2
  have : (9223372036854775808 : Int) ≤ x := hc2
  omega
theorem s62 {N : Nat} {l : List Int} {k : Int} (hl : AllP W16 l) (hk : 0 ≤ k) : ∃ w, sf62 N l k = some w ∧ W16 w := by
  unfold sf62
  by_cases h : l.length = 0
  · rw [decide_eq_true (by omega), cond_true]; exact ⟨0, rfl, by unfold W16; omega⟩
  · rw [decide_eq_false (by omega), cond_false, ck_pos (by omega)]
    have := tm (a := k) (b := l.length) hk (by omega)
    obtain ⟨j, hj⟩ : ∃ j : Nat, Int.tmod k l.length = j := ⟨(Int.tmod k l.length).toNat, by omega⟩
    obtain ⟨z, hz⟩ : ∃ z, l[j]? = some z := ⟨_, lt_some (by omega)⟩
    have hw := hl z (List.mem_of_getElem? hz)
    rw [hj, ix_at rfl hz, ck_pos (wrap_id hw)]
    exact ⟨z, rfl, hw⟩
theorem s53 {N n : Nat} {t lo hi : Int} {W : List Int} (ht : TubeOk n t lo hi) (hW : AllP W16 W) (hN : 1000 ≤ N) : ∃ v, sf53 N n t lo hi W = some v ∧ v.length = n ∧ AllP (InV lo hi) v ∧ v.sum = t := by
  obtain ⟨t1, t2, ⟨t3, t4, t5⟩, t6, t7, t8, t9⟩ := ht
  have H := iter_ind (step := sf53_L1 N n lo hi W) (fun x => ∃ k : Nat, x.2.2 = k ∧ k ≤ n ∧ x.1.length = k ∧ AllP (InV lo hi) x.1 ∧ x.1.sum + x.2.1 = t ∧ ((n : Int) - k) * lo ≤ x.2.1 ∧ x.2.1 ≤ ((n : Int) - k) * hi) (fun x => n - x.2.2.toNat) (fun v => v.length = n ∧ AllP (InV lo hi) v ∧ v.sum = t) (by
    rintro ⟨out, left, _⟩ ⟨k, rfl, hk, hl, hA, hsum, b1, b2⟩
    dsimp only at hl hA hsum b1 b2 ⊢
    by_cases hkn : k < n
    · refine .inl ?_
      have e1 : ((n : Int) - k) * lo = ((n : Int) - 1 - k) * lo + lo := by rw [show (n : Int) - k = ((n : Int) - 1 - k) + 1 by omega, Int.add_mul, Int.one_mul]
      have e2 : ((n : Int) - k) * hi = ((n : Int) - 1 - k) * hi + hi := by rw [show (n : Int) - k = ((n : Int) - 1 - k) + 1 by omega, Int.add_mul, Int.one_mul]
      have m1 := mul_b (d := (n : Int) - 1 - k) (a := lo) (by omega) (by omega) (by omega) (by omega)
      have m2 := mul_b (d := (n : Int) - 1 - k) (a := hi) (by omega) (by omega) (by omega) (by omega)
      obtain ⟨w, ew, hw⟩ := s62 (N := N) (l := W) (k := (k : Int)) hW (by omega)
      rw [e1] at b1
      rw [e2] at b2
      have mm : ((n : Int) - 1 - k) * lo ≤ ((n : Int) - 1 - k) * hi := Int.mul_le_mul_of_nonneg_left t4 (by omega)
      generalize hX : ((n : Int) - 1 - k) * lo = X at *
      generalize hY : ((n : Int) - 1 - k) * hi = Y at *
      have hh : 0 < min hi (left - X) - max lo (left - Y) + 1 := by omega
      have tq := tm (a := w) (b := min hi (left - X) - max lo (left - Y) + 1) (by unfold W16 at hw; omega) hh
      unfold sf53_L1
      dsimp only
      generalize hT : Int.tmod w (min hi (left - X) - max lo (left - Y) + 1) = T at *
      refine ⟨(out ++ [max lo (left - Y) + T], left - (max lo (left - Y) + T), ((k + 1 : Nat) : Int)), ?_, ⟨k + 1, rfl, by omega, by simp; omega, ?_, ?_, ?_⟩, by dsimp only; omega⟩
      · rw [decide_eq_true (by omega), cond_true, ck_pos (by unfold rng; omega), ck_pos (by unfold rng; omega), hY, hX, ck_pos (by unfold rng; omega), ck_pos (by unfold rng; omega), ck_pos (by unfold rng; omega), ck_pos (by unfold rng; omega), ew, bnd_ret, ck_pos (by unfold rng; omega), ck_pos (by unfold rng; omega), ck_pos (by omega), hT, ck_pos (by unfold rng; omega), ck_pos (by omega), ck_pos (by unfold rng; omega), ck_pos (by unfold rng; omega)]
        rfl
      · intro x hx
        rcases List.mem_append.1 hx with q | q
        · exact hA x q
        · rw [List.mem_singleton.1 q]; unfold InV; omega
      · dsimp only
        rw [List.sum_append]; simp; omega
      · dsimp only
        rw [show ((n : Int) - ((k + 1 : Nat) : Int)) = (n : Int) - 1 - k by omega, hX, hY]
        omega
    · refine .inr ⟨out, ?_, by omega, hA, ?_⟩
      · unfold sf53_L1
        dsimp only
        rw [decide_eq_false (by omega), cond_false]
      · have : k = n := by omega
        subst this
        rw [show (k : Int) - k = 0 by omega, Int.zero_mul] at b1 b2
        omega) N (([] : List Int), t, (0 : Int)) ⟨0, rfl, by omega, rfl, fun x hx => (by cases hx), by simp, by simpa using t8, by simpa using t9⟩ (by dsimp only; omega)
  obtain ⟨v, e, q1, q2, q3⟩ := H
  refine ⟨v, ?_, q1, q2, q3⟩
  unfold sf53
  rw [e, bnd_ret]
theorem hs_all {l : List Int} {k : Nat} (h : l.length = k) : hs l k = l.sum := by
  unfold hs
  rw [List.take_of_length_le (by omega)]
theorem vol_of {lo hi : Int} {l : List Int} (h1 : 1 ≤ lo) (h2 : hi ≤ 200) (h : AllP (InV lo hi) l) : AllP Vol l := fun x hx => by
  have := h x hx
  unfold InV at this
  unfold Vol; omega
theorem hs_cell {lo hi : Int} {l : List Int} {n : Nat} (hl : l.length = n) (h : AllP (InV lo hi) l) : CellS n lo hi (hs l) := fun i hi' => by
  obtain ⟨x, hx⟩ : ∃ x, l[i]? = some x := ⟨_, lt_some (by omega)⟩
  have := h x (List.mem_of_getElem? hx)
  unfold InV at this
  rw [hs_succ hx]; omega
theorem hs_mono {l : List Int} (h : AllP Vol l) (i : Nat) : ∀ d, i + d ≤ l.length → hs l i ≤ hs l (i + d)
  | 0, _ => Int.le_refl _
  | d + 1, hd => by
    have ih := hs_mono h i d (by omega)
    obtain ⟨x, hx⟩ : ∃ x, l[i + d]? = some x := ⟨_, lt_some (by omega)⟩
    have := h x (List.mem_of_getElem? hx)
    unfold Vol at this
    rw [← Nat.add_assoc, hs_succ hx]; omega
def RdX (n : Nat) (v : List Int) (r : Int × Int × Int × Int) : Prop := RdOk' n r ∧ RdS n r (hs v)
theorem s54 {N n : Nat} {t lo hi : Int} {v W : List Int} (ht : TubeOk n t lo hi) (hl : v.length = n) (hv : AllP (InV lo hi) v) (hs' : v.sum = t) (hW : AllP W16 W) (hN : 1000 ≤ N) : ∃ L, sf54 N n t lo hi v W = some L ∧ L.length ≤ 12 ∧ L.length ≤ W.length ∧ AllP (RdX n v) L := by
  obtain ⟨t1, t2, ⟨t3, t4, t5⟩, t6, t7, t8, t9⟩ := ht
  have hb := vol_of t3 t5 hv
  have ht' : hs v n = t := by rw [hs_all hl, hs']
  have H := iter_ind (step := sf54_L2 N n t v W) (fun x => ∃ k : Nat, x.2 = k ∧ k ≤ 12 ∧ k ≤ W.length ∧ x.1.length = k ∧ AllP (RdX n v) x.1) (fun x => 12 - x.2.toNat) (fun L => L.length ≤ 12 ∧ L.length ≤ W.length ∧ AllP (RdX n v) L) (by
    rintro ⟨out, _⟩ ⟨k, rfl, hk, hkw, hlen, hA⟩
    dsimp only at hlen hA ⊢
    by_cases hc : k < W.length ∧ k < 12
    · refine .inl ?_
      obtain ⟨w, hw⟩ : ∃ w, W[k]? = some w := ⟨_, lt_some hc.1⟩
      have w16 := hW w (List.mem_of_getElem? hw)
      have w0 : 0 ≤ w := w16.1
      have tf := tm (a := w) (b := n) w0 (by omega)
      obtain ⟨f, hf⟩ : ∃ f : Nat, Int.tmod w n = f := ⟨(Int.tmod w n).toNat, by omega⟩
      have hfn : f < n := by omega
      have bf := hs_b hb f (by omega)
      have mf := hs_mono hb f (n - f) (by omega)
      rw [show f + (n - f) = n by omega, ht'] at mf
      unfold W16 at w16
      have ea : Int.tdiv w 16 = w / 16 := td w0
      have eb : Int.tmod (Int.tdiv w 16) 256 = w / 16 % 256 := by rw [ea, tme (by omega)]
      have ec : Int.tdiv w 4096 = w / 4096 := td w0
      have ed : Int.tmod (Int.tdiv w 4096) 4 = w / 4096 % 4 := by rw [ec, tme (by omega)]
      have ee : Int.tdiv w 8192 = w / 8192 := td w0
      have ef : Int.tmod (Int.tdiv w 8192) 3 = w / 8192 % 3 := by rw [ee, tme (by omega)]
      obtain ⟨A, hAdef⟩ : ∃ A, A = w / 16 % 256 := ⟨_, rfl⟩
      have A0 : 0 ≤ A ∧ A ≤ 255 := by omega
      obtain ⟨B, hB⟩ : ∃ B, B = t - hs v f + 5 := ⟨_, rfl⟩
      have B0 : 5 ≤ B ∧ B ≤ 2005 := by omega
      have p1 : 0 * B ≤ A * B := Int.mul_le_mul_of_nonneg_right A0.1 (by omega)
      have p2 : A * B ≤ 255 * B := Int.mul_le_mul_of_nonneg_right A0.2 (by omega)
      obtain ⟨T, hT⟩ : ∃ T, Int.tdiv (A * B) 256 = T := ⟨_, rfl⟩
      have T0 : 0 ≤ T ∧ T ≤ 1998 := by rw [td (by omega)] at hT; omega
      obtain ⟨a, ha⟩ : ∃ a, a = w / 4096 % 4 := ⟨_, rfl⟩
      obtain ⟨b, hb'⟩ : ∃ b, b = w / 8192 % 3 := ⟨_, rfl⟩
      have a0 : 0 ≤ a ∧ a ≤ 3 := by omega
      have b0 : 0 ≤ b ∧ b ≤ 2 := by omega
      -- where the thread ends
      have hin : ∃ g : Nat, iter (sf54_L1 N n t v w (hs v f)) N (f : Int) = some (g : Int) ∧ f ≤ g ∧ g ≤ n ∧ hs v g - hs v f ≤ T ∧ (g < n → T < hs v (g + 1) - hs v f) := by
        have H := iter_ind (step := sf54_L1 N n t v w (hs v f)) (fun x => ∃ g : Nat, x = g ∧ f ≤ g ∧ g ≤ n ∧ hs v g - hs v f ≤ T) (fun x => n - x.toNat) (fun y => ∃ g : Nat, y = g ∧ f ≤ g ∧ g ≤ n ∧ hs v g - hs v f ≤ T ∧ (g < n → T < hs v (g + 1) - hs v f)) (by
          rintro _ ⟨g, rfl, g1, g2, g3⟩
          unfold sf54_L1
          rw [hf, eb, ← hAdef, ← hB, hT]
          by_cases hg : g < n
          · have bg := hs_b hb (g + 1) (by omega)
            rw [decide_eq_true (by omega), cond_true, ck_pos (by unfold rng; omega), show (g : Int) + 1 = ((g + 1 : Nat) : Int) from rfl, s38 (by omega) (by omega) hb hN, bnd_ret, s38 (by omega) (by omega) hb hN, bnd_ret, ck_pos (by unfold rng; omega)]
            by_cases hd : hs v (g + 1) - hs v f ≤ T
            · rw [decide_eq_true hd, bnd_ret, cond_true, ck_pos (by unfold rng; omega)]
              exact .inl ⟨_, rfl, ⟨g + 1, rfl, by omega, by omega, hd⟩, by omega⟩
            · rw [decide_eq_false hd, bnd_ret, cond_false]
              exact .inr ⟨_, rfl, g, rfl, g1, g2, g3, fun _ => by omega⟩
          · rw [decide_eq_false (by omega), cond_false, bnd_ret, cond_false]
            exact .inr ⟨_, rfl, g, rfl, g1, g2, g3, fun q => absurd q hg⟩) N (f : Int) ⟨f, rfl, Nat.le_refl _, by omega, by omega⟩ (by omega)
        obtain ⟨y, e, g, rfl, q⟩ := H
        exact ⟨g, e, q⟩
      obtain ⟨g, eg, g1, g2, g3, g4⟩ := hin
      refine ⟨(out ++ [((f : Int), (g : Int), max 0 (T - a), min 2000 (T + b))], ((k + 1 : Nat) : Int)), ?_, ⟨k + 1, rfl, by omega, by omega, by simp; omega, ?_⟩, by dsimp only; omega⟩
      · unfold sf54_L2
        dsimp only
        rw [decide_eq_true (by omega), cond_true, decide_eq_true (by omega), bnd_ret, cond_true, bnd_ret, sL, ix_at rfl hw, ck_pos (wrap_id ⟨w0, by omega⟩), ck_pos (by omega), ck_pos (by rw [ea]; unfold rng; omega), ck_pos (by omega), hf, s38 (by omega) (by omega) hb hN, bnd_ret, ck_pos (by unfold rng; omega), ck_pos (by unfold rng; omega), eb, ← hAdef, ← hB, ck_pos (by unfold rng; omega), hT, ck_pos (by unfold rng; omega), eg, bnd_ret, ed, ef, ← ha, ← hb', ck_pos (by rw [ec]; unfold rng; omega), ck_pos (by omega), ck_pos (by unfold rng; omega), ck_pos (by rw [ee]; unfold rng; omega), ck_pos (by omega), ck_pos (by unfold rng; omega), ck_pos (by omega), ck_pos (by unfold rng; omega)]
        rfl
      · intro x hx
        rcases List.mem_append.1 hx with q | q
        · exact hA x q
        · rw [List.mem_singleton.1 q]
          refine ⟨⟨⟨by dsimp only; omega, by dsimp only; omega⟩, ⟨by dsimp only; omega, by dsimp only; omega⟩, by dsimp only; omega, by dsimp only; omega, by dsimp only; omega⟩, ?_, fun q => ?_⟩
          · dsimp only [toN]
            show hs v (Int.toNat g) - hs v (Int.toNat f) ≤ _
            rw [toN, toN]; omega
          · dsimp only at q ⊢
            rw [toN, toN]
            have := g4 (by omega)
            omega
    · refine .inr ⟨out, ?_, by omega, by omega, hA⟩
      unfold sf54_L2
      dsimp only
      by_cases h1 : k < W.length
      · rw [decide_eq_true (by omega), cond_true, decide_eq_false (by omega)]; rfl
      · rw [decide_eq_false (by omega), cond_false]; rfl) N (([] : List (Int × Int × Int × Int)), (0 : Int)) ⟨0, rfl, by omega, by omega, rfl, fun x hx => (by cases hx)⟩ (by dsimp only; omega)
  obtain ⟨L, e, q1, q2, q3⟩ := H
  refine ⟨L, ?_, q1, q2, q3⟩
  unfold sf54
  rw [e, bnd_ret]
theorem tru_of {n : Nat} {t lo hi : Int} {v : List Int} {L : List (Int × Int × Int × Int)} (hl : v.length = n) (hv : AllP (InV lo hi) v) (hs' : v.sum = t) (hL : AllP (RdX n v) L) : TruS n t lo hi L (hs v) := by
  refine ⟨⟨hs_cell hl hv, ?_⟩, fun r hr => (hL r hr).2⟩
  rw [hs_all hl, hs']
  show t - hs v 0 = t
  unfold hs; simp
end Go.Hx.V

/- BoreEnds: what the law comes to. -/
namespace Go.Hx.V
open Go.Hx
set_option linter.unusedVariables false
/-- The volumes between places. -/
def vols (n : Nat) (p : Nat → Int) : List Int := (List.range n).map fun j => p (j + 1) - p j
theorem vols_len {n : Nat} {p : Nat → Int} : (vols n p).length = n := by unfold vols; simp
theorem vols_at {n j : Nat} {p : Nat → Int} (h : j < n) : (vols n p)[j]? = some (p (j + 1) - p j) := by
  unfold vols
  rw [List.getElem?_map, List.getElem?_range h]; rfl
theorem hs_vols {n : Nat} {p : Nat → Int} : ∀ k, k ≤ n → hs (vols n p) k = p k - p 0
  | 0, _ => by unfold hs; simp
  | k + 1, h => by
    rw [hs_succ (vols_at (p := p) (show k < n by omega)), hs_vols k (by omega)]; omega
theorem vols_in {n : Nat} {lo hi : Int} {p : Nat → Int} (h : CellS n lo hi p) : AllP (InV lo hi) (vols n p) := fun x hx => by
  obtain ⟨j, hj, rfl⟩ := List.mem_map.1 hx
  exact h j (List.mem_range.1 hj)
theorem right_of {n : Nat} {lo hi : Int} {p : Nat → Int} {r : Int × Int × Int × Int} (hlo : 1 ≤ lo) (hc : CellS n lo hi p) (hr : RdOk' n r) (h : RdS n r p) : RightP (vols n p) r := by
  obtain ⟨f, g, vl, vh⟩ := r
  obtain ⟨h1, h2, h3⟩ := hr
  dsimp only at h1 h2 h3
  obtain ⟨f, rfl⟩ : ∃ k : Nat, f = k := ⟨f.toNat, by omega⟩
  obtain ⟨g, rfl⟩ : ∃ k : Nat, g = k := ⟨g.toNat, by omega⟩
  obtain ⟨q1, q2⟩ := h
  dsimp only at q1 q2
  rw [toN, toN] at q1 q2
  rw [rp, vols_len, hs_vols g (by omega), hs_vols f (by omega)]
  by_cases c : (g : Int) < n
  · have := q2 c
    have := hc g (by omega)
    rw [if_pos c, hs_vols (g + 1) (by omega)]; omega
  · rw [if_neg c]; omega
section
variable {N n : Nat} {t lo hi : Int} {L : List (Int × Int × Int × Int)} {F : Nat → Int}
theorem s72F (ht : TubeOk n t lo hi) (hL : L.length ≤ 12) (hr : AllP (RdOk' n) L) (h : sf89 N n t lo hi L = some ((n : Int), t, lo, hi, (n : Int) + 1, F, true)) (hN : 1000 ≤ N) : sf72 N n t lo hi L true = some ((n : Int), t, lo, hi, (n : Int) + 1, F, 0) := by
  have e64 : sf64 N n t lo hi L = some 0 := by rw [s64 (by omega) hN, if_pos ht, if_pos hL, if_pos hr]
  unfold sf72
  rw [e64, bnd_ret, decide_eq_true rfl, Bool.not_true, cond_false, cond_false, h, bnd_ret]
  rfl
theorem s29F (ht : TubeOk n t lo hi) (gF : Gd n F) (h : sf72 N n t lo hi L true = some ((n : Int), t, lo, hi, (n : Int) + 1, F, 0)) (hN : 1000 ≤ N) : sf29 N n t lo hi L = some (bdF n F, 0) := by
  unfold sf29
  rw [h, bnd_ret]
  dsimp only
  rw [decide_eq_true rfl, Bool.not_true, cond_false, s73F (by have := ht.2.1; omega) gF hN, bnd_ret]
theorem s90F {k : Nat} (hn : n ≤ 12) (gF : Gd n F) (hk : k ≤ n) : sf90 N n t lo hi ((n : Int) + 1) F k = some (-F (k * 13 + 0)) := by
  have := gF.ub k 0 hk (Nat.zero_le _)
  have := gF.lb (i := k) (j := 0) hk (Nat.zero_le _)
  unfold sf90
  rw [ck_pos (by omega), ck_pos (by omega), toN, show Int.toNat 0 = 0 from rfl, ck_pos (by unfold rng; omega)]
theorem s91F {k : Nat} (hn : n ≤ 12) (hk : k ≤ n) : sf91 N n t lo hi ((n : Int) + 1) F k = some (F (0 * 13 + k)) := by
  unfold sf91
  rw [ck_pos (by omega), ck_pos (by omega), toN, show Int.toNat 0 = 0 from rfl]
theorem s76 (hn : n ≤ 12) (gF : Gd n F) (hN : 1000 ≤ N) : sf76 N n t lo hi ((n : Int) + 1) F = some (vols n fun j => F (0 * 13 + j)) := by
  unfold sf76
  have e : iter (sf76_L1 N n t lo hi ((n : Int) + 1) F) N (([] : List Int), (0 : Int)) = some (vols n fun j => F (0 * 13 + j)) := by
    refine iter_up (fun k => ((List.range k).map (fun j => F (0 * 13 + (j + 1)) - F (0 * 13 + j)), (k : Int))) n _ rfl (fun k hk => ?_) ?_ (by omega)
    · have u1 := gF.ub 0 (k + 1) (Nat.zero_le _) (by omega)
      have u2 := gF.ub 0 k (Nat.zero_le _) (by omega)
      have l1 := gF.lb (i := 0) (j := k + 1) (Nat.zero_le _) (by omega)
      have l2 := gF.lb (i := 0) (j := k) (Nat.zero_le _) (by omega)
      unfold sf76_L1
      dsimp only
      rw [decide_eq_true (by omega), cond_true, ck_pos (by unfold rng; omega), show (k : Int) + 1 = ((k + 1 : Nat) : Int) from rfl, s91F hn (by omega), bnd_ret, s91F hn (by omega), bnd_ret, ck_pos (by unfold rng; omega), ck_pos (by simp; omega), ck_pos (by unfold rng; omega), List.range_succ, List.map_append]
      rfl
    · unfold sf76_L1
      dsimp only
      rw [decide_eq_false (by omega), cond_false]
      rfl
  rw [ck_pos (by omega), show List.replicate (Int.toNat 0) (0 : Int) = [] from rfl, e, bnd_ret]
theorem s76_2 (hn : n ≤ 12) (gF : Gd n F) (hN : 1000 ≤ N) : sf76_2 N n t lo hi ((n : Int) + 1) F = some (vols n fun j => -F (j * 13 + 0)) := by
  unfold sf76_2
  have e : iter (sf76_2_L1 N n t lo hi ((n : Int) + 1) F) N (([] : List Int), (0 : Int)) = some (vols n fun j => -F (j * 13 + 0)) := by
    refine iter_up (fun k => ((List.range k).map (fun j => -F ((j + 1) * 13 + 0) - -F (j * 13 + 0)), (k : Int))) n _ rfl (fun k hk => ?_) ?_ (by omega)
    · have u1 := gF.ub (k + 1) 0 (by omega) (Nat.zero_le _)
      have u2 := gF.ub k 0 (by omega) (Nat.zero_le _)
      have l1 := gF.lb (i := k + 1) (j := 0) (by omega) (Nat.zero_le _)
      have l2 := gF.lb (i := k) (j := 0) (by omega) (Nat.zero_le _)
      unfold sf76_2_L1
      dsimp only
      rw [decide_eq_true (by omega), cond_true, ck_pos (by unfold rng; omega), show (k : Int) + 1 = ((k + 1 : Nat) : Int) from rfl, s90F hn gF (by omega), bnd_ret, s90F hn gF (by omega), bnd_ret, ck_pos (by unfold rng; omega), ck_pos (by simp; omega), ck_pos (by unfold rng; omega), List.range_succ, List.map_append]
      rfl
    · unfold sf76_2_L1
      dsimp only
      rw [decide_eq_false (by omega), cond_false]
      rfl
  rw [ck_pos (by omega), show List.replicate (Int.toNat 0) (0 : Int) = [] from rfl, e, bnd_ret]
theorem s36t {k : Nat} (hn : n ≤ 12) (gF : Gd n F) (h : sf72 N n t lo hi L true = some ((n : Int), t, lo, hi, (n : Int) + 1, F, 0)) (hk : k ≤ n) (hN : 1000 ≤ N) : sf36 N n t lo hi L k true = some (vols n fun j => F (0 * 13 + j), 0) := by
  unfold sf36
  rw [decide_eq_true (by omega), cond_true, decide_eq_true (show (k : Int) ≤ n by omega), h, bnd_ret]
  dsimp only
  rw [decide_eq_true rfl, Bool.not_true, cond_false, cond_true, show sf77 N = some () from rfl, bnd_ret, s76 hn gF hN, bnd_ret]
theorem s36f {k : Nat} (hn : n ≤ 12) (gF : Gd n F) (h : sf72 N n t lo hi L true = some ((n : Int), t, lo, hi, (n : Int) + 1, F, 0)) (hk : k ≤ n) (hN : 1000 ≤ N) : sf36 N n t lo hi L k false = some (vols n fun j => -F (j * 13 + 0), 0) := by
  unfold sf36
  rw [decide_eq_true (by omega), cond_true, decide_eq_true (show (k : Int) ≤ n by omega), h, bnd_ret]
  dsimp only
  rw [decide_eq_true rfl, Bool.not_true, cond_false, cond_false, show sf77 N = some () from rfl, bnd_ret, s76_2 hn gF hN, bnd_ret]
/-- Volumes of places that all readings leave are a truth. -/
theorem s27_tru {p : Nat → Int} (ht : TubeOk n t lo hi) (hL : L.length ≤ 12) (hr : AllP (RdOk' n) L) (h : TruS n t lo hi L p) (hN : 1000 ≤ N) : sf27 N n t lo hi L (vols n p) = some true := by
  have hn := ht.2.1
  rw [s27 (by omega) (by rw [vols_len]; omega) ht hr hN, decide_eq_true ⟨by rw [vols_len], vols_in h.1.1, fun r hr' => right_of ht.2.2.1.1 h.1.1 (hr r hr') (h.2 r hr'), by rw [vols_len, hs_vols n (Nat.le_refl _)]; exact h.1.2⟩]
end
theorem ends_L1 {N n : Nat} {t lo hi : Int} {L : List (Int × Int × Int × Int)} {F : Nat → Int} (ht : TubeOk n t lo hi) (L1 : L.length ≤ 12) (hRd : AllP (RdOk' n) L) (gF : Gd n F) (e72 : sf72 N n t lo hi L true = some ((n : Int), t, lo, hi, (n : Int) + 1, F, 0)) (tl : TruS n t lo hi L fun j => -F (j * 13 + 0)) (th : TruS n t lo hi L fun j => F (0 * 13 + j)) (hN : 1000 ≤ N) :
    iter (sf11_L1 N n t lo hi L (bdF n F, 0)) N (0 : Int) = some (.inr ()) := by
  have hn := ht.2.1
  have d0 := gF.dg 0 (Nat.zero_le _)
  have z23 := s23 (N := N) (l := L) (by omega) hN
  refine iter_up (fun k => (k : Int)) (n + 1) _ rfl (fun k hk => ?_) ?_ (by omega)
  · have vb1 : AllP Vol (vols n fun j => -F (j * 13 + 0)) := vol_of ht.2.2.1.1 ht.2.2.1.2.2 (vols_in tl.1.1)
    have vb2 : AllP Vol (vols n fun j => F (0 * 13 + j)) := vol_of ht.2.2.1.1 ht.2.2.1.2.2 (vols_in th.1.1)
    have g1 : sf38 N (vols n fun j => -F (j * 13 + 0)) k = some (-F (k * 13 + 0)) := by
      rw [s38 (by rw [vols_len]; omega) (by rw [vols_len]; omega) vb1 hN, hs_vols k (by omega)]
      exact congrArg some (show -F (k * 13 + 0) - -F (0 * 13 + 0) = _ by omega)
    have g2 : sf38 N (vols n fun j => F (0 * 13 + j)) k = some (F (0 * 13 + k)) := by
      rw [s38 (by rw [vols_len]; omega) (by rw [vols_len]; omega) vb2 hN, hs_vols k (by omega)]
      exact congrArg some (show F (0 * 13 + k) - F (0 * 13 + 0) = _ by omega)
    have t1 := s27_tru ht L1 hRd tl hN
    have t2 := s27_tru ht L1 hRd th hN
    have p1 := s36f (by omega) gF e72 (k := k) (by omega) hN
    have p2 := s36t (by omega) gF e72 (k := k) (by omega) hN
    obtain ⟨A, hA⟩ : ∃ A, A = vols n fun j => -F (j * 13 + 0) := ⟨_, rfl⟩
    obtain ⟨B, hB⟩ : ∃ B, B = vols n fun j => F (0 * 13 + j) := ⟨_, rfl⟩
    rw [← hA] at g1 t1 p1
    rw [← hB] at g2 t2 p2
    unfold sf11_L1
    rw [decide_eq_true (by omega), cond_true, s21, bnd_ret, z23, bnd_ret]
    dsimp only
    rw [p1, bnd_ret, bnd_ret, bnd_ret]
    dsimp only
    rw [p2, bnd_ret]
    dsimp only
    rw [decide_eq_true rfl, Bool.not_true, cond_false, cond_false, t1, bnd_ret, Bool.not_true, cond_false, t2, bnd_ret, Bool.not_true, cond_false, g1, bnd_ret, ix_at rfl (bdF_at (by omega)), decide_eq_true rfl, Bool.not_true, cond_false, g2, bnd_ret, ix_at rfl (bdF_at (by omega)), decide_eq_true rfl, Bool.not_true, bnd_ret, cond_false, ck_pos (by unfold rng; omega)]
    rfl
  · unfold sf11_L1
    rw [decide_eq_false (by omega), cond_false]
theorem law11 {N : Nat} {n t lo hi : Int} {W U : List Int} (hW : AllP W16 W) (hU : AllP W16 U) (hN : 1000 ≤ N) : sf11 N n t lo hi W U = some true := by
  unfold sf11
  rw [s25, bnd_ret]
  by_cases ht : TubeOk n t lo hi
  · rw [decide_eq_true ht, Bool.not_true, cond_false]
    obtain ⟨n, rfl⟩ : ∃ k : Nat, n = k := ⟨n.toNat, by have := ht.1; omega⟩
    have hn := ht.2.1
    have hn0 := ht.1
    obtain ⟨v, ev, v1, v2, v3⟩ := s53 (N := N) ht hW hN
    obtain ⟨L, eL, L1, L2, L3⟩ := s54 (N := N) ht v1 v2 v3 hU hN
    have hRd : AllP (RdOk' n) L := fun x hx => (L3 x hx).1
    have tr := tru_of v1 v2 v3 L3
    obtain ⟨F, e89, gF, SF⟩ := (s89 (N := N) ht (by omega) hRd hN).resolve_right fun q => q.2 _ tr
    have e72 := s72F ht L1 hRd e89 hN
    have e29 := s29F ht gF e72 hN
    have z21 : ∀ {a b c d : Int}, sf21 N a b c d = some (a, b, c, d) := s21
    have z23 := s23 (N := N) (l := L) (by omega) hN
    rw [ev, bnd_ret, eL, bnd_ret, z21, bnd_ret, z23, bnd_ret]
    dsimp only
    rw [e29, bnd_ret]
    dsimp only
    rw [decide_eq_true rfl, Bool.not_true, cond_false, ck_pos (by unfold rng; omega), bdF_len, decide_eq_true (show ((n + 1 : Nat) : Int) = (n : Int) + 1 by omega), Bool.not_true, bnd_ret, cond_false, bnd_ret, sR]
    have tl := (SF _).1 (low_sat gF)
    have th := (SF _).1 (high_sat gF)
    have d0 := gF.dg 0 (Nat.zero_le _)
    rw [ends_L1 ht L1 hRd gF e72 tl th hN, bnd_ret, sR]
  · rw [decide_eq_false ht, Bool.not_false, cond_true]
end Go.Hx.V

/- The plain machine once more, as closures: what the kernel can reckon fast. This file: the machine. -/
namespace Go.Hx
noncomputable section

/-- Where a run goes on: temporaries, marks, blocks, the next number. -/
abbrev Kt := Tr HV → List Nat → Tr HBlk → Nat → Option (HV × HS)
/-- Where an operation's value goes. -/
abbrev Kv := HV → Tr HBlk → Nat → Option (HV × HS)
/-- Operations: the floor, temporaries, blocks, the next number, and where the value goes. -/
abbrev Ko := Nat → Tr HV → Tr HBlk → Nat → Kv → Option (HV × HS)
/-- Codes: the floor, the round, and where they go: behind, out of a block, out of the function. -/
abbrev Kc := Nat → Option Nat → Kt → (Nat → Kt) → Kt → Kt
/-- Functions. -/
abbrev Kf := Nat → List HV → Tr HBlk → Nat → Kv → Option (HV × HS)

def Pa.tmp (p : Pa) (a : Tr HV) : HV := Option.rec (motive := fun _ => HV) .undef (fun v => v) (Tr.getP p a)
/-- A closure that is made once: the kernel keeps what a closed term comes to. -/
inductive Bx (α : Type) where
  | mk (f : α)
def Bx.run {α : Type} (b : Bx α) : α := Bx.rec (motive := fun _ => α) (fun f => f) b
def Bx.then {α β : Type} (b : Bx α) (g : α → Bx β) : Bx β := Bx.rec (motive := fun _ => Bx β) g b
/-- A road, made once. -/
def Pa.then {β : Type} (p : Pa) (g : Pa → Bx β) : Bx β := Pa.rec (motive := fun _ => Bx β) (g .z) (fun q _ => g (.a q)) (fun q _ => g (.b q)) (fun q _ => g (.c q)) (fun q _ => g (.d q)) p
def evK (x : Lo) : Bx (Tr HV → HV) :=
  match x with
  | .t n => .mk (Pa.tmp (pa n))
  | .c v => .mk (fun _ => v)
def evL (x : Lo) (a : Tr HV) : HV := (evK x).run a
/-- All that is not served by itself. -/
def slowK (lp : Nat → Option LFunc) (nt : Nat) (o : LOp) : Ko := fun fl a h nx k =>
  match opH lp (exec lp 0) fl o ⟨nt, a, []⟩ ⟨h, nx⟩ with
  | some (v, σ) => k v σ.h σ.nx
  | none => none
def viaK (lp : Nat → Option LFunc) (fn : Nat → Bx Kf) (t : Nat) (name : String) (g : Nat) (args : List HV) : Nat → Tr HBlk → Nat → Kv → Option (HV × HS) := fun fl h nx k =>
  match viaOf lp g t name, args with
  | some off, .ptr (some (b, o)) :: rest => (fn g).run fl (.ptr (some (b, Nat.add o off)) :: rest) h nx k
  | _, _ => none
def callK (lp : Nat → Option LFunc) (fn : Nat → Bx Kf) (ro : Nat → Nat → List HV → Tr HBlk → Nat → Kv → Option (HV × HS)) (f : Tr HV → HV) (xs : List Lo) : Ko := fun fl a h nx k =>
  match f a with
  | .func g first captured => (fn g).run fl (first ++ xs.map (fun x => evL x a) ++ captured) h nx k
  | .yield l => ro fl l (xs.map fun x => evL x a) h nx k
  | .via t name g => viaK lp fn t name g (xs.map fun x => evL x a) fl h nx k
  | _ => none
def binK (g : IntKind → Int → Int → Option HV) (x y : HV) (h : Tr HBlk) (nx : Nat) (k : Kv) : Option (HV × HS) :=
  match x, y with
  | .int k1 m, .int k2 n => bif sameK k1 k2 then (match g k1 m n with | some v => k v h nx | none => none) else none
  | _, _ => none
def addrK (off : Nat) (x : HV) (h : Tr HBlk) (nx : Nat) (k : Kv) : Option (HV × HS) :=
  match x with
  | .ptr (some (b, o)) => k (.ptr (some (b, Nat.add o off))) h nx
  | _ => none
def idxK (len size : Nat) (x i : HV) (h : Tr HBlk) (nx : Nat) (k : Kv) : Option (HV × HS) :=
  match x, i with
  | .ptr (some (b, o)), .int _ (.ofNat i) => bif Nat.blt i len then k (.ptr (some (b, Nat.add o (Nat.mul i size)))) h nx else none
  | _, _ => none
def nilK (x : HV) (h : Tr HBlk) (nx : Nat) (k : Kv) : Option (HV × HS) :=
  match x with
  | .ptr (some p) => k (.ptr (some p)) h nx
  | .func f first captured => k (.func f first captured) h nx
  | _ => none
def nthK (i : Nat) : List HV → Option HV :=
  Nat.rec (motive := fun _ => List HV → Option HV) (fun l => List.rec (motive := fun _ => Option HV) none (fun v _ _ => some v) l) (fun _ ih l => List.rec (motive := fun _ => Option HV) none (fun _ t _ => ih t) l) i
def setR (i : Nat) (v : HV) : List HV → List HV :=
  Nat.rec (motive := fun _ => List HV → List HV) (fun l => List.rec (motive := fun _ => List HV) [] (fun _ t _ => v :: t) l) (fun _ ih l => List.rec (motive := fun _ => List HV) [] (fun x t _ => x :: ih t) l) i
def loadK (x : HV) (h : Tr HBlk) (nx : Nat) (k : Kv) : Option (HV × HS) :=
  match x with
  | .ptr (some (b, o)) =>
    match h.get b with
    | some (.cells cs _) =>
      match nthK o cs with
      | some v => k v h nx
      | none => none
    | _ => none
  | _ => none
def wrOk : BK → Bool
  | .ro => false
  | _ => true
def storeK (fl : Nat) (x v : HV) (h : Tr HBlk) (nx : Nat) (k : Kv) : Option (HV × HS) :=
  match x with
  | .ptr (some (b, o)) =>
    match h.get b with
    | some (.cells cs bk) =>
      bif Nat.ble fl b && v.one && wrOk bk then
        match nthK o cs with
        | some _ => k .undef (h.set b (some (.cells (setR o v cs) bk))) nx
        | none => none
      else none
    | _ => none
  | _ => none
def compOp (lp : Nat → Option LFunc) (fn : Nat → Bx Kf) (ro : Nat → Nat → List HV → Tr HBlk → Nat → Kv → Option (HV × HS)) (nt : Nat) (o : LOp) : Bx Ko :=
  match o with
  | .move x => (evK x).then fun e => .mk fun _ a h nx k => k (e a) h nx
  | .bin op x y => (evK x).then fun e => (evK y).then fun f => .mk fun _ a h nx k => binK (bif isShift op then shiftH op else intFast op) (e a) (f a) h nx k
  | .fieldAddr off x => (evK x).then fun e => .mk fun _ a h nx k => addrK off (e a) h nx k
  | .indexAddrA len size x i => (evK x).then fun e => (evK i).then fun f => .mk fun _ a h nx k => idxK len size (e a) (f a) h nx k
  | .nilCheck x => (evK x).then fun e => .mk fun _ a h nx k => nilK (e a) h nx k
  | .load false 1 x => (evK x).then fun e => .mk fun _ a h nx k => loadK (e a) h nx k
  | .store 1 x v => (evK x).then fun e => (evK v).then fun f => .mk fun fl a h nx k => bif (f a).one then storeK fl (e a) (f a) h nx k else slowK lp nt (.store 1 x v) fl a h nx k
  | .call f xs => (evK f).then fun e => .mk (callK lp fn ro e xs)
  | o => .mk (slowK lp nt o)
def putK (nt : Nat) (dst : Option Nat) : Bx (Tr HV → HV → Tr HV) :=
  match dst with
  | none => .mk fun a _ => a
  | some d => bif Nat.blt d nt then (pa d).then fun p => .mk (fun a v => Tr.setP (some v) p a) else .mk fun a _ => a
def isB (want : Bool) : HV → Bool
  | .bool b => b == want
  | _ => false
def guardK (g : Option (Nat × Bool)) (o : Bx Ko) : Bx Ko :=
  match g with
  | none => o
  | some (t, want) => (evK (.t t)).then fun e => o.then fun o => .mk fun fl a h nx k =>
      bif isB want (e a) then o fl a h nx k else k .undef h nx
def compOps (op : LOp → Bx Ko) (nt : Nat) : List LOper → Bx (Nat → Kt → Kt)
  | [] => .mk fun _ k => k
  | o :: os => (guardK o.g (op o.op)).then fun f => (putK nt o.dst).then fun p => (compOps op nt os).then fun r => .mk fun fl k a ds h nx => f fl a h nx fun v h nx => r fl k (p a v) ds h nx
def drawK (op : LOp → Bx Ko) (nt s : Nat) : List LOper → Bx (Nat → Nat → Nat → Tr HBlk → List (Nat × List (Nat × HBlk)) → Kt → Tr HV → List Nat → Nat → Option (HV × HS))
  | [] => .mk fun _ _ _ h0 done k a ds nx => k a ds (merge h0 none done) nx
  | o :: os => (guardK o.g (op o.op)).then fun f => (putK nt o.dst).then fun p => (drawK op nt s os).then fun r => (compOps op nt (o :: os)).then fun q => .mk fun fl n0 i h0 done k a ds nx =>
      bif Nat.blt i s then
        bif o.anc.contains i then
          f n0 a (merge h0 (some o.anc) done) nx fun v h nx' => bif Nat.ble nx nx' then r fl n0 (Nat.succ i) h0 ((i, newFrom h n0 (Nat.sub nx' n0)) :: dropAll o.anc done) k (p a v) ds nx' else none
        else
          f nx a (merge h0 (some o.anc) done) nx fun v h nx' => bif Nat.ble nx nx' then r fl n0 (Nat.succ i) h0 (bif Nat.beq nx nx' then done else (i, newFrom h nx (Nat.sub nx' nx)) :: done) k (p a v) ds nx' else none
      else q fl k a ds (merge h0 none done) nx
/-- The loop's record, by its parts. -/
def loopK (b : Option HBlk) (k : LState → HExit → Nat → Tr HV → List Nat → LCode → LCode → Nat → Option (HV × HS)) : Option (HV × HS) :=
  match b with
  | some (.loop ⟨st, pe, nt, tm, ps, asg, bo, mk⟩) => k st pe nt tm ps asg bo mk
  | _ => none
def marksK (rd : Option Nat) (h : Tr HBlk) (nx : Nat) (k : Nat → List Nat → Tr HBlk → Nat → Option (HV × HS)) : Option (HV × HS) :=
  match rd with
  | none => k nx [nx] (h.set nx (some .marks)) (Nat.succ nx)
  | some l => loopK (h.get l) fun _ _ _ _ _ _ _ mk => k mk [] h nx
def notBusy : LState → Bool
  | .busy => false
  | _ => true
def isReady : LState → Bool
  | .ready => true
  | _ => false
def jumpK (e : HExit) (kn : Kt) (kx : Nat → Kt) (kr : Kt) : Kt :=
  match e with
  | .normal => kn
  | .exit i => kx i
  | .ret => kr
def rangeK (fn : Nat → Bx Kf) (nt : Nat) (e : Tr HV → HV) (ps : List Nat) (assign body : LCode) : Kc := fun fl rd kn kx kr a ds h nx =>
  match e a with
  | .func g first captured =>
    marksK rd h nx fun mk ms h1 n1 =>
      (fn g).run fl (first ++ [.yield n1] ++ captured) (h1.set n1 (some (.loop ⟨.ready, .normal, nt, a, ps, assign, body, mk⟩))) (Nat.succ n1) fun _ h3 n3 =>
        loopK (h3.get n1) fun st pe nt' tm ps' asg bo mk' =>
          bif notBusy st && Nat.ble fl n1 then jumpK pe kn kx kr a (ms ++ ds) (h3.set n1 (some (.loop ⟨.exhausted, pe, nt', tm, ps', asg, bo, mk'⟩))) n3 else none
  | _ => none
def endK (l : Nat) (e : HExit) (k : Kv) (h : Tr HBlk) (nx : Nat) : Option (HV × HS) :=
  loopK (h.get l) fun _ _ nt tm ps asg bo mk =>
    match e with
    | .normal => k (.bool true) (h.set l (some (.loop ⟨.ready, .normal, nt, tm, ps, asg, bo, mk⟩))) nx
    | e => k (.bool false) (h.set l (some (.loop ⟨.done, e, nt, tm, ps, asg, bo, mk⟩))) nx
def roundK (co : Nat → LCode → Bx Kc) : Nat → Nat → List HV → Tr HBlk → Nat → Kv → Option (HV × HS) := fun fl l args h nx k =>
  loopK (h.get l) fun _ _ nt tm ps asg bo _ =>
    match zipPut nt tm ps args with
    | some tm1 =>
      (co nt asg).run fl (some l)
        (fun a1 ds1 h1 n1 => loopK (h1.get l) fun st pe nt' tm' ps' asg' bo' mk' =>
          bif isReady st && Nat.ble fl l then
            (co nt bo).run fl (some l) (fun _ _ => endK l .normal k) (fun i _ _ => endK l (.exit i) k) (fun _ _ => endK l .ret k) a1 ds1 (h1.set l (some (.loop ⟨.busy, pe, nt', tm', ps', asg', bo', mk'⟩))) n1
          else none)
        (fun _ _ _ _ _ => none) (fun _ _ _ _ => none) tm1 [] h nx
    | none => none
def comp (op : LOp → Bx Ko) (fn : Nat → Bx Kf) (nt : Nat) : LCode → Bx Kc
  | .skip => .mk fun _ _ kn _ _ => kn
  | .seq x y => (comp op fn nt x).then fun f => (comp op fn nt y).then fun g => .mk fun fl rd kn kx kr => f fl rd (g fl rd kn kx kr) kx kr
  | .cond c x y => (evK c).then fun e => (comp op fn nt x).then fun f => (comp op fn nt y).then fun g => .mk fun fl rd kn kx kr a ds h nx =>
      match e a with
      | .bool b => bif b then f fl rd kn kx kr a ds h nx else g fl rd kn kx kr a ds h nx
      | _ => none
  | .block id x => (comp op fn nt x).then fun f => .mk fun fl rd kn kx kr => f fl rd kn (fun i => bif Nat.beq i id then kn else kx i) kr
  | .loop x => (comp op fn nt x).then fun f => .mk fun fl rd _ kx kr => Nat.rec (motive := fun _ => Kt) (fun _ _ _ _ => none) (fun _ ih => f fl rd ih kx kr) 1000000
  | .scope x => comp op fn nt x
  | .exit id => .mk fun _ _ _ kx _ => kx id
  | .ret => .mk fun _ _ _ _ kr => kr
  | .reg ops => (compOps op nt ops).then fun f => .mk fun fl _ kn _ _ => f fl kn
  | .draw s ops => (drawK op nt s ops).then fun f => .mk fun fl _ kn _ _ a ds h nx => bif Nat.ble fl nx then f fl nx 0 h [] kn a ds nx else none
  | .rangeFunc f ps assign body => (evK f).then fun e => .mk (rangeK fn nt e ps assign body)
  | .bad => .mk fun _ _ _ _ _ _ _ _ _ => none
def leaveK (fl : Nat) (nt : Nat) (res : List LRes) (k : Kv) : Kt := fun a ds h nx =>
  match leaveH fl ⟨nt, a, ds⟩ res ⟨h, nx⟩ with
  | some (v, σ) => k v σ.h σ.nx
  | none => none
abbrev Kr := Nat → Nat → List HV → Tr HBlk → Nat → Kv → Option (HV × HS)
/-- Behind a call that wrote nothing of its caller's. -/
def gcK (h : Tr HBlk) (nx : Nat) (k : Kv) : Kv := fun v h' nx' => k v (keepD h' nx 5 [v] h) nx'
def specK (g : List HV → HS → Option (HV × HS)) : Kf := fun _ args h nx k =>
  match g args ⟨h, nx⟩ with
  | some (v, σ) => bif Nat.ble nx σ.nx then k v σ.h σ.nx else none
  | none => none
def enterK (lf : LFunc) (body : Kc) : Bx Kf :=
  bif lf.imp then .mk fun fl args h nx k => bif Nat.ble args.length lf.nt then body fl none (leaveK fl lf.nt lf.res k) (fun _ _ _ _ _ => none) (leaveK fl lf.nt lf.res k) (putAll .e 0 args) [] h nx else none
  else .mk fun _ args h nx k => bif Nat.ble args.length lf.nt then body nx none (leaveK nx lf.nt lf.res (gcK h nx k)) (fun _ _ _ _ _ => none) (leaveK nx lf.nt lf.res (gcK h nx k)) (putAll .e 0 args) [] h nx else none
/-- Functions and rounds, so deep. -/
def bothK (lp : Nat → Option LFunc) : Nat → (Nat → Bx Kf) × Kr
  | 0 => (fun _ => .mk fun _ _ _ _ _ => none, fun _ _ _ _ _ _ => none)
  | n + 1 =>
    (fun f =>
      match lp f with
      | none => .mk fun _ _ _ _ _ => none
      | some lf =>
        match lf.spec with
        | some g => .mk (specK g)
        | none => (comp (compOp lp (bothK lp n).1 (bothK lp n).2 lf.nt) (bothK lp n).1 lf.nt lf.body).then (enterK lf),
     roundK fun nt c => comp (compOp lp (bothK lp n).1 (bothK lp n).2 nt) (bothK lp n).1 nt c)
def fnK (lp : Nat → Option LFunc) (n : Nat) : Nat → Bx Kf := (bothK lp n).1
end
end Go.Hx

/- The plain machine as closures: where it comes to something, the plain machine comes to the same. -/
namespace Go.Hx
variable {lp : Nat → Option LFunc} {nt : Nat}

theorem run_mk {α : Type} (f : α) : (Bx.mk f).run = f := rfl
theorem then_eq {α β : Type} (b : Bx α) (g : α → Bx β) : b.then g = g b.run := by cases b; rfl
theorem pa_then {β : Type} (p : Pa) (g : Pa → Bx β) : p.then g = g p := by cases p <;> rfl
theorem tmp_eq (a : Tr HV) (ds : List Nat) (n : Nat) : (pa n).tmp a = (⟨nt, a, ds⟩ : HAct).tmp n := by
  show Option.rec (motive := fun _ => HV) HV.undef (fun v => v) (a.get n) = (a.get n).getD .undef
  cases a.get n <;> rfl
theorem ev_eq (x : Lo) (a : Tr HV) (ds : List Nat) : (evK x).run a = (⟨nt, a, ds⟩ : HAct).ev x := by
  cases x with
  | t n => exact tmp_eq a ds n
  | c v => rfl
theorem evs_eq (xs : List Lo) (a : Tr HV) (ds : List Nat) : (xs.map fun x => evL x a) = xs.map (⟨nt, a, ds⟩ : HAct).ev := by
  apply List.map_congr_left
  intro x _
  exact ev_eq x a ds

def KoOk (lp : Nat → Option LFunc) (nt : Nat) (G : Ko) (o : LOp) : Prop := ∀ fl a ds h nx (k : Kv) r, G fl a h nx k = some r → ∃ n v σ', opH lp (exec lp n) fl o ⟨nt, a, ds⟩ ⟨h, nx⟩ = some (v, σ') ∧ k v σ'.h σ'.nx = some r
def KosOk (lp : Nat → Option LFunc) (nt : Nat) (G : Nat → Kt → Kt) (os : List LOper) : Prop := ∀ fl (k : Kt) a ds h nx r, G fl k a ds h nx = some r → ∃ n a' σ', runOps lp (exec lp n) fl os ⟨nt, a, ds⟩ ⟨h, nx⟩ = some (a', σ') ∧ a'.nt = nt ∧ k a'.tmps a'.defers σ'.h σ'.nx = some r
def contK (e : HExit) (kn : Kt) (kx : Nat → Kt) (kr : Kt) (a : HAct) (σ : HS) : Option (HV × HS) :=
  match e with
  | .normal => kn a.tmps a.defers σ.h σ.nx
  | .exit i => kx i a.tmps a.defers σ.h σ.nx
  | .ret => kr a.tmps a.defers σ.h σ.nx
def KcOk (lp : Nat → Option LFunc) (nt : Nat) (F : Kc) (c : LCode) : Prop := ∀ fl rd kn kx kr a ds h nx r, F fl rd kn kx kr a ds h nx = some r → ∃ n e a' σ', exec lp n fl rd c ⟨nt, a, ds⟩ ⟨h, nx⟩ = some (e, a', σ') ∧ a'.nt = nt ∧ contK e kn kx kr a' σ' = some r
def KfOk (lp : Nat → Option LFunc) (F : Kf) (f : Nat) : Prop := ∀ fl args h nx (k : Kv) r, F fl args h nx k = some r → ∃ n v σ', callF lp (exec lp n) fl f args ⟨h, nx⟩ = some (v, σ') ∧ k v σ'.h σ'.nx = some r

def KrOk (lp : Nat → Option LFunc) (ro : Kr) : Prop := ∀ fl l args h nx (k : Kv) r, ro fl l args h nx k = some r → ∃ n v σ', roundH (exec lp n) fl l args ⟨h, nx⟩ = some (v, σ') ∧ k v σ'.h σ'.nx = some r
theorem slow_ok (o : LOp) : KoOk lp nt (slowK lp nt o) o := by
  intro fl a ds h nx k r hr
  unfold slowK at hr
  rw [op_congr (a := ⟨nt, a, []⟩) (b := ⟨nt, a, ds⟩) ⟨h, nx⟩ (fun _ _ => rfl)] at hr
  split at hr
  · rename_i v σ' ho; exact ⟨0, v, σ', ho, hr⟩
  · cases hr
theorem call_ok {fn : Nat → Bx Kf} {ro : Kr} (hfn : ∀ f, KfOk lp (fn f).run f) (hro : KrOk lp ro) (f : Lo) (xs : List Lo) : KoOk lp nt (callK lp fn ro (evK f).run xs) (.call f xs) := by
  intro fl a ds h nx k r hr
  unfold callK at hr
  rw [ev_eq (nt := nt) f a ds, evs_eq (nt := nt) xs a ds] at hr
  split at hr
  · rename_i g first captured hf
    obtain ⟨n, v, σ', h1, h2⟩ := hfn g _ _ _ _ _ _ hr
    refine ⟨n, v, σ', ?_, h2⟩
    show callH lp _ fl _ _ _ = _
    unfold callH
    rw [hf]
    exact h1
  · rename_i l hf
    obtain ⟨n, v, σ', h1, h2⟩ := hro _ _ _ _ _ _ _ hr
    refine ⟨n, v, σ', ?_, h2⟩
    show callH lp _ fl _ _ _ = _
    unfold callH
    rw [hf]
    exact h1
  · rename_i t name g hf
    unfold viaK at hr
    split at hr
    · rename_i off b o rest e1 e2
      obtain ⟨n, v, σ', h1, h2⟩ := hfn g _ _ _ _ _ _ hr
      refine ⟨n, v, σ', ?_, h2⟩
      show callH lp _ fl _ _ _ = _
      unfold callH
      rw [hf]
      show callV lp _ fl t name g _ _ = _
      unfold callV
      rw [e1, e2]
      exact h1
    · cases hr
  · cases hr
theorem nth_eq : ∀ (i : Nat) (l : List HV), nthK i l = l[i]?
  | 0, [] => rfl
  | 0, v :: l => rfl
  | i + 1, [] => rfl
  | i + 1, v :: l => (nth_eq i l).trans (by simp)
theorem set_eq (v : HV) : ∀ (i : Nat) (l : List HV), i < l.length → overwrite l i [v] = some (setR i v l)
  | _, [], h => by simp at h
  | 0, x :: l, _ => by cases l <;> rfl
  | i + 1, x :: l, h => by
    unfold overwrite
    rw [set_eq v i l (by simpa using h)]
    rfl
theorem op_ok {fn : Nat → Bx Kf} {ro : Kr} (hfn : ∀ f, KfOk lp (fn f).run f) (hro : KrOk lp ro) (o : LOp) : KoOk lp nt (compOp lp fn ro nt o).run o := by
  have slow := slow_ok (lp := lp) (nt := nt) o
  unfold compOp
  split
  case h_1 x =>
    rw [then_eq, run_mk]
    intro fl a ds h nx k r hr
    dsimp only at hr
    rw [ev_eq (nt := nt) x a ds] at hr
    exact ⟨0, _, ⟨h, nx⟩, rfl, hr⟩
  case h_2 op x y =>
    rw [then_eq, then_eq, run_mk]
    intro fl a ds h nx k r hr
    dsimp only at hr
    rw [ev_eq (nt := nt) x a ds, ev_eq (nt := nt) y a ds] at hr
    unfold binK at hr
    split at hr
    · rename_i k1 m k2 n e1 e2
      cases hk : sameK k1 k2 with
      | false => rw [hk] at hr; cases hr
      | true =>
        rw [hk] at hr
        simp only [cond_true] at hr
        split at hr
        · rename_i v e3
          refine ⟨0, v, ⟨h, nx⟩, ?_, hr⟩
          show keep _ (binH op _ _) = _
          rw [e1, e2]
          unfold binH
          dsimp only
          cases hsh : isShift op with
          | true => rw [hsh] at e3; simp only [cond_true] at e3 ⊢; rw [e3]; rfl
          | false => rw [hsh] at e3; simp only [cond_false] at e3 ⊢; rw [hk, e3]; rfl
        · cases hr
    · cases hr
  case h_3 off x =>
    rw [then_eq, run_mk]
    intro fl a ds h nx k r hr
    dsimp only at hr
    rw [ev_eq (nt := nt) x a ds] at hr
    unfold addrK at hr
    split at hr
    · rename_i b o e1
      refine ⟨0, _, ⟨h, nx⟩, ?_, hr⟩
      show oFieldAddr off x _ _ = _
      unfold oFieldAddr
      rw [e1]
    · cases hr
  case h_4 len size x i =>
    rw [then_eq, then_eq, run_mk]
    intro fl a ds h nx k r hr
    dsimp only at hr
    rw [ev_eq (nt := nt) x a ds, ev_eq (nt := nt) i a ds] at hr
    unfold idxK at hr
    split at hr
    · rename_i b o kk j e1 e2
      cases hb : Nat.blt j len with
      | false => rw [hb] at hr; cases hr
      | true =>
        rw [hb] at hr
        refine ⟨0, _, ⟨h, nx⟩, ?_, hr⟩
        show oIndexAddrA len size x i _ _ = _
        unfold oIndexAddrA
        rw [e1, e2]
        simp only [natOf, stepTo, hb, cond_true]
    · cases hr
  case h_5 x =>
    rw [then_eq, run_mk]
    intro fl a ds h nx k r hr
    dsimp only at hr
    rw [ev_eq (nt := nt) x a ds] at hr
    unfold nilK at hr
    split at hr
    · rename_i p e1
      refine ⟨0, _, ⟨h, nx⟩, ?_, hr⟩
      show oNilCheck x _ _ = _
      unfold oNilCheck
      rw [e1]
    · rename_i f first captured e1
      refine ⟨0, _, ⟨h, nx⟩, ?_, hr⟩
      show oNilCheck x _ _ = _
      unfold oNilCheck
      rw [e1]
    · cases hr
  case h_6 x =>
    rw [then_eq, run_mk]
    intro fl a ds h nx k r hr
    dsimp only at hr
    rw [ev_eq (nt := nt) x a ds] at hr
    unfold loadK at hr
    split at hr
    · rename_i b o e1
      split at hr
      · rename_i cs bk e2
        rw [nth_eq] at hr
        split at hr
        · rename_i v e3
          refine ⟨0, v, ⟨h, nx⟩, ?_, hr⟩
          show oLoad false 1 x _ _ = _
          unfold oLoad
          rw [e1]
          have hc : (⟨h, nx⟩ : HS).cells b = some cs := by unfold HS.cells; rw [e2]
          have hr2 : (⟨h, nx⟩ : HS).read (b, o) 1 = some [v] := by
            unfold HS.read
            simp only [hc, Option.bind_eq_bind, Option.bind_some]
            have hlt : o < cs.length := by
              rcases Nat.lt_or_ge o cs.length with h | h
              · exact h
              · rw [List.getElem?_eq_none h] at e3; cases e3
            rw [List.drop_eq_getElem_cons hlt]
            rw [List.getElem?_eq_getElem hlt] at e3
            cases e3
            simp [takeN]
          simp only [hr2, whole, keep]
        · cases hr
      · cases hr
    · cases hr
  case h_7 x y =>
    rw [then_eq, then_eq, run_mk]
    intro fl a ds h nx k r hr
    dsimp only at hr
    rw [ev_eq (nt := nt) x a ds, ev_eq (nt := nt) y a ds] at hr
    revert hr
    cases h1 : ((⟨nt, a, ds⟩ : HAct).ev y).one with
    | false => exact fun hr => slow fl a ds h nx k r hr
    | true =>
    intro hr
    simp only [cond_true] at hr
    unfold storeK at hr
    split at hr
    · rename_i b o e1
      split at hr
      · rename_i cs bk e2
        revert hr
        cases hc : (Nat.ble fl b && ((⟨nt, a, ds⟩ : HAct).ev y).one && wrOk bk) with
        | false => intro hr; cases hr
        | true =>
          intro hr
          simp only [cond_true] at hr
          simp only [Bool.and_eq_true] at hc
          obtain ⟨⟨c1, c2⟩, c3⟩ := hc
          rw [nth_eq] at hr
          split at hr
          · rename_i u e3
            have hlt : o < cs.length := by
              rcases Nat.lt_or_ge o cs.length with h | h
              · exact h
              · rw [List.getElem?_eq_none h] at e3; cases e3
            refine ⟨0, .undef, ⟨h.set b (some (.cells (setR o ((⟨nt, a, ds⟩ : HAct).ev y) cs) bk)), nx⟩, ?_, hr⟩
            have hcells : ((⟨nt, a, ds⟩ : HAct).ev y).cells = [(⟨nt, a, ds⟩ : HAct).ev y] := by
              generalize (⟨nt, a, ds⟩ : HAct).ev y = v at c2
              cases v <;> first | rfl | cases c2
            show oStore fl 1 x y _ _ = _
            unfold oStore
            rw [e1, hcells]
            have hw : (⟨h, nx⟩ : HS).write fl (b, o) [(⟨nt, a, ds⟩ : HAct).ev y] = some ⟨h.set b (some (.cells (setR o ((⟨nt, a, ds⟩ : HAct).ev y) cs) bk)), nx⟩ := by
              unfold HS.write
              simp only [e2]
              cases bk with
              | ro => cases c3
              | exact => simp only [c1, List.all_cons, c2, List.all_nil, Bool.and_true, cond_true, set_eq _ _ _ hlt, Option.map_some]; rfl
              | opn z => simp only [c1, List.all_cons, c2, List.all_nil, Bool.and_true, cond_true, set_eq _ _ _ hlt, Option.map_some]; rfl
            simp only [hw]
            rfl
          · cases hr
      · cases hr
    · cases hr
  case h_8 f xs =>
    rw [then_eq, run_mk]
    exact call_ok hfn hro f xs
  case h_9 => exact slow
theorem guard_k {G : Bx Ko} {o : LOper} (h : KoOk lp nt G.run o.op) : ∀ fl a ds hp nx (k : Kv) r, (guardK o.g G).run fl a hp nx k = some r →
    ∃ n v σ', (bif wantedH o.g ⟨nt, a, ds⟩ then opH lp (exec lp n) fl o.op ⟨nt, a, ds⟩ ⟨hp, nx⟩ else some (.undef, ⟨hp, nx⟩)) = some (v, σ') ∧ k v σ'.h σ'.nx = some r := by
  intro fl a ds hp nx k r hr
  unfold guardK at hr
  split at hr
  · rename_i hg
    obtain ⟨n, v, σ', h1, h2⟩ := h fl a ds hp nx k r hr
    refine ⟨n, v, σ', ?_, h2⟩
    rw [hg]
    exact h1
  · rename_i t want hg
    rw [then_eq, then_eq, run_mk] at hr
    rw [ev_eq (nt := nt) (.t t) a ds] at hr
    have hw : wantedH o.g ⟨nt, a, ds⟩ = isB want ((⟨nt, a, ds⟩ : HAct).ev (.t t)) := by
      rw [hg]
      unfold wantedH isB
      dsimp only [HAct.ev]
      generalize (⟨nt, a, ds⟩ : HAct).tmp t = x
      cases x <;> rfl
    rw [hw]
    cases hb : isB want ((⟨nt, a, ds⟩ : HAct).ev (.t t)) with
    | true =>
      rw [hb] at hr
      exact h fl a ds hp nx k r hr
    | false =>
      rw [hb] at hr
      exact ⟨0, .undef, ⟨hp, nx⟩, rfl, hr⟩
theorem put_k (dst : Option Nat) (a : Tr HV) (ds : List Nat) (v : HV) : (⟨nt, a, ds⟩ : HAct).put dst v = ⟨nt, (putK nt dst).run a v, ds⟩ := by
  unfold HAct.put putK
  cases dst with
  | none => rfl
  | some d =>
    dsimp only
    cases Nat.blt d nt with
    | false => rfl
    | true => rw [cond_true, cond_true, pa_then]; rfl
theorem step_k {G : Bx Ko} {o : LOper} (h : KoOk lp nt G.run o.op) : ∀ fl a ds hp nx (k : Kv) r, (guardK o.g G).run fl a hp nx k = some r →
    ∃ n v σ', stepOp lp (exec lp n) fl o ⟨nt, a, ds⟩ ⟨hp, nx⟩ = some (⟨nt, (putK nt o.dst).run a v, ds⟩, σ') ∧ k v σ'.h σ'.nx = some r := by
  intro fl a ds hp nx k r hr
  obtain ⟨n, v, σ', h1, h2⟩ := guard_k h fl a ds hp nx k r hr
  refine ⟨n, v, σ', ?_, h2⟩
  unfold stepOp
  cases hw : wantedH o.g ⟨nt, a, ds⟩ with
  | true => rw [hw] at h1; simp only [cond_true] at h1 ⊢; rw [h1]; simp only [put_k]
  | false =>
    rw [hw] at h1
    cases h1
    simp only [cond_false, put_k]
theorem ops_k {op : LOp → Bx Ko} (hop : ∀ o, KoOk lp nt (op o).run o) : ∀ os, KosOk lp nt (compOps op nt os).run os
  | [] => fun fl k a ds h nx r hr => ⟨0, _, _, rfl, rfl, hr⟩
  | o :: os => by
    intro fl k a ds h nx r hr
    unfold compOps at hr
    rw [then_eq, then_eq, then_eq, run_mk] at hr
    obtain ⟨n, v, σ1, h1, h2⟩ := step_k (hop o.op) fl a ds h nx _ r hr
    obtain ⟨m, a', σ', h3, h4, h5⟩ := ops_k hop os fl k _ ds _ _ r h2
    refine ⟨max n m, a', σ', ?_, h4, h5⟩
    unfold runOps
    rw [stepOp_mon (exec_mon (Nat.le_max_left n m)) h1]
    exact runOps_mon (exec_mon (Nat.le_max_right n m)) h3
theorem draw_k {op : LOp → Bx Ko} (hop : ∀ o, KoOk lp nt (op o).run o) {s : Nat} : ∀ os fl n0 i h0 done (k : Kt) a ds nx r, fl ≤ n0 → n0 ≤ nx → (drawK op nt s os).run fl n0 i h0 done k a ds nx = some r →
    ∃ n a' σ', drawOps lp (exec lp n) fl s n0 h0 os i done ⟨nt, a, ds⟩ nx = some (a', σ') ∧ a'.nt = nt ∧ k a'.tmps a'.defers σ'.h σ'.nx = some r
  | [], fl, n0, i, h0, done, k, a, ds, nx, r, _, _, hr => ⟨0, _, _, rfl, rfl, hr⟩
  | o :: os, fl, n0, i, h0, done, k, a, ds, nx, r, hfl, hn0, hr => by
    unfold drawK at hr
    rw [then_eq, then_eq, then_eq, then_eq, run_mk] at hr
    cases hc : Nat.blt i s with
    | false =>
      rw [hc] at hr
      obtain ⟨n, a', σ', h1, h2, h3⟩ := ops_k hop (o :: os) fl k a ds _ nx r hr
      refine ⟨n, a', σ', ?_, h2, h3⟩
      unfold drawOps
      rw [hc]
      exact h1
    | true =>
      rw [hc] at hr
      simp only [cond_true] at hr
      cases hw : o.anc.contains i with
      | true =>
        rw [hw] at hr
        simp only [cond_true] at hr
        obtain ⟨n, v, σ1, h1, h2⟩ := step_k (hop o.op) n0 a ds _ nx _ r hr
        revert h2
        cases hb : Nat.ble nx σ1.nx with
        | false => intro h2; cases h2
        | true =>
          intro h2
          simp only [cond_true] at h2
          have hle := Nat.le_of_ble_eq_true hb
          obtain ⟨m, a', σ', h3, h4, h5⟩ := draw_k hop os fl n0 (Nat.succ i) h0 _ k _ ds _ r hfl (Nat.le_trans hn0 hle) h2
          refine ⟨max n m, a', σ', ?_, h4, h5⟩
          have hmx : Nat.max fl n0 = n0 := Nat.max_eq_right hfl
          unfold drawOps
          rw [hc, hw]
          simp only [cond_true, hmx]
          rw [stepOp_mon (exec_mon (Nat.le_max_left n m)) h1]
          simp only [hb, Bool.not_true, cond_false]
          exact drawOps_mon (exec_mon (Nat.le_max_right n m)) h3
      | false =>
        rw [hw] at hr
        simp only [cond_false] at hr
        obtain ⟨n, v, σ1, h1, h2⟩ := step_k (hop o.op) nx a ds _ nx _ r hr
        revert h2
        cases hb : Nat.ble nx σ1.nx with
        | false => intro h2; cases h2
        | true =>
          intro h2
          simp only [cond_true] at h2
          have hle := Nat.le_of_ble_eq_true hb
          obtain ⟨m, a', σ', h3, h4, h5⟩ := draw_k hop os fl n0 (Nat.succ i) h0 _ k _ ds _ r hfl (Nat.le_trans hn0 hle) h2
          refine ⟨max n m, a', σ', ?_, h4, h5⟩
          have hmx : Nat.max fl nx = nx := Nat.max_eq_right (by omega)
          unfold drawOps
          rw [hc, hw]
          simp only [cond_true, cond_false, hmx]
          rw [stepOp_mon (exec_mon (Nat.le_max_left n m)) h1]
          simp only [hb, Bool.not_true, cond_false]
          exact drawOps_mon (exec_mon (Nat.le_max_right n m)) h3
theorem seq_run {n : Nat} {fl : Nat} {rd : Option Nat} {x y : LCode} {a a1 : HAct} {σ σ1 : HS} {q : HExit × HAct × HS} {m : Nat} (h1 : exec lp n fl rd x a σ = some (.normal, a1, σ1)) (h2 : exec lp m fl rd y a1 σ1 = some q) : xSeq (exec lp (max n m)) fl rd x y a σ = some q := by
  unfold xSeq
  rw [exec_mon (Nat.le_max_left n m) _ _ _ _ _ _ h1]
  exact exec_mon (Nat.le_max_right n m) _ _ _ _ _ _ h2
theorem loop_k {b : Option HBlk} {k : LState → HExit → Nat → Tr HV → List Nat → LCode → LCode → Nat → Option (HV × HS)} {r : HV × HS} (hr : loopK b k = some r) : ∃ q : HLoop, b = some (.loop q) ∧ k q.state q.pending q.nt q.tmps q.params q.assign q.body q.marks = some r := by
  unfold loopK at hr
  split at hr
  · exact ⟨_, rfl, hr⟩
  · cases hr
theorem marks_k {rd : Option Nat} {h : Tr HBlk} {nx : Nat} {k : Nat → List Nat → Tr HBlk → Nat → Option (HV × HS)} {r : HV × HS} (hr : marksK rd h nx k = some r) : ∃ mk ms h1 n1, marksOf rd ⟨h, nx⟩ = some (mk, ms, ⟨h1, n1⟩) ∧ k mk ms h1 n1 = some r := by
  unfold marksK at hr
  cases rd with
  | none => exact ⟨_, _, _, _, rfl, hr⟩
  | some l =>
    obtain ⟨q, hq, hk⟩ := loop_k hr
    refine ⟨_, _, _, _, ?_, hk⟩
    unfold marksOf
    simp only [hq]
theorem jump_k (e : HExit) (kn : Kt) (kx : Nat → Kt) (kr : Kt) (a : HAct) (σ : HS) : jumpK e kn kx kr a.tmps a.defers σ.h σ.nx = contK e kn kx kr a σ := by cases e <;> rfl
theorem range_k {fn : Nat → Bx Kf} (hfn : ∀ f, KfOk lp (fn f).run f) (f : Lo) (ps : List Nat) (assign body : LCode) : KcOk lp nt (rangeK fn nt (evK f).run ps assign body) (.rangeFunc f ps assign body) := by
  intro fl rd kn kx kr a ds h nx r hr
  unfold rangeK at hr
  rw [ev_eq (nt := nt) f a ds] at hr
  split at hr
  · rename_i g first captured hf
    obtain ⟨mk, ms, h1, n1, hm, hr⟩ := marks_k hr
    obtain ⟨n, v, σ3, hc, hr⟩ := hfn g _ _ _ _ _ _ hr
    obtain ⟨q, hq, hr⟩ := loop_k hr
    revert hr
    cases hb : (notBusy q.state && Nat.ble fl n1) with
    | false => intro hr; cases hr
    | true =>
      intro hr
      simp only [cond_true] at hr
      simp only [Bool.and_eq_true] at hb
      refine ⟨n + 1, q.pending, ⟨nt, a, ms ++ ds⟩, σ3.upd n1 (some (.loop { q with state := .exhausted })), ?_, rfl, ?_⟩
      · show xRange lp (exec lp n) fl rd f ps assign body _ _ = _
        unfold xRange
        rw [hf, hm]
        dsimp only
        have hc' : callF lp (exec lp n) fl g (first ++ [.yield n1] ++ captured) ((⟨h1, n1⟩ : HS).new (.loop ⟨.ready, .normal, nt, a, ps, assign, body, mk⟩)) = some (v, σ3) := hc
        rw [hc']
        dsimp only
        unfold endLoopH
        rw [hq]
        dsimp only
        have hnb := hb.1
        cases hst : q.state <;> rw [hst] at hnb <;> first | (exact absurd hnb (by decide)) | (dsimp only; rw [hb.2]; rfl)
      · rw [← jump_k]; exact hr
  · cases hr
theorem end_k {l : Nat} {e : HExit} {k : Kv} {h : Tr HBlk} {nx : Nat} {r : HV × HS} (hr : endK l e k h nx = some r) : ∃ v σ', endRoundH l e ⟨h, nx⟩ = some (v, σ') ∧ k v σ'.h σ'.nx = some r := by
  unfold endK at hr
  obtain ⟨q, hq, hr⟩ := loop_k hr
  cases e with
  | normal =>
    refine ⟨.bool true, (⟨h, nx⟩ : HS).upd l (some (.loop { q with state := .ready, pending := .normal })), ?_, hr⟩
    unfold endRoundH
    simp only [hq]
  | exit id =>
    refine ⟨.bool false, (⟨h, nx⟩ : HS).upd l (some (.loop { q with state := .done, pending := .exit id })), ?_, hr⟩
    unfold endRoundH
    simp only [hq]
  | ret =>
    refine ⟨.bool false, (⟨h, nx⟩ : HS).upd l (some (.loop { q with state := .done, pending := .ret })), ?_, hr⟩
    unfold endRoundH
    simp only [hq]
theorem round_k {co : Nat → LCode → Bx Kc} (hco : ∀ nt c, KcOk lp nt (co nt c).run c) : KrOk lp (roundK co) := by
  intro fl l args h nx k r hr
  unfold roundK at hr
  obtain ⟨q, hq, hr⟩ := loop_k hr
  split at hr
  · rename_i tm1 hz
    obtain ⟨n, e, a1, σ1, h1, h2, h3⟩ := hco _ _ _ _ _ _ _ _ _ _ _ _ hr
    cases e with
    | normal =>
      dsimp only [contK] at h3
      obtain ⟨q1, hq1, h3⟩ := loop_k h3
      revert h3
      cases hb : (isReady q1.state && Nat.ble fl l) with
      | false => intro h3; cases h3
      | true =>
        intro h3
        simp only [cond_true] at h3
        simp only [Bool.and_eq_true] at hb
        obtain ⟨m, e, a2, σ2, h4, h5, h6⟩ := hco _ _ _ _ _ _ _ _ _ _ _ _ h3
        have ea : (⟨q.nt, a1.tmps, a1.defers⟩ : HAct) = a1 := by rw [← h2]
        rw [ea] at h4
        have hbegin : beginRoundH fl l σ1 = some ⟨σ1.h.set l (some (.loop { q1 with state := .busy })), σ1.nx⟩ := by
          unfold beginRoundH
          rw [hq1]
          dsimp only
          have hrd := hb.1
          cases hst : q1.state <;> rw [hst] at hrd <;> first | (exact absurd hrd (by decide)) | (dsimp only; rw [hb.2]; rfl)
        have hend : ∃ v σ', endRoundH l e σ2 = some (v, σ') ∧ k v σ'.h σ'.nx = some r := by
          cases e <;> exact end_k h6
        obtain ⟨v, σ', g1, g2⟩ := hend
        refine ⟨max n m, v, σ', ?_, g2⟩
        unfold roundH
        rw [hq]
        dsimp only
        rw [hz]
        dsimp only
        rw [exec_mon (Nat.le_max_left n m) _ _ _ _ _ _ h1]
        dsimp only
        rw [hbegin]
        dsimp only
        rw [exec_mon (Nat.le_max_right n m) _ _ _ _ _ _ h4]
        exact g1
    | exit id => cases h3
    | ret => cases h3
  · cases hr
theorem comp_k {op : LOp → Bx Ko} {fn : Nat → Bx Kf} (hop : ∀ o, KoOk lp nt (op o).run o) (hfn : ∀ f, KfOk lp (fn f).run f) : ∀ c, KcOk lp nt (comp op fn nt c).run c
  | .skip => fun fl rd kn kx kr a ds h nx r hr => ⟨1, .normal, _, _, rfl, rfl, hr⟩
  | .seq x y => by
    intro fl rd kn kx kr a ds h nx r hr
    unfold comp at hr
    rw [then_eq, then_eq, run_mk] at hr
    obtain ⟨n, e, a1, σ1, h1, h2, h3⟩ := comp_k hop hfn x fl rd _ kx kr a ds h nx r hr
    cases e with
    | normal =>
      dsimp only [contK] at h3
      obtain ⟨m, e, a', σ', h4, h5, h6⟩ := comp_k hop hfn y fl rd kn kx kr a1.tmps a1.defers σ1.h σ1.nx r h3
      have ea : (⟨nt, a1.tmps, a1.defers⟩ : HAct) = a1 := by rw [← h2]
      rw [ea] at h4
      exact ⟨max n m + 1, e, a', σ', seq_run h1 h4, h5, h6⟩
    | exit id => exact ⟨n + 1, .exit id, a1, σ1, by show xSeq _ _ _ _ _ _ _ = _; unfold xSeq; rw [h1], h2, h3⟩
    | ret => exact ⟨n + 1, .ret, a1, σ1, by show xSeq _ _ _ _ _ _ _ = _; unfold xSeq; rw [h1], h2, h3⟩
  | .cond c x y => by
    intro fl rd kn kx kr a ds h nx r hr
    unfold comp at hr
    rw [then_eq, then_eq, then_eq, run_mk] at hr
    rw [ev_eq (nt := nt) c a ds] at hr
    split at hr
    · rename_i b hb
      cases b with
      | true =>
        obtain ⟨n, e, a', σ', h1, h2, h3⟩ := comp_k hop hfn x fl rd kn kx kr a ds h nx r hr
        refine ⟨n + 1, e, a', σ', ?_, h2, h3⟩
        show xCond _ _ _ _ _ _ _ _ = _
        unfold xCond
        rw [hb]; exact h1
      | false =>
        obtain ⟨n, e, a', σ', h1, h2, h3⟩ := comp_k hop hfn y fl rd kn kx kr a ds h nx r hr
        refine ⟨n + 1, e, a', σ', ?_, h2, h3⟩
        show xCond _ _ _ _ _ _ _ _ = _
        unfold xCond
        rw [hb]; exact h1
    · cases hr
  | .block id x => by
    intro fl rd kn kx kr a ds h nx r hr
    unfold comp at hr
    rw [then_eq, run_mk] at hr
    obtain ⟨n, e, a', σ', h1, h2, h3⟩ := comp_k hop hfn x fl rd kn _ kr a ds h nx r hr
    cases e with
    | normal => exact ⟨n + 1, .normal, a', σ', by show xBlock _ _ _ _ _ _ _ = _; unfold xBlock; rw [h1], h2, h3⟩
    | ret => exact ⟨n + 1, .ret, a', σ', by show xBlock _ _ _ _ _ _ _ = _; unfold xBlock; rw [h1], h2, h3⟩
    | exit i =>
      dsimp only [contK] at h3
      refine ⟨n + 1, bif Nat.beq i id then .normal else .exit i, a', σ', by show xBlock _ _ _ _ _ _ _ = _; unfold xBlock; rw [h1], h2, ?_⟩
      revert h3
      cases Nat.beq i id <;> exact fun h => h
  | .loop x => by
    intro fl rd kn kx kr a ds h nx r hr
    unfold comp at hr
    rw [then_eq, run_mk] at hr
    have ihx := comp_k hop hfn x
    revert hr
    generalize 1000000 = m
    induction m generalizing a ds h nx with
    | zero => intro hr; cases hr
    | succ m ih =>
      intro hr
      obtain ⟨n, e, a1, σ1, h1, h2, h3⟩ := ihx fl rd _ kx kr a ds h nx r hr
      cases e with
      | normal =>
        dsimp only [contK] at h3
        obtain ⟨k, e, a', σ', h4, h5, h6⟩ := ih a1.tmps a1.defers σ1.h σ1.nx h3
        have ea : (⟨nt, a1.tmps, a1.defers⟩ : HAct) = a1 := by rw [← h2]
        rw [ea] at h4
        exact ⟨max n k + 1, e, a', σ', seq_run h1 h4, h5, h6⟩
      | exit id => exact ⟨n + 1, .exit id, a1, σ1, by show xSeq _ _ _ _ _ _ _ = _; unfold xSeq; rw [h1], h2, h3⟩
      | ret => exact ⟨n + 1, .ret, a1, σ1, by show xSeq _ _ _ _ _ _ _ = _; unfold xSeq; rw [h1], h2, h3⟩
  | .scope x => by
    intro fl rd kn kx kr a ds h nx r hr
    obtain ⟨n, e, a', σ', h1, h2, h3⟩ := comp_k hop hfn x fl rd kn kx kr a ds h nx r hr
    exact ⟨n + 1, e, a', σ', h1, h2, h3⟩
  | .exit id => fun fl rd kn kx kr a ds h nx r hr => ⟨1, .exit id, _, _, rfl, rfl, hr⟩
  | .ret => fun fl rd kn kx kr a ds h nx r hr => ⟨1, .ret, _, _, rfl, rfl, hr⟩
  | .reg ops => by
    intro fl rd kn kx kr a ds h nx r hr
    unfold comp at hr
    rw [then_eq, run_mk] at hr
    obtain ⟨n, a', σ', h1, h2, h3⟩ := ops_k hop ops fl kn a ds h nx r hr
    refine ⟨n + 1, .normal, a', σ', ?_, h2, h3⟩
    show xNormal _ = _
    rw [h1]; rfl
  | .draw s ops => by
    intro fl rd kn kx kr a ds h nx r hr
    unfold comp at hr
    rw [then_eq, run_mk] at hr
    cases hb : Nat.ble fl nx with
    | false => rw [hb] at hr; cases hr
    | true =>
      rw [hb] at hr
      obtain ⟨n, a', σ', h1, h2, h3⟩ := draw_k hop ops fl nx 0 h [] kn a ds nx r (Nat.le_of_ble_eq_true hb) (Nat.le_refl _) hr
      refine ⟨n + 1, .normal, a', σ', ?_, h2, h3⟩
      show xDraw lp (exec lp n) fl s ops _ _ = _
      unfold xDraw
      rw [hb]
      simp only [cond_true, h1]
      rfl
  | .rangeFunc f ps assign body => by
    unfold comp
    rw [then_eq, run_mk]
    exact range_k hfn f ps assign body
  | .bad => fun fl rd kn kx kr a ds h nx r hr => by cases hr
theorem leave_k {fl : Nat} {res : List LRes} {k : Kv} {a : HAct} {σ : HS} {r : HV × HS} (hn : a.nt = nt) (hr : leaveK fl nt res k a.tmps a.defers σ.h σ.nx = some r) : ∃ v σ', leaveH fl a res σ = some (v, σ') ∧ k v σ'.h σ'.nx = some r := by
  unfold leaveK at hr
  have ea : (⟨nt, a.tmps, a.defers⟩ : HAct) = a := by rw [← hn]
  rw [ea] at hr
  split at hr
  · rename_i v σ' h1; exact ⟨v, σ', h1, hr⟩
  · cases hr
theorem both_k : ∀ n, (∀ f, KfOk lp ((bothK lp n).1 f).run f) ∧ KrOk lp (bothK lp n).2
  | 0 => ⟨fun f fl args h nx k r hr => (by cases hr), fun fl l args h nx k r hr => (by cases hr)⟩
  | n + 1 => by
    obtain ⟨hfn, hro⟩ := both_k n
    have hco : ∀ nt c, KcOk lp nt (comp (compOp lp (bothK lp n).1 (bothK lp n).2 nt) (bothK lp n).1 nt c).run c := fun nt c => comp_k (fun o => op_ok hfn hro o) hfn c
    refine ⟨fun f fl args h nx k r hr => ?_, round_k hco⟩
    unfold bothK at hr
    dsimp only at hr
    split at hr
    · cases hr
    · rename_i lf hlf
      split at hr
      · rename_i g hg
        rw [run_mk] at hr
        unfold specK at hr
        split at hr
        · rename_i v σ h1
          cases hb : Nat.ble nx σ.nx with
          | false => rw [hb] at hr; cases hr
          | true =>
            rw [hb] at hr
            refine ⟨0, v, σ, ?_, hr⟩
            unfold callF
            rw [hlf]
            simp only [hg]
            unfold specH
            rw [h1]
            simp only [hb, cond_true]
        · cases hr
      rename_i hsp
      rw [then_eq] at hr
      have run : ∀ (fl0 : Nat) (k0 : Kv), (bif Nat.ble args.length lf.nt then (comp (compOp lp (bothK lp n).1 (bothK lp n).2 lf.nt) (bothK lp n).1 lf.nt lf.body).run fl0 none (leaveK fl0 lf.nt lf.res k0) (fun _ _ _ _ _ => none) (leaveK fl0 lf.nt lf.res k0) (putAll .e 0 args) [] h nx else none) = some r →
          ∃ m v σ', callB (exec lp m) fl0 lf args ⟨h, nx⟩ = some (v, σ') ∧ k0 v σ'.h σ'.nx = some r := by
        intro fl0 k0 hr
        cases hb : Nat.ble args.length lf.nt with
        | false => rw [hb] at hr; cases hr
        | true =>
          rw [hb] at hr
          simp only [cond_true] at hr
          have hmx : Nat.max lf.nt args.length = lf.nt := Nat.max_eq_left (Nat.le_of_ble_eq_true hb)
          obtain ⟨m, e, a', σ', h1, h2, h3⟩ := hco lf.nt lf.body fl0 none _ _ _ _ _ _ _ r hr
          cases e with
          | normal =>
            obtain ⟨v, σ'', g1, g2⟩ := leave_k h2 h3
            refine ⟨m, v, σ'', ?_, g2⟩
            unfold callB
            rw [hmx, h1]
            exact g1
          | exit id => cases h3
          | ret =>
            obtain ⟨v, σ'', g1, g2⟩ := leave_k h2 h3
            refine ⟨m, v, σ'', ?_, g2⟩
            unfold callB
            rw [hmx, h1]
            exact g1
      unfold enterK at hr
      cases hi : lf.imp with
      | true =>
        rw [hi] at hr
        simp only [cond_true] at hr
        rw [run_mk] at hr
        obtain ⟨m, v, σ', g1, g2⟩ := run fl k hr
        refine ⟨m, v, σ', ?_, g2⟩
        unfold callF
        rw [hlf]
        simp only [hsp, hi, cond_true]
        exact g1
      | false =>
        rw [hi] at hr
        simp only [cond_false] at hr
        rw [run_mk] at hr
        obtain ⟨m, v, σ', g1, g2⟩ := run nx (gcK h nx k) hr
        refine ⟨m, v, gcH ⟨h, nx⟩ σ' v, ?_, g2⟩
        unfold callF
        rw [hlf]
        simp only [hsp, hi, cond_false, g1]
theorem fn_k (n f : Nat) : KfOk lp ((fnK lp n f).run) f := (both_k n).1 f
/-- **What the closures reckon, the plain machine does.** -/
theorem c_of_k {n f : Nat} {args : List HV} {h : Tr HBlk} {nx : Nat} {Q : HV → HS → Prop} {k : Kv} {r : HV × HS} (hr : (fnK lp n f).run 0 args h nx k = some r) (hk : ∀ v h nx, k v h nx = some r → Q v ⟨h, nx⟩) : C lp 0 f args ⟨h, nx⟩ Q := by
  obtain ⟨m, v, σ', h1, h2⟩ := fn_k n f 0 args h nx k r hr
  exact ⟨m, v, σ', h1, hk _ _ _ h2⟩
end Go.Hx

