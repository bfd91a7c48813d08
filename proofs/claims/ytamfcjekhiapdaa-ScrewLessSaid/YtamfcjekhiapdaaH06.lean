/- Functions of the program come to that. -/
import Derived.Test.YtamfcjekhiapdaaH05
set_option linter.all false
/- Functions of the program come to that. -/
namespace Go.Hx.V
open Go.Hx
set_option linter.unusedVariables false
set_option maxRecDepth 20000
set_option maxHeartbeats 4000000
attribute [local irreducible] W R C thenH inBlockH Tr.get Tr.set lo
theorem ct87_2 (N : Nat) {a0 : (List Int)} {a1f0_0 : Int} {a1f0_1 : (List (Int × Int))} {a1f0_2 : (List (Int × Int × Int))} {a1f0_3 : Int} {r : Bool} (hF : sf87_2 N a0 a1f0_0 a1f0_1 a1f0_2 a1f0_3 = some r) {fl : Nat} {h0 : Tr HBlk} {n0 : Nat} {F0 : PH} (hd : D h0 n0) (hs : F0.sub h0) {pa0 : Option (Nat × Nat)} {ca0 : Nat} {pa1f0_1 : Option (Nat × Nat)} {ca1f0_1 : Nat} {pa1f0_2 : Option (Nat × Nat)} {ca1f0_2 : Nat} (ra0 : RowF rI 1 F0 pa0 ca0 a0) (ra1f0_1 : RowF (rP rI rI) 2 F0 pa1f0_1 ca1f0_1 a1f0_1) (ra1f0_2 : RowF (rP rI (rP rI rI)) 3 F0 pa1f0_2 ca1f0_2 a1f0_2) : C LW fl 87 [(.slice pa0 (a0).length ca0), (.func 79 [(.agg [(i64 a1f0_0), (.slice pa1f0_1 (a1f0_1).length ca1f0_1), (.slice pa1f0_2 (a1f0_2).length ca1f0_2), (i64 a1f0_3)])] [])] ⟨h0, n0⟩ (KS (.bool r) n0 h0) := by
  unfold sf87_2 at hF
  refine in_cT hd hs lw87 rfl rfl (by rfl) (fun st T hT => ?_)
  have hfl : n0 ≤ n0 := Nat.le_refl n0
  have t0 := hT 0 _ rfl
  have t1 := hT 1 _ rfl
  dsimp only [L87]
  refine w_seq ?_; refine w_reg ?_; refine v_move ?_; refine r_nil ?_; refine th_n ?_; refine w_seq ?_; refine w_seq ?_; refine w_reg ?_; refine v_move ?_; refine v_len ?_; refine v_move ?_; refine r_nil ?_; refine th_n ?_; refine w_block ?_; obtain ⟨y10, hy, hF⟩ := bnd_some hF; refine v_loopD (sf87_2_L1 N a0 a1f0_0 a1f0_1 a1f0_2 a1f0_3) (fun x1 T ds2 h nx => ∃ (F2 : PH), ds2 = [] ∧ PH.le F0 F2 ∧ St n0 h0 F0 F2 h nx [] ∧ T.get 1 = some (.func 79 [(.agg [(i64 a1f0_0), (.slice pa1f0_1 (a1f0_1).length ca1f0_1), (.slice pa1f0_2 (a1f0_2).length ca1f0_2), (i64 a1f0_3)])] []) ∧ T.get 7 = some (.slice pa0 (a0).length ca0) ∧ T.get 8 = some (i64 ((a0).length : Int)) ∧ T.get 9 = some (i64 x1)) (fun y e a σ => (∃ u, y = (.inl u) ∧ e = .ret ∧ a.nt = 18 ∧ ∃ (F12 : PH), a.defers = [] ∧ PH.le F0 F12 ∧ St n0 h0 F0 F12 σ.h σ.nx [] ∧ a.tmps.get 4 = some (.bool false)) ∨ (∃ u, y = (.inr u) ∧ e = .exit 0 ∧ a.nt = 18 ∧ ∃ (F14 : PH), a.defers = [] ∧ PH.le F0 F14 ∧ St n0 h0 F0 F14 σ.h σ.nx [])) (fun x1 T ds2 h nx s hp hF => ?_) N _ y10 _ _ _ _ hy ⟨F0, rfl, (PH.le.refl _), st, gA, gA, gA, gA⟩ (fun e a σ hne hq => ?_)
  · obtain ⟨F2, rfl, le2, st, t1, t7, t8, t9⟩ := hp; unfold sf87_2_L1 at hF; unfold L87w0; refine w_seq ?_; refine w_reg ?_; refine v_lss ?_; refine r_nil ?_; refine th_n ?_; refine w_seq ?_; refine v_cond (fun hb15 => ?_) (fun hb15 => ?_)
    · have hF := bif_t hb15 hF; refine w_skip ?_; refine th_n ?_; refine w_seq ?_; refine w_block ?_; refine w_seq ?_; refine w_reg ?_; obtain ⟨n16, x16, z16, l16, g16, hF⟩ := ix_some hF; obtain ⟨b16, o16, s16, j16, r16, e16, f16, k16, rfl⟩ := RowF.get ra0 g16; refine v_ixp e16 z16 l16 ?_; refine v_ld1 (st.sub _ _ (le2 _ _ f16)) (take_at (j := 0) k16 rfl) ?_; refine v_move ?_; refine r_nil ?_; refine th_n ?_; refine w_seq ?_; refine w_reg ?_; refine v_move ?_; refine v_move ?_; obtain ⟨v17, e18, hF⟩ := bnd_some hF; refine v_call st (ct79 N e18 st.d st.sub (RowF.mono le2 ra1f0_1) (RowF.mono le2 ra1f0_2)) (fun n19 st => ?_); refine v_not ?_; refine r_nil ?_; refine th_n ?_; refine v_cond (fun hb20 => ?_) (fun hb20 => ?_)
      · have hF := bif_t hb20 hF; refine w_seq ?_; refine w_reg ?_; refine v_move ?_; refine r_nil ?_; refine th_n ?_; refine w_ret ?_; refine ib_r ?_; refine th_r ?_; refine th_r ?_; refine ⟨_, (inj hF).symm, .inl ⟨_, rfl, rfl, rfl, ?_⟩⟩; dsimp only
        exact ⟨F2, rfl, le2, st, gA⟩
      · have hF := bif_f hb20 hF; refine w_skip ?_; refine ib_n ?_; refine th_n ?_; refine w_reg ?_; obtain ⟨q21, hF⟩ := ck_some hF; refine v_add q21 ?_; refine v_move ?_; refine r_nil ?_; refine thn ⟨_, (inj hF).symm, rfl, ?_⟩; dsimp only
        exact ⟨F2, rfl, le2, st, gA, gA, gA, gA⟩
    · have hF := bif_f hb15 hF; refine w_exit ?_; refine th_e ?_; refine th_e ?_; refine ⟨_, (inj hF).symm, .inr (⟨_, rfl, rfl, rfl, ?_⟩)⟩; dsimp only
      exact ⟨F2, rfl, le2, st⟩
  · rcases hq with hq | hq
    · obtain ⟨N9, T, ds12⟩ := a; obtain ⟨h22, n23⟩ := σ; obtain ⟨w11, rfl, rfl, e1, F12, e2, le12, st, t4⟩ := hq
      dsimp only at e1 e2
      subst e1
      subst e2
      dsimp only at st t4
      have hF := sel_l hF; refine ib_r ?_; refine th_r ?_; obtain rfl := inj hF
      exact end_s st (Res.t gA Res.nil) rfl rfl
    · obtain ⟨N9, T, ds14⟩ := a; obtain ⟨h24, n25⟩ := σ; obtain ⟨w13, rfl, rfl, e1, F14, e2, le14, st⟩ := hq
      dsimp only at e1 e2
      subst e1
      subst e2
      dsimp only at st
      have hF := sel_r hF; refine ib_e ?_; refine th_n ?_; refine w_seq ?_; refine w_reg ?_; refine v_move ?_; refine r_nil ?_; refine th_n ?_; refine w_ret ?_; obtain rfl := inj hF
      exact end_s st (Res.t gA Res.nil) rfl rfl
theorem ct59 (N : Nat) {a0_0 : Int} {a0_1 : (List (Int × Int))} {a0_2 : (List (Int × Int × Int))} {a0_3 : Int} {a0_4 : (List Int)} {a0_5 : (List Int)} {a1_0 : Int} {a1_1 : Int} {r : (Int × Int)} (hF : sf59 N a0_0 a0_1 a0_2 a0_3 a0_4 a0_5 a1_0 a1_1 = some r) {fl : Nat} {h0 : Tr HBlk} {n0 : Nat} {F0 : PH} (hd : D h0 n0) (hs : F0.sub h0) {pa0_1 : Option (Nat × Nat)} {ca0_1 : Nat} {pa0_2 : Option (Nat × Nat)} {ca0_2 : Nat} {pa0_4 : Option (Nat × Nat)} {ca0_4 : Nat} {pa0_5 : Option (Nat × Nat)} {ca0_5 : Nat} (ra0_1 : RowF (rP rI rI) 2 F0 pa0_1 ca0_1 a0_1) (ra0_2 : RowF (rP rI (rP rI rI)) 3 F0 pa0_2 ca0_2 a0_2) (ra0_4 : RowF rI 1 F0 pa0_4 ca0_4 a0_4) (ra0_5 : RowF rI 1 F0 pa0_5 ca0_5 a0_5) : C LW fl 59 [(.agg [(i64 a0_0), (.slice pa0_1 (a0_1).length ca0_1), (.slice pa0_2 (a0_2).length ca0_2), (i64 a0_3), (.slice pa0_4 (a0_4).length ca0_4), (.slice pa0_5 (a0_5).length ca0_5)]), (.agg [(i64 a1_0), (i64 a1_1)])] ⟨h0, n0⟩ (KS (.agg [(i64 r.1), (i64 r.2)]) n0 h0) := by
  unfold sf59 at hF
  refine in_cT hd hs lw59 rfl rfl (by rfl) (fun st T hT => ?_)
  have hfl : n0 ≤ n0 := Nat.le_refl n0
  have t0 := hT 0 _ rfl
  have t1 := hT 1 _ rfl
  dsimp only [L59]
  refine w_seq ?_; refine w_reg ?_; refine v_box st (fun b1 h2 n3 st => ?_); refine v_box st (fun b4 h5 n6 st => ?_); refine v_alloc st (fun b7 h8 n9 st => ?_); refine r_nil ?_; refine th_n ?_; refine w_seq ?_; refine w_reg ?_; refine v_ldn (vs := [(i64 a0_0), (.slice pa0_1 (a0_1).length ca0_1), (.slice pa0_2 (a0_2).length ca0_2), (i64 a0_3), (.slice pa0_4 (a0_4).length ca0_4), (.slice pa0_5 (a0_5).length ca0_5)]) (st.at (i := 0) rfl).2.2 rfl ?_; refine v_fa ?_; refine v_ld1 (st.at (i := 1) rfl).2.2 rfl ?_; obtain ⟨v10, e11, hF⟩ := bnd_some hF; refine v_call st (ct55 N e11 st.d st.sub ra0_1 ra0_2 ra0_4 ra0_5) (fun n12 st => ?_); refine v_alloc st (fun b13 h14 n15 st => ?_); refine v_st (cs' := [(i64 v10.1), (i64 v10.2)]) st 3 rfl rfl rfl rfl hfl (fun h16 st => ?_)
  refine r_nil ?_; refine th_n ?_; refine w_seq ?_; refine w_reg ?_; refine v_fa ?_; refine v_ld1 (st.at (i := 3) rfl).2.2 rfl ?_; refine v_fa ?_; refine v_ld1 (st.at (i := 1) rfl).2.2 rfl ?_; obtain ⟨q17, hF⟩ := ck_some hF; refine v_sub q17 ?_; refine v_fa ?_; refine v_ld1 (st.at (i := 3) rfl).2.2 rfl ?_; refine v_fa ?_; refine v_ld1 (st.at (i := 1) rfl).2.2 rfl ?_; obtain ⟨q18, hF⟩ := ck_some hF; refine v_sub q18 ?_; refine v_build (cs := [(i64 (v10.1 - a1_0)), (i64 (v10.2 - a1_0))]) rfl ?_; refine v_st (cs' := [(i64 (v10.1 - a1_0)), (i64 (v10.2 - a1_0))]) st 2 rfl rfl rfl rfl hfl (fun h19 st => ?_); refine r_nil ?_; refine th_n ?_; refine w_ret ?_; obtain rfl := inj hF
  exact end_s st (Res.c gA (st.at (i := 2) rfl).2.2 (show takeN _ _ = some [(i64 (v10.1 - a1_0)), (i64 (v10.2 - a1_0))] from rfl) Res.nil) rfl rfl
theorem ct68 (N : Nat) {a0 : (List Int)} {r : Int} (hF : sf68 N a0 = some r) {fl : Nat} {h0 : Tr HBlk} {n0 : Nat} {F0 : PH} (hd : D h0 n0) (hs : F0.sub h0) {pa0 : Option (Nat × Nat)} {ca0 : Nat} (ra0 : RowF rI 1 F0 pa0 ca0 a0) : C LW fl 68 [(.slice pa0 (a0).length ca0)] ⟨h0, n0⟩ (KS (i64 r) n0 h0) := by
  unfold sf68 at hF
  refine in_cT hd hs lw68 rfl rfl (by rfl) (fun st T hT => ?_)
  have hfl : n0 ≤ n0 := Nat.le_refl n0
  have t0 := hT 0 _ rfl
  dsimp only [L68]
  refine w_seq ?_; refine w_reg ?_; refine v_move ?_; refine r_nil ?_; refine th_n ?_; refine w_seq ?_; refine w_seq ?_; refine w_reg ?_; refine v_move ?_; refine v_len ?_; refine v_gtr ?_; refine r_nil ?_; refine th_n ?_; refine v_cond (fun hb1 => ?_) (fun hb1 => ?_)
  · have hF := bif_t hb1 hF; refine w_seq ?_; refine w_reg ?_; refine v_move ?_; refine r_nil ?_; refine th_n ?_; refine w_ret ?_; refine th_r ?_; obtain rfl := inj hF
    exact end_s st (Res.t gA Res.nil) rfl rfl
  · have hF := bif_f hb1 hF; refine w_skip ?_; refine th_n ?_; refine w_seq ?_; refine w_seq ?_; refine w_reg ?_; refine v_move ?_; refine r_nil ?_; refine th_n ?_; refine w_block ?_; obtain ⟨y36, hy, hF⟩ := bnd_some hF; refine v_loopD (sf68_L1 N a0) (fun x2 T ds3 h nx => ∃ (F3 : PH), ds3 = [] ∧ PH.le F0 F3 ∧ St n0 h0 F0 F3 h nx [] ∧ T.get 0 = some (.slice pa0 (a0).length ca0) ∧ T.get 3 = some (i64 x2)) (fun y e a σ => (∃ u, y = (.inl u) ∧ e = .ret ∧ a.nt = 38 ∧ ∃ (F38 : PH), a.defers = [] ∧ PH.le F0 F38 ∧ St n0 h0 F0 F38 σ.h σ.nx [] ∧ a.tmps.get 2 = some (i64 u)) ∨ (∃ u, y = (.inr u) ∧ e = .exit 0 ∧ a.nt = 38 ∧ ∃ (F40 : PH), a.defers = [] ∧ PH.le F0 F40 ∧ St n0 h0 F0 F40 σ.h σ.nx [] ∧ a.tmps.get 0 = some (.slice pa0 (a0).length ca0))) (fun x2 T ds3 h nx s hp hF => ?_) N _ y36 _ _ _ _ hy ⟨F0, rfl, (PH.le.refl _), st, gA, gA⟩ (fun e a σ hne hq => ?_)
    · obtain ⟨F3, rfl, le3, st, t0, t3⟩ := hp; unfold sf68_L1 at hF; unfold L68w0; refine w_seq ?_; refine w_seq ?_; refine w_reg ?_; refine v_move ?_; refine v_move ?_; refine v_len ?_; refine v_lss ?_; refine r_nil ?_; refine th_n ?_; refine v_cond (fun hb41 => ?_) (fun hb41 => ?_)
      · have hF := bif_t hb41 hF; refine w_skip ?_; refine th_n ?_; refine w_seq ?_; refine w_block ?_; obtain ⟨y54, hA55, hF⟩ := bnd_some hF; refine w_cutD (fun T ds57 h nx => ∃ (F57 : PH), ds57 = [] ∧ PH.le F3 F57 ∧ St n0 h0 F0 F57 h nx [] ∧ T.get 0 = some (.slice pa0 (a0).length ca0) ∧ T.get 3 = some (i64 x2) ∧ T.get 34 = some (.bool y54)) ?_ (fun T ds57 h nx hp => ?_)
        · have hK56 := hF
          have hF := hA55; refine w_drawV (Nat.le_trans hfl st.ext.le) (fun dw => ?_); refine y_pure st.d dw (fun hm vw => v_move pr_nil) ?_; refine y_pure st.d dw (fun hm vw => v_move pr_nil) ?_; obtain ⟨n58, x58, z58, l58, g58, hF⟩ := ix_some hF; obtain ⟨b58, o58, s58, j58, r58, e58, f58, k58, rfl⟩ := RowF.get ra0 g58; refine y_pure st.d dw (fun hm vw => v_ixp e58 z58 l58 pr_nil) ?_; refine y_pure st.d dw (fun hm vw => v_ld1 (vw.fz st (le3 _ _ f58)) (take_at (j := 0) k58 rfl) pr_nil) ?_; obtain ⟨v59, e60, hF⟩ := bnd_some hF; refine y_flat st.d dw (fun hm vw => u_call (ct24 N e60 vw.d (vw.sub st) ) (fun n' hn' => pf_nil hn')) (fun n61 hn' dw => ?_); refine y_pure st.d dw (fun hm vw => v_not pr_nil) ?_
          refine y_pure st.d dw (fun hm vw => v_move pr_nil) ?_
          rcases Bool.eq_false_or_eq_true (!v59) with hb62 | hb62
          · have hF := bif_t hb62 hF; refine y_pure st.d dw (fun hm vw => g_skip hb62 pr_nil) ?_; refine y_pure st.d dw (fun hm vw => g_skip hb62 pr_nil) ?_; refine y_pure st.d dw (fun hm vw => g_skip hb62 pr_nil) ?_; refine y_pure st.d dw (fun hm vw => g_skipu pr_nil) ?_; refine y_pure st.d dw (fun hm vw => g_skipu pr_nil) ?_; refine y_pure st.d dw (fun hm vw => g_skipu pr_nil) ?_; refine y_pure st.d dw (fun hm vw => g_skipu pr_nil) ?_; refine y_pure st.d dw (fun hm vw => g_skipu pr_nil) ?_; refine y_pure st.d dw (fun hm vw => g_skipu pr_nil) ?_; refine y_pure st.d dw (fun hm vw => g_skipu pr_nil) ?_; refine y_pure st.d dw (fun hm vw => g_skipu pr_nil) ?_; refine y_pure st.d dw (fun hm vw => g_skipu pr_nil) ?_
            refine y_end st.d dw rfl (fun h63 ex vs => ?_)
            have st := st.ext1 ex
            refine g_skipu ?_; refine g_skip hb62 ?_; refine v_pick hb62 ?_; refine r_nil ?_; obtain rfl := inj hF; refine thn ⟨rfl, ?_⟩; dsimp only
            exact ⟨F3, rfl, (PH.le.refl _), st, gA, gA, gA⟩
          · have hF := bif_f hb62 hF; refine y_pure st.d dw (fun hm vw => g_take hb62 (v_move pr_nil)) ?_; refine y_pure st.d dw (fun hm vw => g_take hb62 (v_gtr pr_nil)) ?_; refine y_pure st.d dw (fun hm vw => g_take hb62 (v_move pr_nil)) ?_
            rcases Bool.eq_false_or_eq_true (decide ((0 : Int) < x2)) with hb64 | hb64
            · have hF := bif_t hb64 hF; refine y_pure st.d dw (fun hm vw => g_take hb64 (v_move pr_nil)) ?_; refine y_pure st.d dw (fun hm vw => g_take hb64 (v_move pr_nil)) ?_; obtain ⟨n65, x65, z65, l65, g65, hF⟩ := ix_some hF; obtain ⟨b65, o65, s65, j65, r65, e65, f65, k65, rfl⟩ := RowF.get ra0 g65; refine y_pure st.d dw (fun hm vw => g_take hb64 (v_ixp e65 z65 l65 pr_nil)) ?_; refine y_pure st.d dw (fun hm vw => g_take hb64 (v_ld1 (vw.fz st (le3 _ _ f65)) (take_at (j := 0) k65 rfl) pr_nil)) ?_; refine y_pure st.d dw (fun hm vw => g_take hb64 (v_move pr_nil)) ?_; refine y_pure st.d dw (fun hm vw => g_take hb64 (v_move pr_nil)) ?_; obtain ⟨q66, hF⟩ := ck_some hF; refine y_pure st.d dw (fun hm vw => g_take hb64 (v_sub q66 pr_nil)) ?_
              obtain ⟨n67, x67, z67, l67, g67, hF⟩ := ix_some hF; obtain ⟨b67, o67, s67, j67, r67, e67, f67, k67, rfl⟩ := RowF.get ra0 g67; refine y_pure st.d dw (fun hm vw => g_take hb64 (v_ixp e67 z67 l67 pr_nil)) ?_; refine y_pure st.d dw (fun hm vw => g_take hb64 (v_ld1 (vw.fz st (le3 _ _ f67)) (take_at (j := 0) k67 rfl) pr_nil)) ?_; refine y_end st.d dw rfl (fun h68 ex vs => ?_)
              have st := st.ext1 ex
              refine g_take hb64 (v_leq ?_); refine g_take hb62 (v_pick hb64 ?_); refine v_pick' hb62 ?_; refine r_nil ?_; obtain rfl := inj hF; refine thn ⟨rfl, ?_⟩; dsimp only
              exact ⟨F3, rfl, (PH.le.refl _), st, gA, gA, gA⟩
            · have hF := bif_f hb64 hF; refine y_pure st.d dw (fun hm vw => g_skip hb64 pr_nil) ?_; refine y_pure st.d dw (fun hm vw => g_skip hb64 pr_nil) ?_; refine y_pure st.d dw (fun hm vw => g_skip hb64 pr_nil) ?_; refine y_pure st.d dw (fun hm vw => g_skip hb64 pr_nil) ?_; refine y_pure st.d dw (fun hm vw => g_skip hb64 pr_nil) ?_; refine y_pure st.d dw (fun hm vw => g_skip hb64 pr_nil) ?_; refine y_pure st.d dw (fun hm vw => g_skip hb64 pr_nil) ?_; refine y_pure st.d dw (fun hm vw => g_skip hb64 pr_nil) ?_; refine y_pure st.d dw (fun hm vw => g_skip hb64 pr_nil) ?_; refine y_end st.d dw rfl (fun h69 ex vs => ?_)
              have st := st.ext1 ex
              refine g_skip hb64 ?_; refine g_take hb62 (v_pick' hb64 ?_); refine v_pick' hb62 ?_; refine r_nil ?_; obtain rfl := inj hF; refine thn ⟨rfl, ?_⟩; dsimp only
              exact ⟨F3, rfl, (PH.le.refl _), st, gA, gA, gA⟩
        · obtain ⟨F57, rfl, le57, st, t0, t3, t34⟩ := hp
          have le70 := PH.le.trans le3 le57
          refine v_cond (fun hb71 => ?_) (fun hb71 => ?_)
          · have hF := bif_t hb71 hF; refine w_seq ?_; refine w_reg ?_; refine v_move ?_; refine r_nil ?_; refine th_n ?_; refine w_ret ?_; refine ib_r ?_; refine th_r ?_; refine th_r ?_; refine ⟨_, (inj hF).symm, .inl ⟨_, rfl, rfl, rfl, ?_⟩⟩; dsimp only
            exact ⟨F57, rfl, le70, st, gA⟩
          · have hF := bif_f hb71 hF; refine w_skip ?_; refine ib_n ?_; refine th_n ?_; refine w_reg ?_; refine v_move ?_; obtain ⟨q72, hF⟩ := ck_some hF; refine v_add q72 ?_; refine v_move ?_; refine r_nil ?_; refine thn ⟨_, (inj hF).symm, rfl, ?_⟩; dsimp only
            exact ⟨F57, rfl, le70, st, gA, gA⟩
      · have hF := bif_f hb41 hF; refine w_exit ?_; refine th_e ?_; refine th_e ?_; refine ⟨_, (inj hF).symm, .inr (⟨_, rfl, rfl, rfl, ?_⟩)⟩; dsimp only
        exact ⟨F3, rfl, le3, st, gA⟩
    · rcases hq with hq | hq
      · obtain ⟨N9, T, ds38⟩ := a; obtain ⟨h73, n74⟩ := σ; obtain ⟨w37, rfl, rfl, e1, F38, e2, le38, st, t2⟩ := hq
        dsimp only at e1 e2
        subst e1
        subst e2
        dsimp only at st t2
        have hF := sel_l hF; refine ib_r ?_; refine th_r ?_; obtain rfl := inj hF
        exact end_s st (Res.t gA Res.nil) rfl rfl
      · obtain ⟨N9, T, ds40⟩ := a; obtain ⟨h75, n76⟩ := σ; obtain ⟨w39, rfl, rfl, e1, F40, e2, le40, st, t0⟩ := hq
        dsimp only at e1 e2
        subst e1
        subst e2
        dsimp only at st t0
        have hF := sel_r hF; refine ib_e ?_; refine th_n ?_; refine w_seq ?_; refine w_seq ?_; refine w_reg ?_; refine v_move ?_; refine v_len ?_; refine v_eqi ?_; refine r_nil ?_; refine th_n ?_; refine v_cond (fun hb77 => ?_) (fun hb77 => ?_)
        · have hF := bif_t hb77 hF; refine w_seq ?_; refine w_reg ?_; refine v_move ?_; refine r_nil ?_; refine th_n ?_; refine w_ret ?_; refine th_r ?_; obtain rfl := inj hF
          exact end_s st (Res.t gA Res.nil) rfl rfl
        · have hF := bif_f hb77 hF; refine w_skip ?_; refine th_n ?_; refine w_seq ?_; refine w_reg ?_; refine v_move ?_; refine r_nil ?_; refine th_n ?_; refine w_ret ?_; obtain rfl := inj hF
          exact end_s st (Res.t gA Res.nil) rfl rfl
end Go.Hx.V

/- Functions of the program come to that. -/
namespace Go.Hx.V
open Go.Hx
set_option linter.unusedVariables false
set_option maxRecDepth 20000
set_option maxHeartbeats 4000000
attribute [local irreducible] W R C thenH inBlockH Tr.get Tr.set lo
theorem ct64 (N : Nat) {a0_0 : Int} {a0_1 : (List (Int × Int))} {a0_2 : (List (Int × Int × Int))} {a0_3 : Int} {a1 : (List Int)} {a2 : (List Int)} {r : Bool} (hF : sf64 N a0_0 a0_1 a0_2 a0_3 a1 a2 = some r) {fl : Nat} {h0 : Tr HBlk} {n0 : Nat} {F0 : PH} (hd : D h0 n0) (hs : F0.sub h0) {pa0_1 : Option (Nat × Nat)} {ca0_1 : Nat} {pa0_2 : Option (Nat × Nat)} {ca0_2 : Nat} {pa1 : Option (Nat × Nat)} {ca1 : Nat} {pa2 : Option (Nat × Nat)} {ca2 : Nat} (ra0_1 : RowF (rP rI rI) 2 F0 pa0_1 ca0_1 a0_1) (ra0_2 : RowF (rP rI (rP rI rI)) 3 F0 pa0_2 ca0_2 a0_2) (ra1 : RowF rI 1 F0 pa1 ca1 a1) (ra2 : RowF rI 1 F0 pa2 ca2 a2) : C LW fl 64 [(.agg [(i64 a0_0), (.slice pa0_1 (a0_1).length ca0_1), (.slice pa0_2 (a0_2).length ca0_2), (i64 a0_3)]), (.slice pa1 (a1).length ca1), (.slice pa2 (a2).length ca2)] ⟨h0, n0⟩ (KS (.bool r) n0 h0) := by
  unfold sf64 at hF
  refine in_cT hd hs lw64 rfl rfl (by rfl) (fun st T hT => ?_)
  have hfl : n0 ≤ n0 := Nat.le_refl n0
  have t0 := hT 0 _ rfl
  have t1 := hT 1 _ rfl
  have t2 := hT 2 _ rfl
  dsimp only [L64]
  refine w_seq ?_; refine w_reg ?_; refine v_box st (fun b1 h2 n3 st => ?_); refine v_move ?_; refine r_nil ?_; refine th_n ?_; refine w_seq ?_; refine w_seq ?_; refine w_reg ?_; refine v_move ?_; refine r_nil ?_; refine th_n ?_; refine w_block ?_; obtain ⟨y38, hy, hF⟩ := bnd_some hF; refine v_loopD (sf64_L1 N a0_3 a2) (fun x4 T ds5 h nx => ∃ (F5 : PH), ds5 = [] ∧ PH.le F0 F5 ∧ St n0 h0 F0 F5 h nx [.bx b1 [(i64 a0_0), (.slice pa0_1 (a0_1).length ca0_1), (.slice pa0_2 (a0_2).length ca0_2), (i64 a0_3)]] ∧ T.get 1 = some (.slice pa1 (a1).length ca1) ∧ T.get 2 = some (.slice pa2 (a2).length ca2) ∧ T.get 3 = some (.ptr (some (b1, 0))) ∧ T.get 7 = some (i64 x4)) (fun y e a σ => (∃ u, y = (.inl u) ∧ e = .ret ∧ a.nt = 43 ∧ ∃ (F40 : PH), a.defers = [] ∧ PH.le F0 F40 ∧ St n0 h0 F0 F40 σ.h σ.nx [.bx b1 [(i64 a0_0), (.slice pa0_1 (a0_1).length ca0_1), (.slice pa0_2 (a0_2).length ca0_2), (i64 a0_3)]] ∧ a.tmps.get 6 = some (.bool false)) ∨ (∃ u, y = (.inr u) ∧ e = .exit 0 ∧ a.nt = 43 ∧ ∃ (F42 : PH), a.defers = [] ∧ PH.le F0 F42 ∧ St n0 h0 F0 F42 σ.h σ.nx [.bx b1 [(i64 a0_0), (.slice pa0_1 (a0_1).length ca0_1), (.slice pa0_2 (a0_2).length ca0_2), (i64 a0_3)]] ∧ a.tmps.get 1 = some (.slice pa1 (a1).length ca1) ∧ a.tmps.get 2 = some (.slice pa2 (a2).length ca2))) (fun x4 T ds5 h nx s hp hF => ?_) N _ y38 _ _ _ _ hy ⟨F0, rfl, (PH.le.refl _), st, gA, gA, gA, gA⟩ (fun e a σ hne hq => ?_)
  · obtain ⟨F5, rfl, le5, st, t1, t2, t3, t7⟩ := hp; unfold sf64_L1 at hF; unfold L64w0; refine w_seq ?_; refine w_seq ?_; refine w_reg ?_; refine v_move ?_; refine v_move ?_; refine v_len ?_; refine v_lss ?_; refine r_nil ?_; refine th_n ?_; refine v_cond (fun hb43 => ?_) (fun hb43 => ?_)
    · have hF := bif_t hb43 hF; refine w_skip ?_; refine th_n ?_; refine w_seq ?_; refine w_block ?_; obtain ⟨y56, hA57, hF⟩ := bnd_some hF; refine w_cutD (fun T ds59 h nx => ∃ (F59 : PH), ds59 = [] ∧ PH.le F5 F59 ∧ St n0 h0 F0 F59 h nx [.bx b1 [(i64 a0_0), (.slice pa0_1 (a0_1).length ca0_1), (.slice pa0_2 (a0_2).length ca0_2), (i64 a0_3)]] ∧ T.get 1 = some (.slice pa1 (a1).length ca1) ∧ T.get 2 = some (.slice pa2 (a2).length ca2) ∧ T.get 3 = some (.ptr (some (b1, 0))) ∧ T.get 7 = some (i64 x4) ∧ T.get 37 = some (.bool y56)) ?_ (fun T ds59 h nx hp => ?_)
      · have hK58 := hF
        have hF := hA57; refine w_drawV (Nat.le_trans hfl st.ext.le) (fun dw => ?_); refine y_pure st.d dw (fun hm vw => v_move pr_nil) ?_; refine y_pure st.d dw (fun hm vw => v_move pr_nil) ?_; obtain ⟨n60, x60, z60, l60, g60, hF⟩ := ix_some hF; obtain ⟨b60, o60, s60, j60, r60, e60, f60, k60, rfl⟩ := RowF.get ra2 g60; refine y_pure st.d dw (fun hm vw => v_ixp e60 z60 l60 pr_nil) ?_; refine y_pure st.d dw (fun hm vw => v_ld1 (vw.fz st (le5 _ _ f60)) (take_at (j := 0) k60 rfl) pr_nil) ?_; refine y_pure st.d dw (fun hm vw => v_fa pr_nil) ?_; refine y_pure st.d dw (fun hm vw => v_ld1 (vw.bx (st.at (i := 0) rfl)) rfl pr_nil) ?_; obtain ⟨v61, e62, hF⟩ := bnd_some hF; refine y_flat st.d dw (fun hm vw => u_call (ct24 N e62 vw.d (vw.sub st) ) (fun n' hn' => pf_nil hn')) (fun n63 hn' dw => ?_)
        refine y_pure st.d dw (fun hm vw => v_not pr_nil) ?_; refine y_pure st.d dw (fun hm vw => v_move pr_nil) ?_
        rcases Bool.eq_false_or_eq_true (!v61) with hb64 | hb64
        · have hF := bif_t hb64 hF; refine y_pure st.d dw (fun hm vw => g_skip hb64 pr_nil) ?_; refine y_pure st.d dw (fun hm vw => g_skip hb64 pr_nil) ?_; refine y_pure st.d dw (fun hm vw => g_skip hb64 pr_nil) ?_; refine y_pure st.d dw (fun hm vw => g_skipu pr_nil) ?_; refine y_pure st.d dw (fun hm vw => g_skipu pr_nil) ?_; refine y_pure st.d dw (fun hm vw => g_skipu pr_nil) ?_; refine y_pure st.d dw (fun hm vw => g_skipu pr_nil) ?_; refine y_pure st.d dw (fun hm vw => g_skipu pr_nil) ?_; refine y_pure st.d dw (fun hm vw => g_skipu pr_nil) ?_; refine y_pure st.d dw (fun hm vw => g_skipu pr_nil) ?_; refine y_pure st.d dw (fun hm vw => g_skipu pr_nil) ?_; refine y_pure st.d dw (fun hm vw => g_skipu pr_nil) ?_
          refine y_end st.d dw rfl (fun h65 ex vs => ?_)
          have st := st.ext1 ex
          refine g_skipu ?_; refine g_skip hb64 ?_; refine v_pick hb64 ?_; refine r_nil ?_; obtain rfl := inj hF; refine thn ⟨rfl, ?_⟩; dsimp only
          exact ⟨F5, rfl, (PH.le.refl _), st, gA, gA, gA, gA, gA⟩
        · have hF := bif_f hb64 hF; refine y_pure st.d dw (fun hm vw => g_take hb64 (v_move pr_nil)) ?_; refine y_pure st.d dw (fun hm vw => g_take hb64 (v_gtr pr_nil)) ?_; refine y_pure st.d dw (fun hm vw => g_take hb64 (v_move pr_nil)) ?_
          rcases Bool.eq_false_or_eq_true (decide ((0 : Int) < x4)) with hb66 | hb66
          · have hF := bif_t hb66 hF; refine y_pure st.d dw (fun hm vw => g_take hb66 (v_move pr_nil)) ?_; refine y_pure st.d dw (fun hm vw => g_take hb66 (v_move pr_nil)) ?_; obtain ⟨n67, x67, z67, l67, g67, hF⟩ := ix_some hF; obtain ⟨b67, o67, s67, j67, r67, e67, f67, k67, rfl⟩ := RowF.get ra2 g67; refine y_pure st.d dw (fun hm vw => g_take hb66 (v_ixp e67 z67 l67 pr_nil)) ?_; refine y_pure st.d dw (fun hm vw => g_take hb66 (v_ld1 (vw.fz st (le5 _ _ f67)) (take_at (j := 0) k67 rfl) pr_nil)) ?_; refine y_pure st.d dw (fun hm vw => g_take hb66 (v_move pr_nil)) ?_; refine y_pure st.d dw (fun hm vw => g_take hb66 (v_move pr_nil)) ?_; obtain ⟨q68, hF⟩ := ck_some hF; refine y_pure st.d dw (fun hm vw => g_take hb66 (v_sub q68 pr_nil)) ?_
            obtain ⟨n69, x69, z69, l69, g69, hF⟩ := ix_some hF; obtain ⟨b69, o69, s69, j69, r69, e69, f69, k69, rfl⟩ := RowF.get ra2 g69; refine y_pure st.d dw (fun hm vw => g_take hb66 (v_ixp e69 z69 l69 pr_nil)) ?_; refine y_pure st.d dw (fun hm vw => g_take hb66 (v_ld1 (vw.fz st (le5 _ _ f69)) (take_at (j := 0) k69 rfl) pr_nil)) ?_; refine y_end st.d dw rfl (fun h70 ex vs => ?_)
            have st := st.ext1 ex
            refine g_take hb66 (v_leq ?_); refine g_take hb64 (v_pick hb66 ?_); refine v_pick' hb64 ?_; refine r_nil ?_; obtain rfl := inj hF; refine thn ⟨rfl, ?_⟩; dsimp only
            exact ⟨F5, rfl, (PH.le.refl _), st, gA, gA, gA, gA, gA⟩
          · have hF := bif_f hb66 hF; refine y_pure st.d dw (fun hm vw => g_skip hb66 pr_nil) ?_; refine y_pure st.d dw (fun hm vw => g_skip hb66 pr_nil) ?_; refine y_pure st.d dw (fun hm vw => g_skip hb66 pr_nil) ?_; refine y_pure st.d dw (fun hm vw => g_skip hb66 pr_nil) ?_; refine y_pure st.d dw (fun hm vw => g_skip hb66 pr_nil) ?_; refine y_pure st.d dw (fun hm vw => g_skip hb66 pr_nil) ?_; refine y_pure st.d dw (fun hm vw => g_skip hb66 pr_nil) ?_; refine y_pure st.d dw (fun hm vw => g_skip hb66 pr_nil) ?_; refine y_pure st.d dw (fun hm vw => g_skip hb66 pr_nil) ?_; refine y_end st.d dw rfl (fun h71 ex vs => ?_)
            have st := st.ext1 ex
            refine g_skip hb66 ?_; refine g_take hb64 (v_pick' hb66 ?_); refine v_pick' hb64 ?_; refine r_nil ?_; obtain rfl := inj hF; refine thn ⟨rfl, ?_⟩; dsimp only
            exact ⟨F5, rfl, (PH.le.refl _), st, gA, gA, gA, gA, gA⟩
      · obtain ⟨F59, rfl, le59, st, t1, t2, t3, t7, t37⟩ := hp
        have le72 := PH.le.trans le5 le59
        refine v_cond (fun hb73 => ?_) (fun hb73 => ?_)
        · have hF := bif_t hb73 hF; refine w_seq ?_; refine w_reg ?_; refine v_move ?_; refine r_nil ?_; refine th_n ?_; refine w_ret ?_; refine ib_r ?_; refine th_r ?_; refine th_r ?_; refine ⟨_, (inj hF).symm, .inl ⟨_, rfl, rfl, rfl, ?_⟩⟩; dsimp only
          exact ⟨F59, rfl, le72, st, gA⟩
        · have hF := bif_f hb73 hF; refine w_skip ?_; refine ib_n ?_; refine th_n ?_; refine w_reg ?_; refine v_move ?_; obtain ⟨q74, hF⟩ := ck_some hF; refine v_add q74 ?_; refine v_move ?_; refine r_nil ?_; refine thn ⟨_, (inj hF).symm, rfl, ?_⟩; dsimp only
          exact ⟨F59, rfl, le72, st, gA, gA, gA, gA⟩
    · have hF := bif_f hb43 hF; refine w_exit ?_; refine th_e ?_; refine th_e ?_; refine ⟨_, (inj hF).symm, .inr (⟨_, rfl, rfl, rfl, ?_⟩)⟩; dsimp only
      exact ⟨F5, rfl, le5, st, gA, gA⟩
  · rcases hq with hq | hq
    · obtain ⟨N9, T, ds40⟩ := a; obtain ⟨h75, n76⟩ := σ; obtain ⟨w39, rfl, rfl, e1, F40, e2, le40, st, t6⟩ := hq
      dsimp only at e1 e2
      subst e1
      subst e2
      dsimp only at st t6
      have hF := sel_l hF; refine ib_r ?_; refine th_r ?_; obtain rfl := inj hF
      exact end_s st (Res.t gA Res.nil) rfl rfl
    · obtain ⟨N9, T, ds42⟩ := a; obtain ⟨h77, n78⟩ := σ; obtain ⟨w41, rfl, rfl, e1, F42, e2, le42, st, t1, t2⟩ := hq
      dsimp only at e1 e2
      subst e1
      subst e2
      dsimp only at st t1 t2
      have hF := sel_r hF; refine ib_e ?_; refine th_n ?_; refine w_seq ?_; refine w_reg ?_; refine v_move ?_; refine v_len ?_; refine v_move ?_; refine v_len ?_; refine v_eqi ?_; refine v_move ?_; refine r_nil ?_; refine th_n ?_; refine w_ret ?_; obtain rfl := inj hF
      exact end_s st (Res.t gA Res.nil) rfl rfl
end Go.Hx.V

/- Functions of the program come to that. -/
namespace Go.Hx.V
open Go.Hx
set_option linter.unusedVariables false
set_option maxRecDepth 20000
set_option maxHeartbeats 4000000
attribute [local irreducible] W R C thenH inBlockH Tr.get Tr.set lo
theorem ct93 (N : Nat) {a0_0 : Int} {a0_1 : Int} {a0_2 : Int} {a1 : Int} {r : (Int × Int × Int)} (hF : sf93 N a0_0 a0_1 a0_2 a1 = some r) {fl : Nat} {h0 : Tr HBlk} {n0 : Nat} {F0 : PH} (hd : D h0 n0) (hs : F0.sub h0) : C LW fl 93 [(.agg [(i64 a0_0), (i64 a0_1), (i64 a0_2)]), (i64 a1)] ⟨h0, n0⟩ (KS (.agg [(i64 r.1), (i64 r.2.1), (i64 r.2.2)]) n0 h0) := by
  unfold sf93 at hF
  refine in_cT hd hs lw93 rfl rfl (by rfl) (fun st T hT => ?_)
  have hfl : n0 ≤ n0 := Nat.le_refl n0
  have t0 := hT 0 _ rfl
  have t1 := hT 1 _ rfl
  dsimp only [L93]
  refine w_seq ?_; refine w_reg ?_; refine v_box st (fun b1 h2 n3 st => ?_); refine v_alloc st (fun b4 h5 n6 st => ?_); refine r_nil ?_; refine th_n ?_; refine w_seq ?_; refine w_seq ?_; refine w_drawV (Nat.le_trans hfl st.ext.le) (fun dw => ?_); refine y_pure st.d dw (fun hm vw => v_ldn (vs := [(i64 a0_0), (i64 a0_1), (i64 a0_2)]) (vw.bx (st.at (i := 0) rfl)) rfl pr_nil) ?_; obtain ⟨v7, e8, hF⟩ := bnd_some hF; refine y_flat st.d dw (fun hm vw => u_call (ct95 N e8 vw.d (vw.sub st) ) (fun n' hn' => pf_nil hn')) (fun n9 hn' dw => ?_); refine y_end st.d dw rfl (fun h10 ex vs => ?_)
  have st := st.ext1 ex
  refine v_eqr (b := (a0_0 == v7.1 && (a0_1 == v7.2.1 && (a0_2 == v7.2.2 && true)))) rfl ?_; refine r_nil ?_; refine th_n ?_; refine v_cond (fun hb11 => ?_) (fun hb11 => ?_)
  · have hF := bif_t hb11 hF; refine w_seq ?_; refine w_reg ?_; refine v_move ?_; refine v_build (cs := [(i64 (0 : Int)), (i64 a1), (i64 (0 : Int))]) rfl ?_; refine v_st (cs' := [(i64 (0 : Int)), (i64 a1), (i64 (0 : Int))]) st 1 rfl rfl rfl rfl hfl (fun h12 st => ?_); refine r_nil ?_; refine th_n ?_; refine w_ret ?_; refine th_r ?_; obtain rfl := inj hF
    exact end_s st (Res.c gA (st.at (i := 1) rfl).2.2 (show takeN _ _ = some [(i64 (0 : Int)), (i64 a1), (i64 (0 : Int))] from rfl) Res.nil) rfl rfl
  · have hF := bif_f hb11 hF; refine w_skip ?_; refine th_n ?_; refine w_seq ?_; refine w_reg ?_; refine v_fa ?_; refine v_ld1 (st.at (i := 0) rfl).2.2 rfl ?_; obtain ⟨q13, hF⟩ := ck_some hF; refine v_add q13 ?_; refine v_move ?_; refine v_move ?_; refine v_fa ?_; refine v_ld1 (st.at (i := 0) rfl).2.2 rfl ?_; obtain ⟨q14, hF⟩ := ck_some hF; refine v_sub q14 ?_; refine v_build (cs := [(i64 (a0_0 + (1 : Int))), (i64 a1), (i64 (a1 - a0_1))]) rfl ?_; refine v_st (cs' := [(i64 (a0_0 + (1 : Int))), (i64 a1), (i64 (a1 - a0_1))]) st 1 rfl rfl rfl rfl hfl (fun h15 st => ?_); refine r_nil ?_; refine th_n ?_; refine w_ret ?_; obtain rfl := inj hF
    exact end_s st (Res.c gA (st.at (i := 1) rfl).2.2 (show takeN _ _ = some [(i64 (a0_0 + (1 : Int))), (i64 a1), (i64 (a1 - a0_1))] from rfl) Res.nil) rfl rfl
end Go.Hx.V

/- Functions of the program come to that. -/
namespace Go.Hx.V
open Go.Hx
set_option linter.unusedVariables false
set_option maxRecDepth 20000
set_option maxHeartbeats 4000000
attribute [local irreducible] W R C thenH inBlockH Tr.get Tr.set lo
theorem ct76 (N : Nat) {a0_0 : Int} {a0_1 : (List (Int × Int))} {a0_2 : (List (Int × Int × Int))} {a0_3 : Int} {r : Bool} (hF : sf76 N a0_0 a0_1 a0_2 a0_3 = some r) {fl : Nat} {h0 : Tr HBlk} {n0 : Nat} {F0 : PH} (hd : D h0 n0) (hs : F0.sub h0) {pa0_1 : Option (Nat × Nat)} {ca0_1 : Nat} {pa0_2 : Option (Nat × Nat)} {ca0_2 : Nat} (ra0_1 : RowF (rP rI rI) 2 F0 pa0_1 ca0_1 a0_1) (ra0_2 : RowF (rP rI (rP rI rI)) 3 F0 pa0_2 ca0_2 a0_2) : C LW fl 76 [(.agg [(i64 a0_0), (.slice pa0_1 (a0_1).length ca0_1), (.slice pa0_2 (a0_2).length ca0_2), (i64 a0_3)])] ⟨h0, n0⟩ (KS (.bool r) n0 h0) := by
  unfold sf76 at hF
  refine in_cT hd hs lw76 rfl rfl (by rfl) (fun st T hT => ?_)
  have hfl : n0 ≤ n0 := Nat.le_refl n0
  have t0 := hT 0 _ rfl
  dsimp only [L76]
  refine w_seq ?_; refine w_reg ?_; refine v_box st (fun b1 h2 n3 st => ?_); refine v_move ?_; refine r_nil ?_; refine th_n ?_; refine w_seq ?_; refine w_reg ?_; refine v_fa ?_; refine v_ld1 (st.at (i := 0) rfl).2.2 rfl ?_; refine v_len ?_; refine v_gtr ?_; refine v_move ?_
  rcases Bool.eq_false_or_eq_true (decide ((0 : Int) < ((a0_1).length : Int))) with hb4 | hb4
  · have hF := bif_t hb4 hF; refine g_take hb4 (v_fa ?_); refine g_take hb4 (v_ld1 (st.at (i := 0) rfl).2.2 rfl ?_); obtain ⟨v5, e6, hF⟩ := bnd_some hF; refine g_take hb4 (v_call st (ct97 N e6 st.d st.sub ra0_1) (fun n7 st => ?_)); refine v_pick hb4 ?_; refine v_move ?_; refine r_nil ?_; refine th_n ?_; refine w_ret ?_; obtain rfl := inj hF
    exact end_s st (Res.t gA Res.nil) rfl rfl
  · have hF := bif_f hb4 hF; refine g_skip hb4 ?_; refine g_skip hb4 ?_; refine g_skip hb4 ?_; refine v_pick' hb4 ?_; refine v_move ?_; refine r_nil ?_; refine th_n ?_; refine w_ret ?_; obtain rfl := inj hF
    exact end_s st (Res.t gA Res.nil) rfl rfl
theorem ct99 (N : Nat) {a0 : (List (Int × Int × Int))} {r : Bool} (hF : sf99 N a0 = some r) {fl : Nat} {h0 : Tr HBlk} {n0 : Nat} {F0 : PH} (hd : D h0 n0) (hs : F0.sub h0) {pa0 : Option (Nat × Nat)} {ca0 : Nat} (ra0 : RowF (rP rI (rP rI rI)) 3 F0 pa0 ca0 a0) : C LW fl 99 [(.slice pa0 (a0).length ca0), (.func 100 [] [])] ⟨h0, n0⟩ (KS (.bool r) n0 h0) := by
  unfold sf99 at hF
  refine in_cT hd hs lw99 rfl rfl (by rfl) (fun st T hT => ?_)
  have hfl : n0 ≤ n0 := Nat.le_refl n0
  have t0 := hT 0 _ rfl
  have t1 := hT 1 _ rfl
  dsimp only [L99]
  refine w_seq ?_; refine w_reg ?_; refine v_move ?_; refine r_nil ?_; refine th_n ?_; refine w_seq ?_; refine w_seq ?_; refine w_reg ?_; refine v_move ?_; refine v_len ?_; refine v_move ?_; refine r_nil ?_; refine th_n ?_; refine w_block ?_; obtain ⟨y14, hy, hF⟩ := bnd_some hF; refine v_loopD (sf99_L1 N a0) (fun x1 T ds2 h nx => ∃ (F2 : PH), ds2 = [] ∧ PH.le F0 F2 ∧ St n0 h0 F0 F2 h nx [] ∧ T.get 1 = some (.func 100 [] []) ∧ T.get 7 = some (.slice pa0 (a0).length ca0) ∧ T.get 8 = some (i64 ((a0).length : Int)) ∧ T.get 9 = some (i64 x1)) (fun y e a σ => (∃ u, y = (.inl u) ∧ e = .ret ∧ a.nt = 18 ∧ ∃ (F16 : PH), a.defers = [] ∧ PH.le F0 F16 ∧ St n0 h0 F0 F16 σ.h σ.nx [] ∧ a.tmps.get 4 = some (.bool false)) ∨ (∃ u, y = (.inr u) ∧ e = .exit 0 ∧ a.nt = 18 ∧ ∃ (F18 : PH), a.defers = [] ∧ PH.le F0 F18 ∧ St n0 h0 F0 F18 σ.h σ.nx [])) (fun x1 T ds2 h nx s hp hF => ?_) N _ y14 _ _ _ _ hy ⟨F0, rfl, (PH.le.refl _), st, gA, gA, gA, gA⟩ (fun e a σ hne hq => ?_)
  · obtain ⟨F2, rfl, le2, st, t1, t7, t8, t9⟩ := hp; unfold sf99_L1 at hF; unfold L99w0; refine w_seq ?_; refine w_reg ?_; refine v_lss ?_; refine r_nil ?_; refine th_n ?_; refine w_seq ?_; refine v_cond (fun hb19 => ?_) (fun hb19 => ?_)
    · have hF := bif_t hb19 hF; refine w_skip ?_; refine th_n ?_; refine w_seq ?_; refine w_block ?_; refine w_seq ?_; refine w_reg ?_; obtain ⟨n20, x20, z20, l20, g20, hF⟩ := ix_some hF; obtain ⟨b20, o20, s20, j20, r20, e20, f20, k20, ⟨_, _, rfl, rfl, ⟨_, _, rfl, rfl, rfl⟩⟩⟩ := RowF.get ra0 g20; refine v_ixp e20 z20 l20 ?_; refine v_ldn (st.sub _ _ (le2 _ _ f20)) k20 ?_; refine v_alloc st (fun b21 h22 n23 st => ?_); refine v_st (cs' := [(i64 x20.1), (i64 x20.2.1), (i64 x20.2.2)]) st 0 rfl rfl rfl rfl hfl (fun h24 st => ?_); refine r_nil ?_; refine th_n ?_; refine w_seq ?_; refine w_reg ?_; refine v_move ?_; refine v_ldn (vs := [(i64 x20.1), (i64 x20.2.1), (i64 x20.2.2)]) (st.at (i := 0) rfl).2.2 rfl ?_
      obtain ⟨v25, e26, hF⟩ := bnd_some hF; refine v_call st (ct100 N e26 st.d st.sub ) (fun n27 st => ?_); refine v_not ?_; refine r_nil ?_; refine th_n ?_; refine v_cond (fun hb28 => ?_) (fun hb28 => ?_)
      · have hF := bif_t hb28 hF; refine w_seq ?_; refine w_reg ?_; refine v_move ?_; refine r_nil ?_; refine th_n ?_; refine w_ret ?_; refine ib_r ?_; refine th_r ?_; refine th_r ?_; refine ⟨_, (inj hF).symm, .inl ⟨_, rfl, rfl, rfl, ?_⟩⟩; dsimp only
        exact ⟨F2, rfl, le2, (st.drop (by first | exact List.Sublist.refl _ | (repeat first | exact List.nil_sublist _ | refine List.Sublist.cons_cons _ ?_ | refine List.Sublist.cons _ ?_))), gA⟩
      · have hF := bif_f hb28 hF; refine w_skip ?_; refine ib_n ?_; refine th_n ?_; refine w_reg ?_; obtain ⟨q29, hF⟩ := ck_some hF; refine v_add q29 ?_; refine v_move ?_; refine r_nil ?_; refine thn ⟨_, (inj hF).symm, rfl, ?_⟩; dsimp only
        exact ⟨F2, rfl, le2, (st.drop (by first | exact List.Sublist.refl _ | (repeat first | exact List.nil_sublist _ | refine List.Sublist.cons_cons _ ?_ | refine List.Sublist.cons _ ?_))), gA, gA, gA, gA⟩
    · have hF := bif_f hb19 hF; refine w_exit ?_; refine th_e ?_; refine th_e ?_; refine ⟨_, (inj hF).symm, .inr (⟨_, rfl, rfl, rfl, ?_⟩)⟩; dsimp only
      exact ⟨F2, rfl, le2, st⟩
  · rcases hq with hq | hq
    · obtain ⟨N9, T, ds16⟩ := a; obtain ⟨h30, n31⟩ := σ; obtain ⟨w15, rfl, rfl, e1, F16, e2, le16, st, t4⟩ := hq
      dsimp only at e1 e2
      subst e1
      subst e2
      dsimp only at st t4
      have hF := sel_l hF; refine ib_r ?_; refine th_r ?_; obtain rfl := inj hF
      exact end_s st (Res.t gA Res.nil) rfl rfl
    · obtain ⟨N9, T, ds18⟩ := a; obtain ⟨h32, n33⟩ := σ; obtain ⟨w17, rfl, rfl, e1, F18, e2, le18, st⟩ := hq
      dsimp only at e1 e2
      subst e1
      subst e2
      dsimp only at st
      have hF := sel_r hF; refine ib_e ?_; refine th_n ?_; refine w_seq ?_; refine w_reg ?_; refine v_move ?_; refine r_nil ?_; refine th_n ?_; refine w_ret ?_; obtain rfl := inj hF
      exact end_s st (Res.t gA Res.nil) rfl rfl
theorem ct78 (N : Nat) {a0_0 : Int} {a0_1 : (List (Int × Int))} {a0_2 : (List (Int × Int × Int))} {a0_3 : Int} {r : Bool} (hF : sf78 N a0_0 a0_1 a0_2 a0_3 = some r) {fl : Nat} {h0 : Tr HBlk} {n0 : Nat} {F0 : PH} (hd : D h0 n0) (hs : F0.sub h0) {pa0_1 : Option (Nat × Nat)} {ca0_1 : Nat} {pa0_2 : Option (Nat × Nat)} {ca0_2 : Nat} (ra0_1 : RowF (rP rI rI) 2 F0 pa0_1 ca0_1 a0_1) (ra0_2 : RowF (rP rI (rP rI rI)) 3 F0 pa0_2 ca0_2 a0_2) : C LW fl 78 [(.agg [(i64 a0_0), (.slice pa0_1 (a0_1).length ca0_1), (.slice pa0_2 (a0_2).length ca0_2), (i64 a0_3)])] ⟨h0, n0⟩ (KS (.bool r) n0 h0) := by
  unfold sf78 at hF
  refine in_cT hd hs lw78 rfl rfl (by rfl) (fun st T hT => ?_)
  have hfl : n0 ≤ n0 := Nat.le_refl n0
  have t0 := hT 0 _ rfl
  dsimp only [L78]
  refine w_seq ?_; refine w_reg ?_; refine v_box st (fun b1 h2 n3 st => ?_); refine v_move ?_; refine r_nil ?_; refine th_n ?_; refine w_seq ?_; refine w_drawV (Nat.le_trans hfl st.ext.le) (fun dw => ?_)
  have wf := Wf.start st
  obtain ⟨v4, e5, hF⟩ := bnd_some hF; refine y_flat st.d dw (fun hm vw => u_call (ct83 N e5 vw.d (FF.sub wf st vw) ) (fun n' hn' => pf_nil hn')) (fun n6 hn' dw => ?_); refine y_pure st.d dw (fun hm vw => v_ldn (vs := [(i64 a0_0), (.slice pa0_1 (a0_1).length ca0_1), (.slice pa0_2 (a0_2).length ca0_2), (i64 a0_3)]) (vw.bx (st.at (i := 0) rfl)) rfl pr_nil) ?_; obtain ⟨v7, e8, hF⟩ := bnd_some hF
  refine y_deep st dw wf (fun hm vw => u_callR (ct84 N e8 vw.d (FF.sub wf st vw) (Nat.max_le.2 ⟨by have := dw.le; have := st.ext.le; omega, Nat.le_refl _⟩) (RowF.mono FF.base ra0_1) (RowF.mono FF.base ra0_2)) (fun v F' h' n' ex l1 l2 l3 l4 => r_nil ⟨_, _, rfl, ex, l1, l2, l3, l4⟩)) (fun u9 F9 n9 done hn' dw9 wf9 rv9 le9 => ?_)
  have wf := wf9
  have dw := dw9
  obtain ⟨_, rfl, ⟨_, _, rfl, ⟨py10, cy10, rfl, ry10⟩, ⟨py11, cy11, rfl, ry11⟩⟩⟩ := rv9; refine y_lay st.d dw (fun hm vw => u_alloc pr_nil) (fun done dw => ?_)
  have wf := Wf.lay wf (e := (3, one n9 (.cells [(.slice none 0 0), (.slice none 0 0)] .exact)))
  refine y_end st.d dw rfl (fun h12 ex vs => ?_)
  obtain ⟨F13, lt13, st⟩ := St.laidF st dw wf ex vs (Lay.cons (b := n9) (cs := [(.slice none 0 0), (.slice none 0 0)]) (by have := dw.le; omega) (vs _ (List.mem_cons_self ..) _ _ (if_pos rfl)) (Lay.nil (by have := dw.le; omega))) (by intro e he w hw; simp only [List.mem_cons, List.not_mem_nil, or_false] at he hw; rcases he with rfl <;> rcases hw with rfl <;> exact Dw.not dw (by first | exact .inl (by first | exact List.Sublist.refl _ | (repeat first | exact List.nil_sublist _ | refine List.Sublist.cons_cons _ ?_ | refine List.Sublist.cons _ ?_)) | exact .inr (by first | exact List.Sublist.refl _ | (repeat first | exact List.nil_sublist _ | refine List.Sublist.cons_cons _ ?_ | refine List.Sublist.cons _ ?_))))
  have lz14 := lt13 _ (le9 (fun _ => true) rfl (fun _ _ => rfl))
  have lb13 := lt13 _ FF.base
  refine v_st (cs' := [(.slice py10 (v7.1).length cy10), (.slice py11 (v7.2).length cy11)]) st 1 rfl rfl rfl rfl hfl (fun h15 st => ?_); refine r_nil ?_; refine th_n ?_; refine w_seq ?_; refine w_drawV (Nat.le_trans hfl st.ext.le) (fun dw => ?_); refine y_pure st.d dw (fun hm vw => v_fa pr_nil) ?_; refine y_pure st.d dw (fun hm vw => v_ld1 (vw.bx (st.at (i := 1) rfl)) rfl pr_nil) ?_; obtain ⟨n16, x16, z16, l16, g16, hF⟩ := ix_some hF; obtain ⟨b16, o16, s16, j16, r16, e16, f16, k16, rfl⟩ := RowF.get ry10 g16; refine y_pure st.d dw (fun hm vw => v_ixp e16 z16 l16 pr_nil) ?_; refine y_pure st.d dw (fun hm vw => v_ld1 (vw.fz st (lz14 _ _ f16)) (take_at (j := 0) k16 rfl) pr_nil) ?_; refine y_pure st.d dw (fun hm vw => v_fa pr_nil) ?_
  refine y_pure st.d dw (fun hm vw => v_ld1 (vw.bx (st.at (i := 1) rfl)) rfl pr_nil) ?_; obtain ⟨q17, hF⟩ := ck_some hF
  refine y_step st.d dw rfl rfl (fun hm vw => v_slf (m := ((v7.1.drop (Int.toNat (1 : Int))).take (v7.1.length - (Int.toNat (1 : Int)))).length) (Int.toNat (1 : Int)) v7.1.length ry10 (bd_some (by first | exact ev_c | (apply ev_t; repeat first | exact ge_h | refine ge_w rfl ?_ | refine ge_f rfl ?_ | refine ge_m rfl ?_ | assumption)) (Int.toNat_of_nonneg q17.1).symm) bd_none q17.2.2 (by simp <;> omega) (fun p17 c17 n18 hn' rs17 => r_nil (y_call dw hn' vw.d (fun dw => ?_))))
  refine y_end st.d dw rfl (fun h19 ex vs => ?_)
  have st := st.ext1 ex
  obtain ⟨v20, e21, hF⟩ := bnd_some hF; refine v_call st (ct103 N e21 st.d st.sub (RowF.mono lz14 rs17)) (fun n22 st => ?_); refine v_move ?_; refine r_nil ?_; refine th_n ?_; refine w_seq ?_; refine w_drawV (Nat.le_trans hfl st.ext.le) (fun dw => ?_); refine y_pure st.d dw (fun hm vw => v_fa pr_nil) ?_; refine y_pure st.d dw (fun hm vw => v_ld1 (vw.bx (st.at (i := 1) rfl)) rfl pr_nil) ?_; obtain ⟨n23, x23, z23, l23, g23, hF⟩ := ix_some hF; obtain ⟨b23, o23, s23, j23, r23, e23, f23, k23, rfl⟩ := RowF.get ry11 g23; refine y_pure st.d dw (fun hm vw => v_ixp e23 z23 l23 pr_nil) ?_; refine y_pure st.d dw (fun hm vw => v_ld1 (vw.fz st (lz14 _ _ f23)) (take_at (j := 0) k23 rfl) pr_nil) ?_; refine y_pure st.d dw (fun hm vw => v_fa pr_nil) ?_
  refine y_pure st.d dw (fun hm vw => v_ld1 (vw.bx (st.at (i := 1) rfl)) rfl pr_nil) ?_; obtain ⟨q24, hF⟩ := ck_some hF
  refine y_step st.d dw rfl rfl (fun hm vw => v_slf (m := ((v7.2.drop (Int.toNat (1 : Int))).take (v7.2.length - (Int.toNat (1 : Int)))).length) (Int.toNat (1 : Int)) v7.2.length ry11 (bd_some (by first | exact ev_c | (apply ev_t; repeat first | exact ge_h | refine ge_w rfl ?_ | refine ge_f rfl ?_ | refine ge_m rfl ?_ | assumption)) (Int.toNat_of_nonneg q24.1).symm) bd_none q24.2.2 (by simp <;> omega) (fun p24 c24 n25 hn' rs24 => r_nil (y_call dw hn' vw.d (fun dw => ?_))))
  refine y_end st.d dw rfl (fun h26 ex vs => ?_)
  have st := st.ext1 ex
  obtain ⟨v27, e28, hF⟩ := bnd_some hF; refine v_call st (ct103 N e28 st.d st.sub (RowF.mono lz14 rs24)) (fun n29 st => ?_); refine v_move ?_; refine r_nil ?_; refine th_n ?_; refine w_seq ?_; refine w_reg ?_; refine v_fa ?_; refine v_ld1 (st.at (i := 0) rfl).2.2 rfl ?_; refine v_move ?_; obtain ⟨q30, hF⟩ := ck_some hF; refine v_add q30 ?_; refine v_move ?_; obtain ⟨q31, hF⟩ := ck_some hF; refine v_add q31 ?_; refine v_geq ?_; refine v_move ?_; refine r_nil ?_; refine th_n ?_; refine w_ret ?_; obtain rfl := inj hF
  exact end_s st (Res.t gA Res.nil) rfl rfl
theorem ct54 (N : Nat) {a0_0 : Int} {a0_1 : (List (Int × Int))} {a0_2 : (List (Int × Int × Int))} {a0_3 : Int} {r : (Int × (List (Int × Int)) × (List (Int × Int × Int)) × Int × (List Int) × (List Int))} (hF : sf54 N a0_0 a0_1 a0_2 a0_3 = some r) {fl : Nat} {h0 : Tr HBlk} {n0 : Nat} {F0 : PH} (hd : D h0 n0) (hs : F0.sub h0) (hfl : fl ≤ n0) {pa0_1 : Option (Nat × Nat)} {ca0_1 : Nat} {pa0_2 : Option (Nat × Nat)} {ca0_2 : Nat} (ra0_1 : RowF (rP rI rI) 2 F0 pa0_1 ca0_1 a0_1) (ra0_2 : RowF (rP rI (rP rI rI)) 3 F0 pa0_2 ca0_2 a0_2) : C LW fl 54 [(.agg [(i64 a0_0), (.slice pa0_1 (a0_1).length ca0_1), (.slice pa0_2 (a0_2).length ca0_2), (i64 a0_3)])] ⟨h0, n0⟩ (KR (rvA (rP rI (rP (rL (rP rI rI) 2) (rP (rL (rP rI (rP rI rI)) 3) (rP rI (rP (rL rI 1) (rL rI 1))))))) F0 h0 n0 r) := by
  unfold sf54 at hF
  refine in_mT hd hs hfl lw54 rfl rfl (by rfl) (fun st T hT => ?_)
  have t0 := hT 0 _ rfl
  dsimp only [L54]
  refine w_seq ?_; refine w_reg ?_; refine v_box st (fun b1 h2 n3 st => ?_); refine v_alloc st (fun b4 h5 n6 st => ?_); refine r_nil ?_; refine th_n ?_; refine w_seq ?_; refine w_drawV (Nat.le_trans hfl st.ext.le) (fun dw => ?_)
  have wf := Wf.start st
  refine y_pure st.d dw (fun hm vw => v_ldn (vs := [(i64 a0_0), (.slice pa0_1 (a0_1).length ca0_1), (.slice pa0_2 (a0_2).length ca0_2), (i64 a0_3)]) (vw.bx (st.at (i := 0) rfl)) rfl pr_nil) ?_; refine y_pure st.d dw (fun hm vw => v_ldn (vs := [(i64 a0_0), (.slice pa0_1 (a0_1).length ca0_1), (.slice pa0_2 (a0_2).length ca0_2), (i64 a0_3)]) (vw.bx (st.at (i := 0) rfl)) rfl pr_nil) ?_; obtain ⟨v7, e8, hF⟩ := bnd_some hF; refine y_flat st.d dw (fun hm vw => u_call (ct83 N e8 vw.d (FF.sub wf st vw) ) (fun n' hn' => pf_nil hn')) (fun n9 hn' dw => ?_); refine y_pure st.d dw (fun hm vw => v_ldn (vs := [(i64 a0_0), (.slice pa0_1 (a0_1).length ca0_1), (.slice pa0_2 (a0_2).length ca0_2), (i64 a0_3)]) (vw.bx (st.at (i := 0) rfl)) rfl pr_nil) ?_
  obtain ⟨v10, e11, hF⟩ := bnd_some hF
  refine y_deep st dw wf (fun hm vw => u_callR (ct84 N e11 vw.d (FF.sub wf st vw) (Nat.max_le.2 ⟨by have := dw.le; have := st.ext.le; omega, Nat.le_refl _⟩) (RowF.mono FF.base ra0_1) (RowF.mono FF.base ra0_2)) (fun v F' h' n' ex l1 l2 l3 l4 => r_nil ⟨_, _, rfl, ex, l1, l2, l3, l4⟩)) (fun u12 F12 n12 done hn' dw12 wf12 rv12 le12 => ?_)
  have wf := wf12
  have dw := dw12
  obtain ⟨_, rfl, ⟨_, _, rfl, ⟨py13, cy13, rfl, ry13⟩, ⟨py14, cy14, rfl, ry14⟩⟩⟩ := rv12; obtain ⟨v15, e16, hF⟩ := bnd_some hF
  refine y_deep st dw wf (fun hm vw => u_callR (ct53 N e16 vw.d (FF.sub wf st vw) (Nat.max_le.2 ⟨by have := dw.le; have := st.ext.le; omega, Nat.le_refl _⟩) (RowF.mono FF.base ra0_1) (RowF.mono FF.base ra0_2) (RowF.mono (le12 _ rfl (con_sub rfl)) ry13) (RowF.mono (le12 _ rfl (con_sub rfl)) ry14)) (fun v F' h' n' ex l1 l2 l3 l4 => r_nil ⟨_, _, rfl, ex, l1, l2, l3, l4⟩)) (fun u17 F17 n17 done hn' dw17 wf17 rv17 le17 => ?_)
  have le19 := fun (f : Nat → Bool) q1 q2 => PH.le.trans (le12 f q1 q2) (FF.cons wf wf17 dw17)
  have wf := wf17
  have dw := dw17
  obtain ⟨py18, cy18, rfl, ry18⟩ := rv17; refine y_pure st.d dw (fun hm vw => v_ldn (vs := [(i64 a0_0), (.slice pa0_1 (a0_1).length ca0_1), (.slice pa0_2 (a0_2).length ca0_2), (i64 a0_3)]) (vw.bx (st.at (i := 0) rfl)) rfl pr_nil) ?_; obtain ⟨v20, e21, hF⟩ := bnd_some hF; refine y_flat st.d dw (fun hm vw => u_call (ct85 N e21 vw.d (FF.sub wf st vw) ) (fun n' hn' => pf_nil hn')) (fun n22 hn' dw => ?_); refine y_pure st.d dw (fun hm vw => v_ldn (vs := [(i64 a0_0), (.slice pa0_1 (a0_1).length ca0_1), (.slice pa0_2 (a0_2).length ca0_2), (i64 a0_3)]) (vw.bx (st.at (i := 0) rfl)) rfl pr_nil) ?_; obtain ⟨v23, e24, hF⟩ := bnd_some hF
  refine y_deep st dw wf (fun hm vw => u_callR (ct84_2 N e24 vw.d (FF.sub wf st vw) (Nat.max_le.2 ⟨by have := dw.le; have := st.ext.le; omega, Nat.le_refl _⟩) (RowF.mono FF.base ra0_1) (RowF.mono FF.base ra0_2)) (fun v F' h' n' ex l1 l2 l3 l4 => r_nil ⟨_, _, rfl, ex, l1, l2, l3, l4⟩)) (fun u25 F25 n25 done hn' dw25 wf25 rv25 le25 => ?_)
  have le28 := fun (f : Nat → Bool) q1 q2 => PH.le.trans (le19 f q1 q2) (FF.cons wf wf25 dw25)
  have le29 := fun (f : Nat → Bool) q1 q2 => PH.le.trans (le17 f q1 q2) (FF.cons wf wf25 dw25)
  have wf := wf25
  have dw := dw25
  obtain ⟨_, rfl, ⟨_, _, rfl, ⟨py26, cy26, rfl, ry26⟩, ⟨py27, cy27, rfl, ry27⟩⟩⟩ := rv25; obtain ⟨v30, e31, hF⟩ := bnd_some hF
  refine y_deep st dw wf (fun hm vw => u_callR (ct53 N e31 vw.d (FF.sub wf st vw) (Nat.max_le.2 ⟨by have := dw.le; have := st.ext.le; omega, Nat.le_refl _⟩) (RowF.mono FF.base ra0_1) (RowF.mono FF.base ra0_2) (RowF.mono (le25 _ rfl (con_sub rfl)) ry26) (RowF.mono (le25 _ rfl (con_sub rfl)) ry27)) (fun v F' h' n' ex l1 l2 l3 l4 => r_nil ⟨_, _, rfl, ex, l1, l2, l3, l4⟩)) (fun u32 F32 n32 done hn' dw32 wf32 rv32 le32 => ?_)
  have le34 := fun (f : Nat → Bool) q1 q2 => PH.le.trans (le28 f q1 q2) (FF.cons wf wf32 dw32)
  have le35 := fun (f : Nat → Bool) q1 q2 => PH.le.trans (le29 f q1 q2) (FF.cons wf wf32 dw32)
  have le36 := fun (f : Nat → Bool) q1 q2 => PH.le.trans (le25 f q1 q2) (FF.cons wf wf32 dw32)
  have wf := wf32
  have dw := dw32
  obtain ⟨py33, cy33, rfl, ry33⟩ := rv32; refine y_end st.d dw rfl (fun h37 ex vs => ?_)
  obtain ⟨F38, lt38, st⟩ := St.laidF st dw wf ex vs (Lay.nil (by have := dw.le; omega)) (fun e he => by cases he)
  have lz39 := lt38 _ (le34 (fun _ => true) rfl (fun _ _ => rfl))
  have lz40 := lt38 _ (le35 (fun _ => true) rfl (fun _ _ => rfl))
  have lz41 := lt38 _ (le36 (fun _ => true) rfl (fun _ _ => rfl))
  have lz42 := lt38 _ (le32 (fun _ => true) rfl (fun _ _ => rfl))
  have lb38 := lt38 _ FF.base
  refine v_build (cs := [(i64 a0_0), (.slice pa0_1 (a0_1).length ca0_1), (.slice pa0_2 (a0_2).length ca0_2), (i64 a0_3), (.slice py18 (v15).length cy18), (.slice py33 (v30).length cy33)]) rfl ?_; refine v_st (cs' := [(i64 a0_0), (.slice pa0_1 (a0_1).length ca0_1), (.slice pa0_2 (a0_2).length ca0_2), (i64 a0_3), (.slice py18 (v15).length cy18), (.slice py33 (v30).length cy33)]) st 1 rfl rfl rfl rfl hfl (fun h43 st => ?_); refine r_nil ?_; refine th_n ?_; refine w_ret ?_; obtain rfl := inj hF
  exact end_r st (Res.c gA (st.at (i := 1) rfl).2.2 (show takeN _ _ = some [(i64 a0_0), (.slice pa0_1 (a0_1).length ca0_1), (.slice pa0_2 (a0_2).length ca0_2), (i64 a0_3), (.slice py18 (v15).length cy18), (.slice py33 (v30).length cy33)] from rfl) Res.nil) ⟨_, rfl, ⟨[(i64 a0_0)], [(.slice pa0_1 (a0_1).length ca0_1), (.slice pa0_2 (a0_2).length ca0_2), (i64 a0_3), (.slice py18 (v15).length cy18), (.slice py33 (v30).length cy33)], rfl, rfl, ⟨[(.slice pa0_1 (a0_1).length ca0_1)], [(.slice pa0_2 (a0_2).length ca0_2), (i64 a0_3), (.slice py18 (v15).length cy18), (.slice py33 (v30).length cy33)], rfl, ⟨_, _, rfl, (RowF.mono lb38 ra0_1)⟩, ⟨[(.slice pa0_2 (a0_2).length ca0_2)], [(i64 a0_3), (.slice py18 (v15).length cy18), (.slice py33 (v30).length cy33)], rfl, ⟨_, _, rfl, (RowF.mono lb38 ra0_2)⟩, ⟨[(i64 a0_3)], [(.slice py18 (v15).length cy18), (.slice py33 (v30).length cy33)], rfl, rfl, ⟨[(.slice py18 (v15).length cy18)], [(.slice py33 (v30).length cy33)], rfl, ⟨_, _, rfl, (RowF.mono lz40 ry18)⟩, ⟨_, _, rfl, (RowF.mono lz42 ry33)⟩⟩⟩⟩⟩⟩⟩
end Go.Hx.V

/- Functions of the program come to that. -/
namespace Go.Hx.V
open Go.Hx
set_option linter.unusedVariables false
set_option maxRecDepth 20000
set_option maxHeartbeats 4000000
attribute [local irreducible] W R C thenH inBlockH Tr.get Tr.set lo
theorem ct56 (N : Nat) {a0_0 : Int} {a0_1 : (List (Int × Int))} {a0_2 : (List (Int × Int × Int))} {a0_3 : Int} {r : Int} (hF : sf56 N a0_0 a0_1 a0_2 a0_3 = some r) {fl : Nat} {h0 : Tr HBlk} {n0 : Nat} {F0 : PH} (hd : D h0 n0) (hs : F0.sub h0) {pa0_1 : Option (Nat × Nat)} {ca0_1 : Nat} {pa0_2 : Option (Nat × Nat)} {ca0_2 : Nat} (ra0_1 : RowF (rP rI rI) 2 F0 pa0_1 ca0_1 a0_1) (ra0_2 : RowF (rP rI (rP rI rI)) 3 F0 pa0_2 ca0_2 a0_2) : C LW fl 56 [(.agg [(i64 a0_0), (.slice pa0_1 (a0_1).length ca0_1), (.slice pa0_2 (a0_2).length ca0_2), (i64 a0_3)])] ⟨h0, n0⟩ (KS (i64 r) n0 h0) := by
  unfold sf56 at hF
  refine in_cT hd hs lw56 rfl rfl (by rfl) (fun st T hT => ?_)
  have hfl : n0 ≤ n0 := Nat.le_refl n0
  have t0 := hT 0 _ rfl
  dsimp only [L56]
  refine w_seq ?_; refine w_reg ?_; refine v_box st (fun b1 h2 n3 st => ?_); refine v_move ?_; refine r_nil ?_; refine th_n ?_; obtain ⟨y11, hA12, hF⟩ := bnd_some hF; refine w_cutD (fun T ds17 h nx => ∃ u, y11 = (.inr u) ∧ ∃ (F17 : PH), ds17 = [] ∧ PH.le F0 F17 ∧ St n0 h0 F0 F17 h nx [.bx b1 [(i64 a0_0), (.slice pa0_1 (a0_1).length ca0_1), (.slice pa0_2 (a0_2).length ca0_2), (i64 a0_3)]] ∧ T.get 1 = some (.ptr (some (b1, 0)))) ?_ (fun T ds17 h nx hp => ?_)
  · have hK13 := hF
    have hF := hA12; obtain ⟨y19, hA20, hF⟩ := bnd_some hF; refine w_cutD (fun T ds22 h nx => ∃ (F22 : PH), ds22 = [] ∧ PH.le F0 F22 ∧ St n0 h0 F0 F22 h nx [.bx b1 [(i64 a0_0), (.slice pa0_1 (a0_1).length ca0_1), (.slice pa0_2 (a0_2).length ca0_2), (i64 a0_3)]] ∧ T.get 1 = some (.ptr (some (b1, 0))) ∧ T.get 16 = some (.bool y19)) ?_ (fun T ds22 h nx hp => ?_)
    · have hK21 := hF
      have hF := hA20; refine w_reg ?_; refine v_fa ?_; refine v_ld1 (st.at (i := 0) rfl).2.2 rfl ?_; refine v_len ?_; refine v_gtr ?_; refine v_move ?_
      rcases Bool.eq_false_or_eq_true (decide ((8 : Int) < ((a0_1).length : Int))) with hb23 | hb23
      · have hF := bif_t hb23 hF; refine g_skip hb23 ?_; refine g_skip hb23 ?_; refine g_skip hb23 ?_; refine g_skip hb23 ?_; refine v_pick hb23 ?_; refine r_nil ?_; obtain rfl := inj hF; refine thn ⟨rfl, ?_⟩; dsimp only
        exact ⟨F0, rfl, (PH.le.refl _), st, gA, gA⟩
      · have hF := bif_f hb23 hF; refine g_take hb23 (v_fa ?_); refine g_take hb23 (v_ld1 (st.at (i := 0) rfl).2.2 rfl ?_); refine g_take hb23 (v_len ?_); refine g_take hb23 (v_gtr ?_); refine v_pick' hb23 ?_; refine r_nil ?_; obtain rfl := inj hF; refine thn ⟨rfl, ?_⟩; dsimp only
        exact ⟨F0, rfl, (PH.le.refl _), st, gA, gA⟩
    · obtain ⟨F22, rfl, le22, st, t1, t16⟩ := hp; refine v_cond (fun hb24 => ?_) (fun hb24 => ?_)
      · have hF := bif_t hb24 hF; refine w_seq ?_; refine w_reg ?_; refine v_move ?_; refine r_nil ?_; refine th_n ?_; refine w_ret ?_; obtain rfl := inj hF; have hF := hK13; have hF := sel_l hF; refine th_r ?_; obtain rfl := inj hF
        exact end_s st (Res.t gA Res.nil) rfl rfl
      · have hF := bif_f hb24 hF; refine w_skip ?_; obtain rfl := inj hF; refine thn ⟨rfl, _, rfl, ?_⟩; dsimp only
        exact ⟨F22, rfl, le22, st, gA⟩
  · obtain ⟨w16, rfl, F17, rfl, le17, st, t1⟩ := hp; have hF := sel_r hF; obtain ⟨y53, hA54, hF⟩ := bnd_some hF; refine w_cutD (fun T ds59 h nx => ∃ u, y53 = (.inr u) ∧ ∃ (F59 : PH), ds59 = [] ∧ PH.le F17 F59 ∧ St n0 h0 F0 F59 h nx [.bx b1 [(i64 a0_0), (.slice pa0_1 (a0_1).length ca0_1), (.slice pa0_2 (a0_2).length ca0_2), (i64 a0_3)]] ∧ T.get 1 = some (.ptr (some (b1, 0)))) ?_ (fun T ds59 h nx hp => ?_)
    · have hK55 := hF
      have hF := hA54; obtain ⟨y71, hA72, hF⟩ := bnd_some hF; refine w_cutD (fun T ds74 h nx => ∃ (F74 : PH), ds74 = [] ∧ PH.le F17 F74 ∧ St n0 h0 F0 F74 h nx [.bx b1 [(i64 a0_0), (.slice pa0_1 (a0_1).length ca0_1), (.slice pa0_2 (a0_2).length ca0_2), (i64 a0_3)]] ∧ T.get 1 = some (.ptr (some (b1, 0))) ∧ T.get 46 = some (.bool y71)) ?_ (fun T ds74 h nx hp => ?_)
      · have hK73 := hF
        have hF := hA72; refine w_reg ?_; refine v_fa ?_; refine v_ld1 (st.at (i := 0) rfl).2.2 rfl ?_; obtain ⟨v75, e76, hF⟩ := bnd_some hF; refine v_call st (ct24 N e76 st.d st.sub ) (fun n77 st => ?_); refine v_not ?_; refine v_move ?_
        rcases Bool.eq_false_or_eq_true (!v75) with hb78 | hb78
        · have hF := bif_t hb78 hF; refine g_skip hb78 ?_; refine g_skip hb78 ?_; refine g_skip hb78 ?_; refine g_skip hb78 ?_; refine v_pick hb78 ?_; refine v_move ?_; refine g_skip rfl ?_; refine g_skip rfl ?_; refine g_skip rfl ?_; refine g_skip rfl ?_; refine v_pick rfl ?_; refine v_move ?_; refine g_skip rfl ?_; refine g_skip rfl ?_; refine g_skip rfl ?_; refine g_skip rfl ?_; refine v_pick rfl ?_; refine v_move ?_; refine g_skip rfl ?_; refine g_skip rfl ?_; refine g_skip rfl ?_; refine g_skip rfl ?_; refine g_skip rfl ?_; refine g_skip rfl ?_; refine v_pick rfl ?_; refine r_nil ?_; obtain rfl := inj hF; refine thn ⟨rfl, ?_⟩; dsimp only
          exact ⟨F17, rfl, (PH.le.refl _), st, gA, gA⟩
        · have hF := bif_f hb78 hF; refine g_take hb78 (v_fa ?_); refine g_take hb78 (v_ld1 (st.at (i := 0) rfl).2.2 rfl ?_); obtain ⟨v79, e80, hF⟩ := bnd_some hF; refine g_take hb78 (v_call st (ct24 N e80 st.d st.sub ) (fun n81 st => ?_)); refine g_take hb78 (v_not ?_); refine v_pick' hb78 ?_; refine v_move ?_
          rcases Bool.eq_false_or_eq_true (!v79) with hb82 | hb82
          · have hF := bif_t hb82 hF; refine g_skip hb82 ?_; refine g_skip hb82 ?_; refine g_skip hb82 ?_; refine g_skip hb82 ?_; refine v_pick hb82 ?_; refine v_move ?_; refine g_skip rfl ?_; refine g_skip rfl ?_; refine g_skip rfl ?_; refine g_skip rfl ?_; refine v_pick rfl ?_; refine v_move ?_; refine g_skip rfl ?_; refine g_skip rfl ?_; refine g_skip rfl ?_; refine g_skip rfl ?_; refine g_skip rfl ?_; refine g_skip rfl ?_; refine v_pick rfl ?_; refine r_nil ?_; obtain rfl := inj hF; refine thn ⟨rfl, ?_⟩; dsimp only
            exact ⟨F17, rfl, (PH.le.refl _), st, gA, gA⟩
          · have hF := bif_f hb82 hF; refine g_take hb82 (v_fa ?_); refine g_take hb82 (v_ld1 (st.at (i := 0) rfl).2.2 rfl ?_); refine g_take hb82 (v_len ?_); refine g_take hb82 (v_eqi ?_); refine v_pick' hb82 ?_; refine v_move ?_
            rcases Bool.eq_false_or_eq_true (decide (((a0_1).length : Int) = (0 : Int))) with hb83 | hb83
            · have hF := bif_t hb83 hF; refine g_skip hb83 ?_; refine g_skip hb83 ?_; refine g_skip hb83 ?_; refine g_skip hb83 ?_; refine v_pick hb83 ?_; refine v_move ?_; refine g_skip rfl ?_; refine g_skip rfl ?_; refine g_skip rfl ?_; refine g_skip rfl ?_; refine g_skip rfl ?_; refine g_skip rfl ?_; refine v_pick rfl ?_; refine r_nil ?_; obtain rfl := inj hF; refine thn ⟨rfl, ?_⟩; dsimp only
              exact ⟨F17, rfl, (PH.le.refl _), st, gA, gA⟩
            · have hF := bif_f hb83 hF; refine g_take hb83 (v_fa ?_); refine g_take hb83 (v_ld1 (st.at (i := 0) rfl).2.2 rfl ?_); refine g_take hb83 (v_len ?_); refine g_take hb83 (v_eqi ?_); refine v_pick' hb83 ?_; refine v_move ?_
              rcases Bool.eq_false_or_eq_true (decide (((a0_2).length : Int) = (0 : Int))) with hb84 | hb84
              · have hF := bif_t hb84 hF; refine g_skip hb84 ?_; refine g_skip hb84 ?_; refine g_skip hb84 ?_; refine g_skip hb84 ?_; refine g_skip hb84 ?_; refine g_skip hb84 ?_; refine v_pick hb84 ?_; refine r_nil ?_; obtain rfl := inj hF; refine thn ⟨rfl, ?_⟩; dsimp only
                exact ⟨F17, rfl, (PH.le.refl _), st, gA, gA⟩
              · have hF := bif_f hb84 hF; refine g_take hb84 (v_fa ?_); refine g_take hb84 (v_ld1 (st.at (i := 0) rfl).2.2 rfl ?_); obtain ⟨n85, x85, z85, l85, g85, hF⟩ := ix_some hF; obtain ⟨b85, o85, s85, j85, r85, e85, f85, k85, ⟨_, _, rfl, rfl, ⟨_, _, rfl, rfl, rfl⟩⟩⟩ := RowF.get ra0_2 g85; refine g_take hb84 (v_ixp e85 z85 l85 ?_); refine g_take hb84 (v_fa ?_); refine g_take hb84 (v_ld1 (st.sub _ _ (le17 _ _ f85)) (take_at (j := 0) k85 rfl) ?_); refine g_take hb84 (v_nei ?_); refine v_pick' hb84 ?_; refine r_nil ?_; obtain rfl := inj hF; refine thn ⟨rfl, ?_⟩; dsimp only
                exact ⟨F17, rfl, (PH.le.refl _), st, gA, gA⟩
      · obtain ⟨F74, rfl, le74, st, t1, t46⟩ := hp
        have le86 := PH.le.trans le17 le74
        refine v_cond (fun hb87 => ?_) (fun hb87 => ?_)
        · have hF := bif_t hb87 hF; refine w_seq ?_; refine w_reg ?_; refine v_move ?_; refine r_nil ?_; refine th_n ?_; refine w_ret ?_; obtain rfl := inj hF; have hF := hK55; have hF := sel_l hF; refine th_r ?_; obtain rfl := inj hF
          exact end_s st (Res.t gA Res.nil) rfl rfl
        · have hF := bif_f hb87 hF; refine w_skip ?_; obtain rfl := inj hF; refine thn ⟨rfl, _, rfl, ?_⟩; dsimp only
          exact ⟨F74, rfl, le74, st, gA⟩
    · obtain ⟨w58, rfl, F59, rfl, le59, st, t1⟩ := hp; have hF := sel_r hF
      have le89 := PH.le.trans le17 le59
      refine w_seq ?_; refine w_seq ?_; refine w_reg ?_; refine v_move ?_; refine r_nil ?_; refine th_n ?_; refine w_block ?_; obtain ⟨y139, hy, hF⟩ := bnd_some hF; refine v_loopD (sf56_L1 N a0_2) (fun x90 T ds91 h nx => ∃ (F91 : PH), ds91 = [] ∧ PH.le F59 F91 ∧ St n0 h0 F0 F91 h nx [.bx b1 [(i64 a0_0), (.slice pa0_1 (a0_1).length ca0_1), (.slice pa0_2 (a0_2).length ca0_2), (i64 a0_3)]] ∧ T.get 1 = some (.ptr (some (b1, 0))) ∧ T.get 3 = some (i64 x90)) (fun y e a σ => (∃ u, y = (.inl u) ∧ e = .ret ∧ a.nt = 124 ∧ ∃ (F141 : PH), a.defers = [] ∧ PH.le F59 F141 ∧ St n0 h0 F0 F141 σ.h σ.nx [.bx b1 [(i64 a0_0), (.slice pa0_1 (a0_1).length ca0_1), (.slice pa0_2 (a0_2).length ca0_2), (i64 a0_3)]] ∧ a.tmps.get 2 = some (i64 u)) ∨ (∃ u, y = (.inr u) ∧ e = .exit 0 ∧ a.nt = 124 ∧ ∃ (F143 : PH), a.defers = [] ∧ PH.le F59 F143 ∧ St n0 h0 F0 F143 σ.h σ.nx [.bx b1 [(i64 a0_0), (.slice pa0_1 (a0_1).length ca0_1), (.slice pa0_2 (a0_2).length ca0_2), (i64 a0_3)]] ∧ a.tmps.get 1 = some (.ptr (some (b1, 0))))) (fun x90 T ds91 h nx s hp hF => ?_) N _ y139 _ _ _ _ hy ⟨F59, rfl, (PH.le.refl _), st, gA, gA⟩ (fun e a σ hne hq => ?_)
      · obtain ⟨F91, rfl, le91, st, t1, t3⟩ := hp
        have le92 := PH.le.trans le89 le91
        have le93 := PH.le.trans le59 le91
        unfold sf56_L1 at hF; unfold L56w2; refine w_seq ?_; refine w_seq ?_; refine w_reg ?_; refine v_move ?_; refine v_fa ?_; refine v_ld1 (st.at (i := 0) rfl).2.2 rfl ?_; refine v_len ?_; refine v_lss ?_; refine r_nil ?_; refine th_n ?_; refine v_cond (fun hb144 => ?_) (fun hb144 => ?_)
        · have hF := bif_t hb144 hF; refine w_skip ?_; refine th_n ?_; refine w_seq ?_; refine w_block ?_; refine w_seq ?_; refine w_reg ?_; refine v_fa ?_; refine v_ld1 (st.at (i := 0) rfl).2.2 rfl ?_; refine v_move ?_; obtain ⟨n145, x145, z145, l145, g145, hF⟩ := ix_some hF; obtain ⟨b145, o145, s145, j145, r145, e145, f145, k145, ⟨_, _, rfl, rfl, ⟨_, _, rfl, rfl, rfl⟩⟩⟩ := RowF.get ra0_2 g145; refine v_ixp e145 z145 l145 ?_; refine v_ldn (st.sub _ _ (le92 _ _ f145)) k145 ?_; refine v_alloc st (fun b146 h147 n148 st => ?_); refine v_st (cs' := [(i64 x145.1), (i64 x145.2.1), (i64 x145.2.2)]) st 1 rfl rfl rfl rfl hfl (fun h149 st => ?_); refine r_nil ?_; refine th_n ?_; obtain ⟨y165, hA166, hF⟩ := bnd_some hF
          refine w_cutD (fun T ds168 h nx => ∃ (F168 : PH), ds168 = [] ∧ PH.le F91 F168 ∧ St n0 h0 F0 F168 h nx [.bx b1 [(i64 a0_0), (.slice pa0_1 (a0_1).length ca0_1), (.slice pa0_2 (a0_2).length ca0_2), (i64 a0_3)], .bx b146 [(i64 x145.1), (i64 x145.2.1), (i64 x145.2.2)]] ∧ T.get 1 = some (.ptr (some (b1, 0))) ∧ T.get 3 = some (i64 x90) ∧ T.get 84 = some (.bool y165)) ?_ (fun T ds168 h nx hp => ?_)
          · have hK167 := hF
            have hF := hA166; refine w_drawV (Nat.le_trans hfl st.ext.le) (fun dw => ?_); refine y_pure st.d dw (fun hm vw => v_fa pr_nil) ?_; refine y_pure st.d dw (fun hm vw => v_ld1 (vw.bx (st.at (i := 1) rfl)) rfl pr_nil) ?_; obtain ⟨v169, e170, hF⟩ := bnd_some hF; refine y_flat st.d dw (fun hm vw => u_call (ct24 N e170 vw.d (vw.sub st) ) (fun n' hn' => pf_nil hn')) (fun n171 hn' dw => ?_); refine y_pure st.d dw (fun hm vw => v_not pr_nil) ?_; refine y_pure st.d dw (fun hm vw => v_move pr_nil) ?_
            rcases Bool.eq_false_or_eq_true (!v169) with hb172 | hb172
            · have hF := bif_t hb172 hF; refine y_pure st.d dw (fun hm vw => g_skip hb172 pr_nil) ?_; refine y_pure st.d dw (fun hm vw => g_skip hb172 pr_nil) ?_; refine y_pure st.d dw (fun hm vw => g_skip hb172 pr_nil) ?_; refine y_pure st.d dw (fun hm vw => g_skip hb172 pr_nil) ?_; refine y_pure st.d dw (fun hm vw => v_pick hb172 pr_nil) ?_; refine y_pure st.d dw (fun hm vw => v_move pr_nil) ?_; refine y_pure st.d dw (fun hm vw => g_skip rfl pr_nil) ?_; refine y_pure st.d dw (fun hm vw => g_skip rfl pr_nil) ?_; refine y_pure st.d dw (fun hm vw => g_skip rfl pr_nil) ?_; refine y_pure st.d dw (fun hm vw => g_skipu pr_nil) ?_; refine y_pure st.d dw (fun hm vw => g_skipu pr_nil) ?_; refine y_pure st.d dw (fun hm vw => g_skipu pr_nil) ?_
              refine y_pure st.d dw (fun hm vw => g_skipu pr_nil) ?_; refine y_pure st.d dw (fun hm vw => g_skipu pr_nil) ?_; refine y_pure st.d dw (fun hm vw => g_skipu pr_nil) ?_; refine y_pure st.d dw (fun hm vw => g_skipu pr_nil) ?_; refine y_pure st.d dw (fun hm vw => g_skipu pr_nil) ?_; refine y_pure st.d dw (fun hm vw => g_skipu pr_nil) ?_; refine y_end st.d dw rfl (fun h173 ex vs => ?_)
              have st := st.ext1 ex
              refine g_skipu ?_; refine g_skip rfl ?_; refine v_pick rfl ?_; refine r_nil ?_; obtain rfl := inj hF; refine thn ⟨rfl, ?_⟩; dsimp only
              exact ⟨F91, rfl, (PH.le.refl _), st, gA, gA, gA⟩
            · have hF := bif_f hb172 hF; refine y_pure st.d dw (fun hm vw => g_take hb172 (v_fa pr_nil)) ?_; refine y_pure st.d dw (fun hm vw => g_take hb172 (v_ldn (vs := [(i64 x145.2.1), (i64 x145.2.2)]) (vw.bx (st.at (i := 1) rfl)) rfl pr_nil)) ?_; obtain ⟨v174, e175, hF⟩ := bnd_some hF; refine y_flat st.d dw (fun hm vw => g_take hb172 (u_call (ct86 N e175 vw.d (vw.sub st) ) (fun n' hn' => pf_nil hn'))) (fun n176 hn' dw => ?_); refine y_pure st.d dw (fun hm vw => g_take hb172 (v_not pr_nil)) ?_; refine y_pure st.d dw (fun hm vw => v_pick' hb172 pr_nil) ?_; refine y_pure st.d dw (fun hm vw => v_move pr_nil) ?_
              rcases Bool.eq_false_or_eq_true (!v174) with hb177 | hb177
              · have hF := bif_t hb177 hF; refine y_pure st.d dw (fun hm vw => g_skip hb177 pr_nil) ?_; refine y_pure st.d dw (fun hm vw => g_skip hb177 pr_nil) ?_; refine y_pure st.d dw (fun hm vw => g_skip hb177 pr_nil) ?_; refine y_pure st.d dw (fun hm vw => g_skipu pr_nil) ?_; refine y_pure st.d dw (fun hm vw => g_skipu pr_nil) ?_; refine y_pure st.d dw (fun hm vw => g_skipu pr_nil) ?_; refine y_pure st.d dw (fun hm vw => g_skipu pr_nil) ?_; refine y_pure st.d dw (fun hm vw => g_skipu pr_nil) ?_; refine y_pure st.d dw (fun hm vw => g_skipu pr_nil) ?_; refine y_pure st.d dw (fun hm vw => g_skipu pr_nil) ?_; refine y_pure st.d dw (fun hm vw => g_skipu pr_nil) ?_; refine y_pure st.d dw (fun hm vw => g_skipu pr_nil) ?_
                refine y_end st.d dw rfl (fun h178 ex vs => ?_)
                have st := st.ext1 ex
                refine g_skipu ?_; refine g_skip hb177 ?_; refine v_pick hb177 ?_; refine r_nil ?_; obtain rfl := inj hF; refine thn ⟨rfl, ?_⟩; dsimp only
                exact ⟨F91, rfl, (PH.le.refl _), st, gA, gA, gA⟩
              · have hF := bif_f hb177 hF; refine y_pure st.d dw (fun hm vw => g_take hb177 (v_move pr_nil)) ?_; refine y_pure st.d dw (fun hm vw => g_take hb177 (v_gtr pr_nil)) ?_; refine y_pure st.d dw (fun hm vw => g_take hb177 (v_move pr_nil)) ?_
                rcases Bool.eq_false_or_eq_true (decide ((0 : Int) < x90)) with hb179 | hb179
                · have hF := bif_t hb179 hF; refine y_pure st.d dw (fun hm vw => g_take hb179 (v_fa pr_nil)) ?_; refine y_pure st.d dw (fun hm vw => g_take hb179 (v_ld1 (vw.bx (st.at (i := 1) rfl)) rfl pr_nil)) ?_; refine y_pure st.d dw (fun hm vw => g_take hb179 (v_fa pr_nil)) ?_; refine y_pure st.d dw (fun hm vw => g_take hb179 (v_ld1 (vw.bx (st.at (i := 0) rfl)) rfl pr_nil)) ?_; refine y_pure st.d dw (fun hm vw => g_take hb179 (v_move pr_nil)) ?_; obtain ⟨q180, hF⟩ := ck_some hF; refine y_pure st.d dw (fun hm vw => g_take hb179 (v_sub q180 pr_nil)) ?_; obtain ⟨n181, x181, z181, l181, g181, hF⟩ := ix_some hF; obtain ⟨b181, o181, s181, j181, r181, e181, f181, k181, ⟨_, _, rfl, rfl, ⟨_, _, rfl, rfl, rfl⟩⟩⟩ := RowF.get ra0_2 g181
                  refine y_pure st.d dw (fun hm vw => g_take hb179 (v_ixp e181 z181 l181 pr_nil)) ?_; refine y_pure st.d dw (fun hm vw => g_take hb179 (v_fa pr_nil)) ?_; refine y_pure st.d dw (fun hm vw => g_take hb179 (v_ld1 (vw.fz st (le92 _ _ f181)) (take_at (j := 0) k181 rfl) pr_nil)) ?_; refine y_end st.d dw rfl (fun h182 ex vs => ?_)
                  have st := st.ext1 ex
                  refine g_take hb179 (v_leq ?_); refine g_take hb177 (v_pick hb179 ?_); refine v_pick' hb177 ?_; refine r_nil ?_; obtain rfl := inj hF; refine thn ⟨rfl, ?_⟩; dsimp only
                  exact ⟨F91, rfl, (PH.le.refl _), st, gA, gA, gA⟩
                · have hF := bif_f hb179 hF; refine y_pure st.d dw (fun hm vw => g_skip hb179 pr_nil) ?_; refine y_pure st.d dw (fun hm vw => g_skip hb179 pr_nil) ?_; refine y_pure st.d dw (fun hm vw => g_skip hb179 pr_nil) ?_; refine y_pure st.d dw (fun hm vw => g_skip hb179 pr_nil) ?_; refine y_pure st.d dw (fun hm vw => g_skip hb179 pr_nil) ?_; refine y_pure st.d dw (fun hm vw => g_skip hb179 pr_nil) ?_; refine y_pure st.d dw (fun hm vw => g_skip hb179 pr_nil) ?_; refine y_pure st.d dw (fun hm vw => g_skip hb179 pr_nil) ?_; refine y_pure st.d dw (fun hm vw => g_skip hb179 pr_nil) ?_; refine y_end st.d dw rfl (fun h183 ex vs => ?_)
                  have st := st.ext1 ex
                  refine g_skip hb179 ?_; refine g_take hb177 (v_pick' hb179 ?_); refine v_pick' hb177 ?_; refine r_nil ?_; obtain rfl := inj hF; refine thn ⟨rfl, ?_⟩; dsimp only
                  exact ⟨F91, rfl, (PH.le.refl _), st, gA, gA, gA⟩
          · obtain ⟨F168, rfl, le168, st, t1, t3, t84⟩ := hp
            have le184 := PH.le.trans le92 le168
            have le185 := PH.le.trans le93 le168
            have le186 := PH.le.trans le91 le168
            refine v_cond (fun hb187 => ?_) (fun hb187 => ?_)
            · have hF := bif_t hb187 hF; refine w_seq ?_; refine w_reg ?_; refine v_move ?_; refine r_nil ?_; refine th_n ?_; refine w_ret ?_; refine ib_r ?_; refine th_r ?_; refine th_r ?_; refine ⟨_, (inj hF).symm, .inl ⟨_, rfl, rfl, rfl, ?_⟩⟩; dsimp only
              exact ⟨F168, rfl, le186, (st.drop (by first | exact List.Sublist.refl _ | (repeat first | exact List.nil_sublist _ | refine List.Sublist.cons_cons _ ?_ | refine List.Sublist.cons _ ?_))), gA⟩
            · have hF := bif_f hb187 hF; refine w_skip ?_; refine ib_n ?_; refine th_n ?_; refine w_reg ?_; refine v_move ?_; obtain ⟨q188, hF⟩ := ck_some hF; refine v_add q188 ?_; refine v_move ?_; refine r_nil ?_; refine thn ⟨_, (inj hF).symm, rfl, ?_⟩; dsimp only
              exact ⟨F168, rfl, le186, (st.drop (by first | exact List.Sublist.refl _ | (repeat first | exact List.nil_sublist _ | refine List.Sublist.cons_cons _ ?_ | refine List.Sublist.cons _ ?_))), gA, gA⟩
        · have hF := bif_f hb144 hF; refine w_exit ?_; refine th_e ?_; refine th_e ?_; refine ⟨_, (inj hF).symm, .inr (⟨_, rfl, rfl, rfl, ?_⟩)⟩; dsimp only
          exact ⟨F91, rfl, le91, st, gA⟩
      · rcases hq with hq | hq
        · obtain ⟨N9, T, ds141⟩ := a; obtain ⟨h191, n192⟩ := σ; obtain ⟨w140, rfl, rfl, e1, F141, e2, le141, st, t2⟩ := hq
          dsimp only at e1 e2
          subst e1
          subst e2
          dsimp only at st t2
          have le189 := PH.le.trans le89 le141
          have le190 := PH.le.trans le59 le141
          have hF := sel_l hF; refine ib_r ?_; refine th_r ?_; obtain rfl := inj hF
          exact end_s st (Res.t gA Res.nil) rfl rfl
        · obtain ⟨N9, T, ds143⟩ := a; obtain ⟨h195, n196⟩ := σ; obtain ⟨w142, rfl, rfl, e1, F143, e2, le143, st, t1⟩ := hq
          dsimp only at e1 e2
          subst e1
          subst e2
          dsimp only at st t1
          have le193 := PH.le.trans le89 le143
          have le194 := PH.le.trans le59 le143
          have hF := sel_r hF; refine ib_e ?_; refine th_n ?_; refine w_seq ?_; refine w_seq ?_; refine w_reg ?_; refine v_move ?_; refine r_nil ?_; refine th_n ?_; refine w_block ?_; obtain ⟨y248, hy, hF⟩ := bnd_some hF; refine v_loopD (sf56_L3 N a0_0 a0_1 a0_2) (fun x197 T ds198 h nx => ∃ (F198 : PH), ds198 = [] ∧ PH.le F143 F198 ∧ St n0 h0 F0 F198 h nx [.bx b1 [(i64 a0_0), (.slice pa0_1 (a0_1).length ca0_1), (.slice pa0_2 (a0_2).length ca0_2), (i64 a0_3)]] ∧ T.get 1 = some (.ptr (some (b1, 0))) ∧ T.get 5 = some (i64 x197)) (fun y e a σ => (∃ u, y = (.inl u) ∧ e = .ret ∧ a.nt = 124 ∧ ∃ (F250 : PH), a.defers = [] ∧ PH.le F143 F250 ∧ St n0 h0 F0 F250 σ.h σ.nx [.bx b1 [(i64 a0_0), (.slice pa0_1 (a0_1).length ca0_1), (.slice pa0_2 (a0_2).length ca0_2), (i64 a0_3)]] ∧ a.tmps.get 2 = some (i64 u)) ∨ (∃ u, y = (.inr u) ∧ e = .exit 2 ∧ a.nt = 124 ∧ ∃ (F252 : PH), a.defers = [] ∧ PH.le F143 F252 ∧ St n0 h0 F0 F252 σ.h σ.nx [.bx b1 [(i64 a0_0), (.slice pa0_1 (a0_1).length ca0_1), (.slice pa0_2 (a0_2).length ca0_2), (i64 a0_3)]])) (fun x197 T ds198 h nx s hp hF => ?_) N _ y248 _ _ _ _ hy ⟨F143, rfl, (PH.le.refl _), st, gA, gA⟩ (fun e a σ hne hq => ?_)
          · obtain ⟨F198, rfl, le198, st, t1, t5⟩ := hp
            have le199 := PH.le.trans le193 le198
            have le200 := PH.le.trans le194 le198
            have le201 := PH.le.trans le143 le198
            unfold sf56_L3 at hF; unfold L56w1; refine w_seq ?_; refine w_seq ?_; refine w_reg ?_; refine v_move ?_; refine v_fa ?_; refine v_ld1 (st.at (i := 0) rfl).2.2 rfl ?_; refine v_len ?_; refine v_lss ?_; refine r_nil ?_; refine th_n ?_; refine v_cond (fun hb253 => ?_) (fun hb253 => ?_)
            · have hF := bif_t hb253 hF; refine w_skip ?_; refine th_n ?_; refine w_seq ?_; refine w_block ?_; refine w_seq ?_; refine w_seq ?_; refine w_reg ?_; refine v_fa ?_; refine v_ld1 (st.at (i := 0) rfl).2.2 rfl ?_; refine v_move ?_; obtain ⟨n254, x254, z254, l254, g254, hF⟩ := ix_some hF; obtain ⟨b254, o254, s254, j254, r254, e254, f254, k254, ⟨_, _, rfl, rfl, rfl⟩⟩ := RowF.get ra0_1 g254; refine v_ixp e254 z254 l254 ?_; refine v_ldn (st.sub _ _ (le199 _ _ f254)) k254 ?_; obtain ⟨v255, e256, hF⟩ := bnd_some hF; refine v_call st (ct86 N e256 st.d st.sub ) (fun n257 st => ?_); refine v_not ?_; refine r_nil ?_; refine th_n ?_; refine v_cond (fun hb258 => ?_) (fun hb258 => ?_)
              · have hF := bif_t hb258 hF; refine w_seq ?_; refine w_reg ?_; refine v_move ?_; refine r_nil ?_; refine th_n ?_; refine w_ret ?_; refine th_r ?_; refine ib_r ?_; refine th_r ?_; refine th_r ?_; refine ⟨_, (inj hF).symm, .inl ⟨_, rfl, rfl, rfl, ?_⟩⟩; dsimp only
                exact ⟨F198, rfl, le198, st, gA⟩
              · have hF := bif_f hb258 hF; refine w_skip ?_; refine th_n ?_; refine w_seq ?_; refine w_reg ?_; refine v_move ?_; refine r_nil ?_; refine th_n ?_; refine w_block ?_; obtain ⟨y273, hy, hF⟩ := bnd_some hF; refine v_loopD (sf56_L2 a0_0 a0_1 a0_2 x197) (fun x259 T ds260 h nx => ∃ (F260 : PH), ds260 = [] ∧ PH.le F198 F260 ∧ St n0 h0 F0 F260 h nx [.bx b1 [(i64 a0_0), (.slice pa0_1 (a0_1).length ca0_1), (.slice pa0_2 (a0_2).length ca0_2), (i64 a0_3)]] ∧ T.get 1 = some (.ptr (some (b1, 0))) ∧ T.get 5 = some (i64 x197) ∧ T.get 6 = some (i64 x259)) (fun y e a σ => (∃ u, y = (.inl u) ∧ e = .ret ∧ a.nt = 124 ∧ ∃ (F275 : PH), a.defers = [] ∧ PH.le F198 F275 ∧ St n0 h0 F0 F275 σ.h σ.nx [.bx b1 [(i64 a0_0), (.slice pa0_1 (a0_1).length ca0_1), (.slice pa0_2 (a0_2).length ca0_2), (i64 a0_3)]] ∧ a.tmps.get 2 = some (i64 u)) ∨ (∃ u, y = (.inr u) ∧ e = .exit 4 ∧ a.nt = 124 ∧ ∃ (F277 : PH), a.defers = [] ∧ PH.le F198 F277 ∧ St n0 h0 F0 F277 σ.h σ.nx [.bx b1 [(i64 a0_0), (.slice pa0_1 (a0_1).length ca0_1), (.slice pa0_2 (a0_2).length ca0_2), (i64 a0_3)]] ∧ a.tmps.get 1 = some (.ptr (some (b1, 0))) ∧ a.tmps.get 5 = some (i64 x197))) (fun x259 T ds260 h nx s hp hF => ?_) N _ y273 _ _ _ _ hy ⟨F198, rfl, (PH.le.refl _), st, gA, gA, gA⟩ (fun e a σ hne hq => ?_)
                · obtain ⟨F260, rfl, le260, st, t1, t5, t6⟩ := hp
                  have le261 := PH.le.trans le199 le260
                  have le262 := PH.le.trans le200 le260
                  have le263 := PH.le.trans le201 le260
                  have le264 := PH.le.trans le198 le260
                  unfold sf56_L2 at hF; unfold L56w0; refine w_seq ?_; refine w_seq ?_; refine w_reg ?_; refine v_move ?_; refine v_fa ?_; refine v_ld1 (st.at (i := 0) rfl).2.2 rfl ?_; refine v_len ?_; refine v_lss ?_; refine r_nil ?_; refine th_n ?_; refine v_cond (fun hb278 => ?_) (fun hb278 => ?_)
                  · have hF := bif_t hb278 hF; refine w_skip ?_; refine th_n ?_; refine w_seq ?_; refine w_block ?_; refine w_seq ?_; refine w_drawV (Nat.le_trans hfl st.ext.le) (fun dw => ?_); refine y_pure st.d dw (fun hm vw => v_fa pr_nil) ?_; refine y_pure st.d dw (fun hm vw => v_ld1 (vw.bx (st.at (i := 0) rfl)) rfl pr_nil) ?_; refine y_pure st.d dw (fun hm vw => v_fa pr_nil) ?_; refine y_pure st.d dw (fun hm vw => v_ld1 (vw.bx (st.at (i := 0) rfl)) rfl pr_nil) ?_; refine y_pure st.d dw (fun hm vw => v_move pr_nil) ?_; obtain ⟨n279, x279, z279, l279, g279, hF⟩ := ix_some hF; obtain ⟨b279, o279, s279, j279, r279, e279, f279, k279, ⟨_, _, rfl, rfl, rfl⟩⟩ := RowF.get ra0_1 g279; refine y_pure st.d dw (fun hm vw => v_ixp e279 z279 l279 pr_nil) ?_
                    refine y_pure st.d dw (fun hm vw => v_fa pr_nil) ?_; refine y_pure st.d dw (fun hm vw => v_ld1 (vw.fz st (le261 _ _ f279)) (take_at (j := 0) k279 rfl) pr_nil) ?_; obtain ⟨q280, hF⟩ := ck_some hF; refine y_pure st.d dw (fun hm vw => v_add q280 pr_nil) ?_; refine y_pure st.d dw (fun hm vw => v_fa pr_nil) ?_; refine y_pure st.d dw (fun hm vw => v_ld1 (vw.bx (st.at (i := 0) rfl)) rfl pr_nil) ?_; refine y_pure st.d dw (fun hm vw => v_move pr_nil) ?_; obtain ⟨n281, x281, z281, l281, g281, hF⟩ := ix_some hF; obtain ⟨b281, o281, s281, j281, r281, e281, f281, k281, ⟨_, _, rfl, rfl, ⟨_, _, rfl, rfl, rfl⟩⟩⟩ := RowF.get ra0_2 g281; refine y_pure st.d dw (fun hm vw => v_ixp e281 z281 l281 pr_nil) ?_
                    refine y_pure st.d dw (fun hm vw => v_fa pr_nil) ?_; refine y_pure st.d dw (fun hm vw => v_fa pr_nil) ?_; refine y_pure st.d dw (fun hm vw => v_ld1 (vw.fz st (le261 _ _ f281)) (take_at (j := 1) k281 rfl) pr_nil) ?_; refine y_end st.d dw rfl (fun h282 ex vs => ?_)
                    have st := st.ext1 ex
                    obtain ⟨q283, hF⟩ := ck_some hF; refine v_add q283 ?_; refine v_lss ?_; refine r_nil ?_; refine th_n ?_; refine v_cond (fun hb284 => ?_) (fun hb284 => ?_)
                    · have hF := bif_t hb284 hF; refine w_seq ?_; refine w_reg ?_; refine v_move ?_; refine r_nil ?_; refine th_n ?_; refine w_ret ?_; refine ib_r ?_; refine th_r ?_; refine th_r ?_; refine ⟨_, (inj hF).symm, .inl ⟨_, rfl, rfl, rfl, ?_⟩⟩; dsimp only
                      exact ⟨F260, rfl, le260, st, gA⟩
                    · have hF := bif_f hb284 hF; refine w_skip ?_; refine ib_n ?_; refine th_n ?_; refine w_reg ?_; refine v_move ?_; obtain ⟨q285, hF⟩ := ck_some hF; refine v_add q285 ?_; refine v_move ?_; refine r_nil ?_; refine thn ⟨_, (inj hF).symm, rfl, ?_⟩; dsimp only
                      exact ⟨F260, rfl, le260, st, gA, gA, gA⟩
                  · have hF := bif_f hb278 hF; refine w_exit ?_; refine th_e ?_; refine th_e ?_; refine ⟨_, (inj hF).symm, .inr (⟨_, rfl, rfl, rfl, ?_⟩)⟩; dsimp only
                    exact ⟨F260, rfl, le260, st, gA, gA⟩
                · rcases hq with hq | hq
                  · obtain ⟨N9, T, ds275⟩ := a; obtain ⟨h290, n291⟩ := σ; obtain ⟨w274, rfl, rfl, e1, F275, e2, le275, st, t2⟩ := hq
                    dsimp only at e1 e2
                    subst e1
                    subst e2
                    dsimp only at st t2
                    have le286 := PH.le.trans le199 le275
                    have le287 := PH.le.trans le200 le275
                    have le288 := PH.le.trans le201 le275
                    have le289 := PH.le.trans le198 le275
                    have hF := sel_l hF; refine ib_r ?_; refine ib_r ?_; refine th_r ?_; refine th_r ?_; refine ⟨_, (inj hF).symm, .inl ⟨_, rfl, rfl, rfl, ?_⟩⟩; dsimp only
                    exact ⟨F275, rfl, le289, st, gA⟩
                  · obtain ⟨N9, T, ds277⟩ := a; obtain ⟨h296, n297⟩ := σ; obtain ⟨w276, rfl, rfl, e1, F277, e2, le277, st, t1, t5⟩ := hq
                    dsimp only at e1 e2
                    subst e1
                    subst e2
                    dsimp only at st t1 t5
                    have le292 := PH.le.trans le199 le277
                    have le293 := PH.le.trans le200 le277
                    have le294 := PH.le.trans le201 le277
                    have le295 := PH.le.trans le198 le277
                    have hF := sel_r hF; refine ib_e ?_; refine ib_n ?_; refine th_n ?_; refine w_reg ?_; refine v_move ?_; obtain ⟨q298, hF⟩ := ck_some hF; refine v_add q298 ?_; refine v_move ?_; refine r_nil ?_; refine thn ⟨_, (inj hF).symm, rfl, ?_⟩; dsimp only
                    exact ⟨F277, rfl, le295, st, gA, gA⟩
            · have hF := bif_f hb253 hF; refine w_exit ?_; refine th_e ?_; refine th_e ?_; refine ⟨_, (inj hF).symm, .inr (⟨_, rfl, rfl, rfl, ?_⟩)⟩; dsimp only
              exact ⟨F198, rfl, le198, st⟩
          · rcases hq with hq | hq
            · obtain ⟨N9, T, ds250⟩ := a; obtain ⟨h302, n303⟩ := σ; obtain ⟨w249, rfl, rfl, e1, F250, e2, le250, st, t2⟩ := hq
              dsimp only at e1 e2
              subst e1
              subst e2
              dsimp only at st t2
              have le299 := PH.le.trans le193 le250
              have le300 := PH.le.trans le194 le250
              have le301 := PH.le.trans le143 le250
              have hF := sel_l hF; refine ib_r ?_; refine th_r ?_; obtain rfl := inj hF
              exact end_s st (Res.t gA Res.nil) rfl rfl
            · obtain ⟨N9, T, ds252⟩ := a; obtain ⟨h307, n308⟩ := σ; obtain ⟨w251, rfl, rfl, e1, F252, e2, le252, st⟩ := hq
              dsimp only at e1 e2
              subst e1
              subst e2
              dsimp only at st
              have le304 := PH.le.trans le193 le252
              have le305 := PH.le.trans le194 le252
              have le306 := PH.le.trans le143 le252
              have hF := sel_r hF; refine ib_e ?_; refine th_n ?_; refine w_seq ?_; refine w_reg ?_; refine v_move ?_; refine r_nil ?_; refine th_n ?_; refine w_ret ?_; obtain rfl := inj hF
              exact end_s st (Res.t gA Res.nil) rfl rfl
end Go.Hx.V

/- Functions of the program come to that. -/
namespace Go.Hx.V
open Go.Hx
set_option linter.unusedVariables false
set_option maxRecDepth 20000
set_option maxHeartbeats 4000000
attribute [local irreducible] W R C thenH inBlockH Tr.get Tr.set lo
theorem ct88 (N : Nat) {a0 : (List Int)} {r : Bool} (hF : sf88 N a0 = some r) {fl : Nat} {h0 : Tr HBlk} {n0 : Nat} {F0 : PH} (hd : D h0 n0) (hs : F0.sub h0) {pa0 : Option (Nat × Nat)} {ca0 : Nat} (ra0 : RowF rI 1 F0 pa0 ca0 a0) : C LW fl 88 [(.slice pa0 (a0).length ca0)] ⟨h0, n0⟩ (KS (.bool r) n0 h0) := by
  unfold sf88 at hF
  refine in_cT hd hs lw88 rfl rfl (by rfl) (fun st T hT => ?_)
  have hfl : n0 ≤ n0 := Nat.le_refl n0
  have t0 := hT 0 _ rfl
  dsimp only [L88]
  refine w_seq ?_; refine w_reg ?_; refine v_move ?_; refine r_nil ?_; refine th_n ?_; refine w_seq ?_; refine w_reg ?_; refine v_move ?_; obtain ⟨v1, e2, hF⟩ := bnd_some hF; refine v_call st (ct107 N e2 st.d st.sub ra0) (fun n3 st => ?_); refine v_move ?_; refine r_nil ?_; refine th_n ?_; refine w_ret ?_; obtain rfl := inj hF
  exact end_s st (Res.t gA Res.nil) rfl rfl
theorem ct73 (N : Nat) {a0_0 : Int} {a0_1 : (List (Int × Int))} {a0_2 : (List (Int × Int × Int))} {a0_3 : Int} {a0_4 : (List Int)} {a0_5 : (List Int)} {a0_6 : Int} {a1_0 : Int} {a1_1 : Int} {r : Bool} (hF : sf73 N a0_0 a0_1 a0_2 a0_3 a0_4 a0_5 a0_6 a1_0 a1_1 = some r) {fl : Nat} {h0 : Tr HBlk} {n0 : Nat} {F0 : PH} (hd : D h0 n0) (hs : F0.sub h0) {pa0_1 : Option (Nat × Nat)} {ca0_1 : Nat} {pa0_2 : Option (Nat × Nat)} {ca0_2 : Nat} {pa0_4 : Option (Nat × Nat)} {ca0_4 : Nat} {pa0_5 : Option (Nat × Nat)} {ca0_5 : Nat} (ra0_1 : RowF (rP rI rI) 2 F0 pa0_1 ca0_1 a0_1) (ra0_2 : RowF (rP rI (rP rI rI)) 3 F0 pa0_2 ca0_2 a0_2) (ra0_4 : RowF rI 1 F0 pa0_4 ca0_4 a0_4) (ra0_5 : RowF rI 1 F0 pa0_5 ca0_5 a0_5) : C LW fl 73 [(.agg [(i64 a0_0), (.slice pa0_1 (a0_1).length ca0_1), (.slice pa0_2 (a0_2).length ca0_2), (i64 a0_3), (.slice pa0_4 (a0_4).length ca0_4), (.slice pa0_5 (a0_5).length ca0_5), (i64 a0_6)]), (.agg [(i64 a1_0), (i64 a1_1)])] ⟨h0, n0⟩ (KS (.bool r) n0 h0) := by
  unfold sf73 at hF
  refine in_cT hd hs lw73 rfl rfl (by rfl) (fun st T hT => ?_)
  have hfl : n0 ≤ n0 := Nat.le_refl n0
  have t0 := hT 0 _ rfl
  have t1 := hT 1 _ rfl
  dsimp only [L73]
  refine w_seq ?_; refine w_reg ?_; refine v_box st (fun b1 h2 n3 st => ?_); refine v_box st (fun b4 h5 n6 st => ?_); refine v_move ?_; refine r_nil ?_; refine th_n ?_; refine w_seq ?_; refine w_reg ?_; refine v_fa ?_; refine v_ldn (vs := [(i64 a0_0), (.slice pa0_1 (a0_1).length ca0_1), (.slice pa0_2 (a0_2).length ca0_2), (i64 a0_3), (.slice pa0_4 (a0_4).length ca0_4), (.slice pa0_5 (a0_5).length ca0_5)]) (st.at (i := 0) rfl).2.2 rfl ?_; refine v_ldn (vs := [(i64 a1_0), (i64 a1_1)]) (st.at (i := 1) rfl).2.2 rfl ?_; obtain ⟨v7, e8, hF⟩ := bnd_some hF; refine v_call st (ct59 N e8 st.d st.sub ra0_1 ra0_2 ra0_4 ra0_5) (fun n9 st => ?_); refine v_alloc st (fun b10 h11 n12 st => ?_); refine v_st (cs' := [(i64 v7.1), (i64 v7.2)]) st 2 rfl rfl rfl rfl hfl (fun h13 st => ?_)
  refine r_nil ?_; refine th_n ?_; refine w_seq ?_; refine w_drawV (Nat.le_trans hfl st.ext.le) (fun dw => ?_); refine y_pure st.d dw (fun hm vw => v_fa pr_nil) ?_; refine y_pure st.d dw (fun hm vw => v_ld1 (vw.bx (st.at (i := 2) rfl)) rfl pr_nil) ?_; obtain ⟨q14, hF⟩ := ck_some hF; refine y_pure st.d dw (fun hm vw => v_neg q14 pr_nil) ?_; refine y_pure st.d dw (fun hm vw => v_fa pr_nil) ?_; refine y_pure st.d dw (fun hm vw => v_ld1 (vw.bx (st.at (i := 2) rfl)) rfl pr_nil) ?_; refine y_lay st.d dw (fun hm vw => u_bs (cs := [(i64 v7.2)]) rfl pr_nil) (fun done dw => ?_); obtain ⟨v15, e16, hF⟩ := bnd_some hF; refine y_flat st.d dw (fun hm vw => u_call (ct96 N e16 vw.d (all_sub _) (RowF.blk (F := F0) (vw.vis _ (List.mem_cons_self ..) rfl _ _ (if_pos rfl)) (show LR rI 1 F0 [v7.2] [(i64 v7.2)] from (LR.one (rfl))) (vw.sub st))) (fun n' hn' => pf_nil hn')) (fun n17 hn' dw => ?_)
  refine y_pure st.d dw (fun hm vw => v_fa pr_nil) ?_; refine y_pure st.d dw (fun hm vw => v_ld1 (vw.bx (st.at (i := 0) rfl)) rfl pr_nil) ?_; refine y_end st.d dw rfl (fun h18 ex vs => ?_)
  have st := St.laid st ex (Lay.cons (b := n12) (cs := [(i64 v7.2)]) (by have := dw.le; omega) (vs _ (List.mem_cons_self ..) _ _ (if_pos rfl)) (Lay.nil (by have := dw.le; omega)))
  refine v_leq ?_; refine v_move ?_; refine r_nil ?_; refine th_n ?_; refine w_ret ?_; obtain rfl := inj hF
  exact end_s st (Res.t gA Res.nil) rfl rfl
theorem ct71 (N : Nat) {a0 : (List Int)} {r : Int} (hF : sf71 N a0 = some r) {fl : Nat} {h0 : Tr HBlk} {n0 : Nat} {F0 : PH} (hd : D h0 n0) (hs : F0.sub h0) {pa0 : Option (Nat × Nat)} {ca0 : Nat} (ra0 : RowF rI 1 F0 pa0 ca0 a0) : C LW fl 71 [(.slice pa0 (a0).length ca0)] ⟨h0, n0⟩ (KS (i64 r) n0 h0) := by
  unfold sf71 at hF
  refine in_cT hd hs lw71 rfl rfl (by rfl) (fun st T hT => ?_)
  have hfl : n0 ≤ n0 := Nat.le_refl n0
  have t0 := hT 0 _ rfl
  dsimp only [L71]
  refine w_seq ?_; refine w_reg ?_; refine v_move ?_; refine r_nil ?_; refine th_n ?_; refine w_seq ?_; refine w_reg ?_; obtain ⟨v1, e2, hF⟩ := bnd_some hF; refine v_call st (ct95 N e2 st.d st.sub ) (fun n3 st => ?_); refine v_alloc st (fun b4 h5 n6 st => ?_); refine v_move ?_; refine v_st (cs' := [(i64 v1.1), (i64 v1.2.1), (i64 v1.2.2)]) st 0 rfl rfl rfl rfl hfl (fun h7 st => ?_); refine r_nil ?_; refine th_n ?_; refine w_seq ?_; refine w_seq ?_; refine w_reg ?_; refine v_move ?_; refine v_len ?_; refine v_move ?_; refine r_nil ?_; refine th_n ?_; refine w_block ?_; obtain ⟨y25, hy, hF⟩ := bnd_some hF; refine v_loopD (sf71_L1 N a0) (fun x8 T ds9 h nx => ∃ (F9 : PH), ds9 = [] ∧ PH.le F0 F9 ∧ St n0 h0 F0 F9 h nx [.bx b4 [(i64 x8.2.2.1), (i64 x8.2.2.2.1), (i64 x8.2.2.2.2)]] ∧ T.get 3 = some (i64 x8.1) ∧ T.get 4 = some (.ptr (some (b4, 0))) ∧ T.get 9 = some (.slice pa0 (a0).length ca0) ∧ T.get 10 = some (i64 ((a0).length : Int)) ∧ T.get 11 = some (i64 x8.2.1)) (fun y e a σ => e = .exit 0 ∧ a.nt = 26 ∧ ∃ (F26 : PH), a.defers = [] ∧ PH.le F0 F26 ∧ St n0 h0 F0 F26 σ.h σ.nx [.bx b4 [(i64 y.2.1), (i64 y.2.2.1), (i64 y.2.2.2)]] ∧ a.tmps.get 3 = some (i64 y.1)) (fun x8 T ds9 h nx s hp hF => ?_) N _ y25 _ _ _ _ hy ⟨F0, rfl, (PH.le.refl _), st, gA, gA, gA, gA, gA⟩ (fun e a σ hne hq => ?_)
  · obtain ⟨F9, rfl, le9, st, t3, t4, t9, t10, t11⟩ := hp; unfold sf71_L1 at hF; unfold L71w0; refine w_seq ?_; refine w_reg ?_; refine v_lss ?_; refine r_nil ?_; refine th_n ?_; refine w_seq ?_; refine v_cond (fun hb27 => ?_) (fun hb27 => ?_)
    · have hF := bif_t hb27 hF; refine w_skip ?_; refine th_n ?_; refine w_seq ?_; refine w_block ?_; refine w_seq ?_; refine w_reg ?_; obtain ⟨n28, x28, z28, l28, g28, hF⟩ := ix_some hF; obtain ⟨b28, o28, s28, j28, r28, e28, f28, k28, rfl⟩ := RowF.get ra0 g28; refine v_ixp e28 z28 l28 ?_; refine v_ld1 (st.sub _ _ (le9 _ _ f28)) (take_at (j := 0) k28 rfl) ?_; refine v_move ?_; refine r_nil ?_; refine th_n ?_; refine w_seq ?_; refine w_reg ?_; refine v_ldn (vs := [(i64 x8.2.2.1), (i64 x8.2.2.2.1), (i64 x8.2.2.2.2)]) (st.at (i := 0) rfl).2.2 rfl ?_; refine v_move ?_; obtain ⟨v29, e30, hF⟩ := bnd_some hF; refine v_call st (ct93 N e30 st.d st.sub ) (fun n31 st => ?_); refine v_alloc st (fun b32 h33 n34 st => ?_)
      refine v_st (cs' := [(i64 v29.1), (i64 v29.2.1), (i64 v29.2.2)]) st 1 rfl rfl rfl rfl hfl (fun h35 st => ?_); refine r_nil ?_; refine th_n ?_; refine w_seq ?_; refine w_reg ?_; refine v_move ?_; refine v_ldn (vs := [(i64 x8.2.2.1), (i64 x8.2.2.2.1), (i64 x8.2.2.2.2)]) (st.at (i := 0) rfl).2.2 rfl ?_; refine v_ldn (vs := [(i64 v29.1), (i64 v29.2.1), (i64 v29.2.2)]) (st.at (i := 1) rfl).2.2 rfl ?_; obtain ⟨v36, e37, hF⟩ := bnd_some hF; refine v_call st (ct94 N e37 st.d st.sub ) (fun n38 st => ?_); obtain ⟨q39, hF⟩ := ck_some hF; refine v_add q39 ?_; refine v_move ?_; refine r_nil ?_; refine th_n ?_; refine w_reg ?_; refine v_ldn (vs := [(i64 v29.1), (i64 v29.2.1), (i64 v29.2.2)]) (st.at (i := 1) rfl).2.2 rfl ?_
      refine v_st (cs' := [(i64 v29.1), (i64 v29.2.1), (i64 v29.2.2)]) st 0 rfl rfl rfl rfl hfl (fun h40 st => ?_); refine r_nil ?_; refine ib_n ?_; refine th_n ?_; refine w_reg ?_; obtain ⟨q41, hF⟩ := ck_some hF; refine v_add q41 ?_; refine v_move ?_; refine r_nil ?_; refine thn ⟨_, (inj hF).symm, rfl, ?_⟩; dsimp only
      exact ⟨F9, rfl, le9, (st.drop (by first | exact List.Sublist.refl _ | (repeat first | exact List.nil_sublist _ | refine List.Sublist.cons_cons _ ?_ | refine List.Sublist.cons _ ?_))), gA, gA, gA, gA, gA⟩
    · have hF := bif_f hb27 hF; refine w_exit ?_; refine th_e ?_; refine th_e ?_; refine ⟨_, (inj hF).symm, rfl, rfl, ?_⟩; dsimp only
      exact ⟨F9, rfl, le9, st, gA⟩
  · obtain ⟨N9, T, ds26⟩ := a; obtain ⟨h42, n43⟩ := σ; obtain ⟨rfl, e1, F26, e2, le26, st, t3⟩ := hq
    dsimp only at e1 e2
    subst e1
    subst e2
    dsimp only at st t3
    refine ib_e ?_; refine th_n ?_; refine w_seq ?_; refine w_reg ?_; refine v_move ?_; refine v_move ?_; refine r_nil ?_; refine th_n ?_; refine w_ret ?_; obtain rfl := inj hF
    exact end_s st (Res.t gA Res.nil) rfl rfl
end Go.Hx.V

/- Functions of the program come to that. -/
namespace Go.Hx.V
open Go.Hx
set_option linter.unusedVariables false
set_option maxRecDepth 20000
set_option maxHeartbeats 4000000
attribute [local irreducible] W R C thenH inBlockH Tr.get Tr.set lo
theorem ct77 (N : Nat) {a0_0 : Int} {a0_1 : (List (Int × Int))} {a0_2 : (List (Int × Int × Int))} {a0_3 : Int} {r : Bool} (hF : sf77 N a0_0 a0_1 a0_2 a0_3 = some r) {fl : Nat} {h0 : Tr HBlk} {n0 : Nat} {F0 : PH} (hd : D h0 n0) (hs : F0.sub h0) {pa0_1 : Option (Nat × Nat)} {ca0_1 : Nat} {pa0_2 : Option (Nat × Nat)} {ca0_2 : Nat} (ra0_1 : RowF (rP rI rI) 2 F0 pa0_1 ca0_1 a0_1) (ra0_2 : RowF (rP rI (rP rI rI)) 3 F0 pa0_2 ca0_2 a0_2) : C LW fl 77 [(.agg [(i64 a0_0), (.slice pa0_1 (a0_1).length ca0_1), (.slice pa0_2 (a0_2).length ca0_2), (i64 a0_3)])] ⟨h0, n0⟩ (KS (.bool r) n0 h0) := by
  unfold sf77 at hF
  refine in_cT hd hs lw77 rfl rfl (by rfl) (fun st T hT => ?_)
  have hfl : n0 ≤ n0 := Nat.le_refl n0
  have t0 := hT 0 _ rfl
  dsimp only [L77]
  refine w_seq ?_; refine w_reg ?_; refine v_box st (fun b1 h2 n3 st => ?_); refine v_move ?_; refine r_nil ?_; refine th_n ?_; refine w_seq ?_; refine w_reg ?_; refine v_fa ?_; refine v_ld1 (st.at (i := 0) rfl).2.2 rfl ?_; refine v_len ?_; refine v_gtr ?_; refine v_move ?_
  rcases Bool.eq_false_or_eq_true (decide ((0 : Int) < ((a0_2).length : Int))) with hb4 | hb4
  · have hF := bif_t hb4 hF; refine g_take hb4 (v_fa ?_); refine g_take hb4 (v_ld1 (st.at (i := 0) rfl).2.2 rfl ?_); obtain ⟨n5, x5, z5, l5, g5, hF⟩ := ix_some hF; obtain ⟨b5, o5, s5, j5, r5, e5, f5, k5, ⟨_, _, rfl, rfl, ⟨_, _, rfl, rfl, rfl⟩⟩⟩ := RowF.get ra0_2 g5; refine g_take hb4 (v_ixp e5 z5 l5 ?_); refine g_take hb4 (v_fa ?_); refine g_take hb4 (v_ld1 (st.sub _ _ f5) (take_at (j := 0) k5 rfl) ?_); refine g_take hb4 (v_eqi ?_); refine v_pick hb4 ?_; refine v_move ?_
    rcases Bool.eq_false_or_eq_true (decide (x5.1 = (0 : Int))) with hb6 | hb6
    · have hF := bif_t hb6 hF; refine g_take hb6 (v_fa ?_); refine g_take hb6 (v_ld1 (st.at (i := 0) rfl).2.2 rfl ?_); obtain ⟨v7, e8, hF⟩ := bnd_some hF; refine g_take hb6 (v_call st (ct99 N e8 st.d st.sub ra0_2) (fun n9 st => ?_)); refine v_pick hb6 ?_; refine v_move ?_
      rcases Bool.eq_false_or_eq_true v7 with hb10 | hb10
      · have hF := bif_t hb10 hF; refine g_take hb10 (v_fa ?_); refine g_take hb10 (v_ld1 (st.at (i := 0) rfl).2.2 rfl ?_); obtain ⟨v11, e12, hF⟩ := bnd_some hF; refine g_take hb10 (v_call st (ct101 N e12 st.d st.sub ra0_2) (fun n13 st => ?_)); refine v_pick hb10 ?_; refine v_move ?_; refine r_nil ?_; refine th_n ?_; refine w_ret ?_; obtain rfl := inj hF
        exact end_s st (Res.t gA Res.nil) rfl rfl
      · have hF := bif_f hb10 hF; refine g_skip hb10 ?_; refine g_skip hb10 ?_; refine g_skip hb10 ?_; refine v_pick' hb10 ?_; refine v_move ?_; refine r_nil ?_; refine th_n ?_; refine w_ret ?_; obtain rfl := inj hF
        exact end_s st (Res.t gA Res.nil) rfl rfl
    · have hF := bif_f hb6 hF; refine g_skip hb6 ?_; refine g_skip hb6 ?_; refine g_skip hb6 ?_; refine v_pick' hb6 ?_; refine v_move ?_; refine g_skip rfl ?_; refine g_skip rfl ?_; refine g_skip rfl ?_; refine v_pick' rfl ?_; refine v_move ?_; refine r_nil ?_; refine th_n ?_; refine w_ret ?_; obtain rfl := inj hF
      exact end_s st (Res.t gA Res.nil) rfl rfl
  · have hF := bif_f hb4 hF; refine g_skip hb4 ?_; refine g_skip hb4 ?_; refine g_skip hb4 ?_; refine g_skip hb4 ?_; refine g_skip hb4 ?_; refine g_skip hb4 ?_; refine v_pick' hb4 ?_; refine v_move ?_; refine g_skip rfl ?_; refine g_skip rfl ?_; refine g_skip rfl ?_; refine v_pick' rfl ?_; refine v_move ?_; refine g_skip rfl ?_; refine g_skip rfl ?_; refine g_skip rfl ?_; refine v_pick' rfl ?_; refine v_move ?_; refine r_nil ?_; refine th_n ?_; refine w_ret ?_; obtain rfl := inj hF
    exact end_s st (Res.t gA Res.nil) rfl rfl
theorem ct23 (N : Nat) {a0_0 : Int} {a0_1 : (List (Int × Int))} {a0_2 : (List (Int × Int × Int))} {a0_3 : Int} {r : Int} (hF : sf23 N a0_0 a0_1 a0_2 a0_3 = some r) {fl : Nat} {h0 : Tr HBlk} {n0 : Nat} {F0 : PH} (hd : D h0 n0) (hs : F0.sub h0) {pa0_1 : Option (Nat × Nat)} {ca0_1 : Nat} {pa0_2 : Option (Nat × Nat)} {ca0_2 : Nat} (ra0_1 : RowF (rP rI rI) 2 F0 pa0_1 ca0_1 a0_1) (ra0_2 : RowF (rP rI (rP rI rI)) 3 F0 pa0_2 ca0_2 a0_2) : C LW fl 23 [(.agg [(i64 a0_0), (.slice pa0_1 (a0_1).length ca0_1), (.slice pa0_2 (a0_2).length ca0_2), (i64 a0_3)])] ⟨h0, n0⟩ (KS (i64 r) n0 h0) := by
  unfold sf23 at hF
  refine in_cT hd hs lw23 rfl rfl (by rfl) (fun st T hT => ?_)
  have hfl : n0 ≤ n0 := Nat.le_refl n0
  have t0 := hT 0 _ rfl
  dsimp only [L23]
  refine w_seq ?_; refine w_reg ?_; refine v_box st (fun b1 h2 n3 st => ?_); refine v_move ?_; refine r_nil ?_; refine th_n ?_; refine w_seq ?_; refine w_reg ?_; refine v_ldn (vs := [(i64 a0_0), (.slice pa0_1 (a0_1).length ca0_1), (.slice pa0_2 (a0_2).length ca0_2), (i64 a0_3)]) (st.at (i := 0) rfl).2.2 rfl ?_; obtain ⟨v4, e5, hF⟩ := bnd_some hF; refine v_call st (ct56 N e5 st.d st.sub ra0_1 ra0_2) (fun n6 st => ?_); refine v_move ?_; refine r_nil ?_; refine th_n ?_; refine w_ret ?_; obtain rfl := inj hF
  exact end_s st (Res.t gA Res.nil) rfl rfl
theorem ct62 (N : Nat) {a0_0 : Int} {a0_1 : (List (Int × Int))} {a0_2 : (List (Int × Int × Int))} {a0_3 : Int} {a1 : Int} {r : (Int × (List (Int × Int)) × (List (Int × Int × Int)) × Int × (List Int) × (List Int) × Int)} (hF : sf62 N a0_0 a0_1 a0_2 a0_3 a1 = some r) {fl : Nat} {h0 : Tr HBlk} {n0 : Nat} {F0 : PH} (hd : D h0 n0) (hs : F0.sub h0) (hfl : fl ≤ n0) {pa0_1 : Option (Nat × Nat)} {ca0_1 : Nat} {pa0_2 : Option (Nat × Nat)} {ca0_2 : Nat} (ra0_1 : RowF (rP rI rI) 2 F0 pa0_1 ca0_1 a0_1) (ra0_2 : RowF (rP rI (rP rI rI)) 3 F0 pa0_2 ca0_2 a0_2) : C LW fl 62 [(.agg [(i64 a0_0), (.slice pa0_1 (a0_1).length ca0_1), (.slice pa0_2 (a0_2).length ca0_2), (i64 a0_3)]), (i64 a1)] ⟨h0, n0⟩ (KR (rvA (rP rI (rP (rL (rP rI rI) 2) (rP (rL (rP rI (rP rI rI)) 3) (rP rI (rP (rL rI 1) (rP (rL rI 1) rI))))))) F0 h0 n0 r) := by
  unfold sf62 at hF
  refine in_mT hd hs hfl lw62 rfl rfl (by rfl) (fun st T hT => ?_)
  have t0 := hT 0 _ rfl
  have t1 := hT 1 _ rfl
  dsimp only [L62]
  refine w_seq ?_; refine w_reg ?_; refine v_box st (fun b1 h2 n3 st => ?_); refine v_alloc st (fun b4 h5 n6 st => ?_); refine r_nil ?_; refine th_n ?_; refine w_seq ?_; refine w_reg ?_; refine v_ldn (vs := [(i64 a0_0), (.slice pa0_1 (a0_1).length ca0_1), (.slice pa0_2 (a0_2).length ca0_2), (i64 a0_3)]) (st.at (i := 0) rfl).2.2 rfl ?_; obtain ⟨v7, e8, hF⟩ := bnd_some hF; refine v_callR st (ct54 N e8 st.d st.sub (Nat.le_trans hfl st.ext.le) ra0_1 ra0_2) (fun u9 F9 h9 n9 le9 rv9 st => ?_); obtain ⟨_, rfl, ⟨_, _, rfl, rfl, ⟨_, _, rfl, ⟨py10, cy10, rfl, ry10⟩, ⟨_, _, rfl, ⟨py11, cy11, rfl, ry11⟩, ⟨_, _, rfl, rfl, ⟨_, _, rfl, ⟨py12, cy12, rfl, ry12⟩, ⟨py13, cy13, rfl, ry13⟩⟩⟩⟩⟩⟩⟩ := rv9; refine v_move ?_
  refine v_build (cs := [(i64 v7.1), (.slice py10 (v7.2.1).length cy10), (.slice py11 (v7.2.2.1).length cy11), (i64 v7.2.2.2.1), (.slice py12 (v7.2.2.2.2.1).length cy12), (.slice py13 (v7.2.2.2.2.2).length cy13), (i64 a1)]) rfl ?_; refine v_st (cs' := [(i64 v7.1), (.slice py10 (v7.2.1).length cy10), (.slice py11 (v7.2.2.1).length cy11), (i64 v7.2.2.2.1), (.slice py12 (v7.2.2.2.2.1).length cy12), (.slice py13 (v7.2.2.2.2.2).length cy13), (i64 a1)]) st 1 rfl rfl rfl rfl hfl (fun h14 st => ?_); refine r_nil ?_; refine th_n ?_; refine w_ret ?_; obtain rfl := inj hF
  exact end_r st (Res.c gA (st.at (i := 1) rfl).2.2 (show takeN _ _ = some [(i64 v7.1), (.slice py10 (v7.2.1).length cy10), (.slice py11 (v7.2.2.1).length cy11), (i64 v7.2.2.2.1), (.slice py12 (v7.2.2.2.2.1).length cy12), (.slice py13 (v7.2.2.2.2.2).length cy13), (i64 a1)] from rfl) Res.nil) ⟨_, rfl, ⟨[(i64 v7.1)], [(.slice py10 (v7.2.1).length cy10), (.slice py11 (v7.2.2.1).length cy11), (i64 v7.2.2.2.1), (.slice py12 (v7.2.2.2.2.1).length cy12), (.slice py13 (v7.2.2.2.2.2).length cy13), (i64 a1)], rfl, rfl, ⟨[(.slice py10 (v7.2.1).length cy10)], [(.slice py11 (v7.2.2.1).length cy11), (i64 v7.2.2.2.1), (.slice py12 (v7.2.2.2.2.1).length cy12), (.slice py13 (v7.2.2.2.2.2).length cy13), (i64 a1)], rfl, ⟨_, _, rfl, ry10⟩, ⟨[(.slice py11 (v7.2.2.1).length cy11)], [(i64 v7.2.2.2.1), (.slice py12 (v7.2.2.2.2.1).length cy12), (.slice py13 (v7.2.2.2.2.2).length cy13), (i64 a1)], rfl, ⟨_, _, rfl, ry11⟩, ⟨[(i64 v7.2.2.2.1)], [(.slice py12 (v7.2.2.2.2.1).length cy12), (.slice py13 (v7.2.2.2.2.2).length cy13), (i64 a1)], rfl, rfl, ⟨[(.slice py12 (v7.2.2.2.2.1).length cy12)], [(.slice py13 (v7.2.2.2.2.2).length cy13), (i64 a1)], rfl, ⟨_, _, rfl, ry12⟩, ⟨[(.slice py13 (v7.2.2.2.2.2).length cy13)], [(i64 a1)], rfl, ⟨_, _, rfl, ry13⟩, rfl⟩⟩⟩⟩⟩⟩⟩
end Go.Hx.V

/- Functions of the program come to that. -/
namespace Go.Hx.V
open Go.Hx
set_option linter.unusedVariables false
set_option maxRecDepth 20000
set_option maxHeartbeats 4000000
attribute [local irreducible] W R C thenH inBlockH Tr.get Tr.set lo
theorem ct91 (N : Nat) {a0_0 : Int} {a0_1 : (List (Int × Int))} {a0_2 : (List (Int × Int × Int))} {a0_3 : Int} {a0_4 : (List Int)} {a0_5 : (List Int)} {a0_6 : Int} {a1 : (List Int)} {r : Bool} (hF : sf91 N a0_0 a0_1 a0_2 a0_3 a0_4 a0_5 a0_6 a1 = some r) {fl : Nat} {h0 : Tr HBlk} {n0 : Nat} {F0 : PH} (hd : D h0 n0) (hs : F0.sub h0) {pa0_1 : Option (Nat × Nat)} {ca0_1 : Nat} {pa0_2 : Option (Nat × Nat)} {ca0_2 : Nat} {pa0_4 : Option (Nat × Nat)} {ca0_4 : Nat} {pa0_5 : Option (Nat × Nat)} {ca0_5 : Nat} {pa1 : Option (Nat × Nat)} {ca1 : Nat} (ra0_1 : RowF (rP rI rI) 2 F0 pa0_1 ca0_1 a0_1) (ra0_2 : RowF (rP rI (rP rI rI)) 3 F0 pa0_2 ca0_2 a0_2) (ra0_4 : RowF rI 1 F0 pa0_4 ca0_4 a0_4) (ra0_5 : RowF rI 1 F0 pa0_5 ca0_5 a0_5) (ra1 : RowF rI 1 F0 pa1 ca1 a1) : C LW fl 91 [(.agg [(i64 a0_0), (.slice pa0_1 (a0_1).length ca0_1), (.slice pa0_2 (a0_2).length ca0_2), (i64 a0_3), (.slice pa0_4 (a0_4).length ca0_4), (.slice pa0_5 (a0_5).length ca0_5), (i64 a0_6)]), (.slice pa1 (a1).length ca1)] ⟨h0, n0⟩ (KS (.bool r) n0 h0) := by
  unfold sf91 at hF
  refine in_cT hd hs lw91 rfl rfl (by rfl) (fun st T hT => ?_)
  have hfl : n0 ≤ n0 := Nat.le_refl n0
  have t0 := hT 0 _ rfl
  have t1 := hT 1 _ rfl
  dsimp only [L91]
  refine w_seq ?_; refine w_reg ?_; refine v_box st (fun b1 h2 n3 st => ?_); refine v_move ?_; refine r_nil ?_; refine th_n ?_; refine w_scope ?_; refine w_seq ?_; refine w_reg ?_; refine v_move ?_; refine r_nil ?_; refine th_n ?_; refine w_seq ?_; refine w_skip ?_; refine th_n ?_; refine w_seq ?_; refine w_seq ?_; refine w_reg ?_; refine v_move ?_; refine v_len ?_; refine v_move ?_; refine r_nil ?_; refine th_n ?_; refine w_block ?_; obtain ⟨y35, hy, hF⟩ := bnd_some hF; refine v_loopD (sf91_L2 N a0_0 a0_1 a0_2 a0_3 a0_4 a0_5 a0_6 a1) (fun x4 T ds5 h nx => ∃ (F5 : PH), ds5 = [] ∧ PH.le F0 F5 ∧ St n0 h0 F0 F5 h nx [.bx b1 [(i64 a0_0), (.slice pa0_1 (a0_1).length ca0_1), (.slice pa0_2 (a0_2).length ca0_2), (i64 a0_3), (.slice pa0_4 (a0_4).length ca0_4), (.slice pa0_5 (a0_5).length ca0_5), (i64 a0_6)]] ∧ T.get 2 = some (.ptr (some (b1, 0))) ∧ T.get 5 = some (i64 x4.1) ∧ T.get 8 = some (.slice pa1 (a1).length ca1) ∧ T.get 9 = some (i64 ((a1).length : Int)) ∧ T.get 10 = some (i64 x4.2)) (fun y e a σ => (∃ u, y = (.inl u) ∧ e = .ret ∧ a.nt = 28 ∧ ∃ (F37 : PH), a.defers = [] ∧ PH.le F0 F37 ∧ St n0 h0 F0 F37 σ.h σ.nx [.bx b1 [(i64 a0_0), (.slice pa0_1 (a0_1).length ca0_1), (.slice pa0_2 (a0_2).length ca0_2), (i64 a0_3), (.slice pa0_4 (a0_4).length ca0_4), (.slice pa0_5 (a0_5).length ca0_5), (i64 a0_6)]] ∧ a.tmps.get 4 = some (.bool false)) ∨ (∃ u, y = (.inr u) ∧ e = .exit 0 ∧ a.nt = 28 ∧ ∃ (F39 : PH), a.defers = [] ∧ PH.le F0 F39 ∧ St n0 h0 F0 F39 σ.h σ.nx [.bx b1 [(i64 a0_0), (.slice pa0_1 (a0_1).length ca0_1), (.slice pa0_2 (a0_2).length ca0_2), (i64 a0_3), (.slice pa0_4 (a0_4).length ca0_4), (.slice pa0_5 (a0_5).length ca0_5), (i64 a0_6)]])) (fun x4 T ds5 h nx s hp hF => ?_) N _ y35 _ _ _ _ hy ⟨F0, rfl, (PH.le.refl _), st, gA, gA, gA, gA, gA⟩ (fun e a σ hne hq => ?_)
  · obtain ⟨F5, rfl, le5, st, t2, t5, t8, t9, t10⟩ := hp; unfold sf91_L2 at hF; unfold L91w1; refine w_seq ?_; refine w_reg ?_; refine v_lss ?_; refine r_nil ?_; refine th_n ?_; refine w_seq ?_; refine v_cond (fun hb40 => ?_) (fun hb40 => ?_)
    · have hF := bif_t hb40 hF; refine w_skip ?_; refine th_n ?_; refine w_seq ?_; refine w_block ?_; refine w_seq ?_; refine w_reg ?_; obtain ⟨n41, x41, z41, l41, g41, hF⟩ := ix_some hF; obtain ⟨b41, o41, s41, j41, r41, e41, f41, k41, rfl⟩ := RowF.get ra1 g41; refine v_ixp e41 z41 l41 ?_; refine v_ld1 (st.sub _ _ (le5 _ _ f41)) (take_at (j := 0) k41 rfl) ?_; refine v_move ?_; refine r_nil ?_; refine th_n ?_; refine w_seq ?_; refine w_block ?_; obtain ⟨y51, hy, hF⟩ := bnd_some hF; refine v_loopD (sf91_L1 N a0_0 a0_1 a0_2 a0_3 a0_4 a0_5 a0_6 x41) (fun x42 T ds43 h nx => ∃ (F43 : PH), ds43 = [] ∧ PH.le F5 F43 ∧ St n0 h0 F0 F43 h nx [.bx b1 [(i64 a0_0), (.slice pa0_1 (a0_1).length ca0_1), (.slice pa0_2 (a0_2).length ca0_2), (i64 a0_3), (.slice pa0_4 (a0_4).length ca0_4), (.slice pa0_5 (a0_5).length ca0_5), (i64 a0_6)]] ∧ T.get 2 = some (.ptr (some (b1, 0))) ∧ T.get 5 = some (i64 x42) ∧ T.get 7 = some (i64 x41) ∧ T.get 8 = some (.slice pa1 (a1).length ca1) ∧ T.get 9 = some (i64 ((a1).length : Int)) ∧ T.get 10 = some (i64 x4.2)) (fun y e a σ => (∃ u, y = (.inl u) ∧ e = .exit 1 ∧ a.nt = 28 ∧ ∃ (F53 : PH), a.defers = [] ∧ PH.le F5 F53 ∧ St n0 h0 F0 F53 σ.h σ.nx [.bx b1 [(i64 a0_0), (.slice pa0_1 (a0_1).length ca0_1), (.slice pa0_2 (a0_2).length ca0_2), (i64 a0_3), (.slice pa0_4 (a0_4).length ca0_4), (.slice pa0_5 (a0_5).length ca0_5), (i64 a0_6)]] ∧ a.tmps.get 2 = some (.ptr (some (b1, 0))) ∧ a.tmps.get 5 = some (i64 u) ∧ a.tmps.get 8 = some (.slice pa1 (a1).length ca1) ∧ a.tmps.get 9 = some (i64 ((a1).length : Int)) ∧ a.tmps.get 10 = some (i64 x4.2)) ∨ (∃ u, y = (.inr u) ∧ e = .exit 2 ∧ a.nt = 28 ∧ ∃ (F55 : PH), a.defers = [] ∧ PH.le F5 F55 ∧ St n0 h0 F0 F55 σ.h σ.nx [.bx b1 [(i64 a0_0), (.slice pa0_1 (a0_1).length ca0_1), (.slice pa0_2 (a0_2).length ca0_2), (i64 a0_3), (.slice pa0_4 (a0_4).length ca0_4), (.slice pa0_5 (a0_5).length ca0_5), (i64 a0_6)]])) (fun x42 T ds43 h nx s hp hF => ?_) N _ y51 _ _ _ _ hy ⟨F5, rfl, (PH.le.refl _), st, gA, gA, gA, gA, gA, gA⟩ (fun e a σ hne hq => ?_)
      · obtain ⟨F43, rfl, le43, st, t2, t5, t7, t8, t9, t10⟩ := hp
        have le44 := PH.le.trans le5 le43
        unfold sf91_L1 at hF; unfold L91w0; refine w_seq ?_; refine w_seq ?_; refine w_reg ?_; refine v_move ?_; refine v_fa ?_; refine v_fa ?_; refine v_fa ?_; refine v_ld1 (st.at (i := 0) rfl).2.2 rfl ?_; refine v_lss ?_; refine r_nil ?_; refine th_n ?_; refine v_cond (fun hb56 => ?_) (fun hb56 => ?_)
        · have hF := bif_t hb56 hF; refine w_skip ?_; refine th_n ?_; refine w_block ?_; refine w_seq ?_; refine w_reg ?_; refine v_move ?_; obtain ⟨q57, hF⟩ := ck_some hF; refine v_add q57 ?_; refine v_move ?_; refine r_nil ?_; refine th_n ?_; refine w_seq ?_; refine w_reg ?_; refine v_ldn (vs := [(i64 a0_0), (.slice pa0_1 (a0_1).length ca0_1), (.slice pa0_2 (a0_2).length ca0_2), (i64 a0_3), (.slice pa0_4 (a0_4).length ca0_4), (.slice pa0_5 (a0_5).length ca0_5), (i64 a0_6)]) (st.at (i := 0) rfl).2.2 rfl ?_; refine v_move ?_; refine v_move ?_; refine v_build (cs := [(i64 x41), (i64 (x42 + (1 : Int)))]) rfl ?_; obtain ⟨v58, e59, hF⟩ := bnd_some hF; refine v_call st (ct73 N e59 st.d st.sub (RowF.mono le44 ra0_1) (RowF.mono le44 ra0_2) (RowF.mono le44 ra0_4) (RowF.mono le44 ra0_5)) (fun n60 st => ?_)
          refine r_nil ?_; refine th_n ?_; refine v_cond (fun hb61 => ?_) (fun hb61 => ?_)
          · have hF := bif_t hb61 hF; refine w_exit ?_
            refine ib_x (by decide) ?_
            refine th_e ?_; refine ⟨_, (inj hF).symm, .inl ⟨_, rfl, rfl, rfl, ?_⟩⟩; dsimp only
            exact ⟨F43, rfl, le43, st, gA, gA, gA, gA, gA⟩
          · have hF := bif_f hb61 hF; refine w_skip ?_; refine ib_n ?_; refine thn ⟨_, (inj hF).symm, rfl, ?_⟩; dsimp only
            exact ⟨F43, rfl, le43, st, gA, gA, gA, gA, gA, gA⟩
        · have hF := bif_f hb56 hF; refine w_exit ?_; refine th_e ?_; refine th_e ?_; refine ⟨_, (inj hF).symm, .inr (⟨_, rfl, rfl, rfl, ?_⟩)⟩; dsimp only
          exact ⟨F43, rfl, le43, st⟩
      · rcases hq with hq | hq
        · obtain ⟨N9, T, ds53⟩ := a; obtain ⟨h63, n64⟩ := σ; obtain ⟨w52, rfl, rfl, e1, F53, e2, le53, st, t2, t5, t8, t9, t10⟩ := hq
          dsimp only at e1 e2
          subst e1
          subst e2
          dsimp only at st t2 t5 t8 t9 t10
          have le62 := PH.le.trans le5 le53
          have hF := sel_l hF
          refine ib_x (by decide) ?_
          refine th_e ?_; refine ib_e ?_; refine th_n ?_; refine w_reg ?_; obtain ⟨q65, hF⟩ := ck_some hF; refine v_add q65 ?_; refine v_move ?_; refine r_nil ?_; refine thn ⟨_, (inj hF).symm, rfl, ?_⟩; dsimp only
          exact ⟨F53, rfl, le62, st, gA, gA, gA, gA, gA⟩
        · obtain ⟨N9, T, ds55⟩ := a; obtain ⟨h67, n68⟩ := σ; obtain ⟨w54, rfl, rfl, e1, F55, e2, le55, st⟩ := hq
          dsimp only at e1 e2
          subst e1
          subst e2
          dsimp only at st
          have le66 := PH.le.trans le5 le55
          have hF := sel_r hF; refine ib_e ?_; refine th_n ?_; refine w_seq ?_; refine w_reg ?_; refine v_move ?_; refine r_nil ?_; refine th_n ?_; refine w_ret ?_; refine ib_r ?_; refine th_r ?_; refine th_r ?_; refine ⟨_, (inj hF).symm, .inl ⟨_, rfl, rfl, rfl, ?_⟩⟩; dsimp only
          exact ⟨F55, rfl, le66, st, gA⟩
    · have hF := bif_f hb40 hF; refine w_exit ?_; refine th_e ?_; refine th_e ?_; refine ⟨_, (inj hF).symm, .inr (⟨_, rfl, rfl, rfl, ?_⟩)⟩; dsimp only
      exact ⟨F5, rfl, le5, st⟩
  · rcases hq with hq | hq
    · obtain ⟨N9, T, ds37⟩ := a; obtain ⟨h69, n70⟩ := σ; obtain ⟨w36, rfl, rfl, e1, F37, e2, le37, st, t4⟩ := hq
      dsimp only at e1 e2
      subst e1
      subst e2
      dsimp only at st t4
      have hF := sel_l hF; refine ib_r ?_; refine th_r ?_; obtain rfl := inj hF
      exact end_s st (Res.t gA Res.nil) rfl rfl
    · obtain ⟨N9, T, ds39⟩ := a; obtain ⟨h71, n72⟩ := σ; obtain ⟨w38, rfl, rfl, e1, F39, e2, le39, st⟩ := hq
      dsimp only at e1 e2
      subst e1
      subst e2
      dsimp only at st
      have hF := sel_r hF; refine ib_e ?_; refine th_n ?_; refine w_seq ?_; refine w_reg ?_; refine v_move ?_; refine r_nil ?_; refine th_n ?_; refine w_ret ?_; obtain rfl := inj hF
      exact end_s st (Res.t gA Res.nil) rfl rfl
theorem ct72 (N : Nat) {a0 : (List (Int × Int))} {a1f0_0 : Int} {a1f0_1 : (List (Int × Int))} {a1f0_2 : (List (Int × Int × Int))} {a1f0_3 : Int} {a1f0_4 : (List Int)} {a1f0_5 : (List Int)} {a1f0_6 : Int} {r : Bool} (hF : sf72 N a0 a1f0_0 a1f0_1 a1f0_2 a1f0_3 a1f0_4 a1f0_5 a1f0_6 = some r) {fl : Nat} {h0 : Tr HBlk} {n0 : Nat} {F0 : PH} (hd : D h0 n0) (hs : F0.sub h0) {pa0 : Option (Nat × Nat)} {ca0 : Nat} {pa1f0_1 : Option (Nat × Nat)} {ca1f0_1 : Nat} {pa1f0_2 : Option (Nat × Nat)} {ca1f0_2 : Nat} {pa1f0_4 : Option (Nat × Nat)} {ca1f0_4 : Nat} {pa1f0_5 : Option (Nat × Nat)} {ca1f0_5 : Nat} (ra0 : RowF (rP rI rI) 2 F0 pa0 ca0 a0) (ra1f0_1 : RowF (rP rI rI) 2 F0 pa1f0_1 ca1f0_1 a1f0_1) (ra1f0_2 : RowF (rP rI (rP rI rI)) 3 F0 pa1f0_2 ca1f0_2 a1f0_2) (ra1f0_4 : RowF rI 1 F0 pa1f0_4 ca1f0_4 a1f0_4) (ra1f0_5 : RowF rI 1 F0 pa1f0_5 ca1f0_5 a1f0_5) : C LW fl 72 [(.slice pa0 (a0).length ca0), (.func 73 [(.agg [(i64 a1f0_0), (.slice pa1f0_1 (a1f0_1).length ca1f0_1), (.slice pa1f0_2 (a1f0_2).length ca1f0_2), (i64 a1f0_3), (.slice pa1f0_4 (a1f0_4).length ca1f0_4), (.slice pa1f0_5 (a1f0_5).length ca1f0_5), (i64 a1f0_6)])] [])] ⟨h0, n0⟩ (KS (.bool r) n0 h0) := by
  unfold sf72 at hF
  refine in_cT hd hs lw72 rfl rfl (by rfl) (fun st T hT => ?_)
  have hfl : n0 ≤ n0 := Nat.le_refl n0
  have t0 := hT 0 _ rfl
  have t1 := hT 1 _ rfl
  dsimp only [L72]
  refine w_seq ?_; refine w_reg ?_; refine v_move ?_; refine r_nil ?_; refine th_n ?_; refine w_seq ?_; refine w_seq ?_; refine w_reg ?_; refine v_move ?_; refine v_len ?_; refine v_move ?_; refine r_nil ?_; refine th_n ?_; refine w_block ?_; obtain ⟨y14, hy, hF⟩ := bnd_some hF; refine v_loopD (sf72_L1 N a0 a1f0_0 a1f0_1 a1f0_2 a1f0_3 a1f0_4 a1f0_5 a1f0_6) (fun x1 T ds2 h nx => ∃ (F2 : PH), ds2 = [] ∧ PH.le F0 F2 ∧ St n0 h0 F0 F2 h nx [] ∧ T.get 1 = some (.func 73 [(.agg [(i64 a1f0_0), (.slice pa1f0_1 (a1f0_1).length ca1f0_1), (.slice pa1f0_2 (a1f0_2).length ca1f0_2), (i64 a1f0_3), (.slice pa1f0_4 (a1f0_4).length ca1f0_4), (.slice pa1f0_5 (a1f0_5).length ca1f0_5), (i64 a1f0_6)])] []) ∧ T.get 7 = some (.slice pa0 (a0).length ca0) ∧ T.get 8 = some (i64 ((a0).length : Int)) ∧ T.get 9 = some (i64 x1)) (fun y e a σ => (∃ u, y = (.inl u) ∧ e = .ret ∧ a.nt = 18 ∧ ∃ (F16 : PH), a.defers = [] ∧ PH.le F0 F16 ∧ St n0 h0 F0 F16 σ.h σ.nx [] ∧ a.tmps.get 4 = some (.bool false)) ∨ (∃ u, y = (.inr u) ∧ e = .exit 0 ∧ a.nt = 18 ∧ ∃ (F18 : PH), a.defers = [] ∧ PH.le F0 F18 ∧ St n0 h0 F0 F18 σ.h σ.nx [])) (fun x1 T ds2 h nx s hp hF => ?_) N _ y14 _ _ _ _ hy ⟨F0, rfl, (PH.le.refl _), st, gA, gA, gA, gA⟩ (fun e a σ hne hq => ?_)
  · obtain ⟨F2, rfl, le2, st, t1, t7, t8, t9⟩ := hp; unfold sf72_L1 at hF; unfold L72w0; refine w_seq ?_; refine w_reg ?_; refine v_lss ?_; refine r_nil ?_; refine th_n ?_; refine w_seq ?_; refine v_cond (fun hb19 => ?_) (fun hb19 => ?_)
    · have hF := bif_t hb19 hF; refine w_skip ?_; refine th_n ?_; refine w_seq ?_; refine w_block ?_; refine w_seq ?_; refine w_reg ?_; obtain ⟨n20, x20, z20, l20, g20, hF⟩ := ix_some hF; obtain ⟨b20, o20, s20, j20, r20, e20, f20, k20, ⟨_, _, rfl, rfl, rfl⟩⟩ := RowF.get ra0 g20; refine v_ixp e20 z20 l20 ?_; refine v_ldn (st.sub _ _ (le2 _ _ f20)) k20 ?_; refine v_alloc st (fun b21 h22 n23 st => ?_); refine v_st (cs' := [(i64 x20.1), (i64 x20.2)]) st 0 rfl rfl rfl rfl hfl (fun h24 st => ?_); refine r_nil ?_; refine th_n ?_; refine w_seq ?_; refine w_reg ?_; refine v_move ?_; refine v_ldn (vs := [(i64 x20.1), (i64 x20.2)]) (st.at (i := 0) rfl).2.2 rfl ?_; obtain ⟨v25, e26, hF⟩ := bnd_some hF; refine v_call st (ct73 N e26 st.d st.sub (RowF.mono le2 ra1f0_1) (RowF.mono le2 ra1f0_2) (RowF.mono le2 ra1f0_4) (RowF.mono le2 ra1f0_5)) (fun n27 st => ?_)
      refine v_not ?_; refine r_nil ?_; refine th_n ?_; refine v_cond (fun hb28 => ?_) (fun hb28 => ?_)
      · have hF := bif_t hb28 hF; refine w_seq ?_; refine w_reg ?_; refine v_move ?_; refine r_nil ?_; refine th_n ?_; refine w_ret ?_; refine ib_r ?_; refine th_r ?_; refine th_r ?_; refine ⟨_, (inj hF).symm, .inl ⟨_, rfl, rfl, rfl, ?_⟩⟩; dsimp only
        exact ⟨F2, rfl, le2, (st.drop (by first | exact List.Sublist.refl _ | (repeat first | exact List.nil_sublist _ | refine List.Sublist.cons_cons _ ?_ | refine List.Sublist.cons _ ?_))), gA⟩
      · have hF := bif_f hb28 hF; refine w_skip ?_; refine ib_n ?_; refine th_n ?_; refine w_reg ?_; obtain ⟨q29, hF⟩ := ck_some hF; refine v_add q29 ?_; refine v_move ?_; refine r_nil ?_; refine thn ⟨_, (inj hF).symm, rfl, ?_⟩; dsimp only
        exact ⟨F2, rfl, le2, (st.drop (by first | exact List.Sublist.refl _ | (repeat first | exact List.nil_sublist _ | refine List.Sublist.cons_cons _ ?_ | refine List.Sublist.cons _ ?_))), gA, gA, gA, gA⟩
    · have hF := bif_f hb19 hF; refine w_exit ?_; refine th_e ?_; refine th_e ?_; refine ⟨_, (inj hF).symm, .inr (⟨_, rfl, rfl, rfl, ?_⟩)⟩; dsimp only
      exact ⟨F2, rfl, le2, st⟩
  · rcases hq with hq | hq
    · obtain ⟨N9, T, ds16⟩ := a; obtain ⟨h30, n31⟩ := σ; obtain ⟨w15, rfl, rfl, e1, F16, e2, le16, st, t4⟩ := hq
      dsimp only at e1 e2
      subst e1
      subst e2
      dsimp only at st t4
      have hF := sel_l hF; refine ib_r ?_; refine th_r ?_; obtain rfl := inj hF
      exact end_s st (Res.t gA Res.nil) rfl rfl
    · obtain ⟨N9, T, ds18⟩ := a; obtain ⟨h32, n33⟩ := σ; obtain ⟨w17, rfl, rfl, e1, F18, e2, le18, st⟩ := hq
      dsimp only at e1 e2
      subst e1
      subst e2
      dsimp only at st
      have hF := sel_r hF; refine ib_e ?_; refine th_n ?_; refine w_seq ?_; refine w_reg ?_; refine v_move ?_; refine r_nil ?_; refine th_n ?_; refine w_ret ?_; obtain rfl := inj hF
      exact end_s st (Res.t gA Res.nil) rfl rfl
end Go.Hx.V

/- Functions of the program come to that. -/
namespace Go.Hx.V
open Go.Hx
set_option linter.unusedVariables false
set_option maxRecDepth 20000
set_option maxHeartbeats 4000000
attribute [local irreducible] W R C thenH inBlockH Tr.get Tr.set lo
theorem ct50 (N : Nat) {a0_0 : Int} {a0_1 : (List (Int × Int))} {a0_2 : (List (Int × Int × Int))} {a0_3 : Int} {r : Bool} (hF : sf50 N a0_0 a0_1 a0_2 a0_3 = some r) {fl : Nat} {h0 : Tr HBlk} {n0 : Nat} {F0 : PH} (hd : D h0 n0) (hs : F0.sub h0) {pa0_1 : Option (Nat × Nat)} {ca0_1 : Nat} {pa0_2 : Option (Nat × Nat)} {ca0_2 : Nat} (ra0_1 : RowF (rP rI rI) 2 F0 pa0_1 ca0_1 a0_1) (ra0_2 : RowF (rP rI (rP rI rI)) 3 F0 pa0_2 ca0_2 a0_2) : C LW fl 50 [(.agg [(i64 a0_0), (.slice pa0_1 (a0_1).length ca0_1), (.slice pa0_2 (a0_2).length ca0_2), (i64 a0_3)])] ⟨h0, n0⟩ (KS (.bool r) n0 h0) := by
  unfold sf50 at hF
  refine in_cT hd hs lw50 rfl rfl (by rfl) (fun st T hT => ?_)
  have hfl : n0 ≤ n0 := Nat.le_refl n0
  have t0 := hT 0 _ rfl
  dsimp only [L50]
  refine w_seq ?_; refine w_reg ?_; refine v_box st (fun b1 h2 n3 st => ?_); refine v_move ?_; refine r_nil ?_; refine th_n ?_; refine w_seq ?_; refine w_reg ?_; refine v_fa ?_; refine v_ld1 (st.at (i := 0) rfl).2.2 rfl ?_; refine v_leq ?_; refine v_move ?_
  rcases Bool.eq_false_or_eq_true (decide ((1 : Int) ≤ a0_0)) with hb4 | hb4
  · have hF := bif_t hb4 hF; refine g_take hb4 (v_fa ?_); refine g_take hb4 (v_ld1 (st.at (i := 0) rfl).2.2 rfl ?_); refine g_take hb4 (v_leq ?_); refine v_pick hb4 ?_; refine v_move ?_
    rcases Bool.eq_false_or_eq_true (decide (a0_0 ≤ (50 : Int))) with hb5 | hb5
    · have hF := bif_t hb5 hF; refine g_take hb5 (v_fa ?_); refine g_take hb5 (v_ld1 (st.at (i := 0) rfl).2.2 rfl ?_); refine g_take hb5 (v_leq ?_); refine v_pick hb5 ?_; refine v_move ?_
      rcases Bool.eq_false_or_eq_true (decide ((1 : Int) ≤ a0_3)) with hb6 | hb6
      · have hF := bif_t hb6 hF; refine g_take hb6 (v_fa ?_); refine g_take hb6 (v_ld1 (st.at (i := 0) rfl).2.2 rfl ?_); refine g_take hb6 (v_leq ?_); refine v_pick hb6 ?_; refine v_move ?_
        rcases Bool.eq_false_or_eq_true (decide (a0_3 ≤ (60 : Int))) with hb7 | hb7
        · have hF := bif_t hb7 hF; refine g_take hb7 (v_ldn (vs := [(i64 a0_0), (.slice pa0_1 (a0_1).length ca0_1), (.slice pa0_2 (a0_2).length ca0_2), (i64 a0_3)]) (st.at (i := 0) rfl).2.2 rfl ?_); obtain ⟨v8, e9, hF⟩ := bnd_some hF; refine g_take hb7 (v_call st (ct76 N e9 st.d st.sub ra0_1 ra0_2) (fun n10 st => ?_)); refine v_pick hb7 ?_; refine v_move ?_
          rcases Bool.eq_false_or_eq_true v8 with hb11 | hb11
          · have hF := bif_t hb11 hF; refine g_take hb11 (v_ldn (vs := [(i64 a0_0), (.slice pa0_1 (a0_1).length ca0_1), (.slice pa0_2 (a0_2).length ca0_2), (i64 a0_3)]) (st.at (i := 0) rfl).2.2 rfl ?_); obtain ⟨v12, e13, hF⟩ := bnd_some hF; refine g_take hb11 (v_call st (ct77 N e13 st.d st.sub ra0_1 ra0_2) (fun n14 st => ?_)); refine v_pick hb11 ?_; refine v_move ?_
            rcases Bool.eq_false_or_eq_true v12 with hb15 | hb15
            · have hF := bif_t hb15 hF; refine g_take hb15 (v_ldn (vs := [(i64 a0_0), (.slice pa0_1 (a0_1).length ca0_1), (.slice pa0_2 (a0_2).length ca0_2), (i64 a0_3)]) (st.at (i := 0) rfl).2.2 rfl ?_); obtain ⟨v16, e17, hF⟩ := bnd_some hF; refine g_take hb15 (v_call st (ct78 N e17 st.d st.sub ra0_1 ra0_2) (fun n18 st => ?_)); refine v_pick hb15 ?_; refine v_move ?_; refine r_nil ?_; refine th_n ?_; refine w_ret ?_; obtain rfl := inj hF
              exact end_s st (Res.t gA Res.nil) rfl rfl
            · have hF := bif_f hb15 hF; refine g_skip hb15 ?_; refine g_skip hb15 ?_; refine v_pick' hb15 ?_; refine v_move ?_; refine r_nil ?_; refine th_n ?_; refine w_ret ?_; obtain rfl := inj hF
              exact end_s st (Res.t gA Res.nil) rfl rfl
          · have hF := bif_f hb11 hF; refine g_skip hb11 ?_; refine g_skip hb11 ?_; refine v_pick' hb11 ?_; refine v_move ?_; refine g_skip rfl ?_; refine g_skip rfl ?_; refine v_pick' rfl ?_; refine v_move ?_; refine r_nil ?_; refine th_n ?_; refine w_ret ?_; obtain rfl := inj hF
            exact end_s st (Res.t gA Res.nil) rfl rfl
        · have hF := bif_f hb7 hF; refine g_skip hb7 ?_; refine g_skip hb7 ?_; refine v_pick' hb7 ?_; refine v_move ?_; refine g_skip rfl ?_; refine g_skip rfl ?_; refine v_pick' rfl ?_; refine v_move ?_; refine g_skip rfl ?_; refine g_skip rfl ?_; refine v_pick' rfl ?_; refine v_move ?_; refine r_nil ?_; refine th_n ?_; refine w_ret ?_; obtain rfl := inj hF
          exact end_s st (Res.t gA Res.nil) rfl rfl
      · have hF := bif_f hb6 hF; refine g_skip hb6 ?_; refine g_skip hb6 ?_; refine g_skip hb6 ?_; refine v_pick' hb6 ?_; refine v_move ?_; refine g_skip rfl ?_; refine g_skip rfl ?_; refine v_pick' rfl ?_; refine v_move ?_; refine g_skip rfl ?_; refine g_skip rfl ?_; refine v_pick' rfl ?_; refine v_move ?_; refine g_skip rfl ?_; refine g_skip rfl ?_; refine v_pick' rfl ?_; refine v_move ?_; refine r_nil ?_; refine th_n ?_; refine w_ret ?_; obtain rfl := inj hF
        exact end_s st (Res.t gA Res.nil) rfl rfl
    · have hF := bif_f hb5 hF; refine g_skip hb5 ?_; refine g_skip hb5 ?_; refine g_skip hb5 ?_; refine v_pick' hb5 ?_; refine v_move ?_; refine g_skip rfl ?_; refine g_skip rfl ?_; refine g_skip rfl ?_; refine v_pick' rfl ?_; refine v_move ?_; refine g_skip rfl ?_; refine g_skip rfl ?_; refine v_pick' rfl ?_; refine v_move ?_; refine g_skip rfl ?_; refine g_skip rfl ?_; refine v_pick' rfl ?_; refine v_move ?_; refine g_skip rfl ?_; refine g_skip rfl ?_; refine v_pick' rfl ?_; refine v_move ?_; refine r_nil ?_; refine th_n ?_; refine w_ret ?_; obtain rfl := inj hF
      exact end_s st (Res.t gA Res.nil) rfl rfl
  · have hF := bif_f hb4 hF; refine g_skip hb4 ?_; refine g_skip hb4 ?_; refine g_skip hb4 ?_; refine v_pick' hb4 ?_; refine v_move ?_; refine g_skip rfl ?_; refine g_skip rfl ?_; refine g_skip rfl ?_; refine v_pick' rfl ?_; refine v_move ?_; refine g_skip rfl ?_; refine g_skip rfl ?_; refine g_skip rfl ?_; refine v_pick' rfl ?_; refine v_move ?_; refine g_skip rfl ?_; refine g_skip rfl ?_; refine v_pick' rfl ?_; refine v_move ?_; refine g_skip rfl ?_; refine g_skip rfl ?_; refine v_pick' rfl ?_; refine v_move ?_; refine g_skip rfl ?_; refine g_skip rfl ?_; refine v_pick' rfl ?_; refine v_move ?_; refine r_nil ?_; refine th_n ?_; refine w_ret ?_; obtain rfl := inj hF
    exact end_s st (Res.t gA Res.nil) rfl rfl
theorem ct39 (N : Nat) {a0_0 : Int} {a0_1 : (List (Int × Int))} {a0_2 : (List (Int × Int × Int))} {a0_3 : Int} {a1 : (List Int)} {r : Int} (hF : sf39 N a0_0 a0_1 a0_2 a0_3 a1 = some r) {fl : Nat} {h0 : Tr HBlk} {n0 : Nat} {F0 : PH} (hd : D h0 n0) (hs : F0.sub h0) {pa0_1 : Option (Nat × Nat)} {ca0_1 : Nat} {pa0_2 : Option (Nat × Nat)} {ca0_2 : Nat} {pa1 : Option (Nat × Nat)} {ca1 : Nat} (ra0_1 : RowF (rP rI rI) 2 F0 pa0_1 ca0_1 a0_1) (ra0_2 : RowF (rP rI (rP rI rI)) 3 F0 pa0_2 ca0_2 a0_2) (ra1 : RowF rI 1 F0 pa1 ca1 a1) : C LW fl 39 [(.agg [(i64 a0_0), (.slice pa0_1 (a0_1).length ca0_1), (.slice pa0_2 (a0_2).length ca0_2), (i64 a0_3)]), (.slice pa1 (a1).length ca1)] ⟨h0, n0⟩ (KS (i64 r) n0 h0) := by
  unfold sf39 at hF
  refine in_cT hd hs lw39 rfl rfl (by rfl) (fun st T hT => ?_)
  have hfl : n0 ≤ n0 := Nat.le_refl n0
  have t0 := hT 0 _ rfl
  have t1 := hT 1 _ rfl
  dsimp only [L39]
  refine w_seq ?_; refine w_reg ?_; refine v_box st (fun b1 h2 n3 st => ?_); refine v_move ?_; refine r_nil ?_; refine th_n ?_; refine w_seq ?_; refine w_seq ?_; refine w_reg ?_; refine v_ldn (vs := [(i64 a0_0), (.slice pa0_1 (a0_1).length ca0_1), (.slice pa0_2 (a0_2).length ca0_2), (i64 a0_3)]) (st.at (i := 0) rfl).2.2 rfl ?_; obtain ⟨v4, e5, hF⟩ := bnd_some hF; refine v_call st (ct23 N e5 st.d st.sub ra0_1 ra0_2) (fun n6 st => ?_); refine v_move ?_; refine r_nil ?_; refine th_n ?_; refine w_seq ?_; refine w_reg ?_; refine v_move ?_; refine v_nei ?_; refine r_nil ?_; refine th_n ?_; refine v_cond (fun hb7 => ?_) (fun hb7 => ?_)
  · have hF := bif_t hb7 hF; refine w_seq ?_; refine w_reg ?_; refine v_move ?_; refine v_move ?_; refine r_nil ?_; refine th_n ?_; refine w_ret ?_; refine th_r ?_; obtain rfl := inj hF
    exact end_s st (Res.t gA Res.nil) rfl rfl
  · have hF := bif_f hb7 hF; refine w_skip ?_; refine th_n ?_; refine w_seq ?_; refine w_reg ?_; refine v_move ?_; obtain ⟨v8, e9, hF⟩ := bnd_some hF; refine v_call st (ct68 N e9 st.d st.sub ra1) (fun n10 st => ?_); refine v_move ?_; refine r_nil ?_; refine th_n ?_; refine w_ret ?_; obtain rfl := inj hF
    exact end_s st (Res.t gA Res.nil) rfl rfl
theorem ct90 (N : Nat) {a0 : Int} {k0p0 : Int} {k0p1 : (List (Int × Int))} {k0p2 : (List (Int × Int × Int))} {k0p3 : Int} {k0p4 : (List Int)} {k0p5 : (List Int)} {k1p0 : (List Int)} {r : Bool} (hF : sf90 N a0 k0p0 k0p1 k0p2 k0p3 k0p4 k0p5 k1p0 = some r) {fl : Nat} {h0 : Tr HBlk} {n0 : Nat} {F0 : PH} (hd : D h0 n0) (hs : F0.sub h0) {pk0p1 : Option (Nat × Nat)} {ck0p1 : Nat} {pk0p2 : Option (Nat × Nat)} {ck0p2 : Nat} {pk0p4 : Option (Nat × Nat)} {ck0p4 : Nat} {pk0p5 : Option (Nat × Nat)} {ck0p5 : Nat} {pk1p0 : Option (Nat × Nat)} {ck1p0 : Nat} {bk0 : Nat} {bk1 : Nat} (rk0p1 : RowF (rP rI rI) 2 F0 pk0p1 ck0p1 k0p1) (rk0p2 : RowF (rP rI (rP rI rI)) 3 F0 pk0p2 ck0p2 k0p2) (rk0p4 : RowF rI 1 F0 pk0p4 ck0p4 k0p4) (rk0p5 : RowF rI 1 F0 pk0p5 ck0p5 k0p5) (rk1p0 : RowF rI 1 F0 pk1p0 ck1p0 k1p0) (hbk0 : F0 bk0 = some (.cells [(i64 k0p0), (.slice pk0p1 (k0p1).length ck0p1), (.slice pk0p2 (k0p2).length ck0p2), (i64 k0p3), (.slice pk0p4 (k0p4).length ck0p4), (.slice pk0p5 (k0p5).length ck0p5)] .exact)) (hbk1 : F0 bk1 = some (.cells [(.slice pk1p0 (k1p0).length ck1p0)] .exact)) : C LW fl 90 [(i64 a0), (.ptr (some (bk0, 0))), (.ptr (some (bk1, 0)))] ⟨h0, n0⟩ (KS (.bool r) n0 h0) := by
  unfold sf90 at hF
  refine in_cT hd hs lw90 rfl rfl (by rfl) (fun st T hT => ?_)
  have hfl : n0 ≤ n0 := Nat.le_refl n0
  have t0 := hT 0 _ rfl
  have t1 := hT 1 _ rfl
  have t2 := hT 2 _ rfl
  dsimp only [L90]
  refine w_seq ?_; refine w_reg ?_; refine v_move ?_; refine r_nil ?_; refine th_n ?_; refine w_seq ?_; refine w_reg ?_; refine v_ldn (vs := [(i64 k0p0), (.slice pk0p1 (k0p1).length ck0p1), (.slice pk0p2 (k0p2).length ck0p2), (i64 k0p3), (.slice pk0p4 (k0p4).length ck0p4), (.slice pk0p5 (k0p5).length ck0p5)]) (st.sub _ _ hbk0) rfl ?_; refine v_move ?_; refine v_build (cs := [(i64 k0p0), (.slice pk0p1 (k0p1).length ck0p1), (.slice pk0p2 (k0p2).length ck0p2), (i64 k0p3), (.slice pk0p4 (k0p4).length ck0p4), (.slice pk0p5 (k0p5).length ck0p5), (i64 a0)]) rfl ?_; refine v_ld1 (st.sub _ _ hbk1) rfl ?_; obtain ⟨v1, e2, hF⟩ := bnd_some hF; refine v_call st (ct91 N e2 st.d st.sub rk0p1 rk0p2 rk0p4 rk0p5 rk1p0) (fun n3 st => ?_)
  refine v_move ?_; refine r_nil ?_; refine th_n ?_; refine w_ret ?_; obtain rfl := inj hF
  exact end_s st (Res.t gA Res.nil) rfl rfl
end Go.Hx.V

/- Functions of the program come to that. -/
namespace Go.Hx.V
open Go.Hx
set_option linter.unusedVariables false
set_option maxRecDepth 20000
set_option maxHeartbeats 4000000
attribute [local irreducible] W R C thenH inBlockH Tr.get Tr.set lo
end Go.Hx.V

/- Functions of the program come to that. -/
namespace Go.Hx.V
open Go.Hx
set_option linter.unusedVariables false
set_option maxRecDepth 20000
set_option maxHeartbeats 4000000
attribute [local irreducible] W R C thenH inBlockH Tr.get Tr.set lo
theorem ct18 (N : Nat) {a0_0 : Int} {a0_1 : (List (Int × Int))} {a0_2 : (List (Int × Int × Int))} {a0_3 : Int} {r : Int} (hF : sf18 N a0_0 a0_1 a0_2 a0_3 = some r) {fl : Nat} {h0 : Tr HBlk} {n0 : Nat} {F0 : PH} (hd : D h0 n0) (hs : F0.sub h0) {pa0_1 : Option (Nat × Nat)} {ca0_1 : Nat} {pa0_2 : Option (Nat × Nat)} {ca0_2 : Nat} (ra0_1 : RowF (rP rI rI) 2 F0 pa0_1 ca0_1 a0_1) (ra0_2 : RowF (rP rI (rP rI rI)) 3 F0 pa0_2 ca0_2 a0_2) : C LW fl 18 [(.agg [(i64 a0_0), (.slice pa0_1 (a0_1).length ca0_1), (.slice pa0_2 (a0_2).length ca0_2), (i64 a0_3)])] ⟨h0, n0⟩ (KS (i64 r) n0 h0) := by
  unfold sf18 at hF
  refine in_cT hd hs lw18 rfl rfl (by rfl) (fun st T hT => ?_)
  have hfl : n0 ≤ n0 := Nat.le_refl n0
  have t0 := hT 0 _ rfl
  dsimp only [L18]
  refine w_seq ?_; refine w_reg ?_; refine v_box st (fun b1 h2 n3 st => ?_); refine v_move ?_; refine r_nil ?_; refine th_n ?_; refine w_seq ?_; obtain ⟨y5, hA6, hF⟩ := bnd_some hF; refine w_cutD (fun T ds8 h nx => ∃ (F8 : PH), ds8 = [] ∧ PH.le F0 F8 ∧ St n0 h0 F0 F8 h nx [.bx b1 [(i64 a0_0), (.slice pa0_1 (a0_1).length ca0_1), (.slice pa0_2 (a0_2).length ca0_2), (i64 a0_3)]] ∧ T.get 1 = some (.ptr (some (b1, 0))) ∧ T.get 12 = some (.bool y5)) ?_ (fun T ds8 h nx hp => ?_)
  · have hK7 := hF
    have hF := hA6; refine w_reg ?_; refine v_fa ?_; refine v_ld1 (st.at (i := 0) rfl).2.2 rfl ?_; refine v_len ?_; refine v_gtr ?_; refine v_move ?_
    rcases Bool.eq_false_or_eq_true (decide ((8 : Int) < ((a0_1).length : Int))) with hb9 | hb9
    · have hF := bif_t hb9 hF; refine g_skip hb9 ?_; refine g_skip hb9 ?_; refine g_skip hb9 ?_; refine g_skip hb9 ?_; refine v_pick hb9 ?_; refine r_nil ?_; obtain rfl := inj hF; refine thn ⟨rfl, ?_⟩; dsimp only
      exact ⟨F0, rfl, (PH.le.refl _), st, gA, gA⟩
    · have hF := bif_f hb9 hF; refine g_take hb9 (v_fa ?_); refine g_take hb9 (v_ld1 (st.at (i := 0) rfl).2.2 rfl ?_); refine g_take hb9 (v_len ?_); refine g_take hb9 (v_gtr ?_); refine v_pick' hb9 ?_; refine r_nil ?_; obtain rfl := inj hF; refine thn ⟨rfl, ?_⟩; dsimp only
      exact ⟨F0, rfl, (PH.le.refl _), st, gA, gA⟩
  · obtain ⟨F8, rfl, le8, st, t1, t12⟩ := hp; refine v_cond (fun hb10 => ?_) (fun hb10 => ?_)
    · have hF := bif_t hb10 hF; refine w_seq ?_; refine w_reg ?_; refine v_move ?_; refine r_nil ?_; refine th_n ?_; refine w_ret ?_; refine th_r ?_; obtain rfl := inj hF
      exact end_s st (Res.t gA Res.nil) rfl rfl
    · have hF := bif_f hb10 hF; refine w_skip ?_; refine th_n ?_; refine w_seq ?_; refine w_seq ?_; refine w_reg ?_; refine v_ldn (vs := [(i64 a0_0), (.slice pa0_1 (a0_1).length ca0_1), (.slice pa0_2 (a0_2).length ca0_2), (i64 a0_3)]) (st.at (i := 0) rfl).2.2 rfl ?_; obtain ⟨v11, e12, hF⟩ := bnd_some hF; refine v_call st (ct50 N e12 st.d st.sub (RowF.mono le8 ra0_1) (RowF.mono le8 ra0_2)) (fun n13 st => ?_); refine v_not ?_; refine r_nil ?_; refine th_n ?_; refine v_cond (fun hb14 => ?_) (fun hb14 => ?_)
      · have hF := bif_t hb14 hF; refine w_seq ?_; refine w_reg ?_; refine v_move ?_; refine r_nil ?_; refine th_n ?_; refine w_ret ?_; refine th_r ?_; obtain rfl := inj hF
        exact end_s st (Res.t gA Res.nil) rfl rfl
      · have hF := bif_f hb14 hF; refine w_skip ?_; refine th_n ?_; refine w_seq ?_; refine w_reg ?_; refine v_move ?_; refine r_nil ?_; refine th_n ?_; refine w_ret ?_; obtain rfl := inj hF
        exact end_s st (Res.t gA Res.nil) rfl rfl
theorem ct32 (N : Nat) {a0_0 : Int} {a0_1 : (List (Int × Int))} {a0_2 : (List (Int × Int × Int))} {a0_3 : Int} {a1 : (List Int)} {a2 : (List Int)} {r : Int} (hF : sf32 N a0_0 a0_1 a0_2 a0_3 a1 a2 = some r) {fl : Nat} {h0 : Tr HBlk} {n0 : Nat} {F0 : PH} (hd : D h0 n0) (hs : F0.sub h0) {pa0_1 : Option (Nat × Nat)} {ca0_1 : Nat} {pa0_2 : Option (Nat × Nat)} {ca0_2 : Nat} {pa1 : Option (Nat × Nat)} {ca1 : Nat} {pa2 : Option (Nat × Nat)} {ca2 : Nat} (ra0_1 : RowF (rP rI rI) 2 F0 pa0_1 ca0_1 a0_1) (ra0_2 : RowF (rP rI (rP rI rI)) 3 F0 pa0_2 ca0_2 a0_2) (ra1 : RowF rI 1 F0 pa1 ca1 a1) (ra2 : RowF rI 1 F0 pa2 ca2 a2) : C LW fl 32 [(.agg [(i64 a0_0), (.slice pa0_1 (a0_1).length ca0_1), (.slice pa0_2 (a0_2).length ca0_2), (i64 a0_3)]), (.slice pa1 (a1).length ca1), (.slice pa2 (a2).length ca2)] ⟨h0, n0⟩ (KS (i64 r) n0 h0) := by
  unfold sf32 at hF
  refine in_cT hd hs lw32 rfl rfl (by rfl) (fun st T hT => ?_)
  have hfl : n0 ≤ n0 := Nat.le_refl n0
  have t0 := hT 0 _ rfl
  have t1 := hT 1 _ rfl
  have t2 := hT 2 _ rfl
  dsimp only [L32]
  refine w_seq ?_; refine w_reg ?_; refine v_box st (fun b1 h2 n3 st => ?_); refine v_move ?_; refine r_nil ?_; refine th_n ?_; refine w_seq ?_; refine w_seq ?_; refine w_reg ?_; refine v_ldn (vs := [(i64 a0_0), (.slice pa0_1 (a0_1).length ca0_1), (.slice pa0_2 (a0_2).length ca0_2), (i64 a0_3)]) (st.at (i := 0) rfl).2.2 rfl ?_; refine v_move ?_; obtain ⟨v4, e5, hF⟩ := bnd_some hF; refine v_call st (ct39 N e5 st.d st.sub ra0_1 ra0_2 ra1) (fun n6 st => ?_); refine v_move ?_; refine r_nil ?_; refine th_n ?_; refine w_seq ?_; refine w_reg ?_; refine v_move ?_; refine v_nei ?_; refine r_nil ?_; refine th_n ?_; refine v_cond (fun hb7 => ?_) (fun hb7 => ?_)
  · have hF := bif_t hb7 hF; refine w_seq ?_; refine w_reg ?_; refine v_move ?_; refine v_move ?_; refine r_nil ?_; refine th_n ?_; refine w_ret ?_; refine th_r ?_; obtain rfl := inj hF
    exact end_s st (Res.t gA Res.nil) rfl rfl
  · have hF := bif_f hb7 hF; refine w_skip ?_; refine th_n ?_; refine w_seq ?_; refine w_seq ?_; refine w_reg ?_; refine v_ldn (vs := [(i64 a0_0), (.slice pa0_1 (a0_1).length ca0_1), (.slice pa0_2 (a0_2).length ca0_2), (i64 a0_3)]) (st.at (i := 0) rfl).2.2 rfl ?_; refine v_move ?_; refine v_move ?_; obtain ⟨v8, e9, hF⟩ := bnd_some hF; refine v_call st (ct64 N e9 st.d st.sub ra0_1 ra0_2 ra1 ra2) (fun n10 st => ?_); refine v_not ?_; refine r_nil ?_; refine th_n ?_; refine v_cond (fun hb11 => ?_) (fun hb11 => ?_)
    · have hF := bif_t hb11 hF; refine w_seq ?_; refine w_reg ?_; refine v_move ?_; refine r_nil ?_; refine th_n ?_; refine w_ret ?_; refine th_r ?_; obtain rfl := inj hF
      exact end_s st (Res.t gA Res.nil) rfl rfl
    · have hF := bif_f hb11 hF; refine w_skip ?_; refine th_n ?_; refine w_seq ?_; refine w_reg ?_; refine v_move ?_; refine r_nil ?_; refine th_n ?_; refine w_ret ?_; obtain rfl := inj hF
      exact end_s st (Res.t gA Res.nil) rfl rfl
theorem ct89 (N : Nat) {a0 : Int} {a1c0p0 : Int} {a1c0p1 : (List (Int × Int))} {a1c0p2 : (List (Int × Int × Int))} {a1c0p3 : Int} {a1c0p4 : (List Int)} {a1c0p5 : (List Int)} {a1c1p0 : (List Int)} {r : Int} (hF : sf89 N a0 a1c0p0 a1c0p1 a1c0p2 a1c0p3 a1c0p4 a1c0p5 a1c1p0 = some r) {fl : Nat} {h0 : Tr HBlk} {n0 : Nat} {F0 : PH} (hd : D h0 n0) (hs : F0.sub h0) {pa1c0p1 : Option (Nat × Nat)} {ca1c0p1 : Nat} {pa1c0p2 : Option (Nat × Nat)} {ca1c0p2 : Nat} {pa1c0p4 : Option (Nat × Nat)} {ca1c0p4 : Nat} {pa1c0p5 : Option (Nat × Nat)} {ca1c0p5 : Nat} {pa1c1p0 : Option (Nat × Nat)} {ca1c1p0 : Nat} {ba1c0 : Nat} {ba1c1 : Nat} (ra1c0p1 : RowF (rP rI rI) 2 F0 pa1c0p1 ca1c0p1 a1c0p1) (ra1c0p2 : RowF (rP rI (rP rI rI)) 3 F0 pa1c0p2 ca1c0p2 a1c0p2) (ra1c0p4 : RowF rI 1 F0 pa1c0p4 ca1c0p4 a1c0p4) (ra1c0p5 : RowF rI 1 F0 pa1c0p5 ca1c0p5 a1c0p5) (ra1c1p0 : RowF rI 1 F0 pa1c1p0 ca1c1p0 a1c1p0) (hba1c0 : F0 ba1c0 = some (.cells [(i64 a1c0p0), (.slice pa1c0p1 (a1c0p1).length ca1c0p1), (.slice pa1c0p2 (a1c0p2).length ca1c0p2), (i64 a1c0p3), (.slice pa1c0p4 (a1c0p4).length ca1c0p4), (.slice pa1c0p5 (a1c0p5).length ca1c0p5)] .exact)) (hba1c1 : F0 ba1c1 = some (.cells [(.slice pa1c1p0 (a1c1p0).length ca1c1p0)] .exact)) : C LW fl 89 [(i64 a0), (.func 90 [] [(.ptr (some (ba1c0, 0))), (.ptr (some (ba1c1, 0)))])] ⟨h0, n0⟩ (KS (i64 r) n0 h0) := by
  unfold sf89 at hF
  refine in_cT hd hs lw89 rfl rfl (by rfl) (fun st T hT => ?_)
  have hfl : n0 ≤ n0 := Nat.le_refl n0
  have t0 := hT 0 _ rfl
  have t1 := hT 1 _ rfl
  dsimp only [L89]
  refine w_seq ?_; refine w_reg ?_; refine v_move ?_; refine r_nil ?_; refine th_n ?_; refine w_seq ?_; refine w_reg ?_; refine v_move ?_; refine v_move ?_; refine v_move ?_; refine r_nil ?_; refine th_n ?_; refine w_seq ?_; refine w_block ?_; obtain ⟨y13, hy, hF⟩ := bnd_some hF; refine v_loopD (sf89_L1 N a1c0p0 a1c0p1 a1c0p2 a1c0p3 a1c0p4 a1c0p5 a1c1p0) (fun x1 T ds2 h nx => ∃ (F2 : PH), ds2 = [] ∧ PH.le F0 F2 ∧ St n0 h0 F0 F2 h nx [] ∧ T.get 1 = some (.func 90 [] [(.ptr (some (ba1c0, 0))), (.ptr (some (ba1c1, 0)))]) ∧ T.get 5 = some (i64 x1.1) ∧ T.get 6 = some (i64 x1.2)) (fun y e a σ => e = .exit 0 ∧ a.nt = 26 ∧ ∃ (F14 : PH), a.defers = [] ∧ PH.le F0 F14 ∧ St n0 h0 F0 F14 σ.h σ.nx [] ∧ a.tmps.get 5 = some (i64 y)) (fun x1 T ds2 h nx s hp hF => ?_) N _ y13 _ _ _ _ hy ⟨F0, rfl, (PH.le.refl _), st, gA, gA, gA⟩ (fun e a σ hne hq => ?_)
  · obtain ⟨F2, rfl, le2, st, t1, t5, t6⟩ := hp; unfold sf89_L1 at hF; unfold L89w0; refine w_seq ?_; refine w_seq ?_; refine w_reg ?_; refine v_move ?_; refine v_move ?_; refine v_lss ?_; refine r_nil ?_; refine th_n ?_; refine v_cond (fun hb15 => ?_) (fun hb15 => ?_)
    · have hF := bif_t hb15 hF; refine w_skip ?_; refine th_n ?_; refine w_block ?_; refine w_seq ?_; refine w_reg ?_; refine v_move ?_; refine v_move ?_; obtain ⟨q16, hF⟩ := ck_some hF; refine v_add q16 ?_; obtain ⟨q17, hF⟩ := ck_some hF; refine v_conv q17 ?_; obtain ⟨q18, hF⟩ := ck_some hF; refine v_shift (shr_ok q18) rfl ?_; obtain ⟨q19, hF⟩ := ck_some hF; refine v_conv q19 ?_; refine v_move ?_; refine r_nil ?_; refine th_n ?_; refine w_seq ?_; refine w_reg ?_; refine v_move ?_; refine v_move ?_; obtain ⟨v20, e21, hF⟩ := bnd_some hF; refine v_call st (ct90 N e21 st.d st.sub (RowF.mono le2 ra1c0p1) (RowF.mono le2 ra1c0p2) (RowF.mono le2 ra1c0p4) (RowF.mono le2 ra1c0p5) (RowF.mono le2 ra1c1p0) (le2 _ _ hba1c0) (le2 _ _ hba1c1)) (fun n22 st => ?_)
      refine v_not ?_; refine r_nil ?_; refine th_n ?_; refine v_cond (fun hb23 => ?_) (fun hb23 => ?_)
      · have hF := bif_t hb23 hF; refine w_reg ?_; refine v_move ?_; obtain ⟨q24, hF⟩ := ck_some hF; refine v_add q24 ?_; refine v_move ?_; refine r_nil ?_; refine ib_n ?_; refine thn ⟨_, (inj hF).symm, rfl, ?_⟩; dsimp only
        exact ⟨F2, rfl, le2, st, gA, gA, gA⟩
      · have hF := bif_f hb23 hF; refine w_reg ?_; refine v_move ?_; refine v_move ?_; refine r_nil ?_; refine ib_n ?_; refine thn ⟨_, (inj hF).symm, rfl, ?_⟩; dsimp only
        exact ⟨F2, rfl, le2, st, gA, gA, gA⟩
    · have hF := bif_f hb15 hF; refine w_exit ?_; refine th_e ?_; refine th_e ?_; refine ⟨_, (inj hF).symm, rfl, rfl, ?_⟩; dsimp only
      exact ⟨F2, rfl, le2, st, gA⟩
  · obtain ⟨N9, T, ds14⟩ := a; obtain ⟨h25, n26⟩ := σ; obtain ⟨rfl, e1, F14, e2, le14, st, t5⟩ := hq
    dsimp only at e1 e2
    subst e1
    subst e2
    dsimp only at st t5
    refine ib_e ?_; refine th_n ?_; refine w_seq ?_; refine w_reg ?_; refine v_move ?_; refine v_move ?_; refine r_nil ?_; refine th_n ?_; refine w_ret ?_; obtain rfl := inj hF
    exact end_s st (Res.t gA Res.nil) rfl rfl
theorem ct48 (N : Nat) {a0_0 : Int} {a0_1 : (List (Int × Int))} {a0_2 : (List (Int × Int × Int))} {a0_3 : Int} {a1 : (List Int)} {r : Bool} (hF : sf48 N a0_0 a0_1 a0_2 a0_3 a1 = some r) {fl : Nat} {h0 : Tr HBlk} {n0 : Nat} {F0 : PH} (hd : D h0 n0) (hs : F0.sub h0) {pa0_1 : Option (Nat × Nat)} {ca0_1 : Nat} {pa0_2 : Option (Nat × Nat)} {ca0_2 : Nat} {pa1 : Option (Nat × Nat)} {ca1 : Nat} (ra0_1 : RowF (rP rI rI) 2 F0 pa0_1 ca0_1 a0_1) (ra0_2 : RowF (rP rI (rP rI rI)) 3 F0 pa0_2 ca0_2 a0_2) (ra1 : RowF rI 1 F0 pa1 ca1 a1) : C LW fl 48 [(.agg [(i64 a0_0), (.slice pa0_1 (a0_1).length ca0_1), (.slice pa0_2 (a0_2).length ca0_2), (i64 a0_3)]), (.slice pa1 (a1).length ca1)] ⟨h0, n0⟩ (KS (.bool r) n0 h0) := by
  unfold sf48 at hF
  refine in_cT hd hs lw48 rfl rfl (by rfl) (fun st T hT => ?_)
  have hfl : n0 ≤ n0 := Nat.le_refl n0
  have t0 := hT 0 _ rfl
  have t1 := hT 1 _ rfl
  dsimp only [L48]
  refine w_seq ?_; refine w_reg ?_; refine v_box st (fun b1 h2 n3 st => ?_); refine v_move ?_; refine r_nil ?_; refine th_n ?_; refine w_seq ?_; refine w_reg ?_; refine v_ldn (vs := [(i64 a0_0), (.slice pa0_1 (a0_1).length ca0_1), (.slice pa0_2 (a0_2).length ca0_2), (i64 a0_3)]) (st.at (i := 0) rfl).2.2 rfl ?_; refine v_move ?_; obtain ⟨v4, e5, hF⟩ := bnd_some hF; refine v_call st (ct16 N e5 st.d st.sub ra0_1 ra0_2 ra1 RowF.nil) (fun n6 st => ?_); refine v_move ?_
  rcases Bool.eq_false_or_eq_true v4 with hb7 | hb7
  · have hF := bif_t hb7 hF; refine g_take hb7 (v_ldn (vs := [(i64 a0_0), (.slice pa0_1 (a0_1).length ca0_1), (.slice pa0_2 (a0_2).length ca0_2), (i64 a0_3)]) (st.at (i := 0) rfl).2.2 rfl ?_); refine g_take hb7 (v_move ?_); obtain ⟨v8, e9, hF⟩ := bnd_some hF; refine g_take hb7 (v_call st (ct39 N e9 st.d st.sub ra0_1 ra0_2 ra1) (fun n10 st => ?_)); refine g_take hb7 (v_eqi ?_); refine v_pick hb7 ?_; refine v_move ?_; refine r_nil ?_; refine th_n ?_; refine w_ret ?_; obtain rfl := inj hF
    exact end_s st (Res.t gA Res.nil) rfl rfl
  · have hF := bif_f hb7 hF; refine g_skip hb7 ?_; refine g_skip hb7 ?_; refine g_skip hb7 ?_; refine g_skip hb7 ?_; refine v_pick' hb7 ?_; refine v_move ?_; refine r_nil ?_; refine th_n ?_; refine w_ret ?_; obtain rfl := inj hF
    exact end_s st (Res.t gA Res.nil) rfl rfl
end Go.Hx.V

/- Functions of the program come to that. -/
namespace Go.Hx.V
open Go.Hx
set_option linter.unusedVariables false
set_option maxRecDepth 20000
set_option maxHeartbeats 4000000
attribute [local irreducible] W R C thenH inBlockH Tr.get Tr.set lo
theorem ct66 (N : Nat) {a0_0 : Int} {a0_1 : (List (Int × Int))} {a0_2 : (List (Int × Int × Int))} {a0_3 : Int} {a1 : (List Int)} {r : Int} (hF : sf66 N a0_0 a0_1 a0_2 a0_3 a1 = some r) {fl : Nat} {h0 : Tr HBlk} {n0 : Nat} {F0 : PH} (hd : D h0 n0) (hs : F0.sub h0) {pa0_1 : Option (Nat × Nat)} {ca0_1 : Nat} {pa0_2 : Option (Nat × Nat)} {ca0_2 : Nat} {pa1 : Option (Nat × Nat)} {ca1 : Nat} (ra0_1 : RowF (rP rI rI) 2 F0 pa0_1 ca0_1 a0_1) (ra0_2 : RowF (rP rI (rP rI rI)) 3 F0 pa0_2 ca0_2 a0_2) (ra1 : RowF rI 1 F0 pa1 ca1 a1) : C LW fl 66 [(.agg [(i64 a0_0), (.slice pa0_1 (a0_1).length ca0_1), (.slice pa0_2 (a0_2).length ca0_2), (i64 a0_3)]), (.slice pa1 (a1).length ca1)] ⟨h0, n0⟩ (KS (i64 r) n0 h0) := by
  unfold sf66 at hF
  refine in_cT hd hs lw66 rfl rfl (by rfl) (fun st T hT => ?_)
  have hfl : n0 ≤ n0 := Nat.le_refl n0
  have t0 := hT 0 _ rfl
  have t1 := hT 1 _ rfl
  dsimp only [L66]
  refine w_seq ?_; refine w_reg ?_; refine v_box st (fun b1 h2 n3 st => ?_); refine v_move ?_; refine r_nil ?_; refine th_n ?_; refine w_seq ?_; refine w_seq ?_; refine w_reg ?_; refine v_ldn (vs := [(i64 a0_0), (.slice pa0_1 (a0_1).length ca0_1), (.slice pa0_2 (a0_2).length ca0_2), (i64 a0_3)]) (st.at (i := 0) rfl).2.2 rfl ?_; obtain ⟨v4, e5, hF⟩ := bnd_some hF; refine v_call st (ct18 N e5 st.d st.sub ra0_1 ra0_2) (fun n6 st => ?_); refine v_move ?_; refine r_nil ?_; refine th_n ?_; refine w_seq ?_; refine w_reg ?_; refine v_move ?_; refine v_nei ?_; refine r_nil ?_; refine th_n ?_; refine v_cond (fun hb7 => ?_) (fun hb7 => ?_)
  · have hF := bif_t hb7 hF; refine w_seq ?_; refine w_reg ?_; refine v_move ?_; refine v_move ?_; refine r_nil ?_; refine th_n ?_; refine w_ret ?_; refine th_r ?_; obtain rfl := inj hF
    exact end_s st (Res.t gA Res.nil) rfl rfl
  · have hF := bif_f hb7 hF; refine w_skip ?_; refine th_n ?_; refine w_seq ?_; refine w_seq ?_; refine w_reg ?_; refine v_move ?_; refine v_len ?_; refine v_gtr ?_; refine r_nil ?_; refine th_n ?_; refine v_cond (fun hb8 => ?_) (fun hb8 => ?_)
    · have hF := bif_t hb8 hF; refine w_seq ?_; refine w_reg ?_; refine v_move ?_; refine r_nil ?_; refine th_n ?_; refine w_ret ?_; refine th_r ?_; obtain rfl := inj hF
      exact end_s st (Res.t gA Res.nil) rfl rfl
    · have hF := bif_f hb8 hF; refine w_skip ?_; refine th_n ?_; refine w_seq ?_; obtain ⟨y17, hA18, hF⟩ := bnd_some hF; refine w_cutD (fun T ds20 h nx => ∃ (F20 : PH), ds20 = [] ∧ PH.le F0 F20 ∧ St n0 h0 F0 F20 h nx [.bx b1 [(i64 a0_0), (.slice pa0_1 (a0_1).length ca0_1), (.slice pa0_2 (a0_2).length ca0_2), (i64 a0_3)]] ∧ T.get 26 = some (.bool y17)) ?_ (fun T ds20 h nx hp => ?_)
      · have hK19 := hF
        have hF := hA18; refine w_reg ?_; refine v_move ?_; refine v_len ?_; refine v_eqi ?_; refine v_move ?_
        rcases Bool.eq_false_or_eq_true (decide (((a1).length : Int) = (0 : Int))) with hb21 | hb21
        · have hF := bif_t hb21 hF; refine g_skip hb21 ?_; refine g_skip hb21 ?_; refine g_skip hb21 ?_; refine v_pick hb21 ?_; refine v_move ?_; refine g_skip rfl ?_; refine g_skip rfl ?_; refine g_skip rfl ?_; refine v_pick rfl ?_; refine r_nil ?_; obtain rfl := inj hF; refine thn ⟨rfl, ?_⟩; dsimp only
          exact ⟨F0, rfl, (PH.le.refl _), st, gA⟩
        · have hF := bif_f hb21 hF; refine g_take hb21 (v_move ?_); obtain ⟨v22, e23, hF⟩ := bnd_some hF; refine g_take hb21 (v_call st (ct87 N e23 st.d st.sub ra1) (fun n24 st => ?_)); refine g_take hb21 (v_not ?_); refine v_pick' hb21 ?_; refine v_move ?_
          rcases Bool.eq_false_or_eq_true (!v22) with hb25 | hb25
          · have hF := bif_t hb25 hF; refine g_skip hb25 ?_; refine g_skip hb25 ?_; refine g_skip hb25 ?_; refine v_pick hb25 ?_; refine r_nil ?_; obtain rfl := inj hF; refine thn ⟨rfl, ?_⟩; dsimp only
            exact ⟨F0, rfl, (PH.le.refl _), st, gA⟩
          · have hF := bif_f hb25 hF; refine g_take hb25 (v_move ?_); obtain ⟨v26, e27, hF⟩ := bnd_some hF; refine g_take hb25 (v_call st (ct88 N e27 st.d st.sub ra1) (fun n28 st => ?_)); refine g_take hb25 (v_not ?_); refine v_pick' hb25 ?_; refine r_nil ?_; obtain rfl := inj hF; refine thn ⟨rfl, ?_⟩; dsimp only
            exact ⟨F0, rfl, (PH.le.refl _), st, gA⟩
      · obtain ⟨F20, rfl, le20, st, t26⟩ := hp; refine v_cond (fun hb29 => ?_) (fun hb29 => ?_)
        · have hF := bif_t hb29 hF; refine w_seq ?_; refine w_reg ?_; refine v_move ?_; refine r_nil ?_; refine th_n ?_; refine w_ret ?_; refine th_r ?_; obtain rfl := inj hF
          exact end_s st (Res.t gA Res.nil) rfl rfl
        · have hF := bif_f hb29 hF; refine w_skip ?_; refine th_n ?_; refine w_seq ?_; refine w_reg ?_; refine v_move ?_; refine r_nil ?_; refine th_n ?_; refine w_ret ?_; obtain rfl := inj hF
          exact end_s st (Res.t gA Res.nil) rfl rfl
theorem ct67 (N : Nat) {a0_0 : Int} {a0_1 : (List (Int × Int))} {a0_2 : (List (Int × Int × Int))} {a0_3 : Int} {a0_4 : (List Int)} {a0_5 : (List Int)} {a1 : (List Int)} {r : Int} (hF : sf67 N a0_0 a0_1 a0_2 a0_3 a0_4 a0_5 a1 = some r) {fl : Nat} {h0 : Tr HBlk} {n0 : Nat} {F0 : PH} (hd : D h0 n0) (hs : F0.sub h0) {pa0_1 : Option (Nat × Nat)} {ca0_1 : Nat} {pa0_2 : Option (Nat × Nat)} {ca0_2 : Nat} {pa0_4 : Option (Nat × Nat)} {ca0_4 : Nat} {pa0_5 : Option (Nat × Nat)} {ca0_5 : Nat} {pa1 : Option (Nat × Nat)} {ca1 : Nat} (ra0_1 : RowF (rP rI rI) 2 F0 pa0_1 ca0_1 a0_1) (ra0_2 : RowF (rP rI (rP rI rI)) 3 F0 pa0_2 ca0_2 a0_2) (ra0_4 : RowF rI 1 F0 pa0_4 ca0_4 a0_4) (ra0_5 : RowF rI 1 F0 pa0_5 ca0_5 a0_5) (ra1 : RowF rI 1 F0 pa1 ca1 a1) : C LW fl 67 [(.agg [(i64 a0_0), (.slice pa0_1 (a0_1).length ca0_1), (.slice pa0_2 (a0_2).length ca0_2), (i64 a0_3), (.slice pa0_4 (a0_4).length ca0_4), (.slice pa0_5 (a0_5).length ca0_5)]), (.slice pa1 (a1).length ca1)] ⟨h0, n0⟩ (KS (i64 r) n0 h0) := by
  unfold sf67 at hF
  refine in_cT hd hs lw67 rfl rfl (by rfl) (fun st T hT => ?_)
  have hfl : n0 ≤ n0 := Nat.le_refl n0
  have t0 := hT 0 _ rfl
  have t1 := hT 1 _ rfl
  dsimp only [L67]
  refine w_seq ?_; refine w_reg ?_; refine v_box st (fun b1 h2 n3 st => ?_); refine v_box st (fun b4 h5 n6 st => ?_); refine v_move ?_; refine r_nil ?_; refine th_n ?_; refine w_seq ?_; refine w_reg ?_; refine v_mf ?_; obtain ⟨v7, e8, hF⟩ := bnd_some hF; refine v_call st (ct89 N e8 st.d (all_sub _) (RowF.mono st.all_le ra0_1) (RowF.mono st.all_le ra0_2) (RowF.mono st.all_le ra0_4) (RowF.mono st.all_le ra0_5) (RowF.mono st.all_le ra1) (st.at (i := 0) rfl).2.2 (st.at (i := 1) rfl).2.2) (fun n9 st => ?_); refine v_move ?_; refine r_nil ?_; refine th_n ?_; refine w_ret ?_; obtain rfl := inj hF
  exact end_s st (Res.t gA Res.nil) rfl rfl
end Go.Hx.V

/- Functions of the program come to that. -/
namespace Go.Hx.V
open Go.Hx
set_option linter.unusedVariables false
set_option maxRecDepth 20000
set_option maxHeartbeats 4000000
attribute [local irreducible] W R C thenH inBlockH Tr.get Tr.set lo
theorem ct57 (N : Nat) {a0_0 : Int} {a0_1 : (List (Int × Int))} {a0_2 : (List (Int × Int × Int))} {a0_3 : Int} {a1 : (List Int)} {a2 : (List Int)} {r : Int} (hF : sf57 N a0_0 a0_1 a0_2 a0_3 a1 a2 = some r) {fl : Nat} {h0 : Tr HBlk} {n0 : Nat} {F0 : PH} (hd : D h0 n0) (hs : F0.sub h0) {pa0_1 : Option (Nat × Nat)} {ca0_1 : Nat} {pa0_2 : Option (Nat × Nat)} {ca0_2 : Nat} {pa1 : Option (Nat × Nat)} {ca1 : Nat} {pa2 : Option (Nat × Nat)} {ca2 : Nat} (ra0_1 : RowF (rP rI rI) 2 F0 pa0_1 ca0_1 a0_1) (ra0_2 : RowF (rP rI (rP rI rI)) 3 F0 pa0_2 ca0_2 a0_2) (ra1 : RowF rI 1 F0 pa1 ca1 a1) (ra2 : RowF rI 1 F0 pa2 ca2 a2) : C LW fl 57 [(.agg [(i64 a0_0), (.slice pa0_1 (a0_1).length ca0_1), (.slice pa0_2 (a0_2).length ca0_2), (i64 a0_3)]), (.slice pa1 (a1).length ca1), (.slice pa2 (a2).length ca2)] ⟨h0, n0⟩ (KS (i64 r) n0 h0) := by
  unfold sf57 at hF
  refine in_cT hd hs lw57 rfl rfl (by rfl) (fun st T hT => ?_)
  have hfl : n0 ≤ n0 := Nat.le_refl n0
  have t0 := hT 0 _ rfl
  have t1 := hT 1 _ rfl
  have t2 := hT 2 _ rfl
  dsimp only [L57]
  refine w_seq ?_; refine w_reg ?_; refine v_box st (fun b1 h2 n3 st => ?_); refine v_move ?_; refine r_nil ?_; refine th_n ?_; refine w_seq ?_; refine w_seq ?_; refine w_reg ?_; refine v_ldn (vs := [(i64 a0_0), (.slice pa0_1 (a0_1).length ca0_1), (.slice pa0_2 (a0_2).length ca0_2), (i64 a0_3)]) (st.at (i := 0) rfl).2.2 rfl ?_; refine v_move ?_; obtain ⟨v4, e5, hF⟩ := bnd_some hF; refine v_call st (ct66 N e5 st.d st.sub ra0_1 ra0_2 ra1) (fun n6 st => ?_); refine v_move ?_; refine r_nil ?_; refine th_n ?_; refine w_seq ?_; refine w_reg ?_; refine v_move ?_; refine v_nei ?_; refine r_nil ?_; refine th_n ?_; refine v_cond (fun hb7 => ?_) (fun hb7 => ?_)
  · have hF := bif_t hb7 hF; refine w_seq ?_; refine w_reg ?_; refine v_move ?_; refine v_move ?_; refine r_nil ?_; refine th_n ?_; refine w_ret ?_; refine th_r ?_; obtain rfl := inj hF
    exact end_s st (Res.t gA Res.nil) rfl rfl
  · have hF := bif_f hb7 hF; refine w_skip ?_; refine th_n ?_; refine w_seq ?_; obtain ⟨y16, hA17, hF⟩ := bnd_some hF; refine w_cutD (fun T ds19 h nx => ∃ (F19 : PH), ds19 = [] ∧ PH.le F0 F19 ∧ St n0 h0 F0 F19 h nx [.bx b1 [(i64 a0_0), (.slice pa0_1 (a0_1).length ca0_1), (.slice pa0_2 (a0_2).length ca0_2), (i64 a0_3)]] ∧ T.get 30 = some (.bool y16)) ?_ (fun T ds19 h nx hp => ?_)
    · have hK18 := hF
      have hF := hA17; refine w_reg ?_; refine v_move ?_; refine v_len ?_; refine v_move ?_; refine v_len ?_; refine v_nei ?_; refine v_move ?_
      rcases Bool.eq_false_or_eq_true (!(decide (((a2).length : Int) = ((a1).length : Int)))) with hb20 | hb20
      · have hF := bif_t hb20 hF; refine g_skip hb20 ?_; refine g_skip hb20 ?_; refine g_skip hb20 ?_; refine g_skip hb20 ?_; refine g_skip hb20 ?_; refine v_pick hb20 ?_; refine v_move ?_; refine g_skip rfl ?_; refine g_skip rfl ?_; refine g_skip rfl ?_; refine v_pick rfl ?_; refine r_nil ?_; obtain rfl := inj hF; refine thn ⟨rfl, ?_⟩; dsimp only
        exact ⟨F0, rfl, (PH.le.refl _), st, gA⟩
      · have hF := bif_f hb20 hF; refine g_take hb20 (v_move ?_); refine g_take hb20 (v_ldn (vs := [(i64 a0_0), (.slice pa0_1 (a0_1).length ca0_1), (.slice pa0_2 (a0_2).length ca0_2), (i64 a0_3)]) (st.at (i := 0) rfl).2.2 rfl ?_); refine g_take hb20 (v_mf ?_); obtain ⟨v21, e22, hF⟩ := bnd_some hF; refine g_take hb20 (v_call st (ct87_2 N e22 st.d st.sub ra2 ra0_1 ra0_2) (fun n23 st => ?_)); refine g_take hb20 (v_not ?_); refine v_pick' hb20 ?_; refine v_move ?_
        rcases Bool.eq_false_or_eq_true (!v21) with hb24 | hb24
        · have hF := bif_t hb24 hF; refine g_skip hb24 ?_; refine g_skip hb24 ?_; refine g_skip hb24 ?_; refine v_pick hb24 ?_; refine r_nil ?_; obtain rfl := inj hF; refine thn ⟨rfl, ?_⟩; dsimp only
          exact ⟨F0, rfl, (PH.le.refl _), st, gA⟩
        · have hF := bif_f hb24 hF; refine g_take hb24 (v_move ?_); obtain ⟨v25, e26, hF⟩ := bnd_some hF; refine g_take hb24 (v_call st (ct88 N e26 st.d st.sub ra2) (fun n27 st => ?_)); refine g_take hb24 (v_not ?_); refine v_pick' hb24 ?_; refine r_nil ?_; obtain rfl := inj hF; refine thn ⟨rfl, ?_⟩; dsimp only
          exact ⟨F0, rfl, (PH.le.refl _), st, gA⟩
    · obtain ⟨F19, rfl, le19, st, t30⟩ := hp; refine v_cond (fun hb28 => ?_) (fun hb28 => ?_)
      · have hF := bif_t hb28 hF; refine w_seq ?_; refine w_reg ?_; refine v_move ?_; refine r_nil ?_; refine th_n ?_; refine w_ret ?_; refine th_r ?_; obtain rfl := inj hF
        exact end_s st (Res.t gA Res.nil) rfl rfl
      · have hF := bif_f hb28 hF; refine w_skip ?_; refine th_n ?_; refine w_seq ?_; refine w_reg ?_; refine v_move ?_; refine r_nil ?_; refine th_n ?_; refine w_ret ?_; obtain rfl := inj hF
        exact end_s st (Res.t gA Res.nil) rfl rfl
end Go.Hx.V

/- Functions of the program come to that. -/
namespace Go.Hx.V
open Go.Hx
set_option linter.unusedVariables false
set_option maxRecDepth 20000
set_option maxHeartbeats 4000000
attribute [local irreducible] W R C thenH inBlockH Tr.get Tr.set lo
theorem ct38 (N : Nat) {a0_0 : Int} {a0_1 : (List (Int × Int))} {a0_2 : (List (Int × Int × Int))} {a0_3 : Int} {a1 : (List Int)} {r : (Int × Int)} (hF : sf38 N a0_0 a0_1 a0_2 a0_3 a1 = some r) {fl : Nat} {h0 : Tr HBlk} {n0 : Nat} {F0 : PH} (hd : D h0 n0) (hs : F0.sub h0) {pa0_1 : Option (Nat × Nat)} {ca0_1 : Nat} {pa0_2 : Option (Nat × Nat)} {ca0_2 : Nat} {pa1 : Option (Nat × Nat)} {ca1 : Nat} (ra0_1 : RowF (rP rI rI) 2 F0 pa0_1 ca0_1 a0_1) (ra0_2 : RowF (rP rI (rP rI rI)) 3 F0 pa0_2 ca0_2 a0_2) (ra1 : RowF rI 1 F0 pa1 ca1 a1) : C LW fl 38 [(.agg [(i64 a0_0), (.slice pa0_1 (a0_1).length ca0_1), (.slice pa0_2 (a0_2).length ca0_2), (i64 a0_3)]), (.slice pa1 (a1).length ca1)] ⟨h0, n0⟩ (KS (.tuple [(i64 r.1), (i64 r.2)]) n0 h0) := by
  unfold sf38 at hF
  refine in_cT hd hs lw38 rfl rfl (by rfl) (fun st T hT => ?_)
  have hfl : n0 ≤ n0 := Nat.le_refl n0
  have t0 := hT 0 _ rfl
  have t1 := hT 1 _ rfl
  dsimp only [L38]
  refine w_seq ?_; refine w_reg ?_; refine v_box st (fun b1 h2 n3 st => ?_); refine v_move ?_; refine v_move ?_; refine r_nil ?_; refine th_n ?_; refine w_seq ?_; refine w_seq ?_; refine w_reg ?_; refine v_ldn (vs := [(i64 a0_0), (.slice pa0_1 (a0_1).length ca0_1), (.slice pa0_2 (a0_2).length ca0_2), (i64 a0_3)]) (st.at (i := 0) rfl).2.2 rfl ?_; refine v_move ?_; obtain ⟨v4, e5, hF⟩ := bnd_some hF; refine v_call st (ct66 N e5 st.d st.sub ra0_1 ra0_2 ra1) (fun n6 st => ?_); refine v_move ?_; refine r_nil ?_; refine th_n ?_; refine w_seq ?_; refine w_reg ?_; refine v_move ?_; refine v_nei ?_; refine r_nil ?_; refine th_n ?_; refine v_cond (fun hb7 => ?_) (fun hb7 => ?_)
  · have hF := bif_t hb7 hF; refine w_seq ?_; refine w_reg ?_; refine v_move ?_; refine v_move ?_; refine v_move ?_; refine r_nil ?_; refine th_n ?_; refine w_ret ?_; refine th_r ?_; obtain rfl := inj hF
    exact end_s st (Res.t gA (Res.t gA Res.nil)) rfl rfl
  · have hF := bif_f hb7 hF; refine w_skip ?_; refine th_n ?_; refine w_seq ?_; refine w_seq ?_; refine w_reg ?_; refine v_move ?_; refine v_len ?_; refine v_fa ?_; refine v_ld1 (st.at (i := 0) rfl).2.2 rfl ?_; obtain ⟨q8, hF⟩ := ck_some hF; refine v_add q8 ?_; refine v_gtr ?_; refine r_nil ?_; refine th_n ?_; refine v_cond (fun hb9 => ?_) (fun hb9 => ?_)
    · have hF := bif_t hb9 hF; refine w_seq ?_; refine w_reg ?_; refine v_move ?_; refine v_move ?_; refine r_nil ?_; refine th_n ?_; refine w_ret ?_; refine th_r ?_; obtain rfl := inj hF
      exact end_s st (Res.t gA (Res.t gA Res.nil)) rfl rfl
    · have hF := bif_f hb9 hF; refine w_skip ?_; refine th_n ?_; refine w_seq ?_; refine w_reg ?_; refine v_ldn (vs := [(i64 a0_0), (.slice pa0_1 (a0_1).length ca0_1), (.slice pa0_2 (a0_2).length ca0_2), (i64 a0_3)]) (st.at (i := 0) rfl).2.2 rfl ?_; obtain ⟨v10, e11, hF⟩ := bnd_some hF; refine v_callR st (ct54 N e11 st.d st.sub (Nat.le_trans hfl st.ext.le) ra0_1 ra0_2) (fun u12 F12 h12 n12 le12 rv12 st => ?_); obtain ⟨_, rfl, ⟨_, _, rfl, rfl, ⟨_, _, rfl, ⟨py13, cy13, rfl, ry13⟩, ⟨_, _, rfl, ⟨py14, cy14, rfl, ry14⟩, ⟨_, _, rfl, rfl, ⟨_, _, rfl, ⟨py15, cy15, rfl, ry15⟩, ⟨py16, cy16, rfl, ry16⟩⟩⟩⟩⟩⟩⟩ := rv12; refine v_move ?_; obtain ⟨v17, e18, hF⟩ := bnd_some hF; refine v_call st (ct67 N e18 st.d st.sub ry13 ry14 ry15 ry16 (RowF.mono le12 ra1)) (fun n19 st => ?_)
      refine v_move ?_; refine v_move ?_; refine r_nil ?_; refine th_n ?_; refine w_ret ?_; obtain rfl := inj hF
      exact end_s st (Res.t gA (Res.t gA Res.nil)) rfl rfl
end Go.Hx.V

/- Functions of the program come to that. -/
namespace Go.Hx.V
open Go.Hx
set_option linter.unusedVariables false
set_option maxRecDepth 20000
set_option maxHeartbeats 4000000
attribute [local irreducible] W R C thenH inBlockH Tr.get Tr.set lo
end Go.Hx.V

/- Functions of the program come to that. -/
namespace Go.Hx.V
open Go.Hx
set_option linter.unusedVariables false
set_option maxRecDepth 20000
set_option maxHeartbeats 4000000
attribute [local irreducible] W R C thenH inBlockH Tr.get Tr.set lo
end Go.Hx.V

/- Functions of the program come to that. -/
namespace Go.Hx.V
open Go.Hx
set_option linter.unusedVariables false
set_option maxRecDepth 20000
set_option maxHeartbeats 4000000
attribute [local irreducible] W R C thenH inBlockH Tr.get Tr.set lo
theorem ct43 (N : Nat) {a0_0 : Int} {a0_1 : (List (Int × Int))} {a0_2 : (List (Int × Int × Int))} {a0_3 : Int} {a1 : (List Int)} {a2 : (List Int)} {a3 : Int} {a4 : Int} {r : Bool} (hF : sf43 N a0_0 a0_1 a0_2 a0_3 a1 a2 a3 a4 = some r) {fl : Nat} {h0 : Tr HBlk} {n0 : Nat} {F0 : PH} (hd : D h0 n0) (hs : F0.sub h0) {pa0_1 : Option (Nat × Nat)} {ca0_1 : Nat} {pa0_2 : Option (Nat × Nat)} {ca0_2 : Nat} {pa1 : Option (Nat × Nat)} {ca1 : Nat} {pa2 : Option (Nat × Nat)} {ca2 : Nat} (ra0_1 : RowF (rP rI rI) 2 F0 pa0_1 ca0_1 a0_1) (ra0_2 : RowF (rP rI (rP rI rI)) 3 F0 pa0_2 ca0_2 a0_2) (ra1 : RowF rI 1 F0 pa1 ca1 a1) (ra2 : RowF rI 1 F0 pa2 ca2 a2) : C LW fl 43 [(.agg [(i64 a0_0), (.slice pa0_1 (a0_1).length ca0_1), (.slice pa0_2 (a0_2).length ca0_2), (i64 a0_3)]), (.slice pa1 (a1).length ca1), (.slice pa2 (a2).length ca2), (i64 a3), (i64 a4)] ⟨h0, n0⟩ (KS (.bool r) n0 h0) := by
  unfold sf43 at hF
  refine in_cT hd hs lw43 rfl rfl (by rfl) (fun st T hT => ?_)
  have hfl : n0 ≤ n0 := Nat.le_refl n0
  have t0 := hT 0 _ rfl
  have t1 := hT 1 _ rfl
  have t2 := hT 2 _ rfl
  have t3 := hT 3 _ rfl
  have t4 := hT 4 _ rfl
  dsimp only [L43]
  refine w_seq ?_; refine w_reg ?_; refine v_box st (fun b1 h2 n3 st => ?_); refine v_move ?_; refine r_nil ?_; refine th_n ?_; obtain ⟨y31, hA32, hF⟩ := bnd_some hF; refine w_cutD (fun T ds37 h nx => ∃ u, y31 = (.inr u) ∧ ∃ (F37 : PH), ds37 = [] ∧ PH.le F0 F37 ∧ St n0 h0 F0 F37 h nx [.bx b1 [(i64 a0_0), (.slice pa0_1 (a0_1).length ca0_1), (.slice pa0_2 (a0_2).length ca0_2), (i64 a0_3)]] ∧ T.get 1 = some (.slice pa1 (a1).length ca1) ∧ T.get 2 = some (.slice pa2 (a2).length ca2) ∧ T.get 3 = some (i64 a3) ∧ T.get 5 = some (.ptr (some (b1, 0)))) ?_ (fun T ds37 h nx hp => ?_)
  · have hK33 := hF
    have hF := hA32; obtain ⟨y49, hA50, hF⟩ := bnd_some hF; refine w_cutD (fun T ds52 h nx => ∃ (F52 : PH), ds52 = [] ∧ PH.le F0 F52 ∧ St n0 h0 F0 F52 h nx [.bx b1 [(i64 a0_0), (.slice pa0_1 (a0_1).length ca0_1), (.slice pa0_2 (a0_2).length ca0_2), (i64 a0_3)]] ∧ T.get 1 = some (.slice pa1 (a1).length ca1) ∧ T.get 2 = some (.slice pa2 (a2).length ca2) ∧ T.get 3 = some (i64 a3) ∧ T.get 5 = some (.ptr (some (b1, 0))) ∧ T.get 26 = some (.bool y49)) ?_ (fun T ds52 h nx hp => ?_)
    · have hK51 := hF
      have hF := hA50; refine w_reg ?_; refine v_ldn (vs := [(i64 a0_0), (.slice pa0_1 (a0_1).length ca0_1), (.slice pa0_2 (a0_2).length ca0_2), (i64 a0_3)]) (st.at (i := 0) rfl).2.2 rfl ?_; refine v_move ?_; refine v_move ?_; obtain ⟨v53, e54, hF⟩ := bnd_some hF; refine v_call st (ct57 N e54 st.d st.sub ra0_1 ra0_2 ra1 ra2) (fun n55 st => ?_); refine v_nei ?_; refine v_move ?_
      rcases Bool.eq_false_or_eq_true (!(decide (v53 = (0 : Int)))) with hb56 | hb56
      · have hF := bif_t hb56 hF; refine g_skip hb56 ?_; refine g_skip hb56 ?_; refine g_skip hb56 ?_; refine v_pick hb56 ?_; refine v_move ?_; refine g_skip rfl ?_; refine g_skip rfl ?_; refine g_skip rfl ?_; refine g_skip rfl ?_; refine v_pick rfl ?_; refine r_nil ?_; obtain rfl := inj hF; refine thn ⟨rfl, ?_⟩; dsimp only
        exact ⟨F0, rfl, (PH.le.refl _), st, gA, gA, gA, gA, gA⟩
      · have hF := bif_f hb56 hF; refine g_take hb56 (v_move ?_); obtain ⟨v57, e58, hF⟩ := bnd_some hF; refine g_take hb56 (v_call st (ct60 N e58 st.d st.sub ) (fun n59 st => ?_)); refine g_take hb56 (v_not ?_); refine v_pick' hb56 ?_; refine v_move ?_
        rcases Bool.eq_false_or_eq_true (!v57) with hb60 | hb60
        · have hF := bif_t hb60 hF; refine g_skip hb60 ?_; refine g_skip hb60 ?_; refine g_skip hb60 ?_; refine g_skip hb60 ?_; refine v_pick hb60 ?_; refine r_nil ?_; obtain rfl := inj hF; refine thn ⟨rfl, ?_⟩; dsimp only
          exact ⟨F0, rfl, (PH.le.refl _), st, gA, gA, gA, gA, gA⟩
        · have hF := bif_f hb60 hF; refine g_take hb60 (v_move ?_); obtain ⟨v61, e62, hF⟩ := bnd_some hF; refine g_take hb60 (v_call st (ct71 N e62 st.d st.sub ra2) (fun n63 st => ?_)); refine g_take hb60 (v_move ?_); refine g_take hb60 (v_gtr ?_); refine v_pick' hb60 ?_; refine r_nil ?_; obtain rfl := inj hF; refine thn ⟨rfl, ?_⟩; dsimp only
          exact ⟨F0, rfl, (PH.le.refl _), st, gA, gA, gA, gA, gA⟩
    · obtain ⟨F52, rfl, le52, st, t1, t2, t3, t5, t26⟩ := hp; refine v_cond (fun hb64 => ?_) (fun hb64 => ?_)
      · have hF := bif_t hb64 hF; refine w_seq ?_; refine w_reg ?_; refine v_move ?_; refine r_nil ?_; refine th_n ?_; refine w_ret ?_; obtain rfl := inj hF; have hF := hK33; have hF := sel_l hF; refine th_r ?_; obtain rfl := inj hF
        exact end_s st (Res.t gA Res.nil) rfl rfl
      · have hF := bif_f hb64 hF; refine w_skip ?_; obtain rfl := inj hF; refine thn ⟨rfl, _, rfl, ?_⟩; dsimp only
        exact ⟨F52, rfl, le52, st, gA, gA, gA, gA⟩
  · obtain ⟨w36, rfl, F37, rfl, le37, st, t1, t2, t3, t5⟩ := hp; have hF := sel_r hF; refine w_seq ?_; refine w_drawV (Nat.le_trans hfl st.ext.le) (fun dw => ?_)
    have wf := Wf.start st
    refine y_pure st.d dw (fun hm vw => v_move pr_nil) ?_; refine y_pure st.d dw (fun hm vw => v_move pr_nil) ?_; obtain ⟨v65, e66, hF⟩ := bnd_some hF
    refine y_deep st dw wf (fun hm vw => u_callR (ct58 N e66 vw.d (FF.sub wf st vw) (Nat.max_le.2 ⟨by have := dw.le; have := st.ext.le; omega, Nat.le_refl _⟩) (RowF.mono (PH.le.trans le37 FF.base) ra1) (RowF.mono (PH.le.trans le37 FF.base) ra2)) (fun v F' h' n' ex l1 l2 l3 l4 => r_nil ⟨_, _, rfl, ex, l1, l2, l3, l4⟩)) (fun u67 F67 n67 done hn' dw67 wf67 rv67 le67 => ?_)
    have wf := wf67
    have dw := dw67
    obtain ⟨py68, cy68, rfl, ry68⟩ := rv67; refine y_pure st.d dw (fun hm vw => v_ldn (vs := [(i64 a0_0), (.slice pa0_1 (a0_1).length ca0_1), (.slice pa0_2 (a0_2).length ca0_2), (i64 a0_3)]) (vw.bx (st.at (i := 0) rfl)) rfl pr_nil) ?_; refine y_end st.d dw rfl (fun h69 ex vs => ?_)
    obtain ⟨F70, lt70, st⟩ := St.laidF st dw wf ex vs (Lay.nil (by have := dw.le; omega)) (fun e he => by cases he)
    have lz71 := lt70 _ (le67 (fun _ => true) rfl (fun _ _ => rfl))
    have lb70 := lt70 _ FF.base
    have le72 := PH.le.trans le37 lb70
    refine v_move ?_; obtain ⟨v73, e74, hF⟩ := bnd_some hF; refine v_callR st (ct62 N e74 st.d st.sub (Nat.le_trans hfl st.ext.le) (RowF.mono le72 ra0_1) (RowF.mono le72 ra0_2)) (fun u75 F75 h75 n75 le75 rv75 st => ?_)
    have le76 := PH.le.trans le72 le75
    have le77 := PH.le.trans lb70 le75
    have le78 := PH.le.trans lz71 le75
    obtain ⟨_, rfl, ⟨_, _, rfl, rfl, ⟨_, _, rfl, ⟨py79, cy79, rfl, ry79⟩, ⟨_, _, rfl, ⟨py80, cy80, rfl, ry80⟩, ⟨_, _, rfl, rfl, ⟨_, _, rfl, ⟨py81, cy81, rfl, ry81⟩, ⟨_, _, rfl, ⟨py82, cy82, rfl, ry82⟩, rfl⟩⟩⟩⟩⟩⟩⟩ := rv75; refine v_mf ?_; obtain ⟨v83, e84, hF⟩ := bnd_some hF; refine v_call st (ct72 N e84 st.d st.sub (RowF.mono le78 ry68) ry79 ry80 ry81 ry82) (fun n85 st => ?_); refine v_move ?_; refine r_nil ?_; refine th_n ?_; refine w_ret ?_; obtain rfl := inj hF
    exact end_s st (Res.t gA Res.nil) rfl rfl
end Go.Hx.V

/- Functions of the program come to that. -/
namespace Go.Hx.V
open Go.Hx
set_option linter.unusedVariables false
set_option maxRecDepth 20000
set_option maxHeartbeats 4000000
attribute [local irreducible] W R C thenH inBlockH Tr.get Tr.set lo
end Go.Hx.V

/- Functions of the program come to that. -/
namespace Go.Hx.V
open Go.Hx
set_option linter.unusedVariables false
set_option maxRecDepth 20000
set_option maxHeartbeats 4000000
attribute [local irreducible] W R C thenH inBlockH Tr.get Tr.set lo
end Go.Hx.V

/- Functions of the program come to that. -/
namespace Go.Hx.V
open Go.Hx
set_option linter.unusedVariables false
set_option maxRecDepth 20000
set_option maxHeartbeats 4000000
attribute [local irreducible] W R C thenH inBlockH Tr.get Tr.set lo
end Go.Hx.V

/- Functions of the program come to that. -/
namespace Go.Hx.V
open Go.Hx
set_option linter.unusedVariables false
set_option maxRecDepth 20000
set_option maxHeartbeats 4000000
attribute [local irreducible] W R C thenH inBlockH Tr.get Tr.set lo
end Go.Hx.V

/- Functions of the program come to that. -/
namespace Go.Hx.V
open Go.Hx
set_option linter.unusedVariables false
set_option maxRecDepth 20000
set_option maxHeartbeats 4000000
attribute [local irreducible] W R C thenH inBlockH Tr.get Tr.set lo
end Go.Hx.V

