/- Functions of the program come to that. -/
import Derived.Test.YtamfcjekhiapdaaH05
set_option linter.all false
/- Functions of the program come to that. -/
namespace Go.Hx.V
open Go.Hx
set_option linter.unusedVariables false
set_option maxRecDepth 20000
set_option maxHeartbeats 4000000
attribute [local irreducible] W R C thenH inBlockH Tr.get Tr.set lo
theorem ct52 (N : Nat) {a0_0 : Int} {a0_1 : (List (Int × Int))} {a0_2 : (List (Int × Int × Int))} {a0_3 : Int} {a1_0 : (List Int)} {a1_1 : (List Int)} {r : Bool} (hF : sf52 N a0_0 a0_1 a0_2 a0_3 a1_0 a1_1 = some r) {fl : Nat} {h0 : Tr HBlk} {n0 : Nat} {F0 : PH} (hd : D h0 n0) (hs : F0.sub h0) {pa0_1 : Option (Nat × Nat)} {ca0_1 : Nat} {pa0_2 : Option (Nat × Nat)} {ca0_2 : Nat} {pa1_0 : Option (Nat × Nat)} {ca1_0 : Nat} {pa1_1 : Option (Nat × Nat)} {ca1_1 : Nat} (ra0_1 : RowF (rP rI rI) 2 F0 pa0_1 ca0_1 a0_1) (ra0_2 : RowF (rP rI (rP rI rI)) 3 F0 pa0_2 ca0_2 a0_2) (ra1_0 : RowF rI 1 F0 pa1_0 ca1_0 a1_0) (ra1_1 : RowF rI 1 F0 pa1_1 ca1_1 a1_1) : C LW fl 52 [(.agg [(i64 a0_0), (.slice pa0_1 (a0_1).length ca0_1), (.slice pa0_2 (a0_2).length ca0_2), (i64 a0_3)]), (.agg [(.slice pa1_0 (a1_0).length ca1_0), (.slice pa1_1 (a1_1).length ca1_1)])] ⟨h0, n0⟩ (KS (.bool r) n0 h0) := by
  unfold sf52 at hF
  refine in_cT hd hs lw52 rfl rfl (by rfl) (fun st T hT => ?_)
  have hfl : n0 ≤ n0 := Nat.le_refl n0
  have t0 := hT 0 _ rfl
  have t1 := hT 1 _ rfl
  dsimp only [L52]
  refine w_seq ?_; refine w_reg ?_; refine v_box st (fun b1 h2 n3 st => ?_); refine v_box st (fun b4 h5 n6 st => ?_); refine v_move ?_; refine r_nil ?_; refine th_n ?_; obtain ⟨y14, hA15, hF⟩ := bnd_some hF; refine w_cutD (fun T ds20 h nx => ∃ u, y14 = (.inr u) ∧ ∃ (F20 : PH), ds20 = [] ∧ PH.le F0 F20 ∧ St n0 h0 F0 F20 h nx [.bx b1 [(i64 a0_0), (.slice pa0_1 (a0_1).length ca0_1), (.slice pa0_2 (a0_2).length ca0_2), (i64 a0_3)], .bx b4 [(.slice pa1_0 (a1_0).length ca1_0), (.slice pa1_1 (a1_1).length ca1_1)]] ∧ T.get 2 = some (.ptr (some (b1, 0))) ∧ T.get 3 = some (.ptr (some (b4, 0)))) ?_ (fun T ds20 h nx hp => ?_)
  · have hK16 := hF
    have hF := hA15; obtain ⟨y22, hA23, hF⟩ := bnd_some hF; refine w_cutD (fun T ds25 h nx => ∃ (F25 : PH), ds25 = [] ∧ PH.le F0 F25 ∧ St n0 h0 F0 F25 h nx [.bx b1 [(i64 a0_0), (.slice pa0_1 (a0_1).length ca0_1), (.slice pa0_2 (a0_2).length ca0_2), (i64 a0_3)], .bx b4 [(.slice pa1_0 (a1_0).length ca1_0), (.slice pa1_1 (a1_1).length ca1_1)]] ∧ T.get 2 = some (.ptr (some (b1, 0))) ∧ T.get 3 = some (.ptr (some (b4, 0))) ∧ T.get 24 = some (.bool y22)) ?_ (fun T ds25 h nx hp => ?_)
    · have hK24 := hF
      have hF := hA23; refine w_reg ?_; refine v_fa ?_; refine v_ld1 (st.at (i := 1) rfl).2.2 rfl ?_; refine v_len ?_; refine v_fa ?_; refine v_ld1 (st.at (i := 0) rfl).2.2 rfl ?_; refine v_len ?_; refine v_nei ?_; refine v_move ?_
      rcases Bool.eq_false_or_eq_true (!(decide (((a1_0).length : Int) = ((a0_1).length : Int)))) with hb26 | hb26
      · have hF := bif_t hb26 hF; refine g_skip hb26 ?_; refine g_skip hb26 ?_; refine g_skip hb26 ?_; refine g_skip hb26 ?_; refine g_skip hb26 ?_; refine g_skip hb26 ?_; refine g_skip hb26 ?_; refine v_pick hb26 ?_; refine r_nil ?_; obtain rfl := inj hF; refine thn ⟨rfl, ?_⟩; dsimp only
        exact ⟨F0, rfl, (PH.le.refl _), st, gA, gA, gA⟩
      · have hF := bif_f hb26 hF; refine g_take hb26 (v_fa ?_); refine g_take hb26 (v_ld1 (st.at (i := 1) rfl).2.2 rfl ?_); refine g_take hb26 (v_len ?_); refine g_take hb26 (v_fa ?_); refine g_take hb26 (v_ld1 (st.at (i := 0) rfl).2.2 rfl ?_); refine g_take hb26 (v_len ?_); refine g_take hb26 (v_nei ?_); refine v_pick' hb26 ?_; refine r_nil ?_; obtain rfl := inj hF; refine thn ⟨rfl, ?_⟩; dsimp only
        exact ⟨F0, rfl, (PH.le.refl _), st, gA, gA, gA⟩
    · obtain ⟨F25, rfl, le25, st, t2, t3, t24⟩ := hp; refine v_cond (fun hb27 => ?_) (fun hb27 => ?_)
      · have hF := bif_t hb27 hF; refine w_seq ?_; refine w_reg ?_; refine v_move ?_; refine r_nil ?_; refine th_n ?_; refine w_ret ?_; obtain rfl := inj hF; have hF := hK16; have hF := sel_l hF; refine th_r ?_; obtain rfl := inj hF
        exact end_s st (Res.t gA Res.nil) rfl rfl
      · have hF := bif_f hb27 hF; refine w_skip ?_; obtain rfl := inj hF; refine thn ⟨rfl, _, rfl, ?_⟩; dsimp only
        exact ⟨F25, rfl, le25, st, gA, gA⟩
  · obtain ⟨w19, rfl, F20, rfl, le20, st, t2, t3⟩ := hp; have hF := sel_r hF; refine w_seq ?_; refine w_seq ?_; refine w_reg ?_; refine v_fa ?_; refine v_ld1 (st.at (i := 0) rfl).2.2 rfl ?_; refine v_len ?_; refine v_move ?_; refine r_nil ?_; refine th_n ?_; refine w_block ?_; obtain ⟨y44, hy, hF⟩ := bnd_some hF; refine v_loopD (sf52_L1 N a0_1 a1_0) (fun x28 T ds29 h nx => ∃ (F29 : PH), ds29 = [] ∧ PH.le F20 F29 ∧ St n0 h0 F0 F29 h nx [.bx b1 [(i64 a0_0), (.slice pa0_1 (a0_1).length ca0_1), (.slice pa0_2 (a0_2).length ca0_2), (i64 a0_3)], .bx b4 [(.slice pa1_0 (a1_0).length ca1_0), (.slice pa1_1 (a1_1).length ca1_1)]] ∧ T.get 2 = some (.ptr (some (b1, 0))) ∧ T.get 3 = some (.ptr (some (b4, 0))) ∧ T.get 26 = some (.slice pa0_1 (a0_1).length ca0_1) ∧ T.get 27 = some (i64 ((a0_1).length : Int)) ∧ T.get 28 = some (i64 x28)) (fun y e a σ => (∃ u, y = (.inl u) ∧ e = .ret ∧ a.nt = 60 ∧ ∃ (F46 : PH), a.defers = [] ∧ PH.le F20 F46 ∧ St n0 h0 F0 F46 σ.h σ.nx [.bx b1 [(i64 a0_0), (.slice pa0_1 (a0_1).length ca0_1), (.slice pa0_2 (a0_2).length ca0_2), (i64 a0_3)], .bx b4 [(.slice pa1_0 (a1_0).length ca1_0), (.slice pa1_1 (a1_1).length ca1_1)]] ∧ a.tmps.get 4 = some (.bool false)) ∨ (∃ u, y = (.inr u) ∧ e = .exit 0 ∧ a.nt = 60 ∧ ∃ (F48 : PH), a.defers = [] ∧ PH.le F20 F48 ∧ St n0 h0 F0 F48 σ.h σ.nx [.bx b1 [(i64 a0_0), (.slice pa0_1 (a0_1).length ca0_1), (.slice pa0_2 (a0_2).length ca0_2), (i64 a0_3)], .bx b4 [(.slice pa1_0 (a1_0).length ca1_0), (.slice pa1_1 (a1_1).length ca1_1)]] ∧ a.tmps.get 2 = some (.ptr (some (b1, 0))) ∧ a.tmps.get 3 = some (.ptr (some (b4, 0))))) (fun x28 T ds29 h nx s hp hF => ?_) N _ y44 _ _ _ _ hy ⟨F20, rfl, (PH.le.refl _), st, gA, gA, gA, gA, gA⟩ (fun e a σ hne hq => ?_)
    · obtain ⟨F29, rfl, le29, st, t2, t3, t26, t27, t28⟩ := hp
      have le30 := PH.le.trans le20 le29
      unfold sf52_L1 at hF; unfold L52w1; refine w_seq ?_; refine w_reg ?_; refine v_lss ?_; refine r_nil ?_; refine th_n ?_; refine w_seq ?_; refine v_cond (fun hb49 => ?_) (fun hb49 => ?_)
      · have hF := bif_t hb49 hF; refine w_skip ?_; refine th_n ?_; refine w_seq ?_; refine w_block ?_; refine w_seq ?_; refine w_reg ?_; refine v_move ?_; obtain ⟨n50, x50, z50, l50, g50, hF⟩ := ix_some hF; obtain ⟨b50, o50, s50, j50, r50, e50, f50, k50, ⟨_, _, rfl, rfl, rfl⟩⟩ := RowF.get ra0_1 g50; refine v_ixp e50 z50 l50 ?_; refine v_ldn (st.sub _ _ (le30 _ _ f50)) k50 ?_; refine v_alloc st (fun b51 h52 n53 st => ?_); refine v_move ?_; refine v_st (cs' := [(i64 x50.1), (i64 x50.2)]) st 2 rfl rfl rfl rfl hfl (fun h54 st => ?_); refine r_nil ?_; refine th_n ?_; refine w_seq ?_; refine w_drawV (Nat.le_trans hfl st.ext.le) (fun dw => ?_); refine y_pure st.d dw (fun hm vw => v_ldn (vs := [(i64 x50.1), (i64 x50.2)]) (vw.bx (st.at (i := 2) rfl)) rfl pr_nil) ?_
        refine y_pure st.d dw (fun hm vw => v_fa pr_nil) ?_; refine y_pure st.d dw (fun hm vw => v_ld1 (vw.bx (st.at (i := 1) rfl)) rfl pr_nil) ?_; refine y_pure st.d dw (fun hm vw => v_move pr_nil) ?_; obtain ⟨n55, x55, z55, l55, g55, hF⟩ := ix_some hF; obtain ⟨b55, o55, s55, j55, r55, e55, f55, k55, rfl⟩ := RowF.get ra1_0 g55; refine y_pure st.d dw (fun hm vw => v_ixp e55 z55 l55 pr_nil) ?_; refine y_pure st.d dw (fun hm vw => v_ld1 (vw.fz st (le30 _ _ f55)) (take_at (j := 0) k55 rfl) pr_nil) ?_; refine y_end st.d dw rfl (fun h56 ex vs => ?_)
        have st := st.ext1 ex
        obtain ⟨v57, e58, hF⟩ := bnd_some hF; refine v_call st (ct80 N e58 st.d st.sub ) (fun n59 st => ?_); refine v_not ?_; refine r_nil ?_; refine th_n ?_; refine v_cond (fun hb60 => ?_) (fun hb60 => ?_)
        · have hF := bif_t hb60 hF; refine w_seq ?_; refine w_reg ?_; refine v_move ?_; refine r_nil ?_; refine th_n ?_; refine w_ret ?_; refine ib_r ?_; refine th_r ?_; refine th_r ?_; refine ⟨_, (inj hF).symm, .inl ⟨_, rfl, rfl, rfl, ?_⟩⟩; dsimp only
          exact ⟨F29, rfl, le29, (st.drop (by first | exact List.Sublist.refl _ | (repeat first | exact List.nil_sublist _ | refine List.Sublist.cons_cons _ ?_ | refine List.Sublist.cons _ ?_))), gA⟩
        · have hF := bif_f hb60 hF; refine w_skip ?_; refine ib_n ?_; refine th_n ?_; refine w_reg ?_; obtain ⟨q61, hF⟩ := ck_some hF; refine v_add q61 ?_; refine v_move ?_; refine r_nil ?_; refine thn ⟨_, (inj hF).symm, rfl, ?_⟩; dsimp only
          exact ⟨F29, rfl, le29, (st.drop (by first | exact List.Sublist.refl _ | (repeat first | exact List.nil_sublist _ | refine List.Sublist.cons_cons _ ?_ | refine List.Sublist.cons _ ?_))), gA, gA, gA, gA, gA⟩
      · have hF := bif_f hb49 hF; refine w_exit ?_; refine th_e ?_; refine th_e ?_; refine ⟨_, (inj hF).symm, .inr (⟨_, rfl, rfl, rfl, ?_⟩)⟩; dsimp only
        exact ⟨F29, rfl, le29, st, gA, gA⟩
    · rcases hq with hq | hq
      · obtain ⟨N9, T, ds46⟩ := a; obtain ⟨h63, n64⟩ := σ; obtain ⟨w45, rfl, rfl, e1, F46, e2, le46, st, t4⟩ := hq
        dsimp only at e1 e2
        subst e1
        subst e2
        dsimp only at st t4
        have le62 := PH.le.trans le20 le46
        have hF := sel_l hF; refine ib_r ?_; refine th_r ?_; obtain rfl := inj hF
        exact end_s st (Res.t gA Res.nil) rfl rfl
      · obtain ⟨N9, T, ds48⟩ := a; obtain ⟨h66, n67⟩ := σ; obtain ⟨w47, rfl, rfl, e1, F48, e2, le48, st, t2, t3⟩ := hq
        dsimp only at e1 e2
        subst e1
        subst e2
        dsimp only at st t2 t3
        have le65 := PH.le.trans le20 le48
        have hF := sel_r hF; refine ib_e ?_; refine th_n ?_; refine w_seq ?_; refine w_seq ?_; refine w_reg ?_; refine v_fa ?_; refine v_ld1 (st.at (i := 0) rfl).2.2 rfl ?_; refine v_len ?_; refine v_move ?_; refine r_nil ?_; refine th_n ?_; refine w_block ?_; obtain ⟨y85, hy, hF⟩ := bnd_some hF; refine v_loopD (sf52_L2 N a0_2 a1_1) (fun x68 T ds69 h nx => ∃ (F69 : PH), ds69 = [] ∧ PH.le F48 F69 ∧ St n0 h0 F0 F69 h nx [.bx b1 [(i64 a0_0), (.slice pa0_1 (a0_1).length ca0_1), (.slice pa0_2 (a0_2).length ca0_2), (i64 a0_3)], .bx b4 [(.slice pa1_0 (a1_0).length ca1_0), (.slice pa1_1 (a1_1).length ca1_1)]] ∧ T.get 3 = some (.ptr (some (b4, 0))) ∧ T.get 43 = some (.slice pa0_2 (a0_2).length ca0_2) ∧ T.get 44 = some (i64 ((a0_2).length : Int)) ∧ T.get 45 = some (i64 x68)) (fun y e a σ => (∃ u, y = (.inl u) ∧ e = .ret ∧ a.nt = 60 ∧ ∃ (F87 : PH), a.defers = [] ∧ PH.le F48 F87 ∧ St n0 h0 F0 F87 σ.h σ.nx [.bx b1 [(i64 a0_0), (.slice pa0_1 (a0_1).length ca0_1), (.slice pa0_2 (a0_2).length ca0_2), (i64 a0_3)], .bx b4 [(.slice pa1_0 (a1_0).length ca1_0), (.slice pa1_1 (a1_1).length ca1_1)]] ∧ a.tmps.get 4 = some (.bool false)) ∨ (∃ u, y = (.inr u) ∧ e = .exit 2 ∧ a.nt = 60 ∧ ∃ (F89 : PH), a.defers = [] ∧ PH.le F48 F89 ∧ St n0 h0 F0 F89 σ.h σ.nx [.bx b1 [(i64 a0_0), (.slice pa0_1 (a0_1).length ca0_1), (.slice pa0_2 (a0_2).length ca0_2), (i64 a0_3)], .bx b4 [(.slice pa1_0 (a1_0).length ca1_0), (.slice pa1_1 (a1_1).length ca1_1)]])) (fun x68 T ds69 h nx s hp hF => ?_) N _ y85 _ _ _ _ hy ⟨F48, rfl, (PH.le.refl _), st, gA, gA, gA, gA⟩ (fun e a σ hne hq => ?_)
        · obtain ⟨F69, rfl, le69, st, t3, t43, t44, t45⟩ := hp
          have le70 := PH.le.trans le65 le69
          have le71 := PH.le.trans le48 le69
          unfold sf52_L2 at hF; unfold L52w0; refine w_seq ?_; refine w_reg ?_; refine v_lss ?_; refine r_nil ?_; refine th_n ?_; refine w_seq ?_; refine v_cond (fun hb90 => ?_) (fun hb90 => ?_)
          · have hF := bif_t hb90 hF; refine w_skip ?_; refine th_n ?_; refine w_seq ?_; refine w_block ?_; refine w_seq ?_; refine w_reg ?_; refine v_move ?_; obtain ⟨n91, x91, z91, l91, g91, hF⟩ := ix_some hF; obtain ⟨b91, o91, s91, j91, r91, e91, f91, k91, ⟨_, _, rfl, rfl, ⟨_, _, rfl, rfl, rfl⟩⟩⟩ := RowF.get ra0_2 g91; refine v_ixp e91 z91 l91 ?_; refine v_ldn (st.sub _ _ (le70 _ _ f91)) k91 ?_; refine v_alloc st (fun b92 h93 n94 st => ?_); refine v_move ?_; refine v_st (cs' := [(i64 x91.1), (i64 x91.2.1), (i64 x91.2.2)]) st 2 rfl rfl rfl rfl hfl (fun h95 st => ?_); refine r_nil ?_; refine th_n ?_; refine w_seq ?_; refine w_drawV (Nat.le_trans hfl st.ext.le) (fun dw => ?_); refine y_pure st.d dw (fun hm vw => v_fa pr_nil) ?_
            refine y_pure st.d dw (fun hm vw => v_ldn (vs := [(i64 x91.2.1), (i64 x91.2.2)]) (vw.bx (st.at (i := 2) rfl)) rfl pr_nil) ?_; refine y_pure st.d dw (fun hm vw => v_fa pr_nil) ?_; refine y_pure st.d dw (fun hm vw => v_ld1 (vw.bx (st.at (i := 1) rfl)) rfl pr_nil) ?_; refine y_pure st.d dw (fun hm vw => v_move pr_nil) ?_; obtain ⟨n96, x96, z96, l96, g96, hF⟩ := ix_some hF; obtain ⟨b96, o96, s96, j96, r96, e96, f96, k96, rfl⟩ := RowF.get ra1_1 g96; refine y_pure st.d dw (fun hm vw => v_ixp e96 z96 l96 pr_nil) ?_; refine y_pure st.d dw (fun hm vw => v_ld1 (vw.fz st (le70 _ _ f96)) (take_at (j := 0) k96 rfl) pr_nil) ?_; refine y_end st.d dw rfl (fun h97 ex vs => ?_)
            have st := st.ext1 ex
            obtain ⟨v98, e99, hF⟩ := bnd_some hF; refine v_call st (ct80 N e99 st.d st.sub ) (fun n100 st => ?_); refine v_not ?_; refine r_nil ?_; refine th_n ?_; refine v_cond (fun hb101 => ?_) (fun hb101 => ?_)
            · have hF := bif_t hb101 hF; refine w_seq ?_; refine w_reg ?_; refine v_move ?_; refine r_nil ?_; refine th_n ?_; refine w_ret ?_; refine ib_r ?_; refine th_r ?_; refine th_r ?_; refine ⟨_, (inj hF).symm, .inl ⟨_, rfl, rfl, rfl, ?_⟩⟩; dsimp only
              exact ⟨F69, rfl, le69, (st.drop (by first | exact List.Sublist.refl _ | (repeat first | exact List.nil_sublist _ | refine List.Sublist.cons_cons _ ?_ | refine List.Sublist.cons _ ?_))), gA⟩
            · have hF := bif_f hb101 hF; refine w_skip ?_; refine ib_n ?_; refine th_n ?_; refine w_reg ?_; obtain ⟨q102, hF⟩ := ck_some hF; refine v_add q102 ?_; refine v_move ?_; refine r_nil ?_; refine thn ⟨_, (inj hF).symm, rfl, ?_⟩; dsimp only
              exact ⟨F69, rfl, le69, (st.drop (by first | exact List.Sublist.refl _ | (repeat first | exact List.nil_sublist _ | refine List.Sublist.cons_cons _ ?_ | refine List.Sublist.cons _ ?_))), gA, gA, gA, gA⟩
          · have hF := bif_f hb90 hF; refine w_exit ?_; refine th_e ?_; refine th_e ?_; refine ⟨_, (inj hF).symm, .inr (⟨_, rfl, rfl, rfl, ?_⟩)⟩; dsimp only
            exact ⟨F69, rfl, le69, st⟩
        · rcases hq with hq | hq
          · obtain ⟨N9, T, ds87⟩ := a; obtain ⟨h105, n106⟩ := σ; obtain ⟨w86, rfl, rfl, e1, F87, e2, le87, st, t4⟩ := hq
            dsimp only at e1 e2
            subst e1
            subst e2
            dsimp only at st t4
            have le103 := PH.le.trans le65 le87
            have le104 := PH.le.trans le48 le87
            have hF := sel_l hF; refine ib_r ?_; refine th_r ?_; obtain rfl := inj hF
            exact end_s st (Res.t gA Res.nil) rfl rfl
          · obtain ⟨N9, T, ds89⟩ := a; obtain ⟨h109, n110⟩ := σ; obtain ⟨w88, rfl, rfl, e1, F89, e2, le89, st⟩ := hq
            dsimp only at e1 e2
            subst e1
            subst e2
            dsimp only at st
            have le107 := PH.le.trans le65 le89
            have le108 := PH.le.trans le48 le89
            have hF := sel_r hF; refine ib_e ?_; refine th_n ?_; refine w_seq ?_; refine w_reg ?_; refine v_move ?_; refine r_nil ?_; refine th_n ?_; refine w_ret ?_; obtain rfl := inj hF
            exact end_s st (Res.t gA Res.nil) rfl rfl
end Go.Hx.V

/- Functions of the program come to that. -/
namespace Go.Hx.V
open Go.Hx
set_option linter.unusedVariables false
set_option maxRecDepth 20000
set_option maxHeartbeats 4000000
attribute [local irreducible] W R C thenH inBlockH Tr.get Tr.set lo
theorem ct53 (N : Nat) {a0_0 : Int} {a0_1 : (List (Int × Int))} {a0_2 : (List (Int × Int × Int))} {a0_3 : Int} {a1_0 : (List Int)} {a1_1 : (List Int)} {r : (List Int)} (hF : sf53 N a0_0 a0_1 a0_2 a0_3 a1_0 a1_1 = some r) {fl : Nat} {h0 : Tr HBlk} {n0 : Nat} {F0 : PH} (hd : D h0 n0) (hs : F0.sub h0) (hfl : fl ≤ n0) {pa0_1 : Option (Nat × Nat)} {ca0_1 : Nat} {pa0_2 : Option (Nat × Nat)} {ca0_2 : Nat} {pa1_0 : Option (Nat × Nat)} {ca1_0 : Nat} {pa1_1 : Option (Nat × Nat)} {ca1_1 : Nat} (ra0_1 : RowF (rP rI rI) 2 F0 pa0_1 ca0_1 a0_1) (ra0_2 : RowF (rP rI (rP rI rI)) 3 F0 pa0_2 ca0_2 a0_2) (ra1_0 : RowF rI 1 F0 pa1_0 ca1_0 a1_0) (ra1_1 : RowF rI 1 F0 pa1_1 ca1_1 a1_1) : C LW fl 53 [(.agg [(i64 a0_0), (.slice pa0_1 (a0_1).length ca0_1), (.slice pa0_2 (a0_2).length ca0_2), (i64 a0_3)]), (.agg [(.slice pa1_0 (a1_0).length ca1_0), (.slice pa1_1 (a1_1).length ca1_1)])] ⟨h0, n0⟩ (KR (lvL rI 1) F0 h0 n0 r) := by
  unfold sf53 at hF
  refine in_mT hd hs hfl lw53 rfl rfl (by rfl) (fun st T hT => ?_)
  have t0 := hT 0 _ rfl
  have t1 := hT 1 _ rfl
  dsimp only [L53]
  have st := st.mk0
  refine w_seq ?_; refine w_reg ?_; refine v_box st (fun b1 h2 n3 st => ?_); refine v_box st (fun b4 h5 n6 st => ?_); refine v_move ?_; refine r_nil ?_; refine th_n ?_; refine w_seq ?_; refine w_reg ?_; refine v_fa ?_; refine v_ld1 (st.at (i := 1) rfl).2.2 rfl ?_; obtain ⟨q7, hF⟩ := ck_some hF; refine v_add q7 ?_; obtain ⟨q8, hF⟩ := ck_some hF
  have w8 : LR rI 1 F0 (List.replicate (Int.toNat (1 : Int)) 0) (Go.Hx.repl (Int.toNat (1 : Int)) [(i64 (0 : Int))]) := LR.repl (rfl) _
  refine v_mk st (n := (List.replicate (Int.toNat (1 : Int)) 0).length) q8.1 q8.2.1 (by simp) q8.2.2.1 q8.2.2.2 (fun o8 h8 n8 st => ?_)
  refine v_alloc st (fun b9 h10 n11 st => ?_); refine v_st (cs' := [(slv o8 ((List.replicate (Int.toNat (1 : Int)) 0)).length (Int.toNat (a0_3 + (1 : Int))))]) st 4 rfl rfl rfl rfl hfl (fun h12 st => ?_); refine r_nil ?_; refine th_n ?_; refine w_seq ?_; refine w_reg ?_; refine v_alloc st (fun b13 h14 n15 st => ?_); refine v_st (cs' := [(i64 (0 : Int))]) st 5 rfl rfl rfl rfl hfl (fun h16 st => ?_); refine r_nil ?_; refine th_n ?_; refine w_seq ?_; refine w_seq ?_; refine w_reg ?_; refine v_move ?_; refine r_nil ?_; refine th_n ?_; refine w_block ?_; obtain ⟨y88, hy, hF⟩ := bnd_some hF; refine v_loopD (sf53_L2 N a0_0 a0_1 a0_2 a0_3 a1_0 a1_1) (fun x17 T ds18 h nx => ∃ (F18 : PH) (o19 : Option Nat) (c19 : Nat) (cs19 : List HV), PH.le F0 F18 ∧ St n0 h0 F0 F18 h nx [.mks ds18, .bx b1 [(i64 a0_0), (.slice pa0_1 (a0_1).length ca0_1), (.slice pa0_2 (a0_2).length ca0_2), (i64 a0_3)], .bx b4 [(.slice pa1_0 (a1_0).length ca1_0), (.slice pa1_1 (a1_1).length ca1_1)], .ls o19 c19 cs19 1, .bx b9 [(slv o19 (x17.2.2).length c19)], .bx b13 [(i64 x17.2.1)]] ∧ LR rI 1 F18 x17.2.2 cs19 ∧ T.get 2 = some (.ptr (some (b1, 0))) ∧ T.get 3 = some (.ptr (some (b4, 0))) ∧ T.get 4 = some (.slice none 0 0) ∧ T.get 5 = some (.ptr (some (b9, 0))) ∧ T.get 6 = some (.ptr (some (b13, 0))) ∧ T.get 7 = some (i64 x17.1)) (fun y e a σ => e = .exit 0 ∧ a.nt = 51 ∧ ∃ (F89 : PH) (o90 : Option Nat) (c90 : Nat) (cs90 : List HV), PH.le F0 F89 ∧ St n0 h0 F0 F89 σ.h σ.nx [.mks a.defers, .bx b1 [(i64 a0_0), (.slice pa0_1 (a0_1).length ca0_1), (.slice pa0_2 (a0_2).length ca0_2), (i64 a0_3)], .bx b4 [(.slice pa1_0 (a1_0).length ca1_0), (.slice pa1_1 (a1_1).length ca1_1)], .ls o90 c90 cs90 1, .bx b9 [(slv o90 (y.2).length c90)], .bx b13 [(i64 y.1)]] ∧ LR rI 1 F89 y.2 cs90 ∧ a.tmps.get 5 = some (.ptr (some (b9, 0)))) (fun x17 T ds18 h nx s hp hF => ?_) N _ y88 _ _ _ _ hy ⟨F0, o8, (Int.toNat (a0_3 + (1 : Int))), (Go.Hx.repl (Int.toNat (1 : Int)) [(i64 (0 : Int))]), (PH.le.refl _), st, w8, gA, gA, gA, gA, gA, gA⟩ (fun e a σ hne hq => ?_)
  · obtain ⟨F18, o19, c19, cs19, le18, st, w19, t2, t3, t4, t5, t6, t7⟩ := hp; unfold sf53_L2 at hF; unfold L53w0; refine w_seq ?_; refine w_seq ?_; refine w_reg ?_; refine v_move ?_; refine v_fa ?_; refine v_ld1 (st.at (i := 1) rfl).2.2 rfl ?_; refine v_lss ?_; refine r_nil ?_; refine th_n ?_; refine v_cond (fun hb91 => ?_) (fun hb91 => ?_)
    · have hF := bif_t hb91 hF; refine w_skip ?_; refine th_n ?_; refine w_seq ?_; refine w_block ?_; refine w_seq ?_; refine w_reg ?_; refine v_ldn (vs := [(i64 a0_0), (.slice pa0_1 (a0_1).length ca0_1), (.slice pa0_2 (a0_2).length ca0_2), (i64 a0_3)]) (st.at (i := 1) rfl).2.2 rfl ?_; refine v_move ?_; refine v_inl lw81 rfl rfl (fun T hT => ?_)
      have t0 := hT 0 _ rfl
      have t1 := hT 1 _ rfl
      dsimp only [L81]
      refine w_seq ?_; refine w_reg ?_; refine v_box st (fun b93 h94 n95 st => ?_); refine v_box st (fun b96 h97 n98 st => ?_); refine v_move ?_; refine r_nil ?_; refine th_n ?_; refine w_seq ?_; refine w_reg ?_; refine v_mf ?_; refine v_move ?_; refine r_nil ?_; refine th_n ?_; refine w_ret ?_; refine inl_end (v := (.func 104 [] [(.ptr (some (b93, 0))), (.ptr (some (b96, 0)))])) (Res.t gA Res.nil) rfl (.inl rfl) (ik ?_); refine r_nil ?_; refine th_n ?_; refine w_block ?_; refine w_rangeV st 0 rfl hfl lw104 rfl rfl (fun l => rfl) (fun m99 l99 r99 T h99 n99 rs99 rp99 rn99 rT99 ro99 ra99 rb99 st hT => ?_); obtain ⟨T99, rt99⟩ : ∃ X, X = r99.tmps := ⟨_, rfl⟩
      have u99_2 : T99.get 2 = some (.ptr (some (b1, 0))) := by rw [rt99, rT99]; repeat first | exact ge_h | refine ge_w rfl ?_ | refine ge_f rfl ?_ | refine ge_m rfl ?_ | assumption
      have u99_3 : T99.get 3 = some (.ptr (some (b4, 0))) := by rw [rt99, rT99]; repeat first | exact ge_h | refine ge_w rfl ?_ | refine ge_f rfl ?_ | refine ge_m rfl ?_ | assumption
      have u99_5 : T99.get 5 = some (.ptr (some (b9, 0))) := by rw [rt99, rT99]; repeat first | exact ge_h | refine ge_w rfl ?_ | refine ge_f rfl ?_ | refine ge_m rfl ?_ | assumption
      have u99_6 : T99.get 6 = some (.ptr (some (b13, 0))) := by rw [rt99, rT99]; repeat first | exact ge_h | refine ge_w rfl ?_ | refine ge_f rfl ?_ | refine ge_m rfl ?_ | assumption
      have t0 := hT 0 _ rfl
      have t1 := hT 1 _ rfl
      have t2 := hT 2 _ rfl
      dsimp only [L104]
      refine w_seq ?_; refine w_reg ?_; refine v_fa ?_; refine v_ld1 (st.at (i := 6) rfl).2.2 rfl ?_; refine v_len ?_; refine v_move ?_; refine r_nil ?_; refine th_n ?_; refine w_block ?_; obtain ⟨y124, hy, hF⟩ := bnd_some hF; refine v_loopD (sf53_L1 N a0_0 a0_1 a0_2 a0_3 a1_0 a1_1 x17) (fun x100 T ds101 h nx => ∃ (F101 : PH) (o102 : Option Nat) (c102 : Nat) (cs102 : List HV), ds101 = [] ∧ PH.le F18 F101 ∧ St n0 h0 F0 F101 h nx [.mks (m99 :: ds18), .bx b1 [(i64 a0_0), (.slice pa0_1 (a0_1).length ca0_1), (.slice pa0_2 (a0_2).length ca0_2), (i64 a0_3)], .bx b4 [(.slice pa1_0 (a1_0).length ca1_0), (.slice pa1_1 (a1_1).length ca1_1)], .ls o102 c102 cs102 1, .bx b9 [(slv o102 (x100.2.2).length c102)], .bx b13 [(i64 x100.2.1)], .bx b93 [(i64 a0_0), (.slice pa0_1 (a0_1).length ca0_1), (.slice pa0_2 (a0_2).length ca0_2), (i64 a0_3)], .bx b96 [(i64 x17.1)], .any l99 (.loop r99)] ∧ LR rI 1 F101 x100.2.2 cs102 ∧ T.get 0 = some (.yield l99) ∧ T.get 1 = some (.ptr (some (b93, 0))) ∧ T.get 2 = some (.ptr (some (b96, 0))) ∧ T.get 8 = some (i64 ((a0_1).length : Int)) ∧ T.get 9 = some (i64 x100.1)) (fun y e a σ => (∃ u, y = (.inl u) ∧ e = .ret ∧ a.nt = 27 ∧ ∃ (F126 : PH) (o127 : Option Nat) (c127 : Nat) (cs127 : List HV), a.defers = [] ∧ PH.le F18 F126 ∧ St n0 h0 F0 F126 σ.h σ.nx [.mks (m99 :: ds18), .bx b1 [(i64 a0_0), (.slice pa0_1 (a0_1).length ca0_1), (.slice pa0_2 (a0_2).length ca0_2), (i64 a0_3)], .bx b4 [(.slice pa1_0 (a1_0).length ca1_0), (.slice pa1_1 (a1_1).length ca1_1)], .ls o127 c127 cs127 1, .bx b9 [(slv o127 (u.2).length c127)], .bx b13 [(i64 u.1)], .bx b93 [(i64 a0_0), (.slice pa0_1 (a0_1).length ca0_1), (.slice pa0_2 (a0_2).length ca0_2), (i64 a0_3)], .bx b96 [(i64 x17.1)], .any l99 (.loop r99)] ∧ LR rI 1 F126 u.2 cs127) ∨ (∃ u, y = (.inr u) ∧ e = .exit 0 ∧ a.nt = 27 ∧ ∃ (F129 : PH) (o130 : Option Nat) (c130 : Nat) (cs130 : List HV), a.defers = [] ∧ PH.le F18 F129 ∧ St n0 h0 F0 F129 σ.h σ.nx [.mks (m99 :: ds18), .bx b1 [(i64 a0_0), (.slice pa0_1 (a0_1).length ca0_1), (.slice pa0_2 (a0_2).length ca0_2), (i64 a0_3)], .bx b4 [(.slice pa1_0 (a1_0).length ca1_0), (.slice pa1_1 (a1_1).length ca1_1)], .ls o130 c130 cs130 1, .bx b9 [(slv o130 (u.2).length c130)], .bx b13 [(i64 u.1)], .bx b93 [(i64 a0_0), (.slice pa0_1 (a0_1).length ca0_1), (.slice pa0_2 (a0_2).length ca0_2), (i64 a0_3)], .bx b96 [(i64 x17.1)], .any l99 (.loop r99)] ∧ LR rI 1 F129 u.2 cs130)) (fun x100 T ds101 h nx s hp hF => ?_) N _ y124 _ _ _ _ hy ⟨F18, o19, c19, cs19, rfl, (PH.le.refl _), st, w19, gA, gA, gA, gA, gA⟩ (fun e a σ hne hq => ?_)
      · obtain ⟨F101, o102, c102, cs102, rfl, le101, st, w102, t0, t1, t2, t8, t9⟩ := hp
        have le103 := PH.le.trans le18 le101
        unfold sf53_L1 at hF; unfold L104w0; refine w_seq ?_; refine w_reg ?_; refine v_lss ?_; refine r_nil ?_; refine th_n ?_; refine w_seq ?_; refine v_cond (fun hb131 => ?_) (fun hb131 => ?_)
        · have hF := bif_t hb131 hF; refine w_skip ?_; refine th_n ?_; refine w_seq ?_; refine w_block ?_; refine w_seq ?_; refine w_reg ?_; refine v_move ?_; refine v_move ?_; refine r_nil ?_; refine th_n ?_; refine w_seq ?_; refine w_reg ?_; refine v_ld1 (st.at (i := 7) rfl).2.2 rfl ?_; refine v_move ?_; obtain ⟨q132, hF⟩ := ck_some hF; refine v_add q132 ?_; refine v_move ?_; refine r_nil ?_; refine th_n ?_; refine w_seq ?_; refine w_reg ?_; refine v_move ?_; refine v_fa ?_; refine v_ld1 (st.at (i := 6) rfl).2.2 rfl ?_; refine v_eqi ?_; refine v_move ?_
          rcases Bool.eq_false_or_eq_true (decide ((x17.1 + x100.1) = a0_3)) with hb133 | hb133
          · have hF := bif_t hb133 hF; refine g_skip hb133 ?_; refine g_skip hb133 ?_; refine g_skip hb133 ?_; refine g_skip hb133 ?_; refine g_skip hb133 ?_; refine v_pick hb133 ?_; refine r_nil ?_; refine th_n ?_; refine v_ct ?_; refine w_ret ?_; refine ib_r ?_; refine th_r ?_; refine th_r ?_; refine ⟨_, (inj hF).symm, .inl ⟨_, rfl, rfl, rfl, ?_⟩⟩; dsimp only
            exact ⟨F101, o102, c102, cs102, rfl, le101, st, w102⟩
          · have hF := bif_f hb133 hF; refine g_take hb133 (v_move ?_); refine g_take hb133 (v_move ?_); refine g_take hb133 (v_move ?_); refine g_take hb133 (v_yield (Tc := T99) (tmps := ((T99.set 26 (some (i64 x100.1))).set 27 (some (i64 (x17.1 + x100.1))))) st 8 rfl rn99 rt99.symm ro99 ra99 rb99 (fun hz => ?_) rfl); refine w_seq ?_; refine w_reg ?_; refine v_move ?_; refine r_nil ?_; refine th_n ?_; refine w_reg ?_; refine v_move ?_; refine r_nil ?_; refine ya_n st 8 rfl rs99 hfl (fun h st => ?_); refine w_block ?_; refine w_seq ?_; refine w_drawV (Nat.le_trans hfl st.ext.le) (fun dw => ?_); refine y_pure st.d dw (fun hm vw => v_ld1 (vw.bx (st.at (i := 5) rfl)) rfl pr_nil) ?_; refine y_pure st.d dw (fun hm vw => v_fa pr_nil) ?_
            refine y_pure st.d dw (fun hm vw => v_ld1 (vw.bx (st.at (i := 1) rfl)) rfl pr_nil) ?_; refine y_pure st.d dw (fun hm vw => v_fa pr_nil) ?_; refine y_pure st.d dw (fun hm vw => v_ld1 (vw.bx (st.at (i := 2) rfl)) rfl pr_nil) ?_; refine y_pure st.d dw (fun hm vw => v_move pr_nil) ?_; obtain ⟨n134, x134, z134, l134, g134, hF⟩ := ix_some hF; obtain ⟨b134, o134, s134, j134, r134, e134, f134, k134, rfl⟩ := RowF.get ra1_0 g134; refine y_pure st.d dw (fun hm vw => v_ixp e134 z134 l134 pr_nil) ?_; refine y_pure st.d dw (fun hm vw => v_ld1 (vw.fz st (le103 _ _ f134)) (take_at (j := 0) k134 rfl) pr_nil) ?_; obtain ⟨q135, hF⟩ := ck_some hF; refine y_pure st.d dw (fun hm vw => v_add q135 pr_nil) ?_
            refine y_pure st.d dw (fun hm vw => v_fa pr_nil) ?_; refine y_pure st.d dw (fun hm vw => v_ld1 (vw.bx (st.at (i := 2) rfl)) rfl pr_nil) ?_; refine y_pure st.d dw (fun hm vw => v_ldn (vs := [(i64 a0_0), (.slice pa0_1 (a0_1).length ca0_1), (.slice pa0_2 (a0_2).length ca0_2), (i64 a0_3)]) (vw.bx (st.at (i := 1) rfl)) rfl pr_nil) ?_; refine y_pure st.d dw (fun hm vw => v_move pr_nil) ?_; obtain ⟨v136, e137, hF⟩ := bnd_some hF; refine y_flat st.d dw (fun hm vw => u_call (ct82 N e137 vw.d (vw.sub st) (RowF.mono le103 ra0_1) (RowF.mono le103 ra0_2)) (fun n' hn' => pf_nil hn')) (fun n138 hn' dw => ?_); obtain ⟨n139, x139, z139, l139, g139, hF⟩ := ix_some hF; obtain ⟨b139, o139, s139, j139, r139, e139, f139, k139, rfl⟩ := RowF.get ra1_1 g139
            refine y_pure st.d dw (fun hm vw => v_ixp e139 z139 l139 pr_nil) ?_; refine y_pure st.d dw (fun hm vw => v_ld1 (vw.fz st (le103 _ _ f139)) (take_at (j := 0) k139 rfl) pr_nil) ?_; refine y_end st.d dw rfl (fun h140 ex vs => ?_)
            have st := st.ext1 ex
            obtain ⟨q141, hF⟩ := ck_some hF; refine v_add q141 ?_; obtain ⟨q142, hF⟩ := ck_some hF; refine v_add q142 ?_; refine v_st (cs' := [(i64 (x100.2.1 + ((a0_0 + x134) + x139)))]) st 5 rfl rfl rfl rfl hfl (fun h143 st => ?_); refine r_nil ?_; refine th_n ?_; refine w_reg ?_; refine v_ld1 (st.at (i := 4) rfl).2.2 rfl ?_; refine v_ld1 (st.at (i := 5) rfl).2.2 rfl ?_; refine v_bs (cs := [(i64 (x100.2.1 + ((a0_0 + x134) + x139)))]) st rfl (fun b144 h145 n146 st => ?_); obtain ⟨q147, hF⟩ := ck_some hF
            have w147 : LR rI 1 F101 (x100.2.2 ++ [(x100.2.1 + ((a0_0 + x134) + x139))]) (cs102 ++ [(i64 (x100.2.1 + ((a0_0 + x134) + x139)))]) := LR.app w102 (LR.one (rfl))
            refine v_aps (n := 1) (ox := 0) (m := (x100.2.2 ++ [(x100.2.1 + ((a0_0 + x134) + x139))]).length) (row := [(i64 (x100.2.1 + ((a0_0 + x134) + x139)))]) st 3 rfl w102.1 (st.at (i := 9) rfl).2.2 rfl rfl q147 hfl (by decide) (by decide) (by simp) (fun o147 c147 h147 n147 st => ?_)
            refine v_st (cs' := [(slv o147 ((x100.2.2 ++ [(x100.2.1 + ((a0_0 + x134) + x139))])).length c147)]) st 4 rfl rfl rfl rfl hfl (fun h148 st => ?_); refine r_nil ?_; refine ib_n ?_; refine yb_n st 8 rfl rs99 rp99 (fun h st => ?_); refine g_take hb133 (v_not ?_); refine v_pick' hb133 ?_; refine r_nil ?_; refine th_n ?_; refine v_cond (fun hq149 => ?_) (fun hq149 => ?_)
            · exact absurd hq149 (by rw [(congrArg (!·) rfl)]; decide)
            · refine w_skip ?_; refine ib_n ?_; refine th_n ?_; refine w_reg ?_; obtain ⟨q150, hF⟩ := ck_some hF; refine v_add q150 ?_; refine v_move ?_; refine r_nil ?_; refine thn ⟨_, (inj hF).symm, rfl, ?_⟩; dsimp only
              exact ⟨F101, o147, c147, (cs102 ++ [(i64 (x100.2.1 + ((a0_0 + x134) + x139)))]), rfl, le101, (st.drop (by first | exact List.Sublist.refl _ | (repeat first | exact List.nil_sublist _ | refine List.Sublist.cons_cons _ ?_ | refine List.Sublist.cons _ ?_))), w147, gA, gA, gA, gA, gA⟩
        · have hF := bif_f hb131 hF; refine w_exit ?_; refine th_e ?_; refine th_e ?_; refine ⟨_, (inj hF).symm, .inr (⟨_, rfl, rfl, rfl, ?_⟩)⟩; dsimp only
          exact ⟨F101, o102, c102, cs102, rfl, le101, st, w102⟩
      · rcases hq with hq | hq
        · obtain ⟨N9, T, ds126⟩ := a; obtain ⟨h152, n153⟩ := σ; obtain ⟨w125, rfl, rfl, e1, F126, o127, c127, cs127, e2, le126, st, w127⟩ := hq
          dsimp only at e1 e2
          subst e1
          subst e2
          dsimp only at st
          have le151 := PH.le.trans le18 le126
          have hF := sel_l hF; refine ib_r ?_
          refine range_end st 8 rfl (by rw [rs99]; exact fun e => by cases e) rp99 hfl (.inl rfl) (fun h st => ?_)
          have st := st.drop (List.eraseIdx_sublist _ 8)
          refine ib_n ?_; refine ib_n ?_; refine th_n ?_; refine w_reg ?_; refine v_move ?_; refine v_fa ?_; refine v_ld1 (st.at (i := 1) rfl).2.2 rfl ?_; refine v_len ?_; obtain ⟨q154, hF⟩ := ck_some hF; refine v_add q154 ?_; refine v_move ?_; refine r_nil ?_; refine thn ⟨_, (inj hF).symm, rfl, ?_⟩; dsimp only
          exact ⟨F126, o127, c127, cs127, le151, (st.drop (by first | exact List.Sublist.refl _ | (repeat first | exact List.nil_sublist _ | refine List.Sublist.cons_cons _ ?_ | refine List.Sublist.cons _ ?_))), w127, gA, gA, gA, gA, gA, gA⟩
        · obtain ⟨N9, T, ds129⟩ := a; obtain ⟨h156, n157⟩ := σ; obtain ⟨w128, rfl, rfl, e1, F129, o130, c130, cs130, e2, le129, st, w130⟩ := hq
          dsimp only at e1 e2
          subst e1
          subst e2
          dsimp only at st
          have le155 := PH.le.trans le18 le129
          have hF := sel_r hF; refine ib_e ?_
          refine range_end st 8 rfl (by rw [rs99]; exact fun e => by cases e) rp99 hfl (.inr rfl) (fun h st => ?_)
          have st := st.drop (List.eraseIdx_sublist _ 8)
          refine ib_n ?_; refine ib_n ?_; refine th_n ?_; refine w_reg ?_; refine v_move ?_; refine v_fa ?_; refine v_ld1 (st.at (i := 1) rfl).2.2 rfl ?_; refine v_len ?_; obtain ⟨q158, hF⟩ := ck_some hF; refine v_add q158 ?_; refine v_move ?_; refine r_nil ?_; refine thn ⟨_, (inj hF).symm, rfl, ?_⟩; dsimp only
          exact ⟨F129, o130, c130, cs130, le155, (st.drop (by first | exact List.Sublist.refl _ | (repeat first | exact List.nil_sublist _ | refine List.Sublist.cons_cons _ ?_ | refine List.Sublist.cons _ ?_))), w130, gA, gA, gA, gA, gA, gA⟩
    · have hF := bif_f hb91 hF; refine w_exit ?_; refine th_e ?_; refine th_e ?_; refine ⟨_, (inj hF).symm, rfl, rfl, ?_⟩; dsimp only
      exact ⟨F18, o19, c19, cs19, le18, st, w19, gA⟩
  · obtain ⟨N9, T, ds89⟩ := a; obtain ⟨h159, n160⟩ := σ; obtain ⟨rfl, e1, F89, o90, c90, cs90, le89, st, w90, t5⟩ := hq
    dsimp only at e1
    subst e1
    dsimp only at st t5
    refine ib_e ?_; refine th_n ?_; refine w_seq ?_; refine w_reg ?_; refine v_ld1 (st.at (i := 4) rfl).2.2 rfl ?_; refine v_move ?_; refine r_nil ?_; refine th_n ?_; refine w_ret ?_; obtain rfl := inj hF
    obtain ⟨F161, le161, st, rf161⟩ := St.freeze st 3 rfl w90 (by decide)
    have le162 := PH.le.trans le89 le161
    exact end_rM st 0 rfl hfl (.inl rfl) [(.slice (o90.map fun b => (b, 0)) (y88.2).length c90)] (fun h st => (Res.t gA Res.nil)) ⟨_, _, rfl, rf161⟩
end Go.Hx.V

/- Functions of the program come to that. -/
namespace Go.Hx.V
open Go.Hx
set_option linter.unusedVariables false
set_option maxRecDepth 20000
set_option maxHeartbeats 4000000
attribute [local irreducible] W R C thenH inBlockH Tr.get Tr.set lo
theorem ct84_2 (N : Nat) {a1_0 : Int} {a1_1 : (List (Int × Int))} {a1_2 : (List (Int × Int × Int))} {a1_3 : Int} {r : ((List Int) × (List Int))} (hF : sf84_2 N a1_0 a1_1 a1_2 a1_3 = some r) {fl : Nat} {h0 : Tr HBlk} {n0 : Nat} {F0 : PH} (hd : D h0 n0) (hs : F0.sub h0) (hfl : fl ≤ n0) {pa1_1 : Option (Nat × Nat)} {ca1_1 : Nat} {pa1_2 : Option (Nat × Nat)} {ca1_2 : Nat} (ra1_1 : RowF (rP rI rI) 2 F0 pa1_1 ca1_1 a1_1) (ra1_2 : RowF (rP rI (rP rI rI)) 3 F0 pa1_2 ca1_2 a1_2) : C LW fl 84 [(.agg [(.func 106 [] [])]), (.agg [(i64 a1_0), (.slice pa1_1 (a1_1).length ca1_1), (.slice pa1_2 (a1_2).length ca1_2), (i64 a1_3)])] ⟨h0, n0⟩ (KR (rvA (rP (rL rI 1) (rL rI 1))) F0 h0 n0 r) := by
  unfold sf84_2 at hF
  refine in_mT hd hs hfl lw84 rfl rfl (by rfl) (fun st T hT => ?_)
  have t0 := hT 0 _ rfl
  have t1 := hT 1 _ rfl
  dsimp only [L84]
  refine w_seq ?_; refine w_reg ?_; refine v_box st (fun b1 h2 n3 st => ?_); refine v_box st (fun b4 h5 n6 st => ?_); refine v_alloc st (fun b7 h8 n9 st => ?_); refine r_nil ?_; refine th_n ?_; refine w_seq ?_; refine w_reg ?_; refine v_alloc st (fun b10 h11 n12 st => ?_); refine r_nil ?_; refine th_n ?_; refine w_seq ?_; refine w_seq ?_; refine w_reg ?_; refine v_fa ?_; refine v_ld1 (st.at (i := 1) rfl).2.2 rfl ?_; refine v_len ?_; refine v_move ?_; refine r_nil ?_; refine th_n ?_; refine w_block ?_
  have st := st.nilL 1
  have w34 : LR rI 1 F0 ([] : List Int) [] := LR.nil
  obtain ⟨y52, hy, hF⟩ := bnd_some hF; refine v_loopD (sf84_2_L1 N a1_1) (fun x36 T ds37 h nx => ∃ (F37 : PH) (o38 : Option Nat) (c38 : Nat) (cs38 : List HV), ds37 = [] ∧ PH.le F0 F37 ∧ St n0 h0 F0 F37 h nx [.bx b1 [(.func 106 [] [])], .bx b4 [(i64 a1_0), (.slice pa1_1 (a1_1).length ca1_1), (.slice pa1_2 (a1_2).length ca1_2), (i64 a1_3)], .bx b7 [(.slice none 0 0), (.slice none 0 0)], .bx b10 [(slv o38 (x36.2).length c38), (.slice none 0 0)], .ls o38 c38 cs38 1] ∧ LR rI 1 F37 x36.2 cs38 ∧ T.get 2 = some (.ptr (some (b1, 0))) ∧ T.get 3 = some (.ptr (some (b4, 0))) ∧ T.get 4 = some (.ptr (some (b7, 0))) ∧ T.get 5 = some (.ptr (some (b10, 0))) ∧ T.get 11 = some (.slice pa1_1 (a1_1).length ca1_1) ∧ T.get 12 = some (i64 ((a1_1).length : Int)) ∧ T.get 13 = some (i64 x36.1)) (fun y e a σ => e = .exit 0 ∧ a.nt = 46 ∧ ∃ (F53 : PH) (o54 : Option Nat) (c54 : Nat) (cs54 : List HV), a.defers = [] ∧ PH.le F0 F53 ∧ St n0 h0 F0 F53 σ.h σ.nx [.bx b1 [(.func 106 [] [])], .bx b4 [(i64 a1_0), (.slice pa1_1 (a1_1).length ca1_1), (.slice pa1_2 (a1_2).length ca1_2), (i64 a1_3)], .bx b7 [(.slice none 0 0), (.slice none 0 0)], .bx b10 [(slv o54 (y).length c54), (.slice none 0 0)], .ls o54 c54 cs54 1] ∧ LR rI 1 F53 y cs54 ∧ a.tmps.get 2 = some (.ptr (some (b1, 0))) ∧ a.tmps.get 3 = some (.ptr (some (b4, 0))) ∧ a.tmps.get 4 = some (.ptr (some (b7, 0))) ∧ a.tmps.get 5 = some (.ptr (some (b10, 0)))) (fun x36 T ds37 h nx s hp hF => ?_) N _ y52 _ _ _ _ hy ⟨F0, none, 0, [], rfl, (PH.le.refl _), st, w34, gA, gA, gA, gA, gA, gA, gA⟩ (fun e a σ hne hq => ?_)
  · obtain ⟨F37, o38, c38, cs38, rfl, le37, st, w38, t2, t3, t4, t5, t11, t12, t13⟩ := hp; unfold sf84_2_L1 at hF; unfold L84w1; refine w_seq ?_; refine w_reg ?_; refine v_lss ?_; refine r_nil ?_; refine th_n ?_; refine w_seq ?_; refine v_cond (fun hb55 => ?_) (fun hb55 => ?_)
    · have hF := bif_t hb55 hF; refine w_skip ?_; refine th_n ?_; refine w_seq ?_; refine w_block ?_; refine w_seq ?_; refine w_reg ?_; obtain ⟨n56, x56, z56, l56, g56, hF⟩ := ix_some hF; obtain ⟨b56, o56, s56, j56, r56, e56, f56, k56, ⟨_, _, rfl, rfl, rfl⟩⟩ := RowF.get ra1_1 g56; refine v_ixp e56 z56 l56 ?_; refine v_ldn (st.sub _ _ (le37 _ _ f56)) k56 ?_; refine v_alloc st (fun b57 h58 n59 st => ?_); refine v_st (cs' := [(i64 x56.1), (i64 x56.2)]) st 5 rfl rfl rfl rfl hfl (fun h60 st => ?_); refine r_nil ?_; refine th_n ?_; refine w_drawV (Nat.le_trans hfl st.ext.le) (fun dw => ?_)
      have wf := Wf.start st
      refine y_pure st.d dw (fun hm vw => v_fa pr_nil) ?_; refine y_pure st.d dw (fun hm vw => v_ld1 (vw.bx (st.at (i := 3) rfl)) rfl pr_nil) ?_; refine y_pure st.d dw (fun hm vw => v_fa pr_nil) ?_; refine y_pure st.d dw (fun hm vw => v_ld1 (vw.bx (st.at (i := 0) rfl)) rfl pr_nil) ?_; refine y_pure st.d dw (fun hm vw => v_ldn (vs := [(i64 x56.1), (i64 x56.2)]) (vw.bx (st.at (i := 5) rfl)) rfl pr_nil) ?_; obtain ⟨v61, e62, hF⟩ := bnd_some hF; refine y_flat st.d dw (fun hm vw => u_call (ct106 N e62 vw.d (FF.sub wf st vw) ) (fun n' hn' => pf_nil hn')) (fun n63 hn' dw => ?_); refine y_lay st.d dw (fun hm vw => u_bs (cs := [(i64 v61)]) rfl pr_nil) (fun done dw => ?_)
      have wf := Wf.lay wf (e := (6, one n63 (.cells [(i64 v61)] .exact)))
      refine y_end st.d dw rfl (fun h64 ex vs => ?_)
      have st := St.laid st ex (Lay.cons (b := n63) (cs := [(i64 v61)]) (by have := dw.le; omega) (vs _ (List.mem_cons_self ..) _ _ (if_pos rfl)) (Lay.nil (by have := dw.le; omega)))
      obtain ⟨q65, hF⟩ := ck_some hF
      have w65 : LR rI 1 F37 (x36.2 ++ [v61]) (cs38 ++ [(i64 v61)]) := LR.app w38 (LR.one (rfl))
      refine v_aps (n := 1) (ox := 0) (m := (x36.2 ++ [v61]).length) (row := [(i64 v61)]) st 4 rfl w38.1 (st.at (i := 6) rfl).2.2 rfl rfl q65 hfl (by decide) (by decide) (by simp) (fun o65 c65 h65 n65 st => ?_)
      refine v_fa ?_; refine v_st (cs' := [(slv o65 ((x36.2 ++ [v61])).length c65), (.slice none 0 0)]) st 3 rfl rfl rfl rfl hfl (fun h66 st => ?_); refine r_nil ?_; refine ib_n ?_; refine th_n ?_; refine w_reg ?_; obtain ⟨q67, hF⟩ := ck_some hF; refine v_add q67 ?_; refine v_move ?_; refine r_nil ?_; refine thn ⟨_, (inj hF).symm, rfl, ?_⟩; dsimp only
      exact ⟨F37, o65, c65, (cs38 ++ [(i64 v61)]), rfl, le37, (st.drop (by first | exact List.Sublist.refl _ | (repeat first | exact List.nil_sublist _ | refine List.Sublist.cons_cons _ ?_ | refine List.Sublist.cons _ ?_))), w65, gA, gA, gA, gA, gA, gA, gA⟩
    · have hF := bif_f hb55 hF; refine w_exit ?_; refine th_e ?_; refine th_e ?_; refine ⟨_, (inj hF).symm, rfl, rfl, ?_⟩; dsimp only
      exact ⟨F37, o38, c38, cs38, rfl, le37, st, w38, gA, gA, gA, gA⟩
  · obtain ⟨N9, T, ds53⟩ := a; obtain ⟨h68, n69⟩ := σ; obtain ⟨rfl, e1, F53, o54, c54, cs54, e2, le53, st, w54, t2, t3, t4, t5⟩ := hq
    dsimp only at e1 e2
    subst e1
    subst e2
    dsimp only at st t2 t3 t4 t5
    refine ib_e ?_; refine th_n ?_; refine w_seq ?_; refine w_seq ?_; refine w_reg ?_; refine v_fa ?_; refine v_ld1 (st.at (i := 1) rfl).2.2 rfl ?_; refine v_len ?_; refine v_move ?_; refine r_nil ?_; refine th_n ?_; refine w_block ?_
    have st := st.nilL 1
    have w90 : LR rI 1 F53 ([] : List Int) [] := LR.nil
    obtain ⟨y109, hy, hF⟩ := bnd_some hF; refine v_loopD (sf84_2_L2 N a1_2) (fun x92 T ds93 h nx => ∃ (F93 : PH) (o94 : Option Nat) (c94 : Nat) (cs94 : List HV), ds93 = [] ∧ PH.le F53 F93 ∧ St n0 h0 F0 F93 h nx [.bx b1 [(.func 106 [] [])], .bx b4 [(i64 a1_0), (.slice pa1_1 (a1_1).length ca1_1), (.slice pa1_2 (a1_2).length ca1_2), (i64 a1_3)], .bx b7 [(.slice none 0 0), (.slice none 0 0)], .bx b10 [(slv o54 (y52).length c54), (slv o94 (x92.2).length c94)], .ls o54 c54 cs54 1, .ls o94 c94 cs94 1] ∧ LR rI 1 F93 x92.2 cs94 ∧ T.get 2 = some (.ptr (some (b1, 0))) ∧ T.get 4 = some (.ptr (some (b7, 0))) ∧ T.get 5 = some (.ptr (some (b10, 0))) ∧ T.get 28 = some (.slice pa1_2 (a1_2).length ca1_2) ∧ T.get 29 = some (i64 ((a1_2).length : Int)) ∧ T.get 30 = some (i64 x92.1)) (fun y e a σ => e = .exit 2 ∧ a.nt = 46 ∧ ∃ (F110 : PH) (o111 : Option Nat) (c111 : Nat) (cs111 : List HV), a.defers = [] ∧ PH.le F53 F110 ∧ St n0 h0 F0 F110 σ.h σ.nx [.bx b1 [(.func 106 [] [])], .bx b4 [(i64 a1_0), (.slice pa1_1 (a1_1).length ca1_1), (.slice pa1_2 (a1_2).length ca1_2), (i64 a1_3)], .bx b7 [(.slice none 0 0), (.slice none 0 0)], .bx b10 [(slv o54 (y52).length c54), (slv o111 (y).length c111)], .ls o54 c54 cs54 1, .ls o111 c111 cs111 1] ∧ LR rI 1 F110 y cs111 ∧ a.tmps.get 4 = some (.ptr (some (b7, 0))) ∧ a.tmps.get 5 = some (.ptr (some (b10, 0)))) (fun x92 T ds93 h nx s hp hF => ?_) N _ y109 _ _ _ _ hy ⟨F53, none, 0, [], rfl, (PH.le.refl _), st, w90, gA, gA, gA, gA, gA, gA⟩ (fun e a σ hne hq => ?_)
    · obtain ⟨F93, o94, c94, cs94, rfl, le93, st, w94, t2, t4, t5, t28, t29, t30⟩ := hp
      have le95 := PH.le.trans le53 le93
      unfold sf84_2_L2 at hF; unfold L84w0; refine w_seq ?_; refine w_reg ?_; refine v_lss ?_; refine r_nil ?_; refine th_n ?_; refine w_seq ?_; refine v_cond (fun hb112 => ?_) (fun hb112 => ?_)
      · have hF := bif_t hb112 hF; refine w_skip ?_; refine th_n ?_; refine w_seq ?_; refine w_block ?_; refine w_seq ?_; refine w_reg ?_; obtain ⟨n113, x113, z113, l113, g113, hF⟩ := ix_some hF; obtain ⟨b113, o113, s113, j113, r113, e113, f113, k113, ⟨_, _, rfl, rfl, ⟨_, _, rfl, rfl, rfl⟩⟩⟩ := RowF.get ra1_2 g113; refine v_ixp e113 z113 l113 ?_; refine v_ldn (st.sub _ _ (le95 _ _ f113)) k113 ?_; refine v_alloc st (fun b114 h115 n116 st => ?_); refine v_st (cs' := [(i64 x113.1), (i64 x113.2.1), (i64 x113.2.2)]) st 6 rfl rfl rfl rfl hfl (fun h117 st => ?_); refine r_nil ?_; refine th_n ?_; refine w_drawV (Nat.le_trans hfl st.ext.le) (fun dw => ?_)
        have wf := Wf.start st
        refine y_pure st.d dw (fun hm vw => v_fa pr_nil) ?_; refine y_pure st.d dw (fun hm vw => v_ld1 (vw.bx (st.at (i := 3) rfl)) rfl pr_nil) ?_; refine y_pure st.d dw (fun hm vw => v_fa pr_nil) ?_; refine y_pure st.d dw (fun hm vw => v_ld1 (vw.bx (st.at (i := 0) rfl)) rfl pr_nil) ?_; refine y_pure st.d dw (fun hm vw => v_fa pr_nil) ?_; refine y_pure st.d dw (fun hm vw => v_ldn (vs := [(i64 x113.2.1), (i64 x113.2.2)]) (vw.bx (st.at (i := 6) rfl)) rfl pr_nil) ?_; obtain ⟨v118, e119, hF⟩ := bnd_some hF; refine y_flat st.d dw (fun hm vw => u_call (ct106 N e119 vw.d (FF.sub wf st vw) ) (fun n' hn' => pf_nil hn')) (fun n120 hn' dw => ?_); refine y_lay st.d dw (fun hm vw => u_bs (cs := [(i64 v118)]) rfl pr_nil) (fun done dw => ?_)
        have wf := Wf.lay wf (e := (7, one n120 (.cells [(i64 v118)] .exact)))
        refine y_end st.d dw rfl (fun h121 ex vs => ?_)
        have st := St.laid st ex (Lay.cons (b := n120) (cs := [(i64 v118)]) (by have := dw.le; omega) (vs _ (List.mem_cons_self ..) _ _ (if_pos rfl)) (Lay.nil (by have := dw.le; omega)))
        obtain ⟨q122, hF⟩ := ck_some hF
        have w122 : LR rI 1 F93 (x92.2 ++ [v118]) (cs94 ++ [(i64 v118)]) := LR.app w94 (LR.one (rfl))
        refine v_aps (n := 1) (ox := 0) (m := (x92.2 ++ [v118]).length) (row := [(i64 v118)]) st 5 rfl w94.1 (st.at (i := 7) rfl).2.2 rfl rfl q122 hfl (by decide) (by decide) (by simp) (fun o122 c122 h122 n122 st => ?_)
        refine v_fa ?_; refine v_st (cs' := [(slv o54 (y52).length c54), (slv o122 ((x92.2 ++ [v118])).length c122)]) st 3 rfl rfl rfl rfl hfl (fun h123 st => ?_); refine r_nil ?_; refine ib_n ?_; refine th_n ?_; refine w_reg ?_; obtain ⟨q124, hF⟩ := ck_some hF; refine v_add q124 ?_; refine v_move ?_; refine r_nil ?_; refine thn ⟨_, (inj hF).symm, rfl, ?_⟩; dsimp only
        exact ⟨F93, o122, c122, (cs94 ++ [(i64 v118)]), rfl, le93, (st.drop (by first | exact List.Sublist.refl _ | (repeat first | exact List.nil_sublist _ | refine List.Sublist.cons_cons _ ?_ | refine List.Sublist.cons _ ?_))), w122, gA, gA, gA, gA, gA, gA⟩
      · have hF := bif_f hb112 hF; refine w_exit ?_; refine th_e ?_; refine th_e ?_; refine ⟨_, (inj hF).symm, rfl, rfl, ?_⟩; dsimp only
        exact ⟨F93, o94, c94, cs94, rfl, le93, st, w94, gA, gA⟩
    · obtain ⟨N9, T, ds110⟩ := a; obtain ⟨h126, n127⟩ := σ; obtain ⟨rfl, e1, F110, o111, c111, cs111, e2, le110, st, w111, t4, t5⟩ := hq
      dsimp only at e1 e2
      subst e1
      subst e2
      dsimp only at st t4 t5
      have le125 := PH.le.trans le53 le110
      refine ib_e ?_; refine th_n ?_; refine w_seq ?_; refine w_reg ?_; refine v_ldn (vs := [(slv o54 (y52).length c54), (slv o111 (y109).length c111)]) (st.at (i := 3) rfl).2.2 rfl ?_; refine v_st (cs' := [(slv o54 (y52).length c54), (slv o111 (y109).length c111)]) st 2 rfl rfl rfl rfl hfl (fun h128 st => ?_); refine r_nil ?_; refine th_n ?_; refine w_ret ?_; obtain rfl := inj hF
      obtain ⟨F129, le129, st, rf129⟩ := St.freeze st 4 rfl (LR.mono le110 w54) (by decide)
      have le130 := PH.le.trans le125 le129
      have le131 := PH.le.trans le110 le129
      obtain ⟨F132, le132, st, rf132⟩ := St.freeze st 4 rfl (LR.mono le129 w111) (by decide)
      have le133 := PH.le.trans le130 le132
      have le134 := PH.le.trans le131 le132
      have le135 := PH.le.trans le129 le132
      exact end_r st (Res.c gA (st.at (i := 2) rfl).2.2 (show takeN _ _ = some [(.slice (o54.map fun b => (b, 0)) (y52).length c54), (.slice (o111.map fun b => (b, 0)) (y109).length c111)] from rfl) Res.nil) ⟨_, rfl, ⟨[(.slice (o54.map fun b => (b, 0)) (y52).length c54)], [(.slice (o111.map fun b => (b, 0)) (y109).length c111)], rfl, ⟨_, _, rfl, (RowF.mono le132 rf129)⟩, ⟨_, _, rfl, rf132⟩⟩⟩
theorem ct86 (N : Nat) {a0_0 : Int} {a0_1 : Int} {r : Bool} (hF : sf86 N a0_0 a0_1 = some r) {fl : Nat} {h0 : Tr HBlk} {n0 : Nat} {F0 : PH} (hd : D h0 n0) (hs : F0.sub h0) : C LW fl 86 [(.agg [(i64 a0_0), (i64 a0_1)])] ⟨h0, n0⟩ (KS (.bool r) n0 h0) := by
  unfold sf86 at hF
  refine in_cT hd hs lw86 rfl rfl (by rfl) (fun st T hT => ?_)
  have hfl : n0 ≤ n0 := Nat.le_refl n0
  have t0 := hT 0 _ rfl
  dsimp only [L86]
  refine w_seq ?_; refine w_reg ?_; refine v_box st (fun b1 h2 n3 st => ?_); refine v_move ?_; refine r_nil ?_; refine th_n ?_; refine w_seq ?_; refine w_reg ?_; refine v_fa ?_; refine v_ld1 (st.at (i := 0) rfl).2.2 rfl ?_; refine v_fa ?_; refine v_ld1 (st.at (i := 0) rfl).2.2 rfl ?_; obtain ⟨v4, e5, hF⟩ := bnd_some hF; refine v_call st (ct24 N e5 st.d st.sub ) (fun n6 st => ?_); refine v_move ?_
  rcases Bool.eq_false_or_eq_true v4 with hb7 | hb7
  · have hF := bif_t hb7 hF; refine g_take hb7 (v_fa ?_); refine g_take hb7 (v_ld1 (st.at (i := 0) rfl).2.2 rfl ?_); refine g_take hb7 (v_leq ?_); refine v_pick hb7 ?_; refine v_move ?_; refine r_nil ?_; refine th_n ?_; refine w_ret ?_; obtain rfl := inj hF
    exact end_s st (Res.t gA Res.nil) rfl rfl
  · have hF := bif_f hb7 hF; refine g_skip hb7 ?_; refine g_skip hb7 ?_; refine g_skip hb7 ?_; refine v_pick' hb7 ?_; refine v_move ?_; refine r_nil ?_; refine th_n ?_; refine w_ret ?_; obtain rfl := inj hF
    exact end_s st (Res.t gA Res.nil) rfl rfl
theorem ct28 (N : Nat) {a0_0 : Int} {a0_1 : (List (Int × Int))} {a0_2 : (List (Int × Int × Int))} {a0_3 : Int} {a1 : Int} {a2_0 : (List Int)} {a2_1 : (List Int)} {r : Int} (hF : sf28 N a0_0 a0_1 a0_2 a0_3 a1 a2_0 a2_1 = some r) {fl : Nat} {h0 : Tr HBlk} {n0 : Nat} {F0 : PH} (hd : D h0 n0) (hs : F0.sub h0) {pa0_1 : Option (Nat × Nat)} {ca0_1 : Nat} {pa0_2 : Option (Nat × Nat)} {ca0_2 : Nat} {pa2_0 : Option (Nat × Nat)} {ca2_0 : Nat} {pa2_1 : Option (Nat × Nat)} {ca2_1 : Nat} (ra0_1 : RowF (rP rI rI) 2 F0 pa0_1 ca0_1 a0_1) (ra0_2 : RowF (rP rI (rP rI rI)) 3 F0 pa0_2 ca0_2 a0_2) (ra2_0 : RowF rI 1 F0 pa2_0 ca2_0 a2_0) (ra2_1 : RowF rI 1 F0 pa2_1 ca2_1 a2_1) : C LW fl 28 [(.agg [(i64 a0_0), (.slice pa0_1 (a0_1).length ca0_1), (.slice pa0_2 (a0_2).length ca0_2), (i64 a0_3)]), (i64 a1), (.agg [(.slice pa2_0 (a2_0).length ca2_0), (.slice pa2_1 (a2_1).length ca2_1)])] ⟨h0, n0⟩ (KS (i64 r) n0 h0) := by
  unfold sf28 at hF
  refine in_cT hd hs lw28 rfl rfl (by rfl) (fun st T hT => ?_)
  have hfl : n0 ≤ n0 := Nat.le_refl n0
  have t0 := hT 0 _ rfl
  have t1 := hT 1 _ rfl
  have t2 := hT 2 _ rfl
  dsimp only [L28]
  refine w_seq ?_; refine w_reg ?_; refine v_box st (fun b1 h2 n3 st => ?_); refine v_box st (fun b4 h5 n6 st => ?_); refine v_move ?_; refine r_nil ?_; refine th_n ?_; refine w_seq ?_; refine w_reg ?_; refine v_move ?_; refine r_nil ?_; refine th_n ?_; refine w_seq ?_; refine w_seq ?_; refine w_reg ?_; refine v_move ?_; refine r_nil ?_; refine th_n ?_; refine w_block ?_; obtain ⟨y21, hy, hF⟩ := bnd_some hF; refine v_loopD (sf28_L1 N a0_0 a0_1 a0_2 a0_3 a1 a2_0 a2_1) (fun x7 T ds8 h nx => ∃ (F8 : PH), ds8 = [] ∧ PH.le F0 F8 ∧ St n0 h0 F0 F8 h nx [.bx b1 [(i64 a0_0), (.slice pa0_1 (a0_1).length ca0_1), (.slice pa0_2 (a0_2).length ca0_2), (i64 a0_3)], .bx b4 [(.slice pa2_0 (a2_0).length ca2_0), (.slice pa2_1 (a2_1).length ca2_1)]] ∧ T.get 1 = some (i64 a1) ∧ T.get 3 = some (.ptr (some (b1, 0))) ∧ T.get 5 = some (.ptr (some (b4, 0))) ∧ T.get 7 = some (i64 x7.1) ∧ T.get 8 = some (i64 x7.2)) (fun y e a σ => e = .exit 0 ∧ a.nt = 37 ∧ ∃ (F22 : PH), a.defers = [] ∧ PH.le F0 F22 ∧ St n0 h0 F0 F22 σ.h σ.nx [.bx b1 [(i64 a0_0), (.slice pa0_1 (a0_1).length ca0_1), (.slice pa0_2 (a0_2).length ca0_2), (i64 a0_3)], .bx b4 [(.slice pa2_0 (a2_0).length ca2_0), (.slice pa2_1 (a2_1).length ca2_1)]] ∧ a.tmps.get 7 = some (i64 y)) (fun x7 T ds8 h nx s hp hF => ?_) N _ y21 _ _ _ _ hy ⟨F0, rfl, (PH.le.refl _), st, gA, gA, gA, gA, gA⟩ (fun e a σ hne hq => ?_)
  · obtain ⟨F8, rfl, le8, st, t1, t3, t5, t7, t8⟩ := hp; unfold sf28_L1 at hF; unfold L28w0; refine w_seq ?_; refine w_seq ?_; refine w_reg ?_; refine v_move ?_; refine v_move ?_; refine v_lss ?_; refine r_nil ?_; refine th_n ?_; refine v_cond (fun hb23 => ?_) (fun hb23 => ?_)
    · have hF := bif_t hb23 hF; refine w_skip ?_; refine th_n ?_; refine w_seq ?_; refine w_block ?_; refine w_drawV (Nat.le_trans hfl st.ext.le) (fun dw => ?_); refine y_pure st.d dw (fun hm vw => v_move pr_nil) ?_; refine y_pure st.d dw (fun hm vw => v_fa pr_nil) ?_; refine y_pure st.d dw (fun hm vw => v_ld1 (vw.bx (st.at (i := 0) rfl)) rfl pr_nil) ?_; refine y_pure st.d dw (fun hm vw => v_fa pr_nil) ?_; refine y_pure st.d dw (fun hm vw => v_ld1 (vw.bx (st.at (i := 1) rfl)) rfl pr_nil) ?_; refine y_pure st.d dw (fun hm vw => v_move pr_nil) ?_; refine y_pure st.d dw (fun hm vw => v_fa pr_nil) ?_; refine y_pure st.d dw (fun hm vw => v_ld1 (vw.bx (st.at (i := 0) rfl)) rfl pr_nil) ?_; refine y_pure st.d dw (fun hm vw => v_len pr_nil) ?_
      obtain ⟨q24, hF⟩ := ck_some hF; refine y_pure st.d dw (fun hm vw => v_rem q24 pr_nil) ?_; obtain ⟨n25, x25, z25, l25, g25, hF⟩ := ix_some hF; obtain ⟨b25, o25, s25, j25, r25, e25, f25, k25, rfl⟩ := RowF.get ra2_0 g25; refine y_pure st.d dw (fun hm vw => v_ixp e25 z25 l25 pr_nil) ?_; refine y_pure st.d dw (fun hm vw => v_ld1 (vw.fz st (le8 _ _ f25)) (take_at (j := 0) k25 rfl) pr_nil) ?_; obtain ⟨q26, hF⟩ := ck_some hF; refine y_pure st.d dw (fun hm vw => v_add q26 pr_nil) ?_; refine y_pure st.d dw (fun hm vw => v_fa pr_nil) ?_; refine y_pure st.d dw (fun hm vw => v_ld1 (vw.bx (st.at (i := 1) rfl)) rfl pr_nil) ?_; refine y_pure st.d dw (fun hm vw => v_ldn (vs := [(i64 a0_0), (.slice pa0_1 (a0_1).length ca0_1), (.slice pa0_2 (a0_2).length ca0_2), (i64 a0_3)]) (vw.bx (st.at (i := 0) rfl)) rfl pr_nil) ?_
      refine y_pure st.d dw (fun hm vw => v_move pr_nil) ?_; obtain ⟨v27, e28, hF⟩ := bnd_some hF; refine y_flat st.d dw (fun hm vw => u_call (ct49 N e28 vw.d (vw.sub st) (RowF.mono le8 ra0_1) (RowF.mono le8 ra0_2)) (fun n' hn' => pf_nil hn')) (fun n29 hn' dw => ?_); obtain ⟨n30, x30, z30, l30, g30, hF⟩ := ix_some hF; obtain ⟨b30, o30, s30, j30, r30, e30, f30, k30, rfl⟩ := RowF.get ra2_1 g30; refine y_pure st.d dw (fun hm vw => v_ixp e30 z30 l30 pr_nil) ?_; refine y_pure st.d dw (fun hm vw => v_ld1 (vw.fz st (le8 _ _ f30)) (take_at (j := 0) k30 rfl) pr_nil) ?_; refine y_end st.d dw rfl (fun h31 ex vs => ?_)
      have st := st.ext1 ex
      obtain ⟨q32, hF⟩ := ck_some hF; refine v_add q32 ?_; obtain ⟨q33, hF⟩ := ck_some hF; refine v_add q33 ?_; refine v_move ?_; refine r_nil ?_; refine ib_n ?_; refine th_n ?_; refine w_reg ?_; refine v_move ?_; obtain ⟨q34, hF⟩ := ck_some hF; refine v_add q34 ?_; refine v_move ?_; refine r_nil ?_; refine thn ⟨_, (inj hF).symm, rfl, ?_⟩; dsimp only
      exact ⟨F8, rfl, le8, st, gA, gA, gA, gA, gA⟩
    · have hF := bif_f hb23 hF; refine w_exit ?_; refine th_e ?_; refine th_e ?_; refine ⟨_, (inj hF).symm, rfl, rfl, ?_⟩; dsimp only
      exact ⟨F8, rfl, le8, st, gA⟩
  · obtain ⟨N9, T, ds22⟩ := a; obtain ⟨h35, n36⟩ := σ; obtain ⟨rfl, e1, F22, e2, le22, st, t7⟩ := hq
    dsimp only at e1 e2
    subst e1
    subst e2
    dsimp only at st t7
    refine ib_e ?_; refine th_n ?_; refine w_seq ?_; refine w_reg ?_; refine v_move ?_; refine v_move ?_; refine r_nil ?_; refine th_n ?_; refine w_ret ?_; obtain rfl := inj hF
    exact end_s st (Res.t gA Res.nil) rfl rfl
end Go.Hx.V

/- Functions of the program come to that. -/
namespace Go.Hx.V
open Go.Hx
set_option linter.unusedVariables false
set_option maxRecDepth 20000
set_option maxHeartbeats 4000000
attribute [local irreducible] W R C thenH inBlockH Tr.get Tr.set lo
theorem ct27 (N : Nat) {a0_0 : Int} {a0_1 : (List (Int × Int))} {a0_2 : (List (Int × Int × Int))} {a0_3 : Int} {a1_0 : (List Int)} {a1_1 : (List Int)} {r : Bool} (hF : sf27 N a0_0 a0_1 a0_2 a0_3 a1_0 a1_1 = some r) {fl : Nat} {h0 : Tr HBlk} {n0 : Nat} {F0 : PH} (hd : D h0 n0) (hs : F0.sub h0) {pa0_1 : Option (Nat × Nat)} {ca0_1 : Nat} {pa0_2 : Option (Nat × Nat)} {ca0_2 : Nat} {pa1_0 : Option (Nat × Nat)} {ca1_0 : Nat} {pa1_1 : Option (Nat × Nat)} {ca1_1 : Nat} (ra0_1 : RowF (rP rI rI) 2 F0 pa0_1 ca0_1 a0_1) (ra0_2 : RowF (rP rI (rP rI rI)) 3 F0 pa0_2 ca0_2 a0_2) (ra1_0 : RowF rI 1 F0 pa1_0 ca1_0 a1_0) (ra1_1 : RowF rI 1 F0 pa1_1 ca1_1 a1_1) : C LW fl 27 [(.agg [(i64 a0_0), (.slice pa0_1 (a0_1).length ca0_1), (.slice pa0_2 (a0_2).length ca0_2), (i64 a0_3)]), (.agg [(.slice pa1_0 (a1_0).length ca1_0), (.slice pa1_1 (a1_1).length ca1_1)])] ⟨h0, n0⟩ (KS (.bool r) n0 h0) := by
  unfold sf27 at hF
  refine in_cT hd hs lw27 rfl rfl (by rfl) (fun st T hT => ?_)
  have hfl : n0 ≤ n0 := Nat.le_refl n0
  have t0 := hT 0 _ rfl
  have t1 := hT 1 _ rfl
  dsimp only [L27]
  refine w_seq ?_; refine w_reg ?_; refine v_box st (fun b1 h2 n3 st => ?_); refine v_box st (fun b4 h5 n6 st => ?_); refine v_move ?_; refine r_nil ?_; refine th_n ?_; obtain ⟨y14, hA15, hF⟩ := bnd_some hF; refine w_cutD (fun T ds20 h nx => ∃ u, y14 = (.inr u) ∧ ∃ (F20 : PH), ds20 = [] ∧ PH.le F0 F20 ∧ St n0 h0 F0 F20 h nx [.bx b1 [(i64 a0_0), (.slice pa0_1 (a0_1).length ca0_1), (.slice pa0_2 (a0_2).length ca0_2), (i64 a0_3)], .bx b4 [(.slice pa1_0 (a1_0).length ca1_0), (.slice pa1_1 (a1_1).length ca1_1)]] ∧ T.get 2 = some (.ptr (some (b1, 0))) ∧ T.get 3 = some (.ptr (some (b4, 0)))) ?_ (fun T ds20 h nx hp => ?_)
  · have hK16 := hF
    have hF := hA15; obtain ⟨y22, hA23, hF⟩ := bnd_some hF; refine w_cutD (fun T ds25 h nx => ∃ (F25 : PH), ds25 = [] ∧ PH.le F0 F25 ∧ St n0 h0 F0 F25 h nx [.bx b1 [(i64 a0_0), (.slice pa0_1 (a0_1).length ca0_1), (.slice pa0_2 (a0_2).length ca0_2), (i64 a0_3)], .bx b4 [(.slice pa1_0 (a1_0).length ca1_0), (.slice pa1_1 (a1_1).length ca1_1)]] ∧ T.get 2 = some (.ptr (some (b1, 0))) ∧ T.get 3 = some (.ptr (some (b4, 0))) ∧ T.get 22 = some (.bool y22)) ?_ (fun T ds25 h nx hp => ?_)
    · have hK24 := hF
      have hF := hA23; refine w_reg ?_; refine v_fa ?_; refine v_ld1 (st.at (i := 1) rfl).2.2 rfl ?_; refine v_len ?_; refine v_fa ?_; refine v_ld1 (st.at (i := 0) rfl).2.2 rfl ?_; refine v_len ?_; refine v_nei ?_; refine v_move ?_
      rcases Bool.eq_false_or_eq_true (!(decide (((a1_0).length : Int) = ((a0_1).length : Int)))) with hb26 | hb26
      · have hF := bif_t hb26 hF; refine g_skip hb26 ?_; refine g_skip hb26 ?_; refine g_skip hb26 ?_; refine g_skip hb26 ?_; refine g_skip hb26 ?_; refine g_skip hb26 ?_; refine g_skip hb26 ?_; refine v_pick hb26 ?_; refine r_nil ?_; obtain rfl := inj hF; refine thn ⟨rfl, ?_⟩; dsimp only
        exact ⟨F0, rfl, (PH.le.refl _), st, gA, gA, gA⟩
      · have hF := bif_f hb26 hF; refine g_take hb26 (v_fa ?_); refine g_take hb26 (v_ld1 (st.at (i := 1) rfl).2.2 rfl ?_); refine g_take hb26 (v_len ?_); refine g_take hb26 (v_fa ?_); refine g_take hb26 (v_ld1 (st.at (i := 0) rfl).2.2 rfl ?_); refine g_take hb26 (v_len ?_); refine g_take hb26 (v_nei ?_); refine v_pick' hb26 ?_; refine r_nil ?_; obtain rfl := inj hF; refine thn ⟨rfl, ?_⟩; dsimp only
        exact ⟨F0, rfl, (PH.le.refl _), st, gA, gA, gA⟩
    · obtain ⟨F25, rfl, le25, st, t2, t3, t22⟩ := hp; refine v_cond (fun hb27 => ?_) (fun hb27 => ?_)
      · have hF := bif_t hb27 hF; refine w_seq ?_; refine w_reg ?_; refine v_move ?_; refine r_nil ?_; refine th_n ?_; refine w_ret ?_; obtain rfl := inj hF; have hF := hK16; have hF := sel_l hF; refine th_r ?_; obtain rfl := inj hF
        exact end_s st (Res.t gA Res.nil) rfl rfl
      · have hF := bif_f hb27 hF; refine w_skip ?_; obtain rfl := inj hF; refine thn ⟨rfl, _, rfl, ?_⟩; dsimp only
        exact ⟨F25, rfl, le25, st, gA, gA⟩
  · obtain ⟨w19, rfl, F20, rfl, le20, st, t2, t3⟩ := hp; have hF := sel_r hF; refine w_seq ?_; refine w_seq ?_; refine w_reg ?_; refine v_move ?_; refine r_nil ?_; refine th_n ?_; refine w_block ?_; obtain ⟨y41, hy, hF⟩ := bnd_some hF; refine v_loopD (sf27_L1 N a0_1 a1_0) (fun x28 T ds29 h nx => ∃ (F29 : PH), ds29 = [] ∧ PH.le F20 F29 ∧ St n0 h0 F0 F29 h nx [.bx b1 [(i64 a0_0), (.slice pa0_1 (a0_1).length ca0_1), (.slice pa0_2 (a0_2).length ca0_2), (i64 a0_3)], .bx b4 [(.slice pa1_0 (a1_0).length ca1_0), (.slice pa1_1 (a1_1).length ca1_1)]] ∧ T.get 2 = some (.ptr (some (b1, 0))) ∧ T.get 3 = some (.ptr (some (b4, 0))) ∧ T.get 5 = some (i64 x28)) (fun y e a σ => (∃ u, y = (.inl u) ∧ e = .ret ∧ a.nt = 77 ∧ ∃ (F43 : PH), a.defers = [] ∧ PH.le F20 F43 ∧ St n0 h0 F0 F43 σ.h σ.nx [.bx b1 [(i64 a0_0), (.slice pa0_1 (a0_1).length ca0_1), (.slice pa0_2 (a0_2).length ca0_2), (i64 a0_3)], .bx b4 [(.slice pa1_0 (a1_0).length ca1_0), (.slice pa1_1 (a1_1).length ca1_1)]] ∧ a.tmps.get 4 = some (.bool false)) ∨ (∃ u, y = (.inr u) ∧ e = .exit 0 ∧ a.nt = 77 ∧ ∃ (F45 : PH), a.defers = [] ∧ PH.le F20 F45 ∧ St n0 h0 F0 F45 σ.h σ.nx [.bx b1 [(i64 a0_0), (.slice pa0_1 (a0_1).length ca0_1), (.slice pa0_2 (a0_2).length ca0_2), (i64 a0_3)], .bx b4 [(.slice pa1_0 (a1_0).length ca1_0), (.slice pa1_1 (a1_1).length ca1_1)]] ∧ a.tmps.get 2 = some (.ptr (some (b1, 0))) ∧ a.tmps.get 3 = some (.ptr (some (b4, 0))))) (fun x28 T ds29 h nx s hp hF => ?_) N _ y41 _ _ _ _ hy ⟨F20, rfl, (PH.le.refl _), st, gA, gA, gA⟩ (fun e a σ hne hq => ?_)
    · obtain ⟨F29, rfl, le29, st, t2, t3, t5⟩ := hp
      have le30 := PH.le.trans le20 le29
      unfold sf27_L1 at hF; unfold L27w1; refine w_seq ?_; refine w_seq ?_; refine w_reg ?_; refine v_move ?_; refine v_fa ?_; refine v_ld1 (st.at (i := 1) rfl).2.2 rfl ?_; refine v_len ?_; refine v_lss ?_; refine r_nil ?_; refine th_n ?_; refine v_cond (fun hb46 => ?_) (fun hb46 => ?_)
      · have hF := bif_t hb46 hF; refine w_skip ?_; refine th_n ?_; refine w_seq ?_; refine w_block ?_; refine w_seq ?_; refine w_drawV (Nat.le_trans hfl st.ext.le) (fun dw => ?_); refine y_pure st.d dw (fun hm vw => v_fa pr_nil) ?_; refine y_pure st.d dw (fun hm vw => v_ld1 (vw.bx (st.at (i := 1) rfl)) rfl pr_nil) ?_; refine y_pure st.d dw (fun hm vw => v_move pr_nil) ?_; obtain ⟨n47, x47, z47, l47, g47, hF⟩ := ix_some hF; obtain ⟨b47, o47, s47, j47, r47, e47, f47, k47, rfl⟩ := RowF.get ra1_0 g47; refine y_pure st.d dw (fun hm vw => v_ixp e47 z47 l47 pr_nil) ?_; refine y_pure st.d dw (fun hm vw => v_ld1 (vw.fz st (le30 _ _ f47)) (take_at (j := 0) k47 rfl) pr_nil) ?_; refine y_pure st.d dw (fun hm vw => v_fa pr_nil) ?_
        refine y_pure st.d dw (fun hm vw => v_ld1 (vw.bx (st.at (i := 0) rfl)) rfl pr_nil) ?_; refine y_pure st.d dw (fun hm vw => v_move pr_nil) ?_; obtain ⟨n48, x48, z48, l48, g48, hF⟩ := ix_some hF; obtain ⟨b48, o48, s48, j48, r48, e48, f48, k48, ⟨_, _, rfl, rfl, rfl⟩⟩ := RowF.get ra0_1 g48; refine y_pure st.d dw (fun hm vw => v_ixp e48 z48 l48 pr_nil) ?_; refine y_pure st.d dw (fun hm vw => v_fa pr_nil) ?_; refine y_pure st.d dw (fun hm vw => v_ld1 (vw.fz st (le30 _ _ f48)) (take_at (j := 0) k48 rfl) pr_nil) ?_; refine y_pure st.d dw (fun hm vw => v_fa pr_nil) ?_; refine y_pure st.d dw (fun hm vw => v_ld1 (vw.bx (st.at (i := 0) rfl)) rfl pr_nil) ?_; refine y_pure st.d dw (fun hm vw => v_move pr_nil) ?_
        obtain ⟨n49, x49, z49, l49, g49, hF⟩ := ix_some hF; obtain ⟨b49, o49, s49, j49, r49, e49, f49, k49, ⟨_, _, rfl, rfl, rfl⟩⟩ := RowF.get ra0_1 g49; refine y_pure st.d dw (fun hm vw => v_ixp e49 z49 l49 pr_nil) ?_; refine y_pure st.d dw (fun hm vw => v_fa pr_nil) ?_; refine y_pure st.d dw (fun hm vw => v_ld1 (vw.fz st (le30 _ _ f49)) (take_at (j := 1) k49 rfl) pr_nil) ?_; refine y_end st.d dw rfl (fun h50 ex vs => ?_)
        have st := st.ext1 ex
        obtain ⟨v51, e52, hF⟩ := bnd_some hF; refine v_call st (ct24 N e52 st.d st.sub ) (fun n53 st => ?_); refine v_not ?_; refine r_nil ?_; refine th_n ?_; refine v_cond (fun hb54 => ?_) (fun hb54 => ?_)
        · have hF := bif_t hb54 hF; refine w_seq ?_; refine w_reg ?_; refine v_move ?_; refine r_nil ?_; refine th_n ?_; refine w_ret ?_; refine ib_r ?_; refine th_r ?_; refine th_r ?_; refine ⟨_, (inj hF).symm, .inl ⟨_, rfl, rfl, rfl, ?_⟩⟩; dsimp only
          exact ⟨F29, rfl, le29, st, gA⟩
        · have hF := bif_f hb54 hF; refine w_skip ?_; refine ib_n ?_; refine th_n ?_; refine w_reg ?_; refine v_move ?_; obtain ⟨q55, hF⟩ := ck_some hF; refine v_add q55 ?_; refine v_move ?_; refine r_nil ?_; refine thn ⟨_, (inj hF).symm, rfl, ?_⟩; dsimp only
          exact ⟨F29, rfl, le29, st, gA, gA, gA⟩
      · have hF := bif_f hb46 hF; refine w_exit ?_; refine th_e ?_; refine th_e ?_; refine ⟨_, (inj hF).symm, .inr (⟨_, rfl, rfl, rfl, ?_⟩)⟩; dsimp only
        exact ⟨F29, rfl, le29, st, gA, gA⟩
    · rcases hq with hq | hq
      · obtain ⟨N9, T, ds43⟩ := a; obtain ⟨h57, n58⟩ := σ; obtain ⟨w42, rfl, rfl, e1, F43, e2, le43, st, t4⟩ := hq
        dsimp only at e1 e2
        subst e1
        subst e2
        dsimp only at st t4
        have le56 := PH.le.trans le20 le43
        have hF := sel_l hF; refine ib_r ?_; refine th_r ?_; obtain rfl := inj hF
        exact end_s st (Res.t gA Res.nil) rfl rfl
      · obtain ⟨N9, T, ds45⟩ := a; obtain ⟨h60, n61⟩ := σ; obtain ⟨w44, rfl, rfl, e1, F45, e2, le45, st, t2, t3⟩ := hq
        dsimp only at e1 e2
        subst e1
        subst e2
        dsimp only at st t2 t3
        have le59 := PH.le.trans le20 le45
        have hF := sel_r hF; refine ib_e ?_; refine th_n ?_; refine w_seq ?_; refine w_seq ?_; refine w_reg ?_; refine v_move ?_; refine r_nil ?_; refine th_n ?_; refine w_block ?_; obtain ⟨y76, hy, hF⟩ := bnd_some hF; refine v_loopD (sf27_L2 N a0_2 a1_1) (fun x62 T ds63 h nx => ∃ (F63 : PH), ds63 = [] ∧ PH.le F45 F63 ∧ St n0 h0 F0 F63 h nx [.bx b1 [(i64 a0_0), (.slice pa0_1 (a0_1).length ca0_1), (.slice pa0_2 (a0_2).length ca0_2), (i64 a0_3)], .bx b4 [(.slice pa1_0 (a1_0).length ca1_0), (.slice pa1_1 (a1_1).length ca1_1)]] ∧ T.get 2 = some (.ptr (some (b1, 0))) ∧ T.get 3 = some (.ptr (some (b4, 0))) ∧ T.get 6 = some (i64 x62)) (fun y e a σ => (∃ u, y = (.inl u) ∧ e = .ret ∧ a.nt = 77 ∧ ∃ (F78 : PH), a.defers = [] ∧ PH.le F45 F78 ∧ St n0 h0 F0 F78 σ.h σ.nx [.bx b1 [(i64 a0_0), (.slice pa0_1 (a0_1).length ca0_1), (.slice pa0_2 (a0_2).length ca0_2), (i64 a0_3)], .bx b4 [(.slice pa1_0 (a1_0).length ca1_0), (.slice pa1_1 (a1_1).length ca1_1)]] ∧ a.tmps.get 4 = some (.bool false)) ∨ (∃ u, y = (.inr u) ∧ e = .exit 2 ∧ a.nt = 77 ∧ ∃ (F80 : PH), a.defers = [] ∧ PH.le F45 F80 ∧ St n0 h0 F0 F80 σ.h σ.nx [.bx b1 [(i64 a0_0), (.slice pa0_1 (a0_1).length ca0_1), (.slice pa0_2 (a0_2).length ca0_2), (i64 a0_3)], .bx b4 [(.slice pa1_0 (a1_0).length ca1_0), (.slice pa1_1 (a1_1).length ca1_1)]])) (fun x62 T ds63 h nx s hp hF => ?_) N _ y76 _ _ _ _ hy ⟨F45, rfl, (PH.le.refl _), st, gA, gA, gA⟩ (fun e a σ hne hq => ?_)
        · obtain ⟨F63, rfl, le63, st, t2, t3, t6⟩ := hp
          have le64 := PH.le.trans le59 le63
          have le65 := PH.le.trans le45 le63
          unfold sf27_L2 at hF; unfold L27w0; refine w_seq ?_; refine w_seq ?_; refine w_reg ?_; refine v_move ?_; refine v_fa ?_; refine v_ld1 (st.at (i := 1) rfl).2.2 rfl ?_; refine v_len ?_; refine v_lss ?_; refine r_nil ?_; refine th_n ?_; refine v_cond (fun hb81 => ?_) (fun hb81 => ?_)
          · have hF := bif_t hb81 hF; refine w_skip ?_; refine th_n ?_; refine w_seq ?_; refine w_block ?_; refine w_seq ?_; refine w_drawV (Nat.le_trans hfl st.ext.le) (fun dw => ?_); refine y_pure st.d dw (fun hm vw => v_fa pr_nil) ?_; refine y_pure st.d dw (fun hm vw => v_ld1 (vw.bx (st.at (i := 1) rfl)) rfl pr_nil) ?_; refine y_pure st.d dw (fun hm vw => v_move pr_nil) ?_; obtain ⟨n82, x82, z82, l82, g82, hF⟩ := ix_some hF; obtain ⟨b82, o82, s82, j82, r82, e82, f82, k82, rfl⟩ := RowF.get ra1_1 g82; refine y_pure st.d dw (fun hm vw => v_ixp e82 z82 l82 pr_nil) ?_; refine y_pure st.d dw (fun hm vw => v_ld1 (vw.fz st (le64 _ _ f82)) (take_at (j := 0) k82 rfl) pr_nil) ?_; refine y_pure st.d dw (fun hm vw => v_fa pr_nil) ?_
            refine y_pure st.d dw (fun hm vw => v_ld1 (vw.bx (st.at (i := 0) rfl)) rfl pr_nil) ?_; refine y_pure st.d dw (fun hm vw => v_move pr_nil) ?_; obtain ⟨n83, x83, z83, l83, g83, hF⟩ := ix_some hF; obtain ⟨b83, o83, s83, j83, r83, e83, f83, k83, ⟨_, _, rfl, rfl, ⟨_, _, rfl, rfl, rfl⟩⟩⟩ := RowF.get ra0_2 g83; refine y_pure st.d dw (fun hm vw => v_ixp e83 z83 l83 pr_nil) ?_; refine y_pure st.d dw (fun hm vw => v_fa pr_nil) ?_; refine y_pure st.d dw (fun hm vw => v_fa pr_nil) ?_; refine y_pure st.d dw (fun hm vw => v_ld1 (vw.fz st (le64 _ _ f83)) (take_at (j := 1) k83 rfl) pr_nil) ?_; refine y_pure st.d dw (fun hm vw => v_fa pr_nil) ?_; refine y_pure st.d dw (fun hm vw => v_ld1 (vw.bx (st.at (i := 0) rfl)) rfl pr_nil) ?_
            refine y_pure st.d dw (fun hm vw => v_move pr_nil) ?_; obtain ⟨n84, x84, z84, l84, g84, hF⟩ := ix_some hF; obtain ⟨b84, o84, s84, j84, r84, e84, f84, k84, ⟨_, _, rfl, rfl, ⟨_, _, rfl, rfl, rfl⟩⟩⟩ := RowF.get ra0_2 g84; refine y_pure st.d dw (fun hm vw => v_ixp e84 z84 l84 pr_nil) ?_; refine y_pure st.d dw (fun hm vw => v_fa pr_nil) ?_; refine y_pure st.d dw (fun hm vw => v_fa pr_nil) ?_; refine y_pure st.d dw (fun hm vw => v_ld1 (vw.fz st (le64 _ _ f84)) (take_at (j := 2) k84 rfl) pr_nil) ?_; refine y_end st.d dw rfl (fun h85 ex vs => ?_)
            have st := st.ext1 ex
            obtain ⟨v86, e87, hF⟩ := bnd_some hF; refine v_call st (ct24 N e87 st.d st.sub ) (fun n88 st => ?_); refine v_not ?_; refine r_nil ?_; refine th_n ?_; refine v_cond (fun hb89 => ?_) (fun hb89 => ?_)
            · have hF := bif_t hb89 hF; refine w_seq ?_; refine w_reg ?_; refine v_move ?_; refine r_nil ?_; refine th_n ?_; refine w_ret ?_; refine ib_r ?_; refine th_r ?_; refine th_r ?_; refine ⟨_, (inj hF).symm, .inl ⟨_, rfl, rfl, rfl, ?_⟩⟩; dsimp only
              exact ⟨F63, rfl, le63, st, gA⟩
            · have hF := bif_f hb89 hF; refine w_skip ?_; refine ib_n ?_; refine th_n ?_; refine w_reg ?_; refine v_move ?_; obtain ⟨q90, hF⟩ := ck_some hF; refine v_add q90 ?_; refine v_move ?_; refine r_nil ?_; refine thn ⟨_, (inj hF).symm, rfl, ?_⟩; dsimp only
              exact ⟨F63, rfl, le63, st, gA, gA, gA⟩
          · have hF := bif_f hb81 hF; refine w_exit ?_; refine th_e ?_; refine th_e ?_; refine ⟨_, (inj hF).symm, .inr (⟨_, rfl, rfl, rfl, ?_⟩)⟩; dsimp only
            exact ⟨F63, rfl, le63, st⟩
        · rcases hq with hq | hq
          · obtain ⟨N9, T, ds78⟩ := a; obtain ⟨h93, n94⟩ := σ; obtain ⟨w77, rfl, rfl, e1, F78, e2, le78, st, t4⟩ := hq
            dsimp only at e1 e2
            subst e1
            subst e2
            dsimp only at st t4
            have le91 := PH.le.trans le59 le78
            have le92 := PH.le.trans le45 le78
            have hF := sel_l hF; refine ib_r ?_; refine th_r ?_; obtain rfl := inj hF
            exact end_s st (Res.t gA Res.nil) rfl rfl
          · obtain ⟨N9, T, ds80⟩ := a; obtain ⟨h97, n98⟩ := σ; obtain ⟨w79, rfl, rfl, e1, F80, e2, le80, st⟩ := hq
            dsimp only at e1 e2
            subst e1
            subst e2
            dsimp only at st
            have le95 := PH.le.trans le59 le80
            have le96 := PH.le.trans le45 le80
            have hF := sel_r hF; refine ib_e ?_; refine th_n ?_; refine w_seq ?_; refine w_reg ?_; refine v_move ?_; refine r_nil ?_; refine th_n ?_; refine w_ret ?_; obtain rfl := inj hF
            exact end_s st (Res.t gA Res.nil) rfl rfl
end Go.Hx.V

/- Functions of the program come to that. -/
namespace Go.Hx.V
open Go.Hx
set_option linter.unusedVariables false
set_option maxRecDepth 20000
set_option maxHeartbeats 4000000
attribute [local irreducible] W R C thenH inBlockH Tr.get Tr.set lo
theorem ct59 (N : Nat) {a0_0 : Int} {a0_1 : (List (Int × Int))} {a0_2 : (List (Int × Int × Int))} {a0_3 : Int} {a0_4 : (List Int)} {a0_5 : (List Int)} {a1_0 : Int} {a1_1 : Int} {r : (Int × Int)} (hF : sf59 N a0_0 a0_1 a0_2 a0_3 a0_4 a0_5 a1_0 a1_1 = some r) {fl : Nat} {h0 : Tr HBlk} {n0 : Nat} {F0 : PH} (hd : D h0 n0) (hs : F0.sub h0) {pa0_1 : Option (Nat × Nat)} {ca0_1 : Nat} {pa0_2 : Option (Nat × Nat)} {ca0_2 : Nat} {pa0_4 : Option (Nat × Nat)} {ca0_4 : Nat} {pa0_5 : Option (Nat × Nat)} {ca0_5 : Nat} (ra0_1 : RowF (rP rI rI) 2 F0 pa0_1 ca0_1 a0_1) (ra0_2 : RowF (rP rI (rP rI rI)) 3 F0 pa0_2 ca0_2 a0_2) (ra0_4 : RowF rI 1 F0 pa0_4 ca0_4 a0_4) (ra0_5 : RowF rI 1 F0 pa0_5 ca0_5 a0_5) : C LW fl 59 [(.agg [(i64 a0_0), (.slice pa0_1 (a0_1).length ca0_1), (.slice pa0_2 (a0_2).length ca0_2), (i64 a0_3), (.slice pa0_4 (a0_4).length ca0_4), (.slice pa0_5 (a0_5).length ca0_5)]), (.agg [(i64 a1_0), (i64 a1_1)])] ⟨h0, n0⟩ (KS (.agg [(i64 r.1), (i64 r.2)]) n0 h0) := by
  unfold sf59 at hF
  refine in_cT hd hs lw59 rfl rfl (by rfl) (fun st T hT => ?_)
  have hfl : n0 ≤ n0 := Nat.le_refl n0
  have t0 := hT 0 _ rfl
  have t1 := hT 1 _ rfl
  dsimp only [L59]
  refine w_seq ?_; refine w_reg ?_; refine v_box st (fun b1 h2 n3 st => ?_); refine v_box st (fun b4 h5 n6 st => ?_); refine v_alloc st (fun b7 h8 n9 st => ?_); refine r_nil ?_; refine th_n ?_; refine w_seq ?_; refine w_reg ?_; refine v_ldn (vs := [(i64 a0_0), (.slice pa0_1 (a0_1).length ca0_1), (.slice pa0_2 (a0_2).length ca0_2), (i64 a0_3), (.slice pa0_4 (a0_4).length ca0_4), (.slice pa0_5 (a0_5).length ca0_5)]) (st.at (i := 0) rfl).2.2 rfl ?_; refine v_fa ?_; refine v_ld1 (st.at (i := 1) rfl).2.2 rfl ?_; obtain ⟨v10, e11, hF⟩ := bnd_some hF; refine v_call st (ct55 N e11 st.d st.sub ra0_1 ra0_2 ra0_4 ra0_5) (fun n12 st => ?_); refine v_alloc st (fun b13 h14 n15 st => ?_); refine v_st (cs' := [(i64 v10.1), (i64 v10.2)]) st 3 rfl rfl rfl rfl hfl (fun h16 st => ?_)
  refine r_nil ?_; refine th_n ?_; refine w_seq ?_; refine w_reg ?_; refine v_fa ?_; refine v_ld1 (st.at (i := 3) rfl).2.2 rfl ?_; refine v_fa ?_; refine v_ld1 (st.at (i := 1) rfl).2.2 rfl ?_; obtain ⟨q17, hF⟩ := ck_some hF; refine v_sub q17 ?_; refine v_fa ?_; refine v_ld1 (st.at (i := 3) rfl).2.2 rfl ?_; refine v_fa ?_; refine v_ld1 (st.at (i := 1) rfl).2.2 rfl ?_; obtain ⟨q18, hF⟩ := ck_some hF; refine v_sub q18 ?_; refine v_build (cs := [(i64 (v10.1 - a1_0)), (i64 (v10.2 - a1_0))]) rfl ?_; refine v_st (cs' := [(i64 (v10.1 - a1_0)), (i64 (v10.2 - a1_0))]) st 2 rfl rfl rfl rfl hfl (fun h19 st => ?_); refine r_nil ?_; refine th_n ?_; refine w_ret ?_; obtain rfl := inj hF
  exact end_s st (Res.c gA (st.at (i := 2) rfl).2.2 (show takeN _ _ = some [(i64 (v10.1 - a1_0)), (i64 (v10.2 - a1_0))] from rfl) Res.nil) rfl rfl
end Go.Hx.V

/- Functions of the program come to that. -/
namespace Go.Hx.V
open Go.Hx
set_option linter.unusedVariables false
set_option maxRecDepth 20000
set_option maxHeartbeats 4000000
attribute [local irreducible] W R C thenH inBlockH Tr.get Tr.set lo
theorem ct44 (N : Nat) {a0_0 : Int} {a0_1 : (List (Int × Int))} {a0_2 : (List (Int × Int × Int))} {a0_3 : Int} {a1 : (List Int)} {r : ((List Int) × (List Int))} (hF : sf44 N a0_0 a0_1 a0_2 a0_3 a1 = some r) {fl : Nat} {h0 : Tr HBlk} {n0 : Nat} {F0 : PH} (hd : D h0 n0) (hs : F0.sub h0) (hfl : fl ≤ n0) {pa0_1 : Option (Nat × Nat)} {ca0_1 : Nat} {pa0_2 : Option (Nat × Nat)} {ca0_2 : Nat} {pa1 : Option (Nat × Nat)} {ca1 : Nat} (ra0_1 : RowF (rP rI rI) 2 F0 pa0_1 ca0_1 a0_1) (ra0_2 : RowF (rP rI (rP rI rI)) 3 F0 pa0_2 ca0_2 a0_2) (ra1 : RowF (rK .u16) 1 F0 pa1 ca1 a1) : C LW fl 44 [(.agg [(i64 a0_0), (.slice pa0_1 (a0_1).length ca0_1), (.slice pa0_2 (a0_2).length ca0_2), (i64 a0_3)]), (.slice pa1 (a1).length ca1)] ⟨h0, n0⟩ (KR (rvA (rP (rL rI 1) (rL rI 1))) F0 h0 n0 r) := by
  unfold sf44 at hF
  refine in_mT hd hs hfl lw44 rfl rfl (by rfl) (fun st T hT => ?_)
  have t0 := hT 0 _ rfl
  have t1 := hT 1 _ rfl
  dsimp only [L44]
  refine w_seq ?_; refine w_reg ?_; refine v_box st (fun b1 h2 n3 st => ?_); refine v_alloc st (fun b4 h5 n6 st => ?_); refine r_nil ?_; refine th_n ?_; refine w_seq ?_; refine w_reg ?_; refine v_alloc st (fun b7 h8 n9 st => ?_); refine r_nil ?_; refine th_n ?_; refine w_seq ?_; refine w_seq ?_; refine w_reg ?_; refine v_move ?_; refine r_nil ?_; refine th_n ?_; refine w_block ?_
  have st := st.nilL 1
  have w30 : LR rI 1 F0 ([] : List Int) [] := LR.nil
  obtain ⟨y47, hy, hF⟩ := bnd_some hF; refine v_loopD (sf44_L1 N a0_1 a1) (fun x32 T ds33 h nx => ∃ (F33 : PH) (o34 : Option Nat) (c34 : Nat) (cs34 : List HV), ds33 = [] ∧ PH.le F0 F33 ∧ St n0 h0 F0 F33 h nx [.bx b1 [(i64 a0_0), (.slice pa0_1 (a0_1).length ca0_1), (.slice pa0_2 (a0_2).length ca0_2), (i64 a0_3)], .bx b4 [(.slice none 0 0), (.slice none 0 0)], .bx b7 [(slv o34 (x32.2).length c34), (.slice none 0 0)], .ls o34 c34 cs34 1] ∧ LR rI 1 F33 x32.2 cs34 ∧ T.get 1 = some (.slice pa1 (a1).length ca1) ∧ T.get 2 = some (.ptr (some (b1, 0))) ∧ T.get 4 = some (.ptr (some (b4, 0))) ∧ T.get 5 = some (.ptr (some (b7, 0))) ∧ T.get 6 = some (i64 x32.1)) (fun y e a σ => e = .exit 0 ∧ a.nt = 53 ∧ ∃ (F48 : PH) (o49 : Option Nat) (c49 : Nat) (cs49 : List HV), a.defers = [] ∧ PH.le F0 F48 ∧ St n0 h0 F0 F48 σ.h σ.nx [.bx b1 [(i64 a0_0), (.slice pa0_1 (a0_1).length ca0_1), (.slice pa0_2 (a0_2).length ca0_2), (i64 a0_3)], .bx b4 [(.slice none 0 0), (.slice none 0 0)], .bx b7 [(slv o49 (y).length c49), (.slice none 0 0)], .ls o49 c49 cs49 1] ∧ LR rI 1 F48 y cs49 ∧ a.tmps.get 1 = some (.slice pa1 (a1).length ca1) ∧ a.tmps.get 2 = some (.ptr (some (b1, 0))) ∧ a.tmps.get 4 = some (.ptr (some (b4, 0))) ∧ a.tmps.get 5 = some (.ptr (some (b7, 0)))) (fun x32 T ds33 h nx s hp hF => ?_) N _ y47 _ _ _ _ hy ⟨F0, none, 0, [], rfl, (PH.le.refl _), st, w30, gA, gA, gA, gA, gA⟩ (fun e a σ hne hq => ?_)
  · obtain ⟨F33, o34, c34, cs34, rfl, le33, st, w34, t1, t2, t4, t5, t6⟩ := hp; unfold sf44_L1 at hF; unfold L44w1; refine w_seq ?_; refine w_seq ?_; refine w_reg ?_; refine v_move ?_; refine v_fa ?_; refine v_ld1 (st.at (i := 0) rfl).2.2 rfl ?_; refine v_len ?_; refine v_lss ?_; refine r_nil ?_; refine th_n ?_; refine v_cond (fun hb50 => ?_) (fun hb50 => ?_)
    · have hF := bif_t hb50 hF; refine w_skip ?_; refine th_n ?_; refine w_seq ?_; refine w_block ?_; refine w_drawV (Nat.le_trans hfl st.ext.le) (fun dw => ?_); refine y_pure st.d dw (fun hm vw => v_fa pr_nil) ?_; refine y_pure st.d dw (fun hm vw => v_ld1 (vw.bx (st.at (i := 2) rfl)) rfl pr_nil) ?_; refine y_pure st.d dw (fun hm vw => v_fa pr_nil) ?_; refine y_pure st.d dw (fun hm vw => v_ld1 (vw.bx (st.at (i := 0) rfl)) rfl pr_nil) ?_; refine y_pure st.d dw (fun hm vw => v_move pr_nil) ?_; obtain ⟨n51, x51, z51, l51, g51, hF⟩ := ix_some hF; obtain ⟨b51, o51, s51, j51, r51, e51, f51, k51, ⟨_, _, rfl, rfl, rfl⟩⟩ := RowF.get ra0_1 g51; refine y_pure st.d dw (fun hm vw => v_ixp e51 z51 l51 pr_nil) ?_
      refine y_pure st.d dw (fun hm vw => v_ldn (vw.fz st (le33 _ _ f51)) k51 pr_nil) ?_; refine y_pure st.d dw (fun hm vw => v_move pr_nil) ?_; refine y_pure st.d dw (fun hm vw => v_move pr_nil) ?_; obtain ⟨v52, e53, hF⟩ := bnd_some hF; refine y_flat st.d dw (fun hm vw => u_call (ct75 N e53 vw.d (vw.sub st) (RowF.mono le33 ra1)) (fun n' hn' => pf_nil hn')) (fun n54 hn' dw => ?_); obtain ⟨v55, e56, hF⟩ := bnd_some hF; refine y_flat st.d dw (fun hm vw => u_call (ct74 N e56 vw.d (vw.sub st) ) (fun n' hn' => pf_nil hn')) (fun n57 hn' dw => ?_); refine y_lay st.d dw (fun hm vw => u_bs (cs := [(i64 v55)]) rfl pr_nil) (fun done dw => ?_); refine y_end st.d dw rfl (fun h58 ex vs => ?_)
      have st := St.laid st ex (Lay.cons (b := n57) (cs := [(i64 v55)]) (by have := dw.le; omega) (vs _ (List.mem_cons_self ..) _ _ (if_pos rfl)) (Lay.nil (by have := dw.le; omega)))
      obtain ⟨q59, hF⟩ := ck_some hF
      have w59 : LR rI 1 F33 (x32.2 ++ [v55]) (cs34 ++ [(i64 v55)]) := LR.app w34 (LR.one (rfl))
      refine v_aps (n := 1) (ox := 0) (m := (x32.2 ++ [v55]).length) (row := [(i64 v55)]) st 3 rfl w34.1 (st.at (i := 4) rfl).2.2 rfl rfl q59 hfl (by decide) (by decide) (by simp) (fun o59 c59 h59 n59 st => ?_)
      refine v_fa ?_; refine v_st (cs' := [(slv o59 ((x32.2 ++ [v55])).length c59), (.slice none 0 0)]) st 2 rfl rfl rfl rfl hfl (fun h60 st => ?_); refine r_nil ?_; refine ib_n ?_; refine th_n ?_; refine w_reg ?_; refine v_move ?_; obtain ⟨q61, hF⟩ := ck_some hF; refine v_add q61 ?_; refine v_move ?_; refine r_nil ?_; refine thn ⟨_, (inj hF).symm, rfl, ?_⟩; dsimp only
      exact ⟨F33, o59, c59, (cs34 ++ [(i64 v55)]), rfl, le33, (st.drop (by first | exact List.Sublist.refl _ | (repeat first | exact List.nil_sublist _ | refine List.Sublist.cons_cons _ ?_ | refine List.Sublist.cons _ ?_))), w59, gA, gA, gA, gA, gA⟩
    · have hF := bif_f hb50 hF; refine w_exit ?_; refine th_e ?_; refine th_e ?_; refine ⟨_, (inj hF).symm, rfl, rfl, ?_⟩; dsimp only
      exact ⟨F33, o34, c34, cs34, rfl, le33, st, w34, gA, gA, gA, gA⟩
  · obtain ⟨N9, T, ds48⟩ := a; obtain ⟨h62, n63⟩ := σ; obtain ⟨rfl, e1, F48, o49, c49, cs49, e2, le48, st, w49, t1, t2, t4, t5⟩ := hq
    dsimp only at e1 e2
    subst e1
    subst e2
    dsimp only at st t1 t2 t4 t5
    refine ib_e ?_; refine th_n ?_; refine w_seq ?_; refine w_seq ?_; refine w_reg ?_; refine v_move ?_; refine r_nil ?_; refine th_n ?_; refine w_block ?_
    have st := st.nilL 1
    have w84 : LR rI 1 F48 ([] : List Int) [] := LR.nil
    obtain ⟨y103, hy, hF⟩ := bnd_some hF; refine v_loopD (sf44_L2 N a0_2 a1) (fun x86 T ds87 h nx => ∃ (F87 : PH) (o88 : Option Nat) (c88 : Nat) (cs88 : List HV), ds87 = [] ∧ PH.le F48 F87 ∧ St n0 h0 F0 F87 h nx [.bx b1 [(i64 a0_0), (.slice pa0_1 (a0_1).length ca0_1), (.slice pa0_2 (a0_2).length ca0_2), (i64 a0_3)], .bx b4 [(.slice none 0 0), (.slice none 0 0)], .bx b7 [(slv o49 (y47).length c49), (slv o88 (x86.2).length c88)], .ls o49 c49 cs49 1, .ls o88 c88 cs88 1] ∧ LR rI 1 F87 x86.2 cs88 ∧ T.get 1 = some (.slice pa1 (a1).length ca1) ∧ T.get 2 = some (.ptr (some (b1, 0))) ∧ T.get 4 = some (.ptr (some (b4, 0))) ∧ T.get 5 = some (.ptr (some (b7, 0))) ∧ T.get 7 = some (i64 x86.1)) (fun y e a σ => e = .exit 2 ∧ a.nt = 53 ∧ ∃ (F104 : PH) (o105 : Option Nat) (c105 : Nat) (cs105 : List HV), a.defers = [] ∧ PH.le F48 F104 ∧ St n0 h0 F0 F104 σ.h σ.nx [.bx b1 [(i64 a0_0), (.slice pa0_1 (a0_1).length ca0_1), (.slice pa0_2 (a0_2).length ca0_2), (i64 a0_3)], .bx b4 [(.slice none 0 0), (.slice none 0 0)], .bx b7 [(slv o49 (y47).length c49), (slv o105 (y).length c105)], .ls o49 c49 cs49 1, .ls o105 c105 cs105 1] ∧ LR rI 1 F104 y cs105 ∧ a.tmps.get 4 = some (.ptr (some (b4, 0))) ∧ a.tmps.get 5 = some (.ptr (some (b7, 0)))) (fun x86 T ds87 h nx s hp hF => ?_) N _ y103 _ _ _ _ hy ⟨F48, none, 0, [], rfl, (PH.le.refl _), st, w84, gA, gA, gA, gA, gA⟩ (fun e a σ hne hq => ?_)
    · obtain ⟨F87, o88, c88, cs88, rfl, le87, st, w88, t1, t2, t4, t5, t7⟩ := hp
      have le89 := PH.le.trans le48 le87
      unfold sf44_L2 at hF; unfold L44w0; refine w_seq ?_; refine w_seq ?_; refine w_reg ?_; refine v_move ?_; refine v_fa ?_; refine v_ld1 (st.at (i := 0) rfl).2.2 rfl ?_; refine v_len ?_; refine v_lss ?_; refine r_nil ?_; refine th_n ?_; refine v_cond (fun hb106 => ?_) (fun hb106 => ?_)
      · have hF := bif_t hb106 hF; refine w_skip ?_; refine th_n ?_; refine w_seq ?_; refine w_block ?_; refine w_drawV (Nat.le_trans hfl st.ext.le) (fun dw => ?_); refine y_pure st.d dw (fun hm vw => v_fa pr_nil) ?_; refine y_pure st.d dw (fun hm vw => v_ld1 (vw.bx (st.at (i := 2) rfl)) rfl pr_nil) ?_; refine y_pure st.d dw (fun hm vw => v_fa pr_nil) ?_; refine y_pure st.d dw (fun hm vw => v_ld1 (vw.bx (st.at (i := 0) rfl)) rfl pr_nil) ?_; refine y_pure st.d dw (fun hm vw => v_move pr_nil) ?_; obtain ⟨n107, x107, z107, l107, g107, hF⟩ := ix_some hF; obtain ⟨b107, o107, s107, j107, r107, e107, f107, k107, ⟨_, _, rfl, rfl, ⟨_, _, rfl, rfl, rfl⟩⟩⟩ := RowF.get ra0_2 g107; refine y_pure st.d dw (fun hm vw => v_ixp e107 z107 l107 pr_nil) ?_
        refine y_pure st.d dw (fun hm vw => v_fa pr_nil) ?_
        refine y_pure st.d dw (fun hm vw => v_ldn (vs := [(i64 x107.2.1), (i64 x107.2.2)]) (vw.fz st (le89 _ _ f107)) (take_sub (j := 1) k107 (by decide) rfl) pr_nil) ?_
        refine y_pure st.d dw (fun hm vw => v_move pr_nil) ?_; refine y_pure st.d dw (fun hm vw => v_move pr_nil) ?_; obtain ⟨q108, hF⟩ := ck_some hF; refine y_pure st.d dw (fun hm vw => v_add q108 pr_nil) ?_; obtain ⟨v109, e110, hF⟩ := bnd_some hF; refine y_flat st.d dw (fun hm vw => u_call (ct75 N e110 vw.d (vw.sub st) (RowF.mono le89 ra1)) (fun n' hn' => pf_nil hn')) (fun n111 hn' dw => ?_); obtain ⟨v112, e113, hF⟩ := bnd_some hF; refine y_flat st.d dw (fun hm vw => u_call (ct74 N e113 vw.d (vw.sub st) ) (fun n' hn' => pf_nil hn')) (fun n114 hn' dw => ?_); refine y_lay st.d dw (fun hm vw => u_bs (cs := [(i64 v112)]) rfl pr_nil) (fun done dw => ?_); refine y_end st.d dw rfl (fun h115 ex vs => ?_)
        have st := St.laid st ex (Lay.cons (b := n114) (cs := [(i64 v112)]) (by have := dw.le; omega) (vs _ (List.mem_cons_self ..) _ _ (if_pos rfl)) (Lay.nil (by have := dw.le; omega)))
        obtain ⟨q116, hF⟩ := ck_some hF
        have w116 : LR rI 1 F87 (x86.2 ++ [v112]) (cs88 ++ [(i64 v112)]) := LR.app w88 (LR.one (rfl))
        refine v_aps (n := 1) (ox := 0) (m := (x86.2 ++ [v112]).length) (row := [(i64 v112)]) st 4 rfl w88.1 (st.at (i := 5) rfl).2.2 rfl rfl q116 hfl (by decide) (by decide) (by simp) (fun o116 c116 h116 n116 st => ?_)
        refine v_fa ?_; refine v_st (cs' := [(slv o49 (y47).length c49), (slv o116 ((x86.2 ++ [v112])).length c116)]) st 2 rfl rfl rfl rfl hfl (fun h117 st => ?_); refine r_nil ?_; refine ib_n ?_; refine th_n ?_; refine w_reg ?_; refine v_move ?_; obtain ⟨q118, hF⟩ := ck_some hF; refine v_add q118 ?_; refine v_move ?_; refine r_nil ?_; refine thn ⟨_, (inj hF).symm, rfl, ?_⟩; dsimp only
        exact ⟨F87, o116, c116, (cs88 ++ [(i64 v112)]), rfl, le87, (st.drop (by first | exact List.Sublist.refl _ | (repeat first | exact List.nil_sublist _ | refine List.Sublist.cons_cons _ ?_ | refine List.Sublist.cons _ ?_))), w116, gA, gA, gA, gA, gA⟩
      · have hF := bif_f hb106 hF; refine w_exit ?_; refine th_e ?_; refine th_e ?_; refine ⟨_, (inj hF).symm, rfl, rfl, ?_⟩; dsimp only
        exact ⟨F87, o88, c88, cs88, rfl, le87, st, w88, gA, gA⟩
    · obtain ⟨N9, T, ds104⟩ := a; obtain ⟨h120, n121⟩ := σ; obtain ⟨rfl, e1, F104, o105, c105, cs105, e2, le104, st, w105, t4, t5⟩ := hq
      dsimp only at e1 e2
      subst e1
      subst e2
      dsimp only at st t4 t5
      have le119 := PH.le.trans le48 le104
      refine ib_e ?_; refine th_n ?_; refine w_seq ?_; refine w_reg ?_; refine v_ldn (vs := [(slv o49 (y47).length c49), (slv o105 (y103).length c105)]) (st.at (i := 2) rfl).2.2 rfl ?_; refine v_st (cs' := [(slv o49 (y47).length c49), (slv o105 (y103).length c105)]) st 1 rfl rfl rfl rfl hfl (fun h122 st => ?_); refine r_nil ?_; refine th_n ?_; refine w_ret ?_; obtain rfl := inj hF
      obtain ⟨F123, le123, st, rf123⟩ := St.freeze st 3 rfl (LR.mono le104 w49) (by decide)
      have le124 := PH.le.trans le119 le123
      have le125 := PH.le.trans le104 le123
      obtain ⟨F126, le126, st, rf126⟩ := St.freeze st 3 rfl (LR.mono le123 w105) (by decide)
      have le127 := PH.le.trans le124 le126
      have le128 := PH.le.trans le125 le126
      have le129 := PH.le.trans le123 le126
      exact end_r st (Res.c gA (st.at (i := 1) rfl).2.2 (show takeN _ _ = some [(.slice (o49.map fun b => (b, 0)) (y47).length c49), (.slice (o105.map fun b => (b, 0)) (y103).length c105)] from rfl) Res.nil) ⟨_, rfl, ⟨[(.slice (o49.map fun b => (b, 0)) (y47).length c49)], [(.slice (o105.map fun b => (b, 0)) (y103).length c105)], rfl, ⟨_, _, rfl, (RowF.mono le126 rf123)⟩, ⟨_, _, rfl, rf126⟩⟩⟩
end Go.Hx.V

/- Functions of the program come to that. -/
namespace Go.Hx.V
open Go.Hx
set_option linter.unusedVariables false
set_option maxRecDepth 20000
set_option maxHeartbeats 4000000
attribute [local irreducible] W R C thenH inBlockH Tr.get Tr.set lo
end Go.Hx.V

/- Functions of the program come to that. -/
namespace Go.Hx.V
open Go.Hx
set_option linter.unusedVariables false
set_option maxRecDepth 20000
set_option maxHeartbeats 4000000
attribute [local irreducible] W R C thenH inBlockH Tr.get Tr.set lo
theorem ct76 (N : Nat) {a0_0 : Int} {a0_1 : (List (Int × Int))} {a0_2 : (List (Int × Int × Int))} {a0_3 : Int} {r : Bool} (hF : sf76 N a0_0 a0_1 a0_2 a0_3 = some r) {fl : Nat} {h0 : Tr HBlk} {n0 : Nat} {F0 : PH} (hd : D h0 n0) (hs : F0.sub h0) {pa0_1 : Option (Nat × Nat)} {ca0_1 : Nat} {pa0_2 : Option (Nat × Nat)} {ca0_2 : Nat} (ra0_1 : RowF (rP rI rI) 2 F0 pa0_1 ca0_1 a0_1) (ra0_2 : RowF (rP rI (rP rI rI)) 3 F0 pa0_2 ca0_2 a0_2) : C LW fl 76 [(.agg [(i64 a0_0), (.slice pa0_1 (a0_1).length ca0_1), (.slice pa0_2 (a0_2).length ca0_2), (i64 a0_3)])] ⟨h0, n0⟩ (KS (.bool r) n0 h0) := by
  unfold sf76 at hF
  refine in_cT hd hs lw76 rfl rfl (by rfl) (fun st T hT => ?_)
  have hfl : n0 ≤ n0 := Nat.le_refl n0
  have t0 := hT 0 _ rfl
  dsimp only [L76]
  refine w_seq ?_; refine w_reg ?_; refine v_box st (fun b1 h2 n3 st => ?_); refine v_move ?_; refine r_nil ?_; refine th_n ?_; refine w_seq ?_; refine w_reg ?_; refine v_fa ?_; refine v_ld1 (st.at (i := 0) rfl).2.2 rfl ?_; refine v_len ?_; refine v_gtr ?_; refine v_move ?_
  rcases Bool.eq_false_or_eq_true (decide ((0 : Int) < ((a0_1).length : Int))) with hb4 | hb4
  · have hF := bif_t hb4 hF; refine g_take hb4 (v_fa ?_); refine g_take hb4 (v_ld1 (st.at (i := 0) rfl).2.2 rfl ?_); obtain ⟨v5, e6, hF⟩ := bnd_some hF; refine g_take hb4 (v_call st (ct97 N e6 st.d st.sub ra0_1) (fun n7 st => ?_)); refine v_pick hb4 ?_; refine v_move ?_; refine r_nil ?_; refine th_n ?_; refine w_ret ?_; obtain rfl := inj hF
    exact end_s st (Res.t gA Res.nil) rfl rfl
  · have hF := bif_f hb4 hF; refine g_skip hb4 ?_; refine g_skip hb4 ?_; refine g_skip hb4 ?_; refine v_pick' hb4 ?_; refine v_move ?_; refine r_nil ?_; refine th_n ?_; refine w_ret ?_; obtain rfl := inj hF
    exact end_s st (Res.t gA Res.nil) rfl rfl
theorem ct99 (N : Nat) {a0 : (List (Int × Int × Int))} {r : Bool} (hF : sf99 N a0 = some r) {fl : Nat} {h0 : Tr HBlk} {n0 : Nat} {F0 : PH} (hd : D h0 n0) (hs : F0.sub h0) {pa0 : Option (Nat × Nat)} {ca0 : Nat} (ra0 : RowF (rP rI (rP rI rI)) 3 F0 pa0 ca0 a0) : C LW fl 99 [(.slice pa0 (a0).length ca0), (.func 100 [] [])] ⟨h0, n0⟩ (KS (.bool r) n0 h0) := by
  unfold sf99 at hF
  refine in_cT hd hs lw99 rfl rfl (by rfl) (fun st T hT => ?_)
  have hfl : n0 ≤ n0 := Nat.le_refl n0
  have t0 := hT 0 _ rfl
  have t1 := hT 1 _ rfl
  dsimp only [L99]
  refine w_seq ?_; refine w_reg ?_; refine v_move ?_; refine r_nil ?_; refine th_n ?_; refine w_seq ?_; refine w_seq ?_; refine w_reg ?_; refine v_move ?_; refine v_len ?_; refine v_move ?_; refine r_nil ?_; refine th_n ?_; refine w_block ?_; obtain ⟨y14, hy, hF⟩ := bnd_some hF; refine v_loopD (sf99_L1 N a0) (fun x1 T ds2 h nx => ∃ (F2 : PH), ds2 = [] ∧ PH.le F0 F2 ∧ St n0 h0 F0 F2 h nx [] ∧ T.get 1 = some (.func 100 [] []) ∧ T.get 7 = some (.slice pa0 (a0).length ca0) ∧ T.get 8 = some (i64 ((a0).length : Int)) ∧ T.get 9 = some (i64 x1)) (fun y e a σ => (∃ u, y = (.inl u) ∧ e = .ret ∧ a.nt = 18 ∧ ∃ (F16 : PH), a.defers = [] ∧ PH.le F0 F16 ∧ St n0 h0 F0 F16 σ.h σ.nx [] ∧ a.tmps.get 4 = some (.bool false)) ∨ (∃ u, y = (.inr u) ∧ e = .exit 0 ∧ a.nt = 18 ∧ ∃ (F18 : PH), a.defers = [] ∧ PH.le F0 F18 ∧ St n0 h0 F0 F18 σ.h σ.nx [])) (fun x1 T ds2 h nx s hp hF => ?_) N _ y14 _ _ _ _ hy ⟨F0, rfl, (PH.le.refl _), st, gA, gA, gA, gA⟩ (fun e a σ hne hq => ?_)
  · obtain ⟨F2, rfl, le2, st, t1, t7, t8, t9⟩ := hp; unfold sf99_L1 at hF; unfold L99w0; refine w_seq ?_; refine w_reg ?_; refine v_lss ?_; refine r_nil ?_; refine th_n ?_; refine w_seq ?_; refine v_cond (fun hb19 => ?_) (fun hb19 => ?_)
    · have hF := bif_t hb19 hF; refine w_skip ?_; refine th_n ?_; refine w_seq ?_; refine w_block ?_; refine w_seq ?_; refine w_reg ?_; obtain ⟨n20, x20, z20, l20, g20, hF⟩ := ix_some hF; obtain ⟨b20, o20, s20, j20, r20, e20, f20, k20, ⟨_, _, rfl, rfl, ⟨_, _, rfl, rfl, rfl⟩⟩⟩ := RowF.get ra0 g20; refine v_ixp e20 z20 l20 ?_; refine v_ldn (st.sub _ _ (le2 _ _ f20)) k20 ?_; refine v_alloc st (fun b21 h22 n23 st => ?_); refine v_st (cs' := [(i64 x20.1), (i64 x20.2.1), (i64 x20.2.2)]) st 0 rfl rfl rfl rfl hfl (fun h24 st => ?_); refine r_nil ?_; refine th_n ?_; refine w_seq ?_; refine w_reg ?_; refine v_move ?_; refine v_ldn (vs := [(i64 x20.1), (i64 x20.2.1), (i64 x20.2.2)]) (st.at (i := 0) rfl).2.2 rfl ?_
      obtain ⟨v25, e26, hF⟩ := bnd_some hF; refine v_call st (ct100 N e26 st.d st.sub ) (fun n27 st => ?_); refine v_not ?_; refine r_nil ?_; refine th_n ?_; refine v_cond (fun hb28 => ?_) (fun hb28 => ?_)
      · have hF := bif_t hb28 hF; refine w_seq ?_; refine w_reg ?_; refine v_move ?_; refine r_nil ?_; refine th_n ?_; refine w_ret ?_; refine ib_r ?_; refine th_r ?_; refine th_r ?_; refine ⟨_, (inj hF).symm, .inl ⟨_, rfl, rfl, rfl, ?_⟩⟩; dsimp only
        exact ⟨F2, rfl, le2, (st.drop (by first | exact List.Sublist.refl _ | (repeat first | exact List.nil_sublist _ | refine List.Sublist.cons_cons _ ?_ | refine List.Sublist.cons _ ?_))), gA⟩
      · have hF := bif_f hb28 hF; refine w_skip ?_; refine ib_n ?_; refine th_n ?_; refine w_reg ?_; obtain ⟨q29, hF⟩ := ck_some hF; refine v_add q29 ?_; refine v_move ?_; refine r_nil ?_; refine thn ⟨_, (inj hF).symm, rfl, ?_⟩; dsimp only
        exact ⟨F2, rfl, le2, (st.drop (by first | exact List.Sublist.refl _ | (repeat first | exact List.nil_sublist _ | refine List.Sublist.cons_cons _ ?_ | refine List.Sublist.cons _ ?_))), gA, gA, gA, gA⟩
    · have hF := bif_f hb19 hF; refine w_exit ?_; refine th_e ?_; refine th_e ?_; refine ⟨_, (inj hF).symm, .inr (⟨_, rfl, rfl, rfl, ?_⟩)⟩; dsimp only
      exact ⟨F2, rfl, le2, st⟩
  · rcases hq with hq | hq
    · obtain ⟨N9, T, ds16⟩ := a; obtain ⟨h30, n31⟩ := σ; obtain ⟨w15, rfl, rfl, e1, F16, e2, le16, st, t4⟩ := hq
      dsimp only at e1 e2
      subst e1
      subst e2
      dsimp only at st t4
      have hF := sel_l hF; refine ib_r ?_; refine th_r ?_; obtain rfl := inj hF
      exact end_s st (Res.t gA Res.nil) rfl rfl
    · obtain ⟨N9, T, ds18⟩ := a; obtain ⟨h32, n33⟩ := σ; obtain ⟨w17, rfl, rfl, e1, F18, e2, le18, st⟩ := hq
      dsimp only at e1 e2
      subst e1
      subst e2
      dsimp only at st
      have hF := sel_r hF; refine ib_e ?_; refine th_n ?_; refine w_seq ?_; refine w_reg ?_; refine v_move ?_; refine r_nil ?_; refine th_n ?_; refine w_ret ?_; obtain rfl := inj hF
      exact end_s st (Res.t gA Res.nil) rfl rfl
theorem ct78 (N : Nat) {a0_0 : Int} {a0_1 : (List (Int × Int))} {a0_2 : (List (Int × Int × Int))} {a0_3 : Int} {r : Bool} (hF : sf78 N a0_0 a0_1 a0_2 a0_3 = some r) {fl : Nat} {h0 : Tr HBlk} {n0 : Nat} {F0 : PH} (hd : D h0 n0) (hs : F0.sub h0) {pa0_1 : Option (Nat × Nat)} {ca0_1 : Nat} {pa0_2 : Option (Nat × Nat)} {ca0_2 : Nat} (ra0_1 : RowF (rP rI rI) 2 F0 pa0_1 ca0_1 a0_1) (ra0_2 : RowF (rP rI (rP rI rI)) 3 F0 pa0_2 ca0_2 a0_2) : C LW fl 78 [(.agg [(i64 a0_0), (.slice pa0_1 (a0_1).length ca0_1), (.slice pa0_2 (a0_2).length ca0_2), (i64 a0_3)])] ⟨h0, n0⟩ (KS (.bool r) n0 h0) := by
  unfold sf78 at hF
  refine in_cT hd hs lw78 rfl rfl (by rfl) (fun st T hT => ?_)
  have hfl : n0 ≤ n0 := Nat.le_refl n0
  have t0 := hT 0 _ rfl
  dsimp only [L78]
  refine w_seq ?_; refine w_reg ?_; refine v_box st (fun b1 h2 n3 st => ?_); refine v_move ?_; refine r_nil ?_; refine th_n ?_; refine w_seq ?_; refine w_drawV (Nat.le_trans hfl st.ext.le) (fun dw => ?_)
  have wf := Wf.start st
  obtain ⟨v4, e5, hF⟩ := bnd_some hF; refine y_flat st.d dw (fun hm vw => u_call (ct83 N e5 vw.d (FF.sub wf st vw) ) (fun n' hn' => pf_nil hn')) (fun n6 hn' dw => ?_); refine y_pure st.d dw (fun hm vw => v_ldn (vs := [(i64 a0_0), (.slice pa0_1 (a0_1).length ca0_1), (.slice pa0_2 (a0_2).length ca0_2), (i64 a0_3)]) (vw.bx (st.at (i := 0) rfl)) rfl pr_nil) ?_; obtain ⟨v7, e8, hF⟩ := bnd_some hF
  refine y_deep st dw wf (fun hm vw => u_callR (ct84 N e8 vw.d (FF.sub wf st vw) (Nat.max_le.2 ⟨by have := dw.le; have := st.ext.le; omega, Nat.le_refl _⟩) (RowF.mono FF.base ra0_1) (RowF.mono FF.base ra0_2)) (fun v F' h' n' ex l1 l2 l3 l4 => r_nil ⟨_, _, rfl, ex, l1, l2, l3, l4⟩)) (fun u9 F9 n9 done hn' dw9 wf9 rv9 le9 => ?_)
  have wf := wf9
  have dw := dw9
  obtain ⟨_, rfl, ⟨_, _, rfl, ⟨py10, cy10, rfl, ry10⟩, ⟨py11, cy11, rfl, ry11⟩⟩⟩ := rv9; refine y_lay st.d dw (fun hm vw => u_alloc pr_nil) (fun done dw => ?_)
  have wf := Wf.lay wf (e := (3, one n9 (.cells [(.slice none 0 0), (.slice none 0 0)] .exact)))
  refine y_end st.d dw rfl (fun h12 ex vs => ?_)
  obtain ⟨F13, lt13, st⟩ := St.laidF st dw wf ex vs (Lay.cons (b := n9) (cs := [(.slice none 0 0), (.slice none 0 0)]) (by have := dw.le; omega) (vs _ (List.mem_cons_self ..) _ _ (if_pos rfl)) (Lay.nil (by have := dw.le; omega))) (by intro e he w hw; simp only [List.mem_cons, List.not_mem_nil, or_false] at he hw; rcases he with rfl <;> rcases hw with rfl <;> exact Dw.not dw (by first | exact .inl (by first | exact List.Sublist.refl _ | (repeat first | exact List.nil_sublist _ | refine List.Sublist.cons_cons _ ?_ | refine List.Sublist.cons _ ?_)) | exact .inr (by first | exact List.Sublist.refl _ | (repeat first | exact List.nil_sublist _ | refine List.Sublist.cons_cons _ ?_ | refine List.Sublist.cons _ ?_))))
  have lz14 := lt13 _ (le9 (fun _ => true) rfl (fun _ _ => rfl))
  have lb13 := lt13 _ FF.base
  refine v_st (cs' := [(.slice py10 (v7.1).length cy10), (.slice py11 (v7.2).length cy11)]) st 1 rfl rfl rfl rfl hfl (fun h15 st => ?_); refine r_nil ?_; refine th_n ?_; refine w_seq ?_; refine w_drawV (Nat.le_trans hfl st.ext.le) (fun dw => ?_); refine y_pure st.d dw (fun hm vw => v_fa pr_nil) ?_; refine y_pure st.d dw (fun hm vw => v_ld1 (vw.bx (st.at (i := 1) rfl)) rfl pr_nil) ?_; obtain ⟨n16, x16, z16, l16, g16, hF⟩ := ix_some hF; obtain ⟨b16, o16, s16, j16, r16, e16, f16, k16, rfl⟩ := RowF.get ry10 g16; refine y_pure st.d dw (fun hm vw => v_ixp e16 z16 l16 pr_nil) ?_; refine y_pure st.d dw (fun hm vw => v_ld1 (vw.fz st (lz14 _ _ f16)) (take_at (j := 0) k16 rfl) pr_nil) ?_; refine y_pure st.d dw (fun hm vw => v_fa pr_nil) ?_
  refine y_pure st.d dw (fun hm vw => v_ld1 (vw.bx (st.at (i := 1) rfl)) rfl pr_nil) ?_; obtain ⟨q17, hF⟩ := ck_some hF
  refine y_step st.d dw rfl rfl (fun hm vw => v_slf (m := ((v7.1.drop (Int.toNat (1 : Int))).take (v7.1.length - (Int.toNat (1 : Int)))).length) (Int.toNat (1 : Int)) v7.1.length ry10 (bd_some (by first | exact ev_c | (apply ev_t; repeat first | exact ge_h | refine ge_w rfl ?_ | refine ge_f rfl ?_ | refine ge_m rfl ?_ | assumption)) (Int.toNat_of_nonneg q17.1).symm) bd_none q17.2.2 (by simp <;> omega) (fun p17 c17 n18 hn' rs17 => r_nil (y_call dw hn' vw.d (fun dw => ?_))))
  refine y_end st.d dw rfl (fun h19 ex vs => ?_)
  have st := st.ext1 ex
  obtain ⟨v20, e21, hF⟩ := bnd_some hF; refine v_call st (ct103 N e21 st.d st.sub (RowF.mono lz14 rs17)) (fun n22 st => ?_); refine v_move ?_; refine r_nil ?_; refine th_n ?_; refine w_seq ?_; refine w_drawV (Nat.le_trans hfl st.ext.le) (fun dw => ?_); refine y_pure st.d dw (fun hm vw => v_fa pr_nil) ?_; refine y_pure st.d dw (fun hm vw => v_ld1 (vw.bx (st.at (i := 1) rfl)) rfl pr_nil) ?_; obtain ⟨n23, x23, z23, l23, g23, hF⟩ := ix_some hF; obtain ⟨b23, o23, s23, j23, r23, e23, f23, k23, rfl⟩ := RowF.get ry11 g23; refine y_pure st.d dw (fun hm vw => v_ixp e23 z23 l23 pr_nil) ?_; refine y_pure st.d dw (fun hm vw => v_ld1 (vw.fz st (lz14 _ _ f23)) (take_at (j := 0) k23 rfl) pr_nil) ?_; refine y_pure st.d dw (fun hm vw => v_fa pr_nil) ?_
  refine y_pure st.d dw (fun hm vw => v_ld1 (vw.bx (st.at (i := 1) rfl)) rfl pr_nil) ?_; obtain ⟨q24, hF⟩ := ck_some hF
  refine y_step st.d dw rfl rfl (fun hm vw => v_slf (m := ((v7.2.drop (Int.toNat (1 : Int))).take (v7.2.length - (Int.toNat (1 : Int)))).length) (Int.toNat (1 : Int)) v7.2.length ry11 (bd_some (by first | exact ev_c | (apply ev_t; repeat first | exact ge_h | refine ge_w rfl ?_ | refine ge_f rfl ?_ | refine ge_m rfl ?_ | assumption)) (Int.toNat_of_nonneg q24.1).symm) bd_none q24.2.2 (by simp <;> omega) (fun p24 c24 n25 hn' rs24 => r_nil (y_call dw hn' vw.d (fun dw => ?_))))
  refine y_end st.d dw rfl (fun h26 ex vs => ?_)
  have st := st.ext1 ex
  obtain ⟨v27, e28, hF⟩ := bnd_some hF; refine v_call st (ct103 N e28 st.d st.sub (RowF.mono lz14 rs24)) (fun n29 st => ?_); refine v_move ?_; refine r_nil ?_; refine th_n ?_; refine w_seq ?_; refine w_reg ?_; refine v_fa ?_; refine v_ld1 (st.at (i := 0) rfl).2.2 rfl ?_; refine v_move ?_; obtain ⟨q30, hF⟩ := ck_some hF; refine v_add q30 ?_; refine v_move ?_; obtain ⟨q31, hF⟩ := ck_some hF; refine v_add q31 ?_; refine v_geq ?_; refine v_move ?_; refine r_nil ?_; refine th_n ?_; refine w_ret ?_; obtain rfl := inj hF
  exact end_s st (Res.t gA Res.nil) rfl rfl
theorem ct54 (N : Nat) {a0_0 : Int} {a0_1 : (List (Int × Int))} {a0_2 : (List (Int × Int × Int))} {a0_3 : Int} {r : (Int × (List (Int × Int)) × (List (Int × Int × Int)) × Int × (List Int) × (List Int))} (hF : sf54 N a0_0 a0_1 a0_2 a0_3 = some r) {fl : Nat} {h0 : Tr HBlk} {n0 : Nat} {F0 : PH} (hd : D h0 n0) (hs : F0.sub h0) (hfl : fl ≤ n0) {pa0_1 : Option (Nat × Nat)} {ca0_1 : Nat} {pa0_2 : Option (Nat × Nat)} {ca0_2 : Nat} (ra0_1 : RowF (rP rI rI) 2 F0 pa0_1 ca0_1 a0_1) (ra0_2 : RowF (rP rI (rP rI rI)) 3 F0 pa0_2 ca0_2 a0_2) : C LW fl 54 [(.agg [(i64 a0_0), (.slice pa0_1 (a0_1).length ca0_1), (.slice pa0_2 (a0_2).length ca0_2), (i64 a0_3)])] ⟨h0, n0⟩ (KR (rvA (rP rI (rP (rL (rP rI rI) 2) (rP (rL (rP rI (rP rI rI)) 3) (rP rI (rP (rL rI 1) (rL rI 1))))))) F0 h0 n0 r) := by
  unfold sf54 at hF
  refine in_mT hd hs hfl lw54 rfl rfl (by rfl) (fun st T hT => ?_)
  have t0 := hT 0 _ rfl
  dsimp only [L54]
  refine w_seq ?_; refine w_reg ?_; refine v_box st (fun b1 h2 n3 st => ?_); refine v_alloc st (fun b4 h5 n6 st => ?_); refine r_nil ?_; refine th_n ?_; refine w_seq ?_; refine w_drawV (Nat.le_trans hfl st.ext.le) (fun dw => ?_)
  have wf := Wf.start st
  refine y_pure st.d dw (fun hm vw => v_ldn (vs := [(i64 a0_0), (.slice pa0_1 (a0_1).length ca0_1), (.slice pa0_2 (a0_2).length ca0_2), (i64 a0_3)]) (vw.bx (st.at (i := 0) rfl)) rfl pr_nil) ?_; refine y_pure st.d dw (fun hm vw => v_ldn (vs := [(i64 a0_0), (.slice pa0_1 (a0_1).length ca0_1), (.slice pa0_2 (a0_2).length ca0_2), (i64 a0_3)]) (vw.bx (st.at (i := 0) rfl)) rfl pr_nil) ?_; obtain ⟨v7, e8, hF⟩ := bnd_some hF; refine y_flat st.d dw (fun hm vw => u_call (ct83 N e8 vw.d (FF.sub wf st vw) ) (fun n' hn' => pf_nil hn')) (fun n9 hn' dw => ?_); refine y_pure st.d dw (fun hm vw => v_ldn (vs := [(i64 a0_0), (.slice pa0_1 (a0_1).length ca0_1), (.slice pa0_2 (a0_2).length ca0_2), (i64 a0_3)]) (vw.bx (st.at (i := 0) rfl)) rfl pr_nil) ?_
  obtain ⟨v10, e11, hF⟩ := bnd_some hF
  refine y_deep st dw wf (fun hm vw => u_callR (ct84 N e11 vw.d (FF.sub wf st vw) (Nat.max_le.2 ⟨by have := dw.le; have := st.ext.le; omega, Nat.le_refl _⟩) (RowF.mono FF.base ra0_1) (RowF.mono FF.base ra0_2)) (fun v F' h' n' ex l1 l2 l3 l4 => r_nil ⟨_, _, rfl, ex, l1, l2, l3, l4⟩)) (fun u12 F12 n12 done hn' dw12 wf12 rv12 le12 => ?_)
  have wf := wf12
  have dw := dw12
  obtain ⟨_, rfl, ⟨_, _, rfl, ⟨py13, cy13, rfl, ry13⟩, ⟨py14, cy14, rfl, ry14⟩⟩⟩ := rv12; obtain ⟨v15, e16, hF⟩ := bnd_some hF
  refine y_deep st dw wf (fun hm vw => u_callR (ct53 N e16 vw.d (FF.sub wf st vw) (Nat.max_le.2 ⟨by have := dw.le; have := st.ext.le; omega, Nat.le_refl _⟩) (RowF.mono FF.base ra0_1) (RowF.mono FF.base ra0_2) (RowF.mono (le12 _ rfl (con_sub rfl)) ry13) (RowF.mono (le12 _ rfl (con_sub rfl)) ry14)) (fun v F' h' n' ex l1 l2 l3 l4 => r_nil ⟨_, _, rfl, ex, l1, l2, l3, l4⟩)) (fun u17 F17 n17 done hn' dw17 wf17 rv17 le17 => ?_)
  have le19 := fun (f : Nat → Bool) q1 q2 => PH.le.trans (le12 f q1 q2) (FF.cons wf wf17 dw17)
  have wf := wf17
  have dw := dw17
  obtain ⟨py18, cy18, rfl, ry18⟩ := rv17; refine y_pure st.d dw (fun hm vw => v_ldn (vs := [(i64 a0_0), (.slice pa0_1 (a0_1).length ca0_1), (.slice pa0_2 (a0_2).length ca0_2), (i64 a0_3)]) (vw.bx (st.at (i := 0) rfl)) rfl pr_nil) ?_; obtain ⟨v20, e21, hF⟩ := bnd_some hF; refine y_flat st.d dw (fun hm vw => u_call (ct85 N e21 vw.d (FF.sub wf st vw) ) (fun n' hn' => pf_nil hn')) (fun n22 hn' dw => ?_); refine y_pure st.d dw (fun hm vw => v_ldn (vs := [(i64 a0_0), (.slice pa0_1 (a0_1).length ca0_1), (.slice pa0_2 (a0_2).length ca0_2), (i64 a0_3)]) (vw.bx (st.at (i := 0) rfl)) rfl pr_nil) ?_; obtain ⟨v23, e24, hF⟩ := bnd_some hF
  refine y_deep st dw wf (fun hm vw => u_callR (ct84_2 N e24 vw.d (FF.sub wf st vw) (Nat.max_le.2 ⟨by have := dw.le; have := st.ext.le; omega, Nat.le_refl _⟩) (RowF.mono FF.base ra0_1) (RowF.mono FF.base ra0_2)) (fun v F' h' n' ex l1 l2 l3 l4 => r_nil ⟨_, _, rfl, ex, l1, l2, l3, l4⟩)) (fun u25 F25 n25 done hn' dw25 wf25 rv25 le25 => ?_)
  have le28 := fun (f : Nat → Bool) q1 q2 => PH.le.trans (le19 f q1 q2) (FF.cons wf wf25 dw25)
  have le29 := fun (f : Nat → Bool) q1 q2 => PH.le.trans (le17 f q1 q2) (FF.cons wf wf25 dw25)
  have wf := wf25
  have dw := dw25
  obtain ⟨_, rfl, ⟨_, _, rfl, ⟨py26, cy26, rfl, ry26⟩, ⟨py27, cy27, rfl, ry27⟩⟩⟩ := rv25; obtain ⟨v30, e31, hF⟩ := bnd_some hF
  refine y_deep st dw wf (fun hm vw => u_callR (ct53 N e31 vw.d (FF.sub wf st vw) (Nat.max_le.2 ⟨by have := dw.le; have := st.ext.le; omega, Nat.le_refl _⟩) (RowF.mono FF.base ra0_1) (RowF.mono FF.base ra0_2) (RowF.mono (le25 _ rfl (con_sub rfl)) ry26) (RowF.mono (le25 _ rfl (con_sub rfl)) ry27)) (fun v F' h' n' ex l1 l2 l3 l4 => r_nil ⟨_, _, rfl, ex, l1, l2, l3, l4⟩)) (fun u32 F32 n32 done hn' dw32 wf32 rv32 le32 => ?_)
  have le34 := fun (f : Nat → Bool) q1 q2 => PH.le.trans (le28 f q1 q2) (FF.cons wf wf32 dw32)
  have le35 := fun (f : Nat → Bool) q1 q2 => PH.le.trans (le29 f q1 q2) (FF.cons wf wf32 dw32)
  have le36 := fun (f : Nat → Bool) q1 q2 => PH.le.trans (le25 f q1 q2) (FF.cons wf wf32 dw32)
  have wf := wf32
  have dw := dw32
  obtain ⟨py33, cy33, rfl, ry33⟩ := rv32; refine y_end st.d dw rfl (fun h37 ex vs => ?_)
  obtain ⟨F38, lt38, st⟩ := St.laidF st dw wf ex vs (Lay.nil (by have := dw.le; omega)) (fun e he => by cases he)
  have lz39 := lt38 _ (le34 (fun _ => true) rfl (fun _ _ => rfl))
  have lz40 := lt38 _ (le35 (fun _ => true) rfl (fun _ _ => rfl))
  have lz41 := lt38 _ (le36 (fun _ => true) rfl (fun _ _ => rfl))
  have lz42 := lt38 _ (le32 (fun _ => true) rfl (fun _ _ => rfl))
  have lb38 := lt38 _ FF.base
  refine v_build (cs := [(i64 a0_0), (.slice pa0_1 (a0_1).length ca0_1), (.slice pa0_2 (a0_2).length ca0_2), (i64 a0_3), (.slice py18 (v15).length cy18), (.slice py33 (v30).length cy33)]) rfl ?_; refine v_st (cs' := [(i64 a0_0), (.slice pa0_1 (a0_1).length ca0_1), (.slice pa0_2 (a0_2).length ca0_2), (i64 a0_3), (.slice py18 (v15).length cy18), (.slice py33 (v30).length cy33)]) st 1 rfl rfl rfl rfl hfl (fun h43 st => ?_); refine r_nil ?_; refine th_n ?_; refine w_ret ?_; obtain rfl := inj hF
  exact end_r st (Res.c gA (st.at (i := 1) rfl).2.2 (show takeN _ _ = some [(i64 a0_0), (.slice pa0_1 (a0_1).length ca0_1), (.slice pa0_2 (a0_2).length ca0_2), (i64 a0_3), (.slice py18 (v15).length cy18), (.slice py33 (v30).length cy33)] from rfl) Res.nil) ⟨_, rfl, ⟨[(i64 a0_0)], [(.slice pa0_1 (a0_1).length ca0_1), (.slice pa0_2 (a0_2).length ca0_2), (i64 a0_3), (.slice py18 (v15).length cy18), (.slice py33 (v30).length cy33)], rfl, rfl, ⟨[(.slice pa0_1 (a0_1).length ca0_1)], [(.slice pa0_2 (a0_2).length ca0_2), (i64 a0_3), (.slice py18 (v15).length cy18), (.slice py33 (v30).length cy33)], rfl, ⟨_, _, rfl, (RowF.mono lb38 ra0_1)⟩, ⟨[(.slice pa0_2 (a0_2).length ca0_2)], [(i64 a0_3), (.slice py18 (v15).length cy18), (.slice py33 (v30).length cy33)], rfl, ⟨_, _, rfl, (RowF.mono lb38 ra0_2)⟩, ⟨[(i64 a0_3)], [(.slice py18 (v15).length cy18), (.slice py33 (v30).length cy33)], rfl, rfl, ⟨[(.slice py18 (v15).length cy18)], [(.slice py33 (v30).length cy33)], rfl, ⟨_, _, rfl, (RowF.mono lz40 ry18)⟩, ⟨_, _, rfl, (RowF.mono lz42 ry33)⟩⟩⟩⟩⟩⟩⟩
end Go.Hx.V

/- Functions of the program come to that. -/
namespace Go.Hx.V
open Go.Hx
set_option linter.unusedVariables false
set_option maxRecDepth 20000
set_option maxHeartbeats 4000000
attribute [local irreducible] W R C thenH inBlockH Tr.get Tr.set lo
theorem ct56 (N : Nat) {a0_0 : Int} {a0_1 : (List (Int × Int))} {a0_2 : (List (Int × Int × Int))} {a0_3 : Int} {r : Int} (hF : sf56 N a0_0 a0_1 a0_2 a0_3 = some r) {fl : Nat} {h0 : Tr HBlk} {n0 : Nat} {F0 : PH} (hd : D h0 n0) (hs : F0.sub h0) {pa0_1 : Option (Nat × Nat)} {ca0_1 : Nat} {pa0_2 : Option (Nat × Nat)} {ca0_2 : Nat} (ra0_1 : RowF (rP rI rI) 2 F0 pa0_1 ca0_1 a0_1) (ra0_2 : RowF (rP rI (rP rI rI)) 3 F0 pa0_2 ca0_2 a0_2) : C LW fl 56 [(.agg [(i64 a0_0), (.slice pa0_1 (a0_1).length ca0_1), (.slice pa0_2 (a0_2).length ca0_2), (i64 a0_3)])] ⟨h0, n0⟩ (KS (i64 r) n0 h0) := by
  unfold sf56 at hF
  refine in_cT hd hs lw56 rfl rfl (by rfl) (fun st T hT => ?_)
  have hfl : n0 ≤ n0 := Nat.le_refl n0
  have t0 := hT 0 _ rfl
  dsimp only [L56]
  refine w_seq ?_; refine w_reg ?_; refine v_box st (fun b1 h2 n3 st => ?_); refine v_move ?_; refine r_nil ?_; refine th_n ?_; obtain ⟨y11, hA12, hF⟩ := bnd_some hF; refine w_cutD (fun T ds17 h nx => ∃ u, y11 = (.inr u) ∧ ∃ (F17 : PH), ds17 = [] ∧ PH.le F0 F17 ∧ St n0 h0 F0 F17 h nx [.bx b1 [(i64 a0_0), (.slice pa0_1 (a0_1).length ca0_1), (.slice pa0_2 (a0_2).length ca0_2), (i64 a0_3)]] ∧ T.get 1 = some (.ptr (some (b1, 0)))) ?_ (fun T ds17 h nx hp => ?_)
  · have hK13 := hF
    have hF := hA12; obtain ⟨y19, hA20, hF⟩ := bnd_some hF; refine w_cutD (fun T ds22 h nx => ∃ (F22 : PH), ds22 = [] ∧ PH.le F0 F22 ∧ St n0 h0 F0 F22 h nx [.bx b1 [(i64 a0_0), (.slice pa0_1 (a0_1).length ca0_1), (.slice pa0_2 (a0_2).length ca0_2), (i64 a0_3)]] ∧ T.get 1 = some (.ptr (some (b1, 0))) ∧ T.get 16 = some (.bool y19)) ?_ (fun T ds22 h nx hp => ?_)
    · have hK21 := hF
      have hF := hA20; refine w_reg ?_; refine v_fa ?_; refine v_ld1 (st.at (i := 0) rfl).2.2 rfl ?_; refine v_len ?_; refine v_gtr ?_; refine v_move ?_
      rcases Bool.eq_false_or_eq_true (decide ((8 : Int) < ((a0_1).length : Int))) with hb23 | hb23
      · have hF := bif_t hb23 hF; refine g_skip hb23 ?_; refine g_skip hb23 ?_; refine g_skip hb23 ?_; refine g_skip hb23 ?_; refine v_pick hb23 ?_; refine r_nil ?_; obtain rfl := inj hF; refine thn ⟨rfl, ?_⟩; dsimp only
        exact ⟨F0, rfl, (PH.le.refl _), st, gA, gA⟩
      · have hF := bif_f hb23 hF; refine g_take hb23 (v_fa ?_); refine g_take hb23 (v_ld1 (st.at (i := 0) rfl).2.2 rfl ?_); refine g_take hb23 (v_len ?_); refine g_take hb23 (v_gtr ?_); refine v_pick' hb23 ?_; refine r_nil ?_; obtain rfl := inj hF; refine thn ⟨rfl, ?_⟩; dsimp only
        exact ⟨F0, rfl, (PH.le.refl _), st, gA, gA⟩
    · obtain ⟨F22, rfl, le22, st, t1, t16⟩ := hp; refine v_cond (fun hb24 => ?_) (fun hb24 => ?_)
      · have hF := bif_t hb24 hF; refine w_seq ?_; refine w_reg ?_; refine v_move ?_; refine r_nil ?_; refine th_n ?_; refine w_ret ?_; obtain rfl := inj hF; have hF := hK13; have hF := sel_l hF; refine th_r ?_; obtain rfl := inj hF
        exact end_s st (Res.t gA Res.nil) rfl rfl
      · have hF := bif_f hb24 hF; refine w_skip ?_; obtain rfl := inj hF; refine thn ⟨rfl, _, rfl, ?_⟩; dsimp only
        exact ⟨F22, rfl, le22, st, gA⟩
  · obtain ⟨w16, rfl, F17, rfl, le17, st, t1⟩ := hp; have hF := sel_r hF; obtain ⟨y53, hA54, hF⟩ := bnd_some hF; refine w_cutD (fun T ds59 h nx => ∃ u, y53 = (.inr u) ∧ ∃ (F59 : PH), ds59 = [] ∧ PH.le F17 F59 ∧ St n0 h0 F0 F59 h nx [.bx b1 [(i64 a0_0), (.slice pa0_1 (a0_1).length ca0_1), (.slice pa0_2 (a0_2).length ca0_2), (i64 a0_3)]] ∧ T.get 1 = some (.ptr (some (b1, 0)))) ?_ (fun T ds59 h nx hp => ?_)
    · have hK55 := hF
      have hF := hA54; obtain ⟨y71, hA72, hF⟩ := bnd_some hF; refine w_cutD (fun T ds74 h nx => ∃ (F74 : PH), ds74 = [] ∧ PH.le F17 F74 ∧ St n0 h0 F0 F74 h nx [.bx b1 [(i64 a0_0), (.slice pa0_1 (a0_1).length ca0_1), (.slice pa0_2 (a0_2).length ca0_2), (i64 a0_3)]] ∧ T.get 1 = some (.ptr (some (b1, 0))) ∧ T.get 46 = some (.bool y71)) ?_ (fun T ds74 h nx hp => ?_)
      · have hK73 := hF
        have hF := hA72; refine w_reg ?_; refine v_fa ?_; refine v_ld1 (st.at (i := 0) rfl).2.2 rfl ?_; obtain ⟨v75, e76, hF⟩ := bnd_some hF; refine v_call st (ct24 N e76 st.d st.sub ) (fun n77 st => ?_); refine v_not ?_; refine v_move ?_
        rcases Bool.eq_false_or_eq_true (!v75) with hb78 | hb78
        · have hF := bif_t hb78 hF; refine g_skip hb78 ?_; refine g_skip hb78 ?_; refine g_skip hb78 ?_; refine g_skip hb78 ?_; refine v_pick hb78 ?_; refine v_move ?_; refine g_skip rfl ?_; refine g_skip rfl ?_; refine g_skip rfl ?_; refine g_skip rfl ?_; refine v_pick rfl ?_; refine v_move ?_; refine g_skip rfl ?_; refine g_skip rfl ?_; refine g_skip rfl ?_; refine g_skip rfl ?_; refine v_pick rfl ?_; refine v_move ?_; refine g_skip rfl ?_; refine g_skip rfl ?_; refine g_skip rfl ?_; refine g_skip rfl ?_; refine g_skip rfl ?_; refine g_skip rfl ?_; refine v_pick rfl ?_; refine r_nil ?_; obtain rfl := inj hF; refine thn ⟨rfl, ?_⟩; dsimp only
          exact ⟨F17, rfl, (PH.le.refl _), st, gA, gA⟩
        · have hF := bif_f hb78 hF; refine g_take hb78 (v_fa ?_); refine g_take hb78 (v_ld1 (st.at (i := 0) rfl).2.2 rfl ?_); obtain ⟨v79, e80, hF⟩ := bnd_some hF; refine g_take hb78 (v_call st (ct24 N e80 st.d st.sub ) (fun n81 st => ?_)); refine g_take hb78 (v_not ?_); refine v_pick' hb78 ?_; refine v_move ?_
          rcases Bool.eq_false_or_eq_true (!v79) with hb82 | hb82
          · have hF := bif_t hb82 hF; refine g_skip hb82 ?_; refine g_skip hb82 ?_; refine g_skip hb82 ?_; refine g_skip hb82 ?_; refine v_pick hb82 ?_; refine v_move ?_; refine g_skip rfl ?_; refine g_skip rfl ?_; refine g_skip rfl ?_; refine g_skip rfl ?_; refine v_pick rfl ?_; refine v_move ?_; refine g_skip rfl ?_; refine g_skip rfl ?_; refine g_skip rfl ?_; refine g_skip rfl ?_; refine g_skip rfl ?_; refine g_skip rfl ?_; refine v_pick rfl ?_; refine r_nil ?_; obtain rfl := inj hF; refine thn ⟨rfl, ?_⟩; dsimp only
            exact ⟨F17, rfl, (PH.le.refl _), st, gA, gA⟩
          · have hF := bif_f hb82 hF; refine g_take hb82 (v_fa ?_); refine g_take hb82 (v_ld1 (st.at (i := 0) rfl).2.2 rfl ?_); refine g_take hb82 (v_len ?_); refine g_take hb82 (v_eqi ?_); refine v_pick' hb82 ?_; refine v_move ?_
            rcases Bool.eq_false_or_eq_true (decide (((a0_1).length : Int) = (0 : Int))) with hb83 | hb83
            · have hF := bif_t hb83 hF; refine g_skip hb83 ?_; refine g_skip hb83 ?_; refine g_skip hb83 ?_; refine g_skip hb83 ?_; refine v_pick hb83 ?_; refine v_move ?_; refine g_skip rfl ?_; refine g_skip rfl ?_; refine g_skip rfl ?_; refine g_skip rfl ?_; refine g_skip rfl ?_; refine g_skip rfl ?_; refine v_pick rfl ?_; refine r_nil ?_; obtain rfl := inj hF; refine thn ⟨rfl, ?_⟩; dsimp only
              exact ⟨F17, rfl, (PH.le.refl _), st, gA, gA⟩
            · have hF := bif_f hb83 hF; refine g_take hb83 (v_fa ?_); refine g_take hb83 (v_ld1 (st.at (i := 0) rfl).2.2 rfl ?_); refine g_take hb83 (v_len ?_); refine g_take hb83 (v_eqi ?_); refine v_pick' hb83 ?_; refine v_move ?_
              rcases Bool.eq_false_or_eq_true (decide (((a0_2).length : Int) = (0 : Int))) with hb84 | hb84
              · have hF := bif_t hb84 hF; refine g_skip hb84 ?_; refine g_skip hb84 ?_; refine g_skip hb84 ?_; refine g_skip hb84 ?_; refine g_skip hb84 ?_; refine g_skip hb84 ?_; refine v_pick hb84 ?_; refine r_nil ?_; obtain rfl := inj hF; refine thn ⟨rfl, ?_⟩; dsimp only
                exact ⟨F17, rfl, (PH.le.refl _), st, gA, gA⟩
              · have hF := bif_f hb84 hF; refine g_take hb84 (v_fa ?_); refine g_take hb84 (v_ld1 (st.at (i := 0) rfl).2.2 rfl ?_); obtain ⟨n85, x85, z85, l85, g85, hF⟩ := ix_some hF; obtain ⟨b85, o85, s85, j85, r85, e85, f85, k85, ⟨_, _, rfl, rfl, ⟨_, _, rfl, rfl, rfl⟩⟩⟩ := RowF.get ra0_2 g85; refine g_take hb84 (v_ixp e85 z85 l85 ?_); refine g_take hb84 (v_fa ?_); refine g_take hb84 (v_ld1 (st.sub _ _ (le17 _ _ f85)) (take_at (j := 0) k85 rfl) ?_); refine g_take hb84 (v_nei ?_); refine v_pick' hb84 ?_; refine r_nil ?_; obtain rfl := inj hF; refine thn ⟨rfl, ?_⟩; dsimp only
                exact ⟨F17, rfl, (PH.le.refl _), st, gA, gA⟩
      · obtain ⟨F74, rfl, le74, st, t1, t46⟩ := hp
        have le86 := PH.le.trans le17 le74
        refine v_cond (fun hb87 => ?_) (fun hb87 => ?_)
        · have hF := bif_t hb87 hF; refine w_seq ?_; refine w_reg ?_; refine v_move ?_; refine r_nil ?_; refine th_n ?_; refine w_ret ?_; obtain rfl := inj hF; have hF := hK55; have hF := sel_l hF; refine th_r ?_; obtain rfl := inj hF
          exact end_s st (Res.t gA Res.nil) rfl rfl
        · have hF := bif_f hb87 hF; refine w_skip ?_; obtain rfl := inj hF; refine thn ⟨rfl, _, rfl, ?_⟩; dsimp only
          exact ⟨F74, rfl, le74, st, gA⟩
    · obtain ⟨w58, rfl, F59, rfl, le59, st, t1⟩ := hp; have hF := sel_r hF
      have le89 := PH.le.trans le17 le59
      refine w_seq ?_; refine w_seq ?_; refine w_reg ?_; refine v_move ?_; refine r_nil ?_; refine th_n ?_; refine w_block ?_; obtain ⟨y139, hy, hF⟩ := bnd_some hF; refine v_loopD (sf56_L1 N a0_2) (fun x90 T ds91 h nx => ∃ (F91 : PH), ds91 = [] ∧ PH.le F59 F91 ∧ St n0 h0 F0 F91 h nx [.bx b1 [(i64 a0_0), (.slice pa0_1 (a0_1).length ca0_1), (.slice pa0_2 (a0_2).length ca0_2), (i64 a0_3)]] ∧ T.get 1 = some (.ptr (some (b1, 0))) ∧ T.get 3 = some (i64 x90)) (fun y e a σ => (∃ u, y = (.inl u) ∧ e = .ret ∧ a.nt = 124 ∧ ∃ (F141 : PH), a.defers = [] ∧ PH.le F59 F141 ∧ St n0 h0 F0 F141 σ.h σ.nx [.bx b1 [(i64 a0_0), (.slice pa0_1 (a0_1).length ca0_1), (.slice pa0_2 (a0_2).length ca0_2), (i64 a0_3)]] ∧ a.tmps.get 2 = some (i64 u)) ∨ (∃ u, y = (.inr u) ∧ e = .exit 0 ∧ a.nt = 124 ∧ ∃ (F143 : PH), a.defers = [] ∧ PH.le F59 F143 ∧ St n0 h0 F0 F143 σ.h σ.nx [.bx b1 [(i64 a0_0), (.slice pa0_1 (a0_1).length ca0_1), (.slice pa0_2 (a0_2).length ca0_2), (i64 a0_3)]] ∧ a.tmps.get 1 = some (.ptr (some (b1, 0))))) (fun x90 T ds91 h nx s hp hF => ?_) N _ y139 _ _ _ _ hy ⟨F59, rfl, (PH.le.refl _), st, gA, gA⟩ (fun e a σ hne hq => ?_)
      · obtain ⟨F91, rfl, le91, st, t1, t3⟩ := hp
        have le92 := PH.le.trans le89 le91
        have le93 := PH.le.trans le59 le91
        unfold sf56_L1 at hF; unfold L56w2; refine w_seq ?_; refine w_seq ?_; refine w_reg ?_; refine v_move ?_; refine v_fa ?_; refine v_ld1 (st.at (i := 0) rfl).2.2 rfl ?_; refine v_len ?_; refine v_lss ?_; refine r_nil ?_; refine th_n ?_; refine v_cond (fun hb144 => ?_) (fun hb144 => ?_)
        · have hF := bif_t hb144 hF; refine w_skip ?_; refine th_n ?_; refine w_seq ?_; refine w_block ?_; refine w_seq ?_; refine w_reg ?_; refine v_fa ?_; refine v_ld1 (st.at (i := 0) rfl).2.2 rfl ?_; refine v_move ?_; obtain ⟨n145, x145, z145, l145, g145, hF⟩ := ix_some hF; obtain ⟨b145, o145, s145, j145, r145, e145, f145, k145, ⟨_, _, rfl, rfl, ⟨_, _, rfl, rfl, rfl⟩⟩⟩ := RowF.get ra0_2 g145; refine v_ixp e145 z145 l145 ?_; refine v_ldn (st.sub _ _ (le92 _ _ f145)) k145 ?_; refine v_alloc st (fun b146 h147 n148 st => ?_); refine v_st (cs' := [(i64 x145.1), (i64 x145.2.1), (i64 x145.2.2)]) st 1 rfl rfl rfl rfl hfl (fun h149 st => ?_); refine r_nil ?_; refine th_n ?_; obtain ⟨y165, hA166, hF⟩ := bnd_some hF
          refine w_cutD (fun T ds168 h nx => ∃ (F168 : PH), ds168 = [] ∧ PH.le F91 F168 ∧ St n0 h0 F0 F168 h nx [.bx b1 [(i64 a0_0), (.slice pa0_1 (a0_1).length ca0_1), (.slice pa0_2 (a0_2).length ca0_2), (i64 a0_3)], .bx b146 [(i64 x145.1), (i64 x145.2.1), (i64 x145.2.2)]] ∧ T.get 1 = some (.ptr (some (b1, 0))) ∧ T.get 3 = some (i64 x90) ∧ T.get 84 = some (.bool y165)) ?_ (fun T ds168 h nx hp => ?_)
          · have hK167 := hF
            have hF := hA166; refine w_drawV (Nat.le_trans hfl st.ext.le) (fun dw => ?_); refine y_pure st.d dw (fun hm vw => v_fa pr_nil) ?_; refine y_pure st.d dw (fun hm vw => v_ld1 (vw.bx (st.at (i := 1) rfl)) rfl pr_nil) ?_; obtain ⟨v169, e170, hF⟩ := bnd_some hF; refine y_flat st.d dw (fun hm vw => u_call (ct24 N e170 vw.d (vw.sub st) ) (fun n' hn' => pf_nil hn')) (fun n171 hn' dw => ?_); refine y_pure st.d dw (fun hm vw => v_not pr_nil) ?_; refine y_pure st.d dw (fun hm vw => v_move pr_nil) ?_
            rcases Bool.eq_false_or_eq_true (!v169) with hb172 | hb172
            · have hF := bif_t hb172 hF; refine y_pure st.d dw (fun hm vw => g_skip hb172 pr_nil) ?_; refine y_pure st.d dw (fun hm vw => g_skip hb172 pr_nil) ?_; refine y_pure st.d dw (fun hm vw => g_skip hb172 pr_nil) ?_; refine y_pure st.d dw (fun hm vw => g_skip hb172 pr_nil) ?_; refine y_pure st.d dw (fun hm vw => v_pick hb172 pr_nil) ?_; refine y_pure st.d dw (fun hm vw => v_move pr_nil) ?_; refine y_pure st.d dw (fun hm vw => g_skip rfl pr_nil) ?_; refine y_pure st.d dw (fun hm vw => g_skip rfl pr_nil) ?_; refine y_pure st.d dw (fun hm vw => g_skip rfl pr_nil) ?_; refine y_pure st.d dw (fun hm vw => g_skipu pr_nil) ?_; refine y_pure st.d dw (fun hm vw => g_skipu pr_nil) ?_; refine y_pure st.d dw (fun hm vw => g_skipu pr_nil) ?_
              refine y_pure st.d dw (fun hm vw => g_skipu pr_nil) ?_; refine y_pure st.d dw (fun hm vw => g_skipu pr_nil) ?_; refine y_pure st.d dw (fun hm vw => g_skipu pr_nil) ?_; refine y_pure st.d dw (fun hm vw => g_skipu pr_nil) ?_; refine y_pure st.d dw (fun hm vw => g_skipu pr_nil) ?_; refine y_pure st.d dw (fun hm vw => g_skipu pr_nil) ?_; refine y_end st.d dw rfl (fun h173 ex vs => ?_)
              have st := st.ext1 ex
              refine g_skipu ?_; refine g_skip rfl ?_; refine v_pick rfl ?_; refine r_nil ?_; obtain rfl := inj hF; refine thn ⟨rfl, ?_⟩; dsimp only
              exact ⟨F91, rfl, (PH.le.refl _), st, gA, gA, gA⟩
            · have hF := bif_f hb172 hF; refine y_pure st.d dw (fun hm vw => g_take hb172 (v_fa pr_nil)) ?_; refine y_pure st.d dw (fun hm vw => g_take hb172 (v_ldn (vs := [(i64 x145.2.1), (i64 x145.2.2)]) (vw.bx (st.at (i := 1) rfl)) rfl pr_nil)) ?_; obtain ⟨v174, e175, hF⟩ := bnd_some hF; refine y_flat st.d dw (fun hm vw => g_take hb172 (u_call (ct86 N e175 vw.d (vw.sub st) ) (fun n' hn' => pf_nil hn'))) (fun n176 hn' dw => ?_); refine y_pure st.d dw (fun hm vw => g_take hb172 (v_not pr_nil)) ?_; refine y_pure st.d dw (fun hm vw => v_pick' hb172 pr_nil) ?_; refine y_pure st.d dw (fun hm vw => v_move pr_nil) ?_
              rcases Bool.eq_false_or_eq_true (!v174) with hb177 | hb177
              · have hF := bif_t hb177 hF; refine y_pure st.d dw (fun hm vw => g_skip hb177 pr_nil) ?_; refine y_pure st.d dw (fun hm vw => g_skip hb177 pr_nil) ?_; refine y_pure st.d dw (fun hm vw => g_skip hb177 pr_nil) ?_; refine y_pure st.d dw (fun hm vw => g_skipu pr_nil) ?_; refine y_pure st.d dw (fun hm vw => g_skipu pr_nil) ?_; refine y_pure st.d dw (fun hm vw => g_skipu pr_nil) ?_; refine y_pure st.d dw (fun hm vw => g_skipu pr_nil) ?_; refine y_pure st.d dw (fun hm vw => g_skipu pr_nil) ?_; refine y_pure st.d dw (fun hm vw => g_skipu pr_nil) ?_; refine y_pure st.d dw (fun hm vw => g_skipu pr_nil) ?_; refine y_pure st.d dw (fun hm vw => g_skipu pr_nil) ?_; refine y_pure st.d dw (fun hm vw => g_skipu pr_nil) ?_
                refine y_end st.d dw rfl (fun h178 ex vs => ?_)
                have st := st.ext1 ex
                refine g_skipu ?_; refine g_skip hb177 ?_; refine v_pick hb177 ?_; refine r_nil ?_; obtain rfl := inj hF; refine thn ⟨rfl, ?_⟩; dsimp only
                exact ⟨F91, rfl, (PH.le.refl _), st, gA, gA, gA⟩
              · have hF := bif_f hb177 hF; refine y_pure st.d dw (fun hm vw => g_take hb177 (v_move pr_nil)) ?_; refine y_pure st.d dw (fun hm vw => g_take hb177 (v_gtr pr_nil)) ?_; refine y_pure st.d dw (fun hm vw => g_take hb177 (v_move pr_nil)) ?_
                rcases Bool.eq_false_or_eq_true (decide ((0 : Int) < x90)) with hb179 | hb179
                · have hF := bif_t hb179 hF; refine y_pure st.d dw (fun hm vw => g_take hb179 (v_fa pr_nil)) ?_; refine y_pure st.d dw (fun hm vw => g_take hb179 (v_ld1 (vw.bx (st.at (i := 1) rfl)) rfl pr_nil)) ?_; refine y_pure st.d dw (fun hm vw => g_take hb179 (v_fa pr_nil)) ?_; refine y_pure st.d dw (fun hm vw => g_take hb179 (v_ld1 (vw.bx (st.at (i := 0) rfl)) rfl pr_nil)) ?_; refine y_pure st.d dw (fun hm vw => g_take hb179 (v_move pr_nil)) ?_; obtain ⟨q180, hF⟩ := ck_some hF; refine y_pure st.d dw (fun hm vw => g_take hb179 (v_sub q180 pr_nil)) ?_; obtain ⟨n181, x181, z181, l181, g181, hF⟩ := ix_some hF; obtain ⟨b181, o181, s181, j181, r181, e181, f181, k181, ⟨_, _, rfl, rfl, ⟨_, _, rfl, rfl, rfl⟩⟩⟩ := RowF.get ra0_2 g181
                  refine y_pure st.d dw (fun hm vw => g_take hb179 (v_ixp e181 z181 l181 pr_nil)) ?_; refine y_pure st.d dw (fun hm vw => g_take hb179 (v_fa pr_nil)) ?_; refine y_pure st.d dw (fun hm vw => g_take hb179 (v_ld1 (vw.fz st (le92 _ _ f181)) (take_at (j := 0) k181 rfl) pr_nil)) ?_; refine y_end st.d dw rfl (fun h182 ex vs => ?_)
                  have st := st.ext1 ex
                  refine g_take hb179 (v_leq ?_); refine g_take hb177 (v_pick hb179 ?_); refine v_pick' hb177 ?_; refine r_nil ?_; obtain rfl := inj hF; refine thn ⟨rfl, ?_⟩; dsimp only
                  exact ⟨F91, rfl, (PH.le.refl _), st, gA, gA, gA⟩
                · have hF := bif_f hb179 hF; refine y_pure st.d dw (fun hm vw => g_skip hb179 pr_nil) ?_; refine y_pure st.d dw (fun hm vw => g_skip hb179 pr_nil) ?_; refine y_pure st.d dw (fun hm vw => g_skip hb179 pr_nil) ?_; refine y_pure st.d dw (fun hm vw => g_skip hb179 pr_nil) ?_; refine y_pure st.d dw (fun hm vw => g_skip hb179 pr_nil) ?_; refine y_pure st.d dw (fun hm vw => g_skip hb179 pr_nil) ?_; refine y_pure st.d dw (fun hm vw => g_skip hb179 pr_nil) ?_; refine y_pure st.d dw (fun hm vw => g_skip hb179 pr_nil) ?_; refine y_pure st.d dw (fun hm vw => g_skip hb179 pr_nil) ?_; refine y_end st.d dw rfl (fun h183 ex vs => ?_)
                  have st := st.ext1 ex
                  refine g_skip hb179 ?_; refine g_take hb177 (v_pick' hb179 ?_); refine v_pick' hb177 ?_; refine r_nil ?_; obtain rfl := inj hF; refine thn ⟨rfl, ?_⟩; dsimp only
                  exact ⟨F91, rfl, (PH.le.refl _), st, gA, gA, gA⟩
          · obtain ⟨F168, rfl, le168, st, t1, t3, t84⟩ := hp
            have le184 := PH.le.trans le92 le168
            have le185 := PH.le.trans le93 le168
            have le186 := PH.le.trans le91 le168
            refine v_cond (fun hb187 => ?_) (fun hb187 => ?_)
            · have hF := bif_t hb187 hF; refine w_seq ?_; refine w_reg ?_; refine v_move ?_; refine r_nil ?_; refine th_n ?_; refine w_ret ?_; refine ib_r ?_; refine th_r ?_; refine th_r ?_; refine ⟨_, (inj hF).symm, .inl ⟨_, rfl, rfl, rfl, ?_⟩⟩; dsimp only
              exact ⟨F168, rfl, le186, (st.drop (by first | exact List.Sublist.refl _ | (repeat first | exact List.nil_sublist _ | refine List.Sublist.cons_cons _ ?_ | refine List.Sublist.cons _ ?_))), gA⟩
            · have hF := bif_f hb187 hF; refine w_skip ?_; refine ib_n ?_; refine th_n ?_; refine w_reg ?_; refine v_move ?_; obtain ⟨q188, hF⟩ := ck_some hF; refine v_add q188 ?_; refine v_move ?_; refine r_nil ?_; refine thn ⟨_, (inj hF).symm, rfl, ?_⟩; dsimp only
              exact ⟨F168, rfl, le186, (st.drop (by first | exact List.Sublist.refl _ | (repeat first | exact List.nil_sublist _ | refine List.Sublist.cons_cons _ ?_ | refine List.Sublist.cons _ ?_))), gA, gA⟩
        · have hF := bif_f hb144 hF; refine w_exit ?_; refine th_e ?_; refine th_e ?_; refine ⟨_, (inj hF).symm, .inr (⟨_, rfl, rfl, rfl, ?_⟩)⟩; dsimp only
          exact ⟨F91, rfl, le91, st, gA⟩
      · rcases hq with hq | hq
        · obtain ⟨N9, T, ds141⟩ := a; obtain ⟨h191, n192⟩ := σ; obtain ⟨w140, rfl, rfl, e1, F141, e2, le141, st, t2⟩ := hq
          dsimp only at e1 e2
          subst e1
          subst e2
          dsimp only at st t2
          have le189 := PH.le.trans le89 le141
          have le190 := PH.le.trans le59 le141
          have hF := sel_l hF; refine ib_r ?_; refine th_r ?_; obtain rfl := inj hF
          exact end_s st (Res.t gA Res.nil) rfl rfl
        · obtain ⟨N9, T, ds143⟩ := a; obtain ⟨h195, n196⟩ := σ; obtain ⟨w142, rfl, rfl, e1, F143, e2, le143, st, t1⟩ := hq
          dsimp only at e1 e2
          subst e1
          subst e2
          dsimp only at st t1
          have le193 := PH.le.trans le89 le143
          have le194 := PH.le.trans le59 le143
          have hF := sel_r hF; refine ib_e ?_; refine th_n ?_; refine w_seq ?_; refine w_seq ?_; refine w_reg ?_; refine v_move ?_; refine r_nil ?_; refine th_n ?_; refine w_block ?_; obtain ⟨y248, hy, hF⟩ := bnd_some hF; refine v_loopD (sf56_L3 N a0_0 a0_1 a0_2) (fun x197 T ds198 h nx => ∃ (F198 : PH), ds198 = [] ∧ PH.le F143 F198 ∧ St n0 h0 F0 F198 h nx [.bx b1 [(i64 a0_0), (.slice pa0_1 (a0_1).length ca0_1), (.slice pa0_2 (a0_2).length ca0_2), (i64 a0_3)]] ∧ T.get 1 = some (.ptr (some (b1, 0))) ∧ T.get 5 = some (i64 x197)) (fun y e a σ => (∃ u, y = (.inl u) ∧ e = .ret ∧ a.nt = 124 ∧ ∃ (F250 : PH), a.defers = [] ∧ PH.le F143 F250 ∧ St n0 h0 F0 F250 σ.h σ.nx [.bx b1 [(i64 a0_0), (.slice pa0_1 (a0_1).length ca0_1), (.slice pa0_2 (a0_2).length ca0_2), (i64 a0_3)]] ∧ a.tmps.get 2 = some (i64 u)) ∨ (∃ u, y = (.inr u) ∧ e = .exit 2 ∧ a.nt = 124 ∧ ∃ (F252 : PH), a.defers = [] ∧ PH.le F143 F252 ∧ St n0 h0 F0 F252 σ.h σ.nx [.bx b1 [(i64 a0_0), (.slice pa0_1 (a0_1).length ca0_1), (.slice pa0_2 (a0_2).length ca0_2), (i64 a0_3)]])) (fun x197 T ds198 h nx s hp hF => ?_) N _ y248 _ _ _ _ hy ⟨F143, rfl, (PH.le.refl _), st, gA, gA⟩ (fun e a σ hne hq => ?_)
          · obtain ⟨F198, rfl, le198, st, t1, t5⟩ := hp
            have le199 := PH.le.trans le193 le198
            have le200 := PH.le.trans le194 le198
            have le201 := PH.le.trans le143 le198
            unfold sf56_L3 at hF; unfold L56w1; refine w_seq ?_; refine w_seq ?_; refine w_reg ?_; refine v_move ?_; refine v_fa ?_; refine v_ld1 (st.at (i := 0) rfl).2.2 rfl ?_; refine v_len ?_; refine v_lss ?_; refine r_nil ?_; refine th_n ?_; refine v_cond (fun hb253 => ?_) (fun hb253 => ?_)
            · have hF := bif_t hb253 hF; refine w_skip ?_; refine th_n ?_; refine w_seq ?_; refine w_block ?_; refine w_seq ?_; refine w_seq ?_; refine w_reg ?_; refine v_fa ?_; refine v_ld1 (st.at (i := 0) rfl).2.2 rfl ?_; refine v_move ?_; obtain ⟨n254, x254, z254, l254, g254, hF⟩ := ix_some hF; obtain ⟨b254, o254, s254, j254, r254, e254, f254, k254, ⟨_, _, rfl, rfl, rfl⟩⟩ := RowF.get ra0_1 g254; refine v_ixp e254 z254 l254 ?_; refine v_ldn (st.sub _ _ (le199 _ _ f254)) k254 ?_; obtain ⟨v255, e256, hF⟩ := bnd_some hF; refine v_call st (ct86 N e256 st.d st.sub ) (fun n257 st => ?_); refine v_not ?_; refine r_nil ?_; refine th_n ?_; refine v_cond (fun hb258 => ?_) (fun hb258 => ?_)
              · have hF := bif_t hb258 hF; refine w_seq ?_; refine w_reg ?_; refine v_move ?_; refine r_nil ?_; refine th_n ?_; refine w_ret ?_; refine th_r ?_; refine ib_r ?_; refine th_r ?_; refine th_r ?_; refine ⟨_, (inj hF).symm, .inl ⟨_, rfl, rfl, rfl, ?_⟩⟩; dsimp only
                exact ⟨F198, rfl, le198, st, gA⟩
              · have hF := bif_f hb258 hF; refine w_skip ?_; refine th_n ?_; refine w_seq ?_; refine w_reg ?_; refine v_move ?_; refine r_nil ?_; refine th_n ?_; refine w_block ?_; obtain ⟨y273, hy, hF⟩ := bnd_some hF; refine v_loopD (sf56_L2 a0_0 a0_1 a0_2 x197) (fun x259 T ds260 h nx => ∃ (F260 : PH), ds260 = [] ∧ PH.le F198 F260 ∧ St n0 h0 F0 F260 h nx [.bx b1 [(i64 a0_0), (.slice pa0_1 (a0_1).length ca0_1), (.slice pa0_2 (a0_2).length ca0_2), (i64 a0_3)]] ∧ T.get 1 = some (.ptr (some (b1, 0))) ∧ T.get 5 = some (i64 x197) ∧ T.get 6 = some (i64 x259)) (fun y e a σ => (∃ u, y = (.inl u) ∧ e = .ret ∧ a.nt = 124 ∧ ∃ (F275 : PH), a.defers = [] ∧ PH.le F198 F275 ∧ St n0 h0 F0 F275 σ.h σ.nx [.bx b1 [(i64 a0_0), (.slice pa0_1 (a0_1).length ca0_1), (.slice pa0_2 (a0_2).length ca0_2), (i64 a0_3)]] ∧ a.tmps.get 2 = some (i64 u)) ∨ (∃ u, y = (.inr u) ∧ e = .exit 4 ∧ a.nt = 124 ∧ ∃ (F277 : PH), a.defers = [] ∧ PH.le F198 F277 ∧ St n0 h0 F0 F277 σ.h σ.nx [.bx b1 [(i64 a0_0), (.slice pa0_1 (a0_1).length ca0_1), (.slice pa0_2 (a0_2).length ca0_2), (i64 a0_3)]] ∧ a.tmps.get 1 = some (.ptr (some (b1, 0))) ∧ a.tmps.get 5 = some (i64 x197))) (fun x259 T ds260 h nx s hp hF => ?_) N _ y273 _ _ _ _ hy ⟨F198, rfl, (PH.le.refl _), st, gA, gA, gA⟩ (fun e a σ hne hq => ?_)
                · obtain ⟨F260, rfl, le260, st, t1, t5, t6⟩ := hp
                  have le261 := PH.le.trans le199 le260
                  have le262 := PH.le.trans le200 le260
                  have le263 := PH.le.trans le201 le260
                  have le264 := PH.le.trans le198 le260
                  unfold sf56_L2 at hF; unfold L56w0; refine w_seq ?_; refine w_seq ?_; refine w_reg ?_; refine v_move ?_; refine v_fa ?_; refine v_ld1 (st.at (i := 0) rfl).2.2 rfl ?_; refine v_len ?_; refine v_lss ?_; refine r_nil ?_; refine th_n ?_; refine v_cond (fun hb278 => ?_) (fun hb278 => ?_)
                  · have hF := bif_t hb278 hF; refine w_skip ?_; refine th_n ?_; refine w_seq ?_; refine w_block ?_; refine w_seq ?_; refine w_drawV (Nat.le_trans hfl st.ext.le) (fun dw => ?_); refine y_pure st.d dw (fun hm vw => v_fa pr_nil) ?_; refine y_pure st.d dw (fun hm vw => v_ld1 (vw.bx (st.at (i := 0) rfl)) rfl pr_nil) ?_; refine y_pure st.d dw (fun hm vw => v_fa pr_nil) ?_; refine y_pure st.d dw (fun hm vw => v_ld1 (vw.bx (st.at (i := 0) rfl)) rfl pr_nil) ?_; refine y_pure st.d dw (fun hm vw => v_move pr_nil) ?_; obtain ⟨n279, x279, z279, l279, g279, hF⟩ := ix_some hF; obtain ⟨b279, o279, s279, j279, r279, e279, f279, k279, ⟨_, _, rfl, rfl, rfl⟩⟩ := RowF.get ra0_1 g279; refine y_pure st.d dw (fun hm vw => v_ixp e279 z279 l279 pr_nil) ?_
                    refine y_pure st.d dw (fun hm vw => v_fa pr_nil) ?_; refine y_pure st.d dw (fun hm vw => v_ld1 (vw.fz st (le261 _ _ f279)) (take_at (j := 0) k279 rfl) pr_nil) ?_; obtain ⟨q280, hF⟩ := ck_some hF; refine y_pure st.d dw (fun hm vw => v_add q280 pr_nil) ?_; refine y_pure st.d dw (fun hm vw => v_fa pr_nil) ?_; refine y_pure st.d dw (fun hm vw => v_ld1 (vw.bx (st.at (i := 0) rfl)) rfl pr_nil) ?_; refine y_pure st.d dw (fun hm vw => v_move pr_nil) ?_; obtain ⟨n281, x281, z281, l281, g281, hF⟩ := ix_some hF; obtain ⟨b281, o281, s281, j281, r281, e281, f281, k281, ⟨_, _, rfl, rfl, ⟨_, _, rfl, rfl, rfl⟩⟩⟩ := RowF.get ra0_2 g281; refine y_pure st.d dw (fun hm vw => v_ixp e281 z281 l281 pr_nil) ?_
                    refine y_pure st.d dw (fun hm vw => v_fa pr_nil) ?_; refine y_pure st.d dw (fun hm vw => v_fa pr_nil) ?_; refine y_pure st.d dw (fun hm vw => v_ld1 (vw.fz st (le261 _ _ f281)) (take_at (j := 1) k281 rfl) pr_nil) ?_; refine y_end st.d dw rfl (fun h282 ex vs => ?_)
                    have st := st.ext1 ex
                    obtain ⟨q283, hF⟩ := ck_some hF; refine v_add q283 ?_; refine v_lss ?_; refine r_nil ?_; refine th_n ?_; refine v_cond (fun hb284 => ?_) (fun hb284 => ?_)
                    · have hF := bif_t hb284 hF; refine w_seq ?_; refine w_reg ?_; refine v_move ?_; refine r_nil ?_; refine th_n ?_; refine w_ret ?_; refine ib_r ?_; refine th_r ?_; refine th_r ?_; refine ⟨_, (inj hF).symm, .inl ⟨_, rfl, rfl, rfl, ?_⟩⟩; dsimp only
                      exact ⟨F260, rfl, le260, st, gA⟩
                    · have hF := bif_f hb284 hF; refine w_skip ?_; refine ib_n ?_; refine th_n ?_; refine w_reg ?_; refine v_move ?_; obtain ⟨q285, hF⟩ := ck_some hF; refine v_add q285 ?_; refine v_move ?_; refine r_nil ?_; refine thn ⟨_, (inj hF).symm, rfl, ?_⟩; dsimp only
                      exact ⟨F260, rfl, le260, st, gA, gA, gA⟩
                  · have hF := bif_f hb278 hF; refine w_exit ?_; refine th_e ?_; refine th_e ?_; refine ⟨_, (inj hF).symm, .inr (⟨_, rfl, rfl, rfl, ?_⟩)⟩; dsimp only
                    exact ⟨F260, rfl, le260, st, gA, gA⟩
                · rcases hq with hq | hq
                  · obtain ⟨N9, T, ds275⟩ := a; obtain ⟨h290, n291⟩ := σ; obtain ⟨w274, rfl, rfl, e1, F275, e2, le275, st, t2⟩ := hq
                    dsimp only at e1 e2
                    subst e1
                    subst e2
                    dsimp only at st t2
                    have le286 := PH.le.trans le199 le275
                    have le287 := PH.le.trans le200 le275
                    have le288 := PH.le.trans le201 le275
                    have le289 := PH.le.trans le198 le275
                    have hF := sel_l hF; refine ib_r ?_; refine ib_r ?_; refine th_r ?_; refine th_r ?_; refine ⟨_, (inj hF).symm, .inl ⟨_, rfl, rfl, rfl, ?_⟩⟩; dsimp only
                    exact ⟨F275, rfl, le289, st, gA⟩
                  · obtain ⟨N9, T, ds277⟩ := a; obtain ⟨h296, n297⟩ := σ; obtain ⟨w276, rfl, rfl, e1, F277, e2, le277, st, t1, t5⟩ := hq
                    dsimp only at e1 e2
                    subst e1
                    subst e2
                    dsimp only at st t1 t5
                    have le292 := PH.le.trans le199 le277
                    have le293 := PH.le.trans le200 le277
                    have le294 := PH.le.trans le201 le277
                    have le295 := PH.le.trans le198 le277
                    have hF := sel_r hF; refine ib_e ?_; refine ib_n ?_; refine th_n ?_; refine w_reg ?_; refine v_move ?_; obtain ⟨q298, hF⟩ := ck_some hF; refine v_add q298 ?_; refine v_move ?_; refine r_nil ?_; refine thn ⟨_, (inj hF).symm, rfl, ?_⟩; dsimp only
                    exact ⟨F277, rfl, le295, st, gA, gA⟩
            · have hF := bif_f hb253 hF; refine w_exit ?_; refine th_e ?_; refine th_e ?_; refine ⟨_, (inj hF).symm, .inr (⟨_, rfl, rfl, rfl, ?_⟩)⟩; dsimp only
              exact ⟨F198, rfl, le198, st⟩
          · rcases hq with hq | hq
            · obtain ⟨N9, T, ds250⟩ := a; obtain ⟨h302, n303⟩ := σ; obtain ⟨w249, rfl, rfl, e1, F250, e2, le250, st, t2⟩ := hq
              dsimp only at e1 e2
              subst e1
              subst e2
              dsimp only at st t2
              have le299 := PH.le.trans le193 le250
              have le300 := PH.le.trans le194 le250
              have le301 := PH.le.trans le143 le250
              have hF := sel_l hF; refine ib_r ?_; refine th_r ?_; obtain rfl := inj hF
              exact end_s st (Res.t gA Res.nil) rfl rfl
            · obtain ⟨N9, T, ds252⟩ := a; obtain ⟨h307, n308⟩ := σ; obtain ⟨w251, rfl, rfl, e1, F252, e2, le252, st⟩ := hq
              dsimp only at e1 e2
              subst e1
              subst e2
              dsimp only at st
              have le304 := PH.le.trans le193 le252
              have le305 := PH.le.trans le194 le252
              have le306 := PH.le.trans le143 le252
              have hF := sel_r hF; refine ib_e ?_; refine th_n ?_; refine w_seq ?_; refine w_reg ?_; refine v_move ?_; refine r_nil ?_; refine th_n ?_; refine w_ret ?_; obtain rfl := inj hF
              exact end_s st (Res.t gA Res.nil) rfl rfl
end Go.Hx.V

/- Functions of the program come to that. -/
namespace Go.Hx.V
open Go.Hx
set_option linter.unusedVariables false
set_option maxRecDepth 20000
set_option maxHeartbeats 4000000
attribute [local irreducible] W R C thenH inBlockH Tr.get Tr.set lo
theorem ct26 (N : Nat) {a0_0 : Int} {a0_1 : (List (Int × Int))} {a0_2 : (List (Int × Int × Int))} {a0_3 : Int} {a1 : Int} {r : (Int × Int)} (hF : sf26 N a0_0 a0_1 a0_2 a0_3 a1 = some r) {fl : Nat} {h0 : Tr HBlk} {n0 : Nat} {F0 : PH} (hd : D h0 n0) (hs : F0.sub h0) {pa0_1 : Option (Nat × Nat)} {ca0_1 : Nat} {pa0_2 : Option (Nat × Nat)} {ca0_2 : Nat} (ra0_1 : RowF (rP rI rI) 2 F0 pa0_1 ca0_1 a0_1) (ra0_2 : RowF (rP rI (rP rI rI)) 3 F0 pa0_2 ca0_2 a0_2) : C LW fl 26 [(.agg [(i64 a0_0), (.slice pa0_1 (a0_1).length ca0_1), (.slice pa0_2 (a0_2).length ca0_2), (i64 a0_3)]), (i64 a1)] ⟨h0, n0⟩ (KS (.agg [(i64 r.1), (i64 r.2)]) n0 h0) := by
  unfold sf26 at hF
  refine in_cT hd hs lw26 rfl rfl (by rfl) (fun st T hT => ?_)
  have hfl : n0 ≤ n0 := Nat.le_refl n0
  have t0 := hT 0 _ rfl
  have t1 := hT 1 _ rfl
  dsimp only [L26]
  refine w_seq ?_; refine w_reg ?_; refine v_box st (fun b1 h2 n3 st => ?_); refine v_alloc st (fun b4 h5 n6 st => ?_); refine r_nil ?_; refine th_n ?_; refine w_seq ?_; refine w_drawV (Nat.le_trans hfl st.ext.le) (fun dw => ?_)
  have wf := Wf.start st
  refine y_pure st.d dw (fun hm vw => v_ldn (vs := [(i64 a0_0), (.slice pa0_1 (a0_1).length ca0_1), (.slice pa0_2 (a0_2).length ca0_2), (i64 a0_3)]) (vw.bx (st.at (i := 0) rfl)) rfl pr_nil) ?_; refine y_pure st.d dw (fun hm vw => v_move pr_nil) ?_; refine y_pure st.d dw (fun hm vw => v_ldn (vs := [(i64 a0_0), (.slice pa0_1 (a0_1).length ca0_1), (.slice pa0_2 (a0_2).length ca0_2), (i64 a0_3)]) (vw.bx (st.at (i := 0) rfl)) rfl pr_nil) ?_; obtain ⟨v7, e8, hF⟩ := bnd_some hF
  refine y_deep st dw wf (fun hm vw => u_callR (ct45 N e8 vw.d (FF.sub wf st vw) (Nat.max_le.2 ⟨by have := dw.le; have := st.ext.le; omega, Nat.le_refl _⟩) (RowF.mono FF.base ra0_1) (RowF.mono FF.base ra0_2)) (fun v F' h' n' ex l1 l2 l3 l4 => r_nil ⟨_, _, rfl, ex, l1, l2, l3, l4⟩)) (fun u9 F9 n9 done hn' dw9 wf9 rv9 le9 => ?_)
  have wf := wf9
  have dw := dw9
  obtain ⟨_, rfl, ⟨_, _, rfl, ⟨py10, cy10, rfl, ry10⟩, ⟨py11, cy11, rfl, ry11⟩⟩⟩ := rv9; obtain ⟨v12, e13, hF⟩ := bnd_some hF; refine y_flat st.d dw (fun hm vw => u_call (ct28 N e13 vw.d (FF.sub wf st vw) (RowF.mono FF.base ra0_1) (RowF.mono FF.base ra0_2) (RowF.mono (le9 _ rfl (con_sub rfl)) ry10) (RowF.mono (le9 _ rfl (con_sub rfl)) ry11)) (fun n' hn' => pf_nil hn')) (fun n14 hn' dw => ?_); refine y_pure st.d dw (fun hm vw => v_ldn (vs := [(i64 a0_0), (.slice pa0_1 (a0_1).length ca0_1), (.slice pa0_2 (a0_2).length ca0_2), (i64 a0_3)]) (vw.bx (st.at (i := 0) rfl)) rfl pr_nil) ?_; refine y_pure st.d dw (fun hm vw => v_move pr_nil) ?_; refine y_pure st.d dw (fun hm vw => v_ldn (vs := [(i64 a0_0), (.slice pa0_1 (a0_1).length ca0_1), (.slice pa0_2 (a0_2).length ca0_2), (i64 a0_3)]) (vw.bx (st.at (i := 0) rfl)) rfl pr_nil) ?_
  obtain ⟨v15, e16, hF⟩ := bnd_some hF
  refine y_deep st dw wf (fun hm vw => u_callR (ct45 N e16 vw.d (FF.sub wf st vw) (Nat.max_le.2 ⟨by have := dw.le; have := st.ext.le; omega, Nat.le_refl _⟩) (RowF.mono FF.base ra0_1) (RowF.mono FF.base ra0_2)) (fun v F' h' n' ex l1 l2 l3 l4 => r_nil ⟨_, _, rfl, ex, l1, l2, l3, l4⟩)) (fun u17 F17 n17 done hn' dw17 wf17 rv17 le17 => ?_)
  have le20 := fun (f : Nat → Bool) q1 q2 => PH.le.trans (le9 f q1 q2) (FF.cons wf wf17 dw17)
  have wf := wf17
  have dw := dw17
  obtain ⟨_, rfl, ⟨_, _, rfl, ⟨py18, cy18, rfl, ry18⟩, ⟨py19, cy19, rfl, ry19⟩⟩⟩ := rv17; refine y_end st.d dw rfl (fun h21 ex vs => ?_)
  obtain ⟨F22, lt22, st⟩ := St.laidF st dw wf ex vs (Lay.nil (by have := dw.le; omega)) (fun e he => by cases he)
  have lz23 := lt22 _ (le20 (fun _ => true) rfl (fun _ _ => rfl))
  have lz24 := lt22 _ (le17 (fun _ => true) rfl (fun _ _ => rfl))
  have lb22 := lt22 _ FF.base
  obtain ⟨v25, e26, hF⟩ := bnd_some hF; refine v_call st (ct28 N e26 st.d st.sub (RowF.mono lb22 ra0_1) (RowF.mono lb22 ra0_2) (RowF.mono lz24 ry18) (RowF.mono lz24 ry19)) (fun n27 st => ?_); refine v_build (cs := [(i64 v12), (i64 v25)]) rfl ?_; refine v_st (cs' := [(i64 v12), (i64 v25)]) st 1 rfl rfl rfl rfl hfl (fun h28 st => ?_); refine r_nil ?_; refine th_n ?_; refine w_ret ?_; obtain rfl := inj hF
  exact end_s st (Res.c gA (st.at (i := 1) rfl).2.2 (show takeN _ _ = some [(i64 v12), (i64 v25)] from rfl) Res.nil) rfl rfl
theorem ct73 (N : Nat) {a0_0 : Int} {a0_1 : (List (Int × Int))} {a0_2 : (List (Int × Int × Int))} {a0_3 : Int} {a0_4 : (List Int)} {a0_5 : (List Int)} {a0_6 : Int} {a1_0 : Int} {a1_1 : Int} {r : Bool} (hF : sf73 N a0_0 a0_1 a0_2 a0_3 a0_4 a0_5 a0_6 a1_0 a1_1 = some r) {fl : Nat} {h0 : Tr HBlk} {n0 : Nat} {F0 : PH} (hd : D h0 n0) (hs : F0.sub h0) {pa0_1 : Option (Nat × Nat)} {ca0_1 : Nat} {pa0_2 : Option (Nat × Nat)} {ca0_2 : Nat} {pa0_4 : Option (Nat × Nat)} {ca0_4 : Nat} {pa0_5 : Option (Nat × Nat)} {ca0_5 : Nat} (ra0_1 : RowF (rP rI rI) 2 F0 pa0_1 ca0_1 a0_1) (ra0_2 : RowF (rP rI (rP rI rI)) 3 F0 pa0_2 ca0_2 a0_2) (ra0_4 : RowF rI 1 F0 pa0_4 ca0_4 a0_4) (ra0_5 : RowF rI 1 F0 pa0_5 ca0_5 a0_5) : C LW fl 73 [(.agg [(i64 a0_0), (.slice pa0_1 (a0_1).length ca0_1), (.slice pa0_2 (a0_2).length ca0_2), (i64 a0_3), (.slice pa0_4 (a0_4).length ca0_4), (.slice pa0_5 (a0_5).length ca0_5), (i64 a0_6)]), (.agg [(i64 a1_0), (i64 a1_1)])] ⟨h0, n0⟩ (KS (.bool r) n0 h0) := by
  unfold sf73 at hF
  refine in_cT hd hs lw73 rfl rfl (by rfl) (fun st T hT => ?_)
  have hfl : n0 ≤ n0 := Nat.le_refl n0
  have t0 := hT 0 _ rfl
  have t1 := hT 1 _ rfl
  dsimp only [L73]
  refine w_seq ?_; refine w_reg ?_; refine v_box st (fun b1 h2 n3 st => ?_); refine v_box st (fun b4 h5 n6 st => ?_); refine v_move ?_; refine r_nil ?_; refine th_n ?_; refine w_seq ?_; refine w_reg ?_; refine v_fa ?_; refine v_ldn (vs := [(i64 a0_0), (.slice pa0_1 (a0_1).length ca0_1), (.slice pa0_2 (a0_2).length ca0_2), (i64 a0_3), (.slice pa0_4 (a0_4).length ca0_4), (.slice pa0_5 (a0_5).length ca0_5)]) (st.at (i := 0) rfl).2.2 rfl ?_; refine v_ldn (vs := [(i64 a1_0), (i64 a1_1)]) (st.at (i := 1) rfl).2.2 rfl ?_; obtain ⟨v7, e8, hF⟩ := bnd_some hF; refine v_call st (ct59 N e8 st.d st.sub ra0_1 ra0_2 ra0_4 ra0_5) (fun n9 st => ?_); refine v_alloc st (fun b10 h11 n12 st => ?_); refine v_st (cs' := [(i64 v7.1), (i64 v7.2)]) st 2 rfl rfl rfl rfl hfl (fun h13 st => ?_)
  refine r_nil ?_; refine th_n ?_; refine w_seq ?_; refine w_drawV (Nat.le_trans hfl st.ext.le) (fun dw => ?_); refine y_pure st.d dw (fun hm vw => v_fa pr_nil) ?_; refine y_pure st.d dw (fun hm vw => v_ld1 (vw.bx (st.at (i := 2) rfl)) rfl pr_nil) ?_; obtain ⟨q14, hF⟩ := ck_some hF; refine y_pure st.d dw (fun hm vw => v_neg q14 pr_nil) ?_; refine y_pure st.d dw (fun hm vw => v_fa pr_nil) ?_; refine y_pure st.d dw (fun hm vw => v_ld1 (vw.bx (st.at (i := 2) rfl)) rfl pr_nil) ?_; refine y_lay st.d dw (fun hm vw => u_bs (cs := [(i64 v7.2)]) rfl pr_nil) (fun done dw => ?_); obtain ⟨v15, e16, hF⟩ := bnd_some hF; refine y_flat st.d dw (fun hm vw => u_call (ct96 N e16 vw.d (all_sub _) (RowF.blk (F := F0) (vw.vis _ (List.mem_cons_self ..) rfl _ _ (if_pos rfl)) (show LR rI 1 F0 [v7.2] [(i64 v7.2)] from (LR.one (rfl))) (vw.sub st))) (fun n' hn' => pf_nil hn')) (fun n17 hn' dw => ?_)
  refine y_pure st.d dw (fun hm vw => v_fa pr_nil) ?_; refine y_pure st.d dw (fun hm vw => v_ld1 (vw.bx (st.at (i := 0) rfl)) rfl pr_nil) ?_; refine y_end st.d dw rfl (fun h18 ex vs => ?_)
  have st := St.laid st ex (Lay.cons (b := n12) (cs := [(i64 v7.2)]) (by have := dw.le; omega) (vs _ (List.mem_cons_self ..) _ _ (if_pos rfl)) (Lay.nil (by have := dw.le; omega)))
  refine v_leq ?_; refine v_move ?_; refine r_nil ?_; refine th_n ?_; refine w_ret ?_; obtain rfl := inj hF
  exact end_s st (Res.t gA Res.nil) rfl rfl
end Go.Hx.V

/- Functions of the program come to that. -/
namespace Go.Hx.V
open Go.Hx
set_option linter.unusedVariables false
set_option maxRecDepth 20000
set_option maxHeartbeats 4000000
attribute [local irreducible] W R C thenH inBlockH Tr.get Tr.set lo
theorem ct77 (N : Nat) {a0_0 : Int} {a0_1 : (List (Int × Int))} {a0_2 : (List (Int × Int × Int))} {a0_3 : Int} {r : Bool} (hF : sf77 N a0_0 a0_1 a0_2 a0_3 = some r) {fl : Nat} {h0 : Tr HBlk} {n0 : Nat} {F0 : PH} (hd : D h0 n0) (hs : F0.sub h0) {pa0_1 : Option (Nat × Nat)} {ca0_1 : Nat} {pa0_2 : Option (Nat × Nat)} {ca0_2 : Nat} (ra0_1 : RowF (rP rI rI) 2 F0 pa0_1 ca0_1 a0_1) (ra0_2 : RowF (rP rI (rP rI rI)) 3 F0 pa0_2 ca0_2 a0_2) : C LW fl 77 [(.agg [(i64 a0_0), (.slice pa0_1 (a0_1).length ca0_1), (.slice pa0_2 (a0_2).length ca0_2), (i64 a0_3)])] ⟨h0, n0⟩ (KS (.bool r) n0 h0) := by
  unfold sf77 at hF
  refine in_cT hd hs lw77 rfl rfl (by rfl) (fun st T hT => ?_)
  have hfl : n0 ≤ n0 := Nat.le_refl n0
  have t0 := hT 0 _ rfl
  dsimp only [L77]
  refine w_seq ?_; refine w_reg ?_; refine v_box st (fun b1 h2 n3 st => ?_); refine v_move ?_; refine r_nil ?_; refine th_n ?_; refine w_seq ?_; refine w_reg ?_; refine v_fa ?_; refine v_ld1 (st.at (i := 0) rfl).2.2 rfl ?_; refine v_len ?_; refine v_gtr ?_; refine v_move ?_
  rcases Bool.eq_false_or_eq_true (decide ((0 : Int) < ((a0_2).length : Int))) with hb4 | hb4
  · have hF := bif_t hb4 hF; refine g_take hb4 (v_fa ?_); refine g_take hb4 (v_ld1 (st.at (i := 0) rfl).2.2 rfl ?_); obtain ⟨n5, x5, z5, l5, g5, hF⟩ := ix_some hF; obtain ⟨b5, o5, s5, j5, r5, e5, f5, k5, ⟨_, _, rfl, rfl, ⟨_, _, rfl, rfl, rfl⟩⟩⟩ := RowF.get ra0_2 g5; refine g_take hb4 (v_ixp e5 z5 l5 ?_); refine g_take hb4 (v_fa ?_); refine g_take hb4 (v_ld1 (st.sub _ _ f5) (take_at (j := 0) k5 rfl) ?_); refine g_take hb4 (v_eqi ?_); refine v_pick hb4 ?_; refine v_move ?_
    rcases Bool.eq_false_or_eq_true (decide (x5.1 = (0 : Int))) with hb6 | hb6
    · have hF := bif_t hb6 hF; refine g_take hb6 (v_fa ?_); refine g_take hb6 (v_ld1 (st.at (i := 0) rfl).2.2 rfl ?_); obtain ⟨v7, e8, hF⟩ := bnd_some hF; refine g_take hb6 (v_call st (ct99 N e8 st.d st.sub ra0_2) (fun n9 st => ?_)); refine v_pick hb6 ?_; refine v_move ?_
      rcases Bool.eq_false_or_eq_true v7 with hb10 | hb10
      · have hF := bif_t hb10 hF; refine g_take hb10 (v_fa ?_); refine g_take hb10 (v_ld1 (st.at (i := 0) rfl).2.2 rfl ?_); obtain ⟨v11, e12, hF⟩ := bnd_some hF; refine g_take hb10 (v_call st (ct101 N e12 st.d st.sub ra0_2) (fun n13 st => ?_)); refine v_pick hb10 ?_; refine v_move ?_; refine r_nil ?_; refine th_n ?_; refine w_ret ?_; obtain rfl := inj hF
        exact end_s st (Res.t gA Res.nil) rfl rfl
      · have hF := bif_f hb10 hF; refine g_skip hb10 ?_; refine g_skip hb10 ?_; refine g_skip hb10 ?_; refine v_pick' hb10 ?_; refine v_move ?_; refine r_nil ?_; refine th_n ?_; refine w_ret ?_; obtain rfl := inj hF
        exact end_s st (Res.t gA Res.nil) rfl rfl
    · have hF := bif_f hb6 hF; refine g_skip hb6 ?_; refine g_skip hb6 ?_; refine g_skip hb6 ?_; refine v_pick' hb6 ?_; refine v_move ?_; refine g_skip rfl ?_; refine g_skip rfl ?_; refine g_skip rfl ?_; refine v_pick' rfl ?_; refine v_move ?_; refine r_nil ?_; refine th_n ?_; refine w_ret ?_; obtain rfl := inj hF
      exact end_s st (Res.t gA Res.nil) rfl rfl
  · have hF := bif_f hb4 hF; refine g_skip hb4 ?_; refine g_skip hb4 ?_; refine g_skip hb4 ?_; refine g_skip hb4 ?_; refine g_skip hb4 ?_; refine g_skip hb4 ?_; refine v_pick' hb4 ?_; refine v_move ?_; refine g_skip rfl ?_; refine g_skip rfl ?_; refine g_skip rfl ?_; refine v_pick' rfl ?_; refine v_move ?_; refine g_skip rfl ?_; refine g_skip rfl ?_; refine g_skip rfl ?_; refine v_pick' rfl ?_; refine v_move ?_; refine r_nil ?_; refine th_n ?_; refine w_ret ?_; obtain rfl := inj hF
    exact end_s st (Res.t gA Res.nil) rfl rfl
theorem ct23 (N : Nat) {a0_0 : Int} {a0_1 : (List (Int × Int))} {a0_2 : (List (Int × Int × Int))} {a0_3 : Int} {r : Int} (hF : sf23 N a0_0 a0_1 a0_2 a0_3 = some r) {fl : Nat} {h0 : Tr HBlk} {n0 : Nat} {F0 : PH} (hd : D h0 n0) (hs : F0.sub h0) {pa0_1 : Option (Nat × Nat)} {ca0_1 : Nat} {pa0_2 : Option (Nat × Nat)} {ca0_2 : Nat} (ra0_1 : RowF (rP rI rI) 2 F0 pa0_1 ca0_1 a0_1) (ra0_2 : RowF (rP rI (rP rI rI)) 3 F0 pa0_2 ca0_2 a0_2) : C LW fl 23 [(.agg [(i64 a0_0), (.slice pa0_1 (a0_1).length ca0_1), (.slice pa0_2 (a0_2).length ca0_2), (i64 a0_3)])] ⟨h0, n0⟩ (KS (i64 r) n0 h0) := by
  unfold sf23 at hF
  refine in_cT hd hs lw23 rfl rfl (by rfl) (fun st T hT => ?_)
  have hfl : n0 ≤ n0 := Nat.le_refl n0
  have t0 := hT 0 _ rfl
  dsimp only [L23]
  refine w_seq ?_; refine w_reg ?_; refine v_box st (fun b1 h2 n3 st => ?_); refine v_move ?_; refine r_nil ?_; refine th_n ?_; refine w_seq ?_; refine w_reg ?_; refine v_ldn (vs := [(i64 a0_0), (.slice pa0_1 (a0_1).length ca0_1), (.slice pa0_2 (a0_2).length ca0_2), (i64 a0_3)]) (st.at (i := 0) rfl).2.2 rfl ?_; obtain ⟨v4, e5, hF⟩ := bnd_some hF; refine v_call st (ct56 N e5 st.d st.sub ra0_1 ra0_2) (fun n6 st => ?_); refine v_move ?_; refine r_nil ?_; refine th_n ?_; refine w_ret ?_; obtain rfl := inj hF
  exact end_s st (Res.t gA Res.nil) rfl rfl
theorem ct62 (N : Nat) {a0_0 : Int} {a0_1 : (List (Int × Int))} {a0_2 : (List (Int × Int × Int))} {a0_3 : Int} {a1 : Int} {r : (Int × (List (Int × Int)) × (List (Int × Int × Int)) × Int × (List Int) × (List Int) × Int)} (hF : sf62 N a0_0 a0_1 a0_2 a0_3 a1 = some r) {fl : Nat} {h0 : Tr HBlk} {n0 : Nat} {F0 : PH} (hd : D h0 n0) (hs : F0.sub h0) (hfl : fl ≤ n0) {pa0_1 : Option (Nat × Nat)} {ca0_1 : Nat} {pa0_2 : Option (Nat × Nat)} {ca0_2 : Nat} (ra0_1 : RowF (rP rI rI) 2 F0 pa0_1 ca0_1 a0_1) (ra0_2 : RowF (rP rI (rP rI rI)) 3 F0 pa0_2 ca0_2 a0_2) : C LW fl 62 [(.agg [(i64 a0_0), (.slice pa0_1 (a0_1).length ca0_1), (.slice pa0_2 (a0_2).length ca0_2), (i64 a0_3)]), (i64 a1)] ⟨h0, n0⟩ (KR (rvA (rP rI (rP (rL (rP rI rI) 2) (rP (rL (rP rI (rP rI rI)) 3) (rP rI (rP (rL rI 1) (rP (rL rI 1) rI))))))) F0 h0 n0 r) := by
  unfold sf62 at hF
  refine in_mT hd hs hfl lw62 rfl rfl (by rfl) (fun st T hT => ?_)
  have t0 := hT 0 _ rfl
  have t1 := hT 1 _ rfl
  dsimp only [L62]
  refine w_seq ?_; refine w_reg ?_; refine v_box st (fun b1 h2 n3 st => ?_); refine v_alloc st (fun b4 h5 n6 st => ?_); refine r_nil ?_; refine th_n ?_; refine w_seq ?_; refine w_reg ?_; refine v_ldn (vs := [(i64 a0_0), (.slice pa0_1 (a0_1).length ca0_1), (.slice pa0_2 (a0_2).length ca0_2), (i64 a0_3)]) (st.at (i := 0) rfl).2.2 rfl ?_; obtain ⟨v7, e8, hF⟩ := bnd_some hF; refine v_callR st (ct54 N e8 st.d st.sub (Nat.le_trans hfl st.ext.le) ra0_1 ra0_2) (fun u9 F9 h9 n9 le9 rv9 st => ?_); obtain ⟨_, rfl, ⟨_, _, rfl, rfl, ⟨_, _, rfl, ⟨py10, cy10, rfl, ry10⟩, ⟨_, _, rfl, ⟨py11, cy11, rfl, ry11⟩, ⟨_, _, rfl, rfl, ⟨_, _, rfl, ⟨py12, cy12, rfl, ry12⟩, ⟨py13, cy13, rfl, ry13⟩⟩⟩⟩⟩⟩⟩ := rv9; refine v_move ?_
  refine v_build (cs := [(i64 v7.1), (.slice py10 (v7.2.1).length cy10), (.slice py11 (v7.2.2.1).length cy11), (i64 v7.2.2.2.1), (.slice py12 (v7.2.2.2.2.1).length cy12), (.slice py13 (v7.2.2.2.2.2).length cy13), (i64 a1)]) rfl ?_; refine v_st (cs' := [(i64 v7.1), (.slice py10 (v7.2.1).length cy10), (.slice py11 (v7.2.2.1).length cy11), (i64 v7.2.2.2.1), (.slice py12 (v7.2.2.2.2.1).length cy12), (.slice py13 (v7.2.2.2.2.2).length cy13), (i64 a1)]) st 1 rfl rfl rfl rfl hfl (fun h14 st => ?_); refine r_nil ?_; refine th_n ?_; refine w_ret ?_; obtain rfl := inj hF
  exact end_r st (Res.c gA (st.at (i := 1) rfl).2.2 (show takeN _ _ = some [(i64 v7.1), (.slice py10 (v7.2.1).length cy10), (.slice py11 (v7.2.2.1).length cy11), (i64 v7.2.2.2.1), (.slice py12 (v7.2.2.2.2.1).length cy12), (.slice py13 (v7.2.2.2.2.2).length cy13), (i64 a1)] from rfl) Res.nil) ⟨_, rfl, ⟨[(i64 v7.1)], [(.slice py10 (v7.2.1).length cy10), (.slice py11 (v7.2.2.1).length cy11), (i64 v7.2.2.2.1), (.slice py12 (v7.2.2.2.2.1).length cy12), (.slice py13 (v7.2.2.2.2.2).length cy13), (i64 a1)], rfl, rfl, ⟨[(.slice py10 (v7.2.1).length cy10)], [(.slice py11 (v7.2.2.1).length cy11), (i64 v7.2.2.2.1), (.slice py12 (v7.2.2.2.2.1).length cy12), (.slice py13 (v7.2.2.2.2.2).length cy13), (i64 a1)], rfl, ⟨_, _, rfl, ry10⟩, ⟨[(.slice py11 (v7.2.2.1).length cy11)], [(i64 v7.2.2.2.1), (.slice py12 (v7.2.2.2.2.1).length cy12), (.slice py13 (v7.2.2.2.2.2).length cy13), (i64 a1)], rfl, ⟨_, _, rfl, ry11⟩, ⟨[(i64 v7.2.2.2.1)], [(.slice py12 (v7.2.2.2.2.1).length cy12), (.slice py13 (v7.2.2.2.2.2).length cy13), (i64 a1)], rfl, rfl, ⟨[(.slice py12 (v7.2.2.2.2.1).length cy12)], [(.slice py13 (v7.2.2.2.2.2).length cy13), (i64 a1)], rfl, ⟨_, _, rfl, ry12⟩, ⟨[(.slice py13 (v7.2.2.2.2.2).length cy13)], [(i64 a1)], rfl, ⟨_, _, rfl, ry13⟩, rfl⟩⟩⟩⟩⟩⟩⟩
theorem ct34 (N : Nat) {a0_0 : Int} {a0_1 : (List (Int × Int))} {a0_2 : (List (Int × Int × Int))} {a0_3 : Int} {a1 : Int} {a2 : Int} {r : Int} (hF : sf34 N a0_0 a0_1 a0_2 a0_3 a1 a2 = some r) {fl : Nat} {h0 : Tr HBlk} {n0 : Nat} {F0 : PH} (hd : D h0 n0) (hs : F0.sub h0) {pa0_1 : Option (Nat × Nat)} {ca0_1 : Nat} {pa0_2 : Option (Nat × Nat)} {ca0_2 : Nat} (ra0_1 : RowF (rP rI rI) 2 F0 pa0_1 ca0_1 a0_1) (ra0_2 : RowF (rP rI (rP rI rI)) 3 F0 pa0_2 ca0_2 a0_2) : C LW fl 34 [(.agg [(i64 a0_0), (.slice pa0_1 (a0_1).length ca0_1), (.slice pa0_2 (a0_2).length ca0_2), (i64 a0_3)]), (i64 a1), (i64 a2)] ⟨h0, n0⟩ (KS (i64 r) n0 h0) := by
  unfold sf34 at hF
  refine in_cT hd hs lw34 rfl rfl (by rfl) (fun st T hT => ?_)
  have hfl : n0 ≤ n0 := Nat.le_refl n0
  have t0 := hT 0 _ rfl
  have t1 := hT 1 _ rfl
  have t2 := hT 2 _ rfl
  dsimp only [L34]
  refine w_seq ?_; refine w_reg ?_; refine v_box st (fun b1 h2 n3 st => ?_); refine v_move ?_; refine r_nil ?_; refine th_n ?_; refine w_seq ?_; refine w_reg ?_; refine v_ldn (vs := [(i64 a0_0), (.slice pa0_1 (a0_1).length ca0_1), (.slice pa0_2 (a0_2).length ca0_2), (i64 a0_3)]) (st.at (i := 0) rfl).2.2 rfl ?_; refine v_move ?_; obtain ⟨v4, e5, hF⟩ := bnd_some hF; refine v_call st (ct26 N e5 st.d st.sub ra0_1 ra0_2) (fun n6 st => ?_); refine v_alloc st (fun b7 h8 n9 st => ?_); refine v_st (cs' := [(i64 v4.1), (i64 v4.2)]) st 1 rfl rfl rfl rfl hfl (fun h10 st => ?_); refine r_nil ?_; refine th_n ?_; refine w_seq ?_; refine w_reg ?_; refine v_move ?_; refine v_fa ?_; refine v_ld1 (st.at (i := 1) rfl).2.2 rfl ?_
  obtain ⟨q11, hF⟩ := ck_some hF; refine v_sub q11 ?_; refine v_fa ?_; refine v_ld1 (st.at (i := 1) rfl).2.2 rfl ?_; refine v_move ?_; obtain ⟨q12, hF⟩ := ck_some hF; refine v_sub q12 ?_; refine v_max3 ?_; refine v_move ?_; refine r_nil ?_; refine th_n ?_; refine w_ret ?_; obtain rfl := inj hF
  exact end_s st (Res.t gA Res.nil) rfl rfl
theorem ct65 (N : Nat) {a0_0 : Int} {a0_1 : (List (Int × Int))} {a0_2 : (List (Int × Int × Int))} {a0_3 : Int} {a0_4 : (List Int)} {a0_5 : (List Int)} {a0_6 : Int} {a1 : Int} {r : (List Int)} (hF : sf65 N a0_0 a0_1 a0_2 a0_3 a0_4 a0_5 a0_6 a1 = some r) {fl : Nat} {h0 : Tr HBlk} {n0 : Nat} {F0 : PH} (hd : D h0 n0) (hs : F0.sub h0) (hfl : fl ≤ n0) {pa0_1 : Option (Nat × Nat)} {ca0_1 : Nat} {pa0_2 : Option (Nat × Nat)} {ca0_2 : Nat} {pa0_4 : Option (Nat × Nat)} {ca0_4 : Nat} {pa0_5 : Option (Nat × Nat)} {ca0_5 : Nat} (ra0_1 : RowF (rP rI rI) 2 F0 pa0_1 ca0_1 a0_1) (ra0_2 : RowF (rP rI (rP rI rI)) 3 F0 pa0_2 ca0_2 a0_2) (ra0_4 : RowF rI 1 F0 pa0_4 ca0_4 a0_4) (ra0_5 : RowF rI 1 F0 pa0_5 ca0_5 a0_5) : C LW fl 65 [(.agg [(i64 a0_0), (.slice pa0_1 (a0_1).length ca0_1), (.slice pa0_2 (a0_2).length ca0_2), (i64 a0_3), (.slice pa0_4 (a0_4).length ca0_4), (.slice pa0_5 (a0_5).length ca0_5), (i64 a0_6)]), (i64 a1)] ⟨h0, n0⟩ (KR (lvL rI 1) F0 h0 n0 r) := by
  unfold sf65 at hF
  refine in_mT hd hs hfl lw65 rfl rfl (by rfl) (fun st T hT => ?_)
  have t0 := hT 0 _ rfl
  have t1 := hT 1 _ rfl
  dsimp only [L65]
  refine w_seq ?_; refine w_reg ?_; refine v_box st (fun b1 h2 n3 st => ?_); refine v_move ?_; refine r_nil ?_; refine th_n ?_; refine w_seq ?_; refine w_reg ?_; refine v_move ?_; refine r_nil ?_; refine th_n ?_; refine w_seq ?_; refine w_seq ?_; refine w_reg ?_; refine v_fa ?_; refine v_fa ?_; refine v_fa ?_; refine v_ld1 (st.at (i := 0) rfl).2.2 rfl ?_; obtain ⟨q4, hF⟩ := ck_some hF; refine v_add q4 ?_; refine v_move ?_; refine r_nil ?_; refine th_n ?_; refine w_block ?_
  have st := st.nilL 1
  have w5 : LR rI 1 F0 ([] : List Int) [] := LR.nil
  obtain ⟨y21, hy, hF⟩ := bnd_some hF; refine v_loopD (sf65_L1 N a0_0 a0_1 a0_2 a0_3 a0_4 a0_5 a0_6 a1) (fun x7 T ds8 h nx => ∃ (F8 : PH) (o9 : Option Nat) (c9 : Nat) (cs9 : List HV), ds8 = [] ∧ PH.le F0 F8 ∧ St n0 h0 F0 F8 h nx [.bx b1 [(i64 a0_0), (.slice pa0_1 (a0_1).length ca0_1), (.slice pa0_2 (a0_2).length ca0_2), (i64 a0_3), (.slice pa0_4 (a0_4).length ca0_4), (.slice pa0_5 (a0_5).length ca0_5), (i64 a0_6)], .ls o9 c9 cs9 1] ∧ LR rI 1 F8 x7.1 cs9 ∧ T.get 1 = some (i64 a1) ∧ T.get 2 = some (.ptr (some (b1, 0))) ∧ T.get 5 = some (slv o9 (x7.1).length c9) ∧ T.get 11 = some (i64 (a0_3 + (1 : Int))) ∧ T.get 12 = some (i64 x7.2)) (fun y e a σ => e = .exit 0 ∧ a.nt = 26 ∧ ∃ (F22 : PH) (o23 : Option Nat) (c23 : Nat) (cs23 : List HV), a.defers = [] ∧ PH.le F0 F22 ∧ St n0 h0 F0 F22 σ.h σ.nx [.bx b1 [(i64 a0_0), (.slice pa0_1 (a0_1).length ca0_1), (.slice pa0_2 (a0_2).length ca0_2), (i64 a0_3), (.slice pa0_4 (a0_4).length ca0_4), (.slice pa0_5 (a0_5).length ca0_5), (i64 a0_6)], .ls o23 c23 cs23 1] ∧ LR rI 1 F22 y cs23 ∧ a.tmps.get 5 = some (slv o23 (y).length c23)) (fun x7 T ds8 h nx s hp hF => ?_) N _ y21 _ _ _ _ hy ⟨F0, none, 0, [], rfl, (PH.le.refl _), st, w5, gA, gA, gA, gA, gA⟩ (fun e a σ hne hq => ?_)
  · obtain ⟨F8, o9, c9, cs9, rfl, le8, st, w9, t1, t2, t5, t11, t12⟩ := hp; unfold sf65_L1 at hF; unfold L65w0; refine w_seq ?_; refine w_reg ?_; refine v_lss ?_; refine r_nil ?_; refine th_n ?_; refine w_seq ?_; refine v_cond (fun hb24 => ?_) (fun hb24 => ?_)
    · have hF := bif_t hb24 hF; refine w_skip ?_; refine th_n ?_; refine w_seq ?_; refine w_block ?_; refine w_seq ?_; refine w_reg ?_; refine v_move ?_; refine v_move ?_; refine r_nil ?_; refine th_n ?_; refine w_seq ?_; refine w_reg ?_; refine v_ldn (vs := [(i64 a0_0), (.slice pa0_1 (a0_1).length ca0_1), (.slice pa0_2 (a0_2).length ca0_2), (i64 a0_3), (.slice pa0_4 (a0_4).length ca0_4), (.slice pa0_5 (a0_5).length ca0_5), (i64 a0_6)]) (st.at (i := 0) rfl).2.2 rfl ?_; refine v_move ?_; refine v_move ?_; refine v_build (cs := [(i64 a1), (i64 x7.2)]) rfl ?_; obtain ⟨v25, e26, hF⟩ := bnd_some hF; refine v_call st (ct73 N e26 st.d st.sub (RowF.mono le8 ra0_1) (RowF.mono le8 ra0_2) (RowF.mono le8 ra0_4) (RowF.mono le8 ra0_5)) (fun n27 st => ?_)
      refine r_nil ?_; refine th_n ?_; refine v_cond (fun hb28 => ?_) (fun hb28 => ?_)
      · have hF := bif_t hb28 hF; refine w_reg ?_; refine v_move ?_; refine v_move ?_; refine v_bs (cs := [(i64 x7.2)]) st rfl (fun b29 h30 n31 st => ?_); obtain ⟨q32, hF⟩ := ck_some hF
        have w32 : LR rI 1 F8 (x7.1 ++ [x7.2]) (cs9 ++ [(i64 x7.2)]) := LR.app w9 (LR.one (rfl))
        refine v_aps (n := 1) (ox := 0) (m := (x7.1 ++ [x7.2]).length) (row := [(i64 x7.2)]) st 1 rfl w9.1 (st.at (i := 2) rfl).2.2 rfl rfl q32 hfl (by decide) (by decide) (by simp) (fun o32 c32 h32 n32 st => ?_)
        refine v_move ?_; refine r_nil ?_; refine ib_n ?_; refine th_n ?_; refine w_reg ?_; obtain ⟨q33, hF⟩ := ck_some hF; refine v_add q33 ?_; refine v_move ?_; refine r_nil ?_; refine thn ⟨_, (inj hF).symm, rfl, ?_⟩; dsimp only
        exact ⟨F8, o32, c32, (cs9 ++ [(i64 x7.2)]), rfl, le8, (st.drop (by first | exact List.Sublist.refl _ | (repeat first | exact List.nil_sublist _ | refine List.Sublist.cons_cons _ ?_ | refine List.Sublist.cons _ ?_))), w32, gA, gA, gA, gA, gA⟩
      · have hF := bif_f hb28 hF; refine w_skip ?_; refine ib_n ?_; refine th_n ?_; refine w_reg ?_; obtain ⟨q34, hF⟩ := ck_some hF; refine v_add q34 ?_; refine v_move ?_; refine r_nil ?_; refine thn ⟨_, (inj hF).symm, rfl, ?_⟩; dsimp only
        exact ⟨F8, o9, c9, cs9, rfl, le8, st, w9, gA, gA, gA, gA, gA⟩
    · have hF := bif_f hb24 hF; refine w_exit ?_; refine th_e ?_; refine th_e ?_; refine ⟨_, (inj hF).symm, rfl, rfl, ?_⟩; dsimp only
      exact ⟨F8, o9, c9, cs9, rfl, le8, st, w9, gA⟩
  · obtain ⟨N9, T, ds22⟩ := a; obtain ⟨h35, n36⟩ := σ; obtain ⟨rfl, e1, F22, o23, c23, cs23, e2, le22, st, w23, t5⟩ := hq
    dsimp only at e1 e2
    subst e1
    subst e2
    dsimp only at st t5
    refine ib_e ?_; refine th_n ?_; refine w_seq ?_; refine w_reg ?_; refine v_move ?_; refine v_move ?_; refine r_nil ?_; refine th_n ?_; refine w_ret ?_; obtain rfl := inj hF
    obtain ⟨F37, le37, st, rf37⟩ := St.freeze st 1 rfl w23 (by decide)
    have le38 := PH.le.trans le22 le37
    exact end_r st (Res.t gA Res.nil) ⟨_, _, rfl, rf37⟩
end Go.Hx.V

