/- Functions of the program come to that. -/
import Derived.Test.YtnjnlogdgoobfaaH05
import Derived.Test.YtnjnlogdgoobfaaH03
set_option linter.all false
/- Functions of the program come to that. -/
namespace Go.Hx.V
open Go.Hx
set_option linter.unusedVariables false
set_option maxRecDepth 20000
set_option maxHeartbeats 4000000
attribute [local irreducible] W R C thenH inBlockH
theorem ct76 (N : Nat) {a0_0 : Int} {a0_1 : (List (Int × Int))} {a0_2 : (List (Int × Int × Int))} {a0_3 : Int} {r : Bool} (hF : sf76 N a0_0 a0_1 a0_2 a0_3 = some r) {fl : Nat} {h0 : Tr HBlk} {n0 : Nat} {F0 : PH} (hd : D h0 n0) (hs : F0.sub h0) {pa0_1 : Option (Nat × Nat)} {ca0_1 : Nat} {pa0_2 : Option (Nat × Nat)} {ca0_2 : Nat} (ra0_1 : RowF (rP rI rI) 2 F0 pa0_1 ca0_1 a0_1) (ra0_2 : RowF (rP rI (rP rI rI)) 3 F0 pa0_2 ca0_2 a0_2) : C LW fl 76 [(.agg [(i64 a0_0), (.slice pa0_1 (a0_1).length ca0_1), (.slice pa0_2 (a0_2).length ca0_2), (i64 a0_3)])] ⟨h0, n0⟩ (KS (.bool r) n0 h0) := by
  unfold sf76 at hF
  refine in_cT hd hs lw76 rfl rfl (by rfl) (fun st T hT => ?_)
  have hfl : n0 ≤ n0 := Nat.le_refl n0
  have t0 := hT 0 _ rfl
  dsimp only [L76]
  refine w_seq ?_
  refine w_reg ?_
  refine v_box st (fun b1 h2 n3 st => ?_)
  refine v_move ?_
  refine r_nil ?_
  refine th_n ?_
  refine w_seq ?_
  refine w_reg ?_
  refine v_fa ?_
  refine v_ld1 (st.at (i := 0) rfl).2.2 rfl ?_
  refine v_len ?_
  refine v_gtr ?_
  refine v_move ?_
  rcases Bool.eq_false_or_eq_true (decide ((0 : Int) < ((a0_1).length : Int))) with hb4 | hb4
  · have hF := bif_t hb4 hF
    refine g_take hb4 (v_fa ?_)
    refine g_take hb4 (v_ld1 (st.at (i := 0) rfl).2.2 rfl ?_)
    obtain ⟨v5, e6, hF⟩ := bnd_some hF
    refine g_take hb4 (v_call st (ct97 N e6 st.d st.sub ra0_1) (fun n7 st => ?_))
    refine v_pick hb4 ?_
    refine v_move ?_
    refine r_nil ?_
    refine th_n ?_
    refine w_ret ?_
    obtain rfl := inj hF
    exact end_s st (Res.t (by repeat first | exact ge_h | refine ge_m rfl ?_ | assumption) Res.nil) rfl rfl
  · have hF := bif_f hb4 hF
    refine g_skip hb4 ?_
    refine g_skip hb4 ?_
    refine g_skip hb4 ?_
    refine v_pick' hb4 ?_
    refine v_move ?_
    refine r_nil ?_
    refine th_n ?_
    refine w_ret ?_
    obtain rfl := inj hF
    exact end_s st (Res.t (by repeat first | exact ge_h | refine ge_m rfl ?_ | assumption) Res.nil) rfl rfl
theorem ct99 (N : Nat) {a0 : (List (Int × Int × Int))} {r : Bool} (hF : sf99 N a0 = some r) {fl : Nat} {h0 : Tr HBlk} {n0 : Nat} {F0 : PH} (hd : D h0 n0) (hs : F0.sub h0) {pa0 : Option (Nat × Nat)} {ca0 : Nat} (ra0 : RowF (rP rI (rP rI rI)) 3 F0 pa0 ca0 a0) : C LW fl 99 [(.slice pa0 (a0).length ca0), (.func 100 [] [])] ⟨h0, n0⟩ (KS (.bool r) n0 h0) := by
  unfold sf99 at hF
  refine in_cT hd hs lw99 rfl rfl (by rfl) (fun st T hT => ?_)
  have hfl : n0 ≤ n0 := Nat.le_refl n0
  have t0 := hT 0 _ rfl
  have t1 := hT 1 _ rfl
  dsimp only [L99]
  refine w_seq ?_
  refine w_reg ?_
  refine v_move ?_
  refine r_nil ?_
  refine th_n ?_
  refine w_seq ?_
  refine w_seq ?_
  refine w_reg ?_
  refine v_move ?_
  refine v_len ?_
  refine v_move ?_
  refine r_nil ?_
  refine th_n ?_
  refine w_block ?_
  obtain ⟨y14, hy, hF⟩ := bnd_some hF
  refine v_loopD (sf99_L1 N a0) (fun x1 T ds2 h nx => ∃ (F2 : PH), ds2 = [] ∧ PH.le F0 F2 ∧ St n0 h0 F0 F2 h nx [] ∧ T.get 1 = some (.func 100 [] []) ∧ T.get 7 = some (.slice pa0 (a0).length ca0) ∧ T.get 8 = some (i64 ((a0).length : Int)) ∧ T.get 9 = some (i64 x1)) (fun y e a σ => (∃ u, y = (.inl u) ∧ e = .ret ∧ a.nt = 18 ∧ ∃ (F16 : PH), a.defers = [] ∧ PH.le F0 F16 ∧ St n0 h0 F0 F16 σ.h σ.nx [] ∧ a.tmps.get 4 = some (.bool false)) ∨ (∃ u, y = (.inr u) ∧ e = .exit 0 ∧ a.nt = 18 ∧ ∃ (F18 : PH), a.defers = [] ∧ PH.le F0 F18 ∧ St n0 h0 F0 F18 σ.h σ.nx [])) (fun x1 T ds2 h nx s hp hF => ?_) N _ y14 _ _ _ _ hy ⟨F0, rfl, (PH.le.refl _), st, (by repeat first | exact ge_h | refine ge_m rfl ?_ | assumption), (by repeat first | exact ge_h | refine ge_m rfl ?_ | assumption), (by repeat first | exact ge_h | refine ge_m rfl ?_ | assumption), (by repeat first | exact ge_h | refine ge_m rfl ?_ | assumption)⟩ (fun e a σ hne hq => ?_)
  · obtain ⟨F2, rfl, le2, st, t1, t7, t8, t9⟩ := hp
    unfold sf99_L1 at hF
    unfold L99w0
    refine w_seq ?_
    refine w_reg ?_
    refine v_lss ?_
    refine r_nil ?_
    refine th_n ?_
    refine w_seq ?_
    refine v_cond (fun hb19 => ?_) (fun hb19 => ?_)
    · have hF := bif_t hb19 hF
      refine w_skip ?_
      refine th_n ?_
      refine w_seq ?_
      refine w_block ?_
      refine w_seq ?_
      refine w_reg ?_
      obtain ⟨n20, x20, z20, l20, g20, hF⟩ := ix_some hF
      obtain ⟨b20, o20, s20, j20, r20, e20, f20, k20, ⟨_, _, rfl, rfl, ⟨_, _, rfl, rfl, rfl⟩⟩⟩ := RowF.get ra0 g20
      refine v_ixp e20 z20 l20 ?_
      refine v_ldn (st.sub _ _ (le2 _ _ f20)) k20 ?_
      refine v_alloc st (fun b21 h22 n23 st => ?_)
      refine v_st (cs' := [(i64 x20.1), (i64 x20.2.1), (i64 x20.2.2)]) st 0 rfl rfl rfl rfl hfl (fun h24 st => ?_)
      refine r_nil ?_
      refine th_n ?_
      refine w_seq ?_
      refine w_reg ?_
      refine v_move ?_
      refine v_ldn (vs := [(i64 x20.1), (i64 x20.2.1), (i64 x20.2.2)]) (st.at (i := 0) rfl).2.2 rfl ?_
      obtain ⟨v25, e26, hF⟩ := bnd_some hF
      refine v_call st (ct100 N e26 st.d st.sub ) (fun n27 st => ?_)
      refine v_not ?_
      refine r_nil ?_
      refine th_n ?_
      refine v_cond (fun hb28 => ?_) (fun hb28 => ?_)
      · have hF := bif_t hb28 hF
        refine w_seq ?_
        refine w_reg ?_
        refine v_move ?_
        refine r_nil ?_
        refine th_n ?_
        refine w_ret ?_
        refine ib_r ?_
        refine th_r ?_
        refine th_r ?_
        refine ⟨_, (inj hF).symm, .inl ⟨_, rfl, rfl, rfl, ?_⟩⟩
        dsimp only
        exact ⟨F2, rfl, le2, (st.drop (by first | exact List.Sublist.refl _ | (repeat first | exact List.nil_sublist _ | refine List.Sublist.cons_cons _ ?_ | refine List.Sublist.cons _ ?_))), (by repeat first | exact ge_h | refine ge_m rfl ?_ | assumption)⟩
      · have hF := bif_f hb28 hF
        refine w_skip ?_
        refine ib_n ?_
        refine th_n ?_
        refine w_reg ?_
        obtain ⟨q29, hF⟩ := ck_some hF
        refine v_add q29 ?_
        refine v_move ?_
        refine r_nil ?_
        refine thn ⟨_, (inj hF).symm, rfl, ?_⟩
        dsimp only
        exact ⟨F2, rfl, le2, (st.drop (by first | exact List.Sublist.refl _ | (repeat first | exact List.nil_sublist _ | refine List.Sublist.cons_cons _ ?_ | refine List.Sublist.cons _ ?_))), (by repeat first | exact ge_h | refine ge_m rfl ?_ | assumption), (by repeat first | exact ge_h | refine ge_m rfl ?_ | assumption), (by repeat first | exact ge_h | refine ge_m rfl ?_ | assumption), (by repeat first | exact ge_h | refine ge_m rfl ?_ | assumption)⟩
    · have hF := bif_f hb19 hF
      refine w_exit ?_
      refine th_e ?_
      refine th_e ?_
      refine ⟨_, (inj hF).symm, .inr (⟨_, rfl, rfl, rfl, ?_⟩)⟩
      dsimp only
      exact ⟨F2, rfl, le2, st⟩
  · rcases hq with hq | hq
    · obtain ⟨N9, T, ds16⟩ := a
      obtain ⟨h30, n31⟩ := σ
      obtain ⟨w15, rfl, rfl, e1, F16, e2, le16, st, t4⟩ := hq
      dsimp only at e1 e2
      subst e1
      subst e2
      dsimp only at st t4
      have hF := sel_l hF
      refine ib_r ?_
      refine th_r ?_
      obtain rfl := inj hF
      exact end_s st (Res.t (by repeat first | exact ge_h | refine ge_m rfl ?_ | assumption) Res.nil) rfl rfl
    · obtain ⟨N9, T, ds18⟩ := a
      obtain ⟨h32, n33⟩ := σ
      obtain ⟨w17, rfl, rfl, e1, F18, e2, le18, st⟩ := hq
      dsimp only at e1 e2
      subst e1
      subst e2
      dsimp only at st
      have hF := sel_r hF
      refine ib_e ?_
      refine th_n ?_
      refine w_seq ?_
      refine w_reg ?_
      refine v_move ?_
      refine r_nil ?_
      refine th_n ?_
      refine w_ret ?_
      obtain rfl := inj hF
      exact end_s st (Res.t (by repeat first | exact ge_h | refine ge_m rfl ?_ | assumption) Res.nil) rfl rfl
theorem ct78 (N : Nat) {a0_0 : Int} {a0_1 : (List (Int × Int))} {a0_2 : (List (Int × Int × Int))} {a0_3 : Int} {r : Bool} (hF : sf78 N a0_0 a0_1 a0_2 a0_3 = some r) {fl : Nat} {h0 : Tr HBlk} {n0 : Nat} {F0 : PH} (hd : D h0 n0) (hs : F0.sub h0) {pa0_1 : Option (Nat × Nat)} {ca0_1 : Nat} {pa0_2 : Option (Nat × Nat)} {ca0_2 : Nat} (ra0_1 : RowF (rP rI rI) 2 F0 pa0_1 ca0_1 a0_1) (ra0_2 : RowF (rP rI (rP rI rI)) 3 F0 pa0_2 ca0_2 a0_2) : C LW fl 78 [(.agg [(i64 a0_0), (.slice pa0_1 (a0_1).length ca0_1), (.slice pa0_2 (a0_2).length ca0_2), (i64 a0_3)])] ⟨h0, n0⟩ (KS (.bool r) n0 h0) := by
  unfold sf78 at hF
  refine in_cT hd hs lw78 rfl rfl (by rfl) (fun st T hT => ?_)
  have hfl : n0 ≤ n0 := Nat.le_refl n0
  have t0 := hT 0 _ rfl
  dsimp only [L78]
  refine w_seq ?_
  refine w_reg ?_
  refine v_box st (fun b1 h2 n3 st => ?_)
  refine v_move ?_
  refine r_nil ?_
  refine th_n ?_
  refine w_seq ?_
  refine w_drawV (Nat.le_trans hfl st.ext.le) (fun dw => ?_)
  have wf := Wf.start st
  obtain ⟨v4, e5, hF⟩ := bnd_some hF
  refine y_flat st.d dw (fun hm vw => u_call (ct83 N e5 vw.d (FF.sub wf st vw) ) (fun n' hn' => pf_nil hn')) (fun n6 hn' dw => ?_)
  refine y_pure st.d dw (fun hm vw => v_ldn (vs := [(i64 a0_0), (.slice pa0_1 (a0_1).length ca0_1), (.slice pa0_2 (a0_2).length ca0_2), (i64 a0_3)]) (vw.bx (st.at (i := 0) rfl)) rfl pr_nil) ?_
  obtain ⟨v7, e8, hF⟩ := bnd_some hF
  refine y_deep st dw wf (fun hm vw => u_callR (ct84 N e8 vw.d (FF.sub wf st vw) (Nat.max_le.2 ⟨by have := dw.le; have := st.ext.le; omega, Nat.le_refl _⟩) (RowF.mono FF.base ra0_1) (RowF.mono FF.base ra0_2)) (fun v F' h' n' ex l1 l2 l3 l4 => r_nil ⟨_, _, rfl, ex, l1, l2, l3, l4⟩)) (fun u9 F9 n9 done hn' dw9 wf9 rv9 le9 => ?_)
  have wf := wf9
  have dw := dw9
  obtain ⟨_, rfl, ⟨_, _, rfl, ⟨py10, cy10, rfl, ry10⟩, ⟨py11, cy11, rfl, ry11⟩⟩⟩ := rv9
  refine y_lay st.d dw (fun hm vw => u_alloc pr_nil) (fun done dw => ?_)
  have wf := Wf.lay wf (e := (3, one n9 (.cells [(.slice none 0 0), (.slice none 0 0)] .exact)))
  refine y_end st.d dw rfl (fun h12 ex vs => ?_)
  obtain ⟨F13, lt13, st⟩ := St.laidF st dw wf ex vs (Lay.cons (b := n9) (cs := [(.slice none 0 0), (.slice none 0 0)]) (by have := dw.le; omega) (vs _ (List.mem_cons_self ..) _ _ (if_pos rfl)) (Lay.nil (by have := dw.le; omega))) (by intro e he w hw; simp only [List.mem_cons, List.not_mem_nil, or_false] at he hw; rcases he with rfl <;> rcases hw with rfl <;> exact Dw.not dw (by first | exact .inl (by first | exact List.Sublist.refl _ | (repeat first | exact List.nil_sublist _ | refine List.Sublist.cons_cons _ ?_ | refine List.Sublist.cons _ ?_)) | exact .inr (by first | exact List.Sublist.refl _ | (repeat first | exact List.nil_sublist _ | refine List.Sublist.cons_cons _ ?_ | refine List.Sublist.cons _ ?_))))
  have lz14 := lt13 _ (le9 (fun _ => true) rfl (fun _ _ => rfl))
  have lb13 := lt13 _ FF.base
  refine v_st (cs' := [(.slice py10 (v7.1).length cy10), (.slice py11 (v7.2).length cy11)]) st 1 rfl rfl rfl rfl hfl (fun h15 st => ?_)
  refine r_nil ?_
  refine th_n ?_
  refine w_seq ?_
  refine w_drawV (Nat.le_trans hfl st.ext.le) (fun dw => ?_)
  refine y_pure st.d dw (fun hm vw => v_fa pr_nil) ?_
  refine y_pure st.d dw (fun hm vw => v_ld1 (vw.bx (st.at (i := 1) rfl)) rfl pr_nil) ?_
  obtain ⟨n16, x16, z16, l16, g16, hF⟩ := ix_some hF
  obtain ⟨b16, o16, s16, j16, r16, e16, f16, k16, rfl⟩ := RowF.get ry10 g16
  refine y_pure st.d dw (fun hm vw => v_ixp e16 z16 l16 pr_nil) ?_
  refine y_pure st.d dw (fun hm vw => v_ld1 (vw.fz st (lz14 _ _ f16)) (take_at (j := 0) k16 rfl) pr_nil) ?_
  refine y_pure st.d dw (fun hm vw => v_fa pr_nil) ?_
  refine y_pure st.d dw (fun hm vw => v_ld1 (vw.bx (st.at (i := 1) rfl)) rfl pr_nil) ?_
  obtain ⟨q17, hF⟩ := ck_some hF
  refine y_step st.d dw rfl rfl (fun hm vw => v_slf (m := ((v7.1.drop (Int.toNat (1 : Int))).take (v7.1.length - (Int.toNat (1 : Int)))).length) (Int.toNat (1 : Int)) v7.1.length ry10 (bd_some (by first | exact ev_c | (apply ev_t; repeat first | exact ge_h | refine ge_m rfl ?_ | assumption)) (Int.toNat_of_nonneg q17.1).symm) bd_none q17.2.2 (by simp <;> omega) (fun p17 c17 n18 hn' rs17 => r_nil (y_call dw hn' vw.d (fun dw => ?_))))
  refine y_end st.d dw rfl (fun h19 ex vs => ?_)
  have st := st.ext1 ex
  obtain ⟨v20, e21, hF⟩ := bnd_some hF
  refine v_call st (ct103 N e21 st.d st.sub (RowF.mono lz14 rs17)) (fun n22 st => ?_)
  refine v_move ?_
  refine r_nil ?_
  refine th_n ?_
  refine w_seq ?_
  refine w_drawV (Nat.le_trans hfl st.ext.le) (fun dw => ?_)
  refine y_pure st.d dw (fun hm vw => v_fa pr_nil) ?_
  refine y_pure st.d dw (fun hm vw => v_ld1 (vw.bx (st.at (i := 1) rfl)) rfl pr_nil) ?_
  obtain ⟨n23, x23, z23, l23, g23, hF⟩ := ix_some hF
  obtain ⟨b23, o23, s23, j23, r23, e23, f23, k23, rfl⟩ := RowF.get ry11 g23
  refine y_pure st.d dw (fun hm vw => v_ixp e23 z23 l23 pr_nil) ?_
  refine y_pure st.d dw (fun hm vw => v_ld1 (vw.fz st (lz14 _ _ f23)) (take_at (j := 0) k23 rfl) pr_nil) ?_
  refine y_pure st.d dw (fun hm vw => v_fa pr_nil) ?_
  refine y_pure st.d dw (fun hm vw => v_ld1 (vw.bx (st.at (i := 1) rfl)) rfl pr_nil) ?_
  obtain ⟨q24, hF⟩ := ck_some hF
  refine y_step st.d dw rfl rfl (fun hm vw => v_slf (m := ((v7.2.drop (Int.toNat (1 : Int))).take (v7.2.length - (Int.toNat (1 : Int)))).length) (Int.toNat (1 : Int)) v7.2.length ry11 (bd_some (by first | exact ev_c | (apply ev_t; repeat first | exact ge_h | refine ge_m rfl ?_ | assumption)) (Int.toNat_of_nonneg q24.1).symm) bd_none q24.2.2 (by simp <;> omega) (fun p24 c24 n25 hn' rs24 => r_nil (y_call dw hn' vw.d (fun dw => ?_))))
  refine y_end st.d dw rfl (fun h26 ex vs => ?_)
  have st := st.ext1 ex
  obtain ⟨v27, e28, hF⟩ := bnd_some hF
  refine v_call st (ct103 N e28 st.d st.sub (RowF.mono lz14 rs24)) (fun n29 st => ?_)
  refine v_move ?_
  refine r_nil ?_
  refine th_n ?_
  refine w_seq ?_
  refine w_reg ?_
  refine v_fa ?_
  refine v_ld1 (st.at (i := 0) rfl).2.2 rfl ?_
  refine v_move ?_
  obtain ⟨q30, hF⟩ := ck_some hF
  refine v_add q30 ?_
  refine v_move ?_
  obtain ⟨q31, hF⟩ := ck_some hF
  refine v_add q31 ?_
  refine v_geq ?_
  refine v_move ?_
  refine r_nil ?_
  refine th_n ?_
  refine w_ret ?_
  obtain rfl := inj hF
  exact end_s st (Res.t (by repeat first | exact ge_h | refine ge_m rfl ?_ | assumption) Res.nil) rfl rfl
end Go.Hx.V

/- Functions of the program come to that. -/
namespace Go.Hx.V
open Go.Hx
set_option linter.unusedVariables false
set_option maxRecDepth 20000
set_option maxHeartbeats 4000000
attribute [local irreducible] W R C thenH inBlockH
theorem ct56 (N : Nat) {a0_0 : Int} {a0_1 : (List (Int × Int))} {a0_2 : (List (Int × Int × Int))} {a0_3 : Int} {r : Int} (hF : sf56 N a0_0 a0_1 a0_2 a0_3 = some r) {fl : Nat} {h0 : Tr HBlk} {n0 : Nat} {F0 : PH} (hd : D h0 n0) (hs : F0.sub h0) {pa0_1 : Option (Nat × Nat)} {ca0_1 : Nat} {pa0_2 : Option (Nat × Nat)} {ca0_2 : Nat} (ra0_1 : RowF (rP rI rI) 2 F0 pa0_1 ca0_1 a0_1) (ra0_2 : RowF (rP rI (rP rI rI)) 3 F0 pa0_2 ca0_2 a0_2) : C LW fl 56 [(.agg [(i64 a0_0), (.slice pa0_1 (a0_1).length ca0_1), (.slice pa0_2 (a0_2).length ca0_2), (i64 a0_3)])] ⟨h0, n0⟩ (KS (i64 r) n0 h0) := by
  unfold sf56 at hF
  refine in_cT hd hs lw56 rfl rfl (by rfl) (fun st T hT => ?_)
  have hfl : n0 ≤ n0 := Nat.le_refl n0
  have t0 := hT 0 _ rfl
  dsimp only [L56]
  refine w_seq ?_
  refine w_reg ?_
  refine v_box st (fun b1 h2 n3 st => ?_)
  refine v_move ?_
  refine r_nil ?_
  refine th_n ?_
  obtain ⟨y11, hA12, hF⟩ := bnd_some hF
  refine w_cutD (fun T ds17 h nx => ∃ u, y11 = (.inr u) ∧ ∃ (F17 : PH), ds17 = [] ∧ PH.le F0 F17 ∧ St n0 h0 F0 F17 h nx [.bx b1 [(i64 a0_0), (.slice pa0_1 (a0_1).length ca0_1), (.slice pa0_2 (a0_2).length ca0_2), (i64 a0_3)]] ∧ T.get 1 = some (.ptr (some (b1, 0)))) ?_ (fun T ds17 h nx hp => ?_)
  · have hK13 := hF
    have hF := hA12
    obtain ⟨y19, hA20, hF⟩ := bnd_some hF
    refine w_cutD (fun T ds22 h nx => ∃ (F22 : PH), ds22 = [] ∧ PH.le F0 F22 ∧ St n0 h0 F0 F22 h nx [.bx b1 [(i64 a0_0), (.slice pa0_1 (a0_1).length ca0_1), (.slice pa0_2 (a0_2).length ca0_2), (i64 a0_3)]] ∧ T.get 1 = some (.ptr (some (b1, 0))) ∧ T.get 16 = some (.bool y19)) ?_ (fun T ds22 h nx hp => ?_)
    · have hK21 := hF
      have hF := hA20
      refine w_reg ?_
      refine v_fa ?_
      refine v_ld1 (st.at (i := 0) rfl).2.2 rfl ?_
      refine v_len ?_
      refine v_gtr ?_
      refine v_move ?_
      rcases Bool.eq_false_or_eq_true (decide ((8 : Int) < ((a0_1).length : Int))) with hb23 | hb23
      · have hF := bif_t hb23 hF
        refine g_skip hb23 ?_
        refine g_skip hb23 ?_
        refine g_skip hb23 ?_
        refine g_skip hb23 ?_
        refine v_pick hb23 ?_
        refine r_nil ?_
        obtain rfl := inj hF
        refine thn ⟨rfl, ?_⟩
        dsimp only
        exact ⟨F0, rfl, (PH.le.refl _), st, (by repeat first | exact ge_h | refine ge_m rfl ?_ | assumption), (by repeat first | exact ge_h | refine ge_m rfl ?_ | assumption)⟩
      · have hF := bif_f hb23 hF
        refine g_take hb23 (v_fa ?_)
        refine g_take hb23 (v_ld1 (st.at (i := 0) rfl).2.2 rfl ?_)
        refine g_take hb23 (v_len ?_)
        refine g_take hb23 (v_gtr ?_)
        refine v_pick' hb23 ?_
        refine r_nil ?_
        obtain rfl := inj hF
        refine thn ⟨rfl, ?_⟩
        dsimp only
        exact ⟨F0, rfl, (PH.le.refl _), st, (by repeat first | exact ge_h | refine ge_m rfl ?_ | assumption), (by repeat first | exact ge_h | refine ge_m rfl ?_ | assumption)⟩
    · obtain ⟨F22, rfl, le22, st, t1, t16⟩ := hp
      refine v_cond (fun hb24 => ?_) (fun hb24 => ?_)
      · have hF := bif_t hb24 hF
        refine w_seq ?_
        refine w_reg ?_
        refine v_move ?_
        refine r_nil ?_
        refine th_n ?_
        refine w_ret ?_
        obtain rfl := inj hF
        have hF := hK13
        have hF := sel_l hF
        refine th_r ?_
        obtain rfl := inj hF
        exact end_s st (Res.t (by repeat first | exact ge_h | refine ge_m rfl ?_ | assumption) Res.nil) rfl rfl
      · have hF := bif_f hb24 hF
        refine w_skip ?_
        obtain rfl := inj hF
        refine thn ⟨rfl, _, rfl, ?_⟩
        dsimp only
        exact ⟨F22, rfl, le22, st, (by repeat first | exact ge_h | refine ge_m rfl ?_ | assumption)⟩
  · obtain ⟨w16, rfl, F17, rfl, le17, st, t1⟩ := hp
    have hF := sel_r hF
    obtain ⟨y53, hA54, hF⟩ := bnd_some hF
    refine w_cutD (fun T ds59 h nx => ∃ u, y53 = (.inr u) ∧ ∃ (F59 : PH), ds59 = [] ∧ PH.le F17 F59 ∧ St n0 h0 F0 F59 h nx [.bx b1 [(i64 a0_0), (.slice pa0_1 (a0_1).length ca0_1), (.slice pa0_2 (a0_2).length ca0_2), (i64 a0_3)]] ∧ T.get 1 = some (.ptr (some (b1, 0)))) ?_ (fun T ds59 h nx hp => ?_)
    · have hK55 := hF
      have hF := hA54
      obtain ⟨y71, hA72, hF⟩ := bnd_some hF
      refine w_cutD (fun T ds74 h nx => ∃ (F74 : PH), ds74 = [] ∧ PH.le F17 F74 ∧ St n0 h0 F0 F74 h nx [.bx b1 [(i64 a0_0), (.slice pa0_1 (a0_1).length ca0_1), (.slice pa0_2 (a0_2).length ca0_2), (i64 a0_3)]] ∧ T.get 1 = some (.ptr (some (b1, 0))) ∧ T.get 46 = some (.bool y71)) ?_ (fun T ds74 h nx hp => ?_)
      · have hK73 := hF
        have hF := hA72
        refine w_reg ?_
        refine v_fa ?_
        refine v_ld1 (st.at (i := 0) rfl).2.2 rfl ?_
        obtain ⟨v75, e76, hF⟩ := bnd_some hF
        refine v_call st (ct24 N e76 st.d st.sub ) (fun n77 st => ?_)
        refine v_not ?_
        refine v_move ?_
        rcases Bool.eq_false_or_eq_true (!v75) with hb78 | hb78
        · have hF := bif_t hb78 hF
          refine g_skip hb78 ?_
          refine g_skip hb78 ?_
          refine g_skip hb78 ?_
          refine g_skip hb78 ?_
          refine v_pick hb78 ?_
          refine v_move ?_
          refine g_skip rfl ?_
          refine g_skip rfl ?_
          refine g_skip rfl ?_
          refine g_skip rfl ?_
          refine v_pick rfl ?_
          refine v_move ?_
          refine g_skip rfl ?_
          refine g_skip rfl ?_
          refine g_skip rfl ?_
          refine g_skip rfl ?_
          refine v_pick rfl ?_
          refine v_move ?_
          refine g_skip rfl ?_
          refine g_skip rfl ?_
          refine g_skip rfl ?_
          refine g_skip rfl ?_
          refine g_skip rfl ?_
          refine g_skip rfl ?_
          refine v_pick rfl ?_
          refine r_nil ?_
          obtain rfl := inj hF
          refine thn ⟨rfl, ?_⟩
          dsimp only
          exact ⟨F17, rfl, (PH.le.refl _), st, (by repeat first | exact ge_h | refine ge_m rfl ?_ | assumption), (by repeat first | exact ge_h | refine ge_m rfl ?_ | assumption)⟩
        · have hF := bif_f hb78 hF
          refine g_take hb78 (v_fa ?_)
          refine g_take hb78 (v_ld1 (st.at (i := 0) rfl).2.2 rfl ?_)
          obtain ⟨v79, e80, hF⟩ := bnd_some hF
          refine g_take hb78 (v_call st (ct24 N e80 st.d st.sub ) (fun n81 st => ?_))
          refine g_take hb78 (v_not ?_)
          refine v_pick' hb78 ?_
          refine v_move ?_
          rcases Bool.eq_false_or_eq_true (!v79) with hb82 | hb82
          · have hF := bif_t hb82 hF
            refine g_skip hb82 ?_
            refine g_skip hb82 ?_
            refine g_skip hb82 ?_
            refine g_skip hb82 ?_
            refine v_pick hb82 ?_
            refine v_move ?_
            refine g_skip rfl ?_
            refine g_skip rfl ?_
            refine g_skip rfl ?_
            refine g_skip rfl ?_
            refine v_pick rfl ?_
            refine v_move ?_
            refine g_skip rfl ?_
            refine g_skip rfl ?_
            refine g_skip rfl ?_
            refine g_skip rfl ?_
            refine g_skip rfl ?_
            refine g_skip rfl ?_
            refine v_pick rfl ?_
            refine r_nil ?_
            obtain rfl := inj hF
            refine thn ⟨rfl, ?_⟩
            dsimp only
            exact ⟨F17, rfl, (PH.le.refl _), st, (by repeat first | exact ge_h | refine ge_m rfl ?_ | assumption), (by repeat first | exact ge_h | refine ge_m rfl ?_ | assumption)⟩
          · have hF := bif_f hb82 hF
            refine g_take hb82 (v_fa ?_)
            refine g_take hb82 (v_ld1 (st.at (i := 0) rfl).2.2 rfl ?_)
            refine g_take hb82 (v_len ?_)
            refine g_take hb82 (v_eqi ?_)
            refine v_pick' hb82 ?_
            refine v_move ?_
            rcases Bool.eq_false_or_eq_true (decide (((a0_1).length : Int) = (0 : Int))) with hb83 | hb83
            · have hF := bif_t hb83 hF
              refine g_skip hb83 ?_
              refine g_skip hb83 ?_
              refine g_skip hb83 ?_
              refine g_skip hb83 ?_
              refine v_pick hb83 ?_
              refine v_move ?_
              refine g_skip rfl ?_
              refine g_skip rfl ?_
              refine g_skip rfl ?_
              refine g_skip rfl ?_
              refine g_skip rfl ?_
              refine g_skip rfl ?_
              refine v_pick rfl ?_
              refine r_nil ?_
              obtain rfl := inj hF
              refine thn ⟨rfl, ?_⟩
              dsimp only
              exact ⟨F17, rfl, (PH.le.refl _), st, (by repeat first | exact ge_h | refine ge_m rfl ?_ | assumption), (by repeat first | exact ge_h | refine ge_m rfl ?_ | assumption)⟩
            · have hF := bif_f hb83 hF
              refine g_take hb83 (v_fa ?_)
              refine g_take hb83 (v_ld1 (st.at (i := 0) rfl).2.2 rfl ?_)
              refine g_take hb83 (v_len ?_)
              refine g_take hb83 (v_eqi ?_)
              refine v_pick' hb83 ?_
              refine v_move ?_
              rcases Bool.eq_false_or_eq_true (decide (((a0_2).length : Int) = (0 : Int))) with hb84 | hb84
              · have hF := bif_t hb84 hF
                refine g_skip hb84 ?_
                refine g_skip hb84 ?_
                refine g_skip hb84 ?_
                refine g_skip hb84 ?_
                refine g_skip hb84 ?_
                refine g_skip hb84 ?_
                refine v_pick hb84 ?_
                refine r_nil ?_
                obtain rfl := inj hF
                refine thn ⟨rfl, ?_⟩
                dsimp only
                exact ⟨F17, rfl, (PH.le.refl _), st, (by repeat first | exact ge_h | refine ge_m rfl ?_ | assumption), (by repeat first | exact ge_h | refine ge_m rfl ?_ | assumption)⟩
              · have hF := bif_f hb84 hF
                refine g_take hb84 (v_fa ?_)
                refine g_take hb84 (v_ld1 (st.at (i := 0) rfl).2.2 rfl ?_)
                obtain ⟨n85, x85, z85, l85, g85, hF⟩ := ix_some hF
                obtain ⟨b85, o85, s85, j85, r85, e85, f85, k85, ⟨_, _, rfl, rfl, ⟨_, _, rfl, rfl, rfl⟩⟩⟩ := RowF.get ra0_2 g85
                refine g_take hb84 (v_ixp e85 z85 l85 ?_)
                refine g_take hb84 (v_fa ?_)
                refine g_take hb84 (v_ld1 (st.sub _ _ (le17 _ _ f85)) (take_at (j := 0) k85 rfl) ?_)
                refine g_take hb84 (v_nei ?_)
                refine v_pick' hb84 ?_
                refine r_nil ?_
                obtain rfl := inj hF
                refine thn ⟨rfl, ?_⟩
                dsimp only
                exact ⟨F17, rfl, (PH.le.refl _), st, (by repeat first | exact ge_h | refine ge_m rfl ?_ | assumption), (by repeat first | exact ge_h | refine ge_m rfl ?_ | assumption)⟩
      · obtain ⟨F74, rfl, le74, st, t1, t46⟩ := hp
        have le86 := PH.le.trans le17 le74
        refine v_cond (fun hb87 => ?_) (fun hb87 => ?_)
        · have hF := bif_t hb87 hF
          refine w_seq ?_
          refine w_reg ?_
          refine v_move ?_
          refine r_nil ?_
          refine th_n ?_
          refine w_ret ?_
          obtain rfl := inj hF
          have hF := hK55
          have hF := sel_l hF
          refine th_r ?_
          obtain rfl := inj hF
          exact end_s st (Res.t (by repeat first | exact ge_h | refine ge_m rfl ?_ | assumption) Res.nil) rfl rfl
        · have hF := bif_f hb87 hF
          refine w_skip ?_
          obtain rfl := inj hF
          refine thn ⟨rfl, _, rfl, ?_⟩
          dsimp only
          exact ⟨F74, rfl, le74, st, (by repeat first | exact ge_h | refine ge_m rfl ?_ | assumption)⟩
    · obtain ⟨w58, rfl, F59, rfl, le59, st, t1⟩ := hp
      have hF := sel_r hF
      have le89 := PH.le.trans le17 le59
      refine w_seq ?_
      refine w_seq ?_
      refine w_reg ?_
      refine v_move ?_
      refine r_nil ?_
      refine th_n ?_
      refine w_block ?_
      obtain ⟨y139, hy, hF⟩ := bnd_some hF
      refine v_loopD (sf56_L1 N a0_2) (fun x90 T ds91 h nx => ∃ (F91 : PH), ds91 = [] ∧ PH.le F59 F91 ∧ St n0 h0 F0 F91 h nx [.bx b1 [(i64 a0_0), (.slice pa0_1 (a0_1).length ca0_1), (.slice pa0_2 (a0_2).length ca0_2), (i64 a0_3)]] ∧ T.get 1 = some (.ptr (some (b1, 0))) ∧ T.get 3 = some (i64 x90)) (fun y e a σ => (∃ u, y = (.inl u) ∧ e = .ret ∧ a.nt = 124 ∧ ∃ (F141 : PH), a.defers = [] ∧ PH.le F59 F141 ∧ St n0 h0 F0 F141 σ.h σ.nx [.bx b1 [(i64 a0_0), (.slice pa0_1 (a0_1).length ca0_1), (.slice pa0_2 (a0_2).length ca0_2), (i64 a0_3)]] ∧ a.tmps.get 2 = some (i64 u)) ∨ (∃ u, y = (.inr u) ∧ e = .exit 0 ∧ a.nt = 124 ∧ ∃ (F143 : PH), a.defers = [] ∧ PH.le F59 F143 ∧ St n0 h0 F0 F143 σ.h σ.nx [.bx b1 [(i64 a0_0), (.slice pa0_1 (a0_1).length ca0_1), (.slice pa0_2 (a0_2).length ca0_2), (i64 a0_3)]] ∧ a.tmps.get 1 = some (.ptr (some (b1, 0))))) (fun x90 T ds91 h nx s hp hF => ?_) N _ y139 _ _ _ _ hy ⟨F59, rfl, (PH.le.refl _), st, (by repeat first | exact ge_h | refine ge_m rfl ?_ | assumption), (by repeat first | exact ge_h | refine ge_m rfl ?_ | assumption)⟩ (fun e a σ hne hq => ?_)
      · obtain ⟨F91, rfl, le91, st, t1, t3⟩ := hp
        have le92 := PH.le.trans le89 le91
        have le93 := PH.le.trans le59 le91
        unfold sf56_L1 at hF
        unfold L56w2
        refine w_seq ?_
        refine w_seq ?_
        refine w_reg ?_
        refine v_move ?_
        refine v_fa ?_
        refine v_ld1 (st.at (i := 0) rfl).2.2 rfl ?_
        refine v_len ?_
        refine v_lss ?_
        refine r_nil ?_
        refine th_n ?_
        refine v_cond (fun hb144 => ?_) (fun hb144 => ?_)
        · have hF := bif_t hb144 hF
          refine w_skip ?_
          refine th_n ?_
          refine w_seq ?_
          refine w_block ?_
          refine w_seq ?_
          refine w_reg ?_
          refine v_fa ?_
          refine v_ld1 (st.at (i := 0) rfl).2.2 rfl ?_
          refine v_move ?_
          obtain ⟨n145, x145, z145, l145, g145, hF⟩ := ix_some hF
          obtain ⟨b145, o145, s145, j145, r145, e145, f145, k145, ⟨_, _, rfl, rfl, ⟨_, _, rfl, rfl, rfl⟩⟩⟩ := RowF.get ra0_2 g145
          refine v_ixp e145 z145 l145 ?_
          refine v_ldn (st.sub _ _ (le92 _ _ f145)) k145 ?_
          refine v_alloc st (fun b146 h147 n148 st => ?_)
          refine v_st (cs' := [(i64 x145.1), (i64 x145.2.1), (i64 x145.2.2)]) st 1 rfl rfl rfl rfl hfl (fun h149 st => ?_)
          refine r_nil ?_
          refine th_n ?_
          obtain ⟨y165, hA166, hF⟩ := bnd_some hF
          refine w_cutD (fun T ds168 h nx => ∃ (F168 : PH), ds168 = [] ∧ PH.le F91 F168 ∧ St n0 h0 F0 F168 h nx [.bx b1 [(i64 a0_0), (.slice pa0_1 (a0_1).length ca0_1), (.slice pa0_2 (a0_2).length ca0_2), (i64 a0_3)], .bx b146 [(i64 x145.1), (i64 x145.2.1), (i64 x145.2.2)]] ∧ T.get 1 = some (.ptr (some (b1, 0))) ∧ T.get 3 = some (i64 x90) ∧ T.get 84 = some (.bool y165)) ?_ (fun T ds168 h nx hp => ?_)
          · have hK167 := hF
            have hF := hA166
            refine w_drawV (Nat.le_trans hfl st.ext.le) (fun dw => ?_)
            refine y_pure st.d dw (fun hm vw => v_fa pr_nil) ?_
            refine y_pure st.d dw (fun hm vw => v_ld1 (vw.bx (st.at (i := 1) rfl)) rfl pr_nil) ?_
            obtain ⟨v169, e170, hF⟩ := bnd_some hF
            refine y_flat st.d dw (fun hm vw => u_call (ct24 N e170 vw.d (vw.sub st) ) (fun n' hn' => pf_nil hn')) (fun n171 hn' dw => ?_)
            refine y_pure st.d dw (fun hm vw => v_not pr_nil) ?_
            refine y_pure st.d dw (fun hm vw => v_move pr_nil) ?_
            rcases Bool.eq_false_or_eq_true (!v169) with hb172 | hb172
            · have hF := bif_t hb172 hF
              refine y_pure st.d dw (fun hm vw => g_skip hb172 pr_nil) ?_
              refine y_pure st.d dw (fun hm vw => g_skip hb172 pr_nil) ?_
              refine y_pure st.d dw (fun hm vw => g_skip hb172 pr_nil) ?_
              refine y_pure st.d dw (fun hm vw => g_skip hb172 pr_nil) ?_
              refine y_pure st.d dw (fun hm vw => v_pick hb172 pr_nil) ?_
              refine y_pure st.d dw (fun hm vw => v_move pr_nil) ?_
              refine y_pure st.d dw (fun hm vw => g_skip rfl pr_nil) ?_
              refine y_pure st.d dw (fun hm vw => g_skip rfl pr_nil) ?_
              refine y_pure st.d dw (fun hm vw => g_skip rfl pr_nil) ?_
              refine y_pure st.d dw (fun hm vw => g_skipu pr_nil) ?_
              refine y_pure st.d dw (fun hm vw => g_skipu pr_nil) ?_
              refine y_pure st.d dw (fun hm vw => g_skipu pr_nil) ?_
              refine y_pure st.d dw (fun hm vw => g_skipu pr_nil) ?_
              refine y_pure st.d dw (fun hm vw => g_skipu pr_nil) ?_
              refine y_pure st.d dw (fun hm vw => g_skipu pr_nil) ?_
              refine y_pure st.d dw (fun hm vw => g_skipu pr_nil) ?_
              refine y_pure st.d dw (fun hm vw => g_skipu pr_nil) ?_
              refine y_pure st.d dw (fun hm vw => g_skipu pr_nil) ?_
              refine y_end st.d dw rfl (fun h173 ex vs => ?_)
              have st := st.ext1 ex
              refine g_skipu ?_
              refine g_skip rfl ?_
              refine v_pick rfl ?_
              refine r_nil ?_
              obtain rfl := inj hF
              refine thn ⟨rfl, ?_⟩
              dsimp only
              exact ⟨F91, rfl, (PH.le.refl _), st, (by repeat first | exact ge_h | refine ge_m rfl ?_ | assumption), (by repeat first | exact ge_h | refine ge_m rfl ?_ | assumption), (by repeat first | exact ge_h | refine ge_m rfl ?_ | assumption)⟩
            · have hF := bif_f hb172 hF
              refine y_pure st.d dw (fun hm vw => g_take hb172 (v_fa pr_nil)) ?_
              refine y_pure st.d dw (fun hm vw => g_take hb172 (v_ldn (vs := [(i64 x145.2.1), (i64 x145.2.2)]) (vw.bx (st.at (i := 1) rfl)) rfl pr_nil)) ?_
              obtain ⟨v174, e175, hF⟩ := bnd_some hF
              refine y_flat st.d dw (fun hm vw => g_take hb172 (u_call (ct86 N e175 vw.d (vw.sub st) ) (fun n' hn' => pf_nil hn'))) (fun n176 hn' dw => ?_)
              refine y_pure st.d dw (fun hm vw => g_take hb172 (v_not pr_nil)) ?_
              refine y_pure st.d dw (fun hm vw => v_pick' hb172 pr_nil) ?_
              refine y_pure st.d dw (fun hm vw => v_move pr_nil) ?_
              rcases Bool.eq_false_or_eq_true (!v174) with hb177 | hb177
              · have hF := bif_t hb177 hF
                refine y_pure st.d dw (fun hm vw => g_skip hb177 pr_nil) ?_
                refine y_pure st.d dw (fun hm vw => g_skip hb177 pr_nil) ?_
                refine y_pure st.d dw (fun hm vw => g_skip hb177 pr_nil) ?_
                refine y_pure st.d dw (fun hm vw => g_skipu pr_nil) ?_
                refine y_pure st.d dw (fun hm vw => g_skipu pr_nil) ?_
                refine y_pure st.d dw (fun hm vw => g_skipu pr_nil) ?_
                refine y_pure st.d dw (fun hm vw => g_skipu pr_nil) ?_
                refine y_pure st.d dw (fun hm vw => g_skipu pr_nil) ?_
                refine y_pure st.d dw (fun hm vw => g_skipu pr_nil) ?_
                refine y_pure st.d dw (fun hm vw => g_skipu pr_nil) ?_
                refine y_pure st.d dw (fun hm vw => g_skipu pr_nil) ?_
                refine y_pure st.d dw (fun hm vw => g_skipu pr_nil) ?_
                refine y_end st.d dw rfl (fun h178 ex vs => ?_)
                have st := st.ext1 ex
                refine g_skipu ?_
                refine g_skip hb177 ?_
                refine v_pick hb177 ?_
                refine r_nil ?_
                obtain rfl := inj hF
                refine thn ⟨rfl, ?_⟩
                dsimp only
                exact ⟨F91, rfl, (PH.le.refl _), st, (by repeat first | exact ge_h | refine ge_m rfl ?_ | assumption), (by repeat first | exact ge_h | refine ge_m rfl ?_ | assumption), (by repeat first | exact ge_h | refine ge_m rfl ?_ | assumption)⟩
              · have hF := bif_f hb177 hF
                refine y_pure st.d dw (fun hm vw => g_take hb177 (v_move pr_nil)) ?_
                refine y_pure st.d dw (fun hm vw => g_take hb177 (v_gtr pr_nil)) ?_
                refine y_pure st.d dw (fun hm vw => g_take hb177 (v_move pr_nil)) ?_
                rcases Bool.eq_false_or_eq_true (decide ((0 : Int) < x90)) with hb179 | hb179
                · have hF := bif_t hb179 hF
                  refine y_pure st.d dw (fun hm vw => g_take hb179 (v_fa pr_nil)) ?_
                  refine y_pure st.d dw (fun hm vw => g_take hb179 (v_ld1 (vw.bx (st.at (i := 1) rfl)) rfl pr_nil)) ?_
                  refine y_pure st.d dw (fun hm vw => g_take hb179 (v_fa pr_nil)) ?_
                  refine y_pure st.d dw (fun hm vw => g_take hb179 (v_ld1 (vw.bx (st.at (i := 0) rfl)) rfl pr_nil)) ?_
                  refine y_pure st.d dw (fun hm vw => g_take hb179 (v_move pr_nil)) ?_
                  obtain ⟨q180, hF⟩ := ck_some hF
                  refine y_pure st.d dw (fun hm vw => g_take hb179 (v_sub q180 pr_nil)) ?_
                  obtain ⟨n181, x181, z181, l181, g181, hF⟩ := ix_some hF
                  obtain ⟨b181, o181, s181, j181, r181, e181, f181, k181, ⟨_, _, rfl, rfl, ⟨_, _, rfl, rfl, rfl⟩⟩⟩ := RowF.get ra0_2 g181
                  refine y_pure st.d dw (fun hm vw => g_take hb179 (v_ixp e181 z181 l181 pr_nil)) ?_
                  refine y_pure st.d dw (fun hm vw => g_take hb179 (v_fa pr_nil)) ?_
                  refine y_pure st.d dw (fun hm vw => g_take hb179 (v_ld1 (vw.fz st (le92 _ _ f181)) (take_at (j := 0) k181 rfl) pr_nil)) ?_
                  refine y_end st.d dw rfl (fun h182 ex vs => ?_)
                  have st := st.ext1 ex
                  refine g_take hb179 (v_leq ?_)
                  refine g_take hb177 (v_pick hb179 ?_)
                  refine v_pick' hb177 ?_
                  refine r_nil ?_
                  obtain rfl := inj hF
                  refine thn ⟨rfl, ?_⟩
                  dsimp only
                  exact ⟨F91, rfl, (PH.le.refl _), st, (by repeat first | exact ge_h | refine ge_m rfl ?_ | assumption), (by repeat first | exact ge_h | refine ge_m rfl ?_ | assumption), (by repeat first | exact ge_h | refine ge_m rfl ?_ | assumption)⟩
                · have hF := bif_f hb179 hF
                  refine y_pure st.d dw (fun hm vw => g_skip hb179 pr_nil) ?_
                  refine y_pure st.d dw (fun hm vw => g_skip hb179 pr_nil) ?_
                  refine y_pure st.d dw (fun hm vw => g_skip hb179 pr_nil) ?_
                  refine y_pure st.d dw (fun hm vw => g_skip hb179 pr_nil) ?_
                  refine y_pure st.d dw (fun hm vw => g_skip hb179 pr_nil) ?_
                  refine y_pure st.d dw (fun hm vw => g_skip hb179 pr_nil) ?_
                  refine y_pure st.d dw (fun hm vw => g_skip hb179 pr_nil) ?_
                  refine y_pure st.d dw (fun hm vw => g_skip hb179 pr_nil) ?_
                  refine y_pure st.d dw (fun hm vw => g_skip hb179 pr_nil) ?_
                  refine y_end st.d dw rfl (fun h183 ex vs => ?_)
                  have st := st.ext1 ex
                  refine g_skip hb179 ?_
                  refine g_take hb177 (v_pick' hb179 ?_)
                  refine v_pick' hb177 ?_
                  refine r_nil ?_
                  obtain rfl := inj hF
                  refine thn ⟨rfl, ?_⟩
                  dsimp only
                  exact ⟨F91, rfl, (PH.le.refl _), st, (by repeat first | exact ge_h | refine ge_m rfl ?_ | assumption), (by repeat first | exact ge_h | refine ge_m rfl ?_ | assumption), (by repeat first | exact ge_h | refine ge_m rfl ?_ | assumption)⟩
          · obtain ⟨F168, rfl, le168, st, t1, t3, t84⟩ := hp
            have le184 := PH.le.trans le92 le168
            have le185 := PH.le.trans le93 le168
            have le186 := PH.le.trans le91 le168
            refine v_cond (fun hb187 => ?_) (fun hb187 => ?_)
            · have hF := bif_t hb187 hF
              refine w_seq ?_
              refine w_reg ?_
              refine v_move ?_
              refine r_nil ?_
              refine th_n ?_
              refine w_ret ?_
              refine ib_r ?_
              refine th_r ?_
              refine th_r ?_
              refine ⟨_, (inj hF).symm, .inl ⟨_, rfl, rfl, rfl, ?_⟩⟩
              dsimp only
              exact ⟨F168, rfl, le186, (st.drop (by first | exact List.Sublist.refl _ | (repeat first | exact List.nil_sublist _ | refine List.Sublist.cons_cons _ ?_ | refine List.Sublist.cons _ ?_))), (by repeat first | exact ge_h | refine ge_m rfl ?_ | assumption)⟩
            · have hF := bif_f hb187 hF
              refine w_skip ?_
              refine ib_n ?_
              refine th_n ?_
              refine w_reg ?_
              refine v_move ?_
              obtain ⟨q188, hF⟩ := ck_some hF
              refine v_add q188 ?_
              refine v_move ?_
              refine r_nil ?_
              refine thn ⟨_, (inj hF).symm, rfl, ?_⟩
              dsimp only
              exact ⟨F168, rfl, le186, (st.drop (by first | exact List.Sublist.refl _ | (repeat first | exact List.nil_sublist _ | refine List.Sublist.cons_cons _ ?_ | refine List.Sublist.cons _ ?_))), (by repeat first | exact ge_h | refine ge_m rfl ?_ | assumption), (by repeat first | exact ge_h | refine ge_m rfl ?_ | assumption)⟩
        · have hF := bif_f hb144 hF
          refine w_exit ?_
          refine th_e ?_
          refine th_e ?_
          refine ⟨_, (inj hF).symm, .inr (⟨_, rfl, rfl, rfl, ?_⟩)⟩
          dsimp only
          exact ⟨F91, rfl, le91, st, (by repeat first | exact ge_h | refine ge_m rfl ?_ | assumption)⟩
      · rcases hq with hq | hq
        · obtain ⟨N9, T, ds141⟩ := a
          obtain ⟨h191, n192⟩ := σ
          obtain ⟨w140, rfl, rfl, e1, F141, e2, le141, st, t2⟩ := hq
          dsimp only at e1 e2
          subst e1
          subst e2
          dsimp only at st t2
          have le189 := PH.le.trans le89 le141
          have le190 := PH.le.trans le59 le141
          have hF := sel_l hF
          refine ib_r ?_
          refine th_r ?_
          obtain rfl := inj hF
          exact end_s st (Res.t (by repeat first | exact ge_h | refine ge_m rfl ?_ | assumption) Res.nil) rfl rfl
        · obtain ⟨N9, T, ds143⟩ := a
          obtain ⟨h195, n196⟩ := σ
          obtain ⟨w142, rfl, rfl, e1, F143, e2, le143, st, t1⟩ := hq
          dsimp only at e1 e2
          subst e1
          subst e2
          dsimp only at st t1
          have le193 := PH.le.trans le89 le143
          have le194 := PH.le.trans le59 le143
          have hF := sel_r hF
          refine ib_e ?_
          refine th_n ?_
          refine w_seq ?_
          refine w_seq ?_
          refine w_reg ?_
          refine v_move ?_
          refine r_nil ?_
          refine th_n ?_
          refine w_block ?_
          obtain ⟨y248, hy, hF⟩ := bnd_some hF
          refine v_loopD (sf56_L3 N a0_0 a0_1 a0_2) (fun x197 T ds198 h nx => ∃ (F198 : PH), ds198 = [] ∧ PH.le F143 F198 ∧ St n0 h0 F0 F198 h nx [.bx b1 [(i64 a0_0), (.slice pa0_1 (a0_1).length ca0_1), (.slice pa0_2 (a0_2).length ca0_2), (i64 a0_3)]] ∧ T.get 1 = some (.ptr (some (b1, 0))) ∧ T.get 5 = some (i64 x197)) (fun y e a σ => (∃ u, y = (.inl u) ∧ e = .ret ∧ a.nt = 124 ∧ ∃ (F250 : PH), a.defers = [] ∧ PH.le F143 F250 ∧ St n0 h0 F0 F250 σ.h σ.nx [.bx b1 [(i64 a0_0), (.slice pa0_1 (a0_1).length ca0_1), (.slice pa0_2 (a0_2).length ca0_2), (i64 a0_3)]] ∧ a.tmps.get 2 = some (i64 u)) ∨ (∃ u, y = (.inr u) ∧ e = .exit 2 ∧ a.nt = 124 ∧ ∃ (F252 : PH), a.defers = [] ∧ PH.le F143 F252 ∧ St n0 h0 F0 F252 σ.h σ.nx [.bx b1 [(i64 a0_0), (.slice pa0_1 (a0_1).length ca0_1), (.slice pa0_2 (a0_2).length ca0_2), (i64 a0_3)]])) (fun x197 T ds198 h nx s hp hF => ?_) N _ y248 _ _ _ _ hy ⟨F143, rfl, (PH.le.refl _), st, (by repeat first | exact ge_h | refine ge_m rfl ?_ | assumption), (by repeat first | exact ge_h | refine ge_m rfl ?_ | assumption)⟩ (fun e a σ hne hq => ?_)
          · obtain ⟨F198, rfl, le198, st, t1, t5⟩ := hp
            have le199 := PH.le.trans le193 le198
            have le200 := PH.le.trans le194 le198
            have le201 := PH.le.trans le143 le198
            unfold sf56_L3 at hF
            unfold L56w1
            refine w_seq ?_
            refine w_seq ?_
            refine w_reg ?_
            refine v_move ?_
            refine v_fa ?_
            refine v_ld1 (st.at (i := 0) rfl).2.2 rfl ?_
            refine v_len ?_
            refine v_lss ?_
            refine r_nil ?_
            refine th_n ?_
            refine v_cond (fun hb253 => ?_) (fun hb253 => ?_)
            · have hF := bif_t hb253 hF
              refine w_skip ?_
              refine th_n ?_
              refine w_seq ?_
              refine w_block ?_
              refine w_seq ?_
              refine w_seq ?_
              refine w_reg ?_
              refine v_fa ?_
              refine v_ld1 (st.at (i := 0) rfl).2.2 rfl ?_
              refine v_move ?_
              obtain ⟨n254, x254, z254, l254, g254, hF⟩ := ix_some hF
              obtain ⟨b254, o254, s254, j254, r254, e254, f254, k254, ⟨_, _, rfl, rfl, rfl⟩⟩ := RowF.get ra0_1 g254
              refine v_ixp e254 z254 l254 ?_
              refine v_ldn (st.sub _ _ (le199 _ _ f254)) k254 ?_
              obtain ⟨v255, e256, hF⟩ := bnd_some hF
              refine v_call st (ct86 N e256 st.d st.sub ) (fun n257 st => ?_)
              refine v_not ?_
              refine r_nil ?_
              refine th_n ?_
              refine v_cond (fun hb258 => ?_) (fun hb258 => ?_)
              · have hF := bif_t hb258 hF
                refine w_seq ?_
                refine w_reg ?_
                refine v_move ?_
                refine r_nil ?_
                refine th_n ?_
                refine w_ret ?_
                refine th_r ?_
                refine ib_r ?_
                refine th_r ?_
                refine th_r ?_
                refine ⟨_, (inj hF).symm, .inl ⟨_, rfl, rfl, rfl, ?_⟩⟩
                dsimp only
                exact ⟨F198, rfl, le198, st, (by repeat first | exact ge_h | refine ge_m rfl ?_ | assumption)⟩
              · have hF := bif_f hb258 hF
                refine w_skip ?_
                refine th_n ?_
                refine w_seq ?_
                refine w_reg ?_
                refine v_move ?_
                refine r_nil ?_
                refine th_n ?_
                refine w_block ?_
                obtain ⟨y273, hy, hF⟩ := bnd_some hF
                refine v_loopD (sf56_L2 a0_0 a0_1 a0_2 x197) (fun x259 T ds260 h nx => ∃ (F260 : PH), ds260 = [] ∧ PH.le F198 F260 ∧ St n0 h0 F0 F260 h nx [.bx b1 [(i64 a0_0), (.slice pa0_1 (a0_1).length ca0_1), (.slice pa0_2 (a0_2).length ca0_2), (i64 a0_3)]] ∧ T.get 1 = some (.ptr (some (b1, 0))) ∧ T.get 5 = some (i64 x197) ∧ T.get 6 = some (i64 x259)) (fun y e a σ => (∃ u, y = (.inl u) ∧ e = .ret ∧ a.nt = 124 ∧ ∃ (F275 : PH), a.defers = [] ∧ PH.le F198 F275 ∧ St n0 h0 F0 F275 σ.h σ.nx [.bx b1 [(i64 a0_0), (.slice pa0_1 (a0_1).length ca0_1), (.slice pa0_2 (a0_2).length ca0_2), (i64 a0_3)]] ∧ a.tmps.get 2 = some (i64 u)) ∨ (∃ u, y = (.inr u) ∧ e = .exit 4 ∧ a.nt = 124 ∧ ∃ (F277 : PH), a.defers = [] ∧ PH.le F198 F277 ∧ St n0 h0 F0 F277 σ.h σ.nx [.bx b1 [(i64 a0_0), (.slice pa0_1 (a0_1).length ca0_1), (.slice pa0_2 (a0_2).length ca0_2), (i64 a0_3)]] ∧ a.tmps.get 1 = some (.ptr (some (b1, 0))) ∧ a.tmps.get 5 = some (i64 x197))) (fun x259 T ds260 h nx s hp hF => ?_) N _ y273 _ _ _ _ hy ⟨F198, rfl, (PH.le.refl _), st, (by repeat first | exact ge_h | refine ge_m rfl ?_ | assumption), (by repeat first | exact ge_h | refine ge_m rfl ?_ | assumption), (by repeat first | exact ge_h | refine ge_m rfl ?_ | assumption)⟩ (fun e a σ hne hq => ?_)
                · obtain ⟨F260, rfl, le260, st, t1, t5, t6⟩ := hp
                  have le261 := PH.le.trans le199 le260
                  have le262 := PH.le.trans le200 le260
                  have le263 := PH.le.trans le201 le260
                  have le264 := PH.le.trans le198 le260
                  unfold sf56_L2 at hF
                  unfold L56w0
                  refine w_seq ?_
                  refine w_seq ?_
                  refine w_reg ?_
                  refine v_move ?_
                  refine v_fa ?_
                  refine v_ld1 (st.at (i := 0) rfl).2.2 rfl ?_
                  refine v_len ?_
                  refine v_lss ?_
                  refine r_nil ?_
                  refine th_n ?_
                  refine v_cond (fun hb278 => ?_) (fun hb278 => ?_)
                  · have hF := bif_t hb278 hF
                    refine w_skip ?_
                    refine th_n ?_
                    refine w_seq ?_
                    refine w_block ?_
                    refine w_seq ?_
                    refine w_drawV (Nat.le_trans hfl st.ext.le) (fun dw => ?_)
                    refine y_pure st.d dw (fun hm vw => v_fa pr_nil) ?_
                    refine y_pure st.d dw (fun hm vw => v_ld1 (vw.bx (st.at (i := 0) rfl)) rfl pr_nil) ?_
                    refine y_pure st.d dw (fun hm vw => v_fa pr_nil) ?_
                    refine y_pure st.d dw (fun hm vw => v_ld1 (vw.bx (st.at (i := 0) rfl)) rfl pr_nil) ?_
                    refine y_pure st.d dw (fun hm vw => v_move pr_nil) ?_
                    obtain ⟨n279, x279, z279, l279, g279, hF⟩ := ix_some hF
                    obtain ⟨b279, o279, s279, j279, r279, e279, f279, k279, ⟨_, _, rfl, rfl, rfl⟩⟩ := RowF.get ra0_1 g279
                    refine y_pure st.d dw (fun hm vw => v_ixp e279 z279 l279 pr_nil) ?_
                    refine y_pure st.d dw (fun hm vw => v_fa pr_nil) ?_
                    refine y_pure st.d dw (fun hm vw => v_ld1 (vw.fz st (le261 _ _ f279)) (take_at (j := 0) k279 rfl) pr_nil) ?_
                    obtain ⟨q280, hF⟩ := ck_some hF
                    refine y_pure st.d dw (fun hm vw => v_add q280 pr_nil) ?_
                    refine y_pure st.d dw (fun hm vw => v_fa pr_nil) ?_
                    refine y_pure st.d dw (fun hm vw => v_ld1 (vw.bx (st.at (i := 0) rfl)) rfl pr_nil) ?_
                    refine y_pure st.d dw (fun hm vw => v_move pr_nil) ?_
                    obtain ⟨n281, x281, z281, l281, g281, hF⟩ := ix_some hF
                    obtain ⟨b281, o281, s281, j281, r281, e281, f281, k281, ⟨_, _, rfl, rfl, ⟨_, _, rfl, rfl, rfl⟩⟩⟩ := RowF.get ra0_2 g281
                    refine y_pure st.d dw (fun hm vw => v_ixp e281 z281 l281 pr_nil) ?_
                    refine y_pure st.d dw (fun hm vw => v_fa pr_nil) ?_
                    refine y_pure st.d dw (fun hm vw => v_fa pr_nil) ?_
                    refine y_pure st.d dw (fun hm vw => v_ld1 (vw.fz st (le261 _ _ f281)) (take_at (j := 1) k281 rfl) pr_nil) ?_
                    refine y_end st.d dw rfl (fun h282 ex vs => ?_)
                    have st := st.ext1 ex
                    obtain ⟨q283, hF⟩ := ck_some hF
                    refine v_add q283 ?_
                    refine v_lss ?_
                    refine r_nil ?_
                    refine th_n ?_
                    refine v_cond (fun hb284 => ?_) (fun hb284 => ?_)
                    · have hF := bif_t hb284 hF
                      refine w_seq ?_
                      refine w_reg ?_
                      refine v_move ?_
                      refine r_nil ?_
                      refine th_n ?_
                      refine w_ret ?_
                      refine ib_r ?_
                      refine th_r ?_
                      refine th_r ?_
                      refine ⟨_, (inj hF).symm, .inl ⟨_, rfl, rfl, rfl, ?_⟩⟩
                      dsimp only
                      exact ⟨F260, rfl, le260, st, (by repeat first | exact ge_h | refine ge_m rfl ?_ | assumption)⟩
                    · have hF := bif_f hb284 hF
                      refine w_skip ?_
                      refine ib_n ?_
                      refine th_n ?_
                      refine w_reg ?_
                      refine v_move ?_
                      obtain ⟨q285, hF⟩ := ck_some hF
                      refine v_add q285 ?_
                      refine v_move ?_
                      refine r_nil ?_
                      refine thn ⟨_, (inj hF).symm, rfl, ?_⟩
                      dsimp only
                      exact ⟨F260, rfl, le260, st, (by repeat first | exact ge_h | refine ge_m rfl ?_ | assumption), (by repeat first | exact ge_h | refine ge_m rfl ?_ | assumption), (by repeat first | exact ge_h | refine ge_m rfl ?_ | assumption)⟩
                  · have hF := bif_f hb278 hF
                    refine w_exit ?_
                    refine th_e ?_
                    refine th_e ?_
                    refine ⟨_, (inj hF).symm, .inr (⟨_, rfl, rfl, rfl, ?_⟩)⟩
                    dsimp only
                    exact ⟨F260, rfl, le260, st, (by repeat first | exact ge_h | refine ge_m rfl ?_ | assumption), (by repeat first | exact ge_h | refine ge_m rfl ?_ | assumption)⟩
                · rcases hq with hq | hq
                  · obtain ⟨N9, T, ds275⟩ := a
                    obtain ⟨h290, n291⟩ := σ
                    obtain ⟨w274, rfl, rfl, e1, F275, e2, le275, st, t2⟩ := hq
                    dsimp only at e1 e2
                    subst e1
                    subst e2
                    dsimp only at st t2
                    have le286 := PH.le.trans le199 le275
                    have le287 := PH.le.trans le200 le275
                    have le288 := PH.le.trans le201 le275
                    have le289 := PH.le.trans le198 le275
                    have hF := sel_l hF
                    refine ib_r ?_
                    refine ib_r ?_
                    refine th_r ?_
                    refine th_r ?_
                    refine ⟨_, (inj hF).symm, .inl ⟨_, rfl, rfl, rfl, ?_⟩⟩
                    dsimp only
                    exact ⟨F275, rfl, le289, st, (by repeat first | exact ge_h | refine ge_m rfl ?_ | assumption)⟩
                  · obtain ⟨N9, T, ds277⟩ := a
                    obtain ⟨h296, n297⟩ := σ
                    obtain ⟨w276, rfl, rfl, e1, F277, e2, le277, st, t1, t5⟩ := hq
                    dsimp only at e1 e2
                    subst e1
                    subst e2
                    dsimp only at st t1 t5
                    have le292 := PH.le.trans le199 le277
                    have le293 := PH.le.trans le200 le277
                    have le294 := PH.le.trans le201 le277
                    have le295 := PH.le.trans le198 le277
                    have hF := sel_r hF
                    refine ib_e ?_
                    refine ib_n ?_
                    refine th_n ?_
                    refine w_reg ?_
                    refine v_move ?_
                    obtain ⟨q298, hF⟩ := ck_some hF
                    refine v_add q298 ?_
                    refine v_move ?_
                    refine r_nil ?_
                    refine thn ⟨_, (inj hF).symm, rfl, ?_⟩
                    dsimp only
                    exact ⟨F277, rfl, le295, st, (by repeat first | exact ge_h | refine ge_m rfl ?_ | assumption), (by repeat first | exact ge_h | refine ge_m rfl ?_ | assumption)⟩
            · have hF := bif_f hb253 hF
              refine w_exit ?_
              refine th_e ?_
              refine th_e ?_
              refine ⟨_, (inj hF).symm, .inr (⟨_, rfl, rfl, rfl, ?_⟩)⟩
              dsimp only
              exact ⟨F198, rfl, le198, st⟩
          · rcases hq with hq | hq
            · obtain ⟨N9, T, ds250⟩ := a
              obtain ⟨h302, n303⟩ := σ
              obtain ⟨w249, rfl, rfl, e1, F250, e2, le250, st, t2⟩ := hq
              dsimp only at e1 e2
              subst e1
              subst e2
              dsimp only at st t2
              have le299 := PH.le.trans le193 le250
              have le300 := PH.le.trans le194 le250
              have le301 := PH.le.trans le143 le250
              have hF := sel_l hF
              refine ib_r ?_
              refine th_r ?_
              obtain rfl := inj hF
              exact end_s st (Res.t (by repeat first | exact ge_h | refine ge_m rfl ?_ | assumption) Res.nil) rfl rfl
            · obtain ⟨N9, T, ds252⟩ := a
              obtain ⟨h307, n308⟩ := σ
              obtain ⟨w251, rfl, rfl, e1, F252, e2, le252, st⟩ := hq
              dsimp only at e1 e2
              subst e1
              subst e2
              dsimp only at st
              have le304 := PH.le.trans le193 le252
              have le305 := PH.le.trans le194 le252
              have le306 := PH.le.trans le143 le252
              have hF := sel_r hF
              refine ib_e ?_
              refine th_n ?_
              refine w_seq ?_
              refine w_reg ?_
              refine v_move ?_
              refine r_nil ?_
              refine th_n ?_
              refine w_ret ?_
              obtain rfl := inj hF
              exact end_s st (Res.t (by repeat first | exact ge_h | refine ge_m rfl ?_ | assumption) Res.nil) rfl rfl
end Go.Hx.V

/- Functions of the program come to that. -/
namespace Go.Hx.V
open Go.Hx
set_option linter.unusedVariables false
set_option maxRecDepth 20000
set_option maxHeartbeats 4000000
attribute [local irreducible] W R C thenH inBlockH
end Go.Hx.V

/- Functions of the program come to that. -/
namespace Go.Hx.V
open Go.Hx
set_option linter.unusedVariables false
set_option maxRecDepth 20000
set_option maxHeartbeats 4000000
attribute [local irreducible] W R C thenH inBlockH
end Go.Hx.V

/- Functions of the program come to that. -/
namespace Go.Hx.V
open Go.Hx
set_option linter.unusedVariables false
set_option maxRecDepth 20000
set_option maxHeartbeats 4000000
attribute [local irreducible] W R C thenH inBlockH
end Go.Hx.V

/- Functions of the program come to that. -/
namespace Go.Hx.V
open Go.Hx
set_option linter.unusedVariables false
set_option maxRecDepth 20000
set_option maxHeartbeats 4000000
attribute [local irreducible] W R C thenH inBlockH
theorem ct77 (N : Nat) {a0_0 : Int} {a0_1 : (List (Int × Int))} {a0_2 : (List (Int × Int × Int))} {a0_3 : Int} {r : Bool} (hF : sf77 N a0_0 a0_1 a0_2 a0_3 = some r) {fl : Nat} {h0 : Tr HBlk} {n0 : Nat} {F0 : PH} (hd : D h0 n0) (hs : F0.sub h0) {pa0_1 : Option (Nat × Nat)} {ca0_1 : Nat} {pa0_2 : Option (Nat × Nat)} {ca0_2 : Nat} (ra0_1 : RowF (rP rI rI) 2 F0 pa0_1 ca0_1 a0_1) (ra0_2 : RowF (rP rI (rP rI rI)) 3 F0 pa0_2 ca0_2 a0_2) : C LW fl 77 [(.agg [(i64 a0_0), (.slice pa0_1 (a0_1).length ca0_1), (.slice pa0_2 (a0_2).length ca0_2), (i64 a0_3)])] ⟨h0, n0⟩ (KS (.bool r) n0 h0) := by
  unfold sf77 at hF
  refine in_cT hd hs lw77 rfl rfl (by rfl) (fun st T hT => ?_)
  have hfl : n0 ≤ n0 := Nat.le_refl n0
  have t0 := hT 0 _ rfl
  dsimp only [L77]
  refine w_seq ?_
  refine w_reg ?_
  refine v_box st (fun b1 h2 n3 st => ?_)
  refine v_move ?_
  refine r_nil ?_
  refine th_n ?_
  refine w_seq ?_
  refine w_reg ?_
  refine v_fa ?_
  refine v_ld1 (st.at (i := 0) rfl).2.2 rfl ?_
  refine v_len ?_
  refine v_gtr ?_
  refine v_move ?_
  rcases Bool.eq_false_or_eq_true (decide ((0 : Int) < ((a0_2).length : Int))) with hb4 | hb4
  · have hF := bif_t hb4 hF
    refine g_take hb4 (v_fa ?_)
    refine g_take hb4 (v_ld1 (st.at (i := 0) rfl).2.2 rfl ?_)
    obtain ⟨n5, x5, z5, l5, g5, hF⟩ := ix_some hF
    obtain ⟨b5, o5, s5, j5, r5, e5, f5, k5, ⟨_, _, rfl, rfl, ⟨_, _, rfl, rfl, rfl⟩⟩⟩ := RowF.get ra0_2 g5
    refine g_take hb4 (v_ixp e5 z5 l5 ?_)
    refine g_take hb4 (v_fa ?_)
    refine g_take hb4 (v_ld1 (st.sub _ _ f5) (take_at (j := 0) k5 rfl) ?_)
    refine g_take hb4 (v_eqi ?_)
    refine v_pick hb4 ?_
    refine v_move ?_
    rcases Bool.eq_false_or_eq_true (decide (x5.1 = (0 : Int))) with hb6 | hb6
    · have hF := bif_t hb6 hF
      refine g_take hb6 (v_fa ?_)
      refine g_take hb6 (v_ld1 (st.at (i := 0) rfl).2.2 rfl ?_)
      obtain ⟨v7, e8, hF⟩ := bnd_some hF
      refine g_take hb6 (v_call st (ct99 N e8 st.d st.sub ra0_2) (fun n9 st => ?_))
      refine v_pick hb6 ?_
      refine v_move ?_
      rcases Bool.eq_false_or_eq_true v7 with hb10 | hb10
      · have hF := bif_t hb10 hF
        refine g_take hb10 (v_fa ?_)
        refine g_take hb10 (v_ld1 (st.at (i := 0) rfl).2.2 rfl ?_)
        obtain ⟨v11, e12, hF⟩ := bnd_some hF
        refine g_take hb10 (v_call st (ct101 N e12 st.d st.sub ra0_2) (fun n13 st => ?_))
        refine v_pick hb10 ?_
        refine v_move ?_
        refine r_nil ?_
        refine th_n ?_
        refine w_ret ?_
        obtain rfl := inj hF
        exact end_s st (Res.t (by repeat first | exact ge_h | refine ge_m rfl ?_ | assumption) Res.nil) rfl rfl
      · have hF := bif_f hb10 hF
        refine g_skip hb10 ?_
        refine g_skip hb10 ?_
        refine g_skip hb10 ?_
        refine v_pick' hb10 ?_
        refine v_move ?_
        refine r_nil ?_
        refine th_n ?_
        refine w_ret ?_
        obtain rfl := inj hF
        exact end_s st (Res.t (by repeat first | exact ge_h | refine ge_m rfl ?_ | assumption) Res.nil) rfl rfl
    · have hF := bif_f hb6 hF
      refine g_skip hb6 ?_
      refine g_skip hb6 ?_
      refine g_skip hb6 ?_
      refine v_pick' hb6 ?_
      refine v_move ?_
      refine g_skip rfl ?_
      refine g_skip rfl ?_
      refine g_skip rfl ?_
      refine v_pick' rfl ?_
      refine v_move ?_
      refine r_nil ?_
      refine th_n ?_
      refine w_ret ?_
      obtain rfl := inj hF
      exact end_s st (Res.t (by repeat first | exact ge_h | refine ge_m rfl ?_ | assumption) Res.nil) rfl rfl
  · have hF := bif_f hb4 hF
    refine g_skip hb4 ?_
    refine g_skip hb4 ?_
    refine g_skip hb4 ?_
    refine g_skip hb4 ?_
    refine g_skip hb4 ?_
    refine g_skip hb4 ?_
    refine v_pick' hb4 ?_
    refine v_move ?_
    refine g_skip rfl ?_
    refine g_skip rfl ?_
    refine g_skip rfl ?_
    refine v_pick' rfl ?_
    refine v_move ?_
    refine g_skip rfl ?_
    refine g_skip rfl ?_
    refine g_skip rfl ?_
    refine v_pick' rfl ?_
    refine v_move ?_
    refine r_nil ?_
    refine th_n ?_
    refine w_ret ?_
    obtain rfl := inj hF
    exact end_s st (Res.t (by repeat first | exact ge_h | refine ge_m rfl ?_ | assumption) Res.nil) rfl rfl
theorem ct23 (N : Nat) {a0_0 : Int} {a0_1 : (List (Int × Int))} {a0_2 : (List (Int × Int × Int))} {a0_3 : Int} {r : Int} (hF : sf23 N a0_0 a0_1 a0_2 a0_3 = some r) {fl : Nat} {h0 : Tr HBlk} {n0 : Nat} {F0 : PH} (hd : D h0 n0) (hs : F0.sub h0) {pa0_1 : Option (Nat × Nat)} {ca0_1 : Nat} {pa0_2 : Option (Nat × Nat)} {ca0_2 : Nat} (ra0_1 : RowF (rP rI rI) 2 F0 pa0_1 ca0_1 a0_1) (ra0_2 : RowF (rP rI (rP rI rI)) 3 F0 pa0_2 ca0_2 a0_2) : C LW fl 23 [(.agg [(i64 a0_0), (.slice pa0_1 (a0_1).length ca0_1), (.slice pa0_2 (a0_2).length ca0_2), (i64 a0_3)])] ⟨h0, n0⟩ (KS (i64 r) n0 h0) := by
  unfold sf23 at hF
  refine in_cT hd hs lw23 rfl rfl (by rfl) (fun st T hT => ?_)
  have hfl : n0 ≤ n0 := Nat.le_refl n0
  have t0 := hT 0 _ rfl
  dsimp only [L23]
  refine w_seq ?_
  refine w_reg ?_
  refine v_box st (fun b1 h2 n3 st => ?_)
  refine v_move ?_
  refine r_nil ?_
  refine th_n ?_
  refine w_seq ?_
  refine w_reg ?_
  refine v_ldn (vs := [(i64 a0_0), (.slice pa0_1 (a0_1).length ca0_1), (.slice pa0_2 (a0_2).length ca0_2), (i64 a0_3)]) (st.at (i := 0) rfl).2.2 rfl ?_
  obtain ⟨v4, e5, hF⟩ := bnd_some hF
  refine v_call st (ct56 N e5 st.d st.sub ra0_1 ra0_2) (fun n6 st => ?_)
  refine v_move ?_
  refine r_nil ?_
  refine th_n ?_
  refine w_ret ?_
  obtain rfl := inj hF
  exact end_s st (Res.t (by repeat first | exact ge_h | refine ge_m rfl ?_ | assumption) Res.nil) rfl rfl
end Go.Hx.V

/- Functions of the program come to that. -/
namespace Go.Hx.V
open Go.Hx
set_option linter.unusedVariables false
set_option maxRecDepth 20000
set_option maxHeartbeats 4000000
attribute [local irreducible] W R C thenH inBlockH
theorem ct52 (N : Nat) {a0_0 : Int} {a0_1 : (List (Int × Int))} {a0_2 : (List (Int × Int × Int))} {a0_3 : Int} {a1_0 : (List Int)} {a1_1 : (List Int)} {r : Bool} (hF : sf52 N a0_0 a0_1 a0_2 a0_3 a1_0 a1_1 = some r) {fl : Nat} {h0 : Tr HBlk} {n0 : Nat} {F0 : PH} (hd : D h0 n0) (hs : F0.sub h0) {pa0_1 : Option (Nat × Nat)} {ca0_1 : Nat} {pa0_2 : Option (Nat × Nat)} {ca0_2 : Nat} {pa1_0 : Option (Nat × Nat)} {ca1_0 : Nat} {pa1_1 : Option (Nat × Nat)} {ca1_1 : Nat} (ra0_1 : RowF (rP rI rI) 2 F0 pa0_1 ca0_1 a0_1) (ra0_2 : RowF (rP rI (rP rI rI)) 3 F0 pa0_2 ca0_2 a0_2) (ra1_0 : RowF rI 1 F0 pa1_0 ca1_0 a1_0) (ra1_1 : RowF rI 1 F0 pa1_1 ca1_1 a1_1) : C LW fl 52 [(.agg [(i64 a0_0), (.slice pa0_1 (a0_1).length ca0_1), (.slice pa0_2 (a0_2).length ca0_2), (i64 a0_3)]), (.agg [(.slice pa1_0 (a1_0).length ca1_0), (.slice pa1_1 (a1_1).length ca1_1)])] ⟨h0, n0⟩ (KS (.bool r) n0 h0) := by
  unfold sf52 at hF
  refine in_cT hd hs lw52 rfl rfl (by rfl) (fun st T hT => ?_)
  have hfl : n0 ≤ n0 := Nat.le_refl n0
  have t0 := hT 0 _ rfl
  have t1 := hT 1 _ rfl
  dsimp only [L52]
  refine w_seq ?_
  refine w_reg ?_
  refine v_box st (fun b1 h2 n3 st => ?_)
  refine v_box st (fun b4 h5 n6 st => ?_)
  refine v_move ?_
  refine r_nil ?_
  refine th_n ?_
  obtain ⟨y14, hA15, hF⟩ := bnd_some hF
  refine w_cutD (fun T ds20 h nx => ∃ u, y14 = (.inr u) ∧ ∃ (F20 : PH), ds20 = [] ∧ PH.le F0 F20 ∧ St n0 h0 F0 F20 h nx [.bx b1 [(i64 a0_0), (.slice pa0_1 (a0_1).length ca0_1), (.slice pa0_2 (a0_2).length ca0_2), (i64 a0_3)], .bx b4 [(.slice pa1_0 (a1_0).length ca1_0), (.slice pa1_1 (a1_1).length ca1_1)]] ∧ T.get 2 = some (.ptr (some (b1, 0))) ∧ T.get 3 = some (.ptr (some (b4, 0)))) ?_ (fun T ds20 h nx hp => ?_)
  · have hK16 := hF
    have hF := hA15
    obtain ⟨y22, hA23, hF⟩ := bnd_some hF
    refine w_cutD (fun T ds25 h nx => ∃ (F25 : PH), ds25 = [] ∧ PH.le F0 F25 ∧ St n0 h0 F0 F25 h nx [.bx b1 [(i64 a0_0), (.slice pa0_1 (a0_1).length ca0_1), (.slice pa0_2 (a0_2).length ca0_2), (i64 a0_3)], .bx b4 [(.slice pa1_0 (a1_0).length ca1_0), (.slice pa1_1 (a1_1).length ca1_1)]] ∧ T.get 2 = some (.ptr (some (b1, 0))) ∧ T.get 3 = some (.ptr (some (b4, 0))) ∧ T.get 24 = some (.bool y22)) ?_ (fun T ds25 h nx hp => ?_)
    · have hK24 := hF
      have hF := hA23
      refine w_reg ?_
      refine v_fa ?_
      refine v_ld1 (st.at (i := 1) rfl).2.2 rfl ?_
      refine v_len ?_
      refine v_fa ?_
      refine v_ld1 (st.at (i := 0) rfl).2.2 rfl ?_
      refine v_len ?_
      refine v_nei ?_
      refine v_move ?_
      rcases Bool.eq_false_or_eq_true (!(decide (((a1_0).length : Int) = ((a0_1).length : Int)))) with hb26 | hb26
      · have hF := bif_t hb26 hF
        refine g_skip hb26 ?_
        refine g_skip hb26 ?_
        refine g_skip hb26 ?_
        refine g_skip hb26 ?_
        refine g_skip hb26 ?_
        refine g_skip hb26 ?_
        refine g_skip hb26 ?_
        refine v_pick hb26 ?_
        refine r_nil ?_
        obtain rfl := inj hF
        refine thn ⟨rfl, ?_⟩
        dsimp only
        exact ⟨F0, rfl, (PH.le.refl _), st, (by repeat first | exact ge_h | refine ge_m rfl ?_ | assumption), (by repeat first | exact ge_h | refine ge_m rfl ?_ | assumption), (by repeat first | exact ge_h | refine ge_m rfl ?_ | assumption)⟩
      · have hF := bif_f hb26 hF
        refine g_take hb26 (v_fa ?_)
        refine g_take hb26 (v_ld1 (st.at (i := 1) rfl).2.2 rfl ?_)
        refine g_take hb26 (v_len ?_)
        refine g_take hb26 (v_fa ?_)
        refine g_take hb26 (v_ld1 (st.at (i := 0) rfl).2.2 rfl ?_)
        refine g_take hb26 (v_len ?_)
        refine g_take hb26 (v_nei ?_)
        refine v_pick' hb26 ?_
        refine r_nil ?_
        obtain rfl := inj hF
        refine thn ⟨rfl, ?_⟩
        dsimp only
        exact ⟨F0, rfl, (PH.le.refl _), st, (by repeat first | exact ge_h | refine ge_m rfl ?_ | assumption), (by repeat first | exact ge_h | refine ge_m rfl ?_ | assumption), (by repeat first | exact ge_h | refine ge_m rfl ?_ | assumption)⟩
    · obtain ⟨F25, rfl, le25, st, t2, t3, t24⟩ := hp
      refine v_cond (fun hb27 => ?_) (fun hb27 => ?_)
      · have hF := bif_t hb27 hF
        refine w_seq ?_
        refine w_reg ?_
        refine v_move ?_
        refine r_nil ?_
        refine th_n ?_
        refine w_ret ?_
        obtain rfl := inj hF
        have hF := hK16
        have hF := sel_l hF
        refine th_r ?_
        obtain rfl := inj hF
        exact end_s st (Res.t (by repeat first | exact ge_h | refine ge_m rfl ?_ | assumption) Res.nil) rfl rfl
      · have hF := bif_f hb27 hF
        refine w_skip ?_
        obtain rfl := inj hF
        refine thn ⟨rfl, _, rfl, ?_⟩
        dsimp only
        exact ⟨F25, rfl, le25, st, (by repeat first | exact ge_h | refine ge_m rfl ?_ | assumption), (by repeat first | exact ge_h | refine ge_m rfl ?_ | assumption)⟩
  · obtain ⟨w19, rfl, F20, rfl, le20, st, t2, t3⟩ := hp
    have hF := sel_r hF
    refine w_seq ?_
    refine w_seq ?_
    refine w_reg ?_
    refine v_fa ?_
    refine v_ld1 (st.at (i := 0) rfl).2.2 rfl ?_
    refine v_len ?_
    refine v_move ?_
    refine r_nil ?_
    refine th_n ?_
    refine w_block ?_
    obtain ⟨y44, hy, hF⟩ := bnd_some hF
    refine v_loopD (sf52_L1 N a0_1 a1_0) (fun x28 T ds29 h nx => ∃ (F29 : PH), ds29 = [] ∧ PH.le F20 F29 ∧ St n0 h0 F0 F29 h nx [.bx b1 [(i64 a0_0), (.slice pa0_1 (a0_1).length ca0_1), (.slice pa0_2 (a0_2).length ca0_2), (i64 a0_3)], .bx b4 [(.slice pa1_0 (a1_0).length ca1_0), (.slice pa1_1 (a1_1).length ca1_1)]] ∧ T.get 2 = some (.ptr (some (b1, 0))) ∧ T.get 3 = some (.ptr (some (b4, 0))) ∧ T.get 26 = some (.slice pa0_1 (a0_1).length ca0_1) ∧ T.get 27 = some (i64 ((a0_1).length : Int)) ∧ T.get 28 = some (i64 x28)) (fun y e a σ => (∃ u, y = (.inl u) ∧ e = .ret ∧ a.nt = 60 ∧ ∃ (F46 : PH), a.defers = [] ∧ PH.le F20 F46 ∧ St n0 h0 F0 F46 σ.h σ.nx [.bx b1 [(i64 a0_0), (.slice pa0_1 (a0_1).length ca0_1), (.slice pa0_2 (a0_2).length ca0_2), (i64 a0_3)], .bx b4 [(.slice pa1_0 (a1_0).length ca1_0), (.slice pa1_1 (a1_1).length ca1_1)]] ∧ a.tmps.get 4 = some (.bool false)) ∨ (∃ u, y = (.inr u) ∧ e = .exit 0 ∧ a.nt = 60 ∧ ∃ (F48 : PH), a.defers = [] ∧ PH.le F20 F48 ∧ St n0 h0 F0 F48 σ.h σ.nx [.bx b1 [(i64 a0_0), (.slice pa0_1 (a0_1).length ca0_1), (.slice pa0_2 (a0_2).length ca0_2), (i64 a0_3)], .bx b4 [(.slice pa1_0 (a1_0).length ca1_0), (.slice pa1_1 (a1_1).length ca1_1)]] ∧ a.tmps.get 2 = some (.ptr (some (b1, 0))) ∧ a.tmps.get 3 = some (.ptr (some (b4, 0))))) (fun x28 T ds29 h nx s hp hF => ?_) N _ y44 _ _ _ _ hy ⟨F20, rfl, (PH.le.refl _), st, (by repeat first | exact ge_h | refine ge_m rfl ?_ | assumption), (by repeat first | exact ge_h | refine ge_m rfl ?_ | assumption), (by repeat first | exact ge_h | refine ge_m rfl ?_ | assumption), (by repeat first | exact ge_h | refine ge_m rfl ?_ | assumption), (by repeat first | exact ge_h | refine ge_m rfl ?_ | assumption)⟩ (fun e a σ hne hq => ?_)
    · obtain ⟨F29, rfl, le29, st, t2, t3, t26, t27, t28⟩ := hp
      have le30 := PH.le.trans le20 le29
      unfold sf52_L1 at hF
      unfold L52w1
      refine w_seq ?_
      refine w_reg ?_
      refine v_lss ?_
      refine r_nil ?_
      refine th_n ?_
      refine w_seq ?_
      refine v_cond (fun hb49 => ?_) (fun hb49 => ?_)
      · have hF := bif_t hb49 hF
        refine w_skip ?_
        refine th_n ?_
        refine w_seq ?_
        refine w_block ?_
        refine w_seq ?_
        refine w_reg ?_
        refine v_move ?_
        obtain ⟨n50, x50, z50, l50, g50, hF⟩ := ix_some hF
        obtain ⟨b50, o50, s50, j50, r50, e50, f50, k50, ⟨_, _, rfl, rfl, rfl⟩⟩ := RowF.get ra0_1 g50
        refine v_ixp e50 z50 l50 ?_
        refine v_ldn (st.sub _ _ (le30 _ _ f50)) k50 ?_
        refine v_alloc st (fun b51 h52 n53 st => ?_)
        refine v_move ?_
        refine v_st (cs' := [(i64 x50.1), (i64 x50.2)]) st 2 rfl rfl rfl rfl hfl (fun h54 st => ?_)
        refine r_nil ?_
        refine th_n ?_
        refine w_seq ?_
        refine w_drawV (Nat.le_trans hfl st.ext.le) (fun dw => ?_)
        refine y_pure st.d dw (fun hm vw => v_ldn (vs := [(i64 x50.1), (i64 x50.2)]) (vw.bx (st.at (i := 2) rfl)) rfl pr_nil) ?_
        refine y_pure st.d dw (fun hm vw => v_fa pr_nil) ?_
        refine y_pure st.d dw (fun hm vw => v_ld1 (vw.bx (st.at (i := 1) rfl)) rfl pr_nil) ?_
        refine y_pure st.d dw (fun hm vw => v_move pr_nil) ?_
        obtain ⟨n55, x55, z55, l55, g55, hF⟩ := ix_some hF
        obtain ⟨b55, o55, s55, j55, r55, e55, f55, k55, rfl⟩ := RowF.get ra1_0 g55
        refine y_pure st.d dw (fun hm vw => v_ixp e55 z55 l55 pr_nil) ?_
        refine y_pure st.d dw (fun hm vw => v_ld1 (vw.fz st (le30 _ _ f55)) (take_at (j := 0) k55 rfl) pr_nil) ?_
        refine y_end st.d dw rfl (fun h56 ex vs => ?_)
        have st := st.ext1 ex
        obtain ⟨v57, e58, hF⟩ := bnd_some hF
        refine v_call st (ct80 N e58 st.d st.sub ) (fun n59 st => ?_)
        refine v_not ?_
        refine r_nil ?_
        refine th_n ?_
        refine v_cond (fun hb60 => ?_) (fun hb60 => ?_)
        · have hF := bif_t hb60 hF
          refine w_seq ?_
          refine w_reg ?_
          refine v_move ?_
          refine r_nil ?_
          refine th_n ?_
          refine w_ret ?_
          refine ib_r ?_
          refine th_r ?_
          refine th_r ?_
          refine ⟨_, (inj hF).symm, .inl ⟨_, rfl, rfl, rfl, ?_⟩⟩
          dsimp only
          exact ⟨F29, rfl, le29, (st.drop (by first | exact List.Sublist.refl _ | (repeat first | exact List.nil_sublist _ | refine List.Sublist.cons_cons _ ?_ | refine List.Sublist.cons _ ?_))), (by repeat first | exact ge_h | refine ge_m rfl ?_ | assumption)⟩
        · have hF := bif_f hb60 hF
          refine w_skip ?_
          refine ib_n ?_
          refine th_n ?_
          refine w_reg ?_
          obtain ⟨q61, hF⟩ := ck_some hF
          refine v_add q61 ?_
          refine v_move ?_
          refine r_nil ?_
          refine thn ⟨_, (inj hF).symm, rfl, ?_⟩
          dsimp only
          exact ⟨F29, rfl, le29, (st.drop (by first | exact List.Sublist.refl _ | (repeat first | exact List.nil_sublist _ | refine List.Sublist.cons_cons _ ?_ | refine List.Sublist.cons _ ?_))), (by repeat first | exact ge_h | refine ge_m rfl ?_ | assumption), (by repeat first | exact ge_h | refine ge_m rfl ?_ | assumption), (by repeat first | exact ge_h | refine ge_m rfl ?_ | assumption), (by repeat first | exact ge_h | refine ge_m rfl ?_ | assumption), (by repeat first | exact ge_h | refine ge_m rfl ?_ | assumption)⟩
      · have hF := bif_f hb49 hF
        refine w_exit ?_
        refine th_e ?_
        refine th_e ?_
        refine ⟨_, (inj hF).symm, .inr (⟨_, rfl, rfl, rfl, ?_⟩)⟩
        dsimp only
        exact ⟨F29, rfl, le29, st, (by repeat first | exact ge_h | refine ge_m rfl ?_ | assumption), (by repeat first | exact ge_h | refine ge_m rfl ?_ | assumption)⟩
    · rcases hq with hq | hq
      · obtain ⟨N9, T, ds46⟩ := a
        obtain ⟨h63, n64⟩ := σ
        obtain ⟨w45, rfl, rfl, e1, F46, e2, le46, st, t4⟩ := hq
        dsimp only at e1 e2
        subst e1
        subst e2
        dsimp only at st t4
        have le62 := PH.le.trans le20 le46
        have hF := sel_l hF
        refine ib_r ?_
        refine th_r ?_
        obtain rfl := inj hF
        exact end_s st (Res.t (by repeat first | exact ge_h | refine ge_m rfl ?_ | assumption) Res.nil) rfl rfl
      · obtain ⟨N9, T, ds48⟩ := a
        obtain ⟨h66, n67⟩ := σ
        obtain ⟨w47, rfl, rfl, e1, F48, e2, le48, st, t2, t3⟩ := hq
        dsimp only at e1 e2
        subst e1
        subst e2
        dsimp only at st t2 t3
        have le65 := PH.le.trans le20 le48
        have hF := sel_r hF
        refine ib_e ?_
        refine th_n ?_
        refine w_seq ?_
        refine w_seq ?_
        refine w_reg ?_
        refine v_fa ?_
        refine v_ld1 (st.at (i := 0) rfl).2.2 rfl ?_
        refine v_len ?_
        refine v_move ?_
        refine r_nil ?_
        refine th_n ?_
        refine w_block ?_
        obtain ⟨y85, hy, hF⟩ := bnd_some hF
        refine v_loopD (sf52_L2 N a0_2 a1_1) (fun x68 T ds69 h nx => ∃ (F69 : PH), ds69 = [] ∧ PH.le F48 F69 ∧ St n0 h0 F0 F69 h nx [.bx b1 [(i64 a0_0), (.slice pa0_1 (a0_1).length ca0_1), (.slice pa0_2 (a0_2).length ca0_2), (i64 a0_3)], .bx b4 [(.slice pa1_0 (a1_0).length ca1_0), (.slice pa1_1 (a1_1).length ca1_1)]] ∧ T.get 3 = some (.ptr (some (b4, 0))) ∧ T.get 43 = some (.slice pa0_2 (a0_2).length ca0_2) ∧ T.get 44 = some (i64 ((a0_2).length : Int)) ∧ T.get 45 = some (i64 x68)) (fun y e a σ => (∃ u, y = (.inl u) ∧ e = .ret ∧ a.nt = 60 ∧ ∃ (F87 : PH), a.defers = [] ∧ PH.le F48 F87 ∧ St n0 h0 F0 F87 σ.h σ.nx [.bx b1 [(i64 a0_0), (.slice pa0_1 (a0_1).length ca0_1), (.slice pa0_2 (a0_2).length ca0_2), (i64 a0_3)], .bx b4 [(.slice pa1_0 (a1_0).length ca1_0), (.slice pa1_1 (a1_1).length ca1_1)]] ∧ a.tmps.get 4 = some (.bool false)) ∨ (∃ u, y = (.inr u) ∧ e = .exit 2 ∧ a.nt = 60 ∧ ∃ (F89 : PH), a.defers = [] ∧ PH.le F48 F89 ∧ St n0 h0 F0 F89 σ.h σ.nx [.bx b1 [(i64 a0_0), (.slice pa0_1 (a0_1).length ca0_1), (.slice pa0_2 (a0_2).length ca0_2), (i64 a0_3)], .bx b4 [(.slice pa1_0 (a1_0).length ca1_0), (.slice pa1_1 (a1_1).length ca1_1)]])) (fun x68 T ds69 h nx s hp hF => ?_) N _ y85 _ _ _ _ hy ⟨F48, rfl, (PH.le.refl _), st, (by repeat first | exact ge_h | refine ge_m rfl ?_ | assumption), (by repeat first | exact ge_h | refine ge_m rfl ?_ | assumption), (by repeat first | exact ge_h | refine ge_m rfl ?_ | assumption), (by repeat first | exact ge_h | refine ge_m rfl ?_ | assumption)⟩ (fun e a σ hne hq => ?_)
        · obtain ⟨F69, rfl, le69, st, t3, t43, t44, t45⟩ := hp
          have le70 := PH.le.trans le65 le69
          have le71 := PH.le.trans le48 le69
          unfold sf52_L2 at hF
          unfold L52w0
          refine w_seq ?_
          refine w_reg ?_
          refine v_lss ?_
          refine r_nil ?_
          refine th_n ?_
          refine w_seq ?_
          refine v_cond (fun hb90 => ?_) (fun hb90 => ?_)
          · have hF := bif_t hb90 hF
            refine w_skip ?_
            refine th_n ?_
            refine w_seq ?_
            refine w_block ?_
            refine w_seq ?_
            refine w_reg ?_
            refine v_move ?_
            obtain ⟨n91, x91, z91, l91, g91, hF⟩ := ix_some hF
            obtain ⟨b91, o91, s91, j91, r91, e91, f91, k91, ⟨_, _, rfl, rfl, ⟨_, _, rfl, rfl, rfl⟩⟩⟩ := RowF.get ra0_2 g91
            refine v_ixp e91 z91 l91 ?_
            refine v_ldn (st.sub _ _ (le70 _ _ f91)) k91 ?_
            refine v_alloc st (fun b92 h93 n94 st => ?_)
            refine v_move ?_
            refine v_st (cs' := [(i64 x91.1), (i64 x91.2.1), (i64 x91.2.2)]) st 2 rfl rfl rfl rfl hfl (fun h95 st => ?_)
            refine r_nil ?_
            refine th_n ?_
            refine w_seq ?_
            refine w_drawV (Nat.le_trans hfl st.ext.le) (fun dw => ?_)
            refine y_pure st.d dw (fun hm vw => v_fa pr_nil) ?_
            refine y_pure st.d dw (fun hm vw => v_ldn (vs := [(i64 x91.2.1), (i64 x91.2.2)]) (vw.bx (st.at (i := 2) rfl)) rfl pr_nil) ?_
            refine y_pure st.d dw (fun hm vw => v_fa pr_nil) ?_
            refine y_pure st.d dw (fun hm vw => v_ld1 (vw.bx (st.at (i := 1) rfl)) rfl pr_nil) ?_
            refine y_pure st.d dw (fun hm vw => v_move pr_nil) ?_
            obtain ⟨n96, x96, z96, l96, g96, hF⟩ := ix_some hF
            obtain ⟨b96, o96, s96, j96, r96, e96, f96, k96, rfl⟩ := RowF.get ra1_1 g96
            refine y_pure st.d dw (fun hm vw => v_ixp e96 z96 l96 pr_nil) ?_
            refine y_pure st.d dw (fun hm vw => v_ld1 (vw.fz st (le70 _ _ f96)) (take_at (j := 0) k96 rfl) pr_nil) ?_
            refine y_end st.d dw rfl (fun h97 ex vs => ?_)
            have st := st.ext1 ex
            obtain ⟨v98, e99, hF⟩ := bnd_some hF
            refine v_call st (ct80 N e99 st.d st.sub ) (fun n100 st => ?_)
            refine v_not ?_
            refine r_nil ?_
            refine th_n ?_
            refine v_cond (fun hb101 => ?_) (fun hb101 => ?_)
            · have hF := bif_t hb101 hF
              refine w_seq ?_
              refine w_reg ?_
              refine v_move ?_
              refine r_nil ?_
              refine th_n ?_
              refine w_ret ?_
              refine ib_r ?_
              refine th_r ?_
              refine th_r ?_
              refine ⟨_, (inj hF).symm, .inl ⟨_, rfl, rfl, rfl, ?_⟩⟩
              dsimp only
              exact ⟨F69, rfl, le69, (st.drop (by first | exact List.Sublist.refl _ | (repeat first | exact List.nil_sublist _ | refine List.Sublist.cons_cons _ ?_ | refine List.Sublist.cons _ ?_))), (by repeat first | exact ge_h | refine ge_m rfl ?_ | assumption)⟩
            · have hF := bif_f hb101 hF
              refine w_skip ?_
              refine ib_n ?_
              refine th_n ?_
              refine w_reg ?_
              obtain ⟨q102, hF⟩ := ck_some hF
              refine v_add q102 ?_
              refine v_move ?_
              refine r_nil ?_
              refine thn ⟨_, (inj hF).symm, rfl, ?_⟩
              dsimp only
              exact ⟨F69, rfl, le69, (st.drop (by first | exact List.Sublist.refl _ | (repeat first | exact List.nil_sublist _ | refine List.Sublist.cons_cons _ ?_ | refine List.Sublist.cons _ ?_))), (by repeat first | exact ge_h | refine ge_m rfl ?_ | assumption), (by repeat first | exact ge_h | refine ge_m rfl ?_ | assumption), (by repeat first | exact ge_h | refine ge_m rfl ?_ | assumption), (by repeat first | exact ge_h | refine ge_m rfl ?_ | assumption)⟩
          · have hF := bif_f hb90 hF
            refine w_exit ?_
            refine th_e ?_
            refine th_e ?_
            refine ⟨_, (inj hF).symm, .inr (⟨_, rfl, rfl, rfl, ?_⟩)⟩
            dsimp only
            exact ⟨F69, rfl, le69, st⟩
        · rcases hq with hq | hq
          · obtain ⟨N9, T, ds87⟩ := a
            obtain ⟨h105, n106⟩ := σ
            obtain ⟨w86, rfl, rfl, e1, F87, e2, le87, st, t4⟩ := hq
            dsimp only at e1 e2
            subst e1
            subst e2
            dsimp only at st t4
            have le103 := PH.le.trans le65 le87
            have le104 := PH.le.trans le48 le87
            have hF := sel_l hF
            refine ib_r ?_
            refine th_r ?_
            obtain rfl := inj hF
            exact end_s st (Res.t (by repeat first | exact ge_h | refine ge_m rfl ?_ | assumption) Res.nil) rfl rfl
          · obtain ⟨N9, T, ds89⟩ := a
            obtain ⟨h109, n110⟩ := σ
            obtain ⟨w88, rfl, rfl, e1, F89, e2, le89, st⟩ := hq
            dsimp only at e1 e2
            subst e1
            subst e2
            dsimp only at st
            have le107 := PH.le.trans le65 le89
            have le108 := PH.le.trans le48 le89
            have hF := sel_r hF
            refine ib_e ?_
            refine th_n ?_
            refine w_seq ?_
            refine w_reg ?_
            refine v_move ?_
            refine r_nil ?_
            refine th_n ?_
            refine w_ret ?_
            obtain rfl := inj hF
            exact end_s st (Res.t (by repeat first | exact ge_h | refine ge_m rfl ?_ | assumption) Res.nil) rfl rfl
end Go.Hx.V

/- Functions of the program come to that. -/
namespace Go.Hx.V
open Go.Hx
set_option linter.unusedVariables false
set_option maxRecDepth 20000
set_option maxHeartbeats 4000000
attribute [local irreducible] W R C thenH inBlockH
end Go.Hx.V

/- Functions of the program come to that. -/
namespace Go.Hx.V
open Go.Hx
set_option linter.unusedVariables false
set_option maxRecDepth 20000
set_option maxHeartbeats 4000000
attribute [local irreducible] W R C thenH inBlockH
end Go.Hx.V

/- Functions of the program come to that. -/
namespace Go.Hx.V
open Go.Hx
set_option linter.unusedVariables false
set_option maxRecDepth 20000
set_option maxHeartbeats 4000000
attribute [local irreducible] W R C thenH inBlockH
theorem ct50 (N : Nat) {a0_0 : Int} {a0_1 : (List (Int × Int))} {a0_2 : (List (Int × Int × Int))} {a0_3 : Int} {r : Bool} (hF : sf50 N a0_0 a0_1 a0_2 a0_3 = some r) {fl : Nat} {h0 : Tr HBlk} {n0 : Nat} {F0 : PH} (hd : D h0 n0) (hs : F0.sub h0) {pa0_1 : Option (Nat × Nat)} {ca0_1 : Nat} {pa0_2 : Option (Nat × Nat)} {ca0_2 : Nat} (ra0_1 : RowF (rP rI rI) 2 F0 pa0_1 ca0_1 a0_1) (ra0_2 : RowF (rP rI (rP rI rI)) 3 F0 pa0_2 ca0_2 a0_2) : C LW fl 50 [(.agg [(i64 a0_0), (.slice pa0_1 (a0_1).length ca0_1), (.slice pa0_2 (a0_2).length ca0_2), (i64 a0_3)])] ⟨h0, n0⟩ (KS (.bool r) n0 h0) := by
  unfold sf50 at hF
  refine in_cT hd hs lw50 rfl rfl (by rfl) (fun st T hT => ?_)
  have hfl : n0 ≤ n0 := Nat.le_refl n0
  have t0 := hT 0 _ rfl
  dsimp only [L50]
  refine w_seq ?_
  refine w_reg ?_
  refine v_box st (fun b1 h2 n3 st => ?_)
  refine v_move ?_
  refine r_nil ?_
  refine th_n ?_
  refine w_seq ?_
  refine w_reg ?_
  refine v_fa ?_
  refine v_ld1 (st.at (i := 0) rfl).2.2 rfl ?_
  refine v_leq ?_
  refine v_move ?_
  rcases Bool.eq_false_or_eq_true (decide ((1 : Int) ≤ a0_0)) with hb4 | hb4
  · have hF := bif_t hb4 hF
    refine g_take hb4 (v_fa ?_)
    refine g_take hb4 (v_ld1 (st.at (i := 0) rfl).2.2 rfl ?_)
    refine g_take hb4 (v_leq ?_)
    refine v_pick hb4 ?_
    refine v_move ?_
    rcases Bool.eq_false_or_eq_true (decide (a0_0 ≤ (50 : Int))) with hb5 | hb5
    · have hF := bif_t hb5 hF
      refine g_take hb5 (v_fa ?_)
      refine g_take hb5 (v_ld1 (st.at (i := 0) rfl).2.2 rfl ?_)
      refine g_take hb5 (v_leq ?_)
      refine v_pick hb5 ?_
      refine v_move ?_
      rcases Bool.eq_false_or_eq_true (decide ((1 : Int) ≤ a0_3)) with hb6 | hb6
      · have hF := bif_t hb6 hF
        refine g_take hb6 (v_fa ?_)
        refine g_take hb6 (v_ld1 (st.at (i := 0) rfl).2.2 rfl ?_)
        refine g_take hb6 (v_leq ?_)
        refine v_pick hb6 ?_
        refine v_move ?_
        rcases Bool.eq_false_or_eq_true (decide (a0_3 ≤ (60 : Int))) with hb7 | hb7
        · have hF := bif_t hb7 hF
          refine g_take hb7 (v_ldn (vs := [(i64 a0_0), (.slice pa0_1 (a0_1).length ca0_1), (.slice pa0_2 (a0_2).length ca0_2), (i64 a0_3)]) (st.at (i := 0) rfl).2.2 rfl ?_)
          obtain ⟨v8, e9, hF⟩ := bnd_some hF
          refine g_take hb7 (v_call st (ct76 N e9 st.d st.sub ra0_1 ra0_2) (fun n10 st => ?_))
          refine v_pick hb7 ?_
          refine v_move ?_
          rcases Bool.eq_false_or_eq_true v8 with hb11 | hb11
          · have hF := bif_t hb11 hF
            refine g_take hb11 (v_ldn (vs := [(i64 a0_0), (.slice pa0_1 (a0_1).length ca0_1), (.slice pa0_2 (a0_2).length ca0_2), (i64 a0_3)]) (st.at (i := 0) rfl).2.2 rfl ?_)
            obtain ⟨v12, e13, hF⟩ := bnd_some hF
            refine g_take hb11 (v_call st (ct77 N e13 st.d st.sub ra0_1 ra0_2) (fun n14 st => ?_))
            refine v_pick hb11 ?_
            refine v_move ?_
            rcases Bool.eq_false_or_eq_true v12 with hb15 | hb15
            · have hF := bif_t hb15 hF
              refine g_take hb15 (v_ldn (vs := [(i64 a0_0), (.slice pa0_1 (a0_1).length ca0_1), (.slice pa0_2 (a0_2).length ca0_2), (i64 a0_3)]) (st.at (i := 0) rfl).2.2 rfl ?_)
              obtain ⟨v16, e17, hF⟩ := bnd_some hF
              refine g_take hb15 (v_call st (ct78 N e17 st.d st.sub ra0_1 ra0_2) (fun n18 st => ?_))
              refine v_pick hb15 ?_
              refine v_move ?_
              refine r_nil ?_
              refine th_n ?_
              refine w_ret ?_
              obtain rfl := inj hF
              exact end_s st (Res.t (by repeat first | exact ge_h | refine ge_m rfl ?_ | assumption) Res.nil) rfl rfl
            · have hF := bif_f hb15 hF
              refine g_skip hb15 ?_
              refine g_skip hb15 ?_
              refine v_pick' hb15 ?_
              refine v_move ?_
              refine r_nil ?_
              refine th_n ?_
              refine w_ret ?_
              obtain rfl := inj hF
              exact end_s st (Res.t (by repeat first | exact ge_h | refine ge_m rfl ?_ | assumption) Res.nil) rfl rfl
          · have hF := bif_f hb11 hF
            refine g_skip hb11 ?_
            refine g_skip hb11 ?_
            refine v_pick' hb11 ?_
            refine v_move ?_
            refine g_skip rfl ?_
            refine g_skip rfl ?_
            refine v_pick' rfl ?_
            refine v_move ?_
            refine r_nil ?_
            refine th_n ?_
            refine w_ret ?_
            obtain rfl := inj hF
            exact end_s st (Res.t (by repeat first | exact ge_h | refine ge_m rfl ?_ | assumption) Res.nil) rfl rfl
        · have hF := bif_f hb7 hF
          refine g_skip hb7 ?_
          refine g_skip hb7 ?_
          refine v_pick' hb7 ?_
          refine v_move ?_
          refine g_skip rfl ?_
          refine g_skip rfl ?_
          refine v_pick' rfl ?_
          refine v_move ?_
          refine g_skip rfl ?_
          refine g_skip rfl ?_
          refine v_pick' rfl ?_
          refine v_move ?_
          refine r_nil ?_
          refine th_n ?_
          refine w_ret ?_
          obtain rfl := inj hF
          exact end_s st (Res.t (by repeat first | exact ge_h | refine ge_m rfl ?_ | assumption) Res.nil) rfl rfl
      · have hF := bif_f hb6 hF
        refine g_skip hb6 ?_
        refine g_skip hb6 ?_
        refine g_skip hb6 ?_
        refine v_pick' hb6 ?_
        refine v_move ?_
        refine g_skip rfl ?_
        refine g_skip rfl ?_
        refine v_pick' rfl ?_
        refine v_move ?_
        refine g_skip rfl ?_
        refine g_skip rfl ?_
        refine v_pick' rfl ?_
        refine v_move ?_
        refine g_skip rfl ?_
        refine g_skip rfl ?_
        refine v_pick' rfl ?_
        refine v_move ?_
        refine r_nil ?_
        refine th_n ?_
        refine w_ret ?_
        obtain rfl := inj hF
        exact end_s st (Res.t (by repeat first | exact ge_h | refine ge_m rfl ?_ | assumption) Res.nil) rfl rfl
    · have hF := bif_f hb5 hF
      refine g_skip hb5 ?_
      refine g_skip hb5 ?_
      refine g_skip hb5 ?_
      refine v_pick' hb5 ?_
      refine v_move ?_
      refine g_skip rfl ?_
      refine g_skip rfl ?_
      refine g_skip rfl ?_
      refine v_pick' rfl ?_
      refine v_move ?_
      refine g_skip rfl ?_
      refine g_skip rfl ?_
      refine v_pick' rfl ?_
      refine v_move ?_
      refine g_skip rfl ?_
      refine g_skip rfl ?_
      refine v_pick' rfl ?_
      refine v_move ?_
      refine g_skip rfl ?_
      refine g_skip rfl ?_
      refine v_pick' rfl ?_
      refine v_move ?_
      refine r_nil ?_
      refine th_n ?_
      refine w_ret ?_
      obtain rfl := inj hF
      exact end_s st (Res.t (by repeat first | exact ge_h | refine ge_m rfl ?_ | assumption) Res.nil) rfl rfl
  · have hF := bif_f hb4 hF
    refine g_skip hb4 ?_
    refine g_skip hb4 ?_
    refine g_skip hb4 ?_
    refine v_pick' hb4 ?_
    refine v_move ?_
    refine g_skip rfl ?_
    refine g_skip rfl ?_
    refine g_skip rfl ?_
    refine v_pick' rfl ?_
    refine v_move ?_
    refine g_skip rfl ?_
    refine g_skip rfl ?_
    refine g_skip rfl ?_
    refine v_pick' rfl ?_
    refine v_move ?_
    refine g_skip rfl ?_
    refine g_skip rfl ?_
    refine v_pick' rfl ?_
    refine v_move ?_
    refine g_skip rfl ?_
    refine g_skip rfl ?_
    refine v_pick' rfl ?_
    refine v_move ?_
    refine g_skip rfl ?_
    refine g_skip rfl ?_
    refine v_pick' rfl ?_
    refine v_move ?_
    refine r_nil ?_
    refine th_n ?_
    refine w_ret ?_
    obtain rfl := inj hF
    exact end_s st (Res.t (by repeat first | exact ge_h | refine ge_m rfl ?_ | assumption) Res.nil) rfl rfl
end Go.Hx.V

/- Functions of the program come to that. -/
namespace Go.Hx.V
open Go.Hx
set_option linter.unusedVariables false
set_option maxRecDepth 20000
set_option maxHeartbeats 4000000
attribute [local irreducible] W R C thenH inBlockH
theorem ct18 (N : Nat) {a0_0 : Int} {a0_1 : (List (Int × Int))} {a0_2 : (List (Int × Int × Int))} {a0_3 : Int} {r : Int} (hF : sf18 N a0_0 a0_1 a0_2 a0_3 = some r) {fl : Nat} {h0 : Tr HBlk} {n0 : Nat} {F0 : PH} (hd : D h0 n0) (hs : F0.sub h0) {pa0_1 : Option (Nat × Nat)} {ca0_1 : Nat} {pa0_2 : Option (Nat × Nat)} {ca0_2 : Nat} (ra0_1 : RowF (rP rI rI) 2 F0 pa0_1 ca0_1 a0_1) (ra0_2 : RowF (rP rI (rP rI rI)) 3 F0 pa0_2 ca0_2 a0_2) : C LW fl 18 [(.agg [(i64 a0_0), (.slice pa0_1 (a0_1).length ca0_1), (.slice pa0_2 (a0_2).length ca0_2), (i64 a0_3)])] ⟨h0, n0⟩ (KS (i64 r) n0 h0) := by
  unfold sf18 at hF
  refine in_cT hd hs lw18 rfl rfl (by rfl) (fun st T hT => ?_)
  have hfl : n0 ≤ n0 := Nat.le_refl n0
  have t0 := hT 0 _ rfl
  dsimp only [L18]
  refine w_seq ?_
  refine w_reg ?_
  refine v_box st (fun b1 h2 n3 st => ?_)
  refine v_move ?_
  refine r_nil ?_
  refine th_n ?_
  refine w_seq ?_
  obtain ⟨y5, hA6, hF⟩ := bnd_some hF
  refine w_cutD (fun T ds8 h nx => ∃ (F8 : PH), ds8 = [] ∧ PH.le F0 F8 ∧ St n0 h0 F0 F8 h nx [.bx b1 [(i64 a0_0), (.slice pa0_1 (a0_1).length ca0_1), (.slice pa0_2 (a0_2).length ca0_2), (i64 a0_3)]] ∧ T.get 1 = some (.ptr (some (b1, 0))) ∧ T.get 12 = some (.bool y5)) ?_ (fun T ds8 h nx hp => ?_)
  · have hK7 := hF
    have hF := hA6
    refine w_reg ?_
    refine v_fa ?_
    refine v_ld1 (st.at (i := 0) rfl).2.2 rfl ?_
    refine v_len ?_
    refine v_gtr ?_
    refine v_move ?_
    rcases Bool.eq_false_or_eq_true (decide ((8 : Int) < ((a0_1).length : Int))) with hb9 | hb9
    · have hF := bif_t hb9 hF
      refine g_skip hb9 ?_
      refine g_skip hb9 ?_
      refine g_skip hb9 ?_
      refine g_skip hb9 ?_
      refine v_pick hb9 ?_
      refine r_nil ?_
      obtain rfl := inj hF
      refine thn ⟨rfl, ?_⟩
      dsimp only
      exact ⟨F0, rfl, (PH.le.refl _), st, (by repeat first | exact ge_h | refine ge_m rfl ?_ | assumption), (by repeat first | exact ge_h | refine ge_m rfl ?_ | assumption)⟩
    · have hF := bif_f hb9 hF
      refine g_take hb9 (v_fa ?_)
      refine g_take hb9 (v_ld1 (st.at (i := 0) rfl).2.2 rfl ?_)
      refine g_take hb9 (v_len ?_)
      refine g_take hb9 (v_gtr ?_)
      refine v_pick' hb9 ?_
      refine r_nil ?_
      obtain rfl := inj hF
      refine thn ⟨rfl, ?_⟩
      dsimp only
      exact ⟨F0, rfl, (PH.le.refl _), st, (by repeat first | exact ge_h | refine ge_m rfl ?_ | assumption), (by repeat first | exact ge_h | refine ge_m rfl ?_ | assumption)⟩
  · obtain ⟨F8, rfl, le8, st, t1, t12⟩ := hp
    refine v_cond (fun hb10 => ?_) (fun hb10 => ?_)
    · have hF := bif_t hb10 hF
      refine w_seq ?_
      refine w_reg ?_
      refine v_move ?_
      refine r_nil ?_
      refine th_n ?_
      refine w_ret ?_
      refine th_r ?_
      obtain rfl := inj hF
      exact end_s st (Res.t (by repeat first | exact ge_h | refine ge_m rfl ?_ | assumption) Res.nil) rfl rfl
    · have hF := bif_f hb10 hF
      refine w_skip ?_
      refine th_n ?_
      refine w_seq ?_
      refine w_seq ?_
      refine w_reg ?_
      refine v_ldn (vs := [(i64 a0_0), (.slice pa0_1 (a0_1).length ca0_1), (.slice pa0_2 (a0_2).length ca0_2), (i64 a0_3)]) (st.at (i := 0) rfl).2.2 rfl ?_
      obtain ⟨v11, e12, hF⟩ := bnd_some hF
      refine v_call st (ct50 N e12 st.d st.sub (RowF.mono le8 ra0_1) (RowF.mono le8 ra0_2)) (fun n13 st => ?_)
      refine v_not ?_
      refine r_nil ?_
      refine th_n ?_
      refine v_cond (fun hb14 => ?_) (fun hb14 => ?_)
      · have hF := bif_t hb14 hF
        refine w_seq ?_
        refine w_reg ?_
        refine v_move ?_
        refine r_nil ?_
        refine th_n ?_
        refine w_ret ?_
        refine th_r ?_
        obtain rfl := inj hF
        exact end_s st (Res.t (by repeat first | exact ge_h | refine ge_m rfl ?_ | assumption) Res.nil) rfl rfl
      · have hF := bif_f hb14 hF
        refine w_skip ?_
        refine th_n ?_
        refine w_seq ?_
        refine w_reg ?_
        refine v_move ?_
        refine r_nil ?_
        refine th_n ?_
        refine w_ret ?_
        obtain rfl := inj hF
        exact end_s st (Res.t (by repeat first | exact ge_h | refine ge_m rfl ?_ | assumption) Res.nil) rfl rfl
end Go.Hx.V

/- Functions of the program come to that. -/
namespace Go.Hx.V
open Go.Hx
set_option linter.unusedVariables false
set_option maxRecDepth 20000
set_option maxHeartbeats 4000000
attribute [local irreducible] W R C thenH inBlockH
theorem ct51 (N : Nat) {a0_0 : Int} {a0_1 : (List (Int × Int))} {a0_2 : (List (Int × Int × Int))} {a0_3 : Int} {a1 : Int} {r : Int} (hF : sf51 N a0_0 a0_1 a0_2 a0_3 a1 = some r) {fl : Nat} {h0 : Tr HBlk} {n0 : Nat} {F0 : PH} (hd : D h0 n0) (hs : F0.sub h0) {pa0_1 : Option (Nat × Nat)} {ca0_1 : Nat} {pa0_2 : Option (Nat × Nat)} {ca0_2 : Nat} (ra0_1 : RowF (rP rI rI) 2 F0 pa0_1 ca0_1 a0_1) (ra0_2 : RowF (rP rI (rP rI rI)) 3 F0 pa0_2 ca0_2 a0_2) : C LW fl 51 [(.agg [(i64 a0_0), (.slice pa0_1 (a0_1).length ca0_1), (.slice pa0_2 (a0_2).length ca0_2), (i64 a0_3)]), (i64 a1)] ⟨h0, n0⟩ (KS (i64 r) n0 h0) := by
  unfold sf51 at hF
  refine in_cT hd hs lw51 rfl rfl (by rfl) (fun st T hT => ?_)
  have hfl : n0 ≤ n0 := Nat.le_refl n0
  have t0 := hT 0 _ rfl
  have t1 := hT 1 _ rfl
  dsimp only [L51]
  refine w_seq ?_
  refine w_reg ?_
  refine v_box st (fun b1 h2 n3 st => ?_)
  refine v_move ?_
  refine r_nil ?_
  refine th_n ?_
  refine w_seq ?_
  refine w_seq ?_
  refine w_reg ?_
  refine v_ldn (vs := [(i64 a0_0), (.slice pa0_1 (a0_1).length ca0_1), (.slice pa0_2 (a0_2).length ca0_2), (i64 a0_3)]) (st.at (i := 0) rfl).2.2 rfl ?_
  obtain ⟨v4, e5, hF⟩ := bnd_some hF
  refine v_call st (ct18 N e5 st.d st.sub ra0_1 ra0_2) (fun n6 st => ?_)
  refine v_move ?_
  refine r_nil ?_
  refine th_n ?_
  refine w_seq ?_
  refine w_reg ?_
  refine v_move ?_
  refine v_nei ?_
  refine r_nil ?_
  refine th_n ?_
  refine v_cond (fun hb7 => ?_) (fun hb7 => ?_)
  · have hF := bif_t hb7 hF
    refine w_seq ?_
    refine w_reg ?_
    refine v_move ?_
    refine v_move ?_
    refine r_nil ?_
    refine th_n ?_
    refine w_ret ?_
    refine th_r ?_
    obtain rfl := inj hF
    exact end_s st (Res.t (by repeat first | exact ge_h | refine ge_m rfl ?_ | assumption) Res.nil) rfl rfl
  · have hF := bif_f hb7 hF
    refine w_skip ?_
    refine th_n ?_
    refine w_seq ?_
    refine w_seq ?_
    refine w_reg ?_
    refine v_ldn (vs := [(i64 a0_0), (.slice pa0_1 (a0_1).length ca0_1), (.slice pa0_2 (a0_2).length ca0_2), (i64 a0_3)]) (st.at (i := 0) rfl).2.2 rfl ?_
    refine v_move ?_
    obtain ⟨v8, e9, hF⟩ := bnd_some hF
    refine v_call st (ct79 N e9 st.d st.sub ra0_1 ra0_2) (fun n10 st => ?_)
    refine v_not ?_
    refine r_nil ?_
    refine th_n ?_
    refine v_cond (fun hb11 => ?_) (fun hb11 => ?_)
    · have hF := bif_t hb11 hF
      refine w_seq ?_
      refine w_reg ?_
      refine v_move ?_
      refine r_nil ?_
      refine th_n ?_
      refine w_ret ?_
      refine th_r ?_
      obtain rfl := inj hF
      exact end_s st (Res.t (by repeat first | exact ge_h | refine ge_m rfl ?_ | assumption) Res.nil) rfl rfl
    · have hF := bif_f hb11 hF
      refine w_skip ?_
      refine th_n ?_
      refine w_seq ?_
      refine w_reg ?_
      refine v_move ?_
      refine r_nil ?_
      refine th_n ?_
      refine w_ret ?_
      obtain rfl := inj hF
      exact end_s st (Res.t (by repeat first | exact ge_h | refine ge_m rfl ?_ | assumption) Res.nil) rfl rfl
end Go.Hx.V

/- Functions of the program come to that. -/
namespace Go.Hx.V
open Go.Hx
set_option linter.unusedVariables false
set_option maxRecDepth 20000
set_option maxHeartbeats 4000000
attribute [local irreducible] W R C thenH inBlockH
theorem ct20 (N : Nat) {a0_0 : Int} {a0_1 : (List (Int × Int))} {a0_2 : (List (Int × Int × Int))} {a0_3 : Int} {a1 : Int} {a2_0 : (List Int)} {a2_1 : (List Int)} {r : (Int × Int)} (hF : sf20 N a0_0 a0_1 a0_2 a0_3 a1 a2_0 a2_1 = some r) {fl : Nat} {h0 : Tr HBlk} {n0 : Nat} {F0 : PH} (hd : D h0 n0) (hs : F0.sub h0) {pa0_1 : Option (Nat × Nat)} {ca0_1 : Nat} {pa0_2 : Option (Nat × Nat)} {ca0_2 : Nat} {pa2_0 : Option (Nat × Nat)} {ca2_0 : Nat} {pa2_1 : Option (Nat × Nat)} {ca2_1 : Nat} (ra0_1 : RowF (rP rI rI) 2 F0 pa0_1 ca0_1 a0_1) (ra0_2 : RowF (rP rI (rP rI rI)) 3 F0 pa0_2 ca0_2 a0_2) (ra2_0 : RowF rI 1 F0 pa2_0 ca2_0 a2_0) (ra2_1 : RowF rI 1 F0 pa2_1 ca2_1 a2_1) : C LW fl 20 [(.agg [(i64 a0_0), (.slice pa0_1 (a0_1).length ca0_1), (.slice pa0_2 (a0_2).length ca0_2), (i64 a0_3)]), (i64 a1), (.agg [(.slice pa2_0 (a2_0).length ca2_0), (.slice pa2_1 (a2_1).length ca2_1)])] ⟨h0, n0⟩ (KS (.tuple [(i64 r.1), (i64 r.2)]) n0 h0) := by
  unfold sf20 at hF
  refine in_cT hd hs lw20 rfl rfl (by rfl) (fun st T hT => ?_)
  have hfl : n0 ≤ n0 := Nat.le_refl n0
  have t0 := hT 0 _ rfl
  have t1 := hT 1 _ rfl
  have t2 := hT 2 _ rfl
  dsimp only [L20]
  refine w_seq ?_
  refine w_reg ?_
  refine v_box st (fun b1 h2 n3 st => ?_)
  refine v_box st (fun b4 h5 n6 st => ?_)
  refine v_move ?_
  refine v_move ?_
  refine r_nil ?_
  refine th_n ?_
  refine w_seq ?_
  refine w_seq ?_
  refine w_reg ?_
  refine v_ldn (vs := [(i64 a0_0), (.slice pa0_1 (a0_1).length ca0_1), (.slice pa0_2 (a0_2).length ca0_2), (i64 a0_3)]) (st.at (i := 0) rfl).2.2 rfl ?_
  refine v_move ?_
  obtain ⟨v7, e8, hF⟩ := bnd_some hF
  refine v_call st (ct51 N e8 st.d st.sub ra0_1 ra0_2) (fun n9 st => ?_)
  refine v_move ?_
  refine r_nil ?_
  refine th_n ?_
  refine w_seq ?_
  refine w_reg ?_
  refine v_move ?_
  refine v_nei ?_
  refine r_nil ?_
  refine th_n ?_
  refine v_cond (fun hb10 => ?_) (fun hb10 => ?_)
  · have hF := bif_t hb10 hF
    refine w_seq ?_
    refine w_reg ?_
    refine v_move ?_
    refine v_move ?_
    refine v_move ?_
    refine r_nil ?_
    refine th_n ?_
    refine w_ret ?_
    refine th_r ?_
    obtain rfl := inj hF
    exact end_s st (Res.t (by repeat first | exact ge_h | refine ge_m rfl ?_ | assumption) (Res.t (by repeat first | exact ge_h | refine ge_m rfl ?_ | assumption) Res.nil)) rfl rfl
  · have hF := bif_f hb10 hF
    refine w_skip ?_
    refine th_n ?_
    refine w_seq ?_
    refine w_seq ?_
    refine w_reg ?_
    refine v_ldn (vs := [(i64 a0_0), (.slice pa0_1 (a0_1).length ca0_1), (.slice pa0_2 (a0_2).length ca0_2), (i64 a0_3)]) (st.at (i := 0) rfl).2.2 rfl ?_
    refine v_ldn (vs := [(.slice pa2_0 (a2_0).length ca2_0), (.slice pa2_1 (a2_1).length ca2_1)]) (st.at (i := 1) rfl).2.2 rfl ?_
    obtain ⟨v11, e12, hF⟩ := bnd_some hF
    refine v_call st (ct52 N e12 st.d st.sub ra0_1 ra0_2 ra2_0 ra2_1) (fun n13 st => ?_)
    refine v_not ?_
    refine r_nil ?_
    refine th_n ?_
    refine v_cond (fun hb14 => ?_) (fun hb14 => ?_)
    · have hF := bif_t hb14 hF
      refine w_seq ?_
      refine w_reg ?_
      refine v_move ?_
      refine v_move ?_
      refine r_nil ?_
      refine th_n ?_
      refine w_ret ?_
      refine th_r ?_
      obtain rfl := inj hF
      exact end_s st (Res.t (by repeat first | exact ge_h | refine ge_m rfl ?_ | assumption) (Res.t (by repeat first | exact ge_h | refine ge_m rfl ?_ | assumption) Res.nil)) rfl rfl
    · have hF := bif_f hb14 hF
      refine w_skip ?_
      refine th_n ?_
      refine w_seq ?_
      refine w_reg ?_
      refine v_ldn (vs := [(i64 a0_0), (.slice pa0_1 (a0_1).length ca0_1), (.slice pa0_2 (a0_2).length ca0_2), (i64 a0_3)]) (st.at (i := 0) rfl).2.2 rfl ?_
      refine v_ldn (vs := [(.slice pa2_0 (a2_0).length ca2_0), (.slice pa2_1 (a2_1).length ca2_1)]) (st.at (i := 1) rfl).2.2 rfl ?_
      obtain ⟨v15, e16, hF⟩ := bnd_some hF
      refine v_callR st (ct53 N e16 st.d st.sub (Nat.le_trans hfl st.ext.le) ra0_1 ra0_2 ra2_0 ra2_1) (fun u17 F17 h17 n17 le17 rv17 st => ?_)
      obtain ⟨py18, cy18, rfl, ry18⟩ := rv17
      refine v_move ?_
      obtain ⟨n19, x19, z19, l19, g19, hF⟩ := ix_some hF
      obtain ⟨b19, o19, s19, j19, r19, e19, f19, k19, rfl⟩ := RowF.get ry18 g19
      refine v_ixp e19 z19 l19 ?_
      refine v_ld1 (st.sub _ _ f19) (take_at (j := 0) k19 rfl) ?_
      refine v_move ?_
      refine v_move ?_
      refine r_nil ?_
      refine th_n ?_
      refine w_ret ?_
      obtain rfl := inj hF
      exact end_s st (Res.t (by repeat first | exact ge_h | refine ge_m rfl ?_ | assumption) (Res.t (by repeat first | exact ge_h | refine ge_m rfl ?_ | assumption) Res.nil)) rfl rfl
end Go.Hx.V

/- Functions of the program come to that. -/
namespace Go.Hx.V
open Go.Hx
set_option linter.unusedVariables false
set_option maxRecDepth 20000
set_option maxHeartbeats 4000000
attribute [local irreducible] W R C thenH inBlockH
theorem ct15 (N : Nat) {a0_0 : Int} {a0_1 : (List (Int × Int))} {a0_2 : (List (Int × Int × Int))} {a0_3 : Int} {a1 : (List Int)} {r : Bool} (hF : sf15 N a0_0 a0_1 a0_2 a0_3 a1 = some r) {fl : Nat} {h0 : Tr HBlk} {n0 : Nat} {F0 : PH} (hd : D h0 n0) (hs : F0.sub h0) {pa0_1 : Option (Nat × Nat)} {ca0_1 : Nat} {pa0_2 : Option (Nat × Nat)} {ca0_2 : Nat} {pa1 : Option (Nat × Nat)} {ca1 : Nat} (ra0_1 : RowF (rP rI rI) 2 F0 pa0_1 ca0_1 a0_1) (ra0_2 : RowF (rP rI (rP rI rI)) 3 F0 pa0_2 ca0_2 a0_2) (ra1 : RowF (rK .u16) 1 F0 pa1 ca1 a1) : C LW fl 15 [(.agg [(i64 a0_0), (.slice pa0_1 (a0_1).length ca0_1), (.slice pa0_2 (a0_2).length ca0_2), (i64 a0_3)]), (.slice pa1 (a1).length ca1)] ⟨h0, n0⟩ (KS (.bool r) n0 h0) := by
  unfold sf15 at hF
  refine in_cT hd hs lw15 rfl rfl (by rfl) (fun st T hT => ?_)
  have hfl : n0 ≤ n0 := Nat.le_refl n0
  have t0 := hT 0 _ rfl
  have t1 := hT 1 _ rfl
  dsimp only [L15]
  refine w_seq ?_
  refine w_reg ?_
  refine v_box st (fun b1 h2 n3 st => ?_)
  refine v_move ?_
  refine r_nil ?_
  refine th_n ?_
  obtain ⟨y24, hA25, hF⟩ := bnd_some hF
  refine w_cutD (fun T ds30 h nx => ∃ u, y24 = (.inr u) ∧ ∃ (F30 : PH), ds30 = [] ∧ PH.le F0 F30 ∧ St n0 h0 F0 F30 h nx [.bx b1 [(i64 a0_0), (.slice pa0_1 (a0_1).length ca0_1), (.slice pa0_2 (a0_2).length ca0_2), (i64 a0_3)]] ∧ T.get 1 = some (.slice pa1 (a1).length ca1) ∧ T.get 2 = some (.ptr (some (b1, 0)))) ?_ (fun T ds30 h nx hp => ?_)
  · have hK26 := hF
    have hF := hA25
    obtain ⟨y38, hA39, hF⟩ := bnd_some hF
    refine w_cutD (fun T ds41 h nx => ∃ (F41 : PH), ds41 = [] ∧ PH.le F0 F41 ∧ St n0 h0 F0 F41 h nx [.bx b1 [(i64 a0_0), (.slice pa0_1 (a0_1).length ca0_1), (.slice pa0_2 (a0_2).length ca0_2), (i64 a0_3)]] ∧ T.get 1 = some (.slice pa1 (a1).length ca1) ∧ T.get 2 = some (.ptr (some (b1, 0))) ∧ T.get 17 = some (.bool y38)) ?_ (fun T ds41 h nx hp => ?_)
    · have hK40 := hF
      have hF := hA39
      refine w_reg ?_
      refine v_ldn (vs := [(i64 a0_0), (.slice pa0_1 (a0_1).length ca0_1), (.slice pa0_2 (a0_2).length ca0_2), (i64 a0_3)]) (st.at (i := 0) rfl).2.2 rfl ?_
      obtain ⟨v42, e43, hF⟩ := bnd_some hF
      refine v_call st (ct16 N e43 st.d st.sub ra0_1 ra0_2 RowF.nil RowF.nil) (fun n44 st => ?_)
      refine v_not ?_
      refine v_move ?_
      rcases Bool.eq_false_or_eq_true (!v42) with hb45 | hb45
      · have hF := bif_t hb45 hF
        refine g_skip hb45 ?_
        refine g_skip hb45 ?_
        refine g_skip hb45 ?_
        refine v_pick hb45 ?_
        refine r_nil ?_
        obtain rfl := inj hF
        refine thn ⟨rfl, ?_⟩
        dsimp only
        exact ⟨F0, rfl, (PH.le.refl _), st, (by repeat first | exact ge_h | refine ge_m rfl ?_ | assumption), (by repeat first | exact ge_h | refine ge_m rfl ?_ | assumption), (by repeat first | exact ge_h | refine ge_m rfl ?_ | assumption)⟩
      · have hF := bif_f hb45 hF
        refine g_take hb45 (v_ldn (vs := [(i64 a0_0), (.slice pa0_1 (a0_1).length ca0_1), (.slice pa0_2 (a0_2).length ca0_2), (i64 a0_3)]) (st.at (i := 0) rfl).2.2 rfl ?_)
        obtain ⟨v46, e47, hF⟩ := bnd_some hF
        refine g_take hb45 (v_call st (ct23 N e47 st.d st.sub ra0_1 ra0_2) (fun n48 st => ?_))
        refine g_take hb45 (v_nei ?_)
        refine v_pick' hb45 ?_
        refine r_nil ?_
        obtain rfl := inj hF
        refine thn ⟨rfl, ?_⟩
        dsimp only
        exact ⟨F0, rfl, (PH.le.refl _), st, (by repeat first | exact ge_h | refine ge_m rfl ?_ | assumption), (by repeat first | exact ge_h | refine ge_m rfl ?_ | assumption), (by repeat first | exact ge_h | refine ge_m rfl ?_ | assumption)⟩
    · obtain ⟨F41, rfl, le41, st, t1, t2, t17⟩ := hp
      refine v_cond (fun hb49 => ?_) (fun hb49 => ?_)
      · have hF := bif_t hb49 hF
        refine w_seq ?_
        refine w_reg ?_
        refine v_call st (ct_wakes (h := _) (nx := _)) (fun n50 st => ?_)
        refine v_move ?_
        refine r_nil ?_
        refine th_n ?_
        refine w_ret ?_
        obtain rfl := inj hF
        have hF := hK26
        have hF := sel_l hF
        refine th_r ?_
        obtain rfl := inj hF
        exact end_s st (Res.t (by repeat first | exact ge_h | refine ge_m rfl ?_ | assumption) Res.nil) rfl rfl
      · have hF := bif_f hb49 hF
        refine w_skip ?_
        obtain rfl := inj hF
        refine thn ⟨rfl, _, rfl, ?_⟩
        dsimp only
        exact ⟨F41, rfl, le41, st, (by repeat first | exact ge_h | refine ge_m rfl ?_ | assumption), (by repeat first | exact ge_h | refine ge_m rfl ?_ | assumption)⟩
  · obtain ⟨w29, rfl, F30, rfl, le30, st, t1, t2⟩ := hp
    have hF := sel_r hF
    refine w_seq ?_
    refine w_reg ?_
    refine v_ldn (vs := [(i64 a0_0), (.slice pa0_1 (a0_1).length ca0_1), (.slice pa0_2 (a0_2).length ca0_2), (i64 a0_3)]) (st.at (i := 0) rfl).2.2 rfl ?_
    refine v_move ?_
    obtain ⟨v51, e52, hF⟩ := bnd_some hF
    refine v_callR st (ct44 N e52 st.d st.sub (Nat.le_trans hfl st.ext.le) (RowF.mono le30 ra0_1) (RowF.mono le30 ra0_2) (RowF.mono le30 ra1)) (fun u53 F53 h53 n53 le53 rv53 st => ?_)
    have le54 := PH.le.trans le30 le53
    obtain ⟨_, rfl, ⟨_, _, rfl, ⟨py55, cy55, rfl, ry55⟩, ⟨py56, cy56, rfl, ry56⟩⟩⟩ := rv53
    refine v_alloc st (fun b57 h58 n59 st => ?_)
    refine v_st (cs' := [(.slice py55 (v51.1).length cy55), (.slice py56 (v51.2).length cy56)]) st 1 rfl rfl rfl rfl hfl (fun h60 st => ?_)
    refine r_nil ?_
    refine th_n ?_
    refine w_seq ?_
    refine w_reg ?_
    refine v_move ?_
    refine r_nil ?_
    refine th_n ?_
    refine w_seq ?_
    refine w_seq ?_
    refine w_reg ?_
    refine v_move ?_
    refine r_nil ?_
    refine th_n ?_
    refine w_block ?_
    obtain ⟨y108, hy, hF⟩ := bnd_some hF
    refine v_loopD (sf15_L1 N a0_0 a0_1 a0_2 a0_3 v51) (fun x61 T ds62 h nx => ∃ (F62 : PH), ds62 = [] ∧ PH.le F53 F62 ∧ St n0 h0 F0 F62 h nx [.bx b1 [(i64 a0_0), (.slice pa0_1 (a0_1).length ca0_1), (.slice pa0_2 (a0_2).length ca0_2), (i64 a0_3)], .bx b57 [(.slice py55 (v51.1).length cy55), (.slice py56 (v51.2).length cy56)]] ∧ T.get 2 = some (.ptr (some (b1, 0))) ∧ T.get 5 = some (.ptr (some (b57, 0))) ∧ T.get 6 = some (i64 x61.1) ∧ T.get 7 = some (i64 x61.2)) (fun y e a σ => (∃ u, y = (.inl u) ∧ e = .ret ∧ a.nt = 54 ∧ ∃ (F110 : PH), a.defers = [] ∧ PH.le F53 F110 ∧ St n0 h0 F0 F110 σ.h σ.nx [.bx b1 [(i64 a0_0), (.slice pa0_1 (a0_1).length ca0_1), (.slice pa0_2 (a0_2).length ca0_2), (i64 a0_3)], .bx b57 [(.slice py55 (v51.1).length cy55), (.slice py56 (v51.2).length cy56)]] ∧ a.tmps.get 4 = some (.bool false)) ∨ (∃ u, y = (.inr u) ∧ e = .exit 0 ∧ a.nt = 54 ∧ ∃ (F112 : PH), a.defers = [] ∧ PH.le F53 F112 ∧ St n0 h0 F0 F112 σ.h σ.nx [.bx b1 [(i64 a0_0), (.slice pa0_1 (a0_1).length ca0_1), (.slice pa0_2 (a0_2).length ca0_2), (i64 a0_3)], .bx b57 [(.slice py55 (v51.1).length cy55), (.slice py56 (v51.2).length cy56)]])) (fun x61 T ds62 h nx s hp hF => ?_) N _ y108 _ _ _ _ hy ⟨F53, rfl, (PH.le.refl _), st, (by repeat first | exact ge_h | refine ge_m rfl ?_ | assumption), (by repeat first | exact ge_h | refine ge_m rfl ?_ | assumption), (by repeat first | exact ge_h | refine ge_m rfl ?_ | assumption), (by repeat first | exact ge_h | refine ge_m rfl ?_ | assumption)⟩ (fun e a σ hne hq => ?_)
    · obtain ⟨F62, rfl, le62, st, t2, t5, t6, t7⟩ := hp
      have le63 := PH.le.trans le54 le62
      have le64 := PH.le.trans le53 le62
      unfold sf15_L1 at hF
      unfold L15w0
      refine w_seq ?_
      refine w_seq ?_
      refine w_reg ?_
      refine v_move ?_
      refine v_fa ?_
      refine v_ld1 (st.at (i := 0) rfl).2.2 rfl ?_
      refine v_leq ?_
      refine r_nil ?_
      refine th_n ?_
      refine v_cond (fun hb113 => ?_) (fun hb113 => ?_)
      · have hF := bif_t hb113 hF
        refine w_skip ?_
        refine th_n ?_
        refine w_seq ?_
        refine w_block ?_
        refine w_seq ?_
        refine w_drawV (Nat.le_trans hfl st.ext.le) (fun dw => ?_)
        have wf := Wf.start st
        refine y_pure st.d dw (fun hm vw => v_ldn (vs := [(i64 a0_0), (.slice pa0_1 (a0_1).length ca0_1), (.slice pa0_2 (a0_2).length ca0_2), (i64 a0_3)]) (vw.bx (st.at (i := 0) rfl)) rfl pr_nil) ?_
        obtain ⟨v114, e115, hF⟩ := bnd_some hF
        refine y_deep st dw wf (fun hm vw => u_callR (ct19 N e115 vw.d (FF.sub wf st vw) (Nat.max_le.2 ⟨by have := dw.le; have := st.ext.le; omega, Nat.le_refl _⟩) (RowF.mono (PH.le.trans le63 FF.base) ra0_1) (RowF.mono (PH.le.trans le63 FF.base) ra0_2)) (fun v F' h' n' ex l1 l2 l3 l4 => r_nil ⟨_, _, rfl, ex, l1, l2, l3, l4⟩)) (fun u116 F116 n116 done hn' dw116 wf116 rv116 le116 => ?_)
        have wf := wf116
        have dw := dw116
        obtain ⟨_, rfl, ⟨_, _, rfl, rfl, ⟨_, _, rfl, ⟨py117, cy117, rfl, ry117⟩, ⟨_, _, rfl, ⟨py118, cy118, rfl, ry118⟩, rfl⟩⟩⟩⟩ := rv116
        refine y_pure st.d dw (fun hm vw => v_move pr_nil) ?_
        refine y_pure st.d dw (fun hm vw => v_ldn (vs := [(.slice py55 (v51.1).length cy55), (.slice py56 (v51.2).length cy56)]) (vw.bx (st.at (i := 1) rfl)) rfl pr_nil) ?_
        refine y_end st.d dw rfl (fun h119 ex vs => ?_)
        obtain ⟨F120, lt120, st⟩ := St.laidF st dw wf ex vs (Lay.nil (by have := dw.le; omega)) (fun e he => by cases he)
        have lz121 := lt120 _ (le116 (fun _ => true) rfl (fun _ _ => rfl))
        have lb120 := lt120 _ FF.base
        have le122 := PH.le.trans le63 lb120
        have le123 := PH.le.trans le64 lb120
        have le124 := PH.le.trans le62 lb120
        obtain ⟨v125, e126, hF⟩ := bnd_some hF
        refine v_callR st (ct21 N e126 st.d st.sub (Nat.le_trans hfl st.ext.le) (RowF.mono le124 ry55) (RowF.mono le124 ry56)) (fun u127 F127 h127 n127 le127 rv127 st => ?_)
        have le128 := PH.le.trans le122 le127
        have le129 := PH.le.trans le123 le127
        have le130 := PH.le.trans le124 le127
        have le131 := PH.le.trans lb120 le127
        have le132 := PH.le.trans lz121 le127
        obtain ⟨_, rfl, ⟨_, _, rfl, ⟨py133, cy133, rfl, ry133⟩, ⟨py134, cy134, rfl, ry134⟩⟩⟩ := rv127
        obtain ⟨v135, e136, hF⟩ := bnd_some hF
        refine v_call st (ct20 N e136 st.d st.sub (RowF.mono le132 ry117) (RowF.mono le132 ry118) ry133 ry134) (fun n137 st => ?_)
        refine v_move ?_
        refine v_xt rfl ?_
        refine v_xt rfl ?_
        refine v_move ?_
        refine v_move ?_
        refine r_nil ?_
        refine th_n ?_
        refine w_seq ?_
        obtain ⟨y141, hA142, hF⟩ := bnd_some hF
        refine w_cutD (fun T ds144 h nx => ∃ (F144 : PH), ds144 = [] ∧ PH.le F127 F144 ∧ St n0 h0 F0 F144 h nx [.bx b1 [(i64 a0_0), (.slice pa0_1 (a0_1).length ca0_1), (.slice pa0_2 (a0_2).length ca0_2), (i64 a0_3)], .bx b57 [(.slice py55 (v51.1).length cy55), (.slice py56 (v51.2).length cy56)]] ∧ T.get 2 = some (.ptr (some (b1, 0))) ∧ T.get 5 = some (.ptr (some (b57, 0))) ∧ T.get 7 = some (i64 x61.2) ∧ T.get 8 = some (i64 v135.1) ∧ T.get 51 = some (.bool y141)) ?_ (fun T ds144 h nx hp => ?_)
        · have hK143 := hF
          have hF := hA142
          refine w_reg ?_
          refine v_move ?_
          refine v_nei ?_
          refine v_move ?_
          rcases Bool.eq_false_or_eq_true (!(decide (v135.2 = (0 : Int)))) with hb145 | hb145
          · have hF := bif_t hb145 hF
            refine g_skip hb145 ?_
            refine g_skip hb145 ?_
            refine g_skip hb145 ?_
            refine v_pick hb145 ?_
            refine v_move ?_
            refine g_skip rfl ?_
            refine g_skip rfl ?_
            refine g_skip rfl ?_
            refine g_skipu ?_
            refine g_skipu ?_
            refine g_skip rfl ?_
            refine v_pick rfl ?_
            refine r_nil ?_
            obtain rfl := inj hF
            refine thn ⟨rfl, ?_⟩
            dsimp only
            exact ⟨F127, rfl, (PH.le.refl _), st, (by repeat first | exact ge_h | refine ge_m rfl ?_ | assumption), (by repeat first | exact ge_h | refine ge_m rfl ?_ | assumption), (by repeat first | exact ge_h | refine ge_m rfl ?_ | assumption), (by repeat first | exact ge_h | refine ge_m rfl ?_ | assumption), (by repeat first | exact ge_h | refine ge_m rfl ?_ | assumption)⟩
          · have hF := bif_f hb145 hF
            refine g_take hb145 (v_move ?_)
            refine g_take hb145 (v_move ?_)
            refine g_take hb145 (v_leq ?_)
            refine v_pick' hb145 ?_
            refine v_move ?_
            rcases Bool.eq_false_or_eq_true (decide (v135.1 ≤ x61.1)) with hb146 | hb146
            · have hF := bif_t hb146 hF
              refine g_skip hb146 ?_
              refine g_skip hb146 ?_
              refine g_skip hb146 ?_
              refine g_skipu ?_
              refine g_skipu ?_
              refine g_skip hb146 ?_
              refine v_pick hb146 ?_
              refine r_nil ?_
              obtain rfl := inj hF
              refine thn ⟨rfl, ?_⟩
              dsimp only
              exact ⟨F127, rfl, (PH.le.refl _), st, (by repeat first | exact ge_h | refine ge_m rfl ?_ | assumption), (by repeat first | exact ge_h | refine ge_m rfl ?_ | assumption), (by repeat first | exact ge_h | refine ge_m rfl ?_ | assumption), (by repeat first | exact ge_h | refine ge_m rfl ?_ | assumption), (by repeat first | exact ge_h | refine ge_m rfl ?_ | assumption)⟩
            · have hF := bif_f hb146 hF
              refine g_take hb146 (v_move ?_)
              refine g_take hb146 (v_eqi ?_)
              refine g_take hb146 (v_move ?_)
              rcases Bool.eq_false_or_eq_true (decide (x61.2 = (0 : Int))) with hb147 | hb147
              · have hF := bif_t hb147 hF
                refine g_take hb147 (v_move ?_)
                refine g_take hb147 (v_nei ?_)
                refine g_take hb146 (v_pick hb147 ?_)
                refine v_pick' hb146 ?_
                refine r_nil ?_
                obtain rfl := inj hF
                refine thn ⟨rfl, ?_⟩
                dsimp only
                exact ⟨F127, rfl, (PH.le.refl _), st, (by repeat first | exact ge_h | refine ge_m rfl ?_ | assumption), (by repeat first | exact ge_h | refine ge_m rfl ?_ | assumption), (by repeat first | exact ge_h | refine ge_m rfl ?_ | assumption), (by repeat first | exact ge_h | refine ge_m rfl ?_ | assumption), (by repeat first | exact ge_h | refine ge_m rfl ?_ | assumption)⟩
              · have hF := bif_f hb147 hF
                refine g_skip hb147 ?_
                refine g_skip hb147 ?_
                refine g_take hb146 (v_pick' hb147 ?_)
                refine v_pick' hb146 ?_
                refine r_nil ?_
                obtain rfl := inj hF
                refine thn ⟨rfl, ?_⟩
                dsimp only
                exact ⟨F127, rfl, (PH.le.refl _), st, (by repeat first | exact ge_h | refine ge_m rfl ?_ | assumption), (by repeat first | exact ge_h | refine ge_m rfl ?_ | assumption), (by repeat first | exact ge_h | refine ge_m rfl ?_ | assumption), (by repeat first | exact ge_h | refine ge_m rfl ?_ | assumption), (by repeat first | exact ge_h | refine ge_m rfl ?_ | assumption)⟩
        · obtain ⟨F144, rfl, le144, st, t2, t5, t7, t8, t51⟩ := hp
          have le148 := PH.le.trans le128 le144
          have le149 := PH.le.trans le129 le144
          have le150 := PH.le.trans le130 le144
          have le151 := PH.le.trans le131 le144
          have le152 := PH.le.trans le132 le144
          have le153 := PH.le.trans le127 le144
          refine v_cond (fun hb154 => ?_) (fun hb154 => ?_)
          · have hF := bif_t hb154 hF
            refine w_seq ?_
            refine w_reg ?_
            refine v_move ?_
            refine r_nil ?_
            refine th_n ?_
            refine w_ret ?_
            refine th_r ?_
            refine ib_r ?_
            refine th_r ?_
            refine th_r ?_
            refine ⟨_, (inj hF).symm, .inl ⟨_, rfl, rfl, rfl, ?_⟩⟩
            dsimp only
            exact ⟨F144, rfl, le150, st, (by repeat first | exact ge_h | refine ge_m rfl ?_ | assumption)⟩
          · have hF := bif_f hb154 hF
            refine w_skip ?_
            refine th_n ?_
            refine w_reg ?_
            refine v_move ?_
            refine v_move ?_
            refine r_nil ?_
            refine ib_n ?_
            refine th_n ?_
            refine w_reg ?_
            refine v_move ?_
            obtain ⟨q155, hF⟩ := ck_some hF
            refine v_add q155 ?_
            refine v_move ?_
            refine r_nil ?_
            refine thn ⟨_, (inj hF).symm, rfl, ?_⟩
            dsimp only
            exact ⟨F144, rfl, le150, st, (by repeat first | exact ge_h | refine ge_m rfl ?_ | assumption), (by repeat first | exact ge_h | refine ge_m rfl ?_ | assumption), (by repeat first | exact ge_h | refine ge_m rfl ?_ | assumption), (by repeat first | exact ge_h | refine ge_m rfl ?_ | assumption)⟩
      · have hF := bif_f hb113 hF
        refine w_exit ?_
        refine th_e ?_
        refine th_e ?_
        refine ⟨_, (inj hF).symm, .inr (⟨_, rfl, rfl, rfl, ?_⟩)⟩
        dsimp only
        exact ⟨F62, rfl, le62, st⟩
    · rcases hq with hq | hq
      · obtain ⟨N9, T, ds110⟩ := a
        obtain ⟨h158, n159⟩ := σ
        obtain ⟨w109, rfl, rfl, e1, F110, e2, le110, st, t4⟩ := hq
        dsimp only at e1 e2
        subst e1
        subst e2
        dsimp only at st t4
        have le156 := PH.le.trans le54 le110
        have le157 := PH.le.trans le53 le110
        have hF := sel_l hF
        refine ib_r ?_
        refine th_r ?_
        obtain rfl := inj hF
        exact end_s st (Res.t (by repeat first | exact ge_h | refine ge_m rfl ?_ | assumption) Res.nil) rfl rfl
      · obtain ⟨N9, T, ds112⟩ := a
        obtain ⟨h162, n163⟩ := σ
        obtain ⟨w111, rfl, rfl, e1, F112, e2, le112, st⟩ := hq
        dsimp only at e1 e2
        subst e1
        subst e2
        dsimp only at st
        have le160 := PH.le.trans le54 le112
        have le161 := PH.le.trans le53 le112
        have hF := sel_r hF
        refine ib_e ?_
        refine th_n ?_
        refine w_seq ?_
        refine w_reg ?_
        refine v_call st (ct_wakes (h := _) (nx := _)) (fun n164 st => ?_)
        refine v_move ?_
        refine r_nil ?_
        refine th_n ?_
        refine w_ret ?_
        obtain rfl := inj hF
        exact end_s st (Res.t (by repeat first | exact ge_h | refine ge_m rfl ?_ | assumption) Res.nil) rfl rfl
end Go.Hx.V

/- Loops of functions on lists and numbers: what they come to. -/
namespace Go.Hx.V
open Go.Hx
theorem iter_run {α β : Type} {step : α → Option (α ⊕ β)} (s : Nat → α) (y : β) : ∀ (n i N : Nat), (∀ j, i ≤ j → j < i + n → step (s j) = some (.inl (s (j + 1)))) → step (s (i + n)) = some (.inr y) → n < N → iter step N (s i) = some y
  | 0, i, N, hs, he, hN => by
    obtain ⟨N, rfl⟩ : ∃ k, N = k + 1 := ⟨N - 1, by omega⟩
    unfold iter; rw [Nat.add_zero] at he; rw [he]; rfl
  | n + 1, i, N, hs, he, hN => by
    obtain ⟨N, rfl⟩ : ∃ k, N = k + 1 := ⟨N - 1, by omega⟩
    unfold iter
    rw [hs i (by omega) (by omega)]
    exact iter_run s y n (i + 1) N (fun j h1 h2 => hs j (by omega) (by omega)) (by rw [show i + 1 + n = i + (n + 1) by omega]; exact he) (by omega)
/-- A loop from 0 on. -/
theorem iter_up {α β : Type} {step : α → Option (α ⊕ β)} {x : α} {N : Nat} (s : Nat → α) (n : Nat) (y : β) (hx : x = s 0) (hs : ∀ j, j < n → step (s j) = some (.inl (s (j + 1)))) (he : step (s n) = some (.inr y)) (hN : n < N) : iter step N x = some y := by
  subst hx
  exact iter_run s y n 0 N (fun j _ h2 => hs j (by omega)) (by rw [Nat.zero_add]; exact he) hN
/-- A loop that ends early, or not. -/
theorem iter_all {α β : Type} {step : α → Option (α ⊕ β)} {x : α} {N : Nat} (s : Nat → α) (n : Nat) (p : Nat → Prop) [DecidablePred p] (good bad : β) (hx : x = s 0) (hs : ∀ j, j < n → p j → step (s j) = some (.inl (s (j + 1)))) (hf : ∀ j, j < n → ¬ p j → step (s j) = some (.inr bad)) (he : step (s n) = some (.inr good)) (hN : n < N) :
    ((∀ j, j < n → p j) ∧ iter step N x = some good) ∨ (¬ (∀ j, j < n → p j) ∧ iter step N x = some bad) := by
  by_cases h : ∀ j, j < n → p j
  · exact .inl ⟨h, iter_up s n good hx (fun j hj => hs j hj (h j hj)) he hN⟩
  · refine .inr ⟨h, ?_⟩
    have h1 : ∃ j, j < n ∧ ¬ p j := by
      refine Classical.byContradiction fun hc => h fun j hj => Classical.byContradiction fun hp => hc ⟨j, hj, hp⟩
    -- the first one
    obtain ⟨j, hj, hp, hmin⟩ : ∃ j, j < n ∧ ¬ p j ∧ ∀ i, i < j → p i := by
      obtain ⟨j, hj⟩ := h1
      induction j using Nat.strongRecOn with
      | ind j ih =>
        by_cases g : ∀ i, i < j → p i
        · exact ⟨j, hj.1, hj.2, g⟩
        · have : ∃ i, i < j ∧ ¬ p i := Classical.byContradiction fun hc => g fun i hi => Classical.byContradiction fun hp => hc ⟨i, hi, hp⟩
          obtain ⟨i, hi, hpi⟩ := this
          exact ih i hi ⟨by omega, hpi⟩
    exact iter_up s j bad hx (fun i hi => hs i (by omega) (hmin i hi)) (hf j hj hp) (by omega)
theorem ix_at {α β : Type} {l : List α} {j : Int} {n : Nat} {x : α} {k : α → Option β} (hj : j = n) (h : l[n]? = some x) : ix l j k = k x := by
  subst hj; exact ix_pos h
theorem ix_0 {α β : Type} {l : List α} {x : α} {k : α → Option β} (h : l[0]? = some x) : ix l (0 : Int) k = k x := ix_at (n := 0) rfl h
theorem lt_some {α : Type} {l : List α} {n : Nat} (h : n < l.length) : l[n]? = some l[n] := List.getElem?_eq_getElem h
theorem some_lt {α : Type} {l : List α} {n : Nat} {x : α} (h : l[n]? = some x) : n < l.length := by
  rcases Nat.lt_or_ge n l.length with g | g
  · exact g
  · rw [List.getElem?_eq_none g] at h; cases h
theorem take_succ' {α : Type} {l : List α} {n : Nat} {x : α} (h : l[n]? = some x) : l.take (n + 1) = l.take n ++ [x] := by
  rw [List.take_add_one, h]; rfl
/-- A list that is built by going through another one. -/
theorem iter_map {α γ : Type} {step : Int × List γ → Option ((Int × List γ) ⊕ List γ)} {N : Nat} (l : List α) (f : Nat → α → γ) (hs : ∀ (j : Nat) (x : α) (acc : List γ), l[j]? = some x → acc.length = j → step ((j : Int), acc) = some (.inl (((j + 1 : Nat) : Int), acc ++ [f j x]))) (he : ∀ acc, step ((l.length : Int), acc) = some (.inr acc)) (hN : l.length < N) :
    iter step N ((0 : Int), ([] : List γ)) = some (l.mapIdx f) := by
  refine iter_up (fun j => ((j : Int), (l.mapIdx f).take j)) l.length _ rfl (fun j hj => ?_) ?_ hN
  · try dsimp only
    rw [hs j l[j] _ (lt_some hj) (by rw [List.length_take, List.length_mapIdx]; omega)]
    congr 2
    rw [take_succ' (x := f j l[j]) (by rw [List.getElem?_mapIdx, lt_some hj]; rfl)]
  · try dsimp only
    rw [he, List.take_of_length_le (by rw [List.length_mapIdx]; omega)]
theorem mapIdx_id {α : Type} (l : List α) : (l.mapIdx fun _ x => x) = l := by
  refine List.ext_getElem? fun i => ?_
  rw [List.getElem?_mapIdx]; cases l[i]? <;> rfl
end Go.Hx.V

/- Layer 4: what its functions come to, in words of lists and numbers. -/
namespace Go.Hx.V
open Go.Hx
set_option linter.unusedVariables false
set_option linter.unusedSimpArgs false
set_option maxRecDepth 20000
abbrev Ph := List (Int × Int)
abbrev Zo := List (Int × Int × Int)
theorem sd {p q : Prop} [Decidable p] [Decidable q] (h : p ↔ q) : some (decide p) = some (decide q) := by rw [decide_eq_decide.2 h]
theorem sf_ {q : Prop} [Decidable q] (h : ¬ q) : some false = some (decide q) := by rw [decide_eq_false h]
theorem m24 {N : Nat} {a b c : Int} : sf24 N a b c = some (decide (b ≤ a ∧ a ≤ c)) := by
  unfold sf24
  by_cases h : b ≤ a <;> simp [h]
def spn (r : Int × Int) : Prop := -20 ≤ r.1 ∧ r.1 ≤ r.2 ∧ r.2 ≤ 20
instance (r : Int × Int) : Decidable (spn r) := by unfold spn; infer_instance
theorem m86 {N : Nat} {a b : Int} : sf86 N a b = some (decide (spn (a, b))) := by
  unfold sf86
  rw [m24, bnd_ret]
  by_cases h : -20 ≤ a ∧ a ≤ b
  · simp only [decide_eq_true h, cond_true]
    exact sd (by unfold spn; dsimp only; omega)
  · simp only [decide_eq_false h, cond_false]
    exact sf_ (by unfold spn; dsimp only; omega)
theorem m98 {N : Nat} {a b : Int} : sf98 N a b = some (decide (spn (a, b))) := by
  unfold sf98
  by_cases h : -20 ≤ a <;> by_cases h2 : a ≤ b <;> simp [h, h2, spn]
theorem m100 {N : Nat} {a b c : Int} : sf100 N a b c = some (decide ((0 ≤ a ∧ a ≤ 60) ∧ spn (b, c))) := by
  unfold sf100
  rw [m98, bnd_ret]
  by_cases h : 0 ≤ a <;> by_cases h2 : a ≤ 60 <;> simp [h, h2]
/-- A valid screw. -/
structure VS (st : Int) (ph : Ph) (zo : Zo) (tk : Int) : Prop where
  lp : ph.length ≤ 8
  lz : zo.length ≤ 3
  s1 : 1 ≤ st
  s2 : st ≤ 50
  t1 : 1 ≤ tk
  t2 : tk ≤ 60
  pn : 0 < ph.length
  zn : 0 < zo.length
  z0 : ∀ z : Int × Int × Int, zo[0]? = some z → z.1 = 0
  zs : ∀ (i : Nat) (z : Int × Int × Int), zo[i]? = some z → (0 ≤ z.1 ∧ z.1 ≤ 60) ∧ spn z.2
  zi : ∀ (i : Nat) (z z' : Int × Int × Int), zo[i]? = some z → zo[i + 1]? = some z' → z.1 < z'.1
  ps : ∀ (i : Nat) (r : Int × Int), ph[i]? = some r → spn r
  go : ∀ (i k : Nat) (r : Int × Int) (z : Int × Int × Int), ph[i]? = some r → zo[k]? = some z → 1 ≤ st + r.1 + z.2.1
theorem m19a {N : Nat} {l : Ph} (hN : l.length < N) (hl : l.length < 1000000000) : iter (sf19_L1 N l) N ((0 : Int), ([] : Ph)) = some l := by
  rw [iter_map l (fun _ x => x) (fun j x acc hx ha => ?_) (fun acc => ?_) hN, mapIdx_id]
  · have hj := some_lt hx
    unfold sf19_L1
    simp only [decide_eq_true (show (j : Int) < (l.length : Int) by omega), cond_true]
    rw [ix_at rfl hx]
    simp only [sf25, bnd_ret]
    rw [ck_pos (by omega), ck_pos (by unfold rng; omega)]
    rfl
  · unfold sf19_L1
    simp only [decide_eq_false (show ¬ (l.length : Int) < (l.length : Int) by omega), cond_false]
theorem m19b {N : Nat} {l : Zo} (hN : l.length < N) (hl : l.length < 1000000000) : iter (sf19_L2 N l) N ((0 : Int), ([] : Zo)) = some l := by
  rw [iter_map l (fun _ x => x) (fun j x acc hx ha => ?_) (fun acc => ?_) hN, mapIdx_id]
  · have hj := some_lt hx
    unfold sf19_L2
    simp only [decide_eq_true (show (j : Int) < (l.length : Int) by omega), cond_true]
    rw [ix_at rfl hx, ix_at rfl hx]
    simp only [sf25, bnd_ret]
    rw [ck_pos (by omega), ck_pos (by unfold rng; omega)]
    rfl
  · unfold sf19_L2
    simp only [decide_eq_false (show ¬ (l.length : Int) < (l.length : Int) by omega), cond_false]
theorem m19 {N : Nat} {st tk : Int} {ph : Ph} {zo : Zo} (h1 : ph.length < N) (h2 : zo.length < N) (hN : N < 1000000000) : sf19 N st ph zo tk = some (st, ph, zo, tk) := by
  unfold sf19
  rw [m19a h1 (by omega), bnd_ret, m19b h2 (by omega), bnd_ret]
theorem m30 {N : Nat} {l : List Int} (h : l.length < 1000000000) : sf30 N l = some l := by
  unfold sf30
  rw [ck_pos (by simp; omega)]
  rfl
theorem m21 {N : Nat} {p w : List Int} (h1 : p.length < 1000000000) (h2 : w.length < 1000000000) : sf21 N p w = some (p, w) := by
  unfold sf21
  rw [m30 h1, bnd_ret, m30 h2, bnd_ret]
/-! what the reference says of a screw -/
def zok (zo : Zo) (i : Nat) : Prop := ∀ z : Int × Int × Int, zo[i]? = some z → ((0 ≤ z.1 ∧ z.1 ≤ 60) ∧ spn z.2) ∧ ∀ y : Int × Int × Int, 0 < i → zo[i - 1]? = some y → y.1 < z.1
theorem m56a1 {N : Nat} {zo : Zo} {j : Nat} {z0 : Int × Int × Int} (hl : zo.length < 1000000000) (hz : zo[j]? = some z0) : (zok zo j ∧ sf56_L1 N zo (j : Int) = some (.inl ((j + 1 : Nat) : Int))) ∨ (¬ zok zo j ∧ sf56_L1 N zo (j : Int) = some (.inr (.inl 1))) := by
  have hj := some_lt hz
  have q3 : rng ((j : Int) + 1) := by unfold rng; omega
  unfold sf56_L1
  rw [decide_eq_true (show (j : Int) < (zo.length : Int) by omega), cond_true, ix_at rfl hz]
  simp only [m24, m86, bnd_ret]
  by_cases c1 : 0 ≤ z0.1 ∧ z0.1 ≤ 60
  · rw [decide_eq_true c1, Bool.not_true, cond_false]
    by_cases c2 : spn z0.2
    · rw [decide_eq_true (show spn (z0.2.1, z0.2.2) from c2), Bool.not_true, cond_false]
      by_cases c3 : 0 < j
      · obtain ⟨y0, hy⟩ : ∃ z, zo[j - 1]? = some z := ⟨_, lt_some (show j - 1 < zo.length by omega)⟩
        have q4 : rng ((j : Int) - 1) := by unfold rng; omega
        rw [decide_eq_true (show (0 : Int) < (j : Int) by omega), cond_true, ck_pos q4, ix_at (n := j - 1) (by omega) hy, bnd_ret]
        by_cases c4 : z0.1 ≤ y0.1
        · right
          rw [decide_eq_true c4, cond_true]
          exact ⟨fun h => by have := (h _ hz).2 _ c3 hy; omega, rfl⟩
        · left
          rw [decide_eq_false c4, cond_false, ck_pos q3]
          exact ⟨fun z h => by rw [hz] at h; cases h; exact ⟨⟨c1, c2⟩, fun y _ h2 => by rw [hy] at h2; cases h2; omega⟩, rfl⟩
      · left
        rw [decide_eq_false (show ¬ (0 : Int) < (j : Int) by omega), cond_false, bnd_ret, cond_false, ck_pos q3]
        exact ⟨fun z h => by rw [hz] at h; cases h; exact ⟨⟨c1, c2⟩, fun y h3 => absurd h3 c3⟩, rfl⟩
    · right
      rw [decide_eq_false (show ¬ spn (z0.2.1, z0.2.2) from c2), Bool.not_false, cond_true, bnd_ret, cond_true]
      exact ⟨fun h => c2 (h _ hz).1.2, rfl⟩
  · right
    rw [decide_eq_false c1, Bool.not_false, cond_true, bnd_ret, cond_true]
    exact ⟨fun h => c1 (h _ hz).1.1, rfl⟩
theorem m56a {N : Nat} {zo : Zo} (hN : zo.length < N) (hl : zo.length < 1000000000) : ((∀ i, i < zo.length → zok zo i) ∧ iter (sf56_L1 N zo) N (0 : Int) = some (.inr ())) ∨ (¬ (∀ i, i < zo.length → zok zo i) ∧ iter (sf56_L1 N zo) N (0 : Int) = some (.inl 1)) := by
  haveI : DecidablePred (zok zo) := fun _ => Classical.propDecidable _
  refine iter_all (step := sf56_L1 N zo) (N := N) (fun j => (j : Int)) zo.length (zok zo) (.inr ()) (.inl 1) rfl (fun j hj hp => ?_) (fun j hj hp => ?_) (by unfold sf56_L1; rw [decide_eq_false (show ¬ (zo.length : Int) < (zo.length : Int) by omega), cond_false]) hN
  · rcases m56a1 (N := N) hl (lt_some hj) with h | h
    · exact h.2
    · exact absurd hp h.1
  · rcases m56a1 (N := N) hl (lt_some hj) with h | h
    · exact absurd h.1 hp
    · exact h.2
def gok (st : Int) (r : Int × Int) (zo : Zo) (k : Nat) : Prop := ∀ z : Int × Int × Int, zo[k]? = some z → 1 ≤ st + r.1 + z.2.1
theorem m56b1 {st : Int} {ph : Ph} {zo : Zo} {i j : Nat} {r : Int × Int} {z : Int × Int × Int} (hr : ph[i]? = some r) (h1 : 1 ≤ st ∧ st ≤ 50) (hs : spn r) (hz2 : zo[j]? = some z) (hz3 : spn z.2) (hl : zo.length < 1000000000) : (gok st r zo j ∧ sf56_L2 st ph zo (i : Int) (j : Int) = some (.inl ((j + 1 : Nat) : Int))) ∨ (¬ gok st r zo j ∧ sf56_L2 st ph zo (i : Int) (j : Int) = some (.inr (.inl 1))) := by
  have hj := some_lt hz2
  unfold spn at hs hz3
  unfold sf56_L2
  have q : rng (st + r.1) := by unfold rng; omega
  have q2 : rng (st + r.1 + z.2.1) := by unfold rng; omega
  have q3 : rng ((j : Int) + 1) := by unfold rng; omega
  rw [decide_eq_true (show (j : Int) < (zo.length : Int) by omega), cond_true, ix_at rfl hr, ck_pos q, ix_at rfl hz2, ck_pos q2]
  by_cases c : st + r.1 + z.2.1 < 1
  · right
    rw [decide_eq_true c, cond_true]
    exact ⟨fun h => by have := h _ hz2; omega, rfl⟩
  · left
    rw [decide_eq_false c, cond_false, ck_pos q3]
    exact ⟨fun z h => by rw [hz2] at h; cases h; omega, rfl⟩
theorem m56b {N : Nat} {st : Int} {ph : Ph} {zo : Zo} {i : Nat} {r : Int × Int} (hr : ph[i]? = some r) (h1 : 1 ≤ st ∧ st ≤ 50) (hs : spn r) (hz : ∀ (k : Nat) (z : Int × Int × Int), zo[k]? = some z → spn z.2) (hN : zo.length < N) (hl : zo.length < 1000000000) : ((∀ k, k < zo.length → gok st r zo k) ∧ iter (sf56_L2 st ph zo (i : Int)) N (0 : Int) = some (.inr ())) ∨ (¬ (∀ k, k < zo.length → gok st r zo k) ∧ iter (sf56_L2 st ph zo (i : Int)) N (0 : Int) = some (.inl 1)) := by
  haveI : DecidablePred (gok st r zo) := fun _ => Classical.propDecidable _
  refine iter_all (step := sf56_L2 st ph zo (i : Int)) (N := N) (fun j => (j : Int)) zo.length (gok st r zo) (.inr ()) (.inl 1) rfl (fun j hj hp => ?_) (fun j hj hp => ?_) (by unfold sf56_L2; rw [decide_eq_false (show ¬ (zo.length : Int) < (zo.length : Int) by omega), cond_false]) hN
  · rcases m56b1 hr h1 hs (lt_some hj) (hz _ _ (lt_some hj)) hl with h | h
    · exact h.2
    · exact absurd hp h.1
  · rcases m56b1 hr h1 hs (lt_some hj) (hz _ _ (lt_some hj)) hl with h | h
    · exact absurd h.1 hp
    · exact h.2
def pok (st : Int) (ph : Ph) (zo : Zo) (i : Nat) : Prop := ∀ r : Int × Int, ph[i]? = some r → spn r ∧ ∀ k, k < zo.length → gok st r zo k
theorem m56c {N : Nat} {st : Int} {ph : Ph} {zo : Zo} (h1 : 1 ≤ st ∧ st ≤ 50) (hz : ∀ (k : Nat) (z : Int × Int × Int), zo[k]? = some z → spn z.2) (hN : zo.length < N) (hl : zo.length < 1000000000) (hN2 : ph.length < N) (hl2 : ph.length < 1000000000) : ((∀ k, k < ph.length → pok st ph zo k) ∧ iter (sf56_L3 N st ph zo) N (0 : Int) = some (.inr ())) ∨ (¬ (∀ k, k < ph.length → pok st ph zo k) ∧ iter (sf56_L3 N st ph zo) N (0 : Int) = some (.inl 1)) := by
  have key : ∀ j, j < ph.length → (pok st ph zo j ∧ sf56_L3 N st ph zo (j : Int) = some (.inl ((j + 1 : Nat) : Int))) ∨ (¬ pok st ph zo j ∧ sf56_L3 N st ph zo (j : Int) = some (.inr (.inl 1))) := fun j hj => by
    obtain ⟨r0, hr⟩ : ∃ z, ph[j]? = some z := ⟨_, lt_some hj⟩
    unfold sf56_L3
    simp only [decide_eq_true (show (j : Int) < (ph.length : Int) by omega), cond_true]
    rw [ix_at rfl hr]
    simp only [m86, bnd_ret]
    by_cases c : spn r0
    · simp only [decide_eq_true (show spn (r0.1, r0.2) from c), Bool.not_true, cond_false]
      rcases m56b hr h1 c hz hN hl with ⟨g1, g2⟩ | ⟨g1, g2⟩
      · left
        refine ⟨fun r h => by rw [hr] at h; cases h; exact ⟨c, g1⟩, ?_⟩
        rw [g2, bnd_ret]
        rw [ck_pos (by unfold rng; omega)]; rfl
      · right
        refine ⟨fun h => g1 (h _ hr).2, ?_⟩
        rw [g2, bnd_ret]
        rfl
    · right
      refine ⟨fun h => c (h _ hr).1, ?_⟩
      simp only [decide_eq_false (show ¬ spn (r0.1, r0.2) from c), Bool.not_false, cond_true]
  haveI : DecidablePred (pok st ph zo) := fun _ => Classical.propDecidable _
  refine iter_all (step := sf56_L3 N st ph zo) (N := N) (fun j => (j : Int)) ph.length (pok st ph zo) (.inr ()) (.inl 1) rfl (fun j hj hp => ?_) (fun j hj hp => ?_) (by unfold sf56_L3; simp only [decide_eq_false (show ¬ (ph.length : Int) < (ph.length : Int) by omega), cond_false]) hN2
  · rcases key j hj with h | h
    · exact h.2
    · exact absurd hp h.1
  · rcases key j hj with h | h
    · exact absurd h.1 hp
    · exact h.2
/-- What the reference tells of a screw. -/
theorem m56 {N : Nat} {st tk : Int} {ph : Ph} {zo : Zo} (hN : zo.length < N) (hN2 : ph.length < N) (hl : N < 1000000000) :
    ∃ e, sf56 N st ph zo tk = some e ∧ (e = 0 ↔ VS st ph zo tk) ∧ (e = 3 ↔ (8 < ph.length ∨ 3 < zo.length)) ∧ (e = 0 ∨ e = 1 ∨ e = 3) := by
  unfold sf56
  by_cases c1 : 8 < ph.length
  · simp only [decide_eq_true (show (8 : Int) < (ph.length : Int) by omega), cond_true, bnd_ret, sel]
    exact ⟨3, rfl, ⟨fun h => by omega, fun v => by have := v.lp; omega⟩, ⟨fun _ => .inl c1, fun _ => rfl⟩, .inr (.inr rfl)⟩
  simp only [decide_eq_false (show ¬ (8 : Int) < (ph.length : Int) by omega), cond_false, bnd_ret]
  by_cases c2 : 3 < zo.length
  · simp only [decide_eq_true (show (3 : Int) < (zo.length : Int) by omega), cond_true, bnd_ret, sel]
    exact ⟨3, rfl, ⟨fun h => by omega, fun v => by have := v.lz; omega⟩, ⟨fun _ => .inr c2, fun _ => rfl⟩, .inr (.inr rfl)⟩
  simp only [decide_eq_false (show ¬ (3 : Int) < (zo.length : Int) by omega), cond_false, bnd_ret, sel, m24]
  have bad : ¬ VS st ph zo tk → ∃ e : Int, some (1 : Int) = some e ∧ (e = 0 ↔ VS st ph zo tk) ∧ (e = 3 ↔ (8 < ph.length ∨ 3 < zo.length)) ∧ (e = 0 ∨ e = 1 ∨ e = 3) := fun h => ⟨1, rfl, ⟨fun e => by omega, fun v => absurd v h⟩, ⟨fun e => by omega, fun e => by omega⟩, .inr (.inl rfl)⟩
  by_cases c3 : 1 ≤ st ∧ st ≤ 50
  · simp only [decide_eq_true c3, Bool.not_true, cond_false, bnd_ret]
    by_cases c4 : 1 ≤ tk ∧ tk ≤ 60
    · simp only [decide_eq_true c4, Bool.not_true, cond_false]
      by_cases c5 : ph.length = 0
      · simp only [decide_eq_true (show (ph.length : Int) = 0 by omega), cond_true, bnd_ret, sel]
        exact bad fun v => by have := v.pn; omega
      simp only [decide_eq_false (show ¬ (ph.length : Int) = 0 by omega), cond_false]
      by_cases c6 : zo.length = 0
      · simp only [decide_eq_true (show (zo.length : Int) = 0 by omega), cond_true, bnd_ret, sel]
        exact bad fun v => by have := v.zn; omega
      simp only [decide_eq_false (show ¬ (zo.length : Int) = 0 by omega), cond_false]
      obtain ⟨y0, h0⟩ : ∃ z, zo[0]? = some z := ⟨_, lt_some (show 0 < zo.length by omega)⟩
      rw [show ix zo (0 : Int) (fun x85 => some (!decide (x85.1 = 0))) = some (!decide (y0.1 = 0)) from ix_at (n := 0) rfl h0, bnd_ret]
      by_cases c7 : y0.1 = 0
      · simp only [decide_eq_true c7, Bool.not_true, cond_false, bnd_ret, sel]
        rcases m56a hN (by omega) with ⟨g1, g2⟩ | ⟨g1, g2⟩
        · rw [g2, bnd_ret]
          show ∃ e, (bnd (iter (sf56_L3 N st ph zo) N (0 : Int)) _) = some e ∧ _
          have hzs : ∀ (k : Nat) (z : Int × Int × Int), zo[k]? = some z → spn z.2 := fun k z hz => (g1 k (some_lt hz) z hz).1.2
          rcases m56c (N := N) c3 hzs hN (by omega) hN2 (by omega) with ⟨q1, q2⟩ | ⟨q1, q2⟩
          · rw [q2, bnd_ret]
            refine ⟨0, rfl, ⟨fun _ => ⟨by omega, by omega, c3.1, c3.2, c4.1, c4.2, by omega, by omega, fun z hz => by rw [h0] at hz; cases hz; exact c7, fun i z hz => (g1 i (some_lt hz) z hz).1, fun i z z' hz hz' => (g1 (i + 1) (some_lt hz') z' hz').2 z (by omega) hz, fun i r hr => (q1 i (some_lt hr) r hr).1, fun i k r z hr hz => (q1 i (some_lt hr) r hr).2 k (some_lt hz) z hz⟩, fun _ => rfl⟩, ⟨fun e => by omega, fun e => by omega⟩, .inl rfl⟩
          · rw [q2, bnd_ret]
            exact bad fun v => q1 fun k hk r hr => ⟨v.ps k r hr, fun j hj z hz => v.go k j r z hr hz⟩
        · rw [g2, bnd_ret]
          exact bad fun v => g1 fun i hi z hz => ⟨v.zs i z hz, fun y hpos hy => v.zi (i - 1) y z hy (by rw [show i - 1 + 1 = i by omega]; exact hz)⟩
      · simp only [decide_eq_false c7, Bool.not_false, cond_true, bnd_ret, sel]
        exact bad fun v => c7 (v.z0 _ h0)
    · simp only [decide_eq_false c4, Bool.not_false, cond_true, bnd_ret, sel]
      exact bad fun v => c4 ⟨v.t1, v.t2⟩
  · simp only [decide_eq_false c3, Bool.not_false, cond_true, bnd_ret, sel]
    exact bad fun v => c3 ⟨v.s1, v.s2⟩
end Go.Hx.V

/- Layer 4: the program's check of a screw. -/
namespace Go.Hx.V
open Go.Hx
set_option linter.unusedVariables false
set_option linter.unusedSimpArgs false
set_option maxRecDepth 20000
theorem iter_allB {step : Int → Option (Int ⊕ (Unit ⊕ Unit))} {N : Nat} (i0 n : Nat) (p : Nat → Prop) (h : ∀ j, i0 ≤ j → j < i0 + n → (p j ∧ step (j : Int) = some (.inl ((j + 1 : Nat) : Int))) ∨ (¬ p j ∧ step (j : Int) = some (.inr (.inl ())))) (he : step ((i0 + n : Nat) : Int) = some (.inr (.inr ()))) (hN : n < N) :
    ((∀ j, i0 ≤ j → j < i0 + n → p j) ∧ iter step N (i0 : Int) = some (.inr ())) ∨ (¬ (∀ j, i0 ≤ j → j < i0 + n → p j) ∧ iter step N (i0 : Int) = some (.inl ())) := by
  haveI : DecidablePred fun j => p (i0 + j) := fun _ => Classical.propDecidable _
  rcases iter_all (step := step) (N := N) (x := (i0 : Int)) (fun j => ((i0 + j : Nat) : Int)) n (fun j => p (i0 + j)) (.inr ()) (.inl ()) rfl (fun j hj hp => by
    rcases h (i0 + j) (by omega) (by omega) with g | g
    · exact g.2
    · exact absurd hp g.1) (fun j hj hp => by
    rcases h (i0 + j) (by omega) (by omega) with g | g
    · exact absurd g.1 hp
    · exact g.2) he hN with ⟨g1, g2⟩ | ⟨g1, g2⟩
  · exact .inl ⟨fun j h1 h2 => by have := g1 (j - i0) (by omega); rwa [show i0 + (j - i0) = j by omega] at this, g2⟩
  · exact .inr ⟨fun hh => g1 fun j hj => hh _ (by omega) (by omega), g2⟩
theorem m97 {N : Nat} {ph : Ph} (hN : ph.length < N) (hl : ph.length < 1000000000) : ((∀ (i : Nat) r, ph[i]? = some r → spn r) ∧ sf97 N ph = some true) ∨ (¬ (∀ (i : Nat) r, ph[i]? = some r → spn r) ∧ sf97 N ph = some false) := by
  unfold sf97
  have k1 : ∀ j, 0 ≤ j → j < 0 + ph.length → (((fun i => ∀ r, ph[i]? = some r → spn r)) j ∧ sf97_L1 N ph (j : Int) = some (.inl ((j + 1 : Nat) : Int))) ∨ (¬ ((fun i => ∀ r, ph[i]? = some r → spn r)) j ∧ sf97_L1 N ph (j : Int) = some (.inr (.inl ()))) := fun j _ hj => by
    obtain ⟨r, hr⟩ : ∃ r, ph[j]? = some r := ⟨_, lt_some (by omega)⟩
    have q3 : rng ((j : Int) + 1) := by unfold rng; omega
    unfold sf97_L1
    rw [decide_eq_true (show (j : Int) < (ph.length : Int) by omega), cond_true, ix_at rfl hr, m98, bnd_ret]
    by_cases c : spn r
    · left
      rw [decide_eq_true (show spn (r.1, r.2) from c), Bool.not_true, cond_false, ck_pos q3]
      exact ⟨fun r' h => by rw [hr] at h; cases h; exact c, rfl⟩
    · right
      rw [decide_eq_false (show ¬ spn (r.1, r.2) from c), Bool.not_false, cond_true]
      exact ⟨fun h => c (h r hr), rfl⟩
  have k2 : sf97_L1 N ph ((0 + ph.length : Nat) : Int) = some (.inr (.inr ())) := by
    unfold sf97_L1
    rw [decide_eq_false (show ¬ ((0 + ph.length : Nat) : Int) < (ph.length : Int) by omega), cond_false]
  rcases iter_allB (step := sf97_L1 N ph) (N := N) 0 ph.length (fun i => ∀ r, ph[i]? = some r → spn r) k1 k2 hN with ⟨g1, g2⟩ | ⟨g1, g2⟩
  · left
    have g2' : iter (sf97_L1 N ph) N (0 : Int) = some (.inr ()) := g2
    rw [g2', bnd_ret]
    exact ⟨fun i r hr => g1 i (by omega) (by have := some_lt hr; omega) r hr, rfl⟩
  · right
    have g2' : iter (sf97_L1 N ph) N (0 : Int) = some (.inl ()) := g2
    rw [g2', bnd_ret]
    exact ⟨fun h => g1 fun j _ _ r hr => h j r hr, rfl⟩
def zsp (z : Int × Int × Int) : Prop := (0 ≤ z.1 ∧ z.1 ≤ 60) ∧ spn z.2
theorem m99 {N : Nat} {zo : Zo} (hN : zo.length < N) (hl : zo.length < 1000000000) : ((∀ (i : Nat) z, zo[i]? = some z → zsp z) ∧ sf99 N zo = some true) ∨ (¬ (∀ (i : Nat) z, zo[i]? = some z → zsp z) ∧ sf99 N zo = some false) := by
  unfold sf99
  have k1 : ∀ j, 0 ≤ j → j < 0 + zo.length → (((fun i => ∀ z, zo[i]? = some z → zsp z)) j ∧ sf99_L1 N zo (j : Int) = some (.inl ((j + 1 : Nat) : Int))) ∨ (¬ ((fun i => ∀ z, zo[i]? = some z → zsp z)) j ∧ sf99_L1 N zo (j : Int) = some (.inr (.inl ()))) := fun j _ hj => by
    obtain ⟨r, hr⟩ : ∃ r, zo[j]? = some r := ⟨_, lt_some (by omega)⟩
    have q3 : rng ((j : Int) + 1) := by unfold rng; omega
    unfold sf99_L1
    rw [decide_eq_true (show (j : Int) < (zo.length : Int) by omega), cond_true, ix_at rfl hr, m100, bnd_ret]
    by_cases c : zsp r
    · left
      rw [decide_eq_true (show (0 ≤ r.1 ∧ r.1 ≤ 60) ∧ spn (r.2.1, r.2.2) from c), Bool.not_true, cond_false, ck_pos q3]
      exact ⟨fun r' h => by rw [hr] at h; cases h; exact c, rfl⟩
    · right
      rw [decide_eq_false (show ¬ ((0 ≤ r.1 ∧ r.1 ≤ 60) ∧ spn (r.2.1, r.2.2)) from c), Bool.not_false, cond_true]
      exact ⟨fun h => c (h r hr), rfl⟩
  have k2 : sf99_L1 N zo ((0 + zo.length : Nat) : Int) = some (.inr (.inr ())) := by
    unfold sf99_L1
    rw [decide_eq_false (show ¬ ((0 + zo.length : Nat) : Int) < (zo.length : Int) by omega), cond_false]
  rcases iter_allB (step := sf99_L1 N zo) (N := N) 0 zo.length (fun i => ∀ z, zo[i]? = some z → zsp z) k1 k2 hN with ⟨g1, g2⟩ | ⟨g1, g2⟩
  · left
    have g2' : iter (sf99_L1 N zo) N (0 : Int) = some (.inr ()) := g2
    rw [g2', bnd_ret]
    exact ⟨fun i r hr => g1 i (by omega) (by have := some_lt hr; omega) r hr, rfl⟩
  · right
    have g2' : iter (sf99_L1 N zo) N (0 : Int) = some (.inl ()) := g2
    rw [g2', bnd_ret]
    exact ⟨fun h => g1 fun j _ _ r hr => h j r hr, rfl⟩
def zri (zo : Zo) (i : Nat) : Prop := ∀ y z : Int × Int × Int, zo[i - 1]? = some y → zo[i]? = some z → y.1 < z.1
theorem m101 {N : Nat} {zo : Zo} (hN : zo.length < N) (hl : zo.length < 1000000000) : ((∀ i, 1 ≤ i → i < zo.length → zri zo i) ∧ sf101 N zo = some true) ∨ (¬ (∀ i, 1 ≤ i → i < zo.length → zri zo i) ∧ sf101 N zo = some false) := by
  unfold sf101
  have k1 : ∀ j, 1 ≤ j → j < 1 + (zo.length - 1) → ((zri zo) j ∧ sf101_L1 N zo (j : Int) = some (.inl ((j + 1 : Nat) : Int))) ∨ (¬ (zri zo) j ∧ sf101_L1 N zo (j : Int) = some (.inr (.inl ()))) := fun j h1 hj => by
    obtain ⟨z, hz⟩ : ∃ r, zo[j]? = some r := ⟨_, lt_some (by omega)⟩
    obtain ⟨y, hy⟩ : ∃ r, zo[j - 1]? = some r := ⟨_, lt_some (by omega)⟩
    have q3 : rng ((j : Int) + 1) := by unfold rng; omega
    have q4 : rng ((j : Int) - 1) := by unfold rng; omega
    unfold sf101_L1
    rw [decide_eq_true (show (j : Int) < (zo.length : Int) by omega), cond_true, ck_pos q4, ix_at (n := j - 1) (by omega) hy, ix_at rfl hz]
    unfold sf102
    rw [bnd_ret]
    by_cases c : y.1 < z.1
    · left
      rw [decide_eq_true c, Bool.not_true, cond_false, ck_pos q3]
      exact ⟨fun y' z' h h' => by rw [hy] at h; rw [hz] at h'; cases h; cases h'; exact c, rfl⟩
    · right
      rw [decide_eq_false c, Bool.not_false, cond_true]
      exact ⟨fun h => c (h y z hy hz), rfl⟩
  have k2 : sf101_L1 N zo ((1 + (zo.length - 1) : Nat) : Int) = some (.inr (.inr ())) := by
    unfold sf101_L1
    rw [decide_eq_false (show ¬ ((1 + (zo.length - 1) : Nat) : Int) < (zo.length : Int) by omega), cond_false]
  rcases iter_allB (step := sf101_L1 N zo) (N := N) 1 (zo.length - 1) (zri zo) k1 k2 (by omega) with ⟨g1, g2⟩ | ⟨g1, g2⟩
  · left
    have g2' : iter (sf101_L1 N zo) N (1 : Int) = some (.inr ()) := g2
    rw [g2', bnd_ret]
    exact ⟨fun i h1 h2 => g1 i h1 (by omega), rfl⟩
  · right
    have g2' : iter (sf101_L1 N zo) N (1 : Int) = some (.inl ()) := g2
    rw [g2', bnd_ret]
    exact ⟨fun h => g1 fun j h1 h2 => h j h1 (by omega), rfl⟩
theorem m84 {N : Nat} {st tk : Int} {ph : Ph} {zo : Zo} (hN : ph.length < N) (hN2 : zo.length < N) (hl : N < 1000000000) : sf84 N st ph zo tk = some (ph.map (·.1), zo.map (·.2.1)) := by
  have mi : ∀ {α β : Type} (f : α → β) (l : List α), (l.mapIdx fun _ x => f x) = l.map f := fun f l => by
    refine List.ext_getElem? fun i => ?_
    rw [List.getElem?_mapIdx, List.getElem?_map]
  unfold sf84
  rw [iter_map ph (fun _ x => x.1) (fun j x acc hx ha => ?_) (fun acc => ?_) hN, bnd_ret, iter_map zo (fun _ x => x.2.1) (fun j x acc hx ha => ?_) (fun acc => ?_) hN2, bnd_ret, mi, mi]
  · have hj := some_lt hx
    have q3 : rng ((j : Int) + 1) := by unfold rng; omega
    unfold sf84_L2
    dsimp only
    rw [decide_eq_true (show (j : Int) < (zo.length : Int) by omega), cond_true, ix_at rfl hx]
    unfold sf105
    rw [bnd_ret, ck_pos (by omega), ck_pos q3]; rfl
  · unfold sf84_L2
    dsimp only
    rw [decide_eq_false (show ¬ (zo.length : Int) < (zo.length : Int) by omega), cond_false]
  · have hj := some_lt hx
    have q3 : rng ((j : Int) + 1) := by unfold rng; omega
    unfold sf84_L1
    dsimp only
    rw [decide_eq_true (show (j : Int) < (ph.length : Int) by omega), cond_true, ix_at rfl hx]
    unfold sf105
    rw [bnd_ret, ck_pos (by omega), ck_pos q3]; rfl
  · unfold sf84_L1
    dsimp only
    rw [decide_eq_false (show ¬ (ph.length : Int) < (ph.length : Int) by omega), cond_false]
/-- The least of some numbers. -/
def lst (a : Int) (l : List Int) : Nat → Int
  | 0 => a
  | n + 1 => match l[n]? with | some x => if x < lst a l n then x else lst a l n | none => lst a l n
theorem m103 {N : Nat} {a : Int} {l : List Int} (hN : l.length < N) (hl : N < 1000000000) : sf103 N a l = some (lst a l l.length) := by
  unfold sf103
  rw [iter_up (step := sf103_L1 l) (x := (a, (0 : Int))) (fun j => (lst a l j, (j : Int))) l.length (lst a l l.length) rfl (fun j hj => ?_) ?_ hN, bnd_ret]
  · unfold sf103_L1
    dsimp only
    rw [decide_eq_false (show ¬ (l.length : Int) < (l.length : Int) by omega), cond_false]
  · obtain ⟨x, hx⟩ : ∃ r, l[j]? = some r := ⟨_, lt_some hj⟩
    have q3 : rng ((j : Int) + 1) := by unfold rng; omega
    unfold sf103_L1
    dsimp only
    rw [decide_eq_true (show (j : Int) < (l.length : Int) by omega), cond_true, ix_at rfl hx]
    rw [show lst a l (j + 1) = (if x < lst a l j then x else lst a l j) by rw [lst, hx]]
    by_cases c : x < lst a l j
    · rw [decide_eq_true c, cond_true, ck_pos q3, if_pos c]; rfl
    · rw [decide_eq_false c, cond_false, ck_pos q3, if_neg c]; rfl
theorem lst_le {a : Int} {l : List Int} : ∀ n, lst a l n ≤ a ∧ (∀ i x, i < n → l[i]? = some x → lst a l n ≤ x) ∧ (lst a l n = a ∨ ∃ i : Nat, l[i]? = some (lst a l n))
  | 0 => ⟨Int.le_refl _, fun i x h => by omega, .inl rfl⟩
  | n + 1 => by
    obtain ⟨h1, h2, h3⟩ := lst_le (a := a) (l := l) n
    unfold lst
    cases e : l[n]? with
    | none =>
      refine ⟨h1, fun i x hi hx => ?_, h3⟩
      rcases Nat.lt_or_ge i n with g | g
      · exact h2 i x g hx
      · rw [show i = n by omega, e] at hx; cases hx
    | some y =>
      dsimp only
      by_cases c : y < lst a l n
      · rw [if_pos c]
        refine ⟨by omega, fun i x hi hx => ?_, .inr ⟨n, e⟩⟩
        rcases Nat.lt_or_ge i n with g | g
        · have := h2 i x g hx; omega
        · rw [show i = n by omega, e] at hx; cases hx; omega
      · rw [if_neg c]
        refine ⟨h1, fun i x hi hx => ?_, h3⟩
        rcases Nat.lt_or_ge i n with g | g
        · exact h2 i x g hx
        · rw [show i = n by omega, e] at hx; cases hx; omega
theorem m103c {N : Nat} {x : Int} {l : List Int} (hx : l[0]? = some x) (hN : l.length < N) (hl : N < 1000000000) : ∃ m, sf103 N x ((l.drop (Int.toNat (1 : Int))).take (l.length - (Int.toNat (1 : Int)))) = some m ∧ (∀ (i : Nat) y, l[i]? = some y → m ≤ y) ∧ ∃ i : Nat, l[i]? = some m := by
  have e1 : Int.toNat 1 = 1 := rfl
  have e : ((l.drop (Int.toNat (1 : Int))).take (l.length - (Int.toNat (1 : Int)))) = l.drop 1 := by
    rw [e1, List.take_of_length_le (by rw [List.length_drop]; omega)]
  rw [e]
  have hlen : (l.drop 1).length = l.length - 1 := by rw [List.length_drop]
  refine ⟨_, m103 (by omega) hl, ?_, ?_⟩
  · obtain ⟨h1, h2, _⟩ := lst_le (a := x) (l := l.drop 1) (l.drop 1).length
    intro i y hy
    cases i with
    | zero => rw [hx] at hy; cases hy; exact h1
    | succ i => exact h2 i y (by have := some_lt hy; omega) (by rw [List.getElem?_drop, Nat.add_comm]; exact hy)
  · obtain ⟨_, _, h3⟩ := lst_le (a := x) (l := l.drop 1) (l.drop 1).length
    rcases h3 with h3 | ⟨i, h3⟩
    · exact ⟨0, by rw [h3]; exact hx⟩
    · exact ⟨1 + i, by rw [List.getElem?_drop] at h3; exact h3⟩
end Go.Hx.V

/- Layer 4: the program's check of a screw is the reference's; zones; places. -/
namespace Go.Hx.V
open Go.Hx
set_option linter.unusedVariables false
set_option linter.unusedSimpArgs false
set_option maxRecDepth 20000
theorem bndid {α : Type} {x : Option α} : bnd x (fun v => some v) = x := by cases x <;> rfl
theorem m18 {N : Nat} {st tk : Int} {ph : Ph} {zo : Zo} (hN : zo.length < N) (hN2 : ph.length < N) (hl : N < 1000000000) :
    ∃ e, sf18 N st ph zo tk = some e ∧ (e = 0 ↔ VS st ph zo tk) ∧ (e = 3 ↔ (8 < ph.length ∨ 3 < zo.length)) ∧ (e = 0 ∨ e = 1 ∨ e = 3) := by
  have big : 8 < ph.length ∨ 3 < zo.length → ∃ e : Int, some (3 : Int) = some e ∧ (e = 0 ↔ VS st ph zo tk) ∧ (e = 3 ↔ (8 < ph.length ∨ 3 < zo.length)) ∧ (e = 0 ∨ e = 1 ∨ e = 3) := fun h => ⟨3, rfl, ⟨fun e => by omega, fun v => by have := v.lp; have := v.lz; omega⟩, ⟨fun _ => h, fun _ => rfl⟩, .inr (.inr rfl)⟩
  have bad : ¬ (8 < ph.length ∨ 3 < zo.length) → ¬ VS st ph zo tk → ∃ e : Int, some (1 : Int) = some e ∧ (e = 0 ↔ VS st ph zo tk) ∧ (e = 3 ↔ (8 < ph.length ∨ 3 < zo.length)) ∧ (e = 0 ∨ e = 1 ∨ e = 3) := fun g h => ⟨1, rfl, ⟨fun e => by omega, fun v => absurd v h⟩, ⟨fun e => by omega, fun e => absurd e g⟩, .inr (.inl rfl)⟩
  unfold sf18
  by_cases c1 : 8 < ph.length
  · rw [decide_eq_true (show (8 : Int) < (ph.length : Int) by omega), cond_true, bnd_ret, cond_true]
    exact big (.inl c1)
  rw [decide_eq_false (show ¬ (8 : Int) < (ph.length : Int) by omega), cond_false, bnd_ret]
  by_cases c2 : 3 < zo.length
  · rw [decide_eq_true (show (3 : Int) < (zo.length : Int) by omega), cond_true]
    exact big (.inr c2)
  rw [decide_eq_false (show ¬ (3 : Int) < (zo.length : Int) by omega), cond_false]
  have g : ¬ (8 < ph.length ∨ 3 < zo.length) := by omega
  have fin : ∀ b : Bool, sf50 N st ph zo tk = some b → (b = true ↔ VS st ph zo tk) → ∃ e : Int, (bnd (sf50 N st ph zo tk) fun v11 => bif (!v11) then some (1 : Int) else some (0 : Int)) = some e ∧ (e = 0 ↔ VS st ph zo tk) ∧ (e = 3 ↔ (8 < ph.length ∨ 3 < zo.length)) ∧ (e = 0 ∨ e = 1 ∨ e = 3) := fun b hb hv => by
    rw [hb, bnd_ret]
    cases b with
    | true => exact ⟨0, rfl, ⟨fun _ => hv.1 rfl, fun _ => rfl⟩, ⟨fun e => by omega, fun e => absurd e g⟩, .inl rfl⟩
    | false => exact bad g fun v => by have := hv.2 v; cases this
  have no : ∀ {x : Option Bool}, sf50 N st ph zo tk = some false → ¬ VS st ph zo tk → ∃ e : Int, (bnd (sf50 N st ph zo tk) fun v11 => bif (!v11) then some (1 : Int) else some (0 : Int)) = some e ∧ (e = 0 ↔ VS st ph zo tk) ∧ (e = 3 ↔ (8 < ph.length ∨ 3 < zo.length)) ∧ (e = 0 ∨ e = 1 ∨ e = 3) := fun h hv => fin false h ⟨(fun e => by cases e), fun v => absurd v hv⟩
  by_cases d1 : 1 ≤ st
  rotate_left
  · exact no (x := none) (by unfold sf50; rw [decide_eq_false d1, cond_false]) fun v => d1 v.s1
  by_cases d2 : st ≤ 50
  rotate_left
  · exact no (x := none) (by unfold sf50; rw [decide_eq_true d1, cond_true, decide_eq_false d2, cond_false]) fun v => d2 v.s2
  by_cases d3 : 1 ≤ tk
  rotate_left
  · exact no (x := none) (by unfold sf50; rw [decide_eq_true d1, cond_true, decide_eq_true d2, cond_true, decide_eq_false d3, cond_false]) fun v => d3 v.t1
  by_cases d4 : tk ≤ 60
  rotate_left
  · exact no (x := none) (by unfold sf50; rw [decide_eq_true d1, cond_true, decide_eq_true d2, cond_true, decide_eq_true d3, cond_true, decide_eq_false d4, cond_false]) fun v => d4 v.t2
  have e50 : sf50 N st ph zo tk = (bnd (sf76 N st ph zo tk) fun v8 => (bif v8 then (bnd (sf77 N st ph zo tk) fun v12 => (bif v12 then (bnd (sf78 N st ph zo tk) fun v16 => some v16) else some false)) else some false)) := by
    unfold sf50
    rw [decide_eq_true d1, cond_true, decide_eq_true d2, cond_true, decide_eq_true d3, cond_true, decide_eq_true d4, cond_true]
  by_cases d5 : 0 < ph.length
  rotate_left
  · exact no (x := none) (by rw [e50]; unfold sf76; rw [decide_eq_false (show ¬ (0 : Int) < (ph.length : Int) by omega), cond_false, bnd_ret, cond_false]) fun v => d5 v.pn
  have e76 : sf76 N st ph zo tk = sf97 N ph := by unfold sf76; rw [decide_eq_true (show (0 : Int) < (ph.length : Int) by omega), cond_true, bndid]
  rcases m97 hN2 (by omega) with ⟨p1, p2⟩ | ⟨p1, p2⟩
  rotate_left
  · exact no (x := none) (by rw [e50, e76, p2, bnd_ret, cond_false]) fun v => p1 fun i r hr => v.ps i r hr
  by_cases d6 : 0 < zo.length
  rotate_left
  · exact no (x := none) (by rw [e50, e76, p2, bnd_ret, cond_true]; unfold sf77; rw [decide_eq_false (show ¬ (0 : Int) < (zo.length : Int) by omega), cond_false, bnd_ret, cond_false]) fun v => d6 v.zn
  obtain ⟨z0, h0⟩ : ∃ z, zo[0]? = some z := ⟨_, lt_some d6⟩
  have e77 : sf77 N st ph zo tk = (bif (decide (z0.1 = 0)) then (bnd (sf99 N zo) fun v7 => (bif v7 then (bnd (sf101 N zo) fun v11 => some v11) else some false)) else some false) := by
    unfold sf77
    rw [decide_eq_true (show (0 : Int) < (zo.length : Int) by omega), cond_true]
    exact ix_at (n := 0) rfl h0
  by_cases d7 : z0.1 = 0
  rotate_left
  · exact no (x := none) (by rw [e50, e76, p2, bnd_ret, cond_true, e77, decide_eq_false d7, cond_false, bnd_ret, cond_false]) fun v => d7 (v.z0 _ h0)
  rw [decide_eq_true d7, cond_true] at e77
  rcases m99 hN (by omega) with ⟨q1, q2⟩ | ⟨q1, q2⟩
  rotate_left
  · exact no (x := none) (by rw [e50, e76, p2, bnd_ret, cond_true, e77, q2, bnd_ret, cond_false, bnd_ret, cond_false]) fun v => q1 fun i z hz => v.zs i z hz
  rw [q2, bnd_ret, cond_true, bndid] at e77
  rcases m101 hN (by omega) with ⟨u1, u2⟩ | ⟨u1, u2⟩
  rotate_left
  · exact no (x := none) (by rw [e50, e76, p2, bnd_ret, cond_true, e77, u2, bnd_ret, cond_false]) fun v => u1 fun i hi1 hi2 y z hy hz => v.zi (i - 1) y z hy (by rw [show i - 1 + 1 = i by omega]; exact hz)
  -- the least sum
  obtain ⟨r0, hr0⟩ : ∃ r, ph[0]? = some r := ⟨_, lt_some d5⟩
  have f1 : (ph.map (·.1))[0]? = some r0.1 := by rw [List.getElem?_map, hr0]; rfl
  have f2 : (zo.map (·.2.1))[0]? = some z0.2.1 := by rw [List.getElem?_map, h0]; rfl
  obtain ⟨m1, a1, a2, i1, a3⟩ := m103c (N := N) f1 (by rw [List.length_map]; omega) hl
  obtain ⟨m2, b1, b2, i2, b3⟩ := m103c (N := N) f2 (by rw [List.length_map]; omega) hl
  obtain ⟨ra, hra, rfl⟩ : ∃ r, ph[i1]? = some r ∧ r.1 = m1 := by
    rw [List.getElem?_map] at a3
    cases h : ph[i1]? with
    | none => rw [h] at a3; cases a3
    | some r => rw [h] at a3; exact ⟨r, rfl, Option.some.inj a3⟩
  obtain ⟨zb, hzb, rfl⟩ : ∃ r, zo[i2]? = some r ∧ r.2.1 = m2 := by
    rw [List.getElem?_map] at b3
    cases h : zo[i2]? with
    | none => rw [h] at b3; cases b3
    | some r => rw [h] at b3; exact ⟨r, rfl, Option.some.inj b3⟩
  have sa := p1 _ _ hra
  have sb := (q1 _ _ hzb).2
  unfold spn at sa sb
  have e78 : sf78 N st ph zo tk = some (decide (1 ≤ st + ra.1 + zb.2.1)) := by
    unfold sf78 sf83
    rw [bnd_ret, m84 hN2 hN hl, bnd_ret]
    have w1 : rng (st + ra.1) := by unfold rng; omega
    have w2 : rng (st + ra.1 + zb.2.1) := by unfold rng; omega
    have l1 : (ph.map (·.1)).length = ph.length := List.length_map ..
    have l2 : (zo.map (·.2.1)).length = zo.length := List.length_map ..
    have t1 : Int.toNat 1 = 1 := rfl
    dsimp only
    rw [ix_0 f1, ck_pos (by rw [l1, t1]; omega), a1, bnd_ret, ix_0 f2, ck_pos (by rw [l2, t1]; omega), b1, bnd_ret, ck_pos w1, ck_pos w2]
  refine fin (decide (1 ≤ st + ra.1 + zb.2.1)) (by rw [e50, e76, p2, bnd_ret, cond_true, e77, u2, bnd_ret, cond_true, e78, bnd_ret]) ?_
  rw [decide_eq_true_eq]
  refine ⟨fun h => ⟨by omega, by omega, d1, d2, d3, d4, d5, d6, fun z hz => by rw [h0] at hz; cases hz; exact d7, q1, fun i z z' hz hz' => u1 (i + 1) (by omega) (some_lt hz') z z' hz hz', p1, fun i k r z hr hz => ?_⟩, fun v => v.go _ _ _ _ hra hzb⟩
  have g1 := a2 i r.1 (by rw [List.getElem?_map, hr]; rfl)
  have g2 := b2 k z.2.1 (by rw [List.getElem?_map, hz]; rfl)
  omega
/-- The zone of a tick, of the first so many. -/
def znf (zo : Zo) (k : Int) : Nat → Nat
  | 0 => 0
  | n + 1 => match zo[n]? with | some z => if z.1 ≤ k then n else znf zo k n | none => znf zo k n
def zn (zo : Zo) (k : Int) : Nat := znf zo k zo.length
theorem znf_lt {zo : Zo} {k : Int} (h : 0 < zo.length) : ∀ n, n ≤ zo.length → znf zo k n < zo.length
  | 0, _ => h
  | n + 1, hn => by
    obtain ⟨z, hz⟩ : ∃ z, zo[n]? = some z := ⟨_, lt_some (by omega)⟩
    have := znf_lt (k := k) h n (by omega)
    rw [znf, hz]
    dsimp only
    by_cases c : z.1 ≤ k
    · rw [if_pos c]; omega
    · rw [if_neg c]; exact this
theorem m82 {N : Nat} {st tk k : Int} {ph : Ph} {zo : Zo} (hN : zo.length < N) (hl : N < 1000000000) : sf82 N st ph zo tk k = some (zn zo k : Int) := by
  unfold sf82
  rw [iter_up (step := sf82_L1 zo k) (x := ((0 : Int), (0 : Int))) (fun j => ((znf zo k j : Int), (j : Int))) zo.length (zn zo k : Int) rfl (fun j hj => ?_) ?_ hN, bnd_ret]
  · unfold sf82_L1
    dsimp only
    rw [decide_eq_false (show ¬ (zo.length : Int) < (zo.length : Int) by omega), cond_false]
    rfl
  · obtain ⟨z, hz⟩ : ∃ z, zo[j]? = some z := ⟨_, lt_some hj⟩
    have q3 : rng ((j : Int) + 1) := by unfold rng; omega
    unfold sf82_L1
    dsimp only
    rw [decide_eq_true (show (j : Int) < (zo.length : Int) by omega), cond_true, ix_at rfl hz]
    rw [show znf zo k (j + 1) = (if z.1 ≤ k then j else znf zo k j) by rw [znf, hz]]
    by_cases c : z.1 ≤ k
    · rw [decide_eq_true c, cond_true, ck_pos q3, if_pos c]; rfl
    · rw [decide_eq_false c, cond_false, ck_pos q3, if_neg c]; rfl
end Go.Hx.V

