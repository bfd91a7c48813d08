/- Functions of the program come to that. -/
import Derived.Test.YtamfcjekhiapdaaH05
import Derived.Test.YtamfcjekhiapdaaH06
import Derived.Test.YtamfcjekhiapdaaH03
set_option linter.all false
/- Functions of the program come to that. -/
namespace Go.Hx.V
open Go.Hx
set_option linter.unusedVariables false
set_option maxRecDepth 20000
set_option maxHeartbeats 4000000
attribute [local irreducible] W R C thenH inBlockH Tr.get Tr.set lo
theorem ct50 (N : Nat) {a0_0 : Int} {a0_1 : (List (Int × Int))} {a0_2 : (List (Int × Int × Int))} {a0_3 : Int} {r : Bool} (hF : sf50 N a0_0 a0_1 a0_2 a0_3 = some r) {fl : Nat} {h0 : Tr HBlk} {n0 : Nat} {F0 : PH} (hd : D h0 n0) (hs : F0.sub h0) {pa0_1 : Option (Nat × Nat)} {ca0_1 : Nat} {pa0_2 : Option (Nat × Nat)} {ca0_2 : Nat} (ra0_1 : RowF (rP rI rI) 2 F0 pa0_1 ca0_1 a0_1) (ra0_2 : RowF (rP rI (rP rI rI)) 3 F0 pa0_2 ca0_2 a0_2) : C LW fl 50 [(.agg [(i64 a0_0), (.slice pa0_1 (a0_1).length ca0_1), (.slice pa0_2 (a0_2).length ca0_2), (i64 a0_3)])] ⟨h0, n0⟩ (KS (.bool r) n0 h0) := by
  unfold sf50 at hF
  refine in_cT hd hs lw50 rfl rfl (by rfl) (fun st T hT => ?_)
  have hfl : n0 ≤ n0 := Nat.le_refl n0
  have t0 := hT 0 _ rfl
  dsimp only [L50]
  refine w_seq ?_
  refine w_reg ?_
  refine v_box st (fun b1 h2 n3 st => ?_)
  refine v_move ?_
  refine r_nil ?_
  refine th_n ?_
  refine w_seq ?_
  refine w_reg ?_
  refine v_fa ?_
  refine v_ld1 (st.at (i := 0) rfl).2.2 rfl ?_
  refine v_leq ?_
  refine v_move ?_
  rcases Bool.eq_false_or_eq_true (decide ((1 : Int) ≤ a0_0)) with hb4 | hb4
  · have hF := bif_t hb4 hF
    refine g_take hb4 (v_fa ?_)
    refine g_take hb4 (v_ld1 (st.at (i := 0) rfl).2.2 rfl ?_)
    refine g_take hb4 (v_leq ?_)
    refine v_pick hb4 ?_
    refine v_move ?_
    rcases Bool.eq_false_or_eq_true (decide (a0_0 ≤ (50 : Int))) with hb5 | hb5
    · have hF := bif_t hb5 hF
      refine g_take hb5 (v_fa ?_)
      refine g_take hb5 (v_ld1 (st.at (i := 0) rfl).2.2 rfl ?_)
      refine g_take hb5 (v_leq ?_)
      refine v_pick hb5 ?_
      refine v_move ?_
      rcases Bool.eq_false_or_eq_true (decide ((1 : Int) ≤ a0_3)) with hb6 | hb6
      · have hF := bif_t hb6 hF
        refine g_take hb6 (v_fa ?_)
        refine g_take hb6 (v_ld1 (st.at (i := 0) rfl).2.2 rfl ?_)
        refine g_take hb6 (v_leq ?_)
        refine v_pick hb6 ?_
        refine v_move ?_
        rcases Bool.eq_false_or_eq_true (decide (a0_3 ≤ (60 : Int))) with hb7 | hb7
        · have hF := bif_t hb7 hF
          refine g_take hb7 (v_ldn (vs := [(i64 a0_0), (.slice pa0_1 (a0_1).length ca0_1), (.slice pa0_2 (a0_2).length ca0_2), (i64 a0_3)]) (st.at (i := 0) rfl).2.2 rfl ?_)
          obtain ⟨v8, e9, hF⟩ := bnd_some hF
          refine g_take hb7 (v_call st (ct76 N e9 st.d st.sub ra0_1 ra0_2) (fun n10 st => ?_))
          refine v_pick hb7 ?_
          refine v_move ?_
          rcases Bool.eq_false_or_eq_true v8 with hb11 | hb11
          · have hF := bif_t hb11 hF
            refine g_take hb11 (v_ldn (vs := [(i64 a0_0), (.slice pa0_1 (a0_1).length ca0_1), (.slice pa0_2 (a0_2).length ca0_2), (i64 a0_3)]) (st.at (i := 0) rfl).2.2 rfl ?_)
            obtain ⟨v12, e13, hF⟩ := bnd_some hF
            refine g_take hb11 (v_call st (ct77 N e13 st.d st.sub ra0_1 ra0_2) (fun n14 st => ?_))
            refine v_pick hb11 ?_
            refine v_move ?_
            rcases Bool.eq_false_or_eq_true v12 with hb15 | hb15
            · have hF := bif_t hb15 hF
              refine g_take hb15 (v_ldn (vs := [(i64 a0_0), (.slice pa0_1 (a0_1).length ca0_1), (.slice pa0_2 (a0_2).length ca0_2), (i64 a0_3)]) (st.at (i := 0) rfl).2.2 rfl ?_)
              obtain ⟨v16, e17, hF⟩ := bnd_some hF
              refine g_take hb15 (v_call st (ct78 N e17 st.d st.sub ra0_1 ra0_2) (fun n18 st => ?_))
              refine v_pick hb15 ?_
              refine v_move ?_
              refine r_nil ?_
              refine th_n ?_
              refine w_ret ?_
              obtain rfl := inj hF
              exact end_s st (Res.t gA Res.nil) rfl rfl
            · have hF := bif_f hb15 hF
              refine g_skip hb15 ?_
              refine g_skip hb15 ?_
              refine v_pick' hb15 ?_
              refine v_move ?_
              refine r_nil ?_
              refine th_n ?_
              refine w_ret ?_
              obtain rfl := inj hF
              exact end_s st (Res.t gA Res.nil) rfl rfl
          · have hF := bif_f hb11 hF
            refine g_skip hb11 ?_
            refine g_skip hb11 ?_
            refine v_pick' hb11 ?_
            refine v_move ?_
            refine g_skip rfl ?_
            refine g_skip rfl ?_
            refine v_pick' rfl ?_
            refine v_move ?_
            refine r_nil ?_
            refine th_n ?_
            refine w_ret ?_
            obtain rfl := inj hF
            exact end_s st (Res.t gA Res.nil) rfl rfl
        · have hF := bif_f hb7 hF
          refine g_skip hb7 ?_
          refine g_skip hb7 ?_
          refine v_pick' hb7 ?_
          refine v_move ?_
          refine g_skip rfl ?_
          refine g_skip rfl ?_
          refine v_pick' rfl ?_
          refine v_move ?_
          refine g_skip rfl ?_
          refine g_skip rfl ?_
          refine v_pick' rfl ?_
          refine v_move ?_
          refine r_nil ?_
          refine th_n ?_
          refine w_ret ?_
          obtain rfl := inj hF
          exact end_s st (Res.t gA Res.nil) rfl rfl
      · have hF := bif_f hb6 hF
        refine g_skip hb6 ?_
        refine g_skip hb6 ?_
        refine g_skip hb6 ?_
        refine v_pick' hb6 ?_
        refine v_move ?_
        refine g_skip rfl ?_
        refine g_skip rfl ?_
        refine v_pick' rfl ?_
        refine v_move ?_
        refine g_skip rfl ?_
        refine g_skip rfl ?_
        refine v_pick' rfl ?_
        refine v_move ?_
        refine g_skip rfl ?_
        refine g_skip rfl ?_
        refine v_pick' rfl ?_
        refine v_move ?_
        refine r_nil ?_
        refine th_n ?_
        refine w_ret ?_
        obtain rfl := inj hF
        exact end_s st (Res.t gA Res.nil) rfl rfl
    · have hF := bif_f hb5 hF
      refine g_skip hb5 ?_
      refine g_skip hb5 ?_
      refine g_skip hb5 ?_
      refine v_pick' hb5 ?_
      refine v_move ?_
      refine g_skip rfl ?_
      refine g_skip rfl ?_
      refine g_skip rfl ?_
      refine v_pick' rfl ?_
      refine v_move ?_
      refine g_skip rfl ?_
      refine g_skip rfl ?_
      refine v_pick' rfl ?_
      refine v_move ?_
      refine g_skip rfl ?_
      refine g_skip rfl ?_
      refine v_pick' rfl ?_
      refine v_move ?_
      refine g_skip rfl ?_
      refine g_skip rfl ?_
      refine v_pick' rfl ?_
      refine v_move ?_
      refine r_nil ?_
      refine th_n ?_
      refine w_ret ?_
      obtain rfl := inj hF
      exact end_s st (Res.t gA Res.nil) rfl rfl
  · have hF := bif_f hb4 hF
    refine g_skip hb4 ?_
    refine g_skip hb4 ?_
    refine g_skip hb4 ?_
    refine v_pick' hb4 ?_
    refine v_move ?_
    refine g_skip rfl ?_
    refine g_skip rfl ?_
    refine g_skip rfl ?_
    refine v_pick' rfl ?_
    refine v_move ?_
    refine g_skip rfl ?_
    refine g_skip rfl ?_
    refine g_skip rfl ?_
    refine v_pick' rfl ?_
    refine v_move ?_
    refine g_skip rfl ?_
    refine g_skip rfl ?_
    refine v_pick' rfl ?_
    refine v_move ?_
    refine g_skip rfl ?_
    refine g_skip rfl ?_
    refine v_pick' rfl ?_
    refine v_move ?_
    refine g_skip rfl ?_
    refine g_skip rfl ?_
    refine v_pick' rfl ?_
    refine v_move ?_
    refine r_nil ?_
    refine th_n ?_
    refine w_ret ?_
    obtain rfl := inj hF
    exact end_s st (Res.t gA Res.nil) rfl rfl
theorem ct61 (N : Nat) {a0 : (List (Int × Int))} {a1f0_0 : Int} {a1f0_1 : (List (Int × Int))} {a1f0_2 : (List (Int × Int × Int))} {a1f0_3 : Int} {a1f0_4 : (List Int)} {a1f0_5 : (List Int)} {a1f0_6 : Int} {r : Int} (hF : sf61 N a0 a1f0_0 a1f0_1 a1f0_2 a1f0_3 a1f0_4 a1f0_5 a1f0_6 = some r) {fl : Nat} {h0 : Tr HBlk} {n0 : Nat} {F0 : PH} (hd : D h0 n0) (hs : F0.sub h0) {pa0 : Option (Nat × Nat)} {ca0 : Nat} {pa1f0_1 : Option (Nat × Nat)} {ca1f0_1 : Nat} {pa1f0_2 : Option (Nat × Nat)} {ca1f0_2 : Nat} {pa1f0_4 : Option (Nat × Nat)} {ca1f0_4 : Nat} {pa1f0_5 : Option (Nat × Nat)} {ca1f0_5 : Nat} (ra0 : RowF (rP rI rI) 2 F0 pa0 ca0 a0) (ra1f0_1 : RowF (rP rI rI) 2 F0 pa1f0_1 ca1f0_1 a1f0_1) (ra1f0_2 : RowF (rP rI (rP rI rI)) 3 F0 pa1f0_2 ca1f0_2 a1f0_2) (ra1f0_4 : RowF rI 1 F0 pa1f0_4 ca1f0_4 a1f0_4) (ra1f0_5 : RowF rI 1 F0 pa1f0_5 ca1f0_5 a1f0_5) : C LW fl 61 [(.slice pa0 (a0).length ca0), (.func 63 [(.agg [(i64 a1f0_0), (.slice pa1f0_1 (a1f0_1).length ca1f0_1), (.slice pa1f0_2 (a1f0_2).length ca1f0_2), (i64 a1f0_3), (.slice pa1f0_4 (a1f0_4).length ca1f0_4), (.slice pa1f0_5 (a1f0_5).length ca1f0_5), (i64 a1f0_6)])] [])] ⟨h0, n0⟩ (KS (i64 r) n0 h0) := by
  unfold sf61 at hF
  refine in_cT hd hs lw61 rfl rfl (by rfl) (fun st T hT => ?_)
  have hfl : n0 ≤ n0 := Nat.le_refl n0
  have t0 := hT 0 _ rfl
  have t1 := hT 1 _ rfl
  dsimp only [L61]
  refine w_seq ?_
  refine w_reg ?_
  refine v_move ?_
  refine r_nil ?_
  refine th_n ?_
  refine w_seq ?_
  refine w_seq ?_
  refine w_reg ?_
  refine v_move ?_
  refine v_len ?_
  refine v_move ?_
  refine r_nil ?_
  refine th_n ?_
  refine w_block ?_
  obtain ⟨y10, hy, hF⟩ := bnd_some hF
  refine v_loopD (sf61_L1 N a0 a1f0_0 a1f0_1 a1f0_2 a1f0_3 a1f0_4 a1f0_5 a1f0_6) (fun x1 T ds2 h nx => ∃ (F2 : PH), ds2 = [] ∧ PH.le F0 F2 ∧ St n0 h0 F0 F2 h nx [] ∧ T.get 0 = some (.slice pa0 (a0).length ca0) ∧ T.get 1 = some (.func 63 [(.agg [(i64 a1f0_0), (.slice pa1f0_1 (a1f0_1).length ca1f0_1), (.slice pa1f0_2 (a1f0_2).length ca1f0_2), (i64 a1f0_3), (.slice pa1f0_4 (a1f0_4).length ca1f0_4), (.slice pa1f0_5 (a1f0_5).length ca1f0_5), (i64 a1f0_6)])] []) ∧ T.get 7 = some (i64 ((a0).length : Int)) ∧ T.get 8 = some (i64 x1)) (fun y e a σ => (∃ u, y = (.inl u) ∧ e = .ret ∧ a.nt = 19 ∧ ∃ (F12 : PH), a.defers = [] ∧ PH.le F0 F12 ∧ St n0 h0 F0 F12 σ.h σ.nx [] ∧ a.tmps.get 4 = some (i64 u)) ∨ (∃ u, y = (.inr u) ∧ e = .exit 0 ∧ a.nt = 19 ∧ ∃ (F14 : PH), a.defers = [] ∧ PH.le F0 F14 ∧ St n0 h0 F0 F14 σ.h σ.nx [])) (fun x1 T ds2 h nx s hp hF => ?_) N _ y10 _ _ _ _ hy ⟨F0, rfl, (PH.le.refl _), st, gA, gA, gA, gA⟩ (fun e a σ hne hq => ?_)
  · obtain ⟨F2, rfl, le2, st, t0, t1, t7, t8⟩ := hp
    unfold sf61_L1 at hF
    unfold L61w0
    refine w_seq ?_
    refine w_reg ?_
    refine v_lss ?_
    refine r_nil ?_
    refine th_n ?_
    refine w_seq ?_
    refine v_cond (fun hb15 => ?_) (fun hb15 => ?_)
    · have hF := bif_t hb15 hF
      refine w_skip ?_
      refine th_n ?_
      refine w_seq ?_
      refine w_block ?_
      refine w_seq ?_
      refine w_reg ?_
      refine v_move ?_
      refine v_move ?_
      refine r_nil ?_
      refine th_n ?_
      refine w_seq ?_
      refine w_reg ?_
      refine v_move ?_
      refine v_move ?_
      refine v_move ?_
      obtain ⟨n16, x16, z16, l16, g16, hF⟩ := ix_some hF
      obtain ⟨b16, o16, s16, j16, r16, e16, f16, k16, ⟨_, _, rfl, rfl, rfl⟩⟩ := RowF.get ra0 g16
      refine v_ixp e16 z16 l16 ?_
      refine v_ldn (st.sub _ _ (le2 _ _ f16)) k16 ?_
      obtain ⟨v17, e18, hF⟩ := bnd_some hF
      refine v_call st (ct63 N e18 st.d st.sub (RowF.mono le2 ra1f0_1) (RowF.mono le2 ra1f0_2) (RowF.mono le2 ra1f0_4) (RowF.mono le2 ra1f0_5)) (fun n19 st => ?_)
      refine r_nil ?_
      refine th_n ?_
      refine v_cond (fun hb20 => ?_) (fun hb20 => ?_)
      · have hF := bif_t hb20 hF
        refine w_seq ?_
        refine w_reg ?_
        refine v_move ?_
        refine v_move ?_
        refine r_nil ?_
        refine th_n ?_
        refine w_ret ?_
        refine ib_r ?_
        refine th_r ?_
        refine th_r ?_
        refine ⟨_, (inj hF).symm, .inl ⟨_, rfl, rfl, rfl, ?_⟩⟩
        dsimp only
        exact ⟨F2, rfl, le2, st, gA⟩
      · have hF := bif_f hb20 hF
        refine w_skip ?_
        refine ib_n ?_
        refine th_n ?_
        refine w_reg ?_
        obtain ⟨q21, hF⟩ := ck_some hF
        refine v_add q21 ?_
        refine v_move ?_
        refine r_nil ?_
        refine thn ⟨_, (inj hF).symm, rfl, ?_⟩
        dsimp only
        exact ⟨F2, rfl, le2, st, gA, gA, gA, gA⟩
    · have hF := bif_f hb15 hF
      refine w_exit ?_
      refine th_e ?_
      refine th_e ?_
      refine ⟨_, (inj hF).symm, .inr (⟨_, rfl, rfl, rfl, ?_⟩)⟩
      dsimp only
      exact ⟨F2, rfl, le2, st⟩
  · rcases hq with hq | hq
    · obtain ⟨N9, T, ds12⟩ := a
      obtain ⟨h22, n23⟩ := σ
      obtain ⟨w11, rfl, rfl, e1, F12, e2, le12, st, t4⟩ := hq
      dsimp only at e1 e2
      subst e1
      subst e2
      dsimp only at st t4
      have hF := sel_l hF
      refine ib_r ?_
      refine th_r ?_
      obtain rfl := inj hF
      exact end_s st (Res.t gA Res.nil) rfl rfl
    · obtain ⟨N9, T, ds14⟩ := a
      obtain ⟨h24, n25⟩ := σ
      obtain ⟨w13, rfl, rfl, e1, F14, e2, le14, st⟩ := hq
      dsimp only at e1 e2
      subst e1
      subst e2
      dsimp only at st
      have hF := sel_r hF
      refine ib_e ?_
      refine th_n ?_
      refine w_seq ?_
      refine w_reg ?_
      refine v_move ?_
      refine r_nil ?_
      refine th_n ?_
      refine w_ret ?_
      obtain rfl := inj hF
      exact end_s st (Res.t gA Res.nil) rfl rfl
theorem ct39 (N : Nat) {a0_0 : Int} {a0_1 : (List (Int × Int))} {a0_2 : (List (Int × Int × Int))} {a0_3 : Int} {a1 : (List Int)} {r : Int} (hF : sf39 N a0_0 a0_1 a0_2 a0_3 a1 = some r) {fl : Nat} {h0 : Tr HBlk} {n0 : Nat} {F0 : PH} (hd : D h0 n0) (hs : F0.sub h0) {pa0_1 : Option (Nat × Nat)} {ca0_1 : Nat} {pa0_2 : Option (Nat × Nat)} {ca0_2 : Nat} {pa1 : Option (Nat × Nat)} {ca1 : Nat} (ra0_1 : RowF (rP rI rI) 2 F0 pa0_1 ca0_1 a0_1) (ra0_2 : RowF (rP rI (rP rI rI)) 3 F0 pa0_2 ca0_2 a0_2) (ra1 : RowF rI 1 F0 pa1 ca1 a1) : C LW fl 39 [(.agg [(i64 a0_0), (.slice pa0_1 (a0_1).length ca0_1), (.slice pa0_2 (a0_2).length ca0_2), (i64 a0_3)]), (.slice pa1 (a1).length ca1)] ⟨h0, n0⟩ (KS (i64 r) n0 h0) := by
  unfold sf39 at hF
  refine in_cT hd hs lw39 rfl rfl (by rfl) (fun st T hT => ?_)
  have hfl : n0 ≤ n0 := Nat.le_refl n0
  have t0 := hT 0 _ rfl
  have t1 := hT 1 _ rfl
  dsimp only [L39]
  refine w_seq ?_
  refine w_reg ?_
  refine v_box st (fun b1 h2 n3 st => ?_)
  refine v_move ?_
  refine r_nil ?_
  refine th_n ?_
  refine w_seq ?_
  refine w_seq ?_
  refine w_reg ?_
  refine v_ldn (vs := [(i64 a0_0), (.slice pa0_1 (a0_1).length ca0_1), (.slice pa0_2 (a0_2).length ca0_2), (i64 a0_3)]) (st.at (i := 0) rfl).2.2 rfl ?_
  obtain ⟨v4, e5, hF⟩ := bnd_some hF
  refine v_call st (ct23 N e5 st.d st.sub ra0_1 ra0_2) (fun n6 st => ?_)
  refine v_move ?_
  refine r_nil ?_
  refine th_n ?_
  refine w_seq ?_
  refine w_reg ?_
  refine v_move ?_
  refine v_nei ?_
  refine r_nil ?_
  refine th_n ?_
  refine v_cond (fun hb7 => ?_) (fun hb7 => ?_)
  · have hF := bif_t hb7 hF
    refine w_seq ?_
    refine w_reg ?_
    refine v_move ?_
    refine v_move ?_
    refine r_nil ?_
    refine th_n ?_
    refine w_ret ?_
    refine th_r ?_
    obtain rfl := inj hF
    exact end_s st (Res.t gA Res.nil) rfl rfl
  · have hF := bif_f hb7 hF
    refine w_skip ?_
    refine th_n ?_
    refine w_seq ?_
    refine w_reg ?_
    refine v_move ?_
    obtain ⟨v8, e9, hF⟩ := bnd_some hF
    refine v_call st (ct68 N e9 st.d st.sub ra1) (fun n10 st => ?_)
    refine v_move ?_
    refine r_nil ?_
    refine th_n ?_
    refine w_ret ?_
    obtain rfl := inj hF
    exact end_s st (Res.t gA Res.nil) rfl rfl
end Go.Hx.V

/- Functions of the program come to that. -/
namespace Go.Hx.V
open Go.Hx
set_option linter.unusedVariables false
set_option maxRecDepth 20000
set_option maxHeartbeats 4000000
attribute [local irreducible] W R C thenH inBlockH Tr.get Tr.set lo
theorem ct18 (N : Nat) {a0_0 : Int} {a0_1 : (List (Int × Int))} {a0_2 : (List (Int × Int × Int))} {a0_3 : Int} {r : Int} (hF : sf18 N a0_0 a0_1 a0_2 a0_3 = some r) {fl : Nat} {h0 : Tr HBlk} {n0 : Nat} {F0 : PH} (hd : D h0 n0) (hs : F0.sub h0) {pa0_1 : Option (Nat × Nat)} {ca0_1 : Nat} {pa0_2 : Option (Nat × Nat)} {ca0_2 : Nat} (ra0_1 : RowF (rP rI rI) 2 F0 pa0_1 ca0_1 a0_1) (ra0_2 : RowF (rP rI (rP rI rI)) 3 F0 pa0_2 ca0_2 a0_2) : C LW fl 18 [(.agg [(i64 a0_0), (.slice pa0_1 (a0_1).length ca0_1), (.slice pa0_2 (a0_2).length ca0_2), (i64 a0_3)])] ⟨h0, n0⟩ (KS (i64 r) n0 h0) := by
  unfold sf18 at hF
  refine in_cT hd hs lw18 rfl rfl (by rfl) (fun st T hT => ?_)
  have hfl : n0 ≤ n0 := Nat.le_refl n0
  have t0 := hT 0 _ rfl
  dsimp only [L18]
  refine w_seq ?_
  refine w_reg ?_
  refine v_box st (fun b1 h2 n3 st => ?_)
  refine v_move ?_
  refine r_nil ?_
  refine th_n ?_
  refine w_seq ?_
  obtain ⟨y5, hA6, hF⟩ := bnd_some hF
  refine w_cutD (fun T ds8 h nx => ∃ (F8 : PH), ds8 = [] ∧ PH.le F0 F8 ∧ St n0 h0 F0 F8 h nx [.bx b1 [(i64 a0_0), (.slice pa0_1 (a0_1).length ca0_1), (.slice pa0_2 (a0_2).length ca0_2), (i64 a0_3)]] ∧ T.get 1 = some (.ptr (some (b1, 0))) ∧ T.get 12 = some (.bool y5)) ?_ (fun T ds8 h nx hp => ?_)
  · have hK7 := hF
    have hF := hA6
    refine w_reg ?_
    refine v_fa ?_
    refine v_ld1 (st.at (i := 0) rfl).2.2 rfl ?_
    refine v_len ?_
    refine v_gtr ?_
    refine v_move ?_
    rcases Bool.eq_false_or_eq_true (decide ((8 : Int) < ((a0_1).length : Int))) with hb9 | hb9
    · have hF := bif_t hb9 hF
      refine g_skip hb9 ?_
      refine g_skip hb9 ?_
      refine g_skip hb9 ?_
      refine g_skip hb9 ?_
      refine v_pick hb9 ?_
      refine r_nil ?_
      obtain rfl := inj hF
      refine thn ⟨rfl, ?_⟩
      dsimp only
      exact ⟨F0, rfl, (PH.le.refl _), st, gA, gA⟩
    · have hF := bif_f hb9 hF
      refine g_take hb9 (v_fa ?_)
      refine g_take hb9 (v_ld1 (st.at (i := 0) rfl).2.2 rfl ?_)
      refine g_take hb9 (v_len ?_)
      refine g_take hb9 (v_gtr ?_)
      refine v_pick' hb9 ?_
      refine r_nil ?_
      obtain rfl := inj hF
      refine thn ⟨rfl, ?_⟩
      dsimp only
      exact ⟨F0, rfl, (PH.le.refl _), st, gA, gA⟩
  · obtain ⟨F8, rfl, le8, st, t1, t12⟩ := hp
    refine v_cond (fun hb10 => ?_) (fun hb10 => ?_)
    · have hF := bif_t hb10 hF
      refine w_seq ?_
      refine w_reg ?_
      refine v_move ?_
      refine r_nil ?_
      refine th_n ?_
      refine w_ret ?_
      refine th_r ?_
      obtain rfl := inj hF
      exact end_s st (Res.t gA Res.nil) rfl rfl
    · have hF := bif_f hb10 hF
      refine w_skip ?_
      refine th_n ?_
      refine w_seq ?_
      refine w_seq ?_
      refine w_reg ?_
      refine v_ldn (vs := [(i64 a0_0), (.slice pa0_1 (a0_1).length ca0_1), (.slice pa0_2 (a0_2).length ca0_2), (i64 a0_3)]) (st.at (i := 0) rfl).2.2 rfl ?_
      obtain ⟨v11, e12, hF⟩ := bnd_some hF
      refine v_call st (ct50 N e12 st.d st.sub (RowF.mono le8 ra0_1) (RowF.mono le8 ra0_2)) (fun n13 st => ?_)
      refine v_not ?_
      refine r_nil ?_
      refine th_n ?_
      refine v_cond (fun hb14 => ?_) (fun hb14 => ?_)
      · have hF := bif_t hb14 hF
        refine w_seq ?_
        refine w_reg ?_
        refine v_move ?_
        refine r_nil ?_
        refine th_n ?_
        refine w_ret ?_
        refine th_r ?_
        obtain rfl := inj hF
        exact end_s st (Res.t gA Res.nil) rfl rfl
      · have hF := bif_f hb14 hF
        refine w_skip ?_
        refine th_n ?_
        refine w_seq ?_
        refine w_reg ?_
        refine v_move ?_
        refine r_nil ?_
        refine th_n ?_
        refine w_ret ?_
        obtain rfl := inj hF
        exact end_s st (Res.t gA Res.nil) rfl rfl
theorem ct32 (N : Nat) {a0_0 : Int} {a0_1 : (List (Int × Int))} {a0_2 : (List (Int × Int × Int))} {a0_3 : Int} {a1 : (List Int)} {a2 : (List Int)} {r : Int} (hF : sf32 N a0_0 a0_1 a0_2 a0_3 a1 a2 = some r) {fl : Nat} {h0 : Tr HBlk} {n0 : Nat} {F0 : PH} (hd : D h0 n0) (hs : F0.sub h0) {pa0_1 : Option (Nat × Nat)} {ca0_1 : Nat} {pa0_2 : Option (Nat × Nat)} {ca0_2 : Nat} {pa1 : Option (Nat × Nat)} {ca1 : Nat} {pa2 : Option (Nat × Nat)} {ca2 : Nat} (ra0_1 : RowF (rP rI rI) 2 F0 pa0_1 ca0_1 a0_1) (ra0_2 : RowF (rP rI (rP rI rI)) 3 F0 pa0_2 ca0_2 a0_2) (ra1 : RowF rI 1 F0 pa1 ca1 a1) (ra2 : RowF rI 1 F0 pa2 ca2 a2) : C LW fl 32 [(.agg [(i64 a0_0), (.slice pa0_1 (a0_1).length ca0_1), (.slice pa0_2 (a0_2).length ca0_2), (i64 a0_3)]), (.slice pa1 (a1).length ca1), (.slice pa2 (a2).length ca2)] ⟨h0, n0⟩ (KS (i64 r) n0 h0) := by
  unfold sf32 at hF
  refine in_cT hd hs lw32 rfl rfl (by rfl) (fun st T hT => ?_)
  have hfl : n0 ≤ n0 := Nat.le_refl n0
  have t0 := hT 0 _ rfl
  have t1 := hT 1 _ rfl
  have t2 := hT 2 _ rfl
  dsimp only [L32]
  refine w_seq ?_
  refine w_reg ?_
  refine v_box st (fun b1 h2 n3 st => ?_)
  refine v_move ?_
  refine r_nil ?_
  refine th_n ?_
  refine w_seq ?_
  refine w_seq ?_
  refine w_reg ?_
  refine v_ldn (vs := [(i64 a0_0), (.slice pa0_1 (a0_1).length ca0_1), (.slice pa0_2 (a0_2).length ca0_2), (i64 a0_3)]) (st.at (i := 0) rfl).2.2 rfl ?_
  refine v_move ?_
  obtain ⟨v4, e5, hF⟩ := bnd_some hF
  refine v_call st (ct39 N e5 st.d st.sub ra0_1 ra0_2 ra1) (fun n6 st => ?_)
  refine v_move ?_
  refine r_nil ?_
  refine th_n ?_
  refine w_seq ?_
  refine w_reg ?_
  refine v_move ?_
  refine v_nei ?_
  refine r_nil ?_
  refine th_n ?_
  refine v_cond (fun hb7 => ?_) (fun hb7 => ?_)
  · have hF := bif_t hb7 hF
    refine w_seq ?_
    refine w_reg ?_
    refine v_move ?_
    refine v_move ?_
    refine r_nil ?_
    refine th_n ?_
    refine w_ret ?_
    refine th_r ?_
    obtain rfl := inj hF
    exact end_s st (Res.t gA Res.nil) rfl rfl
  · have hF := bif_f hb7 hF
    refine w_skip ?_
    refine th_n ?_
    refine w_seq ?_
    refine w_seq ?_
    refine w_reg ?_
    refine v_ldn (vs := [(i64 a0_0), (.slice pa0_1 (a0_1).length ca0_1), (.slice pa0_2 (a0_2).length ca0_2), (i64 a0_3)]) (st.at (i := 0) rfl).2.2 rfl ?_
    refine v_move ?_
    refine v_move ?_
    obtain ⟨v8, e9, hF⟩ := bnd_some hF
    refine v_call st (ct64 N e9 st.d st.sub ra0_1 ra0_2 ra1 ra2) (fun n10 st => ?_)
    refine v_not ?_
    refine r_nil ?_
    refine th_n ?_
    refine v_cond (fun hb11 => ?_) (fun hb11 => ?_)
    · have hF := bif_t hb11 hF
      refine w_seq ?_
      refine w_reg ?_
      refine v_move ?_
      refine r_nil ?_
      refine th_n ?_
      refine w_ret ?_
      refine th_r ?_
      obtain rfl := inj hF
      exact end_s st (Res.t gA Res.nil) rfl rfl
    · have hF := bif_f hb11 hF
      refine w_skip ?_
      refine th_n ?_
      refine w_seq ?_
      refine w_reg ?_
      refine v_move ?_
      refine r_nil ?_
      refine th_n ?_
      refine w_ret ?_
      obtain rfl := inj hF
      exact end_s st (Res.t gA Res.nil) rfl rfl
end Go.Hx.V

/- Functions of the program come to that. -/
namespace Go.Hx.V
open Go.Hx
set_option linter.unusedVariables false
set_option maxRecDepth 20000
set_option maxHeartbeats 4000000
attribute [local irreducible] W R C thenH inBlockH Tr.get Tr.set lo
theorem ct66 (N : Nat) {a0_0 : Int} {a0_1 : (List (Int × Int))} {a0_2 : (List (Int × Int × Int))} {a0_3 : Int} {a1 : (List Int)} {r : Int} (hF : sf66 N a0_0 a0_1 a0_2 a0_3 a1 = some r) {fl : Nat} {h0 : Tr HBlk} {n0 : Nat} {F0 : PH} (hd : D h0 n0) (hs : F0.sub h0) {pa0_1 : Option (Nat × Nat)} {ca0_1 : Nat} {pa0_2 : Option (Nat × Nat)} {ca0_2 : Nat} {pa1 : Option (Nat × Nat)} {ca1 : Nat} (ra0_1 : RowF (rP rI rI) 2 F0 pa0_1 ca0_1 a0_1) (ra0_2 : RowF (rP rI (rP rI rI)) 3 F0 pa0_2 ca0_2 a0_2) (ra1 : RowF rI 1 F0 pa1 ca1 a1) : C LW fl 66 [(.agg [(i64 a0_0), (.slice pa0_1 (a0_1).length ca0_1), (.slice pa0_2 (a0_2).length ca0_2), (i64 a0_3)]), (.slice pa1 (a1).length ca1)] ⟨h0, n0⟩ (KS (i64 r) n0 h0) := by
  unfold sf66 at hF
  refine in_cT hd hs lw66 rfl rfl (by rfl) (fun st T hT => ?_)
  have hfl : n0 ≤ n0 := Nat.le_refl n0
  have t0 := hT 0 _ rfl
  have t1 := hT 1 _ rfl
  dsimp only [L66]
  refine w_seq ?_
  refine w_reg ?_
  refine v_box st (fun b1 h2 n3 st => ?_)
  refine v_move ?_
  refine r_nil ?_
  refine th_n ?_
  refine w_seq ?_
  refine w_seq ?_
  refine w_reg ?_
  refine v_ldn (vs := [(i64 a0_0), (.slice pa0_1 (a0_1).length ca0_1), (.slice pa0_2 (a0_2).length ca0_2), (i64 a0_3)]) (st.at (i := 0) rfl).2.2 rfl ?_
  obtain ⟨v4, e5, hF⟩ := bnd_some hF
  refine v_call st (ct18 N e5 st.d st.sub ra0_1 ra0_2) (fun n6 st => ?_)
  refine v_move ?_
  refine r_nil ?_
  refine th_n ?_
  refine w_seq ?_
  refine w_reg ?_
  refine v_move ?_
  refine v_nei ?_
  refine r_nil ?_
  refine th_n ?_
  refine v_cond (fun hb7 => ?_) (fun hb7 => ?_)
  · have hF := bif_t hb7 hF
    refine w_seq ?_
    refine w_reg ?_
    refine v_move ?_
    refine v_move ?_
    refine r_nil ?_
    refine th_n ?_
    refine w_ret ?_
    refine th_r ?_
    obtain rfl := inj hF
    exact end_s st (Res.t gA Res.nil) rfl rfl
  · have hF := bif_f hb7 hF
    refine w_skip ?_
    refine th_n ?_
    refine w_seq ?_
    refine w_seq ?_
    refine w_reg ?_
    refine v_move ?_
    refine v_len ?_
    refine v_gtr ?_
    refine r_nil ?_
    refine th_n ?_
    refine v_cond (fun hb8 => ?_) (fun hb8 => ?_)
    · have hF := bif_t hb8 hF
      refine w_seq ?_
      refine w_reg ?_
      refine v_move ?_
      refine r_nil ?_
      refine th_n ?_
      refine w_ret ?_
      refine th_r ?_
      obtain rfl := inj hF
      exact end_s st (Res.t gA Res.nil) rfl rfl
    · have hF := bif_f hb8 hF
      refine w_skip ?_
      refine th_n ?_
      refine w_seq ?_
      obtain ⟨y17, hA18, hF⟩ := bnd_some hF
      refine w_cutD (fun T ds20 h nx => ∃ (F20 : PH), ds20 = [] ∧ PH.le F0 F20 ∧ St n0 h0 F0 F20 h nx [.bx b1 [(i64 a0_0), (.slice pa0_1 (a0_1).length ca0_1), (.slice pa0_2 (a0_2).length ca0_2), (i64 a0_3)]] ∧ T.get 26 = some (.bool y17)) ?_ (fun T ds20 h nx hp => ?_)
      · have hK19 := hF
        have hF := hA18
        refine w_reg ?_
        refine v_move ?_
        refine v_len ?_
        refine v_eqi ?_
        refine v_move ?_
        rcases Bool.eq_false_or_eq_true (decide (((a1).length : Int) = (0 : Int))) with hb21 | hb21
        · have hF := bif_t hb21 hF
          refine g_skip hb21 ?_
          refine g_skip hb21 ?_
          refine g_skip hb21 ?_
          refine v_pick hb21 ?_
          refine v_move ?_
          refine g_skip rfl ?_
          refine g_skip rfl ?_
          refine g_skip rfl ?_
          refine v_pick rfl ?_
          refine r_nil ?_
          obtain rfl := inj hF
          refine thn ⟨rfl, ?_⟩
          dsimp only
          exact ⟨F0, rfl, (PH.le.refl _), st, gA⟩
        · have hF := bif_f hb21 hF
          refine g_take hb21 (v_move ?_)
          obtain ⟨v22, e23, hF⟩ := bnd_some hF
          refine g_take hb21 (v_call st (ct87 N e23 st.d st.sub ra1) (fun n24 st => ?_))
          refine g_take hb21 (v_not ?_)
          refine v_pick' hb21 ?_
          refine v_move ?_
          rcases Bool.eq_false_or_eq_true (!v22) with hb25 | hb25
          · have hF := bif_t hb25 hF
            refine g_skip hb25 ?_
            refine g_skip hb25 ?_
            refine g_skip hb25 ?_
            refine v_pick hb25 ?_
            refine r_nil ?_
            obtain rfl := inj hF
            refine thn ⟨rfl, ?_⟩
            dsimp only
            exact ⟨F0, rfl, (PH.le.refl _), st, gA⟩
          · have hF := bif_f hb25 hF
            refine g_take hb25 (v_move ?_)
            obtain ⟨v26, e27, hF⟩ := bnd_some hF
            refine g_take hb25 (v_call st (ct88 N e27 st.d st.sub ra1) (fun n28 st => ?_))
            refine g_take hb25 (v_not ?_)
            refine v_pick' hb25 ?_
            refine r_nil ?_
            obtain rfl := inj hF
            refine thn ⟨rfl, ?_⟩
            dsimp only
            exact ⟨F0, rfl, (PH.le.refl _), st, gA⟩
      · obtain ⟨F20, rfl, le20, st, t26⟩ := hp
        refine v_cond (fun hb29 => ?_) (fun hb29 => ?_)
        · have hF := bif_t hb29 hF
          refine w_seq ?_
          refine w_reg ?_
          refine v_move ?_
          refine r_nil ?_
          refine th_n ?_
          refine w_ret ?_
          refine th_r ?_
          obtain rfl := inj hF
          exact end_s st (Res.t gA Res.nil) rfl rfl
        · have hF := bif_f hb29 hF
          refine w_skip ?_
          refine th_n ?_
          refine w_seq ?_
          refine w_reg ?_
          refine v_move ?_
          refine r_nil ?_
          refine th_n ?_
          refine w_ret ?_
          obtain rfl := inj hF
          exact end_s st (Res.t gA Res.nil) rfl rfl
end Go.Hx.V

/- Functions of the program come to that. -/
namespace Go.Hx.V
open Go.Hx
set_option linter.unusedVariables false
set_option maxRecDepth 20000
set_option maxHeartbeats 4000000
attribute [local irreducible] W R C thenH inBlockH Tr.get Tr.set lo
theorem ct57 (N : Nat) {a0_0 : Int} {a0_1 : (List (Int × Int))} {a0_2 : (List (Int × Int × Int))} {a0_3 : Int} {a1 : (List Int)} {a2 : (List Int)} {r : Int} (hF : sf57 N a0_0 a0_1 a0_2 a0_3 a1 a2 = some r) {fl : Nat} {h0 : Tr HBlk} {n0 : Nat} {F0 : PH} (hd : D h0 n0) (hs : F0.sub h0) {pa0_1 : Option (Nat × Nat)} {ca0_1 : Nat} {pa0_2 : Option (Nat × Nat)} {ca0_2 : Nat} {pa1 : Option (Nat × Nat)} {ca1 : Nat} {pa2 : Option (Nat × Nat)} {ca2 : Nat} (ra0_1 : RowF (rP rI rI) 2 F0 pa0_1 ca0_1 a0_1) (ra0_2 : RowF (rP rI (rP rI rI)) 3 F0 pa0_2 ca0_2 a0_2) (ra1 : RowF rI 1 F0 pa1 ca1 a1) (ra2 : RowF rI 1 F0 pa2 ca2 a2) : C LW fl 57 [(.agg [(i64 a0_0), (.slice pa0_1 (a0_1).length ca0_1), (.slice pa0_2 (a0_2).length ca0_2), (i64 a0_3)]), (.slice pa1 (a1).length ca1), (.slice pa2 (a2).length ca2)] ⟨h0, n0⟩ (KS (i64 r) n0 h0) := by
  unfold sf57 at hF
  refine in_cT hd hs lw57 rfl rfl (by rfl) (fun st T hT => ?_)
  have hfl : n0 ≤ n0 := Nat.le_refl n0
  have t0 := hT 0 _ rfl
  have t1 := hT 1 _ rfl
  have t2 := hT 2 _ rfl
  dsimp only [L57]
  refine w_seq ?_
  refine w_reg ?_
  refine v_box st (fun b1 h2 n3 st => ?_)
  refine v_move ?_
  refine r_nil ?_
  refine th_n ?_
  refine w_seq ?_
  refine w_seq ?_
  refine w_reg ?_
  refine v_ldn (vs := [(i64 a0_0), (.slice pa0_1 (a0_1).length ca0_1), (.slice pa0_2 (a0_2).length ca0_2), (i64 a0_3)]) (st.at (i := 0) rfl).2.2 rfl ?_
  refine v_move ?_
  obtain ⟨v4, e5, hF⟩ := bnd_some hF
  refine v_call st (ct66 N e5 st.d st.sub ra0_1 ra0_2 ra1) (fun n6 st => ?_)
  refine v_move ?_
  refine r_nil ?_
  refine th_n ?_
  refine w_seq ?_
  refine w_reg ?_
  refine v_move ?_
  refine v_nei ?_
  refine r_nil ?_
  refine th_n ?_
  refine v_cond (fun hb7 => ?_) (fun hb7 => ?_)
  · have hF := bif_t hb7 hF
    refine w_seq ?_
    refine w_reg ?_
    refine v_move ?_
    refine v_move ?_
    refine r_nil ?_
    refine th_n ?_
    refine w_ret ?_
    refine th_r ?_
    obtain rfl := inj hF
    exact end_s st (Res.t gA Res.nil) rfl rfl
  · have hF := bif_f hb7 hF
    refine w_skip ?_
    refine th_n ?_
    refine w_seq ?_
    obtain ⟨y16, hA17, hF⟩ := bnd_some hF
    refine w_cutD (fun T ds19 h nx => ∃ (F19 : PH), ds19 = [] ∧ PH.le F0 F19 ∧ St n0 h0 F0 F19 h nx [.bx b1 [(i64 a0_0), (.slice pa0_1 (a0_1).length ca0_1), (.slice pa0_2 (a0_2).length ca0_2), (i64 a0_3)]] ∧ T.get 30 = some (.bool y16)) ?_ (fun T ds19 h nx hp => ?_)
    · have hK18 := hF
      have hF := hA17
      refine w_reg ?_
      refine v_move ?_
      refine v_len ?_
      refine v_move ?_
      refine v_len ?_
      refine v_nei ?_
      refine v_move ?_
      rcases Bool.eq_false_or_eq_true (!(decide (((a2).length : Int) = ((a1).length : Int)))) with hb20 | hb20
      · have hF := bif_t hb20 hF
        refine g_skip hb20 ?_
        refine g_skip hb20 ?_
        refine g_skip hb20 ?_
        refine g_skip hb20 ?_
        refine g_skip hb20 ?_
        refine v_pick hb20 ?_
        refine v_move ?_
        refine g_skip rfl ?_
        refine g_skip rfl ?_
        refine g_skip rfl ?_
        refine v_pick rfl ?_
        refine r_nil ?_
        obtain rfl := inj hF
        refine thn ⟨rfl, ?_⟩
        dsimp only
        exact ⟨F0, rfl, (PH.le.refl _), st, gA⟩
      · have hF := bif_f hb20 hF
        refine g_take hb20 (v_move ?_)
        refine g_take hb20 (v_ldn (vs := [(i64 a0_0), (.slice pa0_1 (a0_1).length ca0_1), (.slice pa0_2 (a0_2).length ca0_2), (i64 a0_3)]) (st.at (i := 0) rfl).2.2 rfl ?_)
        refine g_take hb20 (v_mf ?_)
        obtain ⟨v21, e22, hF⟩ := bnd_some hF
        refine g_take hb20 (v_call st (ct87_2 N e22 st.d st.sub ra2 ra0_1 ra0_2) (fun n23 st => ?_))
        refine g_take hb20 (v_not ?_)
        refine v_pick' hb20 ?_
        refine v_move ?_
        rcases Bool.eq_false_or_eq_true (!v21) with hb24 | hb24
        · have hF := bif_t hb24 hF
          refine g_skip hb24 ?_
          refine g_skip hb24 ?_
          refine g_skip hb24 ?_
          refine v_pick hb24 ?_
          refine r_nil ?_
          obtain rfl := inj hF
          refine thn ⟨rfl, ?_⟩
          dsimp only
          exact ⟨F0, rfl, (PH.le.refl _), st, gA⟩
        · have hF := bif_f hb24 hF
          refine g_take hb24 (v_move ?_)
          obtain ⟨v25, e26, hF⟩ := bnd_some hF
          refine g_take hb24 (v_call st (ct88 N e26 st.d st.sub ra2) (fun n27 st => ?_))
          refine g_take hb24 (v_not ?_)
          refine v_pick' hb24 ?_
          refine r_nil ?_
          obtain rfl := inj hF
          refine thn ⟨rfl, ?_⟩
          dsimp only
          exact ⟨F0, rfl, (PH.le.refl _), st, gA⟩
    · obtain ⟨F19, rfl, le19, st, t30⟩ := hp
      refine v_cond (fun hb28 => ?_) (fun hb28 => ?_)
      · have hF := bif_t hb28 hF
        refine w_seq ?_
        refine w_reg ?_
        refine v_move ?_
        refine r_nil ?_
        refine th_n ?_
        refine w_ret ?_
        refine th_r ?_
        obtain rfl := inj hF
        exact end_s st (Res.t gA Res.nil) rfl rfl
      · have hF := bif_f hb28 hF
        refine w_skip ?_
        refine th_n ?_
        refine w_seq ?_
        refine w_reg ?_
        refine v_move ?_
        refine r_nil ?_
        refine th_n ?_
        refine w_ret ?_
        obtain rfl := inj hF
        exact end_s st (Res.t gA Res.nil) rfl rfl
end Go.Hx.V

/- Functions of the program come to that. -/
namespace Go.Hx.V
open Go.Hx
set_option linter.unusedVariables false
set_option maxRecDepth 20000
set_option maxHeartbeats 4000000
attribute [local irreducible] W R C thenH inBlockH Tr.get Tr.set lo
end Go.Hx.V

/- Functions of the program come to that. -/
namespace Go.Hx.V
open Go.Hx
set_option linter.unusedVariables false
set_option maxRecDepth 20000
set_option maxHeartbeats 4000000
attribute [local irreducible] W R C thenH inBlockH Tr.get Tr.set lo
theorem ct29 (N : Nat) {a0_0 : Int} {a0_1 : (List (Int × Int))} {a0_2 : (List (Int × Int × Int))} {a0_3 : Int} {a1 : (List Int)} {a2 : (List Int)} {r : ((List (Int × Int)) × Int)} (hF : sf29 N a0_0 a0_1 a0_2 a0_3 a1 a2 = some r) {fl : Nat} {h0 : Tr HBlk} {n0 : Nat} {F0 : PH} (hd : D h0 n0) (hs : F0.sub h0) (hfl : fl ≤ n0) {pa0_1 : Option (Nat × Nat)} {ca0_1 : Nat} {pa0_2 : Option (Nat × Nat)} {ca0_2 : Nat} {pa1 : Option (Nat × Nat)} {ca1 : Nat} {pa2 : Option (Nat × Nat)} {ca2 : Nat} (ra0_1 : RowF (rP rI rI) 2 F0 pa0_1 ca0_1 a0_1) (ra0_2 : RowF (rP rI (rP rI rI)) 3 F0 pa0_2 ca0_2 a0_2) (ra1 : RowF rI 1 F0 pa1 ca1 a1) (ra2 : RowF rI 1 F0 pa2 ca2 a2) : C LW fl 29 [(.agg [(i64 a0_0), (.slice pa0_1 (a0_1).length ca0_1), (.slice pa0_2 (a0_2).length ca0_2), (i64 a0_3)]), (.slice pa1 (a1).length ca1), (.slice pa2 (a2).length ca2)] ⟨h0, n0⟩ (KR (rvT2 (lvL (rP rI rI) 2) lvI) F0 h0 n0 r) := by
  unfold sf29 at hF
  refine in_mT hd hs hfl lw29 rfl rfl (by rfl) (fun st T hT => ?_)
  have t0 := hT 0 _ rfl
  have t1 := hT 1 _ rfl
  have t2 := hT 2 _ rfl
  dsimp only [L29]
  refine w_seq ?_
  refine w_reg ?_
  refine v_box st (fun b1 h2 n3 st => ?_)
  refine v_move ?_
  refine v_move ?_
  refine r_nil ?_
  refine th_n ?_
  refine w_seq ?_
  refine w_seq ?_
  refine w_reg ?_
  refine v_ldn (vs := [(i64 a0_0), (.slice pa0_1 (a0_1).length ca0_1), (.slice pa0_2 (a0_2).length ca0_2), (i64 a0_3)]) (st.at (i := 0) rfl).2.2 rfl ?_
  refine v_move ?_
  refine v_move ?_
  obtain ⟨v4, e5, hF⟩ := bnd_some hF
  refine v_call st (ct57 N e5 st.d st.sub ra0_1 ra0_2 ra1 ra2) (fun n6 st => ?_)
  refine v_move ?_
  refine r_nil ?_
  refine th_n ?_
  refine w_seq ?_
  refine w_reg ?_
  refine v_move ?_
  refine v_nei ?_
  refine r_nil ?_
  refine th_n ?_
  refine v_cond (fun hb7 => ?_) (fun hb7 => ?_)
  · have hF := bif_t hb7 hF
    refine w_seq ?_
    refine w_reg ?_
    refine v_move ?_
    refine v_move ?_
    refine v_move ?_
    refine r_nil ?_
    refine th_n ?_
    refine w_ret ?_
    refine th_r ?_
    obtain rfl := inj hF
    exact end_r st (Res.t gA (Res.t gA Res.nil)) ⟨_, _, rfl, ⟨none, 0, rfl, RowF.nil⟩, rfl⟩
  · have hF := bif_f hb7 hF
    refine w_skip ?_
    refine th_n ?_
    refine w_seq ?_
    refine w_reg ?_
    refine v_ldn (vs := [(i64 a0_0), (.slice pa0_1 (a0_1).length ca0_1), (.slice pa0_2 (a0_2).length ca0_2), (i64 a0_3)]) (st.at (i := 0) rfl).2.2 rfl ?_
    obtain ⟨v8, e9, hF⟩ := bnd_some hF
    refine v_callR st (ct54 N e9 st.d st.sub (Nat.le_trans hfl st.ext.le) ra0_1 ra0_2) (fun u10 F10 h10 n10 le10 rv10 st => ?_)
    obtain ⟨_, rfl, ⟨_, _, rfl, rfl, ⟨_, _, rfl, ⟨py11, cy11, rfl, ry11⟩, ⟨_, _, rfl, ⟨py12, cy12, rfl, ry12⟩, ⟨_, _, rfl, rfl, ⟨_, _, rfl, ⟨py13, cy13, rfl, ry13⟩, ⟨py14, cy14, rfl, ry14⟩⟩⟩⟩⟩⟩⟩ := rv10
    refine v_alloc st (fun b15 h16 n17 st => ?_)
    refine v_st (cs' := [(i64 v8.1), (.slice py11 (v8.2.1).length cy11), (.slice py12 (v8.2.2.1).length cy12), (i64 v8.2.2.2.1), (.slice py13 (v8.2.2.2.2.1).length cy13), (.slice py14 (v8.2.2.2.2.2).length cy14)]) st 1 rfl rfl rfl rfl hfl (fun h18 st => ?_)
    refine r_nil ?_
    refine th_n ?_
    refine w_seq ?_
    refine w_reg ?_
    refine v_move ?_
    refine v_len ?_
    obtain ⟨q19, hF⟩ := ck_some hF
    have w19 : LR (rP rI rI) 2 F10 (List.replicate (Int.toNat (0 : Int)) (0, 0)) (Go.Hx.repl (Int.toNat (0 : Int)) [(i64 (0 : Int)), (i64 (0 : Int))]) := LR.repl (⟨[(i64 (0 : Int))], [(i64 (0 : Int))], rfl, rfl, rfl⟩) _
    refine v_mk st (n := (List.replicate (Int.toNat (0 : Int)) (0, 0)).length) q19.1 q19.2.1 (by simp) q19.2.2.1 q19.2.2.2 (fun o19 h19 n19 st => ?_)
    refine v_move ?_
    refine r_nil ?_
    refine th_n ?_
    refine w_seq ?_
    refine w_seq ?_
    refine w_reg ?_
    refine v_move ?_
    refine v_move ?_
    obtain ⟨v20, e21, hF⟩ := bnd_some hF
    refine v_callR st (ct58 N e21 st.d st.sub (Nat.le_trans hfl st.ext.le) (RowF.mono le10 ra1) (RowF.mono le10 ra2)) (fun u22 F22 h22 n22 le22 rv22 st => ?_)
    have le23 := PH.le.trans le10 le22
    obtain ⟨py24, cy24, rfl, ry24⟩ := rv22
    refine v_len ?_
    refine v_move ?_
    refine r_nil ?_
    refine th_n ?_
    refine w_block ?_
    obtain ⟨y44, hy, hF⟩ := bnd_some hF
    refine v_loopD (sf29_L1 N v8 v20) (fun x25 T ds26 h nx => ∃ (F26 : PH) (o27 : Option Nat) (c27 : Nat) (cs27 : List HV), ds26 = [] ∧ PH.le F22 F26 ∧ St n0 h0 F0 F26 h nx [.bx b1 [(i64 a0_0), (.slice pa0_1 (a0_1).length ca0_1), (.slice pa0_2 (a0_2).length ca0_2), (i64 a0_3)], .bx b15 [(i64 v8.1), (.slice py11 (v8.2.1).length cy11), (.slice py12 (v8.2.2.1).length cy12), (i64 v8.2.2.2.1), (.slice py13 (v8.2.2.2.2.1).length cy13), (.slice py14 (v8.2.2.2.2.2).length cy14)], .ls o27 c27 cs27 2] ∧ LR (rP rI rI) 2 F26 x25.1 cs27 ∧ T.get 9 = some (.ptr (some (b15, 0))) ∧ T.get 10 = some (slv o27 (x25.1).length c27) ∧ T.get 27 = some (.slice py24 (v20).length cy24) ∧ T.get 28 = some (i64 ((v20).length : Int)) ∧ T.get 29 = some (i64 x25.2)) (fun y e a σ => e = .exit 0 ∧ a.nt = 41 ∧ ∃ (F45 : PH) (o46 : Option Nat) (c46 : Nat) (cs46 : List HV), a.defers = [] ∧ PH.le F22 F45 ∧ St n0 h0 F0 F45 σ.h σ.nx [.bx b1 [(i64 a0_0), (.slice pa0_1 (a0_1).length ca0_1), (.slice pa0_2 (a0_2).length ca0_2), (i64 a0_3)], .bx b15 [(i64 v8.1), (.slice py11 (v8.2.1).length cy11), (.slice py12 (v8.2.2.1).length cy12), (i64 v8.2.2.2.1), (.slice py13 (v8.2.2.2.2.1).length cy13), (.slice py14 (v8.2.2.2.2.2).length cy14)], .ls o46 c46 cs46 2] ∧ LR (rP rI rI) 2 F45 y cs46 ∧ a.tmps.get 10 = some (slv o46 (y).length c46)) (fun x25 T ds26 h nx s hp hF => ?_) N _ y44 _ _ _ _ hy ⟨F22, o19, (Int.toNat ((a1).length : Int)), (Go.Hx.repl (Int.toNat (0 : Int)) [(i64 (0 : Int)), (i64 (0 : Int))]), rfl, (PH.le.refl _), st, (LR.mono le22 w19), gA, gA, gA, gA, gA⟩ (fun e a σ hne hq => ?_)
    · obtain ⟨F26, o27, c27, cs27, rfl, le26, st, w27, t9, t10, t27, t28, t29⟩ := hp
      have le28 := PH.le.trans le23 le26
      have le29 := PH.le.trans le22 le26
      unfold sf29_L1 at hF
      unfold L29w0
      refine w_seq ?_
      refine w_reg ?_
      refine v_lss ?_
      refine r_nil ?_
      refine th_n ?_
      refine w_seq ?_
      refine v_cond (fun hb47 => ?_) (fun hb47 => ?_)
      · have hF := bif_t hb47 hF
        refine w_skip ?_
        refine th_n ?_
        refine w_seq ?_
        refine w_block ?_
        refine w_seq ?_
        refine w_reg ?_
        obtain ⟨n48, x48, z48, l48, g48, hF⟩ := ix_some hF
        obtain ⟨b48, o48, s48, j48, r48, e48, f48, k48, ⟨_, _, rfl, rfl, rfl⟩⟩ := RowF.get ry24 g48
        refine v_ixp e48 z48 l48 ?_
        refine v_ldn (st.sub _ _ (le26 _ _ f48)) k48 ?_
        refine v_alloc st (fun b49 h50 n51 st => ?_)
        refine v_st (cs' := [(i64 x48.1), (i64 x48.2)]) st 3 rfl rfl rfl rfl hfl (fun h52 st => ?_)
        refine r_nil ?_
        refine th_n ?_
        refine w_reg ?_
        refine v_move ?_
        refine v_ldn (vs := [(i64 v8.1), (.slice py11 (v8.2.1).length cy11), (.slice py12 (v8.2.2.1).length cy12), (i64 v8.2.2.2.1), (.slice py13 (v8.2.2.2.2.1).length cy13), (.slice py14 (v8.2.2.2.2.2).length cy14)]) (st.at (i := 1) rfl).2.2 rfl ?_
        refine v_ldn (vs := [(i64 x48.1), (i64 x48.2)]) (st.at (i := 3) rfl).2.2 rfl ?_
        obtain ⟨v53, e54, hF⟩ := bnd_some hF
        refine v_call st (ct59 N e54 st.d st.sub (RowF.mono le29 ry11) (RowF.mono le29 ry12) (RowF.mono le29 ry13) (RowF.mono le29 ry14)) (fun n55 st => ?_)
        refine v_bs (cs := [(i64 v53.1), (i64 v53.2)]) st rfl (fun b56 h57 n58 st => ?_)
        obtain ⟨q59, hF⟩ := ck_some hF
        have w59 : LR (rP rI rI) 2 F26 (x25.1 ++ [(v53.1, v53.2)]) (cs27 ++ [(i64 v53.1), (i64 v53.2)]) := LR.app w27 (LR.one (⟨[(i64 v53.1)], [(i64 v53.2)], rfl, rfl, rfl⟩))
        refine v_aps (n := 1) (ox := 0) (m := (x25.1 ++ [(v53.1, v53.2)]).length) (row := [(i64 v53.1), (i64 v53.2)]) st 2 rfl w27.1 (st.at (i := 4) rfl).2.2 rfl rfl q59 hfl (by decide) (by decide) (by simp) (fun o59 c59 h59 n59 st => ?_)
        refine v_move ?_
        refine r_nil ?_
        refine ib_n ?_
        refine th_n ?_
        refine w_reg ?_
        obtain ⟨q60, hF⟩ := ck_some hF
        refine v_add q60 ?_
        refine v_move ?_
        refine r_nil ?_
        refine thn ⟨_, (inj hF).symm, rfl, ?_⟩
        dsimp only
        exact ⟨F26, o59, c59, (cs27 ++ [(i64 v53.1), (i64 v53.2)]), rfl, le26, (st.drop (by first | exact List.Sublist.refl _ | (repeat first | exact List.nil_sublist _ | refine List.Sublist.cons_cons _ ?_ | refine List.Sublist.cons _ ?_))), w59, gA, gA, gA, gA, gA⟩
      · have hF := bif_f hb47 hF
        refine w_exit ?_
        refine th_e ?_
        refine th_e ?_
        refine ⟨_, (inj hF).symm, rfl, rfl, ?_⟩
        dsimp only
        exact ⟨F26, o27, c27, cs27, rfl, le26, st, w27, gA⟩
    · obtain ⟨N9, T, ds45⟩ := a
      obtain ⟨h63, n64⟩ := σ
      obtain ⟨rfl, e1, F45, o46, c46, cs46, e2, le45, st, w46, t10⟩ := hq
      dsimp only at e1 e2
      subst e1
      subst e2
      dsimp only at st t10
      have le61 := PH.le.trans le23 le45
      have le62 := PH.le.trans le22 le45
      refine ib_e ?_
      refine th_n ?_
      refine w_seq ?_
      refine w_reg ?_
      refine v_move ?_
      refine v_move ?_
      refine v_move ?_
      refine r_nil ?_
      refine th_n ?_
      refine w_ret ?_
      obtain rfl := inj hF
      obtain ⟨F65, le65, st, rf65⟩ := St.freeze st 2 rfl w46 (by decide)
      have le66 := PH.le.trans le61 le65
      have le67 := PH.le.trans le62 le65
      have le68 := PH.le.trans le45 le65
      exact end_r st (Res.t gA (Res.t gA Res.nil)) ⟨_, _, rfl, ⟨_, _, rfl, rf65⟩, rfl⟩
theorem ct31 (N : Nat) {a0_0 : Int} {a0_1 : (List (Int × Int))} {a0_2 : (List (Int × Int × Int))} {a0_3 : Int} {a1 : (List Int)} {a2 : (List Int)} {a3 : Int} {r : (Int × Int)} (hF : sf31 N a0_0 a0_1 a0_2 a0_3 a1 a2 a3 = some r) {fl : Nat} {h0 : Tr HBlk} {n0 : Nat} {F0 : PH} (hd : D h0 n0) (hs : F0.sub h0) {pa0_1 : Option (Nat × Nat)} {ca0_1 : Nat} {pa0_2 : Option (Nat × Nat)} {ca0_2 : Nat} {pa1 : Option (Nat × Nat)} {ca1 : Nat} {pa2 : Option (Nat × Nat)} {ca2 : Nat} (ra0_1 : RowF (rP rI rI) 2 F0 pa0_1 ca0_1 a0_1) (ra0_2 : RowF (rP rI (rP rI rI)) 3 F0 pa0_2 ca0_2 a0_2) (ra1 : RowF rI 1 F0 pa1 ca1 a1) (ra2 : RowF rI 1 F0 pa2 ca2 a2) : C LW fl 31 [(.agg [(i64 a0_0), (.slice pa0_1 (a0_1).length ca0_1), (.slice pa0_2 (a0_2).length ca0_2), (i64 a0_3)]), (.slice pa1 (a1).length ca1), (.slice pa2 (a2).length ca2), (i64 a3)] ⟨h0, n0⟩ (KS (.tuple [(i64 r.1), (i64 r.2)]) n0 h0) := by
  unfold sf31 at hF
  refine in_cT hd hs lw31 rfl rfl (by rfl) (fun st T hT => ?_)
  have hfl : n0 ≤ n0 := Nat.le_refl n0
  have t0 := hT 0 _ rfl
  have t1 := hT 1 _ rfl
  have t2 := hT 2 _ rfl
  have t3 := hT 3 _ rfl
  dsimp only [L31]
  refine w_seq ?_
  refine w_reg ?_
  refine v_box st (fun b1 h2 n3 st => ?_)
  refine v_move ?_
  refine v_move ?_
  refine r_nil ?_
  refine th_n ?_
  refine w_seq ?_
  refine w_seq ?_
  refine w_reg ?_
  refine v_ldn (vs := [(i64 a0_0), (.slice pa0_1 (a0_1).length ca0_1), (.slice pa0_2 (a0_2).length ca0_2), (i64 a0_3)]) (st.at (i := 0) rfl).2.2 rfl ?_
  refine v_move ?_
  refine v_move ?_
  obtain ⟨v4, e5, hF⟩ := bnd_some hF
  refine v_call st (ct57 N e5 st.d st.sub ra0_1 ra0_2 ra1 ra2) (fun n6 st => ?_)
  refine v_move ?_
  refine r_nil ?_
  refine th_n ?_
  refine w_seq ?_
  refine w_reg ?_
  refine v_move ?_
  refine v_nei ?_
  refine r_nil ?_
  refine th_n ?_
  refine v_cond (fun hb7 => ?_) (fun hb7 => ?_)
  · have hF := bif_t hb7 hF
    refine w_seq ?_
    refine w_reg ?_
    refine v_move ?_
    refine v_move ?_
    refine v_move ?_
    refine r_nil ?_
    refine th_n ?_
    refine w_ret ?_
    refine th_r ?_
    obtain rfl := inj hF
    exact end_s st (Res.t gA (Res.t gA Res.nil)) rfl rfl
  · have hF := bif_f hb7 hF
    refine w_skip ?_
    refine th_n ?_
    refine w_seq ?_
    refine w_seq ?_
    refine w_reg ?_
    refine v_move ?_
    obtain ⟨v8, e9, hF⟩ := bnd_some hF
    refine v_call st (ct60 N e9 st.d st.sub ) (fun n10 st => ?_)
    refine v_not ?_
    refine r_nil ?_
    refine th_n ?_
    refine v_cond (fun hb11 => ?_) (fun hb11 => ?_)
    · have hF := bif_t hb11 hF
      refine w_seq ?_
      refine w_reg ?_
      refine v_move ?_
      refine v_move ?_
      refine r_nil ?_
      refine th_n ?_
      refine w_ret ?_
      refine th_r ?_
      obtain rfl := inj hF
      exact end_s st (Res.t gA (Res.t gA Res.nil)) rfl rfl
    · have hF := bif_f hb11 hF
      refine w_skip ?_
      refine th_n ?_
      refine w_seq ?_
      refine w_drawV (Nat.le_trans hfl st.ext.le) (fun dw => ?_)
      have wf := Wf.start st
      refine y_pure st.d dw (fun hm vw => v_move pr_nil) ?_
      refine y_pure st.d dw (fun hm vw => v_move pr_nil) ?_
      obtain ⟨v12, e13, hF⟩ := bnd_some hF
      refine y_deep st dw wf (fun hm vw => u_callR (ct58 N e13 vw.d (FF.sub wf st vw) (Nat.max_le.2 ⟨by have := dw.le; have := st.ext.le; omega, Nat.le_refl _⟩) (RowF.mono FF.base ra1) (RowF.mono FF.base ra2)) (fun v F' h' n' ex l1 l2 l3 l4 => r_nil ⟨_, _, rfl, ex, l1, l2, l3, l4⟩)) (fun u14 F14 n14 done hn' dw14 wf14 rv14 le14 => ?_)
      have wf := wf14
      have dw := dw14
      obtain ⟨py15, cy15, rfl, ry15⟩ := rv14
      refine y_pure st.d dw (fun hm vw => v_ldn (vs := [(i64 a0_0), (.slice pa0_1 (a0_1).length ca0_1), (.slice pa0_2 (a0_2).length ca0_2), (i64 a0_3)]) (vw.bx (st.at (i := 0) rfl)) rfl pr_nil) ?_
      refine y_end st.d dw rfl (fun h16 ex vs => ?_)
      obtain ⟨F17, lt17, st⟩ := St.laidF st dw wf ex vs (Lay.nil (by have := dw.le; omega)) (fun e he => by cases he)
      have lz18 := lt17 _ (le14 (fun _ => true) rfl (fun _ _ => rfl))
      have lb17 := lt17 _ FF.base
      refine v_move ?_
      obtain ⟨v19, e20, hF⟩ := bnd_some hF
      refine v_callR st (ct62 N e20 st.d st.sub (Nat.le_trans hfl st.ext.le) (RowF.mono lb17 ra0_1) (RowF.mono lb17 ra0_2)) (fun u21 F21 h21 n21 le21 rv21 st => ?_)
      have le22 := PH.le.trans lb17 le21
      have le23 := PH.le.trans lz18 le21
      obtain ⟨_, rfl, ⟨_, _, rfl, rfl, ⟨_, _, rfl, ⟨py24, cy24, rfl, ry24⟩, ⟨_, _, rfl, ⟨py25, cy25, rfl, ry25⟩, ⟨_, _, rfl, rfl, ⟨_, _, rfl, ⟨py26, cy26, rfl, ry26⟩, ⟨_, _, rfl, ⟨py27, cy27, rfl, ry27⟩, rfl⟩⟩⟩⟩⟩⟩⟩ := rv21
      refine v_mf ?_
      obtain ⟨v28, e29, hF⟩ := bnd_some hF
      refine v_call st (ct61 N e29 st.d st.sub (RowF.mono le23 ry15) ry24 ry25 ry26 ry27) (fun n30 st => ?_)
      refine v_move ?_
      refine r_nil ?_
      refine th_n ?_
      refine w_seq ?_
      refine w_seq ?_
      refine w_reg ?_
      refine v_move ?_
      refine v_lss ?_
      refine r_nil ?_
      refine th_n ?_
      refine v_cond (fun hb31 => ?_) (fun hb31 => ?_)
      · have hF := bif_t hb31 hF
        refine w_seq ?_
        refine w_reg ?_
        refine v_move ?_
        refine v_move ?_
        refine r_nil ?_
        refine th_n ?_
        refine w_ret ?_
        refine th_r ?_
        obtain rfl := inj hF
        exact end_s st (Res.t gA (Res.t gA Res.nil)) rfl rfl
      · have hF := bif_f hb31 hF
        refine w_skip ?_
        refine th_n ?_
        refine w_seq ?_
        refine w_reg ?_
        refine v_move ?_
        refine v_move ?_
        refine v_move ?_
        refine r_nil ?_
        refine th_n ?_
        refine w_ret ?_
        obtain rfl := inj hF
        exact end_s st (Res.t gA (Res.t gA Res.nil)) rfl rfl
end Go.Hx.V

/- Functions of the program come to that. -/
namespace Go.Hx.V
open Go.Hx
set_option linter.unusedVariables false
set_option maxRecDepth 20000
set_option maxHeartbeats 4000000
attribute [local irreducible] W R C thenH inBlockH Tr.get Tr.set lo
end Go.Hx.V

/- Functions of the program come to that. -/
namespace Go.Hx.V
open Go.Hx
set_option linter.unusedVariables false
set_option maxRecDepth 20000
set_option maxHeartbeats 4000000
attribute [local irreducible] W R C thenH inBlockH Tr.get Tr.set lo
end Go.Hx.V

/- Functions of the program come to that. -/
namespace Go.Hx.V
open Go.Hx
set_option linter.unusedVariables false
set_option maxRecDepth 20000
set_option maxHeartbeats 4000000
attribute [local irreducible] W R C thenH inBlockH Tr.get Tr.set lo
end Go.Hx.V

/- Functions of the program come to that. -/
namespace Go.Hx.V
open Go.Hx
set_option linter.unusedVariables false
set_option maxRecDepth 20000
set_option maxHeartbeats 4000000
attribute [local irreducible] W R C thenH inBlockH Tr.get Tr.set lo
theorem ct4 (N : Nat) {a0_0 : Int} {a0_1 : (List (Int × Int))} {a0_2 : (List (Int × Int × Int))} {a0_3 : Int} {a1 : (List Int)} {a2 : (List Int)} {a3 : Int} {r : Bool} (hF : sf4 N a0_0 a0_1 a0_2 a0_3 a1 a2 a3 = some r) {fl : Nat} {h0 : Tr HBlk} {n0 : Nat} {F0 : PH} (hd : D h0 n0) (hs : F0.sub h0) {pa0_1 : Option (Nat × Nat)} {ca0_1 : Nat} {pa0_2 : Option (Nat × Nat)} {ca0_2 : Nat} {pa1 : Option (Nat × Nat)} {ca1 : Nat} {pa2 : Option (Nat × Nat)} {ca2 : Nat} (ra0_1 : RowF (rP rI rI) 2 F0 pa0_1 ca0_1 a0_1) (ra0_2 : RowF (rP rI (rP rI rI)) 3 F0 pa0_2 ca0_2 a0_2) (ra1 : RowF rI 1 F0 pa1 ca1 a1) (ra2 : RowF rI 1 F0 pa2 ca2 a2) : C LW fl 4 [(.agg [(i64 a0_0), (.slice pa0_1 (a0_1).length ca0_1), (.slice pa0_2 (a0_2).length ca0_2), (i64 a0_3)]), (.slice pa1 (a1).length ca1), (.slice pa2 (a2).length ca2), (i64 a3)] ⟨h0, n0⟩ (KS (.bool r) n0 h0) := by
  unfold sf4 at hF
  refine in_cT hd hs lw4 rfl rfl (by rfl) (fun st T hT => ?_)
  have hfl : n0 ≤ n0 := Nat.le_refl n0
  have t0 := hT 0 _ rfl
  have t1 := hT 1 _ rfl
  have t2 := hT 2 _ rfl
  have t3 := hT 3 _ rfl
  dsimp only [L4]
  refine w_seq ?_
  refine w_reg ?_
  refine v_box st (fun b1 h2 n3 st => ?_)
  refine v_move ?_
  refine r_nil ?_
  refine th_n ?_
  refine w_seq ?_
  refine w_seq ?_
  refine w_reg ?_
  refine v_ldn (vs := [(i64 a0_0), (.slice pa0_1 (a0_1).length ca0_1), (.slice pa0_2 (a0_2).length ca0_2), (i64 a0_3)]) (st.at (i := 0) rfl).2.2 rfl ?_
  refine v_move ?_
  refine v_move ?_
  obtain ⟨v4, e5, hF⟩ := bnd_some hF
  refine v_call st (ct16 N e5 st.d st.sub ra0_1 ra0_2 ra1 ra2) (fun n6 st => ?_)
  refine v_not ?_
  refine r_nil ?_
  refine th_n ?_
  refine v_cond (fun hb7 => ?_) (fun hb7 => ?_)
  · have hF := bif_t hb7 hF
    refine w_seq ?_
    refine w_reg ?_
    refine v_call st (ct_wakes (h := _) (nx := _)) (fun n8 st => ?_)
    refine v_move ?_
    refine r_nil ?_
    refine th_n ?_
    refine w_ret ?_
    refine th_r ?_
    obtain rfl := inj hF
    exact end_s st (Res.t gA Res.nil) rfl rfl
  · have hF := bif_f hb7 hF
    refine w_skip ?_
    refine th_n ?_
    refine w_seq ?_
    refine w_reg ?_
    refine v_ldn (vs := [(i64 a0_0), (.slice pa0_1 (a0_1).length ca0_1), (.slice pa0_2 (a0_2).length ca0_2), (i64 a0_3)]) (st.at (i := 0) rfl).2.2 rfl ?_
    obtain ⟨v9, e10, hF⟩ := bnd_some hF
    refine v_callR st (ct19 N e10 st.d st.sub (Nat.le_trans hfl st.ext.le) ra0_1 ra0_2) (fun u11 F11 h11 n11 le11 rv11 st => ?_)
    obtain ⟨_, rfl, ⟨_, _, rfl, rfl, ⟨_, _, rfl, ⟨py12, cy12, rfl, ry12⟩, ⟨_, _, rfl, ⟨py13, cy13, rfl, ry13⟩, rfl⟩⟩⟩⟩ := rv11
    refine v_move ?_
    obtain ⟨v14, e15, hF⟩ := bnd_some hF
    refine v_callR st (ct30 N e15 st.d st.sub (Nat.le_trans hfl st.ext.le) (RowF.mono le11 ra1)) (fun u16 F16 h16 n16 le16 rv16 st => ?_)
    have le17 := PH.le.trans le11 le16
    obtain ⟨py18, cy18, rfl, ry18⟩ := rv16
    refine v_move ?_
    obtain ⟨v19, e20, hF⟩ := bnd_some hF
    refine v_callR st (ct30 N e20 st.d st.sub (Nat.le_trans hfl st.ext.le) (RowF.mono le17 ra2)) (fun u21 F21 h21 n21 le21 rv21 st => ?_)
    have le22 := PH.le.trans le17 le21
    have le23 := PH.le.trans le16 le21
    obtain ⟨py24, cy24, rfl, ry24⟩ := rv21
    obtain ⟨v25, e26, hF⟩ := bnd_some hF
    refine v_callR st (ct29 N e26 st.d st.sub (Nat.le_trans hfl st.ext.le) (RowF.mono le23 ry12) (RowF.mono le23 ry13) (RowF.mono le21 ry18) ry24) (fun u27 F27 h27 n27 le27 rv27 st => ?_)
    have le28 := PH.le.trans le22 le27
    have le29 := PH.le.trans le23 le27
    have le30 := PH.le.trans le21 le27
    obtain ⟨_, _, rfl, ⟨py31, cy31, rfl, ry31⟩, rfl⟩ := rv27
    refine v_move ?_
    refine v_xt rfl ?_
    refine v_xt rfl ?_
    refine v_move ?_
    refine v_move ?_
    refine r_nil ?_
    refine th_n ?_
    refine w_seq ?_
    refine w_reg ?_
    refine v_ldn (vs := [(i64 a0_0), (.slice pa0_1 (a0_1).length ca0_1), (.slice pa0_2 (a0_2).length ca0_2), (i64 a0_3)]) (st.at (i := 0) rfl).2.2 rfl ?_
    obtain ⟨v32, e33, hF⟩ := bnd_some hF
    refine v_callR st (ct19 N e33 st.d st.sub (Nat.le_trans hfl st.ext.le) (RowF.mono le28 ra0_1) (RowF.mono le28 ra0_2)) (fun u34 F34 h34 n34 le34 rv34 st => ?_)
    have le35 := PH.le.trans le28 le34
    have le36 := PH.le.trans le29 le34
    have le37 := PH.le.trans le30 le34
    have le38 := PH.le.trans le27 le34
    obtain ⟨_, rfl, ⟨_, _, rfl, rfl, ⟨_, _, rfl, ⟨py39, cy39, rfl, ry39⟩, ⟨_, _, rfl, ⟨py40, cy40, rfl, ry40⟩, rfl⟩⟩⟩⟩ := rv34
    refine v_move ?_
    obtain ⟨v41, e42, hF⟩ := bnd_some hF
    refine v_callR st (ct30 N e42 st.d st.sub (Nat.le_trans hfl st.ext.le) (RowF.mono le35 ra1)) (fun u43 F43 h43 n43 le43 rv43 st => ?_)
    have le44 := PH.le.trans le35 le43
    have le45 := PH.le.trans le36 le43
    have le46 := PH.le.trans le37 le43
    have le47 := PH.le.trans le38 le43
    have le48 := PH.le.trans le34 le43
    obtain ⟨py49, cy49, rfl, ry49⟩ := rv43
    refine v_move ?_
    obtain ⟨v50, e51, hF⟩ := bnd_some hF
    refine v_callR st (ct30 N e51 st.d st.sub (Nat.le_trans hfl st.ext.le) (RowF.mono le44 ra2)) (fun u52 F52 h52 n52 le52 rv52 st => ?_)
    have le53 := PH.le.trans le44 le52
    have le54 := PH.le.trans le45 le52
    have le55 := PH.le.trans le46 le52
    have le56 := PH.le.trans le47 le52
    have le57 := PH.le.trans le48 le52
    have le58 := PH.le.trans le43 le52
    obtain ⟨py59, cy59, rfl, ry59⟩ := rv52
    refine v_move ?_
    obtain ⟨v60, e61, hF⟩ := bnd_some hF
    refine v_call st (ct31 N e61 st.d st.sub (RowF.mono le58 ry39) (RowF.mono le58 ry40) (RowF.mono le52 ry49) ry59) (fun n62 st => ?_)
    refine v_move ?_
    refine v_xt rfl ?_
    refine v_xt rfl ?_
    refine v_move ?_
    refine v_move ?_
    refine r_nil ?_
    refine th_n ?_
    refine w_seq ?_
    refine w_reg ?_
    refine v_ldn (vs := [(i64 a0_0), (.slice pa0_1 (a0_1).length ca0_1), (.slice pa0_2 (a0_2).length ca0_2), (i64 a0_3)]) (st.at (i := 0) rfl).2.2 rfl ?_
    refine v_move ?_
    refine v_move ?_
    obtain ⟨v63, e64, hF⟩ := bnd_some hF
    refine v_call st (ct32 N e64 st.d st.sub (RowF.mono le53 ra0_1) (RowF.mono le53 ra0_2) (RowF.mono le53 ra1) (RowF.mono le53 ra2)) (fun n65 st => ?_)
    refine v_move ?_
    refine r_nil ?_
    refine th_n ?_
    refine w_seq ?_
    refine w_seq ?_
    refine w_reg ?_
    refine v_move ?_
    refine v_nei ?_
    refine r_nil ?_
    refine th_n ?_
    refine v_cond (fun hb66 => ?_) (fun hb66 => ?_)
    · have hF := bif_t hb66 hF
      refine w_seq ?_
      refine w_reg ?_
      refine v_move ?_
      refine v_move ?_
      refine v_eqi ?_
      refine v_move ?_
      rcases Bool.eq_false_or_eq_true (decide (v25.2 = v63)) with hb67 | hb67
      · have hF := bif_t hb67 hF
        refine g_take hb67 (v_move ?_)
        refine g_take hb67 (v_move ?_)
        refine g_take hb67 (v_eqi ?_)
        refine v_pick hb67 ?_
        refine v_move ?_
        rcases Bool.eq_false_or_eq_true (decide (v60.2 = v63)) with hb68 | hb68
        · have hF := bif_t hb68 hF
          refine g_take hb68 (v_move ?_)
          refine g_take hb68 (v_len ?_)
          refine g_take hb68 (v_eqi ?_)
          refine v_pick hb68 ?_
          refine v_move ?_
          rcases Bool.eq_false_or_eq_true (decide (((v25.1).length : Int) = (0 : Int))) with hb69 | hb69
          · have hF := bif_t hb69 hF
            refine g_take hb69 (v_move ?_)
            refine g_take hb69 (v_eqi ?_)
            refine v_pick hb69 ?_
            refine v_move ?_
            rcases Bool.eq_false_or_eq_true (decide (v60.1 = (0 : Int))) with hb70 | hb70
            · have hF := bif_t hb70 hF
              refine g_take hb70 (v_call st (ct_wakes (h := _) (nx := _)) (fun n71 st => ?_))
              refine v_pick hb70 ?_
              refine v_move ?_
              refine r_nil ?_
              refine th_n ?_
              refine w_ret ?_
              refine th_r ?_
              obtain rfl := inj hF
              exact end_s st (Res.t gA Res.nil) rfl rfl
            · have hF := bif_f hb70 hF
              refine g_skip hb70 ?_
              refine v_pick' hb70 ?_
              refine v_move ?_
              refine r_nil ?_
              refine th_n ?_
              refine w_ret ?_
              refine th_r ?_
              obtain rfl := inj hF
              exact end_s st (Res.t gA Res.nil) rfl rfl
          · have hF := bif_f hb69 hF
            refine g_skip hb69 ?_
            refine g_skip hb69 ?_
            refine v_pick' hb69 ?_
            refine v_move ?_
            refine g_skip rfl ?_
            refine v_pick' rfl ?_
            refine v_move ?_
            refine r_nil ?_
            refine th_n ?_
            refine w_ret ?_
            refine th_r ?_
            obtain rfl := inj hF
            exact end_s st (Res.t gA Res.nil) rfl rfl
        · have hF := bif_f hb68 hF
          refine g_skip hb68 ?_
          refine g_skip hb68 ?_
          refine g_skip hb68 ?_
          refine v_pick' hb68 ?_
          refine v_move ?_
          refine g_skip rfl ?_
          refine g_skip rfl ?_
          refine v_pick' rfl ?_
          refine v_move ?_
          refine g_skip rfl ?_
          refine v_pick' rfl ?_
          refine v_move ?_
          refine r_nil ?_
          refine th_n ?_
          refine w_ret ?_
          refine th_r ?_
          obtain rfl := inj hF
          exact end_s st (Res.t gA Res.nil) rfl rfl
      · have hF := bif_f hb67 hF
        refine g_skip hb67 ?_
        refine g_skip hb67 ?_
        refine g_skip hb67 ?_
        refine v_pick' hb67 ?_
        refine v_move ?_
        refine g_skip rfl ?_
        refine g_skip rfl ?_
        refine g_skip rfl ?_
        refine v_pick' rfl ?_
        refine v_move ?_
        refine g_skip rfl ?_
        refine g_skip rfl ?_
        refine v_pick' rfl ?_
        refine v_move ?_
        refine g_skip rfl ?_
        refine v_pick' rfl ?_
        refine v_move ?_
        refine r_nil ?_
        refine th_n ?_
        refine w_ret ?_
        refine th_r ?_
        obtain rfl := inj hF
        exact end_s st (Res.t gA Res.nil) rfl rfl
    · have hF := bif_f hb66 hF
      refine w_skip ?_
      refine th_n ?_
      obtain ⟨y86, hA87, hF⟩ := bnd_some hF
      refine w_cutD (fun T ds92 h nx => ∃ u, y86 = (.inr u) ∧ ∃ (F92 : PH), ds92 = [] ∧ PH.le F52 F92 ∧ St n0 h0 F0 F92 h nx [.bx b1 [(i64 a0_0), (.slice pa0_1 (a0_1).length ca0_1), (.slice pa0_2 (a0_2).length ca0_2), (i64 a0_3)]] ∧ T.get 1 = some (.slice pa1 (a1).length ca1) ∧ T.get 2 = some (.slice pa2 (a2).length ca2) ∧ T.get 3 = some (i64 a3) ∧ T.get 4 = some (.ptr (some (b1, 0))) ∧ T.get 9 = some (.slice py31 (v25.1).length cy31) ∧ T.get 11 = some (i64 v60.1) ∧ T.get 12 = some (i64 v60.2)) ?_ (fun T ds92 h nx hp => ?_)
      · have hK88 := hF
        have hF := hA87
        obtain ⟨y94, hA95, hF⟩ := bnd_some hF
        refine w_cutD (fun T ds97 h nx => ∃ (F97 : PH), ds97 = [] ∧ PH.le F52 F97 ∧ St n0 h0 F0 F97 h nx [.bx b1 [(i64 a0_0), (.slice pa0_1 (a0_1).length ca0_1), (.slice pa0_2 (a0_2).length ca0_2), (i64 a0_3)]] ∧ T.get 1 = some (.slice pa1 (a1).length ca1) ∧ T.get 2 = some (.slice pa2 (a2).length ca2) ∧ T.get 3 = some (i64 a3) ∧ T.get 4 = some (.ptr (some (b1, 0))) ∧ T.get 9 = some (.slice py31 (v25.1).length cy31) ∧ T.get 11 = some (i64 v60.1) ∧ T.get 12 = some (i64 v60.2) ∧ T.get 78 = some (.bool y94)) ?_ (fun T ds97 h nx hp => ?_)
        · have hK96 := hF
          have hF := hA95
          refine w_reg ?_
          refine v_move ?_
          refine v_nei ?_
          refine v_move ?_
          rcases Bool.eq_false_or_eq_true (!(decide (v25.2 = (0 : Int)))) with hb98 | hb98
          · have hF := bif_t hb98 hF
            refine g_skip hb98 ?_
            refine g_skip hb98 ?_
            refine g_skip hb98 ?_
            refine g_skip hb98 ?_
            refine g_skip hb98 ?_
            refine v_pick hb98 ?_
            refine r_nil ?_
            obtain rfl := inj hF
            refine thn ⟨rfl, ?_⟩
            dsimp only
            exact ⟨F52, rfl, (PH.le.refl _), st, gA, gA, gA, gA, gA, gA, gA, gA⟩
          · have hF := bif_f hb98 hF
            refine g_take hb98 (v_move ?_)
            refine g_take hb98 (v_len ?_)
            refine g_take hb98 (v_move ?_)
            refine g_take hb98 (v_len ?_)
            refine g_take hb98 (v_nei ?_)
            refine v_pick' hb98 ?_
            refine r_nil ?_
            obtain rfl := inj hF
            refine thn ⟨rfl, ?_⟩
            dsimp only
            exact ⟨F52, rfl, (PH.le.refl _), st, gA, gA, gA, gA, gA, gA, gA, gA⟩
        · obtain ⟨F97, rfl, le97, st, t1, t2, t3, t4, t9, t11, t12, t78⟩ := hp
          have le99 := PH.le.trans le53 le97
          have le100 := PH.le.trans le54 le97
          have le101 := PH.le.trans le55 le97
          have le102 := PH.le.trans le56 le97
          have le103 := PH.le.trans le57 le97
          have le104 := PH.le.trans le58 le97
          have le105 := PH.le.trans le52 le97
          refine v_cond (fun hb106 => ?_) (fun hb106 => ?_)
          · have hF := bif_t hb106 hF
            refine w_seq ?_
            refine w_reg ?_
            refine v_move ?_
            refine r_nil ?_
            refine th_n ?_
            refine w_ret ?_
            obtain rfl := inj hF
            have hF := hK88
            have hF := sel_l hF
            refine th_r ?_
            obtain rfl := inj hF
            exact end_s st (Res.t gA Res.nil) rfl rfl
          · have hF := bif_f hb106 hF
            refine w_skip ?_
            obtain rfl := inj hF
            refine thn ⟨rfl, _, rfl, ?_⟩
            dsimp only
            exact ⟨F97, rfl, le97, st, gA, gA, gA, gA, gA, gA, gA⟩
      · obtain ⟨w91, rfl, F92, rfl, le92, st, t1, t2, t3, t4, t9, t11, t12⟩ := hp
        have hF := sel_r hF
        have le114 := PH.le.trans le53 le92
        have le115 := PH.le.trans le54 le92
        have le116 := PH.le.trans le55 le92
        have le117 := PH.le.trans le56 le92
        have le118 := PH.le.trans le57 le92
        have le119 := PH.le.trans le58 le92
        have le120 := PH.le.trans le52 le92
        refine w_seq ?_
        refine w_reg ?_
        refine v_move ?_
        refine v_len ?_
        refine v_move ?_
        refine r_nil ?_
        refine th_n ?_
        refine w_seq ?_
        refine w_seq ?_
        refine w_reg ?_
        refine v_move ?_
        refine v_len ?_
        obtain ⟨q121, hF⟩ := ck_some hF
        refine v_sub q121 ?_
        refine v_move ?_
        refine r_nil ?_
        refine th_n ?_
        refine w_block ?_
        obtain ⟨y158, hy, hF⟩ := bnd_some hF
        refine v_loopD (sf4_L1 N a0_0 a0_1 a0_2 a0_3 a1 a2 a3 v25) (fun x122 T ds123 h nx => ∃ (F123 : PH), ds123 = [] ∧ PH.le F92 F123 ∧ St n0 h0 F0 F123 h nx [.bx b1 [(i64 a0_0), (.slice pa0_1 (a0_1).length ca0_1), (.slice pa0_2 (a0_2).length ca0_2), (i64 a0_3)]] ∧ T.get 1 = some (.slice pa1 (a1).length ca1) ∧ T.get 2 = some (.slice pa2 (a2).length ca2) ∧ T.get 3 = some (i64 a3) ∧ T.get 4 = some (.ptr (some (b1, 0))) ∧ T.get 9 = some (.slice py31 (v25.1).length cy31) ∧ T.get 11 = some (i64 v60.1) ∧ T.get 12 = some (i64 v60.2) ∧ T.get 14 = some (i64 x122.1) ∧ T.get 15 = some (i64 x122.2)) (fun y e a σ => (∃ u, y = (.inl u) ∧ e = .ret ∧ a.nt = 162 ∧ ∃ (F160 : PH), a.defers = [] ∧ PH.le F92 F160 ∧ St n0 h0 F0 F160 σ.h σ.nx [.bx b1 [(i64 a0_0), (.slice pa0_1 (a0_1).length ca0_1), (.slice pa0_2 (a0_2).length ca0_2), (i64 a0_3)]] ∧ a.tmps.get 8 = some (.bool false)) ∨ (∃ u, y = (.inr u) ∧ e = .exit 0 ∧ a.nt = 162 ∧ ∃ (F162 : PH), a.defers = [] ∧ PH.le F92 F162 ∧ St n0 h0 F0 F162 σ.h σ.nx [.bx b1 [(i64 a0_0), (.slice pa0_1 (a0_1).length ca0_1), (.slice pa0_2 (a0_2).length ca0_2), (i64 a0_3)]] ∧ a.tmps.get 3 = some (i64 a3) ∧ a.tmps.get 9 = some (.slice py31 (v25.1).length cy31) ∧ a.tmps.get 11 = some (i64 v60.1) ∧ a.tmps.get 12 = some (i64 v60.2) ∧ a.tmps.get 14 = some (i64 u))) (fun x122 T ds123 h nx s hp hF => ?_) N _ y158 _ _ _ _ hy ⟨F92, rfl, (PH.le.refl _), st, gA, gA, gA, gA, gA, gA, gA, gA, gA⟩ (fun e a σ hne hq => ?_)
        · obtain ⟨F123, rfl, le123, st, t1, t2, t3, t4, t9, t11, t12, t14, t15⟩ := hp
          have le124 := PH.le.trans le114 le123
          have le125 := PH.le.trans le115 le123
          have le126 := PH.le.trans le116 le123
          have le127 := PH.le.trans le117 le123
          have le128 := PH.le.trans le118 le123
          have le129 := PH.le.trans le119 le123
          have le130 := PH.le.trans le120 le123
          have le131 := PH.le.trans le92 le123
          unfold sf4_L1 at hF
          unfold L4w0
          refine w_seq ?_
          refine w_seq ?_
          refine w_reg ?_
          refine v_move ?_
          refine v_geq ?_
          refine r_nil ?_
          refine th_n ?_
          refine v_cond (fun hb163 => ?_) (fun hb163 => ?_)
          · have hF := bif_t hb163 hF
            refine w_skip ?_
            refine th_n ?_
            refine w_seq ?_
            refine w_block ?_
            refine w_seq ?_
            refine w_drawV (Nat.le_trans hfl st.ext.le) (fun dw => ?_)
            refine y_pure st.d dw (fun hm vw => v_ldn (vs := [(i64 a0_0), (.slice pa0_1 (a0_1).length ca0_1), (.slice pa0_2 (a0_2).length ca0_2), (i64 a0_3)]) (vw.bx (st.at (i := 0) rfl)) rfl pr_nil) ?_
            refine y_pure st.d dw (fun hm vw => v_move pr_nil) ?_
            refine y_pure st.d dw (fun hm vw => v_move pr_nil) ?_
            obtain ⟨n164, x164, z164, l164, g164, hF⟩ := ix_some hF
            obtain ⟨b164, o164, s164, j164, r164, e164, f164, k164, rfl⟩ := RowF.get ra2 g164
            refine y_pure st.d dw (fun hm vw => v_ixp e164 z164 l164 pr_nil) ?_
            refine y_pure st.d dw (fun hm vw => v_ld1 (vw.fz st (le124 _ _ f164)) (take_at (j := 0) k164 rfl) pr_nil) ?_
            obtain ⟨v165, e166, hF⟩ := bnd_some hF
            refine y_flat st.d dw (fun hm vw => u_call (ct26 N e166 vw.d (vw.sub st) (RowF.mono le124 ra0_1) (RowF.mono le124 ra0_2)) (fun n' hn' => pf_nil hn')) (fun n167 hn' dw => ?_)
            refine y_lay st.d dw (fun hm vw => u_alloc pr_nil) (fun done dw => ?_)
            refine y_end st.d dw rfl (fun h168 ex vs => ?_)
            have st := St.laid st ex (Lay.cons (b := n167) (cs := [(i64 (0 : Int)), (i64 (0 : Int))]) (by have := dw.le; omega) (vs _ (List.mem_cons_self ..) _ _ (if_pos rfl)) (Lay.nil (by have := dw.le; omega)))
            refine v_st (cs' := [(i64 v165.1), (i64 v165.2)]) st 1 rfl rfl rfl rfl hfl (fun h169 st => ?_)
            refine r_nil ?_
            refine th_n ?_
            refine w_seq ?_
            refine w_seq ?_
            refine w_drawV (Nat.le_trans hfl st.ext.le) (fun dw => ?_)
            refine y_pure st.d dw (fun hm vw => v_move pr_nil) ?_
            refine y_pure st.d dw (fun hm vw => v_move pr_nil) ?_
            obtain ⟨n170, x170, z170, l170, g170, hF⟩ := ix_some hF
            obtain ⟨b170, o170, s170, j170, r170, e170, f170, k170, ⟨_, _, rfl, rfl, rfl⟩⟩ := RowF.get ry31 g170
            refine y_pure st.d dw (fun hm vw => v_ixp e170 z170 l170 pr_nil) ?_
            refine y_pure st.d dw (fun hm vw => v_ldn (vw.fz st (le128 _ _ f170)) k170 pr_nil) ?_
            refine y_pure st.d dw (fun hm vw => v_fa pr_nil) ?_
            refine y_pure st.d dw (fun hm vw => v_ld1 (vw.bx (st.at (i := 1) rfl)) rfl pr_nil) ?_
            refine y_pure st.d dw (fun hm vw => v_move pr_nil) ?_
            refine y_pure st.d dw (fun hm vw => v_move pr_nil) ?_
            obtain ⟨n171, x171, z171, l171, g171, hF⟩ := ix_some hF
            obtain ⟨b171, o171, s171, j171, r171, e171, f171, k171, rfl⟩ := RowF.get ra1 g171
            refine y_pure st.d dw (fun hm vw => v_ixp e171 z171 l171 pr_nil) ?_
            refine y_pure st.d dw (fun hm vw => v_ld1 (vw.fz st (le124 _ _ f171)) (take_at (j := 0) k171 rfl) pr_nil) ?_
            obtain ⟨q172, hF⟩ := ck_some hF
            refine y_pure st.d dw (fun hm vw => v_sub q172 pr_nil) ?_
            refine y_pure st.d dw (fun hm vw => v_fa pr_nil) ?_
            refine y_pure st.d dw (fun hm vw => v_ld1 (vw.bx (st.at (i := 1) rfl)) rfl pr_nil) ?_
            refine y_pure st.d dw (fun hm vw => v_move pr_nil) ?_
            refine y_pure st.d dw (fun hm vw => v_move pr_nil) ?_
            obtain ⟨n173, x173, z173, l173, g173, hF⟩ := ix_some hF
            obtain ⟨b173, o173, s173, j173, r173, e173, f173, k173, rfl⟩ := RowF.get ra1 g173
            refine y_pure st.d dw (fun hm vw => v_ixp e173 z173 l173 pr_nil) ?_
            refine y_pure st.d dw (fun hm vw => v_ld1 (vw.fz st (le124 _ _ f173)) (take_at (j := 0) k173 rfl) pr_nil) ?_
            obtain ⟨q174, hF⟩ := ck_some hF
            refine y_pure st.d dw (fun hm vw => v_sub q174 pr_nil) ?_
            obtain ⟨v175, e176, hF⟩ := bnd_some hF
            refine y_flat st.d dw (fun hm vw => u_call (ct33 N e176 vw.d (vw.sub st) ) (fun n' hn' => pf_nil hn')) (fun n177 hn' dw => ?_)
            refine y_end st.d dw rfl (fun h178 ex vs => ?_)
            have st := st.ext1 ex
            refine v_ner (b := (x170.1 == v175.1 && (x170.2 == v175.2 && true))) rfl ?_
            refine r_nil ?_
            refine th_n ?_
            refine v_cond (fun hb179 => ?_) (fun hb179 => ?_)
            · have hF := bif_t hb179 hF
              refine w_seq ?_
              refine w_reg ?_
              refine v_move ?_
              refine r_nil ?_
              refine th_n ?_
              refine w_ret ?_
              refine th_r ?_
              refine ib_r ?_
              refine th_r ?_
              refine th_r ?_
              refine ⟨_, (inj hF).symm, .inl ⟨_, rfl, rfl, rfl, ?_⟩⟩
              dsimp only
              exact ⟨F123, rfl, le123, (st.drop (by first | exact List.Sublist.refl _ | (repeat first | exact List.nil_sublist _ | refine List.Sublist.cons_cons _ ?_ | refine List.Sublist.cons _ ?_))), gA⟩
            · have hF := bif_f hb179 hF
              refine w_skip ?_
              refine th_n ?_
              refine w_seq ?_
              refine w_drawV (Nat.le_trans hfl st.ext.le) (fun dw => ?_)
              refine y_pure st.d dw (fun hm vw => v_ldn (vs := [(i64 a0_0), (.slice pa0_1 (a0_1).length ca0_1), (.slice pa0_2 (a0_2).length ca0_2), (i64 a0_3)]) (vw.bx (st.at (i := 0) rfl)) rfl pr_nil) ?_
              refine y_pure st.d dw (fun hm vw => v_move pr_nil) ?_
              refine y_pure st.d dw (fun hm vw => v_move pr_nil) ?_
              obtain ⟨n180, x180, z180, l180, g180, hF⟩ := ix_some hF
              obtain ⟨b180, o180, s180, j180, r180, e180, f180, k180, rfl⟩ := RowF.get ra2 g180
              refine y_pure st.d dw (fun hm vw => v_ixp e180 z180 l180 pr_nil) ?_
              refine y_pure st.d dw (fun hm vw => v_ld1 (vw.fz st (le124 _ _ f180)) (take_at (j := 0) k180 rfl) pr_nil) ?_
              refine y_pure st.d dw (fun hm vw => v_move pr_nil) ?_
              refine y_pure st.d dw (fun hm vw => v_move pr_nil) ?_
              obtain ⟨n181, x181, z181, l181, g181, hF⟩ := ix_some hF
              obtain ⟨b181, o181, s181, j181, r181, e181, f181, k181, rfl⟩ := RowF.get ra1 g181
              refine y_pure st.d dw (fun hm vw => v_ixp e181 z181 l181 pr_nil) ?_
              refine y_pure st.d dw (fun hm vw => v_ld1 (vw.fz st (le124 _ _ f181)) (take_at (j := 0) k181 rfl) pr_nil) ?_
              refine y_end st.d dw rfl (fun h182 ex vs => ?_)
              have st := st.ext1 ex
              obtain ⟨v183, e184, hF⟩ := bnd_some hF
              refine v_call st (ct34 N e184 st.d st.sub (RowF.mono le124 ra0_1) (RowF.mono le124 ra0_2)) (fun n185 st => ?_)
              refine v_move ?_
              refine v_gtr ?_
              refine r_nil ?_
              refine th_n ?_
              refine v_cond (fun hb186 => ?_) (fun hb186 => ?_)
              · have hF := bif_t hb186 hF
                refine w_reg ?_
                refine v_move ?_
                refine v_move ?_
                refine r_nil ?_
                refine ib_n ?_
                refine th_n ?_
                refine w_reg ?_
                refine v_move ?_
                obtain ⟨q187, hF⟩ := ck_some hF
                refine v_sub q187 ?_
                refine v_move ?_
                refine r_nil ?_
                refine thn ⟨_, (inj hF).symm, rfl, ?_⟩
                dsimp only
                exact ⟨F123, rfl, le123, (st.drop (by first | exact List.Sublist.refl _ | (repeat first | exact List.nil_sublist _ | refine List.Sublist.cons_cons _ ?_ | refine List.Sublist.cons _ ?_))), gA, gA, gA, gA, gA, gA, gA, gA, gA⟩
              · have hF := bif_f hb186 hF
                refine w_skip ?_
                refine ib_n ?_
                refine th_n ?_
                refine w_reg ?_
                refine v_move ?_
                obtain ⟨q188, hF⟩ := ck_some hF
                refine v_sub q188 ?_
                refine v_move ?_
                refine r_nil ?_
                refine thn ⟨_, (inj hF).symm, rfl, ?_⟩
                dsimp only
                exact ⟨F123, rfl, le123, (st.drop (by first | exact List.Sublist.refl _ | (repeat first | exact List.nil_sublist _ | refine List.Sublist.cons_cons _ ?_ | refine List.Sublist.cons _ ?_))), gA, gA, gA, gA, gA, gA, gA, gA, gA⟩
          · have hF := bif_f hb163 hF
            refine w_exit ?_
            refine th_e ?_
            refine th_e ?_
            refine ⟨_, (inj hF).symm, .inr (⟨_, rfl, rfl, rfl, ?_⟩)⟩
            dsimp only
            exact ⟨F123, rfl, le123, st, gA, gA, gA, gA, gA⟩
        · rcases hq with hq | hq
          · obtain ⟨N9, T, ds160⟩ := a
            obtain ⟨h197, n198⟩ := σ
            obtain ⟨w159, rfl, rfl, e1, F160, e2, le160, st, t8⟩ := hq
            dsimp only at e1 e2
            subst e1
            subst e2
            dsimp only at st t8
            have le189 := PH.le.trans le114 le160
            have le190 := PH.le.trans le115 le160
            have le191 := PH.le.trans le116 le160
            have le192 := PH.le.trans le117 le160
            have le193 := PH.le.trans le118 le160
            have le194 := PH.le.trans le119 le160
            have le195 := PH.le.trans le120 le160
            have le196 := PH.le.trans le92 le160
            have hF := sel_l hF
            refine ib_r ?_
            refine th_r ?_
            obtain rfl := inj hF
            exact end_s st (Res.t gA Res.nil) rfl rfl
          · obtain ⟨N9, T, ds162⟩ := a
            obtain ⟨h207, n208⟩ := σ
            obtain ⟨w161, rfl, rfl, e1, F162, e2, le162, st, t3, t9, t11, t12, t14⟩ := hq
            dsimp only at e1 e2
            subst e1
            subst e2
            dsimp only at st t3 t9 t11 t12 t14
            have le199 := PH.le.trans le114 le162
            have le200 := PH.le.trans le115 le162
            have le201 := PH.le.trans le116 le162
            have le202 := PH.le.trans le117 le162
            have le203 := PH.le.trans le118 le162
            have le204 := PH.le.trans le119 le162
            have le205 := PH.le.trans le120 le162
            have le206 := PH.le.trans le92 le162
            have hF := sel_r hF
            refine ib_e ?_
            refine th_n ?_
            refine w_seq ?_
            refine w_seq ?_
            refine w_reg ?_
            refine v_move ?_
            obtain ⟨v209, e210, hF⟩ := bnd_some hF
            refine v_call st (ct24 N e210 st.d st.sub ) (fun n211 st => ?_)
            refine v_not ?_
            refine r_nil ?_
            refine th_n ?_
            refine v_cond (fun hb212 => ?_) (fun hb212 => ?_)
            · have hF := bif_t hb212 hF
              refine w_seq ?_
              refine w_reg ?_
              refine v_move ?_
              refine v_eqi ?_
              refine v_move ?_
              rcases Bool.eq_false_or_eq_true (decide (v60.2 = (2 : Int))) with hb213 | hb213
              · have hF := bif_t hb213 hF
                refine g_take hb213 (v_move ?_)
                refine g_take hb213 (v_eqi ?_)
                refine v_pick hb213 ?_
                refine v_move ?_
                rcases Bool.eq_false_or_eq_true (decide (v60.1 = (0 : Int))) with hb214 | hb214
                · have hF := bif_t hb214 hF
                  refine g_take hb214 (v_call st (ct_wakes (h := _) (nx := _)) (fun n215 st => ?_))
                  refine v_pick hb214 ?_
                  refine v_move ?_
                  refine r_nil ?_
                  refine th_n ?_
                  refine w_ret ?_
                  refine th_r ?_
                  obtain rfl := inj hF
                  exact end_s st (Res.t gA Res.nil) rfl rfl
                · have hF := bif_f hb214 hF
                  refine g_skip hb214 ?_
                  refine v_pick' hb214 ?_
                  refine v_move ?_
                  refine r_nil ?_
                  refine th_n ?_
                  refine w_ret ?_
                  refine th_r ?_
                  obtain rfl := inj hF
                  exact end_s st (Res.t gA Res.nil) rfl rfl
              · have hF := bif_f hb213 hF
                refine g_skip hb213 ?_
                refine g_skip hb213 ?_
                refine v_pick' hb213 ?_
                refine v_move ?_
                refine g_skip rfl ?_
                refine v_pick' rfl ?_
                refine v_move ?_
                refine r_nil ?_
                refine th_n ?_
                refine w_ret ?_
                refine th_r ?_
                obtain rfl := inj hF
                exact end_s st (Res.t gA Res.nil) rfl rfl
            · have hF := bif_f hb212 hF
              refine w_skip ?_
              refine th_n ?_
              refine w_seq ?_
              refine w_seq ?_
              refine w_reg ?_
              refine v_move ?_
              refine v_move ?_
              refine v_len ?_
              refine v_eqi ?_
              refine r_nil ?_
              refine th_n ?_
              refine v_cond (fun hb216 => ?_) (fun hb216 => ?_)
              · have hF := bif_t hb216 hF
                refine w_seq ?_
                refine w_reg ?_
                refine v_move ?_
                refine v_eqi ?_
                refine v_move ?_
                rcases Bool.eq_false_or_eq_true (decide (v60.2 = (7 : Int))) with hb217 | hb217
                · have hF := bif_t hb217 hF
                  refine g_take hb217 (v_move ?_)
                  refine g_take hb217 (v_eqi ?_)
                  refine v_pick hb217 ?_
                  refine v_move ?_
                  rcases Bool.eq_false_or_eq_true (decide (v60.1 = (0 : Int))) with hb218 | hb218
                  · have hF := bif_t hb218 hF
                    refine g_take hb218 (v_call st (ct_wakes (h := _) (nx := _)) (fun n219 st => ?_))
                    refine v_pick hb218 ?_
                    refine v_move ?_
                    refine r_nil ?_
                    refine th_n ?_
                    refine w_ret ?_
                    refine th_r ?_
                    obtain rfl := inj hF
                    exact end_s st (Res.t gA Res.nil) rfl rfl
                  · have hF := bif_f hb218 hF
                    refine g_skip hb218 ?_
                    refine v_pick' hb218 ?_
                    refine v_move ?_
                    refine r_nil ?_
                    refine th_n ?_
                    refine w_ret ?_
                    refine th_r ?_
                    obtain rfl := inj hF
                    exact end_s st (Res.t gA Res.nil) rfl rfl
                · have hF := bif_f hb217 hF
                  refine g_skip hb217 ?_
                  refine g_skip hb217 ?_
                  refine v_pick' hb217 ?_
                  refine v_move ?_
                  refine g_skip rfl ?_
                  refine v_pick' rfl ?_
                  refine v_move ?_
                  refine r_nil ?_
                  refine th_n ?_
                  refine w_ret ?_
                  refine th_r ?_
                  obtain rfl := inj hF
                  exact end_s st (Res.t gA Res.nil) rfl rfl
              · have hF := bif_f hb216 hF
                refine w_skip ?_
                refine th_n ?_
                refine w_seq ?_
                refine w_reg ?_
                refine v_move ?_
                refine v_eqi ?_
                refine v_move ?_
                rcases Bool.eq_false_or_eq_true (decide (v60.2 = (0 : Int))) with hb220 | hb220
                · have hF := bif_t hb220 hF
                  refine g_take hb220 (v_move ?_)
                  refine g_take hb220 (v_move ?_)
                  refine g_take hb220 (v_eqi ?_)
                  refine v_pick hb220 ?_
                  refine v_move ?_
                  rcases Bool.eq_false_or_eq_true (decide (v60.1 = w161)) with hb221 | hb221
                  · have hF := bif_t hb221 hF
                    refine g_take hb221 (v_call st (ct_wakes (h := _) (nx := _)) (fun n222 st => ?_))
                    refine v_pick hb221 ?_
                    refine v_move ?_
                    refine r_nil ?_
                    refine th_n ?_
                    refine w_ret ?_
                    obtain rfl := inj hF
                    exact end_s st (Res.t gA Res.nil) rfl rfl
                  · have hF := bif_f hb221 hF
                    refine g_skip hb221 ?_
                    refine v_pick' hb221 ?_
                    refine v_move ?_
                    refine r_nil ?_
                    refine th_n ?_
                    refine w_ret ?_
                    obtain rfl := inj hF
                    exact end_s st (Res.t gA Res.nil) rfl rfl
                · have hF := bif_f hb220 hF
                  refine g_skip hb220 ?_
                  refine g_skip hb220 ?_
                  refine g_skip hb220 ?_
                  refine v_pick' hb220 ?_
                  refine v_move ?_
                  refine g_skip rfl ?_
                  refine v_pick' rfl ?_
                  refine v_move ?_
                  refine r_nil ?_
                  refine th_n ?_
                  refine w_ret ?_
                  obtain rfl := inj hF
                  exact end_s st (Res.t gA Res.nil) rfl rfl
end Go.Hx.V

/- Functions of the program come to that. -/
namespace Go.Hx.V
open Go.Hx
set_option linter.unusedVariables false
set_option maxRecDepth 20000
set_option maxHeartbeats 4000000
attribute [local irreducible] W R C thenH inBlockH Tr.get Tr.set lo
end Go.Hx.V


/- Loops of functions on lists and numbers: what they come to. -/
namespace Go.Hx.V
open Go.Hx
theorem iter_run {α β : Type} {step : α → Option (α ⊕ β)} (s : Nat → α) (y : β) : ∀ (n i N : Nat), (∀ j, i ≤ j → j < i + n → step (s j) = some (.inl (s (j + 1)))) → step (s (i + n)) = some (.inr y) → n < N → iter step N (s i) = some y
  | 0, i, N, hs, he, hN => by
    obtain ⟨N, rfl⟩ : ∃ k, N = k + 1 := ⟨N - 1, by omega⟩
    unfold iter; rw [Nat.add_zero] at he; rw [he]; rfl
  | n + 1, i, N, hs, he, hN => by
    obtain ⟨N, rfl⟩ : ∃ k, N = k + 1 := ⟨N - 1, by omega⟩
    unfold iter
    rw [hs i (by omega) (by omega)]
    exact iter_run s y n (i + 1) N (fun j h1 h2 => hs j (by omega) (by omega)) (by rw [show i + 1 + n = i + (n + 1) by omega]; exact he) (by omega)
/-- A loop from 0 on. -/
theorem iter_up {α β : Type} {step : α → Option (α ⊕ β)} {x : α} {N : Nat} (s : Nat → α) (n : Nat) (y : β) (hx : x = s 0) (hs : ∀ j, j < n → step (s j) = some (.inl (s (j + 1)))) (he : step (s n) = some (.inr y)) (hN : n < N) : iter step N x = some y := by
  subst hx
  exact iter_run s y n 0 N (fun j _ h2 => hs j (by omega)) (by rw [Nat.zero_add]; exact he) hN
/-- A loop that ends early, or not. -/
theorem iter_all {α β : Type} {step : α → Option (α ⊕ β)} {x : α} {N : Nat} (s : Nat → α) (n : Nat) (p : Nat → Prop) [DecidablePred p] (good bad : β) (hx : x = s 0) (hs : ∀ j, j < n → p j → step (s j) = some (.inl (s (j + 1)))) (hf : ∀ j, j < n → ¬ p j → step (s j) = some (.inr bad)) (he : step (s n) = some (.inr good)) (hN : n < N) :
    ((∀ j, j < n → p j) ∧ iter step N x = some good) ∨ (¬ (∀ j, j < n → p j) ∧ iter step N x = some bad) := by
  by_cases h : ∀ j, j < n → p j
  · exact .inl ⟨h, iter_up s n good hx (fun j hj => hs j hj (h j hj)) he hN⟩
  · refine .inr ⟨h, ?_⟩
    have h1 : ∃ j, j < n ∧ ¬ p j := by
      refine Classical.byContradiction fun hc => h fun j hj => Classical.byContradiction fun hp => hc ⟨j, hj, hp⟩
    -- the first one
    obtain ⟨j, hj, hp, hmin⟩ : ∃ j, j < n ∧ ¬ p j ∧ ∀ i, i < j → p i := by
      obtain ⟨j, hj⟩ := h1
      induction j using Nat.strongRecOn with
      | ind j ih =>
        by_cases g : ∀ i, i < j → p i
        · exact ⟨j, hj.1, hj.2, g⟩
        · have : ∃ i, i < j ∧ ¬ p i := Classical.byContradiction fun hc => g fun i hi => Classical.byContradiction fun hp => hc ⟨i, hi, hp⟩
          obtain ⟨i, hi, hpi⟩ := this
          exact ih i hi ⟨by omega, hpi⟩
    exact iter_up s j bad hx (fun i hi => hs i (by omega) (hmin i hi)) (hf j hj hp) (by omega)
theorem ix_at {α β : Type} {l : List α} {j : Int} {n : Nat} {x : α} {k : α → Option β} (hj : j = n) (h : l[n]? = some x) : ix l j k = k x := by
  subst hj; exact ix_pos h
theorem ix_0 {α β : Type} {l : List α} {x : α} {k : α → Option β} (h : l[0]? = some x) : ix l (0 : Int) k = k x := ix_at (n := 0) rfl h
theorem lt_some {α : Type} {l : List α} {n : Nat} (h : n < l.length) : l[n]? = some l[n] := List.getElem?_eq_getElem h
theorem some_lt {α : Type} {l : List α} {n : Nat} {x : α} (h : l[n]? = some x) : n < l.length := by
  rcases Nat.lt_or_ge n l.length with g | g
  · exact g
  · rw [List.getElem?_eq_none g] at h; cases h
theorem take_succ' {α : Type} {l : List α} {n : Nat} {x : α} (h : l[n]? = some x) : l.take (n + 1) = l.take n ++ [x] := by
  rw [List.take_add_one, h]; rfl
/-- A list that is built by going through another one. -/
theorem iter_map {α γ : Type} {step : Int × List γ → Option ((Int × List γ) ⊕ List γ)} {N : Nat} (l : List α) (f : Nat → α → γ) (hs : ∀ (j : Nat) (x : α) (acc : List γ), l[j]? = some x → acc.length = j → step ((j : Int), acc) = some (.inl (((j + 1 : Nat) : Int), acc ++ [f j x]))) (he : ∀ acc, step ((l.length : Int), acc) = some (.inr acc)) (hN : l.length < N) :
    iter step N ((0 : Int), ([] : List γ)) = some (l.mapIdx f) := by
  refine iter_up (fun j => ((j : Int), (l.mapIdx f).take j)) l.length _ rfl (fun j hj => ?_) ?_ hN
  · try dsimp only
    rw [hs j l[j] _ (lt_some hj) (by rw [List.length_take, List.length_mapIdx]; omega)]
    congr 2
    rw [take_succ' (x := f j l[j]) (by rw [List.getElem?_mapIdx, lt_some hj]; rfl)]
  · try dsimp only
    rw [he, List.take_of_length_le (by rw [List.length_mapIdx]; omega)]
theorem mapIdx_id {α : Type} (l : List α) : (l.mapIdx fun _ x => x) = l := by
  refine List.ext_getElem? fun i => ?_
  rw [List.getElem?_mapIdx]; cases l[i]? <;> rfl
end Go.Hx.V

/- Layer 4: what its functions come to, in words of lists and numbers. -/
namespace Go.Hx.V
open Go.Hx
set_option linter.unusedVariables false
set_option linter.unusedSimpArgs false
set_option maxRecDepth 20000
abbrev Ph := List (Int × Int)
abbrev Zo := List (Int × Int × Int)
theorem sd {p q : Prop} [Decidable p] [Decidable q] (h : p ↔ q) : some (decide p) = some (decide q) := by rw [decide_eq_decide.2 h]
theorem sf_ {q : Prop} [Decidable q] (h : ¬ q) : some false = some (decide q) := by rw [decide_eq_false h]
theorem m24 {N : Nat} {a b c : Int} : sf24 N a b c = some (decide (b ≤ a ∧ a ≤ c)) := by
  unfold sf24
  by_cases h : b ≤ a <;> simp [h]
def spn (r : Int × Int) : Prop := -20 ≤ r.1 ∧ r.1 ≤ r.2 ∧ r.2 ≤ 20
instance (r : Int × Int) : Decidable (spn r) := by unfold spn; infer_instance
theorem m86 {N : Nat} {a b : Int} : sf86 N a b = some (decide (spn (a, b))) := by
  unfold sf86
  rw [m24, bnd_ret]
  by_cases h : -20 ≤ a ∧ a ≤ b
  · simp only [decide_eq_true h, cond_true]
    exact sd (by unfold spn; dsimp only; omega)
  · simp only [decide_eq_false h, cond_false]
    exact sf_ (by unfold spn; dsimp only; omega)
theorem m98 {N : Nat} {a b : Int} : sf98 N a b = some (decide (spn (a, b))) := by
  unfold sf98
  by_cases h : -20 ≤ a <;> by_cases h2 : a ≤ b <;> simp [h, h2, spn]
theorem m100 {N : Nat} {a b c : Int} : sf100 N a b c = some (decide ((0 ≤ a ∧ a ≤ 60) ∧ spn (b, c))) := by
  unfold sf100
  rw [m98, bnd_ret]
  by_cases h : 0 ≤ a <;> by_cases h2 : a ≤ 60 <;> simp [h, h2]
/-- A valid screw. -/
structure VS (st : Int) (ph : Ph) (zo : Zo) (tk : Int) : Prop where
  lp : ph.length ≤ 8
  lz : zo.length ≤ 3
  s1 : 1 ≤ st
  s2 : st ≤ 50
  t1 : 1 ≤ tk
  t2 : tk ≤ 60
  pn : 0 < ph.length
  zn : 0 < zo.length
  z0 : ∀ z : Int × Int × Int, zo[0]? = some z → z.1 = 0
  zs : ∀ (i : Nat) (z : Int × Int × Int), zo[i]? = some z → (0 ≤ z.1 ∧ z.1 ≤ 60) ∧ spn z.2
  zi : ∀ (i : Nat) (z z' : Int × Int × Int), zo[i]? = some z → zo[i + 1]? = some z' → z.1 < z'.1
  ps : ∀ (i : Nat) (r : Int × Int), ph[i]? = some r → spn r
  go : ∀ (i k : Nat) (r : Int × Int) (z : Int × Int × Int), ph[i]? = some r → zo[k]? = some z → 1 ≤ st + r.1 + z.2.1
theorem m19a {N : Nat} {l : Ph} (hN : l.length < N) (hl : l.length < 1000000000) : iter (sf19_L1 N l) N ((0 : Int), ([] : Ph)) = some l := by
  rw [iter_map l (fun _ x => x) (fun j x acc hx ha => ?_) (fun acc => ?_) hN, mapIdx_id]
  · have hj := some_lt hx
    unfold sf19_L1
    simp only [decide_eq_true (show (j : Int) < (l.length : Int) by omega), cond_true]
    rw [ix_at rfl hx]
    simp only [sf25, bnd_ret]
    rw [ck_pos (by omega), ck_pos (by unfold rng; omega)]
    rfl
  · unfold sf19_L1
    simp only [decide_eq_false (show ¬ (l.length : Int) < (l.length : Int) by omega), cond_false]
theorem m19b {N : Nat} {l : Zo} (hN : l.length < N) (hl : l.length < 1000000000) : iter (sf19_L2 N l) N ((0 : Int), ([] : Zo)) = some l := by
  rw [iter_map l (fun _ x => x) (fun j x acc hx ha => ?_) (fun acc => ?_) hN, mapIdx_id]
  · have hj := some_lt hx
    unfold sf19_L2
    simp only [decide_eq_true (show (j : Int) < (l.length : Int) by omega), cond_true]
    rw [ix_at rfl hx, ix_at rfl hx]
    simp only [sf25, bnd_ret]
    rw [ck_pos (by omega), ck_pos (by unfold rng; omega)]
    rfl
  · unfold sf19_L2
    simp only [decide_eq_false (show ¬ (l.length : Int) < (l.length : Int) by omega), cond_false]
theorem m19 {N : Nat} {st tk : Int} {ph : Ph} {zo : Zo} (h1 : ph.length < N) (h2 : zo.length < N) (hN : N < 1000000000) : sf19 N st ph zo tk = some (st, ph, zo, tk) := by
  unfold sf19
  rw [m19a h1 (by omega), bnd_ret, m19b h2 (by omega), bnd_ret]
theorem m30 {N : Nat} {l : List Int} (h : l.length < 1000000000) : sf30 N l = some l := by
  unfold sf30
  rw [ck_pos (by simp; omega)]
  rfl
/-! what the reference says of a screw -/
def zok (zo : Zo) (i : Nat) : Prop := ∀ z : Int × Int × Int, zo[i]? = some z → ((0 ≤ z.1 ∧ z.1 ≤ 60) ∧ spn z.2) ∧ ∀ y : Int × Int × Int, 0 < i → zo[i - 1]? = some y → y.1 < z.1
theorem m56a1 {N : Nat} {zo : Zo} {j : Nat} {z0 : Int × Int × Int} (hl : zo.length < 1000000000) (hz : zo[j]? = some z0) : (zok zo j ∧ sf56_L1 N zo (j : Int) = some (.inl ((j + 1 : Nat) : Int))) ∨ (¬ zok zo j ∧ sf56_L1 N zo (j : Int) = some (.inr (.inl 1))) := by
  have hj := some_lt hz
  have q3 : rng ((j : Int) + 1) := by unfold rng; omega
  unfold sf56_L1
  rw [decide_eq_true (show (j : Int) < (zo.length : Int) by omega), cond_true, ix_at rfl hz]
  simp only [m24, m86, bnd_ret]
  by_cases c1 : 0 ≤ z0.1 ∧ z0.1 ≤ 60
  · rw [decide_eq_true c1, Bool.not_true, cond_false]
    by_cases c2 : spn z0.2
    · rw [decide_eq_true (show spn (z0.2.1, z0.2.2) from c2), Bool.not_true, cond_false]
      by_cases c3 : 0 < j
      · obtain ⟨y0, hy⟩ : ∃ z, zo[j - 1]? = some z := ⟨_, lt_some (show j - 1 < zo.length by omega)⟩
        have q4 : rng ((j : Int) - 1) := by unfold rng; omega
        rw [decide_eq_true (show (0 : Int) < (j : Int) by omega), cond_true, ck_pos q4, ix_at (n := j - 1) (by omega) hy, bnd_ret]
        by_cases c4 : z0.1 ≤ y0.1
        · right
          rw [decide_eq_true c4, cond_true]
          exact ⟨fun h => by have := (h _ hz).2 _ c3 hy; omega, rfl⟩
        · left
          rw [decide_eq_false c4, cond_false, ck_pos q3]
          exact ⟨fun z h => by rw [hz] at h; cases h; exact ⟨⟨c1, c2⟩, fun y _ h2 => by rw [hy] at h2; cases h2; omega⟩, rfl⟩
      · left
        rw [decide_eq_false (show ¬ (0 : Int) < (j : Int) by omega), cond_false, bnd_ret, cond_false, ck_pos q3]
        exact ⟨fun z h => by rw [hz] at h; cases h; exact ⟨⟨c1, c2⟩, fun y h3 => absurd h3 c3⟩, rfl⟩
    · right
      rw [decide_eq_false (show ¬ spn (z0.2.1, z0.2.2) from c2), Bool.not_false, cond_true, bnd_ret, cond_true]
      exact ⟨fun h => c2 (h _ hz).1.2, rfl⟩
  · right
    rw [decide_eq_false c1, Bool.not_false, cond_true, bnd_ret, cond_true]
    exact ⟨fun h => c1 (h _ hz).1.1, rfl⟩
theorem m56a {N : Nat} {zo : Zo} (hN : zo.length < N) (hl : zo.length < 1000000000) : ((∀ i, i < zo.length → zok zo i) ∧ iter (sf56_L1 N zo) N (0 : Int) = some (.inr ())) ∨ (¬ (∀ i, i < zo.length → zok zo i) ∧ iter (sf56_L1 N zo) N (0 : Int) = some (.inl 1)) := by
  haveI : DecidablePred (zok zo) := fun _ => Classical.propDecidable _
  refine iter_all (step := sf56_L1 N zo) (N := N) (fun j => (j : Int)) zo.length (zok zo) (.inr ()) (.inl 1) rfl (fun j hj hp => ?_) (fun j hj hp => ?_) (by unfold sf56_L1; rw [decide_eq_false (show ¬ (zo.length : Int) < (zo.length : Int) by omega), cond_false]) hN
  · rcases m56a1 (N := N) hl (lt_some hj) with h | h
    · exact h.2
    · exact absurd hp h.1
  · rcases m56a1 (N := N) hl (lt_some hj) with h | h
    · exact absurd h.1 hp
    · exact h.2
def gok (st : Int) (r : Int × Int) (zo : Zo) (k : Nat) : Prop := ∀ z : Int × Int × Int, zo[k]? = some z → 1 ≤ st + r.1 + z.2.1
theorem m56b1 {st : Int} {ph : Ph} {zo : Zo} {i j : Nat} {r : Int × Int} {z : Int × Int × Int} (hr : ph[i]? = some r) (h1 : 1 ≤ st ∧ st ≤ 50) (hs : spn r) (hz2 : zo[j]? = some z) (hz3 : spn z.2) (hl : zo.length < 1000000000) : (gok st r zo j ∧ sf56_L2 st ph zo (i : Int) (j : Int) = some (.inl ((j + 1 : Nat) : Int))) ∨ (¬ gok st r zo j ∧ sf56_L2 st ph zo (i : Int) (j : Int) = some (.inr (.inl 1))) := by
  have hj := some_lt hz2
  unfold spn at hs hz3
  unfold sf56_L2
  have q : rng (st + r.1) := by unfold rng; omega
  have q2 : rng (st + r.1 + z.2.1) := by unfold rng; omega
  have q3 : rng ((j : Int) + 1) := by unfold rng; omega
  rw [decide_eq_true (show (j : Int) < (zo.length : Int) by omega), cond_true, ix_at rfl hr, ck_pos q, ix_at rfl hz2, ck_pos q2]
  by_cases c : st + r.1 + z.2.1 < 1
  · right
    rw [decide_eq_true c, cond_true]
    exact ⟨fun h => by have := h _ hz2; omega, rfl⟩
  · left
    rw [decide_eq_false c, cond_false, ck_pos q3]
    exact ⟨fun z h => by rw [hz2] at h; cases h; omega, rfl⟩
theorem m56b {N : Nat} {st : Int} {ph : Ph} {zo : Zo} {i : Nat} {r : Int × Int} (hr : ph[i]? = some r) (h1 : 1 ≤ st ∧ st ≤ 50) (hs : spn r) (hz : ∀ (k : Nat) (z : Int × Int × Int), zo[k]? = some z → spn z.2) (hN : zo.length < N) (hl : zo.length < 1000000000) : ((∀ k, k < zo.length → gok st r zo k) ∧ iter (sf56_L2 st ph zo (i : Int)) N (0 : Int) = some (.inr ())) ∨ (¬ (∀ k, k < zo.length → gok st r zo k) ∧ iter (sf56_L2 st ph zo (i : Int)) N (0 : Int) = some (.inl 1)) := by
  haveI : DecidablePred (gok st r zo) := fun _ => Classical.propDecidable _
  refine iter_all (step := sf56_L2 st ph zo (i : Int)) (N := N) (fun j => (j : Int)) zo.length (gok st r zo) (.inr ()) (.inl 1) rfl (fun j hj hp => ?_) (fun j hj hp => ?_) (by unfold sf56_L2; rw [decide_eq_false (show ¬ (zo.length : Int) < (zo.length : Int) by omega), cond_false]) hN
  · rcases m56b1 hr h1 hs (lt_some hj) (hz _ _ (lt_some hj)) hl with h | h
    · exact h.2
    · exact absurd hp h.1
  · rcases m56b1 hr h1 hs (lt_some hj) (hz _ _ (lt_some hj)) hl with h | h
    · exact absurd h.1 hp
    · exact h.2
def pok (st : Int) (ph : Ph) (zo : Zo) (i : Nat) : Prop := ∀ r : Int × Int, ph[i]? = some r → spn r ∧ ∀ k, k < zo.length → gok st r zo k
theorem m56c {N : Nat} {st : Int} {ph : Ph} {zo : Zo} (h1 : 1 ≤ st ∧ st ≤ 50) (hz : ∀ (k : Nat) (z : Int × Int × Int), zo[k]? = some z → spn z.2) (hN : zo.length < N) (hl : zo.length < 1000000000) (hN2 : ph.length < N) (hl2 : ph.length < 1000000000) : ((∀ k, k < ph.length → pok st ph zo k) ∧ iter (sf56_L3 N st ph zo) N (0 : Int) = some (.inr ())) ∨ (¬ (∀ k, k < ph.length → pok st ph zo k) ∧ iter (sf56_L3 N st ph zo) N (0 : Int) = some (.inl 1)) := by
  have key : ∀ j, j < ph.length → (pok st ph zo j ∧ sf56_L3 N st ph zo (j : Int) = some (.inl ((j + 1 : Nat) : Int))) ∨ (¬ pok st ph zo j ∧ sf56_L3 N st ph zo (j : Int) = some (.inr (.inl 1))) := fun j hj => by
    obtain ⟨r0, hr⟩ : ∃ z, ph[j]? = some z := ⟨_, lt_some hj⟩
    unfold sf56_L3
    simp only [decide_eq_true (show (j : Int) < (ph.length : Int) by omega), cond_true]
    rw [ix_at rfl hr]
    simp only [m86, bnd_ret]
    by_cases c : spn r0
    · simp only [decide_eq_true (show spn (r0.1, r0.2) from c), Bool.not_true, cond_false]
      rcases m56b hr h1 c hz hN hl with ⟨g1, g2⟩ | ⟨g1, g2⟩
      · left
        refine ⟨fun r h => by rw [hr] at h; cases h; exact ⟨c, g1⟩, ?_⟩
        rw [g2, bnd_ret]
        rw [ck_pos (by unfold rng; omega)]; rfl
      · right
        refine ⟨fun h => g1 (h _ hr).2, ?_⟩
        rw [g2, bnd_ret]
        rfl
    · right
      refine ⟨fun h => c (h _ hr).1, ?_⟩
      simp only [decide_eq_false (show ¬ spn (r0.1, r0.2) from c), Bool.not_false, cond_true]
  haveI : DecidablePred (pok st ph zo) := fun _ => Classical.propDecidable _
  refine iter_all (step := sf56_L3 N st ph zo) (N := N) (fun j => (j : Int)) ph.length (pok st ph zo) (.inr ()) (.inl 1) rfl (fun j hj hp => ?_) (fun j hj hp => ?_) (by unfold sf56_L3; simp only [decide_eq_false (show ¬ (ph.length : Int) < (ph.length : Int) by omega), cond_false]) hN2
  · rcases key j hj with h | h
    · exact h.2
    · exact absurd hp h.1
  · rcases key j hj with h | h
    · exact absurd h.1 hp
    · exact h.2
/-- What the reference tells of a screw. -/
theorem m56 {N : Nat} {st tk : Int} {ph : Ph} {zo : Zo} (hN : zo.length < N) (hN2 : ph.length < N) (hl : N < 1000000000) :
    ∃ e, sf56 N st ph zo tk = some e ∧ (e = 0 ↔ VS st ph zo tk) ∧ (e = 3 ↔ (8 < ph.length ∨ 3 < zo.length)) ∧ (e = 0 ∨ e = 1 ∨ e = 3) := by
  unfold sf56
  by_cases c1 : 8 < ph.length
  · simp only [decide_eq_true (show (8 : Int) < (ph.length : Int) by omega), cond_true, bnd_ret, sel]
    exact ⟨3, rfl, ⟨fun h => by omega, fun v => by have := v.lp; omega⟩, ⟨fun _ => .inl c1, fun _ => rfl⟩, .inr (.inr rfl)⟩
  simp only [decide_eq_false (show ¬ (8 : Int) < (ph.length : Int) by omega), cond_false, bnd_ret]
  by_cases c2 : 3 < zo.length
  · simp only [decide_eq_true (show (3 : Int) < (zo.length : Int) by omega), cond_true, bnd_ret, sel]
    exact ⟨3, rfl, ⟨fun h => by omega, fun v => by have := v.lz; omega⟩, ⟨fun _ => .inr c2, fun _ => rfl⟩, .inr (.inr rfl)⟩
  simp only [decide_eq_false (show ¬ (3 : Int) < (zo.length : Int) by omega), cond_false, bnd_ret, sel, m24]
  have bad : ¬ VS st ph zo tk → ∃ e : Int, some (1 : Int) = some e ∧ (e = 0 ↔ VS st ph zo tk) ∧ (e = 3 ↔ (8 < ph.length ∨ 3 < zo.length)) ∧ (e = 0 ∨ e = 1 ∨ e = 3) := fun h => ⟨1, rfl, ⟨fun e => by omega, fun v => absurd v h⟩, ⟨fun e => by omega, fun e => by omega⟩, .inr (.inl rfl)⟩
  by_cases c3 : 1 ≤ st ∧ st ≤ 50
  · simp only [decide_eq_true c3, Bool.not_true, cond_false, bnd_ret]
    by_cases c4 : 1 ≤ tk ∧ tk ≤ 60
    · simp only [decide_eq_true c4, Bool.not_true, cond_false]
      by_cases c5 : ph.length = 0
      · simp only [decide_eq_true (show (ph.length : Int) = 0 by omega), cond_true, bnd_ret, sel]
        exact bad fun v => by have := v.pn; omega
      simp only [decide_eq_false (show ¬ (ph.length : Int) = 0 by omega), cond_false]
      by_cases c6 : zo.length = 0
      · simp only [decide_eq_true (show (zo.length : Int) = 0 by omega), cond_true, bnd_ret, sel]
        exact bad fun v => by have := v.zn; omega
      simp only [decide_eq_false (show ¬ (zo.length : Int) = 0 by omega), cond_false]
      obtain ⟨y0, h0⟩ : ∃ z, zo[0]? = some z := ⟨_, lt_some (show 0 < zo.length by omega)⟩
      rw [show ix zo (0 : Int) (fun x85 => some (!decide (x85.1 = 0))) = some (!decide (y0.1 = 0)) from ix_at (n := 0) rfl h0, bnd_ret]
      by_cases c7 : y0.1 = 0
      · simp only [decide_eq_true c7, Bool.not_true, cond_false, bnd_ret, sel]
        rcases m56a hN (by omega) with ⟨g1, g2⟩ | ⟨g1, g2⟩
        · rw [g2, bnd_ret]
          show ∃ e, (bnd (iter (sf56_L3 N st ph zo) N (0 : Int)) _) = some e ∧ _
          have hzs : ∀ (k : Nat) (z : Int × Int × Int), zo[k]? = some z → spn z.2 := fun k z hz => (g1 k (some_lt hz) z hz).1.2
          rcases m56c (N := N) c3 hzs hN (by omega) hN2 (by omega) with ⟨q1, q2⟩ | ⟨q1, q2⟩
          · rw [q2, bnd_ret]
            refine ⟨0, rfl, ⟨fun _ => ⟨by omega, by omega, c3.1, c3.2, c4.1, c4.2, by omega, by omega, fun z hz => by rw [h0] at hz; cases hz; exact c7, fun i z hz => (g1 i (some_lt hz) z hz).1, fun i z z' hz hz' => (g1 (i + 1) (some_lt hz') z' hz').2 z (by omega) hz, fun i r hr => (q1 i (some_lt hr) r hr).1, fun i k r z hr hz => (q1 i (some_lt hr) r hr).2 k (some_lt hz) z hz⟩, fun _ => rfl⟩, ⟨fun e => by omega, fun e => by omega⟩, .inl rfl⟩
          · rw [q2, bnd_ret]
            exact bad fun v => q1 fun k hk r hr => ⟨v.ps k r hr, fun j hj z hz => v.go k j r z hr hz⟩
        · rw [g2, bnd_ret]
          exact bad fun v => g1 fun i hi z hz => ⟨v.zs i z hz, fun y hpos hy => v.zi (i - 1) y z hy (by rw [show i - 1 + 1 = i by omega]; exact hz)⟩
      · simp only [decide_eq_false c7, Bool.not_false, cond_true, bnd_ret, sel]
        exact bad fun v => c7 (v.z0 _ h0)
    · simp only [decide_eq_false c4, Bool.not_false, cond_true, bnd_ret, sel]
      exact bad fun v => c4 ⟨v.t1, v.t2⟩
  · simp only [decide_eq_false c3, Bool.not_false, cond_true, bnd_ret, sel]
    exact bad fun v => c3 ⟨v.s1, v.s2⟩
end Go.Hx.V

/- Layer 4: the program's check of a screw. -/
namespace Go.Hx.V
open Go.Hx
set_option linter.unusedVariables false
set_option linter.unusedSimpArgs false
set_option maxRecDepth 20000
theorem iter_allB {step : Int → Option (Int ⊕ (Unit ⊕ Unit))} {N : Nat} (i0 n : Nat) (p : Nat → Prop) (h : ∀ j, i0 ≤ j → j < i0 + n → (p j ∧ step (j : Int) = some (.inl ((j + 1 : Nat) : Int))) ∨ (¬ p j ∧ step (j : Int) = some (.inr (.inl ())))) (he : step ((i0 + n : Nat) : Int) = some (.inr (.inr ()))) (hN : n < N) :
    ((∀ j, i0 ≤ j → j < i0 + n → p j) ∧ iter step N (i0 : Int) = some (.inr ())) ∨ (¬ (∀ j, i0 ≤ j → j < i0 + n → p j) ∧ iter step N (i0 : Int) = some (.inl ())) := by
  haveI : DecidablePred fun j => p (i0 + j) := fun _ => Classical.propDecidable _
  rcases iter_all (step := step) (N := N) (x := (i0 : Int)) (fun j => ((i0 + j : Nat) : Int)) n (fun j => p (i0 + j)) (.inr ()) (.inl ()) rfl (fun j hj hp => by
    rcases h (i0 + j) (by omega) (by omega) with g | g
    · exact g.2
    · exact absurd hp g.1) (fun j hj hp => by
    rcases h (i0 + j) (by omega) (by omega) with g | g
    · exact absurd g.1 hp
    · exact g.2) he hN with ⟨g1, g2⟩ | ⟨g1, g2⟩
  · exact .inl ⟨fun j h1 h2 => by have := g1 (j - i0) (by omega); rwa [show i0 + (j - i0) = j by omega] at this, g2⟩
  · exact .inr ⟨fun hh => g1 fun j hj => hh _ (by omega) (by omega), g2⟩
theorem m97 {N : Nat} {ph : Ph} (hN : ph.length < N) (hl : ph.length < 1000000000) : ((∀ (i : Nat) r, ph[i]? = some r → spn r) ∧ sf97 N ph = some true) ∨ (¬ (∀ (i : Nat) r, ph[i]? = some r → spn r) ∧ sf97 N ph = some false) := by
  unfold sf97
  have k1 : ∀ j, 0 ≤ j → j < 0 + ph.length → (((fun i => ∀ r, ph[i]? = some r → spn r)) j ∧ sf97_L1 N ph (j : Int) = some (.inl ((j + 1 : Nat) : Int))) ∨ (¬ ((fun i => ∀ r, ph[i]? = some r → spn r)) j ∧ sf97_L1 N ph (j : Int) = some (.inr (.inl ()))) := fun j _ hj => by
    obtain ⟨r, hr⟩ : ∃ r, ph[j]? = some r := ⟨_, lt_some (by omega)⟩
    have q3 : rng ((j : Int) + 1) := by unfold rng; omega
    unfold sf97_L1
    rw [decide_eq_true (show (j : Int) < (ph.length : Int) by omega), cond_true, ix_at rfl hr, m98, bnd_ret]
    by_cases c : spn r
    · left
      rw [decide_eq_true (show spn (r.1, r.2) from c), Bool.not_true, cond_false, ck_pos q3]
      exact ⟨fun r' h => by rw [hr] at h; cases h; exact c, rfl⟩
    · right
      rw [decide_eq_false (show ¬ spn (r.1, r.2) from c), Bool.not_false, cond_true]
      exact ⟨fun h => c (h r hr), rfl⟩
  have k2 : sf97_L1 N ph ((0 + ph.length : Nat) : Int) = some (.inr (.inr ())) := by
    unfold sf97_L1
    rw [decide_eq_false (show ¬ ((0 + ph.length : Nat) : Int) < (ph.length : Int) by omega), cond_false]
  rcases iter_allB (step := sf97_L1 N ph) (N := N) 0 ph.length (fun i => ∀ r, ph[i]? = some r → spn r) k1 k2 hN with ⟨g1, g2⟩ | ⟨g1, g2⟩
  · left
    have g2' : iter (sf97_L1 N ph) N (0 : Int) = some (.inr ()) := g2
    rw [g2', bnd_ret]
    exact ⟨fun i r hr => g1 i (by omega) (by have := some_lt hr; omega) r hr, rfl⟩
  · right
    have g2' : iter (sf97_L1 N ph) N (0 : Int) = some (.inl ()) := g2
    rw [g2', bnd_ret]
    exact ⟨fun h => g1 fun j _ _ r hr => h j r hr, rfl⟩
def zsp (z : Int × Int × Int) : Prop := (0 ≤ z.1 ∧ z.1 ≤ 60) ∧ spn z.2
theorem m99 {N : Nat} {zo : Zo} (hN : zo.length < N) (hl : zo.length < 1000000000) : ((∀ (i : Nat) z, zo[i]? = some z → zsp z) ∧ sf99 N zo = some true) ∨ (¬ (∀ (i : Nat) z, zo[i]? = some z → zsp z) ∧ sf99 N zo = some false) := by
  unfold sf99
  have k1 : ∀ j, 0 ≤ j → j < 0 + zo.length → (((fun i => ∀ z, zo[i]? = some z → zsp z)) j ∧ sf99_L1 N zo (j : Int) = some (.inl ((j + 1 : Nat) : Int))) ∨ (¬ ((fun i => ∀ z, zo[i]? = some z → zsp z)) j ∧ sf99_L1 N zo (j : Int) = some (.inr (.inl ()))) := fun j _ hj => by
    obtain ⟨r, hr⟩ : ∃ r, zo[j]? = some r := ⟨_, lt_some (by omega)⟩
    have q3 : rng ((j : Int) + 1) := by unfold rng; omega
    unfold sf99_L1
    rw [decide_eq_true (show (j : Int) < (zo.length : Int) by omega), cond_true, ix_at rfl hr, m100, bnd_ret]
    by_cases c : zsp r
    · left
      rw [decide_eq_true (show (0 ≤ r.1 ∧ r.1 ≤ 60) ∧ spn (r.2.1, r.2.2) from c), Bool.not_true, cond_false, ck_pos q3]
      exact ⟨fun r' h => by rw [hr] at h; cases h; exact c, rfl⟩
    · right
      rw [decide_eq_false (show ¬ ((0 ≤ r.1 ∧ r.1 ≤ 60) ∧ spn (r.2.1, r.2.2)) from c), Bool.not_false, cond_true]
      exact ⟨fun h => c (h r hr), rfl⟩
  have k2 : sf99_L1 N zo ((0 + zo.length : Nat) : Int) = some (.inr (.inr ())) := by
    unfold sf99_L1
    rw [decide_eq_false (show ¬ ((0 + zo.length : Nat) : Int) < (zo.length : Int) by omega), cond_false]
  rcases iter_allB (step := sf99_L1 N zo) (N := N) 0 zo.length (fun i => ∀ z, zo[i]? = some z → zsp z) k1 k2 hN with ⟨g1, g2⟩ | ⟨g1, g2⟩
  · left
    have g2' : iter (sf99_L1 N zo) N (0 : Int) = some (.inr ()) := g2
    rw [g2', bnd_ret]
    exact ⟨fun i r hr => g1 i (by omega) (by have := some_lt hr; omega) r hr, rfl⟩
  · right
    have g2' : iter (sf99_L1 N zo) N (0 : Int) = some (.inl ()) := g2
    rw [g2', bnd_ret]
    exact ⟨fun h => g1 fun j _ _ r hr => h j r hr, rfl⟩
def zri (zo : Zo) (i : Nat) : Prop := ∀ y z : Int × Int × Int, zo[i - 1]? = some y → zo[i]? = some z → y.1 < z.1
theorem m101 {N : Nat} {zo : Zo} (hN : zo.length < N) (hl : zo.length < 1000000000) : ((∀ i, 1 ≤ i → i < zo.length → zri zo i) ∧ sf101 N zo = some true) ∨ (¬ (∀ i, 1 ≤ i → i < zo.length → zri zo i) ∧ sf101 N zo = some false) := by
  unfold sf101
  have k1 : ∀ j, 1 ≤ j → j < 1 + (zo.length - 1) → ((zri zo) j ∧ sf101_L1 N zo (j : Int) = some (.inl ((j + 1 : Nat) : Int))) ∨ (¬ (zri zo) j ∧ sf101_L1 N zo (j : Int) = some (.inr (.inl ()))) := fun j h1 hj => by
    obtain ⟨z, hz⟩ : ∃ r, zo[j]? = some r := ⟨_, lt_some (by omega)⟩
    obtain ⟨y, hy⟩ : ∃ r, zo[j - 1]? = some r := ⟨_, lt_some (by omega)⟩
    have q3 : rng ((j : Int) + 1) := by unfold rng; omega
    have q4 : rng ((j : Int) - 1) := by unfold rng; omega
    unfold sf101_L1
    rw [decide_eq_true (show (j : Int) < (zo.length : Int) by omega), cond_true, ck_pos q4, ix_at (n := j - 1) (by omega) hy, ix_at rfl hz]
    unfold sf102
    rw [bnd_ret]
    by_cases c : y.1 < z.1
    · left
      rw [decide_eq_true c, Bool.not_true, cond_false, ck_pos q3]
      exact ⟨fun y' z' h h' => by rw [hy] at h; rw [hz] at h'; cases h; cases h'; exact c, rfl⟩
    · right
      rw [decide_eq_false c, Bool.not_false, cond_true]
      exact ⟨fun h => c (h y z hy hz), rfl⟩
  have k2 : sf101_L1 N zo ((1 + (zo.length - 1) : Nat) : Int) = some (.inr (.inr ())) := by
    unfold sf101_L1
    rw [decide_eq_false (show ¬ ((1 + (zo.length - 1) : Nat) : Int) < (zo.length : Int) by omega), cond_false]
  rcases iter_allB (step := sf101_L1 N zo) (N := N) 1 (zo.length - 1) (zri zo) k1 k2 (by omega) with ⟨g1, g2⟩ | ⟨g1, g2⟩
  · left
    have g2' : iter (sf101_L1 N zo) N (1 : Int) = some (.inr ()) := g2
    rw [g2', bnd_ret]
    exact ⟨fun i h1 h2 => g1 i h1 (by omega), rfl⟩
  · right
    have g2' : iter (sf101_L1 N zo) N (1 : Int) = some (.inl ()) := g2
    rw [g2', bnd_ret]
    exact ⟨fun h => g1 fun j h1 h2 => h j h1 (by omega), rfl⟩
theorem m84 {N : Nat} {st tk : Int} {ph : Ph} {zo : Zo} (hN : ph.length < N) (hN2 : zo.length < N) (hl : N < 1000000000) : sf84 N st ph zo tk = some (ph.map (·.1), zo.map (·.2.1)) := by
  have mi : ∀ {α β : Type} (f : α → β) (l : List α), (l.mapIdx fun _ x => f x) = l.map f := fun f l => by
    refine List.ext_getElem? fun i => ?_
    rw [List.getElem?_mapIdx, List.getElem?_map]
  unfold sf84
  rw [iter_map ph (fun _ x => x.1) (fun j x acc hx ha => ?_) (fun acc => ?_) hN, bnd_ret, iter_map zo (fun _ x => x.2.1) (fun j x acc hx ha => ?_) (fun acc => ?_) hN2, bnd_ret, mi, mi]
  · have hj := some_lt hx
    have q3 : rng ((j : Int) + 1) := by unfold rng; omega
    unfold sf84_L2
    dsimp only
    rw [decide_eq_true (show (j : Int) < (zo.length : Int) by omega), cond_true, ix_at rfl hx]
    unfold sf105
    rw [bnd_ret, ck_pos (by omega), ck_pos q3]; rfl
  · unfold sf84_L2
    dsimp only
    rw [decide_eq_false (show ¬ (zo.length : Int) < (zo.length : Int) by omega), cond_false]
  · have hj := some_lt hx
    have q3 : rng ((j : Int) + 1) := by unfold rng; omega
    unfold sf84_L1
    dsimp only
    rw [decide_eq_true (show (j : Int) < (ph.length : Int) by omega), cond_true, ix_at rfl hx]
    unfold sf105
    rw [bnd_ret, ck_pos (by omega), ck_pos q3]; rfl
  · unfold sf84_L1
    dsimp only
    rw [decide_eq_false (show ¬ (ph.length : Int) < (ph.length : Int) by omega), cond_false]
/-- The least of some numbers. -/
def lst (a : Int) (l : List Int) : Nat → Int
  | 0 => a
  | n + 1 => match l[n]? with | some x => if x < lst a l n then x else lst a l n | none => lst a l n
theorem m103 {N : Nat} {a : Int} {l : List Int} (hN : l.length < N) (hl : N < 1000000000) : sf103 N a l = some (lst a l l.length) := by
  unfold sf103
  rw [iter_up (step := sf103_L1 l) (x := (a, (0 : Int))) (fun j => (lst a l j, (j : Int))) l.length (lst a l l.length) rfl (fun j hj => ?_) ?_ hN, bnd_ret]
  · unfold sf103_L1
    dsimp only
    rw [decide_eq_false (show ¬ (l.length : Int) < (l.length : Int) by omega), cond_false]
  · obtain ⟨x, hx⟩ : ∃ r, l[j]? = some r := ⟨_, lt_some hj⟩
    have q3 : rng ((j : Int) + 1) := by unfold rng; omega
    unfold sf103_L1
    dsimp only
    rw [decide_eq_true (show (j : Int) < (l.length : Int) by omega), cond_true, ix_at rfl hx]
    rw [show lst a l (j + 1) = (if x < lst a l j then x else lst a l j) by rw [lst, hx]]
    by_cases c : x < lst a l j
    · rw [decide_eq_true c, cond_true, ck_pos q3, if_pos c]; rfl
    · rw [decide_eq_false c, cond_false, ck_pos q3, if_neg c]; rfl
theorem lst_le {a : Int} {l : List Int} : ∀ n, lst a l n ≤ a ∧ (∀ i x, i < n → l[i]? = some x → lst a l n ≤ x) ∧ (lst a l n = a ∨ ∃ i : Nat, l[i]? = some (lst a l n))
  | 0 => ⟨Int.le_refl _, fun i x h => by omega, .inl rfl⟩
  | n + 1 => by
    obtain ⟨h1, h2, h3⟩ := lst_le (a := a) (l := l) n
    unfold lst
    cases e : l[n]? with
    | none =>
      refine ⟨h1, fun i x hi hx => ?_, h3⟩
      rcases Nat.lt_or_ge i n with g | g
      · exact h2 i x g hx
      · rw [show i = n by omega, e] at hx; cases hx
    | some y =>
      dsimp only
      by_cases c : y < lst a l n
      · rw [if_pos c]
        refine ⟨by omega, fun i x hi hx => ?_, .inr ⟨n, e⟩⟩
        rcases Nat.lt_or_ge i n with g | g
        · have := h2 i x g hx; omega
        · rw [show i = n by omega, e] at hx; cases hx; omega
      · rw [if_neg c]
        refine ⟨h1, fun i x hi hx => ?_, h3⟩
        rcases Nat.lt_or_ge i n with g | g
        · exact h2 i x g hx
        · rw [show i = n by omega, e] at hx; cases hx; omega
theorem m103c {N : Nat} {x : Int} {l : List Int} (hx : l[0]? = some x) (hN : l.length < N) (hl : N < 1000000000) : ∃ m, sf103 N x ((l.drop (Int.toNat (1 : Int))).take (l.length - (Int.toNat (1 : Int)))) = some m ∧ (∀ (i : Nat) y, l[i]? = some y → m ≤ y) ∧ ∃ i : Nat, l[i]? = some m := by
  have e1 : Int.toNat 1 = 1 := rfl
  have e : ((l.drop (Int.toNat (1 : Int))).take (l.length - (Int.toNat (1 : Int)))) = l.drop 1 := by
    rw [e1, List.take_of_length_le (by rw [List.length_drop]; omega)]
  rw [e]
  have hlen : (l.drop 1).length = l.length - 1 := by rw [List.length_drop]
  refine ⟨_, m103 (by omega) hl, ?_, ?_⟩
  · obtain ⟨h1, h2, _⟩ := lst_le (a := x) (l := l.drop 1) (l.drop 1).length
    intro i y hy
    cases i with
    | zero => rw [hx] at hy; cases hy; exact h1
    | succ i => exact h2 i y (by have := some_lt hy; omega) (by rw [List.getElem?_drop, Nat.add_comm]; exact hy)
  · obtain ⟨_, _, h3⟩ := lst_le (a := x) (l := l.drop 1) (l.drop 1).length
    rcases h3 with h3 | ⟨i, h3⟩
    · exact ⟨0, by rw [h3]; exact hx⟩
    · exact ⟨1 + i, by rw [List.getElem?_drop] at h3; exact h3⟩
end Go.Hx.V

/- Layer 4: the program's check of a screw is the reference's; zones; places. -/
namespace Go.Hx.V
open Go.Hx
set_option linter.unusedVariables false
set_option linter.unusedSimpArgs false
set_option maxRecDepth 20000
theorem bndid {α : Type} {x : Option α} : bnd x (fun v => some v) = x := by cases x <;> rfl
theorem m18 {N : Nat} {st tk : Int} {ph : Ph} {zo : Zo} (hN : zo.length < N) (hN2 : ph.length < N) (hl : N < 1000000000) :
    ∃ e, sf18 N st ph zo tk = some e ∧ (e = 0 ↔ VS st ph zo tk) ∧ (e = 3 ↔ (8 < ph.length ∨ 3 < zo.length)) ∧ (e = 0 ∨ e = 1 ∨ e = 3) := by
  have big : 8 < ph.length ∨ 3 < zo.length → ∃ e : Int, some (3 : Int) = some e ∧ (e = 0 ↔ VS st ph zo tk) ∧ (e = 3 ↔ (8 < ph.length ∨ 3 < zo.length)) ∧ (e = 0 ∨ e = 1 ∨ e = 3) := fun h => ⟨3, rfl, ⟨fun e => by omega, fun v => by have := v.lp; have := v.lz; omega⟩, ⟨fun _ => h, fun _ => rfl⟩, .inr (.inr rfl)⟩
  have bad : ¬ (8 < ph.length ∨ 3 < zo.length) → ¬ VS st ph zo tk → ∃ e : Int, some (1 : Int) = some e ∧ (e = 0 ↔ VS st ph zo tk) ∧ (e = 3 ↔ (8 < ph.length ∨ 3 < zo.length)) ∧ (e = 0 ∨ e = 1 ∨ e = 3) := fun g h => ⟨1, rfl, ⟨fun e => by omega, fun v => absurd v h⟩, ⟨fun e => by omega, fun e => absurd e g⟩, .inr (.inl rfl)⟩
  unfold sf18
  by_cases c1 : 8 < ph.length
  · rw [decide_eq_true (show (8 : Int) < (ph.length : Int) by omega), cond_true, bnd_ret, cond_true]
    exact big (.inl c1)
  rw [decide_eq_false (show ¬ (8 : Int) < (ph.length : Int) by omega), cond_false, bnd_ret]
  by_cases c2 : 3 < zo.length
  · rw [decide_eq_true (show (3 : Int) < (zo.length : Int) by omega), cond_true]
    exact big (.inr c2)
  rw [decide_eq_false (show ¬ (3 : Int) < (zo.length : Int) by omega), cond_false]
  have g : ¬ (8 < ph.length ∨ 3 < zo.length) := by omega
  have fin : ∀ b : Bool, sf50 N st ph zo tk = some b → (b = true ↔ VS st ph zo tk) → ∃ e : Int, (bnd (sf50 N st ph zo tk) fun v11 => bif (!v11) then some (1 : Int) else some (0 : Int)) = some e ∧ (e = 0 ↔ VS st ph zo tk) ∧ (e = 3 ↔ (8 < ph.length ∨ 3 < zo.length)) ∧ (e = 0 ∨ e = 1 ∨ e = 3) := fun b hb hv => by
    rw [hb, bnd_ret]
    cases b with
    | true => exact ⟨0, rfl, ⟨fun _ => hv.1 rfl, fun _ => rfl⟩, ⟨fun e => by omega, fun e => absurd e g⟩, .inl rfl⟩
    | false => exact bad g fun v => by have := hv.2 v; cases this
  have no : ∀ {x : Option Bool}, sf50 N st ph zo tk = some false → ¬ VS st ph zo tk → ∃ e : Int, (bnd (sf50 N st ph zo tk) fun v11 => bif (!v11) then some (1 : Int) else some (0 : Int)) = some e ∧ (e = 0 ↔ VS st ph zo tk) ∧ (e = 3 ↔ (8 < ph.length ∨ 3 < zo.length)) ∧ (e = 0 ∨ e = 1 ∨ e = 3) := fun h hv => fin false h ⟨(fun e => by cases e), fun v => absurd v hv⟩
  by_cases d1 : 1 ≤ st
  rotate_left
  · exact no (x := none) (by unfold sf50; rw [decide_eq_false d1, cond_false]) fun v => d1 v.s1
  by_cases d2 : st ≤ 50
  rotate_left
  · exact no (x := none) (by unfold sf50; rw [decide_eq_true d1, cond_true, decide_eq_false d2, cond_false]) fun v => d2 v.s2
  by_cases d3 : 1 ≤ tk
  rotate_left
  · exact no (x := none) (by unfold sf50; rw [decide_eq_true d1, cond_true, decide_eq_true d2, cond_true, decide_eq_false d3, cond_false]) fun v => d3 v.t1
  by_cases d4 : tk ≤ 60
  rotate_left
  · exact no (x := none) (by unfold sf50; rw [decide_eq_true d1, cond_true, decide_eq_true d2, cond_true, decide_eq_true d3, cond_true, decide_eq_false d4, cond_false]) fun v => d4 v.t2
  have e50 : sf50 N st ph zo tk = (bnd (sf76 N st ph zo tk) fun v8 => (bif v8 then (bnd (sf77 N st ph zo tk) fun v12 => (bif v12 then (bnd (sf78 N st ph zo tk) fun v16 => some v16) else some false)) else some false)) := by
    unfold sf50
    rw [decide_eq_true d1, cond_true, decide_eq_true d2, cond_true, decide_eq_true d3, cond_true, decide_eq_true d4, cond_true]
  by_cases d5 : 0 < ph.length
  rotate_left
  · exact no (x := none) (by rw [e50]; unfold sf76; rw [decide_eq_false (show ¬ (0 : Int) < (ph.length : Int) by omega), cond_false, bnd_ret, cond_false]) fun v => d5 v.pn
  have e76 : sf76 N st ph zo tk = sf97 N ph := by unfold sf76; rw [decide_eq_true (show (0 : Int) < (ph.length : Int) by omega), cond_true, bndid]
  rcases m97 hN2 (by omega) with ⟨p1, p2⟩ | ⟨p1, p2⟩
  rotate_left
  · exact no (x := none) (by rw [e50, e76, p2, bnd_ret, cond_false]) fun v => p1 fun i r hr => v.ps i r hr
  by_cases d6 : 0 < zo.length
  rotate_left
  · exact no (x := none) (by rw [e50, e76, p2, bnd_ret, cond_true]; unfold sf77; rw [decide_eq_false (show ¬ (0 : Int) < (zo.length : Int) by omega), cond_false, bnd_ret, cond_false]) fun v => d6 v.zn
  obtain ⟨z0, h0⟩ : ∃ z, zo[0]? = some z := ⟨_, lt_some d6⟩
  have e77 : sf77 N st ph zo tk = (bif (decide (z0.1 = 0)) then (bnd (sf99 N zo) fun v7 => (bif v7 then (bnd (sf101 N zo) fun v11 => some v11) else some false)) else some false) := by
    unfold sf77
    rw [decide_eq_true (show (0 : Int) < (zo.length : Int) by omega), cond_true]
    exact ix_at (n := 0) rfl h0
  by_cases d7 : z0.1 = 0
  rotate_left
  · exact no (x := none) (by rw [e50, e76, p2, bnd_ret, cond_true, e77, decide_eq_false d7, cond_false, bnd_ret, cond_false]) fun v => d7 (v.z0 _ h0)
  rw [decide_eq_true d7, cond_true] at e77
  rcases m99 hN (by omega) with ⟨q1, q2⟩ | ⟨q1, q2⟩
  rotate_left
  · exact no (x := none) (by rw [e50, e76, p2, bnd_ret, cond_true, e77, q2, bnd_ret, cond_false, bnd_ret, cond_false]) fun v => q1 fun i z hz => v.zs i z hz
  rw [q2, bnd_ret, cond_true, bndid] at e77
  rcases m101 hN (by omega) with ⟨u1, u2⟩ | ⟨u1, u2⟩
  rotate_left
  · exact no (x := none) (by rw [e50, e76, p2, bnd_ret, cond_true, e77, u2, bnd_ret, cond_false]) fun v => u1 fun i hi1 hi2 y z hy hz => v.zi (i - 1) y z hy (by rw [show i - 1 + 1 = i by omega]; exact hz)
  -- the least sum
  obtain ⟨r0, hr0⟩ : ∃ r, ph[0]? = some r := ⟨_, lt_some d5⟩
  have f1 : (ph.map (·.1))[0]? = some r0.1 := by rw [List.getElem?_map, hr0]; rfl
  have f2 : (zo.map (·.2.1))[0]? = some z0.2.1 := by rw [List.getElem?_map, h0]; rfl
  obtain ⟨m1, a1, a2, i1, a3⟩ := m103c (N := N) f1 (by rw [List.length_map]; omega) hl
  obtain ⟨m2, b1, b2, i2, b3⟩ := m103c (N := N) f2 (by rw [List.length_map]; omega) hl
  obtain ⟨ra, hra, rfl⟩ : ∃ r, ph[i1]? = some r ∧ r.1 = m1 := by
    rw [List.getElem?_map] at a3
    cases h : ph[i1]? with
    | none => rw [h] at a3; cases a3
    | some r => rw [h] at a3; exact ⟨r, rfl, Option.some.inj a3⟩
  obtain ⟨zb, hzb, rfl⟩ : ∃ r, zo[i2]? = some r ∧ r.2.1 = m2 := by
    rw [List.getElem?_map] at b3
    cases h : zo[i2]? with
    | none => rw [h] at b3; cases b3
    | some r => rw [h] at b3; exact ⟨r, rfl, Option.some.inj b3⟩
  have sa := p1 _ _ hra
  have sb := (q1 _ _ hzb).2
  unfold spn at sa sb
  have e78 : sf78 N st ph zo tk = some (decide (1 ≤ st + ra.1 + zb.2.1)) := by
    unfold sf78 sf83
    rw [bnd_ret, m84 hN2 hN hl, bnd_ret]
    have w1 : rng (st + ra.1) := by unfold rng; omega
    have w2 : rng (st + ra.1 + zb.2.1) := by unfold rng; omega
    have l1 : (ph.map (·.1)).length = ph.length := List.length_map ..
    have l2 : (zo.map (·.2.1)).length = zo.length := List.length_map ..
    have t1 : Int.toNat 1 = 1 := rfl
    dsimp only
    rw [ix_0 f1, ck_pos (by rw [l1, t1]; omega), a1, bnd_ret, ix_0 f2, ck_pos (by rw [l2, t1]; omega), b1, bnd_ret, ck_pos w1, ck_pos w2]
  refine fin (decide (1 ≤ st + ra.1 + zb.2.1)) (by rw [e50, e76, p2, bnd_ret, cond_true, e77, u2, bnd_ret, cond_true, e78, bnd_ret]) ?_
  rw [decide_eq_true_eq]
  refine ⟨fun h => ⟨by omega, by omega, d1, d2, d3, d4, d5, d6, fun z hz => by rw [h0] at hz; cases hz; exact d7, q1, fun i z z' hz hz' => u1 (i + 1) (by omega) (some_lt hz') z z' hz hz', p1, fun i k r z hr hz => ?_⟩, fun v => v.go _ _ _ _ hra hzb⟩
  have g1 := a2 i r.1 (by rw [List.getElem?_map, hr]; rfl)
  have g2 := b2 k z.2.1 (by rw [List.getElem?_map, hz]; rfl)
  omega
/-- The zone of a tick, of the first so many. -/
def znf (zo : Zo) (k : Int) : Nat → Nat
  | 0 => 0
  | n + 1 => match zo[n]? with | some z => if z.1 ≤ k then n else znf zo k n | none => znf zo k n
def zn (zo : Zo) (k : Int) : Nat := znf zo k zo.length
theorem znf_lt {zo : Zo} {k : Int} (h : 0 < zo.length) : ∀ n, n ≤ zo.length → znf zo k n < zo.length
  | 0, _ => h
  | n + 1, hn => by
    obtain ⟨z, hz⟩ : ∃ z, zo[n]? = some z := ⟨_, lt_some (by omega)⟩
    have := znf_lt (k := k) h n (by omega)
    rw [znf, hz]
    dsimp only
    by_cases c : z.1 ≤ k
    · rw [if_pos c]; omega
    · rw [if_neg c]; exact this
theorem m82 {N : Nat} {st tk k : Int} {ph : Ph} {zo : Zo} (hN : zo.length < N) (hl : N < 1000000000) : sf82 N st ph zo tk k = some (zn zo k : Int) := by
  unfold sf82
  rw [iter_up (step := sf82_L1 zo k) (x := ((0 : Int), (0 : Int))) (fun j => ((znf zo k j : Int), (j : Int))) zo.length (zn zo k : Int) rfl (fun j hj => ?_) ?_ hN, bnd_ret]
  · unfold sf82_L1
    dsimp only
    rw [decide_eq_false (show ¬ (zo.length : Int) < (zo.length : Int) by omega), cond_false]
    rfl
  · obtain ⟨z, hz⟩ : ∃ z, zo[j]? = some z := ⟨_, lt_some hj⟩
    have q3 : rng ((j : Int) + 1) := by unfold rng; omega
    unfold sf82_L1
    dsimp only
    rw [decide_eq_true (show (j : Int) < (zo.length : Int) by omega), cond_true, ix_at rfl hz]
    rw [show znf zo k (j + 1) = (if z.1 ≤ k then j else znf zo k j) by rw [znf, hz]]
    by_cases c : z.1 ≤ k
    · rw [decide_eq_true c, cond_true, ck_pos q3, if_pos c]; rfl
    · rw [decide_eq_false c, cond_false, ck_pos q3, if_neg c]; rfl
end Go.Hx.V

/- Layer 4: truths by words; places of ticks. -/
namespace Go.Hx.V
open Go.Hx
set_option linter.unusedVariables false
set_option linter.unusedSimpArgs false
set_option maxRecDepth 20000
def wd (ws : List Int) (j : Nat) : Int := if ws.length = 0 then 0 else (ws[j % ws.length]?).getD 0
theorem wd_bd {ws : List Int} (hw : ∀ x ∈ ws, 0 ≤ x ∧ x < 65536) (j : Nat) : 0 ≤ wd ws j ∧ wd ws j < 65536 := by
  unfold wd
  by_cases c : ws.length = 0
  · rw [if_pos c]; omega
  · rw [if_neg c]
    obtain ⟨x, hx⟩ : ∃ x, ws[j % ws.length]? = some x := ⟨_, lt_some (Nat.mod_lt _ (by omega))⟩
    rw [hx]
    exact hw x (List.mem_of_getElem? hx)
def pck (r : Int × Int) (w : Int) : Int := r.1 + Int.tmod w (r.2 - r.1 + 1)
theorem pck_bd {r : Int × Int} {w : Int} (hs : spn r) (hw : 0 ≤ w) : r.1 ≤ pck r w ∧ pck r w ≤ r.2 := by
  unfold spn at hs
  unfold pck
  have h1 : 0 ≤ Int.tmod w (r.2 - r.1 + 1) := Int.tmod_nonneg _ hw
  have h2 : Int.tmod w (r.2 - r.1 + 1) < r.2 - r.1 + 1 := Int.tmod_lt_of_pos _ (by omega)
  omega
/-- A truth of ranges. -/
def Tru (l : List (Int × Int)) (p : List Int) : Prop := p.length = l.length ∧ ∀ (i : Nat) r x, l[i]? = some r → p[i]? = some x → r.1 ≤ x ∧ x ≤ r.2
def pkl (l : List (Int × Int)) (ws : List Int) (o : Nat) : List Int := l.mapIdx fun j r => pck r (wd ws (j + o))
theorem pkl_tru {l : List (Int × Int)} {ws : List Int} {o : Nat} (hw : ∀ x ∈ ws, 0 ≤ x ∧ x < 65536) (hs : ∀ (i : Nat) r, l[i]? = some r → spn r) : Tru l (pkl l ws o) := by
  refine ⟨by unfold pkl; rw [List.length_mapIdx], fun i r x hr hx => ?_⟩
  unfold pkl at hx
  rw [List.getElem?_mapIdx, hr] at hx
  rw [← Option.some.inj hx]
  exact pck_bd (hs i r hr) (wd_bd hw _).1
abbrev wr (zo : Zo) : List (Int × Int) := zo.map (·.2)
/-! places -/
section
variable (st : Int) (n : Nat) (zo : Zo) (p w : List Int)
def stp (t : Nat) : Int := st + (p[t % n]?).getD 0 + (w[zn zo (t : Int)]?).getD 0
def plc : Nat → Int
  | 0 => 0
  | t + 1 => plc t + stp st n zo p w t
def pls (t : Nat) : List Int := (List.range (t + 1)).map (plc st n zo p w)
end
theorem pls_succ {st : Int} {n : Nat} {zo : Zo} {p w : List Int} {t : Nat} : pls st n zo p w (t + 1) = pls st n zo p w t ++ [plc st n zo p w (t + 1)] := by
  unfold pls
  rw [List.range_succ, List.map_append]; rfl
/-- A truth that is one of a valid screw. -/
structure TS (st : Int) (ph : Ph) (zo : Zo) (tk : Int) (p w : List Int) : Prop where
  v : VS st ph zo tk
  tp : Tru ph p
  tw : Tru (wr zo) w
theorem TS.step {st tk : Int} {ph : Ph} {zo : Zo} {p w : List Int} (h : TS st ph zo tk p w) (t : Nat) : ∃ x y : Int, p[t % ph.length]? = some x ∧ w[zn zo (t : Int)]? = some y ∧ stp st ph.length zo p w t = st + x + y ∧ (-20 ≤ x ∧ x ≤ 20) ∧ (-20 ≤ y ∧ y ≤ 20) ∧ 1 ≤ st + x + y := by
  have hm := Nat.mod_lt t h.v.pn
  have hz : zn zo (t : Int) < zo.length := znf_lt h.v.zn _ (Nat.le_refl _)
  obtain ⟨r, hr⟩ : ∃ r, ph[t % ph.length]? = some r := ⟨_, lt_some hm⟩
  obtain ⟨z, hz2⟩ : ∃ z, zo[zn zo (t : Int)]? = some z := ⟨_, lt_some hz⟩
  obtain ⟨x, hx⟩ : ∃ x, p[t % ph.length]? = some x := ⟨_, lt_some (by rw [h.tp.1]; exact hm)⟩
  obtain ⟨y, hy⟩ : ∃ y, w[zn zo (t : Int)]? = some y := ⟨_, lt_some (by rw [h.tw.1, List.length_map]; exact hz)⟩
  have b1 := h.tp.2 _ _ _ hr hx
  have b2 := h.tw.2 _ z.2 _ (by unfold wr; rw [List.getElem?_map, hz2]; rfl) hy
  have s1 := h.v.ps _ _ hr
  have s2 := (h.v.zs _ _ hz2).2
  have g := h.v.go _ _ _ _ hr hz2
  unfold spn at s1 s2
  refine ⟨x, y, hx, hy, by unfold stp; rw [hx, hy]; rfl, by omega, by omega, by omega⟩
theorem TS.bd {st tk : Int} {ph : Ph} {zo : Zo} {p w : List Int} (h : TS st ph zo tk p w) : ∀ t : Nat, (t : Int) ≤ plc st ph.length zo p w t ∧ plc st ph.length zo p w t ≤ 90 * t
  | 0 => by unfold plc; omega
  | t + 1 => by
    obtain ⟨x, y, _, _, e, b1, b2, b3⟩ := h.step t
    have := h.bd t
    have := h.v.s2
    unfold plc
    rw [e]
    omega
/-- One turn. -/
theorem m53a {N : Nat} {st tk : Int} {ph : Ph} {zo : Zo} {p w : List Int} (h : TS st ph zo tk p w) (q : Nat) (x17 : Int × Int × List Int) (hx : x17.1 = ((q * ph.length : Nat) : Int)) (hq : ((q * ph.length : Nat) : Int) < tk) (hN : 8 < N) (hl : N < 1000000000) :
    ∃ t : Nat, (t : Int) = min (((q + 1) * ph.length : Nat) : Int) tk ∧ (iter (sf53_L1 N st ph zo tk p w x17) N ((0 : Int), plc st ph.length zo p w (q * ph.length), pls st ph.length zo p w (q * ph.length)) = some (.inl (plc st ph.length zo p w t, pls st ph.length zo p w t)) ∨ iter (sf53_L1 N st ph zo tk p w x17) N ((0 : Int), plc st ph.length zo p w (q * ph.length), pls st ph.length zo p w (q * ph.length)) = some (.inr (plc st ph.length zo p w t, pls st ph.length zo p w t))) := by
  have hpn := h.v.pn
  have hlp := h.v.lp
  have ht2 := h.v.t2
  have e1 : (q + 1) * ph.length = q * ph.length + ph.length := by rw [Nat.add_mul, Nat.one_mul]
  obtain ⟨K, rfl⟩ : ∃ K : Nat, tk = (K : Int) := ⟨tk.toNat, by omega⟩
  -- a tick of the turn
  have stepj : ∀ j, j < ph.length → q * ph.length + j < K → sf53_L1 N st ph zo (K : Int) p w x17 ((j : Int), plc st ph.length zo p w (q * ph.length + j), pls st ph.length zo p w (q * ph.length + j)) = some (.inl (((j + 1 : Nat) : Int), plc st ph.length zo p w (q * ph.length + (j + 1)), pls st ph.length zo p w (q * ph.length + (j + 1)))) := fun j hj hk => by
    obtain ⟨x, y, hxx, hyy, e, b1, b2, b3⟩ := h.step (q * ph.length + j)
    have hmod : (q * ph.length + j) % ph.length = j := by rw [Nat.add_comm, Nat.mul_comm, Nat.add_mul_mod_self_left]; exact Nat.mod_eq_of_lt hj
    rw [hmod] at hxx
    have hb := h.bd (q * ph.length + j)
    have q1 : rng (((q * ph.length : Nat) : Int) + (j : Int)) := by unfold rng; omega
    have hs2 := h.v.s2
    have hs1 := h.v.s1
    have q2 : rng (st + x) := by unfold rng; omega
    have q3 : rng (st + x + y) := by unfold rng; omega
    have q4 : rng (plc st ph.length zo p w (q * ph.length + j) + (st + x + y)) := by unfold rng; omega
    have q5 : rng ((j : Int) + 1) := by unfold rng; omega
    have hlz := h.v.lz
    have llen : (pls st ph.length zo p w (q * ph.length + j)).length = q * ph.length + j + 1 := by unfold pls; rw [List.length_map, List.length_range]
    unfold sf53_L1
    dsimp only
    rw [decide_eq_true (show (j : Int) < (ph.length : Int) by omega), cond_true, hx, ck_pos q1, decide_eq_false (show ¬ (((q * ph.length : Nat) : Int) + (j : Int) = (K : Int)) by omega), cond_false, ix_at rfl hxx, ck_pos q2, show ((q * ph.length : Nat) : Int) + (j : Int) = ((q * ph.length + j : Nat) : Int) from rfl, m82 (by omega) hl, bnd_ret, ix_at rfl hyy, ck_pos q3, ck_pos q4, ck_pos (by rw [llen]; omega), ck_pos q5]
    have e2 : plc st ph.length zo p w (q * ph.length + (j + 1)) = plc st ph.length zo p w (q * ph.length + j) + (st + x + y) := by
      rw [← Nat.add_assoc]; show plc st ph.length zo p w (q * ph.length + j) + stp st ph.length zo p w (q * ph.length + j) = _; rw [e]
    rw [← Nat.add_assoc (q * ph.length) j 1, pls_succ, Nat.add_assoc, e2]
    rfl
  by_cases c : (q + 1) * ph.length ≤ K
  · refine ⟨(q + 1) * ph.length, by omega, .inr ?_⟩
    refine iter_up (fun j => ((j : Int), plc st ph.length zo p w (q * ph.length + j), pls st ph.length zo p w (q * ph.length + j))) ph.length _ rfl (fun j hj => stepj j hj (by omega)) ?_ (by omega)
    unfold sf53_L1
    dsimp only
    rw [decide_eq_false (show ¬ (ph.length : Int) < (ph.length : Int) by omega), cond_false, e1]
  · refine ⟨K, by omega, .inl ?_⟩
    have e3 : q * ph.length + (K - q * ph.length) = K := by omega
    refine iter_up (fun j => ((j : Int), plc st ph.length zo p w (q * ph.length + j), pls st ph.length zo p w (q * ph.length + j))) (K - q * ph.length) _ rfl (fun j hj => stepj j (by omega) (by omega)) ?_ (by omega)
    have q1 : rng (((q * ph.length : Nat) : Int) + ((K - q * ph.length : Nat) : Int)) := by unfold rng; omega
    unfold sf53_L1
    dsimp only
    rw [decide_eq_true (show ((K - q * ph.length : Nat) : Int) < (ph.length : Int) by omega), cond_true, hx, ck_pos q1, decide_eq_true (show ((q * ph.length : Nat) : Int) + ((K - q * ph.length : Nat) : Int) = (K : Int) by omega), cond_true, e3]
end Go.Hx.V

/- Layer 4: places of all ticks; the law of P4.13. -/
namespace Go.Hx.V
open Go.Hx
set_option linter.unusedVariables false
set_option linter.unusedSimpArgs false
set_option maxRecDepth 20000
theorem sel_inl {α β γ : Type} {f : α → Option γ} {g : β → Option γ} {x : α} : sel f g (.inl x) = f x := rfl
theorem sel_inr {α β γ : Type} {f : α → Option γ} {g : β → Option γ} {x : β} : sel f g (.inr x) = g x := rfl
theorem least {p : Nat → Prop} (h : ∃ m, p m) : ∃ m, p m ∧ ∀ q, q < m → ¬ p q := by
  obtain ⟨m, hm⟩ := h
  induction m using Nat.strongRecOn with
  | ind m ih =>
    by_cases g : ∀ q, q < m → ¬ p q
    · exact ⟨m, hm, g⟩
    · obtain ⟨q, hq⟩ : ∃ q, q < m ∧ p q := Classical.byContradiction fun hc => g fun q h1 h2 => hc ⟨q, h1, h2⟩
      exact ih q hq.1 hq.2
theorem m53 {N : Nat} {st : Int} {K : Nat} {ph : Ph} {zo : Zo} {p w : List Int} (h : TS st ph zo (K : Int) p w) (hN : 70 < N) (hl : N < 1000000000) : sf53 N st ph zo (K : Int) p w = some (pls st ph.length zo p w K) := by
  have hpn := h.v.pn
  have ht2 := h.v.t2
  have ht1 := h.v.t1
  have q1 : rng ((K : Int) + 1) := by unfold rng; omega
  have t1 : Int.toNat 1 = 1 := rfl
  have t2 : Int.toNat ((K : Int) + 1) = K + 1 := by omega
  -- the state ahead of a turn
  let s : Nat → Int × Int × List Int := fun q => (((q * ph.length : Nat) : Int), plc st ph.length zo p w (min (q * ph.length) K), pls st ph.length zo p w (min (q * ph.length) K))
  have hstep : ∀ q, q * ph.length < K → sf53_L2 N st ph zo (K : Int) p w (s q) = some (.inl (s (q + 1))) := fun q hq => by
    have e1 : (q + 1) * ph.length = q * ph.length + ph.length := by rw [Nat.add_mul, Nat.one_mul]
    have hlp := h.v.lp
    have hm : min (q * ph.length) K = q * ph.length := by omega
    obtain ⟨t, ht, hi⟩ := m53a (N := N) h q (s q) rfl (by omega) (by omega) hl
    have ht' : t = min ((q + 1) * ph.length) K := by omega
    have q3 : rng (((q * ph.length : Nat) : Int) + (ph.length : Int)) := by unfold rng; omega
    unfold sf53_L2
    rw [decide_eq_true (show (s q).1 < (K : Int) by show ((q * ph.length : Nat) : Int) < _; omega), cond_true]
    have e2 : ((0 : Int), (s q).2.1, (s q).2.2) = ((0 : Int), plc st ph.length zo p w (q * ph.length), pls st ph.length zo p w (q * ph.length)) := by show (_, plc _ _ _ _ _ (min _ _), pls _ _ _ _ _ (min _ _)) = _; rw [hm]
    have e3 : s (q + 1) = (((q * ph.length : Nat) : Int) + (ph.length : Int), plc st ph.length zo p w t, pls st ph.length zo p w t) := by
      show ((((q + 1) * ph.length : Nat) : Int), plc _ _ _ _ _ (min _ _), pls _ _ _ _ _ (min _ _)) = _
      rw [← ht', e1]; rfl
    rw [e2]
    rcases hi with hi | hi
    · rw [hi, bnd_ret, sel_inl, show (s q).1 = ((q * ph.length : Nat) : Int) from rfl, ck_pos q3, e3]
    · rw [hi, bnd_ret, sel_inr, show (s q).1 = ((q * ph.length : Nat) : Int) from rfl, ck_pos q3, e3]
  -- how many turns
  obtain ⟨m, hm1, hm2⟩ : ∃ m, K ≤ m * ph.length ∧ ∀ q, q < m → q * ph.length < K := by
    obtain ⟨m, h1, h2⟩ := least (p := fun m => K ≤ m * ph.length) ⟨K, Nat.le_mul_of_pos_right _ hpn⟩
    exact ⟨m, h1, fun q hq => Nat.not_le.1 (h2 q hq)⟩
  have hmK : m ≤ K := by
    rcases Nat.lt_or_ge K m with g | g
    · have := hm2 K g
      have := Nat.le_mul_of_pos_right K hpn
      omega
    · exact g
  have run : iter (sf53_L2 N st ph zo (K : Int) p w) N ((0 : Int), (0 : Int), List.replicate (Int.toNat 1) 0) = some (plc st ph.length zo p w K, pls st ph.length zo p w K) := by
    refine iter_up s m _ ?_ (fun q hq => hstep q (hm2 q hq)) ?_ (by omega)
    · show _ = (((0 * ph.length : Nat) : Int), plc _ _ _ _ _ (min (0 * ph.length) K), pls _ _ _ _ _ (min (0 * ph.length) K))
      rw [Nat.zero_mul, Nat.zero_min]; rfl
    · unfold sf53_L2
      rw [decide_eq_false (show ¬ (s m).1 < (K : Int) by show ¬ ((m * ph.length : Nat) : Int) < _; omega), cond_false]
      show some (Sum.inr (plc _ _ _ _ _ (min _ _), pls _ _ _ _ _ (min _ _))) = _
      rw [show min (m * ph.length) K = K by omega]
  unfold sf53
  rw [ck_pos q1, ck_pos (by rw [t1, t2]; omega), run, bnd_ret]
theorem m16 {N : Nat} {st tk : Int} {ph : Ph} {zo : Zo} {a b : List Int} : sf16 N st ph zo tk a b = some (decide (ph.length ≤ 11 ∧ zo.length ≤ 6 ∧ a.length ≤ 13 ∧ b.length ≤ 13)) := by
  unfold sf16
  by_cases c1 : ph.length ≤ 11
  · rw [decide_eq_true (show (ph.length : Int) ≤ 11 by omega), cond_true]
    by_cases c2 : zo.length ≤ 6
    · rw [decide_eq_true (show (zo.length : Int) ≤ 6 by omega), cond_true]
      by_cases c3 : a.length ≤ 13
      · rw [decide_eq_true (show (a.length : Int) ≤ 13 by omega), cond_true]
        exact sd (by omega)
      · rw [decide_eq_false (show ¬ (a.length : Int) ≤ 13 by omega), cond_false]
        exact sf_ (by omega)
    · rw [decide_eq_false (show ¬ (zo.length : Int) ≤ 6 by omega), cond_false]
      exact sf_ (by omega)
  · rw [decide_eq_false (show ¬ (ph.length : Int) ≤ 11 by omega), cond_false]
    exact sf_ (by omega)
end Go.Hx.V

/- Layer 4: whole turns within one zone are of one length; the law of P4.11. -/
namespace Go.Hx.V
open Go.Hx
set_option linter.unusedVariables false
set_option linter.unusedSimpArgs false
set_option maxRecDepth 20000
theorem znf_le {zo : Zo} {k : Int} : ∀ n, znf zo k n ≤ n
  | 0 => Nat.le_refl _
  | n + 1 => by
    have := znf_le (zo := zo) (k := k) n
    rw [znf]
    cases h : zo[n]? with
    | none => dsimp only; omega
    | some z =>
      dsimp only
      by_cases c : z.1 ≤ k
      · rw [if_pos c]; omega
      · rw [if_neg c]; omega
theorem znf_mono {zo : Zo} {a b : Int} (h : a ≤ b) : ∀ n, znf zo a n ≤ znf zo b n
  | 0 => Nat.le_refl _
  | n + 1 => by
    have := znf_mono (zo := zo) h n
    have hl := znf_le (zo := zo) (k := a) n
    rw [znf, znf]
    cases hz : zo[n]? with
    | none => exact this
    | some z =>
      dsimp only
      by_cases c : z.1 ≤ a
      · rw [if_pos c, if_pos (show z.1 ≤ b by omega)]; omega
      · rw [if_neg c]
        by_cases c2 : z.1 ≤ b
        · rw [if_pos c2]; exact hl
        · rw [if_neg c2]; exact this
theorem zn_mono {zo : Zo} {a b : Int} (h : a ≤ b) : zn zo a ≤ zn zo b := znf_mono h _
def sm (f : Nat → Int) : Nat → Int
  | 0 => 0
  | n + 1 => sm f n + f n
theorem sm_eq {f g : Nat → Int} : ∀ n, (∀ j, j < n → f j = g j) → sm f n = sm g n
  | 0, _ => rfl
  | n + 1, h => by unfold sm; rw [sm_eq n fun j hj => h j (by omega), h n (by omega)]
theorem sm_shift (f : Nat → Int) : ∀ n, sm (fun j => f (j + 1)) n + f 0 = sm f n + f n
  | 0 => rfl
  | n + 1 => by
    have := sm_shift f n
    unfold sm
    omega
theorem sm_turn {g : Nat → Int} {n : Nat} (h : ∀ i, g (i + n) = g i) : ∀ a, sm (fun j => g (a + j)) n = sm g n
  | 0 => sm_eq n fun j _ => by rw [Nat.zero_add]
  | a + 1 => by
    have e : sm (fun j => g (a + (j + 1))) n + g a = sm (fun j => g (a + j)) n + g (a + n) := sm_shift (fun j => g (a + j)) n
    have e2 : sm (fun j => g (a + 1 + j)) n = sm (fun j => g (a + (j + 1))) n := sm_eq n fun j _ => by show g (a + 1 + j) = g (a + (j + 1)); congr 1; omega
    have e3 := h a
    have ih := sm_turn h a
    rw [e2]
    omega
theorem plc_add {st : Int} {n : Nat} {zo : Zo} {p w : List Int} (a : Nat) : ∀ m, plc st n zo p w (a + m) = plc st n zo p w a + sm (fun j => stp st n zo p w (a + j)) m
  | 0 => by unfold sm; rw [Nat.add_zero]; omega
  | m + 1 => by
    have := plc_add (st := st) (n := n) (zo := zo) (p := p) (w := w) a m
    show plc st n zo p w (a + m) + stp st n zo p w (a + m) = _
    unfold sm
    omega
/-- A whole turn in the zone 'z'. -/
theorem turn {st : Int} {n : Nat} {zo : Zo} {p w : List Int} {a z : Nat} (h1 : zn zo (a : Int) = z) (h2 : zn zo ((a : Int) + (n : Int) - 1) = z) :
    plc st n zo p w (a + n) - plc st n zo p w a = sm (fun t => st + (p[t % n]?).getD 0 + (w[z]?).getD 0) n := by
  have e := plc_add (st := st) (n := n) (zo := zo) (p := p) (w := w) a n
  have e2 : sm (fun j => stp st n zo p w (a + j)) n = sm (fun j => (fun t => st + (p[t % n]?).getD 0 + (w[z]?).getD 0) (a + j)) n := sm_eq n fun j hj => by
    have b1 := zn_mono (zo := zo) (show (a : Int) ≤ ((a + j : Nat) : Int) by omega)
    have b2 := zn_mono (zo := zo) (show ((a + j : Nat) : Int) ≤ (a : Int) + (n : Int) - 1 by omega)
    have e3 : zn zo ((a + j : Nat) : Int) = z := by omega
    show stp st n zo p w (a + j) = _
    unfold stp
    rw [e3]
  rw [sm_turn (g := fun t => st + (p[t % n]?).getD 0 + (w[z]?).getD 0) (fun i => by show _ + (p[(i + n) % n]?).getD 0 + _ = _; rw [Nat.add_mod_right])] at e2
  omega
theorem m49 {N : Nat} {st tk k : Int} {ph : Ph} {zo : Zo} (hN : zo.length < N) (hl : N < 1000000000) : sf49 N st ph zo tk k = some (zn zo k : Int) := by
  show sf82 N st ph zo tk k = _
  exact m82 hN hl
theorem truth {st : Int} {K : Nat} {ph : Ph} {zo : Zo} {ws : List Int} (v : VS st ph zo (K : Int)) (hw : ∀ x ∈ ws, 0 ≤ x ∧ x < 65536) : TS st ph zo (K : Int) (pkl ph ws 0) (pkl (wr zo) ws 9) := ⟨v, pkl_tru hw v.ps, pkl_tru hw fun i r hr => by
    unfold wr at hr
    rw [List.getElem?_map] at hr
    cases hz : zo[i]? with
    | none => rw [hz] at hr; cases hr
    | some z => rw [hz] at hr; cases hr; exact (v.zs i z hz).2⟩
end Go.Hx.V

/- Layer 4: truths that are allowed; least and greatest truths; places as the reference reckons them; the law of P4.1 and P4.2. -/
namespace Go.Hx.V
open Go.Hx
set_option linter.unusedVariables false
set_option linter.unusedSimpArgs false
set_option maxRecDepth 20000
theorem m84h {N : Nat} {st tk : Int} {ph : Ph} {zo : Zo} (hN : ph.length < N) (hN2 : zo.length < N) (hl : N < 1000000000) : sf84_2 N st ph zo tk = some (ph.map (·.2), zo.map (·.2.2)) := by
  have mi : ∀ {α β : Type} (f : α → β) (l : List α), (l.mapIdx fun _ x => f x) = l.map f := fun f l => by
    refine List.ext_getElem? fun i => ?_
    rw [List.getElem?_mapIdx, List.getElem?_map]
  unfold sf84_2
  rw [iter_map ph (fun _ x => x.2) (fun j x acc hx ha => ?_) (fun acc => ?_) hN, bnd_ret, iter_map zo (fun _ x => x.2.2) (fun j x acc hx ha => ?_) (fun acc => ?_) hN2, bnd_ret, mi, mi]
  · have hj := some_lt hx
    have q3 : rng ((j : Int) + 1) := by unfold rng; omega
    unfold sf84_2_L2
    dsimp only
    rw [decide_eq_true (show (j : Int) < (zo.length : Int) by omega), cond_true, ix_at rfl hx]
    unfold sf106
    rw [bnd_ret, ck_pos (by omega), ck_pos q3]; rfl
  · unfold sf84_2_L2
    dsimp only
    rw [decide_eq_false (show ¬ (zo.length : Int) < (zo.length : Int) by omega), cond_false]
  · have hj := some_lt hx
    have q3 : rng ((j : Int) + 1) := by unfold rng; omega
    unfold sf84_2_L1
    dsimp only
    rw [decide_eq_true (show (j : Int) < (ph.length : Int) by omega), cond_true, ix_at rfl hx]
    unfold sf106
    rw [bnd_ret, ck_pos (by omega), ck_pos q3]; rfl
  · unfold sf84_2_L1
    dsimp only
    rw [decide_eq_false (show ¬ (ph.length : Int) < (ph.length : Int) by omega), cond_false]
theorem m45 {N : Nat} {st tk : Int} {ph : Ph} {zo : Zo} {b : Bool} (hN : ph.length < N) (hN2 : zo.length < N) (hl : N < 1000000000) : sf45 N st ph zo tk b = some (ph.map (fun r => bif b then r.2 else r.1), zo.map (fun z => bif b then z.2.2 else z.2.1)) := by
  have mi : ∀ {α β : Type} (f : α → β) (l : List α), (l.mapIdx fun _ x => f x) = l.map f := fun f l => by
    refine List.ext_getElem? fun i => ?_
    rw [List.getElem?_mapIdx, List.getElem?_map]
  unfold sf45
  rw [iter_map ph (fun _ r => bif b then r.2 else r.1) (fun j x acc hx ha => ?_) (fun acc => ?_) hN, bnd_ret, iter_map zo (fun _ z => bif b then z.2.2 else z.2.1) (fun j x acc hx ha => ?_) (fun acc => ?_) hN2, bnd_ret, mi, mi]
  · have hj := some_lt hx
    have q3 : rng ((j : Int) + 1) := by unfold rng; omega
    unfold sf45_L2
    dsimp only
    rw [decide_eq_true (show (j : Int) < (zo.length : Int) by omega), cond_true]
    cases b
    · rw [cond_false, ix_at rfl hx, ck_pos (by omega), ck_pos q3]; rfl
    · rw [cond_true, ix_at rfl hx, ck_pos (by omega), ck_pos q3]; rfl
  · unfold sf45_L2
    dsimp only
    rw [decide_eq_false (show ¬ (zo.length : Int) < (zo.length : Int) by omega), cond_false]
  · have hj := some_lt hx
    have q3 : rng ((j : Int) + 1) := by unfold rng; omega
    unfold sf45_L1
    dsimp only
    rw [decide_eq_true (show (j : Int) < (ph.length : Int) by omega), cond_true]
    cases b
    · rw [cond_false, ix_at rfl hx, ck_pos (by omega), ck_pos q3]; rfl
    · rw [cond_true, ix_at rfl hx, ck_pos (by omega), ck_pos q3]; rfl
  · unfold sf45_L1
    dsimp only
    rw [decide_eq_false (show ¬ (ph.length : Int) < (ph.length : Int) by omega), cond_false]
/-- The least and the greatest truth. -/
theorem lows {st tk : Int} {ph : Ph} {zo : Zo} (v : VS st ph zo tk) : TS st ph zo tk (ph.map (·.1)) (zo.map (·.2.1)) := by
  refine ⟨v, ⟨List.length_map .., fun i r x hr hx => ?_⟩, ⟨by unfold wr; rw [List.length_map, List.length_map], fun i r x hr hx => ?_⟩⟩
  · rw [List.getElem?_map, hr] at hx
    cases hx
    have := v.ps i r hr
    unfold spn at this
    dsimp only; omega
  · unfold wr at hr
    rw [List.getElem?_map] at hr hx
    cases hz : zo[i]? with
    | none => rw [hz] at hr; cases hr
    | some z =>
      rw [hz] at hr hx
      cases hr; cases hx
      have := (v.zs i z hz).2
      unfold spn at this
      dsimp only; omega
theorem highs {st tk : Int} {ph : Ph} {zo : Zo} (v : VS st ph zo tk) : TS st ph zo tk (ph.map (·.2)) (zo.map (·.2.2)) := by
  refine ⟨v, ⟨List.length_map .., fun i r x hr hx => ?_⟩, ⟨by unfold wr; rw [List.length_map, List.length_map], fun i r x hr hx => ?_⟩⟩
  · rw [List.getElem?_map, hr] at hx
    cases hx
    have := v.ps i r hr
    unfold spn at this
    dsimp only; omega
  · unfold wr at hr
    rw [List.getElem?_map] at hr hx
    cases hz : zo[i]? with
    | none => rw [hz] at hr; cases hr
    | some z =>
      rw [hz] at hr hx
      cases hr; cases hx
      have := (v.zs i z hz).2
      unfold spn at this
      dsimp only; omega
abbrev loP (st : Int) (ph : Ph) (zo : Zo) (k : Nat) : Int := plc st ph.length zo (ph.map (·.1)) (zo.map (·.2.1)) k
abbrev hiP (st : Int) (ph : Ph) (zo : Zo) (k : Nat) : Int := plc st ph.length zo (ph.map (·.2)) (zo.map (·.2.2)) k
theorem m54 {N : Nat} {st : Int} {K : Nat} {ph : Ph} {zo : Zo} (v : VS st ph zo (K : Int)) (hN : 70 < N) (hl : N < 1000000000) : sf54 N st ph zo (K : Int) = some (st, ph, zo, (K : Int), pls st ph.length zo (ph.map (·.1)) (zo.map (·.2.1)) K, pls st ph.length zo (ph.map (·.2)) (zo.map (·.2.2)) K) := by
  have := v.lp
  have := v.lz
  unfold sf54
  rw [show sf83 N = some () from rfl, bnd_ret, m84 (by omega) (by omega) hl, bnd_ret, m53 (lows v) hN hl, bnd_ret, show sf85 N = some () from rfl, bnd_ret, m84h (by omega) (by omega) hl, bnd_ret, m53 (highs v) hN hl, bnd_ret]
theorem pls_at {st : Int} {n : Nat} {zo : Zo} {p w : List Int} {k K : Nat} (hk : k ≤ K) : (pls st n zo p w K)[k]? = some (plc st n zo p w k) := by
  unfold pls
  rw [List.getElem?_map, List.getElem?_range (by omega)]; rfl
theorem m55 {N : Nat} {st : Int} {k K : Nat} {ph : Ph} {zo : Zo} (hk : k ≤ K) {a : Int} {b : Ph} {c : Zo} {d : Int} : sf55 N a b c d (pls st ph.length zo (ph.map (·.1)) (zo.map (·.2.1)) K) (pls st ph.length zo (ph.map (·.2)) (zo.map (·.2.2)) K) (k : Int) = some (loP st ph zo k, hiP st ph zo k) := by
  unfold sf55
  rw [ix_at rfl (pls_at hk), ix_at rfl (pls_at hk)]
theorem m28 {N : Nat} {st tk : Int} {k : Nat} {ph : Ph} {zo : Zo} {p w : List Int} (h : TS st ph zo tk p w) (hk : (k : Int) ≤ tk) (hN : 70 < N) (hl : N < 1000000000) : sf28 N st ph zo tk (k : Int) p w = some (plc st ph.length zo p w k) := by
  have ht2 := h.v.t2
  have hpn := h.v.pn
  have hlz := h.v.lz
  unfold sf28
  rw [iter_up (step := sf28_L1 N st ph zo tk (k : Int) p w) (x := ((0 : Int), (0 : Int))) (fun j => (plc st ph.length zo p w j, (j : Int))) k (plc st ph.length zo p w k) rfl (fun j hj => ?_) ?_ (by omega), bnd_ret]
  · unfold sf28_L1
    dsimp only
    rw [decide_eq_false (show ¬ (k : Int) < (k : Int) by omega), cond_false]
  · obtain ⟨x, y, hxx, hyy, e, b1, b2, b3⟩ := h.step j
    have hb := h.bd j
    have hs2 := h.v.s2
    have hs1 := h.v.s1
    have q2 : rng (st + x) := by unfold rng; omega
    have q3 : rng (st + x + y) := by unfold rng; omega
    have q4 : rng (plc st ph.length zo p w j + (st + x + y)) := by unfold rng; omega
    have q5 : rng ((j : Int) + 1) := by unfold rng; omega
    unfold sf28_L1
    dsimp only
    rw [decide_eq_true (show (j : Int) < (k : Int) by omega), cond_true, ck_pos (show (ph.length : Int) ≠ 0 by omega), ix_at (show Int.tmod (j : Int) (ph.length : Int) = ((j % ph.length : Nat) : Int) from rfl) hxx, ck_pos q2, m49 (by omega) hl, bnd_ret, ix_at rfl hyy, ck_pos q3, ck_pos q4, ck_pos q5]
    show _ = some (Sum.inl (plc st ph.length zo p w j + stp st ph.length zo p w j, _))
    rw [e]; rfl
theorem m26 {N : Nat} {st tk : Int} {k : Nat} {ph : Ph} {zo : Zo} (v : VS st ph zo tk) (hk : (k : Int) ≤ tk) (hN : 70 < N) (hl : N < 1000000000) : sf26 N st ph zo tk (k : Int) = some (loP st ph zo k, hiP st ph zo k) := by
  have := v.lp
  have := v.lz
  unfold sf26
  rw [m45 (by omega) (by omega) hl, bnd_ret]
  show bnd (sf28 N st ph zo tk (k : Int) (ph.map (·.1)) (zo.map (·.2.1))) _ = _
  rw [m28 (lows v) hk hN hl, bnd_ret, m45 (by omega) (by omega) hl, bnd_ret]
  show bnd (sf28 N st ph zo tk (k : Int) (ph.map (·.2)) (zo.map (·.2.2))) _ = _
  rw [m28 (highs v) hk hN hl, bnd_ret]
end Go.Hx.V

/- Layer 4: lines that are right; the law of P4.3. -/
namespace Go.Hx.V
open Go.Hx
set_option linter.unusedVariables false
set_option linter.unusedSimpArgs false
set_option maxRecDepth 20000
theorem m60 {N : Nat} {a : Int} : sf60 N a = some (decide (0 ≤ a ∧ a ≤ 5000)) := by
  unfold sf60
  by_cases h : 0 ≤ a <;> simp [h]
theorem m96 {N : Nat} {a b : Int} (hN : 2 < N) : sf96 N a [b] = some (max a b) := by
  obtain ⟨M, rfl⟩ : ∃ M, N = M + 2 := ⟨N - 2, by omega⟩
  have s0 : sf96_L1 [b] (a, (0 : Int)) = some (.inl (max a b, (1 : Int))) := by
    have q : rng ((0 : Int) + 1) := by unfold rng; omega
    unfold sf96_L1
    dsimp only
    rw [decide_eq_true (show (0 : Int) < (([b] : List Int).length : Int) by show (0 : Int) < 1; omega), cond_true, ix_0 (show [b][0]? = some b from rfl)]
    by_cases c : a < b
    · rw [decide_eq_true c, cond_true, ck_pos q, show max a b = b by omega]; rfl
    · rw [decide_eq_false c, cond_false, ck_pos q, show max a b = a by omega]; rfl
  have s1 : sf96_L1 [b] (max a b, (1 : Int)) = some (.inr (max a b)) := by
    unfold sf96_L1
    rw [decide_eq_false (show ¬ (max a b, (1 : Int)).2 < (([b] : List Int).length : Int) by show ¬ (1 : Int) < 1; omega), cond_false]
  unfold sf96 iter
  rw [s0]
  show bnd (iter (sf96_L1 [b]) (M + 1) (max a b, (1 : Int))) _ = _
  unfold iter
  rw [s1]
  rfl
/-- What the reference says that a line needs. -/
def nd (st : Int) (ph : Ph) (zo : Zo) (m : Int) (k : Nat) : Int := max (max (m - loP st ph zo k) (hiP st ph zo k - m)) 0
theorem m34 {N : Nat} {st tk m : Int} {k : Nat} {ph : Ph} {zo : Zo} (v : VS st ph zo tk) (hk : (k : Int) ≤ tk) (hm : 0 ≤ m ∧ m ≤ 5000) (hN : 70 < N) (hl : N < 1000000000) : sf34 N st ph zo tk (k : Int) m = some (nd st ph zo m k) := by
  have b1 := (lows v).bd k
  have b2 := (highs v).bd k
  have ht2 := v.t2
  have q1 : rng (m - loP st ph zo k) := by unfold rng loP; omega
  have q2 : rng (hiP st ph zo k - m) := by unfold rng hiP; omega
  unfold sf34
  rw [m26 v hk hN hl, bnd_ret]
  dsimp only
  rw [ck_pos q1, ck_pos q2]
  rfl
theorem m59 {N : Nat} {st m : Int} {k K : Nat} {ph : Ph} {zo : Zo} (v : VS st ph zo (K : Int)) (hk : k ≤ K) (hm : 0 ≤ m ∧ m ≤ 5000) {a : Int} {b : Ph} {c : Zo} {d : Int} : sf59 N a b c d (pls st ph.length zo (ph.map (·.1)) (zo.map (·.2.1)) K) (pls st ph.length zo (ph.map (·.2)) (zo.map (·.2.2)) K) m (k : Int) = some (loP st ph zo k - m, hiP st ph zo k - m) := by
  have b1 := (lows v).bd k
  have b2 := (highs v).bd k
  have ht2 := v.t2
  have q1 : rng (loP st ph zo k - m) := by unfold rng loP; omega
  have q2 : rng (hiP st ph zo k - m) := by unfold rng hiP; omega
  unfold sf59
  rw [m55 hk, bnd_ret]
  dsimp only
  rw [ck_pos q1, ck_pos q2]
theorem m73 {N : Nat} {st m s : Int} {k K : Nat} {ph : Ph} {zo : Zo} (v : VS st ph zo (K : Int)) (hk : k ≤ K) (hm : 0 ≤ m ∧ m ≤ 5000) (hs : 0 ≤ s) (hN : 70 < N) {a : Int} {b : Ph} {c : Zo} {d : Int} : sf73 N a b c d (pls st ph.length zo (ph.map (·.1)) (zo.map (·.2.1)) K) (pls st ph.length zo (ph.map (·.2)) (zo.map (·.2.2)) K) s m (k : Int) = some (decide (nd st ph zo m k ≤ s)) := by
  have b1 := (lows v).bd k
  have ht2 := v.t2
  have q1 : rng (-(loP st ph zo k - m)) := by unfold rng loP; omega
  unfold sf73
  rw [m59 v hk hm, bnd_ret]
  dsimp only
  rw [ck_pos q1, m96 (by omega), bnd_ret]
  refine sd ?_
  unfold nd
  omega
/-- The reference's error of a screw is the program's. -/
theorem faults {st tk : Int} {ph : Ph} {zo : Zo} (h1 : ph.length < 100) (h2 : zo.length < 100) : ∃ e, sf23 100 st ph zo tk = some e ∧ sf18 100 st ph zo tk = some e ∧ (e = 0 ↔ VS st ph zo tk) ∧ (e = 0 ∨ e = 1 ∨ e = 3) := by
  obtain ⟨e, he, h0, h1, h3⟩ := m56 (N := 100) (st := st) (tk := tk) (ph := ph) (zo := zo) (by omega) (by omega) (by omega)
  obtain ⟨e', he', h0', h1', h3'⟩ := m18 (N := 100) (st := st) (tk := tk) (ph := ph) (zo := zo) (by omega) (by omega) (by omega)
  have ee : e' = e := by
    have z : e' = 0 ↔ e = 0 := h0'.trans h0.symm
    have t : e' = 3 ↔ e = 3 := h1'.trans h1.symm
    rcases h3 with h | h | h <;> rcases h3' with h' | h' | h' <;> subst h <;> subst h'
    · rfl
    · exact absurd (z.2 rfl) (by decide)
    · exact absurd (z.2 rfl) (by decide)
    · exact absurd (z.1 rfl) (by decide)
    · rfl
    · exact absurd (t.1 rfl) (by decide)
    · exact absurd (z.1 rfl) (by decide)
    · exact absurd (t.2 rfl) (by decide)
    · rfl
  subst ee
  exact ⟨e', by unfold sf23; rw [bndid, he], he', h0, h3⟩
end Go.Hx.V

/- Layer 4: each place is between the least and the greatest; the law of P4.7. -/
namespace Go.Hx.V
open Go.Hx
set_option linter.unusedVariables false
set_option linter.unusedSimpArgs false
set_option maxRecDepth 20000
end Go.Hx.V

