/- Functions of the program come to that. -/
import Derived.Test.YtamfcjekhiapdaaH05
import Derived.Test.YtamfcjekhiapdaaH06
import Derived.Test.YtamfcjekhiapdaaH03
set_option linter.all false
/- Functions of the program come to that. -/
namespace Go.Hx.V
open Go.Hx
set_option linter.unusedVariables false
set_option maxRecDepth 20000
set_option maxHeartbeats 4000000
attribute [local irreducible] W R C thenH inBlockH Tr.get Tr.set lo
theorem ct50 (N : Nat) {a0_0 : Int} {a0_1 : (List (Int × Int))} {a0_2 : (List (Int × Int × Int))} {a0_3 : Int} {r : Bool} (hF : sf50 N a0_0 a0_1 a0_2 a0_3 = some r) {fl : Nat} {h0 : Tr HBlk} {n0 : Nat} {F0 : PH} (hd : D h0 n0) (hs : F0.sub h0) {pa0_1 : Option (Nat × Nat)} {ca0_1 : Nat} {pa0_2 : Option (Nat × Nat)} {ca0_2 : Nat} (ra0_1 : RowF (rP rI rI) 2 F0 pa0_1 ca0_1 a0_1) (ra0_2 : RowF (rP rI (rP rI rI)) 3 F0 pa0_2 ca0_2 a0_2) : C LW fl 50 [(.agg [(i64 a0_0), (.slice pa0_1 (a0_1).length ca0_1), (.slice pa0_2 (a0_2).length ca0_2), (i64 a0_3)])] ⟨h0, n0⟩ (KS (.bool r) n0 h0) := by
  unfold sf50 at hF
  refine in_cT hd hs lw50 rfl rfl (by rfl) (fun st T hT => ?_)
  have hfl : n0 ≤ n0 := Nat.le_refl n0
  have t0 := hT 0 _ rfl
  dsimp only [L50]
  refine w_seq ?_; refine w_reg ?_; refine v_box st (fun b1 h2 n3 st => ?_); refine v_move ?_; refine r_nil ?_; refine th_n ?_; refine w_seq ?_; refine w_reg ?_; refine v_fa ?_; refine v_ld1 (st.at (i := 0) rfl).2.2 rfl ?_; refine v_leq ?_; refine v_move ?_
  rcases Bool.eq_false_or_eq_true (decide ((1 : Int) ≤ a0_0)) with hb4 | hb4
  · have hF := bif_t hb4 hF; refine g_take hb4 (v_fa ?_); refine g_take hb4 (v_ld1 (st.at (i := 0) rfl).2.2 rfl ?_); refine g_take hb4 (v_leq ?_); refine v_pick hb4 ?_; refine v_move ?_
    rcases Bool.eq_false_or_eq_true (decide (a0_0 ≤ (50 : Int))) with hb5 | hb5
    · have hF := bif_t hb5 hF; refine g_take hb5 (v_fa ?_); refine g_take hb5 (v_ld1 (st.at (i := 0) rfl).2.2 rfl ?_); refine g_take hb5 (v_leq ?_); refine v_pick hb5 ?_; refine v_move ?_
      rcases Bool.eq_false_or_eq_true (decide ((1 : Int) ≤ a0_3)) with hb6 | hb6
      · have hF := bif_t hb6 hF; refine g_take hb6 (v_fa ?_); refine g_take hb6 (v_ld1 (st.at (i := 0) rfl).2.2 rfl ?_); refine g_take hb6 (v_leq ?_); refine v_pick hb6 ?_; refine v_move ?_
        rcases Bool.eq_false_or_eq_true (decide (a0_3 ≤ (60 : Int))) with hb7 | hb7
        · have hF := bif_t hb7 hF; refine g_take hb7 (v_ldn (vs := [(i64 a0_0), (.slice pa0_1 (a0_1).length ca0_1), (.slice pa0_2 (a0_2).length ca0_2), (i64 a0_3)]) (st.at (i := 0) rfl).2.2 rfl ?_); obtain ⟨v8, e9, hF⟩ := bnd_some hF; refine g_take hb7 (v_call st (ct76 N e9 st.d st.sub ra0_1 ra0_2) (fun n10 st => ?_)); refine v_pick hb7 ?_; refine v_move ?_
          rcases Bool.eq_false_or_eq_true v8 with hb11 | hb11
          · have hF := bif_t hb11 hF; refine g_take hb11 (v_ldn (vs := [(i64 a0_0), (.slice pa0_1 (a0_1).length ca0_1), (.slice pa0_2 (a0_2).length ca0_2), (i64 a0_3)]) (st.at (i := 0) rfl).2.2 rfl ?_); obtain ⟨v12, e13, hF⟩ := bnd_some hF; refine g_take hb11 (v_call st (ct77 N e13 st.d st.sub ra0_1 ra0_2) (fun n14 st => ?_)); refine v_pick hb11 ?_; refine v_move ?_
            rcases Bool.eq_false_or_eq_true v12 with hb15 | hb15
            · have hF := bif_t hb15 hF; refine g_take hb15 (v_ldn (vs := [(i64 a0_0), (.slice pa0_1 (a0_1).length ca0_1), (.slice pa0_2 (a0_2).length ca0_2), (i64 a0_3)]) (st.at (i := 0) rfl).2.2 rfl ?_); obtain ⟨v16, e17, hF⟩ := bnd_some hF; refine g_take hb15 (v_call st (ct78 N e17 st.d st.sub ra0_1 ra0_2) (fun n18 st => ?_)); refine v_pick hb15 ?_; refine v_move ?_; refine r_nil ?_; refine th_n ?_; refine w_ret ?_; obtain rfl := inj hF
              exact end_s st (Res.t gA Res.nil) rfl rfl
            · have hF := bif_f hb15 hF; refine g_skip hb15 ?_; refine g_skip hb15 ?_; refine v_pick' hb15 ?_; refine v_move ?_; refine r_nil ?_; refine th_n ?_; refine w_ret ?_; obtain rfl := inj hF
              exact end_s st (Res.t gA Res.nil) rfl rfl
          · have hF := bif_f hb11 hF; refine g_skip hb11 ?_; refine g_skip hb11 ?_; refine v_pick' hb11 ?_; refine v_move ?_; refine g_skip rfl ?_; refine g_skip rfl ?_; refine v_pick' rfl ?_; refine v_move ?_; refine r_nil ?_; refine th_n ?_; refine w_ret ?_; obtain rfl := inj hF
            exact end_s st (Res.t gA Res.nil) rfl rfl
        · have hF := bif_f hb7 hF; refine g_skip hb7 ?_; refine g_skip hb7 ?_; refine v_pick' hb7 ?_; refine v_move ?_; refine g_skip rfl ?_; refine g_skip rfl ?_; refine v_pick' rfl ?_; refine v_move ?_; refine g_skip rfl ?_; refine g_skip rfl ?_; refine v_pick' rfl ?_; refine v_move ?_; refine r_nil ?_; refine th_n ?_; refine w_ret ?_; obtain rfl := inj hF
          exact end_s st (Res.t gA Res.nil) rfl rfl
      · have hF := bif_f hb6 hF; refine g_skip hb6 ?_; refine g_skip hb6 ?_; refine g_skip hb6 ?_; refine v_pick' hb6 ?_; refine v_move ?_; refine g_skip rfl ?_; refine g_skip rfl ?_; refine v_pick' rfl ?_; refine v_move ?_; refine g_skip rfl ?_; refine g_skip rfl ?_; refine v_pick' rfl ?_; refine v_move ?_; refine g_skip rfl ?_; refine g_skip rfl ?_; refine v_pick' rfl ?_; refine v_move ?_; refine r_nil ?_; refine th_n ?_; refine w_ret ?_; obtain rfl := inj hF
        exact end_s st (Res.t gA Res.nil) rfl rfl
    · have hF := bif_f hb5 hF; refine g_skip hb5 ?_; refine g_skip hb5 ?_; refine g_skip hb5 ?_; refine v_pick' hb5 ?_; refine v_move ?_; refine g_skip rfl ?_; refine g_skip rfl ?_; refine g_skip rfl ?_; refine v_pick' rfl ?_; refine v_move ?_; refine g_skip rfl ?_; refine g_skip rfl ?_; refine v_pick' rfl ?_; refine v_move ?_; refine g_skip rfl ?_; refine g_skip rfl ?_; refine v_pick' rfl ?_; refine v_move ?_; refine g_skip rfl ?_; refine g_skip rfl ?_; refine v_pick' rfl ?_; refine v_move ?_; refine r_nil ?_; refine th_n ?_; refine w_ret ?_; obtain rfl := inj hF
      exact end_s st (Res.t gA Res.nil) rfl rfl
  · have hF := bif_f hb4 hF; refine g_skip hb4 ?_; refine g_skip hb4 ?_; refine g_skip hb4 ?_; refine v_pick' hb4 ?_; refine v_move ?_; refine g_skip rfl ?_; refine g_skip rfl ?_; refine g_skip rfl ?_; refine v_pick' rfl ?_; refine v_move ?_; refine g_skip rfl ?_; refine g_skip rfl ?_; refine g_skip rfl ?_; refine v_pick' rfl ?_; refine v_move ?_; refine g_skip rfl ?_; refine g_skip rfl ?_; refine v_pick' rfl ?_; refine v_move ?_; refine g_skip rfl ?_; refine g_skip rfl ?_; refine v_pick' rfl ?_; refine v_move ?_; refine g_skip rfl ?_; refine g_skip rfl ?_; refine v_pick' rfl ?_; refine v_move ?_; refine r_nil ?_; refine th_n ?_; refine w_ret ?_; obtain rfl := inj hF
    exact end_s st (Res.t gA Res.nil) rfl rfl
theorem ct36 (N : Nat) {a0_0 : Int} {a0_1 : (List (Int × Int))} {a0_2 : (List (Int × Int × Int))} {a0_3 : Int} {a1 : Int} {a2 : Int} {r : (List Int)} (hF : sf36 N a0_0 a0_1 a0_2 a0_3 a1 a2 = some r) {fl : Nat} {h0 : Tr HBlk} {n0 : Nat} {F0 : PH} (hd : D h0 n0) (hs : F0.sub h0) (hfl : fl ≤ n0) {pa0_1 : Option (Nat × Nat)} {ca0_1 : Nat} {pa0_2 : Option (Nat × Nat)} {ca0_2 : Nat} (ra0_1 : RowF (rP rI rI) 2 F0 pa0_1 ca0_1 a0_1) (ra0_2 : RowF (rP rI (rP rI rI)) 3 F0 pa0_2 ca0_2 a0_2) : C LW fl 36 [(.agg [(i64 a0_0), (.slice pa0_1 (a0_1).length ca0_1), (.slice pa0_2 (a0_2).length ca0_2), (i64 a0_3)]), (i64 a1), (i64 a2)] ⟨h0, n0⟩ (KR (lvL rI 1) F0 h0 n0 r) := by
  unfold sf36 at hF
  refine in_mT hd hs hfl lw36 rfl rfl (by rfl) (fun st T hT => ?_)
  have t0 := hT 0 _ rfl
  have t1 := hT 1 _ rfl
  have t2 := hT 2 _ rfl
  dsimp only [L36]
  refine w_seq ?_; refine w_reg ?_; refine v_box st (fun b1 h2 n3 st => ?_); refine v_move ?_; refine r_nil ?_; refine th_n ?_; refine w_seq ?_; refine w_reg ?_; refine v_move ?_; refine r_nil ?_; refine th_n ?_; refine w_seq ?_; refine w_seq ?_; refine w_reg ?_; refine v_move ?_; refine r_nil ?_; refine th_n ?_; refine w_block ?_
  have st := st.nilL 1
  have w4 : LR rI 1 F0 ([] : List Int) [] := LR.nil
  obtain ⟨y20, hy, hF⟩ := bnd_some hF; refine v_loopD (sf36_L1 N a0_0 a0_1 a0_2 a0_3 a1 a2) (fun x6 T ds7 h nx => ∃ (F7 : PH) (o8 : Option Nat) (c8 : Nat) (cs8 : List HV), ds7 = [] ∧ PH.le F0 F7 ∧ St n0 h0 F0 F7 h nx [.bx b1 [(i64 a0_0), (.slice pa0_1 (a0_1).length ca0_1), (.slice pa0_2 (a0_2).length ca0_2), (i64 a0_3)], .ls o8 c8 cs8 1] ∧ LR rI 1 F7 x6.1 cs8 ∧ T.get 1 = some (i64 a1) ∧ T.get 2 = some (i64 a2) ∧ T.get 3 = some (.ptr (some (b1, 0))) ∧ T.get 7 = some (slv o8 (x6.1).length c8) ∧ T.get 8 = some (i64 x6.2)) (fun y e a σ => e = .exit 0 ∧ a.nt = 26 ∧ ∃ (F21 : PH) (o22 : Option Nat) (c22 : Nat) (cs22 : List HV), a.defers = [] ∧ PH.le F0 F21 ∧ St n0 h0 F0 F21 σ.h σ.nx [.bx b1 [(i64 a0_0), (.slice pa0_1 (a0_1).length ca0_1), (.slice pa0_2 (a0_2).length ca0_2), (i64 a0_3)], .ls o22 c22 cs22 1] ∧ LR rI 1 F21 y cs22 ∧ a.tmps.get 7 = some (slv o22 (y).length c22)) (fun x6 T ds7 h nx s hp hF => ?_) N _ y20 _ _ _ _ hy ⟨F0, none, 0, [], rfl, (PH.le.refl _), st, w4, gA, gA, gA, gA, gA⟩ (fun e a σ hne hq => ?_)
  · obtain ⟨F7, o8, c8, cs8, rfl, le7, st, w8, t1, t2, t3, t7, t8⟩ := hp; unfold sf36_L1 at hF; unfold L36w0; refine w_seq ?_; refine w_seq ?_; refine w_reg ?_; refine v_move ?_; refine v_fa ?_; refine v_ld1 (st.at (i := 0) rfl).2.2 rfl ?_; refine v_leq ?_; refine r_nil ?_; refine th_n ?_; refine v_cond (fun hb23 => ?_) (fun hb23 => ?_)
    · have hF := bif_t hb23 hF; refine w_skip ?_; refine th_n ?_; refine w_seq ?_; refine w_block ?_; refine w_seq ?_; refine w_reg ?_; refine v_ldn (vs := [(i64 a0_0), (.slice pa0_1 (a0_1).length ca0_1), (.slice pa0_2 (a0_2).length ca0_2), (i64 a0_3)]) (st.at (i := 0) rfl).2.2 rfl ?_; refine v_move ?_; refine v_move ?_; obtain ⟨v24, e25, hF⟩ := bnd_some hF; refine v_call st (ct34 N e25 st.d st.sub (RowF.mono le7 ra0_1) (RowF.mono le7 ra0_2)) (fun n26 st => ?_); refine v_move ?_; refine v_leq ?_; refine r_nil ?_; refine th_n ?_; refine v_cond (fun hb27 => ?_) (fun hb27 => ?_)
      · have hF := bif_t hb27 hF; refine w_reg ?_; refine v_move ?_; refine v_move ?_; refine v_bs (cs := [(i64 x6.2)]) st rfl (fun b28 h29 n30 st => ?_); obtain ⟨q31, hF⟩ := ck_some hF
        have w31 : LR rI 1 F7 (x6.1 ++ [x6.2]) (cs8 ++ [(i64 x6.2)]) := LR.app w8 (LR.one (rfl))
        refine v_aps (n := 1) (ox := 0) (m := (x6.1 ++ [x6.2]).length) (row := [(i64 x6.2)]) st 1 rfl w8.1 (st.at (i := 2) rfl).2.2 rfl rfl q31 hfl (by decide) (by decide) (by simp) (fun o31 c31 h31 n31 st => ?_)
        refine v_move ?_; refine r_nil ?_; refine ib_n ?_; refine th_n ?_; refine w_reg ?_; refine v_move ?_; obtain ⟨q32, hF⟩ := ck_some hF; refine v_add q32 ?_; refine v_move ?_; refine r_nil ?_; refine thn ⟨_, (inj hF).symm, rfl, ?_⟩; dsimp only
        exact ⟨F7, o31, c31, (cs8 ++ [(i64 x6.2)]), rfl, le7, (st.drop (by first | exact List.Sublist.refl _ | (repeat first | exact List.nil_sublist _ | refine List.Sublist.cons_cons _ ?_ | refine List.Sublist.cons _ ?_))), w31, gA, gA, gA, gA, gA⟩
      · have hF := bif_f hb27 hF; refine w_skip ?_; refine ib_n ?_; refine th_n ?_; refine w_reg ?_; refine v_move ?_; obtain ⟨q33, hF⟩ := ck_some hF; refine v_add q33 ?_; refine v_move ?_; refine r_nil ?_; refine thn ⟨_, (inj hF).symm, rfl, ?_⟩; dsimp only
        exact ⟨F7, o8, c8, cs8, rfl, le7, st, w8, gA, gA, gA, gA, gA⟩
    · have hF := bif_f hb23 hF; refine w_exit ?_; refine th_e ?_; refine th_e ?_; refine ⟨_, (inj hF).symm, rfl, rfl, ?_⟩; dsimp only
      exact ⟨F7, o8, c8, cs8, rfl, le7, st, w8, gA⟩
  · obtain ⟨N9, T, ds21⟩ := a; obtain ⟨h34, n35⟩ := σ; obtain ⟨rfl, e1, F21, o22, c22, cs22, e2, le21, st, w22, t7⟩ := hq
    dsimp only at e1 e2
    subst e1
    subst e2
    dsimp only at st t7
    refine ib_e ?_; refine th_n ?_; refine w_seq ?_; refine w_reg ?_; refine v_move ?_; refine v_move ?_; refine r_nil ?_; refine th_n ?_; refine w_ret ?_; obtain rfl := inj hF
    obtain ⟨F36, le36, st, rf36⟩ := St.freeze st 1 rfl w22 (by decide)
    have le37 := PH.le.trans le21 le36
    exact end_r st (Res.t gA Res.nil) ⟨_, _, rfl, rf36⟩
end Go.Hx.V

/- Functions of the program come to that. -/
namespace Go.Hx.V
open Go.Hx
set_option linter.unusedVariables false
set_option maxRecDepth 20000
set_option maxHeartbeats 4000000
attribute [local irreducible] W R C thenH inBlockH Tr.get Tr.set lo
theorem ct18 (N : Nat) {a0_0 : Int} {a0_1 : (List (Int × Int))} {a0_2 : (List (Int × Int × Int))} {a0_3 : Int} {r : Int} (hF : sf18 N a0_0 a0_1 a0_2 a0_3 = some r) {fl : Nat} {h0 : Tr HBlk} {n0 : Nat} {F0 : PH} (hd : D h0 n0) (hs : F0.sub h0) {pa0_1 : Option (Nat × Nat)} {ca0_1 : Nat} {pa0_2 : Option (Nat × Nat)} {ca0_2 : Nat} (ra0_1 : RowF (rP rI rI) 2 F0 pa0_1 ca0_1 a0_1) (ra0_2 : RowF (rP rI (rP rI rI)) 3 F0 pa0_2 ca0_2 a0_2) : C LW fl 18 [(.agg [(i64 a0_0), (.slice pa0_1 (a0_1).length ca0_1), (.slice pa0_2 (a0_2).length ca0_2), (i64 a0_3)])] ⟨h0, n0⟩ (KS (i64 r) n0 h0) := by
  unfold sf18 at hF
  refine in_cT hd hs lw18 rfl rfl (by rfl) (fun st T hT => ?_)
  have hfl : n0 ≤ n0 := Nat.le_refl n0
  have t0 := hT 0 _ rfl
  dsimp only [L18]
  refine w_seq ?_; refine w_reg ?_; refine v_box st (fun b1 h2 n3 st => ?_); refine v_move ?_; refine r_nil ?_; refine th_n ?_; refine w_seq ?_; obtain ⟨y5, hA6, hF⟩ := bnd_some hF; refine w_cutD (fun T ds8 h nx => ∃ (F8 : PH), ds8 = [] ∧ PH.le F0 F8 ∧ St n0 h0 F0 F8 h nx [.bx b1 [(i64 a0_0), (.slice pa0_1 (a0_1).length ca0_1), (.slice pa0_2 (a0_2).length ca0_2), (i64 a0_3)]] ∧ T.get 1 = some (.ptr (some (b1, 0))) ∧ T.get 12 = some (.bool y5)) ?_ (fun T ds8 h nx hp => ?_)
  · have hK7 := hF
    have hF := hA6; refine w_reg ?_; refine v_fa ?_; refine v_ld1 (st.at (i := 0) rfl).2.2 rfl ?_; refine v_len ?_; refine v_gtr ?_; refine v_move ?_
    rcases Bool.eq_false_or_eq_true (decide ((8 : Int) < ((a0_1).length : Int))) with hb9 | hb9
    · have hF := bif_t hb9 hF; refine g_skip hb9 ?_; refine g_skip hb9 ?_; refine g_skip hb9 ?_; refine g_skip hb9 ?_; refine v_pick hb9 ?_; refine r_nil ?_; obtain rfl := inj hF; refine thn ⟨rfl, ?_⟩; dsimp only
      exact ⟨F0, rfl, (PH.le.refl _), st, gA, gA⟩
    · have hF := bif_f hb9 hF; refine g_take hb9 (v_fa ?_); refine g_take hb9 (v_ld1 (st.at (i := 0) rfl).2.2 rfl ?_); refine g_take hb9 (v_len ?_); refine g_take hb9 (v_gtr ?_); refine v_pick' hb9 ?_; refine r_nil ?_; obtain rfl := inj hF; refine thn ⟨rfl, ?_⟩; dsimp only
      exact ⟨F0, rfl, (PH.le.refl _), st, gA, gA⟩
  · obtain ⟨F8, rfl, le8, st, t1, t12⟩ := hp; refine v_cond (fun hb10 => ?_) (fun hb10 => ?_)
    · have hF := bif_t hb10 hF; refine w_seq ?_; refine w_reg ?_; refine v_move ?_; refine r_nil ?_; refine th_n ?_; refine w_ret ?_; refine th_r ?_; obtain rfl := inj hF
      exact end_s st (Res.t gA Res.nil) rfl rfl
    · have hF := bif_f hb10 hF; refine w_skip ?_; refine th_n ?_; refine w_seq ?_; refine w_seq ?_; refine w_reg ?_; refine v_ldn (vs := [(i64 a0_0), (.slice pa0_1 (a0_1).length ca0_1), (.slice pa0_2 (a0_2).length ca0_2), (i64 a0_3)]) (st.at (i := 0) rfl).2.2 rfl ?_; obtain ⟨v11, e12, hF⟩ := bnd_some hF; refine v_call st (ct50 N e12 st.d st.sub (RowF.mono le8 ra0_1) (RowF.mono le8 ra0_2)) (fun n13 st => ?_); refine v_not ?_; refine r_nil ?_; refine th_n ?_; refine v_cond (fun hb14 => ?_) (fun hb14 => ?_)
      · have hF := bif_t hb14 hF; refine w_seq ?_; refine w_reg ?_; refine v_move ?_; refine r_nil ?_; refine th_n ?_; refine w_ret ?_; refine th_r ?_; obtain rfl := inj hF
        exact end_s st (Res.t gA Res.nil) rfl rfl
      · have hF := bif_f hb14 hF; refine w_skip ?_; refine th_n ?_; refine w_seq ?_; refine w_reg ?_; refine v_move ?_; refine r_nil ?_; refine th_n ?_; refine w_ret ?_; obtain rfl := inj hF
        exact end_s st (Res.t gA Res.nil) rfl rfl
end Go.Hx.V

/- Functions of the program come to that. -/
namespace Go.Hx.V
open Go.Hx
set_option linter.unusedVariables false
set_option maxRecDepth 20000
set_option maxHeartbeats 4000000
attribute [local irreducible] W R C thenH inBlockH Tr.get Tr.set lo
theorem ct51 (N : Nat) {a0_0 : Int} {a0_1 : (List (Int × Int))} {a0_2 : (List (Int × Int × Int))} {a0_3 : Int} {a1 : Int} {r : Int} (hF : sf51 N a0_0 a0_1 a0_2 a0_3 a1 = some r) {fl : Nat} {h0 : Tr HBlk} {n0 : Nat} {F0 : PH} (hd : D h0 n0) (hs : F0.sub h0) {pa0_1 : Option (Nat × Nat)} {ca0_1 : Nat} {pa0_2 : Option (Nat × Nat)} {ca0_2 : Nat} (ra0_1 : RowF (rP rI rI) 2 F0 pa0_1 ca0_1 a0_1) (ra0_2 : RowF (rP rI (rP rI rI)) 3 F0 pa0_2 ca0_2 a0_2) : C LW fl 51 [(.agg [(i64 a0_0), (.slice pa0_1 (a0_1).length ca0_1), (.slice pa0_2 (a0_2).length ca0_2), (i64 a0_3)]), (i64 a1)] ⟨h0, n0⟩ (KS (i64 r) n0 h0) := by
  unfold sf51 at hF
  refine in_cT hd hs lw51 rfl rfl (by rfl) (fun st T hT => ?_)
  have hfl : n0 ≤ n0 := Nat.le_refl n0
  have t0 := hT 0 _ rfl
  have t1 := hT 1 _ rfl
  dsimp only [L51]
  refine w_seq ?_; refine w_reg ?_; refine v_box st (fun b1 h2 n3 st => ?_); refine v_move ?_; refine r_nil ?_; refine th_n ?_; refine w_seq ?_; refine w_seq ?_; refine w_reg ?_; refine v_ldn (vs := [(i64 a0_0), (.slice pa0_1 (a0_1).length ca0_1), (.slice pa0_2 (a0_2).length ca0_2), (i64 a0_3)]) (st.at (i := 0) rfl).2.2 rfl ?_; obtain ⟨v4, e5, hF⟩ := bnd_some hF; refine v_call st (ct18 N e5 st.d st.sub ra0_1 ra0_2) (fun n6 st => ?_); refine v_move ?_; refine r_nil ?_; refine th_n ?_; refine w_seq ?_; refine w_reg ?_; refine v_move ?_; refine v_nei ?_; refine r_nil ?_; refine th_n ?_; refine v_cond (fun hb7 => ?_) (fun hb7 => ?_)
  · have hF := bif_t hb7 hF; refine w_seq ?_; refine w_reg ?_; refine v_move ?_; refine v_move ?_; refine r_nil ?_; refine th_n ?_; refine w_ret ?_; refine th_r ?_; obtain rfl := inj hF
    exact end_s st (Res.t gA Res.nil) rfl rfl
  · have hF := bif_f hb7 hF; refine w_skip ?_; refine th_n ?_; refine w_seq ?_; refine w_seq ?_; refine w_reg ?_; refine v_ldn (vs := [(i64 a0_0), (.slice pa0_1 (a0_1).length ca0_1), (.slice pa0_2 (a0_2).length ca0_2), (i64 a0_3)]) (st.at (i := 0) rfl).2.2 rfl ?_; refine v_move ?_; obtain ⟨v8, e9, hF⟩ := bnd_some hF; refine v_call st (ct79 N e9 st.d st.sub ra0_1 ra0_2) (fun n10 st => ?_); refine v_not ?_; refine r_nil ?_; refine th_n ?_; refine v_cond (fun hb11 => ?_) (fun hb11 => ?_)
    · have hF := bif_t hb11 hF; refine w_seq ?_; refine w_reg ?_; refine v_move ?_; refine r_nil ?_; refine th_n ?_; refine w_ret ?_; refine th_r ?_; obtain rfl := inj hF
      exact end_s st (Res.t gA Res.nil) rfl rfl
    · have hF := bif_f hb11 hF; refine w_skip ?_; refine th_n ?_; refine w_seq ?_; refine w_reg ?_; refine v_move ?_; refine r_nil ?_; refine th_n ?_; refine w_ret ?_; obtain rfl := inj hF
      exact end_s st (Res.t gA Res.nil) rfl rfl
theorem ct35 (N : Nat) {a0_0 : Int} {a0_1 : (List (Int × Int))} {a0_2 : (List (Int × Int × Int))} {a0_3 : Int} {a1 : Int} {a2 : Int} {r : ((List Int) × Int)} (hF : sf35 N a0_0 a0_1 a0_2 a0_3 a1 a2 = some r) {fl : Nat} {h0 : Tr HBlk} {n0 : Nat} {F0 : PH} (hd : D h0 n0) (hs : F0.sub h0) (hfl : fl ≤ n0) {pa0_1 : Option (Nat × Nat)} {ca0_1 : Nat} {pa0_2 : Option (Nat × Nat)} {ca0_2 : Nat} (ra0_1 : RowF (rP rI rI) 2 F0 pa0_1 ca0_1 a0_1) (ra0_2 : RowF (rP rI (rP rI rI)) 3 F0 pa0_2 ca0_2 a0_2) : C LW fl 35 [(.agg [(i64 a0_0), (.slice pa0_1 (a0_1).length ca0_1), (.slice pa0_2 (a0_2).length ca0_2), (i64 a0_3)]), (i64 a1), (i64 a2)] ⟨h0, n0⟩ (KR (rvT2 (lvL rI 1) lvI) F0 h0 n0 r) := by
  unfold sf35 at hF
  refine in_mT hd hs hfl lw35 rfl rfl (by rfl) (fun st T hT => ?_)
  have t0 := hT 0 _ rfl
  have t1 := hT 1 _ rfl
  have t2 := hT 2 _ rfl
  dsimp only [L35]
  refine w_seq ?_; refine w_reg ?_; refine v_box st (fun b1 h2 n3 st => ?_); refine v_move ?_; refine v_move ?_; refine r_nil ?_; refine th_n ?_; refine w_seq ?_; refine w_seq ?_; refine w_reg ?_; refine v_ldn (vs := [(i64 a0_0), (.slice pa0_1 (a0_1).length ca0_1), (.slice pa0_2 (a0_2).length ca0_2), (i64 a0_3)]) (st.at (i := 0) rfl).2.2 rfl ?_; obtain ⟨v4, e5, hF⟩ := bnd_some hF; refine v_call st (ct18 N e5 st.d st.sub ra0_1 ra0_2) (fun n6 st => ?_); refine v_move ?_; refine r_nil ?_; refine th_n ?_; refine w_seq ?_; refine w_reg ?_; refine v_move ?_; refine v_nei ?_; refine r_nil ?_; refine th_n ?_; refine v_cond (fun hb7 => ?_) (fun hb7 => ?_)
  · have hF := bif_t hb7 hF; refine w_seq ?_; refine w_reg ?_; refine v_move ?_; refine v_move ?_; refine v_move ?_; refine r_nil ?_; refine th_n ?_; refine w_ret ?_; refine th_r ?_; obtain rfl := inj hF
    exact end_r st (Res.t gA (Res.t gA Res.nil)) ⟨_, _, rfl, ⟨none, 0, rfl, RowF.nil⟩, rfl⟩
  · have hF := bif_f hb7 hF; refine w_skip ?_; refine th_n ?_; obtain ⟨y27, hA28, hF⟩ := bnd_some hF; refine w_cutD (fun T ds33 h nx => ∃ u, y27 = (.inr u) ∧ ∃ (F33 : PH), ds33 = [] ∧ PH.le F0 F33 ∧ St n0 h0 F0 F33 h nx [.bx b1 [(i64 a0_0), (.slice pa0_1 (a0_1).length ca0_1), (.slice pa0_2 (a0_2).length ca0_2), (i64 a0_3)]] ∧ T.get 1 = some (i64 a1) ∧ T.get 2 = some (i64 a2) ∧ T.get 3 = some (.ptr (some (b1, 0)))) ?_ (fun T ds33 h nx hp => ?_)
    · have hK29 := hF
      have hF := hA28; obtain ⟨y41, hA42, hF⟩ := bnd_some hF; refine w_cutD (fun T ds44 h nx => ∃ (F44 : PH), ds44 = [] ∧ PH.le F0 F44 ∧ St n0 h0 F0 F44 h nx [.bx b1 [(i64 a0_0), (.slice pa0_1 (a0_1).length ca0_1), (.slice pa0_2 (a0_2).length ca0_2), (i64 a0_3)]] ∧ T.get 1 = some (i64 a1) ∧ T.get 2 = some (i64 a2) ∧ T.get 3 = some (.ptr (some (b1, 0))) ∧ T.get 22 = some (.bool y41)) ?_ (fun T ds44 h nx hp => ?_)
      · have hK43 := hF
        have hF := hA42; refine w_reg ?_; refine v_move ?_; obtain ⟨v45, e46, hF⟩ := bnd_some hF; refine v_call st (ct60 N e46 st.d st.sub ) (fun n47 st => ?_); refine v_not ?_; refine v_move ?_
        rcases Bool.eq_false_or_eq_true (!v45) with hb48 | hb48
        · have hF := bif_t hb48 hF; refine g_skip hb48 ?_; refine g_skip hb48 ?_; refine g_skip hb48 ?_; refine v_pick hb48 ?_; refine r_nil ?_; obtain rfl := inj hF; refine thn ⟨rfl, ?_⟩; dsimp only
          exact ⟨F0, rfl, (PH.le.refl _), st, gA, gA, gA, gA⟩
        · have hF := bif_f hb48 hF; refine g_take hb48 (v_move ?_); obtain ⟨v49, e50, hF⟩ := bnd_some hF; refine g_take hb48 (v_call st (ct60 N e50 st.d st.sub ) (fun n51 st => ?_)); refine g_take hb48 (v_not ?_); refine v_pick' hb48 ?_; refine r_nil ?_; obtain rfl := inj hF; refine thn ⟨rfl, ?_⟩; dsimp only
          exact ⟨F0, rfl, (PH.le.refl _), st, gA, gA, gA, gA⟩
      · obtain ⟨F44, rfl, le44, st, t1, t2, t3, t22⟩ := hp; refine v_cond (fun hb52 => ?_) (fun hb52 => ?_)
        · have hF := bif_t hb52 hF; refine w_seq ?_; refine w_reg ?_; refine v_move ?_; refine v_move ?_; refine r_nil ?_; refine th_n ?_; refine w_ret ?_; obtain rfl := inj hF; have hF := hK29; have hF := sel_l hF; refine th_r ?_; obtain rfl := inj hF
          exact end_r st (Res.t gA (Res.t gA Res.nil)) ⟨_, _, rfl, ⟨none, 0, rfl, RowF.nil⟩, rfl⟩
        · have hF := bif_f hb52 hF; refine w_skip ?_; obtain rfl := inj hF; refine thn ⟨rfl, _, rfl, ?_⟩; dsimp only
          exact ⟨F44, rfl, le44, st, gA, gA, gA⟩
    · obtain ⟨w32, rfl, F33, rfl, le33, st, t1, t2, t3⟩ := hp; have hF := sel_r hF; refine w_seq ?_; refine w_reg ?_; refine v_ldn (vs := [(i64 a0_0), (.slice pa0_1 (a0_1).length ca0_1), (.slice pa0_2 (a0_2).length ca0_2), (i64 a0_3)]) (st.at (i := 0) rfl).2.2 rfl ?_; refine v_move ?_; obtain ⟨v53, e54, hF⟩ := bnd_some hF; refine v_callR st (ct62 N e54 st.d st.sub (Nat.le_trans hfl st.ext.le) (RowF.mono le33 ra0_1) (RowF.mono le33 ra0_2)) (fun u55 F55 h55 n55 le55 rv55 st => ?_)
      have le56 := PH.le.trans le33 le55
      obtain ⟨_, rfl, ⟨_, _, rfl, rfl, ⟨_, _, rfl, ⟨py57, cy57, rfl, ry57⟩, ⟨_, _, rfl, ⟨py58, cy58, rfl, ry58⟩, ⟨_, _, rfl, rfl, ⟨_, _, rfl, ⟨py59, cy59, rfl, ry59⟩, ⟨_, _, rfl, ⟨py60, cy60, rfl, ry60⟩, rfl⟩⟩⟩⟩⟩⟩⟩ := rv55; refine v_move ?_; obtain ⟨v61, e62, hF⟩ := bnd_some hF; refine v_callR st (ct65 N e62 st.d st.sub (Nat.le_trans hfl st.ext.le) ry57 ry58 ry59 ry60) (fun u63 F63 h63 n63 le63 rv63 st => ?_)
      have le64 := PH.le.trans le56 le63
      have le65 := PH.le.trans le55 le63
      obtain ⟨py66, cy66, rfl, ry66⟩ := rv63; refine v_move ?_; refine r_nil ?_; refine th_n ?_; refine w_seq ?_; refine w_seq ?_; refine w_reg ?_; refine v_move ?_; refine v_len ?_; refine v_eqi ?_; refine r_nil ?_; refine th_n ?_; refine v_cond (fun hb67 => ?_) (fun hb67 => ?_)
      · have hF := bif_t hb67 hF; refine w_seq ?_; refine w_reg ?_; refine v_move ?_; refine v_move ?_; refine r_nil ?_; refine th_n ?_; refine w_ret ?_; refine th_r ?_; obtain rfl := inj hF
        exact end_r st (Res.t gA (Res.t gA Res.nil)) ⟨_, _, rfl, ⟨none, 0, rfl, RowF.nil⟩, rfl⟩
      · have hF := bif_f hb67 hF; refine w_skip ?_; refine th_n ?_; refine w_seq ?_; refine w_reg ?_; refine v_move ?_; refine v_move ?_; refine v_move ?_; refine r_nil ?_; refine th_n ?_; refine w_ret ?_; obtain rfl := inj hF
        exact end_r st (Res.t gA (Res.t gA Res.nil)) ⟨_, _, rfl, ⟨_, _, rfl, ry66⟩, rfl⟩
end Go.Hx.V

/- Functions of the program come to that. -/
namespace Go.Hx.V
open Go.Hx
set_option linter.unusedVariables false
set_option maxRecDepth 20000
set_option maxHeartbeats 4000000
attribute [local irreducible] W R C thenH inBlockH Tr.get Tr.set lo
theorem ct20 (N : Nat) {a0_0 : Int} {a0_1 : (List (Int × Int))} {a0_2 : (List (Int × Int × Int))} {a0_3 : Int} {a1 : Int} {a2_0 : (List Int)} {a2_1 : (List Int)} {r : (Int × Int)} (hF : sf20 N a0_0 a0_1 a0_2 a0_3 a1 a2_0 a2_1 = some r) {fl : Nat} {h0 : Tr HBlk} {n0 : Nat} {F0 : PH} (hd : D h0 n0) (hs : F0.sub h0) {pa0_1 : Option (Nat × Nat)} {ca0_1 : Nat} {pa0_2 : Option (Nat × Nat)} {ca0_2 : Nat} {pa2_0 : Option (Nat × Nat)} {ca2_0 : Nat} {pa2_1 : Option (Nat × Nat)} {ca2_1 : Nat} (ra0_1 : RowF (rP rI rI) 2 F0 pa0_1 ca0_1 a0_1) (ra0_2 : RowF (rP rI (rP rI rI)) 3 F0 pa0_2 ca0_2 a0_2) (ra2_0 : RowF rI 1 F0 pa2_0 ca2_0 a2_0) (ra2_1 : RowF rI 1 F0 pa2_1 ca2_1 a2_1) : C LW fl 20 [(.agg [(i64 a0_0), (.slice pa0_1 (a0_1).length ca0_1), (.slice pa0_2 (a0_2).length ca0_2), (i64 a0_3)]), (i64 a1), (.agg [(.slice pa2_0 (a2_0).length ca2_0), (.slice pa2_1 (a2_1).length ca2_1)])] ⟨h0, n0⟩ (KS (.tuple [(i64 r.1), (i64 r.2)]) n0 h0) := by
  unfold sf20 at hF
  refine in_cT hd hs lw20 rfl rfl (by rfl) (fun st T hT => ?_)
  have hfl : n0 ≤ n0 := Nat.le_refl n0
  have t0 := hT 0 _ rfl
  have t1 := hT 1 _ rfl
  have t2 := hT 2 _ rfl
  dsimp only [L20]
  refine w_seq ?_; refine w_reg ?_; refine v_box st (fun b1 h2 n3 st => ?_); refine v_box st (fun b4 h5 n6 st => ?_); refine v_move ?_; refine v_move ?_; refine r_nil ?_; refine th_n ?_; refine w_seq ?_; refine w_seq ?_; refine w_reg ?_; refine v_ldn (vs := [(i64 a0_0), (.slice pa0_1 (a0_1).length ca0_1), (.slice pa0_2 (a0_2).length ca0_2), (i64 a0_3)]) (st.at (i := 0) rfl).2.2 rfl ?_; refine v_move ?_; obtain ⟨v7, e8, hF⟩ := bnd_some hF; refine v_call st (ct51 N e8 st.d st.sub ra0_1 ra0_2) (fun n9 st => ?_); refine v_move ?_; refine r_nil ?_; refine th_n ?_; refine w_seq ?_; refine w_reg ?_; refine v_move ?_; refine v_nei ?_; refine r_nil ?_; refine th_n ?_; refine v_cond (fun hb10 => ?_) (fun hb10 => ?_)
  · have hF := bif_t hb10 hF; refine w_seq ?_; refine w_reg ?_; refine v_move ?_; refine v_move ?_; refine v_move ?_; refine r_nil ?_; refine th_n ?_; refine w_ret ?_; refine th_r ?_; obtain rfl := inj hF
    exact end_s st (Res.t gA (Res.t gA Res.nil)) rfl rfl
  · have hF := bif_f hb10 hF; refine w_skip ?_; refine th_n ?_; refine w_seq ?_; refine w_seq ?_; refine w_reg ?_; refine v_ldn (vs := [(i64 a0_0), (.slice pa0_1 (a0_1).length ca0_1), (.slice pa0_2 (a0_2).length ca0_2), (i64 a0_3)]) (st.at (i := 0) rfl).2.2 rfl ?_; refine v_ldn (vs := [(.slice pa2_0 (a2_0).length ca2_0), (.slice pa2_1 (a2_1).length ca2_1)]) (st.at (i := 1) rfl).2.2 rfl ?_; obtain ⟨v11, e12, hF⟩ := bnd_some hF; refine v_call st (ct52 N e12 st.d st.sub ra0_1 ra0_2 ra2_0 ra2_1) (fun n13 st => ?_); refine v_not ?_; refine r_nil ?_; refine th_n ?_; refine v_cond (fun hb14 => ?_) (fun hb14 => ?_)
    · have hF := bif_t hb14 hF; refine w_seq ?_; refine w_reg ?_; refine v_move ?_; refine v_move ?_; refine r_nil ?_; refine th_n ?_; refine w_ret ?_; refine th_r ?_; obtain rfl := inj hF
      exact end_s st (Res.t gA (Res.t gA Res.nil)) rfl rfl
    · have hF := bif_f hb14 hF; refine w_skip ?_; refine th_n ?_; refine w_seq ?_; refine w_reg ?_; refine v_ldn (vs := [(i64 a0_0), (.slice pa0_1 (a0_1).length ca0_1), (.slice pa0_2 (a0_2).length ca0_2), (i64 a0_3)]) (st.at (i := 0) rfl).2.2 rfl ?_; refine v_ldn (vs := [(.slice pa2_0 (a2_0).length ca2_0), (.slice pa2_1 (a2_1).length ca2_1)]) (st.at (i := 1) rfl).2.2 rfl ?_; obtain ⟨v15, e16, hF⟩ := bnd_some hF; refine v_callR st (ct53 N e16 st.d st.sub (Nat.le_trans hfl st.ext.le) ra0_1 ra0_2 ra2_0 ra2_1) (fun u17 F17 h17 n17 le17 rv17 st => ?_); obtain ⟨py18, cy18, rfl, ry18⟩ := rv17; refine v_move ?_; obtain ⟨n19, x19, z19, l19, g19, hF⟩ := ix_some hF; obtain ⟨b19, o19, s19, j19, r19, e19, f19, k19, rfl⟩ := RowF.get ry18 g19
      refine v_ixp e19 z19 l19 ?_; refine v_ld1 (st.sub _ _ f19) (take_at (j := 0) k19 rfl) ?_; refine v_move ?_; refine v_move ?_; refine r_nil ?_; refine th_n ?_; refine w_ret ?_; obtain rfl := inj hF
      exact end_s st (Res.t gA (Res.t gA Res.nil)) rfl rfl
theorem ct22 (N : Nat) {a0_0 : Int} {a0_1 : (List (Int × Int))} {a0_2 : (List (Int × Int × Int))} {a0_3 : Int} {a1 : Int} {r : (Int × Int × Int)} (hF : sf22 N a0_0 a0_1 a0_2 a0_3 a1 = some r) {fl : Nat} {h0 : Tr HBlk} {n0 : Nat} {F0 : PH} (hd : D h0 n0) (hs : F0.sub h0) {pa0_1 : Option (Nat × Nat)} {ca0_1 : Nat} {pa0_2 : Option (Nat × Nat)} {ca0_2 : Nat} (ra0_1 : RowF (rP rI rI) 2 F0 pa0_1 ca0_1 a0_1) (ra0_2 : RowF (rP rI (rP rI rI)) 3 F0 pa0_2 ca0_2 a0_2) : C LW fl 22 [(.agg [(i64 a0_0), (.slice pa0_1 (a0_1).length ca0_1), (.slice pa0_2 (a0_2).length ca0_2), (i64 a0_3)]), (i64 a1)] ⟨h0, n0⟩ (KS (.tuple [(.agg [(i64 r.1), (i64 r.2.1)]), (i64 r.2.2)]) n0 h0) := by
  unfold sf22 at hF
  refine in_cT hd hs lw22 rfl rfl (by rfl) (fun st T hT => ?_)
  have hfl : n0 ≤ n0 := Nat.le_refl n0
  have t0 := hT 0 _ rfl
  have t1 := hT 1 _ rfl
  dsimp only [L22]
  refine w_seq ?_; refine w_reg ?_; refine v_box st (fun b1 h2 n3 st => ?_); refine v_alloc st (fun b4 h5 n6 st => ?_); refine v_move ?_; refine r_nil ?_; refine th_n ?_; refine w_seq ?_; refine w_seq ?_; refine w_reg ?_; refine v_ldn (vs := [(i64 a0_0), (.slice pa0_1 (a0_1).length ca0_1), (.slice pa0_2 (a0_2).length ca0_2), (i64 a0_3)]) (st.at (i := 0) rfl).2.2 rfl ?_; refine v_move ?_; obtain ⟨v7, e8, hF⟩ := bnd_some hF; refine v_call st (ct51 N e8 st.d st.sub ra0_1 ra0_2) (fun n9 st => ?_); refine v_move ?_; refine r_nil ?_; refine th_n ?_; refine w_seq ?_; refine w_reg ?_; refine v_move ?_; refine v_nei ?_; refine r_nil ?_; refine th_n ?_; refine v_cond (fun hb10 => ?_) (fun hb10 => ?_)
  · have hF := bif_t hb10 hF; refine w_seq ?_; refine w_reg ?_; refine v_build (cs := [(i64 (0 : Int)), (i64 (0 : Int))]) rfl ?_; refine v_move ?_; refine v_st (cs' := [(i64 (0 : Int)), (i64 (0 : Int))]) st 1 rfl rfl rfl rfl hfl (fun h11 st => ?_); refine v_move ?_; refine r_nil ?_; refine th_n ?_; refine w_ret ?_; refine th_r ?_; obtain rfl := inj hF
    exact end_s st (Res.c gA (st.at (i := 1) rfl).2.2 (show takeN _ _ = some [(i64 (0 : Int)), (i64 (0 : Int))] from rfl) (Res.t gA Res.nil)) rfl rfl
  · have hF := bif_f hb10 hF; refine w_skip ?_; refine th_n ?_; refine w_seq ?_; refine w_reg ?_; refine v_ldn (vs := [(i64 a0_0), (.slice pa0_1 (a0_1).length ca0_1), (.slice pa0_2 (a0_2).length ca0_2), (i64 a0_3)]) (st.at (i := 0) rfl).2.2 rfl ?_; obtain ⟨v12, e13, hF⟩ := bnd_some hF; refine v_callR st (ct54 N e13 st.d st.sub (Nat.le_trans hfl st.ext.le) ra0_1 ra0_2) (fun u14 F14 h14 n14 le14 rv14 st => ?_); obtain ⟨_, rfl, ⟨_, _, rfl, rfl, ⟨_, _, rfl, ⟨py15, cy15, rfl, ry15⟩, ⟨_, _, rfl, ⟨py16, cy16, rfl, ry16⟩, ⟨_, _, rfl, rfl, ⟨_, _, rfl, ⟨py17, cy17, rfl, ry17⟩, ⟨py18, cy18, rfl, ry18⟩⟩⟩⟩⟩⟩⟩ := rv14; refine v_move ?_; obtain ⟨v19, e20, hF⟩ := bnd_some hF; refine v_call st (ct55 N e20 st.d st.sub ry15 ry16 ry17 ry18) (fun n21 st => ?_)
    refine v_st (cs' := [(i64 v19.1), (i64 v19.2)]) st 1 rfl rfl rfl rfl hfl (fun h22 st => ?_); refine v_move ?_; refine r_nil ?_; refine th_n ?_; refine w_ret ?_; obtain rfl := inj hF
    exact end_s st (Res.c gA (st.at (i := 1) rfl).2.2 (show takeN _ _ = some [(i64 v19.1), (i64 v19.2)] from rfl) (Res.t gA Res.nil)) rfl rfl
theorem ct5 (N : Nat) {a0_0 : Int} {a0_1 : (List (Int × Int))} {a0_2 : (List (Int × Int × Int))} {a0_3 : Int} {a1 : Int} {a2 : Int} {r : Bool} (hF : sf5 N a0_0 a0_1 a0_2 a0_3 a1 a2 = some r) {fl : Nat} {h0 : Tr HBlk} {n0 : Nat} {F0 : PH} (hd : D h0 n0) (hs : F0.sub h0) {pa0_1 : Option (Nat × Nat)} {ca0_1 : Nat} {pa0_2 : Option (Nat × Nat)} {ca0_2 : Nat} (ra0_1 : RowF (rP rI rI) 2 F0 pa0_1 ca0_1 a0_1) (ra0_2 : RowF (rP rI (rP rI rI)) 3 F0 pa0_2 ca0_2 a0_2) : C LW fl 5 [(.agg [(i64 a0_0), (.slice pa0_1 (a0_1).length ca0_1), (.slice pa0_2 (a0_2).length ca0_2), (i64 a0_3)]), (i64 a1), (i64 a2)] ⟨h0, n0⟩ (KS (.bool r) n0 h0) := by
  unfold sf5 at hF
  refine in_cT hd hs lw5 rfl rfl (by rfl) (fun st T hT => ?_)
  have hfl : n0 ≤ n0 := Nat.le_refl n0
  have t0 := hT 0 _ rfl
  have t1 := hT 1 _ rfl
  have t2 := hT 2 _ rfl
  dsimp only [L5]
  refine w_seq ?_; refine w_reg ?_; refine v_box st (fun b1 h2 n3 st => ?_); refine v_move ?_; refine r_nil ?_; refine th_n ?_; refine w_seq ?_; refine w_seq ?_; refine w_reg ?_; refine v_ldn (vs := [(i64 a0_0), (.slice pa0_1 (a0_1).length ca0_1), (.slice pa0_2 (a0_2).length ca0_2), (i64 a0_3)]) (st.at (i := 0) rfl).2.2 rfl ?_; obtain ⟨v4, e5, hF⟩ := bnd_some hF; refine v_call st (ct16 N e5 st.d st.sub ra0_1 ra0_2 RowF.nil RowF.nil) (fun n6 st => ?_); refine v_not ?_; refine r_nil ?_; refine th_n ?_; refine v_cond (fun hb7 => ?_) (fun hb7 => ?_)
  · have hF := bif_t hb7 hF; refine w_seq ?_; refine w_reg ?_; refine v_call st (ct_wakes (h := _) (nx := _)) (fun n8 st => ?_); refine v_move ?_; refine r_nil ?_; refine th_n ?_; refine w_ret ?_; refine th_r ?_; obtain rfl := inj hF
    exact end_s st (Res.t gA Res.nil) rfl rfl
  · have hF := bif_f hb7 hF; refine w_skip ?_; refine th_n ?_; refine w_seq ?_; refine w_reg ?_; refine v_ldn (vs := [(i64 a0_0), (.slice pa0_1 (a0_1).length ca0_1), (.slice pa0_2 (a0_2).length ca0_2), (i64 a0_3)]) (st.at (i := 0) rfl).2.2 rfl ?_; obtain ⟨v9, e10, hF⟩ := bnd_some hF; refine v_callR st (ct19 N e10 st.d st.sub (Nat.le_trans hfl st.ext.le) ra0_1 ra0_2) (fun u11 F11 h11 n11 le11 rv11 st => ?_); obtain ⟨_, rfl, ⟨_, _, rfl, rfl, ⟨_, _, rfl, ⟨py12, cy12, rfl, ry12⟩, ⟨_, _, rfl, ⟨py13, cy13, rfl, ry13⟩, rfl⟩⟩⟩⟩ := rv11; refine v_move ?_; refine v_move ?_; obtain ⟨v14, e15, hF⟩ := bnd_some hF; refine v_callR st (ct35 N e15 st.d st.sub (Nat.le_trans hfl st.ext.le) ry12 ry13) (fun u16 F16 h16 n16 le16 rv16 st => ?_)
    have le17 := PH.le.trans le11 le16
    obtain ⟨_, _, rfl, ⟨py18, cy18, rfl, ry18⟩, rfl⟩ := rv16; refine v_move ?_; refine v_xt rfl ?_; refine v_xt rfl ?_; refine v_move ?_; refine v_move ?_; refine r_nil ?_; refine th_n ?_; refine w_seq ?_; refine w_reg ?_; refine v_ldn (vs := [(i64 a0_0), (.slice pa0_1 (a0_1).length ca0_1), (.slice pa0_2 (a0_2).length ca0_2), (i64 a0_3)]) (st.at (i := 0) rfl).2.2 rfl ?_; obtain ⟨v19, e20, hF⟩ := bnd_some hF; refine v_call st (ct23 N e20 st.d st.sub (RowF.mono le17 ra0_1) (RowF.mono le17 ra0_2)) (fun n21 st => ?_); refine v_move ?_; refine r_nil ?_; refine th_n ?_; obtain ⟨y45, hA46, hF⟩ := bnd_some hF; refine w_cutD (fun T ds48 h nx => ∃ (F48 : PH), ds48 = [] ∧ PH.le F16 F48 ∧ St n0 h0 F0 F48 h nx [.bx b1 [(i64 a0_0), (.slice pa0_1 (a0_1).length ca0_1), (.slice pa0_2 (a0_2).length ca0_2), (i64 a0_3)]] ∧ T.get 1 = some (i64 a1) ∧ T.get 2 = some (i64 a2) ∧ T.get 3 = some (.ptr (some (b1, 0))) ∧ T.get 7 = some (.slice py18 (v14.1).length cy18) ∧ T.get 8 = some (i64 v14.2) ∧ T.get 9 = some (i64 y45)) ?_ (fun T ds48 h nx hp => ?_)
    · have hK47 := hF
      have hF := hA46; obtain ⟨y57, hA58, hF⟩ := bnd_some hF; refine w_cutD (fun T ds60 h nx => ∃ (F60 : PH), ds60 = [] ∧ PH.le F16 F60 ∧ St n0 h0 F0 F60 h nx [.bx b1 [(i64 a0_0), (.slice pa0_1 (a0_1).length ca0_1), (.slice pa0_2 (a0_2).length ca0_2), (i64 a0_3)]] ∧ T.get 1 = some (i64 a1) ∧ T.get 2 = some (i64 a2) ∧ T.get 3 = some (.ptr (some (b1, 0))) ∧ T.get 7 = some (.slice py18 (v14.1).length cy18) ∧ T.get 8 = some (i64 v14.2) ∧ T.get 9 = some (i64 v19) ∧ T.get 36 = some (.bool y57)) ?_ (fun T ds60 h nx hp => ?_)
      · have hK59 := hF
        have hF := hA58; refine w_reg ?_; refine v_move ?_; refine v_eqi ?_; refine v_move ?_
        rcases Bool.eq_false_or_eq_true (decide (v19 = (0 : Int))) with hb61 | hb61
        · have hF := bif_t hb61 hF; refine g_take hb61 (v_move ?_); obtain ⟨v62, e63, hF⟩ := bnd_some hF; refine g_take hb61 (v_call st (ct24 N e63 st.d st.sub ) (fun n64 st => ?_)); refine g_take hb61 (v_not ?_); refine g_take hb61 (v_move ?_)
          rcases Bool.eq_false_or_eq_true (!v62) with hb65 | hb65
          · have hF := bif_t hb65 hF; refine g_skip hb65 ?_; refine g_skip hb65 ?_; refine g_skip hb65 ?_; refine g_take hb61 (v_pick hb65 ?_); refine v_pick hb61 ?_; refine r_nil ?_; obtain rfl := inj hF; refine thn ⟨rfl, ?_⟩; dsimp only
            exact ⟨F16, rfl, (PH.le.refl _), st, gA, gA, gA, gA, gA, gA, gA⟩
          · have hF := bif_f hb65 hF; refine g_take hb65 (v_move ?_); obtain ⟨v66, e67, hF⟩ := bnd_some hF; refine g_take hb65 (v_call st (ct24 N e67 st.d st.sub ) (fun n68 st => ?_)); refine g_take hb65 (v_not ?_); refine g_take hb61 (v_pick' hb65 ?_); refine v_pick hb61 ?_; refine r_nil ?_; obtain rfl := inj hF; refine thn ⟨rfl, ?_⟩; dsimp only
            exact ⟨F16, rfl, (PH.le.refl _), st, gA, gA, gA, gA, gA, gA, gA⟩
        · have hF := bif_f hb61 hF; refine g_skip hb61 ?_; refine g_skip hb61 ?_; refine g_skip hb61 ?_; refine g_skip hb61 ?_; refine g_skipu ?_; refine g_skipu ?_; refine g_skipu ?_; refine g_skip hb61 ?_; refine v_pick' hb61 ?_; refine r_nil ?_; obtain rfl := inj hF; refine thn ⟨rfl, ?_⟩; dsimp only
          exact ⟨F16, rfl, (PH.le.refl _), st, gA, gA, gA, gA, gA, gA, gA⟩
      · obtain ⟨F60, rfl, le60, st, t1, t2, t3, t7, t8, t9, t36⟩ := hp
        have le69 := PH.le.trans le17 le60
        have le70 := PH.le.trans le16 le60
        refine v_cond (fun hb71 => ?_) (fun hb71 => ?_)
        · have hF := bif_t hb71 hF; refine w_reg ?_; refine v_move ?_; refine r_nil ?_; obtain rfl := inj hF; refine thn ⟨rfl, ?_⟩; dsimp only
          exact ⟨F60, rfl, le60, st, gA, gA, gA, gA, gA, gA⟩
        · have hF := bif_f hb71 hF; refine w_skip ?_; obtain rfl := inj hF; refine thn ⟨rfl, ?_⟩; dsimp only
          exact ⟨F60, rfl, le60, st, gA, gA, gA, gA, gA, gA⟩
    · obtain ⟨F48, rfl, le48, st, t1, t2, t3, t7, t8, t9⟩ := hp
      have le72 := PH.le.trans le17 le48
      have le73 := PH.le.trans le16 le48
      refine w_seq ?_; refine w_reg ?_; refine v_move ?_; refine r_nil ?_; refine th_n ?_; obtain ⟨y83, hA84, hF⟩ := bnd_some hF; refine w_cutD (fun T ds86 h nx => ∃ (F86 : PH) (p87 : Option (Nat × Nat)) (c87 : Nat), ds86 = [] ∧ PH.le F48 F86 ∧ St n0 h0 F0 F86 h nx [.bx b1 [(i64 a0_0), (.slice pa0_1 (a0_1).length ca0_1), (.slice pa0_2 (a0_2).length ca0_2), (i64 a0_3)]] ∧ RowF rI 1 F86 p87 c87 y83.2 ∧ T.get 7 = some (.slice py18 (v14.1).length cy18) ∧ T.get 8 = some (i64 v14.2) ∧ T.get 9 = some (i64 y83.1) ∧ T.get 10 = some (.slice p87 (y83.2).length c87)) ?_ (fun T ds86 h nx hp => ?_)
      · have hK85 := hF
        have hF := hA84; refine w_seq ?_; refine w_reg ?_; refine v_move ?_; refine v_eqi ?_; refine r_nil ?_; refine th_n ?_; refine v_cond (fun hb88 => ?_) (fun hb88 => ?_)
        · have hF := bif_t hb88 hF; refine w_seq ?_; refine w_reg ?_; refine v_ldn (vs := [(i64 a0_0), (.slice pa0_1 (a0_1).length ca0_1), (.slice pa0_2 (a0_2).length ca0_2), (i64 a0_3)]) (st.at (i := 0) rfl).2.2 rfl ?_; refine v_move ?_; refine v_move ?_; obtain ⟨v89, e90, hF⟩ := bnd_some hF; refine v_callR st (ct36 N e90 st.d st.sub (Nat.le_trans hfl st.ext.le) (RowF.mono le72 ra0_1) (RowF.mono le72 ra0_2)) (fun u91 F91 h91 n91 le91 rv91 st => ?_)
          have le92 := PH.le.trans le72 le91
          have le93 := PH.le.trans le73 le91
          have le94 := PH.le.trans le48 le91
          obtain ⟨py95, cy95, rfl, ry95⟩ := rv91; refine v_move ?_; refine r_nil ?_; refine th_n ?_; refine w_seq ?_; refine w_reg ?_; refine v_move ?_; refine v_len ?_; refine v_eqi ?_; refine r_nil ?_; refine th_n ?_; refine v_cond (fun hb96 => ?_) (fun hb96 => ?_)
          · have hF := bif_t hb96 hF; refine w_reg ?_; refine v_move ?_; refine r_nil ?_; obtain rfl := inj hF; refine thn ⟨rfl, ?_⟩; dsimp only
            exact ⟨F91, py95, cy95, rfl, le91, st, ry95, gA, gA, gA, gA⟩
          · have hF := bif_f hb96 hF; refine w_skip ?_; obtain rfl := inj hF; refine thn ⟨rfl, ?_⟩; dsimp only
            exact ⟨F91, py95, cy95, rfl, le91, st, ry95, gA, gA, gA, gA⟩
        · have hF := bif_f hb88 hF; refine w_skip ?_; obtain rfl := inj hF; refine thn ⟨rfl, ?_⟩; dsimp only
          exact ⟨F48, none, 0, rfl, (PH.le.refl _), st, RowF.nil, gA, gA, gA, gA⟩
      · obtain ⟨F86, p87, c87, rfl, le86, st, rf87, t7, t8, t9, t10⟩ := hp
        have le97 := PH.le.trans le72 le86
        have le98 := PH.le.trans le73 le86
        have le99 := PH.le.trans le48 le86
        refine w_seq ?_; refine w_reg ?_; refine v_move ?_; refine v_move ?_; refine v_eqi ?_; refine v_move ?_
        rcases Bool.eq_false_or_eq_true (decide (v14.2 = y83.1)) with hb100 | hb100
        · have hF := bif_t hb100 hF; refine g_take hb100 (v_move ?_); refine g_take hb100 (v_move ?_); obtain ⟨v101, e102, hF⟩ := bnd_some hF; refine g_take hb100 (v_call st (ct37 N e102 st.d st.sub (RowF.mono le99 ry18) rf87) (fun n103 st => ?_)); refine v_pick hb100 ?_; refine v_move ?_
          rcases Bool.eq_false_or_eq_true v101 with hb104 | hb104
          · have hF := bif_t hb104 hF; refine g_take hb104 (v_call st (ct_wakes (h := _) (nx := _)) (fun n105 st => ?_)); refine v_pick hb104 ?_; refine v_move ?_; refine r_nil ?_; refine th_n ?_; refine w_ret ?_; obtain rfl := inj hF
            exact end_s st (Res.t gA Res.nil) rfl rfl
          · have hF := bif_f hb104 hF; refine g_skip hb104 ?_; refine v_pick' hb104 ?_; refine v_move ?_; refine r_nil ?_; refine th_n ?_; refine w_ret ?_; obtain rfl := inj hF
            exact end_s st (Res.t gA Res.nil) rfl rfl
        · have hF := bif_f hb100 hF; refine g_skip hb100 ?_; refine g_skip hb100 ?_; refine g_skip hb100 ?_; refine v_pick' hb100 ?_; refine v_move ?_; refine g_skip rfl ?_; refine v_pick' rfl ?_; refine v_move ?_; refine r_nil ?_; refine th_n ?_; refine w_ret ?_; obtain rfl := inj hF
          exact end_s st (Res.t gA Res.nil) rfl rfl
end Go.Hx.V

/- Functions of the program come to that. -/
namespace Go.Hx.V
open Go.Hx
set_option linter.unusedVariables false
set_option maxRecDepth 20000
set_option maxHeartbeats 4000000
attribute [local irreducible] W R C thenH inBlockH Tr.get Tr.set lo
theorem ct3 (N : Nat) {a0_0 : Int} {a0_1 : (List (Int × Int))} {a0_2 : (List (Int × Int × Int))} {a0_3 : Int} {a1 : Int} {a2_0 : (List Int)} {a2_1 : (List Int)} {r : Bool} (hF : sf3 N a0_0 a0_1 a0_2 a0_3 a1 a2_0 a2_1 = some r) {fl : Nat} {h0 : Tr HBlk} {n0 : Nat} {F0 : PH} (hd : D h0 n0) (hs : F0.sub h0) {pa0_1 : Option (Nat × Nat)} {ca0_1 : Nat} {pa0_2 : Option (Nat × Nat)} {ca0_2 : Nat} {pa2_0 : Option (Nat × Nat)} {ca2_0 : Nat} {pa2_1 : Option (Nat × Nat)} {ca2_1 : Nat} (ra0_1 : RowF (rP rI rI) 2 F0 pa0_1 ca0_1 a0_1) (ra0_2 : RowF (rP rI (rP rI rI)) 3 F0 pa0_2 ca0_2 a0_2) (ra2_0 : RowF rI 1 F0 pa2_0 ca2_0 a2_0) (ra2_1 : RowF rI 1 F0 pa2_1 ca2_1 a2_1) : C LW fl 3 [(.agg [(i64 a0_0), (.slice pa0_1 (a0_1).length ca0_1), (.slice pa0_2 (a0_2).length ca0_2), (i64 a0_3)]), (i64 a1), (.agg [(.slice pa2_0 (a2_0).length ca2_0), (.slice pa2_1 (a2_1).length ca2_1)])] ⟨h0, n0⟩ (KS (.bool r) n0 h0) := by
  unfold sf3 at hF
  refine in_cT hd hs lw3 rfl rfl (by rfl) (fun st T hT => ?_)
  have hfl : n0 ≤ n0 := Nat.le_refl n0
  have t0 := hT 0 _ rfl
  have t1 := hT 1 _ rfl
  have t2 := hT 2 _ rfl
  dsimp only [L3]
  refine w_seq ?_; refine w_reg ?_; refine v_box st (fun b1 h2 n3 st => ?_); refine v_box st (fun b4 h5 n6 st => ?_); refine v_move ?_; refine r_nil ?_; refine th_n ?_; refine w_seq ?_; refine w_seq ?_; refine w_reg ?_; refine v_ldn (vs := [(i64 a0_0), (.slice pa0_1 (a0_1).length ca0_1), (.slice pa0_2 (a0_2).length ca0_2), (i64 a0_3)]) (st.at (i := 0) rfl).2.2 rfl ?_; refine v_fa ?_; refine v_ld1 (st.at (i := 1) rfl).2.2 rfl ?_; refine v_fa ?_; refine v_ld1 (st.at (i := 1) rfl).2.2 rfl ?_; obtain ⟨v7, e8, hF⟩ := bnd_some hF; refine v_call st (ct16 N e8 st.d st.sub ra0_1 ra0_2 ra2_0 ra2_1) (fun n9 st => ?_); refine v_not ?_; refine r_nil ?_; refine th_n ?_; refine v_cond (fun hb10 => ?_) (fun hb10 => ?_)
  · have hF := bif_t hb10 hF; refine w_seq ?_; refine w_reg ?_; refine v_call st (ct_wakes (h := _) (nx := _)) (fun n11 st => ?_); refine v_move ?_; refine r_nil ?_; refine th_n ?_; refine w_ret ?_; refine th_r ?_; obtain rfl := inj hF
    exact end_s st (Res.t gA Res.nil) rfl rfl
  · have hF := bif_f hb10 hF; refine w_skip ?_; refine th_n ?_; refine w_seq ?_; refine w_reg ?_; refine v_ldn (vs := [(i64 a0_0), (.slice pa0_1 (a0_1).length ca0_1), (.slice pa0_2 (a0_2).length ca0_2), (i64 a0_3)]) (st.at (i := 0) rfl).2.2 rfl ?_; obtain ⟨v12, e13, hF⟩ := bnd_some hF; refine v_callR st (ct19 N e13 st.d st.sub (Nat.le_trans hfl st.ext.le) ra0_1 ra0_2) (fun u14 F14 h14 n14 le14 rv14 st => ?_); obtain ⟨_, rfl, ⟨_, _, rfl, rfl, ⟨_, _, rfl, ⟨py15, cy15, rfl, ry15⟩, ⟨_, _, rfl, ⟨py16, cy16, rfl, ry16⟩, rfl⟩⟩⟩⟩ := rv14; obtain ⟨v17, e18, hF⟩ := bnd_some hF; refine v_call st (ct18 N e18 st.d st.sub ry15 ry16) (fun n19 st => ?_); refine v_move ?_; refine r_nil ?_; refine th_n ?_; refine w_seq ?_
    refine w_drawV (Nat.le_trans hfl st.ext.le) (fun dw => ?_)
    have wf := Wf.start st
    refine y_pure st.d dw (fun hm vw => v_ldn (vs := [(i64 a0_0), (.slice pa0_1 (a0_1).length ca0_1), (.slice pa0_2 (a0_2).length ca0_2), (i64 a0_3)]) (vw.bx (st.at (i := 0) rfl)) rfl pr_nil) ?_; obtain ⟨v20, e21, hF⟩ := bnd_some hF
    refine y_deep st dw wf (fun hm vw => u_callR (ct19 N e21 vw.d (FF.sub wf st vw) (Nat.max_le.2 ⟨by have := dw.le; have := st.ext.le; omega, Nat.le_refl _⟩) (RowF.mono (PH.le.trans le14 FF.base) ra0_1) (RowF.mono (PH.le.trans le14 FF.base) ra0_2)) (fun v F' h' n' ex l1 l2 l3 l4 => r_nil ⟨_, _, rfl, ex, l1, l2, l3, l4⟩)) (fun u22 F22 n22 done hn' dw22 wf22 rv22 le22 => ?_)
    have wf := wf22
    have dw := dw22
    obtain ⟨_, rfl, ⟨_, _, rfl, rfl, ⟨_, _, rfl, ⟨py23, cy23, rfl, ry23⟩, ⟨_, _, rfl, ⟨py24, cy24, rfl, ry24⟩, rfl⟩⟩⟩⟩ := rv22; refine y_pure st.d dw (fun hm vw => v_move pr_nil) ?_; refine y_pure st.d dw (fun hm vw => v_ldn (vs := [(.slice pa2_0 (a2_0).length ca2_0), (.slice pa2_1 (a2_1).length ca2_1)]) (vw.bx (st.at (i := 1) rfl)) rfl pr_nil) ?_; refine y_end st.d dw rfl (fun h25 ex vs => ?_)
    obtain ⟨F26, lt26, st⟩ := St.laidF st dw wf ex vs (Lay.nil (by have := dw.le; omega)) (fun e he => by cases he)
    have lz27 := lt26 _ (le22 (fun _ => true) rfl (fun _ _ => rfl))
    have lb26 := lt26 _ FF.base
    have le28 := PH.le.trans le14 lb26
    obtain ⟨v29, e30, hF⟩ := bnd_some hF; refine v_callR st (ct21 N e30 st.d st.sub (Nat.le_trans hfl st.ext.le) (RowF.mono le28 ra2_0) (RowF.mono le28 ra2_1)) (fun u31 F31 h31 n31 le31 rv31 st => ?_)
    have le32 := PH.le.trans le28 le31
    have le33 := PH.le.trans lb26 le31
    have le34 := PH.le.trans lz27 le31
    obtain ⟨_, rfl, ⟨_, _, rfl, ⟨py35, cy35, rfl, ry35⟩, ⟨py36, cy36, rfl, ry36⟩⟩⟩ := rv31; obtain ⟨v37, e38, hF⟩ := bnd_some hF; refine v_call st (ct20 N e38 st.d st.sub (RowF.mono le34 ry23) (RowF.mono le34 ry24) ry35 ry36) (fun n39 st => ?_); refine v_move ?_; refine v_xt rfl ?_; refine v_xt rfl ?_; refine v_move ?_; refine v_move ?_; refine r_nil ?_; refine th_n ?_; refine w_seq ?_; refine w_reg ?_; refine v_ldn (vs := [(i64 a0_0), (.slice pa0_1 (a0_1).length ca0_1), (.slice pa0_2 (a0_2).length ca0_2), (i64 a0_3)]) (st.at (i := 0) rfl).2.2 rfl ?_; obtain ⟨v40, e41, hF⟩ := bnd_some hF; refine v_callR st (ct19 N e41 st.d st.sub (Nat.le_trans hfl st.ext.le) (RowF.mono le32 ra0_1) (RowF.mono le32 ra0_2)) (fun u42 F42 h42 n42 le42 rv42 st => ?_)
    have le43 := PH.le.trans le32 le42
    have le44 := PH.le.trans le33 le42
    have le45 := PH.le.trans le34 le42
    have le46 := PH.le.trans le31 le42
    obtain ⟨_, rfl, ⟨_, _, rfl, rfl, ⟨_, _, rfl, ⟨py47, cy47, rfl, ry47⟩, ⟨_, _, rfl, ⟨py48, cy48, rfl, ry48⟩, rfl⟩⟩⟩⟩ := rv42; refine v_move ?_; obtain ⟨v49, e50, hF⟩ := bnd_some hF; refine v_call st (ct22 N e50 st.d st.sub ry47 ry48) (fun n51 st => ?_); refine v_move ?_; refine v_xt rfl ?_; refine v_xt rfl ?_; refine v_alloc st (fun b52 h53 n54 st => ?_); refine v_st (cs' := [(i64 v49.1), (i64 v49.2.1)]) st 2 rfl rfl rfl rfl hfl (fun h55 st => ?_); refine v_move ?_; refine r_nil ?_; refine th_n ?_; refine w_seq ?_; refine w_reg ?_; refine v_ldn (vs := [(i64 a0_0), (.slice pa0_1 (a0_1).length ca0_1), (.slice pa0_2 (a0_2).length ca0_2), (i64 a0_3)]) (st.at (i := 0) rfl).2.2 rfl ?_; obtain ⟨v56, e57, hF⟩ := bnd_some hF
    refine v_call st (ct23 N e57 st.d st.sub (RowF.mono le43 ra0_1) (RowF.mono le43 ra0_2)) (fun n58 st => ?_); refine v_move ?_; refine r_nil ?_; refine th_n ?_; refine w_seq ?_; refine w_seq ?_; refine w_reg ?_; refine v_move ?_; refine v_move ?_; refine v_nei ?_; refine r_nil ?_; refine th_n ?_; refine v_cond (fun hb59 => ?_) (fun hb59 => ?_)
    · have hF := bif_t hb59 hF; refine w_seq ?_; refine w_reg ?_; refine v_move ?_; refine r_nil ?_; refine th_n ?_; refine w_ret ?_; refine th_r ?_; obtain rfl := inj hF
      exact end_s st (Res.t gA Res.nil) rfl rfl
    · have hF := bif_f hb59 hF; refine w_skip ?_; refine th_n ?_; obtain ⟨y78, hA79, hF⟩ := bnd_some hF; refine w_cutD (fun T ds81 h nx => ∃ (F81 : PH), ds81 = [] ∧ PH.le F42 F81 ∧ St n0 h0 F0 F81 h nx [.bx b1 [(i64 a0_0), (.slice pa0_1 (a0_1).length ca0_1), (.slice pa0_2 (a0_2).length ca0_2), (i64 a0_3)], .bx b4 [(.slice pa2_0 (a2_0).length ca2_0), (.slice pa2_1 (a2_1).length ca2_1)], .bx b52 [(i64 v49.1), (i64 v49.2.1)]] ∧ T.get 1 = some (i64 a1) ∧ T.get 3 = some (.ptr (some (b1, 0))) ∧ T.get 5 = some (.ptr (some (b4, 0))) ∧ T.get 8 = some (i64 v37.1) ∧ T.get 9 = some (i64 v37.2) ∧ T.get 10 = some (.ptr (some (b52, 0))) ∧ T.get 11 = some (i64 v49.2.2) ∧ T.get 12 = some (i64 y78)) ?_ (fun T ds81 h nx hp => ?_)
      · have hK80 := hF
        have hF := hA79; obtain ⟨y86, hA87, hF⟩ := bnd_some hF; refine w_cutD (fun T ds89 h nx => ∃ (F89 : PH), ds89 = [] ∧ PH.le F42 F89 ∧ St n0 h0 F0 F89 h nx [.bx b1 [(i64 a0_0), (.slice pa0_1 (a0_1).length ca0_1), (.slice pa0_2 (a0_2).length ca0_2), (i64 a0_3)], .bx b4 [(.slice pa2_0 (a2_0).length ca2_0), (.slice pa2_1 (a2_1).length ca2_1)], .bx b52 [(i64 v49.1), (i64 v49.2.1)]] ∧ T.get 1 = some (i64 a1) ∧ T.get 3 = some (.ptr (some (b1, 0))) ∧ T.get 5 = some (.ptr (some (b4, 0))) ∧ T.get 8 = some (i64 v37.1) ∧ T.get 9 = some (i64 v37.2) ∧ T.get 10 = some (.ptr (some (b52, 0))) ∧ T.get 11 = some (i64 v49.2.2) ∧ T.get 12 = some (i64 v56) ∧ T.get 53 = some (.bool y86)) ?_ (fun T ds89 h nx hp => ?_)
        · have hK88 := hF
          have hF := hA87; refine w_reg ?_; refine v_move ?_; refine v_eqi ?_; refine v_move ?_
          rcases Bool.eq_false_or_eq_true (decide (v56 = (0 : Int))) with hb90 | hb90
          · have hF := bif_t hb90 hF; refine g_take hb90 (v_move ?_); refine g_take hb90 (v_fa ?_); refine g_take hb90 (v_ld1 (st.at (i := 0) rfl).2.2 rfl ?_); obtain ⟨v91, e92, hF⟩ := bnd_some hF; refine g_take hb90 (v_call st (ct24 N e92 st.d st.sub ) (fun n93 st => ?_)); refine g_take hb90 (v_not ?_); refine v_pick hb90 ?_; refine r_nil ?_; obtain rfl := inj hF; refine thn ⟨rfl, ?_⟩; dsimp only
            exact ⟨F42, rfl, (PH.le.refl _), st, gA, gA, gA, gA, gA, gA, gA, gA, gA⟩
          · have hF := bif_f hb90 hF; refine g_skip hb90 ?_; refine g_skip hb90 ?_; refine g_skip hb90 ?_; refine g_skip hb90 ?_; refine g_skip hb90 ?_; refine v_pick' hb90 ?_; refine r_nil ?_; obtain rfl := inj hF; refine thn ⟨rfl, ?_⟩; dsimp only
            exact ⟨F42, rfl, (PH.le.refl _), st, gA, gA, gA, gA, gA, gA, gA, gA, gA⟩
        · obtain ⟨F89, rfl, le89, st, t1, t3, t5, t8, t9, t10, t11, t12, t53⟩ := hp
          have le94 := PH.le.trans le43 le89
          have le95 := PH.le.trans le44 le89
          have le96 := PH.le.trans le45 le89
          have le97 := PH.le.trans le46 le89
          have le98 := PH.le.trans le42 le89
          refine v_cond (fun hb99 => ?_) (fun hb99 => ?_)
          · have hF := bif_t hb99 hF; refine w_reg ?_; refine v_move ?_; refine r_nil ?_; obtain rfl := inj hF; refine thn ⟨rfl, ?_⟩; dsimp only
            exact ⟨F89, rfl, le89, st, gA, gA, gA, gA, gA, gA, gA, gA⟩
          · have hF := bif_f hb99 hF; refine w_skip ?_; obtain rfl := inj hF; refine thn ⟨rfl, ?_⟩; dsimp only
            exact ⟨F89, rfl, le89, st, gA, gA, gA, gA, gA, gA, gA, gA⟩
      · obtain ⟨F81, rfl, le81, st, t1, t3, t5, t8, t9, t10, t11, t12⟩ := hp
        have le100 := PH.le.trans le43 le81
        have le101 := PH.le.trans le44 le81
        have le102 := PH.le.trans le45 le81
        have le103 := PH.le.trans le46 le81
        have le104 := PH.le.trans le42 le81
        refine w_seq ?_; refine w_seq ?_; refine w_reg ?_; refine v_move ?_; refine v_nei ?_; refine r_nil ?_; refine th_n ?_; refine v_cond (fun hb105 => ?_) (fun hb105 => ?_)
        · have hF := bif_t hb105 hF; refine w_seq ?_; refine w_reg ?_; refine v_move ?_; refine v_move ?_; refine v_eqi ?_; refine v_move ?_
          rcases Bool.eq_false_or_eq_true (decide (v37.2 = y78)) with hb106 | hb106
          · have hF := bif_t hb106 hF; refine g_take hb106 (v_move ?_); refine g_take hb106 (v_move ?_); refine g_take hb106 (v_eqi ?_); refine v_pick hb106 ?_; refine v_move ?_
            rcases Bool.eq_false_or_eq_true (decide (v49.2.2 = y78)) with hb107 | hb107
            · have hF := bif_t hb107 hF; refine g_take hb107 (v_move ?_); refine g_take hb107 (v_eqi ?_); refine v_pick hb107 ?_; refine v_move ?_
              rcases Bool.eq_false_or_eq_true (decide (v37.1 = (0 : Int))) with hb108 | hb108
              · have hF := bif_t hb108 hF; refine g_take hb108 (v_ldn (vs := [(i64 v49.1), (i64 v49.2.1)]) (st.at (i := 2) rfl).2.2 rfl ?_); refine g_take hb108 (v_build (cs := [(i64 (0 : Int)), (i64 (0 : Int))]) rfl ?_); refine g_take hb108 (v_eqr (b := (v49.1 == (0 : Int) && (v49.2.1 == (0 : Int) && true))) rfl ?_); refine v_pick hb108 ?_; refine v_move ?_
                rcases Bool.eq_false_or_eq_true (v49.1 == (0 : Int) && (v49.2.1 == (0 : Int) && true)) with hb109 | hb109
                · have hF := bif_t hb109 hF; refine g_take hb109 (v_call st (ct_wakes (h := _) (nx := _)) (fun n110 st => ?_)); refine v_pick hb109 ?_; refine v_move ?_; refine r_nil ?_; refine th_n ?_; refine w_ret ?_; refine th_r ?_; obtain rfl := inj hF
                  exact end_s st (Res.t gA Res.nil) rfl rfl
                · have hF := bif_f hb109 hF; refine g_skip hb109 ?_; refine v_pick' hb109 ?_; refine v_move ?_; refine r_nil ?_; refine th_n ?_; refine w_ret ?_; refine th_r ?_; obtain rfl := inj hF
                  exact end_s st (Res.t gA Res.nil) rfl rfl
              · have hF := bif_f hb108 hF; refine g_skip hb108 ?_; refine g_skip hb108 ?_; refine g_skip hb108 ?_; refine v_pick' hb108 ?_; refine v_move ?_; refine g_skip rfl ?_; refine v_pick' rfl ?_; refine v_move ?_; refine r_nil ?_; refine th_n ?_; refine w_ret ?_; refine th_r ?_; obtain rfl := inj hF
                exact end_s st (Res.t gA Res.nil) rfl rfl
            · have hF := bif_f hb107 hF; refine g_skip hb107 ?_; refine g_skip hb107 ?_; refine v_pick' hb107 ?_; refine v_move ?_; refine g_skip rfl ?_; refine g_skip rfl ?_; refine g_skip rfl ?_; refine v_pick' rfl ?_; refine v_move ?_; refine g_skip rfl ?_; refine v_pick' rfl ?_; refine v_move ?_; refine r_nil ?_; refine th_n ?_; refine w_ret ?_; refine th_r ?_; obtain rfl := inj hF
              exact end_s st (Res.t gA Res.nil) rfl rfl
          · have hF := bif_f hb106 hF; refine g_skip hb106 ?_; refine g_skip hb106 ?_; refine g_skip hb106 ?_; refine v_pick' hb106 ?_; refine v_move ?_; refine g_skip rfl ?_; refine g_skip rfl ?_; refine v_pick' rfl ?_; refine v_move ?_; refine g_skip rfl ?_; refine g_skip rfl ?_; refine g_skip rfl ?_; refine v_pick' rfl ?_; refine v_move ?_; refine g_skip rfl ?_; refine v_pick' rfl ?_; refine v_move ?_; refine r_nil ?_; refine th_n ?_; refine w_ret ?_; refine th_r ?_; obtain rfl := inj hF
            exact end_s st (Res.t gA Res.nil) rfl rfl
        · have hF := bif_f hb105 hF; refine w_skip ?_; refine th_n ?_; obtain ⟨y140, hA141, hF⟩ := bnd_some hF; refine w_cutD (fun T ds146 h nx => ∃ u, y140 = (.inr u) ∧ ∃ (F146 : PH), ds146 = [] ∧ PH.le F81 F146 ∧ St n0 h0 F0 F146 h nx [.bx b1 [(i64 a0_0), (.slice pa0_1 (a0_1).length ca0_1), (.slice pa0_2 (a0_2).length ca0_2), (i64 a0_3)], .bx b4 [(.slice pa2_0 (a2_0).length ca2_0), (.slice pa2_1 (a2_1).length ca2_1)], .bx b52 [(i64 v49.1), (i64 v49.2.1)]] ∧ T.get 1 = some (i64 a1) ∧ T.get 3 = some (.ptr (some (b1, 0))) ∧ T.get 5 = some (.ptr (some (b4, 0))) ∧ T.get 8 = some (i64 v37.1) ∧ T.get 9 = some (i64 v37.2)) ?_ (fun T ds146 h nx hp => ?_)
          · have hK142 := hF
            have hF := hA141; obtain ⟨y156, hA157, hF⟩ := bnd_some hF; refine w_cutD (fun T ds159 h nx => ∃ (F159 : PH), ds159 = [] ∧ PH.le F81 F159 ∧ St n0 h0 F0 F159 h nx [.bx b1 [(i64 a0_0), (.slice pa0_1 (a0_1).length ca0_1), (.slice pa0_2 (a0_2).length ca0_2), (i64 a0_3)], .bx b4 [(.slice pa2_0 (a2_0).length ca2_0), (.slice pa2_1 (a2_1).length ca2_1)], .bx b52 [(i64 v49.1), (i64 v49.2.1)]] ∧ T.get 1 = some (i64 a1) ∧ T.get 3 = some (.ptr (some (b1, 0))) ∧ T.get 5 = some (.ptr (some (b4, 0))) ∧ T.get 8 = some (i64 v37.1) ∧ T.get 9 = some (i64 v37.2) ∧ T.get 85 = some (.bool y156)) ?_ (fun T ds159 h nx hp => ?_)
            · have hK158 := hF
              have hF := hA157; refine w_drawV (Nat.le_trans hfl st.ext.le) (fun dw => ?_); refine y_pure st.d dw (fun hm vw => v_move pr_nil) ?_; refine y_pure st.d dw (fun hm vw => v_nei pr_nil) ?_; refine y_pure st.d dw (fun hm vw => v_move pr_nil) ?_
              rcases Bool.eq_false_or_eq_true (!(decide (v49.2.2 = (0 : Int)))) with hb160 | hb160
              · have hF := bif_t hb160 hF; refine y_pure st.d dw (fun hm vw => g_skip hb160 pr_nil) ?_; refine y_pure st.d dw (fun hm vw => g_skip hb160 pr_nil) ?_; refine y_pure st.d dw (fun hm vw => g_skip hb160 pr_nil) ?_; refine y_pure st.d dw (fun hm vw => g_skip hb160 pr_nil) ?_; refine y_pure st.d dw (fun hm vw => g_skip hb160 pr_nil) ?_; refine y_end st.d dw rfl (fun h161 ex vs => ?_)
                have st := st.ext1 ex
                refine g_skip hb160 ?_; refine v_pick hb160 ?_; refine r_nil ?_; obtain rfl := inj hF; refine thn ⟨rfl, ?_⟩; dsimp only
                exact ⟨F81, rfl, (PH.le.refl _), st, gA, gA, gA, gA, gA, gA⟩
              · have hF := bif_f hb160 hF; refine y_pure st.d dw (fun hm vw => g_take hb160 (v_ldn (vs := [(i64 v49.1), (i64 v49.2.1)]) (vw.bx (st.at (i := 2) rfl)) rfl pr_nil)) ?_; refine y_pure st.d dw (fun hm vw => g_take hb160 (v_ldn (vs := [(i64 a0_0), (.slice pa0_1 (a0_1).length ca0_1), (.slice pa0_2 (a0_2).length ca0_2), (i64 a0_3)]) (vw.bx (st.at (i := 0) rfl)) rfl pr_nil)) ?_; refine y_pure st.d dw (fun hm vw => g_take hb160 (v_move pr_nil)) ?_; obtain ⟨v162, e163, hF⟩ := bnd_some hF; refine y_flat st.d dw (fun hm vw => g_take hb160 (u_call (ct26 N e163 vw.d (vw.sub st) (RowF.mono le100 ra0_1) (RowF.mono le100 ra0_2)) (fun n' hn' => pf_nil hn'))) (fun n164 hn' dw => ?_); obtain ⟨v165, e166, hF⟩ := bnd_some hF
                refine y_flat st.d dw (fun hm vw => g_take hb160 (u_call (ct25 N e166 vw.d (vw.sub st) ) (fun n' hn' => pf_nil hn'))) (fun n167 hn' dw => ?_); refine y_end st.d dw rfl (fun h168 ex vs => ?_)
                have st := st.ext1 ex
                refine g_take hb160 (v_ner (b := (v49.1 == v165.1 && (v49.2.1 == v165.2 && true))) rfl ?_); refine v_pick' hb160 ?_; refine r_nil ?_; obtain rfl := inj hF; refine thn ⟨rfl, ?_⟩; dsimp only
                exact ⟨F81, rfl, (PH.le.refl _), st, gA, gA, gA, gA, gA, gA⟩
            · obtain ⟨F159, rfl, le159, st, t1, t3, t5, t8, t9, t85⟩ := hp
              have le169 := PH.le.trans le100 le159
              have le170 := PH.le.trans le101 le159
              have le171 := PH.le.trans le102 le159
              have le172 := PH.le.trans le103 le159
              have le173 := PH.le.trans le104 le159
              have le174 := PH.le.trans le81 le159
              refine v_cond (fun hb175 => ?_) (fun hb175 => ?_)
              · have hF := bif_t hb175 hF; refine w_seq ?_; refine w_reg ?_; refine v_move ?_; refine r_nil ?_; refine th_n ?_; refine w_ret ?_; obtain rfl := inj hF; have hF := hK142; have hF := sel_l hF; refine th_r ?_; obtain rfl := inj hF
                exact end_s st (Res.t gA Res.nil) rfl rfl
              · have hF := bif_f hb175 hF; refine w_skip ?_; obtain rfl := inj hF; refine thn ⟨rfl, _, rfl, ?_⟩; dsimp only
                exact ⟨F159, rfl, le159, st, gA, gA, gA, gA, gA⟩
          · obtain ⟨w145, rfl, F146, rfl, le146, st, t1, t3, t5, t8, t9⟩ := hp; have hF := sel_r hF
            have le182 := PH.le.trans le100 le146
            have le183 := PH.le.trans le101 le146
            have le184 := PH.le.trans le102 le146
            have le185 := PH.le.trans le103 le146
            have le186 := PH.le.trans le104 le146
            have le187 := PH.le.trans le81 le146
            refine w_seq ?_; refine w_seq ?_; refine w_reg ?_; refine v_ldn (vs := [(i64 a0_0), (.slice pa0_1 (a0_1).length ca0_1), (.slice pa0_2 (a0_2).length ca0_2), (i64 a0_3)]) (st.at (i := 0) rfl).2.2 rfl ?_; refine v_ldn (vs := [(.slice pa2_0 (a2_0).length ca2_0), (.slice pa2_1 (a2_1).length ca2_1)]) (st.at (i := 1) rfl).2.2 rfl ?_; obtain ⟨v188, e189, hF⟩ := bnd_some hF; refine v_call st (ct27 N e189 st.d st.sub (RowF.mono le182 ra0_1) (RowF.mono le182 ra0_2) (RowF.mono le182 ra2_0) (RowF.mono le182 ra2_1)) (fun n190 st => ?_); refine v_not ?_; refine r_nil ?_; refine th_n ?_; refine v_cond (fun hb191 => ?_) (fun hb191 => ?_)
            · have hF := bif_t hb191 hF; refine w_seq ?_; refine w_reg ?_; refine v_move ?_; refine v_eqi ?_; refine v_move ?_
              rcases Bool.eq_false_or_eq_true (decide (v37.2 = (2 : Int))) with hb192 | hb192
              · have hF := bif_t hb192 hF; refine g_take hb192 (v_move ?_); refine g_take hb192 (v_eqi ?_); refine v_pick hb192 ?_; refine v_move ?_
                rcases Bool.eq_false_or_eq_true (decide (v37.1 = (0 : Int))) with hb193 | hb193
                · have hF := bif_t hb193 hF; refine g_take hb193 (v_call st (ct_wakes (h := _) (nx := _)) (fun n194 st => ?_)); refine v_pick hb193 ?_; refine v_move ?_; refine r_nil ?_; refine th_n ?_; refine w_ret ?_; refine th_r ?_; obtain rfl := inj hF
                  exact end_s st (Res.t gA Res.nil) rfl rfl
                · have hF := bif_f hb193 hF; refine g_skip hb193 ?_; refine v_pick' hb193 ?_; refine v_move ?_; refine r_nil ?_; refine th_n ?_; refine w_ret ?_; refine th_r ?_; obtain rfl := inj hF
                  exact end_s st (Res.t gA Res.nil) rfl rfl
              · have hF := bif_f hb192 hF; refine g_skip hb192 ?_; refine g_skip hb192 ?_; refine v_pick' hb192 ?_; refine v_move ?_; refine g_skip rfl ?_; refine v_pick' rfl ?_; refine v_move ?_; refine r_nil ?_; refine th_n ?_; refine w_ret ?_; refine th_r ?_; obtain rfl := inj hF
                exact end_s st (Res.t gA Res.nil) rfl rfl
            · have hF := bif_f hb191 hF; refine w_skip ?_; refine th_n ?_; refine w_seq ?_; refine w_reg ?_; refine v_move ?_; refine v_eqi ?_; refine v_move ?_
              rcases Bool.eq_false_or_eq_true (decide (v37.2 = (0 : Int))) with hb195 | hb195
              · have hF := bif_t hb195 hF; refine g_take hb195 (v_move ?_); refine g_take hb195 (v_ldn (vs := [(i64 a0_0), (.slice pa0_1 (a0_1).length ca0_1), (.slice pa0_2 (a0_2).length ca0_2), (i64 a0_3)]) (st.at (i := 0) rfl).2.2 rfl ?_); refine g_take hb195 (v_move ?_); refine g_take hb195 (v_ldn (vs := [(.slice pa2_0 (a2_0).length ca2_0), (.slice pa2_1 (a2_1).length ca2_1)]) (st.at (i := 1) rfl).2.2 rfl ?_); obtain ⟨v196, e197, hF⟩ := bnd_some hF; refine g_take hb195 (v_call st (ct28 N e197 st.d st.sub (RowF.mono le182 ra0_1) (RowF.mono le182 ra0_2) (RowF.mono le182 ra2_0) (RowF.mono le182 ra2_1)) (fun n198 st => ?_)); refine g_take hb195 (v_eqi ?_); refine v_pick hb195 ?_; refine v_move ?_
                rcases Bool.eq_false_or_eq_true (decide (v37.1 = v196)) with hb199 | hb199
                · have hF := bif_t hb199 hF; refine g_take hb199 (v_call st (ct_wakes (h := _) (nx := _)) (fun n200 st => ?_)); refine v_pick hb199 ?_; refine v_move ?_; refine r_nil ?_; refine th_n ?_; refine w_ret ?_; obtain rfl := inj hF
                  exact end_s st (Res.t gA Res.nil) rfl rfl
                · have hF := bif_f hb199 hF; refine g_skip hb199 ?_; refine v_pick' hb199 ?_; refine v_move ?_; refine r_nil ?_; refine th_n ?_; refine w_ret ?_; obtain rfl := inj hF
                  exact end_s st (Res.t gA Res.nil) rfl rfl
              · have hF := bif_f hb195 hF; refine g_skip hb195 ?_; refine g_skip hb195 ?_; refine g_skip hb195 ?_; refine g_skip hb195 ?_; refine g_skip hb195 ?_; refine g_skip hb195 ?_; refine v_pick' hb195 ?_; refine v_move ?_; refine g_skip rfl ?_; refine v_pick' rfl ?_; refine v_move ?_; refine r_nil ?_; refine th_n ?_; refine w_ret ?_; obtain rfl := inj hF
                exact end_s st (Res.t gA Res.nil) rfl rfl
end Go.Hx.V

/- Functions of the program come to that. -/
namespace Go.Hx.V
open Go.Hx
set_option linter.unusedVariables false
set_option maxRecDepth 20000
set_option maxHeartbeats 4000000
attribute [local irreducible] W R C thenH inBlockH Tr.get Tr.set lo
end Go.Hx.V

/- Functions of the program come to that. -/
namespace Go.Hx.V
open Go.Hx
set_option linter.unusedVariables false
set_option maxRecDepth 20000
set_option maxHeartbeats 4000000
attribute [local irreducible] W R C thenH inBlockH Tr.get Tr.set lo
theorem ct9 (N : Nat) {a0_0 : Int} {a0_1 : (List (Int × Int))} {a0_2 : (List (Int × Int × Int))} {a0_3 : Int} {a1 : (List Int)} {r : Bool} (hF : sf9 N a0_0 a0_1 a0_2 a0_3 a1 = some r) {fl : Nat} {h0 : Tr HBlk} {n0 : Nat} {F0 : PH} (hd : D h0 n0) (hs : F0.sub h0) {pa0_1 : Option (Nat × Nat)} {ca0_1 : Nat} {pa0_2 : Option (Nat × Nat)} {ca0_2 : Nat} {pa1 : Option (Nat × Nat)} {ca1 : Nat} (ra0_1 : RowF (rP rI rI) 2 F0 pa0_1 ca0_1 a0_1) (ra0_2 : RowF (rP rI (rP rI rI)) 3 F0 pa0_2 ca0_2 a0_2) (ra1 : RowF (rK .u16) 1 F0 pa1 ca1 a1) : C LW fl 9 [(.agg [(i64 a0_0), (.slice pa0_1 (a0_1).length ca0_1), (.slice pa0_2 (a0_2).length ca0_2), (i64 a0_3)]), (.slice pa1 (a1).length ca1)] ⟨h0, n0⟩ (KS (.bool r) n0 h0) := by
  unfold sf9 at hF
  refine in_cT hd hs lw9 rfl rfl (by rfl) (fun st T hT => ?_)
  have hfl : n0 ≤ n0 := Nat.le_refl n0
  have t0 := hT 0 _ rfl
  have t1 := hT 1 _ rfl
  dsimp only [L9]
  refine w_seq ?_; refine w_reg ?_; refine v_box st (fun b1 h2 n3 st => ?_); refine v_move ?_; refine r_nil ?_; refine th_n ?_; obtain ⟨y24, hA25, hF⟩ := bnd_some hF; refine w_cutD (fun T ds30 h nx => ∃ u, y24 = (.inr u) ∧ ∃ (F30 : PH), ds30 = [] ∧ PH.le F0 F30 ∧ St n0 h0 F0 F30 h nx [.bx b1 [(i64 a0_0), (.slice pa0_1 (a0_1).length ca0_1), (.slice pa0_2 (a0_2).length ca0_2), (i64 a0_3)]] ∧ T.get 1 = some (.slice pa1 (a1).length ca1) ∧ T.get 2 = some (.ptr (some (b1, 0)))) ?_ (fun T ds30 h nx hp => ?_)
  · have hK26 := hF
    have hF := hA25; obtain ⟨y38, hA39, hF⟩ := bnd_some hF; refine w_cutD (fun T ds41 h nx => ∃ (F41 : PH), ds41 = [] ∧ PH.le F0 F41 ∧ St n0 h0 F0 F41 h nx [.bx b1 [(i64 a0_0), (.slice pa0_1 (a0_1).length ca0_1), (.slice pa0_2 (a0_2).length ca0_2), (i64 a0_3)]] ∧ T.get 1 = some (.slice pa1 (a1).length ca1) ∧ T.get 2 = some (.ptr (some (b1, 0))) ∧ T.get 21 = some (.bool y38)) ?_ (fun T ds41 h nx hp => ?_)
    · have hK40 := hF
      have hF := hA39; refine w_reg ?_; refine v_ldn (vs := [(i64 a0_0), (.slice pa0_1 (a0_1).length ca0_1), (.slice pa0_2 (a0_2).length ca0_2), (i64 a0_3)]) (st.at (i := 0) rfl).2.2 rfl ?_; obtain ⟨v42, e43, hF⟩ := bnd_some hF; refine v_call st (ct16 N e43 st.d st.sub ra0_1 ra0_2 RowF.nil RowF.nil) (fun n44 st => ?_); refine v_not ?_; refine v_move ?_
      rcases Bool.eq_false_or_eq_true (!v42) with hb45 | hb45
      · have hF := bif_t hb45 hF; refine g_skip hb45 ?_; refine g_skip hb45 ?_; refine g_skip hb45 ?_; refine v_pick hb45 ?_; refine r_nil ?_; obtain rfl := inj hF; refine thn ⟨rfl, ?_⟩; dsimp only
        exact ⟨F0, rfl, (PH.le.refl _), st, gA, gA, gA⟩
      · have hF := bif_f hb45 hF; refine g_take hb45 (v_ldn (vs := [(i64 a0_0), (.slice pa0_1 (a0_1).length ca0_1), (.slice pa0_2 (a0_2).length ca0_2), (i64 a0_3)]) (st.at (i := 0) rfl).2.2 rfl ?_); obtain ⟨v46, e47, hF⟩ := bnd_some hF; refine g_take hb45 (v_call st (ct23 N e47 st.d st.sub ra0_1 ra0_2) (fun n48 st => ?_)); refine g_take hb45 (v_nei ?_); refine v_pick' hb45 ?_; refine r_nil ?_; obtain rfl := inj hF; refine thn ⟨rfl, ?_⟩; dsimp only
        exact ⟨F0, rfl, (PH.le.refl _), st, gA, gA, gA⟩
    · obtain ⟨F41, rfl, le41, st, t1, t2, t21⟩ := hp; refine v_cond (fun hb49 => ?_) (fun hb49 => ?_)
      · have hF := bif_t hb49 hF; refine w_seq ?_; refine w_reg ?_; refine v_call st (ct_wakes (h := _) (nx := _)) (fun n50 st => ?_); refine v_move ?_; refine r_nil ?_; refine th_n ?_; refine w_ret ?_; obtain rfl := inj hF; have hF := hK26; have hF := sel_l hF; refine th_r ?_; obtain rfl := inj hF
        exact end_s st (Res.t gA Res.nil) rfl rfl
      · have hF := bif_f hb49 hF; refine w_skip ?_; obtain rfl := inj hF; refine thn ⟨rfl, _, rfl, ?_⟩; dsimp only
        exact ⟨F41, rfl, le41, st, gA, gA⟩
  · obtain ⟨w29, rfl, F30, rfl, le30, st, t1, t2⟩ := hp; have hF := sel_r hF; refine w_seq ?_; refine w_seq ?_; refine w_reg ?_; refine v_move ?_; refine r_nil ?_; refine th_n ?_; refine w_block ?_; obtain ⟨y259, hy, hF⟩ := bnd_some hF; refine v_loopD (sf9_L1 N a0_0 a0_1 a0_2 a0_3 a1) (fun x51 T ds52 h nx => ∃ (F52 : PH), ds52 = [] ∧ PH.le F30 F52 ∧ St n0 h0 F0 F52 h nx [.bx b1 [(i64 a0_0), (.slice pa0_1 (a0_1).length ca0_1), (.slice pa0_2 (a0_2).length ca0_2), (i64 a0_3)]] ∧ T.get 1 = some (.slice pa1 (a1).length ca1) ∧ T.get 2 = some (.ptr (some (b1, 0))) ∧ T.get 5 = some (i64 x51)) (fun y e a σ => (∃ u, y = (.inl u) ∧ e = .ret ∧ a.nt = 99 ∧ ∃ (F261 : PH), a.defers = [] ∧ PH.le F30 F261 ∧ St n0 h0 F0 F261 σ.h σ.nx [.bx b1 [(i64 a0_0), (.slice pa0_1 (a0_1).length ca0_1), (.slice pa0_2 (a0_2).length ca0_2), (i64 a0_3)]] ∧ a.tmps.get 4 = some (.bool false)) ∨ (∃ u, y = (.inr u) ∧ e = .exit 0 ∧ a.nt = 99 ∧ ∃ (F263 : PH), a.defers = [] ∧ PH.le F30 F263 ∧ St n0 h0 F0 F263 σ.h σ.nx [.bx b1 [(i64 a0_0), (.slice pa0_1 (a0_1).length ca0_1), (.slice pa0_2 (a0_2).length ca0_2), (i64 a0_3)]])) (fun x51 T ds52 h nx s hp hF => ?_) N _ y259 _ _ _ _ hy ⟨F30, rfl, (PH.le.refl _), st, gA, gA, gA⟩ (fun e a σ hne hq => ?_)
    · obtain ⟨F52, rfl, le52, st, t1, t2, t5⟩ := hp
      have le53 := PH.le.trans le30 le52
      unfold sf9_L1 at hF; unfold L9w0; refine w_seq ?_; refine w_seq ?_; refine w_reg ?_; refine v_move ?_; refine v_fa ?_; refine v_ld1 (st.at (i := 0) rfl).2.2 rfl ?_; refine v_leq ?_; refine r_nil ?_; refine th_n ?_; refine v_cond (fun hb264 => ?_) (fun hb264 => ?_)
      · have hF := bif_t hb264 hF; refine w_skip ?_; refine th_n ?_; refine w_seq ?_; refine w_block ?_; refine w_seq ?_; refine w_reg ?_; refine v_ldn (vs := [(i64 a0_0), (.slice pa0_1 (a0_1).length ca0_1), (.slice pa0_2 (a0_2).length ca0_2), (i64 a0_3)]) (st.at (i := 0) rfl).2.2 rfl ?_; obtain ⟨v265, e266, hF⟩ := bnd_some hF; refine v_callR st (ct19 N e266 st.d st.sub (Nat.le_trans hfl st.ext.le) (RowF.mono le53 ra0_1) (RowF.mono le53 ra0_2)) (fun u267 F267 h267 n267 le267 rv267 st => ?_)
        have le268 := PH.le.trans le53 le267
        have le269 := PH.le.trans le52 le267
        obtain ⟨_, rfl, ⟨_, _, rfl, rfl, ⟨_, _, rfl, ⟨py270, cy270, rfl, ry270⟩, ⟨_, _, rfl, ⟨py271, cy271, rfl, ry271⟩, rfl⟩⟩⟩⟩ := rv267; refine v_move ?_; obtain ⟨v272, e273, hF⟩ := bnd_some hF; refine v_call st (ct22 N e273 st.d st.sub ry270 ry271) (fun n274 st => ?_); refine v_move ?_; refine v_xt rfl ?_; refine v_xt rfl ?_; refine v_alloc st (fun b275 h276 n277 st => ?_); refine v_st (cs' := [(i64 v272.1), (i64 v272.2.1)]) st 1 rfl rfl rfl rfl hfl (fun h278 st => ?_); refine v_move ?_; refine r_nil ?_; refine th_n ?_; refine w_seq ?_; refine w_drawV (Nat.le_trans hfl st.ext.le) (fun dw => ?_)
        have wf := Wf.start st
        refine y_pure st.d dw (fun hm vw => v_ldn (vs := [(i64 a0_0), (.slice pa0_1 (a0_1).length ca0_1), (.slice pa0_2 (a0_2).length ca0_2), (i64 a0_3)]) (vw.bx (st.at (i := 0) rfl)) rfl pr_nil) ?_; obtain ⟨v279, e280, hF⟩ := bnd_some hF
        refine y_deep st dw wf (fun hm vw => u_callR (ct19 N e280 vw.d (FF.sub wf st vw) (Nat.max_le.2 ⟨by have := dw.le; have := st.ext.le; omega, Nat.le_refl _⟩) (RowF.mono (PH.le.trans le268 FF.base) ra0_1) (RowF.mono (PH.le.trans le268 FF.base) ra0_2)) (fun v F' h' n' ex l1 l2 l3 l4 => r_nil ⟨_, _, rfl, ex, l1, l2, l3, l4⟩)) (fun u281 F281 n281 done hn' dw281 wf281 rv281 le281 => ?_)
        have wf := wf281
        have dw := dw281
        obtain ⟨_, rfl, ⟨_, _, rfl, rfl, ⟨_, _, rfl, ⟨py282, cy282, rfl, ry282⟩, ⟨_, _, rfl, ⟨py283, cy283, rfl, ry283⟩, rfl⟩⟩⟩⟩ := rv281; refine y_pure st.d dw (fun hm vw => v_move pr_nil) ?_; refine y_pure st.d dw (fun hm vw => v_ldn (vs := [(i64 a0_0), (.slice pa0_1 (a0_1).length ca0_1), (.slice pa0_2 (a0_2).length ca0_2), (i64 a0_3)]) (vw.bx (st.at (i := 0) rfl)) rfl pr_nil) ?_; refine y_end st.d dw rfl (fun h284 ex vs => ?_)
        obtain ⟨F285, lt285, st⟩ := St.laidF st dw wf ex vs (Lay.nil (by have := dw.le; omega)) (fun e he => by cases he)
        have lz286 := lt285 _ (le281 (fun _ => true) rfl (fun _ _ => rfl))
        have lb285 := lt285 _ FF.base
        have le287 := PH.le.trans le268 lb285
        have le288 := PH.le.trans le269 lb285
        have le289 := PH.le.trans le267 lb285
        obtain ⟨v290, e291, hF⟩ := bnd_some hF; refine v_callR st (ct45 N e291 st.d st.sub (Nat.le_trans hfl st.ext.le) (RowF.mono le287 ra0_1) (RowF.mono le287 ra0_2)) (fun u292 F292 h292 n292 le292 rv292 st => ?_)
        have le293 := PH.le.trans le287 le292
        have le294 := PH.le.trans le288 le292
        have le295 := PH.le.trans le289 le292
        have le296 := PH.le.trans lb285 le292
        have le297 := PH.le.trans lz286 le292
        obtain ⟨_, rfl, ⟨_, _, rfl, ⟨py298, cy298, rfl, ry298⟩, ⟨py299, cy299, rfl, ry299⟩⟩⟩ := rv292; obtain ⟨v300, e301, hF⟩ := bnd_some hF; refine v_callR st (ct21 N e301 st.d st.sub (Nat.le_trans hfl st.ext.le) ry298 ry299) (fun u302 F302 h302 n302 le302 rv302 st => ?_)
        have le303 := PH.le.trans le293 le302
        have le304 := PH.le.trans le294 le302
        have le305 := PH.le.trans le295 le302
        have le306 := PH.le.trans le296 le302
        have le307 := PH.le.trans le297 le302
        have le308 := PH.le.trans le292 le302
        obtain ⟨_, rfl, ⟨_, _, rfl, ⟨py309, cy309, rfl, ry309⟩, ⟨py310, cy310, rfl, ry310⟩⟩⟩ := rv302; obtain ⟨v311, e312, hF⟩ := bnd_some hF; refine v_call st (ct20 N e312 st.d st.sub (RowF.mono le307 ry282) (RowF.mono le307 ry283) ry309 ry310) (fun n313 st => ?_); refine v_move ?_; refine v_xt rfl ?_; refine v_xt rfl ?_; refine v_move ?_; refine v_move ?_; refine r_nil ?_; refine th_n ?_; refine w_seq ?_; refine w_drawV (Nat.le_trans hfl st.ext.le) (fun dw => ?_)
        have wf := Wf.start st
        refine y_pure st.d dw (fun hm vw => v_ldn (vs := [(i64 a0_0), (.slice pa0_1 (a0_1).length ca0_1), (.slice pa0_2 (a0_2).length ca0_2), (i64 a0_3)]) (vw.bx (st.at (i := 0) rfl)) rfl pr_nil) ?_; obtain ⟨v314, e315, hF⟩ := bnd_some hF
        refine y_deep st dw wf (fun hm vw => u_callR (ct19 N e315 vw.d (FF.sub wf st vw) (Nat.max_le.2 ⟨by have := dw.le; have := st.ext.le; omega, Nat.le_refl _⟩) (RowF.mono (PH.le.trans le303 FF.base) ra0_1) (RowF.mono (PH.le.trans le303 FF.base) ra0_2)) (fun v F' h' n' ex l1 l2 l3 l4 => r_nil ⟨_, _, rfl, ex, l1, l2, l3, l4⟩)) (fun u316 F316 n316 done hn' dw316 wf316 rv316 le316 => ?_)
        have wf := wf316
        have dw := dw316
        obtain ⟨_, rfl, ⟨_, _, rfl, rfl, ⟨_, _, rfl, ⟨py317, cy317, rfl, ry317⟩, ⟨_, _, rfl, ⟨py318, cy318, rfl, ry318⟩, rfl⟩⟩⟩⟩ := rv316; refine y_pure st.d dw (fun hm vw => v_move pr_nil) ?_; refine y_pure st.d dw (fun hm vw => v_ldn (vs := [(i64 a0_0), (.slice pa0_1 (a0_1).length ca0_1), (.slice pa0_2 (a0_2).length ca0_2), (i64 a0_3)]) (vw.bx (st.at (i := 0) rfl)) rfl pr_nil) ?_; refine y_end st.d dw rfl (fun h319 ex vs => ?_)
        obtain ⟨F320, lt320, st⟩ := St.laidF st dw wf ex vs (Lay.nil (by have := dw.le; omega)) (fun e he => by cases he)
        have lz321 := lt320 _ (le316 (fun _ => true) rfl (fun _ _ => rfl))
        have lb320 := lt320 _ FF.base
        have le322 := PH.le.trans le303 lb320
        have le323 := PH.le.trans le304 lb320
        have le324 := PH.le.trans le305 lb320
        have le325 := PH.le.trans le306 lb320
        have le326 := PH.le.trans le307 lb320
        have le327 := PH.le.trans le308 lb320
        have le328 := PH.le.trans le302 lb320
        obtain ⟨v329, e330, hF⟩ := bnd_some hF; refine v_callR st (ct45 N e330 st.d st.sub (Nat.le_trans hfl st.ext.le) (RowF.mono le322 ra0_1) (RowF.mono le322 ra0_2)) (fun u331 F331 h331 n331 le331 rv331 st => ?_)
        have le332 := PH.le.trans le322 le331
        have le333 := PH.le.trans le323 le331
        have le334 := PH.le.trans le324 le331
        have le335 := PH.le.trans le325 le331
        have le336 := PH.le.trans le326 le331
        have le337 := PH.le.trans le327 le331
        have le338 := PH.le.trans le328 le331
        have le339 := PH.le.trans lb320 le331
        have le340 := PH.le.trans lz321 le331
        obtain ⟨_, rfl, ⟨_, _, rfl, ⟨py341, cy341, rfl, ry341⟩, ⟨py342, cy342, rfl, ry342⟩⟩⟩ := rv331; obtain ⟨v343, e344, hF⟩ := bnd_some hF; refine v_callR st (ct21 N e344 st.d st.sub (Nat.le_trans hfl st.ext.le) ry341 ry342) (fun u345 F345 h345 n345 le345 rv345 st => ?_)
        have le346 := PH.le.trans le332 le345
        have le347 := PH.le.trans le333 le345
        have le348 := PH.le.trans le334 le345
        have le349 := PH.le.trans le335 le345
        have le350 := PH.le.trans le336 le345
        have le351 := PH.le.trans le337 le345
        have le352 := PH.le.trans le338 le345
        have le353 := PH.le.trans le339 le345
        have le354 := PH.le.trans le340 le345
        have le355 := PH.le.trans le331 le345
        obtain ⟨_, rfl, ⟨_, _, rfl, ⟨py356, cy356, rfl, ry356⟩, ⟨py357, cy357, rfl, ry357⟩⟩⟩ := rv345; obtain ⟨v358, e359, hF⟩ := bnd_some hF; refine v_call st (ct20 N e359 st.d st.sub (RowF.mono le354 ry317) (RowF.mono le354 ry318) ry356 ry357) (fun n360 st => ?_); refine v_move ?_; refine v_xt rfl ?_; refine v_xt rfl ?_; refine v_move ?_; refine v_move ?_; refine r_nil ?_; refine th_n ?_; refine w_seq ?_; refine w_drawV (Nat.le_trans hfl st.ext.le) (fun dw => ?_)
        have wf := Wf.start st
        refine y_pure st.d dw (fun hm vw => v_ldn (vs := [(i64 a0_0), (.slice pa0_1 (a0_1).length ca0_1), (.slice pa0_2 (a0_2).length ca0_2), (i64 a0_3)]) (vw.bx (st.at (i := 0) rfl)) rfl pr_nil) ?_; obtain ⟨v361, e362, hF⟩ := bnd_some hF
        refine y_deep st dw wf (fun hm vw => u_callR (ct19 N e362 vw.d (FF.sub wf st vw) (Nat.max_le.2 ⟨by have := dw.le; have := st.ext.le; omega, Nat.le_refl _⟩) (RowF.mono (PH.le.trans le346 FF.base) ra0_1) (RowF.mono (PH.le.trans le346 FF.base) ra0_2)) (fun v F' h' n' ex l1 l2 l3 l4 => r_nil ⟨_, _, rfl, ex, l1, l2, l3, l4⟩)) (fun u363 F363 n363 done hn' dw363 wf363 rv363 le363 => ?_)
        have wf := wf363
        have dw := dw363
        obtain ⟨_, rfl, ⟨_, _, rfl, rfl, ⟨_, _, rfl, ⟨py364, cy364, rfl, ry364⟩, ⟨_, _, rfl, ⟨py365, cy365, rfl, ry365⟩, rfl⟩⟩⟩⟩ := rv363; refine y_pure st.d dw (fun hm vw => v_move pr_nil) ?_; refine y_pure st.d dw (fun hm vw => v_ldn (vs := [(i64 a0_0), (.slice pa0_1 (a0_1).length ca0_1), (.slice pa0_2 (a0_2).length ca0_2), (i64 a0_3)]) (vw.bx (st.at (i := 0) rfl)) rfl pr_nil) ?_; refine y_end st.d dw rfl (fun h366 ex vs => ?_)
        obtain ⟨F367, lt367, st⟩ := St.laidF st dw wf ex vs (Lay.nil (by have := dw.le; omega)) (fun e he => by cases he)
        have lz368 := lt367 _ (le363 (fun _ => true) rfl (fun _ _ => rfl))
        have lb367 := lt367 _ FF.base
        have le369 := PH.le.trans le346 lb367
        have le370 := PH.le.trans le347 lb367
        have le371 := PH.le.trans le348 lb367
        have le372 := PH.le.trans le349 lb367
        have le373 := PH.le.trans le350 lb367
        have le374 := PH.le.trans le351 lb367
        have le375 := PH.le.trans le352 lb367
        have le376 := PH.le.trans le353 lb367
        have le377 := PH.le.trans le354 lb367
        have le378 := PH.le.trans le355 lb367
        have le379 := PH.le.trans le345 lb367
        refine v_move ?_; obtain ⟨v380, e381, hF⟩ := bnd_some hF; refine v_callR st (ct44 N e381 st.d st.sub (Nat.le_trans hfl st.ext.le) (RowF.mono le369 ra0_1) (RowF.mono le369 ra0_2) (RowF.mono le369 ra1)) (fun u382 F382 h382 n382 le382 rv382 st => ?_)
        have le383 := PH.le.trans le369 le382
        have le384 := PH.le.trans le370 le382
        have le385 := PH.le.trans le371 le382
        have le386 := PH.le.trans le372 le382
        have le387 := PH.le.trans le373 le382
        have le388 := PH.le.trans le374 le382
        have le389 := PH.le.trans le375 le382
        have le390 := PH.le.trans le376 le382
        have le391 := PH.le.trans le377 le382
        have le392 := PH.le.trans le378 le382
        have le393 := PH.le.trans le379 le382
        have le394 := PH.le.trans lb367 le382
        have le395 := PH.le.trans lz368 le382
        obtain ⟨_, rfl, ⟨_, _, rfl, ⟨py396, cy396, rfl, ry396⟩, ⟨py397, cy397, rfl, ry397⟩⟩⟩ := rv382; obtain ⟨v398, e399, hF⟩ := bnd_some hF; refine v_callR st (ct21 N e399 st.d st.sub (Nat.le_trans hfl st.ext.le) ry396 ry397) (fun u400 F400 h400 n400 le400 rv400 st => ?_)
        have le401 := PH.le.trans le383 le400
        have le402 := PH.le.trans le384 le400
        have le403 := PH.le.trans le385 le400
        have le404 := PH.le.trans le386 le400
        have le405 := PH.le.trans le387 le400
        have le406 := PH.le.trans le388 le400
        have le407 := PH.le.trans le389 le400
        have le408 := PH.le.trans le390 le400
        have le409 := PH.le.trans le391 le400
        have le410 := PH.le.trans le392 le400
        have le411 := PH.le.trans le393 le400
        have le412 := PH.le.trans le394 le400
        have le413 := PH.le.trans le395 le400
        have le414 := PH.le.trans le382 le400
        obtain ⟨_, rfl, ⟨_, _, rfl, ⟨py415, cy415, rfl, ry415⟩, ⟨py416, cy416, rfl, ry416⟩⟩⟩ := rv400; obtain ⟨v417, e418, hF⟩ := bnd_some hF; refine v_call st (ct20 N e418 st.d st.sub (RowF.mono le413 ry364) (RowF.mono le413 ry365) ry415 ry416) (fun n419 st => ?_); refine v_move ?_; refine v_xt rfl ?_; refine v_xt rfl ?_; refine v_move ?_; refine v_move ?_; refine r_nil ?_; refine th_n ?_; obtain ⟨y434, hA435, hF⟩ := bnd_some hF; refine w_cutD (fun T ds437 h nx => ∃ (F437 : PH), ds437 = [] ∧ PH.le F400 F437 ∧ St n0 h0 F0 F437 h nx [.bx b1 [(i64 a0_0), (.slice pa0_1 (a0_1).length ca0_1), (.slice pa0_2 (a0_2).length ca0_2), (i64 a0_3)], .bx b275 [(i64 v272.1), (i64 v272.2.1)]] ∧ T.get 1 = some (.slice pa1 (a1).length ca1) ∧ T.get 2 = some (.ptr (some (b1, 0))) ∧ T.get 5 = some (i64 x51) ∧ T.get 97 = some (.bool y434)) ?_ (fun T ds437 h nx hp => ?_)
        · have hK436 := hF
          have hF := hA435; refine w_drawV (Nat.le_trans hfl st.ext.le) (fun dw => ?_); refine y_pure st.d dw (fun hm vw => v_move pr_nil) ?_; refine y_pure st.d dw (fun hm vw => v_nei pr_nil) ?_; refine y_pure st.d dw (fun hm vw => v_move pr_nil) ?_
          rcases Bool.eq_false_or_eq_true (!(decide (v272.2.2 = (0 : Int)))) with hb438 | hb438
          · have hF := bif_t hb438 hF; refine y_pure st.d dw (fun hm vw => g_skip hb438 pr_nil) ?_; refine y_pure st.d dw (fun hm vw => g_skip hb438 pr_nil) ?_; refine y_pure st.d dw (fun hm vw => v_pick hb438 pr_nil) ?_; refine y_pure st.d dw (fun hm vw => v_move pr_nil) ?_; refine y_pure st.d dw (fun hm vw => g_skip rfl pr_nil) ?_; refine y_pure st.d dw (fun hm vw => g_skip rfl pr_nil) ?_; refine y_pure st.d dw (fun hm vw => v_pick rfl pr_nil) ?_; refine y_pure st.d dw (fun hm vw => v_move pr_nil) ?_; refine y_pure st.d dw (fun hm vw => g_skip rfl pr_nil) ?_; refine y_pure st.d dw (fun hm vw => g_skip rfl pr_nil) ?_; refine y_pure st.d dw (fun hm vw => v_pick rfl pr_nil) ?_; refine y_pure st.d dw (fun hm vw => v_move pr_nil) ?_
            refine y_pure st.d dw (fun hm vw => g_skip rfl pr_nil) ?_; refine y_pure st.d dw (fun hm vw => g_skip rfl pr_nil) ?_; refine y_pure st.d dw (fun hm vw => g_skip rfl pr_nil) ?_; refine y_pure st.d dw (fun hm vw => g_skip rfl pr_nil) ?_; refine y_end st.d dw rfl (fun h439 ex vs => ?_)
            have st := st.ext1 ex
            refine g_skip rfl ?_; refine v_pick rfl ?_; refine v_move ?_; refine g_skip rfl ?_; refine g_skip rfl ?_; refine g_skip rfl ?_; refine v_pick rfl ?_; refine v_move ?_; refine g_skip rfl ?_; refine g_skip rfl ?_; refine g_skip rfl ?_; refine v_pick rfl ?_; refine r_nil ?_; obtain rfl := inj hF; refine thn ⟨rfl, ?_⟩; dsimp only
            exact ⟨F400, rfl, (PH.le.refl _), st, gA, gA, gA, gA⟩
          · have hF := bif_f hb438 hF; refine y_pure st.d dw (fun hm vw => g_take hb438 (v_move pr_nil)) ?_; refine y_pure st.d dw (fun hm vw => g_take hb438 (v_nei pr_nil)) ?_; refine y_pure st.d dw (fun hm vw => v_pick' hb438 pr_nil) ?_; refine y_pure st.d dw (fun hm vw => v_move pr_nil) ?_
            rcases Bool.eq_false_or_eq_true (!(decide (v311.2 = (0 : Int)))) with hb440 | hb440
            · have hF := bif_t hb440 hF; refine y_pure st.d dw (fun hm vw => g_skip hb440 pr_nil) ?_; refine y_pure st.d dw (fun hm vw => g_skip hb440 pr_nil) ?_; refine y_pure st.d dw (fun hm vw => v_pick hb440 pr_nil) ?_; refine y_pure st.d dw (fun hm vw => v_move pr_nil) ?_; refine y_pure st.d dw (fun hm vw => g_skip rfl pr_nil) ?_; refine y_pure st.d dw (fun hm vw => g_skip rfl pr_nil) ?_; refine y_pure st.d dw (fun hm vw => v_pick rfl pr_nil) ?_; refine y_pure st.d dw (fun hm vw => v_move pr_nil) ?_; refine y_pure st.d dw (fun hm vw => g_skip rfl pr_nil) ?_; refine y_pure st.d dw (fun hm vw => g_skip rfl pr_nil) ?_; refine y_pure st.d dw (fun hm vw => g_skip rfl pr_nil) ?_; refine y_pure st.d dw (fun hm vw => g_skip rfl pr_nil) ?_
              refine y_end st.d dw rfl (fun h441 ex vs => ?_)
              have st := st.ext1 ex
              refine g_skip rfl ?_; refine v_pick rfl ?_; refine v_move ?_; refine g_skip rfl ?_; refine g_skip rfl ?_; refine g_skip rfl ?_; refine v_pick rfl ?_; refine v_move ?_; refine g_skip rfl ?_; refine g_skip rfl ?_; refine g_skip rfl ?_; refine v_pick rfl ?_; refine r_nil ?_; obtain rfl := inj hF; refine thn ⟨rfl, ?_⟩; dsimp only
              exact ⟨F400, rfl, (PH.le.refl _), st, gA, gA, gA, gA⟩
            · have hF := bif_f hb440 hF; refine y_pure st.d dw (fun hm vw => g_take hb440 (v_move pr_nil)) ?_; refine y_pure st.d dw (fun hm vw => g_take hb440 (v_nei pr_nil)) ?_; refine y_pure st.d dw (fun hm vw => v_pick' hb440 pr_nil) ?_; refine y_pure st.d dw (fun hm vw => v_move pr_nil) ?_
              rcases Bool.eq_false_or_eq_true (!(decide (v358.2 = (0 : Int)))) with hb442 | hb442
              · have hF := bif_t hb442 hF; refine y_pure st.d dw (fun hm vw => g_skip hb442 pr_nil) ?_; refine y_pure st.d dw (fun hm vw => g_skip hb442 pr_nil) ?_; refine y_pure st.d dw (fun hm vw => v_pick hb442 pr_nil) ?_; refine y_pure st.d dw (fun hm vw => v_move pr_nil) ?_; refine y_pure st.d dw (fun hm vw => g_skip rfl pr_nil) ?_; refine y_pure st.d dw (fun hm vw => g_skip rfl pr_nil) ?_; refine y_pure st.d dw (fun hm vw => g_skip rfl pr_nil) ?_; refine y_pure st.d dw (fun hm vw => g_skip rfl pr_nil) ?_; refine y_end st.d dw rfl (fun h443 ex vs => ?_)
                have st := st.ext1 ex
                refine g_skip rfl ?_; refine v_pick rfl ?_; refine v_move ?_; refine g_skip rfl ?_; refine g_skip rfl ?_; refine g_skip rfl ?_; refine v_pick rfl ?_; refine v_move ?_; refine g_skip rfl ?_; refine g_skip rfl ?_; refine g_skip rfl ?_; refine v_pick rfl ?_; refine r_nil ?_; obtain rfl := inj hF; refine thn ⟨rfl, ?_⟩; dsimp only
                exact ⟨F400, rfl, (PH.le.refl _), st, gA, gA, gA, gA⟩
              · have hF := bif_f hb442 hF; refine y_pure st.d dw (fun hm vw => g_take hb442 (v_move pr_nil)) ?_; refine y_pure st.d dw (fun hm vw => g_take hb442 (v_nei pr_nil)) ?_; refine y_pure st.d dw (fun hm vw => v_pick' hb442 pr_nil) ?_; refine y_pure st.d dw (fun hm vw => v_move pr_nil) ?_
                rcases Bool.eq_false_or_eq_true (!(decide (v417.2 = (0 : Int)))) with hb444 | hb444
                · have hF := bif_t hb444 hF; refine y_pure st.d dw (fun hm vw => g_skip hb444 pr_nil) ?_; refine y_pure st.d dw (fun hm vw => g_skip hb444 pr_nil) ?_; refine y_pure st.d dw (fun hm vw => g_skip hb444 pr_nil) ?_; refine y_pure st.d dw (fun hm vw => g_skip hb444 pr_nil) ?_; refine y_end st.d dw rfl (fun h445 ex vs => ?_)
                  have st := st.ext1 ex
                  refine g_skip hb444 ?_; refine v_pick hb444 ?_; refine v_move ?_; refine g_skip rfl ?_; refine g_skip rfl ?_; refine g_skip rfl ?_; refine v_pick rfl ?_; refine v_move ?_; refine g_skip rfl ?_; refine g_skip rfl ?_; refine g_skip rfl ?_; refine v_pick rfl ?_; refine r_nil ?_; obtain rfl := inj hF; refine thn ⟨rfl, ?_⟩; dsimp only
                  exact ⟨F400, rfl, (PH.le.refl _), st, gA, gA, gA, gA⟩
                · have hF := bif_f hb444 hF; refine y_pure st.d dw (fun hm vw => g_take hb444 (v_ldn (vs := [(i64 v272.1), (i64 v272.2.1)]) (vw.bx (st.at (i := 1) rfl)) rfl pr_nil)) ?_; refine y_pure st.d dw (fun hm vw => g_take hb444 (v_move pr_nil)) ?_; refine y_pure st.d dw (fun hm vw => g_take hb444 (v_move pr_nil)) ?_; obtain ⟨v446, e447, hF⟩ := bnd_some hF; refine y_flat st.d dw (fun hm vw => g_take hb444 (u_call (ct33 N e447 vw.d (vw.sub st) ) (fun n' hn' => pf_nil hn'))) (fun n448 hn' dw => ?_); refine y_end st.d dw rfl (fun h449 ex vs => ?_)
                  have st := st.ext1 ex
                  refine g_take hb444 (v_ner (b := (v272.1 == v446.1 && (v272.2.1 == v446.2 && true))) rfl ?_); refine v_pick' hb444 ?_; refine v_move ?_
                  rcases Bool.eq_false_or_eq_true (!(v272.1 == v446.1 && (v272.2.1 == v446.2 && true))) with hb450 | hb450
                  · have hF := bif_t hb450 hF; refine g_skip hb450 ?_; refine g_skip hb450 ?_; refine g_skip hb450 ?_; refine v_pick hb450 ?_; refine v_move ?_; refine g_skip rfl ?_; refine g_skip rfl ?_; refine g_skip rfl ?_; refine v_pick rfl ?_; refine r_nil ?_; obtain rfl := inj hF; refine thn ⟨rfl, ?_⟩; dsimp only
                    exact ⟨F400, rfl, (PH.le.refl _), st, gA, gA, gA, gA⟩
                  · have hF := bif_f hb450 hF; refine g_take hb450 (v_move ?_); refine g_take hb450 (v_move ?_); refine g_take hb450 (v_lss ?_); refine v_pick' hb450 ?_; refine v_move ?_
                    rcases Bool.eq_false_or_eq_true (decide (v417.1 < v311.1)) with hb451 | hb451
                    · have hF := bif_t hb451 hF; refine g_skip hb451 ?_; refine g_skip hb451 ?_; refine g_skip hb451 ?_; refine v_pick hb451 ?_; refine r_nil ?_; obtain rfl := inj hF; refine thn ⟨rfl, ?_⟩; dsimp only
                      exact ⟨F400, rfl, (PH.le.refl _), st, gA, gA, gA, gA⟩
                    · have hF := bif_f hb451 hF; refine g_take hb451 (v_move ?_); refine g_take hb451 (v_move ?_); refine g_take hb451 (v_gtr ?_); refine v_pick' hb451 ?_; refine r_nil ?_; obtain rfl := inj hF; refine thn ⟨rfl, ?_⟩; dsimp only
                      exact ⟨F400, rfl, (PH.le.refl _), st, gA, gA, gA, gA⟩
        · obtain ⟨F437, rfl, le437, st, t1, t2, t5, t97⟩ := hp
          have le452 := PH.le.trans le401 le437
          have le453 := PH.le.trans le402 le437
          have le454 := PH.le.trans le403 le437
          have le455 := PH.le.trans le404 le437
          have le456 := PH.le.trans le405 le437
          have le457 := PH.le.trans le406 le437
          have le458 := PH.le.trans le407 le437
          have le459 := PH.le.trans le408 le437
          have le460 := PH.le.trans le409 le437
          have le461 := PH.le.trans le410 le437
          have le462 := PH.le.trans le411 le437
          have le463 := PH.le.trans le412 le437
          have le464 := PH.le.trans le413 le437
          have le465 := PH.le.trans le414 le437
          have le466 := PH.le.trans le400 le437
          refine v_cond (fun hb467 => ?_) (fun hb467 => ?_)
          · have hF := bif_t hb467 hF; refine w_seq ?_; refine w_reg ?_; refine v_move ?_; refine r_nil ?_; refine th_n ?_; refine w_ret ?_; refine ib_r ?_; refine th_r ?_; refine th_r ?_; refine ⟨_, (inj hF).symm, .inl ⟨_, rfl, rfl, rfl, ?_⟩⟩; dsimp only
            exact ⟨F437, rfl, le453, (st.drop (by first | exact List.Sublist.refl _ | (repeat first | exact List.nil_sublist _ | refine List.Sublist.cons_cons _ ?_ | refine List.Sublist.cons _ ?_))), gA⟩
          · have hF := bif_f hb467 hF; refine w_skip ?_; refine ib_n ?_; refine th_n ?_; refine w_reg ?_; refine v_move ?_; obtain ⟨q468, hF⟩ := ck_some hF; refine v_add q468 ?_; refine v_move ?_; refine r_nil ?_; refine thn ⟨_, (inj hF).symm, rfl, ?_⟩; dsimp only
            exact ⟨F437, rfl, le453, (st.drop (by first | exact List.Sublist.refl _ | (repeat first | exact List.nil_sublist _ | refine List.Sublist.cons_cons _ ?_ | refine List.Sublist.cons _ ?_))), gA, gA, gA⟩
      · have hF := bif_f hb264 hF; refine w_exit ?_; refine th_e ?_; refine th_e ?_; refine ⟨_, (inj hF).symm, .inr (⟨_, rfl, rfl, rfl, ?_⟩)⟩; dsimp only
        exact ⟨F52, rfl, le52, st⟩
    · rcases hq with hq | hq
      · obtain ⟨N9, T, ds261⟩ := a; obtain ⟨h470, n471⟩ := σ; obtain ⟨w260, rfl, rfl, e1, F261, e2, le261, st, t4⟩ := hq
        dsimp only at e1 e2
        subst e1
        subst e2
        dsimp only at st t4
        have le469 := PH.le.trans le30 le261
        have hF := sel_l hF; refine ib_r ?_; refine th_r ?_; obtain rfl := inj hF
        exact end_s st (Res.t gA Res.nil) rfl rfl
      · obtain ⟨N9, T, ds263⟩ := a; obtain ⟨h473, n474⟩ := σ; obtain ⟨w262, rfl, rfl, e1, F263, e2, le263, st⟩ := hq
        dsimp only at e1 e2
        subst e1
        subst e2
        dsimp only at st
        have le472 := PH.le.trans le30 le263
        have hF := sel_r hF; refine ib_e ?_; refine th_n ?_; refine w_seq ?_; refine w_reg ?_; refine v_call st (ct_wakes (h := _) (nx := _)) (fun n475 st => ?_); refine v_move ?_; refine r_nil ?_; refine th_n ?_; refine w_ret ?_; obtain rfl := inj hF
        exact end_s st (Res.t gA Res.nil) rfl rfl
end Go.Hx.V

/- Functions of the program come to that. -/
namespace Go.Hx.V
open Go.Hx
set_option linter.unusedVariables false
set_option maxRecDepth 20000
set_option maxHeartbeats 4000000
attribute [local irreducible] W R C thenH inBlockH Tr.get Tr.set lo
theorem ct13 (N : Nat) {a0_0 : Int} {a0_1 : (List (Int × Int))} {a0_2 : (List (Int × Int × Int))} {a0_3 : Int} {a1 : (List Int)} {a2 : Int} {a3 : Int} {r : Bool} (hF : sf13 N a0_0 a0_1 a0_2 a0_3 a1 a2 a3 = some r) {fl : Nat} {h0 : Tr HBlk} {n0 : Nat} {F0 : PH} (hd : D h0 n0) (hs : F0.sub h0) {pa0_1 : Option (Nat × Nat)} {ca0_1 : Nat} {pa0_2 : Option (Nat × Nat)} {ca0_2 : Nat} {pa1 : Option (Nat × Nat)} {ca1 : Nat} (ra0_1 : RowF (rP rI rI) 2 F0 pa0_1 ca0_1 a0_1) (ra0_2 : RowF (rP rI (rP rI rI)) 3 F0 pa0_2 ca0_2 a0_2) (ra1 : RowF (rK .u16) 1 F0 pa1 ca1 a1) : C LW fl 13 [(.agg [(i64 a0_0), (.slice pa0_1 (a0_1).length ca0_1), (.slice pa0_2 (a0_2).length ca0_2), (i64 a0_3)]), (.slice pa1 (a1).length ca1), (.int .u8 a2), (.int .u8 a3)] ⟨h0, n0⟩ (KS (.bool r) n0 h0) := by
  unfold sf13 at hF
  refine in_cT hd hs lw13 rfl rfl (by rfl) (fun st T hT => ?_)
  have hfl : n0 ≤ n0 := Nat.le_refl n0
  have t0 := hT 0 _ rfl
  have t1 := hT 1 _ rfl
  have t2 := hT 2 _ rfl
  have t3 := hT 3 _ rfl
  dsimp only [L13]
  refine w_seq ?_; refine w_reg ?_; refine v_box st (fun b1 h2 n3 st => ?_); refine v_move ?_; refine r_nil ?_; refine th_n ?_; obtain ⟨y26, hA27, hF⟩ := bnd_some hF; refine w_cutD (fun T ds32 h nx => ∃ u, y26 = (.inr u) ∧ ∃ (F32 : PH), ds32 = [] ∧ PH.le F0 F32 ∧ St n0 h0 F0 F32 h nx [.bx b1 [(i64 a0_0), (.slice pa0_1 (a0_1).length ca0_1), (.slice pa0_2 (a0_2).length ca0_2), (i64 a0_3)]] ∧ T.get 1 = some (.slice pa1 (a1).length ca1) ∧ T.get 2 = some (.int .u8 a2) ∧ T.get 3 = some (.int .u8 a3) ∧ T.get 4 = some (.ptr (some (b1, 0)))) ?_ (fun T ds32 h nx hp => ?_)
  · have hK28 := hF
    have hF := hA27; obtain ⟨y41, hA42, hF⟩ := bnd_some hF; refine w_cutD (fun T ds44 h nx => ∃ (F44 : PH), ds44 = [] ∧ PH.le F0 F44 ∧ St n0 h0 F0 F44 h nx [.bx b1 [(i64 a0_0), (.slice pa0_1 (a0_1).length ca0_1), (.slice pa0_2 (a0_2).length ca0_2), (i64 a0_3)]] ∧ T.get 1 = some (.slice pa1 (a1).length ca1) ∧ T.get 2 = some (.int .u8 a2) ∧ T.get 3 = some (.int .u8 a3) ∧ T.get 4 = some (.ptr (some (b1, 0))) ∧ T.get 36 = some (.bool y41)) ?_ (fun T ds44 h nx hp => ?_)
    · have hK43 := hF
      have hF := hA42; refine w_reg ?_; refine v_ldn (vs := [(i64 a0_0), (.slice pa0_1 (a0_1).length ca0_1), (.slice pa0_2 (a0_2).length ca0_2), (i64 a0_3)]) (st.at (i := 0) rfl).2.2 rfl ?_; obtain ⟨v45, e46, hF⟩ := bnd_some hF; refine v_call st (ct16 N e46 st.d st.sub ra0_1 ra0_2 RowF.nil RowF.nil) (fun n47 st => ?_); refine v_not ?_; refine v_move ?_
      rcases Bool.eq_false_or_eq_true (!v45) with hb48 | hb48
      · have hF := bif_t hb48 hF; refine g_skip hb48 ?_; refine g_skip hb48 ?_; refine g_skip hb48 ?_; refine v_pick hb48 ?_; refine v_move ?_; refine g_skip rfl ?_; refine g_skip rfl ?_; refine g_skip rfl ?_; refine g_skip rfl ?_; refine g_skip rfl ?_; refine g_skip rfl ?_; refine v_pick rfl ?_; refine r_nil ?_; obtain rfl := inj hF; refine thn ⟨rfl, ?_⟩; dsimp only
        exact ⟨F0, rfl, (PH.le.refl _), st, gA, gA, gA, gA, gA⟩
      · have hF := bif_f hb48 hF; refine g_take hb48 (v_ldn (vs := [(i64 a0_0), (.slice pa0_1 (a0_1).length ca0_1), (.slice pa0_2 (a0_2).length ca0_2), (i64 a0_3)]) (st.at (i := 0) rfl).2.2 rfl ?_); obtain ⟨v49, e50, hF⟩ := bnd_some hF; refine g_take hb48 (v_call st (ct23 N e50 st.d st.sub ra0_1 ra0_2) (fun n51 st => ?_)); refine g_take hb48 (v_nei ?_); refine v_pick' hb48 ?_; refine v_move ?_
        rcases Bool.eq_false_or_eq_true (!(decide (v49 = (0 : Int)))) with hb52 | hb52
        · have hF := bif_t hb52 hF; refine g_skip hb52 ?_; refine g_skip hb52 ?_; refine g_skip hb52 ?_; refine g_skip hb52 ?_; refine g_skip hb52 ?_; refine g_skip hb52 ?_; refine v_pick hb52 ?_; refine r_nil ?_; obtain rfl := inj hF; refine thn ⟨rfl, ?_⟩; dsimp only
          exact ⟨F0, rfl, (PH.le.refl _), st, gA, gA, gA, gA, gA⟩
        · have hF := bif_f hb52 hF; refine g_take hb52 (v_fa ?_); refine g_take hb52 (v_ld1 (st.at (i := 0) rfl).2.2 rfl ?_); refine g_take hb52 (v_fa ?_); refine g_take hb52 (v_ld1 (st.at (i := 0) rfl).2.2 rfl ?_); refine g_take hb52 (v_len ?_); refine g_take hb52 (v_lss ?_); refine v_pick' hb52 ?_; refine r_nil ?_; obtain rfl := inj hF; refine thn ⟨rfl, ?_⟩; dsimp only
          exact ⟨F0, rfl, (PH.le.refl _), st, gA, gA, gA, gA, gA⟩
    · obtain ⟨F44, rfl, le44, st, t1, t2, t3, t4, t36⟩ := hp; refine v_cond (fun hb53 => ?_) (fun hb53 => ?_)
      · have hF := bif_t hb53 hF; refine w_seq ?_; refine w_reg ?_; refine v_call st (ct_wakes (h := _) (nx := _)) (fun n54 st => ?_); refine v_move ?_; refine r_nil ?_; refine th_n ?_; refine w_ret ?_; obtain rfl := inj hF; have hF := hK28; have hF := sel_l hF; refine th_r ?_; obtain rfl := inj hF
        exact end_s st (Res.t gA Res.nil) rfl rfl
      · have hF := bif_f hb53 hF; refine w_skip ?_; obtain rfl := inj hF; refine thn ⟨rfl, _, rfl, ?_⟩; dsimp only
        exact ⟨F44, rfl, le44, st, gA, gA, gA, gA⟩
  · obtain ⟨w31, rfl, F32, rfl, le32, st, t1, t2, t3, t4⟩ := hp; have hF := sel_r hF; refine w_seq ?_; refine w_reg ?_; refine v_fa ?_; refine v_ld1 (st.at (i := 0) rfl).2.2 rfl ?_; refine v_len ?_; refine v_move ?_; refine r_nil ?_; refine th_n ?_; refine w_seq ?_; refine w_drawV (Nat.le_trans hfl st.ext.le) (fun dw => ?_); refine y_pure st.d dw (fun hm vw => v_move pr_nil) ?_; obtain ⟨q55, hF⟩ := ck_some hF; refine y_pure st.d dw (fun hm vw => v_conv q55 pr_nil) ?_; refine y_pure st.d dw (fun hm vw => v_fa pr_nil) ?_; refine y_pure st.d dw (fun hm vw => v_ld1 (vw.bx (st.at (i := 0) rfl)) rfl pr_nil) ?_; refine y_pure st.d dw (fun hm vw => v_move pr_nil) ?_; obtain ⟨q56, hF⟩ := ck_some hF; refine y_pure st.d dw (fun hm vw => v_sub q56 pr_nil) ?_
    obtain ⟨q57, hF⟩ := ck_some hF; refine y_pure st.d dw (fun hm vw => v_add q57 pr_nil) ?_; obtain ⟨q58, hF⟩ := ck_some hF; refine y_pure st.d dw (fun hm vw => v_rem q58 pr_nil) ?_; refine y_pure st.d dw (fun hm vw => v_move pr_nil) ?_; obtain ⟨q59, hF⟩ := ck_some hF; refine y_pure st.d dw (fun hm vw => v_conv q59 pr_nil) ?_; refine y_pure st.d dw (fun hm vw => v_fa pr_nil) ?_; refine y_pure st.d dw (fun hm vw => v_ld1 (vw.bx (st.at (i := 0) rfl)) rfl pr_nil) ?_; refine y_end st.d dw rfl (fun h60 ex vs => ?_)
    have st := st.ext1 ex
    refine v_move ?_; obtain ⟨q61, hF⟩ := ck_some hF; refine v_sub q61 ?_; obtain ⟨q62, hF⟩ := ck_some hF; refine v_add q62 ?_; obtain ⟨q63, hF⟩ := ck_some hF; refine v_rem q63 ?_; refine v_move ?_; refine v_move ?_; refine r_nil ?_; refine th_n ?_; obtain ⟨y125, hA126, hF⟩ := bnd_some hF; refine w_cutD (fun T ds131 h nx => ∃ u, y125 = (.inr u) ∧ ∃ (F131 : PH), ds131 = [] ∧ PH.le F32 F131 ∧ St n0 h0 F0 F131 h nx [.bx b1 [(i64 a0_0), (.slice pa0_1 (a0_1).length ca0_1), (.slice pa0_2 (a0_2).length ca0_2), (i64 a0_3)]] ∧ T.get 1 = some (.slice pa1 (a1).length ca1) ∧ T.get 4 = some (.ptr (some (b1, 0))) ∧ T.get 9 = some (i64 ((a0_1).length : Int)) ∧ T.get 10 = some (i64 (Int.tmod a2 ((a0_3 - ((a0_1).length : Int)) + (1 : Int)))) ∧ T.get 11 = some (i64 (Int.tmod a3 ((a0_3 - ((a0_1).length : Int)) + (1 : Int))))) ?_ (fun T ds131 h nx hp => ?_)
    · have hK127 := hF
      have hF := hA126; obtain ⟨y159, hA160, hF⟩ := bnd_some hF; refine w_cutD (fun T ds162 h nx => ∃ (F162 : PH), ds162 = [] ∧ PH.le F32 F162 ∧ St n0 h0 F0 F162 h nx [.bx b1 [(i64 a0_0), (.slice pa0_1 (a0_1).length ca0_1), (.slice pa0_2 (a0_2).length ca0_2), (i64 a0_3)]] ∧ T.get 1 = some (.slice pa1 (a1).length ca1) ∧ T.get 4 = some (.ptr (some (b1, 0))) ∧ T.get 9 = some (i64 ((a0_1).length : Int)) ∧ T.get 10 = some (i64 (Int.tmod a2 ((a0_3 - ((a0_1).length : Int)) + (1 : Int)))) ∧ T.get 11 = some (i64 (Int.tmod a3 ((a0_3 - ((a0_1).length : Int)) + (1 : Int)))) ∧ T.get 87 = some (.bool y159)) ?_ (fun T ds162 h nx hp => ?_)
      · have hK161 := hF
        have hF := hA160; refine w_drawV (Nat.le_trans hfl st.ext.le) (fun dw => ?_); refine y_pure st.d dw (fun hm vw => v_ldn (vs := [(i64 a0_0), (.slice pa0_1 (a0_1).length ca0_1), (.slice pa0_2 (a0_2).length ca0_2), (i64 a0_3)]) (vw.bx (st.at (i := 0) rfl)) rfl pr_nil) ?_; refine y_pure st.d dw (fun hm vw => v_move pr_nil) ?_; obtain ⟨v163, e164, hF⟩ := bnd_some hF; refine y_flat st.d dw (fun hm vw => u_call (ct49 N e164 vw.d (vw.sub st) (RowF.mono le32 ra0_1) (RowF.mono le32 ra0_2)) (fun n' hn' => pf_nil hn')) (fun n165 hn' dw => ?_); refine y_pure st.d dw (fun hm vw => v_ldn (vs := [(i64 a0_0), (.slice pa0_1 (a0_1).length ca0_1), (.slice pa0_2 (a0_2).length ca0_2), (i64 a0_3)]) (vw.bx (st.at (i := 0) rfl)) rfl pr_nil) ?_
        refine y_pure st.d dw (fun hm vw => v_move pr_nil) ?_; refine y_pure st.d dw (fun hm vw => v_move pr_nil) ?_; obtain ⟨q166, hF⟩ := ck_some hF; refine y_pure st.d dw (fun hm vw => v_add q166 pr_nil) ?_; obtain ⟨q167, hF⟩ := ck_some hF; refine y_pure st.d dw (fun hm vw => v_sub q167 pr_nil) ?_; obtain ⟨v168, e169, hF⟩ := bnd_some hF; refine y_flat st.d dw (fun hm vw => u_call (ct49 N e169 vw.d (vw.sub st) (RowF.mono le32 ra0_1) (RowF.mono le32 ra0_2)) (fun n' hn' => pf_nil hn')) (fun n170 hn' dw => ?_); refine y_pure st.d dw (fun hm vw => v_nei pr_nil) ?_; refine y_pure st.d dw (fun hm vw => v_move pr_nil) ?_
        rcases Bool.eq_false_or_eq_true (!(decide (v163 = v168))) with hb171 | hb171
        · have hF := bif_t hb171 hF; refine y_pure st.d dw (fun hm vw => g_skip hb171 pr_nil) ?_; refine y_pure st.d dw (fun hm vw => g_skip hb171 pr_nil) ?_; refine y_pure st.d dw (fun hm vw => g_skip hb171 pr_nil) ?_; refine y_pure st.d dw (fun hm vw => g_skip hb171 pr_nil) ?_; refine y_pure st.d dw (fun hm vw => g_skip hb171 pr_nil) ?_; refine y_pure st.d dw (fun hm vw => g_skip hb171 pr_nil) ?_; refine y_pure st.d dw (fun hm vw => g_skip hb171 pr_nil) ?_; refine y_pure st.d dw (fun hm vw => g_skip hb171 pr_nil) ?_; refine y_pure st.d dw (fun hm vw => g_skip hb171 pr_nil) ?_; refine y_pure st.d dw (fun hm vw => g_skip hb171 pr_nil) ?_; refine y_pure st.d dw (fun hm vw => v_pick hb171 pr_nil) ?_
          refine y_pure st.d dw (fun hm vw => v_move pr_nil) ?_; refine y_pure st.d dw (fun hm vw => g_skip rfl pr_nil) ?_; refine y_pure st.d dw (fun hm vw => g_skip rfl pr_nil) ?_; refine y_pure st.d dw (fun hm vw => g_skip rfl pr_nil) ?_; refine y_pure st.d dw (fun hm vw => g_skip rfl pr_nil) ?_; refine y_end st.d dw rfl (fun h172 ex vs => ?_)
          have st := st.ext1 ex
          refine g_skip rfl ?_; refine g_skip rfl ?_; refine g_skip rfl ?_; refine v_pick rfl ?_; refine r_nil ?_; obtain rfl := inj hF; refine thn ⟨rfl, ?_⟩; dsimp only
          exact ⟨F32, rfl, (PH.le.refl _), st, gA, gA, gA, gA, gA, gA⟩
        · have hF := bif_f hb171 hF; refine y_pure st.d dw (fun hm vw => g_take hb171 (v_ldn (vs := [(i64 a0_0), (.slice pa0_1 (a0_1).length ca0_1), (.slice pa0_2 (a0_2).length ca0_2), (i64 a0_3)]) (vw.bx (st.at (i := 0) rfl)) rfl pr_nil)) ?_; refine y_pure st.d dw (fun hm vw => g_take hb171 (v_move pr_nil)) ?_; obtain ⟨v173, e174, hF⟩ := bnd_some hF; refine y_flat st.d dw (fun hm vw => g_take hb171 (u_call (ct49 N e174 vw.d (vw.sub st) (RowF.mono le32 ra0_1) (RowF.mono le32 ra0_2)) (fun n' hn' => pf_nil hn'))) (fun n175 hn' dw => ?_); refine y_pure st.d dw (fun hm vw => g_take hb171 (v_ldn (vs := [(i64 a0_0), (.slice pa0_1 (a0_1).length ca0_1), (.slice pa0_2 (a0_2).length ca0_2), (i64 a0_3)]) (vw.bx (st.at (i := 0) rfl)) rfl pr_nil)) ?_
          refine y_pure st.d dw (fun hm vw => g_take hb171 (v_move pr_nil)) ?_; refine y_pure st.d dw (fun hm vw => g_take hb171 (v_move pr_nil)) ?_; obtain ⟨q176, hF⟩ := ck_some hF; refine y_pure st.d dw (fun hm vw => g_take hb171 (v_add q176 pr_nil)) ?_; obtain ⟨q177, hF⟩ := ck_some hF; refine y_pure st.d dw (fun hm vw => g_take hb171 (v_sub q177 pr_nil)) ?_; obtain ⟨v178, e179, hF⟩ := bnd_some hF; refine y_flat st.d dw (fun hm vw => g_take hb171 (u_call (ct49 N e179 vw.d (vw.sub st) (RowF.mono le32 ra0_1) (RowF.mono le32 ra0_2)) (fun n' hn' => pf_nil hn'))) (fun n180 hn' dw => ?_); refine y_pure st.d dw (fun hm vw => g_take hb171 (v_nei pr_nil)) ?_; refine y_pure st.d dw (fun hm vw => v_pick' hb171 pr_nil) ?_
          refine y_pure st.d dw (fun hm vw => v_move pr_nil) ?_
          rcases Bool.eq_false_or_eq_true (!(decide (v173 = v178))) with hb181 | hb181
          · have hF := bif_t hb181 hF; refine y_pure st.d dw (fun hm vw => g_skip hb181 pr_nil) ?_; refine y_pure st.d dw (fun hm vw => g_skip hb181 pr_nil) ?_; refine y_pure st.d dw (fun hm vw => g_skip hb181 pr_nil) ?_; refine y_pure st.d dw (fun hm vw => g_skip hb181 pr_nil) ?_; refine y_end st.d dw rfl (fun h182 ex vs => ?_)
            have st := st.ext1 ex
            refine g_skip hb181 ?_; refine g_skip hb181 ?_; refine g_skip hb181 ?_; refine v_pick hb181 ?_; refine r_nil ?_; obtain rfl := inj hF; refine thn ⟨rfl, ?_⟩; dsimp only
            exact ⟨F32, rfl, (PH.le.refl _), st, gA, gA, gA, gA, gA, gA⟩
          · have hF := bif_f hb181 hF; refine y_pure st.d dw (fun hm vw => g_take hb181 (v_ldn (vs := [(i64 a0_0), (.slice pa0_1 (a0_1).length ca0_1), (.slice pa0_2 (a0_2).length ca0_2), (i64 a0_3)]) (vw.bx (st.at (i := 0) rfl)) rfl pr_nil)) ?_; refine y_pure st.d dw (fun hm vw => g_take hb181 (v_move pr_nil)) ?_; obtain ⟨v183, e184, hF⟩ := bnd_some hF; refine y_flat st.d dw (fun hm vw => g_take hb181 (u_call (ct49 N e184 vw.d (vw.sub st) (RowF.mono le32 ra0_1) (RowF.mono le32 ra0_2)) (fun n' hn' => pf_nil hn'))) (fun n185 hn' dw => ?_); refine y_pure st.d dw (fun hm vw => g_take hb181 (v_ldn (vs := [(i64 a0_0), (.slice pa0_1 (a0_1).length ca0_1), (.slice pa0_2 (a0_2).length ca0_2), (i64 a0_3)]) (vw.bx (st.at (i := 0) rfl)) rfl pr_nil)) ?_
            refine y_end st.d dw rfl (fun h186 ex vs => ?_)
            have st := st.ext1 ex
            refine g_take hb181 (v_move ?_); obtain ⟨v187, e188, hF⟩ := bnd_some hF; refine g_take hb181 (v_call st (ct49 N e188 st.d st.sub (RowF.mono le32 ra0_1) (RowF.mono le32 ra0_2)) (fun n189 st => ?_)); refine g_take hb181 (v_nei ?_); refine v_pick' hb181 ?_; refine r_nil ?_; obtain rfl := inj hF; refine thn ⟨rfl, ?_⟩; dsimp only
            exact ⟨F32, rfl, (PH.le.refl _), st, gA, gA, gA, gA, gA, gA⟩
      · obtain ⟨F162, rfl, le162, st, t1, t4, t9, t10, t11, t87⟩ := hp
        have le190 := PH.le.trans le32 le162
        refine v_cond (fun hb191 => ?_) (fun hb191 => ?_)
        · have hF := bif_t hb191 hF; refine w_seq ?_; refine w_reg ?_; refine v_call st (ct_wakes (h := _) (nx := _)) (fun n192 st => ?_); refine v_move ?_; refine r_nil ?_; refine th_n ?_; refine w_ret ?_; obtain rfl := inj hF; have hF := hK127; have hF := sel_l hF; refine th_r ?_; obtain rfl := inj hF
          exact end_s st (Res.t gA Res.nil) rfl rfl
        · have hF := bif_f hb191 hF; refine w_skip ?_; obtain rfl := inj hF; refine thn ⟨rfl, _, rfl, ?_⟩; dsimp only
          exact ⟨F162, rfl, le162, st, gA, gA, gA, gA, gA⟩
    · obtain ⟨w130, rfl, F131, rfl, le131, st, t1, t4, t9, t10, t11⟩ := hp; have hF := sel_r hF
      have le194 := PH.le.trans le32 le131
      refine w_seq ?_; refine w_reg ?_; refine v_ldn (vs := [(i64 a0_0), (.slice pa0_1 (a0_1).length ca0_1), (.slice pa0_2 (a0_2).length ca0_2), (i64 a0_3)]) (st.at (i := 0) rfl).2.2 rfl ?_; refine v_move ?_; obtain ⟨v195, e196, hF⟩ := bnd_some hF; refine v_callR st (ct44 N e196 st.d st.sub (Nat.le_trans hfl st.ext.le) (RowF.mono le194 ra0_1) (RowF.mono le194 ra0_2) (RowF.mono le194 ra1)) (fun u197 F197 h197 n197 le197 rv197 st => ?_)
      have le198 := PH.le.trans le194 le197
      have le199 := PH.le.trans le131 le197
      obtain ⟨_, rfl, ⟨_, _, rfl, ⟨py200, cy200, rfl, ry200⟩, ⟨py201, cy201, rfl, ry201⟩⟩⟩ := rv197; refine v_alloc st (fun b202 h203 n204 st => ?_); refine v_st (cs' := [(.slice py200 (v195.1).length cy200), (.slice py201 (v195.2).length cy201)]) st 1 rfl rfl rfl rfl hfl (fun h205 st => ?_); refine r_nil ?_; refine th_n ?_; refine w_seq ?_; refine w_drawV (Nat.le_trans hfl st.ext.le) (fun dw => ?_)
      have wf := Wf.start st
      refine y_pure st.d dw (fun hm vw => v_ldn (vs := [(i64 a0_0), (.slice pa0_1 (a0_1).length ca0_1), (.slice pa0_2 (a0_2).length ca0_2), (i64 a0_3)]) (vw.bx (st.at (i := 0) rfl)) rfl pr_nil) ?_; obtain ⟨v206, e207, hF⟩ := bnd_some hF
      refine y_deep st dw wf (fun hm vw => u_callR (ct19 N e207 vw.d (FF.sub wf st vw) (Nat.max_le.2 ⟨by have := dw.le; have := st.ext.le; omega, Nat.le_refl _⟩) (RowF.mono (PH.le.trans le198 FF.base) ra0_1) (RowF.mono (PH.le.trans le198 FF.base) ra0_2)) (fun v F' h' n' ex l1 l2 l3 l4 => r_nil ⟨_, _, rfl, ex, l1, l2, l3, l4⟩)) (fun u208 F208 n208 done hn' dw208 wf208 rv208 le208 => ?_)
      have wf := wf208
      have dw := dw208
      obtain ⟨_, rfl, ⟨_, _, rfl, rfl, ⟨_, _, rfl, ⟨py209, cy209, rfl, ry209⟩, ⟨_, _, rfl, ⟨py210, cy210, rfl, ry210⟩, rfl⟩⟩⟩⟩ := rv208; refine y_pure st.d dw (fun hm vw => v_move pr_nil) ?_; refine y_pure st.d dw (fun hm vw => v_ldn (vs := [(.slice py200 (v195.1).length cy200), (.slice py201 (v195.2).length cy201)]) (vw.bx (st.at (i := 1) rfl)) rfl pr_nil) ?_; refine y_end st.d dw rfl (fun h211 ex vs => ?_)
      obtain ⟨F212, lt212, st⟩ := St.laidF st dw wf ex vs (Lay.nil (by have := dw.le; omega)) (fun e he => by cases he)
      have lz213 := lt212 _ (le208 (fun _ => true) rfl (fun _ _ => rfl))
      have lb212 := lt212 _ FF.base
      have le214 := PH.le.trans le198 lb212
      have le215 := PH.le.trans le199 lb212
      have le216 := PH.le.trans le197 lb212
      obtain ⟨v217, e218, hF⟩ := bnd_some hF; refine v_callR st (ct21 N e218 st.d st.sub (Nat.le_trans hfl st.ext.le) (RowF.mono lb212 ry200) (RowF.mono lb212 ry201)) (fun u219 F219 h219 n219 le219 rv219 st => ?_)
      have le220 := PH.le.trans le214 le219
      have le221 := PH.le.trans le215 le219
      have le222 := PH.le.trans le216 le219
      have le223 := PH.le.trans lb212 le219
      have le224 := PH.le.trans lz213 le219
      obtain ⟨_, rfl, ⟨_, _, rfl, ⟨py225, cy225, rfl, ry225⟩, ⟨py226, cy226, rfl, ry226⟩⟩⟩ := rv219; obtain ⟨v227, e228, hF⟩ := bnd_some hF; refine v_call st (ct20 N e228 st.d st.sub (RowF.mono le224 ry209) (RowF.mono le224 ry210) ry225 ry226) (fun n229 st => ?_); refine v_move ?_; refine v_xt rfl ?_; refine v_xt rfl ?_; refine v_move ?_; refine v_move ?_; refine r_nil ?_; refine th_n ?_; refine w_seq ?_; refine w_drawV (Nat.le_trans hfl st.ext.le) (fun dw => ?_)
      have wf := Wf.start st
      refine y_pure st.d dw (fun hm vw => v_ldn (vs := [(i64 a0_0), (.slice pa0_1 (a0_1).length ca0_1), (.slice pa0_2 (a0_2).length ca0_2), (i64 a0_3)]) (vw.bx (st.at (i := 0) rfl)) rfl pr_nil) ?_; obtain ⟨v230, e231, hF⟩ := bnd_some hF
      refine y_deep st dw wf (fun hm vw => u_callR (ct19 N e231 vw.d (FF.sub wf st vw) (Nat.max_le.2 ⟨by have := dw.le; have := st.ext.le; omega, Nat.le_refl _⟩) (RowF.mono (PH.le.trans le220 FF.base) ra0_1) (RowF.mono (PH.le.trans le220 FF.base) ra0_2)) (fun v F' h' n' ex l1 l2 l3 l4 => r_nil ⟨_, _, rfl, ex, l1, l2, l3, l4⟩)) (fun u232 F232 n232 done hn' dw232 wf232 rv232 le232 => ?_)
      have wf := wf232
      have dw := dw232
      obtain ⟨_, rfl, ⟨_, _, rfl, rfl, ⟨_, _, rfl, ⟨py233, cy233, rfl, ry233⟩, ⟨_, _, rfl, ⟨py234, cy234, rfl, ry234⟩, rfl⟩⟩⟩⟩ := rv232; refine y_pure st.d dw (fun hm vw => v_move pr_nil) ?_; refine y_pure st.d dw (fun hm vw => v_move pr_nil) ?_; obtain ⟨q235, hF⟩ := ck_some hF; refine y_pure st.d dw (fun hm vw => v_add q235 pr_nil) ?_; refine y_pure st.d dw (fun hm vw => v_ldn (vs := [(.slice py200 (v195.1).length cy200), (.slice py201 (v195.2).length cy201)]) (vw.bx (st.at (i := 1) rfl)) rfl pr_nil) ?_; refine y_end st.d dw rfl (fun h236 ex vs => ?_)
      obtain ⟨F237, lt237, st⟩ := St.laidF st dw wf ex vs (Lay.nil (by have := dw.le; omega)) (fun e he => by cases he)
      have lz238 := lt237 _ (le232 (fun _ => true) rfl (fun _ _ => rfl))
      have lb237 := lt237 _ FF.base
      have le239 := PH.le.trans le220 lb237
      have le240 := PH.le.trans le221 lb237
      have le241 := PH.le.trans le222 lb237
      have le242 := PH.le.trans le223 lb237
      have le243 := PH.le.trans le224 lb237
      have le244 := PH.le.trans le219 lb237
      obtain ⟨v245, e246, hF⟩ := bnd_some hF; refine v_callR st (ct21 N e246 st.d st.sub (Nat.le_trans hfl st.ext.le) (RowF.mono le242 ry200) (RowF.mono le242 ry201)) (fun u247 F247 h247 n247 le247 rv247 st => ?_)
      have le248 := PH.le.trans le239 le247
      have le249 := PH.le.trans le240 le247
      have le250 := PH.le.trans le241 le247
      have le251 := PH.le.trans le242 le247
      have le252 := PH.le.trans le243 le247
      have le253 := PH.le.trans le244 le247
      have le254 := PH.le.trans lb237 le247
      have le255 := PH.le.trans lz238 le247
      obtain ⟨_, rfl, ⟨_, _, rfl, ⟨py256, cy256, rfl, ry256⟩, ⟨py257, cy257, rfl, ry257⟩⟩⟩ := rv247; obtain ⟨v258, e259, hF⟩ := bnd_some hF; refine v_call st (ct20 N e259 st.d st.sub (RowF.mono le255 ry233) (RowF.mono le255 ry234) ry256 ry257) (fun n260 st => ?_); refine v_move ?_; refine v_xt rfl ?_; refine v_xt rfl ?_; refine v_move ?_; refine v_move ?_; refine r_nil ?_; refine th_n ?_; refine w_seq ?_; refine w_drawV (Nat.le_trans hfl st.ext.le) (fun dw => ?_)
      have wf := Wf.start st
      refine y_pure st.d dw (fun hm vw => v_ldn (vs := [(i64 a0_0), (.slice pa0_1 (a0_1).length ca0_1), (.slice pa0_2 (a0_2).length ca0_2), (i64 a0_3)]) (vw.bx (st.at (i := 0) rfl)) rfl pr_nil) ?_; obtain ⟨v261, e262, hF⟩ := bnd_some hF
      refine y_deep st dw wf (fun hm vw => u_callR (ct19 N e262 vw.d (FF.sub wf st vw) (Nat.max_le.2 ⟨by have := dw.le; have := st.ext.le; omega, Nat.le_refl _⟩) (RowF.mono (PH.le.trans le248 FF.base) ra0_1) (RowF.mono (PH.le.trans le248 FF.base) ra0_2)) (fun v F' h' n' ex l1 l2 l3 l4 => r_nil ⟨_, _, rfl, ex, l1, l2, l3, l4⟩)) (fun u263 F263 n263 done hn' dw263 wf263 rv263 le263 => ?_)
      have wf := wf263
      have dw := dw263
      obtain ⟨_, rfl, ⟨_, _, rfl, rfl, ⟨_, _, rfl, ⟨py264, cy264, rfl, ry264⟩, ⟨_, _, rfl, ⟨py265, cy265, rfl, ry265⟩, rfl⟩⟩⟩⟩ := rv263; refine y_pure st.d dw (fun hm vw => v_move pr_nil) ?_; refine y_pure st.d dw (fun hm vw => v_ldn (vs := [(.slice py200 (v195.1).length cy200), (.slice py201 (v195.2).length cy201)]) (vw.bx (st.at (i := 1) rfl)) rfl pr_nil) ?_; refine y_end st.d dw rfl (fun h266 ex vs => ?_)
      obtain ⟨F267, lt267, st⟩ := St.laidF st dw wf ex vs (Lay.nil (by have := dw.le; omega)) (fun e he => by cases he)
      have lz268 := lt267 _ (le263 (fun _ => true) rfl (fun _ _ => rfl))
      have lb267 := lt267 _ FF.base
      have le269 := PH.le.trans le248 lb267
      have le270 := PH.le.trans le249 lb267
      have le271 := PH.le.trans le250 lb267
      have le272 := PH.le.trans le251 lb267
      have le273 := PH.le.trans le252 lb267
      have le274 := PH.le.trans le253 lb267
      have le275 := PH.le.trans le254 lb267
      have le276 := PH.le.trans le255 lb267
      have le277 := PH.le.trans le247 lb267
      obtain ⟨v278, e279, hF⟩ := bnd_some hF; refine v_callR st (ct21 N e279 st.d st.sub (Nat.le_trans hfl st.ext.le) (RowF.mono le272 ry200) (RowF.mono le272 ry201)) (fun u280 F280 h280 n280 le280 rv280 st => ?_)
      have le281 := PH.le.trans le269 le280
      have le282 := PH.le.trans le270 le280
      have le283 := PH.le.trans le271 le280
      have le284 := PH.le.trans le272 le280
      have le285 := PH.le.trans le273 le280
      have le286 := PH.le.trans le274 le280
      have le287 := PH.le.trans le275 le280
      have le288 := PH.le.trans le276 le280
      have le289 := PH.le.trans le277 le280
      have le290 := PH.le.trans lb267 le280
      have le291 := PH.le.trans lz268 le280
      obtain ⟨_, rfl, ⟨_, _, rfl, ⟨py292, cy292, rfl, ry292⟩, ⟨py293, cy293, rfl, ry293⟩⟩⟩ := rv280; obtain ⟨v294, e295, hF⟩ := bnd_some hF; refine v_call st (ct20 N e295 st.d st.sub (RowF.mono le291 ry264) (RowF.mono le291 ry265) ry292 ry293) (fun n296 st => ?_); refine v_move ?_; refine v_xt rfl ?_; refine v_xt rfl ?_; refine v_move ?_; refine v_move ?_; refine r_nil ?_; refine th_n ?_; refine w_seq ?_; refine w_drawV (Nat.le_trans hfl st.ext.le) (fun dw => ?_)
      have wf := Wf.start st
      refine y_pure st.d dw (fun hm vw => v_ldn (vs := [(i64 a0_0), (.slice pa0_1 (a0_1).length ca0_1), (.slice pa0_2 (a0_2).length ca0_2), (i64 a0_3)]) (vw.bx (st.at (i := 0) rfl)) rfl pr_nil) ?_; obtain ⟨v297, e298, hF⟩ := bnd_some hF
      refine y_deep st dw wf (fun hm vw => u_callR (ct19 N e298 vw.d (FF.sub wf st vw) (Nat.max_le.2 ⟨by have := dw.le; have := st.ext.le; omega, Nat.le_refl _⟩) (RowF.mono (PH.le.trans le281 FF.base) ra0_1) (RowF.mono (PH.le.trans le281 FF.base) ra0_2)) (fun v F' h' n' ex l1 l2 l3 l4 => r_nil ⟨_, _, rfl, ex, l1, l2, l3, l4⟩)) (fun u299 F299 n299 done hn' dw299 wf299 rv299 le299 => ?_)
      have wf := wf299
      have dw := dw299
      obtain ⟨_, rfl, ⟨_, _, rfl, rfl, ⟨_, _, rfl, ⟨py300, cy300, rfl, ry300⟩, ⟨_, _, rfl, ⟨py301, cy301, rfl, ry301⟩, rfl⟩⟩⟩⟩ := rv299; refine y_pure st.d dw (fun hm vw => v_move pr_nil) ?_; refine y_pure st.d dw (fun hm vw => v_move pr_nil) ?_; obtain ⟨q302, hF⟩ := ck_some hF; refine y_pure st.d dw (fun hm vw => v_add q302 pr_nil) ?_; refine y_pure st.d dw (fun hm vw => v_ldn (vs := [(.slice py200 (v195.1).length cy200), (.slice py201 (v195.2).length cy201)]) (vw.bx (st.at (i := 1) rfl)) rfl pr_nil) ?_; refine y_end st.d dw rfl (fun h303 ex vs => ?_)
      obtain ⟨F304, lt304, st⟩ := St.laidF st dw wf ex vs (Lay.nil (by have := dw.le; omega)) (fun e he => by cases he)
      have lz305 := lt304 _ (le299 (fun _ => true) rfl (fun _ _ => rfl))
      have lb304 := lt304 _ FF.base
      have le306 := PH.le.trans le281 lb304
      have le307 := PH.le.trans le282 lb304
      have le308 := PH.le.trans le283 lb304
      have le309 := PH.le.trans le284 lb304
      have le310 := PH.le.trans le285 lb304
      have le311 := PH.le.trans le286 lb304
      have le312 := PH.le.trans le287 lb304
      have le313 := PH.le.trans le288 lb304
      have le314 := PH.le.trans le289 lb304
      have le315 := PH.le.trans le290 lb304
      have le316 := PH.le.trans le291 lb304
      have le317 := PH.le.trans le280 lb304
      obtain ⟨v318, e319, hF⟩ := bnd_some hF; refine v_callR st (ct21 N e319 st.d st.sub (Nat.le_trans hfl st.ext.le) (RowF.mono le309 ry200) (RowF.mono le309 ry201)) (fun u320 F320 h320 n320 le320 rv320 st => ?_)
      have le321 := PH.le.trans le306 le320
      have le322 := PH.le.trans le307 le320
      have le323 := PH.le.trans le308 le320
      have le324 := PH.le.trans le309 le320
      have le325 := PH.le.trans le310 le320
      have le326 := PH.le.trans le311 le320
      have le327 := PH.le.trans le312 le320
      have le328 := PH.le.trans le313 le320
      have le329 := PH.le.trans le314 le320
      have le330 := PH.le.trans le315 le320
      have le331 := PH.le.trans le316 le320
      have le332 := PH.le.trans le317 le320
      have le333 := PH.le.trans lb304 le320
      have le334 := PH.le.trans lz305 le320
      obtain ⟨_, rfl, ⟨_, _, rfl, ⟨py335, cy335, rfl, ry335⟩, ⟨py336, cy336, rfl, ry336⟩⟩⟩ := rv320; obtain ⟨v337, e338, hF⟩ := bnd_some hF; refine v_call st (ct20 N e338 st.d st.sub (RowF.mono le334 ry300) (RowF.mono le334 ry301) ry335 ry336) (fun n339 st => ?_); refine v_move ?_; refine v_xt rfl ?_; refine v_xt rfl ?_; refine v_move ?_; refine v_move ?_; refine r_nil ?_; refine th_n ?_; refine w_seq ?_; refine w_reg ?_; refine v_move ?_; refine v_eqi ?_; refine v_move ?_
      rcases Bool.eq_false_or_eq_true (decide (v227.2 = (0 : Int))) with hb340 | hb340
      · have hF := bif_t hb340 hF; refine g_take hb340 (v_move ?_); refine g_take hb340 (v_eqi ?_); refine v_pick hb340 ?_; refine v_move ?_
        rcases Bool.eq_false_or_eq_true (decide (v258.2 = (0 : Int))) with hb341 | hb341
        · have hF := bif_t hb341 hF; refine g_take hb341 (v_move ?_); refine g_take hb341 (v_eqi ?_); refine v_pick hb341 ?_; refine v_move ?_
          rcases Bool.eq_false_or_eq_true (decide (v294.2 = (0 : Int))) with hb342 | hb342
          · have hF := bif_t hb342 hF; refine g_take hb342 (v_move ?_); refine g_take hb342 (v_eqi ?_); refine v_pick hb342 ?_; refine v_move ?_
            rcases Bool.eq_false_or_eq_true (decide (v337.2 = (0 : Int))) with hb343 | hb343
            · have hF := bif_t hb343 hF; refine g_take hb343 (v_move ?_); refine g_take hb343 (v_move ?_); obtain ⟨q344, hF⟩ := ck_some hF; refine g_take hb343 (v_sub q344 ?_); refine g_take hb343 (v_move ?_); refine g_take hb343 (v_move ?_); obtain ⟨q345, hF⟩ := ck_some hF; refine g_take hb343 (v_sub q345 ?_); refine g_take hb343 (v_eqi ?_); refine v_pick hb343 ?_; refine v_move ?_
              rcases Bool.eq_false_or_eq_true (decide ((v258.1 - v227.1) = (v337.1 - v294.1))) with hb346 | hb346
              · have hF := bif_t hb346 hF; refine g_take hb346 (v_call st (ct_wakes (h := _) (nx := _)) (fun n347 st => ?_)); refine v_pick hb346 ?_; refine v_move ?_; refine r_nil ?_; refine th_n ?_; refine w_ret ?_; obtain rfl := inj hF
                exact end_s st (Res.t gA Res.nil) rfl rfl
              · have hF := bif_f hb346 hF; refine g_skip hb346 ?_; refine v_pick' hb346 ?_; refine v_move ?_; refine r_nil ?_; refine th_n ?_; refine w_ret ?_; obtain rfl := inj hF
                exact end_s st (Res.t gA Res.nil) rfl rfl
            · have hF := bif_f hb343 hF; refine g_skip hb343 ?_; refine g_skip hb343 ?_; refine g_skip hb343 ?_; refine g_skip hb343 ?_; refine g_skip hb343 ?_; refine g_skip hb343 ?_; refine g_skip hb343 ?_; refine v_pick' hb343 ?_; refine v_move ?_; refine g_skip rfl ?_; refine v_pick' rfl ?_; refine v_move ?_; refine r_nil ?_; refine th_n ?_; refine w_ret ?_; obtain rfl := inj hF
              exact end_s st (Res.t gA Res.nil) rfl rfl
          · have hF := bif_f hb342 hF; refine g_skip hb342 ?_; refine g_skip hb342 ?_; refine v_pick' hb342 ?_; refine v_move ?_; refine g_skip rfl ?_; refine g_skip rfl ?_; refine g_skip rfl ?_; refine g_skip rfl ?_; refine g_skip rfl ?_; refine g_skip rfl ?_; refine g_skip rfl ?_; refine v_pick' rfl ?_; refine v_move ?_; refine g_skip rfl ?_; refine v_pick' rfl ?_; refine v_move ?_; refine r_nil ?_; refine th_n ?_; refine w_ret ?_; obtain rfl := inj hF
            exact end_s st (Res.t gA Res.nil) rfl rfl
        · have hF := bif_f hb341 hF; refine g_skip hb341 ?_; refine g_skip hb341 ?_; refine v_pick' hb341 ?_; refine v_move ?_; refine g_skip rfl ?_; refine g_skip rfl ?_; refine v_pick' rfl ?_; refine v_move ?_; refine g_skip rfl ?_; refine g_skip rfl ?_; refine g_skip rfl ?_; refine g_skip rfl ?_; refine g_skip rfl ?_; refine g_skip rfl ?_; refine g_skip rfl ?_; refine v_pick' rfl ?_; refine v_move ?_; refine g_skip rfl ?_; refine v_pick' rfl ?_; refine v_move ?_; refine r_nil ?_; refine th_n ?_; refine w_ret ?_; obtain rfl := inj hF
          exact end_s st (Res.t gA Res.nil) rfl rfl
      · have hF := bif_f hb340 hF; refine g_skip hb340 ?_; refine g_skip hb340 ?_; refine v_pick' hb340 ?_; refine v_move ?_; refine g_skip rfl ?_; refine g_skip rfl ?_; refine v_pick' rfl ?_; refine v_move ?_; refine g_skip rfl ?_; refine g_skip rfl ?_; refine v_pick' rfl ?_; refine v_move ?_; refine g_skip rfl ?_; refine g_skip rfl ?_; refine g_skip rfl ?_; refine g_skip rfl ?_; refine g_skip rfl ?_; refine g_skip rfl ?_; refine g_skip rfl ?_; refine v_pick' rfl ?_; refine v_move ?_; refine g_skip rfl ?_; refine v_pick' rfl ?_; refine v_move ?_; refine r_nil ?_; refine th_n ?_; refine w_ret ?_; obtain rfl := inj hF
        exact end_s st (Res.t gA Res.nil) rfl rfl
end Go.Hx.V

/- Functions of the program come to that. -/
namespace Go.Hx.V
open Go.Hx
set_option linter.unusedVariables false
set_option maxRecDepth 20000
set_option maxHeartbeats 4000000
attribute [local irreducible] W R C thenH inBlockH Tr.get Tr.set lo
theorem ct15 (N : Nat) {a0_0 : Int} {a0_1 : (List (Int × Int))} {a0_2 : (List (Int × Int × Int))} {a0_3 : Int} {a1 : (List Int)} {r : Bool} (hF : sf15 N a0_0 a0_1 a0_2 a0_3 a1 = some r) {fl : Nat} {h0 : Tr HBlk} {n0 : Nat} {F0 : PH} (hd : D h0 n0) (hs : F0.sub h0) {pa0_1 : Option (Nat × Nat)} {ca0_1 : Nat} {pa0_2 : Option (Nat × Nat)} {ca0_2 : Nat} {pa1 : Option (Nat × Nat)} {ca1 : Nat} (ra0_1 : RowF (rP rI rI) 2 F0 pa0_1 ca0_1 a0_1) (ra0_2 : RowF (rP rI (rP rI rI)) 3 F0 pa0_2 ca0_2 a0_2) (ra1 : RowF (rK .u16) 1 F0 pa1 ca1 a1) : C LW fl 15 [(.agg [(i64 a0_0), (.slice pa0_1 (a0_1).length ca0_1), (.slice pa0_2 (a0_2).length ca0_2), (i64 a0_3)]), (.slice pa1 (a1).length ca1)] ⟨h0, n0⟩ (KS (.bool r) n0 h0) := by
  unfold sf15 at hF
  refine in_cT hd hs lw15 rfl rfl (by rfl) (fun st T hT => ?_)
  have hfl : n0 ≤ n0 := Nat.le_refl n0
  have t0 := hT 0 _ rfl
  have t1 := hT 1 _ rfl
  dsimp only [L15]
  refine w_seq ?_; refine w_reg ?_; refine v_box st (fun b1 h2 n3 st => ?_); refine v_move ?_; refine r_nil ?_; refine th_n ?_; obtain ⟨y24, hA25, hF⟩ := bnd_some hF; refine w_cutD (fun T ds30 h nx => ∃ u, y24 = (.inr u) ∧ ∃ (F30 : PH), ds30 = [] ∧ PH.le F0 F30 ∧ St n0 h0 F0 F30 h nx [.bx b1 [(i64 a0_0), (.slice pa0_1 (a0_1).length ca0_1), (.slice pa0_2 (a0_2).length ca0_2), (i64 a0_3)]] ∧ T.get 1 = some (.slice pa1 (a1).length ca1) ∧ T.get 2 = some (.ptr (some (b1, 0)))) ?_ (fun T ds30 h nx hp => ?_)
  · have hK26 := hF
    have hF := hA25; obtain ⟨y38, hA39, hF⟩ := bnd_some hF; refine w_cutD (fun T ds41 h nx => ∃ (F41 : PH), ds41 = [] ∧ PH.le F0 F41 ∧ St n0 h0 F0 F41 h nx [.bx b1 [(i64 a0_0), (.slice pa0_1 (a0_1).length ca0_1), (.slice pa0_2 (a0_2).length ca0_2), (i64 a0_3)]] ∧ T.get 1 = some (.slice pa1 (a1).length ca1) ∧ T.get 2 = some (.ptr (some (b1, 0))) ∧ T.get 17 = some (.bool y38)) ?_ (fun T ds41 h nx hp => ?_)
    · have hK40 := hF
      have hF := hA39; refine w_reg ?_; refine v_ldn (vs := [(i64 a0_0), (.slice pa0_1 (a0_1).length ca0_1), (.slice pa0_2 (a0_2).length ca0_2), (i64 a0_3)]) (st.at (i := 0) rfl).2.2 rfl ?_; obtain ⟨v42, e43, hF⟩ := bnd_some hF; refine v_call st (ct16 N e43 st.d st.sub ra0_1 ra0_2 RowF.nil RowF.nil) (fun n44 st => ?_); refine v_not ?_; refine v_move ?_
      rcases Bool.eq_false_or_eq_true (!v42) with hb45 | hb45
      · have hF := bif_t hb45 hF; refine g_skip hb45 ?_; refine g_skip hb45 ?_; refine g_skip hb45 ?_; refine v_pick hb45 ?_; refine r_nil ?_; obtain rfl := inj hF; refine thn ⟨rfl, ?_⟩; dsimp only
        exact ⟨F0, rfl, (PH.le.refl _), st, gA, gA, gA⟩
      · have hF := bif_f hb45 hF; refine g_take hb45 (v_ldn (vs := [(i64 a0_0), (.slice pa0_1 (a0_1).length ca0_1), (.slice pa0_2 (a0_2).length ca0_2), (i64 a0_3)]) (st.at (i := 0) rfl).2.2 rfl ?_); obtain ⟨v46, e47, hF⟩ := bnd_some hF; refine g_take hb45 (v_call st (ct23 N e47 st.d st.sub ra0_1 ra0_2) (fun n48 st => ?_)); refine g_take hb45 (v_nei ?_); refine v_pick' hb45 ?_; refine r_nil ?_; obtain rfl := inj hF; refine thn ⟨rfl, ?_⟩; dsimp only
        exact ⟨F0, rfl, (PH.le.refl _), st, gA, gA, gA⟩
    · obtain ⟨F41, rfl, le41, st, t1, t2, t17⟩ := hp; refine v_cond (fun hb49 => ?_) (fun hb49 => ?_)
      · have hF := bif_t hb49 hF; refine w_seq ?_; refine w_reg ?_; refine v_call st (ct_wakes (h := _) (nx := _)) (fun n50 st => ?_); refine v_move ?_; refine r_nil ?_; refine th_n ?_; refine w_ret ?_; obtain rfl := inj hF; have hF := hK26; have hF := sel_l hF; refine th_r ?_; obtain rfl := inj hF
        exact end_s st (Res.t gA Res.nil) rfl rfl
      · have hF := bif_f hb49 hF; refine w_skip ?_; obtain rfl := inj hF; refine thn ⟨rfl, _, rfl, ?_⟩; dsimp only
        exact ⟨F41, rfl, le41, st, gA, gA⟩
  · obtain ⟨w29, rfl, F30, rfl, le30, st, t1, t2⟩ := hp; have hF := sel_r hF; refine w_seq ?_; refine w_reg ?_; refine v_ldn (vs := [(i64 a0_0), (.slice pa0_1 (a0_1).length ca0_1), (.slice pa0_2 (a0_2).length ca0_2), (i64 a0_3)]) (st.at (i := 0) rfl).2.2 rfl ?_; refine v_move ?_; obtain ⟨v51, e52, hF⟩ := bnd_some hF; refine v_callR st (ct44 N e52 st.d st.sub (Nat.le_trans hfl st.ext.le) (RowF.mono le30 ra0_1) (RowF.mono le30 ra0_2) (RowF.mono le30 ra1)) (fun u53 F53 h53 n53 le53 rv53 st => ?_)
    have le54 := PH.le.trans le30 le53
    obtain ⟨_, rfl, ⟨_, _, rfl, ⟨py55, cy55, rfl, ry55⟩, ⟨py56, cy56, rfl, ry56⟩⟩⟩ := rv53; refine v_alloc st (fun b57 h58 n59 st => ?_); refine v_st (cs' := [(.slice py55 (v51.1).length cy55), (.slice py56 (v51.2).length cy56)]) st 1 rfl rfl rfl rfl hfl (fun h60 st => ?_); refine r_nil ?_; refine th_n ?_; refine w_seq ?_; refine w_reg ?_; refine v_move ?_; refine r_nil ?_; refine th_n ?_; refine w_seq ?_; refine w_seq ?_; refine w_reg ?_; refine v_move ?_; refine r_nil ?_; refine th_n ?_; refine w_block ?_; obtain ⟨y108, hy, hF⟩ := bnd_some hF; refine v_loopD (sf15_L1 N a0_0 a0_1 a0_2 a0_3 v51) (fun x61 T ds62 h nx => ∃ (F62 : PH), ds62 = [] ∧ PH.le F53 F62 ∧ St n0 h0 F0 F62 h nx [.bx b1 [(i64 a0_0), (.slice pa0_1 (a0_1).length ca0_1), (.slice pa0_2 (a0_2).length ca0_2), (i64 a0_3)], .bx b57 [(.slice py55 (v51.1).length cy55), (.slice py56 (v51.2).length cy56)]] ∧ T.get 2 = some (.ptr (some (b1, 0))) ∧ T.get 5 = some (.ptr (some (b57, 0))) ∧ T.get 6 = some (i64 x61.1) ∧ T.get 7 = some (i64 x61.2)) (fun y e a σ => (∃ u, y = (.inl u) ∧ e = .ret ∧ a.nt = 54 ∧ ∃ (F110 : PH), a.defers = [] ∧ PH.le F53 F110 ∧ St n0 h0 F0 F110 σ.h σ.nx [.bx b1 [(i64 a0_0), (.slice pa0_1 (a0_1).length ca0_1), (.slice pa0_2 (a0_2).length ca0_2), (i64 a0_3)], .bx b57 [(.slice py55 (v51.1).length cy55), (.slice py56 (v51.2).length cy56)]] ∧ a.tmps.get 4 = some (.bool false)) ∨ (∃ u, y = (.inr u) ∧ e = .exit 0 ∧ a.nt = 54 ∧ ∃ (F112 : PH), a.defers = [] ∧ PH.le F53 F112 ∧ St n0 h0 F0 F112 σ.h σ.nx [.bx b1 [(i64 a0_0), (.slice pa0_1 (a0_1).length ca0_1), (.slice pa0_2 (a0_2).length ca0_2), (i64 a0_3)], .bx b57 [(.slice py55 (v51.1).length cy55), (.slice py56 (v51.2).length cy56)]])) (fun x61 T ds62 h nx s hp hF => ?_) N _ y108 _ _ _ _ hy ⟨F53, rfl, (PH.le.refl _), st, gA, gA, gA, gA⟩ (fun e a σ hne hq => ?_)
    · obtain ⟨F62, rfl, le62, st, t2, t5, t6, t7⟩ := hp
      have le63 := PH.le.trans le54 le62
      have le64 := PH.le.trans le53 le62
      unfold sf15_L1 at hF; unfold L15w0; refine w_seq ?_; refine w_seq ?_; refine w_reg ?_; refine v_move ?_; refine v_fa ?_; refine v_ld1 (st.at (i := 0) rfl).2.2 rfl ?_; refine v_leq ?_; refine r_nil ?_; refine th_n ?_; refine v_cond (fun hb113 => ?_) (fun hb113 => ?_)
      · have hF := bif_t hb113 hF; refine w_skip ?_; refine th_n ?_; refine w_seq ?_; refine w_block ?_; refine w_seq ?_; refine w_drawV (Nat.le_trans hfl st.ext.le) (fun dw => ?_)
        have wf := Wf.start st
        refine y_pure st.d dw (fun hm vw => v_ldn (vs := [(i64 a0_0), (.slice pa0_1 (a0_1).length ca0_1), (.slice pa0_2 (a0_2).length ca0_2), (i64 a0_3)]) (vw.bx (st.at (i := 0) rfl)) rfl pr_nil) ?_; obtain ⟨v114, e115, hF⟩ := bnd_some hF
        refine y_deep st dw wf (fun hm vw => u_callR (ct19 N e115 vw.d (FF.sub wf st vw) (Nat.max_le.2 ⟨by have := dw.le; have := st.ext.le; omega, Nat.le_refl _⟩) (RowF.mono (PH.le.trans le63 FF.base) ra0_1) (RowF.mono (PH.le.trans le63 FF.base) ra0_2)) (fun v F' h' n' ex l1 l2 l3 l4 => r_nil ⟨_, _, rfl, ex, l1, l2, l3, l4⟩)) (fun u116 F116 n116 done hn' dw116 wf116 rv116 le116 => ?_)
        have wf := wf116
        have dw := dw116
        obtain ⟨_, rfl, ⟨_, _, rfl, rfl, ⟨_, _, rfl, ⟨py117, cy117, rfl, ry117⟩, ⟨_, _, rfl, ⟨py118, cy118, rfl, ry118⟩, rfl⟩⟩⟩⟩ := rv116; refine y_pure st.d dw (fun hm vw => v_move pr_nil) ?_; refine y_pure st.d dw (fun hm vw => v_ldn (vs := [(.slice py55 (v51.1).length cy55), (.slice py56 (v51.2).length cy56)]) (vw.bx (st.at (i := 1) rfl)) rfl pr_nil) ?_; refine y_end st.d dw rfl (fun h119 ex vs => ?_)
        obtain ⟨F120, lt120, st⟩ := St.laidF st dw wf ex vs (Lay.nil (by have := dw.le; omega)) (fun e he => by cases he)
        have lz121 := lt120 _ (le116 (fun _ => true) rfl (fun _ _ => rfl))
        have lb120 := lt120 _ FF.base
        have le122 := PH.le.trans le63 lb120
        have le123 := PH.le.trans le64 lb120
        have le124 := PH.le.trans le62 lb120
        obtain ⟨v125, e126, hF⟩ := bnd_some hF; refine v_callR st (ct21 N e126 st.d st.sub (Nat.le_trans hfl st.ext.le) (RowF.mono le124 ry55) (RowF.mono le124 ry56)) (fun u127 F127 h127 n127 le127 rv127 st => ?_)
        have le128 := PH.le.trans le122 le127
        have le129 := PH.le.trans le123 le127
        have le130 := PH.le.trans le124 le127
        have le131 := PH.le.trans lb120 le127
        have le132 := PH.le.trans lz121 le127
        obtain ⟨_, rfl, ⟨_, _, rfl, ⟨py133, cy133, rfl, ry133⟩, ⟨py134, cy134, rfl, ry134⟩⟩⟩ := rv127; obtain ⟨v135, e136, hF⟩ := bnd_some hF; refine v_call st (ct20 N e136 st.d st.sub (RowF.mono le132 ry117) (RowF.mono le132 ry118) ry133 ry134) (fun n137 st => ?_); refine v_move ?_; refine v_xt rfl ?_; refine v_xt rfl ?_; refine v_move ?_; refine v_move ?_; refine r_nil ?_; refine th_n ?_; refine w_seq ?_; obtain ⟨y141, hA142, hF⟩ := bnd_some hF; refine w_cutD (fun T ds144 h nx => ∃ (F144 : PH), ds144 = [] ∧ PH.le F127 F144 ∧ St n0 h0 F0 F144 h nx [.bx b1 [(i64 a0_0), (.slice pa0_1 (a0_1).length ca0_1), (.slice pa0_2 (a0_2).length ca0_2), (i64 a0_3)], .bx b57 [(.slice py55 (v51.1).length cy55), (.slice py56 (v51.2).length cy56)]] ∧ T.get 2 = some (.ptr (some (b1, 0))) ∧ T.get 5 = some (.ptr (some (b57, 0))) ∧ T.get 7 = some (i64 x61.2) ∧ T.get 8 = some (i64 v135.1) ∧ T.get 51 = some (.bool y141)) ?_ (fun T ds144 h nx hp => ?_)
        · have hK143 := hF
          have hF := hA142; refine w_reg ?_; refine v_move ?_; refine v_nei ?_; refine v_move ?_
          rcases Bool.eq_false_or_eq_true (!(decide (v135.2 = (0 : Int)))) with hb145 | hb145
          · have hF := bif_t hb145 hF; refine g_skip hb145 ?_; refine g_skip hb145 ?_; refine g_skip hb145 ?_; refine v_pick hb145 ?_; refine v_move ?_; refine g_skip rfl ?_; refine g_skip rfl ?_; refine g_skip rfl ?_; refine g_skipu ?_; refine g_skipu ?_; refine g_skip rfl ?_; refine v_pick rfl ?_; refine r_nil ?_; obtain rfl := inj hF; refine thn ⟨rfl, ?_⟩; dsimp only
            exact ⟨F127, rfl, (PH.le.refl _), st, gA, gA, gA, gA, gA⟩
          · have hF := bif_f hb145 hF; refine g_take hb145 (v_move ?_); refine g_take hb145 (v_move ?_); refine g_take hb145 (v_leq ?_); refine v_pick' hb145 ?_; refine v_move ?_
            rcases Bool.eq_false_or_eq_true (decide (v135.1 ≤ x61.1)) with hb146 | hb146
            · have hF := bif_t hb146 hF; refine g_skip hb146 ?_; refine g_skip hb146 ?_; refine g_skip hb146 ?_; refine g_skipu ?_; refine g_skipu ?_; refine g_skip hb146 ?_; refine v_pick hb146 ?_; refine r_nil ?_; obtain rfl := inj hF; refine thn ⟨rfl, ?_⟩; dsimp only
              exact ⟨F127, rfl, (PH.le.refl _), st, gA, gA, gA, gA, gA⟩
            · have hF := bif_f hb146 hF; refine g_take hb146 (v_move ?_); refine g_take hb146 (v_eqi ?_); refine g_take hb146 (v_move ?_)
              rcases Bool.eq_false_or_eq_true (decide (x61.2 = (0 : Int))) with hb147 | hb147
              · have hF := bif_t hb147 hF; refine g_take hb147 (v_move ?_); refine g_take hb147 (v_nei ?_); refine g_take hb146 (v_pick hb147 ?_); refine v_pick' hb146 ?_; refine r_nil ?_; obtain rfl := inj hF; refine thn ⟨rfl, ?_⟩; dsimp only
                exact ⟨F127, rfl, (PH.le.refl _), st, gA, gA, gA, gA, gA⟩
              · have hF := bif_f hb147 hF; refine g_skip hb147 ?_; refine g_skip hb147 ?_; refine g_take hb146 (v_pick' hb147 ?_); refine v_pick' hb146 ?_; refine r_nil ?_; obtain rfl := inj hF; refine thn ⟨rfl, ?_⟩; dsimp only
                exact ⟨F127, rfl, (PH.le.refl _), st, gA, gA, gA, gA, gA⟩
        · obtain ⟨F144, rfl, le144, st, t2, t5, t7, t8, t51⟩ := hp
          have le148 := PH.le.trans le128 le144
          have le149 := PH.le.trans le129 le144
          have le150 := PH.le.trans le130 le144
          have le151 := PH.le.trans le131 le144
          have le152 := PH.le.trans le132 le144
          have le153 := PH.le.trans le127 le144
          refine v_cond (fun hb154 => ?_) (fun hb154 => ?_)
          · have hF := bif_t hb154 hF; refine w_seq ?_; refine w_reg ?_; refine v_move ?_; refine r_nil ?_; refine th_n ?_; refine w_ret ?_; refine th_r ?_; refine ib_r ?_; refine th_r ?_; refine th_r ?_; refine ⟨_, (inj hF).symm, .inl ⟨_, rfl, rfl, rfl, ?_⟩⟩; dsimp only
            exact ⟨F144, rfl, le150, st, gA⟩
          · have hF := bif_f hb154 hF; refine w_skip ?_; refine th_n ?_; refine w_reg ?_; refine v_move ?_; refine v_move ?_; refine r_nil ?_; refine ib_n ?_; refine th_n ?_; refine w_reg ?_; refine v_move ?_; obtain ⟨q155, hF⟩ := ck_some hF; refine v_add q155 ?_; refine v_move ?_; refine r_nil ?_; refine thn ⟨_, (inj hF).symm, rfl, ?_⟩; dsimp only
            exact ⟨F144, rfl, le150, st, gA, gA, gA, gA⟩
      · have hF := bif_f hb113 hF; refine w_exit ?_; refine th_e ?_; refine th_e ?_; refine ⟨_, (inj hF).symm, .inr (⟨_, rfl, rfl, rfl, ?_⟩)⟩; dsimp only
        exact ⟨F62, rfl, le62, st⟩
    · rcases hq with hq | hq
      · obtain ⟨N9, T, ds110⟩ := a; obtain ⟨h158, n159⟩ := σ; obtain ⟨w109, rfl, rfl, e1, F110, e2, le110, st, t4⟩ := hq
        dsimp only at e1 e2
        subst e1
        subst e2
        dsimp only at st t4
        have le156 := PH.le.trans le54 le110
        have le157 := PH.le.trans le53 le110
        have hF := sel_l hF; refine ib_r ?_; refine th_r ?_; obtain rfl := inj hF
        exact end_s st (Res.t gA Res.nil) rfl rfl
      · obtain ⟨N9, T, ds112⟩ := a; obtain ⟨h162, n163⟩ := σ; obtain ⟨w111, rfl, rfl, e1, F112, e2, le112, st⟩ := hq
        dsimp only at e1 e2
        subst e1
        subst e2
        dsimp only at st
        have le160 := PH.le.trans le54 le112
        have le161 := PH.le.trans le53 le112
        have hF := sel_r hF; refine ib_e ?_; refine th_n ?_; refine w_seq ?_; refine w_reg ?_; refine v_call st (ct_wakes (h := _) (nx := _)) (fun n164 st => ?_); refine v_move ?_; refine r_nil ?_; refine th_n ?_; refine w_ret ?_; obtain rfl := inj hF
        exact end_s st (Res.t gA Res.nil) rfl rfl
end Go.Hx.V

/- Functions of the program come to that. -/
namespace Go.Hx.V
open Go.Hx
set_option linter.unusedVariables false
set_option maxRecDepth 20000
set_option maxHeartbeats 4000000
attribute [local irreducible] W R C thenH inBlockH Tr.get Tr.set lo
end Go.Hx.V

/- Functions of the program come to that. -/
namespace Go.Hx.V
open Go.Hx
set_option linter.unusedVariables false
set_option maxRecDepth 20000
set_option maxHeartbeats 4000000
attribute [local irreducible] W R C thenH inBlockH Tr.get Tr.set lo
end Go.Hx.V


/- Loops of functions on lists and numbers: what they come to. -/
namespace Go.Hx.V
open Go.Hx
theorem iter_run {α β : Type} {step : α → Option (α ⊕ β)} (s : Nat → α) (y : β) : ∀ (n i N : Nat), (∀ j, i ≤ j → j < i + n → step (s j) = some (.inl (s (j + 1)))) → step (s (i + n)) = some (.inr y) → n < N → iter step N (s i) = some y
  | 0, i, N, hs, he, hN => by
    obtain ⟨N, rfl⟩ : ∃ k, N = k + 1 := ⟨N - 1, by omega⟩
    unfold iter; rw [Nat.add_zero] at he; rw [he]; rfl
  | n + 1, i, N, hs, he, hN => by
    obtain ⟨N, rfl⟩ : ∃ k, N = k + 1 := ⟨N - 1, by omega⟩
    unfold iter
    rw [hs i (by omega) (by omega)]
    exact iter_run s y n (i + 1) N (fun j h1 h2 => hs j (by omega) (by omega)) (by rw [show i + 1 + n = i + (n + 1) by omega]; exact he) (by omega)
/-- A loop from 0 on. -/
theorem iter_up {α β : Type} {step : α → Option (α ⊕ β)} {x : α} {N : Nat} (s : Nat → α) (n : Nat) (y : β) (hx : x = s 0) (hs : ∀ j, j < n → step (s j) = some (.inl (s (j + 1)))) (he : step (s n) = some (.inr y)) (hN : n < N) : iter step N x = some y := by
  subst hx
  exact iter_run s y n 0 N (fun j _ h2 => hs j (by omega)) (by rw [Nat.zero_add]; exact he) hN
/-- A loop that ends early, or not. -/
theorem iter_all {α β : Type} {step : α → Option (α ⊕ β)} {x : α} {N : Nat} (s : Nat → α) (n : Nat) (p : Nat → Prop) [DecidablePred p] (good bad : β) (hx : x = s 0) (hs : ∀ j, j < n → p j → step (s j) = some (.inl (s (j + 1)))) (hf : ∀ j, j < n → ¬ p j → step (s j) = some (.inr bad)) (he : step (s n) = some (.inr good)) (hN : n < N) :
    ((∀ j, j < n → p j) ∧ iter step N x = some good) ∨ (¬ (∀ j, j < n → p j) ∧ iter step N x = some bad) := by
  by_cases h : ∀ j, j < n → p j
  · exact .inl ⟨h, iter_up s n good hx (fun j hj => hs j hj (h j hj)) he hN⟩
  · refine .inr ⟨h, ?_⟩
    have h1 : ∃ j, j < n ∧ ¬ p j := by
      refine Classical.byContradiction fun hc => h fun j hj => Classical.byContradiction fun hp => hc ⟨j, hj, hp⟩
    -- the first one
    obtain ⟨j, hj, hp, hmin⟩ : ∃ j, j < n ∧ ¬ p j ∧ ∀ i, i < j → p i := by
      obtain ⟨j, hj⟩ := h1
      induction j using Nat.strongRecOn with
      | ind j ih =>
        by_cases g : ∀ i, i < j → p i
        · exact ⟨j, hj.1, hj.2, g⟩
        · have : ∃ i, i < j ∧ ¬ p i := Classical.byContradiction fun hc => g fun i hi => Classical.byContradiction fun hp => hc ⟨i, hi, hp⟩
          obtain ⟨i, hi, hpi⟩ := this
          exact ih i hi ⟨by omega, hpi⟩
    exact iter_up s j bad hx (fun i hi => hs i (by omega) (hmin i hi)) (hf j hj hp) (by omega)
theorem ix_at {α β : Type} {l : List α} {j : Int} {n : Nat} {x : α} {k : α → Option β} (hj : j = n) (h : l[n]? = some x) : ix l j k = k x := by
  subst hj; exact ix_pos h
theorem ix_0 {α β : Type} {l : List α} {x : α} {k : α → Option β} (h : l[0]? = some x) : ix l (0 : Int) k = k x := ix_at (n := 0) rfl h
theorem lt_some {α : Type} {l : List α} {n : Nat} (h : n < l.length) : l[n]? = some l[n] := List.getElem?_eq_getElem h
theorem some_lt {α : Type} {l : List α} {n : Nat} {x : α} (h : l[n]? = some x) : n < l.length := by
  rcases Nat.lt_or_ge n l.length with g | g
  · exact g
  · rw [List.getElem?_eq_none g] at h; cases h
theorem take_succ' {α : Type} {l : List α} {n : Nat} {x : α} (h : l[n]? = some x) : l.take (n + 1) = l.take n ++ [x] := by
  rw [List.take_add_one, h]; rfl
/-- A list that is built by going through another one. -/
theorem iter_map {α γ : Type} {step : Int × List γ → Option ((Int × List γ) ⊕ List γ)} {N : Nat} (l : List α) (f : Nat → α → γ) (hs : ∀ (j : Nat) (x : α) (acc : List γ), l[j]? = some x → acc.length = j → step ((j : Int), acc) = some (.inl (((j + 1 : Nat) : Int), acc ++ [f j x]))) (he : ∀ acc, step ((l.length : Int), acc) = some (.inr acc)) (hN : l.length < N) :
    iter step N ((0 : Int), ([] : List γ)) = some (l.mapIdx f) := by
  refine iter_up (fun j => ((j : Int), (l.mapIdx f).take j)) l.length _ rfl (fun j hj => ?_) ?_ hN
  · try dsimp only
    rw [hs j l[j] _ (lt_some hj) (by rw [List.length_take, List.length_mapIdx]; omega)]
    congr 2
    rw [take_succ' (x := f j l[j]) (by rw [List.getElem?_mapIdx, lt_some hj]; rfl)]
  · try dsimp only
    rw [he, List.take_of_length_le (by rw [List.length_mapIdx]; omega)]
theorem mapIdx_id {α : Type} (l : List α) : (l.mapIdx fun _ x => x) = l := by
  refine List.ext_getElem? fun i => ?_
  rw [List.getElem?_mapIdx]; cases l[i]? <;> rfl
end Go.Hx.V

/- Layer 4: what its functions come to, in words of lists and numbers. -/
namespace Go.Hx.V
open Go.Hx
set_option linter.unusedVariables false
set_option linter.unusedSimpArgs false
set_option maxRecDepth 20000
abbrev Ph := List (Int × Int)
abbrev Zo := List (Int × Int × Int)
theorem sd {p q : Prop} [Decidable p] [Decidable q] (h : p ↔ q) : some (decide p) = some (decide q) := by rw [decide_eq_decide.2 h]
theorem sf_ {q : Prop} [Decidable q] (h : ¬ q) : some false = some (decide q) := by rw [decide_eq_false h]
theorem m24 {N : Nat} {a b c : Int} : sf24 N a b c = some (decide (b ≤ a ∧ a ≤ c)) := by
  unfold sf24
  by_cases h : b ≤ a <;> simp [h]
def spn (r : Int × Int) : Prop := -20 ≤ r.1 ∧ r.1 ≤ r.2 ∧ r.2 ≤ 20
instance (r : Int × Int) : Decidable (spn r) := by unfold spn; infer_instance
theorem m86 {N : Nat} {a b : Int} : sf86 N a b = some (decide (spn (a, b))) := by
  unfold sf86
  rw [m24, bnd_ret]
  by_cases h : -20 ≤ a ∧ a ≤ b
  · simp only [decide_eq_true h, cond_true]
    exact sd (by unfold spn; dsimp only; omega)
  · simp only [decide_eq_false h, cond_false]
    exact sf_ (by unfold spn; dsimp only; omega)
theorem m98 {N : Nat} {a b : Int} : sf98 N a b = some (decide (spn (a, b))) := by
  unfold sf98
  by_cases h : -20 ≤ a <;> by_cases h2 : a ≤ b <;> simp [h, h2, spn]
theorem m100 {N : Nat} {a b c : Int} : sf100 N a b c = some (decide ((0 ≤ a ∧ a ≤ 60) ∧ spn (b, c))) := by
  unfold sf100
  rw [m98, bnd_ret]
  by_cases h : 0 ≤ a <;> by_cases h2 : a ≤ 60 <;> simp [h, h2]
/-- A valid screw. -/
structure VS (st : Int) (ph : Ph) (zo : Zo) (tk : Int) : Prop where
  lp : ph.length ≤ 8
  lz : zo.length ≤ 3
  s1 : 1 ≤ st
  s2 : st ≤ 50
  t1 : 1 ≤ tk
  t2 : tk ≤ 60
  pn : 0 < ph.length
  zn : 0 < zo.length
  z0 : ∀ z : Int × Int × Int, zo[0]? = some z → z.1 = 0
  zs : ∀ (i : Nat) (z : Int × Int × Int), zo[i]? = some z → (0 ≤ z.1 ∧ z.1 ≤ 60) ∧ spn z.2
  zi : ∀ (i : Nat) (z z' : Int × Int × Int), zo[i]? = some z → zo[i + 1]? = some z' → z.1 < z'.1
  ps : ∀ (i : Nat) (r : Int × Int), ph[i]? = some r → spn r
  go : ∀ (i k : Nat) (r : Int × Int) (z : Int × Int × Int), ph[i]? = some r → zo[k]? = some z → 1 ≤ st + r.1 + z.2.1
theorem m19a {N : Nat} {l : Ph} (hN : l.length < N) (hl : l.length < 1000000000) : iter (sf19_L1 N l) N ((0 : Int), ([] : Ph)) = some l := by
  rw [iter_map l (fun _ x => x) (fun j x acc hx ha => ?_) (fun acc => ?_) hN, mapIdx_id]
  · have hj := some_lt hx
    unfold sf19_L1
    simp only [decide_eq_true (show (j : Int) < (l.length : Int) by omega), cond_true]
    rw [ix_at rfl hx]
    simp only [sf25, bnd_ret]
    rw [ck_pos (by omega), ck_pos (by unfold rng; omega)]
    rfl
  · unfold sf19_L1
    simp only [decide_eq_false (show ¬ (l.length : Int) < (l.length : Int) by omega), cond_false]
theorem m19b {N : Nat} {l : Zo} (hN : l.length < N) (hl : l.length < 1000000000) : iter (sf19_L2 N l) N ((0 : Int), ([] : Zo)) = some l := by
  rw [iter_map l (fun _ x => x) (fun j x acc hx ha => ?_) (fun acc => ?_) hN, mapIdx_id]
  · have hj := some_lt hx
    unfold sf19_L2
    simp only [decide_eq_true (show (j : Int) < (l.length : Int) by omega), cond_true]
    rw [ix_at rfl hx, ix_at rfl hx]
    simp only [sf25, bnd_ret]
    rw [ck_pos (by omega), ck_pos (by unfold rng; omega)]
    rfl
  · unfold sf19_L2
    simp only [decide_eq_false (show ¬ (l.length : Int) < (l.length : Int) by omega), cond_false]
theorem m19 {N : Nat} {st tk : Int} {ph : Ph} {zo : Zo} (h1 : ph.length < N) (h2 : zo.length < N) (hN : N < 1000000000) : sf19 N st ph zo tk = some (st, ph, zo, tk) := by
  unfold sf19
  rw [m19a h1 (by omega), bnd_ret, m19b h2 (by omega), bnd_ret]
theorem m30 {N : Nat} {l : List Int} (h : l.length < 1000000000) : sf30 N l = some l := by
  unfold sf30
  rw [ck_pos (by simp; omega)]
  rfl
theorem m21 {N : Nat} {p w : List Int} (h1 : p.length < 1000000000) (h2 : w.length < 1000000000) : sf21 N p w = some (p, w) := by
  unfold sf21
  rw [m30 h1, bnd_ret, m30 h2, bnd_ret]
/-! what the reference says of a screw -/
def zok (zo : Zo) (i : Nat) : Prop := ∀ z : Int × Int × Int, zo[i]? = some z → ((0 ≤ z.1 ∧ z.1 ≤ 60) ∧ spn z.2) ∧ ∀ y : Int × Int × Int, 0 < i → zo[i - 1]? = some y → y.1 < z.1
theorem m56a1 {N : Nat} {zo : Zo} {j : Nat} {z0 : Int × Int × Int} (hl : zo.length < 1000000000) (hz : zo[j]? = some z0) : (zok zo j ∧ sf56_L1 N zo (j : Int) = some (.inl ((j + 1 : Nat) : Int))) ∨ (¬ zok zo j ∧ sf56_L1 N zo (j : Int) = some (.inr (.inl 1))) := by
  have hj := some_lt hz
  have q3 : rng ((j : Int) + 1) := by unfold rng; omega
  unfold sf56_L1
  rw [decide_eq_true (show (j : Int) < (zo.length : Int) by omega), cond_true, ix_at rfl hz]
  simp only [m24, m86, bnd_ret]
  by_cases c1 : 0 ≤ z0.1 ∧ z0.1 ≤ 60
  · rw [decide_eq_true c1, Bool.not_true, cond_false]
    by_cases c2 : spn z0.2
    · rw [decide_eq_true (show spn (z0.2.1, z0.2.2) from c2), Bool.not_true, cond_false]
      by_cases c3 : 0 < j
      · obtain ⟨y0, hy⟩ : ∃ z, zo[j - 1]? = some z := ⟨_, lt_some (show j - 1 < zo.length by omega)⟩
        have q4 : rng ((j : Int) - 1) := by unfold rng; omega
        rw [decide_eq_true (show (0 : Int) < (j : Int) by omega), cond_true, ck_pos q4, ix_at (n := j - 1) (by omega) hy, bnd_ret]
        by_cases c4 : z0.1 ≤ y0.1
        · right
          rw [decide_eq_true c4, cond_true]
          exact ⟨fun h => by have := (h _ hz).2 _ c3 hy; omega, rfl⟩
        · left
          rw [decide_eq_false c4, cond_false, ck_pos q3]
          exact ⟨fun z h => by rw [hz] at h; cases h; exact ⟨⟨c1, c2⟩, fun y _ h2 => by rw [hy] at h2; cases h2; omega⟩, rfl⟩
      · left
        rw [decide_eq_false (show ¬ (0 : Int) < (j : Int) by omega), cond_false, bnd_ret, cond_false, ck_pos q3]
        exact ⟨fun z h => by rw [hz] at h; cases h; exact ⟨⟨c1, c2⟩, fun y h3 => absurd h3 c3⟩, rfl⟩
    · right
      rw [decide_eq_false (show ¬ spn (z0.2.1, z0.2.2) from c2), Bool.not_false, cond_true, bnd_ret, cond_true]
      exact ⟨fun h => c2 (h _ hz).1.2, rfl⟩
  · right
    rw [decide_eq_false c1, Bool.not_false, cond_true, bnd_ret, cond_true]
    exact ⟨fun h => c1 (h _ hz).1.1, rfl⟩
theorem m56a {N : Nat} {zo : Zo} (hN : zo.length < N) (hl : zo.length < 1000000000) : ((∀ i, i < zo.length → zok zo i) ∧ iter (sf56_L1 N zo) N (0 : Int) = some (.inr ())) ∨ (¬ (∀ i, i < zo.length → zok zo i) ∧ iter (sf56_L1 N zo) N (0 : Int) = some (.inl 1)) := by
  haveI : DecidablePred (zok zo) := fun _ => Classical.propDecidable _
  refine iter_all (step := sf56_L1 N zo) (N := N) (fun j => (j : Int)) zo.length (zok zo) (.inr ()) (.inl 1) rfl (fun j hj hp => ?_) (fun j hj hp => ?_) (by unfold sf56_L1; rw [decide_eq_false (show ¬ (zo.length : Int) < (zo.length : Int) by omega), cond_false]) hN
  · rcases m56a1 (N := N) hl (lt_some hj) with h | h
    · exact h.2
    · exact absurd hp h.1
  · rcases m56a1 (N := N) hl (lt_some hj) with h | h
    · exact absurd h.1 hp
    · exact h.2
def gok (st : Int) (r : Int × Int) (zo : Zo) (k : Nat) : Prop := ∀ z : Int × Int × Int, zo[k]? = some z → 1 ≤ st + r.1 + z.2.1
theorem m56b1 {st : Int} {ph : Ph} {zo : Zo} {i j : Nat} {r : Int × Int} {z : Int × Int × Int} (hr : ph[i]? = some r) (h1 : 1 ≤ st ∧ st ≤ 50) (hs : spn r) (hz2 : zo[j]? = some z) (hz3 : spn z.2) (hl : zo.length < 1000000000) : (gok st r zo j ∧ sf56_L2 st ph zo (i : Int) (j : Int) = some (.inl ((j + 1 : Nat) : Int))) ∨ (¬ gok st r zo j ∧ sf56_L2 st ph zo (i : Int) (j : Int) = some (.inr (.inl 1))) := by
  have hj := some_lt hz2
  unfold spn at hs hz3
  unfold sf56_L2
  have q : rng (st + r.1) := by unfold rng; omega
  have q2 : rng (st + r.1 + z.2.1) := by unfold rng; omega
  have q3 : rng ((j : Int) + 1) := by unfold rng; omega
  rw [decide_eq_true (show (j : Int) < (zo.length : Int) by omega), cond_true, ix_at rfl hr, ck_pos q, ix_at rfl hz2, ck_pos q2]
  by_cases c : st + r.1 + z.2.1 < 1
  · right
    rw [decide_eq_true c, cond_true]
    exact ⟨fun h => by have := h _ hz2; omega, rfl⟩
  · left
    rw [decide_eq_false c, cond_false, ck_pos q3]
    exact ⟨fun z h => by rw [hz2] at h; cases h; omega, rfl⟩
theorem m56b {N : Nat} {st : Int} {ph : Ph} {zo : Zo} {i : Nat} {r : Int × Int} (hr : ph[i]? = some r) (h1 : 1 ≤ st ∧ st ≤ 50) (hs : spn r) (hz : ∀ (k : Nat) (z : Int × Int × Int), zo[k]? = some z → spn z.2) (hN : zo.length < N) (hl : zo.length < 1000000000) : ((∀ k, k < zo.length → gok st r zo k) ∧ iter (sf56_L2 st ph zo (i : Int)) N (0 : Int) = some (.inr ())) ∨ (¬ (∀ k, k < zo.length → gok st r zo k) ∧ iter (sf56_L2 st ph zo (i : Int)) N (0 : Int) = some (.inl 1)) := by
  haveI : DecidablePred (gok st r zo) := fun _ => Classical.propDecidable _
  refine iter_all (step := sf56_L2 st ph zo (i : Int)) (N := N) (fun j => (j : Int)) zo.length (gok st r zo) (.inr ()) (.inl 1) rfl (fun j hj hp => ?_) (fun j hj hp => ?_) (by unfold sf56_L2; rw [decide_eq_false (show ¬ (zo.length : Int) < (zo.length : Int) by omega), cond_false]) hN
  · rcases m56b1 hr h1 hs (lt_some hj) (hz _ _ (lt_some hj)) hl with h | h
    · exact h.2
    · exact absurd hp h.1
  · rcases m56b1 hr h1 hs (lt_some hj) (hz _ _ (lt_some hj)) hl with h | h
    · exact absurd h.1 hp
    · exact h.2
def pok (st : Int) (ph : Ph) (zo : Zo) (i : Nat) : Prop := ∀ r : Int × Int, ph[i]? = some r → spn r ∧ ∀ k, k < zo.length → gok st r zo k
theorem m56c {N : Nat} {st : Int} {ph : Ph} {zo : Zo} (h1 : 1 ≤ st ∧ st ≤ 50) (hz : ∀ (k : Nat) (z : Int × Int × Int), zo[k]? = some z → spn z.2) (hN : zo.length < N) (hl : zo.length < 1000000000) (hN2 : ph.length < N) (hl2 : ph.length < 1000000000) : ((∀ k, k < ph.length → pok st ph zo k) ∧ iter (sf56_L3 N st ph zo) N (0 : Int) = some (.inr ())) ∨ (¬ (∀ k, k < ph.length → pok st ph zo k) ∧ iter (sf56_L3 N st ph zo) N (0 : Int) = some (.inl 1)) := by
  have key : ∀ j, j < ph.length → (pok st ph zo j ∧ sf56_L3 N st ph zo (j : Int) = some (.inl ((j + 1 : Nat) : Int))) ∨ (¬ pok st ph zo j ∧ sf56_L3 N st ph zo (j : Int) = some (.inr (.inl 1))) := fun j hj => by
    obtain ⟨r0, hr⟩ : ∃ z, ph[j]? = some z := ⟨_, lt_some hj⟩
    unfold sf56_L3
    simp only [decide_eq_true (show (j : Int) < (ph.length : Int) by omega), cond_true]
    rw [ix_at rfl hr]
    simp only [m86, bnd_ret]
    by_cases c : spn r0
    · simp only [decide_eq_true (show spn (r0.1, r0.2) from c), Bool.not_true, cond_false]
      rcases m56b hr h1 c hz hN hl with ⟨g1, g2⟩ | ⟨g1, g2⟩
      · left
        refine ⟨fun r h => by rw [hr] at h; cases h; exact ⟨c, g1⟩, ?_⟩
        rw [g2, bnd_ret]
        rw [ck_pos (by unfold rng; omega)]; rfl
      · right
        refine ⟨fun h => g1 (h _ hr).2, ?_⟩
        rw [g2, bnd_ret]
        rfl
    · right
      refine ⟨fun h => c (h _ hr).1, ?_⟩
      simp only [decide_eq_false (show ¬ spn (r0.1, r0.2) from c), Bool.not_false, cond_true]
  haveI : DecidablePred (pok st ph zo) := fun _ => Classical.propDecidable _
  refine iter_all (step := sf56_L3 N st ph zo) (N := N) (fun j => (j : Int)) ph.length (pok st ph zo) (.inr ()) (.inl 1) rfl (fun j hj hp => ?_) (fun j hj hp => ?_) (by unfold sf56_L3; simp only [decide_eq_false (show ¬ (ph.length : Int) < (ph.length : Int) by omega), cond_false]) hN2
  · rcases key j hj with h | h
    · exact h.2
    · exact absurd hp h.1
  · rcases key j hj with h | h
    · exact absurd h.1 hp
    · exact h.2
/-- What the reference tells of a screw. -/
theorem m56 {N : Nat} {st tk : Int} {ph : Ph} {zo : Zo} (hN : zo.length < N) (hN2 : ph.length < N) (hl : N < 1000000000) :
    ∃ e, sf56 N st ph zo tk = some e ∧ (e = 0 ↔ VS st ph zo tk) ∧ (e = 3 ↔ (8 < ph.length ∨ 3 < zo.length)) ∧ (e = 0 ∨ e = 1 ∨ e = 3) := by
  unfold sf56
  by_cases c1 : 8 < ph.length
  · simp only [decide_eq_true (show (8 : Int) < (ph.length : Int) by omega), cond_true, bnd_ret, sel]
    exact ⟨3, rfl, ⟨fun h => by omega, fun v => by have := v.lp; omega⟩, ⟨fun _ => .inl c1, fun _ => rfl⟩, .inr (.inr rfl)⟩
  simp only [decide_eq_false (show ¬ (8 : Int) < (ph.length : Int) by omega), cond_false, bnd_ret]
  by_cases c2 : 3 < zo.length
  · simp only [decide_eq_true (show (3 : Int) < (zo.length : Int) by omega), cond_true, bnd_ret, sel]
    exact ⟨3, rfl, ⟨fun h => by omega, fun v => by have := v.lz; omega⟩, ⟨fun _ => .inr c2, fun _ => rfl⟩, .inr (.inr rfl)⟩
  simp only [decide_eq_false (show ¬ (3 : Int) < (zo.length : Int) by omega), cond_false, bnd_ret, sel, m24]
  have bad : ¬ VS st ph zo tk → ∃ e : Int, some (1 : Int) = some e ∧ (e = 0 ↔ VS st ph zo tk) ∧ (e = 3 ↔ (8 < ph.length ∨ 3 < zo.length)) ∧ (e = 0 ∨ e = 1 ∨ e = 3) := fun h => ⟨1, rfl, ⟨fun e => by omega, fun v => absurd v h⟩, ⟨fun e => by omega, fun e => by omega⟩, .inr (.inl rfl)⟩
  by_cases c3 : 1 ≤ st ∧ st ≤ 50
  · simp only [decide_eq_true c3, Bool.not_true, cond_false, bnd_ret]
    by_cases c4 : 1 ≤ tk ∧ tk ≤ 60
    · simp only [decide_eq_true c4, Bool.not_true, cond_false]
      by_cases c5 : ph.length = 0
      · simp only [decide_eq_true (show (ph.length : Int) = 0 by omega), cond_true, bnd_ret, sel]
        exact bad fun v => by have := v.pn; omega
      simp only [decide_eq_false (show ¬ (ph.length : Int) = 0 by omega), cond_false]
      by_cases c6 : zo.length = 0
      · simp only [decide_eq_true (show (zo.length : Int) = 0 by omega), cond_true, bnd_ret, sel]
        exact bad fun v => by have := v.zn; omega
      simp only [decide_eq_false (show ¬ (zo.length : Int) = 0 by omega), cond_false]
      obtain ⟨y0, h0⟩ : ∃ z, zo[0]? = some z := ⟨_, lt_some (show 0 < zo.length by omega)⟩
      rw [show ix zo (0 : Int) (fun x85 => some (!decide (x85.1 = 0))) = some (!decide (y0.1 = 0)) from ix_at (n := 0) rfl h0, bnd_ret]
      by_cases c7 : y0.1 = 0
      · simp only [decide_eq_true c7, Bool.not_true, cond_false, bnd_ret, sel]
        rcases m56a hN (by omega) with ⟨g1, g2⟩ | ⟨g1, g2⟩
        · rw [g2, bnd_ret]
          show ∃ e, (bnd (iter (sf56_L3 N st ph zo) N (0 : Int)) _) = some e ∧ _
          have hzs : ∀ (k : Nat) (z : Int × Int × Int), zo[k]? = some z → spn z.2 := fun k z hz => (g1 k (some_lt hz) z hz).1.2
          rcases m56c (N := N) c3 hzs hN (by omega) hN2 (by omega) with ⟨q1, q2⟩ | ⟨q1, q2⟩
          · rw [q2, bnd_ret]
            refine ⟨0, rfl, ⟨fun _ => ⟨by omega, by omega, c3.1, c3.2, c4.1, c4.2, by omega, by omega, fun z hz => by rw [h0] at hz; cases hz; exact c7, fun i z hz => (g1 i (some_lt hz) z hz).1, fun i z z' hz hz' => (g1 (i + 1) (some_lt hz') z' hz').2 z (by omega) hz, fun i r hr => (q1 i (some_lt hr) r hr).1, fun i k r z hr hz => (q1 i (some_lt hr) r hr).2 k (some_lt hz) z hz⟩, fun _ => rfl⟩, ⟨fun e => by omega, fun e => by omega⟩, .inl rfl⟩
          · rw [q2, bnd_ret]
            exact bad fun v => q1 fun k hk r hr => ⟨v.ps k r hr, fun j hj z hz => v.go k j r z hr hz⟩
        · rw [g2, bnd_ret]
          exact bad fun v => g1 fun i hi z hz => ⟨v.zs i z hz, fun y hpos hy => v.zi (i - 1) y z hy (by rw [show i - 1 + 1 = i by omega]; exact hz)⟩
      · simp only [decide_eq_false c7, Bool.not_false, cond_true, bnd_ret, sel]
        exact bad fun v => c7 (v.z0 _ h0)
    · simp only [decide_eq_false c4, Bool.not_false, cond_true, bnd_ret, sel]
      exact bad fun v => c4 ⟨v.t1, v.t2⟩
  · simp only [decide_eq_false c3, Bool.not_false, cond_true, bnd_ret, sel]
    exact bad fun v => c3 ⟨v.s1, v.s2⟩
end Go.Hx.V

