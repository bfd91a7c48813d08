/- Functions of the program come to that. -/
import Derived.Test.YtcjidgfngjoclaaH05
import Derived.Test.YtcjidgfngjoclaaH06
import Derived.Test.YtcjidgfngjoclaaH03
set_option linter.all false
/- Functions of the program come to that. -/
namespace Go.Hx.V
open Go.Hx
set_option linter.unusedVariables false
set_option maxRecDepth 20000
set_option maxHeartbeats 4000000
attribute [local irreducible] W R C thenH inBlockH Tr.get Tr.set lo ck bnd ix iter
theorem ct64 (N : Nat) {a0_0 : Int} {a0_1 : Int} {a0_2 : Int} {a0_3 : Int} {a1 : (List (Int × Int × Int × Int))} {r : Int} (hF : sf64 N a0_0 a0_1 a0_2 a0_3 a1 = some r) {fl : Nat} {h0 : Tr HBlk} {n0 : Nat} {F0 : PH} (hd : D h0 n0) (hs : F0.sub h0) {pa1 : Option (Nat × Nat)} {ca1 : Nat} (ra1 : RowF (rP rI (rP rI (rP rI rI))) 4 F0 pa1 ca1 a1) : C LW fl 64 [(.agg [(i64 a0_0), (i64 a0_1), (i64 a0_2), (i64 a0_3)]), (.slice pa1 (a1).length ca1)] ⟨h0, n0⟩ (KS (i64 r) n0 h0) := by
  unfold sf64 at hF
  refine in_cT hd hs lw64 rfl rfl (by rfl) (fun st T hT => ?_)
  have hfl : n0 ≤ n0 := Nat.le_refl n0
  have t0 := hT 0 _ rfl
  have t1 := hT 1 _ rfl
  dsimp only [L64]
  refine w_seq ?_; refine w_reg ?_; refine v_box st (fun b1 h2 n3 st => ?_); refine v_move ?_; refine r_nil ?_; refine th_n ?_; refine w_seq ?_; refine w_seq ?_; refine w_reg ?_; refine v_ldn (vs := [(i64 a0_0), (i64 a0_1), (i64 a0_2), (i64 a0_3)]) (st.at (i := 0) rfl).2.2 rfl ?_; obtain ⟨v4, e5, hF⟩ := bnd_some hF; refine v_call st (ct20 N e5 st.d st.sub ) (fun n6 st => ?_); refine v_move ?_; refine r_nil ?_; refine th_n ?_; refine w_seq ?_; refine w_reg ?_; refine v_move ?_; refine v_nei ?_; refine r_nil ?_; refine th_n ?_; refine v_cond (fun hb7 => ?_) (fun hb7 => ?_)
  · have hF := bif_t hb7 hF; refine w_seq ?_; refine w_reg ?_; refine v_move ?_; refine v_move ?_; refine r_nil ?_; refine th_n ?_; refine w_ret ?_; refine th_r ?_; obtain rfl := inj hF
    exact end_s st (Res.t gA Res.nil) rfl rfl
  · have hF := bif_f hb7 hF; refine w_skip ?_; refine th_n ?_; refine w_seq ?_; refine w_seq ?_; refine w_reg ?_; refine v_move ?_; refine v_len ?_; refine v_gtr ?_; refine r_nil ?_; refine th_n ?_; refine v_cond (fun hb8 => ?_) (fun hb8 => ?_)
    · have hF := bif_t hb8 hF; refine w_seq ?_; refine w_reg ?_; refine v_move ?_; refine r_nil ?_; refine th_n ?_; refine w_ret ?_; refine th_r ?_; obtain rfl := inj hF
      exact end_s st (Res.t gA Res.nil) rfl rfl
    · have hF := bif_f hb8 hF; refine w_skip ?_; refine th_n ?_; refine w_seq ?_; refine w_seq ?_; refine w_reg ?_; refine v_move ?_; refine v_ldn (vs := [(i64 a0_0), (i64 a0_1), (i64 a0_2), (i64 a0_3)]) (st.at (i := 0) rfl).2.2 rfl ?_; refine v_mf ?_; obtain ⟨v9, e10, hF⟩ := bnd_some hF; refine v_call st (ct68 N e10 st.d st.sub ra1) (fun n11 st => ?_); refine v_not ?_; refine r_nil ?_; refine th_n ?_; refine v_cond (fun hb12 => ?_) (fun hb12 => ?_)
      · have hF := bif_t hb12 hF; refine w_seq ?_; refine w_reg ?_; refine v_move ?_; refine r_nil ?_; refine th_n ?_; refine w_ret ?_; refine th_r ?_; obtain rfl := inj hF
        exact end_s st (Res.t gA Res.nil) rfl rfl
      · have hF := bif_f hb12 hF; refine w_skip ?_; refine th_n ?_; refine w_seq ?_; refine w_reg ?_; refine v_move ?_; refine r_nil ?_; refine th_n ?_; refine w_ret ?_; obtain rfl := inj hF
        exact end_s st (Res.t gA Res.nil) rfl rfl
theorem ct70 (N : Nat) {a0_0 : Int} {a0_1 : Int} {a0_2 : Int} {a0_3 : Int} {a1 : (List (Int × Int × Int × Int))} {r : Int} (hF : sf70 N a0_0 a0_1 a0_2 a0_3 a1 = some r) {fl : Nat} {h0 : Tr HBlk} {n0 : Nat} {F0 : PH} (hd : D h0 n0) (hs : F0.sub h0) {pa1 : Option (Nat × Nat)} {ca1 : Nat} (ra1 : RowF (rP rI (rP rI (rP rI rI))) 4 F0 pa1 ca1 a1) : C LW fl 70 [(.agg [(i64 a0_0), (i64 a0_1), (i64 a0_2), (i64 a0_3)]), (.slice pa1 (a1).length ca1)] ⟨h0, n0⟩ (KS (i64 r) n0 h0) := by
  unfold sf70 at hF
  refine in_cT hd hs lw70 rfl rfl (by rfl) (fun st T hT => ?_)
  have hfl : n0 ≤ n0 := Nat.le_refl n0
  have t0 := hT 0 _ rfl
  have t1 := hT 1 _ rfl
  dsimp only [L70]
  refine w_seq ?_; refine w_reg ?_; refine v_box st (fun b1 h2 n3 st => ?_); refine v_move ?_; refine r_nil ?_; refine th_n ?_; refine w_seq ?_; refine w_seq ?_; refine w_reg ?_; refine v_ldn (vs := [(i64 a0_0), (i64 a0_1), (i64 a0_2), (i64 a0_3)]) (st.at (i := 0) rfl).2.2 rfl ?_; obtain ⟨v4, e5, hF⟩ := bnd_some hF; refine v_call st (ct25 N e5 st.d st.sub ) (fun n6 st => ?_); refine v_not ?_; refine r_nil ?_; refine th_n ?_; refine v_cond (fun hb7 => ?_) (fun hb7 => ?_)
  · have hF := bif_t hb7 hF; refine w_seq ?_; refine w_reg ?_; refine v_move ?_; refine r_nil ?_; refine th_n ?_; refine w_ret ?_; refine th_r ?_; obtain rfl := inj hF
    exact end_s st (Res.t gA Res.nil) rfl rfl
  · have hF := bif_f hb7 hF; refine w_skip ?_; refine th_n ?_; refine w_seq ?_; refine w_seq ?_; refine w_reg ?_; refine v_move ?_; refine v_len ?_; refine v_gtr ?_; refine r_nil ?_; refine th_n ?_; refine v_cond (fun hb8 => ?_) (fun hb8 => ?_)
    · have hF := bif_t hb8 hF; refine w_seq ?_; refine w_reg ?_; refine v_move ?_; refine r_nil ?_; refine th_n ?_; refine w_ret ?_; refine th_r ?_; obtain rfl := inj hF
      exact end_s st (Res.t gA Res.nil) rfl rfl
    · have hF := bif_f hb8 hF; refine w_skip ?_; refine th_n ?_; refine w_seq ?_; refine w_seq ?_; refine w_reg ?_; refine v_move ?_; refine r_nil ?_; refine th_n ?_; refine w_block ?_; obtain ⟨y48, hy, hF⟩ := bnd_some hF; refine v_loopD (sf70_L1 N a0_0 a1) (fun x9 T ds10 h nx => ∃ (F10 : PH), ds10 = [] ∧ PH.le F0 F10 ∧ St n0 h0 F0 F10 h nx [.bx b1 [(i64 a0_0), (i64 a0_1), (i64 a0_2), (i64 a0_3)]] ∧ T.get 1 = some (.slice pa1 (a1).length ca1) ∧ T.get 2 = some (.ptr (some (b1, 0))) ∧ T.get 5 = some (i64 x9)) (fun y e a σ => (∃ u, y = (.inl u) ∧ e = .ret ∧ a.nt = 46 ∧ ∃ (F50 : PH), a.defers = [] ∧ PH.le F0 F50 ∧ St n0 h0 F0 F50 σ.h σ.nx [.bx b1 [(i64 a0_0), (i64 a0_1), (i64 a0_2), (i64 a0_3)]] ∧ a.tmps.get 4 = some (i64 u)) ∨ (∃ u, y = (.inr u) ∧ e = .exit 0 ∧ a.nt = 46 ∧ ∃ (F52 : PH), a.defers = [] ∧ PH.le F0 F52 ∧ St n0 h0 F0 F52 σ.h σ.nx [.bx b1 [(i64 a0_0), (i64 a0_1), (i64 a0_2), (i64 a0_3)]])) (fun x9 T ds10 h nx s hp hF => ?_) N _ y48 _ _ _ _ hy ⟨F0, rfl, (PH.le.refl _), st, gA, gA, gA⟩ (fun e a σ hne hq => ?_)
      · obtain ⟨F10, rfl, le10, st, t1, t2, t5⟩ := hp; unfold sf70_L1 at hF; unfold L70w0; refine w_seq ?_; refine w_seq ?_; refine w_reg ?_; refine v_move ?_; refine v_move ?_; refine v_len ?_; refine v_lss ?_; refine r_nil ?_; refine th_n ?_; refine v_cond (fun hb53 => ?_) (fun hb53 => ?_)
        · have hF := bif_t hb53 hF; refine w_skip ?_; refine th_n ?_; refine w_seq ?_; refine w_block ?_; refine w_seq ?_; refine w_reg ?_; refine v_move ?_; refine v_move ?_; obtain ⟨n54, x54, z54, l54, g54, hF⟩ := ix_some hF; obtain ⟨b54, o54, s54, j54, r54, e54, f54, k54, ⟨_, _, rfl, rfl, ⟨_, _, rfl, rfl, ⟨_, _, rfl, rfl, rfl⟩⟩⟩⟩ := RowF.get ra1 g54; refine v_ixp e54 z54 l54 ?_; refine v_ldn (st.sub _ _ (le10 _ _ f54)) k54 ?_; refine v_alloc st (fun b55 h56 n57 st => ?_); refine v_st (cs' := [(i64 x54.1), (i64 x54.2.1), (i64 x54.2.2.1), (i64 x54.2.2.2)]) st 1 rfl rfl rfl rfl hfl (fun h58 st => ?_); refine r_nil ?_; refine th_n ?_; obtain ⟨y71, hA72, hF⟩ := bnd_some hF; refine w_cutD (fun T ds74 h nx => ∃ (F74 : PH), ds74 = [] ∧ PH.le F10 F74 ∧ St n0 h0 F0 F74 h nx [.bx b1 [(i64 a0_0), (i64 a0_1), (i64 a0_2), (i64 a0_3)], .bx b55 [(i64 x54.1), (i64 x54.2.1), (i64 x54.2.2.1), (i64 x54.2.2.2)]] ∧ T.get 1 = some (.slice pa1 (a1).length ca1) ∧ T.get 2 = some (.ptr (some (b1, 0))) ∧ T.get 5 = some (i64 x9) ∧ T.get 45 = some (.bool y71)) ?_ (fun T ds74 h nx hp => ?_)
          · have hK73 := hF
            have hF := hA72; refine w_reg ?_; refine v_fa ?_; refine v_ld1 (st.at (i := 1) rfl).2.2 rfl ?_; refine v_fa ?_; refine v_ld1 (st.at (i := 0) rfl).2.2 rfl ?_; obtain ⟨q75, hF⟩ := ck_some hF; refine v_sub q75 ?_; obtain ⟨v76, e77, hF⟩ := bnd_some hF; refine v_call st (ct37 N e77 st.d st.sub ) (fun n78 st => ?_); refine v_not ?_; refine v_move ?_
            rcases Bool.eq_false_or_eq_true (!v76) with hb79 | hb79
            · have hF := bif_t hb79 hF; refine g_skip hb79 ?_; refine g_skip hb79 ?_; refine g_skip hb79 ?_; refine g_skip hb79 ?_; refine g_skip hb79 ?_; refine g_skip hb79 ?_; refine g_skip hb79 ?_; refine g_skip hb79 ?_; refine v_pick hb79 ?_; refine v_move ?_; refine g_skip rfl ?_; refine g_skip rfl ?_; refine g_skip rfl ?_; refine g_skip rfl ?_; refine v_pick rfl ?_; refine r_nil ?_; obtain rfl := inj hF; refine thn ⟨rfl, ?_⟩; dsimp only
              exact ⟨F10, rfl, (PH.le.refl _), st, gA, gA, gA, gA⟩
            · have hF := bif_f hb79 hF; refine g_take hb79 (v_fa ?_); refine g_take hb79 (v_ld1 (st.at (i := 1) rfl).2.2 rfl ?_); refine g_take hb79 (v_fa ?_); refine g_take hb79 (v_ld1 (st.at (i := 1) rfl).2.2 rfl ?_); refine g_take hb79 (v_fa ?_); refine g_take hb79 (v_ld1 (st.at (i := 0) rfl).2.2 rfl ?_); obtain ⟨v80, e81, hF⟩ := bnd_some hF; refine g_take hb79 (v_call st (ct37 N e81 st.d st.sub ) (fun n82 st => ?_)); refine g_take hb79 (v_not ?_); refine v_pick' hb79 ?_; refine v_move ?_
              rcases Bool.eq_false_or_eq_true (!v80) with hb83 | hb83
              · have hF := bif_t hb83 hF; refine g_skip hb83 ?_; refine g_skip hb83 ?_; refine g_skip hb83 ?_; refine g_skip hb83 ?_; refine v_pick hb83 ?_; refine r_nil ?_; obtain rfl := inj hF; refine thn ⟨rfl, ?_⟩; dsimp only
                exact ⟨F10, rfl, (PH.le.refl _), st, gA, gA, gA, gA⟩
              · have hF := bif_f hb83 hF; refine g_take hb83 (v_fa ?_); refine g_take hb83 (v_ldn (vs := [(i64 x54.2.2.1), (i64 x54.2.2.2)]) (st.at (i := 1) rfl).2.2 rfl ?_); obtain ⟨v84, e85, hF⟩ := bnd_some hF; refine g_take hb83 (v_call st (ct48 N e85 st.d st.sub ) (fun n86 st => ?_)); refine g_take hb83 (v_not ?_); refine v_pick' hb83 ?_; refine r_nil ?_; obtain rfl := inj hF; refine thn ⟨rfl, ?_⟩; dsimp only
                exact ⟨F10, rfl, (PH.le.refl _), st, gA, gA, gA, gA⟩
          · obtain ⟨F74, rfl, le74, st, t1, t2, t5, t45⟩ := hp
            have le87 := PH.le.trans le10 le74
            refine v_cond (fun hb88 => ?_) (fun hb88 => ?_)
            · have hF := bif_t hb88 hF; refine w_seq ?_; refine w_reg ?_; refine v_move ?_; refine r_nil ?_; refine th_n ?_; refine w_ret ?_; refine ib_r ?_; refine th_r ?_; refine th_r ?_; refine ⟨_, (inj hF).symm, .inl ⟨_, rfl, rfl, rfl, ?_⟩⟩; dsimp only
              exact ⟨F74, rfl, le87, (st.drop (by first | exact List.Sublist.refl _ | (repeat first | exact List.nil_sublist _ | refine List.Sublist.cons_cons _ ?_ | refine List.Sublist.cons _ ?_))), gA⟩
            · have hF := bif_f hb88 hF; refine w_skip ?_; refine ib_n ?_; refine th_n ?_; refine w_reg ?_; refine v_move ?_; obtain ⟨q89, hF⟩ := ck_some hF; refine v_add q89 ?_; refine v_move ?_; refine r_nil ?_; refine thn ⟨_, (inj hF).symm, rfl, ?_⟩; dsimp only
              exact ⟨F74, rfl, le87, (st.drop (by first | exact List.Sublist.refl _ | (repeat first | exact List.nil_sublist _ | refine List.Sublist.cons_cons _ ?_ | refine List.Sublist.cons _ ?_))), gA, gA, gA⟩
        · have hF := bif_f hb53 hF; refine w_exit ?_; refine th_e ?_; refine th_e ?_; refine ⟨_, (inj hF).symm, .inr (⟨_, rfl, rfl, rfl, ?_⟩)⟩; dsimp only
          exact ⟨F10, rfl, le10, st⟩
      · rcases hq with hq | hq
        · obtain ⟨N9, T, ds50⟩ := a; obtain ⟨h90, n91⟩ := σ; obtain ⟨w49, rfl, rfl, e1, F50, e2, le50, st, t4⟩ := hq
          dsimp only at e1 e2
          subst e1
          subst e2
          dsimp only at st t4
          have hF := sel_l hF; refine ib_r ?_; refine th_r ?_; obtain rfl := inj hF
          exact end_s st (Res.t gA Res.nil) rfl rfl
        · obtain ⟨N9, T, ds52⟩ := a; obtain ⟨h92, n93⟩ := σ; obtain ⟨w51, rfl, rfl, e1, F52, e2, le52, st⟩ := hq
          dsimp only at e1 e2
          subst e1
          subst e2
          dsimp only at st
          have hF := sel_r hF; refine ib_e ?_; refine th_n ?_; refine w_seq ?_; refine w_reg ?_; refine v_move ?_; refine r_nil ?_; refine th_n ?_; refine w_ret ?_; obtain rfl := inj hF
          exact end_s st (Res.t gA Res.nil) rfl rfl
end Go.Hx.V

/- Functions of the program come to that. -/
namespace Go.Hx.V
open Go.Hx
set_option linter.unusedVariables false
set_option maxRecDepth 20000
set_option maxHeartbeats 4000000
attribute [local irreducible] W R C thenH inBlockH Tr.get Tr.set lo ck bnd ix iter
theorem ct22 (N : Nat) {a0_0 : Int} {a0_1 : Int} {a0_2 : Int} {a0_3 : Int} {a1 : (List (Int × Int × Int × Int))} {a2 : (List Int)} {r : Bool} (hF : sf22 N a0_0 a0_1 a0_2 a0_3 a1 a2 = some r) {fl : Nat} {h0 : Tr HBlk} {n0 : Nat} {F0 : PH} (hd : D h0 n0) (hs : F0.sub h0) {pa1 : Option (Nat × Nat)} {ca1 : Nat} {pa2 : Option (Nat × Nat)} {ca2 : Nat} (ra1 : RowF (rP rI (rP rI (rP rI rI))) 4 F0 pa1 ca1 a1) (ra2 : RowF rI 1 F0 pa2 ca2 a2) : C LW fl 22 [(.agg [(i64 a0_0), (i64 a0_1), (i64 a0_2), (i64 a0_3)]), (.slice pa1 (a1).length ca1), (.slice pa2 (a2).length ca2)] ⟨h0, n0⟩ (KS (.bool r) n0 h0) := by
  unfold sf22 at hF
  refine in_cT hd hs lw22 rfl rfl (by rfl) (fun st T hT => ?_)
  have hfl : n0 ≤ n0 := Nat.le_refl n0
  have t0 := hT 0 _ rfl
  have t1 := hT 1 _ rfl
  have t2 := hT 2 _ rfl
  dsimp only [L22]
  refine w_seq ?_; refine w_reg ?_; refine v_box st (fun b1 h2 n3 st => ?_); refine v_move ?_; refine r_nil ?_; refine th_n ?_; obtain ⟨y25, hA26, hF⟩ := bnd_some hF; refine w_cutD (fun T ds31 h nx => ∃ u, y25 = (.inr u) ∧ ∃ (F31 : PH), ds31 = [] ∧ PH.le F0 F31 ∧ St n0 h0 F0 F31 h nx [.bx b1 [(i64 a0_0), (i64 a0_1), (i64 a0_2), (i64 a0_3)]] ∧ T.get 1 = some (.slice pa1 (a1).length ca1) ∧ T.get 2 = some (.slice pa2 (a2).length ca2) ∧ T.get 3 = some (.ptr (some (b1, 0)))) ?_ (fun T ds31 h nx hp => ?_)
  · have hK27 := hF
    have hF := hA26; obtain ⟨y40, hA41, hF⟩ := bnd_some hF; refine w_cutD (fun T ds43 h nx => ∃ (F43 : PH), ds43 = [] ∧ PH.le F0 F43 ∧ St n0 h0 F0 F43 h nx [.bx b1 [(i64 a0_0), (i64 a0_1), (i64 a0_2), (i64 a0_3)]] ∧ T.get 1 = some (.slice pa1 (a1).length ca1) ∧ T.get 2 = some (.slice pa2 (a2).length ca2) ∧ T.get 3 = some (.ptr (some (b1, 0))) ∧ T.get 26 = some (.bool y40)) ?_ (fun T ds43 h nx hp => ?_)
    · have hK42 := hF
      have hF := hA41; refine w_reg ?_; refine v_ldn (vs := [(i64 a0_0), (i64 a0_1), (i64 a0_2), (i64 a0_3)]) (st.at (i := 0) rfl).2.2 rfl ?_; refine v_move ?_; obtain ⟨v44, e45, hF⟩ := bnd_some hF; refine v_call st (ct64 N e45 st.d st.sub ra1) (fun n46 st => ?_); refine v_nei ?_; refine v_move ?_
      rcases Bool.eq_false_or_eq_true (!(decide (v44 = (0 : Int)))) with hb47 | hb47
      · have hF := bif_t hb47 hF; refine g_skip hb47 ?_; refine g_skip hb47 ?_; refine g_skip hb47 ?_; refine g_skip hb47 ?_; refine g_skip hb47 ?_; refine v_pick hb47 ?_; refine v_move ?_; refine g_skip rfl ?_; refine g_skip rfl ?_; refine g_skip rfl ?_; refine g_skip rfl ?_; refine g_skip rfl ?_; refine g_skip rfl ?_; refine v_pick rfl ?_; refine r_nil ?_; obtain rfl := inj hF; refine thn ⟨rfl, ?_⟩; dsimp only
        exact ⟨F0, rfl, (PH.le.refl _), st, gA, gA, gA, gA⟩
      · have hF := bif_f hb47 hF; refine g_take hb47 (v_move ?_); refine g_take hb47 (v_len ?_); refine g_take hb47 (v_fa ?_); refine g_take hb47 (v_ld1 (st.at (i := 0) rfl).2.2 rfl ?_); refine g_take hb47 (v_nei ?_); refine v_pick' hb47 ?_; refine v_move ?_
        rcases Bool.eq_false_or_eq_true (!(decide (((a2).length : Int) = a0_0))) with hb48 | hb48
        · have hF := bif_t hb48 hF; refine g_skip hb48 ?_; refine g_skip hb48 ?_; refine g_skip hb48 ?_; refine g_skip hb48 ?_; refine g_skip hb48 ?_; refine g_skip hb48 ?_; refine v_pick hb48 ?_; refine r_nil ?_; obtain rfl := inj hF; refine thn ⟨rfl, ?_⟩; dsimp only
          exact ⟨F0, rfl, (PH.le.refl _), st, gA, gA, gA, gA⟩
        · have hF := bif_f hb48 hF; refine g_take hb48 (v_move ?_); refine g_take hb48 (v_fa ?_); refine g_take hb48 (v_ldn (vs := [(i64 a0_2), (i64 a0_3)]) (st.at (i := 0) rfl).2.2 rfl ?_); refine g_take hb48 (v_mf ?_); obtain ⟨v49, e50, hF⟩ := bnd_some hF; refine g_take hb48 (v_call st (ct65 N e50 st.d st.sub ra2) (fun n51 st => ?_)); refine g_take hb48 (v_not ?_); refine v_pick' hb48 ?_; refine r_nil ?_; obtain rfl := inj hF; refine thn ⟨rfl, ?_⟩; dsimp only
          exact ⟨F0, rfl, (PH.le.refl _), st, gA, gA, gA, gA⟩
    · obtain ⟨F43, rfl, le43, st, t1, t2, t3, t26⟩ := hp; refine v_cond (fun hb52 => ?_) (fun hb52 => ?_)
      · have hF := bif_t hb52 hF; refine w_seq ?_; refine w_reg ?_; refine v_move ?_; refine r_nil ?_; refine th_n ?_; refine w_ret ?_; obtain rfl := inj hF; have hF := hK27; have hF := sel_l hF; refine th_r ?_; obtain rfl := inj hF
        exact end_s st (Res.t gA Res.nil) rfl rfl
      · have hF := bif_f hb52 hF; refine w_skip ?_; obtain rfl := inj hF; refine thn ⟨rfl, _, rfl, ?_⟩; dsimp only
        exact ⟨F43, rfl, le43, st, gA, gA, gA⟩
  · obtain ⟨w30, rfl, F31, rfl, le31, st, t1, t2, t3⟩ := hp; have hF := sel_r hF; refine w_seq ?_; refine w_reg ?_; refine v_move ?_; obtain ⟨v53, e54, hF⟩ := bnd_some hF; refine v_callR st (ct67 N e54 st.d st.sub (Nat.le_trans hfl st.ext.le) (RowF.mono le31 ra2)) (fun u55 F55 h55 n55 le55 rv55 st => ?_)
    have le56 := PH.le.trans le31 le55
    obtain ⟨py57, cy57, rfl, ry57⟩ := rv55; refine v_move ?_; refine r_nil ?_; refine th_n ?_; refine w_seq ?_; refine w_drawV (Nat.le_trans hfl st.ext.le) (fun dw => ?_); refine y_pure st.d dw (fun hm vw => v_move pr_nil) ?_; refine y_pure st.d dw (fun hm vw => v_fa pr_nil) ?_; refine y_pure st.d dw (fun hm vw => v_ld1 (vw.bx (st.at (i := 0) rfl)) rfl pr_nil) ?_; obtain ⟨n58, x58, z58, l58, g58, hF⟩ := ix_some hF; obtain ⟨b58, o58, s58, j58, r58, e58, f58, k58, rfl⟩ := RowF.get ry57 g58; refine y_pure st.d dw (fun hm vw => v_ixp e58 z58 l58 pr_nil) ?_; refine y_pure st.d dw (fun hm vw => v_ld1 (vw.fz st f58) (take_at (j := 0) k58 rfl) pr_nil) ?_; refine y_pure st.d dw (fun hm vw => v_fa pr_nil) ?_
    refine y_pure st.d dw (fun hm vw => v_ld1 (vw.bx (st.at (i := 0) rfl)) rfl pr_nil) ?_; refine y_end st.d dw rfl (fun h59 ex vs => ?_)
    have st := st.ext1 ex
    refine v_eqi ?_; refine v_move ?_
    rcases Bool.eq_false_or_eq_true (decide (x58 = a0_1)) with hb60 | hb60
    · have hF := bif_t hb60 hF; refine g_take hb60 (v_move ?_); refine g_take hb60 (v_move ?_); refine g_take hb60 (v_mf ?_); obtain ⟨v61, e62, hF⟩ := bnd_some hF; refine g_take hb60 (v_call st (ct68_2 N e62 st.d st.sub (RowF.mono le56 ra1) ry57) (fun n63 st => ?_)); refine v_pick hb60 ?_; refine v_move ?_; refine r_nil ?_; refine th_n ?_; refine w_ret ?_; obtain rfl := inj hF
      exact end_s st (Res.t gA Res.nil) rfl rfl
    · have hF := bif_f hb60 hF; refine g_skip hb60 ?_; refine g_skip hb60 ?_; refine g_skip hb60 ?_; refine g_skip hb60 ?_; refine v_pick' hb60 ?_; refine v_move ?_; refine r_nil ?_; refine th_n ?_; refine w_ret ?_; obtain rfl := inj hF
      exact end_s st (Res.t gA Res.nil) rfl rfl
theorem ct26 (N : Nat) {a0_0 : Int} {a0_1 : Int} {a0_2 : Int} {a0_3 : Int} {a1 : (List (Int × Int × Int × Int))} {r : Int} (hF : sf26 N a0_0 a0_1 a0_2 a0_3 a1 = some r) {fl : Nat} {h0 : Tr HBlk} {n0 : Nat} {F0 : PH} (hd : D h0 n0) (hs : F0.sub h0) {pa1 : Option (Nat × Nat)} {ca1 : Nat} (ra1 : RowF (rP rI (rP rI (rP rI rI))) 4 F0 pa1 ca1 a1) : C LW fl 26 [(.agg [(i64 a0_0), (i64 a0_1), (i64 a0_2), (i64 a0_3)]), (.slice pa1 (a1).length ca1)] ⟨h0, n0⟩ (KS (i64 r) n0 h0) := by
  unfold sf26 at hF
  refine in_cT hd hs lw26 rfl rfl (by rfl) (fun st T hT => ?_)
  have hfl : n0 ≤ n0 := Nat.le_refl n0
  have t0 := hT 0 _ rfl
  have t1 := hT 1 _ rfl
  dsimp only [L26]
  refine w_seq ?_; refine w_reg ?_; refine v_box st (fun b1 h2 n3 st => ?_); refine v_move ?_; refine r_nil ?_; refine th_n ?_; refine w_seq ?_; refine w_reg ?_; refine v_ldn (vs := [(i64 a0_0), (i64 a0_1), (i64 a0_2), (i64 a0_3)]) (st.at (i := 0) rfl).2.2 rfl ?_; refine v_move ?_; obtain ⟨v4, e5, hF⟩ := bnd_some hF; refine v_call st (ct70 N e5 st.d st.sub ra1) (fun n6 st => ?_); refine v_move ?_; refine r_nil ?_; refine th_n ?_; refine w_ret ?_; obtain rfl := inj hF
  exact end_s st (Res.t gA Res.nil) rfl rfl
theorem ct72 (N : Nat) {a0_0 : Int} {a0_1 : Int} {a0_2 : Int} {a0_3 : Int} {a1 : (List (Int × Int × Int × Int))} {a2 : Bool} {r : (Int × Int × Int × Int × Int × (Nat → Int) × Int)} (hF : sf72 N a0_0 a0_1 a0_2 a0_3 a1 a2 = some r) {fl : Nat} {h0 : Tr HBlk} {n0 : Nat} {F0 : PH} (hd : D h0 n0) (hs : F0.sub h0) {pa1 : Option (Nat × Nat)} {ca1 : Nat} (ra1 : RowF (rP rI (rP rI (rP rI rI))) 4 F0 pa1 ca1 a1) : C LW fl 72 [(.agg [(i64 a0_0), (i64 a0_1), (i64 a0_2), (i64 a0_3)]), (.slice pa1 (a1).length ca1), (.bool a2)] ⟨h0, n0⟩ (KS (.tuple [(.agg ([(i64 r.1), (i64 r.2.1), (i64 r.2.2.1), (i64 r.2.2.2.1), (i64 r.2.2.2.2.1)] ++ (eI .i64 169 r.2.2.2.2.2.1))), (i64 r.2.2.2.2.2.2)]) n0 h0) := by
  unfold sf72 at hF
  refine in_cT hd hs lw72 rfl rfl (by rfl) (fun st T hT => ?_)
  have hfl : n0 ≤ n0 := Nat.le_refl n0
  have t0 := hT 0 _ rfl
  have t1 := hT 1 _ rfl
  have t2 := hT 2 _ rfl
  dsimp only [L72]
  refine w_seq ?_; refine w_reg ?_; refine v_box st (fun b1 h2 n3 st => ?_); refine v_alloc st (fun b4 h5 n6 st => ?_)
  have st := st.cells 1 rfl ([(i64 (0 : Int)), (i64 (0 : Int)), (i64 (0 : Int)), (i64 (0 : Int)), (i64 (0 : Int))] ++ (eI .i64 169 (fun _ => 0))) rfl
  refine v_move ?_; refine r_nil ?_; refine th_n ?_; refine w_seq ?_; refine w_seq ?_; refine w_reg ?_; refine v_ldn (vs := [(i64 a0_0), (i64 a0_1), (i64 a0_2), (i64 a0_3)]) (st.at (i := 0) rfl).2.2 rfl ?_; refine v_move ?_; obtain ⟨v7, e8, hF⟩ := bnd_some hF; refine v_call st (ct64 N e8 st.d st.sub ra1) (fun n9 st => ?_); refine v_move ?_; refine r_nil ?_; refine th_n ?_; refine w_seq ?_; refine w_reg ?_; refine v_move ?_; refine v_nei ?_; refine r_nil ?_; refine th_n ?_; refine v_cond (fun hb10 => ?_) (fun hb10 => ?_)
  · have hF := bif_t hb10 hF; refine w_seq ?_; refine w_reg ?_; refine v_build (cs := ([(i64 (0 : Int)), (i64 (0 : Int)), (i64 (0 : Int)), (i64 (0 : Int)), (i64 (0 : Int))] ++ (eI .i64 169 (fun _ => 0)))) rfl ?_; refine v_move ?_
    refine v_st (v := (.agg ([(i64 (0 : Int)), (i64 (0 : Int)), (i64 (0 : Int)), (i64 (0 : Int)), (i64 (0 : Int))] ++ (eI .i64 169 (fun _ => 0))))) (cs' := ([(i64 (0 : Int)), (i64 (0 : Int)), (i64 (0 : Int)), (i64 (0 : Int)), (i64 (0 : Int))] ++ (eI .i64 169 (fun _ => 0)))) st 1 rfl (ov_tail (q := ([(i64 (0 : Int)), (i64 (0 : Int)), (i64 (0 : Int)), (i64 (0 : Int)), (i64 (0 : Int))] ++ (eI .i64 169 (fun _ => 0)))) (r := ([(i64 (0 : Int)), (i64 (0 : Int)), (i64 (0 : Int)), (i64 (0 : Int)), (i64 (0 : Int))] ++ (eI .i64 169 (fun _ => 0)))) [] rfl (by simp [eI_len, eB_len])) (len_tail (E := (eI .i64 169 (fun _ => 0))) [(i64 (0 : Int)), (i64 (0 : Int)), (i64 (0 : Int)), (i64 (0 : Int)), (i64 (0 : Int))] eI_len rfl) (one_tail (E := (eI .i64 169 (fun _ => 0))) [(i64 (0 : Int)), (i64 (0 : Int)), (i64 (0 : Int)), (i64 (0 : Int)), (i64 (0 : Int))] rfl eI_one) hfl (fun h11 st => ?_)
    refine v_move ?_; refine r_nil ?_; refine th_n ?_; refine w_ret ?_; refine th_r ?_; obtain rfl := inj hF
    exact end_s st (Res.c gA (st.at (i := 1) rfl).2.2 (show takeN _ _ = some ([(i64 (0 : Int)), (i64 (0 : Int)), (i64 (0 : Int)), (i64 (0 : Int)), (i64 (0 : Int))] ++ (eI .i64 169 (fun _ => 0))) from (tk_tail (E := (eI .i64 169 (fun _ => 0))) [] [(i64 (0 : Int)), (i64 (0 : Int)), (i64 (0 : Int)), (i64 (0 : Int)), (i64 (0 : Int))] rfl eI_len rfl)) (Res.t gA Res.nil)) rfl rfl
  · have hF := bif_f hb10 hF; refine w_skip ?_; refine th_n ?_; refine w_seq ?_; refine w_seq ?_; refine w_reg ?_; refine v_move ?_; refine v_not ?_; refine r_nil ?_; refine th_n ?_; refine v_cond (fun hb12 => ?_) (fun hb12 => ?_)
    · have hF := bif_t hb12 hF; refine w_seq ?_; refine w_reg ?_; refine v_build (cs := ([(i64 (0 : Int)), (i64 (0 : Int)), (i64 (0 : Int)), (i64 (0 : Int)), (i64 (0 : Int))] ++ (eI .i64 169 (fun _ => 0)))) rfl ?_
      refine v_st (v := (.agg ([(i64 (0 : Int)), (i64 (0 : Int)), (i64 (0 : Int)), (i64 (0 : Int)), (i64 (0 : Int))] ++ (eI .i64 169 (fun _ => 0))))) (cs' := ([(i64 (0 : Int)), (i64 (0 : Int)), (i64 (0 : Int)), (i64 (0 : Int)), (i64 (0 : Int))] ++ (eI .i64 169 (fun _ => 0)))) st 1 rfl (ov_tail (q := ([(i64 (0 : Int)), (i64 (0 : Int)), (i64 (0 : Int)), (i64 (0 : Int)), (i64 (0 : Int))] ++ (eI .i64 169 (fun _ => 0)))) (r := ([(i64 (0 : Int)), (i64 (0 : Int)), (i64 (0 : Int)), (i64 (0 : Int)), (i64 (0 : Int))] ++ (eI .i64 169 (fun _ => 0)))) [] rfl (by simp [eI_len, eB_len])) (len_tail (E := (eI .i64 169 (fun _ => 0))) [(i64 (0 : Int)), (i64 (0 : Int)), (i64 (0 : Int)), (i64 (0 : Int)), (i64 (0 : Int))] eI_len rfl) (one_tail (E := (eI .i64 169 (fun _ => 0))) [(i64 (0 : Int)), (i64 (0 : Int)), (i64 (0 : Int)), (i64 (0 : Int)), (i64 (0 : Int))] rfl eI_one) hfl (fun h13 st => ?_)
      refine v_move ?_; refine r_nil ?_; refine th_n ?_; refine w_ret ?_; refine th_r ?_; obtain rfl := inj hF
      exact end_s st (Res.c gA (st.at (i := 1) rfl).2.2 (show takeN _ _ = some ([(i64 (0 : Int)), (i64 (0 : Int)), (i64 (0 : Int)), (i64 (0 : Int)), (i64 (0 : Int))] ++ (eI .i64 169 (fun _ => 0))) from (tk_tail (E := (eI .i64 169 (fun _ => 0))) [] [(i64 (0 : Int)), (i64 (0 : Int)), (i64 (0 : Int)), (i64 (0 : Int)), (i64 (0 : Int))] rfl eI_len rfl)) (Res.t gA Res.nil)) rfl rfl
    · have hF := bif_f hb12 hF; refine w_skip ?_; refine th_n ?_; refine w_seq ?_; refine w_reg ?_; refine v_ldn (vs := [(i64 a0_0), (i64 a0_1), (i64 a0_2), (i64 a0_3)]) (st.at (i := 0) rfl).2.2 rfl ?_; refine v_move ?_; obtain ⟨v14, e15, hF⟩ := bnd_some hF; refine v_call st (ct89 N e15 st.d st.sub ra1) (fun n16 st => ?_); refine v_move ?_; refine v_xt rfl ?_; refine v_xt rfl ?_; refine v_alloc st (fun b17 h18 n19 st => ?_)
      have st := st.cells 2 rfl ([(i64 (0 : Int)), (i64 (0 : Int)), (i64 (0 : Int)), (i64 (0 : Int)), (i64 (0 : Int))] ++ (eI .i64 169 (fun _ => 0))) rfl
      refine v_st (v := (.agg ([(i64 v14.1), (i64 v14.2.1), (i64 v14.2.2.1), (i64 v14.2.2.2.1), (i64 v14.2.2.2.2.1)] ++ (eI .i64 169 v14.2.2.2.2.2.1)))) (cs' := ([(i64 v14.1), (i64 v14.2.1), (i64 v14.2.2.1), (i64 v14.2.2.2.1), (i64 v14.2.2.2.2.1)] ++ (eI .i64 169 v14.2.2.2.2.2.1))) st 2 rfl (ov_tail (q := ([(i64 (0 : Int)), (i64 (0 : Int)), (i64 (0 : Int)), (i64 (0 : Int)), (i64 (0 : Int))] ++ (eI .i64 169 (fun _ => 0)))) (r := ([(i64 v14.1), (i64 v14.2.1), (i64 v14.2.2.1), (i64 v14.2.2.2.1), (i64 v14.2.2.2.2.1)] ++ (eI .i64 169 v14.2.2.2.2.2.1))) [] rfl (by simp [eI_len, eB_len])) (len_tail (E := (eI .i64 169 v14.2.2.2.2.2.1)) [(i64 v14.1), (i64 v14.2.1), (i64 v14.2.2.1), (i64 v14.2.2.2.1), (i64 v14.2.2.2.2.1)] eI_len rfl) (one_tail (E := (eI .i64 169 v14.2.2.2.2.2.1)) [(i64 v14.1), (i64 v14.2.1), (i64 v14.2.2.1), (i64 v14.2.2.2.1), (i64 v14.2.2.2.2.1)] rfl eI_one) hfl (fun h20 st => ?_)
      refine v_move ?_; refine r_nil ?_; refine th_n ?_; refine w_seq ?_; refine w_seq ?_; refine w_reg ?_; refine v_move ?_; refine v_not ?_; refine r_nil ?_; refine th_n ?_; refine v_cond (fun hb21 => ?_) (fun hb21 => ?_)
      · have hF := bif_t hb21 hF; refine w_seq ?_; refine w_reg ?_; refine v_build (cs := ([(i64 (0 : Int)), (i64 (0 : Int)), (i64 (0 : Int)), (i64 (0 : Int)), (i64 (0 : Int))] ++ (eI .i64 169 (fun _ => 0)))) rfl ?_
        refine v_st (v := (.agg ([(i64 (0 : Int)), (i64 (0 : Int)), (i64 (0 : Int)), (i64 (0 : Int)), (i64 (0 : Int))] ++ (eI .i64 169 (fun _ => 0))))) (cs' := ([(i64 (0 : Int)), (i64 (0 : Int)), (i64 (0 : Int)), (i64 (0 : Int)), (i64 (0 : Int))] ++ (eI .i64 169 (fun _ => 0)))) st 1 rfl (ov_tail (q := ([(i64 (0 : Int)), (i64 (0 : Int)), (i64 (0 : Int)), (i64 (0 : Int)), (i64 (0 : Int))] ++ (eI .i64 169 (fun _ => 0)))) (r := ([(i64 (0 : Int)), (i64 (0 : Int)), (i64 (0 : Int)), (i64 (0 : Int)), (i64 (0 : Int))] ++ (eI .i64 169 (fun _ => 0)))) [] rfl (by simp [eI_len, eB_len])) (len_tail (E := (eI .i64 169 (fun _ => 0))) [(i64 (0 : Int)), (i64 (0 : Int)), (i64 (0 : Int)), (i64 (0 : Int)), (i64 (0 : Int))] eI_len rfl) (one_tail (E := (eI .i64 169 (fun _ => 0))) [(i64 (0 : Int)), (i64 (0 : Int)), (i64 (0 : Int)), (i64 (0 : Int)), (i64 (0 : Int))] rfl eI_one) hfl (fun h22 st => ?_)
        refine v_move ?_; refine r_nil ?_; refine th_n ?_; refine w_ret ?_; refine th_r ?_; obtain rfl := inj hF
        exact end_s st (Res.c gA (st.at (i := 1) rfl).2.2 (show takeN _ _ = some ([(i64 (0 : Int)), (i64 (0 : Int)), (i64 (0 : Int)), (i64 (0 : Int)), (i64 (0 : Int))] ++ (eI .i64 169 (fun _ => 0))) from (tk_tail (E := (eI .i64 169 (fun _ => 0))) [] [(i64 (0 : Int)), (i64 (0 : Int)), (i64 (0 : Int)), (i64 (0 : Int)), (i64 (0 : Int))] rfl eI_len rfl)) (Res.t gA Res.nil)) rfl rfl
      · have hF := bif_f hb21 hF; refine w_skip ?_; refine th_n ?_; refine w_seq ?_; refine w_reg ?_; refine v_ldn (vs := ([(i64 v14.1), (i64 v14.2.1), (i64 v14.2.2.1), (i64 v14.2.2.2.1), (i64 v14.2.2.2.2.1)] ++ (eI .i64 169 v14.2.2.2.2.2.1))) (st.at (i := 2) rfl).2.2 (tk_tail (E := (eI .i64 169 v14.2.2.2.2.2.1)) [] [(i64 v14.1), (i64 v14.2.1), (i64 v14.2.2.1), (i64 v14.2.2.2.1), (i64 v14.2.2.2.2.1)] rfl eI_len rfl) ?_
        refine v_st (v := (.agg ([(i64 v14.1), (i64 v14.2.1), (i64 v14.2.2.1), (i64 v14.2.2.2.1), (i64 v14.2.2.2.2.1)] ++ (eI .i64 169 v14.2.2.2.2.2.1)))) (cs' := ([(i64 v14.1), (i64 v14.2.1), (i64 v14.2.2.1), (i64 v14.2.2.2.1), (i64 v14.2.2.2.2.1)] ++ (eI .i64 169 v14.2.2.2.2.2.1))) st 1 rfl (ov_tail (q := ([(i64 (0 : Int)), (i64 (0 : Int)), (i64 (0 : Int)), (i64 (0 : Int)), (i64 (0 : Int))] ++ (eI .i64 169 (fun _ => 0)))) (r := ([(i64 v14.1), (i64 v14.2.1), (i64 v14.2.2.1), (i64 v14.2.2.2.1), (i64 v14.2.2.2.2.1)] ++ (eI .i64 169 v14.2.2.2.2.2.1))) [] rfl (by simp [eI_len, eB_len])) (len_tail (E := (eI .i64 169 v14.2.2.2.2.2.1)) [(i64 v14.1), (i64 v14.2.1), (i64 v14.2.2.1), (i64 v14.2.2.2.1), (i64 v14.2.2.2.2.1)] eI_len rfl) (one_tail (E := (eI .i64 169 v14.2.2.2.2.2.1)) [(i64 v14.1), (i64 v14.2.1), (i64 v14.2.2.1), (i64 v14.2.2.2.1), (i64 v14.2.2.2.2.1)] rfl eI_one) hfl (fun h23 st => ?_)
        refine v_move ?_; refine r_nil ?_; refine th_n ?_; refine w_ret ?_; obtain rfl := inj hF
        exact end_s st (Res.c gA (st.at (i := 1) rfl).2.2 (show takeN _ _ = some ([(i64 v14.1), (i64 v14.2.1), (i64 v14.2.2.1), (i64 v14.2.2.2.1), (i64 v14.2.2.2.2.1)] ++ (eI .i64 169 v14.2.2.2.2.2.1)) from (tk_tail (E := (eI .i64 169 v14.2.2.2.2.2.1)) [] [(i64 v14.1), (i64 v14.2.1), (i64 v14.2.2.1), (i64 v14.2.2.2.1), (i64 v14.2.2.2.2.1)] rfl eI_len rfl)) (Res.t gA Res.nil)) rfl rfl
end Go.Hx.V

/- Functions of the program come to that. -/
namespace Go.Hx.V
open Go.Hx
set_option linter.unusedVariables false
set_option maxRecDepth 20000
set_option maxHeartbeats 4000000
attribute [local irreducible] W R C thenH inBlockH Tr.get Tr.set lo ck bnd ix iter
theorem ct3 (N : Nat) {a0_0 : Int} {a0_1 : Int} {a0_2 : Int} {a0_3 : Int} {a1 : (List (Int × Int × Int × Int))} {a2 : (List Int)} {r : Bool} (hF : sf3 N a0_0 a0_1 a0_2 a0_3 a1 a2 = some r) {fl : Nat} {h0 : Tr HBlk} {n0 : Nat} {F0 : PH} (hd : D h0 n0) (hs : F0.sub h0) {pa1 : Option (Nat × Nat)} {ca1 : Nat} {pa2 : Option (Nat × Nat)} {ca2 : Nat} (ra1 : RowF (rP rI (rP rI (rP rI rI))) 4 F0 pa1 ca1 a1) (ra2 : RowF rI 1 F0 pa2 ca2 a2) : C LW fl 3 [(.agg [(i64 a0_0), (i64 a0_1), (i64 a0_2), (i64 a0_3)]), (.slice pa1 (a1).length ca1), (.slice pa2 (a2).length ca2)] ⟨h0, n0⟩ (KS (.bool r) n0 h0) := by
  unfold sf3 at hF
  refine in_cT hd hs lw3 rfl rfl (by rfl) (fun st T hT => ?_)
  have hfl : n0 ≤ n0 := Nat.le_refl n0
  have t0 := hT 0 _ rfl
  have t1 := hT 1 _ rfl
  have t2 := hT 2 _ rfl
  dsimp only [L3]
  refine w_seq ?_; refine w_reg ?_; refine v_box st (fun b1 h2 n3 st => ?_); refine v_move ?_; refine r_nil ?_; refine th_n ?_; obtain ⟨y12, hA13, hF⟩ := bnd_some hF; refine w_cutD (fun T ds18 h nx => ∃ u, y12 = (.inr u) ∧ ∃ (F18 : PH), ds18 = [] ∧ PH.le F0 F18 ∧ St n0 h0 F0 F18 h nx [.bx b1 [(i64 a0_0), (i64 a0_1), (i64 a0_2), (i64 a0_3)]] ∧ T.get 1 = some (.slice pa1 (a1).length ca1) ∧ T.get 2 = some (.slice pa2 (a2).length ca2) ∧ T.get 3 = some (.ptr (some (b1, 0)))) ?_ (fun T ds18 h nx hp => ?_)
  · have hK14 := hF
    have hF := hA13; obtain ⟨y20, hA21, hF⟩ := bnd_some hF; refine w_cutD (fun T ds23 h nx => ∃ (F23 : PH), ds23 = [] ∧ PH.le F0 F23 ∧ St n0 h0 F0 F23 h nx [.bx b1 [(i64 a0_0), (i64 a0_1), (i64 a0_2), (i64 a0_3)]] ∧ T.get 1 = some (.slice pa1 (a1).length ca1) ∧ T.get 2 = some (.slice pa2 (a2).length ca2) ∧ T.get 3 = some (.ptr (some (b1, 0))) ∧ T.get 17 = some (.bool y20)) ?_ (fun T ds23 h nx hp => ?_)
    · have hK22 := hF
      have hF := hA21; refine w_reg ?_; refine v_move ?_; refine v_len ?_; refine v_gtr ?_; refine v_move ?_
      rcases Bool.eq_false_or_eq_true (decide ((15 : Int) < ((a1).length : Int))) with hb24 | hb24
      · have hF := bif_t hb24 hF; refine g_skip hb24 ?_; refine g_skip hb24 ?_; refine g_skip hb24 ?_; refine v_pick hb24 ?_; refine r_nil ?_; obtain rfl := inj hF; refine thn ⟨rfl, ?_⟩; dsimp only
        exact ⟨F0, rfl, (PH.le.refl _), st, gA, gA, gA, gA⟩
      · have hF := bif_f hb24 hF; refine g_take hb24 (v_move ?_); refine g_take hb24 (v_len ?_); refine g_take hb24 (v_gtr ?_); refine v_pick' hb24 ?_; refine r_nil ?_; obtain rfl := inj hF; refine thn ⟨rfl, ?_⟩; dsimp only
        exact ⟨F0, rfl, (PH.le.refl _), st, gA, gA, gA, gA⟩
    · obtain ⟨F23, rfl, le23, st, t1, t2, t3, t17⟩ := hp; refine v_cond (fun hb25 => ?_) (fun hb25 => ?_)
      · have hF := bif_t hb25 hF; refine w_seq ?_; refine w_reg ?_; refine v_call st (ct_wakes (h := _) (nx := _)) (fun n26 st => ?_); refine v_move ?_; refine r_nil ?_; refine th_n ?_; refine w_ret ?_; obtain rfl := inj hF; have hF := hK14; have hF := sel_l hF; refine th_r ?_; obtain rfl := inj hF
        exact end_s st (Res.t gA Res.nil) rfl rfl
      · have hF := bif_f hb25 hF; refine w_skip ?_; obtain rfl := inj hF; refine thn ⟨rfl, _, rfl, ?_⟩; dsimp only
        exact ⟨F23, rfl, le23, st, gA, gA, gA⟩
  · obtain ⟨w17, rfl, F18, rfl, le18, st, t1, t2, t3⟩ := hp; have hF := sel_r hF; refine w_seq ?_; refine w_reg ?_; refine v_ldn (vs := [(i64 a0_0), (i64 a0_1), (i64 a0_2), (i64 a0_3)]) (st.at (i := 0) rfl).2.2 rfl ?_; obtain ⟨v27, e28, hF⟩ := bnd_some hF; refine v_call st (ct21 N e28 st.d st.sub ) (fun n29 st => ?_); obtain ⟨v30, e31, hF⟩ := bnd_some hF; refine v_call st (ct20 N e31 st.d st.sub ) (fun n32 st => ?_); refine v_move ?_; refine r_nil ?_; refine th_n ?_; refine w_seq ?_; refine w_reg ?_; refine v_ldn (vs := [(i64 a0_0), (i64 a0_1), (i64 a0_2), (i64 a0_3)]) (st.at (i := 0) rfl).2.2 rfl ?_; obtain ⟨v33, e34, hF⟩ := bnd_some hF; refine v_call st (ct21 N e34 st.d st.sub ) (fun n35 st => ?_)
    refine v_move ?_; obtain ⟨v36, e37, hF⟩ := bnd_some hF; refine v_callR st (ct23 N e37 st.d st.sub (Nat.le_trans hfl st.ext.le) (RowF.mono le18 ra1)) (fun u38 F38 h38 n38 le38 rv38 st => ?_)
    have le39 := PH.le.trans le18 le38
    obtain ⟨py40, cy40, rfl, ry40⟩ := rv38; refine v_move ?_; obtain ⟨v41, e42, hF⟩ := bnd_some hF; refine v_callR st (ct24 N e42 st.d st.sub (Nat.le_trans hfl st.ext.le) (RowF.mono le39 ra2)) (fun u43 F43 h43 n43 le43 rv43 st => ?_)
    have le44 := PH.le.trans le39 le43
    have le45 := PH.le.trans le38 le43
    obtain ⟨py46, cy46, rfl, ry46⟩ := rv43; obtain ⟨v47, e48, hF⟩ := bnd_some hF; refine v_call st (ct22 N e48 st.d st.sub (RowF.mono le43 ry40) ry46) (fun n49 st => ?_); refine v_move ?_; refine r_nil ?_; refine th_n ?_; refine w_seq ?_; refine w_reg ?_; refine v_move ?_; refine r_nil ?_; refine th_n ?_; obtain ⟨y54, hA55, hF⟩ := bnd_some hF; refine w_cutD (fun T ds57 h nx => ∃ (F57 : PH), ds57 = [] ∧ PH.le F43 F57 ∧ St n0 h0 F0 F57 h nx [.bx b1 [(i64 a0_0), (i64 a0_1), (i64 a0_2), (i64 a0_3)]] ∧ T.get 1 = some (.slice pa1 (a1).length ca1) ∧ T.get 2 = some (.slice pa2 (a2).length ca2) ∧ T.get 3 = some (.ptr (some (b1, 0))) ∧ T.get 7 = some (i64 v30) ∧ T.get 8 = some (.bool v47) ∧ T.get 9 = some (i64 y54)) ?_ (fun T ds57 h nx hp => ?_)
    · have hK56 := hF
      have hF := hA55; refine w_seq ?_; refine w_reg ?_; refine v_ldn (vs := [(i64 a0_0), (i64 a0_1), (i64 a0_2), (i64 a0_3)]) (st.at (i := 0) rfl).2.2 rfl ?_; obtain ⟨v58, e59, hF⟩ := bnd_some hF; refine v_call st (ct25 N e59 st.d st.sub ) (fun n60 st => ?_); refine v_not ?_; refine r_nil ?_; refine th_n ?_; refine v_cond (fun hb61 => ?_) (fun hb61 => ?_)
      · have hF := bif_t hb61 hF; refine w_reg ?_; refine v_move ?_; refine r_nil ?_; obtain rfl := inj hF; refine thn ⟨rfl, ?_⟩; dsimp only
        exact ⟨F43, rfl, (PH.le.refl _), st, gA, gA, gA, gA, gA, gA⟩
      · have hF := bif_f hb61 hF; refine w_skip ?_; obtain rfl := inj hF; refine thn ⟨rfl, ?_⟩; dsimp only
        exact ⟨F43, rfl, (PH.le.refl _), st, gA, gA, gA, gA, gA, gA⟩
    · obtain ⟨F57, rfl, le57, st, t1, t2, t3, t7, t8, t9⟩ := hp
      have le62 := PH.le.trans le44 le57
      have le63 := PH.le.trans le45 le57
      have le64 := PH.le.trans le43 le57
      refine w_seq ?_; refine w_reg ?_; refine v_move ?_; refine v_move ?_; refine v_eqi ?_; refine v_move ?_
      rcases Bool.eq_false_or_eq_true (decide (v30 = y54)) with hb65 | hb65
      · have hF := bif_t hb65 hF; refine g_take hb65 (v_move ?_); refine g_take hb65 (v_ldn (vs := [(i64 a0_0), (i64 a0_1), (i64 a0_2), (i64 a0_3)]) (st.at (i := 0) rfl).2.2 rfl ?_); refine g_take hb65 (v_move ?_); obtain ⟨v66, e67, hF⟩ := bnd_some hF; refine g_take hb65 (v_call st (ct26 N e67 st.d st.sub (RowF.mono le62 ra1)) (fun n68 st => ?_)); refine g_take hb65 (v_eqi ?_); refine g_take hb65 (v_move ?_)
        rcases Bool.eq_false_or_eq_true (decide (v66 = (0 : Int))) with hb69 | hb69
        · have hF := bif_t hb69 hF; refine g_take hb69 (v_ldn (vs := [(i64 a0_0), (i64 a0_1), (i64 a0_2), (i64 a0_3)]) (st.at (i := 0) rfl).2.2 rfl ?_); refine g_take hb69 (v_move ?_); refine g_take hb69 (v_move ?_); obtain ⟨v70, e71, hF⟩ := bnd_some hF; refine g_take hb69 (v_call st (ct27 N e71 st.d st.sub (RowF.mono le62 ra1) (RowF.mono le62 ra2)) (fun n72 st => ?_)); refine g_take hb65 (v_pick hb69 ?_); refine g_take hb65 (v_eqb ?_); refine v_pick hb65 ?_; refine v_move ?_
          rcases Bool.eq_false_or_eq_true (v47 == v70) with hb73 | hb73
          · have hF := bif_t hb73 hF; refine g_take hb73 (v_call st (ct_wakes (h := _) (nx := _)) (fun n74 st => ?_)); refine v_pick hb73 ?_; refine v_move ?_; refine r_nil ?_; refine th_n ?_; refine w_ret ?_; obtain rfl := inj hF
            exact end_s st (Res.t gA Res.nil) rfl rfl
          · have hF := bif_f hb73 hF; refine g_skip hb73 ?_; refine v_pick' hb73 ?_; refine v_move ?_; refine r_nil ?_; refine th_n ?_; refine w_ret ?_; obtain rfl := inj hF
            exact end_s st (Res.t gA Res.nil) rfl rfl
        · have hF := bif_f hb69 hF; refine g_skip hb69 ?_; refine g_skip hb69 ?_; refine g_skip hb69 ?_; refine g_skip hb69 ?_; refine g_take hb65 (v_pick' hb69 ?_); refine g_take hb65 (v_eqb ?_); refine v_pick hb65 ?_; refine v_move ?_
          rcases Bool.eq_false_or_eq_true (v47 == false) with hb75 | hb75
          · have hF := bif_t hb75 hF; refine g_take hb75 (v_call st (ct_wakes (h := _) (nx := _)) (fun n76 st => ?_)); refine v_pick hb75 ?_; refine v_move ?_; refine r_nil ?_; refine th_n ?_; refine w_ret ?_; obtain rfl := inj hF
            exact end_s st (Res.t gA Res.nil) rfl rfl
          · have hF := bif_f hb75 hF; refine g_skip hb75 ?_; refine v_pick' hb75 ?_; refine v_move ?_; refine r_nil ?_; refine th_n ?_; refine w_ret ?_; obtain rfl := inj hF
            exact end_s st (Res.t gA Res.nil) rfl rfl
      · have hF := bif_f hb65 hF; refine g_skip hb65 ?_; refine g_skip hb65 ?_; refine g_skip hb65 ?_; refine g_skip hb65 ?_; refine g_skip hb65 ?_; refine g_skip hb65 ?_; refine g_skipu ?_; refine g_skipu ?_; refine g_skipu ?_; refine g_skipu ?_; refine g_skip hb65 ?_; refine g_skip hb65 ?_; refine v_pick' hb65 ?_; refine v_move ?_; refine g_skip rfl ?_; refine v_pick' rfl ?_; refine v_move ?_; refine r_nil ?_; refine th_n ?_; refine w_ret ?_; obtain rfl := inj hF
        exact end_s st (Res.t gA Res.nil) rfl rfl
theorem ct29 (N : Nat) {a0_0 : Int} {a0_1 : Int} {a0_2 : Int} {a0_3 : Int} {a1 : (List (Int × Int × Int × Int))} {r : ((List (Int × Int)) × Int)} (hF : sf29 N a0_0 a0_1 a0_2 a0_3 a1 = some r) {fl : Nat} {h0 : Tr HBlk} {n0 : Nat} {F0 : PH} (hd : D h0 n0) (hs : F0.sub h0) (hfl : fl ≤ n0) {pa1 : Option (Nat × Nat)} {ca1 : Nat} (ra1 : RowF (rP rI (rP rI (rP rI rI))) 4 F0 pa1 ca1 a1) : C LW fl 29 [(.agg [(i64 a0_0), (i64 a0_1), (i64 a0_2), (i64 a0_3)]), (.slice pa1 (a1).length ca1)] ⟨h0, n0⟩ (KR (rvT2 (lvL (rP rI rI) 2) lvI) F0 h0 n0 r) := by
  unfold sf29 at hF
  refine in_mT hd hs hfl lw29 rfl rfl (by rfl) (fun st T hT => ?_)
  have t0 := hT 0 _ rfl
  have t1 := hT 1 _ rfl
  dsimp only [L29]
  refine w_seq ?_; refine w_reg ?_; refine v_box st (fun b1 h2 n3 st => ?_); refine v_move ?_; refine v_move ?_; refine r_nil ?_; refine th_n ?_; refine w_seq ?_; refine w_reg ?_; refine v_ldn (vs := [(i64 a0_0), (i64 a0_1), (i64 a0_2), (i64 a0_3)]) (st.at (i := 0) rfl).2.2 rfl ?_; refine v_move ?_; obtain ⟨v4, e5, hF⟩ := bnd_some hF; refine v_call st (ct72 N e5 st.d st.sub ra1) (fun n6 st => ?_); refine v_move ?_; refine v_xt rfl ?_; refine v_xt rfl ?_; refine v_alloc st (fun b7 h8 n9 st => ?_)
  have st := st.cells 1 rfl ([(i64 (0 : Int)), (i64 (0 : Int)), (i64 (0 : Int)), (i64 (0 : Int)), (i64 (0 : Int))] ++ (eI .i64 169 (fun _ => 0))) rfl
  refine v_st (v := (.agg ([(i64 v4.1), (i64 v4.2.1), (i64 v4.2.2.1), (i64 v4.2.2.2.1), (i64 v4.2.2.2.2.1)] ++ (eI .i64 169 v4.2.2.2.2.2.1)))) (cs' := ([(i64 v4.1), (i64 v4.2.1), (i64 v4.2.2.1), (i64 v4.2.2.2.1), (i64 v4.2.2.2.2.1)] ++ (eI .i64 169 v4.2.2.2.2.2.1))) st 1 rfl (ov_tail (q := ([(i64 (0 : Int)), (i64 (0 : Int)), (i64 (0 : Int)), (i64 (0 : Int)), (i64 (0 : Int))] ++ (eI .i64 169 (fun _ => 0)))) (r := ([(i64 v4.1), (i64 v4.2.1), (i64 v4.2.2.1), (i64 v4.2.2.2.1), (i64 v4.2.2.2.2.1)] ++ (eI .i64 169 v4.2.2.2.2.2.1))) [] rfl (by simp [eI_len, eB_len])) (len_tail (E := (eI .i64 169 v4.2.2.2.2.2.1)) [(i64 v4.1), (i64 v4.2.1), (i64 v4.2.2.1), (i64 v4.2.2.2.1), (i64 v4.2.2.2.2.1)] eI_len rfl) (one_tail (E := (eI .i64 169 v4.2.2.2.2.2.1)) [(i64 v4.1), (i64 v4.2.1), (i64 v4.2.2.1), (i64 v4.2.2.2.1), (i64 v4.2.2.2.2.1)] rfl eI_one) hfl (fun h10 st => ?_)
  refine v_move ?_; refine r_nil ?_; refine th_n ?_; refine w_seq ?_; refine w_seq ?_; refine w_reg ?_; refine v_move ?_; refine v_nei ?_; refine r_nil ?_; refine th_n ?_; refine v_cond (fun hb11 => ?_) (fun hb11 => ?_)
  · have hF := bif_t hb11 hF; refine w_seq ?_; refine w_reg ?_; refine v_move ?_; refine v_move ?_; refine v_move ?_; refine r_nil ?_; refine th_n ?_; refine w_ret ?_; refine th_r ?_; obtain rfl := inj hF
    exact end_r st (Res.t gA (Res.t gA Res.nil)) ⟨_, _, rfl, ⟨none, 0, rfl, RowF.nil⟩, rfl⟩
  · have hF := bif_f hb11 hF; refine w_skip ?_; refine th_n ?_; refine w_seq ?_; refine w_reg ?_; refine v_ldn (vs := ([(i64 v4.1), (i64 v4.2.1), (i64 v4.2.2.1), (i64 v4.2.2.2.1), (i64 v4.2.2.2.2.1)] ++ (eI .i64 169 v4.2.2.2.2.2.1))) (st.at (i := 1) rfl).2.2 (tk_tail (E := (eI .i64 169 v4.2.2.2.2.2.1)) [] [(i64 v4.1), (i64 v4.2.1), (i64 v4.2.2.1), (i64 v4.2.2.2.1), (i64 v4.2.2.2.2.1)] rfl eI_len rfl) ?_; obtain ⟨v12, e13, hF⟩ := bnd_some hF; refine v_callR st (ct73 N e13 st.d st.sub (Nat.le_trans hfl st.ext.le) ) (fun u14 F14 h14 n14 le14 rv14 st => ?_); obtain ⟨py15, cy15, rfl, ry15⟩ := rv14; refine v_move ?_; refine v_move ?_; refine r_nil ?_; refine th_n ?_; refine w_ret ?_; obtain rfl := inj hF
    exact end_r st (Res.t gA (Res.t gA Res.nil)) ⟨_, _, rfl, ⟨_, _, rfl, ry15⟩, rfl⟩
theorem ct56 (N : Nat) {a0_0 : Int} {a0_1 : Int} {a0_2 : Int} {a0_3 : Int} {a1 : (List (Int × Int × Int × Int))} {r : Bool} (hF : sf56 N a0_0 a0_1 a0_2 a0_3 a1 = some r) {fl : Nat} {h0 : Tr HBlk} {n0 : Nat} {F0 : PH} (hd : D h0 n0) (hs : F0.sub h0) {pa1 : Option (Nat × Nat)} {ca1 : Nat} (ra1 : RowF (rP rI (rP rI (rP rI rI))) 4 F0 pa1 ca1 a1) : C LW fl 56 [(.agg [(i64 a0_0), (i64 a0_1), (i64 a0_2), (i64 a0_3)]), (.slice pa1 (a1).length ca1)] ⟨h0, n0⟩ (KS (.bool r) n0 h0) := by
  unfold sf56 at hF
  refine in_cT hd hs lw56 rfl rfl (by rfl) (fun st T hT => ?_)
  have hfl : n0 ≤ n0 := Nat.le_refl n0
  have t0 := hT 0 _ rfl
  have t1 := hT 1 _ rfl
  dsimp only [L56]
  refine w_seq ?_; refine w_reg ?_; refine v_box st (fun b1 h2 n3 st => ?_); refine v_move ?_; refine r_nil ?_; refine th_n ?_; refine w_seq ?_; refine w_reg ?_; refine v_move ?_; refine v_len ?_; refine v_leq ?_; refine v_move ?_
  rcases Bool.eq_false_or_eq_true (decide (((a1).length : Int) ≤ (15 : Int))) with hb4 | hb4
  · have hF := bif_t hb4 hF; refine g_take hb4 (v_ldn (vs := [(i64 a0_0), (i64 a0_1), (i64 a0_2), (i64 a0_3)]) (st.at (i := 0) rfl).2.2 rfl ?_); refine g_take hb4 (v_move ?_); obtain ⟨v5, e6, hF⟩ := bnd_some hF; refine g_take hb4 (v_call st (ct26 N e6 st.d st.sub ra1) (fun n7 st => ?_)); refine g_take hb4 (v_eqi ?_); refine v_pick hb4 ?_; refine v_move ?_; refine r_nil ?_; refine th_n ?_; refine w_ret ?_; obtain rfl := inj hF
    exact end_s st (Res.t gA Res.nil) rfl rfl
  · have hF := bif_f hb4 hF; refine g_skip hb4 ?_; refine g_skip hb4 ?_; refine g_skip hb4 ?_; refine g_skip hb4 ?_; refine v_pick' hb4 ?_; refine v_move ?_; refine r_nil ?_; refine th_n ?_; refine w_ret ?_; obtain rfl := inj hF
    exact end_s st (Res.t gA Res.nil) rfl rfl
end Go.Hx.V

/- Functions of the program come to that. -/
namespace Go.Hx.V
open Go.Hx
set_option linter.unusedVariables false
set_option maxRecDepth 20000
set_option maxHeartbeats 4000000
attribute [local irreducible] W R C thenH inBlockH Tr.get Tr.set lo ck bnd ix iter
theorem ct16 (N : Nat) {a0_0 : Int} {a0_1 : Int} {a0_2 : Int} {a0_3 : Int} {r : Bool} (hF : sf16 N a0_0 a0_1 a0_2 a0_3 = some r) {fl : Nat} {h0 : Tr HBlk} {n0 : Nat} {F0 : PH} (hd : D h0 n0) (hs : F0.sub h0) : C LW fl 16 [(.agg [(i64 a0_0), (i64 a0_1), (i64 a0_2), (i64 a0_3)])] ⟨h0, n0⟩ (KS (.bool r) n0 h0) := by
  unfold sf16 at hF
  refine in_cT hd hs lw16 rfl rfl (by rfl) (fun st T hT => ?_)
  have hfl : n0 ≤ n0 := Nat.le_refl n0
  have t0 := hT 0 _ rfl
  dsimp only [L16]
  refine w_seq ?_; refine w_reg ?_; refine v_box st (fun b1 h2 n3 st => ?_); refine v_move ?_; refine r_nil ?_; refine th_n ?_; refine w_seq ?_; refine w_seq ?_; refine w_reg ?_; refine v_ldn (vs := [(i64 a0_0), (i64 a0_1), (i64 a0_2), (i64 a0_3)]) (st.at (i := 0) rfl).2.2 rfl ?_; obtain ⟨v4, e5, hF⟩ := bnd_some hF; refine v_call st (ct25 N e5 st.d st.sub ) (fun n6 st => ?_); refine v_not ?_; refine r_nil ?_; refine th_n ?_; refine v_cond (fun hb7 => ?_) (fun hb7 => ?_)
  · have hF := bif_t hb7 hF; refine w_seq ?_; refine w_reg ?_; refine v_call st (ct_wakes (h := _) (nx := _)) (fun n8 st => ?_); refine v_move ?_; refine r_nil ?_; refine th_n ?_; refine w_ret ?_; refine th_r ?_; obtain rfl := inj hF
    exact end_s st (Res.t gA Res.nil) rfl rfl
  · have hF := bif_f hb7 hF; refine w_skip ?_; refine th_n ?_; refine w_seq ?_; refine w_reg ?_; refine v_ldn (vs := [(i64 a0_0), (i64 a0_1), (i64 a0_2), (i64 a0_3)]) (st.at (i := 0) rfl).2.2 rfl ?_; obtain ⟨v9, e10, hF⟩ := bnd_some hF; refine v_call st (ct21 N e10 st.d st.sub ) (fun n11 st => ?_); obtain ⟨v12, e13, hF⟩ := bnd_some hF; refine v_callR st (ct29 N e13 st.d st.sub (Nat.le_trans hfl st.ext.le) RowF.nil) (fun u14 F14 h14 n14 le14 rv14 st => ?_); obtain ⟨_, _, rfl, ⟨py15, cy15, rfl, ry15⟩, rfl⟩ := rv14; refine v_move ?_; refine v_xt rfl ?_; refine v_xt rfl ?_; refine v_move ?_; refine v_move ?_; refine r_nil ?_; refine th_n ?_; obtain ⟨y26, hA27, hF⟩ := bnd_some hF; refine w_cutD (fun T ds32 h nx => ∃ u, y26 = (.inr u) ∧ ∃ (F32 : PH), ds32 = [] ∧ PH.le F14 F32 ∧ St n0 h0 F0 F32 h nx [.bx b1 [(i64 a0_0), (i64 a0_1), (i64 a0_2), (i64 a0_3)]] ∧ T.get 1 = some (.ptr (some (b1, 0))) ∧ T.get 3 = some (.slice py15 (v12.1).length cy15)) ?_ (fun T ds32 h nx hp => ?_)
    · have hK28 := hF
      have hF := hA27; obtain ⟨y35, hA36, hF⟩ := bnd_some hF; refine w_cutD (fun T ds38 h nx => ∃ (F38 : PH), ds38 = [] ∧ PH.le F14 F38 ∧ St n0 h0 F0 F38 h nx [.bx b1 [(i64 a0_0), (i64 a0_1), (i64 a0_2), (i64 a0_3)]] ∧ T.get 1 = some (.ptr (some (b1, 0))) ∧ T.get 3 = some (.slice py15 (v12.1).length cy15) ∧ T.get 26 = some (.bool y35)) ?_ (fun T ds38 h nx hp => ?_)
      · have hK37 := hF
        have hF := hA36; refine w_reg ?_; refine v_move ?_; refine v_nei ?_; refine v_move ?_
        rcases Bool.eq_false_or_eq_true (!(decide (v12.2 = (0 : Int)))) with hb39 | hb39
        · have hF := bif_t hb39 hF; refine g_skip hb39 ?_; refine g_skip hb39 ?_; refine g_skip hb39 ?_; refine g_skip hb39 ?_; refine g_skip hb39 ?_; refine g_skip hb39 ?_; refine v_pick hb39 ?_; refine r_nil ?_; obtain rfl := inj hF; refine thn ⟨rfl, ?_⟩; dsimp only
          exact ⟨F14, rfl, (PH.le.refl _), st, gA, gA, gA⟩
        · have hF := bif_f hb39 hF; refine g_take hb39 (v_move ?_); refine g_take hb39 (v_len ?_); refine g_take hb39 (v_fa ?_); refine g_take hb39 (v_ld1 (st.at (i := 0) rfl).2.2 rfl ?_); obtain ⟨q40, hF⟩ := ck_some hF; refine g_take hb39 (v_add q40 ?_); refine g_take hb39 (v_nei ?_); refine v_pick' hb39 ?_; refine r_nil ?_; obtain rfl := inj hF; refine thn ⟨rfl, ?_⟩; dsimp only
          exact ⟨F14, rfl, (PH.le.refl _), st, gA, gA, gA⟩
      · obtain ⟨F38, rfl, le38, st, t1, t3, t26⟩ := hp
        have le41 := PH.le.trans le14 le38
        refine v_cond (fun hb42 => ?_) (fun hb42 => ?_)
        · have hF := bif_t hb42 hF; refine w_seq ?_; refine w_reg ?_; refine v_move ?_; refine r_nil ?_; refine th_n ?_; refine w_ret ?_; obtain rfl := inj hF; have hF := hK28; have hF := sel_l hF; refine th_r ?_; obtain rfl := inj hF
          exact end_s st (Res.t gA Res.nil) rfl rfl
        · have hF := bif_f hb42 hF; refine w_skip ?_; obtain rfl := inj hF; refine thn ⟨rfl, _, rfl, ?_⟩; dsimp only
          exact ⟨F38, rfl, le38, st, gA, gA⟩
    · obtain ⟨w31, rfl, F32, rfl, le32, st, t1, t3⟩ := hp; have hF := sel_r hF
      have le44 := PH.le.trans le14 le32
      refine w_seq ?_; refine w_seq ?_; refine w_reg ?_; refine v_move ?_; refine r_nil ?_; refine th_n ?_; refine w_block ?_; obtain ⟨y64, hy, hF⟩ := bnd_some hF; refine v_loopD (sf16_L1 N a0_0 a0_1 a0_2 a0_3 v12) (fun x45 T ds46 h nx => ∃ (F46 : PH), ds46 = [] ∧ PH.le F32 F46 ∧ St n0 h0 F0 F46 h nx [.bx b1 [(i64 a0_0), (i64 a0_1), (i64 a0_2), (i64 a0_3)]] ∧ T.get 1 = some (.ptr (some (b1, 0))) ∧ T.get 3 = some (.slice py15 (v12.1).length cy15) ∧ T.get 5 = some (i64 x45)) (fun y e a σ => (∃ u, y = (.inl u) ∧ e = .ret ∧ a.nt = 72 ∧ ∃ (F66 : PH), a.defers = [] ∧ PH.le F32 F66 ∧ St n0 h0 F0 F66 σ.h σ.nx [.bx b1 [(i64 a0_0), (i64 a0_1), (i64 a0_2), (i64 a0_3)]] ∧ a.tmps.get 2 = some (.bool false)) ∨ (∃ u, y = (.inr u) ∧ e = .exit 0 ∧ a.nt = 72 ∧ ∃ (F68 : PH), a.defers = [] ∧ PH.le F32 F68 ∧ St n0 h0 F0 F68 σ.h σ.nx [.bx b1 [(i64 a0_0), (i64 a0_1), (i64 a0_2), (i64 a0_3)]])) (fun x45 T ds46 h nx s hp hF => ?_) N _ y64 _ _ _ _ hy ⟨F32, rfl, (PH.le.refl _), st, gA, gA, gA⟩ (fun e a σ hne hq => ?_)
      · obtain ⟨F46, rfl, le46, st, t1, t3, t5⟩ := hp
        have le47 := PH.le.trans le44 le46
        have le48 := PH.le.trans le32 le46
        unfold sf16_L1 at hF; unfold L16w0; refine w_seq ?_; refine w_seq ?_; refine w_reg ?_; refine v_move ?_; refine v_fa ?_; refine v_ld1 (st.at (i := 0) rfl).2.2 rfl ?_; refine v_leq ?_; refine r_nil ?_; refine th_n ?_; refine v_cond (fun hb69 => ?_) (fun hb69 => ?_)
        · have hF := bif_t hb69 hF; refine w_skip ?_; refine th_n ?_; refine w_seq ?_; refine w_block ?_; refine w_seq ?_; refine w_reg ?_; refine v_fa ?_; refine v_ld1 (st.at (i := 0) rfl).2.2 rfl ?_; refine v_move ?_; obtain ⟨q70, hF⟩ := ck_some hF; refine v_sub q70 ?_; refine v_move ?_; refine r_nil ?_; refine th_n ?_; refine w_seq ?_; refine w_drawV (Nat.le_trans hfl st.ext.le) (fun dw => ?_); refine y_pure st.d dw (fun hm vw => v_move pr_nil) ?_; refine y_pure st.d dw (fun hm vw => v_move pr_nil) ?_; obtain ⟨n71, x71, z71, l71, g71, hF⟩ := ix_some hF; obtain ⟨b71, o71, s71, j71, r71, e71, f71, k71, ⟨_, _, rfl, rfl, rfl⟩⟩ := RowF.get ry15 g71; refine y_pure st.d dw (fun hm vw => v_ixp e71 z71 l71 pr_nil) ?_
          refine y_pure st.d dw (fun hm vw => v_ldn (vw.fz st (le48 _ _ f71)) k71 pr_nil) ?_; refine y_pure st.d dw (fun hm vw => v_move pr_nil) ?_; refine y_pure st.d dw (fun hm vw => v_fa pr_nil) ?_; refine y_pure st.d dw (fun hm vw => v_fa pr_nil) ?_; refine y_pure st.d dw (fun hm vw => v_ld1 (vw.bx (st.at (i := 0) rfl)) rfl pr_nil) ?_; obtain ⟨q72, hF⟩ := ck_some hF; refine y_pure st.d dw (fun hm vw => v_mul q72 pr_nil) ?_; refine y_pure st.d dw (fun hm vw => v_fa pr_nil) ?_; refine y_pure st.d dw (fun hm vw => v_ld1 (vw.bx (st.at (i := 0) rfl)) rfl pr_nil) ?_; refine y_pure st.d dw (fun hm vw => v_move pr_nil) ?_; refine y_pure st.d dw (fun hm vw => v_fa pr_nil) ?_; refine y_pure st.d dw (fun hm vw => v_fa pr_nil) ?_
          refine y_pure st.d dw (fun hm vw => v_ld1 (vw.bx (st.at (i := 0) rfl)) rfl pr_nil) ?_; obtain ⟨q73, hF⟩ := ck_some hF; refine y_pure st.d dw (fun hm vw => v_mul q73 pr_nil) ?_; obtain ⟨q74, hF⟩ := ck_some hF; refine y_pure st.d dw (fun hm vw => v_sub q74 pr_nil) ?_; refine y_pure st.d dw (fun hm vw => v_max pr_nil) ?_; refine y_pure st.d dw (fun hm vw => v_move pr_nil) ?_; refine y_pure st.d dw (fun hm vw => v_fa pr_nil) ?_; refine y_pure st.d dw (fun hm vw => v_fa pr_nil) ?_; refine y_pure st.d dw (fun hm vw => v_ld1 (vw.bx (st.at (i := 0) rfl)) rfl pr_nil) ?_; obtain ⟨q75, hF⟩ := ck_some hF; refine y_pure st.d dw (fun hm vw => v_mul q75 pr_nil) ?_; refine y_pure st.d dw (fun hm vw => v_fa pr_nil) ?_
          refine y_pure st.d dw (fun hm vw => v_ld1 (vw.bx (st.at (i := 0) rfl)) rfl pr_nil) ?_; refine y_pure st.d dw (fun hm vw => v_move pr_nil) ?_; refine y_pure st.d dw (fun hm vw => v_fa pr_nil) ?_; refine y_pure st.d dw (fun hm vw => v_fa pr_nil) ?_; refine y_pure st.d dw (fun hm vw => v_ld1 (vw.bx (st.at (i := 0) rfl)) rfl pr_nil) ?_; obtain ⟨q76, hF⟩ := ck_some hF; refine y_pure st.d dw (fun hm vw => v_mul q76 pr_nil) ?_; obtain ⟨q77, hF⟩ := ck_some hF; refine y_pure st.d dw (fun hm vw => v_sub q77 pr_nil) ?_; refine y_pure st.d dw (fun hm vw => v_min pr_nil) ?_; obtain ⟨v78, e79, hF⟩ := bnd_some hF; refine y_flat st.d dw (fun hm vw => u_call (ct51 N e79 vw.d (vw.sub st) ) (fun n' hn' => pf_nil hn')) (fun n80 hn' dw => ?_)
          refine y_end st.d dw rfl (fun h81 ex vs => ?_)
          have st := st.ext1 ex
          refine v_ner (b := (x71.1 == v78.1 && (x71.2 == v78.2 && true))) rfl ?_; refine r_nil ?_; refine th_n ?_; refine v_cond (fun hb82 => ?_) (fun hb82 => ?_)
          · have hF := bif_t hb82 hF; refine w_seq ?_; refine w_reg ?_; refine v_move ?_; refine r_nil ?_; refine th_n ?_; refine w_ret ?_; refine ib_r ?_; refine th_r ?_; refine th_r ?_; refine ⟨_, (inj hF).symm, .inl ⟨_, rfl, rfl, rfl, ?_⟩⟩; dsimp only
            exact ⟨F46, rfl, le46, st, gA⟩
          · have hF := bif_f hb82 hF; refine w_skip ?_; refine ib_n ?_; refine th_n ?_; refine w_reg ?_; refine v_move ?_; obtain ⟨q83, hF⟩ := ck_some hF; refine v_add q83 ?_; refine v_move ?_; refine r_nil ?_; refine thn ⟨_, (inj hF).symm, rfl, ?_⟩; dsimp only
            exact ⟨F46, rfl, le46, st, gA, gA, gA⟩
        · have hF := bif_f hb69 hF; refine w_exit ?_; refine th_e ?_; refine th_e ?_; refine ⟨_, (inj hF).symm, .inr (⟨_, rfl, rfl, rfl, ?_⟩)⟩; dsimp only
          exact ⟨F46, rfl, le46, st⟩
      · rcases hq with hq | hq
        · obtain ⟨N9, T, ds66⟩ := a; obtain ⟨h86, n87⟩ := σ; obtain ⟨w65, rfl, rfl, e1, F66, e2, le66, st, t2⟩ := hq
          dsimp only at e1 e2
          subst e1
          subst e2
          dsimp only at st t2
          have le84 := PH.le.trans le44 le66
          have le85 := PH.le.trans le32 le66
          have hF := sel_l hF; refine ib_r ?_; refine th_r ?_; obtain rfl := inj hF
          exact end_s st (Res.t gA Res.nil) rfl rfl
        · obtain ⟨N9, T, ds68⟩ := a; obtain ⟨h90, n91⟩ := σ; obtain ⟨w67, rfl, rfl, e1, F68, e2, le68, st⟩ := hq
          dsimp only at e1 e2
          subst e1
          subst e2
          dsimp only at st
          have le88 := PH.le.trans le44 le68
          have le89 := PH.le.trans le32 le68
          have hF := sel_r hF; refine ib_e ?_; refine th_n ?_; refine w_seq ?_; refine w_reg ?_; refine v_call st (ct_wakes (h := _) (nx := _)) (fun n92 st => ?_); refine v_move ?_; refine r_nil ?_; refine th_n ?_; refine w_ret ?_; obtain rfl := inj hF
          exact end_s st (Res.t gA Res.nil) rfl rfl
end Go.Hx.V

/- Functions of the program come to that. -/
namespace Go.Hx.V
open Go.Hx
set_option linter.unusedVariables false
set_option maxRecDepth 20000
set_option maxHeartbeats 4000000
attribute [local irreducible] W R C thenH inBlockH Tr.get Tr.set lo ck bnd ix iter
theorem ct18 (N : Nat) {a0_0 : Int} {a0_1 : Int} {a0_2 : Int} {a0_3 : Int} {a1 : (List Int)} {a2 : (List Int)} {a3 : Int} {r : Bool} (hF : sf18 N a0_0 a0_1 a0_2 a0_3 a1 a2 a3 = some r) {fl : Nat} {h0 : Tr HBlk} {n0 : Nat} {F0 : PH} (hd : D h0 n0) (hs : F0.sub h0) {pa1 : Option (Nat × Nat)} {ca1 : Nat} {pa2 : Option (Nat × Nat)} {ca2 : Nat} (ra1 : RowF (rK .u16) 1 F0 pa1 ca1 a1) (ra2 : RowF (rK .u16) 1 F0 pa2 ca2 a2) : C LW fl 18 [(.agg [(i64 a0_0), (i64 a0_1), (i64 a0_2), (i64 a0_3)]), (.slice pa1 (a1).length ca1), (.slice pa2 (a2).length ca2), (.int .u8 a3)] ⟨h0, n0⟩ (KS (.bool r) n0 h0) := by
  unfold sf18 at hF
  refine in_cT hd hs lw18 rfl rfl (by rfl) (fun st T hT => ?_)
  have hfl : n0 ≤ n0 := Nat.le_refl n0
  have t0 := hT 0 _ rfl
  have t1 := hT 1 _ rfl
  have t2 := hT 2 _ rfl
  have t3 := hT 3 _ rfl
  dsimp only [L18]
  refine w_seq ?_; refine w_reg ?_; refine v_box st (fun b1 h2 n3 st => ?_); refine v_move ?_; refine r_nil ?_; refine th_n ?_; refine w_seq ?_; refine w_seq ?_; refine w_reg ?_; refine v_ldn (vs := [(i64 a0_0), (i64 a0_1), (i64 a0_2), (i64 a0_3)]) (st.at (i := 0) rfl).2.2 rfl ?_; obtain ⟨v4, e5, hF⟩ := bnd_some hF; refine v_call st (ct25 N e5 st.d st.sub ) (fun n6 st => ?_); refine v_not ?_; refine r_nil ?_; refine th_n ?_; refine v_cond (fun hb7 => ?_) (fun hb7 => ?_)
  · have hF := bif_t hb7 hF; refine w_seq ?_; refine w_reg ?_; refine v_call st (ct_wakes (h := _) (nx := _)) (fun n8 st => ?_); refine v_move ?_; refine r_nil ?_; refine th_n ?_; refine w_ret ?_; refine th_r ?_; obtain rfl := inj hF
    exact end_s st (Res.t gA Res.nil) rfl rfl
  · have hF := bif_f hb7 hF; refine w_skip ?_; refine th_n ?_; refine w_seq ?_; refine w_drawV (Nat.le_trans hfl st.ext.le) (fun dw => ?_)
    have wf := Wf.start st
    refine y_pure st.d dw (fun hm vw => v_ldn (vs := [(i64 a0_0), (i64 a0_1), (i64 a0_2), (i64 a0_3)]) (vw.bx (st.at (i := 0) rfl)) rfl pr_nil) ?_; refine y_pure st.d dw (fun hm vw => v_ldn (vs := [(i64 a0_0), (i64 a0_1), (i64 a0_2), (i64 a0_3)]) (vw.bx (st.at (i := 0) rfl)) rfl pr_nil) ?_; refine y_pure st.d dw (fun hm vw => v_move pr_nil) ?_; obtain ⟨v9, e10, hF⟩ := bnd_some hF
    refine y_deep st dw wf (fun hm vw => u_callR (ct53 N e10 vw.d (FF.sub wf st vw) (Nat.max_le.2 ⟨by have := dw.le; have := st.ext.le; omega, Nat.le_refl _⟩) (RowF.mono FF.base ra1)) (fun v F' h' n' ex l1 l2 l3 l4 => r_nil ⟨_, _, rfl, ex, l1, l2, l3, l4⟩)) (fun u11 F11 n11 done hn' dw11 wf11 rv11 le11 => ?_)
    have wf := wf11
    have dw := dw11
    obtain ⟨py12, cy12, rfl, ry12⟩ := rv11; refine y_end st.d dw rfl (fun h13 ex vs => ?_)
    obtain ⟨F14, lt14, st⟩ := St.laidF st dw wf ex vs (Lay.nil (by have := dw.le; omega)) (fun e he => by cases he)
    have lz15 := lt14 _ (le11 (fun _ => true) rfl (fun _ _ => rfl))
    have lb14 := lt14 _ FF.base
    refine v_move ?_; obtain ⟨v16, e17, hF⟩ := bnd_some hF; refine v_callR st (ct54 N e17 st.d st.sub (Nat.le_trans hfl st.ext.le) (RowF.mono lz15 ry12) (RowF.mono lb14 ra2)) (fun u18 F18 h18 n18 le18 rv18 st => ?_)
    have le19 := PH.le.trans lb14 le18
    have le20 := PH.le.trans lz15 le18
    obtain ⟨py21, cy21, rfl, ry21⟩ := rv18; refine v_move ?_; refine r_nil ?_; refine th_n ?_; refine w_seq ?_; refine w_reg ?_; refine v_move ?_; obtain ⟨q22, hF⟩ := ck_some hF; refine v_conv q22 ?_; obtain ⟨q23, hF⟩ := ck_some hF; refine v_rem q23 ?_; obtain ⟨q24, hF⟩ := ck_some hF; refine v_add q24 ?_; refine v_move ?_; refine r_nil ?_; refine th_n ?_; refine w_seq ?_; refine w_reg ?_; refine v_fa ?_; refine v_ld1 (st.at (i := 0) rfl).2.2 rfl ?_; refine v_move ?_; refine v_fa ?_; refine v_ld1 (st.at (i := 0) rfl).2.2 rfl ?_; obtain ⟨q25, hF⟩ := ck_some hF; refine v_mul q25 ?_; refine v_move ?_; refine v_fa ?_; refine v_fa ?_; refine v_ld1 (st.at (i := 0) rfl).2.2 rfl ?_; obtain ⟨q26, hF⟩ := ck_some hF
    refine v_mul q26 ?_; refine v_move ?_; refine v_fa ?_; refine v_fa ?_; refine v_ld1 (st.at (i := 0) rfl).2.2 rfl ?_; obtain ⟨q27, hF⟩ := ck_some hF; refine v_mul q27 ?_; refine v_build (cs := [(i64 (((2 : Int) + (Int.tmod a3 (4 : Int))) * a0_2)), (i64 (((2 : Int) + (Int.tmod a3 (4 : Int))) * a0_3))]) rfl ?_; refine v_build (cs := [(i64 a0_0), (i64 (((2 : Int) + (Int.tmod a3 (4 : Int))) * a0_1)), (i64 (((2 : Int) + (Int.tmod a3 (4 : Int))) * a0_2)), (i64 (((2 : Int) + (Int.tmod a3 (4 : Int))) * a0_3))]) rfl ?_; refine v_alloc st (fun b28 h29 n30 st => ?_); refine v_st (cs' := [(i64 a0_0), (i64 (((2 : Int) + (Int.tmod a3 (4 : Int))) * a0_1)), (i64 (((2 : Int) + (Int.tmod a3 (4 : Int))) * a0_2)), (i64 (((2 : Int) + (Int.tmod a3 (4 : Int))) * a0_3))]) st 1 rfl rfl rfl rfl hfl (fun h31 st => ?_)
    refine r_nil ?_; refine th_n ?_; refine w_seq ?_; refine w_reg ?_; refine v_move ?_; refine r_nil ?_; refine th_n ?_; refine w_seq ?_; refine w_seq ?_; refine w_reg ?_; refine v_move ?_; refine r_nil ?_; refine th_n ?_; refine w_block ?_
    have st := st.nilL 4
    have w32 : LR (rP rI (rP rI (rP rI rI))) 4 F18 ([] : List (Int × Int × Int × Int)) [] := LR.nil
    obtain ⟨y53, hy, hF⟩ := bnd_some hF; refine v_loopD (sf18_L1 a3 v16) (fun x34 T ds35 h nx => ∃ (F35 : PH) (o36 : Option Nat) (c36 : Nat) (cs36 : List HV), ds35 = [] ∧ PH.le F18 F35 ∧ St n0 h0 F0 F35 h nx [.bx b1 [(i64 a0_0), (i64 a0_1), (i64 a0_2), (i64 a0_3)], .bx b28 [(i64 a0_0), (i64 (((2 : Int) + (Int.tmod a3 (4 : Int))) * a0_1)), (i64 (((2 : Int) + (Int.tmod a3 (4 : Int))) * a0_2)), (i64 (((2 : Int) + (Int.tmod a3 (4 : Int))) * a0_3))], .ls o36 c36 cs36 4] ∧ LR (rP rI (rP rI (rP rI rI))) 4 F35 x34.1 cs36 ∧ T.get 4 = some (.ptr (some (b1, 0))) ∧ T.get 9 = some (.slice py21 (v16).length cy21) ∧ T.get 10 = some (i64 ((2 : Int) + (Int.tmod a3 (4 : Int)))) ∧ T.get 11 = some (.ptr (some (b28, 0))) ∧ T.get 12 = some (slv o36 (x34.1).length c36) ∧ T.get 13 = some (i64 x34.2)) (fun y e a σ => e = .exit 0 ∧ a.nt = 165 ∧ ∃ (F54 : PH) (o55 : Option Nat) (c55 : Nat) (cs55 : List HV), a.defers = [] ∧ PH.le F18 F54 ∧ St n0 h0 F0 F54 σ.h σ.nx [.bx b1 [(i64 a0_0), (i64 a0_1), (i64 a0_2), (i64 a0_3)], .bx b28 [(i64 a0_0), (i64 (((2 : Int) + (Int.tmod a3 (4 : Int))) * a0_1)), (i64 (((2 : Int) + (Int.tmod a3 (4 : Int))) * a0_2)), (i64 (((2 : Int) + (Int.tmod a3 (4 : Int))) * a0_3))], .ls o55 c55 cs55 4] ∧ LR (rP rI (rP rI (rP rI rI))) 4 F54 y cs55 ∧ a.tmps.get 4 = some (.ptr (some (b1, 0))) ∧ a.tmps.get 9 = some (.slice py21 (v16).length cy21) ∧ a.tmps.get 10 = some (i64 ((2 : Int) + (Int.tmod a3 (4 : Int)))) ∧ a.tmps.get 11 = some (.ptr (some (b28, 0))) ∧ a.tmps.get 12 = some (slv o55 (y).length c55)) (fun x34 T ds35 h nx s hp hF => ?_) N _ y53 _ _ _ _ hy ⟨F18, none, 0, [], rfl, (PH.le.refl _), st, w32, gA, gA, gA, gA, gA, gA⟩ (fun e a σ hne hq => ?_)
    · obtain ⟨F35, o36, c36, cs36, rfl, le35, st, w36, t4, t9, t10, t11, t12, t13⟩ := hp
      have le37 := PH.le.trans le19 le35
      have le38 := PH.le.trans le20 le35
      have le39 := PH.le.trans le18 le35
      unfold sf18_L1 at hF; unfold L18w1; refine w_seq ?_; refine w_seq ?_; refine w_reg ?_; refine v_move ?_; refine v_move ?_; refine v_len ?_; refine v_lss ?_; refine r_nil ?_; refine th_n ?_; refine v_cond (fun hb56 => ?_) (fun hb56 => ?_)
      · have hF := bif_t hb56 hF; refine w_skip ?_; refine th_n ?_; refine w_seq ?_; refine w_block ?_; refine w_drawV (Nat.le_trans hfl st.ext.le) (fun dw => ?_); refine y_pure st.d dw (fun hm vw => v_move pr_nil) ?_; refine y_pure st.d dw (fun hm vw => v_move pr_nil) ?_; refine y_pure st.d dw (fun hm vw => v_move pr_nil) ?_; obtain ⟨n57, x57, z57, l57, g57, hF⟩ := ix_some hF; obtain ⟨b57, o57, s57, j57, r57, e57, f57, k57, ⟨_, _, rfl, rfl, ⟨_, _, rfl, rfl, ⟨_, _, rfl, rfl, rfl⟩⟩⟩⟩ := RowF.get ry21 g57; refine y_pure st.d dw (fun hm vw => v_ixp e57 z57 l57 pr_nil) ?_; refine y_pure st.d dw (fun hm vw => v_fa pr_nil) ?_; refine y_pure st.d dw (fun hm vw => v_ld1 (vw.fz st (le35 _ _ f57)) (take_at (j := 0) k57 rfl) pr_nil) ?_
        refine y_pure st.d dw (fun hm vw => v_move pr_nil) ?_; refine y_pure st.d dw (fun hm vw => v_move pr_nil) ?_; obtain ⟨n58, x58, z58, l58, g58, hF⟩ := ix_some hF; obtain ⟨b58, o58, s58, j58, r58, e58, f58, k58, ⟨_, _, rfl, rfl, ⟨_, _, rfl, rfl, ⟨_, _, rfl, rfl, rfl⟩⟩⟩⟩ := RowF.get ry21 g58; refine y_pure st.d dw (fun hm vw => v_ixp e58 z58 l58 pr_nil) ?_; refine y_pure st.d dw (fun hm vw => v_fa pr_nil) ?_; refine y_pure st.d dw (fun hm vw => v_ld1 (vw.fz st (le35 _ _ f58)) (take_at (j := 1) k58 rfl) pr_nil) ?_; refine y_pure st.d dw (fun hm vw => v_move pr_nil) ?_; refine y_pure st.d dw (fun hm vw => v_move pr_nil) ?_; refine y_pure st.d dw (fun hm vw => v_move pr_nil) ?_; obtain ⟨n59, x59, z59, l59, g59, hF⟩ := ix_some hF
        obtain ⟨b59, o59, s59, j59, r59, e59, f59, k59, ⟨_, _, rfl, rfl, ⟨_, _, rfl, rfl, ⟨_, _, rfl, rfl, rfl⟩⟩⟩⟩ := RowF.get ry21 g59; refine y_pure st.d dw (fun hm vw => v_ixp e59 z59 l59 pr_nil) ?_; refine y_pure st.d dw (fun hm vw => v_fa pr_nil) ?_; refine y_pure st.d dw (fun hm vw => v_fa pr_nil) ?_; refine y_pure st.d dw (fun hm vw => v_ld1 (vw.fz st (le35 _ _ f59)) (take_at (j := 2) k59 rfl) pr_nil) ?_; obtain ⟨q60, hF⟩ := ck_some hF; refine y_pure st.d dw (fun hm vw => v_mul q60 pr_nil) ?_; refine y_pure st.d dw (fun hm vw => v_move pr_nil) ?_; refine y_pure st.d dw (fun hm vw => v_move pr_nil) ?_; refine y_pure st.d dw (fun hm vw => v_move pr_nil) ?_; obtain ⟨n61, x61, z61, l61, g61, hF⟩ := ix_some hF
        obtain ⟨b61, o61, s61, j61, r61, e61, f61, k61, ⟨_, _, rfl, rfl, ⟨_, _, rfl, rfl, ⟨_, _, rfl, rfl, rfl⟩⟩⟩⟩ := RowF.get ry21 g61; refine y_pure st.d dw (fun hm vw => v_ixp e61 z61 l61 pr_nil) ?_; refine y_pure st.d dw (fun hm vw => v_fa pr_nil) ?_; refine y_pure st.d dw (fun hm vw => v_fa pr_nil) ?_; refine y_pure st.d dw (fun hm vw => v_ld1 (vw.fz st (le35 _ _ f61)) (take_at (j := 3) k61 rfl) pr_nil) ?_; refine y_end st.d dw rfl (fun h62 ex vs => ?_)
        have st := st.ext1 ex
        obtain ⟨q63, hF⟩ := ck_some hF; refine v_mul q63 ?_; refine v_build (cs := [(i64 (((2 : Int) + (Int.tmod a3 (4 : Int))) * x59.2.2.1)), (i64 (((2 : Int) + (Int.tmod a3 (4 : Int))) * x61.2.2.2))]) rfl ?_; refine v_build (cs := [(i64 x57.1), (i64 x58.2.1), (i64 (((2 : Int) + (Int.tmod a3 (4 : Int))) * x59.2.2.1)), (i64 (((2 : Int) + (Int.tmod a3 (4 : Int))) * x61.2.2.2))]) rfl ?_; refine v_bs (cs := [(i64 x57.1), (i64 x58.2.1), (i64 (((2 : Int) + (Int.tmod a3 (4 : Int))) * x59.2.2.1)), (i64 (((2 : Int) + (Int.tmod a3 (4 : Int))) * x61.2.2.2))]) st rfl (fun b64 h65 n66 st => ?_); obtain ⟨q67, hF⟩ := ck_some hF
        have w67 : LR (rP rI (rP rI (rP rI rI))) 4 F35 (x34.1 ++ [(x57.1, x58.2.1, (((2 : Int) + (Int.tmod a3 (4 : Int))) * x59.2.2.1), (((2 : Int) + (Int.tmod a3 (4 : Int))) * x61.2.2.2))]) (cs36 ++ [(i64 x57.1), (i64 x58.2.1), (i64 (((2 : Int) + (Int.tmod a3 (4 : Int))) * x59.2.2.1)), (i64 (((2 : Int) + (Int.tmod a3 (4 : Int))) * x61.2.2.2))]) := LR.app w36 (LR.one (⟨[(i64 x57.1)], [(i64 x58.2.1), (i64 (((2 : Int) + (Int.tmod a3 (4 : Int))) * x59.2.2.1)), (i64 (((2 : Int) + (Int.tmod a3 (4 : Int))) * x61.2.2.2))], rfl, rfl, ⟨[(i64 x58.2.1)], [(i64 (((2 : Int) + (Int.tmod a3 (4 : Int))) * x59.2.2.1)), (i64 (((2 : Int) + (Int.tmod a3 (4 : Int))) * x61.2.2.2))], rfl, rfl, ⟨[(i64 (((2 : Int) + (Int.tmod a3 (4 : Int))) * x59.2.2.1))], [(i64 (((2 : Int) + (Int.tmod a3 (4 : Int))) * x61.2.2.2))], rfl, rfl, rfl⟩⟩⟩))
        refine v_aps (n := 1) (ox := 0) (m := (x34.1 ++ [(x57.1, x58.2.1, (((2 : Int) + (Int.tmod a3 (4 : Int))) * x59.2.2.1), (((2 : Int) + (Int.tmod a3 (4 : Int))) * x61.2.2.2))]).length) (row := [(i64 x57.1), (i64 x58.2.1), (i64 (((2 : Int) + (Int.tmod a3 (4 : Int))) * x59.2.2.1)), (i64 (((2 : Int) + (Int.tmod a3 (4 : Int))) * x61.2.2.2))]) st 2 rfl w36.1 (st.at (i := 3) rfl).2.2 rfl rfl q67 hfl (by decide) (by decide) (by simp) (fun o67 c67 h67 n67 st => ?_)
        refine v_move ?_; refine r_nil ?_; refine ib_n ?_; refine th_n ?_; refine w_reg ?_; refine v_move ?_; obtain ⟨q68, hF⟩ := ck_some hF; refine v_add q68 ?_; refine v_move ?_; refine r_nil ?_; refine thn ⟨_, (inj hF).symm, rfl, ?_⟩; dsimp only
        exact ⟨F35, o67, c67, (cs36 ++ [(i64 x57.1), (i64 x58.2.1), (i64 (((2 : Int) + (Int.tmod a3 (4 : Int))) * x59.2.2.1)), (i64 (((2 : Int) + (Int.tmod a3 (4 : Int))) * x61.2.2.2))]), rfl, le35, (st.drop (by first | exact List.Sublist.refl _ | (repeat first | exact List.nil_sublist _ | refine List.Sublist.cons_cons _ ?_ | refine List.Sublist.cons _ ?_))), w67, gA, gA, gA, gA, gA, gA⟩
      · have hF := bif_f hb56 hF; refine w_exit ?_; refine th_e ?_; refine th_e ?_; refine ⟨_, (inj hF).symm, rfl, rfl, ?_⟩; dsimp only
        exact ⟨F35, o36, c36, cs36, rfl, le35, st, w36, gA, gA, gA, gA, gA⟩
    · obtain ⟨N9, T, ds54⟩ := a; obtain ⟨h72, n73⟩ := σ; obtain ⟨rfl, e1, F54, o55, c55, cs55, e2, le54, st, w55, t4, t9, t10, t11, t12⟩ := hq
      dsimp only at e1 e2
      subst e1
      subst e2
      dsimp only at st t4 t9 t10 t11 t12
      have le69 := PH.le.trans le19 le54
      have le70 := PH.le.trans le20 le54
      have le71 := PH.le.trans le18 le54
      refine ib_e ?_; refine th_n ?_; refine w_seq ?_; refine w_seq ?_; refine w_reg ?_; refine v_ldn (vs := [(i64 a0_0), (i64 (((2 : Int) + (Int.tmod a3 (4 : Int))) * a0_1)), (i64 (((2 : Int) + (Int.tmod a3 (4 : Int))) * a0_2)), (i64 (((2 : Int) + (Int.tmod a3 (4 : Int))) * a0_3))]) (st.at (i := 1) rfl).2.2 rfl ?_; refine v_move ?_; obtain ⟨v74, e75, hF⟩ := bnd_some hF
      refine v_call st (ct56 N e75 st.d (all_sub _) (st.row_all (i := 2) rfl w55 (by decide))) (fun n76 st => ?_)
      refine v_not ?_; refine r_nil ?_; refine th_n ?_; refine v_cond (fun hb77 => ?_) (fun hb77 => ?_)
      · have hF := bif_t hb77 hF; refine w_seq ?_; refine w_reg ?_; refine v_call st (ct_wakes (h := _) (nx := _)) (fun n78 st => ?_); refine v_move ?_; refine r_nil ?_; refine th_n ?_; refine w_ret ?_; refine th_r ?_; obtain rfl := inj hF
        exact end_s st (Res.t gA Res.nil) rfl rfl
      · have hF := bif_f hb77 hF; refine w_skip ?_; refine th_n ?_; refine w_seq ?_; refine w_reg ?_; refine v_ldn (vs := [(i64 a0_0), (i64 a0_1), (i64 a0_2), (i64 a0_3)]) (st.at (i := 0) rfl).2.2 rfl ?_; obtain ⟨v79, e80, hF⟩ := bnd_some hF; refine v_call st (ct21 N e80 st.d st.sub ) (fun n81 st => ?_); refine v_move ?_; obtain ⟨v82, e83, hF⟩ := bnd_some hF; refine v_callR st (ct23 N e83 st.d st.sub (Nat.le_trans hfl st.ext.le) (RowF.mono le54 ry21)) (fun u84 F84 h84 n84 le84 rv84 st => ?_)
        have le85 := PH.le.trans le69 le84
        have le86 := PH.le.trans le70 le84
        have le87 := PH.le.trans le71 le84
        have le88 := PH.le.trans le54 le84
        obtain ⟨py89, cy89, rfl, ry89⟩ := rv84; obtain ⟨v90, e91, hF⟩ := bnd_some hF; refine v_callR st (ct29 N e91 st.d st.sub (Nat.le_trans hfl st.ext.le) ry89) (fun u92 F92 h92 n92 le92 rv92 st => ?_)
        have le93 := PH.le.trans le85 le92
        have le94 := PH.le.trans le86 le92
        have le95 := PH.le.trans le87 le92
        have le96 := PH.le.trans le88 le92
        have le97 := PH.le.trans le84 le92
        obtain ⟨_, _, rfl, ⟨py98, cy98, rfl, ry98⟩, rfl⟩ := rv92; refine v_move ?_; refine v_xt rfl ?_; refine v_xt rfl ?_; refine v_move ?_; refine v_move ?_; refine r_nil ?_; refine th_n ?_; refine w_seq ?_; refine w_reg ?_; refine v_ldn (vs := [(i64 a0_0), (i64 (((2 : Int) + (Int.tmod a3 (4 : Int))) * a0_1)), (i64 (((2 : Int) + (Int.tmod a3 (4 : Int))) * a0_2)), (i64 (((2 : Int) + (Int.tmod a3 (4 : Int))) * a0_3))]) (st.at (i := 1) rfl).2.2 rfl ?_; obtain ⟨v99, e100, hF⟩ := bnd_some hF; refine v_call st (ct21 N e100 st.d st.sub ) (fun n101 st => ?_); refine v_move ?_; obtain ⟨v102, e103, hF⟩ := bnd_some hF
        obtain ⟨F104, le104, st, rf104⟩ := St.freeze st 2 rfl (LR.mono le97 w55) (by decide)
        have le105 := PH.le.trans le93 le104
        have le106 := PH.le.trans le94 le104
        have le107 := PH.le.trans le95 le104
        have le108 := PH.le.trans le96 le104
        have le109 := PH.le.trans le97 le104
        have le110 := PH.le.trans le92 le104
        refine v_callR st (ct23 N e103 st.d st.sub (Nat.le_trans hfl st.ext.le) rf104) (fun u111 F111 h111 n111 le111 rv111 st => ?_)
        have le112 := PH.le.trans le105 le111
        have le113 := PH.le.trans le106 le111
        have le114 := PH.le.trans le107 le111
        have le115 := PH.le.trans le108 le111
        have le116 := PH.le.trans le109 le111
        have le117 := PH.le.trans le110 le111
        have le118 := PH.le.trans le104 le111
        obtain ⟨py119, cy119, rfl, ry119⟩ := rv111; obtain ⟨v120, e121, hF⟩ := bnd_some hF; refine v_callR st (ct29 N e121 st.d st.sub (Nat.le_trans hfl st.ext.le) ry119) (fun u122 F122 h122 n122 le122 rv122 st => ?_)
        have le123 := PH.le.trans le112 le122
        have le124 := PH.le.trans le113 le122
        have le125 := PH.le.trans le114 le122
        have le126 := PH.le.trans le115 le122
        have le127 := PH.le.trans le116 le122
        have le128 := PH.le.trans le117 le122
        have le129 := PH.le.trans le118 le122
        have le130 := PH.le.trans le111 le122
        obtain ⟨_, _, rfl, ⟨py131, cy131, rfl, ry131⟩, rfl⟩ := rv122; refine v_move ?_; refine v_xt rfl ?_; refine v_xt rfl ?_; refine v_move ?_; refine v_move ?_; refine r_nil ?_; refine th_n ?_; obtain ⟨y154, hA155, hF⟩ := bnd_some hF; refine w_cutD (fun T ds160 h nx => ∃ u, y154 = (.inr u) ∧ ∃ (F160 : PH), ds160 = [] ∧ PH.le F122 F160 ∧ St n0 h0 F0 F160 h nx [.bx b1 [(i64 a0_0), (i64 a0_1), (i64 a0_2), (i64 a0_3)], .bx b28 [(i64 a0_0), (i64 (((2 : Int) + (Int.tmod a3 (4 : Int))) * a0_1)), (i64 (((2 : Int) + (Int.tmod a3 (4 : Int))) * a0_2)), (i64 (((2 : Int) + (Int.tmod a3 (4 : Int))) * a0_3))]] ∧ T.get 10 = some (i64 ((2 : Int) + (Int.tmod a3 (4 : Int)))) ∧ T.get 14 = some (.slice py98 (v90.1).length cy98) ∧ T.get 16 = some (.slice py131 (v120.1).length cy131)) ?_ (fun T ds160 h nx hp => ?_)
        · have hK156 := hF
          have hF := hA155; obtain ⟨y165, hA166, hF⟩ := bnd_some hF; refine w_cutD (fun T ds168 h nx => ∃ (F168 : PH), ds168 = [] ∧ PH.le F122 F168 ∧ St n0 h0 F0 F168 h nx [.bx b1 [(i64 a0_0), (i64 a0_1), (i64 a0_2), (i64 a0_3)], .bx b28 [(i64 a0_0), (i64 (((2 : Int) + (Int.tmod a3 (4 : Int))) * a0_1)), (i64 (((2 : Int) + (Int.tmod a3 (4 : Int))) * a0_2)), (i64 (((2 : Int) + (Int.tmod a3 (4 : Int))) * a0_3))]] ∧ T.get 10 = some (i64 ((2 : Int) + (Int.tmod a3 (4 : Int)))) ∧ T.get 14 = some (.slice py98 (v90.1).length cy98) ∧ T.get 16 = some (.slice py131 (v120.1).length cy131) ∧ T.get 129 = some (.bool y165)) ?_ (fun T ds168 h nx hp => ?_)
          · have hK167 := hF
            have hF := hA166; refine w_reg ?_; refine v_move ?_; refine v_nei ?_; refine v_move ?_
            rcases Bool.eq_false_or_eq_true (!(decide (v90.2 = (0 : Int)))) with hb169 | hb169
            · have hF := bif_t hb169 hF; refine g_skip hb169 ?_; refine g_skip hb169 ?_; refine v_pick hb169 ?_; refine v_move ?_; refine g_skip rfl ?_; refine g_skip rfl ?_; refine g_skip rfl ?_; refine g_skip rfl ?_; refine g_skip rfl ?_; refine g_skip rfl ?_; refine v_pick rfl ?_; refine v_move ?_; refine g_skip rfl ?_; refine g_skip rfl ?_; refine g_skip rfl ?_; refine g_skip rfl ?_; refine g_skip rfl ?_; refine v_pick rfl ?_; refine r_nil ?_; obtain rfl := inj hF; refine thn ⟨rfl, ?_⟩; dsimp only
              exact ⟨F122, rfl, (PH.le.refl _), st, gA, gA, gA, gA⟩
            · have hF := bif_f hb169 hF; refine g_take hb169 (v_move ?_); refine g_take hb169 (v_nei ?_); refine v_pick' hb169 ?_; refine v_move ?_
              rcases Bool.eq_false_or_eq_true (!(decide (v120.2 = (0 : Int)))) with hb170 | hb170
              · have hF := bif_t hb170 hF; refine g_skip hb170 ?_; refine g_skip hb170 ?_; refine g_skip hb170 ?_; refine g_skip hb170 ?_; refine g_skip hb170 ?_; refine g_skip hb170 ?_; refine v_pick hb170 ?_; refine v_move ?_; refine g_skip rfl ?_; refine g_skip rfl ?_; refine g_skip rfl ?_; refine g_skip rfl ?_; refine g_skip rfl ?_; refine v_pick rfl ?_; refine r_nil ?_; obtain rfl := inj hF; refine thn ⟨rfl, ?_⟩; dsimp only
                exact ⟨F122, rfl, (PH.le.refl _), st, gA, gA, gA, gA⟩
              · have hF := bif_f hb170 hF; refine g_take hb170 (v_move ?_); refine g_take hb170 (v_len ?_); refine g_take hb170 (v_fa ?_); refine g_take hb170 (v_ld1 (st.at (i := 0) rfl).2.2 rfl ?_); obtain ⟨q171, hF⟩ := ck_some hF; refine g_take hb170 (v_add q171 ?_); refine g_take hb170 (v_nei ?_); refine v_pick' hb170 ?_; refine v_move ?_
                rcases Bool.eq_false_or_eq_true (!(decide (((v90.1).length : Int) = (a0_0 + (1 : Int))))) with hb172 | hb172
                · have hF := bif_t hb172 hF; refine g_skip hb172 ?_; refine g_skip hb172 ?_; refine g_skip hb172 ?_; refine g_skip hb172 ?_; refine g_skip hb172 ?_; refine v_pick hb172 ?_; refine r_nil ?_; obtain rfl := inj hF; refine thn ⟨rfl, ?_⟩; dsimp only
                  exact ⟨F122, rfl, (PH.le.refl _), st, gA, gA, gA, gA⟩
                · have hF := bif_f hb172 hF; refine g_take hb172 (v_move ?_); refine g_take hb172 (v_len ?_); refine g_take hb172 (v_move ?_); refine g_take hb172 (v_len ?_); refine g_take hb172 (v_nei ?_); refine v_pick' hb172 ?_; refine r_nil ?_; obtain rfl := inj hF; refine thn ⟨rfl, ?_⟩; dsimp only
                  exact ⟨F122, rfl, (PH.le.refl _), st, gA, gA, gA, gA⟩
          · obtain ⟨F168, rfl, le168, st, t10, t14, t16, t129⟩ := hp
            have le173 := PH.le.trans le123 le168
            have le174 := PH.le.trans le124 le168
            have le175 := PH.le.trans le125 le168
            have le176 := PH.le.trans le126 le168
            have le177 := PH.le.trans le127 le168
            have le178 := PH.le.trans le128 le168
            have le179 := PH.le.trans le129 le168
            have le180 := PH.le.trans le130 le168
            have le181 := PH.le.trans le122 le168
            refine v_cond (fun hb182 => ?_) (fun hb182 => ?_)
            · have hF := bif_t hb182 hF; refine w_seq ?_; refine w_reg ?_; refine v_move ?_; refine r_nil ?_; refine th_n ?_; refine w_ret ?_; obtain rfl := inj hF; have hF := hK156; have hF := sel_l hF; refine th_r ?_; obtain rfl := inj hF
              exact end_s st (Res.t gA Res.nil) rfl rfl
            · have hF := bif_f hb182 hF; refine w_skip ?_; obtain rfl := inj hF; refine thn ⟨rfl, _, rfl, ?_⟩; dsimp only
              exact ⟨F168, rfl, le168, st, gA, gA, gA⟩
        · obtain ⟨w159, rfl, F160, rfl, le160, st, t10, t14, t16⟩ := hp; have hF := sel_r hF
          have le192 := PH.le.trans le123 le160
          have le193 := PH.le.trans le124 le160
          have le194 := PH.le.trans le125 le160
          have le195 := PH.le.trans le126 le160
          have le196 := PH.le.trans le127 le160
          have le197 := PH.le.trans le128 le160
          have le198 := PH.le.trans le129 le160
          have le199 := PH.le.trans le130 le160
          have le200 := PH.le.trans le122 le160
          refine w_seq ?_; refine w_seq ?_; refine w_reg ?_; refine v_move ?_; refine r_nil ?_; refine th_n ?_; refine w_block ?_; obtain ⟨y249, hy, hF⟩ := bnd_some hF; refine v_loopD (sf18_L2 a3 v90 v120) (fun x201 T ds202 h nx => ∃ (F202 : PH), ds202 = [] ∧ PH.le F160 F202 ∧ St n0 h0 F0 F202 h nx [.bx b1 [(i64 a0_0), (i64 a0_1), (i64 a0_2), (i64 a0_3)], .bx b28 [(i64 a0_0), (i64 (((2 : Int) + (Int.tmod a3 (4 : Int))) * a0_1)), (i64 (((2 : Int) + (Int.tmod a3 (4 : Int))) * a0_2)), (i64 (((2 : Int) + (Int.tmod a3 (4 : Int))) * a0_3))]] ∧ T.get 10 = some (i64 ((2 : Int) + (Int.tmod a3 (4 : Int)))) ∧ T.get 14 = some (.slice py98 (v90.1).length cy98) ∧ T.get 16 = some (.slice py131 (v120.1).length cy131) ∧ T.get 18 = some (i64 x201)) (fun y e a σ => (∃ u, y = (.inl u) ∧ e = .ret ∧ a.nt = 165 ∧ ∃ (F251 : PH), a.defers = [] ∧ PH.le F160 F251 ∧ St n0 h0 F0 F251 σ.h σ.nx [.bx b1 [(i64 a0_0), (i64 a0_1), (i64 a0_2), (i64 a0_3)], .bx b28 [(i64 a0_0), (i64 (((2 : Int) + (Int.tmod a3 (4 : Int))) * a0_1)), (i64 (((2 : Int) + (Int.tmod a3 (4 : Int))) * a0_2)), (i64 (((2 : Int) + (Int.tmod a3 (4 : Int))) * a0_3))]] ∧ a.tmps.get 8 = some (.bool false)) ∨ (∃ u, y = (.inr u) ∧ e = .exit 2 ∧ a.nt = 165 ∧ ∃ (F253 : PH), a.defers = [] ∧ PH.le F160 F253 ∧ St n0 h0 F0 F253 σ.h σ.nx [.bx b1 [(i64 a0_0), (i64 a0_1), (i64 a0_2), (i64 a0_3)], .bx b28 [(i64 a0_0), (i64 (((2 : Int) + (Int.tmod a3 (4 : Int))) * a0_1)), (i64 (((2 : Int) + (Int.tmod a3 (4 : Int))) * a0_2)), (i64 (((2 : Int) + (Int.tmod a3 (4 : Int))) * a0_3))]])) (fun x201 T ds202 h nx s hp hF => ?_) N _ y249 _ _ _ _ hy ⟨F160, rfl, (PH.le.refl _), st, gA, gA, gA, gA⟩ (fun e a σ hne hq => ?_)
          · obtain ⟨F202, rfl, le202, st, t10, t14, t16, t18⟩ := hp
            have le203 := PH.le.trans le192 le202
            have le204 := PH.le.trans le193 le202
            have le205 := PH.le.trans le194 le202
            have le206 := PH.le.trans le195 le202
            have le207 := PH.le.trans le196 le202
            have le208 := PH.le.trans le197 le202
            have le209 := PH.le.trans le198 le202
            have le210 := PH.le.trans le199 le202
            have le211 := PH.le.trans le200 le202
            have le212 := PH.le.trans le160 le202
            unfold sf18_L2 at hF; unfold L18w0; refine w_seq ?_; refine w_seq ?_; refine w_reg ?_; refine v_move ?_; refine v_move ?_; refine v_len ?_; refine v_lss ?_; refine r_nil ?_; refine th_n ?_; refine v_cond (fun hb254 => ?_) (fun hb254 => ?_)
            · have hF := bif_t hb254 hF; refine w_skip ?_; refine th_n ?_; refine w_seq ?_; refine w_block ?_; obtain ⟨y264, hA265, hF⟩ := bnd_some hF; refine w_cutD (fun T ds267 h nx => ∃ (F267 : PH), ds267 = [] ∧ PH.le F202 F267 ∧ St n0 h0 F0 F267 h nx [.bx b1 [(i64 a0_0), (i64 a0_1), (i64 a0_2), (i64 a0_3)], .bx b28 [(i64 a0_0), (i64 (((2 : Int) + (Int.tmod a3 (4 : Int))) * a0_1)), (i64 (((2 : Int) + (Int.tmod a3 (4 : Int))) * a0_2)), (i64 (((2 : Int) + (Int.tmod a3 (4 : Int))) * a0_3))]] ∧ T.get 10 = some (i64 ((2 : Int) + (Int.tmod a3 (4 : Int)))) ∧ T.get 14 = some (.slice py98 (v90.1).length cy98) ∧ T.get 16 = some (.slice py131 (v120.1).length cy131) ∧ T.get 18 = some (i64 x201) ∧ T.get 163 = some (.bool y264)) ?_ (fun T ds267 h nx hp => ?_)
              · have hK266 := hF
                have hF := hA265; refine w_drawV (Nat.le_trans hfl st.ext.le) (fun dw => ?_); refine y_pure st.d dw (fun hm vw => v_move pr_nil) ?_; refine y_pure st.d dw (fun hm vw => v_move pr_nil) ?_; obtain ⟨n268, x268, z268, l268, g268, hF⟩ := ix_some hF; obtain ⟨b268, o268, s268, j268, r268, e268, f268, k268, ⟨_, _, rfl, rfl, rfl⟩⟩ := RowF.get ry131 g268; refine y_pure st.d dw (fun hm vw => v_ixp e268 z268 l268 pr_nil) ?_; refine y_pure st.d dw (fun hm vw => v_fa pr_nil) ?_; refine y_pure st.d dw (fun hm vw => v_ld1 (vw.fz st (le212 _ _ f268)) (take_at (j := 0) k268 rfl) pr_nil) ?_; refine y_pure st.d dw (fun hm vw => v_move pr_nil) ?_; refine y_pure st.d dw (fun hm vw => v_move pr_nil) ?_
                refine y_pure st.d dw (fun hm vw => v_move pr_nil) ?_; obtain ⟨n269, x269, z269, l269, g269, hF⟩ := ix_some hF; obtain ⟨b269, o269, s269, j269, r269, e269, f269, k269, ⟨_, _, rfl, rfl, rfl⟩⟩ := RowF.get ry98 g269; refine y_pure st.d dw (fun hm vw => v_ixp e269 z269 l269 pr_nil) ?_; refine y_pure st.d dw (fun hm vw => v_fa pr_nil) ?_; refine y_pure st.d dw (fun hm vw => v_ld1 (vw.fz st (le209 _ _ f269)) (take_at (j := 0) k269 rfl) pr_nil) ?_; obtain ⟨q270, hF⟩ := ck_some hF; refine y_pure st.d dw (fun hm vw => v_mul q270 pr_nil) ?_; refine y_pure st.d dw (fun hm vw => v_gtr pr_nil) ?_; refine y_pure st.d dw (fun hm vw => v_move pr_nil) ?_
                rcases Bool.eq_false_or_eq_true (decide ((((2 : Int) + (Int.tmod a3 (4 : Int))) * x269.1) < x268.1)) with hb271 | hb271
                · have hF := bif_t hb271 hF; refine y_pure st.d dw (fun hm vw => g_skip hb271 pr_nil) ?_; refine y_pure st.d dw (fun hm vw => g_skip hb271 pr_nil) ?_; refine y_pure st.d dw (fun hm vw => g_skip hb271 pr_nil) ?_; refine y_pure st.d dw (fun hm vw => g_skip hb271 pr_nil) ?_; refine y_pure st.d dw (fun hm vw => g_skip hb271 pr_nil) ?_; refine y_pure st.d dw (fun hm vw => g_skip hb271 pr_nil) ?_; refine y_pure st.d dw (fun hm vw => g_skip hb271 pr_nil) ?_; refine y_pure st.d dw (fun hm vw => g_skip hb271 pr_nil) ?_; refine y_pure st.d dw (fun hm vw => g_skip hb271 pr_nil) ?_; refine y_pure st.d dw (fun hm vw => g_skip hb271 pr_nil) ?_; refine y_pure st.d dw (fun hm vw => g_skip hb271 pr_nil) ?_
                  refine y_end st.d dw rfl (fun h272 ex vs => ?_)
                  have st := st.ext1 ex
                  refine g_skip hb271 ?_; refine g_skip hb271 ?_; refine v_pick hb271 ?_; refine r_nil ?_; obtain rfl := inj hF; refine thn ⟨rfl, ?_⟩; dsimp only
                  exact ⟨F202, rfl, (PH.le.refl _), st, gA, gA, gA, gA, gA⟩
                · have hF := bif_f hb271 hF; refine y_pure st.d dw (fun hm vw => g_take hb271 (v_move pr_nil)) ?_; refine y_pure st.d dw (fun hm vw => g_take hb271 (v_move pr_nil)) ?_; obtain ⟨n273, x273, z273, l273, g273, hF⟩ := ix_some hF; obtain ⟨b273, o273, s273, j273, r273, e273, f273, k273, ⟨_, _, rfl, rfl, rfl⟩⟩ := RowF.get ry131 g273; refine y_pure st.d dw (fun hm vw => g_take hb271 (v_ixp e273 z273 l273 pr_nil)) ?_; refine y_pure st.d dw (fun hm vw => g_take hb271 (v_fa pr_nil)) ?_; refine y_pure st.d dw (fun hm vw => g_take hb271 (v_ld1 (vw.fz st (le212 _ _ f273)) (take_at (j := 1) k273 rfl) pr_nil)) ?_; refine y_pure st.d dw (fun hm vw => g_take hb271 (v_move pr_nil)) ?_; refine y_pure st.d dw (fun hm vw => g_take hb271 (v_move pr_nil)) ?_
                  refine y_pure st.d dw (fun hm vw => g_take hb271 (v_move pr_nil)) ?_; obtain ⟨n274, x274, z274, l274, g274, hF⟩ := ix_some hF; obtain ⟨b274, o274, s274, j274, r274, e274, f274, k274, ⟨_, _, rfl, rfl, rfl⟩⟩ := RowF.get ry98 g274; refine y_pure st.d dw (fun hm vw => g_take hb271 (v_ixp e274 z274 l274 pr_nil)) ?_; refine y_pure st.d dw (fun hm vw => g_take hb271 (v_fa pr_nil)) ?_; refine y_pure st.d dw (fun hm vw => g_take hb271 (v_ld1 (vw.fz st (le209 _ _ f274)) (take_at (j := 1) k274 rfl) pr_nil)) ?_; refine y_end st.d dw rfl (fun h275 ex vs => ?_)
                  have st := st.ext1 ex
                  obtain ⟨q276, hF⟩ := ck_some hF; refine g_take hb271 (v_mul q276 ?_); refine g_take hb271 (v_lss ?_); refine v_pick' hb271 ?_; refine r_nil ?_; obtain rfl := inj hF; refine thn ⟨rfl, ?_⟩; dsimp only
                  exact ⟨F202, rfl, (PH.le.refl _), st, gA, gA, gA, gA, gA⟩
              · obtain ⟨F267, rfl, le267, st, t10, t14, t16, t18, t163⟩ := hp
                have le277 := PH.le.trans le203 le267
                have le278 := PH.le.trans le204 le267
                have le279 := PH.le.trans le205 le267
                have le280 := PH.le.trans le206 le267
                have le281 := PH.le.trans le207 le267
                have le282 := PH.le.trans le208 le267
                have le283 := PH.le.trans le209 le267
                have le284 := PH.le.trans le210 le267
                have le285 := PH.le.trans le211 le267
                have le286 := PH.le.trans le212 le267
                have le287 := PH.le.trans le202 le267
                refine v_cond (fun hb288 => ?_) (fun hb288 => ?_)
                · have hF := bif_t hb288 hF; refine w_seq ?_; refine w_reg ?_; refine v_move ?_; refine r_nil ?_; refine th_n ?_; refine w_ret ?_; refine ib_r ?_; refine th_r ?_; refine th_r ?_; refine ⟨_, (inj hF).symm, .inl ⟨_, rfl, rfl, rfl, ?_⟩⟩; dsimp only
                  exact ⟨F267, rfl, le287, st, gA⟩
                · have hF := bif_f hb288 hF; refine w_skip ?_; refine ib_n ?_; refine th_n ?_; refine w_reg ?_; refine v_move ?_; obtain ⟨q289, hF⟩ := ck_some hF; refine v_add q289 ?_; refine v_move ?_; refine r_nil ?_; refine thn ⟨_, (inj hF).symm, rfl, ?_⟩; dsimp only
                  exact ⟨F267, rfl, le287, st, gA, gA, gA, gA⟩
            · have hF := bif_f hb254 hF; refine w_exit ?_; refine th_e ?_; refine th_e ?_; refine ⟨_, (inj hF).symm, .inr (⟨_, rfl, rfl, rfl, ?_⟩)⟩; dsimp only
              exact ⟨F202, rfl, le202, st⟩
          · rcases hq with hq | hq
            · obtain ⟨N9, T, ds251⟩ := a; obtain ⟨h300, n301⟩ := σ; obtain ⟨w250, rfl, rfl, e1, F251, e2, le251, st, t8⟩ := hq
              dsimp only at e1 e2
              subst e1
              subst e2
              dsimp only at st t8
              have le290 := PH.le.trans le192 le251
              have le291 := PH.le.trans le193 le251
              have le292 := PH.le.trans le194 le251
              have le293 := PH.le.trans le195 le251
              have le294 := PH.le.trans le196 le251
              have le295 := PH.le.trans le197 le251
              have le296 := PH.le.trans le198 le251
              have le297 := PH.le.trans le199 le251
              have le298 := PH.le.trans le200 le251
              have le299 := PH.le.trans le160 le251
              have hF := sel_l hF; refine ib_r ?_; refine th_r ?_; obtain rfl := inj hF
              exact end_s st (Res.t gA Res.nil) rfl rfl
            · obtain ⟨N9, T, ds253⟩ := a; obtain ⟨h312, n313⟩ := σ; obtain ⟨w252, rfl, rfl, e1, F253, e2, le253, st⟩ := hq
              dsimp only at e1 e2
              subst e1
              subst e2
              dsimp only at st
              have le302 := PH.le.trans le192 le253
              have le303 := PH.le.trans le193 le253
              have le304 := PH.le.trans le194 le253
              have le305 := PH.le.trans le195 le253
              have le306 := PH.le.trans le196 le253
              have le307 := PH.le.trans le197 le253
              have le308 := PH.le.trans le198 le253
              have le309 := PH.le.trans le199 le253
              have le310 := PH.le.trans le200 le253
              have le311 := PH.le.trans le160 le253
              have hF := sel_r hF; refine ib_e ?_; refine th_n ?_; refine w_seq ?_; refine w_reg ?_; refine v_call st (ct_wakes (h := _) (nx := _)) (fun n314 st => ?_); refine v_move ?_; refine r_nil ?_; refine th_n ?_; refine w_ret ?_; obtain rfl := inj hF
              exact end_s st (Res.t gA Res.nil) rfl rfl
end Go.Hx.V


/- Loops of functions on lists and numbers: what they come to. -/
namespace Go.Hx.V
open Go.Hx
theorem iter_ind {α β : Type} {step : α → Option (α ⊕ β)} (P : α → Prop) (m : α → Nat) (Y : β → Prop)
    (h : ∀ x, P x → (∃ x', step x = some (.inl x') ∧ P x' ∧ m x' < m x) ∨ ∃ y, step x = some (.inr y) ∧ Y y) : ∀ (N : Nat) (x : α), P x → m x < N → ∃ y, iter step N x = some y ∧ Y y
  | 0, x, hp, hm => by omega
  | N + 1, x, hp, hm => by
    unfold iter
    rcases h x hp with ⟨x', e, hp', hm'⟩ | ⟨y, e, hy⟩
    · rw [e]; exact iter_ind P m Y h N x' hp' (by omega)
    · rw [e]; exact ⟨y, rfl, hy⟩
theorem iter_run {α β : Type} {step : α → Option (α ⊕ β)} (s : Nat → α) (y : β) : ∀ (n i N : Nat), (∀ j, i ≤ j → j < i + n → step (s j) = some (.inl (s (j + 1)))) → step (s (i + n)) = some (.inr y) → n < N → iter step N (s i) = some y
  | 0, i, N, hs, he, hN => by
    obtain ⟨N, rfl⟩ : ∃ k, N = k + 1 := ⟨N - 1, by omega⟩
    unfold iter; rw [Nat.add_zero] at he; rw [he]; rfl
  | n + 1, i, N, hs, he, hN => by
    obtain ⟨N, rfl⟩ : ∃ k, N = k + 1 := ⟨N - 1, by omega⟩
    unfold iter
    rw [hs i (by omega) (by omega)]
    exact iter_run s y n (i + 1) N (fun j h1 h2 => hs j (by omega) (by omega)) (by rw [show i + 1 + n = i + (n + 1) by omega]; exact he) (by omega)
/-- A loop from 0 on. -/
theorem iter_up {α β : Type} {step : α → Option (α ⊕ β)} {x : α} {N : Nat} (s : Nat → α) (n : Nat) (y : β) (hx : x = s 0) (hs : ∀ j, j < n → step (s j) = some (.inl (s (j + 1)))) (he : step (s n) = some (.inr y)) (hN : n < N) : iter step N x = some y := by
  subst hx
  exact iter_run s y n 0 N (fun j _ h2 => hs j (by omega)) (by rw [Nat.zero_add]; exact he) hN
/-- A loop that ends early, or not. -/
theorem iter_all {α β : Type} {step : α → Option (α ⊕ β)} {x : α} {N : Nat} (s : Nat → α) (n : Nat) (p : Nat → Prop) [DecidablePred p] (good bad : β) (hx : x = s 0) (hs : ∀ j, j < n → p j → step (s j) = some (.inl (s (j + 1)))) (hf : ∀ j, j < n → ¬ p j → step (s j) = some (.inr bad)) (he : step (s n) = some (.inr good)) (hN : n < N) :
    ((∀ j, j < n → p j) ∧ iter step N x = some good) ∨ (¬ (∀ j, j < n → p j) ∧ iter step N x = some bad) := by
  by_cases h : ∀ j, j < n → p j
  · exact .inl ⟨h, iter_up s n good hx (fun j hj => hs j hj (h j hj)) he hN⟩
  · refine .inr ⟨h, ?_⟩
    have h1 : ∃ j, j < n ∧ ¬ p j := by
      refine Classical.byContradiction fun hc => h fun j hj => Classical.byContradiction fun hp => hc ⟨j, hj, hp⟩
    -- the first one
    obtain ⟨j, hj, hp, hmin⟩ : ∃ j, j < n ∧ ¬ p j ∧ ∀ i, i < j → p i := by
      obtain ⟨j, hj⟩ := h1
      induction j using Nat.strongRecOn with
      | ind j ih =>
        by_cases g : ∀ i, i < j → p i
        · exact ⟨j, hj.1, hj.2, g⟩
        · have : ∃ i, i < j ∧ ¬ p i := Classical.byContradiction fun hc => g fun i hi => Classical.byContradiction fun hp => hc ⟨i, hi, hp⟩
          obtain ⟨i, hi, hpi⟩ := this
          exact ih i hi ⟨by omega, hpi⟩
    exact iter_up s j bad hx (fun i hi => hs i (by omega) (hmin i hi)) (hf j hj hp) (by omega)
theorem ix_at {α β : Type} {l : List α} {j : Int} {n : Nat} {x : α} {k : α → Option β} (hj : j = n) (h : l[n]? = some x) : ix l j k = k x := by
  subst hj; exact ix_pos h
theorem lt_some {α : Type} {l : List α} {n : Nat} (h : n < l.length) : l[n]? = some l[n] := List.getElem?_eq_getElem h
theorem some_lt {α : Type} {l : List α} {n : Nat} {x : α} (h : l[n]? = some x) : n < l.length := by
  rcases Nat.lt_or_ge n l.length with g | g
  · exact g
  · rw [List.getElem?_eq_none g] at h; cases h
theorem take_succ' {α : Type} {l : List α} {n : Nat} {x : α} (h : l[n]? = some x) : l.take (n + 1) = l.take n ++ [x] := by
  rw [List.take_add_one, h]; rfl
end Go.Hx.V

/- Bore: what a limit makes of what is known, by the functions on lists and numbers. -/
namespace Go.Hx.V
open Go.Hx
set_option linter.unusedVariables false
def lI (T f g m : Int) (x y : Int × (Nat → Int)) : Option ((Int × (Nat → Int)) ⊕ (Nat → Int)) :=
  (bif (decide (y.1 < T)) then (ck (0 ≤ g ∧ g < 13) ((ck (0 ≤ y.1 ∧ y.1 < 13) ((ck (rng (((x.2 (((Int.toNat x.1) * 13) + (Int.toNat f))) + m) + (y.2 (((Int.toNat g) * 13) + (Int.toNat y.1))))) ((ck (0 ≤ x.1 ∧ x.1 < 13) ((ck (0 ≤ y.1 ∧ y.1 < 13) ((bif (decide ((((x.2 (((Int.toNat x.1) * 13) + (Int.toNat f))) + m) + (y.2 (((Int.toNat g) * 13) + (Int.toNat y.1)))) < (y.2 (((Int.toNat x.1) * 13) + (Int.toNat y.1))))) then (ck (0 ≤ x.1 ∧ x.1 < 13) ((ck (0 ≤ y.1 ∧ y.1 < 13) ((ck (rng (y.1 + (1 : Int))) (some (.inl ((y.1 + (1 : Int)), (ups y.2 (((Int.toNat x.1) * 13) + (Int.toNat y.1)) (((x.2 (((Int.toNat x.1) * 13) + (Int.toNat f))) + m) + (y.2 (((Int.toNat g) * 13) + (Int.toNat y.1))))))))))))) else (ck (rng (y.1 + (1 : Int))) (some (.inl ((y.1 + (1 : Int)), y.2))))))))))))))) else some (.inr y.2))
def lO (N : Nat) (T f g m : Int) (x : Int × (Nat → Int)) : Option ((Int × (Nat → Int)) ⊕ (Nat → Int)) :=
  (bif (decide (x.1 < T)) then (ck (0 ≤ x.1 ∧ x.1 < 13) ((ck (0 ≤ f ∧ f < 13) ((ck (rng ((x.2 (((Int.toNat x.1) * 13) + (Int.toNat f))) + m)) ((ck (0 ≤ x.1 ∧ x.1 < 13) ((ck (0 ≤ g ∧ g < 13) ((bif (decide ((x.2 (((Int.toNat x.1) * 13) + (Int.toNat g))) ≤ ((x.2 (((Int.toNat x.1) * 13) + (Int.toNat f))) + m))) then (ck (rng (x.1 + (1 : Int))) (some (.inl ((x.1 + (1 : Int)), x.2)))) else bnd (iter (lI T f g m x) N ((0 : Int), x.2)) (fun y133 => (ck (rng (x.1 + (1 : Int))) (some (.inl ((x.1 + (1 : Int)), y133)))))))))))))))) else some (.inr x.2))
theorem l96_2 (N : Nat) (T f g m : Int) : sf96_L2 N T f g m = lO N T f g m := rfl
theorem l96_4 (N : Nat) (T f g m : Int) : sf96_L4 N T f g m = lO N T (g + 1) f ((-m) - 1) := rfl
theorem l97_6 (N : Nat) (n t : Int) : sf97_L6 N n t = lO N (n + 1) 0 n t := rfl
theorem l97_8 (N : Nat) (n t : Int) : sf97_L8 N n t = lO N (n + 1) n 0 (-t) := rfl
end Go.Hx.V

/- Bore: what a limit makes of what is known: the loops. -/
namespace Go.Hx.V
open Go.Hx
set_option linter.unusedVariables false
theorem toN (a : Nat) : Int.toNat (a : Int) = a := Int.toNat_natCast a
theorem dv {a b : Nat} (h : b < 13) : (a * 13 + b) / 13 = a := by omega
theorem md {a b : Nat} (h : b < 13) : (a * 13 + b) % 13 = b := by omega
/-- One row, of which the first places are done. -/
def rowR (i f g : Nat) (m : Int) (F : Nat → Int) (j : Nat) : Nat → Int := fun q => if q / 13 = i ∧ q % 13 < j then min (F q) (F (i * 13 + f) + m + F (g * 13 + q % 13)) else F q
theorem lI_run {n i f g N : Nat} {m : Int} {F : Nat → Int} (hn : n ≤ 12) (hi : i ≤ n) (hf : f ≤ n) (hg : g ≤ n) (hne : g ≠ i) (hb : ∀ j, j ≤ n → rng (F (i * 13 + f) + m + F (g * 13 + j))) (hN : n + 1 < N) :
    iter (lI ((n : Int) + 1) f g m ((i : Int), F)) N ((0 : Int), F) = some (rowR i f g m F (n + 1)) := by
  refine iter_up (fun j => ((j : Int), rowR i f g m F j)) (n + 1) _ ?_ (fun j hj => ?_) ?_ hN
  · refine Prod.ext rfl ?_
    funext q
    unfold rowR
    dsimp only
    rw [if_neg (by omega)]
  · have e1 : rowR i f g m F j (g * 13 + j) = F (g * 13 + j) := by unfold rowR; rw [if_neg (by omega)]
    have e2 : rowR i f g m F j (i * 13 + j) = F (i * 13 + j) := by unfold rowR; rw [if_neg (by omega)]
    unfold lI
    simp only [toN]
    rw [show decide ((j : Int) < (n : Int) + 1) = true from decide_eq_true (by omega), cond_true, ck_pos (by omega), ck_pos (by omega), e1, e2, ck_pos (hb j (by omega)), ck_pos (by omega), ck_pos (by omega)]
    have hr : rng ((j : Int) + 1) := by unfold rng; omega
    by_cases hc : F (i * 13 + f) + m + F (g * 13 + j) < F (i * 13 + j)
    · rw [decide_eq_true hc, cond_true, ck_pos (by omega), ck_pos (by omega), ck_pos hr]
      congr 3
      funext q
      unfold ups rowR
      by_cases hq : q = i * 13 + j
      · subst hq
        rw [if_pos rfl, if_pos (by omega), md (by omega)]; omega
      · rw [if_neg hq]
        by_cases h1 : q / 13 = i ∧ q % 13 < j
        · rw [if_pos h1, if_pos (by omega)]
        · rw [if_neg h1, if_neg (by omega)]
    · rw [decide_eq_false hc, cond_false, ck_pos hr]
      congr 3
      funext q
      unfold rowR
      by_cases hq : q = i * 13 + j
      · subst hq
        rw [if_neg (by omega), if_pos (by omega), md (by omega)]; omega
      · by_cases h1 : q / 13 = i ∧ q % 13 < j
        · rw [if_pos h1, if_pos (by omega)]
        · rw [if_neg h1, if_neg (by omega)]
  · unfold lI
    dsimp only
    rw [show decide (((n + 1 : Nat) : Int) < (n : Int) + 1) = false from decide_eq_false (by omega), cond_false]
/-- What is known of n + 1 marks: no way over another mark says more. -/
structure Gd (n : Nat) (F : Nat → Int) : Prop where
  tri : ∀ i j k, i ≤ n → j ≤ n → k ≤ n → F (i * 13 + k) ≤ F (i * 13 + j) + F (j * 13 + k)
  dg : ∀ i, i ≤ n → F (i * 13 + i) = 0
  ub : ∀ i j, i ≤ n → j ≤ n → F (i * 13 + j) ≤ 4000
theorem Gd.lb {n : Nat} {F : Nat → Int} (h : Gd n F) {i j : Nat} (hi : i ≤ n) (hj : j ≤ n) : -4000 ≤ F (i * 13 + j) := by
  have := h.tri i j i hi hj hi
  have := h.dg i hi
  have := h.ub j i hj hi
  omega
/-- The rows below k are done. -/
def rowS (n f g : Nat) (m : Int) (F : Nat → Int) (k : Nat) : Nat → Int := fun q => if q / 13 < k ∧ q % 13 ≤ n then min (F q) (F (q / 13 * 13 + f) + m + F (g * 13 + q % 13)) else F q
theorem lO_run {n f g N : Nat} {m : Int} {F : Nat → Int} (hn : n ≤ 12) (hf : f ≤ n) (hg : g ≤ n) (h : Gd n F) (hm : -1000000 ≤ m ∧ m ≤ 1000000) (hc : 0 ≤ m + F (g * 13 + f)) (hN : n + 1 < N) :
    iter (lO N ((n : Int) + 1) f g m) N ((0 : Int), F) = some (rowS n f g m F (n + 1)) := by
  refine iter_up (fun k => ((k : Int), rowS n f g m F k)) (n + 1) _ ?_ (fun k hk => ?_) ?_ hN
  · refine Prod.ext rfl ?_
    funext q
    unfold rowS
    dsimp only
    rw [if_neg (by omega)]
  · have e1 : ∀ j, j ≤ n → rowS n f g m F k (k * 13 + j) = F (k * 13 + j) := fun j hj => by unfold rowS; rw [if_neg (by omega)]
    have e2 : ∀ j, j ≤ n → rowS n f g m F k (g * 13 + j) = F (g * 13 + j) := fun j hj => by
      unfold rowS
      split
      · rw [dv (by omega), md (by omega)]; omega
      · rfl
    have b1 := h.ub k f (by omega) hf
    have b2 := h.lb (i := k) (j := f) (by omega) hf
    unfold lO
    simp only [toN]
    rw [show decide ((k : Int) < (n : Int) + 1) = true from decide_eq_true (by omega), cond_true, ck_pos (by omega), ck_pos (by omega), e1 f hf, e1 g hg, ck_pos (by unfold rng; omega), ck_pos (by omega), ck_pos (by omega)]
    have hr : rng ((k : Int) + 1) := by unfold rng; omega
    by_cases hs : F (k * 13 + g) ≤ F (k * 13 + f) + m
    · rw [decide_eq_true hs, cond_true, ck_pos hr]
      congr 3
      funext q
      unfold rowS
      by_cases h1 : q / 13 < k ∧ q % 13 ≤ n
      · rw [if_pos h1, if_pos (by omega)]
      · rw [if_neg h1]
        by_cases h2 : q / 13 = k ∧ q % 13 ≤ n
        · rw [if_pos (by omega)]
          have t := h.tri k g (q % 13) (by omega) hg h2.2
          rw [h2.1]
          have e : F q = F (k * 13 + q % 13) := congrArg F (by omega)
          rw [e]; omega
        · rw [if_neg (by omega)]
    · have hne : g ≠ k := fun e => by
        subst e
        have := h.dg g hg
        omega
      rw [decide_eq_false hs, cond_false, lI_run hn (by omega) hf hg hne (fun j hj => by
        rw [e1 f hf, e2 j hj]
        have := h.ub g j hg hj
        have := h.lb (i := g) (j := j) hg hj
        unfold rng; omega) hN, bnd_ret, ck_pos hr]
      congr 3
      funext q
      unfold rowR
      by_cases h2 : q / 13 = k ∧ q % 13 < n + 1
      · rw [if_pos h2, e1 f hf, e2 (q % 13) (by omega)]
        unfold rowS
        rw [if_neg (by omega), if_pos (by omega), h2.1]
      · rw [if_neg h2]
        unfold rowS
        by_cases h1 : q / 13 < k ∧ q % 13 ≤ n
        · rw [if_pos h1, if_pos (by omega)]
        · rw [if_neg h1, if_neg (by omega)]
  · unfold lO
    dsimp only
    rw [show decide (((n + 1 : Nat) : Int) < (n : Int) + 1) = false from decide_eq_false (by omega), cond_false]
end Go.Hx.V

/- Bore: what the simple functions come to. -/
namespace Go.Hx.V
open Go.Hx
set_option linter.unusedVariables false
theorem s21 {N : Nat} {a b c d : Int} : sf21 N a b c d = some (a, b, c, d) := rfl
theorem s37 {N : Nat} {a b c : Int} : sf37 N a b c = some (decide (b ≤ a ∧ a ≤ c)) := by
  unfold sf37
  by_cases h : b ≤ a
  · rw [decide_eq_true h, cond_true]; simp [h]
  · rw [decide_eq_false h, cond_false]; simp [h]
theorem s48 {N : Nat} {p q a b : Int} : sf48 N p q a b = some (decide (a ≤ p ∧ p ≤ q ∧ q ≤ b)) := by
  unfold sf48
  rw [s37, bnd_ret]
  by_cases h : a ≤ p ∧ p ≤ q
  · rw [decide_eq_true h, cond_true]; simp [h]
  · rw [decide_eq_false h, cond_false]
    congr 1
    exact (decide_eq_false fun h' => h ⟨h'.1, h'.2.1⟩).symm
theorem s83 {N : Nat} {p q a b : Int} : sf83 N p q a b = some (decide (a ≤ p ∧ p ≤ q ∧ q ≤ b)) := by
  unfold sf83
  by_cases h : a ≤ p <;> by_cases h2 : p ≤ q <;> simp [h, h2]
theorem s66 {N : Nat} {p q x : Int} : sf66 N p q x = some (decide (p ≤ x ∧ x ≤ q)) := by
  unfold sf66
  by_cases h : p ≤ x <;> simp [h]
/-- A tube is valid. -/
def TubeOk (n t lo hi : Int) : Prop := 1 ≤ n ∧ n ≤ 10 ∧ (1 ≤ lo ∧ lo ≤ hi ∧ hi ≤ 200) ∧ 1 ≤ t ∧ t ≤ 2000 ∧ n * lo ≤ t ∧ t ≤ n * hi
instance {n t lo hi : Int} : Decidable (TubeOk n t lo hi) := by unfold TubeOk; infer_instance
theorem prod_b {n a : Int} (h1 : 1 ≤ n) (h2 : n ≤ 10) (h3 : 1 ≤ a) (h4 : a ≤ 200) : 1 ≤ n * a ∧ n * a ≤ 2000 := by
  have q1 : 1 * a ≤ n * a := Int.mul_le_mul_of_nonneg_right h1 (by omega)
  have q2 : n * a ≤ 10 * a := Int.mul_le_mul_of_nonneg_right h2 (by omega)
  omega
theorem s25 {N : Nat} {n t lo hi : Int} : sf25 N n t lo hi = some (decide (TubeOk n t lo hi)) := by
  unfold sf25
  rw [s37, bnd_ret]
  by_cases h1 : 1 ≤ n ∧ n ≤ 10
  · rw [decide_eq_true h1, cond_true, s48, bnd_ret]
    by_cases h2 : 1 ≤ lo ∧ lo ≤ hi ∧ hi ≤ 200
    · rw [decide_eq_true h2, cond_true, s37, bnd_ret]
      by_cases h3 : 1 ≤ t ∧ t ≤ 2000
      · have b1 := prod_b (a := lo) h1.1 h1.2 (by omega) (by omega)
        have b2 := prod_b (a := hi) h1.1 h1.2 (by omega) (by omega)
        rw [decide_eq_true h3, cond_true, ck_pos (by unfold rng; omega), ck_pos (by unfold rng; omega), s37, bnd_ret]
        congr 1
        by_cases h4 : n * lo ≤ t ∧ t ≤ n * hi
        · rw [decide_eq_true h4]; exact (decide_eq_true ⟨h1.1, h1.2, h2, h3.1, h3.2, h4⟩).symm
        · rw [decide_eq_false h4]; exact (decide_eq_false fun q => h4 q.2.2.2.2.2).symm
      · rw [decide_eq_false h3, cond_false]
        congr 1
        exact (decide_eq_false fun q => h3 ⟨q.2.2.2.1, q.2.2.2.2.1⟩).symm
    · rw [decide_eq_false h2, cond_false]
      congr 1
      exact (decide_eq_false fun q => h2 q.2.2.1).symm
  · rw [decide_eq_false h1, cond_false]
    congr 1
    exact (decide_eq_false fun q => h1 ⟨q.1, q.2.1⟩).symm
theorem s24 {N : Nat} {l : List Int} (h : l.length ≤ 100) : sf24 N l = some l := by
  unfold sf24
  rw [ck_pos (by simp; omega)]
  rfl
theorem s23 {N : Nat} {l : List (Int × Int × Int × Int)} (h : l.length ≤ 100) (hN : 1000 ≤ N) : sf23 N l = some l := by
  unfold sf23
  have e : iter (sf23_L1 N l) N (([] : List (Int × Int × Int × Int)), (0 : Int)) = some l := by
    refine iter_up (fun j => (l.take j, (j : Int))) l.length l rfl (fun j hj => ?_) ?_ (by omega)
    · obtain ⟨z, hz⟩ : ∃ z, l[j]? = some z := ⟨_, lt_some hj⟩
      unfold sf23_L1
      dsimp only
      rw [decide_eq_true (by omega), cond_true, ix_at rfl hz, ix_at rfl hz, ix_at rfl hz]
      show bnd (some (z.2.2.1, z.2.2.2)) _ = _
      rw [bnd_ret, ck_pos (by rw [List.length_take]; omega), ck_pos (by unfold rng; omega), take_succ' hz]
      rfl
    · unfold sf23_L1
      dsimp only
      rw [decide_eq_false (by omega), cond_false, List.take_length]
  rw [e, bnd_ret]
theorem s63 {N : Nat} {n t lo hi : Int} : sf63 N n t lo hi = some (decide (TubeOk n t lo hi)) := by
  unfold sf63
  by_cases h1 : n < 1
  · rw [decide_eq_true h1, cond_true, bnd_ret, cond_true, bnd_ret]
    show some false = _
    congr 1
    exact (decide_eq_false fun q => by have := q.1; omega).symm
  rw [decide_eq_false h1, cond_false]
  by_cases h2 : 10 < n
  · rw [decide_eq_true h2, cond_true, bnd_ret, cond_true, bnd_ret]
    show some false = _
    congr 1
    exact (decide_eq_false fun q => by have := q.2.1; omega).symm
  rw [decide_eq_false h2, cond_false, s83, bnd_ret]
  by_cases h3 : 1 ≤ lo ∧ lo ≤ hi ∧ hi ≤ 200
  · have b1 := prod_b (n := n) (a := lo) (by omega) (by omega) (by omega) (by omega)
    have b2 := prod_b (n := n) (a := hi) (by omega) (by omega) (by omega) (by omega)
    rw [decide_eq_true h3, bnd_ret]
    show ck _ _ = _
    rw [ck_pos (by unfold rng; omega), ck_pos (by unfold rng; omega)]
    by_cases h4 : t ≤ 2000
    · rw [decide_eq_true h4, cond_true, s66, bnd_ret]
      congr 1
      by_cases h5 : n * lo ≤ t ∧ t ≤ n * hi
      · rw [decide_eq_true h5]; exact (decide_eq_true ⟨by omega, by omega, h3, by omega, h4, h5⟩).symm
      · rw [decide_eq_false h5]; exact (decide_eq_false fun q => h5 q.2.2.2.2.2).symm
    · rw [decide_eq_false h4, cond_false]
      congr 1
      exact (decide_eq_false fun q => h4 q.2.2.2.2.1).symm
  · rw [decide_eq_false h3, bnd_ret]
    show some false = _
    congr 1
    exact (decide_eq_false fun q => h3 q.2.2.1).symm
theorem s20 {N : Nat} {n t lo hi : Int} : sf20 N n t lo hi = some (if TubeOk n t lo hi then 0 else 1) := by
  unfold sf20
  rw [s63, bnd_ret]
  by_cases h : TubeOk n t lo hi
  · rw [decide_eq_true h, if_pos h]; rfl
  · rw [decide_eq_false h, if_neg h]; rfl
/-- A reading is one of a tube. -/
def RdOk' (n : Int) (r : Int × Int × Int × Int) : Prop := (0 ≤ r.1 ∧ r.1 < n) ∧ (r.1 ≤ r.2.1 ∧ r.2.1 ≤ n) ∧ 0 ≤ r.2.2.1 ∧ r.2.2.1 ≤ r.2.2.2 ∧ r.2.2.2 ≤ 2000
instance {n : Int} {r : Int × Int × Int × Int} : Decidable (RdOk' n r) := by unfold RdOk'; infer_instance
theorem s86 {N : Nat} {n t lo hi : Int} {r : Int × Int × Int × Int} : sf86 N n t lo hi r.1 r.2.1 r.2.2.1 r.2.2.2 = some (decide (RdOk' n r)) := by
  unfold sf86
  rw [s83, bnd_ret]
  by_cases h1 : 0 ≤ r.1
  · by_cases h2 : r.1 < n
    · by_cases h3 : r.1 ≤ r.2.1
      · by_cases h4 : r.2.1 ≤ n
        · rw [decide_eq_true h1, decide_eq_true h2, decide_eq_true h3, decide_eq_true h4, cond_true, cond_true, cond_true, cond_true]
          congr 1
          by_cases h5 : 0 ≤ r.2.2.1 ∧ r.2.2.1 ≤ r.2.2.2 ∧ r.2.2.2 ≤ 2000
          · rw [decide_eq_true h5]; exact (decide_eq_true ⟨⟨h1, h2⟩, ⟨h3, h4⟩, h5⟩).symm
          · rw [decide_eq_false h5]; exact (decide_eq_false fun q => h5 q.2.2).symm
        · rw [decide_eq_true h1, decide_eq_true h2, decide_eq_true h3, decide_eq_false h4, cond_true, cond_true, cond_true, cond_false]
          congr 1; exact (decide_eq_false fun q => h4 q.2.1.2).symm
      · rw [decide_eq_true h1, decide_eq_true h2, decide_eq_false h3, cond_true, cond_true, cond_false]
        congr 1; exact (decide_eq_false fun q => h3 q.2.1.1).symm
    · rw [decide_eq_true h1, decide_eq_false h2, cond_true, cond_false]
      congr 1; exact (decide_eq_false fun q => h2 q.1.2).symm
  · rw [decide_eq_false h1, cond_false]
    congr 1; exact (decide_eq_false fun q => h1 q.1.1).symm
/-- All of a list. -/
def AllP {α : Type} (p : α → Prop) (l : List α) : Prop := ∀ x, x ∈ l → p x
theorem all_loopE {α ε : Type} {bad : ε} {step : Int → Option (Int ⊕ (ε ⊕ Unit))} {l : List α} {p : α → Prop} [DecidablePred p] {N : Nat} (hN : l.length < N)
    (hs : ∀ (j : Nat) z, l[j]? = some z → p z → step (j : Int) = some (.inl ((j : Int) + 1)))
    (hf : ∀ (j : Nat) z, l[j]? = some z → ¬ p z → step (j : Int) = some (.inr (.inl bad)))
    (he : step (l.length : Int) = some (.inr (.inr ()))) : (AllP p l ∧ iter step N 0 = some (.inr ())) ∨ (¬ AllP p l ∧ iter step N 0 = some (.inl bad)) := by
  have H : ((∀ j, j < l.length → ∀ z, l[j]? = some z → p z) ∧ iter step N (0 : Int) = some (.inr ())) ∨ (¬ (∀ j, j < l.length → ∀ z, l[j]? = some z → p z) ∧ iter step N (0 : Int) = some (.inl bad)) := by
    haveI : DecidablePred fun (j : Nat) => ∀ z, l[j]? = some z → p z := fun j => Classical.propDecidable _
    refine iter_all (fun j => (j : Int)) l.length (fun j => ∀ z, l[j]? = some z → p z) (Sum.inr () : ε ⊕ Unit) (Sum.inl bad : ε ⊕ Unit) rfl (fun j hj hp => ?_) (fun j hj hp => ?_) he hN
    · obtain ⟨z, hz⟩ : ∃ z, l[j]? = some z := ⟨_, lt_some hj⟩
      exact hs j z hz (hp z hz)
    · obtain ⟨z, hz⟩ : ∃ z, l[j]? = some z := ⟨_, lt_some hj⟩
      exact hf j z hz fun q => hp fun z' hz' => by rw [hz] at hz'; cases hz'; exact q
  rcases H with ⟨h1, h2⟩ | ⟨h1, h2⟩
  · refine .inl ⟨fun x hx => ?_, h2⟩
    obtain ⟨j, hj, rfl⟩ := List.getElem_of_mem hx
    exact h1 j hj _ (lt_some hj)
  · exact .inr ⟨fun q => h1 fun j hj z hz => q z (List.mem_of_getElem? hz), h2⟩
instance {α : Type} {p : α → Prop} [DecidablePred p] {l : List α} : Decidable (AllP p l) := inferInstanceAs (Decidable (∀ x, x ∈ l → p x))
theorem s68 {N : Nat} {n t lo hi : Int} {l : List (Int × Int × Int × Int)} (h : l.length ≤ 100) (hN : 1000 ≤ N) : sf68 N l n t lo hi = some (decide (AllP (RdOk' n) l)) := by
  unfold sf68
  rcases all_loopE (step := sf68_L1 N l n t lo hi) (l := l) (p := RdOk' n) (N := N) (by omega) (by
      intro j z hz hp
      have := some_lt hz
      unfold sf68_L1
      rw [decide_eq_true (by omega), cond_true, ix_at rfl hz, s86, bnd_ret, decide_eq_true hp, Bool.not_true, cond_false, ck_pos (by unfold rng; omega)]) (by
      intro j z hz hp
      have := some_lt hz
      unfold sf68_L1
      rw [decide_eq_true (by omega), cond_true, ix_at rfl hz, s86, bnd_ret, decide_eq_false hp]
      rfl) (by
      unfold sf68_L1
      rw [decide_eq_false (by omega), cond_false]) with ⟨hA, e⟩ | ⟨hA, e⟩
  · rw [e, bnd_ret, decide_eq_true hA]; rfl
  · rw [e, bnd_ret, decide_eq_false hA]; rfl
theorem s64 {N : Nat} {n t lo hi : Int} {l : List (Int × Int × Int × Int)} (h : l.length ≤ 100) (hN : 1000 ≤ N) : sf64 N n t lo hi l = some (if TubeOk n t lo hi then if l.length ≤ 12 then if AllP (RdOk' n) l then 0 else 2 else 3 else 1) := by
  unfold sf64
  rw [s20, bnd_ret]
  by_cases h1 : TubeOk n t lo hi
  · rw [if_pos h1, if_pos h1]
    show (bif (decide ((12 : Int) < (l.length : Int))) then _ else _) = _
    by_cases h2 : l.length ≤ 12
    · rw [decide_eq_false (by omega), cond_false, if_pos h2, s68 h hN, bnd_ret]
      by_cases h3 : AllP (RdOk' n) l
      · rw [decide_eq_true h3, if_pos h3]; rfl
      · rw [decide_eq_false h3, if_neg h3]; rfl
    · rw [decide_eq_true (by omega), cond_true, if_neg h2]
  · rw [if_neg h1, if_neg h1]; rfl
theorem s70 {N : Nat} {n t lo hi : Int} {l : List (Int × Int × Int × Int)} (h : l.length ≤ 100) (hN : 1000 ≤ N) : sf70 N n t lo hi l = some (if TubeOk n t lo hi then if l.length ≤ 12 then if AllP (RdOk' n) l then 0 else 2 else 3 else 1) := by
  unfold sf70
  rw [s25, bnd_ret]
  by_cases h1 : TubeOk n t lo hi
  · rw [decide_eq_true h1, if_pos h1]
    show (bif (decide ((12 : Int) < (l.length : Int))) then _ else _) = _
    by_cases h2 : l.length ≤ 12
    · rw [decide_eq_false (by omega), cond_false, if_pos h2]
      have hn : 1 ≤ n ∧ n ≤ 10 := ⟨h1.1, h1.2.1⟩
      have key : ∀ z : Int × Int × Int × Int, (ck (rng (n - 1)) (bnd (sf37 N z.1 0 (n - 1)) fun v76 => (bif (!v76) then some true else (bnd (sf37 N z.2.1 z.1 n) fun v80 => (bif (!v80) then some true else (bnd (sf48 N z.2.2.1 z.2.2.2 0 2000) fun v84 => some (!v84))))))) = some (!(decide (RdOk' n z))) := fun z => by
        rw [ck_pos (by unfold rng; omega), s37, bnd_ret]
        by_cases a1 : 0 ≤ z.1 ∧ z.1 ≤ n - 1
        · rw [decide_eq_true a1]
          show bnd _ _ = _
          rw [s37, bnd_ret]
          by_cases a2 : z.1 ≤ z.2.1 ∧ z.2.1 ≤ n
          · rw [decide_eq_true a2]
            show bnd _ _ = _
            rw [s48, bnd_ret]
            by_cases a3 : 0 ≤ z.2.2.1 ∧ z.2.2.1 ≤ z.2.2.2 ∧ z.2.2.2 ≤ 2000
            · rw [decide_eq_true a3, decide_eq_true (p := RdOk' n z) ⟨⟨a1.1, by omega⟩, a2, a3⟩]
            · rw [decide_eq_false a3, decide_eq_false (p := RdOk' n z) fun q => a3 q.2.2]
          · rw [decide_eq_false a2, decide_eq_false (p := RdOk' n z) fun q => a2 q.2.1]; rfl
        · rw [decide_eq_false a1, decide_eq_false (p := RdOk' n z) fun q => a1 ⟨q.1.1, by have := q.1.2; omega⟩]; rfl
      rcases all_loopE (step := sf70_L1 N n l) (l := l) (p := RdOk' n) (N := N) (by omega) (by
          intro j z hz hp
          have := some_lt hz
          unfold sf70_L1
          rw [decide_eq_true (by omega), cond_true, ix_at rfl hz, key, bnd_ret, decide_eq_true hp, Bool.not_true, cond_false, ck_pos (by unfold rng; omega)]) (by
          intro j z hz hp
          have := some_lt hz
          unfold sf70_L1
          rw [decide_eq_true (by omega), cond_true, ix_at rfl hz, key, bnd_ret, decide_eq_false hp]
          rfl) (by
          unfold sf70_L1
          rw [decide_eq_false (by omega), cond_false]) with ⟨hA, e⟩ | ⟨hA, e⟩
      · rw [e, bnd_ret, if_pos hA]; rfl
      · rw [e, bnd_ret, if_neg hA]; rfl
    · rw [decide_eq_true (by omega), cond_true, if_neg h2]
  · rw [decide_eq_false h1, if_neg h1]; rfl
end Go.Hx.V

/- Bore: what is known of a tube without readings: the first loops. -/
namespace Go.Hx.V
open Go.Hx
set_option linter.unusedVariables false
def uV (lo hi : Int) (a b : Nat) : Int := if a ≤ b then ((b : Int) - a) * hi else ((b : Int) - a) * lo
def uF (n : Nat) (lo hi : Int) (i j : Nat) : Nat → Int := fun q => if q / 13 ≤ n ∧ q % 13 ≤ n ∧ (min (q / 13) (q % 13) < i ∨ (min (q / 13) (q % 13) = i ∧ max (q / 13) (q % 13) < j)) then uV lo hi (q / 13) (q % 13) else 0
theorem mul_b {d a : Int} (h1 : 0 ≤ d) (h2 : d ≤ 12) (h3 : 1 ≤ a) (h4 : a ≤ 200) : 0 ≤ d * a ∧ d * a ≤ 2400 := by
  have q1 : 0 * a ≤ d * a := Int.mul_le_mul_of_nonneg_right h1 (by omega)
  have q2 : d * a ≤ 12 * a := Int.mul_le_mul_of_nonneg_right h2 (by omega)
  omega
theorem u_in {n i N : Nat} {lo hi : Int} (hn : n ≤ 12) (hi' : i ≤ n) (h1 : 1 ≤ lo ∧ lo ≤ 200) (h2 : 1 ≤ hi ∧ hi ≤ 200) (hN : 100 ≤ N) :
    iter (sf97_L1 n lo hi ((i : Int), uF n lo hi i i)) N ((i : Int), uF n lo hi i i) = some (uF n lo hi i (n + 1)) := by
  refine iter_up (fun k => (((i + k : Nat) : Int), uF n lo hi i (i + k))) (n + 1 - i) _ rfl (fun k hk => ?_) ?_ (by omega)
  · unfold sf97_L1
    dsimp only
    obtain ⟨j, hj⟩ : ∃ j, j = i + k := ⟨_, rfl⟩
    rw [show i + (k + 1) = j + 1 by omega, ← hj]
    have m1 := mul_b (d := (j : Int) - i) (a := hi) (by omega) (by omega) h2.1 h2.2
    have m2 := mul_b (d := (j : Int) - i) (a := lo) (by omega) (by omega) h1.1 h1.2
    have m3 : ((i : Int) - j) * lo = -(((j : Int) - i) * lo) := by rw [← Int.neg_mul]; congr 1; omega
    rw [decide_eq_true (by omega), cond_true, ck_pos (by unfold rng; omega), ck_pos (by unfold rng; omega), ck_pos (by omega), ck_pos (by omega), ck_pos (by unfold rng; omega), ck_pos (by rw [m3]; unfold rng; omega), ck_pos (by omega), ck_pos (by omega), ck_pos (by unfold rng; omega), toN, toN]
    congr 3
    funext q
    unfold ups uF
    by_cases q1 : q = j * 13 + i
    · rw [if_pos q1, if_pos (by omega), q1, dv (by omega), md (by omega)]
      unfold uV
      by_cases e : j ≤ i
      · have : i = j := by omega
        subst this
        rw [if_pos (Nat.le_refl _)]; simp
      · rw [if_neg e]
    · rw [if_neg q1]
      by_cases q2 : q = i * 13 + j
      · rw [if_pos q2, if_pos (by omega), q2, dv (by omega), md (by omega)]
        unfold uV
        rw [if_pos (by omega)]
      · rw [if_neg q2]
        by_cases c : q / 13 ≤ n ∧ q % 13 ≤ n ∧ (min (q / 13) (q % 13) < i ∨ (min (q / 13) (q % 13) = i ∧ max (q / 13) (q % 13) < j))
        · rw [if_pos c, if_pos (by omega)]
        · rw [if_neg c, if_neg (by omega)]
  · unfold sf97_L1
    dsimp only
    rw [show i + (n + 1 - i) = n + 1 by omega, decide_eq_false (by omega), cond_false]
theorem u_out {n N : Nat} {lo hi : Int} (hn : n ≤ 12) (h1 : 1 ≤ lo ∧ lo ≤ 200) (h2 : 1 ≤ hi ∧ hi ≤ 200) (hN : 100 ≤ N) :
    iter (sf97_L2 N n lo hi) N ((0 : Int), (fun _ => 0)) = some (uF n lo hi (n + 1) (n + 1)) := by
  refine iter_up (fun i => ((i : Int), uF n lo hi i i)) (n + 1) _ ?_ (fun i hi' => ?_) ?_ (by omega)
  · refine Prod.ext rfl ?_
    funext q
    unfold uF
    dsimp only
    rw [if_neg (by omega)]
  · unfold sf97_L2
    dsimp only
    rw [decide_eq_true (by omega), cond_true, u_in hn (by omega) h1 h2 hN, bnd_ret, ck_pos (by unfold rng; omega)]
    congr 3
    funext q
    unfold uF
    by_cases c : q / 13 ≤ n ∧ q % 13 ≤ n ∧ (min (q / 13) (q % 13) < i ∨ (min (q / 13) (q % 13) = i ∧ max (q / 13) (q % 13) < n + 1))
    · rw [if_pos c, if_pos (by omega)]
    · rw [if_neg c, if_neg (by omega)]
  · unfold sf97_L2
    dsimp only
    rw [decide_eq_false (by omega), cond_false]
theorem uF_at {n i j : Nat} {lo hi : Int} (hn : n ≤ 12) (h1 : i ≤ n) (h2 : j ≤ n) : uF n lo hi (n + 1) (n + 1) (i * 13 + j) = uV lo hi i j := by
  unfold uF
  rw [if_pos (by omega), dv (by omega), md (by omega)]
theorem uV_max {lo hi : Int} {i j : Nat} (h : lo ≤ hi) : uV lo hi i j = max (((j : Int) - i) * lo) (((j : Int) - i) * hi) := by
  unfold uV
  by_cases d : i ≤ j
  · rw [if_pos d]
    have := Int.mul_le_mul_of_nonneg_left h (show 0 ≤ (j : Int) - i by omega)
    omega
  · rw [if_neg d]
    have := Int.mul_le_mul_of_nonneg_left h (show 0 ≤ -((j : Int) - i) by omega)
    rw [Int.neg_mul, Int.neg_mul] at this
    omega
theorem gd_u {n : Nat} {lo hi : Int} (hn : n ≤ 12) (h1 : 1 ≤ lo) (h2 : lo ≤ hi) (h3 : hi ≤ 200) : Gd n (uF n lo hi (n + 1) (n + 1)) := by
  refine ⟨fun i j k a b c => ?_, fun i a => ?_, fun i j a b => ?_⟩
  · rw [uF_at hn a c, uF_at hn a b, uF_at hn b c, uV_max h2, uV_max h2, uV_max h2, show (k : Int) - i = ((j : Int) - i) + ((k : Int) - j) by omega, Int.add_mul, Int.add_mul]
    omega
  · rw [uF_at hn a a, uV_max h2, show (i : Int) - i = 0 by omega, Int.zero_mul, Int.zero_mul]; rfl
  · rw [uF_at hn a b]
    unfold uV
    by_cases d : i ≤ j
    · rw [if_pos d]
      have := mul_b (d := (j : Int) - i) (a := hi) (by omega) (by omega) (by omega) (by omega)
      omega
    · rw [if_neg d]
      have := mul_b (d := (i : Int) - j) (a := lo) (by omega) (by omega) (by omega) (by omega)
      rw [show (j : Int) - i = -((i : Int) - j) by omega, Int.neg_mul]
      omega
end Go.Hx.V

/- Bore: heights, and whether a reading is right. -/
namespace Go.Hx.V
open Go.Hx
set_option linter.unusedVariables false
def hs (l : List Int) (j : Nat) : Int := (l.take j).sum
theorem hs_succ {l : List Int} {j : Nat} {x : Int} (h : l[j]? = some x) : hs l (j + 1) = hs l j + x := by
  unfold hs
  rw [take_succ' h, List.sum_append]
  simp
def Vol (x : Int) : Prop := 0 ≤ x ∧ x ≤ 200
theorem hs_b {l : List Int} (h : AllP Vol l) : ∀ j, j ≤ l.length → 0 ≤ hs l j ∧ hs l j ≤ 200 * j
  | 0, _ => by unfold hs; simp
  | j + 1, hj => by
    have ih := hs_b h j (by omega)
    obtain ⟨x, hx⟩ : ∃ x, l[j]? = some x := ⟨_, lt_some (by omega)⟩
    have := h x (List.mem_of_getElem? hx)
    unfold Vol at this
    rw [hs_succ hx]; omega
theorem s38 {N : Nat} {l : List Int} {a : Nat} (ha : a ≤ l.length) (hl : l.length ≤ 15) (hb : AllP Vol l) (hN : 1000 ≤ N) : sf38 N l a = some (hs l a) := by
  unfold sf38
  have e : iter (sf38_L1 l a) N ((0 : Int), (0 : Int)) = some (hs l a) := by
    refine iter_up (fun j => (hs l j, (j : Int))) a _ rfl (fun j hj => ?_) ?_ (by omega)
    · obtain ⟨x, hx⟩ : ∃ x, l[j]? = some x := ⟨_, lt_some (by omega)⟩
      have b := hs_b hb (j + 1) (by omega)
      unfold sf38_L1
      dsimp only
      rw [hs_succ hx] at *
      rw [decide_eq_true (by omega), cond_true, ix_at rfl hx, ck_pos (by unfold rng; omega), ck_pos (by unfold rng; omega)]
      rfl
    · unfold sf38_L1
      dsimp only
      rw [decide_eq_false (by omega), cond_false]
  rw [e, bnd_ret]
def hts (l : List Int) : List Int := (List.range (l.length + 1)).map (hs l)
theorem hts_at {l : List Int} {j : Nat} (h : j ≤ l.length) : (hts l)[j]? = some (hs l j) := by
  unfold hts
  rw [List.getElem?_map, List.getElem?_range (by omega)]; rfl
theorem hts_len {l : List Int} : (hts l).length = l.length + 1 := by unfold hts; simp
theorem s67 {N : Nat} {l : List Int} (hl : l.length ≤ 15) (hb : AllP Vol l) (hN : 1000 ≤ N) : sf67 N l = some (hts l) := by
  unfold sf67
  have e : iter (sf67_L1 l) N (([] : List Int) ++ [(0 : Int)], (0 : Int), (0 : Int)) = some (hts l) := by
    refine iter_up (fun j => ((List.range (j + 1)).map (hs l), hs l j, (j : Int))) l.length _ rfl (fun j hj => ?_) ?_ (by omega)
    · obtain ⟨x, hx⟩ : ∃ x, l[j]? = some x := ⟨_, lt_some (by omega)⟩
      have b := hs_b hb (j + 1) (by omega)
      unfold sf67_L1
      dsimp only
      have eh := hs_succ hx
      rw [decide_eq_true (by omega), cond_true, ix_at rfl hx, ck_pos (by unfold rng; omega), ck_pos (by simp; omega), ck_pos (by unfold rng; omega), ← eh, List.range_succ (n := j + 1), List.map_append]
      rfl
    · unfold sf67_L1
      dsimp only
      rw [decide_eq_false (by omega), cond_false]
      rfl
  rw [ck_pos (by unfold rng; omega), ck_pos (by omega), ck_pos (by simp), show List.replicate (Int.toNat 0) (0 : Int) = [] from rfl, e, bnd_ret]
theorem s87 {N : Nat} {a x : Int} (hN : 1000 ≤ N) : sf87 N a [x] = some (max a x) := by
  unfold sf87
  have e : iter (sf87_L1 [x]) N (a, (0 : Int)) = some (max a x) := by
    refine iter_up (fun j => (if j = 0 then a else max a x, (j : Int))) 1 _ rfl (fun j hj => ?_) ?_ (by omega)
    · obtain rfl : j = 0 := by omega
      unfold sf87_L1
      by_cases h : a < x
      · simp [h, ix, ck, rng]; omega
      · simp [h, ix, ck, rng]; omega
    · rfl
  rw [e, bnd_ret]
theorem s88 {N : Nat} {a x : Int} (hN : 1000 ≤ N) : sf88 N a [x] = some (min a x) := by
  unfold sf88
  have e : iter (sf88_L1 [x]) N (a, (0 : Int)) = some (min a x) := by
    refine iter_up (fun j => (if j = 0 then a else min a x, (j : Int))) 1 _ rfl (fun j hj => ?_) ?_ (by omega)
    · obtain rfl : j = 0 := by omega
      unfold sf88_L1
      by_cases h : x < a
      · simp [h, ix, ck, rng]; omega
      · simp [h, ix, ck, rng]; omega
    · rfl
  rw [e, bnd_ret]
/-- A reading is right, by heights. -/
def RightP (l : List Int) (r : Int × Int × Int × Int) : Prop := max r.2.2.1 (hs l r.2.1.toNat - hs l r.1.toNat) ≤ if r.2.1 < l.length then min r.2.2.2 (hs l (r.2.1.toNat + 1) - hs l r.1.toNat - 1) else r.2.2.2
instance {l : List Int} {r : Int × Int × Int × Int} : Decidable (RightP l r) := by unfold RightP; infer_instance
theorem rp {l : List Int} {f g : Nat} {lo hi : Int} : RightP l ((f : Int), (g : Int), lo, hi) = (max lo (hs l g - hs l f) ≤ if (g : Int) < l.length then min hi (hs l (g + 1) - hs l f - 1) else hi) := rfl
theorem s69 {N : Nat} {l : List Int} {r : Int × Int × Int × Int} (hl : l.length ≤ 15) (hb : AllP Vol l) (hr : RdOk' l.length r) (hN : 1000 ≤ N) : sf69 N (hts l) r.1 r.2.1 r.2.2.1 r.2.2.2 = some (decide (RightP l r)) := by
  obtain ⟨f, g, lo, hi⟩ := r
  obtain ⟨h1, h2, h3⟩ := hr
  dsimp only at h1 h2 h3
  obtain ⟨f, rfl⟩ : ∃ k : Nat, f = k := ⟨f.toNat, by omega⟩
  obtain ⟨g, rfl⟩ : ∃ k : Nat, g = k := ⟨g.toNat, by omega⟩
  have b1 := hs_b hb f (by omega)
  have b2 := hs_b hb g (by omega)
  unfold sf69
  dsimp only
  rw [ix_at rfl (hts_at (j := g) (by omega)), ix_at rfl (hts_at (j := f) (by omega)), ck_pos (by unfold rng; omega), s87 hN, bnd_ret, ck_pos (by unfold rng; omega), hts_len]
  by_cases h : g < l.length
  · have b3 := hs_b hb (g + 1) (by omega)
    rw [decide_eq_true (by omega), cond_true, ck_pos (by unfold rng; omega), ix_at (j := (g : Int) + 1) (n := g + 1) (by omega) (hts_at (j := g + 1) (by omega)), ix_at rfl (hts_at (j := f) (by omega)), ck_pos (by unfold rng; omega), ck_pos (by unfold rng; omega), s88 hN, bnd_ret]
    refine congrArg some (decide_eq_decide.2 ?_)
    rw [rp, if_pos (by omega)]
  · rw [decide_eq_false (by omega), cond_false]
    refine congrArg some (decide_eq_decide.2 ?_)
    rw [rp, if_neg (by omega)]
theorem s71 {N : Nat} {l : List Int} {t lo' hi' : Int} {r : Int × Int × Int × Int} (hl : l.length ≤ 15) (hb : AllP Vol l) (hr : RdOk' l.length r) (hN : 1000 ≤ N) : sf71 N l.length t lo' hi' r.1 r.2.1 r.2.2.1 r.2.2.2 l = some (decide (RightP l r)) := by
  obtain ⟨f, g, lo, hi⟩ := r
  obtain ⟨h1, h2, h3⟩ := hr
  dsimp only at h1 h2 h3
  obtain ⟨f, rfl⟩ : ∃ k : Nat, f = k := ⟨f.toNat, by omega⟩
  obtain ⟨g, rfl⟩ : ∃ k : Nat, g = k := ⟨g.toNat, by omega⟩
  have b1 := hs_b hb f (by omega)
  have b2 := hs_b hb g (by omega)
  unfold sf71
  dsimp only
  rw [s38 (by omega) hl hb hN, bnd_ret, s38 (by omega) hl hb hN, bnd_ret, ck_pos (by unfold rng; omega)]
  by_cases h : g < l.length
  · have b3 := hs_b hb (g + 1) (by omega)
    rw [decide_eq_true (by omega), cond_true, ck_pos (by unfold rng; omega), show (g : Int) + 1 = ((g + 1 : Nat) : Int) from rfl, s38 (by omega) hl hb hN, bnd_ret, ck_pos (by unfold rng; omega), ck_pos (by unfold rng; omega)]
    refine congrArg some (decide_eq_decide.2 ?_)
    rw [rp, if_pos (by omega)]
  · rw [decide_eq_false (by omega), cond_false]
    refine congrArg some (decide_eq_decide.2 ?_)
    rw [rp, if_neg (by omega)]
end Go.Hx.V

/- BoreProves: what the law comes to. -/
namespace Go.Hx.V
open Go.Hx
set_option linter.unusedVariables false
def InV (lo hi : Int) (x : Int) : Prop := lo ≤ x ∧ x ≤ hi
instance {lo hi x : Int} : Decidable (InV lo hi x) := by unfold InV; infer_instance
theorem sL {α β γ : Type} {f : α → Option γ} {g : β → Option γ} {x : α} : sel f g (.inl x) = f x := rfl
theorem sR {α β γ : Type} {f : α → Option γ} {g : β → Option γ} {x : β} : sel f g (.inr x) = g x := rfl
theorem s65 {N : Nat} {lo hi : Int} {l : List Int} (h : l.length ≤ 100) (hN : 1000 ≤ N) : sf65 N l lo hi = some (decide (AllP (InV lo hi) l)) := by
  unfold sf65
  rcases all_loopE (step := sf65_L1 N l lo hi) (l := l) (p := InV lo hi) (N := N) (by omega) (by
      intro j z hz hp
      have := some_lt hz
      unfold sf65_L1
      rw [decide_eq_true (by omega), cond_true, ix_at rfl hz, s66, bnd_ret, decide_eq_true (p := lo ≤ z ∧ z ≤ hi) hp, Bool.not_true, cond_false, ck_pos (by unfold rng; omega)]) (by
      intro j z hz hp
      have := some_lt hz
      unfold sf65_L1
      rw [decide_eq_true (by omega), cond_true, ix_at rfl hz, s66, bnd_ret, decide_eq_false (p := lo ≤ z ∧ z ≤ hi) hp]
      rfl) (by
      unfold sf65_L1
      rw [decide_eq_false (by omega), cond_false]) with ⟨hA, e⟩ | ⟨hA, e⟩
  · rw [e, bnd_ret, decide_eq_true hA]; rfl
  · rw [e, bnd_ret, decide_eq_false hA]; rfl
theorem s68_2 {N : Nat} {L : List (Int × Int × Int × Int)} {l : List Int} (h : L.length ≤ 100) (hl : l.length ≤ 15) (hb : AllP Vol l) (hr : AllP (RdOk' l.length) L) (hN : 1000 ≤ N) : sf68_2 N L (hts l) = some (decide (AllP (RightP l) L)) := by
  unfold sf68_2
  rcases all_loopE (step := sf68_2_L1 N L (hts l)) (l := L) (p := RightP l) (N := N) (by omega) (by
      intro j z hz hp
      have := some_lt hz
      unfold sf68_2_L1
      rw [decide_eq_true (by omega), cond_true, ix_at rfl hz, s69 hl hb (hr z (List.mem_of_getElem? hz)) hN, bnd_ret, decide_eq_true hp, Bool.not_true, cond_false, ck_pos (by unfold rng; omega)]) (by
      intro j z hz hp
      have := some_lt hz
      unfold sf68_2_L1
      rw [decide_eq_true (by omega), cond_true, ix_at rfl hz, s69 hl hb (hr z (List.mem_of_getElem? hz)) hN, bnd_ret, decide_eq_false hp]
      rfl) (by
      unfold sf68_2_L1
      rw [decide_eq_false (by omega), cond_false]) with ⟨hA, e⟩ | ⟨hA, e⟩
  · rw [e, bnd_ret, decide_eq_true hA]; rfl
  · rw [e, bnd_ret, decide_eq_false hA]; rfl
theorem s27 {N : Nat} {n t lo hi : Int} {L : List (Int × Int × Int × Int)} {l : List Int} (h : L.length ≤ 100) (hl : l.length ≤ 15) (ht : TubeOk n t lo hi) (hr : AllP (RdOk' n) L) (hN : 1000 ≤ N) :
    sf27 N n t lo hi L l = some (decide ((l.length : Int) = n ∧ AllP (InV lo hi) l ∧ AllP (RightP l) L ∧ hs l l.length = t)) := by
  unfold sf27
  by_cases h1 : (l.length : Int) = n
  · subst h1
    rw [decide_eq_true rfl, Bool.not_true, cond_false]
    rcases all_loopE (step := sf27_L1 N lo hi l) (l := l) (p := InV lo hi) (N := N) (by omega) (by
        intro j z hz hp
        have := some_lt hz
        unfold sf27_L1
        rw [decide_eq_true (by omega), cond_true, ix_at rfl hz, s37, bnd_ret, decide_eq_true (p := lo ≤ z ∧ z ≤ hi) hp, Bool.not_true, cond_false, ck_pos (by unfold rng; omega)]) (by
        intro j z hz hp
        have := some_lt hz
        unfold sf27_L1
        rw [decide_eq_true (by omega), cond_true, ix_at rfl hz, s37, bnd_ret, decide_eq_false (p := lo ≤ z ∧ z ≤ hi) hp]
        rfl) (by
        unfold sf27_L1
        rw [decide_eq_false (by omega), cond_false]) with ⟨hA, e⟩ | ⟨hA, e⟩
    · rw [e, bnd_ret]
      show bnd (iter _ N 0) _ = _
      have hb : AllP Vol l := fun x hx => by
        have := hA x hx
        have := ht.2.2.1
        unfold InV at *
        unfold Vol
        omega
      rcases all_loopE (step := sf27_L2 N l.length t lo hi L l) (l := L) (p := RightP l) (N := N) (by omega) (by
          intro j z hz hp
          have := some_lt hz
          unfold sf27_L2
          rw [decide_eq_true (by omega), cond_true, ix_at rfl hz, s71 hl hb (hr z (List.mem_of_getElem? hz)) hN, bnd_ret, decide_eq_true hp, Bool.not_true, cond_false, ck_pos (by unfold rng; omega)]) (by
          intro j z hz hp
          have := some_lt hz
          unfold sf27_L2
          rw [decide_eq_true (by omega), cond_true, ix_at rfl hz, s71 hl hb (hr z (List.mem_of_getElem? hz)) hN, bnd_ret, decide_eq_false hp]
          rfl) (by
          unfold sf27_L2
          rw [decide_eq_false (by omega), cond_false]) with ⟨hB, e⟩ | ⟨hB, e⟩
      · rw [e, bnd_ret]
        show bnd (sf38 N l l.length) _ = _
        rw [s38 (Nat.le_refl _) hl hb hN, bnd_ret]
        refine congrArg some (decide_eq_decide.2 ⟨fun q => ⟨rfl, hA, hB, q⟩, fun q => q.2.2.2⟩)
      · rw [e, bnd_ret, decide_eq_false fun q => hB q.2.2.1]; rfl
    · rw [e, bnd_ret, decide_eq_false fun q => hA q.2.1]; rfl
  · rw [decide_eq_false h1, decide_eq_false fun q => h1 q.1]; rfl
theorem s22 {N : Nat} {n t lo hi : Int} {L : List (Int × Int × Int × Int)} {l : List Int} (h : L.length ≤ 100) (hl : l.length ≤ 15) (hN : 1000 ≤ N) :
    sf22 N n t lo hi L l = some (decide ((TubeOk n t lo hi ∧ L.length ≤ 12 ∧ AllP (RdOk' n) L) ∧ (l.length : Int) = n ∧ AllP (InV lo hi) l ∧ AllP (RightP l) L ∧ hs l l.length = t)) := by
  have hx : ∃ k : Int, (k = 0 ↔ TubeOk n t lo hi ∧ L.length ≤ 12 ∧ AllP (RdOk' n) L) ∧ (if TubeOk n t lo hi then if L.length ≤ 12 then if AllP (RdOk' n) L then (0 : Int) else 2 else 3 else 1) = k := by
    refine ⟨_, ?_, rfl⟩
    by_cases a1 : TubeOk n t lo hi
    · rw [if_pos a1]
      by_cases a2 : L.length ≤ 12
      · rw [if_pos a2]
        by_cases a3 : AllP (RdOk' n) L
        · rw [if_pos a3]; exact ⟨fun _ => ⟨a1, a2, a3⟩, fun _ => rfl⟩
        · rw [if_neg a3]; exact ⟨fun q => by omega, fun q => (a3 q.2.2).elim⟩
      · rw [if_neg a2]; exact ⟨fun q => by omega, fun q => (a2 q.2.1).elim⟩
    · rw [if_neg a1]; exact ⟨fun q => by omega, fun q => (a1 q.1).elim⟩
  obtain ⟨k, hk, e⟩ := hx
  unfold sf22
  rw [s64 h hN, e, bnd_ret]
  generalize hD : decide ((TubeOk n t lo hi ∧ L.length ≤ 12 ∧ AllP (RdOk' n) L) ∧ (l.length : Int) = n ∧ AllP (InV lo hi) l ∧ AllP (RightP l) L ∧ hs l l.length = t) = D
  by_cases h1 : k = 0
  · have h1' := hk.1 h1
    rw [decide_eq_true h1, Bool.not_true, cond_false]
    by_cases h2 : (l.length : Int) = n
    · subst h2
      rw [decide_eq_true rfl, Bool.not_true, cond_false, s65 (by omega) hN, bnd_ret, bnd_ret]
      by_cases hA : AllP (InV lo hi) l
      · have hb : AllP Vol l := fun x hx => by
          have := hA x hx
          have := h1'.1.2.2.1
          unfold InV at *
          unfold Vol
          omega
        rw [decide_eq_true hA, Bool.not_true, cond_false, bnd_ret, sR, s67 hl hb hN, bnd_ret, ix_at rfl (hts_at (Nat.le_refl _))]
        by_cases h3 : hs l l.length = t
        · rw [decide_eq_true h3, cond_true, s68_2 h hl hb h1'.2.2 hN, bnd_ret, ← hD]
          exact congrArg some (decide_eq_decide.2 ⟨fun q => ⟨h1', rfl, hA, q, h3⟩, fun q => q.2.2.2.1⟩)
        · rw [decide_eq_false h3, cond_false, ← hD]
          exact congrArg some (decide_eq_false fun q => h3 q.2.2.2.2).symm
      · rw [decide_eq_false hA, Bool.not_false, cond_true, bnd_ret, sL, ← hD]
        exact congrArg some (decide_eq_false fun q => hA q.2.2.1).symm
    · rw [decide_eq_false h2, Bool.not_false, cond_true, bnd_ret, cond_true, bnd_ret, sL, ← hD]
      exact congrArg some (decide_eq_false fun q => h2 q.2.1).symm
  · rw [decide_eq_false h1, Bool.not_false, cond_true, bnd_ret, cond_true, bnd_ret, sL, ← hD]
    exact congrArg some (decide_eq_false fun q => h1 (hk.2 q.1)).symm
theorem law3 {N : Nat} {n t lo hi : Int} {L : List (Int × Int × Int × Int)} {l : List Int} (hN : 1000 ≤ N) : sf3 N n t lo hi L l = some true := by
  unfold sf3
  by_cases h1 : 15 < (L.length : Int)
  · rw [decide_eq_true h1]
    rfl
  rw [decide_eq_false h1, cond_false]
  by_cases h2 : 15 < (l.length : Int)
  · rw [decide_eq_true h2]
    rfl
  rw [decide_eq_false h2, bnd_ret]
  rw [cond_false, bnd_ret, sR, s21, bnd_ret, s20, bnd_ret, bnd_ret, s23 (by omega) hN, bnd_ret, s24 (by omega), bnd_ret, s22 (by omega) (by omega) hN, bnd_ret, s25, bnd_ret]
  have h26 : sf26 N n t lo hi L = sf70 N n t lo hi L := by unfold sf26; cases sf70 N n t lo hi L <;> rfl
  by_cases a1 : TubeOk n t lo hi
  · rw [decide_eq_true a1, if_pos a1, Bool.not_true, cond_false, bnd_ret, decide_eq_true rfl, cond_true, h26, s70 (by omega) hN, bnd_ret, if_pos a1]
    by_cases a2 : L.length ≤ 12 ∧ AllP (RdOk' n) L
    · rw [if_pos a2.1, if_pos a2.2, decide_eq_true rfl, cond_true, s27 (by omega) (by omega) a1 a2.2 hN, bnd_ret]
      have e : decide ((TubeOk n t lo hi ∧ L.length ≤ 12 ∧ AllP (RdOk' n) L) ∧ (l.length : Int) = n ∧ AllP (InV lo hi) l ∧ AllP (RightP l) L ∧ hs l l.length = t) = decide ((l.length : Int) = n ∧ AllP (InV lo hi) l ∧ AllP (RightP l) L ∧ hs l l.length = t) := decide_eq_decide.2 ⟨fun q => q.2, fun q => ⟨⟨a1, a2⟩, q⟩⟩
      rw [e, beq_self_eq_true]
      rfl
    · have hx : ∃ k : Int, k ≠ 0 ∧ (if L.length ≤ 12 then if AllP (RdOk' n) L then (0 : Int) else 2 else 3) = k := by
        refine ⟨_, ?_, rfl⟩
        by_cases b2 : L.length ≤ 12
        · rw [if_pos b2]
          by_cases b3 : AllP (RdOk' n) L
          · exact (a2 ⟨b2, b3⟩).elim
          · rw [if_neg b3]; decide
        · rw [if_neg b2]; decide
      obtain ⟨k, hk, e⟩ := hx
      rw [e, decide_eq_false hk, cond_false, decide_eq_false fun q => a2 q.1.2]
      rfl
  · rw [decide_eq_false a1, if_neg a1, Bool.not_false, cond_true, bnd_ret, decide_eq_true rfl, cond_true, h26, s70 (by omega) hN, bnd_ret, if_neg a1, decide_eq_false (by decide), cond_false, decide_eq_false fun q => a1 q.1.1]
    rfl
end Go.Hx.V

/- Bore: a tube without readings. -/
namespace Go.Hx.V
open Go.Hx
set_option linter.unusedVariables false
theorem rowS_at {n f g i j : Nat} {m : Int} {F : Nat → Int} (hn : n ≤ 12) (h1 : i ≤ n) (h2 : j ≤ n) : rowS n f g m F (n + 1) (i * 13 + j) = min (F (i * 13 + j)) (F (i * 13 + f) + m + F (g * 13 + j)) := by
  unfold rowS
  rw [if_pos (by omega), dv (by omega), md (by omega)]
theorem gd_lim {n f g : Nat} {m : Int} {F : Nat → Int} (hn : n ≤ 12) (h : Gd n F) (hf : f ≤ n) (hg : g ≤ n) (hm : 0 ≤ m + F (g * 13 + f)) : Gd n (rowS n f g m F (n + 1)) := by
  refine ⟨fun i j k hi hj hk => ?_, fun i hi => ?_, fun i j hi hj => ?_⟩
  · rw [rowS_at hn hi hk, rowS_at hn hi hj, rowS_at hn hj hk]
    have := h.tri i j k hi hj hk
    have := h.tri i j f hi hj hf
    have := h.tri g j k hg hj hk
    have := h.tri g j f hg hj hf
    omega
  · rw [rowS_at hn hi hi, h.dg i hi]
    have := h.tri g i f hg hi hf
    omega
  · rw [rowS_at hn hi hj]
    have := h.ub i j hi hj
    omega
theorem s103 {N : Nat} {a b c d e : Int} {F : Nat → Int} {x y n : Nat} {m : Int} (hn : n ≤ 12) (hx : x ≤ n) (hy : y ≤ n) (h : Gd n F) (hm : -1000000 ≤ m ∧ m ≤ 1000000) : sf103 N a b c d e F x y m = some (decide (0 ≤ m + F (y * 13 + x))) := by
  have := h.lb (i := y) (j := x) hy hx
  have := h.ub y x hy hx
  unfold sf103
  rw [ck_pos (by omega), ck_pos (by omega), toN, toN, ck_pos (by unfold rng; omega)]
/-- What is known of a tube without readings. -/
def unr (n : Nat) (t lo hi : Int) : Nat → Int := rowS n n 0 (-t) (rowS n 0 n t (uF n lo hi (n + 1) (n + 1)) (n + 1)) (n + 1)
theorem s97 {N n : Nat} {t lo hi : Int} (ht : TubeOk n t lo hi) (hN : 1000 ≤ N) : sf97 N n t lo hi = some ((n : Int), t, lo, hi, (n : Int) + 1, unr n t lo hi) ∧ Gd n (unr n t lo hi) ∧
    (∀ i, i ≤ n → unr n t lo hi (0 * 13 + i) = min ((i : Int) * hi) (t - ((n : Int) - i) * lo)) ∧ (∀ i, i ≤ n → unr n t lo hi (i * 13 + 0) = -(max ((i : Int) * lo) (t - ((n : Int) - i) * hi))) := by
  obtain ⟨t1, t2, ⟨t3, t4, t5⟩, t6, t7, t8, t9⟩ := ht
  have hn : n ≤ 12 := by omega
  have g0 := gd_u hn t3 t4 t5
  have e0 : ∀ i j, i ≤ n → j ≤ n → uF n lo hi (n + 1) (n + 1) (i * 13 + j) = uV lo hi i j := fun i j a b => uF_at hn a b
  have un0 : ∀ i, i ≤ n → uV lo hi i 0 = -((i : Int) * lo) := fun i a => by
    unfold uV
    by_cases d : i ≤ 0
    · have : i = 0 := by omega
      subst this; simp
    · rw [if_neg d, show ((0 : Nat) : Int) - i = -(i : Int) by omega, Int.neg_mul]
  have u0n : ∀ i, uV lo hi 0 i = (i : Int) * hi := fun i => by
    unfold uV
    rw [if_pos (Nat.zero_le _), show (i : Int) - ((0 : Nat) : Int) = i by omega]
  have unn : ∀ i, i ≤ n → uV lo hi n i = -(((n : Int) - i) * lo) := fun i a => by
    unfold uV
    by_cases d : n ≤ i
    · have : i = n := by omega
      subst this
      rw [if_pos (Nat.le_refl _), show (i : Int) - i = 0 by omega, Int.zero_mul, Int.zero_mul]; rfl
    · rw [if_neg d, show (i : Int) - n = -((n : Int) - i) by omega, Int.neg_mul]
  have uin : ∀ i, i ≤ n → uV lo hi i n = ((n : Int) - i) * hi := fun i a => by
    unfold uV
    rw [if_pos a]
  have c1 : 0 ≤ t + uF n lo hi (n + 1) (n + 1) (n * 13 + 0) := by rw [e0 n 0 (Nat.le_refl _) (Nat.zero_le _), un0 n (Nat.le_refl _)]; omega
  have g1 := gd_lim hn g0 (Nat.zero_le _) (Nat.le_refl _) c1
  have r1 : ∀ i j, i ≤ n → j ≤ n → rowS n 0 n t (uF n lo hi (n + 1) (n + 1)) (n + 1) (i * 13 + j) = min (uV lo hi i j) (uV lo hi i 0 + t + uV lo hi n j) := fun i j a b => by
    rw [rowS_at hn a b, e0 i j a b, e0 i 0 a (Nat.zero_le _), e0 n j (Nat.le_refl _) b]
  have z0 : uV lo hi 0 0 = 0 := by rw [u0n]; simp
  have f0n : rowS n 0 n t (uF n lo hi (n + 1) (n + 1)) (n + 1) (0 * 13 + n) = t := by
    rw [r1 0 n (Nat.zero_le _) (Nat.le_refl _), u0n, z0, unn n (Nat.le_refl _), show (n : Int) - n = 0 by omega, Int.zero_mul]
    omega
  have c2 : 0 ≤ -t + rowS n 0 n t (uF n lo hi (n + 1) (n + 1)) (n + 1) (0 * 13 + n) := by rw [f0n]; omega
  have g2 := gd_lim hn g1 (Nat.le_refl _) (Nat.zero_le _) c2
  refine ⟨?_, g2, fun i a => ?_, fun i a => ?_⟩
  · unfold sf97
    have q1 := s103 (N := N) (a := n) (b := t) (c := lo) (d := hi) (e := (n : Int) + 1) (x := 0) (y := n) (m := t) hn (Nat.zero_le _) (Nat.le_refl _) g0 (by omega)
    have q2 := s103 (N := N) (a := n) (b := t) (c := lo) (d := hi) (e := (n : Int) + 1) (x := n) (y := 0) (m := -t) hn (Nat.le_refl _) (Nat.zero_le _) g1 (by omega)
    have w1 := lO_run (N := N) hn (Nat.zero_le _) (Nat.le_refl n) g0 (m := t) (by omega) c1 (by omega)
    have w2 := lO_run (N := N) hn (Nat.le_refl n) (Nat.zero_le _) g1 (m := -t) (by omega) c2 (by omega)
    rw [ck_pos (by unfold rng; omega), u_out hn ⟨t3, by omega⟩ ⟨by omega, t5⟩ (by omega), bnd_ret, show (0 : Int) = ((0 : Nat) : Int) from rfl, q1, bnd_ret, decide_eq_true c1, Bool.not_true, cond_false, l97_6]
    show bnd (iter (lO N ((n : Int) + 1) ((0 : Nat) : Int) n t) N ((0 : Int), _)) _ = _
    rw [w1, bnd_ret, ck_pos (by unfold rng; omega), q2, bnd_ret, decide_eq_true c2, Bool.not_true, cond_false, l97_8]
    show bnd (iter (lO N ((n : Int) + 1) n ((0 : Nat) : Int) (-t)) N ((0 : Int), _)) _ = _
    rw [w2, bnd_ret]
    rfl
  · unfold unr
    rw [rowS_at hn (Nat.zero_le _) a, f0n, r1 0 i (Nat.zero_le _) a, u0n, z0, unn i a]
    omega
  · unfold unr
    have := un0 n (Nat.le_refl _)
    rw [rowS_at hn a (Nat.zero_le _), r1 i 0 a (Nat.zero_le _), r1 i n a (Nat.le_refl _), r1 0 0 (Nat.zero_le _) (Nat.zero_le _), z0, un0 i a, this, uin i a, unn n (Nat.le_refl _), show (n : Int) - n = 0 by omega, Int.zero_mul]
    omega
end Go.Hx.V

/- BoreFree: what the law comes to. -/
namespace Go.Hx.V
open Go.Hx
set_option linter.unusedVariables false
theorem s89_nil {N n : Nat} {t lo hi : Int} (ht : TubeOk n t lo hi) (hN : 1000 ≤ N) : sf89 N n t lo hi [] = some ((n : Int), t, lo, hi, (n : Int) + 1, unr n t lo hi, true) := by
  unfold sf89
  rw [(s97 ht hN).1, bnd_ret]
  obtain ⟨M, rfl⟩ : ∃ M, N = M + 1 := ⟨N - 1, by omega⟩
  rfl
theorem s72_nil {N n : Nat} {t lo hi : Int} (ht : TubeOk n t lo hi) (hN : 1000 ≤ N) : sf72 N n t lo hi [] true = some ((n : Int), t, lo, hi, (n : Int) + 1, unr n t lo hi, 0) := by
  unfold sf72
  have e : sf64 N n t lo hi [] = some 0 := by
    rw [s64 (by simp) hN, if_pos ht, if_pos (by simp), if_pos (show AllP (RdOk' n) ([] : List (Int × Int × Int × Int)) from fun x hx => by cases hx)]
  rw [e, bnd_ret, s89_nil ht hN, bnd_ret]
  rfl
def bds (n : Nat) (t lo hi : Int) : List (Int × Int) := (List.range (n + 1)).map fun (i : Nat) => (max ((i : Int) * lo) (t - ((n : Int) - i) * hi), min ((i : Int) * hi) (t - ((n : Int) - i) * lo))
theorem s73 {N n : Nat} {t lo hi : Int} (ht : TubeOk n t lo hi) (hN : 1000 ≤ N) : sf73 N n t lo hi ((n : Int) + 1) (unr n t lo hi) = some (bds n t lo hi) := by
  obtain ⟨_, gd, b1, b2⟩ := s97 (N := N) ht hN
  have hn : n ≤ 10 := by have := ht.2.1; omega
  unfold sf73
  have e : iter (sf73_L1 N n t lo hi ((n : Int) + 1) (unr n t lo hi)) N (([] : List (Int × Int)), (0 : Int)) = some (bds n t lo hi) := by
    refine iter_up (fun k => ((List.range k).map (fun i : Nat => (max ((i : Int) * lo) (t - ((n : Int) - i) * hi), min ((i : Int) * hi) (t - ((n : Int) - i) * lo))), (k : Int))) (n + 1) _ rfl (fun k hk => ?_) ?_ (by omega)
    · have l1 := gd.lb (i := k) (j := 0) (by omega) (by omega)
      have l2 := gd.ub k 0 (by omega) (by omega)
      have x90 : sf90 N n t lo hi ((n : Int) + 1) (unr n t lo hi) k = some (max ((k : Int) * lo) (t - ((n : Int) - k) * hi)) := by
        unfold sf90
        rw [ck_pos (by omega), ck_pos (by omega), toN, show Int.toNat 0 = 0 from rfl, ck_pos (by unfold rng; omega), b2 k (by omega), Int.neg_neg]
      have x91 : sf91 N n t lo hi ((n : Int) + 1) (unr n t lo hi) k = some (min ((k : Int) * hi) (t - ((n : Int) - k) * lo)) := by
        unfold sf91
        rw [ck_pos (by omega), ck_pos (by omega), toN, show Int.toNat 0 = 0 from rfl, b1 k (by omega)]
      unfold sf73_L1
      dsimp only
      rw [decide_eq_true (by omega), cond_true, x90, bnd_ret, x91, bnd_ret, ck_pos (by simp; omega), ck_pos (by unfold rng; omega), List.range_succ, List.map_append]
      rfl
    · unfold sf73_L1
      dsimp only
      rw [decide_eq_false (by omega), cond_false]
      rfl
  rw [show sf77 N = some () from rfl, bnd_ret, ck_pos (by unfold rng; omega), ck_pos (by omega), show List.replicate (Int.toNat 0) ((0 : Int), (0 : Int)) = [] from rfl, e, bnd_ret]
theorem s29_nil {N n : Nat} {t lo hi : Int} (ht : TubeOk n t lo hi) (hN : 1000 ≤ N) : sf29 N n t lo hi [] = some (bds n t lo hi, 0) := by
  unfold sf29
  rw [s72_nil ht hN, bnd_ret]
  dsimp only
  rw [decide_eq_true rfl, Bool.not_true, cond_false, s73 ht hN, bnd_ret]
theorem bds_at {n i : Nat} {t lo hi : Int} (h : i ≤ n) : (bds n t lo hi)[i]? = some (max ((i : Int) * lo) (t - ((n : Int) - i) * hi), min ((i : Int) * hi) (t - ((n : Int) - i) * lo)) := by
  unfold bds
  rw [List.getElem?_map, List.getElem?_range (by omega)]; rfl
theorem law16 {N : Nat} {n t lo hi : Int} (hN : 1000 ≤ N) : sf16 N n t lo hi = some true := by
  unfold sf16
  rw [s25, bnd_ret]
  by_cases ht : TubeOk n t lo hi
  · rw [decide_eq_true ht, Bool.not_true, cond_false, s21, bnd_ret]
    obtain ⟨n, rfl⟩ : ∃ k : Nat, n = k := ⟨n.toNat, by have := ht.1; omega⟩
    have hT := ht
    obtain ⟨t1, t2, ⟨t3, t4, t5⟩, t6, t7, t8, t9⟩ := ht
    show bnd (sf29 N n t lo hi []) _ = _
    rw [s29_nil hT hN, bnd_ret]
    dsimp only
    have hl : (bds n t lo hi).length = n + 1 := by unfold bds; simp
    rw [decide_eq_true rfl, Bool.not_true, cond_false, ck_pos (by unfold rng; omega), hl, decide_eq_true (by omega), Bool.not_true, bnd_ret, cond_false, bnd_ret, sR]
    have e : iter (sf16_L1 N n t lo hi (bds n t lo hi, 0)) N (0 : Int) = some (.inr ()) := by
      refine iter_up (fun i => (i : Int)) (n + 1) _ rfl (fun i hi' => ?_) ?_ (by omega)
      · have m1 := mul_b (d := (i : Int)) (a := lo) (by omega) (by omega) (by omega) (by omega)
        have m2 := mul_b (d := (i : Int)) (a := hi) (by omega) (by omega) (by omega) (by omega)
        have m3 := mul_b (d := (n : Int) - i) (a := lo) (by omega) (by omega) (by omega) (by omega)
        have m4 := mul_b (d := (n : Int) - i) (a := hi) (by omega) (by omega) (by omega) (by omega)
        unfold sf16_L1
        dsimp only
        rw [decide_eq_true (by omega), cond_true, ck_pos (by unfold rng; omega), ix_at rfl (bds_at (by omega)), ck_pos (by unfold rng; omega), ck_pos (by unfold rng; omega), ck_pos (by unfold rng; omega), ck_pos (by unfold rng; omega), ck_pos (by unfold rng; omega), ck_pos (by unfold rng; omega)]
        show bnd (some (_, _)) _ = _
        rw [bnd_ret]
        dsimp only
        rw [beq_self_eq_true, beq_self_eq_true, Bool.and_true, Bool.and_true, Bool.not_true, cond_false, ck_pos (by unfold rng; omega)]
        rfl
      · unfold sf16_L1
        dsimp only
        rw [decide_eq_false (by omega), cond_false]
    rw [e, bnd_ret, sR]
  · rw [decide_eq_false ht, Bool.not_false, cond_true]
end Go.Hx.V

/- Bore: what all readings together say: those places that they leave. -/
namespace Go.Hx.V
open Go.Hx
set_option linter.unusedVariables false
def SatF (n : Nat) (F : Nat → Int) (p : Nat → Int) : Prop := ∀ i j, i ≤ n → j ≤ n → p j - p i ≤ F (i * 13 + j)
theorem sat_lim {n f g : Nat} {m : Int} {F p : Nat → Int} (hn : n ≤ 12) (h : Gd n F) (hf : f ≤ n) (hg : g ≤ n) : SatF n (rowS n f g m F (n + 1)) p ↔ SatF n F p ∧ p g - p f ≤ m := by
  refine ⟨fun hs => ⟨fun i j hi hj => ?_, ?_⟩, fun ⟨h1, h2⟩ i j hi hj => ?_⟩
  · have := hs i j hi hj
    rw [rowS_at hn hi hj] at this; omega
  · have := hs f g hf hg
    rw [rowS_at hn hf hg, h.dg f hf, h.dg g hg] at this; omega
  · have a1 := h1 i j hi hj
    have a2 := h1 i f hi hf
    have a3 := h1 g j hg hj
    rw [rowS_at hn hi hj]; omega
def CellS (n : Nat) (lo hi : Int) (p : Nat → Int) : Prop := ∀ i, i < n → lo ≤ p (i + 1) - p i ∧ p (i + 1) - p i ≤ hi
theorem cell_far {n : Nat} {lo hi : Int} {p : Nat → Int} (h : CellS n lo hi p) (i : Nat) : ∀ d, i + d ≤ n → (d : Int) * lo ≤ p (i + d) - p i ∧ p (i + d) - p i ≤ (d : Int) * hi
  | 0, _ => by simp
  | d + 1, hd => by
    have ih := cell_far h i d (by omega)
    have c := h (i + d) (by omega)
    have e1 : ((d + 1 : Nat) : Int) * lo = (d : Int) * lo + lo := by push_cast; rw [Int.add_mul, Int.one_mul]
    have e2 : ((d + 1 : Nat) : Int) * hi = (d : Int) * hi + hi := by push_cast; rw [Int.add_mul, Int.one_mul]
    rw [e1, e2, ← Nat.add_assoc]; omega
theorem sat_u {n : Nat} {lo hi : Int} {p : Nat → Int} (hn : n ≤ 12) : SatF n (uF n lo hi (n + 1) (n + 1)) p ↔ CellS n lo hi p := by
  refine ⟨fun hs i hi' => ?_, fun h i j hi' hj => ?_⟩
  · have a := hs i (i + 1) (by omega) (by omega)
    have b := hs (i + 1) i (by omega) (by omega)
    rw [uF_at hn (by omega) (by omega)] at a b
    unfold uV at a b
    rw [if_pos (by omega), show ((i + 1 : Nat) : Int) - i = 1 by omega, Int.one_mul] at a
    rw [if_neg (by omega), show (i : Int) - (i + 1 : Nat) = -1 by omega, Int.neg_mul, Int.one_mul] at b
    omega
  · rw [uF_at hn hi' hj]
    unfold uV
    by_cases d : i ≤ j
    · rw [if_pos d]
      have := cell_far h i (j - i) (by omega)
      rw [show i + (j - i) = j by omega, show ((j - i : Nat) : Int) = (j : Int) - i by omega] at this
      exact this.2
    · rw [if_neg d]
      have := cell_far h j (i - j) (by omega)
      rw [show j + (i - j) = i by omega, show ((i - j : Nat) : Int) = -((j : Int) - i) by omega, Int.neg_mul, Int.neg_mul] at this
      omega
theorem uni_c {n : Nat} {t lo hi : Int} (ht : TubeOk n t lo hi) : 0 ≤ t + uF n lo hi (n + 1) (n + 1) (n * 13 + 0) := by
  obtain ⟨t1, t2, ⟨t3, t4, t5⟩, t6, t7, t8, t9⟩ := ht
  rw [uF_at (by omega) (Nat.le_refl _) (Nat.zero_le _)]
  unfold uV
  rw [if_neg (by omega), show ((0 : Nat) : Int) - n = -(n : Int) by omega, Int.neg_mul]
  omega
theorem sat_unr {n : Nat} {t lo hi : Int} {p : Nat → Int} (ht : TubeOk n t lo hi) : SatF n (unr n t lo hi) p ↔ CellS n lo hi p ∧ p n - p 0 = t := by
  have hn : n ≤ 12 := by have := ht.2.1; omega
  have g0 := gd_u hn ht.2.2.1.1 ht.2.2.1.2.1 ht.2.2.1.2.2
  have g1 := gd_lim hn g0 (Nat.zero_le _) (Nat.le_refl _) (uni_c ht)
  unfold unr
  rw [sat_lim hn g1 (Nat.le_refl _) (Nat.zero_le _), sat_lim hn g0 (Nat.zero_le _) (Nat.le_refl _), sat_u hn]
  constructor
  · rintro ⟨⟨a, b⟩, c⟩; exact ⟨a, by omega⟩
  · rintro ⟨a, b⟩; exact ⟨⟨a, by omega⟩, by omega⟩
/-- What a reading says of places. -/
def RdS (n : Nat) (r : Int × Int × Int × Int) (p : Nat → Int) : Prop := p r.2.1.toNat - p r.1.toNat ≤ r.2.2.2 ∧ (r.2.1 < n → r.2.2.1 + 1 ≤ p (r.2.1.toNat + 1) - p r.1.toNat)
theorem s96 {N n : Nat} {t lo hi : Int} {F : Nat → Int} {r : Int × Int × Int × Int} (hn : n ≤ 12) (h : Gd n F) (hr : RdOk' n r) (hN : 1000 ≤ N) :
    (∃ F', sf96 N n t lo hi ((n : Int) + 1) F r.1 r.2.1 r.2.2.1 r.2.2.2 = some ((n : Int), t, lo, hi, (n : Int) + 1, F', true) ∧ Gd n F' ∧ ∀ p, SatF n F' p ↔ SatF n F p ∧ RdS n r p) ∨
    (sf96 N n t lo hi ((n : Int) + 1) F r.1 r.2.1 r.2.2.1 r.2.2.2 = some ((0 : Int), (0 : Int), (0 : Int), (0 : Int), (0 : Int), (fun _ => 0), false) ∧ ∀ p, SatF n F p → ¬ RdS n r p) := by
  obtain ⟨f, g, vl, vh⟩ := r
  obtain ⟨h1, h2, h3⟩ := hr
  dsimp only at h1 h2 h3
  obtain ⟨f, rfl⟩ : ∃ k : Nat, f = k := ⟨f.toNat, by omega⟩
  obtain ⟨g, rfl⟩ : ∃ k : Nat, g = k := ⟨g.toNat, by omega⟩
  have hf : f ≤ n := by omega
  have hg : g ≤ n := by omega
  unfold RdS
  simp only [toN]
  unfold sf96
  rw [s103 hn hf hg h (by omega), bnd_ret]
  by_cases c1 : 0 ≤ vh + F (g * 13 + f)
  · have G1 := gd_lim hn h hf hg c1
    rw [decide_eq_true c1, Bool.not_true, cond_false, l96_2, lO_run hn hf hg h (by omega) c1 (by omega), bnd_ret]
    by_cases c2 : g < n
    · rw [decide_eq_true (by omega), cond_true, ck_pos (by unfold rng; omega), ck_pos (by unfold rng; omega), ck_pos (by unfold rng; omega), show (g : Int) + 1 = ((g + 1 : Nat) : Int) from rfl, s103 hn (by omega) hf G1 (by omega), bnd_ret]
      by_cases c3 : 0 ≤ -vl - 1 + rowS n f g vh F (n + 1) (f * 13 + (g + 1))
      · have G2 := gd_lim hn G1 (f := g + 1) (g := f) (by omega) hf c3
        rw [decide_eq_true c3, Bool.not_true, cond_false, l96_4]
        refine .inl ⟨rowS n (g + 1) f (-vl - 1) (rowS n f g vh F (n + 1)) (n + 1), ?_, G2, fun p => ?_⟩
        · have := lO_run (N := N) hn (f := g + 1) (g := f) (by omega) hf G1 (m := -vl - 1) (by omega) c3 (by omega)
          rw [show ((g : Int) + 1) = ((g + 1 : Nat) : Int) from rfl, this, bnd_ret, bnd_ret]
          rfl
        · rw [sat_lim hn G1 (by omega) hf, sat_lim hn h hf hg]
          constructor
          · rintro ⟨⟨a, b⟩, c⟩; exact ⟨a, b, fun _ => by omega⟩
          · rintro ⟨a, b, c⟩; have := c (by omega); exact ⟨⟨a, b⟩, by omega⟩
      · rw [decide_eq_false c3, Bool.not_false, cond_true, bnd_ret]
        refine .inr ⟨rfl, fun p hp ⟨q1, q2⟩ => c3 ?_⟩
        have := (sat_lim (m := vh) hn h hf hg).2 ⟨hp, q1⟩ f (g + 1) hf (by omega)
        have := q2 (by omega)
        omega
    · rw [decide_eq_false (by omega), cond_false, bnd_ret]
      refine .inl ⟨rowS n f g vh F (n + 1), rfl, G1, fun p => ?_⟩
      rw [sat_lim hn h hf hg]
      constructor
      · rintro ⟨a, b⟩; exact ⟨a, b, fun q => absurd q (by omega)⟩
      · rintro ⟨a, b, _⟩; exact ⟨a, b⟩
  · rw [decide_eq_false c1, Bool.not_false, cond_true]
    refine .inr ⟨rfl, fun p hp ⟨q1, q2⟩ => c1 ?_⟩
    have := hp g f hg hf
    omega
end Go.Hx.V

/- Bore: the bounds of all marks by any readings: those of all places that they leave. -/
namespace Go.Hx.V
open Go.Hx
set_option linter.unusedVariables false
/-- Places that the tube and some readings leave. -/
def TruS (n : Nat) (t lo hi : Int) (L : List (Int × Int × Int × Int)) (p : Nat → Int) : Prop := (CellS n lo hi p ∧ p n - p 0 = t) ∧ ∀ r, r ∈ L → RdS n r p
theorem mem_snoc {α : Type} {P : α → Prop} {l : List α} {x : α} : (∀ r, r ∈ l ++ [x] → P r) ↔ (∀ r, r ∈ l → P r) ∧ P x := by
  constructor
  · exact fun h => ⟨fun r hr => h r (List.mem_append.2 (.inl hr)), h x (List.mem_append.2 (.inr (List.mem_singleton.2 rfl)))⟩
  · rintro ⟨h1, h2⟩ r hr
    rcases List.mem_append.1 hr with q | q
    · exact h1 r q
    · rw [List.mem_singleton.1 q]; exact h2
theorem iter_s {α β : Type} {step : α → Option (α ⊕ β)} {x x' : α} {M : Nat} (h : step x = some (.inl x')) : iter step (M + 1) x = iter step M x' := by
  conv => lhs; unfold iter
  rw [h]; rfl
theorem iter_e {α β : Type} {step : α → Option (α ⊕ β)} {x : α} {y : β} {M : Nat} (h : step x = some (.inr y)) : iter step (M + 1) x = some y := by
  unfold iter
  rw [h]; rfl
theorem s89_loop {N n : Nat} {t lo hi : Int} {L : List (Int × Int × Int × Int)} (hn : n ≤ 12) (hL : L.length ≤ 100) (hr : AllP (RdOk' n) L) (hN : 1000 ≤ N) : ∀ (k j M : Nat) (mp : Int × Int × Int × Int → Option Bool) (F : Nat → Int), j + k = L.length → k < M → Gd n F → (∀ p, SatF n F p ↔ (CellS n lo hi p ∧ p n - p 0 = t) ∧ ∀ r, r ∈ L.take j → RdS n r p) → (∀ r b, mp r = some b → r ∈ L.take j) →
    (∃ mp' F', iter (sf89_L1 N L) M ((j : Int), mp, (n : Int), t, lo, hi, (n : Int) + 1, F, (0 : Int), (0 : Int), (0 : Int), (0 : Int), (0 : Int), (fun _ => 0)) = some (.inr (mp', (n : Int), t, lo, hi, (n : Int) + 1, F', (0 : Int), (0 : Int), (0 : Int), (0 : Int), (0 : Int), (fun _ => 0))) ∧ Gd n F' ∧ ∀ p, SatF n F' p ↔ TruS n t lo hi L p) ∨
    (∃ w : ((Int × Int × Int × Int) → Option Bool) × Int × Int × Int × Int × Int × (Nat → Int), iter (sf89_L1 N L) M ((j : Int), mp, (n : Int), t, lo, hi, (n : Int) + 1, F, (0 : Int), (0 : Int), (0 : Int), (0 : Int), (0 : Int), (fun _ => 0)) = some (.inl (w.1, w.2.1, w.2.2.1, w.2.2.2.1, w.2.2.2.2.1, w.2.2.2.2.2.1, w.2.2.2.2.2.2, (0 : Int), (0 : Int), (0 : Int), (0 : Int), (0 : Int), (fun _ => 0))) ∧ ∀ p, ¬ TruS n t lo hi L p)
  | 0, j, 0, mp, F, hj, hM, _, _, _ => by omega
  | 0, j, M + 1, mp, F, hj, hM, hG, hS, hm => by
    refine .inl ⟨mp, F, iter_e ?_, hG, fun p => ?_⟩
    · unfold sf89_L1
      dsimp only
      rw [decide_eq_false (by omega), cond_false]
    · rw [hS p, List.take_of_length_le (by omega)]
      rfl
  | k + 1, j, 0, mp, F, hj, hM, _, _, _ => by omega
  | k + 1, j, M + 1, mp, F, hj, hM, hG, hS, hm => by
    obtain ⟨z, hz⟩ : ∃ z, L[j]? = some z := ⟨_, lt_some (by omega)⟩
    have hzL : z ∈ L := List.mem_of_getElem? hz
    have tk := take_succ' hz
    have hck : rng ((j : Int) + 1) := by unfold rng; omega
    by_cases hmp : mp z = some true
    · have hz0 := hm z true hmp
      have key : ∀ p, ((CellS n lo hi p ∧ p n - p 0 = t) ∧ ∀ r, r ∈ L.take (j + 1) → RdS n r p) ↔ ((CellS n lo hi p ∧ p n - p 0 = t) ∧ ∀ r, r ∈ L.take j → RdS n r p) := fun p => by
        rw [tk, mem_snoc]
        exact ⟨fun ⟨a, b, c⟩ => ⟨a, b⟩, fun ⟨a, b⟩ => ⟨a, b, b z hz0⟩⟩
      have e1 : sf89_L1 N L ((j : Int), mp, (n : Int), t, lo, hi, (n : Int) + 1, F, (0 : Int), (0 : Int), (0 : Int), (0 : Int), (0 : Int), (fun _ => 0)) = some (.inl (((j + 1 : Nat) : Int), mp, (n : Int), t, lo, hi, (n : Int) + 1, F, (0 : Int), (0 : Int), (0 : Int), (0 : Int), (0 : Int), (fun _ => 0))) := by
        unfold sf89_L1
        dsimp only
        rw [decide_eq_true (by omega), cond_true, ix_at rfl hz, hmp, show Option.getD (some true) false = true from rfl, cond_true, ck_pos hck]
        rfl
      rw [iter_s e1]
      exact s89_loop hn hL hr hN k (j + 1) M mp F (by omega) (by omega) hG (fun p => by rw [hS p, key p]) (fun r b q => by rw [tk]; exact List.mem_append.2 (.inl (hm r b q)))
    · have hg : Option.getD (mp z) false = false := by
        cases h : mp z with
        | none => rfl
        | some b =>
          cases b with
          | true => exact absurd h hmp
          | false => rfl
      rcases s96 (N := N) (t := t) (lo := lo) (hi := hi) hn hG (hr z hzL) hN with ⟨F', e, G', S'⟩ | ⟨e, S'⟩
      · have e1 : sf89_L1 N L ((j : Int), mp, (n : Int), t, lo, hi, (n : Int) + 1, F, (0 : Int), (0 : Int), (0 : Int), (0 : Int), (0 : Int), (fun _ => 0)) = some (.inl (((j + 1 : Nat) : Int), upm mp z true, (n : Int), t, lo, hi, (n : Int) + 1, F', (0 : Int), (0 : Int), (0 : Int), (0 : Int), (0 : Int), (fun _ => 0))) := by
          unfold sf89_L1
          dsimp only
          rw [decide_eq_true (by omega), cond_true, ix_at rfl hz, hg, cond_false, e, bnd_ret]
          dsimp only
          rw [Bool.not_true, cond_false, ck_pos hck]
          rfl
        rw [iter_s e1]
        exact s89_loop hn hL hr hN k (j + 1) M _ F' (by omega) (by omega) G' (fun p => by rw [S' p, hS p, tk, mem_snoc]; exact ⟨fun ⟨⟨a, b⟩, c⟩ => ⟨a, b, c⟩, fun ⟨a, b, c⟩ => ⟨⟨a, b⟩, c⟩⟩) (fun r b q => by
          unfold upm at q
          rw [tk]
          by_cases hrz : r = z
          · rw [hrz]; exact List.mem_append.2 (.inr (List.mem_singleton.2 rfl))
          · rw [if_neg hrz] at q; exact List.mem_append.2 (.inl (hm r b q)))
      · have e1 : sf89_L1 N L ((j : Int), mp, (n : Int), t, lo, hi, (n : Int) + 1, F, (0 : Int), (0 : Int), (0 : Int), (0 : Int), (0 : Int), (fun _ => 0)) = some (.inr (.inl (upm mp z true, (0 : Int), (0 : Int), (0 : Int), (0 : Int), (0 : Int), (fun _ => 0), (0 : Int), (0 : Int), (0 : Int), (0 : Int), (0 : Int), (fun _ => 0)))) := by
          unfold sf89_L1
          dsimp only
          rw [decide_eq_true (by omega), cond_true, ix_at rfl hz, hg, cond_false, e, bnd_ret]
          rfl
        exact .inr ⟨(upm mp z true, (0 : Int), (0 : Int), (0 : Int), (0 : Int), (0 : Int), (fun _ => 0)), iter_e e1, fun p hp => S' p ((hS p).2 ⟨hp.1, fun r hr' => hp.2 r (List.mem_of_mem_take hr')⟩) (hp.2 z hzL)⟩
theorem s89 {N n : Nat} {t lo hi : Int} {L : List (Int × Int × Int × Int)} (ht : TubeOk n t lo hi) (hL : L.length ≤ 100) (hr : AllP (RdOk' n) L) (hN : 1000 ≤ N) :
    (∃ F, sf89 N n t lo hi L = some ((n : Int), t, lo, hi, (n : Int) + 1, F, true) ∧ Gd n F ∧ ∀ p, SatF n F p ↔ TruS n t lo hi L p) ∨
    (sf89 N n t lo hi L = some ((0 : Int), (0 : Int), (0 : Int), (0 : Int), (0 : Int), (fun _ => 0), false) ∧ ∀ p, ¬ TruS n t lo hi L p) := by
  have hn : n ≤ 12 := by have := ht.2.1; omega
  obtain ⟨e97, g97, _, _⟩ := s97 (N := N) ht hN
  unfold sf89
  rw [e97, bnd_ret]
  dsimp only
  rcases s89_loop (N := N) (t := t) (lo := lo) (hi := hi) hn hL hr hN L.length 0 N (fun _ => none) (unr n t lo hi) (by omega) (by omega) g97 (fun p => by rw [sat_unr ht]; simp) (fun r b q => by cases q) with ⟨mp', F', e, G, S⟩ | ⟨w, e, S⟩
  · refine .inl ⟨F', ?_, G, S⟩
    rw [show (0 : Int) = ((0 : Nat) : Int) from rfl] at e ⊢
    rw [e]; rfl
  · refine .inr ⟨?_, S⟩
    rw [show (0 : Int) = ((0 : Nat) : Int) from rfl] at e ⊢
    rw [e]; rfl
def bdF (n : Nat) (F : Nat → Int) : List (Int × Int) := (List.range (n + 1)).map fun (i : Nat) => (-F (i * 13 + 0), F (0 * 13 + i))
theorem bdF_len {n : Nat} {F : Nat → Int} : (bdF n F).length = n + 1 := by unfold bdF; simp
theorem bdF_at {n i : Nat} {F : Nat → Int} (h : i ≤ n) : (bdF n F)[i]? = some (-F (i * 13 + 0), F (0 * 13 + i)) := by
  unfold bdF
  rw [List.getElem?_map, List.getElem?_range (by omega)]; rfl
theorem s73F {N n : Nat} {t lo hi : Int} {F : Nat → Int} (hn : n ≤ 12) (gd : Gd n F) (hN : 1000 ≤ N) : sf73 N n t lo hi ((n : Int) + 1) F = some (bdF n F) := by
  unfold sf73
  have e : iter (sf73_L1 N n t lo hi ((n : Int) + 1) F) N (([] : List (Int × Int)), (0 : Int)) = some (bdF n F) := by
    refine iter_up (fun k => ((List.range k).map (fun i : Nat => (-F (i * 13 + 0), F (0 * 13 + i))), (k : Int))) (n + 1) _ rfl (fun k hk => ?_) ?_ (by omega)
    · have l1 := gd.lb (i := k) (j := 0) (by omega) (by omega)
      have l2 := gd.ub k 0 (by omega) (by omega)
      have x90 : sf90 N n t lo hi ((n : Int) + 1) F k = some (-F (k * 13 + 0)) := by
        unfold sf90
        rw [ck_pos (by omega), ck_pos (by omega), toN, show Int.toNat 0 = 0 from rfl, ck_pos (by unfold rng; omega)]
      have x91 : sf91 N n t lo hi ((n : Int) + 1) F k = some (F (0 * 13 + k)) := by
        unfold sf91
        rw [ck_pos (by omega), ck_pos (by omega), toN, show Int.toNat 0 = 0 from rfl]
      unfold sf73_L1
      dsimp only
      rw [decide_eq_true (by omega), cond_true, x90, bnd_ret, x91, bnd_ret, ck_pos (by simp; omega), ck_pos (by unfold rng; omega), List.range_succ, List.map_append]
      rfl
    · unfold sf73_L1
      dsimp only
      rw [decide_eq_false (by omega), cond_false]
      rfl
  rw [show sf77 N = some () from rfl, bnd_ret, ck_pos (by unfold rng; omega), ck_pos (by omega), show List.replicate (Int.toNat 0) ((0 : Int), (0 : Int)) = [] from rfl, e, bnd_ret]
theorem s29_ok {N n : Nat} {t lo hi : Int} {L : List (Int × Int × Int × Int)} (ht : TubeOk n t lo hi) (hL : L.length ≤ 12) (hr : AllP (RdOk' n) L) (hN : 1000 ≤ N) :
    (∃ F, sf29 N n t lo hi L = some (bdF n F, 0) ∧ Gd n F ∧ ∀ p, SatF n F p ↔ TruS n t lo hi L p) ∨
    (sf29 N n t lo hi L = some ([], 9) ∧ ∀ p, ¬ TruS n t lo hi L p) := by
  have hn : n ≤ 12 := by have := ht.2.1; omega
  have e64 : sf64 N n t lo hi L = some 0 := by rw [s64 (by omega) hN, if_pos ht, if_pos hL, if_pos hr]
  unfold sf29 sf72
  rw [e64, bnd_ret]
  rw [decide_eq_true rfl, Bool.not_true, cond_false, cond_false]
  rcases s89 (N := N) ht (by omega) hr hN with ⟨F, e, G, S⟩ | ⟨e, S⟩
  · refine .inl ⟨F, ?_, G, S⟩
    rw [e, bnd_ret]
    dsimp only
    rw [Bool.not_true, cond_false, bnd_ret]
    dsimp only
    rw [decide_eq_true rfl, Bool.not_true, cond_false, s73F hn G hN, bnd_ret]
  · refine .inr ⟨?_, S⟩
    rw [e, bnd_ret]
    rfl
/-- Both ends are those of places. -/
theorem low_sat {n : Nat} {F : Nat → Int} (h : Gd n F) : SatF n F fun j => -F (j * 13 + 0) := fun i j hi hj => by
  have := h.tri i j 0 hi hj (Nat.zero_le _)
  show -F (j * 13 + 0) - -F (i * 13 + 0) ≤ _
  omega
theorem high_sat {n : Nat} {F : Nat → Int} (h : Gd n F) : SatF n F fun j => F (0 * 13 + j) := fun i j hi hj => by
  have := h.tri 0 i j (Nat.zero_le _) hi hj
  show F (0 * 13 + j) - F (0 * 13 + i) ≤ _
  omega
end Go.Hx.V

