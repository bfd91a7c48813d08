/- Functions of the program come to that. -/
import Derived.Test.YtnjnlogdgoobfaaH05
set_option linter.all false
/- Functions of the program come to that. -/
namespace Go.Hx.V
open Go.Hx
set_option linter.unusedVariables false
set_option maxRecDepth 20000
set_option maxHeartbeats 4000000
attribute [local irreducible] W R C thenH inBlockH
theorem ct49 (N : Nat) {a0_0 : Int} {a0_1 : (List (Int × Int))} {a0_2 : (List (Int × Int × Int))} {a0_3 : Int} {a1 : Int} {r : Int} (hF : sf49 N a0_0 a0_1 a0_2 a0_3 a1 = some r) {fl : Nat} {h0 : Tr HBlk} {n0 : Nat} {F0 : PH} (hd : D h0 n0) (hs : F0.sub h0) {pa0_1 : Option (Nat × Nat)} {ca0_1 : Nat} {pa0_2 : Option (Nat × Nat)} {ca0_2 : Nat} (ra0_1 : RowF (rP rI rI) 2 F0 pa0_1 ca0_1 a0_1) (ra0_2 : RowF (rP rI (rP rI rI)) 3 F0 pa0_2 ca0_2 a0_2) : C LW fl 49 [(.agg [(i64 a0_0), (.slice pa0_1 (a0_1).length ca0_1), (.slice pa0_2 (a0_2).length ca0_2), (i64 a0_3)]), (i64 a1)] ⟨h0, n0⟩ (KS (i64 r) n0 h0) := by
  unfold sf49 at hF
  refine in_cT hd hs lw49 rfl rfl (by rfl) (fun st T hT => ?_)
  have hfl : n0 ≤ n0 := Nat.le_refl n0
  have t0 := hT 0 _ rfl
  have t1 := hT 1 _ rfl
  dsimp only [L49]
  refine w_seq ?_
  refine w_reg ?_
  refine v_box st (fun b1 h2 n3 st => ?_)
  refine v_move ?_
  refine r_nil ?_
  refine th_n ?_
  refine w_seq ?_
  refine w_reg ?_
  refine v_move ?_
  refine r_nil ?_
  refine th_n ?_
  refine w_seq ?_
  refine w_seq ?_
  refine w_reg ?_
  refine v_move ?_
  refine r_nil ?_
  refine th_n ?_
  refine w_block ?_
  obtain ⟨y11, hy, hF⟩ := bnd_some hF
  refine v_loopD (sf49_L1 a0_2 a1) (fun x4 T ds5 h nx => ∃ (F5 : PH), ds5 = [] ∧ PH.le F0 F5 ∧ St n0 h0 F0 F5 h nx [.bx b1 [(i64 a0_0), (.slice pa0_1 (a0_1).length ca0_1), (.slice pa0_2 (a0_2).length ca0_2), (i64 a0_3)]] ∧ T.get 1 = some (i64 a1) ∧ T.get 2 = some (.ptr (some (b1, 0))) ∧ T.get 5 = some (i64 x4.1) ∧ T.get 6 = some (i64 x4.2)) (fun y e a σ => e = .exit 0 ∧ a.nt = 24 ∧ ∃ (F12 : PH), a.defers = [] ∧ PH.le F0 F12 ∧ St n0 h0 F0 F12 σ.h σ.nx [.bx b1 [(i64 a0_0), (.slice pa0_1 (a0_1).length ca0_1), (.slice pa0_2 (a0_2).length ca0_2), (i64 a0_3)]] ∧ a.tmps.get 5 = some (i64 y)) (fun x4 T ds5 h nx s hp hF => ?_) N _ y11 _ _ _ _ hy ⟨F0, rfl, (PH.le.refl _), st, (by repeat first | exact ge_h | refine ge_m rfl ?_ | assumption), (by repeat first | exact ge_h | refine ge_m rfl ?_ | assumption), (by repeat first | exact ge_h | refine ge_m rfl ?_ | assumption), (by repeat first | exact ge_h | refine ge_m rfl ?_ | assumption)⟩ (fun e a σ hne hq => ?_)
  · obtain ⟨F5, rfl, le5, st, t1, t2, t5, t6⟩ := hp
    unfold sf49_L1 at hF
    unfold L49w0
    refine w_seq ?_
    refine w_seq ?_
    refine w_reg ?_
    refine v_move ?_
    refine v_fa ?_
    refine v_ld1 (st.at (i := 0) rfl).2.2 rfl ?_
    refine v_len ?_
    refine v_lss ?_
    refine r_nil ?_
    refine th_n ?_
    refine v_cond (fun hb13 => ?_) (fun hb13 => ?_)
    · have hF := bif_t hb13 hF
      refine w_skip ?_
      refine th_n ?_
      refine w_seq ?_
      refine w_block ?_
      refine w_seq ?_
      refine w_reg ?_
      refine v_fa ?_
      refine v_ld1 (st.at (i := 0) rfl).2.2 rfl ?_
      refine v_move ?_
      obtain ⟨n14, x14, z14, l14, g14, hF⟩ := ix_some hF
      obtain ⟨b14, o14, s14, j14, r14, e14, f14, k14, ⟨_, _, rfl, rfl, ⟨_, _, rfl, rfl, rfl⟩⟩⟩ := RowF.get ra0_2 g14
      refine v_ixp e14 z14 l14 ?_
      refine v_fa ?_
      refine v_ld1 (st.sub _ _ (le5 _ _ f14)) (take_at (j := 0) k14 rfl) ?_
      refine v_move ?_
      refine v_leq ?_
      refine r_nil ?_
      refine th_n ?_
      refine v_cond (fun hb15 => ?_) (fun hb15 => ?_)
      · have hF := bif_t hb15 hF
        refine w_reg ?_
        refine v_move ?_
        refine v_move ?_
        refine r_nil ?_
        refine ib_n ?_
        refine th_n ?_
        refine w_reg ?_
        refine v_move ?_
        obtain ⟨q16, hF⟩ := ck_some hF
        refine v_add q16 ?_
        refine v_move ?_
        refine r_nil ?_
        refine thn ⟨_, (inj hF).symm, rfl, ?_⟩
        dsimp only
        exact ⟨F5, rfl, le5, st, (by repeat first | exact ge_h | refine ge_m rfl ?_ | assumption), (by repeat first | exact ge_h | refine ge_m rfl ?_ | assumption), (by repeat first | exact ge_h | refine ge_m rfl ?_ | assumption), (by repeat first | exact ge_h | refine ge_m rfl ?_ | assumption)⟩
      · have hF := bif_f hb15 hF
        refine w_skip ?_
        refine ib_n ?_
        refine th_n ?_
        refine w_reg ?_
        refine v_move ?_
        obtain ⟨q17, hF⟩ := ck_some hF
        refine v_add q17 ?_
        refine v_move ?_
        refine r_nil ?_
        refine thn ⟨_, (inj hF).symm, rfl, ?_⟩
        dsimp only
        exact ⟨F5, rfl, le5, st, (by repeat first | exact ge_h | refine ge_m rfl ?_ | assumption), (by repeat first | exact ge_h | refine ge_m rfl ?_ | assumption), (by repeat first | exact ge_h | refine ge_m rfl ?_ | assumption), (by repeat first | exact ge_h | refine ge_m rfl ?_ | assumption)⟩
    · have hF := bif_f hb13 hF
      refine w_exit ?_
      refine th_e ?_
      refine th_e ?_
      refine ⟨_, (inj hF).symm, rfl, rfl, ?_⟩
      dsimp only
      exact ⟨F5, rfl, le5, st, (by repeat first | exact ge_h | refine ge_m rfl ?_ | assumption)⟩
  · obtain ⟨N9, T, ds12⟩ := a
    obtain ⟨h18, n19⟩ := σ
    obtain ⟨rfl, e1, F12, e2, le12, st, t5⟩ := hq
    dsimp only at e1 e2
    subst e1
    subst e2
    dsimp only at st t5
    refine ib_e ?_
    refine th_n ?_
    refine w_seq ?_
    refine w_reg ?_
    refine v_move ?_
    refine v_move ?_
    refine r_nil ?_
    refine th_n ?_
    refine w_ret ?_
    obtain rfl := inj hF
    exact end_s st (Res.t (by repeat first | exact ge_h | refine ge_m rfl ?_ | assumption) Res.nil) rfl rfl
theorem ct60 (N : Nat) {a0 : Int} {r : Bool} (hF : sf60 N a0 = some r) {fl : Nat} {h0 : Tr HBlk} {n0 : Nat} {F0 : PH} (hd : D h0 n0) (hs : F0.sub h0) : C LW fl 60 [(i64 a0)] ⟨h0, n0⟩ (KS (.bool r) n0 h0) := by
  unfold sf60 at hF
  refine in_cT hd hs lw60 rfl rfl (by rfl) (fun st T hT => ?_)
  have hfl : n0 ≤ n0 := Nat.le_refl n0
  have t0 := hT 0 _ rfl
  dsimp only [L60]
  refine w_seq ?_
  refine w_reg ?_
  refine v_move ?_
  refine r_nil ?_
  refine th_n ?_
  refine w_seq ?_
  refine w_reg ?_
  refine v_move ?_
  refine v_leq ?_
  refine v_move ?_
  rcases Bool.eq_false_or_eq_true (decide ((0 : Int) ≤ a0)) with hb1 | hb1
  · have hF := bif_t hb1 hF
    refine g_take hb1 (v_move ?_)
    refine g_take hb1 (v_leq ?_)
    refine v_pick hb1 ?_
    refine v_move ?_
    refine r_nil ?_
    refine th_n ?_
    refine w_ret ?_
    obtain rfl := inj hF
    exact end_s st (Res.t (by repeat first | exact ge_h | refine ge_m rfl ?_ | assumption) Res.nil) rfl rfl
  · have hF := bif_f hb1 hF
    refine g_skip hb1 ?_
    refine g_skip hb1 ?_
    refine v_pick' hb1 ?_
    refine v_move ?_
    refine r_nil ?_
    refine th_n ?_
    refine w_ret ?_
    obtain rfl := inj hF
    exact end_s st (Res.t (by repeat first | exact ge_h | refine ge_m rfl ?_ | assumption) Res.nil) rfl rfl
theorem ct96 (N : Nat) {a0 : Int} {a1 : (List Int)} {r : Int} (hF : sf96 N a0 a1 = some r) {fl : Nat} {h0 : Tr HBlk} {n0 : Nat} {F0 : PH} (hd : D h0 n0) (hs : F0.sub h0) {pa1 : Option (Nat × Nat)} {ca1 : Nat} (ra1 : RowF rI 1 F0 pa1 ca1 a1) : C LW fl 96 [(i64 a0), (.slice pa1 (a1).length ca1)] ⟨h0, n0⟩ (KS (i64 r) n0 h0) := by
  unfold sf96 at hF
  refine in_cT hd hs lw96 rfl rfl (by rfl) (fun st T hT => ?_)
  have hfl : n0 ≤ n0 := Nat.le_refl n0
  have t0 := hT 0 _ rfl
  have t1 := hT 1 _ rfl
  dsimp only [L96]
  refine w_seq ?_
  refine w_reg ?_
  refine v_move ?_
  refine r_nil ?_
  refine th_n ?_
  refine w_seq ?_
  refine w_seq ?_
  refine w_reg ?_
  refine v_move ?_
  refine v_len ?_
  refine v_move ?_
  refine r_nil ?_
  refine th_n ?_
  refine w_block ?_
  obtain ⟨y8, hy, hF⟩ := bnd_some hF
  refine v_loopD (sf96_L1 a1) (fun x1 T ds2 h nx => ∃ (F2 : PH), ds2 = [] ∧ PH.le F0 F2 ∧ St n0 h0 F0 F2 h nx [] ∧ T.get 0 = some (i64 x1.1) ∧ T.get 7 = some (.slice pa1 (a1).length ca1) ∧ T.get 8 = some (i64 ((a1).length : Int)) ∧ T.get 9 = some (i64 x1.2)) (fun y e a σ => e = .exit 0 ∧ a.nt = 19 ∧ ∃ (F9 : PH), a.defers = [] ∧ PH.le F0 F9 ∧ St n0 h0 F0 F9 σ.h σ.nx [] ∧ a.tmps.get 0 = some (i64 y)) (fun x1 T ds2 h nx s hp hF => ?_) N _ y8 _ _ _ _ hy ⟨F0, rfl, (PH.le.refl _), st, (by repeat first | exact ge_h | refine ge_m rfl ?_ | assumption), (by repeat first | exact ge_h | refine ge_m rfl ?_ | assumption), (by repeat first | exact ge_h | refine ge_m rfl ?_ | assumption), (by repeat first | exact ge_h | refine ge_m rfl ?_ | assumption)⟩ (fun e a σ hne hq => ?_)
  · obtain ⟨F2, rfl, le2, st, t0, t7, t8, t9⟩ := hp
    unfold sf96_L1 at hF
    unfold L96w0
    refine w_seq ?_
    refine w_reg ?_
    refine v_lss ?_
    refine r_nil ?_
    refine th_n ?_
    refine w_seq ?_
    refine v_cond (fun hb10 => ?_) (fun hb10 => ?_)
    · have hF := bif_t hb10 hF
      refine w_skip ?_
      refine th_n ?_
      refine w_seq ?_
      refine w_block ?_
      refine w_seq ?_
      refine w_reg ?_
      obtain ⟨n11, x11, z11, l11, g11, hF⟩ := ix_some hF
      obtain ⟨b11, o11, s11, j11, r11, e11, f11, k11, rfl⟩ := RowF.get ra1 g11
      refine v_ixp e11 z11 l11 ?_
      refine v_ld1 (st.sub _ _ (le2 _ _ f11)) (take_at (j := 0) k11 rfl) ?_
      refine v_move ?_
      refine r_nil ?_
      refine th_n ?_
      refine w_seq ?_
      refine w_reg ?_
      refine v_move ?_
      refine v_move ?_
      refine v_gtr ?_
      refine r_nil ?_
      refine th_n ?_
      refine v_cond (fun hb12 => ?_) (fun hb12 => ?_)
      · have hF := bif_t hb12 hF
        refine w_reg ?_
        refine v_move ?_
        refine v_move ?_
        refine r_nil ?_
        refine ib_n ?_
        refine th_n ?_
        refine w_reg ?_
        obtain ⟨q13, hF⟩ := ck_some hF
        refine v_add q13 ?_
        refine v_move ?_
        refine r_nil ?_
        refine thn ⟨_, (inj hF).symm, rfl, ?_⟩
        dsimp only
        exact ⟨F2, rfl, le2, st, (by repeat first | exact ge_h | refine ge_m rfl ?_ | assumption), (by repeat first | exact ge_h | refine ge_m rfl ?_ | assumption), (by repeat first | exact ge_h | refine ge_m rfl ?_ | assumption), (by repeat first | exact ge_h | refine ge_m rfl ?_ | assumption)⟩
      · have hF := bif_f hb12 hF
        refine w_skip ?_
        refine ib_n ?_
        refine th_n ?_
        refine w_reg ?_
        obtain ⟨q14, hF⟩ := ck_some hF
        refine v_add q14 ?_
        refine v_move ?_
        refine r_nil ?_
        refine thn ⟨_, (inj hF).symm, rfl, ?_⟩
        dsimp only
        exact ⟨F2, rfl, le2, st, (by repeat first | exact ge_h | refine ge_m rfl ?_ | assumption), (by repeat first | exact ge_h | refine ge_m rfl ?_ | assumption), (by repeat first | exact ge_h | refine ge_m rfl ?_ | assumption), (by repeat first | exact ge_h | refine ge_m rfl ?_ | assumption)⟩
    · have hF := bif_f hb10 hF
      refine w_exit ?_
      refine th_e ?_
      refine th_e ?_
      refine ⟨_, (inj hF).symm, rfl, rfl, ?_⟩
      dsimp only
      exact ⟨F2, rfl, le2, st, (by repeat first | exact ge_h | refine ge_m rfl ?_ | assumption)⟩
  · obtain ⟨N9, T, ds9⟩ := a
    obtain ⟨h15, n16⟩ := σ
    obtain ⟨rfl, e1, F9, e2, le9, st, t0⟩ := hq
    dsimp only at e1 e2
    subst e1
    subst e2
    dsimp only at st t0
    refine ib_e ?_
    refine th_n ?_
    refine w_seq ?_
    refine w_reg ?_
    refine v_move ?_
    refine v_move ?_
    refine r_nil ?_
    refine th_n ?_
    refine w_ret ?_
    obtain rfl := inj hF
    exact end_s st (Res.t (by repeat first | exact ge_h | refine ge_m rfl ?_ | assumption) Res.nil) rfl rfl
end Go.Hx.V

/- Functions of the program come to that. -/
namespace Go.Hx.V
open Go.Hx
set_option linter.unusedVariables false
set_option maxRecDepth 20000
set_option maxHeartbeats 4000000
attribute [local irreducible] W R C thenH inBlockH
theorem ct84_2 (N : Nat) {a1_0 : Int} {a1_1 : (List (Int × Int))} {a1_2 : (List (Int × Int × Int))} {a1_3 : Int} {r : ((List Int) × (List Int))} (hF : sf84_2 N a1_0 a1_1 a1_2 a1_3 = some r) {fl : Nat} {h0 : Tr HBlk} {n0 : Nat} {F0 : PH} (hd : D h0 n0) (hs : F0.sub h0) (hfl : fl ≤ n0) {pa1_1 : Option (Nat × Nat)} {ca1_1 : Nat} {pa1_2 : Option (Nat × Nat)} {ca1_2 : Nat} (ra1_1 : RowF (rP rI rI) 2 F0 pa1_1 ca1_1 a1_1) (ra1_2 : RowF (rP rI (rP rI rI)) 3 F0 pa1_2 ca1_2 a1_2) : C LW fl 84 [(.agg [(.func 106 [] [])]), (.agg [(i64 a1_0), (.slice pa1_1 (a1_1).length ca1_1), (.slice pa1_2 (a1_2).length ca1_2), (i64 a1_3)])] ⟨h0, n0⟩ (KR (rvA (rP (rL rI 1) (rL rI 1))) F0 h0 n0 r) := by
  unfold sf84_2 at hF
  refine in_mT hd hs hfl lw84 rfl rfl (by rfl) (fun st T hT => ?_)
  have t0 := hT 0 _ rfl
  have t1 := hT 1 _ rfl
  dsimp only [L84]
  refine w_seq ?_
  refine w_reg ?_
  refine v_box st (fun b1 h2 n3 st => ?_)
  refine v_box st (fun b4 h5 n6 st => ?_)
  refine v_alloc st (fun b7 h8 n9 st => ?_)
  refine r_nil ?_
  refine th_n ?_
  refine w_seq ?_
  refine w_reg ?_
  refine v_alloc st (fun b10 h11 n12 st => ?_)
  refine r_nil ?_
  refine th_n ?_
  refine w_seq ?_
  refine w_seq ?_
  refine w_reg ?_
  refine v_fa ?_
  refine v_ld1 (st.at (i := 1) rfl).2.2 rfl ?_
  refine v_len ?_
  refine v_move ?_
  refine r_nil ?_
  refine th_n ?_
  refine w_block ?_
  have st := st.nilL 1
  have w34 : LR rI 1 F0 ([] : List Int) [] := LR.nil
  obtain ⟨y52, hy, hF⟩ := bnd_some hF
  refine v_loopD (sf84_2_L1 N a1_1) (fun x36 T ds37 h nx => ∃ (F37 : PH) (o38 : Option Nat) (c38 : Nat) (cs38 : List HV), ds37 = [] ∧ PH.le F0 F37 ∧ St n0 h0 F0 F37 h nx [.bx b1 [(.func 106 [] [])], .bx b4 [(i64 a1_0), (.slice pa1_1 (a1_1).length ca1_1), (.slice pa1_2 (a1_2).length ca1_2), (i64 a1_3)], .bx b7 [(.slice none 0 0), (.slice none 0 0)], .bx b10 [(slv o38 (x36.2).length c38), (.slice none 0 0)], .ls o38 c38 cs38 1] ∧ LR rI 1 F37 x36.2 cs38 ∧ T.get 2 = some (.ptr (some (b1, 0))) ∧ T.get 3 = some (.ptr (some (b4, 0))) ∧ T.get 4 = some (.ptr (some (b7, 0))) ∧ T.get 5 = some (.ptr (some (b10, 0))) ∧ T.get 11 = some (.slice pa1_1 (a1_1).length ca1_1) ∧ T.get 12 = some (i64 ((a1_1).length : Int)) ∧ T.get 13 = some (i64 x36.1)) (fun y e a σ => e = .exit 0 ∧ a.nt = 46 ∧ ∃ (F53 : PH) (o54 : Option Nat) (c54 : Nat) (cs54 : List HV), a.defers = [] ∧ PH.le F0 F53 ∧ St n0 h0 F0 F53 σ.h σ.nx [.bx b1 [(.func 106 [] [])], .bx b4 [(i64 a1_0), (.slice pa1_1 (a1_1).length ca1_1), (.slice pa1_2 (a1_2).length ca1_2), (i64 a1_3)], .bx b7 [(.slice none 0 0), (.slice none 0 0)], .bx b10 [(slv o54 (y).length c54), (.slice none 0 0)], .ls o54 c54 cs54 1] ∧ LR rI 1 F53 y cs54 ∧ a.tmps.get 2 = some (.ptr (some (b1, 0))) ∧ a.tmps.get 3 = some (.ptr (some (b4, 0))) ∧ a.tmps.get 4 = some (.ptr (some (b7, 0))) ∧ a.tmps.get 5 = some (.ptr (some (b10, 0)))) (fun x36 T ds37 h nx s hp hF => ?_) N _ y52 _ _ _ _ hy ⟨F0, none, 0, [], rfl, (PH.le.refl _), st, w34, (by repeat first | exact ge_h | refine ge_m rfl ?_ | assumption), (by repeat first | exact ge_h | refine ge_m rfl ?_ | assumption), (by repeat first | exact ge_h | refine ge_m rfl ?_ | assumption), (by repeat first | exact ge_h | refine ge_m rfl ?_ | assumption), (by repeat first | exact ge_h | refine ge_m rfl ?_ | assumption), (by repeat first | exact ge_h | refine ge_m rfl ?_ | assumption), (by repeat first | exact ge_h | refine ge_m rfl ?_ | assumption)⟩ (fun e a σ hne hq => ?_)
  · obtain ⟨F37, o38, c38, cs38, rfl, le37, st, w38, t2, t3, t4, t5, t11, t12, t13⟩ := hp
    unfold sf84_2_L1 at hF
    unfold L84w1
    refine w_seq ?_
    refine w_reg ?_
    refine v_lss ?_
    refine r_nil ?_
    refine th_n ?_
    refine w_seq ?_
    refine v_cond (fun hb55 => ?_) (fun hb55 => ?_)
    · have hF := bif_t hb55 hF
      refine w_skip ?_
      refine th_n ?_
      refine w_seq ?_
      refine w_block ?_
      refine w_seq ?_
      refine w_reg ?_
      obtain ⟨n56, x56, z56, l56, g56, hF⟩ := ix_some hF
      obtain ⟨b56, o56, s56, j56, r56, e56, f56, k56, ⟨_, _, rfl, rfl, rfl⟩⟩ := RowF.get ra1_1 g56
      refine v_ixp e56 z56 l56 ?_
      refine v_ldn (st.sub _ _ (le37 _ _ f56)) k56 ?_
      refine v_alloc st (fun b57 h58 n59 st => ?_)
      refine v_st (cs' := [(i64 x56.1), (i64 x56.2)]) st 5 rfl rfl rfl rfl hfl (fun h60 st => ?_)
      refine r_nil ?_
      refine th_n ?_
      refine w_drawV (Nat.le_trans hfl st.ext.le) (fun dw => ?_)
      have wf := Wf.start st
      refine y_pure st.d dw (fun hm vw => v_fa pr_nil) ?_
      refine y_pure st.d dw (fun hm vw => v_ld1 (vw.bx (st.at (i := 3) rfl)) rfl pr_nil) ?_
      refine y_pure st.d dw (fun hm vw => v_fa pr_nil) ?_
      refine y_pure st.d dw (fun hm vw => v_ld1 (vw.bx (st.at (i := 0) rfl)) rfl pr_nil) ?_
      refine y_pure st.d dw (fun hm vw => v_ldn (vs := [(i64 x56.1), (i64 x56.2)]) (vw.bx (st.at (i := 5) rfl)) rfl pr_nil) ?_
      obtain ⟨v61, e62, hF⟩ := bnd_some hF
      refine y_flat st.d dw (fun hm vw => u_call (ct106 N e62 vw.d (FF.sub wf st vw) ) (fun n' hn' => pf_nil hn')) (fun n63 hn' dw => ?_)
      refine y_lay st.d dw (fun hm vw => u_bs (cs := [(i64 v61)]) rfl pr_nil) (fun done dw => ?_)
      have wf := Wf.lay wf (e := (6, one n63 (.cells [(i64 v61)] .exact)))
      refine y_end st.d dw rfl (fun h64 ex vs => ?_)
      have st := St.laid st ex (Lay.cons (b := n63) (cs := [(i64 v61)]) (by have := dw.le; omega) (vs _ (List.mem_cons_self ..) _ _ (if_pos rfl)) (Lay.nil (by have := dw.le; omega)))
      obtain ⟨q65, hF⟩ := ck_some hF
      have w65 : LR rI 1 F37 (x36.2 ++ [v61]) (cs38 ++ [(i64 v61)]) := LR.app w38 (LR.one (rfl))
      refine v_aps (n := 1) (ox := 0) (m := (x36.2 ++ [v61]).length) (row := [(i64 v61)]) st 4 rfl w38.1 (st.at (i := 6) rfl).2.2 rfl rfl q65 hfl (by decide) (by decide) (by simp) (fun o65 c65 h65 n65 st => ?_)
      refine v_fa ?_
      refine v_st (cs' := [(slv o65 ((x36.2 ++ [v61])).length c65), (.slice none 0 0)]) st 3 rfl rfl rfl rfl hfl (fun h66 st => ?_)
      refine r_nil ?_
      refine ib_n ?_
      refine th_n ?_
      refine w_reg ?_
      obtain ⟨q67, hF⟩ := ck_some hF
      refine v_add q67 ?_
      refine v_move ?_
      refine r_nil ?_
      refine thn ⟨_, (inj hF).symm, rfl, ?_⟩
      dsimp only
      exact ⟨F37, o65, c65, (cs38 ++ [(i64 v61)]), rfl, le37, (st.drop (by first | exact List.Sublist.refl _ | (repeat first | exact List.nil_sublist _ | refine List.Sublist.cons_cons _ ?_ | refine List.Sublist.cons _ ?_))), w65, (by repeat first | exact ge_h | refine ge_m rfl ?_ | assumption), (by repeat first | exact ge_h | refine ge_m rfl ?_ | assumption), (by repeat first | exact ge_h | refine ge_m rfl ?_ | assumption), (by repeat first | exact ge_h | refine ge_m rfl ?_ | assumption), (by repeat first | exact ge_h | refine ge_m rfl ?_ | assumption), (by repeat first | exact ge_h | refine ge_m rfl ?_ | assumption), (by repeat first | exact ge_h | refine ge_m rfl ?_ | assumption)⟩
    · have hF := bif_f hb55 hF
      refine w_exit ?_
      refine th_e ?_
      refine th_e ?_
      refine ⟨_, (inj hF).symm, rfl, rfl, ?_⟩
      dsimp only
      exact ⟨F37, o38, c38, cs38, rfl, le37, st, w38, (by repeat first | exact ge_h | refine ge_m rfl ?_ | assumption), (by repeat first | exact ge_h | refine ge_m rfl ?_ | assumption), (by repeat first | exact ge_h | refine ge_m rfl ?_ | assumption), (by repeat first | exact ge_h | refine ge_m rfl ?_ | assumption)⟩
  · obtain ⟨N9, T, ds53⟩ := a
    obtain ⟨h68, n69⟩ := σ
    obtain ⟨rfl, e1, F53, o54, c54, cs54, e2, le53, st, w54, t2, t3, t4, t5⟩ := hq
    dsimp only at e1 e2
    subst e1
    subst e2
    dsimp only at st t2 t3 t4 t5
    refine ib_e ?_
    refine th_n ?_
    refine w_seq ?_
    refine w_seq ?_
    refine w_reg ?_
    refine v_fa ?_
    refine v_ld1 (st.at (i := 1) rfl).2.2 rfl ?_
    refine v_len ?_
    refine v_move ?_
    refine r_nil ?_
    refine th_n ?_
    refine w_block ?_
    have st := st.nilL 1
    have w90 : LR rI 1 F53 ([] : List Int) [] := LR.nil
    obtain ⟨y109, hy, hF⟩ := bnd_some hF
    refine v_loopD (sf84_2_L2 N a1_2) (fun x92 T ds93 h nx => ∃ (F93 : PH) (o94 : Option Nat) (c94 : Nat) (cs94 : List HV), ds93 = [] ∧ PH.le F53 F93 ∧ St n0 h0 F0 F93 h nx [.bx b1 [(.func 106 [] [])], .bx b4 [(i64 a1_0), (.slice pa1_1 (a1_1).length ca1_1), (.slice pa1_2 (a1_2).length ca1_2), (i64 a1_3)], .bx b7 [(.slice none 0 0), (.slice none 0 0)], .bx b10 [(slv o54 (y52).length c54), (slv o94 (x92.2).length c94)], .ls o54 c54 cs54 1, .ls o94 c94 cs94 1] ∧ LR rI 1 F93 x92.2 cs94 ∧ T.get 2 = some (.ptr (some (b1, 0))) ∧ T.get 4 = some (.ptr (some (b7, 0))) ∧ T.get 5 = some (.ptr (some (b10, 0))) ∧ T.get 28 = some (.slice pa1_2 (a1_2).length ca1_2) ∧ T.get 29 = some (i64 ((a1_2).length : Int)) ∧ T.get 30 = some (i64 x92.1)) (fun y e a σ => e = .exit 2 ∧ a.nt = 46 ∧ ∃ (F110 : PH) (o111 : Option Nat) (c111 : Nat) (cs111 : List HV), a.defers = [] ∧ PH.le F53 F110 ∧ St n0 h0 F0 F110 σ.h σ.nx [.bx b1 [(.func 106 [] [])], .bx b4 [(i64 a1_0), (.slice pa1_1 (a1_1).length ca1_1), (.slice pa1_2 (a1_2).length ca1_2), (i64 a1_3)], .bx b7 [(.slice none 0 0), (.slice none 0 0)], .bx b10 [(slv o54 (y52).length c54), (slv o111 (y).length c111)], .ls o54 c54 cs54 1, .ls o111 c111 cs111 1] ∧ LR rI 1 F110 y cs111 ∧ a.tmps.get 4 = some (.ptr (some (b7, 0))) ∧ a.tmps.get 5 = some (.ptr (some (b10, 0)))) (fun x92 T ds93 h nx s hp hF => ?_) N _ y109 _ _ _ _ hy ⟨F53, none, 0, [], rfl, (PH.le.refl _), st, w90, (by repeat first | exact ge_h | refine ge_m rfl ?_ | assumption), (by repeat first | exact ge_h | refine ge_m rfl ?_ | assumption), (by repeat first | exact ge_h | refine ge_m rfl ?_ | assumption), (by repeat first | exact ge_h | refine ge_m rfl ?_ | assumption), (by repeat first | exact ge_h | refine ge_m rfl ?_ | assumption), (by repeat first | exact ge_h | refine ge_m rfl ?_ | assumption)⟩ (fun e a σ hne hq => ?_)
    · obtain ⟨F93, o94, c94, cs94, rfl, le93, st, w94, t2, t4, t5, t28, t29, t30⟩ := hp
      have le95 := PH.le.trans le53 le93
      unfold sf84_2_L2 at hF
      unfold L84w0
      refine w_seq ?_
      refine w_reg ?_
      refine v_lss ?_
      refine r_nil ?_
      refine th_n ?_
      refine w_seq ?_
      refine v_cond (fun hb112 => ?_) (fun hb112 => ?_)
      · have hF := bif_t hb112 hF
        refine w_skip ?_
        refine th_n ?_
        refine w_seq ?_
        refine w_block ?_
        refine w_seq ?_
        refine w_reg ?_
        obtain ⟨n113, x113, z113, l113, g113, hF⟩ := ix_some hF
        obtain ⟨b113, o113, s113, j113, r113, e113, f113, k113, ⟨_, _, rfl, rfl, ⟨_, _, rfl, rfl, rfl⟩⟩⟩ := RowF.get ra1_2 g113
        refine v_ixp e113 z113 l113 ?_
        refine v_ldn (st.sub _ _ (le95 _ _ f113)) k113 ?_
        refine v_alloc st (fun b114 h115 n116 st => ?_)
        refine v_st (cs' := [(i64 x113.1), (i64 x113.2.1), (i64 x113.2.2)]) st 6 rfl rfl rfl rfl hfl (fun h117 st => ?_)
        refine r_nil ?_
        refine th_n ?_
        refine w_drawV (Nat.le_trans hfl st.ext.le) (fun dw => ?_)
        have wf := Wf.start st
        refine y_pure st.d dw (fun hm vw => v_fa pr_nil) ?_
        refine y_pure st.d dw (fun hm vw => v_ld1 (vw.bx (st.at (i := 3) rfl)) rfl pr_nil) ?_
        refine y_pure st.d dw (fun hm vw => v_fa pr_nil) ?_
        refine y_pure st.d dw (fun hm vw => v_ld1 (vw.bx (st.at (i := 0) rfl)) rfl pr_nil) ?_
        refine y_pure st.d dw (fun hm vw => v_fa pr_nil) ?_
        refine y_pure st.d dw (fun hm vw => v_ldn (vs := [(i64 x113.2.1), (i64 x113.2.2)]) (vw.bx (st.at (i := 6) rfl)) rfl pr_nil) ?_
        obtain ⟨v118, e119, hF⟩ := bnd_some hF
        refine y_flat st.d dw (fun hm vw => u_call (ct106 N e119 vw.d (FF.sub wf st vw) ) (fun n' hn' => pf_nil hn')) (fun n120 hn' dw => ?_)
        refine y_lay st.d dw (fun hm vw => u_bs (cs := [(i64 v118)]) rfl pr_nil) (fun done dw => ?_)
        have wf := Wf.lay wf (e := (7, one n120 (.cells [(i64 v118)] .exact)))
        refine y_end st.d dw rfl (fun h121 ex vs => ?_)
        have st := St.laid st ex (Lay.cons (b := n120) (cs := [(i64 v118)]) (by have := dw.le; omega) (vs _ (List.mem_cons_self ..) _ _ (if_pos rfl)) (Lay.nil (by have := dw.le; omega)))
        obtain ⟨q122, hF⟩ := ck_some hF
        have w122 : LR rI 1 F93 (x92.2 ++ [v118]) (cs94 ++ [(i64 v118)]) := LR.app w94 (LR.one (rfl))
        refine v_aps (n := 1) (ox := 0) (m := (x92.2 ++ [v118]).length) (row := [(i64 v118)]) st 5 rfl w94.1 (st.at (i := 7) rfl).2.2 rfl rfl q122 hfl (by decide) (by decide) (by simp) (fun o122 c122 h122 n122 st => ?_)
        refine v_fa ?_
        refine v_st (cs' := [(slv o54 (y52).length c54), (slv o122 ((x92.2 ++ [v118])).length c122)]) st 3 rfl rfl rfl rfl hfl (fun h123 st => ?_)
        refine r_nil ?_
        refine ib_n ?_
        refine th_n ?_
        refine w_reg ?_
        obtain ⟨q124, hF⟩ := ck_some hF
        refine v_add q124 ?_
        refine v_move ?_
        refine r_nil ?_
        refine thn ⟨_, (inj hF).symm, rfl, ?_⟩
        dsimp only
        exact ⟨F93, o122, c122, (cs94 ++ [(i64 v118)]), rfl, le93, (st.drop (by first | exact List.Sublist.refl _ | (repeat first | exact List.nil_sublist _ | refine List.Sublist.cons_cons _ ?_ | refine List.Sublist.cons _ ?_))), w122, (by repeat first | exact ge_h | refine ge_m rfl ?_ | assumption), (by repeat first | exact ge_h | refine ge_m rfl ?_ | assumption), (by repeat first | exact ge_h | refine ge_m rfl ?_ | assumption), (by repeat first | exact ge_h | refine ge_m rfl ?_ | assumption), (by repeat first | exact ge_h | refine ge_m rfl ?_ | assumption), (by repeat first | exact ge_h | refine ge_m rfl ?_ | assumption)⟩
      · have hF := bif_f hb112 hF
        refine w_exit ?_
        refine th_e ?_
        refine th_e ?_
        refine ⟨_, (inj hF).symm, rfl, rfl, ?_⟩
        dsimp only
        exact ⟨F93, o94, c94, cs94, rfl, le93, st, w94, (by repeat first | exact ge_h | refine ge_m rfl ?_ | assumption), (by repeat first | exact ge_h | refine ge_m rfl ?_ | assumption)⟩
    · obtain ⟨N9, T, ds110⟩ := a
      obtain ⟨h126, n127⟩ := σ
      obtain ⟨rfl, e1, F110, o111, c111, cs111, e2, le110, st, w111, t4, t5⟩ := hq
      dsimp only at e1 e2
      subst e1
      subst e2
      dsimp only at st t4 t5
      have le125 := PH.le.trans le53 le110
      refine ib_e ?_
      refine th_n ?_
      refine w_seq ?_
      refine w_reg ?_
      refine v_ldn (vs := [(slv o54 (y52).length c54), (slv o111 (y109).length c111)]) (st.at (i := 3) rfl).2.2 rfl ?_
      refine v_st (cs' := [(slv o54 (y52).length c54), (slv o111 (y109).length c111)]) st 2 rfl rfl rfl rfl hfl (fun h128 st => ?_)
      refine r_nil ?_
      refine th_n ?_
      refine w_ret ?_
      obtain rfl := inj hF
      obtain ⟨F129, le129, st, rf129⟩ := St.freeze st 4 rfl (LR.mono le110 w54) (by decide)
      have le130 := PH.le.trans le125 le129
      have le131 := PH.le.trans le110 le129
      obtain ⟨F132, le132, st, rf132⟩ := St.freeze st 4 rfl (LR.mono le129 w111) (by decide)
      have le133 := PH.le.trans le130 le132
      have le134 := PH.le.trans le131 le132
      have le135 := PH.le.trans le129 le132
      exact end_r st (Res.c (by repeat first | exact ge_h | refine ge_m rfl ?_ | assumption) (st.at (i := 2) rfl).2.2 (show takeN _ _ = some [(.slice (o54.map fun b => (b, 0)) (y52).length c54), (.slice (o111.map fun b => (b, 0)) (y109).length c111)] from rfl) Res.nil) ⟨_, rfl, ⟨[(.slice (o54.map fun b => (b, 0)) (y52).length c54)], [(.slice (o111.map fun b => (b, 0)) (y109).length c111)], rfl, ⟨_, _, rfl, (RowF.mono le132 rf129)⟩, ⟨_, _, rfl, rf132⟩⟩⟩
theorem ct86 (N : Nat) {a0_0 : Int} {a0_1 : Int} {r : Bool} (hF : sf86 N a0_0 a0_1 = some r) {fl : Nat} {h0 : Tr HBlk} {n0 : Nat} {F0 : PH} (hd : D h0 n0) (hs : F0.sub h0) : C LW fl 86 [(.agg [(i64 a0_0), (i64 a0_1)])] ⟨h0, n0⟩ (KS (.bool r) n0 h0) := by
  unfold sf86 at hF
  refine in_cT hd hs lw86 rfl rfl (by rfl) (fun st T hT => ?_)
  have hfl : n0 ≤ n0 := Nat.le_refl n0
  have t0 := hT 0 _ rfl
  dsimp only [L86]
  refine w_seq ?_
  refine w_reg ?_
  refine v_box st (fun b1 h2 n3 st => ?_)
  refine v_move ?_
  refine r_nil ?_
  refine th_n ?_
  refine w_seq ?_
  refine w_reg ?_
  refine v_fa ?_
  refine v_ld1 (st.at (i := 0) rfl).2.2 rfl ?_
  refine v_fa ?_
  refine v_ld1 (st.at (i := 0) rfl).2.2 rfl ?_
  obtain ⟨v4, e5, hF⟩ := bnd_some hF
  refine v_call st (ct24 N e5 st.d st.sub ) (fun n6 st => ?_)
  refine v_move ?_
  rcases Bool.eq_false_or_eq_true v4 with hb7 | hb7
  · have hF := bif_t hb7 hF
    refine g_take hb7 (v_fa ?_)
    refine g_take hb7 (v_ld1 (st.at (i := 0) rfl).2.2 rfl ?_)
    refine g_take hb7 (v_leq ?_)
    refine v_pick hb7 ?_
    refine v_move ?_
    refine r_nil ?_
    refine th_n ?_
    refine w_ret ?_
    obtain rfl := inj hF
    exact end_s st (Res.t (by repeat first | exact ge_h | refine ge_m rfl ?_ | assumption) Res.nil) rfl rfl
  · have hF := bif_f hb7 hF
    refine g_skip hb7 ?_
    refine g_skip hb7 ?_
    refine g_skip hb7 ?_
    refine v_pick' hb7 ?_
    refine v_move ?_
    refine r_nil ?_
    refine th_n ?_
    refine w_ret ?_
    obtain rfl := inj hF
    exact end_s st (Res.t (by repeat first | exact ge_h | refine ge_m rfl ?_ | assumption) Res.nil) rfl rfl
theorem ct28 (N : Nat) {a0_0 : Int} {a0_1 : (List (Int × Int))} {a0_2 : (List (Int × Int × Int))} {a0_3 : Int} {a1 : Int} {a2_0 : (List Int)} {a2_1 : (List Int)} {r : Int} (hF : sf28 N a0_0 a0_1 a0_2 a0_3 a1 a2_0 a2_1 = some r) {fl : Nat} {h0 : Tr HBlk} {n0 : Nat} {F0 : PH} (hd : D h0 n0) (hs : F0.sub h0) {pa0_1 : Option (Nat × Nat)} {ca0_1 : Nat} {pa0_2 : Option (Nat × Nat)} {ca0_2 : Nat} {pa2_0 : Option (Nat × Nat)} {ca2_0 : Nat} {pa2_1 : Option (Nat × Nat)} {ca2_1 : Nat} (ra0_1 : RowF (rP rI rI) 2 F0 pa0_1 ca0_1 a0_1) (ra0_2 : RowF (rP rI (rP rI rI)) 3 F0 pa0_2 ca0_2 a0_2) (ra2_0 : RowF rI 1 F0 pa2_0 ca2_0 a2_0) (ra2_1 : RowF rI 1 F0 pa2_1 ca2_1 a2_1) : C LW fl 28 [(.agg [(i64 a0_0), (.slice pa0_1 (a0_1).length ca0_1), (.slice pa0_2 (a0_2).length ca0_2), (i64 a0_3)]), (i64 a1), (.agg [(.slice pa2_0 (a2_0).length ca2_0), (.slice pa2_1 (a2_1).length ca2_1)])] ⟨h0, n0⟩ (KS (i64 r) n0 h0) := by
  unfold sf28 at hF
  refine in_cT hd hs lw28 rfl rfl (by rfl) (fun st T hT => ?_)
  have hfl : n0 ≤ n0 := Nat.le_refl n0
  have t0 := hT 0 _ rfl
  have t1 := hT 1 _ rfl
  have t2 := hT 2 _ rfl
  dsimp only [L28]
  refine w_seq ?_
  refine w_reg ?_
  refine v_box st (fun b1 h2 n3 st => ?_)
  refine v_box st (fun b4 h5 n6 st => ?_)
  refine v_move ?_
  refine r_nil ?_
  refine th_n ?_
  refine w_seq ?_
  refine w_reg ?_
  refine v_move ?_
  refine r_nil ?_
  refine th_n ?_
  refine w_seq ?_
  refine w_seq ?_
  refine w_reg ?_
  refine v_move ?_
  refine r_nil ?_
  refine th_n ?_
  refine w_block ?_
  obtain ⟨y21, hy, hF⟩ := bnd_some hF
  refine v_loopD (sf28_L1 N a0_0 a0_1 a0_2 a0_3 a1 a2_0 a2_1) (fun x7 T ds8 h nx => ∃ (F8 : PH), ds8 = [] ∧ PH.le F0 F8 ∧ St n0 h0 F0 F8 h nx [.bx b1 [(i64 a0_0), (.slice pa0_1 (a0_1).length ca0_1), (.slice pa0_2 (a0_2).length ca0_2), (i64 a0_3)], .bx b4 [(.slice pa2_0 (a2_0).length ca2_0), (.slice pa2_1 (a2_1).length ca2_1)]] ∧ T.get 1 = some (i64 a1) ∧ T.get 3 = some (.ptr (some (b1, 0))) ∧ T.get 5 = some (.ptr (some (b4, 0))) ∧ T.get 7 = some (i64 x7.1) ∧ T.get 8 = some (i64 x7.2)) (fun y e a σ => e = .exit 0 ∧ a.nt = 37 ∧ ∃ (F22 : PH), a.defers = [] ∧ PH.le F0 F22 ∧ St n0 h0 F0 F22 σ.h σ.nx [.bx b1 [(i64 a0_0), (.slice pa0_1 (a0_1).length ca0_1), (.slice pa0_2 (a0_2).length ca0_2), (i64 a0_3)], .bx b4 [(.slice pa2_0 (a2_0).length ca2_0), (.slice pa2_1 (a2_1).length ca2_1)]] ∧ a.tmps.get 7 = some (i64 y)) (fun x7 T ds8 h nx s hp hF => ?_) N _ y21 _ _ _ _ hy ⟨F0, rfl, (PH.le.refl _), st, (by repeat first | exact ge_h | refine ge_m rfl ?_ | assumption), (by repeat first | exact ge_h | refine ge_m rfl ?_ | assumption), (by repeat first | exact ge_h | refine ge_m rfl ?_ | assumption), (by repeat first | exact ge_h | refine ge_m rfl ?_ | assumption), (by repeat first | exact ge_h | refine ge_m rfl ?_ | assumption)⟩ (fun e a σ hne hq => ?_)
  · obtain ⟨F8, rfl, le8, st, t1, t3, t5, t7, t8⟩ := hp
    unfold sf28_L1 at hF
    unfold L28w0
    refine w_seq ?_
    refine w_seq ?_
    refine w_reg ?_
    refine v_move ?_
    refine v_move ?_
    refine v_lss ?_
    refine r_nil ?_
    refine th_n ?_
    refine v_cond (fun hb23 => ?_) (fun hb23 => ?_)
    · have hF := bif_t hb23 hF
      refine w_skip ?_
      refine th_n ?_
      refine w_seq ?_
      refine w_block ?_
      refine w_drawV (Nat.le_trans hfl st.ext.le) (fun dw => ?_)
      refine y_pure st.d dw (fun hm vw => v_move pr_nil) ?_
      refine y_pure st.d dw (fun hm vw => v_fa pr_nil) ?_
      refine y_pure st.d dw (fun hm vw => v_ld1 (vw.bx (st.at (i := 0) rfl)) rfl pr_nil) ?_
      refine y_pure st.d dw (fun hm vw => v_fa pr_nil) ?_
      refine y_pure st.d dw (fun hm vw => v_ld1 (vw.bx (st.at (i := 1) rfl)) rfl pr_nil) ?_
      refine y_pure st.d dw (fun hm vw => v_move pr_nil) ?_
      refine y_pure st.d dw (fun hm vw => v_fa pr_nil) ?_
      refine y_pure st.d dw (fun hm vw => v_ld1 (vw.bx (st.at (i := 0) rfl)) rfl pr_nil) ?_
      refine y_pure st.d dw (fun hm vw => v_len pr_nil) ?_
      obtain ⟨q24, hF⟩ := ck_some hF
      refine y_pure st.d dw (fun hm vw => v_rem q24 pr_nil) ?_
      obtain ⟨n25, x25, z25, l25, g25, hF⟩ := ix_some hF
      obtain ⟨b25, o25, s25, j25, r25, e25, f25, k25, rfl⟩ := RowF.get ra2_0 g25
      refine y_pure st.d dw (fun hm vw => v_ixp e25 z25 l25 pr_nil) ?_
      refine y_pure st.d dw (fun hm vw => v_ld1 (vw.fz st (le8 _ _ f25)) (take_at (j := 0) k25 rfl) pr_nil) ?_
      obtain ⟨q26, hF⟩ := ck_some hF
      refine y_pure st.d dw (fun hm vw => v_add q26 pr_nil) ?_
      refine y_pure st.d dw (fun hm vw => v_fa pr_nil) ?_
      refine y_pure st.d dw (fun hm vw => v_ld1 (vw.bx (st.at (i := 1) rfl)) rfl pr_nil) ?_
      refine y_pure st.d dw (fun hm vw => v_ldn (vs := [(i64 a0_0), (.slice pa0_1 (a0_1).length ca0_1), (.slice pa0_2 (a0_2).length ca0_2), (i64 a0_3)]) (vw.bx (st.at (i := 0) rfl)) rfl pr_nil) ?_
      refine y_pure st.d dw (fun hm vw => v_move pr_nil) ?_
      obtain ⟨v27, e28, hF⟩ := bnd_some hF
      refine y_flat st.d dw (fun hm vw => u_call (ct49 N e28 vw.d (vw.sub st) (RowF.mono le8 ra0_1) (RowF.mono le8 ra0_2)) (fun n' hn' => pf_nil hn')) (fun n29 hn' dw => ?_)
      obtain ⟨n30, x30, z30, l30, g30, hF⟩ := ix_some hF
      obtain ⟨b30, o30, s30, j30, r30, e30, f30, k30, rfl⟩ := RowF.get ra2_1 g30
      refine y_pure st.d dw (fun hm vw => v_ixp e30 z30 l30 pr_nil) ?_
      refine y_pure st.d dw (fun hm vw => v_ld1 (vw.fz st (le8 _ _ f30)) (take_at (j := 0) k30 rfl) pr_nil) ?_
      refine y_end st.d dw rfl (fun h31 ex vs => ?_)
      have st := st.ext1 ex
      obtain ⟨q32, hF⟩ := ck_some hF
      refine v_add q32 ?_
      obtain ⟨q33, hF⟩ := ck_some hF
      refine v_add q33 ?_
      refine v_move ?_
      refine r_nil ?_
      refine ib_n ?_
      refine th_n ?_
      refine w_reg ?_
      refine v_move ?_
      obtain ⟨q34, hF⟩ := ck_some hF
      refine v_add q34 ?_
      refine v_move ?_
      refine r_nil ?_
      refine thn ⟨_, (inj hF).symm, rfl, ?_⟩
      dsimp only
      exact ⟨F8, rfl, le8, st, (by repeat first | exact ge_h | refine ge_m rfl ?_ | assumption), (by repeat first | exact ge_h | refine ge_m rfl ?_ | assumption), (by repeat first | exact ge_h | refine ge_m rfl ?_ | assumption), (by repeat first | exact ge_h | refine ge_m rfl ?_ | assumption), (by repeat first | exact ge_h | refine ge_m rfl ?_ | assumption)⟩
    · have hF := bif_f hb23 hF
      refine w_exit ?_
      refine th_e ?_
      refine th_e ?_
      refine ⟨_, (inj hF).symm, rfl, rfl, ?_⟩
      dsimp only
      exact ⟨F8, rfl, le8, st, (by repeat first | exact ge_h | refine ge_m rfl ?_ | assumption)⟩
  · obtain ⟨N9, T, ds22⟩ := a
    obtain ⟨h35, n36⟩ := σ
    obtain ⟨rfl, e1, F22, e2, le22, st, t7⟩ := hq
    dsimp only at e1 e2
    subst e1
    subst e2
    dsimp only at st t7
    refine ib_e ?_
    refine th_n ?_
    refine w_seq ?_
    refine w_reg ?_
    refine v_move ?_
    refine v_move ?_
    refine r_nil ?_
    refine th_n ?_
    refine w_ret ?_
    obtain rfl := inj hF
    exact end_s st (Res.t (by repeat first | exact ge_h | refine ge_m rfl ?_ | assumption) Res.nil) rfl rfl
end Go.Hx.V

/- Functions of the program come to that. -/
namespace Go.Hx.V
open Go.Hx
set_option linter.unusedVariables false
set_option maxRecDepth 20000
set_option maxHeartbeats 4000000
attribute [local irreducible] W R C thenH inBlockH
theorem ct76 (N : Nat) {a0_0 : Int} {a0_1 : (List (Int × Int))} {a0_2 : (List (Int × Int × Int))} {a0_3 : Int} {r : Bool} (hF : sf76 N a0_0 a0_1 a0_2 a0_3 = some r) {fl : Nat} {h0 : Tr HBlk} {n0 : Nat} {F0 : PH} (hd : D h0 n0) (hs : F0.sub h0) {pa0_1 : Option (Nat × Nat)} {ca0_1 : Nat} {pa0_2 : Option (Nat × Nat)} {ca0_2 : Nat} (ra0_1 : RowF (rP rI rI) 2 F0 pa0_1 ca0_1 a0_1) (ra0_2 : RowF (rP rI (rP rI rI)) 3 F0 pa0_2 ca0_2 a0_2) : C LW fl 76 [(.agg [(i64 a0_0), (.slice pa0_1 (a0_1).length ca0_1), (.slice pa0_2 (a0_2).length ca0_2), (i64 a0_3)])] ⟨h0, n0⟩ (KS (.bool r) n0 h0) := by
  unfold sf76 at hF
  refine in_cT hd hs lw76 rfl rfl (by rfl) (fun st T hT => ?_)
  have hfl : n0 ≤ n0 := Nat.le_refl n0
  have t0 := hT 0 _ rfl
  dsimp only [L76]
  refine w_seq ?_
  refine w_reg ?_
  refine v_box st (fun b1 h2 n3 st => ?_)
  refine v_move ?_
  refine r_nil ?_
  refine th_n ?_
  refine w_seq ?_
  refine w_reg ?_
  refine v_fa ?_
  refine v_ld1 (st.at (i := 0) rfl).2.2 rfl ?_
  refine v_len ?_
  refine v_gtr ?_
  refine v_move ?_
  rcases Bool.eq_false_or_eq_true (decide ((0 : Int) < ((a0_1).length : Int))) with hb4 | hb4
  · have hF := bif_t hb4 hF
    refine g_take hb4 (v_fa ?_)
    refine g_take hb4 (v_ld1 (st.at (i := 0) rfl).2.2 rfl ?_)
    obtain ⟨v5, e6, hF⟩ := bnd_some hF
    refine g_take hb4 (v_call st (ct97 N e6 st.d st.sub ra0_1) (fun n7 st => ?_))
    refine v_pick hb4 ?_
    refine v_move ?_
    refine r_nil ?_
    refine th_n ?_
    refine w_ret ?_
    obtain rfl := inj hF
    exact end_s st (Res.t (by repeat first | exact ge_h | refine ge_m rfl ?_ | assumption) Res.nil) rfl rfl
  · have hF := bif_f hb4 hF
    refine g_skip hb4 ?_
    refine g_skip hb4 ?_
    refine g_skip hb4 ?_
    refine v_pick' hb4 ?_
    refine v_move ?_
    refine r_nil ?_
    refine th_n ?_
    refine w_ret ?_
    obtain rfl := inj hF
    exact end_s st (Res.t (by repeat first | exact ge_h | refine ge_m rfl ?_ | assumption) Res.nil) rfl rfl
theorem ct99 (N : Nat) {a0 : (List (Int × Int × Int))} {r : Bool} (hF : sf99 N a0 = some r) {fl : Nat} {h0 : Tr HBlk} {n0 : Nat} {F0 : PH} (hd : D h0 n0) (hs : F0.sub h0) {pa0 : Option (Nat × Nat)} {ca0 : Nat} (ra0 : RowF (rP rI (rP rI rI)) 3 F0 pa0 ca0 a0) : C LW fl 99 [(.slice pa0 (a0).length ca0), (.func 100 [] [])] ⟨h0, n0⟩ (KS (.bool r) n0 h0) := by
  unfold sf99 at hF
  refine in_cT hd hs lw99 rfl rfl (by rfl) (fun st T hT => ?_)
  have hfl : n0 ≤ n0 := Nat.le_refl n0
  have t0 := hT 0 _ rfl
  have t1 := hT 1 _ rfl
  dsimp only [L99]
  refine w_seq ?_
  refine w_reg ?_
  refine v_move ?_
  refine r_nil ?_
  refine th_n ?_
  refine w_seq ?_
  refine w_seq ?_
  refine w_reg ?_
  refine v_move ?_
  refine v_len ?_
  refine v_move ?_
  refine r_nil ?_
  refine th_n ?_
  refine w_block ?_
  obtain ⟨y14, hy, hF⟩ := bnd_some hF
  refine v_loopD (sf99_L1 N a0) (fun x1 T ds2 h nx => ∃ (F2 : PH), ds2 = [] ∧ PH.le F0 F2 ∧ St n0 h0 F0 F2 h nx [] ∧ T.get 1 = some (.func 100 [] []) ∧ T.get 7 = some (.slice pa0 (a0).length ca0) ∧ T.get 8 = some (i64 ((a0).length : Int)) ∧ T.get 9 = some (i64 x1)) (fun y e a σ => (∃ u, y = (.inl u) ∧ e = .ret ∧ a.nt = 18 ∧ ∃ (F16 : PH), a.defers = [] ∧ PH.le F0 F16 ∧ St n0 h0 F0 F16 σ.h σ.nx [] ∧ a.tmps.get 4 = some (.bool false)) ∨ (∃ u, y = (.inr u) ∧ e = .exit 0 ∧ a.nt = 18 ∧ ∃ (F18 : PH), a.defers = [] ∧ PH.le F0 F18 ∧ St n0 h0 F0 F18 σ.h σ.nx [])) (fun x1 T ds2 h nx s hp hF => ?_) N _ y14 _ _ _ _ hy ⟨F0, rfl, (PH.le.refl _), st, (by repeat first | exact ge_h | refine ge_m rfl ?_ | assumption), (by repeat first | exact ge_h | refine ge_m rfl ?_ | assumption), (by repeat first | exact ge_h | refine ge_m rfl ?_ | assumption), (by repeat first | exact ge_h | refine ge_m rfl ?_ | assumption)⟩ (fun e a σ hne hq => ?_)
  · obtain ⟨F2, rfl, le2, st, t1, t7, t8, t9⟩ := hp
    unfold sf99_L1 at hF
    unfold L99w0
    refine w_seq ?_
    refine w_reg ?_
    refine v_lss ?_
    refine r_nil ?_
    refine th_n ?_
    refine w_seq ?_
    refine v_cond (fun hb19 => ?_) (fun hb19 => ?_)
    · have hF := bif_t hb19 hF
      refine w_skip ?_
      refine th_n ?_
      refine w_seq ?_
      refine w_block ?_
      refine w_seq ?_
      refine w_reg ?_
      obtain ⟨n20, x20, z20, l20, g20, hF⟩ := ix_some hF
      obtain ⟨b20, o20, s20, j20, r20, e20, f20, k20, ⟨_, _, rfl, rfl, ⟨_, _, rfl, rfl, rfl⟩⟩⟩ := RowF.get ra0 g20
      refine v_ixp e20 z20 l20 ?_
      refine v_ldn (st.sub _ _ (le2 _ _ f20)) k20 ?_
      refine v_alloc st (fun b21 h22 n23 st => ?_)
      refine v_st (cs' := [(i64 x20.1), (i64 x20.2.1), (i64 x20.2.2)]) st 0 rfl rfl rfl rfl hfl (fun h24 st => ?_)
      refine r_nil ?_
      refine th_n ?_
      refine w_seq ?_
      refine w_reg ?_
      refine v_move ?_
      refine v_ldn (vs := [(i64 x20.1), (i64 x20.2.1), (i64 x20.2.2)]) (st.at (i := 0) rfl).2.2 rfl ?_
      obtain ⟨v25, e26, hF⟩ := bnd_some hF
      refine v_call st (ct100 N e26 st.d st.sub ) (fun n27 st => ?_)
      refine v_not ?_
      refine r_nil ?_
      refine th_n ?_
      refine v_cond (fun hb28 => ?_) (fun hb28 => ?_)
      · have hF := bif_t hb28 hF
        refine w_seq ?_
        refine w_reg ?_
        refine v_move ?_
        refine r_nil ?_
        refine th_n ?_
        refine w_ret ?_
        refine ib_r ?_
        refine th_r ?_
        refine th_r ?_
        refine ⟨_, (inj hF).symm, .inl ⟨_, rfl, rfl, rfl, ?_⟩⟩
        dsimp only
        exact ⟨F2, rfl, le2, (st.drop (by first | exact List.Sublist.refl _ | (repeat first | exact List.nil_sublist _ | refine List.Sublist.cons_cons _ ?_ | refine List.Sublist.cons _ ?_))), (by repeat first | exact ge_h | refine ge_m rfl ?_ | assumption)⟩
      · have hF := bif_f hb28 hF
        refine w_skip ?_
        refine ib_n ?_
        refine th_n ?_
        refine w_reg ?_
        obtain ⟨q29, hF⟩ := ck_some hF
        refine v_add q29 ?_
        refine v_move ?_
        refine r_nil ?_
        refine thn ⟨_, (inj hF).symm, rfl, ?_⟩
        dsimp only
        exact ⟨F2, rfl, le2, (st.drop (by first | exact List.Sublist.refl _ | (repeat first | exact List.nil_sublist _ | refine List.Sublist.cons_cons _ ?_ | refine List.Sublist.cons _ ?_))), (by repeat first | exact ge_h | refine ge_m rfl ?_ | assumption), (by repeat first | exact ge_h | refine ge_m rfl ?_ | assumption), (by repeat first | exact ge_h | refine ge_m rfl ?_ | assumption), (by repeat first | exact ge_h | refine ge_m rfl ?_ | assumption)⟩
    · have hF := bif_f hb19 hF
      refine w_exit ?_
      refine th_e ?_
      refine th_e ?_
      refine ⟨_, (inj hF).symm, .inr (⟨_, rfl, rfl, rfl, ?_⟩)⟩
      dsimp only
      exact ⟨F2, rfl, le2, st⟩
  · rcases hq with hq | hq
    · obtain ⟨N9, T, ds16⟩ := a
      obtain ⟨h30, n31⟩ := σ
      obtain ⟨w15, rfl, rfl, e1, F16, e2, le16, st, t4⟩ := hq
      dsimp only at e1 e2
      subst e1
      subst e2
      dsimp only at st t4
      have hF := sel_l hF
      refine ib_r ?_
      refine th_r ?_
      obtain rfl := inj hF
      exact end_s st (Res.t (by repeat first | exact ge_h | refine ge_m rfl ?_ | assumption) Res.nil) rfl rfl
    · obtain ⟨N9, T, ds18⟩ := a
      obtain ⟨h32, n33⟩ := σ
      obtain ⟨w17, rfl, rfl, e1, F18, e2, le18, st⟩ := hq
      dsimp only at e1 e2
      subst e1
      subst e2
      dsimp only at st
      have hF := sel_r hF
      refine ib_e ?_
      refine th_n ?_
      refine w_seq ?_
      refine w_reg ?_
      refine v_move ?_
      refine r_nil ?_
      refine th_n ?_
      refine w_ret ?_
      obtain rfl := inj hF
      exact end_s st (Res.t (by repeat first | exact ge_h | refine ge_m rfl ?_ | assumption) Res.nil) rfl rfl
theorem ct78 (N : Nat) {a0_0 : Int} {a0_1 : (List (Int × Int))} {a0_2 : (List (Int × Int × Int))} {a0_3 : Int} {r : Bool} (hF : sf78 N a0_0 a0_1 a0_2 a0_3 = some r) {fl : Nat} {h0 : Tr HBlk} {n0 : Nat} {F0 : PH} (hd : D h0 n0) (hs : F0.sub h0) {pa0_1 : Option (Nat × Nat)} {ca0_1 : Nat} {pa0_2 : Option (Nat × Nat)} {ca0_2 : Nat} (ra0_1 : RowF (rP rI rI) 2 F0 pa0_1 ca0_1 a0_1) (ra0_2 : RowF (rP rI (rP rI rI)) 3 F0 pa0_2 ca0_2 a0_2) : C LW fl 78 [(.agg [(i64 a0_0), (.slice pa0_1 (a0_1).length ca0_1), (.slice pa0_2 (a0_2).length ca0_2), (i64 a0_3)])] ⟨h0, n0⟩ (KS (.bool r) n0 h0) := by
  unfold sf78 at hF
  refine in_cT hd hs lw78 rfl rfl (by rfl) (fun st T hT => ?_)
  have hfl : n0 ≤ n0 := Nat.le_refl n0
  have t0 := hT 0 _ rfl
  dsimp only [L78]
  refine w_seq ?_
  refine w_reg ?_
  refine v_box st (fun b1 h2 n3 st => ?_)
  refine v_move ?_
  refine r_nil ?_
  refine th_n ?_
  refine w_seq ?_
  refine w_drawV (Nat.le_trans hfl st.ext.le) (fun dw => ?_)
  have wf := Wf.start st
  obtain ⟨v4, e5, hF⟩ := bnd_some hF
  refine y_flat st.d dw (fun hm vw => u_call (ct83 N e5 vw.d (FF.sub wf st vw) ) (fun n' hn' => pf_nil hn')) (fun n6 hn' dw => ?_)
  refine y_pure st.d dw (fun hm vw => v_ldn (vs := [(i64 a0_0), (.slice pa0_1 (a0_1).length ca0_1), (.slice pa0_2 (a0_2).length ca0_2), (i64 a0_3)]) (vw.bx (st.at (i := 0) rfl)) rfl pr_nil) ?_
  obtain ⟨v7, e8, hF⟩ := bnd_some hF
  refine y_deep st dw wf (fun hm vw => u_callR (ct84 N e8 vw.d (FF.sub wf st vw) (Nat.max_le.2 ⟨by have := dw.le; have := st.ext.le; omega, Nat.le_refl _⟩) (RowF.mono FF.base ra0_1) (RowF.mono FF.base ra0_2)) (fun v F' h' n' ex l1 l2 l3 l4 => r_nil ⟨_, _, rfl, ex, l1, l2, l3, l4⟩)) (fun u9 F9 n9 done hn' dw9 wf9 rv9 le9 => ?_)
  have wf := wf9
  have dw := dw9
  obtain ⟨_, rfl, ⟨_, _, rfl, ⟨py10, cy10, rfl, ry10⟩, ⟨py11, cy11, rfl, ry11⟩⟩⟩ := rv9
  refine y_lay st.d dw (fun hm vw => u_alloc pr_nil) (fun done dw => ?_)
  have wf := Wf.lay wf (e := (3, one n9 (.cells [(.slice none 0 0), (.slice none 0 0)] .exact)))
  refine y_end st.d dw rfl (fun h12 ex vs => ?_)
  obtain ⟨F13, lt13, st⟩ := St.laidF st dw wf ex vs (Lay.cons (b := n9) (cs := [(.slice none 0 0), (.slice none 0 0)]) (by have := dw.le; omega) (vs _ (List.mem_cons_self ..) _ _ (if_pos rfl)) (Lay.nil (by have := dw.le; omega))) (by intro e he w hw; simp only [List.mem_cons, List.not_mem_nil, or_false] at he hw; rcases he with rfl <;> rcases hw with rfl <;> exact Dw.not dw (by first | exact .inl (by first | exact List.Sublist.refl _ | (repeat first | exact List.nil_sublist _ | refine List.Sublist.cons_cons _ ?_ | refine List.Sublist.cons _ ?_)) | exact .inr (by first | exact List.Sublist.refl _ | (repeat first | exact List.nil_sublist _ | refine List.Sublist.cons_cons _ ?_ | refine List.Sublist.cons _ ?_))))
  have lz14 := lt13 _ (le9 (fun _ => true) rfl (fun _ _ => rfl))
  have lb13 := lt13 _ FF.base
  refine v_st (cs' := [(.slice py10 (v7.1).length cy10), (.slice py11 (v7.2).length cy11)]) st 1 rfl rfl rfl rfl hfl (fun h15 st => ?_)
  refine r_nil ?_
  refine th_n ?_
  refine w_seq ?_
  refine w_drawV (Nat.le_trans hfl st.ext.le) (fun dw => ?_)
  refine y_pure st.d dw (fun hm vw => v_fa pr_nil) ?_
  refine y_pure st.d dw (fun hm vw => v_ld1 (vw.bx (st.at (i := 1) rfl)) rfl pr_nil) ?_
  obtain ⟨n16, x16, z16, l16, g16, hF⟩ := ix_some hF
  obtain ⟨b16, o16, s16, j16, r16, e16, f16, k16, rfl⟩ := RowF.get ry10 g16
  refine y_pure st.d dw (fun hm vw => v_ixp e16 z16 l16 pr_nil) ?_
  refine y_pure st.d dw (fun hm vw => v_ld1 (vw.fz st (lz14 _ _ f16)) (take_at (j := 0) k16 rfl) pr_nil) ?_
  refine y_pure st.d dw (fun hm vw => v_fa pr_nil) ?_
  refine y_pure st.d dw (fun hm vw => v_ld1 (vw.bx (st.at (i := 1) rfl)) rfl pr_nil) ?_
  obtain ⟨q17, hF⟩ := ck_some hF
  refine y_step st.d dw rfl rfl (fun hm vw => v_slf (m := ((v7.1.drop (Int.toNat (1 : Int))).take (v7.1.length - (Int.toNat (1 : Int)))).length) (Int.toNat (1 : Int)) v7.1.length ry10 (bd_some (by first | exact ev_c | (apply ev_t; repeat first | exact ge_h | refine ge_m rfl ?_ | assumption)) (Int.toNat_of_nonneg q17.1).symm) bd_none q17.2.2 (by simp <;> omega) (fun p17 c17 n18 hn' rs17 => r_nil (y_call dw hn' vw.d (fun dw => ?_))))
  refine y_end st.d dw rfl (fun h19 ex vs => ?_)
  have st := st.ext1 ex
  obtain ⟨v20, e21, hF⟩ := bnd_some hF
  refine v_call st (ct103 N e21 st.d st.sub (RowF.mono lz14 rs17)) (fun n22 st => ?_)
  refine v_move ?_
  refine r_nil ?_
  refine th_n ?_
  refine w_seq ?_
  refine w_drawV (Nat.le_trans hfl st.ext.le) (fun dw => ?_)
  refine y_pure st.d dw (fun hm vw => v_fa pr_nil) ?_
  refine y_pure st.d dw (fun hm vw => v_ld1 (vw.bx (st.at (i := 1) rfl)) rfl pr_nil) ?_
  obtain ⟨n23, x23, z23, l23, g23, hF⟩ := ix_some hF
  obtain ⟨b23, o23, s23, j23, r23, e23, f23, k23, rfl⟩ := RowF.get ry11 g23
  refine y_pure st.d dw (fun hm vw => v_ixp e23 z23 l23 pr_nil) ?_
  refine y_pure st.d dw (fun hm vw => v_ld1 (vw.fz st (lz14 _ _ f23)) (take_at (j := 0) k23 rfl) pr_nil) ?_
  refine y_pure st.d dw (fun hm vw => v_fa pr_nil) ?_
  refine y_pure st.d dw (fun hm vw => v_ld1 (vw.bx (st.at (i := 1) rfl)) rfl pr_nil) ?_
  obtain ⟨q24, hF⟩ := ck_some hF
  refine y_step st.d dw rfl rfl (fun hm vw => v_slf (m := ((v7.2.drop (Int.toNat (1 : Int))).take (v7.2.length - (Int.toNat (1 : Int)))).length) (Int.toNat (1 : Int)) v7.2.length ry11 (bd_some (by first | exact ev_c | (apply ev_t; repeat first | exact ge_h | refine ge_m rfl ?_ | assumption)) (Int.toNat_of_nonneg q24.1).symm) bd_none q24.2.2 (by simp <;> omega) (fun p24 c24 n25 hn' rs24 => r_nil (y_call dw hn' vw.d (fun dw => ?_))))
  refine y_end st.d dw rfl (fun h26 ex vs => ?_)
  have st := st.ext1 ex
  obtain ⟨v27, e28, hF⟩ := bnd_some hF
  refine v_call st (ct103 N e28 st.d st.sub (RowF.mono lz14 rs24)) (fun n29 st => ?_)
  refine v_move ?_
  refine r_nil ?_
  refine th_n ?_
  refine w_seq ?_
  refine w_reg ?_
  refine v_fa ?_
  refine v_ld1 (st.at (i := 0) rfl).2.2 rfl ?_
  refine v_move ?_
  obtain ⟨q30, hF⟩ := ck_some hF
  refine v_add q30 ?_
  refine v_move ?_
  obtain ⟨q31, hF⟩ := ck_some hF
  refine v_add q31 ?_
  refine v_geq ?_
  refine v_move ?_
  refine r_nil ?_
  refine th_n ?_
  refine w_ret ?_
  obtain rfl := inj hF
  exact end_s st (Res.t (by repeat first | exact ge_h | refine ge_m rfl ?_ | assumption) Res.nil) rfl rfl
theorem ct54 (N : Nat) {a0_0 : Int} {a0_1 : (List (Int × Int))} {a0_2 : (List (Int × Int × Int))} {a0_3 : Int} {r : (Int × (List (Int × Int)) × (List (Int × Int × Int)) × Int × (List Int) × (List Int))} (hF : sf54 N a0_0 a0_1 a0_2 a0_3 = some r) {fl : Nat} {h0 : Tr HBlk} {n0 : Nat} {F0 : PH} (hd : D h0 n0) (hs : F0.sub h0) (hfl : fl ≤ n0) {pa0_1 : Option (Nat × Nat)} {ca0_1 : Nat} {pa0_2 : Option (Nat × Nat)} {ca0_2 : Nat} (ra0_1 : RowF (rP rI rI) 2 F0 pa0_1 ca0_1 a0_1) (ra0_2 : RowF (rP rI (rP rI rI)) 3 F0 pa0_2 ca0_2 a0_2) : C LW fl 54 [(.agg [(i64 a0_0), (.slice pa0_1 (a0_1).length ca0_1), (.slice pa0_2 (a0_2).length ca0_2), (i64 a0_3)])] ⟨h0, n0⟩ (KR (rvA (rP rI (rP (rL (rP rI rI) 2) (rP (rL (rP rI (rP rI rI)) 3) (rP rI (rP (rL rI 1) (rL rI 1))))))) F0 h0 n0 r) := by
  unfold sf54 at hF
  refine in_mT hd hs hfl lw54 rfl rfl (by rfl) (fun st T hT => ?_)
  have t0 := hT 0 _ rfl
  dsimp only [L54]
  refine w_seq ?_
  refine w_reg ?_
  refine v_box st (fun b1 h2 n3 st => ?_)
  refine v_alloc st (fun b4 h5 n6 st => ?_)
  refine r_nil ?_
  refine th_n ?_
  refine w_seq ?_
  refine w_drawV (Nat.le_trans hfl st.ext.le) (fun dw => ?_)
  have wf := Wf.start st
  refine y_pure st.d dw (fun hm vw => v_ldn (vs := [(i64 a0_0), (.slice pa0_1 (a0_1).length ca0_1), (.slice pa0_2 (a0_2).length ca0_2), (i64 a0_3)]) (vw.bx (st.at (i := 0) rfl)) rfl pr_nil) ?_
  refine y_pure st.d dw (fun hm vw => v_ldn (vs := [(i64 a0_0), (.slice pa0_1 (a0_1).length ca0_1), (.slice pa0_2 (a0_2).length ca0_2), (i64 a0_3)]) (vw.bx (st.at (i := 0) rfl)) rfl pr_nil) ?_
  obtain ⟨v7, e8, hF⟩ := bnd_some hF
  refine y_flat st.d dw (fun hm vw => u_call (ct83 N e8 vw.d (FF.sub wf st vw) ) (fun n' hn' => pf_nil hn')) (fun n9 hn' dw => ?_)
  refine y_pure st.d dw (fun hm vw => v_ldn (vs := [(i64 a0_0), (.slice pa0_1 (a0_1).length ca0_1), (.slice pa0_2 (a0_2).length ca0_2), (i64 a0_3)]) (vw.bx (st.at (i := 0) rfl)) rfl pr_nil) ?_
  obtain ⟨v10, e11, hF⟩ := bnd_some hF
  refine y_deep st dw wf (fun hm vw => u_callR (ct84 N e11 vw.d (FF.sub wf st vw) (Nat.max_le.2 ⟨by have := dw.le; have := st.ext.le; omega, Nat.le_refl _⟩) (RowF.mono FF.base ra0_1) (RowF.mono FF.base ra0_2)) (fun v F' h' n' ex l1 l2 l3 l4 => r_nil ⟨_, _, rfl, ex, l1, l2, l3, l4⟩)) (fun u12 F12 n12 done hn' dw12 wf12 rv12 le12 => ?_)
  have wf := wf12
  have dw := dw12
  obtain ⟨_, rfl, ⟨_, _, rfl, ⟨py13, cy13, rfl, ry13⟩, ⟨py14, cy14, rfl, ry14⟩⟩⟩ := rv12
  obtain ⟨v15, e16, hF⟩ := bnd_some hF
  refine y_deep st dw wf (fun hm vw => u_callR (ct53 N e16 vw.d (FF.sub wf st vw) (Nat.max_le.2 ⟨by have := dw.le; have := st.ext.le; omega, Nat.le_refl _⟩) (RowF.mono FF.base ra0_1) (RowF.mono FF.base ra0_2) (RowF.mono (le12 _ rfl (con_sub rfl)) ry13) (RowF.mono (le12 _ rfl (con_sub rfl)) ry14)) (fun v F' h' n' ex l1 l2 l3 l4 => r_nil ⟨_, _, rfl, ex, l1, l2, l3, l4⟩)) (fun u17 F17 n17 done hn' dw17 wf17 rv17 le17 => ?_)
  have le19 := fun (f : Nat → Bool) q1 q2 => PH.le.trans (le12 f q1 q2) (FF.cons wf wf17 dw17)
  have wf := wf17
  have dw := dw17
  obtain ⟨py18, cy18, rfl, ry18⟩ := rv17
  refine y_pure st.d dw (fun hm vw => v_ldn (vs := [(i64 a0_0), (.slice pa0_1 (a0_1).length ca0_1), (.slice pa0_2 (a0_2).length ca0_2), (i64 a0_3)]) (vw.bx (st.at (i := 0) rfl)) rfl pr_nil) ?_
  obtain ⟨v20, e21, hF⟩ := bnd_some hF
  refine y_flat st.d dw (fun hm vw => u_call (ct85 N e21 vw.d (FF.sub wf st vw) ) (fun n' hn' => pf_nil hn')) (fun n22 hn' dw => ?_)
  refine y_pure st.d dw (fun hm vw => v_ldn (vs := [(i64 a0_0), (.slice pa0_1 (a0_1).length ca0_1), (.slice pa0_2 (a0_2).length ca0_2), (i64 a0_3)]) (vw.bx (st.at (i := 0) rfl)) rfl pr_nil) ?_
  obtain ⟨v23, e24, hF⟩ := bnd_some hF
  refine y_deep st dw wf (fun hm vw => u_callR (ct84_2 N e24 vw.d (FF.sub wf st vw) (Nat.max_le.2 ⟨by have := dw.le; have := st.ext.le; omega, Nat.le_refl _⟩) (RowF.mono FF.base ra0_1) (RowF.mono FF.base ra0_2)) (fun v F' h' n' ex l1 l2 l3 l4 => r_nil ⟨_, _, rfl, ex, l1, l2, l3, l4⟩)) (fun u25 F25 n25 done hn' dw25 wf25 rv25 le25 => ?_)
  have le28 := fun (f : Nat → Bool) q1 q2 => PH.le.trans (le19 f q1 q2) (FF.cons wf wf25 dw25)
  have le29 := fun (f : Nat → Bool) q1 q2 => PH.le.trans (le17 f q1 q2) (FF.cons wf wf25 dw25)
  have wf := wf25
  have dw := dw25
  obtain ⟨_, rfl, ⟨_, _, rfl, ⟨py26, cy26, rfl, ry26⟩, ⟨py27, cy27, rfl, ry27⟩⟩⟩ := rv25
  obtain ⟨v30, e31, hF⟩ := bnd_some hF
  refine y_deep st dw wf (fun hm vw => u_callR (ct53 N e31 vw.d (FF.sub wf st vw) (Nat.max_le.2 ⟨by have := dw.le; have := st.ext.le; omega, Nat.le_refl _⟩) (RowF.mono FF.base ra0_1) (RowF.mono FF.base ra0_2) (RowF.mono (le25 _ rfl (con_sub rfl)) ry26) (RowF.mono (le25 _ rfl (con_sub rfl)) ry27)) (fun v F' h' n' ex l1 l2 l3 l4 => r_nil ⟨_, _, rfl, ex, l1, l2, l3, l4⟩)) (fun u32 F32 n32 done hn' dw32 wf32 rv32 le32 => ?_)
  have le34 := fun (f : Nat → Bool) q1 q2 => PH.le.trans (le28 f q1 q2) (FF.cons wf wf32 dw32)
  have le35 := fun (f : Nat → Bool) q1 q2 => PH.le.trans (le29 f q1 q2) (FF.cons wf wf32 dw32)
  have le36 := fun (f : Nat → Bool) q1 q2 => PH.le.trans (le25 f q1 q2) (FF.cons wf wf32 dw32)
  have wf := wf32
  have dw := dw32
  obtain ⟨py33, cy33, rfl, ry33⟩ := rv32
  refine y_end st.d dw rfl (fun h37 ex vs => ?_)
  obtain ⟨F38, lt38, st⟩ := St.laidF st dw wf ex vs (Lay.nil (by have := dw.le; omega)) (fun e he => by cases he)
  have lz39 := lt38 _ (le34 (fun _ => true) rfl (fun _ _ => rfl))
  have lz40 := lt38 _ (le35 (fun _ => true) rfl (fun _ _ => rfl))
  have lz41 := lt38 _ (le36 (fun _ => true) rfl (fun _ _ => rfl))
  have lz42 := lt38 _ (le32 (fun _ => true) rfl (fun _ _ => rfl))
  have lb38 := lt38 _ FF.base
  refine v_build (cs := [(i64 a0_0), (.slice pa0_1 (a0_1).length ca0_1), (.slice pa0_2 (a0_2).length ca0_2), (i64 a0_3), (.slice py18 (v15).length cy18), (.slice py33 (v30).length cy33)]) rfl ?_
  refine v_st (cs' := [(i64 a0_0), (.slice pa0_1 (a0_1).length ca0_1), (.slice pa0_2 (a0_2).length ca0_2), (i64 a0_3), (.slice py18 (v15).length cy18), (.slice py33 (v30).length cy33)]) st 1 rfl rfl rfl rfl hfl (fun h43 st => ?_)
  refine r_nil ?_
  refine th_n ?_
  refine w_ret ?_
  obtain rfl := inj hF
  exact end_r st (Res.c (by repeat first | exact ge_h | refine ge_m rfl ?_ | assumption) (st.at (i := 1) rfl).2.2 (show takeN _ _ = some [(i64 a0_0), (.slice pa0_1 (a0_1).length ca0_1), (.slice pa0_2 (a0_2).length ca0_2), (i64 a0_3), (.slice py18 (v15).length cy18), (.slice py33 (v30).length cy33)] from rfl) Res.nil) ⟨_, rfl, ⟨[(i64 a0_0)], [(.slice pa0_1 (a0_1).length ca0_1), (.slice pa0_2 (a0_2).length ca0_2), (i64 a0_3), (.slice py18 (v15).length cy18), (.slice py33 (v30).length cy33)], rfl, rfl, ⟨[(.slice pa0_1 (a0_1).length ca0_1)], [(.slice pa0_2 (a0_2).length ca0_2), (i64 a0_3), (.slice py18 (v15).length cy18), (.slice py33 (v30).length cy33)], rfl, ⟨_, _, rfl, (RowF.mono lb38 ra0_1)⟩, ⟨[(.slice pa0_2 (a0_2).length ca0_2)], [(i64 a0_3), (.slice py18 (v15).length cy18), (.slice py33 (v30).length cy33)], rfl, ⟨_, _, rfl, (RowF.mono lb38 ra0_2)⟩, ⟨[(i64 a0_3)], [(.slice py18 (v15).length cy18), (.slice py33 (v30).length cy33)], rfl, rfl, ⟨[(.slice py18 (v15).length cy18)], [(.slice py33 (v30).length cy33)], rfl, ⟨_, _, rfl, (RowF.mono lz40 ry18)⟩, ⟨_, _, rfl, (RowF.mono lz42 ry33)⟩⟩⟩⟩⟩⟩⟩
end Go.Hx.V

/- Functions of the program come to that. -/
namespace Go.Hx.V
open Go.Hx
set_option linter.unusedVariables false
set_option maxRecDepth 20000
set_option maxHeartbeats 4000000
attribute [local irreducible] W R C thenH inBlockH
theorem ct56 (N : Nat) {a0_0 : Int} {a0_1 : (List (Int × Int))} {a0_2 : (List (Int × Int × Int))} {a0_3 : Int} {r : Int} (hF : sf56 N a0_0 a0_1 a0_2 a0_3 = some r) {fl : Nat} {h0 : Tr HBlk} {n0 : Nat} {F0 : PH} (hd : D h0 n0) (hs : F0.sub h0) {pa0_1 : Option (Nat × Nat)} {ca0_1 : Nat} {pa0_2 : Option (Nat × Nat)} {ca0_2 : Nat} (ra0_1 : RowF (rP rI rI) 2 F0 pa0_1 ca0_1 a0_1) (ra0_2 : RowF (rP rI (rP rI rI)) 3 F0 pa0_2 ca0_2 a0_2) : C LW fl 56 [(.agg [(i64 a0_0), (.slice pa0_1 (a0_1).length ca0_1), (.slice pa0_2 (a0_2).length ca0_2), (i64 a0_3)])] ⟨h0, n0⟩ (KS (i64 r) n0 h0) := by
  unfold sf56 at hF
  refine in_cT hd hs lw56 rfl rfl (by rfl) (fun st T hT => ?_)
  have hfl : n0 ≤ n0 := Nat.le_refl n0
  have t0 := hT 0 _ rfl
  dsimp only [L56]
  refine w_seq ?_
  refine w_reg ?_
  refine v_box st (fun b1 h2 n3 st => ?_)
  refine v_move ?_
  refine r_nil ?_
  refine th_n ?_
  obtain ⟨y11, hA12, hF⟩ := bnd_some hF
  refine w_cutD (fun T ds17 h nx => ∃ u, y11 = (.inr u) ∧ ∃ (F17 : PH), ds17 = [] ∧ PH.le F0 F17 ∧ St n0 h0 F0 F17 h nx [.bx b1 [(i64 a0_0), (.slice pa0_1 (a0_1).length ca0_1), (.slice pa0_2 (a0_2).length ca0_2), (i64 a0_3)]] ∧ T.get 1 = some (.ptr (some (b1, 0)))) ?_ (fun T ds17 h nx hp => ?_)
  · have hK13 := hF
    have hF := hA12
    obtain ⟨y19, hA20, hF⟩ := bnd_some hF
    refine w_cutD (fun T ds22 h nx => ∃ (F22 : PH), ds22 = [] ∧ PH.le F0 F22 ∧ St n0 h0 F0 F22 h nx [.bx b1 [(i64 a0_0), (.slice pa0_1 (a0_1).length ca0_1), (.slice pa0_2 (a0_2).length ca0_2), (i64 a0_3)]] ∧ T.get 1 = some (.ptr (some (b1, 0))) ∧ T.get 16 = some (.bool y19)) ?_ (fun T ds22 h nx hp => ?_)
    · have hK21 := hF
      have hF := hA20
      refine w_reg ?_
      refine v_fa ?_
      refine v_ld1 (st.at (i := 0) rfl).2.2 rfl ?_
      refine v_len ?_
      refine v_gtr ?_
      refine v_move ?_
      rcases Bool.eq_false_or_eq_true (decide ((8 : Int) < ((a0_1).length : Int))) with hb23 | hb23
      · have hF := bif_t hb23 hF
        refine g_skip hb23 ?_
        refine g_skip hb23 ?_
        refine g_skip hb23 ?_
        refine g_skip hb23 ?_
        refine v_pick hb23 ?_
        refine r_nil ?_
        obtain rfl := inj hF
        refine thn ⟨rfl, ?_⟩
        dsimp only
        exact ⟨F0, rfl, (PH.le.refl _), st, (by repeat first | exact ge_h | refine ge_m rfl ?_ | assumption), (by repeat first | exact ge_h | refine ge_m rfl ?_ | assumption)⟩
      · have hF := bif_f hb23 hF
        refine g_take hb23 (v_fa ?_)
        refine g_take hb23 (v_ld1 (st.at (i := 0) rfl).2.2 rfl ?_)
        refine g_take hb23 (v_len ?_)
        refine g_take hb23 (v_gtr ?_)
        refine v_pick' hb23 ?_
        refine r_nil ?_
        obtain rfl := inj hF
        refine thn ⟨rfl, ?_⟩
        dsimp only
        exact ⟨F0, rfl, (PH.le.refl _), st, (by repeat first | exact ge_h | refine ge_m rfl ?_ | assumption), (by repeat first | exact ge_h | refine ge_m rfl ?_ | assumption)⟩
    · obtain ⟨F22, rfl, le22, st, t1, t16⟩ := hp
      refine v_cond (fun hb24 => ?_) (fun hb24 => ?_)
      · have hF := bif_t hb24 hF
        refine w_seq ?_
        refine w_reg ?_
        refine v_move ?_
        refine r_nil ?_
        refine th_n ?_
        refine w_ret ?_
        obtain rfl := inj hF
        have hF := hK13
        have hF := sel_l hF
        refine th_r ?_
        obtain rfl := inj hF
        exact end_s st (Res.t (by repeat first | exact ge_h | refine ge_m rfl ?_ | assumption) Res.nil) rfl rfl
      · have hF := bif_f hb24 hF
        refine w_skip ?_
        obtain rfl := inj hF
        refine thn ⟨rfl, _, rfl, ?_⟩
        dsimp only
        exact ⟨F22, rfl, le22, st, (by repeat first | exact ge_h | refine ge_m rfl ?_ | assumption)⟩
  · obtain ⟨w16, rfl, F17, rfl, le17, st, t1⟩ := hp
    have hF := sel_r hF
    obtain ⟨y53, hA54, hF⟩ := bnd_some hF
    refine w_cutD (fun T ds59 h nx => ∃ u, y53 = (.inr u) ∧ ∃ (F59 : PH), ds59 = [] ∧ PH.le F17 F59 ∧ St n0 h0 F0 F59 h nx [.bx b1 [(i64 a0_0), (.slice pa0_1 (a0_1).length ca0_1), (.slice pa0_2 (a0_2).length ca0_2), (i64 a0_3)]] ∧ T.get 1 = some (.ptr (some (b1, 0)))) ?_ (fun T ds59 h nx hp => ?_)
    · have hK55 := hF
      have hF := hA54
      obtain ⟨y71, hA72, hF⟩ := bnd_some hF
      refine w_cutD (fun T ds74 h nx => ∃ (F74 : PH), ds74 = [] ∧ PH.le F17 F74 ∧ St n0 h0 F0 F74 h nx [.bx b1 [(i64 a0_0), (.slice pa0_1 (a0_1).length ca0_1), (.slice pa0_2 (a0_2).length ca0_2), (i64 a0_3)]] ∧ T.get 1 = some (.ptr (some (b1, 0))) ∧ T.get 46 = some (.bool y71)) ?_ (fun T ds74 h nx hp => ?_)
      · have hK73 := hF
        have hF := hA72
        refine w_reg ?_
        refine v_fa ?_
        refine v_ld1 (st.at (i := 0) rfl).2.2 rfl ?_
        obtain ⟨v75, e76, hF⟩ := bnd_some hF
        refine v_call st (ct24 N e76 st.d st.sub ) (fun n77 st => ?_)
        refine v_not ?_
        refine v_move ?_
        rcases Bool.eq_false_or_eq_true (!v75) with hb78 | hb78
        · have hF := bif_t hb78 hF
          refine g_skip hb78 ?_
          refine g_skip hb78 ?_
          refine g_skip hb78 ?_
          refine g_skip hb78 ?_
          refine v_pick hb78 ?_
          refine v_move ?_
          refine g_skip rfl ?_
          refine g_skip rfl ?_
          refine g_skip rfl ?_
          refine g_skip rfl ?_
          refine v_pick rfl ?_
          refine v_move ?_
          refine g_skip rfl ?_
          refine g_skip rfl ?_
          refine g_skip rfl ?_
          refine g_skip rfl ?_
          refine v_pick rfl ?_
          refine v_move ?_
          refine g_skip rfl ?_
          refine g_skip rfl ?_
          refine g_skip rfl ?_
          refine g_skip rfl ?_
          refine g_skip rfl ?_
          refine g_skip rfl ?_
          refine v_pick rfl ?_
          refine r_nil ?_
          obtain rfl := inj hF
          refine thn ⟨rfl, ?_⟩
          dsimp only
          exact ⟨F17, rfl, (PH.le.refl _), st, (by repeat first | exact ge_h | refine ge_m rfl ?_ | assumption), (by repeat first | exact ge_h | refine ge_m rfl ?_ | assumption)⟩
        · have hF := bif_f hb78 hF
          refine g_take hb78 (v_fa ?_)
          refine g_take hb78 (v_ld1 (st.at (i := 0) rfl).2.2 rfl ?_)
          obtain ⟨v79, e80, hF⟩ := bnd_some hF
          refine g_take hb78 (v_call st (ct24 N e80 st.d st.sub ) (fun n81 st => ?_))
          refine g_take hb78 (v_not ?_)
          refine v_pick' hb78 ?_
          refine v_move ?_
          rcases Bool.eq_false_or_eq_true (!v79) with hb82 | hb82
          · have hF := bif_t hb82 hF
            refine g_skip hb82 ?_
            refine g_skip hb82 ?_
            refine g_skip hb82 ?_
            refine g_skip hb82 ?_
            refine v_pick hb82 ?_
            refine v_move ?_
            refine g_skip rfl ?_
            refine g_skip rfl ?_
            refine g_skip rfl ?_
            refine g_skip rfl ?_
            refine v_pick rfl ?_
            refine v_move ?_
            refine g_skip rfl ?_
            refine g_skip rfl ?_
            refine g_skip rfl ?_
            refine g_skip rfl ?_
            refine g_skip rfl ?_
            refine g_skip rfl ?_
            refine v_pick rfl ?_
            refine r_nil ?_
            obtain rfl := inj hF
            refine thn ⟨rfl, ?_⟩
            dsimp only
            exact ⟨F17, rfl, (PH.le.refl _), st, (by repeat first | exact ge_h | refine ge_m rfl ?_ | assumption), (by repeat first | exact ge_h | refine ge_m rfl ?_ | assumption)⟩
          · have hF := bif_f hb82 hF
            refine g_take hb82 (v_fa ?_)
            refine g_take hb82 (v_ld1 (st.at (i := 0) rfl).2.2 rfl ?_)
            refine g_take hb82 (v_len ?_)
            refine g_take hb82 (v_eqi ?_)
            refine v_pick' hb82 ?_
            refine v_move ?_
            rcases Bool.eq_false_or_eq_true (decide (((a0_1).length : Int) = (0 : Int))) with hb83 | hb83
            · have hF := bif_t hb83 hF
              refine g_skip hb83 ?_
              refine g_skip hb83 ?_
              refine g_skip hb83 ?_
              refine g_skip hb83 ?_
              refine v_pick hb83 ?_
              refine v_move ?_
              refine g_skip rfl ?_
              refine g_skip rfl ?_
              refine g_skip rfl ?_
              refine g_skip rfl ?_
              refine g_skip rfl ?_
              refine g_skip rfl ?_
              refine v_pick rfl ?_
              refine r_nil ?_
              obtain rfl := inj hF
              refine thn ⟨rfl, ?_⟩
              dsimp only
              exact ⟨F17, rfl, (PH.le.refl _), st, (by repeat first | exact ge_h | refine ge_m rfl ?_ | assumption), (by repeat first | exact ge_h | refine ge_m rfl ?_ | assumption)⟩
            · have hF := bif_f hb83 hF
              refine g_take hb83 (v_fa ?_)
              refine g_take hb83 (v_ld1 (st.at (i := 0) rfl).2.2 rfl ?_)
              refine g_take hb83 (v_len ?_)
              refine g_take hb83 (v_eqi ?_)
              refine v_pick' hb83 ?_
              refine v_move ?_
              rcases Bool.eq_false_or_eq_true (decide (((a0_2).length : Int) = (0 : Int))) with hb84 | hb84
              · have hF := bif_t hb84 hF
                refine g_skip hb84 ?_
                refine g_skip hb84 ?_
                refine g_skip hb84 ?_
                refine g_skip hb84 ?_
                refine g_skip hb84 ?_
                refine g_skip hb84 ?_
                refine v_pick hb84 ?_
                refine r_nil ?_
                obtain rfl := inj hF
                refine thn ⟨rfl, ?_⟩
                dsimp only
                exact ⟨F17, rfl, (PH.le.refl _), st, (by repeat first | exact ge_h | refine ge_m rfl ?_ | assumption), (by repeat first | exact ge_h | refine ge_m rfl ?_ | assumption)⟩
              · have hF := bif_f hb84 hF
                refine g_take hb84 (v_fa ?_)
                refine g_take hb84 (v_ld1 (st.at (i := 0) rfl).2.2 rfl ?_)
                obtain ⟨n85, x85, z85, l85, g85, hF⟩ := ix_some hF
                obtain ⟨b85, o85, s85, j85, r85, e85, f85, k85, ⟨_, _, rfl, rfl, ⟨_, _, rfl, rfl, rfl⟩⟩⟩ := RowF.get ra0_2 g85
                refine g_take hb84 (v_ixp e85 z85 l85 ?_)
                refine g_take hb84 (v_fa ?_)
                refine g_take hb84 (v_ld1 (st.sub _ _ (le17 _ _ f85)) (take_at (j := 0) k85 rfl) ?_)
                refine g_take hb84 (v_nei ?_)
                refine v_pick' hb84 ?_
                refine r_nil ?_
                obtain rfl := inj hF
                refine thn ⟨rfl, ?_⟩
                dsimp only
                exact ⟨F17, rfl, (PH.le.refl _), st, (by repeat first | exact ge_h | refine ge_m rfl ?_ | assumption), (by repeat first | exact ge_h | refine ge_m rfl ?_ | assumption)⟩
      · obtain ⟨F74, rfl, le74, st, t1, t46⟩ := hp
        have le86 := PH.le.trans le17 le74
        refine v_cond (fun hb87 => ?_) (fun hb87 => ?_)
        · have hF := bif_t hb87 hF
          refine w_seq ?_
          refine w_reg ?_
          refine v_move ?_
          refine r_nil ?_
          refine th_n ?_
          refine w_ret ?_
          obtain rfl := inj hF
          have hF := hK55
          have hF := sel_l hF
          refine th_r ?_
          obtain rfl := inj hF
          exact end_s st (Res.t (by repeat first | exact ge_h | refine ge_m rfl ?_ | assumption) Res.nil) rfl rfl
        · have hF := bif_f hb87 hF
          refine w_skip ?_
          obtain rfl := inj hF
          refine thn ⟨rfl, _, rfl, ?_⟩
          dsimp only
          exact ⟨F74, rfl, le74, st, (by repeat first | exact ge_h | refine ge_m rfl ?_ | assumption)⟩
    · obtain ⟨w58, rfl, F59, rfl, le59, st, t1⟩ := hp
      have hF := sel_r hF
      have le89 := PH.le.trans le17 le59
      refine w_seq ?_
      refine w_seq ?_
      refine w_reg ?_
      refine v_move ?_
      refine r_nil ?_
      refine th_n ?_
      refine w_block ?_
      obtain ⟨y139, hy, hF⟩ := bnd_some hF
      refine v_loopD (sf56_L1 N a0_2) (fun x90 T ds91 h nx => ∃ (F91 : PH), ds91 = [] ∧ PH.le F59 F91 ∧ St n0 h0 F0 F91 h nx [.bx b1 [(i64 a0_0), (.slice pa0_1 (a0_1).length ca0_1), (.slice pa0_2 (a0_2).length ca0_2), (i64 a0_3)]] ∧ T.get 1 = some (.ptr (some (b1, 0))) ∧ T.get 3 = some (i64 x90)) (fun y e a σ => (∃ u, y = (.inl u) ∧ e = .ret ∧ a.nt = 124 ∧ ∃ (F141 : PH), a.defers = [] ∧ PH.le F59 F141 ∧ St n0 h0 F0 F141 σ.h σ.nx [.bx b1 [(i64 a0_0), (.slice pa0_1 (a0_1).length ca0_1), (.slice pa0_2 (a0_2).length ca0_2), (i64 a0_3)]] ∧ a.tmps.get 2 = some (i64 u)) ∨ (∃ u, y = (.inr u) ∧ e = .exit 0 ∧ a.nt = 124 ∧ ∃ (F143 : PH), a.defers = [] ∧ PH.le F59 F143 ∧ St n0 h0 F0 F143 σ.h σ.nx [.bx b1 [(i64 a0_0), (.slice pa0_1 (a0_1).length ca0_1), (.slice pa0_2 (a0_2).length ca0_2), (i64 a0_3)]] ∧ a.tmps.get 1 = some (.ptr (some (b1, 0))))) (fun x90 T ds91 h nx s hp hF => ?_) N _ y139 _ _ _ _ hy ⟨F59, rfl, (PH.le.refl _), st, (by repeat first | exact ge_h | refine ge_m rfl ?_ | assumption), (by repeat first | exact ge_h | refine ge_m rfl ?_ | assumption)⟩ (fun e a σ hne hq => ?_)
      · obtain ⟨F91, rfl, le91, st, t1, t3⟩ := hp
        have le92 := PH.le.trans le89 le91
        have le93 := PH.le.trans le59 le91
        unfold sf56_L1 at hF
        unfold L56w2
        refine w_seq ?_
        refine w_seq ?_
        refine w_reg ?_
        refine v_move ?_
        refine v_fa ?_
        refine v_ld1 (st.at (i := 0) rfl).2.2 rfl ?_
        refine v_len ?_
        refine v_lss ?_
        refine r_nil ?_
        refine th_n ?_
        refine v_cond (fun hb144 => ?_) (fun hb144 => ?_)
        · have hF := bif_t hb144 hF
          refine w_skip ?_
          refine th_n ?_
          refine w_seq ?_
          refine w_block ?_
          refine w_seq ?_
          refine w_reg ?_
          refine v_fa ?_
          refine v_ld1 (st.at (i := 0) rfl).2.2 rfl ?_
          refine v_move ?_
          obtain ⟨n145, x145, z145, l145, g145, hF⟩ := ix_some hF
          obtain ⟨b145, o145, s145, j145, r145, e145, f145, k145, ⟨_, _, rfl, rfl, ⟨_, _, rfl, rfl, rfl⟩⟩⟩ := RowF.get ra0_2 g145
          refine v_ixp e145 z145 l145 ?_
          refine v_ldn (st.sub _ _ (le92 _ _ f145)) k145 ?_
          refine v_alloc st (fun b146 h147 n148 st => ?_)
          refine v_st (cs' := [(i64 x145.1), (i64 x145.2.1), (i64 x145.2.2)]) st 1 rfl rfl rfl rfl hfl (fun h149 st => ?_)
          refine r_nil ?_
          refine th_n ?_
          obtain ⟨y165, hA166, hF⟩ := bnd_some hF
          refine w_cutD (fun T ds168 h nx => ∃ (F168 : PH), ds168 = [] ∧ PH.le F91 F168 ∧ St n0 h0 F0 F168 h nx [.bx b1 [(i64 a0_0), (.slice pa0_1 (a0_1).length ca0_1), (.slice pa0_2 (a0_2).length ca0_2), (i64 a0_3)], .bx b146 [(i64 x145.1), (i64 x145.2.1), (i64 x145.2.2)]] ∧ T.get 1 = some (.ptr (some (b1, 0))) ∧ T.get 3 = some (i64 x90) ∧ T.get 84 = some (.bool y165)) ?_ (fun T ds168 h nx hp => ?_)
          · have hK167 := hF
            have hF := hA166
            refine w_drawV (Nat.le_trans hfl st.ext.le) (fun dw => ?_)
            refine y_pure st.d dw (fun hm vw => v_fa pr_nil) ?_
            refine y_pure st.d dw (fun hm vw => v_ld1 (vw.bx (st.at (i := 1) rfl)) rfl pr_nil) ?_
            obtain ⟨v169, e170, hF⟩ := bnd_some hF
            refine y_flat st.d dw (fun hm vw => u_call (ct24 N e170 vw.d (vw.sub st) ) (fun n' hn' => pf_nil hn')) (fun n171 hn' dw => ?_)
            refine y_pure st.d dw (fun hm vw => v_not pr_nil) ?_
            refine y_pure st.d dw (fun hm vw => v_move pr_nil) ?_
            rcases Bool.eq_false_or_eq_true (!v169) with hb172 | hb172
            · have hF := bif_t hb172 hF
              refine y_pure st.d dw (fun hm vw => g_skip hb172 pr_nil) ?_
              refine y_pure st.d dw (fun hm vw => g_skip hb172 pr_nil) ?_
              refine y_pure st.d dw (fun hm vw => g_skip hb172 pr_nil) ?_
              refine y_pure st.d dw (fun hm vw => g_skip hb172 pr_nil) ?_
              refine y_pure st.d dw (fun hm vw => v_pick hb172 pr_nil) ?_
              refine y_pure st.d dw (fun hm vw => v_move pr_nil) ?_
              refine y_pure st.d dw (fun hm vw => g_skip rfl pr_nil) ?_
              refine y_pure st.d dw (fun hm vw => g_skip rfl pr_nil) ?_
              refine y_pure st.d dw (fun hm vw => g_skip rfl pr_nil) ?_
              refine y_pure st.d dw (fun hm vw => g_skipu pr_nil) ?_
              refine y_pure st.d dw (fun hm vw => g_skipu pr_nil) ?_
              refine y_pure st.d dw (fun hm vw => g_skipu pr_nil) ?_
              refine y_pure st.d dw (fun hm vw => g_skipu pr_nil) ?_
              refine y_pure st.d dw (fun hm vw => g_skipu pr_nil) ?_
              refine y_pure st.d dw (fun hm vw => g_skipu pr_nil) ?_
              refine y_pure st.d dw (fun hm vw => g_skipu pr_nil) ?_
              refine y_pure st.d dw (fun hm vw => g_skipu pr_nil) ?_
              refine y_pure st.d dw (fun hm vw => g_skipu pr_nil) ?_
              refine y_end st.d dw rfl (fun h173 ex vs => ?_)
              have st := st.ext1 ex
              refine g_skipu ?_
              refine g_skip rfl ?_
              refine v_pick rfl ?_
              refine r_nil ?_
              obtain rfl := inj hF
              refine thn ⟨rfl, ?_⟩
              dsimp only
              exact ⟨F91, rfl, (PH.le.refl _), st, (by repeat first | exact ge_h | refine ge_m rfl ?_ | assumption), (by repeat first | exact ge_h | refine ge_m rfl ?_ | assumption), (by repeat first | exact ge_h | refine ge_m rfl ?_ | assumption)⟩
            · have hF := bif_f hb172 hF
              refine y_pure st.d dw (fun hm vw => g_take hb172 (v_fa pr_nil)) ?_
              refine y_pure st.d dw (fun hm vw => g_take hb172 (v_ldn (vs := [(i64 x145.2.1), (i64 x145.2.2)]) (vw.bx (st.at (i := 1) rfl)) rfl pr_nil)) ?_
              obtain ⟨v174, e175, hF⟩ := bnd_some hF
              refine y_flat st.d dw (fun hm vw => g_take hb172 (u_call (ct86 N e175 vw.d (vw.sub st) ) (fun n' hn' => pf_nil hn'))) (fun n176 hn' dw => ?_)
              refine y_pure st.d dw (fun hm vw => g_take hb172 (v_not pr_nil)) ?_
              refine y_pure st.d dw (fun hm vw => v_pick' hb172 pr_nil) ?_
              refine y_pure st.d dw (fun hm vw => v_move pr_nil) ?_
              rcases Bool.eq_false_or_eq_true (!v174) with hb177 | hb177
              · have hF := bif_t hb177 hF
                refine y_pure st.d dw (fun hm vw => g_skip hb177 pr_nil) ?_
                refine y_pure st.d dw (fun hm vw => g_skip hb177 pr_nil) ?_
                refine y_pure st.d dw (fun hm vw => g_skip hb177 pr_nil) ?_
                refine y_pure st.d dw (fun hm vw => g_skipu pr_nil) ?_
                refine y_pure st.d dw (fun hm vw => g_skipu pr_nil) ?_
                refine y_pure st.d dw (fun hm vw => g_skipu pr_nil) ?_
                refine y_pure st.d dw (fun hm vw => g_skipu pr_nil) ?_
                refine y_pure st.d dw (fun hm vw => g_skipu pr_nil) ?_
                refine y_pure st.d dw (fun hm vw => g_skipu pr_nil) ?_
                refine y_pure st.d dw (fun hm vw => g_skipu pr_nil) ?_
                refine y_pure st.d dw (fun hm vw => g_skipu pr_nil) ?_
                refine y_pure st.d dw (fun hm vw => g_skipu pr_nil) ?_
                refine y_end st.d dw rfl (fun h178 ex vs => ?_)
                have st := st.ext1 ex
                refine g_skipu ?_
                refine g_skip hb177 ?_
                refine v_pick hb177 ?_
                refine r_nil ?_
                obtain rfl := inj hF
                refine thn ⟨rfl, ?_⟩
                dsimp only
                exact ⟨F91, rfl, (PH.le.refl _), st, (by repeat first | exact ge_h | refine ge_m rfl ?_ | assumption), (by repeat first | exact ge_h | refine ge_m rfl ?_ | assumption), (by repeat first | exact ge_h | refine ge_m rfl ?_ | assumption)⟩
              · have hF := bif_f hb177 hF
                refine y_pure st.d dw (fun hm vw => g_take hb177 (v_move pr_nil)) ?_
                refine y_pure st.d dw (fun hm vw => g_take hb177 (v_gtr pr_nil)) ?_
                refine y_pure st.d dw (fun hm vw => g_take hb177 (v_move pr_nil)) ?_
                rcases Bool.eq_false_or_eq_true (decide ((0 : Int) < x90)) with hb179 | hb179
                · have hF := bif_t hb179 hF
                  refine y_pure st.d dw (fun hm vw => g_take hb179 (v_fa pr_nil)) ?_
                  refine y_pure st.d dw (fun hm vw => g_take hb179 (v_ld1 (vw.bx (st.at (i := 1) rfl)) rfl pr_nil)) ?_
                  refine y_pure st.d dw (fun hm vw => g_take hb179 (v_fa pr_nil)) ?_
                  refine y_pure st.d dw (fun hm vw => g_take hb179 (v_ld1 (vw.bx (st.at (i := 0) rfl)) rfl pr_nil)) ?_
                  refine y_pure st.d dw (fun hm vw => g_take hb179 (v_move pr_nil)) ?_
                  obtain ⟨q180, hF⟩ := ck_some hF
                  refine y_pure st.d dw (fun hm vw => g_take hb179 (v_sub q180 pr_nil)) ?_
                  obtain ⟨n181, x181, z181, l181, g181, hF⟩ := ix_some hF
                  obtain ⟨b181, o181, s181, j181, r181, e181, f181, k181, ⟨_, _, rfl, rfl, ⟨_, _, rfl, rfl, rfl⟩⟩⟩ := RowF.get ra0_2 g181
                  refine y_pure st.d dw (fun hm vw => g_take hb179 (v_ixp e181 z181 l181 pr_nil)) ?_
                  refine y_pure st.d dw (fun hm vw => g_take hb179 (v_fa pr_nil)) ?_
                  refine y_pure st.d dw (fun hm vw => g_take hb179 (v_ld1 (vw.fz st (le92 _ _ f181)) (take_at (j := 0) k181 rfl) pr_nil)) ?_
                  refine y_end st.d dw rfl (fun h182 ex vs => ?_)
                  have st := st.ext1 ex
                  refine g_take hb179 (v_leq ?_)
                  refine g_take hb177 (v_pick hb179 ?_)
                  refine v_pick' hb177 ?_
                  refine r_nil ?_
                  obtain rfl := inj hF
                  refine thn ⟨rfl, ?_⟩
                  dsimp only
                  exact ⟨F91, rfl, (PH.le.refl _), st, (by repeat first | exact ge_h | refine ge_m rfl ?_ | assumption), (by repeat first | exact ge_h | refine ge_m rfl ?_ | assumption), (by repeat first | exact ge_h | refine ge_m rfl ?_ | assumption)⟩
                · have hF := bif_f hb179 hF
                  refine y_pure st.d dw (fun hm vw => g_skip hb179 pr_nil) ?_
                  refine y_pure st.d dw (fun hm vw => g_skip hb179 pr_nil) ?_
                  refine y_pure st.d dw (fun hm vw => g_skip hb179 pr_nil) ?_
                  refine y_pure st.d dw (fun hm vw => g_skip hb179 pr_nil) ?_
                  refine y_pure st.d dw (fun hm vw => g_skip hb179 pr_nil) ?_
                  refine y_pure st.d dw (fun hm vw => g_skip hb179 pr_nil) ?_
                  refine y_pure st.d dw (fun hm vw => g_skip hb179 pr_nil) ?_
                  refine y_pure st.d dw (fun hm vw => g_skip hb179 pr_nil) ?_
                  refine y_pure st.d dw (fun hm vw => g_skip hb179 pr_nil) ?_
                  refine y_end st.d dw rfl (fun h183 ex vs => ?_)
                  have st := st.ext1 ex
                  refine g_skip hb179 ?_
                  refine g_take hb177 (v_pick' hb179 ?_)
                  refine v_pick' hb177 ?_
                  refine r_nil ?_
                  obtain rfl := inj hF
                  refine thn ⟨rfl, ?_⟩
                  dsimp only
                  exact ⟨F91, rfl, (PH.le.refl _), st, (by repeat first | exact ge_h | refine ge_m rfl ?_ | assumption), (by repeat first | exact ge_h | refine ge_m rfl ?_ | assumption), (by repeat first | exact ge_h | refine ge_m rfl ?_ | assumption)⟩
          · obtain ⟨F168, rfl, le168, st, t1, t3, t84⟩ := hp
            have le184 := PH.le.trans le92 le168
            have le185 := PH.le.trans le93 le168
            have le186 := PH.le.trans le91 le168
            refine v_cond (fun hb187 => ?_) (fun hb187 => ?_)
            · have hF := bif_t hb187 hF
              refine w_seq ?_
              refine w_reg ?_
              refine v_move ?_
              refine r_nil ?_
              refine th_n ?_
              refine w_ret ?_
              refine ib_r ?_
              refine th_r ?_
              refine th_r ?_
              refine ⟨_, (inj hF).symm, .inl ⟨_, rfl, rfl, rfl, ?_⟩⟩
              dsimp only
              exact ⟨F168, rfl, le186, (st.drop (by first | exact List.Sublist.refl _ | (repeat first | exact List.nil_sublist _ | refine List.Sublist.cons_cons _ ?_ | refine List.Sublist.cons _ ?_))), (by repeat first | exact ge_h | refine ge_m rfl ?_ | assumption)⟩
            · have hF := bif_f hb187 hF
              refine w_skip ?_
              refine ib_n ?_
              refine th_n ?_
              refine w_reg ?_
              refine v_move ?_
              obtain ⟨q188, hF⟩ := ck_some hF
              refine v_add q188 ?_
              refine v_move ?_
              refine r_nil ?_
              refine thn ⟨_, (inj hF).symm, rfl, ?_⟩
              dsimp only
              exact ⟨F168, rfl, le186, (st.drop (by first | exact List.Sublist.refl _ | (repeat first | exact List.nil_sublist _ | refine List.Sublist.cons_cons _ ?_ | refine List.Sublist.cons _ ?_))), (by repeat first | exact ge_h | refine ge_m rfl ?_ | assumption), (by repeat first | exact ge_h | refine ge_m rfl ?_ | assumption)⟩
        · have hF := bif_f hb144 hF
          refine w_exit ?_
          refine th_e ?_
          refine th_e ?_
          refine ⟨_, (inj hF).symm, .inr (⟨_, rfl, rfl, rfl, ?_⟩)⟩
          dsimp only
          exact ⟨F91, rfl, le91, st, (by repeat first | exact ge_h | refine ge_m rfl ?_ | assumption)⟩
      · rcases hq with hq | hq
        · obtain ⟨N9, T, ds141⟩ := a
          obtain ⟨h191, n192⟩ := σ
          obtain ⟨w140, rfl, rfl, e1, F141, e2, le141, st, t2⟩ := hq
          dsimp only at e1 e2
          subst e1
          subst e2
          dsimp only at st t2
          have le189 := PH.le.trans le89 le141
          have le190 := PH.le.trans le59 le141
          have hF := sel_l hF
          refine ib_r ?_
          refine th_r ?_
          obtain rfl := inj hF
          exact end_s st (Res.t (by repeat first | exact ge_h | refine ge_m rfl ?_ | assumption) Res.nil) rfl rfl
        · obtain ⟨N9, T, ds143⟩ := a
          obtain ⟨h195, n196⟩ := σ
          obtain ⟨w142, rfl, rfl, e1, F143, e2, le143, st, t1⟩ := hq
          dsimp only at e1 e2
          subst e1
          subst e2
          dsimp only at st t1
          have le193 := PH.le.trans le89 le143
          have le194 := PH.le.trans le59 le143
          have hF := sel_r hF
          refine ib_e ?_
          refine th_n ?_
          refine w_seq ?_
          refine w_seq ?_
          refine w_reg ?_
          refine v_move ?_
          refine r_nil ?_
          refine th_n ?_
          refine w_block ?_
          obtain ⟨y248, hy, hF⟩ := bnd_some hF
          refine v_loopD (sf56_L3 N a0_0 a0_1 a0_2) (fun x197 T ds198 h nx => ∃ (F198 : PH), ds198 = [] ∧ PH.le F143 F198 ∧ St n0 h0 F0 F198 h nx [.bx b1 [(i64 a0_0), (.slice pa0_1 (a0_1).length ca0_1), (.slice pa0_2 (a0_2).length ca0_2), (i64 a0_3)]] ∧ T.get 1 = some (.ptr (some (b1, 0))) ∧ T.get 5 = some (i64 x197)) (fun y e a σ => (∃ u, y = (.inl u) ∧ e = .ret ∧ a.nt = 124 ∧ ∃ (F250 : PH), a.defers = [] ∧ PH.le F143 F250 ∧ St n0 h0 F0 F250 σ.h σ.nx [.bx b1 [(i64 a0_0), (.slice pa0_1 (a0_1).length ca0_1), (.slice pa0_2 (a0_2).length ca0_2), (i64 a0_3)]] ∧ a.tmps.get 2 = some (i64 u)) ∨ (∃ u, y = (.inr u) ∧ e = .exit 2 ∧ a.nt = 124 ∧ ∃ (F252 : PH), a.defers = [] ∧ PH.le F143 F252 ∧ St n0 h0 F0 F252 σ.h σ.nx [.bx b1 [(i64 a0_0), (.slice pa0_1 (a0_1).length ca0_1), (.slice pa0_2 (a0_2).length ca0_2), (i64 a0_3)]])) (fun x197 T ds198 h nx s hp hF => ?_) N _ y248 _ _ _ _ hy ⟨F143, rfl, (PH.le.refl _), st, (by repeat first | exact ge_h | refine ge_m rfl ?_ | assumption), (by repeat first | exact ge_h | refine ge_m rfl ?_ | assumption)⟩ (fun e a σ hne hq => ?_)
          · obtain ⟨F198, rfl, le198, st, t1, t5⟩ := hp
            have le199 := PH.le.trans le193 le198
            have le200 := PH.le.trans le194 le198
            have le201 := PH.le.trans le143 le198
            unfold sf56_L3 at hF
            unfold L56w1
            refine w_seq ?_
            refine w_seq ?_
            refine w_reg ?_
            refine v_move ?_
            refine v_fa ?_
            refine v_ld1 (st.at (i := 0) rfl).2.2 rfl ?_
            refine v_len ?_
            refine v_lss ?_
            refine r_nil ?_
            refine th_n ?_
            refine v_cond (fun hb253 => ?_) (fun hb253 => ?_)
            · have hF := bif_t hb253 hF
              refine w_skip ?_
              refine th_n ?_
              refine w_seq ?_
              refine w_block ?_
              refine w_seq ?_
              refine w_seq ?_
              refine w_reg ?_
              refine v_fa ?_
              refine v_ld1 (st.at (i := 0) rfl).2.2 rfl ?_
              refine v_move ?_
              obtain ⟨n254, x254, z254, l254, g254, hF⟩ := ix_some hF
              obtain ⟨b254, o254, s254, j254, r254, e254, f254, k254, ⟨_, _, rfl, rfl, rfl⟩⟩ := RowF.get ra0_1 g254
              refine v_ixp e254 z254 l254 ?_
              refine v_ldn (st.sub _ _ (le199 _ _ f254)) k254 ?_
              obtain ⟨v255, e256, hF⟩ := bnd_some hF
              refine v_call st (ct86 N e256 st.d st.sub ) (fun n257 st => ?_)
              refine v_not ?_
              refine r_nil ?_
              refine th_n ?_
              refine v_cond (fun hb258 => ?_) (fun hb258 => ?_)
              · have hF := bif_t hb258 hF
                refine w_seq ?_
                refine w_reg ?_
                refine v_move ?_
                refine r_nil ?_
                refine th_n ?_
                refine w_ret ?_
                refine th_r ?_
                refine ib_r ?_
                refine th_r ?_
                refine th_r ?_
                refine ⟨_, (inj hF).symm, .inl ⟨_, rfl, rfl, rfl, ?_⟩⟩
                dsimp only
                exact ⟨F198, rfl, le198, st, (by repeat first | exact ge_h | refine ge_m rfl ?_ | assumption)⟩
              · have hF := bif_f hb258 hF
                refine w_skip ?_
                refine th_n ?_
                refine w_seq ?_
                refine w_reg ?_
                refine v_move ?_
                refine r_nil ?_
                refine th_n ?_
                refine w_block ?_
                obtain ⟨y273, hy, hF⟩ := bnd_some hF
                refine v_loopD (sf56_L2 a0_0 a0_1 a0_2 x197) (fun x259 T ds260 h nx => ∃ (F260 : PH), ds260 = [] ∧ PH.le F198 F260 ∧ St n0 h0 F0 F260 h nx [.bx b1 [(i64 a0_0), (.slice pa0_1 (a0_1).length ca0_1), (.slice pa0_2 (a0_2).length ca0_2), (i64 a0_3)]] ∧ T.get 1 = some (.ptr (some (b1, 0))) ∧ T.get 5 = some (i64 x197) ∧ T.get 6 = some (i64 x259)) (fun y e a σ => (∃ u, y = (.inl u) ∧ e = .ret ∧ a.nt = 124 ∧ ∃ (F275 : PH), a.defers = [] ∧ PH.le F198 F275 ∧ St n0 h0 F0 F275 σ.h σ.nx [.bx b1 [(i64 a0_0), (.slice pa0_1 (a0_1).length ca0_1), (.slice pa0_2 (a0_2).length ca0_2), (i64 a0_3)]] ∧ a.tmps.get 2 = some (i64 u)) ∨ (∃ u, y = (.inr u) ∧ e = .exit 4 ∧ a.nt = 124 ∧ ∃ (F277 : PH), a.defers = [] ∧ PH.le F198 F277 ∧ St n0 h0 F0 F277 σ.h σ.nx [.bx b1 [(i64 a0_0), (.slice pa0_1 (a0_1).length ca0_1), (.slice pa0_2 (a0_2).length ca0_2), (i64 a0_3)]] ∧ a.tmps.get 1 = some (.ptr (some (b1, 0))) ∧ a.tmps.get 5 = some (i64 x197))) (fun x259 T ds260 h nx s hp hF => ?_) N _ y273 _ _ _ _ hy ⟨F198, rfl, (PH.le.refl _), st, (by repeat first | exact ge_h | refine ge_m rfl ?_ | assumption), (by repeat first | exact ge_h | refine ge_m rfl ?_ | assumption), (by repeat first | exact ge_h | refine ge_m rfl ?_ | assumption)⟩ (fun e a σ hne hq => ?_)
                · obtain ⟨F260, rfl, le260, st, t1, t5, t6⟩ := hp
                  have le261 := PH.le.trans le199 le260
                  have le262 := PH.le.trans le200 le260
                  have le263 := PH.le.trans le201 le260
                  have le264 := PH.le.trans le198 le260
                  unfold sf56_L2 at hF
                  unfold L56w0
                  refine w_seq ?_
                  refine w_seq ?_
                  refine w_reg ?_
                  refine v_move ?_
                  refine v_fa ?_
                  refine v_ld1 (st.at (i := 0) rfl).2.2 rfl ?_
                  refine v_len ?_
                  refine v_lss ?_
                  refine r_nil ?_
                  refine th_n ?_
                  refine v_cond (fun hb278 => ?_) (fun hb278 => ?_)
                  · have hF := bif_t hb278 hF
                    refine w_skip ?_
                    refine th_n ?_
                    refine w_seq ?_
                    refine w_block ?_
                    refine w_seq ?_
                    refine w_drawV (Nat.le_trans hfl st.ext.le) (fun dw => ?_)
                    refine y_pure st.d dw (fun hm vw => v_fa pr_nil) ?_
                    refine y_pure st.d dw (fun hm vw => v_ld1 (vw.bx (st.at (i := 0) rfl)) rfl pr_nil) ?_
                    refine y_pure st.d dw (fun hm vw => v_fa pr_nil) ?_
                    refine y_pure st.d dw (fun hm vw => v_ld1 (vw.bx (st.at (i := 0) rfl)) rfl pr_nil) ?_
                    refine y_pure st.d dw (fun hm vw => v_move pr_nil) ?_
                    obtain ⟨n279, x279, z279, l279, g279, hF⟩ := ix_some hF
                    obtain ⟨b279, o279, s279, j279, r279, e279, f279, k279, ⟨_, _, rfl, rfl, rfl⟩⟩ := RowF.get ra0_1 g279
                    refine y_pure st.d dw (fun hm vw => v_ixp e279 z279 l279 pr_nil) ?_
                    refine y_pure st.d dw (fun hm vw => v_fa pr_nil) ?_
                    refine y_pure st.d dw (fun hm vw => v_ld1 (vw.fz st (le261 _ _ f279)) (take_at (j := 0) k279 rfl) pr_nil) ?_
                    obtain ⟨q280, hF⟩ := ck_some hF
                    refine y_pure st.d dw (fun hm vw => v_add q280 pr_nil) ?_
                    refine y_pure st.d dw (fun hm vw => v_fa pr_nil) ?_
                    refine y_pure st.d dw (fun hm vw => v_ld1 (vw.bx (st.at (i := 0) rfl)) rfl pr_nil) ?_
                    refine y_pure st.d dw (fun hm vw => v_move pr_nil) ?_
                    obtain ⟨n281, x281, z281, l281, g281, hF⟩ := ix_some hF
                    obtain ⟨b281, o281, s281, j281, r281, e281, f281, k281, ⟨_, _, rfl, rfl, ⟨_, _, rfl, rfl, rfl⟩⟩⟩ := RowF.get ra0_2 g281
                    refine y_pure st.d dw (fun hm vw => v_ixp e281 z281 l281 pr_nil) ?_
                    refine y_pure st.d dw (fun hm vw => v_fa pr_nil) ?_
                    refine y_pure st.d dw (fun hm vw => v_fa pr_nil) ?_
                    refine y_pure st.d dw (fun hm vw => v_ld1 (vw.fz st (le261 _ _ f281)) (take_at (j := 1) k281 rfl) pr_nil) ?_
                    refine y_end st.d dw rfl (fun h282 ex vs => ?_)
                    have st := st.ext1 ex
                    obtain ⟨q283, hF⟩ := ck_some hF
                    refine v_add q283 ?_
                    refine v_lss ?_
                    refine r_nil ?_
                    refine th_n ?_
                    refine v_cond (fun hb284 => ?_) (fun hb284 => ?_)
                    · have hF := bif_t hb284 hF
                      refine w_seq ?_
                      refine w_reg ?_
                      refine v_move ?_
                      refine r_nil ?_
                      refine th_n ?_
                      refine w_ret ?_
                      refine ib_r ?_
                      refine th_r ?_
                      refine th_r ?_
                      refine ⟨_, (inj hF).symm, .inl ⟨_, rfl, rfl, rfl, ?_⟩⟩
                      dsimp only
                      exact ⟨F260, rfl, le260, st, (by repeat first | exact ge_h | refine ge_m rfl ?_ | assumption)⟩
                    · have hF := bif_f hb284 hF
                      refine w_skip ?_
                      refine ib_n ?_
                      refine th_n ?_
                      refine w_reg ?_
                      refine v_move ?_
                      obtain ⟨q285, hF⟩ := ck_some hF
                      refine v_add q285 ?_
                      refine v_move ?_
                      refine r_nil ?_
                      refine thn ⟨_, (inj hF).symm, rfl, ?_⟩
                      dsimp only
                      exact ⟨F260, rfl, le260, st, (by repeat first | exact ge_h | refine ge_m rfl ?_ | assumption), (by repeat first | exact ge_h | refine ge_m rfl ?_ | assumption), (by repeat first | exact ge_h | refine ge_m rfl ?_ | assumption)⟩
                  · have hF := bif_f hb278 hF
                    refine w_exit ?_
                    refine th_e ?_
                    refine th_e ?_
                    refine ⟨_, (inj hF).symm, .inr (⟨_, rfl, rfl, rfl, ?_⟩)⟩
                    dsimp only
                    exact ⟨F260, rfl, le260, st, (by repeat first | exact ge_h | refine ge_m rfl ?_ | assumption), (by repeat first | exact ge_h | refine ge_m rfl ?_ | assumption)⟩
                · rcases hq with hq | hq
                  · obtain ⟨N9, T, ds275⟩ := a
                    obtain ⟨h290, n291⟩ := σ
                    obtain ⟨w274, rfl, rfl, e1, F275, e2, le275, st, t2⟩ := hq
                    dsimp only at e1 e2
                    subst e1
                    subst e2
                    dsimp only at st t2
                    have le286 := PH.le.trans le199 le275
                    have le287 := PH.le.trans le200 le275
                    have le288 := PH.le.trans le201 le275
                    have le289 := PH.le.trans le198 le275
                    have hF := sel_l hF
                    refine ib_r ?_
                    refine ib_r ?_
                    refine th_r ?_
                    refine th_r ?_
                    refine ⟨_, (inj hF).symm, .inl ⟨_, rfl, rfl, rfl, ?_⟩⟩
                    dsimp only
                    exact ⟨F275, rfl, le289, st, (by repeat first | exact ge_h | refine ge_m rfl ?_ | assumption)⟩
                  · obtain ⟨N9, T, ds277⟩ := a
                    obtain ⟨h296, n297⟩ := σ
                    obtain ⟨w276, rfl, rfl, e1, F277, e2, le277, st, t1, t5⟩ := hq
                    dsimp only at e1 e2
                    subst e1
                    subst e2
                    dsimp only at st t1 t5
                    have le292 := PH.le.trans le199 le277
                    have le293 := PH.le.trans le200 le277
                    have le294 := PH.le.trans le201 le277
                    have le295 := PH.le.trans le198 le277
                    have hF := sel_r hF
                    refine ib_e ?_
                    refine ib_n ?_
                    refine th_n ?_
                    refine w_reg ?_
                    refine v_move ?_
                    obtain ⟨q298, hF⟩ := ck_some hF
                    refine v_add q298 ?_
                    refine v_move ?_
                    refine r_nil ?_
                    refine thn ⟨_, (inj hF).symm, rfl, ?_⟩
                    dsimp only
                    exact ⟨F277, rfl, le295, st, (by repeat first | exact ge_h | refine ge_m rfl ?_ | assumption), (by repeat first | exact ge_h | refine ge_m rfl ?_ | assumption)⟩
            · have hF := bif_f hb253 hF
              refine w_exit ?_
              refine th_e ?_
              refine th_e ?_
              refine ⟨_, (inj hF).symm, .inr (⟨_, rfl, rfl, rfl, ?_⟩)⟩
              dsimp only
              exact ⟨F198, rfl, le198, st⟩
          · rcases hq with hq | hq
            · obtain ⟨N9, T, ds250⟩ := a
              obtain ⟨h302, n303⟩ := σ
              obtain ⟨w249, rfl, rfl, e1, F250, e2, le250, st, t2⟩ := hq
              dsimp only at e1 e2
              subst e1
              subst e2
              dsimp only at st t2
              have le299 := PH.le.trans le193 le250
              have le300 := PH.le.trans le194 le250
              have le301 := PH.le.trans le143 le250
              have hF := sel_l hF
              refine ib_r ?_
              refine th_r ?_
              obtain rfl := inj hF
              exact end_s st (Res.t (by repeat first | exact ge_h | refine ge_m rfl ?_ | assumption) Res.nil) rfl rfl
            · obtain ⟨N9, T, ds252⟩ := a
              obtain ⟨h307, n308⟩ := σ
              obtain ⟨w251, rfl, rfl, e1, F252, e2, le252, st⟩ := hq
              dsimp only at e1 e2
              subst e1
              subst e2
              dsimp only at st
              have le304 := PH.le.trans le193 le252
              have le305 := PH.le.trans le194 le252
              have le306 := PH.le.trans le143 le252
              have hF := sel_r hF
              refine ib_e ?_
              refine th_n ?_
              refine w_seq ?_
              refine w_reg ?_
              refine v_move ?_
              refine r_nil ?_
              refine th_n ?_
              refine w_ret ?_
              obtain rfl := inj hF
              exact end_s st (Res.t (by repeat first | exact ge_h | refine ge_m rfl ?_ | assumption) Res.nil) rfl rfl
end Go.Hx.V

/- Functions of the program come to that. -/
namespace Go.Hx.V
open Go.Hx
set_option linter.unusedVariables false
set_option maxRecDepth 20000
set_option maxHeartbeats 4000000
attribute [local irreducible] W R C thenH inBlockH
theorem ct45 (N : Nat) {a0_0 : Int} {a0_1 : (List (Int × Int))} {a0_2 : (List (Int × Int × Int))} {a0_3 : Int} {a1 : Bool} {r : ((List Int) × (List Int))} (hF : sf45 N a0_0 a0_1 a0_2 a0_3 a1 = some r) {fl : Nat} {h0 : Tr HBlk} {n0 : Nat} {F0 : PH} (hd : D h0 n0) (hs : F0.sub h0) (hfl : fl ≤ n0) {pa0_1 : Option (Nat × Nat)} {ca0_1 : Nat} {pa0_2 : Option (Nat × Nat)} {ca0_2 : Nat} (ra0_1 : RowF (rP rI rI) 2 F0 pa0_1 ca0_1 a0_1) (ra0_2 : RowF (rP rI (rP rI rI)) 3 F0 pa0_2 ca0_2 a0_2) : C LW fl 45 [(.agg [(i64 a0_0), (.slice pa0_1 (a0_1).length ca0_1), (.slice pa0_2 (a0_2).length ca0_2), (i64 a0_3)]), (.bool a1)] ⟨h0, n0⟩ (KR (rvA (rP (rL rI 1) (rL rI 1))) F0 h0 n0 r) := by
  unfold sf45 at hF
  refine in_mT hd hs hfl lw45 rfl rfl (by rfl) (fun st T hT => ?_)
  have t0 := hT 0 _ rfl
  have t1 := hT 1 _ rfl
  dsimp only [L45]
  refine w_seq ?_
  refine w_reg ?_
  refine v_box st (fun b1 h2 n3 st => ?_)
  refine v_alloc st (fun b4 h5 n6 st => ?_)
  refine r_nil ?_
  refine th_n ?_
  refine w_seq ?_
  refine w_reg ?_
  refine v_alloc st (fun b7 h8 n9 st => ?_)
  refine r_nil ?_
  refine th_n ?_
  refine w_seq ?_
  refine w_seq ?_
  refine w_reg ?_
  refine v_move ?_
  refine r_nil ?_
  refine th_n ?_
  refine w_block ?_
  have st := st.nilL 1
  have w30 : LR rI 1 F0 ([] : List Int) [] := LR.nil
  obtain ⟨y47, hy, hF⟩ := bnd_some hF
  refine v_loopD (sf45_L1 a0_1 a1) (fun x32 T ds33 h nx => ∃ (F33 : PH) (o34 : Option Nat) (c34 : Nat) (cs34 : List HV), ds33 = [] ∧ PH.le F0 F33 ∧ St n0 h0 F0 F33 h nx [.bx b1 [(i64 a0_0), (.slice pa0_1 (a0_1).length ca0_1), (.slice pa0_2 (a0_2).length ca0_2), (i64 a0_3)], .bx b4 [(.slice none 0 0), (.slice none 0 0)], .bx b7 [(slv o34 (x32.2).length c34), (.slice none 0 0)], .ls o34 c34 cs34 1] ∧ LR rI 1 F33 x32.2 cs34 ∧ T.get 1 = some (.bool a1) ∧ T.get 2 = some (.ptr (some (b1, 0))) ∧ T.get 4 = some (.ptr (some (b4, 0))) ∧ T.get 5 = some (.ptr (some (b7, 0))) ∧ T.get 6 = some (i64 x32.1)) (fun y e a σ => e = .exit 0 ∧ a.nt = 71 ∧ ∃ (F48 : PH) (o49 : Option Nat) (c49 : Nat) (cs49 : List HV), a.defers = [] ∧ PH.le F0 F48 ∧ St n0 h0 F0 F48 σ.h σ.nx [.bx b1 [(i64 a0_0), (.slice pa0_1 (a0_1).length ca0_1), (.slice pa0_2 (a0_2).length ca0_2), (i64 a0_3)], .bx b4 [(.slice none 0 0), (.slice none 0 0)], .bx b7 [(slv o49 (y).length c49), (.slice none 0 0)], .ls o49 c49 cs49 1] ∧ LR rI 1 F48 y cs49 ∧ a.tmps.get 1 = some (.bool a1) ∧ a.tmps.get 2 = some (.ptr (some (b1, 0))) ∧ a.tmps.get 4 = some (.ptr (some (b4, 0))) ∧ a.tmps.get 5 = some (.ptr (some (b7, 0)))) (fun x32 T ds33 h nx s hp hF => ?_) N _ y47 _ _ _ _ hy ⟨F0, none, 0, [], rfl, (PH.le.refl _), st, w30, (by repeat first | exact ge_h | refine ge_m rfl ?_ | assumption), (by repeat first | exact ge_h | refine ge_m rfl ?_ | assumption), (by repeat first | exact ge_h | refine ge_m rfl ?_ | assumption), (by repeat first | exact ge_h | refine ge_m rfl ?_ | assumption), (by repeat first | exact ge_h | refine ge_m rfl ?_ | assumption)⟩ (fun e a σ hne hq => ?_)
  · obtain ⟨F33, o34, c34, cs34, rfl, le33, st, w34, t1, t2, t4, t5, t6⟩ := hp
    unfold sf45_L1 at hF
    unfold L45w1
    refine w_seq ?_
    refine w_seq ?_
    refine w_reg ?_
    refine v_move ?_
    refine v_fa ?_
    refine v_ld1 (st.at (i := 0) rfl).2.2 rfl ?_
    refine v_len ?_
    refine v_lss ?_
    refine r_nil ?_
    refine th_n ?_
    refine v_cond (fun hb50 => ?_) (fun hb50 => ?_)
    · have hF := bif_t hb50 hF
      refine w_skip ?_
      refine th_n ?_
      refine w_seq ?_
      refine w_block ?_
      refine w_seq ?_
      refine w_reg ?_
      refine v_move ?_
      refine r_nil ?_
      refine th_n ?_
      refine v_cond (fun hb51 => ?_) (fun hb51 => ?_)
      · have hF := bif_t hb51 hF
        refine w_drawV (Nat.le_trans hfl st.ext.le) (fun dw => ?_)
        refine y_pure st.d dw (fun hm vw => v_fa pr_nil) ?_
        refine y_pure st.d dw (fun hm vw => v_ld1 (vw.bx (st.at (i := 2) rfl)) rfl pr_nil) ?_
        refine y_pure st.d dw (fun hm vw => v_fa pr_nil) ?_
        refine y_pure st.d dw (fun hm vw => v_ld1 (vw.bx (st.at (i := 0) rfl)) rfl pr_nil) ?_
        refine y_pure st.d dw (fun hm vw => v_move pr_nil) ?_
        obtain ⟨n52, x52, z52, l52, g52, hF⟩ := ix_some hF
        obtain ⟨b52, o52, s52, j52, r52, e52, f52, k52, ⟨_, _, rfl, rfl, rfl⟩⟩ := RowF.get ra0_1 g52
        refine y_pure st.d dw (fun hm vw => v_ixp e52 z52 l52 pr_nil) ?_
        refine y_pure st.d dw (fun hm vw => v_fa pr_nil) ?_
        refine y_pure st.d dw (fun hm vw => v_ld1 (vw.fz st (le33 _ _ f52)) (take_at (j := 1) k52 rfl) pr_nil) ?_
        refine y_lay st.d dw (fun hm vw => u_bs (cs := [(i64 x52.2)]) rfl pr_nil) (fun done dw => ?_)
        refine y_end st.d dw rfl (fun h53 ex vs => ?_)
        have st := St.laid st ex (Lay.cons (b := nx) (cs := [(i64 x52.2)]) (by have := dw.le; omega) (vs _ (List.mem_cons_self ..) _ _ (if_pos rfl)) (Lay.nil (by have := dw.le; omega)))
        obtain ⟨q54, hF⟩ := ck_some hF
        have w54 : LR rI 1 F33 (x32.2 ++ [x52.2]) (cs34 ++ [(i64 x52.2)]) := LR.app w34 (LR.one (rfl))
        refine v_aps (n := 1) (ox := 0) (m := (x32.2 ++ [x52.2]).length) (row := [(i64 x52.2)]) st 3 rfl w34.1 (st.at (i := 4) rfl).2.2 rfl rfl q54 hfl (by decide) (by decide) (by simp) (fun o54 c54 h54 n54 st => ?_)
        refine v_fa ?_
        refine v_st (cs' := [(slv o54 ((x32.2 ++ [x52.2])).length c54), (.slice none 0 0)]) st 2 rfl rfl rfl rfl hfl (fun h55 st => ?_)
        refine r_nil ?_
        refine ib_n ?_
        refine th_n ?_
        refine w_reg ?_
        refine v_move ?_
        obtain ⟨q56, hF⟩ := ck_some hF
        refine v_add q56 ?_
        refine v_move ?_
        refine r_nil ?_
        refine thn ⟨_, (inj hF).symm, rfl, ?_⟩
        dsimp only
        exact ⟨F33, o54, c54, (cs34 ++ [(i64 x52.2)]), rfl, le33, (st.drop (by first | exact List.Sublist.refl _ | (repeat first | exact List.nil_sublist _ | refine List.Sublist.cons_cons _ ?_ | refine List.Sublist.cons _ ?_))), w54, (by repeat first | exact ge_h | refine ge_m rfl ?_ | assumption), (by repeat first | exact ge_h | refine ge_m rfl ?_ | assumption), (by repeat first | exact ge_h | refine ge_m rfl ?_ | assumption), (by repeat first | exact ge_h | refine ge_m rfl ?_ | assumption), (by repeat first | exact ge_h | refine ge_m rfl ?_ | assumption)⟩
      · have hF := bif_f hb51 hF
        refine w_drawV (Nat.le_trans hfl st.ext.le) (fun dw => ?_)
        refine y_pure st.d dw (fun hm vw => v_fa pr_nil) ?_
        refine y_pure st.d dw (fun hm vw => v_ld1 (vw.bx (st.at (i := 2) rfl)) rfl pr_nil) ?_
        refine y_pure st.d dw (fun hm vw => v_fa pr_nil) ?_
        refine y_pure st.d dw (fun hm vw => v_ld1 (vw.bx (st.at (i := 0) rfl)) rfl pr_nil) ?_
        refine y_pure st.d dw (fun hm vw => v_move pr_nil) ?_
        obtain ⟨n57, x57, z57, l57, g57, hF⟩ := ix_some hF
        obtain ⟨b57, o57, s57, j57, r57, e57, f57, k57, ⟨_, _, rfl, rfl, rfl⟩⟩ := RowF.get ra0_1 g57
        refine y_pure st.d dw (fun hm vw => v_ixp e57 z57 l57 pr_nil) ?_
        refine y_pure st.d dw (fun hm vw => v_fa pr_nil) ?_
        refine y_pure st.d dw (fun hm vw => v_ld1 (vw.fz st (le33 _ _ f57)) (take_at (j := 0) k57 rfl) pr_nil) ?_
        refine y_lay st.d dw (fun hm vw => u_bs (cs := [(i64 x57.1)]) rfl pr_nil) (fun done dw => ?_)
        refine y_end st.d dw rfl (fun h58 ex vs => ?_)
        have st := St.laid st ex (Lay.cons (b := nx) (cs := [(i64 x57.1)]) (by have := dw.le; omega) (vs _ (List.mem_cons_self ..) _ _ (if_pos rfl)) (Lay.nil (by have := dw.le; omega)))
        obtain ⟨q59, hF⟩ := ck_some hF
        have w59 : LR rI 1 F33 (x32.2 ++ [x57.1]) (cs34 ++ [(i64 x57.1)]) := LR.app w34 (LR.one (rfl))
        refine v_aps (n := 1) (ox := 0) (m := (x32.2 ++ [x57.1]).length) (row := [(i64 x57.1)]) st 3 rfl w34.1 (st.at (i := 4) rfl).2.2 rfl rfl q59 hfl (by decide) (by decide) (by simp) (fun o59 c59 h59 n59 st => ?_)
        refine v_fa ?_
        refine v_st (cs' := [(slv o59 ((x32.2 ++ [x57.1])).length c59), (.slice none 0 0)]) st 2 rfl rfl rfl rfl hfl (fun h60 st => ?_)
        refine r_nil ?_
        refine ib_n ?_
        refine th_n ?_
        refine w_reg ?_
        refine v_move ?_
        obtain ⟨q61, hF⟩ := ck_some hF
        refine v_add q61 ?_
        refine v_move ?_
        refine r_nil ?_
        refine thn ⟨_, (inj hF).symm, rfl, ?_⟩
        dsimp only
        exact ⟨F33, o59, c59, (cs34 ++ [(i64 x57.1)]), rfl, le33, (st.drop (by first | exact List.Sublist.refl _ | (repeat first | exact List.nil_sublist _ | refine List.Sublist.cons_cons _ ?_ | refine List.Sublist.cons _ ?_))), w59, (by repeat first | exact ge_h | refine ge_m rfl ?_ | assumption), (by repeat first | exact ge_h | refine ge_m rfl ?_ | assumption), (by repeat first | exact ge_h | refine ge_m rfl ?_ | assumption), (by repeat first | exact ge_h | refine ge_m rfl ?_ | assumption), (by repeat first | exact ge_h | refine ge_m rfl ?_ | assumption)⟩
    · have hF := bif_f hb50 hF
      refine w_exit ?_
      refine th_e ?_
      refine th_e ?_
      refine ⟨_, (inj hF).symm, rfl, rfl, ?_⟩
      dsimp only
      exact ⟨F33, o34, c34, cs34, rfl, le33, st, w34, (by repeat first | exact ge_h | refine ge_m rfl ?_ | assumption), (by repeat first | exact ge_h | refine ge_m rfl ?_ | assumption), (by repeat first | exact ge_h | refine ge_m rfl ?_ | assumption), (by repeat first | exact ge_h | refine ge_m rfl ?_ | assumption)⟩
  · obtain ⟨N9, T, ds48⟩ := a
    obtain ⟨h62, n63⟩ := σ
    obtain ⟨rfl, e1, F48, o49, c49, cs49, e2, le48, st, w49, t1, t2, t4, t5⟩ := hq
    dsimp only at e1 e2
    subst e1
    subst e2
    dsimp only at st t1 t2 t4 t5
    refine ib_e ?_
    refine th_n ?_
    refine w_seq ?_
    refine w_seq ?_
    refine w_reg ?_
    refine v_move ?_
    refine r_nil ?_
    refine th_n ?_
    refine w_block ?_
    have st := st.nilL 1
    have w83 : LR rI 1 F48 ([] : List Int) [] := LR.nil
    obtain ⟨y101, hy, hF⟩ := bnd_some hF
    refine v_loopD (sf45_L2 a0_2 a1) (fun x85 T ds86 h nx => ∃ (F86 : PH) (o87 : Option Nat) (c87 : Nat) (cs87 : List HV), ds86 = [] ∧ PH.le F48 F86 ∧ St n0 h0 F0 F86 h nx [.bx b1 [(i64 a0_0), (.slice pa0_1 (a0_1).length ca0_1), (.slice pa0_2 (a0_2).length ca0_2), (i64 a0_3)], .bx b4 [(.slice none 0 0), (.slice none 0 0)], .bx b7 [(slv o49 (y47).length c49), (slv o87 (x85.2).length c87)], .ls o49 c49 cs49 1, .ls o87 c87 cs87 1] ∧ LR rI 1 F86 x85.2 cs87 ∧ T.get 1 = some (.bool a1) ∧ T.get 2 = some (.ptr (some (b1, 0))) ∧ T.get 4 = some (.ptr (some (b4, 0))) ∧ T.get 5 = some (.ptr (some (b7, 0))) ∧ T.get 7 = some (i64 x85.1)) (fun y e a σ => e = .exit 2 ∧ a.nt = 71 ∧ ∃ (F102 : PH) (o103 : Option Nat) (c103 : Nat) (cs103 : List HV), a.defers = [] ∧ PH.le F48 F102 ∧ St n0 h0 F0 F102 σ.h σ.nx [.bx b1 [(i64 a0_0), (.slice pa0_1 (a0_1).length ca0_1), (.slice pa0_2 (a0_2).length ca0_2), (i64 a0_3)], .bx b4 [(.slice none 0 0), (.slice none 0 0)], .bx b7 [(slv o49 (y47).length c49), (slv o103 (y).length c103)], .ls o49 c49 cs49 1, .ls o103 c103 cs103 1] ∧ LR rI 1 F102 y cs103 ∧ a.tmps.get 4 = some (.ptr (some (b4, 0))) ∧ a.tmps.get 5 = some (.ptr (some (b7, 0)))) (fun x85 T ds86 h nx s hp hF => ?_) N _ y101 _ _ _ _ hy ⟨F48, none, 0, [], rfl, (PH.le.refl _), st, w83, (by repeat first | exact ge_h | refine ge_m rfl ?_ | assumption), (by repeat first | exact ge_h | refine ge_m rfl ?_ | assumption), (by repeat first | exact ge_h | refine ge_m rfl ?_ | assumption), (by repeat first | exact ge_h | refine ge_m rfl ?_ | assumption), (by repeat first | exact ge_h | refine ge_m rfl ?_ | assumption)⟩ (fun e a σ hne hq => ?_)
    · obtain ⟨F86, o87, c87, cs87, rfl, le86, st, w87, t1, t2, t4, t5, t7⟩ := hp
      have le88 := PH.le.trans le48 le86
      unfold sf45_L2 at hF
      unfold L45w0
      refine w_seq ?_
      refine w_seq ?_
      refine w_reg ?_
      refine v_move ?_
      refine v_fa ?_
      refine v_ld1 (st.at (i := 0) rfl).2.2 rfl ?_
      refine v_len ?_
      refine v_lss ?_
      refine r_nil ?_
      refine th_n ?_
      refine v_cond (fun hb104 => ?_) (fun hb104 => ?_)
      · have hF := bif_t hb104 hF
        refine w_skip ?_
        refine th_n ?_
        refine w_seq ?_
        refine w_block ?_
        refine w_seq ?_
        refine w_reg ?_
        refine v_move ?_
        refine r_nil ?_
        refine th_n ?_
        refine v_cond (fun hb105 => ?_) (fun hb105 => ?_)
        · have hF := bif_t hb105 hF
          refine w_drawV (Nat.le_trans hfl st.ext.le) (fun dw => ?_)
          refine y_pure st.d dw (fun hm vw => v_fa pr_nil) ?_
          refine y_pure st.d dw (fun hm vw => v_ld1 (vw.bx (st.at (i := 2) rfl)) rfl pr_nil) ?_
          refine y_pure st.d dw (fun hm vw => v_fa pr_nil) ?_
          refine y_pure st.d dw (fun hm vw => v_ld1 (vw.bx (st.at (i := 0) rfl)) rfl pr_nil) ?_
          refine y_pure st.d dw (fun hm vw => v_move pr_nil) ?_
          obtain ⟨n106, x106, z106, l106, g106, hF⟩ := ix_some hF
          obtain ⟨b106, o106, s106, j106, r106, e106, f106, k106, ⟨_, _, rfl, rfl, ⟨_, _, rfl, rfl, rfl⟩⟩⟩ := RowF.get ra0_2 g106
          refine y_pure st.d dw (fun hm vw => v_ixp e106 z106 l106 pr_nil) ?_
          refine y_pure st.d dw (fun hm vw => v_fa pr_nil) ?_
          refine y_pure st.d dw (fun hm vw => v_fa pr_nil) ?_
          refine y_pure st.d dw (fun hm vw => v_ld1 (vw.fz st (le88 _ _ f106)) (take_at (j := 2) k106 rfl) pr_nil) ?_
          refine y_lay st.d dw (fun hm vw => u_bs (cs := [(i64 x106.2.2)]) rfl pr_nil) (fun done dw => ?_)
          refine y_end st.d dw rfl (fun h107 ex vs => ?_)
          have st := St.laid st ex (Lay.cons (b := nx) (cs := [(i64 x106.2.2)]) (by have := dw.le; omega) (vs _ (List.mem_cons_self ..) _ _ (if_pos rfl)) (Lay.nil (by have := dw.le; omega)))
          obtain ⟨q108, hF⟩ := ck_some hF
          have w108 : LR rI 1 F86 (x85.2 ++ [x106.2.2]) (cs87 ++ [(i64 x106.2.2)]) := LR.app w87 (LR.one (rfl))
          refine v_aps (n := 1) (ox := 0) (m := (x85.2 ++ [x106.2.2]).length) (row := [(i64 x106.2.2)]) st 4 rfl w87.1 (st.at (i := 5) rfl).2.2 rfl rfl q108 hfl (by decide) (by decide) (by simp) (fun o108 c108 h108 n108 st => ?_)
          refine v_fa ?_
          refine v_st (cs' := [(slv o49 (y47).length c49), (slv o108 ((x85.2 ++ [x106.2.2])).length c108)]) st 2 rfl rfl rfl rfl hfl (fun h109 st => ?_)
          refine r_nil ?_
          refine ib_n ?_
          refine th_n ?_
          refine w_reg ?_
          refine v_move ?_
          obtain ⟨q110, hF⟩ := ck_some hF
          refine v_add q110 ?_
          refine v_move ?_
          refine r_nil ?_
          refine thn ⟨_, (inj hF).symm, rfl, ?_⟩
          dsimp only
          exact ⟨F86, o108, c108, (cs87 ++ [(i64 x106.2.2)]), rfl, le86, (st.drop (by first | exact List.Sublist.refl _ | (repeat first | exact List.nil_sublist _ | refine List.Sublist.cons_cons _ ?_ | refine List.Sublist.cons _ ?_))), w108, (by repeat first | exact ge_h | refine ge_m rfl ?_ | assumption), (by repeat first | exact ge_h | refine ge_m rfl ?_ | assumption), (by repeat first | exact ge_h | refine ge_m rfl ?_ | assumption), (by repeat first | exact ge_h | refine ge_m rfl ?_ | assumption), (by repeat first | exact ge_h | refine ge_m rfl ?_ | assumption)⟩
        · have hF := bif_f hb105 hF
          refine w_drawV (Nat.le_trans hfl st.ext.le) (fun dw => ?_)
          refine y_pure st.d dw (fun hm vw => v_fa pr_nil) ?_
          refine y_pure st.d dw (fun hm vw => v_ld1 (vw.bx (st.at (i := 2) rfl)) rfl pr_nil) ?_
          refine y_pure st.d dw (fun hm vw => v_fa pr_nil) ?_
          refine y_pure st.d dw (fun hm vw => v_ld1 (vw.bx (st.at (i := 0) rfl)) rfl pr_nil) ?_
          refine y_pure st.d dw (fun hm vw => v_move pr_nil) ?_
          obtain ⟨n111, x111, z111, l111, g111, hF⟩ := ix_some hF
          obtain ⟨b111, o111, s111, j111, r111, e111, f111, k111, ⟨_, _, rfl, rfl, ⟨_, _, rfl, rfl, rfl⟩⟩⟩ := RowF.get ra0_2 g111
          refine y_pure st.d dw (fun hm vw => v_ixp e111 z111 l111 pr_nil) ?_
          refine y_pure st.d dw (fun hm vw => v_fa pr_nil) ?_
          refine y_pure st.d dw (fun hm vw => v_fa pr_nil) ?_
          refine y_pure st.d dw (fun hm vw => v_ld1 (vw.fz st (le88 _ _ f111)) (take_at (j := 1) k111 rfl) pr_nil) ?_
          refine y_lay st.d dw (fun hm vw => u_bs (cs := [(i64 x111.2.1)]) rfl pr_nil) (fun done dw => ?_)
          refine y_end st.d dw rfl (fun h112 ex vs => ?_)
          have st := St.laid st ex (Lay.cons (b := nx) (cs := [(i64 x111.2.1)]) (by have := dw.le; omega) (vs _ (List.mem_cons_self ..) _ _ (if_pos rfl)) (Lay.nil (by have := dw.le; omega)))
          obtain ⟨q113, hF⟩ := ck_some hF
          have w113 : LR rI 1 F86 (x85.2 ++ [x111.2.1]) (cs87 ++ [(i64 x111.2.1)]) := LR.app w87 (LR.one (rfl))
          refine v_aps (n := 1) (ox := 0) (m := (x85.2 ++ [x111.2.1]).length) (row := [(i64 x111.2.1)]) st 4 rfl w87.1 (st.at (i := 5) rfl).2.2 rfl rfl q113 hfl (by decide) (by decide) (by simp) (fun o113 c113 h113 n113 st => ?_)
          refine v_fa ?_
          refine v_st (cs' := [(slv o49 (y47).length c49), (slv o113 ((x85.2 ++ [x111.2.1])).length c113)]) st 2 rfl rfl rfl rfl hfl (fun h114 st => ?_)
          refine r_nil ?_
          refine ib_n ?_
          refine th_n ?_
          refine w_reg ?_
          refine v_move ?_
          obtain ⟨q115, hF⟩ := ck_some hF
          refine v_add q115 ?_
          refine v_move ?_
          refine r_nil ?_
          refine thn ⟨_, (inj hF).symm, rfl, ?_⟩
          dsimp only
          exact ⟨F86, o113, c113, (cs87 ++ [(i64 x111.2.1)]), rfl, le86, (st.drop (by first | exact List.Sublist.refl _ | (repeat first | exact List.nil_sublist _ | refine List.Sublist.cons_cons _ ?_ | refine List.Sublist.cons _ ?_))), w113, (by repeat first | exact ge_h | refine ge_m rfl ?_ | assumption), (by repeat first | exact ge_h | refine ge_m rfl ?_ | assumption), (by repeat first | exact ge_h | refine ge_m rfl ?_ | assumption), (by repeat first | exact ge_h | refine ge_m rfl ?_ | assumption), (by repeat first | exact ge_h | refine ge_m rfl ?_ | assumption)⟩
      · have hF := bif_f hb104 hF
        refine w_exit ?_
        refine th_e ?_
        refine th_e ?_
        refine ⟨_, (inj hF).symm, rfl, rfl, ?_⟩
        dsimp only
        exact ⟨F86, o87, c87, cs87, rfl, le86, st, w87, (by repeat first | exact ge_h | refine ge_m rfl ?_ | assumption), (by repeat first | exact ge_h | refine ge_m rfl ?_ | assumption)⟩
    · obtain ⟨N9, T, ds102⟩ := a
      obtain ⟨h117, n118⟩ := σ
      obtain ⟨rfl, e1, F102, o103, c103, cs103, e2, le102, st, w103, t4, t5⟩ := hq
      dsimp only at e1 e2
      subst e1
      subst e2
      dsimp only at st t4 t5
      have le116 := PH.le.trans le48 le102
      refine ib_e ?_
      refine th_n ?_
      refine w_seq ?_
      refine w_reg ?_
      refine v_ldn (vs := [(slv o49 (y47).length c49), (slv o103 (y101).length c103)]) (st.at (i := 2) rfl).2.2 rfl ?_
      refine v_st (cs' := [(slv o49 (y47).length c49), (slv o103 (y101).length c103)]) st 1 rfl rfl rfl rfl hfl (fun h119 st => ?_)
      refine r_nil ?_
      refine th_n ?_
      refine w_ret ?_
      obtain rfl := inj hF
      obtain ⟨F120, le120, st, rf120⟩ := St.freeze st 3 rfl (LR.mono le102 w49) (by decide)
      have le121 := PH.le.trans le116 le120
      have le122 := PH.le.trans le102 le120
      obtain ⟨F123, le123, st, rf123⟩ := St.freeze st 3 rfl (LR.mono le120 w103) (by decide)
      have le124 := PH.le.trans le121 le123
      have le125 := PH.le.trans le122 le123
      have le126 := PH.le.trans le120 le123
      exact end_r st (Res.c (by repeat first | exact ge_h | refine ge_m rfl ?_ | assumption) (st.at (i := 1) rfl).2.2 (show takeN _ _ = some [(.slice (o49.map fun b => (b, 0)) (y47).length c49), (.slice (o103.map fun b => (b, 0)) (y101).length c103)] from rfl) Res.nil) ⟨_, rfl, ⟨[(.slice (o49.map fun b => (b, 0)) (y47).length c49)], [(.slice (o103.map fun b => (b, 0)) (y101).length c103)], rfl, ⟨_, _, rfl, (RowF.mono le123 rf120)⟩, ⟨_, _, rfl, rf123⟩⟩⟩
end Go.Hx.V

/- Functions of the program come to that. -/
namespace Go.Hx.V
open Go.Hx
set_option linter.unusedVariables false
set_option maxRecDepth 20000
set_option maxHeartbeats 4000000
attribute [local irreducible] W R C thenH inBlockH
theorem ct59 (N : Nat) {a0_0 : Int} {a0_1 : (List (Int × Int))} {a0_2 : (List (Int × Int × Int))} {a0_3 : Int} {a0_4 : (List Int)} {a0_5 : (List Int)} {a1_0 : Int} {a1_1 : Int} {r : (Int × Int)} (hF : sf59 N a0_0 a0_1 a0_2 a0_3 a0_4 a0_5 a1_0 a1_1 = some r) {fl : Nat} {h0 : Tr HBlk} {n0 : Nat} {F0 : PH} (hd : D h0 n0) (hs : F0.sub h0) {pa0_1 : Option (Nat × Nat)} {ca0_1 : Nat} {pa0_2 : Option (Nat × Nat)} {ca0_2 : Nat} {pa0_4 : Option (Nat × Nat)} {ca0_4 : Nat} {pa0_5 : Option (Nat × Nat)} {ca0_5 : Nat} (ra0_1 : RowF (rP rI rI) 2 F0 pa0_1 ca0_1 a0_1) (ra0_2 : RowF (rP rI (rP rI rI)) 3 F0 pa0_2 ca0_2 a0_2) (ra0_4 : RowF rI 1 F0 pa0_4 ca0_4 a0_4) (ra0_5 : RowF rI 1 F0 pa0_5 ca0_5 a0_5) : C LW fl 59 [(.agg [(i64 a0_0), (.slice pa0_1 (a0_1).length ca0_1), (.slice pa0_2 (a0_2).length ca0_2), (i64 a0_3), (.slice pa0_4 (a0_4).length ca0_4), (.slice pa0_5 (a0_5).length ca0_5)]), (.agg [(i64 a1_0), (i64 a1_1)])] ⟨h0, n0⟩ (KS (.agg [(i64 r.1), (i64 r.2)]) n0 h0) := by
  unfold sf59 at hF
  refine in_cT hd hs lw59 rfl rfl (by rfl) (fun st T hT => ?_)
  have hfl : n0 ≤ n0 := Nat.le_refl n0
  have t0 := hT 0 _ rfl
  have t1 := hT 1 _ rfl
  dsimp only [L59]
  refine w_seq ?_
  refine w_reg ?_
  refine v_box st (fun b1 h2 n3 st => ?_)
  refine v_box st (fun b4 h5 n6 st => ?_)
  refine v_alloc st (fun b7 h8 n9 st => ?_)
  refine r_nil ?_
  refine th_n ?_
  refine w_seq ?_
  refine w_reg ?_
  refine v_ldn (vs := [(i64 a0_0), (.slice pa0_1 (a0_1).length ca0_1), (.slice pa0_2 (a0_2).length ca0_2), (i64 a0_3), (.slice pa0_4 (a0_4).length ca0_4), (.slice pa0_5 (a0_5).length ca0_5)]) (st.at (i := 0) rfl).2.2 rfl ?_
  refine v_fa ?_
  refine v_ld1 (st.at (i := 1) rfl).2.2 rfl ?_
  obtain ⟨v10, e11, hF⟩ := bnd_some hF
  refine v_call st (ct55 N e11 st.d st.sub ra0_1 ra0_2 ra0_4 ra0_5) (fun n12 st => ?_)
  refine v_alloc st (fun b13 h14 n15 st => ?_)
  refine v_st (cs' := [(i64 v10.1), (i64 v10.2)]) st 3 rfl rfl rfl rfl hfl (fun h16 st => ?_)
  refine r_nil ?_
  refine th_n ?_
  refine w_seq ?_
  refine w_reg ?_
  refine v_fa ?_
  refine v_ld1 (st.at (i := 3) rfl).2.2 rfl ?_
  refine v_fa ?_
  refine v_ld1 (st.at (i := 1) rfl).2.2 rfl ?_
  obtain ⟨q17, hF⟩ := ck_some hF
  refine v_sub q17 ?_
  refine v_fa ?_
  refine v_ld1 (st.at (i := 3) rfl).2.2 rfl ?_
  refine v_fa ?_
  refine v_ld1 (st.at (i := 1) rfl).2.2 rfl ?_
  obtain ⟨q18, hF⟩ := ck_some hF
  refine v_sub q18 ?_
  refine v_build (cs := [(i64 (v10.1 - a1_0)), (i64 (v10.2 - a1_0))]) rfl ?_
  refine v_st (cs' := [(i64 (v10.1 - a1_0)), (i64 (v10.2 - a1_0))]) st 2 rfl rfl rfl rfl hfl (fun h19 st => ?_)
  refine r_nil ?_
  refine th_n ?_
  refine w_ret ?_
  obtain rfl := inj hF
  exact end_s st (Res.c (by repeat first | exact ge_h | refine ge_m rfl ?_ | assumption) (st.at (i := 2) rfl).2.2 (show takeN _ _ = some [(i64 (v10.1 - a1_0)), (i64 (v10.2 - a1_0))] from rfl) Res.nil) rfl rfl
end Go.Hx.V

/- Functions of the program come to that. -/
namespace Go.Hx.V
open Go.Hx
set_option linter.unusedVariables false
set_option maxRecDepth 20000
set_option maxHeartbeats 4000000
attribute [local irreducible] W R C thenH inBlockH
end Go.Hx.V

/- Functions of the program come to that. -/
namespace Go.Hx.V
open Go.Hx
set_option linter.unusedVariables false
set_option maxRecDepth 20000
set_option maxHeartbeats 4000000
attribute [local irreducible] W R C thenH inBlockH
theorem ct26 (N : Nat) {a0_0 : Int} {a0_1 : (List (Int × Int))} {a0_2 : (List (Int × Int × Int))} {a0_3 : Int} {a1 : Int} {r : (Int × Int)} (hF : sf26 N a0_0 a0_1 a0_2 a0_3 a1 = some r) {fl : Nat} {h0 : Tr HBlk} {n0 : Nat} {F0 : PH} (hd : D h0 n0) (hs : F0.sub h0) {pa0_1 : Option (Nat × Nat)} {ca0_1 : Nat} {pa0_2 : Option (Nat × Nat)} {ca0_2 : Nat} (ra0_1 : RowF (rP rI rI) 2 F0 pa0_1 ca0_1 a0_1) (ra0_2 : RowF (rP rI (rP rI rI)) 3 F0 pa0_2 ca0_2 a0_2) : C LW fl 26 [(.agg [(i64 a0_0), (.slice pa0_1 (a0_1).length ca0_1), (.slice pa0_2 (a0_2).length ca0_2), (i64 a0_3)]), (i64 a1)] ⟨h0, n0⟩ (KS (.agg [(i64 r.1), (i64 r.2)]) n0 h0) := by
  unfold sf26 at hF
  refine in_cT hd hs lw26 rfl rfl (by rfl) (fun st T hT => ?_)
  have hfl : n0 ≤ n0 := Nat.le_refl n0
  have t0 := hT 0 _ rfl
  have t1 := hT 1 _ rfl
  dsimp only [L26]
  refine w_seq ?_
  refine w_reg ?_
  refine v_box st (fun b1 h2 n3 st => ?_)
  refine v_alloc st (fun b4 h5 n6 st => ?_)
  refine r_nil ?_
  refine th_n ?_
  refine w_seq ?_
  refine w_drawV (Nat.le_trans hfl st.ext.le) (fun dw => ?_)
  have wf := Wf.start st
  refine y_pure st.d dw (fun hm vw => v_ldn (vs := [(i64 a0_0), (.slice pa0_1 (a0_1).length ca0_1), (.slice pa0_2 (a0_2).length ca0_2), (i64 a0_3)]) (vw.bx (st.at (i := 0) rfl)) rfl pr_nil) ?_
  refine y_pure st.d dw (fun hm vw => v_move pr_nil) ?_
  refine y_pure st.d dw (fun hm vw => v_ldn (vs := [(i64 a0_0), (.slice pa0_1 (a0_1).length ca0_1), (.slice pa0_2 (a0_2).length ca0_2), (i64 a0_3)]) (vw.bx (st.at (i := 0) rfl)) rfl pr_nil) ?_
  obtain ⟨v7, e8, hF⟩ := bnd_some hF
  refine y_deep st dw wf (fun hm vw => u_callR (ct45 N e8 vw.d (FF.sub wf st vw) (Nat.max_le.2 ⟨by have := dw.le; have := st.ext.le; omega, Nat.le_refl _⟩) (RowF.mono FF.base ra0_1) (RowF.mono FF.base ra0_2)) (fun v F' h' n' ex l1 l2 l3 l4 => r_nil ⟨_, _, rfl, ex, l1, l2, l3, l4⟩)) (fun u9 F9 n9 done hn' dw9 wf9 rv9 le9 => ?_)
  have wf := wf9
  have dw := dw9
  obtain ⟨_, rfl, ⟨_, _, rfl, ⟨py10, cy10, rfl, ry10⟩, ⟨py11, cy11, rfl, ry11⟩⟩⟩ := rv9
  obtain ⟨v12, e13, hF⟩ := bnd_some hF
  refine y_flat st.d dw (fun hm vw => u_call (ct28 N e13 vw.d (FF.sub wf st vw) (RowF.mono FF.base ra0_1) (RowF.mono FF.base ra0_2) (RowF.mono (le9 _ rfl (con_sub rfl)) ry10) (RowF.mono (le9 _ rfl (con_sub rfl)) ry11)) (fun n' hn' => pf_nil hn')) (fun n14 hn' dw => ?_)
  refine y_pure st.d dw (fun hm vw => v_ldn (vs := [(i64 a0_0), (.slice pa0_1 (a0_1).length ca0_1), (.slice pa0_2 (a0_2).length ca0_2), (i64 a0_3)]) (vw.bx (st.at (i := 0) rfl)) rfl pr_nil) ?_
  refine y_pure st.d dw (fun hm vw => v_move pr_nil) ?_
  refine y_pure st.d dw (fun hm vw => v_ldn (vs := [(i64 a0_0), (.slice pa0_1 (a0_1).length ca0_1), (.slice pa0_2 (a0_2).length ca0_2), (i64 a0_3)]) (vw.bx (st.at (i := 0) rfl)) rfl pr_nil) ?_
  obtain ⟨v15, e16, hF⟩ := bnd_some hF
  refine y_deep st dw wf (fun hm vw => u_callR (ct45 N e16 vw.d (FF.sub wf st vw) (Nat.max_le.2 ⟨by have := dw.le; have := st.ext.le; omega, Nat.le_refl _⟩) (RowF.mono FF.base ra0_1) (RowF.mono FF.base ra0_2)) (fun v F' h' n' ex l1 l2 l3 l4 => r_nil ⟨_, _, rfl, ex, l1, l2, l3, l4⟩)) (fun u17 F17 n17 done hn' dw17 wf17 rv17 le17 => ?_)
  have le20 := fun (f : Nat → Bool) q1 q2 => PH.le.trans (le9 f q1 q2) (FF.cons wf wf17 dw17)
  have wf := wf17
  have dw := dw17
  obtain ⟨_, rfl, ⟨_, _, rfl, ⟨py18, cy18, rfl, ry18⟩, ⟨py19, cy19, rfl, ry19⟩⟩⟩ := rv17
  refine y_end st.d dw rfl (fun h21 ex vs => ?_)
  obtain ⟨F22, lt22, st⟩ := St.laidF st dw wf ex vs (Lay.nil (by have := dw.le; omega)) (fun e he => by cases he)
  have lz23 := lt22 _ (le20 (fun _ => true) rfl (fun _ _ => rfl))
  have lz24 := lt22 _ (le17 (fun _ => true) rfl (fun _ _ => rfl))
  have lb22 := lt22 _ FF.base
  obtain ⟨v25, e26, hF⟩ := bnd_some hF
  refine v_call st (ct28 N e26 st.d st.sub (RowF.mono lb22 ra0_1) (RowF.mono lb22 ra0_2) (RowF.mono lz24 ry18) (RowF.mono lz24 ry19)) (fun n27 st => ?_)
  refine v_build (cs := [(i64 v12), (i64 v25)]) rfl ?_
  refine v_st (cs' := [(i64 v12), (i64 v25)]) st 1 rfl rfl rfl rfl hfl (fun h28 st => ?_)
  refine r_nil ?_
  refine th_n ?_
  refine w_ret ?_
  obtain rfl := inj hF
  exact end_s st (Res.c (by repeat first | exact ge_h | refine ge_m rfl ?_ | assumption) (st.at (i := 1) rfl).2.2 (show takeN _ _ = some [(i64 v12), (i64 v25)] from rfl) Res.nil) rfl rfl
theorem ct73 (N : Nat) {a0_0 : Int} {a0_1 : (List (Int × Int))} {a0_2 : (List (Int × Int × Int))} {a0_3 : Int} {a0_4 : (List Int)} {a0_5 : (List Int)} {a0_6 : Int} {a1_0 : Int} {a1_1 : Int} {r : Bool} (hF : sf73 N a0_0 a0_1 a0_2 a0_3 a0_4 a0_5 a0_6 a1_0 a1_1 = some r) {fl : Nat} {h0 : Tr HBlk} {n0 : Nat} {F0 : PH} (hd : D h0 n0) (hs : F0.sub h0) {pa0_1 : Option (Nat × Nat)} {ca0_1 : Nat} {pa0_2 : Option (Nat × Nat)} {ca0_2 : Nat} {pa0_4 : Option (Nat × Nat)} {ca0_4 : Nat} {pa0_5 : Option (Nat × Nat)} {ca0_5 : Nat} (ra0_1 : RowF (rP rI rI) 2 F0 pa0_1 ca0_1 a0_1) (ra0_2 : RowF (rP rI (rP rI rI)) 3 F0 pa0_2 ca0_2 a0_2) (ra0_4 : RowF rI 1 F0 pa0_4 ca0_4 a0_4) (ra0_5 : RowF rI 1 F0 pa0_5 ca0_5 a0_5) : C LW fl 73 [(.agg [(i64 a0_0), (.slice pa0_1 (a0_1).length ca0_1), (.slice pa0_2 (a0_2).length ca0_2), (i64 a0_3), (.slice pa0_4 (a0_4).length ca0_4), (.slice pa0_5 (a0_5).length ca0_5), (i64 a0_6)]), (.agg [(i64 a1_0), (i64 a1_1)])] ⟨h0, n0⟩ (KS (.bool r) n0 h0) := by
  unfold sf73 at hF
  refine in_cT hd hs lw73 rfl rfl (by rfl) (fun st T hT => ?_)
  have hfl : n0 ≤ n0 := Nat.le_refl n0
  have t0 := hT 0 _ rfl
  have t1 := hT 1 _ rfl
  dsimp only [L73]
  refine w_seq ?_
  refine w_reg ?_
  refine v_box st (fun b1 h2 n3 st => ?_)
  refine v_box st (fun b4 h5 n6 st => ?_)
  refine v_move ?_
  refine r_nil ?_
  refine th_n ?_
  refine w_seq ?_
  refine w_reg ?_
  refine v_fa ?_
  refine v_ldn (vs := [(i64 a0_0), (.slice pa0_1 (a0_1).length ca0_1), (.slice pa0_2 (a0_2).length ca0_2), (i64 a0_3), (.slice pa0_4 (a0_4).length ca0_4), (.slice pa0_5 (a0_5).length ca0_5)]) (st.at (i := 0) rfl).2.2 rfl ?_
  refine v_ldn (vs := [(i64 a1_0), (i64 a1_1)]) (st.at (i := 1) rfl).2.2 rfl ?_
  obtain ⟨v7, e8, hF⟩ := bnd_some hF
  refine v_call st (ct59 N e8 st.d st.sub ra0_1 ra0_2 ra0_4 ra0_5) (fun n9 st => ?_)
  refine v_alloc st (fun b10 h11 n12 st => ?_)
  refine v_st (cs' := [(i64 v7.1), (i64 v7.2)]) st 2 rfl rfl rfl rfl hfl (fun h13 st => ?_)
  refine r_nil ?_
  refine th_n ?_
  refine w_seq ?_
  refine w_drawV (Nat.le_trans hfl st.ext.le) (fun dw => ?_)
  refine y_pure st.d dw (fun hm vw => v_fa pr_nil) ?_
  refine y_pure st.d dw (fun hm vw => v_ld1 (vw.bx (st.at (i := 2) rfl)) rfl pr_nil) ?_
  obtain ⟨q14, hF⟩ := ck_some hF
  refine y_pure st.d dw (fun hm vw => v_neg q14 pr_nil) ?_
  refine y_pure st.d dw (fun hm vw => v_fa pr_nil) ?_
  refine y_pure st.d dw (fun hm vw => v_ld1 (vw.bx (st.at (i := 2) rfl)) rfl pr_nil) ?_
  refine y_lay st.d dw (fun hm vw => u_bs (cs := [(i64 v7.2)]) rfl pr_nil) (fun done dw => ?_)
  obtain ⟨v15, e16, hF⟩ := bnd_some hF
  refine y_flat st.d dw (fun hm vw => u_call (ct96 N e16 vw.d (all_sub _) (RowF.blk (F := F0) (vw.vis _ (List.mem_cons_self ..) rfl _ _ (if_pos rfl)) (show LR rI 1 F0 [v7.2] [(i64 v7.2)] from (LR.one (rfl))) (vw.sub st))) (fun n' hn' => pf_nil hn')) (fun n17 hn' dw => ?_)
  refine y_pure st.d dw (fun hm vw => v_fa pr_nil) ?_
  refine y_pure st.d dw (fun hm vw => v_ld1 (vw.bx (st.at (i := 0) rfl)) rfl pr_nil) ?_
  refine y_end st.d dw rfl (fun h18 ex vs => ?_)
  have st := St.laid st ex (Lay.cons (b := n12) (cs := [(i64 v7.2)]) (by have := dw.le; omega) (vs _ (List.mem_cons_self ..) _ _ (if_pos rfl)) (Lay.nil (by have := dw.le; omega)))
  refine v_leq ?_
  refine v_move ?_
  refine r_nil ?_
  refine th_n ?_
  refine w_ret ?_
  obtain rfl := inj hF
  exact end_s st (Res.t (by repeat first | exact ge_h | refine ge_m rfl ?_ | assumption) Res.nil) rfl rfl
end Go.Hx.V

/- Functions of the program come to that. -/
namespace Go.Hx.V
open Go.Hx
set_option linter.unusedVariables false
set_option maxRecDepth 20000
set_option maxHeartbeats 4000000
attribute [local irreducible] W R C thenH inBlockH
theorem ct77 (N : Nat) {a0_0 : Int} {a0_1 : (List (Int × Int))} {a0_2 : (List (Int × Int × Int))} {a0_3 : Int} {r : Bool} (hF : sf77 N a0_0 a0_1 a0_2 a0_3 = some r) {fl : Nat} {h0 : Tr HBlk} {n0 : Nat} {F0 : PH} (hd : D h0 n0) (hs : F0.sub h0) {pa0_1 : Option (Nat × Nat)} {ca0_1 : Nat} {pa0_2 : Option (Nat × Nat)} {ca0_2 : Nat} (ra0_1 : RowF (rP rI rI) 2 F0 pa0_1 ca0_1 a0_1) (ra0_2 : RowF (rP rI (rP rI rI)) 3 F0 pa0_2 ca0_2 a0_2) : C LW fl 77 [(.agg [(i64 a0_0), (.slice pa0_1 (a0_1).length ca0_1), (.slice pa0_2 (a0_2).length ca0_2), (i64 a0_3)])] ⟨h0, n0⟩ (KS (.bool r) n0 h0) := by
  unfold sf77 at hF
  refine in_cT hd hs lw77 rfl rfl (by rfl) (fun st T hT => ?_)
  have hfl : n0 ≤ n0 := Nat.le_refl n0
  have t0 := hT 0 _ rfl
  dsimp only [L77]
  refine w_seq ?_
  refine w_reg ?_
  refine v_box st (fun b1 h2 n3 st => ?_)
  refine v_move ?_
  refine r_nil ?_
  refine th_n ?_
  refine w_seq ?_
  refine w_reg ?_
  refine v_fa ?_
  refine v_ld1 (st.at (i := 0) rfl).2.2 rfl ?_
  refine v_len ?_
  refine v_gtr ?_
  refine v_move ?_
  rcases Bool.eq_false_or_eq_true (decide ((0 : Int) < ((a0_2).length : Int))) with hb4 | hb4
  · have hF := bif_t hb4 hF
    refine g_take hb4 (v_fa ?_)
    refine g_take hb4 (v_ld1 (st.at (i := 0) rfl).2.2 rfl ?_)
    obtain ⟨n5, x5, z5, l5, g5, hF⟩ := ix_some hF
    obtain ⟨b5, o5, s5, j5, r5, e5, f5, k5, ⟨_, _, rfl, rfl, ⟨_, _, rfl, rfl, rfl⟩⟩⟩ := RowF.get ra0_2 g5
    refine g_take hb4 (v_ixp e5 z5 l5 ?_)
    refine g_take hb4 (v_fa ?_)
    refine g_take hb4 (v_ld1 (st.sub _ _ f5) (take_at (j := 0) k5 rfl) ?_)
    refine g_take hb4 (v_eqi ?_)
    refine v_pick hb4 ?_
    refine v_move ?_
    rcases Bool.eq_false_or_eq_true (decide (x5.1 = (0 : Int))) with hb6 | hb6
    · have hF := bif_t hb6 hF
      refine g_take hb6 (v_fa ?_)
      refine g_take hb6 (v_ld1 (st.at (i := 0) rfl).2.2 rfl ?_)
      obtain ⟨v7, e8, hF⟩ := bnd_some hF
      refine g_take hb6 (v_call st (ct99 N e8 st.d st.sub ra0_2) (fun n9 st => ?_))
      refine v_pick hb6 ?_
      refine v_move ?_
      rcases Bool.eq_false_or_eq_true v7 with hb10 | hb10
      · have hF := bif_t hb10 hF
        refine g_take hb10 (v_fa ?_)
        refine g_take hb10 (v_ld1 (st.at (i := 0) rfl).2.2 rfl ?_)
        obtain ⟨v11, e12, hF⟩ := bnd_some hF
        refine g_take hb10 (v_call st (ct101 N e12 st.d st.sub ra0_2) (fun n13 st => ?_))
        refine v_pick hb10 ?_
        refine v_move ?_
        refine r_nil ?_
        refine th_n ?_
        refine w_ret ?_
        obtain rfl := inj hF
        exact end_s st (Res.t (by repeat first | exact ge_h | refine ge_m rfl ?_ | assumption) Res.nil) rfl rfl
      · have hF := bif_f hb10 hF
        refine g_skip hb10 ?_
        refine g_skip hb10 ?_
        refine g_skip hb10 ?_
        refine v_pick' hb10 ?_
        refine v_move ?_
        refine r_nil ?_
        refine th_n ?_
        refine w_ret ?_
        obtain rfl := inj hF
        exact end_s st (Res.t (by repeat first | exact ge_h | refine ge_m rfl ?_ | assumption) Res.nil) rfl rfl
    · have hF := bif_f hb6 hF
      refine g_skip hb6 ?_
      refine g_skip hb6 ?_
      refine g_skip hb6 ?_
      refine v_pick' hb6 ?_
      refine v_move ?_
      refine g_skip rfl ?_
      refine g_skip rfl ?_
      refine g_skip rfl ?_
      refine v_pick' rfl ?_
      refine v_move ?_
      refine r_nil ?_
      refine th_n ?_
      refine w_ret ?_
      obtain rfl := inj hF
      exact end_s st (Res.t (by repeat first | exact ge_h | refine ge_m rfl ?_ | assumption) Res.nil) rfl rfl
  · have hF := bif_f hb4 hF
    refine g_skip hb4 ?_
    refine g_skip hb4 ?_
    refine g_skip hb4 ?_
    refine g_skip hb4 ?_
    refine g_skip hb4 ?_
    refine g_skip hb4 ?_
    refine v_pick' hb4 ?_
    refine v_move ?_
    refine g_skip rfl ?_
    refine g_skip rfl ?_
    refine g_skip rfl ?_
    refine v_pick' rfl ?_
    refine v_move ?_
    refine g_skip rfl ?_
    refine g_skip rfl ?_
    refine g_skip rfl ?_
    refine v_pick' rfl ?_
    refine v_move ?_
    refine r_nil ?_
    refine th_n ?_
    refine w_ret ?_
    obtain rfl := inj hF
    exact end_s st (Res.t (by repeat first | exact ge_h | refine ge_m rfl ?_ | assumption) Res.nil) rfl rfl
theorem ct23 (N : Nat) {a0_0 : Int} {a0_1 : (List (Int × Int))} {a0_2 : (List (Int × Int × Int))} {a0_3 : Int} {r : Int} (hF : sf23 N a0_0 a0_1 a0_2 a0_3 = some r) {fl : Nat} {h0 : Tr HBlk} {n0 : Nat} {F0 : PH} (hd : D h0 n0) (hs : F0.sub h0) {pa0_1 : Option (Nat × Nat)} {ca0_1 : Nat} {pa0_2 : Option (Nat × Nat)} {ca0_2 : Nat} (ra0_1 : RowF (rP rI rI) 2 F0 pa0_1 ca0_1 a0_1) (ra0_2 : RowF (rP rI (rP rI rI)) 3 F0 pa0_2 ca0_2 a0_2) : C LW fl 23 [(.agg [(i64 a0_0), (.slice pa0_1 (a0_1).length ca0_1), (.slice pa0_2 (a0_2).length ca0_2), (i64 a0_3)])] ⟨h0, n0⟩ (KS (i64 r) n0 h0) := by
  unfold sf23 at hF
  refine in_cT hd hs lw23 rfl rfl (by rfl) (fun st T hT => ?_)
  have hfl : n0 ≤ n0 := Nat.le_refl n0
  have t0 := hT 0 _ rfl
  dsimp only [L23]
  refine w_seq ?_
  refine w_reg ?_
  refine v_box st (fun b1 h2 n3 st => ?_)
  refine v_move ?_
  refine r_nil ?_
  refine th_n ?_
  refine w_seq ?_
  refine w_reg ?_
  refine v_ldn (vs := [(i64 a0_0), (.slice pa0_1 (a0_1).length ca0_1), (.slice pa0_2 (a0_2).length ca0_2), (i64 a0_3)]) (st.at (i := 0) rfl).2.2 rfl ?_
  obtain ⟨v4, e5, hF⟩ := bnd_some hF
  refine v_call st (ct56 N e5 st.d st.sub ra0_1 ra0_2) (fun n6 st => ?_)
  refine v_move ?_
  refine r_nil ?_
  refine th_n ?_
  refine w_ret ?_
  obtain rfl := inj hF
  exact end_s st (Res.t (by repeat first | exact ge_h | refine ge_m rfl ?_ | assumption) Res.nil) rfl rfl
theorem ct62 (N : Nat) {a0_0 : Int} {a0_1 : (List (Int × Int))} {a0_2 : (List (Int × Int × Int))} {a0_3 : Int} {a1 : Int} {r : (Int × (List (Int × Int)) × (List (Int × Int × Int)) × Int × (List Int) × (List Int) × Int)} (hF : sf62 N a0_0 a0_1 a0_2 a0_3 a1 = some r) {fl : Nat} {h0 : Tr HBlk} {n0 : Nat} {F0 : PH} (hd : D h0 n0) (hs : F0.sub h0) (hfl : fl ≤ n0) {pa0_1 : Option (Nat × Nat)} {ca0_1 : Nat} {pa0_2 : Option (Nat × Nat)} {ca0_2 : Nat} (ra0_1 : RowF (rP rI rI) 2 F0 pa0_1 ca0_1 a0_1) (ra0_2 : RowF (rP rI (rP rI rI)) 3 F0 pa0_2 ca0_2 a0_2) : C LW fl 62 [(.agg [(i64 a0_0), (.slice pa0_1 (a0_1).length ca0_1), (.slice pa0_2 (a0_2).length ca0_2), (i64 a0_3)]), (i64 a1)] ⟨h0, n0⟩ (KR (rvA (rP rI (rP (rL (rP rI rI) 2) (rP (rL (rP rI (rP rI rI)) 3) (rP rI (rP (rL rI 1) (rP (rL rI 1) rI))))))) F0 h0 n0 r) := by
  unfold sf62 at hF
  refine in_mT hd hs hfl lw62 rfl rfl (by rfl) (fun st T hT => ?_)
  have t0 := hT 0 _ rfl
  have t1 := hT 1 _ rfl
  dsimp only [L62]
  refine w_seq ?_
  refine w_reg ?_
  refine v_box st (fun b1 h2 n3 st => ?_)
  refine v_alloc st (fun b4 h5 n6 st => ?_)
  refine r_nil ?_
  refine th_n ?_
  refine w_seq ?_
  refine w_reg ?_
  refine v_ldn (vs := [(i64 a0_0), (.slice pa0_1 (a0_1).length ca0_1), (.slice pa0_2 (a0_2).length ca0_2), (i64 a0_3)]) (st.at (i := 0) rfl).2.2 rfl ?_
  obtain ⟨v7, e8, hF⟩ := bnd_some hF
  refine v_callR st (ct54 N e8 st.d st.sub (Nat.le_trans hfl st.ext.le) ra0_1 ra0_2) (fun u9 F9 h9 n9 le9 rv9 st => ?_)
  obtain ⟨_, rfl, ⟨_, _, rfl, rfl, ⟨_, _, rfl, ⟨py10, cy10, rfl, ry10⟩, ⟨_, _, rfl, ⟨py11, cy11, rfl, ry11⟩, ⟨_, _, rfl, rfl, ⟨_, _, rfl, ⟨py12, cy12, rfl, ry12⟩, ⟨py13, cy13, rfl, ry13⟩⟩⟩⟩⟩⟩⟩ := rv9
  refine v_move ?_
  refine v_build (cs := [(i64 v7.1), (.slice py10 (v7.2.1).length cy10), (.slice py11 (v7.2.2.1).length cy11), (i64 v7.2.2.2.1), (.slice py12 (v7.2.2.2.2.1).length cy12), (.slice py13 (v7.2.2.2.2.2).length cy13), (i64 a1)]) rfl ?_
  refine v_st (cs' := [(i64 v7.1), (.slice py10 (v7.2.1).length cy10), (.slice py11 (v7.2.2.1).length cy11), (i64 v7.2.2.2.1), (.slice py12 (v7.2.2.2.2.1).length cy12), (.slice py13 (v7.2.2.2.2.2).length cy13), (i64 a1)]) st 1 rfl rfl rfl rfl hfl (fun h14 st => ?_)
  refine r_nil ?_
  refine th_n ?_
  refine w_ret ?_
  obtain rfl := inj hF
  exact end_r st (Res.c (by repeat first | exact ge_h | refine ge_m rfl ?_ | assumption) (st.at (i := 1) rfl).2.2 (show takeN _ _ = some [(i64 v7.1), (.slice py10 (v7.2.1).length cy10), (.slice py11 (v7.2.2.1).length cy11), (i64 v7.2.2.2.1), (.slice py12 (v7.2.2.2.2.1).length cy12), (.slice py13 (v7.2.2.2.2.2).length cy13), (i64 a1)] from rfl) Res.nil) ⟨_, rfl, ⟨[(i64 v7.1)], [(.slice py10 (v7.2.1).length cy10), (.slice py11 (v7.2.2.1).length cy11), (i64 v7.2.2.2.1), (.slice py12 (v7.2.2.2.2.1).length cy12), (.slice py13 (v7.2.2.2.2.2).length cy13), (i64 a1)], rfl, rfl, ⟨[(.slice py10 (v7.2.1).length cy10)], [(.slice py11 (v7.2.2.1).length cy11), (i64 v7.2.2.2.1), (.slice py12 (v7.2.2.2.2.1).length cy12), (.slice py13 (v7.2.2.2.2.2).length cy13), (i64 a1)], rfl, ⟨_, _, rfl, ry10⟩, ⟨[(.slice py11 (v7.2.2.1).length cy11)], [(i64 v7.2.2.2.1), (.slice py12 (v7.2.2.2.2.1).length cy12), (.slice py13 (v7.2.2.2.2.2).length cy13), (i64 a1)], rfl, ⟨_, _, rfl, ry11⟩, ⟨[(i64 v7.2.2.2.1)], [(.slice py12 (v7.2.2.2.2.1).length cy12), (.slice py13 (v7.2.2.2.2.2).length cy13), (i64 a1)], rfl, rfl, ⟨[(.slice py12 (v7.2.2.2.2.1).length cy12)], [(.slice py13 (v7.2.2.2.2.2).length cy13), (i64 a1)], rfl, ⟨_, _, rfl, ry12⟩, ⟨[(.slice py13 (v7.2.2.2.2.2).length cy13)], [(i64 a1)], rfl, ⟨_, _, rfl, ry13⟩, rfl⟩⟩⟩⟩⟩⟩⟩
theorem ct34 (N : Nat) {a0_0 : Int} {a0_1 : (List (Int × Int))} {a0_2 : (List (Int × Int × Int))} {a0_3 : Int} {a1 : Int} {a2 : Int} {r : Int} (hF : sf34 N a0_0 a0_1 a0_2 a0_3 a1 a2 = some r) {fl : Nat} {h0 : Tr HBlk} {n0 : Nat} {F0 : PH} (hd : D h0 n0) (hs : F0.sub h0) {pa0_1 : Option (Nat × Nat)} {ca0_1 : Nat} {pa0_2 : Option (Nat × Nat)} {ca0_2 : Nat} (ra0_1 : RowF (rP rI rI) 2 F0 pa0_1 ca0_1 a0_1) (ra0_2 : RowF (rP rI (rP rI rI)) 3 F0 pa0_2 ca0_2 a0_2) : C LW fl 34 [(.agg [(i64 a0_0), (.slice pa0_1 (a0_1).length ca0_1), (.slice pa0_2 (a0_2).length ca0_2), (i64 a0_3)]), (i64 a1), (i64 a2)] ⟨h0, n0⟩ (KS (i64 r) n0 h0) := by
  unfold sf34 at hF
  refine in_cT hd hs lw34 rfl rfl (by rfl) (fun st T hT => ?_)
  have hfl : n0 ≤ n0 := Nat.le_refl n0
  have t0 := hT 0 _ rfl
  have t1 := hT 1 _ rfl
  have t2 := hT 2 _ rfl
  dsimp only [L34]
  refine w_seq ?_
  refine w_reg ?_
  refine v_box st (fun b1 h2 n3 st => ?_)
  refine v_move ?_
  refine r_nil ?_
  refine th_n ?_
  refine w_seq ?_
  refine w_reg ?_
  refine v_ldn (vs := [(i64 a0_0), (.slice pa0_1 (a0_1).length ca0_1), (.slice pa0_2 (a0_2).length ca0_2), (i64 a0_3)]) (st.at (i := 0) rfl).2.2 rfl ?_
  refine v_move ?_
  obtain ⟨v4, e5, hF⟩ := bnd_some hF
  refine v_call st (ct26 N e5 st.d st.sub ra0_1 ra0_2) (fun n6 st => ?_)
  refine v_alloc st (fun b7 h8 n9 st => ?_)
  refine v_st (cs' := [(i64 v4.1), (i64 v4.2)]) st 1 rfl rfl rfl rfl hfl (fun h10 st => ?_)
  refine r_nil ?_
  refine th_n ?_
  refine w_seq ?_
  refine w_reg ?_
  refine v_move ?_
  refine v_fa ?_
  refine v_ld1 (st.at (i := 1) rfl).2.2 rfl ?_
  obtain ⟨q11, hF⟩ := ck_some hF
  refine v_sub q11 ?_
  refine v_fa ?_
  refine v_ld1 (st.at (i := 1) rfl).2.2 rfl ?_
  refine v_move ?_
  obtain ⟨q12, hF⟩ := ck_some hF
  refine v_sub q12 ?_
  refine v_max3 ?_
  refine v_move ?_
  refine r_nil ?_
  refine th_n ?_
  refine w_ret ?_
  obtain rfl := inj hF
  exact end_s st (Res.t (by repeat first | exact ge_h | refine ge_m rfl ?_ | assumption) Res.nil) rfl rfl
theorem ct65 (N : Nat) {a0_0 : Int} {a0_1 : (List (Int × Int))} {a0_2 : (List (Int × Int × Int))} {a0_3 : Int} {a0_4 : (List Int)} {a0_5 : (List Int)} {a0_6 : Int} {a1 : Int} {r : (List Int)} (hF : sf65 N a0_0 a0_1 a0_2 a0_3 a0_4 a0_5 a0_6 a1 = some r) {fl : Nat} {h0 : Tr HBlk} {n0 : Nat} {F0 : PH} (hd : D h0 n0) (hs : F0.sub h0) (hfl : fl ≤ n0) {pa0_1 : Option (Nat × Nat)} {ca0_1 : Nat} {pa0_2 : Option (Nat × Nat)} {ca0_2 : Nat} {pa0_4 : Option (Nat × Nat)} {ca0_4 : Nat} {pa0_5 : Option (Nat × Nat)} {ca0_5 : Nat} (ra0_1 : RowF (rP rI rI) 2 F0 pa0_1 ca0_1 a0_1) (ra0_2 : RowF (rP rI (rP rI rI)) 3 F0 pa0_2 ca0_2 a0_2) (ra0_4 : RowF rI 1 F0 pa0_4 ca0_4 a0_4) (ra0_5 : RowF rI 1 F0 pa0_5 ca0_5 a0_5) : C LW fl 65 [(.agg [(i64 a0_0), (.slice pa0_1 (a0_1).length ca0_1), (.slice pa0_2 (a0_2).length ca0_2), (i64 a0_3), (.slice pa0_4 (a0_4).length ca0_4), (.slice pa0_5 (a0_5).length ca0_5), (i64 a0_6)]), (i64 a1)] ⟨h0, n0⟩ (KR (lvL rI 1) F0 h0 n0 r) := by
  unfold sf65 at hF
  refine in_mT hd hs hfl lw65 rfl rfl (by rfl) (fun st T hT => ?_)
  have t0 := hT 0 _ rfl
  have t1 := hT 1 _ rfl
  dsimp only [L65]
  refine w_seq ?_
  refine w_reg ?_
  refine v_box st (fun b1 h2 n3 st => ?_)
  refine v_move ?_
  refine r_nil ?_
  refine th_n ?_
  refine w_seq ?_
  refine w_reg ?_
  refine v_move ?_
  refine r_nil ?_
  refine th_n ?_
  refine w_seq ?_
  refine w_seq ?_
  refine w_reg ?_
  refine v_fa ?_
  refine v_fa ?_
  refine v_fa ?_
  refine v_ld1 (st.at (i := 0) rfl).2.2 rfl ?_
  obtain ⟨q4, hF⟩ := ck_some hF
  refine v_add q4 ?_
  refine v_move ?_
  refine r_nil ?_
  refine th_n ?_
  refine w_block ?_
  have st := st.nilL 1
  have w5 : LR rI 1 F0 ([] : List Int) [] := LR.nil
  obtain ⟨y21, hy, hF⟩ := bnd_some hF
  refine v_loopD (sf65_L1 N a0_0 a0_1 a0_2 a0_3 a0_4 a0_5 a0_6 a1) (fun x7 T ds8 h nx => ∃ (F8 : PH) (o9 : Option Nat) (c9 : Nat) (cs9 : List HV), ds8 = [] ∧ PH.le F0 F8 ∧ St n0 h0 F0 F8 h nx [.bx b1 [(i64 a0_0), (.slice pa0_1 (a0_1).length ca0_1), (.slice pa0_2 (a0_2).length ca0_2), (i64 a0_3), (.slice pa0_4 (a0_4).length ca0_4), (.slice pa0_5 (a0_5).length ca0_5), (i64 a0_6)], .ls o9 c9 cs9 1] ∧ LR rI 1 F8 x7.1 cs9 ∧ T.get 1 = some (i64 a1) ∧ T.get 2 = some (.ptr (some (b1, 0))) ∧ T.get 5 = some (slv o9 (x7.1).length c9) ∧ T.get 11 = some (i64 (a0_3 + (1 : Int))) ∧ T.get 12 = some (i64 x7.2)) (fun y e a σ => e = .exit 0 ∧ a.nt = 26 ∧ ∃ (F22 : PH) (o23 : Option Nat) (c23 : Nat) (cs23 : List HV), a.defers = [] ∧ PH.le F0 F22 ∧ St n0 h0 F0 F22 σ.h σ.nx [.bx b1 [(i64 a0_0), (.slice pa0_1 (a0_1).length ca0_1), (.slice pa0_2 (a0_2).length ca0_2), (i64 a0_3), (.slice pa0_4 (a0_4).length ca0_4), (.slice pa0_5 (a0_5).length ca0_5), (i64 a0_6)], .ls o23 c23 cs23 1] ∧ LR rI 1 F22 y cs23 ∧ a.tmps.get 5 = some (slv o23 (y).length c23)) (fun x7 T ds8 h nx s hp hF => ?_) N _ y21 _ _ _ _ hy ⟨F0, none, 0, [], rfl, (PH.le.refl _), st, w5, (by repeat first | exact ge_h | refine ge_m rfl ?_ | assumption), (by repeat first | exact ge_h | refine ge_m rfl ?_ | assumption), (by repeat first | exact ge_h | refine ge_m rfl ?_ | assumption), (by repeat first | exact ge_h | refine ge_m rfl ?_ | assumption), (by repeat first | exact ge_h | refine ge_m rfl ?_ | assumption)⟩ (fun e a σ hne hq => ?_)
  · obtain ⟨F8, o9, c9, cs9, rfl, le8, st, w9, t1, t2, t5, t11, t12⟩ := hp
    unfold sf65_L1 at hF
    unfold L65w0
    refine w_seq ?_
    refine w_reg ?_
    refine v_lss ?_
    refine r_nil ?_
    refine th_n ?_
    refine w_seq ?_
    refine v_cond (fun hb24 => ?_) (fun hb24 => ?_)
    · have hF := bif_t hb24 hF
      refine w_skip ?_
      refine th_n ?_
      refine w_seq ?_
      refine w_block ?_
      refine w_seq ?_
      refine w_reg ?_
      refine v_move ?_
      refine v_move ?_
      refine r_nil ?_
      refine th_n ?_
      refine w_seq ?_
      refine w_reg ?_
      refine v_ldn (vs := [(i64 a0_0), (.slice pa0_1 (a0_1).length ca0_1), (.slice pa0_2 (a0_2).length ca0_2), (i64 a0_3), (.slice pa0_4 (a0_4).length ca0_4), (.slice pa0_5 (a0_5).length ca0_5), (i64 a0_6)]) (st.at (i := 0) rfl).2.2 rfl ?_
      refine v_move ?_
      refine v_move ?_
      refine v_build (cs := [(i64 a1), (i64 x7.2)]) rfl ?_
      obtain ⟨v25, e26, hF⟩ := bnd_some hF
      refine v_call st (ct73 N e26 st.d st.sub (RowF.mono le8 ra0_1) (RowF.mono le8 ra0_2) (RowF.mono le8 ra0_4) (RowF.mono le8 ra0_5)) (fun n27 st => ?_)
      refine r_nil ?_
      refine th_n ?_
      refine v_cond (fun hb28 => ?_) (fun hb28 => ?_)
      · have hF := bif_t hb28 hF
        refine w_reg ?_
        refine v_move ?_
        refine v_move ?_
        refine v_bs (cs := [(i64 x7.2)]) st rfl (fun b29 h30 n31 st => ?_)
        obtain ⟨q32, hF⟩ := ck_some hF
        have w32 : LR rI 1 F8 (x7.1 ++ [x7.2]) (cs9 ++ [(i64 x7.2)]) := LR.app w9 (LR.one (rfl))
        refine v_aps (n := 1) (ox := 0) (m := (x7.1 ++ [x7.2]).length) (row := [(i64 x7.2)]) st 1 rfl w9.1 (st.at (i := 2) rfl).2.2 rfl rfl q32 hfl (by decide) (by decide) (by simp) (fun o32 c32 h32 n32 st => ?_)
        refine v_move ?_
        refine r_nil ?_
        refine ib_n ?_
        refine th_n ?_
        refine w_reg ?_
        obtain ⟨q33, hF⟩ := ck_some hF
        refine v_add q33 ?_
        refine v_move ?_
        refine r_nil ?_
        refine thn ⟨_, (inj hF).symm, rfl, ?_⟩
        dsimp only
        exact ⟨F8, o32, c32, (cs9 ++ [(i64 x7.2)]), rfl, le8, (st.drop (by first | exact List.Sublist.refl _ | (repeat first | exact List.nil_sublist _ | refine List.Sublist.cons_cons _ ?_ | refine List.Sublist.cons _ ?_))), w32, (by repeat first | exact ge_h | refine ge_m rfl ?_ | assumption), (by repeat first | exact ge_h | refine ge_m rfl ?_ | assumption), (by repeat first | exact ge_h | refine ge_m rfl ?_ | assumption), (by repeat first | exact ge_h | refine ge_m rfl ?_ | assumption), (by repeat first | exact ge_h | refine ge_m rfl ?_ | assumption)⟩
      · have hF := bif_f hb28 hF
        refine w_skip ?_
        refine ib_n ?_
        refine th_n ?_
        refine w_reg ?_
        obtain ⟨q34, hF⟩ := ck_some hF
        refine v_add q34 ?_
        refine v_move ?_
        refine r_nil ?_
        refine thn ⟨_, (inj hF).symm, rfl, ?_⟩
        dsimp only
        exact ⟨F8, o9, c9, cs9, rfl, le8, st, w9, (by repeat first | exact ge_h | refine ge_m rfl ?_ | assumption), (by repeat first | exact ge_h | refine ge_m rfl ?_ | assumption), (by repeat first | exact ge_h | refine ge_m rfl ?_ | assumption), (by repeat first | exact ge_h | refine ge_m rfl ?_ | assumption), (by repeat first | exact ge_h | refine ge_m rfl ?_ | assumption)⟩
    · have hF := bif_f hb24 hF
      refine w_exit ?_
      refine th_e ?_
      refine th_e ?_
      refine ⟨_, (inj hF).symm, rfl, rfl, ?_⟩
      dsimp only
      exact ⟨F8, o9, c9, cs9, rfl, le8, st, w9, (by repeat first | exact ge_h | refine ge_m rfl ?_ | assumption)⟩
  · obtain ⟨N9, T, ds22⟩ := a
    obtain ⟨h35, n36⟩ := σ
    obtain ⟨rfl, e1, F22, o23, c23, cs23, e2, le22, st, w23, t5⟩ := hq
    dsimp only at e1 e2
    subst e1
    subst e2
    dsimp only at st t5
    refine ib_e ?_
    refine th_n ?_
    refine w_seq ?_
    refine w_reg ?_
    refine v_move ?_
    refine v_move ?_
    refine r_nil ?_
    refine th_n ?_
    refine w_ret ?_
    obtain rfl := inj hF
    obtain ⟨F37, le37, st, rf37⟩ := St.freeze st 1 rfl w23 (by decide)
    have le38 := PH.le.trans le22 le37
    exact end_r st (Res.t (by repeat first | exact ge_h | refine ge_m rfl ?_ | assumption) Res.nil) ⟨_, _, rfl, rf37⟩
end Go.Hx.V

/- Functions of the program come to that. -/
namespace Go.Hx.V
open Go.Hx
set_option linter.unusedVariables false
set_option maxRecDepth 20000
set_option maxHeartbeats 4000000
attribute [local irreducible] W R C thenH inBlockH
end Go.Hx.V

/- Functions of the program come to that. -/
namespace Go.Hx.V
open Go.Hx
set_option linter.unusedVariables false
set_option maxRecDepth 20000
set_option maxHeartbeats 4000000
attribute [local irreducible] W R C thenH inBlockH
theorem ct50 (N : Nat) {a0_0 : Int} {a0_1 : (List (Int × Int))} {a0_2 : (List (Int × Int × Int))} {a0_3 : Int} {r : Bool} (hF : sf50 N a0_0 a0_1 a0_2 a0_3 = some r) {fl : Nat} {h0 : Tr HBlk} {n0 : Nat} {F0 : PH} (hd : D h0 n0) (hs : F0.sub h0) {pa0_1 : Option (Nat × Nat)} {ca0_1 : Nat} {pa0_2 : Option (Nat × Nat)} {ca0_2 : Nat} (ra0_1 : RowF (rP rI rI) 2 F0 pa0_1 ca0_1 a0_1) (ra0_2 : RowF (rP rI (rP rI rI)) 3 F0 pa0_2 ca0_2 a0_2) : C LW fl 50 [(.agg [(i64 a0_0), (.slice pa0_1 (a0_1).length ca0_1), (.slice pa0_2 (a0_2).length ca0_2), (i64 a0_3)])] ⟨h0, n0⟩ (KS (.bool r) n0 h0) := by
  unfold sf50 at hF
  refine in_cT hd hs lw50 rfl rfl (by rfl) (fun st T hT => ?_)
  have hfl : n0 ≤ n0 := Nat.le_refl n0
  have t0 := hT 0 _ rfl
  dsimp only [L50]
  refine w_seq ?_
  refine w_reg ?_
  refine v_box st (fun b1 h2 n3 st => ?_)
  refine v_move ?_
  refine r_nil ?_
  refine th_n ?_
  refine w_seq ?_
  refine w_reg ?_
  refine v_fa ?_
  refine v_ld1 (st.at (i := 0) rfl).2.2 rfl ?_
  refine v_leq ?_
  refine v_move ?_
  rcases Bool.eq_false_or_eq_true (decide ((1 : Int) ≤ a0_0)) with hb4 | hb4
  · have hF := bif_t hb4 hF
    refine g_take hb4 (v_fa ?_)
    refine g_take hb4 (v_ld1 (st.at (i := 0) rfl).2.2 rfl ?_)
    refine g_take hb4 (v_leq ?_)
    refine v_pick hb4 ?_
    refine v_move ?_
    rcases Bool.eq_false_or_eq_true (decide (a0_0 ≤ (50 : Int))) with hb5 | hb5
    · have hF := bif_t hb5 hF
      refine g_take hb5 (v_fa ?_)
      refine g_take hb5 (v_ld1 (st.at (i := 0) rfl).2.2 rfl ?_)
      refine g_take hb5 (v_leq ?_)
      refine v_pick hb5 ?_
      refine v_move ?_
      rcases Bool.eq_false_or_eq_true (decide ((1 : Int) ≤ a0_3)) with hb6 | hb6
      · have hF := bif_t hb6 hF
        refine g_take hb6 (v_fa ?_)
        refine g_take hb6 (v_ld1 (st.at (i := 0) rfl).2.2 rfl ?_)
        refine g_take hb6 (v_leq ?_)
        refine v_pick hb6 ?_
        refine v_move ?_
        rcases Bool.eq_false_or_eq_true (decide (a0_3 ≤ (60 : Int))) with hb7 | hb7
        · have hF := bif_t hb7 hF
          refine g_take hb7 (v_ldn (vs := [(i64 a0_0), (.slice pa0_1 (a0_1).length ca0_1), (.slice pa0_2 (a0_2).length ca0_2), (i64 a0_3)]) (st.at (i := 0) rfl).2.2 rfl ?_)
          obtain ⟨v8, e9, hF⟩ := bnd_some hF
          refine g_take hb7 (v_call st (ct76 N e9 st.d st.sub ra0_1 ra0_2) (fun n10 st => ?_))
          refine v_pick hb7 ?_
          refine v_move ?_
          rcases Bool.eq_false_or_eq_true v8 with hb11 | hb11
          · have hF := bif_t hb11 hF
            refine g_take hb11 (v_ldn (vs := [(i64 a0_0), (.slice pa0_1 (a0_1).length ca0_1), (.slice pa0_2 (a0_2).length ca0_2), (i64 a0_3)]) (st.at (i := 0) rfl).2.2 rfl ?_)
            obtain ⟨v12, e13, hF⟩ := bnd_some hF
            refine g_take hb11 (v_call st (ct77 N e13 st.d st.sub ra0_1 ra0_2) (fun n14 st => ?_))
            refine v_pick hb11 ?_
            refine v_move ?_
            rcases Bool.eq_false_or_eq_true v12 with hb15 | hb15
            · have hF := bif_t hb15 hF
              refine g_take hb15 (v_ldn (vs := [(i64 a0_0), (.slice pa0_1 (a0_1).length ca0_1), (.slice pa0_2 (a0_2).length ca0_2), (i64 a0_3)]) (st.at (i := 0) rfl).2.2 rfl ?_)
              obtain ⟨v16, e17, hF⟩ := bnd_some hF
              refine g_take hb15 (v_call st (ct78 N e17 st.d st.sub ra0_1 ra0_2) (fun n18 st => ?_))
              refine v_pick hb15 ?_
              refine v_move ?_
              refine r_nil ?_
              refine th_n ?_
              refine w_ret ?_
              obtain rfl := inj hF
              exact end_s st (Res.t (by repeat first | exact ge_h | refine ge_m rfl ?_ | assumption) Res.nil) rfl rfl
            · have hF := bif_f hb15 hF
              refine g_skip hb15 ?_
              refine g_skip hb15 ?_
              refine v_pick' hb15 ?_
              refine v_move ?_
              refine r_nil ?_
              refine th_n ?_
              refine w_ret ?_
              obtain rfl := inj hF
              exact end_s st (Res.t (by repeat first | exact ge_h | refine ge_m rfl ?_ | assumption) Res.nil) rfl rfl
          · have hF := bif_f hb11 hF
            refine g_skip hb11 ?_
            refine g_skip hb11 ?_
            refine v_pick' hb11 ?_
            refine v_move ?_
            refine g_skip rfl ?_
            refine g_skip rfl ?_
            refine v_pick' rfl ?_
            refine v_move ?_
            refine r_nil ?_
            refine th_n ?_
            refine w_ret ?_
            obtain rfl := inj hF
            exact end_s st (Res.t (by repeat first | exact ge_h | refine ge_m rfl ?_ | assumption) Res.nil) rfl rfl
        · have hF := bif_f hb7 hF
          refine g_skip hb7 ?_
          refine g_skip hb7 ?_
          refine v_pick' hb7 ?_
          refine v_move ?_
          refine g_skip rfl ?_
          refine g_skip rfl ?_
          refine v_pick' rfl ?_
          refine v_move ?_
          refine g_skip rfl ?_
          refine g_skip rfl ?_
          refine v_pick' rfl ?_
          refine v_move ?_
          refine r_nil ?_
          refine th_n ?_
          refine w_ret ?_
          obtain rfl := inj hF
          exact end_s st (Res.t (by repeat first | exact ge_h | refine ge_m rfl ?_ | assumption) Res.nil) rfl rfl
      · have hF := bif_f hb6 hF
        refine g_skip hb6 ?_
        refine g_skip hb6 ?_
        refine g_skip hb6 ?_
        refine v_pick' hb6 ?_
        refine v_move ?_
        refine g_skip rfl ?_
        refine g_skip rfl ?_
        refine v_pick' rfl ?_
        refine v_move ?_
        refine g_skip rfl ?_
        refine g_skip rfl ?_
        refine v_pick' rfl ?_
        refine v_move ?_
        refine g_skip rfl ?_
        refine g_skip rfl ?_
        refine v_pick' rfl ?_
        refine v_move ?_
        refine r_nil ?_
        refine th_n ?_
        refine w_ret ?_
        obtain rfl := inj hF
        exact end_s st (Res.t (by repeat first | exact ge_h | refine ge_m rfl ?_ | assumption) Res.nil) rfl rfl
    · have hF := bif_f hb5 hF
      refine g_skip hb5 ?_
      refine g_skip hb5 ?_
      refine g_skip hb5 ?_
      refine v_pick' hb5 ?_
      refine v_move ?_
      refine g_skip rfl ?_
      refine g_skip rfl ?_
      refine g_skip rfl ?_
      refine v_pick' rfl ?_
      refine v_move ?_
      refine g_skip rfl ?_
      refine g_skip rfl ?_
      refine v_pick' rfl ?_
      refine v_move ?_
      refine g_skip rfl ?_
      refine g_skip rfl ?_
      refine v_pick' rfl ?_
      refine v_move ?_
      refine g_skip rfl ?_
      refine g_skip rfl ?_
      refine v_pick' rfl ?_
      refine v_move ?_
      refine r_nil ?_
      refine th_n ?_
      refine w_ret ?_
      obtain rfl := inj hF
      exact end_s st (Res.t (by repeat first | exact ge_h | refine ge_m rfl ?_ | assumption) Res.nil) rfl rfl
  · have hF := bif_f hb4 hF
    refine g_skip hb4 ?_
    refine g_skip hb4 ?_
    refine g_skip hb4 ?_
    refine v_pick' hb4 ?_
    refine v_move ?_
    refine g_skip rfl ?_
    refine g_skip rfl ?_
    refine g_skip rfl ?_
    refine v_pick' rfl ?_
    refine v_move ?_
    refine g_skip rfl ?_
    refine g_skip rfl ?_
    refine g_skip rfl ?_
    refine v_pick' rfl ?_
    refine v_move ?_
    refine g_skip rfl ?_
    refine g_skip rfl ?_
    refine v_pick' rfl ?_
    refine v_move ?_
    refine g_skip rfl ?_
    refine g_skip rfl ?_
    refine v_pick' rfl ?_
    refine v_move ?_
    refine g_skip rfl ?_
    refine g_skip rfl ?_
    refine v_pick' rfl ?_
    refine v_move ?_
    refine r_nil ?_
    refine th_n ?_
    refine w_ret ?_
    obtain rfl := inj hF
    exact end_s st (Res.t (by repeat first | exact ge_h | refine ge_m rfl ?_ | assumption) Res.nil) rfl rfl
theorem ct36 (N : Nat) {a0_0 : Int} {a0_1 : (List (Int × Int))} {a0_2 : (List (Int × Int × Int))} {a0_3 : Int} {a1 : Int} {a2 : Int} {r : (List Int)} (hF : sf36 N a0_0 a0_1 a0_2 a0_3 a1 a2 = some r) {fl : Nat} {h0 : Tr HBlk} {n0 : Nat} {F0 : PH} (hd : D h0 n0) (hs : F0.sub h0) (hfl : fl ≤ n0) {pa0_1 : Option (Nat × Nat)} {ca0_1 : Nat} {pa0_2 : Option (Nat × Nat)} {ca0_2 : Nat} (ra0_1 : RowF (rP rI rI) 2 F0 pa0_1 ca0_1 a0_1) (ra0_2 : RowF (rP rI (rP rI rI)) 3 F0 pa0_2 ca0_2 a0_2) : C LW fl 36 [(.agg [(i64 a0_0), (.slice pa0_1 (a0_1).length ca0_1), (.slice pa0_2 (a0_2).length ca0_2), (i64 a0_3)]), (i64 a1), (i64 a2)] ⟨h0, n0⟩ (KR (lvL rI 1) F0 h0 n0 r) := by
  unfold sf36 at hF
  refine in_mT hd hs hfl lw36 rfl rfl (by rfl) (fun st T hT => ?_)
  have t0 := hT 0 _ rfl
  have t1 := hT 1 _ rfl
  have t2 := hT 2 _ rfl
  dsimp only [L36]
  refine w_seq ?_
  refine w_reg ?_
  refine v_box st (fun b1 h2 n3 st => ?_)
  refine v_move ?_
  refine r_nil ?_
  refine th_n ?_
  refine w_seq ?_
  refine w_reg ?_
  refine v_move ?_
  refine r_nil ?_
  refine th_n ?_
  refine w_seq ?_
  refine w_seq ?_
  refine w_reg ?_
  refine v_move ?_
  refine r_nil ?_
  refine th_n ?_
  refine w_block ?_
  have st := st.nilL 1
  have w4 : LR rI 1 F0 ([] : List Int) [] := LR.nil
  obtain ⟨y20, hy, hF⟩ := bnd_some hF
  refine v_loopD (sf36_L1 N a0_0 a0_1 a0_2 a0_3 a1 a2) (fun x6 T ds7 h nx => ∃ (F7 : PH) (o8 : Option Nat) (c8 : Nat) (cs8 : List HV), ds7 = [] ∧ PH.le F0 F7 ∧ St n0 h0 F0 F7 h nx [.bx b1 [(i64 a0_0), (.slice pa0_1 (a0_1).length ca0_1), (.slice pa0_2 (a0_2).length ca0_2), (i64 a0_3)], .ls o8 c8 cs8 1] ∧ LR rI 1 F7 x6.1 cs8 ∧ T.get 1 = some (i64 a1) ∧ T.get 2 = some (i64 a2) ∧ T.get 3 = some (.ptr (some (b1, 0))) ∧ T.get 7 = some (slv o8 (x6.1).length c8) ∧ T.get 8 = some (i64 x6.2)) (fun y e a σ => e = .exit 0 ∧ a.nt = 26 ∧ ∃ (F21 : PH) (o22 : Option Nat) (c22 : Nat) (cs22 : List HV), a.defers = [] ∧ PH.le F0 F21 ∧ St n0 h0 F0 F21 σ.h σ.nx [.bx b1 [(i64 a0_0), (.slice pa0_1 (a0_1).length ca0_1), (.slice pa0_2 (a0_2).length ca0_2), (i64 a0_3)], .ls o22 c22 cs22 1] ∧ LR rI 1 F21 y cs22 ∧ a.tmps.get 7 = some (slv o22 (y).length c22)) (fun x6 T ds7 h nx s hp hF => ?_) N _ y20 _ _ _ _ hy ⟨F0, none, 0, [], rfl, (PH.le.refl _), st, w4, (by repeat first | exact ge_h | refine ge_m rfl ?_ | assumption), (by repeat first | exact ge_h | refine ge_m rfl ?_ | assumption), (by repeat first | exact ge_h | refine ge_m rfl ?_ | assumption), (by repeat first | exact ge_h | refine ge_m rfl ?_ | assumption), (by repeat first | exact ge_h | refine ge_m rfl ?_ | assumption)⟩ (fun e a σ hne hq => ?_)
  · obtain ⟨F7, o8, c8, cs8, rfl, le7, st, w8, t1, t2, t3, t7, t8⟩ := hp
    unfold sf36_L1 at hF
    unfold L36w0
    refine w_seq ?_
    refine w_seq ?_
    refine w_reg ?_
    refine v_move ?_
    refine v_fa ?_
    refine v_ld1 (st.at (i := 0) rfl).2.2 rfl ?_
    refine v_leq ?_
    refine r_nil ?_
    refine th_n ?_
    refine v_cond (fun hb23 => ?_) (fun hb23 => ?_)
    · have hF := bif_t hb23 hF
      refine w_skip ?_
      refine th_n ?_
      refine w_seq ?_
      refine w_block ?_
      refine w_seq ?_
      refine w_reg ?_
      refine v_ldn (vs := [(i64 a0_0), (.slice pa0_1 (a0_1).length ca0_1), (.slice pa0_2 (a0_2).length ca0_2), (i64 a0_3)]) (st.at (i := 0) rfl).2.2 rfl ?_
      refine v_move ?_
      refine v_move ?_
      obtain ⟨v24, e25, hF⟩ := bnd_some hF
      refine v_call st (ct34 N e25 st.d st.sub (RowF.mono le7 ra0_1) (RowF.mono le7 ra0_2)) (fun n26 st => ?_)
      refine v_move ?_
      refine v_leq ?_
      refine r_nil ?_
      refine th_n ?_
      refine v_cond (fun hb27 => ?_) (fun hb27 => ?_)
      · have hF := bif_t hb27 hF
        refine w_reg ?_
        refine v_move ?_
        refine v_move ?_
        refine v_bs (cs := [(i64 x6.2)]) st rfl (fun b28 h29 n30 st => ?_)
        obtain ⟨q31, hF⟩ := ck_some hF
        have w31 : LR rI 1 F7 (x6.1 ++ [x6.2]) (cs8 ++ [(i64 x6.2)]) := LR.app w8 (LR.one (rfl))
        refine v_aps (n := 1) (ox := 0) (m := (x6.1 ++ [x6.2]).length) (row := [(i64 x6.2)]) st 1 rfl w8.1 (st.at (i := 2) rfl).2.2 rfl rfl q31 hfl (by decide) (by decide) (by simp) (fun o31 c31 h31 n31 st => ?_)
        refine v_move ?_
        refine r_nil ?_
        refine ib_n ?_
        refine th_n ?_
        refine w_reg ?_
        refine v_move ?_
        obtain ⟨q32, hF⟩ := ck_some hF
        refine v_add q32 ?_
        refine v_move ?_
        refine r_nil ?_
        refine thn ⟨_, (inj hF).symm, rfl, ?_⟩
        dsimp only
        exact ⟨F7, o31, c31, (cs8 ++ [(i64 x6.2)]), rfl, le7, (st.drop (by first | exact List.Sublist.refl _ | (repeat first | exact List.nil_sublist _ | refine List.Sublist.cons_cons _ ?_ | refine List.Sublist.cons _ ?_))), w31, (by repeat first | exact ge_h | refine ge_m rfl ?_ | assumption), (by repeat first | exact ge_h | refine ge_m rfl ?_ | assumption), (by repeat first | exact ge_h | refine ge_m rfl ?_ | assumption), (by repeat first | exact ge_h | refine ge_m rfl ?_ | assumption), (by repeat first | exact ge_h | refine ge_m rfl ?_ | assumption)⟩
      · have hF := bif_f hb27 hF
        refine w_skip ?_
        refine ib_n ?_
        refine th_n ?_
        refine w_reg ?_
        refine v_move ?_
        obtain ⟨q33, hF⟩ := ck_some hF
        refine v_add q33 ?_
        refine v_move ?_
        refine r_nil ?_
        refine thn ⟨_, (inj hF).symm, rfl, ?_⟩
        dsimp only
        exact ⟨F7, o8, c8, cs8, rfl, le7, st, w8, (by repeat first | exact ge_h | refine ge_m rfl ?_ | assumption), (by repeat first | exact ge_h | refine ge_m rfl ?_ | assumption), (by repeat first | exact ge_h | refine ge_m rfl ?_ | assumption), (by repeat first | exact ge_h | refine ge_m rfl ?_ | assumption), (by repeat first | exact ge_h | refine ge_m rfl ?_ | assumption)⟩
    · have hF := bif_f hb23 hF
      refine w_exit ?_
      refine th_e ?_
      refine th_e ?_
      refine ⟨_, (inj hF).symm, rfl, rfl, ?_⟩
      dsimp only
      exact ⟨F7, o8, c8, cs8, rfl, le7, st, w8, (by repeat first | exact ge_h | refine ge_m rfl ?_ | assumption)⟩
  · obtain ⟨N9, T, ds21⟩ := a
    obtain ⟨h34, n35⟩ := σ
    obtain ⟨rfl, e1, F21, o22, c22, cs22, e2, le21, st, w22, t7⟩ := hq
    dsimp only at e1 e2
    subst e1
    subst e2
    dsimp only at st t7
    refine ib_e ?_
    refine th_n ?_
    refine w_seq ?_
    refine w_reg ?_
    refine v_move ?_
    refine v_move ?_
    refine r_nil ?_
    refine th_n ?_
    refine w_ret ?_
    obtain rfl := inj hF
    obtain ⟨F36, le36, st, rf36⟩ := St.freeze st 1 rfl w22 (by decide)
    have le37 := PH.le.trans le21 le36
    exact end_r st (Res.t (by repeat first | exact ge_h | refine ge_m rfl ?_ | assumption) Res.nil) ⟨_, _, rfl, rf36⟩
end Go.Hx.V

