/- Functions of the program come to that. -/
import Derived.Test.YtcjidgfngjoclaaH05
set_option linter.all false
/- Functions of the program come to that. -/
namespace Go.Hx.V
open Go.Hx
set_option linter.unusedVariables false
set_option maxRecDepth 20000
set_option maxHeartbeats 4000000
attribute [local irreducible] W R C thenH inBlockH Tr.get Tr.set lo ck bnd ix iter
theorem ct97 (N : Nat) {a0_0 : Int} {a0_1 : Int} {a0_2 : Int} {a0_3 : Int} {r : (Int × Int × Int × Int × Int × (Nat → Int))} (hF : sf97 N a0_0 a0_1 a0_2 a0_3 = some r) {fl : Nat} {h0 : Tr HBlk} {n0 : Nat} {F0 : PH} (hd : D h0 n0) (hs : F0.sub h0) : C LW fl 97 [(.agg [(i64 a0_0), (i64 a0_1), (i64 a0_2), (i64 a0_3)])] ⟨h0, n0⟩ (KS (.agg ([(i64 r.1), (i64 r.2.1), (i64 r.2.2.1), (i64 r.2.2.2.1), (i64 r.2.2.2.2.1)] ++ (eI .i64 169 r.2.2.2.2.2))) n0 h0) := by
  unfold sf97 at hF
  refine in_cT hd hs lw97 rfl rfl (by rfl) (fun st T hT => ?_)
  have hfl : n0 ≤ n0 := Nat.le_refl n0
  have t0 := hT 0 _ rfl
  dsimp only [L97]
  refine w_seq ?_; refine w_reg ?_; refine v_box st (fun b1 h2 n3 st => ?_); refine v_alloc st (fun b4 h5 n6 st => ?_)
  have st := st.cells 1 rfl ([(i64 (0 : Int)), (i64 (0 : Int)), (i64 (0 : Int)), (i64 (0 : Int)), (i64 (0 : Int))] ++ (eI .i64 169 (fun _ => 0))) rfl
  refine r_nil ?_; refine th_n ?_; refine w_seq ?_; refine w_reg ?_; refine v_ldn (vs := [(i64 a0_0), (i64 a0_1), (i64 a0_2), (i64 a0_3)]) (st.at (i := 0) rfl).2.2 rfl ?_; refine v_fa ?_; refine v_ld1 (st.at (i := 0) rfl).2.2 rfl ?_; obtain ⟨q7, hF⟩ := ck_some hF; refine v_add q7 ?_; refine v_build (cs := ([(i64 (a0_0 + (1 : Int)))] ++ (eI .i64 169 (fun _ => 0)))) rfl ?_; refine v_build (cs := ([(i64 a0_0), (i64 a0_1), (i64 a0_2), (i64 a0_3), (i64 (a0_0 + (1 : Int)))] ++ (eI .i64 169 (fun _ => 0)))) rfl ?_; refine v_alloc st (fun b8 h9 n10 st => ?_)
  have st := st.cells 2 rfl ([(i64 (0 : Int)), (i64 (0 : Int)), (i64 (0 : Int)), (i64 (0 : Int)), (i64 (0 : Int))] ++ (eI .i64 169 (fun _ => 0))) rfl
  refine v_st (v := (.agg ([(i64 a0_0), (i64 a0_1), (i64 a0_2), (i64 a0_3), (i64 (a0_0 + (1 : Int)))] ++ (eI .i64 169 (fun _ => 0))))) (cs' := ([(i64 a0_0), (i64 a0_1), (i64 a0_2), (i64 a0_3), (i64 (a0_0 + (1 : Int)))] ++ (eI .i64 169 (fun _ => 0)))) st 2 rfl (ov_tail (q := ([(i64 (0 : Int)), (i64 (0 : Int)), (i64 (0 : Int)), (i64 (0 : Int)), (i64 (0 : Int))] ++ (eI .i64 169 (fun _ => 0)))) (r := ([(i64 a0_0), (i64 a0_1), (i64 a0_2), (i64 a0_3), (i64 (a0_0 + (1 : Int)))] ++ (eI .i64 169 (fun _ => 0)))) [] rfl (by simp [eI_len, eB_len])) (len_tail _ eI_len (by rfl)) (one_tail _ (by rfl) eI_one) hfl (fun h11 st => ?_)
  refine r_nil ?_; refine th_n ?_; refine w_seq ?_; refine w_seq ?_; refine w_reg ?_; refine v_move ?_; refine r_nil ?_; refine th_n ?_; refine w_block ?_; obtain ⟨y126, hy, hF⟩ := bnd_some hF; refine v_loopD (sf97_L2 N a0_0 a0_2 a0_3) (fun x69 T ds70 h nx => ∃ (F70 : PH), ds70 = [] ∧ PH.le F0 F70 ∧ St n0 h0 F0 F70 h nx [.bx b1 [(i64 a0_0), (i64 a0_1), (i64 a0_2), (i64 a0_3)], .bx b4 ([(i64 (0 : Int)), (i64 (0 : Int)), (i64 (0 : Int)), (i64 (0 : Int)), (i64 (0 : Int))] ++ (eI .i64 169 (fun _ => 0))), .bx b8 ([(i64 a0_0), (i64 a0_1), (i64 a0_2), (i64 a0_3), (i64 (a0_0 + (1 : Int)))] ++ (eI .i64 169 x69.2))] ∧ T.get 1 = some (.ptr (some (b1, 0))) ∧ T.get 2 = some (.ptr (some (b4, 0))) ∧ T.get 3 = some (.ptr (some (b8, 0))) ∧ T.get 4 = some (i64 x69.1)) (fun y e a σ => e = .exit 0 ∧ a.nt = 65 ∧ ∃ (F127 : PH), a.defers = [] ∧ PH.le F0 F127 ∧ St n0 h0 F0 F127 σ.h σ.nx [.bx b1 [(i64 a0_0), (i64 a0_1), (i64 a0_2), (i64 a0_3)], .bx b4 ([(i64 (0 : Int)), (i64 (0 : Int)), (i64 (0 : Int)), (i64 (0 : Int)), (i64 (0 : Int))] ++ (eI .i64 169 (fun _ => 0))), .bx b8 ([(i64 a0_0), (i64 a0_1), (i64 a0_2), (i64 a0_3), (i64 (a0_0 + (1 : Int)))] ++ (eI .i64 169 y))] ∧ a.tmps.get 1 = some (.ptr (some (b1, 0))) ∧ a.tmps.get 2 = some (.ptr (some (b4, 0))) ∧ a.tmps.get 3 = some (.ptr (some (b8, 0)))) (fun x69 T ds70 h nx s hp hF => ?_) N _ y126 _ _ _ _ hy ⟨F0, rfl, (PH.le.refl _), st, gA, gA, gA, gA⟩ (fun e a σ hne hq => ?_)
  · obtain ⟨F70, rfl, le70, st, t1, t2, t3, t4⟩ := hp; unfold sf97_L2 at hF; unfold L97w1; refine w_seq ?_; refine w_seq ?_; refine w_reg ?_; refine v_move ?_; refine v_fa ?_; refine v_ld1 (st.at (i := 0) rfl).2.2 rfl ?_; refine v_leq ?_; refine r_nil ?_; refine th_n ?_; refine v_cond (fun hb128 => ?_) (fun hb128 => ?_)
    · have hF := bif_t hb128 hF; refine w_skip ?_; refine th_n ?_; refine w_seq ?_; refine w_block ?_; refine w_seq ?_; refine w_reg ?_; refine v_move ?_; refine v_move ?_; refine r_nil ?_; refine th_n ?_; refine w_block ?_; obtain ⟨y163, hy, hF⟩ := bnd_some hF; refine v_loopD (sf97_L1 a0_0 a0_2 a0_3 x69) (fun x146 T ds147 h nx => ∃ (F147 : PH), ds147 = [] ∧ PH.le F70 F147 ∧ St n0 h0 F0 F147 h nx [.bx b1 [(i64 a0_0), (i64 a0_1), (i64 a0_2), (i64 a0_3)], .bx b4 ([(i64 (0 : Int)), (i64 (0 : Int)), (i64 (0 : Int)), (i64 (0 : Int)), (i64 (0 : Int))] ++ (eI .i64 169 (fun _ => 0))), .bx b8 ([(i64 a0_0), (i64 a0_1), (i64 a0_2), (i64 a0_3), (i64 (a0_0 + (1 : Int)))] ++ (eI .i64 169 x146.2))] ∧ T.get 1 = some (.ptr (some (b1, 0))) ∧ T.get 2 = some (.ptr (some (b4, 0))) ∧ T.get 3 = some (.ptr (some (b8, 0))) ∧ T.get 4 = some (i64 x69.1) ∧ T.get 5 = some (i64 x146.1)) (fun y e a σ => e = .exit 2 ∧ a.nt = 65 ∧ ∃ (F164 : PH), a.defers = [] ∧ PH.le F70 F164 ∧ St n0 h0 F0 F164 σ.h σ.nx [.bx b1 [(i64 a0_0), (i64 a0_1), (i64 a0_2), (i64 a0_3)], .bx b4 ([(i64 (0 : Int)), (i64 (0 : Int)), (i64 (0 : Int)), (i64 (0 : Int)), (i64 (0 : Int))] ++ (eI .i64 169 (fun _ => 0))), .bx b8 ([(i64 a0_0), (i64 a0_1), (i64 a0_2), (i64 a0_3), (i64 (a0_0 + (1 : Int)))] ++ (eI .i64 169 y))] ∧ a.tmps.get 1 = some (.ptr (some (b1, 0))) ∧ a.tmps.get 2 = some (.ptr (some (b4, 0))) ∧ a.tmps.get 3 = some (.ptr (some (b8, 0))) ∧ a.tmps.get 4 = some (i64 x69.1)) (fun x146 T ds147 h nx s hp hF => ?_) N _ y163 _ _ _ _ hy ⟨F70, rfl, (PH.le.refl _), st, gA, gA, gA, gA, gA⟩ (fun e a σ hne hq => ?_)
      · obtain ⟨F147, rfl, le147, st, t1, t2, t3, t4, t5⟩ := hp
        have le148 := PH.le.trans le70 le147
        unfold sf97_L1 at hF; unfold L97w0; refine w_seq ?_; refine w_seq ?_; refine w_reg ?_; refine v_move ?_; refine v_fa ?_; refine v_ld1 (st.at (i := 0) rfl).2.2 rfl ?_; refine v_leq ?_; refine r_nil ?_; refine th_n ?_; refine v_cond (fun hb165 => ?_) (fun hb165 => ?_)
        · have hF := bif_t hb165 hF; refine w_skip ?_; refine th_n ?_; refine w_seq ?_; refine w_block ?_; refine w_seq ?_; refine w_drawV (Nat.le_trans hfl st.ext.le) (fun dw => ?_); refine y_end st.d dw rfl (fun h166 ex vs => ?_)
          have st := st.ext1 ex
          refine v_move ?_; refine v_move ?_; refine v_move ?_; refine v_move ?_; obtain ⟨q167, hF⟩ := ck_some hF; refine v_sub q167 ?_; refine v_fa ?_; refine v_fa ?_; refine v_ld1 (st.at (i := 0) rfl).2.2 rfl ?_; obtain ⟨q168, hF⟩ := ck_some hF; refine v_mul q168 ?_; refine v_fa ?_; refine v_fa ?_; obtain ⟨q169, hF⟩ := ck_some hF
          refine v_ixa (j := (Int.toNat x69.1)) (Int.toNat_of_nonneg q169.1).symm (by omega) ?_
          obtain ⟨q170, hF⟩ := ck_some hF
          refine v_ixa (j := (Int.toNat x146.1)) (Int.toNat_of_nonneg q170.1).symm (by omega) ?_
          refine v_st (o := ((5 + (Int.toNat x69.1) * 13) + (Int.toNat x146.1) * 1)) (v := (i64 ((x146.1 - x69.1) * a0_3))) (cs' := ([(i64 a0_0), (i64 a0_1), (i64 a0_2), (i64 a0_3), (i64 (a0_0 + (1 : Int)))] ++ (eI .i64 169 (ups x146.2 (((Int.toNat x69.1) * 13) + (Int.toNat x146.1)) ((x146.1 - x69.1) * a0_3))))) st 2 rfl (ar_set (p := 5) (ix := (((Int.toNat x69.1) * 13) + (Int.toNat x146.1))) [(i64 a0_0), (i64 a0_1), (i64 a0_2), (i64 a0_3), (i64 (a0_0 + (1 : Int)))] rfl (by omega) (by omega)) rfl rfl hfl (fun h171 st => ?_)
          refine r_nil ?_; refine th_n ?_; refine w_drawV (Nat.le_trans hfl st.ext.le) (fun dw => ?_); refine y_end st.d dw rfl (fun h172 ex vs => ?_)
          have st := st.ext1 ex
          refine v_move ?_; refine v_move ?_; refine v_move ?_; refine v_move ?_; obtain ⟨q173, hF⟩ := ck_some hF; refine v_sub q173 ?_; refine v_fa ?_; refine v_fa ?_; refine v_ld1 (st.at (i := 0) rfl).2.2 rfl ?_; obtain ⟨q174, hF⟩ := ck_some hF; refine v_mul q174 ?_; refine v_fa ?_; refine v_fa ?_; obtain ⟨q175, hF⟩ := ck_some hF
          refine v_ixa (j := (Int.toNat x146.1)) (Int.toNat_of_nonneg q175.1).symm (by omega) ?_
          obtain ⟨q176, hF⟩ := ck_some hF
          refine v_ixa (j := (Int.toNat x69.1)) (Int.toNat_of_nonneg q176.1).symm (by omega) ?_
          refine v_st (o := ((5 + (Int.toNat x146.1) * 13) + (Int.toNat x69.1) * 1)) (v := (i64 ((x69.1 - x146.1) * a0_2))) (cs' := ([(i64 a0_0), (i64 a0_1), (i64 a0_2), (i64 a0_3), (i64 (a0_0 + (1 : Int)))] ++ (eI .i64 169 (ups (ups x146.2 (((Int.toNat x69.1) * 13) + (Int.toNat x146.1)) ((x146.1 - x69.1) * a0_3)) (((Int.toNat x146.1) * 13) + (Int.toNat x69.1)) ((x69.1 - x146.1) * a0_2))))) st 2 rfl (ar_set (p := 5) (ix := (((Int.toNat x146.1) * 13) + (Int.toNat x69.1))) [(i64 a0_0), (i64 a0_1), (i64 a0_2), (i64 a0_3), (i64 (a0_0 + (1 : Int)))] rfl (by omega) (by omega)) rfl rfl hfl (fun h177 st => ?_)
          refine r_nil ?_; refine ib_n ?_; refine th_n ?_; refine w_reg ?_; refine v_move ?_; obtain ⟨q178, hF⟩ := ck_some hF; refine v_add q178 ?_; refine v_move ?_; refine r_nil ?_; refine thn ⟨_, (inj hF).symm, rfl, ?_⟩; dsimp only
          exact ⟨F147, rfl, le147, st, gA, gA, gA, gA, gA⟩
        · have hF := bif_f hb165 hF; refine w_exit ?_; refine th_e ?_; refine th_e ?_; refine ⟨_, (inj hF).symm, rfl, rfl, ?_⟩; dsimp only
          exact ⟨F147, rfl, le147, st, gA, gA, gA, gA⟩
      · obtain ⟨N9, T, ds164⟩ := a; obtain ⟨h180, n181⟩ := σ; obtain ⟨rfl, e1, F164, e2, le164, st, t1, t2, t3, t4⟩ := hq
        dsimp only at e1 e2
        subst e1
        subst e2
        dsimp only at st t1 t2 t3 t4
        have le179 := PH.le.trans le70 le164
        refine ib_e ?_; refine ib_n ?_; refine th_n ?_; refine w_reg ?_; refine v_move ?_; obtain ⟨q182, hF⟩ := ck_some hF; refine v_add q182 ?_; refine v_move ?_; refine r_nil ?_; refine thn ⟨_, (inj hF).symm, rfl, ?_⟩; dsimp only
        exact ⟨F164, rfl, le179, st, gA, gA, gA, gA⟩
    · have hF := bif_f hb128 hF; refine w_exit ?_; refine th_e ?_; refine th_e ?_; refine ⟨_, (inj hF).symm, rfl, rfl, ?_⟩; dsimp only
      exact ⟨F70, rfl, le70, st, gA, gA, gA⟩
  · obtain ⟨N9, T, ds127⟩ := a; obtain ⟨h183, n184⟩ := σ; obtain ⟨rfl, e1, F127, e2, le127, st, t1, t2, t3⟩ := hq
    dsimp only at e1 e2
    subst e1
    subst e2
    dsimp only at st t1 t2 t3
    refine ib_e ?_; refine th_n ?_; refine w_seq ?_; refine w_reg ?_; refine v_fa ?_; refine v_fa ?_; refine v_ld1 (st.at (i := 0) rfl).2.2 rfl ?_; refine v_fa ?_; refine v_ld1 (st.at (i := 0) rfl).2.2 rfl ?_; refine v_inl lw100 rfl rfl (fun T hT => ?_)
    have t0 := hT 0 _ rfl
    have t1 := hT 1 _ rfl
    have t2 := hT 2 _ rfl
    have t3 := hT 3 _ rfl
    dsimp only [L100]
    refine w_seq ?_; refine w_reg ?_; refine v_move ?_; refine r_nil ?_; refine th_n ?_; refine w_seq ?_; refine w_seq ?_; refine w_reg ?_; refine v_move ?_; refine v_move ?_; refine v_move ?_; refine v_move ?_; obtain ⟨v186, e187, hF⟩ := bnd_some hF; refine v_call st (ct103 N e187 st.d (all_sub _)  (st.at (i := 2) rfl).2.2) (fun n188 st => ?_); refine v_not ?_; refine r_nil ?_; refine th_n ?_; refine v_cond (fun hb189 => ?_) (fun hb189 => ?_)
    · have hF := bif_t hb189 hF; refine w_seq ?_; refine w_reg ?_; refine v_move ?_; refine r_nil ?_; refine th_n ?_; refine w_ret ?_; refine th_r ?_; refine inl_end (v := (.bool false)) (Res.t gA Res.nil) rfl (.inl rfl) (ik ?_); refine r_nil ?_; refine th_n ?_; refine w_seq ?_; refine w_reg ?_; refine v_fa ?_; refine v_fa ?_; refine v_ld1 (st.at (i := 0) rfl).2.2 rfl ?_; refine v_fa ?_; refine v_ld1 (st.at (i := 0) rfl).2.2 rfl ?_; obtain ⟨q190, hF⟩ := ck_some hF; refine v_neg q190 ?_; refine v_inl lw100 rfl rfl (fun T hT => ?_)
      have t0 := hT 0 _ rfl
      have t1 := hT 1 _ rfl
      have t2 := hT 2 _ rfl
      have t3 := hT 3 _ rfl
      dsimp only [L100]
      refine w_seq ?_; refine w_reg ?_; refine v_move ?_; refine r_nil ?_; refine th_n ?_; refine w_seq ?_; refine w_seq ?_; refine w_reg ?_; refine v_move ?_; refine v_move ?_; refine v_move ?_; refine v_move ?_; obtain ⟨v192, e193, hF⟩ := bnd_some hF; refine v_call st (ct103 N e193 st.d (all_sub _)  (st.at (i := 2) rfl).2.2) (fun n194 st => ?_); refine v_not ?_; refine r_nil ?_; refine th_n ?_; refine v_cond (fun hb195 => ?_) (fun hb195 => ?_)
      · have hF := bif_t hb195 hF; refine w_seq ?_; refine w_reg ?_; refine v_move ?_; refine r_nil ?_; refine th_n ?_; refine w_ret ?_; refine th_r ?_; refine inl_end (v := (.bool false)) (Res.t gA Res.nil) rfl (.inl rfl) (ik ?_); refine r_nil ?_; refine th_n ?_; refine w_seq ?_; refine w_reg ?_; refine v_ldn (vs := ([(i64 a0_0), (i64 a0_1), (i64 a0_2), (i64 a0_3), (i64 (a0_0 + (1 : Int)))] ++ (eI .i64 169 y126))) (st.at (i := 2) rfl).2.2 (tk_tail (E := (eI .i64 169 y126)) [] [(i64 a0_0), (i64 a0_1), (i64 a0_2), (i64 a0_3), (i64 (a0_0 + (1 : Int)))] rfl eI_len rfl) ?_
        refine v_st (v := (.agg ([(i64 a0_0), (i64 a0_1), (i64 a0_2), (i64 a0_3), (i64 (a0_0 + (1 : Int)))] ++ (eI .i64 169 y126)))) (cs' := ([(i64 a0_0), (i64 a0_1), (i64 a0_2), (i64 a0_3), (i64 (a0_0 + (1 : Int)))] ++ (eI .i64 169 y126))) st 1 rfl (ov_tail (q := ([(i64 (0 : Int)), (i64 (0 : Int)), (i64 (0 : Int)), (i64 (0 : Int)), (i64 (0 : Int))] ++ (eI .i64 169 (fun _ => 0)))) (r := ([(i64 a0_0), (i64 a0_1), (i64 a0_2), (i64 a0_3), (i64 (a0_0 + (1 : Int)))] ++ (eI .i64 169 y126))) [] rfl (by simp [eI_len, eB_len])) (len_tail _ eI_len (by rfl)) (one_tail _ (by rfl) eI_one) hfl (fun h196 st => ?_)
        refine r_nil ?_; refine th_n ?_; refine w_ret ?_; obtain rfl := inj hF
        exact end_s st (Res.c gA (st.at (i := 1) rfl).2.2 (show takeN _ _ = some ([(i64 a0_0), (i64 a0_1), (i64 a0_2), (i64 a0_3), (i64 (a0_0 + (1 : Int)))] ++ (eI .i64 169 y126)) from (tk_tail (E := (eI .i64 169 y126)) [] [(i64 a0_0), (i64 a0_1), (i64 a0_2), (i64 a0_3), (i64 (a0_0 + (1 : Int)))] rfl eI_len rfl)) Res.nil) rfl rfl
      · have hF := bif_f hb195 hF; refine w_skip ?_; refine th_n ?_; refine w_seq ?_; refine w_seq ?_; refine w_reg ?_; refine v_move ?_; refine v_nc ?_; refine v_fa ?_; refine v_ld1 (st.at (i := 2) rfl).2.2 rfl ?_; refine v_move ?_; refine r_nil ?_; refine th_n ?_; refine w_block ?_; obtain ⟨y321, hy, hF⟩ := bnd_some hF; refine v_loopD (sf97_L4 N a0_0 a0_1) (fun x259 T ds260 h nx => ∃ (F260 : PH), ds260 = [] ∧ PH.le F127 F260 ∧ St n0 h0 F0 F260 h nx [.bx b1 [(i64 a0_0), (i64 a0_1), (i64 a0_2), (i64 a0_3)], .bx b4 ([(i64 (0 : Int)), (i64 (0 : Int)), (i64 (0 : Int)), (i64 (0 : Int)), (i64 (0 : Int))] ++ (eI .i64 169 (fun _ => 0))), .bx b8 ([(i64 a0_0), (i64 a0_1), (i64 a0_2), (i64 a0_3), (i64 (a0_0 + (1 : Int)))] ++ (eI .i64 169 x259.2))] ∧ T.get 0 = some (.ptr (some (b8, 4))) ∧ T.get 1 = some (i64 a0_0) ∧ T.get 2 = some (i64 (0 : Int)) ∧ T.get 3 = some (i64 (-a0_1)) ∧ T.get 22 = some (i64 (a0_0 + (1 : Int))) ∧ T.get 23 = some (i64 x259.1)) (fun y e a σ => e = .exit 0 ∧ a.nt = 83 ∧ ∃ (F322 : PH), a.defers = [] ∧ PH.le F127 F322 ∧ St n0 h0 F0 F322 σ.h σ.nx [.bx b1 [(i64 a0_0), (i64 a0_1), (i64 a0_2), (i64 a0_3)], .bx b4 ([(i64 (0 : Int)), (i64 (0 : Int)), (i64 (0 : Int)), (i64 (0 : Int)), (i64 (0 : Int))] ++ (eI .i64 169 (fun _ => 0))), .bx b8 ([(i64 a0_0), (i64 a0_1), (i64 a0_2), (i64 a0_3), (i64 (a0_0 + (1 : Int)))] ++ (eI .i64 169 y))]) (fun x259 T ds260 h nx s hp hF => ?_) N _ y321 _ _ _ _ hy ⟨F127, rfl, (PH.le.refl _), st, gA, gA, gA, gA, gA, gA⟩ (fun e a σ hne hq => ?_)
        · obtain ⟨F260, rfl, le260, st, t0, t1, t2, t3, t22, t23⟩ := hp
          have le261 := PH.le.trans le127 le260
          unfold sf97_L4 at hF; unfold L100w1; refine w_seq ?_; refine w_reg ?_; refine v_lss ?_; refine r_nil ?_; refine th_n ?_; refine w_seq ?_; refine v_cond (fun hb323 => ?_) (fun hb323 => ?_)
          · have hF := bif_t hb323 hF; refine w_skip ?_; refine th_n ?_; refine w_seq ?_; refine w_block ?_; refine w_seq ?_; refine w_reg ?_; refine v_move ?_; refine v_move ?_; refine r_nil ?_; refine th_n ?_; refine w_seq ?_; refine w_reg ?_; refine v_move ?_; refine v_move ?_; refine v_move ?_; refine v_nc ?_; refine v_fa ?_; obtain ⟨q324, hF⟩ := ck_some hF
            refine v_ixa (j := (Int.toNat x259.1)) (Int.toNat_of_nonneg q324.1).symm (by omega) ?_
            obtain ⟨q325, hF⟩ := ck_some hF
            refine v_ixa (j := (Int.toNat a0_0)) (Int.toNat_of_nonneg q325.1).symm (by omega) ?_
            refine v_ld1 (o := ((5 + (Int.toNat x259.1) * 13) + (Int.toNat a0_0) * 1)) (st.at (i := 2) rfl).2.2 (ar_get (p := 5) (ix := (((Int.toNat x259.1) * 13) + (Int.toNat a0_0))) [(i64 a0_0), (i64 a0_1), (i64 a0_2), (i64 a0_3), (i64 (a0_0 + (1 : Int)))] rfl (by omega) (by omega)) ?_
            refine v_move ?_; obtain ⟨q326, hF⟩ := ck_some hF; refine v_add q326 ?_; refine v_move ?_; refine r_nil ?_; refine th_n ?_; refine w_seq ?_; refine w_seq ?_; refine w_reg ?_; refine v_move ?_; refine v_move ?_; refine v_move ?_; refine v_move ?_; refine v_nc ?_; refine v_fa ?_; obtain ⟨q327, hF⟩ := ck_some hF
            refine v_ixa (j := (Int.toNat x259.1)) (Int.toNat_of_nonneg q327.1).symm (by omega) ?_
            obtain ⟨q328, hF⟩ := ck_some hF
            refine v_ixa (j := (Int.toNat (0 : Int))) (Int.toNat_of_nonneg q328.1).symm (by omega) ?_
            refine v_ld1 (o := ((5 + (Int.toNat x259.1) * 13) + (Int.toNat (0 : Int)) * 1)) (st.at (i := 2) rfl).2.2 (ar_get (p := 5) (ix := (((Int.toNat x259.1) * 13) + (Int.toNat (0 : Int)))) [(i64 a0_0), (i64 a0_1), (i64 a0_2), (i64 a0_3), (i64 (a0_0 + (1 : Int)))] rfl (by omega) (by omega)) ?_
            refine v_geq ?_; refine r_nil ?_; refine th_n ?_; refine v_cond (fun hb329 => ?_) (fun hb329 => ?_)
            · have hF := bif_t hb329 hF; refine w_exit ?_; refine th_e ?_; refine ib_e ?_; refine th_n ?_; refine w_reg ?_; obtain ⟨q330, hF⟩ := ck_some hF; refine v_add q330 ?_; refine v_move ?_; refine r_nil ?_; refine thn ⟨_, (inj hF).symm, rfl, ?_⟩; dsimp only
              exact ⟨F260, rfl, le260, st, gA, gA, gA, gA, gA, gA⟩
            · have hF := bif_f hb329 hF; refine w_skip ?_; refine th_n ?_; refine w_seq ?_; refine w_reg ?_; refine v_move ?_; refine v_nc ?_; refine v_fa ?_; refine v_ld1 (st.at (i := 2) rfl).2.2 rfl ?_; refine v_move ?_; refine r_nil ?_; refine th_n ?_; refine w_block ?_; obtain ⟨y363, hy, hF⟩ := bnd_some hF; refine v_loopD (sf97_L3 a0_0 a0_1 x259) (fun x347 T ds348 h nx => ∃ (F348 : PH), ds348 = [] ∧ PH.le F260 F348 ∧ St n0 h0 F0 F348 h nx [.bx b1 [(i64 a0_0), (i64 a0_1), (i64 a0_2), (i64 a0_3)], .bx b4 ([(i64 (0 : Int)), (i64 (0 : Int)), (i64 (0 : Int)), (i64 (0 : Int)), (i64 (0 : Int))] ++ (eI .i64 169 (fun _ => 0))), .bx b8 ([(i64 a0_0), (i64 a0_1), (i64 a0_2), (i64 a0_3), (i64 (a0_0 + (1 : Int)))] ++ (eI .i64 169 x347.2))] ∧ T.get 0 = some (.ptr (some (b8, 4))) ∧ T.get 1 = some (i64 a0_0) ∧ T.get 2 = some (i64 (0 : Int)) ∧ T.get 3 = some (i64 (-a0_1)) ∧ T.get 9 = some (i64 x259.1) ∧ T.get 10 = some (i64 ((x259.2 (((Int.toNat x259.1) * 13) + (Int.toNat a0_0))) + (-a0_1))) ∧ T.get 22 = some (i64 (a0_0 + (1 : Int))) ∧ T.get 23 = some (i64 x259.1) ∧ T.get 49 = some (i64 (a0_0 + (1 : Int))) ∧ T.get 50 = some (i64 x347.1)) (fun y e a σ => e = .exit 2 ∧ a.nt = 83 ∧ ∃ (F364 : PH), a.defers = [] ∧ PH.le F260 F364 ∧ St n0 h0 F0 F364 σ.h σ.nx [.bx b1 [(i64 a0_0), (i64 a0_1), (i64 a0_2), (i64 a0_3)], .bx b4 ([(i64 (0 : Int)), (i64 (0 : Int)), (i64 (0 : Int)), (i64 (0 : Int)), (i64 (0 : Int))] ++ (eI .i64 169 (fun _ => 0))), .bx b8 ([(i64 a0_0), (i64 a0_1), (i64 a0_2), (i64 a0_3), (i64 (a0_0 + (1 : Int)))] ++ (eI .i64 169 y))] ∧ a.tmps.get 0 = some (.ptr (some (b8, 4))) ∧ a.tmps.get 1 = some (i64 a0_0) ∧ a.tmps.get 2 = some (i64 (0 : Int)) ∧ a.tmps.get 3 = some (i64 (-a0_1)) ∧ a.tmps.get 22 = some (i64 (a0_0 + (1 : Int))) ∧ a.tmps.get 23 = some (i64 x259.1)) (fun x347 T ds348 h nx s hp hF => ?_) N _ y363 _ _ _ _ hy ⟨F260, rfl, (PH.le.refl _), st, gA, gA, gA, gA, gA, gA, gA, gA, gA, gA⟩ (fun e a σ hne hq => ?_)
              · obtain ⟨F348, rfl, le348, st, t0, t1, t2, t3, t9, t10, t22, t23, t49, t50⟩ := hp
                have le349 := PH.le.trans le261 le348
                have le350 := PH.le.trans le260 le348
                unfold sf97_L3 at hF; unfold L100w0; refine w_seq ?_; refine w_reg ?_; refine v_lss ?_; refine r_nil ?_; refine th_n ?_; refine w_seq ?_; refine v_cond (fun hb365 => ?_) (fun hb365 => ?_)
                · have hF := bif_t hb365 hF; refine w_skip ?_; refine th_n ?_; refine w_seq ?_; refine w_block ?_; refine w_seq ?_; refine w_reg ?_; refine v_move ?_; refine v_move ?_; refine r_nil ?_; refine th_n ?_; refine w_seq ?_; refine w_reg ?_; refine v_move ?_; refine v_move ?_; refine v_move ?_; refine v_move ?_; refine v_nc ?_; refine v_fa ?_; obtain ⟨q366, hF⟩ := ck_some hF
                  refine v_ixa (j := (Int.toNat (0 : Int))) (Int.toNat_of_nonneg q366.1).symm (by omega) ?_
                  obtain ⟨q367, hF⟩ := ck_some hF
                  refine v_ixa (j := (Int.toNat x347.1)) (Int.toNat_of_nonneg q367.1).symm (by omega) ?_
                  refine v_ld1 (o := ((5 + (Int.toNat (0 : Int)) * 13) + (Int.toNat x347.1) * 1)) (st.at (i := 2) rfl).2.2 (ar_get (p := 5) (ix := (((Int.toNat (0 : Int)) * 13) + (Int.toNat x347.1))) [(i64 a0_0), (i64 a0_1), (i64 a0_2), (i64 a0_3), (i64 (a0_0 + (1 : Int)))] rfl (by omega) (by omega)) ?_
                  obtain ⟨q368, hF⟩ := ck_some hF; refine v_add q368 ?_; refine v_move ?_; refine r_nil ?_; refine th_n ?_; refine w_seq ?_; refine w_reg ?_; refine v_move ?_; refine v_move ?_; refine v_move ?_; refine v_move ?_; refine v_nc ?_; refine v_fa ?_; obtain ⟨q369, hF⟩ := ck_some hF
                  refine v_ixa (j := (Int.toNat x259.1)) (Int.toNat_of_nonneg q369.1).symm (by omega) ?_
                  obtain ⟨q370, hF⟩ := ck_some hF
                  refine v_ixa (j := (Int.toNat x347.1)) (Int.toNat_of_nonneg q370.1).symm (by omega) ?_
                  refine v_ld1 (o := ((5 + (Int.toNat x259.1) * 13) + (Int.toNat x347.1) * 1)) (st.at (i := 2) rfl).2.2 (ar_get (p := 5) (ix := (((Int.toNat x259.1) * 13) + (Int.toNat x347.1))) [(i64 a0_0), (i64 a0_1), (i64 a0_2), (i64 a0_3), (i64 (a0_0 + (1 : Int)))] rfl (by omega) (by omega)) ?_
                  refine v_lss ?_; refine r_nil ?_; refine th_n ?_; refine v_cond (fun hb371 => ?_) (fun hb371 => ?_)
                  · have hF := bif_t hb371 hF; refine w_reg ?_; refine v_move ?_; refine v_move ?_; refine v_move ?_; refine v_move ?_; refine v_nc ?_; refine v_fa ?_; obtain ⟨q372, hF⟩ := ck_some hF
                    refine v_ixa (j := (Int.toNat x259.1)) (Int.toNat_of_nonneg q372.1).symm (by omega) ?_
                    obtain ⟨q373, hF⟩ := ck_some hF
                    refine v_ixa (j := (Int.toNat x347.1)) (Int.toNat_of_nonneg q373.1).symm (by omega) ?_
                    refine v_st (o := ((5 + (Int.toNat x259.1) * 13) + (Int.toNat x347.1) * 1)) (v := (i64 (((x259.2 (((Int.toNat x259.1) * 13) + (Int.toNat a0_0))) + (-a0_1)) + (x347.2 (((Int.toNat (0 : Int)) * 13) + (Int.toNat x347.1)))))) (cs' := ([(i64 a0_0), (i64 a0_1), (i64 a0_2), (i64 a0_3), (i64 (a0_0 + (1 : Int)))] ++ (eI .i64 169 (ups x347.2 (((Int.toNat x259.1) * 13) + (Int.toNat x347.1)) (((x259.2 (((Int.toNat x259.1) * 13) + (Int.toNat a0_0))) + (-a0_1)) + (x347.2 (((Int.toNat (0 : Int)) * 13) + (Int.toNat x347.1)))))))) st 2 rfl (ar_set (p := 5) (ix := (((Int.toNat x259.1) * 13) + (Int.toNat x347.1))) [(i64 a0_0), (i64 a0_1), (i64 a0_2), (i64 a0_3), (i64 (a0_0 + (1 : Int)))] rfl (by omega) (by omega)) rfl rfl hfl (fun h374 st => ?_)
                    refine r_nil ?_; refine ib_n ?_; refine th_n ?_; refine w_reg ?_; obtain ⟨q375, hF⟩ := ck_some hF; refine v_add q375 ?_; refine v_move ?_; refine r_nil ?_; refine thn ⟨_, (inj hF).symm, rfl, ?_⟩; dsimp only
                    exact ⟨F348, rfl, le348, st, gA, gA, gA, gA, gA, gA, gA, gA, gA, gA⟩
                  · have hF := bif_f hb371 hF; refine w_skip ?_; refine ib_n ?_; refine th_n ?_; refine w_reg ?_; obtain ⟨q376, hF⟩ := ck_some hF; refine v_add q376 ?_; refine v_move ?_; refine r_nil ?_; refine thn ⟨_, (inj hF).symm, rfl, ?_⟩; dsimp only
                    exact ⟨F348, rfl, le348, st, gA, gA, gA, gA, gA, gA, gA, gA, gA, gA⟩
                · have hF := bif_f hb365 hF; refine w_exit ?_; refine th_e ?_; refine th_e ?_; refine ⟨_, (inj hF).symm, rfl, rfl, ?_⟩; dsimp only
                  exact ⟨F348, rfl, le348, st, gA, gA, gA, gA, gA, gA⟩
              · obtain ⟨N9, T, ds364⟩ := a; obtain ⟨h379, n380⟩ := σ; obtain ⟨rfl, e1, F364, e2, le364, st, t0, t1, t2, t3, t22, t23⟩ := hq
                dsimp only at e1 e2
                subst e1
                subst e2
                dsimp only at st t0 t1 t2 t3 t22 t23
                have le377 := PH.le.trans le261 le364
                have le378 := PH.le.trans le260 le364
                refine ib_e ?_; refine ib_n ?_; refine th_n ?_; refine w_reg ?_; obtain ⟨q381, hF⟩ := ck_some hF; refine v_add q381 ?_; refine v_move ?_; refine r_nil ?_; refine thn ⟨_, (inj hF).symm, rfl, ?_⟩; dsimp only
                exact ⟨F364, rfl, le378, st, gA, gA, gA, gA, gA, gA⟩
          · have hF := bif_f hb323 hF; refine w_exit ?_; refine th_e ?_; refine th_e ?_; refine ⟨_, (inj hF).symm, rfl, rfl, ?_⟩; dsimp only
            exact ⟨F260, rfl, le260, st⟩
        · obtain ⟨N9, T, ds322⟩ := a; obtain ⟨h383, n384⟩ := σ; obtain ⟨rfl, e1, F322, e2, le322, st⟩ := hq
          dsimp only at e1 e2
          subst e1
          subst e2
          dsimp only at st
          have le382 := PH.le.trans le127 le322
          refine ib_e ?_; refine th_n ?_; refine w_seq ?_; refine w_reg ?_; refine v_move ?_; refine r_nil ?_; refine th_n ?_; refine w_ret ?_; refine inl_end (v := (.bool true)) (Res.t gA Res.nil) rfl (.inl rfl) (ik ?_); refine r_nil ?_; refine th_n ?_; refine w_seq ?_; refine w_reg ?_; refine v_ldn (vs := ([(i64 a0_0), (i64 a0_1), (i64 a0_2), (i64 a0_3), (i64 (a0_0 + (1 : Int)))] ++ (eI .i64 169 y321))) (st.at (i := 2) rfl).2.2 (tk_tail (E := (eI .i64 169 y321)) [] [(i64 a0_0), (i64 a0_1), (i64 a0_2), (i64 a0_3), (i64 (a0_0 + (1 : Int)))] rfl eI_len rfl) ?_
          refine v_st (v := (.agg ([(i64 a0_0), (i64 a0_1), (i64 a0_2), (i64 a0_3), (i64 (a0_0 + (1 : Int)))] ++ (eI .i64 169 y321)))) (cs' := ([(i64 a0_0), (i64 a0_1), (i64 a0_2), (i64 a0_3), (i64 (a0_0 + (1 : Int)))] ++ (eI .i64 169 y321))) st 1 rfl (ov_tail (q := ([(i64 (0 : Int)), (i64 (0 : Int)), (i64 (0 : Int)), (i64 (0 : Int)), (i64 (0 : Int))] ++ (eI .i64 169 (fun _ => 0)))) (r := ([(i64 a0_0), (i64 a0_1), (i64 a0_2), (i64 a0_3), (i64 (a0_0 + (1 : Int)))] ++ (eI .i64 169 y321))) [] rfl (by simp [eI_len, eB_len])) (len_tail _ eI_len (by rfl)) (one_tail _ (by rfl) eI_one) hfl (fun h385 st => ?_)
          refine r_nil ?_; refine th_n ?_; refine w_ret ?_; obtain rfl := inj hF
          exact end_s st (Res.c gA (st.at (i := 1) rfl).2.2 (show takeN _ _ = some ([(i64 a0_0), (i64 a0_1), (i64 a0_2), (i64 a0_3), (i64 (a0_0 + (1 : Int)))] ++ (eI .i64 169 y321)) from (tk_tail (E := (eI .i64 169 y321)) [] [(i64 a0_0), (i64 a0_1), (i64 a0_2), (i64 a0_3), (i64 (a0_0 + (1 : Int)))] rfl eI_len rfl)) Res.nil) rfl rfl
    · have hF := bif_f hb189 hF; refine w_skip ?_; refine th_n ?_; refine w_seq ?_; refine w_seq ?_; refine w_reg ?_; refine v_move ?_; refine v_nc ?_; refine v_fa ?_; refine v_ld1 (st.at (i := 2) rfl).2.2 rfl ?_; refine v_move ?_; refine r_nil ?_; refine th_n ?_; refine w_block ?_; obtain ⟨y510, hy, hF⟩ := bnd_some hF; refine v_loopD (sf97_L6 N a0_0 a0_1) (fun x448 T ds449 h nx => ∃ (F449 : PH), ds449 = [] ∧ PH.le F127 F449 ∧ St n0 h0 F0 F449 h nx [.bx b1 [(i64 a0_0), (i64 a0_1), (i64 a0_2), (i64 a0_3)], .bx b4 ([(i64 (0 : Int)), (i64 (0 : Int)), (i64 (0 : Int)), (i64 (0 : Int)), (i64 (0 : Int))] ++ (eI .i64 169 (fun _ => 0))), .bx b8 ([(i64 a0_0), (i64 a0_1), (i64 a0_2), (i64 a0_3), (i64 (a0_0 + (1 : Int)))] ++ (eI .i64 169 x448.2))] ∧ T.get 0 = some (.ptr (some (b8, 4))) ∧ T.get 1 = some (i64 (0 : Int)) ∧ T.get 2 = some (i64 a0_0) ∧ T.get 3 = some (i64 a0_1) ∧ T.get 22 = some (i64 (a0_0 + (1 : Int))) ∧ T.get 23 = some (i64 x448.1)) (fun y e a σ => e = .exit 0 ∧ a.nt = 83 ∧ ∃ (F511 : PH), a.defers = [] ∧ PH.le F127 F511 ∧ St n0 h0 F0 F511 σ.h σ.nx [.bx b1 [(i64 a0_0), (i64 a0_1), (i64 a0_2), (i64 a0_3)], .bx b4 ([(i64 (0 : Int)), (i64 (0 : Int)), (i64 (0 : Int)), (i64 (0 : Int)), (i64 (0 : Int))] ++ (eI .i64 169 (fun _ => 0))), .bx b8 ([(i64 a0_0), (i64 a0_1), (i64 a0_2), (i64 a0_3), (i64 (a0_0 + (1 : Int)))] ++ (eI .i64 169 y))]) (fun x448 T ds449 h nx s hp hF => ?_) N _ y510 _ _ _ _ hy ⟨F127, rfl, (PH.le.refl _), st, gA, gA, gA, gA, gA, gA⟩ (fun e a σ hne hq => ?_)
      · obtain ⟨F449, rfl, le449, st, t0, t1, t2, t3, t22, t23⟩ := hp
        have le450 := PH.le.trans le127 le449
        unfold sf97_L6 at hF; unfold L100w1; refine w_seq ?_; refine w_reg ?_; refine v_lss ?_; refine r_nil ?_; refine th_n ?_; refine w_seq ?_; refine v_cond (fun hb512 => ?_) (fun hb512 => ?_)
        · have hF := bif_t hb512 hF; refine w_skip ?_; refine th_n ?_; refine w_seq ?_; refine w_block ?_; refine w_seq ?_; refine w_reg ?_; refine v_move ?_; refine v_move ?_; refine r_nil ?_; refine th_n ?_; refine w_seq ?_; refine w_reg ?_; refine v_move ?_; refine v_move ?_; refine v_move ?_; refine v_nc ?_; refine v_fa ?_; obtain ⟨q513, hF⟩ := ck_some hF
          refine v_ixa (j := (Int.toNat x448.1)) (Int.toNat_of_nonneg q513.1).symm (by omega) ?_
          obtain ⟨q514, hF⟩ := ck_some hF
          refine v_ixa (j := (Int.toNat (0 : Int))) (Int.toNat_of_nonneg q514.1).symm (by omega) ?_
          refine v_ld1 (o := ((5 + (Int.toNat x448.1) * 13) + (Int.toNat (0 : Int)) * 1)) (st.at (i := 2) rfl).2.2 (ar_get (p := 5) (ix := (((Int.toNat x448.1) * 13) + (Int.toNat (0 : Int)))) [(i64 a0_0), (i64 a0_1), (i64 a0_2), (i64 a0_3), (i64 (a0_0 + (1 : Int)))] rfl (by omega) (by omega)) ?_
          refine v_move ?_; obtain ⟨q515, hF⟩ := ck_some hF; refine v_add q515 ?_; refine v_move ?_; refine r_nil ?_; refine th_n ?_; refine w_seq ?_; refine w_seq ?_; refine w_reg ?_; refine v_move ?_; refine v_move ?_; refine v_move ?_; refine v_move ?_; refine v_nc ?_; refine v_fa ?_; obtain ⟨q516, hF⟩ := ck_some hF
          refine v_ixa (j := (Int.toNat x448.1)) (Int.toNat_of_nonneg q516.1).symm (by omega) ?_
          obtain ⟨q517, hF⟩ := ck_some hF
          refine v_ixa (j := (Int.toNat a0_0)) (Int.toNat_of_nonneg q517.1).symm (by omega) ?_
          refine v_ld1 (o := ((5 + (Int.toNat x448.1) * 13) + (Int.toNat a0_0) * 1)) (st.at (i := 2) rfl).2.2 (ar_get (p := 5) (ix := (((Int.toNat x448.1) * 13) + (Int.toNat a0_0))) [(i64 a0_0), (i64 a0_1), (i64 a0_2), (i64 a0_3), (i64 (a0_0 + (1 : Int)))] rfl (by omega) (by omega)) ?_
          refine v_geq ?_; refine r_nil ?_; refine th_n ?_; refine v_cond (fun hb518 => ?_) (fun hb518 => ?_)
          · have hF := bif_t hb518 hF; refine w_exit ?_; refine th_e ?_; refine ib_e ?_; refine th_n ?_; refine w_reg ?_; obtain ⟨q519, hF⟩ := ck_some hF; refine v_add q519 ?_; refine v_move ?_; refine r_nil ?_; refine thn ⟨_, (inj hF).symm, rfl, ?_⟩; dsimp only
            exact ⟨F449, rfl, le449, st, gA, gA, gA, gA, gA, gA⟩
          · have hF := bif_f hb518 hF; refine w_skip ?_; refine th_n ?_; refine w_seq ?_; refine w_reg ?_; refine v_move ?_; refine v_nc ?_; refine v_fa ?_; refine v_ld1 (st.at (i := 2) rfl).2.2 rfl ?_; refine v_move ?_; refine r_nil ?_; refine th_n ?_; refine w_block ?_; obtain ⟨y552, hy, hF⟩ := bnd_some hF; refine v_loopD (sf97_L5 a0_0 a0_1 x448) (fun x536 T ds537 h nx => ∃ (F537 : PH), ds537 = [] ∧ PH.le F449 F537 ∧ St n0 h0 F0 F537 h nx [.bx b1 [(i64 a0_0), (i64 a0_1), (i64 a0_2), (i64 a0_3)], .bx b4 ([(i64 (0 : Int)), (i64 (0 : Int)), (i64 (0 : Int)), (i64 (0 : Int)), (i64 (0 : Int))] ++ (eI .i64 169 (fun _ => 0))), .bx b8 ([(i64 a0_0), (i64 a0_1), (i64 a0_2), (i64 a0_3), (i64 (a0_0 + (1 : Int)))] ++ (eI .i64 169 x536.2))] ∧ T.get 0 = some (.ptr (some (b8, 4))) ∧ T.get 1 = some (i64 (0 : Int)) ∧ T.get 2 = some (i64 a0_0) ∧ T.get 3 = some (i64 a0_1) ∧ T.get 9 = some (i64 x448.1) ∧ T.get 10 = some (i64 ((x448.2 (((Int.toNat x448.1) * 13) + (Int.toNat (0 : Int)))) + a0_1)) ∧ T.get 22 = some (i64 (a0_0 + (1 : Int))) ∧ T.get 23 = some (i64 x448.1) ∧ T.get 49 = some (i64 (a0_0 + (1 : Int))) ∧ T.get 50 = some (i64 x536.1)) (fun y e a σ => e = .exit 2 ∧ a.nt = 83 ∧ ∃ (F553 : PH), a.defers = [] ∧ PH.le F449 F553 ∧ St n0 h0 F0 F553 σ.h σ.nx [.bx b1 [(i64 a0_0), (i64 a0_1), (i64 a0_2), (i64 a0_3)], .bx b4 ([(i64 (0 : Int)), (i64 (0 : Int)), (i64 (0 : Int)), (i64 (0 : Int)), (i64 (0 : Int))] ++ (eI .i64 169 (fun _ => 0))), .bx b8 ([(i64 a0_0), (i64 a0_1), (i64 a0_2), (i64 a0_3), (i64 (a0_0 + (1 : Int)))] ++ (eI .i64 169 y))] ∧ a.tmps.get 0 = some (.ptr (some (b8, 4))) ∧ a.tmps.get 1 = some (i64 (0 : Int)) ∧ a.tmps.get 2 = some (i64 a0_0) ∧ a.tmps.get 3 = some (i64 a0_1) ∧ a.tmps.get 22 = some (i64 (a0_0 + (1 : Int))) ∧ a.tmps.get 23 = some (i64 x448.1)) (fun x536 T ds537 h nx s hp hF => ?_) N _ y552 _ _ _ _ hy ⟨F449, rfl, (PH.le.refl _), st, gA, gA, gA, gA, gA, gA, gA, gA, gA, gA⟩ (fun e a σ hne hq => ?_)
            · obtain ⟨F537, rfl, le537, st, t0, t1, t2, t3, t9, t10, t22, t23, t49, t50⟩ := hp
              have le538 := PH.le.trans le450 le537
              have le539 := PH.le.trans le449 le537
              unfold sf97_L5 at hF; unfold L100w0; refine w_seq ?_; refine w_reg ?_; refine v_lss ?_; refine r_nil ?_; refine th_n ?_; refine w_seq ?_; refine v_cond (fun hb554 => ?_) (fun hb554 => ?_)
              · have hF := bif_t hb554 hF; refine w_skip ?_; refine th_n ?_; refine w_seq ?_; refine w_block ?_; refine w_seq ?_; refine w_reg ?_; refine v_move ?_; refine v_move ?_; refine r_nil ?_; refine th_n ?_; refine w_seq ?_; refine w_reg ?_; refine v_move ?_; refine v_move ?_; refine v_move ?_; refine v_move ?_; refine v_nc ?_; refine v_fa ?_; obtain ⟨q555, hF⟩ := ck_some hF
                refine v_ixa (j := (Int.toNat a0_0)) (Int.toNat_of_nonneg q555.1).symm (by omega) ?_
                obtain ⟨q556, hF⟩ := ck_some hF
                refine v_ixa (j := (Int.toNat x536.1)) (Int.toNat_of_nonneg q556.1).symm (by omega) ?_
                refine v_ld1 (o := ((5 + (Int.toNat a0_0) * 13) + (Int.toNat x536.1) * 1)) (st.at (i := 2) rfl).2.2 (ar_get (p := 5) (ix := (((Int.toNat a0_0) * 13) + (Int.toNat x536.1))) [(i64 a0_0), (i64 a0_1), (i64 a0_2), (i64 a0_3), (i64 (a0_0 + (1 : Int)))] rfl (by omega) (by omega)) ?_
                obtain ⟨q557, hF⟩ := ck_some hF; refine v_add q557 ?_; refine v_move ?_; refine r_nil ?_; refine th_n ?_; refine w_seq ?_; refine w_reg ?_; refine v_move ?_; refine v_move ?_; refine v_move ?_; refine v_move ?_; refine v_nc ?_; refine v_fa ?_; obtain ⟨q558, hF⟩ := ck_some hF
                refine v_ixa (j := (Int.toNat x448.1)) (Int.toNat_of_nonneg q558.1).symm (by omega) ?_
                obtain ⟨q559, hF⟩ := ck_some hF
                refine v_ixa (j := (Int.toNat x536.1)) (Int.toNat_of_nonneg q559.1).symm (by omega) ?_
                refine v_ld1 (o := ((5 + (Int.toNat x448.1) * 13) + (Int.toNat x536.1) * 1)) (st.at (i := 2) rfl).2.2 (ar_get (p := 5) (ix := (((Int.toNat x448.1) * 13) + (Int.toNat x536.1))) [(i64 a0_0), (i64 a0_1), (i64 a0_2), (i64 a0_3), (i64 (a0_0 + (1 : Int)))] rfl (by omega) (by omega)) ?_
                refine v_lss ?_; refine r_nil ?_; refine th_n ?_; refine v_cond (fun hb560 => ?_) (fun hb560 => ?_)
                · have hF := bif_t hb560 hF; refine w_reg ?_; refine v_move ?_; refine v_move ?_; refine v_move ?_; refine v_move ?_; refine v_nc ?_; refine v_fa ?_; obtain ⟨q561, hF⟩ := ck_some hF
                  refine v_ixa (j := (Int.toNat x448.1)) (Int.toNat_of_nonneg q561.1).symm (by omega) ?_
                  obtain ⟨q562, hF⟩ := ck_some hF
                  refine v_ixa (j := (Int.toNat x536.1)) (Int.toNat_of_nonneg q562.1).symm (by omega) ?_
                  refine v_st (o := ((5 + (Int.toNat x448.1) * 13) + (Int.toNat x536.1) * 1)) (v := (i64 (((x448.2 (((Int.toNat x448.1) * 13) + (Int.toNat (0 : Int)))) + a0_1) + (x536.2 (((Int.toNat a0_0) * 13) + (Int.toNat x536.1)))))) (cs' := ([(i64 a0_0), (i64 a0_1), (i64 a0_2), (i64 a0_3), (i64 (a0_0 + (1 : Int)))] ++ (eI .i64 169 (ups x536.2 (((Int.toNat x448.1) * 13) + (Int.toNat x536.1)) (((x448.2 (((Int.toNat x448.1) * 13) + (Int.toNat (0 : Int)))) + a0_1) + (x536.2 (((Int.toNat a0_0) * 13) + (Int.toNat x536.1)))))))) st 2 rfl (ar_set (p := 5) (ix := (((Int.toNat x448.1) * 13) + (Int.toNat x536.1))) [(i64 a0_0), (i64 a0_1), (i64 a0_2), (i64 a0_3), (i64 (a0_0 + (1 : Int)))] rfl (by omega) (by omega)) rfl rfl hfl (fun h563 st => ?_)
                  refine r_nil ?_; refine ib_n ?_; refine th_n ?_; refine w_reg ?_; obtain ⟨q564, hF⟩ := ck_some hF; refine v_add q564 ?_; refine v_move ?_; refine r_nil ?_; refine thn ⟨_, (inj hF).symm, rfl, ?_⟩; dsimp only
                  exact ⟨F537, rfl, le537, st, gA, gA, gA, gA, gA, gA, gA, gA, gA, gA⟩
                · have hF := bif_f hb560 hF; refine w_skip ?_; refine ib_n ?_; refine th_n ?_; refine w_reg ?_; obtain ⟨q565, hF⟩ := ck_some hF; refine v_add q565 ?_; refine v_move ?_; refine r_nil ?_; refine thn ⟨_, (inj hF).symm, rfl, ?_⟩; dsimp only
                  exact ⟨F537, rfl, le537, st, gA, gA, gA, gA, gA, gA, gA, gA, gA, gA⟩
              · have hF := bif_f hb554 hF; refine w_exit ?_; refine th_e ?_; refine th_e ?_; refine ⟨_, (inj hF).symm, rfl, rfl, ?_⟩; dsimp only
                exact ⟨F537, rfl, le537, st, gA, gA, gA, gA, gA, gA⟩
            · obtain ⟨N9, T, ds553⟩ := a; obtain ⟨h568, n569⟩ := σ; obtain ⟨rfl, e1, F553, e2, le553, st, t0, t1, t2, t3, t22, t23⟩ := hq
              dsimp only at e1 e2
              subst e1
              subst e2
              dsimp only at st t0 t1 t2 t3 t22 t23
              have le566 := PH.le.trans le450 le553
              have le567 := PH.le.trans le449 le553
              refine ib_e ?_; refine ib_n ?_; refine th_n ?_; refine w_reg ?_; obtain ⟨q570, hF⟩ := ck_some hF; refine v_add q570 ?_; refine v_move ?_; refine r_nil ?_; refine thn ⟨_, (inj hF).symm, rfl, ?_⟩; dsimp only
              exact ⟨F553, rfl, le567, st, gA, gA, gA, gA, gA, gA⟩
        · have hF := bif_f hb512 hF; refine w_exit ?_; refine th_e ?_; refine th_e ?_; refine ⟨_, (inj hF).symm, rfl, rfl, ?_⟩; dsimp only
          exact ⟨F449, rfl, le449, st⟩
      · obtain ⟨N9, T, ds511⟩ := a; obtain ⟨h572, n573⟩ := σ; obtain ⟨rfl, e1, F511, e2, le511, st⟩ := hq
        dsimp only at e1 e2
        subst e1
        subst e2
        dsimp only at st
        have le571 := PH.le.trans le127 le511
        refine ib_e ?_; refine th_n ?_; refine w_seq ?_; refine w_reg ?_; refine v_move ?_; refine r_nil ?_; refine th_n ?_; refine w_ret ?_; refine inl_end (v := (.bool true)) (Res.t gA Res.nil) rfl (.inl rfl) (ik ?_); refine r_nil ?_; refine th_n ?_; refine w_seq ?_; refine w_reg ?_; refine v_fa ?_; refine v_fa ?_; refine v_ld1 (st.at (i := 0) rfl).2.2 rfl ?_; refine v_fa ?_; refine v_ld1 (st.at (i := 0) rfl).2.2 rfl ?_; obtain ⟨q574, hF⟩ := ck_some hF; refine v_neg q574 ?_; refine v_inl lw100 rfl rfl (fun T hT => ?_)
        have t0 := hT 0 _ rfl
        have t1 := hT 1 _ rfl
        have t2 := hT 2 _ rfl
        have t3 := hT 3 _ rfl
        dsimp only [L100]
        refine w_seq ?_; refine w_reg ?_; refine v_move ?_; refine r_nil ?_; refine th_n ?_; refine w_seq ?_; refine w_seq ?_; refine w_reg ?_; refine v_move ?_; refine v_move ?_; refine v_move ?_; refine v_move ?_; obtain ⟨v576, e577, hF⟩ := bnd_some hF; refine v_call st (ct103 N e577 st.d (all_sub _)  (st.at (i := 2) rfl).2.2) (fun n578 st => ?_); refine v_not ?_; refine r_nil ?_; refine th_n ?_; refine v_cond (fun hb579 => ?_) (fun hb579 => ?_)
        · have hF := bif_t hb579 hF; refine w_seq ?_; refine w_reg ?_; refine v_move ?_; refine r_nil ?_; refine th_n ?_; refine w_ret ?_; refine th_r ?_; refine inl_end (v := (.bool false)) (Res.t gA Res.nil) rfl (.inl rfl) (ik ?_); refine r_nil ?_; refine th_n ?_; refine w_seq ?_; refine w_reg ?_; refine v_ldn (vs := ([(i64 a0_0), (i64 a0_1), (i64 a0_2), (i64 a0_3), (i64 (a0_0 + (1 : Int)))] ++ (eI .i64 169 y510))) (st.at (i := 2) rfl).2.2 (tk_tail (E := (eI .i64 169 y510)) [] [(i64 a0_0), (i64 a0_1), (i64 a0_2), (i64 a0_3), (i64 (a0_0 + (1 : Int)))] rfl eI_len rfl) ?_
          refine v_st (v := (.agg ([(i64 a0_0), (i64 a0_1), (i64 a0_2), (i64 a0_3), (i64 (a0_0 + (1 : Int)))] ++ (eI .i64 169 y510)))) (cs' := ([(i64 a0_0), (i64 a0_1), (i64 a0_2), (i64 a0_3), (i64 (a0_0 + (1 : Int)))] ++ (eI .i64 169 y510))) st 1 rfl (ov_tail (q := ([(i64 (0 : Int)), (i64 (0 : Int)), (i64 (0 : Int)), (i64 (0 : Int)), (i64 (0 : Int))] ++ (eI .i64 169 (fun _ => 0)))) (r := ([(i64 a0_0), (i64 a0_1), (i64 a0_2), (i64 a0_3), (i64 (a0_0 + (1 : Int)))] ++ (eI .i64 169 y510))) [] rfl (by simp [eI_len, eB_len])) (len_tail _ eI_len (by rfl)) (one_tail _ (by rfl) eI_one) hfl (fun h580 st => ?_)
          refine r_nil ?_; refine th_n ?_; refine w_ret ?_; obtain rfl := inj hF
          exact end_s st (Res.c gA (st.at (i := 1) rfl).2.2 (show takeN _ _ = some ([(i64 a0_0), (i64 a0_1), (i64 a0_2), (i64 a0_3), (i64 (a0_0 + (1 : Int)))] ++ (eI .i64 169 y510)) from (tk_tail (E := (eI .i64 169 y510)) [] [(i64 a0_0), (i64 a0_1), (i64 a0_2), (i64 a0_3), (i64 (a0_0 + (1 : Int)))] rfl eI_len rfl)) Res.nil) rfl rfl
        · have hF := bif_f hb579 hF; refine w_skip ?_; refine th_n ?_; refine w_seq ?_; refine w_seq ?_; refine w_reg ?_; refine v_move ?_; refine v_nc ?_; refine v_fa ?_; refine v_ld1 (st.at (i := 2) rfl).2.2 rfl ?_; refine v_move ?_; refine r_nil ?_; refine th_n ?_; refine w_block ?_; obtain ⟨y713, hy, hF⟩ := bnd_some hF; refine v_loopD (sf97_L8 N a0_0 a0_1) (fun x647 T ds648 h nx => ∃ (F648 : PH), ds648 = [] ∧ PH.le F511 F648 ∧ St n0 h0 F0 F648 h nx [.bx b1 [(i64 a0_0), (i64 a0_1), (i64 a0_2), (i64 a0_3)], .bx b4 ([(i64 (0 : Int)), (i64 (0 : Int)), (i64 (0 : Int)), (i64 (0 : Int)), (i64 (0 : Int))] ++ (eI .i64 169 (fun _ => 0))), .bx b8 ([(i64 a0_0), (i64 a0_1), (i64 a0_2), (i64 a0_3), (i64 (a0_0 + (1 : Int)))] ++ (eI .i64 169 x647.2))] ∧ T.get 0 = some (.ptr (some (b8, 4))) ∧ T.get 1 = some (i64 a0_0) ∧ T.get 2 = some (i64 (0 : Int)) ∧ T.get 3 = some (i64 (-a0_1)) ∧ T.get 22 = some (i64 (a0_0 + (1 : Int))) ∧ T.get 23 = some (i64 x647.1)) (fun y e a σ => e = .exit 0 ∧ a.nt = 83 ∧ ∃ (F714 : PH), a.defers = [] ∧ PH.le F511 F714 ∧ St n0 h0 F0 F714 σ.h σ.nx [.bx b1 [(i64 a0_0), (i64 a0_1), (i64 a0_2), (i64 a0_3)], .bx b4 ([(i64 (0 : Int)), (i64 (0 : Int)), (i64 (0 : Int)), (i64 (0 : Int)), (i64 (0 : Int))] ++ (eI .i64 169 (fun _ => 0))), .bx b8 ([(i64 a0_0), (i64 a0_1), (i64 a0_2), (i64 a0_3), (i64 (a0_0 + (1 : Int)))] ++ (eI .i64 169 y))]) (fun x647 T ds648 h nx s hp hF => ?_) N _ y713 _ _ _ _ hy ⟨F511, rfl, (PH.le.refl _), st, gA, gA, gA, gA, gA, gA⟩ (fun e a σ hne hq => ?_)
          · obtain ⟨F648, rfl, le648, st, t0, t1, t2, t3, t22, t23⟩ := hp
            have le649 := PH.le.trans le571 le648
            have le650 := PH.le.trans le511 le648
            unfold sf97_L8 at hF; unfold L100w1; refine w_seq ?_; refine w_reg ?_; refine v_lss ?_; refine r_nil ?_; refine th_n ?_; refine w_seq ?_; refine v_cond (fun hb715 => ?_) (fun hb715 => ?_)
            · have hF := bif_t hb715 hF; refine w_skip ?_; refine th_n ?_; refine w_seq ?_; refine w_block ?_; refine w_seq ?_; refine w_reg ?_; refine v_move ?_; refine v_move ?_; refine r_nil ?_; refine th_n ?_; refine w_seq ?_; refine w_reg ?_; refine v_move ?_; refine v_move ?_; refine v_move ?_; refine v_nc ?_; refine v_fa ?_; obtain ⟨q716, hF⟩ := ck_some hF
              refine v_ixa (j := (Int.toNat x647.1)) (Int.toNat_of_nonneg q716.1).symm (by omega) ?_
              obtain ⟨q717, hF⟩ := ck_some hF
              refine v_ixa (j := (Int.toNat a0_0)) (Int.toNat_of_nonneg q717.1).symm (by omega) ?_
              refine v_ld1 (o := ((5 + (Int.toNat x647.1) * 13) + (Int.toNat a0_0) * 1)) (st.at (i := 2) rfl).2.2 (ar_get (p := 5) (ix := (((Int.toNat x647.1) * 13) + (Int.toNat a0_0))) [(i64 a0_0), (i64 a0_1), (i64 a0_2), (i64 a0_3), (i64 (a0_0 + (1 : Int)))] rfl (by omega) (by omega)) ?_
              refine v_move ?_; obtain ⟨q718, hF⟩ := ck_some hF; refine v_add q718 ?_; refine v_move ?_; refine r_nil ?_; refine th_n ?_; refine w_seq ?_; refine w_seq ?_; refine w_reg ?_; refine v_move ?_; refine v_move ?_; refine v_move ?_; refine v_move ?_; refine v_nc ?_; refine v_fa ?_; obtain ⟨q719, hF⟩ := ck_some hF
              refine v_ixa (j := (Int.toNat x647.1)) (Int.toNat_of_nonneg q719.1).symm (by omega) ?_
              obtain ⟨q720, hF⟩ := ck_some hF
              refine v_ixa (j := (Int.toNat (0 : Int))) (Int.toNat_of_nonneg q720.1).symm (by omega) ?_
              refine v_ld1 (o := ((5 + (Int.toNat x647.1) * 13) + (Int.toNat (0 : Int)) * 1)) (st.at (i := 2) rfl).2.2 (ar_get (p := 5) (ix := (((Int.toNat x647.1) * 13) + (Int.toNat (0 : Int)))) [(i64 a0_0), (i64 a0_1), (i64 a0_2), (i64 a0_3), (i64 (a0_0 + (1 : Int)))] rfl (by omega) (by omega)) ?_
              refine v_geq ?_; refine r_nil ?_; refine th_n ?_; refine v_cond (fun hb721 => ?_) (fun hb721 => ?_)
              · have hF := bif_t hb721 hF; refine w_exit ?_; refine th_e ?_; refine ib_e ?_; refine th_n ?_; refine w_reg ?_; obtain ⟨q722, hF⟩ := ck_some hF; refine v_add q722 ?_; refine v_move ?_; refine r_nil ?_; refine thn ⟨_, (inj hF).symm, rfl, ?_⟩; dsimp only
                exact ⟨F648, rfl, le648, st, gA, gA, gA, gA, gA, gA⟩
              · have hF := bif_f hb721 hF; refine w_skip ?_; refine th_n ?_; refine w_seq ?_; refine w_reg ?_; refine v_move ?_; refine v_nc ?_; refine v_fa ?_; refine v_ld1 (st.at (i := 2) rfl).2.2 rfl ?_; refine v_move ?_; refine r_nil ?_; refine th_n ?_; refine w_block ?_; obtain ⟨y757, hy, hF⟩ := bnd_some hF; refine v_loopD (sf97_L7 a0_0 a0_1 x647) (fun x740 T ds741 h nx => ∃ (F741 : PH), ds741 = [] ∧ PH.le F648 F741 ∧ St n0 h0 F0 F741 h nx [.bx b1 [(i64 a0_0), (i64 a0_1), (i64 a0_2), (i64 a0_3)], .bx b4 ([(i64 (0 : Int)), (i64 (0 : Int)), (i64 (0 : Int)), (i64 (0 : Int)), (i64 (0 : Int))] ++ (eI .i64 169 (fun _ => 0))), .bx b8 ([(i64 a0_0), (i64 a0_1), (i64 a0_2), (i64 a0_3), (i64 (a0_0 + (1 : Int)))] ++ (eI .i64 169 x740.2))] ∧ T.get 0 = some (.ptr (some (b8, 4))) ∧ T.get 1 = some (i64 a0_0) ∧ T.get 2 = some (i64 (0 : Int)) ∧ T.get 3 = some (i64 (-a0_1)) ∧ T.get 9 = some (i64 x647.1) ∧ T.get 10 = some (i64 ((x647.2 (((Int.toNat x647.1) * 13) + (Int.toNat a0_0))) + (-a0_1))) ∧ T.get 22 = some (i64 (a0_0 + (1 : Int))) ∧ T.get 23 = some (i64 x647.1) ∧ T.get 49 = some (i64 (a0_0 + (1 : Int))) ∧ T.get 50 = some (i64 x740.1)) (fun y e a σ => e = .exit 2 ∧ a.nt = 83 ∧ ∃ (F758 : PH), a.defers = [] ∧ PH.le F648 F758 ∧ St n0 h0 F0 F758 σ.h σ.nx [.bx b1 [(i64 a0_0), (i64 a0_1), (i64 a0_2), (i64 a0_3)], .bx b4 ([(i64 (0 : Int)), (i64 (0 : Int)), (i64 (0 : Int)), (i64 (0 : Int)), (i64 (0 : Int))] ++ (eI .i64 169 (fun _ => 0))), .bx b8 ([(i64 a0_0), (i64 a0_1), (i64 a0_2), (i64 a0_3), (i64 (a0_0 + (1 : Int)))] ++ (eI .i64 169 y))] ∧ a.tmps.get 0 = some (.ptr (some (b8, 4))) ∧ a.tmps.get 1 = some (i64 a0_0) ∧ a.tmps.get 2 = some (i64 (0 : Int)) ∧ a.tmps.get 3 = some (i64 (-a0_1)) ∧ a.tmps.get 22 = some (i64 (a0_0 + (1 : Int))) ∧ a.tmps.get 23 = some (i64 x647.1)) (fun x740 T ds741 h nx s hp hF => ?_) N _ y757 _ _ _ _ hy ⟨F648, rfl, (PH.le.refl _), st, gA, gA, gA, gA, gA, gA, gA, gA, gA, gA⟩ (fun e a σ hne hq => ?_)
                · obtain ⟨F741, rfl, le741, st, t0, t1, t2, t3, t9, t10, t22, t23, t49, t50⟩ := hp
                  have le742 := PH.le.trans le649 le741
                  have le743 := PH.le.trans le650 le741
                  have le744 := PH.le.trans le648 le741
                  unfold sf97_L7 at hF; unfold L100w0; refine w_seq ?_; refine w_reg ?_; refine v_lss ?_; refine r_nil ?_; refine th_n ?_; refine w_seq ?_; refine v_cond (fun hb759 => ?_) (fun hb759 => ?_)
                  · have hF := bif_t hb759 hF; refine w_skip ?_; refine th_n ?_; refine w_seq ?_; refine w_block ?_; refine w_seq ?_; refine w_reg ?_; refine v_move ?_; refine v_move ?_; refine r_nil ?_; refine th_n ?_; refine w_seq ?_; refine w_reg ?_; refine v_move ?_; refine v_move ?_; refine v_move ?_; refine v_move ?_; refine v_nc ?_; refine v_fa ?_; obtain ⟨q760, hF⟩ := ck_some hF
                    refine v_ixa (j := (Int.toNat (0 : Int))) (Int.toNat_of_nonneg q760.1).symm (by omega) ?_
                    obtain ⟨q761, hF⟩ := ck_some hF
                    refine v_ixa (j := (Int.toNat x740.1)) (Int.toNat_of_nonneg q761.1).symm (by omega) ?_
                    refine v_ld1 (o := ((5 + (Int.toNat (0 : Int)) * 13) + (Int.toNat x740.1) * 1)) (st.at (i := 2) rfl).2.2 (ar_get (p := 5) (ix := (((Int.toNat (0 : Int)) * 13) + (Int.toNat x740.1))) [(i64 a0_0), (i64 a0_1), (i64 a0_2), (i64 a0_3), (i64 (a0_0 + (1 : Int)))] rfl (by omega) (by omega)) ?_
                    obtain ⟨q762, hF⟩ := ck_some hF; refine v_add q762 ?_; refine v_move ?_; refine r_nil ?_; refine th_n ?_; refine w_seq ?_; refine w_reg ?_; refine v_move ?_; refine v_move ?_; refine v_move ?_; refine v_move ?_; refine v_nc ?_; refine v_fa ?_; obtain ⟨q763, hF⟩ := ck_some hF
                    refine v_ixa (j := (Int.toNat x647.1)) (Int.toNat_of_nonneg q763.1).symm (by omega) ?_
                    obtain ⟨q764, hF⟩ := ck_some hF
                    refine v_ixa (j := (Int.toNat x740.1)) (Int.toNat_of_nonneg q764.1).symm (by omega) ?_
                    refine v_ld1 (o := ((5 + (Int.toNat x647.1) * 13) + (Int.toNat x740.1) * 1)) (st.at (i := 2) rfl).2.2 (ar_get (p := 5) (ix := (((Int.toNat x647.1) * 13) + (Int.toNat x740.1))) [(i64 a0_0), (i64 a0_1), (i64 a0_2), (i64 a0_3), (i64 (a0_0 + (1 : Int)))] rfl (by omega) (by omega)) ?_
                    refine v_lss ?_; refine r_nil ?_; refine th_n ?_; refine v_cond (fun hb765 => ?_) (fun hb765 => ?_)
                    · have hF := bif_t hb765 hF; refine w_reg ?_; refine v_move ?_; refine v_move ?_; refine v_move ?_; refine v_move ?_; refine v_nc ?_; refine v_fa ?_; obtain ⟨q766, hF⟩ := ck_some hF
                      refine v_ixa (j := (Int.toNat x647.1)) (Int.toNat_of_nonneg q766.1).symm (by omega) ?_
                      obtain ⟨q767, hF⟩ := ck_some hF
                      refine v_ixa (j := (Int.toNat x740.1)) (Int.toNat_of_nonneg q767.1).symm (by omega) ?_
                      refine v_st (o := ((5 + (Int.toNat x647.1) * 13) + (Int.toNat x740.1) * 1)) (v := (i64 (((x647.2 (((Int.toNat x647.1) * 13) + (Int.toNat a0_0))) + (-a0_1)) + (x740.2 (((Int.toNat (0 : Int)) * 13) + (Int.toNat x740.1)))))) (cs' := ([(i64 a0_0), (i64 a0_1), (i64 a0_2), (i64 a0_3), (i64 (a0_0 + (1 : Int)))] ++ (eI .i64 169 (ups x740.2 (((Int.toNat x647.1) * 13) + (Int.toNat x740.1)) (((x647.2 (((Int.toNat x647.1) * 13) + (Int.toNat a0_0))) + (-a0_1)) + (x740.2 (((Int.toNat (0 : Int)) * 13) + (Int.toNat x740.1)))))))) st 2 rfl (ar_set (p := 5) (ix := (((Int.toNat x647.1) * 13) + (Int.toNat x740.1))) [(i64 a0_0), (i64 a0_1), (i64 a0_2), (i64 a0_3), (i64 (a0_0 + (1 : Int)))] rfl (by omega) (by omega)) rfl rfl hfl (fun h768 st => ?_)
                      refine r_nil ?_; refine ib_n ?_; refine th_n ?_; refine w_reg ?_; obtain ⟨q769, hF⟩ := ck_some hF; refine v_add q769 ?_; refine v_move ?_; refine r_nil ?_; refine thn ⟨_, (inj hF).symm, rfl, ?_⟩; dsimp only
                      exact ⟨F741, rfl, le741, st, gA, gA, gA, gA, gA, gA, gA, gA, gA, gA⟩
                    · have hF := bif_f hb765 hF; refine w_skip ?_; refine ib_n ?_; refine th_n ?_; refine w_reg ?_; obtain ⟨q770, hF⟩ := ck_some hF; refine v_add q770 ?_; refine v_move ?_; refine r_nil ?_; refine thn ⟨_, (inj hF).symm, rfl, ?_⟩; dsimp only
                      exact ⟨F741, rfl, le741, st, gA, gA, gA, gA, gA, gA, gA, gA, gA, gA⟩
                  · have hF := bif_f hb759 hF; refine w_exit ?_; refine th_e ?_; refine th_e ?_; refine ⟨_, (inj hF).symm, rfl, rfl, ?_⟩; dsimp only
                    exact ⟨F741, rfl, le741, st, gA, gA, gA, gA, gA, gA⟩
                · obtain ⟨N9, T, ds758⟩ := a; obtain ⟨h774, n775⟩ := σ; obtain ⟨rfl, e1, F758, e2, le758, st, t0, t1, t2, t3, t22, t23⟩ := hq
                  dsimp only at e1 e2
                  subst e1
                  subst e2
                  dsimp only at st t0 t1 t2 t3 t22 t23
                  have le771 := PH.le.trans le649 le758
                  have le772 := PH.le.trans le650 le758
                  have le773 := PH.le.trans le648 le758
                  refine ib_e ?_; refine ib_n ?_; refine th_n ?_; refine w_reg ?_; obtain ⟨q776, hF⟩ := ck_some hF; refine v_add q776 ?_; refine v_move ?_; refine r_nil ?_; refine thn ⟨_, (inj hF).symm, rfl, ?_⟩; dsimp only
                  exact ⟨F758, rfl, le773, st, gA, gA, gA, gA, gA, gA⟩
            · have hF := bif_f hb715 hF; refine w_exit ?_; refine th_e ?_; refine th_e ?_; refine ⟨_, (inj hF).symm, rfl, rfl, ?_⟩; dsimp only
              exact ⟨F648, rfl, le648, st⟩
          · obtain ⟨N9, T, ds714⟩ := a; obtain ⟨h779, n780⟩ := σ; obtain ⟨rfl, e1, F714, e2, le714, st⟩ := hq
            dsimp only at e1 e2
            subst e1
            subst e2
            dsimp only at st
            have le777 := PH.le.trans le571 le714
            have le778 := PH.le.trans le511 le714
            refine ib_e ?_; refine th_n ?_; refine w_seq ?_; refine w_reg ?_; refine v_move ?_; refine r_nil ?_; refine th_n ?_; refine w_ret ?_; refine inl_end (v := (.bool true)) (Res.t gA Res.nil) rfl (.inl rfl) (ik ?_); refine r_nil ?_; refine th_n ?_; refine w_seq ?_; refine w_reg ?_; refine v_ldn (vs := ([(i64 a0_0), (i64 a0_1), (i64 a0_2), (i64 a0_3), (i64 (a0_0 + (1 : Int)))] ++ (eI .i64 169 y713))) (st.at (i := 2) rfl).2.2 (tk_tail (E := (eI .i64 169 y713)) [] [(i64 a0_0), (i64 a0_1), (i64 a0_2), (i64 a0_3), (i64 (a0_0 + (1 : Int)))] rfl eI_len rfl) ?_
            refine v_st (v := (.agg ([(i64 a0_0), (i64 a0_1), (i64 a0_2), (i64 a0_3), (i64 (a0_0 + (1 : Int)))] ++ (eI .i64 169 y713)))) (cs' := ([(i64 a0_0), (i64 a0_1), (i64 a0_2), (i64 a0_3), (i64 (a0_0 + (1 : Int)))] ++ (eI .i64 169 y713))) st 1 rfl (ov_tail (q := ([(i64 (0 : Int)), (i64 (0 : Int)), (i64 (0 : Int)), (i64 (0 : Int)), (i64 (0 : Int))] ++ (eI .i64 169 (fun _ => 0)))) (r := ([(i64 a0_0), (i64 a0_1), (i64 a0_2), (i64 a0_3), (i64 (a0_0 + (1 : Int)))] ++ (eI .i64 169 y713))) [] rfl (by simp [eI_len, eB_len])) (len_tail _ eI_len (by rfl)) (one_tail _ (by rfl) eI_one) hfl (fun h781 st => ?_)
            refine r_nil ?_; refine th_n ?_; refine w_ret ?_; obtain rfl := inj hF
            exact end_s st (Res.c gA (st.at (i := 1) rfl).2.2 (show takeN _ _ = some ([(i64 a0_0), (i64 a0_1), (i64 a0_2), (i64 a0_3), (i64 (a0_0 + (1 : Int)))] ++ (eI .i64 169 y713)) from (tk_tail (E := (eI .i64 169 y713)) [] [(i64 a0_0), (i64 a0_1), (i64 a0_2), (i64 a0_3), (i64 (a0_0 + (1 : Int)))] rfl eI_len rfl)) Res.nil) rfl rfl
end Go.Hx.V

/- Functions of the program come to that. -/
namespace Go.Hx.V
open Go.Hx
set_option linter.unusedVariables false
set_option maxRecDepth 20000
set_option maxHeartbeats 4000000
attribute [local irreducible] W R C thenH inBlockH Tr.get Tr.set lo ck bnd ix iter
theorem ct96 (N : Nat) {a0_0 : Int} {a0_1 : Int} {a0_2 : Int} {a0_3 : Int} {a0_4 : Int} {a0_5 : (Nat → Int)} {a1_0 : Int} {a1_1 : Int} {a1_2 : Int} {a1_3 : Int} {r : (Int × Int × Int × Int × Int × (Nat → Int) × Bool)} (hF : sf96 N a0_0 a0_1 a0_2 a0_3 a0_4 a0_5 a1_0 a1_1 a1_2 a1_3 = some r) {fl : Nat} {h0 : Tr HBlk} {n0 : Nat} {F0 : PH} (hd : D h0 n0) (hs : F0.sub h0) : C LW fl 96 [(.agg ([(i64 a0_0), (i64 a0_1), (i64 a0_2), (i64 a0_3), (i64 a0_4)] ++ (eI .i64 169 a0_5))), (.agg [(i64 a1_0), (i64 a1_1), (i64 a1_2), (i64 a1_3)])] ⟨h0, n0⟩ (KS (.tuple [(.agg ([(i64 r.1), (i64 r.2.1), (i64 r.2.2.1), (i64 r.2.2.2.1), (i64 r.2.2.2.2.1)] ++ (eI .i64 169 r.2.2.2.2.2.1))), (.bool r.2.2.2.2.2.2)]) n0 h0) := by
  unfold sf96 at hF
  refine in_cT hd hs lw96 rfl rfl (by rfl) (fun st T hT => ?_)
  have hfl : n0 ≤ n0 := Nat.le_refl n0
  have t0 := hT 0 _ rfl
  have t1 := hT 1 _ rfl
  dsimp only [L96]
  refine w_seq ?_; refine w_reg ?_; refine v_box st (fun b1 h2 n3 st => ?_); refine v_box st (fun b4 h5 n6 st => ?_); refine v_alloc st (fun b7 h8 n9 st => ?_)
  have st := st.cells 2 rfl ([(i64 (0 : Int)), (i64 (0 : Int)), (i64 (0 : Int)), (i64 (0 : Int)), (i64 (0 : Int))] ++ (eI .i64 169 (fun _ => 0))) rfl
  refine v_move ?_; refine r_nil ?_; refine th_n ?_; refine w_seq ?_; refine w_seq ?_; refine w_reg ?_; refine v_fa ?_; refine v_fa ?_; refine v_ld1 (st.at (i := 1) rfl).2.2 rfl ?_; refine v_fa ?_; refine v_ld1 (st.at (i := 1) rfl).2.2 rfl ?_; refine v_fa ?_; refine v_fa ?_; refine v_ld1 (st.at (i := 1) rfl).2.2 rfl ?_; refine v_inl lw100 rfl rfl (fun T hT => ?_)
  have t0 := hT 0 _ rfl
  have t1 := hT 1 _ rfl
  have t2 := hT 2 _ rfl
  have t3 := hT 3 _ rfl
  dsimp only [L100]
  refine w_seq ?_; refine w_reg ?_; refine v_move ?_; refine r_nil ?_; refine th_n ?_; refine w_seq ?_; refine w_seq ?_; refine w_reg ?_; refine v_move ?_; refine v_move ?_; refine v_move ?_; refine v_move ?_; obtain ⟨v11, e12, hF⟩ := bnd_some hF; refine v_call st (ct103 N e12 st.d (all_sub _)  (st.at (i := 0) rfl).2.2) (fun n13 st => ?_); refine v_not ?_; refine r_nil ?_; refine th_n ?_; refine v_cond (fun hb14 => ?_) (fun hb14 => ?_)
  · have hF := bif_t hb14 hF; refine w_seq ?_; refine w_reg ?_; refine v_move ?_; refine r_nil ?_; refine th_n ?_; refine w_ret ?_; refine th_r ?_; refine inl_end (v := (.bool false)) (Res.t gA Res.nil) rfl (.inl rfl) (ik ?_); refine v_not ?_; refine r_nil ?_; refine th_n ?_; refine v_cond (fun hq15 => ?_) (fun hq15 => ?_)
    · refine w_seq ?_; refine w_reg ?_; refine v_build (cs := ([(i64 (0 : Int)), (i64 (0 : Int)), (i64 (0 : Int)), (i64 (0 : Int)), (i64 (0 : Int))] ++ (eI .i64 169 (fun _ => 0)))) rfl ?_
      refine v_st (v := (.agg ([(i64 (0 : Int)), (i64 (0 : Int)), (i64 (0 : Int)), (i64 (0 : Int)), (i64 (0 : Int))] ++ (eI .i64 169 (fun _ => 0))))) (cs' := ([(i64 (0 : Int)), (i64 (0 : Int)), (i64 (0 : Int)), (i64 (0 : Int)), (i64 (0 : Int))] ++ (eI .i64 169 (fun _ => 0)))) st 2 rfl (ov_tail (q := ([(i64 (0 : Int)), (i64 (0 : Int)), (i64 (0 : Int)), (i64 (0 : Int)), (i64 (0 : Int))] ++ (eI .i64 169 (fun _ => 0)))) (r := ([(i64 (0 : Int)), (i64 (0 : Int)), (i64 (0 : Int)), (i64 (0 : Int)), (i64 (0 : Int))] ++ (eI .i64 169 (fun _ => 0)))) [] rfl (by simp [eI_len, eB_len])) (len_tail _ eI_len (by rfl)) (one_tail _ (by rfl) eI_one) hfl (fun h16 st => ?_)
      refine v_move ?_; refine r_nil ?_; refine th_n ?_; refine w_ret ?_; refine th_r ?_; obtain rfl := inj hF
      exact end_s st (Res.c gA (st.at (i := 2) rfl).2.2 (show takeN _ _ = some ([(i64 (0 : Int)), (i64 (0 : Int)), (i64 (0 : Int)), (i64 (0 : Int)), (i64 (0 : Int))] ++ (eI .i64 169 (fun _ => 0))) from (tk_tail (E := (eI .i64 169 (fun _ => 0))) [] [(i64 (0 : Int)), (i64 (0 : Int)), (i64 (0 : Int)), (i64 (0 : Int)), (i64 (0 : Int))] rfl eI_len rfl)) (Res.t gA Res.nil)) rfl rfl
    · exact absurd hq15 (by rw [(congrArg (!·) rfl)]; decide)
  · have hF := bif_f hb14 hF; refine w_skip ?_; refine th_n ?_; refine w_seq ?_; refine w_seq ?_; refine w_reg ?_; refine v_move ?_; refine v_nc ?_; refine v_fa ?_; refine v_ld1 (st.at (i := 0) rfl).2.2 rfl ?_; refine v_move ?_; refine r_nil ?_; refine th_n ?_; refine w_block ?_; obtain ⟨y133, hy, hF⟩ := bnd_some hF; refine v_loopD (sf96_L2 N a0_4 a1_0 a1_1 a1_3) (fun x75 T ds76 h nx => ∃ (F76 : PH), ds76 = [] ∧ PH.le F0 F76 ∧ St n0 h0 F0 F76 h nx [.bx b1 ([(i64 a0_0), (i64 a0_1), (i64 a0_2), (i64 a0_3), (i64 a0_4)] ++ (eI .i64 169 x75.2)), .bx b4 [(i64 a1_0), (i64 a1_1), (i64 a1_2), (i64 a1_3)], .bx b7 ([(i64 (0 : Int)), (i64 (0 : Int)), (i64 (0 : Int)), (i64 (0 : Int)), (i64 (0 : Int))] ++ (eI .i64 169 (fun _ => 0)))] ∧ T.get 0 = some (.ptr (some (b1, 4))) ∧ T.get 1 = some (i64 a1_0) ∧ T.get 2 = some (i64 a1_1) ∧ T.get 3 = some (i64 a1_3) ∧ T.get 22 = some (i64 a0_4) ∧ T.get 23 = some (i64 x75.1)) (fun y e a σ => e = .exit 0 ∧ a.nt = 83 ∧ ∃ (F134 : PH), a.defers = [] ∧ PH.le F0 F134 ∧ St n0 h0 F0 F134 σ.h σ.nx [.bx b1 ([(i64 a0_0), (i64 a0_1), (i64 a0_2), (i64 a0_3), (i64 a0_4)] ++ (eI .i64 169 y)), .bx b4 [(i64 a1_0), (i64 a1_1), (i64 a1_2), (i64 a1_3)], .bx b7 ([(i64 (0 : Int)), (i64 (0 : Int)), (i64 (0 : Int)), (i64 (0 : Int)), (i64 (0 : Int))] ++ (eI .i64 169 (fun _ => 0)))]) (fun x75 T ds76 h nx s hp hF => ?_) N _ y133 _ _ _ _ hy ⟨F0, rfl, (PH.le.refl _), st, gA, gA, gA, gA, gA, gA⟩ (fun e a σ hne hq => ?_)
    · obtain ⟨F76, rfl, le76, st, t0, t1, t2, t3, t22, t23⟩ := hp; unfold sf96_L2 at hF; unfold L100w1; refine w_seq ?_; refine w_reg ?_; refine v_lss ?_; refine r_nil ?_; refine th_n ?_; refine w_seq ?_; refine v_cond (fun hb135 => ?_) (fun hb135 => ?_)
      · have hF := bif_t hb135 hF; refine w_skip ?_; refine th_n ?_; refine w_seq ?_; refine w_block ?_; refine w_seq ?_; refine w_reg ?_; refine v_move ?_; refine v_move ?_; refine r_nil ?_; refine th_n ?_; refine w_seq ?_; refine w_reg ?_; refine v_move ?_; refine v_move ?_; refine v_move ?_; refine v_nc ?_; refine v_fa ?_; obtain ⟨q136, hF⟩ := ck_some hF
        refine v_ixa (j := (Int.toNat x75.1)) (Int.toNat_of_nonneg q136.1).symm (by omega) ?_
        obtain ⟨q137, hF⟩ := ck_some hF
        refine v_ixa (j := (Int.toNat a1_0)) (Int.toNat_of_nonneg q137.1).symm (by omega) ?_
        refine v_ld1 (o := ((5 + (Int.toNat x75.1) * 13) + (Int.toNat a1_0) * 1)) (st.at (i := 0) rfl).2.2 (ar_get (p := 5) (ix := (((Int.toNat x75.1) * 13) + (Int.toNat a1_0))) [(i64 a0_0), (i64 a0_1), (i64 a0_2), (i64 a0_3), (i64 a0_4)] rfl (by omega) (by omega)) ?_
        refine v_move ?_; obtain ⟨q138, hF⟩ := ck_some hF; refine v_add q138 ?_; refine v_move ?_; refine r_nil ?_; refine th_n ?_; refine w_seq ?_; refine w_seq ?_; refine w_reg ?_; refine v_move ?_; refine v_move ?_; refine v_move ?_; refine v_move ?_; refine v_nc ?_; refine v_fa ?_; obtain ⟨q139, hF⟩ := ck_some hF
        refine v_ixa (j := (Int.toNat x75.1)) (Int.toNat_of_nonneg q139.1).symm (by omega) ?_
        obtain ⟨q140, hF⟩ := ck_some hF
        refine v_ixa (j := (Int.toNat a1_1)) (Int.toNat_of_nonneg q140.1).symm (by omega) ?_
        refine v_ld1 (o := ((5 + (Int.toNat x75.1) * 13) + (Int.toNat a1_1) * 1)) (st.at (i := 0) rfl).2.2 (ar_get (p := 5) (ix := (((Int.toNat x75.1) * 13) + (Int.toNat a1_1))) [(i64 a0_0), (i64 a0_1), (i64 a0_2), (i64 a0_3), (i64 a0_4)] rfl (by omega) (by omega)) ?_
        refine v_geq ?_; refine r_nil ?_; refine th_n ?_; refine v_cond (fun hb141 => ?_) (fun hb141 => ?_)
        · have hF := bif_t hb141 hF; refine w_exit ?_; refine th_e ?_; refine ib_e ?_; refine th_n ?_; refine w_reg ?_; obtain ⟨q142, hF⟩ := ck_some hF; refine v_add q142 ?_; refine v_move ?_; refine r_nil ?_; refine thn ⟨_, (inj hF).symm, rfl, ?_⟩; dsimp only
          exact ⟨F76, rfl, le76, st, gA, gA, gA, gA, gA, gA⟩
        · have hF := bif_f hb141 hF; refine w_skip ?_; refine th_n ?_; refine w_seq ?_; refine w_reg ?_; refine v_move ?_; refine v_nc ?_; refine v_fa ?_; refine v_ld1 (st.at (i := 0) rfl).2.2 rfl ?_; refine v_move ?_; refine r_nil ?_; refine th_n ?_; refine w_block ?_; obtain ⟨y173, hy, hF⟩ := bnd_some hF; refine v_loopD (sf96_L1 a0_4 a1_0 a1_1 a1_3 x75) (fun x158 T ds159 h nx => ∃ (F159 : PH), ds159 = [] ∧ PH.le F76 F159 ∧ St n0 h0 F0 F159 h nx [.bx b1 ([(i64 a0_0), (i64 a0_1), (i64 a0_2), (i64 a0_3), (i64 a0_4)] ++ (eI .i64 169 x158.2)), .bx b4 [(i64 a1_0), (i64 a1_1), (i64 a1_2), (i64 a1_3)], .bx b7 ([(i64 (0 : Int)), (i64 (0 : Int)), (i64 (0 : Int)), (i64 (0 : Int)), (i64 (0 : Int))] ++ (eI .i64 169 (fun _ => 0)))] ∧ T.get 0 = some (.ptr (some (b1, 4))) ∧ T.get 1 = some (i64 a1_0) ∧ T.get 2 = some (i64 a1_1) ∧ T.get 3 = some (i64 a1_3) ∧ T.get 9 = some (i64 x75.1) ∧ T.get 10 = some (i64 ((x75.2 (((Int.toNat x75.1) * 13) + (Int.toNat a1_0))) + a1_3)) ∧ T.get 22 = some (i64 a0_4) ∧ T.get 23 = some (i64 x75.1) ∧ T.get 49 = some (i64 a0_4) ∧ T.get 50 = some (i64 x158.1)) (fun y e a σ => e = .exit 2 ∧ a.nt = 83 ∧ ∃ (F174 : PH), a.defers = [] ∧ PH.le F76 F174 ∧ St n0 h0 F0 F174 σ.h σ.nx [.bx b1 ([(i64 a0_0), (i64 a0_1), (i64 a0_2), (i64 a0_3), (i64 a0_4)] ++ (eI .i64 169 y)), .bx b4 [(i64 a1_0), (i64 a1_1), (i64 a1_2), (i64 a1_3)], .bx b7 ([(i64 (0 : Int)), (i64 (0 : Int)), (i64 (0 : Int)), (i64 (0 : Int)), (i64 (0 : Int))] ++ (eI .i64 169 (fun _ => 0)))] ∧ a.tmps.get 0 = some (.ptr (some (b1, 4))) ∧ a.tmps.get 1 = some (i64 a1_0) ∧ a.tmps.get 2 = some (i64 a1_1) ∧ a.tmps.get 3 = some (i64 a1_3) ∧ a.tmps.get 22 = some (i64 a0_4) ∧ a.tmps.get 23 = some (i64 x75.1)) (fun x158 T ds159 h nx s hp hF => ?_) N _ y173 _ _ _ _ hy ⟨F76, rfl, (PH.le.refl _), st, gA, gA, gA, gA, gA, gA, gA, gA, gA, gA⟩ (fun e a σ hne hq => ?_)
          · obtain ⟨F159, rfl, le159, st, t0, t1, t2, t3, t9, t10, t22, t23, t49, t50⟩ := hp
            have le160 := PH.le.trans le76 le159
            unfold sf96_L1 at hF; unfold L100w0; refine w_seq ?_; refine w_reg ?_; refine v_lss ?_; refine r_nil ?_; refine th_n ?_; refine w_seq ?_; refine v_cond (fun hb175 => ?_) (fun hb175 => ?_)
            · have hF := bif_t hb175 hF; refine w_skip ?_; refine th_n ?_; refine w_seq ?_; refine w_block ?_; refine w_seq ?_; refine w_reg ?_; refine v_move ?_; refine v_move ?_; refine r_nil ?_; refine th_n ?_; refine w_seq ?_; refine w_reg ?_; refine v_move ?_; refine v_move ?_; refine v_move ?_; refine v_move ?_; refine v_nc ?_; refine v_fa ?_; obtain ⟨q176, hF⟩ := ck_some hF
              refine v_ixa (j := (Int.toNat a1_1)) (Int.toNat_of_nonneg q176.1).symm (by omega) ?_
              obtain ⟨q177, hF⟩ := ck_some hF
              refine v_ixa (j := (Int.toNat x158.1)) (Int.toNat_of_nonneg q177.1).symm (by omega) ?_
              refine v_ld1 (o := ((5 + (Int.toNat a1_1) * 13) + (Int.toNat x158.1) * 1)) (st.at (i := 0) rfl).2.2 (ar_get (p := 5) (ix := (((Int.toNat a1_1) * 13) + (Int.toNat x158.1))) [(i64 a0_0), (i64 a0_1), (i64 a0_2), (i64 a0_3), (i64 a0_4)] rfl (by omega) (by omega)) ?_
              obtain ⟨q178, hF⟩ := ck_some hF; refine v_add q178 ?_; refine v_move ?_; refine r_nil ?_; refine th_n ?_; refine w_seq ?_; refine w_reg ?_; refine v_move ?_; refine v_move ?_; refine v_move ?_; refine v_move ?_; refine v_nc ?_; refine v_fa ?_; obtain ⟨q179, hF⟩ := ck_some hF
              refine v_ixa (j := (Int.toNat x75.1)) (Int.toNat_of_nonneg q179.1).symm (by omega) ?_
              obtain ⟨q180, hF⟩ := ck_some hF
              refine v_ixa (j := (Int.toNat x158.1)) (Int.toNat_of_nonneg q180.1).symm (by omega) ?_
              refine v_ld1 (o := ((5 + (Int.toNat x75.1) * 13) + (Int.toNat x158.1) * 1)) (st.at (i := 0) rfl).2.2 (ar_get (p := 5) (ix := (((Int.toNat x75.1) * 13) + (Int.toNat x158.1))) [(i64 a0_0), (i64 a0_1), (i64 a0_2), (i64 a0_3), (i64 a0_4)] rfl (by omega) (by omega)) ?_
              refine v_lss ?_; refine r_nil ?_; refine th_n ?_; refine v_cond (fun hb181 => ?_) (fun hb181 => ?_)
              · have hF := bif_t hb181 hF; refine w_reg ?_; refine v_move ?_; refine v_move ?_; refine v_move ?_; refine v_move ?_; refine v_nc ?_; refine v_fa ?_; obtain ⟨q182, hF⟩ := ck_some hF
                refine v_ixa (j := (Int.toNat x75.1)) (Int.toNat_of_nonneg q182.1).symm (by omega) ?_
                obtain ⟨q183, hF⟩ := ck_some hF
                refine v_ixa (j := (Int.toNat x158.1)) (Int.toNat_of_nonneg q183.1).symm (by omega) ?_
                refine v_st (o := ((5 + (Int.toNat x75.1) * 13) + (Int.toNat x158.1) * 1)) (v := (i64 (((x75.2 (((Int.toNat x75.1) * 13) + (Int.toNat a1_0))) + a1_3) + (x158.2 (((Int.toNat a1_1) * 13) + (Int.toNat x158.1)))))) (cs' := ([(i64 a0_0), (i64 a0_1), (i64 a0_2), (i64 a0_3), (i64 a0_4)] ++ (eI .i64 169 (ups x158.2 (((Int.toNat x75.1) * 13) + (Int.toNat x158.1)) (((x75.2 (((Int.toNat x75.1) * 13) + (Int.toNat a1_0))) + a1_3) + (x158.2 (((Int.toNat a1_1) * 13) + (Int.toNat x158.1)))))))) st 0 rfl (ar_set (p := 5) (ix := (((Int.toNat x75.1) * 13) + (Int.toNat x158.1))) [(i64 a0_0), (i64 a0_1), (i64 a0_2), (i64 a0_3), (i64 a0_4)] rfl (by omega) (by omega)) rfl rfl hfl (fun h184 st => ?_)
                refine r_nil ?_; refine ib_n ?_; refine th_n ?_; refine w_reg ?_; obtain ⟨q185, hF⟩ := ck_some hF; refine v_add q185 ?_; refine v_move ?_; refine r_nil ?_; refine thn ⟨_, (inj hF).symm, rfl, ?_⟩; dsimp only
                exact ⟨F159, rfl, le159, st, gA, gA, gA, gA, gA, gA, gA, gA, gA, gA⟩
              · have hF := bif_f hb181 hF; refine w_skip ?_; refine ib_n ?_; refine th_n ?_; refine w_reg ?_; obtain ⟨q186, hF⟩ := ck_some hF; refine v_add q186 ?_; refine v_move ?_; refine r_nil ?_; refine thn ⟨_, (inj hF).symm, rfl, ?_⟩; dsimp only
                exact ⟨F159, rfl, le159, st, gA, gA, gA, gA, gA, gA, gA, gA, gA, gA⟩
            · have hF := bif_f hb175 hF; refine w_exit ?_; refine th_e ?_; refine th_e ?_; refine ⟨_, (inj hF).symm, rfl, rfl, ?_⟩; dsimp only
              exact ⟨F159, rfl, le159, st, gA, gA, gA, gA, gA, gA⟩
          · obtain ⟨N9, T, ds174⟩ := a; obtain ⟨h188, n189⟩ := σ; obtain ⟨rfl, e1, F174, e2, le174, st, t0, t1, t2, t3, t22, t23⟩ := hq
            dsimp only at e1 e2
            subst e1
            subst e2
            dsimp only at st t0 t1 t2 t3 t22 t23
            have le187 := PH.le.trans le76 le174
            refine ib_e ?_; refine ib_n ?_; refine th_n ?_; refine w_reg ?_; obtain ⟨q190, hF⟩ := ck_some hF; refine v_add q190 ?_; refine v_move ?_; refine r_nil ?_; refine thn ⟨_, (inj hF).symm, rfl, ?_⟩; dsimp only
            exact ⟨F174, rfl, le187, st, gA, gA, gA, gA, gA, gA⟩
      · have hF := bif_f hb135 hF; refine w_exit ?_; refine th_e ?_; refine th_e ?_; refine ⟨_, (inj hF).symm, rfl, rfl, ?_⟩; dsimp only
        exact ⟨F76, rfl, le76, st⟩
    · obtain ⟨N9, T, ds134⟩ := a; obtain ⟨h191, n192⟩ := σ; obtain ⟨rfl, e1, F134, e2, le134, st⟩ := hq
      dsimp only at e1 e2
      subst e1
      subst e2
      dsimp only at st
      refine ib_e ?_; refine th_n ?_; refine w_seq ?_; refine w_reg ?_; refine v_move ?_; refine r_nil ?_; refine th_n ?_; refine w_ret ?_; refine inl_end (v := (.bool true)) (Res.t gA Res.nil) rfl (.inl rfl) (ik ?_); refine v_not ?_; refine r_nil ?_; refine th_n ?_; refine v_cond (fun hq193 => ?_) (fun hq193 => ?_)
      · exact absurd hq193 (by rw [(congrArg (!·) rfl)]; decide)
      · refine w_skip ?_; refine th_n ?_; refine w_seq ?_; obtain ⟨y391, hA392, hF⟩ := bnd_some hF; refine w_cutD (fun T ds394 h nx => ∃ (F394 : PH), ds394 = [] ∧ PH.le F134 F394 ∧ St n0 h0 F0 F394 h nx [.bx b1 ([(i64 a0_0), (i64 a0_1), (i64 a0_2), (i64 a0_3), (i64 a0_4)] ++ (eI .i64 169 y391.2)), .bx b4 [(i64 a1_0), (i64 a1_1), (i64 a1_2), (i64 a1_3)], .bx b7 ([(i64 (0 : Int)), (i64 (0 : Int)), (i64 (0 : Int)), (i64 (0 : Int)), (i64 (0 : Int))] ++ (eI .i64 169 (fun _ => 0)))] ∧ T.get 2 = some (.ptr (some (b1, 0))) ∧ T.get 4 = some (.ptr (some (b7, 0))) ∧ T.get 37 = some (.bool y391.1)) ?_ (fun T ds394 h nx hp => ?_)
        · have hK393 := hF
          have hF := hA392; refine w_reg ?_; refine v_fa ?_; refine v_ld1 (st.at (i := 1) rfl).2.2 rfl ?_; refine v_fa ?_; refine v_fa ?_; refine v_ld1 (st.at (i := 0) rfl).2.2 rfl ?_; refine v_lss ?_; refine v_move ?_
          rcases Bool.eq_false_or_eq_true (decide (a1_1 < a0_0)) with hb395 | hb395
          · have hF := bif_t hb395 hF; refine g_take hb395 (v_fa ?_); refine g_take hb395 (v_fa ?_); refine g_take hb395 (v_ld1 (st.at (i := 1) rfl).2.2 rfl ?_); obtain ⟨q396, hF⟩ := ck_some hF; refine g_take hb395 (v_add q396 ?_); refine g_take hb395 (v_fa ?_); refine g_take hb395 (v_ld1 (st.at (i := 1) rfl).2.2 rfl ?_); refine g_take hb395 (v_fa ?_); refine g_take hb395 (v_fa ?_); refine g_take hb395 (v_ld1 (st.at (i := 1) rfl).2.2 rfl ?_); obtain ⟨q397, hF⟩ := ck_some hF; refine g_take hb395 (v_neg q397 ?_); obtain ⟨q398, hF⟩ := ck_some hF; refine g_take hb395 (v_sub q398 ?_); refine g_take hb395 (v_inl lw100 rfl rfl (fun T hT => ?_))
            have t0 := hT 0 _ rfl
            have t1 := hT 1 _ rfl
            have t2 := hT 2 _ rfl
            have t3 := hT 3 _ rfl
            dsimp only [L100]
            refine w_seq ?_; refine w_reg ?_; refine v_move ?_; refine r_nil ?_; refine th_n ?_; refine w_seq ?_; refine w_seq ?_; refine w_reg ?_; refine v_move ?_; refine v_move ?_; refine v_move ?_; refine v_move ?_; obtain ⟨v400, e401, hF⟩ := bnd_some hF; refine v_call st (ct103 N e401 st.d (all_sub _)  (st.at (i := 0) rfl).2.2) (fun n402 st => ?_); refine v_not ?_; refine r_nil ?_; refine th_n ?_; refine v_cond (fun hb403 => ?_) (fun hb403 => ?_)
            · have hF := bif_t hb403 hF; refine w_seq ?_; refine w_reg ?_; refine v_move ?_; refine r_nil ?_; refine th_n ?_; refine w_ret ?_; refine th_r ?_; refine inl_end (v := (.bool false)) (Res.t gA Res.nil) rfl (.inl rfl) (ik ?_); refine g_take hb395 (v_not ?_); refine v_pick hb395 ?_; refine r_nil ?_; obtain rfl := inj hF; refine thn ⟨rfl, ?_⟩; dsimp only
              exact ⟨F134, rfl, (PH.le.refl _), st, gA, gA, gA⟩
            · have hF := bif_f hb403 hF; refine w_skip ?_; refine th_n ?_; refine w_seq ?_; refine w_seq ?_; refine w_reg ?_; refine v_move ?_; refine v_nc ?_; refine v_fa ?_; refine v_ld1 (st.at (i := 0) rfl).2.2 rfl ?_; refine v_move ?_; refine r_nil ?_; refine th_n ?_; refine w_block ?_; obtain ⟨y528, hy, hF⟩ := bnd_some hF; refine v_loopD (sf96_L4 N a0_4 a1_0 a1_1 a1_2) (fun x466 T ds467 h nx => ∃ (F467 : PH), ds467 = [] ∧ PH.le F134 F467 ∧ St n0 h0 F0 F467 h nx [.bx b1 ([(i64 a0_0), (i64 a0_1), (i64 a0_2), (i64 a0_3), (i64 a0_4)] ++ (eI .i64 169 x466.2)), .bx b4 [(i64 a1_0), (i64 a1_1), (i64 a1_2), (i64 a1_3)], .bx b7 ([(i64 (0 : Int)), (i64 (0 : Int)), (i64 (0 : Int)), (i64 (0 : Int)), (i64 (0 : Int))] ++ (eI .i64 169 (fun _ => 0)))] ∧ T.get 0 = some (.ptr (some (b1, 4))) ∧ T.get 1 = some (i64 (a1_1 + (1 : Int))) ∧ T.get 2 = some (i64 a1_0) ∧ T.get 3 = some (i64 ((-a1_2) - (1 : Int))) ∧ T.get 22 = some (i64 a0_4) ∧ T.get 23 = some (i64 x466.1)) (fun y e a σ => e = .exit 0 ∧ a.nt = 83 ∧ ∃ (F529 : PH), a.defers = [] ∧ PH.le F134 F529 ∧ St n0 h0 F0 F529 σ.h σ.nx [.bx b1 ([(i64 a0_0), (i64 a0_1), (i64 a0_2), (i64 a0_3), (i64 a0_4)] ++ (eI .i64 169 y)), .bx b4 [(i64 a1_0), (i64 a1_1), (i64 a1_2), (i64 a1_3)], .bx b7 ([(i64 (0 : Int)), (i64 (0 : Int)), (i64 (0 : Int)), (i64 (0 : Int)), (i64 (0 : Int))] ++ (eI .i64 169 (fun _ => 0)))]) (fun x466 T ds467 h nx s hp hF => ?_) N _ y528 _ _ _ _ hy ⟨F134, rfl, (PH.le.refl _), st, gA, gA, gA, gA, gA, gA⟩ (fun e a σ hne hq => ?_)
              · obtain ⟨F467, rfl, le467, st, t0, t1, t2, t3, t22, t23⟩ := hp
                have le468 := PH.le.trans le134 le467
                unfold sf96_L4 at hF; unfold L100w1; refine w_seq ?_; refine w_reg ?_; refine v_lss ?_; refine r_nil ?_; refine th_n ?_; refine w_seq ?_; refine v_cond (fun hb530 => ?_) (fun hb530 => ?_)
                · have hF := bif_t hb530 hF; refine w_skip ?_; refine th_n ?_; refine w_seq ?_; refine w_block ?_; refine w_seq ?_; refine w_reg ?_; refine v_move ?_; refine v_move ?_; refine r_nil ?_; refine th_n ?_; refine w_seq ?_; refine w_reg ?_; refine v_move ?_; refine v_move ?_; refine v_move ?_; refine v_nc ?_; refine v_fa ?_; obtain ⟨q531, hF⟩ := ck_some hF
                  refine v_ixa (j := (Int.toNat x466.1)) (Int.toNat_of_nonneg q531.1).symm (by omega) ?_
                  obtain ⟨q532, hF⟩ := ck_some hF
                  refine v_ixa (j := (Int.toNat (a1_1 + (1 : Int)))) (Int.toNat_of_nonneg q532.1).symm (by omega) ?_
                  refine v_ld1 (o := ((5 + (Int.toNat x466.1) * 13) + (Int.toNat (a1_1 + (1 : Int))) * 1)) (st.at (i := 0) rfl).2.2 (ar_get (p := 5) (ix := (((Int.toNat x466.1) * 13) + (Int.toNat (a1_1 + (1 : Int))))) [(i64 a0_0), (i64 a0_1), (i64 a0_2), (i64 a0_3), (i64 a0_4)] rfl (by omega) (by omega)) ?_
                  refine v_move ?_; obtain ⟨q533, hF⟩ := ck_some hF; refine v_add q533 ?_; refine v_move ?_; refine r_nil ?_; refine th_n ?_; refine w_seq ?_; refine w_seq ?_; refine w_reg ?_; refine v_move ?_; refine v_move ?_; refine v_move ?_; refine v_move ?_; refine v_nc ?_; refine v_fa ?_; obtain ⟨q534, hF⟩ := ck_some hF
                  refine v_ixa (j := (Int.toNat x466.1)) (Int.toNat_of_nonneg q534.1).symm (by omega) ?_
                  obtain ⟨q535, hF⟩ := ck_some hF
                  refine v_ixa (j := (Int.toNat a1_0)) (Int.toNat_of_nonneg q535.1).symm (by omega) ?_
                  refine v_ld1 (o := ((5 + (Int.toNat x466.1) * 13) + (Int.toNat a1_0) * 1)) (st.at (i := 0) rfl).2.2 (ar_get (p := 5) (ix := (((Int.toNat x466.1) * 13) + (Int.toNat a1_0))) [(i64 a0_0), (i64 a0_1), (i64 a0_2), (i64 a0_3), (i64 a0_4)] rfl (by omega) (by omega)) ?_
                  refine v_geq ?_; refine r_nil ?_; refine th_n ?_; refine v_cond (fun hb536 => ?_) (fun hb536 => ?_)
                  · have hF := bif_t hb536 hF; refine w_exit ?_; refine th_e ?_; refine ib_e ?_; refine th_n ?_; refine w_reg ?_; obtain ⟨q537, hF⟩ := ck_some hF; refine v_add q537 ?_; refine v_move ?_; refine r_nil ?_; refine thn ⟨_, (inj hF).symm, rfl, ?_⟩; dsimp only
                    exact ⟨F467, rfl, le467, st, gA, gA, gA, gA, gA, gA⟩
                  · have hF := bif_f hb536 hF; refine w_skip ?_; refine th_n ?_; refine w_seq ?_; refine w_reg ?_; refine v_move ?_; refine v_nc ?_; refine v_fa ?_; refine v_ld1 (st.at (i := 0) rfl).2.2 rfl ?_; refine v_move ?_; refine r_nil ?_; refine th_n ?_; refine w_block ?_; obtain ⟨y570, hy, hF⟩ := bnd_some hF; refine v_loopD (sf96_L3 a0_4 a1_0 a1_1 a1_2 x466) (fun x554 T ds555 h nx => ∃ (F555 : PH), ds555 = [] ∧ PH.le F467 F555 ∧ St n0 h0 F0 F555 h nx [.bx b1 ([(i64 a0_0), (i64 a0_1), (i64 a0_2), (i64 a0_3), (i64 a0_4)] ++ (eI .i64 169 x554.2)), .bx b4 [(i64 a1_0), (i64 a1_1), (i64 a1_2), (i64 a1_3)], .bx b7 ([(i64 (0 : Int)), (i64 (0 : Int)), (i64 (0 : Int)), (i64 (0 : Int)), (i64 (0 : Int))] ++ (eI .i64 169 (fun _ => 0)))] ∧ T.get 0 = some (.ptr (some (b1, 4))) ∧ T.get 1 = some (i64 (a1_1 + (1 : Int))) ∧ T.get 2 = some (i64 a1_0) ∧ T.get 3 = some (i64 ((-a1_2) - (1 : Int))) ∧ T.get 9 = some (i64 x466.1) ∧ T.get 10 = some (i64 ((x466.2 (((Int.toNat x466.1) * 13) + (Int.toNat (a1_1 + (1 : Int))))) + ((-a1_2) - (1 : Int)))) ∧ T.get 22 = some (i64 a0_4) ∧ T.get 23 = some (i64 x466.1) ∧ T.get 49 = some (i64 a0_4) ∧ T.get 50 = some (i64 x554.1)) (fun y e a σ => e = .exit 2 ∧ a.nt = 83 ∧ ∃ (F571 : PH), a.defers = [] ∧ PH.le F467 F571 ∧ St n0 h0 F0 F571 σ.h σ.nx [.bx b1 ([(i64 a0_0), (i64 a0_1), (i64 a0_2), (i64 a0_3), (i64 a0_4)] ++ (eI .i64 169 y)), .bx b4 [(i64 a1_0), (i64 a1_1), (i64 a1_2), (i64 a1_3)], .bx b7 ([(i64 (0 : Int)), (i64 (0 : Int)), (i64 (0 : Int)), (i64 (0 : Int)), (i64 (0 : Int))] ++ (eI .i64 169 (fun _ => 0)))] ∧ a.tmps.get 0 = some (.ptr (some (b1, 4))) ∧ a.tmps.get 1 = some (i64 (a1_1 + (1 : Int))) ∧ a.tmps.get 2 = some (i64 a1_0) ∧ a.tmps.get 3 = some (i64 ((-a1_2) - (1 : Int))) ∧ a.tmps.get 22 = some (i64 a0_4) ∧ a.tmps.get 23 = some (i64 x466.1)) (fun x554 T ds555 h nx s hp hF => ?_) N _ y570 _ _ _ _ hy ⟨F467, rfl, (PH.le.refl _), st, gA, gA, gA, gA, gA, gA, gA, gA, gA, gA⟩ (fun e a σ hne hq => ?_)
                    · obtain ⟨F555, rfl, le555, st, t0, t1, t2, t3, t9, t10, t22, t23, t49, t50⟩ := hp
                      have le556 := PH.le.trans le468 le555
                      have le557 := PH.le.trans le467 le555
                      unfold sf96_L3 at hF; unfold L100w0; refine w_seq ?_; refine w_reg ?_; refine v_lss ?_; refine r_nil ?_; refine th_n ?_; refine w_seq ?_; refine v_cond (fun hb572 => ?_) (fun hb572 => ?_)
                      · have hF := bif_t hb572 hF; refine w_skip ?_; refine th_n ?_; refine w_seq ?_; refine w_block ?_; refine w_seq ?_; refine w_reg ?_; refine v_move ?_; refine v_move ?_; refine r_nil ?_; refine th_n ?_; refine w_seq ?_; refine w_reg ?_; refine v_move ?_; refine v_move ?_; refine v_move ?_; refine v_move ?_; refine v_nc ?_; refine v_fa ?_; obtain ⟨q573, hF⟩ := ck_some hF
                        refine v_ixa (j := (Int.toNat a1_0)) (Int.toNat_of_nonneg q573.1).symm (by omega) ?_
                        obtain ⟨q574, hF⟩ := ck_some hF
                        refine v_ixa (j := (Int.toNat x554.1)) (Int.toNat_of_nonneg q574.1).symm (by omega) ?_
                        refine v_ld1 (o := ((5 + (Int.toNat a1_0) * 13) + (Int.toNat x554.1) * 1)) (st.at (i := 0) rfl).2.2 (ar_get (p := 5) (ix := (((Int.toNat a1_0) * 13) + (Int.toNat x554.1))) [(i64 a0_0), (i64 a0_1), (i64 a0_2), (i64 a0_3), (i64 a0_4)] rfl (by omega) (by omega)) ?_
                        obtain ⟨q575, hF⟩ := ck_some hF; refine v_add q575 ?_; refine v_move ?_; refine r_nil ?_; refine th_n ?_; refine w_seq ?_; refine w_reg ?_; refine v_move ?_; refine v_move ?_; refine v_move ?_; refine v_move ?_; refine v_nc ?_; refine v_fa ?_; obtain ⟨q576, hF⟩ := ck_some hF
                        refine v_ixa (j := (Int.toNat x466.1)) (Int.toNat_of_nonneg q576.1).symm (by omega) ?_
                        obtain ⟨q577, hF⟩ := ck_some hF
                        refine v_ixa (j := (Int.toNat x554.1)) (Int.toNat_of_nonneg q577.1).symm (by omega) ?_
                        refine v_ld1 (o := ((5 + (Int.toNat x466.1) * 13) + (Int.toNat x554.1) * 1)) (st.at (i := 0) rfl).2.2 (ar_get (p := 5) (ix := (((Int.toNat x466.1) * 13) + (Int.toNat x554.1))) [(i64 a0_0), (i64 a0_1), (i64 a0_2), (i64 a0_3), (i64 a0_4)] rfl (by omega) (by omega)) ?_
                        refine v_lss ?_; refine r_nil ?_; refine th_n ?_; refine v_cond (fun hb578 => ?_) (fun hb578 => ?_)
                        · have hF := bif_t hb578 hF; refine w_reg ?_; refine v_move ?_; refine v_move ?_; refine v_move ?_; refine v_move ?_; refine v_nc ?_; refine v_fa ?_; obtain ⟨q579, hF⟩ := ck_some hF
                          refine v_ixa (j := (Int.toNat x466.1)) (Int.toNat_of_nonneg q579.1).symm (by omega) ?_
                          obtain ⟨q580, hF⟩ := ck_some hF
                          refine v_ixa (j := (Int.toNat x554.1)) (Int.toNat_of_nonneg q580.1).symm (by omega) ?_
                          refine v_st (o := ((5 + (Int.toNat x466.1) * 13) + (Int.toNat x554.1) * 1)) (v := (i64 (((x466.2 (((Int.toNat x466.1) * 13) + (Int.toNat (a1_1 + (1 : Int))))) + ((-a1_2) - (1 : Int))) + (x554.2 (((Int.toNat a1_0) * 13) + (Int.toNat x554.1)))))) (cs' := ([(i64 a0_0), (i64 a0_1), (i64 a0_2), (i64 a0_3), (i64 a0_4)] ++ (eI .i64 169 (ups x554.2 (((Int.toNat x466.1) * 13) + (Int.toNat x554.1)) (((x466.2 (((Int.toNat x466.1) * 13) + (Int.toNat (a1_1 + (1 : Int))))) + ((-a1_2) - (1 : Int))) + (x554.2 (((Int.toNat a1_0) * 13) + (Int.toNat x554.1)))))))) st 0 rfl (ar_set (p := 5) (ix := (((Int.toNat x466.1) * 13) + (Int.toNat x554.1))) [(i64 a0_0), (i64 a0_1), (i64 a0_2), (i64 a0_3), (i64 a0_4)] rfl (by omega) (by omega)) rfl rfl hfl (fun h581 st => ?_)
                          refine r_nil ?_; refine ib_n ?_; refine th_n ?_; refine w_reg ?_; obtain ⟨q582, hF⟩ := ck_some hF; refine v_add q582 ?_; refine v_move ?_; refine r_nil ?_; refine thn ⟨_, (inj hF).symm, rfl, ?_⟩; dsimp only
                          exact ⟨F555, rfl, le555, st, gA, gA, gA, gA, gA, gA, gA, gA, gA, gA⟩
                        · have hF := bif_f hb578 hF; refine w_skip ?_; refine ib_n ?_; refine th_n ?_; refine w_reg ?_; obtain ⟨q583, hF⟩ := ck_some hF; refine v_add q583 ?_; refine v_move ?_; refine r_nil ?_; refine thn ⟨_, (inj hF).symm, rfl, ?_⟩; dsimp only
                          exact ⟨F555, rfl, le555, st, gA, gA, gA, gA, gA, gA, gA, gA, gA, gA⟩
                      · have hF := bif_f hb572 hF; refine w_exit ?_; refine th_e ?_; refine th_e ?_; refine ⟨_, (inj hF).symm, rfl, rfl, ?_⟩; dsimp only
                        exact ⟨F555, rfl, le555, st, gA, gA, gA, gA, gA, gA⟩
                    · obtain ⟨N9, T, ds571⟩ := a; obtain ⟨h586, n587⟩ := σ; obtain ⟨rfl, e1, F571, e2, le571, st, t0, t1, t2, t3, t22, t23⟩ := hq
                      dsimp only at e1 e2
                      subst e1
                      subst e2
                      dsimp only at st t0 t1 t2 t3 t22 t23
                      have le584 := PH.le.trans le468 le571
                      have le585 := PH.le.trans le467 le571
                      refine ib_e ?_; refine ib_n ?_; refine th_n ?_; refine w_reg ?_; obtain ⟨q588, hF⟩ := ck_some hF; refine v_add q588 ?_; refine v_move ?_; refine r_nil ?_; refine thn ⟨_, (inj hF).symm, rfl, ?_⟩; dsimp only
                      exact ⟨F571, rfl, le585, st, gA, gA, gA, gA, gA, gA⟩
                · have hF := bif_f hb530 hF; refine w_exit ?_; refine th_e ?_; refine th_e ?_; refine ⟨_, (inj hF).symm, rfl, rfl, ?_⟩; dsimp only
                  exact ⟨F467, rfl, le467, st⟩
              · obtain ⟨N9, T, ds529⟩ := a; obtain ⟨h590, n591⟩ := σ; obtain ⟨rfl, e1, F529, e2, le529, st⟩ := hq
                dsimp only at e1 e2
                subst e1
                subst e2
                dsimp only at st
                have le589 := PH.le.trans le134 le529
                refine ib_e ?_; refine th_n ?_; refine w_seq ?_; refine w_reg ?_; refine v_move ?_; refine r_nil ?_; refine th_n ?_; refine w_ret ?_; refine inl_end (v := (.bool true)) (Res.t gA Res.nil) rfl (.inl rfl) (ik ?_); refine g_take hb395 (v_not ?_); refine v_pick hb395 ?_; refine r_nil ?_; obtain rfl := inj hF; refine thn ⟨rfl, ?_⟩; dsimp only
                exact ⟨F529, rfl, le529, st, gA, gA, gA⟩
          · have hF := bif_f hb395 hF; refine g_skip hb395 ?_; refine g_skip hb395 ?_; refine g_skip hb395 ?_; refine g_skip hb395 ?_; refine g_skip hb395 ?_; refine g_skip hb395 ?_; refine g_skip hb395 ?_; refine g_skip hb395 ?_; refine g_skip hb395 ?_; refine g_skip hb395 ?_; refine g_skip hb395 ?_; refine g_skip hb395 ?_; refine g_skip hb395 ?_; refine v_pick' hb395 ?_; refine r_nil ?_; obtain rfl := inj hF; refine thn ⟨rfl, ?_⟩; dsimp only
            exact ⟨F134, rfl, (PH.le.refl _), st, gA, gA, gA⟩
        · obtain ⟨F394, rfl, le394, st, t2, t4, t37⟩ := hp
          have le592 := PH.le.trans le134 le394
          refine v_cond (fun hb593 => ?_) (fun hb593 => ?_)
          · have hF := bif_t hb593 hF; refine w_seq ?_; refine w_reg ?_; refine v_build (cs := ([(i64 (0 : Int)), (i64 (0 : Int)), (i64 (0 : Int)), (i64 (0 : Int)), (i64 (0 : Int))] ++ (eI .i64 169 (fun _ => 0)))) rfl ?_
            refine v_st (v := (.agg ([(i64 (0 : Int)), (i64 (0 : Int)), (i64 (0 : Int)), (i64 (0 : Int)), (i64 (0 : Int))] ++ (eI .i64 169 (fun _ => 0))))) (cs' := ([(i64 (0 : Int)), (i64 (0 : Int)), (i64 (0 : Int)), (i64 (0 : Int)), (i64 (0 : Int))] ++ (eI .i64 169 (fun _ => 0)))) st 2 rfl (ov_tail (q := ([(i64 (0 : Int)), (i64 (0 : Int)), (i64 (0 : Int)), (i64 (0 : Int)), (i64 (0 : Int))] ++ (eI .i64 169 (fun _ => 0)))) (r := ([(i64 (0 : Int)), (i64 (0 : Int)), (i64 (0 : Int)), (i64 (0 : Int)), (i64 (0 : Int))] ++ (eI .i64 169 (fun _ => 0)))) [] rfl (by simp [eI_len, eB_len])) (len_tail _ eI_len (by rfl)) (one_tail _ (by rfl) eI_one) hfl (fun h594 st => ?_)
            refine v_move ?_; refine r_nil ?_; refine th_n ?_; refine w_ret ?_; refine th_r ?_; obtain rfl := inj hF
            exact end_s st (Res.c gA (st.at (i := 2) rfl).2.2 (show takeN _ _ = some ([(i64 (0 : Int)), (i64 (0 : Int)), (i64 (0 : Int)), (i64 (0 : Int)), (i64 (0 : Int))] ++ (eI .i64 169 (fun _ => 0))) from (tk_tail (E := (eI .i64 169 (fun _ => 0))) [] [(i64 (0 : Int)), (i64 (0 : Int)), (i64 (0 : Int)), (i64 (0 : Int)), (i64 (0 : Int))] rfl eI_len rfl)) (Res.t gA Res.nil)) rfl rfl
          · have hF := bif_f hb593 hF; refine w_skip ?_; refine th_n ?_; refine w_seq ?_; refine w_reg ?_; refine v_ldn (vs := ([(i64 a0_0), (i64 a0_1), (i64 a0_2), (i64 a0_3), (i64 a0_4)] ++ (eI .i64 169 y391.2))) (st.at (i := 0) rfl).2.2 (tk_tail (E := (eI .i64 169 y391.2)) [] [(i64 a0_0), (i64 a0_1), (i64 a0_2), (i64 a0_3), (i64 a0_4)] rfl eI_len rfl) ?_
            refine v_st (v := (.agg ([(i64 a0_0), (i64 a0_1), (i64 a0_2), (i64 a0_3), (i64 a0_4)] ++ (eI .i64 169 y391.2)))) (cs' := ([(i64 a0_0), (i64 a0_1), (i64 a0_2), (i64 a0_3), (i64 a0_4)] ++ (eI .i64 169 y391.2))) st 2 rfl (ov_tail (q := ([(i64 (0 : Int)), (i64 (0 : Int)), (i64 (0 : Int)), (i64 (0 : Int)), (i64 (0 : Int))] ++ (eI .i64 169 (fun _ => 0)))) (r := ([(i64 a0_0), (i64 a0_1), (i64 a0_2), (i64 a0_3), (i64 a0_4)] ++ (eI .i64 169 y391.2))) [] rfl (by simp [eI_len, eB_len])) (len_tail _ eI_len (by rfl)) (one_tail _ (by rfl) eI_one) hfl (fun h595 st => ?_)
            refine v_move ?_; refine r_nil ?_; refine th_n ?_; refine w_ret ?_; obtain rfl := inj hF
            exact end_s st (Res.c gA (st.at (i := 2) rfl).2.2 (show takeN _ _ = some ([(i64 a0_0), (i64 a0_1), (i64 a0_2), (i64 a0_3), (i64 a0_4)] ++ (eI .i64 169 y391.2)) from (tk_tail (E := (eI .i64 169 y391.2)) [] [(i64 a0_0), (i64 a0_1), (i64 a0_2), (i64 a0_3), (i64 a0_4)] rfl eI_len rfl)) (Res.t gA Res.nil)) rfl rfl
end Go.Hx.V

/- Functions of the program come to that. -/
namespace Go.Hx.V
open Go.Hx
set_option linter.unusedVariables false
set_option maxRecDepth 20000
set_option maxHeartbeats 4000000
attribute [local irreducible] W R C thenH inBlockH Tr.get Tr.set lo ck bnd ix iter
theorem ct73 (N : Nat) {a0_0 : Int} {a0_1 : Int} {a0_2 : Int} {a0_3 : Int} {a0_4 : Int} {a0_5 : (Nat → Int)} {r : (List (Int × Int))} (hF : sf73 N a0_0 a0_1 a0_2 a0_3 a0_4 a0_5 = some r) {fl : Nat} {h0 : Tr HBlk} {n0 : Nat} {F0 : PH} (hd : D h0 n0) (hs : F0.sub h0) (hfl : fl ≤ n0) : C LW fl 73 [(.agg ([(i64 a0_0), (i64 a0_1), (i64 a0_2), (i64 a0_3), (i64 a0_4)] ++ (eI .i64 169 a0_5)))] ⟨h0, n0⟩ (KR (lvL (rP rI rI) 2) F0 h0 n0 r) := by
  unfold sf73 at hF
  refine in_mT hd hs hfl lw73 rfl rfl (by rfl) (fun st T hT => ?_)
  have t0 := hT 0 _ rfl
  dsimp only [L73]
  refine w_seq ?_; refine w_reg ?_; refine v_box st (fun b1 h2 n3 st => ?_); refine v_move ?_; refine r_nil ?_; refine th_n ?_; refine w_seq ?_; refine w_reg ?_; obtain ⟨v4, e5, hF⟩ := bnd_some hF; refine v_call st (ct77 N e5 st.d st.sub ) (fun n6 st => ?_); refine v_alloc st (fun b7 h8 n9 st => ?_); refine v_st (cs' := [(.via 131 "Lowest" 90), (.via 131 "Highest" 91)]) st 1 rfl rfl rfl rfl hfl (fun h10 st => ?_); refine r_nil ?_; refine th_n ?_; refine w_seq ?_; refine w_reg ?_; refine v_fa ?_; refine v_fa ?_; refine v_ld1 (st.at (i := 0) rfl).2.2 rfl ?_; obtain ⟨q11, hF⟩ := ck_some hF; refine v_add q11 ?_; obtain ⟨q12, hF⟩ := ck_some hF
  have w12 : LR (rP rI rI) 2 F0 (List.replicate (Int.toNat (0 : Int)) (0, 0)) (Go.Hx.repl (Int.toNat (0 : Int)) [(i64 (0 : Int)), (i64 (0 : Int))]) := LR.repl (⟨[(i64 (0 : Int))], _, rfl, rfl, rfl⟩) _
  refine v_mk st (n := (List.replicate (Int.toNat (0 : Int)) (0, 0)).length) q12.1 q12.2.1 (by simp) q12.2.2.1 q12.2.2.2 (fun o12 h12 n12 st => ?_)
  refine v_move ?_; refine r_nil ?_; refine th_n ?_; refine w_seq ?_; refine w_seq ?_; refine w_reg ?_; refine v_move ?_; refine r_nil ?_; refine th_n ?_; refine w_block ?_; obtain ⟨y45, hy, hF⟩ := bnd_some hF; refine v_loopD (sf73_L1 N a0_0 a0_1 a0_2 a0_3 a0_4 a0_5) (fun x29 T ds30 h nx => ∃ (F30 : PH) (o31 : Option Nat) (c31 : Nat) (cs31 : List HV), ds30 = [] ∧ PH.le F0 F30 ∧ St n0 h0 F0 F30 h nx [.bx b1 ([(i64 a0_0), (i64 a0_1), (i64 a0_2), (i64 a0_3), (i64 a0_4)] ++ (eI .i64 169 a0_5)), .bx b7 [(.via 131 "Lowest" 90), (.via 131 "Highest" 91)], .ls o31 c31 cs31 2] ∧ LR (rP rI rI) 2 F30 x29.1 cs31 ∧ T.get 1 = some (.ptr (some (b1, 0))) ∧ T.get 3 = some (.ptr (some (b7, 0))) ∧ T.get 4 = some (slv o31 (x29.1).length c31) ∧ T.get 5 = some (i64 x29.2)) (fun y e a σ => e = .exit 0 ∧ a.nt = 32 ∧ ∃ (F46 : PH) (o47 : Option Nat) (c47 : Nat) (cs47 : List HV), a.defers = [] ∧ PH.le F0 F46 ∧ St n0 h0 F0 F46 σ.h σ.nx [.bx b1 ([(i64 a0_0), (i64 a0_1), (i64 a0_2), (i64 a0_3), (i64 a0_4)] ++ (eI .i64 169 a0_5)), .bx b7 [(.via 131 "Lowest" 90), (.via 131 "Highest" 91)], .ls o47 c47 cs47 2] ∧ LR (rP rI rI) 2 F46 y cs47 ∧ a.tmps.get 4 = some (slv o47 (y).length c47)) (fun x29 T ds30 h nx s hp hF => ?_) N _ y45 _ _ _ _ hy ⟨F0, o12, (Int.toNat (a0_0 + (1 : Int))), (Go.Hx.repl (Int.toNat (0 : Int)) [(i64 (0 : Int)), (i64 (0 : Int))]), rfl, (PH.le.refl _), st, w12, gA, gA, gA, gA⟩ (fun e a σ hne hq => ?_)
  · obtain ⟨F30, o31, c31, cs31, rfl, le30, st, w31, t1, t3, t4, t5⟩ := hp; unfold sf73_L1 at hF; unfold L73w0; refine w_seq ?_; refine w_seq ?_; refine w_reg ?_; refine v_move ?_; refine v_fa ?_; refine v_fa ?_; refine v_ld1 (st.at (i := 0) rfl).2.2 rfl ?_; refine v_leq ?_; refine r_nil ?_; refine th_n ?_; refine v_cond (fun hb48 => ?_) (fun hb48 => ?_)
    · have hF := bif_t hb48 hF; refine w_skip ?_; refine th_n ?_; refine w_seq ?_; refine w_block ?_; refine w_drawV (Nat.le_trans hfl st.ext.le) (fun dw => ?_)
      have wf := Wf.start st
      refine y_pure st.d dw (fun hm vw => v_move pr_nil) ?_; refine y_pure st.d dw (fun hm vw => v_fa pr_nil) ?_; refine y_pure st.d dw (fun hm vw => v_ld1 (vw.bx (st.at (i := 1) rfl)) rfl pr_nil) ?_; refine y_pure st.d dw (fun hm vw => v_move pr_nil) ?_; obtain ⟨v49, e50, hF⟩ := bnd_some hF
      refine y_flat st.d dw (fun hm vw => u_callV (off := 4) (by kernel_rfl) (ct90 N e50 vw.d (all_sub _)  (vw.bx (st.at (i := 0) rfl))) (fun n' hn' => pf_nil hn')) (fun n51 hn' dw => ?_)
      refine y_pure st.d dw (fun hm vw => v_fa pr_nil) ?_; refine y_pure st.d dw (fun hm vw => v_ld1 (vw.bx (st.at (i := 1) rfl)) rfl pr_nil) ?_; refine y_end st.d dw rfl (fun h52 ex vs => ?_)
      have st := st.ext1 ex
      refine v_move ?_; obtain ⟨v53, e54, hF⟩ := bnd_some hF
      refine v_callV (off := 4) (by kernel_rfl) st (ct91 N e54 st.d (all_sub _)  (st.at (i := 0) rfl).2.2) (fun n55 st => ?_)
      refine v_build (cs := [(i64 v49), (i64 v53)]) rfl ?_; refine v_bs (cs := [(i64 v49), (i64 v53)]) st rfl (fun b56 h57 n58 st => ?_); obtain ⟨q59, hF⟩ := ck_some hF
      have w59 : LR (rP rI rI) 2 F30 (x29.1 ++ [(v49, v53)]) (cs31 ++ [(i64 v49), (i64 v53)]) := LR.app w31 (LR.one (⟨[(i64 v49)], _, rfl, rfl, rfl⟩))
      refine v_aps (n := 1) (ox := 0) (m := (x29.1 ++ [(v49, v53)]).length) (row := [(i64 v49), (i64 v53)]) st 2 rfl w31.1 (st.at (i := 3) rfl).2.2 rfl rfl q59 hfl (by decide) (by decide) (by simp) (fun o59 c59 h59 n59 st => ?_)
      refine v_move ?_; refine r_nil ?_; refine ib_n ?_; refine th_n ?_; refine w_reg ?_; refine v_move ?_; obtain ⟨q60, hF⟩ := ck_some hF; refine v_add q60 ?_; refine v_move ?_; refine r_nil ?_; refine thn ⟨_, (inj hF).symm, rfl, ?_⟩; dsimp only
      exact ⟨F30, o59, c59, (cs31 ++ [(i64 v49), (i64 v53)]), rfl, le30, (st.drop (by first | exact List.Sublist.refl _ | (repeat first | exact List.nil_sublist _ | refine List.Sublist.cons_cons _ ?_ | refine List.Sublist.cons _ ?_))), w59, gA, gA, gA, gA⟩
    · have hF := bif_f hb48 hF; refine w_exit ?_; refine th_e ?_; refine th_e ?_; refine ⟨_, (inj hF).symm, rfl, rfl, ?_⟩; dsimp only
      exact ⟨F30, o31, c31, cs31, rfl, le30, st, w31, gA⟩
  · obtain ⟨N9, T, ds46⟩ := a; obtain ⟨h61, n62⟩ := σ; obtain ⟨rfl, e1, F46, o47, c47, cs47, e2, le46, st, w47, t4⟩ := hq
    dsimp only at e1 e2
    subst e1
    subst e2
    dsimp only at st t4
    refine ib_e ?_; refine th_n ?_; refine w_seq ?_; refine w_reg ?_; refine v_move ?_; refine v_move ?_; refine r_nil ?_; refine th_n ?_; refine w_ret ?_; obtain rfl := inj hF
    obtain ⟨F63, le63, st, rf63⟩ := St.freeze st 2 rfl w47 (by decide)
    have le64 := PH.le.trans le46 le63
    exact end_r st (Res.t gA Res.nil) ⟨_, _, rfl, rf63⟩
theorem ct76 (N : Nat) {a0_0 : Int} {a0_1 : Int} {a0_2 : Int} {a0_3 : Int} {a0_4 : Int} {a0_5 : (Nat → Int)} {r : (List Int)} (hF : sf76 N a0_0 a0_1 a0_2 a0_3 a0_4 a0_5 = some r) {fl : Nat} {h0 : Tr HBlk} {n0 : Nat} {F0 : PH} (hd : D h0 n0) (hs : F0.sub h0) (hfl : fl ≤ n0) : C LW fl 76 [(.agg ([(i64 a0_0), (i64 a0_1), (i64 a0_2), (i64 a0_3), (i64 a0_4)] ++ (eI .i64 169 a0_5))), (.via 131 "Highest" 91)] ⟨h0, n0⟩ (KR (lvL rI 1) F0 h0 n0 r) := by
  unfold sf76 at hF
  refine in_mT hd hs hfl lw76 rfl rfl (by rfl) (fun st T hT => ?_)
  have t0 := hT 0 _ rfl
  have t1 := hT 1 _ rfl
  dsimp only [L76]
  refine w_seq ?_; refine w_reg ?_; refine v_box st (fun b1 h2 n3 st => ?_); refine v_move ?_; refine r_nil ?_; refine th_n ?_; refine w_seq ?_; refine w_reg ?_; refine v_fa ?_; refine v_fa ?_; refine v_ld1 (st.at (i := 0) rfl).2.2 rfl ?_; obtain ⟨q4, hF⟩ := ck_some hF
  have w4 : LR rI 1 F0 (List.replicate (Int.toNat (0 : Int)) 0) (Go.Hx.repl (Int.toNat (0 : Int)) [(i64 (0 : Int))]) := LR.repl (rfl) _
  refine v_mk st (n := (List.replicate (Int.toNat (0 : Int)) 0).length) q4.1 q4.2.1 (by simp) q4.2.2.1 q4.2.2.2 (fun o4 h4 n4 st => ?_)
  refine v_move ?_; refine r_nil ?_; refine th_n ?_; refine w_seq ?_; refine w_seq ?_; refine w_reg ?_; refine v_move ?_; refine r_nil ?_; refine th_n ?_; refine w_block ?_; obtain ⟨y39, hy, hF⟩ := bnd_some hF; refine v_loopD (sf76_L1 N a0_0 a0_1 a0_2 a0_3 a0_4 a0_5) (fun x22 T ds23 h nx => ∃ (F23 : PH) (o24 : Option Nat) (c24 : Nat) (cs24 : List HV), ds23 = [] ∧ PH.le F0 F23 ∧ St n0 h0 F0 F23 h nx [.bx b1 ([(i64 a0_0), (i64 a0_1), (i64 a0_2), (i64 a0_3), (i64 a0_4)] ++ (eI .i64 169 a0_5)), .ls o24 c24 cs24 1] ∧ LR rI 1 F23 x22.1 cs24 ∧ T.get 1 = some (.via 131 "Highest" 91) ∧ T.get 2 = some (.ptr (some (b1, 0))) ∧ T.get 5 = some (slv o24 (x22.1).length c24) ∧ T.get 6 = some (i64 x22.2)) (fun y e a σ => e = .exit 0 ∧ a.nt = 30 ∧ ∃ (F40 : PH) (o41 : Option Nat) (c41 : Nat) (cs41 : List HV), a.defers = [] ∧ PH.le F0 F40 ∧ St n0 h0 F0 F40 σ.h σ.nx [.bx b1 ([(i64 a0_0), (i64 a0_1), (i64 a0_2), (i64 a0_3), (i64 a0_4)] ++ (eI .i64 169 a0_5)), .ls o41 c41 cs41 1] ∧ LR rI 1 F40 y cs41 ∧ a.tmps.get 5 = some (slv o41 (y).length c41)) (fun x22 T ds23 h nx s hp hF => ?_) N _ y39 _ _ _ _ hy ⟨F0, o4, (Int.toNat a0_0), (Go.Hx.repl (Int.toNat (0 : Int)) [(i64 (0 : Int))]), rfl, (PH.le.refl _), st, w4, gA, gA, gA, gA⟩ (fun e a σ hne hq => ?_)
  · obtain ⟨F23, o24, c24, cs24, rfl, le23, st, w24, t1, t2, t5, t6⟩ := hp; unfold sf76_L1 at hF; unfold L76w0; refine w_seq ?_; refine w_seq ?_; refine w_reg ?_; refine v_move ?_; refine v_fa ?_; refine v_fa ?_; refine v_ld1 (st.at (i := 0) rfl).2.2 rfl ?_; refine v_lss ?_; refine r_nil ?_; refine th_n ?_; refine v_cond (fun hb42 => ?_) (fun hb42 => ?_)
    · have hF := bif_t hb42 hF; refine w_skip ?_; refine th_n ?_; refine w_seq ?_; refine w_block ?_; refine w_reg ?_; refine v_move ?_; refine v_move ?_; refine v_move ?_; obtain ⟨q43, hF⟩ := ck_some hF; refine v_add q43 ?_; obtain ⟨v44, e45, hF⟩ := bnd_some hF
      refine v_callV (off := 4) (by kernel_rfl) st (ct91 N e45 st.d (all_sub _)  (st.at (i := 0) rfl).2.2) (fun n46 st => ?_)
      refine v_move ?_; refine v_move ?_; obtain ⟨v47, e48, hF⟩ := bnd_some hF
      refine v_callV (off := 4) (by kernel_rfl) st (ct91 N e48 st.d (all_sub _)  (st.at (i := 0) rfl).2.2) (fun n49 st => ?_)
      obtain ⟨q50, hF⟩ := ck_some hF; refine v_sub q50 ?_; refine v_bs (cs := [(i64 (v44 - v47))]) st rfl (fun b51 h52 n53 st => ?_); obtain ⟨q54, hF⟩ := ck_some hF
      have w54 : LR rI 1 F23 (x22.1 ++ [(v44 - v47)]) (cs24 ++ [(i64 (v44 - v47))]) := LR.app w24 (LR.one (rfl))
      refine v_aps (n := 1) (ox := 0) (m := (x22.1 ++ [(v44 - v47)]).length) (row := [(i64 (v44 - v47))]) st 1 rfl w24.1 (st.at (i := 2) rfl).2.2 rfl rfl q54 hfl (by decide) (by decide) (by simp) (fun o54 c54 h54 n54 st => ?_)
      refine v_move ?_; refine r_nil ?_; refine ib_n ?_; refine th_n ?_; refine w_reg ?_; refine v_move ?_; obtain ⟨q55, hF⟩ := ck_some hF; refine v_add q55 ?_; refine v_move ?_; refine r_nil ?_; refine thn ⟨_, (inj hF).symm, rfl, ?_⟩; dsimp only
      exact ⟨F23, o54, c54, (cs24 ++ [(i64 (v44 - v47))]), rfl, le23, (st.drop (by first | exact List.Sublist.refl _ | (repeat first | exact List.nil_sublist _ | refine List.Sublist.cons_cons _ ?_ | refine List.Sublist.cons _ ?_))), w54, gA, gA, gA, gA⟩
    · have hF := bif_f hb42 hF; refine w_exit ?_; refine th_e ?_; refine th_e ?_; refine ⟨_, (inj hF).symm, rfl, rfl, ?_⟩; dsimp only
      exact ⟨F23, o24, c24, cs24, rfl, le23, st, w24, gA⟩
  · obtain ⟨N9, T, ds40⟩ := a; obtain ⟨h56, n57⟩ := σ; obtain ⟨rfl, e1, F40, o41, c41, cs41, e2, le40, st, w41, t5⟩ := hq
    dsimp only at e1 e2
    subst e1
    subst e2
    dsimp only at st t5
    refine ib_e ?_; refine th_n ?_; refine w_seq ?_; refine w_reg ?_; refine v_move ?_; refine v_move ?_; refine r_nil ?_; refine th_n ?_; refine w_ret ?_; obtain rfl := inj hF
    obtain ⟨F58, le58, st, rf58⟩ := St.freeze st 1 rfl w41 (by decide)
    have le59 := PH.le.trans le40 le58
    exact end_r st (Res.t gA Res.nil) ⟨_, _, rfl, rf58⟩
theorem ct76_2 (N : Nat) {a0_0 : Int} {a0_1 : Int} {a0_2 : Int} {a0_3 : Int} {a0_4 : Int} {a0_5 : (Nat → Int)} {r : (List Int)} (hF : sf76_2 N a0_0 a0_1 a0_2 a0_3 a0_4 a0_5 = some r) {fl : Nat} {h0 : Tr HBlk} {n0 : Nat} {F0 : PH} (hd : D h0 n0) (hs : F0.sub h0) (hfl : fl ≤ n0) : C LW fl 76 [(.agg ([(i64 a0_0), (i64 a0_1), (i64 a0_2), (i64 a0_3), (i64 a0_4)] ++ (eI .i64 169 a0_5))), (.via 131 "Lowest" 90)] ⟨h0, n0⟩ (KR (lvL rI 1) F0 h0 n0 r) := by
  unfold sf76_2 at hF
  refine in_mT hd hs hfl lw76 rfl rfl (by rfl) (fun st T hT => ?_)
  have t0 := hT 0 _ rfl
  have t1 := hT 1 _ rfl
  dsimp only [L76]
  refine w_seq ?_; refine w_reg ?_; refine v_box st (fun b1 h2 n3 st => ?_); refine v_move ?_; refine r_nil ?_; refine th_n ?_; refine w_seq ?_; refine w_reg ?_; refine v_fa ?_; refine v_fa ?_; refine v_ld1 (st.at (i := 0) rfl).2.2 rfl ?_; obtain ⟨q4, hF⟩ := ck_some hF
  have w4 : LR rI 1 F0 (List.replicate (Int.toNat (0 : Int)) 0) (Go.Hx.repl (Int.toNat (0 : Int)) [(i64 (0 : Int))]) := LR.repl (rfl) _
  refine v_mk st (n := (List.replicate (Int.toNat (0 : Int)) 0).length) q4.1 q4.2.1 (by simp) q4.2.2.1 q4.2.2.2 (fun o4 h4 n4 st => ?_)
  refine v_move ?_; refine r_nil ?_; refine th_n ?_; refine w_seq ?_; refine w_seq ?_; refine w_reg ?_; refine v_move ?_; refine r_nil ?_; refine th_n ?_; refine w_block ?_; obtain ⟨y39, hy, hF⟩ := bnd_some hF; refine v_loopD (sf76_2_L1 N a0_0 a0_1 a0_2 a0_3 a0_4 a0_5) (fun x22 T ds23 h nx => ∃ (F23 : PH) (o24 : Option Nat) (c24 : Nat) (cs24 : List HV), ds23 = [] ∧ PH.le F0 F23 ∧ St n0 h0 F0 F23 h nx [.bx b1 ([(i64 a0_0), (i64 a0_1), (i64 a0_2), (i64 a0_3), (i64 a0_4)] ++ (eI .i64 169 a0_5)), .ls o24 c24 cs24 1] ∧ LR rI 1 F23 x22.1 cs24 ∧ T.get 1 = some (.via 131 "Lowest" 90) ∧ T.get 2 = some (.ptr (some (b1, 0))) ∧ T.get 5 = some (slv o24 (x22.1).length c24) ∧ T.get 6 = some (i64 x22.2)) (fun y e a σ => e = .exit 0 ∧ a.nt = 30 ∧ ∃ (F40 : PH) (o41 : Option Nat) (c41 : Nat) (cs41 : List HV), a.defers = [] ∧ PH.le F0 F40 ∧ St n0 h0 F0 F40 σ.h σ.nx [.bx b1 ([(i64 a0_0), (i64 a0_1), (i64 a0_2), (i64 a0_3), (i64 a0_4)] ++ (eI .i64 169 a0_5)), .ls o41 c41 cs41 1] ∧ LR rI 1 F40 y cs41 ∧ a.tmps.get 5 = some (slv o41 (y).length c41)) (fun x22 T ds23 h nx s hp hF => ?_) N _ y39 _ _ _ _ hy ⟨F0, o4, (Int.toNat a0_0), (Go.Hx.repl (Int.toNat (0 : Int)) [(i64 (0 : Int))]), rfl, (PH.le.refl _), st, w4, gA, gA, gA, gA⟩ (fun e a σ hne hq => ?_)
  · obtain ⟨F23, o24, c24, cs24, rfl, le23, st, w24, t1, t2, t5, t6⟩ := hp; unfold sf76_2_L1 at hF; unfold L76w0; refine w_seq ?_; refine w_seq ?_; refine w_reg ?_; refine v_move ?_; refine v_fa ?_; refine v_fa ?_; refine v_ld1 (st.at (i := 0) rfl).2.2 rfl ?_; refine v_lss ?_; refine r_nil ?_; refine th_n ?_; refine v_cond (fun hb42 => ?_) (fun hb42 => ?_)
    · have hF := bif_t hb42 hF; refine w_skip ?_; refine th_n ?_; refine w_seq ?_; refine w_block ?_; refine w_reg ?_; refine v_move ?_; refine v_move ?_; refine v_move ?_; obtain ⟨q43, hF⟩ := ck_some hF; refine v_add q43 ?_; obtain ⟨v44, e45, hF⟩ := bnd_some hF
      refine v_callV (off := 4) (by kernel_rfl) st (ct90 N e45 st.d (all_sub _)  (st.at (i := 0) rfl).2.2) (fun n46 st => ?_)
      refine v_move ?_; refine v_move ?_; obtain ⟨v47, e48, hF⟩ := bnd_some hF
      refine v_callV (off := 4) (by kernel_rfl) st (ct90 N e48 st.d (all_sub _)  (st.at (i := 0) rfl).2.2) (fun n49 st => ?_)
      obtain ⟨q50, hF⟩ := ck_some hF; refine v_sub q50 ?_; refine v_bs (cs := [(i64 (v44 - v47))]) st rfl (fun b51 h52 n53 st => ?_); obtain ⟨q54, hF⟩ := ck_some hF
      have w54 : LR rI 1 F23 (x22.1 ++ [(v44 - v47)]) (cs24 ++ [(i64 (v44 - v47))]) := LR.app w24 (LR.one (rfl))
      refine v_aps (n := 1) (ox := 0) (m := (x22.1 ++ [(v44 - v47)]).length) (row := [(i64 (v44 - v47))]) st 1 rfl w24.1 (st.at (i := 2) rfl).2.2 rfl rfl q54 hfl (by decide) (by decide) (by simp) (fun o54 c54 h54 n54 st => ?_)
      refine v_move ?_; refine r_nil ?_; refine ib_n ?_; refine th_n ?_; refine w_reg ?_; refine v_move ?_; obtain ⟨q55, hF⟩ := ck_some hF; refine v_add q55 ?_; refine v_move ?_; refine r_nil ?_; refine thn ⟨_, (inj hF).symm, rfl, ?_⟩; dsimp only
      exact ⟨F23, o54, c54, (cs24 ++ [(i64 (v44 - v47))]), rfl, le23, (st.drop (by first | exact List.Sublist.refl _ | (repeat first | exact List.nil_sublist _ | refine List.Sublist.cons_cons _ ?_ | refine List.Sublist.cons _ ?_))), w54, gA, gA, gA, gA⟩
    · have hF := bif_f hb42 hF; refine w_exit ?_; refine th_e ?_; refine th_e ?_; refine ⟨_, (inj hF).symm, rfl, rfl, ?_⟩; dsimp only
      exact ⟨F23, o24, c24, cs24, rfl, le23, st, w24, gA⟩
  · obtain ⟨N9, T, ds40⟩ := a; obtain ⟨h56, n57⟩ := σ; obtain ⟨rfl, e1, F40, o41, c41, cs41, e2, le40, st, w41, t5⟩ := hq
    dsimp only at e1 e2
    subst e1
    subst e2
    dsimp only at st t5
    refine ib_e ?_; refine th_n ?_; refine w_seq ?_; refine w_reg ?_; refine v_move ?_; refine v_move ?_; refine r_nil ?_; refine th_n ?_; refine w_ret ?_; obtain rfl := inj hF
    obtain ⟨F58, le58, st, rf58⟩ := St.freeze st 1 rfl w41 (by decide)
    have le59 := PH.le.trans le40 le58
    exact end_r st (Res.t gA Res.nil) ⟨_, _, rfl, rf58⟩
end Go.Hx.V

/- Functions of the program come to that. -/
namespace Go.Hx.V
open Go.Hx
set_option linter.unusedVariables false
set_option maxRecDepth 20000
set_option maxHeartbeats 4000000
attribute [local irreducible] W R C thenH inBlockH Tr.get Tr.set lo ck bnd ix iter
theorem ct20 (N : Nat) {a0_0 : Int} {a0_1 : Int} {a0_2 : Int} {a0_3 : Int} {r : Int} (hF : sf20 N a0_0 a0_1 a0_2 a0_3 = some r) {fl : Nat} {h0 : Tr HBlk} {n0 : Nat} {F0 : PH} (hd : D h0 n0) (hs : F0.sub h0) : C LW fl 20 [(.agg [(i64 a0_0), (i64 a0_1), (i64 a0_2), (i64 a0_3)])] ⟨h0, n0⟩ (KS (i64 r) n0 h0) := by
  unfold sf20 at hF
  refine in_cT hd hs lw20 rfl rfl (by rfl) (fun st T hT => ?_)
  have hfl : n0 ≤ n0 := Nat.le_refl n0
  have t0 := hT 0 _ rfl
  dsimp only [L20]
  refine w_seq ?_; refine w_reg ?_; refine v_box st (fun b1 h2 n3 st => ?_); refine v_move ?_; refine r_nil ?_; refine th_n ?_; refine w_seq ?_; refine w_seq ?_; refine w_reg ?_; refine v_ldn (vs := [(i64 a0_0), (i64 a0_1), (i64 a0_2), (i64 a0_3)]) (st.at (i := 0) rfl).2.2 rfl ?_; obtain ⟨v4, e5, hF⟩ := bnd_some hF; refine v_call st (ct63 N e5 st.d st.sub ) (fun n6 st => ?_); refine v_not ?_; refine r_nil ?_; refine th_n ?_; refine v_cond (fun hb7 => ?_) (fun hb7 => ?_)
  · have hF := bif_t hb7 hF; refine w_seq ?_; refine w_reg ?_; refine v_move ?_; refine r_nil ?_; refine th_n ?_; refine w_ret ?_; refine th_r ?_; obtain rfl := inj hF
    exact end_s st (Res.t gA Res.nil) rfl rfl
  · have hF := bif_f hb7 hF; refine w_skip ?_; refine th_n ?_; refine w_seq ?_; refine w_reg ?_; refine v_move ?_; refine r_nil ?_; refine th_n ?_; refine w_ret ?_; obtain rfl := inj hF
    exact end_s st (Res.t gA Res.nil) rfl rfl
theorem ct68 (N : Nat) {a0 : (List (Int × Int × Int × Int))} {a1f0_0 : Int} {a1f0_1 : Int} {a1f0_2 : Int} {a1f0_3 : Int} {r : Bool} (hF : sf68 N a0 a1f0_0 a1f0_1 a1f0_2 a1f0_3 = some r) {fl : Nat} {h0 : Tr HBlk} {n0 : Nat} {F0 : PH} (hd : D h0 n0) (hs : F0.sub h0) {pa0 : Option (Nat × Nat)} {ca0 : Nat} (ra0 : RowF (rP rI (rP rI (rP rI rI))) 4 F0 pa0 ca0 a0) : C LW fl 68 [(.slice pa0 (a0).length ca0), (.func 86 [(.agg [(i64 a1f0_0), (i64 a1f0_1), (i64 a1f0_2), (i64 a1f0_3)])] [])] ⟨h0, n0⟩ (KS (.bool r) n0 h0) := by
  unfold sf68 at hF
  refine in_cT hd hs lw68 rfl rfl (by rfl) (fun st T hT => ?_)
  have hfl : n0 ≤ n0 := Nat.le_refl n0
  have t0 := hT 0 _ rfl
  have t1 := hT 1 _ rfl
  dsimp only [L68]
  refine w_seq ?_; refine w_reg ?_; refine v_move ?_; refine r_nil ?_; refine th_n ?_; refine w_seq ?_; refine w_seq ?_; refine w_reg ?_; refine v_move ?_; refine v_len ?_; refine v_move ?_; refine r_nil ?_; refine th_n ?_; refine w_block ?_; obtain ⟨y14, hy, hF⟩ := bnd_some hF; refine v_loopD (sf68_L1 N a0 a1f0_0 a1f0_1 a1f0_2 a1f0_3) (fun x1 T ds2 h nx => ∃ (F2 : PH), ds2 = [] ∧ PH.le F0 F2 ∧ St n0 h0 F0 F2 h nx [] ∧ T.get 1 = some (.func 86 [(.agg [(i64 a1f0_0), (i64 a1f0_1), (i64 a1f0_2), (i64 a1f0_3)])] []) ∧ T.get 7 = some (.slice pa0 (a0).length ca0) ∧ T.get 8 = some (i64 ((a0).length : Int)) ∧ T.get 9 = some (i64 x1)) (fun y e a σ => (∃ u, y = (.inl u) ∧ e = .ret ∧ a.nt = 18 ∧ ∃ (F16 : PH), a.defers = [] ∧ PH.le F0 F16 ∧ St n0 h0 F0 F16 σ.h σ.nx [] ∧ a.tmps.get 4 = some (.bool false)) ∨ (∃ u, y = (.inr u) ∧ e = .exit 0 ∧ a.nt = 18 ∧ ∃ (F18 : PH), a.defers = [] ∧ PH.le F0 F18 ∧ St n0 h0 F0 F18 σ.h σ.nx [])) (fun x1 T ds2 h nx s hp hF => ?_) N _ y14 _ _ _ _ hy ⟨F0, rfl, (PH.le.refl _), st, gA, gA, gA, gA⟩ (fun e a σ hne hq => ?_)
  · obtain ⟨F2, rfl, le2, st, t1, t7, t8, t9⟩ := hp; unfold sf68_L1 at hF; unfold L68w0; refine w_seq ?_; refine w_reg ?_; refine v_lss ?_; refine r_nil ?_; refine th_n ?_; refine w_seq ?_; refine v_cond (fun hb19 => ?_) (fun hb19 => ?_)
    · have hF := bif_t hb19 hF; refine w_skip ?_; refine th_n ?_; refine w_seq ?_; refine w_block ?_; refine w_seq ?_; refine w_reg ?_; obtain ⟨n20, x20, z20, l20, g20, hF⟩ := ix_some hF; obtain ⟨b20, o20, s20, j20, r20, e20, f20, k20, ⟨_, _, rfl, rfl, ⟨_, _, rfl, rfl, ⟨_, _, rfl, rfl, rfl⟩⟩⟩⟩ := RowF.get ra0 g20; refine v_ixp e20 z20 l20 ?_; refine v_ldn (st.sub _ _ (le2 _ _ f20)) k20 ?_; refine v_alloc st (fun b21 h22 n23 st => ?_); refine v_st (cs' := [(i64 x20.1), (i64 x20.2.1), (i64 x20.2.2.1), (i64 x20.2.2.2)]) st 0 rfl rfl rfl rfl hfl (fun h24 st => ?_); refine r_nil ?_; refine th_n ?_; refine w_seq ?_; refine w_reg ?_; refine v_move ?_; refine v_ldn (vs := [(i64 x20.1), (i64 x20.2.1), (i64 x20.2.2.1), (i64 x20.2.2.2)]) (st.at (i := 0) rfl).2.2 rfl ?_
      obtain ⟨v25, e26, hF⟩ := bnd_some hF; refine v_call st (ct86 N e26 st.d st.sub ) (fun n27 st => ?_); refine v_not ?_; refine r_nil ?_; refine th_n ?_; refine v_cond (fun hb28 => ?_) (fun hb28 => ?_)
      · have hF := bif_t hb28 hF; refine w_seq ?_; refine w_reg ?_; refine v_move ?_; refine r_nil ?_; refine th_n ?_; refine w_ret ?_; refine ib_r ?_; refine th_r ?_; refine th_r ?_; refine ⟨_, (inj hF).symm, .inl ⟨_, rfl, rfl, rfl, ?_⟩⟩; dsimp only
        exact ⟨F2, rfl, le2, (st.drop (by first | exact List.Sublist.refl _ | (repeat first | exact List.nil_sublist _ | refine List.Sublist.cons_cons _ ?_ | refine List.Sublist.cons _ ?_))), gA⟩
      · have hF := bif_f hb28 hF; refine w_skip ?_; refine ib_n ?_; refine th_n ?_; refine w_reg ?_; obtain ⟨q29, hF⟩ := ck_some hF; refine v_add q29 ?_; refine v_move ?_; refine r_nil ?_; refine thn ⟨_, (inj hF).symm, rfl, ?_⟩; dsimp only
        exact ⟨F2, rfl, le2, (st.drop (by first | exact List.Sublist.refl _ | (repeat first | exact List.nil_sublist _ | refine List.Sublist.cons_cons _ ?_ | refine List.Sublist.cons _ ?_))), gA, gA, gA, gA⟩
    · have hF := bif_f hb19 hF; refine w_exit ?_; refine th_e ?_; refine th_e ?_; refine ⟨_, (inj hF).symm, .inr (⟨_, rfl, rfl, rfl, ?_⟩)⟩; dsimp only
      exact ⟨F2, rfl, le2, st⟩
  · rcases hq with hq | hq
    · obtain ⟨N9, T, ds16⟩ := a; obtain ⟨h30, n31⟩ := σ; obtain ⟨w15, rfl, rfl, e1, F16, e2, le16, st, t4⟩ := hq
      dsimp only at e1 e2
      subst e1
      subst e2
      dsimp only at st t4
      have hF := sel_l hF; refine ib_r ?_; refine th_r ?_; obtain rfl := inj hF
      exact end_s st (Res.t gA Res.nil) rfl rfl
    · obtain ⟨N9, T, ds18⟩ := a; obtain ⟨h32, n33⟩ := σ; obtain ⟨w17, rfl, rfl, e1, F18, e2, le18, st⟩ := hq
      dsimp only at e1 e2
      subst e1
      subst e2
      dsimp only at st
      have hF := sel_r hF; refine ib_e ?_; refine th_n ?_; refine w_seq ?_; refine w_reg ?_; refine v_move ?_; refine r_nil ?_; refine th_n ?_; refine w_ret ?_; obtain rfl := inj hF
      exact end_s st (Res.t gA Res.nil) rfl rfl
theorem ct25 (N : Nat) {a0_0 : Int} {a0_1 : Int} {a0_2 : Int} {a0_3 : Int} {r : Bool} (hF : sf25 N a0_0 a0_1 a0_2 a0_3 = some r) {fl : Nat} {h0 : Tr HBlk} {n0 : Nat} {F0 : PH} (hd : D h0 n0) (hs : F0.sub h0) : C LW fl 25 [(.agg [(i64 a0_0), (i64 a0_1), (i64 a0_2), (i64 a0_3)])] ⟨h0, n0⟩ (KS (.bool r) n0 h0) := by
  unfold sf25 at hF
  refine in_cT hd hs lw25 rfl rfl (by rfl) (fun st T hT => ?_)
  have hfl : n0 ≤ n0 := Nat.le_refl n0
  have t0 := hT 0 _ rfl
  dsimp only [L25]
  refine w_seq ?_; refine w_reg ?_; refine v_box st (fun b1 h2 n3 st => ?_); refine v_move ?_; refine r_nil ?_; refine th_n ?_; refine w_seq ?_; refine w_reg ?_; refine v_fa ?_; refine v_ld1 (st.at (i := 0) rfl).2.2 rfl ?_; obtain ⟨v4, e5, hF⟩ := bnd_some hF; refine v_call st (ct37 N e5 st.d st.sub ) (fun n6 st => ?_); refine v_move ?_
  rcases Bool.eq_false_or_eq_true v4 with hb7 | hb7
  · have hF := bif_t hb7 hF; refine g_take hb7 (v_fa ?_); refine g_take hb7 (v_ldn (vs := [(i64 a0_2), (i64 a0_3)]) (st.at (i := 0) rfl).2.2 rfl ?_); obtain ⟨v8, e9, hF⟩ := bnd_some hF; refine g_take hb7 (v_call st (ct48 N e9 st.d st.sub ) (fun n10 st => ?_)); refine v_pick hb7 ?_; refine v_move ?_
    rcases Bool.eq_false_or_eq_true v8 with hb11 | hb11
    · have hF := bif_t hb11 hF; refine g_take hb11 (v_fa ?_); refine g_take hb11 (v_ld1 (st.at (i := 0) rfl).2.2 rfl ?_); obtain ⟨v12, e13, hF⟩ := bnd_some hF; refine g_take hb11 (v_call st (ct37 N e13 st.d st.sub ) (fun n14 st => ?_)); refine v_pick hb11 ?_; refine v_move ?_
      rcases Bool.eq_false_or_eq_true v12 with hb15 | hb15
      · have hF := bif_t hb15 hF; refine g_take hb15 (v_fa ?_); refine g_take hb15 (v_ld1 (st.at (i := 0) rfl).2.2 rfl ?_); refine g_take hb15 (v_fa ?_); refine g_take hb15 (v_ld1 (st.at (i := 0) rfl).2.2 rfl ?_); refine g_take hb15 (v_fa ?_); refine g_take hb15 (v_fa ?_); refine g_take hb15 (v_ld1 (st.at (i := 0) rfl).2.2 rfl ?_); obtain ⟨q16, hF⟩ := ck_some hF; refine g_take hb15 (v_mul q16 ?_); refine g_take hb15 (v_fa ?_); refine g_take hb15 (v_ld1 (st.at (i := 0) rfl).2.2 rfl ?_); refine g_take hb15 (v_fa ?_); refine g_take hb15 (v_fa ?_); refine g_take hb15 (v_ld1 (st.at (i := 0) rfl).2.2 rfl ?_); obtain ⟨q17, hF⟩ := ck_some hF; refine g_take hb15 (v_mul q17 ?_); obtain ⟨v18, e19, hF⟩ := bnd_some hF
        refine g_take hb15 (v_call st (ct37 N e19 st.d st.sub ) (fun n20 st => ?_)); refine v_pick hb15 ?_; refine v_move ?_; refine r_nil ?_; refine th_n ?_; refine w_ret ?_; obtain rfl := inj hF
        exact end_s st (Res.t gA Res.nil) rfl rfl
      · have hF := bif_f hb15 hF; refine g_skip hb15 ?_; refine g_skip hb15 ?_; refine g_skip hb15 ?_; refine g_skip hb15 ?_; refine g_skip hb15 ?_; refine g_skip hb15 ?_; refine g_skip hb15 ?_; refine g_skip hb15 ?_; refine g_skip hb15 ?_; refine g_skip hb15 ?_; refine g_skip hb15 ?_; refine g_skip hb15 ?_; refine g_skip hb15 ?_; refine g_skip hb15 ?_; refine g_skip hb15 ?_; refine v_pick' hb15 ?_; refine v_move ?_; refine r_nil ?_; refine th_n ?_; refine w_ret ?_; obtain rfl := inj hF
        exact end_s st (Res.t gA Res.nil) rfl rfl
    · have hF := bif_f hb11 hF; refine g_skip hb11 ?_; refine g_skip hb11 ?_; refine g_skip hb11 ?_; refine v_pick' hb11 ?_; refine v_move ?_; refine g_skip rfl ?_; refine g_skip rfl ?_; refine g_skip rfl ?_; refine g_skip rfl ?_; refine g_skip rfl ?_; refine g_skip rfl ?_; refine g_skip rfl ?_; refine g_skip rfl ?_; refine g_skip rfl ?_; refine g_skip rfl ?_; refine g_skip rfl ?_; refine g_skip rfl ?_; refine g_skip rfl ?_; refine g_skip rfl ?_; refine g_skip rfl ?_; refine v_pick' rfl ?_; refine v_move ?_; refine r_nil ?_; refine th_n ?_; refine w_ret ?_; obtain rfl := inj hF
      exact end_s st (Res.t gA Res.nil) rfl rfl
  · have hF := bif_f hb7 hF; refine g_skip hb7 ?_; refine g_skip hb7 ?_; refine g_skip hb7 ?_; refine v_pick' hb7 ?_; refine v_move ?_; refine g_skip rfl ?_; refine g_skip rfl ?_; refine g_skip rfl ?_; refine v_pick' rfl ?_; refine v_move ?_; refine g_skip rfl ?_; refine g_skip rfl ?_; refine g_skip rfl ?_; refine g_skip rfl ?_; refine g_skip rfl ?_; refine g_skip rfl ?_; refine g_skip rfl ?_; refine g_skip rfl ?_; refine g_skip rfl ?_; refine g_skip rfl ?_; refine g_skip rfl ?_; refine g_skip rfl ?_; refine g_skip rfl ?_; refine g_skip rfl ?_; refine g_skip rfl ?_; refine v_pick' rfl ?_; refine v_move ?_; refine r_nil ?_; refine th_n ?_; refine w_ret ?_; obtain rfl := inj hF
    exact end_s st (Res.t gA Res.nil) rfl rfl
end Go.Hx.V

/- Functions of the program come to that. -/
namespace Go.Hx.V
open Go.Hx
set_option linter.unusedVariables false
set_option maxRecDepth 20000
set_option maxHeartbeats 4000000
attribute [local irreducible] W R C thenH inBlockH Tr.get Tr.set lo ck bnd ix iter
theorem ct27 (N : Nat) {a0_0 : Int} {a0_1 : Int} {a0_2 : Int} {a0_3 : Int} {a1 : (List (Int × Int × Int × Int))} {a2 : (List Int)} {r : Bool} (hF : sf27 N a0_0 a0_1 a0_2 a0_3 a1 a2 = some r) {fl : Nat} {h0 : Tr HBlk} {n0 : Nat} {F0 : PH} (hd : D h0 n0) (hs : F0.sub h0) {pa1 : Option (Nat × Nat)} {ca1 : Nat} {pa2 : Option (Nat × Nat)} {ca2 : Nat} (ra1 : RowF (rP rI (rP rI (rP rI rI))) 4 F0 pa1 ca1 a1) (ra2 : RowF rI 1 F0 pa2 ca2 a2) : C LW fl 27 [(.agg [(i64 a0_0), (i64 a0_1), (i64 a0_2), (i64 a0_3)]), (.slice pa1 (a1).length ca1), (.slice pa2 (a2).length ca2)] ⟨h0, n0⟩ (KS (.bool r) n0 h0) := by
  unfold sf27 at hF
  refine in_cT hd hs lw27 rfl rfl (by rfl) (fun st T hT => ?_)
  have hfl : n0 ≤ n0 := Nat.le_refl n0
  have t0 := hT 0 _ rfl
  have t1 := hT 1 _ rfl
  have t2 := hT 2 _ rfl
  dsimp only [L27]
  refine w_seq ?_; refine w_reg ?_; refine v_box st (fun b1 h2 n3 st => ?_); refine v_move ?_; refine r_nil ?_; refine th_n ?_; refine w_seq ?_; refine w_seq ?_; refine w_reg ?_; refine v_move ?_; refine v_len ?_; refine v_fa ?_; refine v_ld1 (st.at (i := 0) rfl).2.2 rfl ?_; refine v_nei ?_; refine r_nil ?_; refine th_n ?_; refine v_cond (fun hb4 => ?_) (fun hb4 => ?_)
  · have hF := bif_t hb4 hF; refine w_seq ?_; refine w_reg ?_; refine v_move ?_; refine r_nil ?_; refine th_n ?_; refine w_ret ?_; refine th_r ?_; obtain rfl := inj hF
    exact end_s st (Res.t gA Res.nil) rfl rfl
  · have hF := bif_f hb4 hF; refine w_skip ?_; refine th_n ?_; refine w_seq ?_; refine w_seq ?_; refine w_reg ?_; refine v_move ?_; refine r_nil ?_; refine th_n ?_; refine w_block ?_; obtain ⟨y15, hy, hF⟩ := bnd_some hF; refine v_loopD (sf27_L1 N a0_2 a0_3 a2) (fun x5 T ds6 h nx => ∃ (F6 : PH), ds6 = [] ∧ PH.le F0 F6 ∧ St n0 h0 F0 F6 h nx [.bx b1 [(i64 a0_0), (i64 a0_1), (i64 a0_2), (i64 a0_3)]] ∧ T.get 1 = some (.slice pa1 (a1).length ca1) ∧ T.get 2 = some (.slice pa2 (a2).length ca2) ∧ T.get 3 = some (.ptr (some (b1, 0))) ∧ T.get 7 = some (i64 x5)) (fun y e a σ => (∃ u, y = (.inl u) ∧ e = .ret ∧ a.nt = 53 ∧ ∃ (F17 : PH), a.defers = [] ∧ PH.le F0 F17 ∧ St n0 h0 F0 F17 σ.h σ.nx [.bx b1 [(i64 a0_0), (i64 a0_1), (i64 a0_2), (i64 a0_3)]] ∧ a.tmps.get 6 = some (.bool false)) ∨ (∃ u, y = (.inr u) ∧ e = .exit 0 ∧ a.nt = 53 ∧ ∃ (F19 : PH), a.defers = [] ∧ PH.le F0 F19 ∧ St n0 h0 F0 F19 σ.h σ.nx [.bx b1 [(i64 a0_0), (i64 a0_1), (i64 a0_2), (i64 a0_3)]] ∧ a.tmps.get 1 = some (.slice pa1 (a1).length ca1) ∧ a.tmps.get 2 = some (.slice pa2 (a2).length ca2) ∧ a.tmps.get 3 = some (.ptr (some (b1, 0))))) (fun x5 T ds6 h nx s hp hF => ?_) N _ y15 _ _ _ _ hy ⟨F0, rfl, (PH.le.refl _), st, gA, gA, gA, gA⟩ (fun e a σ hne hq => ?_)
    · obtain ⟨F6, rfl, le6, st, t1, t2, t3, t7⟩ := hp; unfold sf27_L1 at hF; unfold L27w1; refine w_seq ?_; refine w_seq ?_; refine w_reg ?_; refine v_move ?_; refine v_move ?_; refine v_len ?_; refine v_lss ?_; refine r_nil ?_; refine th_n ?_; refine v_cond (fun hb20 => ?_) (fun hb20 => ?_)
      · have hF := bif_t hb20 hF; refine w_skip ?_; refine th_n ?_; refine w_seq ?_; refine w_block ?_; refine w_seq ?_; refine w_drawV (Nat.le_trans hfl st.ext.le) (fun dw => ?_); refine y_pure st.d dw (fun hm vw => v_move pr_nil) ?_; refine y_pure st.d dw (fun hm vw => v_move pr_nil) ?_; obtain ⟨n21, x21, z21, l21, g21, hF⟩ := ix_some hF; obtain ⟨b21, o21, s21, j21, r21, e21, f21, k21, rfl⟩ := RowF.get ra2 g21; refine y_pure st.d dw (fun hm vw => v_ixp e21 z21 l21 pr_nil) ?_; refine y_pure st.d dw (fun hm vw => v_ld1 (vw.fz st (le6 _ _ f21)) (take_at (j := 0) k21 rfl) pr_nil) ?_; refine y_pure st.d dw (fun hm vw => v_fa pr_nil) ?_; refine y_pure st.d dw (fun hm vw => v_fa pr_nil) ?_; refine y_pure st.d dw (fun hm vw => v_ld1 (vw.bx (st.at (i := 0) rfl)) rfl pr_nil) ?_
        refine y_pure st.d dw (fun hm vw => v_fa pr_nil) ?_; refine y_pure st.d dw (fun hm vw => v_fa pr_nil) ?_; refine y_pure st.d dw (fun hm vw => v_ld1 (vw.bx (st.at (i := 0) rfl)) rfl pr_nil) ?_; refine y_end st.d dw rfl (fun h22 ex vs => ?_)
        have st := st.ext1 ex
        obtain ⟨v23, e24, hF⟩ := bnd_some hF; refine v_call st (ct37 N e24 st.d st.sub ) (fun n25 st => ?_); refine v_not ?_; refine r_nil ?_; refine th_n ?_; refine v_cond (fun hb26 => ?_) (fun hb26 => ?_)
        · have hF := bif_t hb26 hF; refine w_seq ?_; refine w_reg ?_; refine v_move ?_; refine r_nil ?_; refine th_n ?_; refine w_ret ?_; refine ib_r ?_; refine th_r ?_; refine th_r ?_; refine ⟨_, (inj hF).symm, .inl ⟨_, rfl, rfl, rfl, ?_⟩⟩; dsimp only
          exact ⟨F6, rfl, le6, st, gA⟩
        · have hF := bif_f hb26 hF; refine w_skip ?_; refine ib_n ?_; refine th_n ?_; refine w_reg ?_; refine v_move ?_; obtain ⟨q27, hF⟩ := ck_some hF; refine v_add q27 ?_; refine v_move ?_; refine r_nil ?_; refine thn ⟨_, (inj hF).symm, rfl, ?_⟩; dsimp only
          exact ⟨F6, rfl, le6, st, gA, gA, gA, gA⟩
      · have hF := bif_f hb20 hF; refine w_exit ?_; refine th_e ?_; refine th_e ?_; refine ⟨_, (inj hF).symm, .inr (⟨_, rfl, rfl, rfl, ?_⟩)⟩; dsimp only
        exact ⟨F6, rfl, le6, st, gA, gA, gA⟩
    · rcases hq with hq | hq
      · obtain ⟨N9, T, ds17⟩ := a; obtain ⟨h28, n29⟩ := σ; obtain ⟨w16, rfl, rfl, e1, F17, e2, le17, st, t6⟩ := hq
        dsimp only at e1 e2
        subst e1
        subst e2
        dsimp only at st t6
        have hF := sel_l hF; refine ib_r ?_; refine th_r ?_; obtain rfl := inj hF
        exact end_s st (Res.t gA Res.nil) rfl rfl
      · obtain ⟨N9, T, ds19⟩ := a; obtain ⟨h30, n31⟩ := σ; obtain ⟨w18, rfl, rfl, e1, F19, e2, le19, st, t1, t2, t3⟩ := hq
        dsimp only at e1 e2
        subst e1
        subst e2
        dsimp only at st t1 t2 t3
        have hF := sel_r hF; refine ib_e ?_; refine th_n ?_; refine w_seq ?_; refine w_seq ?_; refine w_reg ?_; refine v_move ?_; refine r_nil ?_; refine th_n ?_; refine w_block ?_; obtain ⟨y43, hy, hF⟩ := bnd_some hF; refine v_loopD (sf27_L2 N a0_0 a0_1 a0_2 a0_3 a1 a2) (fun x32 T ds33 h nx => ∃ (F33 : PH), ds33 = [] ∧ PH.le F19 F33 ∧ St n0 h0 F0 F33 h nx [.bx b1 [(i64 a0_0), (i64 a0_1), (i64 a0_2), (i64 a0_3)]] ∧ T.get 1 = some (.slice pa1 (a1).length ca1) ∧ T.get 2 = some (.slice pa2 (a2).length ca2) ∧ T.get 3 = some (.ptr (some (b1, 0))) ∧ T.get 8 = some (i64 x32)) (fun y e a σ => (∃ u, y = (.inl u) ∧ e = .ret ∧ a.nt = 53 ∧ ∃ (F45 : PH), a.defers = [] ∧ PH.le F19 F45 ∧ St n0 h0 F0 F45 σ.h σ.nx [.bx b1 [(i64 a0_0), (i64 a0_1), (i64 a0_2), (i64 a0_3)]] ∧ a.tmps.get 6 = some (.bool false)) ∨ (∃ u, y = (.inr u) ∧ e = .exit 2 ∧ a.nt = 53 ∧ ∃ (F47 : PH), a.defers = [] ∧ PH.le F19 F47 ∧ St n0 h0 F0 F47 σ.h σ.nx [.bx b1 [(i64 a0_0), (i64 a0_1), (i64 a0_2), (i64 a0_3)]] ∧ a.tmps.get 2 = some (.slice pa2 (a2).length ca2) ∧ a.tmps.get 3 = some (.ptr (some (b1, 0))))) (fun x32 T ds33 h nx s hp hF => ?_) N _ y43 _ _ _ _ hy ⟨F19, rfl, (PH.le.refl _), st, gA, gA, gA, gA⟩ (fun e a σ hne hq => ?_)
        · obtain ⟨F33, rfl, le33, st, t1, t2, t3, t8⟩ := hp
          have le34 := PH.le.trans le19 le33
          unfold sf27_L2 at hF; unfold L27w0; refine w_seq ?_; refine w_seq ?_; refine w_reg ?_; refine v_move ?_; refine v_move ?_; refine v_len ?_; refine v_lss ?_; refine r_nil ?_; refine th_n ?_; refine v_cond (fun hb48 => ?_) (fun hb48 => ?_)
          · have hF := bif_t hb48 hF; refine w_skip ?_; refine th_n ?_; refine w_seq ?_; refine w_block ?_; refine w_seq ?_; refine w_drawV (Nat.le_trans hfl st.ext.le) (fun dw => ?_); refine y_pure st.d dw (fun hm vw => v_ldn (vs := [(i64 a0_0), (i64 a0_1), (i64 a0_2), (i64 a0_3)]) (vw.bx (st.at (i := 0) rfl)) rfl pr_nil) ?_; refine y_pure st.d dw (fun hm vw => v_move pr_nil) ?_; refine y_pure st.d dw (fun hm vw => v_move pr_nil) ?_; obtain ⟨n49, x49, z49, l49, g49, hF⟩ := ix_some hF; obtain ⟨b49, o49, s49, j49, r49, e49, f49, k49, ⟨_, _, rfl, rfl, ⟨_, _, rfl, rfl, ⟨_, _, rfl, rfl, rfl⟩⟩⟩⟩ := RowF.get ra1 g49; refine y_pure st.d dw (fun hm vw => v_ixp e49 z49 l49 pr_nil) ?_; refine y_pure st.d dw (fun hm vw => v_ldn (vw.fz st (le34 _ _ f49)) k49 pr_nil) ?_
            refine y_end st.d dw rfl (fun h50 ex vs => ?_)
            have st := st.ext1 ex
            refine v_move ?_; obtain ⟨v51, e52, hF⟩ := bnd_some hF; refine v_call st (ct71 N e52 st.d st.sub (RowF.mono le34 ra2)) (fun n53 st => ?_); refine v_not ?_; refine r_nil ?_; refine th_n ?_; refine v_cond (fun hb54 => ?_) (fun hb54 => ?_)
            · have hF := bif_t hb54 hF; refine w_seq ?_; refine w_reg ?_; refine v_move ?_; refine r_nil ?_; refine th_n ?_; refine w_ret ?_; refine ib_r ?_; refine th_r ?_; refine th_r ?_; refine ⟨_, (inj hF).symm, .inl ⟨_, rfl, rfl, rfl, ?_⟩⟩; dsimp only
              exact ⟨F33, rfl, le33, st, gA⟩
            · have hF := bif_f hb54 hF; refine w_skip ?_; refine ib_n ?_; refine th_n ?_; refine w_reg ?_; refine v_move ?_; obtain ⟨q55, hF⟩ := ck_some hF; refine v_add q55 ?_; refine v_move ?_; refine r_nil ?_; refine thn ⟨_, (inj hF).symm, rfl, ?_⟩; dsimp only
              exact ⟨F33, rfl, le33, st, gA, gA, gA, gA⟩
          · have hF := bif_f hb48 hF; refine w_exit ?_; refine th_e ?_; refine th_e ?_; refine ⟨_, (inj hF).symm, .inr (⟨_, rfl, rfl, rfl, ?_⟩)⟩; dsimp only
            exact ⟨F33, rfl, le33, st, gA, gA⟩
        · rcases hq with hq | hq
          · obtain ⟨N9, T, ds45⟩ := a; obtain ⟨h57, n58⟩ := σ; obtain ⟨w44, rfl, rfl, e1, F45, e2, le45, st, t6⟩ := hq
            dsimp only at e1 e2
            subst e1
            subst e2
            dsimp only at st t6
            have le56 := PH.le.trans le19 le45
            have hF := sel_l hF; refine ib_r ?_; refine th_r ?_; obtain rfl := inj hF
            exact end_s st (Res.t gA Res.nil) rfl rfl
          · obtain ⟨N9, T, ds47⟩ := a; obtain ⟨h60, n61⟩ := σ; obtain ⟨w46, rfl, rfl, e1, F47, e2, le47, st, t2, t3⟩ := hq
            dsimp only at e1 e2
            subst e1
            subst e2
            dsimp only at st t2 t3
            have le59 := PH.le.trans le19 le47
            have hF := sel_r hF; refine ib_e ?_; refine th_n ?_; refine w_seq ?_; refine w_drawV (Nat.le_trans hfl st.ext.le) (fun dw => ?_); refine y_pure st.d dw (fun hm vw => v_move pr_nil) ?_; refine y_pure st.d dw (fun hm vw => v_fa pr_nil) ?_; refine y_pure st.d dw (fun hm vw => v_ld1 (vw.bx (st.at (i := 0) rfl)) rfl pr_nil) ?_; obtain ⟨v62, e63, hF⟩ := bnd_some hF; refine y_flat st.d dw (fun hm vw => u_call (ct38 N e63 vw.d (vw.sub st) (RowF.mono le59 ra2)) (fun n' hn' => pf_nil hn')) (fun n64 hn' dw => ?_); refine y_pure st.d dw (fun hm vw => v_fa pr_nil) ?_; refine y_pure st.d dw (fun hm vw => v_ld1 (vw.bx (st.at (i := 0) rfl)) rfl pr_nil) ?_; refine y_end st.d dw rfl (fun h65 ex vs => ?_)
            have st := st.ext1 ex
            refine v_eqi ?_; refine v_move ?_; refine r_nil ?_; refine th_n ?_; refine w_ret ?_; obtain rfl := inj hF
            exact end_s st (Res.t gA Res.nil) rfl rfl
end Go.Hx.V

/- Functions of the program come to that. -/
namespace Go.Hx.V
open Go.Hx
set_option linter.unusedVariables false
set_option maxRecDepth 20000
set_option maxHeartbeats 4000000
attribute [local irreducible] W R C thenH inBlockH Tr.get Tr.set lo ck bnd ix iter
theorem ct89 (N : Nat) {a0_0 : Int} {a0_1 : Int} {a0_2 : Int} {a0_3 : Int} {a1 : (List (Int × Int × Int × Int))} {r : (Int × Int × Int × Int × Int × (Nat → Int) × Bool)} (hF : sf89 N a0_0 a0_1 a0_2 a0_3 a1 = some r) {fl : Nat} {h0 : Tr HBlk} {n0 : Nat} {F0 : PH} (hd : D h0 n0) (hs : F0.sub h0) {pa1 : Option (Nat × Nat)} {ca1 : Nat} (ra1 : RowF (rP rI (rP rI (rP rI rI))) 4 F0 pa1 ca1 a1) : C LW fl 89 [(.agg [(i64 a0_0), (i64 a0_1), (i64 a0_2), (i64 a0_3)]), (.slice pa1 (a1).length ca1)] ⟨h0, n0⟩ (KS (.tuple [(.agg ([(i64 r.1), (i64 r.2.1), (i64 r.2.2.1), (i64 r.2.2.2.1), (i64 r.2.2.2.2.1)] ++ (eI .i64 169 r.2.2.2.2.2.1))), (.bool r.2.2.2.2.2.2)]) n0 h0) := by
  unfold sf89 at hF
  refine in_cT hd hs lw89 rfl rfl (by rfl) (fun st T hT => ?_)
  have hfl : n0 ≤ n0 := Nat.le_refl n0
  have t0 := hT 0 _ rfl
  have t1 := hT 1 _ rfl
  dsimp only [L89]
  refine w_seq ?_; refine w_reg ?_; refine v_box st (fun b1 h2 n3 st => ?_); refine v_alloc st (fun b4 h5 n6 st => ?_)
  have st := st.cells 1 rfl ([(i64 (0 : Int)), (i64 (0 : Int)), (i64 (0 : Int)), (i64 (0 : Int)), (i64 (0 : Int))] ++ (eI .i64 169 (fun _ => 0))) rfl
  refine v_move ?_; refine r_nil ?_; refine th_n ?_; refine w_seq ?_; refine w_reg ?_; refine v_ldn (vs := [(i64 a0_0), (i64 a0_1), (i64 a0_2), (i64 a0_3)]) (st.at (i := 0) rfl).2.2 rfl ?_; obtain ⟨v7, e8, hF⟩ := bnd_some hF; refine v_call st (ct97 N e8 st.d st.sub ) (fun n9 st => ?_); refine v_alloc st (fun b10 h11 n12 st => ?_)
  have st := st.cells 2 rfl ([(i64 (0 : Int)), (i64 (0 : Int)), (i64 (0 : Int)), (i64 (0 : Int)), (i64 (0 : Int))] ++ (eI .i64 169 (fun _ => 0))) rfl
  refine v_st (v := (.agg ([(i64 v7.1), (i64 v7.2.1), (i64 v7.2.2.1), (i64 v7.2.2.2.1), (i64 v7.2.2.2.2.1)] ++ (eI .i64 169 v7.2.2.2.2.2)))) (cs' := ([(i64 v7.1), (i64 v7.2.1), (i64 v7.2.2.1), (i64 v7.2.2.2.1), (i64 v7.2.2.2.2.1)] ++ (eI .i64 169 v7.2.2.2.2.2))) st 2 rfl (ov_tail (q := ([(i64 (0 : Int)), (i64 (0 : Int)), (i64 (0 : Int)), (i64 (0 : Int)), (i64 (0 : Int))] ++ (eI .i64 169 (fun _ => 0)))) (r := ([(i64 v7.1), (i64 v7.2.1), (i64 v7.2.2.1), (i64 v7.2.2.2.1), (i64 v7.2.2.2.2.1)] ++ (eI .i64 169 v7.2.2.2.2.2))) [] rfl (by simp [eI_len, eB_len])) (len_tail _ eI_len (by rfl)) (one_tail _ (by rfl) eI_one) hfl (fun h13 st => ?_)
  refine v_move ?_; refine r_nil ?_; refine th_n ?_; refine w_seq ?_; refine w_reg ?_
  have w17 : MR (.row [.i .i64, .i .i64, .i .i64, .i .i64]) (fun x : (Int × Int × Int × Int) => HV.agg [HV.int .i64 x.1, HV.int .i64 x.2.1, HV.int .i64 x.2.2.1, HV.int .i64 x.2.2.2]) (fun x : Bool => HV.bool x) [] ((fun _ => none) : ((Int × Int × Int × Int) → Option Bool)) := MR.nil (KD.row (KRw.cons (KRw.cons (KRw.cons KRw.one))))
  refine v_mm st (fun b14 h15 n16 st => ?_); refine v_move ?_; refine r_nil ?_; refine th_n ?_; refine w_seq ?_; refine w_seq ?_; refine w_reg ?_; refine v_move ?_; refine v_len ?_; refine v_move ?_; refine r_nil ?_; refine th_n ?_; refine w_block ?_; obtain ⟨y38, hy, hF⟩ := bnd_some hF; refine v_loopD (sf89_L1 N a1) (fun x18 T ds19 h nx => ∃ (F19 : PH) (es20 : List (HV × HV)), ds19 = [] ∧ PH.le F0 F19 ∧ St n0 h0 F0 F19 h nx [.bx b1 [(i64 a0_0), (i64 a0_1), (i64 a0_2), (i64 a0_3)], .bx b4 ([(i64 x18.2.2.2.2.2.2.2.2.1), (i64 x18.2.2.2.2.2.2.2.2.2.1), (i64 x18.2.2.2.2.2.2.2.2.2.2.1), (i64 x18.2.2.2.2.2.2.2.2.2.2.2.1), (i64 x18.2.2.2.2.2.2.2.2.2.2.2.2.1)] ++ (eI .i64 169 x18.2.2.2.2.2.2.2.2.2.2.2.2.2)), .bx b10 ([(i64 x18.2.2.1), (i64 x18.2.2.2.1), (i64 x18.2.2.2.2.1), (i64 x18.2.2.2.2.2.1), (i64 x18.2.2.2.2.2.2.1)] ++ (eI .i64 169 x18.2.2.2.2.2.2.2.1)), .any b14 (.map es20)] ∧ MR (.row [.i .i64, .i .i64, .i .i64, .i .i64]) (fun x : (Int × Int × Int × Int) => HV.agg [HV.int .i64 x.1, HV.int .i64 x.2.1, HV.int .i64 x.2.2.1, HV.int .i64 x.2.2.2]) (fun x : Bool => HV.bool x) es20 x18.2.1 ∧ T.get 4 = some (.ptr (some (b4, 0))) ∧ T.get 6 = some (.ptr (some (b10, 0))) ∧ T.get 8 = some (.map (some b14)) ∧ T.get 14 = some (.slice pa1 (a1).length ca1) ∧ T.get 15 = some (i64 ((a1).length : Int)) ∧ T.get 16 = some (i64 x18.1)) (fun y e a σ => (∃ u, y = (.inl u) ∧ e = .ret ∧ a.nt = 36 ∧ ∃ (F40 : PH) (es41 : List (HV × HV)), a.defers = [] ∧ PH.le F0 F40 ∧ St n0 h0 F0 F40 σ.h σ.nx [.bx b1 [(i64 a0_0), (i64 a0_1), (i64 a0_2), (i64 a0_3)], .bx b4 ([(i64 u.2.2.2.2.2.2.2.1), (i64 u.2.2.2.2.2.2.2.2.1), (i64 u.2.2.2.2.2.2.2.2.2.1), (i64 u.2.2.2.2.2.2.2.2.2.2.1), (i64 u.2.2.2.2.2.2.2.2.2.2.2.1)] ++ (eI .i64 169 u.2.2.2.2.2.2.2.2.2.2.2.2)), .bx b10 ([(i64 u.2.1), (i64 u.2.2.1), (i64 u.2.2.2.1), (i64 u.2.2.2.2.1), (i64 u.2.2.2.2.2.1)] ++ (eI .i64 169 u.2.2.2.2.2.2.1)), .any b14 (.map es41)] ∧ MR (.row [.i .i64, .i .i64, .i .i64, .i .i64]) (fun x : (Int × Int × Int × Int) => HV.agg [HV.int .i64 x.1, HV.int .i64 x.2.1, HV.int .i64 x.2.2.1, HV.int .i64 x.2.2.2]) (fun x : Bool => HV.bool x) es41 u.1 ∧ a.tmps.get 4 = some (.ptr (some (b4, 0))) ∧ a.tmps.get 5 = some (.bool false)) ∨ (∃ u, y = (.inr u) ∧ e = .exit 0 ∧ a.nt = 36 ∧ ∃ (F43 : PH) (es44 : List (HV × HV)), a.defers = [] ∧ PH.le F0 F43 ∧ St n0 h0 F0 F43 σ.h σ.nx [.bx b1 [(i64 a0_0), (i64 a0_1), (i64 a0_2), (i64 a0_3)], .bx b4 ([(i64 u.2.2.2.2.2.2.2.1), (i64 u.2.2.2.2.2.2.2.2.1), (i64 u.2.2.2.2.2.2.2.2.2.1), (i64 u.2.2.2.2.2.2.2.2.2.2.1), (i64 u.2.2.2.2.2.2.2.2.2.2.2.1)] ++ (eI .i64 169 u.2.2.2.2.2.2.2.2.2.2.2.2)), .bx b10 ([(i64 u.2.1), (i64 u.2.2.1), (i64 u.2.2.2.1), (i64 u.2.2.2.2.1), (i64 u.2.2.2.2.2.1)] ++ (eI .i64 169 u.2.2.2.2.2.2.1)), .any b14 (.map es44)] ∧ MR (.row [.i .i64, .i .i64, .i .i64, .i .i64]) (fun x : (Int × Int × Int × Int) => HV.agg [HV.int .i64 x.1, HV.int .i64 x.2.1, HV.int .i64 x.2.2.1, HV.int .i64 x.2.2.2]) (fun x : Bool => HV.bool x) es44 u.1 ∧ a.tmps.get 4 = some (.ptr (some (b4, 0))) ∧ a.tmps.get 6 = some (.ptr (some (b10, 0))))) (fun x18 T ds19 h nx s hp hF => ?_) N _ y38 _ _ _ _ hy ⟨F0, [], rfl, (PH.le.refl _), st, w17, gA, gA, gA, gA, gA, gA⟩ (fun e a σ hne hq => ?_)
  · obtain ⟨F19, es20, rfl, le19, st, w20, t4, t6, t8, t14, t15, t16⟩ := hp; unfold sf89_L1 at hF; unfold L89w0; refine w_seq ?_; refine w_reg ?_; refine v_lss ?_; refine r_nil ?_; refine th_n ?_; refine w_seq ?_; refine v_cond (fun hb45 => ?_) (fun hb45 => ?_)
    · have hF := bif_t hb45 hF; refine w_skip ?_; refine th_n ?_; refine w_seq ?_; refine w_block ?_; refine w_seq ?_; refine w_reg ?_; obtain ⟨n46, x46, z46, l46, g46, hF⟩ := ix_some hF; obtain ⟨b46, o46, s46, j46, r46, e46, f46, k46, ⟨_, _, rfl, rfl, ⟨_, _, rfl, rfl, ⟨_, _, rfl, rfl, rfl⟩⟩⟩⟩ := RowF.get ra1 g46; refine v_ixp e46 z46 l46 ?_; refine v_ldn (st.sub _ _ (le19 _ _ f46)) k46 ?_; refine v_alloc st (fun b47 h48 n49 st => ?_); refine v_st (cs' := [(i64 x46.1), (i64 x46.2.1), (i64 x46.2.2.1), (i64 x46.2.2.2)]) st 4 rfl rfl rfl rfl hfl (fun h50 st => ?_); refine r_nil ?_; refine th_n ?_; refine w_seq ?_; refine w_seq ?_; refine w_reg ?_; refine v_move ?_; refine v_ldn (vs := [(i64 x46.1), (i64 x46.2.1), (i64 x46.2.2.1), (i64 x46.2.2.2)]) (st.at (i := 4) rfl).2.2 rfl ?_
      refine v_lk1 w20 (st.at (i := 3) rfl).2.2 (x46.1, x46.2.1, x46.2.2.1, x46.2.2.2) false (kv := (.agg [(i64 x46.1), (i64 x46.2.1), (i64 x46.2.2.1), (i64 x46.2.2.2)])) rfl rfl ?_; refine r_nil ?_; refine th_n ?_; refine v_cond (fun hb51 => ?_) (fun hb51 => ?_)
      · have hF := bif_t hb51 hF; refine w_exit ?_; refine th_e ?_; refine ib_e ?_; refine th_n ?_; refine w_reg ?_; obtain ⟨q52, hF⟩ := ck_some hF; refine v_add q52 ?_; refine v_move ?_; refine r_nil ?_; refine thn ⟨_, (inj hF).symm, rfl, ?_⟩; dsimp only
        exact ⟨F19, es20, rfl, le19, (st.drop (by first | exact List.Sublist.refl _ | (repeat first | exact List.nil_sublist _ | refine List.Sublist.cons_cons _ ?_ | refine List.Sublist.cons _ ?_))), w20, gA, gA, gA, gA, gA, gA⟩
      · have hF := bif_f hb51 hF; refine w_skip ?_; refine th_n ?_; refine w_seq ?_; refine w_reg ?_; refine v_move ?_; refine v_ldn (vs := [(i64 x46.1), (i64 x46.2.1), (i64 x46.2.2.1), (i64 x46.2.2.2)]) (st.at (i := 4) rfl).2.2 rfl ?_; refine v_mu st 3 rfl w20 (x46.1, x46.2.1, x46.2.2.1, x46.2.2.2) true (kv := (.agg [(i64 x46.1), (i64 x46.2.1), (i64 x46.2.2.1), (i64 x46.2.2.2)])) (vv := (.bool true)) rfl rfl hfl (fun es53 h54 w53 st => ?_); refine r_nil ?_; refine th_n ?_; refine w_seq ?_; refine w_reg ?_; refine v_ldn (vs := ([(i64 x18.2.2.1), (i64 x18.2.2.2.1), (i64 x18.2.2.2.2.1), (i64 x18.2.2.2.2.2.1), (i64 x18.2.2.2.2.2.2.1)] ++ (eI .i64 169 x18.2.2.2.2.2.2.2.1))) (st.at (i := 2) rfl).2.2 (tk_tail (E := (eI .i64 169 x18.2.2.2.2.2.2.2.1)) [] [(i64 x18.2.2.1), (i64 x18.2.2.2.1), (i64 x18.2.2.2.2.1), (i64 x18.2.2.2.2.2.1), (i64 x18.2.2.2.2.2.2.1)] rfl eI_len rfl) ?_
        refine v_ldn (vs := [(i64 x46.1), (i64 x46.2.1), (i64 x46.2.2.1), (i64 x46.2.2.2)]) (st.at (i := 4) rfl).2.2 rfl ?_; obtain ⟨v55, e56, hF⟩ := bnd_some hF; refine v_call st (ct96 N e56 st.d st.sub ) (fun n57 st => ?_); refine v_move ?_; refine v_xt rfl ?_; refine v_xt rfl ?_
        refine v_st (v := (.agg ([(i64 v55.1), (i64 v55.2.1), (i64 v55.2.2.1), (i64 v55.2.2.2.1), (i64 v55.2.2.2.2.1)] ++ (eI .i64 169 v55.2.2.2.2.2.1)))) (cs' := ([(i64 v55.1), (i64 v55.2.1), (i64 v55.2.2.1), (i64 v55.2.2.2.1), (i64 v55.2.2.2.2.1)] ++ (eI .i64 169 v55.2.2.2.2.2.1))) st 2 rfl (ov_tail (q := ([(i64 x18.2.2.1), (i64 x18.2.2.2.1), (i64 x18.2.2.2.2.1), (i64 x18.2.2.2.2.2.1), (i64 x18.2.2.2.2.2.2.1)] ++ (eI .i64 169 x18.2.2.2.2.2.2.2.1))) (r := ([(i64 v55.1), (i64 v55.2.1), (i64 v55.2.2.1), (i64 v55.2.2.2.1), (i64 v55.2.2.2.2.1)] ++ (eI .i64 169 v55.2.2.2.2.2.1))) [] rfl (by simp [eI_len, eB_len])) (len_tail _ eI_len (by rfl)) (one_tail _ (by rfl) eI_one) hfl (fun h58 st => ?_)
        refine v_move ?_; refine r_nil ?_; refine th_n ?_; refine w_seq ?_; refine w_reg ?_; refine v_move ?_; refine v_not ?_; refine r_nil ?_; refine th_n ?_; refine v_cond (fun hb59 => ?_) (fun hb59 => ?_)
        · have hF := bif_t hb59 hF; refine w_seq ?_; refine w_reg ?_; refine v_build (cs := ([(i64 (0 : Int)), (i64 (0 : Int)), (i64 (0 : Int)), (i64 (0 : Int)), (i64 (0 : Int))] ++ (eI .i64 169 (fun _ => 0)))) rfl ?_
          refine v_st (v := (.agg ([(i64 (0 : Int)), (i64 (0 : Int)), (i64 (0 : Int)), (i64 (0 : Int)), (i64 (0 : Int))] ++ (eI .i64 169 (fun _ => 0))))) (cs' := ([(i64 (0 : Int)), (i64 (0 : Int)), (i64 (0 : Int)), (i64 (0 : Int)), (i64 (0 : Int))] ++ (eI .i64 169 (fun _ => 0)))) st 1 rfl (ov_tail (q := ([(i64 x18.2.2.2.2.2.2.2.2.1), (i64 x18.2.2.2.2.2.2.2.2.2.1), (i64 x18.2.2.2.2.2.2.2.2.2.2.1), (i64 x18.2.2.2.2.2.2.2.2.2.2.2.1), (i64 x18.2.2.2.2.2.2.2.2.2.2.2.2.1)] ++ (eI .i64 169 x18.2.2.2.2.2.2.2.2.2.2.2.2.2))) (r := ([(i64 (0 : Int)), (i64 (0 : Int)), (i64 (0 : Int)), (i64 (0 : Int)), (i64 (0 : Int))] ++ (eI .i64 169 (fun _ => 0)))) [] rfl (by simp [eI_len, eB_len])) (len_tail _ eI_len (by rfl)) (one_tail _ (by rfl) eI_one) hfl (fun h60 st => ?_)
          refine v_move ?_; refine r_nil ?_; refine th_n ?_; refine w_ret ?_; refine ib_r ?_; refine th_r ?_; refine th_r ?_; refine ⟨_, (inj hF).symm, .inl ⟨_, rfl, rfl, rfl, ?_⟩⟩; dsimp only
          exact ⟨F19, es53, rfl, le19, (st.drop (by first | exact List.Sublist.refl _ | (repeat first | exact List.nil_sublist _ | refine List.Sublist.cons_cons _ ?_ | refine List.Sublist.cons _ ?_))), w53, gA, gA⟩
        · have hF := bif_f hb59 hF; refine w_skip ?_; refine ib_n ?_; refine th_n ?_; refine w_reg ?_; obtain ⟨q61, hF⟩ := ck_some hF; refine v_add q61 ?_; refine v_move ?_; refine r_nil ?_; refine thn ⟨_, (inj hF).symm, rfl, ?_⟩; dsimp only
          exact ⟨F19, es53, rfl, le19, (st.drop (by first | exact List.Sublist.refl _ | (repeat first | exact List.nil_sublist _ | refine List.Sublist.cons_cons _ ?_ | refine List.Sublist.cons _ ?_))), w53, gA, gA, gA, gA, gA, gA⟩
    · have hF := bif_f hb45 hF; refine w_exit ?_; refine th_e ?_; refine th_e ?_; refine ⟨_, (inj hF).symm, .inr (⟨_, rfl, rfl, rfl, ?_⟩)⟩; dsimp only
      exact ⟨F19, es20, rfl, le19, st, w20, gA, gA⟩
  · rcases hq with hq | hq
    · obtain ⟨N9, T, ds40⟩ := a; obtain ⟨h62, n63⟩ := σ; obtain ⟨w39, rfl, rfl, e1, F40, es41, e2, le40, st, w41, t4, t5⟩ := hq
      dsimp only at e1 e2
      subst e1
      subst e2
      dsimp only at st t4 t5
      have hF := sel_l hF; refine ib_r ?_; refine th_r ?_; obtain rfl := inj hF
      exact end_s st (Res.c gA (st.at (i := 1) rfl).2.2 (show takeN _ _ = some ([(i64 w39.2.2.2.2.2.2.2.1), (i64 w39.2.2.2.2.2.2.2.2.1), (i64 w39.2.2.2.2.2.2.2.2.2.1), (i64 w39.2.2.2.2.2.2.2.2.2.2.1), (i64 w39.2.2.2.2.2.2.2.2.2.2.2.1)] ++ (eI .i64 169 w39.2.2.2.2.2.2.2.2.2.2.2.2)) from (tk_tail (E := (eI .i64 169 w39.2.2.2.2.2.2.2.2.2.2.2.2)) [] [(i64 w39.2.2.2.2.2.2.2.1), (i64 w39.2.2.2.2.2.2.2.2.1), (i64 w39.2.2.2.2.2.2.2.2.2.1), (i64 w39.2.2.2.2.2.2.2.2.2.2.1), (i64 w39.2.2.2.2.2.2.2.2.2.2.2.1)] rfl eI_len rfl)) (Res.t gA Res.nil)) rfl rfl
    · obtain ⟨N9, T, ds43⟩ := a; obtain ⟨h64, n65⟩ := σ; obtain ⟨w42, rfl, rfl, e1, F43, es44, e2, le43, st, w44, t4, t6⟩ := hq
      dsimp only at e1 e2
      subst e1
      subst e2
      dsimp only at st t4 t6
      have hF := sel_r hF; refine ib_e ?_; refine th_n ?_; refine w_seq ?_; refine w_reg ?_; refine v_ldn (vs := ([(i64 w42.2.1), (i64 w42.2.2.1), (i64 w42.2.2.2.1), (i64 w42.2.2.2.2.1), (i64 w42.2.2.2.2.2.1)] ++ (eI .i64 169 w42.2.2.2.2.2.2.1))) (st.at (i := 2) rfl).2.2 (tk_tail (E := (eI .i64 169 w42.2.2.2.2.2.2.1)) [] [(i64 w42.2.1), (i64 w42.2.2.1), (i64 w42.2.2.2.1), (i64 w42.2.2.2.2.1), (i64 w42.2.2.2.2.2.1)] rfl eI_len rfl) ?_
      refine v_st (v := (.agg ([(i64 w42.2.1), (i64 w42.2.2.1), (i64 w42.2.2.2.1), (i64 w42.2.2.2.2.1), (i64 w42.2.2.2.2.2.1)] ++ (eI .i64 169 w42.2.2.2.2.2.2.1)))) (cs' := ([(i64 w42.2.1), (i64 w42.2.2.1), (i64 w42.2.2.2.1), (i64 w42.2.2.2.2.1), (i64 w42.2.2.2.2.2.1)] ++ (eI .i64 169 w42.2.2.2.2.2.2.1))) st 1 rfl (ov_tail (q := ([(i64 w42.2.2.2.2.2.2.2.1), (i64 w42.2.2.2.2.2.2.2.2.1), (i64 w42.2.2.2.2.2.2.2.2.2.1), (i64 w42.2.2.2.2.2.2.2.2.2.2.1), (i64 w42.2.2.2.2.2.2.2.2.2.2.2.1)] ++ (eI .i64 169 w42.2.2.2.2.2.2.2.2.2.2.2.2))) (r := ([(i64 w42.2.1), (i64 w42.2.2.1), (i64 w42.2.2.2.1), (i64 w42.2.2.2.2.1), (i64 w42.2.2.2.2.2.1)] ++ (eI .i64 169 w42.2.2.2.2.2.2.1))) [] rfl (by simp [eI_len, eB_len])) (len_tail _ eI_len (by rfl)) (one_tail _ (by rfl) eI_one) hfl (fun h66 st => ?_)
      refine v_move ?_; refine r_nil ?_; refine th_n ?_; refine w_ret ?_; obtain rfl := inj hF
      exact end_s st (Res.c gA (st.at (i := 1) rfl).2.2 (show takeN _ _ = some ([(i64 w42.2.1), (i64 w42.2.2.1), (i64 w42.2.2.2.1), (i64 w42.2.2.2.2.1), (i64 w42.2.2.2.2.2.1)] ++ (eI .i64 169 w42.2.2.2.2.2.2.1)) from (tk_tail (E := (eI .i64 169 w42.2.2.2.2.2.2.1)) [] [(i64 w42.2.1), (i64 w42.2.2.1), (i64 w42.2.2.2.1), (i64 w42.2.2.2.2.1), (i64 w42.2.2.2.2.2.1)] rfl eI_len rfl)) (Res.t gA Res.nil)) rfl rfl
end Go.Hx.V

/- Functions of the program come to that. -/
namespace Go.Hx.V
open Go.Hx
set_option linter.unusedVariables false
set_option maxRecDepth 20000
set_option maxHeartbeats 4000000
attribute [local irreducible] W R C thenH inBlockH Tr.get Tr.set lo ck bnd ix iter
theorem ct64 (N : Nat) {a0_0 : Int} {a0_1 : Int} {a0_2 : Int} {a0_3 : Int} {a1 : (List (Int × Int × Int × Int))} {r : Int} (hF : sf64 N a0_0 a0_1 a0_2 a0_3 a1 = some r) {fl : Nat} {h0 : Tr HBlk} {n0 : Nat} {F0 : PH} (hd : D h0 n0) (hs : F0.sub h0) {pa1 : Option (Nat × Nat)} {ca1 : Nat} (ra1 : RowF (rP rI (rP rI (rP rI rI))) 4 F0 pa1 ca1 a1) : C LW fl 64 [(.agg [(i64 a0_0), (i64 a0_1), (i64 a0_2), (i64 a0_3)]), (.slice pa1 (a1).length ca1)] ⟨h0, n0⟩ (KS (i64 r) n0 h0) := by
  unfold sf64 at hF
  refine in_cT hd hs lw64 rfl rfl (by rfl) (fun st T hT => ?_)
  have hfl : n0 ≤ n0 := Nat.le_refl n0
  have t0 := hT 0 _ rfl
  have t1 := hT 1 _ rfl
  dsimp only [L64]
  refine w_seq ?_; refine w_reg ?_; refine v_box st (fun b1 h2 n3 st => ?_); refine v_move ?_; refine r_nil ?_; refine th_n ?_; refine w_seq ?_; refine w_seq ?_; refine w_reg ?_; refine v_ldn (vs := [(i64 a0_0), (i64 a0_1), (i64 a0_2), (i64 a0_3)]) (st.at (i := 0) rfl).2.2 rfl ?_; obtain ⟨v4, e5, hF⟩ := bnd_some hF; refine v_call st (ct20 N e5 st.d st.sub ) (fun n6 st => ?_); refine v_move ?_; refine r_nil ?_; refine th_n ?_; refine w_seq ?_; refine w_reg ?_; refine v_move ?_; refine v_nei ?_; refine r_nil ?_; refine th_n ?_; refine v_cond (fun hb7 => ?_) (fun hb7 => ?_)
  · have hF := bif_t hb7 hF; refine w_seq ?_; refine w_reg ?_; refine v_move ?_; refine v_move ?_; refine r_nil ?_; refine th_n ?_; refine w_ret ?_; refine th_r ?_; obtain rfl := inj hF
    exact end_s st (Res.t gA Res.nil) rfl rfl
  · have hF := bif_f hb7 hF; refine w_skip ?_; refine th_n ?_; refine w_seq ?_; refine w_seq ?_; refine w_reg ?_; refine v_move ?_; refine v_len ?_; refine v_gtr ?_; refine r_nil ?_; refine th_n ?_; refine v_cond (fun hb8 => ?_) (fun hb8 => ?_)
    · have hF := bif_t hb8 hF; refine w_seq ?_; refine w_reg ?_; refine v_move ?_; refine r_nil ?_; refine th_n ?_; refine w_ret ?_; refine th_r ?_; obtain rfl := inj hF
      exact end_s st (Res.t gA Res.nil) rfl rfl
    · have hF := bif_f hb8 hF; refine w_skip ?_; refine th_n ?_; refine w_seq ?_; refine w_seq ?_; refine w_reg ?_; refine v_move ?_; refine v_ldn (vs := [(i64 a0_0), (i64 a0_1), (i64 a0_2), (i64 a0_3)]) (st.at (i := 0) rfl).2.2 rfl ?_; refine v_mf ?_; obtain ⟨v9, e10, hF⟩ := bnd_some hF; refine v_call st (ct68 N e10 st.d st.sub ra1) (fun n11 st => ?_); refine v_not ?_; refine r_nil ?_; refine th_n ?_; refine v_cond (fun hb12 => ?_) (fun hb12 => ?_)
      · have hF := bif_t hb12 hF; refine w_seq ?_; refine w_reg ?_; refine v_move ?_; refine r_nil ?_; refine th_n ?_; refine w_ret ?_; refine th_r ?_; obtain rfl := inj hF
        exact end_s st (Res.t gA Res.nil) rfl rfl
      · have hF := bif_f hb12 hF; refine w_skip ?_; refine th_n ?_; refine w_seq ?_; refine w_reg ?_; refine v_move ?_; refine r_nil ?_; refine th_n ?_; refine w_ret ?_; obtain rfl := inj hF
        exact end_s st (Res.t gA Res.nil) rfl rfl
end Go.Hx.V

/- Functions of the program come to that. -/
namespace Go.Hx.V
open Go.Hx
set_option linter.unusedVariables false
set_option maxRecDepth 20000
set_option maxHeartbeats 4000000
attribute [local irreducible] W R C thenH inBlockH Tr.get Tr.set lo ck bnd ix iter
theorem ct72 (N : Nat) {a0_0 : Int} {a0_1 : Int} {a0_2 : Int} {a0_3 : Int} {a1 : (List (Int × Int × Int × Int))} {a2 : Bool} {r : (Int × Int × Int × Int × Int × (Nat → Int) × Int)} (hF : sf72 N a0_0 a0_1 a0_2 a0_3 a1 a2 = some r) {fl : Nat} {h0 : Tr HBlk} {n0 : Nat} {F0 : PH} (hd : D h0 n0) (hs : F0.sub h0) {pa1 : Option (Nat × Nat)} {ca1 : Nat} (ra1 : RowF (rP rI (rP rI (rP rI rI))) 4 F0 pa1 ca1 a1) : C LW fl 72 [(.agg [(i64 a0_0), (i64 a0_1), (i64 a0_2), (i64 a0_3)]), (.slice pa1 (a1).length ca1), (.bool a2)] ⟨h0, n0⟩ (KS (.tuple [(.agg ([(i64 r.1), (i64 r.2.1), (i64 r.2.2.1), (i64 r.2.2.2.1), (i64 r.2.2.2.2.1)] ++ (eI .i64 169 r.2.2.2.2.2.1))), (i64 r.2.2.2.2.2.2)]) n0 h0) := by
  unfold sf72 at hF
  refine in_cT hd hs lw72 rfl rfl (by rfl) (fun st T hT => ?_)
  have hfl : n0 ≤ n0 := Nat.le_refl n0
  have t0 := hT 0 _ rfl
  have t1 := hT 1 _ rfl
  have t2 := hT 2 _ rfl
  dsimp only [L72]
  refine w_seq ?_; refine w_reg ?_; refine v_box st (fun b1 h2 n3 st => ?_); refine v_alloc st (fun b4 h5 n6 st => ?_)
  have st := st.cells 1 rfl ([(i64 (0 : Int)), (i64 (0 : Int)), (i64 (0 : Int)), (i64 (0 : Int)), (i64 (0 : Int))] ++ (eI .i64 169 (fun _ => 0))) rfl
  refine v_move ?_; refine r_nil ?_; refine th_n ?_; refine w_seq ?_; refine w_seq ?_; refine w_reg ?_; refine v_ldn (vs := [(i64 a0_0), (i64 a0_1), (i64 a0_2), (i64 a0_3)]) (st.at (i := 0) rfl).2.2 rfl ?_; refine v_move ?_; obtain ⟨v7, e8, hF⟩ := bnd_some hF; refine v_call st (ct64 N e8 st.d st.sub ra1) (fun n9 st => ?_); refine v_move ?_; refine r_nil ?_; refine th_n ?_; refine w_seq ?_; refine w_reg ?_; refine v_move ?_; refine v_nei ?_; refine r_nil ?_; refine th_n ?_; refine v_cond (fun hb10 => ?_) (fun hb10 => ?_)
  · have hF := bif_t hb10 hF; refine w_seq ?_; refine w_reg ?_; refine v_build (cs := ([(i64 (0 : Int)), (i64 (0 : Int)), (i64 (0 : Int)), (i64 (0 : Int)), (i64 (0 : Int))] ++ (eI .i64 169 (fun _ => 0)))) rfl ?_; refine v_move ?_
    refine v_st (v := (.agg ([(i64 (0 : Int)), (i64 (0 : Int)), (i64 (0 : Int)), (i64 (0 : Int)), (i64 (0 : Int))] ++ (eI .i64 169 (fun _ => 0))))) (cs' := ([(i64 (0 : Int)), (i64 (0 : Int)), (i64 (0 : Int)), (i64 (0 : Int)), (i64 (0 : Int))] ++ (eI .i64 169 (fun _ => 0)))) st 1 rfl (ov_tail (q := ([(i64 (0 : Int)), (i64 (0 : Int)), (i64 (0 : Int)), (i64 (0 : Int)), (i64 (0 : Int))] ++ (eI .i64 169 (fun _ => 0)))) (r := ([(i64 (0 : Int)), (i64 (0 : Int)), (i64 (0 : Int)), (i64 (0 : Int)), (i64 (0 : Int))] ++ (eI .i64 169 (fun _ => 0)))) [] rfl (by simp [eI_len, eB_len])) (len_tail _ eI_len (by rfl)) (one_tail _ (by rfl) eI_one) hfl (fun h11 st => ?_)
    refine v_move ?_; refine r_nil ?_; refine th_n ?_; refine w_ret ?_; refine th_r ?_; obtain rfl := inj hF
    exact end_s st (Res.c gA (st.at (i := 1) rfl).2.2 (show takeN _ _ = some ([(i64 (0 : Int)), (i64 (0 : Int)), (i64 (0 : Int)), (i64 (0 : Int)), (i64 (0 : Int))] ++ (eI .i64 169 (fun _ => 0))) from (tk_tail (E := (eI .i64 169 (fun _ => 0))) [] [(i64 (0 : Int)), (i64 (0 : Int)), (i64 (0 : Int)), (i64 (0 : Int)), (i64 (0 : Int))] rfl eI_len rfl)) (Res.t gA Res.nil)) rfl rfl
  · have hF := bif_f hb10 hF; refine w_skip ?_; refine th_n ?_; refine w_seq ?_; refine w_seq ?_; refine w_reg ?_; refine v_move ?_; refine v_not ?_; refine r_nil ?_; refine th_n ?_; refine v_cond (fun hb12 => ?_) (fun hb12 => ?_)
    · have hF := bif_t hb12 hF; refine w_seq ?_; refine w_reg ?_; refine v_build (cs := ([(i64 (0 : Int)), (i64 (0 : Int)), (i64 (0 : Int)), (i64 (0 : Int)), (i64 (0 : Int))] ++ (eI .i64 169 (fun _ => 0)))) rfl ?_
      refine v_st (v := (.agg ([(i64 (0 : Int)), (i64 (0 : Int)), (i64 (0 : Int)), (i64 (0 : Int)), (i64 (0 : Int))] ++ (eI .i64 169 (fun _ => 0))))) (cs' := ([(i64 (0 : Int)), (i64 (0 : Int)), (i64 (0 : Int)), (i64 (0 : Int)), (i64 (0 : Int))] ++ (eI .i64 169 (fun _ => 0)))) st 1 rfl (ov_tail (q := ([(i64 (0 : Int)), (i64 (0 : Int)), (i64 (0 : Int)), (i64 (0 : Int)), (i64 (0 : Int))] ++ (eI .i64 169 (fun _ => 0)))) (r := ([(i64 (0 : Int)), (i64 (0 : Int)), (i64 (0 : Int)), (i64 (0 : Int)), (i64 (0 : Int))] ++ (eI .i64 169 (fun _ => 0)))) [] rfl (by simp [eI_len, eB_len])) (len_tail _ eI_len (by rfl)) (one_tail _ (by rfl) eI_one) hfl (fun h13 st => ?_)
      refine v_move ?_; refine r_nil ?_; refine th_n ?_; refine w_ret ?_; refine th_r ?_; obtain rfl := inj hF
      exact end_s st (Res.c gA (st.at (i := 1) rfl).2.2 (show takeN _ _ = some ([(i64 (0 : Int)), (i64 (0 : Int)), (i64 (0 : Int)), (i64 (0 : Int)), (i64 (0 : Int))] ++ (eI .i64 169 (fun _ => 0))) from (tk_tail (E := (eI .i64 169 (fun _ => 0))) [] [(i64 (0 : Int)), (i64 (0 : Int)), (i64 (0 : Int)), (i64 (0 : Int)), (i64 (0 : Int))] rfl eI_len rfl)) (Res.t gA Res.nil)) rfl rfl
    · have hF := bif_f hb12 hF; refine w_skip ?_; refine th_n ?_; refine w_seq ?_; refine w_reg ?_; refine v_ldn (vs := [(i64 a0_0), (i64 a0_1), (i64 a0_2), (i64 a0_3)]) (st.at (i := 0) rfl).2.2 rfl ?_; refine v_move ?_; obtain ⟨v14, e15, hF⟩ := bnd_some hF; refine v_call st (ct89 N e15 st.d st.sub ra1) (fun n16 st => ?_); refine v_move ?_; refine v_xt rfl ?_; refine v_xt rfl ?_; refine v_alloc st (fun b17 h18 n19 st => ?_)
      have st := st.cells 2 rfl ([(i64 (0 : Int)), (i64 (0 : Int)), (i64 (0 : Int)), (i64 (0 : Int)), (i64 (0 : Int))] ++ (eI .i64 169 (fun _ => 0))) rfl
      refine v_st (v := (.agg ([(i64 v14.1), (i64 v14.2.1), (i64 v14.2.2.1), (i64 v14.2.2.2.1), (i64 v14.2.2.2.2.1)] ++ (eI .i64 169 v14.2.2.2.2.2.1)))) (cs' := ([(i64 v14.1), (i64 v14.2.1), (i64 v14.2.2.1), (i64 v14.2.2.2.1), (i64 v14.2.2.2.2.1)] ++ (eI .i64 169 v14.2.2.2.2.2.1))) st 2 rfl (ov_tail (q := ([(i64 (0 : Int)), (i64 (0 : Int)), (i64 (0 : Int)), (i64 (0 : Int)), (i64 (0 : Int))] ++ (eI .i64 169 (fun _ => 0)))) (r := ([(i64 v14.1), (i64 v14.2.1), (i64 v14.2.2.1), (i64 v14.2.2.2.1), (i64 v14.2.2.2.2.1)] ++ (eI .i64 169 v14.2.2.2.2.2.1))) [] rfl (by simp [eI_len, eB_len])) (len_tail _ eI_len (by rfl)) (one_tail _ (by rfl) eI_one) hfl (fun h20 st => ?_)
      refine v_move ?_; refine r_nil ?_; refine th_n ?_; refine w_seq ?_; refine w_seq ?_; refine w_reg ?_; refine v_move ?_; refine v_not ?_; refine r_nil ?_; refine th_n ?_; refine v_cond (fun hb21 => ?_) (fun hb21 => ?_)
      · have hF := bif_t hb21 hF; refine w_seq ?_; refine w_reg ?_; refine v_build (cs := ([(i64 (0 : Int)), (i64 (0 : Int)), (i64 (0 : Int)), (i64 (0 : Int)), (i64 (0 : Int))] ++ (eI .i64 169 (fun _ => 0)))) rfl ?_
        refine v_st (v := (.agg ([(i64 (0 : Int)), (i64 (0 : Int)), (i64 (0 : Int)), (i64 (0 : Int)), (i64 (0 : Int))] ++ (eI .i64 169 (fun _ => 0))))) (cs' := ([(i64 (0 : Int)), (i64 (0 : Int)), (i64 (0 : Int)), (i64 (0 : Int)), (i64 (0 : Int))] ++ (eI .i64 169 (fun _ => 0)))) st 1 rfl (ov_tail (q := ([(i64 (0 : Int)), (i64 (0 : Int)), (i64 (0 : Int)), (i64 (0 : Int)), (i64 (0 : Int))] ++ (eI .i64 169 (fun _ => 0)))) (r := ([(i64 (0 : Int)), (i64 (0 : Int)), (i64 (0 : Int)), (i64 (0 : Int)), (i64 (0 : Int))] ++ (eI .i64 169 (fun _ => 0)))) [] rfl (by simp [eI_len, eB_len])) (len_tail _ eI_len (by rfl)) (one_tail _ (by rfl) eI_one) hfl (fun h22 st => ?_)
        refine v_move ?_; refine r_nil ?_; refine th_n ?_; refine w_ret ?_; refine th_r ?_; obtain rfl := inj hF
        exact end_s st (Res.c gA (st.at (i := 1) rfl).2.2 (show takeN _ _ = some ([(i64 (0 : Int)), (i64 (0 : Int)), (i64 (0 : Int)), (i64 (0 : Int)), (i64 (0 : Int))] ++ (eI .i64 169 (fun _ => 0))) from (tk_tail (E := (eI .i64 169 (fun _ => 0))) [] [(i64 (0 : Int)), (i64 (0 : Int)), (i64 (0 : Int)), (i64 (0 : Int)), (i64 (0 : Int))] rfl eI_len rfl)) (Res.t gA Res.nil)) rfl rfl
      · have hF := bif_f hb21 hF; refine w_skip ?_; refine th_n ?_; refine w_seq ?_; refine w_reg ?_; refine v_ldn (vs := ([(i64 v14.1), (i64 v14.2.1), (i64 v14.2.2.1), (i64 v14.2.2.2.1), (i64 v14.2.2.2.2.1)] ++ (eI .i64 169 v14.2.2.2.2.2.1))) (st.at (i := 2) rfl).2.2 (tk_tail (E := (eI .i64 169 v14.2.2.2.2.2.1)) [] [(i64 v14.1), (i64 v14.2.1), (i64 v14.2.2.1), (i64 v14.2.2.2.1), (i64 v14.2.2.2.2.1)] rfl eI_len rfl) ?_
        refine v_st (v := (.agg ([(i64 v14.1), (i64 v14.2.1), (i64 v14.2.2.1), (i64 v14.2.2.2.1), (i64 v14.2.2.2.2.1)] ++ (eI .i64 169 v14.2.2.2.2.2.1)))) (cs' := ([(i64 v14.1), (i64 v14.2.1), (i64 v14.2.2.1), (i64 v14.2.2.2.1), (i64 v14.2.2.2.2.1)] ++ (eI .i64 169 v14.2.2.2.2.2.1))) st 1 rfl (ov_tail (q := ([(i64 (0 : Int)), (i64 (0 : Int)), (i64 (0 : Int)), (i64 (0 : Int)), (i64 (0 : Int))] ++ (eI .i64 169 (fun _ => 0)))) (r := ([(i64 v14.1), (i64 v14.2.1), (i64 v14.2.2.1), (i64 v14.2.2.2.1), (i64 v14.2.2.2.2.1)] ++ (eI .i64 169 v14.2.2.2.2.2.1))) [] rfl (by simp [eI_len, eB_len])) (len_tail _ eI_len (by rfl)) (one_tail _ (by rfl) eI_one) hfl (fun h23 st => ?_)
        refine v_move ?_; refine r_nil ?_; refine th_n ?_; refine w_ret ?_; obtain rfl := inj hF
        exact end_s st (Res.c gA (st.at (i := 1) rfl).2.2 (show takeN _ _ = some ([(i64 v14.1), (i64 v14.2.1), (i64 v14.2.2.1), (i64 v14.2.2.2.1), (i64 v14.2.2.2.2.1)] ++ (eI .i64 169 v14.2.2.2.2.2.1)) from (tk_tail (E := (eI .i64 169 v14.2.2.2.2.2.1)) [] [(i64 v14.1), (i64 v14.2.1), (i64 v14.2.2.1), (i64 v14.2.2.2.1), (i64 v14.2.2.2.2.1)] rfl eI_len rfl)) (Res.t gA Res.nil)) rfl rfl
end Go.Hx.V

