/- Functions of the program come to that. -/
import Derived.Test.YtncdppdghlkloaaH05
import Derived.Test.YtncdppdghlkloaaH03
set_option linter.all false
/- Functions of the program come to that. -/
namespace Go.Hx.V
open Go.Hx
set_option linter.unusedVariables false
set_option maxRecDepth 20000
set_option maxHeartbeats 4000000
attribute [local irreducible] W R C thenH inBlockH Tr.get Tr.set lo ck bnd ix iter
theorem ct69 (N : Nat) {a0 : (List (Int × Int))} {a1 : (List (Int × Int × Int))} {r : (Int × (List Int))} (hF : sf69 N a0 a1 = some r) {fl : Nat} {h0 : Tr HBlk} {n0 : Nat} {F0 : PH} (hd : D h0 n0) (hs : F0.sub h0) (hfl : fl ≤ n0) {pa0 : Option (Nat × Nat)} {ca0 : Nat} {pa1 : Option (Nat × Nat)} {ca1 : Nat} (ra0 : RowF (rP rI rI) 2 F0 pa0 ca0 a0) (ra1 : RowF (rP rI (rP rI rI)) 3 F0 pa1 ca1 a1) : C LW fl 69 [(.slice pa0 (a0).length ca0), (.slice pa1 (a1).length ca1)] ⟨h0, n0⟩ (KR (rvT2 lvI (lvL rI 1)) F0 h0 n0 r) := by
  unfold sf69 at hF
  refine in_mT hd hs hfl lw69 rfl rfl (by rfl) (fun st T hT => ?_)
  have t0 := hT 0 _ rfl
  have t1 := hT 1 _ rfl
  dsimp only [L69]
  refine w_seq ?_; refine w_reg ?_; refine v_move ?_; refine v_move ?_; refine r_nil ?_; refine th_n ?_; refine w_seq ?_; refine w_reg ?_; refine v_alloc st (fun b1 h2 n3 st => ?_)
  have st := st.cells 0 rfl (eI .i64 8 (fun _ => 0)) rfl
  refine r_nil ?_; refine th_n ?_; refine w_seq ?_; refine w_reg ?_
  have w7 : MR (.row [.i .i64, .i .i64, .i .i64, .i .i64, .i .i64]) (fun x : (Int × Int × Int × Int × Int) => HV.agg [HV.int .i64 x.1, HV.int .i64 x.2.1, HV.int .i64 x.2.2.1, HV.int .i64 x.2.2.2.1, HV.int .i64 x.2.2.2.2]) (fun x : Bool => HV.bool x) [] ((fun _ => none) : ((Int × Int × Int × Int × Int) → Option Bool)) := MR.nil (KD.row (KRw.cons (KRw.cons (KRw.cons (KRw.cons KRw.one)))))
  refine v_mm st (fun b4 h5 n6 st => ?_); refine v_move ?_; refine r_nil ?_; refine th_n ?_; refine w_seq ?_; refine w_seq ?_; refine w_reg ?_; refine v_move ?_; refine v_len ?_; refine v_move ?_; refine r_nil ?_; refine th_n ?_; refine w_block ?_; obtain ⟨y112, hy, hF⟩ := bnd_some hF; refine v_loopD (sf69_L2 N a0 a1) (fun x8 T ds9 h nx => ∃ (F9 : PH) (es10 : List (HV × HV)), ds9 = [] ∧ PH.le F0 F9 ∧ St n0 h0 F0 F9 h nx [.bx b1 (eI .i64 8 x8.2.2), .any b4 (.map es10)] ∧ MR (.row [.i .i64, .i .i64, .i .i64, .i .i64, .i .i64]) (fun x : (Int × Int × Int × Int × Int) => HV.agg [HV.int .i64 x.1, HV.int .i64 x.2.1, HV.int .i64 x.2.2.1, HV.int .i64 x.2.2.2.1, HV.int .i64 x.2.2.2.2]) (fun x : Bool => HV.bool x) es10 x8.2.1 ∧ T.get 0 = some (.slice pa0 (a0).length ca0) ∧ T.get 1 = some (.slice pa1 (a1).length ca1) ∧ T.get 4 = some (i64 (0 : Int)) ∧ T.get 6 = some (.ptr (some (b1, 0))) ∧ T.get 7 = some (.map (some b4)) ∧ T.get 12 = some (.slice pa0 (a0).length ca0) ∧ T.get 13 = some (i64 ((a0).length : Int)) ∧ T.get 14 = some (i64 x8.1)) (fun y e a σ => e = .exit 0 ∧ a.nt = 49 ∧ ∃ (F113 : PH) (es114 : List (HV × HV)), a.defers = [] ∧ PH.le F0 F113 ∧ St n0 h0 F0 F113 σ.h σ.nx [.bx b1 (eI .i64 8 y.2), .any b4 (.map es114)] ∧ MR (.row [.i .i64, .i .i64, .i .i64, .i .i64, .i .i64]) (fun x : (Int × Int × Int × Int × Int) => HV.agg [HV.int .i64 x.1, HV.int .i64 x.2.1, HV.int .i64 x.2.2.1, HV.int .i64 x.2.2.2.1, HV.int .i64 x.2.2.2.2]) (fun x : Bool => HV.bool x) es114 y.1 ∧ a.tmps.get 0 = some (.slice pa0 (a0).length ca0) ∧ a.tmps.get 1 = some (.slice pa1 (a1).length ca1) ∧ a.tmps.get 4 = some (i64 (0 : Int)) ∧ a.tmps.get 6 = some (.ptr (some (b1, 0))) ∧ a.tmps.get 7 = some (.map (some b4))) (fun x8 T ds9 h nx s hp hF => ?_) N _ y112 _ _ _ _ hy ⟨F0, [], rfl, (PH.le.refl _), st, w7, gA, gA, gA, gA, gA, gA, gA, gA⟩ (fun e a σ hne hq => ?_)
  · obtain ⟨F9, es10, rfl, le9, st, w10, t0, t1, t4, t6, t7, t12, t13, t14⟩ := hp; unfold sf69_L2 at hF; unfold L69w1; refine w_seq ?_; refine w_reg ?_; refine v_lss ?_; refine r_nil ?_; refine th_n ?_; refine w_seq ?_; refine v_cond (fun hb115 => ?_) (fun hb115 => ?_)
    · have hF := bif_t hb115 hF; refine w_skip ?_; refine th_n ?_; refine w_seq ?_; refine w_block ?_; refine w_seq ?_; refine w_reg ?_; refine v_move ?_; obtain ⟨n116, x116, z116, l116, g116, hF⟩ := ix_some hF; obtain ⟨b116, o116, s116, j116, r116, e116, f116, k116, ⟨_, _, rfl, rfl, rfl⟩⟩ := RowF.get ra0 g116; refine v_ixp e116 z116 l116 ?_; refine v_ldn (st.sub _ _ (le9 _ _ f116)) k116 ?_; refine v_alloc st (fun b117 h118 n119 st => ?_); refine v_move ?_; refine v_st (cs' := [(i64 x116.1), (i64 x116.2)]) st 2 rfl rfl rfl rfl hfl (fun h120 st => ?_); refine r_nil ?_; refine th_n ?_; refine w_reg ?_; refine v_move ?_; refine v_move ?_; refine v_ldn (vs := [(i64 x116.1), (i64 x116.2)]) (st.at (i := 2) rfl).2.2 rfl ?_
      refine v_move ?_; refine v_inl lw96 rfl rfl (fun T hT => ?_)
      have t0 := hT 0 _ rfl
      have t1 := hT 1 _ rfl
      have t2 := hT 2 _ rfl
      dsimp only [L96]
      refine w_seq ?_; refine w_reg ?_; refine v_box st (fun b122 h123 n124 st => ?_); refine v_move ?_; refine r_nil ?_; refine th_n ?_; refine w_seq ?_; refine w_reg ?_; refine v_move ?_; refine r_nil ?_; refine th_n ?_; refine w_seq ?_; refine w_seq ?_; refine w_reg ?_; refine v_move ?_; refine v_len ?_; refine v_move ?_; refine r_nil ?_; refine th_n ?_; refine w_block ?_
      have st := st.nilL 1
      have w125 : LR rI 1 F9 ([] : List Int) [] := LR.nil
      obtain ⟨y169, hy, hF⟩ := bnd_some hF; refine v_loopD (sf69_L1 N a1 x116) (fun x127 T ds128 h nx => ∃ (F128 : PH) (o129 : Option Nat) (c129 : Nat) (cs129 : List HV) (es130 : List (HV × HV)), ds128 = [] ∧ PH.le F9 F128 ∧ St n0 h0 F0 F128 h nx [.bx b1 (eI .i64 8 x8.2.2), .any b4 (.map es130), .bx b117 [(i64 x116.1), (i64 x116.2)], .bx b122 [(i64 x116.1), (i64 x116.2)], .ls o129 c129 cs129 1] ∧ LR rI 1 F128 x127.1 cs129 ∧ MR (.row [.i .i64, .i .i64, .i .i64, .i .i64, .i .i64]) (fun x : (Int × Int × Int × Int × Int) => HV.agg [HV.int .i64 x.1, HV.int .i64 x.2.1, HV.int .i64 x.2.2.1, HV.int .i64 x.2.2.2.1, HV.int .i64 x.2.2.2.2]) (fun x : Bool => HV.bool x) es130 x127.2.2 ∧ T.get 0 = some (.map (some b4)) ∧ T.get 4 = some (.ptr (some (b122, 0))) ∧ T.get 7 = some (slv o129 (x127.1).length c129) ∧ T.get 10 = some (.slice pa1 (a1).length ca1) ∧ T.get 11 = some (i64 ((a1).length : Int)) ∧ T.get 12 = some (i64 x127.2.1)) (fun y e a σ => e = .exit 0 ∧ a.nt = 28 ∧ ∃ (F170 : PH) (o171 : Option Nat) (c171 : Nat) (cs171 : List HV) (es172 : List (HV × HV)), a.defers = [] ∧ PH.le F9 F170 ∧ St n0 h0 F0 F170 σ.h σ.nx [.bx b1 (eI .i64 8 x8.2.2), .any b4 (.map es172), .bx b117 [(i64 x116.1), (i64 x116.2)], .bx b122 [(i64 x116.1), (i64 x116.2)], .ls o171 c171 cs171 1] ∧ LR rI 1 F170 y.1 cs171 ∧ MR (.row [.i .i64, .i .i64, .i .i64, .i .i64, .i .i64]) (fun x : (Int × Int × Int × Int × Int) => HV.agg [HV.int .i64 x.1, HV.int .i64 x.2.1, HV.int .i64 x.2.2.1, HV.int .i64 x.2.2.2.1, HV.int .i64 x.2.2.2.2]) (fun x : Bool => HV.bool x) es172 y.2 ∧ a.tmps.get 7 = some (slv o171 (y.1).length c171)) (fun x127 T ds128 h nx s hp hF => ?_) N _ y169 _ _ _ _ hy ⟨F9, none, 0, [], es10, rfl, (PH.le.refl _), st, w125, w10, gA, gA, gA, gA, gA, gA⟩ (fun e a σ hne hq => ?_)
      · obtain ⟨F128, o129, c129, cs129, es130, rfl, le128, st, w129, w130, t0, t4, t7, t10, t11, t12⟩ := hp
        have le131 := PH.le.trans le9 le128
        unfold sf69_L1 at hF; unfold L96w0; refine w_seq ?_; refine w_reg ?_; refine v_lss ?_; refine r_nil ?_; refine th_n ?_; refine w_seq ?_; refine v_cond (fun hb173 => ?_) (fun hb173 => ?_)
        · have hF := bif_t hb173 hF; refine w_skip ?_; refine th_n ?_; refine w_seq ?_; refine w_block ?_; refine w_seq ?_; refine w_reg ?_; refine v_move ?_; obtain ⟨n174, x174, z174, l174, g174, hF⟩ := ix_some hF; obtain ⟨b174, o174, s174, j174, r174, e174, f174, k174, ⟨_, _, rfl, rfl, ⟨_, _, rfl, rfl, rfl⟩⟩⟩ := RowF.get ra1 g174; refine v_ixp e174 z174 l174 ?_; refine v_ldn (st.sub _ _ (le131 _ _ f174)) k174 ?_; refine v_alloc st (fun b175 h176 n177 st => ?_); refine v_move ?_; refine v_st (cs' := [(i64 x174.1), (i64 x174.2.1), (i64 x174.2.2)]) st 5 rfl rfl rfl rfl hfl (fun h178 st => ?_); refine r_nil ?_; refine th_n ?_; refine w_seq ?_; refine w_reg ?_; refine v_move ?_; refine v_ldn (vs := [(i64 x116.1), (i64 x116.2)]) (st.at (i := 3) rfl).2.2 rfl ?_
          refine v_ldn (vs := [(i64 x174.1), (i64 x174.2.1), (i64 x174.2.2)]) (st.at (i := 5) rfl).2.2 rfl ?_; refine v_inl lw95 rfl rfl (fun T hT => ?_)
          have t0 := hT 0 _ rfl
          have t1 := hT 1 _ rfl
          have t2 := hT 2 _ rfl
          dsimp only [L95]
          refine w_seq ?_; refine w_reg ?_; refine v_box st (fun b180 h181 n182 st => ?_); refine v_box st (fun b183 h184 n185 st => ?_); refine v_move ?_; refine r_nil ?_; refine th_n ?_; refine w_seq ?_; refine w_reg ?_; refine v_ldn (vs := [(i64 x116.1), (i64 x116.2)]) (st.at (i := 6) rfl).2.2 rfl ?_; refine v_ldn (vs := [(i64 x174.1), (i64 x174.2.1), (i64 x174.2.2)]) (st.at (i := 7) rfl).2.2 rfl ?_; refine v_build (cs := [(i64 x116.1), (i64 x116.2), (i64 x174.1), (i64 x174.2.1), (i64 x174.2.2)]) rfl ?_; refine v_alloc st (fun b186 h187 n188 st => ?_); refine v_st (cs' := [(i64 x116.1), (i64 x116.2), (i64 x174.1), (i64 x174.2.1), (i64 x174.2.2)]) st 8 rfl rfl rfl rfl hfl (fun h189 st => ?_)
          refine r_nil ?_; refine th_n ?_; refine w_seq ?_; refine w_reg ?_; refine v_move ?_; refine v_ldn (vs := [(i64 x116.1), (i64 x116.2), (i64 x174.1), (i64 x174.2.1), (i64 x174.2.2)]) (st.at (i := 8) rfl).2.2 rfl ?_; refine v_lk2 w130 (st.at (i := 1) rfl).2.2 (x116.1, x116.2, x174.1, x174.2.1, x174.2.2) false (kv := (.agg [(i64 x116.1), (i64 x116.2), (i64 x174.1), (i64 x174.2.1), (i64 x174.2.2)])) rfl rfl ?_; refine v_move ?_; refine v_xt rfl ?_; refine v_xt rfl ?_; refine v_move ?_; refine v_move ?_; refine r_nil ?_; refine th_n ?_; refine w_seq ?_; refine w_seq ?_; refine w_reg ?_; refine v_move ?_; refine v_not ?_; refine r_nil ?_; refine th_n ?_; refine v_cond (fun hb190 => ?_) (fun hb190 => ?_)
          · have hF := bif_t hb190 hF; refine w_seq ?_; refine w_reg ?_; refine v_ldn (vs := [(i64 x116.1), (i64 x116.2), (i64 x174.1), (i64 x174.2.1), (i64 x174.2.2)]) (st.at (i := 8) rfl).2.2 rfl ?_; obtain ⟨v191, e192, hF⟩ := bnd_some hF; refine v_call st (ct103 N e192 st.d st.sub ) (fun n193 st => ?_); refine v_move ?_; refine r_nil ?_; refine th_n ?_; refine w_reg ?_; refine v_move ?_; refine v_ldn (vs := [(i64 x116.1), (i64 x116.2), (i64 x174.1), (i64 x174.2.1), (i64 x174.2.2)]) (st.at (i := 8) rfl).2.2 rfl ?_; refine v_move ?_; refine v_mu st 1 rfl w130 (x116.1, x116.2, x174.1, x174.2.1, x174.2.2) v191 (kv := (.agg [(i64 x116.1), (i64 x116.2), (i64 x174.1), (i64 x174.2.1), (i64 x174.2.2)])) (vv := (.bool v191)) rfl rfl hfl (fun es194 h195 w194 st => ?_)
            refine r_nil ?_; refine th_n ?_; refine w_seq ?_; refine w_reg ?_; refine v_move ?_; refine v_move ?_; refine r_nil ?_; refine th_n ?_; refine w_ret ?_; refine inl_end (v := (.bool v191)) (Res.t gA Res.nil) rfl (.inl rfl) (ik ?_); refine v_not ?_; refine r_nil ?_; refine th_n ?_; refine v_cond (fun hb196 => ?_) (fun hb196 => ?_)
            · have hF := bif_t hb196 hF; refine w_reg ?_; refine v_move ?_; refine v_move ?_; refine v_bs (cs := [(i64 x127.2.1)]) st rfl (fun b197 h198 n199 st => ?_); obtain ⟨q200, hF⟩ := ck_some hF
              have w200 : LR rI 1 F128 (x127.1 ++ [x127.2.1]) (cs129 ++ [(i64 x127.2.1)]) := LR.app w129 (LR.one (rfl))
              refine v_aps (n := 1) (ox := 0) (m := (x127.1 ++ [x127.2.1]).length) (row := [(i64 x127.2.1)]) st 4 rfl w129.1 (st.at (i := 9) rfl).2.2 rfl rfl q200 hfl (by decide) (by decide) (by simp) (fun o200 c200 h200 n200 st => ?_)
              refine v_move ?_; refine r_nil ?_; refine ib_n ?_; refine th_n ?_; refine w_reg ?_; obtain ⟨q201, hF⟩ := ck_some hF; refine v_add q201 ?_; refine v_move ?_; refine r_nil ?_; refine thn ⟨_, (inj hF).symm, rfl, ?_⟩; dsimp only
              exact ⟨F128, o200, c200, (cs129 ++ [(i64 x127.2.1)]), es194, rfl, le128, (st.drop (by first | exact List.Sublist.refl _ | (repeat first | exact List.nil_sublist _ | refine List.Sublist.cons_cons _ ?_ | refine List.Sublist.cons _ ?_))), w200, w194, gA, gA, gA, gA, gA, gA⟩
            · have hF := bif_f hb196 hF; refine w_skip ?_; refine ib_n ?_; refine th_n ?_; refine w_reg ?_; obtain ⟨q202, hF⟩ := ck_some hF; refine v_add q202 ?_; refine v_move ?_; refine r_nil ?_; refine thn ⟨_, (inj hF).symm, rfl, ?_⟩; dsimp only
              exact ⟨F128, o129, c129, cs129, es194, rfl, le128, (st.drop (by first | exact List.Sublist.refl _ | (repeat first | exact List.nil_sublist _ | refine List.Sublist.cons_cons _ ?_ | refine List.Sublist.cons _ ?_))), w129, w194, gA, gA, gA, gA, gA, gA⟩
          · have hF := bif_f hb190 hF; refine w_skip ?_; refine th_n ?_; refine w_seq ?_; refine w_reg ?_; refine v_move ?_; refine v_move ?_; refine r_nil ?_; refine th_n ?_; refine w_ret ?_; refine inl_end (v := (.bool (Option.getD (x127.2.2 (x116.1, x116.2, x174.1, x174.2.1, x174.2.2)) false))) (Res.t gA Res.nil) rfl (.inl rfl) (ik ?_); refine v_not ?_; refine r_nil ?_; refine th_n ?_; refine v_cond (fun hb203 => ?_) (fun hb203 => ?_)
            · have hF := bif_t hb203 hF; refine w_reg ?_; refine v_move ?_; refine v_move ?_; refine v_bs (cs := [(i64 x127.2.1)]) st rfl (fun b204 h205 n206 st => ?_); obtain ⟨q207, hF⟩ := ck_some hF
              have w207 : LR rI 1 F128 (x127.1 ++ [x127.2.1]) (cs129 ++ [(i64 x127.2.1)]) := LR.app w129 (LR.one (rfl))
              refine v_aps (n := 1) (ox := 0) (m := (x127.1 ++ [x127.2.1]).length) (row := [(i64 x127.2.1)]) st 4 rfl w129.1 (st.at (i := 9) rfl).2.2 rfl rfl q207 hfl (by decide) (by decide) (by simp) (fun o207 c207 h207 n207 st => ?_)
              refine v_move ?_; refine r_nil ?_; refine ib_n ?_; refine th_n ?_; refine w_reg ?_; obtain ⟨q208, hF⟩ := ck_some hF; refine v_add q208 ?_; refine v_move ?_; refine r_nil ?_; refine thn ⟨_, (inj hF).symm, rfl, ?_⟩; dsimp only
              exact ⟨F128, o207, c207, (cs129 ++ [(i64 x127.2.1)]), es130, rfl, le128, (st.drop (by first | exact List.Sublist.refl _ | (repeat first | exact List.nil_sublist _ | refine List.Sublist.cons_cons _ ?_ | refine List.Sublist.cons _ ?_))), w207, w130, gA, gA, gA, gA, gA, gA⟩
            · have hF := bif_f hb203 hF; refine w_skip ?_; refine ib_n ?_; refine th_n ?_; refine w_reg ?_; obtain ⟨q209, hF⟩ := ck_some hF; refine v_add q209 ?_; refine v_move ?_; refine r_nil ?_; refine thn ⟨_, (inj hF).symm, rfl, ?_⟩; dsimp only
              exact ⟨F128, o129, c129, cs129, es130, rfl, le128, (st.drop (by first | exact List.Sublist.refl _ | (repeat first | exact List.nil_sublist _ | refine List.Sublist.cons_cons _ ?_ | refine List.Sublist.cons _ ?_))), w129, w130, gA, gA, gA, gA, gA, gA⟩
        · have hF := bif_f hb173 hF; refine w_exit ?_; refine th_e ?_; refine th_e ?_; refine ⟨_, (inj hF).symm, rfl, rfl, ?_⟩; dsimp only
          exact ⟨F128, o129, c129, cs129, es130, rfl, le128, st, w129, w130, gA⟩
      · obtain ⟨N9, T, ds170⟩ := a; obtain ⟨h211, n212⟩ := σ; obtain ⟨rfl, e1, F170, o171, c171, cs171, es172, e2, le170, st, w171, w172, t7⟩ := hq
        dsimp only at e1 e2
        subst e1
        subst e2
        dsimp only at st t7
        have le210 := PH.le.trans le9 le170
        refine ib_e ?_; refine th_n ?_; refine w_seq ?_; refine w_reg ?_; refine v_move ?_; refine v_move ?_; refine r_nil ?_; refine th_n ?_; refine w_ret ?_; refine inl_end (v := (slv o171 (y169.1).length c171)) (Res.t gA Res.nil) rfl (.inl rfl) (ik ?_); refine v_len ?_; obtain ⟨q213, hF⟩ := ck_some hF
        refine v_ixa (j := (Int.toNat x8.1)) (Int.toNat_of_nonneg q213.1).symm (by omega) ?_
        refine v_st (o := (0 + (Int.toNat x8.1) * 1)) (v := (i64 ((y169.1).length : Int))) (cs' := (eI .i64 8 (ups x8.2.2 (Int.toNat x8.1) ((y169.1).length : Int)))) st 0 rfl (ar_set0 (ix := (Int.toNat x8.1)) (by omega) (by omega)) rfl rfl hfl (fun h214 st => ?_)
        refine r_nil ?_; refine ib_n ?_; refine th_n ?_; refine w_reg ?_; obtain ⟨q215, hF⟩ := ck_some hF; refine v_add q215 ?_; refine v_move ?_; refine r_nil ?_; refine thn ⟨_, (inj hF).symm, rfl, ?_⟩; dsimp only
        exact ⟨F170, es172, rfl, le210, (st.drop (by first | exact List.Sublist.refl _ | (repeat first | exact List.nil_sublist _ | refine List.Sublist.cons_cons _ ?_ | refine List.Sublist.cons _ ?_))), w172, gA, gA, gA, gA, gA, gA, gA, gA⟩
    · have hF := bif_f hb115 hF; refine w_exit ?_; refine th_e ?_; refine th_e ?_; refine ⟨_, (inj hF).symm, rfl, rfl, ?_⟩; dsimp only
      exact ⟨F9, es10, rfl, le9, st, w10, gA, gA, gA, gA, gA⟩
  · obtain ⟨N9, T, ds113⟩ := a; obtain ⟨h216, n217⟩ := σ; obtain ⟨rfl, e1, F113, es114, e2, le113, st, w114, t0, t1, t4, t6, t7⟩ := hq
    dsimp only at e1 e2
    subst e1
    subst e2
    dsimp only at st t0 t1 t4 t6 t7
    refine ib_e ?_; refine th_n ?_; refine w_seq ?_; refine w_seq ?_; refine w_reg ?_; refine v_move ?_; refine v_len ?_; refine v_move ?_; refine r_nil ?_; refine th_n ?_; refine w_block ?_; obtain ⟨y228, hy, hF⟩ := bnd_some hF; refine v_loopD (sf69_L3 a0 y112) (fun x218 T ds219 h nx => ∃ (F219 : PH), ds219 = [] ∧ PH.le F113 F219 ∧ St n0 h0 F0 F219 h nx [.bx b1 (eI .i64 8 y112.2), .any b4 (.map es114)] ∧ T.get 0 = some (.slice pa0 (a0).length ca0) ∧ T.get 1 = some (.slice pa1 (a1).length ca1) ∧ T.get 4 = some (i64 x218.1) ∧ T.get 6 = some (.ptr (some (b1, 0))) ∧ T.get 7 = some (.map (some b4)) ∧ T.get 28 = some (i64 ((a0).length : Int)) ∧ T.get 29 = some (i64 x218.2)) (fun y e a σ => e = .exit 2 ∧ a.nt = 49 ∧ ∃ (F229 : PH), a.defers = [] ∧ PH.le F113 F229 ∧ St n0 h0 F0 F229 σ.h σ.nx [.bx b1 (eI .i64 8 y112.2), .any b4 (.map es114)] ∧ a.tmps.get 0 = some (.slice pa0 (a0).length ca0) ∧ a.tmps.get 1 = some (.slice pa1 (a1).length ca1) ∧ a.tmps.get 4 = some (i64 y) ∧ a.tmps.get 7 = some (.map (some b4))) (fun x218 T ds219 h nx s hp hF => ?_) N _ y228 _ _ _ _ hy ⟨F113, rfl, (PH.le.refl _), st, gA, gA, gA, gA, gA, gA, gA⟩ (fun e a σ hne hq => ?_)
    · obtain ⟨F219, rfl, le219, st, t0, t1, t4, t6, t7, t28, t29⟩ := hp
      have le220 := PH.le.trans le113 le219
      unfold sf69_L3 at hF; unfold L69w0; refine w_seq ?_; refine w_reg ?_; refine v_lss ?_; refine r_nil ?_; refine th_n ?_; refine w_seq ?_; refine v_cond (fun hb230 => ?_) (fun hb230 => ?_)
      · have hF := bif_t hb230 hF; refine w_skip ?_; refine th_n ?_; refine w_seq ?_; refine w_block ?_; refine w_seq ?_; refine w_reg ?_; refine v_move ?_; refine v_move ?_; refine r_nil ?_; refine th_n ?_; refine w_seq ?_; refine w_drawV (Nat.le_trans hfl st.ext.le) (fun dw => ?_); refine y_pure st.d dw (fun hm vw => v_move pr_nil) ?_; obtain ⟨q231, hF⟩ := ck_some hF
        refine y_pure st.d dw (fun hm vw => v_ixa (j := (Int.toNat x218.2)) (Int.toNat_of_nonneg q231.1).symm (by omega) pr_nil) ?_
        refine y_pure st.d dw (fun hm vw => v_ld1 (o := (0 + (Int.toNat x218.2) * 1)) (vw.bx (st.at (i := 0) rfl)) (ar_get0 (ix := (Int.toNat x218.2)) (by omega) (by omega)) pr_nil) ?_
        refine y_pure st.d dw (fun hm vw => v_move pr_nil) ?_; obtain ⟨q232, hF⟩ := ck_some hF
        refine y_pure st.d dw (fun hm vw => v_ixa (j := (Int.toNat x218.1)) (Int.toNat_of_nonneg q232.1).symm (by omega) pr_nil) ?_
        refine y_pure st.d dw (fun hm vw => v_ld1 (o := (0 + (Int.toNat x218.1) * 1)) (vw.bx (st.at (i := 0) rfl)) (ar_get0 (ix := (Int.toNat x218.1)) (by omega) (by omega)) pr_nil) ?_
        refine y_end st.d dw rfl (fun h233 ex vs => ?_)
        have st := st.ext1 ex
        refine v_lss ?_; refine r_nil ?_; refine th_n ?_; refine v_cond (fun hb234 => ?_) (fun hb234 => ?_)
        · have hF := bif_t hb234 hF; refine w_reg ?_; refine v_move ?_; refine v_move ?_; refine r_nil ?_; refine ib_n ?_; refine th_n ?_; refine w_reg ?_; obtain ⟨q235, hF⟩ := ck_some hF; refine v_add q235 ?_; refine v_move ?_; refine r_nil ?_; refine thn ⟨_, (inj hF).symm, rfl, ?_⟩; dsimp only
          exact ⟨F219, rfl, le219, st, gA, gA, gA, gA, gA, gA, gA⟩
        · have hF := bif_f hb234 hF; refine w_skip ?_; refine ib_n ?_; refine th_n ?_; refine w_reg ?_; obtain ⟨q236, hF⟩ := ck_some hF; refine v_add q236 ?_; refine v_move ?_; refine r_nil ?_; refine thn ⟨_, (inj hF).symm, rfl, ?_⟩; dsimp only
          exact ⟨F219, rfl, le219, st, gA, gA, gA, gA, gA, gA, gA⟩
      · have hF := bif_f hb230 hF; refine w_exit ?_; refine th_e ?_; refine th_e ?_; refine ⟨_, (inj hF).symm, rfl, rfl, ?_⟩; dsimp only
        exact ⟨F219, rfl, le219, st, gA, gA, gA, gA⟩
    · obtain ⟨N9, T, ds229⟩ := a; obtain ⟨h238, n239⟩ := σ; obtain ⟨rfl, e1, F229, e2, le229, st, t0, t1, t4, t7⟩ := hq
      dsimp only at e1 e2
      subst e1
      subst e2
      dsimp only at st t0 t1 t4 t7
      have le237 := PH.le.trans le113 le229
      refine ib_e ?_; refine th_n ?_; refine w_seq ?_; refine w_reg ?_; refine v_move ?_; refine v_move ?_; refine v_move ?_; refine v_move ?_; obtain ⟨n240, x240, z240, l240, g240, hF⟩ := ix_some hF; obtain ⟨b240, o240, s240, j240, r240, e240, f240, k240, ⟨_, _, rfl, rfl, rfl⟩⟩ := RowF.get ra0 g240; refine v_ixp e240 z240 l240 ?_; refine v_ldn (st.sub _ _ (le237 _ _ f240)) k240 ?_; refine v_move ?_; refine v_inl lw96 rfl rfl (fun T hT => ?_)
      have t0 := hT 0 _ rfl
      have t1 := hT 1 _ rfl
      have t2 := hT 2 _ rfl
      dsimp only [L96]
      refine w_seq ?_; refine w_reg ?_; refine v_box st (fun b242 h243 n244 st => ?_); refine v_move ?_; refine r_nil ?_; refine th_n ?_; refine w_seq ?_; refine w_reg ?_; refine v_move ?_; refine r_nil ?_; refine th_n ?_; refine w_seq ?_; refine w_seq ?_; refine w_reg ?_; refine v_move ?_; refine v_len ?_; refine v_move ?_; refine r_nil ?_; refine th_n ?_; refine w_block ?_
      have st := st.nilL 1
      have w245 : LR rI 1 F229 ([] : List Int) [] := LR.nil
      obtain ⟨y290, hy, hF⟩ := bnd_some hF; refine v_loopD (sf69_L4 N a1 x240) (fun x247 T ds248 h nx => ∃ (F248 : PH) (o249 : Option Nat) (c249 : Nat) (cs249 : List HV) (es250 : List (HV × HV)), ds248 = [] ∧ PH.le F229 F248 ∧ St n0 h0 F0 F248 h nx [.bx b1 (eI .i64 8 y112.2), .any b4 (.map es250), .bx b242 [(i64 x240.1), (i64 x240.2)], .ls o249 c249 cs249 1] ∧ LR rI 1 F248 x247.1 cs249 ∧ MR (.row [.i .i64, .i .i64, .i .i64, .i .i64, .i .i64]) (fun x : (Int × Int × Int × Int × Int) => HV.agg [HV.int .i64 x.1, HV.int .i64 x.2.1, HV.int .i64 x.2.2.1, HV.int .i64 x.2.2.2.1, HV.int .i64 x.2.2.2.2]) (fun x : Bool => HV.bool x) es250 x247.2.2 ∧ T.get 0 = some (.map (some b4)) ∧ T.get 4 = some (.ptr (some (b242, 0))) ∧ T.get 7 = some (slv o249 (x247.1).length c249) ∧ T.get 10 = some (.slice pa1 (a1).length ca1) ∧ T.get 11 = some (i64 ((a1).length : Int)) ∧ T.get 12 = some (i64 x247.2.1)) (fun y e a σ => e = .exit 0 ∧ a.nt = 28 ∧ ∃ (F291 : PH) (o292 : Option Nat) (c292 : Nat) (cs292 : List HV) (es293 : List (HV × HV)), a.defers = [] ∧ PH.le F229 F291 ∧ St n0 h0 F0 F291 σ.h σ.nx [.bx b1 (eI .i64 8 y112.2), .any b4 (.map es293), .bx b242 [(i64 x240.1), (i64 x240.2)], .ls o292 c292 cs292 1] ∧ LR rI 1 F291 y.1 cs292 ∧ MR (.row [.i .i64, .i .i64, .i .i64, .i .i64, .i .i64]) (fun x : (Int × Int × Int × Int × Int) => HV.agg [HV.int .i64 x.1, HV.int .i64 x.2.1, HV.int .i64 x.2.2.1, HV.int .i64 x.2.2.2.1, HV.int .i64 x.2.2.2.2]) (fun x : Bool => HV.bool x) es293 y.2 ∧ a.tmps.get 7 = some (slv o292 (y.1).length c292)) (fun x247 T ds248 h nx s hp hF => ?_) N _ y290 _ _ _ _ hy ⟨F229, none, 0, [], es114, rfl, (PH.le.refl _), st, w245, w114, gA, gA, gA, gA, gA, gA⟩ (fun e a σ hne hq => ?_)
      · obtain ⟨F248, o249, c249, cs249, es250, rfl, le248, st, w249, w250, t0, t4, t7, t10, t11, t12⟩ := hp
        have le251 := PH.le.trans le237 le248
        have le252 := PH.le.trans le229 le248
        unfold sf69_L4 at hF; unfold L96w0; refine w_seq ?_; refine w_reg ?_; refine v_lss ?_; refine r_nil ?_; refine th_n ?_; refine w_seq ?_; refine v_cond (fun hb294 => ?_) (fun hb294 => ?_)
        · have hF := bif_t hb294 hF; refine w_skip ?_; refine th_n ?_; refine w_seq ?_; refine w_block ?_; refine w_seq ?_; refine w_reg ?_; refine v_move ?_; obtain ⟨n295, x295, z295, l295, g295, hF⟩ := ix_some hF; obtain ⟨b295, o295, s295, j295, r295, e295, f295, k295, ⟨_, _, rfl, rfl, ⟨_, _, rfl, rfl, rfl⟩⟩⟩ := RowF.get ra1 g295; refine v_ixp e295 z295 l295 ?_; refine v_ldn (st.sub _ _ (le251 _ _ f295)) k295 ?_; refine v_alloc st (fun b296 h297 n298 st => ?_); refine v_move ?_; refine v_st (cs' := [(i64 x295.1), (i64 x295.2.1), (i64 x295.2.2)]) st 4 rfl rfl rfl rfl hfl (fun h299 st => ?_); refine r_nil ?_; refine th_n ?_; refine w_seq ?_; refine w_reg ?_; refine v_move ?_; refine v_ldn (vs := [(i64 x240.1), (i64 x240.2)]) (st.at (i := 2) rfl).2.2 rfl ?_
          refine v_ldn (vs := [(i64 x295.1), (i64 x295.2.1), (i64 x295.2.2)]) (st.at (i := 4) rfl).2.2 rfl ?_; refine v_inl lw95 rfl rfl (fun T hT => ?_)
          have t0 := hT 0 _ rfl
          have t1 := hT 1 _ rfl
          have t2 := hT 2 _ rfl
          dsimp only [L95]
          refine w_seq ?_; refine w_reg ?_; refine v_box st (fun b301 h302 n303 st => ?_); refine v_box st (fun b304 h305 n306 st => ?_); refine v_move ?_; refine r_nil ?_; refine th_n ?_; refine w_seq ?_; refine w_reg ?_; refine v_ldn (vs := [(i64 x240.1), (i64 x240.2)]) (st.at (i := 5) rfl).2.2 rfl ?_; refine v_ldn (vs := [(i64 x295.1), (i64 x295.2.1), (i64 x295.2.2)]) (st.at (i := 6) rfl).2.2 rfl ?_; refine v_build (cs := [(i64 x240.1), (i64 x240.2), (i64 x295.1), (i64 x295.2.1), (i64 x295.2.2)]) rfl ?_; refine v_alloc st (fun b307 h308 n309 st => ?_); refine v_st (cs' := [(i64 x240.1), (i64 x240.2), (i64 x295.1), (i64 x295.2.1), (i64 x295.2.2)]) st 7 rfl rfl rfl rfl hfl (fun h310 st => ?_)
          refine r_nil ?_; refine th_n ?_; refine w_seq ?_; refine w_reg ?_; refine v_move ?_; refine v_ldn (vs := [(i64 x240.1), (i64 x240.2), (i64 x295.1), (i64 x295.2.1), (i64 x295.2.2)]) (st.at (i := 7) rfl).2.2 rfl ?_; refine v_lk2 w250 (st.at (i := 1) rfl).2.2 (x240.1, x240.2, x295.1, x295.2.1, x295.2.2) false (kv := (.agg [(i64 x240.1), (i64 x240.2), (i64 x295.1), (i64 x295.2.1), (i64 x295.2.2)])) rfl rfl ?_; refine v_move ?_; refine v_xt rfl ?_; refine v_xt rfl ?_; refine v_move ?_; refine v_move ?_; refine r_nil ?_; refine th_n ?_; refine w_seq ?_; refine w_seq ?_; refine w_reg ?_; refine v_move ?_; refine v_not ?_; refine r_nil ?_; refine th_n ?_; refine v_cond (fun hb311 => ?_) (fun hb311 => ?_)
          · have hF := bif_t hb311 hF; refine w_seq ?_; refine w_reg ?_; refine v_ldn (vs := [(i64 x240.1), (i64 x240.2), (i64 x295.1), (i64 x295.2.1), (i64 x295.2.2)]) (st.at (i := 7) rfl).2.2 rfl ?_; obtain ⟨v312, e313, hF⟩ := bnd_some hF; refine v_call st (ct103 N e313 st.d st.sub ) (fun n314 st => ?_); refine v_move ?_; refine r_nil ?_; refine th_n ?_; refine w_reg ?_; refine v_move ?_; refine v_ldn (vs := [(i64 x240.1), (i64 x240.2), (i64 x295.1), (i64 x295.2.1), (i64 x295.2.2)]) (st.at (i := 7) rfl).2.2 rfl ?_; refine v_move ?_; refine v_mu st 1 rfl w250 (x240.1, x240.2, x295.1, x295.2.1, x295.2.2) v312 (kv := (.agg [(i64 x240.1), (i64 x240.2), (i64 x295.1), (i64 x295.2.1), (i64 x295.2.2)])) (vv := (.bool v312)) rfl rfl hfl (fun es315 h316 w315 st => ?_)
            refine r_nil ?_; refine th_n ?_; refine w_seq ?_; refine w_reg ?_; refine v_move ?_; refine v_move ?_; refine r_nil ?_; refine th_n ?_; refine w_ret ?_; refine inl_end (v := (.bool v312)) (Res.t gA Res.nil) rfl (.inl rfl) (ik ?_); refine v_not ?_; refine r_nil ?_; refine th_n ?_; refine v_cond (fun hb317 => ?_) (fun hb317 => ?_)
            · have hF := bif_t hb317 hF; refine w_reg ?_; refine v_move ?_; refine v_move ?_; refine v_bs (cs := [(i64 x247.2.1)]) st rfl (fun b318 h319 n320 st => ?_); obtain ⟨q321, hF⟩ := ck_some hF
              have w321 : LR rI 1 F248 (x247.1 ++ [x247.2.1]) (cs249 ++ [(i64 x247.2.1)]) := LR.app w249 (LR.one (rfl))
              refine v_aps (n := 1) (ox := 0) (m := (x247.1 ++ [x247.2.1]).length) (row := [(i64 x247.2.1)]) st 3 rfl w249.1 (st.at (i := 8) rfl).2.2 rfl rfl q321 hfl (by decide) (by decide) (by simp) (fun o321 c321 h321 n321 st => ?_)
              refine v_move ?_; refine r_nil ?_; refine ib_n ?_; refine th_n ?_; refine w_reg ?_; obtain ⟨q322, hF⟩ := ck_some hF; refine v_add q322 ?_; refine v_move ?_; refine r_nil ?_; refine thn ⟨_, (inj hF).symm, rfl, ?_⟩; dsimp only
              exact ⟨F248, o321, c321, (cs249 ++ [(i64 x247.2.1)]), es315, rfl, le248, (st.drop (by first | exact List.Sublist.refl _ | (repeat first | exact List.nil_sublist _ | refine List.Sublist.cons_cons _ ?_ | refine List.Sublist.cons _ ?_))), w321, w315, gA, gA, gA, gA, gA, gA⟩
            · have hF := bif_f hb317 hF; refine w_skip ?_; refine ib_n ?_; refine th_n ?_; refine w_reg ?_; obtain ⟨q323, hF⟩ := ck_some hF; refine v_add q323 ?_; refine v_move ?_; refine r_nil ?_; refine thn ⟨_, (inj hF).symm, rfl, ?_⟩; dsimp only
              exact ⟨F248, o249, c249, cs249, es315, rfl, le248, (st.drop (by first | exact List.Sublist.refl _ | (repeat first | exact List.nil_sublist _ | refine List.Sublist.cons_cons _ ?_ | refine List.Sublist.cons _ ?_))), w249, w315, gA, gA, gA, gA, gA, gA⟩
          · have hF := bif_f hb311 hF; refine w_skip ?_; refine th_n ?_; refine w_seq ?_; refine w_reg ?_; refine v_move ?_; refine v_move ?_; refine r_nil ?_; refine th_n ?_; refine w_ret ?_; refine inl_end (v := (.bool (Option.getD (x247.2.2 (x240.1, x240.2, x295.1, x295.2.1, x295.2.2)) false))) (Res.t gA Res.nil) rfl (.inl rfl) (ik ?_); refine v_not ?_; refine r_nil ?_; refine th_n ?_; refine v_cond (fun hb324 => ?_) (fun hb324 => ?_)
            · have hF := bif_t hb324 hF; refine w_reg ?_; refine v_move ?_; refine v_move ?_; refine v_bs (cs := [(i64 x247.2.1)]) st rfl (fun b325 h326 n327 st => ?_); obtain ⟨q328, hF⟩ := ck_some hF
              have w328 : LR rI 1 F248 (x247.1 ++ [x247.2.1]) (cs249 ++ [(i64 x247.2.1)]) := LR.app w249 (LR.one (rfl))
              refine v_aps (n := 1) (ox := 0) (m := (x247.1 ++ [x247.2.1]).length) (row := [(i64 x247.2.1)]) st 3 rfl w249.1 (st.at (i := 8) rfl).2.2 rfl rfl q328 hfl (by decide) (by decide) (by simp) (fun o328 c328 h328 n328 st => ?_)
              refine v_move ?_; refine r_nil ?_; refine ib_n ?_; refine th_n ?_; refine w_reg ?_; obtain ⟨q329, hF⟩ := ck_some hF; refine v_add q329 ?_; refine v_move ?_; refine r_nil ?_; refine thn ⟨_, (inj hF).symm, rfl, ?_⟩; dsimp only
              exact ⟨F248, o328, c328, (cs249 ++ [(i64 x247.2.1)]), es250, rfl, le248, (st.drop (by first | exact List.Sublist.refl _ | (repeat first | exact List.nil_sublist _ | refine List.Sublist.cons_cons _ ?_ | refine List.Sublist.cons _ ?_))), w328, w250, gA, gA, gA, gA, gA, gA⟩
            · have hF := bif_f hb324 hF; refine w_skip ?_; refine ib_n ?_; refine th_n ?_; refine w_reg ?_; obtain ⟨q330, hF⟩ := ck_some hF; refine v_add q330 ?_; refine v_move ?_; refine r_nil ?_; refine thn ⟨_, (inj hF).symm, rfl, ?_⟩; dsimp only
              exact ⟨F248, o249, c249, cs249, es250, rfl, le248, (st.drop (by first | exact List.Sublist.refl _ | (repeat first | exact List.nil_sublist _ | refine List.Sublist.cons_cons _ ?_ | refine List.Sublist.cons _ ?_))), w249, w250, gA, gA, gA, gA, gA, gA⟩
        · have hF := bif_f hb294 hF; refine w_exit ?_; refine th_e ?_; refine th_e ?_; refine ⟨_, (inj hF).symm, rfl, rfl, ?_⟩; dsimp only
          exact ⟨F248, o249, c249, cs249, es250, rfl, le248, st, w249, w250, gA⟩
      · obtain ⟨N9, T, ds291⟩ := a; obtain ⟨h333, n334⟩ := σ; obtain ⟨rfl, e1, F291, o292, c292, cs292, es293, e2, le291, st, w292, w293, t7⟩ := hq
        dsimp only at e1 e2
        subst e1
        subst e2
        dsimp only at st t7
        have le331 := PH.le.trans le237 le291
        have le332 := PH.le.trans le229 le291
        refine ib_e ?_; refine th_n ?_; refine w_seq ?_; refine w_reg ?_; refine v_move ?_; refine v_move ?_; refine r_nil ?_; refine th_n ?_; refine w_ret ?_; refine inl_end (v := (slv o292 (y290.1).length c292)) (Res.t gA Res.nil) rfl (.inl rfl) (ik ?_); refine v_move ?_; refine v_move ?_; refine r_nil ?_; refine th_n ?_; refine w_ret ?_; obtain rfl := inj hF
        obtain ⟨F335, le335, st, rf335⟩ := St.freeze st 3 rfl w292 (by decide)
        have le336 := PH.le.trans le331 le335
        have le337 := PH.le.trans le332 le335
        have le338 := PH.le.trans le291 le335
        exact end_r st (Res.t gA (Res.t gA Res.nil)) ⟨_, _, rfl, rfl, ⟨_, _, rfl, rf335⟩⟩
end Go.Hx.V

/- Functions of the program come to that. -/
namespace Go.Hx.V
open Go.Hx
set_option linter.unusedVariables false
set_option maxRecDepth 20000
set_option maxHeartbeats 4000000
attribute [local irreducible] W R C thenH inBlockH Tr.get Tr.set lo ck bnd ix iter
theorem ct40 (N : Nat) {a0 : (List (Int × Int))} {a1 : (List (Int × Int × Int))} {r : Int} (hF : sf40 N a0 a1 = some r) {fl : Nat} {h0 : Tr HBlk} {n0 : Nat} {F0 : PH} (hd : D h0 n0) (hs : F0.sub h0) {pa0 : Option (Nat × Nat)} {ca0 : Nat} {pa1 : Option (Nat × Nat)} {ca1 : Nat} (ra0 : RowF (rP rI rI) 2 F0 pa0 ca0 a0) (ra1 : RowF (rP rI (rP rI rI)) 3 F0 pa1 ca1 a1) : C LW fl 40 [(.slice pa0 (a0).length ca0), (.slice pa1 (a1).length ca1)] ⟨h0, n0⟩ (KS (i64 r) n0 h0) := by
  unfold sf40 at hF
  refine in_cT hd hs lw40 rfl rfl (by rfl) (fun st T hT => ?_)
  have hfl : n0 ≤ n0 := Nat.le_refl n0
  have t0 := hT 0 _ rfl
  have t1 := hT 1 _ rfl
  dsimp only [L40]
  refine w_seq ?_; refine w_reg ?_; refine v_move ?_; refine r_nil ?_; refine th_n ?_; obtain ⟨y8, hA9, hF⟩ := bnd_some hF; refine w_cutD (fun T ds14 h nx => ∃ u, y8 = (.inr u) ∧ ∃ (F14 : PH), ds14 = [] ∧ PH.le F0 F14 ∧ St n0 h0 F0 F14 h nx [] ∧ T.get 0 = some (.slice pa0 (a0).length ca0) ∧ T.get 1 = some (.slice pa1 (a1).length ca1)) ?_ (fun T ds14 h nx hp => ?_)
  · have hK10 := hF
    have hF := hA9; obtain ⟨y16, hA17, hF⟩ := bnd_some hF; refine w_cutD (fun T ds19 h nx => ∃ (F19 : PH), ds19 = [] ∧ PH.le F0 F19 ∧ St n0 h0 F0 F19 h nx [] ∧ T.get 0 = some (.slice pa0 (a0).length ca0) ∧ T.get 1 = some (.slice pa1 (a1).length ca1) ∧ T.get 14 = some (.bool y16)) ?_ (fun T ds19 h nx hp => ?_)
    · have hK18 := hF
      have hF := hA17; refine w_reg ?_; refine v_move ?_; refine v_len ?_; refine v_gtr ?_; refine v_move ?_
      rcases Bool.eq_false_or_eq_true (decide ((8 : Int) < ((a0).length : Int))) with hb20 | hb20
      · have hF := bif_t hb20 hF; refine g_skip hb20 ?_; refine g_skip hb20 ?_; refine g_skip hb20 ?_; refine v_pick hb20 ?_; refine r_nil ?_; obtain rfl := inj hF; refine thn ⟨rfl, ?_⟩; dsimp only
        exact ⟨F0, rfl, (PH.le.refl _), st, gA, gA, gA⟩
      · have hF := bif_f hb20 hF; refine g_take hb20 (v_move ?_); refine g_take hb20 (v_len ?_); refine g_take hb20 (v_gtr ?_); refine v_pick' hb20 ?_; refine r_nil ?_; obtain rfl := inj hF; refine thn ⟨rfl, ?_⟩; dsimp only
        exact ⟨F0, rfl, (PH.le.refl _), st, gA, gA, gA⟩
    · obtain ⟨F19, rfl, le19, st, t0, t1, t14⟩ := hp; refine v_cond (fun hb21 => ?_) (fun hb21 => ?_)
      · have hF := bif_t hb21 hF; refine w_seq ?_; refine w_reg ?_; refine v_move ?_; refine r_nil ?_; refine th_n ?_; refine w_ret ?_; obtain rfl := inj hF; have hF := hK10; have hF := sel_l hF; refine th_r ?_; obtain rfl := inj hF
        exact end_s st (Res.t gA Res.nil) rfl rfl
      · have hF := bif_f hb21 hF; refine w_skip ?_; obtain rfl := inj hF; refine thn ⟨rfl, _, rfl, ?_⟩; dsimp only
        exact ⟨F19, rfl, le19, st, gA, gA⟩
  · obtain ⟨w13, rfl, F14, rfl, le14, st, t0, t1⟩ := hp; have hF := sel_r hF; refine w_seq ?_; refine w_seq ?_; refine w_reg ?_; refine v_move ?_; refine v_build (cs := [(i64 (0 : Int)), (i64 (0 : Int))]) rfl ?_; obtain ⟨v22, e23, hF⟩ := bnd_some hF; refine v_call st (ct21 N e23 st.d st.sub (RowF.mono le14 ra0)) (fun n24 st => ?_); refine v_move ?_; refine r_nil ?_; refine th_n ?_; refine w_seq ?_; refine w_reg ?_; refine v_move ?_; refine v_nei ?_; refine r_nil ?_; refine th_n ?_; refine v_cond (fun hb25 => ?_) (fun hb25 => ?_)
    · have hF := bif_t hb25 hF; refine w_seq ?_; refine w_reg ?_; refine v_move ?_; refine v_move ?_; refine r_nil ?_; refine th_n ?_; refine w_ret ?_; refine th_r ?_; obtain rfl := inj hF
      exact end_s st (Res.t gA Res.nil) rfl rfl
    · have hF := bif_f hb25 hF; refine w_skip ?_; refine th_n ?_; refine w_seq ?_; refine w_seq ?_; refine w_reg ?_; refine v_move ?_; refine r_nil ?_; refine th_n ?_; refine w_block ?_; obtain ⟨y36, hy, hF⟩ := bnd_some hF; refine v_loopD (sf40_L1 N a1) (fun x26 T ds27 h nx => ∃ (F27 : PH), ds27 = [] ∧ PH.le F14 F27 ∧ St n0 h0 F0 F27 h nx [] ∧ T.get 1 = some (.slice pa1 (a1).length ca1) ∧ T.get 6 = some (i64 x26)) (fun y e a σ => (∃ u, y = (.inl u) ∧ e = .ret ∧ a.nt = 33 ∧ ∃ (F38 : PH), a.defers = [] ∧ PH.le F14 F38 ∧ St n0 h0 F0 F38 σ.h σ.nx [] ∧ a.tmps.get 4 = some (i64 u)) ∨ (∃ u, y = (.inr u) ∧ e = .exit 0 ∧ a.nt = 33 ∧ ∃ (F40 : PH), a.defers = [] ∧ PH.le F14 F40 ∧ St n0 h0 F0 F40 σ.h σ.nx [])) (fun x26 T ds27 h nx s hp hF => ?_) N _ y36 _ _ _ _ hy ⟨F14, rfl, (PH.le.refl _), st, gA, gA⟩ (fun e a σ hne hq => ?_)
      · obtain ⟨F27, rfl, le27, st, t1, t6⟩ := hp
        have le28 := PH.le.trans le14 le27
        unfold sf40_L1 at hF; unfold L40w0; refine w_seq ?_; refine w_seq ?_; refine w_reg ?_; refine v_move ?_; refine v_move ?_; refine v_len ?_; refine v_lss ?_; refine r_nil ?_; refine th_n ?_; refine v_cond (fun hb41 => ?_) (fun hb41 => ?_)
        · have hF := bif_t hb41 hF; refine w_skip ?_; refine th_n ?_; refine w_seq ?_; refine w_block ?_; refine w_seq ?_; refine w_reg ?_; refine v_move ?_; refine v_move ?_; obtain ⟨n42, x42, z42, l42, g42, hF⟩ := ix_some hF; obtain ⟨b42, o42, s42, j42, r42, e42, f42, k42, ⟨_, _, rfl, rfl, ⟨_, _, rfl, rfl, rfl⟩⟩⟩ := RowF.get ra1 g42; refine v_ixp e42 z42 l42 ?_; refine v_ldn (st.sub _ _ (le28 _ _ f42)) k42 ?_; obtain ⟨v43, e44, hF⟩ := bnd_some hF; refine v_call st (ct70 N e44 st.d st.sub ) (fun n45 st => ?_); refine v_not ?_; refine r_nil ?_; refine th_n ?_; refine v_cond (fun hb46 => ?_) (fun hb46 => ?_)
          · have hF := bif_t hb46 hF; refine w_seq ?_; refine w_reg ?_; refine v_move ?_; refine r_nil ?_; refine th_n ?_; refine w_ret ?_; refine ib_r ?_; refine th_r ?_; refine th_r ?_; refine ⟨_, (inj hF).symm, .inl ⟨_, rfl, rfl, rfl, ?_⟩⟩; dsimp only
            exact ⟨F27, rfl, le27, st, gA⟩
          · have hF := bif_f hb46 hF; refine w_skip ?_; refine ib_n ?_; refine th_n ?_; refine w_reg ?_; refine v_move ?_; obtain ⟨q47, hF⟩ := ck_some hF; refine v_add q47 ?_; refine v_move ?_; refine r_nil ?_; refine thn ⟨_, (inj hF).symm, rfl, ?_⟩; dsimp only
            exact ⟨F27, rfl, le27, st, gA, gA⟩
        · have hF := bif_f hb41 hF; refine w_exit ?_; refine th_e ?_; refine th_e ?_; refine ⟨_, (inj hF).symm, .inr (⟨_, rfl, rfl, rfl, ?_⟩)⟩; dsimp only
          exact ⟨F27, rfl, le27, st⟩
      · rcases hq with hq | hq
        · obtain ⟨N9, T, ds38⟩ := a; obtain ⟨h49, n50⟩ := σ; obtain ⟨w37, rfl, rfl, e1, F38, e2, le38, st, t4⟩ := hq
          dsimp only at e1 e2
          subst e1
          subst e2
          dsimp only at st t4
          have le48 := PH.le.trans le14 le38
          have hF := sel_l hF; refine ib_r ?_; refine th_r ?_; obtain rfl := inj hF
          exact end_s st (Res.t gA Res.nil) rfl rfl
        · obtain ⟨N9, T, ds40⟩ := a; obtain ⟨h52, n53⟩ := σ; obtain ⟨w39, rfl, rfl, e1, F40, e2, le40, st⟩ := hq
          dsimp only at e1 e2
          subst e1
          subst e2
          dsimp only at st
          have le51 := PH.le.trans le14 le40
          have hF := sel_r hF; refine ib_e ?_; refine th_n ?_; refine w_seq ?_; refine w_reg ?_; refine v_move ?_; refine r_nil ?_; refine th_n ?_; refine w_ret ?_; obtain rfl := inj hF
          exact end_s st (Res.t gA Res.nil) rfl rfl
end Go.Hx.V

/- Functions of the program come to that. -/
namespace Go.Hx.V
open Go.Hx
set_option linter.unusedVariables false
set_option maxRecDepth 20000
set_option maxHeartbeats 4000000
attribute [local irreducible] W R C thenH inBlockH Tr.get Tr.set lo ck bnd ix iter
theorem ct37 (N : Nat) {a0 : (List (Int × Int))} {a1 : (List (Int × Int × Int))} {r : ((List Int) × Int)} (hF : sf37 N a0 a1 = some r) {fl : Nat} {h0 : Tr HBlk} {n0 : Nat} {F0 : PH} (hd : D h0 n0) (hs : F0.sub h0) (hfl : fl ≤ n0) {pa0 : Option (Nat × Nat)} {ca0 : Nat} {pa1 : Option (Nat × Nat)} {ca1 : Nat} (ra0 : RowF (rP rI rI) 2 F0 pa0 ca0 a0) (ra1 : RowF (rP rI (rP rI rI)) 3 F0 pa1 ca1 a1) : C LW fl 37 [(.slice pa0 (a0).length ca0), (.slice pa1 (a1).length ca1)] ⟨h0, n0⟩ (KR (rvT2 (lvL rI 1) lvI) F0 h0 n0 r) := by
  unfold sf37 at hF
  refine in_mT hd hs hfl lw37 rfl rfl (by rfl) (fun st T hT => ?_)
  have t0 := hT 0 _ rfl
  have t1 := hT 1 _ rfl
  dsimp only [L37]
  refine w_seq ?_; refine w_reg ?_; refine v_move ?_; refine v_move ?_; refine r_nil ?_; refine th_n ?_; refine w_seq ?_; refine w_seq ?_; refine w_reg ?_; refine v_move ?_; refine v_move ?_; obtain ⟨v1, e2, hF⟩ := bnd_some hF; refine v_call st (ct67 N e2 st.d st.sub ra0 ra1) (fun n3 st => ?_); refine v_move ?_; refine r_nil ?_; refine th_n ?_; refine w_seq ?_; refine w_reg ?_; refine v_move ?_; refine v_nei ?_; refine r_nil ?_; refine th_n ?_; refine v_cond (fun hb4 => ?_) (fun hb4 => ?_)
  · have hF := bif_t hb4 hF; refine w_seq ?_; refine w_reg ?_; refine v_move ?_; refine v_move ?_; refine v_move ?_; refine r_nil ?_; refine th_n ?_; refine w_ret ?_; refine th_r ?_; obtain rfl := inj hF
    exact end_r st (Res.t gA (Res.t gA Res.nil)) ⟨_, _, rfl, ⟨none, 0, rfl, RowF.nil⟩, rfl⟩
  · have hF := bif_f hb4 hF; refine w_skip ?_; refine th_n ?_; refine w_seq ?_; refine w_reg ?_; refine v_move ?_; refine v_move ?_; obtain ⟨v5, e6, hF⟩ := bnd_some hF; refine v_callR st (ct68 N e6 st.d st.sub (Nat.le_trans hfl st.ext.le) ra0 ra1) (fun u7 F7 h7 n7 le7 rv7 st => ?_); obtain ⟨py8, cy8, rfl, ry8⟩ := rv7; refine v_move ?_; refine v_move ?_; refine r_nil ?_; refine th_n ?_; refine w_ret ?_; obtain rfl := inj hF
    exact end_r st (Res.t gA (Res.t gA Res.nil)) ⟨_, _, rfl, ⟨_, _, rfl, ry8⟩, rfl⟩
theorem ct39 (N : Nat) {a0 : (List (Int × Int))} {a1 : (List (Int × Int × Int))} {r : (Int × (List Int) × Int)} (hF : sf39 N a0 a1 = some r) {fl : Nat} {h0 : Tr HBlk} {n0 : Nat} {F0 : PH} (hd : D h0 n0) (hs : F0.sub h0) (hfl : fl ≤ n0) {pa0 : Option (Nat × Nat)} {ca0 : Nat} {pa1 : Option (Nat × Nat)} {ca1 : Nat} (ra0 : RowF (rP rI rI) 2 F0 pa0 ca0 a0) (ra1 : RowF (rP rI (rP rI rI)) 3 F0 pa1 ca1 a1) : C LW fl 39 [(.slice pa0 (a0).length ca0), (.slice pa1 (a1).length ca1)] ⟨h0, n0⟩ (KR (rvT3 lvI (lvL rI 1) lvI) F0 h0 n0 r) := by
  unfold sf39 at hF
  refine in_mT hd hs hfl lw39 rfl rfl (by rfl) (fun st T hT => ?_)
  have t0 := hT 0 _ rfl
  have t1 := hT 1 _ rfl
  dsimp only [L39]
  refine w_seq ?_; refine w_reg ?_; refine v_move ?_; refine v_move ?_; refine v_move ?_; refine r_nil ?_; refine th_n ?_; refine w_seq ?_; refine w_seq ?_; refine w_reg ?_; refine v_move ?_; refine v_move ?_; obtain ⟨v1, e2, hF⟩ := bnd_some hF; refine v_call st (ct67 N e2 st.d st.sub ra0 ra1) (fun n3 st => ?_); refine v_move ?_; refine r_nil ?_; refine th_n ?_; refine w_seq ?_; refine w_reg ?_; refine v_move ?_; refine v_nei ?_; refine r_nil ?_; refine th_n ?_; refine v_cond (fun hb4 => ?_) (fun hb4 => ?_)
  · have hF := bif_t hb4 hF; refine w_seq ?_; refine w_reg ?_; refine v_move ?_; refine v_move ?_; refine v_move ?_; refine v_move ?_; refine r_nil ?_; refine th_n ?_; refine w_ret ?_; refine th_r ?_; obtain rfl := inj hF
    exact end_r st (Res.t gA (Res.t gA (Res.t gA Res.nil))) ⟨_, _, _, rfl, rfl, ⟨none, 0, rfl, RowF.nil⟩, rfl⟩
  · have hF := bif_f hb4 hF; refine w_skip ?_; refine th_n ?_; refine w_seq ?_; refine w_seq ?_; refine w_reg ?_; refine v_move ?_; refine v_len ?_; refine v_eqi ?_; refine r_nil ?_; refine th_n ?_; refine v_cond (fun hb5 => ?_) (fun hb5 => ?_)
    · have hF := bif_t hb5 hF; refine w_seq ?_; refine w_reg ?_; refine v_move ?_; refine v_move ?_; refine v_move ?_; refine r_nil ?_; refine th_n ?_; refine w_ret ?_; refine th_r ?_; obtain rfl := inj hF
      exact end_r st (Res.t gA (Res.t gA (Res.t gA Res.nil))) ⟨_, _, _, rfl, rfl, ⟨none, 0, rfl, RowF.nil⟩, rfl⟩
    · have hF := bif_f hb5 hF; refine w_skip ?_; refine th_n ?_; refine w_seq ?_; refine w_reg ?_; refine v_move ?_; refine v_move ?_; obtain ⟨v6, e7, hF⟩ := bnd_some hF; refine v_callR st (ct69 N e7 st.d st.sub (Nat.le_trans hfl st.ext.le) ra0 ra1) (fun u8 F8 h8 n8 le8 rv8 st => ?_); obtain ⟨_, _, rfl, rfl, ⟨py9, cy9, rfl, ry9⟩⟩ := rv8; refine v_move ?_; refine v_xt rfl ?_; refine v_xt rfl ?_; refine v_move ?_; refine v_move ?_; refine r_nil ?_; refine th_n ?_; refine w_seq ?_; refine w_reg ?_; refine v_move ?_; refine v_move ?_; refine v_move ?_; refine v_move ?_; refine v_move ?_; refine r_nil ?_; refine th_n ?_; refine w_ret ?_; obtain rfl := inj hF
      exact end_r st (Res.t gA (Res.t gA (Res.t gA Res.nil))) ⟨_, _, _, rfl, rfl, ⟨_, _, rfl, ry9⟩, rfl⟩
end Go.Hx.V

/- Functions of the program come to that. -/
namespace Go.Hx.V
open Go.Hx
set_option linter.unusedVariables false
set_option maxRecDepth 20000
set_option maxHeartbeats 4000000
attribute [local irreducible] W R C thenH inBlockH Tr.get Tr.set lo ck bnd ix iter
end Go.Hx.V

/- Functions of the program come to that. -/
namespace Go.Hx.V
open Go.Hx
set_option linter.unusedVariables false
set_option maxRecDepth 20000
set_option maxHeartbeats 4000000
attribute [local irreducible] W R C thenH inBlockH Tr.get Tr.set lo ck bnd ix iter
theorem ct15 (N : Nat) {a0 : (List (Int × Int))} {a1 : (List (Int × Int × Int))} {a2_0 : Int} {a2_1 : Int} {a2_2 : Int} {a3 : Int} {r : Bool} (hF : sf15 N a0 a1 a2_0 a2_1 a2_2 a3 = some r) {fl : Nat} {h0 : Tr HBlk} {n0 : Nat} {F0 : PH} (hd : D h0 n0) (hs : F0.sub h0) {pa0 : Option (Nat × Nat)} {ca0 : Nat} {pa1 : Option (Nat × Nat)} {ca1 : Nat} (ra0 : RowF (rP rI rI) 2 F0 pa0 ca0 a0) (ra1 : RowF (rP rI (rP rI rI)) 3 F0 pa1 ca1 a1) : C LW fl 15 [(.slice pa0 (a0).length ca0), (.slice pa1 (a1).length ca1), (.agg [(i64 a2_0), (i64 a2_1), (i64 a2_2)]), (.int .u8 a3)] ⟨h0, n0⟩ (KS (.bool r) n0 h0) := by
  unfold sf15 at hF
  refine in_cT hd hs lw15 rfl rfl (by rfl) (fun st T hT => ?_)
  have hfl : n0 ≤ n0 := Nat.le_refl n0
  have t0 := hT 0 _ rfl
  have t1 := hT 1 _ rfl
  have t2 := hT 2 _ rfl
  have t3 := hT 3 _ rfl
  dsimp only [L15]
  refine w_seq ?_; refine w_reg ?_; refine v_box st (fun b1 h2 n3 st => ?_); refine v_move ?_; refine r_nil ?_; refine th_n ?_; refine w_seq ?_; refine w_drawV (Nat.le_trans hfl st.ext.le) (fun dw => ?_); refine y_lay st.d dw (fun hm vw => u_bs (cs := []) rfl pr_nil) (fun done dw => ?_); refine y_pure st.d dw (fun hm vw => v_move pr_nil) ?_; obtain ⟨q4, hF⟩ := ck_some hF
  refine y_own (m := a1.length) (sz := 3) (rel := (rP rI (rP rI rI))) (l := a1) st dw rfl (fun hm vw => u_app (m := a1.length) (cx := ca1) st vw (vw.vis _ (List.mem_cons_self ..) rfl _ _ (if_pos rfl)) (by have := dw.le; omega) (Nat.le_trans hfl st.ext.le) ra1 q4 (by decide) rfl) (fun o4 c4 cs4 n4 done G4 hn4 dw ok4 gb4 w4 => ?_)
  refine y_pure st.d dw (fun hm vw => v_ldn (vs := [(i64 a2_0), (i64 a2_1), (i64 a2_2)]) (vw.bx (st.at (i := 0) rfl)) rfl pr_nil) ?_; refine y_lay st.d dw (fun hm vw => u_bs (cs := [(i64 a2_0), (i64 a2_1), (i64 a2_2)]) rfl pr_nil) (fun done dw => ?_); refine y_end st.d dw rfl (fun h5 ex vs => ?_)
  have sto := st
  have st := St.laid st ex (Lay.cons (b := n4) (cs := [(i64 a2_0), (i64 a2_1), (i64 a2_2)]) (by have := dw.le; omega) (vs _ (List.mem_cons_self ..) _ _ (if_pos rfl)) (Lay.nil (by have := dw.le; omega)))
  have st := St.ownB (G := G4) sto st (ok4 _ _ (vs _ (List.mem_cons_of_mem _ (List.mem_cons_self ..))) (by have := dw.le; omega)) gb4 (by intro e he; simp only [List.mem_cons, List.not_mem_nil, or_false] at he; rcases he with rfl <;> exact Dw.not dw (by first | exact .inl (by first | exact List.Sublist.refl _ | (repeat first | exact List.nil_sublist _ | refine List.Sublist.cons_cons _ ?_ | refine List.Sublist.cons _ ?_)) | exact .inr (by first | exact List.Sublist.refl _ | (repeat first | exact List.nil_sublist _ | refine List.Sublist.cons_cons _ ?_ | refine List.Sublist.cons _ ?_))))
  obtain ⟨q6, hF⟩ := ck_some hF
  have w6 : LR (rP rI (rP rI rI)) 3 F0 (a1 ++ [(a2_0, a2_1, a2_2)]) (cs4 ++ [(i64 a2_0), (i64 a2_1), (i64 a2_2)]) := LR.app w4 (LR.one (⟨[(i64 a2_0)], [(i64 a2_1), (i64 a2_2)], rfl, rfl, ⟨[(i64 a2_1)], [(i64 a2_2)], rfl, rfl, rfl⟩⟩))
  refine v_aps (n := 1) (ox := 0) (m := (a1 ++ [(a2_0, a2_1, a2_2)]).length) (row := [(i64 a2_0), (i64 a2_1), (i64 a2_2)]) st 2 rfl w4.1 (st.at (i := 1) rfl).2.2 rfl rfl q6 hfl (by decide) (by decide) (by simp) (fun o6 c6 h6 n6 st => ?_)
  refine v_move ?_; refine r_nil ?_; refine th_n ?_; refine w_gen (fun T => T.get 0 = some (.slice pa0 (a0).length ca0) ∧ T.get 1 = some (.slice pa1 (a1).length ca1) ∧ T.get 3 = some (.int .u8 a3) ∧ T.get 9 = some (slv o6 ((a1 ++ [(a2_0, a2_1, a2_2)])).length c6) ∧ True) ⟨gA, gA, gA, gA, trivial⟩ (fun T hp => ?_); obtain ⟨g1_0, g1_1, g1_3, g1_9, -⟩ := hp; obtain ⟨y23, hA24, hF⟩ := bnd_some hF; refine w_cutD (fun T ds29 h nx => ∃ u, y23 = (.inr u) ∧ ∃ (F29 : PH), ds29 = [] ∧ PH.le F0 F29 ∧ St n0 h0 F0 F29 h nx [.bx b1 [(i64 a2_0), (i64 a2_1), (i64 a2_2)], .bx n4 [(i64 a2_0), (i64 a2_1), (i64 a2_2)], .ls o6 c6 (cs4 ++ [(i64 a2_0), (i64 a2_1), (i64 a2_2)]) 3] ∧ T.get 0 = some (.slice pa0 (a0).length ca0) ∧ T.get 1 = some (.slice pa1 (a1).length ca1) ∧ T.get 3 = some (.int .u8 a3) ∧ T.get 9 = some (slv o6 ((a1 ++ [(a2_0, a2_1, a2_2)])).length c6)) ?_ (fun T ds29 h nx hp => ?_)
  · have hK25 := hF
    have hF := hA24; obtain ⟨y35, hA36, hF⟩ := bnd_some hF; refine w_cutD (fun T ds38 h nx => ∃ (F38 : PH), ds38 = [] ∧ PH.le F0 F38 ∧ St n0 h0 F0 F38 h nx [.bx b1 [(i64 a2_0), (i64 a2_1), (i64 a2_2)], .bx n4 [(i64 a2_0), (i64 a2_1), (i64 a2_2)], .ls o6 c6 (cs4 ++ [(i64 a2_0), (i64 a2_1), (i64 a2_2)]) 3] ∧ T.get 0 = some (.slice pa0 (a0).length ca0) ∧ T.get 1 = some (.slice pa1 (a1).length ca1) ∧ T.get 3 = some (.int .u8 a3) ∧ T.get 9 = some (slv o6 ((a1 ++ [(a2_0, a2_1, a2_2)])).length c6) ∧ T.get 55 = some (.bool y35)) ?_ (fun T ds38 h nx hp => ?_)
    · have hK37 := hF
      have hF := hA36; refine w_reg ?_; refine v_move ?_; refine v_len ?_; refine v_eqi ?_; refine v_move ?_
      rcases Bool.eq_false_or_eq_true (decide (((a0).length : Int) = (0 : Int))) with hb39 | hb39
      · have hF := bif_t hb39 hF; refine g_skip hb39 ?_; refine g_skip hb39 ?_; refine g_skip hb39 ?_; refine v_pick hb39 ?_; refine v_move ?_; refine g_skip rfl ?_; refine g_skip rfl ?_; refine g_skip rfl ?_; refine g_skip rfl ?_; refine v_pick rfl ?_; refine r_nil ?_; obtain rfl := inj hF; refine thn ⟨rfl, ?_⟩; dsimp only
        exact ⟨F0, rfl, (PH.le.refl _), st, gA, gA, gA, gA, gA⟩
      · have hF := bif_f hb39 hF; refine g_take hb39 (v_move ?_); refine g_take hb39 (v_len ?_); refine g_take hb39 (v_gtr ?_); refine v_pick' hb39 ?_; refine v_move ?_
        rcases Bool.eq_false_or_eq_true (decide ((11 : Int) < ((a1).length : Int))) with hb40 | hb40
        · have hF := bif_t hb40 hF; refine g_skip hb40 ?_; refine g_skip hb40 ?_; refine g_skip hb40 ?_; refine g_skip hb40 ?_; refine v_pick hb40 ?_; refine r_nil ?_; obtain rfl := inj hF; refine thn ⟨rfl, ?_⟩; dsimp only
          exact ⟨F0, rfl, (PH.le.refl _), st, gA, gA, gA, gA, gA⟩
        · have hF := bif_f hb40 hF; refine g_take hb40 (v_move ?_); refine g_take hb40 (v_move ?_); obtain ⟨v41, e42, hF⟩ := bnd_some hF
          refine g_take hb40 (v_call st (ct40 N e42 st.d (all_sub _) (RowF.mono st.all_le ra0) (st.row_all (i := 2) rfl w6 (by decide))) (fun n43 st => ?_))
          refine g_take hb40 (v_nei ?_); refine v_pick' hb40 ?_; refine r_nil ?_; obtain rfl := inj hF; refine thn ⟨rfl, ?_⟩; dsimp only
          exact ⟨F0, rfl, (PH.le.refl _), st, gA, gA, gA, gA, gA⟩
    · obtain ⟨F38, rfl, le38, st, t0, t1, t3, t9, t55⟩ := hp; refine v_cond (fun hb44 => ?_) (fun hb44 => ?_)
      · have hF := bif_t hb44 hF; refine w_seq ?_; refine w_reg ?_; refine v_call st (ct_wakes (h := _) (nx := _)) (fun n45 st => ?_); refine v_move ?_; refine r_nil ?_; refine th_n ?_; refine w_ret ?_; obtain rfl := inj hF; have hF := hK25; have hF := sel_l hF; refine th_r ?_; obtain rfl := inj hF
        exact end_s st (Res.t gA Res.nil) rfl rfl
      · have hF := bif_f hb44 hF; refine w_skip ?_; obtain rfl := inj hF; refine thn ⟨rfl, _, rfl, ?_⟩; dsimp only
        exact ⟨F38, rfl, le38, st, gA, gA, gA, gA⟩
  · obtain ⟨w28, rfl, F29, rfl, le29, st, t0, t1, t3, t9⟩ := hp; have hF := sel_r hF; refine w_seq ?_; refine w_reg ?_; refine v_move ?_; obtain ⟨q46, hF⟩ := ck_some hF; refine v_conv q46 ?_; refine v_move ?_; refine v_len ?_; obtain ⟨q47, hF⟩ := ck_some hF; refine v_rem q47 ?_; refine v_move ?_; refine r_nil ?_; refine th_n ?_; refine w_gen (fun T => T.get 0 = some (.slice pa0 (a0).length ca0) ∧ T.get 1 = some (.slice pa1 (a1).length ca1) ∧ T.get 9 = some (slv o6 ((a1 ++ [(a2_0, a2_1, a2_2)])).length c6) ∧ T.get 10 = some (i64 (Int.tmod a3 (((a1 ++ [(a2_0, a2_1, a2_2)])).length : Int))) ∧ True) ⟨gA, gA, gA, gA, trivial⟩ (fun T hp => ?_); obtain ⟨g2_0, g2_1, g2_9, g2_10, -⟩ := hp
    clear g1_0 g1_1 g1_3 g1_9
    refine w_seq ?_
    obtain ⟨F48, le48, st, rf48⟩ := St.freeze st 2 rfl (LR.mono le29 w6) (by decide)
    have le49 := PH.le.trans le29 le48
    refine w_drawV (Nat.le_trans hfl st.ext.le) (fun dw => ?_); refine y_lay st.d dw (fun hm vw => u_bs (cs := []) rfl pr_nil) (fun done dw => ?_); refine y_pure st.d dw (fun hm vw => v_move pr_nil) ?_; refine y_pure st.d dw (fun hm vw => v_move pr_nil) ?_; obtain ⟨q50, hF⟩ := ck_some hF
    refine y_step st.d dw rfl rfl (fun hm vw => v_slf (m := (((a1 ++ [(a2_0, a2_1, a2_2)]).drop (Int.toNat (Int.tmod a3 (((a1 ++ [(a2_0, a2_1, a2_2)])).length : Int)))).take ((a1 ++ [(a2_0, a2_1, a2_2)]).length - (Int.toNat (Int.tmod a3 (((a1 ++ [(a2_0, a2_1, a2_2)])).length : Int))))).length) (Int.toNat (Int.tmod a3 (((a1 ++ [(a2_0, a2_1, a2_2)])).length : Int))) (a1 ++ [(a2_0, a2_1, a2_2)]).length rf48 (bd_some (by first | exact ev_c | (apply ev_t; repeat first | exact ge_h | refine ge_w rfl ?_ | refine ge_f rfl ?_ | refine ge_m rfl ?_ | assumption)) (Int.toNat_of_nonneg q50.1).symm) bd_none q50.2.2 (sl_len q50.2.2.2) (fun p50 c50 n51 hn' rs50 => r_nil (y_call dw hn' vw.d (fun dw => ?_))))
    obtain ⟨q52, hF⟩ := ck_some hF
    refine y_own (m := (((a1 ++ [(a2_0, a2_1, a2_2)]).drop (Int.toNat (Int.tmod a3 (((a1 ++ [(a2_0, a2_1, a2_2)])).length : Int)))).take ((a1 ++ [(a2_0, a2_1, a2_2)]).length - (Int.toNat (Int.tmod a3 (((a1 ++ [(a2_0, a2_1, a2_2)])).length : Int))))).length) (sz := 3) (rel := (rP rI (rP rI rI))) (l := (((a1 ++ [(a2_0, a2_1, a2_2)]).drop (Int.toNat (Int.tmod a3 (((a1 ++ [(a2_0, a2_1, a2_2)])).length : Int)))).take ((a1 ++ [(a2_0, a2_1, a2_2)]).length - (Int.toNat (Int.tmod a3 (((a1 ++ [(a2_0, a2_1, a2_2)])).length : Int)))))) st dw rfl (fun hm vw => u_app (m := (((a1 ++ [(a2_0, a2_1, a2_2)]).drop (Int.toNat (Int.tmod a3 (((a1 ++ [(a2_0, a2_1, a2_2)])).length : Int)))).take ((a1 ++ [(a2_0, a2_1, a2_2)]).length - (Int.toNat (Int.tmod a3 (((a1 ++ [(a2_0, a2_1, a2_2)])).length : Int))))).length) (cx := c50) st vw (vw.vis _ (List.mem_cons_self ..) rfl _ _ (if_pos rfl)) (by have := dw.le; omega) (Nat.le_trans hfl st.ext.le) rs50 q52 (by decide) rfl) (fun o52 c52 cs52 n52 done G52 hn52 dw ok52 gb52 w52 => ?_)
    refine y_pure st.d dw (fun hm vw => v_move pr_nil) ?_; refine y_pure st.d dw (fun hm vw => v_move pr_nil) ?_; obtain ⟨q53, hF⟩ := ck_some hF
    refine y_step st.d dw rfl rfl (fun hm vw => v_slf (m := (((a1 ++ [(a2_0, a2_1, a2_2)]).drop 0).take ((Int.toNat (Int.tmod a3 (((a1 ++ [(a2_0, a2_1, a2_2)])).length : Int))) - 0)).length) 0 (Int.toNat (Int.tmod a3 (((a1 ++ [(a2_0, a2_1, a2_2)])).length : Int))) rf48 bd_none (bd_some (by first | exact ev_c | (apply ev_t; repeat first | exact ge_h | refine ge_w rfl ?_ | refine ge_f rfl ?_ | refine ge_m rfl ?_ | assumption)) (Int.toNat_of_nonneg q53.2.1).symm) q53.2.2 (sl_len q53.2.2.2) (fun p53 c53 n54 hn' rs53 => r_nil (y_call dw hn' vw.d (fun dw => ?_))))
    refine y_end st.d dw rfl (fun h55 ex vs => ?_)
    have sto := st
    have st := St.laid st ex (Lay.nil (by have := dw.le; omega))
    have st := St.ownB (G := G52) sto st (ok52 _ _ (vs _ (List.mem_cons_self ..)) (by have := dw.le; omega)) gb52 (fun e he => by cases he)
    obtain ⟨q56, hF⟩ := ck_some hF
    refine v_apr (m := ((((a1 ++ [(a2_0, a2_1, a2_2)]).drop (Int.toNat (Int.tmod a3 (((a1 ++ [(a2_0, a2_1, a2_2)])).length : Int)))).take ((a1 ++ [(a2_0, a2_1, a2_2)]).length - (Int.toNat (Int.tmod a3 (((a1 ++ [(a2_0, a2_1, a2_2)])).length : Int))))) ++ (((a1 ++ [(a2_0, a2_1, a2_2)]).drop 0).take ((Int.toNat (Int.tmod a3 (((a1 ++ [(a2_0, a2_1, a2_2)])).length : Int))) - 0))).length) st 2 rfl w52 rs53 q56 hfl (by decide) (by simp) (fun o56 c56 cs56 h56 n56 st w56 => ?_)
    refine v_move ?_; refine r_nil ?_; refine th_n ?_; refine w_gen (fun T => T.get 0 = some (.slice pa0 (a0).length ca0) ∧ T.get 1 = some (.slice pa1 (a1).length ca1) ∧ T.get 9 = some (.slice (o6.map fun b => (b, 0)) ((a1 ++ [(a2_0, a2_1, a2_2)])).length c6) ∧ T.get 11 = some (slv o56 (((((a1 ++ [(a2_0, a2_1, a2_2)]).drop (Int.toNat (Int.tmod a3 (((a1 ++ [(a2_0, a2_1, a2_2)])).length : Int)))).take ((a1 ++ [(a2_0, a2_1, a2_2)]).length - (Int.toNat (Int.tmod a3 (((a1 ++ [(a2_0, a2_1, a2_2)])).length : Int))))) ++ (((a1 ++ [(a2_0, a2_1, a2_2)]).drop 0).take ((Int.toNat (Int.tmod a3 (((a1 ++ [(a2_0, a2_1, a2_2)])).length : Int))) - 0)))).length c56) ∧ True) ⟨gA, gA, gA, gA, trivial⟩ (fun T hp => ?_)
    obtain ⟨g3_0, g3_1, g3_9, g3_11, -⟩ := hp
    clear g2_0 g2_1 g2_9 g2_10
    refine w_seq ?_; refine w_reg ?_; refine v_move ?_; obtain ⟨v57, e58, hF⟩ := bnd_some hF; refine v_callR st (ct25 N e58 st.d st.sub (Nat.le_trans hfl st.ext.le) (RowF.mono le49 ra0)) (fun u59 F59 h59 n59 le59 rv59 st => ?_)
    have le60 := PH.le.trans le49 le59
    have le61 := PH.le.trans le48 le59
    obtain ⟨py62, cy62, rfl, ry62⟩ := rv59; refine v_move ?_; obtain ⟨v63, e64, hF⟩ := bnd_some hF; refine v_callR st (ct38 N e64 st.d st.sub (Nat.le_trans hfl st.ext.le) (RowF.mono le60 ra1)) (fun u65 F65 h65 n65 le65 rv65 st => ?_)
    have le66 := PH.le.trans le60 le65
    have le67 := PH.le.trans le61 le65
    have le68 := PH.le.trans le59 le65
    obtain ⟨py69, cy69, rfl, ry69⟩ := rv65; obtain ⟨v70, e71, hF⟩ := bnd_some hF; refine v_callR st (ct37 N e71 st.d st.sub (Nat.le_trans hfl st.ext.le) (RowF.mono le65 ry62) ry69) (fun u72 F72 h72 n72 le72 rv72 st => ?_)
    have le73 := PH.le.trans le66 le72
    have le74 := PH.le.trans le67 le72
    have le75 := PH.le.trans le68 le72
    have le76 := PH.le.trans le65 le72
    obtain ⟨_, _, rfl, ⟨py77, cy77, rfl, ry77⟩, rfl⟩ := rv72; refine v_move ?_; refine v_xt rfl ?_; refine v_xt rfl ?_; refine v_move ?_; refine v_move ?_; refine r_nil ?_; refine th_n ?_; refine w_gen (fun T => T.get 0 = some (.slice pa0 (a0).length ca0) ∧ T.get 1 = some (.slice pa1 (a1).length ca1) ∧ T.get 9 = some (.slice (o6.map fun b => (b, 0)) ((a1 ++ [(a2_0, a2_1, a2_2)])).length c6) ∧ T.get 11 = some (slv o56 (((((a1 ++ [(a2_0, a2_1, a2_2)]).drop (Int.toNat (Int.tmod a3 (((a1 ++ [(a2_0, a2_1, a2_2)])).length : Int)))).take ((a1 ++ [(a2_0, a2_1, a2_2)]).length - (Int.toNat (Int.tmod a3 (((a1 ++ [(a2_0, a2_1, a2_2)])).length : Int))))) ++ (((a1 ++ [(a2_0, a2_1, a2_2)]).drop 0).take ((Int.toNat (Int.tmod a3 (((a1 ++ [(a2_0, a2_1, a2_2)])).length : Int))) - 0)))).length c56) ∧ T.get 12 = some (.slice py77 (v70.1).length cy77) ∧ T.get 13 = some (i64 v70.2) ∧ True) ⟨gA, gA, gA, gA, gA, gA, trivial⟩ (fun T hp => ?_)
    obtain ⟨g4_0, g4_1, g4_9, g4_11, g4_12, g4_13, -⟩ := hp
    clear g3_0 g3_1 g3_9 g3_11
    refine w_seq ?_; refine w_reg ?_; refine v_move ?_; obtain ⟨v78, e79, hF⟩ := bnd_some hF; refine v_callR st (ct25 N e79 st.d st.sub (Nat.le_trans hfl st.ext.le) (RowF.mono le73 ra0)) (fun u80 F80 h80 n80 le80 rv80 st => ?_)
    have le81 := PH.le.trans le73 le80
    have le82 := PH.le.trans le74 le80
    have le83 := PH.le.trans le75 le80
    have le84 := PH.le.trans le76 le80
    have le85 := PH.le.trans le72 le80
    obtain ⟨py86, cy86, rfl, ry86⟩ := rv80; refine v_move ?_; obtain ⟨v87, e88, hF⟩ := bnd_some hF; refine v_callR st (ct38 N e88 st.d st.sub (Nat.le_trans hfl st.ext.le) (RowF.mono le83 rf48)) (fun u89 F89 h89 n89 le89 rv89 st => ?_)
    have le90 := PH.le.trans le81 le89
    have le91 := PH.le.trans le82 le89
    have le92 := PH.le.trans le83 le89
    have le93 := PH.le.trans le84 le89
    have le94 := PH.le.trans le85 le89
    have le95 := PH.le.trans le80 le89
    obtain ⟨py96, cy96, rfl, ry96⟩ := rv89; obtain ⟨v97, e98, hF⟩ := bnd_some hF; refine v_callR st (ct37 N e98 st.d st.sub (Nat.le_trans hfl st.ext.le) (RowF.mono le89 ry86) ry96) (fun u99 F99 h99 n99 le99 rv99 st => ?_)
    have le100 := PH.le.trans le90 le99
    have le101 := PH.le.trans le91 le99
    have le102 := PH.le.trans le92 le99
    have le103 := PH.le.trans le93 le99
    have le104 := PH.le.trans le94 le99
    have le105 := PH.le.trans le95 le99
    have le106 := PH.le.trans le89 le99
    obtain ⟨_, _, rfl, ⟨py107, cy107, rfl, ry107⟩, rfl⟩ := rv99; refine v_move ?_; refine v_xt rfl ?_; refine v_xt rfl ?_; refine v_move ?_; refine v_move ?_; refine r_nil ?_; refine th_n ?_; refine w_gen (fun T => T.get 0 = some (.slice pa0 (a0).length ca0) ∧ T.get 1 = some (.slice pa1 (a1).length ca1) ∧ T.get 9 = some (.slice (o6.map fun b => (b, 0)) ((a1 ++ [(a2_0, a2_1, a2_2)])).length c6) ∧ T.get 11 = some (slv o56 (((((a1 ++ [(a2_0, a2_1, a2_2)]).drop (Int.toNat (Int.tmod a3 (((a1 ++ [(a2_0, a2_1, a2_2)])).length : Int)))).take ((a1 ++ [(a2_0, a2_1, a2_2)]).length - (Int.toNat (Int.tmod a3 (((a1 ++ [(a2_0, a2_1, a2_2)])).length : Int))))) ++ (((a1 ++ [(a2_0, a2_1, a2_2)]).drop 0).take ((Int.toNat (Int.tmod a3 (((a1 ++ [(a2_0, a2_1, a2_2)])).length : Int))) - 0)))).length c56) ∧ T.get 12 = some (.slice py77 (v70.1).length cy77) ∧ T.get 13 = some (i64 v70.2) ∧ T.get 14 = some (.slice py107 (v97.1).length cy107) ∧ T.get 15 = some (i64 v97.2) ∧ True) ⟨gA, gA, gA, gA, gA, gA, gA, gA, trivial⟩ (fun T hp => ?_)
    obtain ⟨g5_0, g5_1, g5_9, g5_11, g5_12, g5_13, g5_14, g5_15, -⟩ := hp
    clear g4_0 g4_1 g4_9 g4_11 g4_12 g4_13
    refine w_seq ?_; refine w_reg ?_; refine v_move ?_; obtain ⟨v108, e109, hF⟩ := bnd_some hF; refine v_callR st (ct25 N e109 st.d st.sub (Nat.le_trans hfl st.ext.le) (RowF.mono le100 ra0)) (fun u110 F110 h110 n110 le110 rv110 st => ?_)
    have le111 := PH.le.trans le100 le110
    have le112 := PH.le.trans le101 le110
    have le113 := PH.le.trans le102 le110
    have le114 := PH.le.trans le103 le110
    have le115 := PH.le.trans le104 le110
    have le116 := PH.le.trans le105 le110
    have le117 := PH.le.trans le106 le110
    have le118 := PH.le.trans le99 le110
    obtain ⟨py119, cy119, rfl, ry119⟩ := rv110; refine v_move ?_; obtain ⟨v120, e121, hF⟩ := bnd_some hF
    obtain ⟨F122, le122, st, rf122⟩ := St.freeze st 2 rfl (LR.mono le113 w56) (by decide)
    have le123 := PH.le.trans le111 le122
    have le124 := PH.le.trans le112 le122
    have le125 := PH.le.trans le113 le122
    have le126 := PH.le.trans le114 le122
    have le127 := PH.le.trans le115 le122
    have le128 := PH.le.trans le116 le122
    have le129 := PH.le.trans le117 le122
    have le130 := PH.le.trans le118 le122
    have le131 := PH.le.trans le110 le122
    refine v_callR st (ct38 N e121 st.d st.sub (Nat.le_trans hfl st.ext.le) rf122) (fun u132 F132 h132 n132 le132 rv132 st => ?_)
    have le133 := PH.le.trans le123 le132
    have le134 := PH.le.trans le124 le132
    have le135 := PH.le.trans le125 le132
    have le136 := PH.le.trans le126 le132
    have le137 := PH.le.trans le127 le132
    have le138 := PH.le.trans le128 le132
    have le139 := PH.le.trans le129 le132
    have le140 := PH.le.trans le130 le132
    have le141 := PH.le.trans le131 le132
    have le142 := PH.le.trans le122 le132
    obtain ⟨py143, cy143, rfl, ry143⟩ := rv132; obtain ⟨v144, e145, hF⟩ := bnd_some hF; refine v_callR st (ct37 N e145 st.d st.sub (Nat.le_trans hfl st.ext.le) (RowF.mono le142 ry119) ry143) (fun u146 F146 h146 n146 le146 rv146 st => ?_)
    have le147 := PH.le.trans le133 le146
    have le148 := PH.le.trans le134 le146
    have le149 := PH.le.trans le135 le146
    have le150 := PH.le.trans le136 le146
    have le151 := PH.le.trans le137 le146
    have le152 := PH.le.trans le138 le146
    have le153 := PH.le.trans le139 le146
    have le154 := PH.le.trans le140 le146
    have le155 := PH.le.trans le141 le146
    have le156 := PH.le.trans le142 le146
    have le157 := PH.le.trans le132 le146
    obtain ⟨_, _, rfl, ⟨py158, cy158, rfl, ry158⟩, rfl⟩ := rv146; refine v_move ?_; refine v_xt rfl ?_; refine v_xt rfl ?_; refine v_move ?_; refine v_move ?_; refine r_nil ?_; refine th_n ?_; refine w_gen (fun T => T.get 0 = some (.slice pa0 (a0).length ca0) ∧ T.get 1 = some (.slice pa1 (a1).length ca1) ∧ T.get 9 = some (.slice (o6.map fun b => (b, 0)) ((a1 ++ [(a2_0, a2_1, a2_2)])).length c6) ∧ T.get 11 = some (.slice (o56.map fun b => (b, 0)) (((((a1 ++ [(a2_0, a2_1, a2_2)]).drop (Int.toNat (Int.tmod a3 (((a1 ++ [(a2_0, a2_1, a2_2)])).length : Int)))).take ((a1 ++ [(a2_0, a2_1, a2_2)]).length - (Int.toNat (Int.tmod a3 (((a1 ++ [(a2_0, a2_1, a2_2)])).length : Int))))) ++ (((a1 ++ [(a2_0, a2_1, a2_2)]).drop 0).take ((Int.toNat (Int.tmod a3 (((a1 ++ [(a2_0, a2_1, a2_2)])).length : Int))) - 0)))).length c56) ∧ T.get 12 = some (.slice py77 (v70.1).length cy77) ∧ T.get 13 = some (i64 v70.2) ∧ T.get 14 = some (.slice py107 (v97.1).length cy107) ∧ T.get 15 = some (i64 v97.2) ∧ T.get 16 = some (.slice py158 (v144.1).length cy158) ∧ T.get 17 = some (i64 v144.2) ∧ True) ⟨gA, gA, gA, gA, gA, gA, gA, gA, gA, gA, trivial⟩ (fun T hp => ?_)
    obtain ⟨g6_0, g6_1, g6_9, g6_11, g6_12, g6_13, g6_14, g6_15, g6_16, g6_17, -⟩ := hp
    clear g5_0 g5_1 g5_9 g5_11 g5_12 g5_13 g5_14 g5_15
    refine w_seq ?_; refine w_reg ?_; refine v_move ?_; obtain ⟨v159, e160, hF⟩ := bnd_some hF; refine v_callR st (ct25 N e160 st.d st.sub (Nat.le_trans hfl st.ext.le) (RowF.mono le147 ra0)) (fun u161 F161 h161 n161 le161 rv161 st => ?_)
    have le162 := PH.le.trans le147 le161
    have le163 := PH.le.trans le148 le161
    have le164 := PH.le.trans le149 le161
    have le165 := PH.le.trans le150 le161
    have le166 := PH.le.trans le151 le161
    have le167 := PH.le.trans le152 le161
    have le168 := PH.le.trans le153 le161
    have le169 := PH.le.trans le154 le161
    have le170 := PH.le.trans le155 le161
    have le171 := PH.le.trans le156 le161
    have le172 := PH.le.trans le157 le161
    have le173 := PH.le.trans le146 le161
    obtain ⟨py174, cy174, rfl, ry174⟩ := rv161; refine v_move ?_; obtain ⟨v175, e176, hF⟩ := bnd_some hF; refine v_callR st (ct38 N e176 st.d st.sub (Nat.le_trans hfl st.ext.le) (RowF.mono le162 ra1)) (fun u177 F177 h177 n177 le177 rv177 st => ?_)
    have le178 := PH.le.trans le162 le177
    have le179 := PH.le.trans le163 le177
    have le180 := PH.le.trans le164 le177
    have le181 := PH.le.trans le165 le177
    have le182 := PH.le.trans le166 le177
    have le183 := PH.le.trans le167 le177
    have le184 := PH.le.trans le168 le177
    have le185 := PH.le.trans le169 le177
    have le186 := PH.le.trans le170 le177
    have le187 := PH.le.trans le171 le177
    have le188 := PH.le.trans le172 le177
    have le189 := PH.le.trans le173 le177
    have le190 := PH.le.trans le161 le177
    obtain ⟨py191, cy191, rfl, ry191⟩ := rv177; obtain ⟨v192, e193, hF⟩ := bnd_some hF; refine v_callR st (ct39 N e193 st.d st.sub (Nat.le_trans hfl st.ext.le) (RowF.mono le177 ry174) ry191) (fun u194 F194 h194 n194 le194 rv194 st => ?_)
    have le195 := PH.le.trans le178 le194
    have le196 := PH.le.trans le179 le194
    have le197 := PH.le.trans le180 le194
    have le198 := PH.le.trans le181 le194
    have le199 := PH.le.trans le182 le194
    have le200 := PH.le.trans le183 le194
    have le201 := PH.le.trans le184 le194
    have le202 := PH.le.trans le185 le194
    have le203 := PH.le.trans le186 le194
    have le204 := PH.le.trans le187 le194
    have le205 := PH.le.trans le188 le194
    have le206 := PH.le.trans le189 le194
    have le207 := PH.le.trans le190 le194
    have le208 := PH.le.trans le177 le194
    obtain ⟨_, _, _, rfl, rfl, ⟨py209, cy209, rfl, ry209⟩, rfl⟩ := rv194; refine v_move ?_; refine v_xt rfl ?_; refine v_xt rfl ?_; refine v_xt rfl ?_; refine v_move ?_; refine v_move ?_; refine v_move ?_; refine r_nil ?_; refine th_n ?_; refine w_gen (fun T => T.get 0 = some (.slice pa0 (a0).length ca0) ∧ T.get 9 = some (.slice (o6.map fun b => (b, 0)) ((a1 ++ [(a2_0, a2_1, a2_2)])).length c6) ∧ T.get 11 = some (.slice (o56.map fun b => (b, 0)) (((((a1 ++ [(a2_0, a2_1, a2_2)]).drop (Int.toNat (Int.tmod a3 (((a1 ++ [(a2_0, a2_1, a2_2)])).length : Int)))).take ((a1 ++ [(a2_0, a2_1, a2_2)]).length - (Int.toNat (Int.tmod a3 (((a1 ++ [(a2_0, a2_1, a2_2)])).length : Int))))) ++ (((a1 ++ [(a2_0, a2_1, a2_2)]).drop 0).take ((Int.toNat (Int.tmod a3 (((a1 ++ [(a2_0, a2_1, a2_2)])).length : Int))) - 0)))).length c56) ∧ T.get 12 = some (.slice py77 (v70.1).length cy77) ∧ T.get 13 = some (i64 v70.2) ∧ T.get 14 = some (.slice py107 (v97.1).length cy107) ∧ T.get 15 = some (i64 v97.2) ∧ T.get 16 = some (.slice py158 (v144.1).length cy158) ∧ T.get 17 = some (i64 v144.2) ∧ T.get 19 = some (.slice py209 (v192.2.1).length cy209) ∧ T.get 20 = some (i64 v192.2.2) ∧ True) ⟨gA, gA, gA, gA, gA, gA, gA, gA, gA, gA, gA, trivial⟩ (fun T hp => ?_)
    obtain ⟨g7_0, g7_9, g7_11, g7_12, g7_13, g7_14, g7_15, g7_16, g7_17, g7_19, g7_20, -⟩ := hp
    clear g6_0 g6_1 g6_9 g6_11 g6_12 g6_13 g6_14 g6_15 g6_16 g6_17
    refine w_seq ?_; refine w_reg ?_; refine v_move ?_; obtain ⟨v210, e211, hF⟩ := bnd_some hF; refine v_callR st (ct25 N e211 st.d st.sub (Nat.le_trans hfl st.ext.le) (RowF.mono le195 ra0)) (fun u212 F212 h212 n212 le212 rv212 st => ?_)
    have le213 := PH.le.trans le195 le212
    have le214 := PH.le.trans le196 le212
    have le215 := PH.le.trans le197 le212
    have le216 := PH.le.trans le198 le212
    have le217 := PH.le.trans le199 le212
    have le218 := PH.le.trans le200 le212
    have le219 := PH.le.trans le201 le212
    have le220 := PH.le.trans le202 le212
    have le221 := PH.le.trans le203 le212
    have le222 := PH.le.trans le204 le212
    have le223 := PH.le.trans le205 le212
    have le224 := PH.le.trans le206 le212
    have le225 := PH.le.trans le207 le212
    have le226 := PH.le.trans le208 le212
    have le227 := PH.le.trans le194 le212
    obtain ⟨py228, cy228, rfl, ry228⟩ := rv212; refine v_move ?_; obtain ⟨v229, e230, hF⟩ := bnd_some hF; refine v_callR st (ct38 N e230 st.d st.sub (Nat.le_trans hfl st.ext.le) (RowF.mono le215 rf48)) (fun u231 F231 h231 n231 le231 rv231 st => ?_)
    have le232 := PH.le.trans le213 le231
    have le233 := PH.le.trans le214 le231
    have le234 := PH.le.trans le215 le231
    have le235 := PH.le.trans le216 le231
    have le236 := PH.le.trans le217 le231
    have le237 := PH.le.trans le218 le231
    have le238 := PH.le.trans le219 le231
    have le239 := PH.le.trans le220 le231
    have le240 := PH.le.trans le221 le231
    have le241 := PH.le.trans le222 le231
    have le242 := PH.le.trans le223 le231
    have le243 := PH.le.trans le224 le231
    have le244 := PH.le.trans le225 le231
    have le245 := PH.le.trans le226 le231
    have le246 := PH.le.trans le227 le231
    have le247 := PH.le.trans le212 le231
    obtain ⟨py248, cy248, rfl, ry248⟩ := rv231; obtain ⟨v249, e250, hF⟩ := bnd_some hF; refine v_callR st (ct39 N e250 st.d st.sub (Nat.le_trans hfl st.ext.le) (RowF.mono le231 ry228) ry248) (fun u251 F251 h251 n251 le251 rv251 st => ?_)
    have le252 := PH.le.trans le232 le251
    have le253 := PH.le.trans le233 le251
    have le254 := PH.le.trans le234 le251
    have le255 := PH.le.trans le235 le251
    have le256 := PH.le.trans le236 le251
    have le257 := PH.le.trans le237 le251
    have le258 := PH.le.trans le238 le251
    have le259 := PH.le.trans le239 le251
    have le260 := PH.le.trans le240 le251
    have le261 := PH.le.trans le241 le251
    have le262 := PH.le.trans le242 le251
    have le263 := PH.le.trans le243 le251
    have le264 := PH.le.trans le244 le251
    have le265 := PH.le.trans le245 le251
    have le266 := PH.le.trans le246 le251
    have le267 := PH.le.trans le247 le251
    have le268 := PH.le.trans le231 le251
    obtain ⟨_, _, _, rfl, rfl, ⟨py269, cy269, rfl, ry269⟩, rfl⟩ := rv251; refine v_move ?_; refine v_xt rfl ?_; refine v_xt rfl ?_; refine v_xt rfl ?_; refine v_move ?_; refine v_move ?_; refine v_move ?_; refine r_nil ?_; refine th_n ?_; refine w_gen (fun T => T.get 0 = some (.slice pa0 (a0).length ca0) ∧ T.get 9 = some (.slice (o6.map fun b => (b, 0)) ((a1 ++ [(a2_0, a2_1, a2_2)])).length c6) ∧ T.get 11 = some (.slice (o56.map fun b => (b, 0)) (((((a1 ++ [(a2_0, a2_1, a2_2)]).drop (Int.toNat (Int.tmod a3 (((a1 ++ [(a2_0, a2_1, a2_2)])).length : Int)))).take ((a1 ++ [(a2_0, a2_1, a2_2)]).length - (Int.toNat (Int.tmod a3 (((a1 ++ [(a2_0, a2_1, a2_2)])).length : Int))))) ++ (((a1 ++ [(a2_0, a2_1, a2_2)]).drop 0).take ((Int.toNat (Int.tmod a3 (((a1 ++ [(a2_0, a2_1, a2_2)])).length : Int))) - 0)))).length c56) ∧ T.get 12 = some (.slice py77 (v70.1).length cy77) ∧ T.get 13 = some (i64 v70.2) ∧ T.get 14 = some (.slice py107 (v97.1).length cy107) ∧ T.get 15 = some (i64 v97.2) ∧ T.get 16 = some (.slice py158 (v144.1).length cy158) ∧ T.get 17 = some (i64 v144.2) ∧ T.get 19 = some (.slice py209 (v192.2.1).length cy209) ∧ T.get 20 = some (i64 v192.2.2) ∧ T.get 21 = some (i64 v249.1) ∧ T.get 22 = some (.slice py269 (v249.2.1).length cy269) ∧ T.get 23 = some (i64 v249.2.2) ∧ True) ⟨gA, gA, gA, gA, gA, gA, gA, gA, gA, gA, gA, gA, gA, gA, trivial⟩ (fun T hp => ?_)
    obtain ⟨g8_0, g8_9, g8_11, g8_12, g8_13, g8_14, g8_15, g8_16, g8_17, g8_19, g8_20, g8_21, g8_22, g8_23, -⟩ := hp
    clear g7_0 g7_9 g7_11 g7_12 g7_13 g7_14 g7_15 g7_16 g7_17 g7_19 g7_20
    refine w_seq ?_; refine w_reg ?_; refine v_move ?_; obtain ⟨v270, e271, hF⟩ := bnd_some hF; refine v_callR st (ct25 N e271 st.d st.sub (Nat.le_trans hfl st.ext.le) (RowF.mono le252 ra0)) (fun u272 F272 h272 n272 le272 rv272 st => ?_)
    have le273 := PH.le.trans le252 le272
    have le274 := PH.le.trans le253 le272
    have le275 := PH.le.trans le254 le272
    have le276 := PH.le.trans le255 le272
    have le277 := PH.le.trans le256 le272
    have le278 := PH.le.trans le257 le272
    have le279 := PH.le.trans le258 le272
    have le280 := PH.le.trans le259 le272
    have le281 := PH.le.trans le260 le272
    have le282 := PH.le.trans le261 le272
    have le283 := PH.le.trans le262 le272
    have le284 := PH.le.trans le263 le272
    have le285 := PH.le.trans le264 le272
    have le286 := PH.le.trans le265 le272
    have le287 := PH.le.trans le266 le272
    have le288 := PH.le.trans le267 le272
    have le289 := PH.le.trans le268 le272
    have le290 := PH.le.trans le251 le272
    obtain ⟨py291, cy291, rfl, ry291⟩ := rv272; refine v_move ?_; obtain ⟨v292, e293, hF⟩ := bnd_some hF; refine v_callR st (ct38 N e293 st.d st.sub (Nat.le_trans hfl st.ext.le) (RowF.mono le283 rf122)) (fun u294 F294 h294 n294 le294 rv294 st => ?_)
    have le295 := PH.le.trans le273 le294
    have le296 := PH.le.trans le274 le294
    have le297 := PH.le.trans le275 le294
    have le298 := PH.le.trans le276 le294
    have le299 := PH.le.trans le277 le294
    have le300 := PH.le.trans le278 le294
    have le301 := PH.le.trans le279 le294
    have le302 := PH.le.trans le280 le294
    have le303 := PH.le.trans le281 le294
    have le304 := PH.le.trans le282 le294
    have le305 := PH.le.trans le283 le294
    have le306 := PH.le.trans le284 le294
    have le307 := PH.le.trans le285 le294
    have le308 := PH.le.trans le286 le294
    have le309 := PH.le.trans le287 le294
    have le310 := PH.le.trans le288 le294
    have le311 := PH.le.trans le289 le294
    have le312 := PH.le.trans le290 le294
    have le313 := PH.le.trans le272 le294
    obtain ⟨py314, cy314, rfl, ry314⟩ := rv294; obtain ⟨v315, e316, hF⟩ := bnd_some hF; refine v_callR st (ct39 N e316 st.d st.sub (Nat.le_trans hfl st.ext.le) (RowF.mono le294 ry291) ry314) (fun u317 F317 h317 n317 le317 rv317 st => ?_)
    have le318 := PH.le.trans le295 le317
    have le319 := PH.le.trans le296 le317
    have le320 := PH.le.trans le297 le317
    have le321 := PH.le.trans le298 le317
    have le322 := PH.le.trans le299 le317
    have le323 := PH.le.trans le300 le317
    have le324 := PH.le.trans le301 le317
    have le325 := PH.le.trans le302 le317
    have le326 := PH.le.trans le303 le317
    have le327 := PH.le.trans le304 le317
    have le328 := PH.le.trans le305 le317
    have le329 := PH.le.trans le306 le317
    have le330 := PH.le.trans le307 le317
    have le331 := PH.le.trans le308 le317
    have le332 := PH.le.trans le309 le317
    have le333 := PH.le.trans le310 le317
    have le334 := PH.le.trans le311 le317
    have le335 := PH.le.trans le312 le317
    have le336 := PH.le.trans le313 le317
    have le337 := PH.le.trans le294 le317
    obtain ⟨_, _, _, rfl, rfl, ⟨py338, cy338, rfl, ry338⟩, rfl⟩ := rv317; refine v_move ?_; refine v_xt rfl ?_; refine v_xt rfl ?_; refine v_xt rfl ?_; refine v_move ?_; refine v_move ?_; refine v_move ?_; refine r_nil ?_; refine th_n ?_; refine w_gen (fun T => T.get 0 = some (.slice pa0 (a0).length ca0) ∧ T.get 9 = some (.slice (o6.map fun b => (b, 0)) ((a1 ++ [(a2_0, a2_1, a2_2)])).length c6) ∧ T.get 12 = some (.slice py77 (v70.1).length cy77) ∧ T.get 13 = some (i64 v70.2) ∧ T.get 14 = some (.slice py107 (v97.1).length cy107) ∧ T.get 15 = some (i64 v97.2) ∧ T.get 16 = some (.slice py158 (v144.1).length cy158) ∧ T.get 17 = some (i64 v144.2) ∧ T.get 19 = some (.slice py209 (v192.2.1).length cy209) ∧ T.get 20 = some (i64 v192.2.2) ∧ T.get 21 = some (i64 v249.1) ∧ T.get 22 = some (.slice py269 (v249.2.1).length cy269) ∧ T.get 23 = some (i64 v249.2.2) ∧ T.get 24 = some (i64 v315.1) ∧ T.get 25 = some (.slice py338 (v315.2.1).length cy338) ∧ T.get 26 = some (i64 v315.2.2) ∧ True) ⟨gA, gA, gA, gA, gA, gA, gA, gA, gA, gA, gA, gA, gA, gA, gA, gA, trivial⟩ (fun T hp => ?_)
    obtain ⟨g9_0, g9_9, g9_12, g9_13, g9_14, g9_15, g9_16, g9_17, g9_19, g9_20, g9_21, g9_22, g9_23, g9_24, g9_25, g9_26, -⟩ := hp
    clear g8_0 g8_9 g8_11 g8_12 g8_13 g8_14 g8_15 g8_16 g8_17 g8_19 g8_20 g8_21 g8_22 g8_23
    obtain ⟨y395, hA396, hF⟩ := bnd_some hF; refine w_cutD (fun T ds401 h nx => ∃ u, y395 = (.inr u) ∧ ∃ (F401 : PH), ds401 = [] ∧ PH.le F317 F401 ∧ St n0 h0 F0 F401 h nx [.bx b1 [(i64 a2_0), (i64 a2_1), (i64 a2_2)], .bx n4 [(i64 a2_0), (i64 a2_1), (i64 a2_2)]] ∧ T.get 0 = some (.slice pa0 (a0).length ca0) ∧ T.get 9 = some (.slice (o6.map fun b => (b, 0)) ((a1 ++ [(a2_0, a2_1, a2_2)])).length c6) ∧ T.get 12 = some (.slice py77 (v70.1).length cy77) ∧ T.get 14 = some (.slice py107 (v97.1).length cy107) ∧ T.get 21 = some (i64 v249.1) ∧ T.get 22 = some (.slice py269 (v249.2.1).length cy269)) ?_ (fun T ds401 h nx hp => ?_)
    · have hK397 := hF
      have hF := hA396; obtain ⟨y417, hA418, hF⟩ := bnd_some hF; refine w_cutD (fun T ds420 h nx => ∃ (F420 : PH), ds420 = [] ∧ PH.le F317 F420 ∧ St n0 h0 F0 F420 h nx [.bx b1 [(i64 a2_0), (i64 a2_1), (i64 a2_2)], .bx n4 [(i64 a2_0), (i64 a2_1), (i64 a2_2)]] ∧ T.get 0 = some (.slice pa0 (a0).length ca0) ∧ T.get 9 = some (.slice (o6.map fun b => (b, 0)) ((a1 ++ [(a2_0, a2_1, a2_2)])).length c6) ∧ T.get 12 = some (.slice py77 (v70.1).length cy77) ∧ T.get 14 = some (.slice py107 (v97.1).length cy107) ∧ T.get 21 = some (i64 v249.1) ∧ T.get 22 = some (.slice py269 (v249.2.1).length cy269) ∧ T.get 187 = some (.bool y417)) ?_ (fun T ds420 h nx hp => ?_)
      · have hK419 := hF
        have hF := hA418; refine w_reg ?_; refine v_move ?_; refine v_nei ?_; refine v_move ?_
        rcases Bool.eq_false_or_eq_true (!(decide (v70.2 = (0 : Int)))) with hb421 | hb421
        · have hF := bif_t hb421 hF; refine g_skip hb421 ?_; refine g_skip hb421 ?_; refine v_pick hb421 ?_; refine v_move ?_; refine g_skip rfl ?_; refine g_skip rfl ?_; refine v_pick rfl ?_; refine v_move ?_; refine g_skip rfl ?_; refine g_skip rfl ?_; refine v_pick rfl ?_; refine v_move ?_; refine g_skip rfl ?_; refine g_skip rfl ?_; refine v_pick rfl ?_; refine v_move ?_; refine g_skip rfl ?_; refine g_skip rfl ?_; refine v_pick rfl ?_; refine v_move ?_; refine g_skip rfl ?_; refine g_skip rfl ?_; refine g_skip rfl ?_; refine g_skip rfl ?_; refine v_pick rfl ?_; refine v_move ?_; refine g_skip rfl ?_; refine g_skip rfl ?_; refine g_skip rfl ?_; refine g_skip rfl ?_; refine g_skip rfl ?_; refine v_pick rfl ?_
          refine v_move ?_; refine g_skip rfl ?_; refine g_skip rfl ?_; refine g_skip rfl ?_; refine v_pick rfl ?_; refine v_move ?_; refine g_skip rfl ?_; refine g_skip rfl ?_; refine g_skip rfl ?_; refine g_skip rfl ?_; refine g_skip rfl ?_; refine v_pick rfl ?_; refine v_move ?_; refine g_skip rfl ?_; refine g_skip rfl ?_; refine v_pick rfl ?_; refine v_move ?_; refine g_skip rfl ?_; refine g_skip rfl ?_; refine g_skip rfl ?_; refine g_skip rfl ?_; refine v_pick rfl ?_; refine v_move ?_; refine g_skip rfl ?_; refine g_skip rfl ?_; refine g_skip rfl ?_; refine g_skip rfl ?_; refine g_skip rfl ?_; refine g_skip rfl ?_; refine g_skip rfl ?_; refine v_pick rfl ?_; refine r_nil ?_; obtain rfl := inj hF
          refine thn ⟨rfl, ?_⟩; dsimp only
          exact ⟨F317, rfl, (PH.le.refl _), st, gA, gA, gA, gA, gA, gA, gA⟩
        · have hF := bif_f hb421 hF; refine g_take hb421 (v_move ?_); refine g_take hb421 (v_nei ?_); refine v_pick' hb421 ?_; refine v_move ?_
          rcases Bool.eq_false_or_eq_true (!(decide (v97.2 = (0 : Int)))) with hb422 | hb422
          · have hF := bif_t hb422 hF; refine g_skip hb422 ?_; refine g_skip hb422 ?_; refine v_pick hb422 ?_; refine v_move ?_; refine g_skip rfl ?_; refine g_skip rfl ?_; refine v_pick rfl ?_; refine v_move ?_; refine g_skip rfl ?_; refine g_skip rfl ?_; refine v_pick rfl ?_; refine v_move ?_; refine g_skip rfl ?_; refine g_skip rfl ?_; refine v_pick rfl ?_; refine v_move ?_; refine g_skip rfl ?_; refine g_skip rfl ?_; refine g_skip rfl ?_; refine g_skip rfl ?_; refine v_pick rfl ?_; refine v_move ?_; refine g_skip rfl ?_; refine g_skip rfl ?_; refine g_skip rfl ?_; refine g_skip rfl ?_; refine g_skip rfl ?_; refine v_pick rfl ?_; refine v_move ?_; refine g_skip rfl ?_; refine g_skip rfl ?_
            refine g_skip rfl ?_; refine v_pick rfl ?_; refine v_move ?_; refine g_skip rfl ?_; refine g_skip rfl ?_; refine g_skip rfl ?_; refine g_skip rfl ?_; refine g_skip rfl ?_; refine v_pick rfl ?_; refine v_move ?_; refine g_skip rfl ?_; refine g_skip rfl ?_; refine v_pick rfl ?_; refine v_move ?_; refine g_skip rfl ?_; refine g_skip rfl ?_; refine g_skip rfl ?_; refine g_skip rfl ?_; refine v_pick rfl ?_; refine v_move ?_; refine g_skip rfl ?_; refine g_skip rfl ?_; refine g_skip rfl ?_; refine g_skip rfl ?_; refine g_skip rfl ?_; refine g_skip rfl ?_; refine g_skip rfl ?_; refine v_pick rfl ?_; refine r_nil ?_; obtain rfl := inj hF; refine thn ⟨rfl, ?_⟩; dsimp only
            exact ⟨F317, rfl, (PH.le.refl _), st, gA, gA, gA, gA, gA, gA, gA⟩
          · have hF := bif_f hb422 hF; refine g_take hb422 (v_move ?_); refine g_take hb422 (v_nei ?_); refine v_pick' hb422 ?_; refine v_move ?_
            rcases Bool.eq_false_or_eq_true (!(decide (v144.2 = (0 : Int)))) with hb423 | hb423
            · have hF := bif_t hb423 hF; refine g_skip hb423 ?_; refine g_skip hb423 ?_; refine v_pick hb423 ?_; refine v_move ?_; refine g_skip rfl ?_; refine g_skip rfl ?_; refine v_pick rfl ?_; refine v_move ?_; refine g_skip rfl ?_; refine g_skip rfl ?_; refine v_pick rfl ?_; refine v_move ?_; refine g_skip rfl ?_; refine g_skip rfl ?_; refine g_skip rfl ?_; refine g_skip rfl ?_; refine v_pick rfl ?_; refine v_move ?_; refine g_skip rfl ?_; refine g_skip rfl ?_; refine g_skip rfl ?_; refine g_skip rfl ?_; refine g_skip rfl ?_; refine v_pick rfl ?_; refine v_move ?_; refine g_skip rfl ?_; refine g_skip rfl ?_; refine g_skip rfl ?_; refine v_pick rfl ?_; refine v_move ?_; refine g_skip rfl ?_
              refine g_skip rfl ?_; refine g_skip rfl ?_; refine g_skip rfl ?_; refine g_skip rfl ?_; refine v_pick rfl ?_; refine v_move ?_; refine g_skip rfl ?_; refine g_skip rfl ?_; refine v_pick rfl ?_; refine v_move ?_; refine g_skip rfl ?_; refine g_skip rfl ?_; refine g_skip rfl ?_; refine g_skip rfl ?_; refine v_pick rfl ?_; refine v_move ?_; refine g_skip rfl ?_; refine g_skip rfl ?_; refine g_skip rfl ?_; refine g_skip rfl ?_; refine g_skip rfl ?_; refine g_skip rfl ?_; refine g_skip rfl ?_; refine v_pick rfl ?_; refine r_nil ?_; obtain rfl := inj hF; refine thn ⟨rfl, ?_⟩; dsimp only
              exact ⟨F317, rfl, (PH.le.refl _), st, gA, gA, gA, gA, gA, gA, gA⟩
            · have hF := bif_f hb423 hF; refine g_take hb423 (v_move ?_); refine g_take hb423 (v_nei ?_); refine v_pick' hb423 ?_; refine v_move ?_
              rcases Bool.eq_false_or_eq_true (!(decide (v192.2.2 = (0 : Int)))) with hb424 | hb424
              · have hF := bif_t hb424 hF; refine g_skip hb424 ?_; refine g_skip hb424 ?_; refine v_pick hb424 ?_; refine v_move ?_; refine g_skip rfl ?_; refine g_skip rfl ?_; refine v_pick rfl ?_; refine v_move ?_; refine g_skip rfl ?_; refine g_skip rfl ?_; refine g_skip rfl ?_; refine g_skip rfl ?_; refine v_pick rfl ?_; refine v_move ?_; refine g_skip rfl ?_; refine g_skip rfl ?_; refine g_skip rfl ?_; refine g_skip rfl ?_; refine g_skip rfl ?_; refine v_pick rfl ?_; refine v_move ?_; refine g_skip rfl ?_; refine g_skip rfl ?_; refine g_skip rfl ?_; refine v_pick rfl ?_; refine v_move ?_; refine g_skip rfl ?_; refine g_skip rfl ?_; refine g_skip rfl ?_; refine g_skip rfl ?_; refine g_skip rfl ?_
                refine v_pick rfl ?_; refine v_move ?_; refine g_skip rfl ?_; refine g_skip rfl ?_; refine v_pick rfl ?_; refine v_move ?_; refine g_skip rfl ?_; refine g_skip rfl ?_; refine g_skip rfl ?_; refine g_skip rfl ?_; refine v_pick rfl ?_; refine v_move ?_; refine g_skip rfl ?_; refine g_skip rfl ?_; refine g_skip rfl ?_; refine g_skip rfl ?_; refine g_skip rfl ?_; refine g_skip rfl ?_; refine g_skip rfl ?_; refine v_pick rfl ?_; refine r_nil ?_; obtain rfl := inj hF; refine thn ⟨rfl, ?_⟩; dsimp only
                exact ⟨F317, rfl, (PH.le.refl _), st, gA, gA, gA, gA, gA, gA, gA⟩
              · have hF := bif_f hb424 hF; refine g_take hb424 (v_move ?_); refine g_take hb424 (v_nei ?_); refine v_pick' hb424 ?_; refine v_move ?_
                rcases Bool.eq_false_or_eq_true (!(decide (v249.2.2 = (0 : Int)))) with hb425 | hb425
                · have hF := bif_t hb425 hF; refine g_skip hb425 ?_; refine g_skip hb425 ?_; refine v_pick hb425 ?_; refine v_move ?_; refine g_skip rfl ?_; refine g_skip rfl ?_; refine g_skip rfl ?_; refine g_skip rfl ?_; refine v_pick rfl ?_; refine v_move ?_; refine g_skip rfl ?_; refine g_skip rfl ?_; refine g_skip rfl ?_; refine g_skip rfl ?_; refine g_skip rfl ?_; refine v_pick rfl ?_; refine v_move ?_; refine g_skip rfl ?_; refine g_skip rfl ?_; refine g_skip rfl ?_; refine v_pick rfl ?_; refine v_move ?_; refine g_skip rfl ?_; refine g_skip rfl ?_; refine g_skip rfl ?_; refine g_skip rfl ?_; refine g_skip rfl ?_; refine v_pick rfl ?_; refine v_move ?_; refine g_skip rfl ?_; refine g_skip rfl ?_
                  refine v_pick rfl ?_; refine v_move ?_; refine g_skip rfl ?_; refine g_skip rfl ?_; refine g_skip rfl ?_; refine g_skip rfl ?_; refine v_pick rfl ?_; refine v_move ?_; refine g_skip rfl ?_; refine g_skip rfl ?_; refine g_skip rfl ?_; refine g_skip rfl ?_; refine g_skip rfl ?_; refine g_skip rfl ?_; refine g_skip rfl ?_; refine v_pick rfl ?_; refine r_nil ?_; obtain rfl := inj hF; refine thn ⟨rfl, ?_⟩; dsimp only
                  exact ⟨F317, rfl, (PH.le.refl _), st, gA, gA, gA, gA, gA, gA, gA⟩
                · have hF := bif_f hb425 hF; refine g_take hb425 (v_move ?_); refine g_take hb425 (v_nei ?_); refine v_pick' hb425 ?_; refine v_move ?_
                  rcases Bool.eq_false_or_eq_true (!(decide (v315.2.2 = (0 : Int)))) with hb426 | hb426
                  · have hF := bif_t hb426 hF; refine g_skip hb426 ?_; refine g_skip hb426 ?_; refine g_skip hb426 ?_; refine g_skip hb426 ?_; refine v_pick hb426 ?_; refine v_move ?_; refine g_skip rfl ?_; refine g_skip rfl ?_; refine g_skip rfl ?_; refine g_skip rfl ?_; refine g_skip rfl ?_; refine v_pick rfl ?_; refine v_move ?_; refine g_skip rfl ?_; refine g_skip rfl ?_; refine g_skip rfl ?_; refine v_pick rfl ?_; refine v_move ?_; refine g_skip rfl ?_; refine g_skip rfl ?_; refine g_skip rfl ?_; refine g_skip rfl ?_; refine g_skip rfl ?_; refine v_pick rfl ?_; refine v_move ?_; refine g_skip rfl ?_; refine g_skip rfl ?_; refine v_pick rfl ?_; refine v_move ?_; refine g_skip rfl ?_; refine g_skip rfl ?_
                    refine g_skip rfl ?_; refine g_skip rfl ?_; refine v_pick rfl ?_; refine v_move ?_; refine g_skip rfl ?_; refine g_skip rfl ?_; refine g_skip rfl ?_; refine g_skip rfl ?_; refine g_skip rfl ?_; refine g_skip rfl ?_; refine g_skip rfl ?_; refine v_pick rfl ?_; refine r_nil ?_; obtain rfl := inj hF; refine thn ⟨rfl, ?_⟩; dsimp only
                    exact ⟨F317, rfl, (PH.le.refl _), st, gA, gA, gA, gA, gA, gA, gA⟩
                  · have hF := bif_f hb426 hF; refine g_take hb426 (v_move ?_); refine g_take hb426 (v_move ?_); obtain ⟨v427, e428, hF⟩ := bnd_some hF; refine g_take hb426 (v_call st (ct42 N e428 st.d st.sub (RowF.mono le326 ry107) (RowF.mono le330 ry158)) (fun n429 st => ?_)); refine g_take hb426 (v_not ?_); refine v_pick' hb426 ?_; refine v_move ?_
                    rcases Bool.eq_false_or_eq_true (!v427) with hb430 | hb430
                    · have hF := bif_t hb430 hF; refine g_skip hb430 ?_; refine g_skip hb430 ?_; refine g_skip hb430 ?_; refine g_skip hb430 ?_; refine g_skip hb430 ?_; refine v_pick hb430 ?_; refine v_move ?_; refine g_skip rfl ?_; refine g_skip rfl ?_; refine g_skip rfl ?_; refine v_pick rfl ?_; refine v_move ?_; refine g_skip rfl ?_; refine g_skip rfl ?_; refine g_skip rfl ?_; refine g_skip rfl ?_; refine g_skip rfl ?_; refine v_pick rfl ?_; refine v_move ?_; refine g_skip rfl ?_; refine g_skip rfl ?_; refine v_pick rfl ?_; refine v_move ?_; refine g_skip rfl ?_; refine g_skip rfl ?_; refine g_skip rfl ?_; refine g_skip rfl ?_; refine v_pick rfl ?_; refine v_move ?_; refine g_skip rfl ?_; refine g_skip rfl ?_
                      refine g_skip rfl ?_; refine g_skip rfl ?_; refine g_skip rfl ?_; refine g_skip rfl ?_; refine g_skip rfl ?_; refine v_pick rfl ?_; refine r_nil ?_; obtain rfl := inj hF; refine thn ⟨rfl, ?_⟩; dsimp only
                      exact ⟨F317, rfl, (PH.le.refl _), st, gA, gA, gA, gA, gA, gA, gA⟩
                    · have hF := bif_f hb430 hF; refine g_take hb430 (v_move ?_); refine g_take hb430 (v_len ?_); refine g_take hb430 (v_move ?_); refine g_take hb430 (v_len ?_); refine g_take hb430 (v_lss ?_); refine v_pick' hb430 ?_; refine v_move ?_
                      rcases Bool.eq_false_or_eq_true (decide (((v249.2.1).length : Int) < ((v192.2.1).length : Int))) with hb431 | hb431
                      · have hF := bif_t hb431 hF; refine g_skip hb431 ?_; refine g_skip hb431 ?_; refine g_skip hb431 ?_; refine v_pick hb431 ?_; refine v_move ?_; refine g_skip rfl ?_; refine g_skip rfl ?_; refine g_skip rfl ?_; refine g_skip rfl ?_; refine g_skip rfl ?_; refine v_pick rfl ?_; refine v_move ?_; refine g_skip rfl ?_; refine g_skip rfl ?_; refine v_pick rfl ?_; refine v_move ?_; refine g_skip rfl ?_; refine g_skip rfl ?_; refine g_skip rfl ?_; refine g_skip rfl ?_; refine v_pick rfl ?_; refine v_move ?_; refine g_skip rfl ?_; refine g_skip rfl ?_; refine g_skip rfl ?_; refine g_skip rfl ?_; refine g_skip rfl ?_; refine g_skip rfl ?_; refine g_skip rfl ?_; refine v_pick rfl ?_
                        refine r_nil ?_; obtain rfl := inj hF; refine thn ⟨rfl, ?_⟩; dsimp only
                        exact ⟨F317, rfl, (PH.le.refl _), st, gA, gA, gA, gA, gA, gA, gA⟩
                      · have hF := bif_f hb431 hF; refine g_take hb431 (v_move ?_); refine g_take hb431 (v_move ?_); refine g_take hb431 (v_nei ?_); refine v_pick' hb431 ?_; refine v_move ?_
                        rcases Bool.eq_false_or_eq_true (!(decide (v249.1 = v315.1))) with hb432 | hb432
                        · have hF := bif_t hb432 hF; refine g_skip hb432 ?_; refine g_skip hb432 ?_; refine g_skip hb432 ?_; refine g_skip hb432 ?_; refine g_skip hb432 ?_; refine v_pick hb432 ?_; refine v_move ?_; refine g_skip rfl ?_; refine g_skip rfl ?_; refine v_pick rfl ?_; refine v_move ?_; refine g_skip rfl ?_; refine g_skip rfl ?_; refine g_skip rfl ?_; refine g_skip rfl ?_; refine v_pick rfl ?_; refine v_move ?_; refine g_skip rfl ?_; refine g_skip rfl ?_; refine g_skip rfl ?_; refine g_skip rfl ?_; refine g_skip rfl ?_; refine g_skip rfl ?_; refine g_skip rfl ?_; refine v_pick rfl ?_; refine r_nil ?_; obtain rfl := inj hF; refine thn ⟨rfl, ?_⟩; dsimp only
                          exact ⟨F317, rfl, (PH.le.refl _), st, gA, gA, gA, gA, gA, gA, gA⟩
                        · have hF := bif_f hb432 hF; refine g_take hb432 (v_move ?_); refine g_take hb432 (v_len ?_); refine g_take hb432 (v_move ?_); refine g_take hb432 (v_len ?_); refine g_take hb432 (v_nei ?_); refine v_pick' hb432 ?_; refine v_move ?_
                          rcases Bool.eq_false_or_eq_true (!(decide (((v249.2.1).length : Int) = ((v315.2.1).length : Int)))) with hb433 | hb433
                          · have hF := bif_t hb433 hF; refine g_skip hb433 ?_; refine g_skip hb433 ?_; refine v_pick hb433 ?_; refine v_move ?_; refine g_skip rfl ?_; refine g_skip rfl ?_; refine g_skip rfl ?_; refine g_skip rfl ?_; refine v_pick rfl ?_; refine v_move ?_; refine g_skip rfl ?_; refine g_skip rfl ?_; refine g_skip rfl ?_; refine g_skip rfl ?_; refine g_skip rfl ?_; refine g_skip rfl ?_; refine g_skip rfl ?_; refine v_pick rfl ?_; refine r_nil ?_; obtain rfl := inj hF; refine thn ⟨rfl, ?_⟩; dsimp only
                            exact ⟨F317, rfl, (PH.le.refl _), st, gA, gA, gA, gA, gA, gA, gA⟩
                          · have hF := bif_f hb433 hF; refine g_take hb433 (v_move ?_); refine g_take hb433 (v_lss ?_); refine v_pick' hb433 ?_; refine v_move ?_
                            rcases Bool.eq_false_or_eq_true (decide (v249.1 < (0 : Int))) with hb434 | hb434
                            · have hF := bif_t hb434 hF; refine g_skip hb434 ?_; refine g_skip hb434 ?_; refine g_skip hb434 ?_; refine g_skip hb434 ?_; refine v_pick hb434 ?_; refine v_move ?_; refine g_skip rfl ?_; refine g_skip rfl ?_; refine g_skip rfl ?_; refine g_skip rfl ?_; refine g_skip rfl ?_; refine g_skip rfl ?_; refine g_skip rfl ?_; refine v_pick rfl ?_; refine r_nil ?_; obtain rfl := inj hF; refine thn ⟨rfl, ?_⟩; dsimp only
                              exact ⟨F317, rfl, (PH.le.refl _), st, gA, gA, gA, gA, gA, gA, gA⟩
                            · have hF := bif_f hb434 hF; refine g_take hb434 (v_move ?_); refine g_take hb434 (v_move ?_); refine g_take hb434 (v_len ?_); refine g_take hb434 (v_geq ?_); refine v_pick' hb434 ?_; refine v_move ?_
                              rcases Bool.eq_false_or_eq_true (decide (((a0).length : Int) ≤ v249.1)) with hb435 | hb435
                              · have hF := bif_t hb435 hF; refine g_skip hb435 ?_; refine g_skip hb435 ?_; refine g_skip hb435 ?_; refine g_skip hb435 ?_; refine g_skip hb435 ?_; refine g_skip hb435 ?_; refine g_skip hb435 ?_; refine v_pick hb435 ?_; refine r_nil ?_; obtain rfl := inj hF; refine thn ⟨rfl, ?_⟩; dsimp only
                                exact ⟨F317, rfl, (PH.le.refl _), st, gA, gA, gA, gA, gA, gA, gA⟩
                              · have hF := bif_f hb435 hF; refine g_take hb435 (v_move ?_); refine g_take hb435 (v_len ?_); refine g_take hb435 (v_gtr ?_); refine g_take hb435 (v_move ?_); refine g_take hb435 (v_len ?_); refine g_take hb435 (v_eqi ?_); refine g_take hb435 (v_neb ?_); refine v_pick' hb435 ?_; refine r_nil ?_; obtain rfl := inj hF; refine thn ⟨rfl, ?_⟩; dsimp only
                                exact ⟨F317, rfl, (PH.le.refl _), st, gA, gA, gA, gA, gA, gA, gA⟩
      · obtain ⟨F420, rfl, le420, st, t0, t9, t12, t14, t21, t22, t187⟩ := hp
        have le436 := PH.le.trans le318 le420
        have le437 := PH.le.trans le319 le420
        have le438 := PH.le.trans le320 le420
        have le439 := PH.le.trans le321 le420
        have le440 := PH.le.trans le322 le420
        have le441 := PH.le.trans le323 le420
        have le442 := PH.le.trans le324 le420
        have le443 := PH.le.trans le325 le420
        have le444 := PH.le.trans le326 le420
        have le445 := PH.le.trans le327 le420
        have le446 := PH.le.trans le328 le420
        have le447 := PH.le.trans le329 le420
        have le448 := PH.le.trans le330 le420
        have le449 := PH.le.trans le331 le420
        have le450 := PH.le.trans le332 le420
        have le451 := PH.le.trans le333 le420
        have le452 := PH.le.trans le334 le420
        have le453 := PH.le.trans le335 le420
        have le454 := PH.le.trans le336 le420
        have le455 := PH.le.trans le337 le420
        have le456 := PH.le.trans le317 le420
        refine v_cond (fun hb457 => ?_) (fun hb457 => ?_)
        · have hF := bif_t hb457 hF; refine w_seq ?_; refine w_reg ?_; refine v_move ?_; refine r_nil ?_; refine th_n ?_; refine w_ret ?_; obtain rfl := inj hF; have hF := hK397; have hF := sel_l hF; refine th_r ?_; obtain rfl := inj hF
          exact end_s st (Res.t gA Res.nil) rfl rfl
        · have hF := bif_f hb457 hF; refine w_skip ?_; obtain rfl := inj hF; refine thn ⟨rfl, _, rfl, ?_⟩; dsimp only
          exact ⟨F420, rfl, le420, st, gA, gA, gA, gA, gA, gA⟩
    · obtain ⟨w400, rfl, F401, rfl, le401, st, t0, t9, t12, t14, t21, t22⟩ := hp; have hF := sel_r hF
      have le479 := PH.le.trans le318 le401
      have le480 := PH.le.trans le319 le401
      have le481 := PH.le.trans le320 le401
      have le482 := PH.le.trans le321 le401
      have le483 := PH.le.trans le322 le401
      have le484 := PH.le.trans le323 le401
      have le485 := PH.le.trans le324 le401
      have le486 := PH.le.trans le325 le401
      have le487 := PH.le.trans le326 le401
      have le488 := PH.le.trans le327 le401
      have le489 := PH.le.trans le328 le401
      have le490 := PH.le.trans le329 le401
      have le491 := PH.le.trans le330 le401
      have le492 := PH.le.trans le331 le401
      have le493 := PH.le.trans le332 le401
      have le494 := PH.le.trans le333 le401
      have le495 := PH.le.trans le334 le401
      have le496 := PH.le.trans le335 le401
      have le497 := PH.le.trans le336 le401
      have le498 := PH.le.trans le337 le401
      have le499 := PH.le.trans le317 le401
      refine w_seq ?_; refine w_seq ?_; refine w_reg ?_; refine v_move ?_; refine r_nil ?_; refine th_n ?_; refine w_block ?_; obtain ⟨y595, hy, hF⟩ := bnd_some hF; refine v_loopD (sf15_L2 N v70 v97) (fun x500 T ds501 h nx => ∃ (F501 : PH), ds501 = [] ∧ PH.le F401 F501 ∧ St n0 h0 F0 F501 h nx [.bx b1 [(i64 a2_0), (i64 a2_1), (i64 a2_2)], .bx n4 [(i64 a2_0), (i64 a2_1), (i64 a2_2)]] ∧ T.get 0 = some (.slice pa0 (a0).length ca0) ∧ T.get 9 = some (.slice (o6.map fun b => (b, 0)) ((a1 ++ [(a2_0, a2_1, a2_2)])).length c6) ∧ T.get 12 = some (.slice py77 (v70.1).length cy77) ∧ T.get 14 = some (.slice py107 (v97.1).length cy107) ∧ T.get 21 = some (i64 v249.1) ∧ T.get 22 = some (.slice py269 (v249.2.1).length cy269) ∧ T.get 27 = some (i64 x500)) (fun y e a σ => (∃ u, y = (.inl u) ∧ e = .ret ∧ a.nt = 276 ∧ ∃ (F597 : PH), a.defers = [] ∧ PH.le F401 F597 ∧ St n0 h0 F0 F597 σ.h σ.nx [.bx b1 [(i64 a2_0), (i64 a2_1), (i64 a2_2)], .bx n4 [(i64 a2_0), (i64 a2_1), (i64 a2_2)]] ∧ a.tmps.get 8 = some (.bool false)) ∨ (∃ u, y = (.inr u) ∧ e = .exit 0 ∧ a.nt = 276 ∧ ∃ (F599 : PH), a.defers = [] ∧ PH.le F401 F599 ∧ St n0 h0 F0 F599 σ.h σ.nx [.bx b1 [(i64 a2_0), (i64 a2_1), (i64 a2_2)], .bx n4 [(i64 a2_0), (i64 a2_1), (i64 a2_2)]] ∧ a.tmps.get 0 = some (.slice pa0 (a0).length ca0) ∧ a.tmps.get 9 = some (.slice (o6.map fun b => (b, 0)) ((a1 ++ [(a2_0, a2_1, a2_2)])).length c6) ∧ a.tmps.get 21 = some (i64 v249.1) ∧ a.tmps.get 22 = some (.slice py269 (v249.2.1).length cy269))) (fun x500 T ds501 h nx s hp hF => ?_) N _ y595 _ _ _ _ hy ⟨F401, rfl, (PH.le.refl _), st, gA, gA, gA, gA, gA, gA, gA⟩ (fun e a σ hne hq => ?_)
      · obtain ⟨F501, rfl, le501, st, t0, t9, t12, t14, t21, t22, t27⟩ := hp
        have le502 := PH.le.trans le479 le501
        have le503 := PH.le.trans le480 le501
        have le504 := PH.le.trans le481 le501
        have le505 := PH.le.trans le482 le501
        have le506 := PH.le.trans le483 le501
        have le507 := PH.le.trans le484 le501
        have le508 := PH.le.trans le485 le501
        have le509 := PH.le.trans le486 le501
        have le510 := PH.le.trans le487 le501
        have le511 := PH.le.trans le488 le501
        have le512 := PH.le.trans le489 le501
        have le513 := PH.le.trans le490 le501
        have le514 := PH.le.trans le491 le501
        have le515 := PH.le.trans le492 le501
        have le516 := PH.le.trans le493 le501
        have le517 := PH.le.trans le494 le501
        have le518 := PH.le.trans le495 le501
        have le519 := PH.le.trans le496 le501
        have le520 := PH.le.trans le497 le501
        have le521 := PH.le.trans le498 le501
        have le522 := PH.le.trans le499 le501
        have le523 := PH.le.trans le401 le501
        unfold sf15_L2 at hF; unfold L15w3; refine w_seq ?_; refine w_seq ?_; refine w_reg ?_; refine v_move ?_; refine v_move ?_; refine v_len ?_; refine v_lss ?_; refine r_nil ?_; refine th_n ?_; refine w_gen (fun T => T.get 0 = some (.slice pa0 (a0).length ca0) ∧ T.get 9 = some (.slice (o6.map fun b => (b, 0)) ((a1 ++ [(a2_0, a2_1, a2_2)])).length c6) ∧ T.get 12 = some (.slice py77 (v70.1).length cy77) ∧ T.get 14 = some (.slice py107 (v97.1).length cy107) ∧ T.get 21 = some (i64 v249.1) ∧ T.get 22 = some (.slice py269 (v249.2.1).length cy269) ∧ T.get 27 = some (i64 x500) ∧ T.get 191 = some (.bool (decide (x500 < ((v97.1).length : Int)))) ∧ True) ⟨gA, gA, gA, gA, gA, gA, gA, gA, trivial⟩ (fun T hp => ?_)
        obtain ⟨g22_0, g22_9, g22_12, g22_14, g22_21, g22_22, g22_27, g22_191, -⟩ := hp
        clear g9_0 g9_9 g9_12 g9_13 g9_14 g9_15 g9_16 g9_17 g9_19 g9_20 g9_21 g9_22 g9_23 g9_24 g9_25 g9_26
        refine v_cond (fun hb600 => ?_) (fun hb600 => ?_)
        · have hF := bif_t hb600 hF; refine w_skip ?_; refine th_n ?_; refine w_gen (fun T => T.get 0 = some (.slice pa0 (a0).length ca0) ∧ T.get 9 = some (.slice (o6.map fun b => (b, 0)) ((a1 ++ [(a2_0, a2_1, a2_2)])).length c6) ∧ T.get 12 = some (.slice py77 (v70.1).length cy77) ∧ T.get 14 = some (.slice py107 (v97.1).length cy107) ∧ T.get 21 = some (i64 v249.1) ∧ T.get 22 = some (.slice py269 (v249.2.1).length cy269) ∧ T.get 27 = some (i64 x500) ∧ True) ⟨gA, gA, gA, gA, gA, gA, gA, trivial⟩ (fun T hp => ?_); obtain ⟨g23_0, g23_9, g23_12, g23_14, g23_21, g23_22, g23_27, -⟩ := hp
          clear g22_0 g22_9 g22_12 g22_14 g22_21 g22_22 g22_27 g22_191
          refine w_seq ?_; refine w_block ?_; refine w_seq ?_; refine w_reg ?_; refine v_move ?_; refine r_nil ?_; refine th_n ?_; refine w_seq ?_; refine w_seq ?_; refine w_reg ?_; refine v_move ?_; refine r_nil ?_; refine th_n ?_; refine w_block ?_; obtain ⟨y634, hy, hF⟩ := bnd_some hF; refine v_loopD (sf15_L1 v70 v97 x500) (fun x601 T ds602 h nx => ∃ (F602 : PH), ds602 = [] ∧ PH.le F501 F602 ∧ St n0 h0 F0 F602 h nx [.bx b1 [(i64 a2_0), (i64 a2_1), (i64 a2_2)], .bx n4 [(i64 a2_0), (i64 a2_1), (i64 a2_2)]] ∧ T.get 0 = some (.slice pa0 (a0).length ca0) ∧ T.get 9 = some (.slice (o6.map fun b => (b, 0)) ((a1 ++ [(a2_0, a2_1, a2_2)])).length c6) ∧ T.get 12 = some (.slice py77 (v70.1).length cy77) ∧ T.get 14 = some (.slice py107 (v97.1).length cy107) ∧ T.get 21 = some (i64 v249.1) ∧ T.get 22 = some (.slice py269 (v249.2.1).length cy269) ∧ T.get 27 = some (i64 x500) ∧ T.get 28 = some (.bool x601.1) ∧ T.get 29 = some (i64 x601.2)) (fun y e a σ => e = .exit 2 ∧ a.nt = 276 ∧ ∃ (F635 : PH), a.defers = [] ∧ PH.le F501 F635 ∧ St n0 h0 F0 F635 σ.h σ.nx [.bx b1 [(i64 a2_0), (i64 a2_1), (i64 a2_2)], .bx n4 [(i64 a2_0), (i64 a2_1), (i64 a2_2)]] ∧ a.tmps.get 0 = some (.slice pa0 (a0).length ca0) ∧ a.tmps.get 9 = some (.slice (o6.map fun b => (b, 0)) ((a1 ++ [(a2_0, a2_1, a2_2)])).length c6) ∧ a.tmps.get 12 = some (.slice py77 (v70.1).length cy77) ∧ a.tmps.get 14 = some (.slice py107 (v97.1).length cy107) ∧ a.tmps.get 21 = some (i64 v249.1) ∧ a.tmps.get 22 = some (.slice py269 (v249.2.1).length cy269) ∧ a.tmps.get 27 = some (i64 x500) ∧ a.tmps.get 28 = some (.bool y)) (fun x601 T ds602 h nx s hp hF => ?_) N _ y634 _ _ _ _ hy ⟨F501, rfl, (PH.le.refl _), st, gA, gA, gA, gA, gA, gA, gA, gA, gA⟩ (fun e a σ hne hq => ?_)
          · obtain ⟨F602, rfl, le602, st, t0, t9, t12, t14, t21, t22, t27, t28, t29⟩ := hp
            have le603 := PH.le.trans le502 le602
            have le604 := PH.le.trans le503 le602
            have le605 := PH.le.trans le504 le602
            have le606 := PH.le.trans le505 le602
            have le607 := PH.le.trans le506 le602
            have le608 := PH.le.trans le507 le602
            have le609 := PH.le.trans le508 le602
            have le610 := PH.le.trans le509 le602
            have le611 := PH.le.trans le510 le602
            have le612 := PH.le.trans le511 le602
            have le613 := PH.le.trans le512 le602
            have le614 := PH.le.trans le513 le602
            have le615 := PH.le.trans le514 le602
            have le616 := PH.le.trans le515 le602
            have le617 := PH.le.trans le516 le602
            have le618 := PH.le.trans le517 le602
            have le619 := PH.le.trans le518 le602
            have le620 := PH.le.trans le519 le602
            have le621 := PH.le.trans le520 le602
            have le622 := PH.le.trans le521 le602
            have le623 := PH.le.trans le522 le602
            have le624 := PH.le.trans le523 le602
            have le625 := PH.le.trans le501 le602
            unfold sf15_L1 at hF; unfold L15w2; refine w_seq ?_; refine w_seq ?_; refine w_reg ?_; refine v_move ?_; refine v_move ?_; refine v_len ?_; refine v_lss ?_; refine r_nil ?_; refine th_n ?_; refine w_gen (fun T => T.get 0 = some (.slice pa0 (a0).length ca0) ∧ T.get 9 = some (.slice (o6.map fun b => (b, 0)) ((a1 ++ [(a2_0, a2_1, a2_2)])).length c6) ∧ T.get 12 = some (.slice py77 (v70.1).length cy77) ∧ T.get 14 = some (.slice py107 (v97.1).length cy107) ∧ T.get 21 = some (i64 v249.1) ∧ T.get 22 = some (.slice py269 (v249.2.1).length cy269) ∧ T.get 27 = some (i64 x500) ∧ T.get 28 = some (.bool x601.1) ∧ T.get 29 = some (i64 x601.2) ∧ T.get 197 = some (.bool (decide (x601.2 < ((v70.1).length : Int)))) ∧ True) ⟨gA, gA, gA, gA, gA, gA, gA, gA, gA, gA, trivial⟩ (fun T hp => ?_)
            obtain ⟨g28_0, g28_9, g28_12, g28_14, g28_21, g28_22, g28_27, g28_28, g28_29, g28_197, -⟩ := hp
            clear g23_0 g23_9 g23_12 g23_14 g23_21 g23_22 g23_27
            refine v_cond (fun hb636 => ?_) (fun hb636 => ?_)
            · have hF := bif_t hb636 hF; refine w_skip ?_; refine th_n ?_; refine w_gen (fun T => T.get 0 = some (.slice pa0 (a0).length ca0) ∧ T.get 9 = some (.slice (o6.map fun b => (b, 0)) ((a1 ++ [(a2_0, a2_1, a2_2)])).length c6) ∧ T.get 12 = some (.slice py77 (v70.1).length cy77) ∧ T.get 14 = some (.slice py107 (v97.1).length cy107) ∧ T.get 21 = some (i64 v249.1) ∧ T.get 22 = some (.slice py269 (v249.2.1).length cy269) ∧ T.get 27 = some (i64 x500) ∧ T.get 28 = some (.bool x601.1) ∧ T.get 29 = some (i64 x601.2) ∧ True) ⟨gA, gA, gA, gA, gA, gA, gA, gA, gA, trivial⟩ (fun T hp => ?_); obtain ⟨g29_0, g29_9, g29_12, g29_14, g29_21, g29_22, g29_27, g29_28, g29_29, -⟩ := hp
              clear g28_0 g28_9 g28_12 g28_14 g28_21 g28_22 g28_27 g28_28 g28_29 g28_197
              refine w_seq ?_; refine w_block ?_; refine w_drawV (Nat.le_trans hfl st.ext.le) (fun dw => ?_); refine y_pure st.d dw (fun hm vw => v_move pr_nil) ?_; refine y_pure st.d dw (fun hm vw => v_move pr_nil) ?_
              rcases Bool.eq_false_or_eq_true x601.1 with hb637 | hb637
              · have hF := bif_t hb637 hF; refine y_pure st.d dw (fun hm vw => g_skip hb637 pr_nil) ?_; refine y_pure st.d dw (fun hm vw => g_skip hb637 pr_nil) ?_; refine y_pure st.d dw (fun hm vw => g_skip hb637 pr_nil) ?_; refine y_pure st.d dw (fun hm vw => g_skip hb637 pr_nil) ?_; refine y_pure st.d dw (fun hm vw => g_skip hb637 pr_nil) ?_; refine y_pure st.d dw (fun hm vw => g_skip hb637 pr_nil) ?_; refine y_pure st.d dw (fun hm vw => g_skip hb637 pr_nil) ?_; refine y_pure st.d dw (fun hm vw => g_skip hb637 pr_nil) ?_; refine y_end st.d dw rfl (fun h638 ex vs => ?_)
                have st := st.ext1 ex
                refine g_skip hb637 ?_; refine v_pick hb637 ?_; refine v_move ?_; refine r_nil ?_; refine ib_n ?_; refine th_n ?_; refine w_gen (fun T => T.get 0 = some (.slice pa0 (a0).length ca0) ∧ T.get 9 = some (.slice (o6.map fun b => (b, 0)) ((a1 ++ [(a2_0, a2_1, a2_2)])).length c6) ∧ T.get 12 = some (.slice py77 (v70.1).length cy77) ∧ T.get 14 = some (.slice py107 (v97.1).length cy107) ∧ T.get 21 = some (i64 v249.1) ∧ T.get 22 = some (.slice py269 (v249.2.1).length cy269) ∧ T.get 27 = some (i64 x500) ∧ T.get 28 = some (.bool true) ∧ T.get 29 = some (i64 x601.2) ∧ True) ⟨gA, gA, gA, gA, gA, gA, gA, gA, gA, trivial⟩ (fun T hp => ?_); obtain ⟨g30_0, g30_9, g30_12, g30_14, g30_21, g30_22, g30_27, g30_28, g30_29, -⟩ := hp
                clear g29_0 g29_9 g29_12 g29_14 g29_21 g29_22 g29_27 g29_28 g29_29
                refine w_reg ?_; refine v_move ?_; obtain ⟨q639, hF⟩ := ck_some hF; refine v_add q639 ?_; refine v_move ?_; refine r_nil ?_; refine thn ⟨_, (inj hF).symm, rfl, ?_⟩; dsimp only
                exact ⟨F602, rfl, le602, st, gA, gA, gA, gA, gA, gA, gA, gA, gA⟩
              · have hF := bif_f hb637 hF; refine y_pure st.d dw (fun hm vw => g_take hb637 (v_move pr_nil)) ?_; refine y_pure st.d dw (fun hm vw => g_take hb637 (v_move pr_nil)) ?_; obtain ⟨n640, x640, z640, l640, g640, hF⟩ := ix_some hF; obtain ⟨b640, o640, s640, j640, r640, e640, f640, k640, rfl⟩ := RowF.get ry77 g640; refine y_pure st.d dw (fun hm vw => g_take hb637 (v_ixp e640 z640 l640 pr_nil)) ?_; refine y_pure st.d dw (fun hm vw => g_take hb637 (v_ld1 (vw.fz st (le608 _ _ f640)) (take_at (j := 0) k640 rfl) pr_nil)) ?_; refine y_pure st.d dw (fun hm vw => g_take hb637 (v_move pr_nil)) ?_; refine y_pure st.d dw (fun hm vw => g_take hb637 (v_move pr_nil)) ?_; obtain ⟨n641, x641, z641, l641, g641, hF⟩ := ix_some hF
                obtain ⟨b641, o641, s641, j641, r641, e641, f641, k641, rfl⟩ := RowF.get ry107 g641; refine y_pure st.d dw (fun hm vw => g_take hb637 (v_ixp e641 z641 l641 pr_nil)) ?_; refine y_pure st.d dw (fun hm vw => g_take hb637 (v_ld1 (vw.fz st (le611 _ _ f641)) (take_at (j := 0) k641 rfl) pr_nil)) ?_; refine y_end st.d dw rfl (fun h642 ex vs => ?_)
                have st := st.ext1 ex
                refine g_take hb637 (v_eqi ?_); refine v_pick' hb637 ?_; refine v_move ?_; refine r_nil ?_; refine ib_n ?_; refine th_n ?_; refine w_gen (fun T => T.get 0 = some (.slice pa0 (a0).length ca0) ∧ T.get 9 = some (.slice (o6.map fun b => (b, 0)) ((a1 ++ [(a2_0, a2_1, a2_2)])).length c6) ∧ T.get 12 = some (.slice py77 (v70.1).length cy77) ∧ T.get 14 = some (.slice py107 (v97.1).length cy107) ∧ T.get 21 = some (i64 v249.1) ∧ T.get 22 = some (.slice py269 (v249.2.1).length cy269) ∧ T.get 27 = some (i64 x500) ∧ T.get 28 = some (.bool (decide (x640 = x641))) ∧ T.get 29 = some (i64 x601.2) ∧ T.get 202 = some (.slice py77 (v70.1).length cy77) ∧ T.get 203 = some (i64 x601.2) ∧ T.get 205 = some (i64 x640) ∧ T.get 206 = some (.slice py107 (v97.1).length cy107) ∧ T.get 207 = some (i64 x500) ∧ T.get 209 = some (i64 x641) ∧ T.get 210 = some (.bool (decide (x640 = x641))) ∧ True) ⟨gA, gA, gA, gA, gA, gA, gA, gA, gA, gA, gA, gA, gA, gA, gA, gA, trivial⟩ (fun T hp => ?_)
                obtain ⟨g31_0, g31_9, g31_12, g31_14, g31_21, g31_22, g31_27, g31_28, g31_29, g31_202, g31_203, g31_205, g31_206, g31_207, g31_209, g31_210, -⟩ := hp
                clear g29_0 g29_9 g29_12 g29_14 g29_21 g29_22 g29_27 g29_28 g29_29
                refine w_reg ?_; refine v_move ?_; obtain ⟨q643, hF⟩ := ck_some hF; refine v_add q643 ?_; refine v_move ?_; refine r_nil ?_; refine thn ⟨_, (inj hF).symm, rfl, ?_⟩; dsimp only
                exact ⟨F602, rfl, le602, st, gA, gA, gA, gA, gA, gA, gA, gA, gA⟩
            · have hF := bif_f hb636 hF; refine w_exit ?_; refine th_e ?_; refine th_e ?_; refine ⟨_, (inj hF).symm, rfl, rfl, ?_⟩; dsimp only
              exact ⟨F602, rfl, le602, st, gA, gA, gA, gA, gA, gA, gA, gA⟩
          · obtain ⟨N9, T, ds635⟩ := a; obtain ⟨h667, n668⟩ := σ; obtain ⟨rfl, e1, F635, e2, le635, st, t0, t9, t12, t14, t21, t22, t27, t28⟩ := hq
            dsimp only at e1 e2
            subst e1
            subst e2
            dsimp only at st t0 t9 t12 t14 t21 t22 t27 t28
            have le644 := PH.le.trans le502 le635
            have le645 := PH.le.trans le503 le635
            have le646 := PH.le.trans le504 le635
            have le647 := PH.le.trans le505 le635
            have le648 := PH.le.trans le506 le635
            have le649 := PH.le.trans le507 le635
            have le650 := PH.le.trans le508 le635
            have le651 := PH.le.trans le509 le635
            have le652 := PH.le.trans le510 le635
            have le653 := PH.le.trans le511 le635
            have le654 := PH.le.trans le512 le635
            have le655 := PH.le.trans le513 le635
            have le656 := PH.le.trans le514 le635
            have le657 := PH.le.trans le515 le635
            have le658 := PH.le.trans le516 le635
            have le659 := PH.le.trans le517 le635
            have le660 := PH.le.trans le518 le635
            have le661 := PH.le.trans le519 le635
            have le662 := PH.le.trans le520 le635
            have le663 := PH.le.trans le521 le635
            have le664 := PH.le.trans le522 le635
            have le665 := PH.le.trans le523 le635
            have le666 := PH.le.trans le501 le635
            refine ib_e ?_; refine th_n ?_; refine w_gen (fun T => T.get 0 = some (.slice pa0 (a0).length ca0) ∧ T.get 9 = some (.slice (o6.map fun b => (b, 0)) ((a1 ++ [(a2_0, a2_1, a2_2)])).length c6) ∧ T.get 12 = some (.slice py77 (v70.1).length cy77) ∧ T.get 14 = some (.slice py107 (v97.1).length cy107) ∧ T.get 21 = some (i64 v249.1) ∧ T.get 22 = some (.slice py269 (v249.2.1).length cy269) ∧ T.get 27 = some (i64 x500) ∧ T.get 28 = some (.bool y634) ∧ True) ⟨gA, gA, gA, gA, gA, gA, gA, gA, trivial⟩ (fun T hp => ?_); obtain ⟨g32_0, g32_9, g32_12, g32_14, g32_21, g32_22, g32_27, g32_28, -⟩ := hp
            clear g23_0 g23_9 g23_12 g23_14 g23_21 g23_22 g23_27
            refine w_seq ?_; refine w_reg ?_; refine v_move ?_; refine v_not ?_; refine r_nil ?_; refine th_n ?_; refine v_cond (fun hb669 => ?_) (fun hb669 => ?_)
            · have hF := bif_t hb669 hF; refine w_seq ?_; refine w_reg ?_; refine v_move ?_; refine r_nil ?_; refine th_n ?_; refine w_ret ?_; refine ib_r ?_; refine th_r ?_; refine th_r ?_; refine ⟨_, (inj hF).symm, .inl ⟨_, rfl, rfl, rfl, ?_⟩⟩; dsimp only
              exact ⟨F635, rfl, le666, st, gA⟩
            · have hF := bif_f hb669 hF; refine w_skip ?_; refine ib_n ?_; refine th_n ?_; refine w_gen (fun T => T.get 0 = some (.slice pa0 (a0).length ca0) ∧ T.get 9 = some (.slice (o6.map fun b => (b, 0)) ((a1 ++ [(a2_0, a2_1, a2_2)])).length c6) ∧ T.get 12 = some (.slice py77 (v70.1).length cy77) ∧ T.get 14 = some (.slice py107 (v97.1).length cy107) ∧ T.get 21 = some (i64 v249.1) ∧ T.get 22 = some (.slice py269 (v249.2.1).length cy269) ∧ T.get 27 = some (i64 x500) ∧ True) ⟨gA, gA, gA, gA, gA, gA, gA, trivial⟩ (fun T hp => ?_); obtain ⟨g33_0, g33_9, g33_12, g33_14, g33_21, g33_22, g33_27, -⟩ := hp
              clear g32_0 g32_9 g32_12 g32_14 g32_21 g32_22 g32_27 g32_28
              refine w_reg ?_; refine v_move ?_; obtain ⟨q670, hF⟩ := ck_some hF; refine v_add q670 ?_; refine v_move ?_; refine r_nil ?_; refine thn ⟨_, (inj hF).symm, rfl, ?_⟩; dsimp only
              exact ⟨F635, rfl, le666, st, gA, gA, gA, gA, gA, gA, gA⟩
        · have hF := bif_f hb600 hF; refine w_exit ?_; refine th_e ?_; refine th_e ?_; refine ⟨_, (inj hF).symm, .inr (⟨_, rfl, rfl, rfl, ?_⟩)⟩; dsimp only
          exact ⟨F501, rfl, le501, st, gA, gA, gA, gA⟩
      · rcases hq with hq | hq
        · obtain ⟨N9, T, ds597⟩ := a; obtain ⟨h693, n694⟩ := σ; obtain ⟨w596, rfl, rfl, e1, F597, e2, le597, st, t8⟩ := hq
          dsimp only at e1 e2
          subst e1
          subst e2
          dsimp only at st t8
          have le671 := PH.le.trans le479 le597
          have le672 := PH.le.trans le480 le597
          have le673 := PH.le.trans le481 le597
          have le674 := PH.le.trans le482 le597
          have le675 := PH.le.trans le483 le597
          have le676 := PH.le.trans le484 le597
          have le677 := PH.le.trans le485 le597
          have le678 := PH.le.trans le486 le597
          have le679 := PH.le.trans le487 le597
          have le680 := PH.le.trans le488 le597
          have le681 := PH.le.trans le489 le597
          have le682 := PH.le.trans le490 le597
          have le683 := PH.le.trans le491 le597
          have le684 := PH.le.trans le492 le597
          have le685 := PH.le.trans le493 le597
          have le686 := PH.le.trans le494 le597
          have le687 := PH.le.trans le495 le597
          have le688 := PH.le.trans le496 le597
          have le689 := PH.le.trans le497 le597
          have le690 := PH.le.trans le498 le597
          have le691 := PH.le.trans le499 le597
          have le692 := PH.le.trans le401 le597
          have hF := sel_l hF; refine ib_r ?_; refine th_r ?_; obtain rfl := inj hF
          exact end_s st (Res.t gA Res.nil) rfl rfl
        · obtain ⟨N9, T, ds599⟩ := a; obtain ⟨h717, n718⟩ := σ; obtain ⟨w598, rfl, rfl, e1, F599, e2, le599, st, t0, t9, t21, t22⟩ := hq
          dsimp only at e1 e2
          subst e1
          subst e2
          dsimp only at st t0 t9 t21 t22
          have le695 := PH.le.trans le479 le599
          have le696 := PH.le.trans le480 le599
          have le697 := PH.le.trans le481 le599
          have le698 := PH.le.trans le482 le599
          have le699 := PH.le.trans le483 le599
          have le700 := PH.le.trans le484 le599
          have le701 := PH.le.trans le485 le599
          have le702 := PH.le.trans le486 le599
          have le703 := PH.le.trans le487 le599
          have le704 := PH.le.trans le488 le599
          have le705 := PH.le.trans le489 le599
          have le706 := PH.le.trans le490 le599
          have le707 := PH.le.trans le491 le599
          have le708 := PH.le.trans le492 le599
          have le709 := PH.le.trans le493 le599
          have le710 := PH.le.trans le494 le599
          have le711 := PH.le.trans le495 le599
          have le712 := PH.le.trans le496 le599
          have le713 := PH.le.trans le497 le599
          have le714 := PH.le.trans le498 le599
          have le715 := PH.le.trans le499 le599
          have le716 := PH.le.trans le401 le599
          have hF := sel_r hF; refine ib_e ?_; refine th_n ?_; refine w_gen (fun T => T.get 0 = some (.slice pa0 (a0).length ca0) ∧ T.get 9 = some (.slice (o6.map fun b => (b, 0)) ((a1 ++ [(a2_0, a2_1, a2_2)])).length c6) ∧ T.get 21 = some (i64 v249.1) ∧ T.get 22 = some (.slice py269 (v249.2.1).length cy269) ∧ True) ⟨gA, gA, gA, gA, trivial⟩ (fun T hp => ?_); obtain ⟨g34_0, g34_9, g34_21, g34_22, -⟩ := hp
          clear g9_0 g9_9 g9_12 g9_13 g9_14 g9_15 g9_16 g9_17 g9_19 g9_20 g9_21 g9_22 g9_23 g9_24 g9_25 g9_26
          refine w_seq ?_; refine w_reg ?_; refine v_move ?_; refine r_nil ?_; refine th_n ?_; refine w_seq ?_; refine w_seq ?_; refine w_reg ?_; refine v_move ?_; refine r_nil ?_; refine th_n ?_; refine w_block ?_
          have st := st.nilL 3
          have w719 : LR (rP rI (rP rI rI)) 3 F599 ([] : List (Int × Int × Int)) [] := LR.nil
          obtain ⟨y820, hy, hF⟩ := bnd_some hF; refine v_loopD (sf15_L4 N a1 a2_0 a2_1 a2_2 v249) (fun x721 T ds722 h nx => ∃ (F722 : PH) (o723 : Option Nat) (c723 : Nat) (cs723 : List HV), ds722 = [] ∧ PH.le F599 F722 ∧ St n0 h0 F0 F722 h nx [.bx b1 [(i64 a2_0), (i64 a2_1), (i64 a2_2)], .bx n4 [(i64 a2_0), (i64 a2_1), (i64 a2_2)], .ls o723 c723 cs723 3] ∧ LR (rP rI (rP rI rI)) 3 F722 x721.1 cs723 ∧ T.get 0 = some (.slice pa0 (a0).length ca0) ∧ T.get 9 = some (.slice (o6.map fun b => (b, 0)) ((a1 ++ [(a2_0, a2_1, a2_2)])).length c6) ∧ T.get 21 = some (i64 v249.1) ∧ T.get 22 = some (.slice py269 (v249.2.1).length cy269) ∧ T.get 30 = some (slv o723 (x721.1).length c723) ∧ T.get 31 = some (i64 x721.2)) (fun y e a σ => e = .exit 4 ∧ a.nt = 276 ∧ ∃ (F821 : PH) (o822 : Option Nat) (c822 : Nat) (cs822 : List HV), a.defers = [] ∧ PH.le F599 F821 ∧ St n0 h0 F0 F821 σ.h σ.nx [.bx b1 [(i64 a2_0), (i64 a2_1), (i64 a2_2)], .bx n4 [(i64 a2_0), (i64 a2_1), (i64 a2_2)], .ls o822 c822 cs822 3] ∧ LR (rP rI (rP rI rI)) 3 F821 y cs822 ∧ a.tmps.get 0 = some (.slice pa0 (a0).length ca0) ∧ a.tmps.get 9 = some (.slice (o6.map fun b => (b, 0)) ((a1 ++ [(a2_0, a2_1, a2_2)])).length c6) ∧ a.tmps.get 21 = some (i64 v249.1) ∧ a.tmps.get 22 = some (.slice py269 (v249.2.1).length cy269) ∧ a.tmps.get 30 = some (slv o822 (y).length c822)) (fun x721 T ds722 h nx s hp hF => ?_) N _ y820 _ _ _ _ hy ⟨F599, none, 0, [], rfl, (PH.le.refl _), st, w719, gA, gA, gA, gA, gA, gA⟩ (fun e a σ hne hq => ?_)
          · obtain ⟨F722, o723, c723, cs723, rfl, le722, st, w723, t0, t9, t21, t22, t30, t31⟩ := hp
            have le724 := PH.le.trans le695 le722
            have le725 := PH.le.trans le696 le722
            have le726 := PH.le.trans le697 le722
            have le727 := PH.le.trans le698 le722
            have le728 := PH.le.trans le699 le722
            have le729 := PH.le.trans le700 le722
            have le730 := PH.le.trans le701 le722
            have le731 := PH.le.trans le702 le722
            have le732 := PH.le.trans le703 le722
            have le733 := PH.le.trans le704 le722
            have le734 := PH.le.trans le705 le722
            have le735 := PH.le.trans le706 le722
            have le736 := PH.le.trans le707 le722
            have le737 := PH.le.trans le708 le722
            have le738 := PH.le.trans le709 le722
            have le739 := PH.le.trans le710 le722
            have le740 := PH.le.trans le711 le722
            have le741 := PH.le.trans le712 le722
            have le742 := PH.le.trans le713 le722
            have le743 := PH.le.trans le714 le722
            have le744 := PH.le.trans le715 le722
            have le745 := PH.le.trans le716 le722
            have le746 := PH.le.trans le599 le722
            unfold sf15_L4 at hF; unfold L15w1; refine w_seq ?_; refine w_seq ?_; refine w_reg ?_; refine v_move ?_; refine v_move ?_; refine v_len ?_; refine v_lss ?_; refine r_nil ?_; refine th_n ?_; refine w_gen (fun T => T.get 0 = some (.slice pa0 (a0).length ca0) ∧ T.get 9 = some (.slice (o6.map fun b => (b, 0)) ((a1 ++ [(a2_0, a2_1, a2_2)])).length c6) ∧ T.get 21 = some (i64 v249.1) ∧ T.get 22 = some (.slice py269 (v249.2.1).length cy269) ∧ T.get 30 = some (slv o723 (x721.1).length c723) ∧ T.get 31 = some (i64 x721.2) ∧ T.get 217 = some (.bool (decide (x721.2 < (((a1 ++ [(a2_0, a2_1, a2_2)])).length : Int)))) ∧ True) ⟨gA, gA, gA, gA, gA, gA, gA, trivial⟩ (fun T hp => ?_); obtain ⟨g48_0, g48_9, g48_21, g48_22, g48_30, g48_31, g48_217, -⟩ := hp
            clear g34_0 g34_9 g34_21 g34_22
            refine v_cond (fun hb823 => ?_) (fun hb823 => ?_)
            · have hF := bif_t hb823 hF; refine w_skip ?_; refine th_n ?_; refine w_gen (fun T => T.get 0 = some (.slice pa0 (a0).length ca0) ∧ T.get 9 = some (.slice (o6.map fun b => (b, 0)) ((a1 ++ [(a2_0, a2_1, a2_2)])).length c6) ∧ T.get 21 = some (i64 v249.1) ∧ T.get 22 = some (.slice py269 (v249.2.1).length cy269) ∧ T.get 30 = some (slv o723 (x721.1).length c723) ∧ T.get 31 = some (i64 x721.2) ∧ True) ⟨gA, gA, gA, gA, gA, gA, trivial⟩ (fun T hp => ?_); obtain ⟨g49_0, g49_9, g49_21, g49_22, g49_30, g49_31, -⟩ := hp
              clear g48_0 g48_9 g48_21 g48_22 g48_30 g48_31 g48_217
              refine w_seq ?_; refine w_block ?_; refine w_seq ?_; refine w_reg ?_; refine v_move ?_; refine r_nil ?_; refine th_n ?_; refine w_seq ?_; refine w_seq ?_; refine w_reg ?_; refine v_move ?_; refine r_nil ?_; refine th_n ?_; refine w_block ?_; obtain ⟨y855, hy, hF⟩ := bnd_some hF; refine v_loopD (sf15_L3 v249 x721) (fun x824 T ds825 h nx => ∃ (F825 : PH), ds825 = [] ∧ PH.le F722 F825 ∧ St n0 h0 F0 F825 h nx [.bx b1 [(i64 a2_0), (i64 a2_1), (i64 a2_2)], .bx n4 [(i64 a2_0), (i64 a2_1), (i64 a2_2)], .ls o723 c723 cs723 3] ∧ T.get 0 = some (.slice pa0 (a0).length ca0) ∧ T.get 9 = some (.slice (o6.map fun b => (b, 0)) ((a1 ++ [(a2_0, a2_1, a2_2)])).length c6) ∧ T.get 21 = some (i64 v249.1) ∧ T.get 22 = some (.slice py269 (v249.2.1).length cy269) ∧ T.get 30 = some (slv o723 (x721.1).length c723) ∧ T.get 31 = some (i64 x721.2) ∧ T.get 32 = some (.bool x824.1) ∧ T.get 33 = some (i64 x824.2)) (fun y e a σ => e = .exit 6 ∧ a.nt = 276 ∧ ∃ (F856 : PH), a.defers = [] ∧ PH.le F722 F856 ∧ St n0 h0 F0 F856 σ.h σ.nx [.bx b1 [(i64 a2_0), (i64 a2_1), (i64 a2_2)], .bx n4 [(i64 a2_0), (i64 a2_1), (i64 a2_2)], .ls o723 c723 cs723 3] ∧ a.tmps.get 0 = some (.slice pa0 (a0).length ca0) ∧ a.tmps.get 9 = some (.slice (o6.map fun b => (b, 0)) ((a1 ++ [(a2_0, a2_1, a2_2)])).length c6) ∧ a.tmps.get 21 = some (i64 v249.1) ∧ a.tmps.get 22 = some (.slice py269 (v249.2.1).length cy269) ∧ a.tmps.get 30 = some (slv o723 (x721.1).length c723) ∧ a.tmps.get 31 = some (i64 x721.2) ∧ a.tmps.get 32 = some (.bool y)) (fun x824 T ds825 h nx s hp hF => ?_) N _ y855 _ _ _ _ hy ⟨F722, rfl, (PH.le.refl _), st, gA, gA, gA, gA, gA, gA, gA, gA⟩ (fun e a σ hne hq => ?_)
              · obtain ⟨F825, rfl, le825, st, t0, t9, t21, t22, t30, t31, t32, t33⟩ := hp
                have le826 := PH.le.trans le724 le825
                have le827 := PH.le.trans le725 le825
                have le828 := PH.le.trans le726 le825
                have le829 := PH.le.trans le727 le825
                have le830 := PH.le.trans le728 le825
                have le831 := PH.le.trans le729 le825
                have le832 := PH.le.trans le730 le825
                have le833 := PH.le.trans le731 le825
                have le834 := PH.le.trans le732 le825
                have le835 := PH.le.trans le733 le825
                have le836 := PH.le.trans le734 le825
                have le837 := PH.le.trans le735 le825
                have le838 := PH.le.trans le736 le825
                have le839 := PH.le.trans le737 le825
                have le840 := PH.le.trans le738 le825
                have le841 := PH.le.trans le739 le825
                have le842 := PH.le.trans le740 le825
                have le843 := PH.le.trans le741 le825
                have le844 := PH.le.trans le742 le825
                have le845 := PH.le.trans le743 le825
                have le846 := PH.le.trans le744 le825
                have le847 := PH.le.trans le745 le825
                have le848 := PH.le.trans le746 le825
                have le849 := PH.le.trans le722 le825
                unfold sf15_L3 at hF; unfold L15w0; refine w_seq ?_; refine w_seq ?_; refine w_reg ?_; refine v_move ?_; refine v_move ?_; refine v_len ?_; refine v_lss ?_; refine r_nil ?_; refine th_n ?_; refine w_gen (fun T => T.get 0 = some (.slice pa0 (a0).length ca0) ∧ T.get 9 = some (.slice (o6.map fun b => (b, 0)) ((a1 ++ [(a2_0, a2_1, a2_2)])).length c6) ∧ T.get 21 = some (i64 v249.1) ∧ T.get 22 = some (.slice py269 (v249.2.1).length cy269) ∧ T.get 30 = some (slv o723 (x721.1).length c723) ∧ T.get 31 = some (i64 x721.2) ∧ T.get 32 = some (.bool x824.1) ∧ T.get 33 = some (i64 x824.2) ∧ T.get 223 = some (.bool (decide (x824.2 < ((v249.2.1).length : Int)))) ∧ True) ⟨gA, gA, gA, gA, gA, gA, gA, gA, gA, trivial⟩ (fun T hp => ?_)
                obtain ⟨g54_0, g54_9, g54_21, g54_22, g54_30, g54_31, g54_32, g54_33, g54_223, -⟩ := hp
                clear g49_0 g49_9 g49_21 g49_22 g49_30 g49_31
                refine v_cond (fun hb857 => ?_) (fun hb857 => ?_)
                · have hF := bif_t hb857 hF; refine w_skip ?_; refine th_n ?_; refine w_gen (fun T => T.get 0 = some (.slice pa0 (a0).length ca0) ∧ T.get 9 = some (.slice (o6.map fun b => (b, 0)) ((a1 ++ [(a2_0, a2_1, a2_2)])).length c6) ∧ T.get 21 = some (i64 v249.1) ∧ T.get 22 = some (.slice py269 (v249.2.1).length cy269) ∧ T.get 30 = some (slv o723 (x721.1).length c723) ∧ T.get 31 = some (i64 x721.2) ∧ T.get 32 = some (.bool x824.1) ∧ T.get 33 = some (i64 x824.2) ∧ True) ⟨gA, gA, gA, gA, gA, gA, gA, gA, trivial⟩ (fun T hp => ?_); obtain ⟨g55_0, g55_9, g55_21, g55_22, g55_30, g55_31, g55_32, g55_33, -⟩ := hp
                  clear g54_0 g54_9 g54_21 g54_22 g54_30 g54_31 g54_32 g54_33 g54_223
                  refine w_seq ?_; refine w_block ?_; refine w_reg ?_; refine v_move ?_; refine v_move ?_
                  rcases Bool.eq_false_or_eq_true x824.1 with hb858 | hb858
                  · have hF := bif_t hb858 hF; refine g_skip hb858 ?_; refine g_skip hb858 ?_; refine g_skip hb858 ?_; refine g_skip hb858 ?_; refine g_skip hb858 ?_; refine g_skip hb858 ?_; refine v_pick hb858 ?_; refine v_move ?_; refine r_nil ?_; refine ib_n ?_; refine th_n ?_; refine w_gen (fun T => T.get 0 = some (.slice pa0 (a0).length ca0) ∧ T.get 9 = some (.slice (o6.map fun b => (b, 0)) ((a1 ++ [(a2_0, a2_1, a2_2)])).length c6) ∧ T.get 21 = some (i64 v249.1) ∧ T.get 22 = some (.slice py269 (v249.2.1).length cy269) ∧ T.get 30 = some (slv o723 (x721.1).length c723) ∧ T.get 31 = some (i64 x721.2) ∧ T.get 32 = some (.bool true) ∧ T.get 33 = some (i64 x824.2) ∧ True) ⟨gA, gA, gA, gA, gA, gA, gA, gA, trivial⟩ (fun T hp => ?_)
                    obtain ⟨g56_0, g56_9, g56_21, g56_22, g56_30, g56_31, g56_32, g56_33, -⟩ := hp
                    clear g55_0 g55_9 g55_21 g55_22 g55_30 g55_31 g55_32 g55_33
                    refine w_reg ?_; refine v_move ?_; obtain ⟨q859, hF⟩ := ck_some hF; refine v_add q859 ?_; refine v_move ?_; refine r_nil ?_; refine thn ⟨_, (inj hF).symm, rfl, ?_⟩; dsimp only
                    exact ⟨F825, rfl, le825, st, gA, gA, gA, gA, gA, gA, gA, gA⟩
                  · have hF := bif_f hb858 hF; refine g_take hb858 (v_move ?_); refine g_take hb858 (v_move ?_); obtain ⟨n860, x860, z860, l860, g860, hF⟩ := ix_some hF; obtain ⟨b860, o860, s860, j860, r860, e860, f860, k860, rfl⟩ := RowF.get ry269 g860; refine g_take hb858 (v_ixp e860 z860 l860 ?_); refine g_take hb858 (v_ld1 (st.sub _ _ (le844 _ _ f860)) (take_at (j := 0) k860 rfl) ?_); refine g_take hb858 (v_move ?_); refine g_take hb858 (v_eqi ?_); refine v_pick' hb858 ?_; refine v_move ?_; refine r_nil ?_; refine ib_n ?_; refine th_n ?_; refine w_gen (fun T => T.get 0 = some (.slice pa0 (a0).length ca0) ∧ T.get 9 = some (.slice (o6.map fun b => (b, 0)) ((a1 ++ [(a2_0, a2_1, a2_2)])).length c6) ∧ T.get 21 = some (i64 v249.1) ∧ T.get 22 = some (.slice py269 (v249.2.1).length cy269) ∧ T.get 30 = some (slv o723 (x721.1).length c723) ∧ T.get 31 = some (i64 x721.2) ∧ T.get 32 = some (.bool (decide (x860 = x721.2))) ∧ T.get 33 = some (i64 x824.2) ∧ T.get 228 = some (.slice py269 (v249.2.1).length cy269) ∧ T.get 229 = some (i64 x824.2) ∧ T.get 231 = some (i64 x860) ∧ T.get 232 = some (i64 x721.2) ∧ T.get 233 = some (.bool (decide (x860 = x721.2))) ∧ True) ⟨gA, gA, gA, gA, gA, gA, gA, gA, gA, gA, gA, gA, gA, trivial⟩ (fun T hp => ?_)
                    obtain ⟨g57_0, g57_9, g57_21, g57_22, g57_30, g57_31, g57_32, g57_33, g57_228, g57_229, g57_231, g57_232, g57_233, -⟩ := hp
                    clear g55_0 g55_9 g55_21 g55_22 g55_30 g55_31 g55_32 g55_33
                    refine w_reg ?_; refine v_move ?_; obtain ⟨q861, hF⟩ := ck_some hF; refine v_add q861 ?_; refine v_move ?_; refine r_nil ?_; refine thn ⟨_, (inj hF).symm, rfl, ?_⟩; dsimp only
                    exact ⟨F825, rfl, le825, st, gA, gA, gA, gA, gA, gA, gA, gA⟩
                · have hF := bif_f hb857 hF; refine w_exit ?_; refine th_e ?_; refine th_e ?_; refine ⟨_, (inj hF).symm, rfl, rfl, ?_⟩; dsimp only
                  exact ⟨F825, rfl, le825, st, gA, gA, gA, gA, gA, gA, gA⟩
              · obtain ⟨N9, T, ds856⟩ := a; obtain ⟨h886, n887⟩ := σ; obtain ⟨rfl, e1, F856, e2, le856, st, t0, t9, t21, t22, t30, t31, t32⟩ := hq
                dsimp only at e1 e2
                subst e1
                subst e2
                dsimp only at st t0 t9 t21 t22 t30 t31 t32
                have le862 := PH.le.trans le724 le856
                have le863 := PH.le.trans le725 le856
                have le864 := PH.le.trans le726 le856
                have le865 := PH.le.trans le727 le856
                have le866 := PH.le.trans le728 le856
                have le867 := PH.le.trans le729 le856
                have le868 := PH.le.trans le730 le856
                have le869 := PH.le.trans le731 le856
                have le870 := PH.le.trans le732 le856
                have le871 := PH.le.trans le733 le856
                have le872 := PH.le.trans le734 le856
                have le873 := PH.le.trans le735 le856
                have le874 := PH.le.trans le736 le856
                have le875 := PH.le.trans le737 le856
                have le876 := PH.le.trans le738 le856
                have le877 := PH.le.trans le739 le856
                have le878 := PH.le.trans le740 le856
                have le879 := PH.le.trans le741 le856
                have le880 := PH.le.trans le742 le856
                have le881 := PH.le.trans le743 le856
                have le882 := PH.le.trans le744 le856
                have le883 := PH.le.trans le745 le856
                have le884 := PH.le.trans le746 le856
                have le885 := PH.le.trans le722 le856
                refine ib_e ?_; refine th_n ?_; refine w_gen (fun T => T.get 0 = some (.slice pa0 (a0).length ca0) ∧ T.get 9 = some (.slice (o6.map fun b => (b, 0)) ((a1 ++ [(a2_0, a2_1, a2_2)])).length c6) ∧ T.get 21 = some (i64 v249.1) ∧ T.get 22 = some (.slice py269 (v249.2.1).length cy269) ∧ T.get 30 = some (slv o723 (x721.1).length c723) ∧ T.get 31 = some (i64 x721.2) ∧ T.get 32 = some (.bool y855) ∧ True) ⟨gA, gA, gA, gA, gA, gA, gA, trivial⟩ (fun T hp => ?_); obtain ⟨g58_0, g58_9, g58_21, g58_22, g58_30, g58_31, g58_32, -⟩ := hp
                clear g49_0 g49_9 g49_21 g49_22 g49_30 g49_31
                refine w_seq ?_; refine w_reg ?_; refine v_move ?_; refine v_not ?_; refine r_nil ?_; refine th_n ?_; refine v_cond (fun hb888 => ?_) (fun hb888 => ?_)
                · have hF := bif_t hb888 hF; refine w_reg ?_; refine v_move ?_; refine v_move ?_; refine v_move ?_; obtain ⟨n889, x889, z889, l889, g889, hF⟩ := ix_some hF; obtain ⟨b889, o889, s889, j889, r889, e889, f889, k889, ⟨_, _, rfl, rfl, ⟨_, _, rfl, rfl, rfl⟩⟩⟩ := RowF.get rf48 g889; refine v_ixp e889 z889 l889 ?_; refine v_ldn (st.sub _ _ (le864 _ _ f889)) k889 ?_; refine v_bs (cs := [(i64 x889.1), (i64 x889.2.1), (i64 x889.2.2)]) st rfl (fun b890 h891 n892 st => ?_); obtain ⟨q893, hF⟩ := ck_some hF
                  have w893 : LR (rP rI (rP rI rI)) 3 F856 (x721.1 ++ [(x889.1, x889.2.1, x889.2.2)]) (cs723 ++ [(i64 x889.1), (i64 x889.2.1), (i64 x889.2.2)]) := LR.app (LR.mono le856 w723) (LR.one (⟨[(i64 x889.1)], [(i64 x889.2.1), (i64 x889.2.2)], rfl, rfl, ⟨[(i64 x889.2.1)], [(i64 x889.2.2)], rfl, rfl, rfl⟩⟩))
                  refine v_aps (n := 1) (ox := 0) (m := (x721.1 ++ [(x889.1, x889.2.1, x889.2.2)]).length) (row := [(i64 x889.1), (i64 x889.2.1), (i64 x889.2.2)]) st 2 rfl (LR.mono le856 w723).1 (st.at (i := 3) rfl).2.2 rfl rfl q893 hfl (by decide) (by decide) (by simp) (fun o893 c893 h893 n893 st => ?_)
                  refine v_move ?_; refine r_nil ?_; refine ib_n ?_; refine th_n ?_; refine w_gen (fun T => T.get 0 = some (.slice pa0 (a0).length ca0) ∧ T.get 9 = some (.slice (o6.map fun b => (b, 0)) ((a1 ++ [(a2_0, a2_1, a2_2)])).length c6) ∧ T.get 21 = some (i64 v249.1) ∧ T.get 22 = some (.slice py269 (v249.2.1).length cy269) ∧ T.get 30 = some (slv o893 ((x721.1 ++ [(x889.1, x889.2.1, x889.2.2)])).length c893) ∧ T.get 31 = some (i64 x721.2) ∧ True) ⟨gA, gA, gA, gA, gA, gA, trivial⟩ (fun T hp => ?_); obtain ⟨g59_0, g59_9, g59_21, g59_22, g59_30, g59_31, -⟩ := hp
                  clear g58_0 g58_9 g58_21 g58_22 g58_30 g58_31 g58_32
                  refine w_reg ?_; refine v_move ?_; obtain ⟨q894, hF⟩ := ck_some hF; refine v_add q894 ?_; refine v_move ?_; refine r_nil ?_; refine thn ⟨_, (inj hF).symm, rfl, ?_⟩; dsimp only
                  exact ⟨F856, o893, c893, (cs723 ++ [(i64 x889.1), (i64 x889.2.1), (i64 x889.2.2)]), rfl, le885, (st.drop (by first | exact List.Sublist.refl _ | (repeat first | exact List.nil_sublist _ | refine List.Sublist.cons_cons _ ?_ | refine List.Sublist.cons _ ?_))), w893, gA, gA, gA, gA, gA, gA⟩
                · have hF := bif_f hb888 hF; refine w_skip ?_; refine ib_n ?_; refine th_n ?_; refine w_gen (fun T => T.get 0 = some (.slice pa0 (a0).length ca0) ∧ T.get 9 = some (.slice (o6.map fun b => (b, 0)) ((a1 ++ [(a2_0, a2_1, a2_2)])).length c6) ∧ T.get 21 = some (i64 v249.1) ∧ T.get 22 = some (.slice py269 (v249.2.1).length cy269) ∧ T.get 30 = some (slv o723 (x721.1).length c723) ∧ T.get 31 = some (i64 x721.2) ∧ True) ⟨gA, gA, gA, gA, gA, gA, trivial⟩ (fun T hp => ?_); obtain ⟨g60_0, g60_9, g60_21, g60_22, g60_30, g60_31, -⟩ := hp
                  clear g58_0 g58_9 g58_21 g58_22 g58_30 g58_31 g58_32
                  refine w_reg ?_; refine v_move ?_; obtain ⟨q895, hF⟩ := ck_some hF; refine v_add q895 ?_; refine v_move ?_; refine r_nil ?_; refine thn ⟨_, (inj hF).symm, rfl, ?_⟩; dsimp only
                  exact ⟨F856, o723, c723, cs723, rfl, le885, st, (LR.mono le856 w723), gA, gA, gA, gA, gA, gA⟩
            · have hF := bif_f hb823 hF; refine w_exit ?_; refine th_e ?_; refine th_e ?_; refine ⟨_, (inj hF).symm, rfl, rfl, ?_⟩; dsimp only
              exact ⟨F722, o723, c723, cs723, rfl, le722, st, w723, gA, gA, gA, gA, gA⟩
          · obtain ⟨N9, T, ds821⟩ := a; obtain ⟨h919, n920⟩ := σ; obtain ⟨rfl, e1, F821, o822, c822, cs822, e2, le821, st, w822, t0, t9, t21, t22, t30⟩ := hq
            dsimp only at e1 e2
            subst e1
            subst e2
            dsimp only at st t0 t9 t21 t22 t30
            have le896 := PH.le.trans le695 le821
            have le897 := PH.le.trans le696 le821
            have le898 := PH.le.trans le697 le821
            have le899 := PH.le.trans le698 le821
            have le900 := PH.le.trans le699 le821
            have le901 := PH.le.trans le700 le821
            have le902 := PH.le.trans le701 le821
            have le903 := PH.le.trans le702 le821
            have le904 := PH.le.trans le703 le821
            have le905 := PH.le.trans le704 le821
            have le906 := PH.le.trans le705 le821
            have le907 := PH.le.trans le706 le821
            have le908 := PH.le.trans le707 le821
            have le909 := PH.le.trans le708 le821
            have le910 := PH.le.trans le709 le821
            have le911 := PH.le.trans le710 le821
            have le912 := PH.le.trans le711 le821
            have le913 := PH.le.trans le712 le821
            have le914 := PH.le.trans le713 le821
            have le915 := PH.le.trans le714 le821
            have le916 := PH.le.trans le715 le821
            have le917 := PH.le.trans le716 le821
            have le918 := PH.le.trans le599 le821
            refine ib_e ?_; refine th_n ?_; refine w_gen (fun T => T.get 0 = some (.slice pa0 (a0).length ca0) ∧ T.get 9 = some (.slice (o6.map fun b => (b, 0)) ((a1 ++ [(a2_0, a2_1, a2_2)])).length c6) ∧ T.get 21 = some (i64 v249.1) ∧ T.get 22 = some (.slice py269 (v249.2.1).length cy269) ∧ T.get 30 = some (slv o822 (y820).length c822) ∧ True) ⟨gA, gA, gA, gA, gA, trivial⟩ (fun T hp => ?_); obtain ⟨g61_0, g61_9, g61_21, g61_22, g61_30, -⟩ := hp
            clear g34_0 g34_9 g34_21 g34_22
            refine w_seq ?_; refine w_reg ?_; refine v_move ?_; refine v_move ?_; obtain ⟨n921, x921, z921, l921, g921, hF⟩ := ix_some hF; obtain ⟨b921, o921, s921, j921, r921, e921, f921, k921, ⟨_, _, rfl, rfl, rfl⟩⟩ := RowF.get ra0 g921; refine v_ixp e921 z921 l921 ?_; refine v_ldn (st.sub _ _ (le896 _ _ f921)) k921 ?_; obtain ⟨v922, e923, hF⟩ := bnd_some hF; refine v_call st (ct17 N e923 st.d st.sub ) (fun n924 st => ?_); refine v_bs (cs := [(i64 v922.1), (i64 v922.2)]) st rfl (fun b925 h926 n927 st => ?_); refine v_move ?_; obtain ⟨v928, e929, hF⟩ := bnd_some hF
            obtain ⟨F930, le930, st, rf930⟩ := St.freeze st 2 rfl w822 (by decide)
            have le931 := PH.le.trans le896 le930
            have le932 := PH.le.trans le897 le930
            have le933 := PH.le.trans le898 le930
            have le934 := PH.le.trans le899 le930
            have le935 := PH.le.trans le900 le930
            have le936 := PH.le.trans le901 le930
            have le937 := PH.le.trans le902 le930
            have le938 := PH.le.trans le903 le930
            have le939 := PH.le.trans le904 le930
            have le940 := PH.le.trans le905 le930
            have le941 := PH.le.trans le906 le930
            have le942 := PH.le.trans le907 le930
            have le943 := PH.le.trans le908 le930
            have le944 := PH.le.trans le909 le930
            have le945 := PH.le.trans le910 le930
            have le946 := PH.le.trans le911 le930
            have le947 := PH.le.trans le912 le930
            have le948 := PH.le.trans le913 le930
            have le949 := PH.le.trans le914 le930
            have le950 := PH.le.trans le915 le930
            have le951 := PH.le.trans le916 le930
            have le952 := PH.le.trans le917 le930
            have le953 := PH.le.trans le918 le930
            have le954 := PH.le.trans le821 le930
            refine v_callR st (ct38 N e929 st.d st.sub (Nat.le_trans hfl st.ext.le) rf930) (fun u955 F955 h955 n955 le955 rv955 st => ?_)
            have le956 := PH.le.trans le931 le955
            have le957 := PH.le.trans le932 le955
            have le958 := PH.le.trans le933 le955
            have le959 := PH.le.trans le934 le955
            have le960 := PH.le.trans le935 le955
            have le961 := PH.le.trans le936 le955
            have le962 := PH.le.trans le937 le955
            have le963 := PH.le.trans le938 le955
            have le964 := PH.le.trans le939 le955
            have le965 := PH.le.trans le940 le955
            have le966 := PH.le.trans le941 le955
            have le967 := PH.le.trans le942 le955
            have le968 := PH.le.trans le943 le955
            have le969 := PH.le.trans le944 le955
            have le970 := PH.le.trans le945 le955
            have le971 := PH.le.trans le946 le955
            have le972 := PH.le.trans le947 le955
            have le973 := PH.le.trans le948 le955
            have le974 := PH.le.trans le949 le955
            have le975 := PH.le.trans le950 le955
            have le976 := PH.le.trans le951 le955
            have le977 := PH.le.trans le952 le955
            have le978 := PH.le.trans le953 le955
            have le979 := PH.le.trans le954 le955
            have le980 := PH.le.trans le930 le955
            obtain ⟨py981, cy981, rfl, ry981⟩ := rv955
            have st := St.asL st 2 rfl (n := 1) (sz := 2) rfl
            have w982 : LR (rP rI rI) 2 F955 [(v922.1, v922.2)] [(i64 v922.1), (i64 v922.2)] := (LR.one (⟨[(i64 v922.1)], [(i64 v922.2)], rfl, rfl, rfl⟩))
            obtain ⟨v983, e984, hF⟩ := bnd_some hF
            obtain ⟨F985, le985, st, rf985⟩ := St.freeze st 2 rfl w982 (by decide)
            have le986 := PH.le.trans le956 le985
            have le987 := PH.le.trans le957 le985
            have le988 := PH.le.trans le958 le985
            have le989 := PH.le.trans le959 le985
            have le990 := PH.le.trans le960 le985
            have le991 := PH.le.trans le961 le985
            have le992 := PH.le.trans le962 le985
            have le993 := PH.le.trans le963 le985
            have le994 := PH.le.trans le964 le985
            have le995 := PH.le.trans le965 le985
            have le996 := PH.le.trans le966 le985
            have le997 := PH.le.trans le967 le985
            have le998 := PH.le.trans le968 le985
            have le999 := PH.le.trans le969 le985
            have le1000 := PH.le.trans le970 le985
            have le1001 := PH.le.trans le971 le985
            have le1002 := PH.le.trans le972 le985
            have le1003 := PH.le.trans le973 le985
            have le1004 := PH.le.trans le974 le985
            have le1005 := PH.le.trans le975 le985
            have le1006 := PH.le.trans le976 le985
            have le1007 := PH.le.trans le977 le985
            have le1008 := PH.le.trans le978 le985
            have le1009 := PH.le.trans le979 le985
            have le1010 := PH.le.trans le980 le985
            have le1011 := PH.le.trans le955 le985
            refine v_callR st (ct37 N e984 st.d st.sub (Nat.le_trans hfl st.ext.le) rf985 (RowF.mono le985 ry981)) (fun u1012 F1012 h1012 n1012 le1012 rv1012 st => ?_)
            have le1013 := PH.le.trans le986 le1012
            have le1014 := PH.le.trans le987 le1012
            have le1015 := PH.le.trans le988 le1012
            have le1016 := PH.le.trans le989 le1012
            have le1017 := PH.le.trans le990 le1012
            have le1018 := PH.le.trans le991 le1012
            have le1019 := PH.le.trans le992 le1012
            have le1020 := PH.le.trans le993 le1012
            have le1021 := PH.le.trans le994 le1012
            have le1022 := PH.le.trans le995 le1012
            have le1023 := PH.le.trans le996 le1012
            have le1024 := PH.le.trans le997 le1012
            have le1025 := PH.le.trans le998 le1012
            have le1026 := PH.le.trans le999 le1012
            have le1027 := PH.le.trans le1000 le1012
            have le1028 := PH.le.trans le1001 le1012
            have le1029 := PH.le.trans le1002 le1012
            have le1030 := PH.le.trans le1003 le1012
            have le1031 := PH.le.trans le1004 le1012
            have le1032 := PH.le.trans le1005 le1012
            have le1033 := PH.le.trans le1006 le1012
            have le1034 := PH.le.trans le1007 le1012
            have le1035 := PH.le.trans le1008 le1012
            have le1036 := PH.le.trans le1009 le1012
            have le1037 := PH.le.trans le1010 le1012
            have le1038 := PH.le.trans le1011 le1012
            have le1039 := PH.le.trans le985 le1012
            obtain ⟨_, _, rfl, ⟨py1040, cy1040, rfl, ry1040⟩, rfl⟩ := rv1012; refine v_move ?_; refine v_xt rfl ?_; refine v_xt rfl ?_; refine v_move ?_; refine v_move ?_; refine r_nil ?_; refine th_n ?_; refine w_gen (fun T => T.get 9 = some (.slice (o6.map fun b => (b, 0)) ((a1 ++ [(a2_0, a2_1, a2_2)])).length c6) ∧ T.get 22 = some (.slice py269 (v249.2.1).length cy269) ∧ T.get 30 = some (.slice (o822.map fun b => (b, 0)) (y820).length c822) ∧ T.get 34 = some (.slice py1040 (v983.1).length cy1040) ∧ T.get 35 = some (i64 v983.2) ∧ True) ⟨gA, gA, gA, gA, gA, trivial⟩ (fun T hp => ?_); obtain ⟨g62_9, g62_22, g62_30, g62_34, g62_35, -⟩ := hp
            clear g61_0 g61_9 g61_21 g61_22 g61_30
            refine w_seq ?_; refine w_reg ?_; refine v_move ?_; refine v_eqi ?_; refine v_move ?_
            rcases Bool.eq_false_or_eq_true (decide (v983.2 = (0 : Int))) with hb1041 | hb1041
            · have hF := bif_t hb1041 hF; refine g_take hb1041 (v_move ?_); refine g_take hb1041 (v_len ?_); refine g_take hb1041 (v_move ?_); refine g_take hb1041 (v_len ?_); obtain ⟨q1042, hF⟩ := ck_some hF; refine g_take hb1041 (v_add q1042 ?_); refine g_take hb1041 (v_move ?_); refine g_take hb1041 (v_len ?_); refine g_take hb1041 (v_eqi ?_); refine v_pick hb1041 ?_; refine v_move ?_
              rcases Bool.eq_false_or_eq_true (decide ((((y820).length : Int) + ((v249.2.1).length : Int)) = (((a1 ++ [(a2_0, a2_1, a2_2)])).length : Int))) with hb1043 | hb1043
              · have hF := bif_t hb1043 hF; refine g_take hb1043 (v_move ?_); refine g_take hb1043 (v_bs (cs := [(i64 (0 : Int))]) st rfl (fun b1044 h1045 n1046 st => ?_))
                have st := St.asL st 2 rfl (n := 1) (sz := 1) rfl
                have w1047 : LR rI 1 F1012 [(0 : Int)] [(i64 (0 : Int))] := (LR.one (rfl))
                obtain ⟨v1048, e1049, hF⟩ := bnd_some hF
                refine g_take hb1043 (v_call st (ct42 N e1049 st.d (all_sub _) (RowF.mono st.all_le ry1040) (st.row_all (i := 2) rfl w1047 (by decide))) (fun n1050 st => ?_))
                refine v_pick hb1043 ?_; refine v_move ?_
                rcases Bool.eq_false_or_eq_true v1048 with hb1051 | hb1051
                · have hF := bif_t hb1051 hF; refine g_take hb1051 (v_call st (ct_wakes (h := _) (nx := _)) (fun n1052 st => ?_)); refine v_pick hb1051 ?_; refine v_move ?_; refine r_nil ?_; refine th_n ?_; refine w_ret ?_; obtain rfl := inj hF
                  exact end_s st (Res.t gA Res.nil) rfl rfl
                · have hF := bif_f hb1051 hF; refine g_skip hb1051 ?_; refine v_pick' hb1051 ?_; refine v_move ?_; refine r_nil ?_; refine th_n ?_; refine w_ret ?_; obtain rfl := inj hF
                  exact end_s st (Res.t gA Res.nil) rfl rfl
              · have hF := bif_f hb1043 hF; refine g_skip hb1043 ?_; refine g_skip hb1043 ?_; refine g_skip hb1043 ?_; refine v_pick' hb1043 ?_; refine v_move ?_; refine g_skip rfl ?_; refine v_pick' rfl ?_; refine v_move ?_; refine r_nil ?_; refine th_n ?_; refine w_ret ?_; obtain rfl := inj hF
                exact end_s st (Res.t gA Res.nil) rfl rfl
            · have hF := bif_f hb1041 hF; refine g_skip hb1041 ?_; refine g_skip hb1041 ?_; refine g_skip hb1041 ?_; refine g_skip hb1041 ?_; refine g_skip hb1041 ?_; refine g_skip hb1041 ?_; refine g_skip hb1041 ?_; refine g_skip hb1041 ?_; refine v_pick' hb1041 ?_; refine v_move ?_; refine g_skip rfl ?_; refine g_skip rfl ?_; refine g_skip rfl ?_; refine v_pick' rfl ?_; refine v_move ?_; refine g_skip rfl ?_; refine v_pick' rfl ?_; refine v_move ?_; refine r_nil ?_; refine th_n ?_; refine w_ret ?_; obtain rfl := inj hF
              exact end_s st (Res.t gA Res.nil) rfl rfl
end Go.Hx.V


/- Loops of functions on lists and numbers: what they come to. -/
namespace Go.Hx.V
open Go.Hx
theorem iter_ind {α β : Type} {step : α → Option (α ⊕ β)} (P : α → Prop) (m : α → Nat) (Y : β → Prop)
    (h : ∀ x, P x → (∃ x', step x = some (.inl x') ∧ P x' ∧ m x' < m x) ∨ ∃ y, step x = some (.inr y) ∧ Y y) : ∀ (N : Nat) (x : α), P x → m x < N → ∃ y, iter step N x = some y ∧ Y y
  | 0, x, hp, hm => by omega
  | N + 1, x, hp, hm => by
    unfold iter
    rcases h x hp with ⟨x', e, hp', hm'⟩ | ⟨y, e, hy⟩
    · rw [e]; exact iter_ind P m Y h N x' hp' (by omega)
    · rw [e]; exact ⟨y, rfl, hy⟩
theorem iter_run {α β : Type} {step : α → Option (α ⊕ β)} (s : Nat → α) (y : β) : ∀ (n i N : Nat), (∀ j, i ≤ j → j < i + n → step (s j) = some (.inl (s (j + 1)))) → step (s (i + n)) = some (.inr y) → n < N → iter step N (s i) = some y
  | 0, i, N, hs, he, hN => by
    obtain ⟨N, rfl⟩ : ∃ k, N = k + 1 := ⟨N - 1, by omega⟩
    unfold iter; rw [Nat.add_zero] at he; rw [he]; rfl
  | n + 1, i, N, hs, he, hN => by
    obtain ⟨N, rfl⟩ : ∃ k, N = k + 1 := ⟨N - 1, by omega⟩
    unfold iter
    rw [hs i (by omega) (by omega)]
    exact iter_run s y n (i + 1) N (fun j h1 h2 => hs j (by omega) (by omega)) (by rw [show i + 1 + n = i + (n + 1) by omega]; exact he) (by omega)
/-- A loop from 0 on. -/
theorem iter_up {α β : Type} {step : α → Option (α ⊕ β)} {x : α} {N : Nat} (s : Nat → α) (n : Nat) (y : β) (hx : x = s 0) (hs : ∀ j, j < n → step (s j) = some (.inl (s (j + 1)))) (he : step (s n) = some (.inr y)) (hN : n < N) : iter step N x = some y := by
  subst hx
  exact iter_run s y n 0 N (fun j _ h2 => hs j (by omega)) (by rw [Nat.zero_add]; exact he) hN
/-- A loop that ends early, or not. -/
theorem iter_all {α β : Type} {step : α → Option (α ⊕ β)} {x : α} {N : Nat} (s : Nat → α) (n : Nat) (p : Nat → Prop) [DecidablePred p] (good bad : β) (hx : x = s 0) (hs : ∀ j, j < n → p j → step (s j) = some (.inl (s (j + 1)))) (hf : ∀ j, j < n → ¬ p j → step (s j) = some (.inr bad)) (he : step (s n) = some (.inr good)) (hN : n < N) :
    ((∀ j, j < n → p j) ∧ iter step N x = some good) ∨ (¬ (∀ j, j < n → p j) ∧ iter step N x = some bad) := by
  by_cases h : ∀ j, j < n → p j
  · exact .inl ⟨h, iter_up s n good hx (fun j hj => hs j hj (h j hj)) he hN⟩
  · refine .inr ⟨h, ?_⟩
    have h1 : ∃ j, j < n ∧ ¬ p j := by
      refine Classical.byContradiction fun hc => h fun j hj => Classical.byContradiction fun hp => hc ⟨j, hj, hp⟩
    -- the first one
    obtain ⟨j, hj, hp, hmin⟩ : ∃ j, j < n ∧ ¬ p j ∧ ∀ i, i < j → p i := by
      obtain ⟨j, hj⟩ := h1
      induction j using Nat.strongRecOn with
      | ind j ih =>
        by_cases g : ∀ i, i < j → p i
        · exact ⟨j, hj.1, hj.2, g⟩
        · have : ∃ i, i < j ∧ ¬ p i := Classical.byContradiction fun hc => g fun i hi => Classical.byContradiction fun hp => hc ⟨i, hi, hp⟩
          obtain ⟨i, hi, hpi⟩ := this
          exact ih i hi ⟨by omega, hpi⟩
    exact iter_up s j bad hx (fun i hi => hs i (by omega) (hmin i hi)) (hf j hj hp) (by omega)
theorem ix_at {α β : Type} {l : List α} {j : Int} {n : Nat} {x : α} {k : α → Option β} (hj : j = n) (h : l[n]? = some x) : ix l j k = k x := by
  subst hj; exact ix_pos h
theorem lt_some {α : Type} {l : List α} {n : Nat} (h : n < l.length) : l[n]? = some l[n] := List.getElem?_eq_getElem h
theorem some_lt {α : Type} {l : List α} {n : Nat} {x : α} (h : l[n]? = some x) : n < l.length := by
  rcases Nat.lt_or_ge n l.length with g | g
  · exact g
  · rw [List.getElem?_eq_none g] at h; cases h
theorem take_succ' {α : Type} {l : List α} {n : Nat} {x : α} (h : l[n]? = some x) : l.take (n + 1) = l.take n ++ [x] := by
  rw [List.take_add_one, h]; rfl
end Go.Hx.V

/- Layer 3: entries of diaries that a scale explains, by both reckonings. -/
namespace Go.Hx.V
open Go.Hx
set_option linter.unusedVariables false
set_option linter.unusedSimpArgs false
set_option maxRecDepth 20000
theorem sel_inl {α β γ : Type} {f : α → Option γ} {g : β → Option γ} {x : α} : sel f g (.inl x) = f x := rfl
theorem sel_inr {α β γ : Type} {f : α → Option γ} {g : β → Option γ} {x : β} : sel f g (.inr x) = g x := rfl
abbrev Sc := List (Int × Int)
abbrev Di := List (Int × Int × Int)
abbrev SC (a b : Int) : Prop := (-1000 ≤ a ∧ a ≤ 1000) ∧ (-1000 ≤ b ∧ b ≤ 1000) ∧ a ≠ b
abbrev EN (r lo hi : Int) : Prop := (-1000000 ≤ r ∧ r ≤ 1000000) ∧ lo ≤ hi ∧ -100000 ≤ lo ∧ hi ≤ 100000
theorem k55 {N : Nat} {a b c : Int} : sf55 N a b c = some (decide (b ≤ a ∧ a ≤ c)) := by
  unfold sf55
  by_cases h : b ≤ a <;> simp [h]
theorem k73 {N : Nat} {a b c : Int} : sf73 N a b c = some (decide (a ≤ c ∧ c ≤ b)) := by
  unfold sf73
  by_cases h : a ≤ c <;> simp [h]
theorem k72 {N : Nat} {a : Int} (h : -1000000000 ≤ a ∧ a ≤ 1000000000) : sf72 N a = some (-a, a) := by
  unfold sf72; rw [ck_pos (by unfold rng; omega)]
theorem k20 {N : Nat} {a b : Int} : sf20 N a b = some (decide (SC a b)) := by
  unfold sf20
  rw [k55, bnd_ret]
  by_cases c1 : -1000 ≤ a ∧ a ≤ 1000
  · rw [decide_eq_true c1, cond_true, k55, bnd_ret]
    by_cases c2 : -1000 ≤ b ∧ b ≤ 1000
    · rw [decide_eq_true c2, cond_true]
      by_cases c3 : a = b
      · rw [decide_eq_true c3, decide_eq_false (fun h => h.2.2 c3)]; rfl
      · rw [decide_eq_false c3, decide_eq_true ⟨c1, c2, c3⟩]; rfl
    · rw [decide_eq_false c2, cond_false, decide_eq_false (fun h => c2 h.2.1)]
  · rw [decide_eq_false c1, cond_false, decide_eq_false (fun h => c1 h.1)]
theorem k52 {N : Nat} {a b : Int} : sf52 N a b = some (decide (SC a b)) := by
  unfold sf52
  rw [k72 (by omega), bnd_ret]
  dsimp only
  rw [k73, bnd_ret]
  by_cases c1 : -1000 ≤ a ∧ a ≤ 1000
  · rw [decide_eq_true c1, cond_true, k73, bnd_ret]
    by_cases c2 : -1000 ≤ b ∧ b ≤ 1000
    · rw [decide_eq_true c2, cond_true]
      by_cases c3 : a = b
      · rw [decide_eq_true c3, decide_eq_false (fun h => h.2.2 c3)]; rfl
      · rw [decide_eq_false c3, decide_eq_true ⟨c1, c2, c3⟩]; rfl
    · rw [decide_eq_false c2, cond_false, decide_eq_false (fun h => c2 h.2.1)]
  · rw [decide_eq_false c1, cond_false, decide_eq_false (fun h => c1 h.1)]
theorem k34 {N : Nat} {a b c d : Int} : sf34 N a b c d = some (decide ((c ≤ a ∧ a ≤ b) ∧ b ≤ d)) := by
  unfold sf34
  rw [k55, bnd_ret]
  by_cases c1 : c ≤ a ∧ a ≤ b
  · rw [decide_eq_true c1, cond_true]
    by_cases c2 : b ≤ d <;> simp [c1, c2]
  · rw [decide_eq_false c1, cond_false, decide_eq_false (fun h => c1 h.1)]
theorem k70 {N : Nat} {r lo hi : Int} : sf70 N r lo hi = some (decide (EN r lo hi)) := by
  unfold sf70
  rw [k55, bnd_ret]
  by_cases c1 : -1000000 ≤ r ∧ r ≤ 1000000
  · rw [decide_eq_true c1, cond_true, k34, bnd_ret]
    congr 1
    rw [decide_eq_decide]
    omega
  · rw [decide_eq_false c1, cond_false, decide_eq_false (fun h => c1 h.1)]
theorem k94 {N : Nat} {r lo hi : Int} : sf94 N (-1000000) 1000000 (-100000) 100000 r lo hi = some (decide (EN r lo hi)) := by
  unfold sf94 sf64
  rw [k73, bnd_ret]
  by_cases c1 : -1000000 ≤ r ∧ r ≤ 1000000
  · rw [decide_eq_true c1, cond_true]
    by_cases c2 : lo ≤ hi
    · rw [decide_eq_true c2, cond_true, k73, bnd_ret]
      by_cases c3 : -100000 ≤ lo ∧ lo ≤ 100000
      · rw [decide_eq_true c3, cond_true, k73, bnd_ret, bnd_ret]
        congr 1
        rw [decide_eq_decide]
        omega
      · rw [decide_eq_false c3, cond_false, bnd_ret, decide_eq_false (show ¬ _ by omega)]
    · rw [decide_eq_false c2, cond_false, bnd_ret, decide_eq_false (fun h => c2 h.2.1)]
  · rw [decide_eq_false c1, cond_false, decide_eq_false (fun h => c1 h.1)]
theorem k93 {N : Nat} : sf93 N = some (-1000000, 1000000, -100000, 100000) := by
  unfold sf93 sf75
  rw [k72 (by omega), bnd_ret, bnd_ret, k72 (by omega), bnd_ret]
/-! a quotient that is rounded -/
theorem k91 {N : Nat} {x s : Int} (hx : -10000000000000 ≤ x ∧ x ≤ 10000000000000) (hs : 0 < s) : ∃ d, sf91 N x s = some d ∧ d * s ≤ x ∧ x < d * s + s ∧ -10000000000001 ≤ d ∧ d ≤ 10000000000000 := by
  unfold sf91
  have hne : s ≠ 0 := by omega
  rcases Int.le_total 0 x with h | h
  · have e1 : x.tdiv s = x / s := Int.tdiv_eq_ediv_of_nonneg h
    have e2 : x.tmod s = x % s := Int.tmod_eq_emod_of_nonneg h
    have b1 := Int.ediv_nonneg h (show 0 ≤ s by omega)
    have b2 : x / s ≤ x := Int.ediv_le_self _ h
    have b3 := Int.emod_nonneg x hne
    have b4 := Int.emod_lt_of_pos x hs
    have b5 := Int.mul_ediv_add_emod x s
    have q : rng (x / s) := by unfold rng; omega
    rw [e1, e2, ck_pos ⟨hne, q⟩, ck_pos hne, decide_eq_false (by omega), cond_false]
    rw [Int.mul_comm] at b5
    exact ⟨_, rfl, by omega, by omega, by omega, by omega⟩
  · obtain ⟨y, rfl⟩ : ∃ y, x = -y := ⟨-x, by omega⟩
    have h' : 0 ≤ y := by omega
    have e1 : (-y).tdiv s = -(y / s) := by rw [Int.neg_tdiv, Int.tdiv_eq_ediv_of_nonneg h']
    have e2 : (-y).tmod s = -(y % s) := by rw [Int.neg_tmod, Int.tmod_eq_emod_of_nonneg h']
    have b1 := Int.ediv_nonneg h' (show 0 ≤ s by omega)
    have b2 : y / s ≤ y := Int.ediv_le_self _ h'
    have b3 := Int.emod_nonneg y hne
    have b4 := Int.emod_lt_of_pos y hs
    have b5 := Int.mul_ediv_add_emod y s
    have q : rng (-(y / s)) := by unfold rng; omega
    have q2 : rng (-(y / s) - 1) := by unfold rng; omega
    rw [Int.mul_comm] at b5
    rw [e1, e2, ck_pos ⟨hne, q⟩, ck_pos hne]
    by_cases c : -(y % s) < 0
    · rw [decide_eq_true c, cond_true, ck_pos q2]
      refine ⟨_, rfl, ?_, ?_, by omega, by omega⟩
      · rw [Int.sub_mul, Int.neg_mul, Int.one_mul]; omega
      · rw [Int.sub_mul, Int.neg_mul, Int.one_mul]; omega
    · rw [decide_eq_false c, cond_false]
      refine ⟨_, rfl, ?_, ?_, by omega, by omega⟩
      · rw [Int.neg_mul]; omega
      · rw [Int.neg_mul]; omega
theorem k99 {N : Nat} {x s : Int} (hx : -10000000000000 ≤ x ∧ x ≤ 10000000000000) (hs : 0 < s) : ∃ u, sf99 N x s = some u ∧ x ≤ u * s ∧ u * s < x + s := by
  obtain ⟨d, e, h1, h2, h3, h4⟩ := k91 (N := N) (x := -x) (s := s) (by omega) hs
  unfold sf99
  rw [ck_pos (by unfold rng; omega), e, bnd_ret, ck_pos (by unfold rng; omega)]
  refine ⟨_, rfl, ?_, ?_⟩
  · rw [Int.neg_mul]; omega
  · rw [Int.neg_mul]; omega
/-- Does a scale explain an entry? -/
def gg (a b r : Int) : Int := if a < b then r - a else a - r
def zz (a b : Int) : Int := if a < b then 2 * (b - a) else 2 * (a - b)
def exb (a b r lo hi : Int) : Bool := decide (1000 * (2 * gg a b r - 1) ≤ hi * zz a b) && decide (lo * zz a b ≤ 1000 * (2 * gg a b r + 1))
theorem mul_bd {x z : Int} (hx : -100000 ≤ x ∧ x ≤ 100000) (hz : 0 ≤ z ∧ z ≤ 4000) : -400000000 ≤ x * z ∧ x * z ≤ 400000000 := by
  have h1 := Int.mul_le_mul_of_nonneg_right hx.1 hz.1
  have h2 := Int.mul_le_mul_of_nonneg_right hx.2 hz.1
  omega
theorem k71 {N : Nat} {a b r lo hi : Int} (hs : SC a b) (he : EN r lo hi) : sf71 N a b r lo hi = some (exb a b r lo hi) := by
  unfold SC at hs
  unfold EN at he
  have f58 : sf58 N a b = some (zz a b) := by
    unfold sf58 zz
    by_cases c : a < b
    · rw [decide_eq_true c, cond_true, if_pos c, ck_pos (by unfold rng; omega), ck_pos (by unfold rng; omega)]
    · rw [decide_eq_false c, cond_false, if_neg c, ck_pos (by unfold rng; omega), ck_pos (by unfold rng; omega)]
  have f56 : sf56 N a b r r = some (2 * gg a b r - 1, 2 * gg a b r + 1) := by
    unfold sf56 sf83 gg
    rw [ck_pos (by unfold rng; omega), ck_pos (by unfold rng; omega)]
    by_cases c : a < b
    · rw [decide_eq_true c, cond_true, if_pos c, ck_pos (by unfold rng; omega), ck_pos (by unfold rng; omega), bnd_ret, ck_pos (by unfold rng; omega), ck_pos (by unfold rng; omega), cond_true, ck_pos (by unfold rng; omega), ck_pos (by unfold rng; omega), bnd_ret]
      congr 2 <;> omega
    · rw [decide_eq_false c, cond_false, if_neg c, ck_pos (by unfold rng; omega), ck_pos (by unfold rng; omega), bnd_ret, ck_pos (by unfold rng; omega), ck_pos (by unfold rng; omega), cond_false, ck_pos (by unfold rng; omega), ck_pos (by unfold rng; omega), bnd_ret]
      congr 2 <;> omega
  have hg : -1001000 ≤ gg a b r ∧ gg a b r ≤ 1001000 := by unfold gg; split <;> omega
  have hz : 0 ≤ zz a b ∧ zz a b ≤ 4000 := by unfold zz; split <;> omega
  have p1 := mul_bd (x := hi) (z := zz a b) (by omega) hz
  have p2 := mul_bd (x := lo) (z := zz a b) (by omega) hz
  unfold sf71
  rw [f56, bnd_ret]
  dsimp only
  rw [ck_pos (by unfold rng; omega), f58, bnd_ret, ck_pos (by unfold rng; omega)]
  unfold exb
  by_cases c : 1000 * (2 * gg a b r - 1) ≤ hi * zz a b
  · rw [decide_eq_true c, cond_true, ck_pos (by unfold rng; omega), bnd_ret, ck_pos (by unfold rng; omega), Bool.true_and]
  · rw [decide_eq_false c, cond_false, Bool.false_and]
theorem k103 {N : Nat} {a b r lo hi : Int} (hs : SC a b) (he : EN r lo hi) : sf103 N a b r lo hi = some (exb a b r lo hi) := by
  unfold SC at hs
  unfold EN at he
  have hg : -1001000 ≤ gg a b r ∧ gg a b r ≤ 1001000 := by unfold gg; split <;> omega
  have hz : 0 < zz a b ∧ zz a b ≤ 4000 := by unfold zz; split <;> omega
  obtain ⟨u, e1, u1, u2⟩ := k99 (N := N) (x := 1000 * (2 * gg a b r - 1)) (s := zz a b) (by omega) hz.1
  obtain ⟨d, e2, d1, d2, _⟩ := k91 (N := N) (x := 1000 * (2 * gg a b r + 1)) (s := zz a b) (by omega) hz.1
  have body : sf103 N a b r lo hi = (bif (decide (u ≤ hi)) then some (decide (lo ≤ d)) else some false) := by
    unfold sf103 sf76
    by_cases c : a < b
    · have g1 : gg a b r = r - a := if_pos c
      have z1 : zz a b = 2 * (b - a) := if_pos c
      rw [g1, z1] at e1 e2
      rw [decide_eq_true c, cond_true, bnd_ret]
      unfold sf77 sf98
      dsimp only
      rw [cond_false, bnd_ret]
      dsimp only
      rw [ck_pos (by unfold rng; omega), ck_pos (by unfold rng; omega), ck_pos (by unfold rng; omega), ck_pos (by unfold rng; omega), ck_pos (by unfold rng; omega), ck_pos (by unfold rng; omega), bnd_ret]
      unfold sf101 sf82 sf100
      dsimp only
      rw [bnd_ret, ck_pos (by unfold rng; omega), ck_pos (by unfold rng; omega), bnd_ret, ck_pos (by unfold rng; omega), bnd_ret, ck_pos (by unfold rng; omega)]
      unfold sf81
      dsimp only
      rw [bnd_ret, ck_pos (by unfold rng; omega), bnd_ret, e1, bnd_ret, e2, bnd_ret, bnd_ret]
    · have g1 : gg a b r = a - r := if_neg c
      have z1 : zz a b = 2 * (a - b) := if_neg c
      rw [g1, z1] at e1 e2
      rw [decide_eq_false c, cond_false, ck_pos (by unfold rng; omega), ck_pos (by unfold rng; omega), bnd_ret]
      unfold sf77 sf98
      dsimp only
      rw [cond_true, ck_pos (by unfold rng; omega), ck_pos (by unfold rng; omega), bnd_ret]
      dsimp only
      rw [show -r - -a = a - r by omega, ck_pos (by unfold rng; omega), ck_pos (by unfold rng; omega), ck_pos (by unfold rng; omega), ck_pos (by unfold rng; omega), ck_pos (by unfold rng; omega), ck_pos (by unfold rng; omega), bnd_ret]
      unfold sf101 sf82 sf100
      dsimp only
      rw [show -b - -a = a - b by omega, bnd_ret, ck_pos (by unfold rng; omega), ck_pos (by unfold rng; omega), bnd_ret, ck_pos (by unfold rng; omega), bnd_ret, ck_pos (by unfold rng; omega)]
      unfold sf81
      dsimp only
      rw [bnd_ret, ck_pos (by unfold rng; omega), bnd_ret, e1, bnd_ret, e2, bnd_ret, bnd_ret]
  rw [body]
  have i1 : u ≤ hi ↔ 1000 * (2 * gg a b r - 1) ≤ hi * zz a b := by
    constructor
    · intro h
      have := Int.mul_le_mul_of_nonneg_right h (show 0 ≤ zz a b by omega)
      omega
    · intro h
      have : u * zz a b < (hi + 1) * zz a b := by rw [Int.add_mul, Int.one_mul]; omega
      have := Int.lt_of_mul_lt_mul_right this (by omega)
      omega
  have i2 : lo ≤ d ↔ lo * zz a b ≤ 1000 * (2 * gg a b r + 1) := by
    constructor
    · intro h
      have := Int.mul_le_mul_of_nonneg_right h (show 0 ≤ zz a b by omega)
      omega
    · intro h
      have : lo * zz a b < (d + 1) * zz a b := by rw [Int.add_mul, Int.one_mul]; omega
      have := Int.lt_of_mul_lt_mul_right this (by omega)
      omega
  unfold exb
  by_cases c : u ≤ hi
  · rw [decide_eq_true c, cond_true, decide_eq_true (i1.1 c), Bool.true_and, decide_eq_decide.2 i2]
  · rw [decide_eq_false c, cond_false, decide_eq_false (fun h => c (i1.2 h)), Bool.false_and]
end Go.Hx.V

