/- Functions of the program come to that. -/
import Derived.Test.YtncdppdghlkloaaH05
import Derived.Test.YtncdppdghlkloaaH03
import Derived.Test.YtncdppdghlkloaaH00
import Derived.Test.YtncdppdghlkloaaH02
import Derived.Test.YtncdppdghlkloaaH01
import Derived.Test.YtncdppdghlkloaaH04
set_option linter.all false
/- Functions of the program come to that. -/
namespace Go.Hx.V
open Go.Hx
set_option linter.unusedVariables false
set_option maxRecDepth 20000
set_option maxHeartbeats 4000000
attribute [local irreducible] W R C thenH inBlockH Tr.get Tr.set lo
theorem ct69 (N : Nat) {a0 : (List (Int × Int))} {a1 : (List (Int × Int × Int))} {r : (Int × (List Int))} (hF : sf69 N a0 a1 = some r) {fl : Nat} {h0 : Tr HBlk} {n0 : Nat} {F0 : PH} (hd : D h0 n0) (hs : F0.sub h0) (hfl : fl ≤ n0) {pa0 : Option (Nat × Nat)} {ca0 : Nat} {pa1 : Option (Nat × Nat)} {ca1 : Nat} (ra0 : RowF (rP rI rI) 2 F0 pa0 ca0 a0) (ra1 : RowF (rP rI (rP rI rI)) 3 F0 pa1 ca1 a1) : C LW fl 69 [(.slice pa0 (a0).length ca0), (.slice pa1 (a1).length ca1)] ⟨h0, n0⟩ (KR (rvT2 lvI (lvL rI 1)) F0 h0 n0 r) := by
  unfold sf69 at hF
  refine in_mT hd hs hfl lw69 rfl rfl (by rfl) (fun st T hT => ?_)
  have t0 := hT 0 _ rfl
  have t1 := hT 1 _ rfl
  dsimp only [L69]
  refine w_seq ?_; refine w_reg ?_; refine v_move ?_; refine v_move ?_; refine r_nil ?_; refine th_n ?_; refine w_seq ?_; refine w_reg ?_; refine v_alloc st (fun b1 h2 n3 st => ?_)
  have st := st.cells 0 rfl (eI .i64 8 (fun _ => 0)) rfl
  refine r_nil ?_; refine th_n ?_; refine w_seq ?_; refine w_reg ?_
  have w7 : MR (.row [.i .i64, .i .i64, .i .i64, .i .i64, .i .i64]) (fun x : (Int × Int × Int × Int × Int) => HV.agg [HV.int .i64 x.1, HV.int .i64 x.2.1, HV.int .i64 x.2.2.1, HV.int .i64 x.2.2.2.1, HV.int .i64 x.2.2.2.2]) (fun x : Bool => HV.bool x) [] ((fun _ => none) : ((Int × Int × Int × Int × Int) → Option Bool)) := MR.nil (KD.row (KRw.cons (KRw.cons (KRw.cons (KRw.cons KRw.one)))))
  refine v_mm st (fun b4 h5 n6 st => ?_); refine v_move ?_; refine r_nil ?_; refine th_n ?_; refine w_seq ?_; refine w_seq ?_; refine w_reg ?_; refine v_move ?_; refine v_len ?_; refine v_move ?_; refine r_nil ?_; refine th_n ?_; refine w_block ?_; obtain ⟨y112, hy, hF⟩ := bnd_some hF; refine v_loopD (sf69_L2 N a0 a1) (fun x8 T ds9 h nx => ∃ (F9 : PH) (es10 : List (HV × HV)), ds9 = [] ∧ PH.le F0 F9 ∧ St n0 h0 F0 F9 h nx [.bx b1 (eI .i64 8 x8.2.2), .any b4 (.map es10)] ∧ MR (.row [.i .i64, .i .i64, .i .i64, .i .i64, .i .i64]) (fun x : (Int × Int × Int × Int × Int) => HV.agg [HV.int .i64 x.1, HV.int .i64 x.2.1, HV.int .i64 x.2.2.1, HV.int .i64 x.2.2.2.1, HV.int .i64 x.2.2.2.2]) (fun x : Bool => HV.bool x) es10 x8.2.1 ∧ T.get 0 = some (.slice pa0 (a0).length ca0) ∧ T.get 1 = some (.slice pa1 (a1).length ca1) ∧ T.get 4 = some (i64 (0 : Int)) ∧ T.get 6 = some (.ptr (some (b1, 0))) ∧ T.get 7 = some (.map (some b4)) ∧ T.get 12 = some (.slice pa0 (a0).length ca0) ∧ T.get 13 = some (i64 ((a0).length : Int)) ∧ T.get 14 = some (i64 x8.1)) (fun y e a σ => e = .exit 0 ∧ a.nt = 49 ∧ ∃ (F113 : PH) (es114 : List (HV × HV)), a.defers = [] ∧ PH.le F0 F113 ∧ St n0 h0 F0 F113 σ.h σ.nx [.bx b1 (eI .i64 8 y.2), .any b4 (.map es114)] ∧ MR (.row [.i .i64, .i .i64, .i .i64, .i .i64, .i .i64]) (fun x : (Int × Int × Int × Int × Int) => HV.agg [HV.int .i64 x.1, HV.int .i64 x.2.1, HV.int .i64 x.2.2.1, HV.int .i64 x.2.2.2.1, HV.int .i64 x.2.2.2.2]) (fun x : Bool => HV.bool x) es114 y.1 ∧ a.tmps.get 0 = some (.slice pa0 (a0).length ca0) ∧ a.tmps.get 1 = some (.slice pa1 (a1).length ca1) ∧ a.tmps.get 4 = some (i64 (0 : Int)) ∧ a.tmps.get 6 = some (.ptr (some (b1, 0))) ∧ a.tmps.get 7 = some (.map (some b4))) (fun x8 T ds9 h nx s hp hF => ?_) N _ y112 _ _ _ _ hy ⟨F0, [], rfl, (PH.le.refl _), st, w7, gA, gA, gA, gA, gA, gA, gA, gA⟩ (fun e a σ hne hq => ?_)
  · obtain ⟨F9, es10, rfl, le9, st, w10, t0, t1, t4, t6, t7, t12, t13, t14⟩ := hp; unfold sf69_L2 at hF; unfold L69w1; refine w_seq ?_; refine w_reg ?_; refine v_lss ?_; refine r_nil ?_; refine th_n ?_; refine w_seq ?_; refine v_cond (fun hb115 => ?_) (fun hb115 => ?_)
    · have hF := bif_t hb115 hF; refine w_skip ?_; refine th_n ?_; refine w_seq ?_; refine w_block ?_; refine w_seq ?_; refine w_reg ?_; refine v_move ?_; obtain ⟨n116, x116, z116, l116, g116, hF⟩ := ix_some hF; obtain ⟨b116, o116, s116, j116, r116, e116, f116, k116, ⟨_, _, rfl, rfl, rfl⟩⟩ := RowF.get ra0 g116; refine v_ixp e116 z116 l116 ?_; refine v_ldn (st.sub _ _ (le9 _ _ f116)) k116 ?_; refine v_alloc st (fun b117 h118 n119 st => ?_); refine v_move ?_; refine v_st (cs' := [(i64 x116.1), (i64 x116.2)]) st 2 rfl rfl rfl rfl hfl (fun h120 st => ?_); refine r_nil ?_; refine th_n ?_; refine w_reg ?_; refine v_move ?_; refine v_move ?_; refine v_ldn (vs := [(i64 x116.1), (i64 x116.2)]) (st.at (i := 2) rfl).2.2 rfl ?_
      refine v_move ?_; refine v_inl lw96 rfl rfl (fun T hT => ?_)
      have t0 := hT 0 _ rfl
      have t1 := hT 1 _ rfl
      have t2 := hT 2 _ rfl
      dsimp only [L96]
      refine w_seq ?_; refine w_reg ?_; refine v_box st (fun b122 h123 n124 st => ?_); refine v_move ?_; refine r_nil ?_; refine th_n ?_; refine w_seq ?_; refine w_reg ?_; refine v_move ?_; refine r_nil ?_; refine th_n ?_; refine w_seq ?_; refine w_seq ?_; refine w_reg ?_; refine v_move ?_; refine v_len ?_; refine v_move ?_; refine r_nil ?_; refine th_n ?_; refine w_block ?_
      have st := st.nilL 1
      have w125 : LR rI 1 F9 ([] : List Int) [] := LR.nil
      obtain ⟨y169, hy, hF⟩ := bnd_some hF; refine v_loopD (sf69_L1 N a1 x116) (fun x127 T ds128 h nx => ∃ (F128 : PH) (o129 : Option Nat) (c129 : Nat) (cs129 : List HV) (es130 : List (HV × HV)), ds128 = [] ∧ PH.le F9 F128 ∧ St n0 h0 F0 F128 h nx [.bx b1 (eI .i64 8 x8.2.2), .any b4 (.map es130), .bx b117 [(i64 x116.1), (i64 x116.2)], .bx b122 [(i64 x116.1), (i64 x116.2)], .ls o129 c129 cs129 1] ∧ LR rI 1 F128 x127.1 cs129 ∧ MR (.row [.i .i64, .i .i64, .i .i64, .i .i64, .i .i64]) (fun x : (Int × Int × Int × Int × Int) => HV.agg [HV.int .i64 x.1, HV.int .i64 x.2.1, HV.int .i64 x.2.2.1, HV.int .i64 x.2.2.2.1, HV.int .i64 x.2.2.2.2]) (fun x : Bool => HV.bool x) es130 x127.2.2 ∧ T.get 0 = some (.map (some b4)) ∧ T.get 4 = some (.ptr (some (b122, 0))) ∧ T.get 7 = some (slv o129 (x127.1).length c129) ∧ T.get 10 = some (.slice pa1 (a1).length ca1) ∧ T.get 11 = some (i64 ((a1).length : Int)) ∧ T.get 12 = some (i64 x127.2.1)) (fun y e a σ => e = .exit 0 ∧ a.nt = 28 ∧ ∃ (F170 : PH) (o171 : Option Nat) (c171 : Nat) (cs171 : List HV) (es172 : List (HV × HV)), a.defers = [] ∧ PH.le F9 F170 ∧ St n0 h0 F0 F170 σ.h σ.nx [.bx b1 (eI .i64 8 x8.2.2), .any b4 (.map es172), .bx b117 [(i64 x116.1), (i64 x116.2)], .bx b122 [(i64 x116.1), (i64 x116.2)], .ls o171 c171 cs171 1] ∧ LR rI 1 F170 y.1 cs171 ∧ MR (.row [.i .i64, .i .i64, .i .i64, .i .i64, .i .i64]) (fun x : (Int × Int × Int × Int × Int) => HV.agg [HV.int .i64 x.1, HV.int .i64 x.2.1, HV.int .i64 x.2.2.1, HV.int .i64 x.2.2.2.1, HV.int .i64 x.2.2.2.2]) (fun x : Bool => HV.bool x) es172 y.2 ∧ a.tmps.get 7 = some (slv o171 (y.1).length c171)) (fun x127 T ds128 h nx s hp hF => ?_) N _ y169 _ _ _ _ hy ⟨F9, none, 0, [], es10, rfl, (PH.le.refl _), st, w125, w10, gA, gA, gA, gA, gA, gA⟩ (fun e a σ hne hq => ?_)
      · obtain ⟨F128, o129, c129, cs129, es130, rfl, le128, st, w129, w130, t0, t4, t7, t10, t11, t12⟩ := hp
        have le131 := PH.le.trans le9 le128
        unfold sf69_L1 at hF; unfold L96w0; refine w_seq ?_; refine w_reg ?_; refine v_lss ?_; refine r_nil ?_; refine th_n ?_; refine w_seq ?_; refine v_cond (fun hb173 => ?_) (fun hb173 => ?_)
        · have hF := bif_t hb173 hF; refine w_skip ?_; refine th_n ?_; refine w_seq ?_; refine w_block ?_; refine w_seq ?_; refine w_reg ?_; refine v_move ?_; obtain ⟨n174, x174, z174, l174, g174, hF⟩ := ix_some hF; obtain ⟨b174, o174, s174, j174, r174, e174, f174, k174, ⟨_, _, rfl, rfl, ⟨_, _, rfl, rfl, rfl⟩⟩⟩ := RowF.get ra1 g174; refine v_ixp e174 z174 l174 ?_; refine v_ldn (st.sub _ _ (le131 _ _ f174)) k174 ?_; refine v_alloc st (fun b175 h176 n177 st => ?_); refine v_move ?_; refine v_st (cs' := [(i64 x174.1), (i64 x174.2.1), (i64 x174.2.2)]) st 5 rfl rfl rfl rfl hfl (fun h178 st => ?_); refine r_nil ?_; refine th_n ?_; refine w_seq ?_; refine w_reg ?_; refine v_move ?_; refine v_ldn (vs := [(i64 x116.1), (i64 x116.2)]) (st.at (i := 3) rfl).2.2 rfl ?_
          refine v_ldn (vs := [(i64 x174.1), (i64 x174.2.1), (i64 x174.2.2)]) (st.at (i := 5) rfl).2.2 rfl ?_; refine v_inl lw95 rfl rfl (fun T hT => ?_)
          have t0 := hT 0 _ rfl
          have t1 := hT 1 _ rfl
          have t2 := hT 2 _ rfl
          dsimp only [L95]
          refine w_seq ?_; refine w_reg ?_; refine v_box st (fun b180 h181 n182 st => ?_); refine v_box st (fun b183 h184 n185 st => ?_); refine v_move ?_; refine r_nil ?_; refine th_n ?_; refine w_seq ?_; refine w_reg ?_; refine v_ldn (vs := [(i64 x116.1), (i64 x116.2)]) (st.at (i := 6) rfl).2.2 rfl ?_; refine v_ldn (vs := [(i64 x174.1), (i64 x174.2.1), (i64 x174.2.2)]) (st.at (i := 7) rfl).2.2 rfl ?_; refine v_build (cs := [(i64 x116.1), (i64 x116.2), (i64 x174.1), (i64 x174.2.1), (i64 x174.2.2)]) rfl ?_; refine v_alloc st (fun b186 h187 n188 st => ?_); refine v_st (cs' := [(i64 x116.1), (i64 x116.2), (i64 x174.1), (i64 x174.2.1), (i64 x174.2.2)]) st 8 rfl rfl rfl rfl hfl (fun h189 st => ?_)
          refine r_nil ?_; refine th_n ?_; refine w_seq ?_; refine w_reg ?_; refine v_move ?_; refine v_ldn (vs := [(i64 x116.1), (i64 x116.2), (i64 x174.1), (i64 x174.2.1), (i64 x174.2.2)]) (st.at (i := 8) rfl).2.2 rfl ?_; refine v_lk2 w130 (st.at (i := 1) rfl).2.2 (x116.1, x116.2, x174.1, x174.2.1, x174.2.2) false (kv := (.agg [(i64 x116.1), (i64 x116.2), (i64 x174.1), (i64 x174.2.1), (i64 x174.2.2)])) rfl rfl ?_; refine v_move ?_; refine v_xt rfl ?_; refine v_xt rfl ?_; refine v_move ?_; refine v_move ?_; refine r_nil ?_; refine th_n ?_; refine w_seq ?_; refine w_seq ?_; refine w_reg ?_; refine v_move ?_; refine v_not ?_; refine r_nil ?_; refine th_n ?_; refine v_cond (fun hb190 => ?_) (fun hb190 => ?_)
          · have hF := bif_t hb190 hF; refine w_seq ?_; refine w_reg ?_; refine v_ldn (vs := [(i64 x116.1), (i64 x116.2), (i64 x174.1), (i64 x174.2.1), (i64 x174.2.2)]) (st.at (i := 8) rfl).2.2 rfl ?_; obtain ⟨v191, e192, hF⟩ := bnd_some hF; refine v_call st (ct103 N e192 st.d st.sub ) (fun n193 st => ?_); refine v_move ?_; refine r_nil ?_; refine th_n ?_; refine w_reg ?_; refine v_move ?_; refine v_ldn (vs := [(i64 x116.1), (i64 x116.2), (i64 x174.1), (i64 x174.2.1), (i64 x174.2.2)]) (st.at (i := 8) rfl).2.2 rfl ?_; refine v_move ?_; refine v_mu st 1 rfl w130 (x116.1, x116.2, x174.1, x174.2.1, x174.2.2) v191 (kv := (.agg [(i64 x116.1), (i64 x116.2), (i64 x174.1), (i64 x174.2.1), (i64 x174.2.2)])) (vv := (.bool v191)) rfl rfl hfl (fun es194 h195 w194 st => ?_)
            refine r_nil ?_; refine th_n ?_; refine w_seq ?_; refine w_reg ?_; refine v_move ?_; refine v_move ?_; refine r_nil ?_; refine th_n ?_; refine w_ret ?_; refine inl_end (v := (.bool v191)) (Res.t gA Res.nil) rfl (.inl rfl) (ik ?_); refine v_not ?_; refine r_nil ?_; refine th_n ?_; refine v_cond (fun hb196 => ?_) (fun hb196 => ?_)
            · have hF := bif_t hb196 hF; refine w_reg ?_; refine v_move ?_; refine v_move ?_; refine v_bs (cs := [(i64 x127.2.1)]) st rfl (fun b197 h198 n199 st => ?_); obtain ⟨q200, hF⟩ := ck_some hF
              have w200 : LR rI 1 F128 (x127.1 ++ [x127.2.1]) (cs129 ++ [(i64 x127.2.1)]) := LR.app w129 (LR.one (rfl))
              refine v_aps (n := 1) (ox := 0) (m := (x127.1 ++ [x127.2.1]).length) (row := [(i64 x127.2.1)]) st 4 rfl w129.1 (st.at (i := 9) rfl).2.2 rfl rfl q200 hfl (by decide) (by decide) (by simp) (fun o200 c200 h200 n200 st => ?_)
              refine v_move ?_; refine r_nil ?_; refine ib_n ?_; refine th_n ?_; refine w_reg ?_; obtain ⟨q201, hF⟩ := ck_some hF; refine v_add q201 ?_; refine v_move ?_; refine r_nil ?_; refine thn ⟨_, (inj hF).symm, rfl, ?_⟩; dsimp only
              exact ⟨F128, o200, c200, (cs129 ++ [(i64 x127.2.1)]), es194, rfl, le128, (st.drop (by first | exact List.Sublist.refl _ | (repeat first | exact List.nil_sublist _ | refine List.Sublist.cons_cons _ ?_ | refine List.Sublist.cons _ ?_))), w200, w194, gA, gA, gA, gA, gA, gA⟩
            · have hF := bif_f hb196 hF; refine w_skip ?_; refine ib_n ?_; refine th_n ?_; refine w_reg ?_; obtain ⟨q202, hF⟩ := ck_some hF; refine v_add q202 ?_; refine v_move ?_; refine r_nil ?_; refine thn ⟨_, (inj hF).symm, rfl, ?_⟩; dsimp only
              exact ⟨F128, o129, c129, cs129, es194, rfl, le128, (st.drop (by first | exact List.Sublist.refl _ | (repeat first | exact List.nil_sublist _ | refine List.Sublist.cons_cons _ ?_ | refine List.Sublist.cons _ ?_))), w129, w194, gA, gA, gA, gA, gA, gA⟩
          · have hF := bif_f hb190 hF; refine w_skip ?_; refine th_n ?_; refine w_seq ?_; refine w_reg ?_; refine v_move ?_; refine v_move ?_; refine r_nil ?_; refine th_n ?_; refine w_ret ?_; refine inl_end (v := (.bool (Option.getD (x127.2.2 (x116.1, x116.2, x174.1, x174.2.1, x174.2.2)) false))) (Res.t gA Res.nil) rfl (.inl rfl) (ik ?_); refine v_not ?_; refine r_nil ?_; refine th_n ?_; refine v_cond (fun hb203 => ?_) (fun hb203 => ?_)
            · have hF := bif_t hb203 hF; refine w_reg ?_; refine v_move ?_; refine v_move ?_; refine v_bs (cs := [(i64 x127.2.1)]) st rfl (fun b204 h205 n206 st => ?_); obtain ⟨q207, hF⟩ := ck_some hF
              have w207 : LR rI 1 F128 (x127.1 ++ [x127.2.1]) (cs129 ++ [(i64 x127.2.1)]) := LR.app w129 (LR.one (rfl))
              refine v_aps (n := 1) (ox := 0) (m := (x127.1 ++ [x127.2.1]).length) (row := [(i64 x127.2.1)]) st 4 rfl w129.1 (st.at (i := 9) rfl).2.2 rfl rfl q207 hfl (by decide) (by decide) (by simp) (fun o207 c207 h207 n207 st => ?_)
              refine v_move ?_; refine r_nil ?_; refine ib_n ?_; refine th_n ?_; refine w_reg ?_; obtain ⟨q208, hF⟩ := ck_some hF; refine v_add q208 ?_; refine v_move ?_; refine r_nil ?_; refine thn ⟨_, (inj hF).symm, rfl, ?_⟩; dsimp only
              exact ⟨F128, o207, c207, (cs129 ++ [(i64 x127.2.1)]), es130, rfl, le128, (st.drop (by first | exact List.Sublist.refl _ | (repeat first | exact List.nil_sublist _ | refine List.Sublist.cons_cons _ ?_ | refine List.Sublist.cons _ ?_))), w207, w130, gA, gA, gA, gA, gA, gA⟩
            · have hF := bif_f hb203 hF; refine w_skip ?_; refine ib_n ?_; refine th_n ?_; refine w_reg ?_; obtain ⟨q209, hF⟩ := ck_some hF; refine v_add q209 ?_; refine v_move ?_; refine r_nil ?_; refine thn ⟨_, (inj hF).symm, rfl, ?_⟩; dsimp only
              exact ⟨F128, o129, c129, cs129, es130, rfl, le128, (st.drop (by first | exact List.Sublist.refl _ | (repeat first | exact List.nil_sublist _ | refine List.Sublist.cons_cons _ ?_ | refine List.Sublist.cons _ ?_))), w129, w130, gA, gA, gA, gA, gA, gA⟩
        · have hF := bif_f hb173 hF; refine w_exit ?_; refine th_e ?_; refine th_e ?_; refine ⟨_, (inj hF).symm, rfl, rfl, ?_⟩; dsimp only
          exact ⟨F128, o129, c129, cs129, es130, rfl, le128, st, w129, w130, gA⟩
      · obtain ⟨N9, T, ds170⟩ := a; obtain ⟨h211, n212⟩ := σ; obtain ⟨rfl, e1, F170, o171, c171, cs171, es172, e2, le170, st, w171, w172, t7⟩ := hq
        dsimp only at e1 e2
        subst e1
        subst e2
        dsimp only at st t7
        have le210 := PH.le.trans le9 le170
        refine ib_e ?_; refine th_n ?_; refine w_seq ?_; refine w_reg ?_; refine v_move ?_; refine v_move ?_; refine r_nil ?_; refine th_n ?_; refine w_ret ?_; refine inl_end (v := (slv o171 (y169.1).length c171)) (Res.t gA Res.nil) rfl (.inl rfl) (ik ?_); refine v_len ?_; obtain ⟨q213, hF⟩ := ck_some hF
        refine v_ixa (j := (Int.toNat x8.1)) (Int.toNat_of_nonneg q213.1).symm (by omega) ?_
        refine v_st (o := (0 + (Int.toNat x8.1) * 1)) (v := (i64 ((y169.1).length : Int))) (cs' := (eI .i64 8 (ups x8.2.2 (Int.toNat x8.1) ((y169.1).length : Int)))) st 0 rfl (ar_set0 (ix := (Int.toNat x8.1)) (by omega) (by omega)) rfl rfl hfl (fun h214 st => ?_)
        refine r_nil ?_; refine ib_n ?_; refine th_n ?_; refine w_reg ?_; obtain ⟨q215, hF⟩ := ck_some hF; refine v_add q215 ?_; refine v_move ?_; refine r_nil ?_; refine thn ⟨_, (inj hF).symm, rfl, ?_⟩; dsimp only
        exact ⟨F170, es172, rfl, le210, (st.drop (by first | exact List.Sublist.refl _ | (repeat first | exact List.nil_sublist _ | refine List.Sublist.cons_cons _ ?_ | refine List.Sublist.cons _ ?_))), w172, gA, gA, gA, gA, gA, gA, gA, gA⟩
    · have hF := bif_f hb115 hF; refine w_exit ?_; refine th_e ?_; refine th_e ?_; refine ⟨_, (inj hF).symm, rfl, rfl, ?_⟩; dsimp only
      exact ⟨F9, es10, rfl, le9, st, w10, gA, gA, gA, gA, gA⟩
  · obtain ⟨N9, T, ds113⟩ := a; obtain ⟨h216, n217⟩ := σ; obtain ⟨rfl, e1, F113, es114, e2, le113, st, w114, t0, t1, t4, t6, t7⟩ := hq
    dsimp only at e1 e2
    subst e1
    subst e2
    dsimp only at st t0 t1 t4 t6 t7
    refine ib_e ?_; refine th_n ?_; refine w_seq ?_; refine w_seq ?_; refine w_reg ?_; refine v_move ?_; refine v_len ?_; refine v_move ?_; refine r_nil ?_; refine th_n ?_; refine w_block ?_; obtain ⟨y228, hy, hF⟩ := bnd_some hF; refine v_loopD (sf69_L3 a0 y112) (fun x218 T ds219 h nx => ∃ (F219 : PH), ds219 = [] ∧ PH.le F113 F219 ∧ St n0 h0 F0 F219 h nx [.bx b1 (eI .i64 8 y112.2), .any b4 (.map es114)] ∧ T.get 0 = some (.slice pa0 (a0).length ca0) ∧ T.get 1 = some (.slice pa1 (a1).length ca1) ∧ T.get 4 = some (i64 x218.1) ∧ T.get 6 = some (.ptr (some (b1, 0))) ∧ T.get 7 = some (.map (some b4)) ∧ T.get 28 = some (i64 ((a0).length : Int)) ∧ T.get 29 = some (i64 x218.2)) (fun y e a σ => e = .exit 2 ∧ a.nt = 49 ∧ ∃ (F229 : PH), a.defers = [] ∧ PH.le F113 F229 ∧ St n0 h0 F0 F229 σ.h σ.nx [.bx b1 (eI .i64 8 y112.2), .any b4 (.map es114)] ∧ a.tmps.get 0 = some (.slice pa0 (a0).length ca0) ∧ a.tmps.get 1 = some (.slice pa1 (a1).length ca1) ∧ a.tmps.get 4 = some (i64 y) ∧ a.tmps.get 7 = some (.map (some b4))) (fun x218 T ds219 h nx s hp hF => ?_) N _ y228 _ _ _ _ hy ⟨F113, rfl, (PH.le.refl _), st, gA, gA, gA, gA, gA, gA, gA⟩ (fun e a σ hne hq => ?_)
    · obtain ⟨F219, rfl, le219, st, t0, t1, t4, t6, t7, t28, t29⟩ := hp
      have le220 := PH.le.trans le113 le219
      unfold sf69_L3 at hF; unfold L69w0; refine w_seq ?_; refine w_reg ?_; refine v_lss ?_; refine r_nil ?_; refine th_n ?_; refine w_seq ?_; refine v_cond (fun hb230 => ?_) (fun hb230 => ?_)
      · have hF := bif_t hb230 hF; refine w_skip ?_; refine th_n ?_; refine w_seq ?_; refine w_block ?_; refine w_seq ?_; refine w_reg ?_; refine v_move ?_; refine v_move ?_; refine r_nil ?_; refine th_n ?_; refine w_seq ?_; refine w_drawV (Nat.le_trans hfl st.ext.le) (fun dw => ?_); refine y_pure st.d dw (fun hm vw => v_move pr_nil) ?_; obtain ⟨q231, hF⟩ := ck_some hF
        refine y_pure st.d dw (fun hm vw => v_ixa (j := (Int.toNat x218.2)) (Int.toNat_of_nonneg q231.1).symm (by omega) pr_nil) ?_
        refine y_pure st.d dw (fun hm vw => v_ld1 (o := (0 + (Int.toNat x218.2) * 1)) (vw.bx (st.at (i := 0) rfl)) (ar_get0 (ix := (Int.toNat x218.2)) (by omega) (by omega)) pr_nil) ?_
        refine y_pure st.d dw (fun hm vw => v_move pr_nil) ?_; obtain ⟨q232, hF⟩ := ck_some hF
        refine y_pure st.d dw (fun hm vw => v_ixa (j := (Int.toNat x218.1)) (Int.toNat_of_nonneg q232.1).symm (by omega) pr_nil) ?_
        refine y_pure st.d dw (fun hm vw => v_ld1 (o := (0 + (Int.toNat x218.1) * 1)) (vw.bx (st.at (i := 0) rfl)) (ar_get0 (ix := (Int.toNat x218.1)) (by omega) (by omega)) pr_nil) ?_
        refine y_end st.d dw rfl (fun h233 ex vs => ?_)
        have st := st.ext1 ex
        refine v_lss ?_; refine r_nil ?_; refine th_n ?_; refine v_cond (fun hb234 => ?_) (fun hb234 => ?_)
        · have hF := bif_t hb234 hF; refine w_reg ?_; refine v_move ?_; refine v_move ?_; refine r_nil ?_; refine ib_n ?_; refine th_n ?_; refine w_reg ?_; obtain ⟨q235, hF⟩ := ck_some hF; refine v_add q235 ?_; refine v_move ?_; refine r_nil ?_; refine thn ⟨_, (inj hF).symm, rfl, ?_⟩; dsimp only
          exact ⟨F219, rfl, le219, st, gA, gA, gA, gA, gA, gA, gA⟩
        · have hF := bif_f hb234 hF; refine w_skip ?_; refine ib_n ?_; refine th_n ?_; refine w_reg ?_; obtain ⟨q236, hF⟩ := ck_some hF; refine v_add q236 ?_; refine v_move ?_; refine r_nil ?_; refine thn ⟨_, (inj hF).symm, rfl, ?_⟩; dsimp only
          exact ⟨F219, rfl, le219, st, gA, gA, gA, gA, gA, gA, gA⟩
      · have hF := bif_f hb230 hF; refine w_exit ?_; refine th_e ?_; refine th_e ?_; refine ⟨_, (inj hF).symm, rfl, rfl, ?_⟩; dsimp only
        exact ⟨F219, rfl, le219, st, gA, gA, gA, gA⟩
    · obtain ⟨N9, T, ds229⟩ := a; obtain ⟨h238, n239⟩ := σ; obtain ⟨rfl, e1, F229, e2, le229, st, t0, t1, t4, t7⟩ := hq
      dsimp only at e1 e2
      subst e1
      subst e2
      dsimp only at st t0 t1 t4 t7
      have le237 := PH.le.trans le113 le229
      refine ib_e ?_; refine th_n ?_; refine w_seq ?_; refine w_reg ?_; refine v_move ?_; refine v_move ?_; refine v_move ?_; refine v_move ?_; obtain ⟨n240, x240, z240, l240, g240, hF⟩ := ix_some hF; obtain ⟨b240, o240, s240, j240, r240, e240, f240, k240, ⟨_, _, rfl, rfl, rfl⟩⟩ := RowF.get ra0 g240; refine v_ixp e240 z240 l240 ?_; refine v_ldn (st.sub _ _ (le237 _ _ f240)) k240 ?_; refine v_move ?_; refine v_inl lw96 rfl rfl (fun T hT => ?_)
      have t0 := hT 0 _ rfl
      have t1 := hT 1 _ rfl
      have t2 := hT 2 _ rfl
      dsimp only [L96]
      refine w_seq ?_; refine w_reg ?_; refine v_box st (fun b242 h243 n244 st => ?_); refine v_move ?_; refine r_nil ?_; refine th_n ?_; refine w_seq ?_; refine w_reg ?_; refine v_move ?_; refine r_nil ?_; refine th_n ?_; refine w_seq ?_; refine w_seq ?_; refine w_reg ?_; refine v_move ?_; refine v_len ?_; refine v_move ?_; refine r_nil ?_; refine th_n ?_; refine w_block ?_
      have st := st.nilL 1
      have w245 : LR rI 1 F229 ([] : List Int) [] := LR.nil
      obtain ⟨y290, hy, hF⟩ := bnd_some hF; refine v_loopD (sf69_L4 N a1 x240) (fun x247 T ds248 h nx => ∃ (F248 : PH) (o249 : Option Nat) (c249 : Nat) (cs249 : List HV) (es250 : List (HV × HV)), ds248 = [] ∧ PH.le F229 F248 ∧ St n0 h0 F0 F248 h nx [.bx b1 (eI .i64 8 y112.2), .any b4 (.map es250), .bx b242 [(i64 x240.1), (i64 x240.2)], .ls o249 c249 cs249 1] ∧ LR rI 1 F248 x247.1 cs249 ∧ MR (.row [.i .i64, .i .i64, .i .i64, .i .i64, .i .i64]) (fun x : (Int × Int × Int × Int × Int) => HV.agg [HV.int .i64 x.1, HV.int .i64 x.2.1, HV.int .i64 x.2.2.1, HV.int .i64 x.2.2.2.1, HV.int .i64 x.2.2.2.2]) (fun x : Bool => HV.bool x) es250 x247.2.2 ∧ T.get 0 = some (.map (some b4)) ∧ T.get 4 = some (.ptr (some (b242, 0))) ∧ T.get 7 = some (slv o249 (x247.1).length c249) ∧ T.get 10 = some (.slice pa1 (a1).length ca1) ∧ T.get 11 = some (i64 ((a1).length : Int)) ∧ T.get 12 = some (i64 x247.2.1)) (fun y e a σ => e = .exit 0 ∧ a.nt = 28 ∧ ∃ (F291 : PH) (o292 : Option Nat) (c292 : Nat) (cs292 : List HV) (es293 : List (HV × HV)), a.defers = [] ∧ PH.le F229 F291 ∧ St n0 h0 F0 F291 σ.h σ.nx [.bx b1 (eI .i64 8 y112.2), .any b4 (.map es293), .bx b242 [(i64 x240.1), (i64 x240.2)], .ls o292 c292 cs292 1] ∧ LR rI 1 F291 y.1 cs292 ∧ MR (.row [.i .i64, .i .i64, .i .i64, .i .i64, .i .i64]) (fun x : (Int × Int × Int × Int × Int) => HV.agg [HV.int .i64 x.1, HV.int .i64 x.2.1, HV.int .i64 x.2.2.1, HV.int .i64 x.2.2.2.1, HV.int .i64 x.2.2.2.2]) (fun x : Bool => HV.bool x) es293 y.2 ∧ a.tmps.get 7 = some (slv o292 (y.1).length c292)) (fun x247 T ds248 h nx s hp hF => ?_) N _ y290 _ _ _ _ hy ⟨F229, none, 0, [], es114, rfl, (PH.le.refl _), st, w245, w114, gA, gA, gA, gA, gA, gA⟩ (fun e a σ hne hq => ?_)
      · obtain ⟨F248, o249, c249, cs249, es250, rfl, le248, st, w249, w250, t0, t4, t7, t10, t11, t12⟩ := hp
        have le251 := PH.le.trans le237 le248
        have le252 := PH.le.trans le229 le248
        unfold sf69_L4 at hF; unfold L96w0; refine w_seq ?_; refine w_reg ?_; refine v_lss ?_; refine r_nil ?_; refine th_n ?_; refine w_seq ?_; refine v_cond (fun hb294 => ?_) (fun hb294 => ?_)
        · have hF := bif_t hb294 hF; refine w_skip ?_; refine th_n ?_; refine w_seq ?_; refine w_block ?_; refine w_seq ?_; refine w_reg ?_; refine v_move ?_; obtain ⟨n295, x295, z295, l295, g295, hF⟩ := ix_some hF; obtain ⟨b295, o295, s295, j295, r295, e295, f295, k295, ⟨_, _, rfl, rfl, ⟨_, _, rfl, rfl, rfl⟩⟩⟩ := RowF.get ra1 g295; refine v_ixp e295 z295 l295 ?_; refine v_ldn (st.sub _ _ (le251 _ _ f295)) k295 ?_; refine v_alloc st (fun b296 h297 n298 st => ?_); refine v_move ?_; refine v_st (cs' := [(i64 x295.1), (i64 x295.2.1), (i64 x295.2.2)]) st 4 rfl rfl rfl rfl hfl (fun h299 st => ?_); refine r_nil ?_; refine th_n ?_; refine w_seq ?_; refine w_reg ?_; refine v_move ?_; refine v_ldn (vs := [(i64 x240.1), (i64 x240.2)]) (st.at (i := 2) rfl).2.2 rfl ?_
          refine v_ldn (vs := [(i64 x295.1), (i64 x295.2.1), (i64 x295.2.2)]) (st.at (i := 4) rfl).2.2 rfl ?_; refine v_inl lw95 rfl rfl (fun T hT => ?_)
          have t0 := hT 0 _ rfl
          have t1 := hT 1 _ rfl
          have t2 := hT 2 _ rfl
          dsimp only [L95]
          refine w_seq ?_; refine w_reg ?_; refine v_box st (fun b301 h302 n303 st => ?_); refine v_box st (fun b304 h305 n306 st => ?_); refine v_move ?_; refine r_nil ?_; refine th_n ?_; refine w_seq ?_; refine w_reg ?_; refine v_ldn (vs := [(i64 x240.1), (i64 x240.2)]) (st.at (i := 5) rfl).2.2 rfl ?_; refine v_ldn (vs := [(i64 x295.1), (i64 x295.2.1), (i64 x295.2.2)]) (st.at (i := 6) rfl).2.2 rfl ?_; refine v_build (cs := [(i64 x240.1), (i64 x240.2), (i64 x295.1), (i64 x295.2.1), (i64 x295.2.2)]) rfl ?_; refine v_alloc st (fun b307 h308 n309 st => ?_); refine v_st (cs' := [(i64 x240.1), (i64 x240.2), (i64 x295.1), (i64 x295.2.1), (i64 x295.2.2)]) st 7 rfl rfl rfl rfl hfl (fun h310 st => ?_)
          refine r_nil ?_; refine th_n ?_; refine w_seq ?_; refine w_reg ?_; refine v_move ?_; refine v_ldn (vs := [(i64 x240.1), (i64 x240.2), (i64 x295.1), (i64 x295.2.1), (i64 x295.2.2)]) (st.at (i := 7) rfl).2.2 rfl ?_; refine v_lk2 w250 (st.at (i := 1) rfl).2.2 (x240.1, x240.2, x295.1, x295.2.1, x295.2.2) false (kv := (.agg [(i64 x240.1), (i64 x240.2), (i64 x295.1), (i64 x295.2.1), (i64 x295.2.2)])) rfl rfl ?_; refine v_move ?_; refine v_xt rfl ?_; refine v_xt rfl ?_; refine v_move ?_; refine v_move ?_; refine r_nil ?_; refine th_n ?_; refine w_seq ?_; refine w_seq ?_; refine w_reg ?_; refine v_move ?_; refine v_not ?_; refine r_nil ?_; refine th_n ?_; refine v_cond (fun hb311 => ?_) (fun hb311 => ?_)
          · have hF := bif_t hb311 hF; refine w_seq ?_; refine w_reg ?_; refine v_ldn (vs := [(i64 x240.1), (i64 x240.2), (i64 x295.1), (i64 x295.2.1), (i64 x295.2.2)]) (st.at (i := 7) rfl).2.2 rfl ?_; obtain ⟨v312, e313, hF⟩ := bnd_some hF; refine v_call st (ct103 N e313 st.d st.sub ) (fun n314 st => ?_); refine v_move ?_; refine r_nil ?_; refine th_n ?_; refine w_reg ?_; refine v_move ?_; refine v_ldn (vs := [(i64 x240.1), (i64 x240.2), (i64 x295.1), (i64 x295.2.1), (i64 x295.2.2)]) (st.at (i := 7) rfl).2.2 rfl ?_; refine v_move ?_; refine v_mu st 1 rfl w250 (x240.1, x240.2, x295.1, x295.2.1, x295.2.2) v312 (kv := (.agg [(i64 x240.1), (i64 x240.2), (i64 x295.1), (i64 x295.2.1), (i64 x295.2.2)])) (vv := (.bool v312)) rfl rfl hfl (fun es315 h316 w315 st => ?_)
            refine r_nil ?_; refine th_n ?_; refine w_seq ?_; refine w_reg ?_; refine v_move ?_; refine v_move ?_; refine r_nil ?_; refine th_n ?_; refine w_ret ?_; refine inl_end (v := (.bool v312)) (Res.t gA Res.nil) rfl (.inl rfl) (ik ?_); refine v_not ?_; refine r_nil ?_; refine th_n ?_; refine v_cond (fun hb317 => ?_) (fun hb317 => ?_)
            · have hF := bif_t hb317 hF; refine w_reg ?_; refine v_move ?_; refine v_move ?_; refine v_bs (cs := [(i64 x247.2.1)]) st rfl (fun b318 h319 n320 st => ?_); obtain ⟨q321, hF⟩ := ck_some hF
              have w321 : LR rI 1 F248 (x247.1 ++ [x247.2.1]) (cs249 ++ [(i64 x247.2.1)]) := LR.app w249 (LR.one (rfl))
              refine v_aps (n := 1) (ox := 0) (m := (x247.1 ++ [x247.2.1]).length) (row := [(i64 x247.2.1)]) st 3 rfl w249.1 (st.at (i := 8) rfl).2.2 rfl rfl q321 hfl (by decide) (by decide) (by simp) (fun o321 c321 h321 n321 st => ?_)
              refine v_move ?_; refine r_nil ?_; refine ib_n ?_; refine th_n ?_; refine w_reg ?_; obtain ⟨q322, hF⟩ := ck_some hF; refine v_add q322 ?_; refine v_move ?_; refine r_nil ?_; refine thn ⟨_, (inj hF).symm, rfl, ?_⟩; dsimp only
              exact ⟨F248, o321, c321, (cs249 ++ [(i64 x247.2.1)]), es315, rfl, le248, (st.drop (by first | exact List.Sublist.refl _ | (repeat first | exact List.nil_sublist _ | refine List.Sublist.cons_cons _ ?_ | refine List.Sublist.cons _ ?_))), w321, w315, gA, gA, gA, gA, gA, gA⟩
            · have hF := bif_f hb317 hF; refine w_skip ?_; refine ib_n ?_; refine th_n ?_; refine w_reg ?_; obtain ⟨q323, hF⟩ := ck_some hF; refine v_add q323 ?_; refine v_move ?_; refine r_nil ?_; refine thn ⟨_, (inj hF).symm, rfl, ?_⟩; dsimp only
              exact ⟨F248, o249, c249, cs249, es315, rfl, le248, (st.drop (by first | exact List.Sublist.refl _ | (repeat first | exact List.nil_sublist _ | refine List.Sublist.cons_cons _ ?_ | refine List.Sublist.cons _ ?_))), w249, w315, gA, gA, gA, gA, gA, gA⟩
          · have hF := bif_f hb311 hF; refine w_skip ?_; refine th_n ?_; refine w_seq ?_; refine w_reg ?_; refine v_move ?_; refine v_move ?_; refine r_nil ?_; refine th_n ?_; refine w_ret ?_; refine inl_end (v := (.bool (Option.getD (x247.2.2 (x240.1, x240.2, x295.1, x295.2.1, x295.2.2)) false))) (Res.t gA Res.nil) rfl (.inl rfl) (ik ?_); refine v_not ?_; refine r_nil ?_; refine th_n ?_; refine v_cond (fun hb324 => ?_) (fun hb324 => ?_)
            · have hF := bif_t hb324 hF; refine w_reg ?_; refine v_move ?_; refine v_move ?_; refine v_bs (cs := [(i64 x247.2.1)]) st rfl (fun b325 h326 n327 st => ?_); obtain ⟨q328, hF⟩ := ck_some hF
              have w328 : LR rI 1 F248 (x247.1 ++ [x247.2.1]) (cs249 ++ [(i64 x247.2.1)]) := LR.app w249 (LR.one (rfl))
              refine v_aps (n := 1) (ox := 0) (m := (x247.1 ++ [x247.2.1]).length) (row := [(i64 x247.2.1)]) st 3 rfl w249.1 (st.at (i := 8) rfl).2.2 rfl rfl q328 hfl (by decide) (by decide) (by simp) (fun o328 c328 h328 n328 st => ?_)
              refine v_move ?_; refine r_nil ?_; refine ib_n ?_; refine th_n ?_; refine w_reg ?_; obtain ⟨q329, hF⟩ := ck_some hF; refine v_add q329 ?_; refine v_move ?_; refine r_nil ?_; refine thn ⟨_, (inj hF).symm, rfl, ?_⟩; dsimp only
              exact ⟨F248, o328, c328, (cs249 ++ [(i64 x247.2.1)]), es250, rfl, le248, (st.drop (by first | exact List.Sublist.refl _ | (repeat first | exact List.nil_sublist _ | refine List.Sublist.cons_cons _ ?_ | refine List.Sublist.cons _ ?_))), w328, w250, gA, gA, gA, gA, gA, gA⟩
            · have hF := bif_f hb324 hF; refine w_skip ?_; refine ib_n ?_; refine th_n ?_; refine w_reg ?_; obtain ⟨q330, hF⟩ := ck_some hF; refine v_add q330 ?_; refine v_move ?_; refine r_nil ?_; refine thn ⟨_, (inj hF).symm, rfl, ?_⟩; dsimp only
              exact ⟨F248, o249, c249, cs249, es250, rfl, le248, (st.drop (by first | exact List.Sublist.refl _ | (repeat first | exact List.nil_sublist _ | refine List.Sublist.cons_cons _ ?_ | refine List.Sublist.cons _ ?_))), w249, w250, gA, gA, gA, gA, gA, gA⟩
        · have hF := bif_f hb294 hF; refine w_exit ?_; refine th_e ?_; refine th_e ?_; refine ⟨_, (inj hF).symm, rfl, rfl, ?_⟩; dsimp only
          exact ⟨F248, o249, c249, cs249, es250, rfl, le248, st, w249, w250, gA⟩
      · obtain ⟨N9, T, ds291⟩ := a; obtain ⟨h333, n334⟩ := σ; obtain ⟨rfl, e1, F291, o292, c292, cs292, es293, e2, le291, st, w292, w293, t7⟩ := hq
        dsimp only at e1 e2
        subst e1
        subst e2
        dsimp only at st t7
        have le331 := PH.le.trans le237 le291
        have le332 := PH.le.trans le229 le291
        refine ib_e ?_; refine th_n ?_; refine w_seq ?_; refine w_reg ?_; refine v_move ?_; refine v_move ?_; refine r_nil ?_; refine th_n ?_; refine w_ret ?_; refine inl_end (v := (slv o292 (y290.1).length c292)) (Res.t gA Res.nil) rfl (.inl rfl) (ik ?_); refine v_move ?_; refine v_move ?_; refine r_nil ?_; refine th_n ?_; refine w_ret ?_; obtain rfl := inj hF
        obtain ⟨F335, le335, st, rf335⟩ := St.freeze st 3 rfl w292 (by decide)
        have le336 := PH.le.trans le331 le335
        have le337 := PH.le.trans le332 le335
        have le338 := PH.le.trans le291 le335
        exact end_r st (Res.t gA (Res.t gA Res.nil)) ⟨_, _, rfl, rfl, ⟨_, _, rfl, rf335⟩⟩
end Go.Hx.V

/- Functions of the program come to that. -/
namespace Go.Hx.V
open Go.Hx
set_option linter.unusedVariables false
set_option maxRecDepth 20000
set_option maxHeartbeats 4000000
attribute [local irreducible] W R C thenH inBlockH Tr.get Tr.set lo
theorem ct40 (N : Nat) {a0 : (List (Int × Int))} {a1 : (List (Int × Int × Int))} {r : Int} (hF : sf40 N a0 a1 = some r) {fl : Nat} {h0 : Tr HBlk} {n0 : Nat} {F0 : PH} (hd : D h0 n0) (hs : F0.sub h0) {pa0 : Option (Nat × Nat)} {ca0 : Nat} {pa1 : Option (Nat × Nat)} {ca1 : Nat} (ra0 : RowF (rP rI rI) 2 F0 pa0 ca0 a0) (ra1 : RowF (rP rI (rP rI rI)) 3 F0 pa1 ca1 a1) : C LW fl 40 [(.slice pa0 (a0).length ca0), (.slice pa1 (a1).length ca1)] ⟨h0, n0⟩ (KS (i64 r) n0 h0) := by
  unfold sf40 at hF
  refine in_cT hd hs lw40 rfl rfl (by rfl) (fun st T hT => ?_)
  have hfl : n0 ≤ n0 := Nat.le_refl n0
  have t0 := hT 0 _ rfl
  have t1 := hT 1 _ rfl
  dsimp only [L40]
  refine w_seq ?_; refine w_reg ?_; refine v_move ?_; refine r_nil ?_; refine th_n ?_; obtain ⟨y8, hA9, hF⟩ := bnd_some hF; refine w_cutD (fun T ds14 h nx => ∃ u, y8 = (.inr u) ∧ ∃ (F14 : PH), ds14 = [] ∧ PH.le F0 F14 ∧ St n0 h0 F0 F14 h nx [] ∧ T.get 0 = some (.slice pa0 (a0).length ca0) ∧ T.get 1 = some (.slice pa1 (a1).length ca1)) ?_ (fun T ds14 h nx hp => ?_)
  · have hK10 := hF
    have hF := hA9; obtain ⟨y16, hA17, hF⟩ := bnd_some hF; refine w_cutD (fun T ds19 h nx => ∃ (F19 : PH), ds19 = [] ∧ PH.le F0 F19 ∧ St n0 h0 F0 F19 h nx [] ∧ T.get 0 = some (.slice pa0 (a0).length ca0) ∧ T.get 1 = some (.slice pa1 (a1).length ca1) ∧ T.get 14 = some (.bool y16)) ?_ (fun T ds19 h nx hp => ?_)
    · have hK18 := hF
      have hF := hA17; refine w_reg ?_; refine v_move ?_; refine v_len ?_; refine v_gtr ?_; refine v_move ?_
      rcases Bool.eq_false_or_eq_true (decide ((8 : Int) < ((a0).length : Int))) with hb20 | hb20
      · have hF := bif_t hb20 hF; refine g_skip hb20 ?_; refine g_skip hb20 ?_; refine g_skip hb20 ?_; refine v_pick hb20 ?_; refine r_nil ?_; obtain rfl := inj hF; refine thn ⟨rfl, ?_⟩; dsimp only
        exact ⟨F0, rfl, (PH.le.refl _), st, gA, gA, gA⟩
      · have hF := bif_f hb20 hF; refine g_take hb20 (v_move ?_); refine g_take hb20 (v_len ?_); refine g_take hb20 (v_gtr ?_); refine v_pick' hb20 ?_; refine r_nil ?_; obtain rfl := inj hF; refine thn ⟨rfl, ?_⟩; dsimp only
        exact ⟨F0, rfl, (PH.le.refl _), st, gA, gA, gA⟩
    · obtain ⟨F19, rfl, le19, st, t0, t1, t14⟩ := hp; refine v_cond (fun hb21 => ?_) (fun hb21 => ?_)
      · have hF := bif_t hb21 hF; refine w_seq ?_; refine w_reg ?_; refine v_move ?_; refine r_nil ?_; refine th_n ?_; refine w_ret ?_; obtain rfl := inj hF; have hF := hK10; have hF := sel_l hF; refine th_r ?_; obtain rfl := inj hF
        exact end_s st (Res.t gA Res.nil) rfl rfl
      · have hF := bif_f hb21 hF; refine w_skip ?_; obtain rfl := inj hF; refine thn ⟨rfl, _, rfl, ?_⟩; dsimp only
        exact ⟨F19, rfl, le19, st, gA, gA⟩
  · obtain ⟨w13, rfl, F14, rfl, le14, st, t0, t1⟩ := hp; have hF := sel_r hF; refine w_seq ?_; refine w_seq ?_; refine w_reg ?_; refine v_move ?_; refine v_build (cs := [(i64 (0 : Int)), (i64 (0 : Int))]) rfl ?_; obtain ⟨v22, e23, hF⟩ := bnd_some hF; refine v_call st (ct21 N e23 st.d st.sub (RowF.mono le14 ra0)) (fun n24 st => ?_); refine v_move ?_; refine r_nil ?_; refine th_n ?_; refine w_seq ?_; refine w_reg ?_; refine v_move ?_; refine v_nei ?_; refine r_nil ?_; refine th_n ?_; refine v_cond (fun hb25 => ?_) (fun hb25 => ?_)
    · have hF := bif_t hb25 hF; refine w_seq ?_; refine w_reg ?_; refine v_move ?_; refine v_move ?_; refine r_nil ?_; refine th_n ?_; refine w_ret ?_; refine th_r ?_; obtain rfl := inj hF
      exact end_s st (Res.t gA Res.nil) rfl rfl
    · have hF := bif_f hb25 hF; refine w_skip ?_; refine th_n ?_; refine w_seq ?_; refine w_seq ?_; refine w_reg ?_; refine v_move ?_; refine r_nil ?_; refine th_n ?_; refine w_block ?_; obtain ⟨y36, hy, hF⟩ := bnd_some hF; refine v_loopD (sf40_L1 N a1) (fun x26 T ds27 h nx => ∃ (F27 : PH), ds27 = [] ∧ PH.le F14 F27 ∧ St n0 h0 F0 F27 h nx [] ∧ T.get 1 = some (.slice pa1 (a1).length ca1) ∧ T.get 6 = some (i64 x26)) (fun y e a σ => (∃ u, y = (.inl u) ∧ e = .ret ∧ a.nt = 33 ∧ ∃ (F38 : PH), a.defers = [] ∧ PH.le F14 F38 ∧ St n0 h0 F0 F38 σ.h σ.nx [] ∧ a.tmps.get 4 = some (i64 u)) ∨ (∃ u, y = (.inr u) ∧ e = .exit 0 ∧ a.nt = 33 ∧ ∃ (F40 : PH), a.defers = [] ∧ PH.le F14 F40 ∧ St n0 h0 F0 F40 σ.h σ.nx [])) (fun x26 T ds27 h nx s hp hF => ?_) N _ y36 _ _ _ _ hy ⟨F14, rfl, (PH.le.refl _), st, gA, gA⟩ (fun e a σ hne hq => ?_)
      · obtain ⟨F27, rfl, le27, st, t1, t6⟩ := hp
        have le28 := PH.le.trans le14 le27
        unfold sf40_L1 at hF; unfold L40w0; refine w_seq ?_; refine w_seq ?_; refine w_reg ?_; refine v_move ?_; refine v_move ?_; refine v_len ?_; refine v_lss ?_; refine r_nil ?_; refine th_n ?_; refine v_cond (fun hb41 => ?_) (fun hb41 => ?_)
        · have hF := bif_t hb41 hF; refine w_skip ?_; refine th_n ?_; refine w_seq ?_; refine w_block ?_; refine w_seq ?_; refine w_reg ?_; refine v_move ?_; refine v_move ?_; obtain ⟨n42, x42, z42, l42, g42, hF⟩ := ix_some hF; obtain ⟨b42, o42, s42, j42, r42, e42, f42, k42, ⟨_, _, rfl, rfl, ⟨_, _, rfl, rfl, rfl⟩⟩⟩ := RowF.get ra1 g42; refine v_ixp e42 z42 l42 ?_; refine v_ldn (st.sub _ _ (le28 _ _ f42)) k42 ?_; obtain ⟨v43, e44, hF⟩ := bnd_some hF; refine v_call st (ct70 N e44 st.d st.sub ) (fun n45 st => ?_); refine v_not ?_; refine r_nil ?_; refine th_n ?_; refine v_cond (fun hb46 => ?_) (fun hb46 => ?_)
          · have hF := bif_t hb46 hF; refine w_seq ?_; refine w_reg ?_; refine v_move ?_; refine r_nil ?_; refine th_n ?_; refine w_ret ?_; refine ib_r ?_; refine th_r ?_; refine th_r ?_; refine ⟨_, (inj hF).symm, .inl ⟨_, rfl, rfl, rfl, ?_⟩⟩; dsimp only
            exact ⟨F27, rfl, le27, st, gA⟩
          · have hF := bif_f hb46 hF; refine w_skip ?_; refine ib_n ?_; refine th_n ?_; refine w_reg ?_; refine v_move ?_; obtain ⟨q47, hF⟩ := ck_some hF; refine v_add q47 ?_; refine v_move ?_; refine r_nil ?_; refine thn ⟨_, (inj hF).symm, rfl, ?_⟩; dsimp only
            exact ⟨F27, rfl, le27, st, gA, gA⟩
        · have hF := bif_f hb41 hF; refine w_exit ?_; refine th_e ?_; refine th_e ?_; refine ⟨_, (inj hF).symm, .inr (⟨_, rfl, rfl, rfl, ?_⟩)⟩; dsimp only
          exact ⟨F27, rfl, le27, st⟩
      · rcases hq with hq | hq
        · obtain ⟨N9, T, ds38⟩ := a; obtain ⟨h49, n50⟩ := σ; obtain ⟨w37, rfl, rfl, e1, F38, e2, le38, st, t4⟩ := hq
          dsimp only at e1 e2
          subst e1
          subst e2
          dsimp only at st t4
          have le48 := PH.le.trans le14 le38
          have hF := sel_l hF; refine ib_r ?_; refine th_r ?_; obtain rfl := inj hF
          exact end_s st (Res.t gA Res.nil) rfl rfl
        · obtain ⟨N9, T, ds40⟩ := a; obtain ⟨h52, n53⟩ := σ; obtain ⟨w39, rfl, rfl, e1, F40, e2, le40, st⟩ := hq
          dsimp only at e1 e2
          subst e1
          subst e2
          dsimp only at st
          have le51 := PH.le.trans le14 le40
          have hF := sel_r hF; refine ib_e ?_; refine th_n ?_; refine w_seq ?_; refine w_reg ?_; refine v_move ?_; refine r_nil ?_; refine th_n ?_; refine w_ret ?_; obtain rfl := inj hF
          exact end_s st (Res.t gA Res.nil) rfl rfl
end Go.Hx.V

/- Functions of the program come to that. -/
namespace Go.Hx.V
open Go.Hx
set_option linter.unusedVariables false
set_option maxRecDepth 20000
set_option maxHeartbeats 4000000
attribute [local irreducible] W R C thenH inBlockH Tr.get Tr.set lo
theorem ct37 (N : Nat) {a0 : (List (Int × Int))} {a1 : (List (Int × Int × Int))} {r : ((List Int) × Int)} (hF : sf37 N a0 a1 = some r) {fl : Nat} {h0 : Tr HBlk} {n0 : Nat} {F0 : PH} (hd : D h0 n0) (hs : F0.sub h0) (hfl : fl ≤ n0) {pa0 : Option (Nat × Nat)} {ca0 : Nat} {pa1 : Option (Nat × Nat)} {ca1 : Nat} (ra0 : RowF (rP rI rI) 2 F0 pa0 ca0 a0) (ra1 : RowF (rP rI (rP rI rI)) 3 F0 pa1 ca1 a1) : C LW fl 37 [(.slice pa0 (a0).length ca0), (.slice pa1 (a1).length ca1)] ⟨h0, n0⟩ (KR (rvT2 (lvL rI 1) lvI) F0 h0 n0 r) := by
  unfold sf37 at hF
  refine in_mT hd hs hfl lw37 rfl rfl (by rfl) (fun st T hT => ?_)
  have t0 := hT 0 _ rfl
  have t1 := hT 1 _ rfl
  dsimp only [L37]
  refine w_seq ?_; refine w_reg ?_; refine v_move ?_; refine v_move ?_; refine r_nil ?_; refine th_n ?_; refine w_seq ?_; refine w_seq ?_; refine w_reg ?_; refine v_move ?_; refine v_move ?_; obtain ⟨v1, e2, hF⟩ := bnd_some hF; refine v_call st (ct67 N e2 st.d st.sub ra0 ra1) (fun n3 st => ?_); refine v_move ?_; refine r_nil ?_; refine th_n ?_; refine w_seq ?_; refine w_reg ?_; refine v_move ?_; refine v_nei ?_; refine r_nil ?_; refine th_n ?_; refine v_cond (fun hb4 => ?_) (fun hb4 => ?_)
  · have hF := bif_t hb4 hF; refine w_seq ?_; refine w_reg ?_; refine v_move ?_; refine v_move ?_; refine v_move ?_; refine r_nil ?_; refine th_n ?_; refine w_ret ?_; refine th_r ?_; obtain rfl := inj hF
    exact end_r st (Res.t gA (Res.t gA Res.nil)) ⟨_, _, rfl, ⟨none, 0, rfl, RowF.nil⟩, rfl⟩
  · have hF := bif_f hb4 hF; refine w_skip ?_; refine th_n ?_; refine w_seq ?_; refine w_reg ?_; refine v_move ?_; refine v_move ?_; obtain ⟨v5, e6, hF⟩ := bnd_some hF; refine v_callR st (ct68 N e6 st.d st.sub (Nat.le_trans hfl st.ext.le) ra0 ra1) (fun u7 F7 h7 n7 le7 rv7 st => ?_); obtain ⟨py8, cy8, rfl, ry8⟩ := rv7; refine v_move ?_; refine v_move ?_; refine r_nil ?_; refine th_n ?_; refine w_ret ?_; obtain rfl := inj hF
    exact end_r st (Res.t gA (Res.t gA Res.nil)) ⟨_, _, rfl, ⟨_, _, rfl, ry8⟩, rfl⟩
theorem ct39 (N : Nat) {a0 : (List (Int × Int))} {a1 : (List (Int × Int × Int))} {r : (Int × (List Int) × Int)} (hF : sf39 N a0 a1 = some r) {fl : Nat} {h0 : Tr HBlk} {n0 : Nat} {F0 : PH} (hd : D h0 n0) (hs : F0.sub h0) (hfl : fl ≤ n0) {pa0 : Option (Nat × Nat)} {ca0 : Nat} {pa1 : Option (Nat × Nat)} {ca1 : Nat} (ra0 : RowF (rP rI rI) 2 F0 pa0 ca0 a0) (ra1 : RowF (rP rI (rP rI rI)) 3 F0 pa1 ca1 a1) : C LW fl 39 [(.slice pa0 (a0).length ca0), (.slice pa1 (a1).length ca1)] ⟨h0, n0⟩ (KR (rvT3 lvI (lvL rI 1) lvI) F0 h0 n0 r) := by
  unfold sf39 at hF
  refine in_mT hd hs hfl lw39 rfl rfl (by rfl) (fun st T hT => ?_)
  have t0 := hT 0 _ rfl
  have t1 := hT 1 _ rfl
  dsimp only [L39]
  refine w_seq ?_; refine w_reg ?_; refine v_move ?_; refine v_move ?_; refine v_move ?_; refine r_nil ?_; refine th_n ?_; refine w_seq ?_; refine w_seq ?_; refine w_reg ?_; refine v_move ?_; refine v_move ?_; obtain ⟨v1, e2, hF⟩ := bnd_some hF; refine v_call st (ct67 N e2 st.d st.sub ra0 ra1) (fun n3 st => ?_); refine v_move ?_; refine r_nil ?_; refine th_n ?_; refine w_seq ?_; refine w_reg ?_; refine v_move ?_; refine v_nei ?_; refine r_nil ?_; refine th_n ?_; refine v_cond (fun hb4 => ?_) (fun hb4 => ?_)
  · have hF := bif_t hb4 hF; refine w_seq ?_; refine w_reg ?_; refine v_move ?_; refine v_move ?_; refine v_move ?_; refine v_move ?_; refine r_nil ?_; refine th_n ?_; refine w_ret ?_; refine th_r ?_; obtain rfl := inj hF
    exact end_r st (Res.t gA (Res.t gA (Res.t gA Res.nil))) ⟨_, _, _, rfl, rfl, ⟨none, 0, rfl, RowF.nil⟩, rfl⟩
  · have hF := bif_f hb4 hF; refine w_skip ?_; refine th_n ?_; refine w_seq ?_; refine w_seq ?_; refine w_reg ?_; refine v_move ?_; refine v_len ?_; refine v_eqi ?_; refine r_nil ?_; refine th_n ?_; refine v_cond (fun hb5 => ?_) (fun hb5 => ?_)
    · have hF := bif_t hb5 hF; refine w_seq ?_; refine w_reg ?_; refine v_move ?_; refine v_move ?_; refine v_move ?_; refine r_nil ?_; refine th_n ?_; refine w_ret ?_; refine th_r ?_; obtain rfl := inj hF
      exact end_r st (Res.t gA (Res.t gA (Res.t gA Res.nil))) ⟨_, _, _, rfl, rfl, ⟨none, 0, rfl, RowF.nil⟩, rfl⟩
    · have hF := bif_f hb5 hF; refine w_skip ?_; refine th_n ?_; refine w_seq ?_; refine w_reg ?_; refine v_move ?_; refine v_move ?_; obtain ⟨v6, e7, hF⟩ := bnd_some hF; refine v_callR st (ct69 N e7 st.d st.sub (Nat.le_trans hfl st.ext.le) ra0 ra1) (fun u8 F8 h8 n8 le8 rv8 st => ?_); obtain ⟨_, _, rfl, rfl, ⟨py9, cy9, rfl, ry9⟩⟩ := rv8; refine v_move ?_; refine v_xt rfl ?_; refine v_xt rfl ?_; refine v_move ?_; refine v_move ?_; refine r_nil ?_; refine th_n ?_; refine w_seq ?_; refine w_reg ?_; refine v_move ?_; refine v_move ?_; refine v_move ?_; refine v_move ?_; refine v_move ?_; refine r_nil ?_; refine th_n ?_; refine w_ret ?_; obtain rfl := inj hF
      exact end_r st (Res.t gA (Res.t gA (Res.t gA Res.nil))) ⟨_, _, _, rfl, rfl, ⟨_, _, rfl, ry9⟩, rfl⟩
end Go.Hx.V

/- Functions of the program come to that. -/
namespace Go.Hx.V
open Go.Hx
set_option linter.unusedVariables false
set_option maxRecDepth 20000
set_option maxHeartbeats 4000000
attribute [local irreducible] W R C thenH inBlockH Tr.get Tr.set lo
theorem ct6 (N : Nat) {a0 : (List (Int × Int))} {a1 : (List (Int × Int × Int))} {r : Bool} (hF : sf6 N a0 a1 = some r) {fl : Nat} {h0 : Tr HBlk} {n0 : Nat} {F0 : PH} (hd : D h0 n0) (hs : F0.sub h0) {pa0 : Option (Nat × Nat)} {ca0 : Nat} {pa1 : Option (Nat × Nat)} {ca1 : Nat} (ra0 : RowF (rP rI rI) 2 F0 pa0 ca0 a0) (ra1 : RowF (rP rI (rP rI rI)) 3 F0 pa1 ca1 a1) : C LW fl 6 [(.slice pa0 (a0).length ca0), (.slice pa1 (a1).length ca1)] ⟨h0, n0⟩ (KS (.bool r) n0 h0) := by
  unfold sf6 at hF
  refine in_cT hd hs lw6 rfl rfl (by rfl) (fun st T hT => ?_)
  have hfl : n0 ≤ n0 := Nat.le_refl n0
  have t0 := hT 0 _ rfl
  have t1 := hT 1 _ rfl
  dsimp only [L6]
  refine w_seq ?_; refine w_reg ?_; refine v_move ?_; refine r_nil ?_; refine th_n ?_; obtain ⟨y9, hA10, hF⟩ := bnd_some hF; refine w_cutD (fun T ds15 h nx => ∃ u, y9 = (.inr u) ∧ ∃ (F15 : PH), ds15 = [] ∧ PH.le F0 F15 ∧ St n0 h0 F0 F15 h nx [] ∧ T.get 0 = some (.slice pa0 (a0).length ca0) ∧ T.get 1 = some (.slice pa1 (a1).length ca1)) ?_ (fun T ds15 h nx hp => ?_)
  · have hK11 := hF
    have hF := hA10; obtain ⟨y17, hA18, hF⟩ := bnd_some hF; refine w_cutD (fun T ds20 h nx => ∃ (F20 : PH), ds20 = [] ∧ PH.le F0 F20 ∧ St n0 h0 F0 F20 h nx [] ∧ T.get 0 = some (.slice pa0 (a0).length ca0) ∧ T.get 1 = some (.slice pa1 (a1).length ca1) ∧ T.get 22 = some (.bool y17)) ?_ (fun T ds20 h nx hp => ?_)
    · have hK19 := hF
      have hF := hA18; refine w_reg ?_; refine v_move ?_; refine v_len ?_; refine v_gtr ?_; refine v_move ?_
      rcases Bool.eq_false_or_eq_true (decide ((11 : Int) < ((a0).length : Int))) with hb21 | hb21
      · have hF := bif_t hb21 hF; refine g_skip hb21 ?_; refine g_skip hb21 ?_; refine g_skip hb21 ?_; refine v_pick hb21 ?_; refine r_nil ?_; obtain rfl := inj hF; refine thn ⟨rfl, ?_⟩; dsimp only
        exact ⟨F0, rfl, (PH.le.refl _), st, gA, gA, gA⟩
      · have hF := bif_f hb21 hF; refine g_take hb21 (v_move ?_); refine g_take hb21 (v_len ?_); refine g_take hb21 (v_gtr ?_); refine v_pick' hb21 ?_; refine r_nil ?_; obtain rfl := inj hF; refine thn ⟨rfl, ?_⟩; dsimp only
        exact ⟨F0, rfl, (PH.le.refl _), st, gA, gA, gA⟩
    · obtain ⟨F20, rfl, le20, st, t0, t1, t22⟩ := hp; refine v_cond (fun hb22 => ?_) (fun hb22 => ?_)
      · have hF := bif_t hb22 hF; refine w_seq ?_; refine w_reg ?_; refine v_call st (ct_wakes (h := _) (nx := _)) (fun n23 st => ?_); refine v_move ?_; refine r_nil ?_; refine th_n ?_; refine w_ret ?_; obtain rfl := inj hF; have hF := hK11; have hF := sel_l hF; refine th_r ?_; obtain rfl := inj hF
        exact end_s st (Res.t gA Res.nil) rfl rfl
      · have hF := bif_f hb22 hF; refine w_skip ?_; obtain rfl := inj hF; refine thn ⟨rfl, _, rfl, ?_⟩; dsimp only
        exact ⟨F20, rfl, le20, st, gA, gA⟩
  · obtain ⟨w14, rfl, F15, rfl, le15, st, t0, t1⟩ := hp; have hF := sel_r hF; refine w_seq ?_; refine w_reg ?_; refine v_move ?_; obtain ⟨v24, e25, hF⟩ := bnd_some hF; refine v_callR st (ct25 N e25 st.d st.sub (Nat.le_trans hfl st.ext.le) (RowF.mono le15 ra0)) (fun u26 F26 h26 n26 le26 rv26 st => ?_)
    have le27 := PH.le.trans le15 le26
    obtain ⟨py28, cy28, rfl, ry28⟩ := rv26; refine v_move ?_; obtain ⟨v29, e30, hF⟩ := bnd_some hF; refine v_callR st (ct38 N e30 st.d st.sub (Nat.le_trans hfl st.ext.le) (RowF.mono le27 ra1)) (fun u31 F31 h31 n31 le31 rv31 st => ?_)
    have le32 := PH.le.trans le27 le31
    have le33 := PH.le.trans le26 le31
    obtain ⟨py34, cy34, rfl, ry34⟩ := rv31; obtain ⟨v35, e36, hF⟩ := bnd_some hF; refine v_callR st (ct37 N e36 st.d st.sub (Nat.le_trans hfl st.ext.le) (RowF.mono le31 ry28) ry34) (fun u37 F37 h37 n37 le37 rv37 st => ?_)
    have le38 := PH.le.trans le32 le37
    have le39 := PH.le.trans le33 le37
    have le40 := PH.le.trans le31 le37
    obtain ⟨_, _, rfl, ⟨py41, cy41, rfl, ry41⟩, rfl⟩ := rv37; refine v_move ?_; refine v_xt rfl ?_; refine v_xt rfl ?_; refine v_move ?_; refine v_move ?_; refine r_nil ?_; refine th_n ?_; refine w_seq ?_; refine w_reg ?_; refine v_move ?_; obtain ⟨v42, e43, hF⟩ := bnd_some hF; refine v_callR st (ct25 N e43 st.d st.sub (Nat.le_trans hfl st.ext.le) (RowF.mono le38 ra0)) (fun u44 F44 h44 n44 le44 rv44 st => ?_)
    have le45 := PH.le.trans le38 le44
    have le46 := PH.le.trans le39 le44
    have le47 := PH.le.trans le40 le44
    have le48 := PH.le.trans le37 le44
    obtain ⟨py49, cy49, rfl, ry49⟩ := rv44; refine v_move ?_; obtain ⟨v50, e51, hF⟩ := bnd_some hF; refine v_callR st (ct38 N e51 st.d st.sub (Nat.le_trans hfl st.ext.le) (RowF.mono le45 ra1)) (fun u52 F52 h52 n52 le52 rv52 st => ?_)
    have le53 := PH.le.trans le45 le52
    have le54 := PH.le.trans le46 le52
    have le55 := PH.le.trans le47 le52
    have le56 := PH.le.trans le48 le52
    have le57 := PH.le.trans le44 le52
    obtain ⟨py58, cy58, rfl, ry58⟩ := rv52; obtain ⟨v59, e60, hF⟩ := bnd_some hF; refine v_callR st (ct39 N e60 st.d st.sub (Nat.le_trans hfl st.ext.le) (RowF.mono le52 ry49) ry58) (fun u61 F61 h61 n61 le61 rv61 st => ?_)
    have le62 := PH.le.trans le53 le61
    have le63 := PH.le.trans le54 le61
    have le64 := PH.le.trans le55 le61
    have le65 := PH.le.trans le56 le61
    have le66 := PH.le.trans le57 le61
    have le67 := PH.le.trans le52 le61
    obtain ⟨_, _, _, rfl, rfl, ⟨py68, cy68, rfl, ry68⟩, rfl⟩ := rv61; refine v_move ?_; refine v_xt rfl ?_; refine v_xt rfl ?_; refine v_xt rfl ?_; refine v_move ?_; refine v_move ?_; refine v_move ?_; refine r_nil ?_; refine th_n ?_; refine w_seq ?_; refine w_seq ?_; refine w_reg ?_; refine v_move ?_; refine v_move ?_; obtain ⟨v69, e70, hF⟩ := bnd_some hF; refine v_call st (ct40 N e70 st.d st.sub (RowF.mono le62 ra0) (RowF.mono le62 ra1)) (fun n71 st => ?_); refine v_move ?_; refine r_nil ?_; refine th_n ?_; refine w_seq ?_; refine w_reg ?_; refine v_move ?_; refine v_nei ?_; refine r_nil ?_; refine th_n ?_; refine v_cond (fun hb72 => ?_) (fun hb72 => ?_)
    · have hF := bif_t hb72 hF; refine w_seq ?_; refine w_reg ?_; refine v_move ?_; refine v_move ?_; refine v_eqi ?_; refine v_move ?_
      rcases Bool.eq_false_or_eq_true (decide (v35.2 = v69)) with hb73 | hb73
      · have hF := bif_t hb73 hF; refine g_take hb73 (v_move ?_); refine g_take hb73 (v_move ?_); refine g_take hb73 (v_eqi ?_); refine v_pick hb73 ?_; refine v_move ?_
        rcases Bool.eq_false_or_eq_true (decide (v59.2.2 = v69)) with hb74 | hb74
        · have hF := bif_t hb74 hF; refine g_take hb74 (v_move ?_); refine g_take hb74 (v_len ?_); refine g_take hb74 (v_move ?_); refine g_take hb74 (v_len ?_); obtain ⟨q75, hF⟩ := ck_some hF; refine g_take hb74 (v_add q75 ?_); refine g_take hb74 (v_eqi ?_); refine v_pick hb74 ?_; refine v_move ?_
          rcases Bool.eq_false_or_eq_true (decide ((((v35.1).length : Int) + ((v59.2.1).length : Int)) = (0 : Int))) with hb76 | hb76
          · have hF := bif_t hb76 hF; refine g_take hb76 (v_move ?_); refine g_take hb76 (v_eqi ?_); refine v_pick hb76 ?_; refine v_move ?_
            rcases Bool.eq_false_or_eq_true (decide (v59.1 = (0 : Int))) with hb77 | hb77
            · have hF := bif_t hb77 hF; refine g_take hb77 (v_call st (ct_wakes (h := _) (nx := _)) (fun n78 st => ?_)); refine v_pick hb77 ?_; refine v_move ?_; refine r_nil ?_; refine th_n ?_; refine w_ret ?_; refine th_r ?_; obtain rfl := inj hF
              exact end_s st (Res.t gA Res.nil) rfl rfl
            · have hF := bif_f hb77 hF; refine g_skip hb77 ?_; refine v_pick' hb77 ?_; refine v_move ?_; refine r_nil ?_; refine th_n ?_; refine w_ret ?_; refine th_r ?_; obtain rfl := inj hF
              exact end_s st (Res.t gA Res.nil) rfl rfl
          · have hF := bif_f hb76 hF; refine g_skip hb76 ?_; refine g_skip hb76 ?_; refine v_pick' hb76 ?_; refine v_move ?_; refine g_skip rfl ?_; refine v_pick' rfl ?_; refine v_move ?_; refine r_nil ?_; refine th_n ?_; refine w_ret ?_; refine th_r ?_; obtain rfl := inj hF
            exact end_s st (Res.t gA Res.nil) rfl rfl
        · have hF := bif_f hb74 hF; refine g_skip hb74 ?_; refine g_skip hb74 ?_; refine g_skip hb74 ?_; refine g_skip hb74 ?_; refine g_skip hb74 ?_; refine g_skip hb74 ?_; refine v_pick' hb74 ?_; refine v_move ?_; refine g_skip rfl ?_; refine g_skip rfl ?_; refine v_pick' rfl ?_; refine v_move ?_; refine g_skip rfl ?_; refine v_pick' rfl ?_; refine v_move ?_; refine r_nil ?_; refine th_n ?_; refine w_ret ?_; refine th_r ?_; obtain rfl := inj hF
          exact end_s st (Res.t gA Res.nil) rfl rfl
      · have hF := bif_f hb73 hF; refine g_skip hb73 ?_; refine g_skip hb73 ?_; refine g_skip hb73 ?_; refine v_pick' hb73 ?_; refine v_move ?_; refine g_skip rfl ?_; refine g_skip rfl ?_; refine g_skip rfl ?_; refine g_skip rfl ?_; refine g_skip rfl ?_; refine g_skip rfl ?_; refine v_pick' rfl ?_; refine v_move ?_; refine g_skip rfl ?_; refine g_skip rfl ?_; refine v_pick' rfl ?_; refine v_move ?_; refine g_skip rfl ?_; refine v_pick' rfl ?_; refine v_move ?_; refine r_nil ?_; refine th_n ?_; refine w_ret ?_; refine th_r ?_; obtain rfl := inj hF
        exact end_s st (Res.t gA Res.nil) rfl rfl
    · have hF := bif_f hb72 hF; refine w_skip ?_; refine th_n ?_; refine w_seq ?_; refine w_reg ?_; refine v_move ?_; refine r_nil ?_; refine th_n ?_; refine w_seq ?_; refine w_reg ?_; refine v_move ?_; refine r_nil ?_; refine th_n ?_; refine w_seq ?_; refine w_seq ?_; refine w_reg ?_; refine v_move ?_; refine r_nil ?_; refine th_n ?_; refine w_block ?_
      have st := st.nilL 1
      have w79 : LR rI 1 F61 ([] : List Int) [] := LR.nil
      obtain ⟨y147, hy, hF⟩ := bnd_some hF; refine v_loopD (sf6_L1 N a0 a1) (fun x81 T ds82 h nx => ∃ (F82 : PH) (o83 : Option Nat) (c83 : Nat) (cs83 : List HV), ds82 = [] ∧ PH.le F61 F82 ∧ St n0 h0 F0 F82 h nx [.ls o83 c83 cs83 1] ∧ LR rI 1 F82 x81.1 cs83 ∧ T.get 0 = some (.slice pa0 (a0).length ca0) ∧ T.get 1 = some (.slice pa1 (a1).length ca1) ∧ T.get 5 = some (.slice py41 (v35.1).length cy41) ∧ T.get 6 = some (i64 v35.2) ∧ T.get 7 = some (i64 v59.1) ∧ T.get 8 = some (.slice py68 (v59.2.1).length cy68) ∧ T.get 9 = some (i64 v59.2.2) ∧ T.get 11 = some (slv o83 (x81.1).length c83) ∧ T.get 12 = some (i64 x81.2.1) ∧ T.get 13 = some (i64 x81.2.2)) (fun y e a σ => e = .exit 0 ∧ a.nt = 144 ∧ ∃ (F148 : PH) (o149 : Option Nat) (c149 : Nat) (cs149 : List HV), a.defers = [] ∧ PH.le F61 F148 ∧ St n0 h0 F0 F148 σ.h σ.nx [.ls o149 c149 cs149 1] ∧ LR rI 1 F148 y.1 cs149 ∧ a.tmps.get 0 = some (.slice pa0 (a0).length ca0) ∧ a.tmps.get 1 = some (.slice pa1 (a1).length ca1) ∧ a.tmps.get 5 = some (.slice py41 (v35.1).length cy41) ∧ a.tmps.get 6 = some (i64 v35.2) ∧ a.tmps.get 7 = some (i64 v59.1) ∧ a.tmps.get 8 = some (.slice py68 (v59.2.1).length cy68) ∧ a.tmps.get 9 = some (i64 v59.2.2) ∧ a.tmps.get 11 = some (slv o149 (y.1).length c149) ∧ a.tmps.get 12 = some (i64 y.2)) (fun x81 T ds82 h nx s hp hF => ?_) N _ y147 _ _ _ _ hy ⟨F61, none, 0, [], rfl, (PH.le.refl _), st, w79, gA, gA, gA, gA, gA, gA, gA, gA, gA, gA⟩ (fun e a σ hne hq => ?_)
      · obtain ⟨F82, o83, c83, cs83, rfl, le82, st, w83, t0, t1, t5, t6, t7, t8, t9, t11, t12, t13⟩ := hp
        have le84 := PH.le.trans le62 le82
        have le85 := PH.le.trans le63 le82
        have le86 := PH.le.trans le64 le82
        have le87 := PH.le.trans le65 le82
        have le88 := PH.le.trans le66 le82
        have le89 := PH.le.trans le67 le82
        have le90 := PH.le.trans le61 le82
        unfold sf6_L1 at hF; unfold L6w0; refine w_seq ?_; refine w_seq ?_; refine w_reg ?_; refine v_move ?_; refine v_move ?_; refine v_len ?_; refine v_lss ?_; refine r_nil ?_; refine th_n ?_; refine v_cond (fun hb150 => ?_) (fun hb150 => ?_)
        · have hF := bif_t hb150 hF; refine w_skip ?_; refine th_n ?_; refine w_seq ?_; refine w_block ?_; refine w_seq ?_; refine w_reg ?_; refine v_move ?_; refine v_move ?_; obtain ⟨n151, x151, z151, l151, g151, hF⟩ := ix_some hF; obtain ⟨b151, o151, s151, j151, r151, e151, f151, k151, ⟨_, _, rfl, rfl, rfl⟩⟩ := RowF.get ra0 g151; refine v_ixp e151 z151 l151 ?_; refine v_ldn (st.sub _ _ (le84 _ _ f151)) k151 ?_; refine v_move ?_; obtain ⟨v152, e153, hF⟩ := bnd_some hF; refine v_callR st (ct41 N e153 st.d st.sub (Nat.le_trans hfl st.ext.le) (RowF.mono le84 ra1)) (fun u154 F154 h154 n154 le154 rv154 st => ?_)
          have le155 := PH.le.trans le84 le154
          have le156 := PH.le.trans le85 le154
          have le157 := PH.le.trans le86 le154
          have le158 := PH.le.trans le87 le154
          have le159 := PH.le.trans le88 le154
          have le160 := PH.le.trans le89 le154
          have le161 := PH.le.trans le90 le154
          have le162 := PH.le.trans le82 le154
          obtain ⟨py163, cy163, rfl, ry163⟩ := rv154; refine v_move ?_; refine r_nil ?_; refine th_n ?_; obtain ⟨y169, hA170, hF⟩ := bnd_some hF; refine w_cutD (fun T ds172 h nx => ∃ (F172 : PH) (o173 : Option Nat) (c173 : Nat) (cs173 : List HV), ds172 = [] ∧ PH.le F154 F172 ∧ St n0 h0 F0 F172 h nx [.ls o173 c173 cs173 1] ∧ LR rI 1 F172 y169 cs173 ∧ T.get 0 = some (.slice pa0 (a0).length ca0) ∧ T.get 1 = some (.slice pa1 (a1).length ca1) ∧ T.get 5 = some (.slice py41 (v35.1).length cy41) ∧ T.get 6 = some (i64 v35.2) ∧ T.get 7 = some (i64 v59.1) ∧ T.get 8 = some (.slice py68 (v59.2.1).length cy68) ∧ T.get 9 = some (i64 v59.2.2) ∧ T.get 11 = some (slv o173 (y169).length c173) ∧ T.get 12 = some (i64 x81.2.1) ∧ T.get 13 = some (i64 x81.2.2) ∧ T.get 14 = some (.slice py163 (v152).length cy163)) ?_ (fun T ds172 h nx hp => ?_)
          · have hK171 := hF
            have hF := hA170; refine w_seq ?_; refine w_reg ?_; refine v_move ?_; refine v_len ?_; refine v_eqi ?_; refine r_nil ?_; refine th_n ?_; refine v_cond (fun hb174 => ?_) (fun hb174 => ?_)
            · have hF := bif_t hb174 hF; refine w_reg ?_; refine v_move ?_; refine v_move ?_; refine v_bs (cs := [(i64 x81.2.2)]) st rfl (fun b175 h176 n177 st => ?_); obtain ⟨q178, hF⟩ := ck_some hF
              have w178 : LR rI 1 F154 (x81.1 ++ [x81.2.2]) (cs83 ++ [(i64 x81.2.2)]) := LR.app (LR.mono le154 w83) (LR.one (rfl))
              refine v_aps (n := 1) (ox := 0) (m := (x81.1 ++ [x81.2.2]).length) (row := [(i64 x81.2.2)]) st 0 rfl (LR.mono le154 w83).1 (st.at (i := 1) rfl).2.2 rfl rfl q178 hfl (by decide) (by decide) (by simp) (fun o178 c178 h178 n178 st => ?_)
              refine v_move ?_; refine r_nil ?_; obtain rfl := inj hF; refine thn ⟨rfl, ?_⟩; dsimp only
              exact ⟨F154, o178, c178, (cs83 ++ [(i64 x81.2.2)]), rfl, (PH.le.refl _), (st.drop (by first | exact List.Sublist.refl _ | (repeat first | exact List.nil_sublist _ | refine List.Sublist.cons_cons _ ?_ | refine List.Sublist.cons _ ?_))), w178, gA, gA, gA, gA, gA, gA, gA, gA, gA, gA, gA⟩
            · have hF := bif_f hb174 hF; refine w_skip ?_; obtain rfl := inj hF; refine thn ⟨rfl, ?_⟩; dsimp only
              exact ⟨F154, o83, c83, cs83, rfl, (PH.le.refl _), st, (LR.mono le154 w83), gA, gA, gA, gA, gA, gA, gA, gA, gA, gA, gA⟩
          · obtain ⟨F172, o173, c173, cs173, rfl, le172, st, w173, t0, t1, t5, t6, t7, t8, t9, t11, t12, t13, t14⟩ := hp
            have le179 := PH.le.trans le155 le172
            have le180 := PH.le.trans le156 le172
            have le181 := PH.le.trans le157 le172
            have le182 := PH.le.trans le158 le172
            have le183 := PH.le.trans le159 le172
            have le184 := PH.le.trans le160 le172
            have le185 := PH.le.trans le161 le172
            have le186 := PH.le.trans le162 le172
            have le187 := PH.le.trans le154 le172
            refine w_seq ?_; refine w_reg ?_; refine v_move ?_; refine v_len ?_; refine v_move ?_; refine v_move ?_; obtain ⟨n188, x188, z188, l188, g188, hF⟩ := ix_some hF; obtain ⟨b188, o188, s188, j188, r188, e188, f188, k188, ⟨_, _, rfl, rfl, rfl⟩⟩ := RowF.get ra0 g188; refine v_ixp e188 z188 l188 ?_; refine v_ldn (st.sub _ _ (le179 _ _ f188)) k188 ?_; refine v_move ?_; obtain ⟨v189, e190, hF⟩ := bnd_some hF; refine v_callR st (ct41 N e190 st.d st.sub (Nat.le_trans hfl st.ext.le) (RowF.mono le179 ra1)) (fun u191 F191 h191 n191 le191 rv191 st => ?_)
            have le192 := PH.le.trans le179 le191
            have le193 := PH.le.trans le180 le191
            have le194 := PH.le.trans le181 le191
            have le195 := PH.le.trans le182 le191
            have le196 := PH.le.trans le183 le191
            have le197 := PH.le.trans le184 le191
            have le198 := PH.le.trans le185 le191
            have le199 := PH.le.trans le186 le191
            have le200 := PH.le.trans le187 le191
            have le201 := PH.le.trans le172 le191
            obtain ⟨py202, cy202, rfl, ry202⟩ := rv191; refine v_len ?_; refine v_lss ?_; refine r_nil ?_; refine th_n ?_; refine v_cond (fun hb203 => ?_) (fun hb203 => ?_)
            · have hF := bif_t hb203 hF; refine w_reg ?_; refine v_move ?_; refine v_move ?_; refine r_nil ?_; refine ib_n ?_; refine th_n ?_; refine w_reg ?_; refine v_move ?_; obtain ⟨q204, hF⟩ := ck_some hF; refine v_add q204 ?_; refine v_move ?_; refine r_nil ?_; refine thn ⟨_, (inj hF).symm, rfl, ?_⟩; dsimp only
              exact ⟨F191, o173, c173, cs173, rfl, le199, st, (LR.mono le191 w173), gA, gA, gA, gA, gA, gA, gA, gA, gA, gA⟩
            · have hF := bif_f hb203 hF; refine w_skip ?_; refine ib_n ?_; refine th_n ?_; refine w_reg ?_; refine v_move ?_; obtain ⟨q205, hF⟩ := ck_some hF; refine v_add q205 ?_; refine v_move ?_; refine r_nil ?_; refine thn ⟨_, (inj hF).symm, rfl, ?_⟩; dsimp only
              exact ⟨F191, o173, c173, cs173, rfl, le199, st, (LR.mono le191 w173), gA, gA, gA, gA, gA, gA, gA, gA, gA, gA⟩
        · have hF := bif_f hb150 hF; refine w_exit ?_; refine th_e ?_; refine th_e ?_; refine ⟨_, (inj hF).symm, rfl, rfl, ?_⟩; dsimp only
          exact ⟨F82, o83, c83, cs83, rfl, le82, st, w83, gA, gA, gA, gA, gA, gA, gA, gA, gA⟩
      · obtain ⟨N9, T, ds148⟩ := a; obtain ⟨h213, n214⟩ := σ; obtain ⟨rfl, e1, F148, o149, c149, cs149, e2, le148, st, w149, t0, t1, t5, t6, t7, t8, t9, t11, t12⟩ := hq
        dsimp only at e1 e2
        subst e1
        subst e2
        dsimp only at st t0 t1 t5 t6 t7 t8 t9 t11 t12
        have le206 := PH.le.trans le62 le148
        have le207 := PH.le.trans le63 le148
        have le208 := PH.le.trans le64 le148
        have le209 := PH.le.trans le65 le148
        have le210 := PH.le.trans le66 le148
        have le211 := PH.le.trans le67 le148
        have le212 := PH.le.trans le61 le148
        refine ib_e ?_; refine th_n ?_; obtain ⟨y236, hA237, hF⟩ := bnd_some hF; refine w_cutD (fun T ds242 h nx => ∃ u, y236 = (.inr u) ∧ ∃ (F242 : PH), ds242 = [] ∧ PH.le F148 F242 ∧ St n0 h0 F0 F242 h nx [.ls o149 c149 cs149 1] ∧ T.get 0 = some (.slice pa0 (a0).length ca0) ∧ T.get 1 = some (.slice pa1 (a1).length ca1) ∧ T.get 7 = some (i64 v59.1) ∧ T.get 8 = some (.slice py68 (v59.2.1).length cy68) ∧ T.get 9 = some (i64 v59.2.2) ∧ T.get 12 = some (i64 y147.2)) ?_ (fun T ds242 h nx hp => ?_)
        · have hK238 := hF
          have hF := hA237; obtain ⟨y247, hA248, hF⟩ := bnd_some hF; refine w_cutD (fun T ds250 h nx => ∃ (F250 : PH), ds250 = [] ∧ PH.le F148 F250 ∧ St n0 h0 F0 F250 h nx [.ls o149 c149 cs149 1] ∧ T.get 0 = some (.slice pa0 (a0).length ca0) ∧ T.get 1 = some (.slice pa1 (a1).length ca1) ∧ T.get 7 = some (i64 v59.1) ∧ T.get 8 = some (.slice py68 (v59.2.1).length cy68) ∧ T.get 9 = some (i64 v59.2.2) ∧ T.get 12 = some (i64 y147.2) ∧ T.get 106 = some (.bool y247)) ?_ (fun T ds250 h nx hp => ?_)
          · have hK249 := hF
            have hF := hA248; refine w_reg ?_; refine v_move ?_; refine v_nei ?_; refine v_move ?_
            rcases Bool.eq_false_or_eq_true (!(decide (v35.2 = (0 : Int)))) with hb251 | hb251
            · have hF := bif_t hb251 hF; refine g_skip hb251 ?_; refine g_skip hb251 ?_; refine g_skip hb251 ?_; refine g_skip hb251 ?_; refine v_pick hb251 ?_; refine r_nil ?_; obtain rfl := inj hF; refine thn ⟨rfl, ?_⟩; dsimp only
              exact ⟨F148, rfl, (PH.le.refl _), st, gA, gA, gA, gA, gA, gA, gA⟩
            · have hF := bif_f hb251 hF; refine g_take hb251 (v_move ?_); refine g_take hb251 (v_move ?_); obtain ⟨v252, e253, hF⟩ := bnd_some hF
              refine g_take hb251 (v_call st (ct42 N e253 st.d (all_sub _) (RowF.mono st.all_le (RowF.mono le210 ry41)) (st.row_all (i := 0) rfl w149 (by decide))) (fun n254 st => ?_))
              refine g_take hb251 (v_not ?_); refine v_pick' hb251 ?_; refine r_nil ?_; obtain rfl := inj hF; refine thn ⟨rfl, ?_⟩; dsimp only
              exact ⟨F148, rfl, (PH.le.refl _), st, gA, gA, gA, gA, gA, gA, gA⟩
          · obtain ⟨F250, rfl, le250, st, t0, t1, t7, t8, t9, t12, t106⟩ := hp
            have le255 := PH.le.trans le206 le250
            have le256 := PH.le.trans le207 le250
            have le257 := PH.le.trans le208 le250
            have le258 := PH.le.trans le209 le250
            have le259 := PH.le.trans le210 le250
            have le260 := PH.le.trans le211 le250
            have le261 := PH.le.trans le212 le250
            have le262 := PH.le.trans le148 le250
            refine v_cond (fun hb263 => ?_) (fun hb263 => ?_)
            · have hF := bif_t hb263 hF; refine w_seq ?_; refine w_reg ?_; refine v_move ?_; refine r_nil ?_; refine th_n ?_; refine w_ret ?_; obtain rfl := inj hF; have hF := hK238; have hF := sel_l hF; refine th_r ?_; obtain rfl := inj hF
              exact end_s st (Res.t gA Res.nil) rfl rfl
            · have hF := bif_f hb263 hF; refine w_skip ?_; obtain rfl := inj hF; refine thn ⟨rfl, _, rfl, ?_⟩; dsimp only
              exact ⟨F250, rfl, le250, st, gA, gA, gA, gA, gA, gA⟩
        · obtain ⟨w241, rfl, F242, rfl, le242, st, t0, t1, t7, t8, t9, t12⟩ := hp; have hF := sel_r hF
          have le272 := PH.le.trans le206 le242
          have le273 := PH.le.trans le207 le242
          have le274 := PH.le.trans le208 le242
          have le275 := PH.le.trans le209 le242
          have le276 := PH.le.trans le210 le242
          have le277 := PH.le.trans le211 le242
          have le278 := PH.le.trans le212 le242
          have le279 := PH.le.trans le148 le242
          refine w_seq ?_; refine w_seq ?_; refine w_reg ?_; refine v_move ?_; refine v_len ?_; refine v_eqi ?_; refine r_nil ?_; refine th_n ?_; refine v_cond (fun hb280 => ?_) (fun hb280 => ?_)
          · have hF := bif_t hb280 hF; refine w_seq ?_; refine w_reg ?_; refine v_move ?_; refine v_eqi ?_; refine v_move ?_
            rcases Bool.eq_false_or_eq_true (decide (v59.2.2 = (7 : Int))) with hb281 | hb281
            · have hF := bif_t hb281 hF; refine g_take hb281 (v_move ?_); refine g_take hb281 (v_len ?_); refine g_take hb281 (v_eqi ?_); refine v_pick hb281 ?_; refine v_move ?_
              rcases Bool.eq_false_or_eq_true (decide (((v59.2.1).length : Int) = (0 : Int))) with hb282 | hb282
              · have hF := bif_t hb282 hF; refine g_take hb282 (v_move ?_); refine g_take hb282 (v_eqi ?_); refine v_pick hb282 ?_; refine v_move ?_
                rcases Bool.eq_false_or_eq_true (decide (v59.1 = (0 : Int))) with hb283 | hb283
                · have hF := bif_t hb283 hF; refine g_take hb283 (v_call st (ct_wakes (h := _) (nx := _)) (fun n284 st => ?_)); refine v_pick hb283 ?_; refine v_move ?_; refine r_nil ?_; refine th_n ?_; refine w_ret ?_; refine th_r ?_; obtain rfl := inj hF
                  exact end_s st (Res.t gA Res.nil) rfl rfl
                · have hF := bif_f hb283 hF; refine g_skip hb283 ?_; refine v_pick' hb283 ?_; refine v_move ?_; refine r_nil ?_; refine th_n ?_; refine w_ret ?_; refine th_r ?_; obtain rfl := inj hF
                  exact end_s st (Res.t gA Res.nil) rfl rfl
              · have hF := bif_f hb282 hF; refine g_skip hb282 ?_; refine g_skip hb282 ?_; refine v_pick' hb282 ?_; refine v_move ?_; refine g_skip rfl ?_; refine v_pick' rfl ?_; refine v_move ?_; refine r_nil ?_; refine th_n ?_; refine w_ret ?_; refine th_r ?_; obtain rfl := inj hF
                exact end_s st (Res.t gA Res.nil) rfl rfl
            · have hF := bif_f hb281 hF; refine g_skip hb281 ?_; refine g_skip hb281 ?_; refine g_skip hb281 ?_; refine v_pick' hb281 ?_; refine v_move ?_; refine g_skip rfl ?_; refine g_skip rfl ?_; refine v_pick' rfl ?_; refine v_move ?_; refine g_skip rfl ?_; refine v_pick' rfl ?_; refine v_move ?_; refine r_nil ?_; refine th_n ?_; refine w_ret ?_; refine th_r ?_; obtain rfl := inj hF
              exact end_s st (Res.t gA Res.nil) rfl rfl
          · have hF := bif_f hb280 hF; refine w_skip ?_; refine th_n ?_; refine w_seq ?_; refine w_reg ?_; refine v_move ?_; refine v_eqi ?_; refine v_move ?_
            rcases Bool.eq_false_or_eq_true (decide (v59.2.2 = (0 : Int))) with hb285 | hb285
            · have hF := bif_t hb285 hF; refine g_take hb285 (v_move ?_); refine g_take hb285 (v_move ?_); refine g_take hb285 (v_eqi ?_); refine v_pick hb285 ?_; refine v_move ?_
              rcases Bool.eq_false_or_eq_true (decide (v59.1 = y147.2)) with hb286 | hb286
              · have hF := bif_t hb286 hF; refine g_take hb286 (v_move ?_); refine g_take hb286 (v_move ?_); refine g_take hb286 (v_move ?_); obtain ⟨n287, x287, z287, l287, g287, hF⟩ := ix_some hF; obtain ⟨b287, o287, s287, j287, r287, e287, f287, k287, ⟨_, _, rfl, rfl, rfl⟩⟩ := RowF.get ra0 g287; refine g_take hb286 (v_ixp e287 z287 l287 ?_); refine g_take hb286 (v_ldn (st.sub _ _ (le272 _ _ f287)) k287 ?_); refine g_take hb286 (v_move ?_); obtain ⟨v288, e289, hF⟩ := bnd_some hF; refine g_take hb286 (v_callR st (ct41 N e289 st.d st.sub (Nat.le_trans hfl st.ext.le) (RowF.mono le272 ra1)) (fun u290 F290 h290 n290 le290 rv290 st => ?_))
                have le291 := PH.le.trans le272 le290
                have le292 := PH.le.trans le273 le290
                have le293 := PH.le.trans le274 le290
                have le294 := PH.le.trans le275 le290
                have le295 := PH.le.trans le276 le290
                have le296 := PH.le.trans le277 le290
                have le297 := PH.le.trans le278 le290
                have le298 := PH.le.trans le279 le290
                have le299 := PH.le.trans le242 le290
                obtain ⟨py300, cy300, rfl, ry300⟩ := rv290; obtain ⟨v301, e302, hF⟩ := bnd_some hF; refine g_take hb286 (v_call st (ct42 N e302 st.d st.sub (RowF.mono le298 ry68) ry300) (fun n303 st => ?_)); refine v_pick hb286 ?_; refine v_move ?_
                rcases Bool.eq_false_or_eq_true v301 with hb304 | hb304
                · have hF := bif_t hb304 hF; refine g_take hb304 (v_call st (ct_wakes (h := _) (nx := _)) (fun n305 st => ?_)); refine v_pick hb304 ?_; refine v_move ?_; refine r_nil ?_; refine th_n ?_; refine w_ret ?_; obtain rfl := inj hF
                  exact end_s st (Res.t gA Res.nil) rfl rfl
                · have hF := bif_f hb304 hF; refine g_skip hb304 ?_; refine v_pick' hb304 ?_; refine v_move ?_; refine r_nil ?_; refine th_n ?_; refine w_ret ?_; obtain rfl := inj hF
                  exact end_s st (Res.t gA Res.nil) rfl rfl
              · have hF := bif_f hb286 hF; refine g_skip hb286 ?_; refine g_skip hb286 ?_; refine g_skip hb286 ?_; refine g_skip hb286 ?_; refine g_skip hb286 ?_; refine g_skip hb286 ?_; refine g_skip hb286 ?_; refine g_skip hb286 ?_; refine v_pick' hb286 ?_; refine v_move ?_; refine g_skip rfl ?_; refine v_pick' rfl ?_; refine v_move ?_; refine r_nil ?_; refine th_n ?_; refine w_ret ?_; obtain rfl := inj hF
                exact end_s st (Res.t gA Res.nil) rfl rfl
            · have hF := bif_f hb285 hF; refine g_skip hb285 ?_; refine g_skip hb285 ?_; refine g_skip hb285 ?_; refine v_pick' hb285 ?_; refine v_move ?_; refine g_skip rfl ?_; refine g_skip rfl ?_; refine g_skip rfl ?_; refine g_skip rfl ?_; refine g_skip rfl ?_; refine g_skip rfl ?_; refine g_skip rfl ?_; refine g_skip rfl ?_; refine v_pick' rfl ?_; refine v_move ?_; refine g_skip rfl ?_; refine v_pick' rfl ?_; refine v_move ?_; refine r_nil ?_; refine th_n ?_; refine w_ret ?_; obtain rfl := inj hF
              exact end_s st (Res.t gA Res.nil) rfl rfl
end Go.Hx.V


/- Loops of functions on lists and numbers: what they come to. -/
namespace Go.Hx.V
open Go.Hx
theorem iter_ind {α β : Type} {step : α → Option (α ⊕ β)} (P : α → Prop) (m : α → Nat) (Y : β → Prop)
    (h : ∀ x, P x → (∃ x', step x = some (.inl x') ∧ P x' ∧ m x' < m x) ∨ ∃ y, step x = some (.inr y) ∧ Y y) : ∀ (N : Nat) (x : α), P x → m x < N → ∃ y, iter step N x = some y ∧ Y y
  | 0, x, hp, hm => by omega
  | N + 1, x, hp, hm => by
    unfold iter
    rcases h x hp with ⟨x', e, hp', hm'⟩ | ⟨y, e, hy⟩
    · rw [e]; exact iter_ind P m Y h N x' hp' (by omega)
    · rw [e]; exact ⟨y, rfl, hy⟩
theorem iter_run {α β : Type} {step : α → Option (α ⊕ β)} (s : Nat → α) (y : β) : ∀ (n i N : Nat), (∀ j, i ≤ j → j < i + n → step (s j) = some (.inl (s (j + 1)))) → step (s (i + n)) = some (.inr y) → n < N → iter step N (s i) = some y
  | 0, i, N, hs, he, hN => by
    obtain ⟨N, rfl⟩ : ∃ k, N = k + 1 := ⟨N - 1, by omega⟩
    unfold iter; rw [Nat.add_zero] at he; rw [he]; rfl
  | n + 1, i, N, hs, he, hN => by
    obtain ⟨N, rfl⟩ : ∃ k, N = k + 1 := ⟨N - 1, by omega⟩
    unfold iter
    rw [hs i (by omega) (by omega)]
    exact iter_run s y n (i + 1) N (fun j h1 h2 => hs j (by omega) (by omega)) (by rw [show i + 1 + n = i + (n + 1) by omega]; exact he) (by omega)
/-- A loop from 0 on. -/
theorem iter_up {α β : Type} {step : α → Option (α ⊕ β)} {x : α} {N : Nat} (s : Nat → α) (n : Nat) (y : β) (hx : x = s 0) (hs : ∀ j, j < n → step (s j) = some (.inl (s (j + 1)))) (he : step (s n) = some (.inr y)) (hN : n < N) : iter step N x = some y := by
  subst hx
  exact iter_run s y n 0 N (fun j _ h2 => hs j (by omega)) (by rw [Nat.zero_add]; exact he) hN
/-- A loop that ends early, or not. -/
theorem iter_all {α β : Type} {step : α → Option (α ⊕ β)} {x : α} {N : Nat} (s : Nat → α) (n : Nat) (p : Nat → Prop) [DecidablePred p] (good bad : β) (hx : x = s 0) (hs : ∀ j, j < n → p j → step (s j) = some (.inl (s (j + 1)))) (hf : ∀ j, j < n → ¬ p j → step (s j) = some (.inr bad)) (he : step (s n) = some (.inr good)) (hN : n < N) :
    ((∀ j, j < n → p j) ∧ iter step N x = some good) ∨ (¬ (∀ j, j < n → p j) ∧ iter step N x = some bad) := by
  by_cases h : ∀ j, j < n → p j
  · exact .inl ⟨h, iter_up s n good hx (fun j hj => hs j hj (h j hj)) he hN⟩
  · refine .inr ⟨h, ?_⟩
    have h1 : ∃ j, j < n ∧ ¬ p j := by
      refine Classical.byContradiction fun hc => h fun j hj => Classical.byContradiction fun hp => hc ⟨j, hj, hp⟩
    -- the first one
    obtain ⟨j, hj, hp, hmin⟩ : ∃ j, j < n ∧ ¬ p j ∧ ∀ i, i < j → p i := by
      obtain ⟨j, hj⟩ := h1
      induction j using Nat.strongRecOn with
      | ind j ih =>
        by_cases g : ∀ i, i < j → p i
        · exact ⟨j, hj.1, hj.2, g⟩
        · have : ∃ i, i < j ∧ ¬ p i := Classical.byContradiction fun hc => g fun i hi => Classical.byContradiction fun hp => hc ⟨i, hi, hp⟩
          obtain ⟨i, hi, hpi⟩ := this
          exact ih i hi ⟨by omega, hpi⟩
    exact iter_up s j bad hx (fun i hi => hs i (by omega) (hmin i hi)) (hf j hj hp) (by omega)
theorem ix_at {α β : Type} {l : List α} {j : Int} {n : Nat} {x : α} {k : α → Option β} (hj : j = n) (h : l[n]? = some x) : ix l j k = k x := by
  subst hj; exact ix_pos h
theorem lt_some {α : Type} {l : List α} {n : Nat} (h : n < l.length) : l[n]? = some l[n] := List.getElem?_eq_getElem h
theorem some_lt {α : Type} {l : List α} {n : Nat} {x : α} (h : l[n]? = some x) : n < l.length := by
  rcases Nat.lt_or_ge n l.length with g | g
  · exact g
  · rw [List.getElem?_eq_none g] at h; cases h
theorem take_succ' {α : Type} {l : List α} {n : Nat} {x : α} (h : l[n]? = some x) : l.take (n + 1) = l.take n ++ [x] := by
  rw [List.take_add_one, h]; rfl
end Go.Hx.V

/- Layer 3: entries of diaries that a scale explains, by both reckonings. -/
namespace Go.Hx.V
open Go.Hx
set_option linter.unusedVariables false
set_option linter.unusedSimpArgs false
set_option maxRecDepth 20000
theorem sel_inl {α β γ : Type} {f : α → Option γ} {g : β → Option γ} {x : α} : sel f g (.inl x) = f x := rfl
theorem sel_inr {α β γ : Type} {f : α → Option γ} {g : β → Option γ} {x : β} : sel f g (.inr x) = g x := rfl
abbrev Sc := List (Int × Int)
abbrev Di := List (Int × Int × Int)
abbrev SC (a b : Int) : Prop := (-1000 ≤ a ∧ a ≤ 1000) ∧ (-1000 ≤ b ∧ b ≤ 1000) ∧ a ≠ b
abbrev EN (r lo hi : Int) : Prop := (-1000000 ≤ r ∧ r ≤ 1000000) ∧ lo ≤ hi ∧ -100000 ≤ lo ∧ hi ≤ 100000
theorem k55 {N : Nat} {a b c : Int} : sf55 N a b c = some (decide (b ≤ a ∧ a ≤ c)) := by
  unfold sf55
  by_cases h : b ≤ a <;> simp [h]
theorem k73 {N : Nat} {a b c : Int} : sf73 N a b c = some (decide (a ≤ c ∧ c ≤ b)) := by
  unfold sf73
  by_cases h : a ≤ c <;> simp [h]
theorem k72 {N : Nat} {a : Int} (h : -1000000000 ≤ a ∧ a ≤ 1000000000) : sf72 N a = some (-a, a) := by
  unfold sf72; rw [ck_pos (by unfold rng; omega)]
theorem k20 {N : Nat} {a b : Int} : sf20 N a b = some (decide (SC a b)) := by
  unfold sf20
  rw [k55, bnd_ret]
  by_cases c1 : -1000 ≤ a ∧ a ≤ 1000
  · rw [decide_eq_true c1, cond_true, k55, bnd_ret]
    by_cases c2 : -1000 ≤ b ∧ b ≤ 1000
    · rw [decide_eq_true c2, cond_true]
      by_cases c3 : a = b
      · rw [decide_eq_true c3, decide_eq_false (fun h => h.2.2 c3)]; rfl
      · rw [decide_eq_false c3, decide_eq_true ⟨c1, c2, c3⟩]; rfl
    · rw [decide_eq_false c2, cond_false, decide_eq_false (fun h => c2 h.2.1)]
  · rw [decide_eq_false c1, cond_false, decide_eq_false (fun h => c1 h.1)]
theorem k52 {N : Nat} {a b : Int} : sf52 N a b = some (decide (SC a b)) := by
  unfold sf52
  rw [k72 (by omega), bnd_ret]
  dsimp only
  rw [k73, bnd_ret]
  by_cases c1 : -1000 ≤ a ∧ a ≤ 1000
  · rw [decide_eq_true c1, cond_true, k73, bnd_ret]
    by_cases c2 : -1000 ≤ b ∧ b ≤ 1000
    · rw [decide_eq_true c2, cond_true]
      by_cases c3 : a = b
      · rw [decide_eq_true c3, decide_eq_false (fun h => h.2.2 c3)]; rfl
      · rw [decide_eq_false c3, decide_eq_true ⟨c1, c2, c3⟩]; rfl
    · rw [decide_eq_false c2, cond_false, decide_eq_false (fun h => c2 h.2.1)]
  · rw [decide_eq_false c1, cond_false, decide_eq_false (fun h => c1 h.1)]
theorem k34 {N : Nat} {a b c d : Int} : sf34 N a b c d = some (decide ((c ≤ a ∧ a ≤ b) ∧ b ≤ d)) := by
  unfold sf34
  rw [k55, bnd_ret]
  by_cases c1 : c ≤ a ∧ a ≤ b
  · rw [decide_eq_true c1, cond_true]
    by_cases c2 : b ≤ d <;> simp [c1, c2]
  · rw [decide_eq_false c1, cond_false, decide_eq_false (fun h => c1 h.1)]
theorem k70 {N : Nat} {r lo hi : Int} : sf70 N r lo hi = some (decide (EN r lo hi)) := by
  unfold sf70
  rw [k55, bnd_ret]
  by_cases c1 : -1000000 ≤ r ∧ r ≤ 1000000
  · rw [decide_eq_true c1, cond_true, k34, bnd_ret]
    congr 1
    rw [decide_eq_decide]
    omega
  · rw [decide_eq_false c1, cond_false, decide_eq_false (fun h => c1 h.1)]
theorem k94 {N : Nat} {r lo hi : Int} : sf94 N (-1000000) 1000000 (-100000) 100000 r lo hi = some (decide (EN r lo hi)) := by
  unfold sf94 sf64
  rw [k73, bnd_ret]
  by_cases c1 : -1000000 ≤ r ∧ r ≤ 1000000
  · rw [decide_eq_true c1, cond_true]
    by_cases c2 : lo ≤ hi
    · rw [decide_eq_true c2, cond_true, k73, bnd_ret]
      by_cases c3 : -100000 ≤ lo ∧ lo ≤ 100000
      · rw [decide_eq_true c3, cond_true, k73, bnd_ret, bnd_ret]
        congr 1
        rw [decide_eq_decide]
        omega
      · rw [decide_eq_false c3, cond_false, bnd_ret, decide_eq_false (show ¬ _ by omega)]
    · rw [decide_eq_false c2, cond_false, bnd_ret, decide_eq_false (fun h => c2 h.2.1)]
  · rw [decide_eq_false c1, cond_false, decide_eq_false (fun h => c1 h.1)]
theorem k93 {N : Nat} : sf93 N = some (-1000000, 1000000, -100000, 100000) := by
  unfold sf93 sf75
  rw [k72 (by omega), bnd_ret, bnd_ret, k72 (by omega), bnd_ret]
/-! a quotient that is rounded -/
theorem k91 {N : Nat} {x s : Int} (hx : -10000000000000 ≤ x ∧ x ≤ 10000000000000) (hs : 0 < s) : ∃ d, sf91 N x s = some d ∧ d * s ≤ x ∧ x < d * s + s ∧ -10000000000001 ≤ d ∧ d ≤ 10000000000000 := by
  unfold sf91
  have hne : s ≠ 0 := by omega
  rcases Int.le_total 0 x with h | h
  · have e1 : x.tdiv s = x / s := Int.tdiv_eq_ediv_of_nonneg h
    have e2 : x.tmod s = x % s := Int.tmod_eq_emod_of_nonneg h
    have b1 := Int.ediv_nonneg h (show 0 ≤ s by omega)
    have b2 : x / s ≤ x := Int.ediv_le_self _ h
    have b3 := Int.emod_nonneg x hne
    have b4 := Int.emod_lt_of_pos x hs
    have b5 := Int.mul_ediv_add_emod x s
    have q : rng (x / s) := by unfold rng; omega
    rw [e1, e2, ck_pos ⟨hne, q⟩, ck_pos hne, decide_eq_false (by omega), cond_false]
    rw [Int.mul_comm] at b5
    exact ⟨_, rfl, by omega, by omega, by omega, by omega⟩
  · obtain ⟨y, rfl⟩ : ∃ y, x = -y := ⟨-x, by omega⟩
    have h' : 0 ≤ y := by omega
    have e1 : (-y).tdiv s = -(y / s) := by rw [Int.neg_tdiv, Int.tdiv_eq_ediv_of_nonneg h']
    have e2 : (-y).tmod s = -(y % s) := by rw [Int.neg_tmod, Int.tmod_eq_emod_of_nonneg h']
    have b1 := Int.ediv_nonneg h' (show 0 ≤ s by omega)
    have b2 : y / s ≤ y := Int.ediv_le_self _ h'
    have b3 := Int.emod_nonneg y hne
    have b4 := Int.emod_lt_of_pos y hs
    have b5 := Int.mul_ediv_add_emod y s
    have q : rng (-(y / s)) := by unfold rng; omega
    have q2 : rng (-(y / s) - 1) := by unfold rng; omega
    rw [Int.mul_comm] at b5
    rw [e1, e2, ck_pos ⟨hne, q⟩, ck_pos hne]
    by_cases c : -(y % s) < 0
    · rw [decide_eq_true c, cond_true, ck_pos q2]
      refine ⟨_, rfl, ?_, ?_, by omega, by omega⟩
      · rw [Int.sub_mul, Int.neg_mul, Int.one_mul]; omega
      · rw [Int.sub_mul, Int.neg_mul, Int.one_mul]; omega
    · rw [decide_eq_false c, cond_false]
      refine ⟨_, rfl, ?_, ?_, by omega, by omega⟩
      · rw [Int.neg_mul]; omega
      · rw [Int.neg_mul]; omega
theorem k99 {N : Nat} {x s : Int} (hx : -10000000000000 ≤ x ∧ x ≤ 10000000000000) (hs : 0 < s) : ∃ u, sf99 N x s = some u ∧ x ≤ u * s ∧ u * s < x + s := by
  obtain ⟨d, e, h1, h2, h3, h4⟩ := k91 (N := N) (x := -x) (s := s) (by omega) hs
  unfold sf99
  rw [ck_pos (by unfold rng; omega), e, bnd_ret, ck_pos (by unfold rng; omega)]
  refine ⟨_, rfl, ?_, ?_⟩
  · rw [Int.neg_mul]; omega
  · rw [Int.neg_mul]; omega
/-- Does a scale explain an entry? -/
def gg (a b r : Int) : Int := if a < b then r - a else a - r
def zz (a b : Int) : Int := if a < b then 2 * (b - a) else 2 * (a - b)
def exb (a b r lo hi : Int) : Bool := decide (1000 * (2 * gg a b r - 1) ≤ hi * zz a b) && decide (lo * zz a b ≤ 1000 * (2 * gg a b r + 1))
theorem mul_bd {x z : Int} (hx : -100000 ≤ x ∧ x ≤ 100000) (hz : 0 ≤ z ∧ z ≤ 4000) : -400000000 ≤ x * z ∧ x * z ≤ 400000000 := by
  have h1 := Int.mul_le_mul_of_nonneg_right hx.1 hz.1
  have h2 := Int.mul_le_mul_of_nonneg_right hx.2 hz.1
  omega
theorem k71 {N : Nat} {a b r lo hi : Int} (hs : SC a b) (he : EN r lo hi) : sf71 N a b r lo hi = some (exb a b r lo hi) := by
  unfold SC at hs
  unfold EN at he
  have f58 : sf58 N a b = some (zz a b) := by
    unfold sf58 zz
    by_cases c : a < b
    · rw [decide_eq_true c, cond_true, if_pos c, ck_pos (by unfold rng; omega), ck_pos (by unfold rng; omega)]
    · rw [decide_eq_false c, cond_false, if_neg c, ck_pos (by unfold rng; omega), ck_pos (by unfold rng; omega)]
  have f56 : sf56 N a b r r = some (2 * gg a b r - 1, 2 * gg a b r + 1) := by
    unfold sf56 sf83 gg
    rw [ck_pos (by unfold rng; omega), ck_pos (by unfold rng; omega)]
    by_cases c : a < b
    · rw [decide_eq_true c, cond_true, if_pos c, ck_pos (by unfold rng; omega), ck_pos (by unfold rng; omega), bnd_ret, ck_pos (by unfold rng; omega), ck_pos (by unfold rng; omega), cond_true, ck_pos (by unfold rng; omega), ck_pos (by unfold rng; omega), bnd_ret]
      congr 2 <;> omega
    · rw [decide_eq_false c, cond_false, if_neg c, ck_pos (by unfold rng; omega), ck_pos (by unfold rng; omega), bnd_ret, ck_pos (by unfold rng; omega), ck_pos (by unfold rng; omega), cond_false, ck_pos (by unfold rng; omega), ck_pos (by unfold rng; omega), bnd_ret]
      congr 2 <;> omega
  have hg : -1001000 ≤ gg a b r ∧ gg a b r ≤ 1001000 := by unfold gg; split <;> omega
  have hz : 0 ≤ zz a b ∧ zz a b ≤ 4000 := by unfold zz; split <;> omega
  have p1 := mul_bd (x := hi) (z := zz a b) (by omega) hz
  have p2 := mul_bd (x := lo) (z := zz a b) (by omega) hz
  unfold sf71
  rw [f56, bnd_ret]
  dsimp only
  rw [ck_pos (by unfold rng; omega), f58, bnd_ret, ck_pos (by unfold rng; omega)]
  unfold exb
  by_cases c : 1000 * (2 * gg a b r - 1) ≤ hi * zz a b
  · rw [decide_eq_true c, cond_true, ck_pos (by unfold rng; omega), bnd_ret, ck_pos (by unfold rng; omega), Bool.true_and]
  · rw [decide_eq_false c, cond_false, Bool.false_and]
theorem k103 {N : Nat} {a b r lo hi : Int} (hs : SC a b) (he : EN r lo hi) : sf103 N a b r lo hi = some (exb a b r lo hi) := by
  unfold SC at hs
  unfold EN at he
  have hg : -1001000 ≤ gg a b r ∧ gg a b r ≤ 1001000 := by unfold gg; split <;> omega
  have hz : 0 < zz a b ∧ zz a b ≤ 4000 := by unfold zz; split <;> omega
  obtain ⟨u, e1, u1, u2⟩ := k99 (N := N) (x := 1000 * (2 * gg a b r - 1)) (s := zz a b) (by omega) hz.1
  obtain ⟨d, e2, d1, d2, _⟩ := k91 (N := N) (x := 1000 * (2 * gg a b r + 1)) (s := zz a b) (by omega) hz.1
  have body : sf103 N a b r lo hi = (bif (decide (u ≤ hi)) then some (decide (lo ≤ d)) else some false) := by
    unfold sf103 sf76
    by_cases c : a < b
    · have g1 : gg a b r = r - a := if_pos c
      have z1 : zz a b = 2 * (b - a) := if_pos c
      rw [g1, z1] at e1 e2
      rw [decide_eq_true c, cond_true, bnd_ret]
      unfold sf77 sf98
      dsimp only
      rw [cond_false, bnd_ret]
      dsimp only
      rw [ck_pos (by unfold rng; omega), ck_pos (by unfold rng; omega), ck_pos (by unfold rng; omega), ck_pos (by unfold rng; omega), ck_pos (by unfold rng; omega), ck_pos (by unfold rng; omega), bnd_ret]
      unfold sf101 sf82 sf100
      dsimp only
      rw [bnd_ret, ck_pos (by unfold rng; omega), ck_pos (by unfold rng; omega), bnd_ret, ck_pos (by unfold rng; omega), bnd_ret, ck_pos (by unfold rng; omega)]
      unfold sf81
      dsimp only
      rw [bnd_ret, ck_pos (by unfold rng; omega), bnd_ret, e1, bnd_ret, e2, bnd_ret, bnd_ret]
    · have g1 : gg a b r = a - r := if_neg c
      have z1 : zz a b = 2 * (a - b) := if_neg c
      rw [g1, z1] at e1 e2
      rw [decide_eq_false c, cond_false, ck_pos (by unfold rng; omega), ck_pos (by unfold rng; omega), bnd_ret]
      unfold sf77 sf98
      dsimp only
      rw [cond_true, ck_pos (by unfold rng; omega), ck_pos (by unfold rng; omega), bnd_ret]
      dsimp only
      rw [show -r - -a = a - r by omega, ck_pos (by unfold rng; omega), ck_pos (by unfold rng; omega), ck_pos (by unfold rng; omega), ck_pos (by unfold rng; omega), ck_pos (by unfold rng; omega), ck_pos (by unfold rng; omega), bnd_ret]
      unfold sf101 sf82 sf100
      dsimp only
      rw [show -b - -a = a - b by omega, bnd_ret, ck_pos (by unfold rng; omega), ck_pos (by unfold rng; omega), bnd_ret, ck_pos (by unfold rng; omega), bnd_ret, ck_pos (by unfold rng; omega)]
      unfold sf81
      dsimp only
      rw [bnd_ret, ck_pos (by unfold rng; omega), bnd_ret, e1, bnd_ret, e2, bnd_ret, bnd_ret]
  rw [body]
  have i1 : u ≤ hi ↔ 1000 * (2 * gg a b r - 1) ≤ hi * zz a b := by
    constructor
    · intro h
      have := Int.mul_le_mul_of_nonneg_right h (show 0 ≤ zz a b by omega)
      omega
    · intro h
      have : u * zz a b < (hi + 1) * zz a b := by rw [Int.add_mul, Int.one_mul]; omega
      have := Int.lt_of_mul_lt_mul_right this (by omega)
      omega
  have i2 : lo ≤ d ↔ lo * zz a b ≤ 1000 * (2 * gg a b r + 1) := by
    constructor
    · intro h
      have := Int.mul_le_mul_of_nonneg_right h (show 0 ≤ zz a b by omega)
      omega
    · intro h
      have : lo * zz a b < (d + 1) * zz a b := by rw [Int.add_mul, Int.one_mul]; omega
      have := Int.lt_of_mul_lt_mul_right this (by omega)
      omega
  unfold exb
  by_cases c : u ≤ hi
  · rw [decide_eq_true c, cond_true, decide_eq_true (i1.1 c), Bool.true_and, decide_eq_decide.2 i2]
  · rw [decide_eq_false c, cond_false, decide_eq_false (fun h => c (i1.2 h)), Bool.false_and]
end Go.Hx.V

/- Layer 3: diaries: which scales explain them, and which one does not explain the fewest entries; the law of P3.5 and P3.6. -/
namespace Go.Hx.V
open Go.Hx
set_option linter.unusedVariables false
set_option linter.unusedSimpArgs false
set_option maxRecDepth 20000
theorem iter_map2 {γ : Type} {step : List γ × Int → Option ((List γ × Int) ⊕ List γ)} {N : Nat} {l : List γ} (hs : ∀ (j : Nat) (x : γ), l[j]? = some x → step (l.take j, (j : Int)) = some (.inl (l.take j ++ [x], ((j + 1 : Nat) : Int)))) (he : step (l, (l.length : Int)) = some (.inr l)) (hN : l.length < N) :
    iter step N (([] : List γ), (0 : Int)) = some l := by
  refine iter_up (fun j => (l.take j, (j : Int))) l.length _ rfl (fun j hj => ?_) ?_ hN
  · obtain ⟨x, hx⟩ : ∃ x, l[j]? = some x := ⟨_, lt_some hj⟩
    rw [hs j x hx, take_succ' hx]
  · rw [List.take_length]; exact he
theorem k25 {N : Nat} {l : Sc} (hN : l.length < N) (hl : N < 1000000) : sf25 N l = some l := by
  unfold sf25
  rw [iter_map2 (l := l) (fun j x hx => ?_) ?_ hN, bnd_ret]
  · unfold sf25_L1
    dsimp only
    rw [decide_eq_false (show ¬ (l.length : Int) < (l.length : Int) by omega), cond_false]
  · have hj := some_lt hx
    have q3 : rng ((j : Int) + 1) := by unfold rng; omega
    have hlen : (l.take j).length = j := by rw [List.length_take]; omega
    unfold sf25_L1 sf17
    dsimp only
    rw [decide_eq_true (show (j : Int) < (l.length : Int) by omega), cond_true, ix_at rfl hx, bnd_ret, ck_pos (by rw [hlen]; omega), ck_pos q3]; rfl
theorem k38 {N : Nat} {l : Di} (hN : l.length < N) (hl : N < 1000000) : sf38 N l = some l := by
  unfold sf38
  rw [iter_map2 (l := l) (fun j x hx => ?_) ?_ hN, bnd_ret]
  · unfold sf38_L1
    dsimp only
    rw [decide_eq_false (show ¬ (l.length : Int) < (l.length : Int) by omega), cond_false]
  · have hj := some_lt hx
    have q3 : rng ((j : Int) + 1) := by unfold rng; omega
    have hlen : (l.take j).length = j := by rw [List.length_take]; omega
    unfold sf38_L1 sf19
    dsimp only
    rw [decide_eq_true (show (j : Int) < (l.length : Int) by omega), cond_true, ix_at rfl hx, ix_at rfl hx, bnd_ret, ck_pos (by rw [hlen]; omega), ck_pos q3]; rfl
def scj (l : Sc) (j : Nat) : Prop := ∀ s, l[j]? = some s → SC s.1 s.2
def enj (l : Di) (j : Nat) : Prop := ∀ e, l[j]? = some e → EN e.1 e.2.1 e.2.2
theorem k97 {N : Nat} {l : Sc} (hN : l.length < N) (hl : N < 1000000) : ((∀ j, j < l.length → scj l j) ∧ sf97 N l = some true) ∨ (¬ (∀ j, j < l.length → scj l j) ∧ sf97 N l = some false) := by
  haveI : DecidablePred (scj l) := fun _ => Classical.propDecidable _
  rcases iter_all (step := sf97_L1 N l) (x := (0 : Int)) (N := N) (fun j => (j : Int)) l.length (scj l) (.inr ()) (.inl ()) rfl (fun j hj hp => by
      obtain ⟨x, hx⟩ : ∃ x, l[j]? = some x := ⟨_, lt_some hj⟩
      have q3 : rng ((j : Int) + 1) := by unfold rng; omega
      unfold sf97_L1
      rw [decide_eq_true (show (j : Int) < (l.length : Int) by omega), cond_true, ix_at rfl hx, k52, bnd_ret, decide_eq_true (hp x hx), Bool.not_true, cond_false, ck_pos q3]; rfl) (fun j hj hp => by
      obtain ⟨x, hx⟩ : ∃ x, l[j]? = some x := ⟨_, lt_some hj⟩
      unfold sf97_L1
      rw [decide_eq_true (show (j : Int) < (l.length : Int) by omega), cond_true, ix_at rfl hx, k52, bnd_ret, decide_eq_false (fun h => hp fun x' hx' => by rw [hx] at hx'; cases hx'; exact h), Bool.not_false, cond_true])
      (by unfold sf97_L1; rw [decide_eq_false (show ¬ (l.length : Int) < (l.length : Int) by omega), cond_false]) hN with ⟨a, b⟩ | ⟨a, b⟩
  · exact .inl ⟨a, by unfold sf97; rw [b, bnd_ret, sel_inr]⟩
  · exact .inr ⟨a, by unfold sf97; rw [b, bnd_ret, sel_inl]⟩
theorem k92 {N : Nat} {l : Di} (hN : l.length < N) (hl : N < 1000000) : ((∀ j, j < l.length → enj l j) ∧ sf92 N l (-1000000) 1000000 (-100000) 100000 = some true) ∨ (¬ (∀ j, j < l.length → enj l j) ∧ sf92 N l (-1000000) 1000000 (-100000) 100000 = some false) := by
  haveI : DecidablePred (enj l) := fun _ => Classical.propDecidable _
  rcases iter_all (step := sf92_L1 N l (-1000000) 1000000 (-100000) 100000) (x := (0 : Int)) (N := N) (fun j => (j : Int)) l.length (enj l) (.inr ()) (.inl ()) rfl (fun j hj hp => by
      obtain ⟨x, hx⟩ : ∃ x, l[j]? = some x := ⟨_, lt_some hj⟩
      have q3 : rng ((j : Int) + 1) := by unfold rng; omega
      unfold sf92_L1
      rw [decide_eq_true (show (j : Int) < (l.length : Int) by omega), cond_true, ix_at rfl hx, k94, bnd_ret, decide_eq_true (hp x hx), Bool.not_true, cond_false, ck_pos q3]; rfl) (fun j hj hp => by
      obtain ⟨x, hx⟩ : ∃ x, l[j]? = some x := ⟨_, lt_some hj⟩
      unfold sf92_L1
      rw [decide_eq_true (show (j : Int) < (l.length : Int) by omega), cond_true, ix_at rfl hx, k94, bnd_ret, decide_eq_false (fun h => hp fun x' hx' => by rw [hx] at hx'; cases hx'; exact h), Bool.not_false, cond_true])
      (by unfold sf92_L1; rw [decide_eq_false (show ¬ (l.length : Int) < (l.length : Int) by omega), cond_false]) hN with ⟨a, b⟩ | ⟨a, b⟩
  · exact .inl ⟨a, by unfold sf92; rw [b, bnd_ret, sel_inr]⟩
  · exact .inr ⟨a, by unfold sf92; rw [b, bnd_ret, sel_inl]⟩
theorem k21 {N : Nat} {l : Sc} (h8 : l.length ≤ 8) (hN : l.length < N) (hl : N < 1000000) : ((∀ j, j < l.length → scj l j) ∧ sf21 N l 0 0 = some 0) ∨ (¬ (∀ j, j < l.length → scj l j) ∧ sf21 N l 0 0 = some 1) := by
  haveI : DecidablePred (scj l) := fun _ => Classical.propDecidable _
  rcases iter_all (step := sf21_L1 N l) (x := (0 : Int)) (N := N) (fun j => (j : Int)) l.length (scj l) (.inr ()) (.inl 1) rfl (fun j hj hp => by
      obtain ⟨x, hx⟩ : ∃ x, l[j]? = some x := ⟨_, lt_some hj⟩
      have q3 : rng ((j : Int) + 1) := by unfold rng; omega
      unfold sf21_L1
      rw [decide_eq_true (show (j : Int) < (l.length : Int) by omega), cond_true, ix_at rfl hx, k20, bnd_ret, decide_eq_true (hp x hx), Bool.not_true, cond_false, ck_pos q3]; rfl) (fun j hj hp => by
      obtain ⟨x, hx⟩ : ∃ x, l[j]? = some x := ⟨_, lt_some hj⟩
      unfold sf21_L1
      rw [decide_eq_true (show (j : Int) < (l.length : Int) by omega), cond_true, ix_at rfl hx, k20, bnd_ret, decide_eq_false (fun h => hp fun x' hx' => by rw [hx] at hx'; cases hx'; exact h), Bool.not_false, cond_true])
      (by unfold sf21_L1; rw [decide_eq_false (show ¬ (l.length : Int) < (l.length : Int) by omega), cond_false]) hN with ⟨a, b⟩ | ⟨a, b⟩
  · refine .inl ⟨a, ?_⟩
    unfold sf21 sf29
    rw [decide_eq_false (show ¬ (8 : Int) < (l.length : Int) by omega), cond_false, b, bnd_ret, sel_inr, k34, bnd_ret, bnd_ret, decide_eq_true (by omega), Bool.not_true, cond_false]
  · refine .inr ⟨a, ?_⟩
    unfold sf21
    rw [decide_eq_false (show ¬ (8 : Int) < (l.length : Int) by omega), cond_false, b, bnd_ret, sel_inl]
/-- Both checks of a diary. -/
structure OkD (l : Sc) (d : Di) : Prop where
  l8 : l.length ≤ 8
  d12 : d.length ≤ 12
  sc : ∀ j, j < l.length → scj l j
  en : ∀ j, j < d.length → enj d j
theorem checks {l : Sc} {d : Di} (h1 : l.length ≤ 11) (h2 : d.length ≤ 15) : ∃ e, sf67 100 l d = some e ∧ sf40 100 l d = some e ∧ (e = 0 → OkD l d) := by
  unfold sf67 sf40 sf74
  by_cases c1 : 8 < l.length
  · rw [decide_eq_true (show (8 : Int) < (l.length : Int) by omega), cond_true, bnd_ret, cond_true, bnd_ret, cond_true, bnd_ret, sel_inl, decide_eq_false (show ¬ (3 : Int) = 0 by decide), Bool.not_false, cond_true]
    refine ⟨3, ?_, rfl, fun h => absurd h (by decide)⟩
    cases decide ((12 : Int) < (d.length : Int)) <;> rfl
  rw [decide_eq_false (show ¬ (8 : Int) < (l.length : Int) by omega), cond_false, cond_false]
  by_cases c2 : 12 < d.length
  · rw [decide_eq_true (show (12 : Int) < (d.length : Int) by omega), cond_true, bnd_ret, cond_true, bnd_ret, sel_inl]
    exact ⟨3, rfl, rfl, fun h => absurd h (by decide)⟩
  rw [decide_eq_false (show ¬ (12 : Int) < (d.length : Int) by omega), cond_false, bnd_ret, cond_false, bnd_ret, sel_inr]
  rcases k97 (N := 100) (l := l) (by omega) (by omega) with ⟨a, b⟩ | ⟨a, b⟩
  rotate_left
  · rcases k21 (N := 100) (l := l) (by omega) (by omega) (by omega) with ⟨a', b'⟩ | ⟨a', b'⟩
    · exact absurd a' a
    rw [b, bnd_ret, Bool.not_false, cond_true, bnd_ret, b', bnd_ret, decide_eq_false (show ¬ (1 : Int) = 0 by decide), Bool.not_false, cond_true, cond_true]
    exact ⟨1, rfl, rfl, fun h => absurd h (by decide)⟩
  rcases k21 (N := 100) (l := l) (by omega) (by omega) (by omega) with ⟨a', b'⟩ | ⟨a', b'⟩
  rotate_left
  · exact absurd a a'
  rw [b, bnd_ret, Bool.not_true, cond_false, bnd_ret, b', bnd_ret, decide_eq_true (show (0 : Int) = 0 from rfl), Bool.not_true, cond_false, cond_false, k93, bnd_ret]
  dsimp only
  haveI : DecidablePred (enj d) := fun _ => Classical.propDecidable _
  have loop := iter_all (step := sf40_L1 100 d) (x := (0 : Int)) (N := 100) (fun j => (j : Int)) d.length (enj d) (Sum.inr () : Int ⊕ Unit) (.inl 2) rfl (fun j hj hp => by
      obtain ⟨x, hx⟩ : ∃ x, d[j]? = some x := ⟨_, lt_some hj⟩
      have q3 : rng ((j : Int) + 1) := by unfold rng; omega
      unfold sf40_L1
      rw [decide_eq_true (show (j : Int) < (d.length : Int) by omega), cond_true, ix_at rfl hx, k70, bnd_ret, decide_eq_true (hp x hx), Bool.not_true, cond_false, ck_pos q3]; rfl) (fun j hj hp => by
      obtain ⟨x, hx⟩ : ∃ x, d[j]? = some x := ⟨_, lt_some hj⟩
      unfold sf40_L1
      rw [decide_eq_true (show (j : Int) < (d.length : Int) by omega), cond_true, ix_at rfl hx, k70, bnd_ret, decide_eq_false (fun h => hp fun x' hx' => by rw [hx] at hx'; cases hx'; exact h), Bool.not_false, cond_true])
      (by unfold sf40_L1; rw [decide_eq_false (show ¬ (d.length : Int) < (d.length : Int) by omega), cond_false]) (by omega)
  rcases k92 (N := 100) (l := d) (by omega) (by omega) with ⟨g, k⟩ | ⟨g, k⟩
  · rcases loop with ⟨u, w⟩ | ⟨u, w⟩
    · rw [k, bnd_ret, Bool.not_true, cond_false, w, bnd_ret, sel_inr]
      exact ⟨0, rfl, rfl, fun _ => ⟨by omega, by omega, a, g⟩⟩
    · exact absurd g u
  · rcases loop with ⟨u, w⟩ | ⟨u, w⟩
    · exact absurd u g
    · rw [k, bnd_ret, Bool.not_false, cond_true, w, bnd_ret, sel_inl]
      exact ⟨2, rfl, rfl, fun h => absurd h (by decide)⟩
/-- The entries that are not explained. -/
def wl (p : Nat → Bool) : Nat → List Int
  | 0 => []
  | j + 1 => bif p j then wl p j else wl p j ++ [(j : Int)]
theorem wl_succ {p : Nat → Bool} {j : Nat} : wl p (j + 1) = bif p j then wl p j else wl p j ++ [(j : Int)] := rfl
theorem wl_len {p : Nat → Bool} : ∀ j, (wl p j).length ≤ j
  | 0 => Nat.le_refl _
  | j + 1 => by
    have := wl_len (p := p) j
    rw [wl_succ]
    cases p j
    · rw [cond_false, List.length_append, List.length_singleton]; omega
    · rw [cond_true]; omega
theorem wl_nil {p : Nat → Bool} : ∀ n, (wl p n).length = 0 ↔ ∀ j, j < n → p j = true
  | 0 => ⟨fun _ j h => by omega, fun _ => rfl⟩
  | n + 1 => by
    have ih := wl_nil (p := p) n
    rw [wl_succ]
    cases h : p n
    · rw [cond_false, List.length_append, List.length_singleton]
      exact ⟨fun h => by omega, fun g => by rw [g n (by omega)] at h; cases h⟩
    · rw [cond_true, ih]
      exact ⟨fun g j hj => by
        by_cases e : j = n
        · rw [e]; exact h
        · exact g j (by omega), fun g j hj => g j (by omega)⟩
/-- Does a scale explain the entry with this number? -/
def pp (s : Int × Int) (d : Di) (j : Nat) : Bool := match d[j]? with | some e => exb s.1 s.2 e.1 e.2.1 e.2.2 | none => true
theorem pp_at {s : Int × Int} {d : Di} {j : Nat} {e : Int × Int × Int} (h : d[j]? = some e) : pp s d j = exb s.1 s.2 e.1 e.2.1 e.2.2 := by unfold pp; rw [h]
abbrev Ky := Int × Int × Int × Int × Int
/-- What is kept is right. -/
def MI (m : Ky → Option Bool) : Prop := ∀ k v, m k = some v → v = exb k.1 k.2.1 k.2.2.1 k.2.2.2.1 k.2.2.2.2
theorem MI.none : MI (fun _ => none) := fun k v h => by cases h
theorem MI.upd {m : Ky → Option Bool} (h : MI m) (a b c d e : Int) : MI (upm m (a, b, c, d, e) (exb a b c d e)) := fun k v hk => by
  unfold upm at hk
  by_cases c : k = (a, b, c, d, e)
  · rw [if_pos c] at hk; cases hk; subst c; rfl
  · rw [if_neg c] at hk; exact h k v hk
theorem MI.at {m : Ky → Option Bool} (h : MI m) (k : Ky) : (m k).isSome = false ∨ (m k).isSome = true ∧ (m k).getD false = exb k.1 k.2.1 k.2.2.1 k.2.2.2.1 k.2.2.2.2 := by
  cases e : m k with
  | none => exact .inl rfl
  | some v => exact .inr ⟨rfl, h k v e⟩
theorem k41 {N : Nat} {s : Int × Int} {d : Di} (hs : SC s.1 s.2) (he : ∀ j, j < d.length → enj d j) (hN : d.length < N) (hl : N < 1000000) : sf41 N s.1 s.2 d = some (wl (pp s d) d.length) := by
  unfold sf41
  rw [iter_up (x := (([] : List Int), (0 : Int))) (fun j => (wl (pp s d) j, (j : Int))) d.length (wl (pp s d) d.length) rfl (fun j hj => ?_) ?_ (by omega), bnd_ret]
  · unfold sf41_L1
    dsimp only
    rw [decide_eq_false (show ¬ (d.length : Int) < (d.length : Int) by omega), cond_false]
  · obtain ⟨x, hx⟩ : ∃ x, d[j]? = some x := ⟨_, lt_some hj⟩
    have q3 : rng ((j : Int) + 1) := by unfold rng; omega
    have hlen := wl_len (p := pp s d) j
    unfold sf41_L1
    dsimp only
    rw [decide_eq_true (show (j : Int) < (d.length : Int) by omega), cond_true, ix_at rfl hx, k71 hs (he j hj x hx), bnd_ret, wl_succ, pp_at hx]
    cases exb s.1 s.2 x.1 x.2.1 x.2.2
    · rw [Bool.not_false, cond_true, cond_false, ck_pos (by omega), ck_pos q3]; rfl
    · rw [Bool.not_true, cond_false, cond_true, ck_pos q3]; rfl
theorem k69a {N M : Nat} {s : Int × Int} {d : Di} {m : Ky → Option Bool} (hs : SC s.1 s.2) (he : ∀ j, j < d.length → enj d j) (hm : MI m) (hM : d.length < M) (hl : d.length < 1000) :
    ∃ m', iter (sf69_L1 N d s) M (([] : List Int), (0 : Int), m) = some (wl (pp s d) d.length, m') ∧ MI m' := by
  obtain ⟨y, e, h1, h2⟩ := iter_ind (step := sf69_L1 N d s) (fun x => ∃ j : Nat, j ≤ d.length ∧ x.2.1 = (j : Int) ∧ x.1 = wl (pp s d) j ∧ MI x.2.2) (fun x => d.length - x.2.1.toNat) (fun y => y.1 = wl (pp s d) d.length ∧ MI y.2) (fun x hx => by
      obtain ⟨w, i, m⟩ := x
      obtain ⟨j, hj, e1, e2, e3⟩ := hx
      dsimp only at e1 e2 e3
      subst e1; subst e2
      by_cases c : j < d.length
      rotate_left
      · refine .inr ⟨(wl (pp s d) j, m), ?_, by rw [show j = d.length by omega], e3⟩
        unfold sf69_L1
        dsimp only
        rw [decide_eq_false (show ¬ (j : Int) < (d.length : Int) by omega), cond_false]
      · obtain ⟨x, hx⟩ : ∃ x, d[j]? = some x := ⟨_, lt_some c⟩
        have q3 : rng ((j : Int) + 1) := by unfold rng; omega
        have hlen := wl_len (p := pp s d) j
        have hp := pp_at (s := s) hx
        have k := k103 (N := N) hs (he j c x hx)
        rcases e3.at (s.1, s.2, x.1, x.2.1, x.2.2) with g | ⟨g, g2⟩
        · refine .inl ⟨(wl (pp s d) (j + 1), ((j + 1 : Nat) : Int), upm m (s.1, s.2, x.1, x.2.1, x.2.2) (exb s.1 s.2 x.1 x.2.1 x.2.2)), ?_, ⟨j + 1, by omega, rfl, rfl, e3.upd _ _ _ _ _⟩, by dsimp only; omega⟩
          unfold sf69_L1
          dsimp only
          rw [decide_eq_true (show (j : Int) < (d.length : Int) by omega), cond_true, ix_at rfl hx, g, Bool.not_false, cond_true, k, bnd_ret, wl_succ, hp]
          cases exb s.1 s.2 x.1 x.2.1 x.2.2
          · rw [Bool.not_false, cond_true, cond_false, ck_pos (by omega), ck_pos q3]; rfl
          · rw [Bool.not_true, cond_false, cond_true, ck_pos q3]; rfl
        · refine .inl ⟨(wl (pp s d) (j + 1), ((j + 1 : Nat) : Int), m), ?_, ⟨j + 1, by omega, rfl, rfl, e3⟩, by dsimp only; omega⟩
          dsimp only at g2
          unfold sf69_L1
          dsimp only
          rw [decide_eq_true (show (j : Int) < (d.length : Int) by omega), cond_true, ix_at rfl hx, g, Bool.not_true, cond_false, g2, wl_succ, hp]
          cases exb s.1 s.2 x.1 x.2.1 x.2.2
          · rw [Bool.not_false, cond_true, cond_false, ck_pos (by omega), ck_pos q3]; rfl
          · rw [Bool.not_true, cond_false, cond_true, ck_pos q3]; rfl) M (([] : List Int), (0 : Int), m) ⟨0, by omega, rfl, rfl, hm⟩ (by dsimp only; omega)
  refine ⟨y.2, ?_, h2⟩
  rw [e, ← h1]
theorem l4 {N : Nat} {d : Di} {s : Int × Int} : sf69_L4 N d s = sf69_L1 N d s := rfl
/-- How many entries the scales do not explain. -/
def cn (l : Sc) (d : Di) (i : Nat) : Int := match l[i]? with | some s => (wl (pp s d) d.length).length | none => 0
theorem cn_at {l : Sc} {d : Di} {i : Nat} {s : Int × Int} (h : l[i]? = some s) : cn l d i = (wl (pp s d) d.length).length := by unfold cn; rw [h]
/-- The first one with the fewest. -/
def bi (c : Nat → Int) : Nat → Nat
  | 0 => 0
  | j + 1 => if c j < c (bi c j) then j else bi c j
theorem bi_lt {c : Nat → Int} : ∀ j n, j ≤ n → 0 < n → bi c j < n
  | 0, n, _, h => h
  | j + 1, n, h, h' => by
    unfold bi
    split
    · omega
    · exact bi_lt j n (by omega) h'
theorem k69 {l : Sc} {d : Di} (ok : OkD l d) (h0 : 0 < l.length) : ∃ s, l[bi (cn l d) l.length]? = some s ∧ sf69 100 l d = some (((bi (cn l d) l.length : Nat) : Int), wl (pp s d) d.length) := by
  have hl8 := ok.l8
  have hd12 := ok.d12
  have lt := bi_lt (c := cn l d) l.length l.length (Nat.le_refl _) h0
  obtain ⟨s, hs⟩ : ∃ s, l[bi (cn l d) l.length]? = some s := ⟨_, lt_some lt⟩
  refine ⟨s, hs, ?_⟩
  obtain ⟨y, e, m1, m2⟩ := iter_ind (step := sf69_L2 100 l d) (fun x => ∃ j : Nat, j ≤ l.length ∧ x.1 = (j : Int) ∧ MI x.2.1 ∧ ∀ i, i < j → x.2.2 i = cn l d i) (fun x => l.length - x.1.toNat) (fun y => MI y.1 ∧ ∀ i, i < l.length → y.2 i = cn l d i) (fun x hx => by
      obtain ⟨i, m, f⟩ := x
      obtain ⟨j, hj, e1, e2, e3⟩ := hx
      dsimp only at e1 e2 e3
      subst e1
      by_cases c : j < l.length
      rotate_left
      · refine .inr ⟨(m, f), ?_, e2, fun i hi => e3 i (by omega)⟩
        unfold sf69_L2
        dsimp only
        rw [decide_eq_false (show ¬ (j : Int) < (l.length : Int) by omega), cond_false]
      · obtain ⟨x, hx⟩ : ∃ x, l[j]? = some x := ⟨_, lt_some c⟩
        have q3 : rng ((j : Int) + 1) := by unfold rng; omega
        obtain ⟨m', k1, k2⟩ := k69a (N := 100) (M := 100) (ok.sc j c x hx) ok.en e2 (by omega) (by omega)
        refine .inl ⟨(((j + 1 : Nat) : Int), m', ups f j ((wl (pp x d) d.length).length : Int)), ?_, ⟨j + 1, by omega, rfl, k2, fun i hi => ?_⟩, by dsimp only; omega⟩
        · unfold sf69_L2
          dsimp only
          rw [decide_eq_true (show (j : Int) < (l.length : Int) by omega), cond_true, ix_at rfl hx, k1, bnd_ret, ck_pos (by omega), ck_pos q3, Int.toNat_natCast]; rfl
        · show (if i = j then ((wl (pp x d) d.length).length : Int) else f i) = _
          by_cases e : i = j
          · rw [if_pos e, e, cn_at hx]
          · rw [if_neg e]; exact e3 i (by omega)) 100 ((0 : Int), (fun _ => none), (fun _ => (0 : Int))) ⟨0, by omega, rfl, MI.none, fun i hi => by omega⟩ (by dsimp only; omega)
  unfold sf69
  rw [e, bnd_ret]
  rw [iter_up (x := ((0 : Int), (0 : Int))) (fun j => (((bi (cn l d) j : Nat) : Int), (j : Int))) l.length ((bi (cn l d) l.length : Nat) : Int) rfl (fun j hj => ?_) ?_ (by omega), bnd_ret]
  · obtain ⟨m', k1, k2⟩ := k69a (N := 100) (M := 100) (s := s) (ok.sc _ lt s hs) ok.en m1 (by omega) (by omega)
    rw [ix_at rfl hs, l4, k1, bnd_ret]
  · unfold sf69_L3
    dsimp only
    rw [decide_eq_false (show ¬ (l.length : Int) < (l.length : Int) by omega), cond_false]
  · have q3 : rng ((j : Int) + 1) := by unfold rng; omega
    have lt' := bi_lt (c := cn l d) j l.length (by omega) h0
    unfold sf69_L3
    dsimp only
    rw [decide_eq_true (show (j : Int) < (l.length : Int) by omega), cond_true, ck_pos (by omega), ck_pos (by omega), Int.toNat_natCast, Int.toNat_natCast, m2 j hj, m2 _ lt']
    show _ = some (Sum.inl (((if cn l d j < cn l d (bi (cn l d) j) then j else bi (cn l d) j : Nat) : Int), ((j + 1 : Nat) : Int)))
    by_cases c : cn l d j < cn l d (bi (cn l d) j)
    · rw [decide_eq_true c, cond_true, ck_pos q3, if_pos c]; rfl
    · rw [decide_eq_false c, cond_false, ck_pos q3, if_neg c]; rfl
/-- The scales that explain all. -/
def kl (c : Nat → Int) : Nat → List Int
  | 0 => []
  | j + 1 => bif decide (c j = 0) then kl c j ++ [(j : Int)] else kl c j
theorem kl_len {c : Nat → Int} : ∀ j, (kl c j).length ≤ j
  | 0 => Nat.le_refl _
  | j + 1 => by
    have := kl_len (c := c) j
    unfold kl
    cases decide (c j = 0)
    · rw [cond_false]; omega
    · rw [cond_true, List.length_append, List.length_singleton]; omega
theorem k68a {N M : Nat} {s : Int × Int} {d : Di} {m : Ky → Option Bool} (hs : SC s.1 s.2) (he : ∀ j, j < d.length → enj d j) (hm : MI m) (hM : d.length < M) (hl : d.length < 1000) :
    ∃ m', MI m' ∧ ((wl (pp s d) d.length).length = 0 ∧ iter (sf68_L1 N d s) M ((0 : Int), m) = some (.inr m') ∨ (wl (pp s d) d.length).length ≠ 0 ∧ iter (sf68_L1 N d s) M ((0 : Int), m) = some (.inl m')) := by
  obtain ⟨y, e, h⟩ := iter_ind (step := sf68_L1 N d s) (fun x => ∃ j : Nat, j ≤ d.length ∧ x.1 = (j : Int) ∧ MI x.2 ∧ ∀ i, i < j → pp s d i = true) (fun x => d.length - x.1.toNat) (fun y => ∃ m', MI m' ∧ ((wl (pp s d) d.length).length = 0 ∧ y = .inr m' ∨ (wl (pp s d) d.length).length ≠ 0 ∧ y = .inl m')) (fun x hx => by
      obtain ⟨i, m⟩ := x
      obtain ⟨j, hj, e1, e2, e3⟩ := hx
      dsimp only at e1 e2 e3
      subst e1
      by_cases c : j < d.length
      rotate_left
      · refine .inr ⟨.inr m, ?_, m, e2, .inl ⟨(wl_nil _).2 fun i hi => e3 i (by omega), rfl⟩⟩
        unfold sf68_L1
        dsimp only
        rw [decide_eq_false (show ¬ (j : Int) < (d.length : Int) by omega), cond_false]
      · obtain ⟨x, hx⟩ : ∃ x, d[j]? = some x := ⟨_, lt_some c⟩
        have q3 : rng ((j : Int) + 1) := by unfold rng; omega
        have hp := pp_at (s := s) hx
        have k := k103 (N := N) hs (he j c x hx)
        cases hv : exb s.1 s.2 x.1 x.2.1 x.2.2
        · rw [hv] at hp k
          have bad : (wl (pp s d) d.length).length ≠ 0 := fun h => by
            have := (wl_nil _).1 h j c
            rw [hp] at this; cases this
          rcases e2.at (s.1, s.2, x.1, x.2.1, x.2.2) with g | ⟨g, g2⟩
          · refine .inr ⟨.inl (upm m (s.1, s.2, x.1, x.2.1, x.2.2) false), ?_, _, by rw [← hv]; exact e2.upd _ _ _ _ _, .inr ⟨bad, rfl⟩⟩
            unfold sf68_L1
            dsimp only
            rw [decide_eq_true (show (j : Int) < (d.length : Int) by omega), cond_true, ix_at rfl hx, g, Bool.not_false, cond_true, k, bnd_ret, Bool.not_false, cond_true]
          · dsimp only at g2
            rw [hv] at g2
            refine .inr ⟨.inl m, ?_, m, e2, .inr ⟨bad, rfl⟩⟩
            unfold sf68_L1
            dsimp only
            rw [decide_eq_true (show (j : Int) < (d.length : Int) by omega), cond_true, ix_at rfl hx, g, Bool.not_true, cond_false, g2, Bool.not_false, cond_true]
        · rw [hv] at hp k
          have more : ∀ i, i < j + 1 → pp s d i = true := fun i hi => by
            by_cases e : i = j
            · rw [e]; exact hp
            · exact e3 i (by omega)
          rcases e2.at (s.1, s.2, x.1, x.2.1, x.2.2) with g | ⟨g, g2⟩
          · refine .inl ⟨(((j + 1 : Nat) : Int), upm m (s.1, s.2, x.1, x.2.1, x.2.2) true), ?_, ⟨j + 1, by omega, rfl, by rw [← hv]; exact e2.upd _ _ _ _ _, more⟩, by dsimp only; omega⟩
            unfold sf68_L1
            dsimp only
            rw [decide_eq_true (show (j : Int) < (d.length : Int) by omega), cond_true, ix_at rfl hx, g, Bool.not_false, cond_true, k, bnd_ret, Bool.not_true, cond_false, ck_pos q3]; rfl
          · dsimp only at g2
            rw [hv] at g2
            refine .inl ⟨(((j + 1 : Nat) : Int), m), ?_, ⟨j + 1, by omega, rfl, e2, more⟩, by dsimp only; omega⟩
            unfold sf68_L1
            dsimp only
            rw [decide_eq_true (show (j : Int) < (d.length : Int) by omega), cond_true, ix_at rfl hx, g, Bool.not_true, cond_false, g2, Bool.not_true, cond_false, ck_pos q3]; rfl) M ((0 : Int), m) ⟨0, by omega, rfl, hm, fun i hi => by omega⟩ (by dsimp only; omega)
  obtain ⟨m', g1, g2⟩ := h
  refine ⟨m', g1, ?_⟩
  rcases g2 with ⟨a, b⟩ | ⟨a, b⟩
  · exact .inl ⟨a, by rw [e, b]⟩
  · exact .inr ⟨a, by rw [e, b]⟩
theorem k68 {l : Sc} {d : Di} (ok : OkD l d) : sf68 100 l d = some (kl (cn l d) l.length) := by
  have hl8 := ok.l8
  have hd12 := ok.d12
  obtain ⟨y, e, h⟩ := iter_ind (step := sf68_L2 100 l d) (fun x => ∃ j : Nat, j ≤ l.length ∧ x.2.1 = (j : Int) ∧ x.1 = kl (cn l d) j ∧ MI x.2.2) (fun x => l.length - x.2.1.toNat) (fun y => y.1 = kl (cn l d) l.length) (fun x hx => by
      obtain ⟨w, i, m⟩ := x
      obtain ⟨j, hj, e1, e2, e3⟩ := hx
      dsimp only at e1 e2 e3
      subst e1; subst e2
      by_cases c : j < l.length
      rotate_left
      · refine .inr ⟨(kl (cn l d) j, m), ?_, by rw [show j = l.length by omega]⟩
        unfold sf68_L2
        dsimp only
        rw [decide_eq_false (show ¬ (j : Int) < (l.length : Int) by omega), cond_false]
      · obtain ⟨x, hx⟩ : ∃ x, l[j]? = some x := ⟨_, lt_some c⟩
        have q3 : rng ((j : Int) + 1) := by unfold rng; omega
        have hlen := kl_len (c := cn l d) j
        have hc := cn_at (d := d) hx
        obtain ⟨m', k1, k2⟩ := k68a (N := 100) (M := 100) (ok.sc j c x hx) ok.en e3 (by omega) (by omega)
        refine .inl ⟨(kl (cn l d) (j + 1), ((j + 1 : Nat) : Int), m'), ?_, ⟨j + 1, by omega, rfl, rfl, k1⟩, by dsimp only; omega⟩
        unfold sf68_L2
        dsimp only
        show _ = some (Sum.inl ((bif decide (cn l d j = 0) then kl (cn l d) j ++ [(j : Int)] else kl (cn l d) j), ((j + 1 : Nat) : Int), m'))
        rcases k2 with ⟨a, b⟩ | ⟨a, b⟩
        · rw [decide_eq_true (show (j : Int) < (l.length : Int) by omega), cond_true, ix_at rfl hx, b, bnd_ret, sel_inr, ck_pos (by omega), ck_pos q3, decide_eq_true (show cn l d j = 0 by rw [hc]; omega), cond_true]; rfl
        · rw [decide_eq_true (show (j : Int) < (l.length : Int) by omega), cond_true, ix_at rfl hx, b, bnd_ret, sel_inl, ck_pos q3, decide_eq_false (show ¬ cn l d j = 0 by rw [hc]; omega), cond_false]; rfl) 100 (([] : List Int), (0 : Int), (fun _ => none)) ⟨0, by omega, rfl, rfl, MI.none⟩ (by dsimp only; omega)
  unfold sf68
  rw [e, bnd_ret, h]
theorem k42 {N : Nat} {l : List Int} (hN : l.length < N) (hl : N < 1000000000) : sf42 N l l = some true := by
  unfold sf42
  rw [decide_eq_true rfl, Bool.not_true, cond_false]
  rw [iter_up (x := (0 : Int)) (fun j => (j : Int)) l.length (.inr ()) rfl (fun j hj => ?_) ?_ hN, bnd_ret, sel_inr]
  · unfold sf42_L1
    rw [decide_eq_false (show ¬ (l.length : Int) < (l.length : Int) by omega), cond_false]
  · obtain ⟨x, hx⟩ : ∃ x, l[j]? = some x := ⟨_, lt_some hj⟩
    have q3 : rng ((j : Int) + 1) := by unfold rng; omega
    unfold sf42_L1
    rw [decide_eq_true (show (j : Int) < (l.length : Int) by omega), cond_true, ix_at rfl hx, ix_at rfl hx, decide_eq_true rfl, Bool.not_true, cond_false, ck_pos q3]; rfl
theorem k6 {l : Sc} {d : Di} (ok : OkD l d) : iter (sf6_L1 100 l d) 100 (([] : List Int), (0 : Int), (0 : Int)) = some (kl (cn l d) l.length, ((bi (cn l d) l.length : Nat) : Int)) := by
  have hl8 := ok.l8
  have hd12 := ok.d12
  refine iter_up (fun j => (kl (cn l d) j, ((bi (cn l d) j : Nat) : Int), (j : Int))) l.length _ rfl (fun j hj => ?_) ?_ (by omega)
  · obtain ⟨x, hx⟩ : ∃ x, l[j]? = some x := ⟨_, lt_some hj⟩
    have q3 : rng ((j : Int) + 1) := by unfold rng; omega
    have hlen := kl_len (c := cn l d) j
    have hc := cn_at (d := d) hx
    have lt' := bi_lt (c := cn l d) j l.length (by omega) (by omega)
    obtain ⟨z, hz⟩ : ∃ z, l[bi (cn l d) j]? = some z := ⟨_, lt_some lt'⟩
    have hcz := cn_at (d := d) hz
    unfold sf6_L1
    dsimp only
    rw [decide_eq_true (show (j : Int) < (l.length : Int) by omega), cond_true, ix_at rfl hx, k41 (ok.sc j hj x hx) ok.en (by omega) (by omega), bnd_ret]
    have e1 : (bif (decide (((wl (pp x d) d.length).length : Int) = (0 : Int))) then (ck (((kl (cn l d) j).length + 1) * 8 ≤ 35184372088832 ∧ (kl (cn l d) j).length + 1 ≤ 35184372088832) (some (kl (cn l d) j ++ [(j : Int)]))) else some (kl (cn l d) j)) = some (kl (cn l d) (j + 1)) := by
      show _ = some (bif decide (cn l d j = 0) then kl (cn l d) j ++ [(j : Int)] else kl (cn l d) j)
      rw [hc]
      cases decide (((wl (pp x d) d.length).length : Int) = 0)
      · rw [cond_false, cond_false]
      · rw [cond_true, cond_true, ck_pos (by omega)]
    rw [e1, bnd_ret, ix_at rfl hz, k41 (ok.sc _ lt' z hz) ok.en (by omega) (by omega), bnd_ret]
    show _ = some (Sum.inl (kl (cn l d) (j + 1), ((if cn l d j < cn l d (bi (cn l d) j) then j else bi (cn l d) j : Nat) : Int), ((j + 1 : Nat) : Int)))
    rw [hc, hcz]
    by_cases c : ((wl (pp x d) d.length).length : Int) < ((wl (pp z d) d.length).length : Int)
    · rw [decide_eq_true c, cond_true, ck_pos q3, if_pos c]; rfl
    · rw [decide_eq_false c, cond_false, ck_pos q3, if_neg c]; rfl
  · unfold sf6_L1
    dsimp only
    rw [decide_eq_false (show ¬ (l.length : Int) < (l.length : Int) by omega), cond_false]
/-- The law of P3.5 and P3.6. -/
theorem law6 {l : Sc} {d : Di} : sf6 100 l d = some true := by
  unfold sf6
  by_cases c1 : 11 < l.length
  · rw [decide_eq_true (show (11 : Int) < (l.length : Int) by omega), cond_true, bnd_ret, cond_true, bnd_ret, sel_inl]
  rw [decide_eq_false (show ¬ (11 : Int) < (l.length : Int) by omega), cond_false]
  by_cases c2 : 15 < d.length
  · rw [decide_eq_true (show (15 : Int) < (d.length : Int) by omega), bnd_ret, cond_true, bnd_ret, sel_inl]
  rw [decide_eq_false (show ¬ (15 : Int) < (d.length : Int) by omega), bnd_ret, cond_false, bnd_ret, sel_inr]
  obtain ⟨e, f67, f40, he⟩ := checks (l := l) (d := d) (by omega) (by omega)
  rw [k25 (by omega) (by omega), bnd_ret, k38 (by omega) (by omega), bnd_ret]
  by_cases c0 : e = 0
  rotate_left
  · have f37 : sf37 100 l d = some ([], e) := by
      unfold sf37
      rw [f67, bnd_ret, decide_eq_false c0, Bool.not_false, cond_true]
    have f39 : sf39 100 l d = some (0, [], e) := by
      unfold sf39
      rw [f67, bnd_ret, decide_eq_false c0, Bool.not_false, cond_true]
    rw [f37, bnd_ret, bnd_ret, bnd_ret, f39, bnd_ret, f40, bnd_ret, decide_eq_false c0, Bool.not_false, cond_true]
    dsimp only
    rw [decide_eq_true (show e = e from rfl), cond_true, cond_true, ck_pos (by decide), decide_eq_true (by decide), cond_true, decide_eq_true (by decide), cond_true]
  have ok := he c0
  subst c0
  have hl8 := ok.l8
  have hd12 := ok.d12
  have f37 : sf37 100 l d = some (kl (cn l d) l.length, 0) := by
    unfold sf37
    rw [f67, bnd_ret, decide_eq_true (show (0 : Int) = 0 from rfl), Bool.not_true, cond_false, k68 ok, bnd_ret]
  have hkl := kl_len (c := cn l d) l.length
  rw [f37, bnd_ret, bnd_ret, bnd_ret]
  by_cases c3 : l.length = 0
  · have f39 : sf39 100 l d = some (0, [], 7) := by
      unfold sf39
      rw [f67, bnd_ret, decide_eq_true (show (0 : Int) = 0 from rfl), Bool.not_true, cond_false, decide_eq_true (show (l.length : Int) = 0 by omega), cond_true]
    rw [f39, bnd_ret, f40, bnd_ret, decide_eq_true (show (0 : Int) = 0 from rfl), Bool.not_true, cond_false, k6 ok, bnd_ret]
    dsimp only
    rw [cond_false, k42 (by omega) (by omega), bnd_ret, Bool.not_true, bnd_ret, cond_false, bnd_ret, sel_inr, decide_eq_true (show (l.length : Int) = 0 by omega), cond_true, decide_eq_true (show (7 : Int) = 7 from rfl), cond_true, decide_eq_true (by decide), cond_true, cond_true]
  obtain ⟨s, hs, k⟩ := k69 ok (by omega)
  have lt := some_lt hs
  have hwl := wl_len (p := pp s d) d.length
  have f39 : sf39 100 l d = some (((bi (cn l d) l.length : Nat) : Int), wl (pp s d) d.length, 0) := by
    unfold sf39
    rw [f67, bnd_ret, decide_eq_true (show (0 : Int) = 0 from rfl), Bool.not_true, cond_false, decide_eq_false (show ¬ (l.length : Int) = 0 by omega), cond_false, k, bnd_ret]
  rw [f39, bnd_ret, f40, bnd_ret, decide_eq_true (show (0 : Int) = 0 from rfl), Bool.not_true, cond_false, k6 ok, bnd_ret]
  dsimp only
  rw [cond_false, k42 (by omega) (by omega), bnd_ret, Bool.not_true, bnd_ret, cond_false, bnd_ret, sel_inr, decide_eq_false (show ¬ (l.length : Int) = 0 by omega), cond_false, cond_true, decide_eq_true (show ((bi (cn l d) l.length : Nat) : Int) = ((bi (cn l d) l.length : Nat) : Int) from rfl), cond_true, ix_at rfl hs, k41 (ok.sc _ lt s hs) ok.en (by omega) (by omega), bnd_ret, k42 (by omega) (by omega), bnd_ret, cond_true]
end Go.Hx.V

/- The plain machine once more, as closures: what the kernel can reckon fast. This file: the machine. -/
namespace Go.Hx
noncomputable section

/-- Where a run goes on: temporaries, marks, blocks, the next number. -/
abbrev Kt := Tr HV → List Nat → Tr HBlk → Nat → Option (HV × HS)
/-- Where an operation's value goes. -/
abbrev Kv := HV → Tr HBlk → Nat → Option (HV × HS)
/-- Operations: the floor, temporaries, blocks, the next number, and where the value goes. -/
abbrev Ko := Nat → Tr HV → Tr HBlk → Nat → Kv → Option (HV × HS)
/-- Codes: the floor, the round, and where they go: behind, out of a block, out of the function. -/
abbrev Kc := Nat → Option Nat → Kt → (Nat → Kt) → Kt → Kt
/-- Functions. -/
abbrev Kf := Nat → List HV → Tr HBlk → Nat → Kv → Option (HV × HS)

def Pa.tmp (p : Pa) (a : Tr HV) : HV := Option.rec (motive := fun _ => HV) .undef (fun v => v) (Tr.getP p a)
/-- A closure that is made once: the kernel keeps what a closed term comes to. -/
inductive Bx (α : Type) where
  | mk (f : α)
def Bx.run {α : Type} (b : Bx α) : α := Bx.rec (motive := fun _ => α) (fun f => f) b
def Bx.then {α β : Type} (b : Bx α) (g : α → Bx β) : Bx β := Bx.rec (motive := fun _ => Bx β) g b
/-- A road, made once. -/
def Pa.then {β : Type} (p : Pa) (g : Pa → Bx β) : Bx β := Pa.rec (motive := fun _ => Bx β) (g .z) (fun q _ => g (.a q)) (fun q _ => g (.b q)) (fun q _ => g (.c q)) (fun q _ => g (.d q)) p
def evK (x : Lo) : Bx (Tr HV → HV) :=
  match x with
  | .t n => .mk (Pa.tmp (pa n))
  | .c v => .mk (fun _ => v)
def evL (x : Lo) (a : Tr HV) : HV := (evK x).run a
/-- All that is not served by itself. -/
def slowK (lp : Nat → Option LFunc) (nt : Nat) (o : LOp) : Ko := fun fl a h nx k =>
  match opH lp (exec lp 0) fl o ⟨nt, a, []⟩ ⟨h, nx⟩ with
  | some (v, σ) => k v σ.h σ.nx
  | none => none
def callK (fn : Nat → Bx Kf) (ro : Nat → Nat → List HV → Tr HBlk → Nat → Kv → Option (HV × HS)) (f : Tr HV → HV) (xs : List Lo) : Ko := fun fl a h nx k =>
  match f a with
  | .func g first captured => (fn g).run fl (first ++ xs.map (fun x => evL x a) ++ captured) h nx k
  | .yield l => ro fl l (xs.map fun x => evL x a) h nx k
  | _ => none
def binK (g : IntKind → Int → Int → Option HV) (x y : HV) (h : Tr HBlk) (nx : Nat) (k : Kv) : Option (HV × HS) :=
  match x, y with
  | .int k1 m, .int k2 n => bif sameK k1 k2 then (match g k1 m n with | some v => k v h nx | none => none) else none
  | _, _ => none
def addrK (off : Nat) (x : HV) (h : Tr HBlk) (nx : Nat) (k : Kv) : Option (HV × HS) :=
  match x with
  | .ptr (some (b, o)) => k (.ptr (some (b, Nat.add o off))) h nx
  | _ => none
def idxK (len size : Nat) (x i : HV) (h : Tr HBlk) (nx : Nat) (k : Kv) : Option (HV × HS) :=
  match x, i with
  | .ptr (some (b, o)), .int _ (.ofNat i) => bif Nat.blt i len then k (.ptr (some (b, Nat.add o (Nat.mul i size)))) h nx else none
  | _, _ => none
def nilK (x : HV) (h : Tr HBlk) (nx : Nat) (k : Kv) : Option (HV × HS) :=
  match x with
  | .ptr (some p) => k (.ptr (some p)) h nx
  | .func f first captured => k (.func f first captured) h nx
  | _ => none
def nthK (i : Nat) : List HV → Option HV :=
  Nat.rec (motive := fun _ => List HV → Option HV) (fun l => List.rec (motive := fun _ => Option HV) none (fun v _ _ => some v) l) (fun _ ih l => List.rec (motive := fun _ => Option HV) none (fun _ t _ => ih t) l) i
def setR (i : Nat) (v : HV) : List HV → List HV :=
  Nat.rec (motive := fun _ => List HV → List HV) (fun l => List.rec (motive := fun _ => List HV) [] (fun _ t _ => v :: t) l) (fun _ ih l => List.rec (motive := fun _ => List HV) [] (fun x t _ => x :: ih t) l) i
def loadK (x : HV) (h : Tr HBlk) (nx : Nat) (k : Kv) : Option (HV × HS) :=
  match x with
  | .ptr (some (b, o)) =>
    match h.get b with
    | some (.cells cs _) =>
      match nthK o cs with
      | some v => k v h nx
      | none => none
    | _ => none
  | _ => none
def wrOk : BK → Bool
  | .ro => false
  | _ => true
def storeK (fl : Nat) (x v : HV) (h : Tr HBlk) (nx : Nat) (k : Kv) : Option (HV × HS) :=
  match x with
  | .ptr (some (b, o)) =>
    match h.get b with
    | some (.cells cs bk) =>
      bif Nat.ble fl b && v.one && wrOk bk then
        match nthK o cs with
        | some _ => k .undef (h.set b (some (.cells (setR o v cs) bk))) nx
        | none => none
      else none
    | _ => none
  | _ => none
def compOp (lp : Nat → Option LFunc) (fn : Nat → Bx Kf) (ro : Nat → Nat → List HV → Tr HBlk → Nat → Kv → Option (HV × HS)) (nt : Nat) (o : LOp) : Bx Ko :=
  match o with
  | .move x => (evK x).then fun e => .mk fun _ a h nx k => k (e a) h nx
  | .bin op x y => (evK x).then fun e => (evK y).then fun f => .mk fun _ a h nx k => binK (bif isShift op then shiftH op else intFast op) (e a) (f a) h nx k
  | .fieldAddr off x => (evK x).then fun e => .mk fun _ a h nx k => addrK off (e a) h nx k
  | .indexAddrA len size x i => (evK x).then fun e => (evK i).then fun f => .mk fun _ a h nx k => idxK len size (e a) (f a) h nx k
  | .nilCheck x => (evK x).then fun e => .mk fun _ a h nx k => nilK (e a) h nx k
  | .load false 1 x => (evK x).then fun e => .mk fun _ a h nx k => loadK (e a) h nx k
  | .store 1 x v => (evK x).then fun e => (evK v).then fun f => .mk fun fl a h nx k => bif (f a).one then storeK fl (e a) (f a) h nx k else slowK lp nt (.store 1 x v) fl a h nx k
  | .call f xs => (evK f).then fun e => .mk (callK fn ro e xs)
  | o => .mk (slowK lp nt o)
def putK (nt : Nat) (dst : Option Nat) : Bx (Tr HV → HV → Tr HV) :=
  match dst with
  | none => .mk fun a _ => a
  | some d => bif Nat.blt d nt then (pa d).then fun p => .mk (fun a v => Tr.setP (some v) p a) else .mk fun a _ => a
def isB (want : Bool) : HV → Bool
  | .bool b => b == want
  | _ => false
def guardK (g : Option (Nat × Bool)) (o : Bx Ko) : Bx Ko :=
  match g with
  | none => o
  | some (t, want) => (evK (.t t)).then fun e => o.then fun o => .mk fun fl a h nx k =>
      bif isB want (e a) then o fl a h nx k else k .undef h nx
def compOps (op : LOp → Bx Ko) (nt : Nat) : List LOper → Bx (Nat → Kt → Kt)
  | [] => .mk fun _ k => k
  | o :: os => (guardK o.g (op o.op)).then fun f => (putK nt o.dst).then fun p => (compOps op nt os).then fun r => .mk fun fl k a ds h nx => f fl a h nx fun v h nx => r fl k (p a v) ds h nx
def drawK (op : LOp → Bx Ko) (nt s : Nat) : List LOper → Bx (Nat → Nat → Nat → Tr HBlk → List (Nat × List (Nat × HBlk)) → Kt → Tr HV → List Nat → Nat → Option (HV × HS))
  | [] => .mk fun _ _ _ h0 done k a ds nx => k a ds (merge h0 none done) nx
  | o :: os => (guardK o.g (op o.op)).then fun f => (putK nt o.dst).then fun p => (drawK op nt s os).then fun r => (compOps op nt (o :: os)).then fun q => .mk fun fl n0 i h0 done k a ds nx =>
      bif Nat.blt i s then
        bif o.anc.contains i then
          f n0 a (merge h0 (some o.anc) done) nx fun v h nx' => bif Nat.ble nx nx' then r fl n0 (Nat.succ i) h0 ((i, newFrom h n0 (Nat.sub nx' n0)) :: dropAll o.anc done) k (p a v) ds nx' else none
        else
          f nx a (merge h0 (some o.anc) done) nx fun v h nx' => bif Nat.ble nx nx' then r fl n0 (Nat.succ i) h0 (bif Nat.beq nx nx' then done else (i, newFrom h nx (Nat.sub nx' nx)) :: done) k (p a v) ds nx' else none
      else q fl k a ds (merge h0 none done) nx
/-- The loop's record, by its parts. -/
def loopK (b : Option HBlk) (k : LState → HExit → Nat → Tr HV → List Nat → LCode → LCode → Nat → Option (HV × HS)) : Option (HV × HS) :=
  match b with
  | some (.loop ⟨st, pe, nt, tm, ps, asg, bo, mk⟩) => k st pe nt tm ps asg bo mk
  | _ => none
def marksK (rd : Option Nat) (h : Tr HBlk) (nx : Nat) (k : Nat → List Nat → Tr HBlk → Nat → Option (HV × HS)) : Option (HV × HS) :=
  match rd with
  | none => k nx [nx] (h.set nx (some .marks)) (Nat.succ nx)
  | some l => loopK (h.get l) fun _ _ _ _ _ _ _ mk => k mk [] h nx
def notBusy : LState → Bool
  | .busy => false
  | _ => true
def isReady : LState → Bool
  | .ready => true
  | _ => false
def jumpK (e : HExit) (kn : Kt) (kx : Nat → Kt) (kr : Kt) : Kt :=
  match e with
  | .normal => kn
  | .exit i => kx i
  | .ret => kr
def rangeK (fn : Nat → Bx Kf) (nt : Nat) (e : Tr HV → HV) (ps : List Nat) (assign body : LCode) : Kc := fun fl rd kn kx kr a ds h nx =>
  match e a with
  | .func g first captured =>
    marksK rd h nx fun mk ms h1 n1 =>
      (fn g).run fl (first ++ [.yield n1] ++ captured) (h1.set n1 (some (.loop ⟨.ready, .normal, nt, a, ps, assign, body, mk⟩))) (Nat.succ n1) fun _ h3 n3 =>
        loopK (h3.get n1) fun st pe nt' tm ps' asg bo mk' =>
          bif notBusy st && Nat.ble fl n1 then jumpK pe kn kx kr a (ms ++ ds) (h3.set n1 (some (.loop ⟨.exhausted, pe, nt', tm, ps', asg, bo, mk'⟩))) n3 else none
  | _ => none
def endK (l : Nat) (e : HExit) (k : Kv) (h : Tr HBlk) (nx : Nat) : Option (HV × HS) :=
  loopK (h.get l) fun _ _ nt tm ps asg bo mk =>
    match e with
    | .normal => k (.bool true) (h.set l (some (.loop ⟨.ready, .normal, nt, tm, ps, asg, bo, mk⟩))) nx
    | e => k (.bool false) (h.set l (some (.loop ⟨.done, e, nt, tm, ps, asg, bo, mk⟩))) nx
def roundK (co : Nat → LCode → Bx Kc) : Nat → Nat → List HV → Tr HBlk → Nat → Kv → Option (HV × HS) := fun fl l args h nx k =>
  loopK (h.get l) fun _ _ nt tm ps asg bo _ =>
    match zipPut nt tm ps args with
    | some tm1 =>
      (co nt asg).run fl (some l)
        (fun a1 ds1 h1 n1 => loopK (h1.get l) fun st pe nt' tm' ps' asg' bo' mk' =>
          bif isReady st && Nat.ble fl l then
            (co nt bo).run fl (some l) (fun _ _ => endK l .normal k) (fun i _ _ => endK l (.exit i) k) (fun _ _ => endK l .ret k) a1 ds1 (h1.set l (some (.loop ⟨.busy, pe, nt', tm', ps', asg', bo', mk'⟩))) n1
          else none)
        (fun _ _ _ _ _ => none) (fun _ _ _ _ => none) tm1 [] h nx
    | none => none
def comp (op : LOp → Bx Ko) (fn : Nat → Bx Kf) (nt : Nat) : LCode → Bx Kc
  | .skip => .mk fun _ _ kn _ _ => kn
  | .seq x y => (comp op fn nt x).then fun f => (comp op fn nt y).then fun g => .mk fun fl rd kn kx kr => f fl rd (g fl rd kn kx kr) kx kr
  | .cond c x y => (evK c).then fun e => (comp op fn nt x).then fun f => (comp op fn nt y).then fun g => .mk fun fl rd kn kx kr a ds h nx =>
      match e a with
      | .bool b => bif b then f fl rd kn kx kr a ds h nx else g fl rd kn kx kr a ds h nx
      | _ => none
  | .block id x => (comp op fn nt x).then fun f => .mk fun fl rd kn kx kr => f fl rd kn (fun i => bif Nat.beq i id then kn else kx i) kr
  | .loop x => (comp op fn nt x).then fun f => .mk fun fl rd _ kx kr => Nat.rec (motive := fun _ => Kt) (fun _ _ _ _ => none) (fun _ ih => f fl rd ih kx kr) 1000000
  | .scope x => comp op fn nt x
  | .exit id => .mk fun _ _ _ kx _ => kx id
  | .ret => .mk fun _ _ _ _ kr => kr
  | .reg ops => (compOps op nt ops).then fun f => .mk fun fl _ kn _ _ => f fl kn
  | .draw s ops => (drawK op nt s ops).then fun f => .mk fun fl _ kn _ _ a ds h nx => bif Nat.ble fl nx then f fl nx 0 h [] kn a ds nx else none
  | .rangeFunc f ps assign body => (evK f).then fun e => .mk (rangeK fn nt e ps assign body)
  | .bad => .mk fun _ _ _ _ _ _ _ _ _ => none
def leaveK (fl : Nat) (nt : Nat) (res : List LRes) (k : Kv) : Kt := fun a ds h nx =>
  match leaveH fl ⟨nt, a, ds⟩ res ⟨h, nx⟩ with
  | some (v, σ) => k v σ.h σ.nx
  | none => none
abbrev Kr := Nat → Nat → List HV → Tr HBlk → Nat → Kv → Option (HV × HS)
/-- Behind a call that wrote nothing of its caller's. -/
def gcK (h : Tr HBlk) (nx : Nat) (k : Kv) : Kv := fun v h' nx' => k v (keepD h' nx 5 [v] h) nx'
def specK (g : List HV → HS → Option (HV × HS)) : Kf := fun _ args h nx k =>
  match g args ⟨h, nx⟩ with
  | some (v, σ) => bif Nat.ble nx σ.nx then k v σ.h σ.nx else none
  | none => none
def enterK (lf : LFunc) (body : Kc) : Bx Kf :=
  bif lf.imp then .mk fun fl args h nx k => bif Nat.ble args.length lf.nt then body fl none (leaveK fl lf.nt lf.res k) (fun _ _ _ _ _ => none) (leaveK fl lf.nt lf.res k) (putAll .e 0 args) [] h nx else none
  else .mk fun _ args h nx k => bif Nat.ble args.length lf.nt then body nx none (leaveK nx lf.nt lf.res (gcK h nx k)) (fun _ _ _ _ _ => none) (leaveK nx lf.nt lf.res (gcK h nx k)) (putAll .e 0 args) [] h nx else none
/-- Functions and rounds, so deep. -/
def bothK (lp : Nat → Option LFunc) : Nat → (Nat → Bx Kf) × Kr
  | 0 => (fun _ => .mk fun _ _ _ _ _ => none, fun _ _ _ _ _ _ => none)
  | n + 1 =>
    (fun f =>
      match lp f with
      | none => .mk fun _ _ _ _ _ => none
      | some lf =>
        match lf.spec with
        | some g => .mk (specK g)
        | none => (comp (compOp lp (bothK lp n).1 (bothK lp n).2 lf.nt) (bothK lp n).1 lf.nt lf.body).then (enterK lf),
     roundK fun nt c => comp (compOp lp (bothK lp n).1 (bothK lp n).2 nt) (bothK lp n).1 nt c)
def fnK (lp : Nat → Option LFunc) (n : Nat) : Nat → Bx Kf := (bothK lp n).1
end
end Go.Hx

/- The plain machine as closures: where it comes to something, the plain machine comes to the same. -/
namespace Go.Hx
variable {lp : Nat → Option LFunc} {nt : Nat}

theorem run_mk {α : Type} (f : α) : (Bx.mk f).run = f := rfl
theorem then_eq {α β : Type} (b : Bx α) (g : α → Bx β) : b.then g = g b.run := by cases b; rfl
theorem pa_then {β : Type} (p : Pa) (g : Pa → Bx β) : p.then g = g p := by cases p <;> rfl
theorem tmp_eq (a : Tr HV) (ds : List Nat) (n : Nat) : (pa n).tmp a = (⟨nt, a, ds⟩ : HAct).tmp n := by
  show Option.rec (motive := fun _ => HV) HV.undef (fun v => v) (a.get n) = (a.get n).getD .undef
  cases a.get n <;> rfl
theorem ev_eq (x : Lo) (a : Tr HV) (ds : List Nat) : (evK x).run a = (⟨nt, a, ds⟩ : HAct).ev x := by
  cases x with
  | t n => exact tmp_eq a ds n
  | c v => rfl
theorem evs_eq (xs : List Lo) (a : Tr HV) (ds : List Nat) : (xs.map fun x => evL x a) = xs.map (⟨nt, a, ds⟩ : HAct).ev := by
  apply List.map_congr_left
  intro x _
  exact ev_eq x a ds

def KoOk (lp : Nat → Option LFunc) (nt : Nat) (G : Ko) (o : LOp) : Prop := ∀ fl a ds h nx (k : Kv) r, G fl a h nx k = some r → ∃ n v σ', opH lp (exec lp n) fl o ⟨nt, a, ds⟩ ⟨h, nx⟩ = some (v, σ') ∧ k v σ'.h σ'.nx = some r
def KosOk (lp : Nat → Option LFunc) (nt : Nat) (G : Nat → Kt → Kt) (os : List LOper) : Prop := ∀ fl (k : Kt) a ds h nx r, G fl k a ds h nx = some r → ∃ n a' σ', runOps lp (exec lp n) fl os ⟨nt, a, ds⟩ ⟨h, nx⟩ = some (a', σ') ∧ a'.nt = nt ∧ k a'.tmps a'.defers σ'.h σ'.nx = some r
def contK (e : HExit) (kn : Kt) (kx : Nat → Kt) (kr : Kt) (a : HAct) (σ : HS) : Option (HV × HS) :=
  match e with
  | .normal => kn a.tmps a.defers σ.h σ.nx
  | .exit i => kx i a.tmps a.defers σ.h σ.nx
  | .ret => kr a.tmps a.defers σ.h σ.nx
def KcOk (lp : Nat → Option LFunc) (nt : Nat) (F : Kc) (c : LCode) : Prop := ∀ fl rd kn kx kr a ds h nx r, F fl rd kn kx kr a ds h nx = some r → ∃ n e a' σ', exec lp n fl rd c ⟨nt, a, ds⟩ ⟨h, nx⟩ = some (e, a', σ') ∧ a'.nt = nt ∧ contK e kn kx kr a' σ' = some r
def KfOk (lp : Nat → Option LFunc) (F : Kf) (f : Nat) : Prop := ∀ fl args h nx (k : Kv) r, F fl args h nx k = some r → ∃ n v σ', callF lp (exec lp n) fl f args ⟨h, nx⟩ = some (v, σ') ∧ k v σ'.h σ'.nx = some r

def KrOk (lp : Nat → Option LFunc) (ro : Kr) : Prop := ∀ fl l args h nx (k : Kv) r, ro fl l args h nx k = some r → ∃ n v σ', roundH (exec lp n) fl l args ⟨h, nx⟩ = some (v, σ') ∧ k v σ'.h σ'.nx = some r
theorem slow_ok (o : LOp) : KoOk lp nt (slowK lp nt o) o := by
  intro fl a ds h nx k r hr
  unfold slowK at hr
  rw [op_congr (a := ⟨nt, a, []⟩) (b := ⟨nt, a, ds⟩) ⟨h, nx⟩ (fun _ _ => rfl)] at hr
  split at hr
  · rename_i v σ' ho; exact ⟨0, v, σ', ho, hr⟩
  · cases hr
theorem call_ok {fn : Nat → Bx Kf} {ro : Kr} (hfn : ∀ f, KfOk lp (fn f).run f) (hro : KrOk lp ro) (f : Lo) (xs : List Lo) : KoOk lp nt (callK fn ro (evK f).run xs) (.call f xs) := by
  intro fl a ds h nx k r hr
  unfold callK at hr
  rw [ev_eq (nt := nt) f a ds, evs_eq (nt := nt) xs a ds] at hr
  split at hr
  · rename_i g first captured hf
    obtain ⟨n, v, σ', h1, h2⟩ := hfn g _ _ _ _ _ _ hr
    refine ⟨n, v, σ', ?_, h2⟩
    show callH lp _ fl _ _ _ = _
    unfold callH
    rw [hf]
    exact h1
  · rename_i l hf
    obtain ⟨n, v, σ', h1, h2⟩ := hro _ _ _ _ _ _ _ hr
    refine ⟨n, v, σ', ?_, h2⟩
    show callH lp _ fl _ _ _ = _
    unfold callH
    rw [hf]
    exact h1
  · cases hr
theorem nth_eq : ∀ (i : Nat) (l : List HV), nthK i l = l[i]?
  | 0, [] => rfl
  | 0, v :: l => rfl
  | i + 1, [] => rfl
  | i + 1, v :: l => (nth_eq i l).trans (by simp)
theorem set_eq (v : HV) : ∀ (i : Nat) (l : List HV), i < l.length → overwrite l i [v] = some (setR i v l)
  | _, [], h => by simp at h
  | 0, x :: l, _ => by cases l <;> rfl
  | i + 1, x :: l, h => by
    unfold overwrite
    rw [set_eq v i l (by simpa using h)]
    rfl
theorem op_ok {fn : Nat → Bx Kf} {ro : Kr} (hfn : ∀ f, KfOk lp (fn f).run f) (hro : KrOk lp ro) (o : LOp) : KoOk lp nt (compOp lp fn ro nt o).run o := by
  have slow := slow_ok (lp := lp) (nt := nt) o
  unfold compOp
  split
  case h_1 x =>
    rw [then_eq, run_mk]
    intro fl a ds h nx k r hr
    dsimp only at hr
    rw [ev_eq (nt := nt) x a ds] at hr
    exact ⟨0, _, ⟨h, nx⟩, rfl, hr⟩
  case h_2 op x y =>
    rw [then_eq, then_eq, run_mk]
    intro fl a ds h nx k r hr
    dsimp only at hr
    rw [ev_eq (nt := nt) x a ds, ev_eq (nt := nt) y a ds] at hr
    unfold binK at hr
    split at hr
    · rename_i k1 m k2 n e1 e2
      cases hk : sameK k1 k2 with
      | false => rw [hk] at hr; cases hr
      | true =>
        rw [hk] at hr
        simp only [cond_true] at hr
        split at hr
        · rename_i v e3
          refine ⟨0, v, ⟨h, nx⟩, ?_, hr⟩
          show keep _ (binH op _ _) = _
          rw [e1, e2]
          unfold binH
          dsimp only
          cases hsh : isShift op with
          | true => rw [hsh] at e3; simp only [cond_true] at e3 ⊢; rw [e3]; rfl
          | false => rw [hsh] at e3; simp only [cond_false] at e3 ⊢; rw [hk, e3]; rfl
        · cases hr
    · cases hr
  case h_3 off x =>
    rw [then_eq, run_mk]
    intro fl a ds h nx k r hr
    dsimp only at hr
    rw [ev_eq (nt := nt) x a ds] at hr
    unfold addrK at hr
    split at hr
    · rename_i b o e1
      refine ⟨0, _, ⟨h, nx⟩, ?_, hr⟩
      show oFieldAddr off x _ _ = _
      unfold oFieldAddr
      rw [e1]
    · cases hr
  case h_4 len size x i =>
    rw [then_eq, then_eq, run_mk]
    intro fl a ds h nx k r hr
    dsimp only at hr
    rw [ev_eq (nt := nt) x a ds, ev_eq (nt := nt) i a ds] at hr
    unfold idxK at hr
    split at hr
    · rename_i b o kk j e1 e2
      cases hb : Nat.blt j len with
      | false => rw [hb] at hr; cases hr
      | true =>
        rw [hb] at hr
        refine ⟨0, _, ⟨h, nx⟩, ?_, hr⟩
        show oIndexAddrA len size x i _ _ = _
        unfold oIndexAddrA
        rw [e1, e2]
        simp only [natOf, stepTo, hb, cond_true]
    · cases hr
  case h_5 x =>
    rw [then_eq, run_mk]
    intro fl a ds h nx k r hr
    dsimp only at hr
    rw [ev_eq (nt := nt) x a ds] at hr
    unfold nilK at hr
    split at hr
    · rename_i p e1
      refine ⟨0, _, ⟨h, nx⟩, ?_, hr⟩
      show oNilCheck x _ _ = _
      unfold oNilCheck
      rw [e1]
    · rename_i f first captured e1
      refine ⟨0, _, ⟨h, nx⟩, ?_, hr⟩
      show oNilCheck x _ _ = _
      unfold oNilCheck
      rw [e1]
    · cases hr
  case h_6 x =>
    rw [then_eq, run_mk]
    intro fl a ds h nx k r hr
    dsimp only at hr
    rw [ev_eq (nt := nt) x a ds] at hr
    unfold loadK at hr
    split at hr
    · rename_i b o e1
      split at hr
      · rename_i cs bk e2
        rw [nth_eq] at hr
        split at hr
        · rename_i v e3
          refine ⟨0, v, ⟨h, nx⟩, ?_, hr⟩
          show oLoad false 1 x _ _ = _
          unfold oLoad
          rw [e1]
          have hc : (⟨h, nx⟩ : HS).cells b = some cs := by unfold HS.cells; rw [e2]
          have hr2 : (⟨h, nx⟩ : HS).read (b, o) 1 = some [v] := by
            unfold HS.read
            simp only [hc, Option.bind_eq_bind, Option.bind_some]
            have hlt : o < cs.length := by
              rcases Nat.lt_or_ge o cs.length with h | h
              · exact h
              · rw [List.getElem?_eq_none h] at e3; cases e3
            rw [List.drop_eq_getElem_cons hlt]
            rw [List.getElem?_eq_getElem hlt] at e3
            cases e3
            simp [takeN]
          simp only [hr2, whole, keep]
        · cases hr
      · cases hr
    · cases hr
  case h_7 x y =>
    rw [then_eq, then_eq, run_mk]
    intro fl a ds h nx k r hr
    dsimp only at hr
    rw [ev_eq (nt := nt) x a ds, ev_eq (nt := nt) y a ds] at hr
    revert hr
    cases h1 : ((⟨nt, a, ds⟩ : HAct).ev y).one with
    | false => exact fun hr => slow fl a ds h nx k r hr
    | true =>
    intro hr
    simp only [cond_true] at hr
    unfold storeK at hr
    split at hr
    · rename_i b o e1
      split at hr
      · rename_i cs bk e2
        revert hr
        cases hc : (Nat.ble fl b && ((⟨nt, a, ds⟩ : HAct).ev y).one && wrOk bk) with
        | false => intro hr; cases hr
        | true =>
          intro hr
          simp only [cond_true] at hr
          simp only [Bool.and_eq_true] at hc
          obtain ⟨⟨c1, c2⟩, c3⟩ := hc
          rw [nth_eq] at hr
          split at hr
          · rename_i u e3
            have hlt : o < cs.length := by
              rcases Nat.lt_or_ge o cs.length with h | h
              · exact h
              · rw [List.getElem?_eq_none h] at e3; cases e3
            refine ⟨0, .undef, ⟨h.set b (some (.cells (setR o ((⟨nt, a, ds⟩ : HAct).ev y) cs) bk)), nx⟩, ?_, hr⟩
            have hcells : ((⟨nt, a, ds⟩ : HAct).ev y).cells = [(⟨nt, a, ds⟩ : HAct).ev y] := by
              generalize (⟨nt, a, ds⟩ : HAct).ev y = v at c2
              cases v <;> first | rfl | cases c2
            show oStore fl 1 x y _ _ = _
            unfold oStore
            rw [e1, hcells]
            have hw : (⟨h, nx⟩ : HS).write fl (b, o) [(⟨nt, a, ds⟩ : HAct).ev y] = some ⟨h.set b (some (.cells (setR o ((⟨nt, a, ds⟩ : HAct).ev y) cs) bk)), nx⟩ := by
              unfold HS.write
              simp only [e2]
              cases bk with
              | ro => cases c3
              | exact => simp only [c1, List.all_cons, c2, List.all_nil, Bool.and_true, cond_true, set_eq _ _ _ hlt, Option.map_some]; rfl
              | opn z => simp only [c1, List.all_cons, c2, List.all_nil, Bool.and_true, cond_true, set_eq _ _ _ hlt, Option.map_some]; rfl
            simp only [hw]
            rfl
          · cases hr
      · cases hr
    · cases hr
  case h_8 f xs =>
    rw [then_eq, run_mk]
    exact call_ok hfn hro f xs
  case h_9 => exact slow
theorem guard_k {G : Bx Ko} {o : LOper} (h : KoOk lp nt G.run o.op) : ∀ fl a ds hp nx (k : Kv) r, (guardK o.g G).run fl a hp nx k = some r →
    ∃ n v σ', (bif wantedH o.g ⟨nt, a, ds⟩ then opH lp (exec lp n) fl o.op ⟨nt, a, ds⟩ ⟨hp, nx⟩ else some (.undef, ⟨hp, nx⟩)) = some (v, σ') ∧ k v σ'.h σ'.nx = some r := by
  intro fl a ds hp nx k r hr
  unfold guardK at hr
  split at hr
  · rename_i hg
    obtain ⟨n, v, σ', h1, h2⟩ := h fl a ds hp nx k r hr
    refine ⟨n, v, σ', ?_, h2⟩
    rw [hg]
    exact h1
  · rename_i t want hg
    rw [then_eq, then_eq, run_mk] at hr
    rw [ev_eq (nt := nt) (.t t) a ds] at hr
    have hw : wantedH o.g ⟨nt, a, ds⟩ = isB want ((⟨nt, a, ds⟩ : HAct).ev (.t t)) := by
      rw [hg]
      unfold wantedH isB
      dsimp only [HAct.ev]
      generalize (⟨nt, a, ds⟩ : HAct).tmp t = x
      cases x <;> rfl
    rw [hw]
    cases hb : isB want ((⟨nt, a, ds⟩ : HAct).ev (.t t)) with
    | true =>
      rw [hb] at hr
      exact h fl a ds hp nx k r hr
    | false =>
      rw [hb] at hr
      exact ⟨0, .undef, ⟨hp, nx⟩, rfl, hr⟩
theorem put_k (dst : Option Nat) (a : Tr HV) (ds : List Nat) (v : HV) : (⟨nt, a, ds⟩ : HAct).put dst v = ⟨nt, (putK nt dst).run a v, ds⟩ := by
  unfold HAct.put putK
  cases dst with
  | none => rfl
  | some d =>
    dsimp only
    cases Nat.blt d nt with
    | false => rfl
    | true => rw [cond_true, cond_true, pa_then]; rfl
theorem step_k {G : Bx Ko} {o : LOper} (h : KoOk lp nt G.run o.op) : ∀ fl a ds hp nx (k : Kv) r, (guardK o.g G).run fl a hp nx k = some r →
    ∃ n v σ', stepOp lp (exec lp n) fl o ⟨nt, a, ds⟩ ⟨hp, nx⟩ = some (⟨nt, (putK nt o.dst).run a v, ds⟩, σ') ∧ k v σ'.h σ'.nx = some r := by
  intro fl a ds hp nx k r hr
  obtain ⟨n, v, σ', h1, h2⟩ := guard_k h fl a ds hp nx k r hr
  refine ⟨n, v, σ', ?_, h2⟩
  unfold stepOp
  cases hw : wantedH o.g ⟨nt, a, ds⟩ with
  | true => rw [hw] at h1; simp only [cond_true] at h1 ⊢; rw [h1]; simp only [put_k]
  | false =>
    rw [hw] at h1
    cases h1
    simp only [cond_false, put_k]
theorem ops_k {op : LOp → Bx Ko} (hop : ∀ o, KoOk lp nt (op o).run o) : ∀ os, KosOk lp nt (compOps op nt os).run os
  | [] => fun fl k a ds h nx r hr => ⟨0, _, _, rfl, rfl, hr⟩
  | o :: os => by
    intro fl k a ds h nx r hr
    unfold compOps at hr
    rw [then_eq, then_eq, then_eq, run_mk] at hr
    obtain ⟨n, v, σ1, h1, h2⟩ := step_k (hop o.op) fl a ds h nx _ r hr
    obtain ⟨m, a', σ', h3, h4, h5⟩ := ops_k hop os fl k _ ds _ _ r h2
    refine ⟨max n m, a', σ', ?_, h4, h5⟩
    unfold runOps
    rw [stepOp_mon (exec_mon (Nat.le_max_left n m)) h1]
    exact runOps_mon (exec_mon (Nat.le_max_right n m)) h3
theorem draw_k {op : LOp → Bx Ko} (hop : ∀ o, KoOk lp nt (op o).run o) {s : Nat} : ∀ os fl n0 i h0 done (k : Kt) a ds nx r, fl ≤ n0 → n0 ≤ nx → (drawK op nt s os).run fl n0 i h0 done k a ds nx = some r →
    ∃ n a' σ', drawOps lp (exec lp n) fl s n0 h0 os i done ⟨nt, a, ds⟩ nx = some (a', σ') ∧ a'.nt = nt ∧ k a'.tmps a'.defers σ'.h σ'.nx = some r
  | [], fl, n0, i, h0, done, k, a, ds, nx, r, _, _, hr => ⟨0, _, _, rfl, rfl, hr⟩
  | o :: os, fl, n0, i, h0, done, k, a, ds, nx, r, hfl, hn0, hr => by
    unfold drawK at hr
    rw [then_eq, then_eq, then_eq, then_eq, run_mk] at hr
    cases hc : Nat.blt i s with
    | false =>
      rw [hc] at hr
      obtain ⟨n, a', σ', h1, h2, h3⟩ := ops_k hop (o :: os) fl k a ds _ nx r hr
      refine ⟨n, a', σ', ?_, h2, h3⟩
      unfold drawOps
      rw [hc]
      exact h1
    | true =>
      rw [hc] at hr
      simp only [cond_true] at hr
      cases hw : o.anc.contains i with
      | true =>
        rw [hw] at hr
        simp only [cond_true] at hr
        obtain ⟨n, v, σ1, h1, h2⟩ := step_k (hop o.op) n0 a ds _ nx _ r hr
        revert h2
        cases hb : Nat.ble nx σ1.nx with
        | false => intro h2; cases h2
        | true =>
          intro h2
          simp only [cond_true] at h2
          have hle := Nat.le_of_ble_eq_true hb
          obtain ⟨m, a', σ', h3, h4, h5⟩ := draw_k hop os fl n0 (Nat.succ i) h0 _ k _ ds _ r hfl (Nat.le_trans hn0 hle) h2
          refine ⟨max n m, a', σ', ?_, h4, h5⟩
          have hmx : Nat.max fl n0 = n0 := Nat.max_eq_right hfl
          unfold drawOps
          rw [hc, hw]
          simp only [cond_true, hmx]
          rw [stepOp_mon (exec_mon (Nat.le_max_left n m)) h1]
          simp only [hb, Bool.not_true, cond_false]
          exact drawOps_mon (exec_mon (Nat.le_max_right n m)) h3
      | false =>
        rw [hw] at hr
        simp only [cond_false] at hr
        obtain ⟨n, v, σ1, h1, h2⟩ := step_k (hop o.op) nx a ds _ nx _ r hr
        revert h2
        cases hb : Nat.ble nx σ1.nx with
        | false => intro h2; cases h2
        | true =>
          intro h2
          simp only [cond_true] at h2
          have hle := Nat.le_of_ble_eq_true hb
          obtain ⟨m, a', σ', h3, h4, h5⟩ := draw_k hop os fl n0 (Nat.succ i) h0 _ k _ ds _ r hfl (Nat.le_trans hn0 hle) h2
          refine ⟨max n m, a', σ', ?_, h4, h5⟩
          have hmx : Nat.max fl nx = nx := Nat.max_eq_right (by omega)
          unfold drawOps
          rw [hc, hw]
          simp only [cond_true, cond_false, hmx]
          rw [stepOp_mon (exec_mon (Nat.le_max_left n m)) h1]
          simp only [hb, Bool.not_true, cond_false]
          exact drawOps_mon (exec_mon (Nat.le_max_right n m)) h3
theorem seq_run {n : Nat} {fl : Nat} {rd : Option Nat} {x y : LCode} {a a1 : HAct} {σ σ1 : HS} {q : HExit × HAct × HS} {m : Nat} (h1 : exec lp n fl rd x a σ = some (.normal, a1, σ1)) (h2 : exec lp m fl rd y a1 σ1 = some q) : xSeq (exec lp (max n m)) fl rd x y a σ = some q := by
  unfold xSeq
  rw [exec_mon (Nat.le_max_left n m) _ _ _ _ _ _ h1]
  exact exec_mon (Nat.le_max_right n m) _ _ _ _ _ _ h2
theorem loop_k {b : Option HBlk} {k : LState → HExit → Nat → Tr HV → List Nat → LCode → LCode → Nat → Option (HV × HS)} {r : HV × HS} (hr : loopK b k = some r) : ∃ q : HLoop, b = some (.loop q) ∧ k q.state q.pending q.nt q.tmps q.params q.assign q.body q.marks = some r := by
  unfold loopK at hr
  split at hr
  · exact ⟨_, rfl, hr⟩
  · cases hr
theorem marks_k {rd : Option Nat} {h : Tr HBlk} {nx : Nat} {k : Nat → List Nat → Tr HBlk → Nat → Option (HV × HS)} {r : HV × HS} (hr : marksK rd h nx k = some r) : ∃ mk ms h1 n1, marksOf rd ⟨h, nx⟩ = some (mk, ms, ⟨h1, n1⟩) ∧ k mk ms h1 n1 = some r := by
  unfold marksK at hr
  cases rd with
  | none => exact ⟨_, _, _, _, rfl, hr⟩
  | some l =>
    obtain ⟨q, hq, hk⟩ := loop_k hr
    refine ⟨_, _, _, _, ?_, hk⟩
    unfold marksOf
    simp only [hq]
theorem jump_k (e : HExit) (kn : Kt) (kx : Nat → Kt) (kr : Kt) (a : HAct) (σ : HS) : jumpK e kn kx kr a.tmps a.defers σ.h σ.nx = contK e kn kx kr a σ := by cases e <;> rfl
theorem range_k {fn : Nat → Bx Kf} (hfn : ∀ f, KfOk lp (fn f).run f) (f : Lo) (ps : List Nat) (assign body : LCode) : KcOk lp nt (rangeK fn nt (evK f).run ps assign body) (.rangeFunc f ps assign body) := by
  intro fl rd kn kx kr a ds h nx r hr
  unfold rangeK at hr
  rw [ev_eq (nt := nt) f a ds] at hr
  split at hr
  · rename_i g first captured hf
    obtain ⟨mk, ms, h1, n1, hm, hr⟩ := marks_k hr
    obtain ⟨n, v, σ3, hc, hr⟩ := hfn g _ _ _ _ _ _ hr
    obtain ⟨q, hq, hr⟩ := loop_k hr
    revert hr
    cases hb : (notBusy q.state && Nat.ble fl n1) with
    | false => intro hr; cases hr
    | true =>
      intro hr
      simp only [cond_true] at hr
      simp only [Bool.and_eq_true] at hb
      refine ⟨n + 1, q.pending, ⟨nt, a, ms ++ ds⟩, σ3.upd n1 (some (.loop { q with state := .exhausted })), ?_, rfl, ?_⟩
      · show xRange lp (exec lp n) fl rd f ps assign body _ _ = _
        unfold xRange
        rw [hf, hm]
        dsimp only
        have hc' : callF lp (exec lp n) fl g (first ++ [.yield n1] ++ captured) ((⟨h1, n1⟩ : HS).new (.loop ⟨.ready, .normal, nt, a, ps, assign, body, mk⟩)) = some (v, σ3) := hc
        rw [hc']
        dsimp only
        unfold endLoopH
        rw [hq]
        dsimp only
        have hnb := hb.1
        cases hst : q.state <;> rw [hst] at hnb <;> first | (exact absurd hnb (by decide)) | (dsimp only; rw [hb.2]; rfl)
      · rw [← jump_k]; exact hr
  · cases hr
theorem end_k {l : Nat} {e : HExit} {k : Kv} {h : Tr HBlk} {nx : Nat} {r : HV × HS} (hr : endK l e k h nx = some r) : ∃ v σ', endRoundH l e ⟨h, nx⟩ = some (v, σ') ∧ k v σ'.h σ'.nx = some r := by
  unfold endK at hr
  obtain ⟨q, hq, hr⟩ := loop_k hr
  cases e with
  | normal =>
    refine ⟨.bool true, (⟨h, nx⟩ : HS).upd l (some (.loop { q with state := .ready, pending := .normal })), ?_, hr⟩
    unfold endRoundH
    simp only [hq]
  | exit id =>
    refine ⟨.bool false, (⟨h, nx⟩ : HS).upd l (some (.loop { q with state := .done, pending := .exit id })), ?_, hr⟩
    unfold endRoundH
    simp only [hq]
  | ret =>
    refine ⟨.bool false, (⟨h, nx⟩ : HS).upd l (some (.loop { q with state := .done, pending := .ret })), ?_, hr⟩
    unfold endRoundH
    simp only [hq]
theorem round_k {co : Nat → LCode → Bx Kc} (hco : ∀ nt c, KcOk lp nt (co nt c).run c) : KrOk lp (roundK co) := by
  intro fl l args h nx k r hr
  unfold roundK at hr
  obtain ⟨q, hq, hr⟩ := loop_k hr
  split at hr
  · rename_i tm1 hz
    obtain ⟨n, e, a1, σ1, h1, h2, h3⟩ := hco _ _ _ _ _ _ _ _ _ _ _ _ hr
    cases e with
    | normal =>
      dsimp only [contK] at h3
      obtain ⟨q1, hq1, h3⟩ := loop_k h3
      revert h3
      cases hb : (isReady q1.state && Nat.ble fl l) with
      | false => intro h3; cases h3
      | true =>
        intro h3
        simp only [cond_true] at h3
        simp only [Bool.and_eq_true] at hb
        obtain ⟨m, e, a2, σ2, h4, h5, h6⟩ := hco _ _ _ _ _ _ _ _ _ _ _ _ h3
        have ea : (⟨q.nt, a1.tmps, a1.defers⟩ : HAct) = a1 := by rw [← h2]
        rw [ea] at h4
        have hbegin : beginRoundH fl l σ1 = some ⟨σ1.h.set l (some (.loop { q1 with state := .busy })), σ1.nx⟩ := by
          unfold beginRoundH
          rw [hq1]
          dsimp only
          have hrd := hb.1
          cases hst : q1.state <;> rw [hst] at hrd <;> first | (exact absurd hrd (by decide)) | (dsimp only; rw [hb.2]; rfl)
        have hend : ∃ v σ', endRoundH l e σ2 = some (v, σ') ∧ k v σ'.h σ'.nx = some r := by
          cases e <;> exact end_k h6
        obtain ⟨v, σ', g1, g2⟩ := hend
        refine ⟨max n m, v, σ', ?_, g2⟩
        unfold roundH
        rw [hq]
        dsimp only
        rw [hz]
        dsimp only
        rw [exec_mon (Nat.le_max_left n m) _ _ _ _ _ _ h1]
        dsimp only
        rw [hbegin]
        dsimp only
        rw [exec_mon (Nat.le_max_right n m) _ _ _ _ _ _ h4]
        exact g1
    | exit id => cases h3
    | ret => cases h3
  · cases hr
theorem comp_k {op : LOp → Bx Ko} {fn : Nat → Bx Kf} (hop : ∀ o, KoOk lp nt (op o).run o) (hfn : ∀ f, KfOk lp (fn f).run f) : ∀ c, KcOk lp nt (comp op fn nt c).run c
  | .skip => fun fl rd kn kx kr a ds h nx r hr => ⟨1, .normal, _, _, rfl, rfl, hr⟩
  | .seq x y => by
    intro fl rd kn kx kr a ds h nx r hr
    unfold comp at hr
    rw [then_eq, then_eq, run_mk] at hr
    obtain ⟨n, e, a1, σ1, h1, h2, h3⟩ := comp_k hop hfn x fl rd _ kx kr a ds h nx r hr
    cases e with
    | normal =>
      dsimp only [contK] at h3
      obtain ⟨m, e, a', σ', h4, h5, h6⟩ := comp_k hop hfn y fl rd kn kx kr a1.tmps a1.defers σ1.h σ1.nx r h3
      have ea : (⟨nt, a1.tmps, a1.defers⟩ : HAct) = a1 := by rw [← h2]
      rw [ea] at h4
      exact ⟨max n m + 1, e, a', σ', seq_run h1 h4, h5, h6⟩
    | exit id => exact ⟨n + 1, .exit id, a1, σ1, by show xSeq _ _ _ _ _ _ _ = _; unfold xSeq; rw [h1], h2, h3⟩
    | ret => exact ⟨n + 1, .ret, a1, σ1, by show xSeq _ _ _ _ _ _ _ = _; unfold xSeq; rw [h1], h2, h3⟩
  | .cond c x y => by
    intro fl rd kn kx kr a ds h nx r hr
    unfold comp at hr
    rw [then_eq, then_eq, then_eq, run_mk] at hr
    rw [ev_eq (nt := nt) c a ds] at hr
    split at hr
    · rename_i b hb
      cases b with
      | true =>
        obtain ⟨n, e, a', σ', h1, h2, h3⟩ := comp_k hop hfn x fl rd kn kx kr a ds h nx r hr
        refine ⟨n + 1, e, a', σ', ?_, h2, h3⟩
        show xCond _ _ _ _ _ _ _ _ = _
        unfold xCond
        rw [hb]; exact h1
      | false =>
        obtain ⟨n, e, a', σ', h1, h2, h3⟩ := comp_k hop hfn y fl rd kn kx kr a ds h nx r hr
        refine ⟨n + 1, e, a', σ', ?_, h2, h3⟩
        show xCond _ _ _ _ _ _ _ _ = _
        unfold xCond
        rw [hb]; exact h1
    · cases hr
  | .block id x => by
    intro fl rd kn kx kr a ds h nx r hr
    unfold comp at hr
    rw [then_eq, run_mk] at hr
    obtain ⟨n, e, a', σ', h1, h2, h3⟩ := comp_k hop hfn x fl rd kn _ kr a ds h nx r hr
    cases e with
    | normal => exact ⟨n + 1, .normal, a', σ', by show xBlock _ _ _ _ _ _ _ = _; unfold xBlock; rw [h1], h2, h3⟩
    | ret => exact ⟨n + 1, .ret, a', σ', by show xBlock _ _ _ _ _ _ _ = _; unfold xBlock; rw [h1], h2, h3⟩
    | exit i =>
      dsimp only [contK] at h3
      refine ⟨n + 1, bif Nat.beq i id then .normal else .exit i, a', σ', by show xBlock _ _ _ _ _ _ _ = _; unfold xBlock; rw [h1], h2, ?_⟩
      revert h3
      cases Nat.beq i id <;> exact fun h => h
  | .loop x => by
    intro fl rd kn kx kr a ds h nx r hr
    unfold comp at hr
    rw [then_eq, run_mk] at hr
    have ihx := comp_k hop hfn x
    revert hr
    generalize 1000000 = m
    induction m generalizing a ds h nx with
    | zero => intro hr; cases hr
    | succ m ih =>
      intro hr
      obtain ⟨n, e, a1, σ1, h1, h2, h3⟩ := ihx fl rd _ kx kr a ds h nx r hr
      cases e with
      | normal =>
        dsimp only [contK] at h3
        obtain ⟨k, e, a', σ', h4, h5, h6⟩ := ih a1.tmps a1.defers σ1.h σ1.nx h3
        have ea : (⟨nt, a1.tmps, a1.defers⟩ : HAct) = a1 := by rw [← h2]
        rw [ea] at h4
        exact ⟨max n k + 1, e, a', σ', seq_run h1 h4, h5, h6⟩
      | exit id => exact ⟨n + 1, .exit id, a1, σ1, by show xSeq _ _ _ _ _ _ _ = _; unfold xSeq; rw [h1], h2, h3⟩
      | ret => exact ⟨n + 1, .ret, a1, σ1, by show xSeq _ _ _ _ _ _ _ = _; unfold xSeq; rw [h1], h2, h3⟩
  | .scope x => by
    intro fl rd kn kx kr a ds h nx r hr
    obtain ⟨n, e, a', σ', h1, h2, h3⟩ := comp_k hop hfn x fl rd kn kx kr a ds h nx r hr
    exact ⟨n + 1, e, a', σ', h1, h2, h3⟩
  | .exit id => fun fl rd kn kx kr a ds h nx r hr => ⟨1, .exit id, _, _, rfl, rfl, hr⟩
  | .ret => fun fl rd kn kx kr a ds h nx r hr => ⟨1, .ret, _, _, rfl, rfl, hr⟩
  | .reg ops => by
    intro fl rd kn kx kr a ds h nx r hr
    unfold comp at hr
    rw [then_eq, run_mk] at hr
    obtain ⟨n, a', σ', h1, h2, h3⟩ := ops_k hop ops fl kn a ds h nx r hr
    refine ⟨n + 1, .normal, a', σ', ?_, h2, h3⟩
    show xNormal _ = _
    rw [h1]; rfl
  | .draw s ops => by
    intro fl rd kn kx kr a ds h nx r hr
    unfold comp at hr
    rw [then_eq, run_mk] at hr
    cases hb : Nat.ble fl nx with
    | false => rw [hb] at hr; cases hr
    | true =>
      rw [hb] at hr
      obtain ⟨n, a', σ', h1, h2, h3⟩ := draw_k hop ops fl nx 0 h [] kn a ds nx r (Nat.le_of_ble_eq_true hb) (Nat.le_refl _) hr
      refine ⟨n + 1, .normal, a', σ', ?_, h2, h3⟩
      show xDraw lp (exec lp n) fl s ops _ _ = _
      unfold xDraw
      rw [hb]
      simp only [cond_true, h1]
      rfl
  | .rangeFunc f ps assign body => by
    unfold comp
    rw [then_eq, run_mk]
    exact range_k hfn f ps assign body
  | .bad => fun fl rd kn kx kr a ds h nx r hr => by cases hr
theorem leave_k {fl : Nat} {res : List LRes} {k : Kv} {a : HAct} {σ : HS} {r : HV × HS} (hn : a.nt = nt) (hr : leaveK fl nt res k a.tmps a.defers σ.h σ.nx = some r) : ∃ v σ', leaveH fl a res σ = some (v, σ') ∧ k v σ'.h σ'.nx = some r := by
  unfold leaveK at hr
  have ea : (⟨nt, a.tmps, a.defers⟩ : HAct) = a := by rw [← hn]
  rw [ea] at hr
  split at hr
  · rename_i v σ' h1; exact ⟨v, σ', h1, hr⟩
  · cases hr
theorem both_k : ∀ n, (∀ f, KfOk lp ((bothK lp n).1 f).run f) ∧ KrOk lp (bothK lp n).2
  | 0 => ⟨fun f fl args h nx k r hr => (by cases hr), fun fl l args h nx k r hr => (by cases hr)⟩
  | n + 1 => by
    obtain ⟨hfn, hro⟩ := both_k n
    have hco : ∀ nt c, KcOk lp nt (comp (compOp lp (bothK lp n).1 (bothK lp n).2 nt) (bothK lp n).1 nt c).run c := fun nt c => comp_k (fun o => op_ok hfn hro o) hfn c
    refine ⟨fun f fl args h nx k r hr => ?_, round_k hco⟩
    unfold bothK at hr
    dsimp only at hr
    split at hr
    · cases hr
    · rename_i lf hlf
      split at hr
      · rename_i g hg
        rw [run_mk] at hr
        unfold specK at hr
        split at hr
        · rename_i v σ h1
          cases hb : Nat.ble nx σ.nx with
          | false => rw [hb] at hr; cases hr
          | true =>
            rw [hb] at hr
            refine ⟨0, v, σ, ?_, hr⟩
            unfold callF
            rw [hlf]
            simp only [hg]
            unfold specH
            rw [h1]
            simp only [hb, cond_true]
        · cases hr
      rename_i hsp
      rw [then_eq] at hr
      have run : ∀ (fl0 : Nat) (k0 : Kv), (bif Nat.ble args.length lf.nt then (comp (compOp lp (bothK lp n).1 (bothK lp n).2 lf.nt) (bothK lp n).1 lf.nt lf.body).run fl0 none (leaveK fl0 lf.nt lf.res k0) (fun _ _ _ _ _ => none) (leaveK fl0 lf.nt lf.res k0) (putAll .e 0 args) [] h nx else none) = some r →
          ∃ m v σ', callB (exec lp m) fl0 lf args ⟨h, nx⟩ = some (v, σ') ∧ k0 v σ'.h σ'.nx = some r := by
        intro fl0 k0 hr
        cases hb : Nat.ble args.length lf.nt with
        | false => rw [hb] at hr; cases hr
        | true =>
          rw [hb] at hr
          simp only [cond_true] at hr
          have hmx : Nat.max lf.nt args.length = lf.nt := Nat.max_eq_left (Nat.le_of_ble_eq_true hb)
          obtain ⟨m, e, a', σ', h1, h2, h3⟩ := hco lf.nt lf.body fl0 none _ _ _ _ _ _ _ r hr
          cases e with
          | normal =>
            obtain ⟨v, σ'', g1, g2⟩ := leave_k h2 h3
            refine ⟨m, v, σ'', ?_, g2⟩
            unfold callB
            rw [hmx, h1]
            exact g1
          | exit id => cases h3
          | ret =>
            obtain ⟨v, σ'', g1, g2⟩ := leave_k h2 h3
            refine ⟨m, v, σ'', ?_, g2⟩
            unfold callB
            rw [hmx, h1]
            exact g1
      unfold enterK at hr
      cases hi : lf.imp with
      | true =>
        rw [hi] at hr
        simp only [cond_true] at hr
        rw [run_mk] at hr
        obtain ⟨m, v, σ', g1, g2⟩ := run fl k hr
        refine ⟨m, v, σ', ?_, g2⟩
        unfold callF
        rw [hlf]
        simp only [hsp, hi, cond_true]
        exact g1
      | false =>
        rw [hi] at hr
        simp only [cond_false] at hr
        rw [run_mk] at hr
        obtain ⟨m, v, σ', g1, g2⟩ := run nx (gcK h nx k) hr
        refine ⟨m, v, gcH ⟨h, nx⟩ σ' v, ?_, g2⟩
        unfold callF
        rw [hlf]
        simp only [hsp, hi, cond_false, g1]
theorem fn_k (n f : Nat) : KfOk lp ((fnK lp n f).run) f := (both_k n).1 f
/-- **What the closures reckon, the plain machine does.** -/
theorem c_of_k {n f : Nat} {args : List HV} {h : Tr HBlk} {nx : Nat} {Q : HV → HS → Prop} {k : Kv} {r : HV × HS} (hr : (fnK lp n f).run 0 args h nx k = some r) (hk : ∀ v h nx, k v h nx = some r → Q v ⟨h, nx⟩) : C lp 0 f args ⟨h, nx⟩ Q := by
  obtain ⟨m, v, σ', h1, h2⟩ := fn_k n f 0 args h nx k r hr
  exact ⟨m, v, σ', h1, hk _ _ _ h2⟩
end Go.Hx

/- The closed run of 'awake': the chapter's first examples, which each law of the layer asks for at its end. -/
namespace Go.Hx
theorem mixed : (Go.Proofs.Try.prog).follows .mixedOrders = true := by kernel_rfl
noncomputable def endK0 : Kv := fun v _ _ => some (v, ⟨.e, 0⟩)
theorem closed_of {lp : Nat → Option LFunc} {n f : Nat} (hr : (fnK lp n f).run 0 [] .e 0 endK0 = some (.bool true, ⟨.e, 0⟩)) : C lp 0 f [] ⟨.e, 0⟩ (fun v _ => v = .bool true) :=
  c_of_k hr fun v h nx hk => by unfold endK0 at hk; cases hk; rfl
theorem closed22 : C LP 0 22 [] ⟨.e, 0⟩ (fun v _ => v = .bool true) := closed_of (n := 40) (by kernel_rfl)
end Go.Hx

/- A struct argument with lists in its fields: its cells, one by one, on the plain machine. -/
namespace Go.Hx
open Go.RowKit
variable {P : Program}
end Go.Hx

