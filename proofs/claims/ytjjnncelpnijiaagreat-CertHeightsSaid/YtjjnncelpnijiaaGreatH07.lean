import Derived.Test.YtjjnncelpnijiaaGreatH05
import Derived.Test.YtjjnncelpnijiaaGreatH06
set_option linter.all false
namespace Go.Hx.V
open Go.Hx
set_option maxRecDepth 20000
set_option maxHeartbeats 4000000
variable {fl : Nat} {h0 : Tr HBlk} {n0 : Nat} {F0 : PH}
attribute [local irreducible] W R C thenH inBlockH Tr.get Tr.set lo ck bnd ix iter
theorem ct85 (N : Nat) {a0 : (List (Int × Int))} {r : Bool} (hF : sf85 N a0 = some r) (hd : D h0 n0) (hs : F0.sub h0) {pa0 : Option (Nat × Nat)} {ca0 : Nat} (ra0 : RowF (rP rI rI) 2 F0 pa0 ca0 a0) : C LW fl 85 [(.slice pa0 (a0).length ca0)] ⟨h0, n0⟩ (KS (.bool r) n0 h0) := by
  unfold sf85 at hF
  refine in_cT hd hs lw85 rfl rfl (by rfl) (fun st T hT => ?_)
  have hfl : n0 ≤ n0 := Nat.le_refl n0
  have t0 := hT 0 _ rfl
  dsimp only [L85]
  refine w_seq (w_reg ?_); refine v_move ?_; refine r_nil (th_n ?_); refine w_seq ?_; refine w_seq (w_reg ?_); refine v_move ?_; refine r_nil (th_n ?_); refine w_block ?_; obtain ⟨y57, hy, hF⟩ := bnd_some hF; refine v_loopD (sf85_L1 N a0) (fun x1 T ds2 h nx => ∃ (F2 : PH), ds2 = [] ∧ PH.le F0 F2 ∧ St n0 h0 F0 F2 h nx [] ∧ T.get 0 = some (.slice pa0 (a0).length ca0) ∧ T.get 3 = some (i64 x1)) (fun y e a σ => (∃ u, y = (.inl u) ∧ e = .ret ∧ a.nt = 61 ∧ ∃ (F59 : PH), a.defers = [] ∧ PH.le F0 F59 ∧ St n0 h0 F0 F59 σ.h σ.nx [] ∧ a.tmps.get 2 = some (.bool false)) ∨ (∃ u, y = (.inr u) ∧ e = .exit 0 ∧ a.nt = 61 ∧ ∃ (F61 : PH), a.defers = [] ∧ PH.le F0 F61 ∧ St n0 h0 F0 F61 σ.h σ.nx [] ∧ a.tmps.get 0 = some (.slice pa0 (a0).length ca0))) (fun x1 T ds2 h nx s hp hF => ?_) N _ y57 _ _ _ _ hy ⟨F0, rfl, (PH.le.refl _), st, gA, gA⟩ (fun e a σ hne hq => ?_)
  · obtain ⟨F2, rfl, le2, st, t0, t3⟩ := hp; unfold sf85_L1 at hF; unfold L85w0; refine w_seq ?_; refine w_seq (w_reg ?_); refine v_move ?_; refine v_move ?_; refine v_len ?_; refine v_lss ?_; refine r_nil (th_n ?_); refine v_cond (fun hb62 => ?_) (fun hb62 => ?_)
    · have hF := bif_t hb62 hF; refine w_skip (th_n ?_); refine w_seq ?_; refine w_block ?_; obtain ⟨y86, hA87, hF⟩ := bnd_some hF; refine w_cutD (fun T ds89 h nx => ∃ (F89 : PH), ds89 = [] ∧ PH.le F2 F89 ∧ St n0 h0 F0 F89 h nx [] ∧ T.get 0 = some (.slice pa0 (a0).length ca0) ∧ T.get 3 = some (i64 x1) ∧ T.get 57 = some (.bool y86)) ?_ (fun T ds89 h nx hp => ?_)
      · have hK88 := hF
        have hF := hA87; refine w_drawV (Nat.le_trans hfl st.ext.le) (fun dw => ?_); refine y_pure st.d dw (fun hm vw => v_move pr_nil) ?_; refine y_pure st.d dw (fun hm vw => v_move pr_nil) ?_; obtain ⟨n90, x90, z90, l90, g90, hF⟩ := ix_some hF; obtain ⟨b90, o90, s90, j90, r90, e90, f90, k90, ⟨_, _, rfl, rfl, rfl⟩⟩ := RowF.get ra0 g90; refine y_pure st.d dw (fun hm vw => v_ixp e90 z90 l90 pr_nil) ?_; refine y_pure st.d dw (fun hm vw => v_fa pr_nil) ?_; refine y_pure st.d dw (fun hm vw => v_ld1 (vw.fz st (le2 _ _ f90)) (take_at (j := 0) k90 rfl) pr_nil) ?_; obtain ⟨v91, e92, hF⟩ := bnd_some hF; refine y_flat st.d dw (fun hm vw => u_call (ct25 N e92 vw.d (vw.sub st) ) (fun n' hn' => pf_nil hn')) (fun n93 hn' dw => ?_)
        refine y_pure st.d dw (fun hm vw => v_not pr_nil) ?_; refine y_pure st.d dw (fun hm vw => v_move pr_nil) ?_
        rcases Bool.eq_false_or_eq_true (!v91) with hb94 | hb94
        · have hF := bif_t hb94 hF; refine y_pure st.d dw (fun hm vw => g_skip hb94 pr_nil) ?_; refine y_pure st.d dw (fun hm vw => g_skip hb94 pr_nil) ?_; refine y_pure st.d dw (fun hm vw => g_skip hb94 pr_nil) ?_; refine y_pure st.d dw (fun hm vw => g_skip hb94 pr_nil) ?_; refine y_pure st.d dw (fun hm vw => g_skip hb94 pr_nil) ?_; refine y_pure st.d dw (fun hm vw => g_skip hb94 pr_nil) ?_; refine y_pure st.d dw (fun hm vw => g_skip hb94 pr_nil) ?_; refine y_pure st.d dw (fun hm vw => v_pick hb94 pr_nil) ?_; refine y_pure st.d dw (fun hm vw => v_move pr_nil) ?_; refine y_pure st.d dw (fun hm vw => g_skip rfl pr_nil) ?_; refine y_pure st.d dw (fun hm vw => g_skip rfl pr_nil) ?_; refine y_pure st.d dw (fun hm vw => g_skip rfl pr_nil) ?_
          refine y_pure st.d dw (fun hm vw => g_skipu pr_nil) ?_; refine y_pure st.d dw (fun hm vw => g_skipu pr_nil) ?_; refine y_pure st.d dw (fun hm vw => g_skipu pr_nil) ?_; refine y_pure st.d dw (fun hm vw => g_skipu pr_nil) ?_; refine y_pure st.d dw (fun hm vw => g_skipu pr_nil) ?_; refine y_pure st.d dw (fun hm vw => g_skipu pr_nil) ?_; refine y_pure st.d dw (fun hm vw => g_skipu pr_nil) ?_; refine y_pure st.d dw (fun hm vw => g_skipu pr_nil) ?_; refine y_pure st.d dw (fun hm vw => g_skipu pr_nil) ?_; refine y_pure st.d dw (fun hm vw => g_skipu pr_nil) ?_; refine y_pure st.d dw (fun hm vw => g_skipu pr_nil) ?_; refine y_pure st.d dw (fun hm vw => g_skipu pr_nil) ?_; refine y_pure st.d dw (fun hm vw => g_skipu pr_nil) ?_
          refine y_pure st.d dw (fun hm vw => g_skipu pr_nil) ?_; refine y_pure st.d dw (fun hm vw => g_skipu pr_nil) ?_; refine y_pure st.d dw (fun hm vw => g_skipu pr_nil) ?_; refine y_pure st.d dw (fun hm vw => g_skipu pr_nil) ?_; refine y_pure st.d dw (fun hm vw => g_skipu pr_nil) ?_; refine y_pure st.d dw (fun hm vw => g_skipu pr_nil) ?_; refine y_pure st.d dw (fun hm vw => g_skipu pr_nil) ?_; refine y_pure st.d dw (fun hm vw => g_skipu pr_nil) ?_; refine y_pure st.d dw (fun hm vw => g_skipu pr_nil) ?_; refine y_pure st.d dw (fun hm vw => g_skipu pr_nil) ?_; refine y_pure st.d dw (fun hm vw => g_skipu pr_nil) ?_; refine y_end st.d dw rfl (fun h95 ex vs => ?_)
          have st := st.ext1 ex
          refine g_skipu ?_; refine g_skipu ?_; refine g_skip rfl ?_; refine v_pick rfl ?_; refine r_nil ?_; obtain rfl := inj hF; refine thn ⟨rfl, ?_⟩; dsimp only
          exact ⟨F2, rfl, (PH.le.refl _), st, gA, gA, gA⟩
        · have hF := bif_f hb94 hF; refine y_pure st.d dw (fun hm vw => g_take hb94 (v_move pr_nil)) ?_; refine y_pure st.d dw (fun hm vw => g_take hb94 (v_move pr_nil)) ?_; obtain ⟨n96, x96, z96, l96, g96, hF⟩ := ix_some hF; obtain ⟨b96, o96, s96, j96, r96, e96, f96, k96, ⟨_, _, rfl, rfl, rfl⟩⟩ := RowF.get ra0 g96; refine y_pure st.d dw (fun hm vw => g_take hb94 (v_ixp e96 z96 l96 pr_nil)) ?_; refine y_pure st.d dw (fun hm vw => g_take hb94 (v_fa pr_nil)) ?_; refine y_pure st.d dw (fun hm vw => g_take hb94 (v_ld1 (vw.fz st (le2 _ _ f96)) (take_at (j := 1) k96 rfl) pr_nil)) ?_; obtain ⟨v97, e98, hF⟩ := bnd_some hF; refine y_flat st.d dw (fun hm vw => g_take hb94 (u_call (ct25 N e98 vw.d (vw.sub st) ) (fun n' hn' => pf_nil hn'))) (fun n99 hn' dw => ?_)
          refine y_pure st.d dw (fun hm vw => g_take hb94 (v_not pr_nil)) ?_; refine y_pure st.d dw (fun hm vw => v_pick' hb94 pr_nil) ?_; refine y_pure st.d dw (fun hm vw => v_move pr_nil) ?_
          rcases Bool.eq_false_or_eq_true (!v97) with hb100 | hb100
          · have hF := bif_t hb100 hF; refine y_pure st.d dw (fun hm vw => g_skip hb100 pr_nil) ?_; refine y_pure st.d dw (fun hm vw => g_skip hb100 pr_nil) ?_; refine y_pure st.d dw (fun hm vw => g_skip hb100 pr_nil) ?_; refine y_pure st.d dw (fun hm vw => g_skipu pr_nil) ?_; refine y_pure st.d dw (fun hm vw => g_skipu pr_nil) ?_; refine y_pure st.d dw (fun hm vw => g_skipu pr_nil) ?_; refine y_pure st.d dw (fun hm vw => g_skipu pr_nil) ?_; refine y_pure st.d dw (fun hm vw => g_skipu pr_nil) ?_; refine y_pure st.d dw (fun hm vw => g_skipu pr_nil) ?_; refine y_pure st.d dw (fun hm vw => g_skipu pr_nil) ?_; refine y_pure st.d dw (fun hm vw => g_skipu pr_nil) ?_; refine y_pure st.d dw (fun hm vw => g_skipu pr_nil) ?_
            refine y_pure st.d dw (fun hm vw => g_skipu pr_nil) ?_; refine y_pure st.d dw (fun hm vw => g_skipu pr_nil) ?_; refine y_pure st.d dw (fun hm vw => g_skipu pr_nil) ?_; refine y_pure st.d dw (fun hm vw => g_skipu pr_nil) ?_; refine y_pure st.d dw (fun hm vw => g_skipu pr_nil) ?_; refine y_pure st.d dw (fun hm vw => g_skipu pr_nil) ?_; refine y_pure st.d dw (fun hm vw => g_skipu pr_nil) ?_; refine y_pure st.d dw (fun hm vw => g_skipu pr_nil) ?_; refine y_pure st.d dw (fun hm vw => g_skipu pr_nil) ?_; refine y_pure st.d dw (fun hm vw => g_skipu pr_nil) ?_; refine y_pure st.d dw (fun hm vw => g_skipu pr_nil) ?_; refine y_pure st.d dw (fun hm vw => g_skipu pr_nil) ?_; refine y_pure st.d dw (fun hm vw => g_skipu pr_nil) ?_
            refine y_pure st.d dw (fun hm vw => g_skipu pr_nil) ?_; refine y_pure st.d dw (fun hm vw => g_skipu pr_nil) ?_; refine y_end st.d dw rfl (fun h101 ex vs => ?_)
            have st := st.ext1 ex
            refine g_skipu ?_; refine g_skipu ?_; refine g_skip hb100 ?_; refine v_pick hb100 ?_; refine r_nil ?_; obtain rfl := inj hF; refine thn ⟨rfl, ?_⟩; dsimp only
            exact ⟨F2, rfl, (PH.le.refl _), st, gA, gA, gA⟩
          · have hF := bif_f hb100 hF; refine y_pure st.d dw (fun hm vw => g_take hb100 (v_move pr_nil)) ?_; refine y_pure st.d dw (fun hm vw => g_take hb100 (v_gtr pr_nil)) ?_; refine y_pure st.d dw (fun hm vw => g_take hb100 (v_move pr_nil)) ?_
            rcases Bool.eq_false_or_eq_true (decide ((0 : Int) < x1)) with hb102 | hb102
            · have hF := bif_t hb102 hF; refine y_pure st.d dw (fun hm vw => g_take hb102 (v_move pr_nil)) ?_; refine y_pure st.d dw (fun hm vw => g_take hb102 (v_move pr_nil)) ?_; obtain ⟨n103, x103, z103, l103, g103, hF⟩ := ix_some hF; obtain ⟨b103, o103, s103, j103, r103, e103, f103, k103, ⟨_, _, rfl, rfl, rfl⟩⟩ := RowF.get ra0 g103; refine y_pure st.d dw (fun hm vw => g_take hb102 (v_ixp e103 z103 l103 pr_nil)) ?_; refine y_pure st.d dw (fun hm vw => g_take hb102 (v_fa pr_nil)) ?_; refine y_pure st.d dw (fun hm vw => g_take hb102 (v_ld1 (vw.fz st (le2 _ _ f103)) (take_at (j := 0) k103 rfl) pr_nil)) ?_; refine y_pure st.d dw (fun hm vw => g_take hb102 (v_move pr_nil)) ?_; refine y_pure st.d dw (fun hm vw => g_take hb102 (v_move pr_nil)) ?_
              obtain ⟨q104, hF⟩ := ck_some hF; refine y_pure st.d dw (fun hm vw => g_take hb102 (v_sub q104 pr_nil)) ?_; obtain ⟨n105, x105, z105, l105, g105, hF⟩ := ix_some hF; obtain ⟨b105, o105, s105, j105, r105, e105, f105, k105, ⟨_, _, rfl, rfl, rfl⟩⟩ := RowF.get ra0 g105; refine y_pure st.d dw (fun hm vw => g_take hb102 (v_ixp e105 z105 l105 pr_nil)) ?_; refine y_pure st.d dw (fun hm vw => g_take hb102 (v_fa pr_nil)) ?_; refine y_pure st.d dw (fun hm vw => g_take hb102 (v_ld1 (vw.fz st (le2 _ _ f105)) (take_at (j := 0) k105 rfl) pr_nil)) ?_; refine y_pure st.d dw (fun hm vw => g_take hb102 (v_leq pr_nil)) ?_; refine y_pure st.d dw (fun hm vw => g_take hb102 (v_move pr_nil)) ?_
              rcases Bool.eq_false_or_eq_true (decide (x103.1 ≤ x105.1)) with hb106 | hb106
              · have hF := bif_t hb106 hF; refine y_pure st.d dw (fun hm vw => g_skip hb106 pr_nil) ?_; refine y_pure st.d dw (fun hm vw => g_skip hb106 pr_nil) ?_; refine y_pure st.d dw (fun hm vw => g_skip hb106 pr_nil) ?_; refine y_pure st.d dw (fun hm vw => g_skip hb106 pr_nil) ?_; refine y_pure st.d dw (fun hm vw => g_skip hb106 pr_nil) ?_; refine y_pure st.d dw (fun hm vw => g_skip hb106 pr_nil) ?_; refine y_pure st.d dw (fun hm vw => g_skip hb106 pr_nil) ?_; refine y_pure st.d dw (fun hm vw => g_skip hb106 pr_nil) ?_; refine y_pure st.d dw (fun hm vw => g_skip hb106 pr_nil) ?_; refine y_pure st.d dw (fun hm vw => g_skip hb106 pr_nil) ?_; refine y_pure st.d dw (fun hm vw => g_skip hb106 pr_nil) ?_
                refine y_end st.d dw rfl (fun h107 ex vs => ?_)
                have st := st.ext1 ex
                refine g_skip hb106 ?_; refine g_take hb102 (v_pick hb106 ?_); refine g_take hb100 (v_pick hb102 ?_); refine v_pick' hb100 ?_; refine r_nil ?_; obtain rfl := inj hF; refine thn ⟨rfl, ?_⟩; dsimp only
                exact ⟨F2, rfl, (PH.le.refl _), st, gA, gA, gA⟩
              · have hF := bif_f hb106 hF; refine y_pure st.d dw (fun hm vw => g_take hb106 (v_move pr_nil)) ?_; refine y_pure st.d dw (fun hm vw => g_take hb106 (v_move pr_nil)) ?_; obtain ⟨n108, x108, z108, l108, g108, hF⟩ := ix_some hF; obtain ⟨b108, o108, s108, j108, r108, e108, f108, k108, ⟨_, _, rfl, rfl, rfl⟩⟩ := RowF.get ra0 g108; refine y_pure st.d dw (fun hm vw => g_take hb106 (v_ixp e108 z108 l108 pr_nil)) ?_; refine y_pure st.d dw (fun hm vw => g_take hb106 (v_fa pr_nil)) ?_; refine y_pure st.d dw (fun hm vw => g_take hb106 (v_ld1 (vw.fz st (le2 _ _ f108)) (take_at (j := 1) k108 rfl) pr_nil)) ?_; refine y_pure st.d dw (fun hm vw => g_take hb106 (v_move pr_nil)) ?_; refine y_pure st.d dw (fun hm vw => g_take hb106 (v_move pr_nil)) ?_
                obtain ⟨q109, hF⟩ := ck_some hF; refine y_pure st.d dw (fun hm vw => g_take hb106 (v_sub q109 pr_nil)) ?_; obtain ⟨n110, x110, z110, l110, g110, hF⟩ := ix_some hF; obtain ⟨b110, o110, s110, j110, r110, e110, f110, k110, ⟨_, _, rfl, rfl, rfl⟩⟩ := RowF.get ra0 g110; refine y_pure st.d dw (fun hm vw => g_take hb106 (v_ixp e110 z110 l110 pr_nil)) ?_; refine y_pure st.d dw (fun hm vw => g_take hb106 (v_fa pr_nil)) ?_; refine y_pure st.d dw (fun hm vw => g_take hb106 (v_ld1 (vw.fz st (le2 _ _ f110)) (take_at (j := 1) k110 rfl) pr_nil)) ?_; refine y_end st.d dw rfl (fun h111 ex vs => ?_)
                have st := st.ext1 ex
                refine g_take hb106 (v_leq ?_); refine g_take hb102 (v_pick' hb106 ?_); refine g_take hb100 (v_pick hb102 ?_); refine v_pick' hb100 ?_; refine r_nil ?_; obtain rfl := inj hF; refine thn ⟨rfl, ?_⟩; dsimp only
                exact ⟨F2, rfl, (PH.le.refl _), st, gA, gA, gA⟩
            · have hF := bif_f hb102 hF; refine y_pure st.d dw (fun hm vw => g_skip hb102 pr_nil) ?_; refine y_pure st.d dw (fun hm vw => g_skip hb102 pr_nil) ?_; refine y_pure st.d dw (fun hm vw => g_skip hb102 pr_nil) ?_; refine y_pure st.d dw (fun hm vw => g_skip hb102 pr_nil) ?_; refine y_pure st.d dw (fun hm vw => g_skip hb102 pr_nil) ?_; refine y_pure st.d dw (fun hm vw => g_skip hb102 pr_nil) ?_; refine y_pure st.d dw (fun hm vw => g_skip hb102 pr_nil) ?_; refine y_pure st.d dw (fun hm vw => g_skip hb102 pr_nil) ?_; refine y_pure st.d dw (fun hm vw => g_skip hb102 pr_nil) ?_; refine y_pure st.d dw (fun hm vw => g_skip hb102 pr_nil) ?_; refine y_pure st.d dw (fun hm vw => g_skip hb102 pr_nil) ?_
              refine y_pure st.d dw (fun hm vw => g_skip hb102 pr_nil) ?_; refine y_pure st.d dw (fun hm vw => g_skip hb102 pr_nil) ?_; refine y_pure st.d dw (fun hm vw => g_skipu pr_nil) ?_; refine y_pure st.d dw (fun hm vw => g_skipu pr_nil) ?_; refine y_pure st.d dw (fun hm vw => g_skipu pr_nil) ?_; refine y_pure st.d dw (fun hm vw => g_skipu pr_nil) ?_; refine y_pure st.d dw (fun hm vw => g_skipu pr_nil) ?_; refine y_pure st.d dw (fun hm vw => g_skipu pr_nil) ?_; refine y_pure st.d dw (fun hm vw => g_skipu pr_nil) ?_; refine y_pure st.d dw (fun hm vw => g_skipu pr_nil) ?_; refine y_pure st.d dw (fun hm vw => g_skipu pr_nil) ?_; refine y_pure st.d dw (fun hm vw => g_skipu pr_nil) ?_; refine y_pure st.d dw (fun hm vw => g_skipu pr_nil) ?_
              refine y_end st.d dw rfl (fun h112 ex vs => ?_)
              have st := st.ext1 ex
              refine g_skipu ?_; refine g_skip hb102 ?_; refine g_take hb100 (v_pick' hb102 ?_); refine v_pick' hb100 ?_; refine r_nil ?_; obtain rfl := inj hF; refine thn ⟨rfl, ?_⟩; dsimp only
              exact ⟨F2, rfl, (PH.le.refl _), st, gA, gA, gA⟩
      · obtain ⟨F89, rfl, le89, st, t0, t3, t57⟩ := hp
        have le113 := PH.le.trans le2 le89
        refine v_cond (fun hb114 => ?_) (fun hb114 => ?_)
        · have hF := bif_t hb114 hF; refine w_seq (w_reg ?_); refine v_move ?_; refine r_nil (th_n ?_); refine w_ret ?_; refine ib_r ?_; refine th_r ?_; refine th_r ?_; refine ⟨_, (inj hF).symm, .inl ⟨_, rfl, rfl, rfl, ?_⟩⟩; dsimp only
          exact ⟨F89, rfl, le113, st, gA⟩
        · have hF := bif_f hb114 hF; refine w_skip ?_; refine ib_n ?_; refine th_n ?_; refine w_reg ?_; refine v_move ?_; obtain ⟨q115, hF⟩ := ck_some hF; refine v_add q115 ?_; refine v_move ?_; refine r_nil ?_; refine thn ⟨_, (inj hF).symm, rfl, ?_⟩; dsimp only
          exact ⟨F89, rfl, le113, st, gA, gA⟩
    · have hF := bif_f hb62 hF; refine w_exit ?_; refine th_e ?_; refine th_e ?_; refine ⟨_, (inj hF).symm, .inr (⟨_, rfl, rfl, rfl, ?_⟩)⟩; dsimp only
      exact ⟨F2, rfl, le2, st, gA⟩
  · rcases hq with hq | hq
    · obtain ⟨N9, T, ds59⟩ := a; obtain ⟨h116, n117⟩ := σ; obtain ⟨w58, rfl, rfl, e1, F59, e2, le59, st, t2⟩ := hq
      dsimp only at e1 e2
      subst e1
      subst e2
      dsimp only at st t2
      have hF := sel_l hF; refine ib_r ?_; refine th_r ?_; obtain rfl := inj hF
      exact end_s st (Res.t gA Res.nil) rfl rfl
    · obtain ⟨N9, T, ds61⟩ := a; obtain ⟨h118, n119⟩ := σ; obtain ⟨w60, rfl, rfl, e1, F61, e2, le61, st, t0⟩ := hq
      dsimp only at e1 e2
      subst e1
      subst e2
      dsimp only at st t0
      have hF := sel_r hF; refine ib_e ?_; refine th_n ?_; refine w_seq (w_reg ?_); refine v_move ?_; refine v_len ?_; refine v_geq ?_; refine v_move ?_; refine r_nil (th_n ?_); refine w_ret ?_; obtain rfl := inj hF
      exact end_s st (Res.t gA Res.nil) rfl rfl
theorem ct86 (N : Nat) {a0_0 a0_1 a1 a2 : Int} {r : Bool} (hF : sf86 N a0_0 a0_1 a1 a2 = some r) (hd : D h0 n0) (hs : F0.sub h0) : C LW fl 86 [(.agg [(i64 a0_0), (i64 a0_1)]), (i64 a1), (i64 a2)] ⟨h0, n0⟩ (KS (.bool r) n0 h0) := by
  unfold sf86 at hF
  refine in_cT hd hs lw86 rfl rfl (by rfl) (fun st T hT => ?_)
  have hfl : n0 ≤ n0 := Nat.le_refl n0
  have t0 := hT 0 _ rfl
  have t1 := hT 1 _ rfl
  have t2 := hT 2 _ rfl
  dsimp only [L86]
  refine w_seq (w_reg ?_); refine v_box st (fun b1 h2 n3 st => ?_); refine v_move ?_; refine r_nil (th_n ?_); refine w_seq (w_reg ?_); refine v_fa ?_; refine v_ld1 (st.at (i := 0) rfl).2.2 rfl ?_; refine v_move ?_; refine v_fa ?_; refine v_ld1 (st.at (i := 0) rfl).2.2 rfl ?_; obtain ⟨v4, e5, hF⟩ := bnd_some hF; refine v_call st (ct25 N e5 st.d st.sub ) (fun n6 st => ?_); refine v_move ?_
  rcases Bool.eq_false_or_eq_true v4 with hb7 | hb7
  · have hF := bif_t hb7 hF; refine g_take hb7 (v_fa ?_); refine g_take hb7 (v_ld1 (st.at (i := 0) rfl).2.2 rfl ?_); refine g_take hb7 (v_move ?_); refine g_take hb7 (v_leq ?_); refine v_pick hb7 ?_; refine v_move ?_; refine r_nil (th_n ?_); refine w_ret ?_; obtain rfl := inj hF
    exact end_s st (Res.t gA Res.nil) rfl rfl
  · have hF := bif_f hb7 hF; refine g_skip hb7 ?_; refine g_skip hb7 ?_; refine g_skip hb7 ?_; refine g_skip hb7 ?_; refine v_pick' hb7 ?_; refine v_move ?_; refine r_nil (th_n ?_); refine w_ret ?_; obtain rfl := inj hF
    exact end_s st (Res.t gA Res.nil) rfl rfl
theorem ct27 (N : Nat) {a0_0 a0_1 a0_2 a0_3 : Int} {a0_4 : (List (Int × Int × Int × Int))} {a0_5 : (List (Int × Int))} {a0_6 a0_7 a0_8 a0_9 : Int} {r : (Int × Int)} (hF : sf27 N a0_0 a0_1 a0_2 a0_3 a0_4 a0_5 a0_6 a0_7 a0_8 a0_9 = some r) (hd : D h0 n0) (hs : F0.sub h0) {pa0_4 : Option (Nat × Nat)} {ca0_4 : Nat} {pa0_5 : Option (Nat × Nat)} {ca0_5 : Nat} (ra0_4 : RowF (rP rI (rP rI (rP rI rI))) 4 F0 pa0_4 ca0_4 a0_4) (ra0_5 : RowF (rP rI rI) 2 F0 pa0_5 ca0_5 a0_5) : C LW fl 27 [(.agg [(i64 a0_0), (i64 a0_1), (i64 a0_2), (i64 a0_3), (.slice pa0_4 (a0_4).length ca0_4), (.slice pa0_5 (a0_5).length ca0_5), (i64 a0_6), (i64 a0_7), (i64 a0_8), (i64 a0_9)])] ⟨h0, n0⟩ (KS (.agg [(i64 r.1), (i64 r.2)]) n0 h0) := by
  unfold sf27 at hF
  refine in_cT hd hs lw27 rfl rfl (by rfl) (fun st T hT => ?_)
  have hfl : n0 ≤ n0 := Nat.le_refl n0
  have t0 := hT 0 _ rfl
  dsimp only [L27]
  refine w_seq (w_reg ?_); refine v_box st (fun b1 h2 n3 st => ?_); refine v_alloc st (fun b4 h5 n6 st => ?_); refine r_nil (th_n ?_); refine w_seq ?_; refine w_drawV (Nat.le_trans hfl st.ext.le) (fun dw => ?_); refine y_pure st.d dw (fun hm vw => v_fa pr_nil) ?_; refine y_pure st.d dw (fun hm vw => v_ld1 (vw.bx (st.at (i := 0) rfl)) rfl pr_nil) ?_; refine y_pure st.d dw (fun hm vw => v_fa pr_nil) ?_; refine y_pure st.d dw (fun hm vw => v_fa pr_nil) ?_; refine y_pure st.d dw (fun hm vw => v_ld1 (vw.bx (st.at (i := 0) rfl)) rfl pr_nil) ?_; obtain ⟨v7, e8, hF⟩ := bnd_some hF; refine y_flat st.d dw (fun hm vw => u_call (ct73 N e8 vw.d (vw.sub st) ra0_5) (fun n' hn' => pf_nil hn')) (fun n9 hn' dw => ?_)
  refine y_pure st.d dw (fun hm vw => v_fa pr_nil) ?_; refine y_pure st.d dw (fun hm vw => v_ld1 (vw.bx (st.at (i := 0) rfl)) rfl pr_nil) ?_; refine y_pure st.d dw (fun hm vw => v_fa pr_nil) ?_; refine y_pure st.d dw (fun hm vw => v_fa pr_nil) ?_; refine y_pure st.d dw (fun hm vw => v_ld1 (vw.bx (st.at (i := 0) rfl)) rfl pr_nil) ?_; refine y_end st.d dw rfl (fun h10 ex vs => ?_)
  have st := st.ext1 ex
  obtain ⟨v11, e12, hF⟩ := bnd_some hF; refine v_call st (ct73 N e12 st.d st.sub ra0_5) (fun n13 st => ?_); refine v_build (cs := [(i64 v7), (i64 v11)]) rfl ?_; refine v_st (cs' := [(i64 v7), (i64 v11)]) st 1 rfl rfl rfl rfl hfl (fun h14 st => ?_); refine r_nil (th_n ?_); refine w_ret ?_; obtain rfl := inj hF
  exact end_s st (Res.c gA (st.at (i := 1) rfl).2.2 (show takeN _ _ = some [(i64 v7), (i64 v11)] from rfl) Res.nil) rfl rfl
end Go.Hx.V

namespace Go.Hx.V
open Go.Hx
set_option maxRecDepth 20000
set_option maxHeartbeats 4000000
variable {fl : Nat} {h0 : Tr HBlk} {n0 : Nat} {F0 : PH}
attribute [local irreducible] W R C thenH inBlockH Tr.get Tr.set lo ck bnd ix iter
theorem ct26 (N : Nat) {a0_0 a0_1 a0_2 a0_3 : Int} {a0_4 : (List (Int × Int × Int × Int))} {a0_5 : (List (Int × Int))} {a0_6 a0_7 a0_8 a0_9 a1_0 a1_1 a2_0 a2_1 a3 : Int} {r : (Int × Int)} (hF : sf26 N a0_0 a0_1 a0_2 a0_3 a0_4 a0_5 a0_6 a0_7 a0_8 a0_9 a1_0 a1_1 a2_0 a2_1 a3 = some r) (hd : D h0 n0) (hs : F0.sub h0) {pa0_4 : Option (Nat × Nat)} {ca0_4 : Nat} {pa0_5 : Option (Nat × Nat)} {ca0_5 : Nat} (ra0_4 : RowF (rP rI (rP rI (rP rI rI))) 4 F0 pa0_4 ca0_4 a0_4) (ra0_5 : RowF (rP rI rI) 2 F0 pa0_5 ca0_5 a0_5) : C LW fl 26 [(.agg [(i64 a0_0), (i64 a0_1), (i64 a0_2), (i64 a0_3), (.slice pa0_4 (a0_4).length ca0_4), (.slice pa0_5 (a0_5).length ca0_5), (i64 a0_6), (i64 a0_7), (i64 a0_8), (i64 a0_9)]), (.agg [(i64 a1_0), (i64 a1_1)]), (.agg [(i64 a2_0), (i64 a2_1)]), (i64 a3)] ⟨h0, n0⟩ (KS (.agg [(i64 r.1), (i64 r.2)]) n0 h0) := by
  unfold sf26 at hF
  refine in_cT hd hs lw26 rfl rfl (by rfl) (fun st T hT => ?_)
  have hfl : n0 ≤ n0 := Nat.le_refl n0
  have t0 := hT 0 _ rfl
  have t1 := hT 1 _ rfl
  have t2 := hT 2 _ rfl
  have t3 := hT 3 _ rfl
  dsimp only [L26]
  refine w_seq (w_reg ?_); refine v_box st (fun b1 h2 n3 st => ?_); refine v_box st (fun b4 h5 n6 st => ?_); refine v_box st (fun b7 h8 n9 st => ?_); refine v_alloc st (fun b10 h11 n12 st => ?_); refine r_nil (th_n ?_); refine w_seq (w_reg ?_); refine v_ldn (vs := [(i64 a0_0), (i64 a0_1), (i64 a0_2), (i64 a0_3), (.slice pa0_4 (a0_4).length ca0_4), (.slice pa0_5 (a0_5).length ca0_5), (i64 a0_6), (i64 a0_7), (i64 a0_8), (i64 a0_9)]) (st.at (i := 0) rfl).2.2 rfl ?_; refine v_move ?_; obtain ⟨v13, e14, hF⟩ := bnd_some hF; refine v_call st (ct55 N e14 st.d st.sub ra0_4 ra0_5) (fun n15 st => ?_); refine v_alloc st (fun b16 h17 n18 st => ?_); refine v_st (cs' := [(i64 v13.1), (i64 v13.2)]) st 4 rfl rfl rfl rfl hfl (fun h19 st => ?_)
  refine r_nil (th_n ?_); refine w_seq ?_; refine w_drawV (Nat.le_trans hfl st.ext.le) (fun dw => ?_); refine y_pure st.d dw (fun hm vw => v_fa pr_nil) ?_; refine y_pure st.d dw (fun hm vw => v_ld1 (vw.bx (st.at (i := 1) rfl)) rfl pr_nil) ?_; refine y_pure st.d dw (fun hm vw => v_fa pr_nil) ?_; refine y_pure st.d dw (fun hm vw => v_ld1 (vw.bx (st.at (i := 2) rfl)) rfl pr_nil) ?_; obtain ⟨q20, hF⟩ := ck_some hF; refine y_pure st.d dw (fun hm vw => v_mul q20 pr_nil) ?_; refine y_pure st.d dw (fun hm vw => v_fa pr_nil) ?_; refine y_pure st.d dw (fun hm vw => v_fa pr_nil) ?_; refine y_pure st.d dw (fun hm vw => v_ld1 (vw.bx (st.at (i := 0) rfl)) rfl pr_nil) ?_; obtain ⟨v21, e22, hF⟩ := bnd_some hF
  refine y_flat st.d dw (fun hm vw => u_call (ct71 N e22 vw.d (vw.sub st) ) (fun n' hn' => pf_nil hn')) (fun n23 hn' dw => ?_); refine y_pure st.d dw (fun hm vw => v_fa pr_nil) ?_; refine y_pure st.d dw (fun hm vw => v_ld1 (vw.bx (st.at (i := 4) rfl)) rfl pr_nil) ?_; obtain ⟨q24, hF⟩ := ck_some hF; refine y_pure st.d dw (fun hm vw => v_sub q24 pr_nil) ?_; refine y_pure st.d dw (fun hm vw => v_fa pr_nil) ?_; refine y_pure st.d dw (fun hm vw => v_ld1 (vw.bx (st.at (i := 1) rfl)) rfl pr_nil) ?_; refine y_pure st.d dw (fun hm vw => v_fa pr_nil) ?_; refine y_pure st.d dw (fun hm vw => v_ld1 (vw.bx (st.at (i := 2) rfl)) rfl pr_nil) ?_; obtain ⟨q25, hF⟩ := ck_some hF; refine y_pure st.d dw (fun hm vw => v_mul q25 pr_nil) ?_
  refine y_pure st.d dw (fun hm vw => v_fa pr_nil) ?_; refine y_pure st.d dw (fun hm vw => v_fa pr_nil) ?_; refine y_pure st.d dw (fun hm vw => v_ld1 (vw.bx (st.at (i := 0) rfl)) rfl pr_nil) ?_; obtain ⟨v26, e27, hF⟩ := bnd_some hF; refine y_flat st.d dw (fun hm vw => u_call (ct72 N e27 vw.d (vw.sub st) ) (fun n' hn' => pf_nil hn')) (fun n28 hn' dw => ?_); refine y_pure st.d dw (fun hm vw => v_fa pr_nil) ?_; refine y_pure st.d dw (fun hm vw => v_ld1 (vw.bx (st.at (i := 4) rfl)) rfl pr_nil) ?_; refine y_end st.d dw rfl (fun h29 ex vs => ?_)
  have st := st.ext1 ex
  obtain ⟨q30, hF⟩ := ck_some hF; refine v_sub q30 ?_; refine v_build (cs := [(i64 (v21 - v13.2)), (i64 (v26 - v13.1))]) rfl ?_; refine v_st (cs' := [(i64 (v21 - v13.2)), (i64 (v26 - v13.1))]) st 3 rfl rfl rfl rfl hfl (fun h31 st => ?_); refine r_nil (th_n ?_); refine w_ret ?_; obtain rfl := inj hF
  exact end_s st (Res.c gA (st.at (i := 3) rfl).2.2 (show takeN _ _ = some [(i64 (v21 - v13.2)), (i64 (v26 - v13.1))] from rfl) Res.nil) rfl rfl
end Go.Hx.V

namespace Go.Hx.V
open Go.Hx
set_option maxRecDepth 20000
set_option maxHeartbeats 4000000
variable {fl : Nat} {h0 : Tr HBlk} {n0 : Nat} {F0 : PH}
attribute [local irreducible] W R C thenH inBlockH Tr.get Tr.set lo ck bnd ix iter
end Go.Hx.V

namespace Go.Hx.V
open Go.Hx
set_option maxRecDepth 20000
set_option maxHeartbeats 4000000
variable {fl : Nat} {h0 : Tr HBlk} {n0 : Nat} {F0 : PH}
attribute [local irreducible] W R C thenH inBlockH Tr.get Tr.set lo ck bnd ix iter
end Go.Hx.V

namespace Go.Hx.V
open Go.Hx
set_option maxRecDepth 20000
set_option maxHeartbeats 4000000
variable {fl : Nat} {h0 : Tr HBlk} {n0 : Nat} {F0 : PH}
attribute [local irreducible] W R C thenH inBlockH Tr.get Tr.set lo ck bnd ix iter
theorem ct21 (N : Nat) {a0_0 a0_1 a0_2 a0_3 : Int} {a0_4 : (List (Int × Int × Int × Int))} {a0_5 : (List (Int × Int))} {a0_6 a0_7 a0_8 a0_9 : Int} {r : (Int × Int × Int × Int × (List (Int × Int × Int × Int)) × (List (Int × Int)) × Int × Int × Int × Int)} (hF : sf21 N a0_0 a0_1 a0_2 a0_3 a0_4 a0_5 a0_6 a0_7 a0_8 a0_9 = some r) (hd : D h0 n0) (hs : F0.sub h0) (hfl : fl ≤ n0) {pa0_4 : Option (Nat × Nat)} {ca0_4 : Nat} {pa0_5 : Option (Nat × Nat)} {ca0_5 : Nat} (ra0_4 : RowF (rP rI (rP rI (rP rI rI))) 4 F0 pa0_4 ca0_4 a0_4) (ra0_5 : RowF (rP rI rI) 2 F0 pa0_5 ca0_5 a0_5) : C LW fl 21 [(.agg [(i64 a0_0), (i64 a0_1), (i64 a0_2), (i64 a0_3), (.slice pa0_4 (a0_4).length ca0_4), (.slice pa0_5 (a0_5).length ca0_5), (i64 a0_6), (i64 a0_7), (i64 a0_8), (i64 a0_9)])] ⟨h0, n0⟩ (KR (rvA (rP rI (rP rI (rP rI (rP rI (rP (rL (rP rI (rP rI (rP rI rI))) 4) (rP (rL (rP rI rI) 2) (rP rI (rP rI (rP rI rI)))))))))) F0 h0 n0 r) := by
  unfold sf21 at hF
  refine in_mT hd hs hfl lw21 rfl rfl (by rfl) (fun st T hT => ?_)
  have t0 := hT 0 _ rfl
  dsimp only [L21]
  refine w_seq (w_reg ?_); refine v_box st (fun b1 h2 n3 st => ?_); refine v_alloc st (fun b4 h5 n6 st => ?_); refine r_nil (th_n ?_); refine w_seq ?_; refine w_drawV (Nat.le_trans hfl st.ext.le) (fun dw => ?_)
  have wf := Wf.start st
  refine y_pure st.d dw (fun hm vw => v_fa pr_nil) ?_; refine y_pure st.d dw (fun hm vw => v_ldn (vs := [(i64 a0_0), (i64 a0_1), (i64 a0_2), (i64 a0_3)]) (vw.bx (st.at (i := 0) rfl)) rfl pr_nil) ?_; obtain ⟨v7, e8, hF⟩ := bnd_some hF; refine y_flat st.d dw (fun hm vw => u_call (ct59 N e8 vw.d (FF.sub wf st vw) ) (fun n' hn' => pf_nil hn')) (fun n9 hn' dw => ?_); refine y_pure st.d dw (fun hm vw => v_fa pr_nil) ?_; refine y_pure st.d dw (fun hm vw => v_ld1 (vw.bx (st.at (i := 0) rfl)) rfl pr_nil) ?_; obtain ⟨v10, e11, hF⟩ := bnd_some hF
  refine y_deep st dw wf (fun hm vw => u_callR (ct60 N e11 vw.d (FF.sub wf st vw) (Nat.max_le.2 ⟨by have := dw.le; have := st.ext.le; omega, Nat.le_refl _⟩) (RowF.mono FF.base ra0_4)) (fun v F' h' n' ex l1 l2 l3 l4 => r_nil ⟨_, _, rfl, ex, l1, l2, l3, l4⟩)) (fun u12 F12 n12 done hn' dw12 wf12 rv12 le12 => ?_)
  have wf := wf12
  have dw := dw12
  obtain ⟨py13, cy13, rfl, ry13⟩ := rv12; refine y_pure st.d dw (fun hm vw => v_fa pr_nil) ?_; refine y_pure st.d dw (fun hm vw => v_ld1 (vw.bx (st.at (i := 0) rfl)) rfl pr_nil) ?_; obtain ⟨v14, e15, hF⟩ := bnd_some hF
  refine y_deep st dw wf (fun hm vw => u_callR (ct66 N e15 vw.d (FF.sub wf st vw) (Nat.max_le.2 ⟨by have := dw.le; have := st.ext.le; omega, Nat.le_refl _⟩) (RowF.mono FF.base ra0_5)) (fun v F' h' n' ex l1 l2 l3 l4 => r_nil ⟨_, _, rfl, ex, l1, l2, l3, l4⟩)) (fun u16 F16 n16 done hn' dw16 wf16 rv16 le16 => ?_)
  have le18 := fun (f : Nat → Bool) q1 q2 => PH.le.trans (le12 f q1 q2) (FF.cons wf wf16 dw16)
  have wf := wf16
  have dw := dw16
  obtain ⟨py17, cy17, rfl, ry17⟩ := rv16; refine y_pure st.d dw (fun hm vw => v_fa pr_nil) ?_; refine y_pure st.d dw (fun hm vw => v_fa pr_nil) ?_; refine y_pure st.d dw (fun hm vw => v_ld1 (vw.bx (st.at (i := 0) rfl)) rfl pr_nil) ?_; refine y_pure st.d dw (fun hm vw => v_fa pr_nil) ?_; refine y_pure st.d dw (fun hm vw => v_fa pr_nil) ?_; refine y_pure st.d dw (fun hm vw => v_ld1 (vw.bx (st.at (i := 0) rfl)) rfl pr_nil) ?_; refine y_pure st.d dw (fun hm vw => v_build (cs := [(i64 a0_6), (i64 a0_7)]) rfl pr_nil) ?_; refine y_pure st.d dw (fun hm vw => v_fa pr_nil) ?_; refine y_pure st.d dw (fun hm vw => v_ldn (vs := [(i64 a0_8), (i64 a0_9)]) (vw.bx (st.at (i := 0) rfl)) rfl pr_nil) ?_; obtain ⟨v19, e20, hF⟩ := bnd_some hF
  refine y_flat st.d dw (fun hm vw => u_call (ct29 N e20 vw.d (FF.sub wf st vw) ) (fun n' hn' => pf_nil hn')) (fun n21 hn' dw => ?_); refine y_end st.d dw rfl (fun h22 ex vs => ?_)
  obtain ⟨F23, lt23, st⟩ := St.laidF st dw wf ex vs (Lay.nil (by have := dw.le; omega)) (fun e he => by cases he)
  have lz24 := lt23 _ (le18 (fun _ => true) rfl (fun _ _ => rfl))
  have lz25 := lt23 _ (le16 (fun _ => true) rfl (fun _ _ => rfl))
  have lb23 := lt23 _ FF.base
  refine v_build (cs := [(i64 v7.1), (i64 v7.2.1), (i64 v7.2.2.1), (i64 v7.2.2.2), (.slice py13 (v10).length cy13), (.slice py17 (v14).length cy17), (i64 a0_6), (i64 a0_7), (i64 v19.1), (i64 v19.2)]) rfl ?_; refine v_st (cs' := [(i64 v7.1), (i64 v7.2.1), (i64 v7.2.2.1), (i64 v7.2.2.2), (.slice py13 (v10).length cy13), (.slice py17 (v14).length cy17), (i64 a0_6), (i64 a0_7), (i64 v19.1), (i64 v19.2)]) st 1 rfl rfl rfl rfl hfl (fun h26 st => ?_); refine r_nil (th_n ?_); refine w_ret ?_; obtain rfl := inj hF
  exact end_r st (Res.c gA (st.at (i := 1) rfl).2.2 (show takeN _ _ = some [(i64 v7.1), (i64 v7.2.1), (i64 v7.2.2.1), (i64 v7.2.2.2), (.slice py13 (v10).length cy13), (.slice py17 (v14).length cy17), (i64 a0_6), (i64 a0_7), (i64 v19.1), (i64 v19.2)] from rfl) Res.nil) ⟨_, rfl, ⟨[(i64 v7.1)], [(i64 v7.2.1), (i64 v7.2.2.1), (i64 v7.2.2.2), (.slice py13 (v10).length cy13), (.slice py17 (v14).length cy17), (i64 a0_6), (i64 a0_7), (i64 v19.1), (i64 v19.2)], rfl, rfl, ⟨[(i64 v7.2.1)], [(i64 v7.2.2.1), (i64 v7.2.2.2), (.slice py13 (v10).length cy13), (.slice py17 (v14).length cy17), (i64 a0_6), (i64 a0_7), (i64 v19.1), (i64 v19.2)], rfl, rfl, ⟨[(i64 v7.2.2.1)], [(i64 v7.2.2.2), (.slice py13 (v10).length cy13), (.slice py17 (v14).length cy17), (i64 a0_6), (i64 a0_7), (i64 v19.1), (i64 v19.2)], rfl, rfl, ⟨[(i64 v7.2.2.2)], [(.slice py13 (v10).length cy13), (.slice py17 (v14).length cy17), (i64 a0_6), (i64 a0_7), (i64 v19.1), (i64 v19.2)], rfl, rfl, ⟨[(.slice py13 (v10).length cy13)], [(.slice py17 (v14).length cy17), (i64 a0_6), (i64 a0_7), (i64 v19.1), (i64 v19.2)], rfl, ⟨_, _, rfl, (RowF.mono lz24 ry13)⟩, ⟨[(.slice py17 (v14).length cy17)], [(i64 a0_6), (i64 a0_7), (i64 v19.1), (i64 v19.2)], rfl, ⟨_, _, rfl, (RowF.mono lz25 ry17)⟩, ⟨[(i64 a0_6)], [(i64 a0_7), (i64 v19.1), (i64 v19.2)], rfl, rfl, ⟨[(i64 a0_7)], [(i64 v19.1), (i64 v19.2)], rfl, rfl, ⟨[(i64 v19.1)], [(i64 v19.2)], rfl, rfl, rfl⟩⟩⟩⟩⟩⟩⟩⟩⟩⟩
theorem ct150 (N : Nat) {a0_0 a0_1 a0_2 a0_3 r : Int} (hF : sf150 N a0_0 a0_1 a0_2 a0_3 = some r) (hd : D h0 n0) (hs : F0.sub h0) : C LW fl 150 [(.agg [(i64 a0_0), (i64 a0_1), (i64 a0_2), (i64 a0_3)])] ⟨h0, n0⟩ (KS (i64 r) n0 h0) := by
  unfold sf150 at hF
  refine in_cT hd hs lw150 rfl rfl (by rfl) (fun st T hT => ?_)
  have hfl : n0 ≤ n0 := Nat.le_refl n0
  have t0 := hT 0 _ rfl
  dsimp only [L150]
  refine w_seq (w_reg ?_); refine v_box st (fun b1 h2 n3 st => ?_); refine v_move ?_; refine r_nil (th_n ?_); refine w_seq ?_; refine w_seq (w_reg ?_); refine v_ldn (vs := [(i64 a0_0), (i64 a0_1), (i64 a0_2), (i64 a0_3)]) (st.at (i := 0) rfl).2.2 rfl ?_; obtain ⟨v4, e5, hF⟩ := bnd_some hF; refine v_call st (ct168 N e5 st.d st.sub ) (fun n6 st => ?_); refine v_not ?_; refine r_nil (th_n ?_); refine v_cond (fun hb7 => ?_) (fun hb7 => ?_)
  · have hF := bif_t hb7 hF; refine w_seq (w_reg ?_); refine v_move ?_; refine r_nil (th_n ?_); refine w_ret ?_; refine th_r ?_; obtain rfl := inj hF
    exact end_s st (Res.t gA Res.nil) rfl rfl
  · have hF := bif_f hb7 hF; refine w_skip (th_n ?_); refine w_seq (w_reg ?_); refine v_move ?_; refine r_nil (th_n ?_); refine w_ret ?_; obtain rfl := inj hF
    exact end_s st (Res.t gA Res.nil) rfl rfl
theorem ct151 (N : Nat) {a0 : (List (Int × Int × Int × Int))} {a1f0_0 a1f0_1 a1f0_2 a1f0_3 : Int} {r : Bool} (hF : sf151 N a0 a1f0_0 a1f0_1 a1f0_2 a1f0_3 = some r) (hd : D h0 n0) (hs : F0.sub h0) {pa0 : Option (Nat × Nat)} {ca0 : Nat} (ra0 : RowF (rP rI (rP rI (rP rI rI))) 4 F0 pa0 ca0 a0) : C LW fl 151 [(.slice pa0 (a0).length ca0), (.func 152 [(.agg [(i64 a1f0_0), (i64 a1f0_1), (i64 a1f0_2), (i64 a1f0_3)])] [])] ⟨h0, n0⟩ (KS (.bool r) n0 h0) := by
  unfold sf151 at hF
  refine in_cT hd hs lw151 rfl rfl (by rfl) (fun st T hT => ?_)
  have hfl : n0 ≤ n0 := Nat.le_refl n0
  have t0 := hT 0 _ rfl
  have t1 := hT 1 _ rfl
  dsimp only [L151]
  refine w_seq (w_reg ?_); refine v_move ?_; refine r_nil (th_n ?_); refine w_seq ?_; refine w_seq (w_reg ?_); refine v_move ?_; refine v_len ?_; refine v_move ?_; refine r_nil (th_n ?_); refine w_block ?_; obtain ⟨y14, hy, hF⟩ := bnd_some hF; refine v_loopD (sf151_L1 N a0 a1f0_0 a1f0_1 a1f0_2 a1f0_3) (fun x1 T ds2 h nx => ∃ (F2 : PH), ds2 = [] ∧ PH.le F0 F2 ∧ St n0 h0 F0 F2 h nx [] ∧ T.get 1 = some (.func 152 [(.agg [(i64 a1f0_0), (i64 a1f0_1), (i64 a1f0_2), (i64 a1f0_3)])] []) ∧ T.get 7 = some (.slice pa0 (a0).length ca0) ∧ T.get 8 = some (i64 ((a0).length : Int)) ∧ T.get 9 = some (i64 x1)) (fun y e a σ => (∃ u, y = (.inl u) ∧ e = .ret ∧ a.nt = 18 ∧ ∃ (F16 : PH), a.defers = [] ∧ PH.le F0 F16 ∧ St n0 h0 F0 F16 σ.h σ.nx [] ∧ a.tmps.get 4 = some (.bool false)) ∨ (∃ u, y = (.inr u) ∧ e = .exit 0 ∧ a.nt = 18 ∧ ∃ (F18 : PH), a.defers = [] ∧ PH.le F0 F18 ∧ St n0 h0 F0 F18 σ.h σ.nx [])) (fun x1 T ds2 h nx s hp hF => ?_) N _ y14 _ _ _ _ hy ⟨F0, rfl, (PH.le.refl _), st, gA, gA, gA, gA⟩ (fun e a σ hne hq => ?_)
  · obtain ⟨F2, rfl, le2, st, t1, t7, t8, t9⟩ := hp; unfold sf151_L1 at hF; unfold L151w0; refine w_seq (w_reg ?_); refine v_lss ?_; refine r_nil (th_n ?_); refine w_seq ?_; refine v_cond (fun hb19 => ?_) (fun hb19 => ?_)
    · have hF := bif_t hb19 hF; refine w_skip (th_n ?_); refine w_seq ?_; refine w_block ?_; refine w_seq (w_reg ?_); obtain ⟨n20, x20, z20, l20, g20, hF⟩ := ix_some hF; obtain ⟨b20, o20, s20, j20, r20, e20, f20, k20, ⟨_, _, rfl, rfl, ⟨_, _, rfl, rfl, ⟨_, _, rfl, rfl, rfl⟩⟩⟩⟩ := RowF.get ra0 g20; refine v_ixp e20 z20 l20 ?_; refine v_ldn (st.sub _ _ (le2 _ _ f20)) k20 ?_; refine v_alloc st (fun b21 h22 n23 st => ?_); refine v_st (cs' := [(i64 x20.1), (i64 x20.2.1), (i64 x20.2.2.1), (i64 x20.2.2.2)]) st 0 rfl rfl rfl rfl hfl (fun h24 st => ?_); refine r_nil (th_n ?_); refine w_seq (w_reg ?_); refine v_move ?_; refine v_ldn (vs := [(i64 x20.1), (i64 x20.2.1), (i64 x20.2.2.1), (i64 x20.2.2.2)]) (st.at (i := 0) rfl).2.2 rfl ?_
      obtain ⟨v25, e26, hF⟩ := bnd_some hF; refine v_call st (ct152 N e26 st.d st.sub ) (fun n27 st => ?_); refine v_not ?_; refine r_nil (th_n ?_); refine v_cond (fun hb28 => ?_) (fun hb28 => ?_)
      · have hF := bif_t hb28 hF; refine w_seq (w_reg ?_); refine v_move ?_; refine r_nil (th_n ?_); refine w_ret ?_; refine ib_r ?_; refine th_r ?_; refine th_r ?_; refine ⟨_, (inj hF).symm, .inl ⟨_, rfl, rfl, rfl, ?_⟩⟩; dsimp only
        exact ⟨F2, rfl, le2, (st.drop (by first | exact List.Sublist.refl _ | (repeat first | exact List.nil_sublist _ | refine List.Sublist.cons_cons _ ?_ | refine List.Sublist.cons _ ?_))), gA⟩
      · have hF := bif_f hb28 hF; refine w_skip ?_; refine ib_n ?_; refine th_n ?_; refine w_reg ?_; obtain ⟨q29, hF⟩ := ck_some hF; refine v_add q29 ?_; refine v_move ?_; refine r_nil ?_; refine thn ⟨_, (inj hF).symm, rfl, ?_⟩; dsimp only
        exact ⟨F2, rfl, le2, (st.drop (by first | exact List.Sublist.refl _ | (repeat first | exact List.nil_sublist _ | refine List.Sublist.cons_cons _ ?_ | refine List.Sublist.cons _ ?_))), gA, gA, gA, gA⟩
    · have hF := bif_f hb19 hF; refine w_exit ?_; refine th_e ?_; refine th_e ?_; refine ⟨_, (inj hF).symm, .inr (⟨_, rfl, rfl, rfl, ?_⟩)⟩; dsimp only
      exact ⟨F2, rfl, le2, st⟩
  · rcases hq with hq | hq
    · obtain ⟨N9, T, ds16⟩ := a; obtain ⟨h30, n31⟩ := σ; obtain ⟨w15, rfl, rfl, e1, F16, e2, le16, st, t4⟩ := hq
      dsimp only at e1 e2
      subst e1
      subst e2
      dsimp only at st t4
      have hF := sel_l hF; refine ib_r ?_; refine th_r ?_; obtain rfl := inj hF
      exact end_s st (Res.t gA Res.nil) rfl rfl
    · obtain ⟨N9, T, ds18⟩ := a; obtain ⟨h32, n33⟩ := σ; obtain ⟨w17, rfl, rfl, e1, F18, e2, le18, st⟩ := hq
      dsimp only at e1 e2
      subst e1
      subst e2
      dsimp only at st
      have hF := sel_r hF; refine ib_e ?_; refine th_n ?_; refine w_seq (w_reg ?_); refine v_move ?_; refine r_nil (th_n ?_); refine w_ret ?_; obtain rfl := inj hF
      exact end_s st (Res.t gA Res.nil) rfl rfl
end Go.Hx.V

namespace Go.Hx.V
open Go.Hx
set_option maxRecDepth 20000
set_option maxHeartbeats 4000000
variable {fl : Nat} {h0 : Tr HBlk} {n0 : Nat} {F0 : PH}
attribute [local irreducible] W R C thenH inBlockH Tr.get Tr.set lo ck bnd ix iter
theorem ct135 (N : Nat) {a0_0 a0_1 a0_2 a0_3 : Int} {a1 : (List (Int × Int × Int × Int))} {r : (Int × Int × Int × Int × Int × (Nat → Int) × Bool)} (hF : sf135 N a0_0 a0_1 a0_2 a0_3 a1 = some r) (hd : D h0 n0) (hs : F0.sub h0) {pa1 : Option (Nat × Nat)} {ca1 : Nat} (ra1 : RowF (rP rI (rP rI (rP rI rI))) 4 F0 pa1 ca1 a1) : C LW fl 135 [(.agg [(i64 a0_0), (i64 a0_1), (i64 a0_2), (i64 a0_3)]), (.slice pa1 (a1).length ca1)] ⟨h0, n0⟩ (KS (.tuple [(.agg ([(i64 r.1), (i64 r.2.1), (i64 r.2.2.1), (i64 r.2.2.2.1), (i64 r.2.2.2.2.1)] ++ (eI .i64 169 r.2.2.2.2.2.1))), (.bool r.2.2.2.2.2.2)]) n0 h0) := by
  unfold sf135 at hF
  refine in_cT hd hs lw135 rfl rfl (by rfl) (fun st T hT => ?_)
  have hfl : n0 ≤ n0 := Nat.le_refl n0
  have t0 := hT 0 _ rfl
  have t1 := hT 1 _ rfl
  dsimp only [L135]
  refine w_seq (w_reg ?_); refine v_box st (fun b1 h2 n3 st => ?_); refine v_alloc st (fun b4 h5 n6 st => ?_)
  have st := st.cells 1 rfl ([(i64 (0 : Int)), (i64 (0 : Int)), (i64 (0 : Int)), (i64 (0 : Int)), (i64 (0 : Int))] ++ (eI .i64 169 (fun _ => 0))) rfl
  refine v_move ?_; refine r_nil (th_n ?_); refine w_seq (w_reg ?_); refine v_ldn (vs := [(i64 a0_0), (i64 a0_1), (i64 a0_2), (i64 a0_3)]) (st.at (i := 0) rfl).2.2 rfl ?_; obtain ⟨v7, e8, hF⟩ := bnd_some hF; refine v_call st (ct153 N e8 st.d st.sub ) (fun n9 st => ?_); refine v_alloc st (fun b10 h11 n12 st => ?_)
  have st := st.cells 2 rfl ([(i64 (0 : Int)), (i64 (0 : Int)), (i64 (0 : Int)), (i64 (0 : Int)), (i64 (0 : Int))] ++ (eI .i64 169 (fun _ => 0))) rfl
  refine v_st (v := (.agg ([(i64 v7.1), (i64 v7.2.1), (i64 v7.2.2.1), (i64 v7.2.2.2.1), (i64 v7.2.2.2.2.1)] ++ (eI .i64 169 v7.2.2.2.2.2)))) (cs' := ([(i64 v7.1), (i64 v7.2.1), (i64 v7.2.2.1), (i64 v7.2.2.2.1), (i64 v7.2.2.2.2.1)] ++ (eI .i64 169 v7.2.2.2.2.2))) st 2 rfl (ov_tail (q := ([(i64 (0 : Int)), (i64 (0 : Int)), (i64 (0 : Int)), (i64 (0 : Int)), (i64 (0 : Int))] ++ (eI .i64 169 (fun _ => 0)))) (r := ([(i64 v7.1), (i64 v7.2.1), (i64 v7.2.2.1), (i64 v7.2.2.2.1), (i64 v7.2.2.2.2.1)] ++ (eI .i64 169 v7.2.2.2.2.2))) [] rfl (by simp [eI_len, eB_len])) (len_tail (E := (eI .i64 169 v7.2.2.2.2.2)) [(i64 v7.1), (i64 v7.2.1), (i64 v7.2.2.1), (i64 v7.2.2.2.1), (i64 v7.2.2.2.2.1)] eI_len rfl) (one_tail (E := (eI .i64 169 v7.2.2.2.2.2)) [(i64 v7.1), (i64 v7.2.1), (i64 v7.2.2.1), (i64 v7.2.2.2.1), (i64 v7.2.2.2.2.1)] rfl eI_one) hfl (fun h13 st => ?_)
  refine v_move ?_; refine r_nil (th_n ?_); refine w_seq ?_; refine w_reg ?_
  have w17 : MR (.row [.i .i64, .i .i64, .i .i64, .i .i64]) (fun x : (Int × Int × Int × Int) => HV.agg [HV.int .i64 x.1, HV.int .i64 x.2.1, HV.int .i64 x.2.2.1, HV.int .i64 x.2.2.2]) (fun x : Bool => HV.bool x) [] ((fun _ => none) : ((Int × Int × Int × Int) → Option Bool)) := MR.nil (KD.row (KRw.cons (KRw.cons (KRw.cons KRw.one))))
  refine v_mm st (fun b14 h15 n16 st => ?_); refine v_move ?_; refine r_nil (th_n ?_); refine w_seq ?_; refine w_seq (w_reg ?_); refine v_move ?_; refine v_len ?_; refine v_move ?_; refine r_nil (th_n ?_); refine w_block ?_; obtain ⟨y38, hy, hF⟩ := bnd_some hF; refine v_loopD (sf135_L1 N a1) (fun x18 T ds19 h nx => ∃ (F19 : PH) (es20 : List (HV × HV)), ds19 = [] ∧ PH.le F0 F19 ∧ St n0 h0 F0 F19 h nx [.bx b1 [(i64 a0_0), (i64 a0_1), (i64 a0_2), (i64 a0_3)], .bx b4 ([(i64 x18.2.2.2.2.2.2.2.2.1), (i64 x18.2.2.2.2.2.2.2.2.2.1), (i64 x18.2.2.2.2.2.2.2.2.2.2.1), (i64 x18.2.2.2.2.2.2.2.2.2.2.2.1), (i64 x18.2.2.2.2.2.2.2.2.2.2.2.2.1)] ++ (eI .i64 169 x18.2.2.2.2.2.2.2.2.2.2.2.2.2)), .bx b10 ([(i64 x18.2.2.1), (i64 x18.2.2.2.1), (i64 x18.2.2.2.2.1), (i64 x18.2.2.2.2.2.1), (i64 x18.2.2.2.2.2.2.1)] ++ (eI .i64 169 x18.2.2.2.2.2.2.2.1)), .any b14 (.map es20)] ∧ MR (.row [.i .i64, .i .i64, .i .i64, .i .i64]) (fun x : (Int × Int × Int × Int) => HV.agg [HV.int .i64 x.1, HV.int .i64 x.2.1, HV.int .i64 x.2.2.1, HV.int .i64 x.2.2.2]) (fun x : Bool => HV.bool x) es20 x18.2.1 ∧ T.get 4 = some (.ptr (some (b4, 0))) ∧ T.get 6 = some (.ptr (some (b10, 0))) ∧ T.get 8 = some (.map (some b14)) ∧ T.get 14 = some (.slice pa1 (a1).length ca1) ∧ T.get 15 = some (i64 ((a1).length : Int)) ∧ T.get 16 = some (i64 x18.1)) (fun y e a σ => (∃ u, y = (.inl u) ∧ e = .ret ∧ a.nt = 36 ∧ ∃ (F40 : PH) (es41 : List (HV × HV)), a.defers = [] ∧ PH.le F0 F40 ∧ St n0 h0 F0 F40 σ.h σ.nx [.bx b1 [(i64 a0_0), (i64 a0_1), (i64 a0_2), (i64 a0_3)], .bx b4 ([(i64 u.2.2.2.2.2.2.2.1), (i64 u.2.2.2.2.2.2.2.2.1), (i64 u.2.2.2.2.2.2.2.2.2.1), (i64 u.2.2.2.2.2.2.2.2.2.2.1), (i64 u.2.2.2.2.2.2.2.2.2.2.2.1)] ++ (eI .i64 169 u.2.2.2.2.2.2.2.2.2.2.2.2)), .bx b10 ([(i64 u.2.1), (i64 u.2.2.1), (i64 u.2.2.2.1), (i64 u.2.2.2.2.1), (i64 u.2.2.2.2.2.1)] ++ (eI .i64 169 u.2.2.2.2.2.2.1)), .any b14 (.map es41)] ∧ MR (.row [.i .i64, .i .i64, .i .i64, .i .i64]) (fun x : (Int × Int × Int × Int) => HV.agg [HV.int .i64 x.1, HV.int .i64 x.2.1, HV.int .i64 x.2.2.1, HV.int .i64 x.2.2.2]) (fun x : Bool => HV.bool x) es41 u.1 ∧ a.tmps.get 4 = some (.ptr (some (b4, 0))) ∧ a.tmps.get 5 = some (.bool false)) ∨ (∃ u, y = (.inr u) ∧ e = .exit 0 ∧ a.nt = 36 ∧ ∃ (F43 : PH) (es44 : List (HV × HV)), a.defers = [] ∧ PH.le F0 F43 ∧ St n0 h0 F0 F43 σ.h σ.nx [.bx b1 [(i64 a0_0), (i64 a0_1), (i64 a0_2), (i64 a0_3)], .bx b4 ([(i64 u.2.2.2.2.2.2.2.1), (i64 u.2.2.2.2.2.2.2.2.1), (i64 u.2.2.2.2.2.2.2.2.2.1), (i64 u.2.2.2.2.2.2.2.2.2.2.1), (i64 u.2.2.2.2.2.2.2.2.2.2.2.1)] ++ (eI .i64 169 u.2.2.2.2.2.2.2.2.2.2.2.2)), .bx b10 ([(i64 u.2.1), (i64 u.2.2.1), (i64 u.2.2.2.1), (i64 u.2.2.2.2.1), (i64 u.2.2.2.2.2.1)] ++ (eI .i64 169 u.2.2.2.2.2.2.1)), .any b14 (.map es44)] ∧ MR (.row [.i .i64, .i .i64, .i .i64, .i .i64]) (fun x : (Int × Int × Int × Int) => HV.agg [HV.int .i64 x.1, HV.int .i64 x.2.1, HV.int .i64 x.2.2.1, HV.int .i64 x.2.2.2]) (fun x : Bool => HV.bool x) es44 u.1 ∧ a.tmps.get 4 = some (.ptr (some (b4, 0))) ∧ a.tmps.get 6 = some (.ptr (some (b10, 0))))) (fun x18 T ds19 h nx s hp hF => ?_) N _ y38 _ _ _ _ hy ⟨F0, [], rfl, (PH.le.refl _), st, w17, gA, gA, gA, gA, gA, gA⟩ (fun e a σ hne hq => ?_)
  · obtain ⟨F19, es20, rfl, le19, st, w20, t4, t6, t8, t14, t15, t16⟩ := hp; unfold sf135_L1 at hF; unfold L135w0; refine w_seq (w_reg ?_); refine v_lss ?_; refine r_nil (th_n ?_); refine w_seq ?_; refine v_cond (fun hb45 => ?_) (fun hb45 => ?_)
    · have hF := bif_t hb45 hF; refine w_skip (th_n ?_); refine w_seq ?_; refine w_block ?_; refine w_seq (w_reg ?_); obtain ⟨n46, x46, z46, l46, g46, hF⟩ := ix_some hF; obtain ⟨b46, o46, s46, j46, r46, e46, f46, k46, ⟨_, _, rfl, rfl, ⟨_, _, rfl, rfl, ⟨_, _, rfl, rfl, rfl⟩⟩⟩⟩ := RowF.get ra1 g46; refine v_ixp e46 z46 l46 ?_; refine v_ldn (st.sub _ _ (le19 _ _ f46)) k46 ?_; refine v_alloc st (fun b47 h48 n49 st => ?_); refine v_st (cs' := [(i64 x46.1), (i64 x46.2.1), (i64 x46.2.2.1), (i64 x46.2.2.2)]) st 4 rfl rfl rfl rfl hfl (fun h50 st => ?_); refine r_nil (th_n ?_); refine w_seq ?_; refine w_seq (w_reg ?_); refine v_move ?_; refine v_ldn (vs := [(i64 x46.1), (i64 x46.2.1), (i64 x46.2.2.1), (i64 x46.2.2.2)]) (st.at (i := 4) rfl).2.2 rfl ?_
      refine v_lk1 w20 (st.at (i := 3) rfl).2.2 (x46.1, x46.2.1, x46.2.2.1, x46.2.2.2) false (kv := (.agg [(i64 x46.1), (i64 x46.2.1), (i64 x46.2.2.1), (i64 x46.2.2.2)])) rfl rfl ?_; refine r_nil (th_n ?_); refine v_cond (fun hb51 => ?_) (fun hb51 => ?_)
      · have hF := bif_t hb51 hF; refine w_exit ?_; refine th_e ?_; refine ib_e ?_; refine th_n ?_; refine w_reg ?_; obtain ⟨q52, hF⟩ := ck_some hF; refine v_add q52 ?_; refine v_move ?_; refine r_nil ?_; refine thn ⟨_, (inj hF).symm, rfl, ?_⟩; dsimp only
        exact ⟨F19, es20, rfl, le19, (st.drop (by first | exact List.Sublist.refl _ | (repeat first | exact List.nil_sublist _ | refine List.Sublist.cons_cons _ ?_ | refine List.Sublist.cons _ ?_))), w20, gA, gA, gA, gA, gA, gA⟩
      · have hF := bif_f hb51 hF; refine w_skip (th_n ?_); refine w_seq (w_reg ?_); refine v_move ?_; refine v_ldn (vs := [(i64 x46.1), (i64 x46.2.1), (i64 x46.2.2.1), (i64 x46.2.2.2)]) (st.at (i := 4) rfl).2.2 rfl ?_; refine v_mu st 3 rfl w20 (x46.1, x46.2.1, x46.2.2.1, x46.2.2.2) true (kv := (.agg [(i64 x46.1), (i64 x46.2.1), (i64 x46.2.2.1), (i64 x46.2.2.2)])) (vv := (.bool true)) rfl rfl hfl (fun es53 h54 w53 st => ?_); refine r_nil (th_n ?_); refine w_seq (w_reg ?_); refine v_ldn (vs := ([(i64 x18.2.2.1), (i64 x18.2.2.2.1), (i64 x18.2.2.2.2.1), (i64 x18.2.2.2.2.2.1), (i64 x18.2.2.2.2.2.2.1)] ++ (eI .i64 169 x18.2.2.2.2.2.2.2.1))) (st.at (i := 2) rfl).2.2 (tk_tail (E := (eI .i64 169 x18.2.2.2.2.2.2.2.1)) [] [(i64 x18.2.2.1), (i64 x18.2.2.2.1), (i64 x18.2.2.2.2.1), (i64 x18.2.2.2.2.2.1), (i64 x18.2.2.2.2.2.2.1)] rfl eI_len rfl) ?_
        refine v_ldn (vs := [(i64 x46.1), (i64 x46.2.1), (i64 x46.2.2.1), (i64 x46.2.2.2)]) (st.at (i := 4) rfl).2.2 rfl ?_; obtain ⟨v55, e56, hF⟩ := bnd_some hF; refine v_call st (ct154 N e56 st.d st.sub ) (fun n57 st => ?_); refine v_move ?_; refine v_xt rfl ?_; refine v_xt rfl ?_
        refine v_st (v := (.agg ([(i64 v55.1), (i64 v55.2.1), (i64 v55.2.2.1), (i64 v55.2.2.2.1), (i64 v55.2.2.2.2.1)] ++ (eI .i64 169 v55.2.2.2.2.2.1)))) (cs' := ([(i64 v55.1), (i64 v55.2.1), (i64 v55.2.2.1), (i64 v55.2.2.2.1), (i64 v55.2.2.2.2.1)] ++ (eI .i64 169 v55.2.2.2.2.2.1))) st 2 rfl (ov_tail (q := ([(i64 x18.2.2.1), (i64 x18.2.2.2.1), (i64 x18.2.2.2.2.1), (i64 x18.2.2.2.2.2.1), (i64 x18.2.2.2.2.2.2.1)] ++ (eI .i64 169 x18.2.2.2.2.2.2.2.1))) (r := ([(i64 v55.1), (i64 v55.2.1), (i64 v55.2.2.1), (i64 v55.2.2.2.1), (i64 v55.2.2.2.2.1)] ++ (eI .i64 169 v55.2.2.2.2.2.1))) [] rfl (by simp [eI_len, eB_len])) (len_tail (E := (eI .i64 169 v55.2.2.2.2.2.1)) [(i64 v55.1), (i64 v55.2.1), (i64 v55.2.2.1), (i64 v55.2.2.2.1), (i64 v55.2.2.2.2.1)] eI_len rfl) (one_tail (E := (eI .i64 169 v55.2.2.2.2.2.1)) [(i64 v55.1), (i64 v55.2.1), (i64 v55.2.2.1), (i64 v55.2.2.2.1), (i64 v55.2.2.2.2.1)] rfl eI_one) hfl (fun h58 st => ?_)
        refine v_move ?_; refine r_nil (th_n ?_); refine w_seq (w_reg ?_); refine v_move ?_; refine v_not ?_; refine r_nil (th_n ?_); refine v_cond (fun hb59 => ?_) (fun hb59 => ?_)
        · have hF := bif_t hb59 hF; refine w_seq (w_reg ?_); refine v_build (cs := ([(i64 (0 : Int)), (i64 (0 : Int)), (i64 (0 : Int)), (i64 (0 : Int)), (i64 (0 : Int))] ++ (eI .i64 169 (fun _ => 0)))) rfl ?_
          refine v_st (v := (.agg ([(i64 (0 : Int)), (i64 (0 : Int)), (i64 (0 : Int)), (i64 (0 : Int)), (i64 (0 : Int))] ++ (eI .i64 169 (fun _ => 0))))) (cs' := ([(i64 (0 : Int)), (i64 (0 : Int)), (i64 (0 : Int)), (i64 (0 : Int)), (i64 (0 : Int))] ++ (eI .i64 169 (fun _ => 0)))) st 1 rfl (ov_tail (q := ([(i64 x18.2.2.2.2.2.2.2.2.1), (i64 x18.2.2.2.2.2.2.2.2.2.1), (i64 x18.2.2.2.2.2.2.2.2.2.2.1), (i64 x18.2.2.2.2.2.2.2.2.2.2.2.1), (i64 x18.2.2.2.2.2.2.2.2.2.2.2.2.1)] ++ (eI .i64 169 x18.2.2.2.2.2.2.2.2.2.2.2.2.2))) (r := ([(i64 (0 : Int)), (i64 (0 : Int)), (i64 (0 : Int)), (i64 (0 : Int)), (i64 (0 : Int))] ++ (eI .i64 169 (fun _ => 0)))) [] rfl (by simp [eI_len, eB_len])) (len_tail (E := (eI .i64 169 (fun _ => 0))) [(i64 (0 : Int)), (i64 (0 : Int)), (i64 (0 : Int)), (i64 (0 : Int)), (i64 (0 : Int))] eI_len rfl) (one_tail (E := (eI .i64 169 (fun _ => 0))) [(i64 (0 : Int)), (i64 (0 : Int)), (i64 (0 : Int)), (i64 (0 : Int)), (i64 (0 : Int))] rfl eI_one) hfl (fun h60 st => ?_)
          refine v_move ?_; refine r_nil (th_n ?_); refine w_ret ?_; refine ib_r ?_; refine th_r ?_; refine th_r ?_; refine ⟨_, (inj hF).symm, .inl ⟨_, rfl, rfl, rfl, ?_⟩⟩; dsimp only
          exact ⟨F19, es53, rfl, le19, (st.drop (by first | exact List.Sublist.refl _ | (repeat first | exact List.nil_sublist _ | refine List.Sublist.cons_cons _ ?_ | refine List.Sublist.cons _ ?_))), w53, gA, gA⟩
        · have hF := bif_f hb59 hF; refine w_skip ?_; refine ib_n ?_; refine th_n ?_; refine w_reg ?_; obtain ⟨q61, hF⟩ := ck_some hF; refine v_add q61 ?_; refine v_move ?_; refine r_nil ?_; refine thn ⟨_, (inj hF).symm, rfl, ?_⟩; dsimp only
          exact ⟨F19, es53, rfl, le19, (st.drop (by first | exact List.Sublist.refl _ | (repeat first | exact List.nil_sublist _ | refine List.Sublist.cons_cons _ ?_ | refine List.Sublist.cons _ ?_))), w53, gA, gA, gA, gA, gA, gA⟩
    · have hF := bif_f hb45 hF; refine w_exit ?_; refine th_e ?_; refine th_e ?_; refine ⟨_, (inj hF).symm, .inr (⟨_, rfl, rfl, rfl, ?_⟩)⟩; dsimp only
      exact ⟨F19, es20, rfl, le19, st, w20, gA, gA⟩
  · rcases hq with hq | hq
    · obtain ⟨N9, T, ds40⟩ := a; obtain ⟨h62, n63⟩ := σ; obtain ⟨w39, rfl, rfl, e1, F40, es41, e2, le40, st, w41, t4, t5⟩ := hq
      dsimp only at e1 e2
      subst e1
      subst e2
      dsimp only at st t4 t5
      have hF := sel_l hF; refine ib_r ?_; refine th_r ?_; obtain rfl := inj hF
      exact end_s st (Res.c gA (st.at (i := 1) rfl).2.2 (show takeN _ _ = some ([(i64 w39.2.2.2.2.2.2.2.1), (i64 w39.2.2.2.2.2.2.2.2.1), (i64 w39.2.2.2.2.2.2.2.2.2.1), (i64 w39.2.2.2.2.2.2.2.2.2.2.1), (i64 w39.2.2.2.2.2.2.2.2.2.2.2.1)] ++ (eI .i64 169 w39.2.2.2.2.2.2.2.2.2.2.2.2)) from (tk_tail (E := (eI .i64 169 w39.2.2.2.2.2.2.2.2.2.2.2.2)) [] [(i64 w39.2.2.2.2.2.2.2.1), (i64 w39.2.2.2.2.2.2.2.2.1), (i64 w39.2.2.2.2.2.2.2.2.2.1), (i64 w39.2.2.2.2.2.2.2.2.2.2.1), (i64 w39.2.2.2.2.2.2.2.2.2.2.2.1)] rfl eI_len rfl)) (Res.t gA Res.nil)) rfl rfl
    · obtain ⟨N9, T, ds43⟩ := a; obtain ⟨h64, n65⟩ := σ; obtain ⟨w42, rfl, rfl, e1, F43, es44, e2, le43, st, w44, t4, t6⟩ := hq
      dsimp only at e1 e2
      subst e1
      subst e2
      dsimp only at st t4 t6
      have hF := sel_r hF; refine ib_e ?_; refine th_n ?_; refine w_seq (w_reg ?_); refine v_ldn (vs := ([(i64 w42.2.1), (i64 w42.2.2.1), (i64 w42.2.2.2.1), (i64 w42.2.2.2.2.1), (i64 w42.2.2.2.2.2.1)] ++ (eI .i64 169 w42.2.2.2.2.2.2.1))) (st.at (i := 2) rfl).2.2 (tk_tail (E := (eI .i64 169 w42.2.2.2.2.2.2.1)) [] [(i64 w42.2.1), (i64 w42.2.2.1), (i64 w42.2.2.2.1), (i64 w42.2.2.2.2.1), (i64 w42.2.2.2.2.2.1)] rfl eI_len rfl) ?_
      refine v_st (v := (.agg ([(i64 w42.2.1), (i64 w42.2.2.1), (i64 w42.2.2.2.1), (i64 w42.2.2.2.2.1), (i64 w42.2.2.2.2.2.1)] ++ (eI .i64 169 w42.2.2.2.2.2.2.1)))) (cs' := ([(i64 w42.2.1), (i64 w42.2.2.1), (i64 w42.2.2.2.1), (i64 w42.2.2.2.2.1), (i64 w42.2.2.2.2.2.1)] ++ (eI .i64 169 w42.2.2.2.2.2.2.1))) st 1 rfl (ov_tail (q := ([(i64 w42.2.2.2.2.2.2.2.1), (i64 w42.2.2.2.2.2.2.2.2.1), (i64 w42.2.2.2.2.2.2.2.2.2.1), (i64 w42.2.2.2.2.2.2.2.2.2.2.1), (i64 w42.2.2.2.2.2.2.2.2.2.2.2.1)] ++ (eI .i64 169 w42.2.2.2.2.2.2.2.2.2.2.2.2))) (r := ([(i64 w42.2.1), (i64 w42.2.2.1), (i64 w42.2.2.2.1), (i64 w42.2.2.2.2.1), (i64 w42.2.2.2.2.2.1)] ++ (eI .i64 169 w42.2.2.2.2.2.2.1))) [] rfl (by simp [eI_len, eB_len])) (len_tail (E := (eI .i64 169 w42.2.2.2.2.2.2.1)) [(i64 w42.2.1), (i64 w42.2.2.1), (i64 w42.2.2.2.1), (i64 w42.2.2.2.2.1), (i64 w42.2.2.2.2.2.1)] eI_len rfl) (one_tail (E := (eI .i64 169 w42.2.2.2.2.2.2.1)) [(i64 w42.2.1), (i64 w42.2.2.1), (i64 w42.2.2.2.1), (i64 w42.2.2.2.2.1), (i64 w42.2.2.2.2.2.1)] rfl eI_one) hfl (fun h66 st => ?_)
      refine v_move ?_; refine r_nil (th_n ?_); refine w_ret ?_; obtain rfl := inj hF
      exact end_s st (Res.c gA (st.at (i := 1) rfl).2.2 (show takeN _ _ = some ([(i64 w42.2.1), (i64 w42.2.2.1), (i64 w42.2.2.2.1), (i64 w42.2.2.2.2.1), (i64 w42.2.2.2.2.2.1)] ++ (eI .i64 169 w42.2.2.2.2.2.2.1)) from (tk_tail (E := (eI .i64 169 w42.2.2.2.2.2.2.1)) [] [(i64 w42.2.1), (i64 w42.2.2.1), (i64 w42.2.2.2.1), (i64 w42.2.2.2.2.1), (i64 w42.2.2.2.2.2.1)] rfl eI_len rfl)) (Res.t gA Res.nil)) rfl rfl
theorem ct155 (N : Nat) {a0 : (List (Int × Int))} {r : Bool} (hF : sf155 N a0 = some r) (hd : D h0 n0) (hs : F0.sub h0) {pa0 : Option (Nat × Nat)} {ca0 : Nat} (ra0 : RowF (rP rI rI) 2 F0 pa0 ca0 a0) : C LW fl 155 [(.slice pa0 (a0).length ca0), (.func 156 [] [])] ⟨h0, n0⟩ (KS (.bool r) n0 h0) := by
  unfold sf155 at hF
  refine in_cT hd hs lw155 rfl rfl (by rfl) (fun st T hT => ?_)
  have hfl : n0 ≤ n0 := Nat.le_refl n0
  have t0 := hT 0 _ rfl
  have t1 := hT 1 _ rfl
  dsimp only [L155]
  refine w_seq (w_reg ?_); refine v_move ?_; refine r_nil (th_n ?_); refine w_seq ?_; refine w_seq (w_reg ?_); refine v_move ?_; refine v_len ?_; refine v_move ?_; refine r_nil (th_n ?_); refine w_block ?_; obtain ⟨y14, hy, hF⟩ := bnd_some hF; refine v_loopD (sf155_L1 N a0) (fun x1 T ds2 h nx => ∃ (F2 : PH), ds2 = [] ∧ PH.le F0 F2 ∧ St n0 h0 F0 F2 h nx [] ∧ T.get 1 = some (.func 156 [] []) ∧ T.get 7 = some (.slice pa0 (a0).length ca0) ∧ T.get 8 = some (i64 ((a0).length : Int)) ∧ T.get 9 = some (i64 x1)) (fun y e a σ => (∃ u, y = (.inl u) ∧ e = .ret ∧ a.nt = 18 ∧ ∃ (F16 : PH), a.defers = [] ∧ PH.le F0 F16 ∧ St n0 h0 F0 F16 σ.h σ.nx [] ∧ a.tmps.get 4 = some (.bool false)) ∨ (∃ u, y = (.inr u) ∧ e = .exit 0 ∧ a.nt = 18 ∧ ∃ (F18 : PH), a.defers = [] ∧ PH.le F0 F18 ∧ St n0 h0 F0 F18 σ.h σ.nx [])) (fun x1 T ds2 h nx s hp hF => ?_) N _ y14 _ _ _ _ hy ⟨F0, rfl, (PH.le.refl _), st, gA, gA, gA, gA⟩ (fun e a σ hne hq => ?_)
  · obtain ⟨F2, rfl, le2, st, t1, t7, t8, t9⟩ := hp; unfold sf155_L1 at hF; unfold L155w0; refine w_seq (w_reg ?_); refine v_lss ?_; refine r_nil (th_n ?_); refine w_seq ?_; refine v_cond (fun hb19 => ?_) (fun hb19 => ?_)
    · have hF := bif_t hb19 hF; refine w_skip (th_n ?_); refine w_seq ?_; refine w_block ?_; refine w_seq (w_reg ?_); obtain ⟨n20, x20, z20, l20, g20, hF⟩ := ix_some hF; obtain ⟨b20, o20, s20, j20, r20, e20, f20, k20, ⟨_, _, rfl, rfl, rfl⟩⟩ := RowF.get ra0 g20; refine v_ixp e20 z20 l20 ?_; refine v_ldn (st.sub _ _ (le2 _ _ f20)) k20 ?_; refine v_alloc st (fun b21 h22 n23 st => ?_); refine v_st (cs' := [(i64 x20.1), (i64 x20.2)]) st 0 rfl rfl rfl rfl hfl (fun h24 st => ?_); refine r_nil (th_n ?_); refine w_seq (w_reg ?_); refine v_move ?_; refine v_ldn (vs := [(i64 x20.1), (i64 x20.2)]) (st.at (i := 0) rfl).2.2 rfl ?_; obtain ⟨v25, e26, hF⟩ := bnd_some hF; refine v_call st (ct156 N e26 st.d st.sub ) (fun n27 st => ?_)
      refine v_not ?_; refine r_nil (th_n ?_); refine v_cond (fun hb28 => ?_) (fun hb28 => ?_)
      · have hF := bif_t hb28 hF; refine w_seq (w_reg ?_); refine v_move ?_; refine r_nil (th_n ?_); refine w_ret ?_; refine ib_r ?_; refine th_r ?_; refine th_r ?_; refine ⟨_, (inj hF).symm, .inl ⟨_, rfl, rfl, rfl, ?_⟩⟩; dsimp only
        exact ⟨F2, rfl, le2, (st.drop (by first | exact List.Sublist.refl _ | (repeat first | exact List.nil_sublist _ | refine List.Sublist.cons_cons _ ?_ | refine List.Sublist.cons _ ?_))), gA⟩
      · have hF := bif_f hb28 hF; refine w_skip ?_; refine ib_n ?_; refine th_n ?_; refine w_reg ?_; obtain ⟨q29, hF⟩ := ck_some hF; refine v_add q29 ?_; refine v_move ?_; refine r_nil ?_; refine thn ⟨_, (inj hF).symm, rfl, ?_⟩; dsimp only
        exact ⟨F2, rfl, le2, (st.drop (by first | exact List.Sublist.refl _ | (repeat first | exact List.nil_sublist _ | refine List.Sublist.cons_cons _ ?_ | refine List.Sublist.cons _ ?_))), gA, gA, gA, gA⟩
    · have hF := bif_f hb19 hF; refine w_exit ?_; refine th_e ?_; refine th_e ?_; refine ⟨_, (inj hF).symm, .inr (⟨_, rfl, rfl, rfl, ?_⟩)⟩; dsimp only
      exact ⟨F2, rfl, le2, st⟩
  · rcases hq with hq | hq
    · obtain ⟨N9, T, ds16⟩ := a; obtain ⟨h30, n31⟩ := σ; obtain ⟨w15, rfl, rfl, e1, F16, e2, le16, st, t4⟩ := hq
      dsimp only at e1 e2
      subst e1
      subst e2
      dsimp only at st t4
      have hF := sel_l hF; refine ib_r ?_; refine th_r ?_; obtain rfl := inj hF
      exact end_s st (Res.t gA Res.nil) rfl rfl
    · obtain ⟨N9, T, ds18⟩ := a; obtain ⟨h32, n33⟩ := σ; obtain ⟨w17, rfl, rfl, e1, F18, e2, le18, st⟩ := hq
      dsimp only at e1 e2
      subst e1
      subst e2
      dsimp only at st
      have hF := sel_r hF; refine ib_e ?_; refine th_n ?_; refine w_seq (w_reg ?_); refine v_move ?_; refine r_nil (th_n ?_); refine w_ret ?_; obtain rfl := inj hF
      exact end_s st (Res.t gA Res.nil) rfl rfl
end Go.Hx.V

namespace Go.Hx.V
open Go.Hx
set_option maxRecDepth 20000
set_option maxHeartbeats 4000000
variable {fl : Nat} {h0 : Tr HBlk} {n0 : Nat} {F0 : PH}
attribute [local irreducible] W R C thenH inBlockH Tr.get Tr.set lo ck bnd ix iter
theorem ct104 (N : Nat) {a0 : (List (Int × Int))} {a1_0 a1_1 a2 : Int} {r : (Nat → Int)} (hF : sf104 N a0 a1_0 a1_1 a2 = some r) (hd : D h0 n0) (hs : F0.sub h0) {pa0 : Option (Nat × Nat)} {ca0 : Nat} (ra0 : RowF (rP rI rI) 2 F0 pa0 ca0 a0) : C LW fl 104 [(.slice pa0 (a0).length ca0), (.agg [(i64 a1_0), (i64 a1_1)]), (i64 a2)] ⟨h0, n0⟩ (KS (.agg (eI .i64 22 r)) n0 h0) := by
  unfold sf104 at hF
  refine in_cT hd hs lw104 rfl rfl (by rfl) (fun st T hT => ?_)
  have hfl : n0 ≤ n0 := Nat.le_refl n0
  have t0 := hT 0 _ rfl
  have t1 := hT 1 _ rfl
  have t2 := hT 2 _ rfl
  dsimp only [L104]
  refine w_seq (w_reg ?_); refine v_box st (fun b1 h2 n3 st => ?_); refine v_alloc st (fun b4 h5 n6 st => ?_)
  have st := st.cells 1 rfl (eI .i64 22 (fun _ => 0)) rfl
  refine r_nil (th_n ?_); refine w_seq (w_reg ?_); refine v_alloc st (fun b7 h8 n9 st => ?_)
  have st := st.cells 2 rfl (eI .i64 22 (fun _ => 0)) rfl
  refine r_nil (th_n ?_); refine w_seq ?_; refine w_seq (w_reg ?_); refine v_move ?_; refine v_len ?_; refine v_move ?_; refine r_nil (th_n ?_); refine w_block ?_; obtain ⟨y26, hy, hF⟩ := bnd_some hF; refine v_loopD (sf104_L1 N a0 a1_0 a1_1 a2) (fun x10 T ds11 h nx => ∃ (F11 : PH), ds11 = [] ∧ PH.le F0 F11 ∧ St n0 h0 F0 F11 h nx [.bx b1 [(i64 a1_0), (i64 a1_1)], .bx b4 (eI .i64 22 (fun _ => 0)), .bx b7 (eI .i64 22 x10.2)] ∧ T.get 2 = some (i64 a2) ∧ T.get 4 = some (.ptr (some (b1, 0))) ∧ T.get 6 = some (.ptr (some (b4, 0))) ∧ T.get 7 = some (.ptr (some (b7, 0))) ∧ T.get 10 = some (.slice pa0 (a0).length ca0) ∧ T.get 11 = some (i64 ((a0).length : Int)) ∧ T.get 12 = some (i64 x10.1)) (fun y e a σ => e = .exit 0 ∧ a.nt = 36 ∧ ∃ (F27 : PH), a.defers = [] ∧ PH.le F0 F27 ∧ St n0 h0 F0 F27 σ.h σ.nx [.bx b1 [(i64 a1_0), (i64 a1_1)], .bx b4 (eI .i64 22 (fun _ => 0)), .bx b7 (eI .i64 22 y)] ∧ a.tmps.get 6 = some (.ptr (some (b4, 0))) ∧ a.tmps.get 7 = some (.ptr (some (b7, 0)))) (fun x10 T ds11 h nx s hp hF => ?_) N _ y26 _ _ _ _ hy ⟨F0, rfl, (PH.le.refl _), st, gA, gA, gA, gA, gA, gA, gA⟩ (fun e a σ hne hq => ?_)
  · obtain ⟨F11, rfl, le11, st, t2, t4, t6, t7, t10, t11, t12⟩ := hp; unfold sf104_L1 at hF; unfold L104w0; refine w_seq (w_reg ?_); refine v_lss ?_; refine r_nil (th_n ?_); refine w_seq ?_; refine v_cond (fun hb28 => ?_) (fun hb28 => ?_)
    · have hF := bif_t hb28 hF; refine w_skip (th_n ?_); refine w_seq ?_; refine w_block ?_; refine w_seq (w_reg ?_); refine v_move ?_; obtain ⟨n29, x29, z29, l29, g29, hF⟩ := ix_some hF; obtain ⟨b29, o29, s29, j29, r29, e29, f29, k29, ⟨_, _, rfl, rfl, rfl⟩⟩ := RowF.get ra0 g29; refine v_ixp e29 z29 l29 ?_; refine v_ldn (st.sub _ _ (le11 _ _ f29)) k29 ?_; refine v_alloc st (fun b30 h31 n32 st => ?_); refine v_move ?_; refine v_st (cs' := [(i64 x29.1), (i64 x29.2)]) st 3 rfl rfl rfl rfl hfl (fun h33 st => ?_); refine r_nil (th_n ?_); refine w_reg ?_; refine v_move ?_; refine v_fa ?_; refine v_ld1 (st.at (i := 3) rfl).2.2 rfl ?_; refine v_fa ?_; refine v_ld1 (st.at (i := 0) rfl).2.2 rfl ?_
      obtain ⟨q34, hF⟩ := ck_some hF; refine v_mul q34 ?_; refine v_move ?_; refine v_build (cs := [(i64 (x29.1 * a1_0)), (i64 a2)]) rfl ?_; refine v_fa ?_; refine v_ld1 (st.at (i := 3) rfl).2.2 rfl ?_; refine v_fa ?_; refine v_ld1 (st.at (i := 0) rfl).2.2 rfl ?_; obtain ⟨q35, hF⟩ := ck_some hF; refine v_mul q35 ?_; refine v_move ?_; refine v_build (cs := [(i64 (x29.2 * a1_1)), (i64 a2)]) rfl ?_; obtain ⟨v36, e37, hF⟩ := bnd_some hF; refine v_call st (ct142 N e37 st.d st.sub ) (fun n38 st => ?_); obtain ⟨q39, hF⟩ := ck_some hF
      refine v_ixa (j := (Int.toNat x10.1)) (Int.toNat_of_nonneg q39.1).symm (by omega) ?_
      refine v_st (o := (0 + (Int.toNat x10.1) * 2)) (v := (.agg [(i64 v36.1), (i64 v36.2)])) (cs' := (eI .i64 22 (ups (ups x10.2 ((Int.toNat x10.1) * 2) v36.1) (((Int.toNat x10.1) * 2) + 1) v36.2))) st 2 rfl (V.ar_set20 (ix := ((Int.toNat x10.1) * 2)) (by omega) (by omega)) rfl rfl hfl (fun h40 st => ?_)
      refine r_nil ?_; refine ib_n ?_; refine th_n ?_; refine w_reg ?_; obtain ⟨q41, hF⟩ := ck_some hF; refine v_add q41 ?_; refine v_move ?_; refine r_nil ?_; refine thn ⟨_, (inj hF).symm, rfl, ?_⟩; dsimp only
      exact ⟨F11, rfl, le11, (st.drop (by first | exact List.Sublist.refl _ | (repeat first | exact List.nil_sublist _ | refine List.Sublist.cons_cons _ ?_ | refine List.Sublist.cons _ ?_))), gA, gA, gA, gA, gA, gA, gA⟩
    · have hF := bif_f hb28 hF; refine w_exit ?_; refine th_e ?_; refine th_e ?_; refine ⟨_, (inj hF).symm, rfl, rfl, ?_⟩; dsimp only
      exact ⟨F11, rfl, le11, st, gA, gA⟩
  · obtain ⟨N9, T, ds27⟩ := a; obtain ⟨h42, n43⟩ := σ; obtain ⟨rfl, e1, F27, e2, le27, st, t6, t7⟩ := hq
    dsimp only at e1 e2
    subst e1
    subst e2
    dsimp only at st t6 t7
    refine ib_e ?_; refine th_n ?_; refine w_seq (w_reg ?_); refine v_ldn (vs := (eI .i64 22 y26)) (st.at (i := 2) rfl).2.2 (tk_tail (E := (eI .i64 22 y26)) [] [] rfl eI_len rfl) ?_
    refine v_st (v := (.agg (eI .i64 22 y26))) (cs' := (eI .i64 22 y26)) st 1 rfl (ov_tail (q := (eI .i64 22 (fun _ => 0))) (r := (eI .i64 22 y26)) [] rfl (by simp [eI_len, eB_len])) (len_tail (E := (eI .i64 22 y26)) [] eI_len rfl) (one_tail (E := (eI .i64 22 y26)) [] rfl eI_one) hfl (fun h44 st => ?_)
    refine r_nil (th_n ?_); refine w_ret ?_; obtain rfl := inj hF
    exact end_s st (Res.c gA (st.at (i := 1) rfl).2.2 (show takeN _ _ = some (eI .i64 22 y26) from (tk_tail (E := (eI .i64 22 y26)) [] [] rfl eI_len rfl)) Res.nil) rfl rfl
theorem ct106 (N : Nat) {a0_0 a0_1 a0_2 a0_3 : Int} {a0_4 : (List (Int × Int × Int × Int))} {a0_5 : (List (Int × Int))} {a0_6 a0_7 a0_8 a0_9 : Int} {a0_10 : (Nat → Int)} {a1 : Int} {r : (Int × Int)} (hF : sf106 N a0_0 a0_1 a0_2 a0_3 a0_4 a0_5 a0_6 a0_7 a0_8 a0_9 a0_10 a1 = some r) (hd : D h0 n0) (hs : F0.sub h0) {pa0_4 : Option (Nat × Nat)} {ca0_4 : Nat} {pa0_5 : Option (Nat × Nat)} {ca0_5 : Nat} (ra0_4 : RowF (rP rI (rP rI (rP rI rI))) 4 F0 pa0_4 ca0_4 a0_4) (ra0_5 : RowF (rP rI rI) 2 F0 pa0_5 ca0_5 a0_5) : C LW fl 106 [(.agg ([(i64 a0_0), (i64 a0_1), (i64 a0_2), (i64 a0_3), (.slice pa0_4 (a0_4).length ca0_4), (.slice pa0_5 (a0_5).length ca0_5), (i64 a0_6), (i64 a0_7), (i64 a0_8), (i64 a0_9)] ++ (eI .i64 22 a0_10))), (i64 a1)] ⟨h0, n0⟩ (KS (.agg [(i64 r.1), (i64 r.2)]) n0 h0) := by
  unfold sf106 at hF
  refine in_cT hd hs lw106 rfl rfl (by rfl) (fun st T hT => ?_)
  have hfl : n0 ≤ n0 := Nat.le_refl n0
  have t0 := hT 0 _ rfl
  have t1 := hT 1 _ rfl
  dsimp only [L106]
  refine w_seq (w_reg ?_); refine v_box st (fun b1 h2 n3 st => ?_); refine v_alloc st (fun b4 h5 n6 st => ?_); refine r_nil (th_n ?_); refine w_seq (w_reg ?_); refine v_fa ?_; refine v_fa ?_; refine v_fa ?_; refine v_ld1 (st.at (i := 0) rfl).2.2 rfl ?_; refine v_move ?_; obtain ⟨q7, hF⟩ := ck_some hF; refine v_mul q7 ?_; refine v_build (cs := [(i64 (a0_8 * a1)), (i64 (100 : Int))]) rfl ?_; refine v_fa ?_; refine v_fa ?_; refine v_fa ?_; refine v_ld1 (st.at (i := 0) rfl).2.2 rfl ?_; refine v_move ?_; obtain ⟨q8, hF⟩ := ck_some hF; refine v_mul q8 ?_; refine v_build (cs := [(i64 (a0_9 * a1)), (i64 (100 : Int))]) rfl ?_; obtain ⟨v9, e10, hF⟩ := bnd_some hF; refine v_call st (ct142 N e10 st.d st.sub ) (fun n11 st => ?_)
  refine v_st (cs' := [(i64 v9.1), (i64 v9.2)]) st 1 rfl rfl rfl rfl hfl (fun h12 st => ?_); refine r_nil (th_n ?_); refine w_ret ?_; obtain rfl := inj hF
  exact end_s st (Res.c gA (st.at (i := 1) rfl).2.2 (show takeN _ _ = some [(i64 v9.1), (i64 v9.2)] from rfl) Res.nil) rfl rfl
theorem ct123 (N : Nat) {a0_0 a0_1 a0_2 a0_3 : Int} {r : Bool} (hF : sf123 N a0_0 a0_1 a0_2 a0_3 = some r) (hd : D h0 n0) (hs : F0.sub h0) : C LW fl 123 [(.agg [(i64 a0_0), (i64 a0_1), (i64 a0_2), (i64 a0_3)])] ⟨h0, n0⟩ (KS (.bool r) n0 h0) := by
  unfold sf123 at hF
  refine in_cT hd hs lw123 rfl rfl (by rfl) (fun st T hT => ?_)
  have hfl : n0 ≤ n0 := Nat.le_refl n0
  have t0 := hT 0 _ rfl
  dsimp only [L123]
  refine w_seq (w_reg ?_); refine v_box st (fun b1 h2 n3 st => ?_); refine v_move ?_; refine r_nil (th_n ?_); refine w_seq (w_reg ?_); refine v_fa ?_; refine v_ld1 (st.at (i := 0) rfl).2.2 rfl ?_; obtain ⟨v4, e5, hF⟩ := bnd_some hF; refine v_call st (ct98 N e5 st.d st.sub ) (fun n6 st => ?_); refine v_move ?_
  rcases Bool.eq_false_or_eq_true v4 with hb7 | hb7
  · have hF := bif_t hb7 hF; refine g_take hb7 (v_fa ?_); refine g_take hb7 (v_ldn (vs := [(i64 a0_2), (i64 a0_3)]) (st.at (i := 0) rfl).2.2 rfl ?_); obtain ⟨v8, e9, hF⟩ := bnd_some hF; refine g_take hb7 (v_call st (ct124 N e9 st.d st.sub ) (fun n10 st => ?_)); refine v_pick hb7 ?_; refine v_move ?_
    rcases Bool.eq_false_or_eq_true v8 with hb11 | hb11
    · have hF := bif_t hb11 hF; refine g_take hb11 (v_fa ?_); refine g_take hb11 (v_ld1 (st.at (i := 0) rfl).2.2 rfl ?_); obtain ⟨v12, e13, hF⟩ := bnd_some hF; refine g_take hb11 (v_call st (ct98 N e13 st.d st.sub ) (fun n14 st => ?_)); refine v_pick hb11 ?_; refine v_move ?_
      rcases Bool.eq_false_or_eq_true v12 with hb15 | hb15
      · have hF := bif_t hb15 hF; refine g_take hb15 (v_fa ?_); refine g_take hb15 (v_ld1 (st.at (i := 0) rfl).2.2 rfl ?_); refine g_take hb15 (v_fa ?_); refine g_take hb15 (v_ld1 (st.at (i := 0) rfl).2.2 rfl ?_); refine g_take hb15 (v_fa ?_); refine g_take hb15 (v_fa ?_); refine g_take hb15 (v_ld1 (st.at (i := 0) rfl).2.2 rfl ?_); obtain ⟨q16, hF⟩ := ck_some hF; refine g_take hb15 (v_mul q16 ?_); refine g_take hb15 (v_fa ?_); refine g_take hb15 (v_ld1 (st.at (i := 0) rfl).2.2 rfl ?_); refine g_take hb15 (v_fa ?_); refine g_take hb15 (v_fa ?_); refine g_take hb15 (v_ld1 (st.at (i := 0) rfl).2.2 rfl ?_); obtain ⟨q17, hF⟩ := ck_some hF; refine g_take hb15 (v_mul q17 ?_); obtain ⟨v18, e19, hF⟩ := bnd_some hF
        refine g_take hb15 (v_call st (ct98 N e19 st.d st.sub ) (fun n20 st => ?_)); refine v_pick hb15 ?_; refine v_move ?_; refine r_nil (th_n ?_); refine w_ret ?_; obtain rfl := inj hF
        exact end_s st (Res.t gA Res.nil) rfl rfl
      · have hF := bif_f hb15 hF; refine g_skip hb15 ?_; refine g_skip hb15 ?_; refine g_skip hb15 ?_; refine g_skip hb15 ?_; refine g_skip hb15 ?_; refine g_skip hb15 ?_; refine g_skip hb15 ?_; refine g_skip hb15 ?_; refine g_skip hb15 ?_; refine g_skip hb15 ?_; refine g_skip hb15 ?_; refine g_skip hb15 ?_; refine g_skip hb15 ?_; refine g_skip hb15 ?_; refine g_skip hb15 ?_; refine v_pick' hb15 ?_; refine v_move ?_; refine r_nil (th_n ?_); refine w_ret ?_; obtain rfl := inj hF
        exact end_s st (Res.t gA Res.nil) rfl rfl
    · have hF := bif_f hb11 hF; refine g_skip hb11 ?_; refine g_skip hb11 ?_; refine g_skip hb11 ?_; refine v_pick' hb11 ?_; refine v_move ?_; refine g_skip rfl ?_; refine g_skip rfl ?_; refine g_skip rfl ?_; refine g_skip rfl ?_; refine g_skip rfl ?_; refine g_skip rfl ?_; refine g_skip rfl ?_; refine g_skip rfl ?_; refine g_skip rfl ?_; refine g_skip rfl ?_; refine g_skip rfl ?_; refine g_skip rfl ?_; refine g_skip rfl ?_; refine g_skip rfl ?_; refine g_skip rfl ?_; refine v_pick' rfl ?_; refine v_move ?_; refine r_nil (th_n ?_); refine w_ret ?_; obtain rfl := inj hF
      exact end_s st (Res.t gA Res.nil) rfl rfl
  · have hF := bif_f hb7 hF; refine g_skip hb7 ?_; refine g_skip hb7 ?_; refine g_skip hb7 ?_; refine v_pick' hb7 ?_; refine v_move ?_; refine g_skip rfl ?_; refine g_skip rfl ?_; refine g_skip rfl ?_; refine v_pick' rfl ?_; refine v_move ?_; refine g_skip rfl ?_; refine g_skip rfl ?_; refine g_skip rfl ?_; refine g_skip rfl ?_; refine g_skip rfl ?_; refine g_skip rfl ?_; refine g_skip rfl ?_; refine g_skip rfl ?_; refine g_skip rfl ?_; refine g_skip rfl ?_; refine g_skip rfl ?_; refine g_skip rfl ?_; refine g_skip rfl ?_; refine g_skip rfl ?_; refine g_skip rfl ?_; refine v_pick' rfl ?_; refine v_move ?_; refine r_nil (th_n ?_); refine w_ret ?_; obtain rfl := inj hF
    exact end_s st (Res.t gA Res.nil) rfl rfl
end Go.Hx.V

namespace Go.Hx.V
open Go.Hx
set_option maxRecDepth 20000
set_option maxHeartbeats 4000000
variable {fl : Nat} {h0 : Tr HBlk} {n0 : Nat} {F0 : PH}
attribute [local irreducible] W R C thenH inBlockH Tr.get Tr.set lo ck bnd ix iter
end Go.Hx.V

namespace Go.Hx.V
open Go.Hx
set_option maxRecDepth 20000
set_option maxHeartbeats 4000000
variable {fl : Nat} {h0 : Tr HBlk} {n0 : Nat} {F0 : PH}
attribute [local irreducible] W R C thenH inBlockH Tr.get Tr.set lo ck bnd ix iter
theorem ct134 (N : Nat) {a0_0 a0_1 a0_2 a0_3 : Int} {a1 : (List (Int × Int × Int × Int))} {r : Int} (hF : sf134 N a0_0 a0_1 a0_2 a0_3 a1 = some r) (hd : D h0 n0) (hs : F0.sub h0) {pa1 : Option (Nat × Nat)} {ca1 : Nat} (ra1 : RowF (rP rI (rP rI (rP rI rI))) 4 F0 pa1 ca1 a1) : C LW fl 134 [(.agg [(i64 a0_0), (i64 a0_1), (i64 a0_2), (i64 a0_3)]), (.slice pa1 (a1).length ca1)] ⟨h0, n0⟩ (KS (i64 r) n0 h0) := by
  unfold sf134 at hF
  refine in_cT hd hs lw134 rfl rfl (by rfl) (fun st T hT => ?_)
  have hfl : n0 ≤ n0 := Nat.le_refl n0
  have t0 := hT 0 _ rfl
  have t1 := hT 1 _ rfl
  dsimp only [L134]
  refine w_seq (w_reg ?_); refine v_box st (fun b1 h2 n3 st => ?_); refine v_move ?_; refine r_nil (th_n ?_); refine w_seq ?_; refine w_seq (w_reg ?_); refine v_ldn (vs := [(i64 a0_0), (i64 a0_1), (i64 a0_2), (i64 a0_3)]) (st.at (i := 0) rfl).2.2 rfl ?_; obtain ⟨v4, e5, hF⟩ := bnd_some hF; refine v_call st (ct150 N e5 st.d st.sub ) (fun n6 st => ?_); refine v_move ?_; refine r_nil (th_n ?_); refine w_seq (w_reg ?_); refine v_move ?_; refine v_nei ?_; refine r_nil (th_n ?_); refine v_cond (fun hb7 => ?_) (fun hb7 => ?_)
  · have hF := bif_t hb7 hF; refine w_seq (w_reg ?_); refine v_move ?_; refine v_move ?_; refine r_nil (th_n ?_); refine w_ret ?_; refine th_r ?_; obtain rfl := inj hF
    exact end_s st (Res.t gA Res.nil) rfl rfl
  · have hF := bif_f hb7 hF; refine w_skip (th_n ?_); refine w_seq ?_; refine w_seq (w_reg ?_); refine v_move ?_; refine v_len ?_; refine v_gtr ?_; refine r_nil (th_n ?_); refine v_cond (fun hb8 => ?_) (fun hb8 => ?_)
    · have hF := bif_t hb8 hF; refine w_seq (w_reg ?_); refine v_move ?_; refine r_nil (th_n ?_); refine w_ret ?_; refine th_r ?_; obtain rfl := inj hF
      exact end_s st (Res.t gA Res.nil) rfl rfl
    · have hF := bif_f hb8 hF; refine w_skip (th_n ?_); refine w_seq ?_; refine w_seq (w_reg ?_); refine v_move ?_; refine v_ldn (vs := [(i64 a0_0), (i64 a0_1), (i64 a0_2), (i64 a0_3)]) (st.at (i := 0) rfl).2.2 rfl ?_; refine v_mf ?_; obtain ⟨v9, e10, hF⟩ := bnd_some hF; refine v_call st (ct151 N e10 st.d st.sub ra1) (fun n11 st => ?_); refine v_not ?_; refine r_nil (th_n ?_); refine v_cond (fun hb12 => ?_) (fun hb12 => ?_)
      · have hF := bif_t hb12 hF; refine w_seq (w_reg ?_); refine v_move ?_; refine r_nil (th_n ?_); refine w_ret ?_; refine th_r ?_; obtain rfl := inj hF
        exact end_s st (Res.t gA Res.nil) rfl rfl
      · have hF := bif_f hb12 hF; refine w_skip (th_n ?_); refine w_seq (w_reg ?_); refine v_move ?_; refine r_nil (th_n ?_); refine w_ret ?_; obtain rfl := inj hF
        exact end_s st (Res.t gA Res.nil) rfl rfl
theorem ct138 (N : Nat) {a0 : (List (Int × Int))} {r : Int} (hF : sf138 N a0 = some r) (hd : D h0 n0) (hs : F0.sub h0) {pa0 : Option (Nat × Nat)} {ca0 : Nat} (ra0 : RowF (rP rI rI) 2 F0 pa0 ca0 a0) : C LW fl 138 [(.slice pa0 (a0).length ca0)] ⟨h0, n0⟩ (KS (i64 r) n0 h0) := by
  unfold sf138 at hF
  refine in_cT hd hs lw138 rfl rfl (by rfl) (fun st T hT => ?_)
  have hfl : n0 ≤ n0 := Nat.le_refl n0
  have t0 := hT 0 _ rfl
  dsimp only [L138]
  refine w_seq (w_reg ?_); refine v_move ?_; refine r_nil (th_n ?_); refine w_seq ?_; refine w_seq (w_reg ?_); refine v_move ?_; refine v_len ?_; refine v_gtr ?_; refine r_nil (th_n ?_); refine v_cond (fun hb1 => ?_) (fun hb1 => ?_)
  · have hF := bif_t hb1 hF; refine w_seq (w_reg ?_); refine v_move ?_; refine r_nil (th_n ?_); refine w_ret ?_; refine th_r ?_; obtain rfl := inj hF
    exact end_s st (Res.t gA Res.nil) rfl rfl
  · have hF := bif_f hb1 hF; refine w_skip (th_n ?_); refine w_seq ?_; obtain ⟨y10, hA11, hF⟩ := bnd_some hF; refine w_cutD (fun T ds13 h nx => ∃ (F13 : PH), ds13 = [] ∧ PH.le F0 F13 ∧ St n0 h0 F0 F13 h nx [] ∧ T.get 18 = some (.bool y10)) ?_ (fun T ds13 h nx hp => ?_)
    · have hK12 := hF
      have hF := hA11; refine w_reg ?_; refine v_move ?_; refine v_len ?_; refine v_lss ?_; refine v_move ?_
      rcases Bool.eq_false_or_eq_true (decide (((a0).length : Int) < (2 : Int))) with hb14 | hb14
      · have hF := bif_t hb14 hF; refine g_skip hb14 ?_; refine g_skip hb14 ?_; refine g_skip hb14 ?_; refine v_pick hb14 ?_; refine v_move ?_; refine g_skip rfl ?_; refine g_skip rfl ?_; refine g_skip rfl ?_; refine v_pick rfl ?_; refine r_nil ?_; obtain rfl := inj hF; refine thn ⟨rfl, ?_⟩; dsimp only
        exact ⟨F0, rfl, (PH.le.refl _), st, gA⟩
      · have hF := bif_f hb14 hF; refine g_take hb14 (v_move ?_); obtain ⟨v15, e16, hF⟩ := bnd_some hF; refine g_take hb14 (v_call st (ct155 N e16 st.d st.sub ra0) (fun n17 st => ?_)); refine g_take hb14 (v_not ?_); refine v_pick' hb14 ?_; refine v_move ?_
        rcases Bool.eq_false_or_eq_true (!v15) with hb18 | hb18
        · have hF := bif_t hb18 hF; refine g_skip hb18 ?_; refine g_skip hb18 ?_; refine g_skip hb18 ?_; refine v_pick hb18 ?_; refine r_nil ?_; obtain rfl := inj hF; refine thn ⟨rfl, ?_⟩; dsimp only
          exact ⟨F0, rfl, (PH.le.refl _), st, gA⟩
        · have hF := bif_f hb18 hF; refine g_take hb18 (v_move ?_); obtain ⟨v19, e20, hF⟩ := bnd_some hF; refine g_take hb18 (v_call st (ct157 N e20 st.d st.sub ra0) (fun n21 st => ?_)); refine g_take hb18 (v_not ?_); refine v_pick' hb18 ?_; refine r_nil ?_; obtain rfl := inj hF; refine thn ⟨rfl, ?_⟩; dsimp only
          exact ⟨F0, rfl, (PH.le.refl _), st, gA⟩
    · obtain ⟨F13, rfl, le13, st, t18⟩ := hp; refine v_cond (fun hb22 => ?_) (fun hb22 => ?_)
      · have hF := bif_t hb22 hF; refine w_seq (w_reg ?_); refine v_move ?_; refine r_nil (th_n ?_); refine w_ret ?_; refine th_r ?_; obtain rfl := inj hF
        exact end_s st (Res.t gA Res.nil) rfl rfl
      · have hF := bif_f hb22 hF; refine w_skip (th_n ?_); refine w_seq (w_reg ?_); refine v_move ?_; refine r_nil (th_n ?_); refine w_ret ?_; obtain rfl := inj hF
        exact end_s st (Res.t gA Res.nil) rfl rfl
theorem ct68 (N : Nat) {a0_0 a0_1 a0_2 a0_3 : Int} {a0_4 : (List (Int × Int × Int × Int))} {a0_5 : (List (Int × Int))} {a0_6 a0_7 a0_8 a0_9 : Int} {a0_10 : (Nat → Int)} {a1 a2 : Int} {r : (Int × Int)} (hF : sf68 N a0_0 a0_1 a0_2 a0_3 a0_4 a0_5 a0_6 a0_7 a0_8 a0_9 a0_10 a1 a2 = some r) (hd : D h0 n0) (hs : F0.sub h0) {pa0_4 : Option (Nat × Nat)} {ca0_4 : Nat} {pa0_5 : Option (Nat × Nat)} {ca0_5 : Nat} (ra0_4 : RowF (rP rI (rP rI (rP rI rI))) 4 F0 pa0_4 ca0_4 a0_4) (ra0_5 : RowF (rP rI rI) 2 F0 pa0_5 ca0_5 a0_5) : C LW fl 68 [(.agg ([(i64 a0_0), (i64 a0_1), (i64 a0_2), (i64 a0_3), (.slice pa0_4 (a0_4).length ca0_4), (.slice pa0_5 (a0_5).length ca0_5), (i64 a0_6), (i64 a0_7), (i64 a0_8), (i64 a0_9)] ++ (eI .i64 22 a0_10))), (i64 a1), (i64 a2)] ⟨h0, n0⟩ (KS (.agg [(i64 r.1), (i64 r.2)]) n0 h0) := by
  unfold sf68 at hF
  refine in_cT hd hs lw68 rfl rfl (by rfl) (fun st T hT => ?_)
  have hfl : n0 ≤ n0 := Nat.le_refl n0
  have t0 := hT 0 _ rfl
  have t1 := hT 1 _ rfl
  have t2 := hT 2 _ rfl
  dsimp only [L68]
  refine w_seq (w_reg ?_); refine v_box st (fun b1 h2 n3 st => ?_); refine v_alloc st (fun b4 h5 n6 st => ?_); refine r_nil (th_n ?_); refine w_seq (w_reg ?_); refine v_ldn (vs := ([(i64 a0_0), (i64 a0_1), (i64 a0_2), (i64 a0_3), (.slice pa0_4 (a0_4).length ca0_4), (.slice pa0_5 (a0_5).length ca0_5), (i64 a0_6), (i64 a0_7), (i64 a0_8), (i64 a0_9)] ++ (eI .i64 22 a0_10))) (st.at (i := 0) rfl).2.2 (tk_tail (E := (eI .i64 22 a0_10)) [] [(i64 a0_0), (i64 a0_1), (i64 a0_2), (i64 a0_3), (.slice pa0_4 (a0_4).length ca0_4), (.slice pa0_5 (a0_5).length ca0_5), (i64 a0_6), (i64 a0_7), (i64 a0_8), (i64 a0_9)] rfl eI_len rfl) ?_; refine v_move ?_; obtain ⟨v7, e8, hF⟩ := bnd_some hF
  refine v_call st (ct106 N e8 st.d st.sub ra0_4 ra0_5) (fun n9 st => ?_); refine v_alloc st (fun b10 h11 n12 st => ?_); refine v_st (cs' := [(i64 v7.1), (i64 v7.2)]) st 2 rfl rfl rfl rfl hfl (fun h13 st => ?_); refine r_nil (th_n ?_); refine w_seq ?_; refine w_drawV (Nat.le_trans hfl st.ext.le) (fun dw => ?_); refine y_pure st.d dw (fun hm vw => v_move pr_nil) ?_; refine y_pure st.d dw (fun hm vw => v_fa pr_nil) ?_; obtain ⟨q14, hF⟩ := ck_some hF
  refine y_pure st.d dw (fun hm vw => v_ixa (j := (Int.toNat a1)) (Int.toNat_of_nonneg q14.1).symm (by omega) pr_nil) ?_
  refine y_pure st.d dw (fun hm vw => v_fa pr_nil) ?_
  refine y_pure st.d dw (fun hm vw => v_ld1 (o := ((10 + (Int.toNat a1) * 2) + 0)) (vw.bx (st.at (i := 0) rfl)) (ar_get (p := 10) (ix := (((Int.toNat a1) * 2) + 0)) [(i64 a0_0), (i64 a0_1), (i64 a0_2), (i64 a0_3), (.slice pa0_4 (a0_4).length ca0_4), (.slice pa0_5 (a0_5).length ca0_5), (i64 a0_6), (i64 a0_7), (i64 a0_8), (i64 a0_9)] rfl (by omega) (by omega)) pr_nil) ?_
  refine y_pure st.d dw (fun hm vw => v_fa pr_nil) ?_; refine y_pure st.d dw (fun hm vw => v_ld1 (vw.bx (st.at (i := 2) rfl)) rfl pr_nil) ?_; obtain ⟨q15, hF⟩ := ck_some hF; refine y_pure st.d dw (fun hm vw => v_sub q15 pr_nil) ?_; refine y_pure st.d dw (fun hm vw => v_move pr_nil) ?_; refine y_pure st.d dw (fun hm vw => v_fa pr_nil) ?_; obtain ⟨q16, hF⟩ := ck_some hF
  refine y_pure st.d dw (fun hm vw => v_ixa (j := (Int.toNat a1)) (Int.toNat_of_nonneg q16.1).symm (by omega) pr_nil) ?_
  refine y_pure st.d dw (fun hm vw => v_fa pr_nil) ?_
  refine y_pure st.d dw (fun hm vw => v_ld1 (o := ((10 + (Int.toNat a1) * 2) + 1)) (vw.bx (st.at (i := 0) rfl)) (ar_get (p := 10) (ix := (((Int.toNat a1) * 2) + 1)) [(i64 a0_0), (i64 a0_1), (i64 a0_2), (i64 a0_3), (.slice pa0_4 (a0_4).length ca0_4), (.slice pa0_5 (a0_5).length ca0_5), (i64 a0_6), (i64 a0_7), (i64 a0_8), (i64 a0_9)] rfl (by omega) (by omega)) pr_nil) ?_
  refine y_pure st.d dw (fun hm vw => v_fa pr_nil) ?_; refine y_pure st.d dw (fun hm vw => v_ld1 (vw.bx (st.at (i := 2) rfl)) rfl pr_nil) ?_; refine y_end st.d dw rfl (fun h17 ex vs => ?_)
  have st := st.ext1 ex
  obtain ⟨q18, hF⟩ := ck_some hF; refine v_sub q18 ?_; refine v_build (cs := [(i64 ((a0_10 (((Int.toNat a1) * 2) + 0)) - v7.2)), (i64 ((a0_10 (((Int.toNat a1) * 2) + 1)) - v7.1))]) rfl ?_; refine v_st (cs' := [(i64 ((a0_10 (((Int.toNat a1) * 2) + 0)) - v7.2)), (i64 ((a0_10 (((Int.toNat a1) * 2) + 1)) - v7.1))]) st 1 rfl rfl rfl rfl hfl (fun h19 st => ?_); refine r_nil (th_n ?_); refine w_ret ?_; obtain rfl := inj hF
  exact end_s st (Res.c gA (st.at (i := 1) rfl).2.2 (show takeN _ _ = some [(i64 ((a0_10 (((Int.toNat a1) * 2) + 0)) - v7.2)), (i64 ((a0_10 (((Int.toNat a1) * 2) + 1)) - v7.1))] from rfl) Res.nil) rfl rfl
theorem ct84 (N : Nat) {a0_0 a0_1 a0_2 a0_3 : Int} {a1 : (List (Int × Int × Int × Int))} {r : Int} (hF : sf84 N a0_0 a0_1 a0_2 a0_3 a1 = some r) (hd : D h0 n0) (hs : F0.sub h0) {pa1 : Option (Nat × Nat)} {ca1 : Nat} (ra1 : RowF (rP rI (rP rI (rP rI rI))) 4 F0 pa1 ca1 a1) : C LW fl 84 [(.agg [(i64 a0_0), (i64 a0_1), (i64 a0_2), (i64 a0_3)]), (.slice pa1 (a1).length ca1)] ⟨h0, n0⟩ (KS (i64 r) n0 h0) := by
  unfold sf84 at hF
  refine in_cT hd hs lw84 rfl rfl (by rfl) (fun st T hT => ?_)
  have hfl : n0 ≤ n0 := Nat.le_refl n0
  have t0 := hT 0 _ rfl
  have t1 := hT 1 _ rfl
  dsimp only [L84]
  refine w_seq (w_reg ?_); refine v_box st (fun b1 h2 n3 st => ?_); refine v_move ?_; refine r_nil (th_n ?_); refine w_seq ?_; refine w_seq (w_reg ?_); refine v_ldn (vs := [(i64 a0_0), (i64 a0_1), (i64 a0_2), (i64 a0_3)]) (st.at (i := 0) rfl).2.2 rfl ?_; obtain ⟨v4, e5, hF⟩ := bnd_some hF; refine v_call st (ct123 N e5 st.d st.sub ) (fun n6 st => ?_); refine v_not ?_; refine r_nil (th_n ?_); refine v_cond (fun hb7 => ?_) (fun hb7 => ?_)
  · have hF := bif_t hb7 hF; refine w_seq (w_reg ?_); refine v_move ?_; refine r_nil (th_n ?_); refine w_ret ?_; refine th_r ?_; obtain rfl := inj hF
    exact end_s st (Res.t gA Res.nil) rfl rfl
  · have hF := bif_f hb7 hF; refine w_skip (th_n ?_); refine w_seq ?_; refine w_seq (w_reg ?_); refine v_move ?_; refine v_len ?_; refine v_gtr ?_; refine r_nil (th_n ?_); refine v_cond (fun hb8 => ?_) (fun hb8 => ?_)
    · have hF := bif_t hb8 hF; refine w_seq (w_reg ?_); refine v_move ?_; refine r_nil (th_n ?_); refine w_ret ?_; refine th_r ?_; obtain rfl := inj hF
      exact end_s st (Res.t gA Res.nil) rfl rfl
    · have hF := bif_f hb8 hF; refine w_skip (th_n ?_); refine w_seq ?_; refine w_seq (w_reg ?_); refine v_move ?_; refine r_nil (th_n ?_); refine w_block ?_; obtain ⟨y48, hy, hF⟩ := bnd_some hF; refine v_loopD (sf84_L1 N a0_0 a1) (fun x9 T ds10 h nx => ∃ (F10 : PH), ds10 = [] ∧ PH.le F0 F10 ∧ St n0 h0 F0 F10 h nx [.bx b1 [(i64 a0_0), (i64 a0_1), (i64 a0_2), (i64 a0_3)]] ∧ T.get 1 = some (.slice pa1 (a1).length ca1) ∧ T.get 2 = some (.ptr (some (b1, 0))) ∧ T.get 5 = some (i64 x9)) (fun y e a σ => (∃ u, y = (.inl u) ∧ e = .ret ∧ a.nt = 46 ∧ ∃ (F50 : PH), a.defers = [] ∧ PH.le F0 F50 ∧ St n0 h0 F0 F50 σ.h σ.nx [.bx b1 [(i64 a0_0), (i64 a0_1), (i64 a0_2), (i64 a0_3)]] ∧ a.tmps.get 4 = some (i64 u)) ∨ (∃ u, y = (.inr u) ∧ e = .exit 0 ∧ a.nt = 46 ∧ ∃ (F52 : PH), a.defers = [] ∧ PH.le F0 F52 ∧ St n0 h0 F0 F52 σ.h σ.nx [.bx b1 [(i64 a0_0), (i64 a0_1), (i64 a0_2), (i64 a0_3)]])) (fun x9 T ds10 h nx s hp hF => ?_) N _ y48 _ _ _ _ hy ⟨F0, rfl, (PH.le.refl _), st, gA, gA, gA⟩ (fun e a σ hne hq => ?_)
      · obtain ⟨F10, rfl, le10, st, t1, t2, t5⟩ := hp; unfold sf84_L1 at hF; unfold L84w0; refine w_seq ?_; refine w_seq (w_reg ?_); refine v_move ?_; refine v_move ?_; refine v_len ?_; refine v_lss ?_; refine r_nil (th_n ?_); refine v_cond (fun hb53 => ?_) (fun hb53 => ?_)
        · have hF := bif_t hb53 hF; refine w_skip (th_n ?_); refine w_seq ?_; refine w_block ?_; refine w_seq (w_reg ?_); refine v_move ?_; refine v_move ?_; obtain ⟨n54, x54, z54, l54, g54, hF⟩ := ix_some hF; obtain ⟨b54, o54, s54, j54, r54, e54, f54, k54, ⟨_, _, rfl, rfl, ⟨_, _, rfl, rfl, ⟨_, _, rfl, rfl, rfl⟩⟩⟩⟩ := RowF.get ra1 g54; refine v_ixp e54 z54 l54 ?_; refine v_ldn (st.sub _ _ (le10 _ _ f54)) k54 ?_; refine v_alloc st (fun b55 h56 n57 st => ?_); refine v_st (cs' := [(i64 x54.1), (i64 x54.2.1), (i64 x54.2.2.1), (i64 x54.2.2.2)]) st 1 rfl rfl rfl rfl hfl (fun h58 st => ?_); refine r_nil (th_n ?_); obtain ⟨y71, hA72, hF⟩ := bnd_some hF; refine w_cutD (fun T ds74 h nx => ∃ (F74 : PH), ds74 = [] ∧ PH.le F10 F74 ∧ St n0 h0 F0 F74 h nx [.bx b1 [(i64 a0_0), (i64 a0_1), (i64 a0_2), (i64 a0_3)], .bx b55 [(i64 x54.1), (i64 x54.2.1), (i64 x54.2.2.1), (i64 x54.2.2.2)]] ∧ T.get 1 = some (.slice pa1 (a1).length ca1) ∧ T.get 2 = some (.ptr (some (b1, 0))) ∧ T.get 5 = some (i64 x9) ∧ T.get 45 = some (.bool y71)) ?_ (fun T ds74 h nx hp => ?_)
          · have hK73 := hF
            have hF := hA72; refine w_reg ?_; refine v_fa ?_; refine v_ld1 (st.at (i := 1) rfl).2.2 rfl ?_; refine v_fa ?_; refine v_ld1 (st.at (i := 0) rfl).2.2 rfl ?_; obtain ⟨q75, hF⟩ := ck_some hF; refine v_sub q75 ?_; obtain ⟨v76, e77, hF⟩ := bnd_some hF; refine v_call st (ct98 N e77 st.d st.sub ) (fun n78 st => ?_); refine v_not ?_; refine v_move ?_
            rcases Bool.eq_false_or_eq_true (!v76) with hb79 | hb79
            · have hF := bif_t hb79 hF; refine g_skip hb79 ?_; refine g_skip hb79 ?_; refine g_skip hb79 ?_; refine g_skip hb79 ?_; refine g_skip hb79 ?_; refine g_skip hb79 ?_; refine g_skip hb79 ?_; refine g_skip hb79 ?_; refine v_pick hb79 ?_; refine v_move ?_; refine g_skip rfl ?_; refine g_skip rfl ?_; refine g_skip rfl ?_; refine g_skip rfl ?_; refine v_pick rfl ?_; refine r_nil ?_; obtain rfl := inj hF; refine thn ⟨rfl, ?_⟩; dsimp only
              exact ⟨F10, rfl, (PH.le.refl _), st, gA, gA, gA, gA⟩
            · have hF := bif_f hb79 hF; refine g_take hb79 (v_fa ?_); refine g_take hb79 (v_ld1 (st.at (i := 1) rfl).2.2 rfl ?_); refine g_take hb79 (v_fa ?_); refine g_take hb79 (v_ld1 (st.at (i := 1) rfl).2.2 rfl ?_); refine g_take hb79 (v_fa ?_); refine g_take hb79 (v_ld1 (st.at (i := 0) rfl).2.2 rfl ?_); obtain ⟨v80, e81, hF⟩ := bnd_some hF; refine g_take hb79 (v_call st (ct98 N e81 st.d st.sub ) (fun n82 st => ?_)); refine g_take hb79 (v_not ?_); refine v_pick' hb79 ?_; refine v_move ?_
              rcases Bool.eq_false_or_eq_true (!v80) with hb83 | hb83
              · have hF := bif_t hb83 hF; refine g_skip hb83 ?_; refine g_skip hb83 ?_; refine g_skip hb83 ?_; refine g_skip hb83 ?_; refine v_pick hb83 ?_; refine r_nil ?_; obtain rfl := inj hF; refine thn ⟨rfl, ?_⟩; dsimp only
                exact ⟨F10, rfl, (PH.le.refl _), st, gA, gA, gA, gA⟩
              · have hF := bif_f hb83 hF; refine g_take hb83 (v_fa ?_); refine g_take hb83 (v_ldn (vs := [(i64 x54.2.2.1), (i64 x54.2.2.2)]) (st.at (i := 1) rfl).2.2 rfl ?_); obtain ⟨v84, e85, hF⟩ := bnd_some hF; refine g_take hb83 (v_call st (ct124 N e85 st.d st.sub ) (fun n86 st => ?_)); refine g_take hb83 (v_not ?_); refine v_pick' hb83 ?_; refine r_nil ?_; obtain rfl := inj hF; refine thn ⟨rfl, ?_⟩; dsimp only
                exact ⟨F10, rfl, (PH.le.refl _), st, gA, gA, gA, gA⟩
          · obtain ⟨F74, rfl, le74, st, t1, t2, t5, t45⟩ := hp
            have le87 := PH.le.trans le10 le74
            refine v_cond (fun hb88 => ?_) (fun hb88 => ?_)
            · have hF := bif_t hb88 hF; refine w_seq (w_reg ?_); refine v_move ?_; refine r_nil (th_n ?_); refine w_ret ?_; refine ib_r ?_; refine th_r ?_; refine th_r ?_; refine ⟨_, (inj hF).symm, .inl ⟨_, rfl, rfl, rfl, ?_⟩⟩; dsimp only
              exact ⟨F74, rfl, le87, (st.drop (by first | exact List.Sublist.refl _ | (repeat first | exact List.nil_sublist _ | refine List.Sublist.cons_cons _ ?_ | refine List.Sublist.cons _ ?_))), gA⟩
            · have hF := bif_f hb88 hF; refine w_skip ?_; refine ib_n ?_; refine th_n ?_; refine w_reg ?_; refine v_move ?_; obtain ⟨q89, hF⟩ := ck_some hF; refine v_add q89 ?_; refine v_move ?_; refine r_nil ?_; refine thn ⟨_, (inj hF).symm, rfl, ?_⟩; dsimp only
              exact ⟨F74, rfl, le87, (st.drop (by first | exact List.Sublist.refl _ | (repeat first | exact List.nil_sublist _ | refine List.Sublist.cons_cons _ ?_ | refine List.Sublist.cons _ ?_))), gA, gA, gA⟩
        · have hF := bif_f hb53 hF; refine w_exit ?_; refine th_e ?_; refine th_e ?_; refine ⟨_, (inj hF).symm, .inr (⟨_, rfl, rfl, rfl, ?_⟩)⟩; dsimp only
          exact ⟨F10, rfl, le10, st⟩
      · rcases hq with hq | hq
        · obtain ⟨N9, T, ds50⟩ := a; obtain ⟨h90, n91⟩ := σ; obtain ⟨w49, rfl, rfl, e1, F50, e2, le50, st, t4⟩ := hq
          dsimp only at e1 e2
          subst e1
          subst e2
          dsimp only at st t4
          have hF := sel_l hF; refine ib_r ?_; refine th_r ?_; obtain rfl := inj hF
          exact end_s st (Res.t gA Res.nil) rfl rfl
        · obtain ⟨N9, T, ds52⟩ := a; obtain ⟨h92, n93⟩ := σ; obtain ⟨w51, rfl, rfl, e1, F52, e2, le52, st⟩ := hq
          dsimp only at e1 e2
          subst e1
          subst e2
          dsimp only at st
          have hF := sel_r hF; refine ib_e ?_; refine th_n ?_; refine w_seq (w_reg ?_); refine v_move ?_; refine r_nil (th_n ?_); refine w_ret ?_; obtain rfl := inj hF
          exact end_s st (Res.t gA Res.nil) rfl rfl
end Go.Hx.V

namespace Go.Hx.V
open Go.Hx
set_option maxRecDepth 20000
set_option maxHeartbeats 4000000
variable {fl : Nat} {h0 : Tr HBlk} {n0 : Nat} {F0 : PH}
attribute [local irreducible] W R C thenH inBlockH Tr.get Tr.set lo ck bnd ix iter
theorem ct94 (N : Nat) {a0_0 a0_1 a0_2 a0_3 : Int} {a1 : (List (Int × Int × Int × Int))} {a2 : Bool} {r : (Int × Int × Int × Int × Int × (Nat → Int) × Int)} (hF : sf94 N a0_0 a0_1 a0_2 a0_3 a1 a2 = some r) (hd : D h0 n0) (hs : F0.sub h0) {pa1 : Option (Nat × Nat)} {ca1 : Nat} (ra1 : RowF (rP rI (rP rI (rP rI rI))) 4 F0 pa1 ca1 a1) : C LW fl 94 [(.agg [(i64 a0_0), (i64 a0_1), (i64 a0_2), (i64 a0_3)]), (.slice pa1 (a1).length ca1), (.bool a2)] ⟨h0, n0⟩ (KS (.tuple [(.agg ([(i64 r.1), (i64 r.2.1), (i64 r.2.2.1), (i64 r.2.2.2.1), (i64 r.2.2.2.2.1)] ++ (eI .i64 169 r.2.2.2.2.2.1))), (i64 r.2.2.2.2.2.2)]) n0 h0) := by
  unfold sf94 at hF
  refine in_cT hd hs lw94 rfl rfl (by rfl) (fun st T hT => ?_)
  have hfl : n0 ≤ n0 := Nat.le_refl n0
  have t0 := hT 0 _ rfl
  have t1 := hT 1 _ rfl
  have t2 := hT 2 _ rfl
  dsimp only [L94]
  refine w_seq (w_reg ?_); refine v_box st (fun b1 h2 n3 st => ?_); refine v_alloc st (fun b4 h5 n6 st => ?_)
  have st := st.cells 1 rfl ([(i64 (0 : Int)), (i64 (0 : Int)), (i64 (0 : Int)), (i64 (0 : Int)), (i64 (0 : Int))] ++ (eI .i64 169 (fun _ => 0))) rfl
  refine v_move ?_; refine r_nil (th_n ?_); refine w_seq ?_; refine w_seq (w_reg ?_); refine v_ldn (vs := [(i64 a0_0), (i64 a0_1), (i64 a0_2), (i64 a0_3)]) (st.at (i := 0) rfl).2.2 rfl ?_; refine v_move ?_; obtain ⟨v7, e8, hF⟩ := bnd_some hF; refine v_call st (ct134 N e8 st.d st.sub ra1) (fun n9 st => ?_); refine v_move ?_; refine r_nil (th_n ?_); refine w_seq (w_reg ?_); refine v_move ?_; refine v_nei ?_; refine r_nil (th_n ?_); refine v_cond (fun hb10 => ?_) (fun hb10 => ?_)
  · have hF := bif_t hb10 hF; refine w_seq (w_reg ?_); refine v_build (cs := ([(i64 (0 : Int)), (i64 (0 : Int)), (i64 (0 : Int)), (i64 (0 : Int)), (i64 (0 : Int))] ++ (eI .i64 169 (fun _ => 0)))) rfl ?_; refine v_move ?_
    refine v_st (v := (.agg ([(i64 (0 : Int)), (i64 (0 : Int)), (i64 (0 : Int)), (i64 (0 : Int)), (i64 (0 : Int))] ++ (eI .i64 169 (fun _ => 0))))) (cs' := ([(i64 (0 : Int)), (i64 (0 : Int)), (i64 (0 : Int)), (i64 (0 : Int)), (i64 (0 : Int))] ++ (eI .i64 169 (fun _ => 0)))) st 1 rfl (ov_tail (q := ([(i64 (0 : Int)), (i64 (0 : Int)), (i64 (0 : Int)), (i64 (0 : Int)), (i64 (0 : Int))] ++ (eI .i64 169 (fun _ => 0)))) (r := ([(i64 (0 : Int)), (i64 (0 : Int)), (i64 (0 : Int)), (i64 (0 : Int)), (i64 (0 : Int))] ++ (eI .i64 169 (fun _ => 0)))) [] rfl (by simp [eI_len, eB_len])) (len_tail (E := (eI .i64 169 (fun _ => 0))) [(i64 (0 : Int)), (i64 (0 : Int)), (i64 (0 : Int)), (i64 (0 : Int)), (i64 (0 : Int))] eI_len rfl) (one_tail (E := (eI .i64 169 (fun _ => 0))) [(i64 (0 : Int)), (i64 (0 : Int)), (i64 (0 : Int)), (i64 (0 : Int)), (i64 (0 : Int))] rfl eI_one) hfl (fun h11 st => ?_)
    refine v_move ?_; refine r_nil (th_n ?_); refine w_ret ?_; refine th_r ?_; obtain rfl := inj hF
    exact end_s st (Res.c gA (st.at (i := 1) rfl).2.2 (show takeN _ _ = some ([(i64 (0 : Int)), (i64 (0 : Int)), (i64 (0 : Int)), (i64 (0 : Int)), (i64 (0 : Int))] ++ (eI .i64 169 (fun _ => 0))) from (tk_tail (E := (eI .i64 169 (fun _ => 0))) [] [(i64 (0 : Int)), (i64 (0 : Int)), (i64 (0 : Int)), (i64 (0 : Int)), (i64 (0 : Int))] rfl eI_len rfl)) (Res.t gA Res.nil)) rfl rfl
  · have hF := bif_f hb10 hF; refine w_skip (th_n ?_); refine w_seq ?_; refine w_seq (w_reg ?_); refine v_move ?_; refine v_not ?_; refine r_nil (th_n ?_); refine v_cond (fun hb12 => ?_) (fun hb12 => ?_)
    · have hF := bif_t hb12 hF; refine w_seq (w_reg ?_); refine v_build (cs := ([(i64 (0 : Int)), (i64 (0 : Int)), (i64 (0 : Int)), (i64 (0 : Int)), (i64 (0 : Int))] ++ (eI .i64 169 (fun _ => 0)))) rfl ?_
      refine v_st (v := (.agg ([(i64 (0 : Int)), (i64 (0 : Int)), (i64 (0 : Int)), (i64 (0 : Int)), (i64 (0 : Int))] ++ (eI .i64 169 (fun _ => 0))))) (cs' := ([(i64 (0 : Int)), (i64 (0 : Int)), (i64 (0 : Int)), (i64 (0 : Int)), (i64 (0 : Int))] ++ (eI .i64 169 (fun _ => 0)))) st 1 rfl (ov_tail (q := ([(i64 (0 : Int)), (i64 (0 : Int)), (i64 (0 : Int)), (i64 (0 : Int)), (i64 (0 : Int))] ++ (eI .i64 169 (fun _ => 0)))) (r := ([(i64 (0 : Int)), (i64 (0 : Int)), (i64 (0 : Int)), (i64 (0 : Int)), (i64 (0 : Int))] ++ (eI .i64 169 (fun _ => 0)))) [] rfl (by simp [eI_len, eB_len])) (len_tail (E := (eI .i64 169 (fun _ => 0))) [(i64 (0 : Int)), (i64 (0 : Int)), (i64 (0 : Int)), (i64 (0 : Int)), (i64 (0 : Int))] eI_len rfl) (one_tail (E := (eI .i64 169 (fun _ => 0))) [(i64 (0 : Int)), (i64 (0 : Int)), (i64 (0 : Int)), (i64 (0 : Int)), (i64 (0 : Int))] rfl eI_one) hfl (fun h13 st => ?_)
      refine v_move ?_; refine r_nil (th_n ?_); refine w_ret ?_; refine th_r ?_; obtain rfl := inj hF
      exact end_s st (Res.c gA (st.at (i := 1) rfl).2.2 (show takeN _ _ = some ([(i64 (0 : Int)), (i64 (0 : Int)), (i64 (0 : Int)), (i64 (0 : Int)), (i64 (0 : Int))] ++ (eI .i64 169 (fun _ => 0))) from (tk_tail (E := (eI .i64 169 (fun _ => 0))) [] [(i64 (0 : Int)), (i64 (0 : Int)), (i64 (0 : Int)), (i64 (0 : Int)), (i64 (0 : Int))] rfl eI_len rfl)) (Res.t gA Res.nil)) rfl rfl
    · have hF := bif_f hb12 hF; refine w_skip (th_n ?_); refine w_seq (w_reg ?_); refine v_ldn (vs := [(i64 a0_0), (i64 a0_1), (i64 a0_2), (i64 a0_3)]) (st.at (i := 0) rfl).2.2 rfl ?_; refine v_move ?_; obtain ⟨v14, e15, hF⟩ := bnd_some hF; refine v_call st (ct135 N e15 st.d st.sub ra1) (fun n16 st => ?_); refine v_move ?_; refine v_xt rfl ?_; refine v_xt rfl ?_; refine v_alloc st (fun b17 h18 n19 st => ?_)
      have st := st.cells 2 rfl ([(i64 (0 : Int)), (i64 (0 : Int)), (i64 (0 : Int)), (i64 (0 : Int)), (i64 (0 : Int))] ++ (eI .i64 169 (fun _ => 0))) rfl
      refine v_st (v := (.agg ([(i64 v14.1), (i64 v14.2.1), (i64 v14.2.2.1), (i64 v14.2.2.2.1), (i64 v14.2.2.2.2.1)] ++ (eI .i64 169 v14.2.2.2.2.2.1)))) (cs' := ([(i64 v14.1), (i64 v14.2.1), (i64 v14.2.2.1), (i64 v14.2.2.2.1), (i64 v14.2.2.2.2.1)] ++ (eI .i64 169 v14.2.2.2.2.2.1))) st 2 rfl (ov_tail (q := ([(i64 (0 : Int)), (i64 (0 : Int)), (i64 (0 : Int)), (i64 (0 : Int)), (i64 (0 : Int))] ++ (eI .i64 169 (fun _ => 0)))) (r := ([(i64 v14.1), (i64 v14.2.1), (i64 v14.2.2.1), (i64 v14.2.2.2.1), (i64 v14.2.2.2.2.1)] ++ (eI .i64 169 v14.2.2.2.2.2.1))) [] rfl (by simp [eI_len, eB_len])) (len_tail (E := (eI .i64 169 v14.2.2.2.2.2.1)) [(i64 v14.1), (i64 v14.2.1), (i64 v14.2.2.1), (i64 v14.2.2.2.1), (i64 v14.2.2.2.2.1)] eI_len rfl) (one_tail (E := (eI .i64 169 v14.2.2.2.2.2.1)) [(i64 v14.1), (i64 v14.2.1), (i64 v14.2.2.1), (i64 v14.2.2.2.1), (i64 v14.2.2.2.2.1)] rfl eI_one) hfl (fun h20 st => ?_)
      refine v_move ?_; refine r_nil (th_n ?_); refine w_seq ?_; refine w_seq (w_reg ?_); refine v_move ?_; refine v_not ?_; refine r_nil (th_n ?_); refine v_cond (fun hb21 => ?_) (fun hb21 => ?_)
      · have hF := bif_t hb21 hF; refine w_seq (w_reg ?_); refine v_build (cs := ([(i64 (0 : Int)), (i64 (0 : Int)), (i64 (0 : Int)), (i64 (0 : Int)), (i64 (0 : Int))] ++ (eI .i64 169 (fun _ => 0)))) rfl ?_
        refine v_st (v := (.agg ([(i64 (0 : Int)), (i64 (0 : Int)), (i64 (0 : Int)), (i64 (0 : Int)), (i64 (0 : Int))] ++ (eI .i64 169 (fun _ => 0))))) (cs' := ([(i64 (0 : Int)), (i64 (0 : Int)), (i64 (0 : Int)), (i64 (0 : Int)), (i64 (0 : Int))] ++ (eI .i64 169 (fun _ => 0)))) st 1 rfl (ov_tail (q := ([(i64 (0 : Int)), (i64 (0 : Int)), (i64 (0 : Int)), (i64 (0 : Int)), (i64 (0 : Int))] ++ (eI .i64 169 (fun _ => 0)))) (r := ([(i64 (0 : Int)), (i64 (0 : Int)), (i64 (0 : Int)), (i64 (0 : Int)), (i64 (0 : Int))] ++ (eI .i64 169 (fun _ => 0)))) [] rfl (by simp [eI_len, eB_len])) (len_tail (E := (eI .i64 169 (fun _ => 0))) [(i64 (0 : Int)), (i64 (0 : Int)), (i64 (0 : Int)), (i64 (0 : Int)), (i64 (0 : Int))] eI_len rfl) (one_tail (E := (eI .i64 169 (fun _ => 0))) [(i64 (0 : Int)), (i64 (0 : Int)), (i64 (0 : Int)), (i64 (0 : Int)), (i64 (0 : Int))] rfl eI_one) hfl (fun h22 st => ?_)
        refine v_move ?_; refine r_nil (th_n ?_); refine w_ret ?_; refine th_r ?_; obtain rfl := inj hF
        exact end_s st (Res.c gA (st.at (i := 1) rfl).2.2 (show takeN _ _ = some ([(i64 (0 : Int)), (i64 (0 : Int)), (i64 (0 : Int)), (i64 (0 : Int)), (i64 (0 : Int))] ++ (eI .i64 169 (fun _ => 0))) from (tk_tail (E := (eI .i64 169 (fun _ => 0))) [] [(i64 (0 : Int)), (i64 (0 : Int)), (i64 (0 : Int)), (i64 (0 : Int)), (i64 (0 : Int))] rfl eI_len rfl)) (Res.t gA Res.nil)) rfl rfl
      · have hF := bif_f hb21 hF; refine w_skip (th_n ?_); refine w_seq (w_reg ?_); refine v_ldn (vs := ([(i64 v14.1), (i64 v14.2.1), (i64 v14.2.2.1), (i64 v14.2.2.2.1), (i64 v14.2.2.2.2.1)] ++ (eI .i64 169 v14.2.2.2.2.2.1))) (st.at (i := 2) rfl).2.2 (tk_tail (E := (eI .i64 169 v14.2.2.2.2.2.1)) [] [(i64 v14.1), (i64 v14.2.1), (i64 v14.2.2.1), (i64 v14.2.2.2.1), (i64 v14.2.2.2.2.1)] rfl eI_len rfl) ?_
        refine v_st (v := (.agg ([(i64 v14.1), (i64 v14.2.1), (i64 v14.2.2.1), (i64 v14.2.2.2.1), (i64 v14.2.2.2.2.1)] ++ (eI .i64 169 v14.2.2.2.2.2.1)))) (cs' := ([(i64 v14.1), (i64 v14.2.1), (i64 v14.2.2.1), (i64 v14.2.2.2.1), (i64 v14.2.2.2.2.1)] ++ (eI .i64 169 v14.2.2.2.2.2.1))) st 1 rfl (ov_tail (q := ([(i64 (0 : Int)), (i64 (0 : Int)), (i64 (0 : Int)), (i64 (0 : Int)), (i64 (0 : Int))] ++ (eI .i64 169 (fun _ => 0)))) (r := ([(i64 v14.1), (i64 v14.2.1), (i64 v14.2.2.1), (i64 v14.2.2.2.1), (i64 v14.2.2.2.2.1)] ++ (eI .i64 169 v14.2.2.2.2.2.1))) [] rfl (by simp [eI_len, eB_len])) (len_tail (E := (eI .i64 169 v14.2.2.2.2.2.1)) [(i64 v14.1), (i64 v14.2.1), (i64 v14.2.2.1), (i64 v14.2.2.2.1), (i64 v14.2.2.2.2.1)] eI_len rfl) (one_tail (E := (eI .i64 169 v14.2.2.2.2.2.1)) [(i64 v14.1), (i64 v14.2.1), (i64 v14.2.2.1), (i64 v14.2.2.2.1), (i64 v14.2.2.2.2.1)] rfl eI_one) hfl (fun h23 st => ?_)
        refine v_move ?_; refine r_nil (th_n ?_); refine w_ret ?_; obtain rfl := inj hF
        exact end_s st (Res.c gA (st.at (i := 1) rfl).2.2 (show takeN _ _ = some ([(i64 v14.1), (i64 v14.2.1), (i64 v14.2.2.1), (i64 v14.2.2.2.1), (i64 v14.2.2.2.2.1)] ++ (eI .i64 169 v14.2.2.2.2.2.1)) from (tk_tail (E := (eI .i64 169 v14.2.2.2.2.2.1)) [] [(i64 v14.1), (i64 v14.2.1), (i64 v14.2.2.1), (i64 v14.2.2.2.1), (i64 v14.2.2.2.2.1)] rfl eI_len rfl)) (Res.t gA Res.nil)) rfl rfl
theorem ct101 (N : Nat) {a0 : (List (Int × Int))} {a1_0 a1_1 : Int} {r : (Int × Int × Int)} (hF : sf101 N a0 a1_0 a1_1 = some r) (hd : D h0 n0) (hs : F0.sub h0) {pa0 : Option (Nat × Nat)} {ca0 : Nat} (ra0 : RowF (rP rI rI) 2 F0 pa0 ca0 a0) : C LW fl 101 [(.slice pa0 (a0).length ca0), (.agg [(i64 a1_0), (i64 a1_1)])] ⟨h0, n0⟩ (KS (.tuple [(.agg [(i64 r.1), (i64 r.2.1)]), (i64 r.2.2)]) n0 h0) := by
  unfold sf101 at hF
  refine in_cT hd hs lw101 rfl rfl (by rfl) (fun st T hT => ?_)
  have hfl : n0 ≤ n0 := Nat.le_refl n0
  have t0 := hT 0 _ rfl
  have t1 := hT 1 _ rfl
  dsimp only [L101]
  refine w_seq (w_reg ?_); refine v_box st (fun b1 h2 n3 st => ?_); refine v_alloc st (fun b4 h5 n6 st => ?_); refine v_move ?_; refine r_nil (th_n ?_); refine w_seq ?_; refine w_seq (w_reg ?_); refine v_move ?_; obtain ⟨v7, e8, hF⟩ := bnd_some hF; refine v_call st (ct138 N e8 st.d st.sub ra0) (fun n9 st => ?_); refine v_move ?_; refine r_nil (th_n ?_); refine w_seq (w_reg ?_); refine v_move ?_; refine v_nei ?_; refine r_nil (th_n ?_); refine v_cond (fun hb10 => ?_) (fun hb10 => ?_)
  · have hF := bif_t hb10 hF; refine w_seq (w_reg ?_); refine v_build (cs := [(i64 (0 : Int)), (i64 (0 : Int))]) rfl ?_; refine v_move ?_; refine v_st (cs' := [(i64 (0 : Int)), (i64 (0 : Int))]) st 1 rfl rfl rfl rfl hfl (fun h11 st => ?_); refine v_move ?_; refine r_nil (th_n ?_); refine w_ret ?_; refine th_r ?_; obtain rfl := inj hF
    exact end_s st (Res.c gA (st.at (i := 1) rfl).2.2 (show takeN _ _ = some [(i64 (0 : Int)), (i64 (0 : Int))] from rfl) (Res.t gA Res.nil)) rfl rfl
  · have hF := bif_f hb10 hF; refine w_skip (th_n ?_); refine w_seq ?_; refine w_seq ?_; refine w_drawV (Nat.le_trans hfl st.ext.le) (fun dw => ?_); refine y_pure st.d dw (fun hm vw => v_ldn (vs := [(i64 a1_0), (i64 a1_1)]) (vw.bx (st.at (i := 0) rfl)) rfl pr_nil) ?_; refine y_pure st.d dw (fun hm vw => v_move pr_nil) ?_; obtain ⟨v12, e13, hF⟩ := bnd_some hF; refine y_flat st.d dw (fun hm vw => u_call (ct140 N e13 vw.d (vw.sub st) ra0) (fun n' hn' => pf_nil hn')) (fun n14 hn' dw => ?_); refine y_end st.d dw rfl (fun h15 ex vs => ?_)
    have st := st.ext1 ex
    obtain ⟨v16, e17, hF⟩ := bnd_some hF; refine v_call st (ct139 N e17 st.d st.sub ) (fun n18 st => ?_); refine v_not ?_; refine r_nil (th_n ?_); refine v_cond (fun hb19 => ?_) (fun hb19 => ?_)
    · have hF := bif_t hb19 hF; refine w_seq (w_reg ?_); refine v_build (cs := [(i64 (0 : Int)), (i64 (0 : Int))]) rfl ?_; refine v_st (cs' := [(i64 (0 : Int)), (i64 (0 : Int))]) st 1 rfl rfl rfl rfl hfl (fun h20 st => ?_); refine v_move ?_; refine r_nil (th_n ?_); refine w_ret ?_; refine th_r ?_; obtain rfl := inj hF
      exact end_s st (Res.c gA (st.at (i := 1) rfl).2.2 (show takeN _ _ = some [(i64 (0 : Int)), (i64 (0 : Int))] from rfl) (Res.t gA Res.nil)) rfl rfl
    · have hF := bif_f hb19 hF; refine w_skip (th_n ?_); refine w_seq ?_; refine w_drawV (Nat.le_trans hfl st.ext.le) (fun dw => ?_); refine y_pure st.d dw (fun hm vw => v_move pr_nil) ?_; refine y_pure st.d dw (fun hm vw => v_fa pr_nil) ?_; refine y_pure st.d dw (fun hm vw => v_ld1 (vw.bx (st.at (i := 0) rfl)) rfl pr_nil) ?_; obtain ⟨v21, e22, hF⟩ := bnd_some hF; refine y_flat st.d dw (fun hm vw => u_call (ct141 N e22 vw.d (vw.sub st) ra0) (fun n' hn' => pf_nil hn')) (fun n23 hn' dw => ?_); refine y_pure st.d dw (fun hm vw => v_move pr_nil) ?_; refine y_pure st.d dw (fun hm vw => v_fa pr_nil) ?_; refine y_pure st.d dw (fun hm vw => v_ld1 (vw.bx (st.at (i := 0) rfl)) rfl pr_nil) ?_; refine y_end st.d dw rfl (fun h24 ex vs => ?_)
      have st := st.ext1 ex
      obtain ⟨v25, e26, hF⟩ := bnd_some hF; refine v_call st (ct141 N e26 st.d st.sub ra0) (fun n27 st => ?_); refine v_build (cs := [(i64 v21), (i64 v25)]) rfl ?_; refine v_st (cs' := [(i64 v21), (i64 v25)]) st 1 rfl rfl rfl rfl hfl (fun h28 st => ?_); refine v_move ?_; refine r_nil (th_n ?_); refine w_ret ?_; obtain rfl := inj hF
      exact end_s st (Res.c gA (st.at (i := 1) rfl).2.2 (show takeN _ _ = some [(i64 v21), (i64 v25)] from rfl) (Res.t gA Res.nil)) rfl rfl
theorem ct69 (N : Nat) {a0_0 a0_1 a0_2 a0_3 : Int} {a0_4 : (List (Int × Int × Int × Int))} {a0_5 : (List (Int × Int))} {a0_6 a0_7 a0_8 a0_9 : Int} {a0_10 : (Nat → Int)} {a1 a2 : Int} {r : (Int × Int)} (hF : sf69 N a0_0 a0_1 a0_2 a0_3 a0_4 a0_5 a0_6 a0_7 a0_8 a0_9 a0_10 a1 a2 = some r) (hd : D h0 n0) (hs : F0.sub h0) {pa0_4 : Option (Nat × Nat)} {ca0_4 : Nat} {pa0_5 : Option (Nat × Nat)} {ca0_5 : Nat} (ra0_4 : RowF (rP rI (rP rI (rP rI rI))) 4 F0 pa0_4 ca0_4 a0_4) (ra0_5 : RowF (rP rI rI) 2 F0 pa0_5 ca0_5 a0_5) : C LW fl 69 [(.agg ([(i64 a0_0), (i64 a0_1), (i64 a0_2), (i64 a0_3), (.slice pa0_4 (a0_4).length ca0_4), (.slice pa0_5 (a0_5).length ca0_5), (i64 a0_6), (i64 a0_7), (i64 a0_8), (i64 a0_9)] ++ (eI .i64 22 a0_10))), (i64 a1), (i64 a2)] ⟨h0, n0⟩ (KS (.agg [(i64 r.1), (i64 r.2)]) n0 h0) := by
  unfold sf69 at hF
  refine in_cT hd hs lw69 rfl rfl (by rfl) (fun st T hT => ?_)
  have hfl : n0 ≤ n0 := Nat.le_refl n0
  have t0 := hT 0 _ rfl
  have t1 := hT 1 _ rfl
  have t2 := hT 2 _ rfl
  dsimp only [L69]
  refine w_seq (w_reg ?_); refine v_box st (fun b1 h2 n3 st => ?_); refine v_alloc st (fun b4 h5 n6 st => ?_); refine r_nil (th_n ?_); refine w_seq (w_reg ?_); refine v_move ?_; obtain ⟨q7, hF⟩ := ck_some hF; refine v_mul q7 ?_; refine v_fa ?_; refine v_fa ?_; refine v_fa ?_; refine v_ld1 (st.at (i := 0) rfl).2.2 rfl ?_; refine v_build (cs := [(i64 ((1000 : Int) * a1)), (i64 a0_0)]) rfl ?_; obtain ⟨v8, e9, hF⟩ := bnd_some hF; refine v_call st (ct107 N e9 st.d st.sub ) (fun n10 st => ?_); refine v_move ?_; refine r_nil (th_n ?_); refine w_seq (w_reg ?_); refine v_ldn (vs := ([(i64 a0_0), (i64 a0_1), (i64 a0_2), (i64 a0_3), (.slice pa0_4 (a0_4).length ca0_4), (.slice pa0_5 (a0_5).length ca0_5), (i64 a0_6), (i64 a0_7), (i64 a0_8), (i64 a0_9)] ++ (eI .i64 22 a0_10))) (st.at (i := 0) rfl).2.2 (tk_tail (E := (eI .i64 22 a0_10)) [] [(i64 a0_0), (i64 a0_1), (i64 a0_2), (i64 a0_3), (.slice pa0_4 (a0_4).length ca0_4), (.slice pa0_5 (a0_5).length ca0_5), (i64 a0_6), (i64 a0_7), (i64 a0_8), (i64 a0_9)] rfl eI_len rfl) ?_
  refine v_move ?_; refine v_move ?_; obtain ⟨v11, e12, hF⟩ := bnd_some hF; refine v_call st (ct68 N e12 st.d st.sub ra0_4 ra0_5) (fun n13 st => ?_); refine v_alloc st (fun b14 h15 n16 st => ?_); refine v_st (cs' := [(i64 v11.1), (i64 v11.2)]) st 2 rfl rfl rfl rfl hfl (fun h17 st => ?_); refine r_nil (th_n ?_); refine w_seq (w_reg ?_); refine v_fa ?_; refine v_ld1 (st.at (i := 2) rfl).2.2 rfl ?_; refine v_move ?_; obtain ⟨q18, hF⟩ := ck_some hF; refine v_sub q18 ?_; refine v_fa ?_; refine v_ld1 (st.at (i := 2) rfl).2.2 rfl ?_; refine v_move ?_; obtain ⟨q19, hF⟩ := ck_some hF; refine v_sub q19 ?_; refine v_build (cs := [(i64 (v11.1 - v8)), (i64 (v11.2 - v8))]) rfl ?_; refine v_st (cs' := [(i64 (v11.1 - v8)), (i64 (v11.2 - v8))]) st 1 rfl rfl rfl rfl hfl (fun h20 st => ?_)
  refine r_nil (th_n ?_); refine w_ret ?_; obtain rfl := inj hF
  exact end_s st (Res.c gA (st.at (i := 1) rfl).2.2 (show takeN _ _ = some [(i64 (v11.1 - v8)), (i64 (v11.2 - v8))] from rfl) Res.nil) rfl rfl
end Go.Hx.V

namespace Go.Hx.V
open Go.Hx
set_option maxRecDepth 20000
set_option maxHeartbeats 4000000
variable {fl : Nat} {h0 : Tr HBlk} {n0 : Nat} {F0 : PH}
attribute [local irreducible] W R C thenH inBlockH Tr.get Tr.set lo ck bnd ix iter
theorem ct40 (N : Nat) {a0_0 a0_1 a0_2 a0_3 : Int} {a0_4 : (List (Int × Int × Int × Int))} {a0_5 : (List (Int × Int))} {a0_6 a0_7 a0_8 a0_9 r : Int} (hF : sf40 N a0_0 a0_1 a0_2 a0_3 a0_4 a0_5 a0_6 a0_7 a0_8 a0_9 = some r) (hd : D h0 n0) (hs : F0.sub h0) {pa0_4 : Option (Nat × Nat)} {ca0_4 : Nat} {pa0_5 : Option (Nat × Nat)} {ca0_5 : Nat} (ra0_4 : RowF (rP rI (rP rI (rP rI rI))) 4 F0 pa0_4 ca0_4 a0_4) (ra0_5 : RowF (rP rI rI) 2 F0 pa0_5 ca0_5 a0_5) : C LW fl 40 [(.agg [(i64 a0_0), (i64 a0_1), (i64 a0_2), (i64 a0_3), (.slice pa0_4 (a0_4).length ca0_4), (.slice pa0_5 (a0_5).length ca0_5), (i64 a0_6), (i64 a0_7), (i64 a0_8), (i64 a0_9)])] ⟨h0, n0⟩ (KS (i64 r) n0 h0) := by
  unfold sf40 at hF
  refine in_cT hd hs lw40 rfl rfl (by rfl) (fun st T hT => ?_)
  have hfl : n0 ≤ n0 := Nat.le_refl n0
  have t0 := hT 0 _ rfl
  dsimp only [L40]
  refine w_seq (w_reg ?_); refine v_box st (fun b1 h2 n3 st => ?_); refine v_move ?_; refine r_nil (th_n ?_); obtain ⟨y11, hA12, hF⟩ := bnd_some hF; refine w_cutD (fun T ds17 h nx => ∃ u, y11 = (.inr u) ∧ ∃ (F17 : PH), ds17 = [] ∧ PH.le F0 F17 ∧ St n0 h0 F0 F17 h nx [.bx b1 [(i64 a0_0), (i64 a0_1), (i64 a0_2), (i64 a0_3), (.slice pa0_4 (a0_4).length ca0_4), (.slice pa0_5 (a0_5).length ca0_5), (i64 a0_6), (i64 a0_7), (i64 a0_8), (i64 a0_9)]] ∧ T.get 1 = some (.ptr (some (b1, 0)))) ?_ (fun T ds17 h nx hp => ?_)
  · have hK13 := hF
    have hF := hA12; obtain ⟨y19, hA20, hF⟩ := bnd_some hF; refine w_cutD (fun T ds22 h nx => ∃ (F22 : PH), ds22 = [] ∧ PH.le F0 F22 ∧ St n0 h0 F0 F22 h nx [.bx b1 [(i64 a0_0), (i64 a0_1), (i64 a0_2), (i64 a0_3), (.slice pa0_4 (a0_4).length ca0_4), (.slice pa0_5 (a0_5).length ca0_5), (i64 a0_6), (i64 a0_7), (i64 a0_8), (i64 a0_9)]] ∧ T.get 1 = some (.ptr (some (b1, 0))) ∧ T.get 12 = some (.bool y19)) ?_ (fun T ds22 h nx hp => ?_)
    · have hK21 := hF
      have hF := hA20; refine w_reg ?_; refine v_fa ?_; refine v_ld1 (st.at (i := 0) rfl).2.2 rfl ?_; refine v_len ?_; refine v_gtr ?_; refine v_move ?_
      rcases Bool.eq_false_or_eq_true (decide ((12 : Int) < ((a0_4).length : Int))) with hb23 | hb23
      · have hF := bif_t hb23 hF; refine g_skip hb23 ?_; refine g_skip hb23 ?_; refine g_skip hb23 ?_; refine g_skip hb23 ?_; refine v_pick hb23 ?_; refine r_nil ?_; obtain rfl := inj hF; refine thn ⟨rfl, ?_⟩; dsimp only
        exact ⟨F0, rfl, (PH.le.refl _), st, gA, gA⟩
      · have hF := bif_f hb23 hF; refine g_take hb23 (v_fa ?_); refine g_take hb23 (v_ld1 (st.at (i := 0) rfl).2.2 rfl ?_); refine g_take hb23 (v_len ?_); refine g_take hb23 (v_gtr ?_); refine v_pick' hb23 ?_; refine r_nil ?_; obtain rfl := inj hF; refine thn ⟨rfl, ?_⟩; dsimp only
        exact ⟨F0, rfl, (PH.le.refl _), st, gA, gA⟩
    · obtain ⟨F22, rfl, le22, st, t1, t12⟩ := hp; refine v_cond (fun hb24 => ?_) (fun hb24 => ?_)
      · have hF := bif_t hb24 hF; refine w_seq (w_reg ?_); refine v_move ?_; refine r_nil (th_n ?_); refine w_ret ?_; obtain rfl := inj hF; have hF := hK13; have hF := sel_l hF; refine th_r ?_; obtain rfl := inj hF
        exact end_s st (Res.t gA Res.nil) rfl rfl
      · have hF := bif_f hb24 hF; refine w_skip ?_; obtain rfl := inj hF; refine thn ⟨rfl, _, rfl, ?_⟩; dsimp only
        exact ⟨F22, rfl, le22, st, gA⟩
  · obtain ⟨w16, rfl, F17, rfl, le17, st, t1⟩ := hp; have hF := sel_r hF; refine w_seq ?_; obtain ⟨y48, hA49, hF⟩ := bnd_some hF; refine w_cutD (fun T ds51 h nx => ∃ (F51 : PH), ds51 = [] ∧ PH.le F17 F51 ∧ St n0 h0 F0 F51 h nx [.bx b1 [(i64 a0_0), (i64 a0_1), (i64 a0_2), (i64 a0_3), (.slice pa0_4 (a0_4).length ca0_4), (.slice pa0_5 (a0_5).length ca0_5), (i64 a0_6), (i64 a0_7), (i64 a0_8), (i64 a0_9)]] ∧ T.get 60 = some (.bool y48)) ?_ (fun T ds51 h nx hp => ?_)
    · have hK50 := hF
      have hF := hA49; refine w_drawV (Nat.le_trans hfl st.ext.le) (fun dw => ?_); refine y_pure st.d dw (fun hm vw => v_fa pr_nil) ?_; refine y_pure st.d dw (fun hm vw => v_ldn (vs := [(i64 a0_0), (i64 a0_1), (i64 a0_2), (i64 a0_3)]) (vw.bx (st.at (i := 0) rfl)) rfl pr_nil) ?_; refine y_pure st.d dw (fun hm vw => v_fa pr_nil) ?_; refine y_pure st.d dw (fun hm vw => v_ld1 (vw.bx (st.at (i := 0) rfl)) rfl pr_nil) ?_; obtain ⟨v52, e53, hF⟩ := bnd_some hF; refine y_flat st.d dw (fun hm vw => u_call (ct84 N e53 vw.d (vw.sub st) (RowF.mono le17 ra0_4)) (fun n' hn' => pf_nil hn')) (fun n54 hn' dw => ?_); refine y_pure st.d dw (fun hm vw => v_nei pr_nil) ?_; refine y_pure st.d dw (fun hm vw => v_move pr_nil) ?_
      rcases Bool.eq_false_or_eq_true (!(decide (v52 = (0 : Int)))) with hb55 | hb55
      · have hF := bif_t hb55 hF; refine y_pure st.d dw (fun hm vw => g_skip hb55 pr_nil) ?_; refine y_pure st.d dw (fun hm vw => g_skip hb55 pr_nil) ?_; refine y_pure st.d dw (fun hm vw => g_skip hb55 pr_nil) ?_; refine y_pure st.d dw (fun hm vw => g_skip hb55 pr_nil) ?_; refine y_pure st.d dw (fun hm vw => v_pick hb55 pr_nil) ?_; refine y_pure st.d dw (fun hm vw => v_move pr_nil) ?_; refine y_pure st.d dw (fun hm vw => g_skip rfl pr_nil) ?_; refine y_pure st.d dw (fun hm vw => g_skip rfl pr_nil) ?_; refine y_pure st.d dw (fun hm vw => g_skip rfl pr_nil) ?_; refine y_pure st.d dw (fun hm vw => g_skip rfl pr_nil) ?_; refine y_pure st.d dw (fun hm vw => g_skip rfl pr_nil) ?_; refine y_pure st.d dw (fun hm vw => g_skip rfl pr_nil) ?_
        refine y_pure st.d dw (fun hm vw => g_skip rfl pr_nil) ?_; refine y_pure st.d dw (fun hm vw => g_skip rfl pr_nil) ?_; refine y_pure st.d dw (fun hm vw => g_skip rfl pr_nil) ?_; refine y_pure st.d dw (fun hm vw => g_skip rfl pr_nil) ?_; refine y_pure st.d dw (fun hm vw => g_skip rfl pr_nil) ?_; refine y_pure st.d dw (fun hm vw => g_skip rfl pr_nil) ?_; refine y_pure st.d dw (fun hm vw => g_skip rfl pr_nil) ?_; refine y_pure st.d dw (fun hm vw => g_skip rfl pr_nil) ?_; refine y_pure st.d dw (fun hm vw => g_skip rfl pr_nil) ?_; refine y_pure st.d dw (fun hm vw => g_skip rfl pr_nil) ?_; refine y_pure st.d dw (fun hm vw => g_skip rfl pr_nil) ?_; refine y_pure st.d dw (fun hm vw => g_skip rfl pr_nil) ?_
        refine y_pure st.d dw (fun hm vw => v_pick rfl pr_nil) ?_; refine y_pure st.d dw (fun hm vw => v_move pr_nil) ?_; refine y_pure st.d dw (fun hm vw => g_skip rfl pr_nil) ?_; refine y_pure st.d dw (fun hm vw => g_skip rfl pr_nil) ?_; refine y_pure st.d dw (fun hm vw => g_skip rfl pr_nil) ?_; refine y_pure st.d dw (fun hm vw => g_skip rfl pr_nil) ?_; refine y_pure st.d dw (fun hm vw => g_skip rfl pr_nil) ?_; refine y_pure st.d dw (fun hm vw => g_skip rfl pr_nil) ?_; refine y_end st.d dw rfl (fun h56 ex vs => ?_)
        have st := st.ext1 ex
        refine g_skip rfl ?_; refine g_skip rfl ?_; refine v_pick rfl ?_; refine v_move ?_; refine g_skip rfl ?_; refine g_skip rfl ?_; refine g_skip rfl ?_; refine g_skip rfl ?_; refine v_pick rfl ?_; refine r_nil ?_; obtain rfl := inj hF; refine thn ⟨rfl, ?_⟩; dsimp only
        exact ⟨F17, rfl, (PH.le.refl _), st, gA⟩
      · have hF := bif_f hb55 hF; refine y_pure st.d dw (fun hm vw => g_take hb55 (v_fa pr_nil)) ?_; refine y_pure st.d dw (fun hm vw => g_take hb55 (v_ld1 (vw.bx (st.at (i := 0) rfl)) rfl pr_nil)) ?_; obtain ⟨v57, e58, hF⟩ := bnd_some hF; refine y_flat st.d dw (fun hm vw => g_take hb55 (u_call (ct85 N e58 vw.d (vw.sub st) (RowF.mono le17 ra0_5)) (fun n' hn' => pf_nil hn'))) (fun n59 hn' dw => ?_); refine y_pure st.d dw (fun hm vw => g_take hb55 (v_not pr_nil)) ?_; refine y_pure st.d dw (fun hm vw => v_pick' hb55 pr_nil) ?_; refine y_pure st.d dw (fun hm vw => v_move pr_nil) ?_
        rcases Bool.eq_false_or_eq_true (!v57) with hb60 | hb60
        · have hF := bif_t hb60 hF; refine y_pure st.d dw (fun hm vw => g_skip hb60 pr_nil) ?_; refine y_pure st.d dw (fun hm vw => g_skip hb60 pr_nil) ?_; refine y_pure st.d dw (fun hm vw => g_skip hb60 pr_nil) ?_; refine y_pure st.d dw (fun hm vw => g_skip hb60 pr_nil) ?_; refine y_pure st.d dw (fun hm vw => g_skip hb60 pr_nil) ?_; refine y_pure st.d dw (fun hm vw => g_skip hb60 pr_nil) ?_; refine y_pure st.d dw (fun hm vw => g_skip hb60 pr_nil) ?_; refine y_pure st.d dw (fun hm vw => g_skip hb60 pr_nil) ?_; refine y_pure st.d dw (fun hm vw => g_skip hb60 pr_nil) ?_; refine y_pure st.d dw (fun hm vw => g_skip hb60 pr_nil) ?_; refine y_pure st.d dw (fun hm vw => g_skip hb60 pr_nil) ?_; refine y_pure st.d dw (fun hm vw => g_skip hb60 pr_nil) ?_
          refine y_pure st.d dw (fun hm vw => g_skip hb60 pr_nil) ?_; refine y_pure st.d dw (fun hm vw => g_skip hb60 pr_nil) ?_; refine y_pure st.d dw (fun hm vw => g_skip hb60 pr_nil) ?_; refine y_pure st.d dw (fun hm vw => g_skip hb60 pr_nil) ?_; refine y_pure st.d dw (fun hm vw => g_skip hb60 pr_nil) ?_; refine y_pure st.d dw (fun hm vw => g_skip hb60 pr_nil) ?_; refine y_pure st.d dw (fun hm vw => v_pick hb60 pr_nil) ?_; refine y_pure st.d dw (fun hm vw => v_move pr_nil) ?_; refine y_pure st.d dw (fun hm vw => g_skip rfl pr_nil) ?_; refine y_pure st.d dw (fun hm vw => g_skip rfl pr_nil) ?_; refine y_pure st.d dw (fun hm vw => g_skip rfl pr_nil) ?_; refine y_pure st.d dw (fun hm vw => g_skip rfl pr_nil) ?_
          refine y_pure st.d dw (fun hm vw => g_skip rfl pr_nil) ?_; refine y_pure st.d dw (fun hm vw => g_skip rfl pr_nil) ?_; refine y_end st.d dw rfl (fun h61 ex vs => ?_)
          have st := st.ext1 ex
          refine g_skip rfl ?_; refine g_skip rfl ?_; refine v_pick rfl ?_; refine v_move ?_; refine g_skip rfl ?_; refine g_skip rfl ?_; refine g_skip rfl ?_; refine g_skip rfl ?_; refine v_pick rfl ?_; refine r_nil ?_; obtain rfl := inj hF; refine thn ⟨rfl, ?_⟩; dsimp only
          exact ⟨F17, rfl, (PH.le.refl _), st, gA⟩
        · have hF := bif_f hb60 hF; refine y_pure st.d dw (fun hm vw => g_take hb60 (v_fa pr_nil)) ?_; refine y_pure st.d dw (fun hm vw => g_take hb60 (v_ldn (vs := [(i64 a0_6), (i64 a0_7)]) (vw.bx (st.at (i := 0) rfl)) rfl pr_nil)) ?_; refine y_pure st.d dw (fun hm vw => g_take hb60 (v_fa pr_nil)) ?_; refine y_pure st.d dw (fun hm vw => g_take hb60 (v_ld1 (vw.bx (st.at (i := 0) rfl)) rfl pr_nil)) ?_; obtain ⟨n62, x62, z62, l62, g62, hF⟩ := ix_some hF; obtain ⟨b62, o62, s62, j62, r62, e62, f62, k62, ⟨_, _, rfl, rfl, rfl⟩⟩ := RowF.get ra0_5 g62; refine y_pure st.d dw (fun hm vw => g_take hb60 (v_ixp e62 z62 l62 pr_nil)) ?_; refine y_pure st.d dw (fun hm vw => g_take hb60 (v_fa pr_nil)) ?_; refine y_pure st.d dw (fun hm vw => g_take hb60 (v_ld1 (vw.fz st (le17 _ _ f62)) (take_at (j := 0) k62 rfl) pr_nil)) ?_
          refine y_pure st.d dw (fun hm vw => g_take hb60 (v_fa pr_nil)) ?_; refine y_pure st.d dw (fun hm vw => g_take hb60 (v_ld1 (vw.bx (st.at (i := 0) rfl)) rfl pr_nil)) ?_; refine y_pure st.d dw (fun hm vw => g_take hb60 (v_fa pr_nil)) ?_; refine y_pure st.d dw (fun hm vw => g_take hb60 (v_ld1 (vw.bx (st.at (i := 0) rfl)) rfl pr_nil)) ?_; refine y_pure st.d dw (fun hm vw => g_take hb60 (v_len pr_nil)) ?_; obtain ⟨q63, hF⟩ := ck_some hF; refine y_pure st.d dw (fun hm vw => g_take hb60 (v_sub q63 pr_nil)) ?_; obtain ⟨n64, x64, z64, l64, g64, hF⟩ := ix_some hF; obtain ⟨b64, o64, s64, j64, r64, e64, f64, k64, ⟨_, _, rfl, rfl, rfl⟩⟩ := RowF.get ra0_5 g64; refine y_pure st.d dw (fun hm vw => g_take hb60 (v_ixp e64 z64 l64 pr_nil)) ?_
          refine y_pure st.d dw (fun hm vw => g_take hb60 (v_fa pr_nil)) ?_; refine y_pure st.d dw (fun hm vw => g_take hb60 (v_ld1 (vw.fz st (le17 _ _ f64)) (take_at (j := 0) k64 rfl) pr_nil)) ?_; obtain ⟨v65, e66, hF⟩ := bnd_some hF; refine y_flat st.d dw (fun hm vw => g_take hb60 (u_call (ct86 N e66 vw.d (vw.sub st) ) (fun n' hn' => pf_nil hn'))) (fun n67 hn' dw => ?_); refine y_pure st.d dw (fun hm vw => g_take hb60 (v_not pr_nil)) ?_; refine y_pure st.d dw (fun hm vw => v_pick' hb60 pr_nil) ?_; refine y_pure st.d dw (fun hm vw => v_move pr_nil) ?_
          rcases Bool.eq_false_or_eq_true (!v65) with hb68 | hb68
          · have hF := bif_t hb68 hF; refine y_pure st.d dw (fun hm vw => g_skip hb68 pr_nil) ?_; refine y_pure st.d dw (fun hm vw => g_skip hb68 pr_nil) ?_; refine y_pure st.d dw (fun hm vw => g_skip hb68 pr_nil) ?_; refine y_pure st.d dw (fun hm vw => g_skip hb68 pr_nil) ?_; refine y_pure st.d dw (fun hm vw => g_skip hb68 pr_nil) ?_; refine y_pure st.d dw (fun hm vw => g_skip hb68 pr_nil) ?_; refine y_end st.d dw rfl (fun h69 ex vs => ?_)
            have st := st.ext1 ex
            refine g_skip hb68 ?_; refine g_skip hb68 ?_; refine v_pick hb68 ?_; refine v_move ?_; refine g_skip rfl ?_; refine g_skip rfl ?_; refine g_skip rfl ?_; refine g_skip rfl ?_; refine v_pick rfl ?_; refine r_nil ?_; obtain rfl := inj hF; refine thn ⟨rfl, ?_⟩; dsimp only
            exact ⟨F17, rfl, (PH.le.refl _), st, gA⟩
          · have hF := bif_f hb68 hF; refine y_pure st.d dw (fun hm vw => g_take hb68 (v_fa pr_nil)) ?_; refine y_pure st.d dw (fun hm vw => g_take hb68 (v_fa pr_nil)) ?_; refine y_pure st.d dw (fun hm vw => g_take hb68 (v_ld1 (vw.bx (st.at (i := 0) rfl)) rfl pr_nil)) ?_; refine y_pure st.d dw (fun hm vw => g_take hb68 (v_fa pr_nil)) ?_; refine y_pure st.d dw (fun hm vw => g_take hb68 (v_fa pr_nil)) ?_; refine y_pure st.d dw (fun hm vw => g_take hb68 (v_ld1 (vw.bx (st.at (i := 0) rfl)) rfl pr_nil)) ?_; refine y_end st.d dw rfl (fun h70 ex vs => ?_)
            have st := st.ext1 ex
            obtain ⟨v71, e72, hF⟩ := bnd_some hF; refine g_take hb68 (v_call st (ct25 N e72 st.d st.sub ) (fun n73 st => ?_)); refine g_take hb68 (v_not ?_); refine v_pick' hb68 ?_; refine v_move ?_
            rcases Bool.eq_false_or_eq_true (!v71) with hb74 | hb74
            · have hF := bif_t hb74 hF; refine g_skip hb74 ?_; refine g_skip hb74 ?_; refine g_skip hb74 ?_; refine g_skip hb74 ?_; refine v_pick hb74 ?_; refine r_nil ?_; obtain rfl := inj hF; refine thn ⟨rfl, ?_⟩; dsimp only
              exact ⟨F17, rfl, (PH.le.refl _), st, gA⟩
            · have hF := bif_f hb74 hF; refine g_take hb74 (v_fa ?_); refine g_take hb74 (v_fa ?_); refine g_take hb74 (v_ld1 (st.at (i := 0) rfl).2.2 rfl ?_); refine g_take hb74 (v_gtr ?_); refine v_pick' hb74 ?_; refine r_nil ?_; obtain rfl := inj hF; refine thn ⟨rfl, ?_⟩; dsimp only
              exact ⟨F17, rfl, (PH.le.refl _), st, gA⟩
    · obtain ⟨F51, rfl, le51, st, t60⟩ := hp
      have le75 := PH.le.trans le17 le51
      refine v_cond (fun hb76 => ?_) (fun hb76 => ?_)
      · have hF := bif_t hb76 hF; refine w_seq (w_reg ?_); refine v_move ?_; refine r_nil (th_n ?_); refine w_ret ?_; refine th_r ?_; obtain rfl := inj hF
        exact end_s st (Res.t gA Res.nil) rfl rfl
      · have hF := bif_f hb76 hF; refine w_skip (th_n ?_); refine w_seq (w_reg ?_); refine v_move ?_; refine r_nil (th_n ?_); refine w_ret ?_; obtain rfl := inj hF
        exact end_s st (Res.t gA Res.nil) rfl rfl
end Go.Hx.V

namespace Go.Hx.V
open Go.Hx
set_option maxRecDepth 20000
set_option maxHeartbeats 4000000
variable {fl : Nat} {h0 : Tr HBlk} {n0 : Nat} {F0 : PH}
attribute [local irreducible] W R C thenH inBlockH Tr.get Tr.set lo ck bnd ix iter
theorem ct70 (N : Nat) {a0_0 a0_1 a0_2 a0_3 : Int} {a1 : (List (Int × Int × Int × Int))} {r : ((List (Int × Int)) × Int)} (hF : sf70 N a0_0 a0_1 a0_2 a0_3 a1 = some r) (hd : D h0 n0) (hs : F0.sub h0) (hfl : fl ≤ n0) {pa1 : Option (Nat × Nat)} {ca1 : Nat} (ra1 : RowF (rP rI (rP rI (rP rI rI))) 4 F0 pa1 ca1 a1) : C LW fl 70 [(.agg [(i64 a0_0), (i64 a0_1), (i64 a0_2), (i64 a0_3)]), (.slice pa1 (a1).length ca1)] ⟨h0, n0⟩ (KR (rvT2 (lvL (rP rI rI) 2) lvI) F0 h0 n0 r) := by
  unfold sf70 at hF
  refine in_mT hd hs hfl lw70 rfl rfl (by rfl) (fun st T hT => ?_)
  have t0 := hT 0 _ rfl
  have t1 := hT 1 _ rfl
  dsimp only [L70]
  refine w_seq (w_reg ?_); refine v_box st (fun b1 h2 n3 st => ?_); refine v_move ?_; refine v_move ?_; refine r_nil (th_n ?_); refine w_seq (w_reg ?_); refine v_ldn (vs := [(i64 a0_0), (i64 a0_1), (i64 a0_2), (i64 a0_3)]) (st.at (i := 0) rfl).2.2 rfl ?_; refine v_move ?_; obtain ⟨v4, e5, hF⟩ := bnd_some hF; refine v_call st (ct94 N e5 st.d st.sub ra1) (fun n6 st => ?_); refine v_move ?_; refine v_xt rfl ?_; refine v_xt rfl ?_; refine v_alloc st (fun b7 h8 n9 st => ?_)
  have st := st.cells 1 rfl ([(i64 (0 : Int)), (i64 (0 : Int)), (i64 (0 : Int)), (i64 (0 : Int)), (i64 (0 : Int))] ++ (eI .i64 169 (fun _ => 0))) rfl
  refine v_st (v := (.agg ([(i64 v4.1), (i64 v4.2.1), (i64 v4.2.2.1), (i64 v4.2.2.2.1), (i64 v4.2.2.2.2.1)] ++ (eI .i64 169 v4.2.2.2.2.2.1)))) (cs' := ([(i64 v4.1), (i64 v4.2.1), (i64 v4.2.2.1), (i64 v4.2.2.2.1), (i64 v4.2.2.2.2.1)] ++ (eI .i64 169 v4.2.2.2.2.2.1))) st 1 rfl (ov_tail (q := ([(i64 (0 : Int)), (i64 (0 : Int)), (i64 (0 : Int)), (i64 (0 : Int)), (i64 (0 : Int))] ++ (eI .i64 169 (fun _ => 0)))) (r := ([(i64 v4.1), (i64 v4.2.1), (i64 v4.2.2.1), (i64 v4.2.2.2.1), (i64 v4.2.2.2.2.1)] ++ (eI .i64 169 v4.2.2.2.2.2.1))) [] rfl (by simp [eI_len, eB_len])) (len_tail (E := (eI .i64 169 v4.2.2.2.2.2.1)) [(i64 v4.1), (i64 v4.2.1), (i64 v4.2.2.1), (i64 v4.2.2.2.1), (i64 v4.2.2.2.2.1)] eI_len rfl) (one_tail (E := (eI .i64 169 v4.2.2.2.2.2.1)) [(i64 v4.1), (i64 v4.2.1), (i64 v4.2.2.1), (i64 v4.2.2.2.1), (i64 v4.2.2.2.2.1)] rfl eI_one) hfl (fun h10 st => ?_)
  refine v_move ?_; refine r_nil (th_n ?_); refine w_seq ?_; refine w_seq (w_reg ?_); refine v_move ?_; refine v_nei ?_; refine r_nil (th_n ?_); refine v_cond (fun hb11 => ?_) (fun hb11 => ?_)
  · have hF := bif_t hb11 hF; refine w_seq (w_reg ?_); refine v_move ?_; refine v_move ?_; refine v_move ?_; refine r_nil (th_n ?_); refine w_ret ?_; refine th_r ?_; obtain rfl := inj hF
    exact end_r st (Res.t gA (Res.t gA Res.nil)) ⟨_, _, rfl, ⟨none, 0, rfl, RowF.nil⟩, rfl⟩
  · have hF := bif_f hb11 hF; refine w_skip (th_n ?_); refine w_seq (w_reg ?_); refine v_ldn (vs := ([(i64 v4.1), (i64 v4.2.1), (i64 v4.2.2.1), (i64 v4.2.2.2.1), (i64 v4.2.2.2.2.1)] ++ (eI .i64 169 v4.2.2.2.2.2.1))) (st.at (i := 1) rfl).2.2 (tk_tail (E := (eI .i64 169 v4.2.2.2.2.2.1)) [] [(i64 v4.1), (i64 v4.2.1), (i64 v4.2.2.1), (i64 v4.2.2.2.1), (i64 v4.2.2.2.2.1)] rfl eI_len rfl) ?_; obtain ⟨v12, e13, hF⟩ := bnd_some hF; refine v_callR st (ct108 N e13 st.d st.sub (Nat.le_trans hfl st.ext.le) ) (fun u14 F14 h14 n14 le14 rv14 st => ?_); obtain ⟨py15, cy15, rfl, ry15⟩ := rv14; refine v_move ?_; refine v_move ?_; refine r_nil (th_n ?_); refine w_ret ?_; obtain rfl := inj hF
    exact end_r st (Res.t gA (Res.t gA Res.nil)) ⟨_, _, rfl, ⟨_, _, rfl, ry15⟩, rfl⟩
end Go.Hx.V

namespace Go.Hx.V
open Go.Hx
set_option maxRecDepth 20000
set_option maxHeartbeats 4000000
variable {fl : Nat} {h0 : Tr HBlk} {n0 : Nat} {F0 : PH}
attribute [local irreducible] W R C thenH inBlockH Tr.get Tr.set lo ck bnd ix iter
theorem ct65 (N : Nat) {a0_0 a0_1 a0_2 a0_3 : Int} {a0_4 : (List (Int × Int × Int × Int))} {a0_5 : (List (Int × Int))} {a0_6 a0_7 a0_8 a0_9 : Int} {r : (Int × Int × Int × Int × (List (Int × Int × Int × Int)) × (List (Int × Int)) × Int × Int × Int × Int × (Nat → Int) × Int)} (hF : sf65 N a0_0 a0_1 a0_2 a0_3 a0_4 a0_5 a0_6 a0_7 a0_8 a0_9 = some r) (hd : D h0 n0) (hs : F0.sub h0) (hfl : fl ≤ n0) {pa0_4 : Option (Nat × Nat)} {ca0_4 : Nat} {pa0_5 : Option (Nat × Nat)} {ca0_5 : Nat} (ra0_4 : RowF (rP rI (rP rI (rP rI rI))) 4 F0 pa0_4 ca0_4 a0_4) (ra0_5 : RowF (rP rI rI) 2 F0 pa0_5 ca0_5 a0_5) : C LW fl 65 [(.agg [(i64 a0_0), (i64 a0_1), (i64 a0_2), (i64 a0_3), (.slice pa0_4 (a0_4).length ca0_4), (.slice pa0_5 (a0_5).length ca0_5), (i64 a0_6), (i64 a0_7), (i64 a0_8), (i64 a0_9)])] ⟨h0, n0⟩ (KR (rvT2A (rqC rI (rqC rI (rqC rI (rqC rI (rqC (rL (rP rI (rP rI (rP rI rI))) 4) (rqC (rL (rP rI rI) 2) (rqC rI (rqC rI (rqC rI (rqC rI (rqL (rF .i64 22) lvI)))))))))))) F0 h0 n0 r) := by
  unfold sf65 at hF
  refine in_mT hd hs hfl lw65 rfl rfl (by rfl) (fun st T hT => ?_)
  have t0 := hT 0 _ rfl
  dsimp only [L65]
  refine w_seq (w_reg ?_); refine v_box st (fun b1 h2 n3 st => ?_); refine v_alloc st (fun b4 h5 n6 st => ?_)
  have st := st.cells 1 rfl ([(i64 (0 : Int)), (i64 (0 : Int)), (i64 (0 : Int)), (i64 (0 : Int)), (.slice none 0 0), (.slice none 0 0), (i64 (0 : Int)), (i64 (0 : Int)), (i64 (0 : Int)), (i64 (0 : Int))] ++ (eI .i64 22 (fun _ => 0))) rfl
  refine v_move ?_; refine r_nil (th_n ?_); obtain ⟨y15, hA16, hF⟩ := bnd_some hF; refine w_cutD (fun T ds21 h nx => ∃ u, y15 = (.inr u) ∧ ∃ (F21 : PH), ds21 = [] ∧ PH.le F0 F21 ∧ St n0 h0 F0 F21 h nx [.bx b1 [(i64 a0_0), (i64 a0_1), (i64 a0_2), (i64 a0_3), (.slice pa0_4 (a0_4).length ca0_4), (.slice pa0_5 (a0_5).length ca0_5), (i64 a0_6), (i64 a0_7), (i64 a0_8), (i64 a0_9)], .bx b4 ([(i64 (0 : Int)), (i64 (0 : Int)), (i64 (0 : Int)), (i64 (0 : Int)), (.slice none 0 0), (.slice none 0 0), (i64 (0 : Int)), (i64 (0 : Int)), (i64 (0 : Int)), (i64 (0 : Int))] ++ (eI .i64 22 (fun _ => 0)))] ∧ T.get 1 = some (.ptr (some (b1, 0))) ∧ T.get 2 = some (.ptr (some (b4, 0)))) ?_ (fun T ds21 h nx hp => ?_)
  · have hK17 := hF
    have hF := hA16; obtain ⟨y23, hA24, hF⟩ := bnd_some hF; refine w_cutD (fun T ds26 h nx => ∃ (F26 : PH), ds26 = [] ∧ PH.le F0 F26 ∧ St n0 h0 F0 F26 h nx [.bx b1 [(i64 a0_0), (i64 a0_1), (i64 a0_2), (i64 a0_3), (.slice pa0_4 (a0_4).length ca0_4), (.slice pa0_5 (a0_5).length ca0_5), (i64 a0_6), (i64 a0_7), (i64 a0_8), (i64 a0_9)], .bx b4 ([(i64 (0 : Int)), (i64 (0 : Int)), (i64 (0 : Int)), (i64 (0 : Int)), (.slice none 0 0), (.slice none 0 0), (i64 (0 : Int)), (i64 (0 : Int)), (i64 (0 : Int)), (i64 (0 : Int))] ++ (eI .i64 22 (fun _ => 0)))] ∧ T.get 1 = some (.ptr (some (b1, 0))) ∧ T.get 2 = some (.ptr (some (b4, 0))) ∧ T.get 18 = some (.bool y23)) ?_ (fun T ds26 h nx hp => ?_)
    · have hK25 := hF
      have hF := hA24; refine w_reg ?_; refine v_fa ?_; refine v_ld1 (st.at (i := 0) rfl).2.2 rfl ?_; refine v_len ?_; refine v_gtr ?_; refine v_move ?_
      rcases Bool.eq_false_or_eq_true (decide ((12 : Int) < ((a0_4).length : Int))) with hb27 | hb27
      · have hF := bif_t hb27 hF; refine g_skip hb27 ?_; refine g_skip hb27 ?_; refine g_skip hb27 ?_; refine g_skip hb27 ?_; refine v_pick hb27 ?_; refine r_nil ?_; obtain rfl := inj hF; refine thn ⟨rfl, ?_⟩; dsimp only
        exact ⟨F0, rfl, (PH.le.refl _), st, gA, gA, gA⟩
      · have hF := bif_f hb27 hF; refine g_take hb27 (v_fa ?_); refine g_take hb27 (v_ld1 (st.at (i := 0) rfl).2.2 rfl ?_); refine g_take hb27 (v_len ?_); refine g_take hb27 (v_gtr ?_); refine v_pick' hb27 ?_; refine r_nil ?_; obtain rfl := inj hF; refine thn ⟨rfl, ?_⟩; dsimp only
        exact ⟨F0, rfl, (PH.le.refl _), st, gA, gA, gA⟩
    · obtain ⟨F26, rfl, le26, st, t1, t2, t18⟩ := hp; refine v_cond (fun hb28 => ?_) (fun hb28 => ?_)
      · have hF := bif_t hb28 hF; refine w_seq (w_reg ?_); refine v_build (cs := ([(i64 (0 : Int)), (i64 (0 : Int)), (i64 (0 : Int)), (i64 (0 : Int)), (.slice none 0 0), (.slice none 0 0), (i64 (0 : Int)), (i64 (0 : Int)), (i64 (0 : Int)), (i64 (0 : Int))] ++ (eI .i64 22 (fun _ => 0)))) rfl ?_
        refine v_st (v := (.agg ([(i64 (0 : Int)), (i64 (0 : Int)), (i64 (0 : Int)), (i64 (0 : Int)), (.slice none 0 0), (.slice none 0 0), (i64 (0 : Int)), (i64 (0 : Int)), (i64 (0 : Int)), (i64 (0 : Int))] ++ (eI .i64 22 (fun _ => 0))))) (cs' := ([(i64 (0 : Int)), (i64 (0 : Int)), (i64 (0 : Int)), (i64 (0 : Int)), (.slice none 0 0), (.slice none 0 0), (i64 (0 : Int)), (i64 (0 : Int)), (i64 (0 : Int)), (i64 (0 : Int))] ++ (eI .i64 22 (fun _ => 0)))) st 1 rfl (ov_tail (q := ([(i64 (0 : Int)), (i64 (0 : Int)), (i64 (0 : Int)), (i64 (0 : Int)), (.slice none 0 0), (.slice none 0 0), (i64 (0 : Int)), (i64 (0 : Int)), (i64 (0 : Int)), (i64 (0 : Int))] ++ (eI .i64 22 (fun _ => 0)))) (r := ([(i64 (0 : Int)), (i64 (0 : Int)), (i64 (0 : Int)), (i64 (0 : Int)), (.slice none 0 0), (.slice none 0 0), (i64 (0 : Int)), (i64 (0 : Int)), (i64 (0 : Int)), (i64 (0 : Int))] ++ (eI .i64 22 (fun _ => 0)))) [] rfl (by simp [eI_len, eB_len])) (len_tail (E := (eI .i64 22 (fun _ => 0))) [(i64 (0 : Int)), (i64 (0 : Int)), (i64 (0 : Int)), (i64 (0 : Int)), (.slice none 0 0), (.slice none 0 0), (i64 (0 : Int)), (i64 (0 : Int)), (i64 (0 : Int)), (i64 (0 : Int))] eI_len rfl) (one_tail (E := (eI .i64 22 (fun _ => 0))) [(i64 (0 : Int)), (i64 (0 : Int)), (i64 (0 : Int)), (i64 (0 : Int)), (.slice none 0 0), (.slice none 0 0), (i64 (0 : Int)), (i64 (0 : Int)), (i64 (0 : Int)), (i64 (0 : Int))] rfl eI_one) hfl (fun h29 st => ?_)
        refine v_move ?_; refine r_nil (th_n ?_); refine w_ret ?_; obtain rfl := inj hF; have hF := hK17; have hF := sel_l hF; refine th_r ?_; obtain rfl := inj hF
        exact end_r st (Res.c gA (st.at (i := 1) rfl).2.2 (show takeN _ _ = some ([(i64 (0 : Int)), (i64 (0 : Int)), (i64 (0 : Int)), (i64 (0 : Int)), (.slice none 0 0), (.slice none 0 0), (i64 (0 : Int)), (i64 (0 : Int)), (i64 (0 : Int)), (i64 (0 : Int))] ++ (eI .i64 22 (fun _ => 0))) from (tk_tail (E := (eI .i64 22 (fun _ => 0))) [] [(i64 (0 : Int)), (i64 (0 : Int)), (i64 (0 : Int)), (i64 (0 : Int)), (.slice none 0 0), (.slice none 0 0), (i64 (0 : Int)), (i64 (0 : Int)), (i64 (0 : Int)), (i64 (0 : Int))] rfl eI_len rfl)) (Res.t gA Res.nil)) ⟨_, _, rfl, ⟨[(i64 (0 : Int))], ([(i64 (0 : Int)), (i64 (0 : Int)), (i64 (0 : Int)), (.slice none 0 0), (.slice none 0 0), (i64 (0 : Int)), (i64 (0 : Int)), (i64 (0 : Int)), (i64 (0 : Int))] ++ (eI .i64 22 (fun _ => 0))), rfl, rfl, ⟨[(i64 (0 : Int))], ([(i64 (0 : Int)), (i64 (0 : Int)), (.slice none 0 0), (.slice none 0 0), (i64 (0 : Int)), (i64 (0 : Int)), (i64 (0 : Int)), (i64 (0 : Int))] ++ (eI .i64 22 (fun _ => 0))), rfl, rfl, ⟨[(i64 (0 : Int))], ([(i64 (0 : Int)), (.slice none 0 0), (.slice none 0 0), (i64 (0 : Int)), (i64 (0 : Int)), (i64 (0 : Int)), (i64 (0 : Int))] ++ (eI .i64 22 (fun _ => 0))), rfl, rfl, ⟨[(i64 (0 : Int))], ([(.slice none 0 0), (.slice none 0 0), (i64 (0 : Int)), (i64 (0 : Int)), (i64 (0 : Int)), (i64 (0 : Int))] ++ (eI .i64 22 (fun _ => 0))), rfl, rfl, ⟨[(.slice none 0 0)], ([(.slice none 0 0), (i64 (0 : Int)), (i64 (0 : Int)), (i64 (0 : Int)), (i64 (0 : Int))] ++ (eI .i64 22 (fun _ => 0))), rfl, ⟨none, 0, rfl, RowF.nil⟩, ⟨[(.slice none 0 0)], ([(i64 (0 : Int)), (i64 (0 : Int)), (i64 (0 : Int)), (i64 (0 : Int))] ++ (eI .i64 22 (fun _ => 0))), rfl, ⟨none, 0, rfl, RowF.nil⟩, ⟨[(i64 (0 : Int))], ([(i64 (0 : Int)), (i64 (0 : Int)), (i64 (0 : Int))] ++ (eI .i64 22 (fun _ => 0))), rfl, rfl, ⟨[(i64 (0 : Int))], ([(i64 (0 : Int)), (i64 (0 : Int))] ++ (eI .i64 22 (fun _ => 0))), rfl, rfl, ⟨[(i64 (0 : Int))], ([(i64 (0 : Int))] ++ (eI .i64 22 (fun _ => 0))), rfl, rfl, ⟨[(i64 (0 : Int))], (eI .i64 22 (fun _ => 0)), rfl, rfl, ⟨rfl, rfl⟩⟩⟩⟩⟩⟩⟩⟩⟩⟩⟩⟩
      · have hF := bif_f hb28 hF; refine w_skip ?_; obtain rfl := inj hF; refine thn ⟨rfl, _, rfl, ?_⟩; dsimp only
        exact ⟨F26, rfl, le26, st, gA, gA⟩
  · obtain ⟨w20, rfl, F21, rfl, le21, st, t1, t2⟩ := hp; have hF := sel_r hF; refine w_seq (w_reg ?_); refine v_fa ?_; refine v_ldn (vs := [(i64 a0_0), (i64 a0_1), (i64 a0_2), (i64 a0_3)]) (st.at (i := 0) rfl).2.2 rfl ?_; refine v_fa ?_; refine v_ld1 (st.at (i := 0) rfl).2.2 rfl ?_; obtain ⟨v30, e31, hF⟩ := bnd_some hF; refine v_callR st (ct70 N e31 st.d st.sub (Nat.le_trans hfl st.ext.le) (RowF.mono le21 ra0_4)) (fun u32 F32 h32 n32 le32 rv32 st => ?_)
    have le33 := PH.le.trans le21 le32
    obtain ⟨_, _, rfl, ⟨py34, cy34, rfl, ry34⟩, rfl⟩ := rv32; refine v_move ?_; refine v_xt rfl ?_; refine v_xt rfl ?_; refine v_move ?_; refine v_move ?_; refine r_nil (th_n ?_); refine w_seq (w_reg ?_); refine v_fa ?_; refine v_ld1 (st.at (i := 0) rfl).2.2 rfl ?_; refine v_fa ?_; refine v_ldn (vs := [(i64 a0_6), (i64 a0_7)]) (st.at (i := 0) rfl).2.2 rfl ?_; obtain ⟨v35, e36, hF⟩ := bnd_some hF; refine v_call st (ct101 N e36 st.d st.sub (RowF.mono le33 ra0_5)) (fun n37 st => ?_); refine v_move ?_; refine v_xt rfl ?_; refine v_xt rfl ?_; refine v_alloc st (fun b38 h39 n40 st => ?_); refine v_st (cs' := [(i64 v35.1), (i64 v35.2.1)]) st 2 rfl rfl rfl rfl hfl (fun h41 st => ?_)
    refine v_move ?_; refine r_nil (th_n ?_); refine w_seq (w_reg ?_); refine v_move ?_; refine v_eqi ?_; refine v_move ?_; refine r_nil (th_n ?_); obtain ⟨y92, hA93, hF⟩ := bnd_some hF; refine w_cutD (fun T ds98 h nx => ∃ u, y92 = (.inr u) ∧ ∃ (F98 : PH), ds98 = [] ∧ PH.le F32 F98 ∧ St n0 h0 F0 F98 h nx [.bx b1 [(i64 a0_0), (i64 a0_1), (i64 a0_2), (i64 a0_3), (.slice pa0_4 (a0_4).length ca0_4), (.slice pa0_5 (a0_5).length ca0_5), (i64 a0_6), (i64 a0_7), (i64 a0_8), (i64 a0_9)], .bx b4 ([(i64 (0 : Int)), (i64 (0 : Int)), (i64 (0 : Int)), (i64 (0 : Int)), (.slice none 0 0), (.slice none 0 0), (i64 (0 : Int)), (i64 (0 : Int)), (i64 (0 : Int)), (i64 (0 : Int))] ++ (eI .i64 22 (fun _ => 0))), .bx b38 [(i64 v35.1), (i64 v35.2.1)]] ∧ T.get 1 = some (.ptr (some (b1, 0))) ∧ T.get 2 = some (.ptr (some (b4, 0))) ∧ T.get 4 = some (.slice py34 (v30.1).length cy34) ∧ T.get 6 = some (.ptr (some (b38, 0))) ∧ T.get 8 = some (.bool (decide (v30.2 = (9 : Int))))) ?_ (fun T ds98 h nx hp => ?_)
    · have hK94 := hF
      have hF := hA93; obtain ⟨y120, hA121, hF⟩ := bnd_some hF; refine w_cutD (fun T ds123 h nx => ∃ (F123 : PH), ds123 = [] ∧ PH.le F32 F123 ∧ St n0 h0 F0 F123 h nx [.bx b1 [(i64 a0_0), (i64 a0_1), (i64 a0_2), (i64 a0_3), (.slice pa0_4 (a0_4).length ca0_4), (.slice pa0_5 (a0_5).length ca0_5), (i64 a0_6), (i64 a0_7), (i64 a0_8), (i64 a0_9)], .bx b4 ([(i64 (0 : Int)), (i64 (0 : Int)), (i64 (0 : Int)), (i64 (0 : Int)), (.slice none 0 0), (.slice none 0 0), (i64 (0 : Int)), (i64 (0 : Int)), (i64 (0 : Int)), (i64 (0 : Int))] ++ (eI .i64 22 (fun _ => 0))), .bx b38 [(i64 v35.1), (i64 v35.2.1)]] ∧ T.get 1 = some (.ptr (some (b1, 0))) ∧ T.get 2 = some (.ptr (some (b4, 0))) ∧ T.get 4 = some (.slice py34 (v30.1).length cy34) ∧ T.get 6 = some (.ptr (some (b38, 0))) ∧ T.get 8 = some (.bool (decide (v30.2 = (9 : Int)))) ∧ T.get 54 = some (.bool y120)) ?_ (fun T ds123 h nx hp => ?_)
      · have hK122 := hF
        have hF := hA121; refine w_drawV (Nat.le_trans hfl st.ext.le) (fun dw => ?_); refine y_pure st.d dw (fun hm vw => v_move pr_nil) ?_; refine y_pure st.d dw (fun hm vw => v_nei pr_nil) ?_; refine y_pure st.d dw (fun hm vw => v_move pr_nil) ?_
        rcases Bool.eq_false_or_eq_true (!(decide (v30.2 = (0 : Int)))) with hb124 | hb124
        · have hF := bif_t hb124 hF; refine y_pure st.d dw (fun hm vw => g_take hb124 (v_move pr_nil)) ?_; refine y_pure st.d dw (fun hm vw => g_take hb124 (v_not pr_nil)) ?_; refine y_pure st.d dw (fun hm vw => v_pick hb124 pr_nil) ?_; refine y_pure st.d dw (fun hm vw => v_move pr_nil) ?_
          rcases Bool.eq_false_or_eq_true (!(decide (v30.2 = (9 : Int)))) with hb125 | hb125
          · have hF := bif_t hb125 hF; refine y_pure st.d dw (fun hm vw => g_skip hb125 pr_nil) ?_; refine y_pure st.d dw (fun hm vw => g_skip hb125 pr_nil) ?_; refine y_pure st.d dw (fun hm vw => v_pick hb125 pr_nil) ?_; refine y_pure st.d dw (fun hm vw => v_move pr_nil) ?_; refine y_pure st.d dw (fun hm vw => g_skip rfl pr_nil) ?_; refine y_pure st.d dw (fun hm vw => g_skip rfl pr_nil) ?_; refine y_pure st.d dw (fun hm vw => g_skip rfl pr_nil) ?_; refine y_end st.d dw rfl (fun h126 ex vs => ?_)
            have st := st.ext1 ex
            refine g_skip rfl ?_; refine g_skip rfl ?_; refine v_pick rfl ?_; refine r_nil ?_; obtain rfl := inj hF; refine thn ⟨rfl, ?_⟩; dsimp only
            exact ⟨F32, rfl, (PH.le.refl _), st, gA, gA, gA, gA, gA, gA⟩
          · have hF := bif_f hb125 hF; refine y_pure st.d dw (fun hm vw => g_take hb125 (v_move pr_nil)) ?_; refine y_pure st.d dw (fun hm vw => g_take hb125 (v_nei pr_nil)) ?_; refine y_pure st.d dw (fun hm vw => v_pick' hb125 pr_nil) ?_; refine y_pure st.d dw (fun hm vw => v_move pr_nil) ?_
            rcases Bool.eq_false_or_eq_true (!(decide (v35.2.2 = (0 : Int)))) with hb127 | hb127
            · have hF := bif_t hb127 hF; refine y_pure st.d dw (fun hm vw => g_skip hb127 pr_nil) ?_; refine y_pure st.d dw (fun hm vw => g_skip hb127 pr_nil) ?_; refine y_pure st.d dw (fun hm vw => g_skip hb127 pr_nil) ?_; refine y_end st.d dw rfl (fun h128 ex vs => ?_)
              have st := st.ext1 ex
              refine g_skip hb127 ?_; refine g_skip hb127 ?_; refine v_pick hb127 ?_; refine r_nil ?_; obtain rfl := inj hF; refine thn ⟨rfl, ?_⟩; dsimp only
              exact ⟨F32, rfl, (PH.le.refl _), st, gA, gA, gA, gA, gA, gA⟩
            · have hF := bif_f hb127 hF; refine y_pure st.d dw (fun hm vw => g_take hb127 (v_fa pr_nil)) ?_; refine y_pure st.d dw (fun hm vw => g_take hb127 (v_ldn (vs := [(i64 a0_8), (i64 a0_9)]) (vw.bx (st.at (i := 0) rfl)) rfl pr_nil)) ?_; obtain ⟨v129, e130, hF⟩ := bnd_some hF; refine y_flat st.d dw (fun hm vw => g_take hb127 (u_call (ct103 N e130 vw.d (vw.sub st) ) (fun n' hn' => pf_nil hn'))) (fun n131 hn' dw => ?_); refine y_end st.d dw rfl (fun h132 ex vs => ?_)
              have st := st.ext1 ex
              obtain ⟨v133, e134, hF⟩ := bnd_some hF; refine g_take hb127 (v_call st (ct102 N e134 st.d st.sub ) (fun n135 st => ?_)); refine g_take hb127 (v_not ?_); refine v_pick' hb127 ?_; refine r_nil ?_; obtain rfl := inj hF; refine thn ⟨rfl, ?_⟩; dsimp only
              exact ⟨F32, rfl, (PH.le.refl _), st, gA, gA, gA, gA, gA, gA⟩
        · have hF := bif_f hb124 hF; refine y_pure st.d dw (fun hm vw => g_skip hb124 pr_nil) ?_; refine y_pure st.d dw (fun hm vw => g_skip hb124 pr_nil) ?_; refine y_pure st.d dw (fun hm vw => v_pick' hb124 pr_nil) ?_; refine y_pure st.d dw (fun hm vw => v_move pr_nil) ?_; refine y_pure st.d dw (fun hm vw => g_take rfl (v_move pr_nil)) ?_; refine y_pure st.d dw (fun hm vw => g_take rfl (v_nei pr_nil)) ?_; refine y_pure st.d dw (fun hm vw => v_pick' rfl pr_nil) ?_; refine y_pure st.d dw (fun hm vw => v_move pr_nil) ?_
          rcases Bool.eq_false_or_eq_true (!(decide (v35.2.2 = (0 : Int)))) with hb136 | hb136
          · have hF := bif_t hb136 hF; refine y_pure st.d dw (fun hm vw => g_skip hb136 pr_nil) ?_; refine y_pure st.d dw (fun hm vw => g_skip hb136 pr_nil) ?_; refine y_pure st.d dw (fun hm vw => g_skip hb136 pr_nil) ?_; refine y_end st.d dw rfl (fun h137 ex vs => ?_)
            have st := st.ext1 ex
            refine g_skip hb136 ?_; refine g_skip hb136 ?_; refine v_pick hb136 ?_; refine r_nil ?_; obtain rfl := inj hF; refine thn ⟨rfl, ?_⟩; dsimp only
            exact ⟨F32, rfl, (PH.le.refl _), st, gA, gA, gA, gA, gA, gA⟩
          · have hF := bif_f hb136 hF; refine y_pure st.d dw (fun hm vw => g_take hb136 (v_fa pr_nil)) ?_; refine y_pure st.d dw (fun hm vw => g_take hb136 (v_ldn (vs := [(i64 a0_8), (i64 a0_9)]) (vw.bx (st.at (i := 0) rfl)) rfl pr_nil)) ?_; obtain ⟨v138, e139, hF⟩ := bnd_some hF; refine y_flat st.d dw (fun hm vw => g_take hb136 (u_call (ct103 N e139 vw.d (vw.sub st) ) (fun n' hn' => pf_nil hn'))) (fun n140 hn' dw => ?_); refine y_end st.d dw rfl (fun h141 ex vs => ?_)
            have st := st.ext1 ex
            obtain ⟨v142, e143, hF⟩ := bnd_some hF; refine g_take hb136 (v_call st (ct102 N e143 st.d st.sub ) (fun n144 st => ?_)); refine g_take hb136 (v_not ?_); refine v_pick' hb136 ?_; refine r_nil ?_; obtain rfl := inj hF; refine thn ⟨rfl, ?_⟩; dsimp only
            exact ⟨F32, rfl, (PH.le.refl _), st, gA, gA, gA, gA, gA, gA⟩
      · obtain ⟨F123, rfl, le123, st, t1, t2, t4, t6, t8, t54⟩ := hp
        have le145 := PH.le.trans le33 le123
        have le146 := PH.le.trans le32 le123
        refine v_cond (fun hb147 => ?_) (fun hb147 => ?_)
        · have hF := bif_t hb147 hF; refine w_seq (w_reg ?_); refine v_build (cs := ([(i64 (0 : Int)), (i64 (0 : Int)), (i64 (0 : Int)), (i64 (0 : Int)), (.slice none 0 0), (.slice none 0 0), (i64 (0 : Int)), (i64 (0 : Int)), (i64 (0 : Int)), (i64 (0 : Int))] ++ (eI .i64 22 (fun _ => 0)))) rfl ?_
          refine v_st (v := (.agg ([(i64 (0 : Int)), (i64 (0 : Int)), (i64 (0 : Int)), (i64 (0 : Int)), (.slice none 0 0), (.slice none 0 0), (i64 (0 : Int)), (i64 (0 : Int)), (i64 (0 : Int)), (i64 (0 : Int))] ++ (eI .i64 22 (fun _ => 0))))) (cs' := ([(i64 (0 : Int)), (i64 (0 : Int)), (i64 (0 : Int)), (i64 (0 : Int)), (.slice none 0 0), (.slice none 0 0), (i64 (0 : Int)), (i64 (0 : Int)), (i64 (0 : Int)), (i64 (0 : Int))] ++ (eI .i64 22 (fun _ => 0)))) st 1 rfl (ov_tail (q := ([(i64 (0 : Int)), (i64 (0 : Int)), (i64 (0 : Int)), (i64 (0 : Int)), (.slice none 0 0), (.slice none 0 0), (i64 (0 : Int)), (i64 (0 : Int)), (i64 (0 : Int)), (i64 (0 : Int))] ++ (eI .i64 22 (fun _ => 0)))) (r := ([(i64 (0 : Int)), (i64 (0 : Int)), (i64 (0 : Int)), (i64 (0 : Int)), (.slice none 0 0), (.slice none 0 0), (i64 (0 : Int)), (i64 (0 : Int)), (i64 (0 : Int)), (i64 (0 : Int))] ++ (eI .i64 22 (fun _ => 0)))) [] rfl (by simp [eI_len, eB_len])) (len_tail (E := (eI .i64 22 (fun _ => 0))) [(i64 (0 : Int)), (i64 (0 : Int)), (i64 (0 : Int)), (i64 (0 : Int)), (.slice none 0 0), (.slice none 0 0), (i64 (0 : Int)), (i64 (0 : Int)), (i64 (0 : Int)), (i64 (0 : Int))] eI_len rfl) (one_tail (E := (eI .i64 22 (fun _ => 0))) [(i64 (0 : Int)), (i64 (0 : Int)), (i64 (0 : Int)), (i64 (0 : Int)), (.slice none 0 0), (.slice none 0 0), (i64 (0 : Int)), (i64 (0 : Int)), (i64 (0 : Int)), (i64 (0 : Int))] rfl eI_one) hfl (fun h148 st => ?_)
          refine v_move ?_; refine r_nil (th_n ?_); refine w_ret ?_; obtain rfl := inj hF; have hF := hK94; have hF := sel_l hF; refine th_r ?_; obtain rfl := inj hF
          exact end_r st (Res.c gA (st.at (i := 1) rfl).2.2 (show takeN _ _ = some ([(i64 (0 : Int)), (i64 (0 : Int)), (i64 (0 : Int)), (i64 (0 : Int)), (.slice none 0 0), (.slice none 0 0), (i64 (0 : Int)), (i64 (0 : Int)), (i64 (0 : Int)), (i64 (0 : Int))] ++ (eI .i64 22 (fun _ => 0))) from (tk_tail (E := (eI .i64 22 (fun _ => 0))) [] [(i64 (0 : Int)), (i64 (0 : Int)), (i64 (0 : Int)), (i64 (0 : Int)), (.slice none 0 0), (.slice none 0 0), (i64 (0 : Int)), (i64 (0 : Int)), (i64 (0 : Int)), (i64 (0 : Int))] rfl eI_len rfl)) (Res.t gA Res.nil)) ⟨_, _, rfl, ⟨[(i64 (0 : Int))], ([(i64 (0 : Int)), (i64 (0 : Int)), (i64 (0 : Int)), (.slice none 0 0), (.slice none 0 0), (i64 (0 : Int)), (i64 (0 : Int)), (i64 (0 : Int)), (i64 (0 : Int))] ++ (eI .i64 22 (fun _ => 0))), rfl, rfl, ⟨[(i64 (0 : Int))], ([(i64 (0 : Int)), (i64 (0 : Int)), (.slice none 0 0), (.slice none 0 0), (i64 (0 : Int)), (i64 (0 : Int)), (i64 (0 : Int)), (i64 (0 : Int))] ++ (eI .i64 22 (fun _ => 0))), rfl, rfl, ⟨[(i64 (0 : Int))], ([(i64 (0 : Int)), (.slice none 0 0), (.slice none 0 0), (i64 (0 : Int)), (i64 (0 : Int)), (i64 (0 : Int)), (i64 (0 : Int))] ++ (eI .i64 22 (fun _ => 0))), rfl, rfl, ⟨[(i64 (0 : Int))], ([(.slice none 0 0), (.slice none 0 0), (i64 (0 : Int)), (i64 (0 : Int)), (i64 (0 : Int)), (i64 (0 : Int))] ++ (eI .i64 22 (fun _ => 0))), rfl, rfl, ⟨[(.slice none 0 0)], ([(.slice none 0 0), (i64 (0 : Int)), (i64 (0 : Int)), (i64 (0 : Int)), (i64 (0 : Int))] ++ (eI .i64 22 (fun _ => 0))), rfl, ⟨none, 0, rfl, RowF.nil⟩, ⟨[(.slice none 0 0)], ([(i64 (0 : Int)), (i64 (0 : Int)), (i64 (0 : Int)), (i64 (0 : Int))] ++ (eI .i64 22 (fun _ => 0))), rfl, ⟨none, 0, rfl, RowF.nil⟩, ⟨[(i64 (0 : Int))], ([(i64 (0 : Int)), (i64 (0 : Int)), (i64 (0 : Int))] ++ (eI .i64 22 (fun _ => 0))), rfl, rfl, ⟨[(i64 (0 : Int))], ([(i64 (0 : Int)), (i64 (0 : Int))] ++ (eI .i64 22 (fun _ => 0))), rfl, rfl, ⟨[(i64 (0 : Int))], ([(i64 (0 : Int))] ++ (eI .i64 22 (fun _ => 0))), rfl, rfl, ⟨[(i64 (0 : Int))], (eI .i64 22 (fun _ => 0)), rfl, rfl, ⟨rfl, rfl⟩⟩⟩⟩⟩⟩⟩⟩⟩⟩⟩⟩
        · have hF := bif_f hb147 hF; refine w_skip ?_; obtain rfl := inj hF; refine thn ⟨rfl, _, rfl, ?_⟩; dsimp only
          exact ⟨F123, rfl, le123, st, gA, gA, gA, gA, gA⟩
    · obtain ⟨w97, rfl, F98, rfl, le98, st, t1, t2, t4, t6, t8⟩ := hp; have hF := sel_r hF
      have le151 := PH.le.trans le33 le98
      have le152 := PH.le.trans le32 le98
      refine w_seq ?_; refine w_seq (w_reg ?_); refine v_move ?_; refine r_nil (th_n ?_); refine v_cond (fun hb153 => ?_) (fun hb153 => ?_)
      · have hF := bif_t hb153 hF; refine w_seq (w_reg ?_); refine v_build (cs := ([(i64 (0 : Int)), (i64 (0 : Int)), (i64 (0 : Int)), (i64 (0 : Int)), (.slice none 0 0), (.slice none 0 0), (i64 (0 : Int)), (i64 (0 : Int)), (i64 (0 : Int)), (i64 (0 : Int))] ++ (eI .i64 22 (fun _ => 0)))) rfl ?_
        refine v_st (v := (.agg ([(i64 (0 : Int)), (i64 (0 : Int)), (i64 (0 : Int)), (i64 (0 : Int)), (.slice none 0 0), (.slice none 0 0), (i64 (0 : Int)), (i64 (0 : Int)), (i64 (0 : Int)), (i64 (0 : Int))] ++ (eI .i64 22 (fun _ => 0))))) (cs' := ([(i64 (0 : Int)), (i64 (0 : Int)), (i64 (0 : Int)), (i64 (0 : Int)), (.slice none 0 0), (.slice none 0 0), (i64 (0 : Int)), (i64 (0 : Int)), (i64 (0 : Int)), (i64 (0 : Int))] ++ (eI .i64 22 (fun _ => 0)))) st 1 rfl (ov_tail (q := ([(i64 (0 : Int)), (i64 (0 : Int)), (i64 (0 : Int)), (i64 (0 : Int)), (.slice none 0 0), (.slice none 0 0), (i64 (0 : Int)), (i64 (0 : Int)), (i64 (0 : Int)), (i64 (0 : Int))] ++ (eI .i64 22 (fun _ => 0)))) (r := ([(i64 (0 : Int)), (i64 (0 : Int)), (i64 (0 : Int)), (i64 (0 : Int)), (.slice none 0 0), (.slice none 0 0), (i64 (0 : Int)), (i64 (0 : Int)), (i64 (0 : Int)), (i64 (0 : Int))] ++ (eI .i64 22 (fun _ => 0)))) [] rfl (by simp [eI_len, eB_len])) (len_tail (E := (eI .i64 22 (fun _ => 0))) [(i64 (0 : Int)), (i64 (0 : Int)), (i64 (0 : Int)), (i64 (0 : Int)), (.slice none 0 0), (.slice none 0 0), (i64 (0 : Int)), (i64 (0 : Int)), (i64 (0 : Int)), (i64 (0 : Int))] eI_len rfl) (one_tail (E := (eI .i64 22 (fun _ => 0))) [(i64 (0 : Int)), (i64 (0 : Int)), (i64 (0 : Int)), (i64 (0 : Int)), (.slice none 0 0), (.slice none 0 0), (i64 (0 : Int)), (i64 (0 : Int)), (i64 (0 : Int)), (i64 (0 : Int))] rfl eI_one) hfl (fun h154 st => ?_)
        refine v_move ?_; refine r_nil (th_n ?_); refine w_ret ?_; refine th_r ?_; obtain rfl := inj hF
        exact end_r st (Res.c gA (st.at (i := 1) rfl).2.2 (show takeN _ _ = some ([(i64 (0 : Int)), (i64 (0 : Int)), (i64 (0 : Int)), (i64 (0 : Int)), (.slice none 0 0), (.slice none 0 0), (i64 (0 : Int)), (i64 (0 : Int)), (i64 (0 : Int)), (i64 (0 : Int))] ++ (eI .i64 22 (fun _ => 0))) from (tk_tail (E := (eI .i64 22 (fun _ => 0))) [] [(i64 (0 : Int)), (i64 (0 : Int)), (i64 (0 : Int)), (i64 (0 : Int)), (.slice none 0 0), (.slice none 0 0), (i64 (0 : Int)), (i64 (0 : Int)), (i64 (0 : Int)), (i64 (0 : Int))] rfl eI_len rfl)) (Res.t gA Res.nil)) ⟨_, _, rfl, ⟨[(i64 (0 : Int))], ([(i64 (0 : Int)), (i64 (0 : Int)), (i64 (0 : Int)), (.slice none 0 0), (.slice none 0 0), (i64 (0 : Int)), (i64 (0 : Int)), (i64 (0 : Int)), (i64 (0 : Int))] ++ (eI .i64 22 (fun _ => 0))), rfl, rfl, ⟨[(i64 (0 : Int))], ([(i64 (0 : Int)), (i64 (0 : Int)), (.slice none 0 0), (.slice none 0 0), (i64 (0 : Int)), (i64 (0 : Int)), (i64 (0 : Int)), (i64 (0 : Int))] ++ (eI .i64 22 (fun _ => 0))), rfl, rfl, ⟨[(i64 (0 : Int))], ([(i64 (0 : Int)), (.slice none 0 0), (.slice none 0 0), (i64 (0 : Int)), (i64 (0 : Int)), (i64 (0 : Int)), (i64 (0 : Int))] ++ (eI .i64 22 (fun _ => 0))), rfl, rfl, ⟨[(i64 (0 : Int))], ([(.slice none 0 0), (.slice none 0 0), (i64 (0 : Int)), (i64 (0 : Int)), (i64 (0 : Int)), (i64 (0 : Int))] ++ (eI .i64 22 (fun _ => 0))), rfl, rfl, ⟨[(.slice none 0 0)], ([(.slice none 0 0), (i64 (0 : Int)), (i64 (0 : Int)), (i64 (0 : Int)), (i64 (0 : Int))] ++ (eI .i64 22 (fun _ => 0))), rfl, ⟨none, 0, rfl, RowF.nil⟩, ⟨[(.slice none 0 0)], ([(i64 (0 : Int)), (i64 (0 : Int)), (i64 (0 : Int)), (i64 (0 : Int))] ++ (eI .i64 22 (fun _ => 0))), rfl, ⟨none, 0, rfl, RowF.nil⟩, ⟨[(i64 (0 : Int))], ([(i64 (0 : Int)), (i64 (0 : Int)), (i64 (0 : Int))] ++ (eI .i64 22 (fun _ => 0))), rfl, rfl, ⟨[(i64 (0 : Int))], ([(i64 (0 : Int)), (i64 (0 : Int))] ++ (eI .i64 22 (fun _ => 0))), rfl, rfl, ⟨[(i64 (0 : Int))], ([(i64 (0 : Int))] ++ (eI .i64 22 (fun _ => 0))), rfl, rfl, ⟨[(i64 (0 : Int))], (eI .i64 22 (fun _ => 0)), rfl, rfl, ⟨rfl, rfl⟩⟩⟩⟩⟩⟩⟩⟩⟩⟩⟩⟩
      · have hF := bif_f hb153 hF; refine w_skip (th_n ?_); refine w_seq ?_; refine w_drawV (Nat.le_trans hfl st.ext.le) (fun dw => ?_); refine y_pure st.d dw (fun hm vw => v_ldn (vs := [(i64 a0_0), (i64 a0_1), (i64 a0_2), (i64 a0_3), (.slice pa0_4 (a0_4).length ca0_4), (.slice pa0_5 (a0_5).length ca0_5), (i64 a0_6), (i64 a0_7), (i64 a0_8), (i64 a0_9)]) (vw.bx (st.at (i := 0) rfl)) rfl pr_nil) ?_; refine y_pure st.d dw (fun hm vw => v_move pr_nil) ?_; refine y_pure st.d dw (fun hm vw => v_ldn (vs := [(i64 v35.1), (i64 v35.2.1)]) (vw.bx (st.at (i := 2) rfl)) rfl pr_nil) ?_; refine y_pure st.d dw (fun hm vw => v_fa pr_nil) ?_; refine y_pure st.d dw (fun hm vw => v_fa pr_nil) ?_; refine y_pure st.d dw (fun hm vw => v_ld1 (vw.bx (st.at (i := 0) rfl)) rfl pr_nil) ?_
        obtain ⟨v155, e156, hF⟩ := bnd_some hF; refine y_flat st.d dw (fun hm vw => u_call (ct104 N e156 vw.d (vw.sub st) (RowF.mono le98 ry34)) (fun n' hn' => pf_nil hn')) (fun n157 hn' dw => ?_); refine y_end st.d dw rfl (fun h158 ex vs => ?_)
        have st := st.ext1 ex
        refine v_build (cs := ([(i64 a0_0), (i64 a0_1), (i64 a0_2), (i64 a0_3), (.slice pa0_4 (a0_4).length ca0_4), (.slice pa0_5 (a0_5).length ca0_5), (i64 a0_6), (i64 a0_7), (i64 a0_8), (i64 a0_9)] ++ (eI .i64 22 v155))) rfl ?_
        refine v_st (v := (.agg ([(i64 a0_0), (i64 a0_1), (i64 a0_2), (i64 a0_3), (.slice pa0_4 (a0_4).length ca0_4), (.slice pa0_5 (a0_5).length ca0_5), (i64 a0_6), (i64 a0_7), (i64 a0_8), (i64 a0_9)] ++ (eI .i64 22 v155)))) (cs' := ([(i64 a0_0), (i64 a0_1), (i64 a0_2), (i64 a0_3), (.slice pa0_4 (a0_4).length ca0_4), (.slice pa0_5 (a0_5).length ca0_5), (i64 a0_6), (i64 a0_7), (i64 a0_8), (i64 a0_9)] ++ (eI .i64 22 v155))) st 1 rfl (ov_tail (q := ([(i64 (0 : Int)), (i64 (0 : Int)), (i64 (0 : Int)), (i64 (0 : Int)), (.slice none 0 0), (.slice none 0 0), (i64 (0 : Int)), (i64 (0 : Int)), (i64 (0 : Int)), (i64 (0 : Int))] ++ (eI .i64 22 (fun _ => 0)))) (r := ([(i64 a0_0), (i64 a0_1), (i64 a0_2), (i64 a0_3), (.slice pa0_4 (a0_4).length ca0_4), (.slice pa0_5 (a0_5).length ca0_5), (i64 a0_6), (i64 a0_7), (i64 a0_8), (i64 a0_9)] ++ (eI .i64 22 v155))) [] rfl (by simp [eI_len, eB_len])) (len_tail (E := (eI .i64 22 v155)) [(i64 a0_0), (i64 a0_1), (i64 a0_2), (i64 a0_3), (.slice pa0_4 (a0_4).length ca0_4), (.slice pa0_5 (a0_5).length ca0_5), (i64 a0_6), (i64 a0_7), (i64 a0_8), (i64 a0_9)] eI_len rfl) (one_tail (E := (eI .i64 22 v155)) [(i64 a0_0), (i64 a0_1), (i64 a0_2), (i64 a0_3), (.slice pa0_4 (a0_4).length ca0_4), (.slice pa0_5 (a0_5).length ca0_5), (i64 a0_6), (i64 a0_7), (i64 a0_8), (i64 a0_9)] rfl eI_one) hfl (fun h159 st => ?_)
        refine v_move ?_; refine r_nil (th_n ?_); refine w_ret ?_; obtain rfl := inj hF
        exact end_r st (Res.c gA (st.at (i := 1) rfl).2.2 (show takeN _ _ = some ([(i64 a0_0), (i64 a0_1), (i64 a0_2), (i64 a0_3), (.slice pa0_4 (a0_4).length ca0_4), (.slice pa0_5 (a0_5).length ca0_5), (i64 a0_6), (i64 a0_7), (i64 a0_8), (i64 a0_9)] ++ (eI .i64 22 v155)) from (tk_tail (E := (eI .i64 22 v155)) [] [(i64 a0_0), (i64 a0_1), (i64 a0_2), (i64 a0_3), (.slice pa0_4 (a0_4).length ca0_4), (.slice pa0_5 (a0_5).length ca0_5), (i64 a0_6), (i64 a0_7), (i64 a0_8), (i64 a0_9)] rfl eI_len rfl)) (Res.t gA Res.nil)) ⟨_, _, rfl, ⟨[(i64 a0_0)], ([(i64 a0_1), (i64 a0_2), (i64 a0_3), (.slice pa0_4 (a0_4).length ca0_4), (.slice pa0_5 (a0_5).length ca0_5), (i64 a0_6), (i64 a0_7), (i64 a0_8), (i64 a0_9)] ++ (eI .i64 22 v155)), rfl, rfl, ⟨[(i64 a0_1)], ([(i64 a0_2), (i64 a0_3), (.slice pa0_4 (a0_4).length ca0_4), (.slice pa0_5 (a0_5).length ca0_5), (i64 a0_6), (i64 a0_7), (i64 a0_8), (i64 a0_9)] ++ (eI .i64 22 v155)), rfl, rfl, ⟨[(i64 a0_2)], ([(i64 a0_3), (.slice pa0_4 (a0_4).length ca0_4), (.slice pa0_5 (a0_5).length ca0_5), (i64 a0_6), (i64 a0_7), (i64 a0_8), (i64 a0_9)] ++ (eI .i64 22 v155)), rfl, rfl, ⟨[(i64 a0_3)], ([(.slice pa0_4 (a0_4).length ca0_4), (.slice pa0_5 (a0_5).length ca0_5), (i64 a0_6), (i64 a0_7), (i64 a0_8), (i64 a0_9)] ++ (eI .i64 22 v155)), rfl, rfl, ⟨[(.slice pa0_4 (a0_4).length ca0_4)], ([(.slice pa0_5 (a0_5).length ca0_5), (i64 a0_6), (i64 a0_7), (i64 a0_8), (i64 a0_9)] ++ (eI .i64 22 v155)), rfl, ⟨_, _, rfl, (RowF.mono le151 ra0_4)⟩, ⟨[(.slice pa0_5 (a0_5).length ca0_5)], ([(i64 a0_6), (i64 a0_7), (i64 a0_8), (i64 a0_9)] ++ (eI .i64 22 v155)), rfl, ⟨_, _, rfl, (RowF.mono le151 ra0_5)⟩, ⟨[(i64 a0_6)], ([(i64 a0_7), (i64 a0_8), (i64 a0_9)] ++ (eI .i64 22 v155)), rfl, rfl, ⟨[(i64 a0_7)], ([(i64 a0_8), (i64 a0_9)] ++ (eI .i64 22 v155)), rfl, rfl, ⟨[(i64 a0_8)], ([(i64 a0_9)] ++ (eI .i64 22 v155)), rfl, rfl, ⟨[(i64 a0_9)], (eI .i64 22 v155), rfl, rfl, ⟨rfl, rfl⟩⟩⟩⟩⟩⟩⟩⟩⟩⟩⟩⟩
end Go.Hx.V

namespace Go.Hx.V
open Go.Hx
set_option maxRecDepth 20000
set_option maxHeartbeats 4000000
variable {fl : Nat} {h0 : Tr HBlk} {n0 : Nat} {F0 : PH}
attribute [local irreducible] W R C thenH inBlockH Tr.get Tr.set lo ck bnd ix iter
theorem ct24 (N : Nat) {a0_0 a0_1 a0_2 a0_3 : Int} {a0_4 : (List (Int × Int × Int × Int))} {a0_5 : (List (Int × Int))} {a0_6 a0_7 a0_8 a0_9 : Int} {r : ((List (Int × Int)) × Int)} (hF : sf24 N a0_0 a0_1 a0_2 a0_3 a0_4 a0_5 a0_6 a0_7 a0_8 a0_9 = some r) (hd : D h0 n0) (hs : F0.sub h0) (hfl : fl ≤ n0) {pa0_4 : Option (Nat × Nat)} {ca0_4 : Nat} {pa0_5 : Option (Nat × Nat)} {ca0_5 : Nat} (ra0_4 : RowF (rP rI (rP rI (rP rI rI))) 4 F0 pa0_4 ca0_4 a0_4) (ra0_5 : RowF (rP rI rI) 2 F0 pa0_5 ca0_5 a0_5) : C LW fl 24 [(.agg [(i64 a0_0), (i64 a0_1), (i64 a0_2), (i64 a0_3), (.slice pa0_4 (a0_4).length ca0_4), (.slice pa0_5 (a0_5).length ca0_5), (i64 a0_6), (i64 a0_7), (i64 a0_8), (i64 a0_9)])] ⟨h0, n0⟩ (KR (rvT2 (lvL (rP rI rI) 2) lvI) F0 h0 n0 r) := by
  unfold sf24 at hF
  refine in_mT hd hs hfl lw24 rfl rfl (by rfl) (fun st T hT => ?_)
  have t0 := hT 0 _ rfl
  dsimp only [L24]
  refine w_seq (w_reg ?_); refine v_box st (fun b1 h2 n3 st => ?_); refine v_move ?_; refine v_move ?_; refine r_nil (th_n ?_); refine w_seq ?_; refine w_seq (w_reg ?_); refine v_ldn (vs := [(i64 a0_0), (i64 a0_1), (i64 a0_2), (i64 a0_3), (.slice pa0_4 (a0_4).length ca0_4), (.slice pa0_5 (a0_5).length ca0_5), (i64 a0_6), (i64 a0_7), (i64 a0_8), (i64 a0_9)]) (st.at (i := 0) rfl).2.2 rfl ?_; obtain ⟨v4, e5, hF⟩ := bnd_some hF; refine v_call st (ct40 N e5 st.d st.sub ra0_4 ra0_5) (fun n6 st => ?_); refine v_move ?_; refine r_nil (th_n ?_); refine w_seq (w_reg ?_); refine v_move ?_; refine v_nei ?_; refine r_nil (th_n ?_); refine v_cond (fun hb7 => ?_) (fun hb7 => ?_)
  · have hF := bif_t hb7 hF; refine w_seq (w_reg ?_); refine v_move ?_; refine v_move ?_; refine v_move ?_; refine r_nil (th_n ?_); refine w_ret ?_; refine th_r ?_; obtain rfl := inj hF
    exact end_r st (Res.t gA (Res.t gA Res.nil)) ⟨_, _, rfl, ⟨none, 0, rfl, RowF.nil⟩, rfl⟩
  · have hF := bif_f hb7 hF; refine w_skip (th_n ?_); refine w_seq ?_; refine w_drawV (Nat.le_trans hfl st.ext.le) (fun dw => ?_); refine y_pure st.d dw (fun hm vw => v_fa pr_nil) ?_; refine y_pure st.d dw (fun hm vw => v_ldn (vs := [(i64 a0_0), (i64 a0_1), (i64 a0_2), (i64 a0_3)]) (vw.bx (st.at (i := 0) rfl)) rfl pr_nil) ?_; obtain ⟨v8, e9, hF⟩ := bnd_some hF; refine y_flat st.d dw (fun hm vw => u_call (ct59 N e9 vw.d (vw.sub st) ) (fun n' hn' => pf_nil hn')) (fun n10 hn' dw => ?_); refine y_pure st.d dw (fun hm vw => v_fa pr_nil) ?_; refine y_pure st.d dw (fun hm vw => v_ld1 (vw.bx (st.at (i := 0) rfl)) rfl pr_nil) ?_; refine y_end st.d dw rfl (fun h11 ex vs => ?_)
    have st := st.ext1 ex
    obtain ⟨v12, e13, hF⟩ := bnd_some hF; refine v_callR st (ct60 N e13 st.d st.sub (Nat.le_trans hfl st.ext.le) ra0_4) (fun u14 F14 h14 n14 le14 rv14 st => ?_); obtain ⟨py15, cy15, rfl, ry15⟩ := rv14; obtain ⟨v16, e17, hF⟩ := bnd_some hF; refine v_callR st (ct70 N e17 st.d st.sub (Nat.le_trans hfl st.ext.le) ry15) (fun u18 F18 h18 n18 le18 rv18 st => ?_)
    have le19 := PH.le.trans le14 le18
    obtain ⟨_, _, rfl, ⟨py20, cy20, rfl, ry20⟩, rfl⟩ := rv18; refine v_move ?_; refine v_xt rfl ?_; refine v_xt rfl ?_; refine v_move ?_; refine v_move ?_; refine r_nil (th_n ?_); obtain ⟨y32, hA33, hF⟩ := bnd_some hF; refine w_cutD (fun T ds38 h nx => ∃ u, y32 = (.inr u) ∧ ∃ (F38 : PH), ds38 = [] ∧ PH.le F18 F38 ∧ St n0 h0 F0 F38 h nx [.bx b1 [(i64 a0_0), (i64 a0_1), (i64 a0_2), (i64 a0_3), (.slice pa0_4 (a0_4).length ca0_4), (.slice pa0_5 (a0_5).length ca0_5), (i64 a0_6), (i64 a0_7), (i64 a0_8), (i64 a0_9)]] ∧ T.get 5 = some (.slice py20 (v16.1).length cy20) ∧ T.get 6 = some (i64 v16.2)) ?_ (fun T ds38 h nx hp => ?_)
    · have hK34 := hF
      have hF := hA33; obtain ⟨y41, hA42, hF⟩ := bnd_some hF; refine w_cutD (fun T ds44 h nx => ∃ (F44 : PH), ds44 = [] ∧ PH.le F18 F44 ∧ St n0 h0 F0 F44 h nx [.bx b1 [(i64 a0_0), (i64 a0_1), (i64 a0_2), (i64 a0_3), (.slice pa0_4 (a0_4).length ca0_4), (.slice pa0_5 (a0_5).length ca0_5), (i64 a0_6), (i64 a0_7), (i64 a0_8), (i64 a0_9)]] ∧ T.get 5 = some (.slice py20 (v16.1).length cy20) ∧ T.get 6 = some (i64 v16.2) ∧ T.get 34 = some (.bool y41)) ?_ (fun T ds44 h nx hp => ?_)
      · have hK43 := hF
        have hF := hA42; refine w_reg ?_; refine v_move ?_; refine v_eqi ?_; refine v_move ?_
        rcases Bool.eq_false_or_eq_true (decide (v16.2 = (0 : Int))) with hb45 | hb45
        · have hF := bif_t hb45 hF; refine g_take hb45 (v_move ?_); refine g_take hb45 (v_len ?_); refine g_take hb45 (v_fa ?_); refine g_take hb45 (v_fa ?_); refine g_take hb45 (v_ld1 (st.at (i := 0) rfl).2.2 rfl ?_); obtain ⟨q46, hF⟩ := ck_some hF; refine g_take hb45 (v_add q46 ?_); refine g_take hb45 (v_nei ?_); refine v_pick hb45 ?_; refine r_nil ?_; obtain rfl := inj hF; refine thn ⟨rfl, ?_⟩; dsimp only
          exact ⟨F18, rfl, (PH.le.refl _), st, gA, gA, gA⟩
        · have hF := bif_f hb45 hF; refine g_skip hb45 ?_; refine g_skip hb45 ?_; refine g_skip hb45 ?_; refine g_skip hb45 ?_; refine g_skip hb45 ?_; refine g_skip hb45 ?_; refine g_skip hb45 ?_; refine v_pick' hb45 ?_; refine r_nil ?_; obtain rfl := inj hF; refine thn ⟨rfl, ?_⟩; dsimp only
          exact ⟨F18, rfl, (PH.le.refl _), st, gA, gA, gA⟩
      · obtain ⟨F44, rfl, le44, st, t5, t6, t34⟩ := hp
        have le47 := PH.le.trans le19 le44
        have le48 := PH.le.trans le18 le44
        refine v_cond (fun hb49 => ?_) (fun hb49 => ?_)
        · have hF := bif_t hb49 hF; refine w_seq (w_reg ?_); refine v_move ?_; refine v_move ?_; refine r_nil (th_n ?_); refine w_ret ?_; obtain rfl := inj hF; have hF := hK34; have hF := sel_l hF; refine th_r ?_; obtain rfl := inj hF
          exact end_r st (Res.t gA (Res.t gA Res.nil)) ⟨_, _, rfl, ⟨none, 0, rfl, RowF.nil⟩, rfl⟩
        · have hF := bif_f hb49 hF; refine w_skip ?_; obtain rfl := inj hF; refine thn ⟨rfl, _, rfl, ?_⟩; dsimp only
          exact ⟨F44, rfl, le44, st, gA, gA⟩
    · obtain ⟨w37, rfl, F38, rfl, le38, st, t5, t6⟩ := hp; have hF := sel_r hF
      have le52 := PH.le.trans le19 le38
      have le53 := PH.le.trans le18 le38
      refine w_seq (w_reg ?_); refine v_move ?_; refine r_nil (th_n ?_); refine w_seq ?_; refine w_seq (w_reg ?_); refine v_move ?_; refine r_nil (th_n ?_); refine w_block ?_
      have st := st.nilL 2
      have w54 : LR (rP rI rI) 2 F38 ([] : List (Int × Int)) [] := LR.nil
      obtain ⟨y71, hy, hF⟩ := bnd_some hF; refine v_loopD (sf24_L1 v16) (fun x56 T ds57 h nx => ∃ (F57 : PH) (o58 : Option Nat) (c58 : Nat) (cs58 : List HV), ds57 = [] ∧ PH.le F38 F57 ∧ St n0 h0 F0 F57 h nx [.bx b1 [(i64 a0_0), (i64 a0_1), (i64 a0_2), (i64 a0_3), (.slice pa0_4 (a0_4).length ca0_4), (.slice pa0_5 (a0_5).length ca0_5), (i64 a0_6), (i64 a0_7), (i64 a0_8), (i64 a0_9)], .ls o58 c58 cs58 2] ∧ LR (rP rI rI) 2 F57 x56.1 cs58 ∧ T.get 5 = some (.slice py20 (v16.1).length cy20) ∧ T.get 6 = some (i64 v16.2) ∧ T.get 7 = some (slv o58 (x56.1).length c58) ∧ T.get 8 = some (i64 x56.2)) (fun y e a σ => e = .exit 0 ∧ a.nt = 57 ∧ ∃ (F72 : PH) (o73 : Option Nat) (c73 : Nat) (cs73 : List HV), a.defers = [] ∧ PH.le F38 F72 ∧ St n0 h0 F0 F72 σ.h σ.nx [.bx b1 [(i64 a0_0), (i64 a0_1), (i64 a0_2), (i64 a0_3), (.slice pa0_4 (a0_4).length ca0_4), (.slice pa0_5 (a0_5).length ca0_5), (i64 a0_6), (i64 a0_7), (i64 a0_8), (i64 a0_9)], .ls o73 c73 cs73 2] ∧ LR (rP rI rI) 2 F72 y cs73 ∧ a.tmps.get 6 = some (i64 v16.2) ∧ a.tmps.get 7 = some (slv o73 (y).length c73)) (fun x56 T ds57 h nx s hp hF => ?_) N _ y71 _ _ _ _ hy ⟨F38, none, 0, [], rfl, (PH.le.refl _), st, w54, gA, gA, gA, gA⟩ (fun e a σ hne hq => ?_)
      · obtain ⟨F57, o58, c58, cs58, rfl, le57, st, w58, t5, t6, t7, t8⟩ := hp
        have le59 := PH.le.trans le52 le57
        have le60 := PH.le.trans le53 le57
        have le61 := PH.le.trans le38 le57
        unfold sf24_L1 at hF; unfold L24w0; refine w_seq ?_; refine w_seq (w_reg ?_); refine v_move ?_; refine v_move ?_; refine v_len ?_; refine v_lss ?_; refine r_nil (th_n ?_); refine v_cond (fun hb74 => ?_) (fun hb74 => ?_)
        · have hF := bif_t hb74 hF; refine w_skip (th_n ?_); refine w_seq ?_; refine w_block ?_; refine w_drawV (Nat.le_trans hfl st.ext.le) (fun dw => ?_); refine y_pure st.d dw (fun hm vw => v_move pr_nil) ?_; refine y_pure st.d dw (fun hm vw => v_move pr_nil) ?_; refine y_pure st.d dw (fun hm vw => v_move pr_nil) ?_; obtain ⟨n75, x75, z75, l75, g75, hF⟩ := ix_some hF; obtain ⟨b75, o75, s75, j75, r75, e75, f75, k75, ⟨_, _, rfl, rfl, rfl⟩⟩ := RowF.get ry20 g75; refine y_pure st.d dw (fun hm vw => v_ixp e75 z75 l75 pr_nil) ?_; refine y_pure st.d dw (fun hm vw => v_fa pr_nil) ?_; refine y_pure st.d dw (fun hm vw => v_ld1 (vw.fz st (le61 _ _ f75)) (take_at (j := 0) k75 rfl) pr_nil) ?_
          refine y_pure st.d dw (fun hm vw => v_move pr_nil) ?_; refine y_pure st.d dw (fun hm vw => v_move pr_nil) ?_; obtain ⟨n76, x76, z76, l76, g76, hF⟩ := ix_some hF; obtain ⟨b76, o76, s76, j76, r76, e76, f76, k76, ⟨_, _, rfl, rfl, rfl⟩⟩ := RowF.get ry20 g76; refine y_pure st.d dw (fun hm vw => v_ixp e76 z76 l76 pr_nil) ?_; refine y_pure st.d dw (fun hm vw => v_fa pr_nil) ?_; refine y_pure st.d dw (fun hm vw => v_ld1 (vw.fz st (le61 _ _ f76)) (take_at (j := 1) k76 rfl) pr_nil) ?_; refine y_end st.d dw rfl (fun h77 ex vs => ?_)
          have st := st.ext1 ex
          refine v_build (cs := [(i64 x75.1), (i64 x76.2)]) rfl ?_; refine v_bs (cs := [(i64 x75.1), (i64 x76.2)]) st rfl (fun b78 h79 n80 st => ?_); obtain ⟨q81, hF⟩ := ck_some hF
          have w81 : LR (rP rI rI) 2 F57 (x56.1 ++ [(x75.1, x76.2)]) (cs58 ++ [(i64 x75.1), (i64 x76.2)]) := LR.app w58 (LR.one (⟨[(i64 x75.1)], [(i64 x76.2)], rfl, rfl, rfl⟩))
          refine v_aps (n := 1) (ox := 0) (m := (x56.1 ++ [(x75.1, x76.2)]).length) (row := [(i64 x75.1), (i64 x76.2)]) st 1 rfl w58.1 (st.at (i := 2) rfl).2.2 rfl rfl q81 hfl (by decide) (by decide) (by simp) (fun o81 c81 h81 n81 st => ?_)
          refine v_move ?_; refine r_nil ?_; refine ib_n ?_; refine th_n ?_; refine w_reg ?_; refine v_move ?_; obtain ⟨q82, hF⟩ := ck_some hF; refine v_add q82 ?_; refine v_move ?_; refine r_nil ?_; refine thn ⟨_, (inj hF).symm, rfl, ?_⟩; dsimp only
          exact ⟨F57, o81, c81, (cs58 ++ [(i64 x75.1), (i64 x76.2)]), rfl, le57, (st.drop (by first | exact List.Sublist.refl _ | (repeat first | exact List.nil_sublist _ | refine List.Sublist.cons_cons _ ?_ | refine List.Sublist.cons _ ?_))), w81, gA, gA, gA, gA⟩
        · have hF := bif_f hb74 hF; refine w_exit ?_; refine th_e ?_; refine th_e ?_; refine ⟨_, (inj hF).symm, rfl, rfl, ?_⟩; dsimp only
          exact ⟨F57, o58, c58, cs58, rfl, le57, st, w58, gA, gA⟩
      · obtain ⟨N9, T, ds72⟩ := a; obtain ⟨h86, n87⟩ := σ; obtain ⟨rfl, e1, F72, o73, c73, cs73, e2, le72, st, w73, t6, t7⟩ := hq
        dsimp only at e1 e2
        subst e1
        subst e2
        dsimp only at st t6 t7
        have le83 := PH.le.trans le52 le72
        have le84 := PH.le.trans le53 le72
        have le85 := PH.le.trans le38 le72
        refine ib_e ?_; refine th_n ?_; refine w_seq (w_reg ?_); refine v_move ?_; refine v_move ?_; refine v_move ?_; refine v_move ?_; refine r_nil (th_n ?_); refine w_ret ?_; obtain rfl := inj hF
        obtain ⟨F88, le88, st, rf88⟩ := St.freeze st 1 rfl w73 (by decide)
        have le89 := PH.le.trans le83 le88
        have le90 := PH.le.trans le84 le88
        have le91 := PH.le.trans le85 le88
        have le92 := PH.le.trans le72 le88
        exact end_r st (Res.t gA (Res.t gA Res.nil)) ⟨_, _, rfl, ⟨_, _, rfl, rf88⟩, rfl⟩
end Go.Hx.V

