import Derived.Test.YtjjnncelpnijiaaGreatH05
import Derived.Test.YtjjnncelpnijiaaGreatH06
import Derived.Test.YtjjnncelpnijiaaGreatH07
import Derived.Test.YtjjnncelpnijiaaGreatH03
set_option linter.all false
namespace Go.Hx.V
open Go.Hx
set_option maxRecDepth 20000
set_option maxHeartbeats 4000000
variable {fl : Nat} {h0 : Tr HBlk} {n0 : Nat} {F0 : PH}
attribute [local irreducible] W R C thenH inBlockH Tr.get Tr.set lo ck bnd ix iter
theorem ct20 (N : Nat) {a0_0 a0_1 a0_2 a0_3 : Int} {a0_4 : (List (Int × Int × Int × Int))} {a0_5 : (List (Int × Int))} {a0_6 a0_7 a0_8 a0_9 r : Int} (hF : sf20 N a0_0 a0_1 a0_2 a0_3 a0_4 a0_5 a0_6 a0_7 a0_8 a0_9 = some r) (hd : D h0 n0) (hs : F0.sub h0) {pa0_4 : Option (Nat × Nat)} {ca0_4 : Nat} {pa0_5 : Option (Nat × Nat)} {ca0_5 : Nat} (ra0_4 : RowF (rP rI (rP rI (rP rI rI))) 4 F0 pa0_4 ca0_4 a0_4) (ra0_5 : RowF (rP rI rI) 2 F0 pa0_5 ca0_5 a0_5) : C LW fl 20 [(.agg [(i64 a0_0), (i64 a0_1), (i64 a0_2), (i64 a0_3), (.slice pa0_4 (a0_4).length ca0_4), (.slice pa0_5 (a0_5).length ca0_5), (i64 a0_6), (i64 a0_7), (i64 a0_8), (i64 a0_9)])] ⟨h0, n0⟩ (KS (i64 r) n0 h0) := by
  unfold sf20 at hF
  refine in_cT hd hs lw20 rfl rfl (by rfl) (fun st T hT => ?_)
  have hfl : n0 ≤ n0 := Nat.le_refl n0
  have t0 := hT 0 _ rfl
  dsimp only [L20]
  refine w_seq (w_reg ?_); refine v_box st (fun b1 h2 n3 st => ?_); refine v_move ?_; refine r_nil (th_n ?_); refine w_seq (w_reg ?_); refine v_ldn (vs := [(i64 a0_0), (i64 a0_1), (i64 a0_2), (i64 a0_3), (.slice pa0_4 (a0_4).length ca0_4), (.slice pa0_5 (a0_5).length ca0_5), (i64 a0_6), (i64 a0_7), (i64 a0_8), (i64 a0_9)]) (st.at (i := 0) rfl).2.2 rfl ?_; obtain ⟨v4, e5, hF⟩ := bnd_some hF; refine v_callR st (ct65 N e5 st.d st.sub (Nat.le_trans hfl st.ext.le) ra0_4 ra0_5) (fun u6 F6 h6 n6 le6 rv6 st => ?_); obtain ⟨_, _, rfl, ⟨_, _, rfl, rfl, ⟨_, _, rfl, rfl, ⟨_, _, rfl, rfl, ⟨_, _, rfl, rfl, ⟨_, _, rfl, ⟨py7, cy7, rfl, ry7⟩, ⟨_, _, rfl, ⟨py8, cy8, rfl, ry8⟩, ⟨_, _, rfl, rfl, ⟨_, _, rfl, rfl, ⟨_, _, rfl, rfl, ⟨_, _, rfl, rfl, ⟨rfl, rfl⟩⟩⟩⟩⟩⟩⟩⟩⟩⟩⟩⟩ := rv6
  refine v_move ?_; refine v_xt rfl ?_; refine v_xt rfl ?_; refine v_alloc st (fun b9 h10 n11 st => ?_)
  have st := st.cells 1 rfl ([(i64 (0 : Int)), (i64 (0 : Int)), (i64 (0 : Int)), (i64 (0 : Int)), (.slice none 0 0), (.slice none 0 0), (i64 (0 : Int)), (i64 (0 : Int)), (i64 (0 : Int)), (i64 (0 : Int))] ++ (eI .i64 22 (fun _ => 0))) rfl
  refine v_st (v := (.agg ([(i64 v4.1), (i64 v4.2.1), (i64 v4.2.2.1), (i64 v4.2.2.2.1), (.slice py7 (v4.2.2.2.2.1).length cy7), (.slice py8 (v4.2.2.2.2.2.1).length cy8), (i64 v4.2.2.2.2.2.2.1), (i64 v4.2.2.2.2.2.2.2.1), (i64 v4.2.2.2.2.2.2.2.2.1), (i64 v4.2.2.2.2.2.2.2.2.2.1)] ++ (eI .i64 22 v4.2.2.2.2.2.2.2.2.2.2.1)))) (cs' := ([(i64 v4.1), (i64 v4.2.1), (i64 v4.2.2.1), (i64 v4.2.2.2.1), (.slice py7 (v4.2.2.2.2.1).length cy7), (.slice py8 (v4.2.2.2.2.2.1).length cy8), (i64 v4.2.2.2.2.2.2.1), (i64 v4.2.2.2.2.2.2.2.1), (i64 v4.2.2.2.2.2.2.2.2.1), (i64 v4.2.2.2.2.2.2.2.2.2.1)] ++ (eI .i64 22 v4.2.2.2.2.2.2.2.2.2.2.1))) st 1 rfl (ov_tail (q := ([(i64 (0 : Int)), (i64 (0 : Int)), (i64 (0 : Int)), (i64 (0 : Int)), (.slice none 0 0), (.slice none 0 0), (i64 (0 : Int)), (i64 (0 : Int)), (i64 (0 : Int)), (i64 (0 : Int))] ++ (eI .i64 22 (fun _ => 0)))) (r := ([(i64 v4.1), (i64 v4.2.1), (i64 v4.2.2.1), (i64 v4.2.2.2.1), (.slice py7 (v4.2.2.2.2.1).length cy7), (.slice py8 (v4.2.2.2.2.2.1).length cy8), (i64 v4.2.2.2.2.2.2.1), (i64 v4.2.2.2.2.2.2.2.1), (i64 v4.2.2.2.2.2.2.2.2.1), (i64 v4.2.2.2.2.2.2.2.2.2.1)] ++ (eI .i64 22 v4.2.2.2.2.2.2.2.2.2.2.1))) [] rfl (by simp [eI_len, eB_len])) (len_tail (E := (eI .i64 22 v4.2.2.2.2.2.2.2.2.2.2.1)) [(i64 v4.1), (i64 v4.2.1), (i64 v4.2.2.1), (i64 v4.2.2.2.1), (.slice py7 (v4.2.2.2.2.1).length cy7), (.slice py8 (v4.2.2.2.2.2.1).length cy8), (i64 v4.2.2.2.2.2.2.1), (i64 v4.2.2.2.2.2.2.2.1), (i64 v4.2.2.2.2.2.2.2.2.1), (i64 v4.2.2.2.2.2.2.2.2.2.1)] eI_len rfl) (one_tail (E := (eI .i64 22 v4.2.2.2.2.2.2.2.2.2.2.1)) [(i64 v4.1), (i64 v4.2.1), (i64 v4.2.2.1), (i64 v4.2.2.2.1), (.slice py7 (v4.2.2.2.2.1).length cy7), (.slice py8 (v4.2.2.2.2.2.1).length cy8), (i64 v4.2.2.2.2.2.2.1), (i64 v4.2.2.2.2.2.2.2.1), (i64 v4.2.2.2.2.2.2.2.2.1), (i64 v4.2.2.2.2.2.2.2.2.2.1)] rfl eI_one) hfl (fun h12 st => ?_)
  refine v_move ?_; refine r_nil (th_n ?_); refine w_seq (w_reg ?_); refine v_move ?_; refine v_move ?_; refine r_nil (th_n ?_); refine w_ret ?_; obtain rfl := inj hF
  exact end_s st (Res.t gA Res.nil) rfl rfl
theorem ct105 (N : Nat) {a0_0 a0_1 a0_2 a0_3 : Int} {a0_4 : (List (Int × Int × Int × Int))} {a0_5 : (List (Int × Int))} {a0_6 a0_7 a0_8 a0_9 a1 : Int} {r : (Int × Int × Int × Int × (List (Int × Int × Int × Int)) × (List (Int × Int)) × Int × Int × Int × Int × (Nat → Int) × Int)} (hF : sf105 N a0_0 a0_1 a0_2 a0_3 a0_4 a0_5 a0_6 a0_7 a0_8 a0_9 a1 = some r) (hd : D h0 n0) (hs : F0.sub h0) (hfl : fl ≤ n0) {pa0_4 : Option (Nat × Nat)} {ca0_4 : Nat} {pa0_5 : Option (Nat × Nat)} {ca0_5 : Nat} (ra0_4 : RowF (rP rI (rP rI (rP rI rI))) 4 F0 pa0_4 ca0_4 a0_4) (ra0_5 : RowF (rP rI rI) 2 F0 pa0_5 ca0_5 a0_5) : C LW fl 105 [(.agg [(i64 a0_0), (i64 a0_1), (i64 a0_2), (i64 a0_3), (.slice pa0_4 (a0_4).length ca0_4), (.slice pa0_5 (a0_5).length ca0_5), (i64 a0_6), (i64 a0_7), (i64 a0_8), (i64 a0_9)]), (i64 a1)] ⟨h0, n0⟩ (KR (rvT2A (rqC rI (rqC rI (rqC rI (rqC rI (rqC (rL (rP rI (rP rI (rP rI rI))) 4) (rqC (rL (rP rI rI) 2) (rqC rI (rqC rI (rqC rI (rqC rI (rqL (rF .i64 22) lvI)))))))))))) F0 h0 n0 r) := by
  unfold sf105 at hF
  refine in_mT hd hs hfl lw105 rfl rfl (by rfl) (fun st T hT => ?_)
  have t0 := hT 0 _ rfl
  have t1 := hT 1 _ rfl
  dsimp only [L105]
  refine w_seq (w_reg ?_); refine v_box st (fun b1 h2 n3 st => ?_); refine v_alloc st (fun b4 h5 n6 st => ?_)
  have st := st.cells 1 rfl ([(i64 (0 : Int)), (i64 (0 : Int)), (i64 (0 : Int)), (i64 (0 : Int)), (.slice none 0 0), (.slice none 0 0), (i64 (0 : Int)), (i64 (0 : Int)), (i64 (0 : Int)), (i64 (0 : Int))] ++ (eI .i64 22 (fun _ => 0))) rfl
  refine v_move ?_; refine r_nil (th_n ?_); refine w_seq (w_reg ?_); refine v_ldn (vs := [(i64 a0_0), (i64 a0_1), (i64 a0_2), (i64 a0_3), (.slice pa0_4 (a0_4).length ca0_4), (.slice pa0_5 (a0_5).length ca0_5), (i64 a0_6), (i64 a0_7), (i64 a0_8), (i64 a0_9)]) (st.at (i := 0) rfl).2.2 rfl ?_; obtain ⟨v7, e8, hF⟩ := bnd_some hF; refine v_callR st (ct65 N e8 st.d st.sub (Nat.le_trans hfl st.ext.le) ra0_4 ra0_5) (fun u9 F9 h9 n9 le9 rv9 st => ?_); obtain ⟨_, _, rfl, ⟨_, _, rfl, rfl, ⟨_, _, rfl, rfl, ⟨_, _, rfl, rfl, ⟨_, _, rfl, rfl, ⟨_, _, rfl, ⟨py10, cy10, rfl, ry10⟩, ⟨_, _, rfl, ⟨py11, cy11, rfl, ry11⟩, ⟨_, _, rfl, rfl, ⟨_, _, rfl, rfl, ⟨_, _, rfl, rfl, ⟨_, _, rfl, rfl, ⟨rfl, rfl⟩⟩⟩⟩⟩⟩⟩⟩⟩⟩⟩⟩ := rv9
  refine v_move ?_; refine v_xt rfl ?_; refine v_xt rfl ?_; refine v_alloc st (fun b12 h13 n14 st => ?_)
  have st := st.cells 2 rfl ([(i64 (0 : Int)), (i64 (0 : Int)), (i64 (0 : Int)), (i64 (0 : Int)), (.slice none 0 0), (.slice none 0 0), (i64 (0 : Int)), (i64 (0 : Int)), (i64 (0 : Int)), (i64 (0 : Int))] ++ (eI .i64 22 (fun _ => 0))) rfl
  refine v_st (v := (.agg ([(i64 v7.1), (i64 v7.2.1), (i64 v7.2.2.1), (i64 v7.2.2.2.1), (.slice py10 (v7.2.2.2.2.1).length cy10), (.slice py11 (v7.2.2.2.2.2.1).length cy11), (i64 v7.2.2.2.2.2.2.1), (i64 v7.2.2.2.2.2.2.2.1), (i64 v7.2.2.2.2.2.2.2.2.1), (i64 v7.2.2.2.2.2.2.2.2.2.1)] ++ (eI .i64 22 v7.2.2.2.2.2.2.2.2.2.2.1)))) (cs' := ([(i64 v7.1), (i64 v7.2.1), (i64 v7.2.2.1), (i64 v7.2.2.2.1), (.slice py10 (v7.2.2.2.2.1).length cy10), (.slice py11 (v7.2.2.2.2.2.1).length cy11), (i64 v7.2.2.2.2.2.2.1), (i64 v7.2.2.2.2.2.2.2.1), (i64 v7.2.2.2.2.2.2.2.2.1), (i64 v7.2.2.2.2.2.2.2.2.2.1)] ++ (eI .i64 22 v7.2.2.2.2.2.2.2.2.2.2.1))) st 2 rfl (ov_tail (q := ([(i64 (0 : Int)), (i64 (0 : Int)), (i64 (0 : Int)), (i64 (0 : Int)), (.slice none 0 0), (.slice none 0 0), (i64 (0 : Int)), (i64 (0 : Int)), (i64 (0 : Int)), (i64 (0 : Int))] ++ (eI .i64 22 (fun _ => 0)))) (r := ([(i64 v7.1), (i64 v7.2.1), (i64 v7.2.2.1), (i64 v7.2.2.2.1), (.slice py10 (v7.2.2.2.2.1).length cy10), (.slice py11 (v7.2.2.2.2.2.1).length cy11), (i64 v7.2.2.2.2.2.2.1), (i64 v7.2.2.2.2.2.2.2.1), (i64 v7.2.2.2.2.2.2.2.2.1), (i64 v7.2.2.2.2.2.2.2.2.2.1)] ++ (eI .i64 22 v7.2.2.2.2.2.2.2.2.2.2.1))) [] rfl (by simp [eI_len, eB_len])) (len_tail (E := (eI .i64 22 v7.2.2.2.2.2.2.2.2.2.2.1)) [(i64 v7.1), (i64 v7.2.1), (i64 v7.2.2.1), (i64 v7.2.2.2.1), (.slice py10 (v7.2.2.2.2.1).length cy10), (.slice py11 (v7.2.2.2.2.2.1).length cy11), (i64 v7.2.2.2.2.2.2.1), (i64 v7.2.2.2.2.2.2.2.1), (i64 v7.2.2.2.2.2.2.2.2.1), (i64 v7.2.2.2.2.2.2.2.2.2.1)] eI_len rfl) (one_tail (E := (eI .i64 22 v7.2.2.2.2.2.2.2.2.2.2.1)) [(i64 v7.1), (i64 v7.2.1), (i64 v7.2.2.1), (i64 v7.2.2.2.1), (.slice py10 (v7.2.2.2.2.1).length cy10), (.slice py11 (v7.2.2.2.2.2.1).length cy11), (i64 v7.2.2.2.2.2.2.1), (i64 v7.2.2.2.2.2.2.2.1), (i64 v7.2.2.2.2.2.2.2.2.1), (i64 v7.2.2.2.2.2.2.2.2.2.1)] rfl eI_one) hfl (fun h15 st => ?_)
  refine v_move ?_; refine r_nil (th_n ?_); refine w_seq ?_; refine w_seq (w_reg ?_); refine v_move ?_; refine v_nei ?_; refine r_nil (th_n ?_); refine v_cond (fun hb16 => ?_) (fun hb16 => ?_)
  · have hF := bif_t hb16 hF; refine w_seq (w_reg ?_); refine v_build (cs := ([(i64 (0 : Int)), (i64 (0 : Int)), (i64 (0 : Int)), (i64 (0 : Int)), (.slice none 0 0), (.slice none 0 0), (i64 (0 : Int)), (i64 (0 : Int)), (i64 (0 : Int)), (i64 (0 : Int))] ++ (eI .i64 22 (fun _ => 0)))) rfl ?_; refine v_move ?_
    refine v_st (v := (.agg ([(i64 (0 : Int)), (i64 (0 : Int)), (i64 (0 : Int)), (i64 (0 : Int)), (.slice none 0 0), (.slice none 0 0), (i64 (0 : Int)), (i64 (0 : Int)), (i64 (0 : Int)), (i64 (0 : Int))] ++ (eI .i64 22 (fun _ => 0))))) (cs' := ([(i64 (0 : Int)), (i64 (0 : Int)), (i64 (0 : Int)), (i64 (0 : Int)), (.slice none 0 0), (.slice none 0 0), (i64 (0 : Int)), (i64 (0 : Int)), (i64 (0 : Int)), (i64 (0 : Int))] ++ (eI .i64 22 (fun _ => 0)))) st 1 rfl (ov_tail (q := ([(i64 (0 : Int)), (i64 (0 : Int)), (i64 (0 : Int)), (i64 (0 : Int)), (.slice none 0 0), (.slice none 0 0), (i64 (0 : Int)), (i64 (0 : Int)), (i64 (0 : Int)), (i64 (0 : Int))] ++ (eI .i64 22 (fun _ => 0)))) (r := ([(i64 (0 : Int)), (i64 (0 : Int)), (i64 (0 : Int)), (i64 (0 : Int)), (.slice none 0 0), (.slice none 0 0), (i64 (0 : Int)), (i64 (0 : Int)), (i64 (0 : Int)), (i64 (0 : Int))] ++ (eI .i64 22 (fun _ => 0)))) [] rfl (by simp [eI_len, eB_len])) (len_tail (E := (eI .i64 22 (fun _ => 0))) [(i64 (0 : Int)), (i64 (0 : Int)), (i64 (0 : Int)), (i64 (0 : Int)), (.slice none 0 0), (.slice none 0 0), (i64 (0 : Int)), (i64 (0 : Int)), (i64 (0 : Int)), (i64 (0 : Int))] eI_len rfl) (one_tail (E := (eI .i64 22 (fun _ => 0))) [(i64 (0 : Int)), (i64 (0 : Int)), (i64 (0 : Int)), (i64 (0 : Int)), (.slice none 0 0), (.slice none 0 0), (i64 (0 : Int)), (i64 (0 : Int)), (i64 (0 : Int)), (i64 (0 : Int))] rfl eI_one) hfl (fun h17 st => ?_)
    refine v_move ?_; refine r_nil (th_n ?_); refine w_ret ?_; refine th_r ?_; obtain rfl := inj hF
    exact end_r st (Res.c gA (st.at (i := 1) rfl).2.2 (show takeN _ _ = some ([(i64 (0 : Int)), (i64 (0 : Int)), (i64 (0 : Int)), (i64 (0 : Int)), (.slice none 0 0), (.slice none 0 0), (i64 (0 : Int)), (i64 (0 : Int)), (i64 (0 : Int)), (i64 (0 : Int))] ++ (eI .i64 22 (fun _ => 0))) from (tk_tail (E := (eI .i64 22 (fun _ => 0))) [] [(i64 (0 : Int)), (i64 (0 : Int)), (i64 (0 : Int)), (i64 (0 : Int)), (.slice none 0 0), (.slice none 0 0), (i64 (0 : Int)), (i64 (0 : Int)), (i64 (0 : Int)), (i64 (0 : Int))] rfl eI_len rfl)) (Res.t gA Res.nil)) ⟨_, _, rfl, ⟨[(i64 (0 : Int))], ([(i64 (0 : Int)), (i64 (0 : Int)), (i64 (0 : Int)), (.slice none 0 0), (.slice none 0 0), (i64 (0 : Int)), (i64 (0 : Int)), (i64 (0 : Int)), (i64 (0 : Int))] ++ (eI .i64 22 (fun _ => 0))), rfl, rfl, ⟨[(i64 (0 : Int))], ([(i64 (0 : Int)), (i64 (0 : Int)), (.slice none 0 0), (.slice none 0 0), (i64 (0 : Int)), (i64 (0 : Int)), (i64 (0 : Int)), (i64 (0 : Int))] ++ (eI .i64 22 (fun _ => 0))), rfl, rfl, ⟨[(i64 (0 : Int))], ([(i64 (0 : Int)), (.slice none 0 0), (.slice none 0 0), (i64 (0 : Int)), (i64 (0 : Int)), (i64 (0 : Int)), (i64 (0 : Int))] ++ (eI .i64 22 (fun _ => 0))), rfl, rfl, ⟨[(i64 (0 : Int))], ([(.slice none 0 0), (.slice none 0 0), (i64 (0 : Int)), (i64 (0 : Int)), (i64 (0 : Int)), (i64 (0 : Int))] ++ (eI .i64 22 (fun _ => 0))), rfl, rfl, ⟨[(.slice none 0 0)], ([(.slice none 0 0), (i64 (0 : Int)), (i64 (0 : Int)), (i64 (0 : Int)), (i64 (0 : Int))] ++ (eI .i64 22 (fun _ => 0))), rfl, ⟨none, 0, rfl, RowF.nil⟩, ⟨[(.slice none 0 0)], ([(i64 (0 : Int)), (i64 (0 : Int)), (i64 (0 : Int)), (i64 (0 : Int))] ++ (eI .i64 22 (fun _ => 0))), rfl, ⟨none, 0, rfl, RowF.nil⟩, ⟨[(i64 (0 : Int))], ([(i64 (0 : Int)), (i64 (0 : Int)), (i64 (0 : Int))] ++ (eI .i64 22 (fun _ => 0))), rfl, rfl, ⟨[(i64 (0 : Int))], ([(i64 (0 : Int)), (i64 (0 : Int))] ++ (eI .i64 22 (fun _ => 0))), rfl, rfl, ⟨[(i64 (0 : Int))], ([(i64 (0 : Int))] ++ (eI .i64 22 (fun _ => 0))), rfl, rfl, ⟨[(i64 (0 : Int))], (eI .i64 22 (fun _ => 0)), rfl, rfl, ⟨rfl, rfl⟩⟩⟩⟩⟩⟩⟩⟩⟩⟩⟩⟩
  · have hF := bif_f hb16 hF; refine w_skip (th_n ?_); refine w_seq ?_; refine w_seq (w_reg ?_); refine v_move ?_; obtain ⟨v18, e19, hF⟩ := bnd_some hF; refine v_call st (ct75 N e19 st.d st.sub ) (fun n20 st => ?_); refine v_not ?_; refine r_nil (th_n ?_); refine v_cond (fun hb21 => ?_) (fun hb21 => ?_)
    · have hF := bif_t hb21 hF; refine w_seq (w_reg ?_); refine v_build (cs := ([(i64 (0 : Int)), (i64 (0 : Int)), (i64 (0 : Int)), (i64 (0 : Int)), (.slice none 0 0), (.slice none 0 0), (i64 (0 : Int)), (i64 (0 : Int)), (i64 (0 : Int)), (i64 (0 : Int))] ++ (eI .i64 22 (fun _ => 0)))) rfl ?_
      refine v_st (v := (.agg ([(i64 (0 : Int)), (i64 (0 : Int)), (i64 (0 : Int)), (i64 (0 : Int)), (.slice none 0 0), (.slice none 0 0), (i64 (0 : Int)), (i64 (0 : Int)), (i64 (0 : Int)), (i64 (0 : Int))] ++ (eI .i64 22 (fun _ => 0))))) (cs' := ([(i64 (0 : Int)), (i64 (0 : Int)), (i64 (0 : Int)), (i64 (0 : Int)), (.slice none 0 0), (.slice none 0 0), (i64 (0 : Int)), (i64 (0 : Int)), (i64 (0 : Int)), (i64 (0 : Int))] ++ (eI .i64 22 (fun _ => 0)))) st 1 rfl (ov_tail (q := ([(i64 (0 : Int)), (i64 (0 : Int)), (i64 (0 : Int)), (i64 (0 : Int)), (.slice none 0 0), (.slice none 0 0), (i64 (0 : Int)), (i64 (0 : Int)), (i64 (0 : Int)), (i64 (0 : Int))] ++ (eI .i64 22 (fun _ => 0)))) (r := ([(i64 (0 : Int)), (i64 (0 : Int)), (i64 (0 : Int)), (i64 (0 : Int)), (.slice none 0 0), (.slice none 0 0), (i64 (0 : Int)), (i64 (0 : Int)), (i64 (0 : Int)), (i64 (0 : Int))] ++ (eI .i64 22 (fun _ => 0)))) [] rfl (by simp [eI_len, eB_len])) (len_tail (E := (eI .i64 22 (fun _ => 0))) [(i64 (0 : Int)), (i64 (0 : Int)), (i64 (0 : Int)), (i64 (0 : Int)), (.slice none 0 0), (.slice none 0 0), (i64 (0 : Int)), (i64 (0 : Int)), (i64 (0 : Int)), (i64 (0 : Int))] eI_len rfl) (one_tail (E := (eI .i64 22 (fun _ => 0))) [(i64 (0 : Int)), (i64 (0 : Int)), (i64 (0 : Int)), (i64 (0 : Int)), (.slice none 0 0), (.slice none 0 0), (i64 (0 : Int)), (i64 (0 : Int)), (i64 (0 : Int)), (i64 (0 : Int))] rfl eI_one) hfl (fun h22 st => ?_)
      refine v_move ?_; refine r_nil (th_n ?_); refine w_ret ?_; refine th_r ?_; obtain rfl := inj hF
      exact end_r st (Res.c gA (st.at (i := 1) rfl).2.2 (show takeN _ _ = some ([(i64 (0 : Int)), (i64 (0 : Int)), (i64 (0 : Int)), (i64 (0 : Int)), (.slice none 0 0), (.slice none 0 0), (i64 (0 : Int)), (i64 (0 : Int)), (i64 (0 : Int)), (i64 (0 : Int))] ++ (eI .i64 22 (fun _ => 0))) from (tk_tail (E := (eI .i64 22 (fun _ => 0))) [] [(i64 (0 : Int)), (i64 (0 : Int)), (i64 (0 : Int)), (i64 (0 : Int)), (.slice none 0 0), (.slice none 0 0), (i64 (0 : Int)), (i64 (0 : Int)), (i64 (0 : Int)), (i64 (0 : Int))] rfl eI_len rfl)) (Res.t gA Res.nil)) ⟨_, _, rfl, ⟨[(i64 (0 : Int))], ([(i64 (0 : Int)), (i64 (0 : Int)), (i64 (0 : Int)), (.slice none 0 0), (.slice none 0 0), (i64 (0 : Int)), (i64 (0 : Int)), (i64 (0 : Int)), (i64 (0 : Int))] ++ (eI .i64 22 (fun _ => 0))), rfl, rfl, ⟨[(i64 (0 : Int))], ([(i64 (0 : Int)), (i64 (0 : Int)), (.slice none 0 0), (.slice none 0 0), (i64 (0 : Int)), (i64 (0 : Int)), (i64 (0 : Int)), (i64 (0 : Int))] ++ (eI .i64 22 (fun _ => 0))), rfl, rfl, ⟨[(i64 (0 : Int))], ([(i64 (0 : Int)), (.slice none 0 0), (.slice none 0 0), (i64 (0 : Int)), (i64 (0 : Int)), (i64 (0 : Int)), (i64 (0 : Int))] ++ (eI .i64 22 (fun _ => 0))), rfl, rfl, ⟨[(i64 (0 : Int))], ([(.slice none 0 0), (.slice none 0 0), (i64 (0 : Int)), (i64 (0 : Int)), (i64 (0 : Int)), (i64 (0 : Int))] ++ (eI .i64 22 (fun _ => 0))), rfl, rfl, ⟨[(.slice none 0 0)], ([(.slice none 0 0), (i64 (0 : Int)), (i64 (0 : Int)), (i64 (0 : Int)), (i64 (0 : Int))] ++ (eI .i64 22 (fun _ => 0))), rfl, ⟨none, 0, rfl, RowF.nil⟩, ⟨[(.slice none 0 0)], ([(i64 (0 : Int)), (i64 (0 : Int)), (i64 (0 : Int)), (i64 (0 : Int))] ++ (eI .i64 22 (fun _ => 0))), rfl, ⟨none, 0, rfl, RowF.nil⟩, ⟨[(i64 (0 : Int))], ([(i64 (0 : Int)), (i64 (0 : Int)), (i64 (0 : Int))] ++ (eI .i64 22 (fun _ => 0))), rfl, rfl, ⟨[(i64 (0 : Int))], ([(i64 (0 : Int)), (i64 (0 : Int))] ++ (eI .i64 22 (fun _ => 0))), rfl, rfl, ⟨[(i64 (0 : Int))], ([(i64 (0 : Int))] ++ (eI .i64 22 (fun _ => 0))), rfl, rfl, ⟨[(i64 (0 : Int))], (eI .i64 22 (fun _ => 0)), rfl, rfl, ⟨rfl, rfl⟩⟩⟩⟩⟩⟩⟩⟩⟩⟩⟩⟩
    · have hF := bif_f hb21 hF; refine w_skip (th_n ?_); refine w_seq (w_reg ?_); refine v_ldn (vs := ([(i64 v7.1), (i64 v7.2.1), (i64 v7.2.2.1), (i64 v7.2.2.2.1), (.slice py10 (v7.2.2.2.2.1).length cy10), (.slice py11 (v7.2.2.2.2.2.1).length cy11), (i64 v7.2.2.2.2.2.2.1), (i64 v7.2.2.2.2.2.2.2.1), (i64 v7.2.2.2.2.2.2.2.2.1), (i64 v7.2.2.2.2.2.2.2.2.2.1)] ++ (eI .i64 22 v7.2.2.2.2.2.2.2.2.2.2.1))) (st.at (i := 2) rfl).2.2 (tk_tail (E := (eI .i64 22 v7.2.2.2.2.2.2.2.2.2.2.1)) [] [(i64 v7.1), (i64 v7.2.1), (i64 v7.2.2.1), (i64 v7.2.2.2.1), (.slice py10 (v7.2.2.2.2.1).length cy10), (.slice py11 (v7.2.2.2.2.2.1).length cy11), (i64 v7.2.2.2.2.2.2.1), (i64 v7.2.2.2.2.2.2.2.1), (i64 v7.2.2.2.2.2.2.2.2.1), (i64 v7.2.2.2.2.2.2.2.2.2.1)] rfl eI_len rfl) ?_
      refine v_st (v := (.agg ([(i64 v7.1), (i64 v7.2.1), (i64 v7.2.2.1), (i64 v7.2.2.2.1), (.slice py10 (v7.2.2.2.2.1).length cy10), (.slice py11 (v7.2.2.2.2.2.1).length cy11), (i64 v7.2.2.2.2.2.2.1), (i64 v7.2.2.2.2.2.2.2.1), (i64 v7.2.2.2.2.2.2.2.2.1), (i64 v7.2.2.2.2.2.2.2.2.2.1)] ++ (eI .i64 22 v7.2.2.2.2.2.2.2.2.2.2.1)))) (cs' := ([(i64 v7.1), (i64 v7.2.1), (i64 v7.2.2.1), (i64 v7.2.2.2.1), (.slice py10 (v7.2.2.2.2.1).length cy10), (.slice py11 (v7.2.2.2.2.2.1).length cy11), (i64 v7.2.2.2.2.2.2.1), (i64 v7.2.2.2.2.2.2.2.1), (i64 v7.2.2.2.2.2.2.2.2.1), (i64 v7.2.2.2.2.2.2.2.2.2.1)] ++ (eI .i64 22 v7.2.2.2.2.2.2.2.2.2.2.1))) st 1 rfl (ov_tail (q := ([(i64 (0 : Int)), (i64 (0 : Int)), (i64 (0 : Int)), (i64 (0 : Int)), (.slice none 0 0), (.slice none 0 0), (i64 (0 : Int)), (i64 (0 : Int)), (i64 (0 : Int)), (i64 (0 : Int))] ++ (eI .i64 22 (fun _ => 0)))) (r := ([(i64 v7.1), (i64 v7.2.1), (i64 v7.2.2.1), (i64 v7.2.2.2.1), (.slice py10 (v7.2.2.2.2.1).length cy10), (.slice py11 (v7.2.2.2.2.2.1).length cy11), (i64 v7.2.2.2.2.2.2.1), (i64 v7.2.2.2.2.2.2.2.1), (i64 v7.2.2.2.2.2.2.2.2.1), (i64 v7.2.2.2.2.2.2.2.2.2.1)] ++ (eI .i64 22 v7.2.2.2.2.2.2.2.2.2.2.1))) [] rfl (by simp [eI_len, eB_len])) (len_tail (E := (eI .i64 22 v7.2.2.2.2.2.2.2.2.2.2.1)) [(i64 v7.1), (i64 v7.2.1), (i64 v7.2.2.1), (i64 v7.2.2.2.1), (.slice py10 (v7.2.2.2.2.1).length cy10), (.slice py11 (v7.2.2.2.2.2.1).length cy11), (i64 v7.2.2.2.2.2.2.1), (i64 v7.2.2.2.2.2.2.2.1), (i64 v7.2.2.2.2.2.2.2.2.1), (i64 v7.2.2.2.2.2.2.2.2.2.1)] eI_len rfl) (one_tail (E := (eI .i64 22 v7.2.2.2.2.2.2.2.2.2.2.1)) [(i64 v7.1), (i64 v7.2.1), (i64 v7.2.2.1), (i64 v7.2.2.2.1), (.slice py10 (v7.2.2.2.2.1).length cy10), (.slice py11 (v7.2.2.2.2.2.1).length cy11), (i64 v7.2.2.2.2.2.2.1), (i64 v7.2.2.2.2.2.2.2.1), (i64 v7.2.2.2.2.2.2.2.2.1), (i64 v7.2.2.2.2.2.2.2.2.2.1)] rfl eI_one) hfl (fun h23 st => ?_)
      refine v_move ?_; refine r_nil (th_n ?_); refine w_ret ?_; obtain rfl := inj hF
      exact end_r st (Res.c gA (st.at (i := 1) rfl).2.2 (show takeN _ _ = some ([(i64 v7.1), (i64 v7.2.1), (i64 v7.2.2.1), (i64 v7.2.2.2.1), (.slice py10 (v7.2.2.2.2.1).length cy10), (.slice py11 (v7.2.2.2.2.2.1).length cy11), (i64 v7.2.2.2.2.2.2.1), (i64 v7.2.2.2.2.2.2.2.1), (i64 v7.2.2.2.2.2.2.2.2.1), (i64 v7.2.2.2.2.2.2.2.2.2.1)] ++ (eI .i64 22 v7.2.2.2.2.2.2.2.2.2.2.1)) from (tk_tail (E := (eI .i64 22 v7.2.2.2.2.2.2.2.2.2.2.1)) [] [(i64 v7.1), (i64 v7.2.1), (i64 v7.2.2.1), (i64 v7.2.2.2.1), (.slice py10 (v7.2.2.2.2.1).length cy10), (.slice py11 (v7.2.2.2.2.2.1).length cy11), (i64 v7.2.2.2.2.2.2.1), (i64 v7.2.2.2.2.2.2.2.1), (i64 v7.2.2.2.2.2.2.2.2.1), (i64 v7.2.2.2.2.2.2.2.2.2.1)] rfl eI_len rfl)) (Res.t gA Res.nil)) ⟨_, _, rfl, ⟨[(i64 v7.1)], ([(i64 v7.2.1), (i64 v7.2.2.1), (i64 v7.2.2.2.1), (.slice py10 (v7.2.2.2.2.1).length cy10), (.slice py11 (v7.2.2.2.2.2.1).length cy11), (i64 v7.2.2.2.2.2.2.1), (i64 v7.2.2.2.2.2.2.2.1), (i64 v7.2.2.2.2.2.2.2.2.1), (i64 v7.2.2.2.2.2.2.2.2.2.1)] ++ (eI .i64 22 v7.2.2.2.2.2.2.2.2.2.2.1)), rfl, rfl, ⟨[(i64 v7.2.1)], ([(i64 v7.2.2.1), (i64 v7.2.2.2.1), (.slice py10 (v7.2.2.2.2.1).length cy10), (.slice py11 (v7.2.2.2.2.2.1).length cy11), (i64 v7.2.2.2.2.2.2.1), (i64 v7.2.2.2.2.2.2.2.1), (i64 v7.2.2.2.2.2.2.2.2.1), (i64 v7.2.2.2.2.2.2.2.2.2.1)] ++ (eI .i64 22 v7.2.2.2.2.2.2.2.2.2.2.1)), rfl, rfl, ⟨[(i64 v7.2.2.1)], ([(i64 v7.2.2.2.1), (.slice py10 (v7.2.2.2.2.1).length cy10), (.slice py11 (v7.2.2.2.2.2.1).length cy11), (i64 v7.2.2.2.2.2.2.1), (i64 v7.2.2.2.2.2.2.2.1), (i64 v7.2.2.2.2.2.2.2.2.1), (i64 v7.2.2.2.2.2.2.2.2.2.1)] ++ (eI .i64 22 v7.2.2.2.2.2.2.2.2.2.2.1)), rfl, rfl, ⟨[(i64 v7.2.2.2.1)], ([(.slice py10 (v7.2.2.2.2.1).length cy10), (.slice py11 (v7.2.2.2.2.2.1).length cy11), (i64 v7.2.2.2.2.2.2.1), (i64 v7.2.2.2.2.2.2.2.1), (i64 v7.2.2.2.2.2.2.2.2.1), (i64 v7.2.2.2.2.2.2.2.2.2.1)] ++ (eI .i64 22 v7.2.2.2.2.2.2.2.2.2.2.1)), rfl, rfl, ⟨[(.slice py10 (v7.2.2.2.2.1).length cy10)], ([(.slice py11 (v7.2.2.2.2.2.1).length cy11), (i64 v7.2.2.2.2.2.2.1), (i64 v7.2.2.2.2.2.2.2.1), (i64 v7.2.2.2.2.2.2.2.2.1), (i64 v7.2.2.2.2.2.2.2.2.2.1)] ++ (eI .i64 22 v7.2.2.2.2.2.2.2.2.2.2.1)), rfl, ⟨_, _, rfl, ry10⟩, ⟨[(.slice py11 (v7.2.2.2.2.2.1).length cy11)], ([(i64 v7.2.2.2.2.2.2.1), (i64 v7.2.2.2.2.2.2.2.1), (i64 v7.2.2.2.2.2.2.2.2.1), (i64 v7.2.2.2.2.2.2.2.2.2.1)] ++ (eI .i64 22 v7.2.2.2.2.2.2.2.2.2.2.1)), rfl, ⟨_, _, rfl, ry11⟩, ⟨[(i64 v7.2.2.2.2.2.2.1)], ([(i64 v7.2.2.2.2.2.2.2.1), (i64 v7.2.2.2.2.2.2.2.2.1), (i64 v7.2.2.2.2.2.2.2.2.2.1)] ++ (eI .i64 22 v7.2.2.2.2.2.2.2.2.2.2.1)), rfl, rfl, ⟨[(i64 v7.2.2.2.2.2.2.2.1)], ([(i64 v7.2.2.2.2.2.2.2.2.1), (i64 v7.2.2.2.2.2.2.2.2.2.1)] ++ (eI .i64 22 v7.2.2.2.2.2.2.2.2.2.2.1)), rfl, rfl, ⟨[(i64 v7.2.2.2.2.2.2.2.2.1)], ([(i64 v7.2.2.2.2.2.2.2.2.2.1)] ++ (eI .i64 22 v7.2.2.2.2.2.2.2.2.2.2.1)), rfl, rfl, ⟨[(i64 v7.2.2.2.2.2.2.2.2.2.1)], (eI .i64 22 v7.2.2.2.2.2.2.2.2.2.2.1), rfl, rfl, ⟨rfl, rfl⟩⟩⟩⟩⟩⟩⟩⟩⟩⟩⟩⟩
end Go.Hx.V

namespace Go.Hx.V
open Go.Hx
set_option maxRecDepth 20000
set_option maxHeartbeats 4000000
variable {fl : Nat} {h0 : Tr HBlk} {n0 : Nat} {F0 : PH}
attribute [local irreducible] W R C thenH inBlockH Tr.get Tr.set lo ck bnd ix iter
end Go.Hx.V

namespace Go.Hx.V
open Go.Hx
set_option maxRecDepth 20000
set_option maxHeartbeats 4000000
variable {fl : Nat} {h0 : Tr HBlk} {n0 : Nat} {F0 : PH}
attribute [local irreducible] W R C thenH inBlockH Tr.get Tr.set lo ck bnd ix iter
end Go.Hx.V

namespace Go.Hx.V
open Go.Hx
set_option maxRecDepth 20000
set_option maxHeartbeats 4000000
variable {fl : Nat} {h0 : Tr HBlk} {n0 : Nat} {F0 : PH}
attribute [local irreducible] W R C thenH inBlockH Tr.get Tr.set lo ck bnd ix iter
theorem ct67 (N : Nat) {a0_0 a0_1 a0_2 a0_3 : Int} {a0_4 : (List (Int × Int × Int × Int))} {a0_5 : (List (Int × Int))} {a0_6 a0_7 a0_8 a0_9 a1 : Int} {r : ((List (Int × Int)) × Int)} (hF : sf67 N a0_0 a0_1 a0_2 a0_3 a0_4 a0_5 a0_6 a0_7 a0_8 a0_9 a1 = some r) (hd : D h0 n0) (hs : F0.sub h0) (hfl : fl ≤ n0) {pa0_4 : Option (Nat × Nat)} {ca0_4 : Nat} {pa0_5 : Option (Nat × Nat)} {ca0_5 : Nat} (ra0_4 : RowF (rP rI (rP rI (rP rI rI))) 4 F0 pa0_4 ca0_4 a0_4) (ra0_5 : RowF (rP rI rI) 2 F0 pa0_5 ca0_5 a0_5) : C LW fl 67 [(.agg [(i64 a0_0), (i64 a0_1), (i64 a0_2), (i64 a0_3), (.slice pa0_4 (a0_4).length ca0_4), (.slice pa0_5 (a0_5).length ca0_5), (i64 a0_6), (i64 a0_7), (i64 a0_8), (i64 a0_9)]), (i64 a1), (.func 68 [] [])] ⟨h0, n0⟩ (KR (rvT2 (lvL (rP rI rI) 2) lvI) F0 h0 n0 r) := by
  unfold sf67 at hF
  refine in_mT hd hs hfl lw67 rfl rfl (by rfl) (fun st T hT => ?_)
  have t0 := hT 0 _ rfl
  have t1 := hT 1 _ rfl
  have t2 := hT 2 _ rfl
  dsimp only [L67]
  refine w_seq (w_reg ?_); refine v_box st (fun b1 h2 n3 st => ?_); refine v_move ?_; refine v_move ?_; refine r_nil (th_n ?_); refine w_seq (w_reg ?_); refine v_ldn (vs := [(i64 a0_0), (i64 a0_1), (i64 a0_2), (i64 a0_3), (.slice pa0_4 (a0_4).length ca0_4), (.slice pa0_5 (a0_5).length ca0_5), (i64 a0_6), (i64 a0_7), (i64 a0_8), (i64 a0_9)]) (st.at (i := 0) rfl).2.2 rfl ?_; refine v_move ?_; obtain ⟨v4, e5, hF⟩ := bnd_some hF; refine v_callR st (ct105 N e5 st.d st.sub (Nat.le_trans hfl st.ext.le) ra0_4 ra0_5) (fun u6 F6 h6 n6 le6 rv6 st => ?_); obtain ⟨_, _, rfl, ⟨_, _, rfl, rfl, ⟨_, _, rfl, rfl, ⟨_, _, rfl, rfl, ⟨_, _, rfl, rfl, ⟨_, _, rfl, ⟨py7, cy7, rfl, ry7⟩, ⟨_, _, rfl, ⟨py8, cy8, rfl, ry8⟩, ⟨_, _, rfl, rfl, ⟨_, _, rfl, rfl, ⟨_, _, rfl, rfl, ⟨_, _, rfl, rfl, ⟨rfl, rfl⟩⟩⟩⟩⟩⟩⟩⟩⟩⟩⟩⟩ := rv6
  refine v_move ?_; refine v_xt rfl ?_; refine v_xt rfl ?_; refine v_alloc st (fun b9 h10 n11 st => ?_)
  have st := st.cells 1 rfl ([(i64 (0 : Int)), (i64 (0 : Int)), (i64 (0 : Int)), (i64 (0 : Int)), (.slice none 0 0), (.slice none 0 0), (i64 (0 : Int)), (i64 (0 : Int)), (i64 (0 : Int)), (i64 (0 : Int))] ++ (eI .i64 22 (fun _ => 0))) rfl
  refine v_st (v := (.agg ([(i64 v4.1), (i64 v4.2.1), (i64 v4.2.2.1), (i64 v4.2.2.2.1), (.slice py7 (v4.2.2.2.2.1).length cy7), (.slice py8 (v4.2.2.2.2.2.1).length cy8), (i64 v4.2.2.2.2.2.2.1), (i64 v4.2.2.2.2.2.2.2.1), (i64 v4.2.2.2.2.2.2.2.2.1), (i64 v4.2.2.2.2.2.2.2.2.2.1)] ++ (eI .i64 22 v4.2.2.2.2.2.2.2.2.2.2.1)))) (cs' := ([(i64 v4.1), (i64 v4.2.1), (i64 v4.2.2.1), (i64 v4.2.2.2.1), (.slice py7 (v4.2.2.2.2.1).length cy7), (.slice py8 (v4.2.2.2.2.2.1).length cy8), (i64 v4.2.2.2.2.2.2.1), (i64 v4.2.2.2.2.2.2.2.1), (i64 v4.2.2.2.2.2.2.2.2.1), (i64 v4.2.2.2.2.2.2.2.2.2.1)] ++ (eI .i64 22 v4.2.2.2.2.2.2.2.2.2.2.1))) st 1 rfl (ov_tail (q := ([(i64 (0 : Int)), (i64 (0 : Int)), (i64 (0 : Int)), (i64 (0 : Int)), (.slice none 0 0), (.slice none 0 0), (i64 (0 : Int)), (i64 (0 : Int)), (i64 (0 : Int)), (i64 (0 : Int))] ++ (eI .i64 22 (fun _ => 0)))) (r := ([(i64 v4.1), (i64 v4.2.1), (i64 v4.2.2.1), (i64 v4.2.2.2.1), (.slice py7 (v4.2.2.2.2.1).length cy7), (.slice py8 (v4.2.2.2.2.2.1).length cy8), (i64 v4.2.2.2.2.2.2.1), (i64 v4.2.2.2.2.2.2.2.1), (i64 v4.2.2.2.2.2.2.2.2.1), (i64 v4.2.2.2.2.2.2.2.2.2.1)] ++ (eI .i64 22 v4.2.2.2.2.2.2.2.2.2.2.1))) [] rfl (by simp [eI_len, eB_len])) (len_tail (E := (eI .i64 22 v4.2.2.2.2.2.2.2.2.2.2.1)) [(i64 v4.1), (i64 v4.2.1), (i64 v4.2.2.1), (i64 v4.2.2.2.1), (.slice py7 (v4.2.2.2.2.1).length cy7), (.slice py8 (v4.2.2.2.2.2.1).length cy8), (i64 v4.2.2.2.2.2.2.1), (i64 v4.2.2.2.2.2.2.2.1), (i64 v4.2.2.2.2.2.2.2.2.1), (i64 v4.2.2.2.2.2.2.2.2.2.1)] eI_len rfl) (one_tail (E := (eI .i64 22 v4.2.2.2.2.2.2.2.2.2.2.1)) [(i64 v4.1), (i64 v4.2.1), (i64 v4.2.2.1), (i64 v4.2.2.2.1), (.slice py7 (v4.2.2.2.2.1).length cy7), (.slice py8 (v4.2.2.2.2.2.1).length cy8), (i64 v4.2.2.2.2.2.2.1), (i64 v4.2.2.2.2.2.2.2.1), (i64 v4.2.2.2.2.2.2.2.2.1), (i64 v4.2.2.2.2.2.2.2.2.2.1)] rfl eI_one) hfl (fun h12 st => ?_)
  refine v_move ?_; refine r_nil (th_n ?_); refine w_seq ?_; refine w_seq (w_reg ?_); refine v_move ?_; refine v_nei ?_; refine r_nil (th_n ?_); refine v_cond (fun hb13 => ?_) (fun hb13 => ?_)
  · have hF := bif_t hb13 hF; refine w_seq (w_reg ?_); refine v_move ?_; refine v_move ?_; refine v_move ?_; refine r_nil (th_n ?_); refine w_ret ?_; refine th_r ?_; obtain rfl := inj hF
    exact end_r st (Res.t gA (Res.t gA Res.nil)) ⟨_, _, rfl, ⟨none, 0, rfl, RowF.nil⟩, rfl⟩
  · have hF := bif_f hb13 hF; refine w_skip (th_n ?_); refine w_seq (w_reg ?_); refine v_fa ?_; refine v_fa ?_; refine v_fa ?_; refine v_ld1 (st.at (i := 1) rfl).2.2 rfl ?_; obtain ⟨q14, hF⟩ := ck_some hF; refine v_add q14 ?_; obtain ⟨q15, hF⟩ := ck_some hF
    have w15 : LR (rP rI rI) 2 F6 (List.replicate (Int.toNat (0 : Int)) (0, 0)) (Go.Hx.repl (Int.toNat (0 : Int)) [(i64 (0 : Int)), (i64 (0 : Int))]) := LR.repl (⟨[(i64 (0 : Int))], [(i64 (0 : Int))], rfl, rfl, rfl⟩) _
    refine v_mk st (n := (List.replicate (Int.toNat (0 : Int)) (0, 0)).length) q15.1 q15.2.1 (by simp) q15.2.2.1 q15.2.2.2 (fun o15 h15 n15 st => ?_)
    refine v_move ?_; refine r_nil (th_n ?_); refine w_seq ?_; refine w_seq (w_reg ?_); refine v_move ?_; refine r_nil (th_n ?_); refine w_block ?_; obtain ⟨y29, hy, hF⟩ := bnd_some hF; refine v_loopD (sf67_L1 N a1 v4) (fun x16 T ds17 h nx => ∃ (F17 : PH) (o18 : Option Nat) (c18 : Nat) (cs18 : List HV), ds17 = [] ∧ PH.le F6 F17 ∧ St n0 h0 F0 F17 h nx [.bx b1 [(i64 a0_0), (i64 a0_1), (i64 a0_2), (i64 a0_3), (.slice pa0_4 (a0_4).length ca0_4), (.slice pa0_5 (a0_5).length ca0_5), (i64 a0_6), (i64 a0_7), (i64 a0_8), (i64 a0_9)], .bx b9 ([(i64 v4.1), (i64 v4.2.1), (i64 v4.2.2.1), (i64 v4.2.2.2.1), (.slice py7 (v4.2.2.2.2.1).length cy7), (.slice py8 (v4.2.2.2.2.2.1).length cy8), (i64 v4.2.2.2.2.2.2.1), (i64 v4.2.2.2.2.2.2.2.1), (i64 v4.2.2.2.2.2.2.2.2.1), (i64 v4.2.2.2.2.2.2.2.2.2.1)] ++ (eI .i64 22 v4.2.2.2.2.2.2.2.2.2.2.1)), .ls o18 c18 cs18 2] ∧ LR (rP rI rI) 2 F17 x16.1 cs18 ∧ T.get 1 = some (i64 a1) ∧ T.get 2 = some (.func 68 [] []) ∧ T.get 8 = some (.ptr (some (b9, 0))) ∧ T.get 10 = some (slv o18 (x16.1).length c18) ∧ T.get 11 = some (i64 x16.2)) (fun y e a σ => e = .exit 0 ∧ a.nt = 44 ∧ ∃ (F30 : PH) (o31 : Option Nat) (c31 : Nat) (cs31 : List HV), a.defers = [] ∧ PH.le F6 F30 ∧ St n0 h0 F0 F30 σ.h σ.nx [.bx b1 [(i64 a0_0), (i64 a0_1), (i64 a0_2), (i64 a0_3), (.slice pa0_4 (a0_4).length ca0_4), (.slice pa0_5 (a0_5).length ca0_5), (i64 a0_6), (i64 a0_7), (i64 a0_8), (i64 a0_9)], .bx b9 ([(i64 v4.1), (i64 v4.2.1), (i64 v4.2.2.1), (i64 v4.2.2.2.1), (.slice py7 (v4.2.2.2.2.1).length cy7), (.slice py8 (v4.2.2.2.2.2.1).length cy8), (i64 v4.2.2.2.2.2.2.1), (i64 v4.2.2.2.2.2.2.2.1), (i64 v4.2.2.2.2.2.2.2.2.1), (i64 v4.2.2.2.2.2.2.2.2.2.1)] ++ (eI .i64 22 v4.2.2.2.2.2.2.2.2.2.2.1)), .ls o31 c31 cs31 2] ∧ LR (rP rI rI) 2 F30 y cs31 ∧ a.tmps.get 10 = some (slv o31 (y).length c31)) (fun x16 T ds17 h nx s hp hF => ?_) N _ y29 _ _ _ _ hy ⟨F6, o15, (Int.toNat (v4.1 + (1 : Int))), (Go.Hx.repl (Int.toNat (0 : Int)) [(i64 (0 : Int)), (i64 (0 : Int))]), rfl, (PH.le.refl _), st, w15, gA, gA, gA, gA, gA⟩ (fun e a σ hne hq => ?_)
    · obtain ⟨F17, o18, c18, cs18, rfl, le17, st, w18, t1, t2, t8, t10, t11⟩ := hp
      have le19 := PH.le.trans le6 le17
      unfold sf67_L1 at hF; unfold L67w0; refine w_seq ?_; refine w_seq (w_reg ?_); refine v_move ?_; refine v_fa ?_; refine v_fa ?_; refine v_fa ?_; refine v_ld1 (st.at (i := 1) rfl).2.2 rfl ?_; refine v_leq ?_; refine r_nil (th_n ?_); refine v_cond (fun hb32 => ?_) (fun hb32 => ?_)
      · have hF := bif_t hb32 hF; refine w_skip (th_n ?_); refine w_seq ?_; refine w_block ?_; refine w_reg ?_; refine v_move ?_; refine v_move ?_; refine v_ldn (vs := ([(i64 v4.1), (i64 v4.2.1), (i64 v4.2.2.1), (i64 v4.2.2.2.1), (.slice py7 (v4.2.2.2.2.1).length cy7), (.slice py8 (v4.2.2.2.2.2.1).length cy8), (i64 v4.2.2.2.2.2.2.1), (i64 v4.2.2.2.2.2.2.2.1), (i64 v4.2.2.2.2.2.2.2.2.1), (i64 v4.2.2.2.2.2.2.2.2.2.1)] ++ (eI .i64 22 v4.2.2.2.2.2.2.2.2.2.2.1))) (st.at (i := 1) rfl).2.2 (tk_tail (E := (eI .i64 22 v4.2.2.2.2.2.2.2.2.2.2.1)) [] [(i64 v4.1), (i64 v4.2.1), (i64 v4.2.2.1), (i64 v4.2.2.2.1), (.slice py7 (v4.2.2.2.2.1).length cy7), (.slice py8 (v4.2.2.2.2.2.1).length cy8), (i64 v4.2.2.2.2.2.2.1), (i64 v4.2.2.2.2.2.2.2.1), (i64 v4.2.2.2.2.2.2.2.2.1), (i64 v4.2.2.2.2.2.2.2.2.2.1)] rfl eI_len rfl) ?_
        refine v_move ?_; refine v_move ?_; obtain ⟨v33, e34, hF⟩ := bnd_some hF; refine v_call st (ct68 N e34 st.d st.sub (RowF.mono le17 ry7) (RowF.mono le17 ry8)) (fun n35 st => ?_); refine v_bs (cs := [(i64 v33.1), (i64 v33.2)]) st rfl (fun b36 h37 n38 st => ?_); obtain ⟨q39, hF⟩ := ck_some hF
        have w39 : LR (rP rI rI) 2 F17 (x16.1 ++ [(v33.1, v33.2)]) (cs18 ++ [(i64 v33.1), (i64 v33.2)]) := LR.app w18 (LR.one (⟨[(i64 v33.1)], [(i64 v33.2)], rfl, rfl, rfl⟩))
        refine v_aps (n := 1) (ox := 0) (m := (x16.1 ++ [(v33.1, v33.2)]).length) (row := [(i64 v33.1), (i64 v33.2)]) st 2 rfl w18.1 (st.at (i := 3) rfl).2.2 rfl rfl q39 hfl (by decide) (by decide) (by simp) (fun o39 c39 h39 n39 st => ?_)
        refine v_move ?_; refine r_nil ?_; refine ib_n ?_; refine th_n ?_; refine w_reg ?_; refine v_move ?_; obtain ⟨q40, hF⟩ := ck_some hF; refine v_add q40 ?_; refine v_move ?_; refine r_nil ?_; refine thn ⟨_, (inj hF).symm, rfl, ?_⟩; dsimp only
        exact ⟨F17, o39, c39, (cs18 ++ [(i64 v33.1), (i64 v33.2)]), rfl, le17, (st.drop (by first | exact List.Sublist.refl _ | (repeat first | exact List.nil_sublist _ | refine List.Sublist.cons_cons _ ?_ | refine List.Sublist.cons _ ?_))), w39, gA, gA, gA, gA, gA⟩
      · have hF := bif_f hb32 hF; refine w_exit ?_; refine th_e ?_; refine th_e ?_; refine ⟨_, (inj hF).symm, rfl, rfl, ?_⟩; dsimp only
        exact ⟨F17, o18, c18, cs18, rfl, le17, st, w18, gA⟩
    · obtain ⟨N9, T, ds30⟩ := a; obtain ⟨h42, n43⟩ := σ; obtain ⟨rfl, e1, F30, o31, c31, cs31, e2, le30, st, w31, t10⟩ := hq
      dsimp only at e1 e2
      subst e1
      subst e2
      dsimp only at st t10
      have le41 := PH.le.trans le6 le30
      refine ib_e ?_; refine th_n ?_; refine w_seq (w_reg ?_); refine v_move ?_; refine v_move ?_; refine v_move ?_; refine r_nil (th_n ?_); refine w_ret ?_; obtain rfl := inj hF
      obtain ⟨F44, le44, st, rf44⟩ := St.freeze st 2 rfl w31 (by decide)
      have le45 := PH.le.trans le41 le44
      have le46 := PH.le.trans le30 le44
      exact end_r st (Res.t gA (Res.t gA Res.nil)) ⟨_, _, rfl, ⟨_, _, rfl, rf44⟩, rfl⟩
theorem ct67_2 (N : Nat) {a0_0 a0_1 a0_2 a0_3 : Int} {a0_4 : (List (Int × Int × Int × Int))} {a0_5 : (List (Int × Int))} {a0_6 a0_7 a0_8 a0_9 a1 : Int} {r : ((List (Int × Int)) × Int)} (hF : sf67_2 N a0_0 a0_1 a0_2 a0_3 a0_4 a0_5 a0_6 a0_7 a0_8 a0_9 a1 = some r) (hd : D h0 n0) (hs : F0.sub h0) (hfl : fl ≤ n0) {pa0_4 : Option (Nat × Nat)} {ca0_4 : Nat} {pa0_5 : Option (Nat × Nat)} {ca0_5 : Nat} (ra0_4 : RowF (rP rI (rP rI (rP rI rI))) 4 F0 pa0_4 ca0_4 a0_4) (ra0_5 : RowF (rP rI rI) 2 F0 pa0_5 ca0_5 a0_5) : C LW fl 67 [(.agg [(i64 a0_0), (i64 a0_1), (i64 a0_2), (i64 a0_3), (.slice pa0_4 (a0_4).length ca0_4), (.slice pa0_5 (a0_5).length ca0_5), (i64 a0_6), (i64 a0_7), (i64 a0_8), (i64 a0_9)]), (i64 a1), (.func 69 [] [])] ⟨h0, n0⟩ (KR (rvT2 (lvL (rP rI rI) 2) lvI) F0 h0 n0 r) := by
  unfold sf67_2 at hF
  refine in_mT hd hs hfl lw67 rfl rfl (by rfl) (fun st T hT => ?_)
  have t0 := hT 0 _ rfl
  have t1 := hT 1 _ rfl
  have t2 := hT 2 _ rfl
  dsimp only [L67]
  refine w_seq (w_reg ?_); refine v_box st (fun b1 h2 n3 st => ?_); refine v_move ?_; refine v_move ?_; refine r_nil (th_n ?_); refine w_seq (w_reg ?_); refine v_ldn (vs := [(i64 a0_0), (i64 a0_1), (i64 a0_2), (i64 a0_3), (.slice pa0_4 (a0_4).length ca0_4), (.slice pa0_5 (a0_5).length ca0_5), (i64 a0_6), (i64 a0_7), (i64 a0_8), (i64 a0_9)]) (st.at (i := 0) rfl).2.2 rfl ?_; refine v_move ?_; obtain ⟨v4, e5, hF⟩ := bnd_some hF; refine v_callR st (ct105 N e5 st.d st.sub (Nat.le_trans hfl st.ext.le) ra0_4 ra0_5) (fun u6 F6 h6 n6 le6 rv6 st => ?_); obtain ⟨_, _, rfl, ⟨_, _, rfl, rfl, ⟨_, _, rfl, rfl, ⟨_, _, rfl, rfl, ⟨_, _, rfl, rfl, ⟨_, _, rfl, ⟨py7, cy7, rfl, ry7⟩, ⟨_, _, rfl, ⟨py8, cy8, rfl, ry8⟩, ⟨_, _, rfl, rfl, ⟨_, _, rfl, rfl, ⟨_, _, rfl, rfl, ⟨_, _, rfl, rfl, ⟨rfl, rfl⟩⟩⟩⟩⟩⟩⟩⟩⟩⟩⟩⟩ := rv6
  refine v_move ?_; refine v_xt rfl ?_; refine v_xt rfl ?_; refine v_alloc st (fun b9 h10 n11 st => ?_)
  have st := st.cells 1 rfl ([(i64 (0 : Int)), (i64 (0 : Int)), (i64 (0 : Int)), (i64 (0 : Int)), (.slice none 0 0), (.slice none 0 0), (i64 (0 : Int)), (i64 (0 : Int)), (i64 (0 : Int)), (i64 (0 : Int))] ++ (eI .i64 22 (fun _ => 0))) rfl
  refine v_st (v := (.agg ([(i64 v4.1), (i64 v4.2.1), (i64 v4.2.2.1), (i64 v4.2.2.2.1), (.slice py7 (v4.2.2.2.2.1).length cy7), (.slice py8 (v4.2.2.2.2.2.1).length cy8), (i64 v4.2.2.2.2.2.2.1), (i64 v4.2.2.2.2.2.2.2.1), (i64 v4.2.2.2.2.2.2.2.2.1), (i64 v4.2.2.2.2.2.2.2.2.2.1)] ++ (eI .i64 22 v4.2.2.2.2.2.2.2.2.2.2.1)))) (cs' := ([(i64 v4.1), (i64 v4.2.1), (i64 v4.2.2.1), (i64 v4.2.2.2.1), (.slice py7 (v4.2.2.2.2.1).length cy7), (.slice py8 (v4.2.2.2.2.2.1).length cy8), (i64 v4.2.2.2.2.2.2.1), (i64 v4.2.2.2.2.2.2.2.1), (i64 v4.2.2.2.2.2.2.2.2.1), (i64 v4.2.2.2.2.2.2.2.2.2.1)] ++ (eI .i64 22 v4.2.2.2.2.2.2.2.2.2.2.1))) st 1 rfl (ov_tail (q := ([(i64 (0 : Int)), (i64 (0 : Int)), (i64 (0 : Int)), (i64 (0 : Int)), (.slice none 0 0), (.slice none 0 0), (i64 (0 : Int)), (i64 (0 : Int)), (i64 (0 : Int)), (i64 (0 : Int))] ++ (eI .i64 22 (fun _ => 0)))) (r := ([(i64 v4.1), (i64 v4.2.1), (i64 v4.2.2.1), (i64 v4.2.2.2.1), (.slice py7 (v4.2.2.2.2.1).length cy7), (.slice py8 (v4.2.2.2.2.2.1).length cy8), (i64 v4.2.2.2.2.2.2.1), (i64 v4.2.2.2.2.2.2.2.1), (i64 v4.2.2.2.2.2.2.2.2.1), (i64 v4.2.2.2.2.2.2.2.2.2.1)] ++ (eI .i64 22 v4.2.2.2.2.2.2.2.2.2.2.1))) [] rfl (by simp [eI_len, eB_len])) (len_tail (E := (eI .i64 22 v4.2.2.2.2.2.2.2.2.2.2.1)) [(i64 v4.1), (i64 v4.2.1), (i64 v4.2.2.1), (i64 v4.2.2.2.1), (.slice py7 (v4.2.2.2.2.1).length cy7), (.slice py8 (v4.2.2.2.2.2.1).length cy8), (i64 v4.2.2.2.2.2.2.1), (i64 v4.2.2.2.2.2.2.2.1), (i64 v4.2.2.2.2.2.2.2.2.1), (i64 v4.2.2.2.2.2.2.2.2.2.1)] eI_len rfl) (one_tail (E := (eI .i64 22 v4.2.2.2.2.2.2.2.2.2.2.1)) [(i64 v4.1), (i64 v4.2.1), (i64 v4.2.2.1), (i64 v4.2.2.2.1), (.slice py7 (v4.2.2.2.2.1).length cy7), (.slice py8 (v4.2.2.2.2.2.1).length cy8), (i64 v4.2.2.2.2.2.2.1), (i64 v4.2.2.2.2.2.2.2.1), (i64 v4.2.2.2.2.2.2.2.2.1), (i64 v4.2.2.2.2.2.2.2.2.2.1)] rfl eI_one) hfl (fun h12 st => ?_)
  refine v_move ?_; refine r_nil (th_n ?_); refine w_seq ?_; refine w_seq (w_reg ?_); refine v_move ?_; refine v_nei ?_; refine r_nil (th_n ?_); refine v_cond (fun hb13 => ?_) (fun hb13 => ?_)
  · have hF := bif_t hb13 hF; refine w_seq (w_reg ?_); refine v_move ?_; refine v_move ?_; refine v_move ?_; refine r_nil (th_n ?_); refine w_ret ?_; refine th_r ?_; obtain rfl := inj hF
    exact end_r st (Res.t gA (Res.t gA Res.nil)) ⟨_, _, rfl, ⟨none, 0, rfl, RowF.nil⟩, rfl⟩
  · have hF := bif_f hb13 hF; refine w_skip (th_n ?_); refine w_seq (w_reg ?_); refine v_fa ?_; refine v_fa ?_; refine v_fa ?_; refine v_ld1 (st.at (i := 1) rfl).2.2 rfl ?_; obtain ⟨q14, hF⟩ := ck_some hF; refine v_add q14 ?_; obtain ⟨q15, hF⟩ := ck_some hF
    have w15 : LR (rP rI rI) 2 F6 (List.replicate (Int.toNat (0 : Int)) (0, 0)) (Go.Hx.repl (Int.toNat (0 : Int)) [(i64 (0 : Int)), (i64 (0 : Int))]) := LR.repl (⟨[(i64 (0 : Int))], [(i64 (0 : Int))], rfl, rfl, rfl⟩) _
    refine v_mk st (n := (List.replicate (Int.toNat (0 : Int)) (0, 0)).length) q15.1 q15.2.1 (by simp) q15.2.2.1 q15.2.2.2 (fun o15 h15 n15 st => ?_)
    refine v_move ?_; refine r_nil (th_n ?_); refine w_seq ?_; refine w_seq (w_reg ?_); refine v_move ?_; refine r_nil (th_n ?_); refine w_block ?_; obtain ⟨y29, hy, hF⟩ := bnd_some hF; refine v_loopD (sf67_2_L1 N a1 v4) (fun x16 T ds17 h nx => ∃ (F17 : PH) (o18 : Option Nat) (c18 : Nat) (cs18 : List HV), ds17 = [] ∧ PH.le F6 F17 ∧ St n0 h0 F0 F17 h nx [.bx b1 [(i64 a0_0), (i64 a0_1), (i64 a0_2), (i64 a0_3), (.slice pa0_4 (a0_4).length ca0_4), (.slice pa0_5 (a0_5).length ca0_5), (i64 a0_6), (i64 a0_7), (i64 a0_8), (i64 a0_9)], .bx b9 ([(i64 v4.1), (i64 v4.2.1), (i64 v4.2.2.1), (i64 v4.2.2.2.1), (.slice py7 (v4.2.2.2.2.1).length cy7), (.slice py8 (v4.2.2.2.2.2.1).length cy8), (i64 v4.2.2.2.2.2.2.1), (i64 v4.2.2.2.2.2.2.2.1), (i64 v4.2.2.2.2.2.2.2.2.1), (i64 v4.2.2.2.2.2.2.2.2.2.1)] ++ (eI .i64 22 v4.2.2.2.2.2.2.2.2.2.2.1)), .ls o18 c18 cs18 2] ∧ LR (rP rI rI) 2 F17 x16.1 cs18 ∧ T.get 1 = some (i64 a1) ∧ T.get 2 = some (.func 69 [] []) ∧ T.get 8 = some (.ptr (some (b9, 0))) ∧ T.get 10 = some (slv o18 (x16.1).length c18) ∧ T.get 11 = some (i64 x16.2)) (fun y e a σ => e = .exit 0 ∧ a.nt = 44 ∧ ∃ (F30 : PH) (o31 : Option Nat) (c31 : Nat) (cs31 : List HV), a.defers = [] ∧ PH.le F6 F30 ∧ St n0 h0 F0 F30 σ.h σ.nx [.bx b1 [(i64 a0_0), (i64 a0_1), (i64 a0_2), (i64 a0_3), (.slice pa0_4 (a0_4).length ca0_4), (.slice pa0_5 (a0_5).length ca0_5), (i64 a0_6), (i64 a0_7), (i64 a0_8), (i64 a0_9)], .bx b9 ([(i64 v4.1), (i64 v4.2.1), (i64 v4.2.2.1), (i64 v4.2.2.2.1), (.slice py7 (v4.2.2.2.2.1).length cy7), (.slice py8 (v4.2.2.2.2.2.1).length cy8), (i64 v4.2.2.2.2.2.2.1), (i64 v4.2.2.2.2.2.2.2.1), (i64 v4.2.2.2.2.2.2.2.2.1), (i64 v4.2.2.2.2.2.2.2.2.2.1)] ++ (eI .i64 22 v4.2.2.2.2.2.2.2.2.2.2.1)), .ls o31 c31 cs31 2] ∧ LR (rP rI rI) 2 F30 y cs31 ∧ a.tmps.get 10 = some (slv o31 (y).length c31)) (fun x16 T ds17 h nx s hp hF => ?_) N _ y29 _ _ _ _ hy ⟨F6, o15, (Int.toNat (v4.1 + (1 : Int))), (Go.Hx.repl (Int.toNat (0 : Int)) [(i64 (0 : Int)), (i64 (0 : Int))]), rfl, (PH.le.refl _), st, w15, gA, gA, gA, gA, gA⟩ (fun e a σ hne hq => ?_)
    · obtain ⟨F17, o18, c18, cs18, rfl, le17, st, w18, t1, t2, t8, t10, t11⟩ := hp
      have le19 := PH.le.trans le6 le17
      unfold sf67_2_L1 at hF; unfold L67w0; refine w_seq ?_; refine w_seq (w_reg ?_); refine v_move ?_; refine v_fa ?_; refine v_fa ?_; refine v_fa ?_; refine v_ld1 (st.at (i := 1) rfl).2.2 rfl ?_; refine v_leq ?_; refine r_nil (th_n ?_); refine v_cond (fun hb32 => ?_) (fun hb32 => ?_)
      · have hF := bif_t hb32 hF; refine w_skip (th_n ?_); refine w_seq ?_; refine w_block ?_; refine w_reg ?_; refine v_move ?_; refine v_move ?_; refine v_ldn (vs := ([(i64 v4.1), (i64 v4.2.1), (i64 v4.2.2.1), (i64 v4.2.2.2.1), (.slice py7 (v4.2.2.2.2.1).length cy7), (.slice py8 (v4.2.2.2.2.2.1).length cy8), (i64 v4.2.2.2.2.2.2.1), (i64 v4.2.2.2.2.2.2.2.1), (i64 v4.2.2.2.2.2.2.2.2.1), (i64 v4.2.2.2.2.2.2.2.2.2.1)] ++ (eI .i64 22 v4.2.2.2.2.2.2.2.2.2.2.1))) (st.at (i := 1) rfl).2.2 (tk_tail (E := (eI .i64 22 v4.2.2.2.2.2.2.2.2.2.2.1)) [] [(i64 v4.1), (i64 v4.2.1), (i64 v4.2.2.1), (i64 v4.2.2.2.1), (.slice py7 (v4.2.2.2.2.1).length cy7), (.slice py8 (v4.2.2.2.2.2.1).length cy8), (i64 v4.2.2.2.2.2.2.1), (i64 v4.2.2.2.2.2.2.2.1), (i64 v4.2.2.2.2.2.2.2.2.1), (i64 v4.2.2.2.2.2.2.2.2.2.1)] rfl eI_len rfl) ?_
        refine v_move ?_; refine v_move ?_; obtain ⟨v33, e34, hF⟩ := bnd_some hF; refine v_call st (ct69 N e34 st.d st.sub (RowF.mono le17 ry7) (RowF.mono le17 ry8)) (fun n35 st => ?_); refine v_bs (cs := [(i64 v33.1), (i64 v33.2)]) st rfl (fun b36 h37 n38 st => ?_); obtain ⟨q39, hF⟩ := ck_some hF
        have w39 : LR (rP rI rI) 2 F17 (x16.1 ++ [(v33.1, v33.2)]) (cs18 ++ [(i64 v33.1), (i64 v33.2)]) := LR.app w18 (LR.one (⟨[(i64 v33.1)], [(i64 v33.2)], rfl, rfl, rfl⟩))
        refine v_aps (n := 1) (ox := 0) (m := (x16.1 ++ [(v33.1, v33.2)]).length) (row := [(i64 v33.1), (i64 v33.2)]) st 2 rfl w18.1 (st.at (i := 3) rfl).2.2 rfl rfl q39 hfl (by decide) (by decide) (by simp) (fun o39 c39 h39 n39 st => ?_)
        refine v_move ?_; refine r_nil ?_; refine ib_n ?_; refine th_n ?_; refine w_reg ?_; refine v_move ?_; obtain ⟨q40, hF⟩ := ck_some hF; refine v_add q40 ?_; refine v_move ?_; refine r_nil ?_; refine thn ⟨_, (inj hF).symm, rfl, ?_⟩; dsimp only
        exact ⟨F17, o39, c39, (cs18 ++ [(i64 v33.1), (i64 v33.2)]), rfl, le17, (st.drop (by first | exact List.Sublist.refl _ | (repeat first | exact List.nil_sublist _ | refine List.Sublist.cons_cons _ ?_ | refine List.Sublist.cons _ ?_))), w39, gA, gA, gA, gA, gA⟩
      · have hF := bif_f hb32 hF; refine w_exit ?_; refine th_e ?_; refine th_e ?_; refine ⟨_, (inj hF).symm, rfl, rfl, ?_⟩; dsimp only
        exact ⟨F17, o18, c18, cs18, rfl, le17, st, w18, gA⟩
    · obtain ⟨N9, T, ds30⟩ := a; obtain ⟨h42, n43⟩ := σ; obtain ⟨rfl, e1, F30, o31, c31, cs31, e2, le30, st, w31, t10⟩ := hq
      dsimp only at e1 e2
      subst e1
      subst e2
      dsimp only at st t10
      have le41 := PH.le.trans le6 le30
      refine ib_e ?_; refine th_n ?_; refine w_seq (w_reg ?_); refine v_move ?_; refine v_move ?_; refine v_move ?_; refine r_nil (th_n ?_); refine w_ret ?_; obtain rfl := inj hF
      obtain ⟨F44, le44, st, rf44⟩ := St.freeze st 2 rfl w31 (by decide)
      have le45 := PH.le.trans le41 le44
      have le46 := PH.le.trans le30 le44
      exact end_r st (Res.t gA (Res.t gA Res.nil)) ⟨_, _, rfl, ⟨_, _, rfl, rf44⟩, rfl⟩
end Go.Hx.V

namespace Go.Hx.V
open Go.Hx
set_option maxRecDepth 20000
set_option maxHeartbeats 4000000
variable {fl : Nat} {h0 : Tr HBlk} {n0 : Nat} {F0 : PH}
attribute [local irreducible] W R C thenH inBlockH Tr.get Tr.set lo ck bnd ix iter
end Go.Hx.V

namespace Go.Hx.V
open Go.Hx
set_option maxRecDepth 20000
set_option maxHeartbeats 4000000
variable {fl : Nat} {h0 : Tr HBlk} {n0 : Nat} {F0 : PH}
attribute [local irreducible] W R C thenH inBlockH Tr.get Tr.set lo ck bnd ix iter
theorem ct22 (N : Nat) {a0_0 a0_1 a0_2 a0_3 : Int} {a0_4 : (List (Int × Int × Int × Int))} {a0_5 : (List (Int × Int))} {a0_6 a0_7 a0_8 a0_9 a1 : Int} {r : ((List (Int × Int)) × Int)} (hF : sf22 N a0_0 a0_1 a0_2 a0_3 a0_4 a0_5 a0_6 a0_7 a0_8 a0_9 a1 = some r) (hd : D h0 n0) (hs : F0.sub h0) (hfl : fl ≤ n0) {pa0_4 : Option (Nat × Nat)} {ca0_4 : Nat} {pa0_5 : Option (Nat × Nat)} {ca0_5 : Nat} (ra0_4 : RowF (rP rI (rP rI (rP rI rI))) 4 F0 pa0_4 ca0_4 a0_4) (ra0_5 : RowF (rP rI rI) 2 F0 pa0_5 ca0_5 a0_5) : C LW fl 22 [(.agg [(i64 a0_0), (i64 a0_1), (i64 a0_2), (i64 a0_3), (.slice pa0_4 (a0_4).length ca0_4), (.slice pa0_5 (a0_5).length ca0_5), (i64 a0_6), (i64 a0_7), (i64 a0_8), (i64 a0_9)]), (i64 a1)] ⟨h0, n0⟩ (KR (rvT2 (lvL (rP rI rI) 2) lvI) F0 h0 n0 r) := by
  unfold sf22 at hF
  refine in_mT hd hs hfl lw22 rfl rfl (by rfl) (fun st T hT => ?_)
  have t0 := hT 0 _ rfl
  have t1 := hT 1 _ rfl
  dsimp only [L22]
  refine w_seq (w_reg ?_); refine v_box st (fun b1 h2 n3 st => ?_); refine v_move ?_; refine v_move ?_; refine r_nil (th_n ?_); refine w_seq (w_reg ?_); refine v_ldn (vs := [(i64 a0_0), (i64 a0_1), (i64 a0_2), (i64 a0_3), (.slice pa0_4 (a0_4).length ca0_4), (.slice pa0_5 (a0_5).length ca0_5), (i64 a0_6), (i64 a0_7), (i64 a0_8), (i64 a0_9)]) (st.at (i := 0) rfl).2.2 rfl ?_; refine v_move ?_; obtain ⟨v4, e5, hF⟩ := bnd_some hF; refine v_callR st (ct67 N e5 st.d st.sub (Nat.le_trans hfl st.ext.le) ra0_4 ra0_5) (fun u6 F6 h6 n6 le6 rv6 st => ?_); obtain ⟨_, _, rfl, ⟨py7, cy7, rfl, ry7⟩, rfl⟩ := rv6; refine v_xt rfl ?_; refine v_xt rfl ?_; refine v_move ?_; refine v_move ?_
  refine r_nil (th_n ?_); refine w_ret ?_; obtain rfl := inj hF
  exact end_r st (Res.t gA (Res.t gA Res.nil)) ⟨_, _, rfl, ⟨_, _, rfl, ry7⟩, rfl⟩
theorem ct23 (N : Nat) {a0_0 a0_1 a0_2 a0_3 : Int} {a0_4 : (List (Int × Int × Int × Int))} {a0_5 : (List (Int × Int))} {a0_6 a0_7 a0_8 a0_9 a1 : Int} {r : ((List (Int × Int)) × Int)} (hF : sf23 N a0_0 a0_1 a0_2 a0_3 a0_4 a0_5 a0_6 a0_7 a0_8 a0_9 a1 = some r) (hd : D h0 n0) (hs : F0.sub h0) (hfl : fl ≤ n0) {pa0_4 : Option (Nat × Nat)} {ca0_4 : Nat} {pa0_5 : Option (Nat × Nat)} {ca0_5 : Nat} (ra0_4 : RowF (rP rI (rP rI (rP rI rI))) 4 F0 pa0_4 ca0_4 a0_4) (ra0_5 : RowF (rP rI rI) 2 F0 pa0_5 ca0_5 a0_5) : C LW fl 23 [(.agg [(i64 a0_0), (i64 a0_1), (i64 a0_2), (i64 a0_3), (.slice pa0_4 (a0_4).length ca0_4), (.slice pa0_5 (a0_5).length ca0_5), (i64 a0_6), (i64 a0_7), (i64 a0_8), (i64 a0_9)]), (i64 a1)] ⟨h0, n0⟩ (KR (rvT2 (lvL (rP rI rI) 2) lvI) F0 h0 n0 r) := by
  unfold sf23 at hF
  refine in_mT hd hs hfl lw23 rfl rfl (by rfl) (fun st T hT => ?_)
  have t0 := hT 0 _ rfl
  have t1 := hT 1 _ rfl
  dsimp only [L23]
  refine w_seq (w_reg ?_); refine v_box st (fun b1 h2 n3 st => ?_); refine v_move ?_; refine v_move ?_; refine r_nil (th_n ?_); refine w_seq (w_reg ?_); refine v_ldn (vs := [(i64 a0_0), (i64 a0_1), (i64 a0_2), (i64 a0_3), (.slice pa0_4 (a0_4).length ca0_4), (.slice pa0_5 (a0_5).length ca0_5), (i64 a0_6), (i64 a0_7), (i64 a0_8), (i64 a0_9)]) (st.at (i := 0) rfl).2.2 rfl ?_; refine v_move ?_; obtain ⟨v4, e5, hF⟩ := bnd_some hF; refine v_callR st (ct67_2 N e5 st.d st.sub (Nat.le_trans hfl st.ext.le) ra0_4 ra0_5) (fun u6 F6 h6 n6 le6 rv6 st => ?_); obtain ⟨_, _, rfl, ⟨py7, cy7, rfl, ry7⟩, rfl⟩ := rv6; refine v_xt rfl ?_; refine v_xt rfl ?_; refine v_move ?_; refine v_move ?_
  refine r_nil (th_n ?_); refine w_ret ?_; obtain rfl := inj hF
  exact end_r st (Res.t gA (Res.t gA Res.nil)) ⟨_, _, rfl, ⟨_, _, rfl, ry7⟩, rfl⟩
end Go.Hx.V

namespace Go.Hx.V
open Go.Hx
set_option maxRecDepth 20000
set_option maxHeartbeats 4000000
variable {fl : Nat} {h0 : Tr HBlk} {n0 : Nat} {F0 : PH}
attribute [local irreducible] W R C thenH inBlockH Tr.get Tr.set lo ck bnd ix iter
theorem ct3 (N : Nat) {a0_0 a0_1 a0_2 a0_3 : Int} {a0_4 : (List (Int × Int × Int × Int))} {a0_5 : (List (Int × Int))} {a0_6 a0_7 a0_8 a0_9 a1 : Int} {r : Bool} (hF : sf3 N a0_0 a0_1 a0_2 a0_3 a0_4 a0_5 a0_6 a0_7 a0_8 a0_9 a1 = some r) (hd : D h0 n0) (hs : F0.sub h0) {pa0_4 : Option (Nat × Nat)} {ca0_4 : Nat} {pa0_5 : Option (Nat × Nat)} {ca0_5 : Nat} (ra0_4 : RowF (rP rI (rP rI (rP rI rI))) 4 F0 pa0_4 ca0_4 a0_4) (ra0_5 : RowF (rP rI rI) 2 F0 pa0_5 ca0_5 a0_5) : C LW fl 3 [(.agg [(i64 a0_0), (i64 a0_1), (i64 a0_2), (i64 a0_3), (.slice pa0_4 (a0_4).length ca0_4), (.slice pa0_5 (a0_5).length ca0_5), (i64 a0_6), (i64 a0_7), (i64 a0_8), (i64 a0_9)]), (i64 a1)] ⟨h0, n0⟩ (KS (.bool r) n0 h0) := by
  unfold sf3 at hF
  refine in_cT hd hs lw3 rfl rfl (by rfl) (fun st T hT => ?_)
  have hfl : n0 ≤ n0 := Nat.le_refl n0
  have t0 := hT 0 _ rfl
  have t1 := hT 1 _ rfl
  dsimp only [L3]
  refine w_seq (w_reg ?_); refine v_box st (fun b1 h2 n3 st => ?_); refine v_move ?_; refine r_nil (th_n ?_); refine w_seq ?_; refine w_seq (w_reg ?_); refine v_ldn (vs := [(i64 a0_0), (i64 a0_1), (i64 a0_2), (i64 a0_3), (.slice pa0_4 (a0_4).length ca0_4), (.slice pa0_5 (a0_5).length ca0_5), (i64 a0_6), (i64 a0_7), (i64 a0_8), (i64 a0_9)]) (st.at (i := 0) rfl).2.2 rfl ?_; obtain ⟨v4, e5, hF⟩ := bnd_some hF; refine v_call st (ct18 N e5 st.d st.sub ra0_4 ra0_5) (fun n6 st => ?_); refine v_not ?_; refine r_nil (th_n ?_); refine v_cond (fun hb7 => ?_) (fun hb7 => ?_)
  · have hF := bif_t hb7 hF; refine w_seq (w_reg ?_); refine v_call st (ct_wakes (h := _) (nx := _)) (fun n8 st => ?_); refine v_move ?_; refine r_nil (th_n ?_); refine w_ret ?_; refine th_r ?_; obtain rfl := inj hF
    exact end_s st (Res.t gA Res.nil) rfl rfl
  · have hF := bif_f hb7 hF; refine w_skip (th_n ?_); refine w_seq (w_reg ?_); refine v_ldn (vs := [(i64 a0_0), (i64 a0_1), (i64 a0_2), (i64 a0_3), (.slice pa0_4 (a0_4).length ca0_4), (.slice pa0_5 (a0_5).length ca0_5), (i64 a0_6), (i64 a0_7), (i64 a0_8), (i64 a0_9)]) (st.at (i := 0) rfl).2.2 rfl ?_; obtain ⟨v9, e10, hF⟩ := bnd_some hF; refine v_callR st (ct21 N e10 st.d st.sub (Nat.le_trans hfl st.ext.le) ra0_4 ra0_5) (fun u11 F11 h11 n11 le11 rv11 st => ?_); obtain ⟨_, rfl, ⟨_, _, rfl, rfl, ⟨_, _, rfl, rfl, ⟨_, _, rfl, rfl, ⟨_, _, rfl, rfl, ⟨_, _, rfl, ⟨py12, cy12, rfl, ry12⟩, ⟨_, _, rfl, ⟨py13, cy13, rfl, ry13⟩, ⟨_, _, rfl, rfl, ⟨_, _, rfl, rfl, ⟨_, _, rfl, rfl, rfl⟩⟩⟩⟩⟩⟩⟩⟩⟩⟩ := rv11
    obtain ⟨v14, e15, hF⟩ := bnd_some hF; refine v_call st (ct20 N e15 st.d st.sub ry12 ry13) (fun n16 st => ?_); refine v_move ?_; refine r_nil (th_n ?_); refine w_seq (w_reg ?_); refine v_ldn (vs := [(i64 a0_0), (i64 a0_1), (i64 a0_2), (i64 a0_3), (.slice pa0_4 (a0_4).length ca0_4), (.slice pa0_5 (a0_5).length ca0_5), (i64 a0_6), (i64 a0_7), (i64 a0_8), (i64 a0_9)]) (st.at (i := 0) rfl).2.2 rfl ?_; obtain ⟨v17, e18, hF⟩ := bnd_some hF; refine v_callR st (ct21 N e18 st.d st.sub (Nat.le_trans hfl st.ext.le) (RowF.mono le11 ra0_4) (RowF.mono le11 ra0_5)) (fun u19 F19 h19 n19 le19 rv19 st => ?_)
    have le20 := PH.le.trans le11 le19
    obtain ⟨_, rfl, ⟨_, _, rfl, rfl, ⟨_, _, rfl, rfl, ⟨_, _, rfl, rfl, ⟨_, _, rfl, rfl, ⟨_, _, rfl, ⟨py21, cy21, rfl, ry21⟩, ⟨_, _, rfl, ⟨py22, cy22, rfl, ry22⟩, ⟨_, _, rfl, rfl, ⟨_, _, rfl, rfl, ⟨_, _, rfl, rfl, rfl⟩⟩⟩⟩⟩⟩⟩⟩⟩⟩ := rv19; refine v_move ?_; obtain ⟨v23, e24, hF⟩ := bnd_some hF; refine v_callR st (ct22 N e24 st.d st.sub (Nat.le_trans hfl st.ext.le) ry21 ry22) (fun u25 F25 h25 n25 le25 rv25 st => ?_)
    have le26 := PH.le.trans le20 le25
    have le27 := PH.le.trans le19 le25
    obtain ⟨_, _, rfl, ⟨py28, cy28, rfl, ry28⟩, rfl⟩ := rv25; refine v_move ?_; refine v_xt rfl ?_; refine v_xt rfl ?_; refine v_move ?_; refine v_move ?_; refine r_nil (th_n ?_); refine w_seq (w_reg ?_); refine v_ldn (vs := [(i64 a0_0), (i64 a0_1), (i64 a0_2), (i64 a0_3), (.slice pa0_4 (a0_4).length ca0_4), (.slice pa0_5 (a0_5).length ca0_5), (i64 a0_6), (i64 a0_7), (i64 a0_8), (i64 a0_9)]) (st.at (i := 0) rfl).2.2 rfl ?_; obtain ⟨v29, e30, hF⟩ := bnd_some hF; refine v_callR st (ct21 N e30 st.d st.sub (Nat.le_trans hfl st.ext.le) (RowF.mono le26 ra0_4) (RowF.mono le26 ra0_5)) (fun u31 F31 h31 n31 le31 rv31 st => ?_)
    have le32 := PH.le.trans le26 le31
    have le33 := PH.le.trans le27 le31
    have le34 := PH.le.trans le25 le31
    obtain ⟨_, rfl, ⟨_, _, rfl, rfl, ⟨_, _, rfl, rfl, ⟨_, _, rfl, rfl, ⟨_, _, rfl, rfl, ⟨_, _, rfl, ⟨py35, cy35, rfl, ry35⟩, ⟨_, _, rfl, ⟨py36, cy36, rfl, ry36⟩, ⟨_, _, rfl, rfl, ⟨_, _, rfl, rfl, ⟨_, _, rfl, rfl, rfl⟩⟩⟩⟩⟩⟩⟩⟩⟩⟩ := rv31; refine v_move ?_; obtain ⟨v37, e38, hF⟩ := bnd_some hF; refine v_callR st (ct23 N e38 st.d st.sub (Nat.le_trans hfl st.ext.le) ry35 ry36) (fun u39 F39 h39 n39 le39 rv39 st => ?_)
    have le40 := PH.le.trans le32 le39
    have le41 := PH.le.trans le33 le39
    have le42 := PH.le.trans le34 le39
    have le43 := PH.le.trans le31 le39
    obtain ⟨_, _, rfl, ⟨py44, cy44, rfl, ry44⟩, rfl⟩ := rv39; refine v_move ?_; refine v_xt rfl ?_; refine v_xt rfl ?_; refine v_move ?_; refine v_move ?_; refine r_nil (th_n ?_); refine w_seq (w_reg ?_); refine v_ldn (vs := [(i64 a0_0), (i64 a0_1), (i64 a0_2), (i64 a0_3), (.slice pa0_4 (a0_4).length ca0_4), (.slice pa0_5 (a0_5).length ca0_5), (i64 a0_6), (i64 a0_7), (i64 a0_8), (i64 a0_9)]) (st.at (i := 0) rfl).2.2 rfl ?_; obtain ⟨v45, e46, hF⟩ := bnd_some hF; refine v_callR st (ct24 N e46 st.d st.sub (Nat.le_trans hfl st.ext.le) (RowF.mono le40 ra0_4) (RowF.mono le40 ra0_5)) (fun u47 F47 h47 n47 le47 rv47 st => ?_)
    have le48 := PH.le.trans le40 le47
    have le49 := PH.le.trans le41 le47
    have le50 := PH.le.trans le42 le47
    have le51 := PH.le.trans le43 le47
    have le52 := PH.le.trans le39 le47
    obtain ⟨_, _, rfl, ⟨py53, cy53, rfl, ry53⟩, rfl⟩ := rv47; refine v_move ?_; refine v_xt rfl ?_; refine v_xt rfl ?_; refine v_move ?_; refine v_move ?_; refine r_nil (th_n ?_); refine w_seq ?_; refine w_seq (w_reg ?_); refine v_move ?_; refine v_move ?_; refine v_nei ?_; refine r_nil (th_n ?_); refine v_cond (fun hb54 => ?_) (fun hb54 => ?_)
    · have hF := bif_t hb54 hF; refine w_seq (w_reg ?_); refine v_move ?_; refine r_nil (th_n ?_); refine w_ret ?_; refine th_r ?_; obtain rfl := inj hF
      exact end_s st (Res.t gA Res.nil) rfl rfl
    · have hF := bif_f hb54 hF; refine w_skip (th_n ?_); obtain ⟨y74, hA75, hF⟩ := bnd_some hF; refine w_cutD (fun T ds77 h nx => ∃ (F77 : PH), ds77 = [] ∧ PH.le F47 F77 ∧ St n0 h0 F0 F77 h nx [.bx b1 [(i64 a0_0), (i64 a0_1), (i64 a0_2), (i64 a0_3), (.slice pa0_4 (a0_4).length ca0_4), (.slice pa0_5 (a0_5).length ca0_5), (i64 a0_6), (i64 a0_7), (i64 a0_8), (i64 a0_9)]] ∧ T.get 1 = some (i64 a1) ∧ T.get 2 = some (.ptr (some (b1, 0))) ∧ T.get 6 = some (.slice py28 (v23.1).length cy28) ∧ T.get 7 = some (i64 v23.2) ∧ T.get 8 = some (.slice py44 (v37.1).length cy44) ∧ T.get 9 = some (i64 v37.2) ∧ T.get 10 = some (.slice py53 (v45.1).length cy53) ∧ T.get 11 = some (i64 y74)) ?_ (fun T ds77 h nx hp => ?_)
      · have hK76 := hF
        have hF := hA75; obtain ⟨y82, hA83, hF⟩ := bnd_some hF; refine w_cutD (fun T ds85 h nx => ∃ (F85 : PH), ds85 = [] ∧ PH.le F47 F85 ∧ St n0 h0 F0 F85 h nx [.bx b1 [(i64 a0_0), (i64 a0_1), (i64 a0_2), (i64 a0_3), (.slice pa0_4 (a0_4).length ca0_4), (.slice pa0_5 (a0_5).length ca0_5), (i64 a0_6), (i64 a0_7), (i64 a0_8), (i64 a0_9)]] ∧ T.get 1 = some (i64 a1) ∧ T.get 2 = some (.ptr (some (b1, 0))) ∧ T.get 6 = some (.slice py28 (v23.1).length cy28) ∧ T.get 7 = some (i64 v23.2) ∧ T.get 8 = some (.slice py44 (v37.1).length cy44) ∧ T.get 9 = some (i64 v37.2) ∧ T.get 10 = some (.slice py53 (v45.1).length cy53) ∧ T.get 11 = some (i64 v45.2) ∧ T.get 50 = some (.bool y82)) ?_ (fun T ds85 h nx hp => ?_)
        · have hK84 := hF
          have hF := hA83; refine w_reg ?_; refine v_move ?_; refine v_eqi ?_; refine v_move ?_
          rcases Bool.eq_false_or_eq_true (decide (v45.2 = (0 : Int))) with hb86 | hb86
          · have hF := bif_t hb86 hF; refine g_take hb86 (v_move ?_); obtain ⟨v87, e88, hF⟩ := bnd_some hF; refine g_take hb86 (v_call st (ct25 N e88 st.d st.sub ) (fun n89 st => ?_)); refine g_take hb86 (v_not ?_); refine v_pick hb86 ?_; refine r_nil ?_; obtain rfl := inj hF; refine thn ⟨rfl, ?_⟩; dsimp only
            exact ⟨F47, rfl, (PH.le.refl _), st, gA, gA, gA, gA, gA, gA, gA, gA, gA⟩
          · have hF := bif_f hb86 hF; refine g_skip hb86 ?_; refine g_skip hb86 ?_; refine g_skip hb86 ?_; refine v_pick' hb86 ?_; refine r_nil ?_; obtain rfl := inj hF; refine thn ⟨rfl, ?_⟩; dsimp only
            exact ⟨F47, rfl, (PH.le.refl _), st, gA, gA, gA, gA, gA, gA, gA, gA, gA⟩
        · obtain ⟨F85, rfl, le85, st, t1, t2, t6, t7, t8, t9, t10, t11, t50⟩ := hp
          have le90 := PH.le.trans le48 le85
          have le91 := PH.le.trans le49 le85
          have le92 := PH.le.trans le50 le85
          have le93 := PH.le.trans le51 le85
          have le94 := PH.le.trans le52 le85
          have le95 := PH.le.trans le47 le85
          refine v_cond (fun hb96 => ?_) (fun hb96 => ?_)
          · have hF := bif_t hb96 hF; refine w_reg ?_; refine v_move ?_; refine r_nil ?_; obtain rfl := inj hF; refine thn ⟨rfl, ?_⟩; dsimp only
            exact ⟨F85, rfl, le85, st, gA, gA, gA, gA, gA, gA, gA, gA⟩
          · have hF := bif_f hb96 hF; refine w_skip ?_; obtain rfl := inj hF; refine thn ⟨rfl, ?_⟩; dsimp only
            exact ⟨F85, rfl, le85, st, gA, gA, gA, gA, gA, gA, gA, gA⟩
      · obtain ⟨F77, rfl, le77, st, t1, t2, t6, t7, t8, t9, t10, t11⟩ := hp
        have le97 := PH.le.trans le48 le77
        have le98 := PH.le.trans le49 le77
        have le99 := PH.le.trans le50 le77
        have le100 := PH.le.trans le51 le77
        have le101 := PH.le.trans le52 le77
        have le102 := PH.le.trans le47 le77
        refine w_seq ?_; refine w_seq (w_reg ?_); refine v_move ?_; refine v_nei ?_; refine r_nil (th_n ?_); refine v_cond (fun hb103 => ?_) (fun hb103 => ?_)
        · have hF := bif_t hb103 hF; refine w_seq (w_reg ?_); refine v_move ?_; refine v_move ?_; refine v_eqi ?_; refine v_move ?_
          rcases Bool.eq_false_or_eq_true (decide (v23.2 = y74)) with hb104 | hb104
          · have hF := bif_t hb104 hF; refine g_take hb104 (v_move ?_); refine g_take hb104 (v_move ?_); refine g_take hb104 (v_eqi ?_); refine v_pick hb104 ?_; refine v_move ?_
            rcases Bool.eq_false_or_eq_true (decide (v37.2 = y74)) with hb105 | hb105
            · have hF := bif_t hb105 hF; refine g_take hb105 (v_move ?_); refine g_take hb105 (v_len ?_); refine g_take hb105 (v_move ?_); refine g_take hb105 (v_len ?_); obtain ⟨q106, hF⟩ := ck_some hF; refine g_take hb105 (v_add q106 ?_); refine g_take hb105 (v_eqi ?_); refine v_pick hb105 ?_; refine v_move ?_
              rcases Bool.eq_false_or_eq_true (decide ((((v23.1).length : Int) + ((v37.1).length : Int)) = (0 : Int))) with hb107 | hb107
              · have hF := bif_t hb107 hF; refine g_take hb107 (v_call st (ct_wakes (h := _) (nx := _)) (fun n108 st => ?_)); refine v_pick hb107 ?_; refine v_move ?_; refine r_nil (th_n ?_); refine w_ret ?_; refine th_r ?_; obtain rfl := inj hF
                exact end_s st (Res.t gA Res.nil) rfl rfl
              · have hF := bif_f hb107 hF; refine g_skip hb107 ?_; refine v_pick' hb107 ?_; refine v_move ?_; refine r_nil (th_n ?_); refine w_ret ?_; refine th_r ?_; obtain rfl := inj hF
                exact end_s st (Res.t gA Res.nil) rfl rfl
            · have hF := bif_f hb105 hF; refine g_skip hb105 ?_; refine g_skip hb105 ?_; refine g_skip hb105 ?_; refine g_skip hb105 ?_; refine g_skip hb105 ?_; refine g_skip hb105 ?_; refine v_pick' hb105 ?_; refine v_move ?_; refine g_skip rfl ?_; refine v_pick' rfl ?_; refine v_move ?_; refine r_nil (th_n ?_); refine w_ret ?_; refine th_r ?_; obtain rfl := inj hF
              exact end_s st (Res.t gA Res.nil) rfl rfl
          · have hF := bif_f hb104 hF; refine g_skip hb104 ?_; refine g_skip hb104 ?_; refine g_skip hb104 ?_; refine v_pick' hb104 ?_; refine v_move ?_; refine g_skip rfl ?_; refine g_skip rfl ?_; refine g_skip rfl ?_; refine g_skip rfl ?_; refine g_skip rfl ?_; refine g_skip rfl ?_; refine v_pick' rfl ?_; refine v_move ?_; refine g_skip rfl ?_; refine v_pick' rfl ?_; refine v_move ?_; refine r_nil (th_n ?_); refine w_ret ?_; refine th_r ?_; obtain rfl := inj hF
            exact end_s st (Res.t gA Res.nil) rfl rfl
        · have hF := bif_f hb103 hF; refine w_skip (th_n ?_); obtain ⟨y127, hA128, hF⟩ := bnd_some hF; refine w_cutD (fun T ds133 h nx => ∃ u, y127 = (.inr u) ∧ ∃ (F133 : PH), ds133 = [] ∧ PH.le F77 F133 ∧ St n0 h0 F0 F133 h nx [.bx b1 [(i64 a0_0), (i64 a0_1), (i64 a0_2), (i64 a0_3), (.slice pa0_4 (a0_4).length ca0_4), (.slice pa0_5 (a0_5).length ca0_5), (i64 a0_6), (i64 a0_7), (i64 a0_8), (i64 a0_9)]] ∧ T.get 1 = some (i64 a1) ∧ T.get 2 = some (.ptr (some (b1, 0))) ∧ T.get 6 = some (.slice py28 (v23.1).length cy28) ∧ T.get 8 = some (.slice py44 (v37.1).length cy44) ∧ T.get 10 = some (.slice py53 (v45.1).length cy53)) ?_ (fun T ds133 h nx hp => ?_)
          · have hK129 := hF
            have hF := hA128; obtain ⟨y137, hA138, hF⟩ := bnd_some hF; refine w_cutD (fun T ds140 h nx => ∃ (F140 : PH), ds140 = [] ∧ PH.le F77 F140 ∧ St n0 h0 F0 F140 h nx [.bx b1 [(i64 a0_0), (i64 a0_1), (i64 a0_2), (i64 a0_3), (.slice pa0_4 (a0_4).length ca0_4), (.slice pa0_5 (a0_5).length ca0_5), (i64 a0_6), (i64 a0_7), (i64 a0_8), (i64 a0_9)]] ∧ T.get 1 = some (i64 a1) ∧ T.get 2 = some (.ptr (some (b1, 0))) ∧ T.get 6 = some (.slice py28 (v23.1).length cy28) ∧ T.get 8 = some (.slice py44 (v37.1).length cy44) ∧ T.get 10 = some (.slice py53 (v45.1).length cy53) ∧ T.get 91 = some (.bool y137)) ?_ (fun T ds140 h nx hp => ?_)
            · have hK139 := hF
              have hF := hA138; refine w_reg ?_; refine v_move ?_; refine v_nei ?_; refine v_move ?_
              rcases Bool.eq_false_or_eq_true (!(decide (v23.2 = (0 : Int)))) with hb141 | hb141
              · have hF := bif_t hb141 hF; refine g_skip hb141 ?_; refine g_skip hb141 ?_; refine v_pick hb141 ?_; refine v_move ?_; refine g_skip rfl ?_; refine g_skip rfl ?_; refine g_skip rfl ?_; refine g_skip rfl ?_; refine g_skip rfl ?_; refine v_pick rfl ?_; refine v_move ?_; refine g_skip rfl ?_; refine g_skip rfl ?_; refine g_skip rfl ?_; refine g_skip rfl ?_; refine g_skip rfl ?_; refine v_pick rfl ?_; refine r_nil ?_; obtain rfl := inj hF; refine thn ⟨rfl, ?_⟩; dsimp only
                exact ⟨F77, rfl, (PH.le.refl _), st, gA, gA, gA, gA, gA, gA⟩
              · have hF := bif_f hb141 hF; refine g_take hb141 (v_move ?_); refine g_take hb141 (v_nei ?_); refine v_pick' hb141 ?_; refine v_move ?_
                rcases Bool.eq_false_or_eq_true (!(decide (v37.2 = (0 : Int)))) with hb142 | hb142
                · have hF := bif_t hb142 hF; refine g_skip hb142 ?_; refine g_skip hb142 ?_; refine g_skip hb142 ?_; refine g_skip hb142 ?_; refine g_skip hb142 ?_; refine v_pick hb142 ?_; refine v_move ?_; refine g_skip rfl ?_; refine g_skip rfl ?_; refine g_skip rfl ?_; refine g_skip rfl ?_; refine g_skip rfl ?_; refine v_pick rfl ?_; refine r_nil ?_; obtain rfl := inj hF; refine thn ⟨rfl, ?_⟩; dsimp only
                  exact ⟨F77, rfl, (PH.le.refl _), st, gA, gA, gA, gA, gA, gA⟩
                · have hF := bif_f hb142 hF; refine g_take hb142 (v_move ?_); refine g_take hb142 (v_len ?_); refine g_take hb142 (v_move ?_); refine g_take hb142 (v_len ?_); refine g_take hb142 (v_nei ?_); refine v_pick' hb142 ?_; refine v_move ?_
                  rcases Bool.eq_false_or_eq_true (!(decide (((v23.1).length : Int) = ((v45.1).length : Int)))) with hb143 | hb143
                  · have hF := bif_t hb143 hF; refine g_skip hb143 ?_; refine g_skip hb143 ?_; refine g_skip hb143 ?_; refine g_skip hb143 ?_; refine g_skip hb143 ?_; refine v_pick hb143 ?_; refine r_nil ?_; obtain rfl := inj hF; refine thn ⟨rfl, ?_⟩; dsimp only
                    exact ⟨F77, rfl, (PH.le.refl _), st, gA, gA, gA, gA, gA, gA⟩
                  · have hF := bif_f hb143 hF; refine g_take hb143 (v_move ?_); refine g_take hb143 (v_len ?_); refine g_take hb143 (v_move ?_); refine g_take hb143 (v_len ?_); refine g_take hb143 (v_nei ?_); refine v_pick' hb143 ?_; refine r_nil ?_; obtain rfl := inj hF; refine thn ⟨rfl, ?_⟩; dsimp only
                    exact ⟨F77, rfl, (PH.le.refl _), st, gA, gA, gA, gA, gA, gA⟩
            · obtain ⟨F140, rfl, le140, st, t1, t2, t6, t8, t10, t91⟩ := hp
              have le144 := PH.le.trans le97 le140
              have le145 := PH.le.trans le98 le140
              have le146 := PH.le.trans le99 le140
              have le147 := PH.le.trans le100 le140
              have le148 := PH.le.trans le101 le140
              have le149 := PH.le.trans le102 le140
              have le150 := PH.le.trans le77 le140
              refine v_cond (fun hb151 => ?_) (fun hb151 => ?_)
              · have hF := bif_t hb151 hF; refine w_seq (w_reg ?_); refine v_move ?_; refine r_nil (th_n ?_); refine w_ret ?_; obtain rfl := inj hF; have hF := hK129; have hF := sel_l hF; refine th_r ?_; obtain rfl := inj hF
                exact end_s st (Res.t gA Res.nil) rfl rfl
              · have hF := bif_f hb151 hF; refine w_skip ?_; obtain rfl := inj hF; refine thn ⟨rfl, _, rfl, ?_⟩; dsimp only
                exact ⟨F140, rfl, le140, st, gA, gA, gA, gA, gA⟩
          · obtain ⟨w132, rfl, F133, rfl, le133, st, t1, t2, t6, t8, t10⟩ := hp; have hF := sel_r hF
            have le159 := PH.le.trans le97 le133
            have le160 := PH.le.trans le98 le133
            have le161 := PH.le.trans le99 le133
            have le162 := PH.le.trans le100 le133
            have le163 := PH.le.trans le101 le133
            have le164 := PH.le.trans le102 le133
            have le165 := PH.le.trans le77 le133
            refine w_seq ?_; refine w_seq (w_reg ?_); refine v_move ?_; refine r_nil (th_n ?_); refine w_block ?_; obtain ⟨y230, hy, hF⟩ := bnd_some hF; refine v_loopD (sf3_L1 N a0_0 a0_1 a0_2 a0_3 a0_4 a0_5 a0_6 a0_7 a0_8 a0_9 a1 v23 v37 v45) (fun x166 T ds167 h nx => ∃ (F167 : PH), ds167 = [] ∧ PH.le F133 F167 ∧ St n0 h0 F0 F167 h nx [.bx b1 [(i64 a0_0), (i64 a0_1), (i64 a0_2), (i64 a0_3), (.slice pa0_4 (a0_4).length ca0_4), (.slice pa0_5 (a0_5).length ca0_5), (i64 a0_6), (i64 a0_7), (i64 a0_8), (i64 a0_9)]] ∧ T.get 1 = some (i64 a1) ∧ T.get 2 = some (.ptr (some (b1, 0))) ∧ T.get 6 = some (.slice py28 (v23.1).length cy28) ∧ T.get 8 = some (.slice py44 (v37.1).length cy44) ∧ T.get 10 = some (.slice py53 (v45.1).length cy53) ∧ T.get 12 = some (i64 x166)) (fun y e a σ => (∃ u, y = (.inl u) ∧ e = .ret ∧ a.nt = 142 ∧ ∃ (F232 : PH), a.defers = [] ∧ PH.le F133 F232 ∧ St n0 h0 F0 F232 σ.h σ.nx [.bx b1 [(i64 a0_0), (i64 a0_1), (i64 a0_2), (i64 a0_3), (.slice pa0_4 (a0_4).length ca0_4), (.slice pa0_5 (a0_5).length ca0_5), (i64 a0_6), (i64 a0_7), (i64 a0_8), (i64 a0_9)]] ∧ a.tmps.get 4 = some (.bool false)) ∨ (∃ u, y = (.inr u) ∧ e = .exit 0 ∧ a.nt = 142 ∧ ∃ (F234 : PH), a.defers = [] ∧ PH.le F133 F234 ∧ St n0 h0 F0 F234 σ.h σ.nx [.bx b1 [(i64 a0_0), (i64 a0_1), (i64 a0_2), (i64 a0_3), (.slice pa0_4 (a0_4).length ca0_4), (.slice pa0_5 (a0_5).length ca0_5), (i64 a0_6), (i64 a0_7), (i64 a0_8), (i64 a0_9)]])) (fun x166 T ds167 h nx s hp hF => ?_) N _ y230 _ _ _ _ hy ⟨F133, rfl, (PH.le.refl _), st, gA, gA, gA, gA, gA, gA⟩ (fun e a σ hne hq => ?_)
            · obtain ⟨F167, rfl, le167, st, t1, t2, t6, t8, t10, t12⟩ := hp
              have le168 := PH.le.trans le159 le167
              have le169 := PH.le.trans le160 le167
              have le170 := PH.le.trans le161 le167
              have le171 := PH.le.trans le162 le167
              have le172 := PH.le.trans le163 le167
              have le173 := PH.le.trans le164 le167
              have le174 := PH.le.trans le165 le167
              have le175 := PH.le.trans le133 le167
              unfold sf3_L1 at hF; unfold L3w0; refine w_seq ?_; refine w_seq (w_reg ?_); refine v_move ?_; refine v_move ?_; refine v_len ?_; refine v_lss ?_; refine r_nil (th_n ?_); refine v_cond (fun hb235 => ?_) (fun hb235 => ?_)
              · have hF := bif_t hb235 hF; refine w_skip (th_n ?_); refine w_seq ?_; refine w_block ?_; refine w_seq ?_; refine w_drawV (Nat.le_trans hfl st.ext.le) (fun dw => ?_); refine y_pure st.d dw (fun hm vw => v_ldn (vs := [(i64 a0_0), (i64 a0_1), (i64 a0_2), (i64 a0_3), (.slice pa0_4 (a0_4).length ca0_4), (.slice pa0_5 (a0_5).length ca0_5), (i64 a0_6), (i64 a0_7), (i64 a0_8), (i64 a0_9)]) (vw.bx (st.at (i := 0) rfl)) rfl pr_nil) ?_; refine y_pure st.d dw (fun hm vw => v_move pr_nil) ?_; refine y_pure st.d dw (fun hm vw => v_move pr_nil) ?_; obtain ⟨n236, x236, z236, l236, g236, hF⟩ := ix_some hF; obtain ⟨b236, o236, s236, j236, r236, e236, f236, k236, ⟨_, _, rfl, rfl, rfl⟩⟩ := RowF.get ry53 g236
                refine y_pure st.d dw (fun hm vw => v_ixp e236 z236 l236 pr_nil) ?_; refine y_pure st.d dw (fun hm vw => v_ldn (vw.fz st (le174 _ _ f236)) k236 pr_nil) ?_; refine y_pure st.d dw (fun hm vw => v_ldn (vs := [(i64 a0_0), (i64 a0_1), (i64 a0_2), (i64 a0_3), (.slice pa0_4 (a0_4).length ca0_4), (.slice pa0_5 (a0_5).length ca0_5), (i64 a0_6), (i64 a0_7), (i64 a0_8), (i64 a0_9)]) (vw.bx (st.at (i := 0) rfl)) rfl pr_nil) ?_; obtain ⟨v237, e238, hF⟩ := bnd_some hF; refine y_flat st.d dw (fun hm vw => u_call (ct27 N e238 vw.d (vw.sub st) (RowF.mono le168 ra0_4) (RowF.mono le168 ra0_5)) (fun n' hn' => pf_nil hn')) (fun n239 hn' dw => ?_); refine y_pure st.d dw (fun hm vw => v_move pr_nil) ?_
                obtain ⟨v240, e241, hF⟩ := bnd_some hF; refine y_flat st.d dw (fun hm vw => u_call (ct26 N e241 vw.d (vw.sub st) (RowF.mono le168 ra0_4) (RowF.mono le168 ra0_5)) (fun n' hn' => pf_nil hn')) (fun n242 hn' dw => ?_); refine y_pure st.d dw (fun hm vw => v_ldn (vs := [(i64 a0_0), (i64 a0_1), (i64 a0_2), (i64 a0_3), (.slice pa0_4 (a0_4).length ca0_4), (.slice pa0_5 (a0_5).length ca0_5), (i64 a0_6), (i64 a0_7), (i64 a0_8), (i64 a0_9)]) (vw.bx (st.at (i := 0) rfl)) rfl pr_nil) ?_; refine y_pure st.d dw (fun hm vw => v_move pr_nil) ?_; obtain ⟨v243, e244, hF⟩ := bnd_some hF; refine y_flat st.d dw (fun hm vw => u_call (ct28 N e244 vw.d (vw.sub st) (RowF.mono le168 ra0_4) (RowF.mono le168 ra0_5)) (fun n' hn' => pf_nil hn')) (fun n245 hn' dw => ?_)
                refine y_lay st.d dw (fun hm vw => u_alloc pr_nil) (fun done dw => ?_); refine y_end st.d dw rfl (fun h246 ex vs => ?_)
                have st := St.laid st ex (Lay.cons (b := n245) (cs := [(i64 (0 : Int)), (i64 (0 : Int))]) (by have := dw.le; omega) (vs _ (List.mem_cons_self ..) _ _ (if_pos rfl)) (Lay.nil (by have := dw.le; omega)))
                refine v_st (cs' := [(i64 v240.1), (i64 v240.2)]) st 1 rfl rfl rfl rfl hfl (fun h247 st => ?_); refine v_move ?_; refine r_nil (th_n ?_); obtain ⟨y261, hA262, hF⟩ := bnd_some hF; refine w_cutD (fun T ds264 h nx => ∃ (F264 : PH), ds264 = [] ∧ PH.le F167 F264 ∧ St n0 h0 F0 F264 h nx [.bx b1 [(i64 a0_0), (i64 a0_1), (i64 a0_2), (i64 a0_3), (.slice pa0_4 (a0_4).length ca0_4), (.slice pa0_5 (a0_5).length ca0_5), (i64 a0_6), (i64 a0_7), (i64 a0_8), (i64 a0_9)], .bx n245 [(i64 v240.1), (i64 v240.2)]] ∧ T.get 1 = some (i64 a1) ∧ T.get 2 = some (.ptr (some (b1, 0))) ∧ T.get 6 = some (.slice py28 (v23.1).length cy28) ∧ T.get 8 = some (.slice py44 (v37.1).length cy44) ∧ T.get 10 = some (.slice py53 (v45.1).length cy53) ∧ T.get 12 = some (i64 x166) ∧ T.get 140 = some (.bool y261)) ?_ (fun T ds264 h nx hp => ?_)
                · have hK263 := hF
                  have hF := hA262; refine w_drawV (Nat.le_trans hfl st.ext.le) (fun dw => ?_); refine y_pure st.d dw (fun hm vw => v_move pr_nil) ?_; refine y_pure st.d dw (fun hm vw => v_move pr_nil) ?_; obtain ⟨n265, x265, z265, l265, g265, hF⟩ := ix_some hF; obtain ⟨b265, o265, s265, j265, r265, e265, f265, k265, ⟨_, _, rfl, rfl, rfl⟩⟩ := RowF.get ry28 g265; refine y_pure st.d dw (fun hm vw => v_ixp e265 z265 l265 pr_nil) ?_; refine y_pure st.d dw (fun hm vw => v_ldn (vw.fz st (le171 _ _ f265)) k265 pr_nil) ?_; refine y_pure st.d dw (fun hm vw => v_ldn (vs := [(i64 v240.1), (i64 v240.2)]) (vw.bx (st.at (i := 1) rfl)) rfl pr_nil) ?_; obtain ⟨v266, e267, hF⟩ := bnd_some hF; refine y_flat st.d dw (fun hm vw => u_call (ct29 N e267 vw.d (vw.sub st) ) (fun n' hn' => pf_nil hn')) (fun n268 hn' dw => ?_)
                  refine y_pure st.d dw (fun hm vw => v_ner (b := (x265.1 == v266.1 && (x265.2 == v266.2 && true))) rfl pr_nil) ?_; refine y_pure st.d dw (fun hm vw => v_move pr_nil) ?_
                  rcases Bool.eq_false_or_eq_true (!(x265.1 == v266.1 && (x265.2 == v266.2 && true))) with hb269 | hb269
                  · have hF := bif_t hb269 hF; refine y_pure st.d dw (fun hm vw => g_skip hb269 pr_nil) ?_; refine y_pure st.d dw (fun hm vw => g_skip hb269 pr_nil) ?_; refine y_pure st.d dw (fun hm vw => g_skip hb269 pr_nil) ?_; refine y_pure st.d dw (fun hm vw => g_skip hb269 pr_nil) ?_; refine y_pure st.d dw (fun hm vw => g_skip hb269 pr_nil) ?_; refine y_pure st.d dw (fun hm vw => g_skip hb269 pr_nil) ?_; refine y_pure st.d dw (fun hm vw => g_skip hb269 pr_nil) ?_; refine y_pure st.d dw (fun hm vw => g_skip hb269 pr_nil) ?_; refine y_pure st.d dw (fun hm vw => g_skip hb269 pr_nil) ?_; refine y_pure st.d dw (fun hm vw => g_skip hb269 pr_nil) ?_; refine y_pure st.d dw (fun hm vw => v_pick hb269 pr_nil) ?_
                    refine y_pure st.d dw (fun hm vw => v_move pr_nil) ?_; refine y_pure st.d dw (fun hm vw => g_skip rfl pr_nil) ?_; refine y_pure st.d dw (fun hm vw => g_skip rfl pr_nil) ?_; refine y_pure st.d dw (fun hm vw => g_skip rfl pr_nil) ?_; refine y_pure st.d dw (fun hm vw => g_skip rfl pr_nil) ?_; refine y_pure st.d dw (fun hm vw => g_skip rfl pr_nil) ?_; refine y_pure st.d dw (fun hm vw => g_skip rfl pr_nil) ?_; refine y_pure st.d dw (fun hm vw => g_skip rfl pr_nil) ?_; refine y_end st.d dw rfl (fun h270 ex vs => ?_)
                    have st := st.ext1 ex
                    refine g_skip rfl ?_; refine g_skip rfl ?_; refine g_skip rfl ?_; refine v_pick rfl ?_; refine r_nil ?_; obtain rfl := inj hF; refine thn ⟨rfl, ?_⟩; dsimp only
                    exact ⟨F167, rfl, (PH.le.refl _), st, gA, gA, gA, gA, gA, gA, gA⟩
                  · have hF := bif_f hb269 hF; refine y_pure st.d dw (fun hm vw => g_take hb269 (v_move pr_nil)) ?_; refine y_pure st.d dw (fun hm vw => g_take hb269 (v_move pr_nil)) ?_; obtain ⟨n271, x271, z271, l271, g271, hF⟩ := ix_some hF; obtain ⟨b271, o271, s271, j271, r271, e271, f271, k271, ⟨_, _, rfl, rfl, rfl⟩⟩ := RowF.get ry44 g271; refine y_pure st.d dw (fun hm vw => g_take hb269 (v_ixp e271 z271 l271 pr_nil)) ?_; refine y_pure st.d dw (fun hm vw => g_take hb269 (v_fa pr_nil)) ?_; refine y_pure st.d dw (fun hm vw => g_take hb269 (v_ld1 (vw.fz st (le173 _ _ f271)) (take_at (j := 0) k271 rfl) pr_nil)) ?_; refine y_pure st.d dw (fun hm vw => g_take hb269 (v_fa pr_nil)) ?_; refine y_pure st.d dw (fun hm vw => g_take hb269 (v_ld1 (vw.bx (st.at (i := 1) rfl)) rfl pr_nil)) ?_
                    refine y_pure st.d dw (fun hm vw => g_take hb269 (v_move pr_nil)) ?_; obtain ⟨q272, hF⟩ := ck_some hF; refine y_pure st.d dw (fun hm vw => g_take hb269 (v_sub q272 pr_nil)) ?_; refine y_pure st.d dw (fun hm vw => g_take hb269 (v_nei pr_nil)) ?_; refine y_pure st.d dw (fun hm vw => v_pick' hb269 pr_nil) ?_; refine y_pure st.d dw (fun hm vw => v_move pr_nil) ?_
                    rcases Bool.eq_false_or_eq_true (!(decide (x271.1 = (v240.1 - v243)))) with hb273 | hb273
                    · have hF := bif_t hb273 hF; refine y_pure st.d dw (fun hm vw => g_skip hb273 pr_nil) ?_; refine y_pure st.d dw (fun hm vw => g_skip hb273 pr_nil) ?_; refine y_pure st.d dw (fun hm vw => g_skip hb273 pr_nil) ?_; refine y_pure st.d dw (fun hm vw => g_skip hb273 pr_nil) ?_; refine y_pure st.d dw (fun hm vw => g_skip hb273 pr_nil) ?_; refine y_pure st.d dw (fun hm vw => g_skip hb273 pr_nil) ?_; refine y_pure st.d dw (fun hm vw => g_skip hb273 pr_nil) ?_; refine y_end st.d dw rfl (fun h274 ex vs => ?_)
                      have st := st.ext1 ex
                      refine g_skip hb273 ?_; refine g_skip hb273 ?_; refine g_skip hb273 ?_; refine v_pick hb273 ?_; refine r_nil ?_; obtain rfl := inj hF; refine thn ⟨rfl, ?_⟩; dsimp only
                      exact ⟨F167, rfl, (PH.le.refl _), st, gA, gA, gA, gA, gA, gA, gA⟩
                    · have hF := bif_f hb273 hF; refine y_pure st.d dw (fun hm vw => g_take hb273 (v_move pr_nil)) ?_; refine y_pure st.d dw (fun hm vw => g_take hb273 (v_move pr_nil)) ?_; obtain ⟨n275, x275, z275, l275, g275, hF⟩ := ix_some hF; obtain ⟨b275, o275, s275, j275, r275, e275, f275, k275, ⟨_, _, rfl, rfl, rfl⟩⟩ := RowF.get ry44 g275; refine y_pure st.d dw (fun hm vw => g_take hb273 (v_ixp e275 z275 l275 pr_nil)) ?_; refine y_pure st.d dw (fun hm vw => g_take hb273 (v_fa pr_nil)) ?_; refine y_pure st.d dw (fun hm vw => g_take hb273 (v_ld1 (vw.fz st (le173 _ _ f275)) (take_at (j := 1) k275 rfl) pr_nil)) ?_; refine y_pure st.d dw (fun hm vw => g_take hb273 (v_fa pr_nil)) ?_; refine y_pure st.d dw (fun hm vw => g_take hb273 (v_ld1 (vw.bx (st.at (i := 1) rfl)) rfl pr_nil)) ?_
                      refine y_end st.d dw rfl (fun h276 ex vs => ?_)
                      have st := st.ext1 ex
                      refine g_take hb273 (v_move ?_); obtain ⟨q277, hF⟩ := ck_some hF; refine g_take hb273 (v_sub q277 ?_); refine g_take hb273 (v_nei ?_); refine v_pick' hb273 ?_; refine r_nil ?_; obtain rfl := inj hF; refine thn ⟨rfl, ?_⟩; dsimp only
                      exact ⟨F167, rfl, (PH.le.refl _), st, gA, gA, gA, gA, gA, gA, gA⟩
                · obtain ⟨F264, rfl, le264, st, t1, t2, t6, t8, t10, t12, t140⟩ := hp
                  have le278 := PH.le.trans le168 le264
                  have le279 := PH.le.trans le169 le264
                  have le280 := PH.le.trans le170 le264
                  have le281 := PH.le.trans le171 le264
                  have le282 := PH.le.trans le172 le264
                  have le283 := PH.le.trans le173 le264
                  have le284 := PH.le.trans le174 le264
                  have le285 := PH.le.trans le175 le264
                  have le286 := PH.le.trans le167 le264
                  refine v_cond (fun hb287 => ?_) (fun hb287 => ?_)
                  · have hF := bif_t hb287 hF; refine w_seq (w_reg ?_); refine v_move ?_; refine r_nil (th_n ?_); refine w_ret ?_; refine ib_r ?_; refine th_r ?_; refine th_r ?_; refine ⟨_, (inj hF).symm, .inl ⟨_, rfl, rfl, rfl, ?_⟩⟩; dsimp only
                    exact ⟨F264, rfl, le286, (st.drop (by first | exact List.Sublist.refl _ | (repeat first | exact List.nil_sublist _ | refine List.Sublist.cons_cons _ ?_ | refine List.Sublist.cons _ ?_))), gA⟩
                  · have hF := bif_f hb287 hF; refine w_skip ?_; refine ib_n ?_; refine th_n ?_; refine w_reg ?_; refine v_move ?_; obtain ⟨q288, hF⟩ := ck_some hF; refine v_add q288 ?_; refine v_move ?_; refine r_nil ?_; refine thn ⟨_, (inj hF).symm, rfl, ?_⟩; dsimp only
                    exact ⟨F264, rfl, le286, (st.drop (by first | exact List.Sublist.refl _ | (repeat first | exact List.nil_sublist _ | refine List.Sublist.cons_cons _ ?_ | refine List.Sublist.cons _ ?_))), gA, gA, gA, gA, gA, gA⟩
              · have hF := bif_f hb235 hF; refine w_exit ?_; refine th_e ?_; refine th_e ?_; refine ⟨_, (inj hF).symm, .inr (⟨_, rfl, rfl, rfl, ?_⟩)⟩; dsimp only
                exact ⟨F167, rfl, le167, st⟩
            · rcases hq with hq | hq
              · obtain ⟨N9, T, ds232⟩ := a; obtain ⟨h297, n298⟩ := σ; obtain ⟨w231, rfl, rfl, e1, F232, e2, le232, st, t4⟩ := hq
                dsimp only at e1 e2
                subst e1
                subst e2
                dsimp only at st t4
                have le289 := PH.le.trans le159 le232
                have le290 := PH.le.trans le160 le232
                have le291 := PH.le.trans le161 le232
                have le292 := PH.le.trans le162 le232
                have le293 := PH.le.trans le163 le232
                have le294 := PH.le.trans le164 le232
                have le295 := PH.le.trans le165 le232
                have le296 := PH.le.trans le133 le232
                have hF := sel_l hF; refine ib_r ?_; refine th_r ?_; obtain rfl := inj hF
                exact end_s st (Res.t gA Res.nil) rfl rfl
              · obtain ⟨N9, T, ds234⟩ := a; obtain ⟨h307, n308⟩ := σ; obtain ⟨w233, rfl, rfl, e1, F234, e2, le234, st⟩ := hq
                dsimp only at e1 e2
                subst e1
                subst e2
                dsimp only at st
                have le299 := PH.le.trans le159 le234
                have le300 := PH.le.trans le160 le234
                have le301 := PH.le.trans le161 le234
                have le302 := PH.le.trans le162 le234
                have le303 := PH.le.trans le163 le234
                have le304 := PH.le.trans le164 le234
                have le305 := PH.le.trans le165 le234
                have le306 := PH.le.trans le133 le234
                have hF := sel_r hF; refine ib_e ?_; refine th_n ?_; refine w_seq (w_reg ?_); refine v_call st (ct_wakes (h := _) (nx := _)) (fun n309 st => ?_); refine v_move ?_; refine r_nil (th_n ?_); refine w_ret ?_; obtain rfl := inj hF
                exact end_s st (Res.t gA Res.nil) rfl rfl
end Go.Hx.V

namespace Go.Hx.V
open Go.Hx
set_option maxRecDepth 20000
set_option maxHeartbeats 4000000
variable {fl : Nat} {h0 : Tr HBlk} {n0 : Nat} {F0 : PH}
attribute [local irreducible] W R C thenH inBlockH Tr.get Tr.set lo ck bnd ix iter
end Go.Hx.V

namespace Go.Hx.V
open Go.Hx
set_option maxRecDepth 20000
set_option maxHeartbeats 4000000
variable {fl : Nat} {h0 : Tr HBlk} {n0 : Nat} {F0 : PH}
attribute [local irreducible] W R C thenH inBlockH Tr.get Tr.set lo ck bnd ix iter
end Go.Hx.V

namespace Go.Hx.V
open Go.Hx
set_option maxRecDepth 20000
set_option maxHeartbeats 4000000
variable {fl : Nat} {h0 : Tr HBlk} {n0 : Nat} {F0 : PH}
attribute [local irreducible] W R C thenH inBlockH Tr.get Tr.set lo ck bnd ix iter
end Go.Hx.V

namespace Go.Hx.V
open Go.Hx
set_option maxRecDepth 20000
set_option maxHeartbeats 4000000
variable {fl : Nat} {h0 : Tr HBlk} {n0 : Nat} {F0 : PH}
attribute [local irreducible] W R C thenH inBlockH Tr.get Tr.set lo ck bnd ix iter
end Go.Hx.V


namespace Go.Hx.V
open Go.Hx
theorem iter_ind {α β : Type} {step : α → Option (α ⊕ β)} (P : α → Prop) (m : α → Nat) (Y : β → Prop)
    (h : ∀ x, P x → (∃ x', step x = some (.inl x') ∧ P x' ∧ m x' < m x) ∨ ∃ y, step x = some (.inr y) ∧ Y y) : ∀ (N : Nat) (x : α), P x → m x < N → ∃ y, iter step N x = some y ∧ Y y
  | 0, x, hp, hm => by omega
  | N + 1, x, hp, hm => by
    unfold iter
    rcases h x hp with ⟨x', e, hp', hm'⟩ | ⟨y, e, hy⟩
    · rw [e]; exact iter_ind P m Y h N x' hp' (by omega)
    · rw [e]; exact ⟨y, rfl, hy⟩
theorem iter_run {α β : Type} {step : α → Option (α ⊕ β)} (s : Nat → α) (y : β) : ∀ (n i N : Nat), (∀ j, i ≤ j → j < i + n → step (s j) = some (.inl (s (j + 1)))) → step (s (i + n)) = some (.inr y) → n < N → iter step N (s i) = some y
  | 0, i, N, hs, he, hN => by
    obtain ⟨N, rfl⟩ : ∃ k, N = k + 1 := ⟨N - 1, by omega⟩
    unfold iter; rw [Nat.add_zero] at he; rw [he]; rfl
  | n + 1, i, N, hs, he, hN => by
    obtain ⟨N, rfl⟩ : ∃ k, N = k + 1 := ⟨N - 1, by omega⟩
    unfold iter
    rw [hs i (by omega) (by omega)]
    exact iter_run s y n (i + 1) N (fun j h1 h2 => hs j (by omega) (by omega)) (by rw [show i + 1 + n = i + (n + 1) by omega]; exact he) (by omega)
theorem iter_up {α β : Type} {step : α → Option (α ⊕ β)} {x : α} {N : Nat} (s : Nat → α) (n : Nat) (y : β) (hx : x = s 0) (hs : ∀ j, j < n → step (s j) = some (.inl (s (j + 1)))) (he : step (s n) = some (.inr y)) (hN : n < N) : iter step N x = some y := by
  subst hx
  exact iter_run s y n 0 N (fun j _ h2 => hs j (by omega)) (by rw [Nat.zero_add]; exact he) hN
theorem iter_all {α β : Type} {step : α → Option (α ⊕ β)} {x : α} {N : Nat} (s : Nat → α) (n : Nat) (p : Nat → Prop) [DecidablePred p] (good bad : β) (hx : x = s 0) (hs : ∀ j, j < n → p j → step (s j) = some (.inl (s (j + 1)))) (hf : ∀ j, j < n → ¬ p j → step (s j) = some (.inr bad)) (he : step (s n) = some (.inr good)) (hN : n < N) :
    ((∀ j, j < n → p j) ∧ iter step N x = some good) ∨ (¬ (∀ j, j < n → p j) ∧ iter step N x = some bad) := by
  by_cases h : ∀ j, j < n → p j
  · exact .inl ⟨h, iter_up s n good hx (fun j hj => hs j hj (h j hj)) he hN⟩
  · refine .inr ⟨h, ?_⟩
    have h1 : ∃ j, j < n ∧ ¬ p j := by
      refine Classical.byContradiction fun hc => h fun j hj => Classical.byContradiction fun hp => hc ⟨j, hj, hp⟩
    -- the first one
    obtain ⟨j, hj, hp, hmin⟩ : ∃ j, j < n ∧ ¬ p j ∧ ∀ i, i < j → p i := by
      obtain ⟨j, hj⟩ := h1
      induction j using Nat.strongRecOn with
      | ind j ih =>
        by_cases g : ∀ i, i < j → p i
        · exact ⟨j, hj.1, hj.2, g⟩
        · have : ∃ i, i < j ∧ ¬ p i := Classical.byContradiction fun hc => g fun i hi => Classical.byContradiction fun hp => hc ⟨i, hi, hp⟩
          obtain ⟨i, hi, hpi⟩ := this
          exact ih i hi ⟨by omega, hpi⟩
    exact iter_up s j bad hx (fun i hi => hs i (by omega) (hmin i hi)) (hf j hj hp) (by omega)
theorem ix_at {α β : Type} {l : List α} {j : Int} {n : Nat} {x : α} {k : α → Option β} (hj : j = n) (h : l[n]? = some x) : ix l j k = k x := by
  subst hj; exact ix_pos h
theorem ix_0 {α β : Type} {l : List α} {x : α} {k : α → Option β} (h : l[0]? = some x) : ix l (0 : Int) k = k x := ix_at (n := 0) rfl h
theorem lt_some {α : Type} {l : List α} {n : Nat} (h : n < l.length) : l[n]? = some l[n] := List.getElem?_eq_getElem h
theorem some_lt {α : Type} {l : List α} {n : Nat} {x : α} (h : l[n]? = some x) : n < l.length := by
  rcases Nat.lt_or_ge n l.length with g | g
  · exact g
  · rw [List.getElem?_eq_none g] at h; cases h
theorem take_succ' {α : Type} {l : List α} {n : Nat} {x : α} (h : l[n]? = some x) : l.take (n + 1) = l.take n ++ [x] := by
  rw [List.take_add_one, h]; rfl
end Go.Hx.V

namespace Go.Hx.V
open Go.Hx
def lI (T f g m : Int) (x y : Int × (Nat → Int)) : Option ((Int × (Nat → Int)) ⊕ (Nat → Int)) :=
  (bif (decide (y.1 < T)) then (ck (0 ≤ g ∧ g < 13) ((ck (0 ≤ y.1 ∧ y.1 < 13) ((ck (rng (((x.2 (((Int.toNat x.1) * 13) + (Int.toNat f))) + m) + (y.2 (((Int.toNat g) * 13) + (Int.toNat y.1))))) ((ck (0 ≤ x.1 ∧ x.1 < 13) ((ck (0 ≤ y.1 ∧ y.1 < 13) ((bif (decide ((((x.2 (((Int.toNat x.1) * 13) + (Int.toNat f))) + m) + (y.2 (((Int.toNat g) * 13) + (Int.toNat y.1)))) < (y.2 (((Int.toNat x.1) * 13) + (Int.toNat y.1))))) then (ck (0 ≤ x.1 ∧ x.1 < 13) ((ck (0 ≤ y.1 ∧ y.1 < 13) ((ck (rng (y.1 + (1 : Int))) (some (.inl ((y.1 + (1 : Int)), (ups y.2 (((Int.toNat x.1) * 13) + (Int.toNat y.1)) (((x.2 (((Int.toNat x.1) * 13) + (Int.toNat f))) + m) + (y.2 (((Int.toNat g) * 13) + (Int.toNat y.1))))))))))))) else (ck (rng (y.1 + (1 : Int))) (some (.inl ((y.1 + (1 : Int)), y.2))))))))))))))) else some (.inr y.2))
def lO (N : Nat) (T f g m : Int) (x : Int × (Nat → Int)) : Option ((Int × (Nat → Int)) ⊕ (Nat → Int)) :=
  (bif (decide (x.1 < T)) then (ck (0 ≤ x.1 ∧ x.1 < 13) ((ck (0 ≤ f ∧ f < 13) ((ck (rng ((x.2 (((Int.toNat x.1) * 13) + (Int.toNat f))) + m)) ((ck (0 ≤ x.1 ∧ x.1 < 13) ((ck (0 ≤ g ∧ g < 13) ((bif (decide ((x.2 (((Int.toNat x.1) * 13) + (Int.toNat g))) ≤ ((x.2 (((Int.toNat x.1) * 13) + (Int.toNat f))) + m))) then (ck (rng (x.1 + (1 : Int))) (some (.inl ((x.1 + (1 : Int)), x.2)))) else bnd (iter (lI T f g m x) N ((0 : Int), x.2)) (fun y133 => (ck (rng (x.1 + (1 : Int))) (some (.inl ((x.1 + (1 : Int)), y133)))))))))))))))) else some (.inr x.2))
theorem l96_2 (N : Nat) (T f g m : Int) : sf154_L2 N T f g m = lO N T f g m := rfl
theorem l96_4 (N : Nat) (T f g m : Int) : sf154_L4 N T f g m = lO N T (g + 1) f ((-m) - 1) := rfl
theorem l97_6 (N : Nat) (n t : Int) : sf153_L6 N n t = lO N (n + 1) 0 n t := rfl
theorem l97_8 (N : Nat) (n t : Int) : sf153_L8 N n t = lO N (n + 1) n 0 (-t) := rfl
theorem toN (a : Nat) : Int.toNat (a : Int) = a := Int.toNat_natCast a
theorem dv {a b : Nat} (h : b < 13) : (a * 13 + b) / 13 = a := by omega
theorem md {a b : Nat} (h : b < 13) : (a * 13 + b) % 13 = b := by omega
def rowR (i f g : Nat) (m : Int) (F : Nat → Int) (j : Nat) : Nat → Int := fun q => if q / 13 = i ∧ q % 13 < j then min (F q) (F (i * 13 + f) + m + F (g * 13 + q % 13)) else F q
theorem lI_run {n i f g N : Nat} {m : Int} {F : Nat → Int} (hn : n ≤ 12) (hi : i ≤ n) (hf : f ≤ n) (hg : g ≤ n) (hne : g ≠ i) (hb : ∀ j, j ≤ n → rng (F (i * 13 + f) + m + F (g * 13 + j))) (hN : n + 1 < N) :
    iter (lI ((n : Int) + 1) f g m ((i : Int), F)) N ((0 : Int), F) = some (rowR i f g m F (n + 1)) := by
  refine iter_up (fun j => ((j : Int), rowR i f g m F j)) (n + 1) _ ?_ (fun j hj => ?_) ?_ hN
  · refine Prod.ext rfl ?_
    funext q
    unfold rowR
    dsimp only
    rw [if_neg (by omega)]
  · have e1 : rowR i f g m F j (g * 13 + j) = F (g * 13 + j) := by unfold rowR; rw [if_neg (by omega)]
    have e2 : rowR i f g m F j (i * 13 + j) = F (i * 13 + j) := by unfold rowR; rw [if_neg (by omega)]
    unfold lI
    simp only [toN]
    rw [show decide ((j : Int) < (n : Int) + 1) = true from decide_eq_true (by omega), cond_true, ck_pos (by omega), ck_pos (by omega), e1, e2, ck_pos (hb j (by omega)), ck_pos (by omega), ck_pos (by omega)]
    have hr : rng ((j : Int) + 1) := by unfold rng; omega
    by_cases hc : F (i * 13 + f) + m + F (g * 13 + j) < F (i * 13 + j)
    · rw [decide_eq_true hc, cond_true, ck_pos (by omega), ck_pos (by omega), ck_pos hr]
      congr 3
      funext q
      unfold ups rowR
      by_cases hq : q = i * 13 + j
      · subst hq
        rw [if_pos rfl, if_pos (by omega), md (by omega)]; omega
      · rw [if_neg hq]
        by_cases h1 : q / 13 = i ∧ q % 13 < j
        · rw [if_pos h1, if_pos (by omega)]
        · rw [if_neg h1, if_neg (by omega)]
    · rw [decide_eq_false hc, cond_false, ck_pos hr]
      congr 3
      funext q
      unfold rowR
      by_cases hq : q = i * 13 + j
      · subst hq
        rw [if_neg (by omega), if_pos (by omega), md (by omega)]; omega
      · by_cases h1 : q / 13 = i ∧ q % 13 < j
        · rw [if_pos h1, if_pos (by omega)]
        · rw [if_neg h1, if_neg (by omega)]
  · unfold lI
    dsimp only
    rw [show decide (((n + 1 : Nat) : Int) < (n : Int) + 1) = false from decide_eq_false (by omega), cond_false]
structure Gd (n : Nat) (F : Nat → Int) : Prop where
  tri : ∀ i j k, i ≤ n → j ≤ n → k ≤ n → F (i * 13 + k) ≤ F (i * 13 + j) + F (j * 13 + k)
  dg : ∀ i, i ≤ n → F (i * 13 + i) = 0
  ub : ∀ i j, i ≤ n → j ≤ n → F (i * 13 + j) ≤ 4000
theorem Gd.lb {n : Nat} {F : Nat → Int} (h : Gd n F) {i j : Nat} (hi : i ≤ n) (hj : j ≤ n) : -4000 ≤ F (i * 13 + j) := by
  have := h.tri i j i hi hj hi
  have := h.dg i hi
  have := h.ub j i hj hi
  omega
def rowS (n f g : Nat) (m : Int) (F : Nat → Int) (k : Nat) : Nat → Int := fun q => if q / 13 < k ∧ q % 13 ≤ n then min (F q) (F (q / 13 * 13 + f) + m + F (g * 13 + q % 13)) else F q
theorem lO_run {n f g N : Nat} {m : Int} {F : Nat → Int} (hn : n ≤ 12) (hf : f ≤ n) (hg : g ≤ n) (h : Gd n F) (hm : -1000000 ≤ m ∧ m ≤ 1000000) (hc : 0 ≤ m + F (g * 13 + f)) (hN : n + 1 < N) :
    iter (lO N ((n : Int) + 1) f g m) N ((0 : Int), F) = some (rowS n f g m F (n + 1)) := by
  refine iter_up (fun k => ((k : Int), rowS n f g m F k)) (n + 1) _ ?_ (fun k hk => ?_) ?_ hN
  · refine Prod.ext rfl ?_
    funext q
    unfold rowS
    dsimp only
    rw [if_neg (by omega)]
  · have e1 : ∀ j, j ≤ n → rowS n f g m F k (k * 13 + j) = F (k * 13 + j) := fun j hj => by unfold rowS; rw [if_neg (by omega)]
    have e2 : ∀ j, j ≤ n → rowS n f g m F k (g * 13 + j) = F (g * 13 + j) := fun j hj => by
      unfold rowS
      split
      · rw [dv (by omega), md (by omega)]; omega
      · rfl
    have b1 := h.ub k f (by omega) hf
    have b2 := h.lb (i := k) (j := f) (by omega) hf
    unfold lO
    simp only [toN]
    rw [show decide ((k : Int) < (n : Int) + 1) = true from decide_eq_true (by omega), cond_true, ck_pos (by omega), ck_pos (by omega), e1 f hf, e1 g hg, ck_pos (by unfold rng; omega), ck_pos (by omega), ck_pos (by omega)]
    have hr : rng ((k : Int) + 1) := by unfold rng; omega
    by_cases hs : F (k * 13 + g) ≤ F (k * 13 + f) + m
    · rw [decide_eq_true hs, cond_true, ck_pos hr]
      congr 3
      funext q
      unfold rowS
      by_cases h1 : q / 13 < k ∧ q % 13 ≤ n
      · rw [if_pos h1, if_pos (by omega)]
      · rw [if_neg h1]
        by_cases h2 : q / 13 = k ∧ q % 13 ≤ n
        · rw [if_pos (by omega)]
          have t := h.tri k g (q % 13) (by omega) hg h2.2
          rw [h2.1]
          have e : F q = F (k * 13 + q % 13) := congrArg F (by omega)
          rw [e]; omega
        · rw [if_neg (by omega)]
    · have hne : g ≠ k := fun e => by
        subst e
        have := h.dg g hg
        omega
      rw [decide_eq_false hs, cond_false, lI_run hn (by omega) hf hg hne (fun j hj => by
        rw [e1 f hf, e2 j hj]
        have := h.ub g j hg hj
        have := h.lb (i := g) (j := j) hg hj
        unfold rng; omega) hN, bnd_ret, ck_pos hr]
      congr 3
      funext q
      unfold rowR
      by_cases h2 : q / 13 = k ∧ q % 13 < n + 1
      · rw [if_pos h2, e1 f hf, e2 (q % 13) (by omega)]
        unfold rowS
        rw [if_neg (by omega), if_pos (by omega), h2.1]
      · rw [if_neg h2]
        unfold rowS
        by_cases h1 : q / 13 < k ∧ q % 13 ≤ n
        · rw [if_pos h1, if_pos (by omega)]
        · rw [if_neg h1, if_neg (by omega)]
  · unfold lO
    dsimp only
    rw [show decide (((n + 1 : Nat) : Int) < (n : Int) + 1) = false from decide_eq_false (by omega), cond_false]
theorem s21 {N : Nat} {a b c d : Int} : sf59 N a b c d = some (a, b, c, d) := rfl
theorem s37 {N : Nat} {a b c : Int} : sf98 N a b c = some (decide (b ≤ a ∧ a ≤ c)) := by
  unfold sf98
  by_cases h : b ≤ a
  · rw [decide_eq_true h, cond_true]; simp [h]
  · rw [decide_eq_false h, cond_false]; simp [h]
theorem s48 {N : Nat} {p q a b : Int} : sf124 N p q a b = some (decide (a ≤ p ∧ p ≤ q ∧ q ≤ b)) := by
  unfold sf124
  rw [s37, bnd_ret]
  by_cases h : a ≤ p ∧ p ≤ q
  · rw [decide_eq_true h, cond_true]; simp [h]
  · rw [decide_eq_false h, cond_false]
    congr 1
    exact (decide_eq_false fun h' => h ⟨h'.1, h'.2.1⟩).symm
theorem s83 {N : Nat} {p q a b : Int} : sf169 N p q a b = some (decide (a ≤ p ∧ p ≤ q ∧ q ≤ b)) := by
  unfold sf169
  by_cases h : a ≤ p <;> by_cases h2 : p ≤ q <;> simp [h, h2]
theorem s66 {N : Nat} {p q x : Int} : sf180 N p q x = some (decide (p ≤ x ∧ x ≤ q)) := by
  unfold sf180
  by_cases h : p ≤ x <;> simp [h]
def TubeOk (n t lo hi : Int) : Prop := 1 ≤ n ∧ n ≤ 10 ∧ (1 ≤ lo ∧ lo ≤ hi ∧ hi ≤ 200) ∧ 1 ≤ t ∧ t ≤ 2000 ∧ n * lo ≤ t ∧ t ≤ n * hi
instance {n t lo hi : Int} : Decidable (TubeOk n t lo hi) := by unfold TubeOk; infer_instance
theorem prod_b {n a : Int} (h1 : 1 ≤ n) (h2 : n ≤ 10) (h3 : 1 ≤ a) (h4 : a ≤ 200) : 1 ≤ n * a ∧ n * a ≤ 2000 := by
  have q1 : 1 * a ≤ n * a := Int.mul_le_mul_of_nonneg_right h1 (by omega)
  have q2 : n * a ≤ 10 * a := Int.mul_le_mul_of_nonneg_right h2 (by omega)
  omega
theorem s25 {N : Nat} {n t lo hi : Int} : sf123 N n t lo hi = some (decide (TubeOk n t lo hi)) := by
  unfold sf123
  rw [s37, bnd_ret]
  by_cases h1 : 1 ≤ n ∧ n ≤ 10
  · rw [decide_eq_true h1, cond_true, s48, bnd_ret]
    by_cases h2 : 1 ≤ lo ∧ lo ≤ hi ∧ hi ≤ 200
    · rw [decide_eq_true h2, cond_true, s37, bnd_ret]
      by_cases h3 : 1 ≤ t ∧ t ≤ 2000
      · have b1 := prod_b (a := lo) h1.1 h1.2 (by omega) (by omega)
        have b2 := prod_b (a := hi) h1.1 h1.2 (by omega) (by omega)
        rw [decide_eq_true h3, cond_true, ck_pos (by unfold rng; omega), ck_pos (by unfold rng; omega), s37, bnd_ret]
        congr 1
        by_cases h4 : n * lo ≤ t ∧ t ≤ n * hi
        · rw [decide_eq_true h4]; exact (decide_eq_true ⟨h1.1, h1.2, h2, h3.1, h3.2, h4⟩).symm
        · rw [decide_eq_false h4]; exact (decide_eq_false fun q => h4 q.2.2.2.2.2).symm
      · rw [decide_eq_false h3, cond_false]
        congr 1
        exact (decide_eq_false fun q => h3 ⟨q.2.2.2.1, q.2.2.2.2.1⟩).symm
    · rw [decide_eq_false h2, cond_false]
      congr 1
      exact (decide_eq_false fun q => h2 q.2.2.1).symm
  · rw [decide_eq_false h1, cond_false]
    congr 1
    exact (decide_eq_false fun q => h1 ⟨q.1, q.2.1⟩).symm
theorem s23 {N : Nat} {l : List (Int × Int × Int × Int)} (h : l.length ≤ 100) (hN : 1000 ≤ N) : sf60 N l = some l := by
  unfold sf60
  have e : iter (sf60_L1 N l) N (([] : List (Int × Int × Int × Int)), (0 : Int)) = some l := by
    refine iter_up (fun j => (l.take j, (j : Int))) l.length l rfl (fun j hj => ?_) ?_ (by omega)
    · obtain ⟨z, hz⟩ : ∃ z, l[j]? = some z := ⟨_, lt_some hj⟩
      unfold sf60_L1
      dsimp only
      rw [decide_eq_true (by omega), cond_true, ix_at rfl hz, ix_at rfl hz, ix_at rfl hz]
      show bnd (some (z.2.2.1, z.2.2.2)) _ = _
      rw [bnd_ret, ck_pos (by rw [List.length_take]; omega), ck_pos (by unfold rng; omega), take_succ' hz]
      rfl
    · unfold sf60_L1
      dsimp only
      rw [decide_eq_false (by omega), cond_false, List.take_length]
  rw [e, bnd_ret]
theorem s63 {N : Nat} {n t lo hi : Int} : sf168 N n t lo hi = some (decide (TubeOk n t lo hi)) := by
  unfold sf168
  by_cases h1 : n < 1
  · rw [decide_eq_true h1, cond_true, bnd_ret, cond_true, bnd_ret]
    show some false = _
    congr 1
    exact (decide_eq_false fun q => by have := q.1; omega).symm
  rw [decide_eq_false h1, cond_false]
  by_cases h2 : 10 < n
  · rw [decide_eq_true h2, cond_true, bnd_ret, cond_true, bnd_ret]
    show some false = _
    congr 1
    exact (decide_eq_false fun q => by have := q.2.1; omega).symm
  rw [decide_eq_false h2, cond_false, s83, bnd_ret]
  by_cases h3 : 1 ≤ lo ∧ lo ≤ hi ∧ hi ≤ 200
  · have b1 := prod_b (n := n) (a := lo) (by omega) (by omega) (by omega) (by omega)
    have b2 := prod_b (n := n) (a := hi) (by omega) (by omega) (by omega) (by omega)
    rw [decide_eq_true h3, bnd_ret]
    show ck _ _ = _
    rw [ck_pos (by unfold rng; omega), ck_pos (by unfold rng; omega)]
    by_cases h4 : t ≤ 2000
    · rw [decide_eq_true h4, cond_true, s66, bnd_ret]
      congr 1
      by_cases h5 : n * lo ≤ t ∧ t ≤ n * hi
      · rw [decide_eq_true h5]; exact (decide_eq_true ⟨by omega, by omega, h3, by omega, h4, h5⟩).symm
      · rw [decide_eq_false h5]; exact (decide_eq_false fun q => h5 q.2.2.2.2.2).symm
    · rw [decide_eq_false h4, cond_false]
      congr 1
      exact (decide_eq_false fun q => h4 q.2.2.2.2.1).symm
  · rw [decide_eq_false h3, bnd_ret]
    show some false = _
    congr 1
    exact (decide_eq_false fun q => h3 q.2.2.1).symm
theorem s20 {N : Nat} {n t lo hi : Int} : sf150 N n t lo hi = some (if TubeOk n t lo hi then 0 else 1) := by
  unfold sf150
  rw [s63, bnd_ret]
  by_cases h : TubeOk n t lo hi
  · rw [decide_eq_true h, if_pos h]; rfl
  · rw [decide_eq_false h, if_neg h]; rfl
def RdOk' (n : Int) (r : Int × Int × Int × Int) : Prop := (0 ≤ r.1 ∧ r.1 < n) ∧ (r.1 ≤ r.2.1 ∧ r.2.1 ≤ n) ∧ 0 ≤ r.2.2.1 ∧ r.2.2.1 ≤ r.2.2.2 ∧ r.2.2.2 ≤ 2000
instance {n : Int} {r : Int × Int × Int × Int} : Decidable (RdOk' n r) := by unfold RdOk'; infer_instance
theorem s86 {N : Nat} {n t lo hi : Int} {r : Int × Int × Int × Int} : sf152 N n t lo hi r.1 r.2.1 r.2.2.1 r.2.2.2 = some (decide (RdOk' n r)) := by
  unfold sf152
  rw [s83, bnd_ret]
  by_cases h1 : 0 ≤ r.1
  · by_cases h2 : r.1 < n
    · by_cases h3 : r.1 ≤ r.2.1
      · by_cases h4 : r.2.1 ≤ n
        · rw [decide_eq_true h1, decide_eq_true h2, decide_eq_true h3, decide_eq_true h4, cond_true, cond_true, cond_true, cond_true]
          congr 1
          by_cases h5 : 0 ≤ r.2.2.1 ∧ r.2.2.1 ≤ r.2.2.2 ∧ r.2.2.2 ≤ 2000
          · rw [decide_eq_true h5]; exact (decide_eq_true ⟨⟨h1, h2⟩, ⟨h3, h4⟩, h5⟩).symm
          · rw [decide_eq_false h5]; exact (decide_eq_false fun q => h5 q.2.2).symm
        · rw [decide_eq_true h1, decide_eq_true h2, decide_eq_true h3, decide_eq_false h4, cond_true, cond_true, cond_true, cond_false]
          congr 1; exact (decide_eq_false fun q => h4 q.2.1.2).symm
      · rw [decide_eq_true h1, decide_eq_true h2, decide_eq_false h3, cond_true, cond_true, cond_false]
        congr 1; exact (decide_eq_false fun q => h3 q.2.1.1).symm
    · rw [decide_eq_true h1, decide_eq_false h2, cond_true, cond_false]
      congr 1; exact (decide_eq_false fun q => h2 q.1.2).symm
  · rw [decide_eq_false h1, cond_false]
    congr 1; exact (decide_eq_false fun q => h1 q.1.1).symm
def AllP {α : Type} (p : α → Prop) (l : List α) : Prop := ∀ x, x ∈ l → p x
theorem all_loopE {α ε : Type} {bad : ε} {step : Int → Option (Int ⊕ (ε ⊕ Unit))} {l : List α} {p : α → Prop} [DecidablePred p] {N : Nat} (hN : l.length < N)
    (hs : ∀ (j : Nat) z, l[j]? = some z → p z → step (j : Int) = some (.inl ((j : Int) + 1)))
    (hf : ∀ (j : Nat) z, l[j]? = some z → ¬ p z → step (j : Int) = some (.inr (.inl bad)))
    (he : step (l.length : Int) = some (.inr (.inr ()))) : (AllP p l ∧ iter step N 0 = some (.inr ())) ∨ (¬ AllP p l ∧ iter step N 0 = some (.inl bad)) := by
  have H : ((∀ j, j < l.length → ∀ z, l[j]? = some z → p z) ∧ iter step N (0 : Int) = some (.inr ())) ∨ (¬ (∀ j, j < l.length → ∀ z, l[j]? = some z → p z) ∧ iter step N (0 : Int) = some (.inl bad)) := by
    haveI : DecidablePred fun (j : Nat) => ∀ z, l[j]? = some z → p z := fun j => Classical.propDecidable _
    refine iter_all (fun j => (j : Int)) l.length (fun j => ∀ z, l[j]? = some z → p z) (Sum.inr () : ε ⊕ Unit) (Sum.inl bad : ε ⊕ Unit) rfl (fun j hj hp => ?_) (fun j hj hp => ?_) he hN
    · obtain ⟨z, hz⟩ : ∃ z, l[j]? = some z := ⟨_, lt_some hj⟩
      exact hs j z hz (hp z hz)
    · obtain ⟨z, hz⟩ : ∃ z, l[j]? = some z := ⟨_, lt_some hj⟩
      exact hf j z hz fun q => hp fun z' hz' => by rw [hz] at hz'; cases hz'; exact q
  rcases H with ⟨h1, h2⟩ | ⟨h1, h2⟩
  · refine .inl ⟨fun x hx => ?_, h2⟩
    obtain ⟨j, hj, rfl⟩ := List.getElem_of_mem hx
    exact h1 j hj _ (lt_some hj)
  · exact .inr ⟨fun q => h1 fun j hj z hz => q z (List.mem_of_getElem? hz), h2⟩
instance {α : Type} {p : α → Prop} [DecidablePred p] {l : List α} : Decidable (AllP p l) := inferInstanceAs (Decidable (∀ x, x ∈ l → p x))
theorem s68 {N : Nat} {n t lo hi : Int} {l : List (Int × Int × Int × Int)} (h : l.length ≤ 100) (hN : 1000 ≤ N) : sf151 N l n t lo hi = some (decide (AllP (RdOk' n) l)) := by
  unfold sf151
  rcases all_loopE (step := sf151_L1 N l n t lo hi) (l := l) (p := RdOk' n) (N := N) (by omega) (by
      intro j z hz hp
      have := some_lt hz
      unfold sf151_L1
      rw [decide_eq_true (by omega), cond_true, ix_at rfl hz, s86, bnd_ret, decide_eq_true hp, Bool.not_true, cond_false, ck_pos (by unfold rng; omega)]) (by
      intro j z hz hp
      have := some_lt hz
      unfold sf151_L1
      rw [decide_eq_true (by omega), cond_true, ix_at rfl hz, s86, bnd_ret, decide_eq_false hp]
      rfl) (by
      unfold sf151_L1
      rw [decide_eq_false (by omega), cond_false]) with ⟨hA, e⟩ | ⟨hA, e⟩
  · rw [e, bnd_ret, decide_eq_true hA]; rfl
  · rw [e, bnd_ret, decide_eq_false hA]; rfl
theorem s64 {N : Nat} {n t lo hi : Int} {l : List (Int × Int × Int × Int)} (h : l.length ≤ 100) (hN : 1000 ≤ N) : sf134 N n t lo hi l = some (if TubeOk n t lo hi then if l.length ≤ 12 then if AllP (RdOk' n) l then 0 else 2 else 3 else 1) := by
  unfold sf134
  rw [s20, bnd_ret]
  by_cases h1 : TubeOk n t lo hi
  · rw [if_pos h1, if_pos h1]
    show (bif (decide ((12 : Int) < (l.length : Int))) then _ else _) = _
    by_cases h2 : l.length ≤ 12
    · rw [decide_eq_false (by omega), cond_false, if_pos h2, s68 h hN, bnd_ret]
      by_cases h3 : AllP (RdOk' n) l
      · rw [decide_eq_true h3, if_pos h3]; rfl
      · rw [decide_eq_false h3, if_neg h3]; rfl
    · rw [decide_eq_true (by omega), cond_true, if_neg h2]
  · rw [if_neg h1, if_neg h1]; rfl
theorem s70 {N : Nat} {n t lo hi : Int} {l : List (Int × Int × Int × Int)} (h : l.length ≤ 100) (hN : 1000 ≤ N) : sf84 N n t lo hi l = some (if TubeOk n t lo hi then if l.length ≤ 12 then if AllP (RdOk' n) l then 0 else 2 else 3 else 1) := by
  unfold sf84
  rw [s25, bnd_ret]
  by_cases h1 : TubeOk n t lo hi
  · rw [decide_eq_true h1, if_pos h1]
    show (bif (decide ((12 : Int) < (l.length : Int))) then _ else _) = _
    by_cases h2 : l.length ≤ 12
    · rw [decide_eq_false (by omega), cond_false, if_pos h2]
      have hn : 1 ≤ n ∧ n ≤ 10 := ⟨h1.1, h1.2.1⟩
      have key : ∀ z : Int × Int × Int × Int, (ck (rng (n - 1)) (bnd (sf98 N z.1 0 (n - 1)) fun v76 => (bif (!v76) then some true else (bnd (sf98 N z.2.1 z.1 n) fun v80 => (bif (!v80) then some true else (bnd (sf124 N z.2.2.1 z.2.2.2 0 2000) fun v84 => some (!v84))))))) = some (!(decide (RdOk' n z))) := fun z => by
        rw [ck_pos (by unfold rng; omega), s37, bnd_ret]
        by_cases a1 : 0 ≤ z.1 ∧ z.1 ≤ n - 1
        · rw [decide_eq_true a1]
          show bnd _ _ = _
          rw [s37, bnd_ret]
          by_cases a2 : z.1 ≤ z.2.1 ∧ z.2.1 ≤ n
          · rw [decide_eq_true a2]
            show bnd _ _ = _
            rw [s48, bnd_ret]
            by_cases a3 : 0 ≤ z.2.2.1 ∧ z.2.2.1 ≤ z.2.2.2 ∧ z.2.2.2 ≤ 2000
            · rw [decide_eq_true a3, decide_eq_true (p := RdOk' n z) ⟨⟨a1.1, by omega⟩, a2, a3⟩]
            · rw [decide_eq_false a3, decide_eq_false (p := RdOk' n z) fun q => a3 q.2.2]
          · rw [decide_eq_false a2, decide_eq_false (p := RdOk' n z) fun q => a2 q.2.1]; rfl
        · rw [decide_eq_false a1, decide_eq_false (p := RdOk' n z) fun q => a1 ⟨q.1.1, by have := q.1.2; omega⟩]; rfl
      rcases all_loopE (step := sf84_L1 N n l) (l := l) (p := RdOk' n) (N := N) (by omega) (by
          intro j z hz hp
          have := some_lt hz
          unfold sf84_L1
          rw [decide_eq_true (by omega), cond_true, ix_at rfl hz, key, bnd_ret, decide_eq_true hp, Bool.not_true, cond_false, ck_pos (by unfold rng; omega)]) (by
          intro j z hz hp
          have := some_lt hz
          unfold sf84_L1
          rw [decide_eq_true (by omega), cond_true, ix_at rfl hz, key, bnd_ret, decide_eq_false hp]
          rfl) (by
          unfold sf84_L1
          rw [decide_eq_false (by omega), cond_false]) with ⟨hA, e⟩ | ⟨hA, e⟩
      · rw [e, bnd_ret, if_pos hA]; rfl
      · rw [e, bnd_ret, if_neg hA]; rfl
    · rw [decide_eq_true (by omega), cond_true, if_neg h2]
  · rw [decide_eq_false h1, if_neg h1]; rfl
def hs (l : List Int) (j : Nat) : Int := (l.take j).sum
theorem hs_succ {l : List Int} {j : Nat} {x : Int} (h : l[j]? = some x) : hs l (j + 1) = hs l j + x := by
  unfold hs
  rw [take_succ' h, List.sum_append]
  simp
def Vol (x : Int) : Prop := 0 ≤ x ∧ x ≤ 200
theorem hs_b {l : List Int} (h : AllP Vol l) : ∀ j, j ≤ l.length → 0 ≤ hs l j ∧ hs l j ≤ 200 * j
  | 0, _ => by unfold hs; simp
  | j + 1, hj => by
    have ih := hs_b h j (by omega)
    obtain ⟨x, hx⟩ : ∃ x, l[j]? = some x := ⟨_, lt_some (by omega)⟩
    have := h x (List.mem_of_getElem? hx)
    unfold Vol at this
    rw [hs_succ hx]; omega
theorem s38 {N : Nat} {l : List Int} {a : Nat} (ha : a ≤ l.length) (hl : l.length ≤ 15) (hb : AllP Vol l) (hN : 1000 ≤ N) : sf56 N l a = some (hs l a) := by
  unfold sf56
  have e : iter (sf56_L1 l a) N ((0 : Int), (0 : Int)) = some (hs l a) := by
    refine iter_up (fun j => (hs l j, (j : Int))) a _ rfl (fun j hj => ?_) ?_ (by omega)
    · obtain ⟨x, hx⟩ : ∃ x, l[j]? = some x := ⟨_, lt_some (by omega)⟩
      have b := hs_b hb (j + 1) (by omega)
      unfold sf56_L1
      dsimp only
      rw [hs_succ hx] at *
      rw [decide_eq_true (by omega), cond_true, ix_at rfl hx, ck_pos (by unfold rng; omega), ck_pos (by unfold rng; omega)]
      rfl
    · unfold sf56_L1
      dsimp only
      rw [decide_eq_false (by omega), cond_false]
  rw [e, bnd_ret]
def InV (lo hi : Int) (x : Int) : Prop := lo ≤ x ∧ x ≤ hi
instance {lo hi x : Int} : Decidable (InV lo hi x) := by unfold InV; infer_instance
theorem sL {α β γ : Type} {f : α → Option γ} {g : β → Option γ} {x : α} : sel f g (.inl x) = f x := rfl
theorem sR {α β γ : Type} {f : α → Option γ} {g : β → Option γ} {x : β} : sel f g (.inr x) = g x := rfl
def uV (lo hi : Int) (a b : Nat) : Int := if a ≤ b then ((b : Int) - a) * hi else ((b : Int) - a) * lo
def uF (n : Nat) (lo hi : Int) (i j : Nat) : Nat → Int := fun q => if q / 13 ≤ n ∧ q % 13 ≤ n ∧ (min (q / 13) (q % 13) < i ∨ (min (q / 13) (q % 13) = i ∧ max (q / 13) (q % 13) < j)) then uV lo hi (q / 13) (q % 13) else 0
theorem mul_b {d a : Int} (h1 : 0 ≤ d) (h2 : d ≤ 12) (h3 : 1 ≤ a) (h4 : a ≤ 200) : 0 ≤ d * a ∧ d * a ≤ 2400 := by
  have q1 : 0 * a ≤ d * a := Int.mul_le_mul_of_nonneg_right h1 (by omega)
  have q2 : d * a ≤ 12 * a := Int.mul_le_mul_of_nonneg_right h2 (by omega)
  omega
theorem u_in {n i N : Nat} {lo hi : Int} (hn : n ≤ 12) (hi' : i ≤ n) (h1 : 1 ≤ lo ∧ lo ≤ 200) (h2 : 1 ≤ hi ∧ hi ≤ 200) (hN : 100 ≤ N) :
    iter (sf153_L1 n lo hi ((i : Int), uF n lo hi i i)) N ((i : Int), uF n lo hi i i) = some (uF n lo hi i (n + 1)) := by
  refine iter_up (fun k => (((i + k : Nat) : Int), uF n lo hi i (i + k))) (n + 1 - i) _ rfl (fun k hk => ?_) ?_ (by omega)
  · unfold sf153_L1
    dsimp only
    obtain ⟨j, hj⟩ : ∃ j, j = i + k := ⟨_, rfl⟩
    rw [show i + (k + 1) = j + 1 by omega, ← hj]
    have m1 := mul_b (d := (j : Int) - i) (a := hi) (by omega) (by omega) h2.1 h2.2
    have m2 := mul_b (d := (j : Int) - i) (a := lo) (by omega) (by omega) h1.1 h1.2
    have m3 : ((i : Int) - j) * lo = -(((j : Int) - i) * lo) := by rw [← Int.neg_mul]; congr 1; omega
    rw [decide_eq_true (by omega), cond_true, ck_pos (by unfold rng; omega), ck_pos (by unfold rng; omega), ck_pos (by omega), ck_pos (by omega), ck_pos (by unfold rng; omega), ck_pos (by rw [m3]; unfold rng; omega), ck_pos (by omega), ck_pos (by omega), ck_pos (by unfold rng; omega), toN, toN]
    congr 3
    funext q
    unfold ups uF
    by_cases q1 : q = j * 13 + i
    · rw [if_pos q1, if_pos (by omega), q1, dv (by omega), md (by omega)]
      unfold uV
      by_cases e : j ≤ i
      · have : i = j := by omega
        subst this
        rw [if_pos (Nat.le_refl _)]; simp
      · rw [if_neg e]
    · rw [if_neg q1]
      by_cases q2 : q = i * 13 + j
      · rw [if_pos q2, if_pos (by omega), q2, dv (by omega), md (by omega)]
        unfold uV
        rw [if_pos (by omega)]
      · rw [if_neg q2]
        by_cases c : q / 13 ≤ n ∧ q % 13 ≤ n ∧ (min (q / 13) (q % 13) < i ∨ (min (q / 13) (q % 13) = i ∧ max (q / 13) (q % 13) < j))
        · rw [if_pos c, if_pos (by omega)]
        · rw [if_neg c, if_neg (by omega)]
  · unfold sf153_L1
    dsimp only
    rw [show i + (n + 1 - i) = n + 1 by omega, decide_eq_false (by omega), cond_false]
theorem u_out {n N : Nat} {lo hi : Int} (hn : n ≤ 12) (h1 : 1 ≤ lo ∧ lo ≤ 200) (h2 : 1 ≤ hi ∧ hi ≤ 200) (hN : 100 ≤ N) :
    iter (sf153_L2 N n lo hi) N ((0 : Int), (fun _ => 0)) = some (uF n lo hi (n + 1) (n + 1)) := by
  refine iter_up (fun i => ((i : Int), uF n lo hi i i)) (n + 1) _ ?_ (fun i hi' => ?_) ?_ (by omega)
  · refine Prod.ext rfl ?_
    funext q
    unfold uF
    dsimp only
    rw [if_neg (by omega)]
  · unfold sf153_L2
    dsimp only
    rw [decide_eq_true (by omega), cond_true, u_in hn (by omega) h1 h2 hN, bnd_ret, ck_pos (by unfold rng; omega)]
    congr 3
    funext q
    unfold uF
    by_cases c : q / 13 ≤ n ∧ q % 13 ≤ n ∧ (min (q / 13) (q % 13) < i ∨ (min (q / 13) (q % 13) = i ∧ max (q / 13) (q % 13) < n + 1))
    · rw [if_pos c, if_pos (by omega)]
    · rw [if_neg c, if_neg (by omega)]
  · unfold sf153_L2
    dsimp only
    rw [decide_eq_false (by omega), cond_false]
theorem uF_at {n i j : Nat} {lo hi : Int} (hn : n ≤ 12) (h1 : i ≤ n) (h2 : j ≤ n) : uF n lo hi (n + 1) (n + 1) (i * 13 + j) = uV lo hi i j := by
  unfold uF
  rw [if_pos (by omega), dv (by omega), md (by omega)]
theorem uV_max {lo hi : Int} {i j : Nat} (h : lo ≤ hi) : uV lo hi i j = max (((j : Int) - i) * lo) (((j : Int) - i) * hi) := by
  unfold uV
  by_cases d : i ≤ j
  · rw [if_pos d]
    have := Int.mul_le_mul_of_nonneg_left h (show 0 ≤ (j : Int) - i by omega)
    omega
  · rw [if_neg d]
    have := Int.mul_le_mul_of_nonneg_left h (show 0 ≤ -((j : Int) - i) by omega)
    rw [Int.neg_mul, Int.neg_mul] at this
    omega
theorem gd_u {n : Nat} {lo hi : Int} (hn : n ≤ 12) (h1 : 1 ≤ lo) (h2 : lo ≤ hi) (h3 : hi ≤ 200) : Gd n (uF n lo hi (n + 1) (n + 1)) := by
  refine ⟨fun i j k a b c => ?_, fun i a => ?_, fun i j a b => ?_⟩
  · rw [uF_at hn a c, uF_at hn a b, uF_at hn b c, uV_max h2, uV_max h2, uV_max h2, show (k : Int) - i = ((j : Int) - i) + ((k : Int) - j) by omega, Int.add_mul, Int.add_mul]
    omega
  · rw [uF_at hn a a, uV_max h2, show (i : Int) - i = 0 by omega, Int.zero_mul, Int.zero_mul]; rfl
  · rw [uF_at hn a b]
    unfold uV
    by_cases d : i ≤ j
    · rw [if_pos d]
      have := mul_b (d := (j : Int) - i) (a := hi) (by omega) (by omega) (by omega) (by omega)
      omega
    · rw [if_neg d]
      have := mul_b (d := (i : Int) - j) (a := lo) (by omega) (by omega) (by omega) (by omega)
      rw [show (j : Int) - i = -((i : Int) - j) by omega, Int.neg_mul]
      omega
theorem rowS_at {n f g i j : Nat} {m : Int} {F : Nat → Int} (hn : n ≤ 12) (h1 : i ≤ n) (h2 : j ≤ n) : rowS n f g m F (n + 1) (i * 13 + j) = min (F (i * 13 + j)) (F (i * 13 + f) + m + F (g * 13 + j)) := by
  unfold rowS
  rw [if_pos (by omega), dv (by omega), md (by omega)]
theorem gd_lim {n f g : Nat} {m : Int} {F : Nat → Int} (hn : n ≤ 12) (h : Gd n F) (hf : f ≤ n) (hg : g ≤ n) (hm : 0 ≤ m + F (g * 13 + f)) : Gd n (rowS n f g m F (n + 1)) := by
  refine ⟨fun i j k hi hj hk => ?_, fun i hi => ?_, fun i j hi hj => ?_⟩
  · rw [rowS_at hn hi hk, rowS_at hn hi hj, rowS_at hn hj hk]
    have := h.tri i j k hi hj hk
    have := h.tri i j f hi hj hf
    have := h.tri g j k hg hj hk
    have := h.tri g j f hg hj hf
    omega
  · rw [rowS_at hn hi hi, h.dg i hi]
    have := h.tri g i f hg hi hf
    omega
  · rw [rowS_at hn hi hj]
    have := h.ub i j hi hj
    omega
theorem s103 {N : Nat} {a b c d e : Int} {F : Nat → Int} {x y n : Nat} {m : Int} (hn : n ≤ 12) (hx : x ≤ n) (hy : y ≤ n) (h : Gd n F) (hm : -1000000 ≤ m ∧ m ≤ 1000000) : sf181 N a b c d e F x y m = some (decide (0 ≤ m + F (y * 13 + x))) := by
  have := h.lb (i := y) (j := x) hy hx
  have := h.ub y x hy hx
  unfold sf181
  rw [ck_pos (by omega), ck_pos (by omega), toN, toN, ck_pos (by unfold rng; omega)]
def unr (n : Nat) (t lo hi : Int) : Nat → Int := rowS n n 0 (-t) (rowS n 0 n t (uF n lo hi (n + 1) (n + 1)) (n + 1)) (n + 1)
theorem s97 {N n : Nat} {t lo hi : Int} (ht : TubeOk n t lo hi) (hN : 1000 ≤ N) : sf153 N n t lo hi = some ((n : Int), t, lo, hi, (n : Int) + 1, unr n t lo hi) ∧ Gd n (unr n t lo hi) ∧
    (∀ i, i ≤ n → unr n t lo hi (0 * 13 + i) = min ((i : Int) * hi) (t - ((n : Int) - i) * lo)) ∧ (∀ i, i ≤ n → unr n t lo hi (i * 13 + 0) = -(max ((i : Int) * lo) (t - ((n : Int) - i) * hi))) := by
  obtain ⟨t1, t2, ⟨t3, t4, t5⟩, t6, t7, t8, t9⟩ := ht
  have hn : n ≤ 12 := by omega
  have g0 := gd_u hn t3 t4 t5
  have e0 : ∀ i j, i ≤ n → j ≤ n → uF n lo hi (n + 1) (n + 1) (i * 13 + j) = uV lo hi i j := fun i j a b => uF_at hn a b
  have un0 : ∀ i, i ≤ n → uV lo hi i 0 = -((i : Int) * lo) := fun i a => by
    unfold uV
    by_cases d : i ≤ 0
    · have : i = 0 := by omega
      subst this; simp
    · rw [if_neg d, show ((0 : Nat) : Int) - i = -(i : Int) by omega, Int.neg_mul]
  have u0n : ∀ i, uV lo hi 0 i = (i : Int) * hi := fun i => by
    unfold uV
    rw [if_pos (Nat.zero_le _), show (i : Int) - ((0 : Nat) : Int) = i by omega]
  have unn : ∀ i, i ≤ n → uV lo hi n i = -(((n : Int) - i) * lo) := fun i a => by
    unfold uV
    by_cases d : n ≤ i
    · have : i = n := by omega
      subst this
      rw [if_pos (Nat.le_refl _), show (i : Int) - i = 0 by omega, Int.zero_mul, Int.zero_mul]; rfl
    · rw [if_neg d, show (i : Int) - n = -((n : Int) - i) by omega, Int.neg_mul]
  have uin : ∀ i, i ≤ n → uV lo hi i n = ((n : Int) - i) * hi := fun i a => by
    unfold uV
    rw [if_pos a]
  have c1 : 0 ≤ t + uF n lo hi (n + 1) (n + 1) (n * 13 + 0) := by rw [e0 n 0 (Nat.le_refl _) (Nat.zero_le _), un0 n (Nat.le_refl _)]; omega
  have g1 := gd_lim hn g0 (Nat.zero_le _) (Nat.le_refl _) c1
  have r1 : ∀ i j, i ≤ n → j ≤ n → rowS n 0 n t (uF n lo hi (n + 1) (n + 1)) (n + 1) (i * 13 + j) = min (uV lo hi i j) (uV lo hi i 0 + t + uV lo hi n j) := fun i j a b => by
    rw [rowS_at hn a b, e0 i j a b, e0 i 0 a (Nat.zero_le _), e0 n j (Nat.le_refl _) b]
  have z0 : uV lo hi 0 0 = 0 := by rw [u0n]; simp
  have f0n : rowS n 0 n t (uF n lo hi (n + 1) (n + 1)) (n + 1) (0 * 13 + n) = t := by
    rw [r1 0 n (Nat.zero_le _) (Nat.le_refl _), u0n, z0, unn n (Nat.le_refl _), show (n : Int) - n = 0 by omega, Int.zero_mul]
    omega
  have c2 : 0 ≤ -t + rowS n 0 n t (uF n lo hi (n + 1) (n + 1)) (n + 1) (0 * 13 + n) := by rw [f0n]; omega
  have g2 := gd_lim hn g1 (Nat.le_refl _) (Nat.zero_le _) c2
  refine ⟨?_, g2, fun i a => ?_, fun i a => ?_⟩
  · unfold sf153
    have q1 := s103 (N := N) (a := n) (b := t) (c := lo) (d := hi) (e := (n : Int) + 1) (x := 0) (y := n) (m := t) hn (Nat.zero_le _) (Nat.le_refl _) g0 (by omega)
    have q2 := s103 (N := N) (a := n) (b := t) (c := lo) (d := hi) (e := (n : Int) + 1) (x := n) (y := 0) (m := -t) hn (Nat.le_refl _) (Nat.zero_le _) g1 (by omega)
    have w1 := lO_run (N := N) hn (Nat.zero_le _) (Nat.le_refl n) g0 (m := t) (by omega) c1 (by omega)
    have w2 := lO_run (N := N) hn (Nat.le_refl n) (Nat.zero_le _) g1 (m := -t) (by omega) c2 (by omega)
    rw [ck_pos (by unfold rng; omega), u_out hn ⟨t3, by omega⟩ ⟨by omega, t5⟩ (by omega), bnd_ret, show (0 : Int) = ((0 : Nat) : Int) from rfl, q1, bnd_ret, decide_eq_true c1, Bool.not_true, cond_false, l97_6]
    show bnd (iter (lO N ((n : Int) + 1) ((0 : Nat) : Int) n t) N ((0 : Int), _)) _ = _
    rw [w1, bnd_ret, ck_pos (by unfold rng; omega), q2, bnd_ret, decide_eq_true c2, Bool.not_true, cond_false, l97_8]
    show bnd (iter (lO N ((n : Int) + 1) n ((0 : Nat) : Int) (-t)) N ((0 : Int), _)) _ = _
    rw [w2, bnd_ret]
    rfl
  · unfold unr
    rw [rowS_at hn (Nat.zero_le _) a, f0n, r1 0 i (Nat.zero_le _) a, u0n, z0, unn i a]
    omega
  · unfold unr
    have := un0 n (Nat.le_refl _)
    rw [rowS_at hn a (Nat.zero_le _), r1 i 0 a (Nat.zero_le _), r1 i n a (Nat.le_refl _), r1 0 0 (Nat.zero_le _) (Nat.zero_le _), z0, un0 i a, this, uin i a, unn n (Nat.le_refl _), show (n : Int) - n = 0 by omega, Int.zero_mul]
    omega
def SatF (n : Nat) (F : Nat → Int) (p : Nat → Int) : Prop := ∀ i j, i ≤ n → j ≤ n → p j - p i ≤ F (i * 13 + j)
theorem sat_lim {n f g : Nat} {m : Int} {F p : Nat → Int} (hn : n ≤ 12) (h : Gd n F) (hf : f ≤ n) (hg : g ≤ n) : SatF n (rowS n f g m F (n + 1)) p ↔ SatF n F p ∧ p g - p f ≤ m := by
  refine ⟨fun hs => ⟨fun i j hi hj => ?_, ?_⟩, fun ⟨h1, h2⟩ i j hi hj => ?_⟩
  · have := hs i j hi hj
    rw [rowS_at hn hi hj] at this; omega
  · have := hs f g hf hg
    rw [rowS_at hn hf hg, h.dg f hf, h.dg g hg] at this; omega
  · have a1 := h1 i j hi hj
    have a2 := h1 i f hi hf
    have a3 := h1 g j hg hj
    rw [rowS_at hn hi hj]; omega
def CellS (n : Nat) (lo hi : Int) (p : Nat → Int) : Prop := ∀ i, i < n → lo ≤ p (i + 1) - p i ∧ p (i + 1) - p i ≤ hi
theorem cell_far {n : Nat} {lo hi : Int} {p : Nat → Int} (h : CellS n lo hi p) (i : Nat) : ∀ d, i + d ≤ n → (d : Int) * lo ≤ p (i + d) - p i ∧ p (i + d) - p i ≤ (d : Int) * hi
  | 0, _ => by simp
  | d + 1, hd => by
    have ih := cell_far h i d (by omega)
    have c := h (i + d) (by omega)
    have e1 : ((d + 1 : Nat) : Int) * lo = (d : Int) * lo + lo := by push_cast; rw [Int.add_mul, Int.one_mul]
    have e2 : ((d + 1 : Nat) : Int) * hi = (d : Int) * hi + hi := by push_cast; rw [Int.add_mul, Int.one_mul]
    rw [e1, e2, ← Nat.add_assoc]; omega
theorem sat_u {n : Nat} {lo hi : Int} {p : Nat → Int} (hn : n ≤ 12) : SatF n (uF n lo hi (n + 1) (n + 1)) p ↔ CellS n lo hi p := by
  refine ⟨fun hs i hi' => ?_, fun h i j hi' hj => ?_⟩
  · have a := hs i (i + 1) (by omega) (by omega)
    have b := hs (i + 1) i (by omega) (by omega)
    rw [uF_at hn (by omega) (by omega)] at a b
    unfold uV at a b
    rw [if_pos (by omega), show ((i + 1 : Nat) : Int) - i = 1 by omega, Int.one_mul] at a
    rw [if_neg (by omega), show (i : Int) - (i + 1 : Nat) = -1 by omega, Int.neg_mul, Int.one_mul] at b
    omega
  · rw [uF_at hn hi' hj]
    unfold uV
    by_cases d : i ≤ j
    · rw [if_pos d]
      have := cell_far h i (j - i) (by omega)
      rw [show i + (j - i) = j by omega, show ((j - i : Nat) : Int) = (j : Int) - i by omega] at this
      exact this.2
    · rw [if_neg d]
      have := cell_far h j (i - j) (by omega)
      rw [show j + (i - j) = i by omega, show ((i - j : Nat) : Int) = -((j : Int) - i) by omega, Int.neg_mul, Int.neg_mul] at this
      omega
theorem uni_c {n : Nat} {t lo hi : Int} (ht : TubeOk n t lo hi) : 0 ≤ t + uF n lo hi (n + 1) (n + 1) (n * 13 + 0) := by
  obtain ⟨t1, t2, ⟨t3, t4, t5⟩, t6, t7, t8, t9⟩ := ht
  rw [uF_at (by omega) (Nat.le_refl _) (Nat.zero_le _)]
  unfold uV
  rw [if_neg (by omega), show ((0 : Nat) : Int) - n = -(n : Int) by omega, Int.neg_mul]
  omega
theorem sat_unr {n : Nat} {t lo hi : Int} {p : Nat → Int} (ht : TubeOk n t lo hi) : SatF n (unr n t lo hi) p ↔ CellS n lo hi p ∧ p n - p 0 = t := by
  have hn : n ≤ 12 := by have := ht.2.1; omega
  have g0 := gd_u hn ht.2.2.1.1 ht.2.2.1.2.1 ht.2.2.1.2.2
  have g1 := gd_lim hn g0 (Nat.zero_le _) (Nat.le_refl _) (uni_c ht)
  unfold unr
  rw [sat_lim hn g1 (Nat.le_refl _) (Nat.zero_le _), sat_lim hn g0 (Nat.zero_le _) (Nat.le_refl _), sat_u hn]
  constructor
  · rintro ⟨⟨a, b⟩, c⟩; exact ⟨a, by omega⟩
  · rintro ⟨a, b⟩; exact ⟨⟨a, by omega⟩, by omega⟩
def RdS (n : Nat) (r : Int × Int × Int × Int) (p : Nat → Int) : Prop := p r.2.1.toNat - p r.1.toNat ≤ r.2.2.2 ∧ (r.2.1 < n → r.2.2.1 + 1 ≤ p (r.2.1.toNat + 1) - p r.1.toNat)
theorem s96 {N n : Nat} {t lo hi : Int} {F : Nat → Int} {r : Int × Int × Int × Int} (hn : n ≤ 12) (h : Gd n F) (hr : RdOk' n r) (hN : 1000 ≤ N) :
    (∃ F', sf154 N n t lo hi ((n : Int) + 1) F r.1 r.2.1 r.2.2.1 r.2.2.2 = some ((n : Int), t, lo, hi, (n : Int) + 1, F', true) ∧ Gd n F' ∧ ∀ p, SatF n F' p ↔ SatF n F p ∧ RdS n r p) ∨
    (sf154 N n t lo hi ((n : Int) + 1) F r.1 r.2.1 r.2.2.1 r.2.2.2 = some ((0 : Int), (0 : Int), (0 : Int), (0 : Int), (0 : Int), (fun _ => 0), false) ∧ ∀ p, SatF n F p → ¬ RdS n r p) := by
  obtain ⟨f, g, vl, vh⟩ := r
  obtain ⟨h1, h2, h3⟩ := hr
  dsimp only at h1 h2 h3
  obtain ⟨f, rfl⟩ : ∃ k : Nat, f = k := ⟨f.toNat, by omega⟩
  obtain ⟨g, rfl⟩ : ∃ k : Nat, g = k := ⟨g.toNat, by omega⟩
  have hf : f ≤ n := by omega
  have hg : g ≤ n := by omega
  unfold RdS
  simp only [toN]
  unfold sf154
  rw [s103 hn hf hg h (by omega), bnd_ret]
  by_cases c1 : 0 ≤ vh + F (g * 13 + f)
  · have G1 := gd_lim hn h hf hg c1
    rw [decide_eq_true c1, Bool.not_true, cond_false, l96_2, lO_run hn hf hg h (by omega) c1 (by omega), bnd_ret]
    by_cases c2 : g < n
    · rw [decide_eq_true (by omega), cond_true, ck_pos (by unfold rng; omega), ck_pos (by unfold rng; omega), ck_pos (by unfold rng; omega), show (g : Int) + 1 = ((g + 1 : Nat) : Int) from rfl, s103 hn (by omega) hf G1 (by omega), bnd_ret]
      by_cases c3 : 0 ≤ -vl - 1 + rowS n f g vh F (n + 1) (f * 13 + (g + 1))
      · have G2 := gd_lim hn G1 (f := g + 1) (g := f) (by omega) hf c3
        rw [decide_eq_true c3, Bool.not_true, cond_false, l96_4]
        refine .inl ⟨rowS n (g + 1) f (-vl - 1) (rowS n f g vh F (n + 1)) (n + 1), ?_, G2, fun p => ?_⟩
        · have := lO_run (N := N) hn (f := g + 1) (g := f) (by omega) hf G1 (m := -vl - 1) (by omega) c3 (by omega)
          rw [show ((g : Int) + 1) = ((g + 1 : Nat) : Int) from rfl, this, bnd_ret, bnd_ret]
          rfl
        · rw [sat_lim hn G1 (by omega) hf, sat_lim hn h hf hg]
          constructor
          · rintro ⟨⟨a, b⟩, c⟩; exact ⟨a, b, fun _ => by omega⟩
          · rintro ⟨a, b, c⟩; have := c (by omega); exact ⟨⟨a, b⟩, by omega⟩
      · rw [decide_eq_false c3, Bool.not_false, cond_true, bnd_ret]
        refine .inr ⟨rfl, fun p hp ⟨q1, q2⟩ => c3 ?_⟩
        have := (sat_lim (m := vh) hn h hf hg).2 ⟨hp, q1⟩ f (g + 1) hf (by omega)
        have := q2 (by omega)
        omega
    · rw [decide_eq_false (by omega), cond_false, bnd_ret]
      refine .inl ⟨rowS n f g vh F (n + 1), rfl, G1, fun p => ?_⟩
      rw [sat_lim hn h hf hg]
      constructor
      · rintro ⟨a, b⟩; exact ⟨a, b, fun q => absurd q (by omega)⟩
      · rintro ⟨a, b, _⟩; exact ⟨a, b⟩
  · rw [decide_eq_false c1, Bool.not_false, cond_true]
    refine .inr ⟨rfl, fun p hp ⟨q1, q2⟩ => c1 ?_⟩
    have := hp g f hg hf
    omega
def TruS (n : Nat) (t lo hi : Int) (L : List (Int × Int × Int × Int)) (p : Nat → Int) : Prop := (CellS n lo hi p ∧ p n - p 0 = t) ∧ ∀ r, r ∈ L → RdS n r p
theorem mem_snoc {α : Type} {P : α → Prop} {l : List α} {x : α} : (∀ r, r ∈ l ++ [x] → P r) ↔ (∀ r, r ∈ l → P r) ∧ P x := by
  constructor
  · exact fun h => ⟨fun r hr => h r (List.mem_append.2 (.inl hr)), h x (List.mem_append.2 (.inr (List.mem_singleton.2 rfl)))⟩
  · rintro ⟨h1, h2⟩ r hr
    rcases List.mem_append.1 hr with q | q
    · exact h1 r q
    · rw [List.mem_singleton.1 q]; exact h2
theorem iter_s {α β : Type} {step : α → Option (α ⊕ β)} {x x' : α} {M : Nat} (h : step x = some (.inl x')) : iter step (M + 1) x = iter step M x' := by
  conv => lhs; unfold iter
  rw [h]; rfl
theorem iter_e {α β : Type} {step : α → Option (α ⊕ β)} {x : α} {y : β} {M : Nat} (h : step x = some (.inr y)) : iter step (M + 1) x = some y := by
  unfold iter
  rw [h]; rfl
theorem s89_loop {N n : Nat} {t lo hi : Int} {L : List (Int × Int × Int × Int)} (hn : n ≤ 12) (hL : L.length ≤ 100) (hr : AllP (RdOk' n) L) (hN : 1000 ≤ N) : ∀ (k j M : Nat) (mp : Int × Int × Int × Int → Option Bool) (F : Nat → Int), j + k = L.length → k < M → Gd n F → (∀ p, SatF n F p ↔ (CellS n lo hi p ∧ p n - p 0 = t) ∧ ∀ r, r ∈ L.take j → RdS n r p) → (∀ r b, mp r = some b → r ∈ L.take j) →
    (∃ mp' F', iter (sf135_L1 N L) M ((j : Int), mp, (n : Int), t, lo, hi, (n : Int) + 1, F, (0 : Int), (0 : Int), (0 : Int), (0 : Int), (0 : Int), (fun _ => 0)) = some (.inr (mp', (n : Int), t, lo, hi, (n : Int) + 1, F', (0 : Int), (0 : Int), (0 : Int), (0 : Int), (0 : Int), (fun _ => 0))) ∧ Gd n F' ∧ ∀ p, SatF n F' p ↔ TruS n t lo hi L p) ∨
    (∃ w : ((Int × Int × Int × Int) → Option Bool) × Int × Int × Int × Int × Int × (Nat → Int), iter (sf135_L1 N L) M ((j : Int), mp, (n : Int), t, lo, hi, (n : Int) + 1, F, (0 : Int), (0 : Int), (0 : Int), (0 : Int), (0 : Int), (fun _ => 0)) = some (.inl (w.1, w.2.1, w.2.2.1, w.2.2.2.1, w.2.2.2.2.1, w.2.2.2.2.2.1, w.2.2.2.2.2.2, (0 : Int), (0 : Int), (0 : Int), (0 : Int), (0 : Int), (fun _ => 0))) ∧ ∀ p, ¬ TruS n t lo hi L p)
  | 0, j, 0, mp, F, hj, hM, _, _, _ => by omega
  | 0, j, M + 1, mp, F, hj, hM, hG, hS, hm => by
    refine .inl ⟨mp, F, iter_e ?_, hG, fun p => ?_⟩
    · unfold sf135_L1
      dsimp only
      rw [decide_eq_false (by omega), cond_false]
    · rw [hS p, List.take_of_length_le (by omega)]
      rfl
  | k + 1, j, 0, mp, F, hj, hM, _, _, _ => by omega
  | k + 1, j, M + 1, mp, F, hj, hM, hG, hS, hm => by
    obtain ⟨z, hz⟩ : ∃ z, L[j]? = some z := ⟨_, lt_some (by omega)⟩
    have hzL : z ∈ L := List.mem_of_getElem? hz
    have tk := take_succ' hz
    have hck : rng ((j : Int) + 1) := by unfold rng; omega
    by_cases hmp : mp z = some true
    · have hz0 := hm z true hmp
      have key : ∀ p, ((CellS n lo hi p ∧ p n - p 0 = t) ∧ ∀ r, r ∈ L.take (j + 1) → RdS n r p) ↔ ((CellS n lo hi p ∧ p n - p 0 = t) ∧ ∀ r, r ∈ L.take j → RdS n r p) := fun p => by
        rw [tk, mem_snoc]
        exact ⟨fun ⟨a, b, c⟩ => ⟨a, b⟩, fun ⟨a, b⟩ => ⟨a, b, b z hz0⟩⟩
      have e1 : sf135_L1 N L ((j : Int), mp, (n : Int), t, lo, hi, (n : Int) + 1, F, (0 : Int), (0 : Int), (0 : Int), (0 : Int), (0 : Int), (fun _ => 0)) = some (.inl (((j + 1 : Nat) : Int), mp, (n : Int), t, lo, hi, (n : Int) + 1, F, (0 : Int), (0 : Int), (0 : Int), (0 : Int), (0 : Int), (fun _ => 0))) := by
        unfold sf135_L1
        dsimp only
        rw [decide_eq_true (by omega), cond_true, ix_at rfl hz, hmp, show Option.getD (some true) false = true from rfl, cond_true, ck_pos hck]
        rfl
      rw [iter_s e1]
      exact s89_loop hn hL hr hN k (j + 1) M mp F (by omega) (by omega) hG (fun p => by rw [hS p, key p]) (fun r b q => by rw [tk]; exact List.mem_append.2 (.inl (hm r b q)))
    · have hg : Option.getD (mp z) false = false := by
        cases h : mp z with
        | none => rfl
        | some b =>
          cases b with
          | true => exact absurd h hmp
          | false => rfl
      rcases s96 (N := N) (t := t) (lo := lo) (hi := hi) hn hG (hr z hzL) hN with ⟨F', e, G', S'⟩ | ⟨e, S'⟩
      · have e1 : sf135_L1 N L ((j : Int), mp, (n : Int), t, lo, hi, (n : Int) + 1, F, (0 : Int), (0 : Int), (0 : Int), (0 : Int), (0 : Int), (fun _ => 0)) = some (.inl (((j + 1 : Nat) : Int), upm mp z true, (n : Int), t, lo, hi, (n : Int) + 1, F', (0 : Int), (0 : Int), (0 : Int), (0 : Int), (0 : Int), (fun _ => 0))) := by
          unfold sf135_L1
          dsimp only
          rw [decide_eq_true (by omega), cond_true, ix_at rfl hz, hg, cond_false, e, bnd_ret]
          dsimp only
          rw [Bool.not_true, cond_false, ck_pos hck]
          rfl
        rw [iter_s e1]
        exact s89_loop hn hL hr hN k (j + 1) M _ F' (by omega) (by omega) G' (fun p => by rw [S' p, hS p, tk, mem_snoc]; exact ⟨fun ⟨⟨a, b⟩, c⟩ => ⟨a, b, c⟩, fun ⟨a, b, c⟩ => ⟨⟨a, b⟩, c⟩⟩) (fun r b q => by
          unfold upm at q
          rw [tk]
          by_cases hrz : r = z
          · rw [hrz]; exact List.mem_append.2 (.inr (List.mem_singleton.2 rfl))
          · rw [if_neg hrz] at q; exact List.mem_append.2 (.inl (hm r b q)))
      · have e1 : sf135_L1 N L ((j : Int), mp, (n : Int), t, lo, hi, (n : Int) + 1, F, (0 : Int), (0 : Int), (0 : Int), (0 : Int), (0 : Int), (fun _ => 0)) = some (.inr (.inl (upm mp z true, (0 : Int), (0 : Int), (0 : Int), (0 : Int), (0 : Int), (fun _ => 0), (0 : Int), (0 : Int), (0 : Int), (0 : Int), (0 : Int), (fun _ => 0)))) := by
          unfold sf135_L1
          dsimp only
          rw [decide_eq_true (by omega), cond_true, ix_at rfl hz, hg, cond_false, e, bnd_ret]
          rfl
        exact .inr ⟨(upm mp z true, (0 : Int), (0 : Int), (0 : Int), (0 : Int), (0 : Int), (fun _ => 0)), iter_e e1, fun p hp => S' p ((hS p).2 ⟨hp.1, fun r hr' => hp.2 r (List.mem_of_mem_take hr')⟩) (hp.2 z hzL)⟩
theorem s89 {N n : Nat} {t lo hi : Int} {L : List (Int × Int × Int × Int)} (ht : TubeOk n t lo hi) (hL : L.length ≤ 100) (hr : AllP (RdOk' n) L) (hN : 1000 ≤ N) :
    (∃ F, sf135 N n t lo hi L = some ((n : Int), t, lo, hi, (n : Int) + 1, F, true) ∧ Gd n F ∧ ∀ p, SatF n F p ↔ TruS n t lo hi L p) ∨
    (sf135 N n t lo hi L = some ((0 : Int), (0 : Int), (0 : Int), (0 : Int), (0 : Int), (fun _ => 0), false) ∧ ∀ p, ¬ TruS n t lo hi L p) := by
  have hn : n ≤ 12 := by have := ht.2.1; omega
  obtain ⟨e97, g97, _, _⟩ := s97 (N := N) ht hN
  unfold sf135
  rw [e97, bnd_ret]
  dsimp only
  rcases s89_loop (N := N) (t := t) (lo := lo) (hi := hi) hn hL hr hN L.length 0 N (fun _ => none) (unr n t lo hi) (by omega) (by omega) g97 (fun p => by rw [sat_unr ht]; simp) (fun r b q => by cases q) with ⟨mp', F', e, G, S⟩ | ⟨w, e, S⟩
  · refine .inl ⟨F', ?_, G, S⟩
    rw [show (0 : Int) = ((0 : Nat) : Int) from rfl] at e ⊢
    rw [e]; rfl
  · refine .inr ⟨?_, S⟩
    rw [show (0 : Int) = ((0 : Nat) : Int) from rfl] at e ⊢
    rw [e]; rfl
def bdF (n : Nat) (F : Nat → Int) : List (Int × Int) := (List.range (n + 1)).map fun (i : Nat) => (-F (i * 13 + 0), F (0 * 13 + i))
theorem bdF_len {n : Nat} {F : Nat → Int} : (bdF n F).length = n + 1 := by unfold bdF; simp
theorem bdF_at {n i : Nat} {F : Nat → Int} (h : i ≤ n) : (bdF n F)[i]? = some (-F (i * 13 + 0), F (0 * 13 + i)) := by
  unfold bdF
  rw [List.getElem?_map, List.getElem?_range (by omega)]; rfl
theorem s73F {N n : Nat} {t lo hi : Int} {F : Nat → Int} (hn : n ≤ 12) (gd : Gd n F) (hN : 1000 ≤ N) : sf108 N n t lo hi ((n : Int) + 1) F = some (bdF n F) := by
  unfold sf108
  have e : iter (sf108_L1 N n t lo hi ((n : Int) + 1) F) N (([] : List (Int × Int)), (0 : Int)) = some (bdF n F) := by
    refine iter_up (fun k => ((List.range k).map (fun i : Nat => (-F (i * 13 + 0), F (0 * 13 + i))), (k : Int))) (n + 1) _ rfl (fun k hk => ?_) ?_ (by omega)
    · have l1 := gd.lb (i := k) (j := 0) (by omega) (by omega)
      have l2 := gd.ub k 0 (by omega) (by omega)
      have x90 : sf136 N n t lo hi ((n : Int) + 1) F k = some (-F (k * 13 + 0)) := by
        unfold sf136
        rw [ck_pos (by omega), ck_pos (by omega), toN, show Int.toNat 0 = 0 from rfl, ck_pos (by unfold rng; omega)]
      have x91 : sf137 N n t lo hi ((n : Int) + 1) F k = some (F (0 * 13 + k)) := by
        unfold sf137
        rw [ck_pos (by omega), ck_pos (by omega), toN, show Int.toNat 0 = 0 from rfl]
      unfold sf108_L1
      dsimp only
      rw [decide_eq_true (by omega), cond_true, x90, bnd_ret, x91, bnd_ret, ck_pos (by simp; omega), ck_pos (by unfold rng; omega), List.range_succ, List.map_append]
      rfl
    · unfold sf108_L1
      dsimp only
      rw [decide_eq_false (by omega), cond_false]
      rfl
  rw [show sf96 N = some () from rfl, bnd_ret, ck_pos (by unfold rng; omega), ck_pos (by omega), show List.replicate (Int.toNat 0) ((0 : Int), (0 : Int)) = [] from rfl, e, bnd_ret]
theorem s29_ok {N n : Nat} {t lo hi : Int} {L : List (Int × Int × Int × Int)} (ht : TubeOk n t lo hi) (hL : L.length ≤ 12) (hr : AllP (RdOk' n) L) (hN : 1000 ≤ N) :
    (∃ F, sf70 N n t lo hi L = some (bdF n F, 0) ∧ Gd n F ∧ ∀ p, SatF n F p ↔ TruS n t lo hi L p) ∨
    (sf70 N n t lo hi L = some ([], 9) ∧ ∀ p, ¬ TruS n t lo hi L p) := by
  have hn : n ≤ 12 := by have := ht.2.1; omega
  have e64 : sf134 N n t lo hi L = some 0 := by rw [s64 (by omega) hN, if_pos ht, if_pos hL, if_pos hr]
  unfold sf70 sf94
  rw [e64, bnd_ret]
  rw [decide_eq_true rfl, Bool.not_true, cond_false, cond_false]
  rcases s89 (N := N) ht (by omega) hr hN with ⟨F, e, G, S⟩ | ⟨e, S⟩
  · refine .inl ⟨F, ?_, G, S⟩
    rw [e, bnd_ret]
    dsimp only
    rw [Bool.not_true, cond_false, bnd_ret]
    dsimp only
    rw [decide_eq_true rfl, Bool.not_true, cond_false, s73F hn G hN, bnd_ret]
  · refine .inr ⟨?_, S⟩
    rw [e, bnd_ret]
    rfl
theorem s29_bad {N : Nat} {n t lo hi : Int} {L : List (Int × Int × Int × Int)} (hL : L.length ≤ 100) (hN : 1000 ≤ N) (h : ¬ (TubeOk n t lo hi ∧ L.length ≤ 12 ∧ AllP (RdOk' n) L)) : ∃ e, (e = 1 ∨ e = 2 ∨ e = 3) ∧ e = (if TubeOk n t lo hi then if L.length ≤ 12 then if AllP (RdOk' n) L then (0 : Int) else 2 else 3 else 1) ∧ sf70 N n t lo hi L = some ([], e) := by
  have hx : ∀ e : Int, e ≠ 0 → sf134 N n t lo hi L = some e → sf70 N n t lo hi L = some ([], e) := fun e he h64 => by
    unfold sf70 sf94
    rw [h64, bnd_ret]
    rw [decide_eq_false he, Bool.not_false, cond_true, bnd_ret]
    dsimp only
    rw [decide_eq_false he, Bool.not_false, cond_true]
  have e64 := s64 (N := N) (n := n) (t := t) (lo := lo) (hi := hi) hL hN
  by_cases a1 : TubeOk n t lo hi
  · by_cases a2 : L.length ≤ 12
    · by_cases a3 : AllP (RdOk' n) L
      · exact absurd ⟨a1, a2, a3⟩ h
      · rw [if_pos a1, if_pos a2, if_neg a3] at e64
        exact ⟨2, .inr (.inl rfl), by rw [if_pos a1, if_pos a2, if_neg a3], hx 2 (by decide) e64⟩
    · rw [if_pos a1, if_neg a2] at e64
      exact ⟨3, .inr (.inr rfl), by rw [if_pos a1, if_neg a2], hx 3 (by decide) e64⟩
  · rw [if_neg a1] at e64
    exact ⟨1, .inl rfl, by rw [if_neg a1], hx 1 (by decide) e64⟩
theorem low_sat {n : Nat} {F : Nat → Int} (h : Gd n F) : SatF n F fun j => -F (j * 13 + 0) := fun i j hi hj => by
  have := h.tri i j 0 hi hj (Nat.zero_le _)
  show -F (j * 13 + 0) - -F (i * 13 + 0) ≤ _
  omega
theorem high_sat {n : Nat} {F : Nat → Int} (h : Gd n F) : SatF n F fun j => F (0 * 13 + j) := fun i j hi hj => by
  have := h.tri 0 i j (Nat.zero_le _) hi hj
  show F (0 * 13 + j) - F (0 * 13 + i) ≤ _
  omega
def W16 (x : Int) : Prop := 0 ≤ x ∧ x < 65536
theorem tm {a b : Int} (ha : 0 ≤ a) (hb : 0 < b) : 0 ≤ Int.tmod a b ∧ Int.tmod a b < b := by
  rw [Int.tmod_eq_emod_of_nonneg ha]
  exact ⟨Int.emod_nonneg _ (by omega), Int.emod_lt_of_pos _ hb⟩
theorem td {a b : Int} (ha : 0 ≤ a) : Int.tdiv a b = a / b := Int.tdiv_eq_ediv_of_nonneg ha
theorem tme {a b : Int} (ha : 0 ≤ a) : Int.tmod a b = a % b := Int.tmod_eq_emod_of_nonneg ha
theorem wrap_id {x : Int} (h : W16 x) : IntKind.wrap .i64 x = x := by
  unfold W16 at h
  have e : x % 2 ^ IntKind.bits .i64 = x := by
    show x % 18446744073709551616 = x
    omega
  unfold IntKind.wrap
  simp only [e]
  rw [if_neg]
  intro hc
  have hc2 := of_decide_eq_true (Bool.and_eq_true_iff.1 hc).2
  have : (9223372036854775808 : Int) ≤ x := hc2
  omega
theorem s62 {N : Nat} {l : List Int} {k : Int} (hl : AllP W16 l) (hk : 0 ≤ k) : ∃ w, sf133 N l k = some w ∧ W16 w := by
  unfold sf133
  by_cases h : l.length = 0
  · rw [decide_eq_true (by omega), cond_true]; exact ⟨0, rfl, by unfold W16; omega⟩
  · rw [decide_eq_false (by omega), cond_false, ck_pos (by omega)]
    have := tm (a := k) (b := l.length) hk (by omega)
    obtain ⟨j, hj⟩ : ∃ j : Nat, Int.tmod k l.length = j := ⟨(Int.tmod k l.length).toNat, by omega⟩
    obtain ⟨z, hz⟩ : ∃ z, l[j]? = some z := ⟨_, lt_some (by omega)⟩
    have hw := hl z (List.mem_of_getElem? hz)
    rw [hj, ix_at rfl hz, ck_pos (wrap_id hw)]
    exact ⟨z, rfl, hw⟩
theorem hs_all {l : List Int} {k : Nat} (h : l.length = k) : hs l k = l.sum := by
  unfold hs
  rw [List.take_of_length_le (by omega)]
theorem vol_of {lo hi : Int} {l : List Int} (h1 : 1 ≤ lo) (h2 : hi ≤ 200) (h : AllP (InV lo hi) l) : AllP Vol l := fun x hx => by
  have := h x hx
  unfold InV at this
  unfold Vol; omega
theorem hs_mono {l : List Int} (h : AllP Vol l) (i : Nat) : ∀ d, i + d ≤ l.length → hs l i ≤ hs l (i + d)
  | 0, _ => Int.le_refl _
  | d + 1, hd => by
    have ih := hs_mono h i d (by omega)
    obtain ⟨x, hx⟩ : ∃ x, l[i + d]? = some x := ⟨_, lt_some (by omega)⟩
    have := h x (List.mem_of_getElem? hx)
    unfold Vol at this
    rw [← Nat.add_assoc, hs_succ hx]; omega
def RdX (n : Nat) (v : List Int) (r : Int × Int × Int × Int) : Prop := RdOk' n r ∧ RdS n r (hs v)
theorem s54 {N n : Nat} {t lo hi : Int} {v W : List Int} (ht : TubeOk n t lo hi) (hl : v.length = n) (hv : AllP (InV lo hi) v) (hs' : v.sum = t) (hW : AllP W16 W) (hN : 1000 ≤ N) : ∃ L, sf93 N n t lo hi v W = some L ∧ L.length ≤ 12 ∧ L.length ≤ W.length ∧ AllP (RdX n v) L := by
  obtain ⟨t1, t2, ⟨t3, t4, t5⟩, t6, t7, t8, t9⟩ := ht
  have hb := vol_of t3 t5 hv
  have ht' : hs v n = t := by rw [hs_all hl, hs']
  have H := iter_ind (step := sf93_L2 N n t v W) (fun x => ∃ k : Nat, x.2 = k ∧ k ≤ 12 ∧ k ≤ W.length ∧ x.1.length = k ∧ AllP (RdX n v) x.1) (fun x => 12 - x.2.toNat) (fun L => L.length ≤ 12 ∧ L.length ≤ W.length ∧ AllP (RdX n v) L) (by
    rintro ⟨out, _⟩ ⟨k, rfl, hk, hkw, hlen, hA⟩
    dsimp only at hlen hA ⊢
    by_cases hc : k < W.length ∧ k < 12
    · refine .inl ?_
      obtain ⟨w, hw⟩ : ∃ w, W[k]? = some w := ⟨_, lt_some hc.1⟩
      have w16 := hW w (List.mem_of_getElem? hw)
      have w0 : 0 ≤ w := w16.1
      have tf := tm (a := w) (b := n) w0 (by omega)
      obtain ⟨f, hf⟩ : ∃ f : Nat, Int.tmod w n = f := ⟨(Int.tmod w n).toNat, by omega⟩
      have hfn : f < n := by omega
      have bf := hs_b hb f (by omega)
      have mf := hs_mono hb f (n - f) (by omega)
      rw [show f + (n - f) = n by omega, ht'] at mf
      unfold W16 at w16
      have ea : Int.tdiv w 16 = w / 16 := td w0
      have eb : Int.tmod (Int.tdiv w 16) 256 = w / 16 % 256 := by rw [ea, tme (by omega)]
      have ec : Int.tdiv w 4096 = w / 4096 := td w0
      have ed : Int.tmod (Int.tdiv w 4096) 4 = w / 4096 % 4 := by rw [ec, tme (by omega)]
      have ee : Int.tdiv w 8192 = w / 8192 := td w0
      have ef : Int.tmod (Int.tdiv w 8192) 3 = w / 8192 % 3 := by rw [ee, tme (by omega)]
      obtain ⟨A, hAdef⟩ : ∃ A, A = w / 16 % 256 := ⟨_, rfl⟩
      have A0 : 0 ≤ A ∧ A ≤ 255 := by omega
      obtain ⟨B, hB⟩ : ∃ B, B = t - hs v f + 5 := ⟨_, rfl⟩
      have B0 : 5 ≤ B ∧ B ≤ 2005 := by omega
      have p1 : 0 * B ≤ A * B := Int.mul_le_mul_of_nonneg_right A0.1 (by omega)
      have p2 : A * B ≤ 255 * B := Int.mul_le_mul_of_nonneg_right A0.2 (by omega)
      obtain ⟨T, hT⟩ : ∃ T, Int.tdiv (A * B) 256 = T := ⟨_, rfl⟩
      have T0 : 0 ≤ T ∧ T ≤ 1998 := by rw [td (by omega)] at hT; omega
      obtain ⟨a, ha⟩ : ∃ a, a = w / 4096 % 4 := ⟨_, rfl⟩
      obtain ⟨b, hb'⟩ : ∃ b, b = w / 8192 % 3 := ⟨_, rfl⟩
      have a0 : 0 ≤ a ∧ a ≤ 3 := by omega
      have b0 : 0 ≤ b ∧ b ≤ 2 := by omega
      -- where the thread ends
      have hin : ∃ g : Nat, iter (sf93_L1 N n t v w (hs v f)) N (f : Int) = some (g : Int) ∧ f ≤ g ∧ g ≤ n ∧ hs v g - hs v f ≤ T ∧ (g < n → T < hs v (g + 1) - hs v f) := by
        have H := iter_ind (step := sf93_L1 N n t v w (hs v f)) (fun x => ∃ g : Nat, x = g ∧ f ≤ g ∧ g ≤ n ∧ hs v g - hs v f ≤ T) (fun x => n - x.toNat) (fun y => ∃ g : Nat, y = g ∧ f ≤ g ∧ g ≤ n ∧ hs v g - hs v f ≤ T ∧ (g < n → T < hs v (g + 1) - hs v f)) (by
          rintro _ ⟨g, rfl, g1, g2, g3⟩
          unfold sf93_L1
          rw [hf, eb, ← hAdef, ← hB, hT]
          by_cases hg : g < n
          · have bg := hs_b hb (g + 1) (by omega)
            rw [decide_eq_true (by omega), cond_true, ck_pos (by unfold rng; omega), show (g : Int) + 1 = ((g + 1 : Nat) : Int) from rfl, s38 (by omega) (by omega) hb hN, bnd_ret, s38 (by omega) (by omega) hb hN, bnd_ret, ck_pos (by unfold rng; omega)]
            by_cases hd : hs v (g + 1) - hs v f ≤ T
            · rw [decide_eq_true hd, bnd_ret, cond_true, ck_pos (by unfold rng; omega)]
              exact .inl ⟨_, rfl, ⟨g + 1, rfl, by omega, by omega, hd⟩, by omega⟩
            · rw [decide_eq_false hd, bnd_ret, cond_false]
              exact .inr ⟨_, rfl, g, rfl, g1, g2, g3, fun _ => by omega⟩
          · rw [decide_eq_false (by omega), cond_false, bnd_ret, cond_false]
            exact .inr ⟨_, rfl, g, rfl, g1, g2, g3, fun q => absurd q hg⟩) N (f : Int) ⟨f, rfl, Nat.le_refl _, by omega, by omega⟩ (by omega)
        obtain ⟨y, e, g, rfl, q⟩ := H
        exact ⟨g, e, q⟩
      obtain ⟨g, eg, g1, g2, g3, g4⟩ := hin
      refine ⟨(out ++ [((f : Int), (g : Int), max 0 (T - a), min 2000 (T + b))], ((k + 1 : Nat) : Int)), ?_, ⟨k + 1, rfl, by omega, by omega, by simp; omega, ?_⟩, by dsimp only; omega⟩
      · unfold sf93_L2
        dsimp only
        rw [decide_eq_true (by omega), cond_true, decide_eq_true (by omega), bnd_ret, cond_true, bnd_ret, sL, ix_at rfl hw, ck_pos (wrap_id ⟨w0, by omega⟩), ck_pos (by omega), ck_pos (by rw [ea]; unfold rng; omega), ck_pos (by omega), hf, s38 (by omega) (by omega) hb hN, bnd_ret, ck_pos (by unfold rng; omega), ck_pos (by unfold rng; omega), eb, ← hAdef, ← hB, ck_pos (by unfold rng; omega), hT, ck_pos (by unfold rng; omega), eg, bnd_ret, ed, ef, ← ha, ← hb', ck_pos (by rw [ec]; unfold rng; omega), ck_pos (by omega), ck_pos (by unfold rng; omega), ck_pos (by rw [ee]; unfold rng; omega), ck_pos (by omega), ck_pos (by unfold rng; omega), ck_pos (by omega), ck_pos (by unfold rng; omega)]
        rfl
      · intro x hx
        rcases List.mem_append.1 hx with q | q
        · exact hA x q
        · rw [List.mem_singleton.1 q]
          refine ⟨⟨⟨by dsimp only; omega, by dsimp only; omega⟩, ⟨by dsimp only; omega, by dsimp only; omega⟩, by dsimp only; omega, by dsimp only; omega, by dsimp only; omega⟩, ?_, fun q => ?_⟩
          · dsimp only [toN]
            show hs v (Int.toNat g) - hs v (Int.toNat f) ≤ _
            rw [toN, toN]; omega
          · dsimp only at q ⊢
            rw [toN, toN]
            have := g4 (by omega)
            omega
    · refine .inr ⟨out, ?_, by omega, by omega, hA⟩
      unfold sf93_L2
      dsimp only
      by_cases h1 : k < W.length
      · rw [decide_eq_true (by omega), cond_true, decide_eq_false (by omega)]; rfl
      · rw [decide_eq_false (by omega), cond_false]; rfl) N (([] : List (Int × Int × Int × Int)), (0 : Int)) ⟨0, rfl, by omega, by omega, rfl, fun x hx => (by cases hx)⟩ (by dsimp only; omega)
  obtain ⟨L, e, q1, q2, q3⟩ := H
  refine ⟨L, ?_, q1, q2, q3⟩
  unfold sf93
  rw [e, bnd_ret]
end Go.Hx.V

namespace Go.Hx.V
open Go.Hx
def Pr (z : Int × Int) : Prop := (1 ≤ z.1 ∧ z.1 ≤ 2000) ∧ 1 ≤ z.2 ∧ z.2 ≤ 2000
instance {z : Int × Int} : Decidable (Pr z) := by unfold Pr; infer_instance
def OrdT (l : List (Int × Int)) : Prop := ∀ i a b, l[i]? = some a → l[i + 1]? = some b → a.1 < b.1 ∧ a.2 < b.2
def TbOk (l : List (Int × Int)) : Prop := 2 ≤ l.length ∧ AllP Pr l ∧ OrdT l
theorem q25 {N : Nat} {a b c : Int} : sf25 N a b c = some (decide (b ≤ a ∧ a ≤ c)) := by
  unfold sf25
  by_cases h : b ≤ a <;> simp [h]
theorem q144 {N : Nat} {a b c : Int} : sf144 N a b c = some (decide (a ≤ c ∧ c ≤ b)) := by
  unfold sf144
  by_cases h : a ≤ c <;> simp [h]
theorem q110 {N : Nat} {a b c : Int} : sf110 N a b c = some (decide (a ≤ c ∧ c ≤ b)) := by
  unfold sf110
  by_cases h : a ≤ c <;> simp [h]
theorem q86 {N : Nat} {p q a b : Int} : sf86 N p q a b = some (decide (a ≤ p ∧ p ≤ q ∧ q ≤ b)) := by
  unfold sf86
  rw [q25, bnd_ret]
  by_cases h : a ≤ p ∧ p ≤ q
  · rw [decide_eq_true h, cond_true]; simp [h]
  · rw [decide_eq_false h, cond_false]
    congr 1
    exact (decide_eq_false fun h' => h ⟨h'.1, h'.2.1⟩).symm
theorem q139 {N : Nat} {p q a b : Int} : sf139 N p q a b = some (decide (a ≤ p ∧ p ≤ q ∧ q ≤ b)) := by
  unfold sf139
  by_cases h : p ≤ q
  · rw [decide_eq_true h, cond_true, q144, bnd_ret]
    by_cases h2 : a ≤ p ∧ p ≤ b
    · rw [decide_eq_true h2, cond_true, q144, bnd_ret]
      refine congrArg some (decide_eq_decide.2 ?_); omega
    · rw [decide_eq_false h2, cond_false]
      exact congrArg some (decide_eq_false (by omega)).symm
  · rw [decide_eq_false h, cond_false]
    exact congrArg some (decide_eq_false (by omega)).symm
theorem q102 {N : Nat} {p q a b : Int} : sf102 N p q a b = some (decide (a ≤ p ∧ p ≤ q ∧ q ≤ b)) := by
  unfold sf102
  by_cases h : p ≤ q
  · rw [decide_eq_true h, cond_true, q110, bnd_ret]
    by_cases h2 : a ≤ p ∧ p ≤ b
    · rw [decide_eq_true h2, cond_true, q110, bnd_ret]
      refine congrArg some (decide_eq_decide.2 ?_); omega
    · rw [decide_eq_false h2, cond_false]
      exact congrArg some (decide_eq_false (by omega)).symm
  · rw [decide_eq_false h, cond_false]
    exact congrArg some (decide_eq_false (by omega)).symm
theorem q156 {N : Nat} {z : Int × Int} : sf156 N z.1 z.2 = some (decide (Pr z)) := by
  unfold sf156
  rw [q144, bnd_ret]
  by_cases h : 1 ≤ z.1 ∧ z.1 ≤ 2000
  · rw [decide_eq_true h, cond_true, q144, bnd_ret]
    refine congrArg some (decide_eq_decide.2 ⟨fun q => ⟨h, q⟩, fun q => q.2⟩)
  · rw [decide_eq_false h, cond_false]
    exact congrArg some (decide_eq_false fun q => h q.1).symm
theorem q155 {N : Nat} {l : List (Int × Int)} (h : l.length ≤ 100) (hN : 1000 ≤ N) : sf155 N l = some (decide (AllP Pr l)) := by
  unfold sf155
  rcases all_loopE (step := sf155_L1 N l) (l := l) (p := Pr) (N := N) (by omega) (by
      intro j z hz hp
      have := some_lt hz
      unfold sf155_L1
      rw [decide_eq_true (by omega), cond_true, ix_at rfl hz, q156, bnd_ret, decide_eq_true hp, Bool.not_true, cond_false, ck_pos (by unfold rng; omega)]) (by
      intro j z hz hp
      have := some_lt hz
      unfold sf155_L1
      rw [decide_eq_true (by omega), cond_true, ix_at rfl hz, q156, bnd_ret, decide_eq_false hp]
      rfl) (by
      unfold sf155_L1
      rw [decide_eq_false (by omega), cond_false]) with ⟨hA, e⟩ | ⟨hA, e⟩
  · rw [e, bnd_ret, decide_eq_true hA]; rfl
  · rw [e, bnd_ret, decide_eq_false hA]; rfl
theorem q157 {N : Nat} {l : List (Int × Int)} (h : l.length ≤ 100) (h2 : 2 ≤ l.length) (hN : 1000 ≤ N) : ∃ b : Bool, sf157 N l = some b ∧ (b = true ↔ OrdT l) := by
  haveI : DecidablePred fun (j : Nat) => ∀ a b, l[j]? = some a → l[j + 1]? = some b → a.1 < b.1 ∧ a.2 < b.2 := fun j => Classical.propDecidable _
  have H := iter_all (step := sf157_L1 N l) (x := (1 : Int)) (N := N) (fun j => ((j + 1 : Nat) : Int)) (l.length - 1) (fun (j : Nat) => ∀ a b, l[j]? = some a → l[j + 1]? = some b → a.1 < b.1 ∧ a.2 < b.2) (Sum.inr () : Unit ⊕ Unit) (Sum.inl () : Unit ⊕ Unit) rfl (fun j hj hp => by
      obtain ⟨a, ha⟩ : ∃ a, l[j]? = some a := ⟨_, lt_some (by omega)⟩
      obtain ⟨b, hb⟩ : ∃ b, l[j + 1]? = some b := ⟨_, lt_some (by omega)⟩
      have := hp a b ha hb
      unfold sf157_L1 sf158
      rw [decide_eq_true (by omega), cond_true, ck_pos (by unfold rng; omega), ix_at (n := j) (by omega) ha, ix_at rfl hb, decide_eq_true this.1, cond_true, decide_eq_true this.2, bnd_ret, Bool.not_true, cond_false, ck_pos (by unfold rng; omega)]
      rfl) (fun j hj hp => by
      obtain ⟨a, ha⟩ : ∃ a, l[j]? = some a := ⟨_, lt_some (by omega)⟩
      obtain ⟨b, hb⟩ : ∃ b, l[j + 1]? = some b := ⟨_, lt_some (by omega)⟩
      have hp' : ¬ (a.1 < b.1 ∧ a.2 < b.2) := fun q => hp fun a' b' e1 e2 => by
        rw [ha] at e1; rw [hb] at e2; cases e1; cases e2; exact q
      unfold sf157_L1 sf158
      rw [decide_eq_true (by omega), cond_true, ck_pos (by unfold rng; omega), ix_at (n := j) (by omega) ha, ix_at rfl hb]
      by_cases c : a.1 < b.1
      · rw [decide_eq_true c, cond_true, decide_eq_false (by omega), bnd_ret]; rfl
      · rw [decide_eq_false c, cond_false, bnd_ret]; rfl) (by
      unfold sf157_L1
      rw [show l.length - 1 + 1 = l.length by omega, decide_eq_false (by omega), cond_false]) (by omega)
  unfold sf157
  rcases H with ⟨h1, e⟩ | ⟨h1, e⟩
  · refine ⟨true, by rw [e]; rfl, fun _ i a b ha hb => ?_, fun _ => rfl⟩
    have := some_lt hb
    exact h1 i (by omega) a b ha hb
  · refine ⟨false, by rw [e]; rfl, fun q => (by cases q), fun q => (h1 fun j hj => q j).elim⟩
theorem q138 {N : Nat} {l : List (Int × Int)} (h : l.length ≤ 8) (hN : 1000 ≤ N) : (TbOk l ∧ sf138 N l = some 0) ∨ (¬ TbOk l ∧ sf138 N l = some 1) := by
  unfold sf138
  rw [decide_eq_false (by omega), cond_false]
  by_cases h2 : l.length < 2
  · rw [decide_eq_true (by omega), cond_true, bnd_ret]
    exact .inr ⟨fun q => by have := q.1; omega, rfl⟩
  · rw [decide_eq_false (by omega), cond_false, q155 (by omega) hN, bnd_ret]
    by_cases hA : AllP Pr l
    · obtain ⟨b, e, hb⟩ := q157 (N := N) (l := l) (by omega) (by omega) hN
      rw [decide_eq_true hA, Bool.not_true, cond_false, e, bnd_ret, bnd_ret]
      cases b with
      | true => exact .inl ⟨⟨by omega, hA, hb.1 rfl⟩, rfl⟩
      | false => exact .inr ⟨fun q => (by have := hb.2 q.2.2; cases this), rfl⟩
    · rw [decide_eq_false hA]
      exact .inr ⟨fun q => hA q.2.1, rfl⟩
theorem q85 {N : Nat} {l : List (Int × Int)} (h : l.length ≤ 100) (hN : 1000 ≤ N) : (TbOk l ∧ sf85 N l = some true) ∨ (¬ TbOk l ∧ sf85 N l = some false) := by
  haveI : DecidablePred fun (j : Nat) => ∀ b, l[j]? = some b → Pr b ∧ (0 < j → ∀ a, l[j - 1]? = some a → a.1 < b.1 ∧ a.2 < b.2) := fun j => Classical.propDecidable _
  have H := iter_all (step := sf85_L1 N l) (x := (0 : Int)) (N := N) (fun j => (j : Int)) l.length (fun (j : Nat) => ∀ b, l[j]? = some b → Pr b ∧ (0 < j → ∀ a, l[j - 1]? = some a → a.1 < b.1 ∧ a.2 < b.2)) (Sum.inr () : Unit ⊕ Unit) (Sum.inl () : Unit ⊕ Unit) rfl (fun j hj hp => by
      obtain ⟨b, hb⟩ : ∃ b, l[j]? = some b := ⟨_, lt_some (by omega)⟩
      obtain ⟨⟨q1, q2⟩, q3⟩ := hp b hb
      unfold sf85_L1
      rw [decide_eq_true (by omega), cond_true, ix_at rfl hb, q25, bnd_ret, decide_eq_true q1, Bool.not_true, cond_false, ix_at rfl hb, q25, bnd_ret, decide_eq_true q2, Bool.not_true, cond_false]
      by_cases c : 0 < j
      · obtain ⟨a, ha⟩ : ∃ a, l[j - 1]? = some a := ⟨_, lt_some (by omega)⟩
        have := q3 c a ha
        rw [decide_eq_true (by omega), cond_true, ix_at rfl hb, ck_pos (by unfold rng; omega), ix_at (n := j - 1) (by omega) ha, decide_eq_false (by omega), cond_false, ix_at rfl hb, ck_pos (by unfold rng; omega), ix_at (n := j - 1) (by omega) ha, decide_eq_false (by omega), bnd_ret, cond_false, ck_pos (by unfold rng; omega)]
        rfl
      · rw [decide_eq_false (by omega), cond_false, bnd_ret, cond_false, ck_pos (by unfold rng; omega)]
        rfl) (fun j hj hp => by
      obtain ⟨b, hb⟩ : ∃ b, l[j]? = some b := ⟨_, lt_some (by omega)⟩
      unfold sf85_L1
      rw [decide_eq_true (by omega), cond_true, ix_at rfl hb, q25, bnd_ret]
      by_cases q1 : 1 ≤ b.1 ∧ b.1 ≤ 2000
      · rw [decide_eq_true q1, Bool.not_true, cond_false, ix_at rfl hb, q25, bnd_ret]
        by_cases q2 : 1 ≤ b.2 ∧ b.2 ≤ 2000
        · rw [decide_eq_true q2, Bool.not_true, cond_false]
          by_cases c : 0 < j
          · obtain ⟨a, ha⟩ : ∃ a, l[j - 1]? = some a := ⟨_, lt_some (by omega)⟩
            have q3 : ¬ (a.1 < b.1 ∧ a.2 < b.2) := fun q => hp fun b' e => by
              rw [hb] at e; cases e
              exact ⟨⟨q1, q2⟩, fun _ a' e => by rw [ha] at e; cases e; exact q⟩
            rw [decide_eq_true (by omega), cond_true, ix_at rfl hb, ck_pos (by unfold rng; omega), ix_at (n := j - 1) (by omega) ha]
            by_cases q4 : b.1 ≤ a.1
            · rw [decide_eq_true q4, cond_true, bnd_ret]; rfl
            · rw [decide_eq_false q4, cond_false, ix_at rfl hb, ck_pos (by unfold rng; omega), ix_at (n := j - 1) (by omega) ha, decide_eq_true (by omega), bnd_ret]; rfl
          · exact (hp fun b' e => by rw [hb] at e; cases e; exact ⟨⟨q1, q2⟩, fun c' => absurd c' c⟩).elim
        · rw [decide_eq_false q2]; rfl
      · rw [decide_eq_false q1]; rfl) (by
      unfold sf85_L1
      rw [decide_eq_false (by omega), cond_false]) (by omega)
  unfold sf85
  rcases H with ⟨h1, e⟩ | ⟨h1, e⟩
  · rw [e, bnd_ret, sR]
    have hA : AllP Pr l := fun x hx => by
      obtain ⟨j, hj, rfl⟩ := List.getElem_of_mem hx
      exact (h1 j hj _ (lt_some hj)).1
    have hO : OrdT l := fun i a b ha hb => by
      have := some_lt hb
      exact (h1 (i + 1) this b hb).2 (by omega) a ha
    by_cases c : 2 ≤ l.length
    · rw [decide_eq_true (by omega)]; exact .inl ⟨⟨c, hA, hO⟩, rfl⟩
    · rw [decide_eq_false (by omega)]; exact .inr ⟨fun q => c q.1, rfl⟩
  · rw [e, bnd_ret, sL]
    refine .inr ⟨fun q => h1 fun j hj b hb => ⟨q.2.1 b (List.mem_of_getElem? hb), fun c a ha => ?_⟩, rfl⟩
    exact q.2.2 (j - 1) a b ha (by rw [show j - 1 + 1 = j by omega]; exact hb)
def seg (x y : Int × Int) (p : Int) : Int := x.2 + Int.tdiv ((y.2 - x.2) * (p - x.1)) (y.1 - x.1)
theorem seg_b {x y : Int × Int} {p : Int} (hx : Pr x) (hy : Pr y) (h1 : x.1 < y.1) (h2 : x.2 < y.2) (h3 : x.1 ≤ p) (h4 : p ≤ y.1) : 0 ≤ (y.2 - x.2) * (p - x.1) ∧ (y.2 - x.2) * (p - x.1) ≤ 4000000 ∧ 0 ≤ Int.tdiv ((y.2 - x.2) * (p - x.1)) (y.1 - x.1) ∧ Int.tdiv ((y.2 - x.2) * (p - x.1)) (y.1 - x.1) ≤ y.2 - x.2 := by
  unfold Pr at hx hy
  have a1 : 0 ≤ (y.2 - x.2) * (p - x.1) := Int.mul_nonneg (by omega) (by omega)
  have a2 : (y.2 - x.2) * (p - x.1) ≤ (y.2 - x.2) * (y.1 - x.1) := Int.mul_le_mul_of_nonneg_left (by omega) (by omega)
  have a3 : (y.2 - x.2) * (p - x.1) ≤ 2000 * (p - x.1) := Int.mul_le_mul_of_nonneg_right (by omega) (by omega)
  rw [td a1]
  refine ⟨a1, by omega, Int.ediv_nonneg a1 (by omega), ?_⟩
  exact Int.ediv_le_of_le_mul (by omega) a2
theorem q160 {N : Nat} {a b : Int} (h : 0 ≤ a) (hb : 0 < b) (h2 : a ≤ 4000000) : sf160 N a b = some (Int.tdiv a b) := by
  unfold sf160
  have t := tm h hb
  have e : Int.tdiv a b = a / b := td h
  have b1 : 0 ≤ a / b := Int.ediv_nonneg h (by omega)
  have b2 : a / b ≤ a := Int.ediv_le_self _ h
  rw [ck_pos (by rw [e]; unfold rng; omega), ck_pos (by omega), decide_eq_false (by omega), cond_false]
def At (l : List (Int × Int)) (p : Int) (k : Nat) (x y : Int × Int) : Prop := l[k]? = some x ∧ l[k + 1]? = some y ∧ x.1 ≤ p ∧ p ≤ y.1 ∧ ∀ i z, i < k → l[i + 1]? = some z → z.1 < p
theorem at_ex {l : List (Int × Int)} {p : Int} (hl : TbOk l) {a b : Int × Int} (ha : l[0]? = some a) (hb : l[l.length - 1]? = some b) (h1 : a.1 ≤ p) (h2 : p ≤ b.1) : ∃ k x y, At l p k x y := by
  have h2l := hl.1
  have : ∃ k, k + 1 < l.length ∧ ∀ z, l[k + 1]? = some z → p ≤ z.1 := ⟨l.length - 2, by omega, fun z hz => by
    rw [show l.length - 2 + 1 = l.length - 1 by omega, hb] at hz; cases hz; exact h2⟩
  obtain ⟨k, hk, hmin⟩ : ∃ k, (k + 1 < l.length ∧ ∀ z, l[k + 1]? = some z → p ≤ z.1) ∧ ∀ i, i < k → ¬ (i + 1 < l.length ∧ ∀ z, l[i + 1]? = some z → p ≤ z.1) := by
    obtain ⟨k, hk⟩ := this
    induction k using Nat.strongRecOn with
    | ind k ih =>
      by_cases g : ∃ i, i < k ∧ (i + 1 < l.length ∧ ∀ z, l[i + 1]? = some z → p ≤ z.1)
      · obtain ⟨i, hi, hi2⟩ := g
        exact ih i hi hi2
      · exact ⟨k, hk, fun i hi q => g ⟨i, hi, q⟩⟩
  obtain ⟨x, hx⟩ : ∃ x, l[k]? = some x := ⟨_, lt_some (by omega)⟩
  obtain ⟨y, hy⟩ : ∃ y, l[k + 1]? = some y := ⟨_, lt_some (by omega)⟩
  refine ⟨k, x, y, hx, hy, ?_, hk.2 y hy, fun i z hi hz => ?_⟩
  · cases k with
    | zero => rw [ha] at hx; cases hx; exact h1
    | succ k =>
      refine Int.le_of_lt (Int.not_le.1 fun q => hmin k (by omega) ⟨by omega, fun z hz => ?_⟩)
      rw [hx] at hz; cases hz; exact q
  · exact Int.not_le.1 fun q => hmin i hi ⟨some_lt hz, fun z' hz' => by rw [hz] at hz'; cases hz'; exact q⟩
theorem q73 {N : Nat} {l : List (Int × Int)} {p : Int} {k : Nat} {x y : Int × Int} (hl : TbOk l) (h8 : l.length ≤ 100) (h : At l p k x y) (hN : 1000 ≤ N) : sf73 N l p = some (seg x y p) := by
  obtain ⟨hx, hy, h1, h2, h3⟩ := h
  have hk := some_lt hy
  have px := hl.2.1 x (List.mem_of_getElem? hx)
  have py := hl.2.1 y (List.mem_of_getElem? hy)
  have o := hl.2.2 k x y hx hy
  have sb := seg_b px py o.1 o.2 h1 h2
  have e : iter (sf73_L1 l p) N (0 : Int) = some (k : Int) := by
    refine iter_up (fun j => (j : Int)) k _ rfl (fun j hj => ?_) ?_ (by omega)
    · obtain ⟨z, hz⟩ : ∃ z, l[j + 1]? = some z := ⟨_, lt_some (by omega)⟩
      unfold sf73_L1
      rw [ck_pos (by unfold rng; omega), ix_at (j := (j : Int) + 1) (n := j + 1) (by omega) hz, decide_eq_true (h3 j z hj hz), cond_true, ck_pos (by unfold rng; omega)]
      rfl
    · unfold sf73_L1
      rw [ck_pos (by unfold rng; omega), ix_at (j := (k : Int) + 1) (n := k + 1) (by omega) hy, decide_eq_false (by omega), cond_false]
  unfold sf73
  unfold Pr at px py
  rw [e, bnd_ret, ix_at rfl hx, ck_pos (by unfold rng; omega), ix_at (j := (k : Int) + 1) (n := k + 1) (by omega) hy, ck_pos (by unfold rng; omega), ck_pos (by unfold rng; omega), ck_pos (by unfold rng; omega), ck_pos (by unfold rng; omega), ck_pos (by unfold rng; omega), ck_pos (by unfold rng; omega)]
  rfl
theorem tb_lt {l : List (Int × Int)} (hl : TbOk l) {i : Nat} {a : Int × Int} (ha : l[i]? = some a) : ∀ (d : Nat) (b : Int × Int), l[i + d + 1]? = some b → a.1 < b.1 ∧ a.2 < b.2
  | 0, b, hb => hl.2.2 i a b ha hb
  | d + 1, b, hb => by
    have := some_lt hb
    obtain ⟨c, hc⟩ : ∃ c, l[i + d + 1]? = some c := ⟨_, lt_some (by omega)⟩
    have q1 := tb_lt hl ha d c hc
    have q2 := hl.2.2 (i + d + 1) c b hc (by rw [show i + d + 1 + 1 = i + (d + 1) + 1 by omega]; exact hb)
    omega
theorem seg_end {x y : Int × Int} (h : x.1 < y.1) : seg x y y.1 = y.2 := by
  unfold seg
  rw [Int.mul_tdiv_cancel _ (by omega)]; omega
theorem seg_begin {x y : Int × Int} : seg x y x.1 = x.2 := by
  unfold seg
  rw [Int.sub_self, Int.mul_zero, Int.zero_tdiv]; omega
theorem q140 {N : Nat} {l : List (Int × Int)} {a b : Int × Int} (h : l.length ≤ 100) (ha : l[0]? = some a) (hb : l[l.length - 1]? = some b) : sf140 N l = some (a.1, b.1) := by
  have := some_lt ha
  unfold sf140
  rw [ix_0 ha, ck_pos (by unfold rng; omega), ix_at (n := l.length - 1) (by omega) hb]
theorem q141 {N : Nat} {l : List (Int × Int)} {p : Int} {k : Nat} {x y : Int × Int} (hl : TbOk l) (h8 : l.length ≤ 100) (h : At l p k x y) (hN : 1000 ≤ N) : sf141 N l p = some (seg x y p) := by
  obtain ⟨hx, hy, h1, h2, h3⟩ := h
  have hk := some_lt hy
  have px := hl.2.1 x (List.mem_of_getElem? hx)
  have py := hl.2.1 y (List.mem_of_getElem? hy)
  have o := hl.2.2 k x y hx hy
  have hp : 1 ≤ p ∧ p ≤ 2000 := by unfold Pr at px py; omega
  have e : iter (sf141_L1 N l p) N ((1 : Int), (0 : Int)) = some (seg x y p) := by
    refine iter_up (fun j => (((j + 1 : Nat) : Int), if j ≤ k then (0 : Int) else seg x y p)) (l.length - 1) _ (by simp) (fun j hj => ?_) ?_ (by omega)
    · obtain ⟨a, ha⟩ : ∃ a, l[j]? = some a := ⟨_, lt_some (by omega)⟩
      obtain ⟨b, hb⟩ : ∃ b, l[j + 1]? = some b := ⟨_, lt_some (by omega)⟩
      have pa := hl.2.1 a (List.mem_of_getElem? ha)
      have pb := hl.2.1 b (List.mem_of_getElem? hb)
      have ob := hl.2.2 j a b ha hb
      have e2 : (l.drop (Int.toNat (((j + 1 : Nat) : Int) - 1))).take ((Int.toNat (((j + 1 : Nat) : Int) + 1)) - (Int.toNat (((j + 1 : Nat) : Int) - 1))) = [a, b] := by
        rw [show Int.toNat (((j + 1 : Nat) : Int) - 1) = j by omega, show Int.toNat (((j + 1 : Nat) : Int) + 1) - j = 2 by omega]
        apply List.ext_getElem?
        intro i
        rw [List.getElem?_take]
        by_cases c : i < 2
        · rw [if_pos c, List.getElem?_drop]
          rcases show i = 0 ∨ i = 1 by omega with rfl | rfl
          · exact ha
          · exact hb
        · rw [if_neg c, List.getElem?_eq_none (by simp; omega)]
      have e3 : sf140 N [a, b] = some (a.1, b.1) := q140 (by simp) rfl rfl
      unfold sf141_L1
      dsimp only
      rw [decide_eq_true (by omega), cond_true, ck_pos (by unfold rng; omega), ck_pos (by unfold rng; omega), ck_pos (by omega), e2, e3, bnd_ret, q144, bnd_ret]
      dsimp only
      by_cases c : a.1 ≤ p ∧ p ≤ b.1
      · have sb := seg_b pa pb ob.1 ob.2 c.1 c.2
        have hv : seg a b p = seg x y p := by
          rcases Nat.lt_trichotomy j k with q | q | q
          · have := h3 j b q hb; omega
          · subst q
            rw [hx] at ha; cases ha
            rw [hy] at hb; cases hb
            rfl
          · rcases Nat.lt_or_ge j (k + 2) with q2 | q2
            · obtain rfl : j = k + 1 := by omega
              rw [hy] at ha; cases ha
              have : p = y.1 := by omega
              rw [this, seg_begin, seg_end o.1]
            · have := tb_lt hl hy (j - k - 2) a (by rw [show k + 1 + (j - k - 2) + 1 = j by omega]; exact ha)
              omega
        have hjk : k ≤ j := by
          rcases Nat.lt_or_ge j k with q | q
          · have := h3 j b q hb; omega
          · exact q
        unfold Pr at pa pb
        rw [decide_eq_true c, cond_true, ck_pos (by unfold rng; omega), ix_at (n := j) (by omega) ha, ix_at rfl hb, ck_pos (by unfold rng; omega), ck_pos (by unfold rng; omega), ck_pos (by unfold rng; omega), ck_pos (by unfold rng; omega), q160 sb.1 (by omega) sb.2.1, bnd_ret, ck_pos (by unfold rng; omega), ck_pos (by unfold rng; omega)]
        rw [if_neg (by omega)]
        show some (Sum.inl (_, seg a b p)) = _
        rw [hv]
        rfl
      · rw [decide_eq_false c, cond_false, ck_pos (by unfold rng; omega)]
        have hne : j ≠ k := fun q => by
          subst q
          rw [hx] at ha; cases ha
          rw [hy] at hb; cases hb
          exact c ⟨h1, h2⟩
        have e5 : (if j + 1 ≤ k then (0 : Int) else seg x y p) = if j ≤ k then (0 : Int) else seg x y p := by
          by_cases q : j ≤ k
          · rw [if_pos q, if_pos (by omega)]
          · rw [if_neg q, if_neg (by omega)]
        rw [e5]
        rfl
    · unfold sf141_L1
      dsimp only
      rw [show l.length - 1 + 1 = l.length by omega, decide_eq_false (by omega), cond_false, if_neg (by omega)]
  unfold sf141
  rw [e, bnd_ret]
end Go.Hx.V

