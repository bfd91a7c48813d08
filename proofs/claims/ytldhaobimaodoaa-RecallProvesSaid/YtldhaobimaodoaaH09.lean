/- Functions of the program come to that. -/
import Derived.Test.YtldhaobimaodoaaH07
import Derived.Test.YtldhaobimaodoaaH04
import Derived.Test.YtldhaobimaodoaaH08
import Derived.Test.YtldhaobimaodoaaH03
import Derived.OpenShut
import Derived.ChangeSlices
import Derived.Test.YtldhaobimaodoaaRows
set_option linter.all false
/- Functions of the program come to that. -/
namespace Go.Hx.V.A
open Go.Hx
set_option linter.unusedVariables false
set_option maxRecDepth 20000
set_option maxHeartbeats 4000000
attribute [local irreducible] W R C thenH inBlockH Tr.get Tr.set lo ck bnd ix iter
theorem ct54 (N : Nat) {a0_0 : Int} {a0_1 : Int} {a0_2 : (List (Int × Int × Int × Int × Int))} {a0_3 : ME} {a1 : Int} {r : (Int × Int)} (hF : ∀ l, l.Perm a0_3 → sf54o N a0_0 a0_1 a0_2 a0_3 a1 l = some r) {h0 : Tr HBlk} {n0 : Nat} {F0 : PH} (hd : D h0 n0) (hs : F0.sub h0) {pa0_2 : Option (Nat × Nat)} {ca0_2 : Nat} {pa0_3 : Option Nat} (ra0_2 : RowF (rP rI (rP rI (rP rI (rP rI rI)))) 5 F0 pa0_2 ca0_2 a0_2) (ra0_3 : MapF F0 pa0_3 a0_3) (hmap : ∃ mb, pa0_3 = some mb ∧ F0 mb = some (.map a0_3)) : SX PRG n0 none L54.body (XQ n0 L54.res (.agg [(i64 r.1), (i64 r.2)])) (enter (Nat.max L54.nt ([(.agg [(i64 a0_0), (i64 a0_1), (.slice pa0_2 (a0_2).length ca0_2), (.map pa0_3)]), (i64 a1)] : List HV).length) [(.agg [(i64 a0_0), (i64 a0_1), (.slice pa0_2 (a0_2).length ca0_2), (.map pa0_3)]), (i64 a1)]) ⟨h0, n0⟩ := by
  unfold sf54o at hF
  have hfl : n0 ≤ n0 := Nat.le_refl n0
  refine in_xT (lf := L54) (by rfl) (fun T hT => ?_)
  have st := St.start hd hs
  have t0 := hT 0 _ rfl
  have t1 := hT 1 _ rfl
  dsimp only [L54]
  refine sx_seq ?_; refine sx_of_w mixed lx_ok ?_; refine w_reg ?_; refine v_box st (fun b1 h2 n3 st => ?_); refine v_alloc st (fun b4 h5 n6 st => ?_); refine r_nil ?_; refine thx_n ?_; refine sx_seq ?_; refine sx_of_w mixed lx_ok ?_; refine w_reg ?_; refine v_move ?_; refine r_nil ?_; refine thx_n ?_; refine sx_seq ?_
  have st := st.nilL 2
  have w7 : LR (rP rI rI) 2 F0 ([] : List (Int × Int)) [] := LR.nil
  obtain ⟨mb10, rfl, fmb10⟩ : ∃ mb, pa0_3 = some mb ∧ F0 mb = some (.map a0_3) := hmap
  have hmb10 := st.sub _ _ (fmb10)
  refine sx_forFoldL mixed lx_ok (nt := L54.nt) (kt := 103) (et := 3) (es := a0_3) (sf54_S N a0_0 a0_1 a0_2 a0_3 a1) (fun itb mb x9 T ds10 h nx => F0 mb = some (.map a0_3) ∧ ∃ (F10 : PH) (o11 : Option Nat) (c11 : Nat) (cs11 : List HV), ds10 = [] ∧ PH.le F0 F10 ∧ St n0 h0 F0 F10 h nx [.bx b1 [(i64 a0_0), (i64 a0_1), (.slice pa0_2 (a0_2).length ca0_2), (.map (some mb10))], .bx b4 [(i64 (0 : Int)), (i64 (0 : Int))], .ls o11 c11 cs11 2] ∧ LR (rP rI rI) 2 F10 x9 cs11 ∧ T.get 1 = some (i64 a1) ∧ T.get 2 = some (.ptr (some (b1, 0))) ∧ T.get 4 = some (.ptr (some (b4, 0))) ∧ T.get 5 = some (slv o11 (x9).length c11) ∧ T.get 11 = some (.ptr (some (itb, 0)))) ([] : List (Int × Int)) rfl (by kernel_rfl) (by decide) (by decide) (by decide) (by decide) (by decide) (by decide) (fun l hl => let ⟨y, hy, _⟩ := bnd_some (hF l hl); ⟨y, hy⟩) ?_ (fun itb mb x9 T ds10 h nx hp => ?_) (fun itb mb x9 x' e T ds10 hc10 nc10 hp he hF => ?_) (fun itb mb x9 T ds10 hd10 nd10 hp hl => ?_)
  · refine v_fa ?_; refine v_ld1 (st.at (i := 0) rfl).2.2 rfl ?_
    refine r_nil ⟨_, _, _, _, mb10, rfl, rfl, gA, hmb10, d_get st, fmb10, (by have st := st.up (Nat.le_succ _); exact ⟨F0, none, 0, [], rfl, (PH.le.refl _), st, w7, gA, gA, gA, gA, gA⟩)⟩
  · obtain ⟨hcm, F10, o11, c11, cs11, rfl, le10, st, w11, t1, t2, t4, t5, t11⟩ := hp
    exact ⟨t11, st.sub _ _ (le10 _ _ hcm)⟩
  · obtain ⟨hcm, F10, o11, c11, cs11, rfl, le10, st, w11, t1, t2, t4, t5, t11⟩ := hp; obtain ⟨key_, val_⟩ := e; unfold sf54_S at hF; obtain ⟨k12, ek, hF_⟩ := bnd_some hF
    clear hF
    obtain ⟨v13, ev, hF⟩ := bnd_some hF_
    clear hF_
    obtain ⟨cs_, z_, ek⟩ := dAg_some ek; obtain ⟨c0_, y0_, ek⟩ := dBA_some ek
    have y_ := dI0_some ek
    subst y_
    subst y0_
    have ek := z_
    dsimp only at ek
    subst ek
    have ev := dI_some ev
    dsimp only at ev
    subst ev
    refine v_xt rfl ?_; refine v_alloc st (fun b14 h15 n16 st => ?_)
    have st := st.cells 3 rfl ((eB 8 (fun _ => false)) ++ [(i64 (0 : Int))]) rfl
    refine v_st (v := (.agg ((eB 8 k12.1) ++ [(i64 k12.2)]))) (cs' := ((eB 8 k12.1) ++ [(i64 k12.2)])) st 3 rfl rfl rfl rfl hfl (fun h17 st => ?_); refine r_nil ?_; refine w_seq ?_; refine w_reg ?_; refine v_fa ?_; refine v_ldn (vs := [(i64 a0_0), (i64 a0_1), (.slice pa0_2 (a0_2).length ca0_2)]) (st.at (i := 0) rfl).2.2 rfl ?_; refine v_ldn (vs := ((eB 8 k12.1) ++ [(i64 k12.2)])) (st.at (i := 3) rfl).2.2 rfl ?_; refine v_move ?_; obtain ⟨v18, e19, hF⟩ := bnd_some hF; refine v_call st (ct64 N e19 st.d st.sub (RowF.mono le10 ra0_2)) (fun n20 st => ?_); refine v_move ?_; refine v_xt rfl ?_; refine v_xt rfl ?_; refine v_alloc st (fun b21 h22 n23 st => ?_)
    have st := st.cells 4 rfl ((eB 8 (fun _ => false)) ++ [(i64 (0 : Int))]) rfl
    refine v_st (v := (.agg ((eB 8 v18.1) ++ [(i64 v18.2.1)]))) (cs' := ((eB 8 v18.1) ++ [(i64 v18.2.1)])) st 4 rfl rfl rfl rfl hfl (fun h24 st => ?_); refine v_move ?_; refine r_nil ?_; refine th_n ?_; obtain ⟨y32, hA33, hF⟩ := bnd_some hF; refine w_cutD (fun T ds35 h nx => ∃ (F35 : PH), ds35 = [] ∧ PH.le F10 F35 ∧ St n0 h0 F0 F35 h nx [.bx b1 [(i64 a0_0), (i64 a0_1), (.slice pa0_2 (a0_2).length ca0_2), (.map (some mb10))], .bx b4 [(i64 (0 : Int)), (i64 (0 : Int))], .ls o11 c11 cs11 2, .bx b14 ((eB 8 k12.1) ++ [(i64 k12.2)]), .bx b21 ((eB 8 v18.1) ++ [(i64 v18.2.1)])] ∧ T.get 1 = some (i64 a1) ∧ T.get 2 = some (.ptr (some (b1, 0))) ∧ T.get 4 = some (.ptr (some (b4, 0))) ∧ T.get 5 = some (slv o11 (x9).length c11) ∧ T.get 7 = some (.ptr (some (b21, 0))) ∧ T.get 11 = some (.ptr (some (itb, 0))) ∧ T.get 31 = some (.bool y32)) ?_ (fun T ds35 hc35 nc35 hp => ?_)
    · have hK34 := hF
      have hF := hA33; refine w_reg ?_; refine v_move ?_; refine v_move ?_
      rcases Bool.eq_false_or_eq_true v18.2.2 with hb36 | hb36
      · have hF := bif_t hb36 hF; refine g_take hb36 (v_ldn (vs := [(i64 a0_0), (i64 a0_1), (.slice pa0_2 (a0_2).length ca0_2), (.map (some mb10))]) (st.at (i := 0) rfl).2.2 rfl ?_); refine g_take hb36 (v_move ?_); refine g_take hb36 (v_ldn (vs := ((eB 8 v18.1) ++ [(i64 v18.2.1)])) (st.at (i := 4) rfl).2.2 rfl ?_); obtain ⟨v37, e38, hF⟩ := bnd_some hF; refine g_take hb36 (v_call st (ct68 N e38 st.d st.sub (RowF.mono le10 ra0_2) (MapF.mono le10 ra0_3)) (fun n39 st => ?_)); obtain ⟨v40, e41, hF⟩ := bnd_some hF; refine g_take hb36 (v_call st (ct69 N e41 st.d st.sub ) (fun n42 st => ?_)); refine v_pick hb36 ?_; refine r_nil ?_; obtain rfl := inj hF; refine thn ⟨rfl, ?_⟩; dsimp only
        exact ⟨F10, rfl, (PH.le.refl _), st, gA, gA, gA, gA, gA, gA, gA⟩
      · have hF := bif_f hb36 hF; refine g_skip hb36 ?_; refine g_skip hb36 ?_; refine g_skip hb36 ?_; refine g_skip hb36 ?_; refine g_skip hb36 ?_; refine v_pick' hb36 ?_; refine r_nil ?_; obtain rfl := inj hF; refine thn ⟨rfl, ?_⟩; dsimp only
        exact ⟨F10, rfl, (PH.le.refl _), st, gA, gA, gA, gA, gA, gA, gA⟩
    · obtain ⟨F35, rfl, le35, st, t1, t2, t4, t5, t7, t11, t31⟩ := hp
      have le43 := PH.le.trans le10 le35
      refine v_cond (fun hb44 => ?_) (fun hb44 => ?_)
      · have hF := bif_t hb44 hF; refine w_reg ?_; refine v_move ?_; refine v_ldn (vs := [(i64 a0_0), (i64 a0_1), (.slice pa0_2 (a0_2).length ca0_2), (.map (some mb10))]) (st.at (i := 0) rfl).2.2 rfl ?_; refine v_move ?_; refine v_ldn (vs := ((eB 8 v18.1) ++ [(i64 v18.2.1)])) (st.at (i := 4) rfl).2.2 rfl ?_; obtain ⟨v45, e46, hF⟩ := bnd_some hF; refine v_call st (ct68 N e46 st.d st.sub (RowF.mono le43 ra0_2) (MapF.mono le43 ra0_3)) (fun n47 st => ?_); refine v_bs (cs := [(i64 v45.1), (i64 v45.2)]) st rfl (fun b48 h49 n50 st => ?_); obtain ⟨q51, hF⟩ := ck_some hF
        have w51 : LR (rP rI rI) 2 F35 (x9 ++ [(v45.1, v45.2)]) (cs11 ++ [(i64 v45.1), (i64 v45.2)]) := LR.app (LR.mono le35 w11) (LR.one (⟨[(i64 v45.1)], _, rfl, rfl, rfl⟩))
        refine v_aps (n := 1) (ox := 0) (m := (x9 ++ [(v45.1, v45.2)]).length) (row := [(i64 v45.1), (i64 v45.2)]) st 2 rfl (LR.mono le35 w11).1 (st.at (i := 5) rfl).2.2 rfl rfl q51 hfl (by decide) (by decide) (by simp) (fun o51 c51 h51 n51 st => ?_)
        refine v_move ?_; refine r_nil ?_; obtain rfl := inj hF; refine ib_n ⟨rfl, rfl, ?_⟩; dsimp only
        exact ⟨hcm, ⟨F35, o51, c51, (cs11 ++ [(i64 v45.1), (i64 v45.2)]), rfl, le43, (st.drop (by first | exact List.Sublist.refl _ | (repeat first | exact List.nil_sublist _ | refine List.Sublist.cons_cons _ ?_ | refine List.Sublist.cons _ ?_))), w51, gA, gA, gA, gA, gA⟩⟩
      · have hF := bif_f hb44 hF; refine w_skip ?_; obtain rfl := inj hF; refine ib_n ⟨rfl, rfl, ?_⟩; dsimp only
        exact ⟨hcm, ⟨F35, o11, c11, cs11, rfl, le43, (st.drop (by first | exact List.Sublist.refl _ | (repeat first | exact List.nil_sublist _ | refine List.Sublist.cons_cons _ ?_ | refine List.Sublist.cons _ ?_))), (LR.mono le35 w11), gA, gA, gA, gA, gA⟩⟩
  · obtain ⟨hcm, F10, o11, c11, cs11, rfl, le10, st, w11, t1, t2, t4, t5, t11⟩ := hp; obtain ⟨l, hl, hy⟩ := hl; have hF := bnd_at (hF l hl) hy; refine thx_n ?_; refine sx_of_w mixed lx_ok ?_; refine w_seq ?_; refine w_reg ?_; refine v_move ?_; obtain ⟨v52, e53, hF⟩ := bnd_some hF
    refine v_call st (ct72 N e53 st.d (all_sub _) (st.row_all (i := 2) rfl w11 (by decide))) (fun n54 st => ?_)
    refine v_st (cs' := [(i64 v52.1), (i64 v52.2)]) st 1 rfl rfl rfl rfl hfl (fun h55 st => ?_); refine r_nil ?_; refine th_n ?_; refine w_ret ?_; obtain rfl := inj hF
    exact end_x (Res.c gA (st.at (i := 1) rfl).2.2 (show takeN _ _ = some [(i64 v52.1), (i64 v52.2)] from rfl) Res.nil) rfl (.inl rfl)
theorem ct58 (N : Nat) {a0_0 : Int} {a0_1 : Int} {a0_2 : (List (Int × Int × Int × Int × Int))} {a0_3 : ME} {a1 : Int} {a2 : Int} {r : (Int × Int)} (hF : ∀ l, l.Perm a0_3 → sf58o N a0_0 a0_1 a0_2 a0_3 a1 a2 l = some r) {h0 : Tr HBlk} {n0 : Nat} {F0 : PH} (hd : D h0 n0) (hs : F0.sub h0) {pa0_2 : Option (Nat × Nat)} {ca0_2 : Nat} {pa0_3 : Option Nat} (ra0_2 : RowF (rP rI (rP rI (rP rI (rP rI rI)))) 5 F0 pa0_2 ca0_2 a0_2) (ra0_3 : MapF F0 pa0_3 a0_3) (hmap : ∃ mb, pa0_3 = some mb ∧ F0 mb = some (.map a0_3)) : SX PRG n0 none L58.body (XQ n0 L58.res (.agg [(i64 r.1), (i64 r.2)])) (enter (Nat.max L58.nt ([(.agg [(i64 a0_0), (i64 a0_1), (.slice pa0_2 (a0_2).length ca0_2), (.map pa0_3)]), (i64 a1), (i64 a2)] : List HV).length) [(.agg [(i64 a0_0), (i64 a0_1), (.slice pa0_2 (a0_2).length ca0_2), (.map pa0_3)]), (i64 a1), (i64 a2)]) ⟨h0, n0⟩ := by
  unfold sf58o at hF
  have hfl : n0 ≤ n0 := Nat.le_refl n0
  refine in_xT (lf := L58) (by rfl) (fun T hT => ?_)
  have st := St.start hd hs
  have t0 := hT 0 _ rfl
  have t1 := hT 1 _ rfl
  have t2 := hT 2 _ rfl
  dsimp only [L58]
  refine sx_seq ?_; refine sx_of_w mixed lx_ok ?_; refine w_reg ?_; refine v_box st (fun b1 h2 n3 st => ?_); refine v_alloc st (fun b4 h5 n6 st => ?_); refine r_nil ?_; refine thx_n ?_; refine sx_seq ?_; refine sx_of_w mixed lx_ok ?_; refine w_reg ?_; refine v_move ?_; refine r_nil ?_; refine thx_n ?_; refine sx_seq ?_
  have st := st.nilL 2
  have w7 : LR (rP rI rI) 2 F0 ([] : List (Int × Int)) [] := LR.nil
  obtain ⟨mb10, rfl, fmb10⟩ : ∃ mb, pa0_3 = some mb ∧ F0 mb = some (.map a0_3) := hmap
  have hmb10 := st.sub _ _ (fmb10)
  refine sx_forFoldL mixed lx_ok (nt := L58.nt) (kt := 103) (et := 3) (es := a0_3) (sf58_S N a0_0 a0_1 a0_2 a1 a2) (fun itb mb x9 T ds10 h nx => F0 mb = some (.map a0_3) ∧ ∃ (F10 : PH) (o11 : Option Nat) (c11 : Nat) (cs11 : List HV), ds10 = [] ∧ PH.le F0 F10 ∧ St n0 h0 F0 F10 h nx [.bx b1 [(i64 a0_0), (i64 a0_1), (.slice pa0_2 (a0_2).length ca0_2), (.map (some mb10))], .bx b4 [(i64 (0 : Int)), (i64 (0 : Int))], .ls o11 c11 cs11 2] ∧ LR (rP rI rI) 2 F10 x9 cs11 ∧ T.get 1 = some (i64 a1) ∧ T.get 2 = some (i64 a2) ∧ T.get 3 = some (.ptr (some (b1, 0))) ∧ T.get 6 = some (.ptr (some (b4, 0))) ∧ T.get 7 = some (slv o11 (x9).length c11) ∧ T.get 13 = some (.ptr (some (itb, 0)))) ([] : List (Int × Int)) rfl (by kernel_rfl) (by decide) (by decide) (by decide) (by decide) (by decide) (by decide) (fun l hl => let ⟨y, hy, _⟩ := bnd_some (hF l hl); ⟨y, hy⟩) ?_ (fun itb mb x9 T ds10 h nx hp => ?_) (fun itb mb x9 x' e T ds10 hc10 nc10 hp he hF => ?_) (fun itb mb x9 T ds10 hd10 nd10 hp hl => ?_)
  · refine v_fa ?_; refine v_ld1 (st.at (i := 0) rfl).2.2 rfl ?_
    refine r_nil ⟨_, _, _, _, mb10, rfl, rfl, gA, hmb10, d_get st, fmb10, (by have st := st.up (Nat.le_succ _); exact ⟨F0, none, 0, [], rfl, (PH.le.refl _), st, w7, gA, gA, gA, gA, gA, gA⟩)⟩
  · obtain ⟨hcm, F10, o11, c11, cs11, rfl, le10, st, w11, t1, t2, t3, t6, t7, t13⟩ := hp
    exact ⟨t13, st.sub _ _ (le10 _ _ hcm)⟩
  · obtain ⟨hcm, F10, o11, c11, cs11, rfl, le10, st, w11, t1, t2, t3, t6, t7, t13⟩ := hp; obtain ⟨key_, val_⟩ := e; unfold sf58_S at hF; obtain ⟨k12, ek, hF_⟩ := bnd_some hF
    clear hF
    obtain ⟨v13, ev, hF⟩ := bnd_some hF_
    clear hF_
    obtain ⟨cs_, z_, ek⟩ := dAg_some ek; obtain ⟨c0_, y0_, ek⟩ := dBA_some ek
    have y_ := dI0_some ek
    subst y_
    subst y0_
    have ek := z_
    dsimp only at ek
    subst ek
    have ev := dI_some ev
    dsimp only at ev
    subst ev
    refine v_xt rfl ?_; refine v_xt rfl ?_; refine v_alloc st (fun b14 h15 n16 st => ?_)
    have st := st.cells 3 rfl ((eB 8 (fun _ => false)) ++ [(i64 (0 : Int))]) rfl
    refine v_st (v := (.agg ((eB 8 k12.1) ++ [(i64 k12.2)]))) (cs' := ((eB 8 k12.1) ++ [(i64 k12.2)])) st 3 rfl rfl rfl rfl hfl (fun h17 st => ?_); refine v_move ?_; refine r_nil ?_; obtain ⟨y19, hA20, hF⟩ := bnd_some hF; refine w_cutD (fun T ds22 h nx => ∃ (F22 : PH), ds22 = [] ∧ PH.le F10 F22 ∧ St n0 h0 F0 F22 h nx [.bx b1 [(i64 a0_0), (i64 a0_1), (.slice pa0_2 (a0_2).length ca0_2), (.map (some mb10))], .bx b4 [(i64 (0 : Int)), (i64 (0 : Int))], .ls o11 c11 cs11 2, .bx b14 ((eB 8 k12.1) ++ [(i64 k12.2)])] ∧ T.get 1 = some (i64 a1) ∧ T.get 2 = some (i64 a2) ∧ T.get 3 = some (.ptr (some (b1, 0))) ∧ T.get 6 = some (.ptr (some (b4, 0))) ∧ T.get 7 = some (slv o11 (x9).length c11) ∧ T.get 8 = some (.ptr (some (b14, 0))) ∧ T.get 13 = some (.ptr (some (itb, 0))) ∧ T.get 27 = some (.bool y19)) ?_ (fun T ds22 hc22 nc22 hp => ?_)
    · have hK21 := hF
      have hF := hA20; refine w_reg ?_; refine v_fa ?_; refine v_ld1 (st.at (i := 3) rfl).2.2 rfl ?_; refine v_move ?_; refine v_leq ?_; refine v_move ?_
      rcases Bool.eq_false_or_eq_true (decide (k12.2 ≤ a2)) with hb23 | hb23
      · have hF := bif_t hb23 hF; refine g_take hb23 (v_move ?_); refine g_take hb23 (v_move ?_); refine g_take hb23 (v_lss ?_); refine v_pick hb23 ?_; refine r_nil ?_; obtain rfl := inj hF; refine thn ⟨rfl, ?_⟩; dsimp only
        exact ⟨F10, rfl, (PH.le.refl _), st, gA, gA, gA, gA, gA, gA, gA, gA⟩
      · have hF := bif_f hb23 hF; refine g_skip hb23 ?_; refine g_skip hb23 ?_; refine g_skip hb23 ?_; refine v_pick' hb23 ?_; refine r_nil ?_; obtain rfl := inj hF; refine thn ⟨rfl, ?_⟩; dsimp only
        exact ⟨F10, rfl, (PH.le.refl _), st, gA, gA, gA, gA, gA, gA, gA, gA⟩
    · obtain ⟨F22, rfl, le22, st, t1, t2, t3, t6, t7, t8, t13, t27⟩ := hp
      have le24 := PH.le.trans le10 le22
      refine v_cond (fun hb25 => ?_) (fun hb25 => ?_)
      · have hF := bif_t hb25 hF; refine w_seq ?_; refine w_reg ?_; refine v_fa ?_; refine v_ldn (vs := [(i64 a0_0), (i64 a0_1), (.slice pa0_2 (a0_2).length ca0_2)]) (st.at (i := 0) rfl).2.2 rfl ?_; refine v_fa ?_; refine v_ldn (vs := (eB 8 k12.1)) (st.at (i := 3) rfl).2.2 rfl ?_; obtain ⟨v26, e27, hF⟩ := bnd_some hF; refine v_call st (ct74 N e27 st.d st.sub (RowF.mono le24 ra0_2)) (fun n28 st => ?_); refine v_move ?_; obtain ⟨q29, hF⟩ := ck_some hF
        refine v_ixv (j := (Int.toNat a1)) (Int.toNat_of_nonneg q29.1) (by omega) (ar_get0 (n := 6) (off := (Int.toNat a1)) (ix := (Int.toNat a1)) rfl (by omega)) ?_
        refine v_move ?_; refine r_nil ?_; refine th_n ?_; refine w_reg ?_; refine v_move ?_; refine v_move ?_; refine v_move ?_; refine v_build (cs := [(i64 (v26 (Int.toNat a1))), (i64 (v26 (Int.toNat a1)))]) rfl ?_; refine v_bs (cs := [(i64 (v26 (Int.toNat a1))), (i64 (v26 (Int.toNat a1)))]) st rfl (fun b30 h31 n32 st => ?_); obtain ⟨q33, hF⟩ := ck_some hF
        have w33 : LR (rP rI rI) 2 F22 (x9 ++ [((v26 (Int.toNat a1)), (v26 (Int.toNat a1)))]) (cs11 ++ [(i64 (v26 (Int.toNat a1))), (i64 (v26 (Int.toNat a1)))]) := LR.app (LR.mono le22 w11) (LR.one (⟨[(i64 (v26 (Int.toNat a1)))], _, rfl, rfl, rfl⟩))
        refine v_aps (n := 1) (ox := 0) (m := (x9 ++ [((v26 (Int.toNat a1)), (v26 (Int.toNat a1)))]).length) (row := [(i64 (v26 (Int.toNat a1))), (i64 (v26 (Int.toNat a1)))]) st 2 rfl (LR.mono le22 w11).1 (st.at (i := 4) rfl).2.2 rfl rfl q33 hfl (by decide) (by decide) (by simp) (fun o33 c33 h33 n33 st => ?_)
        refine v_move ?_; refine r_nil ?_; obtain rfl := inj hF; refine ib_n ⟨rfl, rfl, ?_⟩; dsimp only
        exact ⟨hcm, ⟨F22, o33, c33, (cs11 ++ [(i64 (v26 (Int.toNat a1))), (i64 (v26 (Int.toNat a1)))]), rfl, le24, (st.drop (by first | exact List.Sublist.refl _ | (repeat first | exact List.nil_sublist _ | refine List.Sublist.cons_cons _ ?_ | refine List.Sublist.cons _ ?_))), w33, gA, gA, gA, gA, gA, gA⟩⟩
      · have hF := bif_f hb25 hF; refine w_skip ?_; obtain rfl := inj hF; refine ib_n ⟨rfl, rfl, ?_⟩; dsimp only
        exact ⟨hcm, ⟨F22, o11, c11, cs11, rfl, le24, (st.drop (by first | exact List.Sublist.refl _ | (repeat first | exact List.nil_sublist _ | refine List.Sublist.cons_cons _ ?_ | refine List.Sublist.cons _ ?_))), (LR.mono le22 w11), gA, gA, gA, gA, gA, gA⟩⟩
  · obtain ⟨hcm, F10, o11, c11, cs11, rfl, le10, st, w11, t1, t2, t3, t6, t7, t13⟩ := hp; obtain ⟨l, hl, hy⟩ := hl; have hF := bnd_at (hF l hl) hy; refine thx_n ?_; refine sx_of_w mixed lx_ok ?_; refine w_seq ?_; refine w_reg ?_; refine v_move ?_; obtain ⟨v34, e35, hF⟩ := bnd_some hF
    refine v_call st (ct72 N e35 st.d (all_sub _) (st.row_all (i := 2) rfl w11 (by decide))) (fun n36 st => ?_)
    refine v_st (cs' := [(i64 v34.1), (i64 v34.2)]) st 1 rfl rfl rfl rfl hfl (fun h37 st => ?_); refine r_nil ?_; refine th_n ?_; refine w_ret ?_; obtain rfl := inj hF
    exact end_x (Res.c gA (st.at (i := 1) rfl).2.2 (show takeN _ _ = some [(i64 v34.1), (i64 v34.2)] from rfl) Res.nil) rfl (.inl rfl)
end Go.Hx.V.A

/- When and holds are known, whatever order their maps come in. -/
namespace Go.Hx.V.A
open Go.Hx
set_option linter.unusedVariables false
/-- A store of a list's block and a map's. -/
noncomputable def sto (cs : List HV) (k : BK) (es : ME) : HS := ⟨(Tr.set .e 0 (some (.cells cs k))).set 1 (some (.map es)), 2⟩
theorem sto_get {cs : List HV} {k : BK} {es : ME} (b : Nat) : (sto cs k es).h.get b = if b = 1 then some (.map es) else if b = 0 then some (.cells cs k) else none := by
  unfold sto
  show ((Tr.set .e 0 _).set 1 _).get b = _
  rw [Tr.get_set, Tr.get_set]
  rw [show (Tr.e : Tr HBlk).get b = none from Tr.get_e b]
theorem rd5_len : ∀ {cs : List HV} {rs : List (Int × Int × Int × Int × Int)}, rd5 cs = some rs → cs.all flat1 = true ∧ ∀ (i : Nat) (x : Int × Int × Int × Int × Int), rs[i]? = some x → takeN 5 (cs.drop (i * 5)) = some [i64 x.1, i64 x.2.1, i64 x.2.2.1, i64 x.2.2.2.1, i64 x.2.2.2.2]
  | cs, rs, h => by
    unfold rd5 at h
    split at h
    · cases h; exact ⟨rfl, fun i x hx => by simp at hx⟩
    · rename_i a b c d e t
      obtain ⟨r, hr, rfl⟩ := Option.map_eq_some_iff.1 h
      obtain ⟨h1, h2⟩ := rd5_len hr
      refine ⟨by simpa [flat1] using h1, fun i x hx => ?_⟩
      cases i with
      | zero => simp at hx; subst hx; rfl
      | succ i =>
        have := h2 i x (by simpa using hx)
        rw [show (i + 1) * 5 = i * 5 + 5 by omega]
        exact this
    · cases h
theorem rdSl_some {σ : HS} {p : Option (Nat × Nat)} {l c : Nat} {rs : List (Int × Int × Int × Int × Int)} (h : rdSl σ p l c = some rs) : ∃ b cs k, p = some (b, 0) ∧ σ.h.get b = some (.cells cs k) ∧ cs.all flat1 = true ∧ rs.length = l ∧ l ≤ c ∧
    ∀ (i : Nat) (x : Int × Int × Int × Int × Int), rs[i]? = some x → takeN 5 (cs.drop (0 + i * 5)) = some [i64 x.1, i64 x.2.1, i64 x.2.2.1, i64 x.2.2.2.1, i64 x.2.2.2.2] := by
  unfold rdSl at h
  split at h
  · rename_i b
    split at h
    · rename_i cs k hb
      obtain ⟨r, hr, h⟩ := Option.bind_eq_some_iff.1 h
      cases hc : Nat.ble l r.length && Nat.ble l c with
      | false => rw [hc] at h; cases h
      | true =>
        rw [hc] at h
        cases h
        simp only [Bool.and_eq_true, Nat.ble_eq] at hc
        obtain ⟨h1, h2⟩ := rd5_len hr
        refine ⟨b, cs, k, rfl, hb, h1, by simp; omega, hc.2, fun i x hx => ?_⟩
        rw [Nat.zero_add]
        refine h2 i x ?_
        rw [List.getElem?_take] at hx
        split at hx
        · exact hx
        · cases hx
    · cases h
  · cases h
theorem rows_of {cs : List HV} {k : BK} {es : ME} {rs : List (Int × Int × Int × Int × Int)} {l c : Nat} (hl : rs.length = l) (hc : l ≤ c)
    (h : ∀ (i : Nat) (x : Int × Int × Int × Int × Int), rs[i]? = some x → takeN 5 (cs.drop (0 + i * 5)) = some [i64 x.1, i64 x.2.1, i64 x.2.2.1, i64 x.2.2.2.1, i64 x.2.2.2.2]) : RowF (rP rI (rP rI (rP rI (rP rI rI)))) 5 (sto cs k es).h.get (some (0, 0)) c rs :=
  ⟨by omega, fun _ => ⟨0, 0, cs, k, rfl, by rw [sto_get]; rfl, fun i x hx => ⟨_, h i x hx, _, _, rfl, rfl, _, _, rfl, rfl, _, _, rfl, rfl, _, _, rfl, rfl, rfl⟩⟩⟩
/-- Where its blocks lie. -/
def pi2 (b mb : Nat) : Nat → Option Nat := fun j => if j = 0 then some b else if j = 1 then some mb else none
theorem lr_vals {ρ : Rho} {b mb l c : Nat} {ow tot : Int} {rest : List HV} (hr : ∀ ρ' C, Go.Hx.LR ρ rest C → Go.Hx.LR ρ' rest C) (Args : List Value) (h : Go.Hx.LR ρ (.agg [i64 ow, i64 tot, .slice (some (b, 0)) l c, .map (some mb)] :: rest) Args) : Go.Hx.LR (fun j => (pi2 b mb j).bind ρ) (.agg [i64 ow, i64 tot, .slice (some (0, 0)) l c, .map (some 1)] :: rest) Args := by
  obtain ⟨u, C', rfl, hv, hs⟩ := Go.Hx.LR.inv h
  refine Go.Hx.LR.cons ?_ (hr _ _ hs)
  obtain ⟨C, rfl, hC⟩ := VR.inv_agg hv
  obtain ⟨u1, C1, rfl, v1, hC⟩ := Go.Hx.LR.inv hC
  obtain ⟨u2, C2, rfl, v2, hC⟩ := Go.Hx.LR.inv hC
  obtain ⟨u3, C3, rfl, v3, hC⟩ := Go.Hx.LR.inv hC
  obtain ⟨u4, C4, rfl, v4, hC⟩ := Go.Hx.LR.inv hC
  have := Go.Hx.LR.inv_nil hC
  subst this
  refine VR.aggL (Go.Hx.LR.cons (v1.f1 rfl) (Go.Hx.LR.cons (v2.f1 rfl) (Go.Hx.LR.cons ?_ (Go.Hx.LR.cons ?_ (Go.Hx.LR.nil _)))))
  · cases v3 with
    | slice hq => exact VR.slice (show (pi2 b mb 0).bind ρ = _ from hq)
    | slice00 a => exact VR.slice00 a
  · cases v4 with
    | map hq => exact VR.map (show (pi2 b mb 1).bind ρ = _ from hq)
theorem lr_ints : ∀ {ns : List Int} {ρ ρ' : Rho} {C : List Value}, Go.Hx.LR ρ (ns.map i64) C → Go.Hx.LR ρ' (ns.map i64) C
  | [], ρ, ρ', C, h => by rw [Go.Hx.LR.inv_nil h]; exact Go.Hx.LR.nil _
  | n :: ns, ρ, ρ', C, h => by
    obtain ⟨u, C', rfl, hv, hs⟩ := Go.Hx.LR.inv h
    exact Go.Hx.LR.cons (hv.f1 rfl) (lr_ints hs)
theorem rebase2 {f : Nat} {lf : LFunc} (hlf : LWA f = some lf) (hsp : lf.spec = none) {σ : HS} {b mb l c : Nat} {cs : List HV} {k : BK} {es : ME} {ow tot : Int} {ns : List Int} {v : HV}
    (hb : σ.h.get b = some (.cells cs k)) (hm : σ.h.get mb = some (.map es)) (h1 : cs.all flat1 = true) (h2 : flatE es = true)
    (hs : SX PRG 2 none lf.body (XQ 2 lf.res v) (enter (Nat.max lf.nt ((.agg [i64 ow, i64 tot, .slice (some (0, 0)) l c, .map (some 1)] :: ns.map i64 : List HV)).length) (.agg [i64 ow, i64 tot, .slice (some (0, 0)) l c, .map (some 1)] :: ns.map i64)) (sto cs k es)) :
    ∃ (σ0 : HS) (args0 : List HV) (π : Nat → Option Nat), Dom σ0 ∧ (∀ b, σ0.nx ≤ b → π b = none) ∧
      (∀ b x, σ0.h.get b = some x → ∃ c, π b = some c ∧ σ.h.get c = some x ∧ flatB x = true) ∧ (∀ b b' c, π b = some c → π b' = some c → b = b') ∧
      (∀ ρ Args, Go.Hx.LR ρ (.agg [i64 ow, i64 tot, .slice (some (b, 0)) l c, .map (some mb)] :: ns.map i64) Args → Go.Hx.LR (fun b => (π b).bind ρ) args0 Args) ∧
      SX PRG σ0.nx none lf.body (fun e a σ' => match e with | .exit _ => False | _ => ∃ σ'', leaveH σ0.nx a lf.res σ' = some (v, σ'')) (enter (Nat.max lf.nt args0.length) args0) σ0 := by
  have hne : b ≠ mb := fun e => by subst e; rw [hb] at hm; cases hm
  refine ⟨sto cs k es, _, pi2 b mb, fun j x hx => ?_, fun j hj => ?_, fun j x hx => ?_, fun i j c hi hj => ?_, fun ρ Args h => lr_vals (fun ρ' C h => lr_ints h) Args h, hs⟩
  · rw [sto_get] at hx
    show j < 2
    split at hx
    · omega
    · split at hx
      · omega
      · cases hx
  · have : 2 ≤ j := hj
    unfold pi2
    rw [if_neg (by omega), if_neg (by omega)]
  · rw [sto_get] at hx
    unfold pi2
    split at hx
    · rename_i e; subst e; cases hx; exact ⟨mb, rfl, hm, h2⟩
    · split at hx
      · rename_i e; subst e; cases hx; exact ⟨b, rfl, hb, h1⟩
      · cases hx
  · unfold pi2 at hi hj
    split at hi <;> split at hj
    · omega
    · split at hj
      · cases hi; cases hj; exact absurd rfl hne
      · cases hj
    · split at hi
      · cases hi; cases hj; exact absurd rfl hne
      · cases hi
    · split at hi <;> split at hj
      · omega
      · cases hj
      · cases hi
      · cases hi
theorem sto_d {cs : List HV} {k : BK} {es : ME} : D (sto cs k es).h 2 := by
  unfold D
  intro j hj
  rw [sto_get, if_neg (by omega), if_neg (by omega)]
theorem ok54 : SpecOk PRG 54 g54 := spec_rebase lx_ok la54 rfl (by
  intro args σ v σ' h
  unfold g54 at h
  split at h
  · rename_i ow tot p l c mb a1
    obtain ⟨rs, hrs, h⟩ := Option.bind_eq_some_iff.1 h
    split at h
    · rename_i es hes
      cases hf : flatE es with
      | false => rw [hf] at h; cases h
      | true =>
        rw [hf] at h
        obtain ⟨r, hr, h⟩ := Option.map_eq_some_iff.1 h
        obtain ⟨rfl, rfl⟩ := Prod.mk.injEq _ _ _ _ ▸ h
        obtain ⟨b, cs, k, rfl, hb, h1, h2, h3, h4⟩ := rdSl_some hrs
        refine ⟨rfl, rfl, rebase2 (ns := [a1]) la54 rfl hb hes h1 hf ?_⟩
        subst h2
        exact ct54 64 (fun l hl => (any54 64 ow tot rs es a1 hl).trans hr) sto_d (fun _ _ h => h) (rows_of rfl h3 h4) (show (sto cs k es).h.get 1 = some (.map es) by rw [sto_get]; rfl) ⟨1, rfl, by rw [sto_get]; rfl⟩
    · cases h
  · cases h)
theorem ok58 : SpecOk PRG 58 g58 := spec_rebase lx_ok la58 rfl (by
  intro args σ v σ' h
  unfold g58 at h
  split at h
  · rename_i ow tot p l c mb a1 a2
    obtain ⟨rs, hrs, h⟩ := Option.bind_eq_some_iff.1 h
    split at h
    · rename_i es hes
      cases hf : flatE es with
      | false => rw [hf] at h; cases h
      | true =>
        rw [hf] at h
        obtain ⟨r, hr, h⟩ := Option.map_eq_some_iff.1 h
        obtain ⟨rfl, rfl⟩ := Prod.mk.injEq _ _ _ _ ▸ h
        obtain ⟨b, cs, k, rfl, hb, h1, h2, h3, h4⟩ := rdSl_some hrs
        refine ⟨rfl, rfl, rebase2 (ns := [a1, a2]) la58 rfl hb hes h1 hf ?_⟩
        subst h2
        exact ct58 64 (fun l hl => (any58 64 ow tot rs es a1 a2 hl).trans hr) sto_d (fun _ _ h => h) (rows_of rfl h3 h4) (show (sto cs k es).h.get 1 = some (.map es) by rw [sto_get]; rfl) ⟨1, rfl, by rw [sto_get]; rfl⟩
    · cases h
  · cases h)
end Go.Hx.V.A
namespace Go.Hx
theorem lq_ok : LpOk PRG LQ := withS_ok (withS_ok lx_ok V.A.ok54) V.A.ok58
end Go.Hx

/- The closed run of 'wakes': the chapter's examples, which each law of the layer asks for at its end. -/
namespace Go.Hx
theorem run16 : (fnK LQ 600 16).run 0 [] .e 0 endK0 = some (.bool true, ⟨.e, 0⟩) := by kernel_rfl
theorem closed_of {lp : Nat → Option LFunc} {n f : Nat} (hr : (fnK lp n f).run 0 [] .e 0 endK0 = some (.bool true, ⟨.e, 0⟩)) : C lp 0 f [] ⟨.e, 0⟩ (fun v _ => v = .bool true) :=
  c_of_k hr fun v h nx hk => by unfold endK0 at hk; cases hk; rfl
theorem closed16 : C LQ 0 16 [] ⟨.e, 0⟩ (fun v _ => v = .bool true) := closed_of run16
end Go.Hx

/- 'wakes' is known. -/
namespace Go.Hx
theorem spWakes_ok : ∀ args σ v σ', spWakes args σ = some (v, σ') → σ' = σ ∧ args.all flat = true ∧ flatV v = true ∧ C LQ 0 16 args ⟨.e, 0⟩ (fun v' _ => v' = v) := by
  intro args σ v σ' h
  cases args with
  | nil => cases h; exact ⟨rfl, rfl, rfl, closed16⟩
  | cons a l => cases h
theorem lw_ok : LpOk Go.Proofs.Try.prog LW := withS_ok lq_ok (spec_plain mixed lq_ok spWakes_ok)
end Go.Hx

/- A struct argument with lists in its fields: its cells, one by one, on the plain machine. -/
namespace Go.Hx
open Go.RowKit
variable {P : Program}
end Go.Hx

/- Arguments that are lists of structs with lists in their fields: on the plain machine, as lists of lists. -/
namespace Go.Hx
open Go.RowKit
variable {P : Program}
/-- A slot is in the world, as far as a road goes. -/
def SlotN (ρ : Rho) (w : World) (s : Slot) : Prop := ∃ (C : Array Value) (e : TypeId) (z : Nat × Nat), w.heap[s.ri.blk]? = some (.cells C e z) ∧ ∀ (i : Nat) (v : HV), s.cs[i]? = some v → ∃ u, C[s.ri.off + i]? = some u ∧ VR ρ v u
theorem SlotOk.n {w : World} {s : Slot} (h : SlotOk w s) (ρ : Rho) : SlotN ρ w s := by
  obtain ⟨C, e, z, h1, h2⟩ := h
  exact ⟨C, e, z, h1, fun i v hv => let ⟨u, a, b⟩ := h2 i v hv; ⟨u, a, b ρ⟩⟩
theorem calls_argsN {lp : Nat → Option LFunc} (hm : P.follows .mixedOrders = true) (hlp : LpOk P lp) {f : Nat} {args : List HV} {ss : List (Option Slot)} {W : World} (hs : ∀ s, some s ∈ ss → SlotN (rhoOf ss) W s)
    (h : C lp 0 f args ⟨lay ss, ss.length⟩ (Sc (· = .bool true) ⟨lay ss, ss.length⟩)) {Args : Array Value} (ha : LR (rhoOf ss) args Args.toList) :
    Calls P f Args W fun e W' => e = .returned (.bool true) ∧ Below W.heap.size W W' := by
  have hro : ∀ b x, (lay ss).get b = some x → x.own = false := fun b x hx => by
    rw [lay_get] at hx
    cases e : ss.getD b none with
    | none => rw [e] at hx; cases hx
    | some s => rw [e] at hx; cases hx; rfl
  have mem : ∀ b s, ss.getD b none = some s → some s ∈ ss ∧ b < ss.length := fun b s e => by
    rw [List.getD_eq_getElem?_getD] at e
    cases e2 : ss[b]? with
    | none => rw [e2] at e; cases e
    | some o =>
      rw [e2] at e
      have : o = some s := e
      subst this
      refine ⟨List.mem_of_getElem? e2, ?_⟩
      rcases Nat.lt_or_ge b ss.length with h | h
      · exact h
      · rw [List.getElem?_eq_none h] at e2; cases e2
  have hdom : Dom ⟨lay ss, ss.length⟩ := fun b x hx => by
    have hx' : (lay ss).get b = some x := hx
    rw [lay_get] at hx'
    cases e : ss.getD b none with
    | none => rw [e] at hx'; cases hx'
    | some s => exact (mem b s e).2
  have hsim : Sim P W.heap.size (lay ss).get (rhoOf ss) W := by
    refine ⟨fun b x hx => ?_, fun b b' x x' r r' hx _ ho => by rw [hro b x hx] at ho; cases ho⟩
    rw [lay_get] at hx
    cases e : ss.getD b none with
    | none => rw [e] at hx; cases hx
    | some s =>
      rw [e] at hx
      cases hx
      obtain ⟨C, el, z, hw, hc⟩ := hs s (mem b s e).1
      refine ⟨s.ri, C, el, z, by unfold rhoOf riOf; rw [e]; rfl, hw, fun i v hv => ?_, (Array.getElem?_eq_some_iff.1 hw).1⟩
      obtain ⟨u, h1, h2⟩ := hc i v hv
      exact ⟨u, h1, h2⟩
  obtain ⟨n, v, σ', h1, h2⟩ := h
  have hin : In P W.heap.size ⟨lay ss, ss.length⟩ σ' (rhoOf ss) W := ⟨Nat.le_refl _, hsim, fun b hb _ => by
    show riOf (ss.getD b none) = none
    rw [List.getD_eq_getElem?_getD, List.getElem?_eq_none hb]; rfl⟩
  have := run_sound hm hlp h1 hdom W.heap.size (rhoOf ss) Args W hin ha
  rw [fr_none] at this
  refine (callsIn_wide.1 this).mono ?_
  rintro e W' ⟨V, ρ', rfl, hv, hp⟩
  obtain ⟨rfl, _⟩ := h2
  cases hv
  exact ⟨rfl, below_of_post hp hro⟩

/-! lists laid one behind the other -/
/-! what a slice leads to -/
section
variable {H : Type} {enc : TypeId × Value → H} {w : World} {base : Nat} {held : Bool}
theorem open_in {t e : TypeId} {fuel : Nat} {cs : List Value} {x : DataW H × List MemPlace} (ht : P.underlying t = some (.slice e)) (hc : 0 < P.cellsOf e) (h : DataW.trod enc P w base (fun _ => true) held fuel t cs = some x) :
    (∃ a, cs = [a] ∧ (a = .slice none 0 0 ∨ ∃ b, a = .slice (some b) 0 0)) ∨ ∃ (blk off len cap : Nat) (C : Array Value) (el : TypeId) (z : Nat × Nat), cs = [.slice (some ⟨blk, off, none⟩) len cap] ∧ len ≤ cap ∧ w.heap[blk]? = some (.cells C el z) ∧
      ∀ i, i < len → ∃ (us : List Value) (n : Nat) (y : DataW H × List MemPlace), us.length = P.cellsOf e ∧ (∀ j, j < us.length → C[off + (i * P.cellsOf e + j)]? = us[j]?) ∧ DataW.trod enc P w base (fun _ => true) held n e us = some y := by
  rcases Deep.open_slice ht h with ⟨rfl, _⟩ | ⟨a, len, cap, m, n, D, Pl, rfl, _, hlc, hm, hmm, _, hx⟩
  · exact .inl ⟨_, rfl, .inl rfl⟩
  · simp only [if_true] at hmm
    subst hmm
    by_cases h0 : m = 0
    · subst h0
      have : len = 0 := by omega
      subst this
      exact .inl ⟨_, rfl, .inr ⟨a, rfl⟩⟩
    · obtain ⟨blk, off, spot⟩ := a
      obtain ⟨cs', h1, h2⟩ := hx 0 (by omega)
      obtain ⟨_, hlen, hcell⟩ := World.cells?_some h1
      have hc0 := hcell 0 hc
      have e0 : ((Addr.mk blk off spot).add (0 * P.cellsOf e)).add 0 = Addr.mk blk off spot := by rw [Nat.zero_mul]; rfl
      rw [e0, List.getElem?_eq_getElem (by omega)] at hc0
      unfold World.cell? at hc0
      dsimp only at hc0
      split at hc0
      · rename_i C el z hw
        cases hsp : spot with
        | some s => rw [hsp] at hc0; simp at hc0
        | none =>
          refine .inr ⟨blk, off, len, m, C, el, z, rfl, hlc, hw, fun i hi => ?_⟩
          subst hsp
          obtain ⟨us, g1, g2⟩ := hx i (by omega)
          obtain ⟨_, glen, gcell⟩ := World.cells?_some g1
          refine ⟨us, n, _, glen, fun j hj => ?_, g2⟩
          have hcj := gcell j (by omega)
          rw [Deep.add_add] at hcj
          have key : w.cell? (Addr.add ⟨blk, off, none⟩ (i * P.cellsOf e + j)) = C[off + (i * P.cellsOf e + j)]? := by
            unfold Addr.add World.cell?
            by_cases h0 : i * P.cellsOf e + j = 0
            · rw [if_pos h0, h0]
              simp only [hw, Nat.add_zero]
              rfl
            · rw [if_neg h0]
              simp only [hw]
              rfl
          rw [key] at hcj
          exact hcj
      · cases hc0
/-- A list within an argument. -/
structure ArgP {α : Type} (rel : V.Rel α) (sz : Nat) (w : World) (v : Value) (o : Option Slot) (mk : Nat → HV) (l : List α) : Prop where
  ok : ∀ s, o = some s → SlotOk w s
  vr : ∀ (k : Nat) (ρ : Rho), ρ k = riOf o → VR ρ (mk k) v
  row : ∀ k, ∃ p c, mk k = .slice p l.length c ∧ ∀ (h : Tr HBlk), h.get k = (o.map fun s => .cells s.cs .ro) → V.RowF rel sz (V.all h) p c l
theorem argP {α : Type} [Inhabited α] {rel : V.Rel α} {enc0 : α → List HV} {t e : TypeId} {d : Nat} {ks : List Leaf} {fuel : Nat} {cs : List Value} {x : DataW H × List MemPlace} (ht : P.underlying t = some (.slice e)) (hk : leaves P d e = some ks) (hl : ks.length = P.cellsOf e) (hpos : 0 < ks.length)
    (h : DataW.trod enc P w base (fun _ => true) held fuel t cs = some x) (he : ∀ x, (enc0 x).length = ks.length) (hrel : ∀ F x, rel F x (enc0 x))
    (hdec : ∀ us : Nat → Value, (∀ j k, ks[j]? = some k → LeafV k (us j)) → ∃ x : α, ∀ j u, (enc0 x)[j]? = some u → ∀ ρ, VR ρ u (us j)) :
    ∃ (v : Value) (o : Option Slot) (mk : Nat → HV) (l : List α), cs = [v] ∧ ArgP rel ks.length w v o mk l := by
  rcases open_in ht (by omega) h with ⟨a, rfl, ha⟩ | ⟨blk, off, len, cap, C, el, z, rfl, hlc, hw, hx⟩
  · rcases ha with rfl | ⟨b, rfl⟩
    · exact ⟨_, none, fun _ => .slice none 0 0, [], rfl, ⟨fun s e => (by cases e), fun k ρ _ => .slice0, fun k => ⟨none, 0, rfl, fun h _ => ⟨Nat.le_refl _, fun hne => absurd rfl hne⟩⟩⟩⟩
    · exact ⟨_, none, fun k => .slice (some (k, 0)) 0 0, [], rfl, ⟨fun s e => (by cases e), fun k ρ _ => .slice00 b, fun k => ⟨some (k, 0), 0, rfl, fun h _ => ⟨Nat.le_refl _, fun hne => absurd rfl hne⟩⟩⟩⟩
  · have each : ∀ i, i < len → ∃ x : α, ∀ j u, (enc0 x)[j]? = some u → ∃ c, C[off + (i * ks.length + j)]? = some c ∧ ∀ ρ, VR ρ u c := by
      intro i hi
      obtain ⟨us, n, y, g1, g2, g3⟩ := hx i hi
      have hf2 := trod_leaves d e ks n us _ hk hl g3
      obtain ⟨x, hx1⟩ := hdec (fun j => (us[j]?).getD .nilFunc) (fun j k hj => by
        have hjl : j < ks.length := (List.getElem?_eq_some_iff.1 hj).1
        have hju : us[j]? = some us[j] := List.getElem?_eq_getElem (by rw [← hf2.1]; exact hjl)
        rw [hju]
        exact hf2.2 j k _ hj hju)
      refine ⟨x, fun j u hj => ?_⟩
      have hjl : j < ks.length := by rw [← he x]; exact (List.getElem?_eq_some_iff.1 hj).1
      have hju : us[j]? = some us[j] := List.getElem?_eq_getElem (by rw [← hf2.1]; exact hjl)
      refine ⟨us[j], by rw [hl, g2 j (by rw [← hf2.1]; exact hjl)]; exact hju, fun ρ => ?_⟩
      have := hx1 j u hj ρ
      rwa [hju] at this
    obtain ⟨f, hf⟩ := Deep.choose_lt each
    refine ⟨_, some ⟨((List.range len).map f).flatMap enc0, ⟨blk, off, 0⟩⟩, fun k => .slice (some (k, 0)) len cap, (List.range len).map f, rfl, ⟨fun s e => ?_, fun k ρ hr => ?_, fun k => ⟨some (k, 0), cap, by simp, fun h hg => ⟨by simpa using hlc, fun _ => ⟨k, 0, _, .ro, rfl, hg, fun i x hx => ⟨_, flat_row he _ i x hx, hrel _ x⟩⟩⟩⟩⟩⟩
    · cases e
      refine ⟨C, el, z, hw, fun i u hu => ?_⟩
      obtain ⟨i', j, x, rfl, h2, h3⟩ := flat_at he _ i u hu
      have hi' : i' < len := by
        rcases Nat.lt_or_ge i' len with h | h
        · exact h
        · rw [List.getElem?_eq_none (by simp; omega)] at h2; cases h2
      rw [List.getElem?_map, List.getElem?_range hi'] at h2
      cases h2
      exact hf i' hi' j u h3
    · exact VR.slice (r := ⟨blk, off, 0⟩) (o := 0) hr
/-- Slots that lie in a row of slots. -/
def Has (ss : List (Option Slot)) (k : Nat) (part : List (Option Slot)) : Prop := ∀ i, i < part.length → ss.getD (k + i) none = part.getD i none
end
end Go.Hx

/- The arguments of the laws of layer 9: batches, lists of numbers. -/
namespace Go.Hx
open Go.RowKit Go.ChangeShapes Go.WideShapes Go.ChangeAt
open Go.Proofs
set_option maxRecDepth 100000
abbrev rel5 : V.Rel (Int × Int × Int × Int × Int) := V.rP V.rI (V.rP V.rI (V.rP V.rI (V.rP V.rI V.rI)))
def e5 (x : Int × Int × Int × Int × Int) : List HV := [i64 x.1, i64 x.2.1, i64 x.2.2.1, i64 x.2.2.2.1, i64 x.2.2.2.2]
theorem dec5 : ∀ us : Nat → Value, (∀ j k, [Leaf.i .i64, .i .i64, .i .i64, .i .i64, .i .i64][j]? = some k → LeafV k (us j)) → ∃ x : Int × Int × Int × Int × Int, ∀ j u, (e5 x)[j]? = some u → ∀ ρ, VR ρ u (us j) := by
  intro us h
  obtain ⟨a, e0⟩ := leaf_int (h 0 _ rfl)
  obtain ⟨b, e1⟩ := leaf_int (h 1 _ rfl)
  obtain ⟨c, e2⟩ := leaf_int (h 2 _ rfl)
  obtain ⟨d, e3⟩ := leaf_int (h 3 _ rfl)
  obtain ⟨e, e4⟩ := leaf_int (h 4 _ rfl)
  refine ⟨(a, b, c, d, e), fun j u hj ρ => ?_⟩
  match j, hj with
  | 0, hj => cases hj; rw [e0]; exact .int _ _
  | 1, hj => cases hj; rw [e1]; exact .int _ _
  | 2, hj => cases hj; rw [e2]; exact .int _ _
  | 3, hj => cases hj; rw [e3]; exact .int _ _
  | 4, hj => cases hj; rw [e4]; exact .int _ _
  | j + 5, hj => simp [e5] at hj
theorem rel5_ok (F : V.PH) (x : Int × Int × Int × Int × Int) : rel5 F x (e5 x) := ⟨_, _, rfl, rfl, _, _, rfl, rfl, _, _, rfl, rfl, _, _, rfl, rfl, rfl⟩
theorem leaves73 : leaves Try.prog 20 73 = some [.i .i64, .i .i64, .i .i64, .i .i64, .i .i64] := by kernel_rfl
theorem leaves3 : leaves Try.prog 20 3 = some [.i .i64] := by kernel_rfl
theorem cells73 : 5 = Try.prog.cellsOf 73 := by kernel_rfl
theorem cells3 : 1 = Try.prog.cellsOf 3 := by kernel_rfl
theorem cells22 : 1 = Try.prog.cellsOf 22 := by kernel_rfl
theorem cells24 : Try.prog.cellsOf 24 = 3 := by kernel_rfl
section
variable {P : Program} {H : Type} {enc : TypeId × Value → H} {w : World} {base : Nat} {held : Bool}
/-- A field of a struct, as it was gone through. -/
theorem field_in {spare : Nat → Bool} {t : TypeId} {fs : Array Field} {fuel : Nat} {cs : List Value} {x : DataW H × List MemPlace} (ht : P.underlying t = some (.struct fs)) (h : DataW.trod enc P w base spare held fuel t cs = some x) {j : Nat} {f : Field} (hj : fs[j]? = some f) :
    ∃ n y, DataW.trod enc P w base spare held n f.type ((cs.drop f.offset).take (P.cellsOf f.type)) = some y := by
  obtain ⟨xs, n, _, _, hlen, hxl, hx⟩ := DataW.trod_struct ht h
  have h3 := hx j f hj
  have hjl : j < xs.length := by
    have : j < fs.size := (Array.getElem?_eq_some_iff.1 hj).1
    omega
  rw [List.getElem?_eq_getElem hjl] at h3
  exact ⟨n, _, h3⟩
end
section
variable {H : Type} {enc : TypeId × Value → H} {w : World} {base : Nat} {held : Bool} {v : Value} {dd : DataW H} {p : List MemPlace} {b0 : Nat}
theorem relI (F : V.PH) (x : Int) : V.rI F x (ienc x) := rfl
theorem arg_intsP (hv : Value.okWide Try.prog w .any b0 25 v) (h : DataW.Trod enc Try.prog w base (fun _ => true) held 25 v dd p) : ∃ (oo : Option Slot) (mo : Nat → HV) (lo : List Int), ArgP V.rI 1 w v oo mo lo := by
  obtain ⟨fuel, hf⟩ := h
  obtain ⟨v', o, mk, l, e, ha⟩ := argP (rel := V.rI) (enc0 := ienc) Try.underlying25 leaves3 cells3 (by decide) hf (fun _ => rfl) relI dec_int
  obtain ⟨a, n, c, rfl⟩ := okWide_slice Try.underlying25 hv
  have e : [Value.slice a n c] = [v'] := e
  cases e
  exact ⟨o, mk, l, ha⟩
/-- A batch as an argument. -/
def BatA (W : World) (v : Value) : Prop := ∃ (a b : Int) (vs : Value), v = .agg #[.int .i64 a, .int .i64 b, vs] ∧ ∃ oo mo lo, ArgP rel5 5 W vs oo mo lo
theorem arg_batch (hv : Value.okWide Try.prog w .any b0 24 v) (h : DataW.Trod enc Try.prog w base (fun _ => true) held 24 v dd p) : BatA w v := by
  obtain ⟨C, rfl, hs⟩ := okWide_struct Try.underlying24 hv
  obtain ⟨fuel, hf⟩ := h
  obtain ⟨n0, y0, h0⟩ := field_in Try.underlying24 hf (j := 0) rfl
  obtain ⟨n1, y1, h1⟩ := field_in Try.underlying24 hf (j := 1) rfl
  obtain ⟨n2, y2, h2⟩ := field_in Try.underlying24 hf (j := 2) rfl
  have hs := hs.trans cells24
  obtain ⟨u0, u1, u2, rfl⟩ : ∃ u0 u1 u2, C = #[u0, u1, u2] := by
    obtain ⟨l⟩ := C
    match l, hs with
    | [a, b, c], _ => exact ⟨a, b, c, rfl⟩
  have h0 : DataW.trod enc Try.prog w base (fun _ => true) held n0 3 (([u0, u1, u2].drop 0).take (Try.prog.cellsOf 3)) = some y0 := h0
  have h1 : DataW.trod enc Try.prog w base (fun _ => true) held n1 3 (([u0, u1, u2].drop 1).take (Try.prog.cellsOf 3)) = some y1 := h1
  have h2 : DataW.trod enc Try.prog w base (fun _ => true) held n2 22 (([u0, u1, u2].drop 2).take (Try.prog.cellsOf 22)) = some y2 := h2
  rw [← cells3] at h0 h1
  rw [← cells22] at h2
  obtain ⟨a, ea, _⟩ := DataW.trod_int Try.underlying3 h0
  obtain ⟨b, eb, _⟩ := DataW.trod_int Try.underlying3 h1
  obtain ⟨vs, oo, mo, lo, e0, ha⟩ := argP (rel := rel5) (enc0 := e5) Try.underlying22 leaves73 cells73 (by decide) h2 (fun _ => rfl) rel5_ok dec5
  have ea : [u0] = [_] := ea
  have eb : [u1] = [_] := eb
  have e0 : [u2] = [vs] := e0
  cases ea; cases eb; cases e0
  exact ⟨a, b, _, rfl, oo, mo, lo, ha⟩
end
end Go.Hx

