/- Functions of the program come to that. -/
import Derived.Test.YtamfcjekhiapdaaH05
import Derived.Test.YtamfcjekhiapdaaH06
import Derived.Test.YtamfcjekhiapdaaH03
set_option linter.all false
/- Functions of the program come to that. -/
namespace Go.Hx.V
open Go.Hx
set_option linter.unusedVariables false
set_option maxRecDepth 20000
set_option maxHeartbeats 4000000
attribute [local irreducible] W R C thenH inBlockH Tr.get Tr.set lo
theorem ct14 (N : Nat) {a0_0 : Int} {a0_1 : (List (Int × Int))} {a0_2 : (List (Int × Int × Int))} {a0_3 : Int} {a1 : (List Int)} {a2 : (List Int)} {a3 : Int} {a4 : Int} {r : Bool} (hF : sf14 N a0_0 a0_1 a0_2 a0_3 a1 a2 a3 a4 = some r) {fl : Nat} {h0 : Tr HBlk} {n0 : Nat} {F0 : PH} (hd : D h0 n0) (hs : F0.sub h0) {pa0_1 : Option (Nat × Nat)} {ca0_1 : Nat} {pa0_2 : Option (Nat × Nat)} {ca0_2 : Nat} {pa1 : Option (Nat × Nat)} {ca1 : Nat} {pa2 : Option (Nat × Nat)} {ca2 : Nat} (ra0_1 : RowF (rP rI rI) 2 F0 pa0_1 ca0_1 a0_1) (ra0_2 : RowF (rP rI (rP rI rI)) 3 F0 pa0_2 ca0_2 a0_2) (ra1 : RowF rI 1 F0 pa1 ca1 a1) (ra2 : RowF rI 1 F0 pa2 ca2 a2) : C LW fl 14 [(.agg [(i64 a0_0), (.slice pa0_1 (a0_1).length ca0_1), (.slice pa0_2 (a0_2).length ca0_2), (i64 a0_3)]), (.slice pa1 (a1).length ca1), (.slice pa2 (a2).length ca2), (.int .u8 a3), (.int .u16 a4)] ⟨h0, n0⟩ (KS (.bool r) n0 h0) := by
  unfold sf14 at hF
  refine in_cT hd hs lw14 rfl rfl (by rfl) (fun st T hT => ?_)
  have hfl : n0 ≤ n0 := Nat.le_refl n0
  have t0 := hT 0 _ rfl
  have t1 := hT 1 _ rfl
  have t2 := hT 2 _ rfl
  have t3 := hT 3 _ rfl
  have t4 := hT 4 _ rfl
  dsimp only [L14]
  refine w_seq ?_; refine w_reg ?_; refine v_box st (fun b1 h2 n3 st => ?_); refine v_move ?_; refine r_nil ?_; refine th_n ?_; obtain ⟨y18, hA19, hF⟩ := bnd_some hF; refine w_cutD (fun T ds24 h nx => ∃ u, y18 = (.inr u) ∧ ∃ (F24 : PH), ds24 = [] ∧ PH.le F0 F24 ∧ St n0 h0 F0 F24 h nx [.bx b1 [(i64 a0_0), (.slice pa0_1 (a0_1).length ca0_1), (.slice pa0_2 (a0_2).length ca0_2), (i64 a0_3)]] ∧ T.get 1 = some (.slice pa1 (a1).length ca1) ∧ T.get 2 = some (.slice pa2 (a2).length ca2) ∧ T.get 3 = some (.int .u8 a3) ∧ T.get 4 = some (.int .u16 a4) ∧ T.get 5 = some (.ptr (some (b1, 0)))) ?_ (fun T ds24 h nx hp => ?_)
  · have hK20 := hF
    have hF := hA19; obtain ⟨y29, hA30, hF⟩ := bnd_some hF; refine w_cutD (fun T ds32 h nx => ∃ (F32 : PH), ds32 = [] ∧ PH.le F0 F32 ∧ St n0 h0 F0 F32 h nx [.bx b1 [(i64 a0_0), (.slice pa0_1 (a0_1).length ca0_1), (.slice pa0_2 (a0_2).length ca0_2), (i64 a0_3)]] ∧ T.get 1 = some (.slice pa1 (a1).length ca1) ∧ T.get 2 = some (.slice pa2 (a2).length ca2) ∧ T.get 3 = some (.int .u8 a3) ∧ T.get 4 = some (.int .u16 a4) ∧ T.get 5 = some (.ptr (some (b1, 0))) ∧ T.get 27 = some (.bool y29)) ?_ (fun T ds32 h nx hp => ?_)
    · have hK31 := hF
      have hF := hA30; refine w_reg ?_; refine v_ldn (vs := [(i64 a0_0), (.slice pa0_1 (a0_1).length ca0_1), (.slice pa0_2 (a0_2).length ca0_2), (i64 a0_3)]) (st.at (i := 0) rfl).2.2 rfl ?_; refine v_move ?_; obtain ⟨v33, e34, hF⟩ := bnd_some hF; refine v_call st (ct48 N e34 st.d st.sub ra0_1 ra0_2 ra1) (fun n35 st => ?_); refine v_not ?_; refine v_move ?_
      rcases Bool.eq_false_or_eq_true (!v33) with hb36 | hb36
      · have hF := bif_t hb36 hF; refine g_skip hb36 ?_; refine g_skip hb36 ?_; refine g_skip hb36 ?_; refine v_pick hb36 ?_; refine r_nil ?_; obtain rfl := inj hF; refine thn ⟨rfl, ?_⟩; dsimp only
        exact ⟨F0, rfl, (PH.le.refl _), st, gA, gA, gA, gA, gA, gA⟩
      · have hF := bif_f hb36 hF; refine g_take hb36 (v_move ?_); refine g_take hb36 (v_len ?_); refine g_take hb36 (v_gtr ?_); refine v_pick' hb36 ?_; refine r_nil ?_; obtain rfl := inj hF; refine thn ⟨rfl, ?_⟩; dsimp only
        exact ⟨F0, rfl, (PH.le.refl _), st, gA, gA, gA, gA, gA, gA⟩
    · obtain ⟨F32, rfl, le32, st, t1, t2, t3, t4, t5, t27⟩ := hp; refine v_cond (fun hb37 => ?_) (fun hb37 => ?_)
      · have hF := bif_t hb37 hF; refine w_seq ?_; refine w_reg ?_; refine v_call st (ct_wakes (h := _) (nx := _)) (fun n38 st => ?_); refine v_move ?_; refine r_nil ?_; refine th_n ?_; refine w_ret ?_; obtain rfl := inj hF; have hF := hK20; have hF := sel_l hF; refine th_r ?_; obtain rfl := inj hF
        exact end_s st (Res.t gA Res.nil) rfl rfl
      · have hF := bif_f hb37 hF; refine w_skip ?_; obtain rfl := inj hF; refine thn ⟨rfl, _, rfl, ?_⟩; dsimp only
        exact ⟨F32, rfl, le32, st, gA, gA, gA, gA, gA⟩
  · obtain ⟨w23, rfl, F24, rfl, le24, st, t1, t2, t3, t4, t5⟩ := hp; have hF := sel_r hF; refine w_seq ?_; refine w_reg ?_; refine v_ldn (vs := [(i64 a0_0), (.slice pa0_1 (a0_1).length ca0_1), (.slice pa0_2 (a0_2).length ca0_2), (i64 a0_3)]) (st.at (i := 0) rfl).2.2 rfl ?_; refine v_move ?_; refine v_move ?_; obtain ⟨v39, e40, hF⟩ := bnd_some hF; refine v_call st (ct32 N e40 st.d st.sub (RowF.mono le24 ra0_1) (RowF.mono le24 ra0_2) (RowF.mono le24 ra1) (RowF.mono le24 ra2)) (fun n41 st => ?_); refine v_eqi ?_; refine v_move ?_; refine r_nil ?_; refine th_n ?_; refine w_seq ?_; refine w_reg ?_; refine v_move ?_; refine v_move ?_; refine r_nil ?_; refine th_n ?_; refine w_seq ?_; refine w_seq ?_
    refine w_reg ?_; refine v_move ?_; refine r_nil ?_; refine th_n ?_; refine w_block ?_
    have st := st.nilL 1
    have w42 : LR rI 1 F24 ([] : List Int) [] := LR.nil
    have st := st.nilL 1
    have w44 : LR rI 1 F24 ([] : List Int) [] := LR.nil
    obtain ⟨y70, hy, hF⟩ := bnd_some hF; refine v_loopD (sf14_L1 a1 a2 a4 v39) (fun x46 T ds47 h nx => ∃ (F47 : PH) (o48 : Option Nat) (c48 : Nat) (cs48 : List HV) (o49 : Option Nat) (c49 : Nat) (cs49 : List HV), ds47 = [] ∧ PH.le F24 F47 ∧ St n0 h0 F0 F47 h nx [.bx b1 [(i64 a0_0), (.slice pa0_1 (a0_1).length ca0_1), (.slice pa0_2 (a0_2).length ca0_2), (i64 a0_3)], .ls o48 c48 cs48 1, .ls o49 c49 cs49 1] ∧ LR rI 1 F47 x46.1 cs48 ∧ LR rI 1 F47 x46.2.1 cs49 ∧ T.get 1 = some (.slice pa1 (a1).length ca1) ∧ T.get 2 = some (.slice pa2 (a2).length ca2) ∧ T.get 3 = some (.int .u8 a3) ∧ T.get 4 = some (.int .u16 a4) ∧ T.get 5 = some (.ptr (some (b1, 0))) ∧ T.get 11 = some (.bool (decide (v39 = (0 : Int)))) ∧ T.get 12 = some (slv o48 (x46.1).length c48) ∧ T.get 13 = some (slv o49 (x46.2.1).length c49) ∧ T.get 14 = some (i64 x46.2.2)) (fun y e a σ => e = .exit 0 ∧ a.nt = 123 ∧ ∃ (F71 : PH) (o72 : Option Nat) (c72 : Nat) (cs72 : List HV) (o73 : Option Nat) (c73 : Nat) (cs73 : List HV), a.defers = [] ∧ PH.le F24 F71 ∧ St n0 h0 F0 F71 σ.h σ.nx [.bx b1 [(i64 a0_0), (.slice pa0_1 (a0_1).length ca0_1), (.slice pa0_2 (a0_2).length ca0_2), (i64 a0_3)], .ls o72 c72 cs72 1, .ls o73 c73 cs73 1] ∧ LR rI 1 F71 y.1 cs72 ∧ LR rI 1 F71 y.2 cs73 ∧ a.tmps.get 1 = some (.slice pa1 (a1).length ca1) ∧ a.tmps.get 2 = some (.slice pa2 (a2).length ca2) ∧ a.tmps.get 3 = some (.int .u8 a3) ∧ a.tmps.get 5 = some (.ptr (some (b1, 0))) ∧ a.tmps.get 11 = some (.bool (decide (v39 = (0 : Int)))) ∧ a.tmps.get 12 = some (slv o72 (y.1).length c72) ∧ a.tmps.get 13 = some (slv o73 (y.2).length c73)) (fun x46 T ds47 h nx s hp hF => ?_) N _ y70 _ _ _ _ hy ⟨F24, none, 0, [], none, 0, [], rfl, (PH.le.refl _), st, w42, w44, gA, gA, gA, gA, gA, gA, gA, gA, gA⟩ (fun e a σ hne hq => ?_)
    · obtain ⟨F47, o48, c48, cs48, o49, c49, cs49, rfl, le47, st, w48, w49, t1, t2, t3, t4, t5, t11, t12, t13, t14⟩ := hp
      have le50 := PH.le.trans le24 le47
      unfold sf14_L1 at hF; unfold L14w0; refine w_seq ?_; refine w_seq ?_; refine w_reg ?_; refine v_move ?_; refine v_move ?_; refine v_len ?_; refine v_lss ?_; refine r_nil ?_; refine th_n ?_; refine v_cond (fun hb74 => ?_) (fun hb74 => ?_)
      · have hF := bif_t hb74 hF; refine w_skip ?_; refine th_n ?_; refine w_seq ?_; refine w_block ?_; refine w_seq ?_; refine w_seq ?_; refine w_reg ?_; refine v_move ?_; refine v_move ?_; obtain ⟨q75, hF⟩ := ck_some hF; refine v_conv q75 ?_; obtain ⟨q76, hF⟩ := ck_some hF; refine v_shift (shr_ok q76) rfl ?_; obtain ⟨q77, hF⟩ := ck_some hF; refine v_rem q77 ?_; refine v_eqi ?_; refine r_nil ?_; refine th_n ?_; refine v_cond (fun hb78 => ?_) (fun hb78 => ?_)
        · have hF := bif_t hb78 hF; refine w_exit ?_; refine th_e ?_; refine ib_e ?_; refine th_n ?_; refine w_reg ?_; refine v_move ?_; obtain ⟨q79, hF⟩ := ck_some hF; refine v_add q79 ?_; refine v_move ?_; refine r_nil ?_; refine thn ⟨_, (inj hF).symm, rfl, ?_⟩; dsimp only
          exact ⟨F47, o48, c48, cs48, o49, c49, cs49, rfl, le47, st, w48, w49, gA, gA, gA, gA, gA, gA, gA, gA, gA⟩
        · have hF := bif_f hb78 hF; refine w_skip ?_; refine th_n ?_; refine w_seq ?_; refine w_reg ?_; refine v_move ?_; refine v_move ?_; refine v_move ?_; obtain ⟨n80, x80, z80, l80, g80, hF⟩ := ix_some hF; obtain ⟨b80, o80, s80, j80, r80, e80, f80, k80, rfl⟩ := RowF.get ra1 g80; refine v_ixp e80 z80 l80 ?_; refine v_ld1 (st.sub _ _ (le50 _ _ f80)) (take_at (j := 0) k80 rfl) ?_; refine v_bs (cs := [(i64 x80)]) st rfl (fun b81 h82 n83 st => ?_); obtain ⟨q84, hF⟩ := ck_some hF
          have w84 : LR rI 1 F47 (x46.1 ++ [x80]) (cs48 ++ [(i64 x80)]) := LR.app w48 (LR.one (rfl))
          refine v_aps (n := 1) (ox := 0) (m := (x46.1 ++ [x80]).length) (row := [(i64 x80)]) st 1 rfl w48.1 (st.at (i := 3) rfl).2.2 rfl rfl q84 hfl (by decide) (by decide) (by simp) (fun o84 c84 h84 n84 st => ?_)
          refine v_move ?_; refine r_nil ?_; refine th_n ?_; refine w_seq ?_; refine w_reg ?_; refine v_move ?_; refine r_nil ?_; refine th_n ?_; refine v_cond (fun hb85 => ?_) (fun hb85 => ?_)
          · have hF := bif_t hb85 hF; refine w_reg ?_; refine v_move ?_; refine v_move ?_; refine v_move ?_; obtain ⟨n86, x86, z86, l86, g86, hF⟩ := ix_some hF; obtain ⟨b86, o86, s86, j86, r86, e86, f86, k86, rfl⟩ := RowF.get ra2 g86; refine v_ixp e86 z86 l86 ?_; refine v_ld1 (st.sub _ _ (le50 _ _ f86)) (take_at (j := 0) k86 rfl) ?_; refine v_bs (cs := [(i64 x86)]) st rfl (fun b87 h88 n89 st => ?_); obtain ⟨q90, hF⟩ := ck_some hF
            have w90 : LR rI 1 F47 (x46.2.1 ++ [x86]) (cs49 ++ [(i64 x86)]) := LR.app w49 (LR.one (rfl))
            refine v_aps (n := 1) (ox := 0) (m := (x46.2.1 ++ [x86]).length) (row := [(i64 x86)]) st 2 rfl w49.1 (st.at (i := 4) rfl).2.2 rfl rfl q90 hfl (by decide) (by decide) (by simp) (fun o90 c90 h90 n90 st => ?_)
            refine v_move ?_; refine r_nil ?_; refine ib_n ?_; refine th_n ?_; refine w_reg ?_; refine v_move ?_; obtain ⟨q91, hF⟩ := ck_some hF; refine v_add q91 ?_; refine v_move ?_; refine r_nil ?_; refine thn ⟨_, (inj hF).symm, rfl, ?_⟩; dsimp only
            exact ⟨F47, o84, c84, (cs48 ++ [(i64 x80)]), o90, c90, (cs49 ++ [(i64 x86)]), rfl, le47, (st.drop (by first | exact List.Sublist.refl _ | (repeat first | exact List.nil_sublist _ | refine List.Sublist.cons_cons _ ?_ | refine List.Sublist.cons _ ?_))), w84, w90, gA, gA, gA, gA, gA, gA, gA, gA, gA⟩
          · have hF := bif_f hb85 hF; refine w_skip ?_; refine ib_n ?_; refine th_n ?_; refine w_reg ?_; refine v_move ?_; obtain ⟨q92, hF⟩ := ck_some hF; refine v_add q92 ?_; refine v_move ?_; refine r_nil ?_; refine thn ⟨_, (inj hF).symm, rfl, ?_⟩; dsimp only
            exact ⟨F47, o84, c84, (cs48 ++ [(i64 x80)]), o49, c49, cs49, rfl, le47, (st.drop (by first | exact List.Sublist.refl _ | (repeat first | exact List.nil_sublist _ | refine List.Sublist.cons_cons _ ?_ | refine List.Sublist.cons _ ?_))), w84, w49, gA, gA, gA, gA, gA, gA, gA, gA, gA⟩
      · have hF := bif_f hb74 hF; refine w_exit ?_; refine th_e ?_; refine th_e ?_; refine ⟨_, (inj hF).symm, rfl, rfl, ?_⟩; dsimp only
        exact ⟨F47, o48, c48, cs48, o49, c49, cs49, rfl, le47, st, w48, w49, gA, gA, gA, gA, gA, gA, gA⟩
    · obtain ⟨N9, T, ds71⟩ := a; obtain ⟨h94, n95⟩ := σ; obtain ⟨rfl, e1, F71, o72, c72, cs72, o73, c73, cs73, e2, le71, st, w72, w73, t1, t2, t3, t5, t11, t12, t13⟩ := hq
      dsimp only at e1 e2
      subst e1
      subst e2
      dsimp only at st t1 t2 t3 t5 t11 t12 t13
      have le93 := PH.le.trans le24 le71
      refine ib_e ?_; refine th_n ?_; refine w_seq ?_; refine w_seq ?_; refine w_reg ?_; refine v_move ?_; refine v_len ?_; refine v_eqi ?_; refine r_nil ?_; refine th_n ?_; refine v_cond (fun hb96 => ?_) (fun hb96 => ?_)
      · have hF := bif_t hb96 hF; refine w_seq ?_; refine w_reg ?_; refine v_call st (ct_wakes (h := _) (nx := _)) (fun n97 st => ?_); refine v_move ?_; refine r_nil ?_; refine th_n ?_; refine w_ret ?_; refine th_r ?_; obtain rfl := inj hF
        exact end_s st (Res.t gA Res.nil) rfl rfl
      · have hF := bif_f hb96 hF; refine w_skip ?_; refine th_n ?_
        obtain ⟨F346, le346, st, rf346⟩ := St.freeze st 1 rfl w72 (by decide)
        have le347 := PH.le.trans le93 le346
        have le348 := PH.le.trans le71 le346
        obtain ⟨F349, le349, st, rf349⟩ := St.freeze st 1 rfl (LR.mono le346 w73) (by decide)
        have le350 := PH.le.trans le347 le349
        have le351 := PH.le.trans le348 le349
        have le352 := PH.le.trans le346 le349
        obtain ⟨y512, hA513, hF⟩ := bnd_some hF; refine w_cutD (fun T ds518 h nx => ∃ u, y512 = (.inr u) ∧ ∃ (F518 : PH), ds518 = [] ∧ PH.le F349 F518 ∧ St n0 h0 F0 F518 h nx [.bx b1 [(i64 a0_0), (.slice pa0_1 (a0_1).length ca0_1), (.slice pa0_2 (a0_2).length ca0_2), (i64 a0_3)]] ∧ T.get 1 = some (.slice pa1 (a1).length ca1) ∧ T.get 5 = some (.ptr (some (b1, 0))) ∧ T.get 12 = some (.slice (o72.map fun b => (b, 0)) (y70.1).length c72)) ?_ (fun T ds518 h nx hp => ?_)
        · have hK514 := hF
          have hF := hA513; obtain ⟨y594, hA595, hF⟩ := bnd_some hF; refine w_cutD (fun T ds597 h nx => ∃ (F597 : PH), ds597 = [] ∧ PH.le F349 F597 ∧ St n0 h0 F0 F597 h nx [.bx b1 [(i64 a0_0), (.slice pa0_1 (a0_1).length ca0_1), (.slice pa0_2 (a0_2).length ca0_2), (i64 a0_3)]] ∧ T.get 1 = some (.slice pa1 (a1).length ca1) ∧ T.get 5 = some (.ptr (some (b1, 0))) ∧ T.get 12 = some (.slice (o72.map fun b => (b, 0)) (y70.1).length c72) ∧ T.get 88 = some (.bool y594)) ?_ (fun T ds597 h nx hp => ?_)
          · have hK596 := hF
            have hF := hA595; refine w_reg ?_; refine v_move ?_; refine v_move ?_
            rcases Bool.eq_false_or_eq_true (decide (v39 = (0 : Int))) with hb598 | hb598
            · have hF := bif_t hb598 hF; refine g_take hb598 (v_ldn (vs := [(i64 a0_0), (.slice pa0_1 (a0_1).length ca0_1), (.slice pa0_2 (a0_2).length ca0_2), (i64 a0_3)]) (st.at (i := 0) rfl).2.2 rfl ?_); obtain ⟨v599, e600, hF⟩ := bnd_some hF; refine g_take hb598 (v_callR st (ct19 N e600 st.d st.sub (Nat.le_trans hfl st.ext.le) (RowF.mono le350 ra0_1) (RowF.mono le350 ra0_2)) (fun u601 F601 h601 n601 le601 rv601 st => ?_))
              have le602 := PH.le.trans le350 le601
              have le603 := PH.le.trans le351 le601
              have le604 := PH.le.trans le352 le601
              have le605 := PH.le.trans le349 le601
              obtain ⟨_, rfl, ⟨_, _, rfl, rfl, ⟨_, _, rfl, ⟨py606, cy606, rfl, ry606⟩, ⟨_, _, rfl, ⟨py607, cy607, rfl, ry607⟩, rfl⟩⟩⟩⟩ := rv601; refine g_take hb598 (v_move ?_); obtain ⟨v608, e609, hF⟩ := bnd_some hF; refine g_take hb598 (v_callR st (ct30 N e609 st.d st.sub (Nat.le_trans hfl st.ext.le) (RowF.mono le602 ra1)) (fun u610 F610 h610 n610 le610 rv610 st => ?_))
              have le611 := PH.le.trans le602 le610
              have le612 := PH.le.trans le603 le610
              have le613 := PH.le.trans le604 le610
              have le614 := PH.le.trans le605 le610
              have le615 := PH.le.trans le601 le610
              obtain ⟨py616, cy616, rfl, ry616⟩ := rv610; refine g_take hb598 (v_move ?_); obtain ⟨v617, e618, hF⟩ := bnd_some hF; refine g_take hb598 (v_callR st (ct30 N e618 st.d st.sub (Nat.le_trans hfl st.ext.le) (RowF.mono le611 ra2)) (fun u619 F619 h619 n619 le619 rv619 st => ?_))
              have le620 := PH.le.trans le611 le619
              have le621 := PH.le.trans le612 le619
              have le622 := PH.le.trans le613 le619
              have le623 := PH.le.trans le614 le619
              have le624 := PH.le.trans le615 le619
              have le625 := PH.le.trans le610 le619
              obtain ⟨py626, cy626, rfl, ry626⟩ := rv619; refine g_take hb598 (v_move ?_); obtain ⟨q627, hF⟩ := ck_some hF; refine g_take hb598 (v_conv q627 ?_); obtain ⟨v628, e629, hF⟩ := bnd_some hF; refine g_take hb598 (v_call st (ct43 N e629 st.d st.sub (RowF.mono le625 ry606) (RowF.mono le625 ry607) (RowF.mono le619 ry616) ry626) (fun n630 st => ?_)); refine v_pick hb598 ?_; refine v_move ?_
              rcases Bool.eq_false_or_eq_true v628 with hb631 | hb631
              · have hF := bif_t hb631 hF; refine g_take hb631 (v_ldn (vs := [(i64 a0_0), (.slice pa0_1 (a0_1).length ca0_1), (.slice pa0_2 (a0_2).length ca0_2), (i64 a0_3)]) (st.at (i := 0) rfl).2.2 rfl ?_); obtain ⟨v632, e633, hF⟩ := bnd_some hF; refine g_take hb631 (v_callR st (ct19 N e633 st.d st.sub (Nat.le_trans hfl st.ext.le) (RowF.mono le620 ra0_1) (RowF.mono le620 ra0_2)) (fun u634 F634 h634 n634 le634 rv634 st => ?_))
                have le635 := PH.le.trans le620 le634
                have le636 := PH.le.trans le621 le634
                have le637 := PH.le.trans le622 le634
                have le638 := PH.le.trans le623 le634
                have le639 := PH.le.trans le624 le634
                have le640 := PH.le.trans le625 le634
                have le641 := PH.le.trans le619 le634
                obtain ⟨_, rfl, ⟨_, _, rfl, rfl, ⟨_, _, rfl, ⟨py642, cy642, rfl, ry642⟩, ⟨_, _, rfl, ⟨py643, cy643, rfl, ry643⟩, rfl⟩⟩⟩⟩ := rv634; refine g_take hb631 (v_move ?_); obtain ⟨v644, e645, hF⟩ := bnd_some hF; refine g_take hb631 (v_callR st (ct30 N e645 st.d st.sub (Nat.le_trans hfl st.ext.le) (RowF.mono le638 rf346)) (fun u646 F646 h646 n646 le646 rv646 st => ?_))
                have le647 := PH.le.trans le635 le646
                have le648 := PH.le.trans le636 le646
                have le649 := PH.le.trans le637 le646
                have le650 := PH.le.trans le638 le646
                have le651 := PH.le.trans le639 le646
                have le652 := PH.le.trans le640 le646
                have le653 := PH.le.trans le641 le646
                have le654 := PH.le.trans le634 le646
                obtain ⟨py655, cy655, rfl, ry655⟩ := rv646; refine g_take hb631 (v_move ?_); obtain ⟨v656, e657, hF⟩ := bnd_some hF; refine g_take hb631 (v_callR st (ct30 N e657 st.d st.sub (Nat.le_trans hfl st.ext.le) (RowF.mono le651 rf349)) (fun u658 F658 h658 n658 le658 rv658 st => ?_))
                have le659 := PH.le.trans le647 le658
                have le660 := PH.le.trans le648 le658
                have le661 := PH.le.trans le649 le658
                have le662 := PH.le.trans le650 le658
                have le663 := PH.le.trans le651 le658
                have le664 := PH.le.trans le652 le658
                have le665 := PH.le.trans le653 le658
                have le666 := PH.le.trans le654 le658
                have le667 := PH.le.trans le646 le658
                obtain ⟨py668, cy668, rfl, ry668⟩ := rv658; refine g_take hb631 (v_move ?_); obtain ⟨q669, hF⟩ := ck_some hF; refine g_take hb631 (v_conv q669 ?_); obtain ⟨v670, e671, hF⟩ := bnd_some hF; refine g_take hb631 (v_call st (ct43 N e671 st.d st.sub (RowF.mono le667 ry642) (RowF.mono le667 ry643) (RowF.mono le658 ry655) ry668) (fun n672 st => ?_)); refine g_take hb631 (v_not ?_); refine v_pick hb631 ?_; refine r_nil ?_; obtain rfl := inj hF; refine thn ⟨rfl, ?_⟩; dsimp only
                exact ⟨F658, rfl, le663, st, gA, gA, gA, gA⟩
              · have hF := bif_f hb631 hF; refine g_skip hb631 ?_; refine g_skip hb631 ?_; refine g_skip hb631 ?_; refine g_skip hb631 ?_; refine g_skip hb631 ?_; refine g_skip hb631 ?_; refine g_skip hb631 ?_; refine g_skip hb631 ?_; refine g_skip hb631 ?_; refine g_skip hb631 ?_; refine v_pick' hb631 ?_; refine r_nil ?_; obtain rfl := inj hF; refine thn ⟨rfl, ?_⟩; dsimp only
                exact ⟨F619, rfl, le624, st, gA, gA, gA, gA⟩
            · have hF := bif_f hb598 hF; refine g_skip hb598 ?_; refine g_skip hb598 ?_; refine g_skip hb598 ?_; refine g_skip hb598 ?_; refine g_skip hb598 ?_; refine g_skip hb598 ?_; refine g_skip hb598 ?_; refine g_skip hb598 ?_; refine g_skip hb598 ?_; refine v_pick' hb598 ?_; refine v_move ?_; refine g_skip rfl ?_; refine g_skip rfl ?_; refine g_skip rfl ?_; refine g_skip rfl ?_; refine g_skip rfl ?_; refine g_skip rfl ?_; refine g_skip rfl ?_; refine g_skip rfl ?_; refine g_skip rfl ?_; refine g_skip rfl ?_; refine v_pick' rfl ?_; refine r_nil ?_; obtain rfl := inj hF; refine thn ⟨rfl, ?_⟩; dsimp only
              exact ⟨F349, rfl, (PH.le.refl _), st, gA, gA, gA, gA⟩
          · obtain ⟨F597, rfl, le597, st, t1, t5, t12, t88⟩ := hp
            have le673 := PH.le.trans le350 le597
            have le674 := PH.le.trans le351 le597
            have le675 := PH.le.trans le352 le597
            have le676 := PH.le.trans le349 le597
            refine v_cond (fun hb677 => ?_) (fun hb677 => ?_)
            · have hF := bif_t hb677 hF; refine w_seq ?_; refine w_reg ?_; refine v_move ?_; refine r_nil ?_; refine th_n ?_; refine w_ret ?_; obtain rfl := inj hF; have hF := hK514; have hF := sel_l hF; refine th_r ?_; obtain rfl := inj hF
              exact end_s st (Res.t gA Res.nil) rfl rfl
            · have hF := bif_f hb677 hF; refine w_skip ?_; obtain rfl := inj hF; refine thn ⟨rfl, _, rfl, ?_⟩; dsimp only
              exact ⟨F597, rfl, le597, st, gA, gA, gA⟩
        · obtain ⟨w517, rfl, F518, rfl, le518, st, t1, t5, t12⟩ := hp; have hF := sel_r hF
          have le682 := PH.le.trans le350 le518
          have le683 := PH.le.trans le351 le518
          have le684 := PH.le.trans le352 le518
          have le685 := PH.le.trans le349 le518
          refine w_seq ?_; refine w_reg ?_; refine v_ldn (vs := [(i64 a0_0), (.slice pa0_1 (a0_1).length ca0_1), (.slice pa0_2 (a0_2).length ca0_2), (i64 a0_3)]) (st.at (i := 0) rfl).2.2 rfl ?_; obtain ⟨v686, e687, hF⟩ := bnd_some hF; refine v_callR st (ct19 N e687 st.d st.sub (Nat.le_trans hfl st.ext.le) (RowF.mono le682 ra0_1) (RowF.mono le682 ra0_2)) (fun u688 F688 h688 n688 le688 rv688 st => ?_)
          have le689 := PH.le.trans le682 le688
          have le690 := PH.le.trans le683 le688
          have le691 := PH.le.trans le684 le688
          have le692 := PH.le.trans le685 le688
          have le693 := PH.le.trans le518 le688
          obtain ⟨_, rfl, ⟨_, _, rfl, rfl, ⟨_, _, rfl, ⟨py694, cy694, rfl, ry694⟩, ⟨_, _, rfl, ⟨py695, cy695, rfl, ry695⟩, rfl⟩⟩⟩⟩ := rv688; refine v_move ?_; obtain ⟨v696, e697, hF⟩ := bnd_some hF; refine v_callR st (ct30 N e697 st.d st.sub (Nat.le_trans hfl st.ext.le) (RowF.mono le689 ra1)) (fun u698 F698 h698 n698 le698 rv698 st => ?_)
          have le699 := PH.le.trans le689 le698
          have le700 := PH.le.trans le690 le698
          have le701 := PH.le.trans le691 le698
          have le702 := PH.le.trans le692 le698
          have le703 := PH.le.trans le693 le698
          have le704 := PH.le.trans le688 le698
          obtain ⟨py705, cy705, rfl, ry705⟩ := rv698; obtain ⟨v706, e707, hF⟩ := bnd_some hF; refine v_call st (ct38 N e707 st.d st.sub (RowF.mono le698 ry694) (RowF.mono le698 ry695) ry705) (fun n708 st => ?_); refine v_move ?_; refine v_xt rfl ?_; refine v_xt rfl ?_; refine v_move ?_; refine v_move ?_; refine r_nil ?_; refine th_n ?_; refine w_seq ?_; refine w_reg ?_; refine v_ldn (vs := [(i64 a0_0), (.slice pa0_1 (a0_1).length ca0_1), (.slice pa0_2 (a0_2).length ca0_2), (i64 a0_3)]) (st.at (i := 0) rfl).2.2 rfl ?_; obtain ⟨v709, e710, hF⟩ := bnd_some hF; refine v_callR st (ct19 N e710 st.d st.sub (Nat.le_trans hfl st.ext.le) (RowF.mono le699 ra0_1) (RowF.mono le699 ra0_2)) (fun u711 F711 h711 n711 le711 rv711 st => ?_)
          have le712 := PH.le.trans le699 le711
          have le713 := PH.le.trans le700 le711
          have le714 := PH.le.trans le701 le711
          have le715 := PH.le.trans le702 le711
          have le716 := PH.le.trans le703 le711
          have le717 := PH.le.trans le704 le711
          have le718 := PH.le.trans le698 le711
          obtain ⟨_, rfl, ⟨_, _, rfl, rfl, ⟨_, _, rfl, ⟨py719, cy719, rfl, ry719⟩, ⟨_, _, rfl, ⟨py720, cy720, rfl, ry720⟩, rfl⟩⟩⟩⟩ := rv711; refine v_move ?_; obtain ⟨v721, e722, hF⟩ := bnd_some hF; refine v_callR st (ct30 N e722 st.d st.sub (Nat.le_trans hfl st.ext.le) (RowF.mono le715 rf346)) (fun u723 F723 h723 n723 le723 rv723 st => ?_)
          have le724 := PH.le.trans le712 le723
          have le725 := PH.le.trans le713 le723
          have le726 := PH.le.trans le714 le723
          have le727 := PH.le.trans le715 le723
          have le728 := PH.le.trans le716 le723
          have le729 := PH.le.trans le717 le723
          have le730 := PH.le.trans le718 le723
          have le731 := PH.le.trans le711 le723
          obtain ⟨py732, cy732, rfl, ry732⟩ := rv723; obtain ⟨v733, e734, hF⟩ := bnd_some hF; refine v_call st (ct38 N e734 st.d st.sub (RowF.mono le723 ry719) (RowF.mono le723 ry720) ry732) (fun n735 st => ?_); refine v_move ?_; refine v_xt rfl ?_; refine v_xt rfl ?_; refine v_move ?_; refine v_move ?_; refine r_nil ?_; refine th_n ?_; refine w_seq ?_; refine w_reg ?_; refine v_move ?_; refine v_nei ?_; refine v_move ?_
          rcases Bool.eq_false_or_eq_true (!(decide (v706.2 = (0 : Int)))) with hb736 | hb736
          · have hF := bif_t hb736 hF; refine g_take hb736 (v_move ?_); refine g_take hb736 (v_eqi ?_); refine v_pick hb736 ?_; refine v_move ?_
            rcases Bool.eq_false_or_eq_true (decide (v706.2 = (9 : Int))) with hb737 | hb737
            · have hF := bif_t hb737 hF; refine g_skip hb737 ?_; refine g_skip hb737 ?_; refine g_skip hb737 ?_; refine g_skipu ?_; refine g_skipu ?_; refine g_skipu ?_; refine g_skip hb737 ?_; refine v_pick hb737 ?_; refine v_move ?_; refine g_take rfl (v_call st (ct_wakes (h := _) (nx := _)) (fun n738 st => ?_)); refine v_pick rfl ?_; refine v_move ?_; refine r_nil ?_; refine th_n ?_; refine w_ret ?_; obtain rfl := inj hF
              exact end_s st (Res.t gA Res.nil) rfl rfl
            · have hF := bif_f hb737 hF; refine g_take hb737 (v_move ?_); refine g_take hb737 (v_eqi ?_); refine g_take hb737 (v_move ?_)
              rcases Bool.eq_false_or_eq_true (decide (v733.2 = (0 : Int))) with hb739 | hb739
              · have hF := bif_t hb739 hF; refine g_take hb739 (v_move ?_); refine g_take hb739 (v_move ?_); refine g_take hb739 (v_leq ?_); refine g_take hb737 (v_pick hb739 ?_); refine v_pick' hb737 ?_; refine v_move ?_
                rcases Bool.eq_false_or_eq_true (decide (v733.1 ≤ v706.1)) with hb740 | hb740
                · have hF := bif_t hb740 hF; refine g_take hb740 (v_call st (ct_wakes (h := _) (nx := _)) (fun n741 st => ?_)); refine v_pick hb740 ?_; refine v_move ?_; refine r_nil ?_; refine th_n ?_; refine w_ret ?_; obtain rfl := inj hF
                  exact end_s st (Res.t gA Res.nil) rfl rfl
                · have hF := bif_f hb740 hF; refine g_skip hb740 ?_; refine v_pick' hb740 ?_; refine v_move ?_; refine r_nil ?_; refine th_n ?_; refine w_ret ?_; obtain rfl := inj hF
                  exact end_s st (Res.t gA Res.nil) rfl rfl
              · have hF := bif_f hb739 hF; refine g_skip hb739 ?_; refine g_skip hb739 ?_; refine g_skip hb739 ?_; refine g_take hb737 (v_pick' hb739 ?_); refine v_pick' hb737 ?_; refine v_move ?_; refine g_skip rfl ?_; refine v_pick' rfl ?_; refine v_move ?_; refine r_nil ?_; refine th_n ?_; refine w_ret ?_; obtain rfl := inj hF
                exact end_s st (Res.t gA Res.nil) rfl rfl
          · have hF := bif_f hb736 hF; refine g_skip hb736 ?_; refine g_skip hb736 ?_; refine v_pick' hb736 ?_; refine v_move ?_; refine g_take rfl (v_move ?_); refine g_take rfl (v_eqi ?_); refine g_take rfl (v_move ?_)
            rcases Bool.eq_false_or_eq_true (decide (v733.2 = (0 : Int))) with hb742 | hb742
            · have hF := bif_t hb742 hF; refine g_take hb742 (v_move ?_); refine g_take hb742 (v_move ?_); refine g_take hb742 (v_leq ?_); refine g_take rfl (v_pick hb742 ?_); refine v_pick' rfl ?_; refine v_move ?_
              rcases Bool.eq_false_or_eq_true (decide (v733.1 ≤ v706.1)) with hb743 | hb743
              · have hF := bif_t hb743 hF; refine g_take hb743 (v_call st (ct_wakes (h := _) (nx := _)) (fun n744 st => ?_)); refine v_pick hb743 ?_; refine v_move ?_; refine r_nil ?_; refine th_n ?_; refine w_ret ?_; obtain rfl := inj hF
                exact end_s st (Res.t gA Res.nil) rfl rfl
              · have hF := bif_f hb743 hF; refine g_skip hb743 ?_; refine v_pick' hb743 ?_; refine v_move ?_; refine r_nil ?_; refine th_n ?_; refine w_ret ?_; obtain rfl := inj hF
                exact end_s st (Res.t gA Res.nil) rfl rfl
            · have hF := bif_f hb742 hF; refine g_skip hb742 ?_; refine g_skip hb742 ?_; refine g_skip hb742 ?_; refine g_take rfl (v_pick' hb742 ?_); refine v_pick' rfl ?_; refine v_move ?_; refine g_skip rfl ?_; refine v_pick' rfl ?_; refine v_move ?_; refine r_nil ?_; refine th_n ?_; refine w_ret ?_; obtain rfl := inj hF
              exact end_s st (Res.t gA Res.nil) rfl rfl
end Go.Hx.V


/- Loops of functions on lists and numbers: what they come to. -/
namespace Go.Hx.V
open Go.Hx
theorem iter_ind {α β : Type} {step : α → Option (α ⊕ β)} (P : α → Prop) (m : α → Nat) (Y : β → Prop)
    (h : ∀ x, P x → (∃ x', step x = some (.inl x') ∧ P x' ∧ m x' < m x) ∨ ∃ y, step x = some (.inr y) ∧ Y y) : ∀ (N : Nat) (x : α), P x → m x < N → ∃ y, iter step N x = some y ∧ Y y
  | 0, x, hp, hm => by omega
  | N + 1, x, hp, hm => by
    unfold iter
    rcases h x hp with ⟨x', e, hp', hm'⟩ | ⟨y, e, hy⟩
    · rw [e]; exact iter_ind P m Y h N x' hp' (by omega)
    · rw [e]; exact ⟨y, rfl, hy⟩
theorem iter_run {α β : Type} {step : α → Option (α ⊕ β)} (s : Nat → α) (y : β) : ∀ (n i N : Nat), (∀ j, i ≤ j → j < i + n → step (s j) = some (.inl (s (j + 1)))) → step (s (i + n)) = some (.inr y) → n < N → iter step N (s i) = some y
  | 0, i, N, hs, he, hN => by
    obtain ⟨N, rfl⟩ : ∃ k, N = k + 1 := ⟨N - 1, by omega⟩
    unfold iter; rw [Nat.add_zero] at he; rw [he]; rfl
  | n + 1, i, N, hs, he, hN => by
    obtain ⟨N, rfl⟩ : ∃ k, N = k + 1 := ⟨N - 1, by omega⟩
    unfold iter
    rw [hs i (by omega) (by omega)]
    exact iter_run s y n (i + 1) N (fun j h1 h2 => hs j (by omega) (by omega)) (by rw [show i + 1 + n = i + (n + 1) by omega]; exact he) (by omega)
/-- A loop from 0 on. -/
theorem iter_up {α β : Type} {step : α → Option (α ⊕ β)} {x : α} {N : Nat} (s : Nat → α) (n : Nat) (y : β) (hx : x = s 0) (hs : ∀ j, j < n → step (s j) = some (.inl (s (j + 1)))) (he : step (s n) = some (.inr y)) (hN : n < N) : iter step N x = some y := by
  subst hx
  exact iter_run s y n 0 N (fun j _ h2 => hs j (by omega)) (by rw [Nat.zero_add]; exact he) hN
/-- A loop that ends early, or not. -/
theorem iter_all {α β : Type} {step : α → Option (α ⊕ β)} {x : α} {N : Nat} (s : Nat → α) (n : Nat) (p : Nat → Prop) [DecidablePred p] (good bad : β) (hx : x = s 0) (hs : ∀ j, j < n → p j → step (s j) = some (.inl (s (j + 1)))) (hf : ∀ j, j < n → ¬ p j → step (s j) = some (.inr bad)) (he : step (s n) = some (.inr good)) (hN : n < N) :
    ((∀ j, j < n → p j) ∧ iter step N x = some good) ∨ (¬ (∀ j, j < n → p j) ∧ iter step N x = some bad) := by
  by_cases h : ∀ j, j < n → p j
  · exact .inl ⟨h, iter_up s n good hx (fun j hj => hs j hj (h j hj)) he hN⟩
  · refine .inr ⟨h, ?_⟩
    have h1 : ∃ j, j < n ∧ ¬ p j := by
      refine Classical.byContradiction fun hc => h fun j hj => Classical.byContradiction fun hp => hc ⟨j, hj, hp⟩
    -- the first one
    obtain ⟨j, hj, hp, hmin⟩ : ∃ j, j < n ∧ ¬ p j ∧ ∀ i, i < j → p i := by
      obtain ⟨j, hj⟩ := h1
      induction j using Nat.strongRecOn with
      | ind j ih =>
        by_cases g : ∀ i, i < j → p i
        · exact ⟨j, hj.1, hj.2, g⟩
        · have : ∃ i, i < j ∧ ¬ p i := Classical.byContradiction fun hc => g fun i hi => Classical.byContradiction fun hp => hc ⟨i, hi, hp⟩
          obtain ⟨i, hi, hpi⟩ := this
          exact ih i hi ⟨by omega, hpi⟩
    exact iter_up s j bad hx (fun i hi => hs i (by omega) (hmin i hi)) (hf j hj hp) (by omega)
theorem ix_at {α β : Type} {l : List α} {j : Int} {n : Nat} {x : α} {k : α → Option β} (hj : j = n) (h : l[n]? = some x) : ix l j k = k x := by
  subst hj; exact ix_pos h
theorem ix_0 {α β : Type} {l : List α} {x : α} {k : α → Option β} (h : l[0]? = some x) : ix l (0 : Int) k = k x := ix_at (n := 0) rfl h
theorem lt_some {α : Type} {l : List α} {n : Nat} (h : n < l.length) : l[n]? = some l[n] := List.getElem?_eq_getElem h
theorem some_lt {α : Type} {l : List α} {n : Nat} {x : α} (h : l[n]? = some x) : n < l.length := by
  rcases Nat.lt_or_ge n l.length with g | g
  · exact g
  · rw [List.getElem?_eq_none g] at h; cases h
theorem take_succ' {α : Type} {l : List α} {n : Nat} {x : α} (h : l[n]? = some x) : l.take (n + 1) = l.take n ++ [x] := by
  rw [List.take_add_one, h]; rfl
/-- A list that is built by going through another one. -/
theorem iter_map {α γ : Type} {step : Int × List γ → Option ((Int × List γ) ⊕ List γ)} {N : Nat} (l : List α) (f : Nat → α → γ) (hs : ∀ (j : Nat) (x : α) (acc : List γ), l[j]? = some x → acc.length = j → step ((j : Int), acc) = some (.inl (((j + 1 : Nat) : Int), acc ++ [f j x]))) (he : ∀ acc, step ((l.length : Int), acc) = some (.inr acc)) (hN : l.length < N) :
    iter step N ((0 : Int), ([] : List γ)) = some (l.mapIdx f) := by
  refine iter_up (fun j => ((j : Int), (l.mapIdx f).take j)) l.length _ rfl (fun j hj => ?_) ?_ hN
  · try dsimp only
    rw [hs j l[j] _ (lt_some hj) (by rw [List.length_take, List.length_mapIdx]; omega)]
    congr 2
    rw [take_succ' (x := f j l[j]) (by rw [List.getElem?_mapIdx, lt_some hj]; rfl)]
  · try dsimp only
    rw [he, List.take_of_length_le (by rw [List.length_mapIdx]; omega)]
theorem mapIdx_id {α : Type} (l : List α) : (l.mapIdx fun _ x => x) = l := by
  refine List.ext_getElem? fun i => ?_
  rw [List.getElem?_mapIdx]; cases l[i]? <;> rfl
end Go.Hx.V

/- Layer 4: what its functions come to, in words of lists and numbers. -/
namespace Go.Hx.V
open Go.Hx
set_option linter.unusedVariables false
set_option linter.unusedSimpArgs false
set_option maxRecDepth 20000
abbrev Ph := List (Int × Int)
abbrev Zo := List (Int × Int × Int)
theorem sd {p q : Prop} [Decidable p] [Decidable q] (h : p ↔ q) : some (decide p) = some (decide q) := by rw [decide_eq_decide.2 h]
theorem sf_ {q : Prop} [Decidable q] (h : ¬ q) : some false = some (decide q) := by rw [decide_eq_false h]
theorem m24 {N : Nat} {a b c : Int} : sf24 N a b c = some (decide (b ≤ a ∧ a ≤ c)) := by
  unfold sf24
  by_cases h : b ≤ a <;> simp [h]
def spn (r : Int × Int) : Prop := -20 ≤ r.1 ∧ r.1 ≤ r.2 ∧ r.2 ≤ 20
instance (r : Int × Int) : Decidable (spn r) := by unfold spn; infer_instance
theorem m86 {N : Nat} {a b : Int} : sf86 N a b = some (decide (spn (a, b))) := by
  unfold sf86
  rw [m24, bnd_ret]
  by_cases h : -20 ≤ a ∧ a ≤ b
  · simp only [decide_eq_true h, cond_true]
    exact sd (by unfold spn; dsimp only; omega)
  · simp only [decide_eq_false h, cond_false]
    exact sf_ (by unfold spn; dsimp only; omega)
theorem m98 {N : Nat} {a b : Int} : sf98 N a b = some (decide (spn (a, b))) := by
  unfold sf98
  by_cases h : -20 ≤ a <;> by_cases h2 : a ≤ b <;> simp [h, h2, spn]
theorem m100 {N : Nat} {a b c : Int} : sf100 N a b c = some (decide ((0 ≤ a ∧ a ≤ 60) ∧ spn (b, c))) := by
  unfold sf100
  rw [m98, bnd_ret]
  by_cases h : 0 ≤ a <;> by_cases h2 : a ≤ 60 <;> simp [h, h2]
/-- A valid screw. -/
structure VS (st : Int) (ph : Ph) (zo : Zo) (tk : Int) : Prop where
  lp : ph.length ≤ 8
  lz : zo.length ≤ 3
  s1 : 1 ≤ st
  s2 : st ≤ 50
  t1 : 1 ≤ tk
  t2 : tk ≤ 60
  pn : 0 < ph.length
  zn : 0 < zo.length
  z0 : ∀ z : Int × Int × Int, zo[0]? = some z → z.1 = 0
  zs : ∀ (i : Nat) (z : Int × Int × Int), zo[i]? = some z → (0 ≤ z.1 ∧ z.1 ≤ 60) ∧ spn z.2
  zi : ∀ (i : Nat) (z z' : Int × Int × Int), zo[i]? = some z → zo[i + 1]? = some z' → z.1 < z'.1
  ps : ∀ (i : Nat) (r : Int × Int), ph[i]? = some r → spn r
  go : ∀ (i k : Nat) (r : Int × Int) (z : Int × Int × Int), ph[i]? = some r → zo[k]? = some z → 1 ≤ st + r.1 + z.2.1
theorem m19a {N : Nat} {l : Ph} (hN : l.length < N) (hl : l.length < 1000000000) : iter (sf19_L1 N l) N ((0 : Int), ([] : Ph)) = some l := by
  rw [iter_map l (fun _ x => x) (fun j x acc hx ha => ?_) (fun acc => ?_) hN, mapIdx_id]
  · have hj := some_lt hx
    unfold sf19_L1
    simp only [decide_eq_true (show (j : Int) < (l.length : Int) by omega), cond_true]
    rw [ix_at rfl hx]
    simp only [sf25, bnd_ret]
    rw [ck_pos (by omega), ck_pos (by unfold rng; omega)]
    rfl
  · unfold sf19_L1
    simp only [decide_eq_false (show ¬ (l.length : Int) < (l.length : Int) by omega), cond_false]
theorem m19b {N : Nat} {l : Zo} (hN : l.length < N) (hl : l.length < 1000000000) : iter (sf19_L2 N l) N ((0 : Int), ([] : Zo)) = some l := by
  rw [iter_map l (fun _ x => x) (fun j x acc hx ha => ?_) (fun acc => ?_) hN, mapIdx_id]
  · have hj := some_lt hx
    unfold sf19_L2
    simp only [decide_eq_true (show (j : Int) < (l.length : Int) by omega), cond_true]
    rw [ix_at rfl hx, ix_at rfl hx]
    simp only [sf25, bnd_ret]
    rw [ck_pos (by omega), ck_pos (by unfold rng; omega)]
    rfl
  · unfold sf19_L2
    simp only [decide_eq_false (show ¬ (l.length : Int) < (l.length : Int) by omega), cond_false]
theorem m19 {N : Nat} {st tk : Int} {ph : Ph} {zo : Zo} (h1 : ph.length < N) (h2 : zo.length < N) (hN : N < 1000000000) : sf19 N st ph zo tk = some (st, ph, zo, tk) := by
  unfold sf19
  rw [m19a h1 (by omega), bnd_ret, m19b h2 (by omega), bnd_ret]
theorem m30 {N : Nat} {l : List Int} (h : l.length < 1000000000) : sf30 N l = some l := by
  unfold sf30
  rw [ck_pos (by simp; omega)]
  rfl
/-! what the reference says of a screw -/
def zok (zo : Zo) (i : Nat) : Prop := ∀ z : Int × Int × Int, zo[i]? = some z → ((0 ≤ z.1 ∧ z.1 ≤ 60) ∧ spn z.2) ∧ ∀ y : Int × Int × Int, 0 < i → zo[i - 1]? = some y → y.1 < z.1
theorem m56a1 {N : Nat} {zo : Zo} {j : Nat} {z0 : Int × Int × Int} (hl : zo.length < 1000000000) (hz : zo[j]? = some z0) : (zok zo j ∧ sf56_L1 N zo (j : Int) = some (.inl ((j + 1 : Nat) : Int))) ∨ (¬ zok zo j ∧ sf56_L1 N zo (j : Int) = some (.inr (.inl 1))) := by
  have hj := some_lt hz
  have q3 : rng ((j : Int) + 1) := by unfold rng; omega
  unfold sf56_L1
  rw [decide_eq_true (show (j : Int) < (zo.length : Int) by omega), cond_true, ix_at rfl hz]
  simp only [m24, m86, bnd_ret]
  by_cases c1 : 0 ≤ z0.1 ∧ z0.1 ≤ 60
  · rw [decide_eq_true c1, Bool.not_true, cond_false]
    by_cases c2 : spn z0.2
    · rw [decide_eq_true (show spn (z0.2.1, z0.2.2) from c2), Bool.not_true, cond_false]
      by_cases c3 : 0 < j
      · obtain ⟨y0, hy⟩ : ∃ z, zo[j - 1]? = some z := ⟨_, lt_some (show j - 1 < zo.length by omega)⟩
        have q4 : rng ((j : Int) - 1) := by unfold rng; omega
        rw [decide_eq_true (show (0 : Int) < (j : Int) by omega), cond_true, ck_pos q4, ix_at (n := j - 1) (by omega) hy, bnd_ret]
        by_cases c4 : z0.1 ≤ y0.1
        · right
          rw [decide_eq_true c4, cond_true]
          exact ⟨fun h => by have := (h _ hz).2 _ c3 hy; omega, rfl⟩
        · left
          rw [decide_eq_false c4, cond_false, ck_pos q3]
          exact ⟨fun z h => by rw [hz] at h; cases h; exact ⟨⟨c1, c2⟩, fun y _ h2 => by rw [hy] at h2; cases h2; omega⟩, rfl⟩
      · left
        rw [decide_eq_false (show ¬ (0 : Int) < (j : Int) by omega), cond_false, bnd_ret, cond_false, ck_pos q3]
        exact ⟨fun z h => by rw [hz] at h; cases h; exact ⟨⟨c1, c2⟩, fun y h3 => absurd h3 c3⟩, rfl⟩
    · right
      rw [decide_eq_false (show ¬ spn (z0.2.1, z0.2.2) from c2), Bool.not_false, cond_true, bnd_ret, cond_true]
      exact ⟨fun h => c2 (h _ hz).1.2, rfl⟩
  · right
    rw [decide_eq_false c1, Bool.not_false, cond_true, bnd_ret, cond_true]
    exact ⟨fun h => c1 (h _ hz).1.1, rfl⟩
theorem m56a {N : Nat} {zo : Zo} (hN : zo.length < N) (hl : zo.length < 1000000000) : ((∀ i, i < zo.length → zok zo i) ∧ iter (sf56_L1 N zo) N (0 : Int) = some (.inr ())) ∨ (¬ (∀ i, i < zo.length → zok zo i) ∧ iter (sf56_L1 N zo) N (0 : Int) = some (.inl 1)) := by
  haveI : DecidablePred (zok zo) := fun _ => Classical.propDecidable _
  refine iter_all (step := sf56_L1 N zo) (N := N) (fun j => (j : Int)) zo.length (zok zo) (.inr ()) (.inl 1) rfl (fun j hj hp => ?_) (fun j hj hp => ?_) (by unfold sf56_L1; rw [decide_eq_false (show ¬ (zo.length : Int) < (zo.length : Int) by omega), cond_false]) hN
  · rcases m56a1 (N := N) hl (lt_some hj) with h | h
    · exact h.2
    · exact absurd hp h.1
  · rcases m56a1 (N := N) hl (lt_some hj) with h | h
    · exact absurd h.1 hp
    · exact h.2
def gok (st : Int) (r : Int × Int) (zo : Zo) (k : Nat) : Prop := ∀ z : Int × Int × Int, zo[k]? = some z → 1 ≤ st + r.1 + z.2.1
theorem m56b1 {st : Int} {ph : Ph} {zo : Zo} {i j : Nat} {r : Int × Int} {z : Int × Int × Int} (hr : ph[i]? = some r) (h1 : 1 ≤ st ∧ st ≤ 50) (hs : spn r) (hz2 : zo[j]? = some z) (hz3 : spn z.2) (hl : zo.length < 1000000000) : (gok st r zo j ∧ sf56_L2 st ph zo (i : Int) (j : Int) = some (.inl ((j + 1 : Nat) : Int))) ∨ (¬ gok st r zo j ∧ sf56_L2 st ph zo (i : Int) (j : Int) = some (.inr (.inl 1))) := by
  have hj := some_lt hz2
  unfold spn at hs hz3
  unfold sf56_L2
  have q : rng (st + r.1) := by unfold rng; omega
  have q2 : rng (st + r.1 + z.2.1) := by unfold rng; omega
  have q3 : rng ((j : Int) + 1) := by unfold rng; omega
  rw [decide_eq_true (show (j : Int) < (zo.length : Int) by omega), cond_true, ix_at rfl hr, ck_pos q, ix_at rfl hz2, ck_pos q2]
  by_cases c : st + r.1 + z.2.1 < 1
  · right
    rw [decide_eq_true c, cond_true]
    exact ⟨fun h => by have := h _ hz2; omega, rfl⟩
  · left
    rw [decide_eq_false c, cond_false, ck_pos q3]
    exact ⟨fun z h => by rw [hz2] at h; cases h; omega, rfl⟩
theorem m56b {N : Nat} {st : Int} {ph : Ph} {zo : Zo} {i : Nat} {r : Int × Int} (hr : ph[i]? = some r) (h1 : 1 ≤ st ∧ st ≤ 50) (hs : spn r) (hz : ∀ (k : Nat) (z : Int × Int × Int), zo[k]? = some z → spn z.2) (hN : zo.length < N) (hl : zo.length < 1000000000) : ((∀ k, k < zo.length → gok st r zo k) ∧ iter (sf56_L2 st ph zo (i : Int)) N (0 : Int) = some (.inr ())) ∨ (¬ (∀ k, k < zo.length → gok st r zo k) ∧ iter (sf56_L2 st ph zo (i : Int)) N (0 : Int) = some (.inl 1)) := by
  haveI : DecidablePred (gok st r zo) := fun _ => Classical.propDecidable _
  refine iter_all (step := sf56_L2 st ph zo (i : Int)) (N := N) (fun j => (j : Int)) zo.length (gok st r zo) (.inr ()) (.inl 1) rfl (fun j hj hp => ?_) (fun j hj hp => ?_) (by unfold sf56_L2; rw [decide_eq_false (show ¬ (zo.length : Int) < (zo.length : Int) by omega), cond_false]) hN
  · rcases m56b1 hr h1 hs (lt_some hj) (hz _ _ (lt_some hj)) hl with h | h
    · exact h.2
    · exact absurd hp h.1
  · rcases m56b1 hr h1 hs (lt_some hj) (hz _ _ (lt_some hj)) hl with h | h
    · exact absurd h.1 hp
    · exact h.2
def pok (st : Int) (ph : Ph) (zo : Zo) (i : Nat) : Prop := ∀ r : Int × Int, ph[i]? = some r → spn r ∧ ∀ k, k < zo.length → gok st r zo k
theorem m56c {N : Nat} {st : Int} {ph : Ph} {zo : Zo} (h1 : 1 ≤ st ∧ st ≤ 50) (hz : ∀ (k : Nat) (z : Int × Int × Int), zo[k]? = some z → spn z.2) (hN : zo.length < N) (hl : zo.length < 1000000000) (hN2 : ph.length < N) (hl2 : ph.length < 1000000000) : ((∀ k, k < ph.length → pok st ph zo k) ∧ iter (sf56_L3 N st ph zo) N (0 : Int) = some (.inr ())) ∨ (¬ (∀ k, k < ph.length → pok st ph zo k) ∧ iter (sf56_L3 N st ph zo) N (0 : Int) = some (.inl 1)) := by
  have key : ∀ j, j < ph.length → (pok st ph zo j ∧ sf56_L3 N st ph zo (j : Int) = some (.inl ((j + 1 : Nat) : Int))) ∨ (¬ pok st ph zo j ∧ sf56_L3 N st ph zo (j : Int) = some (.inr (.inl 1))) := fun j hj => by
    obtain ⟨r0, hr⟩ : ∃ z, ph[j]? = some z := ⟨_, lt_some hj⟩
    unfold sf56_L3
    simp only [decide_eq_true (show (j : Int) < (ph.length : Int) by omega), cond_true]
    rw [ix_at rfl hr]
    simp only [m86, bnd_ret]
    by_cases c : spn r0
    · simp only [decide_eq_true (show spn (r0.1, r0.2) from c), Bool.not_true, cond_false]
      rcases m56b hr h1 c hz hN hl with ⟨g1, g2⟩ | ⟨g1, g2⟩
      · left
        refine ⟨fun r h => by rw [hr] at h; cases h; exact ⟨c, g1⟩, ?_⟩
        rw [g2, bnd_ret]
        rw [ck_pos (by unfold rng; omega)]; rfl
      · right
        refine ⟨fun h => g1 (h _ hr).2, ?_⟩
        rw [g2, bnd_ret]
        rfl
    · right
      refine ⟨fun h => c (h _ hr).1, ?_⟩
      simp only [decide_eq_false (show ¬ spn (r0.1, r0.2) from c), Bool.not_false, cond_true]
  haveI : DecidablePred (pok st ph zo) := fun _ => Classical.propDecidable _
  refine iter_all (step := sf56_L3 N st ph zo) (N := N) (fun j => (j : Int)) ph.length (pok st ph zo) (.inr ()) (.inl 1) rfl (fun j hj hp => ?_) (fun j hj hp => ?_) (by unfold sf56_L3; simp only [decide_eq_false (show ¬ (ph.length : Int) < (ph.length : Int) by omega), cond_false]) hN2
  · rcases key j hj with h | h
    · exact h.2
    · exact absurd hp h.1
  · rcases key j hj with h | h
    · exact absurd h.1 hp
    · exact h.2
/-- What the reference tells of a screw. -/
theorem m56 {N : Nat} {st tk : Int} {ph : Ph} {zo : Zo} (hN : zo.length < N) (hN2 : ph.length < N) (hl : N < 1000000000) :
    ∃ e, sf56 N st ph zo tk = some e ∧ (e = 0 ↔ VS st ph zo tk) ∧ (e = 3 ↔ (8 < ph.length ∨ 3 < zo.length)) ∧ (e = 0 ∨ e = 1 ∨ e = 3) := by
  unfold sf56
  by_cases c1 : 8 < ph.length
  · simp only [decide_eq_true (show (8 : Int) < (ph.length : Int) by omega), cond_true, bnd_ret, sel]
    exact ⟨3, rfl, ⟨fun h => by omega, fun v => by have := v.lp; omega⟩, ⟨fun _ => .inl c1, fun _ => rfl⟩, .inr (.inr rfl)⟩
  simp only [decide_eq_false (show ¬ (8 : Int) < (ph.length : Int) by omega), cond_false, bnd_ret]
  by_cases c2 : 3 < zo.length
  · simp only [decide_eq_true (show (3 : Int) < (zo.length : Int) by omega), cond_true, bnd_ret, sel]
    exact ⟨3, rfl, ⟨fun h => by omega, fun v => by have := v.lz; omega⟩, ⟨fun _ => .inr c2, fun _ => rfl⟩, .inr (.inr rfl)⟩
  simp only [decide_eq_false (show ¬ (3 : Int) < (zo.length : Int) by omega), cond_false, bnd_ret, sel, m24]
  have bad : ¬ VS st ph zo tk → ∃ e : Int, some (1 : Int) = some e ∧ (e = 0 ↔ VS st ph zo tk) ∧ (e = 3 ↔ (8 < ph.length ∨ 3 < zo.length)) ∧ (e = 0 ∨ e = 1 ∨ e = 3) := fun h => ⟨1, rfl, ⟨fun e => by omega, fun v => absurd v h⟩, ⟨fun e => by omega, fun e => by omega⟩, .inr (.inl rfl)⟩
  by_cases c3 : 1 ≤ st ∧ st ≤ 50
  · simp only [decide_eq_true c3, Bool.not_true, cond_false, bnd_ret]
    by_cases c4 : 1 ≤ tk ∧ tk ≤ 60
    · simp only [decide_eq_true c4, Bool.not_true, cond_false]
      by_cases c5 : ph.length = 0
      · simp only [decide_eq_true (show (ph.length : Int) = 0 by omega), cond_true, bnd_ret, sel]
        exact bad fun v => by have := v.pn; omega
      simp only [decide_eq_false (show ¬ (ph.length : Int) = 0 by omega), cond_false]
      by_cases c6 : zo.length = 0
      · simp only [decide_eq_true (show (zo.length : Int) = 0 by omega), cond_true, bnd_ret, sel]
        exact bad fun v => by have := v.zn; omega
      simp only [decide_eq_false (show ¬ (zo.length : Int) = 0 by omega), cond_false]
      obtain ⟨y0, h0⟩ : ∃ z, zo[0]? = some z := ⟨_, lt_some (show 0 < zo.length by omega)⟩
      rw [show ix zo (0 : Int) (fun x85 => some (!decide (x85.1 = 0))) = some (!decide (y0.1 = 0)) from ix_at (n := 0) rfl h0, bnd_ret]
      by_cases c7 : y0.1 = 0
      · simp only [decide_eq_true c7, Bool.not_true, cond_false, bnd_ret, sel]
        rcases m56a hN (by omega) with ⟨g1, g2⟩ | ⟨g1, g2⟩
        · rw [g2, bnd_ret]
          show ∃ e, (bnd (iter (sf56_L3 N st ph zo) N (0 : Int)) _) = some e ∧ _
          have hzs : ∀ (k : Nat) (z : Int × Int × Int), zo[k]? = some z → spn z.2 := fun k z hz => (g1 k (some_lt hz) z hz).1.2
          rcases m56c (N := N) c3 hzs hN (by omega) hN2 (by omega) with ⟨q1, q2⟩ | ⟨q1, q2⟩
          · rw [q2, bnd_ret]
            refine ⟨0, rfl, ⟨fun _ => ⟨by omega, by omega, c3.1, c3.2, c4.1, c4.2, by omega, by omega, fun z hz => by rw [h0] at hz; cases hz; exact c7, fun i z hz => (g1 i (some_lt hz) z hz).1, fun i z z' hz hz' => (g1 (i + 1) (some_lt hz') z' hz').2 z (by omega) hz, fun i r hr => (q1 i (some_lt hr) r hr).1, fun i k r z hr hz => (q1 i (some_lt hr) r hr).2 k (some_lt hz) z hz⟩, fun _ => rfl⟩, ⟨fun e => by omega, fun e => by omega⟩, .inl rfl⟩
          · rw [q2, bnd_ret]
            exact bad fun v => q1 fun k hk r hr => ⟨v.ps k r hr, fun j hj z hz => v.go k j r z hr hz⟩
        · rw [g2, bnd_ret]
          exact bad fun v => g1 fun i hi z hz => ⟨v.zs i z hz, fun y hpos hy => v.zi (i - 1) y z hy (by rw [show i - 1 + 1 = i by omega]; exact hz)⟩
      · simp only [decide_eq_false c7, Bool.not_false, cond_true, bnd_ret, sel]
        exact bad fun v => c7 (v.z0 _ h0)
    · simp only [decide_eq_false c4, Bool.not_false, cond_true, bnd_ret, sel]
      exact bad fun v => c4 ⟨v.t1, v.t2⟩
  · simp only [decide_eq_false c3, Bool.not_false, cond_true, bnd_ret, sel]
    exact bad fun v => c3 ⟨v.s1, v.s2⟩
end Go.Hx.V

/- Layer 4: the program's check of a screw. -/
namespace Go.Hx.V
open Go.Hx
set_option linter.unusedVariables false
set_option linter.unusedSimpArgs false
set_option maxRecDepth 20000
theorem iter_allB {step : Int → Option (Int ⊕ (Unit ⊕ Unit))} {N : Nat} (i0 n : Nat) (p : Nat → Prop) (h : ∀ j, i0 ≤ j → j < i0 + n → (p j ∧ step (j : Int) = some (.inl ((j + 1 : Nat) : Int))) ∨ (¬ p j ∧ step (j : Int) = some (.inr (.inl ())))) (he : step ((i0 + n : Nat) : Int) = some (.inr (.inr ()))) (hN : n < N) :
    ((∀ j, i0 ≤ j → j < i0 + n → p j) ∧ iter step N (i0 : Int) = some (.inr ())) ∨ (¬ (∀ j, i0 ≤ j → j < i0 + n → p j) ∧ iter step N (i0 : Int) = some (.inl ())) := by
  haveI : DecidablePred fun j => p (i0 + j) := fun _ => Classical.propDecidable _
  rcases iter_all (step := step) (N := N) (x := (i0 : Int)) (fun j => ((i0 + j : Nat) : Int)) n (fun j => p (i0 + j)) (.inr ()) (.inl ()) rfl (fun j hj hp => by
    rcases h (i0 + j) (by omega) (by omega) with g | g
    · exact g.2
    · exact absurd hp g.1) (fun j hj hp => by
    rcases h (i0 + j) (by omega) (by omega) with g | g
    · exact absurd g.1 hp
    · exact g.2) he hN with ⟨g1, g2⟩ | ⟨g1, g2⟩
  · exact .inl ⟨fun j h1 h2 => by have := g1 (j - i0) (by omega); rwa [show i0 + (j - i0) = j by omega] at this, g2⟩
  · exact .inr ⟨fun hh => g1 fun j hj => hh _ (by omega) (by omega), g2⟩
theorem m97 {N : Nat} {ph : Ph} (hN : ph.length < N) (hl : ph.length < 1000000000) : ((∀ (i : Nat) r, ph[i]? = some r → spn r) ∧ sf97 N ph = some true) ∨ (¬ (∀ (i : Nat) r, ph[i]? = some r → spn r) ∧ sf97 N ph = some false) := by
  unfold sf97
  have k1 : ∀ j, 0 ≤ j → j < 0 + ph.length → (((fun i => ∀ r, ph[i]? = some r → spn r)) j ∧ sf97_L1 N ph (j : Int) = some (.inl ((j + 1 : Nat) : Int))) ∨ (¬ ((fun i => ∀ r, ph[i]? = some r → spn r)) j ∧ sf97_L1 N ph (j : Int) = some (.inr (.inl ()))) := fun j _ hj => by
    obtain ⟨r, hr⟩ : ∃ r, ph[j]? = some r := ⟨_, lt_some (by omega)⟩
    have q3 : rng ((j : Int) + 1) := by unfold rng; omega
    unfold sf97_L1
    rw [decide_eq_true (show (j : Int) < (ph.length : Int) by omega), cond_true, ix_at rfl hr, m98, bnd_ret]
    by_cases c : spn r
    · left
      rw [decide_eq_true (show spn (r.1, r.2) from c), Bool.not_true, cond_false, ck_pos q3]
      exact ⟨fun r' h => by rw [hr] at h; cases h; exact c, rfl⟩
    · right
      rw [decide_eq_false (show ¬ spn (r.1, r.2) from c), Bool.not_false, cond_true]
      exact ⟨fun h => c (h r hr), rfl⟩
  have k2 : sf97_L1 N ph ((0 + ph.length : Nat) : Int) = some (.inr (.inr ())) := by
    unfold sf97_L1
    rw [decide_eq_false (show ¬ ((0 + ph.length : Nat) : Int) < (ph.length : Int) by omega), cond_false]
  rcases iter_allB (step := sf97_L1 N ph) (N := N) 0 ph.length (fun i => ∀ r, ph[i]? = some r → spn r) k1 k2 hN with ⟨g1, g2⟩ | ⟨g1, g2⟩
  · left
    have g2' : iter (sf97_L1 N ph) N (0 : Int) = some (.inr ()) := g2
    rw [g2', bnd_ret]
    exact ⟨fun i r hr => g1 i (by omega) (by have := some_lt hr; omega) r hr, rfl⟩
  · right
    have g2' : iter (sf97_L1 N ph) N (0 : Int) = some (.inl ()) := g2
    rw [g2', bnd_ret]
    exact ⟨fun h => g1 fun j _ _ r hr => h j r hr, rfl⟩
def zsp (z : Int × Int × Int) : Prop := (0 ≤ z.1 ∧ z.1 ≤ 60) ∧ spn z.2
theorem m99 {N : Nat} {zo : Zo} (hN : zo.length < N) (hl : zo.length < 1000000000) : ((∀ (i : Nat) z, zo[i]? = some z → zsp z) ∧ sf99 N zo = some true) ∨ (¬ (∀ (i : Nat) z, zo[i]? = some z → zsp z) ∧ sf99 N zo = some false) := by
  unfold sf99
  have k1 : ∀ j, 0 ≤ j → j < 0 + zo.length → (((fun i => ∀ z, zo[i]? = some z → zsp z)) j ∧ sf99_L1 N zo (j : Int) = some (.inl ((j + 1 : Nat) : Int))) ∨ (¬ ((fun i => ∀ z, zo[i]? = some z → zsp z)) j ∧ sf99_L1 N zo (j : Int) = some (.inr (.inl ()))) := fun j _ hj => by
    obtain ⟨r, hr⟩ : ∃ r, zo[j]? = some r := ⟨_, lt_some (by omega)⟩
    have q3 : rng ((j : Int) + 1) := by unfold rng; omega
    unfold sf99_L1
    rw [decide_eq_true (show (j : Int) < (zo.length : Int) by omega), cond_true, ix_at rfl hr, m100, bnd_ret]
    by_cases c : zsp r
    · left
      rw [decide_eq_true (show (0 ≤ r.1 ∧ r.1 ≤ 60) ∧ spn (r.2.1, r.2.2) from c), Bool.not_true, cond_false, ck_pos q3]
      exact ⟨fun r' h => by rw [hr] at h; cases h; exact c, rfl⟩
    · right
      rw [decide_eq_false (show ¬ ((0 ≤ r.1 ∧ r.1 ≤ 60) ∧ spn (r.2.1, r.2.2)) from c), Bool.not_false, cond_true]
      exact ⟨fun h => c (h r hr), rfl⟩
  have k2 : sf99_L1 N zo ((0 + zo.length : Nat) : Int) = some (.inr (.inr ())) := by
    unfold sf99_L1
    rw [decide_eq_false (show ¬ ((0 + zo.length : Nat) : Int) < (zo.length : Int) by omega), cond_false]
  rcases iter_allB (step := sf99_L1 N zo) (N := N) 0 zo.length (fun i => ∀ z, zo[i]? = some z → zsp z) k1 k2 hN with ⟨g1, g2⟩ | ⟨g1, g2⟩
  · left
    have g2' : iter (sf99_L1 N zo) N (0 : Int) = some (.inr ()) := g2
    rw [g2', bnd_ret]
    exact ⟨fun i r hr => g1 i (by omega) (by have := some_lt hr; omega) r hr, rfl⟩
  · right
    have g2' : iter (sf99_L1 N zo) N (0 : Int) = some (.inl ()) := g2
    rw [g2', bnd_ret]
    exact ⟨fun h => g1 fun j _ _ r hr => h j r hr, rfl⟩
def zri (zo : Zo) (i : Nat) : Prop := ∀ y z : Int × Int × Int, zo[i - 1]? = some y → zo[i]? = some z → y.1 < z.1
theorem m101 {N : Nat} {zo : Zo} (hN : zo.length < N) (hl : zo.length < 1000000000) : ((∀ i, 1 ≤ i → i < zo.length → zri zo i) ∧ sf101 N zo = some true) ∨ (¬ (∀ i, 1 ≤ i → i < zo.length → zri zo i) ∧ sf101 N zo = some false) := by
  unfold sf101
  have k1 : ∀ j, 1 ≤ j → j < 1 + (zo.length - 1) → ((zri zo) j ∧ sf101_L1 N zo (j : Int) = some (.inl ((j + 1 : Nat) : Int))) ∨ (¬ (zri zo) j ∧ sf101_L1 N zo (j : Int) = some (.inr (.inl ()))) := fun j h1 hj => by
    obtain ⟨z, hz⟩ : ∃ r, zo[j]? = some r := ⟨_, lt_some (by omega)⟩
    obtain ⟨y, hy⟩ : ∃ r, zo[j - 1]? = some r := ⟨_, lt_some (by omega)⟩
    have q3 : rng ((j : Int) + 1) := by unfold rng; omega
    have q4 : rng ((j : Int) - 1) := by unfold rng; omega
    unfold sf101_L1
    rw [decide_eq_true (show (j : Int) < (zo.length : Int) by omega), cond_true, ck_pos q4, ix_at (n := j - 1) (by omega) hy, ix_at rfl hz]
    unfold sf102
    rw [bnd_ret]
    by_cases c : y.1 < z.1
    · left
      rw [decide_eq_true c, Bool.not_true, cond_false, ck_pos q3]
      exact ⟨fun y' z' h h' => by rw [hy] at h; rw [hz] at h'; cases h; cases h'; exact c, rfl⟩
    · right
      rw [decide_eq_false c, Bool.not_false, cond_true]
      exact ⟨fun h => c (h y z hy hz), rfl⟩
  have k2 : sf101_L1 N zo ((1 + (zo.length - 1) : Nat) : Int) = some (.inr (.inr ())) := by
    unfold sf101_L1
    rw [decide_eq_false (show ¬ ((1 + (zo.length - 1) : Nat) : Int) < (zo.length : Int) by omega), cond_false]
  rcases iter_allB (step := sf101_L1 N zo) (N := N) 1 (zo.length - 1) (zri zo) k1 k2 (by omega) with ⟨g1, g2⟩ | ⟨g1, g2⟩
  · left
    have g2' : iter (sf101_L1 N zo) N (1 : Int) = some (.inr ()) := g2
    rw [g2', bnd_ret]
    exact ⟨fun i h1 h2 => g1 i h1 (by omega), rfl⟩
  · right
    have g2' : iter (sf101_L1 N zo) N (1 : Int) = some (.inl ()) := g2
    rw [g2', bnd_ret]
    exact ⟨fun h => g1 fun j h1 h2 => h j h1 (by omega), rfl⟩
theorem m84 {N : Nat} {st tk : Int} {ph : Ph} {zo : Zo} (hN : ph.length < N) (hN2 : zo.length < N) (hl : N < 1000000000) : sf84 N st ph zo tk = some (ph.map (·.1), zo.map (·.2.1)) := by
  have mi : ∀ {α β : Type} (f : α → β) (l : List α), (l.mapIdx fun _ x => f x) = l.map f := fun f l => by
    refine List.ext_getElem? fun i => ?_
    rw [List.getElem?_mapIdx, List.getElem?_map]
  unfold sf84
  rw [iter_map ph (fun _ x => x.1) (fun j x acc hx ha => ?_) (fun acc => ?_) hN, bnd_ret, iter_map zo (fun _ x => x.2.1) (fun j x acc hx ha => ?_) (fun acc => ?_) hN2, bnd_ret, mi, mi]
  · have hj := some_lt hx
    have q3 : rng ((j : Int) + 1) := by unfold rng; omega
    unfold sf84_L2
    dsimp only
    rw [decide_eq_true (show (j : Int) < (zo.length : Int) by omega), cond_true, ix_at rfl hx]
    unfold sf105
    rw [bnd_ret, ck_pos (by omega), ck_pos q3]; rfl
  · unfold sf84_L2
    dsimp only
    rw [decide_eq_false (show ¬ (zo.length : Int) < (zo.length : Int) by omega), cond_false]
  · have hj := some_lt hx
    have q3 : rng ((j : Int) + 1) := by unfold rng; omega
    unfold sf84_L1
    dsimp only
    rw [decide_eq_true (show (j : Int) < (ph.length : Int) by omega), cond_true, ix_at rfl hx]
    unfold sf105
    rw [bnd_ret, ck_pos (by omega), ck_pos q3]; rfl
  · unfold sf84_L1
    dsimp only
    rw [decide_eq_false (show ¬ (ph.length : Int) < (ph.length : Int) by omega), cond_false]
/-- The least of some numbers. -/
def lst (a : Int) (l : List Int) : Nat → Int
  | 0 => a
  | n + 1 => match l[n]? with | some x => if x < lst a l n then x else lst a l n | none => lst a l n
theorem m103 {N : Nat} {a : Int} {l : List Int} (hN : l.length < N) (hl : N < 1000000000) : sf103 N a l = some (lst a l l.length) := by
  unfold sf103
  rw [iter_up (step := sf103_L1 l) (x := (a, (0 : Int))) (fun j => (lst a l j, (j : Int))) l.length (lst a l l.length) rfl (fun j hj => ?_) ?_ hN, bnd_ret]
  · unfold sf103_L1
    dsimp only
    rw [decide_eq_false (show ¬ (l.length : Int) < (l.length : Int) by omega), cond_false]
  · obtain ⟨x, hx⟩ : ∃ r, l[j]? = some r := ⟨_, lt_some hj⟩
    have q3 : rng ((j : Int) + 1) := by unfold rng; omega
    unfold sf103_L1
    dsimp only
    rw [decide_eq_true (show (j : Int) < (l.length : Int) by omega), cond_true, ix_at rfl hx]
    rw [show lst a l (j + 1) = (if x < lst a l j then x else lst a l j) by rw [lst, hx]]
    by_cases c : x < lst a l j
    · rw [decide_eq_true c, cond_true, ck_pos q3, if_pos c]; rfl
    · rw [decide_eq_false c, cond_false, ck_pos q3, if_neg c]; rfl
theorem lst_le {a : Int} {l : List Int} : ∀ n, lst a l n ≤ a ∧ (∀ i x, i < n → l[i]? = some x → lst a l n ≤ x) ∧ (lst a l n = a ∨ ∃ i : Nat, l[i]? = some (lst a l n))
  | 0 => ⟨Int.le_refl _, fun i x h => by omega, .inl rfl⟩
  | n + 1 => by
    obtain ⟨h1, h2, h3⟩ := lst_le (a := a) (l := l) n
    unfold lst
    cases e : l[n]? with
    | none =>
      refine ⟨h1, fun i x hi hx => ?_, h3⟩
      rcases Nat.lt_or_ge i n with g | g
      · exact h2 i x g hx
      · rw [show i = n by omega, e] at hx; cases hx
    | some y =>
      dsimp only
      by_cases c : y < lst a l n
      · rw [if_pos c]
        refine ⟨by omega, fun i x hi hx => ?_, .inr ⟨n, e⟩⟩
        rcases Nat.lt_or_ge i n with g | g
        · have := h2 i x g hx; omega
        · rw [show i = n by omega, e] at hx; cases hx; omega
      · rw [if_neg c]
        refine ⟨h1, fun i x hi hx => ?_, h3⟩
        rcases Nat.lt_or_ge i n with g | g
        · exact h2 i x g hx
        · rw [show i = n by omega, e] at hx; cases hx; omega
theorem m103c {N : Nat} {x : Int} {l : List Int} (hx : l[0]? = some x) (hN : l.length < N) (hl : N < 1000000000) : ∃ m, sf103 N x ((l.drop (Int.toNat (1 : Int))).take (l.length - (Int.toNat (1 : Int)))) = some m ∧ (∀ (i : Nat) y, l[i]? = some y → m ≤ y) ∧ ∃ i : Nat, l[i]? = some m := by
  have e1 : Int.toNat 1 = 1 := rfl
  have e : ((l.drop (Int.toNat (1 : Int))).take (l.length - (Int.toNat (1 : Int)))) = l.drop 1 := by
    rw [e1, List.take_of_length_le (by rw [List.length_drop]; omega)]
  rw [e]
  have hlen : (l.drop 1).length = l.length - 1 := by rw [List.length_drop]
  refine ⟨_, m103 (by omega) hl, ?_, ?_⟩
  · obtain ⟨h1, h2, _⟩ := lst_le (a := x) (l := l.drop 1) (l.drop 1).length
    intro i y hy
    cases i with
    | zero => rw [hx] at hy; cases hy; exact h1
    | succ i => exact h2 i y (by have := some_lt hy; omega) (by rw [List.getElem?_drop, Nat.add_comm]; exact hy)
  · obtain ⟨_, _, h3⟩ := lst_le (a := x) (l := l.drop 1) (l.drop 1).length
    rcases h3 with h3 | ⟨i, h3⟩
    · exact ⟨0, by rw [h3]; exact hx⟩
    · exact ⟨1 + i, by rw [List.getElem?_drop] at h3; exact h3⟩
end Go.Hx.V

/- Layer 4: the program's check of a screw is the reference's; zones; places. -/
namespace Go.Hx.V
open Go.Hx
set_option linter.unusedVariables false
set_option linter.unusedSimpArgs false
set_option maxRecDepth 20000
theorem bndid {α : Type} {x : Option α} : bnd x (fun v => some v) = x := by cases x <;> rfl
theorem m18 {N : Nat} {st tk : Int} {ph : Ph} {zo : Zo} (hN : zo.length < N) (hN2 : ph.length < N) (hl : N < 1000000000) :
    ∃ e, sf18 N st ph zo tk = some e ∧ (e = 0 ↔ VS st ph zo tk) ∧ (e = 3 ↔ (8 < ph.length ∨ 3 < zo.length)) ∧ (e = 0 ∨ e = 1 ∨ e = 3) := by
  have big : 8 < ph.length ∨ 3 < zo.length → ∃ e : Int, some (3 : Int) = some e ∧ (e = 0 ↔ VS st ph zo tk) ∧ (e = 3 ↔ (8 < ph.length ∨ 3 < zo.length)) ∧ (e = 0 ∨ e = 1 ∨ e = 3) := fun h => ⟨3, rfl, ⟨fun e => by omega, fun v => by have := v.lp; have := v.lz; omega⟩, ⟨fun _ => h, fun _ => rfl⟩, .inr (.inr rfl)⟩
  have bad : ¬ (8 < ph.length ∨ 3 < zo.length) → ¬ VS st ph zo tk → ∃ e : Int, some (1 : Int) = some e ∧ (e = 0 ↔ VS st ph zo tk) ∧ (e = 3 ↔ (8 < ph.length ∨ 3 < zo.length)) ∧ (e = 0 ∨ e = 1 ∨ e = 3) := fun g h => ⟨1, rfl, ⟨fun e => by omega, fun v => absurd v h⟩, ⟨fun e => by omega, fun e => absurd e g⟩, .inr (.inl rfl)⟩
  unfold sf18
  by_cases c1 : 8 < ph.length
  · rw [decide_eq_true (show (8 : Int) < (ph.length : Int) by omega), cond_true, bnd_ret, cond_true]
    exact big (.inl c1)
  rw [decide_eq_false (show ¬ (8 : Int) < (ph.length : Int) by omega), cond_false, bnd_ret]
  by_cases c2 : 3 < zo.length
  · rw [decide_eq_true (show (3 : Int) < (zo.length : Int) by omega), cond_true]
    exact big (.inr c2)
  rw [decide_eq_false (show ¬ (3 : Int) < (zo.length : Int) by omega), cond_false]
  have g : ¬ (8 < ph.length ∨ 3 < zo.length) := by omega
  have fin : ∀ b : Bool, sf50 N st ph zo tk = some b → (b = true ↔ VS st ph zo tk) → ∃ e : Int, (bnd (sf50 N st ph zo tk) fun v11 => bif (!v11) then some (1 : Int) else some (0 : Int)) = some e ∧ (e = 0 ↔ VS st ph zo tk) ∧ (e = 3 ↔ (8 < ph.length ∨ 3 < zo.length)) ∧ (e = 0 ∨ e = 1 ∨ e = 3) := fun b hb hv => by
    rw [hb, bnd_ret]
    cases b with
    | true => exact ⟨0, rfl, ⟨fun _ => hv.1 rfl, fun _ => rfl⟩, ⟨fun e => by omega, fun e => absurd e g⟩, .inl rfl⟩
    | false => exact bad g fun v => by have := hv.2 v; cases this
  have no : ∀ {x : Option Bool}, sf50 N st ph zo tk = some false → ¬ VS st ph zo tk → ∃ e : Int, (bnd (sf50 N st ph zo tk) fun v11 => bif (!v11) then some (1 : Int) else some (0 : Int)) = some e ∧ (e = 0 ↔ VS st ph zo tk) ∧ (e = 3 ↔ (8 < ph.length ∨ 3 < zo.length)) ∧ (e = 0 ∨ e = 1 ∨ e = 3) := fun h hv => fin false h ⟨(fun e => by cases e), fun v => absurd v hv⟩
  by_cases d1 : 1 ≤ st
  rotate_left
  · exact no (x := none) (by unfold sf50; rw [decide_eq_false d1, cond_false]) fun v => d1 v.s1
  by_cases d2 : st ≤ 50
  rotate_left
  · exact no (x := none) (by unfold sf50; rw [decide_eq_true d1, cond_true, decide_eq_false d2, cond_false]) fun v => d2 v.s2
  by_cases d3 : 1 ≤ tk
  rotate_left
  · exact no (x := none) (by unfold sf50; rw [decide_eq_true d1, cond_true, decide_eq_true d2, cond_true, decide_eq_false d3, cond_false]) fun v => d3 v.t1
  by_cases d4 : tk ≤ 60
  rotate_left
  · exact no (x := none) (by unfold sf50; rw [decide_eq_true d1, cond_true, decide_eq_true d2, cond_true, decide_eq_true d3, cond_true, decide_eq_false d4, cond_false]) fun v => d4 v.t2
  have e50 : sf50 N st ph zo tk = (bnd (sf76 N st ph zo tk) fun v8 => (bif v8 then (bnd (sf77 N st ph zo tk) fun v12 => (bif v12 then (bnd (sf78 N st ph zo tk) fun v16 => some v16) else some false)) else some false)) := by
    unfold sf50
    rw [decide_eq_true d1, cond_true, decide_eq_true d2, cond_true, decide_eq_true d3, cond_true, decide_eq_true d4, cond_true]
  by_cases d5 : 0 < ph.length
  rotate_left
  · exact no (x := none) (by rw [e50]; unfold sf76; rw [decide_eq_false (show ¬ (0 : Int) < (ph.length : Int) by omega), cond_false, bnd_ret, cond_false]) fun v => d5 v.pn
  have e76 : sf76 N st ph zo tk = sf97 N ph := by unfold sf76; rw [decide_eq_true (show (0 : Int) < (ph.length : Int) by omega), cond_true, bndid]
  rcases m97 hN2 (by omega) with ⟨p1, p2⟩ | ⟨p1, p2⟩
  rotate_left
  · exact no (x := none) (by rw [e50, e76, p2, bnd_ret, cond_false]) fun v => p1 fun i r hr => v.ps i r hr
  by_cases d6 : 0 < zo.length
  rotate_left
  · exact no (x := none) (by rw [e50, e76, p2, bnd_ret, cond_true]; unfold sf77; rw [decide_eq_false (show ¬ (0 : Int) < (zo.length : Int) by omega), cond_false, bnd_ret, cond_false]) fun v => d6 v.zn
  obtain ⟨z0, h0⟩ : ∃ z, zo[0]? = some z := ⟨_, lt_some d6⟩
  have e77 : sf77 N st ph zo tk = (bif (decide (z0.1 = 0)) then (bnd (sf99 N zo) fun v7 => (bif v7 then (bnd (sf101 N zo) fun v11 => some v11) else some false)) else some false) := by
    unfold sf77
    rw [decide_eq_true (show (0 : Int) < (zo.length : Int) by omega), cond_true]
    exact ix_at (n := 0) rfl h0
  by_cases d7 : z0.1 = 0
  rotate_left
  · exact no (x := none) (by rw [e50, e76, p2, bnd_ret, cond_true, e77, decide_eq_false d7, cond_false, bnd_ret, cond_false]) fun v => d7 (v.z0 _ h0)
  rw [decide_eq_true d7, cond_true] at e77
  rcases m99 hN (by omega) with ⟨q1, q2⟩ | ⟨q1, q2⟩
  rotate_left
  · exact no (x := none) (by rw [e50, e76, p2, bnd_ret, cond_true, e77, q2, bnd_ret, cond_false, bnd_ret, cond_false]) fun v => q1 fun i z hz => v.zs i z hz
  rw [q2, bnd_ret, cond_true, bndid] at e77
  rcases m101 hN (by omega) with ⟨u1, u2⟩ | ⟨u1, u2⟩
  rotate_left
  · exact no (x := none) (by rw [e50, e76, p2, bnd_ret, cond_true, e77, u2, bnd_ret, cond_false]) fun v => u1 fun i hi1 hi2 y z hy hz => v.zi (i - 1) y z hy (by rw [show i - 1 + 1 = i by omega]; exact hz)
  -- the least sum
  obtain ⟨r0, hr0⟩ : ∃ r, ph[0]? = some r := ⟨_, lt_some d5⟩
  have f1 : (ph.map (·.1))[0]? = some r0.1 := by rw [List.getElem?_map, hr0]; rfl
  have f2 : (zo.map (·.2.1))[0]? = some z0.2.1 := by rw [List.getElem?_map, h0]; rfl
  obtain ⟨m1, a1, a2, i1, a3⟩ := m103c (N := N) f1 (by rw [List.length_map]; omega) hl
  obtain ⟨m2, b1, b2, i2, b3⟩ := m103c (N := N) f2 (by rw [List.length_map]; omega) hl
  obtain ⟨ra, hra, rfl⟩ : ∃ r, ph[i1]? = some r ∧ r.1 = m1 := by
    rw [List.getElem?_map] at a3
    cases h : ph[i1]? with
    | none => rw [h] at a3; cases a3
    | some r => rw [h] at a3; exact ⟨r, rfl, Option.some.inj a3⟩
  obtain ⟨zb, hzb, rfl⟩ : ∃ r, zo[i2]? = some r ∧ r.2.1 = m2 := by
    rw [List.getElem?_map] at b3
    cases h : zo[i2]? with
    | none => rw [h] at b3; cases b3
    | some r => rw [h] at b3; exact ⟨r, rfl, Option.some.inj b3⟩
  have sa := p1 _ _ hra
  have sb := (q1 _ _ hzb).2
  unfold spn at sa sb
  have e78 : sf78 N st ph zo tk = some (decide (1 ≤ st + ra.1 + zb.2.1)) := by
    unfold sf78 sf83
    rw [bnd_ret, m84 hN2 hN hl, bnd_ret]
    have w1 : rng (st + ra.1) := by unfold rng; omega
    have w2 : rng (st + ra.1 + zb.2.1) := by unfold rng; omega
    have l1 : (ph.map (·.1)).length = ph.length := List.length_map ..
    have l2 : (zo.map (·.2.1)).length = zo.length := List.length_map ..
    have t1 : Int.toNat 1 = 1 := rfl
    dsimp only
    rw [ix_0 f1, ck_pos (by rw [l1, t1]; omega), a1, bnd_ret, ix_0 f2, ck_pos (by rw [l2, t1]; omega), b1, bnd_ret, ck_pos w1, ck_pos w2]
  refine fin (decide (1 ≤ st + ra.1 + zb.2.1)) (by rw [e50, e76, p2, bnd_ret, cond_true, e77, u2, bnd_ret, cond_true, e78, bnd_ret]) ?_
  rw [decide_eq_true_eq]
  refine ⟨fun h => ⟨by omega, by omega, d1, d2, d3, d4, d5, d6, fun z hz => by rw [h0] at hz; cases hz; exact d7, q1, fun i z z' hz hz' => u1 (i + 1) (by omega) (some_lt hz') z z' hz hz', p1, fun i k r z hr hz => ?_⟩, fun v => v.go _ _ _ _ hra hzb⟩
  have g1 := a2 i r.1 (by rw [List.getElem?_map, hr]; rfl)
  have g2 := b2 k z.2.1 (by rw [List.getElem?_map, hz]; rfl)
  omega
/-- The zone of a tick, of the first so many. -/
def znf (zo : Zo) (k : Int) : Nat → Nat
  | 0 => 0
  | n + 1 => match zo[n]? with | some z => if z.1 ≤ k then n else znf zo k n | none => znf zo k n
def zn (zo : Zo) (k : Int) : Nat := znf zo k zo.length
theorem znf_lt {zo : Zo} {k : Int} (h : 0 < zo.length) : ∀ n, n ≤ zo.length → znf zo k n < zo.length
  | 0, _ => h
  | n + 1, hn => by
    obtain ⟨z, hz⟩ : ∃ z, zo[n]? = some z := ⟨_, lt_some (by omega)⟩
    have := znf_lt (k := k) h n (by omega)
    rw [znf, hz]
    dsimp only
    by_cases c : z.1 ≤ k
    · rw [if_pos c]; omega
    · rw [if_neg c]; exact this
theorem m82 {N : Nat} {st tk k : Int} {ph : Ph} {zo : Zo} (hN : zo.length < N) (hl : N < 1000000000) : sf82 N st ph zo tk k = some (zn zo k : Int) := by
  unfold sf82
  rw [iter_up (step := sf82_L1 zo k) (x := ((0 : Int), (0 : Int))) (fun j => ((znf zo k j : Int), (j : Int))) zo.length (zn zo k : Int) rfl (fun j hj => ?_) ?_ hN, bnd_ret]
  · unfold sf82_L1
    dsimp only
    rw [decide_eq_false (show ¬ (zo.length : Int) < (zo.length : Int) by omega), cond_false]
    rfl
  · obtain ⟨z, hz⟩ : ∃ z, zo[j]? = some z := ⟨_, lt_some hj⟩
    have q3 : rng ((j : Int) + 1) := by unfold rng; omega
    unfold sf82_L1
    dsimp only
    rw [decide_eq_true (show (j : Int) < (zo.length : Int) by omega), cond_true, ix_at rfl hz]
    rw [show znf zo k (j + 1) = (if z.1 ≤ k then j else znf zo k j) by rw [znf, hz]]
    by_cases c : z.1 ≤ k
    · rw [decide_eq_true c, cond_true, ck_pos q3, if_pos c]; rfl
    · rw [decide_eq_false c, cond_false, ck_pos q3, if_neg c]; rfl
end Go.Hx.V

/- Layer 4: truths by words; places of ticks. -/
namespace Go.Hx.V
open Go.Hx
set_option linter.unusedVariables false
set_option linter.unusedSimpArgs false
set_option maxRecDepth 20000
def wd (ws : List Int) (j : Nat) : Int := if ws.length = 0 then 0 else (ws[j % ws.length]?).getD 0
theorem wd_bd {ws : List Int} (hw : ∀ x ∈ ws, 0 ≤ x ∧ x < 65536) (j : Nat) : 0 ≤ wd ws j ∧ wd ws j < 65536 := by
  unfold wd
  by_cases c : ws.length = 0
  · rw [if_pos c]; omega
  · rw [if_neg c]
    obtain ⟨x, hx⟩ : ∃ x, ws[j % ws.length]? = some x := ⟨_, lt_some (Nat.mod_lt _ (by omega))⟩
    rw [hx]
    exact hw x (List.mem_of_getElem? hx)
def pck (r : Int × Int) (w : Int) : Int := r.1 + Int.tmod w (r.2 - r.1 + 1)
theorem pck_bd {r : Int × Int} {w : Int} (hs : spn r) (hw : 0 ≤ w) : r.1 ≤ pck r w ∧ pck r w ≤ r.2 := by
  unfold spn at hs
  unfold pck
  have h1 : 0 ≤ Int.tmod w (r.2 - r.1 + 1) := Int.tmod_nonneg _ hw
  have h2 : Int.tmod w (r.2 - r.1 + 1) < r.2 - r.1 + 1 := Int.tmod_lt_of_pos _ (by omega)
  omega
/-- A truth of ranges. -/
def Tru (l : List (Int × Int)) (p : List Int) : Prop := p.length = l.length ∧ ∀ (i : Nat) r x, l[i]? = some r → p[i]? = some x → r.1 ≤ x ∧ x ≤ r.2
def pkl (l : List (Int × Int)) (ws : List Int) (o : Nat) : List Int := l.mapIdx fun j r => pck r (wd ws (j + o))
theorem pkl_tru {l : List (Int × Int)} {ws : List Int} {o : Nat} (hw : ∀ x ∈ ws, 0 ≤ x ∧ x < 65536) (hs : ∀ (i : Nat) r, l[i]? = some r → spn r) : Tru l (pkl l ws o) := by
  refine ⟨by unfold pkl; rw [List.length_mapIdx], fun i r x hr hx => ?_⟩
  unfold pkl at hx
  rw [List.getElem?_mapIdx, hr] at hx
  rw [← Option.some.inj hx]
  exact pck_bd (hs i r hr) (wd_bd hw _).1
abbrev wr (zo : Zo) : List (Int × Int) := zo.map (·.2)
/-! places -/
section
variable (st : Int) (n : Nat) (zo : Zo) (p w : List Int)
def stp (t : Nat) : Int := st + (p[t % n]?).getD 0 + (w[zn zo (t : Int)]?).getD 0
def plc : Nat → Int
  | 0 => 0
  | t + 1 => plc t + stp st n zo p w t
def pls (t : Nat) : List Int := (List.range (t + 1)).map (plc st n zo p w)
end
theorem pls_succ {st : Int} {n : Nat} {zo : Zo} {p w : List Int} {t : Nat} : pls st n zo p w (t + 1) = pls st n zo p w t ++ [plc st n zo p w (t + 1)] := by
  unfold pls
  rw [List.range_succ, List.map_append]; rfl
/-- A truth that is one of a valid screw. -/
structure TS (st : Int) (ph : Ph) (zo : Zo) (tk : Int) (p w : List Int) : Prop where
  v : VS st ph zo tk
  tp : Tru ph p
  tw : Tru (wr zo) w
theorem TS.step {st tk : Int} {ph : Ph} {zo : Zo} {p w : List Int} (h : TS st ph zo tk p w) (t : Nat) : ∃ x y : Int, p[t % ph.length]? = some x ∧ w[zn zo (t : Int)]? = some y ∧ stp st ph.length zo p w t = st + x + y ∧ (-20 ≤ x ∧ x ≤ 20) ∧ (-20 ≤ y ∧ y ≤ 20) ∧ 1 ≤ st + x + y := by
  have hm := Nat.mod_lt t h.v.pn
  have hz : zn zo (t : Int) < zo.length := znf_lt h.v.zn _ (Nat.le_refl _)
  obtain ⟨r, hr⟩ : ∃ r, ph[t % ph.length]? = some r := ⟨_, lt_some hm⟩
  obtain ⟨z, hz2⟩ : ∃ z, zo[zn zo (t : Int)]? = some z := ⟨_, lt_some hz⟩
  obtain ⟨x, hx⟩ : ∃ x, p[t % ph.length]? = some x := ⟨_, lt_some (by rw [h.tp.1]; exact hm)⟩
  obtain ⟨y, hy⟩ : ∃ y, w[zn zo (t : Int)]? = some y := ⟨_, lt_some (by rw [h.tw.1, List.length_map]; exact hz)⟩
  have b1 := h.tp.2 _ _ _ hr hx
  have b2 := h.tw.2 _ z.2 _ (by unfold wr; rw [List.getElem?_map, hz2]; rfl) hy
  have s1 := h.v.ps _ _ hr
  have s2 := (h.v.zs _ _ hz2).2
  have g := h.v.go _ _ _ _ hr hz2
  unfold spn at s1 s2
  refine ⟨x, y, hx, hy, by unfold stp; rw [hx, hy]; rfl, by omega, by omega, by omega⟩
theorem TS.bd {st tk : Int} {ph : Ph} {zo : Zo} {p w : List Int} (h : TS st ph zo tk p w) : ∀ t : Nat, (t : Int) ≤ plc st ph.length zo p w t ∧ plc st ph.length zo p w t ≤ 90 * t
  | 0 => by unfold plc; omega
  | t + 1 => by
    obtain ⟨x, y, _, _, e, b1, b2, b3⟩ := h.step t
    have := h.bd t
    have := h.v.s2
    unfold plc
    rw [e]
    omega
/-- One turn. -/
theorem m53a {N : Nat} {st tk : Int} {ph : Ph} {zo : Zo} {p w : List Int} (h : TS st ph zo tk p w) (q : Nat) (x17 : Int × Int × List Int) (hx : x17.1 = ((q * ph.length : Nat) : Int)) (hq : ((q * ph.length : Nat) : Int) < tk) (hN : 8 < N) (hl : N < 1000000000) :
    ∃ t : Nat, (t : Int) = min (((q + 1) * ph.length : Nat) : Int) tk ∧ (iter (sf53_L1 N st ph zo tk p w x17) N ((0 : Int), plc st ph.length zo p w (q * ph.length), pls st ph.length zo p w (q * ph.length)) = some (.inl (plc st ph.length zo p w t, pls st ph.length zo p w t)) ∨ iter (sf53_L1 N st ph zo tk p w x17) N ((0 : Int), plc st ph.length zo p w (q * ph.length), pls st ph.length zo p w (q * ph.length)) = some (.inr (plc st ph.length zo p w t, pls st ph.length zo p w t))) := by
  have hpn := h.v.pn
  have hlp := h.v.lp
  have ht2 := h.v.t2
  have e1 : (q + 1) * ph.length = q * ph.length + ph.length := by rw [Nat.add_mul, Nat.one_mul]
  obtain ⟨K, rfl⟩ : ∃ K : Nat, tk = (K : Int) := ⟨tk.toNat, by omega⟩
  -- a tick of the turn
  have stepj : ∀ j, j < ph.length → q * ph.length + j < K → sf53_L1 N st ph zo (K : Int) p w x17 ((j : Int), plc st ph.length zo p w (q * ph.length + j), pls st ph.length zo p w (q * ph.length + j)) = some (.inl (((j + 1 : Nat) : Int), plc st ph.length zo p w (q * ph.length + (j + 1)), pls st ph.length zo p w (q * ph.length + (j + 1)))) := fun j hj hk => by
    obtain ⟨x, y, hxx, hyy, e, b1, b2, b3⟩ := h.step (q * ph.length + j)
    have hmod : (q * ph.length + j) % ph.length = j := by rw [Nat.add_comm, Nat.mul_comm, Nat.add_mul_mod_self_left]; exact Nat.mod_eq_of_lt hj
    rw [hmod] at hxx
    have hb := h.bd (q * ph.length + j)
    have q1 : rng (((q * ph.length : Nat) : Int) + (j : Int)) := by unfold rng; omega
    have hs2 := h.v.s2
    have hs1 := h.v.s1
    have q2 : rng (st + x) := by unfold rng; omega
    have q3 : rng (st + x + y) := by unfold rng; omega
    have q4 : rng (plc st ph.length zo p w (q * ph.length + j) + (st + x + y)) := by unfold rng; omega
    have q5 : rng ((j : Int) + 1) := by unfold rng; omega
    have hlz := h.v.lz
    have llen : (pls st ph.length zo p w (q * ph.length + j)).length = q * ph.length + j + 1 := by unfold pls; rw [List.length_map, List.length_range]
    unfold sf53_L1
    dsimp only
    rw [decide_eq_true (show (j : Int) < (ph.length : Int) by omega), cond_true, hx, ck_pos q1, decide_eq_false (show ¬ (((q * ph.length : Nat) : Int) + (j : Int) = (K : Int)) by omega), cond_false, ix_at rfl hxx, ck_pos q2, show ((q * ph.length : Nat) : Int) + (j : Int) = ((q * ph.length + j : Nat) : Int) from rfl, m82 (by omega) hl, bnd_ret, ix_at rfl hyy, ck_pos q3, ck_pos q4, ck_pos (by rw [llen]; omega), ck_pos q5]
    have e2 : plc st ph.length zo p w (q * ph.length + (j + 1)) = plc st ph.length zo p w (q * ph.length + j) + (st + x + y) := by
      rw [← Nat.add_assoc]; show plc st ph.length zo p w (q * ph.length + j) + stp st ph.length zo p w (q * ph.length + j) = _; rw [e]
    rw [← Nat.add_assoc (q * ph.length) j 1, pls_succ, Nat.add_assoc, e2]
    rfl
  by_cases c : (q + 1) * ph.length ≤ K
  · refine ⟨(q + 1) * ph.length, by omega, .inr ?_⟩
    refine iter_up (fun j => ((j : Int), plc st ph.length zo p w (q * ph.length + j), pls st ph.length zo p w (q * ph.length + j))) ph.length _ rfl (fun j hj => stepj j hj (by omega)) ?_ (by omega)
    unfold sf53_L1
    dsimp only
    rw [decide_eq_false (show ¬ (ph.length : Int) < (ph.length : Int) by omega), cond_false, e1]
  · refine ⟨K, by omega, .inl ?_⟩
    have e3 : q * ph.length + (K - q * ph.length) = K := by omega
    refine iter_up (fun j => ((j : Int), plc st ph.length zo p w (q * ph.length + j), pls st ph.length zo p w (q * ph.length + j))) (K - q * ph.length) _ rfl (fun j hj => stepj j (by omega) (by omega)) ?_ (by omega)
    have q1 : rng (((q * ph.length : Nat) : Int) + ((K - q * ph.length : Nat) : Int)) := by unfold rng; omega
    unfold sf53_L1
    dsimp only
    rw [decide_eq_true (show ((K - q * ph.length : Nat) : Int) < (ph.length : Int) by omega), cond_true, hx, ck_pos q1, decide_eq_true (show ((q * ph.length : Nat) : Int) + ((K - q * ph.length : Nat) : Int) = (K : Int) by omega), cond_true, e3]
end Go.Hx.V

/- Layer 4: places of all ticks; the law of P4.13. -/
namespace Go.Hx.V
open Go.Hx
set_option linter.unusedVariables false
set_option linter.unusedSimpArgs false
set_option maxRecDepth 20000
theorem sel_inl {α β γ : Type} {f : α → Option γ} {g : β → Option γ} {x : α} : sel f g (.inl x) = f x := rfl
theorem sel_inr {α β γ : Type} {f : α → Option γ} {g : β → Option γ} {x : β} : sel f g (.inr x) = g x := rfl
theorem least {p : Nat → Prop} (h : ∃ m, p m) : ∃ m, p m ∧ ∀ q, q < m → ¬ p q := by
  obtain ⟨m, hm⟩ := h
  induction m using Nat.strongRecOn with
  | ind m ih =>
    by_cases g : ∀ q, q < m → ¬ p q
    · exact ⟨m, hm, g⟩
    · obtain ⟨q, hq⟩ : ∃ q, q < m ∧ p q := Classical.byContradiction fun hc => g fun q h1 h2 => hc ⟨q, h1, h2⟩
      exact ih q hq.1 hq.2
theorem m53 {N : Nat} {st : Int} {K : Nat} {ph : Ph} {zo : Zo} {p w : List Int} (h : TS st ph zo (K : Int) p w) (hN : 70 < N) (hl : N < 1000000000) : sf53 N st ph zo (K : Int) p w = some (pls st ph.length zo p w K) := by
  have hpn := h.v.pn
  have ht2 := h.v.t2
  have ht1 := h.v.t1
  have q1 : rng ((K : Int) + 1) := by unfold rng; omega
  have t1 : Int.toNat 1 = 1 := rfl
  have t2 : Int.toNat ((K : Int) + 1) = K + 1 := by omega
  -- the state ahead of a turn
  let s : Nat → Int × Int × List Int := fun q => (((q * ph.length : Nat) : Int), plc st ph.length zo p w (min (q * ph.length) K), pls st ph.length zo p w (min (q * ph.length) K))
  have hstep : ∀ q, q * ph.length < K → sf53_L2 N st ph zo (K : Int) p w (s q) = some (.inl (s (q + 1))) := fun q hq => by
    have e1 : (q + 1) * ph.length = q * ph.length + ph.length := by rw [Nat.add_mul, Nat.one_mul]
    have hlp := h.v.lp
    have hm : min (q * ph.length) K = q * ph.length := by omega
    obtain ⟨t, ht, hi⟩ := m53a (N := N) h q (s q) rfl (by omega) (by omega) hl
    have ht' : t = min ((q + 1) * ph.length) K := by omega
    have q3 : rng (((q * ph.length : Nat) : Int) + (ph.length : Int)) := by unfold rng; omega
    unfold sf53_L2
    rw [decide_eq_true (show (s q).1 < (K : Int) by show ((q * ph.length : Nat) : Int) < _; omega), cond_true]
    have e2 : ((0 : Int), (s q).2.1, (s q).2.2) = ((0 : Int), plc st ph.length zo p w (q * ph.length), pls st ph.length zo p w (q * ph.length)) := by show (_, plc _ _ _ _ _ (min _ _), pls _ _ _ _ _ (min _ _)) = _; rw [hm]
    have e3 : s (q + 1) = (((q * ph.length : Nat) : Int) + (ph.length : Int), plc st ph.length zo p w t, pls st ph.length zo p w t) := by
      show ((((q + 1) * ph.length : Nat) : Int), plc _ _ _ _ _ (min _ _), pls _ _ _ _ _ (min _ _)) = _
      rw [← ht', e1]; rfl
    rw [e2]
    rcases hi with hi | hi
    · rw [hi, bnd_ret, sel_inl, show (s q).1 = ((q * ph.length : Nat) : Int) from rfl, ck_pos q3, e3]
    · rw [hi, bnd_ret, sel_inr, show (s q).1 = ((q * ph.length : Nat) : Int) from rfl, ck_pos q3, e3]
  -- how many turns
  obtain ⟨m, hm1, hm2⟩ : ∃ m, K ≤ m * ph.length ∧ ∀ q, q < m → q * ph.length < K := by
    obtain ⟨m, h1, h2⟩ := least (p := fun m => K ≤ m * ph.length) ⟨K, Nat.le_mul_of_pos_right _ hpn⟩
    exact ⟨m, h1, fun q hq => Nat.not_le.1 (h2 q hq)⟩
  have hmK : m ≤ K := by
    rcases Nat.lt_or_ge K m with g | g
    · have := hm2 K g
      have := Nat.le_mul_of_pos_right K hpn
      omega
    · exact g
  have run : iter (sf53_L2 N st ph zo (K : Int) p w) N ((0 : Int), (0 : Int), List.replicate (Int.toNat 1) 0) = some (plc st ph.length zo p w K, pls st ph.length zo p w K) := by
    refine iter_up s m _ ?_ (fun q hq => hstep q (hm2 q hq)) ?_ (by omega)
    · show _ = (((0 * ph.length : Nat) : Int), plc _ _ _ _ _ (min (0 * ph.length) K), pls _ _ _ _ _ (min (0 * ph.length) K))
      rw [Nat.zero_mul, Nat.zero_min]; rfl
    · unfold sf53_L2
      rw [decide_eq_false (show ¬ (s m).1 < (K : Int) by show ¬ ((m * ph.length : Nat) : Int) < _; omega), cond_false]
      show some (Sum.inr (plc _ _ _ _ _ (min _ _), pls _ _ _ _ _ (min _ _))) = _
      rw [show min (m * ph.length) K = K by omega]
  unfold sf53
  rw [ck_pos q1, ck_pos (by rw [t1, t2]; omega), run, bnd_ret]
theorem m16 {N : Nat} {st tk : Int} {ph : Ph} {zo : Zo} {a b : List Int} : sf16 N st ph zo tk a b = some (decide (ph.length ≤ 11 ∧ zo.length ≤ 6 ∧ a.length ≤ 13 ∧ b.length ≤ 13)) := by
  unfold sf16
  by_cases c1 : ph.length ≤ 11
  · rw [decide_eq_true (show (ph.length : Int) ≤ 11 by omega), cond_true]
    by_cases c2 : zo.length ≤ 6
    · rw [decide_eq_true (show (zo.length : Int) ≤ 6 by omega), cond_true]
      by_cases c3 : a.length ≤ 13
      · rw [decide_eq_true (show (a.length : Int) ≤ 13 by omega), cond_true]
        exact sd (by omega)
      · rw [decide_eq_false (show ¬ (a.length : Int) ≤ 13 by omega), cond_false]
        exact sf_ (by omega)
    · rw [decide_eq_false (show ¬ (zo.length : Int) ≤ 6 by omega), cond_false]
      exact sf_ (by omega)
  · rw [decide_eq_false (show ¬ (ph.length : Int) ≤ 11 by omega), cond_false]
    exact sf_ (by omega)
end Go.Hx.V

/- Layer 4: whole turns within one zone are of one length; the law of P4.11. -/
namespace Go.Hx.V
open Go.Hx
set_option linter.unusedVariables false
set_option linter.unusedSimpArgs false
set_option maxRecDepth 20000
theorem znf_le {zo : Zo} {k : Int} : ∀ n, znf zo k n ≤ n
  | 0 => Nat.le_refl _
  | n + 1 => by
    have := znf_le (zo := zo) (k := k) n
    rw [znf]
    cases h : zo[n]? with
    | none => dsimp only; omega
    | some z =>
      dsimp only
      by_cases c : z.1 ≤ k
      · rw [if_pos c]; omega
      · rw [if_neg c]; omega
theorem znf_mono {zo : Zo} {a b : Int} (h : a ≤ b) : ∀ n, znf zo a n ≤ znf zo b n
  | 0 => Nat.le_refl _
  | n + 1 => by
    have := znf_mono (zo := zo) h n
    have hl := znf_le (zo := zo) (k := a) n
    rw [znf, znf]
    cases hz : zo[n]? with
    | none => exact this
    | some z =>
      dsimp only
      by_cases c : z.1 ≤ a
      · rw [if_pos c, if_pos (show z.1 ≤ b by omega)]; omega
      · rw [if_neg c]
        by_cases c2 : z.1 ≤ b
        · rw [if_pos c2]; exact hl
        · rw [if_neg c2]; exact this
theorem zn_mono {zo : Zo} {a b : Int} (h : a ≤ b) : zn zo a ≤ zn zo b := znf_mono h _
def sm (f : Nat → Int) : Nat → Int
  | 0 => 0
  | n + 1 => sm f n + f n
theorem sm_eq {f g : Nat → Int} : ∀ n, (∀ j, j < n → f j = g j) → sm f n = sm g n
  | 0, _ => rfl
  | n + 1, h => by unfold sm; rw [sm_eq n fun j hj => h j (by omega), h n (by omega)]
theorem sm_shift (f : Nat → Int) : ∀ n, sm (fun j => f (j + 1)) n + f 0 = sm f n + f n
  | 0 => rfl
  | n + 1 => by
    have := sm_shift f n
    unfold sm
    omega
theorem sm_turn {g : Nat → Int} {n : Nat} (h : ∀ i, g (i + n) = g i) : ∀ a, sm (fun j => g (a + j)) n = sm g n
  | 0 => sm_eq n fun j _ => by rw [Nat.zero_add]
  | a + 1 => by
    have e : sm (fun j => g (a + (j + 1))) n + g a = sm (fun j => g (a + j)) n + g (a + n) := sm_shift (fun j => g (a + j)) n
    have e2 : sm (fun j => g (a + 1 + j)) n = sm (fun j => g (a + (j + 1))) n := sm_eq n fun j _ => by show g (a + 1 + j) = g (a + (j + 1)); congr 1; omega
    have e3 := h a
    have ih := sm_turn h a
    rw [e2]
    omega
theorem plc_add {st : Int} {n : Nat} {zo : Zo} {p w : List Int} (a : Nat) : ∀ m, plc st n zo p w (a + m) = plc st n zo p w a + sm (fun j => stp st n zo p w (a + j)) m
  | 0 => by unfold sm; rw [Nat.add_zero]; omega
  | m + 1 => by
    have := plc_add (st := st) (n := n) (zo := zo) (p := p) (w := w) a m
    show plc st n zo p w (a + m) + stp st n zo p w (a + m) = _
    unfold sm
    omega
/-- A whole turn in the zone 'z'. -/
theorem turn {st : Int} {n : Nat} {zo : Zo} {p w : List Int} {a z : Nat} (h1 : zn zo (a : Int) = z) (h2 : zn zo ((a : Int) + (n : Int) - 1) = z) :
    plc st n zo p w (a + n) - plc st n zo p w a = sm (fun t => st + (p[t % n]?).getD 0 + (w[z]?).getD 0) n := by
  have e := plc_add (st := st) (n := n) (zo := zo) (p := p) (w := w) a n
  have e2 : sm (fun j => stp st n zo p w (a + j)) n = sm (fun j => (fun t => st + (p[t % n]?).getD 0 + (w[z]?).getD 0) (a + j)) n := sm_eq n fun j hj => by
    have b1 := zn_mono (zo := zo) (show (a : Int) ≤ ((a + j : Nat) : Int) by omega)
    have b2 := zn_mono (zo := zo) (show ((a + j : Nat) : Int) ≤ (a : Int) + (n : Int) - 1 by omega)
    have e3 : zn zo ((a + j : Nat) : Int) = z := by omega
    show stp st n zo p w (a + j) = _
    unfold stp
    rw [e3]
  rw [sm_turn (g := fun t => st + (p[t % n]?).getD 0 + (w[z]?).getD 0) (fun i => by show _ + (p[(i + n) % n]?).getD 0 + _ = _; rw [Nat.add_mod_right])] at e2
  omega
theorem truth {st : Int} {K : Nat} {ph : Ph} {zo : Zo} {ws : List Int} (v : VS st ph zo (K : Int)) (hw : ∀ x ∈ ws, 0 ≤ x ∧ x < 65536) : TS st ph zo (K : Int) (pkl ph ws 0) (pkl (wr zo) ws 9) := ⟨v, pkl_tru hw v.ps, pkl_tru hw fun i r hr => by
    unfold wr at hr
    rw [List.getElem?_map] at hr
    cases hz : zo[i]? with
    | none => rw [hz] at hr; cases hr
    | some z => rw [hz] at hr; cases hr; exact (v.zs i z hz).2⟩
end Go.Hx.V

/- Layer 4: truths that are allowed; least and greatest truths; places as the reference reckons them; the law of P4.1 and P4.2. -/
namespace Go.Hx.V
open Go.Hx
set_option linter.unusedVariables false
set_option linter.unusedSimpArgs false
set_option maxRecDepth 20000
theorem m84h {N : Nat} {st tk : Int} {ph : Ph} {zo : Zo} (hN : ph.length < N) (hN2 : zo.length < N) (hl : N < 1000000000) : sf84_2 N st ph zo tk = some (ph.map (·.2), zo.map (·.2.2)) := by
  have mi : ∀ {α β : Type} (f : α → β) (l : List α), (l.mapIdx fun _ x => f x) = l.map f := fun f l => by
    refine List.ext_getElem? fun i => ?_
    rw [List.getElem?_mapIdx, List.getElem?_map]
  unfold sf84_2
  rw [iter_map ph (fun _ x => x.2) (fun j x acc hx ha => ?_) (fun acc => ?_) hN, bnd_ret, iter_map zo (fun _ x => x.2.2) (fun j x acc hx ha => ?_) (fun acc => ?_) hN2, bnd_ret, mi, mi]
  · have hj := some_lt hx
    have q3 : rng ((j : Int) + 1) := by unfold rng; omega
    unfold sf84_2_L2
    dsimp only
    rw [decide_eq_true (show (j : Int) < (zo.length : Int) by omega), cond_true, ix_at rfl hx]
    unfold sf106
    rw [bnd_ret, ck_pos (by omega), ck_pos q3]; rfl
  · unfold sf84_2_L2
    dsimp only
    rw [decide_eq_false (show ¬ (zo.length : Int) < (zo.length : Int) by omega), cond_false]
  · have hj := some_lt hx
    have q3 : rng ((j : Int) + 1) := by unfold rng; omega
    unfold sf84_2_L1
    dsimp only
    rw [decide_eq_true (show (j : Int) < (ph.length : Int) by omega), cond_true, ix_at rfl hx]
    unfold sf106
    rw [bnd_ret, ck_pos (by omega), ck_pos q3]; rfl
  · unfold sf84_2_L1
    dsimp only
    rw [decide_eq_false (show ¬ (ph.length : Int) < (ph.length : Int) by omega), cond_false]
/-- The least and the greatest truth. -/
theorem lows {st tk : Int} {ph : Ph} {zo : Zo} (v : VS st ph zo tk) : TS st ph zo tk (ph.map (·.1)) (zo.map (·.2.1)) := by
  refine ⟨v, ⟨List.length_map .., fun i r x hr hx => ?_⟩, ⟨by unfold wr; rw [List.length_map, List.length_map], fun i r x hr hx => ?_⟩⟩
  · rw [List.getElem?_map, hr] at hx
    cases hx
    have := v.ps i r hr
    unfold spn at this
    dsimp only; omega
  · unfold wr at hr
    rw [List.getElem?_map] at hr hx
    cases hz : zo[i]? with
    | none => rw [hz] at hr; cases hr
    | some z =>
      rw [hz] at hr hx
      cases hr; cases hx
      have := (v.zs i z hz).2
      unfold spn at this
      dsimp only; omega
theorem highs {st tk : Int} {ph : Ph} {zo : Zo} (v : VS st ph zo tk) : TS st ph zo tk (ph.map (·.2)) (zo.map (·.2.2)) := by
  refine ⟨v, ⟨List.length_map .., fun i r x hr hx => ?_⟩, ⟨by unfold wr; rw [List.length_map, List.length_map], fun i r x hr hx => ?_⟩⟩
  · rw [List.getElem?_map, hr] at hx
    cases hx
    have := v.ps i r hr
    unfold spn at this
    dsimp only; omega
  · unfold wr at hr
    rw [List.getElem?_map] at hr hx
    cases hz : zo[i]? with
    | none => rw [hz] at hr; cases hr
    | some z =>
      rw [hz] at hr hx
      cases hr; cases hx
      have := (v.zs i z hz).2
      unfold spn at this
      dsimp only; omega
abbrev loP (st : Int) (ph : Ph) (zo : Zo) (k : Nat) : Int := plc st ph.length zo (ph.map (·.1)) (zo.map (·.2.1)) k
abbrev hiP (st : Int) (ph : Ph) (zo : Zo) (k : Nat) : Int := plc st ph.length zo (ph.map (·.2)) (zo.map (·.2.2)) k
theorem m54 {N : Nat} {st : Int} {K : Nat} {ph : Ph} {zo : Zo} (v : VS st ph zo (K : Int)) (hN : 70 < N) (hl : N < 1000000000) : sf54 N st ph zo (K : Int) = some (st, ph, zo, (K : Int), pls st ph.length zo (ph.map (·.1)) (zo.map (·.2.1)) K, pls st ph.length zo (ph.map (·.2)) (zo.map (·.2.2)) K) := by
  have := v.lp
  have := v.lz
  unfold sf54
  rw [show sf83 N = some () from rfl, bnd_ret, m84 (by omega) (by omega) hl, bnd_ret, m53 (lows v) hN hl, bnd_ret, show sf85 N = some () from rfl, bnd_ret, m84h (by omega) (by omega) hl, bnd_ret, m53 (highs v) hN hl, bnd_ret]
theorem pls_at {st : Int} {n : Nat} {zo : Zo} {p w : List Int} {k K : Nat} (hk : k ≤ K) : (pls st n zo p w K)[k]? = some (plc st n zo p w k) := by
  unfold pls
  rw [List.getElem?_map, List.getElem?_range (by omega)]; rfl
theorem m55 {N : Nat} {st : Int} {k K : Nat} {ph : Ph} {zo : Zo} (hk : k ≤ K) {a : Int} {b : Ph} {c : Zo} {d : Int} : sf55 N a b c d (pls st ph.length zo (ph.map (·.1)) (zo.map (·.2.1)) K) (pls st ph.length zo (ph.map (·.2)) (zo.map (·.2.2)) K) (k : Int) = some (loP st ph zo k, hiP st ph zo k) := by
  unfold sf55
  rw [ix_at rfl (pls_at hk), ix_at rfl (pls_at hk)]
end Go.Hx.V

/- Layer 4: lines that are right; the law of P4.3. -/
namespace Go.Hx.V
open Go.Hx
set_option linter.unusedVariables false
set_option linter.unusedSimpArgs false
set_option maxRecDepth 20000
theorem m60 {N : Nat} {a : Int} : sf60 N a = some (decide (0 ≤ a ∧ a ≤ 5000)) := by
  unfold sf60
  by_cases h : 0 ≤ a <;> simp [h]
theorem m96 {N : Nat} {a b : Int} (hN : 2 < N) : sf96 N a [b] = some (max a b) := by
  obtain ⟨M, rfl⟩ : ∃ M, N = M + 2 := ⟨N - 2, by omega⟩
  have s0 : sf96_L1 [b] (a, (0 : Int)) = some (.inl (max a b, (1 : Int))) := by
    have q : rng ((0 : Int) + 1) := by unfold rng; omega
    unfold sf96_L1
    dsimp only
    rw [decide_eq_true (show (0 : Int) < (([b] : List Int).length : Int) by show (0 : Int) < 1; omega), cond_true, ix_0 (show [b][0]? = some b from rfl)]
    by_cases c : a < b
    · rw [decide_eq_true c, cond_true, ck_pos q, show max a b = b by omega]; rfl
    · rw [decide_eq_false c, cond_false, ck_pos q, show max a b = a by omega]; rfl
  have s1 : sf96_L1 [b] (max a b, (1 : Int)) = some (.inr (max a b)) := by
    unfold sf96_L1
    rw [decide_eq_false (show ¬ (max a b, (1 : Int)).2 < (([b] : List Int).length : Int) by show ¬ (1 : Int) < 1; omega), cond_false]
  unfold sf96 iter
  rw [s0]
  show bnd (iter (sf96_L1 [b]) (M + 1) (max a b, (1 : Int))) _ = _
  unfold iter
  rw [s1]
  rfl
/-- What the reference says that a line needs. -/
def nd (st : Int) (ph : Ph) (zo : Zo) (m : Int) (k : Nat) : Int := max (max (m - loP st ph zo k) (hiP st ph zo k - m)) 0
theorem m59 {N : Nat} {st m : Int} {k K : Nat} {ph : Ph} {zo : Zo} (v : VS st ph zo (K : Int)) (hk : k ≤ K) (hm : 0 ≤ m ∧ m ≤ 5000) {a : Int} {b : Ph} {c : Zo} {d : Int} : sf59 N a b c d (pls st ph.length zo (ph.map (·.1)) (zo.map (·.2.1)) K) (pls st ph.length zo (ph.map (·.2)) (zo.map (·.2.2)) K) m (k : Int) = some (loP st ph zo k - m, hiP st ph zo k - m) := by
  have b1 := (lows v).bd k
  have b2 := (highs v).bd k
  have ht2 := v.t2
  have q1 : rng (loP st ph zo k - m) := by unfold rng loP; omega
  have q2 : rng (hiP st ph zo k - m) := by unfold rng hiP; omega
  unfold sf59
  rw [m55 hk, bnd_ret]
  dsimp only
  rw [ck_pos q1, ck_pos q2]
theorem m73 {N : Nat} {st m s : Int} {k K : Nat} {ph : Ph} {zo : Zo} (v : VS st ph zo (K : Int)) (hk : k ≤ K) (hm : 0 ≤ m ∧ m ≤ 5000) (hs : 0 ≤ s) (hN : 70 < N) {a : Int} {b : Ph} {c : Zo} {d : Int} : sf73 N a b c d (pls st ph.length zo (ph.map (·.1)) (zo.map (·.2.1)) K) (pls st ph.length zo (ph.map (·.2)) (zo.map (·.2.2)) K) s m (k : Int) = some (decide (nd st ph zo m k ≤ s)) := by
  have b1 := (lows v).bd k
  have ht2 := v.t2
  have q1 : rng (-(loP st ph zo k - m)) := by unfold rng loP; omega
  unfold sf73
  rw [m59 v hk hm, bnd_ret]
  dsimp only
  rw [ck_pos q1, m96 (by omega), bnd_ret]
  refine sd ?_
  unfold nd
  omega
/-- The reference's error of a screw is the program's. -/
theorem faults {st tk : Int} {ph : Ph} {zo : Zo} (h1 : ph.length < 100) (h2 : zo.length < 100) : ∃ e, sf23 100 st ph zo tk = some e ∧ sf18 100 st ph zo tk = some e ∧ (e = 0 ↔ VS st ph zo tk) ∧ (e = 0 ∨ e = 1 ∨ e = 3) := by
  obtain ⟨e, he, h0, h1, h3⟩ := m56 (N := 100) (st := st) (tk := tk) (ph := ph) (zo := zo) (by omega) (by omega) (by omega)
  obtain ⟨e', he', h0', h1', h3'⟩ := m18 (N := 100) (st := st) (tk := tk) (ph := ph) (zo := zo) (by omega) (by omega) (by omega)
  have ee : e' = e := by
    have z : e' = 0 ↔ e = 0 := h0'.trans h0.symm
    have t : e' = 3 ↔ e = 3 := h1'.trans h1.symm
    rcases h3 with h | h | h <;> rcases h3' with h' | h' | h' <;> subst h <;> subst h'
    · rfl
    · exact absurd (z.2 rfl) (by decide)
    · exact absurd (z.2 rfl) (by decide)
    · exact absurd (z.1 rfl) (by decide)
    · rfl
    · exact absurd (t.1 rfl) (by decide)
    · exact absurd (z.1 rfl) (by decide)
    · exact absurd (t.2 rfl) (by decide)
    · rfl
  subst ee
  exact ⟨e', by unfold sf23; rw [bndid, he], he', h0, h3⟩
end Go.Hx.V

/- Layer 4: each place is between the least and the greatest; the law of P4.7. -/
namespace Go.Hx.V
open Go.Hx
set_option linter.unusedVariables false
set_option linter.unusedSimpArgs false
set_option maxRecDepth 20000
end Go.Hx.V

/- Layer 4: scales and cuttings: the program's check is the reference's. -/
namespace Go.Hx.V
open Go.Hx
set_option linter.unusedVariables false
set_option linter.unusedSimpArgs false
set_option maxRecDepth 20000
/-- All are within. -/
def Inn (hi : Int) (l : List Int) : Prop := ∀ j, j < l.length → ∀ x, l[j]? = some x → 0 ≤ x ∧ x ≤ hi
/-- It rises. -/
def Asc (l : List Int) : Prop := ∀ j, j < l.length - 1 → ∀ x y, l[j]? = some x → l[j + 1]? = some y → x < y
theorem m87 {N : Nat} {l : List Int} (hN : l.length < N) (hl : N < 1000000000) : (Inn 5000 l ∧ sf87 N l = some true) ∨ (¬ Inn 5000 l ∧ sf87 N l = some false) := by
  haveI : DecidablePred (fun (j : Nat) => ∀ x : Int, l[j]? = some x → 0 ≤ x ∧ x ≤ 5000) := fun _ => Classical.propDecidable _
  rcases iter_all (step := sf87_L1 N l) (x := (0 : Int)) (N := N) (fun j => (j : Int)) l.length (fun (j : Nat) => ∀ x : Int, l[j]? = some x → 0 ≤ x ∧ x ≤ 5000) (.inr ()) (.inl ()) rfl (fun j hj hp => by
      obtain ⟨x, hx⟩ : ∃ x, l[j]? = some x := ⟨_, lt_some hj⟩
      have q3 : rng ((j : Int) + 1) := by unfold rng; omega
      unfold sf87_L1
      rw [decide_eq_true (show (j : Int) < (l.length : Int) by omega), cond_true, ix_at rfl hx, m60, bnd_ret, decide_eq_true (hp x hx), Bool.not_true, cond_false, ck_pos q3]; rfl) (fun j hj hp => by
      obtain ⟨x, hx⟩ : ∃ x, l[j]? = some x := ⟨_, lt_some hj⟩
      unfold sf87_L1
      rw [decide_eq_true (show (j : Int) < (l.length : Int) by omega), cond_true, ix_at rfl hx, m60, bnd_ret, decide_eq_false (fun h => hp fun x' hx' => by rw [hx] at hx'; cases hx'; exact h), Bool.not_false, cond_true])
      (by unfold sf87_L1; rw [decide_eq_false (show ¬ (l.length : Int) < (l.length : Int) by omega), cond_false]) hN with ⟨a, b⟩ | ⟨a, b⟩
  · exact .inl ⟨a, by unfold sf87; rw [b, bnd_ret, sel_inr]⟩
  · exact .inr ⟨a, by unfold sf87; rw [b, bnd_ret, sel_inl]⟩
theorem m79 {N : Nat} {st tk k : Int} {ph : Ph} {zo : Zo} : sf79 N st ph zo tk k = some (decide (0 ≤ k ∧ k ≤ tk)) := by
  unfold sf79
  by_cases h : 0 ≤ k <;> simp [h]
theorem m872 {N : Nat} {st tk : Int} {ph : Ph} {zo : Zo} {l : List Int} (hN : l.length < N) (hl : N < 1000000000) : (Inn tk l ∧ sf87_2 N l st ph zo tk = some true) ∨ (¬ Inn tk l ∧ sf87_2 N l st ph zo tk = some false) := by
  haveI : DecidablePred (fun (j : Nat) => ∀ x : Int, l[j]? = some x → 0 ≤ x ∧ x ≤ tk) := fun _ => Classical.propDecidable _
  rcases iter_all (step := sf87_2_L1 N l st ph zo tk) (x := (0 : Int)) (N := N) (fun j => (j : Int)) l.length (fun (j : Nat) => ∀ x : Int, l[j]? = some x → 0 ≤ x ∧ x ≤ tk) (.inr ()) (.inl ()) rfl (fun j hj hp => by
      obtain ⟨x, hx⟩ : ∃ x, l[j]? = some x := ⟨_, lt_some hj⟩
      have q3 : rng ((j : Int) + 1) := by unfold rng; omega
      unfold sf87_2_L1
      rw [decide_eq_true (show (j : Int) < (l.length : Int) by omega), cond_true, ix_at rfl hx, m79, bnd_ret, decide_eq_true (hp x hx), Bool.not_true, cond_false, ck_pos q3]; rfl) (fun j hj hp => by
      obtain ⟨x, hx⟩ : ∃ x, l[j]? = some x := ⟨_, lt_some hj⟩
      unfold sf87_2_L1
      rw [decide_eq_true (show (j : Int) < (l.length : Int) by omega), cond_true, ix_at rfl hx, m79, bnd_ret, decide_eq_false (fun h => hp fun x' hx' => by rw [hx] at hx'; cases hx'; exact h), Bool.not_false, cond_true])
      (by unfold sf87_2_L1; rw [decide_eq_false (show ¬ (l.length : Int) < (l.length : Int) by omega), cond_false]) hN with ⟨a, b⟩ | ⟨a, b⟩
  · exact .inl ⟨a, by unfold sf87_2; rw [b, bnd_ret, sel_inr]⟩
  · exact .inr ⟨a, by unfold sf87_2; rw [b, bnd_ret, sel_inl]⟩
theorem m88 {N : Nat} {l : List Int} (hN : l.length < N) (hl : N < 1000000000) (h0 : 0 < l.length) : (Asc l ∧ sf88 N l = some true) ∨ (¬ Asc l ∧ sf88 N l = some false) := by
  haveI : DecidablePred (fun (j : Nat) => ∀ x y : Int, l[j]? = some x → l[j + 1]? = some y → x < y) := fun _ => Classical.propDecidable _
  have key : ∀ j, j < l.length - 1 → ∃ x y, l[j]? = some x ∧ l[j + 1]? = some y := fun j hj => ⟨_, _, lt_some (by omega), lt_some (by omega)⟩
  rcases iter_all (step := sf107_L1 N l) (x := (1 : Int)) (N := N) (fun j => ((j + 1 : Nat) : Int)) (l.length - 1) (fun (j : Nat) => ∀ x y : Int, l[j]? = some x → l[j + 1]? = some y → x < y) (.inr ()) (.inl ()) rfl (fun j hj hp => by
      obtain ⟨x, y, hx, hy⟩ := key j hj
      have q3 : rng (((j + 1 : Nat) : Int) + 1) := by unfold rng; omega
      have q4 : rng (((j + 1 : Nat) : Int) - 1) := by unfold rng; omega
      unfold sf107_L1
      rw [decide_eq_true (show ((j + 1 : Nat) : Int) < (l.length : Int) by omega), cond_true, ck_pos q4, ix_at (n := j) (by omega) hx, ix_at rfl hy]
      unfold sf108
      rw [bnd_ret, decide_eq_true (hp x y hx hy), Bool.not_true, cond_false, ck_pos q3]; rfl) (fun j hj hp => by
      obtain ⟨x, y, hx, hy⟩ := key j hj
      have q4 : rng (((j + 1 : Nat) : Int) - 1) := by unfold rng; omega
      unfold sf107_L1
      rw [decide_eq_true (show ((j + 1 : Nat) : Int) < (l.length : Int) by omega), cond_true, ck_pos q4, ix_at (n := j) (by omega) hx, ix_at rfl hy]
      unfold sf108
      rw [bnd_ret, decide_eq_false (fun h => hp fun x' y' hx' hy' => by rw [hx] at hx'; rw [hy] at hy'; cases hx'; cases hy'; exact h), Bool.not_false, cond_true])
      (by unfold sf107_L1; rw [decide_eq_false (show ¬ ((l.length - 1 + 1 : Nat) : Int) < (l.length : Int) by omega), cond_false]) (by omega) with ⟨a, b⟩ | ⟨a, b⟩
  · exact .inl ⟨a, by unfold sf88 sf107; rw [b, bnd_ret, sel_inr, bnd_ret]⟩
  · exact .inr ⟨a, by unfold sf88 sf107; rw [b, bnd_ret, sel_inl, bnd_ret]⟩
/-- What the reference asks of one place of a list. -/
def oneP (hi : Int) (l : List Int) (j : Nat) : Prop := (∀ x, l[j]? = some x → 0 ≤ x ∧ x ≤ hi) ∧ (0 < j → ∀ x y, l[j - 1]? = some x → l[j]? = some y → x < y)
theorem one_iff {hi : Int} {l : List Int} : (∀ j, j < l.length → oneP hi l j) ↔ Inn hi l ∧ Asc l :=
  ⟨fun h => ⟨fun j hj => (h j hj).1, fun j hj x y hx hy => (h (j + 1) (by omega)).2 (by omega) x y hx hy⟩, fun h j hj => ⟨h.1 j hj, fun hp x y hx hy => h.2 (j - 1) (by omega) x y hx (by rw [show j - 1 + 1 = j by omega]; exact hy)⟩⟩
/-- The reference's way to look at one place. -/
theorem one_step {N : Nat} {hi : Int} {l : List Int} {j : Nat} (hj : j < l.length) (hl : l.length < 1000000000) :
    (oneP hi l j ∧ (ix l (j : Int) fun x60 => (bnd (sf24 N x60 (0 : Int) hi) fun v61 => (bif (!v61) then some true else (bif (decide ((0 : Int) < (j : Int))) then (ix l (j : Int) fun x67 => (ck (rng ((j : Int) - (1 : Int))) ((ix l ((j : Int) - (1 : Int)) fun x69 => some (decide (x67 ≤ x69)))))) else some false)))) = some false) ∨
    (¬ oneP hi l j ∧ (ix l (j : Int) fun x60 => (bnd (sf24 N x60 (0 : Int) hi) fun v61 => (bif (!v61) then some true else (bif (decide ((0 : Int) < (j : Int))) then (ix l (j : Int) fun x67 => (ck (rng ((j : Int) - (1 : Int))) ((ix l ((j : Int) - (1 : Int)) fun x69 => some (decide (x67 ≤ x69)))))) else some false)))) = some true) := by
  obtain ⟨y, hy⟩ : ∃ y, l[j]? = some y := ⟨_, lt_some hj⟩
  rw [ix_at rfl hy, m24, bnd_ret]
  by_cases c : 0 ≤ y ∧ y ≤ hi
  rotate_left
  · refine .inr ⟨fun h => c (h.1 y hy), ?_⟩
    rw [decide_eq_false c, Bool.not_false, cond_true]
  rw [decide_eq_true c, Bool.not_true, cond_false]
  by_cases c1 : 0 < j
  rotate_left
  · refine .inl ⟨⟨fun x hx => by rw [hy] at hx; cases hx; exact c, fun h => absurd h c1⟩, ?_⟩
    rw [decide_eq_false (show ¬ (0 : Int) < (j : Int) by omega), cond_false]
  obtain ⟨x, hx⟩ : ∃ x, l[j - 1]? = some x := ⟨_, lt_some (by omega)⟩
  have q4 : rng ((j : Int) - 1) := by unfold rng; omega
  rw [decide_eq_true (show (0 : Int) < (j : Int) by omega), cond_true, ix_at rfl hy, ck_pos q4, ix_at (n := j - 1) (by omega) hx]
  by_cases c2 : x < y
  · refine .inl ⟨⟨fun x hx => by rw [hy] at hx; cases hx; exact c, fun _ x' y' hx' hy' => by rw [hx] at hx'; rw [hy] at hy'; cases hx'; cases hy'; exact c2⟩, ?_⟩
    rw [decide_eq_false (show ¬ y ≤ x by omega)]
  · refine .inr ⟨fun h => c2 (h.2 c1 x y hx hy), ?_⟩
    rw [decide_eq_true (show y ≤ x by omega)]
theorem m64 {N : Nat} {st tk : Int} {ph : Ph} {zo : Zo} {a l : List Int} (hN : l.length < N) (hl : N < 1000000000) : ((Inn tk l ∧ Asc l ∧ l.length = a.length) ∧ sf64 N st ph zo tk a l = some true) ∨ (¬ (Inn tk l ∧ Asc l ∧ l.length = a.length) ∧ sf64 N st ph zo tk a l = some false) := by
  haveI : DecidablePred (oneP tk l) := fun _ => Classical.propDecidable _
  unfold sf64
  rcases iter_all (step := sf64_L1 N tk l) (x := (0 : Int)) (N := N) (fun j => (j : Int)) l.length (oneP tk l) (.inr ()) (.inl ()) rfl (fun j hj hp => by
      have q3 : rng ((j : Int) + 1) := by unfold rng; omega
      unfold sf64_L1
      rw [decide_eq_true (show (j : Int) < (l.length : Int) by omega), cond_true]
      rcases one_step (N := N) (hi := tk) hj (by omega) with ⟨h1, h2⟩ | ⟨h1, h2⟩
      · rw [h2, bnd_ret, cond_false, ck_pos q3]; rfl
      · exact absurd hp h1) (fun j hj hp => by
      unfold sf64_L1
      rw [decide_eq_true (show (j : Int) < (l.length : Int) by omega), cond_true]
      rcases one_step (N := N) (hi := tk) hj (by omega) with ⟨h1, h2⟩ | ⟨h1, h2⟩
      · exact absurd h1 hp
      · rw [h2, bnd_ret, cond_true])
      (by unfold sf64_L1; rw [decide_eq_false (show ¬ (l.length : Int) < (l.length : Int) by omega), cond_false]) hN with ⟨a1, b⟩ | ⟨a1, b⟩
  · have := one_iff.1 a1
    rw [b, bnd_ret, sel_inr]
    by_cases c : l.length = a.length
    · exact .inl ⟨⟨this.1, this.2, c⟩, by rw [decide_eq_true (show (l.length : Int) = (a.length : Int) by omega)]⟩
    · exact .inr ⟨fun h => c h.2.2, by rw [decide_eq_false (show ¬ (l.length : Int) = (a.length : Int) by omega)]⟩
  · rw [b, bnd_ret, sel_inl]
    exact .inr ⟨fun h => a1 (one_iff.2 ⟨h.1, h.2.1⟩), rfl⟩
theorem m68 {N : Nat} {l : List Int} (hN : l.length < N) (hl : N < 1000000000) : (10 < l.length ∧ sf68 N l = some 3) ∨ ((l.length ≤ 10 ∧ Inn 5000 l ∧ Asc l ∧ 0 < l.length) ∧ sf68 N l = some 0) ∨ ((l.length ≤ 10 ∧ ¬ (Inn 5000 l ∧ Asc l ∧ 0 < l.length)) ∧ sf68 N l = some 2) := by
  haveI : DecidablePred (oneP 5000 l) := fun _ => Classical.propDecidable _
  unfold sf68
  by_cases c : 10 < l.length
  · rw [decide_eq_true (show (10 : Int) < (l.length : Int) by omega), cond_true]
    exact .inl ⟨c, rfl⟩
  rw [decide_eq_false (show ¬ (10 : Int) < (l.length : Int) by omega), cond_false]
  rcases iter_all (step := sf68_L1 N l) (x := (0 : Int)) (N := N) (fun j => (j : Int)) l.length (oneP 5000 l) (.inr ()) (.inl 2) rfl (fun j hj hp => by
      have q3 : rng ((j : Int) + 1) := by unfold rng; omega
      unfold sf68_L1
      rw [decide_eq_true (show (j : Int) < (l.length : Int) by omega), cond_true]
      rcases one_step (N := N) (hi := 5000) hj (by omega) with ⟨h1, h2⟩ | ⟨h1, h2⟩
      · rw [h2, bnd_ret, cond_false, ck_pos q3]; rfl
      · exact absurd hp h1) (fun j hj hp => by
      unfold sf68_L1
      rw [decide_eq_true (show (j : Int) < (l.length : Int) by omega), cond_true]
      rcases one_step (N := N) (hi := 5000) hj (by omega) with ⟨h1, h2⟩ | ⟨h1, h2⟩
      · exact absurd h1 hp
      · rw [h2, bnd_ret, cond_true])
      (by unfold sf68_L1; rw [decide_eq_false (show ¬ (l.length : Int) < (l.length : Int) by omega), cond_false]) hN with ⟨a1, b⟩ | ⟨a1, b⟩
  · have := one_iff.1 a1
    rw [b, bnd_ret, sel_inr]
    by_cases c2 : l.length = 0
    · rw [decide_eq_true (show (l.length : Int) = 0 by omega), cond_true]
      exact .inr (.inr ⟨⟨by omega, fun h => by omega⟩, rfl⟩)
    · rw [decide_eq_false (show ¬ (l.length : Int) = 0 by omega), cond_false]
      exact .inr (.inl ⟨⟨by omega, this.1, this.2, by omega⟩, rfl⟩)
  · rw [b, bnd_ret, sel_inl]
    exact .inr (.inr ⟨⟨by omega, fun h => a1 (one_iff.2 ⟨h.1, h.2.1⟩)⟩, rfl⟩)
/-- A cutting of a scale by a screw. -/
structure Cut (st : Int) (ph : Ph) (zo : Zo) (tk : Int) (ms ts : List Int) : Prop where
  v : VS st ph zo tk
  lm : ms.length ≤ 10
  l0 : 0 < ms.length
  mi : Inn 5000 ms
  ti : Inn tk ts
  ll : ts.length = ms.length
/-- Both checks of a cutting. -/
theorem cuts {st tk : Int} {ph : Ph} {zo : Zo} {ms ts : List Int} (h1 : ph.length < 100) (h2 : zo.length < 100) (h3 : ms.length < 100) (h4 : ts.length < 100) : ∃ e, sf32 100 st ph zo tk ms ts = some e ∧ sf57 100 st ph zo tk ms ts = some e ∧ (e = 0 → Cut st ph zo tk ms ts) := by
  obtain ⟨e, f23, f18, h0, _⟩ := faults (st := st) (tk := tk) h1 h2
  unfold sf32 sf57 sf39 sf66
  rw [f23, f18, bnd_ret, bnd_ret]
  by_cases c0 : e = 0
  rotate_left
  · rw [decide_eq_false c0, Bool.not_false, cond_true, bnd_ret, decide_eq_false c0, Bool.not_false, cond_true, cond_true, bnd_ret, decide_eq_false c0, Bool.not_false, cond_true]
    exact ⟨e, rfl, rfl, fun h => absurd h c0⟩
  have v := h0.1 c0
  rw [decide_eq_true c0, Bool.not_true, cond_false, cond_false]
  rcases m68 (N := 100) h3 (by omega) with ⟨a, b⟩ | ⟨a, b⟩ | ⟨a, b⟩
  · rw [b, bnd_ret, bnd_ret, decide_eq_false (show ¬ (3 : Int) = 0 by decide), Bool.not_false, cond_true, decide_eq_true (show (10 : Int) < (ms.length : Int) by omega), cond_true, bnd_ret, decide_eq_false (show ¬ (3 : Int) = 0 by decide), Bool.not_false, cond_true]
    exact ⟨3, rfl, rfl, fun h => absurd h (by decide)⟩
  · obtain ⟨a1, a2, a3, a4⟩ := a
    rw [b, bnd_ret, bnd_ret, decide_eq_true (show (0 : Int) = 0 from rfl), Bool.not_true, cond_false, decide_eq_false (show ¬ (10 : Int) < (ms.length : Int) by omega), cond_false, decide_eq_false (show ¬ (ms.length : Int) = 0 by omega), cond_false]
    rcases m87 (N := 100) h3 (by omega) with ⟨i1, i2⟩ | ⟨i1, i2⟩
    rotate_left
    · exact absurd a2 i1
    rcases m88 (N := 100) h3 (by omega) a4 with ⟨j1, j2⟩ | ⟨j1, j2⟩
    rotate_left
    · exact absurd a3 j1
    rw [i2, bnd_ret, Bool.not_true, cond_false, j2, bnd_ret, Bool.not_true, bnd_ret, cond_false, bnd_ret, decide_eq_true (show (0 : Int) = 0 from rfl), Bool.not_true, cond_false]
    by_cases c1 : ts.length = ms.length
    rotate_left
    · rw [decide_eq_false (show ¬ (ts.length : Int) = (ms.length : Int) by omega), Bool.not_false, cond_true, bnd_ret, cond_true]
      rcases m64 (N := 100) (st := st) (tk := tk) (ph := ph) (zo := zo) (a := ms) h4 (by omega) with ⟨g, k⟩ | ⟨g, k⟩
      · exact absurd g.2.2 c1
      · rw [k, bnd_ret, Bool.not_false, cond_true]
        exact ⟨2, rfl, rfl, fun h => absurd h (by decide)⟩
    rw [decide_eq_true (show (ts.length : Int) = (ms.length : Int) by omega), Bool.not_true, cond_false]
    rcases m64 (N := 100) (st := st) (tk := tk) (ph := ph) (zo := zo) (a := ms) h4 (by omega) with ⟨g, k⟩ | ⟨g, k⟩
    · rw [k, bnd_ret, Bool.not_true, cond_false]
      rcases m872 (N := 100) (st := st) (tk := tk) (ph := ph) (zo := zo) h4 (by omega) with ⟨p1, p2⟩ | ⟨p1, p2⟩
      rotate_left
      · exact absurd g.1 p1
      rcases m88 (N := 100) h4 (by omega) (by omega) with ⟨r1, r2⟩ | ⟨r1, r2⟩
      rotate_left
      · exact absurd g.2.1 r1
      rw [p2, bnd_ret, Bool.not_true, cond_false, r2, bnd_ret, Bool.not_true, bnd_ret, cond_false]
      exact ⟨0, rfl, rfl, fun _ => ⟨v, a1, a4, a2, g.1, c1⟩⟩
    · rw [k, bnd_ret, Bool.not_false, cond_true]
      rcases m872 (N := 100) (st := st) (tk := tk) (ph := ph) (zo := zo) h4 (by omega) with ⟨p1, p2⟩ | ⟨p1, p2⟩
      rotate_left
      · rw [p2, bnd_ret, Bool.not_false, cond_true, bnd_ret, cond_true]
        exact ⟨2, rfl, rfl, fun h => absurd h (by decide)⟩
      rcases m88 (N := 100) h4 (by omega) (by omega) with ⟨r1, r2⟩ | ⟨r1, r2⟩
      · exact absurd ⟨p1, r1, c1⟩ g
      rw [p2, bnd_ret, Bool.not_true, cond_false, r2, bnd_ret, Bool.not_false, bnd_ret, cond_true]
      exact ⟨2, rfl, rfl, fun h => absurd h (by decide)⟩
  · obtain ⟨a1, a2⟩ := a
    rw [b, bnd_ret, bnd_ret, decide_eq_false (show ¬ (2 : Int) = 0 by decide), Bool.not_false, cond_true, decide_eq_false (show ¬ (10 : Int) < (ms.length : Int) by omega), cond_false]
    have bad : bnd (bif (decide ((ms.length : Int) = (0 : Int))) then some true else (bnd (sf87 100 ms) fun v22 => (bif (!v22) then some true else (bnd (sf88 100 ms) fun v26 => some (!v26))))) (fun y17 => (bif y17 then some (2 : Int) else some (0 : Int))) = some 2 := by
      by_cases c2 : ms.length = 0
      · rw [decide_eq_true (show (ms.length : Int) = 0 by omega), cond_true, bnd_ret, cond_true]
      rw [decide_eq_false (show ¬ (ms.length : Int) = 0 by omega), cond_false]
      rcases m87 (N := 100) h3 (by omega) with ⟨i1, i2⟩ | ⟨i1, i2⟩
      rotate_left
      · rw [i2, bnd_ret, Bool.not_false, cond_true, bnd_ret, cond_true]
      rcases m88 (N := 100) h3 (by omega) (by omega) with ⟨j1, j2⟩ | ⟨j1, j2⟩
      · exact absurd ⟨i1, j1, by omega⟩ a2
      · rw [i2, bnd_ret, Bool.not_true, cond_false, j2, bnd_ret, Bool.not_false, bnd_ret, cond_true]
    rw [bad, bnd_ret, decide_eq_false (show ¬ (2 : Int) = 0 by decide), Bool.not_false, cond_true]
    exact ⟨2, rfl, rfl, fun h => absurd h (by decide)⟩
end Go.Hx.V

/- Layer 4: lines that are out; the law of P4.2 and P4.3. -/
namespace Go.Hx.V
open Go.Hx
set_option linter.unusedVariables false
set_option linter.unusedSimpArgs false
set_option maxRecDepth 20000
theorem iter_map2 {γ : Type} {step : List γ × Int → Option ((List γ × Int) ⊕ List γ)} {N : Nat} {l : List γ} (hs : ∀ (j : Nat) (x : γ), l[j]? = some x → step (l.take j, (j : Int)) = some (.inl (l.take j ++ [x], ((j + 1 : Nat) : Int)))) (he : step (l, (l.length : Int)) = some (.inr l)) (hN : l.length < N) :
    iter step N (([] : List γ), (0 : Int)) = some l := by
  refine iter_up (fun j => (l.take j, (j : Int))) l.length _ rfl (fun j hj => ?_) ?_ hN
  · try dsimp only
    rw [hs j l[j] (lt_some hj)]
    congr 2
    rw [take_succ' (lt_some hj)]
  · try dsimp only
    rw [List.take_of_length_le (Nat.le_refl _)]
    exact he
abbrev zp (ms ts : List Int) : List (Int × Int) := ms.zip ts
theorem zp_at {ms ts : List Int} {j : Nat} {x : Int × Int} (h : (zp ms ts)[j]? = some x) : ms[j]? = some x.1 ∧ ts[j]? = some x.2 := List.getElem?_zip_eq_some.1 h
theorem at_zp {ms ts : List Int} {j : Nat} {m t : Int} (h1 : ms[j]? = some m) (h2 : ts[j]? = some t) : (zp ms ts)[j]? = some (m, t) := List.getElem?_zip_eq_some.2 ⟨h1, h2⟩
theorem zp_len {ms ts : List Int} (h : ts.length = ms.length) : (zp ms ts).length = ms.length := by rw [List.length_zip, h, Nat.min_self]
theorem m58 {N : Nat} {ms ts : List Int} (h : ts.length = ms.length) (hN : ms.length < N) (hl : N < 1000000) : sf58 N ms ts = some (zp ms ts) := by
  unfold sf58
  have t0 : Int.toNat 0 = 0 := rfl
  have t1 : Int.toNat (ms.length : Int) = ms.length := rfl
  rw [ck_pos (by rw [t0, t1]; omega)]
  show bnd (iter (sf58_L1 ms ts) N (([] : List (Int × Int)), (0 : Int))) _ = _
  have zl := zp_len h
  rw [iter_map2 (l := zp ms ts) (fun j x hx => ?_) ?_ (by omega), bnd_ret]
  · unfold sf58_L1
    rw [decide_eq_false (show ¬ (zp ms ts, ((zp ms ts).length : Int)).2 < (ms.length : Int) by dsimp only; omega), cond_false]
  · obtain ⟨h1, h2⟩ := zp_at hx
    have hj := some_lt h1
    have q3 : rng ((j : Int) + 1) := by unfold rng; omega
    have tl : ((zp ms ts).take j).length = j := by rw [List.length_take]; omega
    unfold sf58_L1
    dsimp only
    rw [decide_eq_true (show (j : Int) < (ms.length : Int) by omega), cond_true, ix_at rfl h1, ix_at rfl h2, ck_pos (by rw [tl]; omega), ck_pos q3]
    rfl
theorem Cut.at {st tk : Int} {ph : Ph} {zo : Zo} {ms ts : List Int} (h : Cut st ph zo tk ms ts) {j : Nat} {m t : Int} (h1 : ms[j]? = some m) (h2 : ts[j]? = some t) : (0 ≤ m ∧ m ≤ 5000) ∧ (0 ≤ t ∧ t ≤ tk) :=
  ⟨h.mi j (some_lt h1) m h1, h.ti j (some_lt h2) t h2⟩
/-- Is a line out by more than 's'? -/
def wg (st : Int) (ph : Ph) (zo : Zo) (ms ts : List Int) (s : Int) (i : Nat) : Bool := match (zp ms ts)[i]? with | some x => decide (s < nd st ph zo x.1 x.2.toNat) | none => false
theorem wg_at {st : Int} {ph : Ph} {zo : Zo} {ms ts : List Int} {s m t : Int} {i : Nat} (h1 : ms[i]? = some m) (h2 : ts[i]? = some t) : wg st ph zo ms ts s i = decide (s < nd st ph zo m t.toNat) := by
  unfold wg
  rw [at_zp h1 h2]
theorem first (w : Nat → Bool) (n : Nat) : (∀ i, i < n → w i = false) ∨ ∃ i, i < n ∧ w i = true ∧ ∀ k, k < i → w k = false := by
  by_cases h : ∀ i, i < n → w i = false
  · exact .inl h
  · refine .inr ?_
    have : ∃ i, i < n ∧ w i = true := Classical.byContradiction fun hc => h fun i hi => by
      cases e : w i with
      | false => rfl
      | true => exact absurd ⟨i, hi, e⟩ hc
    obtain ⟨i, ⟨h1, h2⟩, h3⟩ := least this
    refine ⟨i, h1, h2, fun k hk => ?_⟩
    cases e : w k with
    | false => rfl
    | true => exact absurd ⟨by omega, e⟩ (h3 k hk)
/-- The first one, looked for from the end on. -/
def fd (w : Nat → Bool) (n : Nat) : Nat → Int
  | 0 => n
  | j + 1 => bif w (n - 1 - j) then ((n - 1 - j : Nat) : Int) else fd w n j
end Go.Hx.V

/- Layer 4: the law of P4.2 and P4.3 for cuttings. -/
namespace Go.Hx.V
open Go.Hx
set_option linter.unusedVariables false
set_option linter.unusedSimpArgs false
set_option maxRecDepth 20000
end Go.Hx.V

/- Layer 4: the stage's theorem, P4.6. -/
namespace Go.Hx.V
open Go.Hx
set_option linter.unusedVariables false
set_option linter.unusedSimpArgs false
set_option maxRecDepth 20000
/-- A cutting has no more settings than lines. -/
theorem m71 {N : Nat} {hi : Int} {ts : List Int} (h : Inn hi ts) (hh : hi ≤ 60) (hN : ts.length < N) (hl : N < 1000000) : ∃ y : Int, sf71 N ts = some y ∧ 0 ≤ y ∧ y ≤ ts.length := by
  unfold sf71 sf95
  rw [bnd_ret]
  dsimp only
  obtain ⟨y, e, b⟩ := iter_ind (step := sf71_L1 N ts) (fun x => ∃ j : Nat, j ≤ ts.length ∧ x.2.1 = (j : Int) ∧ (0 ≤ x.1 ∧ x.1 ≤ (j : Int)) ∧ ((j = 0 ∧ x.2.2 = (-1, -1, 0)) ∨ (0 < j ∧ x.2.2.1 = (j : Int) - 1 ∧ 0 ≤ x.2.2.2.1 ∧ x.2.2.2.1 ≤ 60)))
    (fun x => ts.length - x.2.1.toNat) (fun y => 0 ≤ y.1 ∧ y.1 ≤ (ts.length : Int)) (fun x hx => by
      obtain ⟨n, i, a, b, c⟩ := x
      obtain ⟨j, hj, e1, e2, e3⟩ := hx
      dsimp only at e1 e2 e3
      subst e1
      by_cases c1 : j < ts.length
      rotate_left
      · refine .inr ⟨(n, a, b, c), ?_, ?_⟩
        · unfold sf71_L1
          dsimp only
          rw [decide_eq_false (show ¬ (j : Int) < (ts.length : Int) by omega), cond_false]
        · dsimp only
          omega
      · obtain ⟨t, ht⟩ : ∃ t, ts[j]? = some t := ⟨_, lt_some c1⟩
        have bt := h j c1 t ht
        have q3 : rng ((j : Int) + 1) := by unfold rng; omega
        rcases e3 with ⟨z, e3⟩ | ⟨z, f1, f2, f3⟩
        · cases e3
          obtain ⟨v, hv, bv⟩ : ∃ v : Int, sf94 N (-1) (-1) 0 0 t 0 = some v ∧ 0 ≤ v ∧ v ≤ 1 := by
            unfold sf94
            rw [decide_eq_true rfl, cond_true]
            exact ⟨0, rfl, by omega, by omega⟩
          refine .inl ⟨(n + v, (j : Int) + 1, 0, t, 0), ?_, ⟨j + 1, by omega, rfl, by dsimp only; omega, .inr ⟨by omega, by dsimp only; omega, by dsimp only; omega, by dsimp only; omega⟩⟩, by dsimp only; omega⟩
          have q4 : rng (n + v) := by unfold rng; omega
          have f93 : sf93 N (-1) (-1) 0 t = some (0, t, 0) := rfl
          unfold sf71_L1
          dsimp only
          rw [decide_eq_true (show (j : Int) < (ts.length : Int) by omega), cond_true, ix_at rfl ht, f93, bnd_ret]
          dsimp only
          rw [hv, bnd_ret, ck_pos q4, ck_pos q3]
        · obtain ⟨v, hv, bv⟩ : ∃ v : Int, sf94 N a b c (a + 1) t (t - b) = some v ∧ 0 ≤ v ∧ v ≤ 1 := by
            unfold sf94
            cases decide (t - b = c)
            · exact ⟨1, rfl, by omega, by omega⟩
            · exact ⟨0, rfl, by omega, by omega⟩
          refine .inl ⟨(n + v, (j : Int) + 1, a + 1, t, t - b), ?_, ⟨j + 1, by omega, rfl, by dsimp only; omega, .inr ⟨by omega, by dsimp only; omega, by dsimp only; omega, by dsimp only; omega⟩⟩, by dsimp only; omega⟩
          have q4 : rng (n + v) := by unfold rng; omega
          have q5 : rng (a + 1) := by unfold rng; omega
          have q6 : rng (t - b) := by unfold rng; omega
          have f93 : sf93 N a b c t = some (a + 1, t, t - b) := by
            unfold sf93 sf95
            rw [bnd_ret]
            dsimp only
            rw [show (a == (-1 : Int)) = false by rw [beq_eq_false_iff_ne]; omega, Bool.false_and, cond_false, ck_pos q5, ck_pos q6]
          unfold sf71_L1
          dsimp only
          rw [decide_eq_true (show (j : Int) < (ts.length : Int) by omega), cond_true, ix_at rfl ht, f93, bnd_ret]
          dsimp only
          rw [hv, bnd_ret, ck_pos q4, ck_pos q3]) N ((0 : Int), (0 : Int), -1, -1, 0) ⟨0, by omega, rfl, ⟨by decide, by decide⟩, .inl ⟨rfl, rfl⟩⟩ (by dsimp only; omega)
  refine ⟨y.1, ?_, b⟩
  rw [e, bnd_ret]
/-- All lines are right: or one is not. -/
theorem m72 {st s : Int} {K : Nat} {ph : Ph} {zo : Zo} {ms ts : List Int} (h : Cut st ph zo (K : Int) ms ts) (hs : 0 ≤ s) {a : Int} {b : Ph} {c : Zo} {d : Int} {w : Bool} (hw : (w = true ∧ ∀ i, i < ms.length → wg st ph zo ms ts s i = false) ∨ (w = false ∧ ∃ i : Nat, i < ms.length ∧ wg st ph zo ms ts s i = true ∧ ∀ k, k < i → wg st ph zo ms ts s k = false)) :
    sf72 100 (zp ms ts) a b c d (pls st ph.length zo (ph.map (·.1)) (zo.map (·.2.1)) K) (pls st ph.length zo (ph.map (·.2)) (zo.map (·.2.2)) K) s = some w := by
  have hlm := h.lm
  have ht2 := h.v.t2
  have zl := zp_len h.ll
  have stepj : ∀ j, j < ms.length → sf72_L1 100 (zp ms ts) a b c d (pls st ph.length zo (ph.map (·.1)) (zo.map (·.2.1)) K) (pls st ph.length zo (ph.map (·.2)) (zo.map (·.2.2)) K) s (j : Int) = bif wg st ph zo ms ts s j then some (.inr (.inl ())) else some (.inl ((j + 1 : Nat) : Int)) := fun j hj => by
    obtain ⟨m, hm⟩ : ∃ m, ms[j]? = some m := ⟨_, lt_some hj⟩
    obtain ⟨t, ht⟩ : ∃ t, ts[j]? = some t := ⟨_, lt_some (by rw [h.ll]; exact hj)⟩
    obtain ⟨b1, b2⟩ := h.at hm ht
    have q3 : rng ((j : Int) + 1) := by unfold rng; omega
    have f73 := m73 (N := 100) (m := m) (s := s) h.v (k := t.toNat) (by omega) b1 hs (by omega) (a := a) (b := b) (c := c) (d := d)
    rw [show ((t.toNat : Nat) : Int) = t by omega] at f73
    unfold sf72_L1
    rw [decide_eq_true (show (j : Int) < ((zp ms ts).length : Int) by omega), cond_true, ix_at rfl (at_zp hm ht)]
    dsimp only
    rw [f73, bnd_ret, wg_at hm ht]
    by_cases e : nd st ph zo m t.toNat ≤ s
    · rw [decide_eq_true e, Bool.not_true, cond_false, decide_eq_false (show ¬ s < nd st ph zo m t.toNat by omega), cond_false, ck_pos q3]; rfl
    · rw [decide_eq_false e, Bool.not_false, cond_true, decide_eq_true (show s < nd st ph zo m t.toNat by omega), cond_true]
  unfold sf72
  rcases hw with ⟨rfl, g⟩ | ⟨rfl, i, g1, g2, g3⟩
  · rw [iter_up (x := (0 : Int)) (fun j => (j : Int)) ms.length (.inr ()) rfl (fun j hj => by rw [stepj j hj, g j hj, cond_false]) ?_ (by omega), bnd_ret, sel_inr]
    unfold sf72_L1
    rw [decide_eq_false (show ¬ (ms.length : Int) < ((zp ms ts).length : Int) by omega), cond_false]
  · rw [iter_up (x := (0 : Int)) (fun j => (j : Int)) i (.inl ()) rfl (fun j hj => by rw [stepj j (by omega), g3 j hj, cond_false]) (by rw [stepj i g1, g2, cond_true]) (by omega), bnd_ret, sel_inl]
end Go.Hx.V

/- Layer 4: scales that can be cut with a bound; the printed bound; the law of P4.5. -/
namespace Go.Hx.V
open Go.Hx
set_option linter.unusedVariables false
set_option linter.unusedSimpArgs false
set_option maxRecDepth 20000
abbrev LoL (st : Int) (ph : Ph) (zo : Zo) (K : Nat) : List Int := pls st ph.length zo (ph.map (·.1)) (zo.map (·.2.1)) K
abbrev HiL (st : Int) (ph : Ph) (zo : Zo) (K : Nat) : List Int := pls st ph.length zo (ph.map (·.2)) (zo.map (·.2.2)) K
/-- A list of lines that can be cut behind a tick. -/
def CE (st : Int) (ph : Ph) (zo : Zo) (K : Nat) (b : Int) : List Int → Int → Prop
  | [], _ => True
  | m :: l, t => ∃ k : Nat, t < (k : Int) ∧ k ≤ K ∧ nd st ph zo m k ≤ b ∧ CE st ph zo K b l (k : Int)
section
variable {st : Int} {ph : Ph} {zo : Zo} {K : Nat}
theorem CE.mono {b s t : Int} {l : List Int} (h : s ≤ t) (hc : CE st ph zo K b l t) : CE st ph zo K b l s := by
  cases l with
  | nil => trivial
  | cons m l => obtain ⟨k, h1, h2⟩ := hc; exact ⟨k, by omega, h2⟩
theorem CE.bd {b b' : Int} (h : b ≤ b') : ∀ {l : List Int} {t : Int}, CE st ph zo K b l t → CE st ph zo K b' l t
  | [], _, _ => trivial
  | m :: l, t, ⟨k, h1, h2, h3, h4⟩ => ⟨k, h1, h2, by omega, CE.bd h h4⟩
theorem CE.sub {b : Int} {l l' : List Int} (h : l'.Sublist l) : ∀ {t : Int}, CE st ph zo K b l t → CE st ph zo K b l' t := by
  induction h with
  | slnil => intro t _; trivial
  | cons a h ih => intro t hc; obtain ⟨k, h1, h2, h3, h4⟩ := hc; exact CE.mono (by omega) (ih h4)
  | cons_cons a h ih => intro t hc; obtain ⟨k, h1, h2, h3, h4⟩ := hc; exact ⟨k, h1, h2, h3, ih h4⟩
end
/-- Both checks of a scale. -/
theorem scales {st tk : Int} {ph : Ph} {zo : Zo} {ms : List Int} (h1 : ph.length < 100) (h2 : zo.length < 100) (h3 : ms.length < 100) : ∃ e, sf39 100 st ph zo tk ms = some e ∧ sf66 100 st ph zo tk ms = some e ∧ (e = 0 ↔ (VS st ph zo tk ∧ ms.length ≤ 10 ∧ 0 < ms.length ∧ Inn 5000 ms ∧ Asc ms)) := by
  obtain ⟨e, f23, f18, h0, _⟩ := faults (st := st) (tk := tk) h1 h2
  unfold sf39 sf66
  rw [f23, f18, bnd_ret, bnd_ret]
  by_cases c0 : e = 0
  rotate_left
  · rw [decide_eq_false c0, Bool.not_false, cond_true, cond_true]
    exact ⟨e, rfl, rfl, fun h => absurd h c0, fun h => absurd (h0.2 h.1) c0⟩
  have v := h0.1 c0
  rw [decide_eq_true c0, Bool.not_true, cond_false, cond_false]
  rcases m68 (N := 100) h3 (by omega) with ⟨a, b⟩ | ⟨a, b⟩ | ⟨a, b⟩
  · rw [b, bnd_ret, decide_eq_true (show (10 : Int) < (ms.length : Int) by omega), cond_true]
    exact ⟨3, rfl, rfl, fun h => absurd h (by decide), fun h => absurd h.2.1 (by omega)⟩
  · obtain ⟨a1, a2, a3, a4⟩ := a
    rw [b, bnd_ret, decide_eq_false (show ¬ (10 : Int) < (ms.length : Int) by omega), cond_false, decide_eq_false (show ¬ (ms.length : Int) = 0 by omega), cond_false]
    rcases m87 (N := 100) h3 (by omega) with ⟨i1, i2⟩ | ⟨i1, i2⟩
    rotate_left
    · exact absurd a2 i1
    rcases m88 (N := 100) h3 (by omega) a4 with ⟨j1, j2⟩ | ⟨j1, j2⟩
    rotate_left
    · exact absurd a3 j1
    rw [i2, bnd_ret, Bool.not_true, cond_false, j2, bnd_ret, Bool.not_true, bnd_ret, cond_false]
    exact ⟨0, rfl, rfl, fun _ => ⟨v, a1, a4, a2, a3⟩, fun _ => rfl⟩
  · obtain ⟨a1, a2⟩ := a
    rw [b, bnd_ret, decide_eq_false (show ¬ (10 : Int) < (ms.length : Int) by omega), cond_false]
    have bad : bnd (bif (decide ((ms.length : Int) = (0 : Int))) then some true else (bnd (sf87 100 ms) fun v22 => (bif (!v22) then some true else (bnd (sf88 100 ms) fun v26 => some (!v26))))) (fun y17 => (bif y17 then some (2 : Int) else some (0 : Int))) = some 2 := by
      by_cases c2 : ms.length = 0
      · rw [decide_eq_true (show (ms.length : Int) = 0 by omega), cond_true, bnd_ret, cond_true]
      rw [decide_eq_false (show ¬ (ms.length : Int) = 0 by omega), cond_false]
      rcases m87 (N := 100) h3 (by omega) with ⟨i1, i2⟩ | ⟨i1, i2⟩
      rotate_left
      · rw [i2, bnd_ret, Bool.not_false, cond_true, bnd_ret, cond_true]
      rcases m88 (N := 100) h3 (by omega) (by omega) with ⟨j1, j2⟩ | ⟨j1, j2⟩
      · exact absurd ⟨i1, j1, by omega⟩ a2
      · rw [i2, bnd_ret, Bool.not_true, cond_false, j2, bnd_ret, Bool.not_false, bnd_ret, cond_true]
    rw [bad]
    exact ⟨2, rfl, rfl, fun h => absurd h (by decide), fun h => absurd ⟨h.2.2.2.1, h.2.2.2.2, h.2.2.1⟩ a2⟩
section
variable {st : Int} {ph : Ph} {zo : Zo} {K N : Nat}
theorem m91s {m s : Int} {c : Nat} (v : VS st ph zo (K : Int)) (hm : 0 ≤ m ∧ m ≤ 5000) (hs : 0 ≤ s) (hN : 70 < N) (hl : N < 1000000000) (hc : c ≤ K) :
    sf91_L1 N st ph zo (K : Int) (LoL st ph zo K) (HiL st ph zo K) s m ((c : Int) - 1) = bif decide (nd st ph zo m c ≤ s) then some (.inr (.inl (c : Int))) else some (.inl (c : Int)) := by
  have ht2 := v.t2
  have q : rng ((c : Int) - 1 + 1) := by unfold rng; omega
  unfold sf91_L1
  rw [decide_eq_true (show (c : Int) - 1 < (K : Int) by omega), cond_true, ck_pos q, show (c : Int) - 1 + 1 = (c : Int) by omega, m73 v hc hm hs hN, bnd_ret]
theorem m91a {m s : Int} {a : Nat} (v : VS st ph zo (K : Int)) (hm : 0 ≤ m ∧ m ≤ 5000) (hs : 0 ≤ s) (hN : 70 < N) (hl : N < 1000000000) (ha : a ≤ K + 1) :
    (∃ j : Nat, a + j ≤ K ∧ nd st ph zo m (a + j) ≤ s ∧ (∀ q, q < j → ¬ nd st ph zo m (a + q) ≤ s) ∧ iter (sf91_L1 N st ph zo (K : Int) (LoL st ph zo K) (HiL st ph zo K) s m) N ((a : Int) - 1) = some (.inl ((a + j : Nat) : Int))) ∨
    ((∀ q, a + q ≤ K → ¬ nd st ph zo m (a + q) ≤ s) ∧ iter (sf91_L1 N st ph zo (K : Int) (LoL st ph zo K) (HiL st ph zo K) s m) N ((a : Int) - 1) = some (.inr ())) := by
  have ht2 := v.t2
  by_cases h : ∃ j, a + j ≤ K ∧ nd st ph zo m (a + j) ≤ s
  · obtain ⟨j, ⟨h1, h2⟩, hm'⟩ := least h
    refine .inl ⟨j, h1, h2, fun q hq hc => hm' q hq ⟨by omega, hc⟩, iter_up (fun q => ((a + q : Nat) : Int) - 1) j (Sum.inl ((a + j : Nat) : Int)) rfl (fun q hq => ?_) ?_ (by omega)⟩
    · rw [m91s v hm hs hN hl (c := a + q) (by omega), decide_eq_false (fun hc => hm' q hq ⟨by omega, hc⟩), cond_false, show ((a + (q + 1) : Nat) : Int) - 1 = ((a + q : Nat) : Int) by omega]
    · rw [m91s v hm hs hN hl (c := a + j) (by omega), decide_eq_true h2, cond_true]
  · refine .inr ⟨fun q h1 h2 => h ⟨q, h1, h2⟩, iter_up (fun q => ((a + q : Nat) : Int) - 1) (K + 1 - a) (Sum.inr ()) rfl (fun q hq => ?_) ?_ (by omega)⟩
    · rw [m91s v hm hs hN hl (c := a + q) (by omega), decide_eq_false (fun hc => h ⟨q, by omega, hc⟩), cond_false, show ((a + (q + 1) : Nat) : Int) - 1 = ((a + q : Nat) : Int) by omega]
    · unfold sf91_L1
      rw [decide_eq_false (show ¬ ((a + (K + 1 - a) : Nat) : Int) - 1 < (K : Int) by omega), cond_false]
theorem drop_at {α : Type} {l : List α} {i : Nat} {x : α} (h : l[i]? = some x) : l.drop i = x :: l.drop (i + 1) := by
  have hi := some_lt h
  rw [List.drop_eq_getElem_cons hi]
  rw [List.getElem?_eq_getElem hi] at h
  cases h; rfl
theorem m91b {s : Int} {ms : List Int} (v : VS st ph zo (K : Int)) (hi : Inn 5000 ms) (hs : 0 ≤ s) (hN : 70 < N) (hl : N < 1000000000) (hb : ms.length < 1000) : ∀ (n i a M : Nat), i + n = ms.length → n < M → a ≤ K + 1 →
    (CE st ph zo K s (ms.drop i) ((a : Int) - 1) ∧ iter (sf91_L2 N st ph zo (K : Int) (LoL st ph zo K) (HiL st ph zo K) s ms) M ((a : Int) - 1, (i : Int)) = some (.inr ())) ∨
    (¬ CE st ph zo K s (ms.drop i) ((a : Int) - 1) ∧ iter (sf91_L2 N st ph zo (K : Int) (LoL st ph zo K) (HiL st ph zo K) s ms) M ((a : Int) - 1, (i : Int)) = some (.inl ()))
  | 0, i, a, M, h, hM, ha => by
    obtain ⟨M, rfl⟩ : ∃ M', M = M' + 1 := ⟨M - 1, by omega⟩
    have e : sf91_L2 N st ph zo (K : Int) (LoL st ph zo K) (HiL st ph zo K) s ms ((a : Int) - 1, (i : Int)) = some (.inr (.inr ())) := by
      unfold sf91_L2
      dsimp only
      rw [decide_eq_false (show ¬ (i : Int) < (ms.length : Int) by omega), cond_false]
    refine .inl ⟨?_, by unfold iter; rw [e]; rfl⟩
    rw [List.drop_of_length_le (by omega)]
    trivial
  | n + 1, i, a, M, h, hM, ha => by
    obtain ⟨M, rfl⟩ : ∃ M', M = M' + 1 := ⟨M - 1, by omega⟩
    obtain ⟨m, hm⟩ : ∃ m, ms[i]? = some m := ⟨_, lt_some (by omega)⟩
    have hd := drop_at hm
    have q3 : rng ((i : Int) + 1) := by unfold rng; omega
    rcases m91a v (hi i (by omega) m hm) hs hN hl ha with ⟨j, j1, j2, j3, je⟩ | ⟨j1, je⟩
    · have e0 : ((a + j + 1 : Nat) : Int) - 1 = ((a + j : Nat) : Int) := by omega
      have e : sf91_L2 N st ph zo (K : Int) (LoL st ph zo K) (HiL st ph zo K) s ms ((a : Int) - 1, (i : Int)) = some (.inl (((a + j + 1 : Nat) : Int) - 1, ((i + 1 : Nat) : Int))) := by
        unfold sf91_L2
        dsimp only
        rw [decide_eq_true (show (i : Int) < (ms.length : Int) by omega), cond_true, ix_at rfl hm, je, bnd_ret, sel_inl, ck_pos q3, e0]; rfl
      rcases m91b v hi hs hN hl hb n (i + 1) (a + j + 1) M (by omega) (by omega) (by omega) with ⟨c, e'⟩ | ⟨c, e'⟩
      · refine .inl ⟨?_, by unfold iter; rw [e]; exact e'⟩
        rw [e0] at c
        rw [hd]
        exact ⟨a + j, by omega, j1, j2, c⟩
      · refine .inr ⟨fun hc => c ?_, by unfold iter; rw [e]; exact e'⟩
        rw [hd] at hc
        obtain ⟨k, k1, k2, k3, k4⟩ := hc
        have : ¬ k < a + j := fun hk => j3 (k - a) (by omega) (by rw [show a + (k - a) = k by omega]; exact k3)
        exact CE.mono (by omega) k4
    · have e : sf91_L2 N st ph zo (K : Int) (LoL st ph zo K) (HiL st ph zo K) s ms ((a : Int) - 1, (i : Int)) = some (.inr (.inl ())) := by
        unfold sf91_L2
        dsimp only
        rw [decide_eq_true (show (i : Int) < (ms.length : Int) by omega), cond_true, ix_at rfl hm, je, bnd_ret, sel_inr]
      refine .inr ⟨fun hc => ?_, by unfold iter; rw [e]; rfl⟩
      rw [hd] at hc
      obtain ⟨k, k1, k2, k3, k4⟩ := hc
      exact j1 (k - a) (by omega) (by rw [show a + (k - a) = k by omega]; exact k3)
theorem m91 {s : Int} {ms : List Int} (v : VS st ph zo (K : Int)) (hi : Inn 5000 ms) (hs : 0 ≤ s) (hN : 70 < N) (hl : N < 1000000000) (hb : ms.length < N) (hb2 : ms.length < 1000) :
    (CE st ph zo K s ms (-1) ∧ sf91 N st ph zo (K : Int) (LoL st ph zo K) (HiL st ph zo K) s ms = some true) ∨ (¬ CE st ph zo K s ms (-1) ∧ sf91 N st ph zo (K : Int) (LoL st ph zo K) (HiL st ph zo K) s ms = some false) := by
  unfold sf91
  rcases m91b v hi hs hN hl hb2 ms.length 0 0 N (by omega) (by omega) (by omega) with ⟨c, e⟩ | ⟨c, e⟩
  · have e' : iter (sf91_L2 N st ph zo (K : Int) (LoL st ph zo K) (HiL st ph zo K) s ms) N ((-1 : Int), (0 : Int)) = some (.inr ()) := e
    rw [e', bnd_ret, sel_inr]
    exact .inl ⟨c, rfl⟩
  · have e' : iter (sf91_L2 N st ph zo (K : Int) (LoL st ph zo K) (HiL st ph zo K) s ms) N ((-1 : Int), (0 : Int)) = some (.inl ()) := e
    rw [e', bnd_ret, sel_inl]
    exact .inr ⟨c, rfl⟩
/-- The search for the printed bound. -/
theorem m89a {ms : List Int} (v : VS st ph zo (K : Int)) (hi : Inn 5000 ms) (hN : 70 < N) (hl : N < 1000000000) (hb : ms.length < N) (hb2 : ms.length < 1000) : ∀ (n lo hg M : Nat), lo ≤ hg → hg ≤ 5000 → hg - lo < 2 ^ n → n < M → (∀ x : Nat, x < lo → ¬ CE st ph zo K (x : Int) ms (-1)) → (hg < 5000 → CE st ph zo K (hg : Int) ms (-1)) →
    ∃ p : Nat, p ≤ 5000 ∧ iter (sf89_L1 N st ph zo (K : Int) (LoL st ph zo K) (HiL st ph zo K) ms) M ((lo : Int), (hg : Int)) = some (p : Int) ∧ (∀ x : Nat, x < p → ¬ CE st ph zo K (x : Int) ms (-1)) ∧ (p < 5000 → CE st ph zo K (p : Int) ms (-1)) := by
  intro n
  induction n with
  | zero =>
    intro lo hg M h1 h2 h3 hM g1 g2
    obtain ⟨M, rfl⟩ : ∃ M', M = M' + 1 := ⟨M - 1, by omega⟩
    have e0 : lo = hg := by
      have : (2 : Nat) ^ 0 = 1 := rfl
      omega
    subst e0
    refine ⟨lo, h2, ?_, g1, g2⟩
    have e : sf89_L1 N st ph zo (K : Int) (LoL st ph zo K) (HiL st ph zo K) ms ((lo : Int), (lo : Int)) = some (.inr (lo : Int)) := by
      unfold sf89_L1
      dsimp only
      rw [decide_eq_false (show ¬ (lo : Int) < (lo : Int) by omega), cond_false]
    unfold iter; rw [e]; rfl
  | succ n ih =>
    intro lo hg M h1 h2 h3 hM g1 g2
    obtain ⟨M, rfl⟩ : ∃ M', M = M' + 1 := ⟨M - 1, by omega⟩
    by_cases c : lo < hg
    rotate_left
    · have e0 : lo = hg := by omega
      subst e0
      refine ⟨lo, h2, ?_, g1, g2⟩
      have e : sf89_L1 N st ph zo (K : Int) (LoL st ph zo K) (HiL st ph zo K) ms ((lo : Int), (lo : Int)) = some (.inr (lo : Int)) := by
        unfold sf89_L1
        dsimp only
        rw [decide_eq_false (show ¬ (lo : Int) < (lo : Int) by omega), cond_false]
      unfold iter; rw [e]; rfl
    obtain ⟨w, hw⟩ : ∃ w : Nat, w = (lo + hg) / 2 := ⟨_, rfl⟩
    have hp : (2 : Nat) ^ (n + 1) = 2 * 2 ^ n := by rw [Nat.pow_succ]; omega
    have hf : Int.fdiv ((lo : Int) + (hg : Int)) (2 ^ (Nat.min (Int.toNat (1 : Int)) (IntKind.bits .u64))) = (w : Int) := by
      show Int.fdiv ((lo : Int) + (hg : Int)) 2 = (w : Int)
      rw [Int.fdiv_eq_ediv_of_nonneg _ (by decide)]
      omega
    have q1 : rng ((lo : Int) + (hg : Int)) := by unfold rng; omega
    have q2 : rng ((w : Int) + 1) := by unfold rng; omega
    have q4 : IntKind.wrap .u64 ((lo : Int) + (hg : Int)) = (lo : Int) + (hg : Int) := by
      unfold IntKind.wrap
      simp only [IntKind.bits, IntKind.signed, Bool.false_and]
      rw [if_neg (by decide)]
      omega
    have st1 : ∀ b : Bool, sf91 N st ph zo (K : Int) (LoL st ph zo K) (HiL st ph zo K) (w : Int) ms = some b → sf89_L1 N st ph zo (K : Int) (LoL st ph zo K) (HiL st ph zo K) ms ((lo : Int), (hg : Int)) = bif (!b) then some (.inl ((w : Int) + 1, (hg : Int))) else some (.inl ((lo : Int), (w : Int))) := fun b hb => by
      unfold sf89_L1 sf90
      dsimp only
      rw [decide_eq_true (show (lo : Int) < (hg : Int) by omega), cond_true, ck_pos q1, ck_pos q4, ck_pos (by decide), hf, ck_pos (wrap_small (w : Int) (by omega) (by omega)), hb, bnd_ret, bnd_ret, ck_pos q2]
    rcases m91 (N := N) (s := (w : Int)) v hi (by omega) hN hl hb hb2 with ⟨a1, a2⟩ | ⟨a1, a2⟩
    · have e := st1 true a2
      rw [Bool.not_true, cond_false] at e
      obtain ⟨p, p1, p2, p3, p4⟩ := ih lo w M (by omega) (by omega) (by omega) (by omega) g1 (fun _ => a1)
      exact ⟨p, p1, by unfold iter; rw [e]; exact p2, p3, p4⟩
    · have e := st1 false a2
      rw [Bool.not_false, cond_true] at e
      obtain ⟨p, p1, p2, p3, p4⟩ := ih (w + 1) hg M (by omega) (by omega) (by omega) (by omega) (fun x hx hc => a1 (CE.bd (by omega) hc)) g2
      exact ⟨p, p1, by unfold iter; rw [e]; exact p2, p3, p4⟩
/-- The ticks with the lines' own numbers. -/
theorem ce_own {ms : List Int} (v : VS st ph zo (K : Int)) (hi : Inn 5000 ms) (hl : ms.length ≤ 10) (hk : ms.length ≤ K + 1) : ∀ (n i : Nat), i + n = ms.length → CE st ph zo K 5000 (ms.drop i) ((i : Int) - 1)
  | 0, i, h => by rw [List.drop_of_length_le (by omega)]; trivial
  | n + 1, i, h => by
    obtain ⟨m, hm⟩ : ∃ m, ms[i]? = some m := ⟨_, lt_some (by omega)⟩
    rw [drop_at hm]
    have b1 := (lows v).bd i
    have b2 := (highs v).bd i
    have b3 := hi i (by omega) m hm
    refine ⟨i, by omega, by omega, ?_, ?_⟩
    · unfold nd loP hiP; omega
    · have := ce_own v hi hl hk n (i + 1) (by omega)
      rw [show (((i + 1 : Nat) : Int) - 1) = (i : Int) by omega] at this
      exact this
theorem m67 {ms : List Int} (v : VS st ph zo (K : Int)) (hi : Inn 5000 ms) (hl : ms.length ≤ 10) (hk : ms.length ≤ K + 1) : ∃ p : Nat, p ≤ 5000 ∧ sf67 100 st ph zo (K : Int) (LoL st ph zo K) (HiL st ph zo K) ms = some (p : Int) ∧ (∀ x : Nat, x < p → ¬ CE st ph zo K (x : Int) ms (-1)) ∧ CE st ph zo K (p : Int) ms (-1) := by
  obtain ⟨p, p1, p2, p3, p4⟩ := m89a (N := 100) v hi (by omega) (by omega) (by omega) (by omega) 13 0 5000 100 (by omega) (by omega) (by decide) (by omega) (fun x hx => absurd hx (by omega)) (fun h => absurd h (by omega))
  refine ⟨p, p1, ?_, p3, ?_⟩
  · unfold sf67 sf89
    have e' : iter (sf89_L1 100 st ph zo (K : Int) (LoL st ph zo K) (HiL st ph zo K) ms) 100 ((0 : Int), (5000 : Int)) = some (p : Int) := p2
    rw [e', bnd_ret, bnd_ret]
  · by_cases c : p < 5000
    · exact p4 c
    · have e0 : p = 5000 := by omega
      subst e0
      exact ce_own v hi hl hk ms.length 0 (by omega)
end
end Go.Hx.V

/- Layer 4: the printed bound as the reference reckons it; the law of P4.5. -/
namespace Go.Hx.V
open Go.Hx
set_option linter.unusedVariables false
set_option linter.unusedSimpArgs false
set_option maxRecDepth 20000
section
variable {st : Int} {ph : Ph} {zo : Zo} {K N : Nat}
/-- The first lines, cut with a bound, the last of them at the tick. -/
def Rr (st : Int) (ph : Ph) (zo : Zo) (K : Nat) (b : Int) (ms : List Int) : Nat → Int → Prop
  | 0, t => t = -1
  | i + 1, t => ∃ m, ms[i]? = some m ∧ ∃ k : Nat, t = (k : Int) ∧ k ≤ K ∧ nd st ph zo m k ≤ b ∧ ∃ s : Int, s < t ∧ Rr st ph zo K b ms i s
theorem ce_rr {b : Int} {ms : List Int} : ∀ i, i ≤ ms.length → (CE st ph zo K b ms (-1) ↔ ∃ t, Rr st ph zo K b ms i t ∧ CE st ph zo K b (ms.drop i) t)
  | 0, _ => ⟨fun h => ⟨-1, rfl, h⟩, fun ⟨t, e, h⟩ => by
      have e' : t = -1 := e
      subst e'; exact h⟩
  | i + 1, hi => by
    obtain ⟨m, hm⟩ : ∃ m, ms[i]? = some m := ⟨_, lt_some (by omega)⟩
    rw [ce_rr i (by omega), drop_at hm]
    constructor
    · rintro ⟨t, r, k, k1, k2, k3, k4⟩
      exact ⟨k, ⟨m, hm, k, rfl, k2, k3, t, k1, r⟩, k4⟩
    · rintro ⟨t, ⟨m', hm', k, rfl, k2, k3, s, k1, r⟩, c⟩
      rw [hm] at hm'
      cases hm'
      exact ⟨s, r, k, k1, k2, k3, c⟩
theorem rr_le {b : Int} {ms : List Int} : ∀ (i : Nat) (t : Int), Rr st ph zo K b ms i t → (i : Int) ≤ t + 1 ∧ (0 < i → t ≤ K)
  | 0, t, h => by
    have e' : t = -1 := h
    subst e'; omega
  | i + 1, t, ⟨m, hm, k, e, k2, k3, s, k1, r⟩ => by
    have := rr_le i s r
    omega
/-- The least of some numbers, and of a first one. -/
def mnr (z : Int) (L : Nat → Int) : Nat → Int
  | 0 => z
  | k + 1 => min (mnr z L k) (L k)
theorem mnr_le {z : Int} {L : Nat → Int} {b : Int} (hz : b < z) : ∀ k, mnr z L k ≤ b ↔ ∃ j, j < k ∧ L j ≤ b
  | 0 => ⟨fun h => by
      have : z ≤ b := h
      omega, fun ⟨j, h, _⟩ => by omega⟩
  | k + 1 => by
    have ih := mnr_le (L := L) hz k
    show min (mnr z L k) (L k) ≤ b ↔ _
    constructor
    · intro h
      by_cases c : mnr z L k ≤ b
      · obtain ⟨j, h1, h2⟩ := ih.1 c; exact ⟨j, by omega, h2⟩
      · exact ⟨k, by omega, by omega⟩
    · rintro ⟨j, h1, h2⟩
      by_cases c : j = k
      · subst c; omega
      · have := ih.2 ⟨j, by omega, h2⟩; omega
theorem mnr_top {z : Int} {L : Nat → Int} : ∀ k, mnr z L k ≤ z
  | 0 => Int.le_refl _
  | k + 1 => by
    have := mnr_top (z := z) (L := L) k
    show min (mnr z L k) (L k) ≤ z
    omega
theorem mnr_low {z : Int} {L : Nat → Int} (hz : 0 ≤ z) : ∀ k, (∀ j, j < k → 0 ≤ L j) → 0 ≤ mnr z L k
  | 0, _ => hz
  | k + 1, h => by
    have := mnr_low (L := L) hz k fun j hj => h j (by omega)
    have := h k (by omega)
    show 0 ≤ min (mnr z L k) (L k)
    omega
def bs (i : Nat) (L : Nat → Int) (k : Nat) : Int := if i = 0 then 0 else mnr 1073741824 L k
/-- A line's numbers. -/
def nwf (st : Int) (ph : Ph) (zo : Zo) (K : Nat) (i : Nat) (L : Nat → Int) (m : Int) : Nat → (Nat → Int)
  | 0 => fun _ => 0
  | k + 1 => if k ≤ K ∧ bs i L k < 1073741824 then ups (ups (nwf st ph zo K i L m k) k 1073741824) k (max (bs i L k) (nd st ph zo m k)) else ups (nwf st ph zo K i L m k) k 1073741824
def nwv (st : Int) (ph : Ph) (zo : Zo) (K : Nat) (i : Nat) (L : Nat → Int) (m : Int) (k : Nat) : Int := if k ≤ K ∧ bs i L k < 1073741824 then max (bs i L k) (nd st ph zo m k) else 1073741824
theorem ups_same {f : Nat → Int} {j : Nat} {v : Int} : ups f j v j = v := if_pos rfl
theorem ups_ne {f : Nat → Int} {i j : Nat} {v : Int} (h : i ≠ j) : ups f j v i = f i := if_neg h
theorem nwf_at {i : Nat} {L : Nat → Int} {m : Int} : ∀ n j, j < n → nwf st ph zo K i L m n j = nwv st ph zo K i L m j
  | 0, j, h => by omega
  | n + 1, j, h => by
    unfold nwf
    by_cases e : j = n
    · subst e
      unfold nwv
      by_cases c : j ≤ K ∧ bs i L j < 1073741824
      · rw [if_pos c, if_pos c, ups_same]
      · rw [if_neg c, if_neg c, ups_same]
    · rw [← nwf_at n j (by omega)]
      by_cases c : n ≤ K ∧ bs i L n < 1073741824
      · rw [if_pos c, ups_ne e, ups_ne e]
      · rw [if_neg c, ups_ne e]
def lsf (st : Int) (ph : Ph) (zo : Zo) (K : Nat) (ms : List Int) : Nat → (Nat → Int)
  | 0 => fun _ => 0
  | i + 1 => nwf st ph zo K i (lsf st ph zo K ms i) ((ms[i]?).getD 0) 61
theorem lsf_at {ms : List Int} {i j : Nat} {m : Int} (hm : ms[i]? = some m) (hj : j ≤ 60) : lsf st ph zo K ms (i + 1) j = nwv st ph zo K i (lsf st ph zo K ms i) m j := by
  show nwf st ph zo K i (lsf st ph zo K ms i) ((ms[i]?).getD 0) 61 j = _
  rw [nwf_at 61 j (by omega), hm]; rfl
theorem nd_low {m : Int} {k : Nat} : 0 ≤ nd st ph zo m k := by unfold nd; omega
theorem lsf_low {ms : List Int} : ∀ i, i ≤ ms.length → ∀ j, j ≤ 60 → 0 ≤ lsf st ph zo K ms i j
  | 0, _, j, _ => Int.le_refl _
  | i + 1, hi, j, hj => by
    obtain ⟨m, hm⟩ : ∃ m, ms[i]? = some m := ⟨_, lt_some (by omega)⟩
    rw [lsf_at hm hj]
    unfold nwv
    have := nd_low (st := st) (ph := ph) (zo := zo) (m := m) (k := j)
    split <;> omega
theorem lsf_rr {b : Int} {ms : List Int} (hb : 0 ≤ b ∧ b < 1073741824) (hK : K ≤ 60) : ∀ i, i < ms.length → ∀ k : Nat, k ≤ 60 → (lsf st ph zo K ms (i + 1) k ≤ b ↔ Rr st ph zo K b ms (i + 1) (k : Int))
  | 0, hi, k, hk => by
    obtain ⟨m, hm⟩ : ∃ m, ms[0]? = some m := ⟨_, lt_some hi⟩
    rw [lsf_at hm hk]
    unfold nwv bs
    rw [if_pos rfl]
    have h0 := nd_low (st := st) (ph := ph) (zo := zo) (m := m) (k := k)
    constructor
    · intro h
      by_cases c : k ≤ K ∧ (0 : Int) < 1073741824
      · rw [if_pos c] at h
        exact ⟨m, hm, k, rfl, c.1, by omega, -1, by omega, rfl⟩
      · rw [if_neg c] at h; omega
    · rintro ⟨m', hm', k', e, k2, k3, s, k1, r⟩
      rw [hm] at hm'
      cases hm'
      have : k' = k := by omega
      subst this
      rw [if_pos ⟨k2, by decide⟩]
      omega
  | i + 1, hi, k, hk => by
    obtain ⟨m, hm⟩ : ∃ m, ms[i + 1]? = some m := ⟨_, lt_some hi⟩
    rw [lsf_at hm hk]
    unfold nwv bs
    rw [if_neg (show ¬ i + 1 = 0 by omega)]
    have h0 := nd_low (st := st) (ph := ph) (zo := zo) (m := m) (k := k)
    have hmn := mnr_le (z := 1073741824) (L := lsf st ph zo K ms (i + 1)) hb.2 k
    constructor
    · intro h
      by_cases c : k ≤ K ∧ mnr 1073741824 (lsf st ph zo K ms (i + 1)) k < 1073741824
      · rw [if_pos c] at h
        obtain ⟨j, j1, j2⟩ := hmn.1 (by omega)
        exact ⟨m, hm, k, rfl, c.1, by omega, j, by omega, (lsf_rr hb hK i (by omega) j (by omega)).1 j2⟩
      · rw [if_neg c] at h; omega
    · rintro ⟨m', hm', k', e, k2, k3, s, k1, r⟩
      rw [hm] at hm'
      cases hm'
      have : k' = k := by omega
      subst this
      obtain ⟨m2, hm2, j, e2, j2, j3, j4⟩ := r
      subst e2
      have := hmn.2 ⟨j, by omega, (lsf_rr hb hK i (by omega) j (by omega)).2 ⟨m2, hm2, j, rfl, j2, j3, j4⟩⟩
      rw [if_pos ⟨k2, by omega⟩]
      omega
/-- The least bound of all. -/
def bst (st : Int) (ph : Ph) (zo : Zo) (K : Nat) (ms : List Int) : Int := mnr 1073741824 (lsf st ph zo K ms ms.length) 61
theorem bst_ce {b : Int} {ms : List Int} (hb : 0 ≤ b ∧ b < 1073741824) (hK : K ≤ 60) (h0 : 0 < ms.length) : bst st ph zo K ms ≤ b ↔ CE st ph zo K b ms (-1) := by
  obtain ⟨n, hn⟩ : ∃ n, ms.length = n + 1 := ⟨ms.length - 1, by omega⟩
  unfold bst
  rw [mnr_le hb.2 61, ce_rr ms.length (Nat.le_refl _), hn]
  constructor
  · rintro ⟨j, j1, j2⟩
    refine ⟨j, (lsf_rr hb hK n (by omega) j (by omega)).1 j2, ?_⟩
    rw [List.drop_of_length_le (by omega)]
    trivial
  · rintro ⟨t, r, _⟩
    obtain ⟨h1, h2⟩ := rr_le _ _ r
    have := h2 (by omega)
    obtain ⟨m, hm, k, e, k2, k3, k4⟩ := r
    subst e
    exact ⟨k, by omega, (lsf_rr hb hK n (by omega) k (by omega)).2 ⟨m, hm, k, rfl, k2, k3, k4⟩⟩
theorem bst_bd {ms : List Int} : 0 ≤ bst st ph zo K ms ∧ bst st ph zo K ms ≤ 1073741824 :=
  ⟨mnr_low (by decide) 61 fun j hj => lsf_low _ (Nat.le_refl _) j (by omega), mnr_top 61⟩
end
/-- What the program prints. -/
theorem m38 {st : Int} {ph : Ph} {zo : Zo} {K : Nat} {ms : List Int} (v : VS st ph zo (K : Int)) (h66 : sf66 100 st ph zo (K : Int) ms = some 0) (hi : Inn 5000 ms) (hl : ms.length ≤ 10) (h0 : 0 < ms.length) :
    (K + 1 < ms.length ∧ bst st ph zo K ms = 1073741824 ∧ sf38 100 st ph zo (K : Int) ms = some (0, 9)) ∨
    (ms.length ≤ K + 1 ∧ ∃ p : Nat, p ≤ 5000 ∧ bst st ph zo K ms = p ∧ sf38 100 st ph zo (K : Int) ms = some ((p : Int), 0)) := by
  have ht2 := v.t2
  have q1 : rng ((K : Int) + 1) := by unfold rng; omega
  have hbd := bst_bd (st := st) (ph := ph) (zo := zo) (K := K) (ms := ms)
  unfold sf38
  rw [h66, bnd_ret, decide_eq_true rfl, Bool.not_true, cond_false, ck_pos q1]
  by_cases c : K + 1 < ms.length
  · rw [decide_eq_true (show (K : Int) + 1 < (ms.length : Int) by omega), cond_true]
    refine .inl ⟨c, ?_, rfl⟩
    refine Classical.byContradiction fun hne => ?_
    have h := (bst_ce (b := bst st ph zo K ms) ⟨hbd.1, by omega⟩ (by omega) h0).1 (Int.le_refl _)
    obtain ⟨t, r, _⟩ := (ce_rr ms.length (Nat.le_refl _)).1 h
    have := rr_le _ _ r
    omega
  · rw [decide_eq_false (show ¬ (K : Int) + 1 < (ms.length : Int) by omega), cond_false, m54 v (by omega) (by omega), bnd_ret]
    dsimp only
    obtain ⟨p, p1, p2, p3, p4⟩ := m67 v hi hl (by omega)
    rw [p2, bnd_ret]
    refine .inr ⟨by omega, p, p1, ?_, rfl⟩
    have a1 := (bst_ce (b := (p : Int)) ⟨by omega, by omega⟩ (by omega) h0).2 p4
    refine Classical.byContradiction fun hne => ?_
    have a2 := (bst_ce (b := bst st ph zo K ms) ⟨hbd.1, by omega⟩ (by omega) h0).1 (Int.le_refl _)
    obtain ⟨w, hw⟩ : ∃ w : Nat, bst st ph zo K ms = (w : Int) := ⟨(bst st ph zo K ms).toNat, by omega⟩
    rw [hw] at a2
    exact p3 w (by omega) a2
end Go.Hx.V

/- Layer 4: some lines alone; the law of P4.12. -/
namespace Go.Hx.V
open Go.Hx
set_option linter.unusedVariables false
set_option linter.unusedSimpArgs false
set_option maxRecDepth 20000
theorem wrap_u64 {x : Int} (h : 0 ≤ x ∧ x < 4611686018427387904) : IntKind.wrap .u64 x = x := by
  unfold IntKind.wrap
  simp only [IntKind.bits, IntKind.signed, Bool.false_and]
  rw [if_neg (by decide)]
  omega
/-- Those of a list that a test takes. -/
def fl (b : Nat → Bool) (l : List Int) : Nat → List Int
  | 0 => []
  | j + 1 => bif b j then fl b l j ++ [(l[j]?).getD 0] else fl b l j
theorem fl_succ {b : Nat → Bool} {l : List Int} {j : Nat} {x : Int} (h : l[j]? = some x) : fl b l (j + 1) = bif b j then fl b l j ++ [x] else fl b l j := by
  show (bif b j then fl b l j ++ [(l[j]?).getD 0] else fl b l j) = _
  rw [h]; rfl
theorem fl_sub {b : Nat → Bool} {l : List Int} : ∀ n, n ≤ l.length → (fl b l n).Sublist (l.take n)
  | 0, _ => List.nil_sublist _
  | n + 1, h => by
    obtain ⟨x, hx⟩ : ∃ x, l[n]? = some x := ⟨_, lt_some (by omega)⟩
    rw [fl_succ hx, take_succ' hx]
    have ih := fl_sub (b := b) (l := l) n (by omega)
    cases b n
    · exact ih.trans (List.sublist_append_left ..)
    · exact List.Sublist.append ih (List.Sublist.refl _)
theorem fl_all {b : Nat → Bool} {l : List Int} : (fl b l l.length).Sublist l := by
  have := fl_sub (b := b) (l := l) l.length (Nat.le_refl _)
  rw [List.take_length] at this
  exact this
theorem fl_len {b : Nat → Bool} {l m : List Int} : ∀ n, (fl b l n).length = (fl b m n).length
  | 0 => rfl
  | n + 1 => by
    have ih := fl_len (b := b) (l := l) (m := m) n
    show (bif b n then fl b l n ++ [(l[n]?).getD 0] else fl b l n).length = (bif b n then fl b m n ++ [(m[n]?).getD 0] else fl b m n).length
    cases b n
    · exact ih
    · rw [cond_true, cond_true, List.length_append, List.length_append, ih]; rfl
theorem fl_le {b : Nat → Bool} {l : List Int} : ∀ n, (fl b l n).length ≤ n
  | 0 => Nat.le_refl _
  | n + 1 => by
    have ih := fl_le (b := b) (l := l) n
    show (bif b n then fl b l n ++ [(l[n]?).getD 0] else fl b l n).length ≤ n + 1
    cases b n
    · rw [cond_false]; omega
    · rw [cond_true, List.length_append, List.length_singleton]; omega
theorem fl_at {b : Nat → Bool} {l m : List Int} : ∀ n, n ≤ l.length → n ≤ m.length → ∀ (i : Nat) x y, (fl b l n)[i]? = some x → (fl b m n)[i]? = some y → ∃ j : Nat, l[j]? = some x ∧ m[j]? = some y
  | 0, _, _, i, x, y, h, _ => by cases h
  | n + 1, h1, h2, i, x, y, hx, hy => by
    obtain ⟨u, hu⟩ : ∃ u, l[n]? = some u := ⟨_, lt_some (by omega)⟩
    obtain ⟨w, hw⟩ : ∃ w, m[n]? = some w := ⟨_, lt_some (by omega)⟩
    rw [fl_succ hu] at hx
    rw [fl_succ hw] at hy
    have ih := fl_at (b := b) (l := l) (m := m) n (by omega) (by omega) i x y
    have hlen := fl_len (b := b) (l := l) (m := m) n
    cases hb : b n
    · rw [hb, cond_false] at hx hy
      exact ih hx hy
    · rw [hb, cond_true] at hx hy
      by_cases c : i < (fl b l n).length
      · rw [List.getElem?_append_left c] at hx
        rw [List.getElem?_append_left (by omega)] at hy
        exact ih hx hy
      · rw [List.getElem?_append_right (by omega)] at hx
        rw [List.getElem?_append_right (by omega)] at hy
        have e : i - (fl b l n).length = 0 := by
          have := some_lt hx
          rw [List.length_singleton] at this
          omega
        rw [e] at hx
        rw [← hlen, e] at hy
        cases hx; cases hy
        exact ⟨n, hu, hw⟩
theorem inn_mem {hi : Int} {l : List Int} : Inn hi l ↔ ∀ x, x ∈ l → 0 ≤ x ∧ x ≤ hi :=
  ⟨fun h x hx => by
    obtain ⟨j, hj⟩ := List.mem_iff_getElem?.1 hx
    exact h j (some_lt hj) x hj, fun h j _ x hx => h x (List.mem_iff_getElem?.2 ⟨j, hx⟩)⟩
theorem asc_pw {l : List Int} : Asc l ↔ l.Pairwise (· < ·) := by
  rw [List.pairwise_iff_getElem]
  constructor
  · intro h
    have key : ∀ (d i : Nat) (hi : i < l.length) (hd : i + d + 1 < l.length), l[i] < l[i + d + 1] := fun d => by
      induction d with
      | zero => intro i hi hd; exact h i (by omega) _ _ (lt_some hi) (lt_some (by omega))
      | succ d ih =>
        intro i hi hd
        have a := ih i hi (by omega)
        have b := h (i + d + 1) (by omega) _ _ (lt_some (by omega)) (lt_some (by omega))
        exact Int.lt_trans a b
    intro i j hi hj hij
    obtain ⟨d, rfl⟩ : ∃ d, j = i + d + 1 := ⟨j - i - 1, by omega⟩
    exact key d i hi hj
  · intro h j hj x y hx hy
    have h1 := some_lt hx
    have h2 := some_lt hy
    rw [lt_some h1] at hx
    rw [lt_some h2] at hy
    cases hx; cases hy
    exact h j (j + 1) h1 h2 (by omega)
theorem m57 {st tk : Int} {ph : Ph} {zo : Zo} {ms ts : List Int} (h66 : sf66 100 st ph zo tk ms = some 0) (hl : ts.length = ms.length) (hm : ms.length < 100) (h0 : 0 < ms.length) (hi : Inn tk ts) (ha : Asc ts) : sf57 100 st ph zo tk ms ts = some 0 := by
  unfold sf57
  rw [h66, bnd_ret, decide_eq_true (show (0 : Int) = 0 from rfl), Bool.not_true, cond_false, decide_eq_true (show (ts.length : Int) = (ms.length : Int) by omega), Bool.not_true, cond_false]
  rcases m872 (N := 100) (st := st) (tk := tk) (ph := ph) (zo := zo) (l := ts) (by omega) (by omega) with ⟨p1, p2⟩ | ⟨p1, p2⟩
  rotate_left
  · exact absurd hi p1
  rcases m88 (N := 100) (l := ts) (by omega) (by omega) (by omega) with ⟨r1, r2⟩ | ⟨r1, r2⟩
  rotate_left
  · exact absurd ha r1
  rw [p2, bnd_ret, Bool.not_true, cond_false, r2, bnd_ret, Bool.not_true, bnd_ret, cond_false]
theorem asc_of {st tk : Int} {ph : Ph} {zo : Zo} {ms ts : List Int} (h66 : sf66 100 st ph zo tk ms = some 0) (hl : ts.length = ms.length) (hm : ms.length < 100) (h0 : 0 < ms.length) (hi : Inn tk ts) (h57 : sf57 100 st ph zo tk ms ts = some 0) : Asc ts := by
  unfold sf57 at h57
  rw [h66, bnd_ret, decide_eq_true (show (0 : Int) = 0 from rfl), Bool.not_true, cond_false, decide_eq_true (show (ts.length : Int) = (ms.length : Int) by omega), Bool.not_true, cond_false] at h57
  rcases m872 (N := 100) (st := st) (tk := tk) (ph := ph) (zo := zo) (l := ts) (by omega) (by omega) with ⟨p1, p2⟩ | ⟨p1, p2⟩
  rotate_left
  · exact absurd hi p1
  rcases m88 (N := 100) (l := ts) (by omega) (by omega) (by omega) with ⟨r1, r2⟩ | ⟨r1, r2⟩
  · exact r1
  rw [p2, bnd_ret, Bool.not_true, cond_false, r2, bnd_ret, Bool.not_false, bnd_ret, cond_true] at h57
  cases h57
theorem m43z {st s z : Int} {K : Nat} {ph : Ph} {zo : Zo} {ms ts : List Int} (h : Cut st ph zo (K : Int) ms ts) (h57 : sf57 100 st ph zo (K : Int) ms ts = some 0) (hs : 0 ≤ s ∧ s ≤ 5000) (hz : (ms.length : Int) ≤ z) {w : Bool} (hw : (w = true ∧ ∀ i, i < ms.length → wg st ph zo ms ts s i = false) ∨ (w = false ∧ ∃ i : Nat, i < ms.length ∧ wg st ph zo ms ts s i = true ∧ ∀ k, k < i → wg st ph zo ms ts s k = false)) :
    sf43 100 st ph zo (K : Int) ms ts s z = some w := by
  have hlm := h.lm
  obtain ⟨y, e, b1, b2⟩ := m71 (N := 100) h.ti h.v.t2 (by rw [h.ll]; omega) (by omega)
  have hll := h.ll
  unfold sf43
  rw [h57, bnd_ret, decide_eq_true (show (0 : Int) = 0 from rfl), Bool.not_true, cond_false, m60, bnd_ret, decide_eq_true hs, Bool.not_true, cond_false, e, bnd_ret, decide_eq_false (show ¬ z < y by omega), bnd_ret, cond_false, bnd_ret, sel_inr, m58 h.ll (by omega) (by omega), bnd_ret]
  unfold sf62
  rw [m54 h.v (by omega) (by omega), bnd_ret, bnd_ret]
  dsimp only
  rw [m72 h hs.1 hw, bnd_ret]
/-- A bit of a word. -/
def bt (a : Int) (j : Nat) : Bool := !decide (Int.tmod (Int.fdiv a (2 ^ (Nat.min (Int.toNat (j : Int)) (IntKind.bits .u16)))) (2 : Int) = (0 : Int))
theorem m14 {a e : Int} {ms ts : List Int} (hl : e = 0 → ts.length = ms.length) (hm : ms.length < 50) :
    iter (sf14_L1 ms ts a e) 100 (([] : List Int), ([] : List Int), (0 : Int)) = some (fl (bt a) ms ms.length, bif decide (e = 0) then fl (bt a) ts ms.length else []) := by
  refine iter_up (fun j => (fl (bt a) ms j, (bif decide (e = 0) then fl (bt a) ts j else []), (j : Int))) ms.length _ ?_ (fun j hj => ?_) ?_ (by omega)
  · show _ = (([] : List Int), (bif decide (e = 0) then ([] : List Int) else []), (0 : Int))
    cases decide (e = 0) <;> rfl
  · obtain ⟨x, hx⟩ : ∃ x, ms[j]? = some x := ⟨_, lt_some hj⟩
    have q3 : rng ((j : Int) + 1) := by unfold rng; omega
    have l1 := fl_le (b := bt a) (l := ms) j
    have l2 := fl_le (b := bt a) (l := ts) j
    unfold sf14_L1
    dsimp only
    rw [decide_eq_true (show (j : Int) < (ms.length : Int) by omega), cond_true, ck_pos (wrap_u64 (by omega)), ck_pos (by omega), ck_pos (by decide)]
    by_cases c : Int.tmod (Int.fdiv a (2 ^ (Nat.min (Int.toNat (j : Int)) (IntKind.bits .u16)))) (2 : Int) = (0 : Int)
    · have hb : bt a j = false := by unfold bt; rw [decide_eq_true c]; rfl
      rw [decide_eq_true c, cond_true, ck_pos q3]
      show _ = some (Sum.inl ((bif bt a j then fl (bt a) ms j ++ [(ms[j]?).getD 0] else fl (bt a) ms j), (bif decide (e = 0) then (bif bt a j then fl (bt a) ts j ++ [(ts[j]?).getD 0] else fl (bt a) ts j) else []), ((j + 1 : Nat) : Int)))
      rw [hb, cond_false, cond_false]; rfl
    · have hb : bt a j = true := by unfold bt; rw [decide_eq_false c]; rfl
      rw [decide_eq_false c, cond_false, ix_at rfl hx, ck_pos (by omega)]
      by_cases c0 : e = 0
      · have hl' := hl c0
        obtain ⟨y, hy⟩ : ∃ y, ts[j]? = some y := ⟨_, lt_some (by omega)⟩
        rw [fl_succ hx, hb, cond_true]
        rw [decide_eq_true c0, cond_true, ix_at rfl hy, cond_true, ck_pos (by omega), ck_pos q3, cond_true, fl_succ hy, hb, cond_true]; rfl
      · rw [fl_succ hx, hb, cond_true]
        rw [decide_eq_false c0, cond_false, ck_pos q3, cond_false, cond_false]; rfl
  · unfold sf14_L1
    dsimp only
    rw [decide_eq_false (show ¬ (ms.length : Int) < (ms.length : Int) by omega), cond_false]
/-- The law of P4.12. -/
theorem law14 {st tk s a : Int} {ph : Ph} {zo : Zo} {ms ts : List Int} (hs : 0 ≤ s ∧ s ≤ 255) : sf14 100 st ph zo tk ms ts s a = some true := by
  unfold sf14 sf48
  rw [m16, bnd_ret]
  by_cases c : ph.length ≤ 11 ∧ zo.length ≤ 6 ∧ ms.length ≤ 13 ∧ ([] : List Int).length ≤ 13
  rotate_left
  · rw [decide_eq_false c, cond_false, bnd_ret, Bool.not_false, cond_true, bnd_ret, cond_true, bnd_ret, sel_inl]
  rw [decide_eq_true c, cond_true]
  obtain ⟨e, f39, f66, he⟩ := scales (st := st) (tk := tk) (ms := ms) (show ph.length < 100 by omega) (show zo.length < 100 by omega) (by omega)
  rw [f39, bnd_ret]
  by_cases c0 : e = 0
  rotate_left
  · rw [decide_eq_false c0, bnd_ret, Bool.not_false, cond_true, bnd_ret, cond_true, bnd_ret, sel_inl]
  rw [decide_eq_true c0, bnd_ret, Bool.not_true, cond_false, bnd_ret]
  by_cases c1 : 13 < ts.length
  · rw [decide_eq_true (show (13 : Int) < (ts.length : Int) by omega), cond_true, bnd_ret, sel_inl]
  rw [decide_eq_false (show ¬ (13 : Int) < (ts.length : Int) by omega), cond_false, bnd_ret, sel_inr]
  obtain ⟨v, b1, b2, b3, b4⟩ := he.1 c0
  subst c0
  have := v.t1
  have ht2 := v.t2
  obtain ⟨K, rfl⟩ : ∃ K : Nat, tk = (K : Int) := ⟨tk.toNat, by omega⟩
  obtain ⟨e2, f32, f57, hc⟩ := cuts (st := st) (tk := (K : Int)) (ms := ms) (ts := ts) (show ph.length < 100 by omega) (show zo.length < 100 by omega) (by omega) (by omega)
  rw [f32, bnd_ret, m14 (fun h => (hc h).ll) (by omega), bnd_ret]
  dsimp only
  have sb := fl_all (b := bt a) (l := ms)
  have le1 := sb.length_le
  obtain ⟨fe, hfe⟩ : ∃ fe, fl (bt a) ms ms.length = fe := ⟨_, rfl⟩
  by_cases c2 : fe.length = 0
  · rw [hfe, decide_eq_true (show (fe.length : Int) = 0 by omega), cond_true]
  have f19 : sf19 100 st ph zo (K : Int) = some (st, ph, zo, (K : Int)) := m19 (by omega) (by omega) (by omega)
  have i1 : Inn 5000 fe := by rw [← hfe]; exact inn_mem.2 fun x hx => inn_mem.1 b3 x (sb.mem hx)
  have a1 : Asc fe := by rw [← hfe]; exact asc_pw.2 ((asc_pw.1 b4).sublist sb)
  have sb' : fe.Sublist ms := by rw [← hfe]; exact sb
  have le2 : fe.length ≤ ms.length := sb'.length_le
  obtain ⟨e3, g39, g66, ge⟩ := scales (st := st) (tk := (K : Int)) (ms := fe) (show ph.length < 100 by omega) (show zo.length < 100 by omega) (by omega)
  have e30 := ge.2 ⟨v, by omega, by omega, i1, a1⟩
  subst e30
  -- the cuttings
  have first1 : bnd (bif (decide (e2 = (0 : Int))) then (bnd (sf19 100 st ph zo (K : Int)) fun v599 => (bnd (sf30 100 ms) fun v608 => (bnd (sf30 100 ts) fun v617 => (ck (IntKind.wrap .i64 s = s) ((bnd (sf43 100 v599.1 v599.2.1 v599.2.2.1 v599.2.2.2 v608 v617 s (99 : Int)) fun v628 => (bif v628 then (bnd (sf19 100 st ph zo (K : Int)) fun v632 => (bnd (sf30 100 fe) fun v644 => (bnd (sf30 100 (bif decide (e2 = 0) then fl (bt a) ts ms.length else [])) fun v656 => (ck (IntKind.wrap .i64 s = s) ((bnd (sf43 100 v632.1 v632.2.1 v632.2.2.1 v632.2.2.2 v644 v656 s (99 : Int)) fun v670 => some (!v670))))))) else some false))))))) else some false) (fun y594 => ((bif y594 then some (.inl ()) else some (.inr ())) : Option (Unit ⊕ Unit))) = some (.inr ()) := by
    by_cases c3 : e2 = 0
    rotate_left
    · rw [decide_eq_false c3, cond_false, bnd_ret, cond_false]
    have hcut := hc c3
    rw [decide_eq_true c3, cond_true, f19, bnd_ret, m30 (by omega), bnd_ret, m30 (by omega), bnd_ret, ck_pos (wrap_small s (by omega) (by omega))]
    dsimp only
    have f57' : sf57 100 st ph zo (K : Int) ms ts = some 0 := by rw [f57, c3]
    rcases first (wg st ph zo ms ts s) ms.length with w1 | ⟨i, w1, w2, w3⟩
    rotate_left
    · rw [m43z hcut f57' (by omega) (by omega) (w := false) (.inr ⟨rfl, i, w1, w2, w3⟩), bnd_ret, cond_false, bnd_ret, cond_false]
    have ha := asc_of f66 hcut.ll (by omega) (by omega) hcut.ti f57'
    have sbt := fl_all (b := bt a) (l := ts)
    rw [hcut.ll] at sbt
    obtain ⟨te, hte⟩ : ∃ te, fl (bt a) ts ms.length = te := ⟨_, rfl⟩
    rw [hte] at sbt
    have lte : te.length = fe.length := by rw [← hte, ← hfe]; exact fl_len _
    have hcut2 : Cut st ph zo (K : Int) fe te := ⟨v, by omega, by omega, i1, inn_mem.2 fun x hx => inn_mem.1 hcut.ti x (sbt.mem hx), lte⟩
    have g57 := m57 g66 lte (by omega) (by omega) hcut2.ti (asc_pw.2 ((asc_pw.1 ha).sublist sbt))
    have w2 : ∀ i, i < fe.length → wg st ph zo fe te s i = false := fun i hi => by
      obtain ⟨x, hx⟩ : ∃ x, fe[i]? = some x := ⟨_, lt_some hi⟩
      obtain ⟨y, hy⟩ : ∃ y, te[i]? = some y := ⟨_, lt_some (by omega)⟩
      rw [wg_at hx hy]
      rw [← hfe] at hx
      rw [← hte] at hy
      obtain ⟨j, j1, j2⟩ := fl_at ms.length (Nat.le_refl _) (by rw [hcut.ll]; exact Nat.le_refl _) i x y hx hy
      rw [← wg_at j1 j2]
      exact w1 j (some_lt j1)
    rw [m43z hcut f57' (by omega) (by omega) (w := true) (.inl ⟨rfl, w1⟩), bnd_ret, cond_true, bnd_ret, m30 (by omega), bnd_ret, hte, cond_true, m30 (by omega), bnd_ret, ck_pos (wrap_small s (by omega) (by omega))]
    dsimp only
    rw [m43z hcut2 g57 (by omega) (by omega) (w := true) (.inl ⟨rfl, w2⟩), bnd_ret, Bool.not_true, bnd_ret, cond_false]
  rw [hfe, decide_eq_false (show ¬ (fe.length : Int) = 0 by omega), cond_false, first1, bnd_ret, sel_inr, f19, bnd_ret, m30 (by omega), bnd_ret]
  dsimp only
  rcases m38 v g66 i1 (by omega) (by omega) with ⟨k1, k2, k3⟩ | ⟨k1, q, k2, k3, k4⟩
  · rcases m38 v f66 b3 b1 b2 with ⟨h1, h2, h3⟩ | ⟨h1, p, p1, h2, h3⟩
    · rw [h3, bnd_ret, bnd_ret, m30 (by omega), bnd_ret, k3, bnd_ret, decide_eq_false (show ¬ (9 : Int) = 0 by decide), Bool.not_false, cond_true, decide_eq_true (show (9 : Int) = 9 from rfl), cond_true]
    · omega
  · rcases m38 v f66 b3 b1 b2 with ⟨h1, h2, h3⟩ | ⟨h1, p, p1, h2, h3⟩
    · rw [h3, bnd_ret, bnd_ret, m30 (by omega), bnd_ret, k4, bnd_ret, decide_eq_false (show ¬ (9 : Int) = 0 by decide), Bool.not_false, cond_true, decide_eq_true (show (9 : Int) = 9 from rfl), cond_true]
    · have ce := (bst_ce (st := st) (ph := ph) (zo := zo) (K := K) (ms := ms) (b := (p : Int)) ⟨by omega, by omega⟩ (by omega) b2).1 (by omega)
      have ce2 := (bst_ce (st := st) (ph := ph) (zo := zo) (K := K) (ms := fe) (b := (p : Int)) ⟨by omega, by omega⟩ (by omega) (by omega)).2 (CE.sub sb' ce)
      rw [h3, bnd_ret, bnd_ret, m30 (by omega), bnd_ret, k4, bnd_ret, decide_eq_true (show (0 : Int) = 0 from rfl), Bool.not_true, cond_false, cond_true, decide_eq_true (show (q : Int) ≤ (p : Int) by omega), cond_true]
end Go.Hx.V

