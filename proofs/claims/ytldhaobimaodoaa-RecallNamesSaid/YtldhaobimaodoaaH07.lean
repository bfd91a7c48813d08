/- The functions of the program, as they are. -/
import Derived.Test.YtldhaobimaodoaaH04
import Derived.Test.YtldhaobimaodoaaH05
import Derived.Test.YtldhaobimaodoaaH06
import Derived.Test.YtldhaobimaodoaaH03
set_option linter.all false
/- The functions of the program, as they are. -/
namespace Go.Hx
noncomputable section
abbrev PRG : Program := Go.Proofs.Try.prog
theorem mixed : PRG.follows .mixedOrders = true := by kernel_rfl
abbrev LWA : Nat → Option LFunc := LP
theorem lx_ok : LpOk PRG LWA := lowP_ok
theorem la54 : LWA 54 = some L54 := lp54
theorem la58 : LWA 58 = some L58 := lp58
theorem la64 : LWA 64 = some L64 := lp64
theorem la68 : LWA 68 = some L68 := lp68
theorem la69 : LWA 69 = some L69 := lp69
theorem la72 : LWA 72 = some L72 := lp72
theorem la74 : LWA 74 = some L74 := lp74
theorem la76 : LWA 76 = some L76 := lp76
theorem la77 : LWA 77 = some L77 := lp77
theorem la81 : LWA 81 = some L81 := lp81
theorem la86 : LWA 86 = some L86 := lp86
theorem la87 : LWA 87 = some L87 := lp87
theorem la89 : LWA 89 = some L89 := lp89
theorem la90 : LWA 90 = some L90 := lp90
end
end Go.Hx

/- What 'when' and 'holds' come to, seen from the store. -/
namespace Go.Hx.V.A
open Go.Hx
noncomputable section
def rd5 : List HV → Option (List (Int × Int × Int × Int × Int))
  | [] => some []
  | .int .i64 a :: .int .i64 b :: .int .i64 c :: .int .i64 d :: .int .i64 e :: t => (rd5 t).map ((a, b, c, d, e) :: ·)
  | _ => none
def rdSl (σ : HS) (p : Option (Nat × Nat)) (l c : Nat) : Option (List (Int × Int × Int × Int × Int)) := match p with
  | some (b, 0) => match σ.h.get b with
    | some (.cells cs _) => (rd5 cs).bind fun rs => bif Nat.ble l rs.length && Nat.ble l c then some (rs.take l) else none
    | _ => none
  | _ => none
def flatE (es : ME) : Bool := es.all fun e => flat e.1 && flat e.2
def g54 (args : List HV) (σ : HS) : Option (HV × HS) := match args with
  | [.agg [.int .i64 ow, .int .i64 tot, .slice p l c, .map (some mb)], .int .i64 a1] => (rdSl σ p l c).bind fun rs => match σ.h.get mb with
    | some (.map es) => bif flatE es then (sf54o 64 ow tot rs es a1 es).map fun r => (.agg [i64 r.1, i64 r.2], σ) else none
    | _ => none
  | _ => none
def g58 (args : List HV) (σ : HS) : Option (HV × HS) := match args with
  | [.agg [.int .i64 ow, .int .i64 tot, .slice p l c, .map (some mb)], .int .i64 a1, .int .i64 a2] => (rdSl σ p l c).bind fun rs => match σ.h.get mb with
    | some (.map es) => bif flatE es then (sf58o 64 ow tot rs es a1 a2 es).map fun r => (.agg [i64 r.1, i64 r.2], σ) else none
    | _ => none
  | _ => none
end
end Go.Hx.V.A
namespace Go.Hx
noncomputable section
def LQ : Nat → Option LFunc := withS (withS LP 54 V.A.g54) 58 V.A.g58
noncomputable def endK0 : Kv := fun v _ _ => some (v, ⟨.e, 0⟩)
end
end Go.Hx

/- Functions of the program come to that. -/
namespace Go.Hx.V.A
open Go.Hx
set_option linter.unusedVariables false
set_option maxRecDepth 20000
set_option maxHeartbeats 4000000
attribute [local irreducible] W R C thenH inBlockH Tr.get Tr.set lo ck bnd ix iter
theorem ct76 (N : Nat) {a0_0 : (Nat → Bool)} {a1 : Int} {r : (Nat → Bool)} (hF : sf76 N a0_0 a1 = some r) {fl : Nat} {h0 : Tr HBlk} {n0 : Nat} {F0 : PH} (hd : D h0 n0) (hs : F0.sub h0) : C LWA fl 76 [(.agg (eB 8 a0_0)), (i64 a1)] ⟨h0, n0⟩ (KS (.agg (eB 8 r)) n0 h0) := by
  unfold sf76 at hF
  refine in_cT hd hs la76 rfl rfl (by rfl) (fun st T hT => ?_)
  have hfl : n0 ≤ n0 := Nat.le_refl n0
  have t0 := hT 0 _ rfl
  have t1 := hT 1 _ rfl
  dsimp only [L76]
  refine w_seq ?_; refine w_reg ?_; refine v_box st (fun b1 h2 n3 st => ?_); refine v_alloc st (fun b4 h5 n6 st => ?_)
  have st := st.cells 1 rfl (eB 8 (fun _ => false)) rfl
  refine r_nil ?_; refine th_n ?_; refine w_seq ?_; refine w_reg ?_; refine v_move ?_; obtain ⟨q7, hF⟩ := ck_some hF
  refine v_ixa (j := (Int.toNat a1)) (Int.toNat_of_nonneg q7.1).symm (by omega) ?_
  refine v_st (o := (0 + (Int.toNat a1) * 1)) (v := (.bool true)) (cs' := (eB 8 (ups a0_0 (Int.toNat a1) true))) st 0 rfl (ar_set0B (ix := (Int.toNat a1)) (by omega) (by omega)) rfl rfl hfl (fun h8 st => ?_)
  refine r_nil ?_; refine th_n ?_; refine w_seq ?_; refine w_reg ?_; refine v_ldn (vs := (eB 8 (ups a0_0 (Int.toNat a1) true))) (st.at (i := 0) rfl).2.2 (tk_tail (E := (eB 8 (ups a0_0 (Int.toNat a1) true))) [] [] rfl eB_len rfl) ?_
  refine v_st (v := (.agg (eB 8 (ups a0_0 (Int.toNat a1) true)))) (cs' := (eB 8 (ups a0_0 (Int.toNat a1) true))) st 1 rfl (ov_tail (q := (eB 8 (fun _ => false))) (r := (eB 8 (ups a0_0 (Int.toNat a1) true))) [] rfl (by simp [eI_len, eB_len])) (len_tail (E := (eB 8 (ups a0_0 (Int.toNat a1) true))) [] eB_len (by rfl)) (one_tail (E := (eB 8 (ups a0_0 (Int.toNat a1) true))) [] (by rfl) eB_one) hfl (fun h9 st => ?_)
  refine r_nil ?_; refine th_n ?_; refine w_ret ?_; obtain rfl := inj hF
  exact end_s st (Res.c gA (st.at (i := 1) rfl).2.2 (show takeN _ _ = some (eB 8 (ups a0_0 (Int.toNat a1) true)) from (tk_tail (E := (eB 8 (ups a0_0 (Int.toNat a1) true))) [] [] rfl eB_len rfl)) Res.nil) rfl rfl
theorem ct77 (N : Nat) {a0 : Int} {a1 : (List Int)} {r : Int} (hF : sf77 N a0 a1 = some r) {fl : Nat} {h0 : Tr HBlk} {n0 : Nat} {F0 : PH} (hd : D h0 n0) (hs : F0.sub h0) {pa1 : Option (Nat × Nat)} {ca1 : Nat} (ra1 : RowF rI 1 F0 pa1 ca1 a1) : C LWA fl 77 [(i64 a0), (.slice pa1 (a1).length ca1)] ⟨h0, n0⟩ (KS (i64 r) n0 h0) := by
  unfold sf77 at hF
  refine in_cT hd hs la77 rfl rfl (by rfl) (fun st T hT => ?_)
  have hfl : n0 ≤ n0 := Nat.le_refl n0
  have t0 := hT 0 _ rfl
  have t1 := hT 1 _ rfl
  dsimp only [L77]
  refine w_seq ?_; refine w_reg ?_; refine v_move ?_; refine r_nil ?_; refine th_n ?_; refine w_seq ?_; refine w_seq ?_; refine w_reg ?_; refine v_move ?_; refine v_len ?_; refine v_move ?_; refine r_nil ?_; refine th_n ?_; refine w_block ?_; obtain ⟨y8, hy, hF⟩ := bnd_some hF; refine v_loopD (sf77_L1 a1) (fun x1 T ds2 h nx => ∃ (F2 : PH), ds2 = [] ∧ PH.le F0 F2 ∧ St n0 h0 F0 F2 h nx [] ∧ T.get 0 = some (i64 x1.1) ∧ T.get 7 = some (.slice pa1 (a1).length ca1) ∧ T.get 8 = some (i64 ((a1).length : Int)) ∧ T.get 9 = some (i64 x1.2)) (fun y e a σ => e = .exit 0 ∧ a.nt = 19 ∧ ∃ (F9 : PH), a.defers = [] ∧ PH.le F0 F9 ∧ St n0 h0 F0 F9 σ.h σ.nx [] ∧ a.tmps.get 0 = some (i64 y)) (fun x1 T ds2 hc2 nc2 s hp hF => ?_) N _ y8 _ _ _ _ hy ⟨F0, rfl, (PH.le.refl _), st, gA, gA, gA, gA⟩ (fun e a σ hne hq => ?_)
  · obtain ⟨F2, rfl, le2, st, t0, t7, t8, t9⟩ := hp; unfold sf77_L1 at hF; unfold L77w0; refine w_seq ?_; refine w_reg ?_; refine v_lss ?_; refine r_nil ?_; refine th_n ?_; refine w_seq ?_; refine v_cond (fun hb10 => ?_) (fun hb10 => ?_)
    · have hF := bif_t hb10 hF; refine w_skip ?_; refine th_n ?_; refine w_seq ?_; refine w_block ?_; refine w_seq ?_; refine w_reg ?_; obtain ⟨n11, x11, z11, l11, g11, hF⟩ := ix_some hF; obtain ⟨b11, o11, s11, j11, r11, e11, f11, k11, rfl⟩ := RowF.get ra1 g11; refine v_ixp e11 z11 l11 ?_; refine v_ld1 (st.sub _ _ (le2 _ _ f11)) (take_at (j := 0) k11 rfl) ?_; refine v_move ?_; refine r_nil ?_; refine th_n ?_; refine w_seq ?_; refine w_reg ?_; refine v_move ?_; refine v_move ?_; refine v_gtr ?_; refine r_nil ?_; refine th_n ?_; refine v_cond (fun hb12 => ?_) (fun hb12 => ?_)
      · have hF := bif_t hb12 hF; refine w_reg ?_; refine v_move ?_; refine v_move ?_; refine r_nil ?_; refine ib_n ?_; refine th_n ?_; refine w_reg ?_; obtain ⟨q13, hF⟩ := ck_some hF; refine v_add q13 ?_; refine v_move ?_; refine r_nil ?_; refine thn ⟨_, (inj hF).symm, rfl, ?_⟩; dsimp only
        exact ⟨F2, rfl, le2, st, gA, gA, gA, gA⟩
      · have hF := bif_f hb12 hF; refine w_skip ?_; refine ib_n ?_; refine th_n ?_; refine w_reg ?_; obtain ⟨q14, hF⟩ := ck_some hF; refine v_add q14 ?_; refine v_move ?_; refine r_nil ?_; refine thn ⟨_, (inj hF).symm, rfl, ?_⟩; dsimp only
        exact ⟨F2, rfl, le2, st, gA, gA, gA, gA⟩
    · have hF := bif_f hb10 hF; refine w_exit ?_; refine th_e ?_; refine th_e ?_; refine ⟨_, (inj hF).symm, rfl, rfl, ?_⟩; dsimp only
      exact ⟨F2, rfl, le2, st, gA⟩
  · obtain ⟨N9, T, ds9⟩ := a; obtain ⟨h15, n16⟩ := σ; obtain ⟨rfl, e1, F9, e2, le9, st, t0⟩ := hq
    dsimp only at e1 e2
    subst e1
    subst e2
    dsimp only at st t0
    refine ib_e ?_; refine th_n ?_; refine w_seq ?_; refine w_reg ?_; refine v_move ?_; refine v_move ?_; refine r_nil ?_; refine th_n ?_; refine w_ret ?_; obtain rfl := inj hF
    exact end_s st (Res.t gA Res.nil) rfl rfl
theorem ct74 (N : Nat) {a0_0 : Int} {a0_1 : Int} {a0_2 : (List (Int × Int × Int × Int × Int))} {a1_0 : (Nat → Bool)} {r : (Nat → Int)} (hF : sf74 N a0_0 a0_1 a0_2 a1_0 = some r) {fl : Nat} {h0 : Tr HBlk} {n0 : Nat} {F0 : PH} (hd : D h0 n0) (hs : F0.sub h0) {pa0_2 : Option (Nat × Nat)} {ca0_2 : Nat} (ra0_2 : RowF (rP rI (rP rI (rP rI (rP rI rI)))) 5 F0 pa0_2 ca0_2 a0_2) : C LWA fl 74 [(.agg [(i64 a0_0), (i64 a0_1), (.slice pa0_2 (a0_2).length ca0_2)]), (.agg (eB 8 a1_0))] ⟨h0, n0⟩ (KS (.agg (eI .i64 6 r)) n0 h0) := by
  unfold sf74 at hF
  refine in_cT hd hs la74 rfl rfl (by rfl) (fun st T hT => ?_)
  have hfl : n0 ≤ n0 := Nat.le_refl n0
  have t0 := hT 0 _ rfl
  have t1 := hT 1 _ rfl
  dsimp only [L74]
  refine w_seq ?_; refine w_reg ?_; refine v_box st (fun b1 h2 n3 st => ?_); refine v_box st (fun b4 h5 n6 st => ?_); refine v_alloc st (fun b7 h8 n9 st => ?_)
  have st := st.cells 2 rfl (eI .i64 6 (fun _ => 0)) rfl
  refine r_nil ?_; refine th_n ?_; refine w_seq ?_; refine w_reg ?_; refine v_fa ?_; refine v_ld1 (st.at (i := 0) rfl).2.2 rfl ?_; refine v_build (cs := (eI .i64 6 (ups (fun _ => 0) 0 a0_1))) rfl ?_; refine v_alloc st (fun b10 h11 n12 st => ?_)
  have st := st.cells 3 rfl (eI .i64 6 (fun _ => 0)) rfl
  refine v_st (v := (.agg (eI .i64 6 (ups (fun _ => 0) 0 a0_1)))) (cs' := (eI .i64 6 (ups (fun _ => 0) 0 a0_1))) st 3 rfl (ov_tail (q := (eI .i64 6 (fun _ => 0))) (r := (eI .i64 6 (ups (fun _ => 0) 0 a0_1))) [] rfl (by simp [eI_len, eB_len])) (len_tail (E := (eI .i64 6 (ups (fun _ => 0) 0 a0_1))) [] eI_len (by rfl)) (one_tail (E := (eI .i64 6 (ups (fun _ => 0) 0 a0_1))) [] (by rfl) eI_one) hfl (fun h13 st => ?_)
  refine r_nil ?_; refine th_n ?_; refine w_seq ?_; refine w_seq ?_; refine w_reg ?_; refine v_fa ?_; refine v_ld1 (st.at (i := 0) rfl).2.2 rfl ?_; refine v_len ?_; refine v_move ?_; refine r_nil ?_; refine th_n ?_; refine w_block ?_; obtain ⟨y36, hy, hF⟩ := bnd_some hF; refine v_loopD (sf74_L1 a0_2 a1_0) (fun x14 T ds15 h nx => ∃ (F15 : PH), ds15 = [] ∧ PH.le F0 F15 ∧ St n0 h0 F0 F15 h nx [.bx b1 [(i64 a0_0), (i64 a0_1), (.slice pa0_2 (a0_2).length ca0_2)], .bx b4 (eB 8 a1_0), .bx b7 (eI .i64 6 (fun _ => 0)), .bx b10 (eI .i64 6 x14.2)] ∧ T.get 3 = some (.ptr (some (b4, 0))) ∧ T.get 4 = some (.ptr (some (b7, 0))) ∧ T.get 5 = some (.ptr (some (b10, 0))) ∧ T.get 12 = some (.slice pa0_2 (a0_2).length ca0_2) ∧ T.get 13 = some (i64 ((a0_2).length : Int)) ∧ T.get 14 = some (i64 x14.1)) (fun y e a σ => e = .exit 0 ∧ a.nt = 40 ∧ ∃ (F37 : PH), a.defers = [] ∧ PH.le F0 F37 ∧ St n0 h0 F0 F37 σ.h σ.nx [.bx b1 [(i64 a0_0), (i64 a0_1), (.slice pa0_2 (a0_2).length ca0_2)], .bx b4 (eB 8 a1_0), .bx b7 (eI .i64 6 (fun _ => 0)), .bx b10 (eI .i64 6 y)] ∧ a.tmps.get 4 = some (.ptr (some (b7, 0))) ∧ a.tmps.get 5 = some (.ptr (some (b10, 0)))) (fun x14 T ds15 hc15 nc15 s hp hF => ?_) N _ y36 _ _ _ _ hy ⟨F0, rfl, (PH.le.refl _), st, gA, gA, gA, gA, gA, gA⟩ (fun e a σ hne hq => ?_)
  · obtain ⟨F15, rfl, le15, st, t3, t4, t5, t12, t13, t14⟩ := hp; unfold sf74_L1 at hF; unfold L74w0; refine w_seq ?_; refine w_reg ?_; refine v_lss ?_; refine r_nil ?_; refine th_n ?_; refine w_seq ?_; refine v_cond (fun hb38 => ?_) (fun hb38 => ?_)
    · have hF := bif_t hb38 hF; refine w_skip ?_; refine th_n ?_; refine w_seq ?_; refine w_block ?_; refine w_seq ?_; refine w_reg ?_; refine v_move ?_; obtain ⟨n39, x39, z39, l39, g39, hF⟩ := ix_some hF; obtain ⟨b39, o39, s39, j39, r39, e39, f39, k39, ⟨_, _, rfl, rfl, ⟨_, _, rfl, rfl, ⟨_, _, rfl, rfl, ⟨_, _, rfl, rfl, rfl⟩⟩⟩⟩⟩ := RowF.get ra0_2 g39; refine v_ixp e39 z39 l39 ?_; refine v_ldn (st.sub _ _ (le15 _ _ f39)) k39 ?_; refine v_alloc st (fun b40 h41 n42 st => ?_); refine v_move ?_; refine v_st (cs' := [(i64 x39.1), (i64 x39.2.1), (i64 x39.2.2.1), (i64 x39.2.2.2.1), (i64 x39.2.2.2.2)]) st 4 rfl rfl rfl rfl hfl (fun h43 st => ?_); refine r_nil ?_; refine th_n ?_; refine w_seq ?_; refine w_reg ?_
      refine v_move ?_; obtain ⟨q44, hF⟩ := ck_some hF
      refine v_ixa (j := (Int.toNat x14.1)) (Int.toNat_of_nonneg q44.1).symm (by omega) ?_
      refine v_ld1 (o := (0 + (Int.toNat x14.1) * 1)) (st.at (i := 1) rfl).2.2 (ar_get0B (ix := (Int.toNat x14.1)) (by omega) (by omega)) ?_
      refine r_nil ?_; refine th_n ?_; refine v_cond (fun hb45 => ?_) (fun hb45 => ?_)
      · have hF := bif_t hb45 hF; refine w_seq ?_; refine w_drawV (Nat.le_trans hfl st.ext.le) (fun dw => ?_); refine y_end st.d dw rfl (fun h46 ex vs => ?_)
        have st := st.ext1 ex
        refine v_fa ?_; refine v_ld1 (st.at (i := 4) rfl).2.2 rfl ?_; obtain ⟨q47, hF⟩ := ck_some hF
        refine v_ixa (j := (Int.toNat x39.1)) (Int.toNat_of_nonneg q47.1).symm (by omega) ?_
        refine v_ld1 (o := (0 + (Int.toNat x39.1) * 1)) (st.at (i := 3) rfl).2.2 (ar_get0 (ix := (Int.toNat x39.1)) (by omega) (by omega)) ?_
        refine v_fa ?_; refine v_ld1 (st.at (i := 4) rfl).2.2 rfl ?_; obtain ⟨q48, hF⟩ := ck_some hF; refine v_sub q48 ?_; obtain ⟨q49, hF⟩ := ck_some hF
        refine v_ixa (j := (Int.toNat x39.1)) (Int.toNat_of_nonneg q49.1).symm (by omega) ?_
        refine v_st (o := (0 + (Int.toNat x39.1) * 1)) (v := (i64 ((x14.2 (Int.toNat x39.1)) - x39.2.2.1))) (cs' := (eI .i64 6 (ups x14.2 (Int.toNat x39.1) ((x14.2 (Int.toNat x39.1)) - x39.2.2.1)))) st 3 rfl (ar_set0 (ix := (Int.toNat x39.1)) (by omega) (by omega)) rfl rfl hfl (fun h50 st => ?_)
        refine r_nil ?_; refine th_n ?_; refine w_drawV (Nat.le_trans hfl st.ext.le) (fun dw => ?_); refine y_end st.d dw rfl (fun h51 ex vs => ?_)
        have st := st.ext1 ex
        refine v_fa ?_; refine v_ld1 (st.at (i := 4) rfl).2.2 rfl ?_; obtain ⟨q52, hF⟩ := ck_some hF
        refine v_ixa (j := (Int.toNat x39.2.1)) (Int.toNat_of_nonneg q52.1).symm (by omega) ?_
        refine v_ld1 (o := (0 + (Int.toNat x39.2.1) * 1)) (st.at (i := 3) rfl).2.2 (ar_get0 (ix := (Int.toNat x39.2.1)) (by omega) (by omega)) ?_
        refine v_fa ?_; refine v_ld1 (st.at (i := 4) rfl).2.2 rfl ?_; obtain ⟨q53, hF⟩ := ck_some hF; refine v_add q53 ?_; obtain ⟨q54, hF⟩ := ck_some hF
        refine v_ixa (j := (Int.toNat x39.2.1)) (Int.toNat_of_nonneg q54.1).symm (by omega) ?_
        refine v_st (o := (0 + (Int.toNat x39.2.1) * 1)) (v := (i64 (((ups x14.2 (Int.toNat x39.1) ((x14.2 (Int.toNat x39.1)) - x39.2.2.1)) (Int.toNat x39.2.1)) + x39.2.2.1))) (cs' := (eI .i64 6 (ups (ups x14.2 (Int.toNat x39.1) ((x14.2 (Int.toNat x39.1)) - x39.2.2.1)) (Int.toNat x39.2.1) (((ups x14.2 (Int.toNat x39.1) ((x14.2 (Int.toNat x39.1)) - x39.2.2.1)) (Int.toNat x39.2.1)) + x39.2.2.1)))) st 3 rfl (ar_set0 (ix := (Int.toNat x39.2.1)) (by omega) (by omega)) rfl rfl hfl (fun h55 st => ?_)
        refine r_nil ?_; refine ib_n ?_; refine th_n ?_; refine w_reg ?_; obtain ⟨q56, hF⟩ := ck_some hF; refine v_add q56 ?_; refine v_move ?_; refine r_nil ?_; refine thn ⟨_, (inj hF).symm, rfl, ?_⟩; dsimp only
        exact ⟨F15, rfl, le15, (st.drop (by first | exact List.Sublist.refl _ | (repeat first | exact List.nil_sublist _ | refine List.Sublist.cons_cons _ ?_ | refine List.Sublist.cons _ ?_))), gA, gA, gA, gA, gA, gA⟩
      · have hF := bif_f hb45 hF; refine w_skip ?_; refine ib_n ?_; refine th_n ?_; refine w_reg ?_; obtain ⟨q57, hF⟩ := ck_some hF; refine v_add q57 ?_; refine v_move ?_; refine r_nil ?_; refine thn ⟨_, (inj hF).symm, rfl, ?_⟩; dsimp only
        exact ⟨F15, rfl, le15, (st.drop (by first | exact List.Sublist.refl _ | (repeat first | exact List.nil_sublist _ | refine List.Sublist.cons_cons _ ?_ | refine List.Sublist.cons _ ?_))), gA, gA, gA, gA, gA, gA⟩
    · have hF := bif_f hb38 hF; refine w_exit ?_; refine th_e ?_; refine th_e ?_; refine ⟨_, (inj hF).symm, rfl, rfl, ?_⟩; dsimp only
      exact ⟨F15, rfl, le15, st, gA, gA⟩
  · obtain ⟨N9, T, ds37⟩ := a; obtain ⟨h58, n59⟩ := σ; obtain ⟨rfl, e1, F37, e2, le37, st, t4, t5⟩ := hq
    dsimp only at e1 e2
    subst e1
    subst e2
    dsimp only at st t4 t5
    refine ib_e ?_; refine th_n ?_; refine w_seq ?_; refine w_reg ?_; refine v_ldn (vs := (eI .i64 6 y36)) (st.at (i := 3) rfl).2.2 (tk_tail (E := (eI .i64 6 y36)) [] [] rfl eI_len rfl) ?_
    refine v_st (v := (.agg (eI .i64 6 y36))) (cs' := (eI .i64 6 y36)) st 2 rfl (ov_tail (q := (eI .i64 6 (fun _ => 0))) (r := (eI .i64 6 y36)) [] rfl (by simp [eI_len, eB_len])) (len_tail (E := (eI .i64 6 y36)) [] eI_len (by rfl)) (one_tail (E := (eI .i64 6 y36)) [] (by rfl) eI_one) hfl (fun h60 st => ?_)
    refine r_nil ?_; refine th_n ?_; refine w_ret ?_; obtain rfl := inj hF
    exact end_s st (Res.c gA (st.at (i := 2) rfl).2.2 (show takeN _ _ = some (eI .i64 6 y36) from (tk_tail (E := (eI .i64 6 y36)) [] [] rfl eI_len rfl)) Res.nil) rfl rfl
theorem ct81 (N : Nat) {a0 : Int} {a1 : (List Int)} {r : Int} (hF : sf81 N a0 a1 = some r) {fl : Nat} {h0 : Tr HBlk} {n0 : Nat} {F0 : PH} (hd : D h0 n0) (hs : F0.sub h0) {pa1 : Option (Nat × Nat)} {ca1 : Nat} (ra1 : RowF rI 1 F0 pa1 ca1 a1) : C LWA fl 81 [(i64 a0), (.slice pa1 (a1).length ca1)] ⟨h0, n0⟩ (KS (i64 r) n0 h0) := by
  unfold sf81 at hF
  refine in_cT hd hs la81 rfl rfl (by rfl) (fun st T hT => ?_)
  have hfl : n0 ≤ n0 := Nat.le_refl n0
  have t0 := hT 0 _ rfl
  have t1 := hT 1 _ rfl
  dsimp only [L81]
  refine w_seq ?_; refine w_reg ?_; refine v_move ?_; refine r_nil ?_; refine th_n ?_; refine w_seq ?_; refine w_seq ?_; refine w_reg ?_; refine v_move ?_; refine v_len ?_; refine v_move ?_; refine r_nil ?_; refine th_n ?_; refine w_block ?_; obtain ⟨y8, hy, hF⟩ := bnd_some hF; refine v_loopD (sf81_L1 a1) (fun x1 T ds2 h nx => ∃ (F2 : PH), ds2 = [] ∧ PH.le F0 F2 ∧ St n0 h0 F0 F2 h nx [] ∧ T.get 0 = some (i64 x1.1) ∧ T.get 7 = some (.slice pa1 (a1).length ca1) ∧ T.get 8 = some (i64 ((a1).length : Int)) ∧ T.get 9 = some (i64 x1.2)) (fun y e a σ => e = .exit 0 ∧ a.nt = 19 ∧ ∃ (F9 : PH), a.defers = [] ∧ PH.le F0 F9 ∧ St n0 h0 F0 F9 σ.h σ.nx [] ∧ a.tmps.get 0 = some (i64 y)) (fun x1 T ds2 hc2 nc2 s hp hF => ?_) N _ y8 _ _ _ _ hy ⟨F0, rfl, (PH.le.refl _), st, gA, gA, gA, gA⟩ (fun e a σ hne hq => ?_)
  · obtain ⟨F2, rfl, le2, st, t0, t7, t8, t9⟩ := hp; unfold sf81_L1 at hF; unfold L81w0; refine w_seq ?_; refine w_reg ?_; refine v_lss ?_; refine r_nil ?_; refine th_n ?_; refine w_seq ?_; refine v_cond (fun hb10 => ?_) (fun hb10 => ?_)
    · have hF := bif_t hb10 hF; refine w_skip ?_; refine th_n ?_; refine w_seq ?_; refine w_block ?_; refine w_seq ?_; refine w_reg ?_; obtain ⟨n11, x11, z11, l11, g11, hF⟩ := ix_some hF; obtain ⟨b11, o11, s11, j11, r11, e11, f11, k11, rfl⟩ := RowF.get ra1 g11; refine v_ixp e11 z11 l11 ?_; refine v_ld1 (st.sub _ _ (le2 _ _ f11)) (take_at (j := 0) k11 rfl) ?_; refine v_move ?_; refine r_nil ?_; refine th_n ?_; refine w_seq ?_; refine w_reg ?_; refine v_move ?_; refine v_move ?_; refine v_lss ?_; refine r_nil ?_; refine th_n ?_; refine v_cond (fun hb12 => ?_) (fun hb12 => ?_)
      · have hF := bif_t hb12 hF; refine w_reg ?_; refine v_move ?_; refine v_move ?_; refine r_nil ?_; refine ib_n ?_; refine th_n ?_; refine w_reg ?_; obtain ⟨q13, hF⟩ := ck_some hF; refine v_add q13 ?_; refine v_move ?_; refine r_nil ?_; refine thn ⟨_, (inj hF).symm, rfl, ?_⟩; dsimp only
        exact ⟨F2, rfl, le2, st, gA, gA, gA, gA⟩
      · have hF := bif_f hb12 hF; refine w_skip ?_; refine ib_n ?_; refine th_n ?_; refine w_reg ?_; obtain ⟨q14, hF⟩ := ck_some hF; refine v_add q14 ?_; refine v_move ?_; refine r_nil ?_; refine thn ⟨_, (inj hF).symm, rfl, ?_⟩; dsimp only
        exact ⟨F2, rfl, le2, st, gA, gA, gA, gA⟩
    · have hF := bif_f hb10 hF; refine w_exit ?_; refine th_e ?_; refine th_e ?_; refine ⟨_, (inj hF).symm, rfl, rfl, ?_⟩; dsimp only
      exact ⟨F2, rfl, le2, st, gA⟩
  · obtain ⟨N9, T, ds9⟩ := a; obtain ⟨h15, n16⟩ := σ; obtain ⟨rfl, e1, F9, e2, le9, st, t0⟩ := hq
    dsimp only at e1 e2
    subst e1
    subst e2
    dsimp only at st t0
    refine ib_e ?_; refine th_n ?_; refine w_seq ?_; refine w_reg ?_; refine v_move ?_; refine v_move ?_; refine r_nil ?_; refine th_n ?_; refine w_ret ?_; obtain rfl := inj hF
    exact end_s st (Res.t gA Res.nil) rfl rfl
theorem ct69 (N : Nat) {a0_0 : Int} {a0_1 : Int} {r : Bool} (hF : sf69 N a0_0 a0_1 = some r) {fl : Nat} {h0 : Tr HBlk} {n0 : Nat} {F0 : PH} (hd : D h0 n0) (hs : F0.sub h0) : C LWA fl 69 [(.agg [(i64 a0_0), (i64 a0_1)])] ⟨h0, n0⟩ (KS (.bool r) n0 h0) := by
  unfold sf69 at hF
  refine in_cT hd hs la69 rfl rfl (by rfl) (fun st T hT => ?_)
  have hfl : n0 ≤ n0 := Nat.le_refl n0
  have t0 := hT 0 _ rfl
  dsimp only [L69]
  refine w_seq ?_; refine w_reg ?_; refine v_box st (fun b1 h2 n3 st => ?_); refine v_move ?_; refine r_nil ?_; refine th_n ?_; refine w_seq ?_; refine w_reg ?_; refine v_fa ?_; refine v_ld1 (st.at (i := 0) rfl).2.2 rfl ?_; refine v_fa ?_; refine v_ld1 (st.at (i := 0) rfl).2.2 rfl ?_; refine v_leq ?_; refine v_move ?_; refine r_nil ?_; refine th_n ?_; refine w_ret ?_; obtain rfl := inj hF
  exact end_s st (Res.t gA Res.nil) rfl rfl
theorem ct89 (N : Nat) {a0_0 : Int} {a0_1 : Int} {r : Int} (hF : sf89 N a0_0 a0_1 = some r) {fl : Nat} {h0 : Tr HBlk} {n0 : Nat} {F0 : PH} (hd : D h0 n0) (hs : F0.sub h0) : C LWA fl 89 [(.agg [(i64 a0_0), (i64 a0_1)])] ⟨h0, n0⟩ (KS (i64 r) n0 h0) := by
  unfold sf89 at hF
  refine in_cT hd hs la89 rfl rfl (by rfl) (fun st T hT => ?_)
  have hfl : n0 ≤ n0 := Nat.le_refl n0
  have t0 := hT 0 _ rfl
  dsimp only [L89]
  refine w_seq ?_; refine w_reg ?_; refine v_box st (fun b1 h2 n3 st => ?_); refine v_move ?_; refine r_nil ?_; refine th_n ?_; refine w_seq ?_; refine w_reg ?_; refine v_fa ?_; refine v_ld1 (st.at (i := 0) rfl).2.2 rfl ?_; refine v_move ?_; refine r_nil ?_; refine th_n ?_; refine w_ret ?_; obtain rfl := inj hF
  exact end_s st (Res.t gA Res.nil) rfl rfl
theorem ct90 (N : Nat) {a0_0 : Int} {a0_1 : Int} {r : Int} (hF : sf90 N a0_0 a0_1 = some r) {fl : Nat} {h0 : Tr HBlk} {n0 : Nat} {F0 : PH} (hd : D h0 n0) (hs : F0.sub h0) : C LWA fl 90 [(.agg [(i64 a0_0), (i64 a0_1)])] ⟨h0, n0⟩ (KS (i64 r) n0 h0) := by
  unfold sf90 at hF
  refine in_cT hd hs la90 rfl rfl (by rfl) (fun st T hT => ?_)
  have hfl : n0 ≤ n0 := Nat.le_refl n0
  have t0 := hT 0 _ rfl
  dsimp only [L90]
  refine w_seq ?_; refine w_reg ?_; refine v_box st (fun b1 h2 n3 st => ?_); refine v_move ?_; refine r_nil ?_; refine th_n ?_; refine w_seq ?_; refine w_reg ?_; refine v_fa ?_; refine v_ld1 (st.at (i := 0) rfl).2.2 rfl ?_; refine v_move ?_; refine r_nil ?_; refine th_n ?_; refine w_ret ?_; obtain rfl := inj hF
  exact end_s st (Res.t gA Res.nil) rfl rfl
end Go.Hx.V.A

/- Functions of the program come to that. -/
namespace Go.Hx.V.A
open Go.Hx
set_option linter.unusedVariables false
set_option maxRecDepth 20000
set_option maxHeartbeats 4000000
attribute [local irreducible] W R C thenH inBlockH Tr.get Tr.set lo ck bnd ix iter
theorem ct64 (N : Nat) {a0_0 : Int} {a0_1 : Int} {a0_2 : (List (Int × Int × Int × Int × Int))} {a1_0 : (Nat → Bool)} {a1_1 : Int} {a2 : Int} {r : ((Nat → Bool) × Int × Bool)} (hF : sf64 N a0_0 a0_1 a0_2 a1_0 a1_1 a2 = some r) {fl : Nat} {h0 : Tr HBlk} {n0 : Nat} {F0 : PH} (hd : D h0 n0) (hs : F0.sub h0) {pa0_2 : Option (Nat × Nat)} {ca0_2 : Nat} (ra0_2 : RowF (rP rI (rP rI (rP rI (rP rI rI)))) 5 F0 pa0_2 ca0_2 a0_2) : C LWA fl 64 [(.agg [(i64 a0_0), (i64 a0_1), (.slice pa0_2 (a0_2).length ca0_2)]), (.agg ((eB 8 a1_0) ++ [(i64 a1_1)])), (i64 a2)] ⟨h0, n0⟩ (KS (.tuple [(.agg ((eB 8 r.1) ++ [(i64 r.2.1)])), (.bool r.2.2)]) n0 h0) := by
  unfold sf64 at hF
  refine in_cT hd hs la64 rfl rfl (by rfl) (fun st T hT => ?_)
  have hfl : n0 ≤ n0 := Nat.le_refl n0
  have t0 := hT 0 _ rfl
  have t1 := hT 1 _ rfl
  have t2 := hT 2 _ rfl
  dsimp only [L64]
  refine w_seq ?_; refine w_reg ?_; refine v_box st (fun b1 h2 n3 st => ?_); refine v_box st (fun b4 h5 n6 st => ?_); refine v_alloc st (fun b7 h8 n9 st => ?_)
  have st := st.cells 2 rfl ((eB 8 (fun _ => false)) ++ [(i64 (0 : Int))]) rfl
  refine v_move ?_; refine r_nil ?_; refine th_n ?_; refine w_seq ?_; refine w_reg ?_; refine v_fa ?_; refine v_ld1 (st.at (i := 0) rfl).2.2 rfl ?_; refine v_move ?_; obtain ⟨n10, x10, z10, l10, g10, hF⟩ := ix_some hF; obtain ⟨b10, o10, s10, j10, r10, e10, f10, k10, ⟨_, _, rfl, rfl, ⟨_, _, rfl, rfl, ⟨_, _, rfl, rfl, ⟨_, _, rfl, rfl, rfl⟩⟩⟩⟩⟩ := RowF.get ra0_2 g10; refine v_ixp e10 z10 l10 ?_; refine v_ldn (st.sub _ _ f10) k10 ?_; refine v_alloc st (fun b11 h12 n13 st => ?_); refine v_st (cs' := [(i64 x10.1), (i64 x10.2.1), (i64 x10.2.2.1), (i64 x10.2.2.2.1), (i64 x10.2.2.2.2)]) st 3 rfl rfl rfl rfl hfl (fun h14 st => ?_); refine r_nil ?_; refine th_n ?_; refine w_seq ?_; refine w_drawV (Nat.le_trans hfl st.ext.le) (fun dw => ?_)
  refine y_pure st.d dw (fun hm vw => v_fa pr_nil) ?_; refine y_pure st.d dw (fun hm vw => v_ldn (vs := (eB 8 a1_0)) (vw.bx (st.at (i := 1) rfl)) rfl pr_nil) ?_; refine y_pure st.d dw (fun hm vw => v_move pr_nil) ?_; obtain ⟨v15, e16, hF⟩ := bnd_some hF; refine y_flat st.d dw (fun hm vw => u_call (ct76 N e16 vw.d (vw.sub st) ) (fun n' hn' => pf_nil hn')) (fun n17 hn' dw => ?_); refine y_pure st.d dw (fun hm vw => v_fa pr_nil) ?_; refine y_pure st.d dw (fun hm vw => v_ld1 (vw.bx (st.at (i := 1) rfl)) rfl pr_nil) ?_; refine y_pure st.d dw (fun hm vw => v_fa pr_nil) ?_; refine y_pure st.d dw (fun hm vw => v_fa pr_nil) ?_; refine y_pure st.d dw (fun hm vw => v_ld1 (vw.bx (st.at (i := 3) rfl)) rfl pr_nil) ?_
  refine y_lay st.d dw (fun hm vw => u_bs (cs := [(i64 x10.2.2.2.1)]) rfl pr_nil) (fun done dw => ?_); obtain ⟨v18, e19, hF⟩ := bnd_some hF; refine y_flat st.d dw (fun hm vw => u_call (ct77 N e19 vw.d (all_sub _) (RowF.blk (F := F0) (vw.vis _ (List.mem_cons_self ..) rfl _ _ (if_pos rfl)) (show LR rI 1 F0 [x10.2.2.2.1] [(i64 x10.2.2.2.1)] from (LR.cons1 (x := x10.2.2.2.1) (r := [(i64 x10.2.2.2.1)]) (l := []) (cs := []) (rfl) LR.nil)) (vw.sub st))) (fun n' hn' => pf_nil hn')) (fun n20 hn' dw => ?_); refine y_pure st.d dw (fun hm vw => v_build (cs := ((eB 8 v15) ++ [(i64 v18)])) rfl pr_nil) ?_; refine y_lay st.d dw (fun hm vw => u_alloc pr_nil) (fun done dw => ?_); refine y_end st.d dw rfl (fun h21 ex vs => ?_)
  have st := St.laid st ex (Lay.cons (b := n17) (cs := [(i64 x10.2.2.2.1)]) (by have := dw.le; omega) (vs _ (List.mem_cons_of_mem _ (List.mem_cons_self ..)) _ _ (if_pos rfl)) (Lay.cons (b := n20) (cs := ((eB 8 (fun _ => false)) ++ [(i64 (0 : Int))])) (by have := dw.le; omega) (vs _ (List.mem_cons_self ..) _ _ (if_pos rfl)) (Lay.nil (by have := dw.le; omega))))
  refine v_st (v := (.agg ((eB 8 v15) ++ [(i64 v18)]))) (cs' := ((eB 8 v15) ++ [(i64 v18)])) st 5 rfl rfl rfl rfl hfl (fun h22 st => ?_); refine r_nil ?_; refine th_n ?_; obtain ⟨y32, hA33, hF⟩ := bnd_some hF; refine w_cutD (fun T ds35 h nx => ∃ (F35 : PH), ds35 = [] ∧ PH.le F0 F35 ∧ St n0 h0 F0 F35 h nx [.bx b1 [(i64 a0_0), (i64 a0_1), (.slice pa0_2 (a0_2).length ca0_2)], .bx b4 ((eB 8 a1_0) ++ [(i64 a1_1)]), .bx b7 ((eB 8 (fun _ => false)) ++ [(i64 (0 : Int))]), .bx b11 [(i64 x10.1), (i64 x10.2.1), (i64 x10.2.2.1), (i64 x10.2.2.2.1), (i64 x10.2.2.2.2)], .bx n17 [(i64 x10.2.2.2.1)], .bx n20 ((eB 8 v15) ++ [(i64 v18)])] ∧ T.get 6 = some (.ptr (some (b7, 0))) ∧ T.get 9 = some (.ptr (some (n20, 0))) ∧ T.get 10 = some (.bool y32)) ?_ (fun T ds35 hc35 nc35 hp => ?_)
  · have hK34 := hF
    have hF := hA33; refine w_drawV (Nat.le_trans hfl st.ext.le) (fun dw => ?_); refine y_pure st.d dw (fun hm vw => v_move pr_nil) ?_; refine y_pure st.d dw (fun hm vw => v_fa pr_nil) ?_; obtain ⟨q36, hF⟩ := ck_some hF
    refine y_pure st.d dw (fun hm vw => v_ixa (j := (Int.toNat a2)) (Int.toNat_of_nonneg q36.1).symm (by omega) pr_nil) ?_
    refine y_pure st.d dw (fun hm vw => v_ld1 (o := (0 + (Int.toNat a2) * 1)) (vw.bx (st.at (i := 1) rfl)) (V.ar_getM0B [(i64 a1_1)] (off := (0 + (Int.toNat a2) * 1)) (ix := (Int.toNat a2)) (by omega) (by omega)) pr_nil) ?_
    refine y_pure st.d dw (fun hm vw => v_not pr_nil) ?_; refine y_pure st.d dw (fun hm vw => v_move pr_nil) ?_
    rcases Bool.eq_false_or_eq_true (!(a1_0 (Int.toNat a2))) with hb37 | hb37
    · have hF := bif_t hb37 hF; refine y_pure st.d dw (fun hm vw => g_take hb37 (v_fa pr_nil)) ?_; refine y_pure st.d dw (fun hm vw => g_take hb37 (v_ld1 (vw.bx (st.at (i := 3) rfl)) rfl pr_nil)) ?_; refine y_pure st.d dw (fun hm vw => g_take hb37 (v_ldn (vs := [(i64 a0_0), (i64 a0_1), (.slice pa0_2 (a0_2).length ca0_2)]) (vw.bx (st.at (i := 0) rfl)) rfl pr_nil)) ?_; refine y_pure st.d dw (fun hm vw => g_take hb37 (v_fa pr_nil)) ?_; refine y_pure st.d dw (fun hm vw => g_take hb37 (v_ldn (vs := (eB 8 a1_0)) (vw.bx (st.at (i := 1) rfl)) rfl pr_nil)) ?_; obtain ⟨v38, e39, hF⟩ := bnd_some hF; refine y_flat st.d dw (fun hm vw => g_take hb37 (u_call (ct74 N e39 vw.d (vw.sub st) ra0_2) (fun n' hn' => pf_nil hn'))) (fun n40 hn' dw => ?_)
      refine y_pure st.d dw (fun hm vw => g_take hb37 (v_fa pr_nil)) ?_; refine y_pure st.d dw (fun hm vw => g_take hb37 (v_ld1 (vw.bx (st.at (i := 3) rfl)) rfl pr_nil)) ?_; refine y_end st.d dw rfl (fun h41 ex vs => ?_)
      have st := st.ext1 ex
      obtain ⟨q42, hF⟩ := ck_some hF
      refine g_take hb37 (v_ixv (j := (Int.toNat x10.1)) (Int.toNat_of_nonneg q42.1) (by omega) (ar_get0 (n := 6) (off := (Int.toNat x10.1)) (ix := (Int.toNat x10.1)) rfl (by omega)) ?_)
      refine g_take hb37 (v_leq ?_); refine v_pick hb37 ?_; refine v_move ?_
      rcases Bool.eq_false_or_eq_true (decide (x10.2.2.1 ≤ (v38 (Int.toNat x10.1)))) with hb43 | hb43
      · have hF := bif_t hb43 hF; refine g_take hb43 (v_fa ?_); refine g_take hb43 (v_ld1 (st.at (i := 5) rfl).2.2 rfl ?_); refine g_take hb43 (v_fa ?_); refine g_take hb43 (v_fa ?_); refine g_take hb43 (v_ld1 (st.at (i := 3) rfl).2.2 rfl ?_); refine g_take hb43 (v_leq ?_); refine v_pick hb43 ?_; refine v_move ?_; refine r_nil ?_; obtain rfl := inj hF; refine thn ⟨rfl, ?_⟩; dsimp only
        exact ⟨F0, rfl, (PH.le.refl _), st, gA, gA, gA⟩
      · have hF := bif_f hb43 hF; refine g_skip hb43 ?_; refine g_skip hb43 ?_; refine g_skip hb43 ?_; refine g_skip hb43 ?_; refine g_skip hb43 ?_; refine g_skip hb43 ?_; refine v_pick' hb43 ?_; refine v_move ?_; refine r_nil ?_; obtain rfl := inj hF; refine thn ⟨rfl, ?_⟩; dsimp only
        exact ⟨F0, rfl, (PH.le.refl _), st, gA, gA, gA⟩
    · have hF := bif_f hb37 hF; refine y_pure st.d dw (fun hm vw => g_skip hb37 pr_nil) ?_; refine y_pure st.d dw (fun hm vw => g_skip hb37 pr_nil) ?_; refine y_pure st.d dw (fun hm vw => g_skip hb37 pr_nil) ?_; refine y_pure st.d dw (fun hm vw => g_skip hb37 pr_nil) ?_; refine y_pure st.d dw (fun hm vw => g_skip hb37 pr_nil) ?_; refine y_pure st.d dw (fun hm vw => g_skip hb37 pr_nil) ?_; refine y_pure st.d dw (fun hm vw => g_skip hb37 pr_nil) ?_; refine y_pure st.d dw (fun hm vw => g_skip hb37 pr_nil) ?_; refine y_end st.d dw rfl (fun h44 ex vs => ?_)
      have st := st.ext1 ex
      refine g_skip hb37 ?_; refine g_skip hb37 ?_; refine v_pick' hb37 ?_; refine v_move ?_; refine g_skip rfl ?_; refine g_skip rfl ?_; refine g_skip rfl ?_; refine g_skip rfl ?_; refine g_skip rfl ?_; refine g_skip rfl ?_; refine v_pick' rfl ?_; refine v_move ?_; refine r_nil ?_; obtain rfl := inj hF; refine thn ⟨rfl, ?_⟩; dsimp only
      exact ⟨F0, rfl, (PH.le.refl _), st, gA, gA, gA⟩
  · obtain ⟨F35, rfl, le35, st, t6, t9, t10⟩ := hp; refine w_seq ?_; refine w_reg ?_; refine v_ldn (vs := ((eB 8 v15) ++ [(i64 v18)])) (st.at (i := 5) rfl).2.2 rfl ?_; refine v_move ?_; refine v_st (v := (.agg ((eB 8 v15) ++ [(i64 v18)]))) (cs' := ((eB 8 v15) ++ [(i64 v18)])) st 2 rfl rfl rfl rfl hfl (fun h45 st => ?_); refine v_move ?_; refine r_nil ?_; refine th_n ?_; refine w_ret ?_; obtain rfl := inj hF
    exact end_s st (Res.c gA (st.at (i := 2) rfl).2.2 (show takeN _ _ = some ((eB 8 v15) ++ [(i64 v18)]) from rfl) (Res.t gA Res.nil)) rfl rfl
theorem ct68 (N : Nat) {a0_0 : Int} {a0_1 : Int} {a0_2 : (List (Int × Int × Int × Int × Int))} {a0_3 : ME} {a1 : Int} {a2_0 : (Nat → Bool)} {a2_1 : Int} {r : (Int × Int)} (hF : sf68 N a0_0 a0_1 a0_2 a0_3 a1 a2_0 a2_1 = some r) {fl : Nat} {h0 : Tr HBlk} {n0 : Nat} {F0 : PH} (hd : D h0 n0) (hs : F0.sub h0) {pa0_2 : Option (Nat × Nat)} {ca0_2 : Nat} {pa0_3 : Option Nat} (ra0_2 : RowF (rP rI (rP rI (rP rI (rP rI rI)))) 5 F0 pa0_2 ca0_2 a0_2) (ra0_3 : MapF F0 pa0_3 a0_3) : C LWA fl 68 [(.agg [(i64 a0_0), (i64 a0_1), (.slice pa0_2 (a0_2).length ca0_2), (.map pa0_3)]), (i64 a1), (.agg ((eB 8 a2_0) ++ [(i64 a2_1)]))] ⟨h0, n0⟩ (KS (.agg [(i64 r.1), (i64 r.2)]) n0 h0) := by
  unfold sf68 at hF
  refine in_cT hd hs la68 rfl rfl (by rfl) (fun st T hT => ?_)
  have hfl : n0 ≤ n0 := Nat.le_refl n0
  have t0 := hT 0 _ rfl
  have t1 := hT 1 _ rfl
  have t2 := hT 2 _ rfl
  dsimp only [L68]
  refine w_seq ?_; refine w_reg ?_; refine v_box st (fun b1 h2 n3 st => ?_); refine v_box st (fun b4 h5 n6 st => ?_); refine v_alloc st (fun b7 h8 n9 st => ?_); refine r_nil ?_; refine th_n ?_; refine w_seq ?_; refine w_drawV (Nat.le_trans hfl st.ext.le) (fun dw => ?_); refine y_pure st.d dw (fun hm vw => v_fa pr_nil) ?_; refine y_pure st.d dw (fun hm vw => v_ld1 (vw.bx (st.at (i := 1) rfl)) rfl pr_nil) ?_; refine y_pure st.d dw (fun hm vw => v_fa pr_nil) ?_; refine y_pure st.d dw (fun hm vw => v_ld1 (vw.bx (st.at (i := 0) rfl)) rfl pr_nil) ?_; refine y_pure st.d dw (fun hm vw => v_ldn (vs := ((eB 8 a2_0) ++ [(i64 a2_1)])) (vw.bx (st.at (i := 1) rfl)) rfl pr_nil) ?_; obtain ⟨y10, e11, hF⟩ := bnd_some hF
  obtain ⟨x12, e13, hF⟩ := bnd_some hF; refine y_pure st.d dw (fun hm vw => v_lkE1 (kv := (.agg ((eB 8 a2_0) ++ [(i64 a2_1)]))) (MapF.at (vw.sub st) ra0_3) e11 (dI_some e13) rfl pr_nil) ?_; refine y_pure st.d dw (fun hm vw => v_fa pr_nil) ?_; refine y_pure st.d dw (fun hm vw => v_fa pr_nil) ?_; refine y_pure st.d dw (fun hm vw => v_ld1 (vw.bx (st.at (i := 0) rfl)) rfl pr_nil) ?_; refine y_pure st.d dw (fun hm vw => v_move pr_nil) ?_; obtain ⟨n14, x14, z14, l14, g14, hF⟩ := ix_some hF; obtain ⟨b14, o14, s14, j14, r14, e14, f14, k14, ⟨_, _, rfl, rfl, ⟨_, _, rfl, rfl, ⟨_, _, rfl, rfl, ⟨_, _, rfl, rfl, rfl⟩⟩⟩⟩⟩ := RowF.get ra0_2 g14; refine y_pure st.d dw (fun hm vw => v_ixp e14 z14 l14 pr_nil) ?_
  refine y_pure st.d dw (fun hm vw => v_fa pr_nil) ?_; refine y_pure st.d dw (fun hm vw => v_fa pr_nil) ?_; refine y_pure st.d dw (fun hm vw => v_ld1 (vw.fz st f14) (take_at (j := 4) k14 rfl) pr_nil) ?_; refine y_lay st.d dw (fun hm vw => u_bs (cs := [(i64 x14.2.2.2.2)]) rfl pr_nil) (fun done dw => ?_); obtain ⟨v15, e16, hF⟩ := bnd_some hF; refine y_flat st.d dw (fun hm vw => u_call (ct81 N e16 vw.d (all_sub _) (RowF.blk (F := F0) (vw.vis _ (List.mem_cons_self ..) rfl _ _ (if_pos rfl)) (show LR rI 1 F0 [x14.2.2.2.2] [(i64 x14.2.2.2.2)] from (LR.cons1 (x := x14.2.2.2.2) (r := [(i64 x14.2.2.2.2)]) (l := []) (cs := []) (rfl) LR.nil)) (vw.sub st))) (fun n' hn' => pf_nil hn')) (fun n17 hn' dw => ?_)
  refine y_end st.d dw rfl (fun h18 ex vs => ?_)
  have st := St.laid st ex (Lay.cons (b := n9) (cs := [(i64 x14.2.2.2.2)]) (by have := dw.le; omega) (vs _ (List.mem_cons_self ..) _ _ (if_pos rfl)) (Lay.nil (by have := dw.le; omega)))
  refine v_build (cs := [(i64 a2_1), (i64 v15)]) rfl ?_; refine v_st (cs' := [(i64 a2_1), (i64 v15)]) st 2 rfl rfl rfl rfl hfl (fun h19 st => ?_); refine r_nil ?_; refine th_n ?_; refine w_ret ?_; obtain rfl := inj hF
  exact end_s st (Res.c gA (st.at (i := 2) rfl).2.2 (show takeN _ _ = some [(i64 a2_1), (i64 v15)] from rfl) Res.nil) rfl rfl
theorem ct87 (N : Nat) {a1 : (List (Int × Int))} {r : Int} (hF : sf87 N a1 = some r) {fl : Nat} {h0 : Tr HBlk} {n0 : Nat} {F0 : PH} (hd : D h0 n0) (hs : F0.sub h0) {pa1 : Option (Nat × Nat)} {ca1 : Nat} (ra1 : RowF (rP rI rI) 2 F0 pa1 ca1 a1) : C LWA fl 87 [(.agg [(.func 89 [] []), (.func 81 [] [])]), (.slice pa1 (a1).length ca1)] ⟨h0, n0⟩ (KS (i64 r) n0 h0) := by
  unfold sf87 at hF
  refine in_cT hd hs la87 rfl rfl (by rfl) (fun st T hT => ?_)
  have hfl : n0 ≤ n0 := Nat.le_refl n0
  have t0 := hT 0 _ rfl
  have t1 := hT 1 _ rfl
  dsimp only [L87]
  refine w_seq ?_; refine w_reg ?_; refine v_box st (fun b1 h2 n3 st => ?_); refine v_move ?_; refine r_nil ?_; refine th_n ?_; refine w_seq ?_; refine w_reg ?_; refine v_move ?_; refine v_len ?_; obtain ⟨q4, hF⟩ := ck_some hF
  have w4 : LR rI 1 F0 (List.replicate (Int.toNat (0 : Int)) (0 : Int)) (Go.Hx.repl (Int.toNat (0 : Int)) [(i64 (0 : Int))]) := LR.repl (rfl) _
  refine v_mk st (n := (List.replicate (Int.toNat (0 : Int)) (0 : Int)).length) q4.1 q4.2.1 (by simp) q4.2.2.1 q4.2.2.2 (fun o4 h4 n4 st => ?_)
  refine v_move ?_; refine r_nil ?_; refine th_n ?_; refine w_seq ?_; refine w_seq ?_; refine w_reg ?_; refine v_move ?_; refine v_len ?_; refine v_move ?_; refine r_nil ?_; refine th_n ?_; refine w_block ?_; obtain ⟨y39, hy, hF⟩ := bnd_some hF; refine v_loopD (sf87_L1 N a1) (fun x22 T ds23 h nx => ∃ (F23 : PH) (o24 : Option Nat) (c24 : Nat) (cs24 : List HV), ds23 = [] ∧ PH.le F0 F23 ∧ St n0 h0 F0 F23 h nx [.bx b1 [(.func 89 [] []), (.func 81 [] [])], .ls o24 c24 cs24 1] ∧ LR rI 1 F23 x22.1 cs24 ∧ T.get 2 = some (.ptr (some (b1, 0))) ∧ T.get 5 = some (slv o24 (x22.1).length c24) ∧ T.get 11 = some (.slice pa1 (a1).length ca1) ∧ T.get 12 = some (i64 ((a1).length : Int)) ∧ T.get 13 = some (i64 x22.2)) (fun y e a σ => e = .exit 0 ∧ a.nt = 33 ∧ ∃ (F40 : PH) (o41 : Option Nat) (c41 : Nat) (cs41 : List HV), a.defers = [] ∧ PH.le F0 F40 ∧ St n0 h0 F0 F40 σ.h σ.nx [.bx b1 [(.func 89 [] []), (.func 81 [] [])], .ls o41 c41 cs41 1] ∧ LR rI 1 F40 y cs41 ∧ a.tmps.get 2 = some (.ptr (some (b1, 0))) ∧ a.tmps.get 5 = some (slv o41 (y).length c41)) (fun x22 T ds23 hc23 nc23 s hp hF => ?_) N _ y39 _ _ _ _ hy ⟨F0, o4, (Int.toNat ((a1).length : Int)), (Go.Hx.repl (Int.toNat (0 : Int)) [(i64 (0 : Int))]), rfl, (PH.le.refl _), st, w4, gA, gA, gA, gA, gA⟩ (fun e a σ hne hq => ?_)
  · obtain ⟨F23, o24, c24, cs24, rfl, le23, st, w24, t2, t5, t11, t12, t13⟩ := hp; unfold sf87_L1 at hF; unfold L87w0; refine w_seq ?_; refine w_reg ?_; refine v_lss ?_; refine r_nil ?_; refine th_n ?_; refine w_seq ?_; refine v_cond (fun hb42 => ?_) (fun hb42 => ?_)
    · have hF := bif_t hb42 hF; refine w_skip ?_; refine th_n ?_; refine w_seq ?_; refine w_block ?_; refine w_seq ?_; refine w_reg ?_; obtain ⟨n43, x43, z43, l43, g43, hF⟩ := ix_some hF; obtain ⟨b43, o43, s43, j43, r43, e43, f43, k43, ⟨_, _, rfl, rfl, rfl⟩⟩ := RowF.get ra1 g43; refine v_ixp e43 z43 l43 ?_; refine v_ldn (st.sub _ _ (le23 _ _ f43)) k43 ?_; refine v_alloc st (fun b44 h45 n46 st => ?_); refine v_st (cs' := [(i64 x43.1), (i64 x43.2)]) st 2 rfl rfl rfl rfl hfl (fun h47 st => ?_); refine r_nil ?_; refine th_n ?_; refine w_reg ?_; refine v_move ?_; refine v_fa ?_; refine v_ld1 (st.at (i := 0) rfl).2.2 rfl ?_; refine v_ldn (vs := [(i64 x43.1), (i64 x43.2)]) (st.at (i := 2) rfl).2.2 rfl ?_
      obtain ⟨v48, e49, hF⟩ := bnd_some hF; refine v_call st (ct89 N e49 st.d st.sub ) (fun n50 st => ?_); refine v_bs (cs := [(i64 v48)]) st rfl (fun b51 h52 n53 st => ?_); obtain ⟨q54, hF⟩ := ck_some hF
      have w54 : LR rI 1 F23 (x22.1 ++ [v48]) (cs24 ++ [(i64 v48)]) := LR.app w24 (LR.one (rfl))
      refine v_aps (n := 1) (ox := 0) (m := (x22.1 ++ [v48]).length) (row := [(i64 v48)]) st 1 rfl w24.1 (st.at (i := 3) rfl).2.2 rfl rfl q54 hfl (by decide) (by decide) (by simp) (fun o54 c54 h54 n54 st => ?_)
      refine v_move ?_; refine r_nil ?_; refine ib_n ?_; refine th_n ?_; refine w_reg ?_; obtain ⟨q55, hF⟩ := ck_some hF; refine v_add q55 ?_; refine v_move ?_; refine r_nil ?_; refine thn ⟨_, (inj hF).symm, rfl, ?_⟩; dsimp only
      exact ⟨F23, o54, c54, (cs24 ++ [(i64 v48)]), rfl, le23, (st.drop (by first | exact List.Sublist.refl _ | (repeat first | exact List.nil_sublist _ | refine List.Sublist.cons_cons _ ?_ | refine List.Sublist.cons _ ?_))), w54, gA, gA, gA, gA, gA⟩
    · have hF := bif_f hb42 hF; refine w_exit ?_; refine th_e ?_; refine th_e ?_; refine ⟨_, (inj hF).symm, rfl, rfl, ?_⟩; dsimp only
      exact ⟨F23, o24, c24, cs24, rfl, le23, st, w24, gA, gA⟩
  · obtain ⟨N9, T, ds40⟩ := a; obtain ⟨h56, n57⟩ := σ; obtain ⟨rfl, e1, F40, o41, c41, cs41, e2, le40, st, w41, t2, t5⟩ := hq
    dsimp only at e1 e2
    subst e1
    subst e2
    dsimp only at st t2 t5
    refine ib_e ?_; refine th_n ?_; refine w_seq ?_
    obtain ⟨F58, le58, st, rf58⟩ := St.freeze st 1 rfl w41 (by decide)
    have le59 := PH.le.trans le40 le58
    refine w_drawV (Nat.le_trans hfl st.ext.le) (fun dw => ?_); refine y_pure st.d dw (fun hm vw => v_fa pr_nil) ?_; refine y_pure st.d dw (fun hm vw => v_ld1 (vw.bx (st.at (i := 0) rfl)) rfl pr_nil) ?_; refine y_pure st.d dw (fun hm vw => v_move pr_nil) ?_; obtain ⟨n60, x60, z60, l60, g60, hF⟩ := ix_some hF; obtain ⟨b60, o60, s60, j60, r60, e60, f60, k60, rfl⟩ := RowF.get rf58 g60; refine y_pure st.d dw (fun hm vw => v_ixp e60 z60 l60 pr_nil) ?_; refine y_pure st.d dw (fun hm vw => v_ld1 (vw.fz st f60) (take_at (j := 0) k60 rfl) pr_nil) ?_; refine y_pure st.d dw (fun hm vw => v_move pr_nil) ?_; obtain ⟨q61, hF⟩ := ck_some hF
    refine y_step st.d dw rfl rfl (fun hm vw => v_slf (m := ((y39.drop (Int.toNat (1 : Int))).take (y39.length - (Int.toNat (1 : Int)))).length) (Int.toNat (1 : Int)) y39.length rf58 (bd_some (by first | exact ev_c | (apply ev_t; repeat first | exact ge_h | refine ge_w rfl ?_ | refine ge_f rfl ?_ | refine ge_m rfl ?_ | assumption)) (Int.toNat_of_nonneg q61.1).symm) bd_none q61.2.2 (sl_len q61.2.2.2) (fun p61 c61 n62 hn' rs61 => r_nil (y_call dw hn' vw.d (fun dw => ?_))))
    refine y_end st.d dw rfl (fun h63 ex vs => ?_)
    have st := st.ext1 ex
    obtain ⟨v64, e65, hF⟩ := bnd_some hF; refine v_call st (ct81 N e65 st.d st.sub rs61) (fun n66 st => ?_); refine v_move ?_; refine r_nil ?_; refine th_n ?_; refine w_ret ?_; obtain rfl := inj hF
    exact end_s st (Res.t gA Res.nil) rfl rfl
end Go.Hx.V.A

/- Functions of the program come to that. -/
namespace Go.Hx.V.A
open Go.Hx
set_option linter.unusedVariables false
set_option maxRecDepth 20000
set_option maxHeartbeats 4000000
attribute [local irreducible] W R C thenH inBlockH Tr.get Tr.set lo ck bnd ix iter
theorem ct87_2 (N : Nat) {a1 : (List (Int × Int))} {r : Int} (hF : sf87_2 N a1 = some r) {fl : Nat} {h0 : Tr HBlk} {n0 : Nat} {F0 : PH} (hd : D h0 n0) (hs : F0.sub h0) {pa1 : Option (Nat × Nat)} {ca1 : Nat} (ra1 : RowF (rP rI rI) 2 F0 pa1 ca1 a1) : C LWA fl 87 [(.agg [(.func 90 [] []), (.func 77 [] [])]), (.slice pa1 (a1).length ca1)] ⟨h0, n0⟩ (KS (i64 r) n0 h0) := by
  unfold sf87_2 at hF
  refine in_cT hd hs la87 rfl rfl (by rfl) (fun st T hT => ?_)
  have hfl : n0 ≤ n0 := Nat.le_refl n0
  have t0 := hT 0 _ rfl
  have t1 := hT 1 _ rfl
  dsimp only [L87]
  refine w_seq ?_; refine w_reg ?_; refine v_box st (fun b1 h2 n3 st => ?_); refine v_move ?_; refine r_nil ?_; refine th_n ?_; refine w_seq ?_; refine w_reg ?_; refine v_move ?_; refine v_len ?_; obtain ⟨q4, hF⟩ := ck_some hF
  have w4 : LR rI 1 F0 (List.replicate (Int.toNat (0 : Int)) (0 : Int)) (Go.Hx.repl (Int.toNat (0 : Int)) [(i64 (0 : Int))]) := LR.repl (rfl) _
  refine v_mk st (n := (List.replicate (Int.toNat (0 : Int)) (0 : Int)).length) q4.1 q4.2.1 (by simp) q4.2.2.1 q4.2.2.2 (fun o4 h4 n4 st => ?_)
  refine v_move ?_; refine r_nil ?_; refine th_n ?_; refine w_seq ?_; refine w_seq ?_; refine w_reg ?_; refine v_move ?_; refine v_len ?_; refine v_move ?_; refine r_nil ?_; refine th_n ?_; refine w_block ?_; obtain ⟨y39, hy, hF⟩ := bnd_some hF; refine v_loopD (sf87_2_L1 N a1) (fun x22 T ds23 h nx => ∃ (F23 : PH) (o24 : Option Nat) (c24 : Nat) (cs24 : List HV), ds23 = [] ∧ PH.le F0 F23 ∧ St n0 h0 F0 F23 h nx [.bx b1 [(.func 90 [] []), (.func 77 [] [])], .ls o24 c24 cs24 1] ∧ LR rI 1 F23 x22.1 cs24 ∧ T.get 2 = some (.ptr (some (b1, 0))) ∧ T.get 5 = some (slv o24 (x22.1).length c24) ∧ T.get 11 = some (.slice pa1 (a1).length ca1) ∧ T.get 12 = some (i64 ((a1).length : Int)) ∧ T.get 13 = some (i64 x22.2)) (fun y e a σ => e = .exit 0 ∧ a.nt = 33 ∧ ∃ (F40 : PH) (o41 : Option Nat) (c41 : Nat) (cs41 : List HV), a.defers = [] ∧ PH.le F0 F40 ∧ St n0 h0 F0 F40 σ.h σ.nx [.bx b1 [(.func 90 [] []), (.func 77 [] [])], .ls o41 c41 cs41 1] ∧ LR rI 1 F40 y cs41 ∧ a.tmps.get 2 = some (.ptr (some (b1, 0))) ∧ a.tmps.get 5 = some (slv o41 (y).length c41)) (fun x22 T ds23 hc23 nc23 s hp hF => ?_) N _ y39 _ _ _ _ hy ⟨F0, o4, (Int.toNat ((a1).length : Int)), (Go.Hx.repl (Int.toNat (0 : Int)) [(i64 (0 : Int))]), rfl, (PH.le.refl _), st, w4, gA, gA, gA, gA, gA⟩ (fun e a σ hne hq => ?_)
  · obtain ⟨F23, o24, c24, cs24, rfl, le23, st, w24, t2, t5, t11, t12, t13⟩ := hp; unfold sf87_2_L1 at hF; unfold L87w0; refine w_seq ?_; refine w_reg ?_; refine v_lss ?_; refine r_nil ?_; refine th_n ?_; refine w_seq ?_; refine v_cond (fun hb42 => ?_) (fun hb42 => ?_)
    · have hF := bif_t hb42 hF; refine w_skip ?_; refine th_n ?_; refine w_seq ?_; refine w_block ?_; refine w_seq ?_; refine w_reg ?_; obtain ⟨n43, x43, z43, l43, g43, hF⟩ := ix_some hF; obtain ⟨b43, o43, s43, j43, r43, e43, f43, k43, ⟨_, _, rfl, rfl, rfl⟩⟩ := RowF.get ra1 g43; refine v_ixp e43 z43 l43 ?_; refine v_ldn (st.sub _ _ (le23 _ _ f43)) k43 ?_; refine v_alloc st (fun b44 h45 n46 st => ?_); refine v_st (cs' := [(i64 x43.1), (i64 x43.2)]) st 2 rfl rfl rfl rfl hfl (fun h47 st => ?_); refine r_nil ?_; refine th_n ?_; refine w_reg ?_; refine v_move ?_; refine v_fa ?_; refine v_ld1 (st.at (i := 0) rfl).2.2 rfl ?_; refine v_ldn (vs := [(i64 x43.1), (i64 x43.2)]) (st.at (i := 2) rfl).2.2 rfl ?_
      obtain ⟨v48, e49, hF⟩ := bnd_some hF; refine v_call st (ct90 N e49 st.d st.sub ) (fun n50 st => ?_); refine v_bs (cs := [(i64 v48)]) st rfl (fun b51 h52 n53 st => ?_); obtain ⟨q54, hF⟩ := ck_some hF
      have w54 : LR rI 1 F23 (x22.1 ++ [v48]) (cs24 ++ [(i64 v48)]) := LR.app w24 (LR.one (rfl))
      refine v_aps (n := 1) (ox := 0) (m := (x22.1 ++ [v48]).length) (row := [(i64 v48)]) st 1 rfl w24.1 (st.at (i := 3) rfl).2.2 rfl rfl q54 hfl (by decide) (by decide) (by simp) (fun o54 c54 h54 n54 st => ?_)
      refine v_move ?_; refine r_nil ?_; refine ib_n ?_; refine th_n ?_; refine w_reg ?_; obtain ⟨q55, hF⟩ := ck_some hF; refine v_add q55 ?_; refine v_move ?_; refine r_nil ?_; refine thn ⟨_, (inj hF).symm, rfl, ?_⟩; dsimp only
      exact ⟨F23, o54, c54, (cs24 ++ [(i64 v48)]), rfl, le23, (st.drop (by first | exact List.Sublist.refl _ | (repeat first | exact List.nil_sublist _ | refine List.Sublist.cons_cons _ ?_ | refine List.Sublist.cons _ ?_))), w54, gA, gA, gA, gA, gA⟩
    · have hF := bif_f hb42 hF; refine w_exit ?_; refine th_e ?_; refine th_e ?_; refine ⟨_, (inj hF).symm, rfl, rfl, ?_⟩; dsimp only
      exact ⟨F23, o24, c24, cs24, rfl, le23, st, w24, gA, gA⟩
  · obtain ⟨N9, T, ds40⟩ := a; obtain ⟨h56, n57⟩ := σ; obtain ⟨rfl, e1, F40, o41, c41, cs41, e2, le40, st, w41, t2, t5⟩ := hq
    dsimp only at e1 e2
    subst e1
    subst e2
    dsimp only at st t2 t5
    refine ib_e ?_; refine th_n ?_; refine w_seq ?_
    obtain ⟨F58, le58, st, rf58⟩ := St.freeze st 1 rfl w41 (by decide)
    have le59 := PH.le.trans le40 le58
    refine w_drawV (Nat.le_trans hfl st.ext.le) (fun dw => ?_); refine y_pure st.d dw (fun hm vw => v_fa pr_nil) ?_; refine y_pure st.d dw (fun hm vw => v_ld1 (vw.bx (st.at (i := 0) rfl)) rfl pr_nil) ?_; refine y_pure st.d dw (fun hm vw => v_move pr_nil) ?_; obtain ⟨n60, x60, z60, l60, g60, hF⟩ := ix_some hF; obtain ⟨b60, o60, s60, j60, r60, e60, f60, k60, rfl⟩ := RowF.get rf58 g60; refine y_pure st.d dw (fun hm vw => v_ixp e60 z60 l60 pr_nil) ?_; refine y_pure st.d dw (fun hm vw => v_ld1 (vw.fz st f60) (take_at (j := 0) k60 rfl) pr_nil) ?_; refine y_pure st.d dw (fun hm vw => v_move pr_nil) ?_; obtain ⟨q61, hF⟩ := ck_some hF
    refine y_step st.d dw rfl rfl (fun hm vw => v_slf (m := ((y39.drop (Int.toNat (1 : Int))).take (y39.length - (Int.toNat (1 : Int)))).length) (Int.toNat (1 : Int)) y39.length rf58 (bd_some (by first | exact ev_c | (apply ev_t; repeat first | exact ge_h | refine ge_w rfl ?_ | refine ge_f rfl ?_ | refine ge_m rfl ?_ | assumption)) (Int.toNat_of_nonneg q61.1).symm) bd_none q61.2.2 (sl_len q61.2.2.2) (fun p61 c61 n62 hn' rs61 => r_nil (y_call dw hn' vw.d (fun dw => ?_))))
    refine y_end st.d dw rfl (fun h63 ex vs => ?_)
    have st := st.ext1 ex
    obtain ⟨v64, e65, hF⟩ := bnd_some hF; refine v_call st (ct77 N e65 st.d st.sub rs61) (fun n66 st => ?_); refine v_move ?_; refine r_nil ?_; refine th_n ?_; refine w_ret ?_; obtain rfl := inj hF
    exact end_s st (Res.t gA Res.nil) rfl rfl
end Go.Hx.V.A

/- Functions of the program come to that. -/
namespace Go.Hx.V.A
open Go.Hx
set_option linter.unusedVariables false
set_option maxRecDepth 20000
set_option maxHeartbeats 4000000
attribute [local irreducible] W R C thenH inBlockH Tr.get Tr.set lo ck bnd ix iter
theorem ct72 (N : Nat) {a0 : (List (Int × Int))} {r : (Int × Int)} (hF : sf72 N a0 = some r) {fl : Nat} {h0 : Tr HBlk} {n0 : Nat} {F0 : PH} (hd : D h0 n0) (hs : F0.sub h0) {pa0 : Option (Nat × Nat)} {ca0 : Nat} (ra0 : RowF (rP rI rI) 2 F0 pa0 ca0 a0) : C LWA fl 72 [(.slice pa0 (a0).length ca0)] ⟨h0, n0⟩ (KS (.agg [(i64 r.1), (i64 r.2)]) n0 h0) := by
  unfold sf72 at hF
  refine in_cT hd hs la72 rfl rfl (by rfl) (fun st T hT => ?_)
  have hfl : n0 ≤ n0 := Nat.le_refl n0
  have t0 := hT 0 _ rfl
  dsimp only [L72]
  refine w_seq ?_; refine w_reg ?_; refine v_alloc st (fun b1 h2 n3 st => ?_); refine r_nil ?_; refine th_n ?_; refine w_seq ?_; refine w_reg ?_; refine v_inl la86 rfl rfl (fun T hT => ?_)
  dsimp only [L86]
  refine w_seq ?_; refine w_reg ?_; refine v_alloc st (fun b5 h6 n7 st => ?_); refine v_alloc st (fun b8 h9 n10 st => ?_); refine r_nil ?_; refine th_n ?_; refine w_seq ?_; refine w_reg ?_; refine v_build (cs := [(.func 89 [] []), (.func 81 [] [])]) rfl ?_; refine v_build (cs := [(.func 90 [] []), (.func 77 [] [])]) rfl ?_; refine v_st (cs' := [(.func 89 [] []), (.func 81 [] [])]) st 1 rfl rfl rfl rfl hfl (fun h11 st => ?_); refine v_st (cs' := [(.func 90 [] []), (.func 77 [] [])]) st 2 rfl rfl rfl rfl hfl (fun h12 st => ?_); refine r_nil ?_; refine th_n ?_; refine w_ret ?_; refine inl_end (v := (.tuple [(.agg [(.func 89 [] []), (.func 81 [] [])]), (.agg [(.func 90 [] []), (.func 77 [] [])])])) (Res.c gA (st.at (i := 1) rfl).2.2 (show takeN _ _ = some [(.func 89 [] []), (.func 81 [] [])] from rfl) (Res.c gA (st.at (i := 2) rfl).2.2 (show takeN _ _ = some [(.func 90 [] []), (.func 77 [] [])] from rfl) Res.nil)) rfl (.inl rfl) (ik ?_)
  refine v_move ?_; refine v_xt rfl ?_; refine v_xt rfl ?_; refine v_alloc st (fun b13 h14 n15 st => ?_); refine v_alloc st (fun b16 h17 n18 st => ?_); refine v_st (cs' := [(.func 89 [] []), (.func 81 [] [])]) st 3 rfl rfl rfl rfl hfl (fun h19 st => ?_); refine v_st (cs' := [(.func 90 [] []), (.func 77 [] [])]) st 4 rfl rfl rfl rfl hfl (fun h20 st => ?_); refine r_nil ?_; refine th_n ?_; refine w_seq ?_; refine w_drawV (Nat.le_trans hfl st.ext.le) (fun dw => ?_); refine y_pure st.d dw (fun hm vw => v_ldn (vs := [(.func 89 [] []), (.func 81 [] [])]) (vw.bx (st.at (i := 3) rfl)) rfl pr_nil) ?_; refine y_pure st.d dw (fun hm vw => v_move pr_nil) ?_; obtain ⟨v21, e22, hF⟩ := bnd_some hF; refine y_flat st.d dw (fun hm vw => u_call (ct87 N e22 vw.d (vw.sub st) ra0) (fun n' hn' => pf_nil hn')) (fun n23 hn' dw => ?_)
  refine y_pure st.d dw (fun hm vw => v_ldn (vs := [(.func 90 [] []), (.func 77 [] [])]) (vw.bx (st.at (i := 4) rfl)) rfl pr_nil) ?_; refine y_end st.d dw rfl (fun h24 ex vs => ?_)
  have st := st.ext1 ex
  refine v_move ?_; obtain ⟨v25, e26, hF⟩ := bnd_some hF; refine v_call st (ct87_2 N e26 st.d st.sub ra0) (fun n27 st => ?_); refine v_build (cs := [(i64 v21), (i64 v25)]) rfl ?_; refine v_st (cs' := [(i64 v21), (i64 v25)]) st 0 rfl rfl rfl rfl hfl (fun h28 st => ?_); refine r_nil ?_; refine th_n ?_; refine w_ret ?_; obtain rfl := inj hF
  exact end_s st (Res.c gA (st.at (i := 0) rfl).2.2 (show takeN _ _ = some [(i64 v21), (i64 v25)] from rfl) Res.nil) rfl rfl
end Go.Hx.V.A

/- Functions of the program come to that. -/
namespace Go.Hx.V.A
open Go.Hx
set_option linter.unusedVariables false
set_option maxRecDepth 20000
set_option maxHeartbeats 4000000
attribute [local irreducible] W R C thenH inBlockH Tr.get Tr.set lo ck bnd ix iter
theorem ct54 (N : Nat) {a0_0 : Int} {a0_1 : Int} {a0_2 : (List (Int × Int × Int × Int × Int))} {a0_3 : ME} {a1 : Int} {r : (Int × Int)} (hF : ∀ l, l.Perm a0_3 → sf54o N a0_0 a0_1 a0_2 a0_3 a1 l = some r) {h0 : Tr HBlk} {n0 : Nat} {F0 : PH} (hd : D h0 n0) (hs : F0.sub h0) {pa0_2 : Option (Nat × Nat)} {ca0_2 : Nat} {pa0_3 : Option Nat} (ra0_2 : RowF (rP rI (rP rI (rP rI (rP rI rI)))) 5 F0 pa0_2 ca0_2 a0_2) (ra0_3 : MapF F0 pa0_3 a0_3) (hmap : ∃ mb, pa0_3 = some mb ∧ F0 mb = some (.map a0_3)) : SX PRG n0 none L54.body (XQ n0 L54.res (.agg [(i64 r.1), (i64 r.2)])) (enter (Nat.max L54.nt ([(.agg [(i64 a0_0), (i64 a0_1), (.slice pa0_2 (a0_2).length ca0_2), (.map pa0_3)]), (i64 a1)] : List HV).length) [(.agg [(i64 a0_0), (i64 a0_1), (.slice pa0_2 (a0_2).length ca0_2), (.map pa0_3)]), (i64 a1)]) ⟨h0, n0⟩ := by
  unfold sf54o at hF
  have hfl : n0 ≤ n0 := Nat.le_refl n0
  refine in_xT (lf := L54) (by rfl) (fun T hT => ?_)
  have st := St.start hd hs
  have t0 := hT 0 _ rfl
  have t1 := hT 1 _ rfl
  dsimp only [L54]
  refine sx_seq ?_; refine sx_of_w mixed lx_ok ?_; refine w_reg ?_; refine v_box st (fun b1 h2 n3 st => ?_); refine v_alloc st (fun b4 h5 n6 st => ?_); refine r_nil ?_; refine thx_n ?_; refine sx_seq ?_; refine sx_of_w mixed lx_ok ?_; refine w_reg ?_; refine v_move ?_; refine r_nil ?_; refine thx_n ?_; refine sx_seq ?_
  have st := st.nilL 2
  have w7 : LR (rP rI rI) 2 F0 ([] : List (Int × Int)) [] := LR.nil
  obtain ⟨mb10, rfl, fmb10⟩ : ∃ mb, pa0_3 = some mb ∧ F0 mb = some (.map a0_3) := hmap
  have hmb10 := st.sub _ _ (fmb10)
  refine sx_forFoldL mixed lx_ok (nt := L54.nt) (kt := 103) (et := 3) (es := a0_3) (sf54_S N a0_0 a0_1 a0_2 a0_3 a1) (fun itb mb x9 T ds10 h nx => F0 mb = some (.map a0_3) ∧ ∃ (F10 : PH) (o11 : Option Nat) (c11 : Nat) (cs11 : List HV), ds10 = [] ∧ PH.le F0 F10 ∧ St n0 h0 F0 F10 h nx [.bx b1 [(i64 a0_0), (i64 a0_1), (.slice pa0_2 (a0_2).length ca0_2), (.map (some mb10))], .bx b4 [(i64 (0 : Int)), (i64 (0 : Int))], .ls o11 c11 cs11 2] ∧ LR (rP rI rI) 2 F10 x9 cs11 ∧ T.get 1 = some (i64 a1) ∧ T.get 2 = some (.ptr (some (b1, 0))) ∧ T.get 4 = some (.ptr (some (b4, 0))) ∧ T.get 5 = some (slv o11 (x9).length c11) ∧ T.get 11 = some (.ptr (some (itb, 0)))) ([] : List (Int × Int)) rfl (by kernel_rfl) (by decide) (by decide) (by decide) (by decide) (by decide) (by decide) (fun l hl => let ⟨y, hy, _⟩ := bnd_some (hF l hl); ⟨y, hy⟩) ?_ (fun itb mb x9 T ds10 h nx hp => ?_) (fun itb mb x9 x' e T ds10 hc10 nc10 hp he hF => ?_) (fun itb mb x9 T ds10 hd10 nd10 hp hl => ?_)
  · refine v_fa ?_; refine v_ld1 (st.at (i := 0) rfl).2.2 rfl ?_
    refine r_nil ⟨_, _, _, _, mb10, rfl, rfl, gA, hmb10, d_get st, fmb10, (by have st := st.up (Nat.le_succ _); exact ⟨F0, none, 0, [], rfl, (PH.le.refl _), st, w7, gA, gA, gA, gA, gA⟩)⟩
  · obtain ⟨hcm, F10, o11, c11, cs11, rfl, le10, st, w11, t1, t2, t4, t5, t11⟩ := hp
    exact ⟨t11, st.sub _ _ (le10 _ _ hcm)⟩
  · obtain ⟨hcm, F10, o11, c11, cs11, rfl, le10, st, w11, t1, t2, t4, t5, t11⟩ := hp; obtain ⟨key_, val_⟩ := e; unfold sf54_S at hF; obtain ⟨k12, ek, hF_⟩ := bnd_some hF
    clear hF
    obtain ⟨v13, ev, hF⟩ := bnd_some hF_
    clear hF_
    obtain ⟨cs_, z_, ek⟩ := dAg_some ek; obtain ⟨c0_, y0_, ek⟩ := dBA_some ek
    have y_ := dI0_some ek
    subst y_
    subst y0_
    have ek := z_
    dsimp only at ek
    subst ek
    have ev := dI_some ev
    dsimp only at ev
    subst ev
    refine v_xt rfl ?_; refine v_alloc st (fun b14 h15 n16 st => ?_)
    have st := st.cells 3 rfl ((eB 8 (fun _ => false)) ++ [(i64 (0 : Int))]) rfl
    refine v_st (v := (.agg ((eB 8 k12.1) ++ [(i64 k12.2)]))) (cs' := ((eB 8 k12.1) ++ [(i64 k12.2)])) st 3 rfl rfl rfl rfl hfl (fun h17 st => ?_); refine r_nil ?_; refine w_seq ?_; refine w_reg ?_; refine v_fa ?_; refine v_ldn (vs := [(i64 a0_0), (i64 a0_1), (.slice pa0_2 (a0_2).length ca0_2)]) (st.at (i := 0) rfl).2.2 rfl ?_; refine v_ldn (vs := ((eB 8 k12.1) ++ [(i64 k12.2)])) (st.at (i := 3) rfl).2.2 rfl ?_; refine v_move ?_; obtain ⟨v18, e19, hF⟩ := bnd_some hF; refine v_call st (ct64 N e19 st.d st.sub (RowF.mono le10 ra0_2)) (fun n20 st => ?_); refine v_move ?_; refine v_xt rfl ?_; refine v_xt rfl ?_; refine v_alloc st (fun b21 h22 n23 st => ?_)
    have st := st.cells 4 rfl ((eB 8 (fun _ => false)) ++ [(i64 (0 : Int))]) rfl
    refine v_st (v := (.agg ((eB 8 v18.1) ++ [(i64 v18.2.1)]))) (cs' := ((eB 8 v18.1) ++ [(i64 v18.2.1)])) st 4 rfl rfl rfl rfl hfl (fun h24 st => ?_); refine v_move ?_; refine r_nil ?_; refine th_n ?_; obtain ⟨y32, hA33, hF⟩ := bnd_some hF; refine w_cutD (fun T ds35 h nx => ∃ (F35 : PH), ds35 = [] ∧ PH.le F10 F35 ∧ St n0 h0 F0 F35 h nx [.bx b1 [(i64 a0_0), (i64 a0_1), (.slice pa0_2 (a0_2).length ca0_2), (.map (some mb10))], .bx b4 [(i64 (0 : Int)), (i64 (0 : Int))], .ls o11 c11 cs11 2, .bx b14 ((eB 8 k12.1) ++ [(i64 k12.2)]), .bx b21 ((eB 8 v18.1) ++ [(i64 v18.2.1)])] ∧ T.get 1 = some (i64 a1) ∧ T.get 2 = some (.ptr (some (b1, 0))) ∧ T.get 4 = some (.ptr (some (b4, 0))) ∧ T.get 5 = some (slv o11 (x9).length c11) ∧ T.get 7 = some (.ptr (some (b21, 0))) ∧ T.get 11 = some (.ptr (some (itb, 0))) ∧ T.get 31 = some (.bool y32)) ?_ (fun T ds35 hc35 nc35 hp => ?_)
    · have hK34 := hF
      have hF := hA33; refine w_reg ?_; refine v_move ?_; refine v_move ?_
      rcases Bool.eq_false_or_eq_true v18.2.2 with hb36 | hb36
      · have hF := bif_t hb36 hF; refine g_take hb36 (v_ldn (vs := [(i64 a0_0), (i64 a0_1), (.slice pa0_2 (a0_2).length ca0_2), (.map (some mb10))]) (st.at (i := 0) rfl).2.2 rfl ?_); refine g_take hb36 (v_move ?_); refine g_take hb36 (v_ldn (vs := ((eB 8 v18.1) ++ [(i64 v18.2.1)])) (st.at (i := 4) rfl).2.2 rfl ?_); obtain ⟨v37, e38, hF⟩ := bnd_some hF; refine g_take hb36 (v_call st (ct68 N e38 st.d st.sub (RowF.mono le10 ra0_2) (MapF.mono le10 ra0_3)) (fun n39 st => ?_)); obtain ⟨v40, e41, hF⟩ := bnd_some hF; refine g_take hb36 (v_call st (ct69 N e41 st.d st.sub ) (fun n42 st => ?_)); refine v_pick hb36 ?_; refine r_nil ?_; obtain rfl := inj hF; refine thn ⟨rfl, ?_⟩; dsimp only
        exact ⟨F10, rfl, (PH.le.refl _), st, gA, gA, gA, gA, gA, gA, gA⟩
      · have hF := bif_f hb36 hF; refine g_skip hb36 ?_; refine g_skip hb36 ?_; refine g_skip hb36 ?_; refine g_skip hb36 ?_; refine g_skip hb36 ?_; refine v_pick' hb36 ?_; refine r_nil ?_; obtain rfl := inj hF; refine thn ⟨rfl, ?_⟩; dsimp only
        exact ⟨F10, rfl, (PH.le.refl _), st, gA, gA, gA, gA, gA, gA, gA⟩
    · obtain ⟨F35, rfl, le35, st, t1, t2, t4, t5, t7, t11, t31⟩ := hp
      have le43 := PH.le.trans le10 le35
      refine v_cond (fun hb44 => ?_) (fun hb44 => ?_)
      · have hF := bif_t hb44 hF; refine w_reg ?_; refine v_move ?_; refine v_ldn (vs := [(i64 a0_0), (i64 a0_1), (.slice pa0_2 (a0_2).length ca0_2), (.map (some mb10))]) (st.at (i := 0) rfl).2.2 rfl ?_; refine v_move ?_; refine v_ldn (vs := ((eB 8 v18.1) ++ [(i64 v18.2.1)])) (st.at (i := 4) rfl).2.2 rfl ?_; obtain ⟨v45, e46, hF⟩ := bnd_some hF; refine v_call st (ct68 N e46 st.d st.sub (RowF.mono le43 ra0_2) (MapF.mono le43 ra0_3)) (fun n47 st => ?_); refine v_bs (cs := [(i64 v45.1), (i64 v45.2)]) st rfl (fun b48 h49 n50 st => ?_); obtain ⟨q51, hF⟩ := ck_some hF
        have w51 : LR (rP rI rI) 2 F35 (x9 ++ [(v45.1, v45.2)]) (cs11 ++ [(i64 v45.1), (i64 v45.2)]) := LR.app (LR.mono le35 w11) (LR.one (⟨[(i64 v45.1)], _, rfl, rfl, rfl⟩))
        refine v_aps (n := 1) (ox := 0) (m := (x9 ++ [(v45.1, v45.2)]).length) (row := [(i64 v45.1), (i64 v45.2)]) st 2 rfl (LR.mono le35 w11).1 (st.at (i := 5) rfl).2.2 rfl rfl q51 hfl (by decide) (by decide) (by simp) (fun o51 c51 h51 n51 st => ?_)
        refine v_move ?_; refine r_nil ?_; obtain rfl := inj hF; refine ib_n ⟨rfl, rfl, ?_⟩; dsimp only
        exact ⟨hcm, ⟨F35, o51, c51, (cs11 ++ [(i64 v45.1), (i64 v45.2)]), rfl, le43, (st.drop (by first | exact List.Sublist.refl _ | (repeat first | exact List.nil_sublist _ | refine List.Sublist.cons_cons _ ?_ | refine List.Sublist.cons _ ?_))), w51, gA, gA, gA, gA, gA⟩⟩
      · have hF := bif_f hb44 hF; refine w_skip ?_; obtain rfl := inj hF; refine ib_n ⟨rfl, rfl, ?_⟩; dsimp only
        exact ⟨hcm, ⟨F35, o11, c11, cs11, rfl, le43, (st.drop (by first | exact List.Sublist.refl _ | (repeat first | exact List.nil_sublist _ | refine List.Sublist.cons_cons _ ?_ | refine List.Sublist.cons _ ?_))), (LR.mono le35 w11), gA, gA, gA, gA, gA⟩⟩
  · obtain ⟨hcm, F10, o11, c11, cs11, rfl, le10, st, w11, t1, t2, t4, t5, t11⟩ := hp; obtain ⟨l, hl, hy⟩ := hl; have hF := bnd_at (hF l hl) hy; refine thx_n ?_; refine sx_of_w mixed lx_ok ?_; refine w_seq ?_; refine w_reg ?_; refine v_move ?_; obtain ⟨v52, e53, hF⟩ := bnd_some hF
    refine v_call st (ct72 N e53 st.d (all_sub _) (st.row_all (i := 2) rfl w11 (by decide))) (fun n54 st => ?_)
    refine v_st (cs' := [(i64 v52.1), (i64 v52.2)]) st 1 rfl rfl rfl rfl hfl (fun h55 st => ?_); refine r_nil ?_; refine th_n ?_; refine w_ret ?_; obtain rfl := inj hF
    exact end_x (Res.c gA (st.at (i := 1) rfl).2.2 (show takeN _ _ = some [(i64 v52.1), (i64 v52.2)] from rfl) Res.nil) rfl (.inl rfl)
theorem ct58 (N : Nat) {a0_0 : Int} {a0_1 : Int} {a0_2 : (List (Int × Int × Int × Int × Int))} {a0_3 : ME} {a1 : Int} {a2 : Int} {r : (Int × Int)} (hF : ∀ l, l.Perm a0_3 → sf58o N a0_0 a0_1 a0_2 a0_3 a1 a2 l = some r) {h0 : Tr HBlk} {n0 : Nat} {F0 : PH} (hd : D h0 n0) (hs : F0.sub h0) {pa0_2 : Option (Nat × Nat)} {ca0_2 : Nat} {pa0_3 : Option Nat} (ra0_2 : RowF (rP rI (rP rI (rP rI (rP rI rI)))) 5 F0 pa0_2 ca0_2 a0_2) (ra0_3 : MapF F0 pa0_3 a0_3) (hmap : ∃ mb, pa0_3 = some mb ∧ F0 mb = some (.map a0_3)) : SX PRG n0 none L58.body (XQ n0 L58.res (.agg [(i64 r.1), (i64 r.2)])) (enter (Nat.max L58.nt ([(.agg [(i64 a0_0), (i64 a0_1), (.slice pa0_2 (a0_2).length ca0_2), (.map pa0_3)]), (i64 a1), (i64 a2)] : List HV).length) [(.agg [(i64 a0_0), (i64 a0_1), (.slice pa0_2 (a0_2).length ca0_2), (.map pa0_3)]), (i64 a1), (i64 a2)]) ⟨h0, n0⟩ := by
  unfold sf58o at hF
  have hfl : n0 ≤ n0 := Nat.le_refl n0
  refine in_xT (lf := L58) (by rfl) (fun T hT => ?_)
  have st := St.start hd hs
  have t0 := hT 0 _ rfl
  have t1 := hT 1 _ rfl
  have t2 := hT 2 _ rfl
  dsimp only [L58]
  refine sx_seq ?_; refine sx_of_w mixed lx_ok ?_; refine w_reg ?_; refine v_box st (fun b1 h2 n3 st => ?_); refine v_alloc st (fun b4 h5 n6 st => ?_); refine r_nil ?_; refine thx_n ?_; refine sx_seq ?_; refine sx_of_w mixed lx_ok ?_; refine w_reg ?_; refine v_move ?_; refine r_nil ?_; refine thx_n ?_; refine sx_seq ?_
  have st := st.nilL 2
  have w7 : LR (rP rI rI) 2 F0 ([] : List (Int × Int)) [] := LR.nil
  obtain ⟨mb10, rfl, fmb10⟩ : ∃ mb, pa0_3 = some mb ∧ F0 mb = some (.map a0_3) := hmap
  have hmb10 := st.sub _ _ (fmb10)
  refine sx_forFoldL mixed lx_ok (nt := L58.nt) (kt := 103) (et := 3) (es := a0_3) (sf58_S N a0_0 a0_1 a0_2 a1 a2) (fun itb mb x9 T ds10 h nx => F0 mb = some (.map a0_3) ∧ ∃ (F10 : PH) (o11 : Option Nat) (c11 : Nat) (cs11 : List HV), ds10 = [] ∧ PH.le F0 F10 ∧ St n0 h0 F0 F10 h nx [.bx b1 [(i64 a0_0), (i64 a0_1), (.slice pa0_2 (a0_2).length ca0_2), (.map (some mb10))], .bx b4 [(i64 (0 : Int)), (i64 (0 : Int))], .ls o11 c11 cs11 2] ∧ LR (rP rI rI) 2 F10 x9 cs11 ∧ T.get 1 = some (i64 a1) ∧ T.get 2 = some (i64 a2) ∧ T.get 3 = some (.ptr (some (b1, 0))) ∧ T.get 6 = some (.ptr (some (b4, 0))) ∧ T.get 7 = some (slv o11 (x9).length c11) ∧ T.get 13 = some (.ptr (some (itb, 0)))) ([] : List (Int × Int)) rfl (by kernel_rfl) (by decide) (by decide) (by decide) (by decide) (by decide) (by decide) (fun l hl => let ⟨y, hy, _⟩ := bnd_some (hF l hl); ⟨y, hy⟩) ?_ (fun itb mb x9 T ds10 h nx hp => ?_) (fun itb mb x9 x' e T ds10 hc10 nc10 hp he hF => ?_) (fun itb mb x9 T ds10 hd10 nd10 hp hl => ?_)
  · refine v_fa ?_; refine v_ld1 (st.at (i := 0) rfl).2.2 rfl ?_
    refine r_nil ⟨_, _, _, _, mb10, rfl, rfl, gA, hmb10, d_get st, fmb10, (by have st := st.up (Nat.le_succ _); exact ⟨F0, none, 0, [], rfl, (PH.le.refl _), st, w7, gA, gA, gA, gA, gA, gA⟩)⟩
  · obtain ⟨hcm, F10, o11, c11, cs11, rfl, le10, st, w11, t1, t2, t3, t6, t7, t13⟩ := hp
    exact ⟨t13, st.sub _ _ (le10 _ _ hcm)⟩
  · obtain ⟨hcm, F10, o11, c11, cs11, rfl, le10, st, w11, t1, t2, t3, t6, t7, t13⟩ := hp; obtain ⟨key_, val_⟩ := e; unfold sf58_S at hF; obtain ⟨k12, ek, hF_⟩ := bnd_some hF
    clear hF
    obtain ⟨v13, ev, hF⟩ := bnd_some hF_
    clear hF_
    obtain ⟨cs_, z_, ek⟩ := dAg_some ek; obtain ⟨c0_, y0_, ek⟩ := dBA_some ek
    have y_ := dI0_some ek
    subst y_
    subst y0_
    have ek := z_
    dsimp only at ek
    subst ek
    have ev := dI_some ev
    dsimp only at ev
    subst ev
    refine v_xt rfl ?_; refine v_xt rfl ?_; refine v_alloc st (fun b14 h15 n16 st => ?_)
    have st := st.cells 3 rfl ((eB 8 (fun _ => false)) ++ [(i64 (0 : Int))]) rfl
    refine v_st (v := (.agg ((eB 8 k12.1) ++ [(i64 k12.2)]))) (cs' := ((eB 8 k12.1) ++ [(i64 k12.2)])) st 3 rfl rfl rfl rfl hfl (fun h17 st => ?_); refine v_move ?_; refine r_nil ?_; obtain ⟨y19, hA20, hF⟩ := bnd_some hF; refine w_cutD (fun T ds22 h nx => ∃ (F22 : PH), ds22 = [] ∧ PH.le F10 F22 ∧ St n0 h0 F0 F22 h nx [.bx b1 [(i64 a0_0), (i64 a0_1), (.slice pa0_2 (a0_2).length ca0_2), (.map (some mb10))], .bx b4 [(i64 (0 : Int)), (i64 (0 : Int))], .ls o11 c11 cs11 2, .bx b14 ((eB 8 k12.1) ++ [(i64 k12.2)])] ∧ T.get 1 = some (i64 a1) ∧ T.get 2 = some (i64 a2) ∧ T.get 3 = some (.ptr (some (b1, 0))) ∧ T.get 6 = some (.ptr (some (b4, 0))) ∧ T.get 7 = some (slv o11 (x9).length c11) ∧ T.get 8 = some (.ptr (some (b14, 0))) ∧ T.get 13 = some (.ptr (some (itb, 0))) ∧ T.get 27 = some (.bool y19)) ?_ (fun T ds22 hc22 nc22 hp => ?_)
    · have hK21 := hF
      have hF := hA20; refine w_reg ?_; refine v_fa ?_; refine v_ld1 (st.at (i := 3) rfl).2.2 rfl ?_; refine v_move ?_; refine v_leq ?_; refine v_move ?_
      rcases Bool.eq_false_or_eq_true (decide (k12.2 ≤ a2)) with hb23 | hb23
      · have hF := bif_t hb23 hF; refine g_take hb23 (v_move ?_); refine g_take hb23 (v_move ?_); refine g_take hb23 (v_lss ?_); refine v_pick hb23 ?_; refine r_nil ?_; obtain rfl := inj hF; refine thn ⟨rfl, ?_⟩; dsimp only
        exact ⟨F10, rfl, (PH.le.refl _), st, gA, gA, gA, gA, gA, gA, gA, gA⟩
      · have hF := bif_f hb23 hF; refine g_skip hb23 ?_; refine g_skip hb23 ?_; refine g_skip hb23 ?_; refine v_pick' hb23 ?_; refine r_nil ?_; obtain rfl := inj hF; refine thn ⟨rfl, ?_⟩; dsimp only
        exact ⟨F10, rfl, (PH.le.refl _), st, gA, gA, gA, gA, gA, gA, gA, gA⟩
    · obtain ⟨F22, rfl, le22, st, t1, t2, t3, t6, t7, t8, t13, t27⟩ := hp
      have le24 := PH.le.trans le10 le22
      refine v_cond (fun hb25 => ?_) (fun hb25 => ?_)
      · have hF := bif_t hb25 hF; refine w_seq ?_; refine w_reg ?_; refine v_fa ?_; refine v_ldn (vs := [(i64 a0_0), (i64 a0_1), (.slice pa0_2 (a0_2).length ca0_2)]) (st.at (i := 0) rfl).2.2 rfl ?_; refine v_fa ?_; refine v_ldn (vs := (eB 8 k12.1)) (st.at (i := 3) rfl).2.2 rfl ?_; obtain ⟨v26, e27, hF⟩ := bnd_some hF; refine v_call st (ct74 N e27 st.d st.sub (RowF.mono le24 ra0_2)) (fun n28 st => ?_); refine v_move ?_; obtain ⟨q29, hF⟩ := ck_some hF
        refine v_ixv (j := (Int.toNat a1)) (Int.toNat_of_nonneg q29.1) (by omega) (ar_get0 (n := 6) (off := (Int.toNat a1)) (ix := (Int.toNat a1)) rfl (by omega)) ?_
        refine v_move ?_; refine r_nil ?_; refine th_n ?_; refine w_reg ?_; refine v_move ?_; refine v_move ?_; refine v_move ?_; refine v_build (cs := [(i64 (v26 (Int.toNat a1))), (i64 (v26 (Int.toNat a1)))]) rfl ?_; refine v_bs (cs := [(i64 (v26 (Int.toNat a1))), (i64 (v26 (Int.toNat a1)))]) st rfl (fun b30 h31 n32 st => ?_); obtain ⟨q33, hF⟩ := ck_some hF
        have w33 : LR (rP rI rI) 2 F22 (x9 ++ [((v26 (Int.toNat a1)), (v26 (Int.toNat a1)))]) (cs11 ++ [(i64 (v26 (Int.toNat a1))), (i64 (v26 (Int.toNat a1)))]) := LR.app (LR.mono le22 w11) (LR.one (⟨[(i64 (v26 (Int.toNat a1)))], _, rfl, rfl, rfl⟩))
        refine v_aps (n := 1) (ox := 0) (m := (x9 ++ [((v26 (Int.toNat a1)), (v26 (Int.toNat a1)))]).length) (row := [(i64 (v26 (Int.toNat a1))), (i64 (v26 (Int.toNat a1)))]) st 2 rfl (LR.mono le22 w11).1 (st.at (i := 4) rfl).2.2 rfl rfl q33 hfl (by decide) (by decide) (by simp) (fun o33 c33 h33 n33 st => ?_)
        refine v_move ?_; refine r_nil ?_; obtain rfl := inj hF; refine ib_n ⟨rfl, rfl, ?_⟩; dsimp only
        exact ⟨hcm, ⟨F22, o33, c33, (cs11 ++ [(i64 (v26 (Int.toNat a1))), (i64 (v26 (Int.toNat a1)))]), rfl, le24, (st.drop (by first | exact List.Sublist.refl _ | (repeat first | exact List.nil_sublist _ | refine List.Sublist.cons_cons _ ?_ | refine List.Sublist.cons _ ?_))), w33, gA, gA, gA, gA, gA, gA⟩⟩
      · have hF := bif_f hb25 hF; refine w_skip ?_; obtain rfl := inj hF; refine ib_n ⟨rfl, rfl, ?_⟩; dsimp only
        exact ⟨hcm, ⟨F22, o11, c11, cs11, rfl, le24, (st.drop (by first | exact List.Sublist.refl _ | (repeat first | exact List.nil_sublist _ | refine List.Sublist.cons_cons _ ?_ | refine List.Sublist.cons _ ?_))), (LR.mono le22 w11), gA, gA, gA, gA, gA, gA⟩⟩
  · obtain ⟨hcm, F10, o11, c11, cs11, rfl, le10, st, w11, t1, t2, t3, t6, t7, t13⟩ := hp; obtain ⟨l, hl, hy⟩ := hl; have hF := bnd_at (hF l hl) hy; refine thx_n ?_; refine sx_of_w mixed lx_ok ?_; refine w_seq ?_; refine w_reg ?_; refine v_move ?_; obtain ⟨v34, e35, hF⟩ := bnd_some hF
    refine v_call st (ct72 N e35 st.d (all_sub _) (st.row_all (i := 2) rfl w11 (by decide))) (fun n36 st => ?_)
    refine v_st (cs' := [(i64 v34.1), (i64 v34.2)]) st 1 rfl rfl rfl rfl hfl (fun h37 st => ?_); refine r_nil ?_; refine th_n ?_; refine w_ret ?_; obtain rfl := inj hF
    exact end_x (Res.c gA (st.at (i := 1) rfl).2.2 (show takeN _ _ = some [(i64 v34.1), (i64 v34.2)] from rfl) Res.nil) rfl (.inl rfl)
end Go.Hx.V.A

/- When and holds are known, whatever order their maps come in. -/
namespace Go.Hx.V.A
open Go.Hx
set_option linter.unusedVariables false
/-- A store of a list's block and a map's. -/
noncomputable def sto (cs : List HV) (k : BK) (es : ME) : HS := ⟨(Tr.set .e 0 (some (.cells cs k))).set 1 (some (.map es)), 2⟩
theorem sto_get {cs : List HV} {k : BK} {es : ME} (b : Nat) : (sto cs k es).h.get b = if b = 1 then some (.map es) else if b = 0 then some (.cells cs k) else none := by
  unfold sto
  show ((Tr.set .e 0 _).set 1 _).get b = _
  rw [Tr.get_set, Tr.get_set]
  rw [show (Tr.e : Tr HBlk).get b = none from Tr.get_e b]
theorem rd5_len : ∀ {cs : List HV} {rs : List (Int × Int × Int × Int × Int)}, rd5 cs = some rs → cs.all flat1 = true ∧ ∀ (i : Nat) (x : Int × Int × Int × Int × Int), rs[i]? = some x → takeN 5 (cs.drop (i * 5)) = some [i64 x.1, i64 x.2.1, i64 x.2.2.1, i64 x.2.2.2.1, i64 x.2.2.2.2]
  | cs, rs, h => by
    unfold rd5 at h
    split at h
    · cases h; exact ⟨rfl, fun i x hx => by simp at hx⟩
    · rename_i a b c d e t
      obtain ⟨r, hr, rfl⟩ := Option.map_eq_some_iff.1 h
      obtain ⟨h1, h2⟩ := rd5_len hr
      refine ⟨by simpa [flat1] using h1, fun i x hx => ?_⟩
      cases i with
      | zero => simp at hx; subst hx; rfl
      | succ i =>
        have := h2 i x (by simpa using hx)
        rw [show (i + 1) * 5 = i * 5 + 5 by omega]
        exact this
    · cases h
theorem rdSl_some {σ : HS} {p : Option (Nat × Nat)} {l c : Nat} {rs : List (Int × Int × Int × Int × Int)} (h : rdSl σ p l c = some rs) : ∃ b cs k, p = some (b, 0) ∧ σ.h.get b = some (.cells cs k) ∧ cs.all flat1 = true ∧ rs.length = l ∧ l ≤ c ∧
    ∀ (i : Nat) (x : Int × Int × Int × Int × Int), rs[i]? = some x → takeN 5 (cs.drop (0 + i * 5)) = some [i64 x.1, i64 x.2.1, i64 x.2.2.1, i64 x.2.2.2.1, i64 x.2.2.2.2] := by
  unfold rdSl at h
  split at h
  · rename_i b
    split at h
    · rename_i cs k hb
      obtain ⟨r, hr, h⟩ := Option.bind_eq_some_iff.1 h
      cases hc : Nat.ble l r.length && Nat.ble l c with
      | false => rw [hc] at h; cases h
      | true =>
        rw [hc] at h
        cases h
        simp only [Bool.and_eq_true, Nat.ble_eq] at hc
        obtain ⟨h1, h2⟩ := rd5_len hr
        refine ⟨b, cs, k, rfl, hb, h1, by simp; omega, hc.2, fun i x hx => ?_⟩
        rw [Nat.zero_add]
        refine h2 i x ?_
        rw [List.getElem?_take] at hx
        split at hx
        · exact hx
        · cases hx
    · cases h
  · cases h
theorem rows_of {cs : List HV} {k : BK} {es : ME} {rs : List (Int × Int × Int × Int × Int)} {l c : Nat} (hl : rs.length = l) (hc : l ≤ c)
    (h : ∀ (i : Nat) (x : Int × Int × Int × Int × Int), rs[i]? = some x → takeN 5 (cs.drop (0 + i * 5)) = some [i64 x.1, i64 x.2.1, i64 x.2.2.1, i64 x.2.2.2.1, i64 x.2.2.2.2]) : RowF (rP rI (rP rI (rP rI (rP rI rI)))) 5 (sto cs k es).h.get (some (0, 0)) c rs :=
  ⟨by omega, fun _ => ⟨0, 0, cs, k, rfl, by rw [sto_get]; rfl, fun i x hx => ⟨_, h i x hx, _, _, rfl, rfl, _, _, rfl, rfl, _, _, rfl, rfl, _, _, rfl, rfl, rfl⟩⟩⟩
/-- Where its blocks lie. -/
def pi2 (b mb : Nat) : Nat → Option Nat := fun j => if j = 0 then some b else if j = 1 then some mb else none
theorem lr_vals {ρ : Rho} {b mb l c : Nat} {ow tot : Int} {rest : List HV} (hr : ∀ ρ' C, Go.Hx.LR ρ rest C → Go.Hx.LR ρ' rest C) (Args : List Value) (h : Go.Hx.LR ρ (.agg [i64 ow, i64 tot, .slice (some (b, 0)) l c, .map (some mb)] :: rest) Args) : Go.Hx.LR (fun j => (pi2 b mb j).bind ρ) (.agg [i64 ow, i64 tot, .slice (some (0, 0)) l c, .map (some 1)] :: rest) Args := by
  obtain ⟨u, C', rfl, hv, hs⟩ := Go.Hx.LR.inv h
  refine Go.Hx.LR.cons ?_ (hr _ _ hs)
  obtain ⟨C, rfl, hC⟩ := VR.inv_agg hv
  obtain ⟨u1, C1, rfl, v1, hC⟩ := Go.Hx.LR.inv hC
  obtain ⟨u2, C2, rfl, v2, hC⟩ := Go.Hx.LR.inv hC
  obtain ⟨u3, C3, rfl, v3, hC⟩ := Go.Hx.LR.inv hC
  obtain ⟨u4, C4, rfl, v4, hC⟩ := Go.Hx.LR.inv hC
  have := Go.Hx.LR.inv_nil hC
  subst this
  refine VR.aggL (Go.Hx.LR.cons (v1.f1 rfl) (Go.Hx.LR.cons (v2.f1 rfl) (Go.Hx.LR.cons ?_ (Go.Hx.LR.cons ?_ (Go.Hx.LR.nil _)))))
  · cases v3 with
    | slice hq => exact VR.slice (show (pi2 b mb 0).bind ρ = _ from hq)
    | slice00 a => exact VR.slice00 a
  · cases v4 with
    | map hq => exact VR.map (show (pi2 b mb 1).bind ρ = _ from hq)
theorem lr_ints : ∀ {ns : List Int} {ρ ρ' : Rho} {C : List Value}, Go.Hx.LR ρ (ns.map i64) C → Go.Hx.LR ρ' (ns.map i64) C
  | [], ρ, ρ', C, h => by rw [Go.Hx.LR.inv_nil h]; exact Go.Hx.LR.nil _
  | n :: ns, ρ, ρ', C, h => by
    obtain ⟨u, C', rfl, hv, hs⟩ := Go.Hx.LR.inv h
    exact Go.Hx.LR.cons (hv.f1 rfl) (lr_ints hs)
theorem rebase2 {f : Nat} {lf : LFunc} (hlf : LWA f = some lf) (hsp : lf.spec = none) {σ : HS} {b mb l c : Nat} {cs : List HV} {k : BK} {es : ME} {ow tot : Int} {ns : List Int} {v : HV}
    (hb : σ.h.get b = some (.cells cs k)) (hm : σ.h.get mb = some (.map es)) (h1 : cs.all flat1 = true) (h2 : flatE es = true)
    (hs : SX PRG 2 none lf.body (XQ 2 lf.res v) (enter (Nat.max lf.nt ((.agg [i64 ow, i64 tot, .slice (some (0, 0)) l c, .map (some 1)] :: ns.map i64 : List HV)).length) (.agg [i64 ow, i64 tot, .slice (some (0, 0)) l c, .map (some 1)] :: ns.map i64)) (sto cs k es)) :
    ∃ (σ0 : HS) (args0 : List HV) (π : Nat → Option Nat), Dom σ0 ∧ (∀ b, σ0.nx ≤ b → π b = none) ∧
      (∀ b x, σ0.h.get b = some x → ∃ c, π b = some c ∧ σ.h.get c = some x ∧ flatB x = true) ∧ (∀ b b' c, π b = some c → π b' = some c → b = b') ∧
      (∀ ρ Args, Go.Hx.LR ρ (.agg [i64 ow, i64 tot, .slice (some (b, 0)) l c, .map (some mb)] :: ns.map i64) Args → Go.Hx.LR (fun b => (π b).bind ρ) args0 Args) ∧
      SX PRG σ0.nx none lf.body (fun e a σ' => match e with | .exit _ => False | _ => ∃ σ'', leaveH σ0.nx a lf.res σ' = some (v, σ'')) (enter (Nat.max lf.nt args0.length) args0) σ0 := by
  have hne : b ≠ mb := fun e => by subst e; rw [hb] at hm; cases hm
  refine ⟨sto cs k es, _, pi2 b mb, fun j x hx => ?_, fun j hj => ?_, fun j x hx => ?_, fun i j c hi hj => ?_, fun ρ Args h => lr_vals (fun ρ' C h => lr_ints h) Args h, hs⟩
  · rw [sto_get] at hx
    show j < 2
    split at hx
    · omega
    · split at hx
      · omega
      · cases hx
  · have : 2 ≤ j := hj
    unfold pi2
    rw [if_neg (by omega), if_neg (by omega)]
  · rw [sto_get] at hx
    unfold pi2
    split at hx
    · rename_i e; subst e; cases hx; exact ⟨mb, rfl, hm, h2⟩
    · split at hx
      · rename_i e; subst e; cases hx; exact ⟨b, rfl, hb, h1⟩
      · cases hx
  · unfold pi2 at hi hj
    split at hi <;> split at hj
    · omega
    · split at hj
      · cases hi; cases hj; exact absurd rfl hne
      · cases hj
    · split at hi
      · cases hi; cases hj; exact absurd rfl hne
      · cases hi
    · split at hi <;> split at hj
      · omega
      · cases hj
      · cases hi
      · cases hi
theorem sto_d {cs : List HV} {k : BK} {es : ME} : D (sto cs k es).h 2 := by
  unfold D
  intro j hj
  rw [sto_get, if_neg (by omega), if_neg (by omega)]
theorem ok54 : SpecOk PRG 54 g54 := spec_rebase lx_ok la54 rfl (by
  intro args σ v σ' h
  unfold g54 at h
  split at h
  · rename_i ow tot p l c mb a1
    obtain ⟨rs, hrs, h⟩ := Option.bind_eq_some_iff.1 h
    split at h
    · rename_i es hes
      cases hf : flatE es with
      | false => rw [hf] at h; cases h
      | true =>
        rw [hf] at h
        obtain ⟨r, hr, h⟩ := Option.map_eq_some_iff.1 h
        obtain ⟨rfl, rfl⟩ := Prod.mk.injEq _ _ _ _ ▸ h
        obtain ⟨b, cs, k, rfl, hb, h1, h2, h3, h4⟩ := rdSl_some hrs
        refine ⟨rfl, rfl, rebase2 (ns := [a1]) la54 rfl hb hes h1 hf ?_⟩
        subst h2
        exact ct54 64 (fun l hl => (any54 64 ow tot rs es a1 hl).trans hr) sto_d (fun _ _ h => h) (rows_of rfl h3 h4) (show (sto cs k es).h.get 1 = some (.map es) by rw [sto_get]; rfl) ⟨1, rfl, by rw [sto_get]; rfl⟩
    · cases h
  · cases h)
theorem ok58 : SpecOk PRG 58 g58 := spec_rebase lx_ok la58 rfl (by
  intro args σ v σ' h
  unfold g58 at h
  split at h
  · rename_i ow tot p l c mb a1 a2
    obtain ⟨rs, hrs, h⟩ := Option.bind_eq_some_iff.1 h
    split at h
    · rename_i es hes
      cases hf : flatE es with
      | false => rw [hf] at h; cases h
      | true =>
        rw [hf] at h
        obtain ⟨r, hr, h⟩ := Option.map_eq_some_iff.1 h
        obtain ⟨rfl, rfl⟩ := Prod.mk.injEq _ _ _ _ ▸ h
        obtain ⟨b, cs, k, rfl, hb, h1, h2, h3, h4⟩ := rdSl_some hrs
        refine ⟨rfl, rfl, rebase2 (ns := [a1, a2]) la58 rfl hb hes h1 hf ?_⟩
        subst h2
        exact ct58 64 (fun l hl => (any58 64 ow tot rs es a1 a2 hl).trans hr) sto_d (fun _ _ h => h) (rows_of rfl h3 h4) (show (sto cs k es).h.get 1 = some (.map es) by rw [sto_get]; rfl) ⟨1, rfl, by rw [sto_get]; rfl⟩
    · cases h
  · cases h)
end Go.Hx.V.A
namespace Go.Hx
theorem lq_ok : LpOk PRG LQ := withS_ok (withS_ok lx_ok V.A.ok54) V.A.ok58
end Go.Hx

/- The closed run of 'wakes': the chapter's examples, which each law of the layer asks for at its end. -/
namespace Go.Hx
theorem run16 : (fnK LQ 600 16).run 0 [] .e 0 endK0 = some (.bool true, ⟨.e, 0⟩) := by kernel_rfl
theorem closed_of {lp : Nat → Option LFunc} {n f : Nat} (hr : (fnK lp n f).run 0 [] .e 0 endK0 = some (.bool true, ⟨.e, 0⟩)) : C lp 0 f [] ⟨.e, 0⟩ (fun v _ => v = .bool true) :=
  c_of_k hr fun v h nx hk => by unfold endK0 at hk; cases hk; rfl
theorem closed16 : C LQ 0 16 [] ⟨.e, 0⟩ (fun v _ => v = .bool true) := closed_of run16
end Go.Hx

/- The functions of the program, of which three are known: the closed examples tell true; when and holds. -/
namespace Go.Hx
noncomputable section
def spWakes : List HV → HS → Option (HV × HS)
  | [], σ => some (.bool true, σ)
  | _, _ => none
def LW : Nat → Option LFunc := withS LQ 16 spWakes
end
end Go.Hx

/- The closed run of RecallNames; that the first examples are told true is known. -/
namespace Go.Hx
theorem closed7 : C LW 0 7 [] ⟨.e, 0⟩ (fun v _ => v = .bool true) := closed_of (n := 600) (by kernel_rfl)
end Go.Hx

/- 'wakes' is known. -/
namespace Go.Hx
theorem spWakes_ok : ∀ args σ v σ', spWakes args σ = some (v, σ') → σ' = σ ∧ args.all flat = true ∧ flatV v = true ∧ C LQ 0 16 args ⟨.e, 0⟩ (fun v' _ => v' = v) := by
  intro args σ v σ' h
  cases args with
  | nil => cases h; exact ⟨rfl, rfl, rfl, closed16⟩
  | cons a l => cases h
theorem lw_ok : LpOk Go.Proofs.Try.prog LW := withS_ok lq_ok (spec_plain mixed lq_ok spWakes_ok)
end Go.Hx

