/- Layer 3: the height of steam at a pressure. -/
import Derived.Test.YtcjjbjagbnfnfaaH06
import Derived.Test.YtcjjbjagbnfnfaaH05
set_option linter.all false
/- Layer 3: the height of steam at a pressure. -/
namespace Go.Hx
set_option linter.unusedSimpArgs false
set_option linter.unusedVariables false
set_option maxRecDepth 20000
set_option maxHeartbeats 4000000
attribute [local irreducible] W R C thenH inBlockH
--dropu
noncomputable def AS66 : LCode := (.seq (.reg [⟨(.some 6), (.alloc [(.int .i64 0), (.int .i64 0)]), .none, []⟩, ⟨.none, (.store 2 (.t 6) (.t 12)), .none, []⟩]) (.reg [⟨(.some 7), (.alloc [(.int .i64 0), (.int .i64 0)]), .none, []⟩, ⟨.none, (.store 2 (.t 7) (.t 13)), .none, []⟩]))
noncomputable def BD66 : LCode := (.block 1 (.seq (.reg [⟨(.some 14), (.fieldAddr 1 (.t 7)), .none, []⟩, ⟨(.some 15), (.load .false 1 (.t 14)), .none, []⟩, ⟨(.some 16), (.fieldAddr 1 (.t 6)), .none, []⟩, ⟨(.some 17), (.load .false 1 (.t 16)), .none, []⟩, ⟨(.some 18), (.bin .sub (.t 15) (.t 17)), .none, []⟩, ⟨(.some 19), (.load .false 1 (.t 3)), .none, []⟩, ⟨(.some 20), (.fieldAddr 0 (.t 6)), .none, []⟩, ⟨(.some 21), (.load .false 1 (.t 20)), .none, []⟩, ⟨(.some 22), (.bin .sub (.t 19) (.t 21)), .none, []⟩, ⟨(.some 23), (.bin .mul (.t 18) (.t 22)), .none, []⟩, ⟨(.some 24), (.fieldAddr 0 (.t 7)), .none, []⟩, ⟨(.some 25), (.load .false 1 (.t 24)), .none, []⟩, ⟨(.some 26), (.fieldAddr 0 (.t 6)), .none, []⟩, ⟨(.some 27), (.load .false 1 (.t 26)), .none, []⟩, ⟨(.some 28), (.bin .sub (.t 25) (.t 27)), .none, []⟩, ⟨(.some 29), (.build [(.int .i64 0), (.int .i64 0)] [(0, (1, (.t 23))), (1, (1, (.t 28)))]), .none, []⟩, ⟨(.some 8), (.alloc [(.int .i64 0), (.int .i64 0)]), .none, []⟩, ⟨.none, (.store 2 (.t 8) (.t 29)), .none, []⟩]) (.draw 4 [⟨(.some 30), (.fieldAddr 1 (.t 6)), .none, []⟩, ⟨(.some 31), (.load .false 1 (.t 30)), .none, []⟩, ⟨(.some 32), (.load .true 2 (.t 8)), .none, []⟩, ⟨(.some 33), (.call (.c (.func 91 [] [])) [(.t 32)]), .none, []⟩, ⟨(.some 34), (.bin .add (.t 31) (.t 33)), .none, [3]⟩, ⟨.none, (.store 1 (.t 5) (.t 34)), .none, [3]⟩])))
section
variable {fl : Nat} {a : HAct} {h : Tr HBlk} {nx : Nat}
theorem fin_mark {σ0 : HS} {t m : Nat} {K : HV → HS → Prop} {v : HV} (hd : a.defers = [m]) (hg : h.get m = some .marks) (hm : σ0.nx ≤ m) (hv : a.tmp t = v) (hk : K v (gcH σ0 ⟨h.set m none, nx⟩ v)) : Fin σ0 [.t t] K .ret a ⟨h, nx⟩ := by
  unfold Fin
  exact ⟨_, _, leave_mark hd hg hm (res_t hv res_nil), hk⟩
end
theorem YS.mono {fl lb : Nat} {args : List HV} {h : Tr HBlk} {nx : Nat} {K K' : Tr HBlk → Nat → Prop} (hs : YS fl lb args h nx K) (hk : ∀ h' n', K h' n' → K' h' n') : YS fl lb args h nx K' := by
  unfold YS at *
  exact fun os N a dst f xs anc hf ha hn => hs os N a dst f xs anc hf ha fun h' n' e => hn h' n' (hk h' n' e)
def pP (l : List (Int × Int)) (j : Nat) : Int := (l.getD j (0, 0)).1
def pH (l : List (Int × Int)) (j : Nat) : Int := (l.getD j (0, 0)).2
theorem pP_at {l : List (Int × Int)} {j : Nat} (h : j < l.length) : pP l j = l[j].1 := by unfold pP; rw [List.getD_eq_getElem?_getD, List.getElem?_eq_getElem h]; rfl
theorem pH_at {l : List (Int × Int)} {j : Nat} (h : j < l.length) : pH l j = l[j].2 := by unfold pH; rw [List.getD_eq_getElem?_getD, List.getElem?_eq_getElem h]; rfl
def stp (l : List (Int × Int)) (x : Int) : Int := stg (pP l) (pH l) x (l.length - 1)
theorem tb_ok {l : List (Int × Int)} (h : chkT l = 0) : TbOk l := by
  unfold chkT at h
  split at h
  · split at h
    · assumption
    · cases h
  · cases h
theorem ris_at : ∀ {l : List (Int × Int)}, Ris l → ∀ (j : Nat) (hj : j + 1 < l.length), Pre l[j] l[j + 1]
  | [], _, j, hj => by simp at hj
  | [s], _, j, hj => by simp at hj
  | s :: q :: l, h, 0, hj => h.1
  | s :: q :: l, h, j + 1, hj => ris_at (l := q :: l) h.2 j (by simpa using hj)
theorem up_tb {l : List (Int × Int)} (h : TbOk l) : Upw (pP l) (pH l) l.length :=
  ⟨fun j hj => by rw [pP_at (by omega), pP_at hj]; exact (ris_at h.2.2 j hj).1, fun j hj => by rw [pH_at (by omega), pH_at hj]; exact (ris_at h.2.2 j hj).2⟩
/- 66 -/
theorem round66 {fl lb mb hb xb : Nat} {T : Tr HV} {h : Tr HBlk} {nx : Nat} {u v : Int × Int} {x w : Int} (hd : D h nx) (hfl : fl ≤ lb) (hfh : fl ≤ hb) (hlb : lb < nx) (hhb : hb < nx) (hxb : xb < nx) (n1 : hb ≠ lb) (n2 : hb ≠ xb) (n3 : xb ≠ lb)
    (gl : h.get lb = some (.loop ⟨.ready, .normal, 36, T, [12, 13], AS66, BD66, mb⟩)) (gh : h.get hb = some (.cells [i64 w] .exact)) (gx : h.get xb = some (.cells [i64 x] .exact)) (t3 : (⟨36, T, []⟩ : HAct).tmp 3 = .ptr (some (xb, 0))) (t5 : (⟨36, T, []⟩ : HAct).tmp 5 = .ptr (some (hb, 0)))
    (su : StOk u) (sv : StOk v) (hp : Pre u v) (hx1 : u.1 ≤ x) (hx2 : x ≤ v.1) :
    YS fl lb [.agg (renc u), .agg (renc v)] h nx (fun h' n' => nx ≤ n' ∧ D h' n' ∧ h'.get hb = some (.cells [i64 (u.2 + ((v.2 - u.2) * (x - u.1)) / (v.1 - u.1))] .exact) ∧ ∀ b, b < nx → b ≠ hb → h'.get b = h.get b) := by
  unfold StOk at su sv
  unfold Pre at hp
  unfold YS
  intro os N a dst f xs anc hf ha hk
  have m0 : 0 ≤ (v.2 - u.2) * (x - u.1) := Int.mul_nonneg (by omega) (by omega)
  have m1 : (v.2 - u.2) * (x - u.1) ≤ 2000 * 2000 := Int.mul_le_mul (by omega) (by omega) (by omega) (by omega)
  have d0 : 0 ≤ ((v.2 - u.2) * (x - u.1)) / (v.1 - u.1) := Int.ediv_nonneg m0 (by omega)
  have d1 : ((v.2 - u.2) * (x - u.1)) / (v.1 - u.1) ≤ (v.2 - u.2) * (x - u.1) := Int.ediv_le_self _ m0
  have hB : Big ((v.2 - u.2) * (x - u.1)) := by unfold Big; omega
  have cD : ∀ fl h' n', C LW fl 91 [.agg [i64 ((v.2 - u.2) * (x - u.1)), i64 (v.1 - u.1)]] ⟨h', n'⟩ (Sc (· = i64 (((v.2 - u.2) * (x - u.1)) / (v.1 - u.1))) ⟨h', n'⟩) := fun fl h' n' => c_down hB (by omega)
  have ow : ∀ r : Int × Int, overwrite [i64 0, i64 0] 0 (HV.agg (renc r)).cells = some (renc r) := fun r => rfl
  have ow2 : ∀ p q : Int, overwrite [i64 0, i64 0] 0 (HV.agg [i64 p, i64 q]).cells = some [i64 p, i64 q] := fun p q => rfl
  have ow1 : ∀ p q : Int, overwrite [i64 p] 0 (i64 q).cells = some [i64 q] := fun p q => rfl
  have tk2 : ∀ p q : Int, takeN 2 ([i64 p, i64 q].drop 0) = some [i64 p, i64 q] := fun p q => rfl
  refine r_yield hf ha gl rfl ?_
  have z12 : (⟨36, (T.set 12 (some (.agg (renc u)))).set 13 (some (.agg (renc v))), []⟩ : HAct).tmp 12 = .agg (renc u) := by
    show (((T.set 12 (some (.agg (renc u)))).set 13 (some (.agg (renc v)))).get 12).getD .undef = _
    rw [Tr.get_set, if_neg (by decide), Tr.get_set, if_pos rfl]; rfl
  have z13 : (⟨36, (T.set 12 (some (.agg (renc u)))).set 13 (some (.agg (renc v))), []⟩ : HAct).tmp 13 = .agg (renc v) := by
    show (((T.set 12 (some (.agg (renc u)))).set 13 (some (.agg (renc v)))).get 13).getD .undef = _
    rw [Tr.get_set, if_pos rfl]; rfl
  have z3 : (⟨36, (T.set 12 (some (.agg (renc u)))).set 13 (some (.agg (renc v))), []⟩ : HAct).tmp 3 = .ptr (some (xb, 0)) := by
    rw [← t3]
    show (((T.set 12 (some (.agg (renc u)))).set 13 (some (.agg (renc v)))).get 3).getD .undef = (T.get 3).getD .undef
    rw [Tr.get_set, if_neg (by decide), Tr.get_set, if_neg (by decide)]
  have z5 : (⟨36, (T.set 12 (some (.agg (renc u)))).set 13 (some (.agg (renc v))), []⟩ : HAct).tmp 5 = .ptr (some (hb, 0)) := by
    rw [← t5]
    show (((T.set 12 (some (.agg (renc u)))).set 13 (some (.agg (renc v)))).get 5).getD .undef = (T.get 5).getD .undef
    rw [Tr.get_set, if_neg (by decide), Tr.get_set, if_neg (by decide)]
  have key : ∀ a0 : HAct, a0.nt = 36 → a0.defers = [] → a0.tmp 12 = .agg (renc u) → a0.tmp 13 = .agg (renc v) → a0.tmp 3 = .ptr (some (xb, 0)) → a0.tmp 5 = .ptr (some (hb, 0)) → W LW fl (some lb) AS66 (YA LW fl lb BD66 os N a dst) a0 ⟨h, nx⟩ := by
    intro a0 hnt hds t12 t13 t3 t5
    unfold AS66
    repeat' first
     | refine r_nil ?_
     | refine th_n ?_
     | refine w_seq ?_
     | refine w_reg ?_
     | refine r_alloc ?_
     | refine r_st (cs' := _) (by simp (disch:=first|decide|(simp only[zF,zG,hnt, t12, t13, t3, t5];decide)) only [zA,zB,zC,zD,zE,zF,zG,zH,zI,zJ,zK,HV.cells,fl0,fl2,flS,flS1,flI1,flU1,flU2,flF,hnt, t12, t13, t3, t5]; try exact rfl) (by simp (disch:=first|decide|(simp only[zF,zG,hnt, t12, t13, t3, t5];decide)) only [zA,zB,zC,zD,zE,zF,zG,zH,zI,zJ,zK,HV.cells,fl0,fl2,flS,flS1,flI1,flU1,flU2,flF,hnt, t12, t13, t3, t5]; try exact rfl) (by first|assumption|(simp (disch:=omega) only [get_same,get_other,hnt, t12, t13, t3, t5]; first|done|exact rfl)) (by exact True.intro) (by rfl) (by rfl) (by first|assumption|exact ow2 _ _ _ _|exact ow3 _ _ _ _ _ _|rfl|(simp only [zI,zJ,HV.cells,hnt, t12, t13, t3, t5]; exact rfl)) (by omega) ?_
     | fail
    unfold YA
    refine ⟨rfl, ⟨.ready, .normal, 36, T, [12, 13], AS66, BD66, mb⟩, (by first|assumption|(simp (disch:=omega) only [get_same,get_other,gl]; first|done|exact rfl)), rfl, hfl, ?_⟩
    dsimp only
    unfold BD66
    repeat' first
     | refine r_nil ?_
     | refine th_n ?_
     | refine ib_n ?_
     | refine w_seq ?_
     | refine w_reg ?_
     | refine w_block ?_
     | refine r_fa (by simp (disch:=first|decide|(simp only[zF,zG,hnt, t12, t13, t3, t5, gx, gh];decide)) only [zA,zB,zC,zD,zE,zF,zG,zH,zI,zJ,zK,HV.cells,fl0,fl2,flS,flS1,flI1,flU1,flU2,flF,hnt, t12, t13, t3, t5, gx, gh]; try exact rfl) ?_
     | refine r_ld1 (by simp (disch:=first|decide|(simp only[zF,zG,hnt, t12, t13, t3, t5, gx, gh];decide)) only [zA,zB,zC,zD,zE,zF,zG,zH,zI,zJ,zK,HV.cells,fl0,fl2,flS,flS1,flI1,flU1,flU2,flF,hnt, t12, t13, t3, t5, gx, gh]; try exact rfl) (by first|assumption|(simp (disch:=omega) only [get_same,get_other,hnt, t12, t13, t3, t5, gx, gh]; first|done|exact rfl)) (by first|assumption|exact ow2 _ _ _ _|exact ow3 _ _ _ _ _ _|rfl|(simp only [zI,zJ,HV.cells,hnt, t12, t13, t3, t5, gx, gh]; exact rfl)) ?_
     | refine r_ldn (by simp (disch:=first|decide|(simp only[zF,zG,hnt, t12, t13, t3, t5, gx, gh];decide)) only [zA,zB,zC,zD,zE,zF,zG,zH,zI,zJ,zK,HV.cells,fl0,fl2,flS,flS1,flI1,flU1,flU2,flF,hnt, t12, t13, t3, t5, gx, gh]; try exact rfl) (by first|assumption|(simp (disch:=omega) only [get_same,get_other,hnt, t12, t13, t3, t5, gx, gh]; first|done|exact rfl)) (by first|assumption|exact ow2 _ _ _ _|exact ow3 _ _ _ _ _ _|rfl|(simp only [zI,zJ,HV.cells,hnt, t12, t13, t3, t5, gx, gh]; exact rfl)) ?_
     | refine r_alloc ?_
     | refine r_st (cs' := _) (by simp (disch:=first|decide|(simp only[zF,zG,hnt, t12, t13, t3, t5, gx, gh];decide)) only [zA,zB,zC,zD,zE,zF,zG,zH,zI,zJ,zK,HV.cells,fl0,fl2,flS,flS1,flI1,flU1,flU2,flF,hnt, t12, t13, t3, t5, gx, gh]; try exact rfl) (by simp (disch:=first|decide|(simp only[zF,zG,hnt, t12, t13, t3, t5, gx, gh];decide)) only [zA,zB,zC,zD,zE,zF,zG,zH,zI,zJ,zK,HV.cells,fl0,fl2,flS,flS1,flI1,flU1,flU2,flF,hnt, t12, t13, t3, t5, gx, gh]; try exact rfl) (by first|assumption|(simp (disch:=omega) only [get_same,get_other,hnt, t12, t13, t3, t5, gx, gh]; first|done|exact rfl)) (by exact True.intro) (by rfl) (by rfl) (by first|assumption|exact ow2 _ _ _ _|exact ow3 _ _ _ _ _ _|rfl|(simp only [zI,zJ,HV.cells,hnt, t12, t13, t3, t5, gx, gh]; exact rfl)) (by omega) ?_
     | refine r_add (by simp (disch:=first|decide|(simp only[zF,zG,hnt, t12, t13, t3, t5, gx, gh];decide)) only [zA,zB,zC,zD,zE,zF,zG,zH,zI,zJ,zK,HV.cells,fl0,fl2,flS,flS1,flI1,flU1,flU2,flF,hnt, t12, t13, t3, t5, gx, gh]; try exact rfl) (by simp (disch:=first|decide|(simp only[zF,zG,hnt, t12, t13, t3, t5, gx, gh];decide)) only [zA,zB,zC,zD,zE,zF,zG,zH,zI,zJ,zK,HV.cells,fl0,fl2,flS,flS1,flI1,flU1,flU2,flF,hnt, t12, t13, t3, t5, gx, gh]; try exact rfl) (by omega) (by omega) ?_
     | refine r_sub (by simp (disch:=first|decide|(simp only[zF,zG,hnt, t12, t13, t3, t5, gx, gh];decide)) only [zA,zB,zC,zD,zE,zF,zG,zH,zI,zJ,zK,HV.cells,fl0,fl2,flS,flS1,flI1,flU1,flU2,flF,hnt, t12, t13, t3, t5, gx, gh]; try exact rfl) (by simp (disch:=first|decide|(simp only[zF,zG,hnt, t12, t13, t3, t5, gx, gh];decide)) only [zA,zB,zC,zD,zE,zF,zG,zH,zI,zJ,zK,HV.cells,fl0,fl2,flS,flS1,flI1,flU1,flU2,flF,hnt, t12, t13, t3, t5, gx, gh]; try exact rfl) (by omega) (by omega) ?_
     | refine r_mul (by simp (disch:=first|decide|(simp only[zF,zG,hnt, t12, t13, t3, t5, gx, gh];decide)) only [zA,zB,zC,zD,zE,zF,zG,zH,zI,zJ,zK,HV.cells,fl0,fl2,flS,flS1,flI1,flU1,flU2,flF,hnt, t12, t13, t3, t5, gx, gh]; try exact rfl) (by simp (disch:=first|decide|(simp only[zF,zG,hnt, t12, t13, t3, t5, gx, gh];decide)) only [zA,zB,zC,zD,zE,zF,zG,zH,zI,zJ,zK,HV.cells,fl0,fl2,flS,flS1,flI1,flU1,flU2,flF,hnt, t12, t13, t3, t5, gx, gh]; try exact rfl) (by omega) (by omega) ?_
     | refine r_build (by simp (disch:=first|decide|(simp only[zF,zG,hnt, t12, t13, t3, t5, gx, gh];decide)) only [evParts,List.map_cons,List.map_nil,List.nil_append,List.cons_append,List.append_nil,zA,zB,zC,zD,zE,zF,zG,zH,zI,zJ,zK,HV.cells,fl0,fl2,flS,flS1,flI1,flU1,flU2,flF,hnt, t12, t13, t3, t5, gx, gh]; try exact rfl) ?_
     | refine r_calls (by simp (disch:=first|decide|(simp only[zF,zG,hnt, t12, t13, t3, t5, gx, gh];decide)) only [zA,zB,zC,zD,zE,zF,zG,zH,zI,zJ,zK,HV.cells,fl0,fl2,flS,flS1,flI1,flU1,flU2,flF,hnt, t12, t13, t3, t5, gx, gh]; try exact rfl) (by simp (disch:=first|decide|(simp only[zF,zG,hnt, t12, t13, t3, t5, gx, gh];decide)) only [List.map_cons,List.map_nil,List.nil_append,List.cons_append,List.append_nil,zA,zB,zC,zD,zE,zF,zG,zH,zI,zJ,zK,HV.cells,fl0,fl2,flS,flS1,flI1,flU1,flU2,flF,hnt, t12, t13, t3, t5, gx, gh]; first|done|exact rfl) (cD _ _ _) (fun n' hn' => ?_)
     | refine w_draw (by omega) (by (repeat' first|assumption|refine D.upd ?_ (by omega)|exact D.mono (by assumption) (by omega)) <;> fail) ?_
     | refine d_rest rfl ?_
     | refine d_one rfl rfl ?_
     | refine d_next (by omega) ?_
     | fail
    unfold YB
    refine ⟨⟨.busy, .normal, 36, T, [12, 13], AS66, BD66, mb⟩, (by first|assumption|(simp (disch:=omega) only [get_same,get_other]; first|done|exact rfl)), fun _ => ?_, fun e => absurd rfl e⟩
    dsimp only
    refine hk _ _ ⟨by omega, (by (repeat' first|assumption|refine D.upd ?_ (by omega)|exact D.mono (by assumption) (by omega)) <;> fail), (by first|assumption|(simp (disch:=omega) only [get_same,get_other]; first|done|exact rfl)), fun b hb1 hb2 => ?_⟩
    by_cases e : b = lb
    · subst e; rw [get_same, gl]
    · simp (disch := omega) only [get_other]
  exact key _ rfl rfl z12 z13 z3 z5
theorem range66 {fl n0 hb xb tb : Nat} {a : HAct} {h0 h : Tr HBlk} {nx : Nat} {Q : HExit → HAct → HS → Prop} {p : Option (Nat × Nat)} {l : List (Int × Int)} {cp : Nat} {x : Int} (hlen : l.length < 1000000000) (hcp : l.length ≤ cp) (he : Ext h0 n0 h nx) (hfl : fl ≤ n0) (hrow : Row renc 2 h0 n0 p l) (ht : TbOk l)
    (b1 : n0 ≤ hb ∧ hb < nx) (b2 : xb < nx) (b3 : tb < nx) (n2 : hb ≠ xb) (n3 : hb ≠ tb) (b4 : n0 ≤ xb) (b5 : n0 ≤ tb) (gh : h.get hb = some (.cells [i64 0] .exact)) (gx : h.get xb = some (.cells [i64 x] .exact)) (gt : h.get tb = some (.cells [.slice p l.length cp] .exact))
    (xb' : Nat) (b6 : xb' < nx) (n4 : hb ≠ xb') (gx' : h.get xb' = some (.cells [i64 x] .exact))
    (hnt : a.nt = 36) (hds : a.defers = []) (t3 : a.tmp 3 = .ptr (some (xb', 0))) (t5 : a.tmp 5 = .ptr (some (hb, 0))) (t11 : a.tmp 11 = .func 102 [] [.ptr (some (tb, 0)), .ptr (some (xb, 0))])
    (hq : ∀ h' n', nx ≤ n' → h'.get nx = some .marks → h'.get hb = some (.cells [i64 (stp l x)] .exact) → Q .normal { a with defers := [nx] } ⟨h', n'⟩) : W LW fl none (.rangeFunc (.t 11) [12, 13] AS66 BD66) Q a ⟨h, nx⟩ := by
  have hd := he.d
  have hle := he.le
  obtain ⟨H0, hH⟩ : ∃ H, H = (h.set nx (some .marks)).set (nx + 1) (some (.loop ⟨.ready, .normal, a.nt, a.tmps, [12, 13], AS66, BD66, nx⟩)) := ⟨_, rfl⟩
  have gL : H0.get (nx + 1) = some (.loop ⟨.ready, .normal, 36, a.tmps, [12, 13], AS66, BD66, nx⟩) := by rw [hH, get_same, hnt]
  have gM : H0.get nx = some .marks := by rw [hH, get_other _ _ (by omega), get_same]
  have gO : ∀ b, b < nx → H0.get b = h.get b := fun b hb => by rw [hH, get_other _ _ (by omega), get_other _ _ (by omega)]
  obtain ⟨I, hI⟩ : ∃ I : Nat → Tr HBlk → Nat → Prop, I = fun j h' n' => D h' n' ∧ nx + 1 + 1 ≤ n' ∧ (∀ b, b < nx + 1 + 1 → b ≠ hb → h'.get b = H0.get b) ∧ h'.get hb = some (.cells [i64 (stg (pP l) (pH l) x j)] .exact) := ⟨_, rfl⟩
  have R : Rng I fl (nx + 1) tb xb p l cp x := by
    subst hI
    refine ⟨fun j h' n' ⟨i1, i2, i3, i4⟩ => ?_, fun j h' n' h2 n2 ⟨i1, i2, i3, i4⟩ e => ?_, fun j hj hx1 hx2 h' n' ⟨i1, i2, i3, i4⟩ => ?_, fun j hj hnb h' n' ⟨i1, i2, i3, i4⟩ => ?_⟩
    · refine ⟨i1, by omega, by omega, by omega, ?_, ?_, ?_⟩
      · rw [i3 tb (by omega) (Ne.symm n3), gO _ b3, gt]
      · rw [i3 xb (by omega) (Ne.symm n2), gO _ b2, gx]
      · intro hne
        obtain ⟨b, o, cs, k, rfl, hb', hg, hcs⟩ := hrow hne
        exact ⟨b, o, cs, k, rfl, by omega, by rw [i3 b (by omega) (by omega), gO _ (by omega), he.same b hb', hg], hcs⟩
    · have l2 := e.le
      exact ⟨e.d, by omega, fun b h1 h2 => by rw [e.same b (by omega), i3 b h1 h2], by rw [e.same hb (by omega), i4]⟩
    · have sj := ht.2.1 l[j] (List.getElem_mem (by omega))
      have sk := ht.2.1 l[j + 1] (List.getElem_mem hj)
      have r := round66 (fl := fl) (lb := nx + 1) (mb := nx) (hb := hb) (xb := xb') (T := a.tmps) (x := x) i1 (by omega) (by omega) (by omega) (by omega) (by omega) (by omega) n4 (by omega) (by rw [i3 _ (by omega) (by omega), gL]) i4 (by rw [i3 xb' (by omega) (Ne.symm n4), gO _ b6, gx']) t3 t5 sj sk (ris_at ht.2.2 j hj) hx1 hx2
      refine r.mono fun h2 n2 ⟨k1, k2, k3, k4⟩ => ⟨k2, by omega, fun b c1 c2 => by rw [k4 b (by omega) c2, i3 b c1 c2], ?_⟩
      rw [k3]
      have e : stg (pP l) (pH l) x (j + 1) = l[j].2 + ((l[j + 1].2 - l[j].2) * (x - l[j].1)) / (l[j + 1].1 - l[j].1) := by
        unfold stg
        rw [pP_at (by omega), pP_at hj, if_pos ⟨hx1, hx2⟩]
        unfold stv
        rw [pP_at (by omega), pP_at hj, pH_at (by omega), pH_at hj]
      rw [e]
    · refine ⟨i1, i2, i3, ?_⟩
      rw [i4]
      have e : stg (pP l) (pH l) x (j + 1) = stg (pP l) (pH l) x j := by
        show (if pP l j ≤ x ∧ x ≤ pP l (j + 1) then stv (pP l) (pH l) x j else stg (pP l) (pH l) x j) = _
        rw [pP_at (by omega), pP_at hj, if_neg hnb]
      rw [e]
  have i0 : I 0 H0 (nx + 1 + 1) := by
    subst hI
    refine ⟨?_, Nat.le_refl _, fun _ _ _ => rfl, by rw [gO _ b1.2, gh]; rfl⟩
    rw [hH]; exact (hd.put (n := nx + 1) (by omega) (by omega)).put (n := nx + 1 + 1) (by omega) (by omega)
  refine w_range (first := []) (captured := [.ptr (some (tb, 0)), .ptr (some (xb, 0))]) t11 (K := fun v σ' => ∃ h' n', σ' = ⟨h', n'⟩ ∧ I (l.length - 1) h' n') ?_ ?_
  · rw [← hH]
    exact c_around102 hlen hcp (by have := ht.1; omega) R i0
  · rintro v σ' ⟨h', n', rfl, hi⟩
    subst hI
    obtain ⟨i1, i2, i3, i4⟩ := hi
    refine ⟨_, (i3 (nx + 1) (by omega) (by omega)).trans gL, (by intro e; cases e), by omega, ?_⟩
    rw [hds]
    refine hq _ n' (by omega) ?_ ?_
    · rw [get_other _ _ (by omega), i3 nx (by omega) (by omega), gM]
    · rw [get_other _ _ (by omega), i4]; rfl
/- 66 -/
theorem c_steamAt {fl : Nat} {h : Tr HBlk} {nx : Nat} (hd : D h nx) {p : Option (Nat × Nat)} {l : List (Int × Int)} {n cp : Nat} {x : Int} (hn : n = l.length) (hcp : l.length ≤ cp) (hlen : l.length < 1000000000) (hrow : Row renc 2 h nx p l) (ht : TbOk l) :
    C LW fl 66 [.slice p n cp, i64 x] ⟨h, nx⟩ (Sc (· = i64 (stp l x)) ⟨h, nx⟩) := by
  subst hn
  have ow1 : ∀ p q : Int, overwrite [i64 p] 0 (i64 q).cells = some [i64 q] := fun p q => rfl
  refine c_in lw66 rfl rfl rfl ?_
  dsimp only [L66]
  repeat' first
   | refine r_nil ?_
   | refine th_n ?_
   | refine w_seq ?_
   | refine w_reg ?_
   | refine r_move (by simp (disch:=first|decide|(simp only[zF,zG];decide)) only [zA,zB,zC,zD,zE,zF,zG,zH,zI,zJ,zK,HV.cells,fl0,fl2,flS,flS1,flI1,flU1,flU2,flF]; try exact rfl) ?_
   | refine r_ld1 (by simp (disch:=first|decide|(simp only[zF,zG];decide)) only [zA,zB,zC,zD,zE,zF,zG,zH,zI,zJ,zK,HV.cells,fl0,fl2,flS,flS1,flI1,flU1,flU2,flF]; try exact rfl) (by first|assumption|(simp (disch:=omega) only [get_same,get_other]; first|done|exact rfl)) (by first|assumption|exact ow2 _ _ _ _|exact ow3 _ _ _ _ _ _|rfl|(simp only [zI,zJ,HV.cells]; exact rfl)) ?_
   | refine r_box (by simp (disch:=first|decide|(simp only[zF,zG];decide)) only [zA,zB,zC,zD,zE,zF,zG,zH,zI,zJ,zK,HV.cells,fl0,fl2,flS,flS1,flI1,flU1,flU2,flF]; try exact rfl) ?_
   | refine r_alloc ?_
   | refine r_st (cs' := _) (by simp (disch:=first|decide|(simp only[zF,zG];decide)) only [zA,zB,zC,zD,zE,zF,zG,zH,zI,zJ,zK,HV.cells,fl0,fl2,flS,flS1,flI1,flU1,flU2,flF]; try exact rfl) (by simp (disch:=first|decide|(simp only[zF,zG];decide)) only [zA,zB,zC,zD,zE,zF,zG,zH,zI,zJ,zK,HV.cells,fl0,fl2,flS,flS1,flI1,flU1,flU2,flF]; try exact rfl) (by first|assumption|(simp (disch:=omega) only [get_same,get_other]; first|done|exact rfl)) (by exact True.intro) (by rfl) (by rfl) (by first|assumption|exact ow2 _ _ _ _|exact ow3 _ _ _ _ _ _|rfl|(simp only [zI,zJ,HV.cells]; exact rfl)) (by omega) ?_
   | fail
  refine r_callc (by simp (disch:=first|decide|(simp only[zF,zG];decide)) only [zA,zB,zC,zD,zE,zF,zG,zH,zI,zJ,zK,HV.cells,fl0,fl2,flS,flS1,flI1,flU1,flU2,flF]; try exact rfl) (by simp (disch:=first|decide|(simp only[zF,zG];decide)) only [List.map_cons,List.map_nil,List.nil_append,List.cons_append,List.append_nil,zA,zB,zC,zD,zE,zF,zG,zH,zI,zJ,zK,HV.cells,fl0,fl2,flS,flS1,flI1,flU1,flU2,flF]; try exact rfl) (c_around (p := p) (n := l.length) (cp := cp) (x := x) (by (repeat' first|assumption|refine D.upd ?_ (by omega)|exact D.mono (by assumption) (by omega)) <;> fail)) ?_
  rintro v σ ⟨h1, n1, rfl, rfl, e1, hn1, g1, g2⟩
  have e2 : Ext h nx h1 n1 := by
    have := e1.le
    exact ⟨by omega, e1.d, fun b hb => by rw [e1.same b (by omega)]; simp (disch := omega) only [get_other]⟩
  repeat' first
   | refine r_nil ?_
   | refine th_n ?_
   | refine w_block ?_
   | fail
  refine range66 (tb := nx + 1 + 1) (xb := nx + 1 + 1 + 1) (hb := nx + 1) hlen hcp e2 (Nat.le_refl _) hrow ht (by omega) (by omega) (by omega) (by omega) (by omega) (by omega) (by omega) ?_ g2 g1 nx (by omega) (by omega) ?_ ?_ ?_ ?_ ?_ ?_ (fun h' n' l1 l2 l3 => ?_)
  all_goals try first|(simp only [zL,zM,zF,zG];done)|(simp (disch:=first|decide|(simp only[zF,zG];decide)) only [zA,zB,zC,zD,zE,zF,zG,zH,zI,zJ,zK,HV.cells,fl0,fl2,flS,flS1,flI1,flU1,flU2,flF];first|done|exact rfl)|assumption
  · rw [e1.same _ (by omega)]; exact (by first|assumption|(simp (disch:=omega) only [get_same,get_other]; first|done|exact rfl))
  · rw [e1.same _ (by omega)]; exact (by first|assumption|(simp (disch:=omega) only [get_same,get_other]; first|done|exact rfl))
  · repeat' first
     | refine r_nil ?_
     | refine th_n ?_
     | refine ib_n ?_
     | refine w_seq ?_
     | refine w_reg ?_
     | refine w_ret ?_
     | refine r_move (by simp (disch:=first|decide|(simp only[zF,zG,l3];decide)) only [zA,zB,zC,zD,zE,zF,zG,zH,zI,zJ,zK,HV.cells,fl0,fl2,flS,flS1,flI1,flU1,flU2,flF,l3]; try exact rfl) ?_
     | refine r_ld1 (by simp (disch:=first|decide|(simp only[zF,zG,l3];decide)) only [zA,zB,zC,zD,zE,zF,zG,zH,zI,zJ,zK,HV.cells,fl0,fl2,flS,flS1,flI1,flU1,flU2,flF,l3]; try exact rfl) (by first|assumption|(simp (disch:=omega) only [get_same,get_other,l3]; first|done|exact rfl)) (by first|assumption|exact ow2 _ _ _ _|exact ow3 _ _ _ _ _ _|rfl|(simp only [zI,zJ,HV.cells,l3]; exact rfl)) ?_
     | fail
    refine fin_mark (by simp only [zL,zM]) l2 (by dsimp only; omega) (by simp (disch:=first|decide|(simp only[zF,zG];decide)) only [zA,zB,zC,zD,zE,zF,zG,zH,zI,zJ,zK,HV.cells,fl0,fl2,flS,flS1,flI1,flU1,flU2,flF]; try exact rfl) (sc_flat rfl (by dsimp only; omega) rfl)
end Go.Hx

/- Layer 3: between which heights steam is, and what is right on a scale that was set there. -/
namespace Go.Hx
set_option linter.unusedSimpArgs false
set_option linter.unusedVariables false
set_option maxRecDepth 20000
set_option maxHeartbeats 4000000
attribute [local irreducible] W R C thenH inBlockH
--dropu
def PrOk (l : List (Int × Int)) (q : Int × Int) : Prop := pP l 0 ≤ q.1 ∧ q.1 ≤ q.2 ∧ q.2 ≤ pP l (l.length - 1)
instance (l : List (Int × Int)) (q : Int × Int) : Decidable (PrOk l q) := by unfold PrOk; infer_instance
def boi (l : List (Int × Int)) (q : Int × Int) : (Int × Int) × Int := if chkT l = 0 then (if PrOk l q then ((stp l q.1, stp l q.2), 0) else ((0, 0), 2)) else ((0, 0), chkT l)
theorem chkR_s {s r : Int × Int} (h : chkR [s] r = 0) : SOk s.1 s.2 := (chk_zero h).2.1 s (List.mem_singleton.2 rfl)
theorem chkR_r {s r : Int × Int} (h : chkR [s] r = 0) : ROk r.1 r.2 := (chk_zero h).2.2.2
/- 30 -/
theorem c_Boils {fl : Nat} {h : Tr HBlk} {nx : Nat} (hd : D h nx) {p : Option (Nat × Nat)} {l : List (Int × Int)} {n cp : Nat} {q : Int × Int} (hn : n = l.length) (hcp : l.length ≤ cp) (hlen : l.length < 1000000000) (hrow : Row renc 2 h nx p l) :
    C LW fl 30 [.slice p n cp, .agg (renc q)] ⟨h, nx⟩ (Sc (· = .tuple [.agg (renc (boi l q).1), i64 (boi l q).2]) ⟨h, nx⟩) := by
  subst hn
  have cC : ∀ fl h' n', Ext h nx h' n' → C LW fl 63 [.slice p l.length cp] ⟨h', n'⟩ (Sc (· = i64 (chkT l)) ⟨h', n'⟩) := fun fl h' n' e => c_checkTable e.d rfl hlen (hrow.ext e)
  refine c_in lw30 rfl rfl rfl ?_
  dsimp only [L30]
  unfold boi
  by_cases hc : chkT l = 0
  · rw [if_pos hc]
    rw [hc] at cC
    have ht := tb_ok hc
    obtain ⟨h2, hs, hr⟩ := ht
    have hL : pP l 0 = l[0].1 := pP_at (by omega)
    have hR : pP l (l.length - 1) = l[l.length - 1].1 := pP_at (by omega)
    have cP : ∀ fl h' n', Ext h nx h' n' → C LW fl 65 [.slice p l.length cp] ⟨h', n'⟩ (Sc (· = .agg [i64 l[0].1, i64 l[l.length - 1].1]) ⟨h', n'⟩) := fun fl h' n' e => c_pressuresOf e.d rfl (by omega) hlen (hrow.ext e)
    have cS : ∀ fl h' n' x, Ext h nx h' n' → C LW fl 66 [.slice p l.length cp, i64 x] ⟨h', n'⟩ (Sc (· = i64 (stp l x)) ⟨h', n'⟩) := fun fl h' n' x e => c_steamAt e.d rfl hcp hlen (hrow.ext e) ⟨h2, hs, hr⟩
    have cL : ∀ fl h' n', C LW fl 64 [.agg (renc q), .agg [i64 l[0].1, i64 l[l.length - 1].1]] ⟨h', n'⟩ (Sc (· = .bool (decide (PrOk l q))) ⟨h', n'⟩) := fun fl h' n' => by
      have := c_liesIn (fl := fl) (h := h') (nx := n') (a := q.1) (b := q.2) (lo := l[0].1) (hi := l[l.length - 1].1)
      rwa [show decide (q.1 ≤ q.2 ∧ (l[0].1 ≤ q.1 ∧ q.1 ≤ l[l.length - 1].1) ∧ (l[0].1 ≤ q.2 ∧ q.2 ≤ l[l.length - 1].1)) = decide (PrOk l q) by congr 1; unfold PrOk; rw [hL, hR]; exact propext ⟨fun h => by omega, fun h => by omega⟩] at this
    by_cases hk : PrOk l q
    · rw [if_pos hk]
      rw [decide_eq_true hk] at cL
      repeat' first
       | refine r_nil ?_
       | refine th_n ?_
       | refine w_seq ?_
       | refine w_reg ?_
       | refine w_ret ?_
       | refine w_skip ?_
       | refine w_f (by simp (disch:=first|decide|(simp only[zF,zG];decide)) only [zA,zB,zC,zD,zE,zF,zG,zH,zI,zJ,zK,HV.cells,fl0,fl2,flS,flS1,flI1,flU1,flU2,flF]; first|done|exact rfl) ?_
       | refine r_move (by simp (disch:=first|decide|(simp only[zF,zG];decide)) only [zA,zB,zC,zD,zE,zF,zG,zH,zI,zJ,zK,HV.cells,fl0,fl2,flS,flS1,flI1,flU1,flU2,flF]; try exact rfl) ?_
       | refine r_fa (by simp (disch:=first|decide|(simp only[zF,zG];decide)) only [zA,zB,zC,zD,zE,zF,zG,zH,zI,zJ,zK,HV.cells,fl0,fl2,flS,flS1,flI1,flU1,flU2,flF]; try exact rfl) ?_
       | refine r_ld1 (by simp (disch:=first|decide|(simp only[zF,zG];decide)) only [zA,zB,zC,zD,zE,zF,zG,zH,zI,zJ,zK,HV.cells,fl0,fl2,flS,flS1,flI1,flU1,flU2,flF]; try exact rfl) (by first|assumption|(simp (disch:=omega) only [get_same,get_other]; first|done|exact rfl)) (by first|assumption|exact ow2 _ _ _ _|exact ow3 _ _ _ _ _ _|rfl|(simp only [zI,zJ,HV.cells]; exact rfl)) ?_
       | refine r_ldn (by simp (disch:=first|decide|(simp only[zF,zG];decide)) only [zA,zB,zC,zD,zE,zF,zG,zH,zI,zJ,zK,HV.cells,fl0,fl2,flS,flS1,flI1,flU1,flU2,flF]; try exact rfl) (by first|assumption|(simp (disch:=omega) only [get_same,get_other]; first|done|exact rfl)) (by first|assumption|exact ow2 _ _ _ _|exact ow3 _ _ _ _ _ _|rfl|(simp only [zI,zJ,HV.cells]; exact rfl)) ?_
       | refine r_box (by simp (disch:=first|decide|(simp only[zF,zG];decide)) only [zA,zB,zC,zD,zE,zF,zG,zH,zI,zJ,zK,HV.cells,fl0,fl2,flS,flS1,flI1,flU1,flU2,flF]; try exact rfl) ?_
       | refine r_alloc ?_
       | refine r_st (cs' := _) (by simp (disch:=first|decide|(simp only[zF,zG];decide)) only [zA,zB,zC,zD,zE,zF,zG,zH,zI,zJ,zK,HV.cells,fl0,fl2,flS,flS1,flI1,flU1,flU2,flF]; try exact rfl) (by simp (disch:=first|decide|(simp only[zF,zG];decide)) only [zA,zB,zC,zD,zE,zF,zG,zH,zI,zJ,zK,HV.cells,fl0,fl2,flS,flS1,flI1,flU1,flU2,flF]; try exact rfl) (by first|assumption|(simp (disch:=omega) only [get_same,get_other]; first|done|exact rfl)) (by exact True.intro) (by rfl) (by rfl) (by first|assumption|exact ow2 _ _ _ _|exact ow3 _ _ _ _ _ _|rfl|(simp only [zI,zJ,HV.cells]; exact rfl)) (by omega) ?_
       | refine r_ne (by simp (disch:=first|decide|(simp only[zF,zG];decide)) only [zA,zB,zC,zD,zE,zF,zG,zH,zI,zJ,zK,HV.cells,fl0,fl2,flS,flS1,flI1,flU1,flU2,flF]; try exact rfl) (by simp (disch:=first|decide|(simp only[zF,zG];decide)) only [zA,zB,zC,zD,zE,zF,zG,zH,zI,zJ,zK,HV.cells,fl0,fl2,flS,flS1,flI1,flU1,flU2,flF]; try exact rfl) (fun hc => ?_) (fun hc => ?_) <;> (try (exfalso; omega))
       | refine r_not1 (by simp (disch:=first|decide|(simp only[zF,zG];decide)) only [zA,zB,zC,zD,zE,zF,zG,zH,zI,zJ,zK,HV.cells,fl0,fl2,flS,flS1,flI1,flU1,flU2,flF]; try exact rfl) ?_
       | refine r_build (by simp (disch:=first|decide|(simp only[zF,zG];decide)) only [evParts,List.map_cons,List.map_nil,List.nil_append,List.cons_append,List.append_nil,zA,zB,zC,zD,zE,zF,zG,zH,zI,zJ,zK,HV.cells,fl0,fl2,flS,flS1,flI1,flU1,flU2,flF]; try exact rfl) ?_
       | refine r_calls (by simp (disch:=first|decide|(simp only[zF,zG];decide)) only [zA,zB,zC,zD,zE,zF,zG,zH,zI,zJ,zK,HV.cells,fl0,fl2,flS,flS1,flI1,flU1,flU2,flF]; try exact rfl) (by simp (disch:=first|decide|(simp only[zF,zG];decide)) only [List.map_cons,List.map_nil,List.nil_append,List.cons_append,List.append_nil,zA,zB,zC,zD,zE,zF,zG,zH,zI,zJ,zK,HV.cells,fl0,fl2,flS,flS1,flI1,flU1,flU2,flF]; first|done|exact rfl) (cC _ _ _ (by repeat' first|assumption|refine Ext.put ?_ (by omega) (by omega)|exact Ext.up (by assumption) (by omega)|exact Ext.nx (by assumption) (by omega))) (fun n' hn' => ?_)
       | refine r_calls (by simp (disch:=first|decide|(simp only[zF,zG];decide)) only [zA,zB,zC,zD,zE,zF,zG,zH,zI,zJ,zK,HV.cells,fl0,fl2,flS,flS1,flI1,flU1,flU2,flF]; try exact rfl) (by simp (disch:=first|decide|(simp only[zF,zG];decide)) only [List.map_cons,List.map_nil,List.nil_append,List.cons_append,List.append_nil,zA,zB,zC,zD,zE,zF,zG,zH,zI,zJ,zK,HV.cells,fl0,fl2,flS,flS1,flI1,flU1,flU2,flF]; first|done|exact rfl) (cP _ _ _ (by repeat' first|assumption|refine Ext.put ?_ (by omega) (by omega)|exact Ext.up (by assumption) (by omega)|exact Ext.nx (by assumption) (by omega))) (fun n' hn' => ?_)
       | refine r_calls (by simp (disch:=first|decide|(simp only[zF,zG];decide)) only [zA,zB,zC,zD,zE,zF,zG,zH,zI,zJ,zK,HV.cells,fl0,fl2,flS,flS1,flI1,flU1,flU2,flF]; try exact rfl) (by simp (disch:=first|decide|(simp only[zF,zG];decide)) only [List.map_cons,List.map_nil,List.nil_append,List.cons_append,List.append_nil,zA,zB,zC,zD,zE,zF,zG,zH,zI,zJ,zK,HV.cells,fl0,fl2,flS,flS1,flI1,flU1,flU2,flF]; first|done|exact rfl) (cL _ _ _) (fun n' hn' => ?_)
       | refine r_calls (by simp (disch:=first|decide|(simp only[zF,zG];decide)) only [zA,zB,zC,zD,zE,zF,zG,zH,zI,zJ,zK,HV.cells,fl0,fl2,flS,flS1,flI1,flU1,flU2,flF]; try exact rfl) (by simp (disch:=first|decide|(simp only[zF,zG];decide)) only [List.map_cons,List.map_nil,List.nil_append,List.cons_append,List.append_nil,zA,zB,zC,zD,zE,zF,zG,zH,zI,zJ,zK,HV.cells,fl0,fl2,flS,flS1,flI1,flU1,flU2,flF]; first|done|exact rfl) (cS _ _ _ _ (by repeat' first|assumption|refine Ext.put ?_ (by omega) (by omega)|exact Ext.up (by assumption) (by omega)|exact Ext.nx (by assumption) (by omega))) (fun n' hn' => ?_)
       | refine w_draw (by omega) (by (repeat' first|assumption|refine D.upd ?_ (by omega)|exact D.mono (by assumption) (by omega)) <;> fail) ?_
       | refine d_rest rfl ?_
       | refine d_one rfl rfl ?_
       | refine d_next (by omega) ?_
       | fail
      exact fin_m (by simp only [zL,zM]) (res_c (by simp (disch:=first|decide|(simp only[zF,zG];decide)) only [zA,zB,zC,zD,zE,zF,zG,zH,zI,zJ,zK,HV.cells,fl0,fl2,flS,flS1,flI1,flU1,flU2,flF]; try exact rfl) (by first|assumption|(simp (disch:=omega) only [get_same,get_other]; first|done|exact rfl)) rfl (res_t (by simp (disch:=first|decide|(simp only[zF,zG];decide)) only [zA,zB,zC,zD,zE,zF,zG,zH,zI,zJ,zK,HV.cells,fl0,fl2,flS,flS1,flI1,flU1,flU2,flF]; try exact rfl) res_nil)) (sc_flat rfl (by dsimp only; omega) rfl)
    · rw [if_neg hk]
      rw [decide_eq_false hk] at cL
      repeat' first
       | refine r_nil ?_
       | refine th_n ?_
       | refine th_r ?_
       | refine w_seq ?_
       | refine w_reg ?_
       | refine w_ret ?_
       | refine w_skip ?_
       | refine w_t (by simp (disch:=first|decide|(simp only[zF,zG];decide)) only [zA,zB,zC,zD,zE,zF,zG,zH,zI,zJ,zK,HV.cells,fl0,fl2,flS,flS1,flI1,flU1,flU2,flF]; first|done|exact rfl) ?_
       | refine w_f (by simp (disch:=first|decide|(simp only[zF,zG];decide)) only [zA,zB,zC,zD,zE,zF,zG,zH,zI,zJ,zK,HV.cells,fl0,fl2,flS,flS1,flI1,flU1,flU2,flF]; first|done|exact rfl) ?_
       | refine r_move (by simp (disch:=first|decide|(simp only[zF,zG];decide)) only [zA,zB,zC,zD,zE,zF,zG,zH,zI,zJ,zK,HV.cells,fl0,fl2,flS,flS1,flI1,flU1,flU2,flF]; try exact rfl) ?_
       | refine r_ldn (by simp (disch:=first|decide|(simp only[zF,zG];decide)) only [zA,zB,zC,zD,zE,zF,zG,zH,zI,zJ,zK,HV.cells,fl0,fl2,flS,flS1,flI1,flU1,flU2,flF]; try exact rfl) (by first|assumption|(simp (disch:=omega) only [get_same,get_other]; first|done|exact rfl)) (by first|assumption|exact ow2 _ _ _ _|exact ow3 _ _ _ _ _ _|rfl|(simp only [zI,zJ,HV.cells]; exact rfl)) ?_
       | refine r_box (by simp (disch:=first|decide|(simp only[zF,zG];decide)) only [zA,zB,zC,zD,zE,zF,zG,zH,zI,zJ,zK,HV.cells,fl0,fl2,flS,flS1,flI1,flU1,flU2,flF]; try exact rfl) ?_
       | refine r_alloc ?_
       | refine r_st (cs' := _) (by simp (disch:=first|decide|(simp only[zF,zG];decide)) only [zA,zB,zC,zD,zE,zF,zG,zH,zI,zJ,zK,HV.cells,fl0,fl2,flS,flS1,flI1,flU1,flU2,flF]; try exact rfl) (by simp (disch:=first|decide|(simp only[zF,zG];decide)) only [zA,zB,zC,zD,zE,zF,zG,zH,zI,zJ,zK,HV.cells,fl0,fl2,flS,flS1,flI1,flU1,flU2,flF]; try exact rfl) (by first|assumption|(simp (disch:=omega) only [get_same,get_other]; first|done|exact rfl)) (by exact True.intro) (by rfl) (by rfl) (by first|assumption|exact ow2 _ _ _ _|exact ow3 _ _ _ _ _ _|rfl|(simp only [zI,zJ,HV.cells]; exact rfl)) (by omega) ?_
       | refine r_ne (by simp (disch:=first|decide|(simp only[zF,zG];decide)) only [zA,zB,zC,zD,zE,zF,zG,zH,zI,zJ,zK,HV.cells,fl0,fl2,flS,flS1,flI1,flU1,flU2,flF]; try exact rfl) (by simp (disch:=first|decide|(simp only[zF,zG];decide)) only [zA,zB,zC,zD,zE,zF,zG,zH,zI,zJ,zK,HV.cells,fl0,fl2,flS,flS1,flI1,flU1,flU2,flF]; try exact rfl) (fun hc => ?_) (fun hc => ?_) <;> (try (exfalso; omega))
       | refine r_not1 (by simp (disch:=first|decide|(simp only[zF,zG];decide)) only [zA,zB,zC,zD,zE,zF,zG,zH,zI,zJ,zK,HV.cells,fl0,fl2,flS,flS1,flI1,flU1,flU2,flF]; try exact rfl) ?_
       | refine r_build (by simp (disch:=first|decide|(simp only[zF,zG];decide)) only [evParts,List.map_cons,List.map_nil,List.nil_append,List.cons_append,List.append_nil,zA,zB,zC,zD,zE,zF,zG,zH,zI,zJ,zK,HV.cells,fl0,fl2,flS,flS1,flI1,flU1,flU2,flF]; try exact rfl) ?_
       | refine r_calls (by simp (disch:=first|decide|(simp only[zF,zG];decide)) only [zA,zB,zC,zD,zE,zF,zG,zH,zI,zJ,zK,HV.cells,fl0,fl2,flS,flS1,flI1,flU1,flU2,flF]; try exact rfl) (by simp (disch:=first|decide|(simp only[zF,zG];decide)) only [List.map_cons,List.map_nil,List.nil_append,List.cons_append,List.append_nil,zA,zB,zC,zD,zE,zF,zG,zH,zI,zJ,zK,HV.cells,fl0,fl2,flS,flS1,flI1,flU1,flU2,flF]; first|done|exact rfl) (cC _ _ _ (by repeat' first|assumption|refine Ext.put ?_ (by omega) (by omega)|exact Ext.up (by assumption) (by omega)|exact Ext.nx (by assumption) (by omega))) (fun n' hn' => ?_)
       | refine r_calls (by simp (disch:=first|decide|(simp only[zF,zG];decide)) only [zA,zB,zC,zD,zE,zF,zG,zH,zI,zJ,zK,HV.cells,fl0,fl2,flS,flS1,flI1,flU1,flU2,flF]; try exact rfl) (by simp (disch:=first|decide|(simp only[zF,zG];decide)) only [List.map_cons,List.map_nil,List.nil_append,List.cons_append,List.append_nil,zA,zB,zC,zD,zE,zF,zG,zH,zI,zJ,zK,HV.cells,fl0,fl2,flS,flS1,flI1,flU1,flU2,flF]; first|done|exact rfl) (cP _ _ _ (by repeat' first|assumption|refine Ext.put ?_ (by omega) (by omega)|exact Ext.up (by assumption) (by omega)|exact Ext.nx (by assumption) (by omega))) (fun n' hn' => ?_)
       | refine r_calls (by simp (disch:=first|decide|(simp only[zF,zG];decide)) only [zA,zB,zC,zD,zE,zF,zG,zH,zI,zJ,zK,HV.cells,fl0,fl2,flS,flS1,flI1,flU1,flU2,flF]; try exact rfl) (by simp (disch:=first|decide|(simp only[zF,zG];decide)) only [List.map_cons,List.map_nil,List.nil_append,List.cons_append,List.append_nil,zA,zB,zC,zD,zE,zF,zG,zH,zI,zJ,zK,HV.cells,fl0,fl2,flS,flS1,flI1,flU1,flU2,flF]; first|done|exact rfl) (cL _ _ _) (fun n' hn' => ?_)
       | refine w_draw (by omega) (by (repeat' first|assumption|refine D.upd ?_ (by omega)|exact D.mono (by assumption) (by omega)) <;> fail) ?_
       | refine d_rest rfl ?_
       | refine d_one rfl rfl ?_
       | refine d_next (by omega) ?_
       | fail
      exact fin_m (by simp only [zL,zM]) (res_c (by simp (disch:=first|decide|(simp only[zF,zG];decide)) only [zA,zB,zC,zD,zE,zF,zG,zH,zI,zJ,zK,HV.cells,fl0,fl2,flS,flS1,flI1,flU1,flU2,flF]; try exact rfl) (by first|assumption|(simp (disch:=omega) only [get_same,get_other]; first|done|exact rfl)) rfl (res_t (by simp (disch:=first|decide|(simp only[zF,zG];decide)) only [zA,zB,zC,zD,zE,zF,zG,zH,zI,zJ,zK,HV.cells,fl0,fl2,flS,flS1,flI1,flU1,flU2,flF]; try exact rfl) res_nil)) (sc_flat rfl (by dsimp only; omega) rfl)
  · rw [if_neg hc]
    repeat' first
     | refine r_nil ?_
     | refine th_n ?_
     | refine th_r ?_
     | refine w_seq ?_
     | refine w_reg ?_
     | refine w_ret ?_
     | refine w_t (by simp (disch:=first|decide|(simp only[zF,zG];decide)) only [zA,zB,zC,zD,zE,zF,zG,zH,zI,zJ,zK,HV.cells,fl0,fl2,flS,flS1,flI1,flU1,flU2,flF]; first|done|exact rfl) ?_
     | refine r_move (by simp (disch:=first|decide|(simp only[zF,zG];decide)) only [zA,zB,zC,zD,zE,zF,zG,zH,zI,zJ,zK,HV.cells,fl0,fl2,flS,flS1,flI1,flU1,flU2,flF]; try exact rfl) ?_
     | refine r_box (by simp (disch:=first|decide|(simp only[zF,zG];decide)) only [zA,zB,zC,zD,zE,zF,zG,zH,zI,zJ,zK,HV.cells,fl0,fl2,flS,flS1,flI1,flU1,flU2,flF]; try exact rfl) ?_
     | refine r_alloc ?_
     | refine r_st (cs' := _) (by simp (disch:=first|decide|(simp only[zF,zG];decide)) only [zA,zB,zC,zD,zE,zF,zG,zH,zI,zJ,zK,HV.cells,fl0,fl2,flS,flS1,flI1,flU1,flU2,flF]; try exact rfl) (by simp (disch:=first|decide|(simp only[zF,zG];decide)) only [zA,zB,zC,zD,zE,zF,zG,zH,zI,zJ,zK,HV.cells,fl0,fl2,flS,flS1,flI1,flU1,flU2,flF]; try exact rfl) (by first|assumption|(simp (disch:=omega) only [get_same,get_other]; first|done|exact rfl)) (by exact True.intro) (by rfl) (by rfl) (by first|assumption|exact ow2 _ _ _ _|exact ow3 _ _ _ _ _ _|rfl|(simp only [zI,zJ,HV.cells]; exact rfl)) (by omega) ?_
     | refine r_ne (by simp (disch:=first|decide|(simp only[zF,zG];decide)) only [zA,zB,zC,zD,zE,zF,zG,zH,zI,zJ,zK,HV.cells,fl0,fl2,flS,flS1,flI1,flU1,flU2,flF]; try exact rfl) (by simp (disch:=first|decide|(simp only[zF,zG];decide)) only [zA,zB,zC,zD,zE,zF,zG,zH,zI,zJ,zK,HV.cells,fl0,fl2,flS,flS1,flI1,flU1,flU2,flF]; try exact rfl) (fun hc => ?_) (fun hc => ?_) <;> (try (exfalso; omega))
     | refine r_build (by simp (disch:=first|decide|(simp only[zF,zG];decide)) only [evParts,List.map_cons,List.map_nil,List.nil_append,List.cons_append,List.append_nil,zA,zB,zC,zD,zE,zF,zG,zH,zI,zJ,zK,HV.cells,fl0,fl2,flS,flS1,flI1,flU1,flU2,flF]; try exact rfl) ?_
     | refine r_calls (by simp (disch:=first|decide|(simp only[zF,zG];decide)) only [zA,zB,zC,zD,zE,zF,zG,zH,zI,zJ,zK,HV.cells,fl0,fl2,flS,flS1,flI1,flU1,flU2,flF]; try exact rfl) (by simp (disch:=first|decide|(simp only[zF,zG];decide)) only [List.map_cons,List.map_nil,List.nil_append,List.cons_append,List.append_nil,zA,zB,zC,zD,zE,zF,zG,zH,zI,zJ,zK,HV.cells,fl0,fl2,flS,flS1,flI1,flU1,flU2,flF]; first|done|exact rfl) (cC _ _ _ (by repeat' first|assumption|refine Ext.put ?_ (by omega) (by omega)|exact Ext.up (by assumption) (by omega)|exact Ext.nx (by assumption) (by omega))) (fun n' hn' => ?_)
     | fail
    exact fin_m (by simp only [zL,zM]) (res_c (by simp (disch:=first|decide|(simp only[zF,zG];decide)) only [zA,zB,zC,zD,zE,zF,zG,zH,zI,zJ,zK,HV.cells,fl0,fl2,flS,flS1,flI1,flU1,flU2,flF]; try exact rfl) (by first|assumption|(simp (disch:=omega) only [get_same,get_other]; first|done|exact rfl)) rfl (res_t (by simp (disch:=first|decide|(simp only[zF,zG];decide)) only [zA,zB,zC,zD,zE,zF,zG,zH,zI,zJ,zK,HV.cells,fl0,fl2,flS,flS1,flI1,flU1,flU2,flF]; try exact rfl) res_nil)) (sc_flat rfl (by dsimp only; omega) rfl)
theorem stp_bd {l : List (Int × Int)} (ht : TbOk l) {x : Int} (h0 : pP l 0 ≤ x) (hx : x ≤ pP l (l.length - 1)) : pH l 0 ≤ stp l x ∧ stp l x ≤ pH l (l.length - 1) := stg_bd (up_tb ht) ht.1 h0 hx
theorem pH_bd {l : List (Int × Int)} (ht : TbOk l) {j : Nat} (hj : j < l.length) : 1 ≤ pH l j ∧ pH l j ≤ 2000 := by
  have := ht.2.1 l[j] (List.getElem_mem hj)
  unfold StOk at this
  rw [pH_at hj]; omega
def cor (s : Int × Int) (l : List (Int × Int)) (q r : Int × Int) : (Int × Int) × Int :=
  if chkT l = 0 then (if chkR [s] r = 0 then (if (boi l q).2 = 0 then (tru s (boi l q).1 r, 0) else ((0, 0), (boi l q).2)) else ((0, 0), chkR [s] r)) else ((0, 0), chkT l)
theorem boi_bd {l : List (Int × Int)} {q : Int × Int} (ht : TbOk l) (h : (boi l q).2 = 0) : PrOk l q ∧ (boi l q).1 = (stp l q.1, stp l q.2) ∧ (1 ≤ (boi l q).1.1 ∧ (boi l q).1.1 ≤ 2000) ∧ (1 ≤ (boi l q).1.2 ∧ (boi l q).1.2 ≤ 2000) := by
  have hk : PrOk l q := by
    refine Decidable.byContradiction fun hk => ?_
    unfold boi at h
    by_cases hc : chkT l = 0
    · rw [if_pos hc, if_neg hk] at h; revert h; decide
    · rw [if_neg hc] at h; exact hc h
  have e : boi l q = ((stp l q.1, stp l q.2), 0) := by
    unfold boi at h ⊢
    by_cases hc : chkT l = 0
    · rw [if_pos hc, if_pos hk]
    · rw [if_neg hc] at h; exact absurd h hc
  obtain ⟨k1, k2, k3⟩ := hk
  have a := stp_bd ht k1 (by omega)
  have b := stp_bd ht (x := q.2) (by omega) k3
  have c := pH_bd ht (j := 0) (by have := ht.1; omega)
  have d := pH_bd ht (j := l.length - 1) (by have := ht.1; omega)
  rw [e]
  exact ⟨⟨k1, k2, k3⟩, rfl, ⟨by dsimp only; omega, by dsimp only; omega⟩, ⟨by dsimp only; omega, by dsimp only; omega⟩⟩
/- 32 -/
theorem c_Corrected {fl : Nat} {h : Tr HBlk} {nx : Nat} (hd : D h nx) {p : Option (Nat × Nat)} {l : List (Int × Int)} {n cp : Nat} {s q r : Int × Int} (hn : n = l.length) (hcp : l.length ≤ cp) (hlen : l.length < 1000000000) (hrow : Row renc 2 h nx p l) :
    C LW fl 32 [.agg (renc s), .slice p n cp, .agg (renc q), .agg (renc r)] ⟨h, nx⟩ (Sc (· = .tuple [.agg (renc (cor s l q r).1), i64 (cor s l q r).2]) ⟨h, nx⟩) := by
  subst hn
  have cC : ∀ fl h' n', Ext h nx h' n' → C LW fl 63 [.slice p l.length cp] ⟨h', n'⟩ (Sc (· = i64 (chkT l)) ⟨h', n'⟩) := fun fl h' n' e => c_checkTable e.d rfl hlen (hrow.ext e)
  have cB : ∀ fl h' n', Ext h nx h' n' → C LW fl 30 [.slice p l.length cp, .agg (renc q)] ⟨h', n'⟩ (Sc (· = .tuple [.agg (renc (boi l q).1), i64 (boi l q).2]) ⟨h', n'⟩) := fun fl h' n' e => c_Boils e.d rfl hcp hlen (hrow.ext e)
  have cR : ∀ fl h' n' b k, D h' n' → b < n' → h'.get b = some (.cells (renc s) k) → C LW fl 53 [.agg (renc r), .slice (some (b, 0)) 1 1] ⟨h', n'⟩ (Sc (· = i64 (chkR [s] r)) ⟨h', n'⟩) := fun fl h' n' b k e hb hg => c_checkReadings (l := [s]) (r := r) (cp := 1) e rfl (by simp) (row_flat (k := k) renc_len hb (by rw [hg]; rfl))
  refine c_in lw32 rfl rfl rfl ?_
  dsimp only [L32]
  unfold cor
  by_cases hc : chkT l = 0
  · rw [if_pos hc]
    rw [hc] at cC
    have ht := tb_ok hc
    by_cases hr : chkR [s] r = 0
    · rw [if_pos hr]
      rw [hr] at cR
      by_cases hb : (boi l q).2 = 0
      · rw [if_pos hb]
        obtain ⟨_, _, b1, b2⟩ := boi_bd ht hb
        rw [hb] at cB
        have cT : ∀ fl h' n', D h' n' → C LW fl 54 [.agg (renc s), .agg (renc (boi l q).1), .agg (renc r)] ⟨h', n'⟩ (Sc (· = .agg (renc (tru s (boi l q).1 r))) ⟨h', n'⟩) := fun fl h' n' e => c_true e (chkR_s hr) (chkR_r hr) (by omega)
        obtain ⟨u, hu⟩ : ∃ x, x = (boi l q).1 := ⟨_, rfl⟩
        rw [← hu] at cB cT ⊢
        obtain ⟨v, hv⟩ : ∃ x, x = tru s u r := ⟨_, rfl⟩
        rw [← hv] at cT ⊢
        repeat' first
         | refine r_nil ?_
         | refine th_n ?_
         | refine w_seq ?_
         | refine w_reg ?_
         | refine w_ret ?_
         | refine w_skip ?_
         | refine w_f (by simp (disch:=first|decide|(simp only[zF,zG];decide)) only [zA,zB,zC,zD,zE,zF,zG,zH,zI,zJ,zK,HV.cells,fl0,fl2,flS,flS1,flI1,flU1,flU2,flF]; first|done|exact rfl) ?_
         | refine r_move (by simp (disch:=first|decide|(simp only[zF,zG];decide)) only [zA,zB,zC,zD,zE,zF,zG,zH,zI,zJ,zK,HV.cells,fl0,fl2,flS,flS1,flI1,flU1,flU2,flF]; try exact rfl) ?_
         | refine r_ldn (by simp (disch:=first|decide|(simp only[zF,zG];decide)) only [zA,zB,zC,zD,zE,zF,zG,zH,zI,zJ,zK,HV.cells,fl0,fl2,flS,flS1,flI1,flU1,flU2,flF]; try exact rfl) (by first|assumption|(simp (disch:=omega) only [get_same,get_other]; first|done|exact rfl)) (by first|assumption|exact ow2 _ _ _ _|exact ow3 _ _ _ _ _ _|rfl|(simp only [zI,zJ,HV.cells]; exact rfl)) ?_
         | refine r_box (by simp (disch:=first|decide|(simp only[zF,zG];decide)) only [zA,zB,zC,zD,zE,zF,zG,zH,zI,zJ,zK,HV.cells,fl0,fl2,flS,flS1,flI1,flU1,flU2,flF]; try exact rfl) ?_
         | refine r_alloc ?_
         | refine r_st (cs' := _) (by simp (disch:=first|decide|(simp only[zF,zG];decide)) only [zA,zB,zC,zD,zE,zF,zG,zH,zI,zJ,zK,HV.cells,fl0,fl2,flS,flS1,flI1,flU1,flU2,flF]; try exact rfl) (by simp (disch:=first|decide|(simp only[zF,zG];decide)) only [zA,zB,zC,zD,zE,zF,zG,zH,zI,zJ,zK,HV.cells,fl0,fl2,flS,flS1,flI1,flU1,flU2,flF]; try exact rfl) (by first|assumption|(simp (disch:=omega) only [get_same,get_other]; first|done|exact rfl)) (by exact True.intro) (by rfl) (by rfl) (by first|assumption|exact ow2 _ _ _ _|exact ow3 _ _ _ _ _ _|rfl|(simp only [zI,zJ,HV.cells]; exact rfl)) (by omega) ?_
         | refine r_ne (by simp (disch:=first|decide|(simp only[zF,zG];decide)) only [zA,zB,zC,zD,zE,zF,zG,zH,zI,zJ,zK,HV.cells,fl0,fl2,flS,flS1,flI1,flU1,flU2,flF]; try exact rfl) (by simp (disch:=first|decide|(simp only[zF,zG];decide)) only [zA,zB,zC,zD,zE,zF,zG,zH,zI,zJ,zK,HV.cells,fl0,fl2,flS,flS1,flI1,flU1,flU2,flF]; try exact rfl) (fun hc => ?_) (fun hc => ?_) <;> (try (exfalso; omega))
         | refine r_ext (by simp (disch:=first|decide|(simp only[zF,zG];decide)) only [zA,zB,zC,zD,zE,zF,zG,zH,zI,zJ,zK,HV.cells,fl0,fl2,flS,flS1,flI1,flU1,flU2,flF]; try exact rfl) (by first|assumption|exact ow2 _ _ _ _|exact ow3 _ _ _ _ _ _|rfl|(simp only [zI,zJ,HV.cells]; exact rfl)) ?_
         | refine r_bs (by simp (disch:=first|decide|(simp only[zF,zG];decide)) only [evParts,List.map_cons,List.map_nil,List.nil_append,List.cons_append,List.append_nil,zA,zB,zC,zD,zE,zF,zG,zH,zI,zJ,zK,HV.cells,fl0,fl2,flS,flS1,flI1,flU1,flU2,flF]; try exact rfl) ?_
         | refine r_calls (by simp (disch:=first|decide|(simp only[zF,zG];decide)) only [zA,zB,zC,zD,zE,zF,zG,zH,zI,zJ,zK,HV.cells,fl0,fl2,flS,flS1,flI1,flU1,flU2,flF]; try exact rfl) (by simp (disch:=first|decide|(simp only[zF,zG];decide)) only [List.map_cons,List.map_nil,List.nil_append,List.cons_append,List.append_nil,zA,zB,zC,zD,zE,zF,zG,zH,zI,zJ,zK,HV.cells,fl0,fl2,flS,flS1,flI1,flU1,flU2,flF]; first|done|exact rfl) (cC _ _ _ (by repeat' first|assumption|refine Ext.put ?_ (by omega) (by omega)|exact Ext.up (by assumption) (by omega)|exact Ext.nx (by assumption) (by omega))) (fun n' hn' => ?_)
         | refine r_calls (by simp (disch:=first|decide|(simp only[zF,zG];decide)) only [zA,zB,zC,zD,zE,zF,zG,zH,zI,zJ,zK,HV.cells,fl0,fl2,flS,flS1,flI1,flU1,flU2,flF]; try exact rfl) (by simp (disch:=first|decide|(simp only[zF,zG];decide)) only [List.map_cons,List.map_nil,List.nil_append,List.cons_append,List.append_nil,zA,zB,zC,zD,zE,zF,zG,zH,zI,zJ,zK,HV.cells,fl0,fl2,flS,flS1,flI1,flU1,flU2,flF]; first|done|exact rfl) (cR _ _ _ _ _ (by (repeat' first|assumption|refine D.upd ?_ (by omega)|exact D.mono (by assumption) (by omega)) <;> fail) (by omega) (by first|assumption|(simp (disch:=omega) only [get_same,get_other]; first|done|exact rfl))) (fun n' hn' => ?_)
         | refine r_calls (by simp (disch:=first|decide|(simp only[zF,zG];decide)) only [zA,zB,zC,zD,zE,zF,zG,zH,zI,zJ,zK,HV.cells,fl0,fl2,flS,flS1,flI1,flU1,flU2,flF]; try exact rfl) (by simp (disch:=first|decide|(simp only[zF,zG];decide)) only [List.map_cons,List.map_nil,List.nil_append,List.cons_append,List.append_nil,zA,zB,zC,zD,zE,zF,zG,zH,zI,zJ,zK,HV.cells,fl0,fl2,flS,flS1,flI1,flU1,flU2,flF]; first|done|exact rfl) (cB _ _ _ (by repeat' first|assumption|refine Ext.put ?_ (by omega) (by omega)|exact Ext.up (by assumption) (by omega)|exact Ext.nx (by assumption) (by omega))) (fun n' hn' => ?_)
         | refine r_calls (by simp (disch:=first|decide|(simp only[zF,zG];decide)) only [zA,zB,zC,zD,zE,zF,zG,zH,zI,zJ,zK,HV.cells,fl0,fl2,flS,flS1,flI1,flU1,flU2,flF]; try exact rfl) (by simp (disch:=first|decide|(simp only[zF,zG];decide)) only [List.map_cons,List.map_nil,List.nil_append,List.cons_append,List.append_nil,zA,zB,zC,zD,zE,zF,zG,zH,zI,zJ,zK,HV.cells,fl0,fl2,flS,flS1,flI1,flU1,flU2,flF]; first|done|exact rfl) (cT _ _ _ (by (repeat' first|assumption|refine D.upd ?_ (by omega)|exact D.mono (by assumption) (by omega)) <;> fail)) (fun n' hn' => ?_)
         | fail
        exact fin_m (by simp only [zL,zM]) (res_c (by simp (disch:=first|decide|(simp only[zF,zG];decide)) only [zA,zB,zC,zD,zE,zF,zG,zH,zI,zJ,zK,HV.cells,fl0,fl2,flS,flS1,flI1,flU1,flU2,flF]; try exact rfl) (by first|assumption|(simp (disch:=omega) only [get_same,get_other]; first|done|exact rfl)) rfl (res_t (by simp (disch:=first|decide|(simp only[zF,zG];decide)) only [zA,zB,zC,zD,zE,zF,zG,zH,zI,zJ,zK,HV.cells,fl0,fl2,flS,flS1,flI1,flU1,flU2,flF]; try exact rfl) res_nil)) (sc_flat rfl (by dsimp only; omega) rfl)
      · rw [if_neg hb]
        obtain ⟨u, hu⟩ : ∃ x, x = (boi l q).1 := ⟨_, rfl⟩
        obtain ⟨v, hv⟩ : ∃ x, x = (boi l q).2 := ⟨_, rfl⟩
        rw [← hv] at hb ⊢
        rw [← hu, ← hv] at cB
        repeat' first
         | refine r_nil ?_
         | refine th_n ?_
         | refine th_r ?_
         | refine w_seq ?_
         | refine w_reg ?_
         | refine w_ret ?_
         | refine w_skip ?_
         | refine w_t (by simp (disch:=first|decide|(simp only[zF,zG];decide)) only [zA,zB,zC,zD,zE,zF,zG,zH,zI,zJ,zK,HV.cells,fl0,fl2,flS,flS1,flI1,flU1,flU2,flF]; first|done|exact rfl) ?_
         | refine w_f (by simp (disch:=first|decide|(simp only[zF,zG];decide)) only [zA,zB,zC,zD,zE,zF,zG,zH,zI,zJ,zK,HV.cells,fl0,fl2,flS,flS1,flI1,flU1,flU2,flF]; first|done|exact rfl) ?_
         | refine r_move (by simp (disch:=first|decide|(simp only[zF,zG];decide)) only [zA,zB,zC,zD,zE,zF,zG,zH,zI,zJ,zK,HV.cells,fl0,fl2,flS,flS1,flI1,flU1,flU2,flF]; try exact rfl) ?_
         | refine r_ldn (by simp (disch:=first|decide|(simp only[zF,zG];decide)) only [zA,zB,zC,zD,zE,zF,zG,zH,zI,zJ,zK,HV.cells,fl0,fl2,flS,flS1,flI1,flU1,flU2,flF]; try exact rfl) (by first|assumption|(simp (disch:=omega) only [get_same,get_other]; first|done|exact rfl)) (by first|assumption|exact ow2 _ _ _ _|exact ow3 _ _ _ _ _ _|rfl|(simp only [zI,zJ,HV.cells]; exact rfl)) ?_
         | refine r_box (by simp (disch:=first|decide|(simp only[zF,zG];decide)) only [zA,zB,zC,zD,zE,zF,zG,zH,zI,zJ,zK,HV.cells,fl0,fl2,flS,flS1,flI1,flU1,flU2,flF]; try exact rfl) ?_
         | refine r_alloc ?_
         | refine r_st (cs' := _) (by simp (disch:=first|decide|(simp only[zF,zG];decide)) only [zA,zB,zC,zD,zE,zF,zG,zH,zI,zJ,zK,HV.cells,fl0,fl2,flS,flS1,flI1,flU1,flU2,flF]; try exact rfl) (by simp (disch:=first|decide|(simp only[zF,zG];decide)) only [zA,zB,zC,zD,zE,zF,zG,zH,zI,zJ,zK,HV.cells,fl0,fl2,flS,flS1,flI1,flU1,flU2,flF]; try exact rfl) (by first|assumption|(simp (disch:=omega) only [get_same,get_other]; first|done|exact rfl)) (by exact True.intro) (by rfl) (by rfl) (by first|assumption|exact ow2 _ _ _ _|exact ow3 _ _ _ _ _ _|rfl|(simp only [zI,zJ,HV.cells]; exact rfl)) (by omega) ?_
         | refine r_ne (by simp (disch:=first|decide|(simp only[zF,zG];decide)) only [zA,zB,zC,zD,zE,zF,zG,zH,zI,zJ,zK,HV.cells,fl0,fl2,flS,flS1,flI1,flU1,flU2,flF]; try exact rfl) (by simp (disch:=first|decide|(simp only[zF,zG];decide)) only [zA,zB,zC,zD,zE,zF,zG,zH,zI,zJ,zK,HV.cells,fl0,fl2,flS,flS1,flI1,flU1,flU2,flF]; try exact rfl) (fun hc => ?_) (fun hc => ?_) <;> (try (exfalso; omega))
         | refine r_ext (by simp (disch:=first|decide|(simp only[zF,zG];decide)) only [zA,zB,zC,zD,zE,zF,zG,zH,zI,zJ,zK,HV.cells,fl0,fl2,flS,flS1,flI1,flU1,flU2,flF]; try exact rfl) (by first|assumption|exact ow2 _ _ _ _|exact ow3 _ _ _ _ _ _|rfl|(simp only [zI,zJ,HV.cells]; exact rfl)) ?_
         | refine r_build (by simp (disch:=first|decide|(simp only[zF,zG];decide)) only [evParts,List.map_cons,List.map_nil,List.nil_append,List.cons_append,List.append_nil,zA,zB,zC,zD,zE,zF,zG,zH,zI,zJ,zK,HV.cells,fl0,fl2,flS,flS1,flI1,flU1,flU2,flF]; try exact rfl) ?_
         | refine r_bs (by simp (disch:=first|decide|(simp only[zF,zG];decide)) only [evParts,List.map_cons,List.map_nil,List.nil_append,List.cons_append,List.append_nil,zA,zB,zC,zD,zE,zF,zG,zH,zI,zJ,zK,HV.cells,fl0,fl2,flS,flS1,flI1,flU1,flU2,flF]; try exact rfl) ?_
         | refine r_calls (by simp (disch:=first|decide|(simp only[zF,zG];decide)) only [zA,zB,zC,zD,zE,zF,zG,zH,zI,zJ,zK,HV.cells,fl0,fl2,flS,flS1,flI1,flU1,flU2,flF]; try exact rfl) (by simp (disch:=first|decide|(simp only[zF,zG];decide)) only [List.map_cons,List.map_nil,List.nil_append,List.cons_append,List.append_nil,zA,zB,zC,zD,zE,zF,zG,zH,zI,zJ,zK,HV.cells,fl0,fl2,flS,flS1,flI1,flU1,flU2,flF]; first|done|exact rfl) (cC _ _ _ (by repeat' first|assumption|refine Ext.put ?_ (by omega) (by omega)|exact Ext.up (by assumption) (by omega)|exact Ext.nx (by assumption) (by omega))) (fun n' hn' => ?_)
         | refine r_calls (by simp (disch:=first|decide|(simp only[zF,zG];decide)) only [zA,zB,zC,zD,zE,zF,zG,zH,zI,zJ,zK,HV.cells,fl0,fl2,flS,flS1,flI1,flU1,flU2,flF]; try exact rfl) (by simp (disch:=first|decide|(simp only[zF,zG];decide)) only [List.map_cons,List.map_nil,List.nil_append,List.cons_append,List.append_nil,zA,zB,zC,zD,zE,zF,zG,zH,zI,zJ,zK,HV.cells,fl0,fl2,flS,flS1,flI1,flU1,flU2,flF]; first|done|exact rfl) (cR _ _ _ _ _ (by (repeat' first|assumption|refine D.upd ?_ (by omega)|exact D.mono (by assumption) (by omega)) <;> fail) (by omega) (by first|assumption|(simp (disch:=omega) only [get_same,get_other]; first|done|exact rfl))) (fun n' hn' => ?_)
         | refine r_calls (by simp (disch:=first|decide|(simp only[zF,zG];decide)) only [zA,zB,zC,zD,zE,zF,zG,zH,zI,zJ,zK,HV.cells,fl0,fl2,flS,flS1,flI1,flU1,flU2,flF]; try exact rfl) (by simp (disch:=first|decide|(simp only[zF,zG];decide)) only [List.map_cons,List.map_nil,List.nil_append,List.cons_append,List.append_nil,zA,zB,zC,zD,zE,zF,zG,zH,zI,zJ,zK,HV.cells,fl0,fl2,flS,flS1,flI1,flU1,flU2,flF]; first|done|exact rfl) (cB _ _ _ (by repeat' first|assumption|refine Ext.put ?_ (by omega) (by omega)|exact Ext.up (by assumption) (by omega)|exact Ext.nx (by assumption) (by omega))) (fun n' hn' => ?_)
         | fail
        exact fin_m (by simp only [zL,zM]) (res_c (by simp (disch:=first|decide|(simp only[zF,zG];decide)) only [zA,zB,zC,zD,zE,zF,zG,zH,zI,zJ,zK,HV.cells,fl0,fl2,flS,flS1,flI1,flU1,flU2,flF]; try exact rfl) (by first|assumption|(simp (disch:=omega) only [get_same,get_other]; first|done|exact rfl)) rfl (res_t (by simp (disch:=first|decide|(simp only[zF,zG];decide)) only [zA,zB,zC,zD,zE,zF,zG,zH,zI,zJ,zK,HV.cells,fl0,fl2,flS,flS1,flI1,flU1,flU2,flF]; try exact rfl) res_nil)) (sc_flat rfl (by dsimp only; omega) rfl)
    · rw [if_neg hr]
      repeat' first
       | refine r_nil ?_
       | refine th_n ?_
       | refine th_r ?_
       | refine w_seq ?_
       | refine w_reg ?_
       | refine w_ret ?_
       | refine w_skip ?_
       | refine w_t (by simp (disch:=first|decide|(simp only[zF,zG];decide)) only [zA,zB,zC,zD,zE,zF,zG,zH,zI,zJ,zK,HV.cells,fl0,fl2,flS,flS1,flI1,flU1,flU2,flF]; first|done|exact rfl) ?_
       | refine w_f (by simp (disch:=first|decide|(simp only[zF,zG];decide)) only [zA,zB,zC,zD,zE,zF,zG,zH,zI,zJ,zK,HV.cells,fl0,fl2,flS,flS1,flI1,flU1,flU2,flF]; first|done|exact rfl) ?_
       | refine r_move (by simp (disch:=first|decide|(simp only[zF,zG];decide)) only [zA,zB,zC,zD,zE,zF,zG,zH,zI,zJ,zK,HV.cells,fl0,fl2,flS,flS1,flI1,flU1,flU2,flF]; try exact rfl) ?_
       | refine r_ldn (by simp (disch:=first|decide|(simp only[zF,zG];decide)) only [zA,zB,zC,zD,zE,zF,zG,zH,zI,zJ,zK,HV.cells,fl0,fl2,flS,flS1,flI1,flU1,flU2,flF]; try exact rfl) (by first|assumption|(simp (disch:=omega) only [get_same,get_other]; first|done|exact rfl)) (by first|assumption|exact ow2 _ _ _ _|exact ow3 _ _ _ _ _ _|rfl|(simp only [zI,zJ,HV.cells]; exact rfl)) ?_
       | refine r_box (by simp (disch:=first|decide|(simp only[zF,zG];decide)) only [zA,zB,zC,zD,zE,zF,zG,zH,zI,zJ,zK,HV.cells,fl0,fl2,flS,flS1,flI1,flU1,flU2,flF]; try exact rfl) ?_
       | refine r_alloc ?_
       | refine r_st (cs' := _) (by simp (disch:=first|decide|(simp only[zF,zG];decide)) only [zA,zB,zC,zD,zE,zF,zG,zH,zI,zJ,zK,HV.cells,fl0,fl2,flS,flS1,flI1,flU1,flU2,flF]; try exact rfl) (by simp (disch:=first|decide|(simp only[zF,zG];decide)) only [zA,zB,zC,zD,zE,zF,zG,zH,zI,zJ,zK,HV.cells,fl0,fl2,flS,flS1,flI1,flU1,flU2,flF]; try exact rfl) (by first|assumption|(simp (disch:=omega) only [get_same,get_other]; first|done|exact rfl)) (by exact True.intro) (by rfl) (by rfl) (by first|assumption|exact ow2 _ _ _ _|exact ow3 _ _ _ _ _ _|rfl|(simp only [zI,zJ,HV.cells]; exact rfl)) (by omega) ?_
       | refine r_ne (by simp (disch:=first|decide|(simp only[zF,zG];decide)) only [zA,zB,zC,zD,zE,zF,zG,zH,zI,zJ,zK,HV.cells,fl0,fl2,flS,flS1,flI1,flU1,flU2,flF]; try exact rfl) (by simp (disch:=first|decide|(simp only[zF,zG];decide)) only [zA,zB,zC,zD,zE,zF,zG,zH,zI,zJ,zK,HV.cells,fl0,fl2,flS,flS1,flI1,flU1,flU2,flF]; try exact rfl) (fun hc => ?_) (fun hc => ?_) <;> (try (exfalso; omega))
       | refine r_build (by simp (disch:=first|decide|(simp only[zF,zG];decide)) only [evParts,List.map_cons,List.map_nil,List.nil_append,List.cons_append,List.append_nil,zA,zB,zC,zD,zE,zF,zG,zH,zI,zJ,zK,HV.cells,fl0,fl2,flS,flS1,flI1,flU1,flU2,flF]; try exact rfl) ?_
       | refine r_bs (by simp (disch:=first|decide|(simp only[zF,zG];decide)) only [evParts,List.map_cons,List.map_nil,List.nil_append,List.cons_append,List.append_nil,zA,zB,zC,zD,zE,zF,zG,zH,zI,zJ,zK,HV.cells,fl0,fl2,flS,flS1,flI1,flU1,flU2,flF]; try exact rfl) ?_
       | refine r_calls (by simp (disch:=first|decide|(simp only[zF,zG];decide)) only [zA,zB,zC,zD,zE,zF,zG,zH,zI,zJ,zK,HV.cells,fl0,fl2,flS,flS1,flI1,flU1,flU2,flF]; try exact rfl) (by simp (disch:=first|decide|(simp only[zF,zG];decide)) only [List.map_cons,List.map_nil,List.nil_append,List.cons_append,List.append_nil,zA,zB,zC,zD,zE,zF,zG,zH,zI,zJ,zK,HV.cells,fl0,fl2,flS,flS1,flI1,flU1,flU2,flF]; first|done|exact rfl) (cC _ _ _ (by repeat' first|assumption|refine Ext.put ?_ (by omega) (by omega)|exact Ext.up (by assumption) (by omega)|exact Ext.nx (by assumption) (by omega))) (fun n' hn' => ?_)
       | refine r_calls (by simp (disch:=first|decide|(simp only[zF,zG];decide)) only [zA,zB,zC,zD,zE,zF,zG,zH,zI,zJ,zK,HV.cells,fl0,fl2,flS,flS1,flI1,flU1,flU2,flF]; try exact rfl) (by simp (disch:=first|decide|(simp only[zF,zG];decide)) only [List.map_cons,List.map_nil,List.nil_append,List.cons_append,List.append_nil,zA,zB,zC,zD,zE,zF,zG,zH,zI,zJ,zK,HV.cells,fl0,fl2,flS,flS1,flI1,flU1,flU2,flF]; first|done|exact rfl) (cR _ _ _ _ _ (by (repeat' first|assumption|refine D.upd ?_ (by omega)|exact D.mono (by assumption) (by omega)) <;> fail) (by omega) (by first|assumption|(simp (disch:=omega) only [get_same,get_other]; first|done|exact rfl))) (fun n' hn' => ?_)
       | fail
      exact fin_m (by simp only [zL,zM]) (res_c (by simp (disch:=first|decide|(simp only[zF,zG];decide)) only [zA,zB,zC,zD,zE,zF,zG,zH,zI,zJ,zK,HV.cells,fl0,fl2,flS,flS1,flI1,flU1,flU2,flF]; try exact rfl) (by first|assumption|(simp (disch:=omega) only [get_same,get_other]; first|done|exact rfl)) rfl (res_t (by simp (disch:=first|decide|(simp only[zF,zG];decide)) only [zA,zB,zC,zD,zE,zF,zG,zH,zI,zJ,zK,HV.cells,fl0,fl2,flS,flS1,flI1,flU1,flU2,flF]; try exact rfl) res_nil)) (sc_flat rfl (by dsimp only; omega) rfl)
  · rw [if_neg hc]
    repeat' first
     | refine r_nil ?_
     | refine th_n ?_
     | refine th_r ?_
     | refine w_seq ?_
     | refine w_reg ?_
     | refine w_ret ?_
     | refine w_t (by simp (disch:=first|decide|(simp only[zF,zG];decide)) only [zA,zB,zC,zD,zE,zF,zG,zH,zI,zJ,zK,HV.cells,fl0,fl2,flS,flS1,flI1,flU1,flU2,flF]; first|done|exact rfl) ?_
     | refine r_move (by simp (disch:=first|decide|(simp only[zF,zG];decide)) only [zA,zB,zC,zD,zE,zF,zG,zH,zI,zJ,zK,HV.cells,fl0,fl2,flS,flS1,flI1,flU1,flU2,flF]; try exact rfl) ?_
     | refine r_box (by simp (disch:=first|decide|(simp only[zF,zG];decide)) only [zA,zB,zC,zD,zE,zF,zG,zH,zI,zJ,zK,HV.cells,fl0,fl2,flS,flS1,flI1,flU1,flU2,flF]; try exact rfl) ?_
     | refine r_alloc ?_
     | refine r_st (cs' := _) (by simp (disch:=first|decide|(simp only[zF,zG];decide)) only [zA,zB,zC,zD,zE,zF,zG,zH,zI,zJ,zK,HV.cells,fl0,fl2,flS,flS1,flI1,flU1,flU2,flF]; try exact rfl) (by simp (disch:=first|decide|(simp only[zF,zG];decide)) only [zA,zB,zC,zD,zE,zF,zG,zH,zI,zJ,zK,HV.cells,fl0,fl2,flS,flS1,flI1,flU1,flU2,flF]; try exact rfl) (by first|assumption|(simp (disch:=omega) only [get_same,get_other]; first|done|exact rfl)) (by exact True.intro) (by rfl) (by rfl) (by first|assumption|exact ow2 _ _ _ _|exact ow3 _ _ _ _ _ _|rfl|(simp only [zI,zJ,HV.cells]; exact rfl)) (by omega) ?_
     | refine r_ne (by simp (disch:=first|decide|(simp only[zF,zG];decide)) only [zA,zB,zC,zD,zE,zF,zG,zH,zI,zJ,zK,HV.cells,fl0,fl2,flS,flS1,flI1,flU1,flU2,flF]; try exact rfl) (by simp (disch:=first|decide|(simp only[zF,zG];decide)) only [zA,zB,zC,zD,zE,zF,zG,zH,zI,zJ,zK,HV.cells,fl0,fl2,flS,flS1,flI1,flU1,flU2,flF]; try exact rfl) (fun hc => ?_) (fun hc => ?_) <;> (try (exfalso; omega))
     | refine r_build (by simp (disch:=first|decide|(simp only[zF,zG];decide)) only [evParts,List.map_cons,List.map_nil,List.nil_append,List.cons_append,List.append_nil,zA,zB,zC,zD,zE,zF,zG,zH,zI,zJ,zK,HV.cells,fl0,fl2,flS,flS1,flI1,flU1,flU2,flF]; try exact rfl) ?_
     | refine r_calls (by simp (disch:=first|decide|(simp only[zF,zG];decide)) only [zA,zB,zC,zD,zE,zF,zG,zH,zI,zJ,zK,HV.cells,fl0,fl2,flS,flS1,flI1,flU1,flU2,flF]; try exact rfl) (by simp (disch:=first|decide|(simp only[zF,zG];decide)) only [List.map_cons,List.map_nil,List.nil_append,List.cons_append,List.append_nil,zA,zB,zC,zD,zE,zF,zG,zH,zI,zJ,zK,HV.cells,fl0,fl2,flS,flS1,flI1,flU1,flU2,flF]; first|done|exact rfl) (cC _ _ _ (by repeat' first|assumption|refine Ext.put ?_ (by omega) (by omega)|exact Ext.up (by assumption) (by omega)|exact Ext.nx (by assumption) (by omega))) (fun n' hn' => ?_)
     | fail
    exact fin_m (by simp only [zL,zM]) (res_c (by simp (disch:=first|decide|(simp only[zF,zG];decide)) only [zA,zB,zC,zD,zE,zF,zG,zH,zI,zJ,zK,HV.cells,fl0,fl2,flS,flS1,flI1,flU1,flU2,flF]; try exact rfl) (by first|assumption|(simp (disch:=omega) only [get_same,get_other]; first|done|exact rfl)) rfl (res_t (by simp (disch:=first|decide|(simp only[zF,zG];decide)) only [zA,zB,zC,zD,zE,zF,zG,zH,zI,zJ,zK,HV.cells,fl0,fl2,flS,flS1,flI1,flU1,flU2,flF]; try exact rfl) res_nil)) (sc_flat rfl (by dsimp only; omega) rfl)
end Go.Hx

/- Layer 3: tables of the reference. -/
namespace Go.Hx
set_option linter.unusedSimpArgs false
set_option linter.unusedVariables false
set_option maxRecDepth 20000
set_option maxHeartbeats 4000000
attribute [local irreducible] W R C thenH inBlockH
--dropu
def Good (l : List (Int × Int)) (i : Nat) : Prop := (∀ j (hj : j < l.length), j < i → StOk l[j]) ∧ ∀ j (hj : j + 1 < l.length), j + 1 < i → Pre l[j] l[j + 1]
theorem ris_of : ∀ {l : List (Int × Int)}, (∀ j (hj : j + 1 < l.length), Pre l[j] l[j + 1]) → Ris l
  | [], _ => trivial
  | [s], _ => trivial
  | s :: q :: l, h => ⟨h 0 (by simp), ris_of fun j hj => h (j + 1) (by simpa using hj)⟩
theorem good_tb {l : List (Int × Int)} (h : Good l l.length) : TbOk l ↔ 2 ≤ l.length :=
  ⟨fun e => e.1, fun e => ⟨e, fun s hs => by obtain ⟨j, hj, rfl⟩ := List.getElem_of_mem hs; exact h.1 j hj hj, ris_of fun j hj => h.2 j hj hj⟩⟩
theorem good_next {l : List (Int × Int)} {i : Nat} (h : Good l i) (hi : i < l.length) (h1 : StOk l[i]) (h2 : ∀ k (hk : k + 1 = i), Pre (l[k]'(by omega)) l[i]) : Good l (i + 1) := by
  refine ⟨fun j hj hji => ?_, fun j hj hji => ?_⟩
  · by_cases e : j = i
    · subst e; exact h1
    · exact h.1 j hj (by omega)
  · by_cases e : j + 1 = i
    · subst e; exact h2 j rfl
    · exact h.2 j hj (by omega)
/- 33 -/
theorem loop33 {fl : Nat} {h0 : Tr HBlk} {n0 : Nat} {Q : HExit → HAct → HS → Prop} {p : Option (Nat × Nat)} {l : List (Int × Int)} {cp : Nat} (hlen : l.length < 1000000000) (hfl : fl ≤ n0) (hrow : Row renc 2 h0 n0 p l) :
    ∀ (m i : Nat) (a : HAct) (h : Tr HBlk) (nx : Nat), m + i = l.length → Ext h0 n0 h nx → Good l i → a.nt = 61 → a.defers = [] → a.tmp 0 = .slice p l.length cp → a.tmp 3 = i64 i →
      (∀ a' h' n', Ext h0 n0 h' n' → Good l l.length → a'.nt = 61 → a'.defers = [] → a'.tmp 0 = .slice p l.length cp → Q .normal a' ⟨h', n'⟩) →
      (∀ a' h' n', Ext h0 n0 h' n' → ¬ TbOk l → a'.nt = 61 → a'.defers = [] → a'.tmp 2 = .bool false → Q .ret a' ⟨h', n'⟩) → W LW fl none (.loop L33w0) (inBlockH 0 Q) a ⟨h, nx⟩
  | 0, i, a, h, nx, hm, he, hG, hnt, hds, t0, t3, hq, hr => by
    have hle := he.le
    refine w_it (show L33w0 = _ by unfold L33w0; exact rfl) ?_
    repeat' first
     | refine r_nil ?_
     | refine th_n ?_
     | refine th_e ?_
     | refine ib_e ?_
     | refine w_exit ?_
     | refine w_seq ?_
     | refine w_reg ?_
     | refine w_f (by simp (disch:=first|decide|(simp only[zF,zG,hnt, t0, t3];decide)) only [zA,zB,zC,zD,zE,zF,zG,zH,zI,zJ,zK,HV.cells,fl0,fl2,flS,flS1,flI1,flU1,flU2,flF,hnt, t0, t3]; first|done|exact rfl) ?_
     | refine r_move (by simp (disch:=first|decide|(simp only[zF,zG,hnt, t0, t3];decide)) only [zA,zB,zC,zD,zE,zF,zG,zH,zI,zJ,zK,HV.cells,fl0,fl2,flS,flS1,flI1,flU1,flU2,flF,hnt, t0, t3]; try exact rfl) ?_
     | refine r_lss (by simp (disch:=first|decide|(simp only[zF,zG,hnt, t0, t3];decide)) only [zA,zB,zC,zD,zE,zF,zG,zH,zI,zJ,zK,HV.cells,fl0,fl2,flS,flS1,flI1,flU1,flU2,flF,hnt, t0, t3]; try exact rfl) (by simp (disch:=first|decide|(simp only[zF,zG,hnt, t0, t3];decide)) only [zA,zB,zC,zD,zE,zF,zG,zH,zI,zJ,zK,HV.cells,fl0,fl2,flS,flS1,flI1,flU1,flU2,flF,hnt, t0, t3]; try exact rfl) (fun hc => ?_) (fun hc => ?_) <;> (try (exfalso; omega))
     | refine r_len (by simp (disch:=first|decide|(simp only[zF,zG,hnt, t0, t3];decide)) only [zA,zB,zC,zD,zE,zF,zG,zH,zI,zJ,zK,HV.cells,fl0,fl2,flS,flS1,flI1,flU1,flU2,flF,hnt, t0, t3]; try exact rfl) ?_
     | fail
    refine hq _ _ _ he (by rwa [show i = l.length by omega] at hG) ?_ ?_ ?_
    all_goals first|(simp only [zL,zM,zF,zG,hnt, hds, t0];done)|(simp (disch:=first|decide|(simp only[zF,zG,hnt, hds, t0];decide)) only [zA,zB,zC,zD,zE,zF,zG,zH,zI,zJ,zK,HV.cells,fl0,fl2,flS,flS1,flI1,flU1,flU2,flF,hnt, hds, t0];first|done|exact rfl)|assumption
  | m + 1, i, a, h, nx, hm, he, hG, hnt, hds, t0, t3, hq, hr => by
    have hi : i < l.length := by omega
    have hrow0 := hrow.ext he
    obtain ⟨b, o, cs, kk, rfl, hb, hg, hcs⟩ := hrow0 (by intro e; rw [e] at hi; simp at hi)
    have hy : l[i]? = some l[i] := by simp [hi]
    have e0 := hcs i _ hy
    have hd := he.d
    have hle := he.le
    have ef := take_at e0 (j := 0) (v := i64 l[i].1) rfl
    have eg := take_at e0 (j := 1) (v := i64 l[i].2) rfl
    have nS : ¬ StOk l[i] → ¬ TbOk l := fun h1 h2 => h1 (h2.2.1 _ (List.getElem_mem hi))
    match i, hm, hG, t3, hi, hy, e0, ef, eg, nS with
    | 0, hm, hG, t3, hi, hy, e0, ef, eg, nS =>
      refine w_it (show L33w0 = _ by unfold L33w0; exact rfl) ?_
      repeat' first
       | refine r_nil ?_
       | refine th_n ?_
       | refine th_r ?_
       | refine ib_n ?_
       | refine ib_r ?_
       | refine w_seq ?_
       | refine w_reg ?_
       | refine w_ret ?_
       | refine w_skip ?_
       | refine w_block ?_
       | refine w_t (by simp (disch:=first|decide|(simp only[zF,zG,hnt, t0, t3, hg];decide)) only [zA,zB,zC,zD,zE,zF,zG,zH,zI,zJ,zK,HV.cells,fl0,fl2,flS,flS1,flI1,flU1,flU2,flF,hnt, t0, t3, hg]; first|done|exact rfl) ?_
       | refine w_f (by simp (disch:=first|decide|(simp only[zF,zG,hnt, t0, t3, hg];decide)) only [zA,zB,zC,zD,zE,zF,zG,zH,zI,zJ,zK,HV.cells,fl0,fl2,flS,flS1,flI1,flU1,flU2,flF,hnt, t0, t3, hg]; first|done|exact rfl) ?_
       | refine r_take (by simp (disch:=first|decide|(simp only[zF,zG,hnt, t0, t3, hg];decide)) only [zA,zB,zC,zD,zE,zF,zG,zH,zI,zJ,zK,HV.cells,fl0,fl2,flS,flS1,flI1,flU1,flU2,flF,hnt, t0, t3, hg]; first|done|exact rfl) ?_
       | refine r_drop (by simp (disch:=first|decide|(simp only[zF,zG,Bool.not_true,Bool.not_false,hnt, t0, t3, hg];decide)) only [zA,zB,zC,zD,zE,zF,zG,zH,zI,zJ,zK,HV.cells,fl0,fl2,flS,flS1,flI1,flU1,flU2,flF,Bool.not_true,Bool.not_false,hnt, t0, t3, hg]; first|done|exact rfl) ?_
       | refine r_dropu (by simp (disch:=first|decide|(simp only[zF,zG,hnt, t0, t3, hg];decide)) only [zA,zB,zC,zD,zE,zF,zG,zH,zI,zJ,zK,HV.cells,fl0,fl2,flS,flS1,flI1,flU1,flU2,flF,hnt, t0, t3, hg]; first|done|exact rfl) ?_
       | refine r_move (by simp (disch:=first|decide|(simp only[zF,zG,hnt, t0, t3, hg];decide)) only [zA,zB,zC,zD,zE,zF,zG,zH,zI,zJ,zK,HV.cells,fl0,fl2,flS,flS1,flI1,flU1,flU2,flF,hnt, t0, t3, hg]; try exact rfl) ?_
       | refine r_fa (by simp (disch:=first|decide|(simp only[zF,zG,hnt, t0, t3, hg];decide)) only [zA,zB,zC,zD,zE,zF,zG,zH,zI,zJ,zK,HV.cells,fl0,fl2,flS,flS1,flI1,flU1,flU2,flF,hnt, t0, t3, hg]; try exact rfl) ?_
       | refine r_ld1 (by simp (disch:=first|decide|(simp only[zF,zG,hnt, t0, t3, hg];decide)) only [zA,zB,zC,zD,zE,zF,zG,zH,zI,zJ,zK,HV.cells,fl0,fl2,flS,flS1,flI1,flU1,flU2,flF,hnt, t0, t3, hg]; try exact rfl) (by first|assumption|(simp (disch:=omega) only [get_same,get_other,hnt, t0, t3, hg]; first|done|exact rfl)) (by first|assumption|exact ow2 _ _ _ _|exact ow3 _ _ _ _ _ _|rfl|(simp only [zI,zJ,HV.cells,hnt, t0, t3, hg]; exact rfl)) ?_
       | refine r_add (by simp (disch:=first|decide|(simp only[zF,zG,hnt, t0, t3, hg];decide)) only [zA,zB,zC,zD,zE,zF,zG,zH,zI,zJ,zK,HV.cells,fl0,fl2,flS,flS1,flI1,flU1,flU2,flF,hnt, t0, t3, hg]; try exact rfl) (by simp (disch:=first|decide|(simp only[zF,zG,hnt, t0, t3, hg];decide)) only [zA,zB,zC,zD,zE,zF,zG,zH,zI,zJ,zK,HV.cells,fl0,fl2,flS,flS1,flI1,flU1,flU2,flF,hnt, t0, t3, hg]; try exact rfl) (by omega) (by omega) ?_
       | refine r_lss (by simp (disch:=first|decide|(simp only[zF,zG,hnt, t0, t3, hg];decide)) only [zA,zB,zC,zD,zE,zF,zG,zH,zI,zJ,zK,HV.cells,fl0,fl2,flS,flS1,flI1,flU1,flU2,flF,hnt, t0, t3, hg]; try exact rfl) (by simp (disch:=first|decide|(simp only[zF,zG,hnt, t0, t3, hg];decide)) only [zA,zB,zC,zD,zE,zF,zG,zH,zI,zJ,zK,HV.cells,fl0,fl2,flS,flS1,flI1,flU1,flU2,flF,hnt, t0, t3, hg]; try exact rfl) (fun hc => ?_) (fun hc => ?_) <;> (try (exfalso; omega))
       | refine r_gtr (by simp (disch:=first|decide|(simp only[zF,zG,hnt, t0, t3, hg];decide)) only [zA,zB,zC,zD,zE,zF,zG,zH,zI,zJ,zK,HV.cells,fl0,fl2,flS,flS1,flI1,flU1,flU2,flF,hnt, t0, t3, hg]; try exact rfl) (by simp (disch:=first|decide|(simp only[zF,zG,hnt, t0, t3, hg];decide)) only [zA,zB,zC,zD,zE,zF,zG,zH,zI,zJ,zK,HV.cells,fl0,fl2,flS,flS1,flI1,flU1,flU2,flF,hnt, t0, t3, hg]; try exact rfl) (fun hc => ?_) (fun hc => ?_) <;> (try (exfalso; omega))
       | refine r_not1 (by simp (disch:=first|decide|(simp only[zF,zG,hnt, t0, t3, hg];decide)) only [zA,zB,zC,zD,zE,zF,zG,zH,zI,zJ,zK,HV.cells,fl0,fl2,flS,flS1,flI1,flU1,flU2,flF,hnt, t0, t3, hg]; try exact rfl) ?_
       | refine r_pt (by simp (disch:=first|decide|(simp only[zF,zG,hnt, t0, t3, hg];decide)) only [zA,zB,zC,zD,zE,zF,zG,zH,zI,zJ,zK,HV.cells,fl0,fl2,flS,flS1,flI1,flU1,flU2,flF,hnt, t0, t3, hg]; first|done|exact rfl) (by simp (disch:=first|decide|(simp only[zF,zG,hnt, t0, t3, hg];decide)) only [zA,zB,zC,zD,zE,zF,zG,zH,zI,zJ,zK,HV.cells,fl0,fl2,flS,flS1,flI1,flU1,flU2,flF,hnt, t0, t3, hg]; try exact rfl) ?_
       | refine r_pf (by simp (disch:=first|decide|(simp only[zF,zG,hnt, t0, t3, hg];decide)) only [zA,zB,zC,zD,zE,zF,zG,zH,zI,zJ,zK,HV.cells,fl0,fl2,flS,flS1,flI1,flU1,flU2,flF,hnt, t0, t3, hg]; first|done|exact rfl) (by simp (disch:=first|decide|(simp only[zF,zG,hnt, t0, t3, hg];decide)) only [zA,zB,zC,zD,zE,zF,zG,zH,zI,zJ,zK,HV.cells,fl0,fl2,flS,flS1,flI1,flU1,flU2,flF,hnt, t0, t3, hg]; try exact rfl) ?_
       | refine r_len (by simp (disch:=first|decide|(simp only[zF,zG,hnt, t0, t3, hg];decide)) only [zA,zB,zC,zD,zE,zF,zG,zH,zI,zJ,zK,HV.cells,fl0,fl2,flS,flS1,flI1,flU1,flU2,flF,hnt, t0, t3, hg]; try exact rfl) ?_
       | refine r_ixs (by simp (disch:=first|decide|(simp only[zF,zG,hnt, t0, t3, hg];decide)) only [zA,zB,zC,zD,zE,zF,zG,zH,zI,zJ,zK,HV.cells,fl0,fl2,flS,flS1,flI1,flU1,flU2,flF,hnt, t0, t3, hg]; try exact rfl) (by simp (disch:=first|decide|(simp only[zF,zG,hnt, t0, t3, hg];decide)) only [zA,zB,zC,zD,zE,zF,zG,zH,zI,zJ,zK,HV.cells,fl0,fl2,flS,flS1,flI1,flU1,flU2,flF,hnt, t0, t3, hg]; try exact rfl) (by omega) ?_
       | refine r_calld (by simp (disch:=first|decide|(simp only[zF,zG,hnt, t0, t3, hg];decide)) only [zA,zB,zC,zD,zE,zF,zG,zH,zI,zJ,zK,HV.cells,fl0,fl2,flS,flS1,flI1,flU1,flU2,flF,hnt, t0, t3, hg]; try exact rfl) (by simp (disch:=first|decide|(simp only[zF,zG,hnt, t0, t3, hg];decide)) only [List.map_cons,List.map_nil,List.nil_append,List.cons_append,List.append_nil,zA,zB,zC,zD,zE,zF,zG,zH,zI,zJ,zK,HV.cells,fl0,fl2,flS,flS1,flI1,flU1,flU2,flF,hnt, t0, t3, hg]; first|done|exact rfl) c_In (fun n' hn' hc => ?_) (fun n' hn' hc => ?_) <;> (try (exfalso; omega))
       | refine w_draw (by omega) (by (repeat' first|assumption|refine D.upd ?_ (by omega)|exact D.mono (by assumption) (by omega)) <;> fail) ?_
       | refine d_rest rfl ?_
       | refine d_one rfl rfl ?_
       | refine d_next (by omega) ?_
       | fail
      have ej : ((0 : Nat) : Int) + 1 = ((1 : Nat) : Int) := by omega
      all_goals first
        | (refine hr _ _ _ (he.up (by omega)) (nS (by unfold StOk; omega)) ?_ ?_ ?_
           all_goals first|(simp only [zL,zM,zF,zG,hnt, hds];done)|(simp (disch:=first|decide|(simp only[zF,zG,hnt, hds];decide)) only [zA,zB,zC,zD,zE,zF,zG,zH,zI,zJ,zK,HV.cells,fl0,fl2,flS,flS1,flI1,flU1,flU2,flF,hnt, hds];first|done|exact rfl)|assumption)
        | (refine loop33 (cp := cp) hlen hfl hrow m (0 + 1) _ _ _ (by omega) (he.up (by omega)) (good_next hG hi (by unfold StOk; omega) (fun k hk => by omega)) ?_ ?_ ?_ ?_ hq hr
           · first|(simp only [zL,zM,zF,zG,hnt];done)|(simp (disch:=first|decide|(simp only[zF,zG,hnt];decide)) only [zA,zB,zC,zD,zE,zF,zG,zH,zI,zJ,zK,HV.cells,fl0,fl2,flS,flS1,flI1,flU1,flU2,flF,hnt];first|done|exact rfl)|assumption
           · first|(simp only [zL,zM,zF,zG,hnt, hds];done)|(simp (disch:=first|decide|(simp only[zF,zG,hnt, hds];decide)) only [zA,zB,zC,zD,zE,zF,zG,zH,zI,zJ,zK,HV.cells,fl0,fl2,flS,flS1,flI1,flU1,flU2,flF,hnt, hds];first|done|exact rfl)|assumption
           · first|(simp only [zL,zM,zF,zG,hnt, t0];done)|(simp (disch:=first|decide|(simp only[zF,zG,hnt, t0];decide)) only [zA,zB,zC,zD,zE,zF,zG,zH,zI,zJ,zK,HV.cells,fl0,fl2,flS,flS1,flI1,flU1,flU2,flF,hnt, t0];first|done|exact rfl)|assumption
           · exact Eq.trans (by simp (disch:=first|decide|(simp only[zF,zG,hnt];decide)) only [zA,zB,zC,zD,zE,zF,zG,zH,zI,zJ,zK,HV.cells,fl0,fl2,flS,flS1,flI1,flU1,flU2,flF,hnt]; try exact rfl) (congrArg i64 (by omega)))
    | k + 1, hm, hG, t3, hi, hy, e0, ef, eg, nS =>
      have hz : l[k]? = some l[k] := by simp [show k < l.length by omega]
      have e1 := hcs k _ hz
      have eh := take_at e1 (j := 0) (v := i64 l[k].1) rfl
      have ei := take_at e1 (j := 1) (v := i64 l[k].2) rfl
      have ej : ((k + 1 : Nat) : Int) - 1 = (k : Int) := by omega
      have nP : ¬ Pre l[k] l[k + 1] → ¬ TbOk l := fun h1 h2 => h1 (ris_at h2.2.2 k hi)
      refine w_it (show L33w0 = _ by unfold L33w0; exact rfl) ?_
      repeat' first
       | refine r_nil ?_
       | refine th_n ?_
       | refine th_r ?_
       | refine ib_n ?_
       | refine ib_r ?_
       | refine w_seq ?_
       | refine w_reg ?_
       | refine w_ret ?_
       | refine w_skip ?_
       | refine w_block ?_
       | refine w_t (by simp (disch:=first|decide|(simp only[zF,zG,hnt, t0, t3, hg, ej];decide)) only [zA,zB,zC,zD,zE,zF,zG,zH,zI,zJ,zK,HV.cells,fl0,fl2,flS,flS1,flI1,flU1,flU2,flF,hnt, t0, t3, hg, ej]; first|done|exact rfl) ?_
       | refine w_f (by simp (disch:=first|decide|(simp only[zF,zG,hnt, t0, t3, hg, ej];decide)) only [zA,zB,zC,zD,zE,zF,zG,zH,zI,zJ,zK,HV.cells,fl0,fl2,flS,flS1,flI1,flU1,flU2,flF,hnt, t0, t3, hg, ej]; first|done|exact rfl) ?_
       | refine r_take (by simp (disch:=first|decide|(simp only[zF,zG,hnt, t0, t3, hg, ej];decide)) only [zA,zB,zC,zD,zE,zF,zG,zH,zI,zJ,zK,HV.cells,fl0,fl2,flS,flS1,flI1,flU1,flU2,flF,hnt, t0, t3, hg, ej]; first|done|exact rfl) ?_
       | refine r_drop (by simp (disch:=first|decide|(simp only[zF,zG,Bool.not_true,Bool.not_false,hnt, t0, t3, hg, ej];decide)) only [zA,zB,zC,zD,zE,zF,zG,zH,zI,zJ,zK,HV.cells,fl0,fl2,flS,flS1,flI1,flU1,flU2,flF,Bool.not_true,Bool.not_false,hnt, t0, t3, hg, ej]; first|done|exact rfl) ?_
       | refine r_dropu (by simp (disch:=first|decide|(simp only[zF,zG,hnt, t0, t3, hg, ej];decide)) only [zA,zB,zC,zD,zE,zF,zG,zH,zI,zJ,zK,HV.cells,fl0,fl2,flS,flS1,flI1,flU1,flU2,flF,hnt, t0, t3, hg, ej]; first|done|exact rfl) ?_
       | refine r_move (by simp (disch:=first|decide|(simp only[zF,zG,hnt, t0, t3, hg, ej];decide)) only [zA,zB,zC,zD,zE,zF,zG,zH,zI,zJ,zK,HV.cells,fl0,fl2,flS,flS1,flI1,flU1,flU2,flF,hnt, t0, t3, hg, ej]; try exact rfl) ?_
       | refine r_fa (by simp (disch:=first|decide|(simp only[zF,zG,hnt, t0, t3, hg, ej];decide)) only [zA,zB,zC,zD,zE,zF,zG,zH,zI,zJ,zK,HV.cells,fl0,fl2,flS,flS1,flI1,flU1,flU2,flF,hnt, t0, t3, hg, ej]; try exact rfl) ?_
       | refine r_ld1 (by simp (disch:=first|decide|(simp only[zF,zG,hnt, t0, t3, hg, ej];decide)) only [zA,zB,zC,zD,zE,zF,zG,zH,zI,zJ,zK,HV.cells,fl0,fl2,flS,flS1,flI1,flU1,flU2,flF,hnt, t0, t3, hg, ej]; try exact rfl) (by first|assumption|(simp (disch:=omega) only [get_same,get_other,hnt, t0, t3, hg, ej]; first|done|exact rfl)) (by first|assumption|exact ow2 _ _ _ _|exact ow3 _ _ _ _ _ _|rfl|(simp only [zI,zJ,HV.cells,hnt, t0, t3, hg, ej]; exact rfl)) ?_
       | refine r_add (by simp (disch:=first|decide|(simp only[zF,zG,hnt, t0, t3, hg, ej];decide)) only [zA,zB,zC,zD,zE,zF,zG,zH,zI,zJ,zK,HV.cells,fl0,fl2,flS,flS1,flI1,flU1,flU2,flF,hnt, t0, t3, hg, ej]; try exact rfl) (by simp (disch:=first|decide|(simp only[zF,zG,hnt, t0, t3, hg, ej];decide)) only [zA,zB,zC,zD,zE,zF,zG,zH,zI,zJ,zK,HV.cells,fl0,fl2,flS,flS1,flI1,flU1,flU2,flF,hnt, t0, t3, hg, ej]; try exact rfl) (by omega) (by omega) ?_
       | refine r_sub (by simp (disch:=first|decide|(simp only[zF,zG,hnt, t0, t3, hg, ej];decide)) only [zA,zB,zC,zD,zE,zF,zG,zH,zI,zJ,zK,HV.cells,fl0,fl2,flS,flS1,flI1,flU1,flU2,flF,hnt, t0, t3, hg, ej]; try exact rfl) (by simp (disch:=first|decide|(simp only[zF,zG,hnt, t0, t3, hg, ej];decide)) only [zA,zB,zC,zD,zE,zF,zG,zH,zI,zJ,zK,HV.cells,fl0,fl2,flS,flS1,flI1,flU1,flU2,flF,hnt, t0, t3, hg, ej]; try exact rfl) (by omega) (by omega) ?_
       | refine r_lss (by simp (disch:=first|decide|(simp only[zF,zG,hnt, t0, t3, hg, ej];decide)) only [zA,zB,zC,zD,zE,zF,zG,zH,zI,zJ,zK,HV.cells,fl0,fl2,flS,flS1,flI1,flU1,flU2,flF,hnt, t0, t3, hg, ej]; try exact rfl) (by simp (disch:=first|decide|(simp only[zF,zG,hnt, t0, t3, hg, ej];decide)) only [zA,zB,zC,zD,zE,zF,zG,zH,zI,zJ,zK,HV.cells,fl0,fl2,flS,flS1,flI1,flU1,flU2,flF,hnt, t0, t3, hg, ej]; try exact rfl) (fun hc => ?_) (fun hc => ?_) <;> (try (exfalso; omega))
       | refine r_leq (by simp (disch:=first|decide|(simp only[zF,zG,hnt, t0, t3, hg, ej];decide)) only [zA,zB,zC,zD,zE,zF,zG,zH,zI,zJ,zK,HV.cells,fl0,fl2,flS,flS1,flI1,flU1,flU2,flF,hnt, t0, t3, hg, ej]; try exact rfl) (by simp (disch:=first|decide|(simp only[zF,zG,hnt, t0, t3, hg, ej];decide)) only [zA,zB,zC,zD,zE,zF,zG,zH,zI,zJ,zK,HV.cells,fl0,fl2,flS,flS1,flI1,flU1,flU2,flF,hnt, t0, t3, hg, ej]; try exact rfl) (fun hc => ?_) (fun hc => ?_) <;> (try (exfalso; omega))
       | refine r_gtr (by simp (disch:=first|decide|(simp only[zF,zG,hnt, t0, t3, hg, ej];decide)) only [zA,zB,zC,zD,zE,zF,zG,zH,zI,zJ,zK,HV.cells,fl0,fl2,flS,flS1,flI1,flU1,flU2,flF,hnt, t0, t3, hg, ej]; try exact rfl) (by simp (disch:=first|decide|(simp only[zF,zG,hnt, t0, t3, hg, ej];decide)) only [zA,zB,zC,zD,zE,zF,zG,zH,zI,zJ,zK,HV.cells,fl0,fl2,flS,flS1,flI1,flU1,flU2,flF,hnt, t0, t3, hg, ej]; try exact rfl) (fun hc => ?_) (fun hc => ?_) <;> (try (exfalso; omega))
       | refine r_not1 (by simp (disch:=first|decide|(simp only[zF,zG,hnt, t0, t3, hg, ej];decide)) only [zA,zB,zC,zD,zE,zF,zG,zH,zI,zJ,zK,HV.cells,fl0,fl2,flS,flS1,flI1,flU1,flU2,flF,hnt, t0, t3, hg, ej]; try exact rfl) ?_
       | refine r_pt (by simp (disch:=first|decide|(simp only[zF,zG,hnt, t0, t3, hg, ej];decide)) only [zA,zB,zC,zD,zE,zF,zG,zH,zI,zJ,zK,HV.cells,fl0,fl2,flS,flS1,flI1,flU1,flU2,flF,hnt, t0, t3, hg, ej]; first|done|exact rfl) (by simp (disch:=first|decide|(simp only[zF,zG,hnt, t0, t3, hg, ej];decide)) only [zA,zB,zC,zD,zE,zF,zG,zH,zI,zJ,zK,HV.cells,fl0,fl2,flS,flS1,flI1,flU1,flU2,flF,hnt, t0, t3, hg, ej]; try exact rfl) ?_
       | refine r_pf (by simp (disch:=first|decide|(simp only[zF,zG,hnt, t0, t3, hg, ej];decide)) only [zA,zB,zC,zD,zE,zF,zG,zH,zI,zJ,zK,HV.cells,fl0,fl2,flS,flS1,flI1,flU1,flU2,flF,hnt, t0, t3, hg, ej]; first|done|exact rfl) (by simp (disch:=first|decide|(simp only[zF,zG,hnt, t0, t3, hg, ej];decide)) only [zA,zB,zC,zD,zE,zF,zG,zH,zI,zJ,zK,HV.cells,fl0,fl2,flS,flS1,flI1,flU1,flU2,flF,hnt, t0, t3, hg, ej]; try exact rfl) ?_
       | refine r_len (by simp (disch:=first|decide|(simp only[zF,zG,hnt, t0, t3, hg, ej];decide)) only [zA,zB,zC,zD,zE,zF,zG,zH,zI,zJ,zK,HV.cells,fl0,fl2,flS,flS1,flI1,flU1,flU2,flF,hnt, t0, t3, hg, ej]; try exact rfl) ?_
       | refine r_ixs (by simp (disch:=first|decide|(simp only[zF,zG,hnt, t0, t3, hg, ej];decide)) only [zA,zB,zC,zD,zE,zF,zG,zH,zI,zJ,zK,HV.cells,fl0,fl2,flS,flS1,flI1,flU1,flU2,flF,hnt, t0, t3, hg, ej]; try exact rfl) (by simp (disch:=first|decide|(simp only[zF,zG,hnt, t0, t3, hg, ej];decide)) only [zA,zB,zC,zD,zE,zF,zG,zH,zI,zJ,zK,HV.cells,fl0,fl2,flS,flS1,flI1,flU1,flU2,flF,hnt, t0, t3, hg, ej]; try exact rfl) (by omega) ?_
       | refine r_calld (by simp (disch:=first|decide|(simp only[zF,zG,hnt, t0, t3, hg, ej];decide)) only [zA,zB,zC,zD,zE,zF,zG,zH,zI,zJ,zK,HV.cells,fl0,fl2,flS,flS1,flI1,flU1,flU2,flF,hnt, t0, t3, hg, ej]; try exact rfl) (by simp (disch:=first|decide|(simp only[zF,zG,hnt, t0, t3, hg, ej];decide)) only [List.map_cons,List.map_nil,List.nil_append,List.cons_append,List.append_nil,zA,zB,zC,zD,zE,zF,zG,zH,zI,zJ,zK,HV.cells,fl0,fl2,flS,flS1,flI1,flU1,flU2,flF,hnt, t0, t3, hg, ej]; first|done|exact rfl) c_In (fun n' hn' hc => ?_) (fun n' hn' hc => ?_) <;> (try (exfalso; omega))
       | refine w_draw (by omega) (by (repeat' first|assumption|refine D.upd ?_ (by omega)|exact D.mono (by assumption) (by omega)) <;> fail) ?_
       | refine d_rest rfl ?_
       | refine d_one rfl rfl ?_
       | refine d_next (by omega) ?_
       | fail
      have ek : ((k + 1 : Nat) : Int) + 1 = ((k + 2 : Nat) : Int) := by omega
      have el : ((k + 1 + 1 : Nat) : Int) = ((k + 2 : Nat) : Int) := by omega
      all_goals first
        | (refine hr _ _ _ (he.up (by omega)) (by first|exact nS (by unfold StOk; omega)|exact nP (by unfold Pre; omega)) ?_ ?_ ?_
           all_goals first|(simp only [zL,zM,zF,zG,hnt, hds];done)|(simp (disch:=first|decide|(simp only[zF,zG,hnt, hds];decide)) only [zA,zB,zC,zD,zE,zF,zG,zH,zI,zJ,zK,HV.cells,fl0,fl2,flS,flS1,flI1,flU1,flU2,flF,hnt, hds];first|done|exact rfl)|assumption)
        | (refine loop33 (cp := cp) hlen hfl hrow m (k + 1 + 1) _ _ _ (by omega) (he.up (by omega)) (good_next hG hi (by unfold StOk; omega) (fun j hj => by
            have e : j = k := by omega
            subst e
            unfold Pre
            omega)) ?_ ?_ ?_ ?_ hq hr
           · first|(simp only [zL,zM,zF,zG,hnt];done)|(simp (disch:=first|decide|(simp only[zF,zG,hnt];decide)) only [zA,zB,zC,zD,zE,zF,zG,zH,zI,zJ,zK,HV.cells,fl0,fl2,flS,flS1,flI1,flU1,flU2,flF,hnt];first|done|exact rfl)|assumption
           · first|(simp only [zL,zM,zF,zG,hnt, hds];done)|(simp (disch:=first|decide|(simp only[zF,zG,hnt, hds];decide)) only [zA,zB,zC,zD,zE,zF,zG,zH,zI,zJ,zK,HV.cells,fl0,fl2,flS,flS1,flI1,flU1,flU2,flF,hnt, hds];first|done|exact rfl)|assumption
           · first|(simp only [zL,zM,zF,zG,hnt, t0];done)|(simp (disch:=first|decide|(simp only[zF,zG,hnt, t0];decide)) only [zA,zB,zC,zD,zE,zF,zG,zH,zI,zJ,zK,HV.cells,fl0,fl2,flS,flS1,flI1,flU1,flU2,flF,hnt, t0];first|done|exact rfl)|assumption
           · exact Eq.trans (by simp (disch:=first|decide|(simp only[zF,zG,hnt];decide)) only [zA,zB,zC,zD,zE,zF,zG,zH,zI,zJ,zK,HV.cells,fl0,fl2,flS,flS1,flI1,flU1,flU2,flF,hnt]; try exact rfl) (congrArg i64 (by omega)))
/- 33 -/
theorem c_IsTable {fl : Nat} {h : Tr HBlk} {nx : Nat} (hd : D h nx) {p : Option (Nat × Nat)} {l : List (Int × Int)} {n cp : Nat} (hn : n = l.length) (hlen : l.length < 1000000000) (hrow : Row renc 2 h nx p l) :
    C LW fl 33 [.slice p n cp] ⟨h, nx⟩ (Sc (· = .bool (decide (TbOk l))) ⟨h, nx⟩) := by
  subst hn
  refine c_in lw33 rfl rfl rfl ?_
  dsimp only [L33]
  repeat' first
   | refine r_nil ?_
   | refine th_n ?_
   | refine w_seq ?_
   | refine w_reg ?_
   | refine w_block ?_
   | refine r_move (by simp (disch:=first|decide|(simp only[zF,zG];decide)) only [zA,zB,zC,zD,zE,zF,zG,zH,zI,zJ,zK,HV.cells,fl0,fl2,flS,flS1,flI1,flU1,flU2,flF]; try exact rfl) ?_
   | fail
  refine loop33 (cp := cp) hlen (Nat.le_refl _) hrow l.length 0 _ _ _ (by omega) (Ext.refl hd) ⟨fun j _ hj => by omega, fun j _ hj => by omega⟩ ?_ ?_ ?_ ?_ (fun a' h' n2 g1 g2 g3 g4 g5 => ?_) (fun a' h' n2 g1 g2 g3 g4 g5 => ?_)
  all_goals try first|(simp only [zL,zM,zF,zG];done)|(simp (disch:=first|decide|(simp only[zF,zG];decide)) only [zA,zB,zC,zD,zE,zF,zG,zH,zI,zJ,zK,HV.cells,fl0,fl2,flS,flS1,flI1,flU1,flU2,flF];first|done|exact rfl)|assumption
  · have hle := g1.le
    repeat' first
     | refine r_nil ?_
     | refine th_n ?_
     | refine w_seq ?_
     | refine w_reg ?_
     | refine w_ret ?_
     | refine r_move (by simp (disch:=first|decide|(simp only[zF,zG,g3, g5];decide)) only [zA,zB,zC,zD,zE,zF,zG,zH,zI,zJ,zK,HV.cells,fl0,fl2,flS,flS1,flI1,flU1,flU2,flF,g3, g5]; try exact rfl) ?_
     | refine r_geq (by simp (disch:=first|decide|(simp only[zF,zG,g3, g5];decide)) only [zA,zB,zC,zD,zE,zF,zG,zH,zI,zJ,zK,HV.cells,fl0,fl2,flS,flS1,flI1,flU1,flU2,flF,g3, g5]; try exact rfl) (by simp (disch:=first|decide|(simp only[zF,zG,g3, g5];decide)) only [zA,zB,zC,zD,zE,zF,zG,zH,zI,zJ,zK,HV.cells,fl0,fl2,flS,flS1,flI1,flU1,flU2,flF,g3, g5]; try exact rfl) (fun hc => ?_) (fun hc => ?_) <;> (try (exfalso; omega))
     | refine r_len (by simp (disch:=first|decide|(simp only[zF,zG,g3, g5];decide)) only [zA,zB,zC,zD,zE,zF,zG,zH,zI,zJ,zK,HV.cells,fl0,fl2,flS,flS1,flI1,flU1,flU2,flF,g3, g5]; try exact rfl) ?_
     | fail
    all_goals
      refine fin_r (by simp only [zL, zM, g4]) (by simp (disch:=first|decide|(simp only[zF,zG,g3];decide)) only [zA,zB,zC,zD,zE,zF,zG,zH,zI,zJ,zK,HV.cells,fl0,fl2,flS,flS1,flI1,flU1,flU2,flF,g3]; try exact rfl) (sc_flat rfl (by dsimp only; omega) ?_)
      first
        | rw [decide_eq_true ((good_tb g2).2 (by omega))]
        | rw [decide_eq_false (fun e => by have := (good_tb g2).1 e; omega)]
  · have hle := g1.le
    repeat' first
     | refine th_r ?_
     | fail
    refine fin_r (by simp only [zL, zM, g4]) (by simp (disch:=first|decide|(simp only[zF,zG,g3, g5];decide)) only [zA,zB,zC,zD,zE,zF,zG,zH,zI,zJ,zK,HV.cells,fl0,fl2,flS,flS1,flI1,flU1,flU2,flF,g3, g5]; try exact rfl) (sc_flat rfl (by dsimp only; omega) ?_)
    rw [decide_eq_false g2]
def Tbd (l : List (Int × Int)) (q : Int × Int) : Prop := l.length ≤ 8 ∧ TbOk l ∧ PrOk l q
instance (l : List (Int × Int)) (q : Int × Int) : Decidable (Tbd l q) := by unfold Tbd; infer_instance
end Go.Hx

