import Derived.Test.YtojkmobfhkjfnaaH10
set_option linter.all false
namespace Go.Hx
set_option linter.unusedSimpArgs false
set_option linter.unusedVariables false
set_option maxRecDepth 20000
set_option maxHeartbeats 4000000
attribute [local irreducible] W R C thenH inBlockH
/- 18 -/
theorem c_law18 {fl : Nat} {h : Tr HBlk} {nx : Nat} (hd : D h nx) {t : Tb} {w1 w2 : List Int} {p1 p2 : Option (Nat × Nat)} {m1 m2 c1 c2 : Nat} {by_ : Int} (hm1 : m1 = w1.length) (hm2 : m2 = w2.length) (hw1 : Words w1) (hw2 : Words w2) (hr1 : Row wenc 1 h nx p1 w1) (hr2 : Row wenc 1 h nx p2 w2) (hby : 0 ≤ by_ ∧ by_ < 256) :
    C LW fl 18 [.agg t.cells, .slice p1 m1 c1, .slice p2 m2 c2, .int .u8 by_] ⟨h, nx⟩ (Sc (· = .bool true) ⟨h, nx⟩) := by
  subst hm1
  subst hm2
  have tk : takeN 4 (t.cells.drop 0) = some t.cells := rfl
  have ec : t.cells[0 + 0]? = some (i64 t.c) := rfl
  have et : t.cells[0 + 1]? = some (i64 t.t) := rfl
  have ea : t.cells[0 + 2 + 0]? = some (i64 t.a) := rfl
  have eb : t.cells[0 + 2 + 1]? = some (i64 t.b) := rfl
  have cI : ∀ fl h' n', C LW fl 25 [.agg t.cells] ⟨h', n'⟩ (Sc (· = .bool (decide (TubeOk t.c t.t t.a t.b))) ⟨h', n'⟩) := fun fl h' n' => c_isTube
  refine c_in lw18 rfl rfl rfl ?_
  dsimp only [L18]
  by_cases hT : TubeOk t.c t.t t.a t.b
  case neg =>
    have cI1 : ∀ fl h' n', C LW fl 25 [.agg t.cells] ⟨h', n'⟩ (Sc (· = .bool false) ⟨h', n'⟩) := fun fl h' n' => by have := cI fl h' n'; rwa [decide_eq_false hT] at this
    repeat' first
     | refine r_nil ?_
     | refine th_n ?_
     | refine th_r ?_
     | refine th_e ?_
     | refine ib_n ?_
     | refine ib_r ?_
     | refine ib_e ?_
     | refine ib_x (by decide) ?_
     | refine w_exit ?_
     | refine w_seq ?_
     | refine w_reg ?_
     | refine w_ret ?_
     | refine w_skip ?_
     | refine w_block ?_
     | refine w_t (by simp (disch:=first|decide|(simp only[zF,zG];decide)) only [zA,zB,zC,zD,zE,zF,zG,zH,zI,zJ,zK,HV.cells]; first|done|exact rfl) ?_
     | refine w_f (by simp (disch:=first|decide|(simp only[zF,zG];decide)) only [zA,zB,zC,zD,zE,zF,zG,zH,zI,zJ,zK,HV.cells]; first|done|exact rfl) ?_
     | refine r_take (by simp (disch:=first|decide|(simp only[zF,zG];decide)) only [zA,zB,zC,zD,zE,zF,zG,zH,zI,zJ,zK,HV.cells]; first|done|exact rfl) ?_
     | refine r_drop (by simp (disch:=first|decide|(simp only[zF,zG,Bool.not_true,Bool.not_false];decide)) only [zA,zB,zC,zD,zE,zF,zG,zH,zI,zJ,zK,HV.cells,Bool.not_true,Bool.not_false]; first|done|exact rfl) ?_
     | refine r_move (by simp (disch:=first|decide|(simp only[zF,zG];decide)) only [zA,zB,zC,zD,zE,zF,zG,zH,zI,zJ,zK,HV.cells]; try exact rfl) ?_
     | refine r_fa (by simp (disch:=first|decide|(simp only[zF,zG];decide)) only [zA,zB,zC,zD,zE,zF,zG,zH,zI,zJ,zK,HV.cells]; try exact rfl) ?_
     | refine r_ld1 (by simp (disch:=first|decide|(simp only[zF,zG];decide)) only [zA,zB,zC,zD,zE,zF,zG,zH,zI,zJ,zK,HV.cells]; try exact rfl) (by first|assumption|(simp (disch:=omega) only [get_same,get_other]; first|done|exact rfl)) (by first|assumption|rfl|(simp only [zI,zJ,HV.cells]; exact rfl)) ?_
     | refine r_ldn (by simp (disch:=first|decide|(simp only[zF,zG];decide)) only [zA,zB,zC,zD,zE,zF,zG,zH,zI,zJ,zK,HV.cells]; try exact rfl) (by first|assumption|(simp (disch:=omega) only [get_same,get_other]; first|done|exact rfl)) (by first|assumption|rfl|(simp only [zI,zJ,HV.cells]; exact rfl)) ?_
     | refine r_box (by simp (disch:=first|decide|(simp only[zF,zG];decide)) only [zA,zB,zC,zD,zE,zF,zG,zH,zI,zJ,zK,HV.cells]; try exact rfl) ?_
     | refine r_alloc ?_
     | refine r_st (cs' := _) (by simp (disch:=first|decide|(simp only[zF,zG];decide)) only [zA,zB,zC,zD,zE,zF,zG,zH,zI,zJ,zK,HV.cells]; try exact rfl) (by simp (disch:=first|decide|(simp only[zF,zG];decide)) only [zA,zB,zC,zD,zE,zF,zG,zH,zI,zJ,zK,HV.cells]; try exact rfl) (by first|assumption|(simp (disch:=omega) only [get_same,get_other]; first|done|exact rfl)) (by exact True.intro) (by rfl) (by rfl) (by first|assumption|rfl|(simp only [zI,zJ,HV.cells]; exact rfl)) (by omega) ?_
     | refine r_add (by simp (disch:=first|decide|(simp only[zF,zG];decide)) only [zA,zB,zC,zD,zE,zF,zG,zH,zI,zJ,zK,HV.cells]; try exact rfl) (by simp (disch:=first|decide|(simp only[zF,zG];decide)) only [zA,zB,zC,zD,zE,zF,zG,zH,zI,zJ,zK,HV.cells]; try exact rfl) (by omega) (by omega) ?_
     | refine r_mul (by simp (disch:=first|decide|(simp only[zF,zG];decide)) only [zA,zB,zC,zD,zE,zF,zG,zH,zI,zJ,zK,HV.cells]; try exact rfl) (by simp (disch:=first|decide|(simp only[zF,zG];decide)) only [zA,zB,zC,zD,zE,zF,zG,zH,zI,zJ,zK,HV.cells]; try exact rfl) (by omega) (by omega) ?_
     | refine r_lss (by simp (disch:=first|decide|(simp only[zF,zG];decide)) only [zA,zB,zC,zD,zE,zF,zG,zH,zI,zJ,zK,HV.cells]; try exact rfl) (by simp (disch:=first|decide|(simp only[zF,zG];decide)) only [zA,zB,zC,zD,zE,zF,zG,zH,zI,zJ,zK,HV.cells]; try exact rfl) (fun hc => ?_) (fun hc => ?_) <;> (try (exfalso; omega))
     | refine r_gtr (by simp (disch:=first|decide|(simp only[zF,zG];decide)) only [zA,zB,zC,zD,zE,zF,zG,zH,zI,zJ,zK,HV.cells]; try exact rfl) (by simp (disch:=first|decide|(simp only[zF,zG];decide)) only [zA,zB,zC,zD,zE,zF,zG,zH,zI,zJ,zK,HV.cells]; try exact rfl) (fun hc => ?_) (fun hc => ?_) <;> (try (exfalso; omega))
     | refine r_eq (by simp (disch:=first|decide|(simp only[zF,zG];decide)) only [zA,zB,zC,zD,zE,zF,zG,zH,zI,zJ,zK,HV.cells]; try exact rfl) (by simp (disch:=first|decide|(simp only[zF,zG];decide)) only [zA,zB,zC,zD,zE,zF,zG,zH,zI,zJ,zK,HV.cells]; try exact rfl) (fun hc => ?_) (fun hc => ?_) <;> (try (exfalso; omega))
     | refine r_ne (by simp (disch:=first|decide|(simp only[zF,zG];decide)) only [zA,zB,zC,zD,zE,zF,zG,zH,zI,zJ,zK,HV.cells]; try exact rfl) (by simp (disch:=first|decide|(simp only[zF,zG];decide)) only [zA,zB,zC,zD,zE,zF,zG,zH,zI,zJ,zK,HV.cells]; try exact rfl) (fun hc => ?_) (fun hc => ?_) <;> (try (exfalso; omega))
     | refine r_eqb (by simp (disch:=first|decide|(simp only[zF,zG];decide)) only [zA,zB,zC,zD,zE,zF,zG,zH,zI,zJ,zK,HV.cells]; try exact rfl) (by simp (disch:=first|decide|(simp only[zF,zG];decide)) only [zA,zB,zC,zD,zE,zF,zG,zH,zI,zJ,zK,HV.cells]; try exact rfl) ?_
     | refine r_not1 (by simp (disch:=first|decide|(simp only[zF,zG];decide)) only [zA,zB,zC,zD,zE,zF,zG,zH,zI,zJ,zK,HV.cells]; try exact rfl) ?_
     | refine r_pt (by simp (disch:=first|decide|(simp only[zF,zG];decide)) only [zA,zB,zC,zD,zE,zF,zG,zH,zI,zJ,zK,HV.cells]; first|done|exact rfl) (by simp (disch:=first|decide|(simp only[zF,zG];decide)) only [zA,zB,zC,zD,zE,zF,zG,zH,zI,zJ,zK,HV.cells]; try exact rfl) ?_
     | refine r_pf (by simp (disch:=first|decide|(simp only[zF,zG];decide)) only [zA,zB,zC,zD,zE,zF,zG,zH,zI,zJ,zK,HV.cells]; first|done|exact rfl) (by simp (disch:=first|decide|(simp only[zF,zG];decide)) only [zA,zB,zC,zD,zE,zF,zG,zH,zI,zJ,zK,HV.cells]; try exact rfl) ?_
     | refine r_len (by simp (disch:=first|decide|(simp only[zF,zG];decide)) only [zA,zB,zC,zD,zE,zF,zG,zH,zI,zJ,zK,HV.cells]; try exact rfl) ?_
     | refine r_ixs (by simp (disch:=first|decide|(simp only[zF,zG];decide)) only [zA,zB,zC,zD,zE,zF,zG,zH,zI,zJ,zK,HV.cells]; try exact rfl) (by simp (disch:=first|decide|(simp only[zF,zG];decide)) only [zA,zB,zC,zD,zE,zF,zG,zH,zI,zJ,zK,HV.cells]; try exact rfl) (by omega) ?_
     | refine r_ext (by simp (disch:=first|decide|(simp only[zF,zG];decide)) only [zA,zB,zC,zD,zE,zF,zG,zH,zI,zJ,zK,HV.cells]; try exact rfl) (by first|assumption|rfl|(simp only [zI,zJ,HV.cells]; exact rfl)) ?_
     | refine r_build (by simp (disch:=first|decide|(simp only[zF,zG];decide)) only [evParts,List.map_cons,List.map_nil,List.nil_append,List.cons_append,List.append_nil,zA,zB,zC,zD,zE,zF,zG,zH,zI,zJ,zK,HV.cells]; try exact rfl) ?_
     | refine r_bs (by simp (disch:=first|decide|(simp only[zF,zG];decide)) only [evParts,List.map_cons,List.map_nil,List.nil_append,List.cons_append,List.append_nil,zA,zB,zC,zD,zE,zF,zG,zH,zI,zJ,zK,HV.cells]; try exact rfl) ?_
     | refine r_rem (by simp (disch:=first|decide|(simp only[zF,zG];decide)) only [zA,zB,zC,zD,zE,zF,zG,zH,zI,zJ,zK,HV.cells]; try exact rfl) (by simp (disch:=first|decide|(simp only[zF,zG];decide)) only [zA,zB,zC,zD,zE,zF,zG,zH,zI,zJ,zK,HV.cells]; try exact rfl) (by omega) (by omega) ?_
     | refine r_conv (by simp (disch:=first|decide|(simp only[zF,zG];decide)) only [zA,zB,zC,zD,zE,zF,zG,zH,zI,zJ,zK,HV.cells]; try exact rfl) (by omega) (by omega) ?_
     | refine r_calls (by simp (disch:=first|decide|(simp only[zF,zG];decide)) only [zA,zB,zC,zD,zE,zF,zG,zH,zI,zJ,zK,HV.cells]; try exact rfl) (by simp (disch:=first|decide|(simp only[zF,zG];decide)) only [List.map_cons,List.map_nil,List.nil_append,List.cons_append,List.append_nil,zA,zB,zC,zD,zE,zF,zG,zH,zI,zJ,zK,HV.cells]; try exact rfl) (cI1 _ _ _) (fun n' hn' => ?_)
     | refine r_calls (by simp (disch:=first|decide|(simp only[zF,zG];decide)) only [zA,zB,zC,zD,zE,zF,zG,zH,zI,zJ,zK,HV.cells]; try exact rfl) (by simp (disch:=first|decide|(simp only[zF,zG];decide)) only [List.map_cons,List.map_nil,List.nil_append,List.cons_append,List.append_nil,zA,zB,zC,zD,zE,zF,zG,zH,zI,zJ,zK,HV.cells]; try exact rfl) c_wakes (fun n' hn' => ?_)
     | fail
    refine fin_r (by simp only [zL,zM]) (by simp (disch:=first|decide|(simp only[zF,zG];decide)) only [zA,zB,zC,zD,zE,zF,zG,zH,zI,zJ,zK,HV.cells]; try exact rfl) (sc_flat rfl (by dsimp only; omega) ?_); rfl
  have cI1 : ∀ fl h' n', C LW fl 25 [.agg t.cells] ⟨h', n'⟩ (Sc (· = .bool true) ⟨h', n'⟩) := fun fl h' n' => by have := cI fl h' n'; rwa [decide_eq_true hT] at this
  have hTo := hT
  unfold TubeOk at hTo
  obtain ⟨n, hcn⟩ : ∃ n : Nat, t.c = n := ⟨t.c.toNat, by omega⟩
  repeat' first
   | refine r_nil ?_
   | refine th_n ?_
   | refine th_r ?_
   | refine th_e ?_
   | refine ib_n ?_
   | refine ib_r ?_
   | refine ib_e ?_
   | refine ib_x (by decide) ?_
   | refine w_exit ?_
   | refine w_seq ?_
   | refine w_reg ?_
   | refine w_ret ?_
   | refine w_skip ?_
   | refine w_block ?_
   | refine w_t (by simp (disch:=first|decide|(simp only[zF,zG];decide)) only [zA,zB,zC,zD,zE,zF,zG,zH,zI,zJ,zK,HV.cells]; first|done|exact rfl) ?_
   | refine w_f (by simp (disch:=first|decide|(simp only[zF,zG];decide)) only [zA,zB,zC,zD,zE,zF,zG,zH,zI,zJ,zK,HV.cells]; first|done|exact rfl) ?_
   | refine r_take (by simp (disch:=first|decide|(simp only[zF,zG];decide)) only [zA,zB,zC,zD,zE,zF,zG,zH,zI,zJ,zK,HV.cells]; first|done|exact rfl) ?_
   | refine r_drop (by simp (disch:=first|decide|(simp only[zF,zG,Bool.not_true,Bool.not_false];decide)) only [zA,zB,zC,zD,zE,zF,zG,zH,zI,zJ,zK,HV.cells,Bool.not_true,Bool.not_false]; first|done|exact rfl) ?_
   | refine r_move (by simp (disch:=first|decide|(simp only[zF,zG];decide)) only [zA,zB,zC,zD,zE,zF,zG,zH,zI,zJ,zK,HV.cells]; try exact rfl) ?_
   | refine r_fa (by simp (disch:=first|decide|(simp only[zF,zG];decide)) only [zA,zB,zC,zD,zE,zF,zG,zH,zI,zJ,zK,HV.cells]; try exact rfl) ?_
   | refine r_ld1 (by simp (disch:=first|decide|(simp only[zF,zG];decide)) only [zA,zB,zC,zD,zE,zF,zG,zH,zI,zJ,zK,HV.cells]; try exact rfl) (by first|assumption|(simp (disch:=omega) only [get_same,get_other]; first|done|exact rfl)) (by first|assumption|rfl|(simp only [zI,zJ,HV.cells]; exact rfl)) ?_
   | refine r_ldn (by simp (disch:=first|decide|(simp only[zF,zG];decide)) only [zA,zB,zC,zD,zE,zF,zG,zH,zI,zJ,zK,HV.cells]; try exact rfl) (by first|assumption|(simp (disch:=omega) only [get_same,get_other]; first|done|exact rfl)) (by first|assumption|rfl|(simp only [zI,zJ,HV.cells]; exact rfl)) ?_
   | refine r_box (by simp (disch:=first|decide|(simp only[zF,zG];decide)) only [zA,zB,zC,zD,zE,zF,zG,zH,zI,zJ,zK,HV.cells]; try exact rfl) ?_
   | refine r_alloc ?_
   | refine r_st (cs' := _) (by simp (disch:=first|decide|(simp only[zF,zG];decide)) only [zA,zB,zC,zD,zE,zF,zG,zH,zI,zJ,zK,HV.cells]; try exact rfl) (by simp (disch:=first|decide|(simp only[zF,zG];decide)) only [zA,zB,zC,zD,zE,zF,zG,zH,zI,zJ,zK,HV.cells]; try exact rfl) (by first|assumption|(simp (disch:=omega) only [get_same,get_other]; first|done|exact rfl)) (by exact True.intro) (by rfl) (by rfl) (by first|assumption|rfl|(simp only [zI,zJ,HV.cells]; exact rfl)) (by omega) ?_
   | refine r_add (by simp (disch:=first|decide|(simp only[zF,zG];decide)) only [zA,zB,zC,zD,zE,zF,zG,zH,zI,zJ,zK,HV.cells]; try exact rfl) (by simp (disch:=first|decide|(simp only[zF,zG];decide)) only [zA,zB,zC,zD,zE,zF,zG,zH,zI,zJ,zK,HV.cells]; try exact rfl) (by omega) (by omega) ?_
   | refine r_mul (by simp (disch:=first|decide|(simp only[zF,zG];decide)) only [zA,zB,zC,zD,zE,zF,zG,zH,zI,zJ,zK,HV.cells]; try exact rfl) (by simp (disch:=first|decide|(simp only[zF,zG];decide)) only [zA,zB,zC,zD,zE,zF,zG,zH,zI,zJ,zK,HV.cells]; try exact rfl) (by omega) (by omega) ?_
   | refine r_lss (by simp (disch:=first|decide|(simp only[zF,zG];decide)) only [zA,zB,zC,zD,zE,zF,zG,zH,zI,zJ,zK,HV.cells]; try exact rfl) (by simp (disch:=first|decide|(simp only[zF,zG];decide)) only [zA,zB,zC,zD,zE,zF,zG,zH,zI,zJ,zK,HV.cells]; try exact rfl) (fun hc => ?_) (fun hc => ?_) <;> (try (exfalso; omega))
   | refine r_gtr (by simp (disch:=first|decide|(simp only[zF,zG];decide)) only [zA,zB,zC,zD,zE,zF,zG,zH,zI,zJ,zK,HV.cells]; try exact rfl) (by simp (disch:=first|decide|(simp only[zF,zG];decide)) only [zA,zB,zC,zD,zE,zF,zG,zH,zI,zJ,zK,HV.cells]; try exact rfl) (fun hc => ?_) (fun hc => ?_) <;> (try (exfalso; omega))
   | refine r_eq (by simp (disch:=first|decide|(simp only[zF,zG];decide)) only [zA,zB,zC,zD,zE,zF,zG,zH,zI,zJ,zK,HV.cells]; try exact rfl) (by simp (disch:=first|decide|(simp only[zF,zG];decide)) only [zA,zB,zC,zD,zE,zF,zG,zH,zI,zJ,zK,HV.cells]; try exact rfl) (fun hc => ?_) (fun hc => ?_) <;> (try (exfalso; omega))
   | refine r_ne (by simp (disch:=first|decide|(simp only[zF,zG];decide)) only [zA,zB,zC,zD,zE,zF,zG,zH,zI,zJ,zK,HV.cells]; try exact rfl) (by simp (disch:=first|decide|(simp only[zF,zG];decide)) only [zA,zB,zC,zD,zE,zF,zG,zH,zI,zJ,zK,HV.cells]; try exact rfl) (fun hc => ?_) (fun hc => ?_) <;> (try (exfalso; omega))
   | refine r_eqb (by simp (disch:=first|decide|(simp only[zF,zG];decide)) only [zA,zB,zC,zD,zE,zF,zG,zH,zI,zJ,zK,HV.cells]; try exact rfl) (by simp (disch:=first|decide|(simp only[zF,zG];decide)) only [zA,zB,zC,zD,zE,zF,zG,zH,zI,zJ,zK,HV.cells]; try exact rfl) ?_
   | refine r_not1 (by simp (disch:=first|decide|(simp only[zF,zG];decide)) only [zA,zB,zC,zD,zE,zF,zG,zH,zI,zJ,zK,HV.cells]; try exact rfl) ?_
   | refine r_pt (by simp (disch:=first|decide|(simp only[zF,zG];decide)) only [zA,zB,zC,zD,zE,zF,zG,zH,zI,zJ,zK,HV.cells]; first|done|exact rfl) (by simp (disch:=first|decide|(simp only[zF,zG];decide)) only [zA,zB,zC,zD,zE,zF,zG,zH,zI,zJ,zK,HV.cells]; try exact rfl) ?_
   | refine r_pf (by simp (disch:=first|decide|(simp only[zF,zG];decide)) only [zA,zB,zC,zD,zE,zF,zG,zH,zI,zJ,zK,HV.cells]; first|done|exact rfl) (by simp (disch:=first|decide|(simp only[zF,zG];decide)) only [zA,zB,zC,zD,zE,zF,zG,zH,zI,zJ,zK,HV.cells]; try exact rfl) ?_
   | refine r_len (by simp (disch:=first|decide|(simp only[zF,zG];decide)) only [zA,zB,zC,zD,zE,zF,zG,zH,zI,zJ,zK,HV.cells]; try exact rfl) ?_
   | refine r_ixs (by simp (disch:=first|decide|(simp only[zF,zG];decide)) only [zA,zB,zC,zD,zE,zF,zG,zH,zI,zJ,zK,HV.cells]; try exact rfl) (by simp (disch:=first|decide|(simp only[zF,zG];decide)) only [zA,zB,zC,zD,zE,zF,zG,zH,zI,zJ,zK,HV.cells]; try exact rfl) (by omega) ?_
   | refine r_ext (by simp (disch:=first|decide|(simp only[zF,zG];decide)) only [zA,zB,zC,zD,zE,zF,zG,zH,zI,zJ,zK,HV.cells]; try exact rfl) (by first|assumption|rfl|(simp only [zI,zJ,HV.cells]; exact rfl)) ?_
   | refine r_build (by simp (disch:=first|decide|(simp only[zF,zG];decide)) only [evParts,List.map_cons,List.map_nil,List.nil_append,List.cons_append,List.append_nil,zA,zB,zC,zD,zE,zF,zG,zH,zI,zJ,zK,HV.cells]; try exact rfl) ?_
   | refine r_bs (by simp (disch:=first|decide|(simp only[zF,zG];decide)) only [evParts,List.map_cons,List.map_nil,List.nil_append,List.cons_append,List.append_nil,zA,zB,zC,zD,zE,zF,zG,zH,zI,zJ,zK,HV.cells]; try exact rfl) ?_
   | refine r_rem (by simp (disch:=first|decide|(simp only[zF,zG];decide)) only [zA,zB,zC,zD,zE,zF,zG,zH,zI,zJ,zK,HV.cells]; try exact rfl) (by simp (disch:=first|decide|(simp only[zF,zG];decide)) only [zA,zB,zC,zD,zE,zF,zG,zH,zI,zJ,zK,HV.cells]; try exact rfl) (by omega) (by omega) ?_
   | refine r_conv (by simp (disch:=first|decide|(simp only[zF,zG];decide)) only [zA,zB,zC,zD,zE,zF,zG,zH,zI,zJ,zK,HV.cells]; try exact rfl) (by omega) (by omega) ?_
   | refine r_calls (by simp (disch:=first|decide|(simp only[zF,zG];decide)) only [zA,zB,zC,zD,zE,zF,zG,zH,zI,zJ,zK,HV.cells]; try exact rfl) (by simp (disch:=first|decide|(simp only[zF,zG];decide)) only [List.map_cons,List.map_nil,List.nil_append,List.cons_append,List.append_nil,zA,zB,zC,zD,zE,zF,zG,zH,zI,zJ,zK,HV.cells]; try exact rfl) (cI1 _ _ _) (fun n' hn' => ?_)
   | fail
  refine w_draw (by omega) (by repeat' first|assumption|refine D.upd ?_ (by omega)|exact D.mono (by assumption) (by omega)) ?_
  refine d_one rfl ?_
  repeat' first
   | refine r_nil ?_
   | refine th_n ?_
   | refine th_r ?_
   | refine th_e ?_
   | refine ib_n ?_
   | refine ib_r ?_
   | refine ib_e ?_
   | refine ib_x (by decide) ?_
   | refine w_exit ?_
   | refine w_seq ?_
   | refine w_reg ?_
   | refine w_ret ?_
   | refine w_skip ?_
   | refine w_block ?_
   | refine w_t (by simp (disch:=first|decide|(simp only[zF,zG];decide)) only [zA,zB,zC,zD,zE,zF,zG,zH,zI,zJ,zK,HV.cells]; first|done|exact rfl) ?_
   | refine w_f (by simp (disch:=first|decide|(simp only[zF,zG];decide)) only [zA,zB,zC,zD,zE,zF,zG,zH,zI,zJ,zK,HV.cells]; first|done|exact rfl) ?_
   | refine r_take (by simp (disch:=first|decide|(simp only[zF,zG];decide)) only [zA,zB,zC,zD,zE,zF,zG,zH,zI,zJ,zK,HV.cells]; first|done|exact rfl) ?_
   | refine r_drop (by simp (disch:=first|decide|(simp only[zF,zG,Bool.not_true,Bool.not_false];decide)) only [zA,zB,zC,zD,zE,zF,zG,zH,zI,zJ,zK,HV.cells,Bool.not_true,Bool.not_false]; first|done|exact rfl) ?_
   | refine r_move (by simp (disch:=first|decide|(simp only[zF,zG];decide)) only [zA,zB,zC,zD,zE,zF,zG,zH,zI,zJ,zK,HV.cells]; try exact rfl) ?_
   | refine r_fa (by simp (disch:=first|decide|(simp only[zF,zG];decide)) only [zA,zB,zC,zD,zE,zF,zG,zH,zI,zJ,zK,HV.cells]; try exact rfl) ?_
   | refine r_ld1 (by simp (disch:=first|decide|(simp only[zF,zG];decide)) only [zA,zB,zC,zD,zE,zF,zG,zH,zI,zJ,zK,HV.cells]; try exact rfl) (by first|assumption|(simp (disch:=omega) only [get_same,get_other]; first|done|exact rfl)) (by first|assumption|rfl|(simp only [zI,zJ,HV.cells]; exact rfl)) ?_
   | refine r_ldn (by simp (disch:=first|decide|(simp only[zF,zG];decide)) only [zA,zB,zC,zD,zE,zF,zG,zH,zI,zJ,zK,HV.cells]; try exact rfl) (by first|assumption|(simp (disch:=omega) only [get_same,get_other]; first|done|exact rfl)) (by first|assumption|rfl|(simp only [zI,zJ,HV.cells]; exact rfl)) ?_
   | refine r_box (by simp (disch:=first|decide|(simp only[zF,zG];decide)) only [zA,zB,zC,zD,zE,zF,zG,zH,zI,zJ,zK,HV.cells]; try exact rfl) ?_
   | refine r_alloc ?_
   | refine r_st (cs' := _) (by simp (disch:=first|decide|(simp only[zF,zG];decide)) only [zA,zB,zC,zD,zE,zF,zG,zH,zI,zJ,zK,HV.cells]; try exact rfl) (by simp (disch:=first|decide|(simp only[zF,zG];decide)) only [zA,zB,zC,zD,zE,zF,zG,zH,zI,zJ,zK,HV.cells]; try exact rfl) (by first|assumption|(simp (disch:=omega) only [get_same,get_other]; first|done|exact rfl)) (by exact True.intro) (by rfl) (by rfl) (by first|assumption|rfl|(simp only [zI,zJ,HV.cells]; exact rfl)) (by omega) ?_
   | refine r_add (by simp (disch:=first|decide|(simp only[zF,zG];decide)) only [zA,zB,zC,zD,zE,zF,zG,zH,zI,zJ,zK,HV.cells]; try exact rfl) (by simp (disch:=first|decide|(simp only[zF,zG];decide)) only [zA,zB,zC,zD,zE,zF,zG,zH,zI,zJ,zK,HV.cells]; try exact rfl) (by omega) (by omega) ?_
   | refine r_mul (by simp (disch:=first|decide|(simp only[zF,zG];decide)) only [zA,zB,zC,zD,zE,zF,zG,zH,zI,zJ,zK,HV.cells]; try exact rfl) (by simp (disch:=first|decide|(simp only[zF,zG];decide)) only [zA,zB,zC,zD,zE,zF,zG,zH,zI,zJ,zK,HV.cells]; try exact rfl) (by omega) (by omega) ?_
   | refine r_lss (by simp (disch:=first|decide|(simp only[zF,zG];decide)) only [zA,zB,zC,zD,zE,zF,zG,zH,zI,zJ,zK,HV.cells]; try exact rfl) (by simp (disch:=first|decide|(simp only[zF,zG];decide)) only [zA,zB,zC,zD,zE,zF,zG,zH,zI,zJ,zK,HV.cells]; try exact rfl) (fun hc => ?_) (fun hc => ?_) <;> (try (exfalso; omega))
   | refine r_gtr (by simp (disch:=first|decide|(simp only[zF,zG];decide)) only [zA,zB,zC,zD,zE,zF,zG,zH,zI,zJ,zK,HV.cells]; try exact rfl) (by simp (disch:=first|decide|(simp only[zF,zG];decide)) only [zA,zB,zC,zD,zE,zF,zG,zH,zI,zJ,zK,HV.cells]; try exact rfl) (fun hc => ?_) (fun hc => ?_) <;> (try (exfalso; omega))
   | refine r_eq (by simp (disch:=first|decide|(simp only[zF,zG];decide)) only [zA,zB,zC,zD,zE,zF,zG,zH,zI,zJ,zK,HV.cells]; try exact rfl) (by simp (disch:=first|decide|(simp only[zF,zG];decide)) only [zA,zB,zC,zD,zE,zF,zG,zH,zI,zJ,zK,HV.cells]; try exact rfl) (fun hc => ?_) (fun hc => ?_) <;> (try (exfalso; omega))
   | refine r_ne (by simp (disch:=first|decide|(simp only[zF,zG];decide)) only [zA,zB,zC,zD,zE,zF,zG,zH,zI,zJ,zK,HV.cells]; try exact rfl) (by simp (disch:=first|decide|(simp only[zF,zG];decide)) only [zA,zB,zC,zD,zE,zF,zG,zH,zI,zJ,zK,HV.cells]; try exact rfl) (fun hc => ?_) (fun hc => ?_) <;> (try (exfalso; omega))
   | refine r_eqb (by simp (disch:=first|decide|(simp only[zF,zG];decide)) only [zA,zB,zC,zD,zE,zF,zG,zH,zI,zJ,zK,HV.cells]; try exact rfl) (by simp (disch:=first|decide|(simp only[zF,zG];decide)) only [zA,zB,zC,zD,zE,zF,zG,zH,zI,zJ,zK,HV.cells]; try exact rfl) ?_
   | refine r_not1 (by simp (disch:=first|decide|(simp only[zF,zG];decide)) only [zA,zB,zC,zD,zE,zF,zG,zH,zI,zJ,zK,HV.cells]; try exact rfl) ?_
   | refine r_pt (by simp (disch:=first|decide|(simp only[zF,zG];decide)) only [zA,zB,zC,zD,zE,zF,zG,zH,zI,zJ,zK,HV.cells]; first|done|exact rfl) (by simp (disch:=first|decide|(simp only[zF,zG];decide)) only [zA,zB,zC,zD,zE,zF,zG,zH,zI,zJ,zK,HV.cells]; try exact rfl) ?_
   | refine r_pf (by simp (disch:=first|decide|(simp only[zF,zG];decide)) only [zA,zB,zC,zD,zE,zF,zG,zH,zI,zJ,zK,HV.cells]; first|done|exact rfl) (by simp (disch:=first|decide|(simp only[zF,zG];decide)) only [zA,zB,zC,zD,zE,zF,zG,zH,zI,zJ,zK,HV.cells]; try exact rfl) ?_
   | refine r_len (by simp (disch:=first|decide|(simp only[zF,zG];decide)) only [zA,zB,zC,zD,zE,zF,zG,zH,zI,zJ,zK,HV.cells]; try exact rfl) ?_
   | refine r_ixs (by simp (disch:=first|decide|(simp only[zF,zG];decide)) only [zA,zB,zC,zD,zE,zF,zG,zH,zI,zJ,zK,HV.cells]; try exact rfl) (by simp (disch:=first|decide|(simp only[zF,zG];decide)) only [zA,zB,zC,zD,zE,zF,zG,zH,zI,zJ,zK,HV.cells]; try exact rfl) (by omega) ?_
   | refine r_ext (by simp (disch:=first|decide|(simp only[zF,zG];decide)) only [zA,zB,zC,zD,zE,zF,zG,zH,zI,zJ,zK,HV.cells]; try exact rfl) (by first|assumption|rfl|(simp only [zI,zJ,HV.cells]; exact rfl)) ?_
   | refine r_build (by simp (disch:=first|decide|(simp only[zF,zG];decide)) only [evParts,List.map_cons,List.map_nil,List.nil_append,List.cons_append,List.append_nil,zA,zB,zC,zD,zE,zF,zG,zH,zI,zJ,zK,HV.cells]; try exact rfl) ?_
   | refine r_bs (by simp (disch:=first|decide|(simp only[zF,zG];decide)) only [evParts,List.map_cons,List.map_nil,List.nil_append,List.cons_append,List.append_nil,zA,zB,zC,zD,zE,zF,zG,zH,zI,zJ,zK,HV.cells]; try exact rfl) ?_
   | refine r_rem (by simp (disch:=first|decide|(simp only[zF,zG];decide)) only [zA,zB,zC,zD,zE,zF,zG,zH,zI,zJ,zK,HV.cells]; try exact rfl) (by simp (disch:=first|decide|(simp only[zF,zG];decide)) only [zA,zB,zC,zD,zE,zF,zG,zH,zI,zJ,zK,HV.cells]; try exact rfl) (by omega) (by omega) ?_
   | refine r_conv (by simp (disch:=first|decide|(simp only[zF,zG];decide)) only [zA,zB,zC,zD,zE,zF,zG,zH,zI,zJ,zK,HV.cells]; try exact rfl) (by omega) (by omega) ?_
   | fail
  refine d_next (by omega) ?_
  refine d_one rfl ?_
  repeat' first
   | refine r_nil ?_
   | refine th_n ?_
   | refine th_r ?_
   | refine th_e ?_
   | refine ib_n ?_
   | refine ib_r ?_
   | refine ib_e ?_
   | refine ib_x (by decide) ?_
   | refine w_exit ?_
   | refine w_seq ?_
   | refine w_reg ?_
   | refine w_ret ?_
   | refine w_skip ?_
   | refine w_block ?_
   | refine w_t (by simp (disch:=first|decide|(simp only[zF,zG];decide)) only [zA,zB,zC,zD,zE,zF,zG,zH,zI,zJ,zK,HV.cells]; first|done|exact rfl) ?_
   | refine w_f (by simp (disch:=first|decide|(simp only[zF,zG];decide)) only [zA,zB,zC,zD,zE,zF,zG,zH,zI,zJ,zK,HV.cells]; first|done|exact rfl) ?_
   | refine r_take (by simp (disch:=first|decide|(simp only[zF,zG];decide)) only [zA,zB,zC,zD,zE,zF,zG,zH,zI,zJ,zK,HV.cells]; first|done|exact rfl) ?_
   | refine r_drop (by simp (disch:=first|decide|(simp only[zF,zG,Bool.not_true,Bool.not_false];decide)) only [zA,zB,zC,zD,zE,zF,zG,zH,zI,zJ,zK,HV.cells,Bool.not_true,Bool.not_false]; first|done|exact rfl) ?_
   | refine r_move (by simp (disch:=first|decide|(simp only[zF,zG];decide)) only [zA,zB,zC,zD,zE,zF,zG,zH,zI,zJ,zK,HV.cells]; try exact rfl) ?_
   | refine r_fa (by simp (disch:=first|decide|(simp only[zF,zG];decide)) only [zA,zB,zC,zD,zE,zF,zG,zH,zI,zJ,zK,HV.cells]; try exact rfl) ?_
   | refine r_ld1 (by simp (disch:=first|decide|(simp only[zF,zG];decide)) only [zA,zB,zC,zD,zE,zF,zG,zH,zI,zJ,zK,HV.cells]; try exact rfl) (by first|assumption|(simp (disch:=omega) only [get_same,get_other]; first|done|exact rfl)) (by first|assumption|rfl|(simp only [zI,zJ,HV.cells]; exact rfl)) ?_
   | refine r_ldn (by simp (disch:=first|decide|(simp only[zF,zG];decide)) only [zA,zB,zC,zD,zE,zF,zG,zH,zI,zJ,zK,HV.cells]; try exact rfl) (by first|assumption|(simp (disch:=omega) only [get_same,get_other]; first|done|exact rfl)) (by first|assumption|rfl|(simp only [zI,zJ,HV.cells]; exact rfl)) ?_
   | refine r_box (by simp (disch:=first|decide|(simp only[zF,zG];decide)) only [zA,zB,zC,zD,zE,zF,zG,zH,zI,zJ,zK,HV.cells]; try exact rfl) ?_
   | refine r_alloc ?_
   | refine r_st (cs' := _) (by simp (disch:=first|decide|(simp only[zF,zG];decide)) only [zA,zB,zC,zD,zE,zF,zG,zH,zI,zJ,zK,HV.cells]; try exact rfl) (by simp (disch:=first|decide|(simp only[zF,zG];decide)) only [zA,zB,zC,zD,zE,zF,zG,zH,zI,zJ,zK,HV.cells]; try exact rfl) (by first|assumption|(simp (disch:=omega) only [get_same,get_other]; first|done|exact rfl)) (by exact True.intro) (by rfl) (by rfl) (by first|assumption|rfl|(simp only [zI,zJ,HV.cells]; exact rfl)) (by omega) ?_
   | refine r_add (by simp (disch:=first|decide|(simp only[zF,zG];decide)) only [zA,zB,zC,zD,zE,zF,zG,zH,zI,zJ,zK,HV.cells]; try exact rfl) (by simp (disch:=first|decide|(simp only[zF,zG];decide)) only [zA,zB,zC,zD,zE,zF,zG,zH,zI,zJ,zK,HV.cells]; try exact rfl) (by omega) (by omega) ?_
   | refine r_mul (by simp (disch:=first|decide|(simp only[zF,zG];decide)) only [zA,zB,zC,zD,zE,zF,zG,zH,zI,zJ,zK,HV.cells]; try exact rfl) (by simp (disch:=first|decide|(simp only[zF,zG];decide)) only [zA,zB,zC,zD,zE,zF,zG,zH,zI,zJ,zK,HV.cells]; try exact rfl) (by omega) (by omega) ?_
   | refine r_lss (by simp (disch:=first|decide|(simp only[zF,zG];decide)) only [zA,zB,zC,zD,zE,zF,zG,zH,zI,zJ,zK,HV.cells]; try exact rfl) (by simp (disch:=first|decide|(simp only[zF,zG];decide)) only [zA,zB,zC,zD,zE,zF,zG,zH,zI,zJ,zK,HV.cells]; try exact rfl) (fun hc => ?_) (fun hc => ?_) <;> (try (exfalso; omega))
   | refine r_gtr (by simp (disch:=first|decide|(simp only[zF,zG];decide)) only [zA,zB,zC,zD,zE,zF,zG,zH,zI,zJ,zK,HV.cells]; try exact rfl) (by simp (disch:=first|decide|(simp only[zF,zG];decide)) only [zA,zB,zC,zD,zE,zF,zG,zH,zI,zJ,zK,HV.cells]; try exact rfl) (fun hc => ?_) (fun hc => ?_) <;> (try (exfalso; omega))
   | refine r_eq (by simp (disch:=first|decide|(simp only[zF,zG];decide)) only [zA,zB,zC,zD,zE,zF,zG,zH,zI,zJ,zK,HV.cells]; try exact rfl) (by simp (disch:=first|decide|(simp only[zF,zG];decide)) only [zA,zB,zC,zD,zE,zF,zG,zH,zI,zJ,zK,HV.cells]; try exact rfl) (fun hc => ?_) (fun hc => ?_) <;> (try (exfalso; omega))
   | refine r_ne (by simp (disch:=first|decide|(simp only[zF,zG];decide)) only [zA,zB,zC,zD,zE,zF,zG,zH,zI,zJ,zK,HV.cells]; try exact rfl) (by simp (disch:=first|decide|(simp only[zF,zG];decide)) only [zA,zB,zC,zD,zE,zF,zG,zH,zI,zJ,zK,HV.cells]; try exact rfl) (fun hc => ?_) (fun hc => ?_) <;> (try (exfalso; omega))
   | refine r_eqb (by simp (disch:=first|decide|(simp only[zF,zG];decide)) only [zA,zB,zC,zD,zE,zF,zG,zH,zI,zJ,zK,HV.cells]; try exact rfl) (by simp (disch:=first|decide|(simp only[zF,zG];decide)) only [zA,zB,zC,zD,zE,zF,zG,zH,zI,zJ,zK,HV.cells]; try exact rfl) ?_
   | refine r_not1 (by simp (disch:=first|decide|(simp only[zF,zG];decide)) only [zA,zB,zC,zD,zE,zF,zG,zH,zI,zJ,zK,HV.cells]; try exact rfl) ?_
   | refine r_pt (by simp (disch:=first|decide|(simp only[zF,zG];decide)) only [zA,zB,zC,zD,zE,zF,zG,zH,zI,zJ,zK,HV.cells]; first|done|exact rfl) (by simp (disch:=first|decide|(simp only[zF,zG];decide)) only [zA,zB,zC,zD,zE,zF,zG,zH,zI,zJ,zK,HV.cells]; try exact rfl) ?_
   | refine r_pf (by simp (disch:=first|decide|(simp only[zF,zG];decide)) only [zA,zB,zC,zD,zE,zF,zG,zH,zI,zJ,zK,HV.cells]; first|done|exact rfl) (by simp (disch:=first|decide|(simp only[zF,zG];decide)) only [zA,zB,zC,zD,zE,zF,zG,zH,zI,zJ,zK,HV.cells]; try exact rfl) ?_
   | refine r_len (by simp (disch:=first|decide|(simp only[zF,zG];decide)) only [zA,zB,zC,zD,zE,zF,zG,zH,zI,zJ,zK,HV.cells]; try exact rfl) ?_
   | refine r_ixs (by simp (disch:=first|decide|(simp only[zF,zG];decide)) only [zA,zB,zC,zD,zE,zF,zG,zH,zI,zJ,zK,HV.cells]; try exact rfl) (by simp (disch:=first|decide|(simp only[zF,zG];decide)) only [zA,zB,zC,zD,zE,zF,zG,zH,zI,zJ,zK,HV.cells]; try exact rfl) (by omega) ?_
   | refine r_ext (by simp (disch:=first|decide|(simp only[zF,zG];decide)) only [zA,zB,zC,zD,zE,zF,zG,zH,zI,zJ,zK,HV.cells]; try exact rfl) (by first|assumption|rfl|(simp only [zI,zJ,HV.cells]; exact rfl)) ?_
   | refine r_build (by simp (disch:=first|decide|(simp only[zF,zG];decide)) only [evParts,List.map_cons,List.map_nil,List.nil_append,List.cons_append,List.append_nil,zA,zB,zC,zD,zE,zF,zG,zH,zI,zJ,zK,HV.cells]; try exact rfl) ?_
   | refine r_bs (by simp (disch:=first|decide|(simp only[zF,zG];decide)) only [evParts,List.map_cons,List.map_nil,List.nil_append,List.cons_append,List.append_nil,zA,zB,zC,zD,zE,zF,zG,zH,zI,zJ,zK,HV.cells]; try exact rfl) ?_
   | refine r_rem (by simp (disch:=first|decide|(simp only[zF,zG];decide)) only [zA,zB,zC,zD,zE,zF,zG,zH,zI,zJ,zK,HV.cells]; try exact rfl) (by simp (disch:=first|decide|(simp only[zF,zG];decide)) only [zA,zB,zC,zD,zE,zF,zG,zH,zI,zJ,zK,HV.cells]; try exact rfl) (by omega) (by omega) ?_
   | refine r_conv (by simp (disch:=first|decide|(simp only[zF,zG];decide)) only [zA,zB,zC,zD,zE,zF,zG,zH,zI,zJ,zK,HV.cells]; try exact rfl) (by omega) (by omega) ?_
   | fail
  refine d_next (by omega) ?_
  refine d_one rfl ?_
  repeat' first
   | refine r_nil ?_
   | refine th_n ?_
   | refine th_r ?_
   | refine th_e ?_
   | refine ib_n ?_
   | refine ib_r ?_
   | refine ib_e ?_
   | refine ib_x (by decide) ?_
   | refine w_exit ?_
   | refine w_seq ?_
   | refine w_reg ?_
   | refine w_ret ?_
   | refine w_skip ?_
   | refine w_block ?_
   | refine w_t (by simp (disch:=first|decide|(simp only[zF,zG];decide)) only [zA,zB,zC,zD,zE,zF,zG,zH,zI,zJ,zK,HV.cells]; first|done|exact rfl) ?_
   | refine w_f (by simp (disch:=first|decide|(simp only[zF,zG];decide)) only [zA,zB,zC,zD,zE,zF,zG,zH,zI,zJ,zK,HV.cells]; first|done|exact rfl) ?_
   | refine r_take (by simp (disch:=first|decide|(simp only[zF,zG];decide)) only [zA,zB,zC,zD,zE,zF,zG,zH,zI,zJ,zK,HV.cells]; first|done|exact rfl) ?_
   | refine r_drop (by simp (disch:=first|decide|(simp only[zF,zG,Bool.not_true,Bool.not_false];decide)) only [zA,zB,zC,zD,zE,zF,zG,zH,zI,zJ,zK,HV.cells,Bool.not_true,Bool.not_false]; first|done|exact rfl) ?_
   | refine r_move (by simp (disch:=first|decide|(simp only[zF,zG];decide)) only [zA,zB,zC,zD,zE,zF,zG,zH,zI,zJ,zK,HV.cells]; try exact rfl) ?_
   | refine r_fa (by simp (disch:=first|decide|(simp only[zF,zG];decide)) only [zA,zB,zC,zD,zE,zF,zG,zH,zI,zJ,zK,HV.cells]; try exact rfl) ?_
   | refine r_ld1 (by simp (disch:=first|decide|(simp only[zF,zG];decide)) only [zA,zB,zC,zD,zE,zF,zG,zH,zI,zJ,zK,HV.cells]; try exact rfl) (by first|assumption|(simp (disch:=omega) only [get_same,get_other]; first|done|exact rfl)) (by first|assumption|rfl|(simp only [zI,zJ,HV.cells]; exact rfl)) ?_
   | refine r_ldn (by simp (disch:=first|decide|(simp only[zF,zG];decide)) only [zA,zB,zC,zD,zE,zF,zG,zH,zI,zJ,zK,HV.cells]; try exact rfl) (by first|assumption|(simp (disch:=omega) only [get_same,get_other]; first|done|exact rfl)) (by first|assumption|rfl|(simp only [zI,zJ,HV.cells]; exact rfl)) ?_
   | refine r_box (by simp (disch:=first|decide|(simp only[zF,zG];decide)) only [zA,zB,zC,zD,zE,zF,zG,zH,zI,zJ,zK,HV.cells]; try exact rfl) ?_
   | refine r_alloc ?_
   | refine r_st (cs' := _) (by simp (disch:=first|decide|(simp only[zF,zG];decide)) only [zA,zB,zC,zD,zE,zF,zG,zH,zI,zJ,zK,HV.cells]; try exact rfl) (by simp (disch:=first|decide|(simp only[zF,zG];decide)) only [zA,zB,zC,zD,zE,zF,zG,zH,zI,zJ,zK,HV.cells]; try exact rfl) (by first|assumption|(simp (disch:=omega) only [get_same,get_other]; first|done|exact rfl)) (by exact True.intro) (by rfl) (by rfl) (by first|assumption|rfl|(simp only [zI,zJ,HV.cells]; exact rfl)) (by omega) ?_
   | refine r_add (by simp (disch:=first|decide|(simp only[zF,zG];decide)) only [zA,zB,zC,zD,zE,zF,zG,zH,zI,zJ,zK,HV.cells]; try exact rfl) (by simp (disch:=first|decide|(simp only[zF,zG];decide)) only [zA,zB,zC,zD,zE,zF,zG,zH,zI,zJ,zK,HV.cells]; try exact rfl) (by omega) (by omega) ?_
   | refine r_mul (by simp (disch:=first|decide|(simp only[zF,zG];decide)) only [zA,zB,zC,zD,zE,zF,zG,zH,zI,zJ,zK,HV.cells]; try exact rfl) (by simp (disch:=first|decide|(simp only[zF,zG];decide)) only [zA,zB,zC,zD,zE,zF,zG,zH,zI,zJ,zK,HV.cells]; try exact rfl) (by omega) (by omega) ?_
   | refine r_lss (by simp (disch:=first|decide|(simp only[zF,zG];decide)) only [zA,zB,zC,zD,zE,zF,zG,zH,zI,zJ,zK,HV.cells]; try exact rfl) (by simp (disch:=first|decide|(simp only[zF,zG];decide)) only [zA,zB,zC,zD,zE,zF,zG,zH,zI,zJ,zK,HV.cells]; try exact rfl) (fun hc => ?_) (fun hc => ?_) <;> (try (exfalso; omega))
   | refine r_gtr (by simp (disch:=first|decide|(simp only[zF,zG];decide)) only [zA,zB,zC,zD,zE,zF,zG,zH,zI,zJ,zK,HV.cells]; try exact rfl) (by simp (disch:=first|decide|(simp only[zF,zG];decide)) only [zA,zB,zC,zD,zE,zF,zG,zH,zI,zJ,zK,HV.cells]; try exact rfl) (fun hc => ?_) (fun hc => ?_) <;> (try (exfalso; omega))
   | refine r_eq (by simp (disch:=first|decide|(simp only[zF,zG];decide)) only [zA,zB,zC,zD,zE,zF,zG,zH,zI,zJ,zK,HV.cells]; try exact rfl) (by simp (disch:=first|decide|(simp only[zF,zG];decide)) only [zA,zB,zC,zD,zE,zF,zG,zH,zI,zJ,zK,HV.cells]; try exact rfl) (fun hc => ?_) (fun hc => ?_) <;> (try (exfalso; omega))
   | refine r_ne (by simp (disch:=first|decide|(simp only[zF,zG];decide)) only [zA,zB,zC,zD,zE,zF,zG,zH,zI,zJ,zK,HV.cells]; try exact rfl) (by simp (disch:=first|decide|(simp only[zF,zG];decide)) only [zA,zB,zC,zD,zE,zF,zG,zH,zI,zJ,zK,HV.cells]; try exact rfl) (fun hc => ?_) (fun hc => ?_) <;> (try (exfalso; omega))
   | refine r_eqb (by simp (disch:=first|decide|(simp only[zF,zG];decide)) only [zA,zB,zC,zD,zE,zF,zG,zH,zI,zJ,zK,HV.cells]; try exact rfl) (by simp (disch:=first|decide|(simp only[zF,zG];decide)) only [zA,zB,zC,zD,zE,zF,zG,zH,zI,zJ,zK,HV.cells]; try exact rfl) ?_
   | refine r_not1 (by simp (disch:=first|decide|(simp only[zF,zG];decide)) only [zA,zB,zC,zD,zE,zF,zG,zH,zI,zJ,zK,HV.cells]; try exact rfl) ?_
   | refine r_pt (by simp (disch:=first|decide|(simp only[zF,zG];decide)) only [zA,zB,zC,zD,zE,zF,zG,zH,zI,zJ,zK,HV.cells]; first|done|exact rfl) (by simp (disch:=first|decide|(simp only[zF,zG];decide)) only [zA,zB,zC,zD,zE,zF,zG,zH,zI,zJ,zK,HV.cells]; try exact rfl) ?_
   | refine r_pf (by simp (disch:=first|decide|(simp only[zF,zG];decide)) only [zA,zB,zC,zD,zE,zF,zG,zH,zI,zJ,zK,HV.cells]; first|done|exact rfl) (by simp (disch:=first|decide|(simp only[zF,zG];decide)) only [zA,zB,zC,zD,zE,zF,zG,zH,zI,zJ,zK,HV.cells]; try exact rfl) ?_
   | refine r_len (by simp (disch:=first|decide|(simp only[zF,zG];decide)) only [zA,zB,zC,zD,zE,zF,zG,zH,zI,zJ,zK,HV.cells]; try exact rfl) ?_
   | refine r_ixs (by simp (disch:=first|decide|(simp only[zF,zG];decide)) only [zA,zB,zC,zD,zE,zF,zG,zH,zI,zJ,zK,HV.cells]; try exact rfl) (by simp (disch:=first|decide|(simp only[zF,zG];decide)) only [zA,zB,zC,zD,zE,zF,zG,zH,zI,zJ,zK,HV.cells]; try exact rfl) (by omega) ?_
   | refine r_ext (by simp (disch:=first|decide|(simp only[zF,zG];decide)) only [zA,zB,zC,zD,zE,zF,zG,zH,zI,zJ,zK,HV.cells]; try exact rfl) (by first|assumption|rfl|(simp only [zI,zJ,HV.cells]; exact rfl)) ?_
   | refine r_build (by simp (disch:=first|decide|(simp only[zF,zG];decide)) only [evParts,List.map_cons,List.map_nil,List.nil_append,List.cons_append,List.append_nil,zA,zB,zC,zD,zE,zF,zG,zH,zI,zJ,zK,HV.cells]; try exact rfl) ?_
   | refine r_bs (by simp (disch:=first|decide|(simp only[zF,zG];decide)) only [evParts,List.map_cons,List.map_nil,List.nil_append,List.cons_append,List.append_nil,zA,zB,zC,zD,zE,zF,zG,zH,zI,zJ,zK,HV.cells]; try exact rfl) ?_
   | refine r_rem (by simp (disch:=first|decide|(simp only[zF,zG];decide)) only [zA,zB,zC,zD,zE,zF,zG,zH,zI,zJ,zK,HV.cells]; try exact rfl) (by simp (disch:=first|decide|(simp only[zF,zG];decide)) only [zA,zB,zC,zD,zE,zF,zG,zH,zI,zJ,zK,HV.cells]; try exact rfl) (by omega) (by omega) ?_
   | refine r_conv (by simp (disch:=first|decide|(simp only[zF,zG];decide)) only [zA,zB,zC,zD,zE,zF,zG,zH,zI,zJ,zK,HV.cells]; try exact rfl) (by omega) (by omega) ?_
   | fail
  refine d_next (by omega) ?_
  refine d_lastE rfl ?_
  refine r_callc (by simp (disch:=first|decide|(simp only[zF,zG];decide)) only [zA,zB,zC,zD,zE,zF,zG,zH,zI,zJ,zK,HV.cells]; try exact rfl) (by simp (disch:=first|decide|(simp only[zF,zG];decide)) only [List.map_cons,List.map_nil,List.nil_append,List.cons_append,List.append_nil,zA,zB,zC,zD,zE,zF,zG,zH,zI,zJ,zK,HV.cells]; try exact rfl) (c_Truly (n := n) (cp := c1) (by repeat' first|assumption|refine D.upd ?_ (by omega)|exact D.mono (by assumption) (by omega)) hcn hT rfl hw1 (hr1.ext (by repeat' first|assumption|refine Ext.put ?_ (by omega) (by omega)|exact Ext.up (by assumption) (by omega)|exact Ext.nx (by assumption) (by omega)))) ?_
  rintro u1 σ1 ⟨v, hv, p3, c3, h2, n2, rfl, rfl, e2, hr3⟩
  dsimp only at e2
  have hle2 := e2.le
  refine r_nil ?_
  refine ⟨e2, fun hm em sm => ?_⟩
  dsimp only at em sm ⊢
  have hr3m := hr3.of_get sm
  have hdm := em.d
  have xm : Ext h nx hm n2 := (Ext.put (Ext.up (Ext.refl hd) (by omega)) (Nat.le_refl _) (by omega)).trans em
  have hgm : hm.get nx = some (.cells t.cells .exact) := by rw [em.same _ (by omega)]; exact (by first|assumption|(simp (disch:=omega) only [get_same,get_other]; first|done|exact rfl))
  repeat' first
   | refine r_nil ?_
   | refine th_n ?_
   | refine th_r ?_
   | refine th_e ?_
   | refine ib_n ?_
   | refine ib_r ?_
   | refine ib_e ?_
   | refine ib_x (by decide) ?_
   | refine w_exit ?_
   | refine w_seq ?_
   | refine w_reg ?_
   | refine w_ret ?_
   | refine w_skip ?_
   | refine w_block ?_
   | refine w_t (by simp (disch:=first|decide|(simp only[zF,zG];decide)) only [zA,zB,zC,zD,zE,zF,zG,zH,zI,zJ,zK,HV.cells]; first|done|exact rfl) ?_
   | refine w_f (by simp (disch:=first|decide|(simp only[zF,zG];decide)) only [zA,zB,zC,zD,zE,zF,zG,zH,zI,zJ,zK,HV.cells]; first|done|exact rfl) ?_
   | refine r_take (by simp (disch:=first|decide|(simp only[zF,zG];decide)) only [zA,zB,zC,zD,zE,zF,zG,zH,zI,zJ,zK,HV.cells]; first|done|exact rfl) ?_
   | refine r_drop (by simp (disch:=first|decide|(simp only[zF,zG,Bool.not_true,Bool.not_false];decide)) only [zA,zB,zC,zD,zE,zF,zG,zH,zI,zJ,zK,HV.cells,Bool.not_true,Bool.not_false]; first|done|exact rfl) ?_
   | refine r_move (by simp (disch:=first|decide|(simp only[zF,zG];decide)) only [zA,zB,zC,zD,zE,zF,zG,zH,zI,zJ,zK,HV.cells]; try exact rfl) ?_
   | refine r_fa (by simp (disch:=first|decide|(simp only[zF,zG];decide)) only [zA,zB,zC,zD,zE,zF,zG,zH,zI,zJ,zK,HV.cells]; try exact rfl) ?_
   | refine r_ld1 (by simp (disch:=first|decide|(simp only[zF,zG];decide)) only [zA,zB,zC,zD,zE,zF,zG,zH,zI,zJ,zK,HV.cells]; try exact rfl) (by first|assumption|(simp (disch:=omega) only [get_same,get_other]; first|done|exact rfl)) (by first|assumption|rfl|(simp only [zI,zJ,HV.cells]; exact rfl)) ?_
   | refine r_ldn (by simp (disch:=first|decide|(simp only[zF,zG];decide)) only [zA,zB,zC,zD,zE,zF,zG,zH,zI,zJ,zK,HV.cells]; try exact rfl) (by first|assumption|(simp (disch:=omega) only [get_same,get_other]; first|done|exact rfl)) (by first|assumption|rfl|(simp only [zI,zJ,HV.cells]; exact rfl)) ?_
   | refine r_box (by simp (disch:=first|decide|(simp only[zF,zG];decide)) only [zA,zB,zC,zD,zE,zF,zG,zH,zI,zJ,zK,HV.cells]; try exact rfl) ?_
   | refine r_alloc ?_
   | refine r_st (cs' := _) (by simp (disch:=first|decide|(simp only[zF,zG];decide)) only [zA,zB,zC,zD,zE,zF,zG,zH,zI,zJ,zK,HV.cells]; try exact rfl) (by simp (disch:=first|decide|(simp only[zF,zG];decide)) only [zA,zB,zC,zD,zE,zF,zG,zH,zI,zJ,zK,HV.cells]; try exact rfl) (by first|assumption|(simp (disch:=omega) only [get_same,get_other]; first|done|exact rfl)) (by exact True.intro) (by rfl) (by rfl) (by first|assumption|rfl|(simp only [zI,zJ,HV.cells]; exact rfl)) (by omega) ?_
   | refine r_add (by simp (disch:=first|decide|(simp only[zF,zG];decide)) only [zA,zB,zC,zD,zE,zF,zG,zH,zI,zJ,zK,HV.cells]; try exact rfl) (by simp (disch:=first|decide|(simp only[zF,zG];decide)) only [zA,zB,zC,zD,zE,zF,zG,zH,zI,zJ,zK,HV.cells]; try exact rfl) (by omega) (by omega) ?_
   | refine r_mul (by simp (disch:=first|decide|(simp only[zF,zG];decide)) only [zA,zB,zC,zD,zE,zF,zG,zH,zI,zJ,zK,HV.cells]; try exact rfl) (by simp (disch:=first|decide|(simp only[zF,zG];decide)) only [zA,zB,zC,zD,zE,zF,zG,zH,zI,zJ,zK,HV.cells]; try exact rfl) (by omega) (by omega) ?_
   | refine r_lss (by simp (disch:=first|decide|(simp only[zF,zG];decide)) only [zA,zB,zC,zD,zE,zF,zG,zH,zI,zJ,zK,HV.cells]; try exact rfl) (by simp (disch:=first|decide|(simp only[zF,zG];decide)) only [zA,zB,zC,zD,zE,zF,zG,zH,zI,zJ,zK,HV.cells]; try exact rfl) (fun hc => ?_) (fun hc => ?_) <;> (try (exfalso; omega))
   | refine r_gtr (by simp (disch:=first|decide|(simp only[zF,zG];decide)) only [zA,zB,zC,zD,zE,zF,zG,zH,zI,zJ,zK,HV.cells]; try exact rfl) (by simp (disch:=first|decide|(simp only[zF,zG];decide)) only [zA,zB,zC,zD,zE,zF,zG,zH,zI,zJ,zK,HV.cells]; try exact rfl) (fun hc => ?_) (fun hc => ?_) <;> (try (exfalso; omega))
   | refine r_eq (by simp (disch:=first|decide|(simp only[zF,zG];decide)) only [zA,zB,zC,zD,zE,zF,zG,zH,zI,zJ,zK,HV.cells]; try exact rfl) (by simp (disch:=first|decide|(simp only[zF,zG];decide)) only [zA,zB,zC,zD,zE,zF,zG,zH,zI,zJ,zK,HV.cells]; try exact rfl) (fun hc => ?_) (fun hc => ?_) <;> (try (exfalso; omega))
   | refine r_ne (by simp (disch:=first|decide|(simp only[zF,zG];decide)) only [zA,zB,zC,zD,zE,zF,zG,zH,zI,zJ,zK,HV.cells]; try exact rfl) (by simp (disch:=first|decide|(simp only[zF,zG];decide)) only [zA,zB,zC,zD,zE,zF,zG,zH,zI,zJ,zK,HV.cells]; try exact rfl) (fun hc => ?_) (fun hc => ?_) <;> (try (exfalso; omega))
   | refine r_eqb (by simp (disch:=first|decide|(simp only[zF,zG];decide)) only [zA,zB,zC,zD,zE,zF,zG,zH,zI,zJ,zK,HV.cells]; try exact rfl) (by simp (disch:=first|decide|(simp only[zF,zG];decide)) only [zA,zB,zC,zD,zE,zF,zG,zH,zI,zJ,zK,HV.cells]; try exact rfl) ?_
   | refine r_not1 (by simp (disch:=first|decide|(simp only[zF,zG];decide)) only [zA,zB,zC,zD,zE,zF,zG,zH,zI,zJ,zK,HV.cells]; try exact rfl) ?_
   | refine r_pt (by simp (disch:=first|decide|(simp only[zF,zG];decide)) only [zA,zB,zC,zD,zE,zF,zG,zH,zI,zJ,zK,HV.cells]; first|done|exact rfl) (by simp (disch:=first|decide|(simp only[zF,zG];decide)) only [zA,zB,zC,zD,zE,zF,zG,zH,zI,zJ,zK,HV.cells]; try exact rfl) ?_
   | refine r_pf (by simp (disch:=first|decide|(simp only[zF,zG];decide)) only [zA,zB,zC,zD,zE,zF,zG,zH,zI,zJ,zK,HV.cells]; first|done|exact rfl) (by simp (disch:=first|decide|(simp only[zF,zG];decide)) only [zA,zB,zC,zD,zE,zF,zG,zH,zI,zJ,zK,HV.cells]; try exact rfl) ?_
   | refine r_len (by simp (disch:=first|decide|(simp only[zF,zG];decide)) only [zA,zB,zC,zD,zE,zF,zG,zH,zI,zJ,zK,HV.cells]; try exact rfl) ?_
   | refine r_ixs (by simp (disch:=first|decide|(simp only[zF,zG];decide)) only [zA,zB,zC,zD,zE,zF,zG,zH,zI,zJ,zK,HV.cells]; try exact rfl) (by simp (disch:=first|decide|(simp only[zF,zG];decide)) only [zA,zB,zC,zD,zE,zF,zG,zH,zI,zJ,zK,HV.cells]; try exact rfl) (by omega) ?_
   | refine r_ext (by simp (disch:=first|decide|(simp only[zF,zG];decide)) only [zA,zB,zC,zD,zE,zF,zG,zH,zI,zJ,zK,HV.cells]; try exact rfl) (by first|assumption|rfl|(simp only [zI,zJ,HV.cells]; exact rfl)) ?_
   | refine r_build (by simp (disch:=first|decide|(simp only[zF,zG];decide)) only [evParts,List.map_cons,List.map_nil,List.nil_append,List.cons_append,List.append_nil,zA,zB,zC,zD,zE,zF,zG,zH,zI,zJ,zK,HV.cells]; try exact rfl) ?_
   | refine r_bs (by simp (disch:=first|decide|(simp only[zF,zG];decide)) only [evParts,List.map_cons,List.map_nil,List.nil_append,List.cons_append,List.append_nil,zA,zB,zC,zD,zE,zF,zG,zH,zI,zJ,zK,HV.cells]; try exact rfl) ?_
   | refine r_rem (by simp (disch:=first|decide|(simp only[zF,zG];decide)) only [zA,zB,zC,zD,zE,zF,zG,zH,zI,zJ,zK,HV.cells]; try exact rfl) (by simp (disch:=first|decide|(simp only[zF,zG];decide)) only [zA,zB,zC,zD,zE,zF,zG,zH,zI,zJ,zK,HV.cells]; try exact rfl) (by omega) (by omega) ?_
   | refine r_conv (by simp (disch:=first|decide|(simp only[zF,zG];decide)) only [zA,zB,zC,zD,zE,zF,zG,zH,zI,zJ,zK,HV.cells]; try exact rfl) (by omega) (by omega) ?_
   | fail
  refine r_callc (by simp (disch:=first|decide|(simp only[zF,zG];decide)) only [zA,zB,zC,zD,zE,zF,zG,zH,zI,zJ,zK,HV.cells]; try exact rfl) (by simp (disch:=first|decide|(simp only[zF,zG];decide)) only [List.map_cons,List.map_nil,List.nil_append,List.cons_append,List.append_nil,zA,zB,zC,zD,zE,zF,zG,zH,zI,zJ,zK,HV.cells]; try exact rfl) (c_Seen (n := n) (cp := c3) (cw := c2) hdm hcn hT hv hv.1 rfl hw2 hr3m (hr2.ext xm)) ?_
  rintro u2 σ2 ⟨l, hs, hl12, _, p4, c4, h5, n5, rfl, rfl, e5, hr5⟩
  dsimp only at e5
  have hle5 := e5.le
  have hd5 := e5.d
  have x5 : Ext h nx h5 n5 := xm.trans e5
  have hg5 : h5.get nx = some (.cells t.cells .exact) := by rw [e5.same _ (by omega)]; exact hgm
  have hl : ∀ r ∈ l, RdOk2 t.c r := fun r hr => (hs r hr).1
  obtain ⟨kq, hkq⟩ : ∃ x, x = 2 + by_ % 4 := ⟨_, rfl⟩
  have hk : 2 ≤ kq ∧ kq ≤ 5 := by omega
  have t0 := hgt_in hT hv (Nat.zero_le n)
  have m1 := mul_bd (p := kq) (q := t.t) (A := 5) (B := 2000) (by omega) (by omega) (by omega) (by omega)
  have m2 := mul_bd (p := kq) (q := t.a) (A := 5) (B := 200) (by omega) (by omega) (by omega) (by omega)
  have m3 := mul_bd (p := kq) (q := t.b) (A := 5) (B := 200) (by omega) (by omega) (by omega) (by omega)
  have fr1 : fillH [i64 0, i64 0] [(0, 1, i64 (kq * t.a)), (1, 1, i64 (kq * t.b))] = some [i64 (kq * t.a), i64 (kq * t.b)] := rfl
  have fr2 : fillH [i64 0, i64 0, i64 0, i64 0] [(0, 1, i64 t.c), (1, 1, i64 (kq * t.t)), (2, 2, .agg [i64 (kq * t.a), i64 (kq * t.b)])] = some (sclT kq t).cells := rfl
  have ow : overwrite [i64 0, i64 0, i64 0, i64 0] 0 (HV.agg (sclT kq t).cells).cells = some (sclT kq t).cells := rfl
  repeat' first
   | refine r_nil ?_
   | refine th_n ?_
   | refine th_r ?_
   | refine th_e ?_
   | refine ib_n ?_
   | refine ib_r ?_
   | refine ib_e ?_
   | refine ib_x (by decide) ?_
   | refine w_exit ?_
   | refine w_seq ?_
   | refine w_reg ?_
   | refine w_ret ?_
   | refine w_skip ?_
   | refine w_block ?_
   | refine w_t (by simp (disch:=first|decide|(simp only[zF,zG,← hkq, fr1, fr2];decide)) only [zA,zB,zC,zD,zE,zF,zG,zH,zI,zJ,zK,HV.cells,← hkq, fr1, fr2]; first|done|exact rfl) ?_
   | refine w_f (by simp (disch:=first|decide|(simp only[zF,zG,← hkq, fr1, fr2];decide)) only [zA,zB,zC,zD,zE,zF,zG,zH,zI,zJ,zK,HV.cells,← hkq, fr1, fr2]; first|done|exact rfl) ?_
   | refine r_take (by simp (disch:=first|decide|(simp only[zF,zG,← hkq, fr1, fr2];decide)) only [zA,zB,zC,zD,zE,zF,zG,zH,zI,zJ,zK,HV.cells,← hkq, fr1, fr2]; first|done|exact rfl) ?_
   | refine r_drop (by simp (disch:=first|decide|(simp only[zF,zG,Bool.not_true,Bool.not_false,← hkq, fr1, fr2];decide)) only [zA,zB,zC,zD,zE,zF,zG,zH,zI,zJ,zK,HV.cells,Bool.not_true,Bool.not_false,← hkq, fr1, fr2]; first|done|exact rfl) ?_
   | refine r_move (by simp (disch:=first|decide|(simp only[zF,zG,← hkq, fr1, fr2];decide)) only [zA,zB,zC,zD,zE,zF,zG,zH,zI,zJ,zK,HV.cells,← hkq, fr1, fr2]; try exact rfl) ?_
   | refine r_fa (by simp (disch:=first|decide|(simp only[zF,zG,← hkq, fr1, fr2];decide)) only [zA,zB,zC,zD,zE,zF,zG,zH,zI,zJ,zK,HV.cells,← hkq, fr1, fr2]; try exact rfl) ?_
   | refine r_ld1 (by simp (disch:=first|decide|(simp only[zF,zG,← hkq, fr1, fr2];decide)) only [zA,zB,zC,zD,zE,zF,zG,zH,zI,zJ,zK,HV.cells,← hkq, fr1, fr2]; try exact rfl) (by first|assumption|(simp (disch:=omega) only [get_same,get_other,← hkq, fr1, fr2]; first|done|exact rfl)) (by first|assumption|rfl|(simp only [zI,zJ,HV.cells,← hkq, fr1, fr2]; exact rfl)) ?_
   | refine r_ldn (by simp (disch:=first|decide|(simp only[zF,zG,← hkq, fr1, fr2];decide)) only [zA,zB,zC,zD,zE,zF,zG,zH,zI,zJ,zK,HV.cells,← hkq, fr1, fr2]; try exact rfl) (by first|assumption|(simp (disch:=omega) only [get_same,get_other,← hkq, fr1, fr2]; first|done|exact rfl)) (by first|assumption|rfl|(simp only [zI,zJ,HV.cells,← hkq, fr1, fr2]; exact rfl)) ?_
   | refine r_box (by simp (disch:=first|decide|(simp only[zF,zG,← hkq, fr1, fr2];decide)) only [zA,zB,zC,zD,zE,zF,zG,zH,zI,zJ,zK,HV.cells,← hkq, fr1, fr2]; try exact rfl) ?_
   | refine r_alloc ?_
   | refine r_st (cs' := _) (by simp (disch:=first|decide|(simp only[zF,zG,← hkq, fr1, fr2];decide)) only [zA,zB,zC,zD,zE,zF,zG,zH,zI,zJ,zK,HV.cells,← hkq, fr1, fr2]; try exact rfl) (by simp (disch:=first|decide|(simp only[zF,zG,← hkq, fr1, fr2];decide)) only [zA,zB,zC,zD,zE,zF,zG,zH,zI,zJ,zK,HV.cells,← hkq, fr1, fr2]; try exact rfl) (by first|assumption|(simp (disch:=omega) only [get_same,get_other,← hkq, fr1, fr2]; first|done|exact rfl)) (by exact True.intro) (by rfl) (by rfl) (by first|assumption|rfl|(simp only [zI,zJ,HV.cells,← hkq, fr1, fr2]; exact rfl)) (by omega) ?_
   | refine r_add (by simp (disch:=first|decide|(simp only[zF,zG,← hkq, fr1, fr2];decide)) only [zA,zB,zC,zD,zE,zF,zG,zH,zI,zJ,zK,HV.cells,← hkq, fr1, fr2]; try exact rfl) (by simp (disch:=first|decide|(simp only[zF,zG,← hkq, fr1, fr2];decide)) only [zA,zB,zC,zD,zE,zF,zG,zH,zI,zJ,zK,HV.cells,← hkq, fr1, fr2]; try exact rfl) (by omega) (by omega) ?_
   | refine r_mul (by simp (disch:=first|decide|(simp only[zF,zG,← hkq, fr1, fr2];decide)) only [zA,zB,zC,zD,zE,zF,zG,zH,zI,zJ,zK,HV.cells,← hkq, fr1, fr2]; try exact rfl) (by simp (disch:=first|decide|(simp only[zF,zG,← hkq, fr1, fr2];decide)) only [zA,zB,zC,zD,zE,zF,zG,zH,zI,zJ,zK,HV.cells,← hkq, fr1, fr2]; try exact rfl) (by omega) (by omega) ?_
   | refine r_lss (by simp (disch:=first|decide|(simp only[zF,zG,← hkq, fr1, fr2];decide)) only [zA,zB,zC,zD,zE,zF,zG,zH,zI,zJ,zK,HV.cells,← hkq, fr1, fr2]; try exact rfl) (by simp (disch:=first|decide|(simp only[zF,zG,← hkq, fr1, fr2];decide)) only [zA,zB,zC,zD,zE,zF,zG,zH,zI,zJ,zK,HV.cells,← hkq, fr1, fr2]; try exact rfl) (fun hc => ?_) (fun hc => ?_) <;> (try (exfalso; omega))
   | refine r_gtr (by simp (disch:=first|decide|(simp only[zF,zG,← hkq, fr1, fr2];decide)) only [zA,zB,zC,zD,zE,zF,zG,zH,zI,zJ,zK,HV.cells,← hkq, fr1, fr2]; try exact rfl) (by simp (disch:=first|decide|(simp only[zF,zG,← hkq, fr1, fr2];decide)) only [zA,zB,zC,zD,zE,zF,zG,zH,zI,zJ,zK,HV.cells,← hkq, fr1, fr2]; try exact rfl) (fun hc => ?_) (fun hc => ?_) <;> (try (exfalso; omega))
   | refine r_eq (by simp (disch:=first|decide|(simp only[zF,zG,← hkq, fr1, fr2];decide)) only [zA,zB,zC,zD,zE,zF,zG,zH,zI,zJ,zK,HV.cells,← hkq, fr1, fr2]; try exact rfl) (by simp (disch:=first|decide|(simp only[zF,zG,← hkq, fr1, fr2];decide)) only [zA,zB,zC,zD,zE,zF,zG,zH,zI,zJ,zK,HV.cells,← hkq, fr1, fr2]; try exact rfl) (fun hc => ?_) (fun hc => ?_) <;> (try (exfalso; omega))
   | refine r_ne (by simp (disch:=first|decide|(simp only[zF,zG,← hkq, fr1, fr2];decide)) only [zA,zB,zC,zD,zE,zF,zG,zH,zI,zJ,zK,HV.cells,← hkq, fr1, fr2]; try exact rfl) (by simp (disch:=first|decide|(simp only[zF,zG,← hkq, fr1, fr2];decide)) only [zA,zB,zC,zD,zE,zF,zG,zH,zI,zJ,zK,HV.cells,← hkq, fr1, fr2]; try exact rfl) (fun hc => ?_) (fun hc => ?_) <;> (try (exfalso; omega))
   | refine r_eqb (by simp (disch:=first|decide|(simp only[zF,zG,← hkq, fr1, fr2];decide)) only [zA,zB,zC,zD,zE,zF,zG,zH,zI,zJ,zK,HV.cells,← hkq, fr1, fr2]; try exact rfl) (by simp (disch:=first|decide|(simp only[zF,zG,← hkq, fr1, fr2];decide)) only [zA,zB,zC,zD,zE,zF,zG,zH,zI,zJ,zK,HV.cells,← hkq, fr1, fr2]; try exact rfl) ?_
   | refine r_not1 (by simp (disch:=first|decide|(simp only[zF,zG,← hkq, fr1, fr2];decide)) only [zA,zB,zC,zD,zE,zF,zG,zH,zI,zJ,zK,HV.cells,← hkq, fr1, fr2]; try exact rfl) ?_
   | refine r_pt (by simp (disch:=first|decide|(simp only[zF,zG,← hkq, fr1, fr2];decide)) only [zA,zB,zC,zD,zE,zF,zG,zH,zI,zJ,zK,HV.cells,← hkq, fr1, fr2]; first|done|exact rfl) (by simp (disch:=first|decide|(simp only[zF,zG,← hkq, fr1, fr2];decide)) only [zA,zB,zC,zD,zE,zF,zG,zH,zI,zJ,zK,HV.cells,← hkq, fr1, fr2]; try exact rfl) ?_
   | refine r_pf (by simp (disch:=first|decide|(simp only[zF,zG,← hkq, fr1, fr2];decide)) only [zA,zB,zC,zD,zE,zF,zG,zH,zI,zJ,zK,HV.cells,← hkq, fr1, fr2]; first|done|exact rfl) (by simp (disch:=first|decide|(simp only[zF,zG,← hkq, fr1, fr2];decide)) only [zA,zB,zC,zD,zE,zF,zG,zH,zI,zJ,zK,HV.cells,← hkq, fr1, fr2]; try exact rfl) ?_
   | refine r_len (by simp (disch:=first|decide|(simp only[zF,zG,← hkq, fr1, fr2];decide)) only [zA,zB,zC,zD,zE,zF,zG,zH,zI,zJ,zK,HV.cells,← hkq, fr1, fr2]; try exact rfl) ?_
   | refine r_ixs (by simp (disch:=first|decide|(simp only[zF,zG,← hkq, fr1, fr2];decide)) only [zA,zB,zC,zD,zE,zF,zG,zH,zI,zJ,zK,HV.cells,← hkq, fr1, fr2]; try exact rfl) (by simp (disch:=first|decide|(simp only[zF,zG,← hkq, fr1, fr2];decide)) only [zA,zB,zC,zD,zE,zF,zG,zH,zI,zJ,zK,HV.cells,← hkq, fr1, fr2]; try exact rfl) (by omega) ?_
   | refine r_ext (by simp (disch:=first|decide|(simp only[zF,zG,← hkq, fr1, fr2];decide)) only [zA,zB,zC,zD,zE,zF,zG,zH,zI,zJ,zK,HV.cells,← hkq, fr1, fr2]; try exact rfl) (by first|assumption|rfl|(simp only [zI,zJ,HV.cells,← hkq, fr1, fr2]; exact rfl)) ?_
   | refine r_build (by simp (disch:=first|decide|(simp only[zF,zG,← hkq, fr1, fr2];decide)) only [evParts,List.map_cons,List.map_nil,List.nil_append,List.cons_append,List.append_nil,zA,zB,zC,zD,zE,zF,zG,zH,zI,zJ,zK,HV.cells,← hkq, fr1, fr2]; try exact rfl) ?_
   | refine r_bs (by simp (disch:=first|decide|(simp only[zF,zG,← hkq, fr1, fr2];decide)) only [evParts,List.map_cons,List.map_nil,List.nil_append,List.cons_append,List.append_nil,zA,zB,zC,zD,zE,zF,zG,zH,zI,zJ,zK,HV.cells,← hkq, fr1, fr2]; try exact rfl) ?_
   | refine r_rem (by simp (disch:=first|decide|(simp only[zF,zG,← hkq, fr1, fr2];decide)) only [zA,zB,zC,zD,zE,zF,zG,zH,zI,zJ,zK,HV.cells,← hkq, fr1, fr2]; try exact rfl) (by simp (disch:=first|decide|(simp only[zF,zG,← hkq, fr1, fr2];decide)) only [zA,zB,zC,zD,zE,zF,zG,zH,zI,zJ,zK,HV.cells,← hkq, fr1, fr2]; try exact rfl) (by omega) (by omega) ?_
   | refine r_conv (by simp (disch:=first|decide|(simp only[zF,zG,← hkq, fr1, fr2];decide)) only [zA,zB,zC,zD,zE,zF,zG,zH,zI,zJ,zK,HV.cells,← hkq, fr1, fr2]; try exact rfl) (by omega) (by omega) ?_
   | fail
  refine loop18w1 (n0 := n5 + 1) (cp := c4) (c := t.c) (k := kq) (v4 := .ptr (some (nx, 0))) (v8 := .bool false) (v11 := .ptr (some (n5, 0))) (l := l) (by omega) hl hk (by omega) (hr5.ext (by repeat' first|assumption|refine Ext.put ?_ (by omega) (by omega)|exact Ext.up (by assumption) (by omega)|exact Ext.nx (by assumption) (by omega))) l.length 0 _ _ _ (.slice none 0 0) (by omega) (Ext.refl (by repeat' first|assumption|refine D.upd ?_ (by omega)|exact D.mono (by assumption) (by omega))) Out.nil ?_ ?_ ?_ ?_ ?_ ?_ ?_ ?_ ?_ (fun a' h6 n6 v6 e6 g1 g2 g3 g4 g5 g6 g7 g8 g9 => ?_)
  all_goals try first|(simp only [zL,zM,zF,zG];done)|(simp (disch:=first|decide|(simp only[zF,zG];decide)) only [zA,zB,zC,zD,zE,zF,zG,zH,zI,zJ,zK,HV.cells];first|done|exact rfl)|assumption
  obtain ⟨p6, rfl⟩ := g9.len
  obtain ⟨_, hr6⟩ := g9.row Rd.enc_len
  have hle6 := e6.le
  have hd6 := e6.d
  have x6 : Ext h5 n5 h6 n6 := (Ext.put (Ext.put (Ext.up (Ext.refl hd5) (by omega)) (Nat.le_refl _) (by omega)) (Nat.le_refl _) (by omega)).trans e6
  have hg6 : h6.get nx = some (.cells t.cells .exact) := by rw [x6.same _ (by omega)]; exact hg5
  have hx6 : h6.get n5 = some (.cells (sclT kq t).cells .exact) := by rw [e6.same _ (by omega)]; exact (by first|assumption|(simp (disch:=omega) only [get_same,get_other]; first|done|exact rfl))
  have tk2 : takeN 4 ((sclT kq t).cells.drop 0) = some (sclT kq t).cells := rfl
  have hll : (l.map (sclR kq)).length = l.length := List.length_map _
  have cR : ∀ fl h' n', Ext h6 n6 h' n' → C LW fl 56 [.agg (sclT kq t).cells, .slice p6 (l.map (sclR kq)).length (l.map (sclR kq)).length] ⟨h', n'⟩ (Sc (· = .bool (decide (errOf (sclT kq t).c (sclT kq t).t (sclT kq t).a (sclT kq t).b (l.map (sclR kq)) = 0))) ⟨h', n'⟩) := fun fl h' n' e => by
    have := c_ready (fl := fl) (t := sclT kq t) (l := l.map (sclR kq)) (p := p6) (m := (l.map (sclR kq)).length) (cp := (l.map (sclR kq)).length) e.d rfl (by omega) (hr6.ext e)
    rwa [show decide ((l.map (sclR kq)).length ≤ 15 ∧ errOf (sclT kq t).c (sclT kq t).t (sclT kq t).a (sclT kq t).b (l.map (sclR kq)) = 0) = decide (errOf (sclT kq t).c (sclT kq t).t (sclT kq t).a (sclT kq t).b (l.map (sclR kq)) = 0) by
      congr 1; exact propext ⟨fun e => e.2, fun e => ⟨by omega, e⟩⟩] at this
  repeat' first
   | refine r_nil ?_
   | refine th_n ?_
   | refine th_r ?_
   | refine th_e ?_
   | refine ib_n ?_
   | refine ib_r ?_
   | refine ib_e ?_
   | refine ib_x (by decide) ?_
   | refine w_exit ?_
   | refine w_seq ?_
   | refine w_reg ?_
   | refine w_ret ?_
   | refine w_skip ?_
   | refine w_block ?_
   | refine w_t (by simp (disch:=first|decide|(simp only[zF,zG,g1, g3, g4, g5, g6, g7, g8];decide)) only [zA,zB,zC,zD,zE,zF,zG,zH,zI,zJ,zK,HV.cells,g1, g3, g4, g5, g6, g7, g8]; first|done|exact rfl) ?_
   | refine w_f (by simp (disch:=first|decide|(simp only[zF,zG,g1, g3, g4, g5, g6, g7, g8];decide)) only [zA,zB,zC,zD,zE,zF,zG,zH,zI,zJ,zK,HV.cells,g1, g3, g4, g5, g6, g7, g8]; first|done|exact rfl) ?_
   | refine r_take (by simp (disch:=first|decide|(simp only[zF,zG,g1, g3, g4, g5, g6, g7, g8];decide)) only [zA,zB,zC,zD,zE,zF,zG,zH,zI,zJ,zK,HV.cells,g1, g3, g4, g5, g6, g7, g8]; first|done|exact rfl) ?_
   | refine r_drop (by simp (disch:=first|decide|(simp only[zF,zG,Bool.not_true,Bool.not_false,g1, g3, g4, g5, g6, g7, g8];decide)) only [zA,zB,zC,zD,zE,zF,zG,zH,zI,zJ,zK,HV.cells,Bool.not_true,Bool.not_false,g1, g3, g4, g5, g6, g7, g8]; first|done|exact rfl) ?_
   | refine r_move (by simp (disch:=first|decide|(simp only[zF,zG,g1, g3, g4, g5, g6, g7, g8];decide)) only [zA,zB,zC,zD,zE,zF,zG,zH,zI,zJ,zK,HV.cells,g1, g3, g4, g5, g6, g7, g8]; try exact rfl) ?_
   | refine r_fa (by simp (disch:=first|decide|(simp only[zF,zG,g1, g3, g4, g5, g6, g7, g8];decide)) only [zA,zB,zC,zD,zE,zF,zG,zH,zI,zJ,zK,HV.cells,g1, g3, g4, g5, g6, g7, g8]; try exact rfl) ?_
   | refine r_ld1 (by simp (disch:=first|decide|(simp only[zF,zG,g1, g3, g4, g5, g6, g7, g8];decide)) only [zA,zB,zC,zD,zE,zF,zG,zH,zI,zJ,zK,HV.cells,g1, g3, g4, g5, g6, g7, g8]; try exact rfl) (by first|assumption|(simp (disch:=omega) only [get_same,get_other,g1, g3, g4, g5, g6, g7, g8]; first|done|exact rfl)) (by first|assumption|rfl|(simp only [zI,zJ,HV.cells,g1, g3, g4, g5, g6, g7, g8]; exact rfl)) ?_
   | refine r_ldn (by simp (disch:=first|decide|(simp only[zF,zG,g1, g3, g4, g5, g6, g7, g8];decide)) only [zA,zB,zC,zD,zE,zF,zG,zH,zI,zJ,zK,HV.cells,g1, g3, g4, g5, g6, g7, g8]; try exact rfl) (by first|assumption|(simp (disch:=omega) only [get_same,get_other,g1, g3, g4, g5, g6, g7, g8]; first|done|exact rfl)) (by first|assumption|rfl|(simp only [zI,zJ,HV.cells,g1, g3, g4, g5, g6, g7, g8]; exact rfl)) ?_
   | refine r_box (by simp (disch:=first|decide|(simp only[zF,zG,g1, g3, g4, g5, g6, g7, g8];decide)) only [zA,zB,zC,zD,zE,zF,zG,zH,zI,zJ,zK,HV.cells,g1, g3, g4, g5, g6, g7, g8]; try exact rfl) ?_
   | refine r_alloc ?_
   | refine r_st (cs' := _) (by simp (disch:=first|decide|(simp only[zF,zG,g1, g3, g4, g5, g6, g7, g8];decide)) only [zA,zB,zC,zD,zE,zF,zG,zH,zI,zJ,zK,HV.cells,g1, g3, g4, g5, g6, g7, g8]; try exact rfl) (by simp (disch:=first|decide|(simp only[zF,zG,g1, g3, g4, g5, g6, g7, g8];decide)) only [zA,zB,zC,zD,zE,zF,zG,zH,zI,zJ,zK,HV.cells,g1, g3, g4, g5, g6, g7, g8]; try exact rfl) (by first|assumption|(simp (disch:=omega) only [get_same,get_other,g1, g3, g4, g5, g6, g7, g8]; first|done|exact rfl)) (by exact True.intro) (by rfl) (by rfl) (by first|assumption|rfl|(simp only [zI,zJ,HV.cells,g1, g3, g4, g5, g6, g7, g8]; exact rfl)) (by omega) ?_
   | refine r_add (by simp (disch:=first|decide|(simp only[zF,zG,g1, g3, g4, g5, g6, g7, g8];decide)) only [zA,zB,zC,zD,zE,zF,zG,zH,zI,zJ,zK,HV.cells,g1, g3, g4, g5, g6, g7, g8]; try exact rfl) (by simp (disch:=first|decide|(simp only[zF,zG,g1, g3, g4, g5, g6, g7, g8];decide)) only [zA,zB,zC,zD,zE,zF,zG,zH,zI,zJ,zK,HV.cells,g1, g3, g4, g5, g6, g7, g8]; try exact rfl) (by omega) (by omega) ?_
   | refine r_mul (by simp (disch:=first|decide|(simp only[zF,zG,g1, g3, g4, g5, g6, g7, g8];decide)) only [zA,zB,zC,zD,zE,zF,zG,zH,zI,zJ,zK,HV.cells,g1, g3, g4, g5, g6, g7, g8]; try exact rfl) (by simp (disch:=first|decide|(simp only[zF,zG,g1, g3, g4, g5, g6, g7, g8];decide)) only [zA,zB,zC,zD,zE,zF,zG,zH,zI,zJ,zK,HV.cells,g1, g3, g4, g5, g6, g7, g8]; try exact rfl) (by omega) (by omega) ?_
   | refine r_lss (by simp (disch:=first|decide|(simp only[zF,zG,g1, g3, g4, g5, g6, g7, g8];decide)) only [zA,zB,zC,zD,zE,zF,zG,zH,zI,zJ,zK,HV.cells,g1, g3, g4, g5, g6, g7, g8]; try exact rfl) (by simp (disch:=first|decide|(simp only[zF,zG,g1, g3, g4, g5, g6, g7, g8];decide)) only [zA,zB,zC,zD,zE,zF,zG,zH,zI,zJ,zK,HV.cells,g1, g3, g4, g5, g6, g7, g8]; try exact rfl) (fun hc => ?_) (fun hc => ?_) <;> (try (exfalso; omega))
   | refine r_gtr (by simp (disch:=first|decide|(simp only[zF,zG,g1, g3, g4, g5, g6, g7, g8];decide)) only [zA,zB,zC,zD,zE,zF,zG,zH,zI,zJ,zK,HV.cells,g1, g3, g4, g5, g6, g7, g8]; try exact rfl) (by simp (disch:=first|decide|(simp only[zF,zG,g1, g3, g4, g5, g6, g7, g8];decide)) only [zA,zB,zC,zD,zE,zF,zG,zH,zI,zJ,zK,HV.cells,g1, g3, g4, g5, g6, g7, g8]; try exact rfl) (fun hc => ?_) (fun hc => ?_) <;> (try (exfalso; omega))
   | refine r_eq (by simp (disch:=first|decide|(simp only[zF,zG,g1, g3, g4, g5, g6, g7, g8];decide)) only [zA,zB,zC,zD,zE,zF,zG,zH,zI,zJ,zK,HV.cells,g1, g3, g4, g5, g6, g7, g8]; try exact rfl) (by simp (disch:=first|decide|(simp only[zF,zG,g1, g3, g4, g5, g6, g7, g8];decide)) only [zA,zB,zC,zD,zE,zF,zG,zH,zI,zJ,zK,HV.cells,g1, g3, g4, g5, g6, g7, g8]; try exact rfl) (fun hc => ?_) (fun hc => ?_) <;> (try (exfalso; omega))
   | refine r_ne (by simp (disch:=first|decide|(simp only[zF,zG,g1, g3, g4, g5, g6, g7, g8];decide)) only [zA,zB,zC,zD,zE,zF,zG,zH,zI,zJ,zK,HV.cells,g1, g3, g4, g5, g6, g7, g8]; try exact rfl) (by simp (disch:=first|decide|(simp only[zF,zG,g1, g3, g4, g5, g6, g7, g8];decide)) only [zA,zB,zC,zD,zE,zF,zG,zH,zI,zJ,zK,HV.cells,g1, g3, g4, g5, g6, g7, g8]; try exact rfl) (fun hc => ?_) (fun hc => ?_) <;> (try (exfalso; omega))
   | refine r_eqb (by simp (disch:=first|decide|(simp only[zF,zG,g1, g3, g4, g5, g6, g7, g8];decide)) only [zA,zB,zC,zD,zE,zF,zG,zH,zI,zJ,zK,HV.cells,g1, g3, g4, g5, g6, g7, g8]; try exact rfl) (by simp (disch:=first|decide|(simp only[zF,zG,g1, g3, g4, g5, g6, g7, g8];decide)) only [zA,zB,zC,zD,zE,zF,zG,zH,zI,zJ,zK,HV.cells,g1, g3, g4, g5, g6, g7, g8]; try exact rfl) ?_
   | refine r_not1 (by simp (disch:=first|decide|(simp only[zF,zG,g1, g3, g4, g5, g6, g7, g8];decide)) only [zA,zB,zC,zD,zE,zF,zG,zH,zI,zJ,zK,HV.cells,g1, g3, g4, g5, g6, g7, g8]; try exact rfl) ?_
   | refine r_pt (by simp (disch:=first|decide|(simp only[zF,zG,g1, g3, g4, g5, g6, g7, g8];decide)) only [zA,zB,zC,zD,zE,zF,zG,zH,zI,zJ,zK,HV.cells,g1, g3, g4, g5, g6, g7, g8]; first|done|exact rfl) (by simp (disch:=first|decide|(simp only[zF,zG,g1, g3, g4, g5, g6, g7, g8];decide)) only [zA,zB,zC,zD,zE,zF,zG,zH,zI,zJ,zK,HV.cells,g1, g3, g4, g5, g6, g7, g8]; try exact rfl) ?_
   | refine r_pf (by simp (disch:=first|decide|(simp only[zF,zG,g1, g3, g4, g5, g6, g7, g8];decide)) only [zA,zB,zC,zD,zE,zF,zG,zH,zI,zJ,zK,HV.cells,g1, g3, g4, g5, g6, g7, g8]; first|done|exact rfl) (by simp (disch:=first|decide|(simp only[zF,zG,g1, g3, g4, g5, g6, g7, g8];decide)) only [zA,zB,zC,zD,zE,zF,zG,zH,zI,zJ,zK,HV.cells,g1, g3, g4, g5, g6, g7, g8]; try exact rfl) ?_
   | refine r_len (by simp (disch:=first|decide|(simp only[zF,zG,g1, g3, g4, g5, g6, g7, g8];decide)) only [zA,zB,zC,zD,zE,zF,zG,zH,zI,zJ,zK,HV.cells,g1, g3, g4, g5, g6, g7, g8]; try exact rfl) ?_
   | refine r_ixs (by simp (disch:=first|decide|(simp only[zF,zG,g1, g3, g4, g5, g6, g7, g8];decide)) only [zA,zB,zC,zD,zE,zF,zG,zH,zI,zJ,zK,HV.cells,g1, g3, g4, g5, g6, g7, g8]; try exact rfl) (by simp (disch:=first|decide|(simp only[zF,zG,g1, g3, g4, g5, g6, g7, g8];decide)) only [zA,zB,zC,zD,zE,zF,zG,zH,zI,zJ,zK,HV.cells,g1, g3, g4, g5, g6, g7, g8]; try exact rfl) (by omega) ?_
   | refine r_ext (by simp (disch:=first|decide|(simp only[zF,zG,g1, g3, g4, g5, g6, g7, g8];decide)) only [zA,zB,zC,zD,zE,zF,zG,zH,zI,zJ,zK,HV.cells,g1, g3, g4, g5, g6, g7, g8]; try exact rfl) (by first|assumption|rfl|(simp only [zI,zJ,HV.cells,g1, g3, g4, g5, g6, g7, g8]; exact rfl)) ?_
   | refine r_build (by simp (disch:=first|decide|(simp only[zF,zG,g1, g3, g4, g5, g6, g7, g8];decide)) only [evParts,List.map_cons,List.map_nil,List.nil_append,List.cons_append,List.append_nil,zA,zB,zC,zD,zE,zF,zG,zH,zI,zJ,zK,HV.cells,g1, g3, g4, g5, g6, g7, g8]; try exact rfl) ?_
   | refine r_bs (by simp (disch:=first|decide|(simp only[zF,zG,g1, g3, g4, g5, g6, g7, g8];decide)) only [evParts,List.map_cons,List.map_nil,List.nil_append,List.cons_append,List.append_nil,zA,zB,zC,zD,zE,zF,zG,zH,zI,zJ,zK,HV.cells,g1, g3, g4, g5, g6, g7, g8]; try exact rfl) ?_
   | refine r_rem (by simp (disch:=first|decide|(simp only[zF,zG,g1, g3, g4, g5, g6, g7, g8];decide)) only [zA,zB,zC,zD,zE,zF,zG,zH,zI,zJ,zK,HV.cells,g1, g3, g4, g5, g6, g7, g8]; try exact rfl) (by simp (disch:=first|decide|(simp only[zF,zG,g1, g3, g4, g5, g6, g7, g8];decide)) only [zA,zB,zC,zD,zE,zF,zG,zH,zI,zJ,zK,HV.cells,g1, g3, g4, g5, g6, g7, g8]; try exact rfl) (by omega) (by omega) ?_
   | refine r_conv (by simp (disch:=first|decide|(simp only[zF,zG,g1, g3, g4, g5, g6, g7, g8];decide)) only [zA,zB,zC,zD,zE,zF,zG,zH,zI,zJ,zK,HV.cells,g1, g3, g4, g5, g6, g7, g8]; try exact rfl) (by omega) (by omega) ?_
   | refine r_calld (by simp (disch:=first|decide|(simp only[zF,zG,g1, g3, g4, g5, g6, g7, g8];decide)) only [zA,zB,zC,zD,zE,zF,zG,zH,zI,zJ,zK,HV.cells,g1, g3, g4, g5, g6, g7, g8]; try exact rfl) (by simp (disch:=first|decide|(simp only[zF,zG,g1, g3, g4, g5, g6, g7, g8];decide)) only [List.map_cons,List.map_nil,List.nil_append,List.cons_append,List.append_nil,zA,zB,zC,zD,zE,zF,zG,zH,zI,zJ,zK,HV.cells,g1, g3, g4, g5, g6, g7, g8]; try exact rfl) (cR _ _ _ (by repeat' first|assumption|refine Ext.put ?_ (by omega) (by omega)|exact Ext.up (by assumption) (by omega)|exact Ext.nx (by assumption) (by omega))) (fun n' hn' hc => ?_) (fun n' hn' hc => ?_) <;> (try (exfalso; omega))
   | refine r_calls (by simp (disch:=first|decide|(simp only[zF,zG,g1, g3, g4, g5, g6, g7, g8];decide)) only [zA,zB,zC,zD,zE,zF,zG,zH,zI,zJ,zK,HV.cells,g1, g3, g4, g5, g6, g7, g8]; try exact rfl) (by simp (disch:=first|decide|(simp only[zF,zG,g1, g3, g4, g5, g6, g7, g8];decide)) only [List.map_cons,List.map_nil,List.nil_append,List.cons_append,List.append_nil,zA,zB,zC,zD,zE,zF,zG,zH,zI,zJ,zK,HV.cells,g1, g3, g4, g5, g6, g7, g8]; try exact rfl) c_wakes (fun n' hn' => ?_)
   | fail
  case pos.refine_10.refine_2 => refine fin_r (by simp only [zL, g2]) (by simp (disch:=first|decide|(simp only[zF,zG,g1];decide)) only [zA,zB,zC,zD,zE,zF,zG,zH,zI,zJ,zK,HV.cells,g1]; try exact rfl) (sc_flat rfl (by dsimp only; omega) rfl)
  case pos.refine_10.refine_1 =>
    obtain ⟨hT2, _, hR2⟩ := errOf_zero hc
    have hE : errOf t.c t.t t.a t.b l = 0 := by unfold errOf; rw [if_pos hT, if_pos hl12, if_pos hl]
    obtain ⟨M, hM, _⟩ := truth_read hcn hT hv hs
    obtain ⟨M2, hM2, hbb⟩ := scl_ok (show 1 ≤ kq by omega) hcn hT hT2 hl hR2 hM
    have hG : Good n M := readGo_good l [] _ M (by rw [← hcn]; exact hl) (unr_ok hcn hT).2.2 hM
    have cT : ∀ (t : Tb) fl h' n', D h' n' → C LW fl 21 [.agg t.cells] ⟨h', n'⟩ (Sc (· = .agg t.cells) ⟨h', n'⟩) := fun t fl h' n' e => c_Tube e
    have y6 : Ext h5 n5 h6 n' := x6.up hn'
    repeat' first
     | refine r_nil ?_
     | refine th_n ?_
     | refine th_r ?_
     | refine th_e ?_
     | refine ib_n ?_
     | refine ib_r ?_
     | refine ib_e ?_
     | refine ib_x (by decide) ?_
     | refine w_exit ?_
     | refine w_seq ?_
     | refine w_reg ?_
     | refine w_ret ?_
     | refine w_skip ?_
     | refine w_block ?_
     | refine w_t (by simp (disch:=first|decide|(simp only[zF,zG,g1, g3, g5];decide)) only [zA,zB,zC,zD,zE,zF,zG,zH,zI,zJ,zK,HV.cells,g1, g3, g5]; first|done|exact rfl) ?_
     | refine w_f (by simp (disch:=first|decide|(simp only[zF,zG,g1, g3, g5];decide)) only [zA,zB,zC,zD,zE,zF,zG,zH,zI,zJ,zK,HV.cells,g1, g3, g5]; first|done|exact rfl) ?_
     | refine r_take (by simp (disch:=first|decide|(simp only[zF,zG,g1, g3, g5];decide)) only [zA,zB,zC,zD,zE,zF,zG,zH,zI,zJ,zK,HV.cells,g1, g3, g5]; first|done|exact rfl) ?_
     | refine r_drop (by simp (disch:=first|decide|(simp only[zF,zG,Bool.not_true,Bool.not_false,g1, g3, g5];decide)) only [zA,zB,zC,zD,zE,zF,zG,zH,zI,zJ,zK,HV.cells,Bool.not_true,Bool.not_false,g1, g3, g5]; first|done|exact rfl) ?_
     | refine r_move (by simp (disch:=first|decide|(simp only[zF,zG,g1, g3, g5];decide)) only [zA,zB,zC,zD,zE,zF,zG,zH,zI,zJ,zK,HV.cells,g1, g3, g5]; try exact rfl) ?_
     | refine r_fa (by simp (disch:=first|decide|(simp only[zF,zG,g1, g3, g5];decide)) only [zA,zB,zC,zD,zE,zF,zG,zH,zI,zJ,zK,HV.cells,g1, g3, g5]; try exact rfl) ?_
     | refine r_ld1 (by simp (disch:=first|decide|(simp only[zF,zG,g1, g3, g5];decide)) only [zA,zB,zC,zD,zE,zF,zG,zH,zI,zJ,zK,HV.cells,g1, g3, g5]; try exact rfl) (by first|assumption|(simp (disch:=omega) only [get_same,get_other,g1, g3, g5]; first|done|exact rfl)) (by first|assumption|rfl|(simp only [zI,zJ,HV.cells,g1, g3, g5]; exact rfl)) ?_
     | refine r_ldn (by simp (disch:=first|decide|(simp only[zF,zG,g1, g3, g5];decide)) only [zA,zB,zC,zD,zE,zF,zG,zH,zI,zJ,zK,HV.cells,g1, g3, g5]; try exact rfl) (by first|assumption|(simp (disch:=omega) only [get_same,get_other,g1, g3, g5]; first|done|exact rfl)) (by first|assumption|rfl|(simp only [zI,zJ,HV.cells,g1, g3, g5]; exact rfl)) ?_
     | refine r_box (by simp (disch:=first|decide|(simp only[zF,zG,g1, g3, g5];decide)) only [zA,zB,zC,zD,zE,zF,zG,zH,zI,zJ,zK,HV.cells,g1, g3, g5]; try exact rfl) ?_
     | refine r_alloc ?_
     | refine r_st (cs' := _) (by simp (disch:=first|decide|(simp only[zF,zG,g1, g3, g5];decide)) only [zA,zB,zC,zD,zE,zF,zG,zH,zI,zJ,zK,HV.cells,g1, g3, g5]; try exact rfl) (by simp (disch:=first|decide|(simp only[zF,zG,g1, g3, g5];decide)) only [zA,zB,zC,zD,zE,zF,zG,zH,zI,zJ,zK,HV.cells,g1, g3, g5]; try exact rfl) (by first|assumption|(simp (disch:=omega) only [get_same,get_other,g1, g3, g5]; first|done|exact rfl)) (by exact True.intro) (by rfl) (by rfl) (by first|assumption|rfl|(simp only [zI,zJ,HV.cells,g1, g3, g5]; exact rfl)) (by omega) ?_
     | refine r_add (by simp (disch:=first|decide|(simp only[zF,zG,g1, g3, g5];decide)) only [zA,zB,zC,zD,zE,zF,zG,zH,zI,zJ,zK,HV.cells,g1, g3, g5]; try exact rfl) (by simp (disch:=first|decide|(simp only[zF,zG,g1, g3, g5];decide)) only [zA,zB,zC,zD,zE,zF,zG,zH,zI,zJ,zK,HV.cells,g1, g3, g5]; try exact rfl) (by omega) (by omega) ?_
     | refine r_mul (by simp (disch:=first|decide|(simp only[zF,zG,g1, g3, g5];decide)) only [zA,zB,zC,zD,zE,zF,zG,zH,zI,zJ,zK,HV.cells,g1, g3, g5]; try exact rfl) (by simp (disch:=first|decide|(simp only[zF,zG,g1, g3, g5];decide)) only [zA,zB,zC,zD,zE,zF,zG,zH,zI,zJ,zK,HV.cells,g1, g3, g5]; try exact rfl) (by omega) (by omega) ?_
     | refine r_lss (by simp (disch:=first|decide|(simp only[zF,zG,g1, g3, g5];decide)) only [zA,zB,zC,zD,zE,zF,zG,zH,zI,zJ,zK,HV.cells,g1, g3, g5]; try exact rfl) (by simp (disch:=first|decide|(simp only[zF,zG,g1, g3, g5];decide)) only [zA,zB,zC,zD,zE,zF,zG,zH,zI,zJ,zK,HV.cells,g1, g3, g5]; try exact rfl) (fun hc => ?_) (fun hc => ?_) <;> (try (exfalso; omega))
     | refine r_gtr (by simp (disch:=first|decide|(simp only[zF,zG,g1, g3, g5];decide)) only [zA,zB,zC,zD,zE,zF,zG,zH,zI,zJ,zK,HV.cells,g1, g3, g5]; try exact rfl) (by simp (disch:=first|decide|(simp only[zF,zG,g1, g3, g5];decide)) only [zA,zB,zC,zD,zE,zF,zG,zH,zI,zJ,zK,HV.cells,g1, g3, g5]; try exact rfl) (fun hc => ?_) (fun hc => ?_) <;> (try (exfalso; omega))
     | refine r_eq (by simp (disch:=first|decide|(simp only[zF,zG,g1, g3, g5];decide)) only [zA,zB,zC,zD,zE,zF,zG,zH,zI,zJ,zK,HV.cells,g1, g3, g5]; try exact rfl) (by simp (disch:=first|decide|(simp only[zF,zG,g1, g3, g5];decide)) only [zA,zB,zC,zD,zE,zF,zG,zH,zI,zJ,zK,HV.cells,g1, g3, g5]; try exact rfl) (fun hc => ?_) (fun hc => ?_) <;> (try (exfalso; omega))
     | refine r_ne (by simp (disch:=first|decide|(simp only[zF,zG,g1, g3, g5];decide)) only [zA,zB,zC,zD,zE,zF,zG,zH,zI,zJ,zK,HV.cells,g1, g3, g5]; try exact rfl) (by simp (disch:=first|decide|(simp only[zF,zG,g1, g3, g5];decide)) only [zA,zB,zC,zD,zE,zF,zG,zH,zI,zJ,zK,HV.cells,g1, g3, g5]; try exact rfl) (fun hc => ?_) (fun hc => ?_) <;> (try (exfalso; omega))
     | refine r_eqb (by simp (disch:=first|decide|(simp only[zF,zG,g1, g3, g5];decide)) only [zA,zB,zC,zD,zE,zF,zG,zH,zI,zJ,zK,HV.cells,g1, g3, g5]; try exact rfl) (by simp (disch:=first|decide|(simp only[zF,zG,g1, g3, g5];decide)) only [zA,zB,zC,zD,zE,zF,zG,zH,zI,zJ,zK,HV.cells,g1, g3, g5]; try exact rfl) ?_
     | refine r_not1 (by simp (disch:=first|decide|(simp only[zF,zG,g1, g3, g5];decide)) only [zA,zB,zC,zD,zE,zF,zG,zH,zI,zJ,zK,HV.cells,g1, g3, g5]; try exact rfl) ?_
     | refine r_pt (by simp (disch:=first|decide|(simp only[zF,zG,g1, g3, g5];decide)) only [zA,zB,zC,zD,zE,zF,zG,zH,zI,zJ,zK,HV.cells,g1, g3, g5]; first|done|exact rfl) (by simp (disch:=first|decide|(simp only[zF,zG,g1, g3, g5];decide)) only [zA,zB,zC,zD,zE,zF,zG,zH,zI,zJ,zK,HV.cells,g1, g3, g5]; try exact rfl) ?_
     | refine r_pf (by simp (disch:=first|decide|(simp only[zF,zG,g1, g3, g5];decide)) only [zA,zB,zC,zD,zE,zF,zG,zH,zI,zJ,zK,HV.cells,g1, g3, g5]; first|done|exact rfl) (by simp (disch:=first|decide|(simp only[zF,zG,g1, g3, g5];decide)) only [zA,zB,zC,zD,zE,zF,zG,zH,zI,zJ,zK,HV.cells,g1, g3, g5]; try exact rfl) ?_
     | refine r_len (by simp (disch:=first|decide|(simp only[zF,zG,g1, g3, g5];decide)) only [zA,zB,zC,zD,zE,zF,zG,zH,zI,zJ,zK,HV.cells,g1, g3, g5]; try exact rfl) ?_
     | refine r_ixs (by simp (disch:=first|decide|(simp only[zF,zG,g1, g3, g5];decide)) only [zA,zB,zC,zD,zE,zF,zG,zH,zI,zJ,zK,HV.cells,g1, g3, g5]; try exact rfl) (by simp (disch:=first|decide|(simp only[zF,zG,g1, g3, g5];decide)) only [zA,zB,zC,zD,zE,zF,zG,zH,zI,zJ,zK,HV.cells,g1, g3, g5]; try exact rfl) (by omega) ?_
     | refine r_ext (by simp (disch:=first|decide|(simp only[zF,zG,g1, g3, g5];decide)) only [zA,zB,zC,zD,zE,zF,zG,zH,zI,zJ,zK,HV.cells,g1, g3, g5]; try exact rfl) (by first|assumption|rfl|(simp only [zI,zJ,HV.cells,g1, g3, g5]; exact rfl)) ?_
     | refine r_build (by simp (disch:=first|decide|(simp only[zF,zG,g1, g3, g5];decide)) only [evParts,List.map_cons,List.map_nil,List.nil_append,List.cons_append,List.append_nil,zA,zB,zC,zD,zE,zF,zG,zH,zI,zJ,zK,HV.cells,g1, g3, g5]; try exact rfl) ?_
     | refine r_bs (by simp (disch:=first|decide|(simp only[zF,zG,g1, g3, g5];decide)) only [evParts,List.map_cons,List.map_nil,List.nil_append,List.cons_append,List.append_nil,zA,zB,zC,zD,zE,zF,zG,zH,zI,zJ,zK,HV.cells,g1, g3, g5]; try exact rfl) ?_
     | refine r_rem (by simp (disch:=first|decide|(simp only[zF,zG,g1, g3, g5];decide)) only [zA,zB,zC,zD,zE,zF,zG,zH,zI,zJ,zK,HV.cells,g1, g3, g5]; try exact rfl) (by simp (disch:=first|decide|(simp only[zF,zG,g1, g3, g5];decide)) only [zA,zB,zC,zD,zE,zF,zG,zH,zI,zJ,zK,HV.cells,g1, g3, g5]; try exact rfl) (by omega) (by omega) ?_
     | refine r_conv (by simp (disch:=first|decide|(simp only[zF,zG,g1, g3, g5];decide)) only [zA,zB,zC,zD,zE,zF,zG,zH,zI,zJ,zK,HV.cells,g1, g3, g5]; try exact rfl) (by omega) (by omega) ?_
     | refine r_calls (by simp (disch:=first|decide|(simp only[zF,zG,g1, g3, g5];decide)) only [zA,zB,zC,zD,zE,zF,zG,zH,zI,zJ,zK,HV.cells,g1, g3, g5]; try exact rfl) (by simp (disch:=first|decide|(simp only[zF,zG,g1, g3, g5];decide)) only [List.map_cons,List.map_nil,List.nil_append,List.cons_append,List.append_nil,zA,zB,zC,zD,zE,zF,zG,zH,zI,zJ,zK,HV.cells,g1, g3, g5]; try exact rfl) (cT t _ _ _ (by repeat' first|assumption|refine D.upd ?_ (by omega)|exact D.mono (by assumption) (by omega))) (fun n' hn' => ?_)
     | fail
    refine r_callc (by simp (disch:=first|decide|(simp only[zF,zG,g1, g5];decide)) only [zA,zB,zC,zD,zE,zF,zG,zH,zI,zJ,zK,HV.cells,g1, g5]; try exact rfl) (by simp (disch:=first|decide|(simp only[zF,zG,g1, g5];decide)) only [List.map_cons,List.map_nil,List.nil_append,List.cons_append,List.append_nil,zA,zB,zC,zD,zE,zF,zG,zH,zI,zJ,zK,HV.cells,g1, g5]; try exact rfl) (c_Readings (l := l) (cp := c4) (by repeat' first|assumption|refine D.upd ?_ (by omega)|exact D.mono (by assumption) (by omega)) rfl (by omega) (hr5.ext (by repeat' first|assumption|refine Ext.put ?_ (by omega) (by omega)|exact Ext.up (by assumption) (by omega)|exact Ext.nx (by assumption) (by omega)))) ?_
    rintro u3 σ3 ⟨p7, c7, h7, n7, rfl, rfl, e7, hr7⟩
    dsimp only at e7
    have hle7 := e7.le
    have hd7 := e7.d
    repeat' first
     | refine r_nil ?_
     | refine th_n ?_
     | refine th_r ?_
     | refine th_e ?_
     | refine ib_n ?_
     | refine ib_r ?_
     | refine ib_e ?_
     | refine ib_x (by decide) ?_
     | refine w_exit ?_
     | refine w_seq ?_
     | refine w_reg ?_
     | refine w_ret ?_
     | refine w_skip ?_
     | refine w_block ?_
     | refine w_t (by simp (disch:=first|decide|(simp only[zF,zG,g1];decide)) only [zA,zB,zC,zD,zE,zF,zG,zH,zI,zJ,zK,HV.cells,g1]; first|done|exact rfl) ?_
     | refine w_f (by simp (disch:=first|decide|(simp only[zF,zG,g1];decide)) only [zA,zB,zC,zD,zE,zF,zG,zH,zI,zJ,zK,HV.cells,g1]; first|done|exact rfl) ?_
     | refine r_take (by simp (disch:=first|decide|(simp only[zF,zG,g1];decide)) only [zA,zB,zC,zD,zE,zF,zG,zH,zI,zJ,zK,HV.cells,g1]; first|done|exact rfl) ?_
     | refine r_drop (by simp (disch:=first|decide|(simp only[zF,zG,Bool.not_true,Bool.not_false,g1];decide)) only [zA,zB,zC,zD,zE,zF,zG,zH,zI,zJ,zK,HV.cells,Bool.not_true,Bool.not_false,g1]; first|done|exact rfl) ?_
     | refine r_move (by simp (disch:=first|decide|(simp only[zF,zG,g1];decide)) only [zA,zB,zC,zD,zE,zF,zG,zH,zI,zJ,zK,HV.cells,g1]; try exact rfl) ?_
     | refine r_fa (by simp (disch:=first|decide|(simp only[zF,zG,g1];decide)) only [zA,zB,zC,zD,zE,zF,zG,zH,zI,zJ,zK,HV.cells,g1]; try exact rfl) ?_
     | refine r_ld1 (by simp (disch:=first|decide|(simp only[zF,zG,g1];decide)) only [zA,zB,zC,zD,zE,zF,zG,zH,zI,zJ,zK,HV.cells,g1]; try exact rfl) (by first|assumption|(simp (disch:=omega) only [get_same,get_other,g1]; first|done|exact rfl)) (by first|assumption|rfl|(simp only [zI,zJ,HV.cells,g1]; exact rfl)) ?_
     | refine r_ldn (by simp (disch:=first|decide|(simp only[zF,zG,g1];decide)) only [zA,zB,zC,zD,zE,zF,zG,zH,zI,zJ,zK,HV.cells,g1]; try exact rfl) (by first|assumption|(simp (disch:=omega) only [get_same,get_other,g1]; first|done|exact rfl)) (by first|assumption|rfl|(simp only [zI,zJ,HV.cells,g1]; exact rfl)) ?_
     | refine r_box (by simp (disch:=first|decide|(simp only[zF,zG,g1];decide)) only [zA,zB,zC,zD,zE,zF,zG,zH,zI,zJ,zK,HV.cells,g1]; try exact rfl) ?_
     | refine r_alloc ?_
     | refine r_st (cs' := _) (by simp (disch:=first|decide|(simp only[zF,zG,g1];decide)) only [zA,zB,zC,zD,zE,zF,zG,zH,zI,zJ,zK,HV.cells,g1]; try exact rfl) (by simp (disch:=first|decide|(simp only[zF,zG,g1];decide)) only [zA,zB,zC,zD,zE,zF,zG,zH,zI,zJ,zK,HV.cells,g1]; try exact rfl) (by first|assumption|(simp (disch:=omega) only [get_same,get_other,g1]; first|done|exact rfl)) (by exact True.intro) (by rfl) (by rfl) (by first|assumption|rfl|(simp only [zI,zJ,HV.cells,g1]; exact rfl)) (by omega) ?_
     | refine r_add (by simp (disch:=first|decide|(simp only[zF,zG,g1];decide)) only [zA,zB,zC,zD,zE,zF,zG,zH,zI,zJ,zK,HV.cells,g1]; try exact rfl) (by simp (disch:=first|decide|(simp only[zF,zG,g1];decide)) only [zA,zB,zC,zD,zE,zF,zG,zH,zI,zJ,zK,HV.cells,g1]; try exact rfl) (by omega) (by omega) ?_
     | refine r_mul (by simp (disch:=first|decide|(simp only[zF,zG,g1];decide)) only [zA,zB,zC,zD,zE,zF,zG,zH,zI,zJ,zK,HV.cells,g1]; try exact rfl) (by simp (disch:=first|decide|(simp only[zF,zG,g1];decide)) only [zA,zB,zC,zD,zE,zF,zG,zH,zI,zJ,zK,HV.cells,g1]; try exact rfl) (by omega) (by omega) ?_
     | refine r_lss (by simp (disch:=first|decide|(simp only[zF,zG,g1];decide)) only [zA,zB,zC,zD,zE,zF,zG,zH,zI,zJ,zK,HV.cells,g1]; try exact rfl) (by simp (disch:=first|decide|(simp only[zF,zG,g1];decide)) only [zA,zB,zC,zD,zE,zF,zG,zH,zI,zJ,zK,HV.cells,g1]; try exact rfl) (fun hc => ?_) (fun hc => ?_) <;> (try (exfalso; omega))
     | refine r_gtr (by simp (disch:=first|decide|(simp only[zF,zG,g1];decide)) only [zA,zB,zC,zD,zE,zF,zG,zH,zI,zJ,zK,HV.cells,g1]; try exact rfl) (by simp (disch:=first|decide|(simp only[zF,zG,g1];decide)) only [zA,zB,zC,zD,zE,zF,zG,zH,zI,zJ,zK,HV.cells,g1]; try exact rfl) (fun hc => ?_) (fun hc => ?_) <;> (try (exfalso; omega))
     | refine r_eq (by simp (disch:=first|decide|(simp only[zF,zG,g1];decide)) only [zA,zB,zC,zD,zE,zF,zG,zH,zI,zJ,zK,HV.cells,g1]; try exact rfl) (by simp (disch:=first|decide|(simp only[zF,zG,g1];decide)) only [zA,zB,zC,zD,zE,zF,zG,zH,zI,zJ,zK,HV.cells,g1]; try exact rfl) (fun hc => ?_) (fun hc => ?_) <;> (try (exfalso; omega))
     | refine r_ne (by simp (disch:=first|decide|(simp only[zF,zG,g1];decide)) only [zA,zB,zC,zD,zE,zF,zG,zH,zI,zJ,zK,HV.cells,g1]; try exact rfl) (by simp (disch:=first|decide|(simp only[zF,zG,g1];decide)) only [zA,zB,zC,zD,zE,zF,zG,zH,zI,zJ,zK,HV.cells,g1]; try exact rfl) (fun hc => ?_) (fun hc => ?_) <;> (try (exfalso; omega))
     | refine r_eqb (by simp (disch:=first|decide|(simp only[zF,zG,g1];decide)) only [zA,zB,zC,zD,zE,zF,zG,zH,zI,zJ,zK,HV.cells,g1]; try exact rfl) (by simp (disch:=first|decide|(simp only[zF,zG,g1];decide)) only [zA,zB,zC,zD,zE,zF,zG,zH,zI,zJ,zK,HV.cells,g1]; try exact rfl) ?_
     | refine r_not1 (by simp (disch:=first|decide|(simp only[zF,zG,g1];decide)) only [zA,zB,zC,zD,zE,zF,zG,zH,zI,zJ,zK,HV.cells,g1]; try exact rfl) ?_
     | refine r_pt (by simp (disch:=first|decide|(simp only[zF,zG,g1];decide)) only [zA,zB,zC,zD,zE,zF,zG,zH,zI,zJ,zK,HV.cells,g1]; first|done|exact rfl) (by simp (disch:=first|decide|(simp only[zF,zG,g1];decide)) only [zA,zB,zC,zD,zE,zF,zG,zH,zI,zJ,zK,HV.cells,g1]; try exact rfl) ?_
     | refine r_pf (by simp (disch:=first|decide|(simp only[zF,zG,g1];decide)) only [zA,zB,zC,zD,zE,zF,zG,zH,zI,zJ,zK,HV.cells,g1]; first|done|exact rfl) (by simp (disch:=first|decide|(simp only[zF,zG,g1];decide)) only [zA,zB,zC,zD,zE,zF,zG,zH,zI,zJ,zK,HV.cells,g1]; try exact rfl) ?_
     | refine r_len (by simp (disch:=first|decide|(simp only[zF,zG,g1];decide)) only [zA,zB,zC,zD,zE,zF,zG,zH,zI,zJ,zK,HV.cells,g1]; try exact rfl) ?_
     | refine r_ixs (by simp (disch:=first|decide|(simp only[zF,zG,g1];decide)) only [zA,zB,zC,zD,zE,zF,zG,zH,zI,zJ,zK,HV.cells,g1]; try exact rfl) (by simp (disch:=first|decide|(simp only[zF,zG,g1];decide)) only [zA,zB,zC,zD,zE,zF,zG,zH,zI,zJ,zK,HV.cells,g1]; try exact rfl) (by omega) ?_
     | refine r_ext (by simp (disch:=first|decide|(simp only[zF,zG,g1];decide)) only [zA,zB,zC,zD,zE,zF,zG,zH,zI,zJ,zK,HV.cells,g1]; try exact rfl) (by first|assumption|rfl|(simp only [zI,zJ,HV.cells,g1]; exact rfl)) ?_
     | refine r_build (by simp (disch:=first|decide|(simp only[zF,zG,g1];decide)) only [evParts,List.map_cons,List.map_nil,List.nil_append,List.cons_append,List.append_nil,zA,zB,zC,zD,zE,zF,zG,zH,zI,zJ,zK,HV.cells,g1]; try exact rfl) ?_
     | refine r_bs (by simp (disch:=first|decide|(simp only[zF,zG,g1];decide)) only [evParts,List.map_cons,List.map_nil,List.nil_append,List.cons_append,List.append_nil,zA,zB,zC,zD,zE,zF,zG,zH,zI,zJ,zK,HV.cells,g1]; try exact rfl) ?_
     | refine r_rem (by simp (disch:=first|decide|(simp only[zF,zG,g1];decide)) only [zA,zB,zC,zD,zE,zF,zG,zH,zI,zJ,zK,HV.cells,g1]; try exact rfl) (by simp (disch:=first|decide|(simp only[zF,zG,g1];decide)) only [zA,zB,zC,zD,zE,zF,zG,zH,zI,zJ,zK,HV.cells,g1]; try exact rfl) (by omega) (by omega) ?_
     | refine r_conv (by simp (disch:=first|decide|(simp only[zF,zG,g1];decide)) only [zA,zB,zC,zD,zE,zF,zG,zH,zI,zJ,zK,HV.cells,g1]; try exact rfl) (by omega) (by omega) ?_
     | fail
    refine r_callc (by simp (disch:=first|decide|(simp only[zF,zG,g1];decide)) only [zA,zB,zC,zD,zE,zF,zG,zH,zI,zJ,zK,HV.cells,g1]; try exact rfl) (by simp (disch:=first|decide|(simp only[zF,zG,g1];decide)) only [List.map_cons,List.map_nil,List.nil_append,List.cons_append,List.append_nil,zA,zB,zC,zD,zE,zF,zG,zH,zI,zJ,zK,HV.cells,g1]; try exact rfl) (c_Heights (n := n) (l := l) (cp := c7) hd7 (fun _ => hcn) rfl (by omega) hr7) ?_
    intro u4 σ4 hK1
    have key : ∃ p c h8 n8, u4 = .tuple [.slice p (n + 1) c, i64 0] ∧ σ4 = ⟨h8, n8⟩ ∧ Ext h7 n7 h8 n8 ∧ Row renc 2 h8 n8 p (BL M (n + 1)) := by
      rcases hK1 with ⟨M', _, hM', p, c, h8, n8, rfl, rfl, e8, hr8⟩ | ⟨_, hM', _⟩ | ⟨hM', _⟩
      · rw [hM] at hM'; cases hM'; exact ⟨p, c, h8, n8, rfl, rfl, e8, hr8⟩
      · rw [hM] at hM'; cases hM'
      · exact absurd hE hM'
    obtain ⟨p8, c8, h8, n8, rfl, rfl, e8, hr8⟩ := key
    have hle8 := e8.le
    have hd8 := e8.d
    have hx8 : h8.get n5 = some (.cells (sclT kq t).cells .exact) := by rw [e8.same _ (by omega), e7.same _ (by omega)]; exact hx6
    have hg8 : h8.get nx = some (.cells t.cells .exact) := by rw [e8.same _ (by omega), e7.same _ (by omega)]; exact hg6
    have hr6x : Row Rd.enc 4 h8 n8 p6 (l.map (sclR kq)) := hr6.ext (((Ext.nx hd6 (by omega)).trans e7).trans e8)
    repeat' first
     | refine r_nil ?_
     | refine th_n ?_
     | refine th_r ?_
     | refine th_e ?_
     | refine ib_n ?_
     | refine ib_r ?_
     | refine ib_e ?_
     | refine ib_x (by decide) ?_
     | refine w_exit ?_
     | refine w_seq ?_
     | refine w_reg ?_
     | refine w_ret ?_
     | refine w_skip ?_
     | refine w_block ?_
     | refine w_t (by simp (disch:=first|decide|(simp only[zF,zG,g1, g7, g8];decide)) only [zA,zB,zC,zD,zE,zF,zG,zH,zI,zJ,zK,HV.cells,g1, g7, g8]; first|done|exact rfl) ?_
     | refine w_f (by simp (disch:=first|decide|(simp only[zF,zG,g1, g7, g8];decide)) only [zA,zB,zC,zD,zE,zF,zG,zH,zI,zJ,zK,HV.cells,g1, g7, g8]; first|done|exact rfl) ?_
     | refine r_take (by simp (disch:=first|decide|(simp only[zF,zG,g1, g7, g8];decide)) only [zA,zB,zC,zD,zE,zF,zG,zH,zI,zJ,zK,HV.cells,g1, g7, g8]; first|done|exact rfl) ?_
     | refine r_drop (by simp (disch:=first|decide|(simp only[zF,zG,Bool.not_true,Bool.not_false,g1, g7, g8];decide)) only [zA,zB,zC,zD,zE,zF,zG,zH,zI,zJ,zK,HV.cells,Bool.not_true,Bool.not_false,g1, g7, g8]; first|done|exact rfl) ?_
     | refine r_move (by simp (disch:=first|decide|(simp only[zF,zG,g1, g7, g8];decide)) only [zA,zB,zC,zD,zE,zF,zG,zH,zI,zJ,zK,HV.cells,g1, g7, g8]; try exact rfl) ?_
     | refine r_fa (by simp (disch:=first|decide|(simp only[zF,zG,g1, g7, g8];decide)) only [zA,zB,zC,zD,zE,zF,zG,zH,zI,zJ,zK,HV.cells,g1, g7, g8]; try exact rfl) ?_
     | refine r_ld1 (by simp (disch:=first|decide|(simp only[zF,zG,g1, g7, g8];decide)) only [zA,zB,zC,zD,zE,zF,zG,zH,zI,zJ,zK,HV.cells,g1, g7, g8]; try exact rfl) (by first|assumption|(simp (disch:=omega) only [get_same,get_other,g1, g7, g8]; first|done|exact rfl)) (by first|assumption|rfl|(simp only [zI,zJ,HV.cells,g1, g7, g8]; exact rfl)) ?_
     | refine r_ldn (by simp (disch:=first|decide|(simp only[zF,zG,g1, g7, g8];decide)) only [zA,zB,zC,zD,zE,zF,zG,zH,zI,zJ,zK,HV.cells,g1, g7, g8]; try exact rfl) (by first|assumption|(simp (disch:=omega) only [get_same,get_other,g1, g7, g8]; first|done|exact rfl)) (by first|assumption|rfl|(simp only [zI,zJ,HV.cells,g1, g7, g8]; exact rfl)) ?_
     | refine r_box (by simp (disch:=first|decide|(simp only[zF,zG,g1, g7, g8];decide)) only [zA,zB,zC,zD,zE,zF,zG,zH,zI,zJ,zK,HV.cells,g1, g7, g8]; try exact rfl) ?_
     | refine r_alloc ?_
     | refine r_st (cs' := _) (by simp (disch:=first|decide|(simp only[zF,zG,g1, g7, g8];decide)) only [zA,zB,zC,zD,zE,zF,zG,zH,zI,zJ,zK,HV.cells,g1, g7, g8]; try exact rfl) (by simp (disch:=first|decide|(simp only[zF,zG,g1, g7, g8];decide)) only [zA,zB,zC,zD,zE,zF,zG,zH,zI,zJ,zK,HV.cells,g1, g7, g8]; try exact rfl) (by first|assumption|(simp (disch:=omega) only [get_same,get_other,g1, g7, g8]; first|done|exact rfl)) (by exact True.intro) (by rfl) (by rfl) (by first|assumption|rfl|(simp only [zI,zJ,HV.cells,g1, g7, g8]; exact rfl)) (by omega) ?_
     | refine r_add (by simp (disch:=first|decide|(simp only[zF,zG,g1, g7, g8];decide)) only [zA,zB,zC,zD,zE,zF,zG,zH,zI,zJ,zK,HV.cells,g1, g7, g8]; try exact rfl) (by simp (disch:=first|decide|(simp only[zF,zG,g1, g7, g8];decide)) only [zA,zB,zC,zD,zE,zF,zG,zH,zI,zJ,zK,HV.cells,g1, g7, g8]; try exact rfl) (by omega) (by omega) ?_
     | refine r_mul (by simp (disch:=first|decide|(simp only[zF,zG,g1, g7, g8];decide)) only [zA,zB,zC,zD,zE,zF,zG,zH,zI,zJ,zK,HV.cells,g1, g7, g8]; try exact rfl) (by simp (disch:=first|decide|(simp only[zF,zG,g1, g7, g8];decide)) only [zA,zB,zC,zD,zE,zF,zG,zH,zI,zJ,zK,HV.cells,g1, g7, g8]; try exact rfl) (by omega) (by omega) ?_
     | refine r_lss (by simp (disch:=first|decide|(simp only[zF,zG,g1, g7, g8];decide)) only [zA,zB,zC,zD,zE,zF,zG,zH,zI,zJ,zK,HV.cells,g1, g7, g8]; try exact rfl) (by simp (disch:=first|decide|(simp only[zF,zG,g1, g7, g8];decide)) only [zA,zB,zC,zD,zE,zF,zG,zH,zI,zJ,zK,HV.cells,g1, g7, g8]; try exact rfl) (fun hc => ?_) (fun hc => ?_) <;> (try (exfalso; omega))
     | refine r_gtr (by simp (disch:=first|decide|(simp only[zF,zG,g1, g7, g8];decide)) only [zA,zB,zC,zD,zE,zF,zG,zH,zI,zJ,zK,HV.cells,g1, g7, g8]; try exact rfl) (by simp (disch:=first|decide|(simp only[zF,zG,g1, g7, g8];decide)) only [zA,zB,zC,zD,zE,zF,zG,zH,zI,zJ,zK,HV.cells,g1, g7, g8]; try exact rfl) (fun hc => ?_) (fun hc => ?_) <;> (try (exfalso; omega))
     | refine r_eq (by simp (disch:=first|decide|(simp only[zF,zG,g1, g7, g8];decide)) only [zA,zB,zC,zD,zE,zF,zG,zH,zI,zJ,zK,HV.cells,g1, g7, g8]; try exact rfl) (by simp (disch:=first|decide|(simp only[zF,zG,g1, g7, g8];decide)) only [zA,zB,zC,zD,zE,zF,zG,zH,zI,zJ,zK,HV.cells,g1, g7, g8]; try exact rfl) (fun hc => ?_) (fun hc => ?_) <;> (try (exfalso; omega))
     | refine r_ne (by simp (disch:=first|decide|(simp only[zF,zG,g1, g7, g8];decide)) only [zA,zB,zC,zD,zE,zF,zG,zH,zI,zJ,zK,HV.cells,g1, g7, g8]; try exact rfl) (by simp (disch:=first|decide|(simp only[zF,zG,g1, g7, g8];decide)) only [zA,zB,zC,zD,zE,zF,zG,zH,zI,zJ,zK,HV.cells,g1, g7, g8]; try exact rfl) (fun hc => ?_) (fun hc => ?_) <;> (try (exfalso; omega))
     | refine r_eqb (by simp (disch:=first|decide|(simp only[zF,zG,g1, g7, g8];decide)) only [zA,zB,zC,zD,zE,zF,zG,zH,zI,zJ,zK,HV.cells,g1, g7, g8]; try exact rfl) (by simp (disch:=first|decide|(simp only[zF,zG,g1, g7, g8];decide)) only [zA,zB,zC,zD,zE,zF,zG,zH,zI,zJ,zK,HV.cells,g1, g7, g8]; try exact rfl) ?_
     | refine r_not1 (by simp (disch:=first|decide|(simp only[zF,zG,g1, g7, g8];decide)) only [zA,zB,zC,zD,zE,zF,zG,zH,zI,zJ,zK,HV.cells,g1, g7, g8]; try exact rfl) ?_
     | refine r_pt (by simp (disch:=first|decide|(simp only[zF,zG,g1, g7, g8];decide)) only [zA,zB,zC,zD,zE,zF,zG,zH,zI,zJ,zK,HV.cells,g1, g7, g8]; first|done|exact rfl) (by simp (disch:=first|decide|(simp only[zF,zG,g1, g7, g8];decide)) only [zA,zB,zC,zD,zE,zF,zG,zH,zI,zJ,zK,HV.cells,g1, g7, g8]; try exact rfl) ?_
     | refine r_pf (by simp (disch:=first|decide|(simp only[zF,zG,g1, g7, g8];decide)) only [zA,zB,zC,zD,zE,zF,zG,zH,zI,zJ,zK,HV.cells,g1, g7, g8]; first|done|exact rfl) (by simp (disch:=first|decide|(simp only[zF,zG,g1, g7, g8];decide)) only [zA,zB,zC,zD,zE,zF,zG,zH,zI,zJ,zK,HV.cells,g1, g7, g8]; try exact rfl) ?_
     | refine r_len (by simp (disch:=first|decide|(simp only[zF,zG,g1, g7, g8];decide)) only [zA,zB,zC,zD,zE,zF,zG,zH,zI,zJ,zK,HV.cells,g1, g7, g8]; try exact rfl) ?_
     | refine r_ixs (by simp (disch:=first|decide|(simp only[zF,zG,g1, g7, g8];decide)) only [zA,zB,zC,zD,zE,zF,zG,zH,zI,zJ,zK,HV.cells,g1, g7, g8]; try exact rfl) (by simp (disch:=first|decide|(simp only[zF,zG,g1, g7, g8];decide)) only [zA,zB,zC,zD,zE,zF,zG,zH,zI,zJ,zK,HV.cells,g1, g7, g8]; try exact rfl) (by omega) ?_
     | refine r_ext (by simp (disch:=first|decide|(simp only[zF,zG,g1, g7, g8];decide)) only [zA,zB,zC,zD,zE,zF,zG,zH,zI,zJ,zK,HV.cells,g1, g7, g8]; try exact rfl) (by first|assumption|rfl|(simp only [zI,zJ,HV.cells,g1, g7, g8]; exact rfl)) ?_
     | refine r_build (by simp (disch:=first|decide|(simp only[zF,zG,g1, g7, g8];decide)) only [evParts,List.map_cons,List.map_nil,List.nil_append,List.cons_append,List.append_nil,zA,zB,zC,zD,zE,zF,zG,zH,zI,zJ,zK,HV.cells,g1, g7, g8]; try exact rfl) ?_
     | refine r_bs (by simp (disch:=first|decide|(simp only[zF,zG,g1, g7, g8];decide)) only [evParts,List.map_cons,List.map_nil,List.nil_append,List.cons_append,List.append_nil,zA,zB,zC,zD,zE,zF,zG,zH,zI,zJ,zK,HV.cells,g1, g7, g8]; try exact rfl) ?_
     | refine r_rem (by simp (disch:=first|decide|(simp only[zF,zG,g1, g7, g8];decide)) only [zA,zB,zC,zD,zE,zF,zG,zH,zI,zJ,zK,HV.cells,g1, g7, g8]; try exact rfl) (by simp (disch:=first|decide|(simp only[zF,zG,g1, g7, g8];decide)) only [zA,zB,zC,zD,zE,zF,zG,zH,zI,zJ,zK,HV.cells,g1, g7, g8]; try exact rfl) (by omega) (by omega) ?_
     | refine r_conv (by simp (disch:=first|decide|(simp only[zF,zG,g1, g7, g8];decide)) only [zA,zB,zC,zD,zE,zF,zG,zH,zI,zJ,zK,HV.cells,g1, g7, g8]; try exact rfl) (by omega) (by omega) ?_
     | refine r_calls (by simp (disch:=first|decide|(simp only[zF,zG,g1, g7, g8];decide)) only [zA,zB,zC,zD,zE,zF,zG,zH,zI,zJ,zK,HV.cells,g1, g7, g8]; try exact rfl) (by simp (disch:=first|decide|(simp only[zF,zG,g1, g7, g8];decide)) only [List.map_cons,List.map_nil,List.nil_append,List.cons_append,List.append_nil,zA,zB,zC,zD,zE,zF,zG,zH,zI,zJ,zK,HV.cells,g1, g7, g8]; try exact rfl) (cT (sclT kq t) _ _ _ (by repeat' first|assumption|refine D.upd ?_ (by omega)|exact D.mono (by assumption) (by omega))) (fun n' hn' => ?_)
     | fail
    refine r_callc (by simp (disch:=first|decide|(simp only[zF,zG,g1, g8];decide)) only [zA,zB,zC,zD,zE,zF,zG,zH,zI,zJ,zK,HV.cells,g1, g8]; try exact rfl) (by simp (disch:=first|decide|(simp only[zF,zG,g1, g8];decide)) only [List.map_cons,List.map_nil,List.nil_append,List.cons_append,List.append_nil,zA,zB,zC,zD,zE,zF,zG,zH,zI,zJ,zK,HV.cells,g1, g8]; try exact rfl) (c_Readings (l := l.map (sclR kq)) (cp := (l.map (sclR kq)).length) (by repeat' first|assumption|refine D.upd ?_ (by omega)|exact D.mono (by assumption) (by omega)) rfl (by omega) (hr6x.ext (by repeat' first|assumption|refine Ext.put ?_ (by omega) (by omega)|exact Ext.up (by assumption) (by omega)|exact Ext.nx (by assumption) (by omega)))) ?_
    rintro u5 σ5 ⟨p9, c9, h9, n9, rfl, rfl, e9, hr9⟩
    dsimp only at e9
    have hle9 := e9.le
    have hd9 := e9.d
    repeat' first
     | refine r_nil ?_
     | refine th_n ?_
     | refine th_r ?_
     | refine th_e ?_
     | refine ib_n ?_
     | refine ib_r ?_
     | refine ib_e ?_
     | refine ib_x (by decide) ?_
     | refine w_exit ?_
     | refine w_seq ?_
     | refine w_reg ?_
     | refine w_ret ?_
     | refine w_skip ?_
     | refine w_block ?_
     | refine w_t (by simp (disch:=first|decide|(simp only[zF,zG,g1];decide)) only [zA,zB,zC,zD,zE,zF,zG,zH,zI,zJ,zK,HV.cells,g1]; first|done|exact rfl) ?_
     | refine w_f (by simp (disch:=first|decide|(simp only[zF,zG,g1];decide)) only [zA,zB,zC,zD,zE,zF,zG,zH,zI,zJ,zK,HV.cells,g1]; first|done|exact rfl) ?_
     | refine r_take (by simp (disch:=first|decide|(simp only[zF,zG,g1];decide)) only [zA,zB,zC,zD,zE,zF,zG,zH,zI,zJ,zK,HV.cells,g1]; first|done|exact rfl) ?_
     | refine r_drop (by simp (disch:=first|decide|(simp only[zF,zG,Bool.not_true,Bool.not_false,g1];decide)) only [zA,zB,zC,zD,zE,zF,zG,zH,zI,zJ,zK,HV.cells,Bool.not_true,Bool.not_false,g1]; first|done|exact rfl) ?_
     | refine r_move (by simp (disch:=first|decide|(simp only[zF,zG,g1];decide)) only [zA,zB,zC,zD,zE,zF,zG,zH,zI,zJ,zK,HV.cells,g1]; try exact rfl) ?_
     | refine r_fa (by simp (disch:=first|decide|(simp only[zF,zG,g1];decide)) only [zA,zB,zC,zD,zE,zF,zG,zH,zI,zJ,zK,HV.cells,g1]; try exact rfl) ?_
     | refine r_ld1 (by simp (disch:=first|decide|(simp only[zF,zG,g1];decide)) only [zA,zB,zC,zD,zE,zF,zG,zH,zI,zJ,zK,HV.cells,g1]; try exact rfl) (by first|assumption|(simp (disch:=omega) only [get_same,get_other,g1]; first|done|exact rfl)) (by first|assumption|rfl|(simp only [zI,zJ,HV.cells,g1]; exact rfl)) ?_
     | refine r_ldn (by simp (disch:=first|decide|(simp only[zF,zG,g1];decide)) only [zA,zB,zC,zD,zE,zF,zG,zH,zI,zJ,zK,HV.cells,g1]; try exact rfl) (by first|assumption|(simp (disch:=omega) only [get_same,get_other,g1]; first|done|exact rfl)) (by first|assumption|rfl|(simp only [zI,zJ,HV.cells,g1]; exact rfl)) ?_
     | refine r_box (by simp (disch:=first|decide|(simp only[zF,zG,g1];decide)) only [zA,zB,zC,zD,zE,zF,zG,zH,zI,zJ,zK,HV.cells,g1]; try exact rfl) ?_
     | refine r_alloc ?_
     | refine r_st (cs' := _) (by simp (disch:=first|decide|(simp only[zF,zG,g1];decide)) only [zA,zB,zC,zD,zE,zF,zG,zH,zI,zJ,zK,HV.cells,g1]; try exact rfl) (by simp (disch:=first|decide|(simp only[zF,zG,g1];decide)) only [zA,zB,zC,zD,zE,zF,zG,zH,zI,zJ,zK,HV.cells,g1]; try exact rfl) (by first|assumption|(simp (disch:=omega) only [get_same,get_other,g1]; first|done|exact rfl)) (by exact True.intro) (by rfl) (by rfl) (by first|assumption|rfl|(simp only [zI,zJ,HV.cells,g1]; exact rfl)) (by omega) ?_
     | refine r_add (by simp (disch:=first|decide|(simp only[zF,zG,g1];decide)) only [zA,zB,zC,zD,zE,zF,zG,zH,zI,zJ,zK,HV.cells,g1]; try exact rfl) (by simp (disch:=first|decide|(simp only[zF,zG,g1];decide)) only [zA,zB,zC,zD,zE,zF,zG,zH,zI,zJ,zK,HV.cells,g1]; try exact rfl) (by omega) (by omega) ?_
     | refine r_mul (by simp (disch:=first|decide|(simp only[zF,zG,g1];decide)) only [zA,zB,zC,zD,zE,zF,zG,zH,zI,zJ,zK,HV.cells,g1]; try exact rfl) (by simp (disch:=first|decide|(simp only[zF,zG,g1];decide)) only [zA,zB,zC,zD,zE,zF,zG,zH,zI,zJ,zK,HV.cells,g1]; try exact rfl) (by omega) (by omega) ?_
     | refine r_lss (by simp (disch:=first|decide|(simp only[zF,zG,g1];decide)) only [zA,zB,zC,zD,zE,zF,zG,zH,zI,zJ,zK,HV.cells,g1]; try exact rfl) (by simp (disch:=first|decide|(simp only[zF,zG,g1];decide)) only [zA,zB,zC,zD,zE,zF,zG,zH,zI,zJ,zK,HV.cells,g1]; try exact rfl) (fun hc => ?_) (fun hc => ?_) <;> (try (exfalso; omega))
     | refine r_gtr (by simp (disch:=first|decide|(simp only[zF,zG,g1];decide)) only [zA,zB,zC,zD,zE,zF,zG,zH,zI,zJ,zK,HV.cells,g1]; try exact rfl) (by simp (disch:=first|decide|(simp only[zF,zG,g1];decide)) only [zA,zB,zC,zD,zE,zF,zG,zH,zI,zJ,zK,HV.cells,g1]; try exact rfl) (fun hc => ?_) (fun hc => ?_) <;> (try (exfalso; omega))
     | refine r_eq (by simp (disch:=first|decide|(simp only[zF,zG,g1];decide)) only [zA,zB,zC,zD,zE,zF,zG,zH,zI,zJ,zK,HV.cells,g1]; try exact rfl) (by simp (disch:=first|decide|(simp only[zF,zG,g1];decide)) only [zA,zB,zC,zD,zE,zF,zG,zH,zI,zJ,zK,HV.cells,g1]; try exact rfl) (fun hc => ?_) (fun hc => ?_) <;> (try (exfalso; omega))
     | refine r_ne (by simp (disch:=first|decide|(simp only[zF,zG,g1];decide)) only [zA,zB,zC,zD,zE,zF,zG,zH,zI,zJ,zK,HV.cells,g1]; try exact rfl) (by simp (disch:=first|decide|(simp only[zF,zG,g1];decide)) only [zA,zB,zC,zD,zE,zF,zG,zH,zI,zJ,zK,HV.cells,g1]; try exact rfl) (fun hc => ?_) (fun hc => ?_) <;> (try (exfalso; omega))
     | refine r_eqb (by simp (disch:=first|decide|(simp only[zF,zG,g1];decide)) only [zA,zB,zC,zD,zE,zF,zG,zH,zI,zJ,zK,HV.cells,g1]; try exact rfl) (by simp (disch:=first|decide|(simp only[zF,zG,g1];decide)) only [zA,zB,zC,zD,zE,zF,zG,zH,zI,zJ,zK,HV.cells,g1]; try exact rfl) ?_
     | refine r_not1 (by simp (disch:=first|decide|(simp only[zF,zG,g1];decide)) only [zA,zB,zC,zD,zE,zF,zG,zH,zI,zJ,zK,HV.cells,g1]; try exact rfl) ?_
     | refine r_pt (by simp (disch:=first|decide|(simp only[zF,zG,g1];decide)) only [zA,zB,zC,zD,zE,zF,zG,zH,zI,zJ,zK,HV.cells,g1]; first|done|exact rfl) (by simp (disch:=first|decide|(simp only[zF,zG,g1];decide)) only [zA,zB,zC,zD,zE,zF,zG,zH,zI,zJ,zK,HV.cells,g1]; try exact rfl) ?_
     | refine r_pf (by simp (disch:=first|decide|(simp only[zF,zG,g1];decide)) only [zA,zB,zC,zD,zE,zF,zG,zH,zI,zJ,zK,HV.cells,g1]; first|done|exact rfl) (by simp (disch:=first|decide|(simp only[zF,zG,g1];decide)) only [zA,zB,zC,zD,zE,zF,zG,zH,zI,zJ,zK,HV.cells,g1]; try exact rfl) ?_
     | refine r_len (by simp (disch:=first|decide|(simp only[zF,zG,g1];decide)) only [zA,zB,zC,zD,zE,zF,zG,zH,zI,zJ,zK,HV.cells,g1]; try exact rfl) ?_
     | refine r_ixs (by simp (disch:=first|decide|(simp only[zF,zG,g1];decide)) only [zA,zB,zC,zD,zE,zF,zG,zH,zI,zJ,zK,HV.cells,g1]; try exact rfl) (by simp (disch:=first|decide|(simp only[zF,zG,g1];decide)) only [zA,zB,zC,zD,zE,zF,zG,zH,zI,zJ,zK,HV.cells,g1]; try exact rfl) (by omega) ?_
     | refine r_ext (by simp (disch:=first|decide|(simp only[zF,zG,g1];decide)) only [zA,zB,zC,zD,zE,zF,zG,zH,zI,zJ,zK,HV.cells,g1]; try exact rfl) (by first|assumption|rfl|(simp only [zI,zJ,HV.cells,g1]; exact rfl)) ?_
     | refine r_build (by simp (disch:=first|decide|(simp only[zF,zG,g1];decide)) only [evParts,List.map_cons,List.map_nil,List.nil_append,List.cons_append,List.append_nil,zA,zB,zC,zD,zE,zF,zG,zH,zI,zJ,zK,HV.cells,g1]; try exact rfl) ?_
     | refine r_bs (by simp (disch:=first|decide|(simp only[zF,zG,g1];decide)) only [evParts,List.map_cons,List.map_nil,List.nil_append,List.cons_append,List.append_nil,zA,zB,zC,zD,zE,zF,zG,zH,zI,zJ,zK,HV.cells,g1]; try exact rfl) ?_
     | refine r_rem (by simp (disch:=first|decide|(simp only[zF,zG,g1];decide)) only [zA,zB,zC,zD,zE,zF,zG,zH,zI,zJ,zK,HV.cells,g1]; try exact rfl) (by simp (disch:=first|decide|(simp only[zF,zG,g1];decide)) only [zA,zB,zC,zD,zE,zF,zG,zH,zI,zJ,zK,HV.cells,g1]; try exact rfl) (by omega) (by omega) ?_
     | refine r_conv (by simp (disch:=first|decide|(simp only[zF,zG,g1];decide)) only [zA,zB,zC,zD,zE,zF,zG,zH,zI,zJ,zK,HV.cells,g1]; try exact rfl) (by omega) (by omega) ?_
     | fail
    refine r_callc (by simp (disch:=first|decide|(simp only[zF,zG,g1];decide)) only [zA,zB,zC,zD,zE,zF,zG,zH,zI,zJ,zK,HV.cells,g1]; try exact rfl) (by simp (disch:=first|decide|(simp only[zF,zG,g1];decide)) only [List.map_cons,List.map_nil,List.nil_append,List.cons_append,List.append_nil,zA,zB,zC,zD,zE,zF,zG,zH,zI,zJ,zK,HV.cells,g1]; try exact rfl) (c_Heights (n := n) (t := sclT kq t) (l := l.map (sclR kq)) (cp := c9) hd9 (fun _ => hcn) rfl (by omega) hr9) ?_
    intro u6 σ6 hK2
    have key2 : ∃ p c h10 n10, u6 = .tuple [.slice p (n + 1) c, i64 0] ∧ σ6 = ⟨h10, n10⟩ ∧ Ext h9 n9 h10 n10 ∧ Row renc 2 h10 n10 p (BL M2 (n + 1)) := by
      rcases hK2 with ⟨M', _, hM', p, c, h8, n8, rfl, rfl, e8, hr8⟩ | ⟨_, hM', _⟩ | ⟨hM', _⟩
      · rw [hM2] at hM'; cases hM'; exact ⟨p, c, h8, n8, rfl, rfl, e8, hr8⟩
      · rw [hM2] at hM'; cases hM'
      · exact absurd hc hM'
    obtain ⟨p10, c10, h10, n10, rfl, rfl, e10, hr10⟩ := key2
    have hle10 := e10.le
    have hd10 := e10.d
    have hg10 : h10.get nx = some (.cells t.cells .exact) := by rw [e10.same _ (by omega), e9.same _ (by omega)]; exact hg8
    have hr8x : Row renc 2 h10 n10 p8 (BL M (n + 1)) := hr8.ext (((Ext.nx hd8 (by omega)).trans e9).trans e10)
    repeat' first
     | refine r_nil ?_
     | refine th_n ?_
     | refine th_r ?_
     | refine th_e ?_
     | refine ib_n ?_
     | refine ib_r ?_
     | refine ib_e ?_
     | refine ib_x (by decide) ?_
     | refine w_exit ?_
     | refine w_seq ?_
     | refine w_reg ?_
     | refine w_ret ?_
     | refine w_skip ?_
     | refine w_block ?_
     | refine w_t (by simp (disch:=first|decide|(simp only[zF,zG,g1, g3, hcn];decide)) only [zA,zB,zC,zD,zE,zF,zG,zH,zI,zJ,zK,HV.cells,g1, g3, hcn]; first|done|exact rfl) ?_
     | refine w_f (by simp (disch:=first|decide|(simp only[zF,zG,g1, g3, hcn];decide)) only [zA,zB,zC,zD,zE,zF,zG,zH,zI,zJ,zK,HV.cells,g1, g3, hcn]; first|done|exact rfl) ?_
     | refine r_take (by simp (disch:=first|decide|(simp only[zF,zG,g1, g3, hcn];decide)) only [zA,zB,zC,zD,zE,zF,zG,zH,zI,zJ,zK,HV.cells,g1, g3, hcn]; first|done|exact rfl) ?_
     | refine r_drop (by simp (disch:=first|decide|(simp only[zF,zG,Bool.not_true,Bool.not_false,g1, g3, hcn];decide)) only [zA,zB,zC,zD,zE,zF,zG,zH,zI,zJ,zK,HV.cells,Bool.not_true,Bool.not_false,g1, g3, hcn]; first|done|exact rfl) ?_
     | refine r_move (by simp (disch:=first|decide|(simp only[zF,zG,g1, g3, hcn];decide)) only [zA,zB,zC,zD,zE,zF,zG,zH,zI,zJ,zK,HV.cells,g1, g3, hcn]; try exact rfl) ?_
     | refine r_fa (by simp (disch:=first|decide|(simp only[zF,zG,g1, g3, hcn];decide)) only [zA,zB,zC,zD,zE,zF,zG,zH,zI,zJ,zK,HV.cells,g1, g3, hcn]; try exact rfl) ?_
     | refine r_ld1 (by simp (disch:=first|decide|(simp only[zF,zG,g1, g3, hcn];decide)) only [zA,zB,zC,zD,zE,zF,zG,zH,zI,zJ,zK,HV.cells,g1, g3, hcn]; try exact rfl) (by first|assumption|(simp (disch:=omega) only [get_same,get_other,g1, g3, hcn]; first|done|exact rfl)) (by first|assumption|rfl|(simp only [zI,zJ,HV.cells,g1, g3, hcn]; exact rfl)) ?_
     | refine r_ldn (by simp (disch:=first|decide|(simp only[zF,zG,g1, g3, hcn];decide)) only [zA,zB,zC,zD,zE,zF,zG,zH,zI,zJ,zK,HV.cells,g1, g3, hcn]; try exact rfl) (by first|assumption|(simp (disch:=omega) only [get_same,get_other,g1, g3, hcn]; first|done|exact rfl)) (by first|assumption|rfl|(simp only [zI,zJ,HV.cells,g1, g3, hcn]; exact rfl)) ?_
     | refine r_box (by simp (disch:=first|decide|(simp only[zF,zG,g1, g3, hcn];decide)) only [zA,zB,zC,zD,zE,zF,zG,zH,zI,zJ,zK,HV.cells,g1, g3, hcn]; try exact rfl) ?_
     | refine r_alloc ?_
     | refine r_st (cs' := _) (by simp (disch:=first|decide|(simp only[zF,zG,g1, g3, hcn];decide)) only [zA,zB,zC,zD,zE,zF,zG,zH,zI,zJ,zK,HV.cells,g1, g3, hcn]; try exact rfl) (by simp (disch:=first|decide|(simp only[zF,zG,g1, g3, hcn];decide)) only [zA,zB,zC,zD,zE,zF,zG,zH,zI,zJ,zK,HV.cells,g1, g3, hcn]; try exact rfl) (by first|assumption|(simp (disch:=omega) only [get_same,get_other,g1, g3, hcn]; first|done|exact rfl)) (by exact True.intro) (by rfl) (by rfl) (by first|assumption|rfl|(simp only [zI,zJ,HV.cells,g1, g3, hcn]; exact rfl)) (by omega) ?_
     | refine r_add (by simp (disch:=first|decide|(simp only[zF,zG,g1, g3, hcn];decide)) only [zA,zB,zC,zD,zE,zF,zG,zH,zI,zJ,zK,HV.cells,g1, g3, hcn]; try exact rfl) (by simp (disch:=first|decide|(simp only[zF,zG,g1, g3, hcn];decide)) only [zA,zB,zC,zD,zE,zF,zG,zH,zI,zJ,zK,HV.cells,g1, g3, hcn]; try exact rfl) (by omega) (by omega) ?_
     | refine r_mul (by simp (disch:=first|decide|(simp only[zF,zG,g1, g3, hcn];decide)) only [zA,zB,zC,zD,zE,zF,zG,zH,zI,zJ,zK,HV.cells,g1, g3, hcn]; try exact rfl) (by simp (disch:=first|decide|(simp only[zF,zG,g1, g3, hcn];decide)) only [zA,zB,zC,zD,zE,zF,zG,zH,zI,zJ,zK,HV.cells,g1, g3, hcn]; try exact rfl) (by omega) (by omega) ?_
     | refine r_lss (by simp (disch:=first|decide|(simp only[zF,zG,g1, g3, hcn];decide)) only [zA,zB,zC,zD,zE,zF,zG,zH,zI,zJ,zK,HV.cells,g1, g3, hcn]; try exact rfl) (by simp (disch:=first|decide|(simp only[zF,zG,g1, g3, hcn];decide)) only [zA,zB,zC,zD,zE,zF,zG,zH,zI,zJ,zK,HV.cells,g1, g3, hcn]; try exact rfl) (fun hc => ?_) (fun hc => ?_) <;> (try (exfalso; omega))
     | refine r_gtr (by simp (disch:=first|decide|(simp only[zF,zG,g1, g3, hcn];decide)) only [zA,zB,zC,zD,zE,zF,zG,zH,zI,zJ,zK,HV.cells,g1, g3, hcn]; try exact rfl) (by simp (disch:=first|decide|(simp only[zF,zG,g1, g3, hcn];decide)) only [zA,zB,zC,zD,zE,zF,zG,zH,zI,zJ,zK,HV.cells,g1, g3, hcn]; try exact rfl) (fun hc => ?_) (fun hc => ?_) <;> (try (exfalso; omega))
     | refine r_eq (by simp (disch:=first|decide|(simp only[zF,zG,g1, g3, hcn];decide)) only [zA,zB,zC,zD,zE,zF,zG,zH,zI,zJ,zK,HV.cells,g1, g3, hcn]; try exact rfl) (by simp (disch:=first|decide|(simp only[zF,zG,g1, g3, hcn];decide)) only [zA,zB,zC,zD,zE,zF,zG,zH,zI,zJ,zK,HV.cells,g1, g3, hcn]; try exact rfl) (fun hc => ?_) (fun hc => ?_) <;> (try (exfalso; omega))
     | refine r_ne (by simp (disch:=first|decide|(simp only[zF,zG,g1, g3, hcn];decide)) only [zA,zB,zC,zD,zE,zF,zG,zH,zI,zJ,zK,HV.cells,g1, g3, hcn]; try exact rfl) (by simp (disch:=first|decide|(simp only[zF,zG,g1, g3, hcn];decide)) only [zA,zB,zC,zD,zE,zF,zG,zH,zI,zJ,zK,HV.cells,g1, g3, hcn]; try exact rfl) (fun hc => ?_) (fun hc => ?_) <;> (try (exfalso; omega))
     | refine r_eqb (by simp (disch:=first|decide|(simp only[zF,zG,g1, g3, hcn];decide)) only [zA,zB,zC,zD,zE,zF,zG,zH,zI,zJ,zK,HV.cells,g1, g3, hcn]; try exact rfl) (by simp (disch:=first|decide|(simp only[zF,zG,g1, g3, hcn];decide)) only [zA,zB,zC,zD,zE,zF,zG,zH,zI,zJ,zK,HV.cells,g1, g3, hcn]; try exact rfl) ?_
     | refine r_not1 (by simp (disch:=first|decide|(simp only[zF,zG,g1, g3, hcn];decide)) only [zA,zB,zC,zD,zE,zF,zG,zH,zI,zJ,zK,HV.cells,g1, g3, hcn]; try exact rfl) ?_
     | refine r_pt (by simp (disch:=first|decide|(simp only[zF,zG,g1, g3, hcn];decide)) only [zA,zB,zC,zD,zE,zF,zG,zH,zI,zJ,zK,HV.cells,g1, g3, hcn]; first|done|exact rfl) (by simp (disch:=first|decide|(simp only[zF,zG,g1, g3, hcn];decide)) only [zA,zB,zC,zD,zE,zF,zG,zH,zI,zJ,zK,HV.cells,g1, g3, hcn]; try exact rfl) ?_
     | refine r_pf (by simp (disch:=first|decide|(simp only[zF,zG,g1, g3, hcn];decide)) only [zA,zB,zC,zD,zE,zF,zG,zH,zI,zJ,zK,HV.cells,g1, g3, hcn]; first|done|exact rfl) (by simp (disch:=first|decide|(simp only[zF,zG,g1, g3, hcn];decide)) only [zA,zB,zC,zD,zE,zF,zG,zH,zI,zJ,zK,HV.cells,g1, g3, hcn]; try exact rfl) ?_
     | refine r_len (by simp (disch:=first|decide|(simp only[zF,zG,g1, g3, hcn];decide)) only [zA,zB,zC,zD,zE,zF,zG,zH,zI,zJ,zK,HV.cells,g1, g3, hcn]; try exact rfl) ?_
     | refine r_ixs (by simp (disch:=first|decide|(simp only[zF,zG,g1, g3, hcn];decide)) only [zA,zB,zC,zD,zE,zF,zG,zH,zI,zJ,zK,HV.cells,g1, g3, hcn]; try exact rfl) (by simp (disch:=first|decide|(simp only[zF,zG,g1, g3, hcn];decide)) only [zA,zB,zC,zD,zE,zF,zG,zH,zI,zJ,zK,HV.cells,g1, g3, hcn]; try exact rfl) (by omega) ?_
     | refine r_ext (by simp (disch:=first|decide|(simp only[zF,zG,g1, g3, hcn];decide)) only [zA,zB,zC,zD,zE,zF,zG,zH,zI,zJ,zK,HV.cells,g1, g3, hcn]; try exact rfl) (by first|assumption|rfl|(simp only [zI,zJ,HV.cells,g1, g3, hcn]; exact rfl)) ?_
     | refine r_build (by simp (disch:=first|decide|(simp only[zF,zG,g1, g3, hcn];decide)) only [evParts,List.map_cons,List.map_nil,List.nil_append,List.cons_append,List.append_nil,zA,zB,zC,zD,zE,zF,zG,zH,zI,zJ,zK,HV.cells,g1, g3, hcn]; try exact rfl) ?_
     | refine r_bs (by simp (disch:=first|decide|(simp only[zF,zG,g1, g3, hcn];decide)) only [evParts,List.map_cons,List.map_nil,List.nil_append,List.cons_append,List.append_nil,zA,zB,zC,zD,zE,zF,zG,zH,zI,zJ,zK,HV.cells,g1, g3, hcn]; try exact rfl) ?_
     | refine r_rem (by simp (disch:=first|decide|(simp only[zF,zG,g1, g3, hcn];decide)) only [zA,zB,zC,zD,zE,zF,zG,zH,zI,zJ,zK,HV.cells,g1, g3, hcn]; try exact rfl) (by simp (disch:=first|decide|(simp only[zF,zG,g1, g3, hcn];decide)) only [zA,zB,zC,zD,zE,zF,zG,zH,zI,zJ,zK,HV.cells,g1, g3, hcn]; try exact rfl) (by omega) (by omega) ?_
     | refine r_conv (by simp (disch:=first|decide|(simp only[zF,zG,g1, g3, hcn];decide)) only [zA,zB,zC,zD,zE,zF,zG,zH,zI,zJ,zK,HV.cells,g1, g3, hcn]; try exact rfl) (by omega) (by omega) ?_
     | fail
    have hlt : ∀ (X : Mx) (i : Nat) (x : Int × Int), (BL X (n + 1))[i]? = some x → i < n + 1 ∧ x = (-(X i 0), X 0 i) := fun X i x hx => by
      have hi : i < n + 1 := by
        rcases Nat.lt_or_ge i (BL X (n + 1)).length with h1 | h1
        · rwa [BL_len] at h1
        · rw [List.getElem?_eq_none h1] at hx; cases hx
      rw [BL_get _ hi] at hx
      cases hx
      exact ⟨hi, rfl⟩
    refine loop18w0 (u := BL M (n + 1)) (v := BL M2 (n + 1)) (p := p8) (q := p10) (cp := c8) (cq := c10) (k := kq) hk (by rw [BL_len]; omega) (by rw [BL_len, BL_len]) hr8x hr10 (fun i x y hx hy => ?_) (fun x hx => ?_) (by omega) hd10 (n + 1) 0 _ (by rw [BL_len]) ?_ ?_ ?_ (by rw [BL_len]; first|(simp only [zL,zM,zF,zG,g1];done)|(simp (disch:=first|decide|(simp only[zF,zG,g1];decide)) only [zA,zB,zC,zD,zE,zF,zG,zH,zI,zJ,zK,HV.cells,g1];first|done|exact rfl)|assumption) (by rw [BL_len]; first|(simp only [zL,zM,zF,zG,g1];done)|(simp (disch:=first|decide|(simp only[zF,zG,g1];decide)) only [zA,zB,zC,zD,zE,zF,zG,zH,zI,zJ,zK,HV.cells,g1];first|done|exact rfl)|assumption) ?_ (fun a9 f1 f2 => ?_)
    · obtain ⟨hi, rfl⟩ := hlt M i x hx
      obtain ⟨_, rfl⟩ := hlt M2 i y hy
      exact hbb i (by omega)
    · obtain ⟨i, hi, rfl⟩ := List.getElem_of_mem hx
      obtain ⟨hi2, e⟩ := hlt M i _ (List.getElem?_eq_getElem hi)
      rw [e]
      have b1 := hG.ub i 0 (by omega) (by omega)
      have b2 := hG.ub 0 i (by omega) (by omega)
      have b3 := hG.lb (i := i) (j := 0) (by omega) (by omega)
      have b4 := hG.lb (i := 0) (j := i) (by omega) (by omega)
      dsimp only
      omega
    all_goals try first|(simp only [zL,zM,zF,zG,g1, g2, g6];done)|(simp (disch:=first|decide|(simp only[zF,zG,g1, g2, g6];decide)) only [zA,zB,zC,zD,zE,zF,zG,zH,zI,zJ,zK,HV.cells,g1, g2, g6];first|done|exact rfl)|assumption
    repeat' first
     | refine r_nil ?_
     | refine th_n ?_
     | refine th_r ?_
     | refine th_e ?_
     | refine ib_n ?_
     | refine ib_r ?_
     | refine ib_e ?_
     | refine ib_x (by decide) ?_
     | refine w_exit ?_
     | refine w_seq ?_
     | refine w_reg ?_
     | refine w_ret ?_
     | refine w_skip ?_
     | refine w_block ?_
     | refine w_t (by simp (disch:=first|decide|(simp only[zF,zG,f1];decide)) only [zA,zB,zC,zD,zE,zF,zG,zH,zI,zJ,zK,HV.cells,f1]; first|done|exact rfl) ?_
     | refine w_f (by simp (disch:=first|decide|(simp only[zF,zG,f1];decide)) only [zA,zB,zC,zD,zE,zF,zG,zH,zI,zJ,zK,HV.cells,f1]; first|done|exact rfl) ?_
     | refine r_take (by simp (disch:=first|decide|(simp only[zF,zG,f1];decide)) only [zA,zB,zC,zD,zE,zF,zG,zH,zI,zJ,zK,HV.cells,f1]; first|done|exact rfl) ?_
     | refine r_drop (by simp (disch:=first|decide|(simp only[zF,zG,Bool.not_true,Bool.not_false,f1];decide)) only [zA,zB,zC,zD,zE,zF,zG,zH,zI,zJ,zK,HV.cells,Bool.not_true,Bool.not_false,f1]; first|done|exact rfl) ?_
     | refine r_move (by simp (disch:=first|decide|(simp only[zF,zG,f1];decide)) only [zA,zB,zC,zD,zE,zF,zG,zH,zI,zJ,zK,HV.cells,f1]; try exact rfl) ?_
     | refine r_fa (by simp (disch:=first|decide|(simp only[zF,zG,f1];decide)) only [zA,zB,zC,zD,zE,zF,zG,zH,zI,zJ,zK,HV.cells,f1]; try exact rfl) ?_
     | refine r_ld1 (by simp (disch:=first|decide|(simp only[zF,zG,f1];decide)) only [zA,zB,zC,zD,zE,zF,zG,zH,zI,zJ,zK,HV.cells,f1]; try exact rfl) (by first|assumption|(simp (disch:=omega) only [get_same,get_other,f1]; first|done|exact rfl)) (by first|assumption|rfl|(simp only [zI,zJ,HV.cells,f1]; exact rfl)) ?_
     | refine r_ldn (by simp (disch:=first|decide|(simp only[zF,zG,f1];decide)) only [zA,zB,zC,zD,zE,zF,zG,zH,zI,zJ,zK,HV.cells,f1]; try exact rfl) (by first|assumption|(simp (disch:=omega) only [get_same,get_other,f1]; first|done|exact rfl)) (by first|assumption|rfl|(simp only [zI,zJ,HV.cells,f1]; exact rfl)) ?_
     | refine r_box (by simp (disch:=first|decide|(simp only[zF,zG,f1];decide)) only [zA,zB,zC,zD,zE,zF,zG,zH,zI,zJ,zK,HV.cells,f1]; try exact rfl) ?_
     | refine r_alloc ?_
     | refine r_st (cs' := _) (by simp (disch:=first|decide|(simp only[zF,zG,f1];decide)) only [zA,zB,zC,zD,zE,zF,zG,zH,zI,zJ,zK,HV.cells,f1]; try exact rfl) (by simp (disch:=first|decide|(simp only[zF,zG,f1];decide)) only [zA,zB,zC,zD,zE,zF,zG,zH,zI,zJ,zK,HV.cells,f1]; try exact rfl) (by first|assumption|(simp (disch:=omega) only [get_same,get_other,f1]; first|done|exact rfl)) (by exact True.intro) (by rfl) (by rfl) (by first|assumption|rfl|(simp only [zI,zJ,HV.cells,f1]; exact rfl)) (by omega) ?_
     | refine r_add (by simp (disch:=first|decide|(simp only[zF,zG,f1];decide)) only [zA,zB,zC,zD,zE,zF,zG,zH,zI,zJ,zK,HV.cells,f1]; try exact rfl) (by simp (disch:=first|decide|(simp only[zF,zG,f1];decide)) only [zA,zB,zC,zD,zE,zF,zG,zH,zI,zJ,zK,HV.cells,f1]; try exact rfl) (by omega) (by omega) ?_
     | refine r_mul (by simp (disch:=first|decide|(simp only[zF,zG,f1];decide)) only [zA,zB,zC,zD,zE,zF,zG,zH,zI,zJ,zK,HV.cells,f1]; try exact rfl) (by simp (disch:=first|decide|(simp only[zF,zG,f1];decide)) only [zA,zB,zC,zD,zE,zF,zG,zH,zI,zJ,zK,HV.cells,f1]; try exact rfl) (by omega) (by omega) ?_
     | refine r_lss (by simp (disch:=first|decide|(simp only[zF,zG,f1];decide)) only [zA,zB,zC,zD,zE,zF,zG,zH,zI,zJ,zK,HV.cells,f1]; try exact rfl) (by simp (disch:=first|decide|(simp only[zF,zG,f1];decide)) only [zA,zB,zC,zD,zE,zF,zG,zH,zI,zJ,zK,HV.cells,f1]; try exact rfl) (fun hc => ?_) (fun hc => ?_) <;> (try (exfalso; omega))
     | refine r_gtr (by simp (disch:=first|decide|(simp only[zF,zG,f1];decide)) only [zA,zB,zC,zD,zE,zF,zG,zH,zI,zJ,zK,HV.cells,f1]; try exact rfl) (by simp (disch:=first|decide|(simp only[zF,zG,f1];decide)) only [zA,zB,zC,zD,zE,zF,zG,zH,zI,zJ,zK,HV.cells,f1]; try exact rfl) (fun hc => ?_) (fun hc => ?_) <;> (try (exfalso; omega))
     | refine r_eq (by simp (disch:=first|decide|(simp only[zF,zG,f1];decide)) only [zA,zB,zC,zD,zE,zF,zG,zH,zI,zJ,zK,HV.cells,f1]; try exact rfl) (by simp (disch:=first|decide|(simp only[zF,zG,f1];decide)) only [zA,zB,zC,zD,zE,zF,zG,zH,zI,zJ,zK,HV.cells,f1]; try exact rfl) (fun hc => ?_) (fun hc => ?_) <;> (try (exfalso; omega))
     | refine r_ne (by simp (disch:=first|decide|(simp only[zF,zG,f1];decide)) only [zA,zB,zC,zD,zE,zF,zG,zH,zI,zJ,zK,HV.cells,f1]; try exact rfl) (by simp (disch:=first|decide|(simp only[zF,zG,f1];decide)) only [zA,zB,zC,zD,zE,zF,zG,zH,zI,zJ,zK,HV.cells,f1]; try exact rfl) (fun hc => ?_) (fun hc => ?_) <;> (try (exfalso; omega))
     | refine r_eqb (by simp (disch:=first|decide|(simp only[zF,zG,f1];decide)) only [zA,zB,zC,zD,zE,zF,zG,zH,zI,zJ,zK,HV.cells,f1]; try exact rfl) (by simp (disch:=first|decide|(simp only[zF,zG,f1];decide)) only [zA,zB,zC,zD,zE,zF,zG,zH,zI,zJ,zK,HV.cells,f1]; try exact rfl) ?_
     | refine r_not1 (by simp (disch:=first|decide|(simp only[zF,zG,f1];decide)) only [zA,zB,zC,zD,zE,zF,zG,zH,zI,zJ,zK,HV.cells,f1]; try exact rfl) ?_
     | refine r_pt (by simp (disch:=first|decide|(simp only[zF,zG,f1];decide)) only [zA,zB,zC,zD,zE,zF,zG,zH,zI,zJ,zK,HV.cells,f1]; first|done|exact rfl) (by simp (disch:=first|decide|(simp only[zF,zG,f1];decide)) only [zA,zB,zC,zD,zE,zF,zG,zH,zI,zJ,zK,HV.cells,f1]; try exact rfl) ?_
     | refine r_pf (by simp (disch:=first|decide|(simp only[zF,zG,f1];decide)) only [zA,zB,zC,zD,zE,zF,zG,zH,zI,zJ,zK,HV.cells,f1]; first|done|exact rfl) (by simp (disch:=first|decide|(simp only[zF,zG,f1];decide)) only [zA,zB,zC,zD,zE,zF,zG,zH,zI,zJ,zK,HV.cells,f1]; try exact rfl) ?_
     | refine r_len (by simp (disch:=first|decide|(simp only[zF,zG,f1];decide)) only [zA,zB,zC,zD,zE,zF,zG,zH,zI,zJ,zK,HV.cells,f1]; try exact rfl) ?_
     | refine r_ixs (by simp (disch:=first|decide|(simp only[zF,zG,f1];decide)) only [zA,zB,zC,zD,zE,zF,zG,zH,zI,zJ,zK,HV.cells,f1]; try exact rfl) (by simp (disch:=first|decide|(simp only[zF,zG,f1];decide)) only [zA,zB,zC,zD,zE,zF,zG,zH,zI,zJ,zK,HV.cells,f1]; try exact rfl) (by omega) ?_
     | refine r_ext (by simp (disch:=first|decide|(simp only[zF,zG,f1];decide)) only [zA,zB,zC,zD,zE,zF,zG,zH,zI,zJ,zK,HV.cells,f1]; try exact rfl) (by first|assumption|rfl|(simp only [zI,zJ,HV.cells,f1]; exact rfl)) ?_
     | refine r_build (by simp (disch:=first|decide|(simp only[zF,zG,f1];decide)) only [evParts,List.map_cons,List.map_nil,List.nil_append,List.cons_append,List.append_nil,zA,zB,zC,zD,zE,zF,zG,zH,zI,zJ,zK,HV.cells,f1]; try exact rfl) ?_
     | refine r_bs (by simp (disch:=first|decide|(simp only[zF,zG,f1];decide)) only [evParts,List.map_cons,List.map_nil,List.nil_append,List.cons_append,List.append_nil,zA,zB,zC,zD,zE,zF,zG,zH,zI,zJ,zK,HV.cells,f1]; try exact rfl) ?_
     | refine r_rem (by simp (disch:=first|decide|(simp only[zF,zG,f1];decide)) only [zA,zB,zC,zD,zE,zF,zG,zH,zI,zJ,zK,HV.cells,f1]; try exact rfl) (by simp (disch:=first|decide|(simp only[zF,zG,f1];decide)) only [zA,zB,zC,zD,zE,zF,zG,zH,zI,zJ,zK,HV.cells,f1]; try exact rfl) (by omega) (by omega) ?_
     | refine r_conv (by simp (disch:=first|decide|(simp only[zF,zG,f1];decide)) only [zA,zB,zC,zD,zE,zF,zG,zH,zI,zJ,zK,HV.cells,f1]; try exact rfl) (by omega) (by omega) ?_
     | refine r_calls (by simp (disch:=first|decide|(simp only[zF,zG,f1];decide)) only [zA,zB,zC,zD,zE,zF,zG,zH,zI,zJ,zK,HV.cells,f1]; try exact rfl) (by simp (disch:=first|decide|(simp only[zF,zG,f1];decide)) only [List.map_cons,List.map_nil,List.nil_append,List.cons_append,List.append_nil,zA,zB,zC,zD,zE,zF,zG,zH,zI,zJ,zK,HV.cells,f1]; try exact rfl) c_wakes (fun n' hn' => ?_)
     | fail
    refine fin_r (by simp only [zL, f2]) (by simp (disch:=first|decide|(simp only[zF,zG,f1];decide)) only [zA,zB,zC,zD,zE,zF,zG,zH,zI,zJ,zK,HV.cells,f1]; try exact rfl) (sc_flat rfl (by dsimp only; omega) rfl)
end Go.Hx

