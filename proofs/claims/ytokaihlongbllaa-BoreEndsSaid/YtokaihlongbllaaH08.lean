import Derived.Test.YtokaihlongbllaaH07
import Derived.Test.YtokaihlongbllaaH04
set_option linter.all false
namespace Go.Hx
set_option linter.unusedSimpArgs false
set_option linter.unusedVariables false
set_option maxRecDepth 20000
set_option maxHeartbeats 4000000
attribute [local irreducible] W R C thenH inBlockH
/-- What 'readFor' hands back. -/
noncomputable def forO (t : Tb) (n : Nat) (l : List Rd) (ok : Bool) : HV :=
  if errOf t.c t.t t.a t.b l = 0 then
    if ok = true then
      match readO t n l with
      | some M => .tuple [.agg (bcells t M), i64 0]
      | none => .tuple [.agg (Zr 125), i64 9]
    else .tuple [.agg (Zr 125), i64 2]
  else .tuple [.agg (Zr 125), i64 (errOf t.c t.t t.a t.b l)]
theorem flat_bc2 (t : Tb) (M : Mx) (e : Int) : flatV (.tuple [.agg (bcells t M), i64 e]) = true := by show ((bcells t M).all flat1 && (true && true)) = true; rw [bc_flat]; rfl
theorem flat_z2 (e : Int) : flatV (.tuple [.agg (Zr 125), i64 e]) = true := by show ((Zr 125).all flat1 && (true && true)) = true; rw [zr_flat]; rfl
/- 72 -/
theorem c_readFor {fl : Nat} {h : Tr HBlk} {nx : Nat} (hd : D h nx) {t : Tb} {n : Nat} {p : Option (Nat × Nat)} {l : List Rd} {m cp : Nat} {ok : Bool} (htc : TubeOk t.c t.t t.a t.b → t.c = n) (hm : m = l.length) (hlen : l.length < 1000000) (hrow : Row Rd.enc 4 h nx p l) :
    C LW fl 72 [.agg t.cells, .slice p m cp, .bool ok] ⟨h, nx⟩ (Sc (· = forO t n l ok) ⟨h, nx⟩) := by
  subst hm
  have tk : takeN 4 (t.cells.drop 0) = some t.cells := rfl
  have owz : overwrite (Zr 125) 0 (HV.agg (Zr 125)).cells = some (Zr 125) := ow_all _ _ rfl
  have cC : ∀ fl h' n', Ext h nx h' n' → C LW fl 64 [.agg t.cells, .slice p l.length cp] ⟨h', n'⟩ (Sc (· = i64 (errOf t.c t.t t.a t.b l)) ⟨h', n'⟩) := fun fl h' n' e => c_check e.d rfl (by omega) (hrow.ext e)
  refine c_in lw72 rfl rfl rfl ?_
  dsimp only [L72]
  by_cases hE : errOf t.c t.t t.a t.b l = 0
  · obtain ⟨hT, hL, hR⟩ := errOf_zero hE
    have cC1 : ∀ fl h' n', Ext h nx h' n' → C LW fl 64 [.agg t.cells, .slice p l.length cp] ⟨h', n'⟩ (Sc (· = i64 0) ⟨h', n'⟩) := fun fl h' n' e => by have := cC fl h' n' e; rwa [hE] at this
    cases ok with
    | false =>
      repeat' first
       | refine r_nil ?_
       | refine th_n ?_
       | refine th_r ?_
       | refine w_seq ?_
       | refine w_reg ?_
       | refine w_ret ?_
       | refine w_skip ?_
       | refine w_t (by simp (disch:=first|decide|(simp only[zF,zG];decide)) only [zA,zB,zC,zD,zE,zF,zG,zH,zI,zJ,zK,HV.cells]; first|done|exact rfl) ?_
       | refine w_f (by simp (disch:=first|decide|(simp only[zF,zG];decide)) only [zA,zB,zC,zD,zE,zF,zG,zH,zI,zJ,zK,HV.cells]; first|done|exact rfl) ?_
       | refine r_move (by simp (disch:=first|decide|(simp only[zF,zG];decide)) only [zA,zB,zC,zD,zE,zF,zG,zH,zI,zJ,zK,HV.cells]; try exact rfl) ?_
       | refine r_ldn (by simp (disch:=first|decide|(simp only[zF,zG];decide)) only [zA,zB,zC,zD,zE,zF,zG,zH,zI,zJ,zK,HV.cells]; try exact rfl) (by first|assumption|(simp (disch:=omega) only [get_same,get_other]; first|done|exact rfl)) (by first|assumption|rfl|(simp only [zI,zJ,HV.cells]; exact rfl)) ?_
       | refine r_box (by simp (disch:=first|decide|(simp only[zF,zG];decide)) only [zA,zB,zC,zD,zE,zF,zG,zH,zI,zJ,zK,HV.cells]; try exact rfl) ?_
       | refine r_alloc ?_
       | refine r_st (cs' := _) (by simp (disch:=first|decide|(simp only[zF,zG];decide)) only [zA,zB,zC,zD,zE,zF,zG,zH,zI,zJ,zK,HV.cells]; try exact rfl) (by simp (disch:=first|decide|(simp only[zF,zG];decide)) only [zA,zB,zC,zD,zE,zF,zG,zH,zI,zJ,zK,HV.cells]; try exact rfl) (by first|assumption|(simp (disch:=omega) only [get_same,get_other]; first|done|exact rfl)) (by exact True.intro) (by rfl) (by rfl) (by first|assumption|rfl|(simp only [zI,zJ,HV.cells]; exact rfl)) (by omega) ?_
       | refine r_ne (by simp (disch:=first|decide|(simp only[zF,zG];decide)) only [zA,zB,zC,zD,zE,zF,zG,zH,zI,zJ,zK,HV.cells]; try exact rfl) (by simp (disch:=first|decide|(simp only[zF,zG];decide)) only [zA,zB,zC,zD,zE,zF,zG,zH,zI,zJ,zK,HV.cells]; try exact rfl) (fun hc => ?_) (fun hc => ?_) <;> (try (exfalso; omega))
       | refine r_not1 (by simp (disch:=first|decide|(simp only[zF,zG];decide)) only [zA,zB,zC,zD,zE,zF,zG,zH,zI,zJ,zK,HV.cells]; try exact rfl) ?_
       | refine r_build (by simp (disch:=first|decide|(simp only[zF,zG];decide)) only [evParts,List.map_cons,List.map_nil,List.nil_append,List.cons_append,List.append_nil,zA,zB,zC,zD,zE,zF,zG,zH,zI,zJ,zK,HV.cells]; try exact rfl) ?_
       | refine r_calls (by simp (disch:=first|decide|(simp only[zF,zG];decide)) only [zA,zB,zC,zD,zE,zF,zG,zH,zI,zJ,zK,HV.cells]; try exact rfl) (by simp (disch:=first|decide|(simp only[zF,zG];decide)) only [List.map_cons,List.map_nil,List.nil_append,List.cons_append,List.append_nil,zA,zB,zC,zD,zE,zF,zG,zH,zI,zJ,zK,HV.cells]; try exact rfl) (cC1 _ _ _ (by repeat' first|assumption|refine Ext.put ?_ (by omega) (by omega)|exact Ext.up (by assumption) (by omega)|exact Ext.nx (by assumption) (by omega))) (fun n' hn' => ?_)
       | fail
      refine fin_m (by simp only [zL,zM]) (res_c (by simp (disch:=first|decide|(simp only[zF,zG];decide)) only [zA,zB,zC,zD,zE,zF,zG,zH,zI,zJ,zK,HV.cells]; try exact rfl) (by first|assumption|(simp (disch:=omega) only [get_same,get_other]; first|done|exact rfl)) tk_z (res_t (by simp (disch:=first|decide|(simp only[zF,zG];decide)) only [zA,zB,zC,zD,zE,zF,zG,zH,zI,zJ,zK,HV.cells]; try exact rfl) res_nil)) (sc_flat ?_ (by dsimp only; omega) ?_)
      · unfold forO; rw [if_pos hE, if_neg (by simp)]; exact flat_z2 2
      · unfold forO; rw [if_pos hE, if_neg (by simp)]; rfl
    | true =>
      have cR : ∀ fl h' n', Ext h nx h' n' → C LW fl 89 [.agg t.cells, .slice p l.length cp] ⟨h', n'⟩ (Sc (· = withO t (readO t n l)) ⟨h', n'⟩) := fun fl h' n' e => c_read e.d (htc hT) hT rfl hlen hR (hrow.ext e)
      cases hO : readO t n l with
      | none =>
        have cR1 : ∀ fl h' n', Ext h nx h' n' → C LW fl 89 [.agg t.cells, .slice p l.length cp] ⟨h', n'⟩ (Sc (· = .tuple [.agg (Zr 125), .bool false]) ⟨h', n'⟩) := fun fl h' n' e => by have := cR fl h' n' e; rw [hO] at this; exact this
        repeat' first
         | refine r_nil ?_
         | refine th_n ?_
         | refine th_r ?_
         | refine w_seq ?_
         | refine w_reg ?_
         | refine w_ret ?_
         | refine w_skip ?_
         | refine w_t (by simp (disch:=first|decide|(simp only[zF,zG];decide)) only [zA,zB,zC,zD,zE,zF,zG,zH,zI,zJ,zK,HV.cells]; first|done|exact rfl) ?_
         | refine w_f (by simp (disch:=first|decide|(simp only[zF,zG];decide)) only [zA,zB,zC,zD,zE,zF,zG,zH,zI,zJ,zK,HV.cells]; first|done|exact rfl) ?_
         | refine r_move (by simp (disch:=first|decide|(simp only[zF,zG];decide)) only [zA,zB,zC,zD,zE,zF,zG,zH,zI,zJ,zK,HV.cells]; try exact rfl) ?_
         | refine r_ldn (by simp (disch:=first|decide|(simp only[zF,zG];decide)) only [zA,zB,zC,zD,zE,zF,zG,zH,zI,zJ,zK,HV.cells]; try exact rfl) (by first|assumption|(simp (disch:=omega) only [get_same,get_other]; first|done|exact rfl)) (by first|assumption|rfl|(simp only [zI,zJ,HV.cells]; exact rfl)) ?_
         | refine r_box (by simp (disch:=first|decide|(simp only[zF,zG];decide)) only [zA,zB,zC,zD,zE,zF,zG,zH,zI,zJ,zK,HV.cells]; try exact rfl) ?_
         | refine r_alloc ?_
         | refine r_st (cs' := _) (by simp (disch:=first|decide|(simp only[zF,zG];decide)) only [zA,zB,zC,zD,zE,zF,zG,zH,zI,zJ,zK,HV.cells]; try exact rfl) (by simp (disch:=first|decide|(simp only[zF,zG];decide)) only [zA,zB,zC,zD,zE,zF,zG,zH,zI,zJ,zK,HV.cells]; try exact rfl) (by first|assumption|(simp (disch:=omega) only [get_same,get_other]; first|done|exact rfl)) (by exact True.intro) (by rfl) (by rfl) (by first|assumption|rfl|(simp only [zI,zJ,HV.cells]; exact rfl)) (by omega) ?_
         | refine r_ne (by simp (disch:=first|decide|(simp only[zF,zG];decide)) only [zA,zB,zC,zD,zE,zF,zG,zH,zI,zJ,zK,HV.cells]; try exact rfl) (by simp (disch:=first|decide|(simp only[zF,zG];decide)) only [zA,zB,zC,zD,zE,zF,zG,zH,zI,zJ,zK,HV.cells]; try exact rfl) (fun hc => ?_) (fun hc => ?_) <;> (try (exfalso; omega))
         | refine r_not1 (by simp (disch:=first|decide|(simp only[zF,zG];decide)) only [zA,zB,zC,zD,zE,zF,zG,zH,zI,zJ,zK,HV.cells]; try exact rfl) ?_
         | refine r_ext (by simp (disch:=first|decide|(simp only[zF,zG];decide)) only [zA,zB,zC,zD,zE,zF,zG,zH,zI,zJ,zK,HV.cells]; try exact rfl) (by first|assumption|rfl|(simp only [zI,zJ,HV.cells]; exact rfl)) ?_
         | refine r_build (by simp (disch:=first|decide|(simp only[zF,zG];decide)) only [evParts,List.map_cons,List.map_nil,List.nil_append,List.cons_append,List.append_nil,zA,zB,zC,zD,zE,zF,zG,zH,zI,zJ,zK,HV.cells]; try exact rfl) ?_
         | refine r_calls (by simp (disch:=first|decide|(simp only[zF,zG];decide)) only [zA,zB,zC,zD,zE,zF,zG,zH,zI,zJ,zK,HV.cells]; try exact rfl) (by simp (disch:=first|decide|(simp only[zF,zG];decide)) only [List.map_cons,List.map_nil,List.nil_append,List.cons_append,List.append_nil,zA,zB,zC,zD,zE,zF,zG,zH,zI,zJ,zK,HV.cells]; try exact rfl) (cC1 _ _ _ (by repeat' first|assumption|refine Ext.put ?_ (by omega) (by omega)|exact Ext.up (by assumption) (by omega)|exact Ext.nx (by assumption) (by omega))) (fun n' hn' => ?_)
         | refine r_calls (by simp (disch:=first|decide|(simp only[zF,zG];decide)) only [zA,zB,zC,zD,zE,zF,zG,zH,zI,zJ,zK,HV.cells]; try exact rfl) (by simp (disch:=first|decide|(simp only[zF,zG];decide)) only [List.map_cons,List.map_nil,List.nil_append,List.cons_append,List.append_nil,zA,zB,zC,zD,zE,zF,zG,zH,zI,zJ,zK,HV.cells]; try exact rfl) (cR1 _ _ _ (by repeat' first|assumption|refine Ext.put ?_ (by omega) (by omega)|exact Ext.up (by assumption) (by omega)|exact Ext.nx (by assumption) (by omega))) (fun n' hn' => ?_)
         | fail
        refine fin_m (by simp only [zL,zM]) (res_c (by simp (disch:=first|decide|(simp only[zF,zG];decide)) only [zA,zB,zC,zD,zE,zF,zG,zH,zI,zJ,zK,HV.cells]; try exact rfl) (by first|assumption|(simp (disch:=omega) only [get_same,get_other]; first|done|exact rfl)) tk_z (res_t (by simp (disch:=first|decide|(simp only[zF,zG];decide)) only [zA,zB,zC,zD,zE,zF,zG,zH,zI,zJ,zK,HV.cells]; try exact rfl) res_nil)) (sc_flat ?_ (by dsimp only; omega) ?_)
        · unfold forO; rw [if_pos hE, if_pos rfl, hO]; exact flat_z2 9
        · unfold forO; rw [if_pos hE, if_pos rfl, hO]; rfl
      | some M =>
        have tkb := take_bc t M
        have owb := ow_bc t M
        have cR1 : ∀ fl h' n', Ext h nx h' n' → C LW fl 89 [.agg t.cells, .slice p l.length cp] ⟨h', n'⟩ (Sc (· = .tuple [.agg (bcells t M), .bool true]) ⟨h', n'⟩) := fun fl h' n' e => by have := cR fl h' n' e; rw [hO] at this; exact this
        repeat' first
         | refine r_nil ?_
         | refine th_n ?_
         | refine w_seq ?_
         | refine w_reg ?_
         | refine w_ret ?_
         | refine w_skip ?_
         | refine w_f (by simp (disch:=first|decide|(simp only[zF,zG];decide)) only [zA,zB,zC,zD,zE,zF,zG,zH,zI,zJ,zK,HV.cells]; first|done|exact rfl) ?_
         | refine r_move (by simp (disch:=first|decide|(simp only[zF,zG];decide)) only [zA,zB,zC,zD,zE,zF,zG,zH,zI,zJ,zK,HV.cells]; try exact rfl) ?_
         | refine r_ldn (by simp (disch:=first|decide|(simp only[zF,zG];decide)) only [zA,zB,zC,zD,zE,zF,zG,zH,zI,zJ,zK,HV.cells]; try exact rfl) (by first|assumption|(simp (disch:=omega) only [get_same,get_other]; first|done|exact rfl)) (by first|assumption|rfl|(simp only [zI,zJ,HV.cells]; exact rfl)) ?_
         | refine r_box (by simp (disch:=first|decide|(simp only[zF,zG];decide)) only [zA,zB,zC,zD,zE,zF,zG,zH,zI,zJ,zK,HV.cells]; try exact rfl) ?_
         | refine r_alloc ?_
         | refine r_st (cs' := _) (by simp (disch:=first|decide|(simp only[zF,zG];decide)) only [zA,zB,zC,zD,zE,zF,zG,zH,zI,zJ,zK,HV.cells]; try exact rfl) (by simp (disch:=first|decide|(simp only[zF,zG];decide)) only [zA,zB,zC,zD,zE,zF,zG,zH,zI,zJ,zK,HV.cells]; try exact rfl) (by first|assumption|(simp (disch:=omega) only [get_same,get_other]; first|done|exact rfl)) (by exact True.intro) (by rfl) (by rfl) (by first|assumption|rfl|(simp only [zI,zJ,HV.cells]; exact rfl)) (by omega) ?_
         | refine r_ne (by simp (disch:=first|decide|(simp only[zF,zG];decide)) only [zA,zB,zC,zD,zE,zF,zG,zH,zI,zJ,zK,HV.cells]; try exact rfl) (by simp (disch:=first|decide|(simp only[zF,zG];decide)) only [zA,zB,zC,zD,zE,zF,zG,zH,zI,zJ,zK,HV.cells]; try exact rfl) (fun hc => ?_) (fun hc => ?_) <;> (try (exfalso; omega))
         | refine r_not1 (by simp (disch:=first|decide|(simp only[zF,zG];decide)) only [zA,zB,zC,zD,zE,zF,zG,zH,zI,zJ,zK,HV.cells]; try exact rfl) ?_
         | refine r_ext (by simp (disch:=first|decide|(simp only[zF,zG];decide)) only [zA,zB,zC,zD,zE,zF,zG,zH,zI,zJ,zK,HV.cells]; try exact rfl) (by first|assumption|rfl|(simp only [zI,zJ,HV.cells]; exact rfl)) ?_
         | refine r_calls (by simp (disch:=first|decide|(simp only[zF,zG];decide)) only [zA,zB,zC,zD,zE,zF,zG,zH,zI,zJ,zK,HV.cells]; try exact rfl) (by simp (disch:=first|decide|(simp only[zF,zG];decide)) only [List.map_cons,List.map_nil,List.nil_append,List.cons_append,List.append_nil,zA,zB,zC,zD,zE,zF,zG,zH,zI,zJ,zK,HV.cells]; try exact rfl) (cC1 _ _ _ (by repeat' first|assumption|refine Ext.put ?_ (by omega) (by omega)|exact Ext.up (by assumption) (by omega)|exact Ext.nx (by assumption) (by omega))) (fun n' hn' => ?_)
         | refine r_calls (by simp (disch:=first|decide|(simp only[zF,zG];decide)) only [zA,zB,zC,zD,zE,zF,zG,zH,zI,zJ,zK,HV.cells]; try exact rfl) (by simp (disch:=first|decide|(simp only[zF,zG];decide)) only [List.map_cons,List.map_nil,List.nil_append,List.cons_append,List.append_nil,zA,zB,zC,zD,zE,zF,zG,zH,zI,zJ,zK,HV.cells]; try exact rfl) (cR1 _ _ _ (by repeat' first|assumption|refine Ext.put ?_ (by omega) (by omega)|exact Ext.up (by assumption) (by omega)|exact Ext.nx (by assumption) (by omega))) (fun n' hn' => ?_)
         | fail
        refine fin_m (by simp only [zL,zM]) (res_c (by simp (disch:=first|decide|(simp only[zF,zG];decide)) only [zA,zB,zC,zD,zE,zF,zG,zH,zI,zJ,zK,HV.cells]; try exact rfl) (by first|assumption|(simp (disch:=omega) only [get_same,get_other]; first|done|exact rfl)) tkb (res_t (by simp (disch:=first|decide|(simp only[zF,zG];decide)) only [zA,zB,zC,zD,zE,zF,zG,zH,zI,zJ,zK,HV.cells]; try exact rfl) res_nil)) (sc_flat ?_ (by dsimp only; omega) ?_)
        · unfold forO; rw [if_pos hE, if_pos rfl, hO]; exact flat_bc2 t M 0
        · unfold forO; rw [if_pos hE, if_pos rfl, hO]; rfl
  · repeat' first
     | refine r_nil ?_
     | refine th_n ?_
     | refine th_r ?_
     | refine w_seq ?_
     | refine w_reg ?_
     | refine w_ret ?_
     | refine w_t (by simp (disch:=first|decide|(simp only[zF,zG];decide)) only [zA,zB,zC,zD,zE,zF,zG,zH,zI,zJ,zK,HV.cells]; first|done|exact rfl) ?_
     | refine r_move (by simp (disch:=first|decide|(simp only[zF,zG];decide)) only [zA,zB,zC,zD,zE,zF,zG,zH,zI,zJ,zK,HV.cells]; try exact rfl) ?_
     | refine r_ldn (by simp (disch:=first|decide|(simp only[zF,zG];decide)) only [zA,zB,zC,zD,zE,zF,zG,zH,zI,zJ,zK,HV.cells]; try exact rfl) (by first|assumption|(simp (disch:=omega) only [get_same,get_other]; first|done|exact rfl)) (by first|assumption|rfl|(simp only [zI,zJ,HV.cells]; exact rfl)) ?_
     | refine r_box (by simp (disch:=first|decide|(simp only[zF,zG];decide)) only [zA,zB,zC,zD,zE,zF,zG,zH,zI,zJ,zK,HV.cells]; try exact rfl) ?_
     | refine r_alloc ?_
     | refine r_st (cs' := _) (by simp (disch:=first|decide|(simp only[zF,zG];decide)) only [zA,zB,zC,zD,zE,zF,zG,zH,zI,zJ,zK,HV.cells]; try exact rfl) (by simp (disch:=first|decide|(simp only[zF,zG];decide)) only [zA,zB,zC,zD,zE,zF,zG,zH,zI,zJ,zK,HV.cells]; try exact rfl) (by first|assumption|(simp (disch:=omega) only [get_same,get_other]; first|done|exact rfl)) (by exact True.intro) (by rfl) (by rfl) (by first|assumption|rfl|(simp only [zI,zJ,HV.cells]; exact rfl)) (by omega) ?_
     | refine r_ne (by simp (disch:=first|decide|(simp only[zF,zG];decide)) only [zA,zB,zC,zD,zE,zF,zG,zH,zI,zJ,zK,HV.cells]; try exact rfl) (by simp (disch:=first|decide|(simp only[zF,zG];decide)) only [zA,zB,zC,zD,zE,zF,zG,zH,zI,zJ,zK,HV.cells]; try exact rfl) (fun hc => ?_) (fun hc => ?_) <;> (try (exfalso; omega))
     | refine r_build (by simp (disch:=first|decide|(simp only[zF,zG];decide)) only [evParts,List.map_cons,List.map_nil,List.nil_append,List.cons_append,List.append_nil,zA,zB,zC,zD,zE,zF,zG,zH,zI,zJ,zK,HV.cells]; try exact rfl) ?_
     | refine r_calls (by simp (disch:=first|decide|(simp only[zF,zG];decide)) only [zA,zB,zC,zD,zE,zF,zG,zH,zI,zJ,zK,HV.cells]; try exact rfl) (by simp (disch:=first|decide|(simp only[zF,zG];decide)) only [List.map_cons,List.map_nil,List.nil_append,List.cons_append,List.append_nil,zA,zB,zC,zD,zE,zF,zG,zH,zI,zJ,zK,HV.cells]; try exact rfl) (cC _ _ _ (by repeat' first|assumption|refine Ext.put ?_ (by omega) (by omega)|exact Ext.up (by assumption) (by omega)|exact Ext.nx (by assumption) (by omega))) (fun n' hn' => ?_)
     | fail
    refine fin_m (by simp only [zL,zM]) (res_c (by simp (disch:=first|decide|(simp only[zF,zG];decide)) only [zA,zB,zC,zD,zE,zF,zG,zH,zI,zJ,zK,HV.cells]; try exact rfl) (by first|assumption|(simp (disch:=omega) only [get_same,get_other]; first|done|exact rfl)) tk_z (res_t (by simp (disch:=first|decide|(simp only[zF,zG];decide)) only [zA,zB,zC,zD,zE,zF,zG,zH,zI,zJ,zK,HV.cells]; try exact rfl) res_nil)) (sc_flat ?_ (by dsimp only; omega) ?_)
    · unfold forO; rw [if_neg hE]; exact flat_z2 _
    · unfold forO; rw [if_neg hE]; rfl
/- 90 -/
theorem c_lowest {fl : Nat} {h : Tr HBlk} {nx : Nat} {t : Tb} {n k : Nat} {M : Mx} (hG : Good n M) (hn : n ≤ 10) (hk : k ≤ n) : C LW fl 90 [.agg (bcells t M), i64 k] ⟨h, nx⟩ (Sc (· = i64 (-(M k 0))) ⟨h, nx⟩) := by
  have e1 : (bcells t M)[0 + 4 + k * 11 + 0 * 1]? = some (i64 (M k 0)) := bc_get t M (by omega) (by omega)
  have b1 := hG.ub k 0 hk (by omega)
  have b2 := hG.lb (i := k) (j := 0) hk (by omega)
  refine c_in lw90 rfl rfl rfl ?_
  dsimp only [L90]
  repeat' first
   | refine r_nil ?_
   | refine th_n ?_
   | refine w_seq ?_
   | refine w_reg ?_
   | refine r_move (by simp (disch:=first|decide|(simp only[zF,zG];decide)) only [zA,zB,zC,zD,zE,zF,zG,zH,zI,zJ,zK,HV.cells]; try exact rfl) ?_
   | refine r_fa (by simp (disch:=first|decide|(simp only[zF,zG];decide)) only [zA,zB,zC,zD,zE,zF,zG,zH,zI,zJ,zK,HV.cells]; try exact rfl) ?_
   | refine r_box (by simp (disch:=first|decide|(simp only[zF,zG];decide)) only [zA,zB,zC,zD,zE,zF,zG,zH,zI,zJ,zK,HV.cells]; try exact rfl) ?_
   | refine r_ixa (by simp (disch:=first|decide|(simp only[zF,zG];decide)) only [zA,zB,zC,zD,zE,zF,zG,zH,zI,zJ,zK,HV.cells]; try exact rfl) (by simp (disch:=first|decide|(simp only[zF,zG];decide)) only [zA,zB,zC,zD,zE,zF,zG,zH,zI,zJ,zK,HV.cells]; try exact rfl) (by omega) ?_
   | fail
  refine r_ixa (j := 0) (by simp (disch:=first|decide|(simp only[zF,zG];decide)) only [zA,zB,zC,zD,zE,zF,zG,zH,zI,zJ,zK,HV.cells]; try exact rfl) (by simp (disch:=first|decide|(simp only[zF,zG];decide)) only [zA,zB,zC,zD,zE,zF,zG,zH,zI,zJ,zK,HV.cells]; try exact rfl) (by omega) ?_
  repeat' first
   | refine r_nil ?_
   | refine th_n ?_
   | refine w_ret ?_
   | refine r_move (by simp (disch:=first|decide|(simp only[zF,zG];decide)) only [zA,zB,zC,zD,zE,zF,zG,zH,zI,zJ,zK,HV.cells]; try exact rfl) ?_
   | refine r_ld1 (by simp (disch:=first|decide|(simp only[zF,zG];decide)) only [zA,zB,zC,zD,zE,zF,zG,zH,zI,zJ,zK,HV.cells]; try exact rfl) (by first|assumption|(simp (disch:=omega) only [get_same,get_other]; first|done|exact rfl)) (by first|assumption|rfl|(simp only [zI,zJ,HV.cells]; exact rfl)) ?_
   | refine r_neg (by simp (disch:=first|decide|(simp only[zF,zG];decide)) only [zA,zB,zC,zD,zE,zF,zG,zH,zI,zJ,zK,HV.cells]; try exact rfl) (by omega) (by omega) ?_
   | fail
  refine fin_r (by simp only [zL,zM]) (by simp (disch:=first|decide|(simp only[zF,zG];decide)) only [zA,zB,zC,zD,zE,zF,zG,zH,zI,zJ,zK,HV.cells]; try exact rfl) (sc_flat rfl (by dsimp only; omega) ?_); rfl
/- 91 -/
theorem c_highest {fl : Nat} {h : Tr HBlk} {nx : Nat} {t : Tb} {n k : Nat} {M : Mx} (hn : n ≤ 10) (hk : k ≤ n) : C LW fl 91 [.agg (bcells t M), i64 k] ⟨h, nx⟩ (Sc (· = i64 (M 0 k)) ⟨h, nx⟩) := by
  have e1 : (bcells t M)[0 + 4 + 0 * 11 + k * 1]? = some (i64 (M 0 k)) := bc_get t M (by omega) (by omega)
  refine c_in lw91 rfl rfl rfl ?_
  dsimp only [L91]
  repeat' first
   | refine r_nil ?_
   | refine th_n ?_
   | refine w_seq ?_
   | refine w_reg ?_
   | refine r_move (by simp (disch:=first|decide|(simp only[zF,zG];decide)) only [zA,zB,zC,zD,zE,zF,zG,zH,zI,zJ,zK,HV.cells]; try exact rfl) ?_
   | refine r_fa (by simp (disch:=first|decide|(simp only[zF,zG];decide)) only [zA,zB,zC,zD,zE,zF,zG,zH,zI,zJ,zK,HV.cells]; try exact rfl) ?_
   | refine r_box (by simp (disch:=first|decide|(simp only[zF,zG];decide)) only [zA,zB,zC,zD,zE,zF,zG,zH,zI,zJ,zK,HV.cells]; try exact rfl) ?_
   | fail
  refine r_ixa (j := 0) (by simp (disch:=first|decide|(simp only[zF,zG];decide)) only [zA,zB,zC,zD,zE,zF,zG,zH,zI,zJ,zK,HV.cells]; try exact rfl) (by simp (disch:=first|decide|(simp only[zF,zG];decide)) only [zA,zB,zC,zD,zE,zF,zG,zH,zI,zJ,zK,HV.cells]; try exact rfl) (by omega) ?_
  repeat' first
   | refine r_nil ?_
   | refine th_n ?_
   | refine w_ret ?_
   | refine r_move (by simp (disch:=first|decide|(simp only[zF,zG];decide)) only [zA,zB,zC,zD,zE,zF,zG,zH,zI,zJ,zK,HV.cells]; try exact rfl) ?_
   | refine r_ld1 (by simp (disch:=first|decide|(simp only[zF,zG];decide)) only [zA,zB,zC,zD,zE,zF,zG,zH,zI,zJ,zK,HV.cells]; try exact rfl) (by first|assumption|(simp (disch:=omega) only [get_same,get_other]; first|done|exact rfl)) (by first|assumption|rfl|(simp only [zI,zJ,HV.cells]; exact rfl)) ?_
   | refine r_ixa (by simp (disch:=first|decide|(simp only[zF,zG];decide)) only [zA,zB,zC,zD,zE,zF,zG,zH,zI,zJ,zK,HV.cells]; try exact rfl) (by simp (disch:=first|decide|(simp only[zF,zG];decide)) only [zA,zB,zC,zD,zE,zF,zG,zH,zI,zJ,zK,HV.cells]; try exact rfl) (by omega) ?_
   | fail
  refine fin_r (by simp only [zL,zM]) (by simp (disch:=first|decide|(simp only[zF,zG];decide)) only [zA,zB,zC,zD,zE,zF,zG,zH,zI,zJ,zK,HV.cells]; try exact rfl) (sc_flat rfl (by dsimp only; omega) ?_); rfl
/- 77 -/
theorem c_bothEnds {fl : Nat} {h : Tr HBlk} {nx : Nat} : C LW fl 77 [] ⟨h, nx⟩ (Sc (· = .agg [.func 90 [] [], .func 91 [] []]) ⟨h, nx⟩) := by
  have fi : fillH [.nilFunc, .nilFunc] [(0, 1, .func 90 [] []), (1, 1, .func 91 [] [])] = some [.func 90 [] [], .func 91 [] []] := rfl
  have ow : overwrite [.nilFunc, .nilFunc] 0 (HV.agg [.func 90 [] [], .func 91 [] []]).cells = some [.func 90 [] [], .func 91 [] []] := rfl
  refine c_in lw77 rfl rfl rfl ?_
  dsimp only [L77]
  repeat' first
   | refine r_nil ?_
   | refine th_n ?_
   | refine w_seq ?_
   | refine w_reg ?_
   | refine w_ret ?_
   | refine r_alloc ?_
   | refine r_st (cs' := _) (by simp (disch:=first|decide|(simp only[zF,zG,fi];decide)) only [zA,zB,zC,zD,zE,zF,zG,zH,zI,zJ,zK,HV.cells,fi]; try exact rfl) (by simp (disch:=first|decide|(simp only[zF,zG,fi];decide)) only [zA,zB,zC,zD,zE,zF,zG,zH,zI,zJ,zK,HV.cells,fi]; try exact rfl) (by first|assumption|(simp (disch:=omega) only [get_same,get_other,fi]; first|done|exact rfl)) (by exact True.intro) (by rfl) (by rfl) (by first|assumption|rfl|(simp only [zI,zJ,HV.cells,fi]; exact rfl)) (by omega) ?_
   | refine r_build (by simp (disch:=first|decide|(simp only[zF,zG,fi];decide)) only [evParts,List.map_cons,List.map_nil,List.nil_append,List.cons_append,List.append_nil,zA,zB,zC,zD,zE,zF,zG,zH,zI,zJ,zK,HV.cells,fi]; try exact rfl) ?_
   | fail
  exact fin_m (by simp only [zL,zM]) (res_c (by simp (disch:=first|decide|(simp only[zF,zG];decide)) only [zA,zB,zC,zD,zE,zF,zG,zH,zI,zJ,zK,HV.cells]; try exact rfl) (by first|assumption|(simp (disch:=omega) only [get_same,get_other]; first|done|exact rfl)) rfl res_nil) (sc_flat rfl (by dsimp only; omega) rfl)
/-- A range as cells. -/
def renc (r : Int × Int) : List HV := [i64 r.1, i64 r.2]
theorem renc_len (r : Int × Int) : (renc r).length = 2 := rfl
theorem renc_flat (r : Int × Int) : (renc r).all flat1 = true := rfl
/-- The bounds of the first marks. -/
def BL (M : Mx) (k : Nat) : List (Int × Int) := (List.range k).map fun i => (-(M i 0), M 0 i)
theorem BL_len (M : Mx) (k : Nat) : (BL M k).length = k := by simp [BL]
theorem BL_succ (M : Mx) (k : Nat) : BL M (k + 1) = BL M k ++ [(-(M k 0), M 0 k)] := by simp [BL, List.range_succ]
theorem BL_get (M : Mx) {k i : Nat} (hi : i < k) : (BL M k)[i]? = some (-(M i 0), M 0 i) := by simp [BL, List.getElem?_range hi]
/-- Rows, and what is free behind them. -/
def FC {α : Type} (enc : α → List HV) (l : List α) (fr : Nat) : List HV := l.flatMap enc ++ List.replicate fr (i64 0)
theorem ow_many : ∀ (A Z B R : List HV), Z.length = R.length → overwrite (A ++ (Z ++ B)) A.length R = some (A ++ (R ++ B))
  | [], [], B, [], _ => by cases B <;> rfl
  | [], z :: Z, B, r :: R, h => by
    show (overwrite (Z ++ B) 0 R).map _ = _
    have := ow_many [] Z B R (by simpa using h)
    simp only [List.nil_append, List.length_nil] at this
    rw [this]; rfl
  | x :: A, Z, B, R, h => by
    cases R with
    | nil =>
      cases Z with
      | nil => rfl
      | cons z Z => simp at h
    | cons r R =>
      show (overwrite (A ++ (Z ++ B)) A.length (r :: R)).map _ = _
      rw [ow_many A Z B (r :: R) h]; rfl
theorem FC_ow {α : Type} {enc : α → List HV} {sz : Nat} (he : ∀ x, (enc x).length = sz) (l : List α) (x : α) (fr : Nat) : overwrite (FC enc l (sz + fr)) (0 + l.length * sz) (enc x) = some (FC enc (l ++ [x]) fr) := by
  unfold FC
  rw [← List.replicate_append_replicate, show 0 + l.length * sz = (l.flatMap enc).length by rw [flat_len he]; omega, ow_many _ _ _ _ (by rw [he]; simp), List.flatMap_append]
  simp
theorem repl_two : ∀ n : Nat, repl n [i64 0, i64 0] = List.replicate (2 * n) (i64 0)
  | 0 => rfl
  | n + 1 => by
    have := repl_two n
    unfold repl at this ⊢
    rw [List.replicate_succ, List.flatten_cons, this, show 2 * (n + 1) = 2 * n + 1 + 1 by omega, List.replicate_succ, List.replicate_succ]; rfl
/- 73 -/
theorem loop73 {fl : Nat} {h0 : Tr HBlk} {n0 : Nat} {Q : HExit → HAct → HS → Prop} {bb eb rb n : Nat} {t : Tb} {M : Mx} (hn : n ≤ 10) (htc : t.c = n) (hG : Good n M) (hfl : fl ≤ rb) (hb1 : bb < n0) (hb2 : eb < n0) (hb3 : rb < n0) (hb4 : bb ≠ rb) (hb5 : eb ≠ rb)
    (hgb : h0.get bb = some (.cells (bcells t M) .exact)) (hge : h0.get eb = some (.cells [.func 90 [] [], .func 91 [] []] .exact)) :
    ∀ (m i : Nat) (a : HAct) (h : Tr HBlk) (nx : Nat), m + i = n + 1 → n0 ≤ nx → D h nx → (∀ b, b < n0 → b ≠ rb → h.get b = h0.get b) → h.get rb = some (.cells (FC renc (BL M i) (2 * m)) .exact) →
      a.nt = 34 → a.defers = [] → a.tmp 1 = .ptr (some (bb, 0)) → a.tmp 3 = .ptr (some (eb, 0)) → a.tmp 4 = .slice (some (rb, 0)) i (n + 1) → a.tmp 5 = i64 i →
      (∀ a' h' n', n0 ≤ n' → h'.get rb = some (.cells (FC renc (BL M (n + 1)) 0) .exact) → a'.nt = 34 → a'.defers = [] → a'.tmp 4 = .slice (some (rb, 0)) (n + 1) (n + 1) → Q .normal a' ⟨h', n'⟩) → W LW fl none (.loop L73w0) (inBlockH 0 Q) a ⟨h, nx⟩
  | 0, i, a, h, nx, hm, hnx, hd, hs, hgr, hnt, hds, h1, h3, h4, h5, hq => by
    have hi : i = n + 1 := by omega
    subst hi
    have ec : (bcells t M)[0 + 0 + 0]? = some (i64 n) := by rw [← htc]; rfl
    have hgb' : h.get bb = some (.cells (bcells t M) .exact) := by rw [hs _ hb1 hb4]; exact hgb
    refine w_it (show L73w0 = _ by unfold L73w0; exact rfl) ?_
    repeat' first
     | refine r_nil ?_
     | refine th_n ?_
     | refine th_e ?_
     | refine ib_e ?_
     | refine w_exit ?_
     | refine w_seq ?_
     | refine w_reg ?_
     | refine w_f (by simp (disch:=first|decide|(simp only[zF,zG,hnt, h1, h3, h4, h5];decide)) only [zA,zB,zC,zD,zE,zF,zG,zH,zI,zJ,zK,HV.cells,hnt, h1, h3, h4, h5]; first|done|exact rfl) ?_
     | refine r_move (by simp (disch:=first|decide|(simp only[zF,zG,hnt, h1, h3, h4, h5];decide)) only [zA,zB,zC,zD,zE,zF,zG,zH,zI,zJ,zK,HV.cells,hnt, h1, h3, h4, h5]; try exact rfl) ?_
     | refine r_fa (by simp (disch:=first|decide|(simp only[zF,zG,hnt, h1, h3, h4, h5];decide)) only [zA,zB,zC,zD,zE,zF,zG,zH,zI,zJ,zK,HV.cells,hnt, h1, h3, h4, h5]; try exact rfl) ?_
     | refine r_ld1 (by simp (disch:=first|decide|(simp only[zF,zG,hnt, h1, h3, h4, h5];decide)) only [zA,zB,zC,zD,zE,zF,zG,zH,zI,zJ,zK,HV.cells,hnt, h1, h3, h4, h5]; try exact rfl) (by first|assumption|(simp (disch:=omega) only [get_same,get_other,hnt, h1, h3, h4, h5]; first|done|exact rfl)) (by first|assumption|rfl|(simp only [zI,zJ,HV.cells,hnt, h1, h3, h4, h5]; exact rfl)) ?_
     | refine r_leq (by simp (disch:=first|decide|(simp only[zF,zG,hnt, h1, h3, h4, h5];decide)) only [zA,zB,zC,zD,zE,zF,zG,zH,zI,zJ,zK,HV.cells,hnt, h1, h3, h4, h5]; try exact rfl) (by simp (disch:=first|decide|(simp only[zF,zG,hnt, h1, h3, h4, h5];decide)) only [zA,zB,zC,zD,zE,zF,zG,zH,zI,zJ,zK,HV.cells,hnt, h1, h3, h4, h5]; try exact rfl) (fun hc => ?_) (fun hc => ?_) <;> (try (exfalso; omega))
     | fail
    refine hq _ _ _ hnx hgr ?_ ?_ ?_
    all_goals first|(simp only [zL,zM,zF,zG,hnt, hds, h4];done)|(simp (disch:=first|decide|(simp only[zF,zG,hnt, hds, h4];decide)) only [zA,zB,zC,zD,zE,zF,zG,zH,zI,zJ,zK,HV.cells,hnt, hds, h4];first|done|exact rfl)|assumption
  | m + 1, i, a, h, nx, hm, hnx, hd, hs, hgr, hnt, hds, h1, h3, h4, h5, hq => by
    have hi : i ≤ n := by omega
    have ec : (bcells t M)[0 + 0 + 0]? = some (i64 n) := by rw [← htc]; rfl
    have tkb := take_bc t M
    have hgb' : h.get bb = some (.cells (bcells t M) .exact) := by rw [hs _ hb1 hb4]; exact hgb
    have hge' : h.get eb = some (.cells [.func 90 [] [], .func 91 [] []] .exact) := by rw [hs _ hb2 hb5]; exact hge
    have fi : fillH [i64 0, i64 0] [(0, 1, i64 (-(M i 0))), (1, 1, i64 (M 0 i))] = some (renc (-(M i 0), M 0 i)) := rfl
    have fi2 : fillH (repl 1 [i64 0, i64 0]) [(0, 2, .agg (renc (-(M i 0), M 0 i)))] = some (renc (-(M i 0), M 0 i)) := rfl
    refine w_it (show L73w0 = _ by unfold L73w0; exact rfl) ?_
    repeat' first
     | refine r_nil ?_
     | refine th_n ?_
     | refine w_seq ?_
     | refine w_reg ?_
     | refine w_skip ?_
     | refine w_block ?_
     | refine w_t (by simp (disch:=first|decide|(simp only[zF,zG,hnt, h1, h3, h4, h5, fi, fi2];decide)) only [zA,zB,zC,zD,zE,zF,zG,zH,zI,zJ,zK,HV.cells,hnt, h1, h3, h4, h5, fi, fi2]; first|done|exact rfl) ?_
     | refine r_move (by simp (disch:=first|decide|(simp only[zF,zG,hnt, h1, h3, h4, h5, fi, fi2];decide)) only [zA,zB,zC,zD,zE,zF,zG,zH,zI,zJ,zK,HV.cells,hnt, h1, h3, h4, h5, fi, fi2]; try exact rfl) ?_
     | refine r_fa (by simp (disch:=first|decide|(simp only[zF,zG,hnt, h1, h3, h4, h5, fi, fi2];decide)) only [zA,zB,zC,zD,zE,zF,zG,zH,zI,zJ,zK,HV.cells,hnt, h1, h3, h4, h5, fi, fi2]; try exact rfl) ?_
     | refine r_ld1 (by simp (disch:=first|decide|(simp only[zF,zG,hnt, h1, h3, h4, h5, fi, fi2];decide)) only [zA,zB,zC,zD,zE,zF,zG,zH,zI,zJ,zK,HV.cells,hnt, h1, h3, h4, h5, fi, fi2]; try exact rfl) (by first|assumption|(simp (disch:=omega) only [get_same,get_other,hnt, h1, h3, h4, h5, fi, fi2]; first|done|exact rfl)) (by first|assumption|rfl|(simp only [zI,zJ,HV.cells,hnt, h1, h3, h4, h5, fi, fi2]; exact rfl)) ?_
     | refine r_ldn (by simp (disch:=first|decide|(simp only[zF,zG,hnt, h1, h3, h4, h5, fi, fi2];decide)) only [zA,zB,zC,zD,zE,zF,zG,zH,zI,zJ,zK,HV.cells,hnt, h1, h3, h4, h5, fi, fi2]; try exact rfl) (by first|assumption|(simp (disch:=omega) only [get_same,get_other,hnt, h1, h3, h4, h5, fi, fi2]; first|done|exact rfl)) (by first|assumption|rfl|(simp only [zI,zJ,HV.cells,hnt, h1, h3, h4, h5, fi, fi2]; exact rfl)) ?_
     | refine r_leq (by simp (disch:=first|decide|(simp only[zF,zG,hnt, h1, h3, h4, h5, fi, fi2];decide)) only [zA,zB,zC,zD,zE,zF,zG,zH,zI,zJ,zK,HV.cells,hnt, h1, h3, h4, h5, fi, fi2]; try exact rfl) (by simp (disch:=first|decide|(simp only[zF,zG,hnt, h1, h3, h4, h5, fi, fi2];decide)) only [zA,zB,zC,zD,zE,zF,zG,zH,zI,zJ,zK,HV.cells,hnt, h1, h3, h4, h5, fi, fi2]; try exact rfl) (fun hc => ?_) (fun hc => ?_) <;> (try (exfalso; omega))
     | refine r_build (by simp (disch:=first|decide|(simp only[zF,zG,hnt, h1, h3, h4, h5, fi, fi2];decide)) only [evParts,List.map_cons,List.map_nil,List.nil_append,List.cons_append,List.append_nil,zA,zB,zC,zD,zE,zF,zG,zH,zI,zJ,zK,HV.cells,hnt, h1, h3, h4, h5, fi, fi2]; try exact rfl) ?_
     | refine r_bs (by simp (disch:=first|decide|(simp only[zF,zG,hnt, h1, h3, h4, h5, fi, fi2];decide)) only [evParts,List.map_cons,List.map_nil,List.nil_append,List.cons_append,List.append_nil,zA,zB,zC,zD,zE,zF,zG,zH,zI,zJ,zK,HV.cells,hnt, h1, h3, h4, h5, fi, fi2]; try exact rfl) ?_
     | refine r_calls (by simp (disch:=first|decide|(simp only[zF,zG,hnt, h1, h3, h4, h5, fi, fi2];decide)) only [zA,zB,zC,zD,zE,zF,zG,zH,zI,zJ,zK,HV.cells,hnt, h1, h3, h4, h5, fi, fi2]; try exact rfl) (by simp (disch:=first|decide|(simp only[zF,zG,hnt, h1, h3, h4, h5, fi, fi2];decide)) only [List.map_cons,List.map_nil,List.nil_append,List.cons_append,List.append_nil,zA,zB,zC,zD,zE,zF,zG,zH,zI,zJ,zK,HV.cells,hnt, h1, h3, h4, h5, fi, fi2]; try exact rfl) (c_lowest hG hn hi) (fun n' hn' => ?_)
     | refine r_calls (by simp (disch:=first|decide|(simp only[zF,zG,hnt, h1, h3, h4, h5, fi, fi2];decide)) only [zA,zB,zC,zD,zE,zF,zG,zH,zI,zJ,zK,HV.cells,hnt, h1, h3, h4, h5, fi, fi2]; try exact rfl) (by simp (disch:=first|decide|(simp only[zF,zG,hnt, h1, h3, h4, h5, fi, fi2];decide)) only [List.map_cons,List.map_nil,List.nil_append,List.cons_append,List.append_nil,zA,zB,zC,zD,zE,zF,zG,zH,zI,zJ,zK,HV.cells,hnt, h1, h3, h4, h5, fi, fi2]; try exact rfl) (c_highest hn hi) (fun n' hn' => ?_)
     | refine w_draw (by omega) (by repeat' first|assumption|refine D.upd ?_ (by omega)|exact D.mono (by assumption) (by omega)) ?_
     | refine d_rest rfl ?_
     | refine d_one rfl ?_
     | refine d_next (by omega) ?_
     | fail
    have hfc := FC_ow renc_len (BL M i) (-(M i 0), M 0 i) (2 * m)
    rw [BL_len, ← BL_succ] at hfc
    have ha := app_in (fl := fl) (size := 2) (bytes := 16) (nx := n' + 1) (h := h.set n' (some (.cells (renc (-(M i 0), M 0 i)) .exact))) (bx := n') (ox := 0) (cx := 1) (n := 1) (b := rb) (o := 0) (k := i) (z := n + 1) (row := renc (-(M i 0), M 0 i)) (k2 := .exact) (get_same _ _ _) rfl (by rw [get_other _ _ (by omega)]; exact hgr) True.intro (by omega) rfl (by simp [renc]) (by omega) (by rw [show 2 * (m + 1) = 2 + 2 * m by omega]; exact hfc)
    refine r_app (by simp (disch:=first|decide|(simp only[zF,zG,hnt, h4];decide)) only [zA,zB,zC,zD,zE,zF,zG,zH,zI,zJ,zK,HV.cells,hnt, h4]; try exact rfl) (by simp (disch:=first|decide|(simp only[zF,zG,hnt];decide)) only [zA,zB,zC,zD,zE,zF,zG,zH,zI,zJ,zK,HV.cells,hnt]; try exact rfl) ha ?_
    repeat' first
     | refine r_nil ?_
     | refine th_n ?_
     | refine ib_n ?_
     | refine w_reg ?_
     | refine r_move (by simp (disch:=first|decide|(simp only[zF,zG,hnt, h1, h3, h5];decide)) only [zA,zB,zC,zD,zE,zF,zG,zH,zI,zJ,zK,HV.cells,hnt, h1, h3, h5]; try exact rfl) ?_
     | refine r_add (by simp (disch:=first|decide|(simp only[zF,zG,hnt, h1, h3, h5];decide)) only [zA,zB,zC,zD,zE,zF,zG,zH,zI,zJ,zK,HV.cells,hnt, h1, h3, h5]; try exact rfl) (by simp (disch:=first|decide|(simp only[zF,zG,hnt, h1, h3, h5];decide)) only [zA,zB,zC,zD,zE,zF,zG,zH,zI,zJ,zK,HV.cells,hnt, h1, h3, h5]; try exact rfl) (by omega) (by omega) ?_
     | fail
    refine loop73 hn htc hG hfl hb1 hb2 hb3 hb4 hb5 hgb hge m (i + 1) _ _ _ (by omega) (by omega) (by repeat' first|assumption|refine D.upd ?_ (by omega)|exact D.mono (by assumption) (by omega)) (fun b hb hne => ?_) (get_same _ _ _) ?_ ?_ ?_ ?_ ?_ ?_ hq
    all_goals try first|(simp only [zL,zM,zF,zG,hnt, hds, h1, h3, h5];done)|(simp (disch:=first|decide|(simp only[zF,zG,hnt, hds, h1, h3, h5];decide)) only [zA,zB,zC,zD,zE,zF,zG,zH,zI,zJ,zK,HV.cells,hnt, hds, h1, h3, h5];first|done|exact rfl)|assumption
    rw [get_other _ _ hne, get_other _ _ (by omega)]; exact hs b hb hne
theorem c_bounds {fl : Nat} {h : Tr HBlk} {nx : Nat} (hd : D h nx) {t : Tb} {n : Nat} {M : Mx} (hn : n ≤ 10) (htc : t.c = n) (hG : Good n M) : C LW fl 73 [.agg (bcells t M)] ⟨h, nx⟩ (ScL renc 2 (BL M (n + 1)) ⟨h, nx⟩) := by
  have ec : (bcells t M)[0 + 0 + 0]? = some (i64 n) := by rw [← htc]; rfl
  have ow : overwrite [.nilFunc, .nilFunc] 0 (HV.agg [.func 90 [] [], .func 91 [] []]).cells = some [.func 90 [] [], .func 91 [] []] := rfl
  refine c_in lw73 rfl rfl rfl ?_
  dsimp only [L73]
  repeat' first
   | refine r_nil ?_
   | refine th_n ?_
   | refine w_seq ?_
   | refine w_reg ?_
   | refine r_move (by simp (disch:=first|decide|(simp only[zF,zG];decide)) only [zA,zB,zC,zD,zE,zF,zG,zH,zI,zJ,zK,HV.cells]; try exact rfl) ?_
   | refine r_fa (by simp (disch:=first|decide|(simp only[zF,zG];decide)) only [zA,zB,zC,zD,zE,zF,zG,zH,zI,zJ,zK,HV.cells]; try exact rfl) ?_
   | refine r_ld1 (by simp (disch:=first|decide|(simp only[zF,zG];decide)) only [zA,zB,zC,zD,zE,zF,zG,zH,zI,zJ,zK,HV.cells]; try exact rfl) (by first|assumption|(simp (disch:=omega) only [get_same,get_other]; first|done|exact rfl)) (by first|assumption|rfl|(simp only [zI,zJ,HV.cells]; exact rfl)) ?_
   | refine r_box (by simp (disch:=first|decide|(simp only[zF,zG];decide)) only [zA,zB,zC,zD,zE,zF,zG,zH,zI,zJ,zK,HV.cells]; try exact rfl) ?_
   | refine r_alloc ?_
   | refine r_st (cs' := _) (by simp (disch:=first|decide|(simp only[zF,zG];decide)) only [zA,zB,zC,zD,zE,zF,zG,zH,zI,zJ,zK,HV.cells]; try exact rfl) (by simp (disch:=first|decide|(simp only[zF,zG];decide)) only [zA,zB,zC,zD,zE,zF,zG,zH,zI,zJ,zK,HV.cells]; try exact rfl) (by first|assumption|(simp (disch:=omega) only [get_same,get_other]; first|done|exact rfl)) (by exact True.intro) (by rfl) (by rfl) (by first|assumption|rfl|(simp only [zI,zJ,HV.cells]; exact rfl)) (by omega) ?_
   | refine r_add (by simp (disch:=first|decide|(simp only[zF,zG];decide)) only [zA,zB,zC,zD,zE,zF,zG,zH,zI,zJ,zK,HV.cells]; try exact rfl) (by simp (disch:=first|decide|(simp only[zF,zG];decide)) only [zA,zB,zC,zD,zE,zF,zG,zH,zI,zJ,zK,HV.cells]; try exact rfl) (by omega) (by omega) ?_
   | refine r_calls (by simp (disch:=first|decide|(simp only[zF,zG];decide)) only [zA,zB,zC,zD,zE,zF,zG,zH,zI,zJ,zK,HV.cells]; try exact rfl) (by simp (disch:=first|decide|(simp only[zF,zG];decide)) only [List.map_cons,List.map_nil,List.nil_append,List.cons_append,List.append_nil,zA,zB,zC,zD,zE,zF,zG,zH,zI,zJ,zK,HV.cells]; try exact rfl) c_bothEnds (fun n' hn' => ?_)
   | fail
  refine r_ms (ln := 0) (cn := n + 1) (by simp (disch:=first|decide|(simp only[zF,zG];decide)) only [zA,zB,zC,zD,zE,zF,zG,zH,zI,zJ,zK,HV.cells]; try exact rfl) (by simp (disch:=first|decide|(simp only[zF,zG];decide)) only [zA,zB,zC,zD,zE,zF,zG,zH,zI,zJ,zK,HV.cells]; try exact rfl) (by omega) (by omega) (by omega) ?_
  rw [repl_two, show List.replicate (2 * (n + 1)) (i64 0) = FC renc (BL M 0) (2 * (n + 1)) from rfl]
  repeat' first
   | refine r_nil ?_
   | refine th_n ?_
   | refine w_seq ?_
   | refine w_reg ?_
   | refine w_block ?_
   | refine r_move (by simp (disch:=first|decide|(simp only[zF,zG];decide)) only [zA,zB,zC,zD,zE,zF,zG,zH,zI,zJ,zK,HV.cells]; try exact rfl) ?_
   | fail
  refine loop73 (bb := nx) (eb := n') (rb := n' + 1) (n0 := n' + 1 + 1) hn htc hG (by omega) (by omega) (by omega) (by omega) (by omega) (by omega) (by first|assumption|(simp (disch:=omega) only [get_same,get_other]; first|done|exact rfl)) (by first|assumption|(simp (disch:=omega) only [get_same,get_other]; first|done|exact rfl)) (n + 1) 0 _ _ (n' + 1 + 1) (by omega) (Nat.le_refl _) (by repeat' first|assumption|refine D.upd ?_ (by omega)|exact D.mono (by assumption) (by omega)) (fun b _ _ => rfl) (by first|assumption|(simp (disch:=omega) only [get_same,get_other]; first|done|exact rfl)) ?_ ?_ ?_ ?_ ?_ ?_ (fun a' h' n2 g0 g1 g2 g3 g4 => ?_)
  all_goals try first|(simp only [zL,zM,zF,zG];done)|(simp (disch:=first|decide|(simp only[zF,zG];decide)) only [zA,zB,zC,zD,zE,zF,zG,zH,zI,zJ,zK,HV.cells];first|done|exact rfl)|assumption
  repeat' first
   | refine r_nil ?_
   | refine th_n ?_
   | refine w_seq ?_
   | refine w_reg ?_
   | refine w_ret ?_
   | refine r_move (by simp (disch:=first|decide|(simp only[zF,zG,g2, g4];decide)) only [zA,zB,zC,zD,zE,zF,zG,zH,zI,zJ,zK,HV.cells,g2, g4]; try exact rfl) ?_
   | fail
  refine fin_r (by simp only [zL, g3]) (by simp (disch:=first|decide|(simp only[zF,zG,g2, g4];decide)) only [zA,zB,zC,zD,zE,zF,zG,zH,zI,zJ,zK,HV.cells,g2, g4]; try exact rfl) ?_
  have := scl_blk (c := n + 1) (l := BL M (n + 1)) (rest := []) (k := .exact) (nx := n2) (h := h') renc_len renc_flat rfl hd (show nx ≤ n' + 1 by omega) (by omega) (by rw [g1]; rfl)
  rwa [BL_len] at this
theorem readGo_good {n : Nat} : ∀ (l seen : List Rd) (M M' : Mx), (∀ r ∈ l, RdOk2 n r) → Good n M → readGo n seen l M = some M' → Good n M'
  | [], _, M, M', _, hG, h => by cases h; exact hG
  | r :: rs, seen, M, M', hl, hG, h => by
    unfold readGo at h
    split at h
    · exact readGo_good rs seen M M' (fun x hx => hl x (List.mem_cons_of_mem _ hx)) hG h
    · split at h
      · rename_i M1 h1
        exact readGo_good rs _ M1 M' (fun x hx => hl x (List.mem_cons_of_mem _ hx)) (withM_good hG (hl r (List.mem_cons_self ..)) h1) h
      · cases h
theorem readO_good {t : Tb} {n : Nat} {l : List Rd} {M : Mx} (htc : t.c = n) (ht : TubeOk t.c t.t t.a t.b) (hl : ∀ r ∈ l, RdOk2 t.c r) (h : readO t n l = some M) : Good n M :=
  readGo_good l [] _ M (by rw [← htc]; exact hl) (unr_ok htc ht).2.2 h
/-- What 'Heights' hands back: a list and an error. -/
def HeightsK (t : Tb) (n : Nat) (l : List Rd) (σ : HS) : HV → HS → Prop := fun v σ' =>
  (∃ M, errOf t.c t.t t.a t.b l = 0 ∧ readO t n l = some M ∧ ∃ p c h' n', v = .tuple [.slice p (n + 1) c, i64 0] ∧ σ' = ⟨h', n'⟩ ∧ Ext σ.h σ.nx h' n' ∧ Row renc 2 h' n' p (BL M (n + 1))) ∨
  (errOf t.c t.t t.a t.b l = 0 ∧ readO t n l = none ∧ Sc (· = .tuple [.slice none 0 0, i64 9]) σ v σ') ∨
  (errOf t.c t.t t.a t.b l ≠ 0 ∧ Sc (· = .tuple [.slice none 0 0, i64 (errOf t.c t.t t.a t.b l)]) σ v σ')
/- 29 -/
theorem c_Heights {fl : Nat} {h : Tr HBlk} {nx : Nat} (hd : D h nx) {t : Tb} {n : Nat} {p : Option (Nat × Nat)} {l : List Rd} {m cp : Nat} (htc : TubeOk t.c t.t t.a t.b → t.c = n) (hm : m = l.length) (hlen : l.length < 1000000) (hrow : Row Rd.enc 4 h nx p l) :
    C LW fl 29 [.agg t.cells, .slice p m cp] ⟨h, nx⟩ (HeightsK t n l ⟨h, nx⟩) := by
  subst hm
  have tk : takeN 4 (t.cells.drop 0) = some t.cells := rfl
  have owz : overwrite (Zr 125) 0 (HV.agg (Zr 125)).cells = some (Zr 125) := ow_all _ _ rfl
  have cF : ∀ fl h' n', Ext h nx h' n' → C LW fl 72 [.agg t.cells, .slice p l.length cp, .bool true] ⟨h', n'⟩ (Sc (· = forO t n l true) ⟨h', n'⟩) := fun fl h' n' e => c_readFor e.d htc rfl hlen (hrow.ext e)
  refine c_in lw29 rfl rfl rfl ?_
  dsimp only [L29]
  by_cases hE : errOf t.c t.t t.a t.b l = 0
  · obtain ⟨hT, hL, hR⟩ := errOf_zero hE
    cases hO : readO t n l with
    | none =>
      have cF1 : ∀ fl h' n', Ext h nx h' n' → C LW fl 72 [.agg t.cells, .slice p l.length cp, .bool true] ⟨h', n'⟩ (Sc (· = .tuple [.agg (Zr 125), i64 9]) ⟨h', n'⟩) := fun fl h' n' e => by have := cF fl h' n' e; unfold forO at this; rw [if_pos hE, if_pos rfl, hO] at this; exact this
      repeat' first
       | refine r_nil ?_
       | refine th_n ?_
       | refine th_r ?_
       | refine w_seq ?_
       | refine w_reg ?_
       | refine w_ret ?_
       | refine w_t (by simp (disch:=first|decide|(simp only[zF,zG];decide)) only [zA,zB,zC,zD,zE,zF,zG,zH,zI,zJ,zK,HV.cells]; first|done|exact rfl) ?_
       | refine r_move (by simp (disch:=first|decide|(simp only[zF,zG];decide)) only [zA,zB,zC,zD,zE,zF,zG,zH,zI,zJ,zK,HV.cells]; try exact rfl) ?_
       | refine r_ldn (by simp (disch:=first|decide|(simp only[zF,zG];decide)) only [zA,zB,zC,zD,zE,zF,zG,zH,zI,zJ,zK,HV.cells]; try exact rfl) (by first|assumption|(simp (disch:=omega) only [get_same,get_other]; first|done|exact rfl)) (by first|assumption|rfl|(simp only [zI,zJ,HV.cells]; exact rfl)) ?_
       | refine r_box (by simp (disch:=first|decide|(simp only[zF,zG];decide)) only [zA,zB,zC,zD,zE,zF,zG,zH,zI,zJ,zK,HV.cells]; try exact rfl) ?_
       | refine r_alloc ?_
       | refine r_st (cs' := _) (by simp (disch:=first|decide|(simp only[zF,zG];decide)) only [zA,zB,zC,zD,zE,zF,zG,zH,zI,zJ,zK,HV.cells]; try exact rfl) (by simp (disch:=first|decide|(simp only[zF,zG];decide)) only [zA,zB,zC,zD,zE,zF,zG,zH,zI,zJ,zK,HV.cells]; try exact rfl) (by first|assumption|(simp (disch:=omega) only [get_same,get_other]; first|done|exact rfl)) (by exact True.intro) (by rfl) (by rfl) (by first|assumption|rfl|(simp only [zI,zJ,HV.cells]; exact rfl)) (by omega) ?_
       | refine r_ne (by simp (disch:=first|decide|(simp only[zF,zG];decide)) only [zA,zB,zC,zD,zE,zF,zG,zH,zI,zJ,zK,HV.cells]; try exact rfl) (by simp (disch:=first|decide|(simp only[zF,zG];decide)) only [zA,zB,zC,zD,zE,zF,zG,zH,zI,zJ,zK,HV.cells]; try exact rfl) (fun hc => ?_) (fun hc => ?_) <;> (try (exfalso; omega))
       | refine r_ext (by simp (disch:=first|decide|(simp only[zF,zG];decide)) only [zA,zB,zC,zD,zE,zF,zG,zH,zI,zJ,zK,HV.cells]; try exact rfl) (by first|assumption|rfl|(simp only [zI,zJ,HV.cells]; exact rfl)) ?_
       | refine r_calls (by simp (disch:=first|decide|(simp only[zF,zG];decide)) only [zA,zB,zC,zD,zE,zF,zG,zH,zI,zJ,zK,HV.cells]; try exact rfl) (by simp (disch:=first|decide|(simp only[zF,zG];decide)) only [List.map_cons,List.map_nil,List.nil_append,List.cons_append,List.append_nil,zA,zB,zC,zD,zE,zF,zG,zH,zI,zJ,zK,HV.cells]; try exact rfl) (cF1 _ _ _ (by repeat' first|assumption|refine Ext.put ?_ (by omega) (by omega)|exact Ext.up (by assumption) (by omega)|exact Ext.nx (by assumption) (by omega))) (fun n' hn' => ?_)
       | fail
      refine fin_m (by simp only [zL,zM]) (res_t (by simp (disch:=first|decide|(simp only[zF,zG];decide)) only [zA,zB,zC,zD,zE,zF,zG,zH,zI,zJ,zK,HV.cells]; try exact rfl) (res_t (by simp (disch:=first|decide|(simp only[zF,zG];decide)) only [zA,zB,zC,zD,zE,zF,zG,zH,zI,zJ,zK,HV.cells]; try exact rfl) res_nil)) (.inr (.inl ⟨hE, hO, sc_flat rfl (by dsimp only; omega) rfl⟩))
    | some M =>
      have hG := readO_good (htc hT) hT hR hO
      have hTo := hT
      unfold TubeOk at hTo
      have hcn := htc hT
      have tkb := take_bc t M
      have owb := ow_bc t M
      have cF1 : ∀ fl h' n', Ext h nx h' n' → C LW fl 72 [.agg t.cells, .slice p l.length cp, .bool true] ⟨h', n'⟩ (Sc (· = .tuple [.agg (bcells t M), i64 0]) ⟨h', n'⟩) := fun fl h' n' e => by have := cF fl h' n' e; unfold forO at this; rw [if_pos hE, if_pos rfl, hO] at this; exact this
      repeat' first
       | refine r_nil ?_
       | refine th_n ?_
       | refine w_seq ?_
       | refine w_reg ?_
       | refine w_skip ?_
       | refine w_f (by simp (disch:=first|decide|(simp only[zF,zG];decide)) only [zA,zB,zC,zD,zE,zF,zG,zH,zI,zJ,zK,HV.cells]; first|done|exact rfl) ?_
       | refine r_move (by simp (disch:=first|decide|(simp only[zF,zG];decide)) only [zA,zB,zC,zD,zE,zF,zG,zH,zI,zJ,zK,HV.cells]; try exact rfl) ?_
       | refine r_ldn (by simp (disch:=first|decide|(simp only[zF,zG];decide)) only [zA,zB,zC,zD,zE,zF,zG,zH,zI,zJ,zK,HV.cells]; try exact rfl) (by first|assumption|(simp (disch:=omega) only [get_same,get_other]; first|done|exact rfl)) (by first|assumption|rfl|(simp only [zI,zJ,HV.cells]; exact rfl)) ?_
       | refine r_box (by simp (disch:=first|decide|(simp only[zF,zG];decide)) only [zA,zB,zC,zD,zE,zF,zG,zH,zI,zJ,zK,HV.cells]; try exact rfl) ?_
       | refine r_alloc ?_
       | refine r_st (cs' := _) (by simp (disch:=first|decide|(simp only[zF,zG];decide)) only [zA,zB,zC,zD,zE,zF,zG,zH,zI,zJ,zK,HV.cells]; try exact rfl) (by simp (disch:=first|decide|(simp only[zF,zG];decide)) only [zA,zB,zC,zD,zE,zF,zG,zH,zI,zJ,zK,HV.cells]; try exact rfl) (by first|assumption|(simp (disch:=omega) only [get_same,get_other]; first|done|exact rfl)) (by exact True.intro) (by rfl) (by rfl) (by first|assumption|rfl|(simp only [zI,zJ,HV.cells]; exact rfl)) (by omega) ?_
       | refine r_ne (by simp (disch:=first|decide|(simp only[zF,zG];decide)) only [zA,zB,zC,zD,zE,zF,zG,zH,zI,zJ,zK,HV.cells]; try exact rfl) (by simp (disch:=first|decide|(simp only[zF,zG];decide)) only [zA,zB,zC,zD,zE,zF,zG,zH,zI,zJ,zK,HV.cells]; try exact rfl) (fun hc => ?_) (fun hc => ?_) <;> (try (exfalso; omega))
       | refine r_ext (by simp (disch:=first|decide|(simp only[zF,zG];decide)) only [zA,zB,zC,zD,zE,zF,zG,zH,zI,zJ,zK,HV.cells]; try exact rfl) (by first|assumption|rfl|(simp only [zI,zJ,HV.cells]; exact rfl)) ?_
       | refine r_calls (by simp (disch:=first|decide|(simp only[zF,zG];decide)) only [zA,zB,zC,zD,zE,zF,zG,zH,zI,zJ,zK,HV.cells]; try exact rfl) (by simp (disch:=first|decide|(simp only[zF,zG];decide)) only [List.map_cons,List.map_nil,List.nil_append,List.cons_append,List.append_nil,zA,zB,zC,zD,zE,zF,zG,zH,zI,zJ,zK,HV.cells]; try exact rfl) (cF1 _ _ _ (by repeat' first|assumption|refine Ext.put ?_ (by omega) (by omega)|exact Ext.up (by assumption) (by omega)|exact Ext.nx (by assumption) (by omega))) (fun n' hn' => ?_)
       | fail
      case refine_2 =>
        refine r_callc (by simp (disch:=first|decide|(simp only[zF,zG];decide)) only [zA,zB,zC,zD,zE,zF,zG,zH,zI,zJ,zK,HV.cells]; try exact rfl) (by simp (disch:=first|decide|(simp only[zF,zG];decide)) only [List.map_cons,List.map_nil,List.nil_append,List.cons_append,List.append_nil,zA,zB,zC,zD,zE,zF,zG,zH,zI,zJ,zK,HV.cells]; try exact rfl) (c_bounds (M := M) (by repeat' first|assumption|refine D.upd ?_ (by omega)|exact D.mono (by assumption) (by omega)) (by omega) hcn hG) ?_
        rintro w σ' ⟨p2, c2, h2, n2, rfl, rfl, e2, hr2⟩
        dsimp only at e2
        have hle := e2.le
        have e3 : Ext h nx h2 n2 := Ext.trans (by repeat' first|assumption|refine Ext.put ?_ (by omega) (by omega)|exact Ext.up (by assumption) (by omega)|exact Ext.nx (by assumption) (by omega)) e2
        rw [BL_len]
        repeat' first
         | refine r_nil ?_
         | refine th_n ?_
         | refine w_ret ?_
         | refine r_move (by simp (disch:=first|decide|(simp only[zF,zG];decide)) only [zA,zB,zC,zD,zE,zF,zG,zH,zI,zJ,zK,HV.cells]; try exact rfl) ?_
         | fail
        obtain ⟨h3, g1, g2, g3⟩ := gc_tup (n := n + 1) (c := c2) (rest := [i64 0]) hd e3 hr2
        refine fin_m (by simp only [zL,zM]) (res_t (by simp (disch:=first|decide|(simp only[zF,zG];decide)) only [zA,zB,zC,zD,zE,zF,zG,zH,zI,zJ,zK,HV.cells]; try exact rfl) (res_t (by simp (disch:=first|decide|(simp only[zF,zG];decide)) only [zA,zB,zC,zD,zE,zF,zG,zH,zI,zJ,zK,HV.cells]; try exact rfl) res_nil)) (.inl ⟨M, hE, hO, p2, c2, h3, n2, rfl, g1, g2, g3⟩)
  · have cF1 : ∀ fl h' n', Ext h nx h' n' → C LW fl 72 [.agg t.cells, .slice p l.length cp, .bool true] ⟨h', n'⟩ (Sc (· = .tuple [.agg (Zr 125), i64 (errOf t.c t.t t.a t.b l)]) ⟨h', n'⟩) := fun fl h' n' e => by have := cF fl h' n' e; unfold forO at this; rw [if_neg hE] at this; exact this
    repeat' first
     | refine r_nil ?_
     | refine th_n ?_
     | refine th_r ?_
     | refine w_seq ?_
     | refine w_reg ?_
     | refine w_ret ?_
     | refine w_t (by simp (disch:=first|decide|(simp only[zF,zG];decide)) only [zA,zB,zC,zD,zE,zF,zG,zH,zI,zJ,zK,HV.cells]; first|done|exact rfl) ?_
     | refine r_move (by simp (disch:=first|decide|(simp only[zF,zG];decide)) only [zA,zB,zC,zD,zE,zF,zG,zH,zI,zJ,zK,HV.cells]; try exact rfl) ?_
     | refine r_ldn (by simp (disch:=first|decide|(simp only[zF,zG];decide)) only [zA,zB,zC,zD,zE,zF,zG,zH,zI,zJ,zK,HV.cells]; try exact rfl) (by first|assumption|(simp (disch:=omega) only [get_same,get_other]; first|done|exact rfl)) (by first|assumption|rfl|(simp only [zI,zJ,HV.cells]; exact rfl)) ?_
     | refine r_box (by simp (disch:=first|decide|(simp only[zF,zG];decide)) only [zA,zB,zC,zD,zE,zF,zG,zH,zI,zJ,zK,HV.cells]; try exact rfl) ?_
     | refine r_alloc ?_
     | refine r_st (cs' := _) (by simp (disch:=first|decide|(simp only[zF,zG];decide)) only [zA,zB,zC,zD,zE,zF,zG,zH,zI,zJ,zK,HV.cells]; try exact rfl) (by simp (disch:=first|decide|(simp only[zF,zG];decide)) only [zA,zB,zC,zD,zE,zF,zG,zH,zI,zJ,zK,HV.cells]; try exact rfl) (by first|assumption|(simp (disch:=omega) only [get_same,get_other]; first|done|exact rfl)) (by exact True.intro) (by rfl) (by rfl) (by first|assumption|rfl|(simp only [zI,zJ,HV.cells]; exact rfl)) (by omega) ?_
     | refine r_ne (by simp (disch:=first|decide|(simp only[zF,zG];decide)) only [zA,zB,zC,zD,zE,zF,zG,zH,zI,zJ,zK,HV.cells]; try exact rfl) (by simp (disch:=first|decide|(simp only[zF,zG];decide)) only [zA,zB,zC,zD,zE,zF,zG,zH,zI,zJ,zK,HV.cells]; try exact rfl) (fun hc => ?_) (fun hc => ?_) <;> (try (exfalso; omega))
     | refine r_ext (by simp (disch:=first|decide|(simp only[zF,zG];decide)) only [zA,zB,zC,zD,zE,zF,zG,zH,zI,zJ,zK,HV.cells]; try exact rfl) (by first|assumption|rfl|(simp only [zI,zJ,HV.cells]; exact rfl)) ?_
     | refine r_calls (by simp (disch:=first|decide|(simp only[zF,zG];decide)) only [zA,zB,zC,zD,zE,zF,zG,zH,zI,zJ,zK,HV.cells]; try exact rfl) (by simp (disch:=first|decide|(simp only[zF,zG];decide)) only [List.map_cons,List.map_nil,List.nil_append,List.cons_append,List.append_nil,zA,zB,zC,zD,zE,zF,zG,zH,zI,zJ,zK,HV.cells]; try exact rfl) (cF1 _ _ _ (by repeat' first|assumption|refine Ext.put ?_ (by omega) (by omega)|exact Ext.up (by assumption) (by omega)|exact Ext.nx (by assumption) (by omega))) (fun n' hn' => ?_)
     | fail
    refine fin_m (by simp only [zL,zM]) (res_t (by simp (disch:=first|decide|(simp only[zF,zG];decide)) only [zA,zB,zC,zD,zE,zF,zG,zH,zI,zJ,zK,HV.cells]; try exact rfl) (res_t (by simp (disch:=first|decide|(simp only[zF,zG];decide)) only [zA,zB,zC,zD,zE,zF,zG,zH,zI,zJ,zK,HV.cells]; try exact rfl) res_nil)) (.inr (.inr ⟨hE, sc_flat rfl (by dsimp only; omega) rfl⟩))
end Go.Hx

/- Layer 1: volumes of a tube are heights that its matrix allows; a scaled tube allows the scaled heights. -/
namespace Go.Hx
/-- What heights of a tube are, in words. -/
theorem unr_feas {t : Tb} {n : Nat} (hcn : t.c = n) (hT : TubeOk t.c t.t t.a t.b) {H : Nat → Int} :
    Feas n (unrM n t) H ↔ (∀ i j, i ≤ n → j ≤ n → H j - H i ≤ max (((j : Int) - i) * t.a) (((j : Int) - i) * t.b)) ∧ H n - H 0 ≤ t.t ∧ H 0 - H n ≤ -t.t := by
  have hTo := hT
  unfold TubeOk at hTo
  rw [hcn] at hTo
  have g0 := good_u0 (n := n) (a := t.a) (b := t.b) (by omega) (by omega) (by omega) (by omega)
  obtain ⟨e, g1, g2⟩ := unr_eq (n := n) (t := t) (by omega) (by omega) (by omega) (by omega) (by omega) (by omega) (by omega)
  rw [e, feas_lim g1 (Nat.le_refl _) (Nat.zero_le _), feas_lim g0 (Nat.zero_le _) (Nat.le_refl _)]
  constructor
  · intro ⟨⟨h1, h2⟩, h3⟩
    exact ⟨fun i j hi hj => by rw [← u0_at (n := n) (by omega) hi hj]; exact h1 i j hi hj, h2, h3⟩
  · intro ⟨h1, h2, h3⟩
    exact ⟨⟨fun i j hi hj => by rw [u0_at (by omega) hi hj]; exact h1 i j hi hj, h2⟩, h3⟩
theorem hgt_rng {v : List Int} {a b : Int} (hv : ∀ x ∈ v, a ≤ x ∧ x ≤ b) : ∀ (d i : Nat), i + d ≤ v.length → (d : Int) * a ≤ hgt v (i + d) - hgt v i ∧ hgt v (i + d) - hgt v i ≤ (d : Int) * b
  | 0, i, _ => by
    rw [Nat.add_zero, Int.sub_self, Int.natCast_zero, Int.zero_mul, Int.zero_mul]
    exact ⟨Int.le_refl _, Int.le_refl _⟩
  | d + 1, i, h => by
    have h1 := hgt_rng hv d i (by omega)
    have hy : v[i + d]? = some v[i + d] := List.getElem?_eq_getElem (by omega)
    have h2 := hgt_succ v (i + d) _ hy
    have h3 := hv _ (List.mem_of_getElem? hy)
    have x1 : ((d + 1 : Nat) : Int) * a = d * a + a := by rw [Int.natCast_add, Int.add_mul]; omega
    have x2 : ((d + 1 : Nat) : Int) * b = d * b + b := by rw [Int.natCast_add, Int.add_mul]; omega
    rw [show i + (d + 1) = i + d + 1 by omega, h2, x1, x2]
    omega
theorem truth_feas {t : Tb} {n : Nat} (hcn : t.c = n) (hT : TubeOk t.c t.t t.a t.b) {v : List Int} (hv : TrulyOk t n v) : Feas n (unrM n t) (hgt v) := by
  rw [unr_feas hcn hT]
  obtain ⟨h1, h2, h3⟩ := hv
  refine ⟨fun i j hi hj => ?_, by rw [h3, hgt_zero]; omega, by rw [h3, hgt_zero]; omega⟩
  rcases Nat.le_total i j with e | e
  · obtain ⟨d, rfl⟩ := Nat.exists_eq_add_of_le e
    have := hgt_rng h2 d i (by omega)
    rw [show ((i + d : Nat) : Int) - i = d by omega]
    omega
  · obtain ⟨d, rfl⟩ := Nat.exists_eq_add_of_le e
    have := hgt_rng h2 d j (by omega)
    rw [show (j : Int) - ((j + d : Nat) : Int) = -d by omega, Int.neg_mul, Int.neg_mul]
    omega
theorem right_feas {n : Nat} {r : Rd} {v : List Int} {c : Int} (hcn : c = n) (hr : RdOk2 c r) (h : RightV n r v) : RightC n r (hgt v) := by
  unfold RdOk2 at hr
  unfold RightV at h
  unfold RightC
  by_cases hg : r.g.toNat < n
  · rw [if_pos (by omega)] at h
    exact ⟨by omega, fun _ => by omega⟩
  · rw [if_neg (by omega)] at h
    exact ⟨by omega, fun e => absurd e hg⟩
/-- What is read of heights can be read. -/
theorem feas_read {t : Tb} {n : Nat} (hcn : t.c = n) (hT : TubeOk t.c t.t t.a t.b) {l : List Rd} (hl : ∀ r ∈ l, RdOk2 t.c r) {H : Nat → Int} (hF : Feas n (unrM n t) H) (hR : ∀ r ∈ l, RightC n r H) : ∃ M, readO t n l = some M := by
  rw [hcn] at hl
  cases e : readO t n l with
  | some M => exact ⟨M, rfl⟩
  | none => exact absurd ⟨hF, hR⟩ (readGo_none l [] _ hl (unr_ok hcn hT).2.2 e)
theorem read_feas {t : Tb} {n : Nat} (hcn : t.c = n) (hT : TubeOk t.c t.t t.a t.b) {l : List Rd} (hl : ∀ r ∈ l, RdOk2 t.c r) {M : Mx} (h : readO t n l = some M) {H : Nat → Int} : Feas n M H ↔ Feas n (unrM n t) H ∧ ∀ r ∈ l, RightC n r H := by
  rw [hcn] at hl
  exact readGo_feas l [] _ M hl (unr_ok hcn hT).2.2 (fun r hr => by cases hr) h
/-- In a truth of what was read. -/
theorem truth_read {t : Tb} {n : Nat} (hcn : t.c = n) (hT : TubeOk t.c t.t t.a t.b) {v : List Int} (hv : TrulyOk t n v) {l : List Rd} (hs : SeenOk t n v l) : ∃ M, readO t n l = some M ∧ Feas n M (hgt v) := by
  have hl : ∀ r ∈ l, RdOk2 t.c r := fun r hr => (hs r hr).1
  have hF := truth_feas hcn hT hv
  have hR : ∀ r ∈ l, RightC n r (hgt v) := fun r hr => right_feas hcn (hs r hr).1 (hs r hr).2
  obtain ⟨M, hM⟩ := feas_read hcn hT hl hF hR
  exact ⟨M, hM, (read_feas hcn hT hl hM).2 ⟨hF, hR⟩⟩
end Go.Hx

/- Walks of the plain machine: regions that draw, whose last drawn operation lays any number of blocks. -/
namespace Go.Hx
variable {lp : Nat → Option LFunc} {fl : Nat} {N : HAct → HS → Prop} {a : HAct} {h : Tr HBlk} {nx : Nat} {os : List LOper}
theorem newFrom_get {h' : Tr HBlk} : ∀ (k lo : Nat) (h : Tr HBlk) (b : Nat), (addAll h (newFrom h' lo k)).get b = if lo ≤ b ∧ b < lo + k ∧ h'.get b ≠ none then h'.get b else h.get b
  | 0, lo, h, b => by
    unfold newFrom addAll
    rw [if_neg (by omega)]
  | k + 1, lo, h, b => by
    unfold newFrom
    cases e : h'.get lo with
    | none =>
      dsimp only
      rw [newFrom_get k (lo + 1) h b]
      by_cases hb : b = lo
      · subst hb
        rw [if_neg (by omega), if_neg (fun x => x.2.2 e)]
      · by_cases hx : lo + 1 ≤ b ∧ b < lo + 1 + k ∧ h'.get b ≠ none
        · rw [if_pos hx, if_pos ⟨by omega, by omega, hx.2.2⟩]
        · rw [if_neg hx, if_neg (fun y => hx ⟨by omega, by omega, y.2.2⟩)]
    | some x =>
      dsimp only
      unfold addAll
      rw [newFrom_get k (lo + 1) (h.set lo (some x)) b]
      by_cases hb : b = lo
      · subst hb
        rw [if_neg (by omega), get_same, if_pos ⟨by omega, by omega, by rw [e]; simp⟩, e]
      · rw [get_other _ _ hb]
        by_cases hx : lo + 1 ≤ b ∧ b < lo + 1 + k ∧ h'.get b ≠ none
        · rw [if_pos hx, if_pos ⟨by omega, by omega, hx.2.2⟩]
        · rw [if_neg hx, if_neg (fun y => hx ⟨by omega, by omega, y.2.2⟩)]
/-- The last one of those that are drawn, which lays what it likes. -/
def DE (lp : Nat → Option LFunc) (fl : Nat) (os : List LOper) (N : HAct → HS → Prop) (h : Tr HBlk) (nx : Nat) : HAct → HS → Prop := fun a' σ' => Ext h nx σ'.h σ'.nx ∧ ∀ hm, Ext h nx hm σ'.nx → (∀ b, hm.get b = σ'.h.get b) → R lp fl os N a' ⟨hm, σ'.nx⟩
theorem d_lastE {s i : Nat} {o : LOper} (hi : Nat.beq (i + 1) s = true) (hr : R lp (max fl nx) [o] (DE lp fl os N h nx) a ⟨h, nx⟩) : DR lp fl s (o :: os) i N a h nx := by
  unfold DR
  intro hfl hd done hn
  obtain ⟨n, a', ⟨h', n'⟩, h1, he, hrest⟩ := hr
  dsimp only at he hrest
  have h1' : stepOp lp (exec lp n) (max fl nx) o a ⟨h, nx⟩ = some (a', ⟨h', n'⟩) := by
    unfold runOps at h1
    split at h1
    · rename_i e; rw [e]; exact h1
    · cases h1
  have hs := Nat.eq_of_beq_eq_true hi
  have hle := he.le
  have hdb := hd
  have heb := he.d
  unfold D at hdb heb
  have hb : Nat.ble nx n' = true := by rw [Nat.ble_eq]; exact hle
  have hlt : Nat.blt i s = true := by rw [Nat.blt_eq]; omega
  have key : ∃ done' hm, (bif Nat.beq nx n' then done else (i, newFrom h' nx (n' - nx)) :: done) = done' ∧ merge h none done' = hm ∧ Ext h nx hm n' ∧ ∀ b, hm.get b = h'.get b := by
    have hsame : ∀ b, (if nx ≤ b ∧ b < nx + (n' - nx) ∧ h'.get b ≠ none then h'.get b else h.get b) = h'.get b := fun b => by
      by_cases h1 : b < nx
      · rw [if_neg (by omega), he.same b h1]
      · by_cases h2 : b < n'
        · by_cases h3 : h'.get b = none
          · rw [if_neg (fun x => x.2.2 h3), h3]
            exact hdb b (by omega)
          · rw [if_pos ⟨by omega, by omega, h3⟩]
        · rw [if_neg (by omega), hdb b (by omega), heb b (by omega)]
    cases e : Nat.beq nx n' with
    | true =>
      have e' := Nat.eq_of_beq_eq_true e
      refine ⟨done, h, rfl, merge_nil hn _, Ext.nx hd hle, fun b => ?_⟩
      rw [← hsame b, if_neg (by omega)]
    | false =>
      refine ⟨_, addAll h (newFrom h' nx (n' - nx)), rfl, ?_, ⟨hle, by unfold D; intro b hb; rw [newFrom_get, hsame]; exact heb b hb, fun b hb => ?_⟩, fun b => ?_⟩
      · unfold merge
        simp only [cond_true]
        exact merge_nil hn _
      · rw [newFrom_get, hsame]; exact he.same b hb
      · rw [newFrom_get, hsame]
  obtain ⟨done', hm, e1, e2, e3, e4⟩ := key
  obtain ⟨m, a2, σ2, h2, h3⟩ := hrest hm e3 e4
  refine ⟨max n m, a2, σ2, ?_, h3⟩
  unfold drawOps
  rw [hlt, cond_true, merge_nil hn]
  rw [show Nat.max fl nx = max fl nx from rfl, stepOp_mon (exec_mon (Nat.le_max_left n m)) h1']
  simp only [hb, Bool.not_true, cond_false, e1]
  have rest : runOps lp (exec lp (max n m)) fl os a' ⟨hm, n'⟩ = some (a2, σ2) := runOps_mon (exec_mon (Nat.le_max_right n m)) h2
  cases os with
  | nil => unfold drawOps; rw [e2]; exact rest
  | cons o os =>
    unfold drawOps
    have : Nat.blt (i + 1) s = false := by cases e : Nat.blt (i + 1) s with | false => rfl | true => rw [Nat.blt_eq] at e; omega
    rw [this, cond_false, e2]
    exact rest
end Go.Hx

/- Walks of the plain machine: regions that draw, in which several operations lay blocks. -/
namespace Go.Hx
variable {lp : Nat → Option LFunc} {fl : Nat} {rd : Option Nat} {Q : HExit → HAct → HS → Prop} {N : HAct → HS → Prop} {a : HAct} {h0 h : Tr HBlk} {nx s i : Nat} {os : List LOper} {done : List (Nat × List (Nat × HBlk))}
/-- The rest of such a region. -/
def DG (lp : Nat → Option LFunc) (fl s : Nat) (h0 : Tr HBlk) (os : List LOper) (i : Nat) (done : List (Nat × List (Nat × HBlk))) (N : HAct → HS → Prop) (a : HAct) (nx : Nat) : Prop :=
  ∃ n a' σ', drawOps lp (exec lp n) fl s h0 os i done a nx = some (a', σ') ∧ N a' σ'
/-- Behind one operation. -/
def DN (lp : Nat → Option LFunc) (fl s : Nat) (h0 : Tr HBlk) (os : List LOper) (i : Nat) (done : List (Nat × List (Nat × HBlk))) (nx : Nat) (N : HAct → HS → Prop) : HAct → HS → Prop := fun a' σ' =>
  (σ'.nx = nx ∧ DG lp fl s h0 os (i + 1) done N a' nx) ∨ ∃ x, σ'.nx = nx + 1 ∧ σ'.h.get nx = some x ∧ DG lp fl s h0 os (i + 1) ((i, [(nx, x)]) :: done) N a' (nx + 1)
attribute [irreducible] DG DN
end Go.Hx

namespace Go.Hx
set_option linter.unusedSimpArgs false
set_option linter.unusedVariables false
set_option maxRecDepth 20000
set_option maxHeartbeats 4000000
attribute [local irreducible] W R C thenH inBlockH
end Go.Hx

namespace Go.Hx
set_option linter.unusedSimpArgs false
set_option linter.unusedVariables false
set_option maxRecDepth 20000
set_option maxHeartbeats 4000000
attribute [local irreducible] W R C thenH inBlockH
end Go.Hx

namespace Go.Hx
set_option linter.unusedSimpArgs false
set_option linter.unusedVariables false
set_option maxRecDepth 20000
set_option maxHeartbeats 4000000
attribute [local irreducible] W R C thenH inBlockH
theorem Row.of_get {α : Type} {enc : α → List HV} {sz : Nat} {h hm : Tr HBlk} {nx : Nat} {p : Option (Nat × Nat)} {l : List α} (hr : Row enc sz h nx p l) (hg : ∀ b, hm.get b = h.get b) : Row enc sz hm nx p l := fun hne => by
  obtain ⟨b, o, cs, k, h1, h2, h3, h4⟩ := hr hne
  exact ⟨b, o, cs, k, h1, h2, (hg b).trans h3, h4⟩
end Go.Hx

namespace Go.Hx
set_option linter.unusedSimpArgs false
set_option linter.unusedVariables false
set_option maxRecDepth 20000
set_option maxHeartbeats 4000000
attribute [local irreducible] W R C thenH inBlockH
end Go.Hx

/- Layer 1: bounds in memory of the call's own; places. -/
namespace Go.Hx
set_option linter.unusedSimpArgs false
set_option linter.unusedVariables false
set_option maxRecDepth 20000
set_option maxHeartbeats 4000000
attribute [local irreducible] W R C thenH inBlockH
/-- Heights that are read lie within the tube. -/
theorem read_bnd {t : Tb} {n : Nat} (hcn : t.c = n) (hT : TubeOk t.c t.t t.a t.b) {l : List Rd} (hl : ∀ r ∈ l, RdOk2 t.c r) {M : Mx} (h : readO t n l = some M) {i : Nat} (hi : i ≤ n) : 0 ≤ -(M i 0) ∧ -(M i 0) ≤ 2000 ∧ 0 ≤ M 0 i ∧ M 0 i ≤ 2000 := by
  have hG := readO_good hcn hT hl h
  have hTo := hT
  unfold TubeOk at hTo
  have f := ((unr_feas hcn hT).1 ((read_feas hcn hT hl h).1 (feas_lo hG)).1).1 i 0 hi (Nat.zero_le _)
  have d0 := hG.dg 0 (Nat.zero_le _)
  have u1 := hG.ub 0 i (Nat.zero_le _) hi
  have c1 := hG.cyc (i := 0) (j := i) (Nat.zero_le _) hi
  have m1 := Int.mul_nonneg (show (0 : Int) ≤ i by omega) (show 0 ≤ t.a by omega)
  have m2 := Int.mul_nonneg (show (0 : Int) ≤ i by omega) (show 0 ≤ t.b by omega)
  rw [show ((0 : Nat) : Int) - i = -i by omega, Int.neg_mul, Int.neg_mul] at f
  omega
end Go.Hx

/- Layer 1: the law of P1.7. -/
namespace Go.Hx
set_option linter.unusedSimpArgs false
set_option linter.unusedVariables false
set_option maxRecDepth 20000
set_option maxHeartbeats 4000000
attribute [local irreducible] W R C thenH inBlockH
end Go.Hx

/- Layer 1: the volumes of a truth that reaches an end. -/
namespace Go.Hx
set_option linter.unusedSimpArgs false
set_option linter.unusedVariables false
set_option maxRecDepth 20000
set_option maxHeartbeats 4000000
attribute [local irreducible] W R C thenH inBlockH
/-- Volumes by heights. -/
def VL (e : Nat → Int) (n : Nat) : List Int := (List.range n).map fun k => e (k + 1) - e k
theorem VL_len (e : Nat → Int) (n : Nat) : (VL e n).length = n := by simp [VL]
theorem VL_get (e : Nat → Int) {n k : Nat} (hk : k < n) : (VL e n)[k]? = some (e (k + 1) - e k) := by simp [VL, List.getElem?_range hk]
theorem VL_succ (e : Nat → Int) (n : Nat) : VL e (n + 1) = VL e n ++ [e (n + 1) - e n] := by simp [VL, List.range_succ]
theorem hgt_VL (e : Nat → Int) (n : Nat) : ∀ k, k ≤ n → hgt (VL e n) k = e k - e 0
  | 0, _ => by rw [hgt_zero]; omega
  | k + 1, h => by
    rw [hgt_succ _ k _ (VL_get e (show k < n by omega)), hgt_VL e n k (by omega)]
    omega
theorem VL_mem {e : Nat → Int} {n : Nat} {x : Int} (h : x ∈ VL e n) : ∃ k, k < n ∧ x = e (k + 1) - e k := by
  obtain ⟨k, hk, rfl⟩ := List.mem_map.1 h
  exact ⟨k, List.mem_range.1 hk, rfl⟩
theorem feas_truly {t : Tb} {n : Nat} (hcn : t.c = n) (hT : TubeOk t.c t.t t.a t.b) {e : Nat → Int} (hF : Feas n (unrM n t) e) : TrulyOk t n (VL e n) := by
  have hTo := hT
  unfold TubeOk at hTo
  obtain ⟨h1, h2, h3⟩ := (unr_feas hcn hT).1 hF
  refine ⟨VL_len e n, fun x hx => ?_, by rw [hgt_VL e n n (Nat.le_refl _)]; omega⟩
  obtain ⟨k, hk, rfl⟩ := VL_mem hx
  have a1 := h1 k (k + 1) (by omega) (by omega)
  have a2 := h1 (k + 1) k (by omega) (by omega)
  rw [show (((k + 1 : Nat) : Int) - (k : Int)) = 1 by omega, Int.one_mul, Int.one_mul] at a1
  rw [show ((k : Int) - ((k + 1 : Nat) : Int)) = -1 by omega, Int.neg_mul, Int.neg_mul, Int.one_mul, Int.one_mul] at a2
  omega
theorem feas_right {t : Tb} {n : Nat} (hcn : t.c = n) (hT : TubeOk t.c t.t t.a t.b) {e : Nat → Int} (hF : Feas n (unrM n t) e) {r : Rd} (hr : RdOk2 t.c r) (h : RightC n r e) : RightV n r (VL e n) := by
  have hTo := hT
  unfold TubeOk at hTo
  have ht := feas_truly hcn hT hF
  unfold RdOk2 at hr
  obtain ⟨h1, h2⟩ := h
  have g1 := hgt_VL e n r.g.toNat (by omega)
  have f1 := hgt_VL e n r.f.toNat (by omega)
  unfold RightV
  rw [g1, f1]
  by_cases hg : r.g.toNat < n
  · have g2 := hgt_VL e n (r.g.toNat + 1) (by omega)
    have h3 := h2 hg
    have h4 := ht.2.1 _ (List.mem_of_getElem? (VL_get e hg))
    rw [if_pos (by omega), g2]
    omega
  · rw [if_neg (by omega)]
    omega
/-- Heights that the readings allow are a truth. -/
theorem feas_all {t : Tb} {n : Nat} (hcn : t.c = n) (hT : TubeOk t.c t.t t.a t.b) {l : List Rd} (hl : ∀ r ∈ l, RdOk2 t.c r) {M : Mx} (h : readO t n l = some M) {e : Nat → Int} (hF : Feas n M e) : TrulyOk t n (VL e n) ∧ TruthV t.c t.t t.a t.b l (VL e n) := by
  obtain ⟨hU, hR⟩ := (read_feas hcn hT hl h).1 hF
  have ht := feas_truly hcn hT hU
  refine ⟨ht, by rw [ht.1, hcn], ht.2.1, fun r hr => ?_, by rw [ht.1]; exact ht.2.2⟩
  rw [ht.1]
  exact feas_right hcn hT hU (hl r hr) (hR r hr)
def endOf (high : Bool) (M : Mx) (k : Nat) : Int := if high then M 0 k else -(M k 0)
theorem endOf_feas {n : Nat} {M : Mx} (hG : Good n M) : ∀ high, Feas n M (endOf high M)
  | true => feas_hi hG
  | false => feas_lo hG
theorem endOf_zero {n : Nat} {M : Mx} (hG : Good n M) (high : Bool) : endOf high M 0 = 0 := by
  have := hG.dg 0 (Nat.zero_le _)
  cases high <;> unfold endOf <;> simp [this]
/- 76 -/
theorem loop76 {fl : Nat} {h0 : Tr HBlk} {n0 bb rb n F : Nat} {Q : HExit → HAct → HS → Prop} {t : Tb} {M : Mx} {e : Nat → Int} (hn : n ≤ 10) (htc : t.c = n) (hfl : fl ≤ rb) (hb1 : bb < n0) (hb3 : rb < n0) (hb4 : bb ≠ rb) (hgb : h0.get bb = some (.cells (bcells t M) .exact))
    (cE : ∀ fl h' n' k, k ≤ n → C LW fl F [.agg (bcells t M), i64 (k : Nat)] ⟨h', n'⟩ (Sc (· = i64 (e k)) ⟨h', n'⟩)) (hb : ∀ k, k ≤ n → -10000 ≤ e k ∧ e k ≤ 10000) :
    ∀ (m i : Nat) (a : HAct) (h : Tr HBlk) (nx : Nat), m + i = n → n0 ≤ nx → D h nx → (∀ b, b < n0 → b ≠ rb → h.get b = h0.get b) → h.get rb = some (.cells (FC ienc (VL e i) m) .exact) →
      a.nt = 32 → a.defers = [] → a.tmp 1 = .func F [] [] → a.tmp 2 = .ptr (some (bb, 0)) → a.tmp 5 = .slice (some (rb, 0)) i n → a.tmp 6 = i64 i →
      (∀ a' h' n', n0 ≤ n' → h'.get rb = some (.cells (FC ienc (VL e n) 0) .exact) → a'.nt = 32 → a'.defers = [] → a'.tmp 5 = .slice (some (rb, 0)) n n → Q .normal a' ⟨h', n'⟩) → W LW fl none (.loop L76w0) (inBlockH 0 Q) a ⟨h, nx⟩
  | 0, i, a, h, nx, hm, hnx, hd, hs, hgr, hnt, hds, h1, h2, h5, h6, hq => by
    have hi : i = n := by omega
    subst hi
    have ec : (bcells t M)[0 + 0 + 0]? = some (i64 i) := by rw [← htc]; rfl
    have hgb' : h.get bb = some (.cells (bcells t M) .exact) := by rw [hs _ hb1 hb4]; exact hgb
    refine w_it (show L76w0 = _ by unfold L76w0; exact rfl) ?_
    repeat' first
     | refine r_nil ?_
     | refine th_n ?_
     | refine th_e ?_
     | refine ib_e ?_
     | refine w_exit ?_
     | refine w_seq ?_
     | refine w_reg ?_
     | refine w_f (by simp (disch:=first|decide|(simp only[zF,zG,hnt, h1, h2, h5, h6];decide)) only [zA,zB,zC,zD,zE,zF,zG,zH,zI,zJ,zK,HV.cells,hnt, h1, h2, h5, h6]; first|done|exact rfl) ?_
     | refine r_move (by simp (disch:=first|decide|(simp only[zF,zG,hnt, h1, h2, h5, h6];decide)) only [zA,zB,zC,zD,zE,zF,zG,zH,zI,zJ,zK,HV.cells,hnt, h1, h2, h5, h6]; try exact rfl) ?_
     | refine r_fa (by simp (disch:=first|decide|(simp only[zF,zG,hnt, h1, h2, h5, h6];decide)) only [zA,zB,zC,zD,zE,zF,zG,zH,zI,zJ,zK,HV.cells,hnt, h1, h2, h5, h6]; try exact rfl) ?_
     | refine r_ld1 (by simp (disch:=first|decide|(simp only[zF,zG,hnt, h1, h2, h5, h6];decide)) only [zA,zB,zC,zD,zE,zF,zG,zH,zI,zJ,zK,HV.cells,hnt, h1, h2, h5, h6]; try exact rfl) (by first|assumption|(simp (disch:=omega) only [get_same,get_other,hnt, h1, h2, h5, h6]; first|done|exact rfl)) (by first|assumption|rfl|(simp only [zI,zJ,HV.cells,hnt, h1, h2, h5, h6]; exact rfl)) ?_
     | refine r_lss (by simp (disch:=first|decide|(simp only[zF,zG,hnt, h1, h2, h5, h6];decide)) only [zA,zB,zC,zD,zE,zF,zG,zH,zI,zJ,zK,HV.cells,hnt, h1, h2, h5, h6]; try exact rfl) (by simp (disch:=first|decide|(simp only[zF,zG,hnt, h1, h2, h5, h6];decide)) only [zA,zB,zC,zD,zE,zF,zG,zH,zI,zJ,zK,HV.cells,hnt, h1, h2, h5, h6]; try exact rfl) (fun hc => ?_) (fun hc => ?_) <;> (try (exfalso; omega))
     | fail
    refine hq _ _ _ hnx hgr ?_ ?_ ?_
    all_goals first|(simp only [zL,zM,zF,zG,hnt, hds, h5];done)|(simp (disch:=first|decide|(simp only[zF,zG,hnt, hds, h5];decide)) only [zA,zB,zC,zD,zE,zF,zG,zH,zI,zJ,zK,HV.cells,hnt, hds, h5];first|done|exact rfl)|assumption
  | m + 1, i, a, h, nx, hm, hnx, hd, hs, hgr, hnt, hds, h1, h2, h5, h6, hq => by
    have hi : i < n := by omega
    have ec : (bcells t M)[0 + 0 + 0]? = some (i64 n) := by rw [← htc]; rfl
    have tkb := take_bc t M
    have hgb' : h.get bb = some (.cells (bcells t M) .exact) := by rw [hs _ hb1 hb4]; exact hgb
    have ei : (i : Int) + 1 = ((i + 1 : Nat) : Int) := rfl
    have b1 := hb i (by omega)
    have b2 := hb (i + 1) (by omega)
    have fi2 : fillH (repl 1 [i64 0]) [(0, 1, i64 (e (i + 1) - e i))] = some (ienc (e (i + 1) - e i)) := rfl
    refine w_it (show L76w0 = _ by unfold L76w0; exact rfl) ?_
    repeat' first
     | refine r_nil ?_
     | refine th_n ?_
     | refine w_seq ?_
     | refine w_reg ?_
     | refine w_skip ?_
     | refine w_block ?_
     | refine w_t (by simp (disch:=first|decide|(simp only[zF,zG,hnt, h1, h2, h5, h6, ei, fi2];decide)) only [zA,zB,zC,zD,zE,zF,zG,zH,zI,zJ,zK,HV.cells,hnt, h1, h2, h5, h6, ei, fi2]; first|done|exact rfl) ?_
     | refine r_move (by simp (disch:=first|decide|(simp only[zF,zG,hnt, h1, h2, h5, h6, ei, fi2];decide)) only [zA,zB,zC,zD,zE,zF,zG,zH,zI,zJ,zK,HV.cells,hnt, h1, h2, h5, h6, ei, fi2]; try exact rfl) ?_
     | refine r_fa (by simp (disch:=first|decide|(simp only[zF,zG,hnt, h1, h2, h5, h6, ei, fi2];decide)) only [zA,zB,zC,zD,zE,zF,zG,zH,zI,zJ,zK,HV.cells,hnt, h1, h2, h5, h6, ei, fi2]; try exact rfl) ?_
     | refine r_ld1 (by simp (disch:=first|decide|(simp only[zF,zG,hnt, h1, h2, h5, h6, ei, fi2];decide)) only [zA,zB,zC,zD,zE,zF,zG,zH,zI,zJ,zK,HV.cells,hnt, h1, h2, h5, h6, ei, fi2]; try exact rfl) (by first|assumption|(simp (disch:=omega) only [get_same,get_other,hnt, h1, h2, h5, h6, ei, fi2]; first|done|exact rfl)) (by first|assumption|rfl|(simp only [zI,zJ,HV.cells,hnt, h1, h2, h5, h6, ei, fi2]; exact rfl)) ?_
     | refine r_ldn (by simp (disch:=first|decide|(simp only[zF,zG,hnt, h1, h2, h5, h6, ei, fi2];decide)) only [zA,zB,zC,zD,zE,zF,zG,zH,zI,zJ,zK,HV.cells,hnt, h1, h2, h5, h6, ei, fi2]; try exact rfl) (by first|assumption|(simp (disch:=omega) only [get_same,get_other,hnt, h1, h2, h5, h6, ei, fi2]; first|done|exact rfl)) (by first|assumption|rfl|(simp only [zI,zJ,HV.cells,hnt, h1, h2, h5, h6, ei, fi2]; exact rfl)) ?_
     | refine r_add (by simp (disch:=first|decide|(simp only[zF,zG,hnt, h1, h2, h5, h6, ei, fi2];decide)) only [zA,zB,zC,zD,zE,zF,zG,zH,zI,zJ,zK,HV.cells,hnt, h1, h2, h5, h6, ei, fi2]; try exact rfl) (by simp (disch:=first|decide|(simp only[zF,zG,hnt, h1, h2, h5, h6, ei, fi2];decide)) only [zA,zB,zC,zD,zE,zF,zG,zH,zI,zJ,zK,HV.cells,hnt, h1, h2, h5, h6, ei, fi2]; try exact rfl) (by omega) (by omega) ?_
     | refine r_sub (by simp (disch:=first|decide|(simp only[zF,zG,hnt, h1, h2, h5, h6, ei, fi2];decide)) only [zA,zB,zC,zD,zE,zF,zG,zH,zI,zJ,zK,HV.cells,hnt, h1, h2, h5, h6, ei, fi2]; try exact rfl) (by simp (disch:=first|decide|(simp only[zF,zG,hnt, h1, h2, h5, h6, ei, fi2];decide)) only [zA,zB,zC,zD,zE,zF,zG,zH,zI,zJ,zK,HV.cells,hnt, h1, h2, h5, h6, ei, fi2]; try exact rfl) (by omega) (by omega) ?_
     | refine r_lss (by simp (disch:=first|decide|(simp only[zF,zG,hnt, h1, h2, h5, h6, ei, fi2];decide)) only [zA,zB,zC,zD,zE,zF,zG,zH,zI,zJ,zK,HV.cells,hnt, h1, h2, h5, h6, ei, fi2]; try exact rfl) (by simp (disch:=first|decide|(simp only[zF,zG,hnt, h1, h2, h5, h6, ei, fi2];decide)) only [zA,zB,zC,zD,zE,zF,zG,zH,zI,zJ,zK,HV.cells,hnt, h1, h2, h5, h6, ei, fi2]; try exact rfl) (fun hc => ?_) (fun hc => ?_) <;> (try (exfalso; omega))
     | refine r_bs (by simp (disch:=first|decide|(simp only[zF,zG,hnt, h1, h2, h5, h6, ei, fi2];decide)) only [evParts,List.map_cons,List.map_nil,List.nil_append,List.cons_append,List.append_nil,zA,zB,zC,zD,zE,zF,zG,zH,zI,zJ,zK,HV.cells,hnt, h1, h2, h5, h6, ei, fi2]; try exact rfl) ?_
     | refine r_calls (by simp (disch:=first|decide|(simp only[zF,zG,hnt, h1, h2, h5, h6, ei, fi2];decide)) only [zA,zB,zC,zD,zE,zF,zG,zH,zI,zJ,zK,HV.cells,hnt, h1, h2, h5, h6, ei, fi2]; try exact rfl) (by simp (disch:=first|decide|(simp only[zF,zG,hnt, h1, h2, h5, h6, ei, fi2];decide)) only [List.map_cons,List.map_nil,List.nil_append,List.cons_append,List.append_nil,zA,zB,zC,zD,zE,zF,zG,zH,zI,zJ,zK,HV.cells,hnt, h1, h2, h5, h6, ei, fi2]; try exact rfl) (cE _ _ _ _ (by omega)) (fun n' hn' => ?_)
     | refine w_draw (by omega) (by repeat' first|assumption|refine D.upd ?_ (by omega)|exact D.mono (by assumption) (by omega)) ?_
     | refine d_rest rfl ?_
     | refine d_one rfl ?_
     | refine d_next (by omega) ?_
     | fail
    have hfc := FC_ow (enc := ienc) (sz := 1) (fun _ => rfl) (VL e i) (e (i + 1) - e i) m
    rw [VL_len, ← VL_succ] at hfc
    have ha := app_in (fl := fl) (size := 1) (bytes := 8) (nx := n' + 1) (h := h.set n' (some (.cells (ienc (e (i + 1) - e i)) .exact))) (bx := n') (ox := 0) (cx := 1) (n := 1) (b := rb) (o := 0) (k := i) (z := n) (row := ienc (e (i + 1) - e i)) (k2 := .exact) (get_same _ _ _) rfl (by rw [get_other _ _ (by omega)]; exact hgr) True.intro (by omega) rfl (by simp) (by omega) (by rw [Nat.add_comm m 1]; exact hfc)
    refine r_app (by simp (disch:=first|decide|(simp only[zF,zG,hnt, h5];decide)) only [zA,zB,zC,zD,zE,zF,zG,zH,zI,zJ,zK,HV.cells,hnt, h5]; try exact rfl) (by simp (disch:=first|decide|(simp only[zF,zG,hnt];decide)) only [zA,zB,zC,zD,zE,zF,zG,zH,zI,zJ,zK,HV.cells,hnt]; try exact rfl) ha ?_
    repeat' first
     | refine r_nil ?_
     | refine th_n ?_
     | refine ib_n ?_
     | refine w_reg ?_
     | refine r_move (by simp (disch:=first|decide|(simp only[zF,zG,hnt, h1, h2, h6];decide)) only [zA,zB,zC,zD,zE,zF,zG,zH,zI,zJ,zK,HV.cells,hnt, h1, h2, h6]; try exact rfl) ?_
     | refine r_add (by simp (disch:=first|decide|(simp only[zF,zG,hnt, h1, h2, h6];decide)) only [zA,zB,zC,zD,zE,zF,zG,zH,zI,zJ,zK,HV.cells,hnt, h1, h2, h6]; try exact rfl) (by simp (disch:=first|decide|(simp only[zF,zG,hnt, h1, h2, h6];decide)) only [zA,zB,zC,zD,zE,zF,zG,zH,zI,zJ,zK,HV.cells,hnt, h1, h2, h6]; try exact rfl) (by omega) (by omega) ?_
     | fail
    refine loop76 hn htc hfl hb1 hb3 hb4 hgb cE hb m (i + 1) _ _ _ (by omega) (by omega) (by repeat' first|assumption|refine D.upd ?_ (by omega)|exact D.mono (by assumption) (by omega)) (fun b hb hne => ?_) (get_same _ _ _) ?_ ?_ ?_ ?_ ?_ ?_ hq
    all_goals try first|(simp only [zL,zM,zF,zG,hnt, hds, h1, h2, h6];done)|(simp (disch:=first|decide|(simp only[zF,zG,hnt, hds, h1, h2, h6];decide)) only [zA,zB,zC,zD,zE,zF,zG,zH,zI,zJ,zK,HV.cells,hnt, hds, h1, h2, h6];first|done|exact rfl)|assumption
    rw [get_other _ _ hne, get_other _ _ (by omega)]; exact hs b hb hne
theorem c_volumesAt {fl : Nat} {h : Tr HBlk} {nx : Nat} (hd : D h nx) {t : Tb} {n F : Nat} {M : Mx} {e : Nat → Int} (hn : n ≤ 10) (htc : t.c = n) (cE : ∀ fl h' n' k, k ≤ n → C LW fl F [.agg (bcells t M), i64 (k : Nat)] ⟨h', n'⟩ (Sc (· = i64 (e k)) ⟨h', n'⟩)) (hb : ∀ k, k ≤ n → -10000 ≤ e k ∧ e k ≤ 10000) :
    C LW fl 76 [.agg (bcells t M), .func F [] []] ⟨h, nx⟩ (ScL ienc 1 (VL e n) ⟨h, nx⟩) := by
  have ec : (bcells t M)[0 + 0 + 0]? = some (i64 n) := by rw [← htc]; rfl
  refine c_in lw76 rfl rfl rfl ?_
  dsimp only [L76]
  repeat' first
   | refine r_nil ?_
   | refine th_n ?_
   | refine w_seq ?_
   | refine w_reg ?_
   | refine r_move (by simp (disch:=first|decide|(simp only[zF,zG];decide)) only [zA,zB,zC,zD,zE,zF,zG,zH,zI,zJ,zK,HV.cells]; try exact rfl) ?_
   | refine r_fa (by simp (disch:=first|decide|(simp only[zF,zG];decide)) only [zA,zB,zC,zD,zE,zF,zG,zH,zI,zJ,zK,HV.cells]; try exact rfl) ?_
   | refine r_ld1 (by simp (disch:=first|decide|(simp only[zF,zG];decide)) only [zA,zB,zC,zD,zE,zF,zG,zH,zI,zJ,zK,HV.cells]; try exact rfl) (by first|assumption|(simp (disch:=omega) only [get_same,get_other]; first|done|exact rfl)) (by first|assumption|rfl|(simp only [zI,zJ,HV.cells]; exact rfl)) ?_
   | refine r_box (by simp (disch:=first|decide|(simp only[zF,zG];decide)) only [zA,zB,zC,zD,zE,zF,zG,zH,zI,zJ,zK,HV.cells]; try exact rfl) ?_
   | fail
  refine r_ms (ln := 0) (cn := n) (by simp (disch:=first|decide|(simp only[zF,zG];decide)) only [zA,zB,zC,zD,zE,zF,zG,zH,zI,zJ,zK,HV.cells]; try exact rfl) (by simp (disch:=first|decide|(simp only[zF,zG];decide)) only [zA,zB,zC,zD,zE,zF,zG,zH,zI,zJ,zK,HV.cells]; try exact rfl) (by omega) (by omega) (by omega) ?_
  rw [repl_one, show List.replicate n (i64 0) = FC ienc (VL e 0) n from rfl]
  repeat' first
   | refine r_nil ?_
   | refine th_n ?_
   | refine w_seq ?_
   | refine w_reg ?_
   | refine w_block ?_
   | refine r_move (by simp (disch:=first|decide|(simp only[zF,zG];decide)) only [zA,zB,zC,zD,zE,zF,zG,zH,zI,zJ,zK,HV.cells]; try exact rfl) ?_
   | fail
  refine loop76 (bb := nx) (rb := nx + 1) (n0 := nx + 1 + 1) (F := F) hn htc (by omega) (by omega) (by omega) (by omega) (by first|assumption|(simp (disch:=omega) only [get_same,get_other]; first|done|exact rfl)) cE hb n 0 _ _ (nx + 1 + 1) (by omega) (Nat.le_refl _) (by repeat' first|assumption|refine D.upd ?_ (by omega)|exact D.mono (by assumption) (by omega)) (fun b _ _ => rfl) (by first|assumption|(simp (disch:=omega) only [get_same,get_other]; first|done|exact rfl)) ?_ ?_ ?_ ?_ ?_ ?_ (fun a' h' n2 g0 g1 g2 g3 g4 => ?_)
  all_goals try first|(simp only [zL,zM,zF,zG];done)|(simp (disch:=first|decide|(simp only[zF,zG];decide)) only [zA,zB,zC,zD,zE,zF,zG,zH,zI,zJ,zK,HV.cells];first|done|exact rfl)|assumption
  repeat' first
   | refine r_nil ?_
   | refine th_n ?_
   | refine w_seq ?_
   | refine w_reg ?_
   | refine w_ret ?_
   | refine r_move (by simp (disch:=first|decide|(simp only[zF,zG,g2, g4];decide)) only [zA,zB,zC,zD,zE,zF,zG,zH,zI,zJ,zK,HV.cells,g2, g4]; try exact rfl) ?_
   | fail
  refine fin_r (by simp only [zL, g3]) (by simp (disch:=first|decide|(simp only[zF,zG,g2, g4];decide)) only [zA,zB,zC,zD,zE,zF,zG,zH,zI,zJ,zK,HV.cells,g2, g4]; try exact rfl) ?_
  have := scl_blk (enc := ienc) (sz := 1) (c := n) (l := VL e n) (rest := []) (k := .exact) (nx := n2) (h := h') (fun _ => rfl) (fun _ => rfl) rfl hd (show nx ≤ nx + 1 by omega) (by omega) (by rw [g1]; rfl)
  rwa [VL_len] at this
/-- What 'Shows' hands back. -/
def ShowsK (t : Tb) (n : Nat) (l : List Rd) (mark : Int) (high : Bool) (σ : HS) : HV → HS → Prop := fun v σ' =>
  (∃ M, errOf t.c t.t t.a t.b l = 0 ∧ (0 ≤ mark ∧ mark ≤ t.c) ∧ readO t n l = some M ∧ ∃ p c h' n', v = .tuple [.slice p n c, i64 0] ∧ σ' = ⟨h', n'⟩ ∧ Ext σ.h σ.nx h' n' ∧ Row ienc 1 h' n' p (VL (endOf high M) n)) ∨
  (errOf t.c t.t t.a t.b l = 0 ∧ (0 ≤ mark ∧ mark ≤ t.c) ∧ readO t n l = none ∧ Sc (· = .tuple [.slice none 0 0, i64 9]) σ v σ') ∨
  (errOf t.c t.t t.a t.b l = 0 ∧ ¬ (0 ≤ mark ∧ mark ≤ t.c) ∧ Sc (· = .tuple [.slice none 0 0, i64 2]) σ v σ') ∨
  (errOf t.c t.t t.a t.b l ≠ 0 ∧ Sc (· = .tuple [.slice none 0 0, i64 (errOf t.c t.t t.a t.b l)]) σ v σ')
/- 36 -/
theorem c_Shows {fl : Nat} {h : Tr HBlk} {nx : Nat} (hd : D h nx) {t : Tb} {n : Nat} {p : Option (Nat × Nat)} {l : List Rd} {m cp : Nat} {mark : Int} {high : Bool} (htc : TubeOk t.c t.t t.a t.b → t.c = n) (hm : m = l.length) (hlen : l.length < 1000000) (hrow : Row Rd.enc 4 h nx p l) :
    C LW fl 36 [.agg t.cells, .slice p m cp, i64 mark, .bool high] ⟨h, nx⟩ (ShowsK t n l mark high ⟨h, nx⟩) := by
  subst hm
  have tk : takeN 4 (t.cells.drop 0) = some t.cells := rfl
  have ec : t.cells[0 + 0]? = some (i64 t.c) := rfl
  have owz : overwrite (Zr 125) 0 (HV.agg (Zr 125)).cells = some (Zr 125) := ow_all _ _ rfl
  have cF : ∀ ok fl h' n', Ext h nx h' n' → C LW fl 72 [.agg t.cells, .slice p l.length cp, .bool ok] ⟨h', n'⟩ (Sc (· = forO t n l ok) ⟨h', n'⟩) := fun ok fl h' n' e => c_readFor e.d htc rfl hlen (hrow.ext e)
  refine c_in lw36 rfl rfl rfl ?_
  dsimp only [L36]
  by_cases hE : errOf t.c t.t t.a t.b l = 0
  · obtain ⟨hT, hL, hR⟩ := errOf_zero hE
    by_cases hmk : 0 ≤ mark ∧ mark ≤ t.c
    · cases hO : readO t n l with
      | none =>
        have cF1 : ∀ fl h' n', Ext h nx h' n' → C LW fl 72 [.agg t.cells, .slice p l.length cp, .bool true] ⟨h', n'⟩ (Sc (· = .tuple [.agg (Zr 125), i64 9]) ⟨h', n'⟩) := fun fl h' n' e => by have := cF true fl h' n' e; unfold forO at this; rw [if_pos hE, if_pos rfl, hO] at this; exact this
        repeat' first
         | refine r_nil ?_
         | refine th_n ?_
         | refine th_r ?_
         | refine w_seq ?_
         | refine w_reg ?_
         | refine w_ret ?_
         | refine w_t (by simp (disch:=first|decide|(simp only[zF,zG];decide)) only [zA,zB,zC,zD,zE,zF,zG,zH,zI,zJ,zK,HV.cells]; first|done|exact rfl) ?_
         | refine r_take (by simp (disch:=first|decide|(simp only[zF,zG];decide)) only [zA,zB,zC,zD,zE,zF,zG,zH,zI,zJ,zK,HV.cells]; first|done|exact rfl) ?_
         | refine r_move (by simp (disch:=first|decide|(simp only[zF,zG];decide)) only [zA,zB,zC,zD,zE,zF,zG,zH,zI,zJ,zK,HV.cells]; try exact rfl) ?_
         | refine r_fa (by simp (disch:=first|decide|(simp only[zF,zG];decide)) only [zA,zB,zC,zD,zE,zF,zG,zH,zI,zJ,zK,HV.cells]; try exact rfl) ?_
         | refine r_ld1 (by simp (disch:=first|decide|(simp only[zF,zG];decide)) only [zA,zB,zC,zD,zE,zF,zG,zH,zI,zJ,zK,HV.cells]; try exact rfl) (by first|assumption|(simp (disch:=omega) only [get_same,get_other]; first|done|exact rfl)) (by first|assumption|rfl|(simp only [zI,zJ,HV.cells]; exact rfl)) ?_
         | refine r_ldn (by simp (disch:=first|decide|(simp only[zF,zG];decide)) only [zA,zB,zC,zD,zE,zF,zG,zH,zI,zJ,zK,HV.cells]; try exact rfl) (by first|assumption|(simp (disch:=omega) only [get_same,get_other]; first|done|exact rfl)) (by first|assumption|rfl|(simp only [zI,zJ,HV.cells]; exact rfl)) ?_
         | refine r_box (by simp (disch:=first|decide|(simp only[zF,zG];decide)) only [zA,zB,zC,zD,zE,zF,zG,zH,zI,zJ,zK,HV.cells]; try exact rfl) ?_
         | refine r_alloc ?_
         | refine r_st (cs' := _) (by simp (disch:=first|decide|(simp only[zF,zG];decide)) only [zA,zB,zC,zD,zE,zF,zG,zH,zI,zJ,zK,HV.cells]; try exact rfl) (by simp (disch:=first|decide|(simp only[zF,zG];decide)) only [zA,zB,zC,zD,zE,zF,zG,zH,zI,zJ,zK,HV.cells]; try exact rfl) (by first|assumption|(simp (disch:=omega) only [get_same,get_other]; first|done|exact rfl)) (by exact True.intro) (by rfl) (by rfl) (by first|assumption|rfl|(simp only [zI,zJ,HV.cells]; exact rfl)) (by omega) ?_
         | refine r_leq (by simp (disch:=first|decide|(simp only[zF,zG];decide)) only [zA,zB,zC,zD,zE,zF,zG,zH,zI,zJ,zK,HV.cells]; try exact rfl) (by simp (disch:=first|decide|(simp only[zF,zG];decide)) only [zA,zB,zC,zD,zE,zF,zG,zH,zI,zJ,zK,HV.cells]; try exact rfl) (fun hc => ?_) (fun hc => ?_) <;> (try (exfalso; omega))
         | refine r_ne (by simp (disch:=first|decide|(simp only[zF,zG];decide)) only [zA,zB,zC,zD,zE,zF,zG,zH,zI,zJ,zK,HV.cells]; try exact rfl) (by simp (disch:=first|decide|(simp only[zF,zG];decide)) only [zA,zB,zC,zD,zE,zF,zG,zH,zI,zJ,zK,HV.cells]; try exact rfl) (fun hc => ?_) (fun hc => ?_) <;> (try (exfalso; omega))
         | refine r_pt (by simp (disch:=first|decide|(simp only[zF,zG];decide)) only [zA,zB,zC,zD,zE,zF,zG,zH,zI,zJ,zK,HV.cells]; first|done|exact rfl) (by simp (disch:=first|decide|(simp only[zF,zG];decide)) only [zA,zB,zC,zD,zE,zF,zG,zH,zI,zJ,zK,HV.cells]; try exact rfl) ?_
         | refine r_ext (by simp (disch:=first|decide|(simp only[zF,zG];decide)) only [zA,zB,zC,zD,zE,zF,zG,zH,zI,zJ,zK,HV.cells]; try exact rfl) (by first|assumption|rfl|(simp only [zI,zJ,HV.cells]; exact rfl)) ?_
         | refine r_calls (by simp (disch:=first|decide|(simp only[zF,zG];decide)) only [zA,zB,zC,zD,zE,zF,zG,zH,zI,zJ,zK,HV.cells]; try exact rfl) (by simp (disch:=first|decide|(simp only[zF,zG];decide)) only [List.map_cons,List.map_nil,List.nil_append,List.cons_append,List.append_nil,zA,zB,zC,zD,zE,zF,zG,zH,zI,zJ,zK,HV.cells]; try exact rfl) (cF1 _ _ _ (by repeat' first|assumption|refine Ext.put ?_ (by omega) (by omega)|exact Ext.up (by assumption) (by omega)|exact Ext.nx (by assumption) (by omega))) (fun n' hn' => ?_)
         | fail
        refine fin_m (by simp only [zL,zM]) (res_t (by simp (disch:=first|decide|(simp only[zF,zG];decide)) only [zA,zB,zC,zD,zE,zF,zG,zH,zI,zJ,zK,HV.cells]; try exact rfl) (res_t (by simp (disch:=first|decide|(simp only[zF,zG];decide)) only [zA,zB,zC,zD,zE,zF,zG,zH,zI,zJ,zK,HV.cells]; try exact rfl) res_nil)) (.inr (.inl ⟨hE, hmk, hO, sc_flat rfl (by dsimp only; omega) rfl⟩))
      | some M =>
        have hG := readO_good (htc hT) hT hR hO
        have hTo := hT
        unfold TubeOk at hTo
        have hcn := htc hT
        have tkb := take_bc t M
        have owb := ow_bc t M
        have bd : ∀ high k, k ≤ n → -10000 ≤ endOf high M k ∧ endOf high M k ≤ 10000 := fun high k hk => by
          have := read_bnd hcn hT hR hO hk
          cases high <;> unfold endOf <;> simp only [if_true, if_false, Bool.false_eq_true] <;> omega
        have cF1 : ∀ fl h' n', Ext h nx h' n' → C LW fl 72 [.agg t.cells, .slice p l.length cp, .bool true] ⟨h', n'⟩ (Sc (· = .tuple [.agg (bcells t M), i64 0]) ⟨h', n'⟩) := fun fl h' n' e => by have := cF true fl h' n' e; unfold forO at this; rw [if_pos hE, if_pos rfl, hO] at this; exact this
        have hn10 : n ≤ 10 := by omega
        cases high with
        | true =>
          repeat' first
           | refine r_nil ?_
           | refine th_n ?_
           | refine w_seq ?_
           | refine w_reg ?_
           | refine w_skip ?_
           | refine w_t (by simp (disch:=first|decide|(simp only[zF,zG];decide)) only [zA,zB,zC,zD,zE,zF,zG,zH,zI,zJ,zK,HV.cells]; first|done|exact rfl) ?_
           | refine w_f (by simp (disch:=first|decide|(simp only[zF,zG];decide)) only [zA,zB,zC,zD,zE,zF,zG,zH,zI,zJ,zK,HV.cells]; first|done|exact rfl) ?_
           | refine r_take (by simp (disch:=first|decide|(simp only[zF,zG];decide)) only [zA,zB,zC,zD,zE,zF,zG,zH,zI,zJ,zK,HV.cells]; first|done|exact rfl) ?_
           | refine r_move (by simp (disch:=first|decide|(simp only[zF,zG];decide)) only [zA,zB,zC,zD,zE,zF,zG,zH,zI,zJ,zK,HV.cells]; try exact rfl) ?_
           | refine r_fa (by simp (disch:=first|decide|(simp only[zF,zG];decide)) only [zA,zB,zC,zD,zE,zF,zG,zH,zI,zJ,zK,HV.cells]; try exact rfl) ?_
           | refine r_ld1 (by simp (disch:=first|decide|(simp only[zF,zG];decide)) only [zA,zB,zC,zD,zE,zF,zG,zH,zI,zJ,zK,HV.cells]; try exact rfl) (by first|assumption|(simp (disch:=omega) only [get_same,get_other]; first|done|exact rfl)) (by first|assumption|rfl|(simp only [zI,zJ,HV.cells]; exact rfl)) ?_
           | refine r_ldn (by simp (disch:=first|decide|(simp only[zF,zG];decide)) only [zA,zB,zC,zD,zE,zF,zG,zH,zI,zJ,zK,HV.cells]; try exact rfl) (by first|assumption|(simp (disch:=omega) only [get_same,get_other]; first|done|exact rfl)) (by first|assumption|rfl|(simp only [zI,zJ,HV.cells]; exact rfl)) ?_
           | refine r_box (by simp (disch:=first|decide|(simp only[zF,zG];decide)) only [zA,zB,zC,zD,zE,zF,zG,zH,zI,zJ,zK,HV.cells]; try exact rfl) ?_
           | refine r_alloc ?_
           | refine r_st (cs' := _) (by simp (disch:=first|decide|(simp only[zF,zG];decide)) only [zA,zB,zC,zD,zE,zF,zG,zH,zI,zJ,zK,HV.cells]; try exact rfl) (by simp (disch:=first|decide|(simp only[zF,zG];decide)) only [zA,zB,zC,zD,zE,zF,zG,zH,zI,zJ,zK,HV.cells]; try exact rfl) (by first|assumption|(simp (disch:=omega) only [get_same,get_other]; first|done|exact rfl)) (by exact True.intro) (by rfl) (by rfl) (by first|assumption|rfl|(simp only [zI,zJ,HV.cells]; exact rfl)) (by omega) ?_
           | refine r_leq (by simp (disch:=first|decide|(simp only[zF,zG];decide)) only [zA,zB,zC,zD,zE,zF,zG,zH,zI,zJ,zK,HV.cells]; try exact rfl) (by simp (disch:=first|decide|(simp only[zF,zG];decide)) only [zA,zB,zC,zD,zE,zF,zG,zH,zI,zJ,zK,HV.cells]; try exact rfl) (fun hc => ?_) (fun hc => ?_) <;> (try (exfalso; omega))
           | refine r_ne (by simp (disch:=first|decide|(simp only[zF,zG];decide)) only [zA,zB,zC,zD,zE,zF,zG,zH,zI,zJ,zK,HV.cells]; try exact rfl) (by simp (disch:=first|decide|(simp only[zF,zG];decide)) only [zA,zB,zC,zD,zE,zF,zG,zH,zI,zJ,zK,HV.cells]; try exact rfl) (fun hc => ?_) (fun hc => ?_) <;> (try (exfalso; omega))
           | refine r_pt (by simp (disch:=first|decide|(simp only[zF,zG];decide)) only [zA,zB,zC,zD,zE,zF,zG,zH,zI,zJ,zK,HV.cells]; first|done|exact rfl) (by simp (disch:=first|decide|(simp only[zF,zG];decide)) only [zA,zB,zC,zD,zE,zF,zG,zH,zI,zJ,zK,HV.cells]; try exact rfl) ?_
           | refine r_ext (by simp (disch:=first|decide|(simp only[zF,zG];decide)) only [zA,zB,zC,zD,zE,zF,zG,zH,zI,zJ,zK,HV.cells]; try exact rfl) (by first|assumption|rfl|(simp only [zI,zJ,HV.cells]; exact rfl)) ?_
           | refine r_fld1 (by simp (disch:=first|decide|(simp only[zF,zG];decide)) only [zA,zB,zC,zD,zE,zF,zG,zH,zI,zJ,zK,HV.cells]; try exact rfl) (by first|assumption|rfl|(simp only [zI,zJ,HV.cells]; exact rfl)) ?_
           | refine r_calls (by simp (disch:=first|decide|(simp only[zF,zG];decide)) only [zA,zB,zC,zD,zE,zF,zG,zH,zI,zJ,zK,HV.cells]; try exact rfl) (by simp (disch:=first|decide|(simp only[zF,zG];decide)) only [List.map_cons,List.map_nil,List.nil_append,List.cons_append,List.append_nil,zA,zB,zC,zD,zE,zF,zG,zH,zI,zJ,zK,HV.cells]; try exact rfl) (cF1 _ _ _ (by repeat' first|assumption|refine Ext.put ?_ (by omega) (by omega)|exact Ext.up (by assumption) (by omega)|exact Ext.nx (by assumption) (by omega))) (fun n' hn' => ?_)
           | refine r_calls (by simp (disch:=first|decide|(simp only[zF,zG];decide)) only [zA,zB,zC,zD,zE,zF,zG,zH,zI,zJ,zK,HV.cells]; try exact rfl) (by simp (disch:=first|decide|(simp only[zF,zG];decide)) only [List.map_cons,List.map_nil,List.nil_append,List.cons_append,List.append_nil,zA,zB,zC,zD,zE,zF,zG,zH,zI,zJ,zK,HV.cells]; try exact rfl) c_bothEnds (fun n' hn' => ?_)
           | refine w_draw (by omega) (by repeat' first|assumption|refine D.upd ?_ (by omega)|exact D.mono (by assumption) (by omega)) ?_
           | refine d_rest rfl ?_
           | refine d_one rfl ?_
           | refine d_next (by omega) ?_
           | fail
          refine r_callc (by simp (disch:=first|decide|(simp only[zF,zG];decide)) only [zA,zB,zC,zD,zE,zF,zG,zH,zI,zJ,zK,HV.cells]; try exact rfl) (by simp (disch:=first|decide|(simp only[zF,zG];decide)) only [List.map_cons,List.map_nil,List.nil_append,List.cons_append,List.append_nil,zA,zB,zC,zD,zE,zF,zG,zH,zI,zJ,zK,HV.cells]; try exact rfl) (c_volumesAt (M := M) (F := 91) (e := endOf true M) (by repeat' first|assumption|refine D.upd ?_ (by omega)|exact D.mono (by assumption) (by omega)) hn10 hcn (fun fl h' n' k hk => c_highest hn10 hk) (bd true)) ?_
          rintro w σ' ⟨p2, c2, h2, n2, rfl, rfl, e2, hr2⟩
          dsimp only at e2
          have hle := e2.le
          have e3 : Ext h nx h2 n2 := Ext.trans (by repeat' first|assumption|refine Ext.put ?_ (by omega) (by omega)|exact Ext.up (by assumption) (by omega)|exact Ext.nx (by assumption) (by omega)) e2
          rw [VL_len]
          repeat' first
           | refine r_nil ?_
           | refine th_n ?_
           | refine th_r ?_
           | refine w_ret ?_
           | refine r_move (by simp (disch:=first|decide|(simp only[zF,zG];decide)) only [zA,zB,zC,zD,zE,zF,zG,zH,zI,zJ,zK,HV.cells]; try exact rfl) ?_
           | fail
          obtain ⟨h3, g1, g2, g3⟩ := gc_tup (n := n) (c := c2) (rest := [i64 0]) hd e3 hr2
          refine fin_m (by simp only [zL,zM]) (res_t (by simp (disch:=first|decide|(simp only[zF,zG];decide)) only [zA,zB,zC,zD,zE,zF,zG,zH,zI,zJ,zK,HV.cells]; try exact rfl) (res_t (by simp (disch:=first|decide|(simp only[zF,zG];decide)) only [zA,zB,zC,zD,zE,zF,zG,zH,zI,zJ,zK,HV.cells]; try exact rfl) res_nil)) (.inl ⟨M, hE, hmk, hO, p2, c2, h3, n2, rfl, g1, g2, g3⟩)
        | false =>
          repeat' first
           | refine r_nil ?_
           | refine th_n ?_
           | refine w_seq ?_
           | refine w_reg ?_
           | refine w_skip ?_
           | refine w_f (by simp (disch:=first|decide|(simp only[zF,zG];decide)) only [zA,zB,zC,zD,zE,zF,zG,zH,zI,zJ,zK,HV.cells]; first|done|exact rfl) ?_
           | refine r_take (by simp (disch:=first|decide|(simp only[zF,zG];decide)) only [zA,zB,zC,zD,zE,zF,zG,zH,zI,zJ,zK,HV.cells]; first|done|exact rfl) ?_
           | refine r_move (by simp (disch:=first|decide|(simp only[zF,zG];decide)) only [zA,zB,zC,zD,zE,zF,zG,zH,zI,zJ,zK,HV.cells]; try exact rfl) ?_
           | refine r_fa (by simp (disch:=first|decide|(simp only[zF,zG];decide)) only [zA,zB,zC,zD,zE,zF,zG,zH,zI,zJ,zK,HV.cells]; try exact rfl) ?_
           | refine r_ld1 (by simp (disch:=first|decide|(simp only[zF,zG];decide)) only [zA,zB,zC,zD,zE,zF,zG,zH,zI,zJ,zK,HV.cells]; try exact rfl) (by first|assumption|(simp (disch:=omega) only [get_same,get_other]; first|done|exact rfl)) (by first|assumption|rfl|(simp only [zI,zJ,HV.cells]; exact rfl)) ?_
           | refine r_ldn (by simp (disch:=first|decide|(simp only[zF,zG];decide)) only [zA,zB,zC,zD,zE,zF,zG,zH,zI,zJ,zK,HV.cells]; try exact rfl) (by first|assumption|(simp (disch:=omega) only [get_same,get_other]; first|done|exact rfl)) (by first|assumption|rfl|(simp only [zI,zJ,HV.cells]; exact rfl)) ?_
           | refine r_box (by simp (disch:=first|decide|(simp only[zF,zG];decide)) only [zA,zB,zC,zD,zE,zF,zG,zH,zI,zJ,zK,HV.cells]; try exact rfl) ?_
           | refine r_alloc ?_
           | refine r_st (cs' := _) (by simp (disch:=first|decide|(simp only[zF,zG];decide)) only [zA,zB,zC,zD,zE,zF,zG,zH,zI,zJ,zK,HV.cells]; try exact rfl) (by simp (disch:=first|decide|(simp only[zF,zG];decide)) only [zA,zB,zC,zD,zE,zF,zG,zH,zI,zJ,zK,HV.cells]; try exact rfl) (by first|assumption|(simp (disch:=omega) only [get_same,get_other]; first|done|exact rfl)) (by exact True.intro) (by rfl) (by rfl) (by first|assumption|rfl|(simp only [zI,zJ,HV.cells]; exact rfl)) (by omega) ?_
           | refine r_leq (by simp (disch:=first|decide|(simp only[zF,zG];decide)) only [zA,zB,zC,zD,zE,zF,zG,zH,zI,zJ,zK,HV.cells]; try exact rfl) (by simp (disch:=first|decide|(simp only[zF,zG];decide)) only [zA,zB,zC,zD,zE,zF,zG,zH,zI,zJ,zK,HV.cells]; try exact rfl) (fun hc => ?_) (fun hc => ?_) <;> (try (exfalso; omega))
           | refine r_ne (by simp (disch:=first|decide|(simp only[zF,zG];decide)) only [zA,zB,zC,zD,zE,zF,zG,zH,zI,zJ,zK,HV.cells]; try exact rfl) (by simp (disch:=first|decide|(simp only[zF,zG];decide)) only [zA,zB,zC,zD,zE,zF,zG,zH,zI,zJ,zK,HV.cells]; try exact rfl) (fun hc => ?_) (fun hc => ?_) <;> (try (exfalso; omega))
           | refine r_pt (by simp (disch:=first|decide|(simp only[zF,zG];decide)) only [zA,zB,zC,zD,zE,zF,zG,zH,zI,zJ,zK,HV.cells]; first|done|exact rfl) (by simp (disch:=first|decide|(simp only[zF,zG];decide)) only [zA,zB,zC,zD,zE,zF,zG,zH,zI,zJ,zK,HV.cells]; try exact rfl) ?_
           | refine r_ext (by simp (disch:=first|decide|(simp only[zF,zG];decide)) only [zA,zB,zC,zD,zE,zF,zG,zH,zI,zJ,zK,HV.cells]; try exact rfl) (by first|assumption|rfl|(simp only [zI,zJ,HV.cells]; exact rfl)) ?_
           | refine r_fld1 (by simp (disch:=first|decide|(simp only[zF,zG];decide)) only [zA,zB,zC,zD,zE,zF,zG,zH,zI,zJ,zK,HV.cells]; try exact rfl) (by first|assumption|rfl|(simp only [zI,zJ,HV.cells]; exact rfl)) ?_
           | refine r_calls (by simp (disch:=first|decide|(simp only[zF,zG];decide)) only [zA,zB,zC,zD,zE,zF,zG,zH,zI,zJ,zK,HV.cells]; try exact rfl) (by simp (disch:=first|decide|(simp only[zF,zG];decide)) only [List.map_cons,List.map_nil,List.nil_append,List.cons_append,List.append_nil,zA,zB,zC,zD,zE,zF,zG,zH,zI,zJ,zK,HV.cells]; try exact rfl) (cF1 _ _ _ (by repeat' first|assumption|refine Ext.put ?_ (by omega) (by omega)|exact Ext.up (by assumption) (by omega)|exact Ext.nx (by assumption) (by omega))) (fun n' hn' => ?_)
           | refine r_calls (by simp (disch:=first|decide|(simp only[zF,zG];decide)) only [zA,zB,zC,zD,zE,zF,zG,zH,zI,zJ,zK,HV.cells]; try exact rfl) (by simp (disch:=first|decide|(simp only[zF,zG];decide)) only [List.map_cons,List.map_nil,List.nil_append,List.cons_append,List.append_nil,zA,zB,zC,zD,zE,zF,zG,zH,zI,zJ,zK,HV.cells]; try exact rfl) c_bothEnds (fun n' hn' => ?_)
           | refine w_draw (by omega) (by repeat' first|assumption|refine D.upd ?_ (by omega)|exact D.mono (by assumption) (by omega)) ?_
           | refine d_rest rfl ?_
           | refine d_one rfl ?_
           | refine d_next (by omega) ?_
           | fail
          refine r_callc (by simp (disch:=first|decide|(simp only[zF,zG];decide)) only [zA,zB,zC,zD,zE,zF,zG,zH,zI,zJ,zK,HV.cells]; try exact rfl) (by simp (disch:=first|decide|(simp only[zF,zG];decide)) only [List.map_cons,List.map_nil,List.nil_append,List.cons_append,List.append_nil,zA,zB,zC,zD,zE,zF,zG,zH,zI,zJ,zK,HV.cells]; try exact rfl) (c_volumesAt (M := M) (F := 90) (e := endOf false M) (by repeat' first|assumption|refine D.upd ?_ (by omega)|exact D.mono (by assumption) (by omega)) hn10 hcn (fun fl h' n' k hk => c_lowest hG hn10 hk) (bd false)) ?_
          rintro w σ' ⟨p2, c2, h2, n2, rfl, rfl, e2, hr2⟩
          dsimp only at e2
          have hle := e2.le
          have e3 : Ext h nx h2 n2 := Ext.trans (by repeat' first|assumption|refine Ext.put ?_ (by omega) (by omega)|exact Ext.up (by assumption) (by omega)|exact Ext.nx (by assumption) (by omega)) e2
          rw [VL_len]
          repeat' first
           | refine r_nil ?_
           | refine th_n ?_
           | refine w_ret ?_
           | refine r_move (by simp (disch:=first|decide|(simp only[zF,zG];decide)) only [zA,zB,zC,zD,zE,zF,zG,zH,zI,zJ,zK,HV.cells]; try exact rfl) ?_
           | fail
          obtain ⟨h3, g1, g2, g3⟩ := gc_tup (n := n) (c := c2) (rest := [i64 0]) hd e3 hr2
          refine fin_m (by simp only [zL,zM]) (res_t (by simp (disch:=first|decide|(simp only[zF,zG];decide)) only [zA,zB,zC,zD,zE,zF,zG,zH,zI,zJ,zK,HV.cells]; try exact rfl) (res_t (by simp (disch:=first|decide|(simp only[zF,zG];decide)) only [zA,zB,zC,zD,zE,zF,zG,zH,zI,zJ,zK,HV.cells]; try exact rfl) res_nil)) (.inl ⟨M, hE, hmk, hO, p2, c2, h3, n2, rfl, g1, g2, g3⟩)
    · have cF1 : ∀ fl h' n', Ext h nx h' n' → C LW fl 72 [.agg t.cells, .slice p l.length cp, .bool false] ⟨h', n'⟩ (Sc (· = .tuple [.agg (Zr 125), i64 2]) ⟨h', n'⟩) := fun fl h' n' e => by have := cF false fl h' n' e; unfold forO at this; rw [if_pos hE, if_neg (by decide)] at this; exact this
      repeat' first
       | refine r_nil ?_
       | refine th_n ?_
       | refine th_r ?_
       | refine w_seq ?_
       | refine w_reg ?_
       | refine w_ret ?_
       | refine w_t (by simp (disch:=first|decide|(simp only[zF,zG];decide)) only [zA,zB,zC,zD,zE,zF,zG,zH,zI,zJ,zK,HV.cells]; first|done|exact rfl) ?_
       | refine r_take (by simp (disch:=first|decide|(simp only[zF,zG];decide)) only [zA,zB,zC,zD,zE,zF,zG,zH,zI,zJ,zK,HV.cells]; first|done|exact rfl) ?_
       | refine r_drop (by simp (disch:=first|decide|(simp only[zF,zG,Bool.not_true,Bool.not_false];decide)) only [zA,zB,zC,zD,zE,zF,zG,zH,zI,zJ,zK,HV.cells,Bool.not_true,Bool.not_false]; first|done|exact rfl) ?_
       | refine r_move (by simp (disch:=first|decide|(simp only[zF,zG];decide)) only [zA,zB,zC,zD,zE,zF,zG,zH,zI,zJ,zK,HV.cells]; try exact rfl) ?_
       | refine r_fa (by simp (disch:=first|decide|(simp only[zF,zG];decide)) only [zA,zB,zC,zD,zE,zF,zG,zH,zI,zJ,zK,HV.cells]; try exact rfl) ?_
       | refine r_ld1 (by simp (disch:=first|decide|(simp only[zF,zG];decide)) only [zA,zB,zC,zD,zE,zF,zG,zH,zI,zJ,zK,HV.cells]; try exact rfl) (by first|assumption|(simp (disch:=omega) only [get_same,get_other]; first|done|exact rfl)) (by first|assumption|rfl|(simp only [zI,zJ,HV.cells]; exact rfl)) ?_
       | refine r_ldn (by simp (disch:=first|decide|(simp only[zF,zG];decide)) only [zA,zB,zC,zD,zE,zF,zG,zH,zI,zJ,zK,HV.cells]; try exact rfl) (by first|assumption|(simp (disch:=omega) only [get_same,get_other]; first|done|exact rfl)) (by first|assumption|rfl|(simp only [zI,zJ,HV.cells]; exact rfl)) ?_
       | refine r_box (by simp (disch:=first|decide|(simp only[zF,zG];decide)) only [zA,zB,zC,zD,zE,zF,zG,zH,zI,zJ,zK,HV.cells]; try exact rfl) ?_
       | refine r_alloc ?_
       | refine r_st (cs' := _) (by simp (disch:=first|decide|(simp only[zF,zG];decide)) only [zA,zB,zC,zD,zE,zF,zG,zH,zI,zJ,zK,HV.cells]; try exact rfl) (by simp (disch:=first|decide|(simp only[zF,zG];decide)) only [zA,zB,zC,zD,zE,zF,zG,zH,zI,zJ,zK,HV.cells]; try exact rfl) (by first|assumption|(simp (disch:=omega) only [get_same,get_other]; first|done|exact rfl)) (by exact True.intro) (by rfl) (by rfl) (by first|assumption|rfl|(simp only [zI,zJ,HV.cells]; exact rfl)) (by omega) ?_
       | refine r_leq (by simp (disch:=first|decide|(simp only[zF,zG];decide)) only [zA,zB,zC,zD,zE,zF,zG,zH,zI,zJ,zK,HV.cells]; try exact rfl) (by simp (disch:=first|decide|(simp only[zF,zG];decide)) only [zA,zB,zC,zD,zE,zF,zG,zH,zI,zJ,zK,HV.cells]; try exact rfl) (fun hc => ?_) (fun hc => ?_) <;> (try (exfalso; omega))
       | refine r_ne (by simp (disch:=first|decide|(simp only[zF,zG];decide)) only [zA,zB,zC,zD,zE,zF,zG,zH,zI,zJ,zK,HV.cells]; try exact rfl) (by simp (disch:=first|decide|(simp only[zF,zG];decide)) only [zA,zB,zC,zD,zE,zF,zG,zH,zI,zJ,zK,HV.cells]; try exact rfl) (fun hc => ?_) (fun hc => ?_) <;> (try (exfalso; omega))
       | refine r_pt (by simp (disch:=first|decide|(simp only[zF,zG];decide)) only [zA,zB,zC,zD,zE,zF,zG,zH,zI,zJ,zK,HV.cells]; first|done|exact rfl) (by simp (disch:=first|decide|(simp only[zF,zG];decide)) only [zA,zB,zC,zD,zE,zF,zG,zH,zI,zJ,zK,HV.cells]; try exact rfl) ?_
       | refine r_pf (by simp (disch:=first|decide|(simp only[zF,zG];decide)) only [zA,zB,zC,zD,zE,zF,zG,zH,zI,zJ,zK,HV.cells]; first|done|exact rfl) (by simp (disch:=first|decide|(simp only[zF,zG];decide)) only [zA,zB,zC,zD,zE,zF,zG,zH,zI,zJ,zK,HV.cells]; try exact rfl) ?_
       | refine r_ext (by simp (disch:=first|decide|(simp only[zF,zG];decide)) only [zA,zB,zC,zD,zE,zF,zG,zH,zI,zJ,zK,HV.cells]; try exact rfl) (by first|assumption|rfl|(simp only [zI,zJ,HV.cells]; exact rfl)) ?_
       | refine r_calls (by simp (disch:=first|decide|(simp only[zF,zG];decide)) only [zA,zB,zC,zD,zE,zF,zG,zH,zI,zJ,zK,HV.cells]; try exact rfl) (by simp (disch:=first|decide|(simp only[zF,zG];decide)) only [List.map_cons,List.map_nil,List.nil_append,List.cons_append,List.append_nil,zA,zB,zC,zD,zE,zF,zG,zH,zI,zJ,zK,HV.cells]; try exact rfl) (cF1 _ _ _ (by repeat' first|assumption|refine Ext.put ?_ (by omega) (by omega)|exact Ext.up (by assumption) (by omega)|exact Ext.nx (by assumption) (by omega))) (fun n' hn' => ?_)
       | fail
      all_goals refine fin_m (by simp only [zL,zM]) (res_t (by simp (disch:=first|decide|(simp only[zF,zG];decide)) only [zA,zB,zC,zD,zE,zF,zG,zH,zI,zJ,zK,HV.cells]; try exact rfl) (res_t (by simp (disch:=first|decide|(simp only[zF,zG];decide)) only [zA,zB,zC,zD,zE,zF,zG,zH,zI,zJ,zK,HV.cells]; try exact rfl) res_nil)) (.inr (.inr (.inl ⟨hE, hmk, sc_flat rfl (by dsimp only; omega) rfl⟩)))
  · have cF1 : ∀ ok fl h' n', Ext h nx h' n' → C LW fl 72 [.agg t.cells, .slice p l.length cp, .bool ok] ⟨h', n'⟩ (Sc (· = .tuple [.agg (Zr 125), i64 (errOf t.c t.t t.a t.b l)]) ⟨h', n'⟩) := fun ok fl h' n' e => by have := cF ok fl h' n' e; unfold forO at this; rw [if_neg hE] at this; exact this
    repeat' first
     | refine r_nil ?_
     | refine th_n ?_
     | refine th_r ?_
     | refine w_seq ?_
     | refine w_reg ?_
     | refine w_ret ?_
     | refine w_t (by simp (disch:=first|decide|(simp only[zF,zG];decide)) only [zA,zB,zC,zD,zE,zF,zG,zH,zI,zJ,zK,HV.cells]; first|done|exact rfl) ?_
     | refine r_take (by simp (disch:=first|decide|(simp only[zF,zG];decide)) only [zA,zB,zC,zD,zE,zF,zG,zH,zI,zJ,zK,HV.cells]; first|done|exact rfl) ?_
     | refine r_drop (by simp (disch:=first|decide|(simp only[zF,zG,Bool.not_true,Bool.not_false];decide)) only [zA,zB,zC,zD,zE,zF,zG,zH,zI,zJ,zK,HV.cells,Bool.not_true,Bool.not_false]; first|done|exact rfl) ?_
     | refine r_move (by simp (disch:=first|decide|(simp only[zF,zG];decide)) only [zA,zB,zC,zD,zE,zF,zG,zH,zI,zJ,zK,HV.cells]; try exact rfl) ?_
     | refine r_fa (by simp (disch:=first|decide|(simp only[zF,zG];decide)) only [zA,zB,zC,zD,zE,zF,zG,zH,zI,zJ,zK,HV.cells]; try exact rfl) ?_
     | refine r_ld1 (by simp (disch:=first|decide|(simp only[zF,zG];decide)) only [zA,zB,zC,zD,zE,zF,zG,zH,zI,zJ,zK,HV.cells]; try exact rfl) (by first|assumption|(simp (disch:=omega) only [get_same,get_other]; first|done|exact rfl)) (by first|assumption|rfl|(simp only [zI,zJ,HV.cells]; exact rfl)) ?_
     | refine r_ldn (by simp (disch:=first|decide|(simp only[zF,zG];decide)) only [zA,zB,zC,zD,zE,zF,zG,zH,zI,zJ,zK,HV.cells]; try exact rfl) (by first|assumption|(simp (disch:=omega) only [get_same,get_other]; first|done|exact rfl)) (by first|assumption|rfl|(simp only [zI,zJ,HV.cells]; exact rfl)) ?_
     | refine r_box (by simp (disch:=first|decide|(simp only[zF,zG];decide)) only [zA,zB,zC,zD,zE,zF,zG,zH,zI,zJ,zK,HV.cells]; try exact rfl) ?_
     | refine r_alloc ?_
     | refine r_st (cs' := _) (by simp (disch:=first|decide|(simp only[zF,zG];decide)) only [zA,zB,zC,zD,zE,zF,zG,zH,zI,zJ,zK,HV.cells]; try exact rfl) (by simp (disch:=first|decide|(simp only[zF,zG];decide)) only [zA,zB,zC,zD,zE,zF,zG,zH,zI,zJ,zK,HV.cells]; try exact rfl) (by first|assumption|(simp (disch:=omega) only [get_same,get_other]; first|done|exact rfl)) (by exact True.intro) (by rfl) (by rfl) (by first|assumption|rfl|(simp only [zI,zJ,HV.cells]; exact rfl)) (by omega) ?_
     | refine r_leq (by simp (disch:=first|decide|(simp only[zF,zG];decide)) only [zA,zB,zC,zD,zE,zF,zG,zH,zI,zJ,zK,HV.cells]; try exact rfl) (by simp (disch:=first|decide|(simp only[zF,zG];decide)) only [zA,zB,zC,zD,zE,zF,zG,zH,zI,zJ,zK,HV.cells]; try exact rfl) (fun hc => ?_) (fun hc => ?_) <;> (try (exfalso; omega))
     | refine r_ne (by simp (disch:=first|decide|(simp only[zF,zG];decide)) only [zA,zB,zC,zD,zE,zF,zG,zH,zI,zJ,zK,HV.cells]; try exact rfl) (by simp (disch:=first|decide|(simp only[zF,zG];decide)) only [zA,zB,zC,zD,zE,zF,zG,zH,zI,zJ,zK,HV.cells]; try exact rfl) (fun hc => ?_) (fun hc => ?_) <;> (try (exfalso; omega))
     | refine r_pt (by simp (disch:=first|decide|(simp only[zF,zG];decide)) only [zA,zB,zC,zD,zE,zF,zG,zH,zI,zJ,zK,HV.cells]; first|done|exact rfl) (by simp (disch:=first|decide|(simp only[zF,zG];decide)) only [zA,zB,zC,zD,zE,zF,zG,zH,zI,zJ,zK,HV.cells]; try exact rfl) ?_
     | refine r_pf (by simp (disch:=first|decide|(simp only[zF,zG];decide)) only [zA,zB,zC,zD,zE,zF,zG,zH,zI,zJ,zK,HV.cells]; first|done|exact rfl) (by simp (disch:=first|decide|(simp only[zF,zG];decide)) only [zA,zB,zC,zD,zE,zF,zG,zH,zI,zJ,zK,HV.cells]; try exact rfl) ?_
     | refine r_ext (by simp (disch:=first|decide|(simp only[zF,zG];decide)) only [zA,zB,zC,zD,zE,zF,zG,zH,zI,zJ,zK,HV.cells]; try exact rfl) (by first|assumption|rfl|(simp only [zI,zJ,HV.cells]; exact rfl)) ?_
     | refine r_calls (by simp (disch:=first|decide|(simp only[zF,zG];decide)) only [zA,zB,zC,zD,zE,zF,zG,zH,zI,zJ,zK,HV.cells]; try exact rfl) (by simp (disch:=first|decide|(simp only[zF,zG];decide)) only [List.map_cons,List.map_nil,List.nil_append,List.cons_append,List.append_nil,zA,zB,zC,zD,zE,zF,zG,zH,zI,zJ,zK,HV.cells]; try exact rfl) (cF1 _ _ _ _ (by repeat' first|assumption|refine Ext.put ?_ (by omega) (by omega)|exact Ext.up (by assumption) (by omega)|exact Ext.nx (by assumption) (by omega))) (fun n' hn' => ?_)
     | fail
    all_goals refine fin_m (by simp only [zL,zM]) (res_t (by simp (disch:=first|decide|(simp only[zF,zG];decide)) only [zA,zB,zC,zD,zE,zF,zG,zH,zI,zJ,zK,HV.cells]; try exact rfl) (res_t (by simp (disch:=first|decide|(simp only[zF,zG];decide)) only [zA,zB,zC,zD,zE,zF,zG,zH,zI,zJ,zK,HV.cells]; try exact rfl) res_nil)) (.inr (.inr (.inr ⟨hE, sc_flat rfl (by dsimp only; omega) rfl⟩)))
end Go.Hx

/- Layer 1: the law of P1.8. -/
namespace Go.Hx
set_option linter.unusedSimpArgs false
set_option linter.unusedVariables false
set_option maxRecDepth 20000
set_option maxHeartbeats 4000000
attribute [local irreducible] W R C thenH inBlockH
/- 11 -/
theorem loop11 {fl : Nat} {h0 : Tr HBlk} {n0 tb n : Nat} {Q : HExit → HAct → HS → Prop} {p4 p8 : Option (Nat × Nat)} {c4 c8 : Nat} {l : List Rd} {t : Tb} {M : Mx} (hcn : t.c = n) (hT : TubeOk t.c t.t t.a t.b) (hl : ∀ r ∈ l, RdOk2 t.c r) (hl12 : l.length ≤ 12) (hO : readO t n l = some M) (htb : tb < n0) (htg : h0.get tb = some (.cells t.cells .exact)) (hrl : Row Rd.enc 4 h0 n0 p4 l) (hrh : Row renc 2 h0 n0 p8 (BL M (n + 1))) (hfl : fl ≤ n0) :
    ∀ (m i : Nat) (a : HAct) (h : Tr HBlk) (nx : Nat), m + i = n + 1 → Ext h0 n0 h nx → a.nt = 110 → a.defers = [] → a.tmp 3 = .ptr (some (tb, 0)) → a.tmp 7 = .slice p4 l.length c4 → a.tmp 8 = .slice p8 (n + 1) c8 → a.tmp 10 = i64 i →
      (∀ a' h' n', Ext h0 n0 h' n' → a'.nt = 110 → a'.defers = [] → Q .normal a' ⟨h', n'⟩) → W LW fl none (.loop L11w0) (inBlockH 0 Q) a ⟨h, nx⟩
  | 0, i, a, h, nx, hm, he, hnt, hds, h3, h7, h8, h10, hq => by
    have hd := he.d
    have hle := he.le
    have ec : t.cells[0 + 0]? = some (i64 t.c) := rfl
    have hg : h.get tb = some (.cells t.cells .exact) := by rw [he.same _ htb]; exact htg
    refine w_it (show L11w0 = _ by unfold L11w0; exact rfl) ?_
    repeat' first
     | refine r_nil ?_
     | refine th_n ?_
     | refine th_e ?_
     | refine ib_e ?_
     | refine w_exit ?_
     | refine w_seq ?_
     | refine w_reg ?_
     | refine w_f (by simp (disch:=first|decide|(simp only[zF,zG,hnt, h3, h7, h8, h10];decide)) only [zA,zB,zC,zD,zE,zF,zG,zH,zI,zJ,zK,HV.cells,hnt, h3, h7, h8, h10]; first|done|exact rfl) ?_
     | refine r_move (by simp (disch:=first|decide|(simp only[zF,zG,hnt, h3, h7, h8, h10];decide)) only [zA,zB,zC,zD,zE,zF,zG,zH,zI,zJ,zK,HV.cells,hnt, h3, h7, h8, h10]; try exact rfl) ?_
     | refine r_fa (by simp (disch:=first|decide|(simp only[zF,zG,hnt, h3, h7, h8, h10];decide)) only [zA,zB,zC,zD,zE,zF,zG,zH,zI,zJ,zK,HV.cells,hnt, h3, h7, h8, h10]; try exact rfl) ?_
     | refine r_ld1 (by simp (disch:=first|decide|(simp only[zF,zG,hnt, h3, h7, h8, h10];decide)) only [zA,zB,zC,zD,zE,zF,zG,zH,zI,zJ,zK,HV.cells,hnt, h3, h7, h8, h10]; try exact rfl) (by first|assumption|(simp (disch:=omega) only [get_same,get_other,hnt, h3, h7, h8, h10]; first|done|exact rfl)) (by first|assumption|rfl|(simp only [zI,zJ,HV.cells,hnt, h3, h7, h8, h10]; exact rfl)) ?_
     | refine r_leq (by simp (disch:=first|decide|(simp only[zF,zG,hnt, h3, h7, h8, h10];decide)) only [zA,zB,zC,zD,zE,zF,zG,zH,zI,zJ,zK,HV.cells,hnt, h3, h7, h8, h10]; try exact rfl) (by simp (disch:=first|decide|(simp only[zF,zG,hnt, h3, h7, h8, h10];decide)) only [zA,zB,zC,zD,zE,zF,zG,zH,zI,zJ,zK,HV.cells,hnt, h3, h7, h8, h10]; try exact rfl) (fun hc => ?_) (fun hc => ?_) <;> (try (exfalso; omega))
     | fail
    refine hq _ _ _ he ?_ ?_
    all_goals first|(simp only [zL,zM,zF,zG,hnt, hds];done)|(simp (disch:=first|decide|(simp only[zF,zG,hnt, hds];decide)) only [zA,zB,zC,zD,zE,zF,zG,zH,zI,zJ,zK,HV.cells,hnt, hds];first|done|exact rfl)|assumption
  | m + 1, i, a, h, nx, hm, he, hnt, hds, h3, h7, h8, h10, hq => by
    have hi : i ≤ n := by omega
    have hd := he.d
    have hle := he.le
    have hTo := hT
    unfold TubeOk at hTo
    have tk : takeN 4 (t.cells.drop 0) = some t.cells := rfl
    have ec : t.cells[0 + 0]? = some (i64 t.c) := rfl
    have hg : h.get tb = some (.cells t.cells .exact) := by rw [he.same _ htb]; exact htg
    have hE : errOf t.c t.t t.a t.b l = 0 := by unfold errOf; rw [if_pos hT, if_pos hl12, if_pos hl]
    have hG := readO_good hcn hT hl hO
    have cT : ∀ fl h' n', D h' n' → C LW fl 21 [.agg t.cells] ⟨h', n'⟩ (Sc (· = .agg t.cells) ⟨h', n'⟩) := fun fl h' n' e => c_Tube e
    have sh : ∀ (high : Bool) (h1 h2 : Tr HBlk) (n1 : Nat) (v : HV) (σ : HS), ShowsK t n l (i : Int) high ⟨h1, n1⟩ v σ → ∃ p c h' n', v = .tuple [.slice p n c, i64 0] ∧ σ = ⟨h', n'⟩ ∧ Ext h1 n1 h' n' ∧ Row ienc 1 h' n' p (VL (endOf high M) n) := fun high h1 h2 n1 v σ hK => by
      rcases hK with ⟨M', _, _, hM', p, c, h8, n8, rfl, rfl, e8, hr8⟩ | ⟨_, _, hM', _⟩ | ⟨_, hM', _⟩ | ⟨hM', _⟩
      · rw [hO] at hM'; cases hM'; exact ⟨p, c, h8, n8, rfl, rfl, e8, hr8⟩
      · rw [hO] at hM'; cases hM'
      · exact absurd ⟨Int.natCast_nonneg i, by omega⟩ hM'
      · exact absurd hE hM'
    refine w_it (show L11w0 = _ by unfold L11w0; exact rfl) ?_
    repeat' first
     | refine r_nil ?_
     | refine th_n ?_
     | refine w_seq ?_
     | refine w_reg ?_
     | refine w_skip ?_
     | refine w_block ?_
     | refine w_t (by simp (disch:=first|decide|(simp only[zF,zG,hnt, h3, h7, h8, h10];decide)) only [zA,zB,zC,zD,zE,zF,zG,zH,zI,zJ,zK,HV.cells,hnt, h3, h7, h8, h10]; first|done|exact rfl) ?_
     | refine r_move (by simp (disch:=first|decide|(simp only[zF,zG,hnt, h3, h7, h8, h10];decide)) only [zA,zB,zC,zD,zE,zF,zG,zH,zI,zJ,zK,HV.cells,hnt, h3, h7, h8, h10]; try exact rfl) ?_
     | refine r_fa (by simp (disch:=first|decide|(simp only[zF,zG,hnt, h3, h7, h8, h10];decide)) only [zA,zB,zC,zD,zE,zF,zG,zH,zI,zJ,zK,HV.cells,hnt, h3, h7, h8, h10]; try exact rfl) ?_
     | refine r_ld1 (by simp (disch:=first|decide|(simp only[zF,zG,hnt, h3, h7, h8, h10];decide)) only [zA,zB,zC,zD,zE,zF,zG,zH,zI,zJ,zK,HV.cells,hnt, h3, h7, h8, h10]; try exact rfl) (by first|assumption|(simp (disch:=omega) only [get_same,get_other,hnt, h3, h7, h8, h10]; first|done|exact rfl)) (by first|assumption|rfl|(simp only [zI,zJ,HV.cells,hnt, h3, h7, h8, h10]; exact rfl)) ?_
     | refine r_ldn (by simp (disch:=first|decide|(simp only[zF,zG,hnt, h3, h7, h8, h10];decide)) only [zA,zB,zC,zD,zE,zF,zG,zH,zI,zJ,zK,HV.cells,hnt, h3, h7, h8, h10]; try exact rfl) (by first|assumption|(simp (disch:=omega) only [get_same,get_other,hnt, h3, h7, h8, h10]; first|done|exact rfl)) (by first|assumption|rfl|(simp only [zI,zJ,HV.cells,hnt, h3, h7, h8, h10]; exact rfl)) ?_
     | refine r_leq (by simp (disch:=first|decide|(simp only[zF,zG,hnt, h3, h7, h8, h10];decide)) only [zA,zB,zC,zD,zE,zF,zG,zH,zI,zJ,zK,HV.cells,hnt, h3, h7, h8, h10]; try exact rfl) (by simp (disch:=first|decide|(simp only[zF,zG,hnt, h3, h7, h8, h10];decide)) only [zA,zB,zC,zD,zE,zF,zG,zH,zI,zJ,zK,HV.cells,hnt, h3, h7, h8, h10]; try exact rfl) (fun hc => ?_) (fun hc => ?_) <;> (try (exfalso; omega))
     | refine r_calls (by simp (disch:=first|decide|(simp only[zF,zG,hnt, h3, h7, h8, h10];decide)) only [zA,zB,zC,zD,zE,zF,zG,zH,zI,zJ,zK,HV.cells,hnt, h3, h7, h8, h10]; try exact rfl) (by simp (disch:=first|decide|(simp only[zF,zG,hnt, h3, h7, h8, h10];decide)) only [List.map_cons,List.map_nil,List.nil_append,List.cons_append,List.append_nil,zA,zB,zC,zD,zE,zF,zG,zH,zI,zJ,zK,HV.cells,hnt, h3, h7, h8, h10]; try exact rfl) (cT _ _ _ (by repeat' first|assumption|refine D.upd ?_ (by omega)|exact D.mono (by assumption) (by omega))) (fun n' hn' => ?_)
     | fail
    refine r_callc (by simp (disch:=first|decide|(simp only[zF,zG,hnt, h7];decide)) only [zA,zB,zC,zD,zE,zF,zG,zH,zI,zJ,zK,HV.cells,hnt, h7]; try exact rfl) (by simp (disch:=first|decide|(simp only[zF,zG,hnt, h7];decide)) only [List.map_cons,List.map_nil,List.nil_append,List.cons_append,List.append_nil,zA,zB,zC,zD,zE,zF,zG,zH,zI,zJ,zK,HV.cells,hnt, h7]; try exact rfl) (c_Readings (l := l) (cp := c4) (by repeat' first|assumption|refine D.upd ?_ (by omega)|exact D.mono (by assumption) (by omega)) rfl (by omega) ((hrl.ext he).ext (by repeat' first|assumption|refine Ext.put ?_ (by omega) (by omega)|exact Ext.up (by assumption) (by omega)|exact Ext.nx (by assumption) (by omega)))) ?_
    rintro u1 σ1 ⟨p1, c1, h1, n1, rfl, rfl, e1, hr1⟩
    dsimp only at e1
    have hle1 := e1.le
    have hd1 := e1.d
    have x1 : Ext h nx h1 n1 := Ext.trans (by repeat' first|assumption|refine Ext.put ?_ (by omega) (by omega)|exact Ext.up (by assumption) (by omega)|exact Ext.nx (by assumption) (by omega)) e1
    repeat' first
     | refine r_move (by simp (disch:=first|decide|(simp only[zF,zG,hnt, h3, h7, h8, h10];decide)) only [zA,zB,zC,zD,zE,zF,zG,zH,zI,zJ,zK,HV.cells,hnt, h3, h7, h8, h10]; try exact rfl) ?_
     | fail
    refine r_callc (by simp (disch:=first|decide|(simp only[zF,zG,hnt, h10];decide)) only [zA,zB,zC,zD,zE,zF,zG,zH,zI,zJ,zK,HV.cells,hnt, h10]; try exact rfl) (by simp (disch:=first|decide|(simp only[zF,zG,hnt, h10];decide)) only [List.map_cons,List.map_nil,List.nil_append,List.cons_append,List.append_nil,zA,zB,zC,zD,zE,zF,zG,zH,zI,zJ,zK,HV.cells,hnt, h10]; try exact rfl) (c_Shows (n := n) (l := l) (cp := c1) (mark := i) (high := false) hd1 (fun _ => hcn) rfl (by omega) hr1) ?_
    intro u2 σ2 hK
    obtain ⟨pa, ca, h2, n2, rfl, rfl, e2, hra⟩ := sh _ _ h _ _ _ hK
    have hle2 := e2.le
    have hd2 := e2.d
    have x2 : Ext h nx h2 n2 := x1.trans e2
    have hg2 : h2.get tb = some (.cells t.cells .exact) := by rw [x2.same _ (by omega)]; exact hg
    repeat' first
     | refine r_nil ?_
     | refine th_n ?_
     | refine w_seq ?_
     | refine w_reg ?_
     | refine r_move (by simp (disch:=first|decide|(simp only[zF,zG,hnt, h3, h7, h8, h10];decide)) only [zA,zB,zC,zD,zE,zF,zG,zH,zI,zJ,zK,HV.cells,hnt, h3, h7, h8, h10]; try exact rfl) ?_
     | refine r_ldn (by simp (disch:=first|decide|(simp only[zF,zG,hnt, h3, h7, h8, h10];decide)) only [zA,zB,zC,zD,zE,zF,zG,zH,zI,zJ,zK,HV.cells,hnt, h3, h7, h8, h10]; try exact rfl) (by first|assumption|(simp (disch:=omega) only [get_same,get_other,hnt, h3, h7, h8, h10]; first|done|exact rfl)) (by first|assumption|rfl|(simp only [zI,zJ,HV.cells,hnt, h3, h7, h8, h10]; exact rfl)) ?_
     | refine r_ext (by simp (disch:=first|decide|(simp only[zF,zG,hnt, h3, h7, h8, h10];decide)) only [zA,zB,zC,zD,zE,zF,zG,zH,zI,zJ,zK,HV.cells,hnt, h3, h7, h8, h10]; try exact rfl) (by first|assumption|rfl|(simp only [zI,zJ,HV.cells,hnt, h3, h7, h8, h10]; exact rfl)) ?_
     | refine r_calls (by simp (disch:=first|decide|(simp only[zF,zG,hnt, h3, h7, h8, h10];decide)) only [zA,zB,zC,zD,zE,zF,zG,zH,zI,zJ,zK,HV.cells,hnt, h3, h7, h8, h10]; try exact rfl) (by simp (disch:=first|decide|(simp only[zF,zG,hnt, h3, h7, h8, h10];decide)) only [List.map_cons,List.map_nil,List.nil_append,List.cons_append,List.append_nil,zA,zB,zC,zD,zE,zF,zG,zH,zI,zJ,zK,HV.cells,hnt, h3, h7, h8, h10]; try exact rfl) (cT _ _ _ (by repeat' first|assumption|refine D.upd ?_ (by omega)|exact D.mono (by assumption) (by omega))) (fun n' hn' => ?_)
     | fail
    refine r_callc (by simp (disch:=first|decide|(simp only[zF,zG,hnt, h7];decide)) only [zA,zB,zC,zD,zE,zF,zG,zH,zI,zJ,zK,HV.cells,hnt, h7]; try exact rfl) (by simp (disch:=first|decide|(simp only[zF,zG,hnt, h7];decide)) only [List.map_cons,List.map_nil,List.nil_append,List.cons_append,List.append_nil,zA,zB,zC,zD,zE,zF,zG,zH,zI,zJ,zK,HV.cells,hnt, h7]; try exact rfl) (c_Readings (l := l) (cp := c4) (by repeat' first|assumption|refine D.upd ?_ (by omega)|exact D.mono (by assumption) (by omega)) rfl (by omega) (((hrl.ext he).ext x2).ext (by repeat' first|assumption|refine Ext.put ?_ (by omega) (by omega)|exact Ext.up (by assumption) (by omega)|exact Ext.nx (by assumption) (by omega)))) ?_
    rintro u3 σ3 ⟨p3, c3, h5, n5, rfl, rfl, e5, hr5⟩
    dsimp only at e5
    have hle5 := e5.le
    have hd5 := e5.d
    have y5 : Ext h2 n2 h5 n5 := Ext.trans (by repeat' first|assumption|refine Ext.put ?_ (by omega) (by omega)|exact Ext.up (by assumption) (by omega)|exact Ext.nx (by assumption) (by omega)) e5
    repeat' first
     | refine r_move (by simp (disch:=first|decide|(simp only[zF,zG,hnt, h3, h7, h8, h10];decide)) only [zA,zB,zC,zD,zE,zF,zG,zH,zI,zJ,zK,HV.cells,hnt, h3, h7, h8, h10]; try exact rfl) ?_
     | fail
    refine r_callc (by simp (disch:=first|decide|(simp only[zF,zG,hnt, h10];decide)) only [zA,zB,zC,zD,zE,zF,zG,zH,zI,zJ,zK,HV.cells,hnt, h10]; try exact rfl) (by simp (disch:=first|decide|(simp only[zF,zG,hnt, h10];decide)) only [List.map_cons,List.map_nil,List.nil_append,List.cons_append,List.append_nil,zA,zB,zC,zD,zE,zF,zG,zH,zI,zJ,zK,HV.cells,hnt, h10]; try exact rfl) (c_Shows (n := n) (l := l) (cp := c3) (mark := i) (high := true) hd5 (fun _ => hcn) rfl (by omega) hr5) ?_
    intro u4 σ4 hK
    obtain ⟨pb, cb, h6, n6, rfl, rfl, e6, hrb⟩ := sh _ _ h _ _ _ hK
    have hle6 := e6.le
    have hd6 := e6.d
    have y6 : Ext h2 n2 h6 n6 := y5.trans e6
    have x6 : Ext h nx h6 n6 := x2.trans y6
    have z6 : Ext h0 n0 h6 n6 := he.trans x6
    have hg6 : h6.get tb = some (.cells t.cells .exact) := by rw [x6.same _ (by omega)]; exact hg
    have Ta := feas_all hcn hT hl hO (endOf_feas hG false)
    have Tb := feas_all hcn hT hl hO (endOf_feas hG true)
    have ga : hgt (VL (endOf false M) n) i = -(M i 0) := by rw [hgt_VL _ _ _ hi, endOf_zero hG]; show (if false = true then _ else _) - _ = _; rw [if_neg (by decide)]; omega
    have gb : hgt (VL (endOf true M) n) i = M 0 i := by rw [hgt_VL _ _ _ hi, endOf_zero hG]; show (if true = true then _ else _) - _ = _; rw [if_pos rfl]; omega
    have Pa : ∃ v, TruthV t.c t.t t.a t.b l v ∧ TrulyOk t n v ∧ Row ienc 1 h6 n6 pa v ∧ hgt v i = -(M i 0) := ⟨_, Ta.2, Ta.1, hra.ext y6, ga⟩
    have Pb : ∃ v, TruthV t.c t.t t.a t.b l v ∧ TrulyOk t n v ∧ Row ienc 1 h6 n6 pb v ∧ hgt v i = M 0 i := ⟨_, Tb.2, Tb.1, hrb, gb⟩
    have cI : ∀ fl n' p c (x : Int), n6 ≤ n' → (∃ v, TruthV t.c t.t t.a t.b l v ∧ TrulyOk t n v ∧ Row ienc 1 h6 n6 p v ∧ hgt v i = x) → C LW fl 27 [.agg t.cells, .slice p4 l.length c4, .slice p n c] ⟨h6, n'⟩ (Sc (· = .bool true) ⟨h6, n'⟩) := fun fl n' p c x hn' ⟨v, h1, h2, h3, _⟩ => by
      have := c_IsTruth (fl := fl) (hd6.mono hn') (t := t) (l := l) (lc := c4) (cp := c) h2.1.symm rfl (by rw [h2.1]; omega) (by omega) (h3.ext (Ext.nx hd6 hn')) ((hrl.ext z6).ext (Ext.nx hd6 hn')) hT hl
      rwa [decide_eq_true h1] at this
    have cH : ∀ fl n' p c (x : Int), n6 ≤ n' → (∃ v, TruthV t.c t.t t.a t.b l v ∧ TrulyOk t n v ∧ Row ienc 1 h6 n6 p v ∧ hgt v i = x) → C LW fl 38 [.slice p n c, i64 i] ⟨h6, n'⟩ (Sc (· = i64 x) ⟨h6, n'⟩) := fun fl n' p c x hn' ⟨v, h1, h2, h3, h4⟩ => by
      subst h4
      exact c_Height h2.1.symm (by rw [h2.1]; exact hi) (by rw [h2.1]; omega) (h3.ext (Ext.nx hd6 hn')) (fun x hx => by have := h2.2.1 x hx; omega)
    obtain ⟨b, o, cs, kk, hp8, hb, hgh, hcs⟩ := (hrh.ext z6) (by intro e; have := BL_len M (n + 1); rw [e] at this; simp at this)
    rw [hp8] at h8
    have w0 := hcs i _ (BL_get M (show i < n + 1 by omega))
    have w1 := take_at w0 (j := 0) (v := i64 (-(M i 0))) rfl
    have w2 := take_at w0 (j := 1) (v := i64 (M 0 i)) rfl
    repeat' first
     | refine r_nil ?_
     | refine th_n ?_
     | refine ib_n ?_
     | refine w_seq ?_
     | refine w_reg ?_
     | refine w_skip ?_
     | refine w_f (by simp (disch:=first|decide|(simp only[zF,zG,hnt, h3, h7, h8, h10];decide)) only [zA,zB,zC,zD,zE,zF,zG,zH,zI,zJ,zK,HV.cells,hnt, h3, h7, h8, h10]; first|done|exact rfl) ?_
     | refine r_take (by simp (disch:=first|decide|(simp only[zF,zG,hnt, h3, h7, h8, h10];decide)) only [zA,zB,zC,zD,zE,zF,zG,zH,zI,zJ,zK,HV.cells,hnt, h3, h7, h8, h10]; first|done|exact rfl) ?_
     | refine r_move (by simp (disch:=first|decide|(simp only[zF,zG,hnt, h3, h7, h8, h10];decide)) only [zA,zB,zC,zD,zE,zF,zG,zH,zI,zJ,zK,HV.cells,hnt, h3, h7, h8, h10]; try exact rfl) ?_
     | refine r_fa (by simp (disch:=first|decide|(simp only[zF,zG,hnt, h3, h7, h8, h10];decide)) only [zA,zB,zC,zD,zE,zF,zG,zH,zI,zJ,zK,HV.cells,hnt, h3, h7, h8, h10]; try exact rfl) ?_
     | refine r_ld1 (by simp (disch:=first|decide|(simp only[zF,zG,hnt, h3, h7, h8, h10];decide)) only [zA,zB,zC,zD,zE,zF,zG,zH,zI,zJ,zK,HV.cells,hnt, h3, h7, h8, h10]; try exact rfl) (by first|assumption|(simp (disch:=omega) only [get_same,get_other,hnt, h3, h7, h8, h10]; first|done|exact rfl)) (by first|assumption|rfl|(simp only [zI,zJ,HV.cells,hnt, h3, h7, h8, h10]; exact rfl)) ?_
     | refine r_ldn (by simp (disch:=first|decide|(simp only[zF,zG,hnt, h3, h7, h8, h10];decide)) only [zA,zB,zC,zD,zE,zF,zG,zH,zI,zJ,zK,HV.cells,hnt, h3, h7, h8, h10]; try exact rfl) (by first|assumption|(simp (disch:=omega) only [get_same,get_other,hnt, h3, h7, h8, h10]; first|done|exact rfl)) (by first|assumption|rfl|(simp only [zI,zJ,HV.cells,hnt, h3, h7, h8, h10]; exact rfl)) ?_
     | refine r_add (by simp (disch:=first|decide|(simp only[zF,zG,hnt, h3, h7, h8, h10];decide)) only [zA,zB,zC,zD,zE,zF,zG,zH,zI,zJ,zK,HV.cells,hnt, h3, h7, h8, h10]; try exact rfl) (by simp (disch:=first|decide|(simp only[zF,zG,hnt, h3, h7, h8, h10];decide)) only [zA,zB,zC,zD,zE,zF,zG,zH,zI,zJ,zK,HV.cells,hnt, h3, h7, h8, h10]; try exact rfl) (by omega) (by omega) ?_
     | refine r_ne (by simp (disch:=first|decide|(simp only[zF,zG,hnt, h3, h7, h8, h10];decide)) only [zA,zB,zC,zD,zE,zF,zG,zH,zI,zJ,zK,HV.cells,hnt, h3, h7, h8, h10]; try exact rfl) (by simp (disch:=first|decide|(simp only[zF,zG,hnt, h3, h7, h8, h10];decide)) only [zA,zB,zC,zD,zE,zF,zG,zH,zI,zJ,zK,HV.cells,hnt, h3, h7, h8, h10]; try exact rfl) (fun hc => ?_) (fun hc => ?_) <;> (try (exfalso; omega))
     | refine r_not1 (by simp (disch:=first|decide|(simp only[zF,zG,hnt, h3, h7, h8, h10];decide)) only [zA,zB,zC,zD,zE,zF,zG,zH,zI,zJ,zK,HV.cells,hnt, h3, h7, h8, h10]; try exact rfl) ?_
     | refine r_pf (by simp (disch:=first|decide|(simp only[zF,zG,hnt, h3, h7, h8, h10];decide)) only [zA,zB,zC,zD,zE,zF,zG,zH,zI,zJ,zK,HV.cells,hnt, h3, h7, h8, h10]; first|done|exact rfl) (by simp (disch:=first|decide|(simp only[zF,zG,hnt, h3, h7, h8, h10];decide)) only [zA,zB,zC,zD,zE,zF,zG,zH,zI,zJ,zK,HV.cells,hnt, h3, h7, h8, h10]; try exact rfl) ?_
     | refine r_ixs (by simp (disch:=first|decide|(simp only[zF,zG,hnt, h3, h7, h8, h10];decide)) only [zA,zB,zC,zD,zE,zF,zG,zH,zI,zJ,zK,HV.cells,hnt, h3, h7, h8, h10]; try exact rfl) (by simp (disch:=first|decide|(simp only[zF,zG,hnt, h3, h7, h8, h10];decide)) only [zA,zB,zC,zD,zE,zF,zG,zH,zI,zJ,zK,HV.cells,hnt, h3, h7, h8, h10]; try exact rfl) (by omega) ?_
     | refine r_ext (by simp (disch:=first|decide|(simp only[zF,zG,hnt, h3, h7, h8, h10];decide)) only [zA,zB,zC,zD,zE,zF,zG,zH,zI,zJ,zK,HV.cells,hnt, h3, h7, h8, h10]; try exact rfl) (by first|assumption|rfl|(simp only [zI,zJ,HV.cells,hnt, h3, h7, h8, h10]; exact rfl)) ?_
     | refine r_calls (by simp (disch:=first|decide|(simp only[zF,zG,hnt, h3, h7, h8, h10];decide)) only [zA,zB,zC,zD,zE,zF,zG,zH,zI,zJ,zK,HV.cells,hnt, h3, h7, h8, h10]; try exact rfl) (by simp (disch:=first|decide|(simp only[zF,zG,hnt, h3, h7, h8, h10];decide)) only [List.map_cons,List.map_nil,List.nil_append,List.cons_append,List.append_nil,zA,zB,zC,zD,zE,zF,zG,zH,zI,zJ,zK,HV.cells,hnt, h3, h7, h8, h10]; try exact rfl) (cI _ _ _ _ _ (by omega) (by assumption)) (fun n' hn' => ?_)
     | refine r_calls (by simp (disch:=first|decide|(simp only[zF,zG,hnt, h3, h7, h8, h10];decide)) only [zA,zB,zC,zD,zE,zF,zG,zH,zI,zJ,zK,HV.cells,hnt, h3, h7, h8, h10]; try exact rfl) (by simp (disch:=first|decide|(simp only[zF,zG,hnt, h3, h7, h8, h10];decide)) only [List.map_cons,List.map_nil,List.nil_append,List.cons_append,List.append_nil,zA,zB,zC,zD,zE,zF,zG,zH,zI,zJ,zK,HV.cells,hnt, h3, h7, h8, h10]; try exact rfl) (cH _ _ _ _ _ (by omega) (by assumption)) (fun n' hn' => ?_)
     | refine w_draw (by omega) (by repeat' first|assumption|refine D.upd ?_ (by omega)|exact D.mono (by assumption) (by omega)) ?_
     | refine d_rest rfl ?_
     | refine d_one rfl ?_
     | refine d_next (by omega) ?_
     | fail
    rw [← hp8] at h8
    refine loop11 (c4 := c4) (c8 := c8) hcn hT hl hl12 hO htb htg hrl hrh hfl m (i + 1) _ _ _ (by omega) (z6.up (by omega)) ?_ ?_ ?_ ?_ ?_ ?_ hq
    all_goals first|(simp only [zL,zM,zF,zG,hnt, hds, h3, h7, h8, h10];done)|(simp (disch:=first|decide|(simp only[zF,zG,hnt, hds, h3, h7, h8, h10];decide)) only [zA,zB,zC,zD,zE,zF,zG,zH,zI,zJ,zK,HV.cells,hnt, hds, h3, h7, h8, h10];first|done|exact rfl)|assumption
theorem c_law11 {fl : Nat} {h : Tr HBlk} {nx : Nat} (hd : D h nx) {t : Tb} {w1 w2 : List Int} {p1 p2 : Option (Nat × Nat)} {m1 m2 c1 c2 : Nat} (hm1 : m1 = w1.length) (hm2 : m2 = w2.length) (hw1 : Words w1) (hw2 : Words w2) (hr1 : Row wenc 1 h nx p1 w1) (hr2 : Row wenc 1 h nx p2 w2) :
    C LW fl 11 [.agg t.cells, .slice p1 m1 c1, .slice p2 m2 c2] ⟨h, nx⟩ (Sc (· = .bool true) ⟨h, nx⟩) := by
  subst hm1
  subst hm2
  have tk : takeN 4 (t.cells.drop 0) = some t.cells := rfl
  have ec : t.cells[0 + 0]? = some (i64 t.c) := rfl
  have cI : ∀ fl h' n', C LW fl 25 [.agg t.cells] ⟨h', n'⟩ (Sc (· = .bool (decide (TubeOk t.c t.t t.a t.b))) ⟨h', n'⟩) := fun fl h' n' => c_isTube
  have cT : ∀ fl h' n', D h' n' → C LW fl 21 [.agg t.cells] ⟨h', n'⟩ (Sc (· = .agg t.cells) ⟨h', n'⟩) := fun fl h' n' e => c_Tube e
  refine c_in lw11 rfl rfl rfl ?_
  dsimp only [L11]
  by_cases hT : TubeOk t.c t.t t.a t.b
  case neg =>
    have cI1 : ∀ fl h' n', C LW fl 25 [.agg t.cells] ⟨h', n'⟩ (Sc (· = .bool false) ⟨h', n'⟩) := fun fl h' n' => by have := cI fl h' n'; rwa [decide_eq_false hT] at this
    repeat' first
     | refine r_nil ?_
     | refine th_n ?_
     | refine th_r ?_
     | refine w_seq ?_
     | refine w_reg ?_
     | refine w_ret ?_
     | refine w_t (by simp (disch:=first|decide|(simp only[zF,zG];decide)) only [zA,zB,zC,zD,zE,zF,zG,zH,zI,zJ,zK,HV.cells]; first|done|exact rfl) ?_
     | refine r_move (by simp (disch:=first|decide|(simp only[zF,zG];decide)) only [zA,zB,zC,zD,zE,zF,zG,zH,zI,zJ,zK,HV.cells]; try exact rfl) ?_
     | refine r_ldn (by simp (disch:=first|decide|(simp only[zF,zG];decide)) only [zA,zB,zC,zD,zE,zF,zG,zH,zI,zJ,zK,HV.cells]; try exact rfl) (by first|assumption|(simp (disch:=omega) only [get_same,get_other]; first|done|exact rfl)) (by first|assumption|rfl|(simp only [zI,zJ,HV.cells]; exact rfl)) ?_
     | refine r_box (by simp (disch:=first|decide|(simp only[zF,zG];decide)) only [zA,zB,zC,zD,zE,zF,zG,zH,zI,zJ,zK,HV.cells]; try exact rfl) ?_
     | refine r_not1 (by simp (disch:=first|decide|(simp only[zF,zG];decide)) only [zA,zB,zC,zD,zE,zF,zG,zH,zI,zJ,zK,HV.cells]; try exact rfl) ?_
     | refine r_calls (by simp (disch:=first|decide|(simp only[zF,zG];decide)) only [zA,zB,zC,zD,zE,zF,zG,zH,zI,zJ,zK,HV.cells]; try exact rfl) (by simp (disch:=first|decide|(simp only[zF,zG];decide)) only [List.map_cons,List.map_nil,List.nil_append,List.cons_append,List.append_nil,zA,zB,zC,zD,zE,zF,zG,zH,zI,zJ,zK,HV.cells]; try exact rfl) (cI1 _ _ _) (fun n' hn' => ?_)
     | refine r_calls (by simp (disch:=first|decide|(simp only[zF,zG];decide)) only [zA,zB,zC,zD,zE,zF,zG,zH,zI,zJ,zK,HV.cells]; try exact rfl) (by simp (disch:=first|decide|(simp only[zF,zG];decide)) only [List.map_cons,List.map_nil,List.nil_append,List.cons_append,List.append_nil,zA,zB,zC,zD,zE,zF,zG,zH,zI,zJ,zK,HV.cells]; try exact rfl) c_wakes (fun n' hn' => ?_)
     | fail
    refine fin_r (by simp only [zL,zM]) (by simp (disch:=first|decide|(simp only[zF,zG];decide)) only [zA,zB,zC,zD,zE,zF,zG,zH,zI,zJ,zK,HV.cells]; try exact rfl) (sc_flat rfl (by dsimp only; omega) ?_); rfl
  have cI1 : ∀ fl h' n', C LW fl 25 [.agg t.cells] ⟨h', n'⟩ (Sc (· = .bool true) ⟨h', n'⟩) := fun fl h' n' => by have := cI fl h' n'; rwa [decide_eq_true hT] at this
  have hTo := hT
  unfold TubeOk at hTo
  obtain ⟨n, hcn⟩ : ∃ n : Nat, t.c = n := ⟨t.c.toNat, by omega⟩
  repeat' first
   | refine r_nil ?_
   | refine th_n ?_
   | refine w_seq ?_
   | refine w_reg ?_
   | refine w_skip ?_
   | refine w_f (by simp (disch:=first|decide|(simp only[zF,zG];decide)) only [zA,zB,zC,zD,zE,zF,zG,zH,zI,zJ,zK,HV.cells]; first|done|exact rfl) ?_
   | refine r_move (by simp (disch:=first|decide|(simp only[zF,zG];decide)) only [zA,zB,zC,zD,zE,zF,zG,zH,zI,zJ,zK,HV.cells]; try exact rfl) ?_
   | refine r_ldn (by simp (disch:=first|decide|(simp only[zF,zG];decide)) only [zA,zB,zC,zD,zE,zF,zG,zH,zI,zJ,zK,HV.cells]; try exact rfl) (by first|assumption|(simp (disch:=omega) only [get_same,get_other]; first|done|exact rfl)) (by first|assumption|rfl|(simp only [zI,zJ,HV.cells]; exact rfl)) ?_
   | refine r_box (by simp (disch:=first|decide|(simp only[zF,zG];decide)) only [zA,zB,zC,zD,zE,zF,zG,zH,zI,zJ,zK,HV.cells]; try exact rfl) ?_
   | refine r_not1 (by simp (disch:=first|decide|(simp only[zF,zG];decide)) only [zA,zB,zC,zD,zE,zF,zG,zH,zI,zJ,zK,HV.cells]; try exact rfl) ?_
   | refine r_calls (by simp (disch:=first|decide|(simp only[zF,zG];decide)) only [zA,zB,zC,zD,zE,zF,zG,zH,zI,zJ,zK,HV.cells]; try exact rfl) (by simp (disch:=first|decide|(simp only[zF,zG];decide)) only [List.map_cons,List.map_nil,List.nil_append,List.cons_append,List.append_nil,zA,zB,zC,zD,zE,zF,zG,zH,zI,zJ,zK,HV.cells]; try exact rfl) (cI1 _ _ _) (fun n' hn' => ?_)
   | fail
  refine w_draw (by omega) (by repeat' first|assumption|refine D.upd ?_ (by omega)|exact D.mono (by assumption) (by omega)) ?_
  refine d_one rfl ?_
  repeat' first
   | refine r_nil ?_
   | refine r_ldn (by simp (disch:=first|decide|(simp only[zF,zG];decide)) only [zA,zB,zC,zD,zE,zF,zG,zH,zI,zJ,zK,HV.cells]; try exact rfl) (by first|assumption|(simp (disch:=omega) only [get_same,get_other]; first|done|exact rfl)) (by first|assumption|rfl|(simp only [zI,zJ,HV.cells]; exact rfl)) ?_
   | fail
  refine d_next (by omega) ?_
  refine d_one rfl ?_
  repeat' first
   | refine r_nil ?_
   | refine r_ldn (by simp (disch:=first|decide|(simp only[zF,zG];decide)) only [zA,zB,zC,zD,zE,zF,zG,zH,zI,zJ,zK,HV.cells]; try exact rfl) (by first|assumption|(simp (disch:=omega) only [get_same,get_other]; first|done|exact rfl)) (by first|assumption|rfl|(simp only [zI,zJ,HV.cells]; exact rfl)) ?_
   | fail
  refine d_next (by omega) ?_
  refine d_one rfl ?_
  repeat' first
   | refine r_nil ?_
   | refine r_move (by simp (disch:=first|decide|(simp only[zF,zG];decide)) only [zA,zB,zC,zD,zE,zF,zG,zH,zI,zJ,zK,HV.cells]; try exact rfl) ?_
   | fail
  refine d_next (by omega) ?_
  refine d_lastE rfl ?_
  refine r_callc (by simp (disch:=first|decide|(simp only[zF,zG];decide)) only [zA,zB,zC,zD,zE,zF,zG,zH,zI,zJ,zK,HV.cells]; try exact rfl) (by simp (disch:=first|decide|(simp only[zF,zG];decide)) only [List.map_cons,List.map_nil,List.nil_append,List.cons_append,List.append_nil,zA,zB,zC,zD,zE,zF,zG,zH,zI,zJ,zK,HV.cells]; try exact rfl) (c_Truly (n := n) (cp := c1) (by repeat' first|assumption|refine D.upd ?_ (by omega)|exact D.mono (by assumption) (by omega)) hcn hT rfl hw1 (hr1.ext (by repeat' first|assumption|refine Ext.put ?_ (by omega) (by omega)|exact Ext.up (by assumption) (by omega)|exact Ext.nx (by assumption) (by omega)))) ?_
  rintro u1 σ1 ⟨v, hv, p3, c3, h2, n2, rfl, rfl, e2, hr3⟩
  dsimp only at e2
  have hle2 := e2.le
  refine r_nil ?_
  refine ⟨e2, fun hm em sm => ?_⟩
  dsimp only at em sm ⊢
  have hr3m := hr3.of_get sm
  have hdm := em.d
  have xm : Ext h nx hm n2 := (Ext.put (Ext.up (Ext.refl hd) (by omega)) (Nat.le_refl _) (by omega)).trans em
  have hgm : hm.get nx = some (.cells t.cells .exact) := by rw [em.same _ (by omega)]; exact (by first|assumption|(simp (disch:=omega) only [get_same,get_other]; first|done|exact rfl))
  repeat' first
   | refine r_move (by simp (disch:=first|decide|(simp only[zF,zG];decide)) only [zA,zB,zC,zD,zE,zF,zG,zH,zI,zJ,zK,HV.cells]; try exact rfl) ?_
   | fail
  refine r_callc (by simp (disch:=first|decide|(simp only[zF,zG];decide)) only [zA,zB,zC,zD,zE,zF,zG,zH,zI,zJ,zK,HV.cells]; try exact rfl) (by simp (disch:=first|decide|(simp only[zF,zG];decide)) only [List.map_cons,List.map_nil,List.nil_append,List.cons_append,List.append_nil,zA,zB,zC,zD,zE,zF,zG,zH,zI,zJ,zK,HV.cells]; try exact rfl) (c_Seen (n := n) (cp := c3) (cw := c2) hdm hcn hT hv hv.1 rfl hw2 hr3m (hr2.ext xm)) ?_
  rintro u2 σ2 ⟨l, hs, hl12, _, p4, c4, h5, n5, rfl, rfl, e5, hr5⟩
  dsimp only at e5
  have hle5 := e5.le
  have hd5 := e5.d
  have hg5 : h5.get nx = some (.cells t.cells .exact) := by rw [e5.same _ (by omega)]; exact hgm
  have hl : ∀ r ∈ l, RdOk2 t.c r := fun r hr => (hs r hr).1
  have hE : errOf t.c t.t t.a t.b l = 0 := by unfold errOf; rw [if_pos hT, if_pos hl12, if_pos hl]
  obtain ⟨M, hM, _⟩ := truth_read hcn hT hv hs
  repeat' first
   | refine r_nil ?_
   | refine th_n ?_
   | refine w_seq ?_
   | refine w_reg ?_
   | refine r_move (by simp (disch:=first|decide|(simp only[zF,zG];decide)) only [zA,zB,zC,zD,zE,zF,zG,zH,zI,zJ,zK,HV.cells]; try exact rfl) ?_
   | refine r_ldn (by simp (disch:=first|decide|(simp only[zF,zG];decide)) only [zA,zB,zC,zD,zE,zF,zG,zH,zI,zJ,zK,HV.cells]; try exact rfl) (by first|assumption|(simp (disch:=omega) only [get_same,get_other]; first|done|exact rfl)) (by first|assumption|rfl|(simp only [zI,zJ,HV.cells]; exact rfl)) ?_
   | refine r_calls (by simp (disch:=first|decide|(simp only[zF,zG];decide)) only [zA,zB,zC,zD,zE,zF,zG,zH,zI,zJ,zK,HV.cells]; try exact rfl) (by simp (disch:=first|decide|(simp only[zF,zG];decide)) only [List.map_cons,List.map_nil,List.nil_append,List.cons_append,List.append_nil,zA,zB,zC,zD,zE,zF,zG,zH,zI,zJ,zK,HV.cells]; try exact rfl) (cT _ _ _ (by repeat' first|assumption|refine D.upd ?_ (by omega)|exact D.mono (by assumption) (by omega))) (fun n' hn' => ?_)
   | fail
  refine r_callc (by simp (disch:=first|decide|(simp only[zF,zG];decide)) only [zA,zB,zC,zD,zE,zF,zG,zH,zI,zJ,zK,HV.cells]; try exact rfl) (by simp (disch:=first|decide|(simp only[zF,zG];decide)) only [List.map_cons,List.map_nil,List.nil_append,List.cons_append,List.append_nil,zA,zB,zC,zD,zE,zF,zG,zH,zI,zJ,zK,HV.cells]; try exact rfl) (c_Readings (l := l) (cp := c4) (by repeat' first|assumption|refine D.upd ?_ (by omega)|exact D.mono (by assumption) (by omega)) rfl (by omega) (hr5.ext (by repeat' first|assumption|refine Ext.put ?_ (by omega) (by omega)|exact Ext.up (by assumption) (by omega)|exact Ext.nx (by assumption) (by omega)))) ?_
  rintro u3 σ3 ⟨p7, c7, h7, n7, rfl, rfl, e7, hr7⟩
  dsimp only at e7
  have hle7 := e7.le
  have hd7 := e7.d
  have x7 : Ext h5 n5 h7 n7 := Ext.trans (by repeat' first|assumption|refine Ext.put ?_ (by omega) (by omega)|exact Ext.up (by assumption) (by omega)|exact Ext.nx (by assumption) (by omega)) e7
  repeat' first
   | fail
  refine r_callc (by simp (disch:=first|decide|(simp only[zF,zG];decide)) only [zA,zB,zC,zD,zE,zF,zG,zH,zI,zJ,zK,HV.cells]; try exact rfl) (by simp (disch:=first|decide|(simp only[zF,zG];decide)) only [List.map_cons,List.map_nil,List.nil_append,List.cons_append,List.append_nil,zA,zB,zC,zD,zE,zF,zG,zH,zI,zJ,zK,HV.cells]; try exact rfl) (c_Heights (n := n) (l := l) (cp := c7) hd7 (fun _ => hcn) rfl (by omega) hr7) ?_
  intro u4 σ4 hK1
  have key : ∃ p c h8 n8, u4 = .tuple [.slice p (n + 1) c, i64 0] ∧ σ4 = ⟨h8, n8⟩ ∧ Ext h7 n7 h8 n8 ∧ Row renc 2 h8 n8 p (BL M (n + 1)) := by
    rcases hK1 with ⟨M', _, hM', p, c, h8, n8, rfl, rfl, e8, hr8⟩ | ⟨_, hM', _⟩ | ⟨hM', _⟩
    · rw [hM] at hM'; cases hM'; exact ⟨p, c, h8, n8, rfl, rfl, e8, hr8⟩
    · rw [hM] at hM'; cases hM'
    · exact absurd hE hM'
  obtain ⟨p8, c8, h8, n8, rfl, rfl, e8, hr8⟩ := key
  have hle8 := e8.le
  have hd8 := e8.d
  have x8 : Ext h5 n5 h8 n8 := x7.trans e8
  have hg8 : h8.get nx = some (.cells t.cells .exact) := by rw [x8.same _ (by omega)]; exact hg5
  repeat' first
   | refine r_nil ?_
   | refine th_n ?_
   | refine w_seq ?_
   | refine w_reg ?_
   | refine w_skip ?_
   | refine w_block ?_
   | refine w_f (by simp (disch:=first|decide|(simp only[zF,zG,hcn];decide)) only [zA,zB,zC,zD,zE,zF,zG,zH,zI,zJ,zK,HV.cells,hcn]; first|done|exact rfl) ?_
   | refine r_take (by simp (disch:=first|decide|(simp only[zF,zG,hcn];decide)) only [zA,zB,zC,zD,zE,zF,zG,zH,zI,zJ,zK,HV.cells,hcn]; first|done|exact rfl) ?_
   | refine r_move (by simp (disch:=first|decide|(simp only[zF,zG,hcn];decide)) only [zA,zB,zC,zD,zE,zF,zG,zH,zI,zJ,zK,HV.cells,hcn]; try exact rfl) ?_
   | refine r_fa (by simp (disch:=first|decide|(simp only[zF,zG,hcn];decide)) only [zA,zB,zC,zD,zE,zF,zG,zH,zI,zJ,zK,HV.cells,hcn]; try exact rfl) ?_
   | refine r_ld1 (by simp (disch:=first|decide|(simp only[zF,zG,hcn];decide)) only [zA,zB,zC,zD,zE,zF,zG,zH,zI,zJ,zK,HV.cells,hcn]; try exact rfl) (by first|assumption|(simp (disch:=omega) only [get_same,get_other,hcn]; first|done|exact rfl)) (by first|assumption|rfl|(simp only [zI,zJ,HV.cells,hcn]; exact rfl)) ?_
   | refine r_add (by simp (disch:=first|decide|(simp only[zF,zG,hcn];decide)) only [zA,zB,zC,zD,zE,zF,zG,zH,zI,zJ,zK,HV.cells,hcn]; try exact rfl) (by simp (disch:=first|decide|(simp only[zF,zG,hcn];decide)) only [zA,zB,zC,zD,zE,zF,zG,zH,zI,zJ,zK,HV.cells,hcn]; try exact rfl) (by omega) (by omega) ?_
   | refine r_ne (by simp (disch:=first|decide|(simp only[zF,zG,hcn];decide)) only [zA,zB,zC,zD,zE,zF,zG,zH,zI,zJ,zK,HV.cells,hcn]; try exact rfl) (by simp (disch:=first|decide|(simp only[zF,zG,hcn];decide)) only [zA,zB,zC,zD,zE,zF,zG,zH,zI,zJ,zK,HV.cells,hcn]; try exact rfl) (fun hc => ?_) (fun hc => ?_) <;> (try (exfalso; omega))
   | refine r_pf (by simp (disch:=first|decide|(simp only[zF,zG,hcn];decide)) only [zA,zB,zC,zD,zE,zF,zG,zH,zI,zJ,zK,HV.cells,hcn]; first|done|exact rfl) (by simp (disch:=first|decide|(simp only[zF,zG,hcn];decide)) only [zA,zB,zC,zD,zE,zF,zG,zH,zI,zJ,zK,HV.cells,hcn]; try exact rfl) ?_
   | refine r_len (by simp (disch:=first|decide|(simp only[zF,zG,hcn];decide)) only [zA,zB,zC,zD,zE,zF,zG,zH,zI,zJ,zK,HV.cells,hcn]; try exact rfl) ?_
   | refine r_ext (by simp (disch:=first|decide|(simp only[zF,zG,hcn];decide)) only [zA,zB,zC,zD,zE,zF,zG,zH,zI,zJ,zK,HV.cells,hcn]; try exact rfl) (by first|assumption|rfl|(simp only [zI,zJ,HV.cells,hcn]; exact rfl)) ?_
   | fail
  refine loop11 (h0 := h8) (n0 := n8) (tb := nx) (p4 := p4) (p8 := p8) (c4 := c4) (c8 := c8) (t := t) (M := M) (n := n) hcn hT hl hl12 hM (by omega) hg8 (hr5.ext x8) hr8 (by omega) (n + 1) 0 _ _ _ (by omega) (Ext.refl hd8) ?_ ?_ ?_ ?_ ?_ ?_ (fun a' h' n' g0 g1 g2 => ?_)
  all_goals try first|(simp only [zL,zM,zF,zG];done)|(simp (disch:=first|decide|(simp only[zF,zG];decide)) only [zA,zB,zC,zD,zE,zF,zG,zH,zI,zJ,zK,HV.cells];first|done|exact rfl)|assumption
  have hle9 := g0.le
  repeat' first
   | refine r_nil ?_
   | refine th_n ?_
   | refine w_seq ?_
   | refine w_reg ?_
   | refine w_ret ?_
   | refine r_move (by simp (disch:=first|decide|(simp only[zF,zG,g1];decide)) only [zA,zB,zC,zD,zE,zF,zG,zH,zI,zJ,zK,HV.cells,g1]; try exact rfl) ?_
   | refine r_calls (by simp (disch:=first|decide|(simp only[zF,zG,g1];decide)) only [zA,zB,zC,zD,zE,zF,zG,zH,zI,zJ,zK,HV.cells,g1]; try exact rfl) (by simp (disch:=first|decide|(simp only[zF,zG,g1];decide)) only [List.map_cons,List.map_nil,List.nil_append,List.cons_append,List.append_nil,zA,zB,zC,zD,zE,zF,zG,zH,zI,zJ,zK,HV.cells,g1]; try exact rfl) c_wakes (fun n' hn' => ?_)
   | fail
  refine fin_r (by simp only [zL, g2]) (by simp (disch:=first|decide|(simp only[zF,zG,g1];decide)) only [zA,zB,zC,zD,zE,zF,zG,zH,zI,zJ,zK,HV.cells,g1]; try exact rfl) (sc_flat rfl (by dsimp only; omega) rfl)
end Go.Hx

