import Derived.Test.YtokaihlongbllaaH07
import Derived.Test.YtokaihlongbllaaH04
set_option linter.all false
namespace Go.Hx
set_option linter.unusedSimpArgs false
set_option linter.unusedVariables false
set_option maxRecDepth 20000
set_option maxHeartbeats 4000000
attribute [local irreducible] W R C thenH inBlockH
/-- What 'readFor' hands back. -/
noncomputable def forO (t : Tb) (n : Nat) (l : List Rd) (ok : Bool) : HV :=
  if errOf t.c t.t t.a t.b l = 0 then
    if ok = true then
      match readO t n l with
      | some M => .tuple [.agg (bcells t M), i64 0]
      | none => .tuple [.agg (Zr 125), i64 9]
    else .tuple [.agg (Zr 125), i64 2]
  else .tuple [.agg (Zr 125), i64 (errOf t.c t.t t.a t.b l)]
theorem flat_bc2 (t : Tb) (M : Mx) (e : Int) : flatV (.tuple [.agg (bcells t M), i64 e]) = true := by show ((bcells t M).all flat1 && (true && true)) = true; rw [bc_flat]; rfl
theorem flat_z2 (e : Int) : flatV (.tuple [.agg (Zr 125), i64 e]) = true := by show ((Zr 125).all flat1 && (true && true)) = true; rw [zr_flat]; rfl
/- 72 -/
theorem c_readFor {fl : Nat} {h : Tr HBlk} {nx : Nat} (hd : D h nx) {t : Tb} {n : Nat} {p : Option (Nat × Nat)} {l : List Rd} {m cp : Nat} {ok : Bool} (htc : TubeOk t.c t.t t.a t.b → t.c = n) (hm : m = l.length) (hlen : l.length < 1000000) (hrow : Row Rd.enc 4 h nx p l) :
    C LW fl 72 [.agg t.cells, .slice p m cp, .bool ok] ⟨h, nx⟩ (Sc (· = forO t n l ok) ⟨h, nx⟩) := by
  subst hm
  have tk : takeN 4 (t.cells.drop 0) = some t.cells := rfl
  have owz : overwrite (Zr 125) 0 (HV.agg (Zr 125)).cells = some (Zr 125) := ow_all _ _ rfl
  have cC : ∀ fl h' n', Ext h nx h' n' → C LW fl 64 [.agg t.cells, .slice p l.length cp] ⟨h', n'⟩ (Sc (· = i64 (errOf t.c t.t t.a t.b l)) ⟨h', n'⟩) := fun fl h' n' e => c_check e.d rfl (by omega) (hrow.ext e)
  refine c_in lw72 rfl rfl rfl ?_
  dsimp only [L72]
  by_cases hE : errOf t.c t.t t.a t.b l = 0
  · obtain ⟨hT, hL, hR⟩ := errOf_zero hE
    have cC1 : ∀ fl h' n', Ext h nx h' n' → C LW fl 64 [.agg t.cells, .slice p l.length cp] ⟨h', n'⟩ (Sc (· = i64 0) ⟨h', n'⟩) := fun fl h' n' e => by have := cC fl h' n' e; rwa [hE] at this
    cases ok with
    | false =>
      repeat' first
       | refine r_nil ?_
       | refine th_n ?_
       | refine th_r ?_
       | refine w_seq ?_
       | refine w_reg ?_
       | refine w_ret ?_
       | refine w_skip ?_
       | refine w_t (by simp (disch:=first|decide|(simp only[zF,zG];decide)) only [zA,zB,zC,zD,zE,zF,zG,zH,zI,zJ,zK,HV.cells]; first|done|exact rfl) ?_
       | refine w_f (by simp (disch:=first|decide|(simp only[zF,zG];decide)) only [zA,zB,zC,zD,zE,zF,zG,zH,zI,zJ,zK,HV.cells]; first|done|exact rfl) ?_
       | refine r_move (by simp (disch:=first|decide|(simp only[zF,zG];decide)) only [zA,zB,zC,zD,zE,zF,zG,zH,zI,zJ,zK,HV.cells]; try exact rfl) ?_
       | refine r_ldn (by simp (disch:=first|decide|(simp only[zF,zG];decide)) only [zA,zB,zC,zD,zE,zF,zG,zH,zI,zJ,zK,HV.cells]; try exact rfl) (by first|assumption|(simp (disch:=omega) only [get_same,get_other]; first|done|exact rfl)) (by first|assumption|rfl|(simp only [zI,zJ,HV.cells]; exact rfl)) ?_
       | refine r_box (by simp (disch:=first|decide|(simp only[zF,zG];decide)) only [zA,zB,zC,zD,zE,zF,zG,zH,zI,zJ,zK,HV.cells]; try exact rfl) ?_
       | refine r_alloc ?_
       | refine r_st (cs' := _) (by simp (disch:=first|decide|(simp only[zF,zG];decide)) only [zA,zB,zC,zD,zE,zF,zG,zH,zI,zJ,zK,HV.cells]; try exact rfl) (by simp (disch:=first|decide|(simp only[zF,zG];decide)) only [zA,zB,zC,zD,zE,zF,zG,zH,zI,zJ,zK,HV.cells]; try exact rfl) (by first|assumption|(simp (disch:=omega) only [get_same,get_other]; first|done|exact rfl)) (by exact True.intro) (by rfl) (by rfl) (by first|assumption|rfl|(simp only [zI,zJ,HV.cells]; exact rfl)) (by omega) ?_
       | refine r_ne (by simp (disch:=first|decide|(simp only[zF,zG];decide)) only [zA,zB,zC,zD,zE,zF,zG,zH,zI,zJ,zK,HV.cells]; try exact rfl) (by simp (disch:=first|decide|(simp only[zF,zG];decide)) only [zA,zB,zC,zD,zE,zF,zG,zH,zI,zJ,zK,HV.cells]; try exact rfl) (fun hc => ?_) (fun hc => ?_) <;> (try (exfalso; omega))
       | refine r_not1 (by simp (disch:=first|decide|(simp only[zF,zG];decide)) only [zA,zB,zC,zD,zE,zF,zG,zH,zI,zJ,zK,HV.cells]; try exact rfl) ?_
       | refine r_build (by simp (disch:=first|decide|(simp only[zF,zG];decide)) only [evParts,List.map_cons,List.map_nil,List.nil_append,List.cons_append,List.append_nil,zA,zB,zC,zD,zE,zF,zG,zH,zI,zJ,zK,HV.cells]; try exact rfl) ?_
       | refine r_calls (by simp (disch:=first|decide|(simp only[zF,zG];decide)) only [zA,zB,zC,zD,zE,zF,zG,zH,zI,zJ,zK,HV.cells]; try exact rfl) (by simp (disch:=first|decide|(simp only[zF,zG];decide)) only [List.map_cons,List.map_nil,List.nil_append,List.cons_append,List.append_nil,zA,zB,zC,zD,zE,zF,zG,zH,zI,zJ,zK,HV.cells]; try exact rfl) (cC1 _ _ _ (by repeat' first|assumption|refine Ext.put ?_ (by omega) (by omega)|exact Ext.up (by assumption) (by omega)|exact Ext.nx (by assumption) (by omega))) (fun n' hn' => ?_)
       | fail
      refine fin_m (by simp only [zL,zM]) (res_c (by simp (disch:=first|decide|(simp only[zF,zG];decide)) only [zA,zB,zC,zD,zE,zF,zG,zH,zI,zJ,zK,HV.cells]; try exact rfl) (by first|assumption|(simp (disch:=omega) only [get_same,get_other]; first|done|exact rfl)) tk_z (res_t (by simp (disch:=first|decide|(simp only[zF,zG];decide)) only [zA,zB,zC,zD,zE,zF,zG,zH,zI,zJ,zK,HV.cells]; try exact rfl) res_nil)) (sc_flat ?_ (by dsimp only; omega) ?_)
      · unfold forO; rw [if_pos hE, if_neg (by simp)]; exact flat_z2 2
      · unfold forO; rw [if_pos hE, if_neg (by simp)]; rfl
    | true =>
      have cR : ∀ fl h' n', Ext h nx h' n' → C LW fl 89 [.agg t.cells, .slice p l.length cp] ⟨h', n'⟩ (Sc (· = withO t (readO t n l)) ⟨h', n'⟩) := fun fl h' n' e => c_read e.d (htc hT) hT rfl hlen hR (hrow.ext e)
      cases hO : readO t n l with
      | none =>
        have cR1 : ∀ fl h' n', Ext h nx h' n' → C LW fl 89 [.agg t.cells, .slice p l.length cp] ⟨h', n'⟩ (Sc (· = .tuple [.agg (Zr 125), .bool false]) ⟨h', n'⟩) := fun fl h' n' e => by have := cR fl h' n' e; rw [hO] at this; exact this
        repeat' first
         | refine r_nil ?_
         | refine th_n ?_
         | refine th_r ?_
         | refine w_seq ?_
         | refine w_reg ?_
         | refine w_ret ?_
         | refine w_skip ?_
         | refine w_t (by simp (disch:=first|decide|(simp only[zF,zG];decide)) only [zA,zB,zC,zD,zE,zF,zG,zH,zI,zJ,zK,HV.cells]; first|done|exact rfl) ?_
         | refine w_f (by simp (disch:=first|decide|(simp only[zF,zG];decide)) only [zA,zB,zC,zD,zE,zF,zG,zH,zI,zJ,zK,HV.cells]; first|done|exact rfl) ?_
         | refine r_move (by simp (disch:=first|decide|(simp only[zF,zG];decide)) only [zA,zB,zC,zD,zE,zF,zG,zH,zI,zJ,zK,HV.cells]; try exact rfl) ?_
         | refine r_ldn (by simp (disch:=first|decide|(simp only[zF,zG];decide)) only [zA,zB,zC,zD,zE,zF,zG,zH,zI,zJ,zK,HV.cells]; try exact rfl) (by first|assumption|(simp (disch:=omega) only [get_same,get_other]; first|done|exact rfl)) (by first|assumption|rfl|(simp only [zI,zJ,HV.cells]; exact rfl)) ?_
         | refine r_box (by simp (disch:=first|decide|(simp only[zF,zG];decide)) only [zA,zB,zC,zD,zE,zF,zG,zH,zI,zJ,zK,HV.cells]; try exact rfl) ?_
         | refine r_alloc ?_
         | refine r_st (cs' := _) (by simp (disch:=first|decide|(simp only[zF,zG];decide)) only [zA,zB,zC,zD,zE,zF,zG,zH,zI,zJ,zK,HV.cells]; try exact rfl) (by simp (disch:=first|decide|(simp only[zF,zG];decide)) only [zA,zB,zC,zD,zE,zF,zG,zH,zI,zJ,zK,HV.cells]; try exact rfl) (by first|assumption|(simp (disch:=omega) only [get_same,get_other]; first|done|exact rfl)) (by exact True.intro) (by rfl) (by rfl) (by first|assumption|rfl|(simp only [zI,zJ,HV.cells]; exact rfl)) (by omega) ?_
         | refine r_ne (by simp (disch:=first|decide|(simp only[zF,zG];decide)) only [zA,zB,zC,zD,zE,zF,zG,zH,zI,zJ,zK,HV.cells]; try exact rfl) (by simp (disch:=first|decide|(simp only[zF,zG];decide)) only [zA,zB,zC,zD,zE,zF,zG,zH,zI,zJ,zK,HV.cells]; try exact rfl) (fun hc => ?_) (fun hc => ?_) <;> (try (exfalso; omega))
         | refine r_not1 (by simp (disch:=first|decide|(simp only[zF,zG];decide)) only [zA,zB,zC,zD,zE,zF,zG,zH,zI,zJ,zK,HV.cells]; try exact rfl) ?_
         | refine r_ext (by simp (disch:=first|decide|(simp only[zF,zG];decide)) only [zA,zB,zC,zD,zE,zF,zG,zH,zI,zJ,zK,HV.cells]; try exact rfl) (by first|assumption|rfl|(simp only [zI,zJ,HV.cells]; exact rfl)) ?_
         | refine r_build (by simp (disch:=first|decide|(simp only[zF,zG];decide)) only [evParts,List.map_cons,List.map_nil,List.nil_append,List.cons_append,List.append_nil,zA,zB,zC,zD,zE,zF,zG,zH,zI,zJ,zK,HV.cells]; try exact rfl) ?_
         | refine r_calls (by simp (disch:=first|decide|(simp only[zF,zG];decide)) only [zA,zB,zC,zD,zE,zF,zG,zH,zI,zJ,zK,HV.cells]; try exact rfl) (by simp (disch:=first|decide|(simp only[zF,zG];decide)) only [List.map_cons,List.map_nil,List.nil_append,List.cons_append,List.append_nil,zA,zB,zC,zD,zE,zF,zG,zH,zI,zJ,zK,HV.cells]; try exact rfl) (cC1 _ _ _ (by repeat' first|assumption|refine Ext.put ?_ (by omega) (by omega)|exact Ext.up (by assumption) (by omega)|exact Ext.nx (by assumption) (by omega))) (fun n' hn' => ?_)
         | refine r_calls (by simp (disch:=first|decide|(simp only[zF,zG];decide)) only [zA,zB,zC,zD,zE,zF,zG,zH,zI,zJ,zK,HV.cells]; try exact rfl) (by simp (disch:=first|decide|(simp only[zF,zG];decide)) only [List.map_cons,List.map_nil,List.nil_append,List.cons_append,List.append_nil,zA,zB,zC,zD,zE,zF,zG,zH,zI,zJ,zK,HV.cells]; try exact rfl) (cR1 _ _ _ (by repeat' first|assumption|refine Ext.put ?_ (by omega) (by omega)|exact Ext.up (by assumption) (by omega)|exact Ext.nx (by assumption) (by omega))) (fun n' hn' => ?_)
         | fail
        refine fin_m (by simp only [zL,zM]) (res_c (by simp (disch:=first|decide|(simp only[zF,zG];decide)) only [zA,zB,zC,zD,zE,zF,zG,zH,zI,zJ,zK,HV.cells]; try exact rfl) (by first|assumption|(simp (disch:=omega) only [get_same,get_other]; first|done|exact rfl)) tk_z (res_t (by simp (disch:=first|decide|(simp only[zF,zG];decide)) only [zA,zB,zC,zD,zE,zF,zG,zH,zI,zJ,zK,HV.cells]; try exact rfl) res_nil)) (sc_flat ?_ (by dsimp only; omega) ?_)
        · unfold forO; rw [if_pos hE, if_pos rfl, hO]; exact flat_z2 9
        · unfold forO; rw [if_pos hE, if_pos rfl, hO]; rfl
      | some M =>
        have tkb := take_bc t M
        have owb := ow_bc t M
        have cR1 : ∀ fl h' n', Ext h nx h' n' → C LW fl 89 [.agg t.cells, .slice p l.length cp] ⟨h', n'⟩ (Sc (· = .tuple [.agg (bcells t M), .bool true]) ⟨h', n'⟩) := fun fl h' n' e => by have := cR fl h' n' e; rw [hO] at this; exact this
        repeat' first
         | refine r_nil ?_
         | refine th_n ?_
         | refine w_seq ?_
         | refine w_reg ?_
         | refine w_ret ?_
         | refine w_skip ?_
         | refine w_f (by simp (disch:=first|decide|(simp only[zF,zG];decide)) only [zA,zB,zC,zD,zE,zF,zG,zH,zI,zJ,zK,HV.cells]; first|done|exact rfl) ?_
         | refine r_move (by simp (disch:=first|decide|(simp only[zF,zG];decide)) only [zA,zB,zC,zD,zE,zF,zG,zH,zI,zJ,zK,HV.cells]; try exact rfl) ?_
         | refine r_ldn (by simp (disch:=first|decide|(simp only[zF,zG];decide)) only [zA,zB,zC,zD,zE,zF,zG,zH,zI,zJ,zK,HV.cells]; try exact rfl) (by first|assumption|(simp (disch:=omega) only [get_same,get_other]; first|done|exact rfl)) (by first|assumption|rfl|(simp only [zI,zJ,HV.cells]; exact rfl)) ?_
         | refine r_box (by simp (disch:=first|decide|(simp only[zF,zG];decide)) only [zA,zB,zC,zD,zE,zF,zG,zH,zI,zJ,zK,HV.cells]; try exact rfl) ?_
         | refine r_alloc ?_
         | refine r_st (cs' := _) (by simp (disch:=first|decide|(simp only[zF,zG];decide)) only [zA,zB,zC,zD,zE,zF,zG,zH,zI,zJ,zK,HV.cells]; try exact rfl) (by simp (disch:=first|decide|(simp only[zF,zG];decide)) only [zA,zB,zC,zD,zE,zF,zG,zH,zI,zJ,zK,HV.cells]; try exact rfl) (by first|assumption|(simp (disch:=omega) only [get_same,get_other]; first|done|exact rfl)) (by exact True.intro) (by rfl) (by rfl) (by first|assumption|rfl|(simp only [zI,zJ,HV.cells]; exact rfl)) (by omega) ?_
         | refine r_ne (by simp (disch:=first|decide|(simp only[zF,zG];decide)) only [zA,zB,zC,zD,zE,zF,zG,zH,zI,zJ,zK,HV.cells]; try exact rfl) (by simp (disch:=first|decide|(simp only[zF,zG];decide)) only [zA,zB,zC,zD,zE,zF,zG,zH,zI,zJ,zK,HV.cells]; try exact rfl) (fun hc => ?_) (fun hc => ?_) <;> (try (exfalso; omega))
         | refine r_not1 (by simp (disch:=first|decide|(simp only[zF,zG];decide)) only [zA,zB,zC,zD,zE,zF,zG,zH,zI,zJ,zK,HV.cells]; try exact rfl) ?_
         | refine r_ext (by simp (disch:=first|decide|(simp only[zF,zG];decide)) only [zA,zB,zC,zD,zE,zF,zG,zH,zI,zJ,zK,HV.cells]; try exact rfl) (by first|assumption|rfl|(simp only [zI,zJ,HV.cells]; exact rfl)) ?_
         | refine r_calls (by simp (disch:=first|decide|(simp only[zF,zG];decide)) only [zA,zB,zC,zD,zE,zF,zG,zH,zI,zJ,zK,HV.cells]; try exact rfl) (by simp (disch:=first|decide|(simp only[zF,zG];decide)) only [List.map_cons,List.map_nil,List.nil_append,List.cons_append,List.append_nil,zA,zB,zC,zD,zE,zF,zG,zH,zI,zJ,zK,HV.cells]; try exact rfl) (cC1 _ _ _ (by repeat' first|assumption|refine Ext.put ?_ (by omega) (by omega)|exact Ext.up (by assumption) (by omega)|exact Ext.nx (by assumption) (by omega))) (fun n' hn' => ?_)
         | refine r_calls (by simp (disch:=first|decide|(simp only[zF,zG];decide)) only [zA,zB,zC,zD,zE,zF,zG,zH,zI,zJ,zK,HV.cells]; try exact rfl) (by simp (disch:=first|decide|(simp only[zF,zG];decide)) only [List.map_cons,List.map_nil,List.nil_append,List.cons_append,List.append_nil,zA,zB,zC,zD,zE,zF,zG,zH,zI,zJ,zK,HV.cells]; try exact rfl) (cR1 _ _ _ (by repeat' first|assumption|refine Ext.put ?_ (by omega) (by omega)|exact Ext.up (by assumption) (by omega)|exact Ext.nx (by assumption) (by omega))) (fun n' hn' => ?_)
         | fail
        refine fin_m (by simp only [zL,zM]) (res_c (by simp (disch:=first|decide|(simp only[zF,zG];decide)) only [zA,zB,zC,zD,zE,zF,zG,zH,zI,zJ,zK,HV.cells]; try exact rfl) (by first|assumption|(simp (disch:=omega) only [get_same,get_other]; first|done|exact rfl)) tkb (res_t (by simp (disch:=first|decide|(simp only[zF,zG];decide)) only [zA,zB,zC,zD,zE,zF,zG,zH,zI,zJ,zK,HV.cells]; try exact rfl) res_nil)) (sc_flat ?_ (by dsimp only; omega) ?_)
        · unfold forO; rw [if_pos hE, if_pos rfl, hO]; exact flat_bc2 t M 0
        · unfold forO; rw [if_pos hE, if_pos rfl, hO]; rfl
  · repeat' first
     | refine r_nil ?_
     | refine th_n ?_
     | refine th_r ?_
     | refine w_seq ?_
     | refine w_reg ?_
     | refine w_ret ?_
     | refine w_t (by simp (disch:=first|decide|(simp only[zF,zG];decide)) only [zA,zB,zC,zD,zE,zF,zG,zH,zI,zJ,zK,HV.cells]; first|done|exact rfl) ?_
     | refine r_move (by simp (disch:=first|decide|(simp only[zF,zG];decide)) only [zA,zB,zC,zD,zE,zF,zG,zH,zI,zJ,zK,HV.cells]; try exact rfl) ?_
     | refine r_ldn (by simp (disch:=first|decide|(simp only[zF,zG];decide)) only [zA,zB,zC,zD,zE,zF,zG,zH,zI,zJ,zK,HV.cells]; try exact rfl) (by first|assumption|(simp (disch:=omega) only [get_same,get_other]; first|done|exact rfl)) (by first|assumption|rfl|(simp only [zI,zJ,HV.cells]; exact rfl)) ?_
     | refine r_box (by simp (disch:=first|decide|(simp only[zF,zG];decide)) only [zA,zB,zC,zD,zE,zF,zG,zH,zI,zJ,zK,HV.cells]; try exact rfl) ?_
     | refine r_alloc ?_
     | refine r_st (cs' := _) (by simp (disch:=first|decide|(simp only[zF,zG];decide)) only [zA,zB,zC,zD,zE,zF,zG,zH,zI,zJ,zK,HV.cells]; try exact rfl) (by simp (disch:=first|decide|(simp only[zF,zG];decide)) only [zA,zB,zC,zD,zE,zF,zG,zH,zI,zJ,zK,HV.cells]; try exact rfl) (by first|assumption|(simp (disch:=omega) only [get_same,get_other]; first|done|exact rfl)) (by exact True.intro) (by rfl) (by rfl) (by first|assumption|rfl|(simp only [zI,zJ,HV.cells]; exact rfl)) (by omega) ?_
     | refine r_ne (by simp (disch:=first|decide|(simp only[zF,zG];decide)) only [zA,zB,zC,zD,zE,zF,zG,zH,zI,zJ,zK,HV.cells]; try exact rfl) (by simp (disch:=first|decide|(simp only[zF,zG];decide)) only [zA,zB,zC,zD,zE,zF,zG,zH,zI,zJ,zK,HV.cells]; try exact rfl) (fun hc => ?_) (fun hc => ?_) <;> (try (exfalso; omega))
     | refine r_build (by simp (disch:=first|decide|(simp only[zF,zG];decide)) only [evParts,List.map_cons,List.map_nil,List.nil_append,List.cons_append,List.append_nil,zA,zB,zC,zD,zE,zF,zG,zH,zI,zJ,zK,HV.cells]; try exact rfl) ?_
     | refine r_calls (by simp (disch:=first|decide|(simp only[zF,zG];decide)) only [zA,zB,zC,zD,zE,zF,zG,zH,zI,zJ,zK,HV.cells]; try exact rfl) (by simp (disch:=first|decide|(simp only[zF,zG];decide)) only [List.map_cons,List.map_nil,List.nil_append,List.cons_append,List.append_nil,zA,zB,zC,zD,zE,zF,zG,zH,zI,zJ,zK,HV.cells]; try exact rfl) (cC _ _ _ (by repeat' first|assumption|refine Ext.put ?_ (by omega) (by omega)|exact Ext.up (by assumption) (by omega)|exact Ext.nx (by assumption) (by omega))) (fun n' hn' => ?_)
     | fail
    refine fin_m (by simp only [zL,zM]) (res_c (by simp (disch:=first|decide|(simp only[zF,zG];decide)) only [zA,zB,zC,zD,zE,zF,zG,zH,zI,zJ,zK,HV.cells]; try exact rfl) (by first|assumption|(simp (disch:=omega) only [get_same,get_other]; first|done|exact rfl)) tk_z (res_t (by simp (disch:=first|decide|(simp only[zF,zG];decide)) only [zA,zB,zC,zD,zE,zF,zG,zH,zI,zJ,zK,HV.cells]; try exact rfl) res_nil)) (sc_flat ?_ (by dsimp only; omega) ?_)
    · unfold forO; rw [if_neg hE]; exact flat_z2 _
    · unfold forO; rw [if_neg hE]; rfl
/- 90 -/
theorem c_lowest {fl : Nat} {h : Tr HBlk} {nx : Nat} {t : Tb} {n k : Nat} {M : Mx} (hG : Good n M) (hn : n ≤ 10) (hk : k ≤ n) : C LW fl 90 [.agg (bcells t M), i64 k] ⟨h, nx⟩ (Sc (· = i64 (-(M k 0))) ⟨h, nx⟩) := by
  have e1 : (bcells t M)[0 + 4 + k * 11 + 0 * 1]? = some (i64 (M k 0)) := bc_get t M (by omega) (by omega)
  have b1 := hG.ub k 0 hk (by omega)
  have b2 := hG.lb (i := k) (j := 0) hk (by omega)
  refine c_in lw90 rfl rfl rfl ?_
  dsimp only [L90]
  repeat' first
   | refine r_nil ?_
   | refine th_n ?_
   | refine w_seq ?_
   | refine w_reg ?_
   | refine r_move (by simp (disch:=first|decide|(simp only[zF,zG];decide)) only [zA,zB,zC,zD,zE,zF,zG,zH,zI,zJ,zK,HV.cells]; try exact rfl) ?_
   | refine r_fa (by simp (disch:=first|decide|(simp only[zF,zG];decide)) only [zA,zB,zC,zD,zE,zF,zG,zH,zI,zJ,zK,HV.cells]; try exact rfl) ?_
   | refine r_box (by simp (disch:=first|decide|(simp only[zF,zG];decide)) only [zA,zB,zC,zD,zE,zF,zG,zH,zI,zJ,zK,HV.cells]; try exact rfl) ?_
   | refine r_ixa (by simp (disch:=first|decide|(simp only[zF,zG];decide)) only [zA,zB,zC,zD,zE,zF,zG,zH,zI,zJ,zK,HV.cells]; try exact rfl) (by simp (disch:=first|decide|(simp only[zF,zG];decide)) only [zA,zB,zC,zD,zE,zF,zG,zH,zI,zJ,zK,HV.cells]; try exact rfl) (by omega) ?_
   | fail
  refine r_ixa (j := 0) (by simp (disch:=first|decide|(simp only[zF,zG];decide)) only [zA,zB,zC,zD,zE,zF,zG,zH,zI,zJ,zK,HV.cells]; try exact rfl) (by simp (disch:=first|decide|(simp only[zF,zG];decide)) only [zA,zB,zC,zD,zE,zF,zG,zH,zI,zJ,zK,HV.cells]; try exact rfl) (by omega) ?_
  repeat' first
   | refine r_nil ?_
   | refine th_n ?_
   | refine w_ret ?_
   | refine r_move (by simp (disch:=first|decide|(simp only[zF,zG];decide)) only [zA,zB,zC,zD,zE,zF,zG,zH,zI,zJ,zK,HV.cells]; try exact rfl) ?_
   | refine r_ld1 (by simp (disch:=first|decide|(simp only[zF,zG];decide)) only [zA,zB,zC,zD,zE,zF,zG,zH,zI,zJ,zK,HV.cells]; try exact rfl) (by first|assumption|(simp (disch:=omega) only [get_same,get_other]; first|done|exact rfl)) (by first|assumption|rfl|(simp only [zI,zJ,HV.cells]; exact rfl)) ?_
   | refine r_neg (by simp (disch:=first|decide|(simp only[zF,zG];decide)) only [zA,zB,zC,zD,zE,zF,zG,zH,zI,zJ,zK,HV.cells]; try exact rfl) (by omega) (by omega) ?_
   | fail
  refine fin_r (by simp only [zL,zM]) (by simp (disch:=first|decide|(simp only[zF,zG];decide)) only [zA,zB,zC,zD,zE,zF,zG,zH,zI,zJ,zK,HV.cells]; try exact rfl) (sc_flat rfl (by dsimp only; omega) ?_); rfl
/- 91 -/
theorem c_highest {fl : Nat} {h : Tr HBlk} {nx : Nat} {t : Tb} {n k : Nat} {M : Mx} (hn : n ≤ 10) (hk : k ≤ n) : C LW fl 91 [.agg (bcells t M), i64 k] ⟨h, nx⟩ (Sc (· = i64 (M 0 k)) ⟨h, nx⟩) := by
  have e1 : (bcells t M)[0 + 4 + 0 * 11 + k * 1]? = some (i64 (M 0 k)) := bc_get t M (by omega) (by omega)
  refine c_in lw91 rfl rfl rfl ?_
  dsimp only [L91]
  repeat' first
   | refine r_nil ?_
   | refine th_n ?_
   | refine w_seq ?_
   | refine w_reg ?_
   | refine r_move (by simp (disch:=first|decide|(simp only[zF,zG];decide)) only [zA,zB,zC,zD,zE,zF,zG,zH,zI,zJ,zK,HV.cells]; try exact rfl) ?_
   | refine r_fa (by simp (disch:=first|decide|(simp only[zF,zG];decide)) only [zA,zB,zC,zD,zE,zF,zG,zH,zI,zJ,zK,HV.cells]; try exact rfl) ?_
   | refine r_box (by simp (disch:=first|decide|(simp only[zF,zG];decide)) only [zA,zB,zC,zD,zE,zF,zG,zH,zI,zJ,zK,HV.cells]; try exact rfl) ?_
   | fail
  refine r_ixa (j := 0) (by simp (disch:=first|decide|(simp only[zF,zG];decide)) only [zA,zB,zC,zD,zE,zF,zG,zH,zI,zJ,zK,HV.cells]; try exact rfl) (by simp (disch:=first|decide|(simp only[zF,zG];decide)) only [zA,zB,zC,zD,zE,zF,zG,zH,zI,zJ,zK,HV.cells]; try exact rfl) (by omega) ?_
  repeat' first
   | refine r_nil ?_
   | refine th_n ?_
   | refine w_ret ?_
   | refine r_move (by simp (disch:=first|decide|(simp only[zF,zG];decide)) only [zA,zB,zC,zD,zE,zF,zG,zH,zI,zJ,zK,HV.cells]; try exact rfl) ?_
   | refine r_ld1 (by simp (disch:=first|decide|(simp only[zF,zG];decide)) only [zA,zB,zC,zD,zE,zF,zG,zH,zI,zJ,zK,HV.cells]; try exact rfl) (by first|assumption|(simp (disch:=omega) only [get_same,get_other]; first|done|exact rfl)) (by first|assumption|rfl|(simp only [zI,zJ,HV.cells]; exact rfl)) ?_
   | refine r_ixa (by simp (disch:=first|decide|(simp only[zF,zG];decide)) only [zA,zB,zC,zD,zE,zF,zG,zH,zI,zJ,zK,HV.cells]; try exact rfl) (by simp (disch:=first|decide|(simp only[zF,zG];decide)) only [zA,zB,zC,zD,zE,zF,zG,zH,zI,zJ,zK,HV.cells]; try exact rfl) (by omega) ?_
   | fail
  refine fin_r (by simp only [zL,zM]) (by simp (disch:=first|decide|(simp only[zF,zG];decide)) only [zA,zB,zC,zD,zE,zF,zG,zH,zI,zJ,zK,HV.cells]; try exact rfl) (sc_flat rfl (by dsimp only; omega) ?_); rfl
/- 77 -/
theorem c_bothEnds {fl : Nat} {h : Tr HBlk} {nx : Nat} : C LW fl 77 [] ⟨h, nx⟩ (Sc (· = .agg [.func 90 [] [], .func 91 [] []]) ⟨h, nx⟩) := by
  have fi : fillH [.nilFunc, .nilFunc] [(0, 1, .func 90 [] []), (1, 1, .func 91 [] [])] = some [.func 90 [] [], .func 91 [] []] := rfl
  have ow : overwrite [.nilFunc, .nilFunc] 0 (HV.agg [.func 90 [] [], .func 91 [] []]).cells = some [.func 90 [] [], .func 91 [] []] := rfl
  refine c_in lw77 rfl rfl rfl ?_
  dsimp only [L77]
  repeat' first
   | refine r_nil ?_
   | refine th_n ?_
   | refine w_seq ?_
   | refine w_reg ?_
   | refine w_ret ?_
   | refine r_alloc ?_
   | refine r_st (cs' := _) (by simp (disch:=first|decide|(simp only[zF,zG,fi];decide)) only [zA,zB,zC,zD,zE,zF,zG,zH,zI,zJ,zK,HV.cells,fi]; try exact rfl) (by simp (disch:=first|decide|(simp only[zF,zG,fi];decide)) only [zA,zB,zC,zD,zE,zF,zG,zH,zI,zJ,zK,HV.cells,fi]; try exact rfl) (by first|assumption|(simp (disch:=omega) only [get_same,get_other,fi]; first|done|exact rfl)) (by exact True.intro) (by rfl) (by rfl) (by first|assumption|rfl|(simp only [zI,zJ,HV.cells,fi]; exact rfl)) (by omega) ?_
   | refine r_build (by simp (disch:=first|decide|(simp only[zF,zG,fi];decide)) only [evParts,List.map_cons,List.map_nil,List.nil_append,List.cons_append,List.append_nil,zA,zB,zC,zD,zE,zF,zG,zH,zI,zJ,zK,HV.cells,fi]; try exact rfl) ?_
   | fail
  exact fin_m (by simp only [zL,zM]) (res_c (by simp (disch:=first|decide|(simp only[zF,zG];decide)) only [zA,zB,zC,zD,zE,zF,zG,zH,zI,zJ,zK,HV.cells]; try exact rfl) (by first|assumption|(simp (disch:=omega) only [get_same,get_other]; first|done|exact rfl)) rfl res_nil) (sc_flat rfl (by dsimp only; omega) rfl)
/-- A range as cells. -/
def renc (r : Int × Int) : List HV := [i64 r.1, i64 r.2]
theorem renc_len (r : Int × Int) : (renc r).length = 2 := rfl
theorem renc_flat (r : Int × Int) : (renc r).all flat1 = true := rfl
/-- The bounds of the first marks. -/
def BL (M : Mx) (k : Nat) : List (Int × Int) := (List.range k).map fun i => (-(M i 0), M 0 i)
theorem BL_len (M : Mx) (k : Nat) : (BL M k).length = k := by simp [BL]
theorem BL_succ (M : Mx) (k : Nat) : BL M (k + 1) = BL M k ++ [(-(M k 0), M 0 k)] := by simp [BL, List.range_succ]
theorem BL_get (M : Mx) {k i : Nat} (hi : i < k) : (BL M k)[i]? = some (-(M i 0), M 0 i) := by simp [BL, List.getElem?_range hi]
/-- Rows, and what is free behind them. -/
def FC {α : Type} (enc : α → List HV) (l : List α) (fr : Nat) : List HV := l.flatMap enc ++ List.replicate fr (i64 0)
theorem ow_many : ∀ (A Z B R : List HV), Z.length = R.length → overwrite (A ++ (Z ++ B)) A.length R = some (A ++ (R ++ B))
  | [], [], B, [], _ => by cases B <;> rfl
  | [], z :: Z, B, r :: R, h => by
    show (overwrite (Z ++ B) 0 R).map _ = _
    have := ow_many [] Z B R (by simpa using h)
    simp only [List.nil_append, List.length_nil] at this
    rw [this]; rfl
  | x :: A, Z, B, R, h => by
    cases R with
    | nil =>
      cases Z with
      | nil => rfl
      | cons z Z => simp at h
    | cons r R =>
      show (overwrite (A ++ (Z ++ B)) A.length (r :: R)).map _ = _
      rw [ow_many A Z B (r :: R) h]; rfl
theorem FC_ow {α : Type} {enc : α → List HV} {sz : Nat} (he : ∀ x, (enc x).length = sz) (l : List α) (x : α) (fr : Nat) : overwrite (FC enc l (sz + fr)) (0 + l.length * sz) (enc x) = some (FC enc (l ++ [x]) fr) := by
  unfold FC
  rw [← List.replicate_append_replicate, show 0 + l.length * sz = (l.flatMap enc).length by rw [flat_len he]; omega, ow_many _ _ _ _ (by rw [he]; simp), List.flatMap_append]
  simp
theorem repl_two : ∀ n : Nat, repl n [i64 0, i64 0] = List.replicate (2 * n) (i64 0)
  | 0 => rfl
  | n + 1 => by
    have := repl_two n
    unfold repl at this ⊢
    rw [List.replicate_succ, List.flatten_cons, this, show 2 * (n + 1) = 2 * n + 1 + 1 by omega, List.replicate_succ, List.replicate_succ]; rfl
/- 73 -/
theorem loop73 {fl : Nat} {h0 : Tr HBlk} {n0 : Nat} {Q : HExit → HAct → HS → Prop} {bb eb rb n : Nat} {t : Tb} {M : Mx} (hn : n ≤ 10) (htc : t.c = n) (hG : Good n M) (hfl : fl ≤ rb) (hb1 : bb < n0) (hb2 : eb < n0) (hb3 : rb < n0) (hb4 : bb ≠ rb) (hb5 : eb ≠ rb)
    (hgb : h0.get bb = some (.cells (bcells t M) .exact)) (hge : h0.get eb = some (.cells [.func 90 [] [], .func 91 [] []] .exact)) :
    ∀ (m i : Nat) (a : HAct) (h : Tr HBlk) (nx : Nat), m + i = n + 1 → n0 ≤ nx → D h nx → (∀ b, b < n0 → b ≠ rb → h.get b = h0.get b) → h.get rb = some (.cells (FC renc (BL M i) (2 * m)) .exact) →
      a.nt = 34 → a.defers = [] → a.tmp 1 = .ptr (some (bb, 0)) → a.tmp 3 = .ptr (some (eb, 0)) → a.tmp 4 = .slice (some (rb, 0)) i (n + 1) → a.tmp 5 = i64 i →
      (∀ a' h' n', n0 ≤ n' → h'.get rb = some (.cells (FC renc (BL M (n + 1)) 0) .exact) → a'.nt = 34 → a'.defers = [] → a'.tmp 4 = .slice (some (rb, 0)) (n + 1) (n + 1) → Q .normal a' ⟨h', n'⟩) → W LW fl none (.loop L73w0) (inBlockH 0 Q) a ⟨h, nx⟩
  | 0, i, a, h, nx, hm, hnx, hd, hs, hgr, hnt, hds, h1, h3, h4, h5, hq => by
    have hi : i = n + 1 := by omega
    subst hi
    have ec : (bcells t M)[0 + 0 + 0]? = some (i64 n) := by rw [← htc]; rfl
    have hgb' : h.get bb = some (.cells (bcells t M) .exact) := by rw [hs _ hb1 hb4]; exact hgb
    refine w_it (show L73w0 = _ by unfold L73w0; exact rfl) ?_
    repeat' first
     | refine r_nil ?_
     | refine th_n ?_
     | refine th_e ?_
     | refine ib_e ?_
     | refine w_exit ?_
     | refine w_seq ?_
     | refine w_reg ?_
     | refine w_f (by simp (disch:=first|decide|(simp only[zF,zG,hnt, h1, h3, h4, h5];decide)) only [zA,zB,zC,zD,zE,zF,zG,zH,zI,zJ,zK,HV.cells,hnt, h1, h3, h4, h5]; first|done|exact rfl) ?_
     | refine r_move (by simp (disch:=first|decide|(simp only[zF,zG,hnt, h1, h3, h4, h5];decide)) only [zA,zB,zC,zD,zE,zF,zG,zH,zI,zJ,zK,HV.cells,hnt, h1, h3, h4, h5]; try exact rfl) ?_
     | refine r_fa (by simp (disch:=first|decide|(simp only[zF,zG,hnt, h1, h3, h4, h5];decide)) only [zA,zB,zC,zD,zE,zF,zG,zH,zI,zJ,zK,HV.cells,hnt, h1, h3, h4, h5]; try exact rfl) ?_
     | refine r_ld1 (by simp (disch:=first|decide|(simp only[zF,zG,hnt, h1, h3, h4, h5];decide)) only [zA,zB,zC,zD,zE,zF,zG,zH,zI,zJ,zK,HV.cells,hnt, h1, h3, h4, h5]; try exact rfl) (by first|assumption|(simp (disch:=omega) only [get_same,get_other,hnt, h1, h3, h4, h5]; first|done|exact rfl)) (by first|assumption|rfl|(simp only [zI,zJ,HV.cells,hnt, h1, h3, h4, h5]; exact rfl)) ?_
     | refine r_leq (by simp (disch:=first|decide|(simp only[zF,zG,hnt, h1, h3, h4, h5];decide)) only [zA,zB,zC,zD,zE,zF,zG,zH,zI,zJ,zK,HV.cells,hnt, h1, h3, h4, h5]; try exact rfl) (by simp (disch:=first|decide|(simp only[zF,zG,hnt, h1, h3, h4, h5];decide)) only [zA,zB,zC,zD,zE,zF,zG,zH,zI,zJ,zK,HV.cells,hnt, h1, h3, h4, h5]; try exact rfl) (fun hc => ?_) (fun hc => ?_) <;> (try (exfalso; omega))
     | fail
    refine hq _ _ _ hnx hgr ?_ ?_ ?_
    all_goals first|(simp only [zL,zM,zF,zG,hnt, hds, h4];done)|(simp (disch:=first|decide|(simp only[zF,zG,hnt, hds, h4];decide)) only [zA,zB,zC,zD,zE,zF,zG,zH,zI,zJ,zK,HV.cells,hnt, hds, h4];first|done|exact rfl)|assumption
  | m + 1, i, a, h, nx, hm, hnx, hd, hs, hgr, hnt, hds, h1, h3, h4, h5, hq => by
    have hi : i ≤ n := by omega
    have ec : (bcells t M)[0 + 0 + 0]? = some (i64 n) := by rw [← htc]; rfl
    have tkb := take_bc t M
    have hgb' : h.get bb = some (.cells (bcells t M) .exact) := by rw [hs _ hb1 hb4]; exact hgb
    have hge' : h.get eb = some (.cells [.func 90 [] [], .func 91 [] []] .exact) := by rw [hs _ hb2 hb5]; exact hge
    have fi : fillH [i64 0, i64 0] [(0, 1, i64 (-(M i 0))), (1, 1, i64 (M 0 i))] = some (renc (-(M i 0), M 0 i)) := rfl
    have fi2 : fillH (repl 1 [i64 0, i64 0]) [(0, 2, .agg (renc (-(M i 0), M 0 i)))] = some (renc (-(M i 0), M 0 i)) := rfl
    refine w_it (show L73w0 = _ by unfold L73w0; exact rfl) ?_
    repeat' first
     | refine r_nil ?_
     | refine th_n ?_
     | refine w_seq ?_
     | refine w_reg ?_
     | refine w_skip ?_
     | refine w_block ?_
     | refine w_t (by simp (disch:=first|decide|(simp only[zF,zG,hnt, h1, h3, h4, h5, fi, fi2];decide)) only [zA,zB,zC,zD,zE,zF,zG,zH,zI,zJ,zK,HV.cells,hnt, h1, h3, h4, h5, fi, fi2]; first|done|exact rfl) ?_
     | refine r_move (by simp (disch:=first|decide|(simp only[zF,zG,hnt, h1, h3, h4, h5, fi, fi2];decide)) only [zA,zB,zC,zD,zE,zF,zG,zH,zI,zJ,zK,HV.cells,hnt, h1, h3, h4, h5, fi, fi2]; try exact rfl) ?_
     | refine r_fa (by simp (disch:=first|decide|(simp only[zF,zG,hnt, h1, h3, h4, h5, fi, fi2];decide)) only [zA,zB,zC,zD,zE,zF,zG,zH,zI,zJ,zK,HV.cells,hnt, h1, h3, h4, h5, fi, fi2]; try exact rfl) ?_
     | refine r_ld1 (by simp (disch:=first|decide|(simp only[zF,zG,hnt, h1, h3, h4, h5, fi, fi2];decide)) only [zA,zB,zC,zD,zE,zF,zG,zH,zI,zJ,zK,HV.cells,hnt, h1, h3, h4, h5, fi, fi2]; try exact rfl) (by first|assumption|(simp (disch:=omega) only [get_same,get_other,hnt, h1, h3, h4, h5, fi, fi2]; first|done|exact rfl)) (by first|assumption|rfl|(simp only [zI,zJ,HV.cells,hnt, h1, h3, h4, h5, fi, fi2]; exact rfl)) ?_
     | refine r_ldn (by simp (disch:=first|decide|(simp only[zF,zG,hnt, h1, h3, h4, h5, fi, fi2];decide)) only [zA,zB,zC,zD,zE,zF,zG,zH,zI,zJ,zK,HV.cells,hnt, h1, h3, h4, h5, fi, fi2]; try exact rfl) (by first|assumption|(simp (disch:=omega) only [get_same,get_other,hnt, h1, h3, h4, h5, fi, fi2]; first|done|exact rfl)) (by first|assumption|rfl|(simp only [zI,zJ,HV.cells,hnt, h1, h3, h4, h5, fi, fi2]; exact rfl)) ?_
     | refine r_leq (by simp (disch:=first|decide|(simp only[zF,zG,hnt, h1, h3, h4, h5, fi, fi2];decide)) only [zA,zB,zC,zD,zE,zF,zG,zH,zI,zJ,zK,HV.cells,hnt, h1, h3, h4, h5, fi, fi2]; try exact rfl) (by simp (disch:=first|decide|(simp only[zF,zG,hnt, h1, h3, h4, h5, fi, fi2];decide)) only [zA,zB,zC,zD,zE,zF,zG,zH,zI,zJ,zK,HV.cells,hnt, h1, h3, h4, h5, fi, fi2]; try exact rfl) (fun hc => ?_) (fun hc => ?_) <;> (try (exfalso; omega))
     | refine r_build (by simp (disch:=first|decide|(simp only[zF,zG,hnt, h1, h3, h4, h5, fi, fi2];decide)) only [evParts,List.map_cons,List.map_nil,List.nil_append,List.cons_append,List.append_nil,zA,zB,zC,zD,zE,zF,zG,zH,zI,zJ,zK,HV.cells,hnt, h1, h3, h4, h5, fi, fi2]; try exact rfl) ?_
     | refine r_bs (by simp (disch:=first|decide|(simp only[zF,zG,hnt, h1, h3, h4, h5, fi, fi2];decide)) only [evParts,List.map_cons,List.map_nil,List.nil_append,List.cons_append,List.append_nil,zA,zB,zC,zD,zE,zF,zG,zH,zI,zJ,zK,HV.cells,hnt, h1, h3, h4, h5, fi, fi2]; try exact rfl) ?_
     | refine r_calls (by simp (disch:=first|decide|(simp only[zF,zG,hnt, h1, h3, h4, h5, fi, fi2];decide)) only [zA,zB,zC,zD,zE,zF,zG,zH,zI,zJ,zK,HV.cells,hnt, h1, h3, h4, h5, fi, fi2]; try exact rfl) (by simp (disch:=first|decide|(simp only[zF,zG,hnt, h1, h3, h4, h5, fi, fi2];decide)) only [List.map_cons,List.map_nil,List.nil_append,List.cons_append,List.append_nil,zA,zB,zC,zD,zE,zF,zG,zH,zI,zJ,zK,HV.cells,hnt, h1, h3, h4, h5, fi, fi2]; try exact rfl) (c_lowest hG hn hi) (fun n' hn' => ?_)
     | refine r_calls (by simp (disch:=first|decide|(simp only[zF,zG,hnt, h1, h3, h4, h5, fi, fi2];decide)) only [zA,zB,zC,zD,zE,zF,zG,zH,zI,zJ,zK,HV.cells,hnt, h1, h3, h4, h5, fi, fi2]; try exact rfl) (by simp (disch:=first|decide|(simp only[zF,zG,hnt, h1, h3, h4, h5, fi, fi2];decide)) only [List.map_cons,List.map_nil,List.nil_append,List.cons_append,List.append_nil,zA,zB,zC,zD,zE,zF,zG,zH,zI,zJ,zK,HV.cells,hnt, h1, h3, h4, h5, fi, fi2]; try exact rfl) (c_highest hn hi) (fun n' hn' => ?_)
     | refine w_draw (by omega) (by repeat' first|assumption|refine D.upd ?_ (by omega)|exact D.mono (by assumption) (by omega)) ?_
     | refine d_rest rfl ?_
     | refine d_one rfl ?_
     | refine d_next (by omega) ?_
     | fail
    have hfc := FC_ow renc_len (BL M i) (-(M i 0), M 0 i) (2 * m)
    rw [BL_len, ← BL_succ] at hfc
    have ha := app_in (fl := fl) (size := 2) (bytes := 16) (nx := n' + 1) (h := h.set n' (some (.cells (renc (-(M i 0), M 0 i)) .exact))) (bx := n') (ox := 0) (cx := 1) (n := 1) (b := rb) (o := 0) (k := i) (z := n + 1) (row := renc (-(M i 0), M 0 i)) (k2 := .exact) (get_same _ _ _) rfl (by rw [get_other _ _ (by omega)]; exact hgr) True.intro (by omega) rfl (by simp [renc]) (by omega) (by rw [show 2 * (m + 1) = 2 + 2 * m by omega]; exact hfc)
    refine r_app (by simp (disch:=first|decide|(simp only[zF,zG,hnt, h4];decide)) only [zA,zB,zC,zD,zE,zF,zG,zH,zI,zJ,zK,HV.cells,hnt, h4]; try exact rfl) (by simp (disch:=first|decide|(simp only[zF,zG,hnt];decide)) only [zA,zB,zC,zD,zE,zF,zG,zH,zI,zJ,zK,HV.cells,hnt]; try exact rfl) ha ?_
    repeat' first
     | refine r_nil ?_
     | refine th_n ?_
     | refine ib_n ?_
     | refine w_reg ?_
     | refine r_move (by simp (disch:=first|decide|(simp only[zF,zG,hnt, h1, h3, h5];decide)) only [zA,zB,zC,zD,zE,zF,zG,zH,zI,zJ,zK,HV.cells,hnt, h1, h3, h5]; try exact rfl) ?_
     | refine r_add (by simp (disch:=first|decide|(simp only[zF,zG,hnt, h1, h3, h5];decide)) only [zA,zB,zC,zD,zE,zF,zG,zH,zI,zJ,zK,HV.cells,hnt, h1, h3, h5]; try exact rfl) (by simp (disch:=first|decide|(simp only[zF,zG,hnt, h1, h3, h5];decide)) only [zA,zB,zC,zD,zE,zF,zG,zH,zI,zJ,zK,HV.cells,hnt, h1, h3, h5]; try exact rfl) (by omega) (by omega) ?_
     | fail
    refine loop73 hn htc hG hfl hb1 hb2 hb3 hb4 hb5 hgb hge m (i + 1) _ _ _ (by omega) (by omega) (by repeat' first|assumption|refine D.upd ?_ (by omega)|exact D.mono (by assumption) (by omega)) (fun b hb hne => ?_) (get_same _ _ _) ?_ ?_ ?_ ?_ ?_ ?_ hq
    all_goals try first|(simp only [zL,zM,zF,zG,hnt, hds, h1, h3, h5];done)|(simp (disch:=first|decide|(simp only[zF,zG,hnt, hds, h1, h3, h5];decide)) only [zA,zB,zC,zD,zE,zF,zG,zH,zI,zJ,zK,HV.cells,hnt, hds, h1, h3, h5];first|done|exact rfl)|assumption
    rw [get_other _ _ hne, get_other _ _ (by omega)]; exact hs b hb hne
theorem c_bounds {fl : Nat} {h : Tr HBlk} {nx : Nat} (hd : D h nx) {t : Tb} {n : Nat} {M : Mx} (hn : n ≤ 10) (htc : t.c = n) (hG : Good n M) : C LW fl 73 [.agg (bcells t M)] ⟨h, nx⟩ (ScL renc 2 (BL M (n + 1)) ⟨h, nx⟩) := by
  have ec : (bcells t M)[0 + 0 + 0]? = some (i64 n) := by rw [← htc]; rfl
  have ow : overwrite [.nilFunc, .nilFunc] 0 (HV.agg [.func 90 [] [], .func 91 [] []]).cells = some [.func 90 [] [], .func 91 [] []] := rfl
  refine c_in lw73 rfl rfl rfl ?_
  dsimp only [L73]
  repeat' first
   | refine r_nil ?_
   | refine th_n ?_
   | refine w_seq ?_
   | refine w_reg ?_
   | refine r_move (by simp (disch:=first|decide|(simp only[zF,zG];decide)) only [zA,zB,zC,zD,zE,zF,zG,zH,zI,zJ,zK,HV.cells]; try exact rfl) ?_
   | refine r_fa (by simp (disch:=first|decide|(simp only[zF,zG];decide)) only [zA,zB,zC,zD,zE,zF,zG,zH,zI,zJ,zK,HV.cells]; try exact rfl) ?_
   | refine r_ld1 (by simp (disch:=first|decide|(simp only[zF,zG];decide)) only [zA,zB,zC,zD,zE,zF,zG,zH,zI,zJ,zK,HV.cells]; try exact rfl) (by first|assumption|(simp (disch:=omega) only [get_same,get_other]; first|done|exact rfl)) (by first|assumption|rfl|(simp only [zI,zJ,HV.cells]; exact rfl)) ?_
   | refine r_box (by simp (disch:=first|decide|(simp only[zF,zG];decide)) only [zA,zB,zC,zD,zE,zF,zG,zH,zI,zJ,zK,HV.cells]; try exact rfl) ?_
   | refine r_alloc ?_
   | refine r_st (cs' := _) (by simp (disch:=first|decide|(simp only[zF,zG];decide)) only [zA,zB,zC,zD,zE,zF,zG,zH,zI,zJ,zK,HV.cells]; try exact rfl) (by simp (disch:=first|decide|(simp only[zF,zG];decide)) only [zA,zB,zC,zD,zE,zF,zG,zH,zI,zJ,zK,HV.cells]; try exact rfl) (by first|assumption|(simp (disch:=omega) only [get_same,get_other]; first|done|exact rfl)) (by exact True.intro) (by rfl) (by rfl) (by first|assumption|rfl|(simp only [zI,zJ,HV.cells]; exact rfl)) (by omega) ?_
   | refine r_add (by simp (disch:=first|decide|(simp only[zF,zG];decide)) only [zA,zB,zC,zD,zE,zF,zG,zH,zI,zJ,zK,HV.cells]; try exact rfl) (by simp (disch:=first|decide|(simp only[zF,zG];decide)) only [zA,zB,zC,zD,zE,zF,zG,zH,zI,zJ,zK,HV.cells]; try exact rfl) (by omega) (by omega) ?_
   | refine r_calls (by simp (disch:=first|decide|(simp only[zF,zG];decide)) only [zA,zB,zC,zD,zE,zF,zG,zH,zI,zJ,zK,HV.cells]; try exact rfl) (by simp (disch:=first|decide|(simp only[zF,zG];decide)) only [List.map_cons,List.map_nil,List.nil_append,List.cons_append,List.append_nil,zA,zB,zC,zD,zE,zF,zG,zH,zI,zJ,zK,HV.cells]; try exact rfl) c_bothEnds (fun n' hn' => ?_)
   | fail
  refine r_ms (ln := 0) (cn := n + 1) (by simp (disch:=first|decide|(simp only[zF,zG];decide)) only [zA,zB,zC,zD,zE,zF,zG,zH,zI,zJ,zK,HV.cells]; try exact rfl) (by simp (disch:=first|decide|(simp only[zF,zG];decide)) only [zA,zB,zC,zD,zE,zF,zG,zH,zI,zJ,zK,HV.cells]; try exact rfl) (by omega) (by omega) (by omega) ?_
  rw [repl_two, show List.replicate (2 * (n + 1)) (i64 0) = FC renc (BL M 0) (2 * (n + 1)) from rfl]
  repeat' first
   | refine r_nil ?_
   | refine th_n ?_
   | refine w_seq ?_
   | refine w_reg ?_
   | refine w_block ?_
   | refine r_move (by simp (disch:=first|decide|(simp only[zF,zG];decide)) only [zA,zB,zC,zD,zE,zF,zG,zH,zI,zJ,zK,HV.cells]; try exact rfl) ?_
   | fail
  refine loop73 (bb := nx) (eb := n') (rb := n' + 1) (n0 := n' + 1 + 1) hn htc hG (by omega) (by omega) (by omega) (by omega) (by omega) (by omega) (by first|assumption|(simp (disch:=omega) only [get_same,get_other]; first|done|exact rfl)) (by first|assumption|(simp (disch:=omega) only [get_same,get_other]; first|done|exact rfl)) (n + 1) 0 _ _ (n' + 1 + 1) (by omega) (Nat.le_refl _) (by repeat' first|assumption|refine D.upd ?_ (by omega)|exact D.mono (by assumption) (by omega)) (fun b _ _ => rfl) (by first|assumption|(simp (disch:=omega) only [get_same,get_other]; first|done|exact rfl)) ?_ ?_ ?_ ?_ ?_ ?_ (fun a' h' n2 g0 g1 g2 g3 g4 => ?_)
  all_goals try first|(simp only [zL,zM,zF,zG];done)|(simp (disch:=first|decide|(simp only[zF,zG];decide)) only [zA,zB,zC,zD,zE,zF,zG,zH,zI,zJ,zK,HV.cells];first|done|exact rfl)|assumption
  repeat' first
   | refine r_nil ?_
   | refine th_n ?_
   | refine w_seq ?_
   | refine w_reg ?_
   | refine w_ret ?_
   | refine r_move (by simp (disch:=first|decide|(simp only[zF,zG,g2, g4];decide)) only [zA,zB,zC,zD,zE,zF,zG,zH,zI,zJ,zK,HV.cells,g2, g4]; try exact rfl) ?_
   | fail
  refine fin_r (by simp only [zL, g3]) (by simp (disch:=first|decide|(simp only[zF,zG,g2, g4];decide)) only [zA,zB,zC,zD,zE,zF,zG,zH,zI,zJ,zK,HV.cells,g2, g4]; try exact rfl) ?_
  have := scl_blk (c := n + 1) (l := BL M (n + 1)) (rest := []) (k := .exact) (nx := n2) (h := h') renc_len renc_flat rfl hd (show nx ≤ n' + 1 by omega) (by omega) (by rw [g1]; rfl)
  rwa [BL_len] at this
theorem readGo_good {n : Nat} : ∀ (l seen : List Rd) (M M' : Mx), (∀ r ∈ l, RdOk2 n r) → Good n M → readGo n seen l M = some M' → Good n M'
  | [], _, M, M', _, hG, h => by cases h; exact hG
  | r :: rs, seen, M, M', hl, hG, h => by
    unfold readGo at h
    split at h
    · exact readGo_good rs seen M M' (fun x hx => hl x (List.mem_cons_of_mem _ hx)) hG h
    · split at h
      · rename_i M1 h1
        exact readGo_good rs _ M1 M' (fun x hx => hl x (List.mem_cons_of_mem _ hx)) (withM_good hG (hl r (List.mem_cons_self ..)) h1) h
      · cases h
theorem readO_good {t : Tb} {n : Nat} {l : List Rd} {M : Mx} (htc : t.c = n) (ht : TubeOk t.c t.t t.a t.b) (hl : ∀ r ∈ l, RdOk2 t.c r) (h : readO t n l = some M) : Good n M :=
  readGo_good l [] _ M (by rw [← htc]; exact hl) (unr_ok htc ht).2.2 h
/-- What 'Heights' hands back: a list and an error. -/
def HeightsK (t : Tb) (n : Nat) (l : List Rd) (σ : HS) : HV → HS → Prop := fun v σ' =>
  (∃ M, errOf t.c t.t t.a t.b l = 0 ∧ readO t n l = some M ∧ ∃ p c h' n', v = .tuple [.slice p (n + 1) c, i64 0] ∧ σ' = ⟨h', n'⟩ ∧ Ext σ.h σ.nx h' n' ∧ Row renc 2 h' n' p (BL M (n + 1))) ∨
  (errOf t.c t.t t.a t.b l = 0 ∧ readO t n l = none ∧ Sc (· = .tuple [.slice none 0 0, i64 9]) σ v σ') ∨
  (errOf t.c t.t t.a t.b l ≠ 0 ∧ Sc (· = .tuple [.slice none 0 0, i64 (errOf t.c t.t t.a t.b l)]) σ v σ')
/- 29 -/
theorem c_Heights {fl : Nat} {h : Tr HBlk} {nx : Nat} (hd : D h nx) {t : Tb} {n : Nat} {p : Option (Nat × Nat)} {l : List Rd} {m cp : Nat} (htc : TubeOk t.c t.t t.a t.b → t.c = n) (hm : m = l.length) (hlen : l.length < 1000000) (hrow : Row Rd.enc 4 h nx p l) :
    C LW fl 29 [.agg t.cells, .slice p m cp] ⟨h, nx⟩ (HeightsK t n l ⟨h, nx⟩) := by
  subst hm
  have tk : takeN 4 (t.cells.drop 0) = some t.cells := rfl
  have owz : overwrite (Zr 125) 0 (HV.agg (Zr 125)).cells = some (Zr 125) := ow_all _ _ rfl
  have cF : ∀ fl h' n', Ext h nx h' n' → C LW fl 72 [.agg t.cells, .slice p l.length cp, .bool true] ⟨h', n'⟩ (Sc (· = forO t n l true) ⟨h', n'⟩) := fun fl h' n' e => c_readFor e.d htc rfl hlen (hrow.ext e)
  refine c_in lw29 rfl rfl rfl ?_
  dsimp only [L29]
  by_cases hE : errOf t.c t.t t.a t.b l = 0
  · obtain ⟨hT, hL, hR⟩ := errOf_zero hE
    cases hO : readO t n l with
    | none =>
      have cF1 : ∀ fl h' n', Ext h nx h' n' → C LW fl 72 [.agg t.cells, .slice p l.length cp, .bool true] ⟨h', n'⟩ (Sc (· = .tuple [.agg (Zr 125), i64 9]) ⟨h', n'⟩) := fun fl h' n' e => by have := cF fl h' n' e; unfold forO at this; rw [if_pos hE, if_pos rfl, hO] at this; exact this
      repeat' first
       | refine r_nil ?_
       | refine th_n ?_
       | refine th_r ?_
       | refine w_seq ?_
       | refine w_reg ?_
       | refine w_ret ?_
       | refine w_t (by simp (disch:=first|decide|(simp only[zF,zG];decide)) only [zA,zB,zC,zD,zE,zF,zG,zH,zI,zJ,zK,HV.cells]; first|done|exact rfl) ?_
       | refine r_move (by simp (disch:=first|decide|(simp only[zF,zG];decide)) only [zA,zB,zC,zD,zE,zF,zG,zH,zI,zJ,zK,HV.cells]; try exact rfl) ?_
       | refine r_ldn (by simp (disch:=first|decide|(simp only[zF,zG];decide)) only [zA,zB,zC,zD,zE,zF,zG,zH,zI,zJ,zK,HV.cells]; try exact rfl) (by first|assumption|(simp (disch:=omega) only [get_same,get_other]; first|done|exact rfl)) (by first|assumption|rfl|(simp only [zI,zJ,HV.cells]; exact rfl)) ?_
       | refine r_box (by simp (disch:=first|decide|(simp only[zF,zG];decide)) only [zA,zB,zC,zD,zE,zF,zG,zH,zI,zJ,zK,HV.cells]; try exact rfl) ?_
       | refine r_alloc ?_
       | refine r_st (cs' := _) (by simp (disch:=first|decide|(simp only[zF,zG];decide)) only [zA,zB,zC,zD,zE,zF,zG,zH,zI,zJ,zK,HV.cells]; try exact rfl) (by simp (disch:=first|decide|(simp only[zF,zG];decide)) only [zA,zB,zC,zD,zE,zF,zG,zH,zI,zJ,zK,HV.cells]; try exact rfl) (by first|assumption|(simp (disch:=omega) only [get_same,get_other]; first|done|exact rfl)) (by exact True.intro) (by rfl) (by rfl) (by first|assumption|rfl|(simp only [zI,zJ,HV.cells]; exact rfl)) (by omega) ?_
       | refine r_ne (by simp (disch:=first|decide|(simp only[zF,zG];decide)) only [zA,zB,zC,zD,zE,zF,zG,zH,zI,zJ,zK,HV.cells]; try exact rfl) (by simp (disch:=first|decide|(simp only[zF,zG];decide)) only [zA,zB,zC,zD,zE,zF,zG,zH,zI,zJ,zK,HV.cells]; try exact rfl) (fun hc => ?_) (fun hc => ?_) <;> (try (exfalso; omega))
       | refine r_ext (by simp (disch:=first|decide|(simp only[zF,zG];decide)) only [zA,zB,zC,zD,zE,zF,zG,zH,zI,zJ,zK,HV.cells]; try exact rfl) (by first|assumption|rfl|(simp only [zI,zJ,HV.cells]; exact rfl)) ?_
       | refine r_calls (by simp (disch:=first|decide|(simp only[zF,zG];decide)) only [zA,zB,zC,zD,zE,zF,zG,zH,zI,zJ,zK,HV.cells]; try exact rfl) (by simp (disch:=first|decide|(simp only[zF,zG];decide)) only [List.map_cons,List.map_nil,List.nil_append,List.cons_append,List.append_nil,zA,zB,zC,zD,zE,zF,zG,zH,zI,zJ,zK,HV.cells]; try exact rfl) (cF1 _ _ _ (by repeat' first|assumption|refine Ext.put ?_ (by omega) (by omega)|exact Ext.up (by assumption) (by omega)|exact Ext.nx (by assumption) (by omega))) (fun n' hn' => ?_)
       | fail
      refine fin_m (by simp only [zL,zM]) (res_t (by simp (disch:=first|decide|(simp only[zF,zG];decide)) only [zA,zB,zC,zD,zE,zF,zG,zH,zI,zJ,zK,HV.cells]; try exact rfl) (res_t (by simp (disch:=first|decide|(simp only[zF,zG];decide)) only [zA,zB,zC,zD,zE,zF,zG,zH,zI,zJ,zK,HV.cells]; try exact rfl) res_nil)) (.inr (.inl ⟨hE, hO, sc_flat rfl (by dsimp only; omega) rfl⟩))
    | some M =>
      have hG := readO_good (htc hT) hT hR hO
      have hTo := hT
      unfold TubeOk at hTo
      have hcn := htc hT
      have tkb := take_bc t M
      have owb := ow_bc t M
      have cF1 : ∀ fl h' n', Ext h nx h' n' → C LW fl 72 [.agg t.cells, .slice p l.length cp, .bool true] ⟨h', n'⟩ (Sc (· = .tuple [.agg (bcells t M), i64 0]) ⟨h', n'⟩) := fun fl h' n' e => by have := cF fl h' n' e; unfold forO at this; rw [if_pos hE, if_pos rfl, hO] at this; exact this
      repeat' first
       | refine r_nil ?_
       | refine th_n ?_
       | refine w_seq ?_
       | refine w_reg ?_
       | refine w_skip ?_
       | refine w_f (by simp (disch:=first|decide|(simp only[zF,zG];decide)) only [zA,zB,zC,zD,zE,zF,zG,zH,zI,zJ,zK,HV.cells]; first|done|exact rfl) ?_
       | refine r_move (by simp (disch:=first|decide|(simp only[zF,zG];decide)) only [zA,zB,zC,zD,zE,zF,zG,zH,zI,zJ,zK,HV.cells]; try exact rfl) ?_
       | refine r_ldn (by simp (disch:=first|decide|(simp only[zF,zG];decide)) only [zA,zB,zC,zD,zE,zF,zG,zH,zI,zJ,zK,HV.cells]; try exact rfl) (by first|assumption|(simp (disch:=omega) only [get_same,get_other]; first|done|exact rfl)) (by first|assumption|rfl|(simp only [zI,zJ,HV.cells]; exact rfl)) ?_
       | refine r_box (by simp (disch:=first|decide|(simp only[zF,zG];decide)) only [zA,zB,zC,zD,zE,zF,zG,zH,zI,zJ,zK,HV.cells]; try exact rfl) ?_
       | refine r_alloc ?_
       | refine r_st (cs' := _) (by simp (disch:=first|decide|(simp only[zF,zG];decide)) only [zA,zB,zC,zD,zE,zF,zG,zH,zI,zJ,zK,HV.cells]; try exact rfl) (by simp (disch:=first|decide|(simp only[zF,zG];decide)) only [zA,zB,zC,zD,zE,zF,zG,zH,zI,zJ,zK,HV.cells]; try exact rfl) (by first|assumption|(simp (disch:=omega) only [get_same,get_other]; first|done|exact rfl)) (by exact True.intro) (by rfl) (by rfl) (by first|assumption|rfl|(simp only [zI,zJ,HV.cells]; exact rfl)) (by omega) ?_
       | refine r_ne (by simp (disch:=first|decide|(simp only[zF,zG];decide)) only [zA,zB,zC,zD,zE,zF,zG,zH,zI,zJ,zK,HV.cells]; try exact rfl) (by simp (disch:=first|decide|(simp only[zF,zG];decide)) only [zA,zB,zC,zD,zE,zF,zG,zH,zI,zJ,zK,HV.cells]; try exact rfl) (fun hc => ?_) (fun hc => ?_) <;> (try (exfalso; omega))
       | refine r_ext (by simp (disch:=first|decide|(simp only[zF,zG];decide)) only [zA,zB,zC,zD,zE,zF,zG,zH,zI,zJ,zK,HV.cells]; try exact rfl) (by first|assumption|rfl|(simp only [zI,zJ,HV.cells]; exact rfl)) ?_
       | refine r_calls (by simp (disch:=first|decide|(simp only[zF,zG];decide)) only [zA,zB,zC,zD,zE,zF,zG,zH,zI,zJ,zK,HV.cells]; try exact rfl) (by simp (disch:=first|decide|(simp only[zF,zG];decide)) only [List.map_cons,List.map_nil,List.nil_append,List.cons_append,List.append_nil,zA,zB,zC,zD,zE,zF,zG,zH,zI,zJ,zK,HV.cells]; try exact rfl) (cF1 _ _ _ (by repeat' first|assumption|refine Ext.put ?_ (by omega) (by omega)|exact Ext.up (by assumption) (by omega)|exact Ext.nx (by assumption) (by omega))) (fun n' hn' => ?_)
       | fail
      case refine_2 =>
        refine r_callc (by simp (disch:=first|decide|(simp only[zF,zG];decide)) only [zA,zB,zC,zD,zE,zF,zG,zH,zI,zJ,zK,HV.cells]; try exact rfl) (by simp (disch:=first|decide|(simp only[zF,zG];decide)) only [List.map_cons,List.map_nil,List.nil_append,List.cons_append,List.append_nil,zA,zB,zC,zD,zE,zF,zG,zH,zI,zJ,zK,HV.cells]; try exact rfl) (c_bounds (M := M) (by repeat' first|assumption|refine D.upd ?_ (by omega)|exact D.mono (by assumption) (by omega)) (by omega) hcn hG) ?_
        rintro w σ' ⟨p2, c2, h2, n2, rfl, rfl, e2, hr2⟩
        dsimp only at e2
        have hle := e2.le
        have e3 : Ext h nx h2 n2 := Ext.trans (by repeat' first|assumption|refine Ext.put ?_ (by omega) (by omega)|exact Ext.up (by assumption) (by omega)|exact Ext.nx (by assumption) (by omega)) e2
        rw [BL_len]
        repeat' first
         | refine r_nil ?_
         | refine th_n ?_
         | refine w_ret ?_
         | refine r_move (by simp (disch:=first|decide|(simp only[zF,zG];decide)) only [zA,zB,zC,zD,zE,zF,zG,zH,zI,zJ,zK,HV.cells]; try exact rfl) ?_
         | fail
        obtain ⟨h3, g1, g2, g3⟩ := gc_tup (n := n + 1) (c := c2) (rest := [i64 0]) hd e3 hr2
        refine fin_m (by simp only [zL,zM]) (res_t (by simp (disch:=first|decide|(simp only[zF,zG];decide)) only [zA,zB,zC,zD,zE,zF,zG,zH,zI,zJ,zK,HV.cells]; try exact rfl) (res_t (by simp (disch:=first|decide|(simp only[zF,zG];decide)) only [zA,zB,zC,zD,zE,zF,zG,zH,zI,zJ,zK,HV.cells]; try exact rfl) res_nil)) (.inl ⟨M, hE, hO, p2, c2, h3, n2, rfl, g1, g2, g3⟩)
  · have cF1 : ∀ fl h' n', Ext h nx h' n' → C LW fl 72 [.agg t.cells, .slice p l.length cp, .bool true] ⟨h', n'⟩ (Sc (· = .tuple [.agg (Zr 125), i64 (errOf t.c t.t t.a t.b l)]) ⟨h', n'⟩) := fun fl h' n' e => by have := cF fl h' n' e; unfold forO at this; rw [if_neg hE] at this; exact this
    repeat' first
     | refine r_nil ?_
     | refine th_n ?_
     | refine th_r ?_
     | refine w_seq ?_
     | refine w_reg ?_
     | refine w_ret ?_
     | refine w_t (by simp (disch:=first|decide|(simp only[zF,zG];decide)) only [zA,zB,zC,zD,zE,zF,zG,zH,zI,zJ,zK,HV.cells]; first|done|exact rfl) ?_
     | refine r_move (by simp (disch:=first|decide|(simp only[zF,zG];decide)) only [zA,zB,zC,zD,zE,zF,zG,zH,zI,zJ,zK,HV.cells]; try exact rfl) ?_
     | refine r_ldn (by simp (disch:=first|decide|(simp only[zF,zG];decide)) only [zA,zB,zC,zD,zE,zF,zG,zH,zI,zJ,zK,HV.cells]; try exact rfl) (by first|assumption|(simp (disch:=omega) only [get_same,get_other]; first|done|exact rfl)) (by first|assumption|rfl|(simp only [zI,zJ,HV.cells]; exact rfl)) ?_
     | refine r_box (by simp (disch:=first|decide|(simp only[zF,zG];decide)) only [zA,zB,zC,zD,zE,zF,zG,zH,zI,zJ,zK,HV.cells]; try exact rfl) ?_
     | refine r_alloc ?_
     | refine r_st (cs' := _) (by simp (disch:=first|decide|(simp only[zF,zG];decide)) only [zA,zB,zC,zD,zE,zF,zG,zH,zI,zJ,zK,HV.cells]; try exact rfl) (by simp (disch:=first|decide|(simp only[zF,zG];decide)) only [zA,zB,zC,zD,zE,zF,zG,zH,zI,zJ,zK,HV.cells]; try exact rfl) (by first|assumption|(simp (disch:=omega) only [get_same,get_other]; first|done|exact rfl)) (by exact True.intro) (by rfl) (by rfl) (by first|assumption|rfl|(simp only [zI,zJ,HV.cells]; exact rfl)) (by omega) ?_
     | refine r_ne (by simp (disch:=first|decide|(simp only[zF,zG];decide)) only [zA,zB,zC,zD,zE,zF,zG,zH,zI,zJ,zK,HV.cells]; try exact rfl) (by simp (disch:=first|decide|(simp only[zF,zG];decide)) only [zA,zB,zC,zD,zE,zF,zG,zH,zI,zJ,zK,HV.cells]; try exact rfl) (fun hc => ?_) (fun hc => ?_) <;> (try (exfalso; omega))
     | refine r_ext (by simp (disch:=first|decide|(simp only[zF,zG];decide)) only [zA,zB,zC,zD,zE,zF,zG,zH,zI,zJ,zK,HV.cells]; try exact rfl) (by first|assumption|rfl|(simp only [zI,zJ,HV.cells]; exact rfl)) ?_
     | refine r_calls (by simp (disch:=first|decide|(simp only[zF,zG];decide)) only [zA,zB,zC,zD,zE,zF,zG,zH,zI,zJ,zK,HV.cells]; try exact rfl) (by simp (disch:=first|decide|(simp only[zF,zG];decide)) only [List.map_cons,List.map_nil,List.nil_append,List.cons_append,List.append_nil,zA,zB,zC,zD,zE,zF,zG,zH,zI,zJ,zK,HV.cells]; try exact rfl) (cF1 _ _ _ (by repeat' first|assumption|refine Ext.put ?_ (by omega) (by omega)|exact Ext.up (by assumption) (by omega)|exact Ext.nx (by assumption) (by omega))) (fun n' hn' => ?_)
     | fail
    refine fin_m (by simp only [zL,zM]) (res_t (by simp (disch:=first|decide|(simp only[zF,zG];decide)) only [zA,zB,zC,zD,zE,zF,zG,zH,zI,zJ,zK,HV.cells]; try exact rfl) (res_t (by simp (disch:=first|decide|(simp only[zF,zG];decide)) only [zA,zB,zC,zD,zE,zF,zG,zH,zI,zJ,zK,HV.cells]; try exact rfl) res_nil)) (.inr (.inr ⟨hE, sc_flat rfl (by dsimp only; omega) rfl⟩))
end Go.Hx

/- Layer 1: volumes of a tube are heights that its matrix allows; a scaled tube allows the scaled heights. -/
namespace Go.Hx
/-- What heights of a tube are, in words. -/
theorem unr_feas {t : Tb} {n : Nat} (hcn : t.c = n) (hT : TubeOk t.c t.t t.a t.b) {H : Nat → Int} :
    Feas n (unrM n t) H ↔ (∀ i j, i ≤ n → j ≤ n → H j - H i ≤ max (((j : Int) - i) * t.a) (((j : Int) - i) * t.b)) ∧ H n - H 0 ≤ t.t ∧ H 0 - H n ≤ -t.t := by
  have hTo := hT
  unfold TubeOk at hTo
  rw [hcn] at hTo
  have g0 := good_u0 (n := n) (a := t.a) (b := t.b) (by omega) (by omega) (by omega) (by omega)
  obtain ⟨e, g1, g2⟩ := unr_eq (n := n) (t := t) (by omega) (by omega) (by omega) (by omega) (by omega) (by omega) (by omega)
  rw [e, feas_lim g1 (Nat.le_refl _) (Nat.zero_le _), feas_lim g0 (Nat.zero_le _) (Nat.le_refl _)]
  constructor
  · intro ⟨⟨h1, h2⟩, h3⟩
    exact ⟨fun i j hi hj => by rw [← u0_at (n := n) (by omega) hi hj]; exact h1 i j hi hj, h2, h3⟩
  · intro ⟨h1, h2, h3⟩
    exact ⟨⟨fun i j hi hj => by rw [u0_at (by omega) hi hj]; exact h1 i j hi hj, h2⟩, h3⟩
theorem hgt_rng {v : List Int} {a b : Int} (hv : ∀ x ∈ v, a ≤ x ∧ x ≤ b) : ∀ (d i : Nat), i + d ≤ v.length → (d : Int) * a ≤ hgt v (i + d) - hgt v i ∧ hgt v (i + d) - hgt v i ≤ (d : Int) * b
  | 0, i, _ => by
    rw [Nat.add_zero, Int.sub_self, Int.natCast_zero, Int.zero_mul, Int.zero_mul]
    exact ⟨Int.le_refl _, Int.le_refl _⟩
  | d + 1, i, h => by
    have h1 := hgt_rng hv d i (by omega)
    have hy : v[i + d]? = some v[i + d] := List.getElem?_eq_getElem (by omega)
    have h2 := hgt_succ v (i + d) _ hy
    have h3 := hv _ (List.mem_of_getElem? hy)
    have x1 : ((d + 1 : Nat) : Int) * a = d * a + a := by rw [Int.natCast_add, Int.add_mul]; omega
    have x2 : ((d + 1 : Nat) : Int) * b = d * b + b := by rw [Int.natCast_add, Int.add_mul]; omega
    rw [show i + (d + 1) = i + d + 1 by omega, h2, x1, x2]
    omega
theorem truth_feas {t : Tb} {n : Nat} (hcn : t.c = n) (hT : TubeOk t.c t.t t.a t.b) {v : List Int} (hv : TrulyOk t n v) : Feas n (unrM n t) (hgt v) := by
  rw [unr_feas hcn hT]
  obtain ⟨h1, h2, h3⟩ := hv
  refine ⟨fun i j hi hj => ?_, by rw [h3, hgt_zero]; omega, by rw [h3, hgt_zero]; omega⟩
  rcases Nat.le_total i j with e | e
  · obtain ⟨d, rfl⟩ := Nat.exists_eq_add_of_le e
    have := hgt_rng h2 d i (by omega)
    rw [show ((i + d : Nat) : Int) - i = d by omega]
    omega
  · obtain ⟨d, rfl⟩ := Nat.exists_eq_add_of_le e
    have := hgt_rng h2 d j (by omega)
    rw [show (j : Int) - ((j + d : Nat) : Int) = -d by omega, Int.neg_mul, Int.neg_mul]
    omega
theorem right_feas {n : Nat} {r : Rd} {v : List Int} {c : Int} (hcn : c = n) (hr : RdOk2 c r) (h : RightV n r v) : RightC n r (hgt v) := by
  unfold RdOk2 at hr
  unfold RightV at h
  unfold RightC
  by_cases hg : r.g.toNat < n
  · rw [if_pos (by omega)] at h
    exact ⟨by omega, fun _ => by omega⟩
  · rw [if_neg (by omega)] at h
    exact ⟨by omega, fun e => absurd e hg⟩
/-- What is read of heights can be read. -/
theorem feas_read {t : Tb} {n : Nat} (hcn : t.c = n) (hT : TubeOk t.c t.t t.a t.b) {l : List Rd} (hl : ∀ r ∈ l, RdOk2 t.c r) {H : Nat → Int} (hF : Feas n (unrM n t) H) (hR : ∀ r ∈ l, RightC n r H) : ∃ M, readO t n l = some M := by
  rw [hcn] at hl
  cases e : readO t n l with
  | some M => exact ⟨M, rfl⟩
  | none => exact absurd ⟨hF, hR⟩ (readGo_none l [] _ hl (unr_ok hcn hT).2.2 e)
theorem read_feas {t : Tb} {n : Nat} (hcn : t.c = n) (hT : TubeOk t.c t.t t.a t.b) {l : List Rd} (hl : ∀ r ∈ l, RdOk2 t.c r) {M : Mx} (h : readO t n l = some M) {H : Nat → Int} : Feas n M H ↔ Feas n (unrM n t) H ∧ ∀ r ∈ l, RightC n r H := by
  rw [hcn] at hl
  exact readGo_feas l [] _ M hl (unr_ok hcn hT).2.2 (fun r hr => by cases hr) h
/-- In a truth of what was read. -/
theorem truth_read {t : Tb} {n : Nat} (hcn : t.c = n) (hT : TubeOk t.c t.t t.a t.b) {v : List Int} (hv : TrulyOk t n v) {l : List Rd} (hs : SeenOk t n v l) : ∃ M, readO t n l = some M ∧ Feas n M (hgt v) := by
  have hl : ∀ r ∈ l, RdOk2 t.c r := fun r hr => (hs r hr).1
  have hF := truth_feas hcn hT hv
  have hR : ∀ r ∈ l, RightC n r (hgt v) := fun r hr => right_feas hcn (hs r hr).1 (hs r hr).2
  obtain ⟨M, hM⟩ := feas_read hcn hT hl hF hR
  exact ⟨M, hM, (read_feas hcn hT hl hM).2 ⟨hF, hR⟩⟩
end Go.Hx

/- Walks of the plain machine: regions that draw, whose last drawn operation lays any number of blocks. -/
namespace Go.Hx
variable {lp : Nat → Option LFunc} {fl : Nat} {N : HAct → HS → Prop} {a : HAct} {h : Tr HBlk} {nx : Nat} {os : List LOper}
end Go.Hx

/- Walks of the plain machine: regions that draw, in which several operations lay blocks. -/
namespace Go.Hx
variable {lp : Nat → Option LFunc} {fl : Nat} {rd : Option Nat} {Q : HExit → HAct → HS → Prop} {N : HAct → HS → Prop} {a : HAct} {h0 h : Tr HBlk} {nx s i : Nat} {os : List LOper} {done : List (Nat × List (Nat × HBlk))}
/-- The rest of such a region. -/
def DG (lp : Nat → Option LFunc) (fl s : Nat) (h0 : Tr HBlk) (os : List LOper) (i : Nat) (done : List (Nat × List (Nat × HBlk))) (N : HAct → HS → Prop) (a : HAct) (nx : Nat) : Prop :=
  ∃ n a' σ', drawOps lp (exec lp n) fl s h0 os i done a nx = some (a', σ') ∧ N a' σ'
/-- Behind one operation. -/
def DN (lp : Nat → Option LFunc) (fl s : Nat) (h0 : Tr HBlk) (os : List LOper) (i : Nat) (done : List (Nat × List (Nat × HBlk))) (nx : Nat) (N : HAct → HS → Prop) : HAct → HS → Prop := fun a' σ' =>
  (σ'.nx = nx ∧ DG lp fl s h0 os (i + 1) done N a' nx) ∨ ∃ x, σ'.nx = nx + 1 ∧ σ'.h.get nx = some x ∧ DG lp fl s h0 os (i + 1) ((i, [(nx, x)]) :: done) N a' (nx + 1)
attribute [irreducible] DG DN
end Go.Hx

namespace Go.Hx
set_option linter.unusedSimpArgs false
set_option linter.unusedVariables false
set_option maxRecDepth 20000
set_option maxHeartbeats 4000000
attribute [local irreducible] W R C thenH inBlockH
end Go.Hx

namespace Go.Hx
set_option linter.unusedSimpArgs false
set_option linter.unusedVariables false
set_option maxRecDepth 20000
set_option maxHeartbeats 4000000
attribute [local irreducible] W R C thenH inBlockH
end Go.Hx

namespace Go.Hx
set_option linter.unusedSimpArgs false
set_option linter.unusedVariables false
set_option maxRecDepth 20000
set_option maxHeartbeats 4000000
attribute [local irreducible] W R C thenH inBlockH
end Go.Hx

namespace Go.Hx
set_option linter.unusedSimpArgs false
set_option linter.unusedVariables false
set_option maxRecDepth 20000
set_option maxHeartbeats 4000000
attribute [local irreducible] W R C thenH inBlockH
end Go.Hx

/- Layer 1: bounds in memory of the call's own; places. -/
namespace Go.Hx
set_option linter.unusedSimpArgs false
set_option linter.unusedVariables false
set_option maxRecDepth 20000
set_option maxHeartbeats 4000000
attribute [local irreducible] W R C thenH inBlockH
/-- A list in memory of the call's own. -/
def ScB {α : Type} (enc : α → List HV) (l : List α) (σ : HS) : HV → HS → Prop := fun v σ' => ∃ b h' n', v = .slice (some (b, 0)) l.length l.length ∧ σ' = ⟨h', n'⟩ ∧ Ext σ.h σ.nx h' n' ∧ σ.nx ≤ b ∧ b < n' ∧ h'.get b = some (.cells (l.flatMap enc) .exact)
theorem gc_tupB {h0 h : Tr HBlk} {n0 nx b o n c : Nat} {cs rest : List HV} {k : BK} (hd0 : D h0 n0) (e : Ext h0 n0 h nx) (h1 : n0 ≤ b) (hg : h.get b = some (.cells cs k)) :
    ∃ h', gcH ⟨h0, n0⟩ ⟨h, nx⟩ (.tuple (.slice (some (b, o)) n c :: rest)) = ⟨h', nx⟩ ∧ Ext h0 n0 h' nx ∧ h'.get b = some (.cells cs k) := by
  obtain ⟨h', g1, g2⟩ := gc_ext hd0 e (.tuple (.slice (some (b, o)) n c :: rest))
  refine ⟨h', g1, g2, ?_⟩
  have e1 : h' = keepD h n0 5 [.tuple (.slice (some (b, o)) n c :: rest)] h0 := by
    have : (⟨h', nx⟩ : HS).h = (gcH ⟨h0, n0⟩ ⟨h, nx⟩ (.tuple (.slice (some (b, o)) n c :: rest))).h := by rw [g1]
    exact this
  rw [e1, ← hg]
  show (keepD h n0 4 (.slice (some (b, o)) n c :: rest) h0).get b = _
  unfold keepD
  rw [List.foldl_cons]
  exact keepD_has 4 rest _ (keepV_first hg fun hlt => (e.same b hlt).symm)
theorem row_flat {α : Type} {enc : α → List HV} {sz : Nat} {h : Tr HBlk} {nx b : Nat} {l : List α} {k : BK} (he : ∀ x, (enc x).length = sz) (hb : b < nx) (hg : h.get b = some (.cells (l.flatMap enc) k)) : Row enc sz h nx (some (b, 0)) l :=
  fun _ => ⟨b, 0, _, _, rfl, hb, hg, fun i x hx => flat_row he l i x hx⟩
/-- A row of a list is written. -/
theorem ow_row {α : Type} {enc : α → List HV} {sz : Nat} (he : ∀ x, (enc x).length = sz) (l : List α) (i : Nat) (y : α) (hi : i < l.length) : overwrite (l.flatMap enc) (0 + i * sz) (enc y) = some ((l.set i y).flatMap enc) := by
  have e1 : l.flatMap enc = (l.take i).flatMap enc ++ (enc l[i] ++ (l.drop (i + 1)).flatMap enc) := by
    rw [← List.flatMap_cons, ← List.flatMap_append, ← List.drop_eq_getElem_cons hi, List.take_append_drop]
  rw [e1, show 0 + i * sz = ((l.take i).flatMap enc).length by rw [flat_len he, List.length_take, Nat.min_eq_left (by omega)]; omega, ow_many _ _ _ _ (by rw [he, he]), List.set_eq_take_append_cons_drop, if_pos hi, List.flatMap_append, List.flatMap_cons]
/- 73 -/
theorem c_boundsB {fl : Nat} {h : Tr HBlk} {nx : Nat} (hd : D h nx) {t : Tb} {n : Nat} {M : Mx} (hn : n ≤ 10) (htc : t.c = n) (hG : Good n M) : C LW fl 73 [.agg (bcells t M)] ⟨h, nx⟩ (ScB renc (BL M (n + 1)) ⟨h, nx⟩) := by
  have ec : (bcells t M)[0 + 0 + 0]? = some (i64 n) := by rw [← htc]; rfl
  have ow : overwrite [.nilFunc, .nilFunc] 0 (HV.agg [.func 90 [] [], .func 91 [] []]).cells = some [.func 90 [] [], .func 91 [] []] := rfl
  refine c_in lw73 rfl rfl rfl ?_
  dsimp only [L73]
  repeat' first
   | refine r_nil ?_
   | refine th_n ?_
   | refine w_seq ?_
   | refine w_reg ?_
   | refine r_move (by simp (disch:=first|decide|(simp only[zF,zG];decide)) only [zA,zB,zC,zD,zE,zF,zG,zH,zI,zJ,zK,HV.cells]; try exact rfl) ?_
   | refine r_fa (by simp (disch:=first|decide|(simp only[zF,zG];decide)) only [zA,zB,zC,zD,zE,zF,zG,zH,zI,zJ,zK,HV.cells]; try exact rfl) ?_
   | refine r_ld1 (by simp (disch:=first|decide|(simp only[zF,zG];decide)) only [zA,zB,zC,zD,zE,zF,zG,zH,zI,zJ,zK,HV.cells]; try exact rfl) (by first|assumption|(simp (disch:=omega) only [get_same,get_other]; first|done|exact rfl)) (by first|assumption|rfl|(simp only [zI,zJ,HV.cells]; exact rfl)) ?_
   | refine r_box (by simp (disch:=first|decide|(simp only[zF,zG];decide)) only [zA,zB,zC,zD,zE,zF,zG,zH,zI,zJ,zK,HV.cells]; try exact rfl) ?_
   | refine r_alloc ?_
   | refine r_st (cs' := _) (by simp (disch:=first|decide|(simp only[zF,zG];decide)) only [zA,zB,zC,zD,zE,zF,zG,zH,zI,zJ,zK,HV.cells]; try exact rfl) (by simp (disch:=first|decide|(simp only[zF,zG];decide)) only [zA,zB,zC,zD,zE,zF,zG,zH,zI,zJ,zK,HV.cells]; try exact rfl) (by first|assumption|(simp (disch:=omega) only [get_same,get_other]; first|done|exact rfl)) (by exact True.intro) (by rfl) (by rfl) (by first|assumption|rfl|(simp only [zI,zJ,HV.cells]; exact rfl)) (by omega) ?_
   | refine r_add (by simp (disch:=first|decide|(simp only[zF,zG];decide)) only [zA,zB,zC,zD,zE,zF,zG,zH,zI,zJ,zK,HV.cells]; try exact rfl) (by simp (disch:=first|decide|(simp only[zF,zG];decide)) only [zA,zB,zC,zD,zE,zF,zG,zH,zI,zJ,zK,HV.cells]; try exact rfl) (by omega) (by omega) ?_
   | refine r_calls (by simp (disch:=first|decide|(simp only[zF,zG];decide)) only [zA,zB,zC,zD,zE,zF,zG,zH,zI,zJ,zK,HV.cells]; try exact rfl) (by simp (disch:=first|decide|(simp only[zF,zG];decide)) only [List.map_cons,List.map_nil,List.nil_append,List.cons_append,List.append_nil,zA,zB,zC,zD,zE,zF,zG,zH,zI,zJ,zK,HV.cells]; try exact rfl) c_bothEnds (fun n' hn' => ?_)
   | fail
  refine r_ms (ln := 0) (cn := n + 1) (by simp (disch:=first|decide|(simp only[zF,zG];decide)) only [zA,zB,zC,zD,zE,zF,zG,zH,zI,zJ,zK,HV.cells]; try exact rfl) (by simp (disch:=first|decide|(simp only[zF,zG];decide)) only [zA,zB,zC,zD,zE,zF,zG,zH,zI,zJ,zK,HV.cells]; try exact rfl) (by omega) (by omega) (by omega) ?_
  rw [repl_two, show List.replicate (2 * (n + 1)) (i64 0) = FC renc (BL M 0) (2 * (n + 1)) from rfl]
  repeat' first
   | refine r_nil ?_
   | refine th_n ?_
   | refine w_seq ?_
   | refine w_reg ?_
   | refine w_block ?_
   | refine r_move (by simp (disch:=first|decide|(simp only[zF,zG];decide)) only [zA,zB,zC,zD,zE,zF,zG,zH,zI,zJ,zK,HV.cells]; try exact rfl) ?_
   | fail
  refine loop73 (bb := nx) (eb := n') (rb := n' + 1) (n0 := n' + 1 + 1) hn htc hG (by omega) (by omega) (by omega) (by omega) (by omega) (by omega) (by first|assumption|(simp (disch:=omega) only [get_same,get_other]; first|done|exact rfl)) (by first|assumption|(simp (disch:=omega) only [get_same,get_other]; first|done|exact rfl)) (n + 1) 0 _ _ (n' + 1 + 1) (by omega) (Nat.le_refl _) (by repeat' first|assumption|refine D.upd ?_ (by omega)|exact D.mono (by assumption) (by omega)) (fun b _ _ => rfl) (by first|assumption|(simp (disch:=omega) only [get_same,get_other]; first|done|exact rfl)) ?_ ?_ ?_ ?_ ?_ ?_ (fun a' h' n2 g0 g1 g2 g3 g4 => ?_)
  all_goals try first|(simp only [zL,zM,zF,zG];done)|(simp (disch:=first|decide|(simp only[zF,zG];decide)) only [zA,zB,zC,zD,zE,zF,zG,zH,zI,zJ,zK,HV.cells];first|done|exact rfl)|assumption
  repeat' first
   | refine r_nil ?_
   | refine th_n ?_
   | refine w_seq ?_
   | refine w_reg ?_
   | refine w_ret ?_
   | refine r_move (by simp (disch:=first|decide|(simp only[zF,zG,g2, g4];decide)) only [zA,zB,zC,zD,zE,zF,zG,zH,zI,zJ,zK,HV.cells,g2, g4]; try exact rfl) ?_
   | fail
  refine fin_r (by simp only [zL, g3]) (by simp (disch:=first|decide|(simp only[zF,zG,g2, g4];decide)) only [zA,zB,zC,zD,zE,zF,zG,zH,zI,zJ,zK,HV.cells,g2, g4]; try exact rfl) ?_
  have g1' : h'.get (n' + 1) = some (.cells ((BL M (n + 1)).flatMap renc) .exact) := by rw [g1]; unfold FC; simp
  rw [gc_row (show nx ≤ n' + 1 by omega) g1' (flat_flat renc_flat _)]
  exact ⟨n' + 1, _, n2, by rw [BL_len], rfl, (show Ext h nx _ n2 from Ext.set hd (by omega) (by omega) (by omega)), by dsimp only; omega, by omega, get_same _ _ _⟩
/-- What 'Heights' hands back: a list in its own memory, and an error. -/
def HeightsB (t : Tb) (n : Nat) (l : List Rd) (σ : HS) : HV → HS → Prop := fun v σ' =>
  (∃ M, errOf t.c t.t t.a t.b l = 0 ∧ readO t n l = some M ∧ ∃ b h' n', v = .tuple [.slice (some (b, 0)) (n + 1) (n + 1), i64 0] ∧ σ' = ⟨h', n'⟩ ∧ Ext σ.h σ.nx h' n' ∧ σ.nx ≤ b ∧ b < n' ∧ h'.get b = some (.cells ((BL M (n + 1)).flatMap renc) .exact)) ∨
  (errOf t.c t.t t.a t.b l = 0 ∧ readO t n l = none ∧ Sc (· = .tuple [.slice none 0 0, i64 9]) σ v σ') ∨
  (errOf t.c t.t t.a t.b l ≠ 0 ∧ Sc (· = .tuple [.slice none 0 0, i64 (errOf t.c t.t t.a t.b l)]) σ v σ')
/- 29 -/
theorem c_HeightsB {fl : Nat} {h : Tr HBlk} {nx : Nat} (hd : D h nx) {t : Tb} {n : Nat} {p : Option (Nat × Nat)} {l : List Rd} {m cp : Nat} (htc : TubeOk t.c t.t t.a t.b → t.c = n) (hm : m = l.length) (hlen : l.length < 1000000) (hrow : Row Rd.enc 4 h nx p l) :
    C LW fl 29 [.agg t.cells, .slice p m cp] ⟨h, nx⟩ (HeightsB t n l ⟨h, nx⟩) := by
  subst hm
  have tk : takeN 4 (t.cells.drop 0) = some t.cells := rfl
  have owz : overwrite (Zr 125) 0 (HV.agg (Zr 125)).cells = some (Zr 125) := ow_all _ _ rfl
  have cF : ∀ fl h' n', Ext h nx h' n' → C LW fl 72 [.agg t.cells, .slice p l.length cp, .bool true] ⟨h', n'⟩ (Sc (· = forO t n l true) ⟨h', n'⟩) := fun fl h' n' e => c_readFor e.d htc rfl hlen (hrow.ext e)
  refine c_in lw29 rfl rfl rfl ?_
  dsimp only [L29]
  by_cases hE : errOf t.c t.t t.a t.b l = 0
  · obtain ⟨hT, hL, hR⟩ := errOf_zero hE
    cases hO : readO t n l with
    | none =>
      have cF1 : ∀ fl h' n', Ext h nx h' n' → C LW fl 72 [.agg t.cells, .slice p l.length cp, .bool true] ⟨h', n'⟩ (Sc (· = .tuple [.agg (Zr 125), i64 9]) ⟨h', n'⟩) := fun fl h' n' e => by have := cF fl h' n' e; unfold forO at this; rw [if_pos hE, if_pos rfl, hO] at this; exact this
      repeat' first
       | refine r_nil ?_
       | refine th_n ?_
       | refine th_r ?_
       | refine w_seq ?_
       | refine w_reg ?_
       | refine w_ret ?_
       | refine w_t (by simp (disch:=first|decide|(simp only[zF,zG];decide)) only [zA,zB,zC,zD,zE,zF,zG,zH,zI,zJ,zK,HV.cells]; first|done|exact rfl) ?_
       | refine r_move (by simp (disch:=first|decide|(simp only[zF,zG];decide)) only [zA,zB,zC,zD,zE,zF,zG,zH,zI,zJ,zK,HV.cells]; try exact rfl) ?_
       | refine r_ldn (by simp (disch:=first|decide|(simp only[zF,zG];decide)) only [zA,zB,zC,zD,zE,zF,zG,zH,zI,zJ,zK,HV.cells]; try exact rfl) (by first|assumption|(simp (disch:=omega) only [get_same,get_other]; first|done|exact rfl)) (by first|assumption|rfl|(simp only [zI,zJ,HV.cells]; exact rfl)) ?_
       | refine r_box (by simp (disch:=first|decide|(simp only[zF,zG];decide)) only [zA,zB,zC,zD,zE,zF,zG,zH,zI,zJ,zK,HV.cells]; try exact rfl) ?_
       | refine r_alloc ?_
       | refine r_st (cs' := _) (by simp (disch:=first|decide|(simp only[zF,zG];decide)) only [zA,zB,zC,zD,zE,zF,zG,zH,zI,zJ,zK,HV.cells]; try exact rfl) (by simp (disch:=first|decide|(simp only[zF,zG];decide)) only [zA,zB,zC,zD,zE,zF,zG,zH,zI,zJ,zK,HV.cells]; try exact rfl) (by first|assumption|(simp (disch:=omega) only [get_same,get_other]; first|done|exact rfl)) (by exact True.intro) (by rfl) (by rfl) (by first|assumption|rfl|(simp only [zI,zJ,HV.cells]; exact rfl)) (by omega) ?_
       | refine r_ne (by simp (disch:=first|decide|(simp only[zF,zG];decide)) only [zA,zB,zC,zD,zE,zF,zG,zH,zI,zJ,zK,HV.cells]; try exact rfl) (by simp (disch:=first|decide|(simp only[zF,zG];decide)) only [zA,zB,zC,zD,zE,zF,zG,zH,zI,zJ,zK,HV.cells]; try exact rfl) (fun hc => ?_) (fun hc => ?_) <;> (try (exfalso; omega))
       | refine r_ext (by simp (disch:=first|decide|(simp only[zF,zG];decide)) only [zA,zB,zC,zD,zE,zF,zG,zH,zI,zJ,zK,HV.cells]; try exact rfl) (by first|assumption|rfl|(simp only [zI,zJ,HV.cells]; exact rfl)) ?_
       | refine r_calls (by simp (disch:=first|decide|(simp only[zF,zG];decide)) only [zA,zB,zC,zD,zE,zF,zG,zH,zI,zJ,zK,HV.cells]; try exact rfl) (by simp (disch:=first|decide|(simp only[zF,zG];decide)) only [List.map_cons,List.map_nil,List.nil_append,List.cons_append,List.append_nil,zA,zB,zC,zD,zE,zF,zG,zH,zI,zJ,zK,HV.cells]; try exact rfl) (cF1 _ _ _ (by repeat' first|assumption|refine Ext.put ?_ (by omega) (by omega)|exact Ext.up (by assumption) (by omega)|exact Ext.nx (by assumption) (by omega))) (fun n' hn' => ?_)
       | fail
      refine fin_m (by simp only [zL,zM]) (res_t (by simp (disch:=first|decide|(simp only[zF,zG];decide)) only [zA,zB,zC,zD,zE,zF,zG,zH,zI,zJ,zK,HV.cells]; try exact rfl) (res_t (by simp (disch:=first|decide|(simp only[zF,zG];decide)) only [zA,zB,zC,zD,zE,zF,zG,zH,zI,zJ,zK,HV.cells]; try exact rfl) res_nil)) (.inr (.inl ⟨hE, hO, sc_flat rfl (by dsimp only; omega) rfl⟩))
    | some M =>
      have hG := readO_good (htc hT) hT hR hO
      have hTo := hT
      unfold TubeOk at hTo
      have hcn := htc hT
      have tkb := take_bc t M
      have owb := ow_bc t M
      have cF1 : ∀ fl h' n', Ext h nx h' n' → C LW fl 72 [.agg t.cells, .slice p l.length cp, .bool true] ⟨h', n'⟩ (Sc (· = .tuple [.agg (bcells t M), i64 0]) ⟨h', n'⟩) := fun fl h' n' e => by have := cF fl h' n' e; unfold forO at this; rw [if_pos hE, if_pos rfl, hO] at this; exact this
      repeat' first
       | refine r_nil ?_
       | refine th_n ?_
       | refine w_seq ?_
       | refine w_reg ?_
       | refine w_skip ?_
       | refine w_f (by simp (disch:=first|decide|(simp only[zF,zG];decide)) only [zA,zB,zC,zD,zE,zF,zG,zH,zI,zJ,zK,HV.cells]; first|done|exact rfl) ?_
       | refine r_move (by simp (disch:=first|decide|(simp only[zF,zG];decide)) only [zA,zB,zC,zD,zE,zF,zG,zH,zI,zJ,zK,HV.cells]; try exact rfl) ?_
       | refine r_ldn (by simp (disch:=first|decide|(simp only[zF,zG];decide)) only [zA,zB,zC,zD,zE,zF,zG,zH,zI,zJ,zK,HV.cells]; try exact rfl) (by first|assumption|(simp (disch:=omega) only [get_same,get_other]; first|done|exact rfl)) (by first|assumption|rfl|(simp only [zI,zJ,HV.cells]; exact rfl)) ?_
       | refine r_box (by simp (disch:=first|decide|(simp only[zF,zG];decide)) only [zA,zB,zC,zD,zE,zF,zG,zH,zI,zJ,zK,HV.cells]; try exact rfl) ?_
       | refine r_alloc ?_
       | refine r_st (cs' := _) (by simp (disch:=first|decide|(simp only[zF,zG];decide)) only [zA,zB,zC,zD,zE,zF,zG,zH,zI,zJ,zK,HV.cells]; try exact rfl) (by simp (disch:=first|decide|(simp only[zF,zG];decide)) only [zA,zB,zC,zD,zE,zF,zG,zH,zI,zJ,zK,HV.cells]; try exact rfl) (by first|assumption|(simp (disch:=omega) only [get_same,get_other]; first|done|exact rfl)) (by exact True.intro) (by rfl) (by rfl) (by first|assumption|rfl|(simp only [zI,zJ,HV.cells]; exact rfl)) (by omega) ?_
       | refine r_ne (by simp (disch:=first|decide|(simp only[zF,zG];decide)) only [zA,zB,zC,zD,zE,zF,zG,zH,zI,zJ,zK,HV.cells]; try exact rfl) (by simp (disch:=first|decide|(simp only[zF,zG];decide)) only [zA,zB,zC,zD,zE,zF,zG,zH,zI,zJ,zK,HV.cells]; try exact rfl) (fun hc => ?_) (fun hc => ?_) <;> (try (exfalso; omega))
       | refine r_ext (by simp (disch:=first|decide|(simp only[zF,zG];decide)) only [zA,zB,zC,zD,zE,zF,zG,zH,zI,zJ,zK,HV.cells]; try exact rfl) (by first|assumption|rfl|(simp only [zI,zJ,HV.cells]; exact rfl)) ?_
       | refine r_calls (by simp (disch:=first|decide|(simp only[zF,zG];decide)) only [zA,zB,zC,zD,zE,zF,zG,zH,zI,zJ,zK,HV.cells]; try exact rfl) (by simp (disch:=first|decide|(simp only[zF,zG];decide)) only [List.map_cons,List.map_nil,List.nil_append,List.cons_append,List.append_nil,zA,zB,zC,zD,zE,zF,zG,zH,zI,zJ,zK,HV.cells]; try exact rfl) (cF1 _ _ _ (by repeat' first|assumption|refine Ext.put ?_ (by omega) (by omega)|exact Ext.up (by assumption) (by omega)|exact Ext.nx (by assumption) (by omega))) (fun n' hn' => ?_)
       | fail
      case refine_2 =>
        refine r_callc (by simp (disch:=first|decide|(simp only[zF,zG];decide)) only [zA,zB,zC,zD,zE,zF,zG,zH,zI,zJ,zK,HV.cells]; try exact rfl) (by simp (disch:=first|decide|(simp only[zF,zG];decide)) only [List.map_cons,List.map_nil,List.nil_append,List.cons_append,List.append_nil,zA,zB,zC,zD,zE,zF,zG,zH,zI,zJ,zK,HV.cells]; try exact rfl) (c_boundsB (M := M) (by repeat' first|assumption|refine D.upd ?_ (by omega)|exact D.mono (by assumption) (by omega)) (by omega) hcn hG) ?_
        rintro w σ' ⟨b2, h2, n2, rfl, rfl, e2, q1, q2, q3⟩
        dsimp only at e2 q1
        have hle := e2.le
        have e3 : Ext h nx h2 n2 := Ext.trans (by repeat' first|assumption|refine Ext.put ?_ (by omega) (by omega)|exact Ext.up (by assumption) (by omega)|exact Ext.nx (by assumption) (by omega)) e2
        rw [BL_len]
        repeat' first
         | refine r_nil ?_
         | refine th_n ?_
         | refine w_ret ?_
         | refine r_move (by simp (disch:=first|decide|(simp only[zF,zG];decide)) only [zA,zB,zC,zD,zE,zF,zG,zH,zI,zJ,zK,HV.cells]; try exact rfl) ?_
         | fail
        obtain ⟨h3, g1, g2, g3⟩ := gc_tupB (o := 0) (n := n + 1) (c := n + 1) (rest := [i64 0]) hd e3 (show nx ≤ b2 by omega) q3
        refine fin_m (by simp only [zL,zM]) (res_t (by simp (disch:=first|decide|(simp only[zF,zG];decide)) only [zA,zB,zC,zD,zE,zF,zG,zH,zI,zJ,zK,HV.cells]; try exact rfl) (res_t (by simp (disch:=first|decide|(simp only[zF,zG];decide)) only [zA,zB,zC,zD,zE,zF,zG,zH,zI,zJ,zK,HV.cells]; try exact rfl) res_nil)) (.inl ⟨M, hE, hO, b2, h3, n2, rfl, g1, g2, by dsimp only; omega, q2, g3⟩)
  · have cF1 : ∀ fl h' n', Ext h nx h' n' → C LW fl 72 [.agg t.cells, .slice p l.length cp, .bool true] ⟨h', n'⟩ (Sc (· = .tuple [.agg (Zr 125), i64 (errOf t.c t.t t.a t.b l)]) ⟨h', n'⟩) := fun fl h' n' e => by have := cF fl h' n' e; unfold forO at this; rw [if_neg hE] at this; exact this
    repeat' first
     | refine r_nil ?_
     | refine th_n ?_
     | refine th_r ?_
     | refine w_seq ?_
     | refine w_reg ?_
     | refine w_ret ?_
     | refine w_t (by simp (disch:=first|decide|(simp only[zF,zG];decide)) only [zA,zB,zC,zD,zE,zF,zG,zH,zI,zJ,zK,HV.cells]; first|done|exact rfl) ?_
     | refine r_move (by simp (disch:=first|decide|(simp only[zF,zG];decide)) only [zA,zB,zC,zD,zE,zF,zG,zH,zI,zJ,zK,HV.cells]; try exact rfl) ?_
     | refine r_ldn (by simp (disch:=first|decide|(simp only[zF,zG];decide)) only [zA,zB,zC,zD,zE,zF,zG,zH,zI,zJ,zK,HV.cells]; try exact rfl) (by first|assumption|(simp (disch:=omega) only [get_same,get_other]; first|done|exact rfl)) (by first|assumption|rfl|(simp only [zI,zJ,HV.cells]; exact rfl)) ?_
     | refine r_box (by simp (disch:=first|decide|(simp only[zF,zG];decide)) only [zA,zB,zC,zD,zE,zF,zG,zH,zI,zJ,zK,HV.cells]; try exact rfl) ?_
     | refine r_alloc ?_
     | refine r_st (cs' := _) (by simp (disch:=first|decide|(simp only[zF,zG];decide)) only [zA,zB,zC,zD,zE,zF,zG,zH,zI,zJ,zK,HV.cells]; try exact rfl) (by simp (disch:=first|decide|(simp only[zF,zG];decide)) only [zA,zB,zC,zD,zE,zF,zG,zH,zI,zJ,zK,HV.cells]; try exact rfl) (by first|assumption|(simp (disch:=omega) only [get_same,get_other]; first|done|exact rfl)) (by exact True.intro) (by rfl) (by rfl) (by first|assumption|rfl|(simp only [zI,zJ,HV.cells]; exact rfl)) (by omega) ?_
     | refine r_ne (by simp (disch:=first|decide|(simp only[zF,zG];decide)) only [zA,zB,zC,zD,zE,zF,zG,zH,zI,zJ,zK,HV.cells]; try exact rfl) (by simp (disch:=first|decide|(simp only[zF,zG];decide)) only [zA,zB,zC,zD,zE,zF,zG,zH,zI,zJ,zK,HV.cells]; try exact rfl) (fun hc => ?_) (fun hc => ?_) <;> (try (exfalso; omega))
     | refine r_ext (by simp (disch:=first|decide|(simp only[zF,zG];decide)) only [zA,zB,zC,zD,zE,zF,zG,zH,zI,zJ,zK,HV.cells]; try exact rfl) (by first|assumption|rfl|(simp only [zI,zJ,HV.cells]; exact rfl)) ?_
     | refine r_calls (by simp (disch:=first|decide|(simp only[zF,zG];decide)) only [zA,zB,zC,zD,zE,zF,zG,zH,zI,zJ,zK,HV.cells]; try exact rfl) (by simp (disch:=first|decide|(simp only[zF,zG];decide)) only [List.map_cons,List.map_nil,List.nil_append,List.cons_append,List.append_nil,zA,zB,zC,zD,zE,zF,zG,zH,zI,zJ,zK,HV.cells]; try exact rfl) (cF1 _ _ _ (by repeat' first|assumption|refine Ext.put ?_ (by omega) (by omega)|exact Ext.up (by assumption) (by omega)|exact Ext.nx (by assumption) (by omega))) (fun n' hn' => ?_)
     | fail
    refine fin_m (by simp only [zL,zM]) (res_t (by simp (disch:=first|decide|(simp only[zF,zG];decide)) only [zA,zB,zC,zD,zE,zF,zG,zH,zI,zJ,zK,HV.cells]; try exact rfl) (res_t (by simp (disch:=first|decide|(simp only[zF,zG];decide)) only [zA,zB,zC,zD,zE,zF,zG,zH,zI,zJ,zK,HV.cells]; try exact rfl) res_nil)) (.inr (.inr ⟨hE, sc_flat rfl (by dsimp only; omega) rfl⟩))
/-- Heights that are read lie within the tube. -/
theorem read_bnd {t : Tb} {n : Nat} (hcn : t.c = n) (hT : TubeOk t.c t.t t.a t.b) {l : List Rd} (hl : ∀ r ∈ l, RdOk2 t.c r) {M : Mx} (h : readO t n l = some M) {i : Nat} (hi : i ≤ n) : 0 ≤ -(M i 0) ∧ -(M i 0) ≤ 2000 ∧ 0 ≤ M 0 i ∧ M 0 i ≤ 2000 := by
  have hG := readO_good hcn hT hl h
  have hTo := hT
  unfold TubeOk at hTo
  have f := ((unr_feas hcn hT).1 ((read_feas hcn hT hl h).1 (feas_lo hG)).1).1 i 0 hi (Nat.zero_le _)
  have d0 := hG.dg 0 (Nat.zero_le _)
  have u1 := hG.ub 0 i (Nat.zero_le _) hi
  have c1 := hG.cyc (i := 0) (j := i) (Nat.zero_le _) hi
  have m1 := Int.mul_nonneg (show (0 : Int) ≤ i by omega) (show 0 ≤ t.a by omega)
  have m2 := Int.mul_nonneg (show (0 : Int) ≤ i by omega) (show 0 ≤ t.b by omega)
  rw [show ((0 : Nat) : Int) - i = -i by omega, Int.neg_mul, Int.neg_mul] at f
  omega
theorem tube_pos {t : Tb} (hT : TubeOk t.c t.t t.a t.b) : 1 ≤ t.t := by
  unfold TubeOk at hT
  have h1 := Int.mul_le_mul (show (1 : Int) ≤ t.c by omega) (show (1 : Int) ≤ t.a by omega) (by omega) (by omega)
  omega
def plc (t : Tb) (x : Int) : Int := 1000 * t.c * x / t.t
/- 74 -/
theorem c_place {fl : Nat} {h : Tr HBlk} {nx : Nat} {t : Tb} (hT : TubeOk t.c t.t t.a t.b) {x : Int} (h1 : 0 ≤ x) (h2 : x ≤ 2000) : C LW fl 74 [.agg t.cells, i64 x] ⟨h, nx⟩ (Sc (· = i64 (plc t x)) ⟨h, nx⟩) := by
  have hTo := hT
  unfold TubeOk at hTo
  have ec : t.cells[0 + 0]? = some (i64 t.c) := rfl
  have et : t.cells[0 + 1]? = some (i64 t.t) := rfl
  have m1 := mul_bd (p := 1000 * t.c) (q := x) (A := 10000) (B := 2000) (by omega) (by omega) h1 h2
  refine c_in lw74 rfl rfl rfl ?_
  dsimp only [L74]
  have t1 := tube_pos hT
  repeat' first
   | refine r_nil ?_
   | refine th_n ?_
   | refine w_seq ?_
   | refine w_reg ?_
   | refine w_ret ?_
   | refine r_move (by simp (disch:=first|decide|(simp only[zF,zG];decide)) only [zA,zB,zC,zD,zE,zF,zG,zH,zI,zJ,zK,HV.cells]; try exact rfl) ?_
   | refine r_fa (by simp (disch:=first|decide|(simp only[zF,zG];decide)) only [zA,zB,zC,zD,zE,zF,zG,zH,zI,zJ,zK,HV.cells]; try exact rfl) ?_
   | refine r_ld1 (by simp (disch:=first|decide|(simp only[zF,zG];decide)) only [zA,zB,zC,zD,zE,zF,zG,zH,zI,zJ,zK,HV.cells]; try exact rfl) (by first|assumption|(simp (disch:=omega) only [get_same,get_other]; first|done|exact rfl)) (by first|assumption|rfl|(simp only [zI,zJ,HV.cells]; exact rfl)) ?_
   | refine r_box (by simp (disch:=first|decide|(simp only[zF,zG];decide)) only [zA,zB,zC,zD,zE,zF,zG,zH,zI,zJ,zK,HV.cells]; try exact rfl) ?_
   | refine r_mul (by simp (disch:=first|decide|(simp only[zF,zG];decide)) only [zA,zB,zC,zD,zE,zF,zG,zH,zI,zJ,zK,HV.cells]; try exact rfl) (by simp (disch:=first|decide|(simp only[zF,zG];decide)) only [zA,zB,zC,zD,zE,zF,zG,zH,zI,zJ,zK,HV.cells]; try exact rfl) (by omega) (by omega) ?_
   | refine r_quop (by simp (disch:=first|decide|(simp only[zF,zG];decide)) only [zA,zB,zC,zD,zE,zF,zG,zH,zI,zJ,zK,HV.cells]; try exact rfl) (by simp (disch:=first|decide|(simp only[zF,zG];decide)) only [zA,zB,zC,zD,zE,zF,zG,zH,zI,zJ,zK,HV.cells]; try exact rfl) (by omega) (by omega) (by omega) ?_
   | fail
  refine fin_r (by simp only [zL,zM]) (by simp (disch:=first|decide|(simp only[zF,zG];decide)) only [zA,zB,zC,zD,zE,zF,zG,zH,zI,zJ,zK,HV.cells]; try exact rfl) (sc_flat rfl (by dsimp only; omega) ?_); rfl
/-- The bounds of the first marks as places, those of the others as they are. -/
def PB (t : Tb) (M : Mx) (k i : Nat) : List (Int × Int) := (List.range k).map fun j => if j < i then (plc t (-(M j 0)), plc t (M 0 j)) else (-(M j 0), M 0 j)
theorem PB_len (t : Tb) (M : Mx) (k i : Nat) : (PB t M k i).length = k := by simp [PB]
theorem PB_zero (t : Tb) (M : Mx) (k : Nat) : PB t M k 0 = BL M k := by simp [PB, BL]
theorem PB_get (t : Tb) (M : Mx) {k i j : Nat} (hj : j < k) : (PB t M k i)[j]? = some (if j < i then (plc t (-(M j 0)), plc t (M 0 j)) else (-(M j 0), M 0 j)) := by simp [PB, List.getElem?_range hj]
theorem PB_set (t : Tb) (M : Mx) {k i : Nat} (hi : i < k) : (PB t M k i).set i (plc t (-(M i 0)), plc t (M 0 i)) = PB t M k (i + 1) := by
  apply List.ext_getElem?
  intro j
  rw [List.getElem?_set]
  by_cases hj : j < k
  · rw [PB_get t M hj, PB_get t M hj, PB_len]
    by_cases e : i = j
    · subst e
      rw [if_pos rfl, if_pos hi, if_pos (by omega)]
    · rw [if_neg e]
      by_cases e2 : j < i
      · rw [if_pos e2, if_pos (by omega)]
      · rw [if_neg e2, if_neg (by omega)]
  · rw [if_neg (by omega), List.getElem?_eq_none (by rw [PB_len]; omega), List.getElem?_eq_none (by rw [PB_len]; omega)]
/- 30 -/
theorem loop30 {fl : Nat} {h0 : Tr HBlk} {n0 b tb n : Nat} {Q : HExit → HAct → HS → Prop} {t : Tb} {M : Mx} (hT : TubeOk t.c t.t t.a t.b) (hfl : fl ≤ b) (hb : b < n0) (htb : tb < n0) (hne : tb ≠ b) (htg : h0.get tb = some (.cells t.cells .exact)) (hn : n ≤ 11) (hM : ∀ i, i < n → 0 ≤ -(M i 0) ∧ -(M i 0) ≤ 2000 ∧ 0 ≤ M 0 i ∧ M 0 i ≤ 2000) :
    ∀ (m i : Nat) (a : HAct) (h : Tr HBlk) (nx : Nat), m + i = n → n0 ≤ nx → D h nx → (∀ c, c < n0 → c ≠ b → h.get c = h0.get c) → h.get b = some (.cells ((PB t M n i).flatMap renc) .exact) → a.nt = 40 → a.defers = [] → a.tmp 2 = .ptr (some (tb, 0)) → a.tmp 6 = .slice (some (b, 0)) n n → a.tmp 19 = .slice (some (b, 0)) n n → a.tmp 20 = i64 n → a.tmp 21 = i64 i →
      (∀ a' h' n', n0 ≤ n' → D h' n' → (∀ c, c < n0 → c ≠ b → h'.get c = h0.get c) → h'.get b = some (.cells ((PB t M n n).flatMap renc) .exact) → a'.nt = 40 → a'.defers = [] → a'.tmp 6 = .slice (some (b, 0)) n n → Q .normal a' ⟨h', n'⟩) → W LW fl none (.loop L30w0) (inBlockH 0 Q) a ⟨h, nx⟩
  | 0, i, a, h, nx, hm, hnx, hd, hs, hg, hnt, hds, h2, h6, h19, h20, h21, hq => by
    have hi : i = n := by omega
    subst hi
    refine w_it (show L30w0 = _ by unfold L30w0; exact rfl) ?_
    repeat' first
     | refine r_nil ?_
     | refine th_n ?_
     | refine th_e ?_
     | refine ib_e ?_
     | refine w_exit ?_
     | refine w_seq ?_
     | refine w_reg ?_
     | refine w_f (by simp (disch:=first|decide|(simp only[zF,zG,hnt, h2, h6, h19, h20, h21];decide)) only [zA,zB,zC,zD,zE,zF,zG,zH,zI,zJ,zK,HV.cells,hnt, h2, h6, h19, h20, h21]; first|done|exact rfl) ?_
     | refine r_lss (by simp (disch:=first|decide|(simp only[zF,zG,hnt, h2, h6, h19, h20, h21];decide)) only [zA,zB,zC,zD,zE,zF,zG,zH,zI,zJ,zK,HV.cells,hnt, h2, h6, h19, h20, h21]; try exact rfl) (by simp (disch:=first|decide|(simp only[zF,zG,hnt, h2, h6, h19, h20, h21];decide)) only [zA,zB,zC,zD,zE,zF,zG,zH,zI,zJ,zK,HV.cells,hnt, h2, h6, h19, h20, h21]; try exact rfl) (fun hc => ?_) (fun hc => ?_) <;> (try (exfalso; omega))
     | fail
    refine hq _ _ _ hnx hd hs hg ?_ ?_ ?_
    all_goals first|(simp only [zL,zM,zF,zG,hnt, hds, h6];done)|(simp (disch:=first|decide|(simp only[zF,zG,hnt, hds, h6];decide)) only [zA,zB,zC,zD,zE,zF,zG,zH,zI,zJ,zK,HV.cells,hnt, hds, h6];first|done|exact rfl)|assumption
  | m + 1, i, a, h, nx, hm, hnx, hd, hs, hg, hnt, hds, h2, h6, h19, h20, h21, hq => by
    have hi : i < n := by omega
    have tkt : takeN 4 (t.cells.drop 0) = some t.cells := rfl
    have hgt : h.get tb = some (.cells t.cells .exact) := by rw [hs _ htb hne]; exact htg
    have hx := PB_get t M (i := i) hi
    rw [if_neg (Nat.lt_irrefl i)] at hx
    have e0 := flat_row renc_len _ i _ hx
    have fr : fillH [i64 0, i64 0] [(0, 1, i64 (plc t (-(M i 0)))), (1, 1, i64 (plc t (M 0 i)))] = some (renc (plc t (-(M i 0)), plc t (M 0 i))) := rfl
    have ow := ow_row renc_len (PB t M n i) i (plc t (-(M i 0)), plc t (M 0 i)) (by rw [PB_len]; exact hi)
    rw [PB_set t M hi] at ow
    have ow2 : overwrite ((PB t M n i).flatMap renc) (0 + i * 2) (HV.agg (renc (plc t (-(M i 0)), plc t (M 0 i)))).cells = some ((PB t M n (i + 1)).flatMap renc) := ow
    have ow1 : overwrite [i64 0, i64 0] 0 (HV.agg (renc (-(M i 0), M 0 i))).cells = some (renc (-(M i 0), M 0 i)) := rfl
    have hm1 := hM i hi
    have cP : ∀ fl h' n' x, 0 ≤ x → x ≤ 2000 → C LW fl 74 [.agg t.cells, i64 x] ⟨h', n'⟩ (Sc (· = i64 (plc t x)) ⟨h', n'⟩) := fun fl h' n' x h1 h2 => c_place hT h1 h2
    have r0 : (renc (-(M i 0), M 0 i))[0 + 0]? = some (i64 (-(M i 0))) := rfl
    have r1 : (renc (-(M i 0), M 0 i))[0 + 1]? = some (i64 (M 0 i)) := rfl
    refine w_it (show L30w0 = _ by unfold L30w0; exact rfl) ?_
    repeat' first
     | refine r_nil ?_
     | refine th_n ?_
     | refine ib_n ?_
     | refine w_seq ?_
     | refine w_reg ?_
     | refine w_skip ?_
     | refine w_block ?_
     | refine w_t (by simp (disch:=first|decide|(simp only[zF,zG,hnt, h2, h6, h19, h20, h21, hgt, hg, fr];decide)) only [zA,zB,zC,zD,zE,zF,zG,zH,zI,zJ,zK,HV.cells,hnt, h2, h6, h19, h20, h21, hgt, hg, fr]; first|done|exact rfl) ?_
     | refine r_move (by simp (disch:=first|decide|(simp only[zF,zG,hnt, h2, h6, h19, h20, h21, hgt, hg, fr];decide)) only [zA,zB,zC,zD,zE,zF,zG,zH,zI,zJ,zK,HV.cells,hnt, h2, h6, h19, h20, h21, hgt, hg, fr]; try exact rfl) ?_
     | refine r_fa (by simp (disch:=first|decide|(simp only[zF,zG,hnt, h2, h6, h19, h20, h21, hgt, hg, fr];decide)) only [zA,zB,zC,zD,zE,zF,zG,zH,zI,zJ,zK,HV.cells,hnt, h2, h6, h19, h20, h21, hgt, hg, fr]; try exact rfl) ?_
     | refine r_ld1 (by simp (disch:=first|decide|(simp only[zF,zG,hnt, h2, h6, h19, h20, h21, hgt, hg, fr];decide)) only [zA,zB,zC,zD,zE,zF,zG,zH,zI,zJ,zK,HV.cells,hnt, h2, h6, h19, h20, h21, hgt, hg, fr]; try exact rfl) (by first|assumption|(simp (disch:=omega) only [get_same,get_other,hnt, h2, h6, h19, h20, h21, hgt, hg, fr]; first|done|exact rfl)) (by first|assumption|rfl|(simp only [zI,zJ,HV.cells,hnt, h2, h6, h19, h20, h21, hgt, hg, fr]; exact rfl)) ?_
     | refine r_ldn (by simp (disch:=first|decide|(simp only[zF,zG,hnt, h2, h6, h19, h20, h21, hgt, hg, fr];decide)) only [zA,zB,zC,zD,zE,zF,zG,zH,zI,zJ,zK,HV.cells,hnt, h2, h6, h19, h20, h21, hgt, hg, fr]; try exact rfl) (by first|assumption|(simp (disch:=omega) only [get_same,get_other,hnt, h2, h6, h19, h20, h21, hgt, hg, fr]; first|done|exact rfl)) (by first|assumption|rfl|(simp only [zI,zJ,HV.cells,hnt, h2, h6, h19, h20, h21, hgt, hg, fr]; exact rfl)) ?_
     | refine r_alloc ?_
     | refine r_st (cs' := _) (by simp (disch:=first|decide|(simp only[zF,zG,hnt, h2, h6, h19, h20, h21, hgt, hg, fr];decide)) only [zA,zB,zC,zD,zE,zF,zG,zH,zI,zJ,zK,HV.cells,hnt, h2, h6, h19, h20, h21, hgt, hg, fr]; try exact rfl) (by simp (disch:=first|decide|(simp only[zF,zG,hnt, h2, h6, h19, h20, h21, hgt, hg, fr];decide)) only [zA,zB,zC,zD,zE,zF,zG,zH,zI,zJ,zK,HV.cells,hnt, h2, h6, h19, h20, h21, hgt, hg, fr]; try exact rfl) (by first|assumption|(simp (disch:=omega) only [get_same,get_other,hnt, h2, h6, h19, h20, h21, hgt, hg, fr]; first|done|exact rfl)) (by exact True.intro) (by rfl) (by rfl) (by first|assumption|rfl|(simp only [zI,zJ,HV.cells,hnt, h2, h6, h19, h20, h21, hgt, hg, fr]; exact rfl)) (by omega) ?_
     | refine r_add (by simp (disch:=first|decide|(simp only[zF,zG,hnt, h2, h6, h19, h20, h21, hgt, hg, fr];decide)) only [zA,zB,zC,zD,zE,zF,zG,zH,zI,zJ,zK,HV.cells,hnt, h2, h6, h19, h20, h21, hgt, hg, fr]; try exact rfl) (by simp (disch:=first|decide|(simp only[zF,zG,hnt, h2, h6, h19, h20, h21, hgt, hg, fr];decide)) only [zA,zB,zC,zD,zE,zF,zG,zH,zI,zJ,zK,HV.cells,hnt, h2, h6, h19, h20, h21, hgt, hg, fr]; try exact rfl) (by omega) (by omega) ?_
     | refine r_lss (by simp (disch:=first|decide|(simp only[zF,zG,hnt, h2, h6, h19, h20, h21, hgt, hg, fr];decide)) only [zA,zB,zC,zD,zE,zF,zG,zH,zI,zJ,zK,HV.cells,hnt, h2, h6, h19, h20, h21, hgt, hg, fr]; try exact rfl) (by simp (disch:=first|decide|(simp only[zF,zG,hnt, h2, h6, h19, h20, h21, hgt, hg, fr];decide)) only [zA,zB,zC,zD,zE,zF,zG,zH,zI,zJ,zK,HV.cells,hnt, h2, h6, h19, h20, h21, hgt, hg, fr]; try exact rfl) (fun hc => ?_) (fun hc => ?_) <;> (try (exfalso; omega))
     | refine r_ixs (by simp (disch:=first|decide|(simp only[zF,zG,hnt, h2, h6, h19, h20, h21, hgt, hg, fr];decide)) only [zA,zB,zC,zD,zE,zF,zG,zH,zI,zJ,zK,HV.cells,hnt, h2, h6, h19, h20, h21, hgt, hg, fr]; try exact rfl) (by simp (disch:=first|decide|(simp only[zF,zG,hnt, h2, h6, h19, h20, h21, hgt, hg, fr];decide)) only [zA,zB,zC,zD,zE,zF,zG,zH,zI,zJ,zK,HV.cells,hnt, h2, h6, h19, h20, h21, hgt, hg, fr]; try exact rfl) (by omega) ?_
     | refine r_build (by simp (disch:=first|decide|(simp only[zF,zG,hnt, h2, h6, h19, h20, h21, hgt, hg, fr];decide)) only [evParts,List.map_cons,List.map_nil,List.nil_append,List.cons_append,List.append_nil,zA,zB,zC,zD,zE,zF,zG,zH,zI,zJ,zK,HV.cells,hnt, h2, h6, h19, h20, h21, hgt, hg, fr]; try exact rfl) ?_
     | refine r_calls (by simp (disch:=first|decide|(simp only[zF,zG,hnt, h2, h6, h19, h20, h21, hgt, hg, fr];decide)) only [zA,zB,zC,zD,zE,zF,zG,zH,zI,zJ,zK,HV.cells,hnt, h2, h6, h19, h20, h21, hgt, hg, fr]; try exact rfl) (by simp (disch:=first|decide|(simp only[zF,zG,hnt, h2, h6, h19, h20, h21, hgt, hg, fr];decide)) only [List.map_cons,List.map_nil,List.nil_append,List.cons_append,List.append_nil,zA,zB,zC,zD,zE,zF,zG,zH,zI,zJ,zK,HV.cells,hnt, h2, h6, h19, h20, h21, hgt, hg, fr]; try exact rfl) (cP _ _ _ _ (by omega) (by omega)) (fun n' hn' => ?_)
     | refine w_draw (by omega) (by repeat' first|assumption|refine D.upd ?_ (by omega)|exact D.mono (by assumption) (by omega)) ?_
     | refine d_rest rfl ?_
     | refine d_one rfl ?_
     | refine d_next (by omega) ?_
     | fail
    refine loop30 hT hfl hb htb hne htg hn hM m (i + 1) _ _ _ (by omega) (by omega) (by repeat' first|assumption|refine D.upd ?_ (by omega)|exact D.mono (by assumption) (by omega)) (fun c hc hcb => ?_) (by first|assumption|(simp (disch:=omega) only [get_same,get_other]; first|done|exact rfl)) ?_ ?_ ?_ ?_ ?_ ?_ ?_ hq
    all_goals try first|(simp only [zL,zM,zF,zG,hnt, hds, h2, h6, h19, h20, h21];done)|(simp (disch:=first|decide|(simp only[zF,zG,hnt, hds, h2, h6, h19, h20, h21];decide)) only [zA,zB,zC,zD,zE,zF,zG,zH,zI,zJ,zK,HV.cells,hnt, hds, h2, h6, h19, h20, h21];first|done|exact rfl)|assumption
    rw [get_other _ _ hcb, get_other _ _ (by omega), get_other _ _ (by omega)]; exact hs c hc hcb
/-- What 'Places' hands back. -/
def PlacesK (t : Tb) (n : Nat) (l : List Rd) (σ : HS) : HV → HS → Prop := fun v σ' =>
  (∃ M, errOf t.c t.t t.a t.b l = 0 ∧ readO t n l = some M ∧ ∃ p c h' n', v = .tuple [.slice p (n + 1) c, i64 0] ∧ σ' = ⟨h', n'⟩ ∧ Ext σ.h σ.nx h' n' ∧ Row renc 2 h' n' p (PB t M (n + 1) (n + 1))) ∨
  (errOf t.c t.t t.a t.b l = 0 ∧ readO t n l = none ∧ Sc (· = .tuple [.slice none 0 0, i64 9]) σ v σ') ∨
  (errOf t.c t.t t.a t.b l ≠ 0 ∧ Sc (· = .tuple [.slice none 0 0, i64 (errOf t.c t.t t.a t.b l)]) σ v σ')
/- 30 -/
theorem c_Places {fl : Nat} {h : Tr HBlk} {nx : Nat} (hd : D h nx) {t : Tb} {n : Nat} {p : Option (Nat × Nat)} {l : List Rd} {m cp : Nat} (htc : TubeOk t.c t.t t.a t.b → t.c = n) (hm : m = l.length) (hlen : l.length < 1000000) (hrow : Row Rd.enc 4 h nx p l) :
    C LW fl 30 [.agg t.cells, .slice p m cp] ⟨h, nx⟩ (PlacesK t n l ⟨h, nx⟩) := by
  subst hm
  have tk : takeN 4 (t.cells.drop 0) = some t.cells := rfl
  refine c_in lw30 rfl rfl rfl ?_
  dsimp only [L30]
  repeat' first
   | refine r_nil ?_
   | refine th_n ?_
   | refine w_seq ?_
   | refine w_reg ?_
   | refine r_move (by simp (disch:=first|decide|(simp only[zF,zG];decide)) only [zA,zB,zC,zD,zE,zF,zG,zH,zI,zJ,zK,HV.cells]; try exact rfl) ?_
   | refine r_ldn (by simp (disch:=first|decide|(simp only[zF,zG];decide)) only [zA,zB,zC,zD,zE,zF,zG,zH,zI,zJ,zK,HV.cells]; try exact rfl) (by first|assumption|(simp (disch:=omega) only [get_same,get_other]; first|done|exact rfl)) (by first|assumption|rfl|(simp only [zI,zJ,HV.cells]; exact rfl)) ?_
   | refine r_box (by simp (disch:=first|decide|(simp only[zF,zG];decide)) only [zA,zB,zC,zD,zE,zF,zG,zH,zI,zJ,zK,HV.cells]; try exact rfl) ?_
   | fail
  refine r_callc (by simp (disch:=first|decide|(simp only[zF,zG];decide)) only [zA,zB,zC,zD,zE,zF,zG,zH,zI,zJ,zK,HV.cells]; try exact rfl) (by simp (disch:=first|decide|(simp only[zF,zG];decide)) only [List.map_cons,List.map_nil,List.nil_append,List.cons_append,List.append_nil,zA,zB,zC,zD,zE,zF,zG,zH,zI,zJ,zK,HV.cells]; try exact rfl) (c_HeightsB (n := n) (l := l) (cp := cp) (by repeat' first|assumption|refine D.upd ?_ (by omega)|exact D.mono (by assumption) (by omega)) htc rfl hlen (hrow.ext (by repeat' first|assumption|refine Ext.put ?_ (by omega) (by omega)|exact Ext.up (by assumption) (by omega)|exact Ext.nx (by assumption) (by omega)))) ?_
  rintro w σ' (⟨M, hE, hO, b2, h2, n2, rfl, rfl, e2, q1, q2, q3⟩ | ⟨hE, hO, rfl, n2, hn2, rfl⟩ | ⟨hE, rfl, n2, hn2, rfl⟩)
  · obtain ⟨hT, hL, hR⟩ := errOf_zero hE
    have hcn := htc hT
    have hTo := hT
    unfold TubeOk at hTo
    dsimp only at e2 q1
    have hle := e2.le
    have hd2 := e2.d
    have s1 : h2.get nx = some (.cells t.cells .exact) := by rw [e2.same _ (by omega)]; exact (by first|assumption|(simp (disch:=omega) only [get_same,get_other]; first|done|exact rfl))
    have x2 : Ext h nx h2 n2 := Ext.trans (by repeat' first|assumption|refine Ext.put ?_ (by omega) (by omega)|exact Ext.up (by assumption) (by omega)|exact Ext.nx (by assumption) (by omega)) e2
    repeat' first
     | refine r_nil ?_
     | refine th_n ?_
     | refine w_seq ?_
     | refine w_reg ?_
     | refine w_skip ?_
     | refine w_block ?_
     | refine w_f (by simp (disch:=first|decide|(simp only[zF,zG];decide)) only [zA,zB,zC,zD,zE,zF,zG,zH,zI,zJ,zK,HV.cells]; first|done|exact rfl) ?_
     | refine r_move (by simp (disch:=first|decide|(simp only[zF,zG];decide)) only [zA,zB,zC,zD,zE,zF,zG,zH,zI,zJ,zK,HV.cells]; try exact rfl) ?_
     | refine r_ne (by simp (disch:=first|decide|(simp only[zF,zG];decide)) only [zA,zB,zC,zD,zE,zF,zG,zH,zI,zJ,zK,HV.cells]; try exact rfl) (by simp (disch:=first|decide|(simp only[zF,zG];decide)) only [zA,zB,zC,zD,zE,zF,zG,zH,zI,zJ,zK,HV.cells]; try exact rfl) (fun hc => ?_) (fun hc => ?_) <;> (try (exfalso; omega))
     | refine r_len (by simp (disch:=first|decide|(simp only[zF,zG];decide)) only [zA,zB,zC,zD,zE,zF,zG,zH,zI,zJ,zK,HV.cells]; try exact rfl) ?_
     | refine r_ext (by simp (disch:=first|decide|(simp only[zF,zG];decide)) only [zA,zB,zC,zD,zE,zF,zG,zH,zI,zJ,zK,HV.cells]; try exact rfl) (by first|assumption|rfl|(simp only [zI,zJ,HV.cells]; exact rfl)) ?_
     | fail
    rw [← PB_zero t] at q3
    refine loop30 (h0 := h2) (n0 := n2) (b := b2) (tb := nx) (t := t) (M := M) (n := n + 1) hT (by omega) q2 (by omega) (by omega) s1 (by omega) (fun i hi => read_bnd hcn hT hR hO (by omega)) (n + 1) 0 _ _ _ (by omega) (Nat.le_refl _) hd2 (fun c _ _ => rfl) q3 ?_ ?_ ?_ ?_ ?_ ?_ ?_ (fun a' h' n' g0 g1 g2 g3 g4 g5 g6 => ?_)
    all_goals try first|(simp only [zL,zM,zF,zG];done)|(simp (disch:=first|decide|(simp only[zF,zG];decide)) only [zA,zB,zC,zD,zE,zF,zG,zH,zI,zJ,zK,HV.cells];first|done|exact rfl)|assumption
    repeat' first
     | refine r_nil ?_
     | refine th_n ?_
     | refine w_seq ?_
     | refine w_reg ?_
     | refine w_ret ?_
     | refine r_move (by simp (disch:=first|decide|(simp only[zF,zG,g4, g6];decide)) only [zA,zB,zC,zD,zE,zF,zG,zH,zI,zJ,zK,HV.cells,g4, g6]; try exact rfl) ?_
     | fail
    have x3 : Ext h nx h' n' := ⟨by omega, g1, fun c hc => (g2 c (by omega) (by omega)).trans (x2.same c hc)⟩
    obtain ⟨h3, k1, k2, k3⟩ := gc_tupB (o := 0) (n := n + 1) (c := n + 1) (rest := [i64 0]) hd x3 (show nx ≤ b2 by omega) g3
    refine fin_m (by simp only [zL, g5]) (res_t (by simp (disch:=first|decide|(simp only[zF,zG,g4];decide)) only [zA,zB,zC,zD,zE,zF,zG,zH,zI,zJ,zK,HV.cells,g4]; try exact rfl) (res_t (by simp (disch:=first|decide|(simp only[zF,zG,g4];decide)) only [zA,zB,zC,zD,zE,zF,zG,zH,zI,zJ,zK,HV.cells,g4]; try exact rfl) res_nil)) (.inl ⟨M, hE, hO, some (b2, 0), n + 1, h3, n', rfl, k1, k2, row_flat renc_len (by omega) k3⟩)
  · repeat' first
     | refine r_nil ?_
     | refine th_n ?_
     | refine th_r ?_
     | refine w_seq ?_
     | refine w_reg ?_
     | refine w_ret ?_
     | refine w_t (by simp (disch:=first|decide|(simp only[zF,zG];decide)) only [zA,zB,zC,zD,zE,zF,zG,zH,zI,zJ,zK,HV.cells]; first|done|exact rfl) ?_
     | refine r_move (by simp (disch:=first|decide|(simp only[zF,zG];decide)) only [zA,zB,zC,zD,zE,zF,zG,zH,zI,zJ,zK,HV.cells]; try exact rfl) ?_
     | refine r_ne (by simp (disch:=first|decide|(simp only[zF,zG];decide)) only [zA,zB,zC,zD,zE,zF,zG,zH,zI,zJ,zK,HV.cells]; try exact rfl) (by simp (disch:=first|decide|(simp only[zF,zG];decide)) only [zA,zB,zC,zD,zE,zF,zG,zH,zI,zJ,zK,HV.cells]; try exact rfl) (fun hc => ?_) (fun hc => ?_) <;> (try (exfalso; omega))
     | refine r_ext (by simp (disch:=first|decide|(simp only[zF,zG];decide)) only [zA,zB,zC,zD,zE,zF,zG,zH,zI,zJ,zK,HV.cells]; try exact rfl) (by first|assumption|rfl|(simp only [zI,zJ,HV.cells]; exact rfl)) ?_
     | fail
    refine fin_m (by simp only [zL,zM]) (res_t (by simp (disch:=first|decide|(simp only[zF,zG];decide)) only [zA,zB,zC,zD,zE,zF,zG,zH,zI,zJ,zK,HV.cells]; try exact rfl) (res_t (by simp (disch:=first|decide|(simp only[zF,zG];decide)) only [zA,zB,zC,zD,zE,zF,zG,zH,zI,zJ,zK,HV.cells]; try exact rfl) res_nil)) (.inr (.inl ⟨hE, hO, sc_flat rfl (by dsimp only at *; omega) rfl⟩))
  · repeat' first
     | refine r_nil ?_
     | refine th_n ?_
     | refine th_r ?_
     | refine w_seq ?_
     | refine w_reg ?_
     | refine w_ret ?_
     | refine w_t (by simp (disch:=first|decide|(simp only[zF,zG];decide)) only [zA,zB,zC,zD,zE,zF,zG,zH,zI,zJ,zK,HV.cells]; first|done|exact rfl) ?_
     | refine r_move (by simp (disch:=first|decide|(simp only[zF,zG];decide)) only [zA,zB,zC,zD,zE,zF,zG,zH,zI,zJ,zK,HV.cells]; try exact rfl) ?_
     | refine r_ne (by simp (disch:=first|decide|(simp only[zF,zG];decide)) only [zA,zB,zC,zD,zE,zF,zG,zH,zI,zJ,zK,HV.cells]; try exact rfl) (by simp (disch:=first|decide|(simp only[zF,zG];decide)) only [zA,zB,zC,zD,zE,zF,zG,zH,zI,zJ,zK,HV.cells]; try exact rfl) (fun hc => ?_) (fun hc => ?_) <;> (try (exfalso; omega))
     | refine r_ext (by simp (disch:=first|decide|(simp only[zF,zG];decide)) only [zA,zB,zC,zD,zE,zF,zG,zH,zI,zJ,zK,HV.cells]; try exact rfl) (by first|assumption|rfl|(simp only [zI,zJ,HV.cells]; exact rfl)) ?_
     | fail
    all_goals first
      | exact absurd hc hE
      | refine fin_m (by simp only [zL,zM]) (res_t (by simp (disch:=first|decide|(simp only[zF,zG];decide)) only [zA,zB,zC,zD,zE,zF,zG,zH,zI,zJ,zK,HV.cells]; try exact rfl) (res_t (by simp (disch:=first|decide|(simp only[zF,zG];decide)) only [zA,zB,zC,zD,zE,zF,zG,zH,zI,zJ,zK,HV.cells]; try exact rfl) res_nil)) (.inr (.inr ⟨hE, sc_flat rfl (by dsimp only at *; omega) rfl⟩))
end Go.Hx

/- Layer 1: the law of P1.7. -/
namespace Go.Hx
set_option linter.unusedSimpArgs false
set_option linter.unusedVariables false
set_option maxRecDepth 20000
set_option maxHeartbeats 4000000
attribute [local irreducible] W R C thenH inBlockH
/- 55 -/
theorem c_on {fl : Nat} {h : Tr HBlk} {nx : Nat} {x : Int} {r : Int × Int} : C LW fl 55 [i64 x, .agg (renc r)] ⟨h, nx⟩ (Sc (· = .bool (decide (r.1 ≤ x ∧ x ≤ r.2))) ⟨h, nx⟩) := by
  have r0 : (renc r)[0 + 0]? = some (i64 r.1) := rfl
  have r1 : (renc r)[0 + 1]? = some (i64 r.2) := rfl
  refine c_in lw55 rfl rfl rfl ?_
  dsimp only [L55]
  repeat' first
   | refine r_nil ?_
   | refine th_n ?_
   | refine w_seq ?_
   | refine w_reg ?_
   | refine w_ret ?_
   | refine r_take (by simp (disch:=first|decide|(simp only[zF,zG];decide)) only [zA,zB,zC,zD,zE,zF,zG,zH,zI,zJ,zK,HV.cells]; first|done|exact rfl) ?_
   | refine r_drop (by simp (disch:=first|decide|(simp only[zF,zG,Bool.not_true,Bool.not_false];decide)) only [zA,zB,zC,zD,zE,zF,zG,zH,zI,zJ,zK,HV.cells,Bool.not_true,Bool.not_false]; first|done|exact rfl) ?_
   | refine r_move (by simp (disch:=first|decide|(simp only[zF,zG];decide)) only [zA,zB,zC,zD,zE,zF,zG,zH,zI,zJ,zK,HV.cells]; try exact rfl) ?_
   | refine r_fa (by simp (disch:=first|decide|(simp only[zF,zG];decide)) only [zA,zB,zC,zD,zE,zF,zG,zH,zI,zJ,zK,HV.cells]; try exact rfl) ?_
   | refine r_ld1 (by simp (disch:=first|decide|(simp only[zF,zG];decide)) only [zA,zB,zC,zD,zE,zF,zG,zH,zI,zJ,zK,HV.cells]; try exact rfl) (by first|assumption|(simp (disch:=omega) only [get_same,get_other]; first|done|exact rfl)) (by first|assumption|rfl|(simp only [zI,zJ,HV.cells]; exact rfl)) ?_
   | refine r_box (by simp (disch:=first|decide|(simp only[zF,zG];decide)) only [zA,zB,zC,zD,zE,zF,zG,zH,zI,zJ,zK,HV.cells]; try exact rfl) ?_
   | refine r_leq (by simp (disch:=first|decide|(simp only[zF,zG];decide)) only [zA,zB,zC,zD,zE,zF,zG,zH,zI,zJ,zK,HV.cells]; try exact rfl) (by simp (disch:=first|decide|(simp only[zF,zG];decide)) only [zA,zB,zC,zD,zE,zF,zG,zH,zI,zJ,zK,HV.cells]; try exact rfl) (fun hc => ?_) (fun hc => ?_) <;> (try (exfalso; omega))
   | refine r_geq (by simp (disch:=first|decide|(simp only[zF,zG];decide)) only [zA,zB,zC,zD,zE,zF,zG,zH,zI,zJ,zK,HV.cells]; try exact rfl) (by simp (disch:=first|decide|(simp only[zF,zG];decide)) only [zA,zB,zC,zD,zE,zF,zG,zH,zI,zJ,zK,HV.cells]; try exact rfl) (fun hc => ?_) (fun hc => ?_) <;> (try (exfalso; omega))
   | refine r_pt (by simp (disch:=first|decide|(simp only[zF,zG];decide)) only [zA,zB,zC,zD,zE,zF,zG,zH,zI,zJ,zK,HV.cells]; first|done|exact rfl) (by simp (disch:=first|decide|(simp only[zF,zG];decide)) only [zA,zB,zC,zD,zE,zF,zG,zH,zI,zJ,zK,HV.cells]; try exact rfl) ?_
   | refine r_pf (by simp (disch:=first|decide|(simp only[zF,zG];decide)) only [zA,zB,zC,zD,zE,zF,zG,zH,zI,zJ,zK,HV.cells]; first|done|exact rfl) (by simp (disch:=first|decide|(simp only[zF,zG];decide)) only [zA,zB,zC,zD,zE,zF,zG,zH,zI,zJ,zK,HV.cells]; try exact rfl) ?_
   | fail
  all_goals (refine fin_r (by simp only [zL,zM]) (by simp (disch:=first|decide|(simp only[zF,zG];decide)) only [zA,zB,zC,zD,zE,zF,zG,zH,zI,zJ,zK,HV.cells]; try exact rfl) (sc_flat rfl (by dsimp only; omega) ?_); first|rfl|(rw [decide_eq_true (by omega)])|(rw [decide_eq_false (by omega)]))
/- 10 -/
theorem loop10 {fl : Nat} {h : Tr HBlk} {tb n : Nat} {Q : HExit → HAct → HS → Prop} {p ph pp : Option (Nat × Nat)} {v : List Int} {cp ch cq : Nat} {t : Tb} {M : Mx} (hcn : t.c = n) (hT : TubeOk t.c t.t t.a t.b) (hv : TrulyOk t n v) (hF : Feas n M (hgt v)) (htg : h.get tb = some (.cells t.cells .exact)) (hM : ∀ i, i ≤ n → 0 ≤ -(M i 0) ∧ -(M i 0) ≤ 2000 ∧ 0 ≤ M 0 i ∧ M 0 i ≤ 2000) :
    ∀ (m i : Nat) (a : HAct) (nx : Nat), m + i = n + 1 → fl ≤ nx → D h nx → Row ienc 1 h nx p v → Row renc 2 h nx ph (BL M (n + 1)) → Row renc 2 h nx pp (PB t M (n + 1) (n + 1)) → a.nt = 107 → a.defers = [] → a.tmp 3 = .ptr (some (tb, 0)) → a.tmp 7 = .slice p n cp → a.tmp 9 = .slice ph (n + 1) ch → a.tmp 11 = .slice pp (n + 1) cq → a.tmp 13 = i64 i →
      (∀ a' n', nx ≤ n' → a'.nt = 107 → a'.defers = [] → Q .normal a' ⟨h, n'⟩) → W LW fl none (.loop L10w0) (inBlockH 0 Q) a ⟨h, nx⟩
  | 0, i, a, nx, hm, hfl, hd, hrow, hrh, hrp, hnt, hds, h3, h7, h9, h11, h13, hq => by
    have ec : t.cells[0 + 0]? = some (i64 t.c) := rfl
    refine w_it (show L10w0 = _ by unfold L10w0; exact rfl) ?_
    repeat' first
     | refine r_nil ?_
     | refine th_n ?_
     | refine th_e ?_
     | refine ib_e ?_
     | refine w_exit ?_
     | refine w_seq ?_
     | refine w_reg ?_
     | refine w_f (by simp (disch:=first|decide|(simp only[zF,zG,hnt, h3, h7, h9, h11, h13];decide)) only [zA,zB,zC,zD,zE,zF,zG,zH,zI,zJ,zK,HV.cells,hnt, h3, h7, h9, h11, h13]; first|done|exact rfl) ?_
     | refine r_move (by simp (disch:=first|decide|(simp only[zF,zG,hnt, h3, h7, h9, h11, h13];decide)) only [zA,zB,zC,zD,zE,zF,zG,zH,zI,zJ,zK,HV.cells,hnt, h3, h7, h9, h11, h13]; try exact rfl) ?_
     | refine r_fa (by simp (disch:=first|decide|(simp only[zF,zG,hnt, h3, h7, h9, h11, h13];decide)) only [zA,zB,zC,zD,zE,zF,zG,zH,zI,zJ,zK,HV.cells,hnt, h3, h7, h9, h11, h13]; try exact rfl) ?_
     | refine r_ld1 (by simp (disch:=first|decide|(simp only[zF,zG,hnt, h3, h7, h9, h11, h13];decide)) only [zA,zB,zC,zD,zE,zF,zG,zH,zI,zJ,zK,HV.cells,hnt, h3, h7, h9, h11, h13]; try exact rfl) (by first|assumption|(simp (disch:=omega) only [get_same,get_other,hnt, h3, h7, h9, h11, h13]; first|done|exact rfl)) (by first|assumption|rfl|(simp only [zI,zJ,HV.cells,hnt, h3, h7, h9, h11, h13]; exact rfl)) ?_
     | refine r_leq (by simp (disch:=first|decide|(simp only[zF,zG,hnt, h3, h7, h9, h11, h13];decide)) only [zA,zB,zC,zD,zE,zF,zG,zH,zI,zJ,zK,HV.cells,hnt, h3, h7, h9, h11, h13]; try exact rfl) (by simp (disch:=first|decide|(simp only[zF,zG,hnt, h3, h7, h9, h11, h13];decide)) only [zA,zB,zC,zD,zE,zF,zG,zH,zI,zJ,zK,HV.cells,hnt, h3, h7, h9, h11, h13]; try exact rfl) (fun hc => ?_) (fun hc => ?_) <;> (try (exfalso; omega))
     | fail
    refine hq _ _ (Nat.le_refl _) ?_ ?_
    all_goals first|(simp only [zL,zM,zF,zG,hnt, hds];done)|(simp (disch:=first|decide|(simp only[zF,zG,hnt, hds];decide)) only [zA,zB,zC,zD,zE,zF,zG,zH,zI,zJ,zK,HV.cells,hnt, hds];first|done|exact rfl)|assumption
  | m + 1, i, a, nx, hm, hfl, hd, hrow, hrh, hrp, hnt, hds, h3, h7, h9, h11, h13, hq => by
    have hi : i ≤ n := by omega
    have hrh0 := hrh
    have hrp0 := hrp
    obtain ⟨b, o, cs, kk, rfl, hb, hg, hcs⟩ := hrh (by intro e; have := BL_len M (n + 1); rw [e] at this; simp at this)
    obtain ⟨b2, o2, cs2, kk2, rfl, hb2, hg2, hcs2⟩ := hrp (by intro e; have := PB_len t M (n + 1) (n + 1); rw [e] at this; simp at this)
    have x0 := hcs i _ (BL_get M (show i < n + 1 by omega))
    have y0 := hcs2 i _ (PB_get t M (i := n + 1) (show i < n + 1 by omega))
    rw [if_pos (by omega)] at y0
    have t1 := tube_pos hT
    have hTo := hT
    unfold TubeOk at hTo
    have ec : t.cells[0 + 0]? = some (i64 t.c) := rfl
    have et : t.cells[0 + 1]? = some (i64 t.t) := rfl
    have i1 := hgt_in hT hv hi
    have f1 := hF 0 i (Nat.zero_le _) hi
    have f2 := hF i 0 hi (Nat.zero_le _)
    rw [hgt_zero] at f1 f2
    have hMi := hM i hi
    have m1 := mul_bd (p := 1000 * t.c) (q := hgt v i) (A := 10000) (B := 2000) (by omega) (by omega) i1.1 (by omega)
    have hvb : ∀ x ∈ v, -1000000 ≤ x ∧ x ≤ 1000000 := fun x hx => by have := hv.2.1 x hx; omega
    have cH : ∀ fl h' n', Ext h nx h' n' → C LW fl 38 [.slice p n cp, i64 i] ⟨h', n'⟩ (Sc (· = i64 (hgt v i)) ⟨h', n'⟩) := fun fl h' n' e => c_Height hv.1.symm (by rw [hv.1]; exact hi) (by rw [hv.1]; omega) (hrow.ext e) hvb
    have p1 : plc t (-(M i 0)) ≤ 1000 * t.c * hgt v i / t.t := Int.ediv_le_ediv (by omega) (Int.mul_le_mul_of_nonneg_left (by omega) (by omega))
    have p2 : 1000 * t.c * hgt v i / t.t ≤ plc t (M 0 i) := Int.ediv_le_ediv (by omega) (Int.mul_le_mul_of_nonneg_left (by omega) (by omega))
    have cO : ∀ fl h' n' x (r : Int × Int), r.1 ≤ x ∧ x ≤ r.2 → C LW fl 55 [i64 x, .agg (renc r)] ⟨h', n'⟩ (Sc (· = .bool true) ⟨h', n'⟩) := fun fl h' n' x r e => by have := c_on (fl := fl) (h := h') (nx := n') (x := x) (r := r); rwa [decide_eq_true e] at this
    have p0 : -(M i 0) ≤ hgt v i ∧ hgt v i ≤ M 0 i := by omega
    have p3 := And.intro p1 p2
    refine w_it (show L10w0 = _ by unfold L10w0; exact rfl) ?_
    repeat' first
     | refine r_nil ?_
     | refine th_n ?_
     | refine ib_n ?_
     | refine w_seq ?_
     | refine w_reg ?_
     | refine w_skip ?_
     | refine w_block ?_
     | refine w_t (by simp (disch:=first|decide|(simp only[zF,zG,hnt, h3, h7, h9, h11, h13];decide)) only [zA,zB,zC,zD,zE,zF,zG,zH,zI,zJ,zK,HV.cells,hnt, h3, h7, h9, h11, h13]; first|done|exact rfl) ?_
     | refine w_f (by simp (disch:=first|decide|(simp only[zF,zG,hnt, h3, h7, h9, h11, h13];decide)) only [zA,zB,zC,zD,zE,zF,zG,zH,zI,zJ,zK,HV.cells,hnt, h3, h7, h9, h11, h13]; first|done|exact rfl) ?_
     | refine r_take (by simp (disch:=first|decide|(simp only[zF,zG,hnt, h3, h7, h9, h11, h13];decide)) only [zA,zB,zC,zD,zE,zF,zG,zH,zI,zJ,zK,HV.cells,hnt, h3, h7, h9, h11, h13]; first|done|exact rfl) ?_
     | refine r_move (by simp (disch:=first|decide|(simp only[zF,zG,hnt, h3, h7, h9, h11, h13];decide)) only [zA,zB,zC,zD,zE,zF,zG,zH,zI,zJ,zK,HV.cells,hnt, h3, h7, h9, h11, h13]; try exact rfl) ?_
     | refine r_fa (by simp (disch:=first|decide|(simp only[zF,zG,hnt, h3, h7, h9, h11, h13];decide)) only [zA,zB,zC,zD,zE,zF,zG,zH,zI,zJ,zK,HV.cells,hnt, h3, h7, h9, h11, h13]; try exact rfl) ?_
     | refine r_ld1 (by simp (disch:=first|decide|(simp only[zF,zG,hnt, h3, h7, h9, h11, h13];decide)) only [zA,zB,zC,zD,zE,zF,zG,zH,zI,zJ,zK,HV.cells,hnt, h3, h7, h9, h11, h13]; try exact rfl) (by first|assumption|(simp (disch:=omega) only [get_same,get_other,hnt, h3, h7, h9, h11, h13]; first|done|exact rfl)) (by first|assumption|rfl|(simp only [zI,zJ,HV.cells,hnt, h3, h7, h9, h11, h13]; exact rfl)) ?_
     | refine r_ldn (by simp (disch:=first|decide|(simp only[zF,zG,hnt, h3, h7, h9, h11, h13];decide)) only [zA,zB,zC,zD,zE,zF,zG,zH,zI,zJ,zK,HV.cells,hnt, h3, h7, h9, h11, h13]; try exact rfl) (by first|assumption|(simp (disch:=omega) only [get_same,get_other,hnt, h3, h7, h9, h11, h13]; first|done|exact rfl)) (by first|assumption|rfl|(simp only [zI,zJ,HV.cells,hnt, h3, h7, h9, h11, h13]; exact rfl)) ?_
     | refine r_add (by simp (disch:=first|decide|(simp only[zF,zG,hnt, h3, h7, h9, h11, h13];decide)) only [zA,zB,zC,zD,zE,zF,zG,zH,zI,zJ,zK,HV.cells,hnt, h3, h7, h9, h11, h13]; try exact rfl) (by simp (disch:=first|decide|(simp only[zF,zG,hnt, h3, h7, h9, h11, h13];decide)) only [zA,zB,zC,zD,zE,zF,zG,zH,zI,zJ,zK,HV.cells,hnt, h3, h7, h9, h11, h13]; try exact rfl) (by omega) (by omega) ?_
     | refine r_mul (by simp (disch:=first|decide|(simp only[zF,zG,hnt, h3, h7, h9, h11, h13];decide)) only [zA,zB,zC,zD,zE,zF,zG,zH,zI,zJ,zK,HV.cells,hnt, h3, h7, h9, h11, h13]; try exact rfl) (by simp (disch:=first|decide|(simp only[zF,zG,hnt, h3, h7, h9, h11, h13];decide)) only [zA,zB,zC,zD,zE,zF,zG,zH,zI,zJ,zK,HV.cells,hnt, h3, h7, h9, h11, h13]; try exact rfl) (by omega) (by omega) ?_
     | refine r_leq (by simp (disch:=first|decide|(simp only[zF,zG,hnt, h3, h7, h9, h11, h13];decide)) only [zA,zB,zC,zD,zE,zF,zG,zH,zI,zJ,zK,HV.cells,hnt, h3, h7, h9, h11, h13]; try exact rfl) (by simp (disch:=first|decide|(simp only[zF,zG,hnt, h3, h7, h9, h11, h13];decide)) only [zA,zB,zC,zD,zE,zF,zG,zH,zI,zJ,zK,HV.cells,hnt, h3, h7, h9, h11, h13]; try exact rfl) (fun hc => ?_) (fun hc => ?_) <;> (try (exfalso; omega))
     | refine r_not1 (by simp (disch:=first|decide|(simp only[zF,zG,hnt, h3, h7, h9, h11, h13];decide)) only [zA,zB,zC,zD,zE,zF,zG,zH,zI,zJ,zK,HV.cells,hnt, h3, h7, h9, h11, h13]; try exact rfl) ?_
     | refine r_pf (by simp (disch:=first|decide|(simp only[zF,zG,hnt, h3, h7, h9, h11, h13];decide)) only [zA,zB,zC,zD,zE,zF,zG,zH,zI,zJ,zK,HV.cells,hnt, h3, h7, h9, h11, h13]; first|done|exact rfl) (by simp (disch:=first|decide|(simp only[zF,zG,hnt, h3, h7, h9, h11, h13];decide)) only [zA,zB,zC,zD,zE,zF,zG,zH,zI,zJ,zK,HV.cells,hnt, h3, h7, h9, h11, h13]; try exact rfl) ?_
     | refine r_ixs (by simp (disch:=first|decide|(simp only[zF,zG,hnt, h3, h7, h9, h11, h13];decide)) only [zA,zB,zC,zD,zE,zF,zG,zH,zI,zJ,zK,HV.cells,hnt, h3, h7, h9, h11, h13]; try exact rfl) (by simp (disch:=first|decide|(simp only[zF,zG,hnt, h3, h7, h9, h11, h13];decide)) only [zA,zB,zC,zD,zE,zF,zG,zH,zI,zJ,zK,HV.cells,hnt, h3, h7, h9, h11, h13]; try exact rfl) (by omega) ?_
     | refine r_quop (by simp (disch:=first|decide|(simp only[zF,zG,hnt, h3, h7, h9, h11, h13];decide)) only [zA,zB,zC,zD,zE,zF,zG,zH,zI,zJ,zK,HV.cells,hnt, h3, h7, h9, h11, h13]; try exact rfl) (by simp (disch:=first|decide|(simp only[zF,zG,hnt, h3, h7, h9, h11, h13];decide)) only [zA,zB,zC,zD,zE,zF,zG,zH,zI,zJ,zK,HV.cells,hnt, h3, h7, h9, h11, h13]; try exact rfl) (by omega) (by omega) (by omega) ?_
     | refine r_calls (by simp (disch:=first|decide|(simp only[zF,zG,hnt, h3, h7, h9, h11, h13];decide)) only [zA,zB,zC,zD,zE,zF,zG,zH,zI,zJ,zK,HV.cells,hnt, h3, h7, h9, h11, h13]; try exact rfl) (by simp (disch:=first|decide|(simp only[zF,zG,hnt, h3, h7, h9, h11, h13];decide)) only [List.map_cons,List.map_nil,List.nil_append,List.cons_append,List.append_nil,zA,zB,zC,zD,zE,zF,zG,zH,zI,zJ,zK,HV.cells,hnt, h3, h7, h9, h11, h13]; try exact rfl) (cH _ _ _ (by repeat' first|assumption|refine Ext.put ?_ (by omega) (by omega)|exact Ext.up (by assumption) (by omega)|exact Ext.nx (by assumption) (by omega))) (fun n' hn' => ?_)
     | refine r_calls (by simp (disch:=first|decide|(simp only[zF,zG,hnt, h3, h7, h9, h11, h13];decide)) only [zA,zB,zC,zD,zE,zF,zG,zH,zI,zJ,zK,HV.cells,hnt, h3, h7, h9, h11, h13]; try exact rfl) (by simp (disch:=first|decide|(simp only[zF,zG,hnt, h3, h7, h9, h11, h13];decide)) only [List.map_cons,List.map_nil,List.nil_append,List.cons_append,List.append_nil,zA,zB,zC,zD,zE,zF,zG,zH,zI,zJ,zK,HV.cells,hnt, h3, h7, h9, h11, h13]; try exact rfl) (cO _ _ _ _ _ (by assumption)) (fun n' hn' => ?_)
     | refine w_draw (by omega) (by repeat' first|assumption|refine D.upd ?_ (by omega)|exact D.mono (by assumption) (by omega)) ?_
     | refine d_rest rfl ?_
     | refine d_one rfl ?_
     | refine d_next (by omega) ?_
     | fail
    refine loop10 (cp := cp) (ch := ch) (cq := cq) hcn hT hv hF htg hM m (i + 1) _ _ (by omega) (by omega) (by repeat' first|assumption|refine D.upd ?_ (by omega)|exact D.mono (by assumption) (by omega)) (hrow.ext (by repeat' first|assumption|refine Ext.put ?_ (by omega) (by omega)|exact Ext.up (by assumption) (by omega)|exact Ext.nx (by assumption) (by omega))) (Row.ext hrh0 (by repeat' first|assumption|refine Ext.put ?_ (by omega) (by omega)|exact Ext.up (by assumption) (by omega)|exact Ext.nx (by assumption) (by omega))) (Row.ext hrp0 (by repeat' first|assumption|refine Ext.put ?_ (by omega) (by omega)|exact Ext.up (by assumption) (by omega)|exact Ext.nx (by assumption) (by omega))) ?_ ?_ ?_ ?_ ?_ ?_ ?_ (fun a' n2 g0 g1 g2 => hq a' n2 (by omega) g1 g2)
    all_goals first|(simp only [zL,zM,zF,zG,hnt, hds, h3, h7, h9, h11, h13];done)|(simp (disch:=first|decide|(simp only[zF,zG,hnt, hds, h3, h7, h9, h11, h13];decide)) only [zA,zB,zC,zD,zE,zF,zG,zH,zI,zJ,zK,HV.cells,hnt, hds, h3, h7, h9, h11, h13];first|done|exact rfl)|assumption
theorem c_law10 {fl : Nat} {h : Tr HBlk} {nx : Nat} (hd : D h nx) {t : Tb} {w1 w2 : List Int} {p1 p2 : Option (Nat × Nat)} {m1 m2 c1 c2 : Nat} (hm1 : m1 = w1.length) (hm2 : m2 = w2.length) (hw1 : Words w1) (hw2 : Words w2) (hr1 : Row wenc 1 h nx p1 w1) (hr2 : Row wenc 1 h nx p2 w2) :
    C LW fl 10 [.agg t.cells, .slice p1 m1 c1, .slice p2 m2 c2] ⟨h, nx⟩ (Sc (· = .bool true) ⟨h, nx⟩) := by
  subst hm1
  subst hm2
  have tk : takeN 4 (t.cells.drop 0) = some t.cells := rfl
  have ec : t.cells[0 + 0]? = some (i64 t.c) := rfl
  have cI : ∀ fl h' n', C LW fl 25 [.agg t.cells] ⟨h', n'⟩ (Sc (· = .bool (decide (TubeOk t.c t.t t.a t.b))) ⟨h', n'⟩) := fun fl h' n' => c_isTube
  have cT : ∀ fl h' n', D h' n' → C LW fl 21 [.agg t.cells] ⟨h', n'⟩ (Sc (· = .agg t.cells) ⟨h', n'⟩) := fun fl h' n' e => c_Tube e
  refine c_in lw10 rfl rfl rfl ?_
  dsimp only [L10]
  by_cases hT : TubeOk t.c t.t t.a t.b
  case neg =>
    have cI1 : ∀ fl h' n', C LW fl 25 [.agg t.cells] ⟨h', n'⟩ (Sc (· = .bool false) ⟨h', n'⟩) := fun fl h' n' => by have := cI fl h' n'; rwa [decide_eq_false hT] at this
    repeat' first
     | refine r_nil ?_
     | refine th_n ?_
     | refine th_r ?_
     | refine w_seq ?_
     | refine w_reg ?_
     | refine w_ret ?_
     | refine w_t (by simp (disch:=first|decide|(simp only[zF,zG];decide)) only [zA,zB,zC,zD,zE,zF,zG,zH,zI,zJ,zK,HV.cells]; first|done|exact rfl) ?_
     | refine r_move (by simp (disch:=first|decide|(simp only[zF,zG];decide)) only [zA,zB,zC,zD,zE,zF,zG,zH,zI,zJ,zK,HV.cells]; try exact rfl) ?_
     | refine r_ldn (by simp (disch:=first|decide|(simp only[zF,zG];decide)) only [zA,zB,zC,zD,zE,zF,zG,zH,zI,zJ,zK,HV.cells]; try exact rfl) (by first|assumption|(simp (disch:=omega) only [get_same,get_other]; first|done|exact rfl)) (by first|assumption|rfl|(simp only [zI,zJ,HV.cells]; exact rfl)) ?_
     | refine r_box (by simp (disch:=first|decide|(simp only[zF,zG];decide)) only [zA,zB,zC,zD,zE,zF,zG,zH,zI,zJ,zK,HV.cells]; try exact rfl) ?_
     | refine r_not1 (by simp (disch:=first|decide|(simp only[zF,zG];decide)) only [zA,zB,zC,zD,zE,zF,zG,zH,zI,zJ,zK,HV.cells]; try exact rfl) ?_
     | refine r_calls (by simp (disch:=first|decide|(simp only[zF,zG];decide)) only [zA,zB,zC,zD,zE,zF,zG,zH,zI,zJ,zK,HV.cells]; try exact rfl) (by simp (disch:=first|decide|(simp only[zF,zG];decide)) only [List.map_cons,List.map_nil,List.nil_append,List.cons_append,List.append_nil,zA,zB,zC,zD,zE,zF,zG,zH,zI,zJ,zK,HV.cells]; try exact rfl) (cI1 _ _ _) (fun n' hn' => ?_)
     | refine r_calls (by simp (disch:=first|decide|(simp only[zF,zG];decide)) only [zA,zB,zC,zD,zE,zF,zG,zH,zI,zJ,zK,HV.cells]; try exact rfl) (by simp (disch:=first|decide|(simp only[zF,zG];decide)) only [List.map_cons,List.map_nil,List.nil_append,List.cons_append,List.append_nil,zA,zB,zC,zD,zE,zF,zG,zH,zI,zJ,zK,HV.cells]; try exact rfl) c_wakes (fun n' hn' => ?_)
     | fail
    refine fin_r (by simp only [zL,zM]) (by simp (disch:=first|decide|(simp only[zF,zG];decide)) only [zA,zB,zC,zD,zE,zF,zG,zH,zI,zJ,zK,HV.cells]; try exact rfl) (sc_flat rfl (by dsimp only; omega) ?_); rfl
  have cI1 : ∀ fl h' n', C LW fl 25 [.agg t.cells] ⟨h', n'⟩ (Sc (· = .bool true) ⟨h', n'⟩) := fun fl h' n' => by have := cI fl h' n'; rwa [decide_eq_true hT] at this
  have hTo := hT
  unfold TubeOk at hTo
  obtain ⟨n, hcn⟩ : ∃ n : Nat, t.c = n := ⟨t.c.toNat, by omega⟩
  repeat' first
   | refine r_nil ?_
   | refine th_n ?_
   | refine w_seq ?_
   | refine w_reg ?_
   | refine w_skip ?_
   | refine w_f (by simp (disch:=first|decide|(simp only[zF,zG];decide)) only [zA,zB,zC,zD,zE,zF,zG,zH,zI,zJ,zK,HV.cells]; first|done|exact rfl) ?_
   | refine r_move (by simp (disch:=first|decide|(simp only[zF,zG];decide)) only [zA,zB,zC,zD,zE,zF,zG,zH,zI,zJ,zK,HV.cells]; try exact rfl) ?_
   | refine r_ldn (by simp (disch:=first|decide|(simp only[zF,zG];decide)) only [zA,zB,zC,zD,zE,zF,zG,zH,zI,zJ,zK,HV.cells]; try exact rfl) (by first|assumption|(simp (disch:=omega) only [get_same,get_other]; first|done|exact rfl)) (by first|assumption|rfl|(simp only [zI,zJ,HV.cells]; exact rfl)) ?_
   | refine r_box (by simp (disch:=first|decide|(simp only[zF,zG];decide)) only [zA,zB,zC,zD,zE,zF,zG,zH,zI,zJ,zK,HV.cells]; try exact rfl) ?_
   | refine r_not1 (by simp (disch:=first|decide|(simp only[zF,zG];decide)) only [zA,zB,zC,zD,zE,zF,zG,zH,zI,zJ,zK,HV.cells]; try exact rfl) ?_
   | refine r_calls (by simp (disch:=first|decide|(simp only[zF,zG];decide)) only [zA,zB,zC,zD,zE,zF,zG,zH,zI,zJ,zK,HV.cells]; try exact rfl) (by simp (disch:=first|decide|(simp only[zF,zG];decide)) only [List.map_cons,List.map_nil,List.nil_append,List.cons_append,List.append_nil,zA,zB,zC,zD,zE,zF,zG,zH,zI,zJ,zK,HV.cells]; try exact rfl) (cI1 _ _ _) (fun n' hn' => ?_)
   | fail
  refine r_callc (by simp (disch:=first|decide|(simp only[zF,zG];decide)) only [zA,zB,zC,zD,zE,zF,zG,zH,zI,zJ,zK,HV.cells]; try exact rfl) (by simp (disch:=first|decide|(simp only[zF,zG];decide)) only [List.map_cons,List.map_nil,List.nil_append,List.cons_append,List.append_nil,zA,zB,zC,zD,zE,zF,zG,zH,zI,zJ,zK,HV.cells]; try exact rfl) (c_Truly (n := n) (cp := c1) (by repeat' first|assumption|refine D.upd ?_ (by omega)|exact D.mono (by assumption) (by omega)) hcn hT rfl hw1 (hr1.ext (by repeat' first|assumption|refine Ext.put ?_ (by omega) (by omega)|exact Ext.up (by assumption) (by omega)|exact Ext.nx (by assumption) (by omega)))) ?_
  rintro u1 σ1 ⟨v, hv, p3, c3, h2, n2, rfl, rfl, e2, hr3⟩
  dsimp only at e2
  have hle2 := e2.le
  have hd2 := e2.d
  have hg2 : h2.get nx = some (.cells t.cells .exact) := by rw [e2.same _ (by omega)]; exact (by first|assumption|(simp (disch:=omega) only [get_same,get_other]; first|done|exact rfl))
  have x2 : Ext h nx h2 n2 := Ext.trans (by repeat' first|assumption|refine Ext.put ?_ (by omega) (by omega)|exact Ext.up (by assumption) (by omega)|exact Ext.nx (by assumption) (by omega)) e2
  repeat' first
   | refine r_nil ?_
   | refine th_n ?_
   | refine w_seq ?_
   | refine w_reg ?_
   | refine r_move (by simp (disch:=first|decide|(simp only[zF,zG];decide)) only [zA,zB,zC,zD,zE,zF,zG,zH,zI,zJ,zK,HV.cells]; try exact rfl) ?_
   | refine r_ldn (by simp (disch:=first|decide|(simp only[zF,zG];decide)) only [zA,zB,zC,zD,zE,zF,zG,zH,zI,zJ,zK,HV.cells]; try exact rfl) (by first|assumption|(simp (disch:=omega) only [get_same,get_other]; first|done|exact rfl)) (by first|assumption|rfl|(simp only [zI,zJ,HV.cells]; exact rfl)) ?_
   | fail
  refine r_callc (by simp (disch:=first|decide|(simp only[zF,zG];decide)) only [zA,zB,zC,zD,zE,zF,zG,zH,zI,zJ,zK,HV.cells]; try exact rfl) (by simp (disch:=first|decide|(simp only[zF,zG];decide)) only [List.map_cons,List.map_nil,List.nil_append,List.cons_append,List.append_nil,zA,zB,zC,zD,zE,zF,zG,zH,zI,zJ,zK,HV.cells]; try exact rfl) (c_Seen (n := n) (cp := c3) (cw := c2) hd2 hcn hT hv hv.1 rfl hw2 hr3 (hr2.ext x2)) ?_
  rintro u2 σ2 ⟨l, hs, hl12, _, p4, c4, h5, n5, rfl, rfl, e5, hr5⟩
  dsimp only at e5
  have hle5 := e5.le
  have hd5 := e5.d
  have hg5 : h5.get nx = some (.cells t.cells .exact) := by rw [e5.same _ (by omega)]; exact hg2
  have hr35 := hr3.ext e5
  have hl : ∀ r ∈ l, RdOk2 t.c r := fun r hr => (hs r hr).1
  have hE : errOf t.c t.t t.a t.b l = 0 := by unfold errOf; rw [if_pos hT, if_pos hl12, if_pos hl]
  obtain ⟨M, hM, hF⟩ := truth_read hcn hT hv hs
  repeat' first
   | refine r_nil ?_
   | refine th_n ?_
   | refine w_seq ?_
   | refine w_reg ?_
   | refine r_move (by simp (disch:=first|decide|(simp only[zF,zG];decide)) only [zA,zB,zC,zD,zE,zF,zG,zH,zI,zJ,zK,HV.cells]; try exact rfl) ?_
   | refine r_ldn (by simp (disch:=first|decide|(simp only[zF,zG];decide)) only [zA,zB,zC,zD,zE,zF,zG,zH,zI,zJ,zK,HV.cells]; try exact rfl) (by first|assumption|(simp (disch:=omega) only [get_same,get_other]; first|done|exact rfl)) (by first|assumption|rfl|(simp only [zI,zJ,HV.cells]; exact rfl)) ?_
   | refine r_calls (by simp (disch:=first|decide|(simp only[zF,zG];decide)) only [zA,zB,zC,zD,zE,zF,zG,zH,zI,zJ,zK,HV.cells]; try exact rfl) (by simp (disch:=first|decide|(simp only[zF,zG];decide)) only [List.map_cons,List.map_nil,List.nil_append,List.cons_append,List.append_nil,zA,zB,zC,zD,zE,zF,zG,zH,zI,zJ,zK,HV.cells]; try exact rfl) (cT _ _ _ (by repeat' first|assumption|refine D.upd ?_ (by omega)|exact D.mono (by assumption) (by omega))) (fun n' hn' => ?_)
   | fail
  refine r_callc (by simp (disch:=first|decide|(simp only[zF,zG];decide)) only [zA,zB,zC,zD,zE,zF,zG,zH,zI,zJ,zK,HV.cells]; try exact rfl) (by simp (disch:=first|decide|(simp only[zF,zG];decide)) only [List.map_cons,List.map_nil,List.nil_append,List.cons_append,List.append_nil,zA,zB,zC,zD,zE,zF,zG,zH,zI,zJ,zK,HV.cells]; try exact rfl) (c_Readings (l := l) (cp := c4) (by repeat' first|assumption|refine D.upd ?_ (by omega)|exact D.mono (by assumption) (by omega)) rfl (by omega) (hr5.ext (by repeat' first|assumption|refine Ext.put ?_ (by omega) (by omega)|exact Ext.up (by assumption) (by omega)|exact Ext.nx (by assumption) (by omega)))) ?_
  rintro u3 σ3 ⟨p7, c7, h7, n7, rfl, rfl, e7, hr7⟩
  dsimp only at e7
  have hle7 := e7.le
  have hd7 := e7.d
  have x7 : Ext h5 n5 h7 n7 := Ext.trans (by repeat' first|assumption|refine Ext.put ?_ (by omega) (by omega)|exact Ext.up (by assumption) (by omega)|exact Ext.nx (by assumption) (by omega)) e7
  repeat' first
   | fail
  refine r_callc (by simp (disch:=first|decide|(simp only[zF,zG];decide)) only [zA,zB,zC,zD,zE,zF,zG,zH,zI,zJ,zK,HV.cells]; try exact rfl) (by simp (disch:=first|decide|(simp only[zF,zG];decide)) only [List.map_cons,List.map_nil,List.nil_append,List.cons_append,List.append_nil,zA,zB,zC,zD,zE,zF,zG,zH,zI,zJ,zK,HV.cells]; try exact rfl) (c_Heights (n := n) (l := l) (cp := c7) hd7 (fun _ => hcn) rfl (by omega) hr7) ?_
  intro u4 σ4 hK1
  have key : ∃ p c h8 n8, u4 = .tuple [.slice p (n + 1) c, i64 0] ∧ σ4 = ⟨h8, n8⟩ ∧ Ext h7 n7 h8 n8 ∧ Row renc 2 h8 n8 p (BL M (n + 1)) := by
    rcases hK1 with ⟨M', _, hM', p, c, h8, n8, rfl, rfl, e8, hr8⟩ | ⟨_, hM', _⟩ | ⟨hM', _⟩
    · rw [hM] at hM'; cases hM'; exact ⟨p, c, h8, n8, rfl, rfl, e8, hr8⟩
    · rw [hM] at hM'; cases hM'
    · exact absurd hE hM'
  obtain ⟨p8, c8, h8, n8, rfl, rfl, e8, hr8⟩ := key
  have hle8 := e8.le
  have hd8 := e8.d
  have x8 : Ext h5 n5 h8 n8 := x7.trans e8
  have hg8 : h8.get nx = some (.cells t.cells .exact) := by rw [x8.same _ (by omega)]; exact hg5
  repeat' first
   | refine r_nil ?_
   | refine th_n ?_
   | refine w_seq ?_
   | refine w_reg ?_
   | refine r_move (by simp (disch:=first|decide|(simp only[zF,zG];decide)) only [zA,zB,zC,zD,zE,zF,zG,zH,zI,zJ,zK,HV.cells]; try exact rfl) ?_
   | refine r_ldn (by simp (disch:=first|decide|(simp only[zF,zG];decide)) only [zA,zB,zC,zD,zE,zF,zG,zH,zI,zJ,zK,HV.cells]; try exact rfl) (by first|assumption|(simp (disch:=omega) only [get_same,get_other]; first|done|exact rfl)) (by first|assumption|rfl|(simp only [zI,zJ,HV.cells]; exact rfl)) ?_
   | refine r_ext (by simp (disch:=first|decide|(simp only[zF,zG];decide)) only [zA,zB,zC,zD,zE,zF,zG,zH,zI,zJ,zK,HV.cells]; try exact rfl) (by first|assumption|rfl|(simp only [zI,zJ,HV.cells]; exact rfl)) ?_
   | refine r_calls (by simp (disch:=first|decide|(simp only[zF,zG];decide)) only [zA,zB,zC,zD,zE,zF,zG,zH,zI,zJ,zK,HV.cells]; try exact rfl) (by simp (disch:=first|decide|(simp only[zF,zG];decide)) only [List.map_cons,List.map_nil,List.nil_append,List.cons_append,List.append_nil,zA,zB,zC,zD,zE,zF,zG,zH,zI,zJ,zK,HV.cells]; try exact rfl) (cT _ _ _ (by repeat' first|assumption|refine D.upd ?_ (by omega)|exact D.mono (by assumption) (by omega))) (fun n' hn' => ?_)
   | fail
  refine r_callc (by simp (disch:=first|decide|(simp only[zF,zG];decide)) only [zA,zB,zC,zD,zE,zF,zG,zH,zI,zJ,zK,HV.cells]; try exact rfl) (by simp (disch:=first|decide|(simp only[zF,zG];decide)) only [List.map_cons,List.map_nil,List.nil_append,List.cons_append,List.append_nil,zA,zB,zC,zD,zE,zF,zG,zH,zI,zJ,zK,HV.cells]; try exact rfl) (c_Readings (l := l) (cp := c4) (by repeat' first|assumption|refine D.upd ?_ (by omega)|exact D.mono (by assumption) (by omega)) rfl (by omega) (hr5.ext (by repeat' first|assumption|refine Ext.put ?_ (by omega) (by omega)|exact Ext.up (by assumption) (by omega)|exact Ext.nx (by assumption) (by omega)))) ?_
  rintro u5 σ5 ⟨p9, c9, h9, n9, rfl, rfl, e9, hr9⟩
  dsimp only at e9
  have hle9 := e9.le
  have hd9 := e9.d
  have y9 : Ext h8 n8 h9 n9 := Ext.trans (by repeat' first|assumption|refine Ext.put ?_ (by omega) (by omega)|exact Ext.up (by assumption) (by omega)|exact Ext.nx (by assumption) (by omega)) e9
  repeat' first
   | fail
  refine r_callc (by simp (disch:=first|decide|(simp only[zF,zG];decide)) only [zA,zB,zC,zD,zE,zF,zG,zH,zI,zJ,zK,HV.cells]; try exact rfl) (by simp (disch:=first|decide|(simp only[zF,zG];decide)) only [List.map_cons,List.map_nil,List.nil_append,List.cons_append,List.append_nil,zA,zB,zC,zD,zE,zF,zG,zH,zI,zJ,zK,HV.cells]; try exact rfl) (c_Places (n := n) (l := l) (cp := c9) hd9 (fun _ => hcn) rfl (by omega) hr9) ?_
  intro u6 σ6 hK2
  have key2 : ∃ p c h10 n10, u6 = .tuple [.slice p (n + 1) c, i64 0] ∧ σ6 = ⟨h10, n10⟩ ∧ Ext h9 n9 h10 n10 ∧ Row renc 2 h10 n10 p (PB t M (n + 1) (n + 1)) := by
    rcases hK2 with ⟨M', _, hM', p, c, h8, n8, rfl, rfl, e8, hr8⟩ | ⟨_, hM', _⟩ | ⟨hM', _⟩
    · rw [hM] at hM'; cases hM'; exact ⟨p, c, h8, n8, rfl, rfl, e8, hr8⟩
    · rw [hM] at hM'; cases hM'
    · exact absurd hE hM'
  obtain ⟨p10, c10, h10, n10, rfl, rfl, e10, hr10⟩ := key2
  have hle10 := e10.le
  have hd10 := e10.d
  have y10 : Ext h8 n8 h10 n10 := y9.trans e10
  have x10 : Ext h5 n5 h10 n10 := x8.trans y10
  have hg10 : h10.get nx = some (.cells t.cells .exact) := by rw [x10.same _ (by omega)]; exact hg5
  have hr8x := hr8.ext y10
  repeat' first
   | refine r_nil ?_
   | refine th_n ?_
   | refine w_seq ?_
   | refine w_reg ?_
   | refine r_take (by simp (disch:=first|decide|(simp only[zF,zG,hcn];decide)) only [zA,zB,zC,zD,zE,zF,zG,zH,zI,zJ,zK,HV.cells,hcn]; first|done|exact rfl) ?_
   | refine r_move (by simp (disch:=first|decide|(simp only[zF,zG,hcn];decide)) only [zA,zB,zC,zD,zE,zF,zG,zH,zI,zJ,zK,HV.cells,hcn]; try exact rfl) ?_
   | refine r_fa (by simp (disch:=first|decide|(simp only[zF,zG,hcn];decide)) only [zA,zB,zC,zD,zE,zF,zG,zH,zI,zJ,zK,HV.cells,hcn]; try exact rfl) ?_
   | refine r_ld1 (by simp (disch:=first|decide|(simp only[zF,zG,hcn];decide)) only [zA,zB,zC,zD,zE,zF,zG,zH,zI,zJ,zK,HV.cells,hcn]; try exact rfl) (by first|assumption|(simp (disch:=omega) only [get_same,get_other,hcn]; first|done|exact rfl)) (by first|assumption|rfl|(simp only [zI,zJ,HV.cells,hcn]; exact rfl)) ?_
   | refine r_ldn (by simp (disch:=first|decide|(simp only[zF,zG,hcn];decide)) only [zA,zB,zC,zD,zE,zF,zG,zH,zI,zJ,zK,HV.cells,hcn]; try exact rfl) (by first|assumption|(simp (disch:=omega) only [get_same,get_other,hcn]; first|done|exact rfl)) (by first|assumption|rfl|(simp only [zI,zJ,HV.cells,hcn]; exact rfl)) ?_
   | refine r_add (by simp (disch:=first|decide|(simp only[zF,zG,hcn];decide)) only [zA,zB,zC,zD,zE,zF,zG,zH,zI,zJ,zK,HV.cells,hcn]; try exact rfl) (by simp (disch:=first|decide|(simp only[zF,zG,hcn];decide)) only [zA,zB,zC,zD,zE,zF,zG,zH,zI,zJ,zK,HV.cells,hcn]; try exact rfl) (by omega) (by omega) ?_
   | refine r_ne (by simp (disch:=first|decide|(simp only[zF,zG,hcn];decide)) only [zA,zB,zC,zD,zE,zF,zG,zH,zI,zJ,zK,HV.cells,hcn]; try exact rfl) (by simp (disch:=first|decide|(simp only[zF,zG,hcn];decide)) only [zA,zB,zC,zD,zE,zF,zG,zH,zI,zJ,zK,HV.cells,hcn]; try exact rfl) (fun hc => ?_) (fun hc => ?_) <;> (try (exfalso; omega))
   | refine r_pf (by simp (disch:=first|decide|(simp only[zF,zG,hcn];decide)) only [zA,zB,zC,zD,zE,zF,zG,zH,zI,zJ,zK,HV.cells,hcn]; first|done|exact rfl) (by simp (disch:=first|decide|(simp only[zF,zG,hcn];decide)) only [zA,zB,zC,zD,zE,zF,zG,zH,zI,zJ,zK,HV.cells,hcn]; try exact rfl) ?_
   | refine r_len (by simp (disch:=first|decide|(simp only[zF,zG,hcn];decide)) only [zA,zB,zC,zD,zE,zF,zG,zH,zI,zJ,zK,HV.cells,hcn]; try exact rfl) ?_
   | refine r_ext (by simp (disch:=first|decide|(simp only[zF,zG,hcn];decide)) only [zA,zB,zC,zD,zE,zF,zG,zH,zI,zJ,zK,HV.cells,hcn]; try exact rfl) (by first|assumption|rfl|(simp only [zI,zJ,HV.cells,hcn]; exact rfl)) ?_
   | refine r_calls (by simp (disch:=first|decide|(simp only[zF,zG,hcn];decide)) only [zA,zB,zC,zD,zE,zF,zG,zH,zI,zJ,zK,HV.cells,hcn]; try exact rfl) (by simp (disch:=first|decide|(simp only[zF,zG,hcn];decide)) only [List.map_cons,List.map_nil,List.nil_append,List.cons_append,List.append_nil,zA,zB,zC,zD,zE,zF,zG,zH,zI,zJ,zK,HV.cells,hcn]; try exact rfl) (cT _ _ _ (by repeat' first|assumption|refine D.upd ?_ (by omega)|exact D.mono (by assumption) (by omega))) (fun n' hn' => ?_)
   | fail
  refine r_callc (by simp (disch:=first|decide|(simp only[zF,zG];decide)) only [zA,zB,zC,zD,zE,zF,zG,zH,zI,zJ,zK,HV.cells]; try exact rfl) (by simp (disch:=first|decide|(simp only[zF,zG];decide)) only [List.map_cons,List.map_nil,List.nil_append,List.cons_append,List.append_nil,zA,zB,zC,zD,zE,zF,zG,zH,zI,zJ,zK,HV.cells]; try exact rfl) (c_Readings (l := l) (cp := c4) (by repeat' first|assumption|refine D.upd ?_ (by omega)|exact D.mono (by assumption) (by omega)) rfl (by omega) (hr5.ext (by repeat' first|assumption|refine Ext.put ?_ (by omega) (by omega)|exact Ext.up (by assumption) (by omega)|exact Ext.nx (by assumption) (by omega)))) ?_
  rintro u7 σ7 ⟨p11, c11, h11, n11, rfl, rfl, e11, hr11⟩
  dsimp only at e11
  have hle11 := e11.le
  have hd11 := e11.d
  have y11 : Ext h10 n10 h11 n11 := Ext.trans (by repeat' first|assumption|refine Ext.put ?_ (by omega) (by omega)|exact Ext.up (by assumption) (by omega)|exact Ext.nx (by assumption) (by omega)) e11
  have x11 : Ext h5 n5 h11 n11 := x10.trans y11
  repeat' first
   | refine r_take (by simp (disch:=first|decide|(simp only[zF,zG,hcn];decide)) only [zA,zB,zC,zD,zE,zF,zG,zH,zI,zJ,zK,HV.cells,hcn]; first|done|exact rfl) ?_
   | refine r_move (by simp (disch:=first|decide|(simp only[zF,zG,hcn];decide)) only [zA,zB,zC,zD,zE,zF,zG,zH,zI,zJ,zK,HV.cells,hcn]; try exact rfl) ?_
   | fail
  have hvn := hv.1
  refine r_callc (by simp (disch:=first|decide|(simp only[zF,zG];decide)) only [zA,zB,zC,zD,zE,zF,zG,zH,zI,zJ,zK,HV.cells]; try exact rfl) (by simp (disch:=first|decide|(simp only[zF,zG];decide)) only [List.map_cons,List.map_nil,List.nil_append,List.cons_append,List.append_nil,zA,zB,zC,zD,zE,zF,zG,zH,zI,zJ,zK,HV.cells]; try exact rfl) (c_list (l := v) (cp := c3) hd11 rfl (by omega) (hr35.ext x11)) ?_
  rintro u8 σ8 ⟨p12, c12, h12, n12, rfl, rfl, e12, hr12⟩
  dsimp only at e12
  have hle12 := e12.le
  have hd12 := e12.d
  have y12 : Ext h10 n10 h12 n12 := y11.trans e12
  have x12 : Ext h5 n5 h12 n12 := x10.trans y12
  have hg12 : h12.get nx = some (.cells t.cells .exact) := by rw [x12.same _ (by omega)]; exact hg5
  have hTV : TruthV t.c t.t t.a t.b l v := ⟨by rw [hv.1, hcn], hv.2.1, fun r hr => by rw [hv.1]; exact (hs r hr).2, by rw [hv.1]; exact hv.2.2⟩
  have cP : ∀ fl, C LW fl 22 [.agg t.cells, .slice p11 l.length c11, .slice p12 v.length c12] ⟨h12, n12⟩ (Sc (· = .bool true) ⟨h12, n12⟩) := fun fl => by
    have := c_Prove (fl := fl) (t := t) (l := l) (v := v) (lc := c11) (cp := c12) hd12 rfl rfl (by omega) (by omega) hr12 (hr11.ext e12)
    rwa [decide_eq_true ⟨hE, hTV⟩] at this
  repeat' first
   | refine r_nil ?_
   | refine th_n ?_
   | refine w_seq ?_
   | refine w_reg ?_
   | refine w_skip ?_
   | refine w_block ?_
   | refine w_f (by simp (disch:=first|decide|(simp only[zF,zG,hcn];decide)) only [zA,zB,zC,zD,zE,zF,zG,zH,zI,zJ,zK,HV.cells,hcn]; first|done|exact rfl) ?_
   | refine r_take (by simp (disch:=first|decide|(simp only[zF,zG,hcn];decide)) only [zA,zB,zC,zD,zE,zF,zG,zH,zI,zJ,zK,HV.cells,hcn]; first|done|exact rfl) ?_
   | refine r_move (by simp (disch:=first|decide|(simp only[zF,zG,hcn];decide)) only [zA,zB,zC,zD,zE,zF,zG,zH,zI,zJ,zK,HV.cells,hcn]; try exact rfl) ?_
   | refine r_not1 (by simp (disch:=first|decide|(simp only[zF,zG,hcn];decide)) only [zA,zB,zC,zD,zE,zF,zG,zH,zI,zJ,zK,HV.cells,hcn]; try exact rfl) ?_
   | refine r_pf (by simp (disch:=first|decide|(simp only[zF,zG,hcn];decide)) only [zA,zB,zC,zD,zE,zF,zG,zH,zI,zJ,zK,HV.cells,hcn]; first|done|exact rfl) (by simp (disch:=first|decide|(simp only[zF,zG,hcn];decide)) only [zA,zB,zC,zD,zE,zF,zG,zH,zI,zJ,zK,HV.cells,hcn]; try exact rfl) ?_
   | refine r_calls (by simp (disch:=first|decide|(simp only[zF,zG,hcn];decide)) only [zA,zB,zC,zD,zE,zF,zG,zH,zI,zJ,zK,HV.cells,hcn]; try exact rfl) (by simp (disch:=first|decide|(simp only[zF,zG,hcn];decide)) only [List.map_cons,List.map_nil,List.nil_append,List.cons_append,List.append_nil,zA,zB,zC,zD,zE,zF,zG,zH,zI,zJ,zK,HV.cells,hcn]; try exact rfl) (cP _) (fun n' hn' => ?_)
   | fail
  have z : Ext h12 n12 h12 n' := Ext.nx hd12 hn'
  refine loop10 (tb := nx) (p := p3) (ph := p8) (pp := p10) (v := v) (cp := c3) (ch := c8) (cq := c10) (t := t) (M := M) (n := n) hcn hT hv hF hg12 (fun i hi => read_bnd hcn hT hl hM hi) (n + 1) 0 _ _ (by omega) (by omega) (by repeat' first|assumption|refine D.upd ?_ (by omega)|exact D.mono (by assumption) (by omega)) ((hr35.ext x12).ext z) ((hr8x.ext y12).ext z) ((hr10.ext y12).ext z) ?_ ?_ ?_ ?_ ?_ ?_ ?_ (fun a' n2 g0 g1 g2 => ?_)
  all_goals try first|(simp only [zL,zM,zF,zG,hvn];done)|(simp (disch:=first|decide|(simp only[zF,zG,hvn];decide)) only [zA,zB,zC,zD,zE,zF,zG,zH,zI,zJ,zK,HV.cells,hvn];first|done|exact rfl)|assumption
  repeat' first
   | refine r_nil ?_
   | refine th_n ?_
   | refine w_seq ?_
   | refine w_reg ?_
   | refine w_ret ?_
   | refine r_move (by simp (disch:=first|decide|(simp only[zF,zG,g1];decide)) only [zA,zB,zC,zD,zE,zF,zG,zH,zI,zJ,zK,HV.cells,g1]; try exact rfl) ?_
   | refine r_calls (by simp (disch:=first|decide|(simp only[zF,zG,g1];decide)) only [zA,zB,zC,zD,zE,zF,zG,zH,zI,zJ,zK,HV.cells,g1]; try exact rfl) (by simp (disch:=first|decide|(simp only[zF,zG,g1];decide)) only [List.map_cons,List.map_nil,List.nil_append,List.cons_append,List.append_nil,zA,zB,zC,zD,zE,zF,zG,zH,zI,zJ,zK,HV.cells,g1]; try exact rfl) c_wakes (fun n' hn' => ?_)
   | fail
  refine fin_r (by simp only [zL, g2]) (by simp (disch:=first|decide|(simp only[zF,zG,g1];decide)) only [zA,zB,zC,zD,zE,zF,zG,zH,zI,zJ,zK,HV.cells,g1]; try exact rfl) (sc_flat rfl (by dsimp only; omega) rfl)
end Go.Hx

