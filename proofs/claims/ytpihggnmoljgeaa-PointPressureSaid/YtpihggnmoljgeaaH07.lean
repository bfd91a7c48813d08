/- Layer 3: between which heights steam is, and what is right on a scale that was set there. -/
import Derived.Test.YtpihggnmoljgeaaH06
import Derived.Test.YtpihggnmoljgeaaH05
import Derived.Test.YtpihggnmoljgeaaH00
set_option linter.all false
/- Layer 3: between which heights steam is, and what is right on a scale that was set there. -/
namespace Go.Hx
set_option linter.unusedSimpArgs false
set_option linter.unusedVariables false
set_option maxRecDepth 20000
set_option maxHeartbeats 4000000
attribute [local irreducible] W R C thenH inBlockH
--dropu
def PrOk (l : List (Int × Int)) (q : Int × Int) : Prop := pP l 0 ≤ q.1 ∧ q.1 ≤ q.2 ∧ q.2 ≤ pP l (l.length - 1)
instance (l : List (Int × Int)) (q : Int × Int) : Decidable (PrOk l q) := by unfold PrOk; infer_instance
def boi (l : List (Int × Int)) (q : Int × Int) : (Int × Int) × Int := if chkT l = 0 then (if PrOk l q then ((stp l q.1, stp l q.2), 0) else ((0, 0), 2)) else ((0, 0), chkT l)
theorem chkR_s {s r : Int × Int} (h : chkR [s] r = 0) : SOk s.1 s.2 := (chk_zero h).2.1 s (List.mem_singleton.2 rfl)
theorem chkR_r {s r : Int × Int} (h : chkR [s] r = 0) : ROk r.1 r.2 := (chk_zero h).2.2.2
/- 30 -/
theorem c_Boils {fl : Nat} {h : Tr HBlk} {nx : Nat} (hd : D h nx) {p : Option (Nat × Nat)} {l : List (Int × Int)} {n cp : Nat} {q : Int × Int} (hn : n = l.length) (hcp : l.length ≤ cp) (hlen : l.length < 1000000000) (hrow : Row renc 2 h nx p l) :
    C LW fl 30 [.slice p n cp, .agg (renc q)] ⟨h, nx⟩ (Sc (· = .tuple [.agg (renc (boi l q).1), i64 (boi l q).2]) ⟨h, nx⟩) := by
  subst hn
  have cC : ∀ fl h' n', Ext h nx h' n' → C LW fl 63 [.slice p l.length cp] ⟨h', n'⟩ (Sc (· = i64 (chkT l)) ⟨h', n'⟩) := fun fl h' n' e => c_checkTable e.d rfl hlen (hrow.ext e)
  refine c_in lw30 rfl rfl rfl ?_
  dsimp only [L30]
  unfold boi
  by_cases hc : chkT l = 0
  · rw [if_pos hc]
    rw [hc] at cC
    have ht := tb_ok hc
    obtain ⟨h2, hs, hr⟩ := ht
    have hL : pP l 0 = l[0].1 := pP_at (by omega)
    have hR : pP l (l.length - 1) = l[l.length - 1].1 := pP_at (by omega)
    have cP : ∀ fl h' n', Ext h nx h' n' → C LW fl 65 [.slice p l.length cp] ⟨h', n'⟩ (Sc (· = .agg [i64 l[0].1, i64 l[l.length - 1].1]) ⟨h', n'⟩) := fun fl h' n' e => c_pressuresOf e.d rfl (by omega) hlen (hrow.ext e)
    have cS : ∀ fl h' n' x, Ext h nx h' n' → C LW fl 66 [.slice p l.length cp, i64 x] ⟨h', n'⟩ (Sc (· = i64 (stp l x)) ⟨h', n'⟩) := fun fl h' n' x e => c_steamAt e.d rfl hcp hlen (hrow.ext e) ⟨h2, hs, hr⟩
    have cL : ∀ fl h' n', C LW fl 64 [.agg (renc q), .agg [i64 l[0].1, i64 l[l.length - 1].1]] ⟨h', n'⟩ (Sc (· = .bool (decide (PrOk l q))) ⟨h', n'⟩) := fun fl h' n' => by
      have := c_liesIn (fl := fl) (h := h') (nx := n') (a := q.1) (b := q.2) (lo := l[0].1) (hi := l[l.length - 1].1)
      rwa [show decide (q.1 ≤ q.2 ∧ (l[0].1 ≤ q.1 ∧ q.1 ≤ l[l.length - 1].1) ∧ (l[0].1 ≤ q.2 ∧ q.2 ≤ l[l.length - 1].1)) = decide (PrOk l q) by congr 1; unfold PrOk; rw [hL, hR]; exact propext ⟨fun h => by omega, fun h => by omega⟩] at this
    by_cases hk : PrOk l q
    · rw [if_pos hk]
      rw [decide_eq_true hk] at cL
      repeat' first
       | refine r_nil ?_
       | refine th_n ?_
       | refine w_seq ?_
       | refine w_reg ?_
       | refine w_ret ?_
       | refine w_skip ?_
       | refine w_f (by simp (disch:=first|decide|(simp only[zF,zG];decide)) only [zA,zB,zC,zD,zE,zF,zG,zH,zI,zJ,zK,HV.cells,fl0,fl2,flS,flS1,flI1,flU1,flU2,flF]; first|done|exact rfl) ?_
       | refine r_move (by simp (disch:=first|decide|(simp only[zF,zG];decide)) only [zA,zB,zC,zD,zE,zF,zG,zH,zI,zJ,zK,HV.cells,fl0,fl2,flS,flS1,flI1,flU1,flU2,flF]; try exact rfl) ?_
       | refine r_fa (by simp (disch:=first|decide|(simp only[zF,zG];decide)) only [zA,zB,zC,zD,zE,zF,zG,zH,zI,zJ,zK,HV.cells,fl0,fl2,flS,flS1,flI1,flU1,flU2,flF]; try exact rfl) ?_
       | refine r_ld1 (by simp (disch:=first|decide|(simp only[zF,zG];decide)) only [zA,zB,zC,zD,zE,zF,zG,zH,zI,zJ,zK,HV.cells,fl0,fl2,flS,flS1,flI1,flU1,flU2,flF]; try exact rfl) (by first|assumption|(simp (disch:=omega) only [get_same,get_other]; first|done|exact rfl)) (by first|assumption|exact ow2 _ _ _ _|exact ow3 _ _ _ _ _ _|rfl|(simp only [zI,zJ,HV.cells]; exact rfl)) ?_
       | refine r_ldn (by simp (disch:=first|decide|(simp only[zF,zG];decide)) only [zA,zB,zC,zD,zE,zF,zG,zH,zI,zJ,zK,HV.cells,fl0,fl2,flS,flS1,flI1,flU1,flU2,flF]; try exact rfl) (by first|assumption|(simp (disch:=omega) only [get_same,get_other]; first|done|exact rfl)) (by first|assumption|exact ow2 _ _ _ _|exact ow3 _ _ _ _ _ _|rfl|(simp only [zI,zJ,HV.cells]; exact rfl)) ?_
       | refine r_box (by simp (disch:=first|decide|(simp only[zF,zG];decide)) only [zA,zB,zC,zD,zE,zF,zG,zH,zI,zJ,zK,HV.cells,fl0,fl2,flS,flS1,flI1,flU1,flU2,flF]; try exact rfl) ?_
       | refine r_alloc ?_
       | refine r_st (cs' := _) (by simp (disch:=first|decide|(simp only[zF,zG];decide)) only [zA,zB,zC,zD,zE,zF,zG,zH,zI,zJ,zK,HV.cells,fl0,fl2,flS,flS1,flI1,flU1,flU2,flF]; try exact rfl) (by simp (disch:=first|decide|(simp only[zF,zG];decide)) only [zA,zB,zC,zD,zE,zF,zG,zH,zI,zJ,zK,HV.cells,fl0,fl2,flS,flS1,flI1,flU1,flU2,flF]; try exact rfl) (by first|assumption|(simp (disch:=omega) only [get_same,get_other]; first|done|exact rfl)) (by exact True.intro) (by rfl) (by rfl) (by first|assumption|exact ow2 _ _ _ _|exact ow3 _ _ _ _ _ _|rfl|(simp only [zI,zJ,HV.cells]; exact rfl)) (by omega) ?_
       | refine r_ne (by simp (disch:=first|decide|(simp only[zF,zG];decide)) only [zA,zB,zC,zD,zE,zF,zG,zH,zI,zJ,zK,HV.cells,fl0,fl2,flS,flS1,flI1,flU1,flU2,flF]; try exact rfl) (by simp (disch:=first|decide|(simp only[zF,zG];decide)) only [zA,zB,zC,zD,zE,zF,zG,zH,zI,zJ,zK,HV.cells,fl0,fl2,flS,flS1,flI1,flU1,flU2,flF]; try exact rfl) (fun hc => ?_) (fun hc => ?_) <;> (try (exfalso; omega))
       | refine r_not1 (by simp (disch:=first|decide|(simp only[zF,zG];decide)) only [zA,zB,zC,zD,zE,zF,zG,zH,zI,zJ,zK,HV.cells,fl0,fl2,flS,flS1,flI1,flU1,flU2,flF]; try exact rfl) ?_
       | refine r_build (by simp (disch:=first|decide|(simp only[zF,zG];decide)) only [evParts,List.map_cons,List.map_nil,List.nil_append,List.cons_append,List.append_nil,zA,zB,zC,zD,zE,zF,zG,zH,zI,zJ,zK,HV.cells,fl0,fl2,flS,flS1,flI1,flU1,flU2,flF]; try exact rfl) ?_
       | refine r_calls (by simp (disch:=first|decide|(simp only[zF,zG];decide)) only [zA,zB,zC,zD,zE,zF,zG,zH,zI,zJ,zK,HV.cells,fl0,fl2,flS,flS1,flI1,flU1,flU2,flF]; try exact rfl) (by simp (disch:=first|decide|(simp only[zF,zG];decide)) only [List.map_cons,List.map_nil,List.nil_append,List.cons_append,List.append_nil,zA,zB,zC,zD,zE,zF,zG,zH,zI,zJ,zK,HV.cells,fl0,fl2,flS,flS1,flI1,flU1,flU2,flF]; first|done|exact rfl) (cC _ _ _ (by repeat' first|assumption|refine Ext.put ?_ (by omega) (by omega)|exact Ext.up (by assumption) (by omega)|exact Ext.nx (by assumption) (by omega))) (fun n' hn' => ?_)
       | refine r_calls (by simp (disch:=first|decide|(simp only[zF,zG];decide)) only [zA,zB,zC,zD,zE,zF,zG,zH,zI,zJ,zK,HV.cells,fl0,fl2,flS,flS1,flI1,flU1,flU2,flF]; try exact rfl) (by simp (disch:=first|decide|(simp only[zF,zG];decide)) only [List.map_cons,List.map_nil,List.nil_append,List.cons_append,List.append_nil,zA,zB,zC,zD,zE,zF,zG,zH,zI,zJ,zK,HV.cells,fl0,fl2,flS,flS1,flI1,flU1,flU2,flF]; first|done|exact rfl) (cP _ _ _ (by repeat' first|assumption|refine Ext.put ?_ (by omega) (by omega)|exact Ext.up (by assumption) (by omega)|exact Ext.nx (by assumption) (by omega))) (fun n' hn' => ?_)
       | refine r_calls (by simp (disch:=first|decide|(simp only[zF,zG];decide)) only [zA,zB,zC,zD,zE,zF,zG,zH,zI,zJ,zK,HV.cells,fl0,fl2,flS,flS1,flI1,flU1,flU2,flF]; try exact rfl) (by simp (disch:=first|decide|(simp only[zF,zG];decide)) only [List.map_cons,List.map_nil,List.nil_append,List.cons_append,List.append_nil,zA,zB,zC,zD,zE,zF,zG,zH,zI,zJ,zK,HV.cells,fl0,fl2,flS,flS1,flI1,flU1,flU2,flF]; first|done|exact rfl) (cL _ _ _) (fun n' hn' => ?_)
       | refine r_calls (by simp (disch:=first|decide|(simp only[zF,zG];decide)) only [zA,zB,zC,zD,zE,zF,zG,zH,zI,zJ,zK,HV.cells,fl0,fl2,flS,flS1,flI1,flU1,flU2,flF]; try exact rfl) (by simp (disch:=first|decide|(simp only[zF,zG];decide)) only [List.map_cons,List.map_nil,List.nil_append,List.cons_append,List.append_nil,zA,zB,zC,zD,zE,zF,zG,zH,zI,zJ,zK,HV.cells,fl0,fl2,flS,flS1,flI1,flU1,flU2,flF]; first|done|exact rfl) (cS _ _ _ _ (by repeat' first|assumption|refine Ext.put ?_ (by omega) (by omega)|exact Ext.up (by assumption) (by omega)|exact Ext.nx (by assumption) (by omega))) (fun n' hn' => ?_)
       | refine w_draw (by omega) (by (repeat' first|assumption|refine D.upd ?_ (by omega)|exact D.mono (by assumption) (by omega)) <;> fail) ?_
       | refine d_rest rfl ?_
       | refine d_one rfl ?_
       | refine d_next (by omega) ?_
       | fail
      exact fin_m (by simp only [zL,zM]) (res_c (by simp (disch:=first|decide|(simp only[zF,zG];decide)) only [zA,zB,zC,zD,zE,zF,zG,zH,zI,zJ,zK,HV.cells,fl0,fl2,flS,flS1,flI1,flU1,flU2,flF]; try exact rfl) (by first|assumption|(simp (disch:=omega) only [get_same,get_other]; first|done|exact rfl)) rfl (res_t (by simp (disch:=first|decide|(simp only[zF,zG];decide)) only [zA,zB,zC,zD,zE,zF,zG,zH,zI,zJ,zK,HV.cells,fl0,fl2,flS,flS1,flI1,flU1,flU2,flF]; try exact rfl) res_nil)) (sc_flat rfl (by dsimp only; omega) rfl)
    · rw [if_neg hk]
      rw [decide_eq_false hk] at cL
      repeat' first
       | refine r_nil ?_
       | refine th_n ?_
       | refine th_r ?_
       | refine w_seq ?_
       | refine w_reg ?_
       | refine w_ret ?_
       | refine w_skip ?_
       | refine w_t (by simp (disch:=first|decide|(simp only[zF,zG];decide)) only [zA,zB,zC,zD,zE,zF,zG,zH,zI,zJ,zK,HV.cells,fl0,fl2,flS,flS1,flI1,flU1,flU2,flF]; first|done|exact rfl) ?_
       | refine w_f (by simp (disch:=first|decide|(simp only[zF,zG];decide)) only [zA,zB,zC,zD,zE,zF,zG,zH,zI,zJ,zK,HV.cells,fl0,fl2,flS,flS1,flI1,flU1,flU2,flF]; first|done|exact rfl) ?_
       | refine r_move (by simp (disch:=first|decide|(simp only[zF,zG];decide)) only [zA,zB,zC,zD,zE,zF,zG,zH,zI,zJ,zK,HV.cells,fl0,fl2,flS,flS1,flI1,flU1,flU2,flF]; try exact rfl) ?_
       | refine r_ldn (by simp (disch:=first|decide|(simp only[zF,zG];decide)) only [zA,zB,zC,zD,zE,zF,zG,zH,zI,zJ,zK,HV.cells,fl0,fl2,flS,flS1,flI1,flU1,flU2,flF]; try exact rfl) (by first|assumption|(simp (disch:=omega) only [get_same,get_other]; first|done|exact rfl)) (by first|assumption|exact ow2 _ _ _ _|exact ow3 _ _ _ _ _ _|rfl|(simp only [zI,zJ,HV.cells]; exact rfl)) ?_
       | refine r_box (by simp (disch:=first|decide|(simp only[zF,zG];decide)) only [zA,zB,zC,zD,zE,zF,zG,zH,zI,zJ,zK,HV.cells,fl0,fl2,flS,flS1,flI1,flU1,flU2,flF]; try exact rfl) ?_
       | refine r_alloc ?_
       | refine r_st (cs' := _) (by simp (disch:=first|decide|(simp only[zF,zG];decide)) only [zA,zB,zC,zD,zE,zF,zG,zH,zI,zJ,zK,HV.cells,fl0,fl2,flS,flS1,flI1,flU1,flU2,flF]; try exact rfl) (by simp (disch:=first|decide|(simp only[zF,zG];decide)) only [zA,zB,zC,zD,zE,zF,zG,zH,zI,zJ,zK,HV.cells,fl0,fl2,flS,flS1,flI1,flU1,flU2,flF]; try exact rfl) (by first|assumption|(simp (disch:=omega) only [get_same,get_other]; first|done|exact rfl)) (by exact True.intro) (by rfl) (by rfl) (by first|assumption|exact ow2 _ _ _ _|exact ow3 _ _ _ _ _ _|rfl|(simp only [zI,zJ,HV.cells]; exact rfl)) (by omega) ?_
       | refine r_ne (by simp (disch:=first|decide|(simp only[zF,zG];decide)) only [zA,zB,zC,zD,zE,zF,zG,zH,zI,zJ,zK,HV.cells,fl0,fl2,flS,flS1,flI1,flU1,flU2,flF]; try exact rfl) (by simp (disch:=first|decide|(simp only[zF,zG];decide)) only [zA,zB,zC,zD,zE,zF,zG,zH,zI,zJ,zK,HV.cells,fl0,fl2,flS,flS1,flI1,flU1,flU2,flF]; try exact rfl) (fun hc => ?_) (fun hc => ?_) <;> (try (exfalso; omega))
       | refine r_not1 (by simp (disch:=first|decide|(simp only[zF,zG];decide)) only [zA,zB,zC,zD,zE,zF,zG,zH,zI,zJ,zK,HV.cells,fl0,fl2,flS,flS1,flI1,flU1,flU2,flF]; try exact rfl) ?_
       | refine r_build (by simp (disch:=first|decide|(simp only[zF,zG];decide)) only [evParts,List.map_cons,List.map_nil,List.nil_append,List.cons_append,List.append_nil,zA,zB,zC,zD,zE,zF,zG,zH,zI,zJ,zK,HV.cells,fl0,fl2,flS,flS1,flI1,flU1,flU2,flF]; try exact rfl) ?_
       | refine r_calls (by simp (disch:=first|decide|(simp only[zF,zG];decide)) only [zA,zB,zC,zD,zE,zF,zG,zH,zI,zJ,zK,HV.cells,fl0,fl2,flS,flS1,flI1,flU1,flU2,flF]; try exact rfl) (by simp (disch:=first|decide|(simp only[zF,zG];decide)) only [List.map_cons,List.map_nil,List.nil_append,List.cons_append,List.append_nil,zA,zB,zC,zD,zE,zF,zG,zH,zI,zJ,zK,HV.cells,fl0,fl2,flS,flS1,flI1,flU1,flU2,flF]; first|done|exact rfl) (cC _ _ _ (by repeat' first|assumption|refine Ext.put ?_ (by omega) (by omega)|exact Ext.up (by assumption) (by omega)|exact Ext.nx (by assumption) (by omega))) (fun n' hn' => ?_)
       | refine r_calls (by simp (disch:=first|decide|(simp only[zF,zG];decide)) only [zA,zB,zC,zD,zE,zF,zG,zH,zI,zJ,zK,HV.cells,fl0,fl2,flS,flS1,flI1,flU1,flU2,flF]; try exact rfl) (by simp (disch:=first|decide|(simp only[zF,zG];decide)) only [List.map_cons,List.map_nil,List.nil_append,List.cons_append,List.append_nil,zA,zB,zC,zD,zE,zF,zG,zH,zI,zJ,zK,HV.cells,fl0,fl2,flS,flS1,flI1,flU1,flU2,flF]; first|done|exact rfl) (cP _ _ _ (by repeat' first|assumption|refine Ext.put ?_ (by omega) (by omega)|exact Ext.up (by assumption) (by omega)|exact Ext.nx (by assumption) (by omega))) (fun n' hn' => ?_)
       | refine r_calls (by simp (disch:=first|decide|(simp only[zF,zG];decide)) only [zA,zB,zC,zD,zE,zF,zG,zH,zI,zJ,zK,HV.cells,fl0,fl2,flS,flS1,flI1,flU1,flU2,flF]; try exact rfl) (by simp (disch:=first|decide|(simp only[zF,zG];decide)) only [List.map_cons,List.map_nil,List.nil_append,List.cons_append,List.append_nil,zA,zB,zC,zD,zE,zF,zG,zH,zI,zJ,zK,HV.cells,fl0,fl2,flS,flS1,flI1,flU1,flU2,flF]; first|done|exact rfl) (cL _ _ _) (fun n' hn' => ?_)
       | refine w_draw (by omega) (by (repeat' first|assumption|refine D.upd ?_ (by omega)|exact D.mono (by assumption) (by omega)) <;> fail) ?_
       | refine d_rest rfl ?_
       | refine d_one rfl ?_
       | refine d_next (by omega) ?_
       | fail
      exact fin_m (by simp only [zL,zM]) (res_c (by simp (disch:=first|decide|(simp only[zF,zG];decide)) only [zA,zB,zC,zD,zE,zF,zG,zH,zI,zJ,zK,HV.cells,fl0,fl2,flS,flS1,flI1,flU1,flU2,flF]; try exact rfl) (by first|assumption|(simp (disch:=omega) only [get_same,get_other]; first|done|exact rfl)) rfl (res_t (by simp (disch:=first|decide|(simp only[zF,zG];decide)) only [zA,zB,zC,zD,zE,zF,zG,zH,zI,zJ,zK,HV.cells,fl0,fl2,flS,flS1,flI1,flU1,flU2,flF]; try exact rfl) res_nil)) (sc_flat rfl (by dsimp only; omega) rfl)
  · rw [if_neg hc]
    repeat' first
     | refine r_nil ?_
     | refine th_n ?_
     | refine th_r ?_
     | refine w_seq ?_
     | refine w_reg ?_
     | refine w_ret ?_
     | refine w_t (by simp (disch:=first|decide|(simp only[zF,zG];decide)) only [zA,zB,zC,zD,zE,zF,zG,zH,zI,zJ,zK,HV.cells,fl0,fl2,flS,flS1,flI1,flU1,flU2,flF]; first|done|exact rfl) ?_
     | refine r_move (by simp (disch:=first|decide|(simp only[zF,zG];decide)) only [zA,zB,zC,zD,zE,zF,zG,zH,zI,zJ,zK,HV.cells,fl0,fl2,flS,flS1,flI1,flU1,flU2,flF]; try exact rfl) ?_
     | refine r_box (by simp (disch:=first|decide|(simp only[zF,zG];decide)) only [zA,zB,zC,zD,zE,zF,zG,zH,zI,zJ,zK,HV.cells,fl0,fl2,flS,flS1,flI1,flU1,flU2,flF]; try exact rfl) ?_
     | refine r_alloc ?_
     | refine r_st (cs' := _) (by simp (disch:=first|decide|(simp only[zF,zG];decide)) only [zA,zB,zC,zD,zE,zF,zG,zH,zI,zJ,zK,HV.cells,fl0,fl2,flS,flS1,flI1,flU1,flU2,flF]; try exact rfl) (by simp (disch:=first|decide|(simp only[zF,zG];decide)) only [zA,zB,zC,zD,zE,zF,zG,zH,zI,zJ,zK,HV.cells,fl0,fl2,flS,flS1,flI1,flU1,flU2,flF]; try exact rfl) (by first|assumption|(simp (disch:=omega) only [get_same,get_other]; first|done|exact rfl)) (by exact True.intro) (by rfl) (by rfl) (by first|assumption|exact ow2 _ _ _ _|exact ow3 _ _ _ _ _ _|rfl|(simp only [zI,zJ,HV.cells]; exact rfl)) (by omega) ?_
     | refine r_ne (by simp (disch:=first|decide|(simp only[zF,zG];decide)) only [zA,zB,zC,zD,zE,zF,zG,zH,zI,zJ,zK,HV.cells,fl0,fl2,flS,flS1,flI1,flU1,flU2,flF]; try exact rfl) (by simp (disch:=first|decide|(simp only[zF,zG];decide)) only [zA,zB,zC,zD,zE,zF,zG,zH,zI,zJ,zK,HV.cells,fl0,fl2,flS,flS1,flI1,flU1,flU2,flF]; try exact rfl) (fun hc => ?_) (fun hc => ?_) <;> (try (exfalso; omega))
     | refine r_build (by simp (disch:=first|decide|(simp only[zF,zG];decide)) only [evParts,List.map_cons,List.map_nil,List.nil_append,List.cons_append,List.append_nil,zA,zB,zC,zD,zE,zF,zG,zH,zI,zJ,zK,HV.cells,fl0,fl2,flS,flS1,flI1,flU1,flU2,flF]; try exact rfl) ?_
     | refine r_calls (by simp (disch:=first|decide|(simp only[zF,zG];decide)) only [zA,zB,zC,zD,zE,zF,zG,zH,zI,zJ,zK,HV.cells,fl0,fl2,flS,flS1,flI1,flU1,flU2,flF]; try exact rfl) (by simp (disch:=first|decide|(simp only[zF,zG];decide)) only [List.map_cons,List.map_nil,List.nil_append,List.cons_append,List.append_nil,zA,zB,zC,zD,zE,zF,zG,zH,zI,zJ,zK,HV.cells,fl0,fl2,flS,flS1,flI1,flU1,flU2,flF]; first|done|exact rfl) (cC _ _ _ (by repeat' first|assumption|refine Ext.put ?_ (by omega) (by omega)|exact Ext.up (by assumption) (by omega)|exact Ext.nx (by assumption) (by omega))) (fun n' hn' => ?_)
     | fail
    exact fin_m (by simp only [zL,zM]) (res_c (by simp (disch:=first|decide|(simp only[zF,zG];decide)) only [zA,zB,zC,zD,zE,zF,zG,zH,zI,zJ,zK,HV.cells,fl0,fl2,flS,flS1,flI1,flU1,flU2,flF]; try exact rfl) (by first|assumption|(simp (disch:=omega) only [get_same,get_other]; first|done|exact rfl)) rfl (res_t (by simp (disch:=first|decide|(simp only[zF,zG];decide)) only [zA,zB,zC,zD,zE,zF,zG,zH,zI,zJ,zK,HV.cells,fl0,fl2,flS,flS1,flI1,flU1,flU2,flF]; try exact rfl) res_nil)) (sc_flat rfl (by dsimp only; omega) rfl)
theorem stp_bd {l : List (Int × Int)} (ht : TbOk l) {x : Int} (h0 : pP l 0 ≤ x) (hx : x ≤ pP l (l.length - 1)) : pH l 0 ≤ stp l x ∧ stp l x ≤ pH l (l.length - 1) := stg_bd (up_tb ht) ht.1 h0 hx
theorem pH_bd {l : List (Int × Int)} (ht : TbOk l) {j : Nat} (hj : j < l.length) : 1 ≤ pH l j ∧ pH l j ≤ 2000 := by
  have := ht.2.1 l[j] (List.getElem_mem hj)
  unfold StOk at this
  rw [pH_at hj]; omega
def cor (s : Int × Int) (l : List (Int × Int)) (q r : Int × Int) : (Int × Int) × Int :=
  if chkT l = 0 then (if chkR [s] r = 0 then (if (boi l q).2 = 0 then (tru s (boi l q).1 r, 0) else ((0, 0), (boi l q).2)) else ((0, 0), chkR [s] r)) else ((0, 0), chkT l)
theorem boi_bd {l : List (Int × Int)} {q : Int × Int} (ht : TbOk l) (h : (boi l q).2 = 0) : PrOk l q ∧ (boi l q).1 = (stp l q.1, stp l q.2) ∧ (1 ≤ (boi l q).1.1 ∧ (boi l q).1.1 ≤ 2000) ∧ (1 ≤ (boi l q).1.2 ∧ (boi l q).1.2 ≤ 2000) := by
  have hk : PrOk l q := by
    refine Decidable.byContradiction fun hk => ?_
    unfold boi at h
    by_cases hc : chkT l = 0
    · rw [if_pos hc, if_neg hk] at h; revert h; decide
    · rw [if_neg hc] at h; exact hc h
  have e : boi l q = ((stp l q.1, stp l q.2), 0) := by
    unfold boi at h ⊢
    by_cases hc : chkT l = 0
    · rw [if_pos hc, if_pos hk]
    · rw [if_neg hc] at h; exact absurd h hc
  obtain ⟨k1, k2, k3⟩ := hk
  have a := stp_bd ht k1 (by omega)
  have b := stp_bd ht (x := q.2) (by omega) k3
  have c := pH_bd ht (j := 0) (by have := ht.1; omega)
  have d := pH_bd ht (j := l.length - 1) (by have := ht.1; omega)
  rw [e]
  exact ⟨⟨k1, k2, k3⟩, rfl, ⟨by dsimp only; omega, by dsimp only; omega⟩, ⟨by dsimp only; omega, by dsimp only; omega⟩⟩
/- 32 -/
theorem c_Corrected {fl : Nat} {h : Tr HBlk} {nx : Nat} (hd : D h nx) {p : Option (Nat × Nat)} {l : List (Int × Int)} {n cp : Nat} {s q r : Int × Int} (hn : n = l.length) (hcp : l.length ≤ cp) (hlen : l.length < 1000000000) (hrow : Row renc 2 h nx p l) :
    C LW fl 32 [.agg (renc s), .slice p n cp, .agg (renc q), .agg (renc r)] ⟨h, nx⟩ (Sc (· = .tuple [.agg (renc (cor s l q r).1), i64 (cor s l q r).2]) ⟨h, nx⟩) := by
  subst hn
  have cC : ∀ fl h' n', Ext h nx h' n' → C LW fl 63 [.slice p l.length cp] ⟨h', n'⟩ (Sc (· = i64 (chkT l)) ⟨h', n'⟩) := fun fl h' n' e => c_checkTable e.d rfl hlen (hrow.ext e)
  have cB : ∀ fl h' n', Ext h nx h' n' → C LW fl 30 [.slice p l.length cp, .agg (renc q)] ⟨h', n'⟩ (Sc (· = .tuple [.agg (renc (boi l q).1), i64 (boi l q).2]) ⟨h', n'⟩) := fun fl h' n' e => c_Boils e.d rfl hcp hlen (hrow.ext e)
  have cR : ∀ fl h' n' b k, D h' n' → b < n' → h'.get b = some (.cells (renc s) k) → C LW fl 53 [.agg (renc r), .slice (some (b, 0)) 1 1] ⟨h', n'⟩ (Sc (· = i64 (chkR [s] r)) ⟨h', n'⟩) := fun fl h' n' b k e hb hg => c_checkReadings (l := [s]) (r := r) (cp := 1) e rfl (by simp) (row_flat (k := k) renc_len hb (by rw [hg]; rfl))
  refine c_in lw32 rfl rfl rfl ?_
  dsimp only [L32]
  unfold cor
  by_cases hc : chkT l = 0
  · rw [if_pos hc]
    rw [hc] at cC
    have ht := tb_ok hc
    by_cases hr : chkR [s] r = 0
    · rw [if_pos hr]
      rw [hr] at cR
      by_cases hb : (boi l q).2 = 0
      · rw [if_pos hb]
        obtain ⟨_, _, b1, b2⟩ := boi_bd ht hb
        rw [hb] at cB
        have cT : ∀ fl h' n', D h' n' → C LW fl 54 [.agg (renc s), .agg (renc (boi l q).1), .agg (renc r)] ⟨h', n'⟩ (Sc (· = .agg (renc (tru s (boi l q).1 r))) ⟨h', n'⟩) := fun fl h' n' e => c_true e (chkR_s hr) (chkR_r hr) (by omega)
        obtain ⟨u, hu⟩ : ∃ x, x = (boi l q).1 := ⟨_, rfl⟩
        rw [← hu] at cB cT ⊢
        obtain ⟨v, hv⟩ : ∃ x, x = tru s u r := ⟨_, rfl⟩
        rw [← hv] at cT ⊢
        repeat' first
         | refine r_nil ?_
         | refine th_n ?_
         | refine w_seq ?_
         | refine w_reg ?_
         | refine w_ret ?_
         | refine w_skip ?_
         | refine w_f (by simp (disch:=first|decide|(simp only[zF,zG];decide)) only [zA,zB,zC,zD,zE,zF,zG,zH,zI,zJ,zK,HV.cells,fl0,fl2,flS,flS1,flI1,flU1,flU2,flF]; first|done|exact rfl) ?_
         | refine r_move (by simp (disch:=first|decide|(simp only[zF,zG];decide)) only [zA,zB,zC,zD,zE,zF,zG,zH,zI,zJ,zK,HV.cells,fl0,fl2,flS,flS1,flI1,flU1,flU2,flF]; try exact rfl) ?_
         | refine r_ldn (by simp (disch:=first|decide|(simp only[zF,zG];decide)) only [zA,zB,zC,zD,zE,zF,zG,zH,zI,zJ,zK,HV.cells,fl0,fl2,flS,flS1,flI1,flU1,flU2,flF]; try exact rfl) (by first|assumption|(simp (disch:=omega) only [get_same,get_other]; first|done|exact rfl)) (by first|assumption|exact ow2 _ _ _ _|exact ow3 _ _ _ _ _ _|rfl|(simp only [zI,zJ,HV.cells]; exact rfl)) ?_
         | refine r_box (by simp (disch:=first|decide|(simp only[zF,zG];decide)) only [zA,zB,zC,zD,zE,zF,zG,zH,zI,zJ,zK,HV.cells,fl0,fl2,flS,flS1,flI1,flU1,flU2,flF]; try exact rfl) ?_
         | refine r_alloc ?_
         | refine r_st (cs' := _) (by simp (disch:=first|decide|(simp only[zF,zG];decide)) only [zA,zB,zC,zD,zE,zF,zG,zH,zI,zJ,zK,HV.cells,fl0,fl2,flS,flS1,flI1,flU1,flU2,flF]; try exact rfl) (by simp (disch:=first|decide|(simp only[zF,zG];decide)) only [zA,zB,zC,zD,zE,zF,zG,zH,zI,zJ,zK,HV.cells,fl0,fl2,flS,flS1,flI1,flU1,flU2,flF]; try exact rfl) (by first|assumption|(simp (disch:=omega) only [get_same,get_other]; first|done|exact rfl)) (by exact True.intro) (by rfl) (by rfl) (by first|assumption|exact ow2 _ _ _ _|exact ow3 _ _ _ _ _ _|rfl|(simp only [zI,zJ,HV.cells]; exact rfl)) (by omega) ?_
         | refine r_ne (by simp (disch:=first|decide|(simp only[zF,zG];decide)) only [zA,zB,zC,zD,zE,zF,zG,zH,zI,zJ,zK,HV.cells,fl0,fl2,flS,flS1,flI1,flU1,flU2,flF]; try exact rfl) (by simp (disch:=first|decide|(simp only[zF,zG];decide)) only [zA,zB,zC,zD,zE,zF,zG,zH,zI,zJ,zK,HV.cells,fl0,fl2,flS,flS1,flI1,flU1,flU2,flF]; try exact rfl) (fun hc => ?_) (fun hc => ?_) <;> (try (exfalso; omega))
         | refine r_ext (by simp (disch:=first|decide|(simp only[zF,zG];decide)) only [zA,zB,zC,zD,zE,zF,zG,zH,zI,zJ,zK,HV.cells,fl0,fl2,flS,flS1,flI1,flU1,flU2,flF]; try exact rfl) (by first|assumption|exact ow2 _ _ _ _|exact ow3 _ _ _ _ _ _|rfl|(simp only [zI,zJ,HV.cells]; exact rfl)) ?_
         | refine r_bs (by simp (disch:=first|decide|(simp only[zF,zG];decide)) only [evParts,List.map_cons,List.map_nil,List.nil_append,List.cons_append,List.append_nil,zA,zB,zC,zD,zE,zF,zG,zH,zI,zJ,zK,HV.cells,fl0,fl2,flS,flS1,flI1,flU1,flU2,flF]; try exact rfl) ?_
         | refine r_calls (by simp (disch:=first|decide|(simp only[zF,zG];decide)) only [zA,zB,zC,zD,zE,zF,zG,zH,zI,zJ,zK,HV.cells,fl0,fl2,flS,flS1,flI1,flU1,flU2,flF]; try exact rfl) (by simp (disch:=first|decide|(simp only[zF,zG];decide)) only [List.map_cons,List.map_nil,List.nil_append,List.cons_append,List.append_nil,zA,zB,zC,zD,zE,zF,zG,zH,zI,zJ,zK,HV.cells,fl0,fl2,flS,flS1,flI1,flU1,flU2,flF]; first|done|exact rfl) (cC _ _ _ (by repeat' first|assumption|refine Ext.put ?_ (by omega) (by omega)|exact Ext.up (by assumption) (by omega)|exact Ext.nx (by assumption) (by omega))) (fun n' hn' => ?_)
         | refine r_calls (by simp (disch:=first|decide|(simp only[zF,zG];decide)) only [zA,zB,zC,zD,zE,zF,zG,zH,zI,zJ,zK,HV.cells,fl0,fl2,flS,flS1,flI1,flU1,flU2,flF]; try exact rfl) (by simp (disch:=first|decide|(simp only[zF,zG];decide)) only [List.map_cons,List.map_nil,List.nil_append,List.cons_append,List.append_nil,zA,zB,zC,zD,zE,zF,zG,zH,zI,zJ,zK,HV.cells,fl0,fl2,flS,flS1,flI1,flU1,flU2,flF]; first|done|exact rfl) (cR _ _ _ _ _ (by (repeat' first|assumption|refine D.upd ?_ (by omega)|exact D.mono (by assumption) (by omega)) <;> fail) (by omega) (by first|assumption|(simp (disch:=omega) only [get_same,get_other]; first|done|exact rfl))) (fun n' hn' => ?_)
         | refine r_calls (by simp (disch:=first|decide|(simp only[zF,zG];decide)) only [zA,zB,zC,zD,zE,zF,zG,zH,zI,zJ,zK,HV.cells,fl0,fl2,flS,flS1,flI1,flU1,flU2,flF]; try exact rfl) (by simp (disch:=first|decide|(simp only[zF,zG];decide)) only [List.map_cons,List.map_nil,List.nil_append,List.cons_append,List.append_nil,zA,zB,zC,zD,zE,zF,zG,zH,zI,zJ,zK,HV.cells,fl0,fl2,flS,flS1,flI1,flU1,flU2,flF]; first|done|exact rfl) (cB _ _ _ (by repeat' first|assumption|refine Ext.put ?_ (by omega) (by omega)|exact Ext.up (by assumption) (by omega)|exact Ext.nx (by assumption) (by omega))) (fun n' hn' => ?_)
         | refine r_calls (by simp (disch:=first|decide|(simp only[zF,zG];decide)) only [zA,zB,zC,zD,zE,zF,zG,zH,zI,zJ,zK,HV.cells,fl0,fl2,flS,flS1,flI1,flU1,flU2,flF]; try exact rfl) (by simp (disch:=first|decide|(simp only[zF,zG];decide)) only [List.map_cons,List.map_nil,List.nil_append,List.cons_append,List.append_nil,zA,zB,zC,zD,zE,zF,zG,zH,zI,zJ,zK,HV.cells,fl0,fl2,flS,flS1,flI1,flU1,flU2,flF]; first|done|exact rfl) (cT _ _ _ (by (repeat' first|assumption|refine D.upd ?_ (by omega)|exact D.mono (by assumption) (by omega)) <;> fail)) (fun n' hn' => ?_)
         | fail
        exact fin_m (by simp only [zL,zM]) (res_c (by simp (disch:=first|decide|(simp only[zF,zG];decide)) only [zA,zB,zC,zD,zE,zF,zG,zH,zI,zJ,zK,HV.cells,fl0,fl2,flS,flS1,flI1,flU1,flU2,flF]; try exact rfl) (by first|assumption|(simp (disch:=omega) only [get_same,get_other]; first|done|exact rfl)) rfl (res_t (by simp (disch:=first|decide|(simp only[zF,zG];decide)) only [zA,zB,zC,zD,zE,zF,zG,zH,zI,zJ,zK,HV.cells,fl0,fl2,flS,flS1,flI1,flU1,flU2,flF]; try exact rfl) res_nil)) (sc_flat rfl (by dsimp only; omega) rfl)
      · rw [if_neg hb]
        obtain ⟨u, hu⟩ : ∃ x, x = (boi l q).1 := ⟨_, rfl⟩
        obtain ⟨v, hv⟩ : ∃ x, x = (boi l q).2 := ⟨_, rfl⟩
        rw [← hv] at hb ⊢
        rw [← hu, ← hv] at cB
        repeat' first
         | refine r_nil ?_
         | refine th_n ?_
         | refine th_r ?_
         | refine w_seq ?_
         | refine w_reg ?_
         | refine w_ret ?_
         | refine w_skip ?_
         | refine w_t (by simp (disch:=first|decide|(simp only[zF,zG];decide)) only [zA,zB,zC,zD,zE,zF,zG,zH,zI,zJ,zK,HV.cells,fl0,fl2,flS,flS1,flI1,flU1,flU2,flF]; first|done|exact rfl) ?_
         | refine w_f (by simp (disch:=first|decide|(simp only[zF,zG];decide)) only [zA,zB,zC,zD,zE,zF,zG,zH,zI,zJ,zK,HV.cells,fl0,fl2,flS,flS1,flI1,flU1,flU2,flF]; first|done|exact rfl) ?_
         | refine r_move (by simp (disch:=first|decide|(simp only[zF,zG];decide)) only [zA,zB,zC,zD,zE,zF,zG,zH,zI,zJ,zK,HV.cells,fl0,fl2,flS,flS1,flI1,flU1,flU2,flF]; try exact rfl) ?_
         | refine r_ldn (by simp (disch:=first|decide|(simp only[zF,zG];decide)) only [zA,zB,zC,zD,zE,zF,zG,zH,zI,zJ,zK,HV.cells,fl0,fl2,flS,flS1,flI1,flU1,flU2,flF]; try exact rfl) (by first|assumption|(simp (disch:=omega) only [get_same,get_other]; first|done|exact rfl)) (by first|assumption|exact ow2 _ _ _ _|exact ow3 _ _ _ _ _ _|rfl|(simp only [zI,zJ,HV.cells]; exact rfl)) ?_
         | refine r_box (by simp (disch:=first|decide|(simp only[zF,zG];decide)) only [zA,zB,zC,zD,zE,zF,zG,zH,zI,zJ,zK,HV.cells,fl0,fl2,flS,flS1,flI1,flU1,flU2,flF]; try exact rfl) ?_
         | refine r_alloc ?_
         | refine r_st (cs' := _) (by simp (disch:=first|decide|(simp only[zF,zG];decide)) only [zA,zB,zC,zD,zE,zF,zG,zH,zI,zJ,zK,HV.cells,fl0,fl2,flS,flS1,flI1,flU1,flU2,flF]; try exact rfl) (by simp (disch:=first|decide|(simp only[zF,zG];decide)) only [zA,zB,zC,zD,zE,zF,zG,zH,zI,zJ,zK,HV.cells,fl0,fl2,flS,flS1,flI1,flU1,flU2,flF]; try exact rfl) (by first|assumption|(simp (disch:=omega) only [get_same,get_other]; first|done|exact rfl)) (by exact True.intro) (by rfl) (by rfl) (by first|assumption|exact ow2 _ _ _ _|exact ow3 _ _ _ _ _ _|rfl|(simp only [zI,zJ,HV.cells]; exact rfl)) (by omega) ?_
         | refine r_ne (by simp (disch:=first|decide|(simp only[zF,zG];decide)) only [zA,zB,zC,zD,zE,zF,zG,zH,zI,zJ,zK,HV.cells,fl0,fl2,flS,flS1,flI1,flU1,flU2,flF]; try exact rfl) (by simp (disch:=first|decide|(simp only[zF,zG];decide)) only [zA,zB,zC,zD,zE,zF,zG,zH,zI,zJ,zK,HV.cells,fl0,fl2,flS,flS1,flI1,flU1,flU2,flF]; try exact rfl) (fun hc => ?_) (fun hc => ?_) <;> (try (exfalso; omega))
         | refine r_ext (by simp (disch:=first|decide|(simp only[zF,zG];decide)) only [zA,zB,zC,zD,zE,zF,zG,zH,zI,zJ,zK,HV.cells,fl0,fl2,flS,flS1,flI1,flU1,flU2,flF]; try exact rfl) (by first|assumption|exact ow2 _ _ _ _|exact ow3 _ _ _ _ _ _|rfl|(simp only [zI,zJ,HV.cells]; exact rfl)) ?_
         | refine r_build (by simp (disch:=first|decide|(simp only[zF,zG];decide)) only [evParts,List.map_cons,List.map_nil,List.nil_append,List.cons_append,List.append_nil,zA,zB,zC,zD,zE,zF,zG,zH,zI,zJ,zK,HV.cells,fl0,fl2,flS,flS1,flI1,flU1,flU2,flF]; try exact rfl) ?_
         | refine r_bs (by simp (disch:=first|decide|(simp only[zF,zG];decide)) only [evParts,List.map_cons,List.map_nil,List.nil_append,List.cons_append,List.append_nil,zA,zB,zC,zD,zE,zF,zG,zH,zI,zJ,zK,HV.cells,fl0,fl2,flS,flS1,flI1,flU1,flU2,flF]; try exact rfl) ?_
         | refine r_calls (by simp (disch:=first|decide|(simp only[zF,zG];decide)) only [zA,zB,zC,zD,zE,zF,zG,zH,zI,zJ,zK,HV.cells,fl0,fl2,flS,flS1,flI1,flU1,flU2,flF]; try exact rfl) (by simp (disch:=first|decide|(simp only[zF,zG];decide)) only [List.map_cons,List.map_nil,List.nil_append,List.cons_append,List.append_nil,zA,zB,zC,zD,zE,zF,zG,zH,zI,zJ,zK,HV.cells,fl0,fl2,flS,flS1,flI1,flU1,flU2,flF]; first|done|exact rfl) (cC _ _ _ (by repeat' first|assumption|refine Ext.put ?_ (by omega) (by omega)|exact Ext.up (by assumption) (by omega)|exact Ext.nx (by assumption) (by omega))) (fun n' hn' => ?_)
         | refine r_calls (by simp (disch:=first|decide|(simp only[zF,zG];decide)) only [zA,zB,zC,zD,zE,zF,zG,zH,zI,zJ,zK,HV.cells,fl0,fl2,flS,flS1,flI1,flU1,flU2,flF]; try exact rfl) (by simp (disch:=first|decide|(simp only[zF,zG];decide)) only [List.map_cons,List.map_nil,List.nil_append,List.cons_append,List.append_nil,zA,zB,zC,zD,zE,zF,zG,zH,zI,zJ,zK,HV.cells,fl0,fl2,flS,flS1,flI1,flU1,flU2,flF]; first|done|exact rfl) (cR _ _ _ _ _ (by (repeat' first|assumption|refine D.upd ?_ (by omega)|exact D.mono (by assumption) (by omega)) <;> fail) (by omega) (by first|assumption|(simp (disch:=omega) only [get_same,get_other]; first|done|exact rfl))) (fun n' hn' => ?_)
         | refine r_calls (by simp (disch:=first|decide|(simp only[zF,zG];decide)) only [zA,zB,zC,zD,zE,zF,zG,zH,zI,zJ,zK,HV.cells,fl0,fl2,flS,flS1,flI1,flU1,flU2,flF]; try exact rfl) (by simp (disch:=first|decide|(simp only[zF,zG];decide)) only [List.map_cons,List.map_nil,List.nil_append,List.cons_append,List.append_nil,zA,zB,zC,zD,zE,zF,zG,zH,zI,zJ,zK,HV.cells,fl0,fl2,flS,flS1,flI1,flU1,flU2,flF]; first|done|exact rfl) (cB _ _ _ (by repeat' first|assumption|refine Ext.put ?_ (by omega) (by omega)|exact Ext.up (by assumption) (by omega)|exact Ext.nx (by assumption) (by omega))) (fun n' hn' => ?_)
         | fail
        exact fin_m (by simp only [zL,zM]) (res_c (by simp (disch:=first|decide|(simp only[zF,zG];decide)) only [zA,zB,zC,zD,zE,zF,zG,zH,zI,zJ,zK,HV.cells,fl0,fl2,flS,flS1,flI1,flU1,flU2,flF]; try exact rfl) (by first|assumption|(simp (disch:=omega) only [get_same,get_other]; first|done|exact rfl)) rfl (res_t (by simp (disch:=first|decide|(simp only[zF,zG];decide)) only [zA,zB,zC,zD,zE,zF,zG,zH,zI,zJ,zK,HV.cells,fl0,fl2,flS,flS1,flI1,flU1,flU2,flF]; try exact rfl) res_nil)) (sc_flat rfl (by dsimp only; omega) rfl)
    · rw [if_neg hr]
      repeat' first
       | refine r_nil ?_
       | refine th_n ?_
       | refine th_r ?_
       | refine w_seq ?_
       | refine w_reg ?_
       | refine w_ret ?_
       | refine w_skip ?_
       | refine w_t (by simp (disch:=first|decide|(simp only[zF,zG];decide)) only [zA,zB,zC,zD,zE,zF,zG,zH,zI,zJ,zK,HV.cells,fl0,fl2,flS,flS1,flI1,flU1,flU2,flF]; first|done|exact rfl) ?_
       | refine w_f (by simp (disch:=first|decide|(simp only[zF,zG];decide)) only [zA,zB,zC,zD,zE,zF,zG,zH,zI,zJ,zK,HV.cells,fl0,fl2,flS,flS1,flI1,flU1,flU2,flF]; first|done|exact rfl) ?_
       | refine r_move (by simp (disch:=first|decide|(simp only[zF,zG];decide)) only [zA,zB,zC,zD,zE,zF,zG,zH,zI,zJ,zK,HV.cells,fl0,fl2,flS,flS1,flI1,flU1,flU2,flF]; try exact rfl) ?_
       | refine r_ldn (by simp (disch:=first|decide|(simp only[zF,zG];decide)) only [zA,zB,zC,zD,zE,zF,zG,zH,zI,zJ,zK,HV.cells,fl0,fl2,flS,flS1,flI1,flU1,flU2,flF]; try exact rfl) (by first|assumption|(simp (disch:=omega) only [get_same,get_other]; first|done|exact rfl)) (by first|assumption|exact ow2 _ _ _ _|exact ow3 _ _ _ _ _ _|rfl|(simp only [zI,zJ,HV.cells]; exact rfl)) ?_
       | refine r_box (by simp (disch:=first|decide|(simp only[zF,zG];decide)) only [zA,zB,zC,zD,zE,zF,zG,zH,zI,zJ,zK,HV.cells,fl0,fl2,flS,flS1,flI1,flU1,flU2,flF]; try exact rfl) ?_
       | refine r_alloc ?_
       | refine r_st (cs' := _) (by simp (disch:=first|decide|(simp only[zF,zG];decide)) only [zA,zB,zC,zD,zE,zF,zG,zH,zI,zJ,zK,HV.cells,fl0,fl2,flS,flS1,flI1,flU1,flU2,flF]; try exact rfl) (by simp (disch:=first|decide|(simp only[zF,zG];decide)) only [zA,zB,zC,zD,zE,zF,zG,zH,zI,zJ,zK,HV.cells,fl0,fl2,flS,flS1,flI1,flU1,flU2,flF]; try exact rfl) (by first|assumption|(simp (disch:=omega) only [get_same,get_other]; first|done|exact rfl)) (by exact True.intro) (by rfl) (by rfl) (by first|assumption|exact ow2 _ _ _ _|exact ow3 _ _ _ _ _ _|rfl|(simp only [zI,zJ,HV.cells]; exact rfl)) (by omega) ?_
       | refine r_ne (by simp (disch:=first|decide|(simp only[zF,zG];decide)) only [zA,zB,zC,zD,zE,zF,zG,zH,zI,zJ,zK,HV.cells,fl0,fl2,flS,flS1,flI1,flU1,flU2,flF]; try exact rfl) (by simp (disch:=first|decide|(simp only[zF,zG];decide)) only [zA,zB,zC,zD,zE,zF,zG,zH,zI,zJ,zK,HV.cells,fl0,fl2,flS,flS1,flI1,flU1,flU2,flF]; try exact rfl) (fun hc => ?_) (fun hc => ?_) <;> (try (exfalso; omega))
       | refine r_build (by simp (disch:=first|decide|(simp only[zF,zG];decide)) only [evParts,List.map_cons,List.map_nil,List.nil_append,List.cons_append,List.append_nil,zA,zB,zC,zD,zE,zF,zG,zH,zI,zJ,zK,HV.cells,fl0,fl2,flS,flS1,flI1,flU1,flU2,flF]; try exact rfl) ?_
       | refine r_bs (by simp (disch:=first|decide|(simp only[zF,zG];decide)) only [evParts,List.map_cons,List.map_nil,List.nil_append,List.cons_append,List.append_nil,zA,zB,zC,zD,zE,zF,zG,zH,zI,zJ,zK,HV.cells,fl0,fl2,flS,flS1,flI1,flU1,flU2,flF]; try exact rfl) ?_
       | refine r_calls (by simp (disch:=first|decide|(simp only[zF,zG];decide)) only [zA,zB,zC,zD,zE,zF,zG,zH,zI,zJ,zK,HV.cells,fl0,fl2,flS,flS1,flI1,flU1,flU2,flF]; try exact rfl) (by simp (disch:=first|decide|(simp only[zF,zG];decide)) only [List.map_cons,List.map_nil,List.nil_append,List.cons_append,List.append_nil,zA,zB,zC,zD,zE,zF,zG,zH,zI,zJ,zK,HV.cells,fl0,fl2,flS,flS1,flI1,flU1,flU2,flF]; first|done|exact rfl) (cC _ _ _ (by repeat' first|assumption|refine Ext.put ?_ (by omega) (by omega)|exact Ext.up (by assumption) (by omega)|exact Ext.nx (by assumption) (by omega))) (fun n' hn' => ?_)
       | refine r_calls (by simp (disch:=first|decide|(simp only[zF,zG];decide)) only [zA,zB,zC,zD,zE,zF,zG,zH,zI,zJ,zK,HV.cells,fl0,fl2,flS,flS1,flI1,flU1,flU2,flF]; try exact rfl) (by simp (disch:=first|decide|(simp only[zF,zG];decide)) only [List.map_cons,List.map_nil,List.nil_append,List.cons_append,List.append_nil,zA,zB,zC,zD,zE,zF,zG,zH,zI,zJ,zK,HV.cells,fl0,fl2,flS,flS1,flI1,flU1,flU2,flF]; first|done|exact rfl) (cR _ _ _ _ _ (by (repeat' first|assumption|refine D.upd ?_ (by omega)|exact D.mono (by assumption) (by omega)) <;> fail) (by omega) (by first|assumption|(simp (disch:=omega) only [get_same,get_other]; first|done|exact rfl))) (fun n' hn' => ?_)
       | fail
      exact fin_m (by simp only [zL,zM]) (res_c (by simp (disch:=first|decide|(simp only[zF,zG];decide)) only [zA,zB,zC,zD,zE,zF,zG,zH,zI,zJ,zK,HV.cells,fl0,fl2,flS,flS1,flI1,flU1,flU2,flF]; try exact rfl) (by first|assumption|(simp (disch:=omega) only [get_same,get_other]; first|done|exact rfl)) rfl (res_t (by simp (disch:=first|decide|(simp only[zF,zG];decide)) only [zA,zB,zC,zD,zE,zF,zG,zH,zI,zJ,zK,HV.cells,fl0,fl2,flS,flS1,flI1,flU1,flU2,flF]; try exact rfl) res_nil)) (sc_flat rfl (by dsimp only; omega) rfl)
  · rw [if_neg hc]
    repeat' first
     | refine r_nil ?_
     | refine th_n ?_
     | refine th_r ?_
     | refine w_seq ?_
     | refine w_reg ?_
     | refine w_ret ?_
     | refine w_t (by simp (disch:=first|decide|(simp only[zF,zG];decide)) only [zA,zB,zC,zD,zE,zF,zG,zH,zI,zJ,zK,HV.cells,fl0,fl2,flS,flS1,flI1,flU1,flU2,flF]; first|done|exact rfl) ?_
     | refine r_move (by simp (disch:=first|decide|(simp only[zF,zG];decide)) only [zA,zB,zC,zD,zE,zF,zG,zH,zI,zJ,zK,HV.cells,fl0,fl2,flS,flS1,flI1,flU1,flU2,flF]; try exact rfl) ?_
     | refine r_box (by simp (disch:=first|decide|(simp only[zF,zG];decide)) only [zA,zB,zC,zD,zE,zF,zG,zH,zI,zJ,zK,HV.cells,fl0,fl2,flS,flS1,flI1,flU1,flU2,flF]; try exact rfl) ?_
     | refine r_alloc ?_
     | refine r_st (cs' := _) (by simp (disch:=first|decide|(simp only[zF,zG];decide)) only [zA,zB,zC,zD,zE,zF,zG,zH,zI,zJ,zK,HV.cells,fl0,fl2,flS,flS1,flI1,flU1,flU2,flF]; try exact rfl) (by simp (disch:=first|decide|(simp only[zF,zG];decide)) only [zA,zB,zC,zD,zE,zF,zG,zH,zI,zJ,zK,HV.cells,fl0,fl2,flS,flS1,flI1,flU1,flU2,flF]; try exact rfl) (by first|assumption|(simp (disch:=omega) only [get_same,get_other]; first|done|exact rfl)) (by exact True.intro) (by rfl) (by rfl) (by first|assumption|exact ow2 _ _ _ _|exact ow3 _ _ _ _ _ _|rfl|(simp only [zI,zJ,HV.cells]; exact rfl)) (by omega) ?_
     | refine r_ne (by simp (disch:=first|decide|(simp only[zF,zG];decide)) only [zA,zB,zC,zD,zE,zF,zG,zH,zI,zJ,zK,HV.cells,fl0,fl2,flS,flS1,flI1,flU1,flU2,flF]; try exact rfl) (by simp (disch:=first|decide|(simp only[zF,zG];decide)) only [zA,zB,zC,zD,zE,zF,zG,zH,zI,zJ,zK,HV.cells,fl0,fl2,flS,flS1,flI1,flU1,flU2,flF]; try exact rfl) (fun hc => ?_) (fun hc => ?_) <;> (try (exfalso; omega))
     | refine r_build (by simp (disch:=first|decide|(simp only[zF,zG];decide)) only [evParts,List.map_cons,List.map_nil,List.nil_append,List.cons_append,List.append_nil,zA,zB,zC,zD,zE,zF,zG,zH,zI,zJ,zK,HV.cells,fl0,fl2,flS,flS1,flI1,flU1,flU2,flF]; try exact rfl) ?_
     | refine r_calls (by simp (disch:=first|decide|(simp only[zF,zG];decide)) only [zA,zB,zC,zD,zE,zF,zG,zH,zI,zJ,zK,HV.cells,fl0,fl2,flS,flS1,flI1,flU1,flU2,flF]; try exact rfl) (by simp (disch:=first|decide|(simp only[zF,zG];decide)) only [List.map_cons,List.map_nil,List.nil_append,List.cons_append,List.append_nil,zA,zB,zC,zD,zE,zF,zG,zH,zI,zJ,zK,HV.cells,fl0,fl2,flS,flS1,flI1,flU1,flU2,flF]; first|done|exact rfl) (cC _ _ _ (by repeat' first|assumption|refine Ext.put ?_ (by omega) (by omega)|exact Ext.up (by assumption) (by omega)|exact Ext.nx (by assumption) (by omega))) (fun n' hn' => ?_)
     | fail
    exact fin_m (by simp only [zL,zM]) (res_c (by simp (disch:=first|decide|(simp only[zF,zG];decide)) only [zA,zB,zC,zD,zE,zF,zG,zH,zI,zJ,zK,HV.cells,fl0,fl2,flS,flS1,flI1,flU1,flU2,flF]; try exact rfl) (by first|assumption|(simp (disch:=omega) only [get_same,get_other]; first|done|exact rfl)) rfl (res_t (by simp (disch:=first|decide|(simp only[zF,zG];decide)) only [zA,zB,zC,zD,zE,zF,zG,zH,zI,zJ,zK,HV.cells,fl0,fl2,flS,flS1,flI1,flU1,flU2,flF]; try exact rfl) res_nil)) (sc_flat rfl (by dsimp only; omega) rfl)
end Go.Hx

/- Layer 3: tables of the reference. -/
namespace Go.Hx
set_option linter.unusedSimpArgs false
set_option linter.unusedVariables false
set_option maxRecDepth 20000
set_option maxHeartbeats 4000000
attribute [local irreducible] W R C thenH inBlockH
--dropu
def Good (l : List (Int × Int)) (i : Nat) : Prop := (∀ j (hj : j < l.length), j < i → StOk l[j]) ∧ ∀ j (hj : j + 1 < l.length), j + 1 < i → Pre l[j] l[j + 1]
theorem ris_of : ∀ {l : List (Int × Int)}, (∀ j (hj : j + 1 < l.length), Pre l[j] l[j + 1]) → Ris l
  | [], _ => trivial
  | [s], _ => trivial
  | s :: q :: l, h => ⟨h 0 (by simp), ris_of fun j hj => h (j + 1) (by simpa using hj)⟩
theorem good_tb {l : List (Int × Int)} (h : Good l l.length) : TbOk l ↔ 2 ≤ l.length :=
  ⟨fun e => e.1, fun e => ⟨e, fun s hs => by obtain ⟨j, hj, rfl⟩ := List.getElem_of_mem hs; exact h.1 j hj hj, ris_of fun j hj => h.2 j hj hj⟩⟩
theorem good_next {l : List (Int × Int)} {i : Nat} (h : Good l i) (hi : i < l.length) (h1 : StOk l[i]) (h2 : ∀ k (hk : k + 1 = i), Pre (l[k]'(by omega)) l[i]) : Good l (i + 1) := by
  refine ⟨fun j hj hji => ?_, fun j hj hji => ?_⟩
  · by_cases e : j = i
    · subst e; exact h1
    · exact h.1 j hj (by omega)
  · by_cases e : j + 1 = i
    · subst e; exact h2 j rfl
    · exact h.2 j hj (by omega)
/- 33 -/
theorem loop33 {fl : Nat} {h0 : Tr HBlk} {n0 : Nat} {Q : HExit → HAct → HS → Prop} {p : Option (Nat × Nat)} {l : List (Int × Int)} {cp : Nat} (hlen : l.length < 1000000000) (hfl : fl ≤ n0) (hrow : Row renc 2 h0 n0 p l) :
    ∀ (m i : Nat) (a : HAct) (h : Tr HBlk) (nx : Nat), m + i = l.length → Ext h0 n0 h nx → Good l i → a.nt = 61 → a.defers = [] → a.tmp 0 = .slice p l.length cp → a.tmp 3 = i64 i →
      (∀ a' h' n', Ext h0 n0 h' n' → Good l l.length → a'.nt = 61 → a'.defers = [] → a'.tmp 0 = .slice p l.length cp → Q .normal a' ⟨h', n'⟩) →
      (∀ a' h' n', Ext h0 n0 h' n' → ¬ TbOk l → a'.nt = 61 → a'.defers = [] → a'.tmp 2 = .bool false → Q .ret a' ⟨h', n'⟩) → W LW fl none (.loop L33w0) (inBlockH 0 Q) a ⟨h, nx⟩
  | 0, i, a, h, nx, hm, he, hG, hnt, hds, t0, t3, hq, hr => by
    have hle := he.le
    refine w_it (show L33w0 = _ by unfold L33w0; exact rfl) ?_
    repeat' first
     | refine r_nil ?_
     | refine th_n ?_
     | refine th_e ?_
     | refine ib_e ?_
     | refine w_exit ?_
     | refine w_seq ?_
     | refine w_reg ?_
     | refine w_f (by simp (disch:=first|decide|(simp only[zF,zG,hnt, t0, t3];decide)) only [zA,zB,zC,zD,zE,zF,zG,zH,zI,zJ,zK,HV.cells,fl0,fl2,flS,flS1,flI1,flU1,flU2,flF,hnt, t0, t3]; first|done|exact rfl) ?_
     | refine r_move (by simp (disch:=first|decide|(simp only[zF,zG,hnt, t0, t3];decide)) only [zA,zB,zC,zD,zE,zF,zG,zH,zI,zJ,zK,HV.cells,fl0,fl2,flS,flS1,flI1,flU1,flU2,flF,hnt, t0, t3]; try exact rfl) ?_
     | refine r_lss (by simp (disch:=first|decide|(simp only[zF,zG,hnt, t0, t3];decide)) only [zA,zB,zC,zD,zE,zF,zG,zH,zI,zJ,zK,HV.cells,fl0,fl2,flS,flS1,flI1,flU1,flU2,flF,hnt, t0, t3]; try exact rfl) (by simp (disch:=first|decide|(simp only[zF,zG,hnt, t0, t3];decide)) only [zA,zB,zC,zD,zE,zF,zG,zH,zI,zJ,zK,HV.cells,fl0,fl2,flS,flS1,flI1,flU1,flU2,flF,hnt, t0, t3]; try exact rfl) (fun hc => ?_) (fun hc => ?_) <;> (try (exfalso; omega))
     | refine r_len (by simp (disch:=first|decide|(simp only[zF,zG,hnt, t0, t3];decide)) only [zA,zB,zC,zD,zE,zF,zG,zH,zI,zJ,zK,HV.cells,fl0,fl2,flS,flS1,flI1,flU1,flU2,flF,hnt, t0, t3]; try exact rfl) ?_
     | fail
    refine hq _ _ _ he (by rwa [show i = l.length by omega] at hG) ?_ ?_ ?_
    all_goals first|(simp only [zL,zM,zF,zG,hnt, hds, t0];done)|(simp (disch:=first|decide|(simp only[zF,zG,hnt, hds, t0];decide)) only [zA,zB,zC,zD,zE,zF,zG,zH,zI,zJ,zK,HV.cells,fl0,fl2,flS,flS1,flI1,flU1,flU2,flF,hnt, hds, t0];first|done|exact rfl)|assumption
  | m + 1, i, a, h, nx, hm, he, hG, hnt, hds, t0, t3, hq, hr => by
    have hi : i < l.length := by omega
    have hrow0 := hrow.ext he
    obtain ⟨b, o, cs, kk, rfl, hb, hg, hcs⟩ := hrow0 (by intro e; rw [e] at hi; simp at hi)
    have hy : l[i]? = some l[i] := by simp [hi]
    have e0 := hcs i _ hy
    have hd := he.d
    have hle := he.le
    have ef := take_at e0 (j := 0) (v := i64 l[i].1) rfl
    have eg := take_at e0 (j := 1) (v := i64 l[i].2) rfl
    have nS : ¬ StOk l[i] → ¬ TbOk l := fun h1 h2 => h1 (h2.2.1 _ (List.getElem_mem hi))
    match i, hm, hG, t3, hi, hy, e0, ef, eg, nS with
    | 0, hm, hG, t3, hi, hy, e0, ef, eg, nS =>
      refine w_it (show L33w0 = _ by unfold L33w0; exact rfl) ?_
      repeat' first
       | refine r_nil ?_
       | refine th_n ?_
       | refine th_r ?_
       | refine ib_n ?_
       | refine ib_r ?_
       | refine w_seq ?_
       | refine w_reg ?_
       | refine w_ret ?_
       | refine w_skip ?_
       | refine w_block ?_
       | refine w_t (by simp (disch:=first|decide|(simp only[zF,zG,hnt, t0, t3, hg];decide)) only [zA,zB,zC,zD,zE,zF,zG,zH,zI,zJ,zK,HV.cells,fl0,fl2,flS,flS1,flI1,flU1,flU2,flF,hnt, t0, t3, hg]; first|done|exact rfl) ?_
       | refine w_f (by simp (disch:=first|decide|(simp only[zF,zG,hnt, t0, t3, hg];decide)) only [zA,zB,zC,zD,zE,zF,zG,zH,zI,zJ,zK,HV.cells,fl0,fl2,flS,flS1,flI1,flU1,flU2,flF,hnt, t0, t3, hg]; first|done|exact rfl) ?_
       | refine r_take (by simp (disch:=first|decide|(simp only[zF,zG,hnt, t0, t3, hg];decide)) only [zA,zB,zC,zD,zE,zF,zG,zH,zI,zJ,zK,HV.cells,fl0,fl2,flS,flS1,flI1,flU1,flU2,flF,hnt, t0, t3, hg]; first|done|exact rfl) ?_
       | refine r_drop (by simp (disch:=first|decide|(simp only[zF,zG,Bool.not_true,Bool.not_false,hnt, t0, t3, hg];decide)) only [zA,zB,zC,zD,zE,zF,zG,zH,zI,zJ,zK,HV.cells,fl0,fl2,flS,flS1,flI1,flU1,flU2,flF,Bool.not_true,Bool.not_false,hnt, t0, t3, hg]; first|done|exact rfl) ?_
       | refine r_dropu (by simp (disch:=first|decide|(simp only[zF,zG,hnt, t0, t3, hg];decide)) only [zA,zB,zC,zD,zE,zF,zG,zH,zI,zJ,zK,HV.cells,fl0,fl2,flS,flS1,flI1,flU1,flU2,flF,hnt, t0, t3, hg]; first|done|exact rfl) ?_
       | refine r_move (by simp (disch:=first|decide|(simp only[zF,zG,hnt, t0, t3, hg];decide)) only [zA,zB,zC,zD,zE,zF,zG,zH,zI,zJ,zK,HV.cells,fl0,fl2,flS,flS1,flI1,flU1,flU2,flF,hnt, t0, t3, hg]; try exact rfl) ?_
       | refine r_fa (by simp (disch:=first|decide|(simp only[zF,zG,hnt, t0, t3, hg];decide)) only [zA,zB,zC,zD,zE,zF,zG,zH,zI,zJ,zK,HV.cells,fl0,fl2,flS,flS1,flI1,flU1,flU2,flF,hnt, t0, t3, hg]; try exact rfl) ?_
       | refine r_ld1 (by simp (disch:=first|decide|(simp only[zF,zG,hnt, t0, t3, hg];decide)) only [zA,zB,zC,zD,zE,zF,zG,zH,zI,zJ,zK,HV.cells,fl0,fl2,flS,flS1,flI1,flU1,flU2,flF,hnt, t0, t3, hg]; try exact rfl) (by first|assumption|(simp (disch:=omega) only [get_same,get_other,hnt, t0, t3, hg]; first|done|exact rfl)) (by first|assumption|exact ow2 _ _ _ _|exact ow3 _ _ _ _ _ _|rfl|(simp only [zI,zJ,HV.cells,hnt, t0, t3, hg]; exact rfl)) ?_
       | refine r_add (by simp (disch:=first|decide|(simp only[zF,zG,hnt, t0, t3, hg];decide)) only [zA,zB,zC,zD,zE,zF,zG,zH,zI,zJ,zK,HV.cells,fl0,fl2,flS,flS1,flI1,flU1,flU2,flF,hnt, t0, t3, hg]; try exact rfl) (by simp (disch:=first|decide|(simp only[zF,zG,hnt, t0, t3, hg];decide)) only [zA,zB,zC,zD,zE,zF,zG,zH,zI,zJ,zK,HV.cells,fl0,fl2,flS,flS1,flI1,flU1,flU2,flF,hnt, t0, t3, hg]; try exact rfl) (by omega) (by omega) ?_
       | refine r_lss (by simp (disch:=first|decide|(simp only[zF,zG,hnt, t0, t3, hg];decide)) only [zA,zB,zC,zD,zE,zF,zG,zH,zI,zJ,zK,HV.cells,fl0,fl2,flS,flS1,flI1,flU1,flU2,flF,hnt, t0, t3, hg]; try exact rfl) (by simp (disch:=first|decide|(simp only[zF,zG,hnt, t0, t3, hg];decide)) only [zA,zB,zC,zD,zE,zF,zG,zH,zI,zJ,zK,HV.cells,fl0,fl2,flS,flS1,flI1,flU1,flU2,flF,hnt, t0, t3, hg]; try exact rfl) (fun hc => ?_) (fun hc => ?_) <;> (try (exfalso; omega))
       | refine r_gtr (by simp (disch:=first|decide|(simp only[zF,zG,hnt, t0, t3, hg];decide)) only [zA,zB,zC,zD,zE,zF,zG,zH,zI,zJ,zK,HV.cells,fl0,fl2,flS,flS1,flI1,flU1,flU2,flF,hnt, t0, t3, hg]; try exact rfl) (by simp (disch:=first|decide|(simp only[zF,zG,hnt, t0, t3, hg];decide)) only [zA,zB,zC,zD,zE,zF,zG,zH,zI,zJ,zK,HV.cells,fl0,fl2,flS,flS1,flI1,flU1,flU2,flF,hnt, t0, t3, hg]; try exact rfl) (fun hc => ?_) (fun hc => ?_) <;> (try (exfalso; omega))
       | refine r_not1 (by simp (disch:=first|decide|(simp only[zF,zG,hnt, t0, t3, hg];decide)) only [zA,zB,zC,zD,zE,zF,zG,zH,zI,zJ,zK,HV.cells,fl0,fl2,flS,flS1,flI1,flU1,flU2,flF,hnt, t0, t3, hg]; try exact rfl) ?_
       | refine r_pt (by simp (disch:=first|decide|(simp only[zF,zG,hnt, t0, t3, hg];decide)) only [zA,zB,zC,zD,zE,zF,zG,zH,zI,zJ,zK,HV.cells,fl0,fl2,flS,flS1,flI1,flU1,flU2,flF,hnt, t0, t3, hg]; first|done|exact rfl) (by simp (disch:=first|decide|(simp only[zF,zG,hnt, t0, t3, hg];decide)) only [zA,zB,zC,zD,zE,zF,zG,zH,zI,zJ,zK,HV.cells,fl0,fl2,flS,flS1,flI1,flU1,flU2,flF,hnt, t0, t3, hg]; try exact rfl) ?_
       | refine r_pf (by simp (disch:=first|decide|(simp only[zF,zG,hnt, t0, t3, hg];decide)) only [zA,zB,zC,zD,zE,zF,zG,zH,zI,zJ,zK,HV.cells,fl0,fl2,flS,flS1,flI1,flU1,flU2,flF,hnt, t0, t3, hg]; first|done|exact rfl) (by simp (disch:=first|decide|(simp only[zF,zG,hnt, t0, t3, hg];decide)) only [zA,zB,zC,zD,zE,zF,zG,zH,zI,zJ,zK,HV.cells,fl0,fl2,flS,flS1,flI1,flU1,flU2,flF,hnt, t0, t3, hg]; try exact rfl) ?_
       | refine r_len (by simp (disch:=first|decide|(simp only[zF,zG,hnt, t0, t3, hg];decide)) only [zA,zB,zC,zD,zE,zF,zG,zH,zI,zJ,zK,HV.cells,fl0,fl2,flS,flS1,flI1,flU1,flU2,flF,hnt, t0, t3, hg]; try exact rfl) ?_
       | refine r_ixs (by simp (disch:=first|decide|(simp only[zF,zG,hnt, t0, t3, hg];decide)) only [zA,zB,zC,zD,zE,zF,zG,zH,zI,zJ,zK,HV.cells,fl0,fl2,flS,flS1,flI1,flU1,flU2,flF,hnt, t0, t3, hg]; try exact rfl) (by simp (disch:=first|decide|(simp only[zF,zG,hnt, t0, t3, hg];decide)) only [zA,zB,zC,zD,zE,zF,zG,zH,zI,zJ,zK,HV.cells,fl0,fl2,flS,flS1,flI1,flU1,flU2,flF,hnt, t0, t3, hg]; try exact rfl) (by omega) ?_
       | refine r_calld (by simp (disch:=first|decide|(simp only[zF,zG,hnt, t0, t3, hg];decide)) only [zA,zB,zC,zD,zE,zF,zG,zH,zI,zJ,zK,HV.cells,fl0,fl2,flS,flS1,flI1,flU1,flU2,flF,hnt, t0, t3, hg]; try exact rfl) (by simp (disch:=first|decide|(simp only[zF,zG,hnt, t0, t3, hg];decide)) only [List.map_cons,List.map_nil,List.nil_append,List.cons_append,List.append_nil,zA,zB,zC,zD,zE,zF,zG,zH,zI,zJ,zK,HV.cells,fl0,fl2,flS,flS1,flI1,flU1,flU2,flF,hnt, t0, t3, hg]; first|done|exact rfl) c_In (fun n' hn' hc => ?_) (fun n' hn' hc => ?_) <;> (try (exfalso; omega))
       | refine w_draw (by omega) (by (repeat' first|assumption|refine D.upd ?_ (by omega)|exact D.mono (by assumption) (by omega)) <;> fail) ?_
       | refine d_rest rfl ?_
       | refine d_one rfl ?_
       | refine d_next (by omega) ?_
       | fail
      have ej : ((0 : Nat) : Int) + 1 = ((1 : Nat) : Int) := by omega
      all_goals first
        | (refine hr _ _ _ (he.up (by omega)) (nS (by unfold StOk; omega)) ?_ ?_ ?_
           all_goals first|(simp only [zL,zM,zF,zG,hnt, hds];done)|(simp (disch:=first|decide|(simp only[zF,zG,hnt, hds];decide)) only [zA,zB,zC,zD,zE,zF,zG,zH,zI,zJ,zK,HV.cells,fl0,fl2,flS,flS1,flI1,flU1,flU2,flF,hnt, hds];first|done|exact rfl)|assumption)
        | (refine loop33 (cp := cp) hlen hfl hrow m (0 + 1) _ _ _ (by omega) (he.up (by omega)) (good_next hG hi (by unfold StOk; omega) (fun k hk => by omega)) ?_ ?_ ?_ ?_ hq hr
           · first|(simp only [zL,zM,zF,zG,hnt];done)|(simp (disch:=first|decide|(simp only[zF,zG,hnt];decide)) only [zA,zB,zC,zD,zE,zF,zG,zH,zI,zJ,zK,HV.cells,fl0,fl2,flS,flS1,flI1,flU1,flU2,flF,hnt];first|done|exact rfl)|assumption
           · first|(simp only [zL,zM,zF,zG,hnt, hds];done)|(simp (disch:=first|decide|(simp only[zF,zG,hnt, hds];decide)) only [zA,zB,zC,zD,zE,zF,zG,zH,zI,zJ,zK,HV.cells,fl0,fl2,flS,flS1,flI1,flU1,flU2,flF,hnt, hds];first|done|exact rfl)|assumption
           · first|(simp only [zL,zM,zF,zG,hnt, t0];done)|(simp (disch:=first|decide|(simp only[zF,zG,hnt, t0];decide)) only [zA,zB,zC,zD,zE,zF,zG,zH,zI,zJ,zK,HV.cells,fl0,fl2,flS,flS1,flI1,flU1,flU2,flF,hnt, t0];first|done|exact rfl)|assumption
           · exact Eq.trans (by simp (disch:=first|decide|(simp only[zF,zG,hnt];decide)) only [zA,zB,zC,zD,zE,zF,zG,zH,zI,zJ,zK,HV.cells,fl0,fl2,flS,flS1,flI1,flU1,flU2,flF,hnt]; try exact rfl) (congrArg i64 (by omega)))
    | k + 1, hm, hG, t3, hi, hy, e0, ef, eg, nS =>
      have hz : l[k]? = some l[k] := by simp [show k < l.length by omega]
      have e1 := hcs k _ hz
      have eh := take_at e1 (j := 0) (v := i64 l[k].1) rfl
      have ei := take_at e1 (j := 1) (v := i64 l[k].2) rfl
      have ej : ((k + 1 : Nat) : Int) - 1 = (k : Int) := by omega
      have nP : ¬ Pre l[k] l[k + 1] → ¬ TbOk l := fun h1 h2 => h1 (ris_at h2.2.2 k hi)
      refine w_it (show L33w0 = _ by unfold L33w0; exact rfl) ?_
      repeat' first
       | refine r_nil ?_
       | refine th_n ?_
       | refine th_r ?_
       | refine ib_n ?_
       | refine ib_r ?_
       | refine w_seq ?_
       | refine w_reg ?_
       | refine w_ret ?_
       | refine w_skip ?_
       | refine w_block ?_
       | refine w_t (by simp (disch:=first|decide|(simp only[zF,zG,hnt, t0, t3, hg, ej];decide)) only [zA,zB,zC,zD,zE,zF,zG,zH,zI,zJ,zK,HV.cells,fl0,fl2,flS,flS1,flI1,flU1,flU2,flF,hnt, t0, t3, hg, ej]; first|done|exact rfl) ?_
       | refine w_f (by simp (disch:=first|decide|(simp only[zF,zG,hnt, t0, t3, hg, ej];decide)) only [zA,zB,zC,zD,zE,zF,zG,zH,zI,zJ,zK,HV.cells,fl0,fl2,flS,flS1,flI1,flU1,flU2,flF,hnt, t0, t3, hg, ej]; first|done|exact rfl) ?_
       | refine r_take (by simp (disch:=first|decide|(simp only[zF,zG,hnt, t0, t3, hg, ej];decide)) only [zA,zB,zC,zD,zE,zF,zG,zH,zI,zJ,zK,HV.cells,fl0,fl2,flS,flS1,flI1,flU1,flU2,flF,hnt, t0, t3, hg, ej]; first|done|exact rfl) ?_
       | refine r_drop (by simp (disch:=first|decide|(simp only[zF,zG,Bool.not_true,Bool.not_false,hnt, t0, t3, hg, ej];decide)) only [zA,zB,zC,zD,zE,zF,zG,zH,zI,zJ,zK,HV.cells,fl0,fl2,flS,flS1,flI1,flU1,flU2,flF,Bool.not_true,Bool.not_false,hnt, t0, t3, hg, ej]; first|done|exact rfl) ?_
       | refine r_dropu (by simp (disch:=first|decide|(simp only[zF,zG,hnt, t0, t3, hg, ej];decide)) only [zA,zB,zC,zD,zE,zF,zG,zH,zI,zJ,zK,HV.cells,fl0,fl2,flS,flS1,flI1,flU1,flU2,flF,hnt, t0, t3, hg, ej]; first|done|exact rfl) ?_
       | refine r_move (by simp (disch:=first|decide|(simp only[zF,zG,hnt, t0, t3, hg, ej];decide)) only [zA,zB,zC,zD,zE,zF,zG,zH,zI,zJ,zK,HV.cells,fl0,fl2,flS,flS1,flI1,flU1,flU2,flF,hnt, t0, t3, hg, ej]; try exact rfl) ?_
       | refine r_fa (by simp (disch:=first|decide|(simp only[zF,zG,hnt, t0, t3, hg, ej];decide)) only [zA,zB,zC,zD,zE,zF,zG,zH,zI,zJ,zK,HV.cells,fl0,fl2,flS,flS1,flI1,flU1,flU2,flF,hnt, t0, t3, hg, ej]; try exact rfl) ?_
       | refine r_ld1 (by simp (disch:=first|decide|(simp only[zF,zG,hnt, t0, t3, hg, ej];decide)) only [zA,zB,zC,zD,zE,zF,zG,zH,zI,zJ,zK,HV.cells,fl0,fl2,flS,flS1,flI1,flU1,flU2,flF,hnt, t0, t3, hg, ej]; try exact rfl) (by first|assumption|(simp (disch:=omega) only [get_same,get_other,hnt, t0, t3, hg, ej]; first|done|exact rfl)) (by first|assumption|exact ow2 _ _ _ _|exact ow3 _ _ _ _ _ _|rfl|(simp only [zI,zJ,HV.cells,hnt, t0, t3, hg, ej]; exact rfl)) ?_
       | refine r_add (by simp (disch:=first|decide|(simp only[zF,zG,hnt, t0, t3, hg, ej];decide)) only [zA,zB,zC,zD,zE,zF,zG,zH,zI,zJ,zK,HV.cells,fl0,fl2,flS,flS1,flI1,flU1,flU2,flF,hnt, t0, t3, hg, ej]; try exact rfl) (by simp (disch:=first|decide|(simp only[zF,zG,hnt, t0, t3, hg, ej];decide)) only [zA,zB,zC,zD,zE,zF,zG,zH,zI,zJ,zK,HV.cells,fl0,fl2,flS,flS1,flI1,flU1,flU2,flF,hnt, t0, t3, hg, ej]; try exact rfl) (by omega) (by omega) ?_
       | refine r_sub (by simp (disch:=first|decide|(simp only[zF,zG,hnt, t0, t3, hg, ej];decide)) only [zA,zB,zC,zD,zE,zF,zG,zH,zI,zJ,zK,HV.cells,fl0,fl2,flS,flS1,flI1,flU1,flU2,flF,hnt, t0, t3, hg, ej]; try exact rfl) (by simp (disch:=first|decide|(simp only[zF,zG,hnt, t0, t3, hg, ej];decide)) only [zA,zB,zC,zD,zE,zF,zG,zH,zI,zJ,zK,HV.cells,fl0,fl2,flS,flS1,flI1,flU1,flU2,flF,hnt, t0, t3, hg, ej]; try exact rfl) (by omega) (by omega) ?_
       | refine r_lss (by simp (disch:=first|decide|(simp only[zF,zG,hnt, t0, t3, hg, ej];decide)) only [zA,zB,zC,zD,zE,zF,zG,zH,zI,zJ,zK,HV.cells,fl0,fl2,flS,flS1,flI1,flU1,flU2,flF,hnt, t0, t3, hg, ej]; try exact rfl) (by simp (disch:=first|decide|(simp only[zF,zG,hnt, t0, t3, hg, ej];decide)) only [zA,zB,zC,zD,zE,zF,zG,zH,zI,zJ,zK,HV.cells,fl0,fl2,flS,flS1,flI1,flU1,flU2,flF,hnt, t0, t3, hg, ej]; try exact rfl) (fun hc => ?_) (fun hc => ?_) <;> (try (exfalso; omega))
       | refine r_leq (by simp (disch:=first|decide|(simp only[zF,zG,hnt, t0, t3, hg, ej];decide)) only [zA,zB,zC,zD,zE,zF,zG,zH,zI,zJ,zK,HV.cells,fl0,fl2,flS,flS1,flI1,flU1,flU2,flF,hnt, t0, t3, hg, ej]; try exact rfl) (by simp (disch:=first|decide|(simp only[zF,zG,hnt, t0, t3, hg, ej];decide)) only [zA,zB,zC,zD,zE,zF,zG,zH,zI,zJ,zK,HV.cells,fl0,fl2,flS,flS1,flI1,flU1,flU2,flF,hnt, t0, t3, hg, ej]; try exact rfl) (fun hc => ?_) (fun hc => ?_) <;> (try (exfalso; omega))
       | refine r_gtr (by simp (disch:=first|decide|(simp only[zF,zG,hnt, t0, t3, hg, ej];decide)) only [zA,zB,zC,zD,zE,zF,zG,zH,zI,zJ,zK,HV.cells,fl0,fl2,flS,flS1,flI1,flU1,flU2,flF,hnt, t0, t3, hg, ej]; try exact rfl) (by simp (disch:=first|decide|(simp only[zF,zG,hnt, t0, t3, hg, ej];decide)) only [zA,zB,zC,zD,zE,zF,zG,zH,zI,zJ,zK,HV.cells,fl0,fl2,flS,flS1,flI1,flU1,flU2,flF,hnt, t0, t3, hg, ej]; try exact rfl) (fun hc => ?_) (fun hc => ?_) <;> (try (exfalso; omega))
       | refine r_not1 (by simp (disch:=first|decide|(simp only[zF,zG,hnt, t0, t3, hg, ej];decide)) only [zA,zB,zC,zD,zE,zF,zG,zH,zI,zJ,zK,HV.cells,fl0,fl2,flS,flS1,flI1,flU1,flU2,flF,hnt, t0, t3, hg, ej]; try exact rfl) ?_
       | refine r_pt (by simp (disch:=first|decide|(simp only[zF,zG,hnt, t0, t3, hg, ej];decide)) only [zA,zB,zC,zD,zE,zF,zG,zH,zI,zJ,zK,HV.cells,fl0,fl2,flS,flS1,flI1,flU1,flU2,flF,hnt, t0, t3, hg, ej]; first|done|exact rfl) (by simp (disch:=first|decide|(simp only[zF,zG,hnt, t0, t3, hg, ej];decide)) only [zA,zB,zC,zD,zE,zF,zG,zH,zI,zJ,zK,HV.cells,fl0,fl2,flS,flS1,flI1,flU1,flU2,flF,hnt, t0, t3, hg, ej]; try exact rfl) ?_
       | refine r_pf (by simp (disch:=first|decide|(simp only[zF,zG,hnt, t0, t3, hg, ej];decide)) only [zA,zB,zC,zD,zE,zF,zG,zH,zI,zJ,zK,HV.cells,fl0,fl2,flS,flS1,flI1,flU1,flU2,flF,hnt, t0, t3, hg, ej]; first|done|exact rfl) (by simp (disch:=first|decide|(simp only[zF,zG,hnt, t0, t3, hg, ej];decide)) only [zA,zB,zC,zD,zE,zF,zG,zH,zI,zJ,zK,HV.cells,fl0,fl2,flS,flS1,flI1,flU1,flU2,flF,hnt, t0, t3, hg, ej]; try exact rfl) ?_
       | refine r_len (by simp (disch:=first|decide|(simp only[zF,zG,hnt, t0, t3, hg, ej];decide)) only [zA,zB,zC,zD,zE,zF,zG,zH,zI,zJ,zK,HV.cells,fl0,fl2,flS,flS1,flI1,flU1,flU2,flF,hnt, t0, t3, hg, ej]; try exact rfl) ?_
       | refine r_ixs (by simp (disch:=first|decide|(simp only[zF,zG,hnt, t0, t3, hg, ej];decide)) only [zA,zB,zC,zD,zE,zF,zG,zH,zI,zJ,zK,HV.cells,fl0,fl2,flS,flS1,flI1,flU1,flU2,flF,hnt, t0, t3, hg, ej]; try exact rfl) (by simp (disch:=first|decide|(simp only[zF,zG,hnt, t0, t3, hg, ej];decide)) only [zA,zB,zC,zD,zE,zF,zG,zH,zI,zJ,zK,HV.cells,fl0,fl2,flS,flS1,flI1,flU1,flU2,flF,hnt, t0, t3, hg, ej]; try exact rfl) (by omega) ?_
       | refine r_calld (by simp (disch:=first|decide|(simp only[zF,zG,hnt, t0, t3, hg, ej];decide)) only [zA,zB,zC,zD,zE,zF,zG,zH,zI,zJ,zK,HV.cells,fl0,fl2,flS,flS1,flI1,flU1,flU2,flF,hnt, t0, t3, hg, ej]; try exact rfl) (by simp (disch:=first|decide|(simp only[zF,zG,hnt, t0, t3, hg, ej];decide)) only [List.map_cons,List.map_nil,List.nil_append,List.cons_append,List.append_nil,zA,zB,zC,zD,zE,zF,zG,zH,zI,zJ,zK,HV.cells,fl0,fl2,flS,flS1,flI1,flU1,flU2,flF,hnt, t0, t3, hg, ej]; first|done|exact rfl) c_In (fun n' hn' hc => ?_) (fun n' hn' hc => ?_) <;> (try (exfalso; omega))
       | refine w_draw (by omega) (by (repeat' first|assumption|refine D.upd ?_ (by omega)|exact D.mono (by assumption) (by omega)) <;> fail) ?_
       | refine d_rest rfl ?_
       | refine d_one rfl ?_
       | refine d_next (by omega) ?_
       | fail
      have ek : ((k + 1 : Nat) : Int) + 1 = ((k + 2 : Nat) : Int) := by omega
      have el : ((k + 1 + 1 : Nat) : Int) = ((k + 2 : Nat) : Int) := by omega
      all_goals first
        | (refine hr _ _ _ (he.up (by omega)) (by first|exact nS (by unfold StOk; omega)|exact nP (by unfold Pre; omega)) ?_ ?_ ?_
           all_goals first|(simp only [zL,zM,zF,zG,hnt, hds];done)|(simp (disch:=first|decide|(simp only[zF,zG,hnt, hds];decide)) only [zA,zB,zC,zD,zE,zF,zG,zH,zI,zJ,zK,HV.cells,fl0,fl2,flS,flS1,flI1,flU1,flU2,flF,hnt, hds];first|done|exact rfl)|assumption)
        | (refine loop33 (cp := cp) hlen hfl hrow m (k + 1 + 1) _ _ _ (by omega) (he.up (by omega)) (good_next hG hi (by unfold StOk; omega) (fun j hj => by
            have e : j = k := by omega
            subst e
            unfold Pre
            omega)) ?_ ?_ ?_ ?_ hq hr
           · first|(simp only [zL,zM,zF,zG,hnt];done)|(simp (disch:=first|decide|(simp only[zF,zG,hnt];decide)) only [zA,zB,zC,zD,zE,zF,zG,zH,zI,zJ,zK,HV.cells,fl0,fl2,flS,flS1,flI1,flU1,flU2,flF,hnt];first|done|exact rfl)|assumption
           · first|(simp only [zL,zM,zF,zG,hnt, hds];done)|(simp (disch:=first|decide|(simp only[zF,zG,hnt, hds];decide)) only [zA,zB,zC,zD,zE,zF,zG,zH,zI,zJ,zK,HV.cells,fl0,fl2,flS,flS1,flI1,flU1,flU2,flF,hnt, hds];first|done|exact rfl)|assumption
           · first|(simp only [zL,zM,zF,zG,hnt, t0];done)|(simp (disch:=first|decide|(simp only[zF,zG,hnt, t0];decide)) only [zA,zB,zC,zD,zE,zF,zG,zH,zI,zJ,zK,HV.cells,fl0,fl2,flS,flS1,flI1,flU1,flU2,flF,hnt, t0];first|done|exact rfl)|assumption
           · exact Eq.trans (by simp (disch:=first|decide|(simp only[zF,zG,hnt];decide)) only [zA,zB,zC,zD,zE,zF,zG,zH,zI,zJ,zK,HV.cells,fl0,fl2,flS,flS1,flI1,flU1,flU2,flF,hnt]; try exact rfl) (congrArg i64 (by omega)))
/- 33 -/
theorem c_IsTable {fl : Nat} {h : Tr HBlk} {nx : Nat} (hd : D h nx) {p : Option (Nat × Nat)} {l : List (Int × Int)} {n cp : Nat} (hn : n = l.length) (hlen : l.length < 1000000000) (hrow : Row renc 2 h nx p l) :
    C LW fl 33 [.slice p n cp] ⟨h, nx⟩ (Sc (· = .bool (decide (TbOk l))) ⟨h, nx⟩) := by
  subst hn
  refine c_in lw33 rfl rfl rfl ?_
  dsimp only [L33]
  repeat' first
   | refine r_nil ?_
   | refine th_n ?_
   | refine w_seq ?_
   | refine w_reg ?_
   | refine w_block ?_
   | refine r_move (by simp (disch:=first|decide|(simp only[zF,zG];decide)) only [zA,zB,zC,zD,zE,zF,zG,zH,zI,zJ,zK,HV.cells,fl0,fl2,flS,flS1,flI1,flU1,flU2,flF]; try exact rfl) ?_
   | fail
  refine loop33 (cp := cp) hlen (Nat.le_refl _) hrow l.length 0 _ _ _ (by omega) (Ext.refl hd) ⟨fun j _ hj => by omega, fun j _ hj => by omega⟩ ?_ ?_ ?_ ?_ (fun a' h' n2 g1 g2 g3 g4 g5 => ?_) (fun a' h' n2 g1 g2 g3 g4 g5 => ?_)
  all_goals try first|(simp only [zL,zM,zF,zG];done)|(simp (disch:=first|decide|(simp only[zF,zG];decide)) only [zA,zB,zC,zD,zE,zF,zG,zH,zI,zJ,zK,HV.cells,fl0,fl2,flS,flS1,flI1,flU1,flU2,flF];first|done|exact rfl)|assumption
  · have hle := g1.le
    repeat' first
     | refine r_nil ?_
     | refine th_n ?_
     | refine w_seq ?_
     | refine w_reg ?_
     | refine w_ret ?_
     | refine r_move (by simp (disch:=first|decide|(simp only[zF,zG,g3, g5];decide)) only [zA,zB,zC,zD,zE,zF,zG,zH,zI,zJ,zK,HV.cells,fl0,fl2,flS,flS1,flI1,flU1,flU2,flF,g3, g5]; try exact rfl) ?_
     | refine r_geq (by simp (disch:=first|decide|(simp only[zF,zG,g3, g5];decide)) only [zA,zB,zC,zD,zE,zF,zG,zH,zI,zJ,zK,HV.cells,fl0,fl2,flS,flS1,flI1,flU1,flU2,flF,g3, g5]; try exact rfl) (by simp (disch:=first|decide|(simp only[zF,zG,g3, g5];decide)) only [zA,zB,zC,zD,zE,zF,zG,zH,zI,zJ,zK,HV.cells,fl0,fl2,flS,flS1,flI1,flU1,flU2,flF,g3, g5]; try exact rfl) (fun hc => ?_) (fun hc => ?_) <;> (try (exfalso; omega))
     | refine r_len (by simp (disch:=first|decide|(simp only[zF,zG,g3, g5];decide)) only [zA,zB,zC,zD,zE,zF,zG,zH,zI,zJ,zK,HV.cells,fl0,fl2,flS,flS1,flI1,flU1,flU2,flF,g3, g5]; try exact rfl) ?_
     | fail
    all_goals
      refine fin_r (by simp only [zL, zM, g4]) (by simp (disch:=first|decide|(simp only[zF,zG,g3];decide)) only [zA,zB,zC,zD,zE,zF,zG,zH,zI,zJ,zK,HV.cells,fl0,fl2,flS,flS1,flI1,flU1,flU2,flF,g3]; try exact rfl) (sc_flat rfl (by dsimp only; omega) ?_)
      first
        | rw [decide_eq_true ((good_tb g2).2 (by omega))]
        | rw [decide_eq_false (fun e => by have := (good_tb g2).1 e; omega)]
  · have hle := g1.le
    repeat' first
     | refine th_r ?_
     | fail
    refine fin_r (by simp only [zL, zM, g4]) (by simp (disch:=first|decide|(simp only[zF,zG,g3, g5];decide)) only [zA,zB,zC,zD,zE,zF,zG,zH,zI,zJ,zK,HV.cells,fl0,fl2,flS,flS1,flI1,flU1,flU2,flF,g3, g5]; try exact rfl) (sc_flat rfl (by dsimp only; omega) ?_)
    rw [decide_eq_false g2]
def Tbd (l : List (Int × Int)) (q : Int × Int) : Prop := l.length ≤ 8 ∧ TbOk l ∧ PrOk l q
instance (l : List (Int × Int)) (q : Int × Int) : Decidable (Tbd l q) := by unfold Tbd; infer_instance
/- 50 -/
theorem c_tabled {fl : Nat} {h : Tr HBlk} {nx : Nat} (hd : D h nx) {p : Option (Nat × Nat)} {l : List (Int × Int)} {n cp : Nat} {q : Int × Int} (hn : n = l.length) (hrow : Row renc 2 h nx p l) :
    C LW fl 50 [.slice p n cp, .agg (renc q)] ⟨h, nx⟩ (Sc (· = .bool (decide (Tbd l q))) ⟨h, nx⟩) := by
  subst hn
  refine c_in lw50 rfl rfl rfl ?_
  dsimp only [L50]
  by_cases h8 : l.length ≤ 8
  · have cI : ∀ fl h' n', Ext h nx h' n' → C LW fl 33 [.slice p l.length cp] ⟨h', n'⟩ (Sc (· = .bool (decide (TbOk l))) ⟨h', n'⟩) := fun fl h' n' e => c_IsTable e.d rfl (by omega) (hrow.ext e)
    by_cases ht : TbOk l
    · rw [decide_eq_true ht] at cI
      have h2 := ht.1
      have hrow1 := hrow
      obtain ⟨b, o, cs, kk, rfl, hb, hg, hcs⟩ := hrow (by intro e; rw [e] at h2; simp at h2)
      have e0 := take_at (hcs 0 _ (List.getElem?_eq_getElem (show 0 < l.length by omega))) (j := 0) (v := i64 l[0].1) rfl
      have e1 := take_at (hcs (l.length - 1) _ (List.getElem?_eq_getElem (show l.length - 1 < l.length by omega))) (j := 0) (v := i64 l[l.length - 1].1) rfl
      have ej : ((l.length : Nat) : Int) - 1 = ((l.length - 1 : Nat) : Int) := by omega
      have hL : pP l 0 = l[0].1 := pP_at (by omega)
      have hR : pP l (l.length - 1) = l[l.length - 1].1 := pP_at (by omega)
      have cS : ∀ fl h' n', C LW fl 34 [.agg (renc q), i64 l[0].1, i64 l[l.length - 1].1] ⟨h', n'⟩ (Sc (· = .bool (decide (PrOk l q))) ⟨h', n'⟩) := fun fl h' n' => by
        have := c_Span (fl := fl) (h := h') (nx := n') (a := q.1) (b := q.2) (lo := l[0].1) (hi := l[l.length - 1].1)
        rwa [show decide (l[0].1 ≤ q.1 ∧ q.1 ≤ q.2 ∧ q.2 ≤ l[l.length - 1].1) = decide (PrOk l q) by unfold PrOk; simp only [hL, hR]] at this
      repeat' first
       | refine r_nil ?_
       | refine th_n ?_
       | refine w_seq ?_
       | refine w_reg ?_
       | refine w_ret ?_
       | refine r_take (by simp (disch:=first|decide|(simp only[zF,zG,hg, ej];decide)) only [zA,zB,zC,zD,zE,zF,zG,zH,zI,zJ,zK,HV.cells,fl0,fl2,flS,flS1,flI1,flU1,flU2,flF,hg, ej]; first|done|exact rfl) ?_
       | refine r_move (by simp (disch:=first|decide|(simp only[zF,zG,hg, ej];decide)) only [zA,zB,zC,zD,zE,zF,zG,zH,zI,zJ,zK,HV.cells,fl0,fl2,flS,flS1,flI1,flU1,flU2,flF,hg, ej]; try exact rfl) ?_
       | refine r_fa (by simp (disch:=first|decide|(simp only[zF,zG,hg, ej];decide)) only [zA,zB,zC,zD,zE,zF,zG,zH,zI,zJ,zK,HV.cells,fl0,fl2,flS,flS1,flI1,flU1,flU2,flF,hg, ej]; try exact rfl) ?_
       | refine r_ld1 (by simp (disch:=first|decide|(simp only[zF,zG,hg, ej];decide)) only [zA,zB,zC,zD,zE,zF,zG,zH,zI,zJ,zK,HV.cells,fl0,fl2,flS,flS1,flI1,flU1,flU2,flF,hg, ej]; try exact rfl) (by first|assumption|(simp (disch:=omega) only [get_same,get_other,hg, ej]; first|done|exact rfl)) (by first|assumption|exact ow2 _ _ _ _|exact ow3 _ _ _ _ _ _|rfl|(simp only [zI,zJ,HV.cells,hg, ej]; exact rfl)) ?_
       | refine r_ldn (by simp (disch:=first|decide|(simp only[zF,zG,hg, ej];decide)) only [zA,zB,zC,zD,zE,zF,zG,zH,zI,zJ,zK,HV.cells,fl0,fl2,flS,flS1,flI1,flU1,flU2,flF,hg, ej]; try exact rfl) (by first|assumption|(simp (disch:=omega) only [get_same,get_other,hg, ej]; first|done|exact rfl)) (by first|assumption|exact ow2 _ _ _ _|exact ow3 _ _ _ _ _ _|rfl|(simp only [zI,zJ,HV.cells,hg, ej]; exact rfl)) ?_
       | refine r_box (by simp (disch:=first|decide|(simp only[zF,zG,hg, ej];decide)) only [zA,zB,zC,zD,zE,zF,zG,zH,zI,zJ,zK,HV.cells,fl0,fl2,flS,flS1,flI1,flU1,flU2,flF,hg, ej]; try exact rfl) ?_
       | refine r_sub (by simp (disch:=first|decide|(simp only[zF,zG,hg, ej];decide)) only [zA,zB,zC,zD,zE,zF,zG,zH,zI,zJ,zK,HV.cells,fl0,fl2,flS,flS1,flI1,flU1,flU2,flF,hg, ej]; try exact rfl) (by simp (disch:=first|decide|(simp only[zF,zG,hg, ej];decide)) only [zA,zB,zC,zD,zE,zF,zG,zH,zI,zJ,zK,HV.cells,fl0,fl2,flS,flS1,flI1,flU1,flU2,flF,hg, ej]; try exact rfl) (by omega) (by omega) ?_
       | refine r_leq (by simp (disch:=first|decide|(simp only[zF,zG,hg, ej];decide)) only [zA,zB,zC,zD,zE,zF,zG,zH,zI,zJ,zK,HV.cells,fl0,fl2,flS,flS1,flI1,flU1,flU2,flF,hg, ej]; try exact rfl) (by simp (disch:=first|decide|(simp only[zF,zG,hg, ej];decide)) only [zA,zB,zC,zD,zE,zF,zG,zH,zI,zJ,zK,HV.cells,fl0,fl2,flS,flS1,flI1,flU1,flU2,flF,hg, ej]; try exact rfl) (fun hc => ?_) (fun hc => ?_) <;> (try (exfalso; omega))
       | refine r_pt (by simp (disch:=first|decide|(simp only[zF,zG,hg, ej];decide)) only [zA,zB,zC,zD,zE,zF,zG,zH,zI,zJ,zK,HV.cells,fl0,fl2,flS,flS1,flI1,flU1,flU2,flF,hg, ej]; first|done|exact rfl) (by simp (disch:=first|decide|(simp only[zF,zG,hg, ej];decide)) only [zA,zB,zC,zD,zE,zF,zG,zH,zI,zJ,zK,HV.cells,fl0,fl2,flS,flS1,flI1,flU1,flU2,flF,hg, ej]; try exact rfl) ?_
       | refine r_len (by simp (disch:=first|decide|(simp only[zF,zG,hg, ej];decide)) only [zA,zB,zC,zD,zE,zF,zG,zH,zI,zJ,zK,HV.cells,fl0,fl2,flS,flS1,flI1,flU1,flU2,flF,hg, ej]; try exact rfl) ?_
       | refine r_ixs (by simp (disch:=first|decide|(simp only[zF,zG,hg, ej];decide)) only [zA,zB,zC,zD,zE,zF,zG,zH,zI,zJ,zK,HV.cells,fl0,fl2,flS,flS1,flI1,flU1,flU2,flF,hg, ej]; try exact rfl) (by simp (disch:=first|decide|(simp only[zF,zG,hg, ej];decide)) only [zA,zB,zC,zD,zE,zF,zG,zH,zI,zJ,zK,HV.cells,fl0,fl2,flS,flS1,flI1,flU1,flU2,flF,hg, ej]; try exact rfl) (by omega) ?_
       | refine r_calls (by simp (disch:=first|decide|(simp only[zF,zG,hg, ej];decide)) only [zA,zB,zC,zD,zE,zF,zG,zH,zI,zJ,zK,HV.cells,fl0,fl2,flS,flS1,flI1,flU1,flU2,flF,hg, ej]; try exact rfl) (by simp (disch:=first|decide|(simp only[zF,zG,hg, ej];decide)) only [List.map_cons,List.map_nil,List.nil_append,List.cons_append,List.append_nil,zA,zB,zC,zD,zE,zF,zG,zH,zI,zJ,zK,HV.cells,fl0,fl2,flS,flS1,flI1,flU1,flU2,flF,hg, ej]; first|done|exact rfl) (cI _ _ _ (by repeat' first|assumption|refine Ext.put ?_ (by omega) (by omega)|exact Ext.up (by assumption) (by omega)|exact Ext.nx (by assumption) (by omega))) (fun n' hn' => ?_)
       | refine r_ixs0 (by simp (disch:=first|decide|(simp only[zF,zG,hg, ej];decide)) only [zA,zB,zC,zD,zE,zF,zG,zH,zI,zJ,zK,HV.cells,fl0,fl2,flS,flS1,flI1,flU1,flU2,flF,hg, ej]; try exact rfl) (by omega) ?_
       | refine r_calls (by simp (disch:=first|decide|(simp only[zF,zG,hg, ej];decide)) only [zA,zB,zC,zD,zE,zF,zG,zH,zI,zJ,zK,HV.cells,fl0,fl2,flS,flS1,flI1,flU1,flU2,flF,hg, ej]; try exact rfl) (by simp (disch:=first|decide|(simp only[zF,zG,hg, ej];decide)) only [List.map_cons,List.map_nil,List.nil_append,List.cons_append,List.append_nil,zA,zB,zC,zD,zE,zF,zG,zH,zI,zJ,zK,HV.cells,fl0,fl2,flS,flS1,flI1,flU1,flU2,flF,hg, ej]; first|done|exact rfl) (cS _ _ _) (fun n' hn' => ?_)
       | refine w_draw (by omega) (by (repeat' first|assumption|refine D.upd ?_ (by omega)|exact D.mono (by assumption) (by omega)) <;> fail) ?_
       | refine d_rest rfl ?_
       | refine d_one rfl ?_
       | refine d_next (by omega) ?_
       | fail
      refine fin_r (by simp only [zL,zM]) (by simp (disch:=first|decide|(simp only[zF,zG];decide)) only [zA,zB,zC,zD,zE,zF,zG,zH,zI,zJ,zK,HV.cells,fl0,fl2,flS,flS1,flI1,flU1,flU2,flF]; try exact rfl) (sc_flat rfl (by dsimp only; omega) ?_)
      congr 1
      refine decide_eq_decide.2 ?_
      exact ⟨fun h => ⟨h8, ht, h⟩, fun h => h.2.2⟩
    · rw [decide_eq_false ht] at cI
      repeat' first
       | refine r_nil ?_
       | refine th_n ?_
       | refine w_seq ?_
       | refine w_reg ?_
       | refine w_ret ?_
       | refine r_take (by simp (disch:=first|decide|(simp only[zF,zG];decide)) only [zA,zB,zC,zD,zE,zF,zG,zH,zI,zJ,zK,HV.cells,fl0,fl2,flS,flS1,flI1,flU1,flU2,flF]; first|done|exact rfl) ?_
       | refine r_drop (by simp (disch:=first|decide|(simp only[zF,zG,Bool.not_true,Bool.not_false];decide)) only [zA,zB,zC,zD,zE,zF,zG,zH,zI,zJ,zK,HV.cells,fl0,fl2,flS,flS1,flI1,flU1,flU2,flF,Bool.not_true,Bool.not_false]; first|done|exact rfl) ?_
       | refine r_move (by simp (disch:=first|decide|(simp only[zF,zG];decide)) only [zA,zB,zC,zD,zE,zF,zG,zH,zI,zJ,zK,HV.cells,fl0,fl2,flS,flS1,flI1,flU1,flU2,flF]; try exact rfl) ?_
       | refine r_box (by simp (disch:=first|decide|(simp only[zF,zG];decide)) only [zA,zB,zC,zD,zE,zF,zG,zH,zI,zJ,zK,HV.cells,fl0,fl2,flS,flS1,flI1,flU1,flU2,flF]; try exact rfl) ?_
       | refine r_leq (by simp (disch:=first|decide|(simp only[zF,zG];decide)) only [zA,zB,zC,zD,zE,zF,zG,zH,zI,zJ,zK,HV.cells,fl0,fl2,flS,flS1,flI1,flU1,flU2,flF]; try exact rfl) (by simp (disch:=first|decide|(simp only[zF,zG];decide)) only [zA,zB,zC,zD,zE,zF,zG,zH,zI,zJ,zK,HV.cells,fl0,fl2,flS,flS1,flI1,flU1,flU2,flF]; try exact rfl) (fun hc => ?_) (fun hc => ?_) <;> (try (exfalso; omega))
       | refine r_pt (by simp (disch:=first|decide|(simp only[zF,zG];decide)) only [zA,zB,zC,zD,zE,zF,zG,zH,zI,zJ,zK,HV.cells,fl0,fl2,flS,flS1,flI1,flU1,flU2,flF]; first|done|exact rfl) (by simp (disch:=first|decide|(simp only[zF,zG];decide)) only [zA,zB,zC,zD,zE,zF,zG,zH,zI,zJ,zK,HV.cells,fl0,fl2,flS,flS1,flI1,flU1,flU2,flF]; try exact rfl) ?_
       | refine r_pf (by simp (disch:=first|decide|(simp only[zF,zG];decide)) only [zA,zB,zC,zD,zE,zF,zG,zH,zI,zJ,zK,HV.cells,fl0,fl2,flS,flS1,flI1,flU1,flU2,flF]; first|done|exact rfl) (by simp (disch:=first|decide|(simp only[zF,zG];decide)) only [zA,zB,zC,zD,zE,zF,zG,zH,zI,zJ,zK,HV.cells,fl0,fl2,flS,flS1,flI1,flU1,flU2,flF]; try exact rfl) ?_
       | refine r_len (by simp (disch:=first|decide|(simp only[zF,zG];decide)) only [zA,zB,zC,zD,zE,zF,zG,zH,zI,zJ,zK,HV.cells,fl0,fl2,flS,flS1,flI1,flU1,flU2,flF]; try exact rfl) ?_
       | refine r_calls (by simp (disch:=first|decide|(simp only[zF,zG];decide)) only [zA,zB,zC,zD,zE,zF,zG,zH,zI,zJ,zK,HV.cells,fl0,fl2,flS,flS1,flI1,flU1,flU2,flF]; try exact rfl) (by simp (disch:=first|decide|(simp only[zF,zG];decide)) only [List.map_cons,List.map_nil,List.nil_append,List.cons_append,List.append_nil,zA,zB,zC,zD,zE,zF,zG,zH,zI,zJ,zK,HV.cells,fl0,fl2,flS,flS1,flI1,flU1,flU2,flF]; first|done|exact rfl) (cI _ _ _ (by repeat' first|assumption|refine Ext.put ?_ (by omega) (by omega)|exact Ext.up (by assumption) (by omega)|exact Ext.nx (by assumption) (by omega))) (fun n' hn' => ?_)
       | refine w_draw (by omega) (by (repeat' first|assumption|refine D.upd ?_ (by omega)|exact D.mono (by assumption) (by omega)) <;> fail) ?_
       | refine d_rest rfl ?_
       | refine d_one rfl ?_
       | refine d_next (by omega) ?_
       | fail
      refine fin_r (by simp only [zL,zM]) (by simp (disch:=first|decide|(simp only[zF,zG];decide)) only [zA,zB,zC,zD,zE,zF,zG,zH,zI,zJ,zK,HV.cells,fl0,fl2,flS,flS1,flI1,flU1,flU2,flF]; try exact rfl) (sc_flat rfl (by dsimp only; omega) ?_)
      rw [decide_eq_false (fun e : Tbd l q => ht e.2.1)]
  · repeat' first
     | refine r_nil ?_
     | refine th_n ?_
     | refine w_seq ?_
     | refine w_reg ?_
     | refine w_ret ?_
     | refine r_drop (by simp (disch:=first|decide|(simp only[zF,zG,Bool.not_true,Bool.not_false];decide)) only [zA,zB,zC,zD,zE,zF,zG,zH,zI,zJ,zK,HV.cells,fl0,fl2,flS,flS1,flI1,flU1,flU2,flF,Bool.not_true,Bool.not_false]; first|done|exact rfl) ?_
     | refine r_move (by simp (disch:=first|decide|(simp only[zF,zG];decide)) only [zA,zB,zC,zD,zE,zF,zG,zH,zI,zJ,zK,HV.cells,fl0,fl2,flS,flS1,flI1,flU1,flU2,flF]; try exact rfl) ?_
     | refine r_box (by simp (disch:=first|decide|(simp only[zF,zG];decide)) only [zA,zB,zC,zD,zE,zF,zG,zH,zI,zJ,zK,HV.cells,fl0,fl2,flS,flS1,flI1,flU1,flU2,flF]; try exact rfl) ?_
     | refine r_leq (by simp (disch:=first|decide|(simp only[zF,zG];decide)) only [zA,zB,zC,zD,zE,zF,zG,zH,zI,zJ,zK,HV.cells,fl0,fl2,flS,flS1,flI1,flU1,flU2,flF]; try exact rfl) (by simp (disch:=first|decide|(simp only[zF,zG];decide)) only [zA,zB,zC,zD,zE,zF,zG,zH,zI,zJ,zK,HV.cells,fl0,fl2,flS,flS1,flI1,flU1,flU2,flF]; try exact rfl) (fun hc => ?_) (fun hc => ?_) <;> (try (exfalso; omega))
     | refine r_pf (by simp (disch:=first|decide|(simp only[zF,zG];decide)) only [zA,zB,zC,zD,zE,zF,zG,zH,zI,zJ,zK,HV.cells,fl0,fl2,flS,flS1,flI1,flU1,flU2,flF]; first|done|exact rfl) (by simp (disch:=first|decide|(simp only[zF,zG];decide)) only [zA,zB,zC,zD,zE,zF,zG,zH,zI,zJ,zK,HV.cells,fl0,fl2,flS,flS1,flI1,flU1,flU2,flF]; try exact rfl) ?_
     | refine r_len (by simp (disch:=first|decide|(simp only[zF,zG];decide)) only [zA,zB,zC,zD,zE,zF,zG,zH,zI,zJ,zK,HV.cells,fl0,fl2,flS,flS1,flI1,flU1,flU2,flF]; try exact rfl) ?_
     | refine w_draw (by omega) (by (repeat' first|assumption|refine D.upd ?_ (by omega)|exact D.mono (by assumption) (by omega)) <;> fail) ?_
     | refine d_rest rfl ?_
     | refine d_one rfl ?_
     | refine d_next (by omega) ?_
     | fail
    refine fin_r (by simp only [zL,zM]) (by simp (disch:=first|decide|(simp only[zF,zG];decide)) only [zA,zB,zC,zD,zE,zF,zG,zH,zI,zJ,zK,HV.cells,fl0,fl2,flS,flS1,flI1,flU1,flU2,flF]; try exact rfl) (sc_flat rfl (by dsimp only; omega) ?_)
    rw [decide_eq_false (fun e : Tbd l q => h8 e.1)]
end Go.Hx

/- Layer 3: the law of P3.12. -/
namespace Go.Hx
set_option linter.unusedSimpArgs false
set_option linter.unusedVariables false
set_option maxRecDepth 20000
set_option maxHeartbeats 4000000
attribute [local irreducible] W R C thenH inBlockH
--dropu
noncomputable def T13b : LCode := (.seq (.reg [⟨(.some 123), (.build [(.int .i64 0), (.int .i64 0)] [(0, (1, (.c (.int .i64 700)))), (1, (1, (.c (.int .i64 940))))]), .none, []⟩, ⟨(.some 124), (.build [(.int .i64 0), (.int .i64 0)] [(0, (1, (.c (.int .i64 760)))), (1, (1, (.c (.int .i64 1000))))]), .none, []⟩, ⟨(.some 125), (.buildSlice 2 [(.int .i64 0), (.int .i64 0)] [(0, (2, (.t 123))), (2, (2, (.t 124)))]), .none, []⟩, ⟨(.some 15), (.move (.t 125)), .none, []⟩]) (.seq (.draw 9 [⟨(.some 127), (.load .true 2 (.t 4)), .none, []⟩, ⟨(.some 128), (.call (.c (.func 17 [] [])) [(.t 127)]), .none, []⟩, ⟨(.some 129), (.load .true 2 (.t 7)), .none, []⟩, ⟨(.some 130), (.call (.c (.func 19 [] [])) [(.t 129)]), .none, [1]⟩, ⟨(.some 131), (.call (.c (.func 18 [] [])) [(.t 128), (.t 130)]), .none, [3, 1]⟩, ⟨(.some 126), (.move (.t 131)), .none, [4, 3, 1]⟩, ⟨(.some 132), (.extract (.t 126) 0), .none, [4, 3, 1]⟩, ⟨(.some 133), (.extract (.t 126) 1), .none, [4, 3, 1]⟩, ⟨(.some 16), (.alloc [(.int .i64 0), (.int .i64 0)]), .none, []⟩, ⟨.none, (.store 2 (.t 16) (.t 132)), .none, [8, 4, 3, 1]⟩, ⟨(.some 17), (.move (.t 133)), .none, [8, 4, 3, 1]⟩]) (.seq (.draw 11 [⟨(.some 135), (.load .true 2 (.t 4)), .none, []⟩, ⟨(.some 136), (.call (.c (.func 17 [] [])) [(.t 135)]), .none, []⟩, ⟨(.some 137), (.move (.t 15)), .none, []⟩, ⟨(.some 138), (.call (.c (.func 44 [] [])) [(.c (.int .i64 760)), (.c (.int .i64 760))]), .none, [1]⟩, ⟨(.some 139), (.load .true 2 (.t 7)), .none, []⟩, ⟨(.some 140), (.call (.c (.func 19 [] [])) [(.t 139)]), .none, [3, 1]⟩, ⟨(.some 141), (.call (.c (.func 32 [] [])) [(.t 136), (.t 137), (.t 138), (.t 140)]), .none, [5, 3, 1]⟩, ⟨(.some 134), (.move (.t 141)), .none, [6, 5, 3, 1]⟩, ⟨(.some 142), (.extract (.t 134) 0), .none, [6, 5, 3, 1]⟩, ⟨(.some 143), (.extract (.t 134) 1), .none, [6, 5, 3, 1]⟩, ⟨(.some 18), (.alloc [(.int .i64 0), (.int .i64 0)]), .none, []⟩, ⟨.none, (.store 2 (.t 18) (.t 142)), .none, [10, 6, 5, 3, 1]⟩, ⟨(.some 19), (.move (.t 143)), .none, [10, 6, 5, 3, 1]⟩]) (.seq (.reg [⟨(.some 144), (.move (.t 17)), .none, []⟩, ⟨(.some 145), (.eq (.cell (.i .i64)) .false (.t 144) (.c (.int .i64 0))), .none, []⟩, ⟨(.some 146), (.move (.t 145)), .none, []⟩, ⟨(.some 147), (.move (.t 19)), (.some (146, .true)), []⟩, ⟨(.some 148), (.eq (.cell (.i .i64)) .false (.t 147) (.c (.int .i64 0))), (.some (146, .true)), []⟩, ⟨(.some 149), (.pick (.t 146) (.t 148) (.c (.bool .false))), .none, []⟩, ⟨(.some 150), (.move (.t 149)), .none, []⟩, ⟨(.some 151), (.load .true 2 (.t 16)), (.some (150, .true)), []⟩, ⟨(.some 152), (.load .true 2 (.t 18)), (.some (150, .true)), []⟩, ⟨(.some 153), (.eq (.row [(.i .i64), (.i .i64)]) .false (.t 151) (.t 152)), (.some (150, .true)), []⟩, ⟨(.some 154), (.pick (.t 150) (.t 153) (.c (.bool .false))), .none, []⟩, ⟨(.some 155), (.move (.t 154)), .none, []⟩, ⟨(.some 156), (.call (.c (.func 22 [] [])) []), (.some (155, .true)), []⟩, ⟨(.some 157), (.pick (.t 155) (.t 156) (.c (.bool .false))), .none, []⟩, ⟨(.some 8), (.move (.t 157)), .none, []⟩]) .ret))))
noncomputable def T13c : LCode := (.seq (.draw 9 [⟨(.some 55), (.move (.t 1)), .none, []⟩, ⟨(.some 56), (.call (.c (.func 31 [] [])) [(.t 55)]), .none, []⟩, ⟨(.some 57), (.load .true 2 (.t 6)), .none, []⟩, ⟨(.some 58), (.call (.c (.func 19 [] [])) [(.t 57)]), .none, [1]⟩, ⟨(.some 59), (.call (.c (.func 30 [] [])) [(.t 56), (.t 58)]), .none, [3, 1]⟩, ⟨(.some 54), (.move (.t 59)), .none, [4, 3, 1]⟩, ⟨(.some 60), (.extract (.t 54) 0), .none, [4, 3, 1]⟩, ⟨(.some 61), (.extract (.t 54) 1), .none, [4, 3, 1]⟩, ⟨(.some 13), (.alloc [(.int .i64 0), (.int .i64 0)]), .none, []⟩, ⟨.none, (.store 2 (.t 13) (.t 60)), .none, [8, 4, 3, 1]⟩, ⟨(.some 14), (.move (.t 61)), .none, [8, 4, 3, 1]⟩]) (.seq (.seq (.draw 59 [⟨(.some 62), (.move (.t 10)), .none, []⟩, ⟨(.some 63), (.eq (.cell (.i .i64)) .true (.t 62) (.c (.int .i64 0))), .none, []⟩, ⟨(.some 64), (.move (.t 63)), .none, []⟩, ⟨(.some 65), (.move (.t 12)), (.some (64, .false)), []⟩, ⟨(.some 66), (.eq (.cell (.i .i64)) .true (.t 65) (.c (.int .i64 0))), (.some (64, .false)), []⟩, ⟨(.some 67), (.pick (.t 64) (.c (.bool .true)) (.t 66)), .none, []⟩, ⟨(.some 68), (.move (.t 67)), .none, []⟩, ⟨(.some 69), (.move (.t 14)), (.some (68, .false)), []⟩, ⟨(.some 70), (.eq (.cell (.i .i64)) .true (.t 69) (.c (.int .i64 0))), (.some (68, .false)), []⟩, ⟨(.some 71), (.pick (.t 68) (.c (.bool .true)) (.t 70)), .none, []⟩, ⟨(.some 72), (.move (.t 71)), .none, []⟩, ⟨(.some 73), (.fieldAddr 0 (.t 9)), (.some (72, .false)), []⟩, ⟨(.some 74), (.load .false 1 (.t 73)), (.some (72, .false)), []⟩, ⟨(.some 75), (.fieldAddr 1 (.t 9)), (.some (72, .false)), []⟩, ⟨(.some 76), (.load .false 1 (.t 75)), (.some (72, .false)), []⟩, ⟨(.some 77), (.eq (.cell (.i .i64)) .true (.t 74) (.t 76)), (.some (72, .false)), []⟩, ⟨(.some 78), (.pick (.t 72) (.c (.bool .true)) (.t 77)), .none, []⟩, ⟨(.some 79), (.move (.t 78)), .none, []⟩, ⟨(.some 80), (.fieldAddr 0 (.t 11)), (.some (79, .false)), []⟩, ⟨(.some 81), (.load .false 1 (.t 80)), (.some (79, .false)), []⟩, ⟨(.some 82), (.fieldAddr 1 (.t 11)), (.some (79, .false)), []⟩, ⟨(.some 83), (.load .false 1 (.t 82)), (.some (79, .false)), []⟩, ⟨(.some 84), (.eq (.cell (.i .i64)) .true (.t 81) (.t 83)), (.some (79, .false)), []⟩, ⟨(.some 85), (.pick (.t 79) (.c (.bool .true)) (.t 84)), .none, []⟩, ⟨(.some 86), (.move (.t 85)), .none, []⟩, ⟨(.some 87), (.fieldAddr 0 (.t 9)), (.some (86, .false)), []⟩, ⟨(.some 88), (.load .false 1 (.t 87)), (.some (86, .false)), []⟩, ⟨(.some 89), (.fieldAddr 0 (.t 11)), (.some (86, .false)), []⟩, ⟨(.some 90), (.load .false 1 (.t 89)), (.some (86, .false)), []⟩, ⟨(.some 91), (.bin .gtr (.t 88) (.t 90)), (.some (86, .false)), []⟩, ⟨(.some 92), (.pick (.t 86) (.c (.bool .true)) (.t 91)), .none, []⟩, ⟨(.some 93), (.move (.t 92)), .none, []⟩, ⟨(.some 94), (.load .true 2 (.t 13)), (.some (93, .false)), []⟩, ⟨(.some 95), (.fieldAddr 0 (.t 9)), (.some (93, .false)), []⟩, ⟨(.some 96), (.load .false 1 (.t 95)), (.some (93, .false)), []⟩, ⟨(.some 97), (.fieldAddr 0 (.t 11)), (.some (93, .false)), []⟩, ⟨(.some 98), (.load .false 1 (.t 97)), (.some (93, .false)), []⟩, ⟨(.some 99), (.call (.c (.func 44 [] [])) [(.t 96), (.t 98)]), (.some (93, .false)), []⟩, ⟨(.some 100), (.eq (.row [(.i .i64), (.i .i64)]) .true (.t 94) (.t 99)), (.some (93, .false)), [37]⟩, ⟨(.some 101), (.pick (.t 93) (.c (.bool .true)) (.t 100)), .none, [37]⟩, ⟨(.some 102), (.move (.t 101)), .none, [37]⟩, ⟨(.some 103), (.fieldAddr 0 (.t 9)), (.some (102, .false)), [37]⟩, ⟨(.some 104), (.load .false 1 (.t 103)), (.some (102, .false)), [37]⟩, ⟨(.some 105), (.move (.t 1)), (.some (102, .false)), [37]⟩, ⟨(.some 106), (.indexAddrS 2 (.t 105) (.c (.int .i64 0))), (.some (102, .false)), [37]⟩, ⟨(.some 107), (.fieldAddr 1 (.t 106)), (.some (102, .false)), [37]⟩, ⟨(.some 108), (.load .false 1 (.t 107)), (.some (102, .false)), [37]⟩, ⟨(.some 109), (.bin .lss (.t 104) (.t 108)), (.some (102, .false)), [37]⟩, ⟨(.some 110), (.pick (.t 102) (.c (.bool .true)) (.t 109)), .none, [37]⟩, ⟨(.some 111), (.move (.t 110)), .none, [37]⟩, ⟨(.some 112), (.fieldAddr 1 (.t 11)), (.some (111, .false)), [37]⟩, ⟨(.some 113), (.load .false 1 (.t 112)), (.some (111, .false)), [37]⟩, ⟨(.some 114), (.move (.t 1)), (.some (111, .false)), [37]⟩, ⟨(.some 115), (.move (.t 1)), (.some (111, .false)), [37]⟩, ⟨(.some 116), (.len .slice (.t 115)), (.some (111, .false)), [37]⟩, ⟨(.some 117), (.bin .sub (.t 116) (.c (.int .i64 1))), (.some (111, .false)), [37]⟩, ⟨(.some 118), (.indexAddrS 2 (.t 114) (.t 117)), (.some (111, .false)), [37]⟩, ⟨(.some 119), (.fieldAddr 1 (.t 118)), (.some (111, .false)), [37]⟩, ⟨(.some 120), (.load .false 1 (.t 119)), (.some (111, .false)), [37]⟩, ⟨(.some 121), (.bin .gtr (.t 113) (.t 120)), (.some (111, .false)), [37]⟩, ⟨(.some 122), (.pick (.t 111) (.c (.bool .true)) (.t 121)), .none, [37]⟩]) (.cond (.t 122) (.seq (.reg [⟨(.some 8), (.move (.c (.bool .false))), .none, []⟩]) .ret) .skip)) T13b))
noncomputable def T13d : LCode := (.seq (.draw 12 [⟨(.some 44), (.move (.t 1)), .none, []⟩, ⟨(.some 45), (.call (.c (.func 31 [] [])) [(.t 44)]), .none, []⟩, ⟨(.some 46), (.fieldAddr 1 (.t 6)), .none, []⟩, ⟨(.some 47), (.load .false 1 (.t 46)), .none, []⟩, ⟨(.some 48), (.fieldAddr 1 (.t 6)), .none, []⟩, ⟨(.some 49), (.load .false 1 (.t 48)), .none, []⟩, ⟨(.some 50), (.call (.c (.func 44 [] [])) [(.t 47), (.t 49)]), .none, [1]⟩, ⟨(.some 51), (.call (.c (.func 30 [] [])) [(.t 45), (.t 50)]), .none, [6, 1]⟩, ⟨(.some 43), (.move (.t 51)), .none, [7, 6, 1]⟩, ⟨(.some 52), (.extract (.t 43) 0), .none, [7, 6, 1]⟩, ⟨(.some 53), (.extract (.t 43) 1), .none, [7, 6, 1]⟩, ⟨(.some 11), (.alloc [(.int .i64 0), (.int .i64 0)]), .none, []⟩, ⟨.none, (.store 2 (.t 11) (.t 52)), .none, [11, 7, 6, 1]⟩, ⟨(.some 12), (.move (.t 53)), .none, [11, 7, 6, 1]⟩]) T13c)
noncomputable def T13e : LCode := (.seq (.draw 12 [⟨(.some 33), (.move (.t 1)), .none, []⟩, ⟨(.some 34), (.call (.c (.func 31 [] [])) [(.t 33)]), .none, []⟩, ⟨(.some 35), (.fieldAddr 0 (.t 6)), .none, []⟩, ⟨(.some 36), (.load .false 1 (.t 35)), .none, []⟩, ⟨(.some 37), (.fieldAddr 0 (.t 6)), .none, []⟩, ⟨(.some 38), (.load .false 1 (.t 37)), .none, []⟩, ⟨(.some 39), (.call (.c (.func 44 [] [])) [(.t 36), (.t 38)]), .none, [1]⟩, ⟨(.some 40), (.call (.c (.func 30 [] [])) [(.t 34), (.t 39)]), .none, [6, 1]⟩, ⟨(.some 32), (.move (.t 40)), .none, [7, 6, 1]⟩, ⟨(.some 41), (.extract (.t 32) 0), .none, [7, 6, 1]⟩, ⟨(.some 42), (.extract (.t 32) 1), .none, [7, 6, 1]⟩, ⟨(.some 9), (.alloc [(.int .i64 0), (.int .i64 0)]), .none, []⟩, ⟨.none, (.store 2 (.t 9) (.t 41)), .none, [11, 7, 6, 1]⟩, ⟨(.some 10), (.move (.t 42)), .none, [11, 7, 6, 1]⟩]) T13d)
noncomputable def H13 : LCode := (.seq (.reg [⟨(.some 4), (.box (.t 0)), .none, []⟩, ⟨(.some 6), (.box (.t 2)), .none, []⟩, ⟨(.some 7), (.box (.t 3)), .none, []⟩, ⟨(.some 8), (.move (.c (.bool .false))), .none, []⟩]) (.seq (.seq (.reg [⟨(.some 20), (.load .true 2 (.t 4)), .none, []⟩, ⟨(.some 21), (.buildSlice 1 [(.int .i64 0), (.int .i64 0)] [(0, (2, (.t 20)))]), .none, []⟩, ⟨(.some 22), (.load .true 2 (.t 7)), .none, []⟩, ⟨(.some 23), (.call (.c (.func 48 [] [])) [(.t 21), (.t 22)]), .none, []⟩, ⟨(.some 24), (.un .not (.t 23)), .none, []⟩, ⟨(.some 25), (.move (.t 24)), .none, []⟩, ⟨(.some 26), (.move (.t 1)), (.some (25, .false)), []⟩, ⟨(.some 27), (.load .true 2 (.t 6)), (.some (25, .false)), []⟩, ⟨(.some 28), (.call (.c (.func 50 [] [])) [(.t 26), (.t 27)]), (.some (25, .false)), []⟩, ⟨(.some 29), (.un .not (.t 28)), (.some (25, .false)), []⟩, ⟨(.some 30), (.pick (.t 25) (.c (.bool .true)) (.t 29)), .none, []⟩]) (.cond (.t 30) (.seq (.reg [⟨(.some 31), (.call (.c (.func 22 [] [])) []), .none, []⟩, ⟨(.some 8), (.move (.t 31)), .none, []⟩]) .ret) .skip)) T13e))
theorem l13_eq : L13 = ⟨158, H13, [.t 8], false, none⟩ := rfl
attribute [local irreducible] T13b T13c T13d T13e
theorem boi_even : boi [(700, 940), (760, 1000)] (760, 760) = ((1000, 1000), 0) := by decide
theorem cor_even {s r : Int × Int} (h : chkR [s] r = 0) : cor s [(700, 940), (760, 1000)] (760, 760) r = (tru s (1000, 1000) r, 0) := by
  unfold cor
  rw [if_pos (show chkT [(700, 940), (760, 1000)] = 0 by decide), if_pos h, boi_even, if_pos rfl]
/-- The even table, and what is right there. -/
/- 13 -/
theorem rest13b {fl : Nat} {h0 : Tr HBlk} {n0 : Nat} {h : Tr HBlk} {nx : Nat} {a : HAct} {s r : Int × Int} (he : Ext h0 n0 h nx) (hfl : fl ≤ n0) (hc : chkR [s] r = 0) (b4 : n0 < nx) (b7 : n0 + 1 + 1 < nx) (g4 : h.get n0 = some (.cells (renc s) .exact)) (g7 : h.get (n0 + 1 + 1) = some (.cells (renc r) .exact))
    (hnt : a.nt = 158) (hds : a.defers = []) (h4 : a.tmp 4 = .ptr (some (n0, 0))) (h7 : a.tmp 7 = .ptr (some (n0 + 1 + 1, 0))) :
    W LW fl none T13b (Fin ⟨h0, n0⟩ [.t 8] (Sc (· = .bool true) ⟨h0, n0⟩)) a ⟨h, nx⟩ := by
  have hd := he.d
  have hle := he.le
  have cE : ∀ fl h' n' b k, D h' n' → b < n' → h'.get b = some (.cells [i64 700, i64 940, i64 760, i64 1000] k) → C LW fl 32 [.agg (renc s), .slice (some (b, 0)) 2 2, .agg [i64 760, i64 760], .agg (renc r)] ⟨h', n'⟩ (Sc (· = .tuple [.agg (renc (tru s (1000, 1000) r)), i64 0]) ⟨h', n'⟩) := fun fl h' n' b k e hb hg => by
    have := c_Corrected (fl := fl) e (l := [(700, 940), (760, 1000)]) (s := s) (q := (760, 760)) (r := r) (n := 2) (cp := 2) rfl (by simp) (by simp) (row_flat (k := k) renc_len hb (by rw [hg]; rfl))
    rwa [cor_even hc] at this
  have cH : ∀ fl h' n', D h' n' → C LW fl 18 [.agg (renc s), .agg (renc r)] ⟨h', n'⟩ (Sc (· = .tuple [.agg (renc (tru s (1000, 1000) r)), i64 0]) ⟨h', n'⟩) := fun fl h' n' e => by
    have := c_Heights (fl := fl) e (s := s) (r := r)
    rwa [show hei s r = (tru s (1000, 1000) r, 0) from if_pos hc] at this
  obtain ⟨u, hu⟩ : ∃ x, x = tru s (1000, 1000) r := ⟨_, rfl⟩
  rw [← hu] at cE cH
  unfold T13b
  repeat' first
   | refine r_nil ?_
   | refine th_n ?_
   | refine w_seq ?_
   | refine w_reg ?_
   | refine w_ret ?_
   | refine r_take (by simp (disch:=first|decide|(simp only[zF,zG,hnt, h4, h7, g4, g7];decide)) only [zA,zB,zC,zD,zE,zF,zG,zH,zI,zJ,zK,HV.cells,fl0,fl2,flS,flS1,flI1,flU1,flU2,flF,hnt, h4, h7, g4, g7]; first|done|exact rfl) ?_
   | refine r_move (by simp (disch:=first|decide|(simp only[zF,zG,hnt, h4, h7, g4, g7];decide)) only [zA,zB,zC,zD,zE,zF,zG,zH,zI,zJ,zK,HV.cells,fl0,fl2,flS,flS1,flI1,flU1,flU2,flF,hnt, h4, h7, g4, g7]; try exact rfl) ?_
   | refine r_ldn (by simp (disch:=first|decide|(simp only[zF,zG,hnt, h4, h7, g4, g7];decide)) only [zA,zB,zC,zD,zE,zF,zG,zH,zI,zJ,zK,HV.cells,fl0,fl2,flS,flS1,flI1,flU1,flU2,flF,hnt, h4, h7, g4, g7]; try exact rfl) (by first|assumption|(simp (disch:=omega) only [get_same,get_other,hnt, h4, h7, g4, g7]; first|done|exact rfl)) (by first|assumption|exact ow2 _ _ _ _|exact ow3 _ _ _ _ _ _|rfl|(simp only [zI,zJ,HV.cells,hnt, h4, h7, g4, g7]; exact rfl)) ?_
   | refine r_alloc ?_
   | refine r_st (cs' := _) (by simp (disch:=first|decide|(simp only[zF,zG,hnt, h4, h7, g4, g7];decide)) only [zA,zB,zC,zD,zE,zF,zG,zH,zI,zJ,zK,HV.cells,fl0,fl2,flS,flS1,flI1,flU1,flU2,flF,hnt, h4, h7, g4, g7]; try exact rfl) (by simp (disch:=first|decide|(simp only[zF,zG,hnt, h4, h7, g4, g7];decide)) only [zA,zB,zC,zD,zE,zF,zG,zH,zI,zJ,zK,HV.cells,fl0,fl2,flS,flS1,flI1,flU1,flU2,flF,hnt, h4, h7, g4, g7]; try exact rfl) (by first|assumption|(simp (disch:=omega) only [get_same,get_other,hnt, h4, h7, g4, g7]; first|done|exact rfl)) (by exact True.intro) (by rfl) (by rfl) (by first|assumption|exact ow2 _ _ _ _|exact ow3 _ _ _ _ _ _|rfl|(simp only [zI,zJ,HV.cells,hnt, h4, h7, g4, g7]; exact rfl)) (by omega) ?_
   | refine r_eq (by simp (disch:=first|decide|(simp only[zF,zG,hnt, h4, h7, g4, g7];decide)) only [zA,zB,zC,zD,zE,zF,zG,zH,zI,zJ,zK,HV.cells,fl0,fl2,flS,flS1,flI1,flU1,flU2,flF,hnt, h4, h7, g4, g7]; try exact rfl) (by simp (disch:=first|decide|(simp only[zF,zG,hnt, h4, h7, g4, g7];decide)) only [zA,zB,zC,zD,zE,zF,zG,zH,zI,zJ,zK,HV.cells,fl0,fl2,flS,flS1,flI1,flU1,flU2,flF,hnt, h4, h7, g4, g7]; try exact rfl) (fun hc => ?_) (fun hc => ?_) <;> (try (exfalso; omega))
   | refine r_eqp (by simp (disch:=first|decide|(simp only[zF,zG,hnt, h4, h7, g4, g7];decide)) only [zA,zB,zC,zD,zE,zF,zG,zH,zI,zJ,zK,HV.cells,fl0,fl2,flS,flS1,flI1,flU1,flU2,flF,hnt, h4, h7, g4, g7]; try exact rfl) (by simp (disch:=first|decide|(simp only[zF,zG,hnt, h4, h7, g4, g7];decide)) only [zA,zB,zC,zD,zE,zF,zG,zH,zI,zJ,zK,HV.cells,fl0,fl2,flS,flS1,flI1,flU1,flU2,flF,hnt, h4, h7, g4, g7]; try exact rfl) (fun hc => ?_) (fun hc => ?_) <;> (try (exfalso; omega))
   | refine r_pt (by simp (disch:=first|decide|(simp only[zF,zG,hnt, h4, h7, g4, g7];decide)) only [zA,zB,zC,zD,zE,zF,zG,zH,zI,zJ,zK,HV.cells,fl0,fl2,flS,flS1,flI1,flU1,flU2,flF,hnt, h4, h7, g4, g7]; first|done|exact rfl) (by simp (disch:=first|decide|(simp only[zF,zG,hnt, h4, h7, g4, g7];decide)) only [zA,zB,zC,zD,zE,zF,zG,zH,zI,zJ,zK,HV.cells,fl0,fl2,flS,flS1,flI1,flU1,flU2,flF,hnt, h4, h7, g4, g7]; try exact rfl) ?_
   | refine r_ext (by simp (disch:=first|decide|(simp only[zF,zG,hnt, h4, h7, g4, g7];decide)) only [zA,zB,zC,zD,zE,zF,zG,zH,zI,zJ,zK,HV.cells,fl0,fl2,flS,flS1,flI1,flU1,flU2,flF,hnt, h4, h7, g4, g7]; try exact rfl) (by first|assumption|exact ow2 _ _ _ _|exact ow3 _ _ _ _ _ _|rfl|(simp only [zI,zJ,HV.cells,hnt, h4, h7, g4, g7]; exact rfl)) ?_
   | refine r_build (by simp (disch:=first|decide|(simp only[zF,zG,hnt, h4, h7, g4, g7];decide)) only [evParts,List.map_cons,List.map_nil,List.nil_append,List.cons_append,List.append_nil,zA,zB,zC,zD,zE,zF,zG,zH,zI,zJ,zK,HV.cells,fl0,fl2,flS,flS1,flI1,flU1,flU2,flF,hnt, h4, h7, g4, g7]; try exact rfl) ?_
   | refine r_bs (by simp (disch:=first|decide|(simp only[zF,zG,hnt, h4, h7, g4, g7];decide)) only [evParts,List.map_cons,List.map_nil,List.nil_append,List.cons_append,List.append_nil,zA,zB,zC,zD,zE,zF,zG,zH,zI,zJ,zK,HV.cells,fl0,fl2,flS,flS1,flI1,flU1,flU2,flF,hnt, h4, h7, g4, g7]; try exact rfl) ?_
   | refine r_calls (by simp (disch:=first|decide|(simp only[zF,zG,hnt, h4, h7, g4, g7];decide)) only [zA,zB,zC,zD,zE,zF,zG,zH,zI,zJ,zK,HV.cells,fl0,fl2,flS,flS1,flI1,flU1,flU2,flF,hnt, h4, h7, g4, g7]; try exact rfl) (by simp (disch:=first|decide|(simp only[zF,zG,hnt, h4, h7, g4, g7];decide)) only [List.map_cons,List.map_nil,List.nil_append,List.cons_append,List.append_nil,zA,zB,zC,zD,zE,zF,zG,zH,zI,zJ,zK,HV.cells,fl0,fl2,flS,flS1,flI1,flU1,flU2,flF,hnt, h4, h7, g4, g7]; first|done|exact rfl) c_Scale (fun n' hn' => ?_)
   | refine r_calls (by simp (disch:=first|decide|(simp only[zF,zG,hnt, h4, h7, g4, g7];decide)) only [zA,zB,zC,zD,zE,zF,zG,zH,zI,zJ,zK,HV.cells,fl0,fl2,flS,flS1,flI1,flU1,flU2,flF,hnt, h4, h7, g4, g7]; try exact rfl) (by simp (disch:=first|decide|(simp only[zF,zG,hnt, h4, h7, g4, g7];decide)) only [List.map_cons,List.map_nil,List.nil_append,List.cons_append,List.append_nil,zA,zB,zC,zD,zE,zF,zG,zH,zI,zJ,zK,HV.cells,fl0,fl2,flS,flS1,flI1,flU1,flU2,flF,hnt, h4, h7, g4, g7]; first|done|exact rfl) c_to (fun n' hn' => ?_)
   | refine r_calls (by simp (disch:=first|decide|(simp only[zF,zG,hnt, h4, h7, g4, g7];decide)) only [zA,zB,zC,zD,zE,zF,zG,zH,zI,zJ,zK,HV.cells,fl0,fl2,flS,flS1,flI1,flU1,flU2,flF,hnt, h4, h7, g4, g7]; try exact rfl) (by simp (disch:=first|decide|(simp only[zF,zG,hnt, h4, h7, g4, g7];decide)) only [List.map_cons,List.map_nil,List.nil_append,List.cons_append,List.append_nil,zA,zB,zC,zD,zE,zF,zG,zH,zI,zJ,zK,HV.cells,fl0,fl2,flS,flS1,flI1,flU1,flU2,flF,hnt, h4, h7, g4, g7]; first|done|exact rfl) c_between (fun n' hn' => ?_)
   | refine r_calls (by simp (disch:=first|decide|(simp only[zF,zG,hnt, h4, h7, g4, g7];decide)) only [zA,zB,zC,zD,zE,zF,zG,zH,zI,zJ,zK,HV.cells,fl0,fl2,flS,flS1,flI1,flU1,flU2,flF,hnt, h4, h7, g4, g7]; try exact rfl) (by simp (disch:=first|decide|(simp only[zF,zG,hnt, h4, h7, g4, g7];decide)) only [List.map_cons,List.map_nil,List.nil_append,List.cons_append,List.append_nil,zA,zB,zC,zD,zE,zF,zG,zH,zI,zJ,zK,HV.cells,fl0,fl2,flS,flS1,flI1,flU1,flU2,flF,hnt, h4, h7, g4, g7]; first|done|exact rfl) (cH _ _ _ (by (repeat' first|assumption|refine D.upd ?_ (by omega)|exact D.mono (by assumption) (by omega)) <;> fail)) (fun n' hn' => ?_)
   | refine r_calls (by simp (disch:=first|decide|(simp only[zF,zG,hnt, h4, h7, g4, g7];decide)) only [zA,zB,zC,zD,zE,zF,zG,zH,zI,zJ,zK,HV.cells,fl0,fl2,flS,flS1,flI1,flU1,flU2,flF,hnt, h4, h7, g4, g7]; try exact rfl) (by simp (disch:=first|decide|(simp only[zF,zG,hnt, h4, h7, g4, g7];decide)) only [List.map_cons,List.map_nil,List.nil_append,List.cons_append,List.append_nil,zA,zB,zC,zD,zE,zF,zG,zH,zI,zJ,zK,HV.cells,fl0,fl2,flS,flS1,flI1,flU1,flU2,flF,hnt, h4, h7, g4, g7]; first|done|exact rfl) (cE _ _ _ _ _ (by (repeat' first|assumption|refine D.upd ?_ (by omega)|exact D.mono (by assumption) (by omega)) <;> fail) (by omega) (by first|assumption|(simp (disch:=omega) only [get_same,get_other,hnt, h4, h7, g4, g7]; first|done|exact rfl))) (fun n' hn' => ?_)
   | refine r_calls (by simp (disch:=first|decide|(simp only[zF,zG,hnt, h4, h7, g4, g7];decide)) only [zA,zB,zC,zD,zE,zF,zG,zH,zI,zJ,zK,HV.cells,fl0,fl2,flS,flS1,flI1,flU1,flU2,flF,hnt, h4, h7, g4, g7]; try exact rfl) (by simp (disch:=first|decide|(simp only[zF,zG,hnt, h4, h7, g4, g7];decide)) only [List.map_cons,List.map_nil,List.nil_append,List.cons_append,List.append_nil,zA,zB,zC,zD,zE,zF,zG,zH,zI,zJ,zK,HV.cells,fl0,fl2,flS,flS1,flI1,flU1,flU2,flF,hnt, h4, h7, g4, g7]; first|done|exact rfl) c_wakes (fun n' hn' => ?_)
   | refine w_drawg (by omega) ?_
   | refine g_end rfl (by simp (disch:=decide) only [mg_nil,mg_all,mg_in,mg_out,ad_nil,ad_cons]; try exact rfl) ?_
   | refine x_step rfl (by simp (disch:=decide) only [mg_nil,mg_all,mg_in,mg_out,ad_nil,ad_cons]; try exact rfl) ?_
   | refine x_same ?_
   | refine x_new ?_
   | refine x_call (by omega) (by (repeat' first|assumption|refine D.upd ?_ (by omega)|exact D.mono (by assumption) (by omega)) <;> fail) ?_
   | fail
  all_goals (refine fin_r (by simp only [zL, zM, hds]) (by simp (disch:=first|decide|(simp only[zF,zG,hnt];decide)) only [zA,zB,zC,zD,zE,zF,zG,zH,zI,zJ,zK,HV.cells,fl0,fl2,flS,flS1,flI1,flU1,flU2,flF,hnt]; try exact rfl) (sc_flat rfl (by dsimp only; omega) ?_); rfl)
theorem boi_ok {l : List (Int × Int)} {q q' : Int × Int} (hT : Tbd l q) (h : PrOk l q') : boi l q' = ((stp l q'.1, stp l q'.2), 0) := by
  unfold boi
  rw [if_pos (show chkT l = 0 by unfold chkT; rw [if_pos hT.1, if_pos hT.2.1]), if_pos h]
/- 13 -/
theorem rest13c {fl : Nat} {h0 : Tr HBlk} {n0 x9 x11 : Nat} {h : Tr HBlk} {nx : Nat} {a : HAct} {s q r : Int × Int} {l : List (Int × Int)} {p : Option (Nat × Nat)} {cp : Nat} (he : Ext h0 n0 h nx) (hfl : fl ≤ n0) (hck : chkR [s] r = 0) (hT : Tbd l q) (hrow : Row renc 2 h0 n0 p l) (b7 : n0 + 1 + 1 < nx) (g4 : h.get n0 = some (.cells (renc s) .exact)) (g6 : h.get (n0 + 1) = some (.cells (renc q) .exact)) (g7 : h.get (n0 + 1 + 1) = some (.cells (renc r) .exact))
    (hnt : a.nt = 158) (hds : a.defers = []) (h1 : a.tmp 1 = .slice p l.length cp) (h4 : a.tmp 4 = .ptr (some (n0, 0))) (h6 : a.tmp 6 = .ptr (some (n0 + 1, 0))) (h7 : a.tmp 7 = .ptr (some (n0 + 1 + 1, 0))) (b9 : n0 + 1 + 1 < x9 ∧ x9 < nx) (g9 : h.get x9 = some (.cells [i64 (stp l q.1), i64 (stp l q.1)] .exact)) (h9 : a.tmp 9 = .ptr (some (x9, 0))) (h10 : a.tmp 10 = i64 0) (b11 : n0 + 1 + 1 < x11 ∧ x11 < nx) (g11 : h.get x11 = some (.cells [i64 (stp l q.2), i64 (stp l q.2)] .exact)) (h11 : a.tmp 11 = .ptr (some (x11, 0))) (h12 : a.tmp 12 = i64 0) :
    W LW fl none T13c (Fin ⟨h0, n0⟩ [.t 8] (Sc (· = .bool true) ⟨h0, n0⟩)) a ⟨h, nx⟩ := by
  have hd := he.d
  have hle := he.le
  obtain ⟨hl8, ht, hP⟩ := id hT
  obtain ⟨k1, k2, k3⟩ := id hP
  have l2 := ht.1
  have cA := stp_bd ht k1 (by omega)
  have cC := stp_bd ht (x := q.2) (by omega) k3
  have cM : stp l q.1 ≤ stp l q.2 := stg_mono (up_tb ht) l2 k1 k2 k3
  rw [pH_at (show 0 < l.length by omega), pH_at (show l.length - 1 < l.length by omega)] at cA cC
  obtain ⟨b, o, cs, kk, rfl, hb, hg0, hcs⟩ := id (hrow (by intro e; rw [e] at l2; simp at l2))
  have hg := (he.same b hb).trans hg0
  have e0 := take_at (hcs 0 _ (List.getElem?_eq_getElem (show 0 < l.length by omega))) (j := 1) (v := i64 l[0].2) rfl
  have e1 := take_at (hcs (l.length - 1) _ (List.getElem?_eq_getElem (show l.length - 1 < l.length by omega))) (j := 1) (v := i64 l[l.length - 1].2) rfl
  have ej : ((l.length : Nat) : Int) - 1 = ((l.length - 1 : Nat) : Int) := by omega
  have hP' := hP
  unfold PrOk at hP'
  have hl2 := ht.1
  have hne : l ≠ [] := by intro e; rw [e] at hl2; simp at hl2
  unfold T13c
  repeat' first
   | refine r_nil ?_
   | refine w_seq ?_
   | refine r_move (by simp (disch:=first|decide|(simp only[zF,zG,hnt, h1, h4, h6, h7, g4, g6, g7, h9, h10, h11, h12, g9, g11];decide)) only [zA,zB,zC,zD,zE,zF,zG,zH,zI,zJ,zK,HV.cells,fl0,fl2,flS,flS1,flI1,flU1,flU2,flF,hnt, h1, h4, h6, h7, g4, g6, g7, h9, h10, h11, h12, g9, g11]; try exact rfl) ?_
   | refine w_drawg (by omega) ?_
   | refine x_step rfl (by simp (disch:=decide) only [mg_nil,mg_all,mg_in,mg_out,ad_nil,ad_cons]; try exact rfl) ?_
   | refine x_same ?_
   | fail
  refine r_callc (by simp (disch:=first|decide|(simp only[zF,zG,hnt, h1];decide)) only [zA,zB,zC,zD,zE,zF,zG,zH,zI,zJ,zK,HV.cells,fl0,fl2,flS,flS1,flI1,flU1,flU2,flF,hnt, h1]; try exact rfl) (by simp (disch:=first|decide|(simp only[zF,zG,hnt, h1];decide)) only [List.map_cons,List.map_nil,List.nil_append,List.cons_append,List.append_nil,zA,zB,zC,zD,zE,zF,zG,zH,zI,zJ,zK,HV.cells,fl0,fl2,flS,flS1,flI1,flU1,flU2,flF,hnt, h1]; try exact rfl) (c_Table (l := l) (cp := cp) (by (repeat' first|assumption|refine D.upd ?_ (by omega)|exact D.mono (by assumption) (by omega)) <;> fail) rfl (by omega) ((hrow.ext he).ext (by repeat' first|assumption|refine Ext.put ?_ (by omega) (by omega)|exact Ext.up (by assumption) (by omega)|exact Ext.nx (by assumption) (by omega)))) ?_
  rintro v σ ⟨ps, h2, n2, rfl, rfl, e2, hp⟩
  obtain ⟨bs, hb1, hb2, rfl, ks, hbs⟩ := hp hne
  have hle2 := e2.le
  refine r_nil ?_
  refine x_ext e2 (fun L aL1 aL2 aL3 => ?_)
  have aX : ∀ g, (addAll g L).get bs = some (.cells (l.flatMap renc) ks) := fun g => aL2 g bs _ hb1 hbs
  have aLa : ∀ g b, b < nx → (addAll g L).get b = g.get b := fun g b hb => aL1 g b (.inl (by omega))
  have aLb : ∀ g b, n2 ≤ b → (addAll g L).get b = g.get b := fun g b hb => aL1 g b (.inr hb)
  have aE : ∀ g n', n2 ≤ n' → D g n' → (∀ b, b < nx → g.get b = h.get b) → Ext h nx (addAll g L) n' := fun g n' hn hg hs => ⟨by omega, aL3 g n' hn hg, fun b hb => (aLa g b (by omega)).trans (hs b hb)⟩
  have cB : ∀ fl g n', n2 ≤ n' → D g n' → C LW fl 30 [.slice (some (bs, 0)) l.length l.length, .agg [i64 q.1, i64 q.2]] ⟨addAll g L, n'⟩ (Sc (· = .tuple [.agg [i64 (stp l q.1), i64 (stp l q.2)], i64 0]) ⟨addAll g L, n'⟩) := fun fl g n' hn e => by
    have := c_Boils (fl := fl) (aL3 g n' hn e) (l := l) (q := q) (cp := l.length) rfl (Nat.le_refl _) (by omega) (row_flat (k := ks) renc_len (by omega) (aX g))
    rwa [boi_ok hT (q' := q) (by unfold PrOk; (try dsimp only); omega)] at this
  repeat' first
   | refine r_nil ?_
   | refine th_n ?_
   | refine w_seq ?_
   | refine w_skip ?_
   | refine w_f (by simp (disch:=first|decide|(simp only[zF,zG,hnt, h1, h4, h6, h7, g4, g6, g7, h9, h10, h11, h12, g9, g11, hg, ej, aLa, aLb];decide)) only [zA,zB,zC,zD,zE,zF,zG,zH,zI,zJ,zK,HV.cells,fl0,fl2,flS,flS1,flI1,flU1,flU2,flF,hnt, h1, h4, h6, h7, g4, g6, g7, h9, h10, h11, h12, g9, g11, hg, ej, aLa, aLb]; first|done|exact rfl) ?_
   | refine r_take (by simp (disch:=first|decide|(simp only[zF,zG,hnt, h1, h4, h6, h7, g4, g6, g7, h9, h10, h11, h12, g9, g11, hg, ej, aLa, aLb];decide)) only [zA,zB,zC,zD,zE,zF,zG,zH,zI,zJ,zK,HV.cells,fl0,fl2,flS,flS1,flI1,flU1,flU2,flF,hnt, h1, h4, h6, h7, g4, g6, g7, h9, h10, h11, h12, g9, g11, hg, ej, aLa, aLb]; first|done|exact rfl) ?_
   | refine r_move (by simp (disch:=first|decide|(simp only[zF,zG,hnt, h1, h4, h6, h7, g4, g6, g7, h9, h10, h11, h12, g9, g11, hg, ej, aLa, aLb];decide)) only [zA,zB,zC,zD,zE,zF,zG,zH,zI,zJ,zK,HV.cells,fl0,fl2,flS,flS1,flI1,flU1,flU2,flF,hnt, h1, h4, h6, h7, g4, g6, g7, h9, h10, h11, h12, g9, g11, hg, ej, aLa, aLb]; try exact rfl) ?_
   | refine r_fa (by simp (disch:=first|decide|(simp only[zF,zG,hnt, h1, h4, h6, h7, g4, g6, g7, h9, h10, h11, h12, g9, g11, hg, ej, aLa, aLb];decide)) only [zA,zB,zC,zD,zE,zF,zG,zH,zI,zJ,zK,HV.cells,fl0,fl2,flS,flS1,flI1,flU1,flU2,flF,hnt, h1, h4, h6, h7, g4, g6, g7, h9, h10, h11, h12, g9, g11, hg, ej, aLa, aLb]; try exact rfl) ?_
   | refine r_ld1 (by simp (disch:=first|decide|(simp only[zF,zG,hnt, h1, h4, h6, h7, g4, g6, g7, h9, h10, h11, h12, g9, g11, hg, ej, aLa, aLb];decide)) only [zA,zB,zC,zD,zE,zF,zG,zH,zI,zJ,zK,HV.cells,fl0,fl2,flS,flS1,flI1,flU1,flU2,flF,hnt, h1, h4, h6, h7, g4, g6, g7, h9, h10, h11, h12, g9, g11, hg, ej, aLa, aLb]; try exact rfl) (by first|assumption|(simp (disch:=omega) only [get_same,get_other,hnt, h1, h4, h6, h7, g4, g6, g7, h9, h10, h11, h12, g9, g11, hg, ej, aLa, aLb]; first|done|exact rfl)) (by first|assumption|exact ow2 _ _ _ _|exact ow3 _ _ _ _ _ _|rfl|(simp only [zI,zJ,HV.cells,hnt, h1, h4, h6, h7, g4, g6, g7, h9, h10, h11, h12, g9, g11, hg, ej, aLa, aLb]; exact rfl)) ?_
   | refine r_ldn (by simp (disch:=first|decide|(simp only[zF,zG,hnt, h1, h4, h6, h7, g4, g6, g7, h9, h10, h11, h12, g9, g11, hg, ej, aLa, aLb];decide)) only [zA,zB,zC,zD,zE,zF,zG,zH,zI,zJ,zK,HV.cells,fl0,fl2,flS,flS1,flI1,flU1,flU2,flF,hnt, h1, h4, h6, h7, g4, g6, g7, h9, h10, h11, h12, g9, g11, hg, ej, aLa, aLb]; try exact rfl) (by first|assumption|(simp (disch:=omega) only [get_same,get_other,hnt, h1, h4, h6, h7, g4, g6, g7, h9, h10, h11, h12, g9, g11, hg, ej, aLa, aLb]; first|done|exact rfl)) (by first|assumption|exact ow2 _ _ _ _|exact ow3 _ _ _ _ _ _|rfl|(simp only [zI,zJ,HV.cells,hnt, h1, h4, h6, h7, g4, g6, g7, h9, h10, h11, h12, g9, g11, hg, ej, aLa, aLb]; exact rfl)) ?_
   | refine r_alloc ?_
   | refine r_st (cs' := _) (by simp (disch:=first|decide|(simp only[zF,zG,hnt, h1, h4, h6, h7, g4, g6, g7, h9, h10, h11, h12, g9, g11, hg, ej, aLa, aLb];decide)) only [zA,zB,zC,zD,zE,zF,zG,zH,zI,zJ,zK,HV.cells,fl0,fl2,flS,flS1,flI1,flU1,flU2,flF,hnt, h1, h4, h6, h7, g4, g6, g7, h9, h10, h11, h12, g9, g11, hg, ej, aLa, aLb]; try exact rfl) (by simp (disch:=first|decide|(simp only[zF,zG,hnt, h1, h4, h6, h7, g4, g6, g7, h9, h10, h11, h12, g9, g11, hg, ej, aLa, aLb];decide)) only [zA,zB,zC,zD,zE,zF,zG,zH,zI,zJ,zK,HV.cells,fl0,fl2,flS,flS1,flI1,flU1,flU2,flF,hnt, h1, h4, h6, h7, g4, g6, g7, h9, h10, h11, h12, g9, g11, hg, ej, aLa, aLb]; try exact rfl) (by first|assumption|(simp (disch:=omega) only [get_same,get_other,hnt, h1, h4, h6, h7, g4, g6, g7, h9, h10, h11, h12, g9, g11, hg, ej, aLa, aLb]; first|done|exact rfl)) (by exact True.intro) (by rfl) (by rfl) (by first|assumption|exact ow2 _ _ _ _|exact ow3 _ _ _ _ _ _|rfl|(simp only [zI,zJ,HV.cells,hnt, h1, h4, h6, h7, g4, g6, g7, h9, h10, h11, h12, g9, g11, hg, ej, aLa, aLb]; exact rfl)) (by omega) ?_
   | refine r_sub (by simp (disch:=first|decide|(simp only[zF,zG,hnt, h1, h4, h6, h7, g4, g6, g7, h9, h10, h11, h12, g9, g11, hg, ej, aLa, aLb];decide)) only [zA,zB,zC,zD,zE,zF,zG,zH,zI,zJ,zK,HV.cells,fl0,fl2,flS,flS1,flI1,flU1,flU2,flF,hnt, h1, h4, h6, h7, g4, g6, g7, h9, h10, h11, h12, g9, g11, hg, ej, aLa, aLb]; try exact rfl) (by simp (disch:=first|decide|(simp only[zF,zG,hnt, h1, h4, h6, h7, g4, g6, g7, h9, h10, h11, h12, g9, g11, hg, ej, aLa, aLb];decide)) only [zA,zB,zC,zD,zE,zF,zG,zH,zI,zJ,zK,HV.cells,fl0,fl2,flS,flS1,flI1,flU1,flU2,flF,hnt, h1, h4, h6, h7, g4, g6, g7, h9, h10, h11, h12, g9, g11, hg, ej, aLa, aLb]; try exact rfl) (by omega) (by omega) ?_
   | refine r_lss (by simp (disch:=first|decide|(simp only[zF,zG,hnt, h1, h4, h6, h7, g4, g6, g7, h9, h10, h11, h12, g9, g11, hg, ej, aLa, aLb];decide)) only [zA,zB,zC,zD,zE,zF,zG,zH,zI,zJ,zK,HV.cells,fl0,fl2,flS,flS1,flI1,flU1,flU2,flF,hnt, h1, h4, h6, h7, g4, g6, g7, h9, h10, h11, h12, g9, g11, hg, ej, aLa, aLb]; try exact rfl) (by simp (disch:=first|decide|(simp only[zF,zG,hnt, h1, h4, h6, h7, g4, g6, g7, h9, h10, h11, h12, g9, g11, hg, ej, aLa, aLb];decide)) only [zA,zB,zC,zD,zE,zF,zG,zH,zI,zJ,zK,HV.cells,fl0,fl2,flS,flS1,flI1,flU1,flU2,flF,hnt, h1, h4, h6, h7, g4, g6, g7, h9, h10, h11, h12, g9, g11, hg, ej, aLa, aLb]; try exact rfl) (fun hc => ?_) (fun hc => ?_) <;> (try (exfalso; omega))
   | refine r_gtr (by simp (disch:=first|decide|(simp only[zF,zG,hnt, h1, h4, h6, h7, g4, g6, g7, h9, h10, h11, h12, g9, g11, hg, ej, aLa, aLb];decide)) only [zA,zB,zC,zD,zE,zF,zG,zH,zI,zJ,zK,HV.cells,fl0,fl2,flS,flS1,flI1,flU1,flU2,flF,hnt, h1, h4, h6, h7, g4, g6, g7, h9, h10, h11, h12, g9, g11, hg, ej, aLa, aLb]; try exact rfl) (by simp (disch:=first|decide|(simp only[zF,zG,hnt, h1, h4, h6, h7, g4, g6, g7, h9, h10, h11, h12, g9, g11, hg, ej, aLa, aLb];decide)) only [zA,zB,zC,zD,zE,zF,zG,zH,zI,zJ,zK,HV.cells,fl0,fl2,flS,flS1,flI1,flU1,flU2,flF,hnt, h1, h4, h6, h7, g4, g6, g7, h9, h10, h11, h12, g9, g11, hg, ej, aLa, aLb]; try exact rfl) (fun hc => ?_) (fun hc => ?_) <;> (try (exfalso; omega))
   | refine r_ne (by simp (disch:=first|decide|(simp only[zF,zG,hnt, h1, h4, h6, h7, g4, g6, g7, h9, h10, h11, h12, g9, g11, hg, ej, aLa, aLb];decide)) only [zA,zB,zC,zD,zE,zF,zG,zH,zI,zJ,zK,HV.cells,fl0,fl2,flS,flS1,flI1,flU1,flU2,flF,hnt, h1, h4, h6, h7, g4, g6, g7, h9, h10, h11, h12, g9, g11, hg, ej, aLa, aLb]; try exact rfl) (by simp (disch:=first|decide|(simp only[zF,zG,hnt, h1, h4, h6, h7, g4, g6, g7, h9, h10, h11, h12, g9, g11, hg, ej, aLa, aLb];decide)) only [zA,zB,zC,zD,zE,zF,zG,zH,zI,zJ,zK,HV.cells,fl0,fl2,flS,flS1,flI1,flU1,flU2,flF,hnt, h1, h4, h6, h7, g4, g6, g7, h9, h10, h11, h12, g9, g11, hg, ej, aLa, aLb]; try exact rfl) (fun hc => ?_) (fun hc => ?_) <;> (try (exfalso; omega))
   | refine r_nep (by simp (disch:=first|decide|(simp only[zF,zG,hnt, h1, h4, h6, h7, g4, g6, g7, h9, h10, h11, h12, g9, g11, hg, ej, aLa, aLb];decide)) only [zA,zB,zC,zD,zE,zF,zG,zH,zI,zJ,zK,HV.cells,fl0,fl2,flS,flS1,flI1,flU1,flU2,flF,hnt, h1, h4, h6, h7, g4, g6, g7, h9, h10, h11, h12, g9, g11, hg, ej, aLa, aLb]; try exact rfl) (by simp (disch:=first|decide|(simp only[zF,zG,hnt, h1, h4, h6, h7, g4, g6, g7, h9, h10, h11, h12, g9, g11, hg, ej, aLa, aLb];decide)) only [zA,zB,zC,zD,zE,zF,zG,zH,zI,zJ,zK,HV.cells,fl0,fl2,flS,flS1,flI1,flU1,flU2,flF,hnt, h1, h4, h6, h7, g4, g6, g7, h9, h10, h11, h12, g9, g11, hg, ej, aLa, aLb]; try exact rfl) (fun hc => ?_) (fun hc => ?_) <;> (try (exfalso; omega))
   | refine r_pf (by simp (disch:=first|decide|(simp only[zF,zG,hnt, h1, h4, h6, h7, g4, g6, g7, h9, h10, h11, h12, g9, g11, hg, ej, aLa, aLb];decide)) only [zA,zB,zC,zD,zE,zF,zG,zH,zI,zJ,zK,HV.cells,fl0,fl2,flS,flS1,flI1,flU1,flU2,flF,hnt, h1, h4, h6, h7, g4, g6, g7, h9, h10, h11, h12, g9, g11, hg, ej, aLa, aLb]; first|done|exact rfl) (by simp (disch:=first|decide|(simp only[zF,zG,hnt, h1, h4, h6, h7, g4, g6, g7, h9, h10, h11, h12, g9, g11, hg, ej, aLa, aLb];decide)) only [zA,zB,zC,zD,zE,zF,zG,zH,zI,zJ,zK,HV.cells,fl0,fl2,flS,flS1,flI1,flU1,flU2,flF,hnt, h1, h4, h6, h7, g4, g6, g7, h9, h10, h11, h12, g9, g11, hg, ej, aLa, aLb]; try exact rfl) ?_
   | refine r_len (by simp (disch:=first|decide|(simp only[zF,zG,hnt, h1, h4, h6, h7, g4, g6, g7, h9, h10, h11, h12, g9, g11, hg, ej, aLa, aLb];decide)) only [zA,zB,zC,zD,zE,zF,zG,zH,zI,zJ,zK,HV.cells,fl0,fl2,flS,flS1,flI1,flU1,flU2,flF,hnt, h1, h4, h6, h7, g4, g6, g7, h9, h10, h11, h12, g9, g11, hg, ej, aLa, aLb]; try exact rfl) ?_
   | refine r_ixs (by simp (disch:=first|decide|(simp only[zF,zG,hnt, h1, h4, h6, h7, g4, g6, g7, h9, h10, h11, h12, g9, g11, hg, ej, aLa, aLb];decide)) only [zA,zB,zC,zD,zE,zF,zG,zH,zI,zJ,zK,HV.cells,fl0,fl2,flS,flS1,flI1,flU1,flU2,flF,hnt, h1, h4, h6, h7, g4, g6, g7, h9, h10, h11, h12, g9, g11, hg, ej, aLa, aLb]; try exact rfl) (by simp (disch:=first|decide|(simp only[zF,zG,hnt, h1, h4, h6, h7, g4, g6, g7, h9, h10, h11, h12, g9, g11, hg, ej, aLa, aLb];decide)) only [zA,zB,zC,zD,zE,zF,zG,zH,zI,zJ,zK,HV.cells,fl0,fl2,flS,flS1,flI1,flU1,flU2,flF,hnt, h1, h4, h6, h7, g4, g6, g7, h9, h10, h11, h12, g9, g11, hg, ej, aLa, aLb]; try exact rfl) (by omega) ?_
   | refine r_ext (by simp (disch:=first|decide|(simp only[zF,zG,hnt, h1, h4, h6, h7, g4, g6, g7, h9, h10, h11, h12, g9, g11, hg, ej, aLa, aLb];decide)) only [zA,zB,zC,zD,zE,zF,zG,zH,zI,zJ,zK,HV.cells,fl0,fl2,flS,flS1,flI1,flU1,flU2,flF,hnt, h1, h4, h6, h7, g4, g6, g7, h9, h10, h11, h12, g9, g11, hg, ej, aLa, aLb]; try exact rfl) (by first|assumption|exact ow2 _ _ _ _|exact ow3 _ _ _ _ _ _|rfl|(simp only [zI,zJ,HV.cells,hnt, h1, h4, h6, h7, g4, g6, g7, h9, h10, h11, h12, g9, g11, hg, ej, aLa, aLb]; exact rfl)) ?_
   | refine r_calls (by simp (disch:=first|decide|(simp only[zF,zG,hnt, h1, h4, h6, h7, g4, g6, g7, h9, h10, h11, h12, g9, g11, hg, ej, aLa, aLb];decide)) only [zA,zB,zC,zD,zE,zF,zG,zH,zI,zJ,zK,HV.cells,fl0,fl2,flS,flS1,flI1,flU1,flU2,flF,hnt, h1, h4, h6, h7, g4, g6, g7, h9, h10, h11, h12, g9, g11, hg, ej, aLa, aLb]; try exact rfl) (by simp (disch:=first|decide|(simp only[zF,zG,hnt, h1, h4, h6, h7, g4, g6, g7, h9, h10, h11, h12, g9, g11, hg, ej, aLa, aLb];decide)) only [List.map_cons,List.map_nil,List.nil_append,List.cons_append,List.append_nil,zA,zB,zC,zD,zE,zF,zG,zH,zI,zJ,zK,HV.cells,fl0,fl2,flS,flS1,flI1,flU1,flU2,flF,hnt, h1, h4, h6, h7, g4, g6, g7, h9, h10, h11, h12, g9, g11, hg, ej, aLa, aLb]; first|done|exact rfl) c_to (fun n' hn' => ?_)
   | refine r_calls (by simp (disch:=first|decide|(simp only[zF,zG,hnt, h1, h4, h6, h7, g4, g6, g7, h9, h10, h11, h12, g9, g11, hg, ej, aLa, aLb];decide)) only [zA,zB,zC,zD,zE,zF,zG,zH,zI,zJ,zK,HV.cells,fl0,fl2,flS,flS1,flI1,flU1,flU2,flF,hnt, h1, h4, h6, h7, g4, g6, g7, h9, h10, h11, h12, g9, g11, hg, ej, aLa, aLb]; try exact rfl) (by simp (disch:=first|decide|(simp only[zF,zG,hnt, h1, h4, h6, h7, g4, g6, g7, h9, h10, h11, h12, g9, g11, hg, ej, aLa, aLb];decide)) only [List.map_cons,List.map_nil,List.nil_append,List.cons_append,List.append_nil,zA,zB,zC,zD,zE,zF,zG,zH,zI,zJ,zK,HV.cells,fl0,fl2,flS,flS1,flI1,flU1,flU2,flF,hnt, h1, h4, h6, h7, g4, g6, g7, h9, h10, h11, h12, g9, g11, hg, ej, aLa, aLb]; first|done|exact rfl) c_between (fun n' hn' => ?_)
   | refine r_calls (by simp (disch:=first|decide|(simp only[zF,zG,hnt, h1, h4, h6, h7, g4, g6, g7, h9, h10, h11, h12, g9, g11, hg, ej, aLa, aLb];decide)) only [zA,zB,zC,zD,zE,zF,zG,zH,zI,zJ,zK,HV.cells,fl0,fl2,flS,flS1,flI1,flU1,flU2,flF,hnt, h1, h4, h6, h7, g4, g6, g7, h9, h10, h11, h12, g9, g11, hg, ej, aLa, aLb]; try exact rfl) (by simp (disch:=first|decide|(simp only[zF,zG,hnt, h1, h4, h6, h7, g4, g6, g7, h9, h10, h11, h12, g9, g11, hg, ej, aLa, aLb];decide)) only [List.map_cons,List.map_nil,List.nil_append,List.cons_append,List.append_nil,zA,zB,zC,zD,zE,zF,zG,zH,zI,zJ,zK,HV.cells,fl0,fl2,flS,flS1,flI1,flU1,flU2,flF,hnt, h1, h4, h6, h7, g4, g6, g7, h9, h10, h11, h12, g9, g11, hg, ej, aLa, aLb]; first|done|exact rfl) (cB _ _ _ (by omega) (by repeat' first|assumption|refine aL3 _ _ (by omega) ?_|refine D.upd ?_ (by omega)|exact D.mono (by assumption) (by omega))) (fun n' hn' => ?_)
   | refine r_ixs0 (by simp (disch:=first|decide|(simp only[zF,zG,hnt, h1, h4, h6, h7, g4, g6, g7, h9, h10, h11, h12, g9, g11, hg, ej, aLa, aLb];decide)) only [zA,zB,zC,zD,zE,zF,zG,zH,zI,zJ,zK,HV.cells,fl0,fl2,flS,flS1,flI1,flU1,flU2,flF,hnt, h1, h4, h6, h7, g4, g6, g7, h9, h10, h11, h12, g9, g11, hg, ej, aLa, aLb]; try exact rfl) (by omega) ?_
   | refine w_drawg (by omega) ?_
   | refine g_end rfl (by simp (disch:=decide) only [mg_nil,mg_all,mg_in,mg_out,ad_nil,ad_cons]; try exact rfl) ?_
   | refine x_step rfl (by simp (disch:=decide) only [mg_nil,mg_all,mg_in,mg_out,ad_nil,ad_cons]; try exact rfl) ?_
   | refine x_same ?_
   | refine x_new ?_
   | refine x_call (by omega) (by (repeat' first|assumption|refine aL3 _ _ (by omega) ?_|refine D.upd ?_ (by omega)|exact D.mono (by assumption) (by omega)) <;> fail) ?_
   | fail
  refine rest13b (he.trans (by repeat' first|assumption|refine Ext.put ?_ (by omega) (by omega)|refine aE _ _ (by omega) (by repeat' first|assumption|refine aL3 _ _ (by omega) ?_|refine D.upd ?_ (by omega)|exact D.mono (by assumption) (by omega)) (fun b hb => by simp (disch:=omega) only [get_other])|exact Ext.up (by assumption) (by omega))) hfl hck (by omega) (by omega) (by first|assumption|(simp (disch:=omega) only [get_same,get_other,aLa, aLb, g4]; first|done|exact rfl)) (by first|assumption|(simp (disch:=omega) only [get_same,get_other,aLa, aLb, g7]; first|done|exact rfl)) ?_ ?_ ?_ ?_
  all_goals first|(simp only [zL,zM,zF,zG,hnt, hds, h4, h7];done)|(simp (disch:=first|decide|(simp only[zF,zG,hnt, hds, h4, h7];decide)) only [zA,zB,zC,zD,zE,zF,zG,zH,zI,zJ,zK,HV.cells,fl0,fl2,flS,flS1,flI1,flU1,flU2,flF,hnt, hds, h4, h7];first|done|exact rfl)|assumption
/- 13 -/
theorem rest13d {fl : Nat} {h0 : Tr HBlk} {n0 x9 : Nat} {h : Tr HBlk} {nx : Nat} {a : HAct} {s q r : Int × Int} {l : List (Int × Int)} {p : Option (Nat × Nat)} {cp : Nat} (he : Ext h0 n0 h nx) (hfl : fl ≤ n0) (hck : chkR [s] r = 0) (hT : Tbd l q) (hrow : Row renc 2 h0 n0 p l) (b7 : n0 + 1 + 1 < nx) (g4 : h.get n0 = some (.cells (renc s) .exact)) (g6 : h.get (n0 + 1) = some (.cells (renc q) .exact)) (g7 : h.get (n0 + 1 + 1) = some (.cells (renc r) .exact))
    (hnt : a.nt = 158) (hds : a.defers = []) (h1 : a.tmp 1 = .slice p l.length cp) (h4 : a.tmp 4 = .ptr (some (n0, 0))) (h6 : a.tmp 6 = .ptr (some (n0 + 1, 0))) (h7 : a.tmp 7 = .ptr (some (n0 + 1 + 1, 0))) (b9 : n0 + 1 + 1 < x9 ∧ x9 < nx) (g9 : h.get x9 = some (.cells [i64 (stp l q.1), i64 (stp l q.1)] .exact)) (h9 : a.tmp 9 = .ptr (some (x9, 0))) (h10 : a.tmp 10 = i64 0) :
    W LW fl none T13d (Fin ⟨h0, n0⟩ [.t 8] (Sc (· = .bool true) ⟨h0, n0⟩)) a ⟨h, nx⟩ := by
  have hd := he.d
  have hle := he.le
  obtain ⟨hl8, ht, hP⟩ := id hT
  have hP' := hP
  unfold PrOk at hP'
  have hl2 := ht.1
  have hne : l ≠ [] := by intro e; rw [e] at hl2; simp at hl2
  unfold T13d
  repeat' first
   | refine r_nil ?_
   | refine w_seq ?_
   | refine r_move (by simp (disch:=first|decide|(simp only[zF,zG,hnt, h1, h4, h6, h7, g4, g6, g7, h9, h10, g9];decide)) only [zA,zB,zC,zD,zE,zF,zG,zH,zI,zJ,zK,HV.cells,fl0,fl2,flS,flS1,flI1,flU1,flU2,flF,hnt, h1, h4, h6, h7, g4, g6, g7, h9, h10, g9]; try exact rfl) ?_
   | refine w_drawg (by omega) ?_
   | refine x_step rfl (by simp (disch:=decide) only [mg_nil,mg_all,mg_in,mg_out,ad_nil,ad_cons]; try exact rfl) ?_
   | refine x_same ?_
   | fail
  refine r_callc (by simp (disch:=first|decide|(simp only[zF,zG,hnt, h1];decide)) only [zA,zB,zC,zD,zE,zF,zG,zH,zI,zJ,zK,HV.cells,fl0,fl2,flS,flS1,flI1,flU1,flU2,flF,hnt, h1]; try exact rfl) (by simp (disch:=first|decide|(simp only[zF,zG,hnt, h1];decide)) only [List.map_cons,List.map_nil,List.nil_append,List.cons_append,List.append_nil,zA,zB,zC,zD,zE,zF,zG,zH,zI,zJ,zK,HV.cells,fl0,fl2,flS,flS1,flI1,flU1,flU2,flF,hnt, h1]; try exact rfl) (c_Table (l := l) (cp := cp) (by (repeat' first|assumption|refine D.upd ?_ (by omega)|exact D.mono (by assumption) (by omega)) <;> fail) rfl (by omega) ((hrow.ext he).ext (by repeat' first|assumption|refine Ext.put ?_ (by omega) (by omega)|exact Ext.up (by assumption) (by omega)|exact Ext.nx (by assumption) (by omega)))) ?_
  rintro v σ ⟨ps, h2, n2, rfl, rfl, e2, hp⟩
  obtain ⟨bs, hb1, hb2, rfl, ks, hbs⟩ := hp hne
  have hle2 := e2.le
  refine r_nil ?_
  refine x_ext e2 (fun L aL1 aL2 aL3 => ?_)
  have aX : ∀ g, (addAll g L).get bs = some (.cells (l.flatMap renc) ks) := fun g => aL2 g bs _ hb1 hbs
  have aLa : ∀ g b, b < nx → (addAll g L).get b = g.get b := fun g b hb => aL1 g b (.inl (by omega))
  have aLb : ∀ g b, n2 ≤ b → (addAll g L).get b = g.get b := fun g b hb => aL1 g b (.inr hb)
  have aE : ∀ g n', n2 ≤ n' → D g n' → (∀ b, b < nx → g.get b = h.get b) → Ext h nx (addAll g L) n' := fun g n' hn hg hs => ⟨by omega, aL3 g n' hn hg, fun b hb => (aLa g b (by omega)).trans (hs b hb)⟩
  have cB : ∀ fl g n', n2 ≤ n' → D g n' → C LW fl 30 [.slice (some (bs, 0)) l.length l.length, .agg [i64 q.2, i64 q.2]] ⟨addAll g L, n'⟩ (Sc (· = .tuple [.agg [i64 (stp l q.2), i64 (stp l q.2)], i64 0]) ⟨addAll g L, n'⟩) := fun fl g n' hn e => by
    have := c_Boils (fl := fl) (aL3 g n' hn e) (l := l) (q := (q.2, q.2)) (cp := l.length) rfl (Nat.le_refl _) (by omega) (row_flat (k := ks) renc_len (by omega) (aX g))
    rwa [boi_ok hT (q' := (q.2, q.2)) (by unfold PrOk; (try dsimp only); omega)] at this
  repeat' first
   | refine r_nil ?_
   | refine th_n ?_
   | refine r_move (by simp (disch:=first|decide|(simp only[zF,zG,hnt, h1, h4, h6, h7, g4, g6, g7, h9, h10, g9, aLa, aLb];decide)) only [zA,zB,zC,zD,zE,zF,zG,zH,zI,zJ,zK,HV.cells,fl0,fl2,flS,flS1,flI1,flU1,flU2,flF,hnt, h1, h4, h6, h7, g4, g6, g7, h9, h10, g9, aLa, aLb]; try exact rfl) ?_
   | refine r_fa (by simp (disch:=first|decide|(simp only[zF,zG,hnt, h1, h4, h6, h7, g4, g6, g7, h9, h10, g9, aLa, aLb];decide)) only [zA,zB,zC,zD,zE,zF,zG,zH,zI,zJ,zK,HV.cells,fl0,fl2,flS,flS1,flI1,flU1,flU2,flF,hnt, h1, h4, h6, h7, g4, g6, g7, h9, h10, g9, aLa, aLb]; try exact rfl) ?_
   | refine r_ld1 (by simp (disch:=first|decide|(simp only[zF,zG,hnt, h1, h4, h6, h7, g4, g6, g7, h9, h10, g9, aLa, aLb];decide)) only [zA,zB,zC,zD,zE,zF,zG,zH,zI,zJ,zK,HV.cells,fl0,fl2,flS,flS1,flI1,flU1,flU2,flF,hnt, h1, h4, h6, h7, g4, g6, g7, h9, h10, g9, aLa, aLb]; try exact rfl) (by first|assumption|(simp (disch:=omega) only [get_same,get_other,hnt, h1, h4, h6, h7, g4, g6, g7, h9, h10, g9, aLa, aLb]; first|done|exact rfl)) (by first|assumption|exact ow2 _ _ _ _|exact ow3 _ _ _ _ _ _|rfl|(simp only [zI,zJ,HV.cells,hnt, h1, h4, h6, h7, g4, g6, g7, h9, h10, g9, aLa, aLb]; exact rfl)) ?_
   | refine r_alloc ?_
   | refine r_st (cs' := _) (by simp (disch:=first|decide|(simp only[zF,zG,hnt, h1, h4, h6, h7, g4, g6, g7, h9, h10, g9, aLa, aLb];decide)) only [zA,zB,zC,zD,zE,zF,zG,zH,zI,zJ,zK,HV.cells,fl0,fl2,flS,flS1,flI1,flU1,flU2,flF,hnt, h1, h4, h6, h7, g4, g6, g7, h9, h10, g9, aLa, aLb]; try exact rfl) (by simp (disch:=first|decide|(simp only[zF,zG,hnt, h1, h4, h6, h7, g4, g6, g7, h9, h10, g9, aLa, aLb];decide)) only [zA,zB,zC,zD,zE,zF,zG,zH,zI,zJ,zK,HV.cells,fl0,fl2,flS,flS1,flI1,flU1,flU2,flF,hnt, h1, h4, h6, h7, g4, g6, g7, h9, h10, g9, aLa, aLb]; try exact rfl) (by first|assumption|(simp (disch:=omega) only [get_same,get_other,hnt, h1, h4, h6, h7, g4, g6, g7, h9, h10, g9, aLa, aLb]; first|done|exact rfl)) (by exact True.intro) (by rfl) (by rfl) (by first|assumption|exact ow2 _ _ _ _|exact ow3 _ _ _ _ _ _|rfl|(simp only [zI,zJ,HV.cells,hnt, h1, h4, h6, h7, g4, g6, g7, h9, h10, g9, aLa, aLb]; exact rfl)) (by omega) ?_
   | refine r_ext (by simp (disch:=first|decide|(simp only[zF,zG,hnt, h1, h4, h6, h7, g4, g6, g7, h9, h10, g9, aLa, aLb];decide)) only [zA,zB,zC,zD,zE,zF,zG,zH,zI,zJ,zK,HV.cells,fl0,fl2,flS,flS1,flI1,flU1,flU2,flF,hnt, h1, h4, h6, h7, g4, g6, g7, h9, h10, g9, aLa, aLb]; try exact rfl) (by first|assumption|exact ow2 _ _ _ _|exact ow3 _ _ _ _ _ _|rfl|(simp only [zI,zJ,HV.cells,hnt, h1, h4, h6, h7, g4, g6, g7, h9, h10, g9, aLa, aLb]; exact rfl)) ?_
   | refine r_calls (by simp (disch:=first|decide|(simp only[zF,zG,hnt, h1, h4, h6, h7, g4, g6, g7, h9, h10, g9, aLa, aLb];decide)) only [zA,zB,zC,zD,zE,zF,zG,zH,zI,zJ,zK,HV.cells,fl0,fl2,flS,flS1,flI1,flU1,flU2,flF,hnt, h1, h4, h6, h7, g4, g6, g7, h9, h10, g9, aLa, aLb]; try exact rfl) (by simp (disch:=first|decide|(simp only[zF,zG,hnt, h1, h4, h6, h7, g4, g6, g7, h9, h10, g9, aLa, aLb];decide)) only [List.map_cons,List.map_nil,List.nil_append,List.cons_append,List.append_nil,zA,zB,zC,zD,zE,zF,zG,zH,zI,zJ,zK,HV.cells,fl0,fl2,flS,flS1,flI1,flU1,flU2,flF,hnt, h1, h4, h6, h7, g4, g6, g7, h9, h10, g9, aLa, aLb]; first|done|exact rfl) c_between (fun n' hn' => ?_)
   | refine r_calls (by simp (disch:=first|decide|(simp only[zF,zG,hnt, h1, h4, h6, h7, g4, g6, g7, h9, h10, g9, aLa, aLb];decide)) only [zA,zB,zC,zD,zE,zF,zG,zH,zI,zJ,zK,HV.cells,fl0,fl2,flS,flS1,flI1,flU1,flU2,flF,hnt, h1, h4, h6, h7, g4, g6, g7, h9, h10, g9, aLa, aLb]; try exact rfl) (by simp (disch:=first|decide|(simp only[zF,zG,hnt, h1, h4, h6, h7, g4, g6, g7, h9, h10, g9, aLa, aLb];decide)) only [List.map_cons,List.map_nil,List.nil_append,List.cons_append,List.append_nil,zA,zB,zC,zD,zE,zF,zG,zH,zI,zJ,zK,HV.cells,fl0,fl2,flS,flS1,flI1,flU1,flU2,flF,hnt, h1, h4, h6, h7, g4, g6, g7, h9, h10, g9, aLa, aLb]; first|done|exact rfl) (cB _ _ _ (by omega) (by repeat' first|assumption|refine aL3 _ _ (by omega) ?_|refine D.upd ?_ (by omega)|exact D.mono (by assumption) (by omega))) (fun n' hn' => ?_)
   | refine g_end rfl (by simp (disch:=decide) only [mg_nil,mg_all,mg_in,mg_out,ad_nil,ad_cons]; try exact rfl) ?_
   | refine x_step rfl (by simp (disch:=decide) only [mg_nil,mg_all,mg_in,mg_out,ad_nil,ad_cons]; try exact rfl) ?_
   | refine x_same ?_
   | refine x_new ?_
   | refine x_call (by omega) (by (repeat' first|assumption|refine aL3 _ _ (by omega) ?_|refine D.upd ?_ (by omega)|exact D.mono (by assumption) (by omega)) <;> fail) ?_
   | fail
  refine rest13c (x9 := x9) (x11 := n') (cp := cp) (he.trans (by repeat' first|assumption|refine Ext.put ?_ (by omega) (by omega)|refine aE _ _ (by omega) (by repeat' first|assumption|refine aL3 _ _ (by omega) ?_|refine D.upd ?_ (by omega)|exact D.mono (by assumption) (by omega)) (fun b hb => by simp (disch:=omega) only [get_other])|exact Ext.up (by assumption) (by omega))) hfl hck hT hrow (by omega) (by first|assumption|(simp (disch:=omega) only [get_same,get_other,aLa, aLb, g4]; first|done|exact rfl)) (by first|assumption|(simp (disch:=omega) only [get_same,get_other,aLa, aLb, g6]; first|done|exact rfl)) (by first|assumption|(simp (disch:=omega) only [get_same,get_other,aLa, aLb, g7]; first|done|exact rfl)) ?_ ?_ ?_ ?_ ?_ ?_ (by omega) (by first|assumption|(simp (disch:=omega) only [get_same,get_other,aLa, aLb, g9]; first|done|exact rfl)) ?_ ?_ (by omega) (by first|assumption|(simp (disch:=omega) only [get_same,get_other]; first|done|exact rfl)) ?_ ?_
  all_goals first|(simp only [zL,zM,zF,zG,hnt, hds, h1, h4, h6, h7, h9, h10];done)|(simp (disch:=first|decide|(simp only[zF,zG,hnt, hds, h1, h4, h6, h7, h9, h10];decide)) only [zA,zB,zC,zD,zE,zF,zG,zH,zI,zJ,zK,HV.cells,fl0,fl2,flS,flS1,flI1,flU1,flU2,flF,hnt, hds, h1, h4, h6, h7, h9, h10];first|done|exact rfl)|assumption
/- 13 -/
theorem rest13e {fl : Nat} {h0 : Tr HBlk} {n0 : Nat} {h : Tr HBlk} {nx : Nat} {a : HAct} {s q r : Int × Int} {l : List (Int × Int)} {p : Option (Nat × Nat)} {cp : Nat} (he : Ext h0 n0 h nx) (hfl : fl ≤ n0) (hck : chkR [s] r = 0) (hT : Tbd l q) (hrow : Row renc 2 h0 n0 p l) (b7 : n0 + 1 + 1 < nx) (g4 : h.get n0 = some (.cells (renc s) .exact)) (g6 : h.get (n0 + 1) = some (.cells (renc q) .exact)) (g7 : h.get (n0 + 1 + 1) = some (.cells (renc r) .exact))
    (hnt : a.nt = 158) (hds : a.defers = []) (h1 : a.tmp 1 = .slice p l.length cp) (h4 : a.tmp 4 = .ptr (some (n0, 0))) (h6 : a.tmp 6 = .ptr (some (n0 + 1, 0))) (h7 : a.tmp 7 = .ptr (some (n0 + 1 + 1, 0)))  :
    W LW fl none T13e (Fin ⟨h0, n0⟩ [.t 8] (Sc (· = .bool true) ⟨h0, n0⟩)) a ⟨h, nx⟩ := by
  have hd := he.d
  have hle := he.le
  obtain ⟨hl8, ht, hP⟩ := id hT
  have hP' := hP
  unfold PrOk at hP'
  have hl2 := ht.1
  have hne : l ≠ [] := by intro e; rw [e] at hl2; simp at hl2
  unfold T13e
  repeat' first
   | refine r_nil ?_
   | refine w_seq ?_
   | refine r_move (by simp (disch:=first|decide|(simp only[zF,zG,hnt, h1, h4, h6, h7, g4, g6, g7];decide)) only [zA,zB,zC,zD,zE,zF,zG,zH,zI,zJ,zK,HV.cells,fl0,fl2,flS,flS1,flI1,flU1,flU2,flF,hnt, h1, h4, h6, h7, g4, g6, g7]; try exact rfl) ?_
   | refine w_drawg (by omega) ?_
   | refine x_step rfl (by simp (disch:=decide) only [mg_nil,mg_all,mg_in,mg_out,ad_nil,ad_cons]; try exact rfl) ?_
   | refine x_same ?_
   | fail
  refine r_callc (by simp (disch:=first|decide|(simp only[zF,zG,hnt, h1];decide)) only [zA,zB,zC,zD,zE,zF,zG,zH,zI,zJ,zK,HV.cells,fl0,fl2,flS,flS1,flI1,flU1,flU2,flF,hnt, h1]; try exact rfl) (by simp (disch:=first|decide|(simp only[zF,zG,hnt, h1];decide)) only [List.map_cons,List.map_nil,List.nil_append,List.cons_append,List.append_nil,zA,zB,zC,zD,zE,zF,zG,zH,zI,zJ,zK,HV.cells,fl0,fl2,flS,flS1,flI1,flU1,flU2,flF,hnt, h1]; try exact rfl) (c_Table (l := l) (cp := cp) (by (repeat' first|assumption|refine D.upd ?_ (by omega)|exact D.mono (by assumption) (by omega)) <;> fail) rfl (by omega) ((hrow.ext he).ext (by repeat' first|assumption|refine Ext.put ?_ (by omega) (by omega)|exact Ext.up (by assumption) (by omega)|exact Ext.nx (by assumption) (by omega)))) ?_
  rintro v σ ⟨ps, h2, n2, rfl, rfl, e2, hp⟩
  obtain ⟨bs, hb1, hb2, rfl, ks, hbs⟩ := hp hne
  have hle2 := e2.le
  refine r_nil ?_
  refine x_ext e2 (fun L aL1 aL2 aL3 => ?_)
  have aX : ∀ g, (addAll g L).get bs = some (.cells (l.flatMap renc) ks) := fun g => aL2 g bs _ hb1 hbs
  have aLa : ∀ g b, b < nx → (addAll g L).get b = g.get b := fun g b hb => aL1 g b (.inl (by omega))
  have aLb : ∀ g b, n2 ≤ b → (addAll g L).get b = g.get b := fun g b hb => aL1 g b (.inr hb)
  have aE : ∀ g n', n2 ≤ n' → D g n' → (∀ b, b < nx → g.get b = h.get b) → Ext h nx (addAll g L) n' := fun g n' hn hg hs => ⟨by omega, aL3 g n' hn hg, fun b hb => (aLa g b (by omega)).trans (hs b hb)⟩
  have cB : ∀ fl g n', n2 ≤ n' → D g n' → C LW fl 30 [.slice (some (bs, 0)) l.length l.length, .agg [i64 q.1, i64 q.1]] ⟨addAll g L, n'⟩ (Sc (· = .tuple [.agg [i64 (stp l q.1), i64 (stp l q.1)], i64 0]) ⟨addAll g L, n'⟩) := fun fl g n' hn e => by
    have := c_Boils (fl := fl) (aL3 g n' hn e) (l := l) (q := (q.1, q.1)) (cp := l.length) rfl (Nat.le_refl _) (by omega) (row_flat (k := ks) renc_len (by omega) (aX g))
    rwa [boi_ok hT (q' := (q.1, q.1)) (by unfold PrOk; (try dsimp only); omega)] at this
  repeat' first
   | refine r_nil ?_
   | refine th_n ?_
   | refine r_move (by simp (disch:=first|decide|(simp only[zF,zG,hnt, h1, h4, h6, h7, g4, g6, g7, aLa, aLb];decide)) only [zA,zB,zC,zD,zE,zF,zG,zH,zI,zJ,zK,HV.cells,fl0,fl2,flS,flS1,flI1,flU1,flU2,flF,hnt, h1, h4, h6, h7, g4, g6, g7, aLa, aLb]; try exact rfl) ?_
   | refine r_fa (by simp (disch:=first|decide|(simp only[zF,zG,hnt, h1, h4, h6, h7, g4, g6, g7, aLa, aLb];decide)) only [zA,zB,zC,zD,zE,zF,zG,zH,zI,zJ,zK,HV.cells,fl0,fl2,flS,flS1,flI1,flU1,flU2,flF,hnt, h1, h4, h6, h7, g4, g6, g7, aLa, aLb]; try exact rfl) ?_
   | refine r_ld1 (by simp (disch:=first|decide|(simp only[zF,zG,hnt, h1, h4, h6, h7, g4, g6, g7, aLa, aLb];decide)) only [zA,zB,zC,zD,zE,zF,zG,zH,zI,zJ,zK,HV.cells,fl0,fl2,flS,flS1,flI1,flU1,flU2,flF,hnt, h1, h4, h6, h7, g4, g6, g7, aLa, aLb]; try exact rfl) (by first|assumption|(simp (disch:=omega) only [get_same,get_other,hnt, h1, h4, h6, h7, g4, g6, g7, aLa, aLb]; first|done|exact rfl)) (by first|assumption|exact ow2 _ _ _ _|exact ow3 _ _ _ _ _ _|rfl|(simp only [zI,zJ,HV.cells,hnt, h1, h4, h6, h7, g4, g6, g7, aLa, aLb]; exact rfl)) ?_
   | refine r_alloc ?_
   | refine r_st (cs' := _) (by simp (disch:=first|decide|(simp only[zF,zG,hnt, h1, h4, h6, h7, g4, g6, g7, aLa, aLb];decide)) only [zA,zB,zC,zD,zE,zF,zG,zH,zI,zJ,zK,HV.cells,fl0,fl2,flS,flS1,flI1,flU1,flU2,flF,hnt, h1, h4, h6, h7, g4, g6, g7, aLa, aLb]; try exact rfl) (by simp (disch:=first|decide|(simp only[zF,zG,hnt, h1, h4, h6, h7, g4, g6, g7, aLa, aLb];decide)) only [zA,zB,zC,zD,zE,zF,zG,zH,zI,zJ,zK,HV.cells,fl0,fl2,flS,flS1,flI1,flU1,flU2,flF,hnt, h1, h4, h6, h7, g4, g6, g7, aLa, aLb]; try exact rfl) (by first|assumption|(simp (disch:=omega) only [get_same,get_other,hnt, h1, h4, h6, h7, g4, g6, g7, aLa, aLb]; first|done|exact rfl)) (by exact True.intro) (by rfl) (by rfl) (by first|assumption|exact ow2 _ _ _ _|exact ow3 _ _ _ _ _ _|rfl|(simp only [zI,zJ,HV.cells,hnt, h1, h4, h6, h7, g4, g6, g7, aLa, aLb]; exact rfl)) (by omega) ?_
   | refine r_ext (by simp (disch:=first|decide|(simp only[zF,zG,hnt, h1, h4, h6, h7, g4, g6, g7, aLa, aLb];decide)) only [zA,zB,zC,zD,zE,zF,zG,zH,zI,zJ,zK,HV.cells,fl0,fl2,flS,flS1,flI1,flU1,flU2,flF,hnt, h1, h4, h6, h7, g4, g6, g7, aLa, aLb]; try exact rfl) (by first|assumption|exact ow2 _ _ _ _|exact ow3 _ _ _ _ _ _|rfl|(simp only [zI,zJ,HV.cells,hnt, h1, h4, h6, h7, g4, g6, g7, aLa, aLb]; exact rfl)) ?_
   | refine r_calls (by simp (disch:=first|decide|(simp only[zF,zG,hnt, h1, h4, h6, h7, g4, g6, g7, aLa, aLb];decide)) only [zA,zB,zC,zD,zE,zF,zG,zH,zI,zJ,zK,HV.cells,fl0,fl2,flS,flS1,flI1,flU1,flU2,flF,hnt, h1, h4, h6, h7, g4, g6, g7, aLa, aLb]; try exact rfl) (by simp (disch:=first|decide|(simp only[zF,zG,hnt, h1, h4, h6, h7, g4, g6, g7, aLa, aLb];decide)) only [List.map_cons,List.map_nil,List.nil_append,List.cons_append,List.append_nil,zA,zB,zC,zD,zE,zF,zG,zH,zI,zJ,zK,HV.cells,fl0,fl2,flS,flS1,flI1,flU1,flU2,flF,hnt, h1, h4, h6, h7, g4, g6, g7, aLa, aLb]; first|done|exact rfl) c_between (fun n' hn' => ?_)
   | refine r_calls (by simp (disch:=first|decide|(simp only[zF,zG,hnt, h1, h4, h6, h7, g4, g6, g7, aLa, aLb];decide)) only [zA,zB,zC,zD,zE,zF,zG,zH,zI,zJ,zK,HV.cells,fl0,fl2,flS,flS1,flI1,flU1,flU2,flF,hnt, h1, h4, h6, h7, g4, g6, g7, aLa, aLb]; try exact rfl) (by simp (disch:=first|decide|(simp only[zF,zG,hnt, h1, h4, h6, h7, g4, g6, g7, aLa, aLb];decide)) only [List.map_cons,List.map_nil,List.nil_append,List.cons_append,List.append_nil,zA,zB,zC,zD,zE,zF,zG,zH,zI,zJ,zK,HV.cells,fl0,fl2,flS,flS1,flI1,flU1,flU2,flF,hnt, h1, h4, h6, h7, g4, g6, g7, aLa, aLb]; first|done|exact rfl) (cB _ _ _ (by omega) (by repeat' first|assumption|refine aL3 _ _ (by omega) ?_|refine D.upd ?_ (by omega)|exact D.mono (by assumption) (by omega))) (fun n' hn' => ?_)
   | refine g_end rfl (by simp (disch:=decide) only [mg_nil,mg_all,mg_in,mg_out,ad_nil,ad_cons]; try exact rfl) ?_
   | refine x_step rfl (by simp (disch:=decide) only [mg_nil,mg_all,mg_in,mg_out,ad_nil,ad_cons]; try exact rfl) ?_
   | refine x_same ?_
   | refine x_new ?_
   | refine x_call (by omega) (by (repeat' first|assumption|refine aL3 _ _ (by omega) ?_|refine D.upd ?_ (by omega)|exact D.mono (by assumption) (by omega)) <;> fail) ?_
   | fail
  refine rest13d (x9 := n') (cp := cp) (he.trans (by repeat' first|assumption|refine Ext.put ?_ (by omega) (by omega)|refine aE _ _ (by omega) (by repeat' first|assumption|refine aL3 _ _ (by omega) ?_|refine D.upd ?_ (by omega)|exact D.mono (by assumption) (by omega)) (fun b hb => by simp (disch:=omega) only [get_other])|exact Ext.up (by assumption) (by omega))) hfl hck hT hrow (by omega) (by first|assumption|(simp (disch:=omega) only [get_same,get_other,aLa, aLb, g4]; first|done|exact rfl)) (by first|assumption|(simp (disch:=omega) only [get_same,get_other,aLa, aLb, g6]; first|done|exact rfl)) (by first|assumption|(simp (disch:=omega) only [get_same,get_other,aLa, aLb, g7]; first|done|exact rfl)) ?_ ?_ ?_ ?_ ?_ ?_ (by omega) (by first|assumption|(simp (disch:=omega) only [get_same,get_other]; first|done|exact rfl)) ?_ ?_
  all_goals first|(simp only [zL,zM,zF,zG,hnt, hds, h1, h4, h6, h7];done)|(simp (disch:=first|decide|(simp only[zF,zG,hnt, hds, h1, h4, h6, h7];decide)) only [zA,zB,zC,zD,zE,zF,zG,zH,zI,zJ,zK,HV.cells,fl0,fl2,flS,flS1,flI1,flU1,flU2,flF,hnt, hds, h1, h4, h6, h7];first|done|exact rfl)|assumption
/- 13 -/
theorem c_law13 {fl : Nat} {h : Tr HBlk} {nx : Nat} (hd : D h nx) {s q r : Int × Int} {l : List (Int × Int)} {p : Option (Nat × Nat)} {n cp : Nat} (hn : n = l.length) (hrow : Row renc 2 h nx p l) :
    C LW fl 13 [.agg (renc s), .slice p n cp, .agg (renc q), .agg (renc r)] ⟨h, nx⟩ (Sc (· = .bool true) ⟨h, nx⟩) := by
  subst hn
  refine c_in (lw13.trans (congrArg some l13_eq)) rfl rfl rfl ?_
  dsimp only
  unfold H13
  have cT : ∀ fl h' n', Ext h nx h' n' → C LW fl 50 [.slice p l.length cp, .agg (renc q)] ⟨h', n'⟩ (Sc (· = .bool (decide (Tbd l q))) ⟨h', n'⟩) := fun fl h' n' e => c_tabled e.d rfl (hrow.ext e)
  repeat' first
   | refine r_nil ?_
   | refine th_n ?_
   | refine w_seq ?_
   | refine w_reg ?_
   | refine r_move (by simp (disch:=first|decide|(simp only[zF,zG];decide)) only [zA,zB,zC,zD,zE,zF,zG,zH,zI,zJ,zK,HV.cells,fl0,fl2,flS,flS1,flI1,flU1,flU2,flF]; try exact rfl) ?_
   | refine r_ldn (by simp (disch:=first|decide|(simp only[zF,zG];decide)) only [zA,zB,zC,zD,zE,zF,zG,zH,zI,zJ,zK,HV.cells,fl0,fl2,flS,flS1,flI1,flU1,flU2,flF]; try exact rfl) (by first|assumption|(simp (disch:=omega) only [get_same,get_other]; first|done|exact rfl)) (by first|assumption|exact ow2 _ _ _ _|exact ow3 _ _ _ _ _ _|rfl|(simp only [zI,zJ,HV.cells]; exact rfl)) ?_
   | refine r_box (by simp (disch:=first|decide|(simp only[zF,zG];decide)) only [zA,zB,zC,zD,zE,zF,zG,zH,zI,zJ,zK,HV.cells,fl0,fl2,flS,flS1,flI1,flU1,flU2,flF]; try exact rfl) ?_
   | refine r_bs (by simp (disch:=first|decide|(simp only[zF,zG];decide)) only [evParts,List.map_cons,List.map_nil,List.nil_append,List.cons_append,List.append_nil,zA,zB,zC,zD,zE,zF,zG,zH,zI,zJ,zK,HV.cells,fl0,fl2,flS,flS1,flI1,flU1,flU2,flF]; try exact rfl) ?_
   | fail
  refine r_calld (by simp (disch:=first|decide|(simp only[zF,zG];decide)) only [zA,zB,zC,zD,zE,zF,zG,zH,zI,zJ,zK,HV.cells,fl0,fl2,flS,flS1,flI1,flU1,flU2,flF]; try exact rfl) (by simp (disch:=first|decide|(simp only[zF,zG];decide)) only [List.map_cons,List.map_nil,List.nil_append,List.cons_append,List.append_nil,zA,zB,zC,zD,zE,zF,zG,zH,zI,zJ,zK,HV.cells,fl0,fl2,flS,flS1,flI1,flU1,flU2,flF]; try exact rfl) (c_ready (l := [s]) (r := r) (cp := 1) (by (repeat' first|assumption|refine D.upd ?_ (by omega)|exact D.mono (by assumption) (by omega)) <;> fail) rfl (by simp) (row_flat (k := .exact) renc_len (by omega) (by first|assumption|(simp (disch:=omega) only [get_same,get_other]; first|done|exact rfl)))) (fun n1 hn1 hc => ?_) (fun n1 hn1 hc => ?_)
  rotate_left
  · repeat' first
     | refine r_nil ?_
     | refine th_n ?_
     | refine th_r ?_
     | refine w_seq ?_
     | refine w_reg ?_
     | refine w_ret ?_
     | refine w_t (by simp (disch:=first|decide|(simp only[zF,zG];decide)) only [zA,zB,zC,zD,zE,zF,zG,zH,zI,zJ,zK,HV.cells,fl0,fl2,flS,flS1,flI1,flU1,flU2,flF]; first|done|exact rfl) ?_
     | refine r_drop (by simp (disch:=first|decide|(simp only[zF,zG,Bool.not_true,Bool.not_false];decide)) only [zA,zB,zC,zD,zE,zF,zG,zH,zI,zJ,zK,HV.cells,fl0,fl2,flS,flS1,flI1,flU1,flU2,flF,Bool.not_true,Bool.not_false]; first|done|exact rfl) ?_
     | refine r_move (by simp (disch:=first|decide|(simp only[zF,zG];decide)) only [zA,zB,zC,zD,zE,zF,zG,zH,zI,zJ,zK,HV.cells,fl0,fl2,flS,flS1,flI1,flU1,flU2,flF]; try exact rfl) ?_
     | refine r_not1 (by simp (disch:=first|decide|(simp only[zF,zG];decide)) only [zA,zB,zC,zD,zE,zF,zG,zH,zI,zJ,zK,HV.cells,fl0,fl2,flS,flS1,flI1,flU1,flU2,flF]; try exact rfl) ?_
     | refine r_pt (by simp (disch:=first|decide|(simp only[zF,zG];decide)) only [zA,zB,zC,zD,zE,zF,zG,zH,zI,zJ,zK,HV.cells,fl0,fl2,flS,flS1,flI1,flU1,flU2,flF]; first|done|exact rfl) (by simp (disch:=first|decide|(simp only[zF,zG];decide)) only [zA,zB,zC,zD,zE,zF,zG,zH,zI,zJ,zK,HV.cells,fl0,fl2,flS,flS1,flI1,flU1,flU2,flF]; try exact rfl) ?_
     | refine r_calls (by simp (disch:=first|decide|(simp only[zF,zG];decide)) only [zA,zB,zC,zD,zE,zF,zG,zH,zI,zJ,zK,HV.cells,fl0,fl2,flS,flS1,flI1,flU1,flU2,flF]; try exact rfl) (by simp (disch:=first|decide|(simp only[zF,zG];decide)) only [List.map_cons,List.map_nil,List.nil_append,List.cons_append,List.append_nil,zA,zB,zC,zD,zE,zF,zG,zH,zI,zJ,zK,HV.cells,fl0,fl2,flS,flS1,flI1,flU1,flU2,flF]; first|done|exact rfl) c_wakes (fun n' hn' => ?_)
     | fail
    refine fin_r (by simp only [zL,zM]) (by simp (disch:=first|decide|(simp only[zF,zG];decide)) only [zA,zB,zC,zD,zE,zF,zG,zH,zI,zJ,zK,HV.cells,fl0,fl2,flS,flS1,flI1,flU1,flU2,flF]; try exact rfl) (sc_flat rfl (by dsimp only; omega) ?_); rfl
  repeat' first
   | refine r_nil ?_
   | refine th_n ?_
   | refine w_seq ?_
   | refine w_reg ?_
   | refine w_skip ?_
   | refine w_t (by simp (disch:=first|decide|(simp only[zF,zG];decide)) only [zA,zB,zC,zD,zE,zF,zG,zH,zI,zJ,zK,HV.cells,fl0,fl2,flS,flS1,flI1,flU1,flU2,flF]; first|done|exact rfl) ?_
   | refine w_f (by simp (disch:=first|decide|(simp only[zF,zG];decide)) only [zA,zB,zC,zD,zE,zF,zG,zH,zI,zJ,zK,HV.cells,fl0,fl2,flS,flS1,flI1,flU1,flU2,flF]; first|done|exact rfl) ?_
   | refine r_take (by simp (disch:=first|decide|(simp only[zF,zG];decide)) only [zA,zB,zC,zD,zE,zF,zG,zH,zI,zJ,zK,HV.cells,fl0,fl2,flS,flS1,flI1,flU1,flU2,flF]; first|done|exact rfl) ?_
   | refine r_move (by simp (disch:=first|decide|(simp only[zF,zG];decide)) only [zA,zB,zC,zD,zE,zF,zG,zH,zI,zJ,zK,HV.cells,fl0,fl2,flS,flS1,flI1,flU1,flU2,flF]; try exact rfl) ?_
   | refine r_ldn (by simp (disch:=first|decide|(simp only[zF,zG];decide)) only [zA,zB,zC,zD,zE,zF,zG,zH,zI,zJ,zK,HV.cells,fl0,fl2,flS,flS1,flI1,flU1,flU2,flF]; try exact rfl) (by first|assumption|(simp (disch:=omega) only [get_same,get_other]; first|done|exact rfl)) (by first|assumption|exact ow2 _ _ _ _|exact ow3 _ _ _ _ _ _|rfl|(simp only [zI,zJ,HV.cells]; exact rfl)) ?_
   | refine r_not1 (by simp (disch:=first|decide|(simp only[zF,zG];decide)) only [zA,zB,zC,zD,zE,zF,zG,zH,zI,zJ,zK,HV.cells,fl0,fl2,flS,flS1,flI1,flU1,flU2,flF]; try exact rfl) ?_
   | refine r_pf (by simp (disch:=first|decide|(simp only[zF,zG];decide)) only [zA,zB,zC,zD,zE,zF,zG,zH,zI,zJ,zK,HV.cells,fl0,fl2,flS,flS1,flI1,flU1,flU2,flF]; first|done|exact rfl) (by simp (disch:=first|decide|(simp only[zF,zG];decide)) only [zA,zB,zC,zD,zE,zF,zG,zH,zI,zJ,zK,HV.cells,fl0,fl2,flS,flS1,flI1,flU1,flU2,flF]; try exact rfl) ?_
   | refine r_calld (by simp (disch:=first|decide|(simp only[zF,zG];decide)) only [zA,zB,zC,zD,zE,zF,zG,zH,zI,zJ,zK,HV.cells,fl0,fl2,flS,flS1,flI1,flU1,flU2,flF]; try exact rfl) (by simp (disch:=first|decide|(simp only[zF,zG];decide)) only [List.map_cons,List.map_nil,List.nil_append,List.cons_append,List.append_nil,zA,zB,zC,zD,zE,zF,zG,zH,zI,zJ,zK,HV.cells,fl0,fl2,flS,flS1,flI1,flU1,flU2,flF]; first|done|exact rfl) (cT _ _ _ (by repeat' first|assumption|refine Ext.put ?_ (by omega) (by omega)|exact Ext.up (by assumption) (by omega)|exact Ext.nx (by assumption) (by omega))) (fun n' hn' hc => ?_) (fun n' hn' hc => ?_) <;> (try (exfalso; omega))
   | fail
  rotate_left
  · repeat' first
     | refine r_nil ?_
     | refine th_n ?_
     | refine th_r ?_
     | refine w_ret ?_
     | refine r_move (by simp (disch:=first|decide|(simp only[zF,zG];decide)) only [zA,zB,zC,zD,zE,zF,zG,zH,zI,zJ,zK,HV.cells,fl0,fl2,flS,flS1,flI1,flU1,flU2,flF]; try exact rfl) ?_
     | refine r_calls (by simp (disch:=first|decide|(simp only[zF,zG];decide)) only [zA,zB,zC,zD,zE,zF,zG,zH,zI,zJ,zK,HV.cells,fl0,fl2,flS,flS1,flI1,flU1,flU2,flF]; try exact rfl) (by simp (disch:=first|decide|(simp only[zF,zG];decide)) only [List.map_cons,List.map_nil,List.nil_append,List.cons_append,List.append_nil,zA,zB,zC,zD,zE,zF,zG,zH,zI,zJ,zK,HV.cells,fl0,fl2,flS,flS1,flI1,flU1,flU2,flF]; first|done|exact rfl) c_wakes (fun n' hn' => ?_)
     | fail
    refine fin_r (by simp only [zL,zM]) (by simp (disch:=first|decide|(simp only[zF,zG];decide)) only [zA,zB,zC,zD,zE,zF,zG,zH,zI,zJ,zK,HV.cells,fl0,fl2,flS,flS1,flI1,flU1,flU2,flF]; try exact rfl) (sc_flat rfl (by dsimp only; omega) ?_); rfl
  have hck : chkR [s] r = 0 := by rw [chk_scl (by simp)]; exact (by assumption : Rdy [s] r).1
  refine rest13e (cp := cp) (by repeat' first|assumption|refine Ext.put ?_ (by omega) (by omega)|exact Ext.up (by assumption) (by omega)|exact Ext.nx (by assumption) (by omega)) (Nat.le_refl _) hck (by assumption) hrow (by omega) (by first|assumption|(simp (disch:=omega) only [get_same,get_other]; first|done|exact rfl)) (by first|assumption|(simp (disch:=omega) only [get_same,get_other]; first|done|exact rfl)) (by first|assumption|(simp (disch:=omega) only [get_same,get_other]; first|done|exact rfl)) ?_ ?_ ?_ ?_ ?_ ?_
  all_goals first|(simp only [zL,zM,zF,zG];done)|(simp (disch:=first|decide|(simp only[zF,zG];decide)) only [zA,zB,zC,zD,zE,zF,zG,zH,zI,zJ,zK,HV.cells,fl0,fl2,flS,flS1,flI1,flU1,flU2,flF];first|done|exact rfl)|assumption
end Go.Hx

/- The plain machine once more, as closures: what the kernel can reckon fast. This file: the machine. -/
namespace Go.Hx
noncomputable section

/-- Where a run goes on: temporaries, marks, blocks, the next number. -/
abbrev Kt := Tr HV → List Nat → Tr HBlk → Nat → Option (HV × HS)
/-- Where an operation's value goes. -/
abbrev Kv := HV → Tr HBlk → Nat → Option (HV × HS)
/-- Operations: the floor, temporaries, blocks, the next number, and where the value goes. -/
abbrev Ko := Nat → Tr HV → Tr HBlk → Nat → Kv → Option (HV × HS)
/-- Codes: the floor, the round, and where they go: behind, out of a block, out of the function. -/
abbrev Kc := Nat → Option Nat → Kt → (Nat → Kt) → Kt → Kt
/-- Functions. -/
abbrev Kf := Nat → List HV → Tr HBlk → Nat → Kv → Option (HV × HS)

def Pa.tmp (p : Pa) (a : Tr HV) : HV := Option.rec (motive := fun _ => HV) .undef (fun v => v) (Tr.getP p a)
/-- A closure that is made once: the kernel keeps what a closed term comes to. -/
inductive Bx (α : Type) where
  | mk (f : α)
def Bx.run {α : Type} (b : Bx α) : α := Bx.rec (motive := fun _ => α) (fun f => f) b
def Bx.then {α β : Type} (b : Bx α) (g : α → Bx β) : Bx β := Bx.rec (motive := fun _ => Bx β) g b
/-- A road, made once. -/
def Pa.then {β : Type} (p : Pa) (g : Pa → Bx β) : Bx β := Pa.rec (motive := fun _ => Bx β) (g .z) (fun q _ => g (.a q)) (fun q _ => g (.b q)) (fun q _ => g (.c q)) (fun q _ => g (.d q)) p
def evK (x : Lo) : Bx (Tr HV → HV) :=
  match x with
  | .t n => .mk (Pa.tmp (pa n))
  | .c v => .mk (fun _ => v)
def evL (x : Lo) (a : Tr HV) : HV := (evK x).run a
/-- All that is not served by itself. -/
def slowK (lp : Nat → Option LFunc) (nt : Nat) (o : LOp) : Ko := fun fl a h nx k =>
  match opH lp (exec lp 0) fl o ⟨nt, a, []⟩ ⟨h, nx⟩ with
  | some (v, σ) => k v σ.h σ.nx
  | none => none
def callK (fn : Nat → Bx Kf) (ro : Nat → Nat → List HV → Tr HBlk → Nat → Kv → Option (HV × HS)) (f : Tr HV → HV) (xs : List Lo) : Ko := fun fl a h nx k =>
  match f a with
  | .func g first captured => (fn g).run fl (first ++ xs.map (fun x => evL x a) ++ captured) h nx k
  | .yield l => ro fl l (xs.map fun x => evL x a) h nx k
  | _ => none
def binK (g : IntKind → Int → Int → Option HV) (x y : HV) (h : Tr HBlk) (nx : Nat) (k : Kv) : Option (HV × HS) :=
  match x, y with
  | .int k1 m, .int k2 n => bif sameK k1 k2 then (match g k1 m n with | some v => k v h nx | none => none) else none
  | _, _ => none
def addrK (off : Nat) (x : HV) (h : Tr HBlk) (nx : Nat) (k : Kv) : Option (HV × HS) :=
  match x with
  | .ptr (some (b, o)) => k (.ptr (some (b, Nat.add o off))) h nx
  | _ => none
def idxK (len size : Nat) (x i : HV) (h : Tr HBlk) (nx : Nat) (k : Kv) : Option (HV × HS) :=
  match x, i with
  | .ptr (some (b, o)), .int _ (.ofNat i) => bif Nat.blt i len then k (.ptr (some (b, Nat.add o (Nat.mul i size)))) h nx else none
  | _, _ => none
def nilK (x : HV) (h : Tr HBlk) (nx : Nat) (k : Kv) : Option (HV × HS) :=
  match x with
  | .ptr (some p) => k (.ptr (some p)) h nx
  | .func f first captured => k (.func f first captured) h nx
  | _ => none
def nthK (i : Nat) : List HV → Option HV :=
  Nat.rec (motive := fun _ => List HV → Option HV) (fun l => List.rec (motive := fun _ => Option HV) none (fun v _ _ => some v) l) (fun _ ih l => List.rec (motive := fun _ => Option HV) none (fun _ t _ => ih t) l) i
def setR (i : Nat) (v : HV) : List HV → List HV :=
  Nat.rec (motive := fun _ => List HV → List HV) (fun l => List.rec (motive := fun _ => List HV) [] (fun _ t _ => v :: t) l) (fun _ ih l => List.rec (motive := fun _ => List HV) [] (fun x t _ => x :: ih t) l) i
def loadK (x : HV) (h : Tr HBlk) (nx : Nat) (k : Kv) : Option (HV × HS) :=
  match x with
  | .ptr (some (b, o)) =>
    match h.get b with
    | some (.cells cs _) =>
      match nthK o cs with
      | some v => k v h nx
      | none => none
    | _ => none
  | _ => none
def wrOk : BK → Bool
  | .ro => false
  | _ => true
def storeK (fl : Nat) (x v : HV) (h : Tr HBlk) (nx : Nat) (k : Kv) : Option (HV × HS) :=
  match x with
  | .ptr (some (b, o)) =>
    match h.get b with
    | some (.cells cs bk) =>
      bif Nat.ble fl b && v.one && wrOk bk then
        match nthK o cs with
        | some _ => k .undef (h.set b (some (.cells (setR o v cs) bk))) nx
        | none => none
      else none
    | _ => none
  | _ => none
def compOp (lp : Nat → Option LFunc) (fn : Nat → Bx Kf) (ro : Nat → Nat → List HV → Tr HBlk → Nat → Kv → Option (HV × HS)) (nt : Nat) (o : LOp) : Bx Ko :=
  match o with
  | .move x => (evK x).then fun e => .mk fun _ a h nx k => k (e a) h nx
  | .bin op x y => (evK x).then fun e => (evK y).then fun f => .mk fun _ a h nx k => binK (bif isShift op then shiftH op else intFast op) (e a) (f a) h nx k
  | .fieldAddr off x => (evK x).then fun e => .mk fun _ a h nx k => addrK off (e a) h nx k
  | .indexAddrA len size x i => (evK x).then fun e => (evK i).then fun f => .mk fun _ a h nx k => idxK len size (e a) (f a) h nx k
  | .nilCheck x => (evK x).then fun e => .mk fun _ a h nx k => nilK (e a) h nx k
  | .load false 1 x => (evK x).then fun e => .mk fun _ a h nx k => loadK (e a) h nx k
  | .store 1 x v => (evK x).then fun e => (evK v).then fun f => .mk fun fl a h nx k => storeK fl (e a) (f a) h nx k
  | .call f xs => (evK f).then fun e => .mk (callK fn ro e xs)
  | o => .mk (slowK lp nt o)
def putK (nt : Nat) (dst : Option Nat) : Bx (Tr HV → HV → Tr HV) :=
  match dst with
  | none => .mk fun a _ => a
  | some d => bif Nat.blt d nt then (pa d).then fun p => .mk (fun a v => Tr.setP (some v) p a) else .mk fun a _ => a
def isB (want : Bool) : HV → Bool
  | .bool b => b == want
  | _ => false
def guardK (g : Option (Nat × Bool)) (o : Bx Ko) : Bx Ko :=
  match g with
  | none => o
  | some (t, want) => (evK (.t t)).then fun e => o.then fun o => .mk fun fl a h nx k =>
      bif isB want (e a) then o fl a h nx k else k .undef h nx
def compOps (op : LOp → Bx Ko) (nt : Nat) : List LOper → Bx (Nat → Kt → Kt)
  | [] => .mk fun _ k => k
  | o :: os => (guardK o.g (op o.op)).then fun f => (putK nt o.dst).then fun p => (compOps op nt os).then fun r => .mk fun fl k a ds h nx => f fl a h nx fun v h nx => r fl k (p a v) ds h nx
def drawK (op : LOp → Bx Ko) (nt s : Nat) : List LOper → Bx (Nat → Nat → Tr HBlk → List (Nat × List (Nat × HBlk)) → Kt → Tr HV → List Nat → Nat → Option (HV × HS))
  | [] => .mk fun _ _ h0 done k a ds nx => k a ds (merge h0 none done) nx
  | o :: os => (guardK o.g (op o.op)).then fun f => (putK nt o.dst).then fun p => (drawK op nt s os).then fun r => (compOps op nt (o :: os)).then fun q => .mk fun fl i h0 done k a ds nx =>
      bif Nat.blt i s then
        f nx a (merge h0 (some o.anc) done) nx fun v h nx' => bif Nat.ble nx nx' then r fl (Nat.succ i) h0 (bif Nat.beq nx nx' then done else (i, newFrom h nx (Nat.sub nx' nx)) :: done) k (p a v) ds nx' else none
      else q fl k a ds (merge h0 none done) nx
/-- The loop's record, by its parts. -/
def loopK (b : Option HBlk) (k : LState → HExit → Nat → Tr HV → List Nat → LCode → LCode → Nat → Option (HV × HS)) : Option (HV × HS) :=
  match b with
  | some (.loop ⟨st, pe, nt, tm, ps, asg, bo, mk⟩) => k st pe nt tm ps asg bo mk
  | _ => none
def marksK (rd : Option Nat) (h : Tr HBlk) (nx : Nat) (k : Nat → List Nat → Tr HBlk → Nat → Option (HV × HS)) : Option (HV × HS) :=
  match rd with
  | none => k nx [nx] (h.set nx (some .marks)) (Nat.succ nx)
  | some l => loopK (h.get l) fun _ _ _ _ _ _ _ mk => k mk [] h nx
def notBusy : LState → Bool
  | .busy => false
  | _ => true
def isReady : LState → Bool
  | .ready => true
  | _ => false
def jumpK (e : HExit) (kn : Kt) (kx : Nat → Kt) (kr : Kt) : Kt :=
  match e with
  | .normal => kn
  | .exit i => kx i
  | .ret => kr
def rangeK (fn : Nat → Bx Kf) (nt : Nat) (e : Tr HV → HV) (ps : List Nat) (assign body : LCode) : Kc := fun fl rd kn kx kr a ds h nx =>
  match e a with
  | .func g first captured =>
    marksK rd h nx fun mk ms h1 n1 =>
      (fn g).run fl (first ++ [.yield n1] ++ captured) (h1.set n1 (some (.loop ⟨.ready, .normal, nt, a, ps, assign, body, mk⟩))) (Nat.succ n1) fun _ h3 n3 =>
        loopK (h3.get n1) fun st pe nt' tm ps' asg bo mk' =>
          bif notBusy st && Nat.ble fl n1 then jumpK pe kn kx kr a (ms ++ ds) (h3.set n1 (some (.loop ⟨.exhausted, pe, nt', tm, ps', asg, bo, mk'⟩))) n3 else none
  | _ => none
def endK (l : Nat) (e : HExit) (k : Kv) (h : Tr HBlk) (nx : Nat) : Option (HV × HS) :=
  loopK (h.get l) fun _ _ nt tm ps asg bo mk =>
    match e with
    | .normal => k (.bool true) (h.set l (some (.loop ⟨.ready, .normal, nt, tm, ps, asg, bo, mk⟩))) nx
    | e => k (.bool false) (h.set l (some (.loop ⟨.done, e, nt, tm, ps, asg, bo, mk⟩))) nx
def roundK (co : Nat → LCode → Bx Kc) : Nat → Nat → List HV → Tr HBlk → Nat → Kv → Option (HV × HS) := fun fl l args h nx k =>
  loopK (h.get l) fun _ _ nt tm ps asg bo _ =>
    match zipPut nt tm ps args with
    | some tm1 =>
      (co nt asg).run fl (some l)
        (fun a1 ds1 h1 n1 => loopK (h1.get l) fun st pe nt' tm' ps' asg' bo' mk' =>
          bif isReady st && Nat.ble fl l then
            (co nt bo).run fl (some l) (fun _ _ => endK l .normal k) (fun i _ _ => endK l (.exit i) k) (fun _ _ => endK l .ret k) a1 ds1 (h1.set l (some (.loop ⟨.busy, pe, nt', tm', ps', asg', bo', mk'⟩))) n1
          else none)
        (fun _ _ _ _ _ => none) (fun _ _ _ _ => none) tm1 [] h nx
    | none => none
def comp (op : LOp → Bx Ko) (fn : Nat → Bx Kf) (nt : Nat) : LCode → Bx Kc
  | .skip => .mk fun _ _ kn _ _ => kn
  | .seq x y => (comp op fn nt x).then fun f => (comp op fn nt y).then fun g => .mk fun fl rd kn kx kr => f fl rd (g fl rd kn kx kr) kx kr
  | .cond c x y => (evK c).then fun e => (comp op fn nt x).then fun f => (comp op fn nt y).then fun g => .mk fun fl rd kn kx kr a ds h nx =>
      match e a with
      | .bool b => bif b then f fl rd kn kx kr a ds h nx else g fl rd kn kx kr a ds h nx
      | _ => none
  | .block id x => (comp op fn nt x).then fun f => .mk fun fl rd kn kx kr => f fl rd kn (fun i => bif Nat.beq i id then kn else kx i) kr
  | .loop x => (comp op fn nt x).then fun f => .mk fun fl rd _ kx kr => Nat.rec (motive := fun _ => Kt) (fun _ _ _ _ => none) (fun _ ih => f fl rd ih kx kr) 1000000
  | .scope x => comp op fn nt x
  | .exit id => .mk fun _ _ _ kx _ => kx id
  | .ret => .mk fun _ _ _ _ kr => kr
  | .reg ops => (compOps op nt ops).then fun f => .mk fun fl _ kn _ _ => f fl kn
  | .draw s ops => (drawK op nt s ops).then fun f => .mk fun fl _ kn _ _ a ds h nx => bif Nat.ble fl nx then f fl 0 h [] kn a ds nx else none
  | .rangeFunc f ps assign body => (evK f).then fun e => .mk (rangeK fn nt e ps assign body)
  | .bad => .mk fun _ _ _ _ _ _ _ _ _ => none
def leaveK (fl : Nat) (nt : Nat) (res : List LRes) (k : Kv) : Kt := fun a ds h nx =>
  match leaveH fl ⟨nt, a, ds⟩ res ⟨h, nx⟩ with
  | some (v, σ) => k v σ.h σ.nx
  | none => none
abbrev Kr := Nat → Nat → List HV → Tr HBlk → Nat → Kv → Option (HV × HS)
/-- Behind a call that wrote nothing of its caller's. -/
def gcK (h : Tr HBlk) (nx : Nat) (k : Kv) : Kv := fun v h' nx' => k v (keepD h' nx 5 [v] h) nx'
def specK (g : List HV → HS → Option (HV × HS)) : Kf := fun _ args h nx k =>
  match g args ⟨h, nx⟩ with
  | some (v, σ) => bif Nat.ble nx σ.nx then k v σ.h σ.nx else none
  | none => none
def enterK (lf : LFunc) (body : Kc) : Bx Kf :=
  bif lf.imp then .mk fun fl args h nx k => bif Nat.ble args.length lf.nt then body fl none (leaveK fl lf.nt lf.res k) (fun _ _ _ _ _ => none) (leaveK fl lf.nt lf.res k) (putAll .e 0 args) [] h nx else none
  else .mk fun _ args h nx k => bif Nat.ble args.length lf.nt then body nx none (leaveK nx lf.nt lf.res (gcK h nx k)) (fun _ _ _ _ _ => none) (leaveK nx lf.nt lf.res (gcK h nx k)) (putAll .e 0 args) [] h nx else none
/-- Functions and rounds, so deep. -/
def bothK (lp : Nat → Option LFunc) : Nat → (Nat → Bx Kf) × Kr
  | 0 => (fun _ => .mk fun _ _ _ _ _ => none, fun _ _ _ _ _ _ => none)
  | n + 1 =>
    (fun f =>
      match lp f with
      | none => .mk fun _ _ _ _ _ => none
      | some lf =>
        match lf.spec with
        | some g => .mk (specK g)
        | none => (comp (compOp lp (bothK lp n).1 (bothK lp n).2 lf.nt) (bothK lp n).1 lf.nt lf.body).then (enterK lf),
     roundK fun nt c => comp (compOp lp (bothK lp n).1 (bothK lp n).2 nt) (bothK lp n).1 nt c)
def fnK (lp : Nat → Option LFunc) (n : Nat) : Nat → Bx Kf := (bothK lp n).1
end
end Go.Hx

