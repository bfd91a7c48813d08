/- Layer 3: what can stand, by the reference: halving. -/
import Derived.Test.YtpilnebbghiemaaH05
set_option linter.all false
/- Layer 3: what can stand, by the reference: halving. -/
namespace Go.Hx
set_option linter.unusedSimpArgs false
set_option linter.unusedVariables false
set_option maxRecDepth 20000
set_option maxHeartbeats 4000000
attribute [local irreducible] W R C thenH inBlockH
--dropu
def RW (r : Int × Int) : Prop := r.1 ≤ r.2 ∧ -20000000000 ≤ r.1 ∧ r.2 ≤ 20000000000
theorem ROk.rw {r : Int × Int} (h : ROk r.1 r.2) : RW r := by unfold ROk at h; unfold RW; omega
/- 56 -/
theorem c_AllowedW {fl : Nat} {h : Tr HBlk} {nx : Nat} (hd : D h nx) {s r : Int × Int} (hs : SOk s.1 s.2) (hr : RW r) : C LW fl 56 [.agg (renc s), .agg (renc r)] ⟨h, nx⟩ (Sc (· = .agg (renc (hlo s r, hhi s r))) ⟨h, nx⟩) := by
  have hS := hs
  unfold SOk at hS
  unfold RW at hr
  have cA : ∀ fl h' n' p, (-40000000001 ≤ p ∧ p ≤ 40000000001) → C LW fl 83 [.agg (renc s), i64 p] ⟨h', n'⟩ (Sc (· = i64 (abv s p)) ⟨h', n'⟩) := fun fl h' n' p hp => c_Above hs (by unfold Mid; omega)
  have e1 : min (abv s (2 * r.1 - 1)) (abv s (2 * r.2 + 1)) = hlo s r := by
    unfold abv hlo tl tn ic
    by_cases e : s.1 < s.2
    · rw [if_pos (by omega), if_pos (by omega), if_pos e, decide_eq_false (by omega)]; simp only [Bool.false_eq_true, if_false]; omega
    · rw [if_neg (by omega), if_neg (by omega), if_neg e, decide_eq_true (by omega)]; simp only [if_true]; omega
  have e2 : max (abv s (2 * r.1 - 1)) (abv s (2 * r.2 + 1)) = hhi s r := by
    unfold abv hhi th tn ic
    by_cases e : s.1 < s.2
    · rw [if_pos (by omega), if_pos (by omega), if_pos e, decide_eq_false (by omega)]; simp only [Bool.false_eq_true, if_false]; omega
    · rw [if_neg (by omega), if_neg (by omega), if_neg e, decide_eq_true (by omega)]; simp only [if_true]; omega
  refine c_in lw56 rfl rfl rfl ?_
  dsimp only [L56]
  repeat' first
   | refine r_nil ?_
   | refine th_n ?_
   | refine w_seq ?_
   | refine w_reg ?_
   | refine w_ret ?_
   | refine r_move (by simp (disch:=first|decide|(simp only[zF,zG,e1, e2];decide)) only [zA,zB,zC,zD,zE,zF,zG,zH,zI,zJ,zK,HV.cells,fl0,fl2,flS,flS1,flI1,flU1,flU2,flF,e1, e2]; try exact rfl) ?_
   | refine r_fa (by simp (disch:=first|decide|(simp only[zF,zG,e1, e2];decide)) only [zA,zB,zC,zD,zE,zF,zG,zH,zI,zJ,zK,HV.cells,fl0,fl2,flS,flS1,flI1,flU1,flU2,flF,e1, e2]; try exact rfl) ?_
   | refine r_ld1 (by simp (disch:=first|decide|(simp only[zF,zG,e1, e2];decide)) only [zA,zB,zC,zD,zE,zF,zG,zH,zI,zJ,zK,HV.cells,fl0,fl2,flS,flS1,flI1,flU1,flU2,flF,e1, e2]; try exact rfl) (by first|assumption|(simp (disch:=omega) only [get_same,get_other,e1, e2]; first|done|exact rfl)) (by first|assumption|exact ow2 _ _ _ _|exact ow3 _ _ _ _ _ _|rfl|(simp only [zI,zJ,HV.cells,e1, e2]; exact rfl)) ?_
   | refine r_ldn (by simp (disch:=first|decide|(simp only[zF,zG,e1, e2];decide)) only [zA,zB,zC,zD,zE,zF,zG,zH,zI,zJ,zK,HV.cells,fl0,fl2,flS,flS1,flI1,flU1,flU2,flF,e1, e2]; try exact rfl) (by first|assumption|(simp (disch:=omega) only [get_same,get_other,e1, e2]; first|done|exact rfl)) (by first|assumption|exact ow2 _ _ _ _|exact ow3 _ _ _ _ _ _|rfl|(simp only [zI,zJ,HV.cells,e1, e2]; exact rfl)) ?_
   | refine r_box (by simp (disch:=first|decide|(simp only[zF,zG,e1, e2];decide)) only [zA,zB,zC,zD,zE,zF,zG,zH,zI,zJ,zK,HV.cells,fl0,fl2,flS,flS1,flI1,flU1,flU2,flF,e1, e2]; try exact rfl) ?_
   | refine r_alloc ?_
   | refine r_st (cs' := _) (by simp (disch:=first|decide|(simp only[zF,zG,e1, e2];decide)) only [zA,zB,zC,zD,zE,zF,zG,zH,zI,zJ,zK,HV.cells,fl0,fl2,flS,flS1,flI1,flU1,flU2,flF,e1, e2]; try exact rfl) (by simp (disch:=first|decide|(simp only[zF,zG,e1, e2];decide)) only [zA,zB,zC,zD,zE,zF,zG,zH,zI,zJ,zK,HV.cells,fl0,fl2,flS,flS1,flI1,flU1,flU2,flF,e1, e2]; try exact rfl) (by first|assumption|(simp (disch:=omega) only [get_same,get_other,e1, e2]; first|done|exact rfl)) (by exact True.intro) (by rfl) (by rfl) (by first|assumption|exact ow2 _ _ _ _|exact ow3 _ _ _ _ _ _|rfl|(simp only [zI,zJ,HV.cells,e1, e2]; exact rfl)) (by omega) ?_
   | refine r_add (by simp (disch:=first|decide|(simp only[zF,zG,e1, e2];decide)) only [zA,zB,zC,zD,zE,zF,zG,zH,zI,zJ,zK,HV.cells,fl0,fl2,flS,flS1,flI1,flU1,flU2,flF,e1, e2]; try exact rfl) (by simp (disch:=first|decide|(simp only[zF,zG,e1, e2];decide)) only [zA,zB,zC,zD,zE,zF,zG,zH,zI,zJ,zK,HV.cells,fl0,fl2,flS,flS1,flI1,flU1,flU2,flF,e1, e2]; try exact rfl) (by omega) (by omega) ?_
   | refine r_sub (by simp (disch:=first|decide|(simp only[zF,zG,e1, e2];decide)) only [zA,zB,zC,zD,zE,zF,zG,zH,zI,zJ,zK,HV.cells,fl0,fl2,flS,flS1,flI1,flU1,flU2,flF,e1, e2]; try exact rfl) (by simp (disch:=first|decide|(simp only[zF,zG,e1, e2];decide)) only [zA,zB,zC,zD,zE,zF,zG,zH,zI,zJ,zK,HV.cells,fl0,fl2,flS,flS1,flI1,flU1,flU2,flF,e1, e2]; try exact rfl) (by omega) (by omega) ?_
   | refine r_mul (by simp (disch:=first|decide|(simp only[zF,zG,e1, e2];decide)) only [zA,zB,zC,zD,zE,zF,zG,zH,zI,zJ,zK,HV.cells,fl0,fl2,flS,flS1,flI1,flU1,flU2,flF,e1, e2]; try exact rfl) (by simp (disch:=first|decide|(simp only[zF,zG,e1, e2];decide)) only [zA,zB,zC,zD,zE,zF,zG,zH,zI,zJ,zK,HV.cells,fl0,fl2,flS,flS1,flI1,flU1,flU2,flF,e1, e2]; try exact rfl) (by omega) (by omega) ?_
   | refine r_max2 (by simp (disch:=first|decide|(simp only[zF,zG,e1, e2];decide)) only [zA,zB,zC,zD,zE,zF,zG,zH,zI,zJ,zK,HV.cells,fl0,fl2,flS,flS1,flI1,flU1,flU2,flF,e1, e2]; try exact rfl) (by simp (disch:=first|decide|(simp only[zF,zG,e1, e2];decide)) only [zA,zB,zC,zD,zE,zF,zG,zH,zI,zJ,zK,HV.cells,fl0,fl2,flS,flS1,flI1,flU1,flU2,flF,e1, e2]; try exact rfl) ?_
   | refine r_min2 (by simp (disch:=first|decide|(simp only[zF,zG,e1, e2];decide)) only [zA,zB,zC,zD,zE,zF,zG,zH,zI,zJ,zK,HV.cells,fl0,fl2,flS,flS1,flI1,flU1,flU2,flF,e1, e2]; try exact rfl) (by simp (disch:=first|decide|(simp only[zF,zG,e1, e2];decide)) only [zA,zB,zC,zD,zE,zF,zG,zH,zI,zJ,zK,HV.cells,fl0,fl2,flS,flS1,flI1,flU1,flU2,flF,e1, e2]; try exact rfl) ?_
   | refine r_build (by simp (disch:=first|decide|(simp only[zF,zG,e1, e2];decide)) only [evParts,List.map_cons,List.map_nil,List.nil_append,List.cons_append,List.append_nil,zA,zB,zC,zD,zE,zF,zG,zH,zI,zJ,zK,HV.cells,fl0,fl2,flS,flS1,flI1,flU1,flU2,flF,e1, e2]; try exact rfl) ?_
   | refine r_calls (by simp (disch:=first|decide|(simp only[zF,zG,e1, e2];decide)) only [zA,zB,zC,zD,zE,zF,zG,zH,zI,zJ,zK,HV.cells,fl0,fl2,flS,flS1,flI1,flU1,flU2,flF,e1, e2]; try exact rfl) (by simp (disch:=first|decide|(simp only[zF,zG,e1, e2];decide)) only [List.map_cons,List.map_nil,List.nil_append,List.cons_append,List.append_nil,zA,zB,zC,zD,zE,zF,zG,zH,zI,zJ,zK,HV.cells,fl0,fl2,flS,flS1,flI1,flU1,flU2,flF,e1, e2]; first|done|exact rfl) (cA _ _ _ _ (by omega)) (fun n' hn' => ?_)
   | refine w_draw (by omega) (by (repeat' first|assumption|refine D.upd ?_ (by omega)|exact D.mono (by assumption) (by omega)) <;> fail) ?_
   | refine d_rest rfl ?_
   | refine d_one rfl ?_
   | refine d_next (by omega) ?_
   | fail
  exact fin_m (by simp only [zL,zM]) (res_c (by simp (disch:=first|decide|(simp only[zF,zG];decide)) only [zA,zB,zC,zD,zE,zF,zG,zH,zI,zJ,zK,HV.cells,fl0,fl2,flS,flS1,flI1,flU1,flU2,flF]; try exact rfl) (by first|assumption|(simp (disch:=omega) only [get_same,get_other]; first|done|exact rfl)) rfl res_nil) (sc_flat rfl (by dsimp only; omega) rfl)
theorem hw_bd {s r : Int × Int} (hs : SOk s.1 s.2) (hr : RW r) : (1 ≤ dg s ∧ dg s ≤ 2000) ∧ (-50000000000 ≤ hlo s r ∧ hlo s r ≤ 50000000000) ∧ (-50000000000 ≤ hhi s r ∧ hhi s r ≤ 50000000000) := by
  have a1 := s_bd hs
  unfold RW at hr
  have a3 : (-20000000000 ≤ tl (tn s.1 s.2) r.1 r.2 ∧ tl (tn s.1 s.2) r.1 r.2 ≤ 20000000000) ∧ -20000000000 ≤ th (tn s.1 s.2) r.1 r.2 ∧ th (tn s.1 s.2) r.1 r.2 ≤ 20000000000 := by
    unfold tl th
    cases tn s.1 s.2 <;> simp only [if_true, if_false, Bool.false_eq_true] <;> omega
  unfold dg hlo hhi
  omega
/- 61 -/
theorem c_Low {fl : Nat} {h : Tr HBlk} {nx : Nat} (hd : D h nx) {s o r : Int × Int} {q : Int} (hs : SOk s.1 s.2) (ho : SOk o.1 o.2) (hr : RW r) (hq : RW (q, q)) : C LW fl 61 [.agg (renc s), i64 q, .agg (renc o), .agg (renc r)] ⟨h, nx⟩ (Sc (· = .bool (decide (hhi s (q, q) * (2 * dg o) < hlo o r * (2 * dg s)))) ⟨h, nx⟩) := by
  obtain ⟨b1, b2, b3⟩ := hw_bd hs hq
  obtain ⟨d1, d2, d3⟩ := hw_bd ho hr
  have m2 := mul_bs (p := hhi s (q, q)) (q := 2 * dg o) (A := 50000000000) (B := 4000) b3.1 b3.2 (by omega) (by omega) (by omega)
  have m3 := mul_bs (p := hlo o r) (q := 2 * dg s) (A := 50000000000) (B := 4000) d2.1 d2.2 (by omega) (by omega) (by omega)
  have cA1 : ∀ fl h' n', D h' n' → C LW fl 56 [.agg (renc s), .agg [i64 q, i64 q]] ⟨h', n'⟩ (Sc (· = .agg (renc (hlo s (q, q), hhi s (q, q)))) ⟨h', n'⟩) := fun fl h' n' e => c_AllowedW (r := (q, q)) e hs hq
  have cA2 : ∀ fl h' n', D h' n' → C LW fl 56 [.agg (renc o), .agg (renc r)] ⟨h', n'⟩ (Sc (· = .agg (renc (hlo o r, hhi o r))) ⟨h', n'⟩) := fun fl h' n' e => c_AllowedW e ho hr
  have cZ : ∀ fl h' n' s, SOk s.1 s.2 → C LW fl 58 [.agg (renc s)] ⟨h', n'⟩ (Sc (· = i64 (2 * dg s)) ⟨h', n'⟩) := fun fl h' n' s hh => c_Size hh
  refine c_in lw61 rfl rfl rfl ?_
  dsimp only [L61]
  repeat' first
   | refine r_nil ?_
   | refine th_n ?_
   | refine w_seq ?_
   | refine w_reg ?_
   | refine w_ret ?_
   | refine r_move (by simp (disch:=first|decide|(simp only[zF,zG];decide)) only [zA,zB,zC,zD,zE,zF,zG,zH,zI,zJ,zK,HV.cells,fl0,fl2,flS,flS1,flI1,flU1,flU2,flF]; try exact rfl) ?_
   | refine r_ldn (by simp (disch:=first|decide|(simp only[zF,zG];decide)) only [zA,zB,zC,zD,zE,zF,zG,zH,zI,zJ,zK,HV.cells,fl0,fl2,flS,flS1,flI1,flU1,flU2,flF]; try exact rfl) (by first|assumption|(simp (disch:=omega) only [get_same,get_other]; first|done|exact rfl)) (by first|assumption|exact ow2 _ _ _ _|exact ow3 _ _ _ _ _ _|rfl|(simp only [zI,zJ,HV.cells]; exact rfl)) ?_
   | refine r_box (by simp (disch:=first|decide|(simp only[zF,zG];decide)) only [zA,zB,zC,zD,zE,zF,zG,zH,zI,zJ,zK,HV.cells,fl0,fl2,flS,flS1,flI1,flU1,flU2,flF]; try exact rfl) ?_
   | refine r_mul (by simp (disch:=first|decide|(simp only[zF,zG];decide)) only [zA,zB,zC,zD,zE,zF,zG,zH,zI,zJ,zK,HV.cells,fl0,fl2,flS,flS1,flI1,flU1,flU2,flF]; try exact rfl) (by simp (disch:=first|decide|(simp only[zF,zG];decide)) only [zA,zB,zC,zD,zE,zF,zG,zH,zI,zJ,zK,HV.cells,fl0,fl2,flS,flS1,flI1,flU1,flU2,flF]; try exact rfl) (by omega) (by omega) ?_
   | refine r_lss (by simp (disch:=first|decide|(simp only[zF,zG];decide)) only [zA,zB,zC,zD,zE,zF,zG,zH,zI,zJ,zK,HV.cells,fl0,fl2,flS,flS1,flI1,flU1,flU2,flF]; try exact rfl) (by simp (disch:=first|decide|(simp only[zF,zG];decide)) only [zA,zB,zC,zD,zE,zF,zG,zH,zI,zJ,zK,HV.cells,fl0,fl2,flS,flS1,flI1,flU1,flU2,flF]; try exact rfl) (fun hc => ?_) (fun hc => ?_) <;> (try (exfalso; omega))
   | refine r_fld1 (by simp (disch:=first|decide|(simp only[zF,zG];decide)) only [zA,zB,zC,zD,zE,zF,zG,zH,zI,zJ,zK,HV.cells,fl0,fl2,flS,flS1,flI1,flU1,flU2,flF]; try exact rfl) (by first|assumption|exact ow2 _ _ _ _|exact ow3 _ _ _ _ _ _|rfl|(simp only [zI,zJ,HV.cells]; exact rfl)) ?_
   | refine r_build (by simp (disch:=first|decide|(simp only[zF,zG];decide)) only [evParts,List.map_cons,List.map_nil,List.nil_append,List.cons_append,List.append_nil,zA,zB,zC,zD,zE,zF,zG,zH,zI,zJ,zK,HV.cells,fl0,fl2,flS,flS1,flI1,flU1,flU2,flF]; try exact rfl) ?_
   | refine r_calls (by simp (disch:=first|decide|(simp only[zF,zG];decide)) only [zA,zB,zC,zD,zE,zF,zG,zH,zI,zJ,zK,HV.cells,fl0,fl2,flS,flS1,flI1,flU1,flU2,flF]; try exact rfl) (by simp (disch:=first|decide|(simp only[zF,zG];decide)) only [List.map_cons,List.map_nil,List.nil_append,List.cons_append,List.append_nil,zA,zB,zC,zD,zE,zF,zG,zH,zI,zJ,zK,HV.cells,fl0,fl2,flS,flS1,flI1,flU1,flU2,flF]; first|done|exact rfl) (cA1 _ _ _ (by (repeat' first|assumption|refine D.upd ?_ (by omega)|exact D.mono (by assumption) (by omega)) <;> fail)) (fun n' hn' => ?_)
   | refine r_calls (by simp (disch:=first|decide|(simp only[zF,zG];decide)) only [zA,zB,zC,zD,zE,zF,zG,zH,zI,zJ,zK,HV.cells,fl0,fl2,flS,flS1,flI1,flU1,flU2,flF]; try exact rfl) (by simp (disch:=first|decide|(simp only[zF,zG];decide)) only [List.map_cons,List.map_nil,List.nil_append,List.cons_append,List.append_nil,zA,zB,zC,zD,zE,zF,zG,zH,zI,zJ,zK,HV.cells,fl0,fl2,flS,flS1,flI1,flU1,flU2,flF]; first|done|exact rfl) (cA2 _ _ _ (by (repeat' first|assumption|refine D.upd ?_ (by omega)|exact D.mono (by assumption) (by omega)) <;> fail)) (fun n' hn' => ?_)
   | refine r_calls (by simp (disch:=first|decide|(simp only[zF,zG];decide)) only [zA,zB,zC,zD,zE,zF,zG,zH,zI,zJ,zK,HV.cells,fl0,fl2,flS,flS1,flI1,flU1,flU2,flF]; try exact rfl) (by simp (disch:=first|decide|(simp only[zF,zG];decide)) only [List.map_cons,List.map_nil,List.nil_append,List.cons_append,List.append_nil,zA,zB,zC,zD,zE,zF,zG,zH,zI,zJ,zK,HV.cells,fl0,fl2,flS,flS1,flI1,flU1,flU2,flF]; first|done|exact rfl) (cZ _ _ _ _ (by assumption)) (fun n' hn' => ?_)
   | refine w_draw (by omega) (by (repeat' first|assumption|refine D.upd ?_ (by omega)|exact D.mono (by assumption) (by omega)) <;> fail) ?_
   | refine d_rest rfl ?_
   | refine d_one rfl ?_
   | refine d_next (by omega) ?_
   | fail
  all_goals (refine fin_r (by simp only [zL,zM]) (by simp (disch:=first|decide|(simp only[zF,zG];decide)) only [zA,zB,zC,zD,zE,zF,zG,zH,zI,zJ,zK,HV.cells,fl0,fl2,flS,flS1,flI1,flU1,flU2,flF]; try exact rfl) (sc_flat rfl (by dsimp only; omega) ?_); first|rfl|(rw [decide_eq_true (by omega)])|(rw [decide_eq_false (by omega)]))
/- 62 -/
theorem c_High {fl : Nat} {h : Tr HBlk} {nx : Nat} (hd : D h nx) {s o r : Int × Int} {q : Int} (hs : SOk s.1 s.2) (ho : SOk o.1 o.2) (hr : RW r) (hq : RW (q, q)) : C LW fl 62 [.agg (renc s), i64 q, .agg (renc o), .agg (renc r)] ⟨h, nx⟩ (Sc (· = .bool (decide (hhi o r * (2 * dg s) < hlo s (q, q) * (2 * dg o)))) ⟨h, nx⟩) := by
  obtain ⟨b1, b2, b3⟩ := hw_bd hs hq
  obtain ⟨d1, d2, d3⟩ := hw_bd ho hr
  have m2 := mul_bs (p := hlo s (q, q)) (q := 2 * dg o) (A := 50000000000) (B := 4000) b2.1 b2.2 (by omega) (by omega) (by omega)
  have m3 := mul_bs (p := hhi o r) (q := 2 * dg s) (A := 50000000000) (B := 4000) d3.1 d3.2 (by omega) (by omega) (by omega)
  have cA1 : ∀ fl h' n', D h' n' → C LW fl 56 [.agg (renc s), .agg [i64 q, i64 q]] ⟨h', n'⟩ (Sc (· = .agg (renc (hlo s (q, q), hhi s (q, q)))) ⟨h', n'⟩) := fun fl h' n' e => c_AllowedW (r := (q, q)) e hs hq
  have cA2 : ∀ fl h' n', D h' n' → C LW fl 56 [.agg (renc o), .agg (renc r)] ⟨h', n'⟩ (Sc (· = .agg (renc (hlo o r, hhi o r))) ⟨h', n'⟩) := fun fl h' n' e => c_AllowedW e ho hr
  have cZ : ∀ fl h' n' s, SOk s.1 s.2 → C LW fl 58 [.agg (renc s)] ⟨h', n'⟩ (Sc (· = i64 (2 * dg s)) ⟨h', n'⟩) := fun fl h' n' s hh => c_Size hh
  refine c_in lw62 rfl rfl rfl ?_
  dsimp only [L62]
  repeat' first
   | refine r_nil ?_
   | refine th_n ?_
   | refine w_seq ?_
   | refine w_reg ?_
   | refine w_ret ?_
   | refine r_move (by simp (disch:=first|decide|(simp only[zF,zG];decide)) only [zA,zB,zC,zD,zE,zF,zG,zH,zI,zJ,zK,HV.cells,fl0,fl2,flS,flS1,flI1,flU1,flU2,flF]; try exact rfl) ?_
   | refine r_ldn (by simp (disch:=first|decide|(simp only[zF,zG];decide)) only [zA,zB,zC,zD,zE,zF,zG,zH,zI,zJ,zK,HV.cells,fl0,fl2,flS,flS1,flI1,flU1,flU2,flF]; try exact rfl) (by first|assumption|(simp (disch:=omega) only [get_same,get_other]; first|done|exact rfl)) (by first|assumption|exact ow2 _ _ _ _|exact ow3 _ _ _ _ _ _|rfl|(simp only [zI,zJ,HV.cells]; exact rfl)) ?_
   | refine r_box (by simp (disch:=first|decide|(simp only[zF,zG];decide)) only [zA,zB,zC,zD,zE,zF,zG,zH,zI,zJ,zK,HV.cells,fl0,fl2,flS,flS1,flI1,flU1,flU2,flF]; try exact rfl) ?_
   | refine r_mul (by simp (disch:=first|decide|(simp only[zF,zG];decide)) only [zA,zB,zC,zD,zE,zF,zG,zH,zI,zJ,zK,HV.cells,fl0,fl2,flS,flS1,flI1,flU1,flU2,flF]; try exact rfl) (by simp (disch:=first|decide|(simp only[zF,zG];decide)) only [zA,zB,zC,zD,zE,zF,zG,zH,zI,zJ,zK,HV.cells,fl0,fl2,flS,flS1,flI1,flU1,flU2,flF]; try exact rfl) (by omega) (by omega) ?_
   | refine r_gtr (by simp (disch:=first|decide|(simp only[zF,zG];decide)) only [zA,zB,zC,zD,zE,zF,zG,zH,zI,zJ,zK,HV.cells,fl0,fl2,flS,flS1,flI1,flU1,flU2,flF]; try exact rfl) (by simp (disch:=first|decide|(simp only[zF,zG];decide)) only [zA,zB,zC,zD,zE,zF,zG,zH,zI,zJ,zK,HV.cells,fl0,fl2,flS,flS1,flI1,flU1,flU2,flF]; try exact rfl) (fun hc => ?_) (fun hc => ?_) <;> (try (exfalso; omega))
   | refine r_fld1 (by simp (disch:=first|decide|(simp only[zF,zG];decide)) only [zA,zB,zC,zD,zE,zF,zG,zH,zI,zJ,zK,HV.cells,fl0,fl2,flS,flS1,flI1,flU1,flU2,flF]; try exact rfl) (by first|assumption|exact ow2 _ _ _ _|exact ow3 _ _ _ _ _ _|rfl|(simp only [zI,zJ,HV.cells]; exact rfl)) ?_
   | refine r_build (by simp (disch:=first|decide|(simp only[zF,zG];decide)) only [evParts,List.map_cons,List.map_nil,List.nil_append,List.cons_append,List.append_nil,zA,zB,zC,zD,zE,zF,zG,zH,zI,zJ,zK,HV.cells,fl0,fl2,flS,flS1,flI1,flU1,flU2,flF]; try exact rfl) ?_
   | refine r_calls (by simp (disch:=first|decide|(simp only[zF,zG];decide)) only [zA,zB,zC,zD,zE,zF,zG,zH,zI,zJ,zK,HV.cells,fl0,fl2,flS,flS1,flI1,flU1,flU2,flF]; try exact rfl) (by simp (disch:=first|decide|(simp only[zF,zG];decide)) only [List.map_cons,List.map_nil,List.nil_append,List.cons_append,List.append_nil,zA,zB,zC,zD,zE,zF,zG,zH,zI,zJ,zK,HV.cells,fl0,fl2,flS,flS1,flI1,flU1,flU2,flF]; first|done|exact rfl) (cA1 _ _ _ (by (repeat' first|assumption|refine D.upd ?_ (by omega)|exact D.mono (by assumption) (by omega)) <;> fail)) (fun n' hn' => ?_)
   | refine r_calls (by simp (disch:=first|decide|(simp only[zF,zG];decide)) only [zA,zB,zC,zD,zE,zF,zG,zH,zI,zJ,zK,HV.cells,fl0,fl2,flS,flS1,flI1,flU1,flU2,flF]; try exact rfl) (by simp (disch:=first|decide|(simp only[zF,zG];decide)) only [List.map_cons,List.map_nil,List.nil_append,List.cons_append,List.append_nil,zA,zB,zC,zD,zE,zF,zG,zH,zI,zJ,zK,HV.cells,fl0,fl2,flS,flS1,flI1,flU1,flU2,flF]; first|done|exact rfl) (cA2 _ _ _ (by (repeat' first|assumption|refine D.upd ?_ (by omega)|exact D.mono (by assumption) (by omega)) <;> fail)) (fun n' hn' => ?_)
   | refine r_calls (by simp (disch:=first|decide|(simp only[zF,zG];decide)) only [zA,zB,zC,zD,zE,zF,zG,zH,zI,zJ,zK,HV.cells,fl0,fl2,flS,flS1,flI1,flU1,flU2,flF]; try exact rfl) (by simp (disch:=first|decide|(simp only[zF,zG];decide)) only [List.map_cons,List.map_nil,List.nil_append,List.cons_append,List.append_nil,zA,zB,zC,zD,zE,zF,zG,zH,zI,zJ,zK,HV.cells,fl0,fl2,flS,flS1,flI1,flU1,flU2,flF]; first|done|exact rfl) (cZ _ _ _ _ (by assumption)) (fun n' hn' => ?_)
   | refine w_draw (by omega) (by (repeat' first|assumption|refine D.upd ?_ (by omega)|exact D.mono (by assumption) (by omega)) <;> fail) ?_
   | refine d_rest rfl ?_
   | refine d_one rfl ?_
   | refine d_next (by omega) ?_
   | fail
  all_goals (refine fin_r (by simp only [zL,zM]) (by simp (disch:=first|decide|(simp only[zF,zG];decide)) only [zA,zB,zC,zD,zE,zF,zG,zH,zI,zJ,zK,HV.cells,fl0,fl2,flS,flS1,flI1,flU1,flU2,flF]; try exact rfl) (sc_flat rfl (by dsimp only; omega) ?_); first|rfl|(rw [decide_eq_true (by omega)])|(rw [decide_eq_false (by omega)]))
/-- Which way degrees count. -/
def Way (s : Int × Int) (w : Int) : Prop := (w = 1 ∧ s.1 < s.2) ∨ (w = -1 ∧ s.2 < s.1)
theorem way_uu {s : Int × Int} {w n : Int} (hw : Way s w) : uu s (s.1 + w * n) = n := by
  unfold uu
  rcases hw with ⟨e, h⟩ | ⟨e, h⟩
  · rw [if_pos h, e, Int.one_mul]; omega
  · rw [if_neg (by omega), e, Int.neg_mul, Int.one_mul]; omega
theorem way_bd {s : Int × Int} {w n A : Int} (hw : Way s w) (h : -A ≤ n ∧ n ≤ A) : -A ≤ w * n ∧ w * n ≤ A := by
  rcases hw with ⟨e, _⟩ | ⟨e, _⟩
  · rw [e, Int.one_mul]; exact h
  · rw [e, Int.neg_mul, Int.one_mul]; omega
theorem low_iff {s o r : Int × Int} {w n : Int} (hw : Way s w) (ho : 1 ≤ dg o) : hhi s (s.1 + w * n, s.1 + w * n) * (2 * dg o) < hlo o r * (2 * dg s) ↔ n < slo o s r := by
  rw [hhi_uu, way_uu hw]
  have := cd_iff (m := hlo o r * dg s - dg o) (n := 2 * dg o) (q := n) (by omega)
  have e : slo o s r = cdiv (hlo o r * dg s - dg o) (2 * dg o) := rfl
  rw [← e] at this
  have e2 : (2 * n + 1) * (2 * dg o) = 2 * (n * (2 * dg o)) + 2 * dg o := by grind
  have e3 : hlo o r * (2 * dg s) = 2 * (hlo o r * dg s) := by grind
  rw [e2, e3]
  constructor
  · intro h; have := mt this.1 (by omega); omega
  · intro h; have := mt this.2 (by omega); omega
theorem high_iff {s o r : Int × Int} {w n : Int} (hw : Way s w) (ho : 1 ≤ dg o) : hhi o r * (2 * dg s) < hlo s (s.1 + w * n, s.1 + w * n) * (2 * dg o) ↔ shi o s r < n := by
  rw [hlo_uu, way_uu hw]
  have := fl_iff (m := hhi o r * dg s + dg o) (n := 2 * dg o) (q := n) (by omega)
  have e : shi o s r = (hhi o r * dg s + dg o) / (2 * dg o) := rfl
  rw [← e] at this
  have e2 : (2 * n - 1) * (2 * dg o) = 2 * (n * (2 * dg o)) - 2 * dg o := by grind
  have e3 : hhi o r * (2 * dg s) = 2 * (hhi o r * dg s) := by grind
  rw [e2, e3]
  constructor
  · intro h; have := mt this.1 (by omega); omega
  · intro h; have := mt this.2 (by omega); omega
/- 28 -/
theorem loop28a {fl : Nat} {h : Tr HBlk} {n0 b3 b4 b5 : Nat} {Q : HExit → HAct → HS → Prop} {s o r : Int × Int} {w : Int} {t6 : HV} (hs : SOk s.1 s.2) (ho : SOk o.1 o.2) (hr : ROk r.1 r.2) (hw : Way s w) (hg3 : h.get b3 = some (.cells (renc o) .exact)) (hg4 : h.get b4 = some (.cells (renc s) .exact)) (hg5 : h.get b5 = some (.cells (renc r) .exact)) :
    ∀ (m : Nat) (lo hi : Int) (a : HAct) (nx : Nat), (hi - lo).toNat ≤ m → -17179869184 ≤ lo → hi ≤ 17179869184 → lo < slo o s r → slo o s r ≤ hi → fl ≤ nx → D h nx → a.nt = 80 → a.defers = [] → a.tmp 3 = .ptr (some (b3, 0)) → a.tmp 4 = .ptr (some (b4, 0)) → a.tmp 5 = .ptr (some (b5, 0)) → a.tmp 6 = t6 → a.tmp 7 = i64 w → a.tmp 8 = i64 lo → a.tmp 9 = i64 hi →
      (∀ a' n', nx ≤ n' → a'.nt = 80 → a'.defers = [] → a'.tmp 3 = .ptr (some (b3, 0)) → a'.tmp 4 = .ptr (some (b4, 0)) → a'.tmp 5 = .ptr (some (b5, 0)) → a'.tmp 6 = t6 → a'.tmp 7 = i64 w → a'.tmp 9 = i64 (slo o s r) → Q .normal a' ⟨h, n'⟩) → W LW fl none (.loop L28w1) (inBlockH 0 Q) a ⟨h, nx⟩ := by
  have A := s_bd ho
  have dO : 1 ≤ dg o := by unfold dg; omega
  have hS := hs
  unfold SOk at hS
  intro m
  induction m with
  | zero =>
    intro lo hi a nx hm h1 h2 h3 h4 hfl hd hnt hds t3 t4 t5 t6 t7 t8 t9 hq
    omega
  | succ m ih =>
    intro lo hi a nx hm h1 h2 h3 h4 hfl hd hnt hds t3 t4 t5 t6 t7 t8 t9 hq
    have wb := way_bd (n := (lo + hi) / 2) (A := 17179869184) hw (by omega)
    have cF : ∀ fl h' n', C LW fl 57 [i64 (lo + hi), i64 2] ⟨h', n'⟩ (Sc (· = i64 ((lo + hi) / 2)) ⟨h', n'⟩) := fun fl h' n' => c_Floor (by unfold Big; omega) (by omega) (by omega)
    have cL : ∀ fl h' n', D h' n' → C LW fl 61 [.agg (renc s), i64 (s.1 + w * ((lo + hi) / 2)), .agg (renc o), .agg (renc r)] ⟨h', n'⟩ (Sc (· = .bool (decide ((lo + hi) / 2 < slo o s r))) ⟨h', n'⟩) := fun fl h' n' e => by
      have := c_Low (fl := fl) e (q := s.1 + w * ((lo + hi) / 2)) hs ho (ROk.rw hr) (by unfold RW; dsimp only; omega)
      rwa [show decide (hhi s (s.1 + w * ((lo + hi) / 2), s.1 + w * ((lo + hi) / 2)) * (2 * dg o) < hlo o r * (2 * dg s)) = decide ((lo + hi) / 2 < slo o s r) by congr 1; exact propext (low_iff hw dO)] at this
    refine w_it (show L28w1 = _ by unfold L28w1; exact rfl) ?_
    repeat' first
     | refine r_nil ?_
     | refine th_n ?_
     | refine th_e ?_
     | refine ib_n ?_
     | refine ib_e ?_
     | refine w_exit ?_
     | refine w_seq ?_
     | refine w_reg ?_
     | refine w_skip ?_
     | refine w_block ?_
     | refine w_t (by simp (disch:=first|decide|(simp only[zF,zG,hnt, t3, t4, t5, t6, t7, t8, t9];decide)) only [zA,zB,zC,zD,zE,zF,zG,zH,zI,zJ,zK,HV.cells,fl0,fl2,flS,flS1,flI1,flU1,flU2,flF,hnt, t3, t4, t5, t6, t7, t8, t9]; first|done|exact rfl) ?_
     | refine w_f (by simp (disch:=first|decide|(simp only[zF,zG,hnt, t3, t4, t5, t6, t7, t8, t9];decide)) only [zA,zB,zC,zD,zE,zF,zG,zH,zI,zJ,zK,HV.cells,fl0,fl2,flS,flS1,flI1,flU1,flU2,flF,hnt, t3, t4, t5, t6, t7, t8, t9]; first|done|exact rfl) ?_
     | refine r_move (by simp (disch:=first|decide|(simp only[zF,zG,hnt, t3, t4, t5, t6, t7, t8, t9];decide)) only [zA,zB,zC,zD,zE,zF,zG,zH,zI,zJ,zK,HV.cells,fl0,fl2,flS,flS1,flI1,flU1,flU2,flF,hnt, t3, t4, t5, t6, t7, t8, t9]; try exact rfl) ?_
     | refine r_fa (by simp (disch:=first|decide|(simp only[zF,zG,hnt, t3, t4, t5, t6, t7, t8, t9];decide)) only [zA,zB,zC,zD,zE,zF,zG,zH,zI,zJ,zK,HV.cells,fl0,fl2,flS,flS1,flI1,flU1,flU2,flF,hnt, t3, t4, t5, t6, t7, t8, t9]; try exact rfl) ?_
     | refine r_ld1 (by simp (disch:=first|decide|(simp only[zF,zG,hnt, t3, t4, t5, t6, t7, t8, t9];decide)) only [zA,zB,zC,zD,zE,zF,zG,zH,zI,zJ,zK,HV.cells,fl0,fl2,flS,flS1,flI1,flU1,flU2,flF,hnt, t3, t4, t5, t6, t7, t8, t9]; try exact rfl) (by first|assumption|(simp (disch:=omega) only [get_same,get_other,hnt, t3, t4, t5, t6, t7, t8, t9]; first|done|exact rfl)) (by first|assumption|exact ow2 _ _ _ _|exact ow3 _ _ _ _ _ _|rfl|(simp only [zI,zJ,HV.cells,hnt, t3, t4, t5, t6, t7, t8, t9]; exact rfl)) ?_
     | refine r_ldn (by simp (disch:=first|decide|(simp only[zF,zG,hnt, t3, t4, t5, t6, t7, t8, t9];decide)) only [zA,zB,zC,zD,zE,zF,zG,zH,zI,zJ,zK,HV.cells,fl0,fl2,flS,flS1,flI1,flU1,flU2,flF,hnt, t3, t4, t5, t6, t7, t8, t9]; try exact rfl) (by first|assumption|(simp (disch:=omega) only [get_same,get_other,hnt, t3, t4, t5, t6, t7, t8, t9]; first|done|exact rfl)) (by first|assumption|exact ow2 _ _ _ _|exact ow3 _ _ _ _ _ _|rfl|(simp only [zI,zJ,HV.cells,hnt, t3, t4, t5, t6, t7, t8, t9]; exact rfl)) ?_
     | refine r_add (by simp (disch:=first|decide|(simp only[zF,zG,hnt, t3, t4, t5, t6, t7, t8, t9];decide)) only [zA,zB,zC,zD,zE,zF,zG,zH,zI,zJ,zK,HV.cells,fl0,fl2,flS,flS1,flI1,flU1,flU2,flF,hnt, t3, t4, t5, t6, t7, t8, t9]; try exact rfl) (by simp (disch:=first|decide|(simp only[zF,zG,hnt, t3, t4, t5, t6, t7, t8, t9];decide)) only [zA,zB,zC,zD,zE,zF,zG,zH,zI,zJ,zK,HV.cells,fl0,fl2,flS,flS1,flI1,flU1,flU2,flF,hnt, t3, t4, t5, t6, t7, t8, t9]; try exact rfl) (by omega) (by omega) ?_
     | refine r_sub (by simp (disch:=first|decide|(simp only[zF,zG,hnt, t3, t4, t5, t6, t7, t8, t9];decide)) only [zA,zB,zC,zD,zE,zF,zG,zH,zI,zJ,zK,HV.cells,fl0,fl2,flS,flS1,flI1,flU1,flU2,flF,hnt, t3, t4, t5, t6, t7, t8, t9]; try exact rfl) (by simp (disch:=first|decide|(simp only[zF,zG,hnt, t3, t4, t5, t6, t7, t8, t9];decide)) only [zA,zB,zC,zD,zE,zF,zG,zH,zI,zJ,zK,HV.cells,fl0,fl2,flS,flS1,flI1,flU1,flU2,flF,hnt, t3, t4, t5, t6, t7, t8, t9]; try exact rfl) (by omega) (by omega) ?_
     | refine r_mul (by simp (disch:=first|decide|(simp only[zF,zG,hnt, t3, t4, t5, t6, t7, t8, t9];decide)) only [zA,zB,zC,zD,zE,zF,zG,zH,zI,zJ,zK,HV.cells,fl0,fl2,flS,flS1,flI1,flU1,flU2,flF,hnt, t3, t4, t5, t6, t7, t8, t9]; try exact rfl) (by simp (disch:=first|decide|(simp only[zF,zG,hnt, t3, t4, t5, t6, t7, t8, t9];decide)) only [zA,zB,zC,zD,zE,zF,zG,zH,zI,zJ,zK,HV.cells,fl0,fl2,flS,flS1,flI1,flU1,flU2,flF,hnt, t3, t4, t5, t6, t7, t8, t9]; try exact rfl) (by omega) (by omega) ?_
     | refine r_gtr (by simp (disch:=first|decide|(simp only[zF,zG,hnt, t3, t4, t5, t6, t7, t8, t9];decide)) only [zA,zB,zC,zD,zE,zF,zG,zH,zI,zJ,zK,HV.cells,fl0,fl2,flS,flS1,flI1,flU1,flU2,flF,hnt, t3, t4, t5, t6, t7, t8, t9]; try exact rfl) (by simp (disch:=first|decide|(simp only[zF,zG,hnt, t3, t4, t5, t6, t7, t8, t9];decide)) only [zA,zB,zC,zD,zE,zF,zG,zH,zI,zJ,zK,HV.cells,fl0,fl2,flS,flS1,flI1,flU1,flU2,flF,hnt, t3, t4, t5, t6, t7, t8, t9]; try exact rfl) (fun hc => ?_) (fun hc => ?_) <;> (try (exfalso; omega))
     | refine r_calls (by simp (disch:=first|decide|(simp only[zF,zG,hnt, t3, t4, t5, t6, t7, t8, t9];decide)) only [zA,zB,zC,zD,zE,zF,zG,zH,zI,zJ,zK,HV.cells,fl0,fl2,flS,flS1,flI1,flU1,flU2,flF,hnt, t3, t4, t5, t6, t7, t8, t9]; try exact rfl) (by simp (disch:=first|decide|(simp only[zF,zG,hnt, t3, t4, t5, t6, t7, t8, t9];decide)) only [List.map_cons,List.map_nil,List.nil_append,List.cons_append,List.append_nil,zA,zB,zC,zD,zE,zF,zG,zH,zI,zJ,zK,HV.cells,fl0,fl2,flS,flS1,flI1,flU1,flU2,flF,hnt, t3, t4, t5, t6, t7, t8, t9]; first|done|exact rfl) (cF _ _ _) (fun n' hn' => ?_)
     | refine r_calld (by simp (disch:=first|decide|(simp only[zF,zG,hnt, t3, t4, t5, t6, t7, t8, t9];decide)) only [zA,zB,zC,zD,zE,zF,zG,zH,zI,zJ,zK,HV.cells,fl0,fl2,flS,flS1,flI1,flU1,flU2,flF,hnt, t3, t4, t5, t6, t7, t8, t9]; try exact rfl) (by simp (disch:=first|decide|(simp only[zF,zG,hnt, t3, t4, t5, t6, t7, t8, t9];decide)) only [List.map_cons,List.map_nil,List.nil_append,List.cons_append,List.append_nil,zA,zB,zC,zD,zE,zF,zG,zH,zI,zJ,zK,HV.cells,fl0,fl2,flS,flS1,flI1,flU1,flU2,flF,hnt, t3, t4, t5, t6, t7, t8, t9]; first|done|exact rfl) (cL _ _ _ (by (repeat' first|assumption|refine D.upd ?_ (by omega)|exact D.mono (by assumption) (by omega)) <;> fail)) (fun n' hn' hc => ?_) (fun n' hn' hc => ?_) <;> (try (exfalso; omega))
     | fail
    · refine ih ((lo + hi) / 2) hi _ _ (by omega) (by omega) (by omega) (by omega) (by omega) (by omega) (by (repeat' first|assumption|refine D.upd ?_ (by omega)|exact D.mono (by assumption) (by omega)) <;> fail) ?_ ?_ ?_ ?_ ?_ ?_ ?_ ?_ ?_ (fun a' n' g0 => hq a' n' (by omega))
      all_goals first|(simp only [zL,zM,zF,zG,hnt, hds, t3, t4, t5, t6, t7, t8, t9];done)|(simp (disch:=first|decide|(simp only[zF,zG,hnt, hds, t3, t4, t5, t6, t7, t8, t9];decide)) only [zA,zB,zC,zD,zE,zF,zG,zH,zI,zJ,zK,HV.cells,fl0,fl2,flS,flS1,flI1,flU1,flU2,flF,hnt, hds, t3, t4, t5, t6, t7, t8, t9];first|done|exact rfl)|assumption
    · refine ih lo ((lo + hi) / 2) _ _ (by omega) (by omega) (by omega) (by omega) (by omega) (by omega) (by (repeat' first|assumption|refine D.upd ?_ (by omega)|exact D.mono (by assumption) (by omega)) <;> fail) ?_ ?_ ?_ ?_ ?_ ?_ ?_ ?_ ?_ (fun a' n' g0 => hq a' n' (by omega))
      all_goals first|(simp only [zL,zM,zF,zG,hnt, hds, t3, t4, t5, t6, t7, t8, t9];done)|(simp (disch:=first|decide|(simp only[zF,zG,hnt, hds, t3, t4, t5, t6, t7, t8, t9];decide)) only [zA,zB,zC,zD,zE,zF,zG,zH,zI,zJ,zK,HV.cells,fl0,fl2,flS,flS1,flI1,flU1,flU2,flF,hnt, hds, t3, t4, t5, t6, t7, t8, t9];first|done|exact rfl)|assumption
    · have e : slo o s r = hi := by omega
      refine hq _ _ (Nat.le_refl _) ?_ ?_ ?_ ?_ ?_ ?_ ?_ ?_
      all_goals first
        | (rw [e]; first|(simp only [zL,zM,zF,zG,hnt, hds, t3, t4, t5, t6, t7, t8, t9];done)|(simp (disch:=first|decide|(simp only[zF,zG,hnt, hds, t3, t4, t5, t6, t7, t8, t9];decide)) only [zA,zB,zC,zD,zE,zF,zG,zH,zI,zJ,zK,HV.cells,fl0,fl2,flS,flS1,flI1,flU1,flU2,flF,hnt, hds, t3, t4, t5, t6, t7, t8, t9];first|done|exact rfl)|assumption)
        | first|(simp only [zL,zM,zF,zG,hnt, hds, t3, t4, t5, t6, t7, t8, t9];done)|(simp (disch:=first|decide|(simp only[zF,zG,hnt, hds, t3, t4, t5, t6, t7, t8, t9];decide)) only [zA,zB,zC,zD,zE,zF,zG,zH,zI,zJ,zK,HV.cells,fl0,fl2,flS,flS1,flI1,flU1,flU2,flF,hnt, hds, t3, t4, t5, t6, t7, t8, t9];first|done|exact rfl)|assumption
theorem loop28b {fl : Nat} {h : Tr HBlk} {n0 b3 b4 b5 : Nat} {Q : HExit → HAct → HS → Prop} {s o r : Int × Int} {w : Int} {t6 t11 : HV} (hs : SOk s.1 s.2) (ho : SOk o.1 o.2) (hr : ROk r.1 r.2) (hw : Way s w) (hg3 : h.get b3 = some (.cells (renc o) .exact)) (hg4 : h.get b4 = some (.cells (renc s) .exact)) (hg5 : h.get b5 = some (.cells (renc r) .exact)) :
    ∀ (m : Nat) (lo hi : Int) (a : HAct) (nx : Nat), (hi - lo).toNat ≤ m → -17179869184 ≤ lo → hi ≤ 17179869184 → lo ≤ shi o s r → shi o s r < hi → fl ≤ nx → D h nx → a.nt = 80 → a.defers = [] → a.tmp 3 = .ptr (some (b3, 0)) → a.tmp 4 = .ptr (some (b4, 0)) → a.tmp 5 = .ptr (some (b5, 0)) → a.tmp 6 = t6 → a.tmp 7 = i64 w → a.tmp 8 = i64 lo → a.tmp 9 = i64 hi → a.tmp 11 = t11 →
      (∀ a' n', nx ≤ n' → a'.nt = 80 → a'.defers = [] → a'.tmp 4 = .ptr (some (b4, 0)) → a'.tmp 6 = t6 → a'.tmp 7 = i64 w → a'.tmp 8 = i64 (shi o s r) → a'.tmp 11 = t11 → Q .normal a' ⟨h, n'⟩) → W LW fl none (.loop L28w0) (inBlockH 2 Q) a ⟨h, nx⟩ := by
  have A := s_bd ho
  have dO : 1 ≤ dg o := by unfold dg; omega
  have hS := hs
  unfold SOk at hS
  intro m
  induction m with
  | zero =>
    intro lo hi a nx hm h1 h2 h3 h4 hfl hd hnt hds t3 t4 t5 t6 t7 t8 t9 t11 hq
    omega
  | succ m ih =>
    intro lo hi a nx hm h1 h2 h3 h4 hfl hd hnt hds t3 t4 t5 t6 t7 t8 t9 t11 hq
    have wb := way_bd (n := (lo + hi) / 2) (A := 17179869184) hw (by omega)
    have cF : ∀ fl h' n', C LW fl 57 [i64 (lo + hi), i64 2] ⟨h', n'⟩ (Sc (· = i64 ((lo + hi) / 2)) ⟨h', n'⟩) := fun fl h' n' => c_Floor (by unfold Big; omega) (by omega) (by omega)
    have cL : ∀ fl h' n', D h' n' → C LW fl 62 [.agg (renc s), i64 (s.1 + w * ((lo + hi) / 2)), .agg (renc o), .agg (renc r)] ⟨h', n'⟩ (Sc (· = .bool (decide (shi o s r < (lo + hi) / 2))) ⟨h', n'⟩) := fun fl h' n' e => by
      have := c_High (fl := fl) e (q := s.1 + w * ((lo + hi) / 2)) hs ho (ROk.rw hr) (by unfold RW; dsimp only; omega)
      rwa [show decide (hhi o r * (2 * dg s) < hlo s (s.1 + w * ((lo + hi) / 2), s.1 + w * ((lo + hi) / 2)) * (2 * dg o)) = decide (shi o s r < (lo + hi) / 2) by congr 1; exact propext (high_iff hw dO)] at this
    refine w_it (show L28w0 = _ by unfold L28w0; exact rfl) ?_
    repeat' first
     | refine r_nil ?_
     | refine th_n ?_
     | refine th_e ?_
     | refine ib_n ?_
     | refine ib_e ?_
     | refine w_exit ?_
     | refine w_seq ?_
     | refine w_reg ?_
     | refine w_skip ?_
     | refine w_block ?_
     | refine w_t (by simp (disch:=first|decide|(simp only[zF,zG,hnt, t3, t4, t5, t6, t7, t8, t9, t11];decide)) only [zA,zB,zC,zD,zE,zF,zG,zH,zI,zJ,zK,HV.cells,fl0,fl2,flS,flS1,flI1,flU1,flU2,flF,hnt, t3, t4, t5, t6, t7, t8, t9, t11]; first|done|exact rfl) ?_
     | refine w_f (by simp (disch:=first|decide|(simp only[zF,zG,hnt, t3, t4, t5, t6, t7, t8, t9, t11];decide)) only [zA,zB,zC,zD,zE,zF,zG,zH,zI,zJ,zK,HV.cells,fl0,fl2,flS,flS1,flI1,flU1,flU2,flF,hnt, t3, t4, t5, t6, t7, t8, t9, t11]; first|done|exact rfl) ?_
     | refine r_move (by simp (disch:=first|decide|(simp only[zF,zG,hnt, t3, t4, t5, t6, t7, t8, t9, t11];decide)) only [zA,zB,zC,zD,zE,zF,zG,zH,zI,zJ,zK,HV.cells,fl0,fl2,flS,flS1,flI1,flU1,flU2,flF,hnt, t3, t4, t5, t6, t7, t8, t9, t11]; try exact rfl) ?_
     | refine r_fa (by simp (disch:=first|decide|(simp only[zF,zG,hnt, t3, t4, t5, t6, t7, t8, t9, t11];decide)) only [zA,zB,zC,zD,zE,zF,zG,zH,zI,zJ,zK,HV.cells,fl0,fl2,flS,flS1,flI1,flU1,flU2,flF,hnt, t3, t4, t5, t6, t7, t8, t9, t11]; try exact rfl) ?_
     | refine r_ld1 (by simp (disch:=first|decide|(simp only[zF,zG,hnt, t3, t4, t5, t6, t7, t8, t9, t11];decide)) only [zA,zB,zC,zD,zE,zF,zG,zH,zI,zJ,zK,HV.cells,fl0,fl2,flS,flS1,flI1,flU1,flU2,flF,hnt, t3, t4, t5, t6, t7, t8, t9, t11]; try exact rfl) (by first|assumption|(simp (disch:=omega) only [get_same,get_other,hnt, t3, t4, t5, t6, t7, t8, t9, t11]; first|done|exact rfl)) (by first|assumption|exact ow2 _ _ _ _|exact ow3 _ _ _ _ _ _|rfl|(simp only [zI,zJ,HV.cells,hnt, t3, t4, t5, t6, t7, t8, t9, t11]; exact rfl)) ?_
     | refine r_ldn (by simp (disch:=first|decide|(simp only[zF,zG,hnt, t3, t4, t5, t6, t7, t8, t9, t11];decide)) only [zA,zB,zC,zD,zE,zF,zG,zH,zI,zJ,zK,HV.cells,fl0,fl2,flS,flS1,flI1,flU1,flU2,flF,hnt, t3, t4, t5, t6, t7, t8, t9, t11]; try exact rfl) (by first|assumption|(simp (disch:=omega) only [get_same,get_other,hnt, t3, t4, t5, t6, t7, t8, t9, t11]; first|done|exact rfl)) (by first|assumption|exact ow2 _ _ _ _|exact ow3 _ _ _ _ _ _|rfl|(simp only [zI,zJ,HV.cells,hnt, t3, t4, t5, t6, t7, t8, t9, t11]; exact rfl)) ?_
     | refine r_add (by simp (disch:=first|decide|(simp only[zF,zG,hnt, t3, t4, t5, t6, t7, t8, t9, t11];decide)) only [zA,zB,zC,zD,zE,zF,zG,zH,zI,zJ,zK,HV.cells,fl0,fl2,flS,flS1,flI1,flU1,flU2,flF,hnt, t3, t4, t5, t6, t7, t8, t9, t11]; try exact rfl) (by simp (disch:=first|decide|(simp only[zF,zG,hnt, t3, t4, t5, t6, t7, t8, t9, t11];decide)) only [zA,zB,zC,zD,zE,zF,zG,zH,zI,zJ,zK,HV.cells,fl0,fl2,flS,flS1,flI1,flU1,flU2,flF,hnt, t3, t4, t5, t6, t7, t8, t9, t11]; try exact rfl) (by omega) (by omega) ?_
     | refine r_sub (by simp (disch:=first|decide|(simp only[zF,zG,hnt, t3, t4, t5, t6, t7, t8, t9, t11];decide)) only [zA,zB,zC,zD,zE,zF,zG,zH,zI,zJ,zK,HV.cells,fl0,fl2,flS,flS1,flI1,flU1,flU2,flF,hnt, t3, t4, t5, t6, t7, t8, t9, t11]; try exact rfl) (by simp (disch:=first|decide|(simp only[zF,zG,hnt, t3, t4, t5, t6, t7, t8, t9, t11];decide)) only [zA,zB,zC,zD,zE,zF,zG,zH,zI,zJ,zK,HV.cells,fl0,fl2,flS,flS1,flI1,flU1,flU2,flF,hnt, t3, t4, t5, t6, t7, t8, t9, t11]; try exact rfl) (by omega) (by omega) ?_
     | refine r_mul (by simp (disch:=first|decide|(simp only[zF,zG,hnt, t3, t4, t5, t6, t7, t8, t9, t11];decide)) only [zA,zB,zC,zD,zE,zF,zG,zH,zI,zJ,zK,HV.cells,fl0,fl2,flS,flS1,flI1,flU1,flU2,flF,hnt, t3, t4, t5, t6, t7, t8, t9, t11]; try exact rfl) (by simp (disch:=first|decide|(simp only[zF,zG,hnt, t3, t4, t5, t6, t7, t8, t9, t11];decide)) only [zA,zB,zC,zD,zE,zF,zG,zH,zI,zJ,zK,HV.cells,fl0,fl2,flS,flS1,flI1,flU1,flU2,flF,hnt, t3, t4, t5, t6, t7, t8, t9, t11]; try exact rfl) (by omega) (by omega) ?_
     | refine r_gtr (by simp (disch:=first|decide|(simp only[zF,zG,hnt, t3, t4, t5, t6, t7, t8, t9, t11];decide)) only [zA,zB,zC,zD,zE,zF,zG,zH,zI,zJ,zK,HV.cells,fl0,fl2,flS,flS1,flI1,flU1,flU2,flF,hnt, t3, t4, t5, t6, t7, t8, t9, t11]; try exact rfl) (by simp (disch:=first|decide|(simp only[zF,zG,hnt, t3, t4, t5, t6, t7, t8, t9, t11];decide)) only [zA,zB,zC,zD,zE,zF,zG,zH,zI,zJ,zK,HV.cells,fl0,fl2,flS,flS1,flI1,flU1,flU2,flF,hnt, t3, t4, t5, t6, t7, t8, t9, t11]; try exact rfl) (fun hc => ?_) (fun hc => ?_) <;> (try (exfalso; omega))
     | refine r_calls (by simp (disch:=first|decide|(simp only[zF,zG,hnt, t3, t4, t5, t6, t7, t8, t9, t11];decide)) only [zA,zB,zC,zD,zE,zF,zG,zH,zI,zJ,zK,HV.cells,fl0,fl2,flS,flS1,flI1,flU1,flU2,flF,hnt, t3, t4, t5, t6, t7, t8, t9, t11]; try exact rfl) (by simp (disch:=first|decide|(simp only[zF,zG,hnt, t3, t4, t5, t6, t7, t8, t9, t11];decide)) only [List.map_cons,List.map_nil,List.nil_append,List.cons_append,List.append_nil,zA,zB,zC,zD,zE,zF,zG,zH,zI,zJ,zK,HV.cells,fl0,fl2,flS,flS1,flI1,flU1,flU2,flF,hnt, t3, t4, t5, t6, t7, t8, t9, t11]; first|done|exact rfl) (cF _ _ _) (fun n' hn' => ?_)
     | refine r_calld (by simp (disch:=first|decide|(simp only[zF,zG,hnt, t3, t4, t5, t6, t7, t8, t9, t11];decide)) only [zA,zB,zC,zD,zE,zF,zG,zH,zI,zJ,zK,HV.cells,fl0,fl2,flS,flS1,flI1,flU1,flU2,flF,hnt, t3, t4, t5, t6, t7, t8, t9, t11]; try exact rfl) (by simp (disch:=first|decide|(simp only[zF,zG,hnt, t3, t4, t5, t6, t7, t8, t9, t11];decide)) only [List.map_cons,List.map_nil,List.nil_append,List.cons_append,List.append_nil,zA,zB,zC,zD,zE,zF,zG,zH,zI,zJ,zK,HV.cells,fl0,fl2,flS,flS1,flI1,flU1,flU2,flF,hnt, t3, t4, t5, t6, t7, t8, t9, t11]; first|done|exact rfl) (cL _ _ _ (by (repeat' first|assumption|refine D.upd ?_ (by omega)|exact D.mono (by assumption) (by omega)) <;> fail)) (fun n' hn' hc => ?_) (fun n' hn' hc => ?_) <;> (try (exfalso; omega))
     | fail
    · refine ih lo ((lo + hi) / 2) _ _ (by omega) (by omega) (by omega) (by omega) (by omega) (by omega) (by (repeat' first|assumption|refine D.upd ?_ (by omega)|exact D.mono (by assumption) (by omega)) <;> fail) ?_ ?_ ?_ ?_ ?_ ?_ ?_ ?_ ?_ ?_ (fun a' n' g0 => hq a' n' (by omega))
      all_goals first|(simp only [zL,zM,zF,zG,hnt, hds, t3, t4, t5, t6, t7, t8, t9, t11];done)|(simp (disch:=first|decide|(simp only[zF,zG,hnt, hds, t3, t4, t5, t6, t7, t8, t9, t11];decide)) only [zA,zB,zC,zD,zE,zF,zG,zH,zI,zJ,zK,HV.cells,fl0,fl2,flS,flS1,flI1,flU1,flU2,flF,hnt, hds, t3, t4, t5, t6, t7, t8, t9, t11];first|done|exact rfl)|assumption
    · refine ih ((lo + hi) / 2) hi _ _ (by omega) (by omega) (by omega) (by omega) (by omega) (by omega) (by (repeat' first|assumption|refine D.upd ?_ (by omega)|exact D.mono (by assumption) (by omega)) <;> fail) ?_ ?_ ?_ ?_ ?_ ?_ ?_ ?_ ?_ ?_ (fun a' n' g0 => hq a' n' (by omega))
      all_goals first|(simp only [zL,zM,zF,zG,hnt, hds, t3, t4, t5, t6, t7, t8, t9, t11];done)|(simp (disch:=first|decide|(simp only[zF,zG,hnt, hds, t3, t4, t5, t6, t7, t8, t9, t11];decide)) only [zA,zB,zC,zD,zE,zF,zG,zH,zI,zJ,zK,HV.cells,fl0,fl2,flS,flS1,flI1,flU1,flU2,flF,hnt, hds, t3, t4, t5, t6, t7, t8, t9, t11];first|done|exact rfl)|assumption
    · have e : shi o s r = lo := by omega
      refine hq _ _ (Nat.le_refl _) ?_ ?_ ?_ ?_ ?_ ?_ ?_
      all_goals first
        | (rw [e]; first|(simp only [zL,zM,zF,zG,hnt, hds, t3, t4, t5, t6, t7, t8, t9, t11];done)|(simp (disch:=first|decide|(simp only[zF,zG,hnt, hds, t3, t4, t5, t6, t7, t8, t9, t11];decide)) only [zA,zB,zC,zD,zE,zF,zG,zH,zI,zJ,zK,HV.cells,fl0,fl2,flS,flS1,flI1,flU1,flU2,flF,hnt, hds, t3, t4, t5, t6, t7, t8, t9, t11];first|done|exact rfl)|assumption)
        | first|(simp only [zL,zM,zF,zG,hnt, hds, t3, t4, t5, t6, t7, t8, t9, t11];done)|(simp (disch:=first|decide|(simp only[zF,zG,hnt, hds, t3, t4, t5, t6, t7, t8, t9, t11];decide)) only [zA,zB,zC,zD,zE,zF,zG,zH,zI,zJ,zK,HV.cells,fl0,fl2,flS,flS1,flI1,flU1,flU2,flF,hnt, hds, t3, t4, t5, t6, t7, t8, t9, t11];first|done|exact rfl)|assumption
theorem c_Stands {fl : Nat} {h : Tr HBlk} {nx : Nat} (hd : D h nx) {o s r : Int × Int} (ho : SOk o.1 o.2) (hs : SOk s.1 s.2) (hr : ROk r.1 r.2) : C LW fl 28 [.agg (renc o), .agg (renc s), .agg (renc r)] ⟨h, nx⟩ (Sc (· = .agg (renc (son o s r))) ⟨h, nx⟩) := by
  have hS := hs
  unfold SOk at hS
  have A := s_bd ho
  have B := s_bd hs
  have dO : 1 ≤ dg o := by unfold dg; omega
  have dS : 1 ≤ dg s := by unfold dg; omega
  obtain ⟨_, _, _, _, _, _, q1, q2⟩ := son_bd ho hs hr
  have hle := slo_le (s1 := o) (s2 := s) (r := r) dO dS hr.1
  obtain ⟨L, hL⟩ : ∃ L, L = slo o s r := ⟨_, rfl⟩
  obtain ⟨H, hH⟩ : ∃ H, H = shi o s r := ⟨_, rfl⟩
  refine c_in lw28 rfl rfl rfl ?_
  dsimp only [L28]
  have fin : ∀ w, Way s w → renc (min (s.1 + w * L) (s.1 + w * H), max (s.1 + w * L) (s.1 + w * H)) = renc (son o s r) := fun w hw => by
    have e : son o s r = (tl (tn s.1 s.2) (ic s.1 s.2 + L) (ic s.1 s.2 + H), th (tn s.1 s.2) (ic s.1 s.2 + L) (ic s.1 s.2 + H)) := by rw [hL, hH]; rfl
    rw [e]
    congr 1
    unfold tl th tn ic
    rcases hw with ⟨e, g⟩ | ⟨e, g⟩
    · have d1 : decide (¬ s.1 < s.2) = false := decide_eq_false (fun h => h g)
      rw [if_pos g, e, Int.one_mul, Int.one_mul, d1]
      simp only [Bool.false_eq_true, if_false]
      refine Prod.ext ?_ ?_ <;> (dsimp only; omega)
    · have g' : ¬ s.1 < s.2 := by omega
      have d1 : decide (¬ s.1 < s.2) = true := decide_eq_true g'
      rw [if_neg g', e, Int.neg_mul, Int.neg_mul, Int.one_mul, Int.one_mul, d1]
      simp only [if_true]
      refine Prod.ext ?_ ?_ <;> (dsimp only; omega)
  by_cases hlt : s.1 < s.2
  · have hw : Way s 1 := .inl ⟨rfl, hlt⟩
    have w1 := way_bd (n := L) (A := 17179869184) hw (by omega)
    have w2 := way_bd (n := H) (A := 17179869184) hw (by omega)
    repeat' first
     | refine r_nil ?_
     | refine th_n ?_
     | refine w_seq ?_
     | refine w_reg ?_
     | refine w_skip ?_
     | refine w_block ?_
     | refine w_f (by simp (disch:=first|decide|(simp only[zF,zG];decide)) only [zA,zB,zC,zD,zE,zF,zG,zH,zI,zJ,zK,HV.cells,fl0,fl2,flS,flS1,flI1,flU1,flU2,flF]; first|done|exact rfl) ?_
     | refine r_move (by simp (disch:=first|decide|(simp only[zF,zG];decide)) only [zA,zB,zC,zD,zE,zF,zG,zH,zI,zJ,zK,HV.cells,fl0,fl2,flS,flS1,flI1,flU1,flU2,flF]; try exact rfl) ?_
     | refine r_fa (by simp (disch:=first|decide|(simp only[zF,zG];decide)) only [zA,zB,zC,zD,zE,zF,zG,zH,zI,zJ,zK,HV.cells,fl0,fl2,flS,flS1,flI1,flU1,flU2,flF]; try exact rfl) ?_
     | refine r_ld1 (by simp (disch:=first|decide|(simp only[zF,zG];decide)) only [zA,zB,zC,zD,zE,zF,zG,zH,zI,zJ,zK,HV.cells,fl0,fl2,flS,flS1,flI1,flU1,flU2,flF]; try exact rfl) (by first|assumption|(simp (disch:=omega) only [get_same,get_other]; first|done|exact rfl)) (by first|assumption|exact ow2 _ _ _ _|exact ow3 _ _ _ _ _ _|rfl|(simp only [zI,zJ,HV.cells]; exact rfl)) ?_
     | refine r_box (by simp (disch:=first|decide|(simp only[zF,zG];decide)) only [zA,zB,zC,zD,zE,zF,zG,zH,zI,zJ,zK,HV.cells,fl0,fl2,flS,flS1,flI1,flU1,flU2,flF]; try exact rfl) ?_
     | refine r_alloc ?_
     | refine r_lss (by simp (disch:=first|decide|(simp only[zF,zG];decide)) only [zA,zB,zC,zD,zE,zF,zG,zH,zI,zJ,zK,HV.cells,fl0,fl2,flS,flS1,flI1,flU1,flU2,flF]; try exact rfl) (by simp (disch:=first|decide|(simp only[zF,zG];decide)) only [zA,zB,zC,zD,zE,zF,zG,zH,zI,zJ,zK,HV.cells,fl0,fl2,flS,flS1,flI1,flU1,flU2,flF]; try exact rfl) (fun hc => ?_) (fun hc => ?_) <;> (try (exfalso; omega))
     | fail
    refine loop28a (t6 := .ptr (some (nx + 1 + 1 + 1, 0))) (b3 := nx) (b4 := nx + 1) (b5 := nx + 1 + 1) (n0 := nx) hs ho hr hw (by first|assumption|(simp (disch:=omega) only [get_same,get_other]; first|done|exact rfl)) (by first|assumption|(simp (disch:=omega) only [get_same,get_other]; first|done|exact rfl)) (by first|assumption|(simp (disch:=omega) only [get_same,get_other]; first|done|exact rfl)) 34359738368 (-17179869184) 17179869184 _ _ (by omega) (by omega) (by omega) (by omega) (by omega) (by omega) (by (repeat' first|assumption|refine D.upd ?_ (by omega)|exact D.mono (by assumption) (by omega)) <;> fail) ?_ ?_ ?_ ?_ ?_ ?_ ?_ ?_ ?_ (fun a' n' g0 g1 g2 g3 g4 g5 g6 g7 g8 => ?_)
    all_goals try first|(simp only [zL,zM,zF,zG];done)|(simp (disch:=first|decide|(simp only[zF,zG];decide)) only [zA,zB,zC,zD,zE,zF,zG,zH,zI,zJ,zK,HV.cells,fl0,fl2,flS,flS1,flI1,flU1,flU2,flF];first|done|exact rfl)|assumption
    rw [← hL] at g8
    repeat' first
     | refine r_nil ?_
     | refine th_n ?_
     | refine w_seq ?_
     | refine w_reg ?_
     | refine w_block ?_
     | refine r_move (by simp (disch:=first|decide|(simp only[zF,zG,g1, g3, g4, g5, g6, g7, g8];decide)) only [zA,zB,zC,zD,zE,zF,zG,zH,zI,zJ,zK,HV.cells,fl0,fl2,flS,flS1,flI1,flU1,flU2,flF,g1, g3, g4, g5, g6, g7, g8]; try exact rfl) ?_
     | fail
    refine loop28b (t6 := .ptr (some (nx + 1 + 1 + 1, 0))) (t11 := i64 L) (b3 := nx) (b4 := nx + 1) (b5 := nx + 1 + 1) (n0 := nx) hs ho hr hw (by first|assumption|(simp (disch:=omega) only [get_same,get_other]; first|done|exact rfl)) (by first|assumption|(simp (disch:=omega) only [get_same,get_other]; first|done|exact rfl)) (by first|assumption|(simp (disch:=omega) only [get_same,get_other]; first|done|exact rfl)) 34359738368 (-17179869184) 17179869184 _ _ (by omega) (by omega) (by omega) (by omega) (by omega) (by omega) (by (repeat' first|assumption|refine D.upd ?_ (by omega)|exact D.mono (by assumption) (by omega)) <;> fail) ?_ ?_ ?_ ?_ ?_ ?_ ?_ ?_ ?_ ?_ (fun a2 n2 f0 f1 f2 f4 f6 f7 f8 f11 => ?_)
    all_goals try first|(simp only [zL,zM,zF,zG,g1, g2, g3, g4, g5, g6, g7, g8];done)|(simp (disch:=first|decide|(simp only[zF,zG,g1, g2, g3, g4, g5, g6, g7, g8];decide)) only [zA,zB,zC,zD,zE,zF,zG,zH,zI,zJ,zK,HV.cells,fl0,fl2,flS,flS1,flI1,flU1,flU2,flF,g1, g2, g3, g4, g5, g6, g7, g8];first|done|exact rfl)|assumption
    rw [← hH] at f8
    repeat' first
     | refine r_nil ?_
     | refine th_n ?_
     | refine w_seq ?_
     | refine w_reg ?_
     | refine w_ret ?_
     | refine r_move (by simp (disch:=first|decide|(simp only[zF,zG,f1, f4, f6, f7, f8, f11];decide)) only [zA,zB,zC,zD,zE,zF,zG,zH,zI,zJ,zK,HV.cells,fl0,fl2,flS,flS1,flI1,flU1,flU2,flF,f1, f4, f6, f7, f8, f11]; try exact rfl) ?_
     | refine r_fa (by simp (disch:=first|decide|(simp only[zF,zG,f1, f4, f6, f7, f8, f11];decide)) only [zA,zB,zC,zD,zE,zF,zG,zH,zI,zJ,zK,HV.cells,fl0,fl2,flS,flS1,flI1,flU1,flU2,flF,f1, f4, f6, f7, f8, f11]; try exact rfl) ?_
     | refine r_ld1 (by simp (disch:=first|decide|(simp only[zF,zG,f1, f4, f6, f7, f8, f11];decide)) only [zA,zB,zC,zD,zE,zF,zG,zH,zI,zJ,zK,HV.cells,fl0,fl2,flS,flS1,flI1,flU1,flU2,flF,f1, f4, f6, f7, f8, f11]; try exact rfl) (by first|assumption|(simp (disch:=omega) only [get_same,get_other,f1, f4, f6, f7, f8, f11]; first|done|exact rfl)) (by first|assumption|exact ow2 _ _ _ _|exact ow3 _ _ _ _ _ _|rfl|(simp only [zI,zJ,HV.cells,f1, f4, f6, f7, f8, f11]; exact rfl)) ?_
     | refine r_st (cs' := _) (by simp (disch:=first|decide|(simp only[zF,zG,f1, f4, f6, f7, f8, f11];decide)) only [zA,zB,zC,zD,zE,zF,zG,zH,zI,zJ,zK,HV.cells,fl0,fl2,flS,flS1,flI1,flU1,flU2,flF,f1, f4, f6, f7, f8, f11]; try exact rfl) (by simp (disch:=first|decide|(simp only[zF,zG,f1, f4, f6, f7, f8, f11];decide)) only [zA,zB,zC,zD,zE,zF,zG,zH,zI,zJ,zK,HV.cells,fl0,fl2,flS,flS1,flI1,flU1,flU2,flF,f1, f4, f6, f7, f8, f11]; try exact rfl) (by first|assumption|(simp (disch:=omega) only [get_same,get_other,f1, f4, f6, f7, f8, f11]; first|done|exact rfl)) (by exact True.intro) (by rfl) (by rfl) (by first|assumption|exact ow2 _ _ _ _|exact ow3 _ _ _ _ _ _|rfl|(simp only [zI,zJ,HV.cells,f1, f4, f6, f7, f8, f11]; exact rfl)) (by omega) ?_
     | refine r_add (by simp (disch:=first|decide|(simp only[zF,zG,f1, f4, f6, f7, f8, f11];decide)) only [zA,zB,zC,zD,zE,zF,zG,zH,zI,zJ,zK,HV.cells,fl0,fl2,flS,flS1,flI1,flU1,flU2,flF,f1, f4, f6, f7, f8, f11]; try exact rfl) (by simp (disch:=first|decide|(simp only[zF,zG,f1, f4, f6, f7, f8, f11];decide)) only [zA,zB,zC,zD,zE,zF,zG,zH,zI,zJ,zK,HV.cells,fl0,fl2,flS,flS1,flI1,flU1,flU2,flF,f1, f4, f6, f7, f8, f11]; try exact rfl) (by omega) (by omega) ?_
     | refine r_mul (by simp (disch:=first|decide|(simp only[zF,zG,f1, f4, f6, f7, f8, f11];decide)) only [zA,zB,zC,zD,zE,zF,zG,zH,zI,zJ,zK,HV.cells,fl0,fl2,flS,flS1,flI1,flU1,flU2,flF,f1, f4, f6, f7, f8, f11]; try exact rfl) (by simp (disch:=first|decide|(simp only[zF,zG,f1, f4, f6, f7, f8, f11];decide)) only [zA,zB,zC,zD,zE,zF,zG,zH,zI,zJ,zK,HV.cells,fl0,fl2,flS,flS1,flI1,flU1,flU2,flF,f1, f4, f6, f7, f8, f11]; try exact rfl) (by omega) (by omega) ?_
     | refine r_max2 (by simp (disch:=first|decide|(simp only[zF,zG,f1, f4, f6, f7, f8, f11];decide)) only [zA,zB,zC,zD,zE,zF,zG,zH,zI,zJ,zK,HV.cells,fl0,fl2,flS,flS1,flI1,flU1,flU2,flF,f1, f4, f6, f7, f8, f11]; try exact rfl) (by simp (disch:=first|decide|(simp only[zF,zG,f1, f4, f6, f7, f8, f11];decide)) only [zA,zB,zC,zD,zE,zF,zG,zH,zI,zJ,zK,HV.cells,fl0,fl2,flS,flS1,flI1,flU1,flU2,flF,f1, f4, f6, f7, f8, f11]; try exact rfl) ?_
     | refine r_min2 (by simp (disch:=first|decide|(simp only[zF,zG,f1, f4, f6, f7, f8, f11];decide)) only [zA,zB,zC,zD,zE,zF,zG,zH,zI,zJ,zK,HV.cells,fl0,fl2,flS,flS1,flI1,flU1,flU2,flF,f1, f4, f6, f7, f8, f11]; try exact rfl) (by simp (disch:=first|decide|(simp only[zF,zG,f1, f4, f6, f7, f8, f11];decide)) only [zA,zB,zC,zD,zE,zF,zG,zH,zI,zJ,zK,HV.cells,fl0,fl2,flS,flS1,flI1,flU1,flU2,flF,f1, f4, f6, f7, f8, f11]; try exact rfl) ?_
     | refine r_build (by simp (disch:=first|decide|(simp only[zF,zG,f1, f4, f6, f7, f8, f11];decide)) only [evParts,List.map_cons,List.map_nil,List.nil_append,List.cons_append,List.append_nil,zA,zB,zC,zD,zE,zF,zG,zH,zI,zJ,zK,HV.cells,fl0,fl2,flS,flS1,flI1,flU1,flU2,flF,f1, f4, f6, f7, f8, f11]; try exact rfl) ?_
     | refine w_draw (by omega) (by (repeat' first|assumption|refine D.upd ?_ (by omega)|exact D.mono (by assumption) (by omega)) <;> fail) ?_
     | refine d_rest rfl ?_
     | refine d_one rfl ?_
     | refine d_next (by omega) ?_
     | fail
    exact fin_m (by simp only [zL, zM, f2]) (res_c (by simp (disch:=first|decide|(simp only[zF,zG,f1, f6];decide)) only [zA,zB,zC,zD,zE,zF,zG,zH,zI,zJ,zK,HV.cells,fl0,fl2,flS,flS1,flI1,flU1,flU2,flF,f1, f6]; try exact rfl) (by first|assumption|(simp (disch:=omega) only [get_same,get_other]; first|done|exact rfl)) rfl res_nil) (sc_flat rfl (by dsimp only; omega) (congrArg HV.agg (fin _ hw)))
  · have hw : Way s (-1) := .inr ⟨rfl, by omega⟩
    have w1 := way_bd (n := L) (A := 17179869184) hw (by omega)
    have w2 := way_bd (n := H) (A := 17179869184) hw (by omega)
    repeat' first
     | refine r_nil ?_
     | refine th_n ?_
     | refine w_seq ?_
     | refine w_reg ?_
     | refine w_block ?_
     | refine w_t (by simp (disch:=first|decide|(simp only[zF,zG];decide)) only [zA,zB,zC,zD,zE,zF,zG,zH,zI,zJ,zK,HV.cells,fl0,fl2,flS,flS1,flI1,flU1,flU2,flF]; first|done|exact rfl) ?_
     | refine r_move (by simp (disch:=first|decide|(simp only[zF,zG];decide)) only [zA,zB,zC,zD,zE,zF,zG,zH,zI,zJ,zK,HV.cells,fl0,fl2,flS,flS1,flI1,flU1,flU2,flF]; try exact rfl) ?_
     | refine r_fa (by simp (disch:=first|decide|(simp only[zF,zG];decide)) only [zA,zB,zC,zD,zE,zF,zG,zH,zI,zJ,zK,HV.cells,fl0,fl2,flS,flS1,flI1,flU1,flU2,flF]; try exact rfl) ?_
     | refine r_ld1 (by simp (disch:=first|decide|(simp only[zF,zG];decide)) only [zA,zB,zC,zD,zE,zF,zG,zH,zI,zJ,zK,HV.cells,fl0,fl2,flS,flS1,flI1,flU1,flU2,flF]; try exact rfl) (by first|assumption|(simp (disch:=omega) only [get_same,get_other]; first|done|exact rfl)) (by first|assumption|exact ow2 _ _ _ _|exact ow3 _ _ _ _ _ _|rfl|(simp only [zI,zJ,HV.cells]; exact rfl)) ?_
     | refine r_box (by simp (disch:=first|decide|(simp only[zF,zG];decide)) only [zA,zB,zC,zD,zE,zF,zG,zH,zI,zJ,zK,HV.cells,fl0,fl2,flS,flS1,flI1,flU1,flU2,flF]; try exact rfl) ?_
     | refine r_alloc ?_
     | refine r_lss (by simp (disch:=first|decide|(simp only[zF,zG];decide)) only [zA,zB,zC,zD,zE,zF,zG,zH,zI,zJ,zK,HV.cells,fl0,fl2,flS,flS1,flI1,flU1,flU2,flF]; try exact rfl) (by simp (disch:=first|decide|(simp only[zF,zG];decide)) only [zA,zB,zC,zD,zE,zF,zG,zH,zI,zJ,zK,HV.cells,fl0,fl2,flS,flS1,flI1,flU1,flU2,flF]; try exact rfl) (fun hc => ?_) (fun hc => ?_) <;> (try (exfalso; omega))
     | fail
    refine loop28a (t6 := .ptr (some (nx + 1 + 1 + 1, 0))) (b3 := nx) (b4 := nx + 1) (b5 := nx + 1 + 1) (n0 := nx) hs ho hr hw (by first|assumption|(simp (disch:=omega) only [get_same,get_other]; first|done|exact rfl)) (by first|assumption|(simp (disch:=omega) only [get_same,get_other]; first|done|exact rfl)) (by first|assumption|(simp (disch:=omega) only [get_same,get_other]; first|done|exact rfl)) 34359738368 (-17179869184) 17179869184 _ _ (by omega) (by omega) (by omega) (by omega) (by omega) (by omega) (by (repeat' first|assumption|refine D.upd ?_ (by omega)|exact D.mono (by assumption) (by omega)) <;> fail) ?_ ?_ ?_ ?_ ?_ ?_ ?_ ?_ ?_ (fun a' n' g0 g1 g2 g3 g4 g5 g6 g7 g8 => ?_)
    all_goals try first|(simp only [zL,zM,zF,zG];done)|(simp (disch:=first|decide|(simp only[zF,zG];decide)) only [zA,zB,zC,zD,zE,zF,zG,zH,zI,zJ,zK,HV.cells,fl0,fl2,flS,flS1,flI1,flU1,flU2,flF];first|done|exact rfl)|assumption
    rw [← hL] at g8
    repeat' first
     | refine r_nil ?_
     | refine th_n ?_
     | refine w_seq ?_
     | refine w_reg ?_
     | refine w_block ?_
     | refine r_move (by simp (disch:=first|decide|(simp only[zF,zG,g1, g3, g4, g5, g6, g7, g8];decide)) only [zA,zB,zC,zD,zE,zF,zG,zH,zI,zJ,zK,HV.cells,fl0,fl2,flS,flS1,flI1,flU1,flU2,flF,g1, g3, g4, g5, g6, g7, g8]; try exact rfl) ?_
     | fail
    refine loop28b (t6 := .ptr (some (nx + 1 + 1 + 1, 0))) (t11 := i64 L) (b3 := nx) (b4 := nx + 1) (b5 := nx + 1 + 1) (n0 := nx) hs ho hr hw (by first|assumption|(simp (disch:=omega) only [get_same,get_other]; first|done|exact rfl)) (by first|assumption|(simp (disch:=omega) only [get_same,get_other]; first|done|exact rfl)) (by first|assumption|(simp (disch:=omega) only [get_same,get_other]; first|done|exact rfl)) 34359738368 (-17179869184) 17179869184 _ _ (by omega) (by omega) (by omega) (by omega) (by omega) (by omega) (by (repeat' first|assumption|refine D.upd ?_ (by omega)|exact D.mono (by assumption) (by omega)) <;> fail) ?_ ?_ ?_ ?_ ?_ ?_ ?_ ?_ ?_ ?_ (fun a2 n2 f0 f1 f2 f4 f6 f7 f8 f11 => ?_)
    all_goals try first|(simp only [zL,zM,zF,zG,g1, g2, g3, g4, g5, g6, g7, g8];done)|(simp (disch:=first|decide|(simp only[zF,zG,g1, g2, g3, g4, g5, g6, g7, g8];decide)) only [zA,zB,zC,zD,zE,zF,zG,zH,zI,zJ,zK,HV.cells,fl0,fl2,flS,flS1,flI1,flU1,flU2,flF,g1, g2, g3, g4, g5, g6, g7, g8];first|done|exact rfl)|assumption
    rw [← hH] at f8
    repeat' first
     | refine r_nil ?_
     | refine th_n ?_
     | refine w_seq ?_
     | refine w_reg ?_
     | refine w_ret ?_
     | refine r_move (by simp (disch:=first|decide|(simp only[zF,zG,f1, f4, f6, f7, f8, f11];decide)) only [zA,zB,zC,zD,zE,zF,zG,zH,zI,zJ,zK,HV.cells,fl0,fl2,flS,flS1,flI1,flU1,flU2,flF,f1, f4, f6, f7, f8, f11]; try exact rfl) ?_
     | refine r_fa (by simp (disch:=first|decide|(simp only[zF,zG,f1, f4, f6, f7, f8, f11];decide)) only [zA,zB,zC,zD,zE,zF,zG,zH,zI,zJ,zK,HV.cells,fl0,fl2,flS,flS1,flI1,flU1,flU2,flF,f1, f4, f6, f7, f8, f11]; try exact rfl) ?_
     | refine r_ld1 (by simp (disch:=first|decide|(simp only[zF,zG,f1, f4, f6, f7, f8, f11];decide)) only [zA,zB,zC,zD,zE,zF,zG,zH,zI,zJ,zK,HV.cells,fl0,fl2,flS,flS1,flI1,flU1,flU2,flF,f1, f4, f6, f7, f8, f11]; try exact rfl) (by first|assumption|(simp (disch:=omega) only [get_same,get_other,f1, f4, f6, f7, f8, f11]; first|done|exact rfl)) (by first|assumption|exact ow2 _ _ _ _|exact ow3 _ _ _ _ _ _|rfl|(simp only [zI,zJ,HV.cells,f1, f4, f6, f7, f8, f11]; exact rfl)) ?_
     | refine r_st (cs' := _) (by simp (disch:=first|decide|(simp only[zF,zG,f1, f4, f6, f7, f8, f11];decide)) only [zA,zB,zC,zD,zE,zF,zG,zH,zI,zJ,zK,HV.cells,fl0,fl2,flS,flS1,flI1,flU1,flU2,flF,f1, f4, f6, f7, f8, f11]; try exact rfl) (by simp (disch:=first|decide|(simp only[zF,zG,f1, f4, f6, f7, f8, f11];decide)) only [zA,zB,zC,zD,zE,zF,zG,zH,zI,zJ,zK,HV.cells,fl0,fl2,flS,flS1,flI1,flU1,flU2,flF,f1, f4, f6, f7, f8, f11]; try exact rfl) (by first|assumption|(simp (disch:=omega) only [get_same,get_other,f1, f4, f6, f7, f8, f11]; first|done|exact rfl)) (by exact True.intro) (by rfl) (by rfl) (by first|assumption|exact ow2 _ _ _ _|exact ow3 _ _ _ _ _ _|rfl|(simp only [zI,zJ,HV.cells,f1, f4, f6, f7, f8, f11]; exact rfl)) (by omega) ?_
     | refine r_add (by simp (disch:=first|decide|(simp only[zF,zG,f1, f4, f6, f7, f8, f11];decide)) only [zA,zB,zC,zD,zE,zF,zG,zH,zI,zJ,zK,HV.cells,fl0,fl2,flS,flS1,flI1,flU1,flU2,flF,f1, f4, f6, f7, f8, f11]; try exact rfl) (by simp (disch:=first|decide|(simp only[zF,zG,f1, f4, f6, f7, f8, f11];decide)) only [zA,zB,zC,zD,zE,zF,zG,zH,zI,zJ,zK,HV.cells,fl0,fl2,flS,flS1,flI1,flU1,flU2,flF,f1, f4, f6, f7, f8, f11]; try exact rfl) (by omega) (by omega) ?_
     | refine r_mul (by simp (disch:=first|decide|(simp only[zF,zG,f1, f4, f6, f7, f8, f11];decide)) only [zA,zB,zC,zD,zE,zF,zG,zH,zI,zJ,zK,HV.cells,fl0,fl2,flS,flS1,flI1,flU1,flU2,flF,f1, f4, f6, f7, f8, f11]; try exact rfl) (by simp (disch:=first|decide|(simp only[zF,zG,f1, f4, f6, f7, f8, f11];decide)) only [zA,zB,zC,zD,zE,zF,zG,zH,zI,zJ,zK,HV.cells,fl0,fl2,flS,flS1,flI1,flU1,flU2,flF,f1, f4, f6, f7, f8, f11]; try exact rfl) (by omega) (by omega) ?_
     | refine r_max2 (by simp (disch:=first|decide|(simp only[zF,zG,f1, f4, f6, f7, f8, f11];decide)) only [zA,zB,zC,zD,zE,zF,zG,zH,zI,zJ,zK,HV.cells,fl0,fl2,flS,flS1,flI1,flU1,flU2,flF,f1, f4, f6, f7, f8, f11]; try exact rfl) (by simp (disch:=first|decide|(simp only[zF,zG,f1, f4, f6, f7, f8, f11];decide)) only [zA,zB,zC,zD,zE,zF,zG,zH,zI,zJ,zK,HV.cells,fl0,fl2,flS,flS1,flI1,flU1,flU2,flF,f1, f4, f6, f7, f8, f11]; try exact rfl) ?_
     | refine r_min2 (by simp (disch:=first|decide|(simp only[zF,zG,f1, f4, f6, f7, f8, f11];decide)) only [zA,zB,zC,zD,zE,zF,zG,zH,zI,zJ,zK,HV.cells,fl0,fl2,flS,flS1,flI1,flU1,flU2,flF,f1, f4, f6, f7, f8, f11]; try exact rfl) (by simp (disch:=first|decide|(simp only[zF,zG,f1, f4, f6, f7, f8, f11];decide)) only [zA,zB,zC,zD,zE,zF,zG,zH,zI,zJ,zK,HV.cells,fl0,fl2,flS,flS1,flI1,flU1,flU2,flF,f1, f4, f6, f7, f8, f11]; try exact rfl) ?_
     | refine r_build (by simp (disch:=first|decide|(simp only[zF,zG,f1, f4, f6, f7, f8, f11];decide)) only [evParts,List.map_cons,List.map_nil,List.nil_append,List.cons_append,List.append_nil,zA,zB,zC,zD,zE,zF,zG,zH,zI,zJ,zK,HV.cells,fl0,fl2,flS,flS1,flI1,flU1,flU2,flF,f1, f4, f6, f7, f8, f11]; try exact rfl) ?_
     | refine w_draw (by omega) (by (repeat' first|assumption|refine D.upd ?_ (by omega)|exact D.mono (by assumption) (by omega)) <;> fail) ?_
     | refine d_rest rfl ?_
     | refine d_one rfl ?_
     | refine d_next (by omega) ?_
     | fail
    exact fin_m (by simp only [zL, zM, f2]) (res_c (by simp (disch:=first|decide|(simp only[zF,zG,f1, f6];decide)) only [zA,zB,zC,zD,zE,zF,zG,zH,zI,zJ,zK,HV.cells,fl0,fl2,flS,flS1,flI1,flU1,flU2,flF,f1, f6]; try exact rfl) (by first|assumption|(simp (disch:=omega) only [get_same,get_other]; first|done|exact rfl)) rfl res_nil) (sc_flat rfl (by dsimp only; omega) (congrArg HV.agg (fin _ hw)))
end Go.Hx

/- Layer 3: through scales, by the reference. -/
namespace Go.Hx
set_option linter.unusedSimpArgs false
set_option linter.unusedVariables false
set_option maxRecDepth 20000
set_option maxHeartbeats 4000000
attribute [local irreducible] W R C thenH inBlockH
--dropu
def rthr : List (Int × Int) → Int × Int → (Int × Int) × Bool
  | s1 :: s2 :: l, r => if ROk (son s1 s2 r).1 (son s1 s2 r).2 then rthr (s2 :: l) (son s1 s2 r) else (son s1 s2 r, false)
  | _, r => (r, true)
theorem rthr_thr : ∀ (l : List (Int × Int)) (r : Int × Int), thr l r = if (rthr l r).2 = true then ((rthr l r).1, 0) else ((0, 0), 10)
  | [], r => rfl
  | [s], r => rfl
  | s1 :: s2 :: l, r => by
    have e1 : thr (s1 :: s2 :: l) r = if ROk (son s1 s2 r).1 (son s1 s2 r).2 then thr (s2 :: l) (son s1 s2 r) else ((0, 0), 10) := rfl
    have e2 : rthr (s1 :: s2 :: l) r = if ROk (son s1 s2 r).1 (son s1 s2 r).2 then rthr (s2 :: l) (son s1 s2 r) else (son s1 s2 r, false) := rfl
    rw [e1, e2]
    by_cases hR : ROk (son s1 s2 r).1 (son s1 s2 r).2
    · rw [if_pos hR, if_pos hR]; exact rthr_thr (s2 :: l) _
    · rw [if_neg hR, if_neg hR]; rfl
/- 26 -/
theorem loop26 {fl : Nat} {h0 : Tr HBlk} {n00 rb ob : Nat} {Q : HExit → HAct → HS → Prop} {p : Option (Nat × Nat)} {l : List (Int × Int)} {cp : Nat} (hlen : l.length < 1000000) (hl : LOk l) (hrow : Row renc 2 h0 n00 p l) (hb1 : n00 ≤ rb) (hb2 : n00 ≤ ob) (hne : rb ≠ ob) (hfl : fl ≤ n00) :
    ∀ (m j : Nat) (a : HAct) (h : Tr HBlk) (nx : Nat) (r : Int × Int), m + j + 1 = l.length → ROk r.1 r.2 → Ext h0 n00 h nx → rb < nx → ob < nx → h.get rb = some (.cells (renc r) .exact) → h.get ob = some (.cells [i64 0, i64 0] .exact) → a.nt = 29 → a.defers = [] → a.tmp 0 = .slice p l.length cp → a.tmp 3 = .ptr (some (rb, 0)) → a.tmp 4 = .ptr (some (ob, 0)) → a.tmp 6 = i64 ((j + 1 : Nat) : Int) →
      (∀ a' h' n' x, rthr (l.drop j) r = (x, true) → Ext h0 n00 h' n' → rb < n' → ob < n' → h'.get rb = some (.cells (renc x) .exact) → h'.get ob = some (.cells [i64 0, i64 0] .exact) → a'.nt = 29 → a'.defers = [] → a'.tmp 3 = .ptr (some (rb, 0)) → a'.tmp 4 = .ptr (some (ob, 0)) → Q .normal a' ⟨h', n'⟩) →
      (∀ a' h' n' x, rthr (l.drop j) r = (x, false) → n00 ≤ n' → h'.get ob = some (.cells (renc x) .exact) → a'.nt = 29 → a'.defers = [] → a'.tmp 4 = .ptr (some (ob, 0)) → a'.tmp 5 = .bool false → Q .ret a' ⟨h', n'⟩) → W LW fl none (.loop L26w0) (inBlockH 0 Q) a ⟨h, nx⟩
  | 0, j, a, h, nx, r, hm, hr, he, hrb, hob, hgr, hgo, hnt, hds, h0', h3, h4, h6, hq, hq2 => by
    have hle := he.le
    refine w_it (show L26w0 = _ by unfold L26w0; exact rfl) ?_
    repeat' first
     | refine r_nil ?_
     | refine th_n ?_
     | refine th_e ?_
     | refine ib_e ?_
     | refine w_exit ?_
     | refine w_seq ?_
     | refine w_reg ?_
     | refine w_f (by simp (disch:=first|decide|(simp only[zF,zG,hnt, h0', h3, h4, h6];decide)) only [zA,zB,zC,zD,zE,zF,zG,zH,zI,zJ,zK,HV.cells,fl0,fl2,flS,flS1,flI1,flU1,flU2,flF,hnt, h0', h3, h4, h6]; first|done|exact rfl) ?_
     | refine r_move (by simp (disch:=first|decide|(simp only[zF,zG,hnt, h0', h3, h4, h6];decide)) only [zA,zB,zC,zD,zE,zF,zG,zH,zI,zJ,zK,HV.cells,fl0,fl2,flS,flS1,flI1,flU1,flU2,flF,hnt, h0', h3, h4, h6]; try exact rfl) ?_
     | refine r_lss (by simp (disch:=first|decide|(simp only[zF,zG,hnt, h0', h3, h4, h6];decide)) only [zA,zB,zC,zD,zE,zF,zG,zH,zI,zJ,zK,HV.cells,fl0,fl2,flS,flS1,flI1,flU1,flU2,flF,hnt, h0', h3, h4, h6]; try exact rfl) (by simp (disch:=first|decide|(simp only[zF,zG,hnt, h0', h3, h4, h6];decide)) only [zA,zB,zC,zD,zE,zF,zG,zH,zI,zJ,zK,HV.cells,fl0,fl2,flS,flS1,flI1,flU1,flU2,flF,hnt, h0', h3, h4, h6]; try exact rfl) (fun hc => ?_) (fun hc => ?_) <;> (try (exfalso; omega))
     | refine r_len (by simp (disch:=first|decide|(simp only[zF,zG,hnt, h0', h3, h4, h6];decide)) only [zA,zB,zC,zD,zE,zF,zG,zH,zI,zJ,zK,HV.cells,fl0,fl2,flS,flS1,flI1,flU1,flU2,flF,hnt, h0', h3, h4, h6]; try exact rfl) ?_
     | fail
    have e : rthr (l.drop j) r = (r, true) := by
      have : (l.drop j).length = 1 := by rw [List.length_drop]; omega
      match l.drop j, this with
      | [s], _ => rfl
    refine hq _ _ _ r e he hrb hob hgr hgo ?_ ?_ ?_ ?_
    all_goals first|(simp only [zL,zM,zF,zG,hnt, hds, h3, h4];done)|(simp (disch:=first|decide|(simp only[zF,zG,hnt, hds, h3, h4];decide)) only [zA,zB,zC,zD,zE,zF,zG,zH,zI,zJ,zK,HV.cells,fl0,fl2,flS,flS1,flI1,flU1,flU2,flF,hnt, hds, h3, h4];first|done|exact rfl)|assumption
  | m + 1, j, a, h, nx, r, hm, hr, he, hrb, hob, hgr, hgo, hnt, hds, h0', h3, h4, h6, hq, hq2 => by
    have hle := he.le
    have hd := he.d
    have hrow0 := hrow.ext he
    have hpn : p ≠ none := fun e => by
      obtain ⟨b, o, _, _, e2, _⟩ := hrow (by intro e; rw [e] at hm; simp at hm)
      rw [e] at e2; cases e2
    obtain ⟨b, o, cs, kk, rfl, hb, hg, hcs⟩ := hrow0 (by intro e; rw [e] at hm; simp at hm)
    have hy : l[j]? = some l[j] := by simp [show j < l.length by omega]
    have hz : l[j + 1]? = some l[j + 1] := by simp [show j + 1 < l.length by omega]
    have e0 := hcs j _ hy
    have e1 := hcs (j + 1) _ hz
    have s1 := hl _ (List.getElem_mem (show j < l.length by omega))
    have s2 := hl _ (List.getElem_mem (show j + 1 < l.length by omega))
    have ed : l.drop j = l[j] :: l[j + 1] :: l.drop (j + 2) := by rw [List.drop_eq_getElem_cons (show j < l.length by omega), List.drop_eq_getElem_cons (show j + 1 < l.length by omega)]
    have ed1 : l.drop (j + 1) = l[j + 1] :: l.drop (j + 2) := by rw [List.drop_eq_getElem_cons (show j + 1 < l.length by omega)]
    have ej : ((j + 1 : Nat) : Int) - 1 = (j : Int) := by omega
    have cS : ∀ fl h' n', D h' n' → C LW fl 28 [.agg (renc l[j]), .agg (renc l[j + 1]), .agg (renc r)] ⟨h', n'⟩ (Sc (· = .agg (renc (son l[j] l[j + 1] r))) ⟨h', n'⟩) := fun fl h' n' e => c_Stands e s1 s2 hr
    obtain ⟨u, hu⟩ : ∃ x, x = son l[j] l[j + 1] r := ⟨_, rfl⟩
    rw [← hu] at cS
    have hdisj : b ≠ rb ∧ b ≠ ob := by
      obtain ⟨b', o', _, _, e3, hb', _⟩ := hrow (by intro e; rw [e] at hm; simp at hm)
      cases e3
      omega
    by_cases hR : ROk u.1 u.2
    · have cA : ∀ fl h' n', C LW fl 29 [.agg (renc u)] ⟨h', n'⟩ (Sc (· = .bool true) ⟨h', n'⟩) := fun fl h' n' => by have := c_AreReadings (fl := fl) (h := h') (nx := n') (lo := u.1) (hi := u.2); rwa [decide_eq_true hR] at this
      have et : rthr (l.drop j) r = rthr (l.drop (j + 1)) u := by rw [ed, ed1]; show (if _ then _ else _) = _; rw [← hu, if_pos hR]
      rw [et] at hq hq2
      refine w_it (show L26w0 = _ by unfold L26w0; exact rfl) ?_
      repeat' first
       | refine r_nil ?_
       | refine th_n ?_
       | refine ib_n ?_
       | refine w_seq ?_
       | refine w_reg ?_
       | refine w_skip ?_
       | refine w_block ?_
       | refine w_t (by simp (disch:=first|decide|(simp only[zF,zG,hnt, h0', h3, h4, h6, hgr, hgo, hg, ej];decide)) only [zA,zB,zC,zD,zE,zF,zG,zH,zI,zJ,zK,HV.cells,fl0,fl2,flS,flS1,flI1,flU1,flU2,flF,hnt, h0', h3, h4, h6, hgr, hgo, hg, ej]; first|done|exact rfl) ?_
       | refine w_f (by simp (disch:=first|decide|(simp only[zF,zG,hnt, h0', h3, h4, h6, hgr, hgo, hg, ej];decide)) only [zA,zB,zC,zD,zE,zF,zG,zH,zI,zJ,zK,HV.cells,fl0,fl2,flS,flS1,flI1,flU1,flU2,flF,hnt, h0', h3, h4, h6, hgr, hgo, hg, ej]; first|done|exact rfl) ?_
       | refine r_move (by simp (disch:=first|decide|(simp only[zF,zG,hnt, h0', h3, h4, h6, hgr, hgo, hg, ej];decide)) only [zA,zB,zC,zD,zE,zF,zG,zH,zI,zJ,zK,HV.cells,fl0,fl2,flS,flS1,flI1,flU1,flU2,flF,hnt, h0', h3, h4, h6, hgr, hgo, hg, ej]; try exact rfl) ?_
       | refine r_ldn (by simp (disch:=first|decide|(simp only[zF,zG,hnt, h0', h3, h4, h6, hgr, hgo, hg, ej];decide)) only [zA,zB,zC,zD,zE,zF,zG,zH,zI,zJ,zK,HV.cells,fl0,fl2,flS,flS1,flI1,flU1,flU2,flF,hnt, h0', h3, h4, h6, hgr, hgo, hg, ej]; try exact rfl) (by first|assumption|(simp (disch:=omega) only [get_same,get_other,hnt, h0', h3, h4, h6, hgr, hgo, hg, ej]; first|done|exact rfl)) (by first|assumption|exact ow2 _ _ _ _|exact ow3 _ _ _ _ _ _|rfl|(simp only [zI,zJ,HV.cells,hnt, h0', h3, h4, h6, hgr, hgo, hg, ej]; exact rfl)) ?_
       | refine r_st (cs' := _) (by simp (disch:=first|decide|(simp only[zF,zG,hnt, h0', h3, h4, h6, hgr, hgo, hg, ej];decide)) only [zA,zB,zC,zD,zE,zF,zG,zH,zI,zJ,zK,HV.cells,fl0,fl2,flS,flS1,flI1,flU1,flU2,flF,hnt, h0', h3, h4, h6, hgr, hgo, hg, ej]; try exact rfl) (by simp (disch:=first|decide|(simp only[zF,zG,hnt, h0', h3, h4, h6, hgr, hgo, hg, ej];decide)) only [zA,zB,zC,zD,zE,zF,zG,zH,zI,zJ,zK,HV.cells,fl0,fl2,flS,flS1,flI1,flU1,flU2,flF,hnt, h0', h3, h4, h6, hgr, hgo, hg, ej]; try exact rfl) (by first|assumption|(simp (disch:=omega) only [get_same,get_other,hnt, h0', h3, h4, h6, hgr, hgo, hg, ej]; first|done|exact rfl)) (by exact True.intro) (by rfl) (by rfl) (by first|assumption|exact ow2 _ _ _ _|exact ow3 _ _ _ _ _ _|rfl|(simp only [zI,zJ,HV.cells,hnt, h0', h3, h4, h6, hgr, hgo, hg, ej]; exact rfl)) (by omega) ?_
       | refine r_add (by simp (disch:=first|decide|(simp only[zF,zG,hnt, h0', h3, h4, h6, hgr, hgo, hg, ej];decide)) only [zA,zB,zC,zD,zE,zF,zG,zH,zI,zJ,zK,HV.cells,fl0,fl2,flS,flS1,flI1,flU1,flU2,flF,hnt, h0', h3, h4, h6, hgr, hgo, hg, ej]; try exact rfl) (by simp (disch:=first|decide|(simp only[zF,zG,hnt, h0', h3, h4, h6, hgr, hgo, hg, ej];decide)) only [zA,zB,zC,zD,zE,zF,zG,zH,zI,zJ,zK,HV.cells,fl0,fl2,flS,flS1,flI1,flU1,flU2,flF,hnt, h0', h3, h4, h6, hgr, hgo, hg, ej]; try exact rfl) (by omega) (by omega) ?_
       | refine r_sub (by simp (disch:=first|decide|(simp only[zF,zG,hnt, h0', h3, h4, h6, hgr, hgo, hg, ej];decide)) only [zA,zB,zC,zD,zE,zF,zG,zH,zI,zJ,zK,HV.cells,fl0,fl2,flS,flS1,flI1,flU1,flU2,flF,hnt, h0', h3, h4, h6, hgr, hgo, hg, ej]; try exact rfl) (by simp (disch:=first|decide|(simp only[zF,zG,hnt, h0', h3, h4, h6, hgr, hgo, hg, ej];decide)) only [zA,zB,zC,zD,zE,zF,zG,zH,zI,zJ,zK,HV.cells,fl0,fl2,flS,flS1,flI1,flU1,flU2,flF,hnt, h0', h3, h4, h6, hgr, hgo, hg, ej]; try exact rfl) (by omega) (by omega) ?_
       | refine r_lss (by simp (disch:=first|decide|(simp only[zF,zG,hnt, h0', h3, h4, h6, hgr, hgo, hg, ej];decide)) only [zA,zB,zC,zD,zE,zF,zG,zH,zI,zJ,zK,HV.cells,fl0,fl2,flS,flS1,flI1,flU1,flU2,flF,hnt, h0', h3, h4, h6, hgr, hgo, hg, ej]; try exact rfl) (by simp (disch:=first|decide|(simp only[zF,zG,hnt, h0', h3, h4, h6, hgr, hgo, hg, ej];decide)) only [zA,zB,zC,zD,zE,zF,zG,zH,zI,zJ,zK,HV.cells,fl0,fl2,flS,flS1,flI1,flU1,flU2,flF,hnt, h0', h3, h4, h6, hgr, hgo, hg, ej]; try exact rfl) (fun hc => ?_) (fun hc => ?_) <;> (try (exfalso; omega))
       | refine r_not1 (by simp (disch:=first|decide|(simp only[zF,zG,hnt, h0', h3, h4, h6, hgr, hgo, hg, ej];decide)) only [zA,zB,zC,zD,zE,zF,zG,zH,zI,zJ,zK,HV.cells,fl0,fl2,flS,flS1,flI1,flU1,flU2,flF,hnt, h0', h3, h4, h6, hgr, hgo, hg, ej]; try exact rfl) ?_
       | refine r_len (by simp (disch:=first|decide|(simp only[zF,zG,hnt, h0', h3, h4, h6, hgr, hgo, hg, ej];decide)) only [zA,zB,zC,zD,zE,zF,zG,zH,zI,zJ,zK,HV.cells,fl0,fl2,flS,flS1,flI1,flU1,flU2,flF,hnt, h0', h3, h4, h6, hgr, hgo, hg, ej]; try exact rfl) ?_
       | refine r_ixs (by simp (disch:=first|decide|(simp only[zF,zG,hnt, h0', h3, h4, h6, hgr, hgo, hg, ej];decide)) only [zA,zB,zC,zD,zE,zF,zG,zH,zI,zJ,zK,HV.cells,fl0,fl2,flS,flS1,flI1,flU1,flU2,flF,hnt, h0', h3, h4, h6, hgr, hgo, hg, ej]; try exact rfl) (by simp (disch:=first|decide|(simp only[zF,zG,hnt, h0', h3, h4, h6, hgr, hgo, hg, ej];decide)) only [zA,zB,zC,zD,zE,zF,zG,zH,zI,zJ,zK,HV.cells,fl0,fl2,flS,flS1,flI1,flU1,flU2,flF,hnt, h0', h3, h4, h6, hgr, hgo, hg, ej]; try exact rfl) (by omega) ?_
       | refine r_calls (by simp (disch:=first|decide|(simp only[zF,zG,hnt, h0', h3, h4, h6, hgr, hgo, hg, ej];decide)) only [zA,zB,zC,zD,zE,zF,zG,zH,zI,zJ,zK,HV.cells,fl0,fl2,flS,flS1,flI1,flU1,flU2,flF,hnt, h0', h3, h4, h6, hgr, hgo, hg, ej]; try exact rfl) (by simp (disch:=first|decide|(simp only[zF,zG,hnt, h0', h3, h4, h6, hgr, hgo, hg, ej];decide)) only [List.map_cons,List.map_nil,List.nil_append,List.cons_append,List.append_nil,zA,zB,zC,zD,zE,zF,zG,zH,zI,zJ,zK,HV.cells,fl0,fl2,flS,flS1,flI1,flU1,flU2,flF,hnt, h0', h3, h4, h6, hgr, hgo, hg, ej]; first|done|exact rfl) (cS _ _ _ (by (repeat' first|assumption|refine D.upd ?_ (by omega)|exact D.mono (by assumption) (by omega)) <;> fail)) (fun n' hn' => ?_)
       | refine r_calls (by simp (disch:=first|decide|(simp only[zF,zG,hnt, h0', h3, h4, h6, hgr, hgo, hg, ej];decide)) only [zA,zB,zC,zD,zE,zF,zG,zH,zI,zJ,zK,HV.cells,fl0,fl2,flS,flS1,flI1,flU1,flU2,flF,hnt, h0', h3, h4, h6, hgr, hgo, hg, ej]; try exact rfl) (by simp (disch:=first|decide|(simp only[zF,zG,hnt, h0', h3, h4, h6, hgr, hgo, hg, ej];decide)) only [List.map_cons,List.map_nil,List.nil_append,List.cons_append,List.append_nil,zA,zB,zC,zD,zE,zF,zG,zH,zI,zJ,zK,HV.cells,fl0,fl2,flS,flS1,flI1,flU1,flU2,flF,hnt, h0', h3, h4, h6, hgr, hgo, hg, ej]; first|done|exact rfl) (cA _ _ _) (fun n' hn' => ?_)
       | refine w_draw (by omega) (by (repeat' first|assumption|refine D.upd ?_ (by omega)|exact D.mono (by assumption) (by omega)) <;> fail) ?_
       | refine d_rest rfl ?_
       | refine d_one rfl ?_
       | refine d_next (by omega) ?_
       | fail
      refine loop26 (cp := cp) hlen hl hrow hb1 hb2 hne hfl m (j + 1) _ _ _ u (by omega) hR (Ext.put (he.up (by omega)) (by omega) (by omega)) (by omega) (by omega) (by first|assumption|(simp (disch:=omega) only [get_same,get_other]; first|done|exact rfl)) (by first|assumption|(simp (disch:=omega) only [get_same,get_other,hgo]; first|done|exact rfl)) ?_ ?_ ?_ ?_ ?_ ?_ hq hq2
      all_goals first|(simp only [zL,zM,zF,zG,hnt, hds, h0', h3, h4, h6];done)|(simp (disch:=first|decide|(simp only[zF,zG,hnt, hds, h0', h3, h4, h6];decide)) only [zA,zB,zC,zD,zE,zF,zG,zH,zI,zJ,zK,HV.cells,fl0,fl2,flS,flS1,flI1,flU1,flU2,flF,hnt, hds, h0', h3, h4, h6];first|done|exact rfl)|assumption
    · have cA : ∀ fl h' n', C LW fl 29 [.agg (renc u)] ⟨h', n'⟩ (Sc (· = .bool false) ⟨h', n'⟩) := fun fl h' n' => by have := c_AreReadings (fl := fl) (h := h') (nx := n') (lo := u.1) (hi := u.2); rwa [decide_eq_false hR] at this
      have et : rthr (l.drop j) r = (u, false) := by rw [ed]; show (if _ then _ else _) = _; rw [← hu, if_neg hR]
      refine w_it (show L26w0 = _ by unfold L26w0; exact rfl) ?_
      repeat' first
       | refine r_nil ?_
       | refine th_n ?_
       | refine th_r ?_
       | refine ib_r ?_
       | refine w_seq ?_
       | refine w_reg ?_
       | refine w_ret ?_
       | refine w_skip ?_
       | refine w_block ?_
       | refine w_t (by simp (disch:=first|decide|(simp only[zF,zG,hnt, h0', h3, h4, h6, hgr, hgo, hg, ej];decide)) only [zA,zB,zC,zD,zE,zF,zG,zH,zI,zJ,zK,HV.cells,fl0,fl2,flS,flS1,flI1,flU1,flU2,flF,hnt, h0', h3, h4, h6, hgr, hgo, hg, ej]; first|done|exact rfl) ?_
       | refine r_move (by simp (disch:=first|decide|(simp only[zF,zG,hnt, h0', h3, h4, h6, hgr, hgo, hg, ej];decide)) only [zA,zB,zC,zD,zE,zF,zG,zH,zI,zJ,zK,HV.cells,fl0,fl2,flS,flS1,flI1,flU1,flU2,flF,hnt, h0', h3, h4, h6, hgr, hgo, hg, ej]; try exact rfl) ?_
       | refine r_ldn (by simp (disch:=first|decide|(simp only[zF,zG,hnt, h0', h3, h4, h6, hgr, hgo, hg, ej];decide)) only [zA,zB,zC,zD,zE,zF,zG,zH,zI,zJ,zK,HV.cells,fl0,fl2,flS,flS1,flI1,flU1,flU2,flF,hnt, h0', h3, h4, h6, hgr, hgo, hg, ej]; try exact rfl) (by first|assumption|(simp (disch:=omega) only [get_same,get_other,hnt, h0', h3, h4, h6, hgr, hgo, hg, ej]; first|done|exact rfl)) (by first|assumption|exact ow2 _ _ _ _|exact ow3 _ _ _ _ _ _|rfl|(simp only [zI,zJ,HV.cells,hnt, h0', h3, h4, h6, hgr, hgo, hg, ej]; exact rfl)) ?_
       | refine r_st (cs' := _) (by simp (disch:=first|decide|(simp only[zF,zG,hnt, h0', h3, h4, h6, hgr, hgo, hg, ej];decide)) only [zA,zB,zC,zD,zE,zF,zG,zH,zI,zJ,zK,HV.cells,fl0,fl2,flS,flS1,flI1,flU1,flU2,flF,hnt, h0', h3, h4, h6, hgr, hgo, hg, ej]; try exact rfl) (by simp (disch:=first|decide|(simp only[zF,zG,hnt, h0', h3, h4, h6, hgr, hgo, hg, ej];decide)) only [zA,zB,zC,zD,zE,zF,zG,zH,zI,zJ,zK,HV.cells,fl0,fl2,flS,flS1,flI1,flU1,flU2,flF,hnt, h0', h3, h4, h6, hgr, hgo, hg, ej]; try exact rfl) (by first|assumption|(simp (disch:=omega) only [get_same,get_other,hnt, h0', h3, h4, h6, hgr, hgo, hg, ej]; first|done|exact rfl)) (by exact True.intro) (by rfl) (by rfl) (by first|assumption|exact ow2 _ _ _ _|exact ow3 _ _ _ _ _ _|rfl|(simp only [zI,zJ,HV.cells,hnt, h0', h3, h4, h6, hgr, hgo, hg, ej]; exact rfl)) (by omega) ?_
       | refine r_sub (by simp (disch:=first|decide|(simp only[zF,zG,hnt, h0', h3, h4, h6, hgr, hgo, hg, ej];decide)) only [zA,zB,zC,zD,zE,zF,zG,zH,zI,zJ,zK,HV.cells,fl0,fl2,flS,flS1,flI1,flU1,flU2,flF,hnt, h0', h3, h4, h6, hgr, hgo, hg, ej]; try exact rfl) (by simp (disch:=first|decide|(simp only[zF,zG,hnt, h0', h3, h4, h6, hgr, hgo, hg, ej];decide)) only [zA,zB,zC,zD,zE,zF,zG,zH,zI,zJ,zK,HV.cells,fl0,fl2,flS,flS1,flI1,flU1,flU2,flF,hnt, h0', h3, h4, h6, hgr, hgo, hg, ej]; try exact rfl) (by omega) (by omega) ?_
       | refine r_lss (by simp (disch:=first|decide|(simp only[zF,zG,hnt, h0', h3, h4, h6, hgr, hgo, hg, ej];decide)) only [zA,zB,zC,zD,zE,zF,zG,zH,zI,zJ,zK,HV.cells,fl0,fl2,flS,flS1,flI1,flU1,flU2,flF,hnt, h0', h3, h4, h6, hgr, hgo, hg, ej]; try exact rfl) (by simp (disch:=first|decide|(simp only[zF,zG,hnt, h0', h3, h4, h6, hgr, hgo, hg, ej];decide)) only [zA,zB,zC,zD,zE,zF,zG,zH,zI,zJ,zK,HV.cells,fl0,fl2,flS,flS1,flI1,flU1,flU2,flF,hnt, h0', h3, h4, h6, hgr, hgo, hg, ej]; try exact rfl) (fun hc => ?_) (fun hc => ?_) <;> (try (exfalso; omega))
       | refine r_not1 (by simp (disch:=first|decide|(simp only[zF,zG,hnt, h0', h3, h4, h6, hgr, hgo, hg, ej];decide)) only [zA,zB,zC,zD,zE,zF,zG,zH,zI,zJ,zK,HV.cells,fl0,fl2,flS,flS1,flI1,flU1,flU2,flF,hnt, h0', h3, h4, h6, hgr, hgo, hg, ej]; try exact rfl) ?_
       | refine r_len (by simp (disch:=first|decide|(simp only[zF,zG,hnt, h0', h3, h4, h6, hgr, hgo, hg, ej];decide)) only [zA,zB,zC,zD,zE,zF,zG,zH,zI,zJ,zK,HV.cells,fl0,fl2,flS,flS1,flI1,flU1,flU2,flF,hnt, h0', h3, h4, h6, hgr, hgo, hg, ej]; try exact rfl) ?_
       | refine r_ixs (by simp (disch:=first|decide|(simp only[zF,zG,hnt, h0', h3, h4, h6, hgr, hgo, hg, ej];decide)) only [zA,zB,zC,zD,zE,zF,zG,zH,zI,zJ,zK,HV.cells,fl0,fl2,flS,flS1,flI1,flU1,flU2,flF,hnt, h0', h3, h4, h6, hgr, hgo, hg, ej]; try exact rfl) (by simp (disch:=first|decide|(simp only[zF,zG,hnt, h0', h3, h4, h6, hgr, hgo, hg, ej];decide)) only [zA,zB,zC,zD,zE,zF,zG,zH,zI,zJ,zK,HV.cells,fl0,fl2,flS,flS1,flI1,flU1,flU2,flF,hnt, h0', h3, h4, h6, hgr, hgo, hg, ej]; try exact rfl) (by omega) ?_
       | refine r_calls (by simp (disch:=first|decide|(simp only[zF,zG,hnt, h0', h3, h4, h6, hgr, hgo, hg, ej];decide)) only [zA,zB,zC,zD,zE,zF,zG,zH,zI,zJ,zK,HV.cells,fl0,fl2,flS,flS1,flI1,flU1,flU2,flF,hnt, h0', h3, h4, h6, hgr, hgo, hg, ej]; try exact rfl) (by simp (disch:=first|decide|(simp only[zF,zG,hnt, h0', h3, h4, h6, hgr, hgo, hg, ej];decide)) only [List.map_cons,List.map_nil,List.nil_append,List.cons_append,List.append_nil,zA,zB,zC,zD,zE,zF,zG,zH,zI,zJ,zK,HV.cells,fl0,fl2,flS,flS1,flI1,flU1,flU2,flF,hnt, h0', h3, h4, h6, hgr, hgo, hg, ej]; first|done|exact rfl) (cS _ _ _ (by (repeat' first|assumption|refine D.upd ?_ (by omega)|exact D.mono (by assumption) (by omega)) <;> fail)) (fun n' hn' => ?_)
       | refine r_calls (by simp (disch:=first|decide|(simp only[zF,zG,hnt, h0', h3, h4, h6, hgr, hgo, hg, ej];decide)) only [zA,zB,zC,zD,zE,zF,zG,zH,zI,zJ,zK,HV.cells,fl0,fl2,flS,flS1,flI1,flU1,flU2,flF,hnt, h0', h3, h4, h6, hgr, hgo, hg, ej]; try exact rfl) (by simp (disch:=first|decide|(simp only[zF,zG,hnt, h0', h3, h4, h6, hgr, hgo, hg, ej];decide)) only [List.map_cons,List.map_nil,List.nil_append,List.cons_append,List.append_nil,zA,zB,zC,zD,zE,zF,zG,zH,zI,zJ,zK,HV.cells,fl0,fl2,flS,flS1,flI1,flU1,flU2,flF,hnt, h0', h3, h4, h6, hgr, hgo, hg, ej]; first|done|exact rfl) (cA _ _ _) (fun n' hn' => ?_)
       | refine w_draw (by omega) (by (repeat' first|assumption|refine D.upd ?_ (by omega)|exact D.mono (by assumption) (by omega)) <;> fail) ?_
       | refine d_rest rfl ?_
       | refine d_one rfl ?_
       | refine d_next (by omega) ?_
       | fail
      refine hq2 _ _ _ u et (by omega) (by first|assumption|(simp (disch:=omega) only [get_same,get_other]; first|done|exact rfl)) ?_ ?_ ?_ ?_
      all_goals first|(simp only [zL,zM,zF,zG,hnt, hds, h4];done)|(simp (disch:=first|decide|(simp only[zF,zG,hnt, hds, h4];decide)) only [zA,zB,zC,zD,zE,zF,zG,zH,zI,zJ,zK,HV.cells,fl0,fl2,flS,flS1,flI1,flU1,flU2,flF,hnt, hds, h4];first|done|exact rfl)|assumption
theorem c_refThrough {fl : Nat} {h : Tr HBlk} {nx : Nat} (hd : D h nx) {p : Option (Nat × Nat)} {l : List (Int × Int)} {r : Int × Int} {n cp : Nat} (hn : n = l.length) (hlen : l.length < 1000000) (h0 : l.length ≠ 0) (hl : LOk l) (hr : ROk r.1 r.2) (hrow : Row renc 2 h nx p l) :
    C LW fl 26 [.slice p n cp, .agg (renc r)] ⟨h, nx⟩ (Sc (· = .tuple [.agg (renc (rthr l r).1), .bool (rthr l r).2]) ⟨h, nx⟩) := by
  subst hn
  refine c_in lw26 rfl rfl rfl ?_
  dsimp only [L26]
  repeat' first
   | refine r_nil ?_
   | refine th_n ?_
   | refine w_seq ?_
   | refine w_reg ?_
   | refine w_block ?_
   | refine r_move (by simp (disch:=first|decide|(simp only[zF,zG];decide)) only [zA,zB,zC,zD,zE,zF,zG,zH,zI,zJ,zK,HV.cells,fl0,fl2,flS,flS1,flI1,flU1,flU2,flF]; try exact rfl) ?_
   | refine r_box (by simp (disch:=first|decide|(simp only[zF,zG];decide)) only [zA,zB,zC,zD,zE,zF,zG,zH,zI,zJ,zK,HV.cells,fl0,fl2,flS,flS1,flI1,flU1,flU2,flF]; try exact rfl) ?_
   | refine r_alloc ?_
   | fail
  refine loop26 (h0 := h) (n00 := nx) (rb := nx) (ob := nx + 1) (p := p) (l := l) (cp := cp) hlen hl hrow (by omega) (by omega) (by omega) (by omega) (l.length - 1) 0 _ _ _ r (by omega) hr (by repeat' first|assumption|refine Ext.put ?_ (by omega) (by omega)|exact Ext.up (by assumption) (by omega)|exact Ext.nx (by assumption) (by omega)) (by omega) (by omega) (by first|assumption|(simp (disch:=omega) only [get_same,get_other]; first|done|exact rfl)) (by first|assumption|(simp (disch:=omega) only [get_same,get_other]; first|done|exact rfl)) ?_ ?_ ?_ ?_ ?_ ?_ (fun a' h' n' x g0 g1 g2 g3 g4 g5 g6 g7 g8 g9 => ?_) (fun a' h' n' x g0 g1 g2 g3 g4 g5 g6 => ?_)
  all_goals try first|(simp only [zL,zM,zF,zG];done)|(simp (disch:=first|decide|(simp only[zF,zG];decide)) only [zA,zB,zC,zD,zE,zF,zG,zH,zI,zJ,zK,HV.cells,fl0,fl2,flS,flS1,flI1,flU1,flU2,flF];first|done|exact rfl)|assumption
  · have hle := g1.le
    rw [List.drop_zero] at g0
    rw [g0]
    repeat' first
     | refine r_nil ?_
     | refine th_n ?_
     | refine w_seq ?_
     | refine w_reg ?_
     | refine w_ret ?_
     | refine r_move (by simp (disch:=first|decide|(simp only[zF,zG,g6, g8, g9, g4, g5];decide)) only [zA,zB,zC,zD,zE,zF,zG,zH,zI,zJ,zK,HV.cells,fl0,fl2,flS,flS1,flI1,flU1,flU2,flF,g6, g8, g9, g4, g5]; try exact rfl) ?_
     | refine r_ldn (by simp (disch:=first|decide|(simp only[zF,zG,g6, g8, g9, g4, g5];decide)) only [zA,zB,zC,zD,zE,zF,zG,zH,zI,zJ,zK,HV.cells,fl0,fl2,flS,flS1,flI1,flU1,flU2,flF,g6, g8, g9, g4, g5]; try exact rfl) (by first|assumption|(simp (disch:=omega) only [get_same,get_other,g6, g8, g9, g4, g5]; first|done|exact rfl)) (by first|assumption|exact ow2 _ _ _ _|exact ow3 _ _ _ _ _ _|rfl|(simp only [zI,zJ,HV.cells,g6, g8, g9, g4, g5]; exact rfl)) ?_
     | refine r_st (cs' := _) (by simp (disch:=first|decide|(simp only[zF,zG,g6, g8, g9, g4, g5];decide)) only [zA,zB,zC,zD,zE,zF,zG,zH,zI,zJ,zK,HV.cells,fl0,fl2,flS,flS1,flI1,flU1,flU2,flF,g6, g8, g9, g4, g5]; try exact rfl) (by simp (disch:=first|decide|(simp only[zF,zG,g6, g8, g9, g4, g5];decide)) only [zA,zB,zC,zD,zE,zF,zG,zH,zI,zJ,zK,HV.cells,fl0,fl2,flS,flS1,flI1,flU1,flU2,flF,g6, g8, g9, g4, g5]; try exact rfl) (by first|assumption|(simp (disch:=omega) only [get_same,get_other,g6, g8, g9, g4, g5]; first|done|exact rfl)) (by exact True.intro) (by rfl) (by rfl) (by first|assumption|exact ow2 _ _ _ _|exact ow3 _ _ _ _ _ _|rfl|(simp only [zI,zJ,HV.cells,g6, g8, g9, g4, g5]; exact rfl)) (by omega) ?_
     | fail
    exact fin_m (by simp only [zL, zM, g7]) (res_c (by simp (disch:=first|decide|(simp only[zF,zG,g6, g9];decide)) only [zA,zB,zC,zD,zE,zF,zG,zH,zI,zJ,zK,HV.cells,fl0,fl2,flS,flS1,flI1,flU1,flU2,flF,g6, g9]; try exact rfl) (by first|assumption|(simp (disch:=omega) only [get_same,get_other]; first|done|exact rfl)) rfl (res_t (by simp (disch:=first|decide|(simp only[zF,zG,g6];decide)) only [zA,zB,zC,zD,zE,zF,zG,zH,zI,zJ,zK,HV.cells,fl0,fl2,flS,flS1,flI1,flU1,flU2,flF,g6]; try exact rfl) res_nil)) (sc_flat rfl (by dsimp only; omega) rfl)
  · rw [List.drop_zero] at g0
    rw [g0]
    repeat' first
     | refine th_r ?_
     | fail
    exact fin_m (by simp only [zL, zM, g4]) (res_c (by simp (disch:=first|decide|(simp only[zF,zG,g3, g5];decide)) only [zA,zB,zC,zD,zE,zF,zG,zH,zI,zJ,zK,HV.cells,fl0,fl2,flS,flS1,flI1,flU1,flU2,flF,g3, g5]; try exact rfl) (by first|assumption|(simp (disch:=omega) only [get_same,get_other,g2]; first|done|exact rfl)) rfl (res_t (by simp (disch:=first|decide|(simp only[zF,zG,g3, g6];decide)) only [zA,zB,zC,zD,zE,zF,zG,zH,zI,zJ,zK,HV.cells,fl0,fl2,flS,flS1,flI1,flU1,flU2,flF,g3, g6]; try exact rfl) res_nil)) (sc_flat rfl (by dsimp only; omega) rfl)
end Go.Hx

/- Layer 3: the law of P3.2 and P3.3, behind its first part. -/
namespace Go.Hx
set_option linter.unusedSimpArgs false
set_option linter.unusedVariables false
set_option maxRecDepth 20000
set_option maxHeartbeats 4000000
attribute [local irreducible] W R C thenH inBlockH
--dropu
section
variable {lp : Nat → Option LFunc} {fl : Nat} {N : HAct → HS → Prop} {a : HAct} {h : Tr HBlk} {nx : Nat} {os : List LOper} {dst : Option Nat} {anc : List Nat}
theorem r_ixs0 {size : Nat} {x : Lo} {b o n c : Nat} {σ : HS} (hx : a.ev x = .slice (some (b, o)) n c) (hj : 0 < n) (hn : R lp fl os N (a.put dst (.ptr (some (b, o + 0 * size)))) σ) : R lp fl (⟨dst, .indexAddrS size x (.c (.int .i64 0)), none, anc⟩ :: os) N a σ :=
  r_ixs (j := 0) hx rfl hj hn
theorem r_ixs1 {size : Nat} {x : Lo} {b o n c : Nat} {σ : HS} (hx : a.ev x = .slice (some (b, o)) n c) (hj : 1 < n) (hn : R lp fl os N (a.put dst (.ptr (some (b, o + 1 * size)))) σ) : R lp fl (⟨dst, .indexAddrS size x (.c (.int .i64 1)), none, anc⟩ :: os) N a σ :=
  r_ixs (j := 1) hx rfl hj hn
theorem r_sl2 {size : Nat} {x : Lo} {b o n c : Nat} {σ : HS} (hx : a.ev x = .slice (some (b, o)) n c) (hj : 2 ≤ n) (hc : n ≤ c) (hn : R lp fl os N (a.put dst (.slice (some (b, o)) 2 c)) σ) : R lp fl (⟨dst, .sliceS size x none (some (.c (.int .i64 2))), none, anc⟩ :: os) N a σ :=
  r_go (by
    show oSliceS size x none (some (.c (.int .i64 2))) a σ = some (.slice (some (b, o)) 2 c, σ)
    unfold oSliceS
    rw [hx]
    have e : sliceH σ size (.slice (some (b, o)) n c) none (some (.int .i64 2)) = some (.slice (some (b, o)) 2 c) := by
      show (if 0 ≤ 2 ∧ 2 ≤ c then cutH σ size (some (b, o)) c 0 2 else none) = _
      rw [if_pos ⟨by omega, by omega⟩]
      show (if 0 < c ∨ 0 = 0 then some (HV.slice (some (b, o + 0 * size)) (2 - 0) (c - 0)) else _) = _
      rw [if_pos (.inr rfl), Nat.zero_mul, Nat.add_zero, Nat.sub_zero, Nat.sub_zero]
    show (match sliceH σ size (.slice (some (b, o)) n c) none (some (.int .i64 2)) with | some v => _ | none => _) = _
    rw [e]) hn
end
/-- What is left of the law behind its first part. -/
noncomputable def T4 : LCode := (.seq (.seq (.reg [⟨(.some 55), (.move (.t 0)), .none, []⟩, ⟨(.some 56), (.len .slice (.t 55)), .none, []⟩, ⟨(.some 57), (.bin .lss (.t 56) (.c (.int .i64 2))), .none, []⟩]) (.cond (.t 57) (.seq (.reg [⟨(.some 58), (.call (.c (.func 22 [] [])) []), .none, []⟩, ⟨(.some 4), (.move (.t 58)), .none, []⟩]) .ret) .skip)) (.seq (.draw 15 [⟨(.some 60), (.move (.t 0)), .none, []⟩, ⟨(.some 61), (.indexAddrS 2 (.t 60) (.c (.int .i64 0))), .none, []⟩, ⟨(.some 62), (.load .true 2 (.t 61)), .none, []⟩, ⟨(.some 63), (.call (.c (.func 17 [] [])) [(.t 62)]), .none, []⟩, ⟨(.some 64), (.move (.t 0)), .none, []⟩, ⟨(.some 65), (.indexAddrS 2 (.t 64) (.c (.int .i64 1))), .none, []⟩, ⟨(.some 66), (.load .true 2 (.t 65)), .none, []⟩, ⟨(.some 67), (.call (.c (.func 17 [] [])) [(.t 66)]), .none, [3]⟩, ⟨(.some 68), (.load .true 2 (.t 3)), .none, []⟩, ⟨(.some 69), (.call (.c (.func 19 [] [])) [(.t 68)]), .none, [7, 3]⟩, ⟨(.some 70), (.call (.c (.func 27 [] [])) [(.t 63), (.t 67), (.t 69)]), .none, [9, 7, 3]⟩, ⟨(.some 59), (.move (.t 70)), .none, [10, 9, 7, 3]⟩, ⟨(.some 71), (.extract (.t 59) 0), .none, [10, 9, 7, 3]⟩, ⟨(.some 72), (.extract (.t 59) 1), .none, [10, 9, 7, 3]⟩, ⟨(.some 10), (.alloc [(.int .i64 0), (.int .i64 0)]), .none, []⟩, ⟨.none, (.store 2 (.t 10) (.t 71)), .none, [14, 10, 9, 7, 3]⟩, ⟨(.some 11), (.move (.t 72)), .none, [14, 10, 9, 7, 3]⟩]) (.seq (.seq (.draw 3 [⟨(.some 73), (.move (.t 0)), .none, []⟩, ⟨(.some 74), (.sliceS 2 (.t 73) .none (.some (.c (.int .i64 2)))), .none, []⟩, ⟨(.some 75), (.load .true 2 (.t 3)), .none, []⟩, ⟨(.some 76), (.call (.c (.func 21 [] [])) [(.t 74), (.t 75)]), .none, []⟩, ⟨(.some 7), (.move (.t 76)), .none, [3]⟩]) (.seq (.reg [⟨(.some 77), (.move (.t 7)), .none, []⟩, ⟨(.some 78), (.eq (.cell (.i .i64)) .true (.t 77) (.c (.int .i64 0))), .none, []⟩]) (.cond (.t 78) (.seq (.reg [⟨(.some 79), (.move (.t 11)), .none, []⟩, ⟨(.some 80), (.move (.t 7)), .none, []⟩, ⟨(.some 81), (.eq (.cell (.i .i64)) .false (.t 79) (.t 80)), .none, []⟩, ⟨(.some 82), (.move (.t 81)), .none, []⟩, ⟨(.some 83), (.load .true 2 (.t 10)), (.some (82, .true)), []⟩, ⟨(.some 84), (.build [(.int .i64 0), (.int .i64 0)] []), (.some (82, .true)), []⟩, ⟨(.some 85), (.eq (.row [(.i .i64), (.i .i64)]) .false (.t 83) (.t 84)), (.some (82, .true)), []⟩, ⟨(.some 86), (.pick (.t 82) (.t 85) (.c (.bool .false))), .none, []⟩, ⟨(.some 87), (.move (.t 86)), .none, []⟩, ⟨(.some 88), (.call (.c (.func 22 [] [])) []), (.some (87, .true)), []⟩, ⟨(.some 89), (.pick (.t 87) (.t 88) (.c (.bool .false))), .none, []⟩, ⟨(.some 4), (.move (.t 89)), .none, []⟩]) .ret) .skip))) (.seq (.seq (.draw 9 [⟨(.some 90), (.move (.t 0)), .none, []⟩, ⟨(.some 91), (.indexAddrS 2 (.t 90) (.c (.int .i64 0))), .none, []⟩, ⟨(.some 92), (.load .true 2 (.t 91)), .none, []⟩, ⟨(.some 93), (.move (.t 0)), .none, []⟩, ⟨(.some 94), (.indexAddrS 2 (.t 93) (.c (.int .i64 1))), .none, []⟩, ⟨(.some 95), (.load .true 2 (.t 94)), .none, []⟩, ⟨(.some 96), (.load .true 2 (.t 3)), .none, []⟩, ⟨(.some 97), (.call (.c (.func 28 [] [])) [(.t 92), (.t 95), (.t 96)]), .none, []⟩, ⟨(.some 12), (.alloc [(.int .i64 0), (.int .i64 0)]), .none, []⟩, ⟨.none, (.store 2 (.t 12) (.t 97)), .none, [8, 7]⟩]) (.seq (.reg [⟨(.some 98), (.load .true 2 (.t 12)), .none, []⟩, ⟨(.some 99), (.call (.c (.func 29 [] [])) [(.t 98)]), .none, []⟩]) (.cond (.t 99) (.seq (.draw 6 [⟨(.some 100), (.move (.t 11)), .none, []⟩, ⟨(.some 101), (.eq (.cell (.i .i64)) .false (.t 100) (.c (.int .i64 0))), .none, []⟩, ⟨(.some 102), (.move (.t 101)), .none, []⟩, ⟨(.some 103), (.load .true 2 (.t 10)), (.some (102, .true)), []⟩, ⟨(.some 104), (.load .true 2 (.t 12)), (.some (102, .true)), []⟩, ⟨(.some 105), (.call (.c (.func 19 [] [])) [(.t 104)]), (.some (102, .true)), []⟩, ⟨(.some 106), (.eq (.row [(.i .i64), (.i .i64)]) .false (.t 103) (.t 105)), (.some (102, .true)), [5]⟩, ⟨(.some 107), (.pick (.t 102) (.t 106) (.c (.bool .false))), .none, [5]⟩, ⟨(.some 108), (.move (.t 107)), .none, [5]⟩, ⟨(.some 109), (.call (.c (.func 22 [] [])) []), (.some (108, .true)), [5]⟩, ⟨(.some 110), (.pick (.t 108) (.t 109) (.c (.bool .false))), .none, [9, 5]⟩, ⟨(.some 4), (.move (.t 110)), .none, [9, 5]⟩]) .ret) .skip))) (.seq (.reg [⟨(.some 111), (.move (.t 11)), .none, []⟩, ⟨(.some 112), (.eq (.cell (.i .i64)) .false (.t 111) (.c (.int .i64 10))), .none, []⟩, ⟨(.some 113), (.move (.t 112)), .none, []⟩, ⟨(.some 114), (.load .true 2 (.t 10)), (.some (113, .true)), []⟩, ⟨(.some 115), (.build [(.int .i64 0), (.int .i64 0)] []), (.some (113, .true)), []⟩, ⟨(.some 116), (.eq (.row [(.i .i64), (.i .i64)]) .false (.t 114) (.t 115)), (.some (113, .true)), []⟩, ⟨(.some 117), (.pick (.t 113) (.t 116) (.c (.bool .false))), .none, []⟩, ⟨(.some 118), (.move (.t 117)), .none, []⟩, ⟨(.some 119), (.call (.c (.func 22 [] [])) []), (.some (118, .true)), []⟩, ⟨(.some 120), (.pick (.t 118) (.t 119) (.c (.bool .false))), .none, []⟩, ⟨(.some 4), (.move (.t 120)), .none, []⟩]) .ret)))))
/- 4 -/
theorem rest4 {fl : Nat} {h0 : Tr HBlk} {n0 : Nat} {h : Tr HBlk} {nx : Nat} {a : HAct} {r : Int × Int} {l : List (Int × Int)} {p : Option (Nat × Nat)} {cp : Nat} (hlen : l.length ≤ 11) (hcp : l.length ≤ cp) (he : Ext h0 n0 h nx) (hfl : fl ≤ n0) (hlt : n0 < nx) (hr : h.get n0 = some (.cells (renc r) .exact)) (hrow : Row renc 2 h0 n0 p l)
    (hnt : a.nt = 121) (hds : a.defers = []) (h0' : a.tmp 0 = .slice p l.length cp) (h3 : a.tmp 3 = .ptr (some (n0, 0))) :
    W LW fl none T4 (Fin ⟨h0, n0⟩ [.t 4] (Sc (· = .bool true) ⟨h0, n0⟩)) a ⟨h, nx⟩ := by
  have hd := he.d
  have hle := he.le
  unfold T4
  by_cases h2 : l.length < 2
  · repeat' first
     | refine r_nil ?_
     | refine th_n ?_
     | refine th_r ?_
     | refine w_seq ?_
     | refine w_reg ?_
     | refine w_ret ?_
     | refine w_t (by simp (disch:=first|decide|(simp only[zF,zG,hnt, h0', h3, hr];decide)) only [zA,zB,zC,zD,zE,zF,zG,zH,zI,zJ,zK,HV.cells,fl0,fl2,flS,flS1,flI1,flU1,flU2,flF,hnt, h0', h3, hr]; first|done|exact rfl) ?_
     | refine r_move (by simp (disch:=first|decide|(simp only[zF,zG,hnt, h0', h3, hr];decide)) only [zA,zB,zC,zD,zE,zF,zG,zH,zI,zJ,zK,HV.cells,fl0,fl2,flS,flS1,flI1,flU1,flU2,flF,hnt, h0', h3, hr]; try exact rfl) ?_
     | refine r_lss (by simp (disch:=first|decide|(simp only[zF,zG,hnt, h0', h3, hr];decide)) only [zA,zB,zC,zD,zE,zF,zG,zH,zI,zJ,zK,HV.cells,fl0,fl2,flS,flS1,flI1,flU1,flU2,flF,hnt, h0', h3, hr]; try exact rfl) (by simp (disch:=first|decide|(simp only[zF,zG,hnt, h0', h3, hr];decide)) only [zA,zB,zC,zD,zE,zF,zG,zH,zI,zJ,zK,HV.cells,fl0,fl2,flS,flS1,flI1,flU1,flU2,flF,hnt, h0', h3, hr]; try exact rfl) (fun hc => ?_) (fun hc => ?_) <;> (try (exfalso; omega))
     | refine r_len (by simp (disch:=first|decide|(simp only[zF,zG,hnt, h0', h3, hr];decide)) only [zA,zB,zC,zD,zE,zF,zG,zH,zI,zJ,zK,HV.cells,fl0,fl2,flS,flS1,flI1,flU1,flU2,flF,hnt, h0', h3, hr]; try exact rfl) ?_
     | refine r_calls (by simp (disch:=first|decide|(simp only[zF,zG,hnt, h0', h3, hr];decide)) only [zA,zB,zC,zD,zE,zF,zG,zH,zI,zJ,zK,HV.cells,fl0,fl2,flS,flS1,flI1,flU1,flU2,flF,hnt, h0', h3, hr]; try exact rfl) (by simp (disch:=first|decide|(simp only[zF,zG,hnt, h0', h3, hr];decide)) only [List.map_cons,List.map_nil,List.nil_append,List.cons_append,List.append_nil,zA,zB,zC,zD,zE,zF,zG,zH,zI,zJ,zK,HV.cells,fl0,fl2,flS,flS1,flI1,flU1,flU2,flF,hnt, h0', h3, hr]; first|done|exact rfl) c_wakes (fun n' hn' => ?_)
     | fail
    refine fin_r (by simp only [zL, zM, hds]) (by simp (disch:=first|decide|(simp only[zF,zG,hnt];decide)) only [zA,zB,zC,zD,zE,zF,zG,zH,zI,zJ,zK,HV.cells,fl0,fl2,flS,flS1,flI1,flU1,flU2,flF,hnt]; try exact rfl) (sc_flat rfl (by dsimp only; omega) ?_); rfl
  have hrow0 := hrow.ext he
  have hrow1 := hrow0
  obtain ⟨b, o, cs, kk, rfl, hb, hg, hcs⟩ := hrow0 (by intro e; rw [e] at h2; simp at h2)
  have hy : l[0]? = some l[0] := by simp [show 0 < l.length by omega]
  have hz : l[1]? = some l[1] := by simp [show 1 < l.length by omega]
  have e0 : takeN 2 (cs.drop (o + 0 * 2)) = some (renc l[0]) := hcs 0 _ hy
  have e1 : takeN 2 (cs.drop (o + 1 * 2)) = some (renc l[1]) := hcs 1 _ hz
  obtain ⟨A, hA⟩ : ∃ x, x = l[0] := ⟨_, rfl⟩
  obtain ⟨B, hB⟩ : ∃ x, x = l[1] := ⟨_, rfl⟩
  rw [← hA] at e0
  rw [← hB] at e1
  have hrow2 : Row renc 2 h nx (some (b, o)) [A, B] := fun _ => ⟨b, o, cs, kk, rfl, hb, hg, fun i x hx => by
    match i, hx with
    | 0, hx => cases hx; exact e0
    | 1, hx => cases hx; exact e1⟩
  have cV : ∀ fl h' n', D h' n' → C LW fl 27 [.agg (renc A), .agg (renc B), .agg (renc r)] ⟨h', n'⟩ (Sc (· = .tuple [.agg (renc (thrE [A, B] r).1), i64 (thrE [A, B] r).2]) ⟨h', n'⟩) := fun fl h' n' e => c_Convert e
  have cS : ∀ fl h' n', Ext h nx h' n' → C LW fl 21 [.slice (some (b, o)) 2 cp, .agg (renc r)] ⟨h', n'⟩ (Sc (· = i64 (scl [A, B] r)) ⟨h', n'⟩) := fun fl h' n' e => c_scaled (l := [A, B]) e.d rfl (by simp) (hrow2.ext e)
  by_cases hs : scl [A, B] r = 0
  · obtain ⟨_, hL, hR⟩ := scl_zero hs
    have sA := hL A (List.mem_cons_self ..)
    have sB := hL B (List.mem_cons_of_mem _ (List.mem_cons_self ..))
    have V := cvt_ok sA sB hR
    have cT : ∀ fl h' n', D h' n' → C LW fl 28 [.agg (renc A), .agg (renc B), .agg (renc r)] ⟨h', n'⟩ (Sc (· = .agg (renc (son A B r))) ⟨h', n'⟩) := fun fl h' n' e => c_Stands e sA sB hR
    have cA : ∀ fl h' n', C LW fl 29 [.agg (renc (son A B r))] ⟨h', n'⟩ (Sc (· = .bool (decide (ROk (son A B r).1 (son A B r).2))) ⟨h', n'⟩) := fun fl h' n' => c_AreReadings
    obtain ⟨u, hu⟩ : ∃ x, x = son A B r := ⟨_, rfl⟩
    rw [← hu] at V cT cA
    rw [hs] at cS
    by_cases hQ : ROk u.1 u.2
    · rw [if_pos hQ] at V
      rw [V] at cV
      rw [decide_eq_true hQ] at cA
      repeat' first
       | refine r_nil ?_
       | refine th_n ?_
       | refine th_r ?_
       | refine w_seq ?_
       | refine w_reg ?_
       | refine w_ret ?_
       | refine w_skip ?_
       | refine w_t (by simp (disch:=first|decide|(simp only[zF,zG,hnt, h0', h3, hr, hg];decide)) only [zA,zB,zC,zD,zE,zF,zG,zH,zI,zJ,zK,HV.cells,fl0,fl2,flS,flS1,flI1,flU1,flU2,flF,hnt, h0', h3, hr, hg]; first|done|exact rfl) ?_
       | refine w_f (by simp (disch:=first|decide|(simp only[zF,zG,hnt, h0', h3, hr, hg];decide)) only [zA,zB,zC,zD,zE,zF,zG,zH,zI,zJ,zK,HV.cells,fl0,fl2,flS,flS1,flI1,flU1,flU2,flF,hnt, h0', h3, hr, hg]; first|done|exact rfl) ?_
       | refine r_take (by simp (disch:=first|decide|(simp only[zF,zG,hnt, h0', h3, hr, hg];decide)) only [zA,zB,zC,zD,zE,zF,zG,zH,zI,zJ,zK,HV.cells,fl0,fl2,flS,flS1,flI1,flU1,flU2,flF,hnt, h0', h3, hr, hg]; first|done|exact rfl) ?_
       | refine r_move (by simp (disch:=first|decide|(simp only[zF,zG,hnt, h0', h3, hr, hg];decide)) only [zA,zB,zC,zD,zE,zF,zG,zH,zI,zJ,zK,HV.cells,fl0,fl2,flS,flS1,flI1,flU1,flU2,flF,hnt, h0', h3, hr, hg]; try exact rfl) ?_
       | refine r_ldn (by simp (disch:=first|decide|(simp only[zF,zG,hnt, h0', h3, hr, hg];decide)) only [zA,zB,zC,zD,zE,zF,zG,zH,zI,zJ,zK,HV.cells,fl0,fl2,flS,flS1,flI1,flU1,flU2,flF,hnt, h0', h3, hr, hg]; try exact rfl) (by first|assumption|(simp (disch:=omega) only [get_same,get_other,hnt, h0', h3, hr, hg]; first|done|exact rfl)) (by first|assumption|exact ow2 _ _ _ _|exact ow3 _ _ _ _ _ _|rfl|(simp only [zI,zJ,HV.cells,hnt, h0', h3, hr, hg]; exact rfl)) ?_
       | refine r_alloc ?_
       | refine r_st (cs' := _) (by simp (disch:=first|decide|(simp only[zF,zG,hnt, h0', h3, hr, hg];decide)) only [zA,zB,zC,zD,zE,zF,zG,zH,zI,zJ,zK,HV.cells,fl0,fl2,flS,flS1,flI1,flU1,flU2,flF,hnt, h0', h3, hr, hg]; try exact rfl) (by simp (disch:=first|decide|(simp only[zF,zG,hnt, h0', h3, hr, hg];decide)) only [zA,zB,zC,zD,zE,zF,zG,zH,zI,zJ,zK,HV.cells,fl0,fl2,flS,flS1,flI1,flU1,flU2,flF,hnt, h0', h3, hr, hg]; try exact rfl) (by first|assumption|(simp (disch:=omega) only [get_same,get_other,hnt, h0', h3, hr, hg]; first|done|exact rfl)) (by exact True.intro) (by rfl) (by rfl) (by first|assumption|exact ow2 _ _ _ _|exact ow3 _ _ _ _ _ _|rfl|(simp only [zI,zJ,HV.cells,hnt, h0', h3, hr, hg]; exact rfl)) (by omega) ?_
       | refine r_lss (by simp (disch:=first|decide|(simp only[zF,zG,hnt, h0', h3, hr, hg];decide)) only [zA,zB,zC,zD,zE,zF,zG,zH,zI,zJ,zK,HV.cells,fl0,fl2,flS,flS1,flI1,flU1,flU2,flF,hnt, h0', h3, hr, hg]; try exact rfl) (by simp (disch:=first|decide|(simp only[zF,zG,hnt, h0', h3, hr, hg];decide)) only [zA,zB,zC,zD,zE,zF,zG,zH,zI,zJ,zK,HV.cells,fl0,fl2,flS,flS1,flI1,flU1,flU2,flF,hnt, h0', h3, hr, hg]; try exact rfl) (fun hc => ?_) (fun hc => ?_) <;> (try (exfalso; omega))
       | refine r_eq (by simp (disch:=first|decide|(simp only[zF,zG,hnt, h0', h3, hr, hg];decide)) only [zA,zB,zC,zD,zE,zF,zG,zH,zI,zJ,zK,HV.cells,fl0,fl2,flS,flS1,flI1,flU1,flU2,flF,hnt, h0', h3, hr, hg]; try exact rfl) (by simp (disch:=first|decide|(simp only[zF,zG,hnt, h0', h3, hr, hg];decide)) only [zA,zB,zC,zD,zE,zF,zG,zH,zI,zJ,zK,HV.cells,fl0,fl2,flS,flS1,flI1,flU1,flU2,flF,hnt, h0', h3, hr, hg]; try exact rfl) (fun hc => ?_) (fun hc => ?_) <;> (try (exfalso; omega))
       | refine r_ne (by simp (disch:=first|decide|(simp only[zF,zG,hnt, h0', h3, hr, hg];decide)) only [zA,zB,zC,zD,zE,zF,zG,zH,zI,zJ,zK,HV.cells,fl0,fl2,flS,flS1,flI1,flU1,flU2,flF,hnt, h0', h3, hr, hg]; try exact rfl) (by simp (disch:=first|decide|(simp only[zF,zG,hnt, h0', h3, hr, hg];decide)) only [zA,zB,zC,zD,zE,zF,zG,zH,zI,zJ,zK,HV.cells,fl0,fl2,flS,flS1,flI1,flU1,flU2,flF,hnt, h0', h3, hr, hg]; try exact rfl) (fun hc => ?_) (fun hc => ?_) <;> (try (exfalso; omega))
       | refine r_eqp (by simp (disch:=first|decide|(simp only[zF,zG,hnt, h0', h3, hr, hg];decide)) only [zA,zB,zC,zD,zE,zF,zG,zH,zI,zJ,zK,HV.cells,fl0,fl2,flS,flS1,flI1,flU1,flU2,flF,hnt, h0', h3, hr, hg]; try exact rfl) (by simp (disch:=first|decide|(simp only[zF,zG,hnt, h0', h3, hr, hg];decide)) only [zA,zB,zC,zD,zE,zF,zG,zH,zI,zJ,zK,HV.cells,fl0,fl2,flS,flS1,flI1,flU1,flU2,flF,hnt, h0', h3, hr, hg]; try exact rfl) (fun hc => ?_) (fun hc => ?_) <;> (try (exfalso; omega))
       | refine r_pt (by simp (disch:=first|decide|(simp only[zF,zG,hnt, h0', h3, hr, hg];decide)) only [zA,zB,zC,zD,zE,zF,zG,zH,zI,zJ,zK,HV.cells,fl0,fl2,flS,flS1,flI1,flU1,flU2,flF,hnt, h0', h3, hr, hg]; first|done|exact rfl) (by simp (disch:=first|decide|(simp only[zF,zG,hnt, h0', h3, hr, hg];decide)) only [zA,zB,zC,zD,zE,zF,zG,zH,zI,zJ,zK,HV.cells,fl0,fl2,flS,flS1,flI1,flU1,flU2,flF,hnt, h0', h3, hr, hg]; try exact rfl) ?_
       | refine r_len (by simp (disch:=first|decide|(simp only[zF,zG,hnt, h0', h3, hr, hg];decide)) only [zA,zB,zC,zD,zE,zF,zG,zH,zI,zJ,zK,HV.cells,fl0,fl2,flS,flS1,flI1,flU1,flU2,flF,hnt, h0', h3, hr, hg]; try exact rfl) ?_
       | refine r_ext (by simp (disch:=first|decide|(simp only[zF,zG,hnt, h0', h3, hr, hg];decide)) only [zA,zB,zC,zD,zE,zF,zG,zH,zI,zJ,zK,HV.cells,fl0,fl2,flS,flS1,flI1,flU1,flU2,flF,hnt, h0', h3, hr, hg]; try exact rfl) (by first|assumption|exact ow2 _ _ _ _|exact ow3 _ _ _ _ _ _|rfl|(simp only [zI,zJ,HV.cells,hnt, h0', h3, hr, hg]; exact rfl)) ?_
       | refine r_ixs0 (by simp (disch:=first|decide|(simp only[zF,zG,hnt, h0', h3, hr, hg];decide)) only [zA,zB,zC,zD,zE,zF,zG,zH,zI,zJ,zK,HV.cells,fl0,fl2,flS,flS1,flI1,flU1,flU2,flF,hnt, h0', h3, hr, hg]; try exact rfl) (by omega) ?_
       | refine r_ixs1 (by simp (disch:=first|decide|(simp only[zF,zG,hnt, h0', h3, hr, hg];decide)) only [zA,zB,zC,zD,zE,zF,zG,zH,zI,zJ,zK,HV.cells,fl0,fl2,flS,flS1,flI1,flU1,flU2,flF,hnt, h0', h3, hr, hg]; try exact rfl) (by omega) ?_
       | refine r_sl2 (by simp (disch:=first|decide|(simp only[zF,zG,hnt, h0', h3, hr, hg];decide)) only [zA,zB,zC,zD,zE,zF,zG,zH,zI,zJ,zK,HV.cells,fl0,fl2,flS,flS1,flI1,flU1,flU2,flF,hnt, h0', h3, hr, hg]; try exact rfl) (by omega) hcp ?_
       | refine r_calls (by simp (disch:=first|decide|(simp only[zF,zG,hnt, h0', h3, hr, hg];decide)) only [zA,zB,zC,zD,zE,zF,zG,zH,zI,zJ,zK,HV.cells,fl0,fl2,flS,flS1,flI1,flU1,flU2,flF,hnt, h0', h3, hr, hg]; try exact rfl) (by simp (disch:=first|decide|(simp only[zF,zG,hnt, h0', h3, hr, hg];decide)) only [List.map_cons,List.map_nil,List.nil_append,List.cons_append,List.append_nil,zA,zB,zC,zD,zE,zF,zG,zH,zI,zJ,zK,HV.cells,fl0,fl2,flS,flS1,flI1,flU1,flU2,flF,hnt, h0', h3, hr, hg]; first|done|exact rfl) c_Scale (fun n' hn' => ?_)
       | refine r_calls (by simp (disch:=first|decide|(simp only[zF,zG,hnt, h0', h3, hr, hg];decide)) only [zA,zB,zC,zD,zE,zF,zG,zH,zI,zJ,zK,HV.cells,fl0,fl2,flS,flS1,flI1,flU1,flU2,flF,hnt, h0', h3, hr, hg]; try exact rfl) (by simp (disch:=first|decide|(simp only[zF,zG,hnt, h0', h3, hr, hg];decide)) only [List.map_cons,List.map_nil,List.nil_append,List.cons_append,List.append_nil,zA,zB,zC,zD,zE,zF,zG,zH,zI,zJ,zK,HV.cells,fl0,fl2,flS,flS1,flI1,flU1,flU2,flF,hnt, h0', h3, hr, hg]; first|done|exact rfl) c_to (fun n' hn' => ?_)
       | refine r_calls (by simp (disch:=first|decide|(simp only[zF,zG,hnt, h0', h3, hr, hg];decide)) only [zA,zB,zC,zD,zE,zF,zG,zH,zI,zJ,zK,HV.cells,fl0,fl2,flS,flS1,flI1,flU1,flU2,flF,hnt, h0', h3, hr, hg]; try exact rfl) (by simp (disch:=first|decide|(simp only[zF,zG,hnt, h0', h3, hr, hg];decide)) only [List.map_cons,List.map_nil,List.nil_append,List.cons_append,List.append_nil,zA,zB,zC,zD,zE,zF,zG,zH,zI,zJ,zK,HV.cells,fl0,fl2,flS,flS1,flI1,flU1,flU2,flF,hnt, h0', h3, hr, hg]; first|done|exact rfl) (cV _ _ _ (by (repeat' first|assumption|refine D.upd ?_ (by omega)|exact D.mono (by assumption) (by omega)) <;> fail)) (fun n' hn' => ?_)
       | refine r_calls (by simp (disch:=first|decide|(simp only[zF,zG,hnt, h0', h3, hr, hg];decide)) only [zA,zB,zC,zD,zE,zF,zG,zH,zI,zJ,zK,HV.cells,fl0,fl2,flS,flS1,flI1,flU1,flU2,flF,hnt, h0', h3, hr, hg]; try exact rfl) (by simp (disch:=first|decide|(simp only[zF,zG,hnt, h0', h3, hr, hg];decide)) only [List.map_cons,List.map_nil,List.nil_append,List.cons_append,List.append_nil,zA,zB,zC,zD,zE,zF,zG,zH,zI,zJ,zK,HV.cells,fl0,fl2,flS,flS1,flI1,flU1,flU2,flF,hnt, h0', h3, hr, hg]; first|done|exact rfl) (cS _ _ _ (by repeat' first|assumption|refine Ext.put ?_ (by omega) (by omega)|exact Ext.up (by assumption) (by omega)|exact Ext.nx (by assumption) (by omega))) (fun n' hn' => ?_)
       | refine r_calls (by simp (disch:=first|decide|(simp only[zF,zG,hnt, h0', h3, hr, hg];decide)) only [zA,zB,zC,zD,zE,zF,zG,zH,zI,zJ,zK,HV.cells,fl0,fl2,flS,flS1,flI1,flU1,flU2,flF,hnt, h0', h3, hr, hg]; try exact rfl) (by simp (disch:=first|decide|(simp only[zF,zG,hnt, h0', h3, hr, hg];decide)) only [List.map_cons,List.map_nil,List.nil_append,List.cons_append,List.append_nil,zA,zB,zC,zD,zE,zF,zG,zH,zI,zJ,zK,HV.cells,fl0,fl2,flS,flS1,flI1,flU1,flU2,flF,hnt, h0', h3, hr, hg]; first|done|exact rfl) (cT _ _ _ (by (repeat' first|assumption|refine D.upd ?_ (by omega)|exact D.mono (by assumption) (by omega)) <;> fail)) (fun n' hn' => ?_)
       | refine r_calls (by simp (disch:=first|decide|(simp only[zF,zG,hnt, h0', h3, hr, hg];decide)) only [zA,zB,zC,zD,zE,zF,zG,zH,zI,zJ,zK,HV.cells,fl0,fl2,flS,flS1,flI1,flU1,flU2,flF,hnt, h0', h3, hr, hg]; try exact rfl) (by simp (disch:=first|decide|(simp only[zF,zG,hnt, h0', h3, hr, hg];decide)) only [List.map_cons,List.map_nil,List.nil_append,List.cons_append,List.append_nil,zA,zB,zC,zD,zE,zF,zG,zH,zI,zJ,zK,HV.cells,fl0,fl2,flS,flS1,flI1,flU1,flU2,flF,hnt, h0', h3, hr, hg]; first|done|exact rfl) (cA _ _ _) (fun n' hn' => ?_)
       | refine r_calls (by simp (disch:=first|decide|(simp only[zF,zG,hnt, h0', h3, hr, hg];decide)) only [zA,zB,zC,zD,zE,zF,zG,zH,zI,zJ,zK,HV.cells,fl0,fl2,flS,flS1,flI1,flU1,flU2,flF,hnt, h0', h3, hr, hg]; try exact rfl) (by simp (disch:=first|decide|(simp only[zF,zG,hnt, h0', h3, hr, hg];decide)) only [List.map_cons,List.map_nil,List.nil_append,List.cons_append,List.append_nil,zA,zB,zC,zD,zE,zF,zG,zH,zI,zJ,zK,HV.cells,fl0,fl2,flS,flS1,flI1,flU1,flU2,flF,hnt, h0', h3, hr, hg]; first|done|exact rfl) c_wakes (fun n' hn' => ?_)
       | refine w_drawg (by omega) ?_
       | refine g_end rfl (by simp (disch:=decide) only [mg_nil,mg_all,mg_in,mg_out,ad_nil,ad_cons]; try exact rfl) ?_
       | refine x_step rfl (by simp (disch:=decide) only [mg_nil,mg_all,mg_in,mg_out,ad_nil,ad_cons]; try exact rfl) ?_
       | refine x_same ?_
       | refine x_new ?_
       | refine x_call (by omega) (by (repeat' first|assumption|refine D.upd ?_ (by omega)|exact D.mono (by assumption) (by omega)) <;> fail) ?_
       | fail
      all_goals (refine fin_r (by simp only [zL, zM, hds]) (by simp (disch:=first|decide|(simp only[zF,zG,hnt];decide)) only [zA,zB,zC,zD,zE,zF,zG,zH,zI,zJ,zK,HV.cells,fl0,fl2,flS,flS1,flI1,flU1,flU2,flF,hnt]; try exact rfl) (sc_flat rfl (by dsimp only; omega) ?_); rfl)
    · rw [if_neg hQ] at V
      rw [V] at cV
      rw [decide_eq_false hQ] at cA
      repeat' first
       | refine r_nil ?_
       | refine th_n ?_
       | refine w_seq ?_
       | refine w_reg ?_
       | refine w_ret ?_
       | refine w_skip ?_
       | refine w_f (by simp (disch:=first|decide|(simp only[zF,zG,hnt, h0', h3, hr, hg];decide)) only [zA,zB,zC,zD,zE,zF,zG,zH,zI,zJ,zK,HV.cells,fl0,fl2,flS,flS1,flI1,flU1,flU2,flF,hnt, h0', h3, hr, hg]; first|done|exact rfl) ?_
       | refine r_take (by simp (disch:=first|decide|(simp only[zF,zG,hnt, h0', h3, hr, hg];decide)) only [zA,zB,zC,zD,zE,zF,zG,zH,zI,zJ,zK,HV.cells,fl0,fl2,flS,flS1,flI1,flU1,flU2,flF,hnt, h0', h3, hr, hg]; first|done|exact rfl) ?_
       | refine r_move (by simp (disch:=first|decide|(simp only[zF,zG,hnt, h0', h3, hr, hg];decide)) only [zA,zB,zC,zD,zE,zF,zG,zH,zI,zJ,zK,HV.cells,fl0,fl2,flS,flS1,flI1,flU1,flU2,flF,hnt, h0', h3, hr, hg]; try exact rfl) ?_
       | refine r_ldn (by simp (disch:=first|decide|(simp only[zF,zG,hnt, h0', h3, hr, hg];decide)) only [zA,zB,zC,zD,zE,zF,zG,zH,zI,zJ,zK,HV.cells,fl0,fl2,flS,flS1,flI1,flU1,flU2,flF,hnt, h0', h3, hr, hg]; try exact rfl) (by first|assumption|(simp (disch:=omega) only [get_same,get_other,hnt, h0', h3, hr, hg]; first|done|exact rfl)) (by first|assumption|exact ow2 _ _ _ _|exact ow3 _ _ _ _ _ _|rfl|(simp only [zI,zJ,HV.cells,hnt, h0', h3, hr, hg]; exact rfl)) ?_
       | refine r_alloc ?_
       | refine r_st (cs' := _) (by simp (disch:=first|decide|(simp only[zF,zG,hnt, h0', h3, hr, hg];decide)) only [zA,zB,zC,zD,zE,zF,zG,zH,zI,zJ,zK,HV.cells,fl0,fl2,flS,flS1,flI1,flU1,flU2,flF,hnt, h0', h3, hr, hg]; try exact rfl) (by simp (disch:=first|decide|(simp only[zF,zG,hnt, h0', h3, hr, hg];decide)) only [zA,zB,zC,zD,zE,zF,zG,zH,zI,zJ,zK,HV.cells,fl0,fl2,flS,flS1,flI1,flU1,flU2,flF,hnt, h0', h3, hr, hg]; try exact rfl) (by first|assumption|(simp (disch:=omega) only [get_same,get_other,hnt, h0', h3, hr, hg]; first|done|exact rfl)) (by exact True.intro) (by rfl) (by rfl) (by first|assumption|exact ow2 _ _ _ _|exact ow3 _ _ _ _ _ _|rfl|(simp only [zI,zJ,HV.cells,hnt, h0', h3, hr, hg]; exact rfl)) (by omega) ?_
       | refine r_lss (by simp (disch:=first|decide|(simp only[zF,zG,hnt, h0', h3, hr, hg];decide)) only [zA,zB,zC,zD,zE,zF,zG,zH,zI,zJ,zK,HV.cells,fl0,fl2,flS,flS1,flI1,flU1,flU2,flF,hnt, h0', h3, hr, hg]; try exact rfl) (by simp (disch:=first|decide|(simp only[zF,zG,hnt, h0', h3, hr, hg];decide)) only [zA,zB,zC,zD,zE,zF,zG,zH,zI,zJ,zK,HV.cells,fl0,fl2,flS,flS1,flI1,flU1,flU2,flF,hnt, h0', h3, hr, hg]; try exact rfl) (fun hc => ?_) (fun hc => ?_) <;> (try (exfalso; omega))
       | refine r_eq (by simp (disch:=first|decide|(simp only[zF,zG,hnt, h0', h3, hr, hg];decide)) only [zA,zB,zC,zD,zE,zF,zG,zH,zI,zJ,zK,HV.cells,fl0,fl2,flS,flS1,flI1,flU1,flU2,flF,hnt, h0', h3, hr, hg]; try exact rfl) (by simp (disch:=first|decide|(simp only[zF,zG,hnt, h0', h3, hr, hg];decide)) only [zA,zB,zC,zD,zE,zF,zG,zH,zI,zJ,zK,HV.cells,fl0,fl2,flS,flS1,flI1,flU1,flU2,flF,hnt, h0', h3, hr, hg]; try exact rfl) (fun hc => ?_) (fun hc => ?_) <;> (try (exfalso; omega))
       | refine r_ne (by simp (disch:=first|decide|(simp only[zF,zG,hnt, h0', h3, hr, hg];decide)) only [zA,zB,zC,zD,zE,zF,zG,zH,zI,zJ,zK,HV.cells,fl0,fl2,flS,flS1,flI1,flU1,flU2,flF,hnt, h0', h3, hr, hg]; try exact rfl) (by simp (disch:=first|decide|(simp only[zF,zG,hnt, h0', h3, hr, hg];decide)) only [zA,zB,zC,zD,zE,zF,zG,zH,zI,zJ,zK,HV.cells,fl0,fl2,flS,flS1,flI1,flU1,flU2,flF,hnt, h0', h3, hr, hg]; try exact rfl) (fun hc => ?_) (fun hc => ?_) <;> (try (exfalso; omega))
       | refine r_eqp (by simp (disch:=first|decide|(simp only[zF,zG,hnt, h0', h3, hr, hg];decide)) only [zA,zB,zC,zD,zE,zF,zG,zH,zI,zJ,zK,HV.cells,fl0,fl2,flS,flS1,flI1,flU1,flU2,flF,hnt, h0', h3, hr, hg]; try exact rfl) (by simp (disch:=first|decide|(simp only[zF,zG,hnt, h0', h3, hr, hg];decide)) only [zA,zB,zC,zD,zE,zF,zG,zH,zI,zJ,zK,HV.cells,fl0,fl2,flS,flS1,flI1,flU1,flU2,flF,hnt, h0', h3, hr, hg]; try exact rfl) (fun hc => ?_) (fun hc => ?_) <;> (try (exfalso; omega))
       | refine r_pt (by simp (disch:=first|decide|(simp only[zF,zG,hnt, h0', h3, hr, hg];decide)) only [zA,zB,zC,zD,zE,zF,zG,zH,zI,zJ,zK,HV.cells,fl0,fl2,flS,flS1,flI1,flU1,flU2,flF,hnt, h0', h3, hr, hg]; first|done|exact rfl) (by simp (disch:=first|decide|(simp only[zF,zG,hnt, h0', h3, hr, hg];decide)) only [zA,zB,zC,zD,zE,zF,zG,zH,zI,zJ,zK,HV.cells,fl0,fl2,flS,flS1,flI1,flU1,flU2,flF,hnt, h0', h3, hr, hg]; try exact rfl) ?_
       | refine r_len (by simp (disch:=first|decide|(simp only[zF,zG,hnt, h0', h3, hr, hg];decide)) only [zA,zB,zC,zD,zE,zF,zG,zH,zI,zJ,zK,HV.cells,fl0,fl2,flS,flS1,flI1,flU1,flU2,flF,hnt, h0', h3, hr, hg]; try exact rfl) ?_
       | refine r_ext (by simp (disch:=first|decide|(simp only[zF,zG,hnt, h0', h3, hr, hg];decide)) only [zA,zB,zC,zD,zE,zF,zG,zH,zI,zJ,zK,HV.cells,fl0,fl2,flS,flS1,flI1,flU1,flU2,flF,hnt, h0', h3, hr, hg]; try exact rfl) (by first|assumption|exact ow2 _ _ _ _|exact ow3 _ _ _ _ _ _|rfl|(simp only [zI,zJ,HV.cells,hnt, h0', h3, hr, hg]; exact rfl)) ?_
       | refine r_build (by simp (disch:=first|decide|(simp only[zF,zG,hnt, h0', h3, hr, hg];decide)) only [evParts,List.map_cons,List.map_nil,List.nil_append,List.cons_append,List.append_nil,zA,zB,zC,zD,zE,zF,zG,zH,zI,zJ,zK,HV.cells,fl0,fl2,flS,flS1,flI1,flU1,flU2,flF,hnt, h0', h3, hr, hg]; try exact rfl) ?_
       | refine r_ixs0 (by simp (disch:=first|decide|(simp only[zF,zG,hnt, h0', h3, hr, hg];decide)) only [zA,zB,zC,zD,zE,zF,zG,zH,zI,zJ,zK,HV.cells,fl0,fl2,flS,flS1,flI1,flU1,flU2,flF,hnt, h0', h3, hr, hg]; try exact rfl) (by omega) ?_
       | refine r_ixs1 (by simp (disch:=first|decide|(simp only[zF,zG,hnt, h0', h3, hr, hg];decide)) only [zA,zB,zC,zD,zE,zF,zG,zH,zI,zJ,zK,HV.cells,fl0,fl2,flS,flS1,flI1,flU1,flU2,flF,hnt, h0', h3, hr, hg]; try exact rfl) (by omega) ?_
       | refine r_sl2 (by simp (disch:=first|decide|(simp only[zF,zG,hnt, h0', h3, hr, hg];decide)) only [zA,zB,zC,zD,zE,zF,zG,zH,zI,zJ,zK,HV.cells,fl0,fl2,flS,flS1,flI1,flU1,flU2,flF,hnt, h0', h3, hr, hg]; try exact rfl) (by omega) hcp ?_
       | refine r_calls (by simp (disch:=first|decide|(simp only[zF,zG,hnt, h0', h3, hr, hg];decide)) only [zA,zB,zC,zD,zE,zF,zG,zH,zI,zJ,zK,HV.cells,fl0,fl2,flS,flS1,flI1,flU1,flU2,flF,hnt, h0', h3, hr, hg]; try exact rfl) (by simp (disch:=first|decide|(simp only[zF,zG,hnt, h0', h3, hr, hg];decide)) only [List.map_cons,List.map_nil,List.nil_append,List.cons_append,List.append_nil,zA,zB,zC,zD,zE,zF,zG,zH,zI,zJ,zK,HV.cells,fl0,fl2,flS,flS1,flI1,flU1,flU2,flF,hnt, h0', h3, hr, hg]; first|done|exact rfl) c_Scale (fun n' hn' => ?_)
       | refine r_calls (by simp (disch:=first|decide|(simp only[zF,zG,hnt, h0', h3, hr, hg];decide)) only [zA,zB,zC,zD,zE,zF,zG,zH,zI,zJ,zK,HV.cells,fl0,fl2,flS,flS1,flI1,flU1,flU2,flF,hnt, h0', h3, hr, hg]; try exact rfl) (by simp (disch:=first|decide|(simp only[zF,zG,hnt, h0', h3, hr, hg];decide)) only [List.map_cons,List.map_nil,List.nil_append,List.cons_append,List.append_nil,zA,zB,zC,zD,zE,zF,zG,zH,zI,zJ,zK,HV.cells,fl0,fl2,flS,flS1,flI1,flU1,flU2,flF,hnt, h0', h3, hr, hg]; first|done|exact rfl) c_to (fun n' hn' => ?_)
       | refine r_calls (by simp (disch:=first|decide|(simp only[zF,zG,hnt, h0', h3, hr, hg];decide)) only [zA,zB,zC,zD,zE,zF,zG,zH,zI,zJ,zK,HV.cells,fl0,fl2,flS,flS1,flI1,flU1,flU2,flF,hnt, h0', h3, hr, hg]; try exact rfl) (by simp (disch:=first|decide|(simp only[zF,zG,hnt, h0', h3, hr, hg];decide)) only [List.map_cons,List.map_nil,List.nil_append,List.cons_append,List.append_nil,zA,zB,zC,zD,zE,zF,zG,zH,zI,zJ,zK,HV.cells,fl0,fl2,flS,flS1,flI1,flU1,flU2,flF,hnt, h0', h3, hr, hg]; first|done|exact rfl) (cV _ _ _ (by (repeat' first|assumption|refine D.upd ?_ (by omega)|exact D.mono (by assumption) (by omega)) <;> fail)) (fun n' hn' => ?_)
       | refine r_calls (by simp (disch:=first|decide|(simp only[zF,zG,hnt, h0', h3, hr, hg];decide)) only [zA,zB,zC,zD,zE,zF,zG,zH,zI,zJ,zK,HV.cells,fl0,fl2,flS,flS1,flI1,flU1,flU2,flF,hnt, h0', h3, hr, hg]; try exact rfl) (by simp (disch:=first|decide|(simp only[zF,zG,hnt, h0', h3, hr, hg];decide)) only [List.map_cons,List.map_nil,List.nil_append,List.cons_append,List.append_nil,zA,zB,zC,zD,zE,zF,zG,zH,zI,zJ,zK,HV.cells,fl0,fl2,flS,flS1,flI1,flU1,flU2,flF,hnt, h0', h3, hr, hg]; first|done|exact rfl) (cS _ _ _ (by repeat' first|assumption|refine Ext.put ?_ (by omega) (by omega)|exact Ext.up (by assumption) (by omega)|exact Ext.nx (by assumption) (by omega))) (fun n' hn' => ?_)
       | refine r_calls (by simp (disch:=first|decide|(simp only[zF,zG,hnt, h0', h3, hr, hg];decide)) only [zA,zB,zC,zD,zE,zF,zG,zH,zI,zJ,zK,HV.cells,fl0,fl2,flS,flS1,flI1,flU1,flU2,flF,hnt, h0', h3, hr, hg]; try exact rfl) (by simp (disch:=first|decide|(simp only[zF,zG,hnt, h0', h3, hr, hg];decide)) only [List.map_cons,List.map_nil,List.nil_append,List.cons_append,List.append_nil,zA,zB,zC,zD,zE,zF,zG,zH,zI,zJ,zK,HV.cells,fl0,fl2,flS,flS1,flI1,flU1,flU2,flF,hnt, h0', h3, hr, hg]; first|done|exact rfl) (cT _ _ _ (by (repeat' first|assumption|refine D.upd ?_ (by omega)|exact D.mono (by assumption) (by omega)) <;> fail)) (fun n' hn' => ?_)
       | refine r_calls (by simp (disch:=first|decide|(simp only[zF,zG,hnt, h0', h3, hr, hg];decide)) only [zA,zB,zC,zD,zE,zF,zG,zH,zI,zJ,zK,HV.cells,fl0,fl2,flS,flS1,flI1,flU1,flU2,flF,hnt, h0', h3, hr, hg]; try exact rfl) (by simp (disch:=first|decide|(simp only[zF,zG,hnt, h0', h3, hr, hg];decide)) only [List.map_cons,List.map_nil,List.nil_append,List.cons_append,List.append_nil,zA,zB,zC,zD,zE,zF,zG,zH,zI,zJ,zK,HV.cells,fl0,fl2,flS,flS1,flI1,flU1,flU2,flF,hnt, h0', h3, hr, hg]; first|done|exact rfl) (cA _ _ _) (fun n' hn' => ?_)
       | refine r_calls (by simp (disch:=first|decide|(simp only[zF,zG,hnt, h0', h3, hr, hg];decide)) only [zA,zB,zC,zD,zE,zF,zG,zH,zI,zJ,zK,HV.cells,fl0,fl2,flS,flS1,flI1,flU1,flU2,flF,hnt, h0', h3, hr, hg]; try exact rfl) (by simp (disch:=first|decide|(simp only[zF,zG,hnt, h0', h3, hr, hg];decide)) only [List.map_cons,List.map_nil,List.nil_append,List.cons_append,List.append_nil,zA,zB,zC,zD,zE,zF,zG,zH,zI,zJ,zK,HV.cells,fl0,fl2,flS,flS1,flI1,flU1,flU2,flF,hnt, h0', h3, hr, hg]; first|done|exact rfl) c_wakes (fun n' hn' => ?_)
       | refine w_drawg (by omega) ?_
       | refine g_end rfl (by simp (disch:=decide) only [mg_nil,mg_all,mg_in,mg_out,ad_nil,ad_cons]; try exact rfl) ?_
       | refine x_step rfl (by simp (disch:=decide) only [mg_nil,mg_all,mg_in,mg_out,ad_nil,ad_cons]; try exact rfl) ?_
       | refine x_same ?_
       | refine x_new ?_
       | refine x_call (by omega) (by (repeat' first|assumption|refine D.upd ?_ (by omega)|exact D.mono (by assumption) (by omega)) <;> fail) ?_
       | fail
      all_goals (refine fin_r (by simp only [zL, zM, hds]) (by simp (disch:=first|decide|(simp only[zF,zG,hnt];decide)) only [zA,zB,zC,zD,zE,zF,zG,zH,zI,zJ,zK,HV.cells,fl0,fl2,flS,flS1,flI1,flU1,flU2,flF,hnt]; try exact rfl) (sc_flat rfl (by dsimp only; omega) ?_); rfl)
  · have V : thrE [A, B] r = ((0, 0), scl [A, B] r) := by
      unfold thrE
      rw [chk_scl (by simp), if_neg hs]
    rw [V] at cV
    obtain ⟨z, hz2⟩ : ∃ z, z = scl [A, B] r := ⟨_, rfl⟩
    rw [← hz2] at cV cS hs
    repeat' first
     | refine r_nil ?_
     | refine th_n ?_
     | refine th_r ?_
     | refine w_seq ?_
     | refine w_reg ?_
     | refine w_ret ?_
     | refine w_skip ?_
     | refine w_t (by simp (disch:=first|decide|(simp only[zF,zG,hnt, h0', h3, hr, hg];decide)) only [zA,zB,zC,zD,zE,zF,zG,zH,zI,zJ,zK,HV.cells,fl0,fl2,flS,flS1,flI1,flU1,flU2,flF,hnt, h0', h3, hr, hg]; first|done|exact rfl) ?_
     | refine w_f (by simp (disch:=first|decide|(simp only[zF,zG,hnt, h0', h3, hr, hg];decide)) only [zA,zB,zC,zD,zE,zF,zG,zH,zI,zJ,zK,HV.cells,fl0,fl2,flS,flS1,flI1,flU1,flU2,flF,hnt, h0', h3, hr, hg]; first|done|exact rfl) ?_
     | refine r_take (by simp (disch:=first|decide|(simp only[zF,zG,hnt, h0', h3, hr, hg];decide)) only [zA,zB,zC,zD,zE,zF,zG,zH,zI,zJ,zK,HV.cells,fl0,fl2,flS,flS1,flI1,flU1,flU2,flF,hnt, h0', h3, hr, hg]; first|done|exact rfl) ?_
     | refine r_move (by simp (disch:=first|decide|(simp only[zF,zG,hnt, h0', h3, hr, hg];decide)) only [zA,zB,zC,zD,zE,zF,zG,zH,zI,zJ,zK,HV.cells,fl0,fl2,flS,flS1,flI1,flU1,flU2,flF,hnt, h0', h3, hr, hg]; try exact rfl) ?_
     | refine r_ldn (by simp (disch:=first|decide|(simp only[zF,zG,hnt, h0', h3, hr, hg];decide)) only [zA,zB,zC,zD,zE,zF,zG,zH,zI,zJ,zK,HV.cells,fl0,fl2,flS,flS1,flI1,flU1,flU2,flF,hnt, h0', h3, hr, hg]; try exact rfl) (by first|assumption|(simp (disch:=omega) only [get_same,get_other,hnt, h0', h3, hr, hg]; first|done|exact rfl)) (by first|assumption|exact ow2 _ _ _ _|exact ow3 _ _ _ _ _ _|rfl|(simp only [zI,zJ,HV.cells,hnt, h0', h3, hr, hg]; exact rfl)) ?_
     | refine r_alloc ?_
     | refine r_st (cs' := _) (by simp (disch:=first|decide|(simp only[zF,zG,hnt, h0', h3, hr, hg];decide)) only [zA,zB,zC,zD,zE,zF,zG,zH,zI,zJ,zK,HV.cells,fl0,fl2,flS,flS1,flI1,flU1,flU2,flF,hnt, h0', h3, hr, hg]; try exact rfl) (by simp (disch:=first|decide|(simp only[zF,zG,hnt, h0', h3, hr, hg];decide)) only [zA,zB,zC,zD,zE,zF,zG,zH,zI,zJ,zK,HV.cells,fl0,fl2,flS,flS1,flI1,flU1,flU2,flF,hnt, h0', h3, hr, hg]; try exact rfl) (by first|assumption|(simp (disch:=omega) only [get_same,get_other,hnt, h0', h3, hr, hg]; first|done|exact rfl)) (by exact True.intro) (by rfl) (by rfl) (by first|assumption|exact ow2 _ _ _ _|exact ow3 _ _ _ _ _ _|rfl|(simp only [zI,zJ,HV.cells,hnt, h0', h3, hr, hg]; exact rfl)) (by omega) ?_
     | refine r_lss (by simp (disch:=first|decide|(simp only[zF,zG,hnt, h0', h3, hr, hg];decide)) only [zA,zB,zC,zD,zE,zF,zG,zH,zI,zJ,zK,HV.cells,fl0,fl2,flS,flS1,flI1,flU1,flU2,flF,hnt, h0', h3, hr, hg]; try exact rfl) (by simp (disch:=first|decide|(simp only[zF,zG,hnt, h0', h3, hr, hg];decide)) only [zA,zB,zC,zD,zE,zF,zG,zH,zI,zJ,zK,HV.cells,fl0,fl2,flS,flS1,flI1,flU1,flU2,flF,hnt, h0', h3, hr, hg]; try exact rfl) (fun hc => ?_) (fun hc => ?_) <;> (try (exfalso; omega))
     | refine r_eq (by simp (disch:=first|decide|(simp only[zF,zG,hnt, h0', h3, hr, hg];decide)) only [zA,zB,zC,zD,zE,zF,zG,zH,zI,zJ,zK,HV.cells,fl0,fl2,flS,flS1,flI1,flU1,flU2,flF,hnt, h0', h3, hr, hg]; try exact rfl) (by simp (disch:=first|decide|(simp only[zF,zG,hnt, h0', h3, hr, hg];decide)) only [zA,zB,zC,zD,zE,zF,zG,zH,zI,zJ,zK,HV.cells,fl0,fl2,flS,flS1,flI1,flU1,flU2,flF,hnt, h0', h3, hr, hg]; try exact rfl) (fun hc => ?_) (fun hc => ?_) <;> (try (exfalso; omega))
     | refine r_ne (by simp (disch:=first|decide|(simp only[zF,zG,hnt, h0', h3, hr, hg];decide)) only [zA,zB,zC,zD,zE,zF,zG,zH,zI,zJ,zK,HV.cells,fl0,fl2,flS,flS1,flI1,flU1,flU2,flF,hnt, h0', h3, hr, hg]; try exact rfl) (by simp (disch:=first|decide|(simp only[zF,zG,hnt, h0', h3, hr, hg];decide)) only [zA,zB,zC,zD,zE,zF,zG,zH,zI,zJ,zK,HV.cells,fl0,fl2,flS,flS1,flI1,flU1,flU2,flF,hnt, h0', h3, hr, hg]; try exact rfl) (fun hc => ?_) (fun hc => ?_) <;> (try (exfalso; omega))
     | refine r_eqp (by simp (disch:=first|decide|(simp only[zF,zG,hnt, h0', h3, hr, hg];decide)) only [zA,zB,zC,zD,zE,zF,zG,zH,zI,zJ,zK,HV.cells,fl0,fl2,flS,flS1,flI1,flU1,flU2,flF,hnt, h0', h3, hr, hg]; try exact rfl) (by simp (disch:=first|decide|(simp only[zF,zG,hnt, h0', h3, hr, hg];decide)) only [zA,zB,zC,zD,zE,zF,zG,zH,zI,zJ,zK,HV.cells,fl0,fl2,flS,flS1,flI1,flU1,flU2,flF,hnt, h0', h3, hr, hg]; try exact rfl) (fun hc => ?_) (fun hc => ?_) <;> (try (exfalso; omega))
     | refine r_pt (by simp (disch:=first|decide|(simp only[zF,zG,hnt, h0', h3, hr, hg];decide)) only [zA,zB,zC,zD,zE,zF,zG,zH,zI,zJ,zK,HV.cells,fl0,fl2,flS,flS1,flI1,flU1,flU2,flF,hnt, h0', h3, hr, hg]; first|done|exact rfl) (by simp (disch:=first|decide|(simp only[zF,zG,hnt, h0', h3, hr, hg];decide)) only [zA,zB,zC,zD,zE,zF,zG,zH,zI,zJ,zK,HV.cells,fl0,fl2,flS,flS1,flI1,flU1,flU2,flF,hnt, h0', h3, hr, hg]; try exact rfl) ?_
     | refine r_len (by simp (disch:=first|decide|(simp only[zF,zG,hnt, h0', h3, hr, hg];decide)) only [zA,zB,zC,zD,zE,zF,zG,zH,zI,zJ,zK,HV.cells,fl0,fl2,flS,flS1,flI1,flU1,flU2,flF,hnt, h0', h3, hr, hg]; try exact rfl) ?_
     | refine r_ext (by simp (disch:=first|decide|(simp only[zF,zG,hnt, h0', h3, hr, hg];decide)) only [zA,zB,zC,zD,zE,zF,zG,zH,zI,zJ,zK,HV.cells,fl0,fl2,flS,flS1,flI1,flU1,flU2,flF,hnt, h0', h3, hr, hg]; try exact rfl) (by first|assumption|exact ow2 _ _ _ _|exact ow3 _ _ _ _ _ _|rfl|(simp only [zI,zJ,HV.cells,hnt, h0', h3, hr, hg]; exact rfl)) ?_
     | refine r_build (by simp (disch:=first|decide|(simp only[zF,zG,hnt, h0', h3, hr, hg];decide)) only [evParts,List.map_cons,List.map_nil,List.nil_append,List.cons_append,List.append_nil,zA,zB,zC,zD,zE,zF,zG,zH,zI,zJ,zK,HV.cells,fl0,fl2,flS,flS1,flI1,flU1,flU2,flF,hnt, h0', h3, hr, hg]; try exact rfl) ?_
     | refine r_ixs0 (by simp (disch:=first|decide|(simp only[zF,zG,hnt, h0', h3, hr, hg];decide)) only [zA,zB,zC,zD,zE,zF,zG,zH,zI,zJ,zK,HV.cells,fl0,fl2,flS,flS1,flI1,flU1,flU2,flF,hnt, h0', h3, hr, hg]; try exact rfl) (by omega) ?_
     | refine r_ixs1 (by simp (disch:=first|decide|(simp only[zF,zG,hnt, h0', h3, hr, hg];decide)) only [zA,zB,zC,zD,zE,zF,zG,zH,zI,zJ,zK,HV.cells,fl0,fl2,flS,flS1,flI1,flU1,flU2,flF,hnt, h0', h3, hr, hg]; try exact rfl) (by omega) ?_
     | refine r_sl2 (by simp (disch:=first|decide|(simp only[zF,zG,hnt, h0', h3, hr, hg];decide)) only [zA,zB,zC,zD,zE,zF,zG,zH,zI,zJ,zK,HV.cells,fl0,fl2,flS,flS1,flI1,flU1,flU2,flF,hnt, h0', h3, hr, hg]; try exact rfl) (by omega) hcp ?_
     | refine r_calls (by simp (disch:=first|decide|(simp only[zF,zG,hnt, h0', h3, hr, hg];decide)) only [zA,zB,zC,zD,zE,zF,zG,zH,zI,zJ,zK,HV.cells,fl0,fl2,flS,flS1,flI1,flU1,flU2,flF,hnt, h0', h3, hr, hg]; try exact rfl) (by simp (disch:=first|decide|(simp only[zF,zG,hnt, h0', h3, hr, hg];decide)) only [List.map_cons,List.map_nil,List.nil_append,List.cons_append,List.append_nil,zA,zB,zC,zD,zE,zF,zG,zH,zI,zJ,zK,HV.cells,fl0,fl2,flS,flS1,flI1,flU1,flU2,flF,hnt, h0', h3, hr, hg]; first|done|exact rfl) c_Scale (fun n' hn' => ?_)
     | refine r_calls (by simp (disch:=first|decide|(simp only[zF,zG,hnt, h0', h3, hr, hg];decide)) only [zA,zB,zC,zD,zE,zF,zG,zH,zI,zJ,zK,HV.cells,fl0,fl2,flS,flS1,flI1,flU1,flU2,flF,hnt, h0', h3, hr, hg]; try exact rfl) (by simp (disch:=first|decide|(simp only[zF,zG,hnt, h0', h3, hr, hg];decide)) only [List.map_cons,List.map_nil,List.nil_append,List.cons_append,List.append_nil,zA,zB,zC,zD,zE,zF,zG,zH,zI,zJ,zK,HV.cells,fl0,fl2,flS,flS1,flI1,flU1,flU2,flF,hnt, h0', h3, hr, hg]; first|done|exact rfl) c_to (fun n' hn' => ?_)
     | refine r_calls (by simp (disch:=first|decide|(simp only[zF,zG,hnt, h0', h3, hr, hg];decide)) only [zA,zB,zC,zD,zE,zF,zG,zH,zI,zJ,zK,HV.cells,fl0,fl2,flS,flS1,flI1,flU1,flU2,flF,hnt, h0', h3, hr, hg]; try exact rfl) (by simp (disch:=first|decide|(simp only[zF,zG,hnt, h0', h3, hr, hg];decide)) only [List.map_cons,List.map_nil,List.nil_append,List.cons_append,List.append_nil,zA,zB,zC,zD,zE,zF,zG,zH,zI,zJ,zK,HV.cells,fl0,fl2,flS,flS1,flI1,flU1,flU2,flF,hnt, h0', h3, hr, hg]; first|done|exact rfl) (cV _ _ _ (by (repeat' first|assumption|refine D.upd ?_ (by omega)|exact D.mono (by assumption) (by omega)) <;> fail)) (fun n' hn' => ?_)
     | refine r_calls (by simp (disch:=first|decide|(simp only[zF,zG,hnt, h0', h3, hr, hg];decide)) only [zA,zB,zC,zD,zE,zF,zG,zH,zI,zJ,zK,HV.cells,fl0,fl2,flS,flS1,flI1,flU1,flU2,flF,hnt, h0', h3, hr, hg]; try exact rfl) (by simp (disch:=first|decide|(simp only[zF,zG,hnt, h0', h3, hr, hg];decide)) only [List.map_cons,List.map_nil,List.nil_append,List.cons_append,List.append_nil,zA,zB,zC,zD,zE,zF,zG,zH,zI,zJ,zK,HV.cells,fl0,fl2,flS,flS1,flI1,flU1,flU2,flF,hnt, h0', h3, hr, hg]; first|done|exact rfl) (cS _ _ _ (by repeat' first|assumption|refine Ext.put ?_ (by omega) (by omega)|exact Ext.up (by assumption) (by omega)|exact Ext.nx (by assumption) (by omega))) (fun n' hn' => ?_)
     | refine r_calls (by simp (disch:=first|decide|(simp only[zF,zG,hnt, h0', h3, hr, hg];decide)) only [zA,zB,zC,zD,zE,zF,zG,zH,zI,zJ,zK,HV.cells,fl0,fl2,flS,flS1,flI1,flU1,flU2,flF,hnt, h0', h3, hr, hg]; try exact rfl) (by simp (disch:=first|decide|(simp only[zF,zG,hnt, h0', h3, hr, hg];decide)) only [List.map_cons,List.map_nil,List.nil_append,List.cons_append,List.append_nil,zA,zB,zC,zD,zE,zF,zG,zH,zI,zJ,zK,HV.cells,fl0,fl2,flS,flS1,flI1,flU1,flU2,flF,hnt, h0', h3, hr, hg]; first|done|exact rfl) c_wakes (fun n' hn' => ?_)
     | refine w_drawg (by omega) ?_
     | refine g_end rfl (by simp (disch:=decide) only [mg_nil,mg_all,mg_in,mg_out,ad_nil,ad_cons]; try exact rfl) ?_
     | refine x_step rfl (by simp (disch:=decide) only [mg_nil,mg_all,mg_in,mg_out,ad_nil,ad_cons]; try exact rfl) ?_
     | refine x_same ?_
     | refine x_new ?_
     | refine x_call (by omega) (by (repeat' first|assumption|refine D.upd ?_ (by omega)|exact D.mono (by assumption) (by omega)) <;> fail) ?_
     | fail
    all_goals (refine fin_r (by simp only [zL, zM, hds]) (by simp (disch:=first|decide|(simp only[zF,zG,hnt];decide)) only [zA,zB,zC,zD,zE,zF,zG,zH,zI,zJ,zK,HV.cells,fl0,fl2,flS,flS1,flI1,flU1,flU2,flF,hnt]; try exact rfl) (sc_flat rfl (by dsimp only; omega) ?_); rfl)
end Go.Hx

