import Derived.Test.YtojkmobfhkjfnaaH09
import Derived.Test.YtojkmobfhkjfnaaH08
set_option linter.all false
namespace Go.Hx
set_option linter.unusedSimpArgs false
set_option linter.unusedVariables false
set_option maxRecDepth 20000
set_option maxHeartbeats 4000000
attribute [local irreducible] W R C thenH inBlockH
end Go.Hx

namespace Go.Hx
set_option linter.unusedSimpArgs false
set_option linter.unusedVariables false
set_option maxRecDepth 20000
set_option maxHeartbeats 4000000
attribute [local irreducible] W R C thenH inBlockH
/- 56 -/
theorem c_ready {fl : Nat} {h : Tr HBlk} {nx : Nat} (hd : D h nx) {t : Tb} {p : Option (Nat × Nat)} {l : List Rd} {m cp : Nat} (hm : m = l.length) (hlen : l.length < 1000000) (hrow : Row Rd.enc 4 h nx p l) :
    C LW fl 56 [.agg t.cells, .slice p m cp] ⟨h, nx⟩ (Sc (· = .bool (decide (l.length ≤ 15 ∧ errOf t.c t.t t.a t.b l = 0))) ⟨h, nx⟩) := by
  subst hm
  have tk : takeN 4 (t.cells.drop 0) = some t.cells := rfl
  have cF : ∀ fl h' n', Ext h nx h' n' → C LW fl 26 [.agg t.cells, .slice p l.length cp] ⟨h', n'⟩ (Sc (· = i64 (errOf t.c t.t t.a t.b l)) ⟨h', n'⟩) := fun fl h' n' e => c_fault e.d rfl (by omega) (hrow.ext e)
  refine c_in lw56 rfl rfl rfl ?_
  dsimp only [L56]
  repeat' first
   | refine r_nil ?_
   | refine th_n ?_
   | refine th_r ?_
   | refine w_seq ?_
   | refine w_reg ?_
   | refine w_ret ?_
   | refine w_skip ?_
   | refine r_take (by simp (disch:=first|decide|(simp only[zF,zG];decide)) only [zA,zB,zC,zD,zE,zF,zG,zH,zI,zJ,zK,HV.cells]; first|done|exact rfl) ?_
   | refine r_drop (by simp (disch:=first|decide|(simp only[zF,zG,Bool.not_true,Bool.not_false];decide)) only [zA,zB,zC,zD,zE,zF,zG,zH,zI,zJ,zK,HV.cells,Bool.not_true,Bool.not_false]; first|done|exact rfl) ?_
   | refine r_move (by simp (disch:=first|decide|(simp only[zF,zG];decide)) only [zA,zB,zC,zD,zE,zF,zG,zH,zI,zJ,zK,HV.cells]; try exact rfl) ?_
   | refine r_ldn (by simp (disch:=first|decide|(simp only[zF,zG];decide)) only [zA,zB,zC,zD,zE,zF,zG,zH,zI,zJ,zK,HV.cells]; try exact rfl) (by first|assumption|(simp (disch:=omega) only [get_same,get_other]; first|done|exact rfl)) (by first|assumption|rfl|(simp only [zI,zJ,HV.cells]; exact rfl)) ?_
   | refine r_box (by simp (disch:=first|decide|(simp only[zF,zG];decide)) only [zA,zB,zC,zD,zE,zF,zG,zH,zI,zJ,zK,HV.cells]; try exact rfl) ?_
   | refine r_leq (by simp (disch:=first|decide|(simp only[zF,zG];decide)) only [zA,zB,zC,zD,zE,zF,zG,zH,zI,zJ,zK,HV.cells]; try exact rfl) (by simp (disch:=first|decide|(simp only[zF,zG];decide)) only [zA,zB,zC,zD,zE,zF,zG,zH,zI,zJ,zK,HV.cells]; try exact rfl) (fun hc => ?_) (fun hc => ?_) <;> (try (exfalso; omega))
   | refine r_eq (by simp (disch:=first|decide|(simp only[zF,zG];decide)) only [zA,zB,zC,zD,zE,zF,zG,zH,zI,zJ,zK,HV.cells]; try exact rfl) (by simp (disch:=first|decide|(simp only[zF,zG];decide)) only [zA,zB,zC,zD,zE,zF,zG,zH,zI,zJ,zK,HV.cells]; try exact rfl) (fun hc => ?_) (fun hc => ?_) <;> (try (exfalso; omega))
   | refine r_ne (by simp (disch:=first|decide|(simp only[zF,zG];decide)) only [zA,zB,zC,zD,zE,zF,zG,zH,zI,zJ,zK,HV.cells]; try exact rfl) (by simp (disch:=first|decide|(simp only[zF,zG];decide)) only [zA,zB,zC,zD,zE,zF,zG,zH,zI,zJ,zK,HV.cells]; try exact rfl) (fun hc => ?_) (fun hc => ?_) <;> (try (exfalso; omega))
   | refine r_eqb (by simp (disch:=first|decide|(simp only[zF,zG];decide)) only [zA,zB,zC,zD,zE,zF,zG,zH,zI,zJ,zK,HV.cells]; try exact rfl) (by simp (disch:=first|decide|(simp only[zF,zG];decide)) only [zA,zB,zC,zD,zE,zF,zG,zH,zI,zJ,zK,HV.cells]; try exact rfl) ?_
   | refine r_pt (by simp (disch:=first|decide|(simp only[zF,zG];decide)) only [zA,zB,zC,zD,zE,zF,zG,zH,zI,zJ,zK,HV.cells]; first|done|exact rfl) (by simp (disch:=first|decide|(simp only[zF,zG];decide)) only [zA,zB,zC,zD,zE,zF,zG,zH,zI,zJ,zK,HV.cells]; try exact rfl) ?_
   | refine r_pf (by simp (disch:=first|decide|(simp only[zF,zG];decide)) only [zA,zB,zC,zD,zE,zF,zG,zH,zI,zJ,zK,HV.cells]; first|done|exact rfl) (by simp (disch:=first|decide|(simp only[zF,zG];decide)) only [zA,zB,zC,zD,zE,zF,zG,zH,zI,zJ,zK,HV.cells]; try exact rfl) ?_
   | refine r_len (by simp (disch:=first|decide|(simp only[zF,zG];decide)) only [zA,zB,zC,zD,zE,zF,zG,zH,zI,zJ,zK,HV.cells]; try exact rfl) ?_
   | refine r_calls (by simp (disch:=first|decide|(simp only[zF,zG];decide)) only [zA,zB,zC,zD,zE,zF,zG,zH,zI,zJ,zK,HV.cells]; try exact rfl) (by simp (disch:=first|decide|(simp only[zF,zG];decide)) only [List.map_cons,List.map_nil,List.nil_append,List.cons_append,List.append_nil,zA,zB,zC,zD,zE,zF,zG,zH,zI,zJ,zK,HV.cells]; try exact rfl) (cF _ _ _ (by repeat' first|assumption|refine Ext.put ?_ (by omega) (by omega)|exact Ext.up (by assumption) (by omega)|exact Ext.nx (by assumption) (by omega))) (fun n' hn' => ?_)
   | fail
  all_goals refine fin_r (by simp only [zL,zM]) (by simp (disch:=first|decide|(simp only[zF,zG];decide)) only [zA,zB,zC,zD,zE,zF,zG,zH,zI,zJ,zK,HV.cells]; try exact rfl) (sc_flat rfl (by dsimp only; omega) ?_)
  all_goals first | rw [decide_eq_true ⟨by omega, by assumption⟩] | rw [decide_eq_false (fun e => by have := e.1; have := e.2; omega)]
end Go.Hx

namespace Go.Hx
set_option linter.unusedSimpArgs false
set_option linter.unusedVariables false
set_option maxRecDepth 20000
set_option maxHeartbeats 4000000
attribute [local irreducible] W R C thenH inBlockH
theorem Row.of_get {α : Type} {enc : α → List HV} {sz : Nat} {h hm : Tr HBlk} {nx : Nat} {p : Option (Nat × Nat)} {l : List α} (hr : Row enc sz h nx p l) (hg : ∀ b, hm.get b = h.get b) : Row enc sz hm nx p l := fun hne => by
  obtain ⟨b, o, cs, k, h1, h2, h3, h4⟩ := hr hne
  exact ⟨b, o, cs, k, h1, h2, (hg b).trans h3, h4⟩
/- 18 -/
theorem loop18w1 {fl : Nat} {h0 : Tr HBlk} {n0 : Nat} {Q : HExit → HAct → HS → Prop} {p : Option (Nat × Nat)} {l : List Rd} {cp : Nat} {k c : Int} {v4 v8 v11 : HV} (hlen : l.length < 1000000) (hl : ∀ r ∈ l, RdOk2 c r) (hk : 2 ≤ k ∧ k ≤ 5) (hfl : fl ≤ n0) (hrow : Row Rd.enc 4 h0 n0 p l) :
    ∀ (m i : Nat) (a : HAct) (h : Tr HBlk) (nx : Nat) (v : HV), m + i = l.length → Ext h0 n0 h nx → Out Rd.enc 4 n0 h nx v ((l.take i).map (sclR k)) → a.nt = 165 → a.defers = [] → a.tmp 4 = v4 → a.tmp 8 = v8 → a.tmp 9 = .slice p l.length cp → a.tmp 10 = i64 k → a.tmp 11 = v11 → a.tmp 12 = v → a.tmp 13 = i64 i →
      (∀ a' h' n' v', Ext h0 n0 h' n' → a'.nt = 165 → a'.defers = [] → a'.tmp 4 = v4 → a'.tmp 8 = v8 → a'.tmp 9 = .slice p l.length cp → a'.tmp 10 = i64 k → a'.tmp 11 = v11 → a'.tmp 12 = v' → Out Rd.enc 4 n0 h' n' v' (l.map (sclR k)) → Q .normal a' ⟨h', n'⟩) → W LW fl none (.loop L18w1) (inBlockH 0 Q) a ⟨h, nx⟩
  | 0, i, a, h, nx, v, hm, he, ho, hnt, hds, h4, h8, h9, h10, h11, h12, h13, hq => by
    have hd := he.d
    have hle := he.le
    refine w_it (show L18w1 = _ by unfold L18w1; exact rfl) ?_
    repeat' first
     | refine r_nil ?_
     | refine th_n ?_
     | refine th_r ?_
     | refine th_e ?_
     | refine ib_n ?_
     | refine ib_r ?_
     | refine ib_e ?_
     | refine ib_x (by decide) ?_
     | refine w_exit ?_
     | refine w_seq ?_
     | refine w_reg ?_
     | refine w_ret ?_
     | refine w_skip ?_
     | refine w_block ?_
     | refine w_t (by simp (disch:=first|decide|(simp only[zF,zG,hnt, h4, h8, h9, h10, h11, h12, h13];decide)) only [zA,zB,zC,zD,zE,zF,zG,zH,zI,zJ,zK,HV.cells,hnt, h4, h8, h9, h10, h11, h12, h13]; first|done|exact rfl) ?_
     | refine w_f (by simp (disch:=first|decide|(simp only[zF,zG,hnt, h4, h8, h9, h10, h11, h12, h13];decide)) only [zA,zB,zC,zD,zE,zF,zG,zH,zI,zJ,zK,HV.cells,hnt, h4, h8, h9, h10, h11, h12, h13]; first|done|exact rfl) ?_
     | refine r_take (by simp (disch:=first|decide|(simp only[zF,zG,hnt, h4, h8, h9, h10, h11, h12, h13];decide)) only [zA,zB,zC,zD,zE,zF,zG,zH,zI,zJ,zK,HV.cells,hnt, h4, h8, h9, h10, h11, h12, h13]; first|done|exact rfl) ?_
     | refine r_drop (by simp (disch:=first|decide|(simp only[zF,zG,Bool.not_true,Bool.not_false,hnt, h4, h8, h9, h10, h11, h12, h13];decide)) only [zA,zB,zC,zD,zE,zF,zG,zH,zI,zJ,zK,HV.cells,Bool.not_true,Bool.not_false,hnt, h4, h8, h9, h10, h11, h12, h13]; first|done|exact rfl) ?_
     | refine r_move (by simp (disch:=first|decide|(simp only[zF,zG,hnt, h4, h8, h9, h10, h11, h12, h13];decide)) only [zA,zB,zC,zD,zE,zF,zG,zH,zI,zJ,zK,HV.cells,hnt, h4, h8, h9, h10, h11, h12, h13]; try exact rfl) ?_
     | refine r_fa (by simp (disch:=first|decide|(simp only[zF,zG,hnt, h4, h8, h9, h10, h11, h12, h13];decide)) only [zA,zB,zC,zD,zE,zF,zG,zH,zI,zJ,zK,HV.cells,hnt, h4, h8, h9, h10, h11, h12, h13]; try exact rfl) ?_
     | refine r_ld1 (by simp (disch:=first|decide|(simp only[zF,zG,hnt, h4, h8, h9, h10, h11, h12, h13];decide)) only [zA,zB,zC,zD,zE,zF,zG,zH,zI,zJ,zK,HV.cells,hnt, h4, h8, h9, h10, h11, h12, h13]; try exact rfl) (by first|assumption|(simp (disch:=omega) only [get_same,get_other,hnt, h4, h8, h9, h10, h11, h12, h13]; first|done|exact rfl)) (by first|assumption|rfl|(simp only [zI,zJ,HV.cells,hnt, h4, h8, h9, h10, h11, h12, h13]; exact rfl)) ?_
     | refine r_ldn (by simp (disch:=first|decide|(simp only[zF,zG,hnt, h4, h8, h9, h10, h11, h12, h13];decide)) only [zA,zB,zC,zD,zE,zF,zG,zH,zI,zJ,zK,HV.cells,hnt, h4, h8, h9, h10, h11, h12, h13]; try exact rfl) (by first|assumption|(simp (disch:=omega) only [get_same,get_other,hnt, h4, h8, h9, h10, h11, h12, h13]; first|done|exact rfl)) (by first|assumption|rfl|(simp only [zI,zJ,HV.cells,hnt, h4, h8, h9, h10, h11, h12, h13]; exact rfl)) ?_
     | refine r_box (by simp (disch:=first|decide|(simp only[zF,zG,hnt, h4, h8, h9, h10, h11, h12, h13];decide)) only [zA,zB,zC,zD,zE,zF,zG,zH,zI,zJ,zK,HV.cells,hnt, h4, h8, h9, h10, h11, h12, h13]; try exact rfl) ?_
     | refine r_alloc ?_
     | refine r_st (cs' := _) (by simp (disch:=first|decide|(simp only[zF,zG,hnt, h4, h8, h9, h10, h11, h12, h13];decide)) only [zA,zB,zC,zD,zE,zF,zG,zH,zI,zJ,zK,HV.cells,hnt, h4, h8, h9, h10, h11, h12, h13]; try exact rfl) (by simp (disch:=first|decide|(simp only[zF,zG,hnt, h4, h8, h9, h10, h11, h12, h13];decide)) only [zA,zB,zC,zD,zE,zF,zG,zH,zI,zJ,zK,HV.cells,hnt, h4, h8, h9, h10, h11, h12, h13]; try exact rfl) (by first|assumption|(simp (disch:=omega) only [get_same,get_other,hnt, h4, h8, h9, h10, h11, h12, h13]; first|done|exact rfl)) (by exact True.intro) (by rfl) (by rfl) (by first|assumption|rfl|(simp only [zI,zJ,HV.cells,hnt, h4, h8, h9, h10, h11, h12, h13]; exact rfl)) (by omega) ?_
     | refine r_add (by simp (disch:=first|decide|(simp only[zF,zG,hnt, h4, h8, h9, h10, h11, h12, h13];decide)) only [zA,zB,zC,zD,zE,zF,zG,zH,zI,zJ,zK,HV.cells,hnt, h4, h8, h9, h10, h11, h12, h13]; try exact rfl) (by simp (disch:=first|decide|(simp only[zF,zG,hnt, h4, h8, h9, h10, h11, h12, h13];decide)) only [zA,zB,zC,zD,zE,zF,zG,zH,zI,zJ,zK,HV.cells,hnt, h4, h8, h9, h10, h11, h12, h13]; try exact rfl) (by omega) (by omega) ?_
     | refine r_mul (by simp (disch:=first|decide|(simp only[zF,zG,hnt, h4, h8, h9, h10, h11, h12, h13];decide)) only [zA,zB,zC,zD,zE,zF,zG,zH,zI,zJ,zK,HV.cells,hnt, h4, h8, h9, h10, h11, h12, h13]; try exact rfl) (by simp (disch:=first|decide|(simp only[zF,zG,hnt, h4, h8, h9, h10, h11, h12, h13];decide)) only [zA,zB,zC,zD,zE,zF,zG,zH,zI,zJ,zK,HV.cells,hnt, h4, h8, h9, h10, h11, h12, h13]; try exact rfl) (by omega) (by omega) ?_
     | refine r_lss (by simp (disch:=first|decide|(simp only[zF,zG,hnt, h4, h8, h9, h10, h11, h12, h13];decide)) only [zA,zB,zC,zD,zE,zF,zG,zH,zI,zJ,zK,HV.cells,hnt, h4, h8, h9, h10, h11, h12, h13]; try exact rfl) (by simp (disch:=first|decide|(simp only[zF,zG,hnt, h4, h8, h9, h10, h11, h12, h13];decide)) only [zA,zB,zC,zD,zE,zF,zG,zH,zI,zJ,zK,HV.cells,hnt, h4, h8, h9, h10, h11, h12, h13]; try exact rfl) (fun hc => ?_) (fun hc => ?_) <;> (try (exfalso; omega))
     | refine r_gtr (by simp (disch:=first|decide|(simp only[zF,zG,hnt, h4, h8, h9, h10, h11, h12, h13];decide)) only [zA,zB,zC,zD,zE,zF,zG,zH,zI,zJ,zK,HV.cells,hnt, h4, h8, h9, h10, h11, h12, h13]; try exact rfl) (by simp (disch:=first|decide|(simp only[zF,zG,hnt, h4, h8, h9, h10, h11, h12, h13];decide)) only [zA,zB,zC,zD,zE,zF,zG,zH,zI,zJ,zK,HV.cells,hnt, h4, h8, h9, h10, h11, h12, h13]; try exact rfl) (fun hc => ?_) (fun hc => ?_) <;> (try (exfalso; omega))
     | refine r_eq (by simp (disch:=first|decide|(simp only[zF,zG,hnt, h4, h8, h9, h10, h11, h12, h13];decide)) only [zA,zB,zC,zD,zE,zF,zG,zH,zI,zJ,zK,HV.cells,hnt, h4, h8, h9, h10, h11, h12, h13]; try exact rfl) (by simp (disch:=first|decide|(simp only[zF,zG,hnt, h4, h8, h9, h10, h11, h12, h13];decide)) only [zA,zB,zC,zD,zE,zF,zG,zH,zI,zJ,zK,HV.cells,hnt, h4, h8, h9, h10, h11, h12, h13]; try exact rfl) (fun hc => ?_) (fun hc => ?_) <;> (try (exfalso; omega))
     | refine r_ne (by simp (disch:=first|decide|(simp only[zF,zG,hnt, h4, h8, h9, h10, h11, h12, h13];decide)) only [zA,zB,zC,zD,zE,zF,zG,zH,zI,zJ,zK,HV.cells,hnt, h4, h8, h9, h10, h11, h12, h13]; try exact rfl) (by simp (disch:=first|decide|(simp only[zF,zG,hnt, h4, h8, h9, h10, h11, h12, h13];decide)) only [zA,zB,zC,zD,zE,zF,zG,zH,zI,zJ,zK,HV.cells,hnt, h4, h8, h9, h10, h11, h12, h13]; try exact rfl) (fun hc => ?_) (fun hc => ?_) <;> (try (exfalso; omega))
     | refine r_eqb (by simp (disch:=first|decide|(simp only[zF,zG,hnt, h4, h8, h9, h10, h11, h12, h13];decide)) only [zA,zB,zC,zD,zE,zF,zG,zH,zI,zJ,zK,HV.cells,hnt, h4, h8, h9, h10, h11, h12, h13]; try exact rfl) (by simp (disch:=first|decide|(simp only[zF,zG,hnt, h4, h8, h9, h10, h11, h12, h13];decide)) only [zA,zB,zC,zD,zE,zF,zG,zH,zI,zJ,zK,HV.cells,hnt, h4, h8, h9, h10, h11, h12, h13]; try exact rfl) ?_
     | refine r_not1 (by simp (disch:=first|decide|(simp only[zF,zG,hnt, h4, h8, h9, h10, h11, h12, h13];decide)) only [zA,zB,zC,zD,zE,zF,zG,zH,zI,zJ,zK,HV.cells,hnt, h4, h8, h9, h10, h11, h12, h13]; try exact rfl) ?_
     | refine r_pt (by simp (disch:=first|decide|(simp only[zF,zG,hnt, h4, h8, h9, h10, h11, h12, h13];decide)) only [zA,zB,zC,zD,zE,zF,zG,zH,zI,zJ,zK,HV.cells,hnt, h4, h8, h9, h10, h11, h12, h13]; first|done|exact rfl) (by simp (disch:=first|decide|(simp only[zF,zG,hnt, h4, h8, h9, h10, h11, h12, h13];decide)) only [zA,zB,zC,zD,zE,zF,zG,zH,zI,zJ,zK,HV.cells,hnt, h4, h8, h9, h10, h11, h12, h13]; try exact rfl) ?_
     | refine r_pf (by simp (disch:=first|decide|(simp only[zF,zG,hnt, h4, h8, h9, h10, h11, h12, h13];decide)) only [zA,zB,zC,zD,zE,zF,zG,zH,zI,zJ,zK,HV.cells,hnt, h4, h8, h9, h10, h11, h12, h13]; first|done|exact rfl) (by simp (disch:=first|decide|(simp only[zF,zG,hnt, h4, h8, h9, h10, h11, h12, h13];decide)) only [zA,zB,zC,zD,zE,zF,zG,zH,zI,zJ,zK,HV.cells,hnt, h4, h8, h9, h10, h11, h12, h13]; try exact rfl) ?_
     | refine r_len (by simp (disch:=first|decide|(simp only[zF,zG,hnt, h4, h8, h9, h10, h11, h12, h13];decide)) only [zA,zB,zC,zD,zE,zF,zG,zH,zI,zJ,zK,HV.cells,hnt, h4, h8, h9, h10, h11, h12, h13]; try exact rfl) ?_
     | refine r_ixs (by simp (disch:=first|decide|(simp only[zF,zG,hnt, h4, h8, h9, h10, h11, h12, h13];decide)) only [zA,zB,zC,zD,zE,zF,zG,zH,zI,zJ,zK,HV.cells,hnt, h4, h8, h9, h10, h11, h12, h13]; try exact rfl) (by simp (disch:=first|decide|(simp only[zF,zG,hnt, h4, h8, h9, h10, h11, h12, h13];decide)) only [zA,zB,zC,zD,zE,zF,zG,zH,zI,zJ,zK,HV.cells,hnt, h4, h8, h9, h10, h11, h12, h13]; try exact rfl) (by omega) ?_
     | refine r_ext (by simp (disch:=first|decide|(simp only[zF,zG,hnt, h4, h8, h9, h10, h11, h12, h13];decide)) only [zA,zB,zC,zD,zE,zF,zG,zH,zI,zJ,zK,HV.cells,hnt, h4, h8, h9, h10, h11, h12, h13]; try exact rfl) (by first|assumption|rfl|(simp only [zI,zJ,HV.cells,hnt, h4, h8, h9, h10, h11, h12, h13]; exact rfl)) ?_
     | refine r_build (by simp (disch:=first|decide|(simp only[zF,zG,hnt, h4, h8, h9, h10, h11, h12, h13];decide)) only [evParts,List.map_cons,List.map_nil,List.nil_append,List.cons_append,List.append_nil,zA,zB,zC,zD,zE,zF,zG,zH,zI,zJ,zK,HV.cells,hnt, h4, h8, h9, h10, h11, h12, h13]; try exact rfl) ?_
     | refine r_bs (by simp (disch:=first|decide|(simp only[zF,zG,hnt, h4, h8, h9, h10, h11, h12, h13];decide)) only [evParts,List.map_cons,List.map_nil,List.nil_append,List.cons_append,List.append_nil,zA,zB,zC,zD,zE,zF,zG,zH,zI,zJ,zK,HV.cells,hnt, h4, h8, h9, h10, h11, h12, h13]; try exact rfl) ?_
     | refine r_rem (by simp (disch:=first|decide|(simp only[zF,zG,hnt, h4, h8, h9, h10, h11, h12, h13];decide)) only [zA,zB,zC,zD,zE,zF,zG,zH,zI,zJ,zK,HV.cells,hnt, h4, h8, h9, h10, h11, h12, h13]; try exact rfl) (by simp (disch:=first|decide|(simp only[zF,zG,hnt, h4, h8, h9, h10, h11, h12, h13];decide)) only [zA,zB,zC,zD,zE,zF,zG,zH,zI,zJ,zK,HV.cells,hnt, h4, h8, h9, h10, h11, h12, h13]; try exact rfl) (by omega) (by omega) ?_
     | refine r_conv (by simp (disch:=first|decide|(simp only[zF,zG,hnt, h4, h8, h9, h10, h11, h12, h13];decide)) only [zA,zB,zC,zD,zE,zF,zG,zH,zI,zJ,zK,HV.cells,hnt, h4, h8, h9, h10, h11, h12, h13]; try exact rfl) (by omega) (by omega) ?_
     | refine w_draw (by omega) (by repeat' first|assumption|refine D.upd ?_ (by omega)|exact D.mono (by assumption) (by omega)) ?_
     | refine d_nil ?_
     | refine d_rest rfl ?_
     | refine d_bs rfl ?_
     | refine d_box rfl ?_
     | refine d_alloc rfl ?_
     | refine d_one rfl ?_
     | refine d_next (by omega) ?_
     | refine d_laid ?_
     | fail
    rw [List.take_of_length_le (by omega)] at ho
    refine hq _ _ _ v he ?_ ?_ ?_ ?_ ?_ ?_ ?_ ?_ ho
    all_goals first|(simp only [zL,zM,zF,zG,hnt, hds, h4, h8, h9, h10, h11, h12];done)|(simp (disch:=first|decide|(simp only[zF,zG,hnt, hds, h4, h8, h9, h10, h11, h12];decide)) only [zA,zB,zC,zD,zE,zF,zG,zH,zI,zJ,zK,HV.cells,hnt, hds, h4, h8, h9, h10, h11, h12];first|done|exact rfl)|assumption
  | m + 1, i, a, h, nx, v, hm, he, ho, hnt, hds, h4, h8, h9, h10, h11, h12, h13, hq => by
    have hi : i < l.length := by omega
    have hrow0 := hrow
    have hre := hrow.ext he
    obtain ⟨b, o, cs, kk, rfl, hb, hg, hcs⟩ := hre (by intro e; rw [e] at hi; simp at hi)
    have hy : l[i]? = some l[i] := by simp [hi]
    have e0 := hcs i _ hy
    have x0 := take_at e0 (j := 0) (v := i64 l[i].f) rfl
    have x1 := take_at e0 (j := 1) (v := i64 l[i].g) rfl
    have x2 : cs[o + i * 4 + 2 + 0]? = some (i64 l[i].lo) := take_at e0 (j := 2) (v := i64 l[i].lo) rfl
    have x3 : cs[o + i * 4 + 2 + 1]? = some (i64 l[i].hi) := take_at e0 (j := 3) (v := i64 l[i].hi) rfl
    have hr := hl _ (List.getElem_mem hi)
    unfold RdOk2 at hr
    have m1 := mul_bd (p := k) (q := l[i].lo) (A := 5) (B := 2000) (by omega) (by omega) (by omega) (by omega)
    have m2 := mul_bd (p := k) (q := l[i].hi) (A := 5) (B := 2000) (by omega) (by omega) (by omega) (by omega)
    have hd := he.d
    have hle := he.le
    have fr1 : fillH [i64 0, i64 0] [(0, 1, i64 (k * l[i].lo)), (1, 1, i64 (k * l[i].hi))] = some [i64 (k * l[i].lo), i64 (k * l[i].hi)] := rfl
    have fr2 : fillH [i64 0, i64 0, i64 0, i64 0] [(0, 1, i64 l[i].f), (1, 1, i64 l[i].g), (2, 2, .agg [i64 (k * l[i].lo), i64 (k * l[i].hi)])] = some (sclR k l[i]).enc := rfl
    have fr3 : fillH (repl 1 [i64 0, i64 0, i64 0, i64 0]) [(0, 4, .agg (sclR k l[i]).enc)] = some (sclR k l[i]).enc := rfl
    refine w_it (show L18w1 = _ by unfold L18w1; exact rfl) ?_
    repeat' first
     | refine r_nil ?_
     | refine th_n ?_
     | refine th_r ?_
     | refine th_e ?_
     | refine ib_n ?_
     | refine ib_r ?_
     | refine ib_e ?_
     | refine ib_x (by decide) ?_
     | refine w_exit ?_
     | refine w_seq ?_
     | refine w_reg ?_
     | refine w_ret ?_
     | refine w_skip ?_
     | refine w_block ?_
     | refine w_t (by simp (disch:=first|decide|(simp only[zF,zG,hnt, h4, h8, h9, h10, h11, h12, h13, fr1, fr2, fr3];decide)) only [zA,zB,zC,zD,zE,zF,zG,zH,zI,zJ,zK,HV.cells,hnt, h4, h8, h9, h10, h11, h12, h13, fr1, fr2, fr3]; first|done|exact rfl) ?_
     | refine w_f (by simp (disch:=first|decide|(simp only[zF,zG,hnt, h4, h8, h9, h10, h11, h12, h13, fr1, fr2, fr3];decide)) only [zA,zB,zC,zD,zE,zF,zG,zH,zI,zJ,zK,HV.cells,hnt, h4, h8, h9, h10, h11, h12, h13, fr1, fr2, fr3]; first|done|exact rfl) ?_
     | refine r_take (by simp (disch:=first|decide|(simp only[zF,zG,hnt, h4, h8, h9, h10, h11, h12, h13, fr1, fr2, fr3];decide)) only [zA,zB,zC,zD,zE,zF,zG,zH,zI,zJ,zK,HV.cells,hnt, h4, h8, h9, h10, h11, h12, h13, fr1, fr2, fr3]; first|done|exact rfl) ?_
     | refine r_drop (by simp (disch:=first|decide|(simp only[zF,zG,Bool.not_true,Bool.not_false,hnt, h4, h8, h9, h10, h11, h12, h13, fr1, fr2, fr3];decide)) only [zA,zB,zC,zD,zE,zF,zG,zH,zI,zJ,zK,HV.cells,Bool.not_true,Bool.not_false,hnt, h4, h8, h9, h10, h11, h12, h13, fr1, fr2, fr3]; first|done|exact rfl) ?_
     | refine r_move (by simp (disch:=first|decide|(simp only[zF,zG,hnt, h4, h8, h9, h10, h11, h12, h13, fr1, fr2, fr3];decide)) only [zA,zB,zC,zD,zE,zF,zG,zH,zI,zJ,zK,HV.cells,hnt, h4, h8, h9, h10, h11, h12, h13, fr1, fr2, fr3]; try exact rfl) ?_
     | refine r_fa (by simp (disch:=first|decide|(simp only[zF,zG,hnt, h4, h8, h9, h10, h11, h12, h13, fr1, fr2, fr3];decide)) only [zA,zB,zC,zD,zE,zF,zG,zH,zI,zJ,zK,HV.cells,hnt, h4, h8, h9, h10, h11, h12, h13, fr1, fr2, fr3]; try exact rfl) ?_
     | refine r_ld1 (by simp (disch:=first|decide|(simp only[zF,zG,hnt, h4, h8, h9, h10, h11, h12, h13, fr1, fr2, fr3];decide)) only [zA,zB,zC,zD,zE,zF,zG,zH,zI,zJ,zK,HV.cells,hnt, h4, h8, h9, h10, h11, h12, h13, fr1, fr2, fr3]; try exact rfl) (by first|assumption|(simp (disch:=omega) only [get_same,get_other,hnt, h4, h8, h9, h10, h11, h12, h13, fr1, fr2, fr3]; first|done|exact rfl)) (by first|assumption|rfl|(simp only [zI,zJ,HV.cells,hnt, h4, h8, h9, h10, h11, h12, h13, fr1, fr2, fr3]; exact rfl)) ?_
     | refine r_ldn (by simp (disch:=first|decide|(simp only[zF,zG,hnt, h4, h8, h9, h10, h11, h12, h13, fr1, fr2, fr3];decide)) only [zA,zB,zC,zD,zE,zF,zG,zH,zI,zJ,zK,HV.cells,hnt, h4, h8, h9, h10, h11, h12, h13, fr1, fr2, fr3]; try exact rfl) (by first|assumption|(simp (disch:=omega) only [get_same,get_other,hnt, h4, h8, h9, h10, h11, h12, h13, fr1, fr2, fr3]; first|done|exact rfl)) (by first|assumption|rfl|(simp only [zI,zJ,HV.cells,hnt, h4, h8, h9, h10, h11, h12, h13, fr1, fr2, fr3]; exact rfl)) ?_
     | refine r_box (by simp (disch:=first|decide|(simp only[zF,zG,hnt, h4, h8, h9, h10, h11, h12, h13, fr1, fr2, fr3];decide)) only [zA,zB,zC,zD,zE,zF,zG,zH,zI,zJ,zK,HV.cells,hnt, h4, h8, h9, h10, h11, h12, h13, fr1, fr2, fr3]; try exact rfl) ?_
     | refine r_alloc ?_
     | refine r_st (cs' := _) (by simp (disch:=first|decide|(simp only[zF,zG,hnt, h4, h8, h9, h10, h11, h12, h13, fr1, fr2, fr3];decide)) only [zA,zB,zC,zD,zE,zF,zG,zH,zI,zJ,zK,HV.cells,hnt, h4, h8, h9, h10, h11, h12, h13, fr1, fr2, fr3]; try exact rfl) (by simp (disch:=first|decide|(simp only[zF,zG,hnt, h4, h8, h9, h10, h11, h12, h13, fr1, fr2, fr3];decide)) only [zA,zB,zC,zD,zE,zF,zG,zH,zI,zJ,zK,HV.cells,hnt, h4, h8, h9, h10, h11, h12, h13, fr1, fr2, fr3]; try exact rfl) (by first|assumption|(simp (disch:=omega) only [get_same,get_other,hnt, h4, h8, h9, h10, h11, h12, h13, fr1, fr2, fr3]; first|done|exact rfl)) (by exact True.intro) (by rfl) (by rfl) (by first|assumption|rfl|(simp only [zI,zJ,HV.cells,hnt, h4, h8, h9, h10, h11, h12, h13, fr1, fr2, fr3]; exact rfl)) (by omega) ?_
     | refine r_add (by simp (disch:=first|decide|(simp only[zF,zG,hnt, h4, h8, h9, h10, h11, h12, h13, fr1, fr2, fr3];decide)) only [zA,zB,zC,zD,zE,zF,zG,zH,zI,zJ,zK,HV.cells,hnt, h4, h8, h9, h10, h11, h12, h13, fr1, fr2, fr3]; try exact rfl) (by simp (disch:=first|decide|(simp only[zF,zG,hnt, h4, h8, h9, h10, h11, h12, h13, fr1, fr2, fr3];decide)) only [zA,zB,zC,zD,zE,zF,zG,zH,zI,zJ,zK,HV.cells,hnt, h4, h8, h9, h10, h11, h12, h13, fr1, fr2, fr3]; try exact rfl) (by omega) (by omega) ?_
     | refine r_mul (by simp (disch:=first|decide|(simp only[zF,zG,hnt, h4, h8, h9, h10, h11, h12, h13, fr1, fr2, fr3];decide)) only [zA,zB,zC,zD,zE,zF,zG,zH,zI,zJ,zK,HV.cells,hnt, h4, h8, h9, h10, h11, h12, h13, fr1, fr2, fr3]; try exact rfl) (by simp (disch:=first|decide|(simp only[zF,zG,hnt, h4, h8, h9, h10, h11, h12, h13, fr1, fr2, fr3];decide)) only [zA,zB,zC,zD,zE,zF,zG,zH,zI,zJ,zK,HV.cells,hnt, h4, h8, h9, h10, h11, h12, h13, fr1, fr2, fr3]; try exact rfl) (by omega) (by omega) ?_
     | refine r_lss (by simp (disch:=first|decide|(simp only[zF,zG,hnt, h4, h8, h9, h10, h11, h12, h13, fr1, fr2, fr3];decide)) only [zA,zB,zC,zD,zE,zF,zG,zH,zI,zJ,zK,HV.cells,hnt, h4, h8, h9, h10, h11, h12, h13, fr1, fr2, fr3]; try exact rfl) (by simp (disch:=first|decide|(simp only[zF,zG,hnt, h4, h8, h9, h10, h11, h12, h13, fr1, fr2, fr3];decide)) only [zA,zB,zC,zD,zE,zF,zG,zH,zI,zJ,zK,HV.cells,hnt, h4, h8, h9, h10, h11, h12, h13, fr1, fr2, fr3]; try exact rfl) (fun hc => ?_) (fun hc => ?_) <;> (try (exfalso; omega))
     | refine r_gtr (by simp (disch:=first|decide|(simp only[zF,zG,hnt, h4, h8, h9, h10, h11, h12, h13, fr1, fr2, fr3];decide)) only [zA,zB,zC,zD,zE,zF,zG,zH,zI,zJ,zK,HV.cells,hnt, h4, h8, h9, h10, h11, h12, h13, fr1, fr2, fr3]; try exact rfl) (by simp (disch:=first|decide|(simp only[zF,zG,hnt, h4, h8, h9, h10, h11, h12, h13, fr1, fr2, fr3];decide)) only [zA,zB,zC,zD,zE,zF,zG,zH,zI,zJ,zK,HV.cells,hnt, h4, h8, h9, h10, h11, h12, h13, fr1, fr2, fr3]; try exact rfl) (fun hc => ?_) (fun hc => ?_) <;> (try (exfalso; omega))
     | refine r_eq (by simp (disch:=first|decide|(simp only[zF,zG,hnt, h4, h8, h9, h10, h11, h12, h13, fr1, fr2, fr3];decide)) only [zA,zB,zC,zD,zE,zF,zG,zH,zI,zJ,zK,HV.cells,hnt, h4, h8, h9, h10, h11, h12, h13, fr1, fr2, fr3]; try exact rfl) (by simp (disch:=first|decide|(simp only[zF,zG,hnt, h4, h8, h9, h10, h11, h12, h13, fr1, fr2, fr3];decide)) only [zA,zB,zC,zD,zE,zF,zG,zH,zI,zJ,zK,HV.cells,hnt, h4, h8, h9, h10, h11, h12, h13, fr1, fr2, fr3]; try exact rfl) (fun hc => ?_) (fun hc => ?_) <;> (try (exfalso; omega))
     | refine r_ne (by simp (disch:=first|decide|(simp only[zF,zG,hnt, h4, h8, h9, h10, h11, h12, h13, fr1, fr2, fr3];decide)) only [zA,zB,zC,zD,zE,zF,zG,zH,zI,zJ,zK,HV.cells,hnt, h4, h8, h9, h10, h11, h12, h13, fr1, fr2, fr3]; try exact rfl) (by simp (disch:=first|decide|(simp only[zF,zG,hnt, h4, h8, h9, h10, h11, h12, h13, fr1, fr2, fr3];decide)) only [zA,zB,zC,zD,zE,zF,zG,zH,zI,zJ,zK,HV.cells,hnt, h4, h8, h9, h10, h11, h12, h13, fr1, fr2, fr3]; try exact rfl) (fun hc => ?_) (fun hc => ?_) <;> (try (exfalso; omega))
     | refine r_eqb (by simp (disch:=first|decide|(simp only[zF,zG,hnt, h4, h8, h9, h10, h11, h12, h13, fr1, fr2, fr3];decide)) only [zA,zB,zC,zD,zE,zF,zG,zH,zI,zJ,zK,HV.cells,hnt, h4, h8, h9, h10, h11, h12, h13, fr1, fr2, fr3]; try exact rfl) (by simp (disch:=first|decide|(simp only[zF,zG,hnt, h4, h8, h9, h10, h11, h12, h13, fr1, fr2, fr3];decide)) only [zA,zB,zC,zD,zE,zF,zG,zH,zI,zJ,zK,HV.cells,hnt, h4, h8, h9, h10, h11, h12, h13, fr1, fr2, fr3]; try exact rfl) ?_
     | refine r_not1 (by simp (disch:=first|decide|(simp only[zF,zG,hnt, h4, h8, h9, h10, h11, h12, h13, fr1, fr2, fr3];decide)) only [zA,zB,zC,zD,zE,zF,zG,zH,zI,zJ,zK,HV.cells,hnt, h4, h8, h9, h10, h11, h12, h13, fr1, fr2, fr3]; try exact rfl) ?_
     | refine r_pt (by simp (disch:=first|decide|(simp only[zF,zG,hnt, h4, h8, h9, h10, h11, h12, h13, fr1, fr2, fr3];decide)) only [zA,zB,zC,zD,zE,zF,zG,zH,zI,zJ,zK,HV.cells,hnt, h4, h8, h9, h10, h11, h12, h13, fr1, fr2, fr3]; first|done|exact rfl) (by simp (disch:=first|decide|(simp only[zF,zG,hnt, h4, h8, h9, h10, h11, h12, h13, fr1, fr2, fr3];decide)) only [zA,zB,zC,zD,zE,zF,zG,zH,zI,zJ,zK,HV.cells,hnt, h4, h8, h9, h10, h11, h12, h13, fr1, fr2, fr3]; try exact rfl) ?_
     | refine r_pf (by simp (disch:=first|decide|(simp only[zF,zG,hnt, h4, h8, h9, h10, h11, h12, h13, fr1, fr2, fr3];decide)) only [zA,zB,zC,zD,zE,zF,zG,zH,zI,zJ,zK,HV.cells,hnt, h4, h8, h9, h10, h11, h12, h13, fr1, fr2, fr3]; first|done|exact rfl) (by simp (disch:=first|decide|(simp only[zF,zG,hnt, h4, h8, h9, h10, h11, h12, h13, fr1, fr2, fr3];decide)) only [zA,zB,zC,zD,zE,zF,zG,zH,zI,zJ,zK,HV.cells,hnt, h4, h8, h9, h10, h11, h12, h13, fr1, fr2, fr3]; try exact rfl) ?_
     | refine r_len (by simp (disch:=first|decide|(simp only[zF,zG,hnt, h4, h8, h9, h10, h11, h12, h13, fr1, fr2, fr3];decide)) only [zA,zB,zC,zD,zE,zF,zG,zH,zI,zJ,zK,HV.cells,hnt, h4, h8, h9, h10, h11, h12, h13, fr1, fr2, fr3]; try exact rfl) ?_
     | refine r_ixs (by simp (disch:=first|decide|(simp only[zF,zG,hnt, h4, h8, h9, h10, h11, h12, h13, fr1, fr2, fr3];decide)) only [zA,zB,zC,zD,zE,zF,zG,zH,zI,zJ,zK,HV.cells,hnt, h4, h8, h9, h10, h11, h12, h13, fr1, fr2, fr3]; try exact rfl) (by simp (disch:=first|decide|(simp only[zF,zG,hnt, h4, h8, h9, h10, h11, h12, h13, fr1, fr2, fr3];decide)) only [zA,zB,zC,zD,zE,zF,zG,zH,zI,zJ,zK,HV.cells,hnt, h4, h8, h9, h10, h11, h12, h13, fr1, fr2, fr3]; try exact rfl) (by omega) ?_
     | refine r_ext (by simp (disch:=first|decide|(simp only[zF,zG,hnt, h4, h8, h9, h10, h11, h12, h13, fr1, fr2, fr3];decide)) only [zA,zB,zC,zD,zE,zF,zG,zH,zI,zJ,zK,HV.cells,hnt, h4, h8, h9, h10, h11, h12, h13, fr1, fr2, fr3]; try exact rfl) (by first|assumption|rfl|(simp only [zI,zJ,HV.cells,hnt, h4, h8, h9, h10, h11, h12, h13, fr1, fr2, fr3]; exact rfl)) ?_
     | refine r_build (by simp (disch:=first|decide|(simp only[zF,zG,hnt, h4, h8, h9, h10, h11, h12, h13, fr1, fr2, fr3];decide)) only [evParts,List.map_cons,List.map_nil,List.nil_append,List.cons_append,List.append_nil,zA,zB,zC,zD,zE,zF,zG,zH,zI,zJ,zK,HV.cells,hnt, h4, h8, h9, h10, h11, h12, h13, fr1, fr2, fr3]; try exact rfl) ?_
     | refine r_bs (by simp (disch:=first|decide|(simp only[zF,zG,hnt, h4, h8, h9, h10, h11, h12, h13, fr1, fr2, fr3];decide)) only [evParts,List.map_cons,List.map_nil,List.nil_append,List.cons_append,List.append_nil,zA,zB,zC,zD,zE,zF,zG,zH,zI,zJ,zK,HV.cells,hnt, h4, h8, h9, h10, h11, h12, h13, fr1, fr2, fr3]; try exact rfl) ?_
     | refine r_rem (by simp (disch:=first|decide|(simp only[zF,zG,hnt, h4, h8, h9, h10, h11, h12, h13, fr1, fr2, fr3];decide)) only [zA,zB,zC,zD,zE,zF,zG,zH,zI,zJ,zK,HV.cells,hnt, h4, h8, h9, h10, h11, h12, h13, fr1, fr2, fr3]; try exact rfl) (by simp (disch:=first|decide|(simp only[zF,zG,hnt, h4, h8, h9, h10, h11, h12, h13, fr1, fr2, fr3];decide)) only [zA,zB,zC,zD,zE,zF,zG,zH,zI,zJ,zK,HV.cells,hnt, h4, h8, h9, h10, h11, h12, h13, fr1, fr2, fr3]; try exact rfl) (by omega) (by omega) ?_
     | refine r_conv (by simp (disch:=first|decide|(simp only[zF,zG,hnt, h4, h8, h9, h10, h11, h12, h13, fr1, fr2, fr3];decide)) only [zA,zB,zC,zD,zE,zF,zG,zH,zI,zJ,zK,HV.cells,hnt, h4, h8, h9, h10, h11, h12, h13, fr1, fr2, fr3]; try exact rfl) (by omega) (by omega) ?_
     | refine w_drawg (by omega) ?_
     | refine g_end rfl (by simp (disch:=decide) only [mg_nil,mg_all,mg_in,mg_out,ad_nil,ad_cons]; try exact rfl) ?_
     | refine g_step rfl (by simp (disch:=decide) only [mg_nil,mg_all,mg_in,mg_out,ad_nil,ad_cons]; try exact rfl) ?_
     | refine g_same ?_
     | refine g_new ?_
     | fail
    have hln : ((l.take i).map (sclR k)).length = i := by simp; omega
    obtain ⟨v', h', ha, ho', hs', hd'⟩ := Out.app (x := sclR k l[i]) (bytes := 32) (fl := fl) Rd.enc_len (Rd.enc_one _) (by omega) hfl hd ho (by omega) (by omega) (by omega)
    rw [show (l.take i).map (sclR k) ++ [sclR k l[i]] = (l.take (i + 1)).map (sclR k) by rw [List.take_add_one, hy, List.map_append]; rfl] at ho'
    refine r_app (by simp (disch:=first|decide|(simp only[zF,zG,hnt, h12];decide)) only [zA,zB,zC,zD,zE,zF,zG,zH,zI,zJ,zK,HV.cells,hnt, h12]; try exact rfl) (by simp (disch:=first|decide|(simp only[zF,zG,hnt];decide)) only [zA,zB,zC,zD,zE,zF,zG,zH,zI,zJ,zK,HV.cells,hnt]; try exact rfl) ha ?_
    repeat' first
     | refine r_nil ?_
     | refine th_n ?_
     | refine th_r ?_
     | refine th_e ?_
     | refine ib_n ?_
     | refine ib_r ?_
     | refine ib_e ?_
     | refine ib_x (by decide) ?_
     | refine w_exit ?_
     | refine w_seq ?_
     | refine w_reg ?_
     | refine w_ret ?_
     | refine w_skip ?_
     | refine w_block ?_
     | refine w_t (by simp (disch:=first|decide|(simp only[zF,zG,hnt, h4, h8, h9, h10, h11, h13];decide)) only [zA,zB,zC,zD,zE,zF,zG,zH,zI,zJ,zK,HV.cells,hnt, h4, h8, h9, h10, h11, h13]; first|done|exact rfl) ?_
     | refine w_f (by simp (disch:=first|decide|(simp only[zF,zG,hnt, h4, h8, h9, h10, h11, h13];decide)) only [zA,zB,zC,zD,zE,zF,zG,zH,zI,zJ,zK,HV.cells,hnt, h4, h8, h9, h10, h11, h13]; first|done|exact rfl) ?_
     | refine r_take (by simp (disch:=first|decide|(simp only[zF,zG,hnt, h4, h8, h9, h10, h11, h13];decide)) only [zA,zB,zC,zD,zE,zF,zG,zH,zI,zJ,zK,HV.cells,hnt, h4, h8, h9, h10, h11, h13]; first|done|exact rfl) ?_
     | refine r_drop (by simp (disch:=first|decide|(simp only[zF,zG,Bool.not_true,Bool.not_false,hnt, h4, h8, h9, h10, h11, h13];decide)) only [zA,zB,zC,zD,zE,zF,zG,zH,zI,zJ,zK,HV.cells,Bool.not_true,Bool.not_false,hnt, h4, h8, h9, h10, h11, h13]; first|done|exact rfl) ?_
     | refine r_move (by simp (disch:=first|decide|(simp only[zF,zG,hnt, h4, h8, h9, h10, h11, h13];decide)) only [zA,zB,zC,zD,zE,zF,zG,zH,zI,zJ,zK,HV.cells,hnt, h4, h8, h9, h10, h11, h13]; try exact rfl) ?_
     | refine r_fa (by simp (disch:=first|decide|(simp only[zF,zG,hnt, h4, h8, h9, h10, h11, h13];decide)) only [zA,zB,zC,zD,zE,zF,zG,zH,zI,zJ,zK,HV.cells,hnt, h4, h8, h9, h10, h11, h13]; try exact rfl) ?_
     | refine r_ld1 (by simp (disch:=first|decide|(simp only[zF,zG,hnt, h4, h8, h9, h10, h11, h13];decide)) only [zA,zB,zC,zD,zE,zF,zG,zH,zI,zJ,zK,HV.cells,hnt, h4, h8, h9, h10, h11, h13]; try exact rfl) (by first|assumption|(simp (disch:=omega) only [get_same,get_other,hnt, h4, h8, h9, h10, h11, h13]; first|done|exact rfl)) (by first|assumption|rfl|(simp only [zI,zJ,HV.cells,hnt, h4, h8, h9, h10, h11, h13]; exact rfl)) ?_
     | refine r_ldn (by simp (disch:=first|decide|(simp only[zF,zG,hnt, h4, h8, h9, h10, h11, h13];decide)) only [zA,zB,zC,zD,zE,zF,zG,zH,zI,zJ,zK,HV.cells,hnt, h4, h8, h9, h10, h11, h13]; try exact rfl) (by first|assumption|(simp (disch:=omega) only [get_same,get_other,hnt, h4, h8, h9, h10, h11, h13]; first|done|exact rfl)) (by first|assumption|rfl|(simp only [zI,zJ,HV.cells,hnt, h4, h8, h9, h10, h11, h13]; exact rfl)) ?_
     | refine r_box (by simp (disch:=first|decide|(simp only[zF,zG,hnt, h4, h8, h9, h10, h11, h13];decide)) only [zA,zB,zC,zD,zE,zF,zG,zH,zI,zJ,zK,HV.cells,hnt, h4, h8, h9, h10, h11, h13]; try exact rfl) ?_
     | refine r_alloc ?_
     | refine r_st (cs' := _) (by simp (disch:=first|decide|(simp only[zF,zG,hnt, h4, h8, h9, h10, h11, h13];decide)) only [zA,zB,zC,zD,zE,zF,zG,zH,zI,zJ,zK,HV.cells,hnt, h4, h8, h9, h10, h11, h13]; try exact rfl) (by simp (disch:=first|decide|(simp only[zF,zG,hnt, h4, h8, h9, h10, h11, h13];decide)) only [zA,zB,zC,zD,zE,zF,zG,zH,zI,zJ,zK,HV.cells,hnt, h4, h8, h9, h10, h11, h13]; try exact rfl) (by first|assumption|(simp (disch:=omega) only [get_same,get_other,hnt, h4, h8, h9, h10, h11, h13]; first|done|exact rfl)) (by exact True.intro) (by rfl) (by rfl) (by first|assumption|rfl|(simp only [zI,zJ,HV.cells,hnt, h4, h8, h9, h10, h11, h13]; exact rfl)) (by omega) ?_
     | refine r_add (by simp (disch:=first|decide|(simp only[zF,zG,hnt, h4, h8, h9, h10, h11, h13];decide)) only [zA,zB,zC,zD,zE,zF,zG,zH,zI,zJ,zK,HV.cells,hnt, h4, h8, h9, h10, h11, h13]; try exact rfl) (by simp (disch:=first|decide|(simp only[zF,zG,hnt, h4, h8, h9, h10, h11, h13];decide)) only [zA,zB,zC,zD,zE,zF,zG,zH,zI,zJ,zK,HV.cells,hnt, h4, h8, h9, h10, h11, h13]; try exact rfl) (by omega) (by omega) ?_
     | refine r_mul (by simp (disch:=first|decide|(simp only[zF,zG,hnt, h4, h8, h9, h10, h11, h13];decide)) only [zA,zB,zC,zD,zE,zF,zG,zH,zI,zJ,zK,HV.cells,hnt, h4, h8, h9, h10, h11, h13]; try exact rfl) (by simp (disch:=first|decide|(simp only[zF,zG,hnt, h4, h8, h9, h10, h11, h13];decide)) only [zA,zB,zC,zD,zE,zF,zG,zH,zI,zJ,zK,HV.cells,hnt, h4, h8, h9, h10, h11, h13]; try exact rfl) (by omega) (by omega) ?_
     | refine r_lss (by simp (disch:=first|decide|(simp only[zF,zG,hnt, h4, h8, h9, h10, h11, h13];decide)) only [zA,zB,zC,zD,zE,zF,zG,zH,zI,zJ,zK,HV.cells,hnt, h4, h8, h9, h10, h11, h13]; try exact rfl) (by simp (disch:=first|decide|(simp only[zF,zG,hnt, h4, h8, h9, h10, h11, h13];decide)) only [zA,zB,zC,zD,zE,zF,zG,zH,zI,zJ,zK,HV.cells,hnt, h4, h8, h9, h10, h11, h13]; try exact rfl) (fun hc => ?_) (fun hc => ?_) <;> (try (exfalso; omega))
     | refine r_gtr (by simp (disch:=first|decide|(simp only[zF,zG,hnt, h4, h8, h9, h10, h11, h13];decide)) only [zA,zB,zC,zD,zE,zF,zG,zH,zI,zJ,zK,HV.cells,hnt, h4, h8, h9, h10, h11, h13]; try exact rfl) (by simp (disch:=first|decide|(simp only[zF,zG,hnt, h4, h8, h9, h10, h11, h13];decide)) only [zA,zB,zC,zD,zE,zF,zG,zH,zI,zJ,zK,HV.cells,hnt, h4, h8, h9, h10, h11, h13]; try exact rfl) (fun hc => ?_) (fun hc => ?_) <;> (try (exfalso; omega))
     | refine r_eq (by simp (disch:=first|decide|(simp only[zF,zG,hnt, h4, h8, h9, h10, h11, h13];decide)) only [zA,zB,zC,zD,zE,zF,zG,zH,zI,zJ,zK,HV.cells,hnt, h4, h8, h9, h10, h11, h13]; try exact rfl) (by simp (disch:=first|decide|(simp only[zF,zG,hnt, h4, h8, h9, h10, h11, h13];decide)) only [zA,zB,zC,zD,zE,zF,zG,zH,zI,zJ,zK,HV.cells,hnt, h4, h8, h9, h10, h11, h13]; try exact rfl) (fun hc => ?_) (fun hc => ?_) <;> (try (exfalso; omega))
     | refine r_ne (by simp (disch:=first|decide|(simp only[zF,zG,hnt, h4, h8, h9, h10, h11, h13];decide)) only [zA,zB,zC,zD,zE,zF,zG,zH,zI,zJ,zK,HV.cells,hnt, h4, h8, h9, h10, h11, h13]; try exact rfl) (by simp (disch:=first|decide|(simp only[zF,zG,hnt, h4, h8, h9, h10, h11, h13];decide)) only [zA,zB,zC,zD,zE,zF,zG,zH,zI,zJ,zK,HV.cells,hnt, h4, h8, h9, h10, h11, h13]; try exact rfl) (fun hc => ?_) (fun hc => ?_) <;> (try (exfalso; omega))
     | refine r_eqb (by simp (disch:=first|decide|(simp only[zF,zG,hnt, h4, h8, h9, h10, h11, h13];decide)) only [zA,zB,zC,zD,zE,zF,zG,zH,zI,zJ,zK,HV.cells,hnt, h4, h8, h9, h10, h11, h13]; try exact rfl) (by simp (disch:=first|decide|(simp only[zF,zG,hnt, h4, h8, h9, h10, h11, h13];decide)) only [zA,zB,zC,zD,zE,zF,zG,zH,zI,zJ,zK,HV.cells,hnt, h4, h8, h9, h10, h11, h13]; try exact rfl) ?_
     | refine r_not1 (by simp (disch:=first|decide|(simp only[zF,zG,hnt, h4, h8, h9, h10, h11, h13];decide)) only [zA,zB,zC,zD,zE,zF,zG,zH,zI,zJ,zK,HV.cells,hnt, h4, h8, h9, h10, h11, h13]; try exact rfl) ?_
     | refine r_pt (by simp (disch:=first|decide|(simp only[zF,zG,hnt, h4, h8, h9, h10, h11, h13];decide)) only [zA,zB,zC,zD,zE,zF,zG,zH,zI,zJ,zK,HV.cells,hnt, h4, h8, h9, h10, h11, h13]; first|done|exact rfl) (by simp (disch:=first|decide|(simp only[zF,zG,hnt, h4, h8, h9, h10, h11, h13];decide)) only [zA,zB,zC,zD,zE,zF,zG,zH,zI,zJ,zK,HV.cells,hnt, h4, h8, h9, h10, h11, h13]; try exact rfl) ?_
     | refine r_pf (by simp (disch:=first|decide|(simp only[zF,zG,hnt, h4, h8, h9, h10, h11, h13];decide)) only [zA,zB,zC,zD,zE,zF,zG,zH,zI,zJ,zK,HV.cells,hnt, h4, h8, h9, h10, h11, h13]; first|done|exact rfl) (by simp (disch:=first|decide|(simp only[zF,zG,hnt, h4, h8, h9, h10, h11, h13];decide)) only [zA,zB,zC,zD,zE,zF,zG,zH,zI,zJ,zK,HV.cells,hnt, h4, h8, h9, h10, h11, h13]; try exact rfl) ?_
     | refine r_len (by simp (disch:=first|decide|(simp only[zF,zG,hnt, h4, h8, h9, h10, h11, h13];decide)) only [zA,zB,zC,zD,zE,zF,zG,zH,zI,zJ,zK,HV.cells,hnt, h4, h8, h9, h10, h11, h13]; try exact rfl) ?_
     | refine r_ixs (by simp (disch:=first|decide|(simp only[zF,zG,hnt, h4, h8, h9, h10, h11, h13];decide)) only [zA,zB,zC,zD,zE,zF,zG,zH,zI,zJ,zK,HV.cells,hnt, h4, h8, h9, h10, h11, h13]; try exact rfl) (by simp (disch:=first|decide|(simp only[zF,zG,hnt, h4, h8, h9, h10, h11, h13];decide)) only [zA,zB,zC,zD,zE,zF,zG,zH,zI,zJ,zK,HV.cells,hnt, h4, h8, h9, h10, h11, h13]; try exact rfl) (by omega) ?_
     | refine r_ext (by simp (disch:=first|decide|(simp only[zF,zG,hnt, h4, h8, h9, h10, h11, h13];decide)) only [zA,zB,zC,zD,zE,zF,zG,zH,zI,zJ,zK,HV.cells,hnt, h4, h8, h9, h10, h11, h13]; try exact rfl) (by first|assumption|rfl|(simp only [zI,zJ,HV.cells,hnt, h4, h8, h9, h10, h11, h13]; exact rfl)) ?_
     | refine r_build (by simp (disch:=first|decide|(simp only[zF,zG,hnt, h4, h8, h9, h10, h11, h13];decide)) only [evParts,List.map_cons,List.map_nil,List.nil_append,List.cons_append,List.append_nil,zA,zB,zC,zD,zE,zF,zG,zH,zI,zJ,zK,HV.cells,hnt, h4, h8, h9, h10, h11, h13]; try exact rfl) ?_
     | refine r_bs (by simp (disch:=first|decide|(simp only[zF,zG,hnt, h4, h8, h9, h10, h11, h13];decide)) only [evParts,List.map_cons,List.map_nil,List.nil_append,List.cons_append,List.append_nil,zA,zB,zC,zD,zE,zF,zG,zH,zI,zJ,zK,HV.cells,hnt, h4, h8, h9, h10, h11, h13]; try exact rfl) ?_
     | refine r_rem (by simp (disch:=first|decide|(simp only[zF,zG,hnt, h4, h8, h9, h10, h11, h13];decide)) only [zA,zB,zC,zD,zE,zF,zG,zH,zI,zJ,zK,HV.cells,hnt, h4, h8, h9, h10, h11, h13]; try exact rfl) (by simp (disch:=first|decide|(simp only[zF,zG,hnt, h4, h8, h9, h10, h11, h13];decide)) only [zA,zB,zC,zD,zE,zF,zG,zH,zI,zJ,zK,HV.cells,hnt, h4, h8, h9, h10, h11, h13]; try exact rfl) (by omega) (by omega) ?_
     | refine r_conv (by simp (disch:=first|decide|(simp only[zF,zG,hnt, h4, h8, h9, h10, h11, h13];decide)) only [zA,zB,zC,zD,zE,zF,zG,zH,zI,zJ,zK,HV.cells,hnt, h4, h8, h9, h10, h11, h13]; try exact rfl) (by omega) (by omega) ?_
     | refine w_draw (by omega) (by repeat' first|assumption|refine D.upd ?_ (by omega)|exact D.mono (by assumption) (by omega)) ?_
     | refine d_nil ?_
     | refine d_rest rfl ?_
     | refine d_bs rfl ?_
     | refine d_box rfl ?_
     | refine d_alloc rfl ?_
     | refine d_one rfl ?_
     | refine d_next (by omega) ?_
     | refine d_laid ?_
     | fail
    have e2 : Ext h0 n0 h' (nx + 2) := ⟨by omega, hd', fun b hb => (hs' b hb).trans (he.same b hb)⟩
    refine loop18w1 (cp := cp) hlen hl hk hfl hrow0 m (i + 1) _ _ _ v' (by omega) e2 ho' ?_ ?_ ?_ ?_ ?_ ?_ ?_ ?_ ?_ hq
    all_goals first|(simp only [zL,zM,zF,zG,hnt, hds, h4, h8, h9, h10, h11, h13];done)|(simp (disch:=first|decide|(simp only[zF,zG,hnt, hds, h4, h8, h9, h10, h11, h13];decide)) only [zA,zB,zC,zD,zE,zF,zG,zH,zI,zJ,zK,HV.cells,hnt, hds, h4, h8, h9, h10, h11, h13];first|done|exact rfl)|assumption
/- 18 -/
theorem loop18w0 {fl : Nat} {h : Tr HBlk} {nx : Nat} {Q : HExit → HAct → HS → Prop} {p q : Option (Nat × Nat)} {u v : List (Int × Int)} {cp cq : Nat} {k : Int} (hk : 2 ≤ k ∧ k ≤ 5) (hlen : u.length < 1000000) (huv : u.length = v.length) (hu : Row renc 2 h nx p u) (hv : Row renc 2 h nx q v) (hw : ∀ (i : Nat) (x y : Int × Int), u[i]? = some x → v[i]? = some y → y.1 ≤ k * x.1 ∧ k * x.2 ≤ y.2) (hub : ∀ x ∈ u, -100000 ≤ x.1 ∧ x.1 ≤ 100000 ∧ -100000 ≤ x.2 ∧ x.2 ≤ 100000) (hfl : fl ≤ nx) (hd : D h nx) :
    ∀ (m i : Nat) (a : HAct), m + i = u.length → a.nt = 165 → a.defers = [] → a.tmp 10 = i64 k → a.tmp 14 = .slice p u.length cp → a.tmp 16 = .slice q v.length cq → a.tmp 18 = i64 i →
      (∀ a', a'.nt = 165 → a'.defers = [] → Q .normal a' ⟨h, nx⟩) → W LW fl none (.loop L18w0) (inBlockH 2 Q) a ⟨h, nx⟩
  | 0, i, a, hm, hnt, hds, h10, h14, h16, h18, hq => by
    refine w_it (show L18w0 = _ by unfold L18w0; exact rfl) ?_
    repeat' first
     | refine r_nil ?_
     | refine th_n ?_
     | refine th_r ?_
     | refine th_e ?_
     | refine ib_n ?_
     | refine ib_r ?_
     | refine ib_e ?_
     | refine ib_x (by decide) ?_
     | refine w_exit ?_
     | refine w_seq ?_
     | refine w_reg ?_
     | refine w_ret ?_
     | refine w_skip ?_
     | refine w_block ?_
     | refine w_t (by simp (disch:=first|decide|(simp only[zF,zG,hnt, h10, h14, h16, h18];decide)) only [zA,zB,zC,zD,zE,zF,zG,zH,zI,zJ,zK,HV.cells,hnt, h10, h14, h16, h18]; first|done|exact rfl) ?_
     | refine w_f (by simp (disch:=first|decide|(simp only[zF,zG,hnt, h10, h14, h16, h18];decide)) only [zA,zB,zC,zD,zE,zF,zG,zH,zI,zJ,zK,HV.cells,hnt, h10, h14, h16, h18]; first|done|exact rfl) ?_
     | refine r_take (by simp (disch:=first|decide|(simp only[zF,zG,hnt, h10, h14, h16, h18];decide)) only [zA,zB,zC,zD,zE,zF,zG,zH,zI,zJ,zK,HV.cells,hnt, h10, h14, h16, h18]; first|done|exact rfl) ?_
     | refine r_drop (by simp (disch:=first|decide|(simp only[zF,zG,Bool.not_true,Bool.not_false,hnt, h10, h14, h16, h18];decide)) only [zA,zB,zC,zD,zE,zF,zG,zH,zI,zJ,zK,HV.cells,Bool.not_true,Bool.not_false,hnt, h10, h14, h16, h18]; first|done|exact rfl) ?_
     | refine r_move (by simp (disch:=first|decide|(simp only[zF,zG,hnt, h10, h14, h16, h18];decide)) only [zA,zB,zC,zD,zE,zF,zG,zH,zI,zJ,zK,HV.cells,hnt, h10, h14, h16, h18]; try exact rfl) ?_
     | refine r_fa (by simp (disch:=first|decide|(simp only[zF,zG,hnt, h10, h14, h16, h18];decide)) only [zA,zB,zC,zD,zE,zF,zG,zH,zI,zJ,zK,HV.cells,hnt, h10, h14, h16, h18]; try exact rfl) ?_
     | refine r_ld1 (by simp (disch:=first|decide|(simp only[zF,zG,hnt, h10, h14, h16, h18];decide)) only [zA,zB,zC,zD,zE,zF,zG,zH,zI,zJ,zK,HV.cells,hnt, h10, h14, h16, h18]; try exact rfl) (by first|assumption|(simp (disch:=omega) only [get_same,get_other,hnt, h10, h14, h16, h18]; first|done|exact rfl)) (by first|assumption|rfl|(simp only [zI,zJ,HV.cells,hnt, h10, h14, h16, h18]; exact rfl)) ?_
     | refine r_ldn (by simp (disch:=first|decide|(simp only[zF,zG,hnt, h10, h14, h16, h18];decide)) only [zA,zB,zC,zD,zE,zF,zG,zH,zI,zJ,zK,HV.cells,hnt, h10, h14, h16, h18]; try exact rfl) (by first|assumption|(simp (disch:=omega) only [get_same,get_other,hnt, h10, h14, h16, h18]; first|done|exact rfl)) (by first|assumption|rfl|(simp only [zI,zJ,HV.cells,hnt, h10, h14, h16, h18]; exact rfl)) ?_
     | refine r_box (by simp (disch:=first|decide|(simp only[zF,zG,hnt, h10, h14, h16, h18];decide)) only [zA,zB,zC,zD,zE,zF,zG,zH,zI,zJ,zK,HV.cells,hnt, h10, h14, h16, h18]; try exact rfl) ?_
     | refine r_alloc ?_
     | refine r_st (cs' := _) (by simp (disch:=first|decide|(simp only[zF,zG,hnt, h10, h14, h16, h18];decide)) only [zA,zB,zC,zD,zE,zF,zG,zH,zI,zJ,zK,HV.cells,hnt, h10, h14, h16, h18]; try exact rfl) (by simp (disch:=first|decide|(simp only[zF,zG,hnt, h10, h14, h16, h18];decide)) only [zA,zB,zC,zD,zE,zF,zG,zH,zI,zJ,zK,HV.cells,hnt, h10, h14, h16, h18]; try exact rfl) (by first|assumption|(simp (disch:=omega) only [get_same,get_other,hnt, h10, h14, h16, h18]; first|done|exact rfl)) (by exact True.intro) (by rfl) (by rfl) (by first|assumption|rfl|(simp only [zI,zJ,HV.cells,hnt, h10, h14, h16, h18]; exact rfl)) (by omega) ?_
     | refine r_add (by simp (disch:=first|decide|(simp only[zF,zG,hnt, h10, h14, h16, h18];decide)) only [zA,zB,zC,zD,zE,zF,zG,zH,zI,zJ,zK,HV.cells,hnt, h10, h14, h16, h18]; try exact rfl) (by simp (disch:=first|decide|(simp only[zF,zG,hnt, h10, h14, h16, h18];decide)) only [zA,zB,zC,zD,zE,zF,zG,zH,zI,zJ,zK,HV.cells,hnt, h10, h14, h16, h18]; try exact rfl) (by omega) (by omega) ?_
     | refine r_mul (by simp (disch:=first|decide|(simp only[zF,zG,hnt, h10, h14, h16, h18];decide)) only [zA,zB,zC,zD,zE,zF,zG,zH,zI,zJ,zK,HV.cells,hnt, h10, h14, h16, h18]; try exact rfl) (by simp (disch:=first|decide|(simp only[zF,zG,hnt, h10, h14, h16, h18];decide)) only [zA,zB,zC,zD,zE,zF,zG,zH,zI,zJ,zK,HV.cells,hnt, h10, h14, h16, h18]; try exact rfl) (by omega) (by omega) ?_
     | refine r_lss (by simp (disch:=first|decide|(simp only[zF,zG,hnt, h10, h14, h16, h18];decide)) only [zA,zB,zC,zD,zE,zF,zG,zH,zI,zJ,zK,HV.cells,hnt, h10, h14, h16, h18]; try exact rfl) (by simp (disch:=first|decide|(simp only[zF,zG,hnt, h10, h14, h16, h18];decide)) only [zA,zB,zC,zD,zE,zF,zG,zH,zI,zJ,zK,HV.cells,hnt, h10, h14, h16, h18]; try exact rfl) (fun hc => ?_) (fun hc => ?_) <;> (try (exfalso; omega))
     | refine r_gtr (by simp (disch:=first|decide|(simp only[zF,zG,hnt, h10, h14, h16, h18];decide)) only [zA,zB,zC,zD,zE,zF,zG,zH,zI,zJ,zK,HV.cells,hnt, h10, h14, h16, h18]; try exact rfl) (by simp (disch:=first|decide|(simp only[zF,zG,hnt, h10, h14, h16, h18];decide)) only [zA,zB,zC,zD,zE,zF,zG,zH,zI,zJ,zK,HV.cells,hnt, h10, h14, h16, h18]; try exact rfl) (fun hc => ?_) (fun hc => ?_) <;> (try (exfalso; omega))
     | refine r_eq (by simp (disch:=first|decide|(simp only[zF,zG,hnt, h10, h14, h16, h18];decide)) only [zA,zB,zC,zD,zE,zF,zG,zH,zI,zJ,zK,HV.cells,hnt, h10, h14, h16, h18]; try exact rfl) (by simp (disch:=first|decide|(simp only[zF,zG,hnt, h10, h14, h16, h18];decide)) only [zA,zB,zC,zD,zE,zF,zG,zH,zI,zJ,zK,HV.cells,hnt, h10, h14, h16, h18]; try exact rfl) (fun hc => ?_) (fun hc => ?_) <;> (try (exfalso; omega))
     | refine r_ne (by simp (disch:=first|decide|(simp only[zF,zG,hnt, h10, h14, h16, h18];decide)) only [zA,zB,zC,zD,zE,zF,zG,zH,zI,zJ,zK,HV.cells,hnt, h10, h14, h16, h18]; try exact rfl) (by simp (disch:=first|decide|(simp only[zF,zG,hnt, h10, h14, h16, h18];decide)) only [zA,zB,zC,zD,zE,zF,zG,zH,zI,zJ,zK,HV.cells,hnt, h10, h14, h16, h18]; try exact rfl) (fun hc => ?_) (fun hc => ?_) <;> (try (exfalso; omega))
     | refine r_eqb (by simp (disch:=first|decide|(simp only[zF,zG,hnt, h10, h14, h16, h18];decide)) only [zA,zB,zC,zD,zE,zF,zG,zH,zI,zJ,zK,HV.cells,hnt, h10, h14, h16, h18]; try exact rfl) (by simp (disch:=first|decide|(simp only[zF,zG,hnt, h10, h14, h16, h18];decide)) only [zA,zB,zC,zD,zE,zF,zG,zH,zI,zJ,zK,HV.cells,hnt, h10, h14, h16, h18]; try exact rfl) ?_
     | refine r_not1 (by simp (disch:=first|decide|(simp only[zF,zG,hnt, h10, h14, h16, h18];decide)) only [zA,zB,zC,zD,zE,zF,zG,zH,zI,zJ,zK,HV.cells,hnt, h10, h14, h16, h18]; try exact rfl) ?_
     | refine r_pt (by simp (disch:=first|decide|(simp only[zF,zG,hnt, h10, h14, h16, h18];decide)) only [zA,zB,zC,zD,zE,zF,zG,zH,zI,zJ,zK,HV.cells,hnt, h10, h14, h16, h18]; first|done|exact rfl) (by simp (disch:=first|decide|(simp only[zF,zG,hnt, h10, h14, h16, h18];decide)) only [zA,zB,zC,zD,zE,zF,zG,zH,zI,zJ,zK,HV.cells,hnt, h10, h14, h16, h18]; try exact rfl) ?_
     | refine r_pf (by simp (disch:=first|decide|(simp only[zF,zG,hnt, h10, h14, h16, h18];decide)) only [zA,zB,zC,zD,zE,zF,zG,zH,zI,zJ,zK,HV.cells,hnt, h10, h14, h16, h18]; first|done|exact rfl) (by simp (disch:=first|decide|(simp only[zF,zG,hnt, h10, h14, h16, h18];decide)) only [zA,zB,zC,zD,zE,zF,zG,zH,zI,zJ,zK,HV.cells,hnt, h10, h14, h16, h18]; try exact rfl) ?_
     | refine r_len (by simp (disch:=first|decide|(simp only[zF,zG,hnt, h10, h14, h16, h18];decide)) only [zA,zB,zC,zD,zE,zF,zG,zH,zI,zJ,zK,HV.cells,hnt, h10, h14, h16, h18]; try exact rfl) ?_
     | refine r_ixs (by simp (disch:=first|decide|(simp only[zF,zG,hnt, h10, h14, h16, h18];decide)) only [zA,zB,zC,zD,zE,zF,zG,zH,zI,zJ,zK,HV.cells,hnt, h10, h14, h16, h18]; try exact rfl) (by simp (disch:=first|decide|(simp only[zF,zG,hnt, h10, h14, h16, h18];decide)) only [zA,zB,zC,zD,zE,zF,zG,zH,zI,zJ,zK,HV.cells,hnt, h10, h14, h16, h18]; try exact rfl) (by omega) ?_
     | refine r_ext (by simp (disch:=first|decide|(simp only[zF,zG,hnt, h10, h14, h16, h18];decide)) only [zA,zB,zC,zD,zE,zF,zG,zH,zI,zJ,zK,HV.cells,hnt, h10, h14, h16, h18]; try exact rfl) (by first|assumption|rfl|(simp only [zI,zJ,HV.cells,hnt, h10, h14, h16, h18]; exact rfl)) ?_
     | refine r_build (by simp (disch:=first|decide|(simp only[zF,zG,hnt, h10, h14, h16, h18];decide)) only [evParts,List.map_cons,List.map_nil,List.nil_append,List.cons_append,List.append_nil,zA,zB,zC,zD,zE,zF,zG,zH,zI,zJ,zK,HV.cells,hnt, h10, h14, h16, h18]; try exact rfl) ?_
     | refine r_bs (by simp (disch:=first|decide|(simp only[zF,zG,hnt, h10, h14, h16, h18];decide)) only [evParts,List.map_cons,List.map_nil,List.nil_append,List.cons_append,List.append_nil,zA,zB,zC,zD,zE,zF,zG,zH,zI,zJ,zK,HV.cells,hnt, h10, h14, h16, h18]; try exact rfl) ?_
     | refine r_rem (by simp (disch:=first|decide|(simp only[zF,zG,hnt, h10, h14, h16, h18];decide)) only [zA,zB,zC,zD,zE,zF,zG,zH,zI,zJ,zK,HV.cells,hnt, h10, h14, h16, h18]; try exact rfl) (by simp (disch:=first|decide|(simp only[zF,zG,hnt, h10, h14, h16, h18];decide)) only [zA,zB,zC,zD,zE,zF,zG,zH,zI,zJ,zK,HV.cells,hnt, h10, h14, h16, h18]; try exact rfl) (by omega) (by omega) ?_
     | refine r_conv (by simp (disch:=first|decide|(simp only[zF,zG,hnt, h10, h14, h16, h18];decide)) only [zA,zB,zC,zD,zE,zF,zG,zH,zI,zJ,zK,HV.cells,hnt, h10, h14, h16, h18]; try exact rfl) (by omega) (by omega) ?_
     | refine w_draw (by omega) (by repeat' first|assumption|refine D.upd ?_ (by omega)|exact D.mono (by assumption) (by omega)) ?_
     | refine d_nil ?_
     | refine d_rest rfl ?_
     | refine d_bs rfl ?_
     | refine d_box rfl ?_
     | refine d_alloc rfl ?_
     | refine d_one rfl ?_
     | refine d_next (by omega) ?_
     | refine d_laid ?_
     | fail
    refine hq _ ?_ ?_
    all_goals first|(simp only [zL,zM,zF,zG,hnt, hds];done)|(simp (disch:=first|decide|(simp only[zF,zG,hnt, hds];decide)) only [zA,zB,zC,zD,zE,zF,zG,zH,zI,zJ,zK,HV.cells,hnt, hds];first|done|exact rfl)|assumption
  | m + 1, i, a, hm, hnt, hds, h10, h14, h16, h18, hq => by
    have hi : i < u.length := by omega
    have hi2 : i < v.length := by omega
    have hu0 := hu
    have hv0 := hv
    obtain ⟨b, o, cs, kk, rfl, hb, hg, hcs⟩ := hu (by intro e; rw [e] at hi; simp at hi)
    obtain ⟨b2, o2, cs2, kk2, rfl, hb2, hg2, hcs2⟩ := hv (by intro e; rw [e] at hi2; simp at hi2)
    have hx : u[i]? = some u[i] := by simp [hi]
    have hy : v[i]? = some v[i] := by simp [hi2]
    have hw1 := hw i _ _ hx hy
    have x0 := take_at (hcs i _ hx) (j := 0) (v := i64 u[i].1) rfl
    have x1 := take_at (hcs i _ hx) (j := 1) (v := i64 u[i].2) rfl
    have y0 := take_at (hcs2 i _ hy) (j := 0) (v := i64 v[i].1) rfl
    have y1 := take_at (hcs2 i _ hy) (j := 1) (v := i64 v[i].2) rfl
    have hb0 := hub _ (List.getElem_mem hi)
    have ml : ∀ z : Int, -100000 ≤ z → z ≤ 100000 → -500000 ≤ k * z ∧ k * z ≤ 500000 := fun z z1 z2 => by
      have : k = 2 ∨ k = 3 ∨ k = 4 ∨ k = 5 := by omega
      rcases this with e | e | e | e <;> subst e <;> omega
    have m1 := ml u[i].1 (by omega) (by omega)
    have m2 := ml u[i].2 (by omega) (by omega)
    refine w_it (show L18w0 = _ by unfold L18w0; exact rfl) ?_
    repeat' first
     | refine r_nil ?_
     | refine th_n ?_
     | refine th_r ?_
     | refine th_e ?_
     | refine ib_n ?_
     | refine ib_r ?_
     | refine ib_e ?_
     | refine ib_x (by decide) ?_
     | refine w_exit ?_
     | refine w_seq ?_
     | refine w_reg ?_
     | refine w_ret ?_
     | refine w_skip ?_
     | refine w_block ?_
     | refine w_t (by simp (disch:=first|decide|(simp only[zF,zG,hnt, h10, h14, h16, h18];decide)) only [zA,zB,zC,zD,zE,zF,zG,zH,zI,zJ,zK,HV.cells,hnt, h10, h14, h16, h18]; first|done|exact rfl) ?_
     | refine w_f (by simp (disch:=first|decide|(simp only[zF,zG,hnt, h10, h14, h16, h18];decide)) only [zA,zB,zC,zD,zE,zF,zG,zH,zI,zJ,zK,HV.cells,hnt, h10, h14, h16, h18]; first|done|exact rfl) ?_
     | refine r_take (by simp (disch:=first|decide|(simp only[zF,zG,hnt, h10, h14, h16, h18];decide)) only [zA,zB,zC,zD,zE,zF,zG,zH,zI,zJ,zK,HV.cells,hnt, h10, h14, h16, h18]; first|done|exact rfl) ?_
     | refine r_drop (by simp (disch:=first|decide|(simp only[zF,zG,Bool.not_true,Bool.not_false,hnt, h10, h14, h16, h18];decide)) only [zA,zB,zC,zD,zE,zF,zG,zH,zI,zJ,zK,HV.cells,Bool.not_true,Bool.not_false,hnt, h10, h14, h16, h18]; first|done|exact rfl) ?_
     | refine r_move (by simp (disch:=first|decide|(simp only[zF,zG,hnt, h10, h14, h16, h18];decide)) only [zA,zB,zC,zD,zE,zF,zG,zH,zI,zJ,zK,HV.cells,hnt, h10, h14, h16, h18]; try exact rfl) ?_
     | refine r_fa (by simp (disch:=first|decide|(simp only[zF,zG,hnt, h10, h14, h16, h18];decide)) only [zA,zB,zC,zD,zE,zF,zG,zH,zI,zJ,zK,HV.cells,hnt, h10, h14, h16, h18]; try exact rfl) ?_
     | refine r_ld1 (by simp (disch:=first|decide|(simp only[zF,zG,hnt, h10, h14, h16, h18];decide)) only [zA,zB,zC,zD,zE,zF,zG,zH,zI,zJ,zK,HV.cells,hnt, h10, h14, h16, h18]; try exact rfl) (by first|assumption|(simp (disch:=omega) only [get_same,get_other,hnt, h10, h14, h16, h18]; first|done|exact rfl)) (by first|assumption|rfl|(simp only [zI,zJ,HV.cells,hnt, h10, h14, h16, h18]; exact rfl)) ?_
     | refine r_ldn (by simp (disch:=first|decide|(simp only[zF,zG,hnt, h10, h14, h16, h18];decide)) only [zA,zB,zC,zD,zE,zF,zG,zH,zI,zJ,zK,HV.cells,hnt, h10, h14, h16, h18]; try exact rfl) (by first|assumption|(simp (disch:=omega) only [get_same,get_other,hnt, h10, h14, h16, h18]; first|done|exact rfl)) (by first|assumption|rfl|(simp only [zI,zJ,HV.cells,hnt, h10, h14, h16, h18]; exact rfl)) ?_
     | refine r_box (by simp (disch:=first|decide|(simp only[zF,zG,hnt, h10, h14, h16, h18];decide)) only [zA,zB,zC,zD,zE,zF,zG,zH,zI,zJ,zK,HV.cells,hnt, h10, h14, h16, h18]; try exact rfl) ?_
     | refine r_alloc ?_
     | refine r_st (cs' := _) (by simp (disch:=first|decide|(simp only[zF,zG,hnt, h10, h14, h16, h18];decide)) only [zA,zB,zC,zD,zE,zF,zG,zH,zI,zJ,zK,HV.cells,hnt, h10, h14, h16, h18]; try exact rfl) (by simp (disch:=first|decide|(simp only[zF,zG,hnt, h10, h14, h16, h18];decide)) only [zA,zB,zC,zD,zE,zF,zG,zH,zI,zJ,zK,HV.cells,hnt, h10, h14, h16, h18]; try exact rfl) (by first|assumption|(simp (disch:=omega) only [get_same,get_other,hnt, h10, h14, h16, h18]; first|done|exact rfl)) (by exact True.intro) (by rfl) (by rfl) (by first|assumption|rfl|(simp only [zI,zJ,HV.cells,hnt, h10, h14, h16, h18]; exact rfl)) (by omega) ?_
     | refine r_add (by simp (disch:=first|decide|(simp only[zF,zG,hnt, h10, h14, h16, h18];decide)) only [zA,zB,zC,zD,zE,zF,zG,zH,zI,zJ,zK,HV.cells,hnt, h10, h14, h16, h18]; try exact rfl) (by simp (disch:=first|decide|(simp only[zF,zG,hnt, h10, h14, h16, h18];decide)) only [zA,zB,zC,zD,zE,zF,zG,zH,zI,zJ,zK,HV.cells,hnt, h10, h14, h16, h18]; try exact rfl) (by omega) (by omega) ?_
     | refine r_mul (by simp (disch:=first|decide|(simp only[zF,zG,hnt, h10, h14, h16, h18];decide)) only [zA,zB,zC,zD,zE,zF,zG,zH,zI,zJ,zK,HV.cells,hnt, h10, h14, h16, h18]; try exact rfl) (by simp (disch:=first|decide|(simp only[zF,zG,hnt, h10, h14, h16, h18];decide)) only [zA,zB,zC,zD,zE,zF,zG,zH,zI,zJ,zK,HV.cells,hnt, h10, h14, h16, h18]; try exact rfl) (by omega) (by omega) ?_
     | refine r_lss (by simp (disch:=first|decide|(simp only[zF,zG,hnt, h10, h14, h16, h18];decide)) only [zA,zB,zC,zD,zE,zF,zG,zH,zI,zJ,zK,HV.cells,hnt, h10, h14, h16, h18]; try exact rfl) (by simp (disch:=first|decide|(simp only[zF,zG,hnt, h10, h14, h16, h18];decide)) only [zA,zB,zC,zD,zE,zF,zG,zH,zI,zJ,zK,HV.cells,hnt, h10, h14, h16, h18]; try exact rfl) (fun hc => ?_) (fun hc => ?_) <;> (try (exfalso; omega))
     | refine r_gtr (by simp (disch:=first|decide|(simp only[zF,zG,hnt, h10, h14, h16, h18];decide)) only [zA,zB,zC,zD,zE,zF,zG,zH,zI,zJ,zK,HV.cells,hnt, h10, h14, h16, h18]; try exact rfl) (by simp (disch:=first|decide|(simp only[zF,zG,hnt, h10, h14, h16, h18];decide)) only [zA,zB,zC,zD,zE,zF,zG,zH,zI,zJ,zK,HV.cells,hnt, h10, h14, h16, h18]; try exact rfl) (fun hc => ?_) (fun hc => ?_) <;> (try (exfalso; omega))
     | refine r_eq (by simp (disch:=first|decide|(simp only[zF,zG,hnt, h10, h14, h16, h18];decide)) only [zA,zB,zC,zD,zE,zF,zG,zH,zI,zJ,zK,HV.cells,hnt, h10, h14, h16, h18]; try exact rfl) (by simp (disch:=first|decide|(simp only[zF,zG,hnt, h10, h14, h16, h18];decide)) only [zA,zB,zC,zD,zE,zF,zG,zH,zI,zJ,zK,HV.cells,hnt, h10, h14, h16, h18]; try exact rfl) (fun hc => ?_) (fun hc => ?_) <;> (try (exfalso; omega))
     | refine r_ne (by simp (disch:=first|decide|(simp only[zF,zG,hnt, h10, h14, h16, h18];decide)) only [zA,zB,zC,zD,zE,zF,zG,zH,zI,zJ,zK,HV.cells,hnt, h10, h14, h16, h18]; try exact rfl) (by simp (disch:=first|decide|(simp only[zF,zG,hnt, h10, h14, h16, h18];decide)) only [zA,zB,zC,zD,zE,zF,zG,zH,zI,zJ,zK,HV.cells,hnt, h10, h14, h16, h18]; try exact rfl) (fun hc => ?_) (fun hc => ?_) <;> (try (exfalso; omega))
     | refine r_eqb (by simp (disch:=first|decide|(simp only[zF,zG,hnt, h10, h14, h16, h18];decide)) only [zA,zB,zC,zD,zE,zF,zG,zH,zI,zJ,zK,HV.cells,hnt, h10, h14, h16, h18]; try exact rfl) (by simp (disch:=first|decide|(simp only[zF,zG,hnt, h10, h14, h16, h18];decide)) only [zA,zB,zC,zD,zE,zF,zG,zH,zI,zJ,zK,HV.cells,hnt, h10, h14, h16, h18]; try exact rfl) ?_
     | refine r_not1 (by simp (disch:=first|decide|(simp only[zF,zG,hnt, h10, h14, h16, h18];decide)) only [zA,zB,zC,zD,zE,zF,zG,zH,zI,zJ,zK,HV.cells,hnt, h10, h14, h16, h18]; try exact rfl) ?_
     | refine r_pt (by simp (disch:=first|decide|(simp only[zF,zG,hnt, h10, h14, h16, h18];decide)) only [zA,zB,zC,zD,zE,zF,zG,zH,zI,zJ,zK,HV.cells,hnt, h10, h14, h16, h18]; first|done|exact rfl) (by simp (disch:=first|decide|(simp only[zF,zG,hnt, h10, h14, h16, h18];decide)) only [zA,zB,zC,zD,zE,zF,zG,zH,zI,zJ,zK,HV.cells,hnt, h10, h14, h16, h18]; try exact rfl) ?_
     | refine r_pf (by simp (disch:=first|decide|(simp only[zF,zG,hnt, h10, h14, h16, h18];decide)) only [zA,zB,zC,zD,zE,zF,zG,zH,zI,zJ,zK,HV.cells,hnt, h10, h14, h16, h18]; first|done|exact rfl) (by simp (disch:=first|decide|(simp only[zF,zG,hnt, h10, h14, h16, h18];decide)) only [zA,zB,zC,zD,zE,zF,zG,zH,zI,zJ,zK,HV.cells,hnt, h10, h14, h16, h18]; try exact rfl) ?_
     | refine r_len (by simp (disch:=first|decide|(simp only[zF,zG,hnt, h10, h14, h16, h18];decide)) only [zA,zB,zC,zD,zE,zF,zG,zH,zI,zJ,zK,HV.cells,hnt, h10, h14, h16, h18]; try exact rfl) ?_
     | refine r_ixs (by simp (disch:=first|decide|(simp only[zF,zG,hnt, h10, h14, h16, h18];decide)) only [zA,zB,zC,zD,zE,zF,zG,zH,zI,zJ,zK,HV.cells,hnt, h10, h14, h16, h18]; try exact rfl) (by simp (disch:=first|decide|(simp only[zF,zG,hnt, h10, h14, h16, h18];decide)) only [zA,zB,zC,zD,zE,zF,zG,zH,zI,zJ,zK,HV.cells,hnt, h10, h14, h16, h18]; try exact rfl) (by omega) ?_
     | refine r_ext (by simp (disch:=first|decide|(simp only[zF,zG,hnt, h10, h14, h16, h18];decide)) only [zA,zB,zC,zD,zE,zF,zG,zH,zI,zJ,zK,HV.cells,hnt, h10, h14, h16, h18]; try exact rfl) (by first|assumption|rfl|(simp only [zI,zJ,HV.cells,hnt, h10, h14, h16, h18]; exact rfl)) ?_
     | refine r_build (by simp (disch:=first|decide|(simp only[zF,zG,hnt, h10, h14, h16, h18];decide)) only [evParts,List.map_cons,List.map_nil,List.nil_append,List.cons_append,List.append_nil,zA,zB,zC,zD,zE,zF,zG,zH,zI,zJ,zK,HV.cells,hnt, h10, h14, h16, h18]; try exact rfl) ?_
     | refine r_bs (by simp (disch:=first|decide|(simp only[zF,zG,hnt, h10, h14, h16, h18];decide)) only [evParts,List.map_cons,List.map_nil,List.nil_append,List.cons_append,List.append_nil,zA,zB,zC,zD,zE,zF,zG,zH,zI,zJ,zK,HV.cells,hnt, h10, h14, h16, h18]; try exact rfl) ?_
     | refine r_rem (by simp (disch:=first|decide|(simp only[zF,zG,hnt, h10, h14, h16, h18];decide)) only [zA,zB,zC,zD,zE,zF,zG,zH,zI,zJ,zK,HV.cells,hnt, h10, h14, h16, h18]; try exact rfl) (by simp (disch:=first|decide|(simp only[zF,zG,hnt, h10, h14, h16, h18];decide)) only [zA,zB,zC,zD,zE,zF,zG,zH,zI,zJ,zK,HV.cells,hnt, h10, h14, h16, h18]; try exact rfl) (by omega) (by omega) ?_
     | refine r_conv (by simp (disch:=first|decide|(simp only[zF,zG,hnt, h10, h14, h16, h18];decide)) only [zA,zB,zC,zD,zE,zF,zG,zH,zI,zJ,zK,HV.cells,hnt, h10, h14, h16, h18]; try exact rfl) (by omega) (by omega) ?_
     | refine w_draw (by omega) (by repeat' first|assumption|refine D.upd ?_ (by omega)|exact D.mono (by assumption) (by omega)) ?_
     | refine d_nil ?_
     | refine d_rest rfl ?_
     | refine d_bs rfl ?_
     | refine d_box rfl ?_
     | refine d_alloc rfl ?_
     | refine d_one rfl ?_
     | refine d_next (by omega) ?_
     | refine d_laid ?_
     | fail
    refine loop18w0 (cp := cp) (cq := cq) hk hlen huv hu0 hv0 hw hub hfl hd m (i + 1) _ (by omega) ?_ ?_ ?_ ?_ ?_ ?_ hq
    all_goals first|(simp only [zL,zM,zF,zG,hnt, hds, h10, h14, h16, h18];done)|(simp (disch:=first|decide|(simp only[zF,zG,hnt, hds, h10, h14, h16, h18];decide)) only [zA,zB,zC,zD,zE,zF,zG,zH,zI,zJ,zK,HV.cells,hnt, hds, h10, h14, h16, h18];first|done|exact rfl)|assumption
end Go.Hx

