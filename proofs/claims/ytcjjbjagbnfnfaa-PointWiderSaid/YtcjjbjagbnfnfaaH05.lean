/- Layer 3: what can stand on another scale, on the plain machine. -/
import Derived.Test.YtcjjbjagbnfnfaaH04
set_option linter.all false
/- Layer 3: what can stand on another scale, on the plain machine. -/
namespace Go.Hx
set_option linter.unusedSimpArgs false
set_option linter.unusedVariables false
set_option maxRecDepth 20000
set_option maxHeartbeats 4000000
attribute [local irreducible] W R C thenH inBlockH
abbrev renc (r : Int × Int) : List HV := [i64 r.1, i64 r.2]
theorem renc_len (r : Int × Int) : (renc r).length = 2 := rfl
theorem row_flat {α : Type} {enc : α → List HV} {sz : Nat} {h : Tr HBlk} {nx b : Nat} {l : List α} {k : BK} (he : ∀ x, (enc x).length = sz) (hb : b < nx) (hg : h.get b = some (.cells (l.flatMap enc) k)) : Row enc sz h nx (some (b, 0)) l :=
  fun _ => ⟨b, 0, _, _, rfl, hb, hg, fun i x hx => flat_row he l i x hx⟩
theorem ab_fl {m n A : Int} (hn : 1 ≤ n) (h0 : 0 ≤ A) (h1 : -A ≤ m) (h2 : m ≤ A) : (-A - 1 ≤ m / n ∧ m / n ≤ A + 1) ∧ -A - 1 ≤ cdiv m n ∧ cdiv m n ≤ A + 1 := by
  have key : ∀ k : Int, -A ≤ k → k ≤ A → -A - 1 ≤ k / n ∧ k / n ≤ A + 1 := fun k k1 k2 => by
    have m1 := Int.mul_le_mul_of_nonneg_left hn (show 0 ≤ A + 1 by omega)
    have m2 := Int.mul_le_mul_of_nonneg_left hn (show 0 ≤ A + 2 by omega)
    constructor
    · refine (fl_iff (by omega)).2 ?_
      rw [show -A - 1 = -(A + 1) by omega, Int.neg_mul]
      omega
    · have := mt (fl_iff (m := k) (n := n) (q := A + 2) (by omega)).1 (by omega)
      omega
  have a := key m h1 h2
  have b := key (-m) (by omega) (by omega)
  unfold cdiv
  omega
theorem s_bd {I S : Int} (h : SOk I S) : (-1000 ≤ ic I S ∧ ic I S ≤ 1000) ∧ (-1000 ≤ st I S ∧ st I S ≤ 1000) ∧ 1 ≤ st I S - ic I S ∧ st I S - ic I S ≤ 2000 := by
  unfold SOk at h
  unfold ic st
  by_cases e : I < S
  · rw [if_pos e, if_pos e]; omega
  · rw [if_neg e, if_neg e]; omega
theorem r_bd {b : Bool} {lo hi : Int} (h : ROk lo hi) : (-1000000 ≤ tl b lo hi ∧ tl b lo hi ≤ 1000000) ∧ (-1000000 ≤ th b lo hi ∧ th b lo hi ≤ 1000000) ∧ tl b lo hi ≤ th b lo hi := by
  unfold ROk at h
  unfold tl th
  cases b <;> simp only [if_true, if_false, Bool.false_eq_true] <;> omega
/-- Degrees between ice and steam; half degrees of readings; what stands on another scale. -/
def dg (s : Int × Int) : Int := st s.1 s.2 - ic s.1 s.2
def hlo (s r : Int × Int) : Int := 2 * (tl (tn s.1 s.2) r.1 r.2 - ic s.1 s.2) - 1
def hhi (s r : Int × Int) : Int := 2 * (th (tn s.1 s.2) r.1 r.2 - ic s.1 s.2) + 1
def slo (s1 s2 r : Int × Int) : Int := cdiv (hlo s1 r * dg s2 - dg s1) (2 * dg s1)
def shi (s1 s2 r : Int × Int) : Int := (hhi s1 r * dg s2 + dg s1) / (2 * dg s1)
def son (s1 s2 r : Int × Int) : Int × Int := (tl (tn s2.1 s2.2) (ic s2.1 s2.2 + slo s1 s2 r) (ic s2.1 s2.2 + shi s1 s2 r), th (tn s2.1 s2.2) (ic s2.1 s2.2 + slo s1 s2 r) (ic s2.1 s2.2 + shi s1 s2 r))
theorem son_bd {s1 s2 r : Int × Int} (h1 : SOk s1.1 s1.2) (h2 : SOk s2.1 s2.2) (hr : ROk r.1 r.2) :
    (1 ≤ dg s1 ∧ dg s1 ≤ 2000) ∧ (1 ≤ dg s2 ∧ dg s2 ≤ 2000) ∧ (-2002001 ≤ hlo s1 r ∧ hlo s1 r ≤ 2002001) ∧ (-2002001 ≤ hhi s1 r ∧ hhi s1 r ≤ 2002001) ∧ (-4004002000 ≤ hlo s1 r * dg s2 ∧ hlo s1 r * dg s2 ≤ 4004002000) ∧ (-4004002000 ≤ hhi s1 r * dg s2 ∧ hhi s1 r * dg s2 ≤ 4004002000) ∧ (-5000000000 ≤ slo s1 s2 r ∧ slo s1 s2 r ≤ 5000000000) ∧ (-5000000000 ≤ shi s1 s2 r ∧ shi s1 s2 r ≤ 5000000000) := by
  have a1 := s_bd h1
  have a2 := s_bd h2
  have a3 := r_bd (b := tn s1.1 s1.2) hr
  have b1 : 1 ≤ dg s1 ∧ dg s1 ≤ 2000 := by unfold dg; omega
  have b2 : 1 ≤ dg s2 ∧ dg s2 ≤ 2000 := by unfold dg; omega
  have b3 : -2002001 ≤ hlo s1 r ∧ hlo s1 r ≤ 2002001 := by unfold hlo; omega
  have b4 : -2002001 ≤ hhi s1 r ∧ hhi s1 r ≤ 2002001 := by unfold hhi; omega
  have m1 := mul_bs (p := hlo s1 r) (q := dg s2) (A := 2002001) (B := 2000) b3.1 b3.2 (by omega) b2.2 (by omega)
  have m2 := mul_bs (p := hhi s1 r) (q := dg s2) (A := 2002001) (B := 2000) b4.1 b4.2 (by omega) b2.2 (by omega)
  have c1 := ab_fl (m := hlo s1 r * dg s2 - dg s1) (n := 2 * dg s1) (A := 4005000000) (by omega) (by omega) (by omega) (by omega)
  have c2 := ab_fl (m := hhi s1 r * dg s2 + dg s1) (n := 2 * dg s1) (A := 4005000000) (by omega) (by omega) (by omega) (by omega)
  have c3 : -5000000000 ≤ slo s1 s2 r ∧ slo s1 s2 r ≤ 5000000000 := by unfold slo; omega
  have c4 : -5000000000 ≤ shi s1 s2 r ∧ shi s1 s2 r ≤ 5000000000 := by unfold shi; omega
  omega
/- 85 -/
theorem c_standOn {fl : Nat} {h : Tr HBlk} {nx : Nat} (hd : D h nx) {s1 s2 r : Int × Int} (h1 : SOk s1.1 s1.2) (h2 : SOk s2.1 s2.2) (hr : ROk r.1 r.2) : C LW fl 85 [.agg (renc s1), .agg (renc s2), .agg (renc r)] ⟨h, nx⟩ (Sc (· = .agg (renc (son s1 s2 r))) ⟨h, nx⟩) := by
  obtain ⟨b1, b2, b3, b4, b5, b6, b7, b8⟩ := son_bd h1 h2 hr
  have a1 := s_bd h1
  have a2 := s_bd h2
  have cU : ∀ fl h' n' (s : Int × Int), SOk s.1 s.2 → C LW fl 76 [.agg (renc s)] ⟨h', n'⟩ (Sc (· = .agg [i64 (ic s.1 s.2), i64 (st s.1 s.2), .bool (tn s.1 s.2)]) ⟨h', n'⟩) := fun fl h' n' s hs => c_upright (by unfold Big; unfold SOk at hs; omega) (by unfold Big; unfold SOk at hs; omega)
  have cD : ∀ fl h' n' (s : Int × Int), SOk s.1 s.2 → C LW fl 100 [.agg [i64 (ic s.1 s.2), i64 (st s.1 s.2), .bool (tn s.1 s.2)]] ⟨h', n'⟩ (Sc (· = i64 (dg s)) ⟨h', n'⟩) := fun fl h' n' s hs => c_degrees (by unfold Mid; have := s_bd hs; omega) (by unfold Mid; have := s_bd hs; omega)
  have cH : ∀ fl h' n', C LW fl 77 [.agg [i64 (ic s1.1 s1.2), i64 (st s1.1 s1.2), .bool (tn s1.1 s1.2)], .agg (renc r)] ⟨h', n'⟩ (Sc (· = .agg (renc (hlo s1 r, hhi s1 r))) ⟨h', n'⟩) := fun fl h' n' => c_halves (by unfold Mid; unfold ROk at hr; omega) (by unfold Mid; unfold ROk at hr; omega) (by unfold Mid; omega)
  have cO : ∀ fl h' n', D h' n' → C LW fl 81 [.agg [.func 99 [] [], .func 91 [] []], .agg [i64 (hlo s1 r * dg s2 - dg s1), i64 (2 * dg s1)], .agg [i64 (hhi s1 r * dg s2 + dg s1), i64 (2 * dg s1)]] ⟨h', n'⟩ (Sc (· = .agg [i64 (slo s1 s2 r), i64 (shi s1 s2 r)]) ⟨h', n'⟩) := fun fl h' n' e => c_ofI (by unfold Big; omega) (by omega) (by unfold Big; omega) (by omega) e
  have cT : ∀ fl h' n', C LW fl 98 [.agg [i64 (ic s2.1 s2.2), i64 (st s2.1 s2.2), .bool (tn s2.1 s2.2)], .agg [i64 (ic s2.1 s2.2 + slo s1 s2 r), i64 (ic s2.1 s2.2 + shi s1 s2 r)]] ⟨h', n'⟩ (Sc (· = .agg (renc (son s1 s2 r))) ⟨h', n'⟩) := fun fl h' n' => c_turn (by unfold Big; omega) (by unfold Big; omega)
  refine c_in lw85 rfl rfl rfl ?_
  dsimp only [L85]
  repeat' first
   | refine r_nil ?_
   | refine th_n ?_
   | refine w_seq ?_
   | refine w_reg ?_
   | refine w_ret ?_
   | refine r_fa (by simp (disch:=first|decide|(simp only[zF,zG];decide)) only [zA,zB,zC,zD,zE,zF,zG,zH,zI,zJ,zK,HV.cells,fl0,fl2,flS,flS1,flI1,flU1,flU2,flF]; try exact rfl) ?_
   | refine r_ld1 (by simp (disch:=first|decide|(simp only[zF,zG];decide)) only [zA,zB,zC,zD,zE,zF,zG,zH,zI,zJ,zK,HV.cells,fl0,fl2,flS,flS1,flI1,flU1,flU2,flF]; try exact rfl) (by first|assumption|(simp (disch:=omega) only [get_same,get_other]; first|done|exact rfl)) (by first|assumption|exact ow2 _ _ _ _|exact ow3 _ _ _ _ _ _|rfl|(simp only [zI,zJ,HV.cells]; exact rfl)) ?_
   | refine r_ldn (by simp (disch:=first|decide|(simp only[zF,zG];decide)) only [zA,zB,zC,zD,zE,zF,zG,zH,zI,zJ,zK,HV.cells,fl0,fl2,flS,flS1,flI1,flU1,flU2,flF]; try exact rfl) (by first|assumption|(simp (disch:=omega) only [get_same,get_other]; first|done|exact rfl)) (by first|assumption|exact ow2 _ _ _ _|exact ow3 _ _ _ _ _ _|rfl|(simp only [zI,zJ,HV.cells]; exact rfl)) ?_
   | refine r_box (by simp (disch:=first|decide|(simp only[zF,zG];decide)) only [zA,zB,zC,zD,zE,zF,zG,zH,zI,zJ,zK,HV.cells,fl0,fl2,flS,flS1,flI1,flU1,flU2,flF]; try exact rfl) ?_
   | refine r_alloc ?_
   | refine r_st (cs' := _) (by simp (disch:=first|decide|(simp only[zF,zG];decide)) only [zA,zB,zC,zD,zE,zF,zG,zH,zI,zJ,zK,HV.cells,fl0,fl2,flS,flS1,flI1,flU1,flU2,flF]; try exact rfl) (by simp (disch:=first|decide|(simp only[zF,zG];decide)) only [zA,zB,zC,zD,zE,zF,zG,zH,zI,zJ,zK,HV.cells,fl0,fl2,flS,flS1,flI1,flU1,flU2,flF]; try exact rfl) (by first|assumption|(simp (disch:=omega) only [get_same,get_other]; first|done|exact rfl)) (by exact True.intro) (by rfl) (by rfl) (by first|assumption|exact ow2 _ _ _ _|exact ow3 _ _ _ _ _ _|rfl|(simp only [zI,zJ,HV.cells]; exact rfl)) (by omega) ?_
   | refine r_add (by simp (disch:=first|decide|(simp only[zF,zG];decide)) only [zA,zB,zC,zD,zE,zF,zG,zH,zI,zJ,zK,HV.cells,fl0,fl2,flS,flS1,flI1,flU1,flU2,flF]; try exact rfl) (by simp (disch:=first|decide|(simp only[zF,zG];decide)) only [zA,zB,zC,zD,zE,zF,zG,zH,zI,zJ,zK,HV.cells,fl0,fl2,flS,flS1,flI1,flU1,flU2,flF]; try exact rfl) (by omega) (by omega) ?_
   | refine r_sub (by simp (disch:=first|decide|(simp only[zF,zG];decide)) only [zA,zB,zC,zD,zE,zF,zG,zH,zI,zJ,zK,HV.cells,fl0,fl2,flS,flS1,flI1,flU1,flU2,flF]; try exact rfl) (by simp (disch:=first|decide|(simp only[zF,zG];decide)) only [zA,zB,zC,zD,zE,zF,zG,zH,zI,zJ,zK,HV.cells,fl0,fl2,flS,flS1,flI1,flU1,flU2,flF]; try exact rfl) (by omega) (by omega) ?_
   | refine r_mul (by simp (disch:=first|decide|(simp only[zF,zG];decide)) only [zA,zB,zC,zD,zE,zF,zG,zH,zI,zJ,zK,HV.cells,fl0,fl2,flS,flS1,flI1,flU1,flU2,flF]; try exact rfl) (by simp (disch:=first|decide|(simp only[zF,zG];decide)) only [zA,zB,zC,zD,zE,zF,zG,zH,zI,zJ,zK,HV.cells,fl0,fl2,flS,flS1,flI1,flU1,flU2,flF]; try exact rfl) (by omega) (by omega) ?_
   | refine r_build (by simp (disch:=first|decide|(simp only[zF,zG];decide)) only [evParts,List.map_cons,List.map_nil,List.nil_append,List.cons_append,List.append_nil,zA,zB,zC,zD,zE,zF,zG,zH,zI,zJ,zK,HV.cells,fl0,fl2,flS,flS1,flI1,flU1,flU2,flF]; try exact rfl) ?_
   | refine r_calls (by simp (disch:=first|decide|(simp only[zF,zG];decide)) only [zA,zB,zC,zD,zE,zF,zG,zH,zI,zJ,zK,HV.cells,fl0,fl2,flS,flS1,flI1,flU1,flU2,flF]; try exact rfl) (by simp (disch:=first|decide|(simp only[zF,zG];decide)) only [List.map_cons,List.map_nil,List.nil_append,List.cons_append,List.append_nil,zA,zB,zC,zD,zE,zF,zG,zH,zI,zJ,zK,HV.cells,fl0,fl2,flS,flS1,flI1,flU1,flU2,flF]; first|done|exact rfl) (cU _ _ _ _ (by assumption)) (fun n' hn' => ?_)
   | refine r_calls (by simp (disch:=first|decide|(simp only[zF,zG];decide)) only [zA,zB,zC,zD,zE,zF,zG,zH,zI,zJ,zK,HV.cells,fl0,fl2,flS,flS1,flI1,flU1,flU2,flF]; try exact rfl) (by simp (disch:=first|decide|(simp only[zF,zG];decide)) only [List.map_cons,List.map_nil,List.nil_append,List.cons_append,List.append_nil,zA,zB,zC,zD,zE,zF,zG,zH,zI,zJ,zK,HV.cells,fl0,fl2,flS,flS1,flI1,flU1,flU2,flF]; first|done|exact rfl) (cD _ _ _ _ (by assumption)) (fun n' hn' => ?_)
   | refine r_calls (by simp (disch:=first|decide|(simp only[zF,zG];decide)) only [zA,zB,zC,zD,zE,zF,zG,zH,zI,zJ,zK,HV.cells,fl0,fl2,flS,flS1,flI1,flU1,flU2,flF]; try exact rfl) (by simp (disch:=first|decide|(simp only[zF,zG];decide)) only [List.map_cons,List.map_nil,List.nil_append,List.cons_append,List.append_nil,zA,zB,zC,zD,zE,zF,zG,zH,zI,zJ,zK,HV.cells,fl0,fl2,flS,flS1,flI1,flU1,flU2,flF]; first|done|exact rfl) (cH _ _ _) (fun n' hn' => ?_)
   | refine r_calls (by simp (disch:=first|decide|(simp only[zF,zG];decide)) only [zA,zB,zC,zD,zE,zF,zG,zH,zI,zJ,zK,HV.cells,fl0,fl2,flS,flS1,flI1,flU1,flU2,flF]; try exact rfl) (by simp (disch:=first|decide|(simp only[zF,zG];decide)) only [List.map_cons,List.map_nil,List.nil_append,List.cons_append,List.append_nil,zA,zB,zC,zD,zE,zF,zG,zH,zI,zJ,zK,HV.cells,fl0,fl2,flS,flS1,flI1,flU1,flU2,flF]; first|done|exact rfl) (cO _ _ _ (by (repeat' first|assumption|refine D.upd ?_ (by omega)|exact D.mono (by assumption) (by omega)) <;> fail)) (fun n' hn' => ?_)
   | refine r_calls (by simp (disch:=first|decide|(simp only[zF,zG];decide)) only [zA,zB,zC,zD,zE,zF,zG,zH,zI,zJ,zK,HV.cells,fl0,fl2,flS,flS1,flI1,flU1,flU2,flF]; try exact rfl) (by simp (disch:=first|decide|(simp only[zF,zG];decide)) only [List.map_cons,List.map_nil,List.nil_append,List.cons_append,List.append_nil,zA,zB,zC,zD,zE,zF,zG,zH,zI,zJ,zK,HV.cells,fl0,fl2,flS,flS1,flI1,flU1,flU2,flF]; first|done|exact rfl) (cT _ _ _) (fun n' hn' => ?_)
   | refine r_calls (by simp (disch:=first|decide|(simp only[zF,zG];decide)) only [zA,zB,zC,zD,zE,zF,zG,zH,zI,zJ,zK,HV.cells,fl0,fl2,flS,flS1,flI1,flU1,flU2,flF]; try exact rfl) (by simp (disch:=first|decide|(simp only[zF,zG];decide)) only [List.map_cons,List.map_nil,List.nil_append,List.cons_append,List.append_nil,zA,zB,zC,zD,zE,zF,zG,zH,zI,zJ,zK,HV.cells,fl0,fl2,flS,flS1,flI1,flU1,flU2,flF]; first|done|exact rfl) c_inward (fun n' hn' => ?_)
   | refine w_draw (by omega) (by (repeat' first|assumption|refine D.upd ?_ (by omega)|exact D.mono (by assumption) (by omega)) <;> fail) ?_
   | refine d_al2 rfl rfl rfl ?_
   | refine d_alloc rfl ?_
   | refine d_one rfl ?_
   | refine d_next (by omega) ?_
   | refine d_laid ?_
   | fail
  exact fin_m (by simp only [zL,zM]) (res_c (by simp (disch:=first|decide|(simp only[zF,zG];decide)) only [zA,zB,zC,zD,zE,zF,zG,zH,zI,zJ,zK,HV.cells,fl0,fl2,flS,flS1,flI1,flU1,flU2,flF]; try exact rfl) (by first|assumption|(simp (disch:=omega) only [get_same,get_other]; first|done|exact rfl)) rfl res_nil) (sc_flat rfl (by dsimp only; omega) rfl)
/- 97 -/
theorem loop97 {fl : Nat} {h0 : Tr HBlk} {n0 : Nat} {Q : HExit → HAct → HS → Prop} {p : Option (Nat × Nat)} {l : List (Int × Int)} {cp : Nat} {k : Nat} {first captured : List HV} {P : Int × Int → Prop} [DecidablePred P] (hlen : l.length < 1000000000) (hfl : fl ≤ n0)
    (hf : ∀ r ∈ l, ∀ fl h n, Ext h0 n0 h n → C LW fl k (first ++ [.agg (renc r)] ++ captured) ⟨h, n⟩ (Sc (· = .bool (decide (P r))) ⟨h, n⟩)) :
    ∀ (m i : Nat) (a : HAct) (h : Tr HBlk) (nx : Nat), m + i = l.length → Ext h0 n0 h nx → Row renc 2 h nx p l → a.nt = 18 → a.defers = [] → a.tmp 1 = .func k first captured → a.tmp 7 = .slice p l.length cp → a.tmp 8 = i64 l.length → a.tmp 9 = i64 i →
      (∀ a' h' n', Ext h0 n0 h' n' → a'.nt = 18 → a'.defers = [] → (∀ r ∈ l.drop i, P r) → Q .normal a' ⟨h', n'⟩) →
      (∀ a' h' n', Ext h0 n0 h' n' → a'.nt = 18 → a'.defers = [] → a'.tmp 4 = .bool false → ¬ (∀ r ∈ l.drop i, P r) → Q .ret a' ⟨h', n'⟩) → W LW fl none (.loop L97w0) (inBlockH 0 Q) a ⟨h, nx⟩
  | 0, i, a, h, nx, hm, he, hrow, hnt, hds, h1, h7, h8, h9, hq, hr => by
    have hle := he.le
    refine w_it (show L97w0 = _ by unfold L97w0; exact rfl) ?_
    repeat' first
     | refine r_nil ?_
     | refine th_n ?_
     | refine th_e ?_
     | refine ib_e ?_
     | refine w_exit ?_
     | refine w_seq ?_
     | refine w_reg ?_
     | refine w_f (by simp (disch:=first|decide|(simp only[zF,zG,hnt, h1, h7, h8, h9];decide)) only [zA,zB,zC,zD,zE,zF,zG,zH,zI,zJ,zK,HV.cells,fl0,fl2,flS,flS1,flI1,flU1,flU2,flF,hnt, h1, h7, h8, h9]; first|done|exact rfl) ?_
     | refine r_lss (by simp (disch:=first|decide|(simp only[zF,zG,hnt, h1, h7, h8, h9];decide)) only [zA,zB,zC,zD,zE,zF,zG,zH,zI,zJ,zK,HV.cells,fl0,fl2,flS,flS1,flI1,flU1,flU2,flF,hnt, h1, h7, h8, h9]; try exact rfl) (by simp (disch:=first|decide|(simp only[zF,zG,hnt, h1, h7, h8, h9];decide)) only [zA,zB,zC,zD,zE,zF,zG,zH,zI,zJ,zK,HV.cells,fl0,fl2,flS,flS1,flI1,flU1,flU2,flF,hnt, h1, h7, h8, h9]; try exact rfl) (fun hc => ?_) (fun hc => ?_) <;> (try (exfalso; omega))
     | fail
    refine hq _ _ _ he ?_ ?_ (fun r hr => by rw [List.drop_of_length_le (by omega)] at hr; cases hr)
    all_goals first|(simp only [zL,zM,zF,zG,hnt, hds];done)|(simp (disch:=first|decide|(simp only[zF,zG,hnt, hds];decide)) only [zA,zB,zC,zD,zE,zF,zG,zH,zI,zJ,zK,HV.cells,fl0,fl2,flS,flS1,flI1,flU1,flU2,flF,hnt, hds];first|done|exact rfl)|assumption
  | m + 1, i, a, h, nx, hm, he, hrow, hnt, hds, h1, h7, h8, h9, hq, hr => by
    have hi : i < l.length := by omega
    have hrow0 := hrow
    obtain ⟨b, o, cs, kk, rfl, hb, hg, hcs⟩ := hrow (by intro e; rw [e] at hi; simp at hi)
    have hy : l[i]? = some l[i] := by simp [hi]
    have e0 := hcs i _ hy
    have hf' := hf l[i] (List.getElem_mem hi)
    have ow : overwrite [i64 0, i64 0] 0 (HV.agg (renc l[i])).cells = some (renc l[i]) := rfl
    have tk : takeN 2 ((renc l[i]).drop 0) = some (renc l[i]) := rfl
    have hd := he.d
    have hle := he.le
    have hdrop := List.drop_eq_getElem_cons hi
    refine w_it (show L97w0 = _ by unfold L97w0; exact rfl) ?_
    repeat' first
     | refine r_nil ?_
     | refine th_n ?_
     | refine th_r ?_
     | refine ib_n ?_
     | refine ib_r ?_
     | refine w_seq ?_
     | refine w_reg ?_
     | refine w_ret ?_
     | refine w_skip ?_
     | refine w_block ?_
     | refine w_t (by simp (disch:=first|decide|(simp only[zF,zG,hnt, h1, h7, h8, h9];decide)) only [zA,zB,zC,zD,zE,zF,zG,zH,zI,zJ,zK,HV.cells,fl0,fl2,flS,flS1,flI1,flU1,flU2,flF,hnt, h1, h7, h8, h9]; first|done|exact rfl) ?_
     | refine w_f (by simp (disch:=first|decide|(simp only[zF,zG,hnt, h1, h7, h8, h9];decide)) only [zA,zB,zC,zD,zE,zF,zG,zH,zI,zJ,zK,HV.cells,fl0,fl2,flS,flS1,flI1,flU1,flU2,flF,hnt, h1, h7, h8, h9]; first|done|exact rfl) ?_
     | refine r_move (by simp (disch:=first|decide|(simp only[zF,zG,hnt, h1, h7, h8, h9];decide)) only [zA,zB,zC,zD,zE,zF,zG,zH,zI,zJ,zK,HV.cells,fl0,fl2,flS,flS1,flI1,flU1,flU2,flF,hnt, h1, h7, h8, h9]; try exact rfl) ?_
     | refine r_ldn (by simp (disch:=first|decide|(simp only[zF,zG,hnt, h1, h7, h8, h9];decide)) only [zA,zB,zC,zD,zE,zF,zG,zH,zI,zJ,zK,HV.cells,fl0,fl2,flS,flS1,flI1,flU1,flU2,flF,hnt, h1, h7, h8, h9]; try exact rfl) (by first|assumption|(simp (disch:=omega) only [get_same,get_other,hnt, h1, h7, h8, h9]; first|done|exact rfl)) (by first|assumption|exact ow2 _ _ _ _|exact ow3 _ _ _ _ _ _|rfl|(simp only [zI,zJ,HV.cells,hnt, h1, h7, h8, h9]; exact rfl)) ?_
     | refine r_alloc ?_
     | refine r_st (cs' := _) (by simp (disch:=first|decide|(simp only[zF,zG,hnt, h1, h7, h8, h9];decide)) only [zA,zB,zC,zD,zE,zF,zG,zH,zI,zJ,zK,HV.cells,fl0,fl2,flS,flS1,flI1,flU1,flU2,flF,hnt, h1, h7, h8, h9]; try exact rfl) (by simp (disch:=first|decide|(simp only[zF,zG,hnt, h1, h7, h8, h9];decide)) only [zA,zB,zC,zD,zE,zF,zG,zH,zI,zJ,zK,HV.cells,fl0,fl2,flS,flS1,flI1,flU1,flU2,flF,hnt, h1, h7, h8, h9]; try exact rfl) (by first|assumption|(simp (disch:=omega) only [get_same,get_other,hnt, h1, h7, h8, h9]; first|done|exact rfl)) (by exact True.intro) (by rfl) (by rfl) (by first|assumption|exact ow2 _ _ _ _|exact ow3 _ _ _ _ _ _|rfl|(simp only [zI,zJ,HV.cells,hnt, h1, h7, h8, h9]; exact rfl)) (by omega) ?_
     | refine r_add (by simp (disch:=first|decide|(simp only[zF,zG,hnt, h1, h7, h8, h9];decide)) only [zA,zB,zC,zD,zE,zF,zG,zH,zI,zJ,zK,HV.cells,fl0,fl2,flS,flS1,flI1,flU1,flU2,flF,hnt, h1, h7, h8, h9]; try exact rfl) (by simp (disch:=first|decide|(simp only[zF,zG,hnt, h1, h7, h8, h9];decide)) only [zA,zB,zC,zD,zE,zF,zG,zH,zI,zJ,zK,HV.cells,fl0,fl2,flS,flS1,flI1,flU1,flU2,flF,hnt, h1, h7, h8, h9]; try exact rfl) (by omega) (by omega) ?_
     | refine r_lss (by simp (disch:=first|decide|(simp only[zF,zG,hnt, h1, h7, h8, h9];decide)) only [zA,zB,zC,zD,zE,zF,zG,zH,zI,zJ,zK,HV.cells,fl0,fl2,flS,flS1,flI1,flU1,flU2,flF,hnt, h1, h7, h8, h9]; try exact rfl) (by simp (disch:=first|decide|(simp only[zF,zG,hnt, h1, h7, h8, h9];decide)) only [zA,zB,zC,zD,zE,zF,zG,zH,zI,zJ,zK,HV.cells,fl0,fl2,flS,flS1,flI1,flU1,flU2,flF,hnt, h1, h7, h8, h9]; try exact rfl) (fun hc => ?_) (fun hc => ?_) <;> (try (exfalso; omega))
     | refine r_not1 (by simp (disch:=first|decide|(simp only[zF,zG,hnt, h1, h7, h8, h9];decide)) only [zA,zB,zC,zD,zE,zF,zG,zH,zI,zJ,zK,HV.cells,fl0,fl2,flS,flS1,flI1,flU1,flU2,flF,hnt, h1, h7, h8, h9]; try exact rfl) ?_
     | refine r_ixs (by simp (disch:=first|decide|(simp only[zF,zG,hnt, h1, h7, h8, h9];decide)) only [zA,zB,zC,zD,zE,zF,zG,zH,zI,zJ,zK,HV.cells,fl0,fl2,flS,flS1,flI1,flU1,flU2,flF,hnt, h1, h7, h8, h9]; try exact rfl) (by simp (disch:=first|decide|(simp only[zF,zG,hnt, h1, h7, h8, h9];decide)) only [zA,zB,zC,zD,zE,zF,zG,zH,zI,zJ,zK,HV.cells,fl0,fl2,flS,flS1,flI1,flU1,flU2,flF,hnt, h1, h7, h8, h9]; try exact rfl) (by omega) ?_
     | refine r_calld (by simp (disch:=first|decide|(simp only[zF,zG,hnt, h1, h7, h8, h9];decide)) only [zA,zB,zC,zD,zE,zF,zG,zH,zI,zJ,zK,HV.cells,fl0,fl2,flS,flS1,flI1,flU1,flU2,flF,hnt, h1, h7, h8, h9]; try exact rfl) (by simp (disch:=first|decide|(simp only[zF,zG,hnt, h1, h7, h8, h9];decide)) only [List.map_cons,List.map_nil,List.nil_append,List.cons_append,List.append_nil,zA,zB,zC,zD,zE,zF,zG,zH,zI,zJ,zK,HV.cells,fl0,fl2,flS,flS1,flI1,flU1,flU2,flF,hnt, h1, h7, h8, h9]; first|done|exact rfl) (hf' _ _ _ (by repeat' first|assumption|refine Ext.put ?_ (by omega) (by omega)|exact Ext.up (by assumption) (by omega)|exact Ext.nx (by assumption) (by omega))) (fun n' hn' hc => ?_) (fun n' hn' hc => ?_) <;> (try (exfalso; omega))
     | fail
    · refine loop97 (cp := cp) hlen hfl hf m (i + 1) _ _ _ (by omega) (by repeat' first|assumption|refine Ext.put ?_ (by omega) (by omega)|exact Ext.up (by assumption) (by omega)|exact Ext.nx (by assumption) (by omega)) (Row.ext hrow0 (h' := _) (n' := _) (by repeat' first|assumption|refine Ext.put ?_ (by omega) (by omega)|exact Ext.up (by assumption) (by omega)|exact Ext.nx (by assumption) (by omega))) ?_ ?_ ?_ ?_ ?_ ?_ (fun a' h' n2 g1 g2 g3 g4 => hq a' h' n2 g1 g2 g3 ?_) (fun a' h' n2 g1 g2 g3 g4 g5 => hr a' h' n2 g1 g2 g3 g4 ?_)
      all_goals try first|(simp only [zL,zM,zF,zG,hnt, hds, h1, h7, h8, h9];done)|(simp (disch:=first|decide|(simp only[zF,zG,hnt, hds, h1, h7, h8, h9];decide)) only [zA,zB,zC,zD,zE,zF,zG,zH,zI,zJ,zK,HV.cells,fl0,fl2,flS,flS1,flI1,flU1,flU2,flF,hnt, hds, h1, h7, h8, h9];first|done|exact rfl)|assumption
      · rw [hdrop]; intro r hr; rcases List.mem_cons.1 hr with e | e
        · rw [e]; exact hc
        · exact g4 r e
      · rw [hdrop]; exact fun e => g5 fun r hr => e r (List.mem_cons_of_mem _ hr)
    · refine hr _ _ _ (by repeat' first|assumption|refine Ext.put ?_ (by omega) (by omega)|exact Ext.up (by assumption) (by omega)|exact Ext.nx (by assumption) (by omega)) ?_ ?_ ?_ (fun e => hc (e _ (by rw [hdrop]; exact List.mem_cons_self ..)))
      all_goals first|(simp only [zL,zM,zF,zG,hnt, hds];done)|(simp (disch:=first|decide|(simp only[zF,zG,hnt, hds];decide)) only [zA,zB,zC,zD,zE,zF,zG,zH,zI,zJ,zK,HV.cells,fl0,fl2,flS,flS1,flI1,flU1,flU2,flF,hnt, hds];first|done|exact rfl)|assumption
theorem c_all97 {fl : Nat} {h : Tr HBlk} {nx : Nat} (hd : D h nx) {p : Option (Nat × Nat)} {l : List (Int × Int)} {n cp : Nat} {k : Nat} {first captured : List HV} {P : Int × Int → Prop} [DecidablePred P] (hn : n = l.length) (hlen : l.length < 1000000000)
    (hrow : Row renc 2 h nx p l) (hf : ∀ r ∈ l, ∀ fl h1 n1, Ext h nx h1 n1 → C LW fl k (first ++ [.agg (renc r)] ++ captured) ⟨h1, n1⟩ (Sc (· = .bool (decide (P r))) ⟨h1, n1⟩)) :
    C LW fl 97 [.slice p n cp, .func k first captured] ⟨h, nx⟩ (Sc (· = .bool (decide (∀ r ∈ l, P r))) ⟨h, nx⟩) := by
  subst hn
  refine c_in lw97 rfl rfl rfl ?_
  dsimp only [L97]
  repeat' first
   | refine r_nil ?_
   | refine th_n ?_
   | refine w_seq ?_
   | refine w_reg ?_
   | refine w_block ?_
   | refine r_move (by simp (disch:=first|decide|(simp only[zF,zG];decide)) only [zA,zB,zC,zD,zE,zF,zG,zH,zI,zJ,zK,HV.cells,fl0,fl2,flS,flS1,flI1,flU1,flU2,flF]; try exact rfl) ?_
   | refine r_len (by simp (disch:=first|decide|(simp only[zF,zG];decide)) only [zA,zB,zC,zD,zE,zF,zG,zH,zI,zJ,zK,HV.cells,fl0,fl2,flS,flS1,flI1,flU1,flU2,flF]; try exact rfl) ?_
   | fail
  refine loop97 (cp := cp) hlen (Nat.le_refl _) hf l.length 0 _ _ _ (by omega) (Ext.refl hd) hrow ?_ ?_ ?_ ?_ ?_ ?_ (fun a' h' n2 g1 g2 g3 g4 => ?_) (fun a' h' n2 g1 g2 g3 g4 g5 => ?_)
  all_goals try first|(simp only [zL,zM,zF,zG];done)|(simp (disch:=first|decide|(simp only[zF,zG];decide)) only [zA,zB,zC,zD,zE,zF,zG,zH,zI,zJ,zK,HV.cells,fl0,fl2,flS,flS1,flI1,flU1,flU2,flF];first|done|exact rfl)|assumption
  · have hle := g1.le
    repeat' first
     | refine r_nil ?_
     | refine th_n ?_
     | refine w_seq ?_
     | refine w_reg ?_
     | refine w_ret ?_
     | refine r_move (by simp (disch:=first|decide|(simp only[zF,zG,g2];decide)) only [zA,zB,zC,zD,zE,zF,zG,zH,zI,zJ,zK,HV.cells,fl0,fl2,flS,flS1,flI1,flU1,flU2,flF,g2]; try exact rfl) ?_
     | fail
    refine fin_r (by simp only [zL, g3]) (by simp (disch:=first|decide|(simp only[zF,zG,g2];decide)) only [zA,zB,zC,zD,zE,zF,zG,zH,zI,zJ,zK,HV.cells,fl0,fl2,flS,flS1,flI1,flU1,flU2,flF,g2]; try exact rfl) (sc_flat rfl (by dsimp only; omega) ?_)
    rw [decide_eq_true (by simpa using g4)]
  · have hle := g1.le
    repeat' first
     | refine th_r ?_
     | fail
    refine fin_r (by simp only [zL, g3]) (by simp (disch:=first|decide|(simp only[zF,zG,g2, g4];decide)) only [zA,zB,zC,zD,zE,zF,zG,zH,zI,zJ,zK,HV.cells,fl0,fl2,flS,flS1,flI1,flU1,flU2,flF,g2, g4]; try exact rfl) (sc_flat rfl (by dsimp only; omega) ?_)
    rw [decide_eq_false (by simpa using g5)]
def LOk (l : List (Int × Int)) : Prop := ∀ s ∈ l, SOk s.1 s.2
instance (l : List (Int × Int)) : Decidable (LOk l) := by unfold LOk; infer_instance
def chkS (l : List (Int × Int)) : Int := if l.length ≤ 8 then (if LOk l then 0 else 1) else 3
/- 74 -/
theorem c_checkScales {fl : Nat} {h : Tr HBlk} {nx : Nat} (hd : D h nx) {p : Option (Nat × Nat)} {l : List (Int × Int)} {n cp : Nat} (hn : n = l.length) (hlen : l.length < 1000000000) (hrow : Row renc 2 h nx p l) :
    C LW fl 74 [.slice p n cp] ⟨h, nx⟩ (Sc (· = i64 (chkS l)) ⟨h, nx⟩) := by
  subst hn
  have cA : ∀ fl h' n', Ext h nx h' n' → C LW fl 97 [.slice p l.length cp, .func 52 [] []] ⟨h', n'⟩ (Sc (· = .bool (decide (LOk l))) ⟨h', n'⟩) := fun fl h' n' e => c_all97 (P := fun s => SOk s.1 s.2) e.d rfl hlen (hrow.ext e) (fun r _ fl h1 n1 _ => c_svalid)
  refine c_in lw74 rfl rfl rfl ?_
  dsimp only [L74]
  repeat' first
   | refine r_nil ?_
   | refine th_n ?_
   | refine th_r ?_
   | refine w_seq ?_
   | refine w_reg ?_
   | refine w_ret ?_
   | refine w_skip ?_
   | refine w_t (by simp (disch:=first|decide|(simp only[zF,zG];decide)) only [zA,zB,zC,zD,zE,zF,zG,zH,zI,zJ,zK,HV.cells,fl0,fl2,flS,flS1,flI1,flU1,flU2,flF]; first|done|exact rfl) ?_
   | refine w_f (by simp (disch:=first|decide|(simp only[zF,zG];decide)) only [zA,zB,zC,zD,zE,zF,zG,zH,zI,zJ,zK,HV.cells,fl0,fl2,flS,flS1,flI1,flU1,flU2,flF]; first|done|exact rfl) ?_
   | refine r_move (by simp (disch:=first|decide|(simp only[zF,zG];decide)) only [zA,zB,zC,zD,zE,zF,zG,zH,zI,zJ,zK,HV.cells,fl0,fl2,flS,flS1,flI1,flU1,flU2,flF]; try exact rfl) ?_
   | refine r_gtr (by simp (disch:=first|decide|(simp only[zF,zG];decide)) only [zA,zB,zC,zD,zE,zF,zG,zH,zI,zJ,zK,HV.cells,fl0,fl2,flS,flS1,flI1,flU1,flU2,flF]; try exact rfl) (by simp (disch:=first|decide|(simp only[zF,zG];decide)) only [zA,zB,zC,zD,zE,zF,zG,zH,zI,zJ,zK,HV.cells,fl0,fl2,flS,flS1,flI1,flU1,flU2,flF]; try exact rfl) (fun hc => ?_) (fun hc => ?_) <;> (try (exfalso; omega))
   | refine r_not1 (by simp (disch:=first|decide|(simp only[zF,zG];decide)) only [zA,zB,zC,zD,zE,zF,zG,zH,zI,zJ,zK,HV.cells,fl0,fl2,flS,flS1,flI1,flU1,flU2,flF]; try exact rfl) ?_
   | refine r_len (by simp (disch:=first|decide|(simp only[zF,zG];decide)) only [zA,zB,zC,zD,zE,zF,zG,zH,zI,zJ,zK,HV.cells,fl0,fl2,flS,flS1,flI1,flU1,flU2,flF]; try exact rfl) ?_
   | refine r_calld (by simp (disch:=first|decide|(simp only[zF,zG];decide)) only [zA,zB,zC,zD,zE,zF,zG,zH,zI,zJ,zK,HV.cells,fl0,fl2,flS,flS1,flI1,flU1,flU2,flF]; try exact rfl) (by simp (disch:=first|decide|(simp only[zF,zG];decide)) only [List.map_cons,List.map_nil,List.nil_append,List.cons_append,List.append_nil,zA,zB,zC,zD,zE,zF,zG,zH,zI,zJ,zK,HV.cells,fl0,fl2,flS,flS1,flI1,flU1,flU2,flF]; first|done|exact rfl) (cA _ _ _ (by repeat' first|assumption|refine Ext.put ?_ (by omega) (by omega)|exact Ext.up (by assumption) (by omega)|exact Ext.nx (by assumption) (by omega))) (fun n' hn' hc => ?_) (fun n' hn' hc => ?_) <;> (try (exfalso; omega))
   | fail
  all_goals
    refine fin_r (by simp only [zL,zM]) (by simp (disch:=first|decide|(simp only[zF,zG];decide)) only [zA,zB,zC,zD,zE,zF,zG,zH,zI,zJ,zK,HV.cells,fl0,fl2,flS,flS1,flI1,flU1,flU2,flF]; try exact rfl) (sc_flat rfl (by dsimp only; omega) ?_)
    unfold chkS
    first
      | rw [if_neg (by omega)]
      | rw [if_pos (by omega), if_pos hc]
      | rw [if_pos (by omega), if_neg hc]
def chkR (l : List (Int × Int)) (r : Int × Int) : Int := if chkS l = 0 then (if l.length = 0 then 1 else if ROk r.1 r.2 then 0 else 2) else chkS l
/- 53 -/
theorem c_checkReadings {fl : Nat} {h : Tr HBlk} {nx : Nat} (hd : D h nx) {p : Option (Nat × Nat)} {l : List (Int × Int)} {r : Int × Int} {n cp : Nat} (hn : n = l.length) (hlen : l.length < 1000000000) (hrow : Row renc 2 h nx p l) :
    C LW fl 53 [.agg (renc r), .slice p n cp] ⟨h, nx⟩ (Sc (· = i64 (chkR l r)) ⟨h, nx⟩) := by
  subst hn
  have cA : ∀ fl h' n', Ext h nx h' n' → C LW fl 74 [.slice p l.length cp] ⟨h', n'⟩ (Sc (· = i64 (chkS l)) ⟨h', n'⟩) := fun fl h' n' e => c_checkScales e.d rfl hlen (hrow.ext e)
  have cL : ∀ fl h' n', C LW fl 64 [.agg (renc r), .agg [i64 (-1000000), i64 1000000]] ⟨h', n'⟩ (Sc (· = .bool (decide (ROk r.1 r.2))) ⟨h', n'⟩) := fun fl h' n' => by
    have := c_liesIn (fl := fl) (h := h') (nx := n') (a := r.1) (b := r.2) (lo := -1000000) (hi := 1000000)
    rwa [show decide (r.1 ≤ r.2 ∧ ((-1000000 : Int) ≤ r.1 ∧ r.1 ≤ 1000000) ∧ ((-1000000 : Int) ≤ r.2 ∧ r.2 ≤ 1000000)) = decide (ROk r.1 r.2) by congr 1; unfold ROk; exact propext ⟨fun h => by omega, fun h => by omega⟩] at this
  refine c_in lw53 rfl rfl rfl ?_
  dsimp only [L53]
  repeat' first
   | refine r_nil ?_
   | refine th_n ?_
   | refine th_r ?_
   | refine w_seq ?_
   | refine w_reg ?_
   | refine w_ret ?_
   | refine w_skip ?_
   | refine w_t (by simp (disch:=first|decide|(simp only[zF,zG];decide)) only [zA,zB,zC,zD,zE,zF,zG,zH,zI,zJ,zK,HV.cells,fl0,fl2,flS,flS1,flI1,flU1,flU2,flF]; first|done|exact rfl) ?_
   | refine w_f (by simp (disch:=first|decide|(simp only[zF,zG];decide)) only [zA,zB,zC,zD,zE,zF,zG,zH,zI,zJ,zK,HV.cells,fl0,fl2,flS,flS1,flI1,flU1,flU2,flF]; first|done|exact rfl) ?_
   | refine r_move (by simp (disch:=first|decide|(simp only[zF,zG];decide)) only [zA,zB,zC,zD,zE,zF,zG,zH,zI,zJ,zK,HV.cells,fl0,fl2,flS,flS1,flI1,flU1,flU2,flF]; try exact rfl) ?_
   | refine r_ldn (by simp (disch:=first|decide|(simp only[zF,zG];decide)) only [zA,zB,zC,zD,zE,zF,zG,zH,zI,zJ,zK,HV.cells,fl0,fl2,flS,flS1,flI1,flU1,flU2,flF]; try exact rfl) (by first|assumption|(simp (disch:=omega) only [get_same,get_other]; first|done|exact rfl)) (by first|assumption|exact ow2 _ _ _ _|exact ow3 _ _ _ _ _ _|rfl|(simp only [zI,zJ,HV.cells]; exact rfl)) ?_
   | refine r_box (by simp (disch:=first|decide|(simp only[zF,zG];decide)) only [zA,zB,zC,zD,zE,zF,zG,zH,zI,zJ,zK,HV.cells,fl0,fl2,flS,flS1,flI1,flU1,flU2,flF]; try exact rfl) ?_
   | refine r_eq (by simp (disch:=first|decide|(simp only[zF,zG];decide)) only [zA,zB,zC,zD,zE,zF,zG,zH,zI,zJ,zK,HV.cells,fl0,fl2,flS,flS1,flI1,flU1,flU2,flF]; try exact rfl) (by simp (disch:=first|decide|(simp only[zF,zG];decide)) only [zA,zB,zC,zD,zE,zF,zG,zH,zI,zJ,zK,HV.cells,fl0,fl2,flS,flS1,flI1,flU1,flU2,flF]; try exact rfl) (fun hc => ?_) (fun hc => ?_) <;> (try (exfalso; omega))
   | refine r_ne (by simp (disch:=first|decide|(simp only[zF,zG];decide)) only [zA,zB,zC,zD,zE,zF,zG,zH,zI,zJ,zK,HV.cells,fl0,fl2,flS,flS1,flI1,flU1,flU2,flF]; try exact rfl) (by simp (disch:=first|decide|(simp only[zF,zG];decide)) only [zA,zB,zC,zD,zE,zF,zG,zH,zI,zJ,zK,HV.cells,fl0,fl2,flS,flS1,flI1,flU1,flU2,flF]; try exact rfl) (fun hc => ?_) (fun hc => ?_) <;> (try (exfalso; omega))
   | refine r_not1 (by simp (disch:=first|decide|(simp only[zF,zG];decide)) only [zA,zB,zC,zD,zE,zF,zG,zH,zI,zJ,zK,HV.cells,fl0,fl2,flS,flS1,flI1,flU1,flU2,flF]; try exact rfl) ?_
   | refine r_len (by simp (disch:=first|decide|(simp only[zF,zG];decide)) only [zA,zB,zC,zD,zE,zF,zG,zH,zI,zJ,zK,HV.cells,fl0,fl2,flS,flS1,flI1,flU1,flU2,flF]; try exact rfl) ?_
   | refine r_calls (by simp (disch:=first|decide|(simp only[zF,zG];decide)) only [zA,zB,zC,zD,zE,zF,zG,zH,zI,zJ,zK,HV.cells,fl0,fl2,flS,flS1,flI1,flU1,flU2,flF]; try exact rfl) (by simp (disch:=first|decide|(simp only[zF,zG];decide)) only [List.map_cons,List.map_nil,List.nil_append,List.cons_append,List.append_nil,zA,zB,zC,zD,zE,zF,zG,zH,zI,zJ,zK,HV.cells,fl0,fl2,flS,flS1,flI1,flU1,flU2,flF]; first|done|exact rfl) (cA _ _ _ (by repeat' first|assumption|refine Ext.put ?_ (by omega) (by omega)|exact Ext.up (by assumption) (by omega)|exact Ext.nx (by assumption) (by omega))) (fun n' hn' => ?_)
   | refine r_calls (by simp (disch:=first|decide|(simp only[zF,zG];decide)) only [zA,zB,zC,zD,zE,zF,zG,zH,zI,zJ,zK,HV.cells,fl0,fl2,flS,flS1,flI1,flU1,flU2,flF]; try exact rfl) (by simp (disch:=first|decide|(simp only[zF,zG];decide)) only [List.map_cons,List.map_nil,List.nil_append,List.cons_append,List.append_nil,zA,zB,zC,zD,zE,zF,zG,zH,zI,zJ,zK,HV.cells,fl0,fl2,flS,flS1,flI1,flU1,flU2,flF]; first|done|exact rfl) c_bor (fun n' hn' => ?_)
   | refine r_calld (by simp (disch:=first|decide|(simp only[zF,zG];decide)) only [zA,zB,zC,zD,zE,zF,zG,zH,zI,zJ,zK,HV.cells,fl0,fl2,flS,flS1,flI1,flU1,flU2,flF]; try exact rfl) (by simp (disch:=first|decide|(simp only[zF,zG];decide)) only [List.map_cons,List.map_nil,List.nil_append,List.cons_append,List.append_nil,zA,zB,zC,zD,zE,zF,zG,zH,zI,zJ,zK,HV.cells,fl0,fl2,flS,flS1,flI1,flU1,flU2,flF]; first|done|exact rfl) (cL _ _ _) (fun n' hn' hc => ?_) (fun n' hn' hc => ?_) <;> (try (exfalso; omega))
   | refine w_draw (by omega) (by (repeat' first|assumption|refine D.upd ?_ (by omega)|exact D.mono (by assumption) (by omega)) <;> fail) ?_
   | refine d_rest rfl ?_
   | refine d_one rfl ?_
   | refine d_next (by omega) ?_
   | fail
  all_goals
    refine fin_r (by simp only [zL,zM]) (by simp (disch:=first|decide|(simp only[zF,zG];decide)) only [zA,zB,zC,zD,zE,zF,zG,zH,zI,zJ,zK,HV.cells,fl0,fl2,flS,flS1,flI1,flU1,flU2,flF]; try exact rfl) (sc_flat rfl (by dsimp only; omega) ?_)
    unfold chkR
    first
      | rw [if_neg (by assumption)]
      | rw [if_pos (by assumption), if_pos (by omega)]
      | rw [if_pos (by assumption), if_neg (by omega), if_pos (by assumption)]
      | rw [if_pos (by assumption), if_neg (by omega), if_neg (by assumption)]
end Go.Hx

/- Layer 3: through scales; the thousandths of readings. -/
namespace Go.Hx
set_option linter.unusedSimpArgs false
set_option linter.unusedVariables false
set_option maxRecDepth 20000
set_option maxHeartbeats 4000000
attribute [local irreducible] W R C thenH inBlockH
def thr : List (Int × Int) → Int × Int → (Int × Int) × Int
  | s1 :: s2 :: l, r => if ROk (son s1 s2 r).1 (son s1 s2 r).2 then thr (s2 :: l) (son s1 s2 r) else ((0, 0), 10)
  | _, r => (r, 0)
/- 84 -/
theorem c_pass {p : Option (Nat × Nat)} {l : List (Int × Int)} {cp lb pb : Nat} (hlen : l.length ≤ 8) (hl : LOk l) :
    ∀ (m i : Nat) {fl : Nat} {h : Tr HBlk} {nx : Nat} {r : Int × Int}, m + i + 1 = l.length → ROk r.1 r.2 → D h nx → lb < nx → pb < nx → h.get lb = some (.cells [.slice p l.length cp] .exact) → h.get pb = some (.cells [.func 84 [] [.ptr (some (lb, 0)), .ptr (some (pb, 0))]] .exact) → Row renc 2 h nx p l →
      C LW fl 84 [i64 i, .agg (renc r), .ptr (some (lb, 0)), .ptr (some (pb, 0))] ⟨h, nx⟩ (Sc (· = .tuple [.agg (renc (thr (l.drop i) r).1), i64 (thr (l.drop i) r).2]) ⟨h, nx⟩)
  | 0, i, fl, h, nx, r, hm, hr, hd, hlb, hpb, hgl, hgp, hrow => by
    refine c_in lw84 rfl rfl rfl ?_
    dsimp only [L84]
    repeat' first
     | refine r_nil ?_
     | refine th_n ?_
     | refine th_r ?_
     | refine w_seq ?_
     | refine w_reg ?_
     | refine w_ret ?_
     | refine w_t (by simp (disch:=first|decide|(simp only[zF,zG,hgl];decide)) only [zA,zB,zC,zD,zE,zF,zG,zH,zI,zJ,zK,HV.cells,fl0,fl2,flS,flS1,flI1,flU1,flU2,flF,hgl]; first|done|exact rfl) ?_
     | refine r_move (by simp (disch:=first|decide|(simp only[zF,zG,hgl];decide)) only [zA,zB,zC,zD,zE,zF,zG,zH,zI,zJ,zK,HV.cells,fl0,fl2,flS,flS1,flI1,flU1,flU2,flF,hgl]; try exact rfl) ?_
     | refine r_ld1 (by simp (disch:=first|decide|(simp only[zF,zG,hgl];decide)) only [zA,zB,zC,zD,zE,zF,zG,zH,zI,zJ,zK,HV.cells,fl0,fl2,flS,flS1,flI1,flU1,flU2,flF,hgl]; try exact rfl) (by first|assumption|(simp (disch:=omega) only [get_same,get_other,hgl]; first|done|exact rfl)) (by first|assumption|exact ow2 _ _ _ _|exact ow3 _ _ _ _ _ _|rfl|(simp only [zI,zJ,HV.cells,hgl]; exact rfl)) ?_
     | refine r_ldn (by simp (disch:=first|decide|(simp only[zF,zG,hgl];decide)) only [zA,zB,zC,zD,zE,zF,zG,zH,zI,zJ,zK,HV.cells,fl0,fl2,flS,flS1,flI1,flU1,flU2,flF,hgl]; try exact rfl) (by first|assumption|(simp (disch:=omega) only [get_same,get_other,hgl]; first|done|exact rfl)) (by first|assumption|exact ow2 _ _ _ _|exact ow3 _ _ _ _ _ _|rfl|(simp only [zI,zJ,HV.cells,hgl]; exact rfl)) ?_
     | refine r_box (by simp (disch:=first|decide|(simp only[zF,zG,hgl];decide)) only [zA,zB,zC,zD,zE,zF,zG,zH,zI,zJ,zK,HV.cells,fl0,fl2,flS,flS1,flI1,flU1,flU2,flF,hgl]; try exact rfl) ?_
     | refine r_alloc ?_
     | refine r_st (cs' := _) (by simp (disch:=first|decide|(simp only[zF,zG,hgl];decide)) only [zA,zB,zC,zD,zE,zF,zG,zH,zI,zJ,zK,HV.cells,fl0,fl2,flS,flS1,flI1,flU1,flU2,flF,hgl]; try exact rfl) (by simp (disch:=first|decide|(simp only[zF,zG,hgl];decide)) only [zA,zB,zC,zD,zE,zF,zG,zH,zI,zJ,zK,HV.cells,fl0,fl2,flS,flS1,flI1,flU1,flU2,flF,hgl]; try exact rfl) (by first|assumption|(simp (disch:=omega) only [get_same,get_other,hgl]; first|done|exact rfl)) (by exact True.intro) (by rfl) (by rfl) (by first|assumption|exact ow2 _ _ _ _|exact ow3 _ _ _ _ _ _|rfl|(simp only [zI,zJ,HV.cells,hgl]; exact rfl)) (by omega) ?_
     | refine r_sub (by simp (disch:=first|decide|(simp only[zF,zG,hgl];decide)) only [zA,zB,zC,zD,zE,zF,zG,zH,zI,zJ,zK,HV.cells,fl0,fl2,flS,flS1,flI1,flU1,flU2,flF,hgl]; try exact rfl) (by simp (disch:=first|decide|(simp only[zF,zG,hgl];decide)) only [zA,zB,zC,zD,zE,zF,zG,zH,zI,zJ,zK,HV.cells,fl0,fl2,flS,flS1,flI1,flU1,flU2,flF,hgl]; try exact rfl) (by omega) (by omega) ?_
     | refine r_eq (by simp (disch:=first|decide|(simp only[zF,zG,hgl];decide)) only [zA,zB,zC,zD,zE,zF,zG,zH,zI,zJ,zK,HV.cells,fl0,fl2,flS,flS1,flI1,flU1,flU2,flF,hgl]; try exact rfl) (by simp (disch:=first|decide|(simp only[zF,zG,hgl];decide)) only [zA,zB,zC,zD,zE,zF,zG,zH,zI,zJ,zK,HV.cells,fl0,fl2,flS,flS1,flI1,flU1,flU2,flF,hgl]; try exact rfl) (fun hc => ?_) (fun hc => ?_) <;> (try (exfalso; omega))
     | refine r_len (by simp (disch:=first|decide|(simp only[zF,zG,hgl];decide)) only [zA,zB,zC,zD,zE,zF,zG,zH,zI,zJ,zK,HV.cells,fl0,fl2,flS,flS1,flI1,flU1,flU2,flF,hgl]; try exact rfl) ?_
     | fail
    have e : thr (l.drop i) r = (r, 0) := by
      have : (l.drop i).length = 1 := by rw [List.length_drop]; omega
      match l.drop i, this with
      | [s], _ => rfl
    rw [e]
    exact fin_m (by simp only [zL,zM]) (res_c (by simp (disch:=first|decide|(simp only[zF,zG];decide)) only [zA,zB,zC,zD,zE,zF,zG,zH,zI,zJ,zK,HV.cells,fl0,fl2,flS,flS1,flI1,flU1,flU2,flF]; try exact rfl) (by first|assumption|(simp (disch:=omega) only [get_same,get_other]; first|done|exact rfl)) rfl (res_t (by simp (disch:=first|decide|(simp only[zF,zG];decide)) only [zA,zB,zC,zD,zE,zF,zG,zH,zI,zJ,zK,HV.cells,fl0,fl2,flS,flS1,flI1,flU1,flU2,flF]; try exact rfl) res_nil)) (sc_flat rfl (by dsimp only; omega) rfl)
  | m + 1, i, fl, h, nx, r, hm, hr, hd, hlb, hpb, hgl, hgp, hrow => by
    have hrow0 := hrow
    obtain ⟨b, o, cs, kk, rfl, hb, hg, hcs⟩ := hrow (by intro e; rw [e] at hm; simp at hm)
    have hy : l[i]? = some l[i] := by simp [show i < l.length by omega]
    have hz : l[i + 1]? = some l[i + 1] := by simp [show i + 1 < l.length by omega]
    have e0 := hcs i _ hy
    have e1 := hcs (i + 1) _ hz
    have s1 := hl _ (List.getElem_mem (show i < l.length by omega))
    have s2 := hl _ (List.getElem_mem (show i + 1 < l.length by omega))
    have ed : l.drop i = l[i] :: l[i + 1] :: l.drop (i + 2) := by rw [List.drop_eq_getElem_cons (show i < l.length by omega), List.drop_eq_getElem_cons (show i + 1 < l.length by omega)]
    have ed1 : l.drop (i + 1) = l[i + 1] :: l.drop (i + 2) := by rw [List.drop_eq_getElem_cons (show i + 1 < l.length by omega)]
    have ei : (i : Int) + 1 = ((i + 1 : Nat) : Int) := rfl
    have cS : ∀ fl h' n', D h' n' → C LW fl 85 [.agg (renc l[i]), .agg (renc l[i + 1]), .agg (renc r)] ⟨h', n'⟩ (Sc (· = .agg (renc (son l[i] l[i + 1] r))) ⟨h', n'⟩) := fun fl h' n' e => c_standOn e s1 s2 hr
    have cL : ∀ fl h' n', C LW fl 64 [.agg (renc (son l[i] l[i + 1] r)), .agg [i64 (-1000000), i64 1000000]] ⟨h', n'⟩ (Sc (· = .bool (decide (ROk (son l[i] l[i + 1] r).1 (son l[i] l[i + 1] r).2))) ⟨h', n'⟩) := fun fl h' n' => by
      have := c_liesIn (fl := fl) (h := h') (nx := n') (a := (son l[i] l[i + 1] r).1) (b := (son l[i] l[i + 1] r).2) (lo := -1000000) (hi := 1000000)
      rwa [show decide ((son l[i] l[i + 1] r).1 ≤ (son l[i] l[i + 1] r).2 ∧ ((-1000000 : Int) ≤ (son l[i] l[i + 1] r).1 ∧ (son l[i] l[i + 1] r).1 ≤ 1000000) ∧ ((-1000000 : Int) ≤ (son l[i] l[i + 1] r).2 ∧ (son l[i] l[i + 1] r).2 ≤ 1000000)) = decide (ROk (son l[i] l[i + 1] r).1 (son l[i] l[i + 1] r).2) by congr 1; unfold ROk; exact propext ⟨fun h => by omega, fun h => by omega⟩] at this
    refine c_in lw84 rfl rfl rfl ?_
    dsimp only [L84]
    by_cases hR : ROk (son l[i] l[i + 1] r).1 (son l[i] l[i + 1] r).2
    · have cL1 : ∀ fl h' n', C LW fl 64 [.agg (renc (son l[i] l[i + 1] r)), .agg [i64 (-1000000), i64 1000000]] ⟨h', n'⟩ (Sc (· = .bool true) ⟨h', n'⟩) := fun fl h' n' => by have := cL fl h' n'; rwa [decide_eq_true hR] at this
      have cP : ∀ fl h' n', Ext h nx h' n' → C LW fl 84 [i64 ((i + 1 : Nat) : Int), .agg (renc (son l[i] l[i + 1] r)), .ptr (some (lb, 0)), .ptr (some (pb, 0))] ⟨h', n'⟩ (Sc (· = .tuple [.agg (renc (thr (l.drop (i + 1)) (son l[i] l[i + 1] r)).1), i64 (thr (l.drop (i + 1)) (son l[i] l[i + 1] r)).2]) ⟨h', n'⟩) := fun fl h' n' e =>
        c_pass hlen hl m (i + 1) (by omega) hR e.d (Nat.lt_of_lt_of_le hlb e.le) (Nat.lt_of_lt_of_le hpb e.le) ((e.same _ hlb).trans hgl) ((e.same _ hpb).trans hgp) (hrow0.ext e)
      have et : thr (l.drop i) r = thr (l.drop (i + 1)) (son l[i] l[i + 1] r) := by rw [ed, ed1]; exact if_pos hR
      rw [et]
      obtain ⟨q, hq⟩ : ∃ x, x = thr (l.drop (i + 1)) (son l[i] l[i + 1] r) := ⟨_, rfl⟩
      rw [← hq] at cP ⊢
      obtain ⟨u, hu⟩ : ∃ x, x = son l[i] l[i + 1] r := ⟨_, rfl⟩
      rw [← hu] at cP cL1 cS
      repeat' first
       | refine r_nil ?_
       | refine th_n ?_
       | refine w_seq ?_
       | refine w_reg ?_
       | refine w_ret ?_
       | refine w_skip ?_
       | refine w_f (by simp (disch:=first|decide|(simp only[zF,zG,hgl, hgp, hg, ei];decide)) only [zA,zB,zC,zD,zE,zF,zG,zH,zI,zJ,zK,HV.cells,fl0,fl2,flS,flS1,flI1,flU1,flU2,flF,hgl, hgp, hg, ei]; first|done|exact rfl) ?_
       | refine r_move (by simp (disch:=first|decide|(simp only[zF,zG,hgl, hgp, hg, ei];decide)) only [zA,zB,zC,zD,zE,zF,zG,zH,zI,zJ,zK,HV.cells,fl0,fl2,flS,flS1,flI1,flU1,flU2,flF,hgl, hgp, hg, ei]; try exact rfl) ?_
       | refine r_ld1 (by simp (disch:=first|decide|(simp only[zF,zG,hgl, hgp, hg, ei];decide)) only [zA,zB,zC,zD,zE,zF,zG,zH,zI,zJ,zK,HV.cells,fl0,fl2,flS,flS1,flI1,flU1,flU2,flF,hgl, hgp, hg, ei]; try exact rfl) (by first|assumption|(simp (disch:=omega) only [get_same,get_other,hgl, hgp, hg, ei]; first|done|exact rfl)) (by first|assumption|exact ow2 _ _ _ _|exact ow3 _ _ _ _ _ _|rfl|(simp only [zI,zJ,HV.cells,hgl, hgp, hg, ei]; exact rfl)) ?_
       | refine r_ldn (by simp (disch:=first|decide|(simp only[zF,zG,hgl, hgp, hg, ei];decide)) only [zA,zB,zC,zD,zE,zF,zG,zH,zI,zJ,zK,HV.cells,fl0,fl2,flS,flS1,flI1,flU1,flU2,flF,hgl, hgp, hg, ei]; try exact rfl) (by first|assumption|(simp (disch:=omega) only [get_same,get_other,hgl, hgp, hg, ei]; first|done|exact rfl)) (by first|assumption|exact ow2 _ _ _ _|exact ow3 _ _ _ _ _ _|rfl|(simp only [zI,zJ,HV.cells,hgl, hgp, hg, ei]; exact rfl)) ?_
       | refine r_box (by simp (disch:=first|decide|(simp only[zF,zG,hgl, hgp, hg, ei];decide)) only [zA,zB,zC,zD,zE,zF,zG,zH,zI,zJ,zK,HV.cells,fl0,fl2,flS,flS1,flI1,flU1,flU2,flF,hgl, hgp, hg, ei]; try exact rfl) ?_
       | refine r_alloc ?_
       | refine r_st (cs' := _) (by simp (disch:=first|decide|(simp only[zF,zG,hgl, hgp, hg, ei];decide)) only [zA,zB,zC,zD,zE,zF,zG,zH,zI,zJ,zK,HV.cells,fl0,fl2,flS,flS1,flI1,flU1,flU2,flF,hgl, hgp, hg, ei]; try exact rfl) (by simp (disch:=first|decide|(simp only[zF,zG,hgl, hgp, hg, ei];decide)) only [zA,zB,zC,zD,zE,zF,zG,zH,zI,zJ,zK,HV.cells,fl0,fl2,flS,flS1,flI1,flU1,flU2,flF,hgl, hgp, hg, ei]; try exact rfl) (by first|assumption|(simp (disch:=omega) only [get_same,get_other,hgl, hgp, hg, ei]; first|done|exact rfl)) (by exact True.intro) (by rfl) (by rfl) (by first|assumption|exact ow2 _ _ _ _|exact ow3 _ _ _ _ _ _|rfl|(simp only [zI,zJ,HV.cells,hgl, hgp, hg, ei]; exact rfl)) (by omega) ?_
       | refine r_add (by simp (disch:=first|decide|(simp only[zF,zG,hgl, hgp, hg, ei];decide)) only [zA,zB,zC,zD,zE,zF,zG,zH,zI,zJ,zK,HV.cells,fl0,fl2,flS,flS1,flI1,flU1,flU2,flF,hgl, hgp, hg, ei]; try exact rfl) (by simp (disch:=first|decide|(simp only[zF,zG,hgl, hgp, hg, ei];decide)) only [zA,zB,zC,zD,zE,zF,zG,zH,zI,zJ,zK,HV.cells,fl0,fl2,flS,flS1,flI1,flU1,flU2,flF,hgl, hgp, hg, ei]; try exact rfl) (by omega) (by omega) ?_
       | refine r_sub (by simp (disch:=first|decide|(simp only[zF,zG,hgl, hgp, hg, ei];decide)) only [zA,zB,zC,zD,zE,zF,zG,zH,zI,zJ,zK,HV.cells,fl0,fl2,flS,flS1,flI1,flU1,flU2,flF,hgl, hgp, hg, ei]; try exact rfl) (by simp (disch:=first|decide|(simp only[zF,zG,hgl, hgp, hg, ei];decide)) only [zA,zB,zC,zD,zE,zF,zG,zH,zI,zJ,zK,HV.cells,fl0,fl2,flS,flS1,flI1,flU1,flU2,flF,hgl, hgp, hg, ei]; try exact rfl) (by omega) (by omega) ?_
       | refine r_eq (by simp (disch:=first|decide|(simp only[zF,zG,hgl, hgp, hg, ei];decide)) only [zA,zB,zC,zD,zE,zF,zG,zH,zI,zJ,zK,HV.cells,fl0,fl2,flS,flS1,flI1,flU1,flU2,flF,hgl, hgp, hg, ei]; try exact rfl) (by simp (disch:=first|decide|(simp only[zF,zG,hgl, hgp, hg, ei];decide)) only [zA,zB,zC,zD,zE,zF,zG,zH,zI,zJ,zK,HV.cells,fl0,fl2,flS,flS1,flI1,flU1,flU2,flF,hgl, hgp, hg, ei]; try exact rfl) (fun hc => ?_) (fun hc => ?_) <;> (try (exfalso; omega))
       | refine r_not1 (by simp (disch:=first|decide|(simp only[zF,zG,hgl, hgp, hg, ei];decide)) only [zA,zB,zC,zD,zE,zF,zG,zH,zI,zJ,zK,HV.cells,fl0,fl2,flS,flS1,flI1,flU1,flU2,flF,hgl, hgp, hg, ei]; try exact rfl) ?_
       | refine r_len (by simp (disch:=first|decide|(simp only[zF,zG,hgl, hgp, hg, ei];decide)) only [zA,zB,zC,zD,zE,zF,zG,zH,zI,zJ,zK,HV.cells,fl0,fl2,flS,flS1,flI1,flU1,flU2,flF,hgl, hgp, hg, ei]; try exact rfl) ?_
       | refine r_ixs (by simp (disch:=first|decide|(simp only[zF,zG,hgl, hgp, hg, ei];decide)) only [zA,zB,zC,zD,zE,zF,zG,zH,zI,zJ,zK,HV.cells,fl0,fl2,flS,flS1,flI1,flU1,flU2,flF,hgl, hgp, hg, ei]; try exact rfl) (by simp (disch:=first|decide|(simp only[zF,zG,hgl, hgp, hg, ei];decide)) only [zA,zB,zC,zD,zE,zF,zG,zH,zI,zJ,zK,HV.cells,fl0,fl2,flS,flS1,flI1,flU1,flU2,flF,hgl, hgp, hg, ei]; try exact rfl) (by omega) ?_
       | refine r_ext (by simp (disch:=first|decide|(simp only[zF,zG,hgl, hgp, hg, ei];decide)) only [zA,zB,zC,zD,zE,zF,zG,zH,zI,zJ,zK,HV.cells,fl0,fl2,flS,flS1,flI1,flU1,flU2,flF,hgl, hgp, hg, ei]; try exact rfl) (by first|assumption|exact ow2 _ _ _ _|exact ow3 _ _ _ _ _ _|rfl|(simp only [zI,zJ,HV.cells,hgl, hgp, hg, ei]; exact rfl)) ?_
       | refine r_calls (by simp (disch:=first|decide|(simp only[zF,zG,hgl, hgp, hg, ei];decide)) only [zA,zB,zC,zD,zE,zF,zG,zH,zI,zJ,zK,HV.cells,fl0,fl2,flS,flS1,flI1,flU1,flU2,flF,hgl, hgp, hg, ei]; try exact rfl) (by simp (disch:=first|decide|(simp only[zF,zG,hgl, hgp, hg, ei];decide)) only [List.map_cons,List.map_nil,List.nil_append,List.cons_append,List.append_nil,zA,zB,zC,zD,zE,zF,zG,zH,zI,zJ,zK,HV.cells,fl0,fl2,flS,flS1,flI1,flU1,flU2,flF,hgl, hgp, hg, ei]; first|done|exact rfl) (cS _ _ _ (by (repeat' first|assumption|refine D.upd ?_ (by omega)|exact D.mono (by assumption) (by omega)) <;> fail)) (fun n' hn' => ?_)
       | refine r_calls (by simp (disch:=first|decide|(simp only[zF,zG,hgl, hgp, hg, ei];decide)) only [zA,zB,zC,zD,zE,zF,zG,zH,zI,zJ,zK,HV.cells,fl0,fl2,flS,flS1,flI1,flU1,flU2,flF,hgl, hgp, hg, ei]; try exact rfl) (by simp (disch:=first|decide|(simp only[zF,zG,hgl, hgp, hg, ei];decide)) only [List.map_cons,List.map_nil,List.nil_append,List.cons_append,List.append_nil,zA,zB,zC,zD,zE,zF,zG,zH,zI,zJ,zK,HV.cells,fl0,fl2,flS,flS1,flI1,flU1,flU2,flF,hgl, hgp, hg, ei]; first|done|exact rfl) c_bor (fun n' hn' => ?_)
       | refine r_calls (by simp (disch:=first|decide|(simp only[zF,zG,hgl, hgp, hg, ei];decide)) only [zA,zB,zC,zD,zE,zF,zG,zH,zI,zJ,zK,HV.cells,fl0,fl2,flS,flS1,flI1,flU1,flU2,flF,hgl, hgp, hg, ei]; try exact rfl) (by simp (disch:=first|decide|(simp only[zF,zG,hgl, hgp, hg, ei];decide)) only [List.map_cons,List.map_nil,List.nil_append,List.cons_append,List.append_nil,zA,zB,zC,zD,zE,zF,zG,zH,zI,zJ,zK,HV.cells,fl0,fl2,flS,flS1,flI1,flU1,flU2,flF,hgl, hgp, hg, ei]; first|done|exact rfl) (cL1 _ _ _) (fun n' hn' => ?_)
       | refine r_calls (by simp (disch:=first|decide|(simp only[zF,zG,hgl, hgp, hg, ei];decide)) only [zA,zB,zC,zD,zE,zF,zG,zH,zI,zJ,zK,HV.cells,fl0,fl2,flS,flS1,flI1,flU1,flU2,flF,hgl, hgp, hg, ei]; try exact rfl) (by simp (disch:=first|decide|(simp only[zF,zG,hgl, hgp, hg, ei];decide)) only [List.map_cons,List.map_nil,List.nil_append,List.cons_append,List.append_nil,zA,zB,zC,zD,zE,zF,zG,zH,zI,zJ,zK,HV.cells,fl0,fl2,flS,flS1,flI1,flU1,flU2,flF,hgl, hgp, hg, ei]; first|done|exact rfl) (cP _ _ _ (by repeat' first|assumption|refine Ext.put ?_ (by omega) (by omega)|exact Ext.up (by assumption) (by omega)|exact Ext.nx (by assumption) (by omega))) (fun n' hn' => ?_)
       | refine w_draw (by omega) (by (repeat' first|assumption|refine D.upd ?_ (by omega)|exact D.mono (by assumption) (by omega)) <;> fail) ?_
       | refine d_rest rfl ?_
       | refine d_alloc rfl ?_
       | refine d_one rfl ?_
       | refine d_next (by omega) ?_
       | refine d_laid ?_
       | fail
      exact fin_m (by simp only [zL,zM]) (res_c (by simp (disch:=first|decide|(simp only[zF,zG];decide)) only [zA,zB,zC,zD,zE,zF,zG,zH,zI,zJ,zK,HV.cells,fl0,fl2,flS,flS1,flI1,flU1,flU2,flF]; try exact rfl) (by first|assumption|(simp (disch:=omega) only [get_same,get_other]; first|done|exact rfl)) rfl (res_t (by simp (disch:=first|decide|(simp only[zF,zG];decide)) only [zA,zB,zC,zD,zE,zF,zG,zH,zI,zJ,zK,HV.cells,fl0,fl2,flS,flS1,flI1,flU1,flU2,flF]; try exact rfl) res_nil)) (sc_flat rfl (by dsimp only; omega) rfl)
    · have cL1 : ∀ fl h' n', C LW fl 64 [.agg (renc (son l[i] l[i + 1] r)), .agg [i64 (-1000000), i64 1000000]] ⟨h', n'⟩ (Sc (· = .bool false) ⟨h', n'⟩) := fun fl h' n' => by have := cL fl h' n'; rwa [decide_eq_false hR] at this
      have et : thr (l.drop i) r = ((0, 0), 10) := by rw [ed]; exact if_neg hR
      rw [et]
      obtain ⟨u, hu⟩ : ∃ x, x = son l[i] l[i + 1] r := ⟨_, rfl⟩
      rw [← hu] at cL1 cS
      repeat' first
       | refine r_nil ?_
       | refine th_n ?_
       | refine th_r ?_
       | refine w_seq ?_
       | refine w_reg ?_
       | refine w_ret ?_
       | refine w_skip ?_
       | refine w_t (by simp (disch:=first|decide|(simp only[zF,zG,hgl, hgp, hg, ei];decide)) only [zA,zB,zC,zD,zE,zF,zG,zH,zI,zJ,zK,HV.cells,fl0,fl2,flS,flS1,flI1,flU1,flU2,flF,hgl, hgp, hg, ei]; first|done|exact rfl) ?_
       | refine w_f (by simp (disch:=first|decide|(simp only[zF,zG,hgl, hgp, hg, ei];decide)) only [zA,zB,zC,zD,zE,zF,zG,zH,zI,zJ,zK,HV.cells,fl0,fl2,flS,flS1,flI1,flU1,flU2,flF,hgl, hgp, hg, ei]; first|done|exact rfl) ?_
       | refine r_move (by simp (disch:=first|decide|(simp only[zF,zG,hgl, hgp, hg, ei];decide)) only [zA,zB,zC,zD,zE,zF,zG,zH,zI,zJ,zK,HV.cells,fl0,fl2,flS,flS1,flI1,flU1,flU2,flF,hgl, hgp, hg, ei]; try exact rfl) ?_
       | refine r_ld1 (by simp (disch:=first|decide|(simp only[zF,zG,hgl, hgp, hg, ei];decide)) only [zA,zB,zC,zD,zE,zF,zG,zH,zI,zJ,zK,HV.cells,fl0,fl2,flS,flS1,flI1,flU1,flU2,flF,hgl, hgp, hg, ei]; try exact rfl) (by first|assumption|(simp (disch:=omega) only [get_same,get_other,hgl, hgp, hg, ei]; first|done|exact rfl)) (by first|assumption|exact ow2 _ _ _ _|exact ow3 _ _ _ _ _ _|rfl|(simp only [zI,zJ,HV.cells,hgl, hgp, hg, ei]; exact rfl)) ?_
       | refine r_ldn (by simp (disch:=first|decide|(simp only[zF,zG,hgl, hgp, hg, ei];decide)) only [zA,zB,zC,zD,zE,zF,zG,zH,zI,zJ,zK,HV.cells,fl0,fl2,flS,flS1,flI1,flU1,flU2,flF,hgl, hgp, hg, ei]; try exact rfl) (by first|assumption|(simp (disch:=omega) only [get_same,get_other,hgl, hgp, hg, ei]; first|done|exact rfl)) (by first|assumption|exact ow2 _ _ _ _|exact ow3 _ _ _ _ _ _|rfl|(simp only [zI,zJ,HV.cells,hgl, hgp, hg, ei]; exact rfl)) ?_
       | refine r_box (by simp (disch:=first|decide|(simp only[zF,zG,hgl, hgp, hg, ei];decide)) only [zA,zB,zC,zD,zE,zF,zG,zH,zI,zJ,zK,HV.cells,fl0,fl2,flS,flS1,flI1,flU1,flU2,flF,hgl, hgp, hg, ei]; try exact rfl) ?_
       | refine r_alloc ?_
       | refine r_st (cs' := _) (by simp (disch:=first|decide|(simp only[zF,zG,hgl, hgp, hg, ei];decide)) only [zA,zB,zC,zD,zE,zF,zG,zH,zI,zJ,zK,HV.cells,fl0,fl2,flS,flS1,flI1,flU1,flU2,flF,hgl, hgp, hg, ei]; try exact rfl) (by simp (disch:=first|decide|(simp only[zF,zG,hgl, hgp, hg, ei];decide)) only [zA,zB,zC,zD,zE,zF,zG,zH,zI,zJ,zK,HV.cells,fl0,fl2,flS,flS1,flI1,flU1,flU2,flF,hgl, hgp, hg, ei]; try exact rfl) (by first|assumption|(simp (disch:=omega) only [get_same,get_other,hgl, hgp, hg, ei]; first|done|exact rfl)) (by exact True.intro) (by rfl) (by rfl) (by first|assumption|exact ow2 _ _ _ _|exact ow3 _ _ _ _ _ _|rfl|(simp only [zI,zJ,HV.cells,hgl, hgp, hg, ei]; exact rfl)) (by omega) ?_
       | refine r_add (by simp (disch:=first|decide|(simp only[zF,zG,hgl, hgp, hg, ei];decide)) only [zA,zB,zC,zD,zE,zF,zG,zH,zI,zJ,zK,HV.cells,fl0,fl2,flS,flS1,flI1,flU1,flU2,flF,hgl, hgp, hg, ei]; try exact rfl) (by simp (disch:=first|decide|(simp only[zF,zG,hgl, hgp, hg, ei];decide)) only [zA,zB,zC,zD,zE,zF,zG,zH,zI,zJ,zK,HV.cells,fl0,fl2,flS,flS1,flI1,flU1,flU2,flF,hgl, hgp, hg, ei]; try exact rfl) (by omega) (by omega) ?_
       | refine r_sub (by simp (disch:=first|decide|(simp only[zF,zG,hgl, hgp, hg, ei];decide)) only [zA,zB,zC,zD,zE,zF,zG,zH,zI,zJ,zK,HV.cells,fl0,fl2,flS,flS1,flI1,flU1,flU2,flF,hgl, hgp, hg, ei]; try exact rfl) (by simp (disch:=first|decide|(simp only[zF,zG,hgl, hgp, hg, ei];decide)) only [zA,zB,zC,zD,zE,zF,zG,zH,zI,zJ,zK,HV.cells,fl0,fl2,flS,flS1,flI1,flU1,flU2,flF,hgl, hgp, hg, ei]; try exact rfl) (by omega) (by omega) ?_
       | refine r_eq (by simp (disch:=first|decide|(simp only[zF,zG,hgl, hgp, hg, ei];decide)) only [zA,zB,zC,zD,zE,zF,zG,zH,zI,zJ,zK,HV.cells,fl0,fl2,flS,flS1,flI1,flU1,flU2,flF,hgl, hgp, hg, ei]; try exact rfl) (by simp (disch:=first|decide|(simp only[zF,zG,hgl, hgp, hg, ei];decide)) only [zA,zB,zC,zD,zE,zF,zG,zH,zI,zJ,zK,HV.cells,fl0,fl2,flS,flS1,flI1,flU1,flU2,flF,hgl, hgp, hg, ei]; try exact rfl) (fun hc => ?_) (fun hc => ?_) <;> (try (exfalso; omega))
       | refine r_not1 (by simp (disch:=first|decide|(simp only[zF,zG,hgl, hgp, hg, ei];decide)) only [zA,zB,zC,zD,zE,zF,zG,zH,zI,zJ,zK,HV.cells,fl0,fl2,flS,flS1,flI1,flU1,flU2,flF,hgl, hgp, hg, ei]; try exact rfl) ?_
       | refine r_len (by simp (disch:=first|decide|(simp only[zF,zG,hgl, hgp, hg, ei];decide)) only [zA,zB,zC,zD,zE,zF,zG,zH,zI,zJ,zK,HV.cells,fl0,fl2,flS,flS1,flI1,flU1,flU2,flF,hgl, hgp, hg, ei]; try exact rfl) ?_
       | refine r_ixs (by simp (disch:=first|decide|(simp only[zF,zG,hgl, hgp, hg, ei];decide)) only [zA,zB,zC,zD,zE,zF,zG,zH,zI,zJ,zK,HV.cells,fl0,fl2,flS,flS1,flI1,flU1,flU2,flF,hgl, hgp, hg, ei]; try exact rfl) (by simp (disch:=first|decide|(simp only[zF,zG,hgl, hgp, hg, ei];decide)) only [zA,zB,zC,zD,zE,zF,zG,zH,zI,zJ,zK,HV.cells,fl0,fl2,flS,flS1,flI1,flU1,flU2,flF,hgl, hgp, hg, ei]; try exact rfl) (by omega) ?_
       | refine r_build (by simp (disch:=first|decide|(simp only[zF,zG,hgl, hgp, hg, ei];decide)) only [evParts,List.map_cons,List.map_nil,List.nil_append,List.cons_append,List.append_nil,zA,zB,zC,zD,zE,zF,zG,zH,zI,zJ,zK,HV.cells,fl0,fl2,flS,flS1,flI1,flU1,flU2,flF,hgl, hgp, hg, ei]; try exact rfl) ?_
       | refine r_calls (by simp (disch:=first|decide|(simp only[zF,zG,hgl, hgp, hg, ei];decide)) only [zA,zB,zC,zD,zE,zF,zG,zH,zI,zJ,zK,HV.cells,fl0,fl2,flS,flS1,flI1,flU1,flU2,flF,hgl, hgp, hg, ei]; try exact rfl) (by simp (disch:=first|decide|(simp only[zF,zG,hgl, hgp, hg, ei];decide)) only [List.map_cons,List.map_nil,List.nil_append,List.cons_append,List.append_nil,zA,zB,zC,zD,zE,zF,zG,zH,zI,zJ,zK,HV.cells,fl0,fl2,flS,flS1,flI1,flU1,flU2,flF,hgl, hgp, hg, ei]; first|done|exact rfl) (cS _ _ _ (by (repeat' first|assumption|refine D.upd ?_ (by omega)|exact D.mono (by assumption) (by omega)) <;> fail)) (fun n' hn' => ?_)
       | refine r_calls (by simp (disch:=first|decide|(simp only[zF,zG,hgl, hgp, hg, ei];decide)) only [zA,zB,zC,zD,zE,zF,zG,zH,zI,zJ,zK,HV.cells,fl0,fl2,flS,flS1,flI1,flU1,flU2,flF,hgl, hgp, hg, ei]; try exact rfl) (by simp (disch:=first|decide|(simp only[zF,zG,hgl, hgp, hg, ei];decide)) only [List.map_cons,List.map_nil,List.nil_append,List.cons_append,List.append_nil,zA,zB,zC,zD,zE,zF,zG,zH,zI,zJ,zK,HV.cells,fl0,fl2,flS,flS1,flI1,flU1,flU2,flF,hgl, hgp, hg, ei]; first|done|exact rfl) c_bor (fun n' hn' => ?_)
       | refine r_calls (by simp (disch:=first|decide|(simp only[zF,zG,hgl, hgp, hg, ei];decide)) only [zA,zB,zC,zD,zE,zF,zG,zH,zI,zJ,zK,HV.cells,fl0,fl2,flS,flS1,flI1,flU1,flU2,flF,hgl, hgp, hg, ei]; try exact rfl) (by simp (disch:=first|decide|(simp only[zF,zG,hgl, hgp, hg, ei];decide)) only [List.map_cons,List.map_nil,List.nil_append,List.cons_append,List.append_nil,zA,zB,zC,zD,zE,zF,zG,zH,zI,zJ,zK,HV.cells,fl0,fl2,flS,flS1,flI1,flU1,flU2,flF,hgl, hgp, hg, ei]; first|done|exact rfl) (cL1 _ _ _) (fun n' hn' => ?_)
       | refine w_draw (by omega) (by (repeat' first|assumption|refine D.upd ?_ (by omega)|exact D.mono (by assumption) (by omega)) <;> fail) ?_
       | refine d_rest rfl ?_
       | refine d_alloc rfl ?_
       | refine d_one rfl ?_
       | refine d_next (by omega) ?_
       | refine d_laid ?_
       | fail
      exact fin_m (by simp only [zL,zM]) (res_c (by simp (disch:=first|decide|(simp only[zF,zG];decide)) only [zA,zB,zC,zD,zE,zF,zG,zH,zI,zJ,zK,HV.cells,fl0,fl2,flS,flS1,flI1,flU1,flU2,flF]; try exact rfl) (by first|assumption|(simp (disch:=omega) only [get_same,get_other]; first|done|exact rfl)) rfl (res_t (by simp (disch:=first|decide|(simp only[zF,zG];decide)) only [zA,zB,zC,zD,zE,zF,zG,zH,zI,zJ,zK,HV.cells,fl0,fl2,flS,flS1,flI1,flU1,flU2,flF]; try exact rfl) res_nil)) (sc_flat rfl (by dsimp only; omega) rfl)
/- 60 -/
theorem c_through {fl : Nat} {h : Tr HBlk} {nx : Nat} (hd : D h nx) {p : Option (Nat × Nat)} {l : List (Int × Int)} {r : Int × Int} {n cp : Nat} (hn : n = l.length) (hlen : l.length ≤ 8) (h0 : l.length ≠ 0) (hl : LOk l) (hr : ROk r.1 r.2) (hrow : Row renc 2 h nx p l) :
    C LW fl 60 [.slice p n cp, .agg (renc r)] ⟨h, nx⟩ (Sc (· = .tuple [.agg (renc (thr l r).1), i64 (thr l r).2]) ⟨h, nx⟩) := by
  subst hn
  refine c_in lw60 rfl rfl rfl ?_
  dsimp only [L60]
  repeat' first
   | refine r_nil ?_
   | refine th_n ?_
   | refine w_seq ?_
   | refine w_reg ?_
   | refine r_move (by simp (disch:=first|decide|(simp only[zF,zG];decide)) only [zA,zB,zC,zD,zE,zF,zG,zH,zI,zJ,zK,HV.cells,fl0,fl2,flS,flS1,flI1,flU1,flU2,flF]; try exact rfl) ?_
   | refine r_ld1 (by simp (disch:=first|decide|(simp only[zF,zG];decide)) only [zA,zB,zC,zD,zE,zF,zG,zH,zI,zJ,zK,HV.cells,fl0,fl2,flS,flS1,flI1,flU1,flU2,flF]; try exact rfl) (by first|assumption|(simp (disch:=omega) only [get_same,get_other]; first|done|exact rfl)) (by first|assumption|exact ow2 _ _ _ _|exact ow3 _ _ _ _ _ _|rfl|(simp only [zI,zJ,HV.cells]; exact rfl)) ?_
   | refine r_ldn (by simp (disch:=first|decide|(simp only[zF,zG];decide)) only [zA,zB,zC,zD,zE,zF,zG,zH,zI,zJ,zK,HV.cells,fl0,fl2,flS,flS1,flI1,flU1,flU2,flF]; try exact rfl) (by first|assumption|(simp (disch:=omega) only [get_same,get_other]; first|done|exact rfl)) (by first|assumption|exact ow2 _ _ _ _|exact ow3 _ _ _ _ _ _|rfl|(simp only [zI,zJ,HV.cells]; exact rfl)) ?_
   | refine r_box (by simp (disch:=first|decide|(simp only[zF,zG];decide)) only [zA,zB,zC,zD,zE,zF,zG,zH,zI,zJ,zK,HV.cells,fl0,fl2,flS,flS1,flI1,flU1,flU2,flF]; try exact rfl) ?_
   | refine r_alloc ?_
   | refine r_st (cs' := _) (by simp (disch:=first|decide|(simp only[zF,zG];decide)) only [zA,zB,zC,zD,zE,zF,zG,zH,zI,zJ,zK,HV.cells,fl0,fl2,flS,flS1,flI1,flU1,flU2,flF]; try exact rfl) (by simp (disch:=first|decide|(simp only[zF,zG];decide)) only [zA,zB,zC,zD,zE,zF,zG,zH,zI,zJ,zK,HV.cells,fl0,fl2,flS,flS1,flI1,flU1,flU2,flF]; try exact rfl) (by first|assumption|(simp (disch:=omega) only [get_same,get_other]; first|done|exact rfl)) (by exact True.intro) (by rfl) (by rfl) (by first|assumption|exact ow2 _ _ _ _|exact ow3 _ _ _ _ _ _|rfl|(simp only [zI,zJ,HV.cells]; exact rfl)) (by omega) ?_
   | refine r_mf (by simp (disch:=first|decide|(simp only[zF,zG];decide)) only [List.map_cons,List.map_nil,List.nil_append,List.cons_append,List.append_nil,zA,zB,zC,zD,zE,zF,zG,zH,zI,zJ,zK,HV.cells,fl0,fl2,flS,flS1,flI1,flU1,flU2,flF]; first|done|exact rfl) (by simp (disch:=first|decide|(simp only[zF,zG];decide)) only [List.map_cons,List.map_nil,List.nil_append,List.cons_append,List.append_nil,zA,zB,zC,zD,zE,zF,zG,zH,zI,zJ,zK,HV.cells,fl0,fl2,flS,flS1,flI1,flU1,flU2,flF]; first|done|exact rfl) ?_
   | fail
  refine r_calls (by simp (disch:=first|decide|(simp only[zF,zG];decide)) only [zA,zB,zC,zD,zE,zF,zG,zH,zI,zJ,zK,HV.cells,fl0,fl2,flS,flS1,flI1,flU1,flU2,flF]; try exact rfl) (by simp (disch:=first|decide|(simp only[zF,zG];decide)) only [List.map_cons,List.map_nil,List.nil_append,List.cons_append,List.append_nil,zA,zB,zC,zD,zE,zF,zG,zH,zI,zJ,zK,HV.cells,fl0,fl2,flS,flS1,flI1,flU1,flU2,flF]; try exact rfl) (c_pass (lb := nx) (pb := nx + 1 + 1 + 1) (p := p) (cp := cp) (r := r) hlen hl (l.length - 1) 0 (by omega) hr (by (repeat' first|assumption|refine D.upd ?_ (by omega)|exact D.mono (by assumption) (by omega)) <;> fail) (by omega) (by omega) (by first|assumption|(simp (disch:=omega) only [get_same,get_other]; first|done|exact rfl)) (by first|assumption|(simp (disch:=omega) only [get_same,get_other]; first|done|exact rfl)) (hrow.ext (by repeat' first|assumption|refine Ext.put ?_ (by omega) (by omega)|exact Ext.up (by assumption) (by omega)|exact Ext.nx (by assumption) (by omega)))) (fun n' hn' => ?_)
  rw [List.drop_zero]
  obtain ⟨q, hq⟩ : ∃ x, x = thr l r := ⟨_, rfl⟩
  rw [← hq]
  repeat' first
   | refine r_nil ?_
   | refine th_n ?_
   | refine w_ret ?_
   | refine r_move (by simp (disch:=first|decide|(simp only[zF,zG];decide)) only [zA,zB,zC,zD,zE,zF,zG,zH,zI,zJ,zK,HV.cells,fl0,fl2,flS,flS1,flI1,flU1,flU2,flF]; try exact rfl) ?_
   | refine r_st (cs' := _) (by simp (disch:=first|decide|(simp only[zF,zG];decide)) only [zA,zB,zC,zD,zE,zF,zG,zH,zI,zJ,zK,HV.cells,fl0,fl2,flS,flS1,flI1,flU1,flU2,flF]; try exact rfl) (by simp (disch:=first|decide|(simp only[zF,zG];decide)) only [zA,zB,zC,zD,zE,zF,zG,zH,zI,zJ,zK,HV.cells,fl0,fl2,flS,flS1,flI1,flU1,flU2,flF]; try exact rfl) (by first|assumption|(simp (disch:=omega) only [get_same,get_other]; first|done|exact rfl)) (by exact True.intro) (by rfl) (by rfl) (by first|assumption|exact ow2 _ _ _ _|exact ow3 _ _ _ _ _ _|rfl|(simp only [zI,zJ,HV.cells]; exact rfl)) (by omega) ?_
   | refine r_ext (by simp (disch:=first|decide|(simp only[zF,zG];decide)) only [zA,zB,zC,zD,zE,zF,zG,zH,zI,zJ,zK,HV.cells,fl0,fl2,flS,flS1,flI1,flU1,flU2,flF]; try exact rfl) (by first|assumption|exact ow2 _ _ _ _|exact ow3 _ _ _ _ _ _|rfl|(simp only [zI,zJ,HV.cells]; exact rfl)) ?_
   | fail
  exact fin_m (by simp only [zL,zM]) (res_c (by simp (disch:=first|decide|(simp only[zF,zG];decide)) only [zA,zB,zC,zD,zE,zF,zG,zH,zI,zJ,zK,HV.cells,fl0,fl2,flS,flS1,flI1,flU1,flU2,flF]; try exact rfl) (by first|assumption|(simp (disch:=omega) only [get_same,get_other]; first|done|exact rfl)) rfl (res_t (by simp (disch:=first|decide|(simp only[zF,zG];decide)) only [zA,zB,zC,zD,zE,zF,zG,zH,zI,zJ,zK,HV.cells,fl0,fl2,flS,flS1,flI1,flU1,flU2,flF]; try exact rfl) res_nil)) (sc_flat rfl (by dsimp only; omega) rfl)
def thrE (l : List (Int × Int)) (r : Int × Int) : (Int × Int) × Int := if chkR l r = 0 then thr l r else ((0, 0), chkR l r)
theorem chk_zero {l : List (Int × Int)} {r : Int × Int} (h : chkR l r = 0) : l.length ≤ 8 ∧ LOk l ∧ l.length ≠ 0 ∧ ROk r.1 r.2 := by
  unfold chkR chkS at h
  by_cases h1 : l.length ≤ 8
  · by_cases h2 : LOk l
    · rw [if_pos h1, if_pos h2, if_pos rfl] at h
      by_cases h3 : l.length = 0
      · rw [if_pos h3] at h; omega
      · rw [if_neg h3] at h
        by_cases h4 : ROk r.1 r.2
        · exact ⟨h1, h2, h3, h4⟩
        · rw [if_neg h4] at h; omega
    · rw [if_pos h1, if_neg h2, if_neg (by decide)] at h; omega
  · rw [if_neg h1, if_neg (by decide)] at h; omega
/- 24 -/
theorem c_Through {fl : Nat} {h : Tr HBlk} {nx : Nat} (hd : D h nx) {p : Option (Nat × Nat)} {l : List (Int × Int)} {r : Int × Int} {n cp : Nat} (hn : n = l.length) (hlen : l.length < 1000000000) (hrow : Row renc 2 h nx p l) :
    C LW fl 24 [.slice p n cp, .agg (renc r)] ⟨h, nx⟩ (Sc (· = .tuple [.agg (renc (thrE l r).1), i64 (thrE l r).2]) ⟨h, nx⟩) := by
  subst hn
  have cA : ∀ fl h' n', Ext h nx h' n' → C LW fl 53 [.agg (renc r), .slice p l.length cp] ⟨h', n'⟩ (Sc (· = i64 (chkR l r)) ⟨h', n'⟩) := fun fl h' n' e => c_checkReadings e.d rfl hlen (hrow.ext e)
  refine c_in lw24 rfl rfl rfl ?_
  dsimp only [L24]
  by_cases hc : chkR l r = 0
  · obtain ⟨g1, g2, g3, g4⟩ := chk_zero hc
    have cB : ∀ fl h' n', Ext h nx h' n' → C LW fl 60 [.slice p l.length cp, .agg (renc r)] ⟨h', n'⟩ (Sc (· = .tuple [.agg (renc (thr l r).1), i64 (thr l r).2]) ⟨h', n'⟩) := fun fl h' n' e => c_through e.d rfl g1 g3 g2 g4 (hrow.ext e)
    rw [show thrE l r = thr l r from if_pos hc]
    obtain ⟨q, hq⟩ : ∃ x, x = thr l r := ⟨_, rfl⟩
    rw [← hq] at cB ⊢
    repeat' first
     | refine r_nil ?_
     | refine th_n ?_
     | refine w_seq ?_
     | refine w_reg ?_
     | refine w_ret ?_
     | refine w_skip ?_
     | refine w_f (by simp (disch:=first|decide|(simp only[zF,zG];decide)) only [zA,zB,zC,zD,zE,zF,zG,zH,zI,zJ,zK,HV.cells,fl0,fl2,flS,flS1,flI1,flU1,flU2,flF]; first|done|exact rfl) ?_
     | refine r_move (by simp (disch:=first|decide|(simp only[zF,zG];decide)) only [zA,zB,zC,zD,zE,zF,zG,zH,zI,zJ,zK,HV.cells,fl0,fl2,flS,flS1,flI1,flU1,flU2,flF]; try exact rfl) ?_
     | refine r_ldn (by simp (disch:=first|decide|(simp only[zF,zG];decide)) only [zA,zB,zC,zD,zE,zF,zG,zH,zI,zJ,zK,HV.cells,fl0,fl2,flS,flS1,flI1,flU1,flU2,flF]; try exact rfl) (by first|assumption|(simp (disch:=omega) only [get_same,get_other]; first|done|exact rfl)) (by first|assumption|exact ow2 _ _ _ _|exact ow3 _ _ _ _ _ _|rfl|(simp only [zI,zJ,HV.cells]; exact rfl)) ?_
     | refine r_box (by simp (disch:=first|decide|(simp only[zF,zG];decide)) only [zA,zB,zC,zD,zE,zF,zG,zH,zI,zJ,zK,HV.cells,fl0,fl2,flS,flS1,flI1,flU1,flU2,flF]; try exact rfl) ?_
     | refine r_alloc ?_
     | refine r_st (cs' := _) (by simp (disch:=first|decide|(simp only[zF,zG];decide)) only [zA,zB,zC,zD,zE,zF,zG,zH,zI,zJ,zK,HV.cells,fl0,fl2,flS,flS1,flI1,flU1,flU2,flF]; try exact rfl) (by simp (disch:=first|decide|(simp only[zF,zG];decide)) only [zA,zB,zC,zD,zE,zF,zG,zH,zI,zJ,zK,HV.cells,fl0,fl2,flS,flS1,flI1,flU1,flU2,flF]; try exact rfl) (by first|assumption|(simp (disch:=omega) only [get_same,get_other]; first|done|exact rfl)) (by exact True.intro) (by rfl) (by rfl) (by first|assumption|exact ow2 _ _ _ _|exact ow3 _ _ _ _ _ _|rfl|(simp only [zI,zJ,HV.cells]; exact rfl)) (by omega) ?_
     | refine r_ne (by simp (disch:=first|decide|(simp only[zF,zG];decide)) only [zA,zB,zC,zD,zE,zF,zG,zH,zI,zJ,zK,HV.cells,fl0,fl2,flS,flS1,flI1,flU1,flU2,flF]; try exact rfl) (by simp (disch:=first|decide|(simp only[zF,zG];decide)) only [zA,zB,zC,zD,zE,zF,zG,zH,zI,zJ,zK,HV.cells,fl0,fl2,flS,flS1,flI1,flU1,flU2,flF]; try exact rfl) (fun hc => ?_) (fun hc => ?_) <;> (try (exfalso; omega))
     | refine r_ext (by simp (disch:=first|decide|(simp only[zF,zG];decide)) only [zA,zB,zC,zD,zE,zF,zG,zH,zI,zJ,zK,HV.cells,fl0,fl2,flS,flS1,flI1,flU1,flU2,flF]; try exact rfl) (by first|assumption|exact ow2 _ _ _ _|exact ow3 _ _ _ _ _ _|rfl|(simp only [zI,zJ,HV.cells]; exact rfl)) ?_
     | refine r_calls (by simp (disch:=first|decide|(simp only[zF,zG];decide)) only [zA,zB,zC,zD,zE,zF,zG,zH,zI,zJ,zK,HV.cells,fl0,fl2,flS,flS1,flI1,flU1,flU2,flF]; try exact rfl) (by simp (disch:=first|decide|(simp only[zF,zG];decide)) only [List.map_cons,List.map_nil,List.nil_append,List.cons_append,List.append_nil,zA,zB,zC,zD,zE,zF,zG,zH,zI,zJ,zK,HV.cells,fl0,fl2,flS,flS1,flI1,flU1,flU2,flF]; first|done|exact rfl) (cA _ _ _ (by repeat' first|assumption|refine Ext.put ?_ (by omega) (by omega)|exact Ext.up (by assumption) (by omega)|exact Ext.nx (by assumption) (by omega))) (fun n' hn' => ?_)
     | refine r_calls (by simp (disch:=first|decide|(simp only[zF,zG];decide)) only [zA,zB,zC,zD,zE,zF,zG,zH,zI,zJ,zK,HV.cells,fl0,fl2,flS,flS1,flI1,flU1,flU2,flF]; try exact rfl) (by simp (disch:=first|decide|(simp only[zF,zG];decide)) only [List.map_cons,List.map_nil,List.nil_append,List.cons_append,List.append_nil,zA,zB,zC,zD,zE,zF,zG,zH,zI,zJ,zK,HV.cells,fl0,fl2,flS,flS1,flI1,flU1,flU2,flF]; first|done|exact rfl) (cB _ _ _ (by repeat' first|assumption|refine Ext.put ?_ (by omega) (by omega)|exact Ext.up (by assumption) (by omega)|exact Ext.nx (by assumption) (by omega))) (fun n' hn' => ?_)
     | fail
    exact fin_m (by simp only [zL,zM]) (res_c (by simp (disch:=first|decide|(simp only[zF,zG];decide)) only [zA,zB,zC,zD,zE,zF,zG,zH,zI,zJ,zK,HV.cells,fl0,fl2,flS,flS1,flI1,flU1,flU2,flF]; try exact rfl) (by first|assumption|(simp (disch:=omega) only [get_same,get_other]; first|done|exact rfl)) rfl (res_t (by simp (disch:=first|decide|(simp only[zF,zG];decide)) only [zA,zB,zC,zD,zE,zF,zG,zH,zI,zJ,zK,HV.cells,fl0,fl2,flS,flS1,flI1,flU1,flU2,flF]; try exact rfl) res_nil)) (sc_flat rfl (by dsimp only; omega) rfl)
  · rw [show thrE l r = ((0, 0), chkR l r) from if_neg hc]
    repeat' first
     | refine r_nil ?_
     | refine th_n ?_
     | refine th_r ?_
     | refine w_seq ?_
     | refine w_reg ?_
     | refine w_ret ?_
     | refine w_t (by simp (disch:=first|decide|(simp only[zF,zG];decide)) only [zA,zB,zC,zD,zE,zF,zG,zH,zI,zJ,zK,HV.cells,fl0,fl2,flS,flS1,flI1,flU1,flU2,flF]; first|done|exact rfl) ?_
     | refine r_move (by simp (disch:=first|decide|(simp only[zF,zG];decide)) only [zA,zB,zC,zD,zE,zF,zG,zH,zI,zJ,zK,HV.cells,fl0,fl2,flS,flS1,flI1,flU1,flU2,flF]; try exact rfl) ?_
     | refine r_ldn (by simp (disch:=first|decide|(simp only[zF,zG];decide)) only [zA,zB,zC,zD,zE,zF,zG,zH,zI,zJ,zK,HV.cells,fl0,fl2,flS,flS1,flI1,flU1,flU2,flF]; try exact rfl) (by first|assumption|(simp (disch:=omega) only [get_same,get_other]; first|done|exact rfl)) (by first|assumption|exact ow2 _ _ _ _|exact ow3 _ _ _ _ _ _|rfl|(simp only [zI,zJ,HV.cells]; exact rfl)) ?_
     | refine r_box (by simp (disch:=first|decide|(simp only[zF,zG];decide)) only [zA,zB,zC,zD,zE,zF,zG,zH,zI,zJ,zK,HV.cells,fl0,fl2,flS,flS1,flI1,flU1,flU2,flF]; try exact rfl) ?_
     | refine r_alloc ?_
     | refine r_st (cs' := _) (by simp (disch:=first|decide|(simp only[zF,zG];decide)) only [zA,zB,zC,zD,zE,zF,zG,zH,zI,zJ,zK,HV.cells,fl0,fl2,flS,flS1,flI1,flU1,flU2,flF]; try exact rfl) (by simp (disch:=first|decide|(simp only[zF,zG];decide)) only [zA,zB,zC,zD,zE,zF,zG,zH,zI,zJ,zK,HV.cells,fl0,fl2,flS,flS1,flI1,flU1,flU2,flF]; try exact rfl) (by first|assumption|(simp (disch:=omega) only [get_same,get_other]; first|done|exact rfl)) (by exact True.intro) (by rfl) (by rfl) (by first|assumption|exact ow2 _ _ _ _|exact ow3 _ _ _ _ _ _|rfl|(simp only [zI,zJ,HV.cells]; exact rfl)) (by omega) ?_
     | refine r_ne (by simp (disch:=first|decide|(simp only[zF,zG];decide)) only [zA,zB,zC,zD,zE,zF,zG,zH,zI,zJ,zK,HV.cells,fl0,fl2,flS,flS1,flI1,flU1,flU2,flF]; try exact rfl) (by simp (disch:=first|decide|(simp only[zF,zG];decide)) only [zA,zB,zC,zD,zE,zF,zG,zH,zI,zJ,zK,HV.cells,fl0,fl2,flS,flS1,flI1,flU1,flU2,flF]; try exact rfl) (fun hc => ?_) (fun hc => ?_) <;> (try (exfalso; omega))
     | refine r_build (by simp (disch:=first|decide|(simp only[zF,zG];decide)) only [evParts,List.map_cons,List.map_nil,List.nil_append,List.cons_append,List.append_nil,zA,zB,zC,zD,zE,zF,zG,zH,zI,zJ,zK,HV.cells,fl0,fl2,flS,flS1,flI1,flU1,flU2,flF]; try exact rfl) ?_
     | refine r_calls (by simp (disch:=first|decide|(simp only[zF,zG];decide)) only [zA,zB,zC,zD,zE,zF,zG,zH,zI,zJ,zK,HV.cells,fl0,fl2,flS,flS1,flI1,flU1,flU2,flF]; try exact rfl) (by simp (disch:=first|decide|(simp only[zF,zG];decide)) only [List.map_cons,List.map_nil,List.nil_append,List.cons_append,List.append_nil,zA,zB,zC,zD,zE,zF,zG,zH,zI,zJ,zK,HV.cells,fl0,fl2,flS,flS1,flI1,flU1,flU2,flF]; first|done|exact rfl) (cA _ _ _ (by repeat' first|assumption|refine Ext.put ?_ (by omega) (by omega)|exact Ext.up (by assumption) (by omega)|exact Ext.nx (by assumption) (by omega))) (fun n' hn' => ?_)
     | fail
    exact fin_m (by simp only [zL,zM]) (res_c (by simp (disch:=first|decide|(simp only[zF,zG];decide)) only [zA,zB,zC,zD,zE,zF,zG,zH,zI,zJ,zK,HV.cells,fl0,fl2,flS,flS1,flI1,flU1,flU2,flF]; try exact rfl) (by first|assumption|(simp (disch:=omega) only [get_same,get_other]; first|done|exact rfl)) rfl (res_t (by simp (disch:=first|decide|(simp only[zF,zG];decide)) only [zA,zB,zC,zD,zE,zF,zG,zH,zI,zJ,zK,HV.cells,fl0,fl2,flS,flS1,flI1,flU1,flU2,flF]; try exact rfl) res_nil)) (sc_flat rfl (by dsimp only; omega) rfl)
/- 27 -/
theorem c_Convert {fl : Nat} {h : Tr HBlk} {nx : Nat} (hd : D h nx) {s1 s2 r : Int × Int} : C LW fl 27 [.agg (renc s1), .agg (renc s2), .agg (renc r)] ⟨h, nx⟩ (Sc (· = .tuple [.agg (renc (thrE [s1, s2] r).1), i64 (thrE [s1, s2] r).2]) ⟨h, nx⟩) := by
  refine c_in lw27 rfl rfl rfl ?_
  dsimp only [L27]
  repeat' first
   | refine r_nil ?_
   | refine th_n ?_
   | refine w_seq ?_
   | refine w_reg ?_
   | refine r_move (by simp (disch:=first|decide|(simp only[zF,zG];decide)) only [zA,zB,zC,zD,zE,zF,zG,zH,zI,zJ,zK,HV.cells,fl0,fl2,flS,flS1,flI1,flU1,flU2,flF]; try exact rfl) ?_
   | refine r_ldn (by simp (disch:=first|decide|(simp only[zF,zG];decide)) only [zA,zB,zC,zD,zE,zF,zG,zH,zI,zJ,zK,HV.cells,fl0,fl2,flS,flS1,flI1,flU1,flU2,flF]; try exact rfl) (by first|assumption|(simp (disch:=omega) only [get_same,get_other]; first|done|exact rfl)) (by first|assumption|exact ow2 _ _ _ _|exact ow3 _ _ _ _ _ _|rfl|(simp only [zI,zJ,HV.cells]; exact rfl)) ?_
   | refine r_box (by simp (disch:=first|decide|(simp only[zF,zG];decide)) only [zA,zB,zC,zD,zE,zF,zG,zH,zI,zJ,zK,HV.cells,fl0,fl2,flS,flS1,flI1,flU1,flU2,flF]; try exact rfl) ?_
   | refine r_alloc ?_
   | refine r_bs (by simp (disch:=first|decide|(simp only[zF,zG];decide)) only [evParts,List.map_cons,List.map_nil,List.nil_append,List.cons_append,List.append_nil,zA,zB,zC,zD,zE,zF,zG,zH,zI,zJ,zK,HV.cells,fl0,fl2,flS,flS1,flI1,flU1,flU2,flF]; try exact rfl) ?_
   | fail
  refine r_calls (by simp (disch:=first|decide|(simp only[zF,zG];decide)) only [zA,zB,zC,zD,zE,zF,zG,zH,zI,zJ,zK,HV.cells,fl0,fl2,flS,flS1,flI1,flU1,flU2,flF]; try exact rfl) (by simp (disch:=first|decide|(simp only[zF,zG];decide)) only [List.map_cons,List.map_nil,List.nil_append,List.cons_append,List.append_nil,zA,zB,zC,zD,zE,zF,zG,zH,zI,zJ,zK,HV.cells,fl0,fl2,flS,flS1,flI1,flU1,flU2,flF]; try exact rfl) (c_Through (l := [s1, s2]) (r := r) (cp := 2) (by (repeat' first|assumption|refine D.upd ?_ (by omega)|exact D.mono (by assumption) (by omega)) <;> fail) rfl (by simp) (row_flat (k := .exact) renc_len (by omega) (by first|assumption|(simp (disch:=omega) only [get_same,get_other]; first|done|exact rfl)))) (fun n' hn' => ?_)
  obtain ⟨q, hq⟩ : ∃ x, x = thrE [s1, s2] r := ⟨_, rfl⟩
  rw [← hq]
  repeat' first
   | refine r_nil ?_
   | refine th_n ?_
   | refine w_ret ?_
   | refine r_move (by simp (disch:=first|decide|(simp only[zF,zG];decide)) only [zA,zB,zC,zD,zE,zF,zG,zH,zI,zJ,zK,HV.cells,fl0,fl2,flS,flS1,flI1,flU1,flU2,flF]; try exact rfl) ?_
   | refine r_st (cs' := _) (by simp (disch:=first|decide|(simp only[zF,zG];decide)) only [zA,zB,zC,zD,zE,zF,zG,zH,zI,zJ,zK,HV.cells,fl0,fl2,flS,flS1,flI1,flU1,flU2,flF]; try exact rfl) (by simp (disch:=first|decide|(simp only[zF,zG];decide)) only [zA,zB,zC,zD,zE,zF,zG,zH,zI,zJ,zK,HV.cells,fl0,fl2,flS,flS1,flI1,flU1,flU2,flF]; try exact rfl) (by first|assumption|(simp (disch:=omega) only [get_same,get_other]; first|done|exact rfl)) (by exact True.intro) (by rfl) (by rfl) (by first|assumption|exact ow2 _ _ _ _|exact ow3 _ _ _ _ _ _|rfl|(simp only [zI,zJ,HV.cells]; exact rfl)) (by omega) ?_
   | refine r_ext (by simp (disch:=first|decide|(simp only[zF,zG];decide)) only [zA,zB,zC,zD,zE,zF,zG,zH,zI,zJ,zK,HV.cells,fl0,fl2,flS,flS1,flI1,flU1,flU2,flF]; try exact rfl) (by first|assumption|exact ow2 _ _ _ _|exact ow3 _ _ _ _ _ _|rfl|(simp only [zI,zJ,HV.cells]; exact rfl)) ?_
   | fail
  exact fin_m (by simp only [zL,zM]) (res_c (by simp (disch:=first|decide|(simp only[zF,zG];decide)) only [zA,zB,zC,zD,zE,zF,zG,zH,zI,zJ,zK,HV.cells,fl0,fl2,flS,flS1,flI1,flU1,flU2,flF]; try exact rfl) (by first|assumption|(simp (disch:=omega) only [get_same,get_other]; first|done|exact rfl)) rfl (res_t (by simp (disch:=first|decide|(simp only[zF,zG];decide)) only [zA,zB,zC,zD,zE,zF,zG,zH,zI,zJ,zK,HV.cells,fl0,fl2,flS,flS1,flI1,flU1,flU2,flF]; try exact rfl) res_nil)) (sc_flat rfl (by dsimp only; omega) rfl)
/-- The least of some numbers. -/
def lst (x : Int) (ys : List Int) : Int := ys.foldl min x
/- 78 -/
theorem loop78 {lp : Nat → Option LFunc} {fl : Nat} {h : Tr HBlk} {nx : Nat} {Q : HExit → HAct → HS → Prop} {p : Option (Nat × Nat)} {ys : List Int} {c : Nat} (hrow : Row ienc 1 h nx p ys) (hlen : ys.length < 1000000000) :
    ∀ (m i : Nat) (cur : Int) (a : HAct), m + i = ys.length → a.nt = 19 → a.defers = [] → a.tmp 0 = i64 cur → a.tmp 7 = .slice p ys.length c → a.tmp 8 = i64 ys.length → a.tmp 9 = i64 i →
      (∀ a', a'.nt = 19 → a'.defers = [] → a'.tmp 0 = i64 (lst cur (ys.drop i)) → Q .normal a' ⟨h, nx⟩) → W lp fl none (.loop L78w0) (inBlockH 0 Q) a ⟨h, nx⟩
  | 0, i, cur, a, hm, hnt, hds, h0, h7, h8, h9, hq => by
    refine w_it (show L78w0 = _ by unfold L78w0; exact rfl) ?_
    repeat' first
     | refine r_nil ?_
     | refine th_n ?_
     | refine th_e ?_
     | refine ib_e ?_
     | refine w_exit ?_
     | refine w_seq ?_
     | refine w_reg ?_
     | refine w_f (by simp (disch:=first|decide|(simp only[zF,zG,hnt, h0, h7, h8, h9];decide)) only [zA,zB,zC,zD,zE,zF,zG,zH,zI,zJ,zK,HV.cells,fl0,fl2,flS,flS1,flI1,flU1,flU2,flF,hnt, h0, h7, h8, h9]; first|done|exact rfl) ?_
     | refine r_lss (by simp (disch:=first|decide|(simp only[zF,zG,hnt, h0, h7, h8, h9];decide)) only [zA,zB,zC,zD,zE,zF,zG,zH,zI,zJ,zK,HV.cells,fl0,fl2,flS,flS1,flI1,flU1,flU2,flF,hnt, h0, h7, h8, h9]; try exact rfl) (by simp (disch:=first|decide|(simp only[zF,zG,hnt, h0, h7, h8, h9];decide)) only [zA,zB,zC,zD,zE,zF,zG,zH,zI,zJ,zK,HV.cells,fl0,fl2,flS,flS1,flI1,flU1,flU2,flF,hnt, h0, h7, h8, h9]; try exact rfl) (fun hc => ?_) (fun hc => ?_) <;> (try (exfalso; omega))
     | fail
    refine hq _ ?_ ?_ ?_
    · simp only [put_nt, hnt]
    · simp only [put_defers, hds]
    · rw [List.drop_of_length_le (by omega)]; exact (by simp (disch:=first|decide|(simp only[zF,zG,hnt, h0];decide)) only [zA,zB,zC,zD,zE,zF,zG,zH,zI,zJ,zK,HV.cells,fl0,fl2,flS,flS1,flI1,flU1,flU2,flF,hnt, h0]; try exact rfl)
  | m + 1, i, cur, a, hm, hnt, hds, h0, h7, h8, h9, hq => by
    have hi : i < ys.length := by omega
    obtain ⟨b, o, cs, k, rfl, hb, hg, hcs⟩ := hrow (by intro e; rw [e] at hi; simp at hi)
    have hy : ys[i]? = some ys[i] := by simp [hi]
    have e0 := take_at (hcs i _ hy) (j := 0) rfl
    refine w_it (show L78w0 = _ by unfold L78w0; exact rfl) ?_
    repeat' first
     | refine r_nil ?_
     | refine th_n ?_
     | refine ib_n ?_
     | refine w_seq ?_
     | refine w_reg ?_
     | refine w_skip ?_
     | refine w_block ?_
     | refine w_t (by simp (disch:=first|decide|(simp only[zF,zG,hnt, h0, h7, h8, h9];decide)) only [zA,zB,zC,zD,zE,zF,zG,zH,zI,zJ,zK,HV.cells,fl0,fl2,flS,flS1,flI1,flU1,flU2,flF,hnt, h0, h7, h8, h9]; first|done|exact rfl) ?_
     | refine w_f (by simp (disch:=first|decide|(simp only[zF,zG,hnt, h0, h7, h8, h9];decide)) only [zA,zB,zC,zD,zE,zF,zG,zH,zI,zJ,zK,HV.cells,fl0,fl2,flS,flS1,flI1,flU1,flU2,flF,hnt, h0, h7, h8, h9]; first|done|exact rfl) ?_
     | refine r_move (by simp (disch:=first|decide|(simp only[zF,zG,hnt, h0, h7, h8, h9];decide)) only [zA,zB,zC,zD,zE,zF,zG,zH,zI,zJ,zK,HV.cells,fl0,fl2,flS,flS1,flI1,flU1,flU2,flF,hnt, h0, h7, h8, h9]; try exact rfl) ?_
     | refine r_ld1 (by simp (disch:=first|decide|(simp only[zF,zG,hnt, h0, h7, h8, h9];decide)) only [zA,zB,zC,zD,zE,zF,zG,zH,zI,zJ,zK,HV.cells,fl0,fl2,flS,flS1,flI1,flU1,flU2,flF,hnt, h0, h7, h8, h9]; try exact rfl) (by first|assumption|(simp (disch:=omega) only [get_same,get_other,hnt, h0, h7, h8, h9]; first|done|exact rfl)) (by first|assumption|exact ow2 _ _ _ _|exact ow3 _ _ _ _ _ _|rfl|(simp only [zI,zJ,HV.cells,hnt, h0, h7, h8, h9]; exact rfl)) ?_
     | refine r_add (by simp (disch:=first|decide|(simp only[zF,zG,hnt, h0, h7, h8, h9];decide)) only [zA,zB,zC,zD,zE,zF,zG,zH,zI,zJ,zK,HV.cells,fl0,fl2,flS,flS1,flI1,flU1,flU2,flF,hnt, h0, h7, h8, h9]; try exact rfl) (by simp (disch:=first|decide|(simp only[zF,zG,hnt, h0, h7, h8, h9];decide)) only [zA,zB,zC,zD,zE,zF,zG,zH,zI,zJ,zK,HV.cells,fl0,fl2,flS,flS1,flI1,flU1,flU2,flF,hnt, h0, h7, h8, h9]; try exact rfl) (by omega) (by omega) ?_
     | refine r_lss (by simp (disch:=first|decide|(simp only[zF,zG,hnt, h0, h7, h8, h9];decide)) only [zA,zB,zC,zD,zE,zF,zG,zH,zI,zJ,zK,HV.cells,fl0,fl2,flS,flS1,flI1,flU1,flU2,flF,hnt, h0, h7, h8, h9]; try exact rfl) (by simp (disch:=first|decide|(simp only[zF,zG,hnt, h0, h7, h8, h9];decide)) only [zA,zB,zC,zD,zE,zF,zG,zH,zI,zJ,zK,HV.cells,fl0,fl2,flS,flS1,flI1,flU1,flU2,flF,hnt, h0, h7, h8, h9]; try exact rfl) (fun hc => ?_) (fun hc => ?_) <;> (try (exfalso; omega))
     | refine r_ixs (by simp (disch:=first|decide|(simp only[zF,zG,hnt, h0, h7, h8, h9];decide)) only [zA,zB,zC,zD,zE,zF,zG,zH,zI,zJ,zK,HV.cells,fl0,fl2,flS,flS1,flI1,flU1,flU2,flF,hnt, h0, h7, h8, h9]; try exact rfl) (by simp (disch:=first|decide|(simp only[zF,zG,hnt, h0, h7, h8, h9];decide)) only [zA,zB,zC,zD,zE,zF,zG,zH,zI,zJ,zK,HV.cells,fl0,fl2,flS,flS1,flI1,flU1,flU2,flF,hnt, h0, h7, h8, h9]; try exact rfl) (by omega) ?_
     | fail
    · refine loop78 (c := c) hrow hlen m (i + 1) ys[i] _ (by omega) ?_ ?_ ?_ ?_ ?_ ?_ (fun a' g1 g2 g3 => hq a' g1 g2 ?_)
      all_goals try first|(simp only [zL,zM,zF,zG,hnt, hds, h0, h7, h8, h9];done)|(simp (disch:=first|decide|(simp only[zF,zG,hnt, hds, h0, h7, h8, h9];decide)) only [zA,zB,zC,zD,zE,zF,zG,zH,zI,zJ,zK,HV.cells,fl0,fl2,flS,flS1,flI1,flU1,flU2,flF,hnt, hds, h0, h7, h8, h9];first|done|exact rfl)|assumption
      rw [List.drop_eq_getElem_cons hi]
      show _ = i64 (lst (min cur ys[i]) _)
      rw [g3, show min cur ys[i] = ys[i] by omega]
    · refine loop78 (c := c) hrow hlen m (i + 1) cur _ (by omega) ?_ ?_ ?_ ?_ ?_ ?_ (fun a' g1 g2 g3 => hq a' g1 g2 ?_)
      all_goals try first|(simp only [zL,zM,zF,zG,hnt, hds, h0, h7, h8, h9];done)|(simp (disch:=first|decide|(simp only[zF,zG,hnt, hds, h0, h7, h8, h9];decide)) only [zA,zB,zC,zD,zE,zF,zG,zH,zI,zJ,zK,HV.cells,fl0,fl2,flS,flS1,flI1,flU1,flU2,flF,hnt, hds, h0, h7, h8, h9];first|done|exact rfl)|assumption
      rw [List.drop_eq_getElem_cons hi]
      show _ = i64 (lst (min cur ys[i]) _)
      rw [g3, show min cur ys[i] = cur by omega]
theorem c_least {lp : Nat → Option LFunc} (h78 : lp 78 = some L78) {fl : Nat} {h : Tr HBlk} {nx : Nat} {x : Int} {ys : List Int} {p : Option (Nat × Nat)} {n c : Nat} (hn : n = ys.length) (hrow : Row ienc 1 h nx p ys) (hlen : ys.length < 1000000000) : C lp fl 78 [i64 x, .slice p n c] ⟨h, nx⟩ (Sc (· = i64 (lst x ys)) ⟨h, nx⟩) := by
  subst hn
  refine c_in h78 rfl rfl rfl ?_
  dsimp only [L78]
  repeat' first
   | refine r_nil ?_
   | refine th_n ?_
   | refine w_seq ?_
   | refine w_reg ?_
   | refine w_block ?_
   | refine r_move (by simp (disch:=first|decide|(simp only[zF,zG];decide)) only [zA,zB,zC,zD,zE,zF,zG,zH,zI,zJ,zK,HV.cells,fl0,fl2,flS,flS1,flI1,flU1,flU2,flF]; try exact rfl) ?_
   | refine r_len (by simp (disch:=first|decide|(simp only[zF,zG];decide)) only [zA,zB,zC,zD,zE,zF,zG,zH,zI,zJ,zK,HV.cells,fl0,fl2,flS,flS1,flI1,flU1,flU2,flF]; try exact rfl) ?_
   | fail
  refine loop78 (c := c) hrow hlen ys.length 0 x _ (by omega) ?_ ?_ ?_ ?_ ?_ ?_ (fun a' g1 g2 g3 => ?_)
  all_goals try first|(simp only [zL,zM,zF,zG];done)|(simp (disch:=first|decide|(simp only[zF,zG];decide)) only [zA,zB,zC,zD,zE,zF,zG,zH,zI,zJ,zK,HV.cells,fl0,fl2,flS,flS1,flI1,flU1,flU2,flF];first|done|exact rfl)|assumption
  repeat' first
   | refine r_nil ?_
   | refine th_n ?_
   | refine w_seq ?_
   | refine w_reg ?_
   | refine w_ret ?_
   | refine r_move (by simp (disch:=first|decide|(simp only[zF,zG,g1, g2, g3];decide)) only [zA,zB,zC,zD,zE,zF,zG,zH,zI,zJ,zK,HV.cells,fl0,fl2,flS,flS1,flI1,flU1,flU2,flF,g1, g2, g3]; try exact rfl) ?_
   | fail
  refine fin_r (by simp only [put_defers, g2]) (by simp (disch:=first|decide|(simp only[zF,zG,g1, g3];decide)) only [zA,zB,zC,zD,zE,zF,zG,zH,zI,zJ,zK,HV.cells,fl0,fl2,flS,flS1,flI1,flU1,flU2,flF,g1, g3]; try exact rfl) ?_
  exact ⟨rfl, _, Nat.le_refl _, rfl⟩
/-- The greatest of some numbers. -/
def gst (x : Int) (ys : List Int) : Int := ys.foldl max x
/- 79 -/
theorem loop79 {lp : Nat → Option LFunc} {fl : Nat} {h : Tr HBlk} {nx : Nat} {Q : HExit → HAct → HS → Prop} {p : Option (Nat × Nat)} {ys : List Int} {c : Nat} (hrow : Row ienc 1 h nx p ys) (hlen : ys.length < 1000000000) :
    ∀ (m i : Nat) (cur : Int) (a : HAct), m + i = ys.length → a.nt = 19 → a.defers = [] → a.tmp 0 = i64 cur → a.tmp 7 = .slice p ys.length c → a.tmp 8 = i64 ys.length → a.tmp 9 = i64 i →
      (∀ a', a'.nt = 19 → a'.defers = [] → a'.tmp 0 = i64 (gst cur (ys.drop i)) → Q .normal a' ⟨h, nx⟩) → W lp fl none (.loop L79w0) (inBlockH 0 Q) a ⟨h, nx⟩
  | 0, i, cur, a, hm, hnt, hds, h0, h7, h8, h9, hq => by
    refine w_it (show L79w0 = _ by unfold L79w0; exact rfl) ?_
    repeat' first
     | refine r_nil ?_
     | refine th_n ?_
     | refine th_e ?_
     | refine ib_e ?_
     | refine w_exit ?_
     | refine w_seq ?_
     | refine w_reg ?_
     | refine w_f (by simp (disch:=first|decide|(simp only[zF,zG,hnt, h0, h7, h8, h9];decide)) only [zA,zB,zC,zD,zE,zF,zG,zH,zI,zJ,zK,HV.cells,fl0,fl2,flS,flS1,flI1,flU1,flU2,flF,hnt, h0, h7, h8, h9]; first|done|exact rfl) ?_
     | refine r_lss (by simp (disch:=first|decide|(simp only[zF,zG,hnt, h0, h7, h8, h9];decide)) only [zA,zB,zC,zD,zE,zF,zG,zH,zI,zJ,zK,HV.cells,fl0,fl2,flS,flS1,flI1,flU1,flU2,flF,hnt, h0, h7, h8, h9]; try exact rfl) (by simp (disch:=first|decide|(simp only[zF,zG,hnt, h0, h7, h8, h9];decide)) only [zA,zB,zC,zD,zE,zF,zG,zH,zI,zJ,zK,HV.cells,fl0,fl2,flS,flS1,flI1,flU1,flU2,flF,hnt, h0, h7, h8, h9]; try exact rfl) (fun hc => ?_) (fun hc => ?_) <;> (try (exfalso; omega))
     | fail
    refine hq _ ?_ ?_ ?_
    · simp only [put_nt, hnt]
    · simp only [put_defers, hds]
    · rw [List.drop_of_length_le (by omega)]; exact (by simp (disch:=first|decide|(simp only[zF,zG,hnt, h0];decide)) only [zA,zB,zC,zD,zE,zF,zG,zH,zI,zJ,zK,HV.cells,fl0,fl2,flS,flS1,flI1,flU1,flU2,flF,hnt, h0]; try exact rfl)
  | m + 1, i, cur, a, hm, hnt, hds, h0, h7, h8, h9, hq => by
    have hi : i < ys.length := by omega
    obtain ⟨b, o, cs, k, rfl, hb, hg, hcs⟩ := hrow (by intro e; rw [e] at hi; simp at hi)
    have hy : ys[i]? = some ys[i] := by simp [hi]
    have e0 := take_at (hcs i _ hy) (j := 0) rfl
    refine w_it (show L79w0 = _ by unfold L79w0; exact rfl) ?_
    repeat' first
     | refine r_nil ?_
     | refine th_n ?_
     | refine ib_n ?_
     | refine w_seq ?_
     | refine w_reg ?_
     | refine w_skip ?_
     | refine w_block ?_
     | refine w_t (by simp (disch:=first|decide|(simp only[zF,zG,hnt, h0, h7, h8, h9];decide)) only [zA,zB,zC,zD,zE,zF,zG,zH,zI,zJ,zK,HV.cells,fl0,fl2,flS,flS1,flI1,flU1,flU2,flF,hnt, h0, h7, h8, h9]; first|done|exact rfl) ?_
     | refine w_f (by simp (disch:=first|decide|(simp only[zF,zG,hnt, h0, h7, h8, h9];decide)) only [zA,zB,zC,zD,zE,zF,zG,zH,zI,zJ,zK,HV.cells,fl0,fl2,flS,flS1,flI1,flU1,flU2,flF,hnt, h0, h7, h8, h9]; first|done|exact rfl) ?_
     | refine r_move (by simp (disch:=first|decide|(simp only[zF,zG,hnt, h0, h7, h8, h9];decide)) only [zA,zB,zC,zD,zE,zF,zG,zH,zI,zJ,zK,HV.cells,fl0,fl2,flS,flS1,flI1,flU1,flU2,flF,hnt, h0, h7, h8, h9]; try exact rfl) ?_
     | refine r_ld1 (by simp (disch:=first|decide|(simp only[zF,zG,hnt, h0, h7, h8, h9];decide)) only [zA,zB,zC,zD,zE,zF,zG,zH,zI,zJ,zK,HV.cells,fl0,fl2,flS,flS1,flI1,flU1,flU2,flF,hnt, h0, h7, h8, h9]; try exact rfl) (by first|assumption|(simp (disch:=omega) only [get_same,get_other,hnt, h0, h7, h8, h9]; first|done|exact rfl)) (by first|assumption|exact ow2 _ _ _ _|exact ow3 _ _ _ _ _ _|rfl|(simp only [zI,zJ,HV.cells,hnt, h0, h7, h8, h9]; exact rfl)) ?_
     | refine r_add (by simp (disch:=first|decide|(simp only[zF,zG,hnt, h0, h7, h8, h9];decide)) only [zA,zB,zC,zD,zE,zF,zG,zH,zI,zJ,zK,HV.cells,fl0,fl2,flS,flS1,flI1,flU1,flU2,flF,hnt, h0, h7, h8, h9]; try exact rfl) (by simp (disch:=first|decide|(simp only[zF,zG,hnt, h0, h7, h8, h9];decide)) only [zA,zB,zC,zD,zE,zF,zG,zH,zI,zJ,zK,HV.cells,fl0,fl2,flS,flS1,flI1,flU1,flU2,flF,hnt, h0, h7, h8, h9]; try exact rfl) (by omega) (by omega) ?_
     | refine r_lss (by simp (disch:=first|decide|(simp only[zF,zG,hnt, h0, h7, h8, h9];decide)) only [zA,zB,zC,zD,zE,zF,zG,zH,zI,zJ,zK,HV.cells,fl0,fl2,flS,flS1,flI1,flU1,flU2,flF,hnt, h0, h7, h8, h9]; try exact rfl) (by simp (disch:=first|decide|(simp only[zF,zG,hnt, h0, h7, h8, h9];decide)) only [zA,zB,zC,zD,zE,zF,zG,zH,zI,zJ,zK,HV.cells,fl0,fl2,flS,flS1,flI1,flU1,flU2,flF,hnt, h0, h7, h8, h9]; try exact rfl) (fun hc => ?_) (fun hc => ?_) <;> (try (exfalso; omega))
     | refine r_gtr (by simp (disch:=first|decide|(simp only[zF,zG,hnt, h0, h7, h8, h9];decide)) only [zA,zB,zC,zD,zE,zF,zG,zH,zI,zJ,zK,HV.cells,fl0,fl2,flS,flS1,flI1,flU1,flU2,flF,hnt, h0, h7, h8, h9]; try exact rfl) (by simp (disch:=first|decide|(simp only[zF,zG,hnt, h0, h7, h8, h9];decide)) only [zA,zB,zC,zD,zE,zF,zG,zH,zI,zJ,zK,HV.cells,fl0,fl2,flS,flS1,flI1,flU1,flU2,flF,hnt, h0, h7, h8, h9]; try exact rfl) (fun hc => ?_) (fun hc => ?_) <;> (try (exfalso; omega))
     | refine r_ixs (by simp (disch:=first|decide|(simp only[zF,zG,hnt, h0, h7, h8, h9];decide)) only [zA,zB,zC,zD,zE,zF,zG,zH,zI,zJ,zK,HV.cells,fl0,fl2,flS,flS1,flI1,flU1,flU2,flF,hnt, h0, h7, h8, h9]; try exact rfl) (by simp (disch:=first|decide|(simp only[zF,zG,hnt, h0, h7, h8, h9];decide)) only [zA,zB,zC,zD,zE,zF,zG,zH,zI,zJ,zK,HV.cells,fl0,fl2,flS,flS1,flI1,flU1,flU2,flF,hnt, h0, h7, h8, h9]; try exact rfl) (by omega) ?_
     | fail
    · refine loop79 (c := c) hrow hlen m (i + 1) ys[i] _ (by omega) ?_ ?_ ?_ ?_ ?_ ?_ (fun a' g1 g2 g3 => hq a' g1 g2 ?_)
      all_goals try first|(simp only [zL,zM,zF,zG,hnt, hds, h0, h7, h8, h9];done)|(simp (disch:=first|decide|(simp only[zF,zG,hnt, hds, h0, h7, h8, h9];decide)) only [zA,zB,zC,zD,zE,zF,zG,zH,zI,zJ,zK,HV.cells,fl0,fl2,flS,flS1,flI1,flU1,flU2,flF,hnt, hds, h0, h7, h8, h9];first|done|exact rfl)|assumption
      rw [List.drop_eq_getElem_cons hi]
      show _ = i64 (gst (max cur ys[i]) _)
      rw [g3, show max cur ys[i] = ys[i] by omega]
    · refine loop79 (c := c) hrow hlen m (i + 1) cur _ (by omega) ?_ ?_ ?_ ?_ ?_ ?_ (fun a' g1 g2 g3 => hq a' g1 g2 ?_)
      all_goals try first|(simp only [zL,zM,zF,zG,hnt, hds, h0, h7, h8, h9];done)|(simp (disch:=first|decide|(simp only[zF,zG,hnt, hds, h0, h7, h8, h9];decide)) only [zA,zB,zC,zD,zE,zF,zG,zH,zI,zJ,zK,HV.cells,fl0,fl2,flS,flS1,flI1,flU1,flU2,flF,hnt, hds, h0, h7, h8, h9];first|done|exact rfl)|assumption
      rw [List.drop_eq_getElem_cons hi]
      show _ = i64 (gst (max cur ys[i]) _)
      rw [g3, show max cur ys[i] = cur by omega]
theorem c_greatest {lp : Nat → Option LFunc} (h79 : lp 79 = some L79) {fl : Nat} {h : Tr HBlk} {nx : Nat} {x : Int} {ys : List Int} {p : Option (Nat × Nat)} {n c : Nat} (hn : n = ys.length) (hrow : Row ienc 1 h nx p ys) (hlen : ys.length < 1000000000) : C lp fl 79 [i64 x, .slice p n c] ⟨h, nx⟩ (Sc (· = i64 (gst x ys)) ⟨h, nx⟩) := by
  subst hn
  refine c_in h79 rfl rfl rfl ?_
  dsimp only [L79]
  repeat' first
   | refine r_nil ?_
   | refine th_n ?_
   | refine w_seq ?_
   | refine w_reg ?_
   | refine w_block ?_
   | refine r_move (by simp (disch:=first|decide|(simp only[zF,zG];decide)) only [zA,zB,zC,zD,zE,zF,zG,zH,zI,zJ,zK,HV.cells,fl0,fl2,flS,flS1,flI1,flU1,flU2,flF]; try exact rfl) ?_
   | refine r_len (by simp (disch:=first|decide|(simp only[zF,zG];decide)) only [zA,zB,zC,zD,zE,zF,zG,zH,zI,zJ,zK,HV.cells,fl0,fl2,flS,flS1,flI1,flU1,flU2,flF]; try exact rfl) ?_
   | fail
  refine loop79 (c := c) hrow hlen ys.length 0 x _ (by omega) ?_ ?_ ?_ ?_ ?_ ?_ (fun a' g1 g2 g3 => ?_)
  all_goals try first|(simp only [zL,zM,zF,zG];done)|(simp (disch:=first|decide|(simp only[zF,zG];decide)) only [zA,zB,zC,zD,zE,zF,zG,zH,zI,zJ,zK,HV.cells,fl0,fl2,flS,flS1,flI1,flU1,flU2,flF];first|done|exact rfl)|assumption
  repeat' first
   | refine r_nil ?_
   | refine th_n ?_
   | refine w_seq ?_
   | refine w_reg ?_
   | refine w_ret ?_
   | refine r_move (by simp (disch:=first|decide|(simp only[zF,zG,g1, g2, g3];decide)) only [zA,zB,zC,zD,zE,zF,zG,zH,zI,zJ,zK,HV.cells,fl0,fl2,flS,flS1,flI1,flU1,flU2,flF,g1, g2, g3]; try exact rfl) ?_
   | fail
  refine fin_r (by simp only [put_defers, g2]) (by simp (disch:=first|decide|(simp only[zF,zG,g1, g3];decide)) only [zA,zB,zC,zD,zE,zF,zG,zH,zI,zJ,zK,HV.cells,fl0,fl2,flS,flS1,flI1,flU1,flU2,flF,g1, g3]; try exact rfl) ?_
  exact ⟨rfl, _, Nat.le_refl _, rfl⟩
theorem c_least1 {fl : Nat} {h : Tr HBlk} {nx : Nat} {x y : Int} {p : Option (Nat × Nat)} {cp : Nat} (hrow : Row ienc 1 h nx p [y]) : C LW fl 78 [i64 x, .slice p 1 cp] ⟨h, nx⟩ (Sc (· = i64 (min x y)) ⟨h, nx⟩) := c_least (ys := [y]) lw78 rfl hrow (by simp)
theorem c_greatest1 {fl : Nat} {h : Tr HBlk} {nx : Nat} {x y : Int} {p : Option (Nat × Nat)} {cp : Nat} (hrow : Row ienc 1 h nx p [y]) : C LW fl 79 [i64 x, .slice p 1 cp] ⟨h, nx⟩ (Sc (· = i64 (max x y)) ⟨h, nx⟩) := c_greatest (ys := [y]) lw79 rfl hrow (by simp)
/-- The thousandths of readings, where steam was at some height. -/
def tru (s q r : Int × Int) : Int × Int := (min (hlo s r * q.1) (hlo s r * q.2) / (2 * dg s), cdiv (max (hhi s r * q.1) (hhi s r * q.2)) (2 * dg s))
/- 54 -/
theorem c_true {fl : Nat} {h : Tr HBlk} {nx : Nat} (hd : D h nx) {s q r : Int × Int} (h1 : SOk s.1 s.2) (hr : ROk r.1 r.2) (hq : (0 ≤ q.1 ∧ q.1 ≤ 2000) ∧ 0 ≤ q.2 ∧ q.2 ≤ 2000) : C LW fl 54 [.agg (renc s), .agg (renc q), .agg (renc r)] ⟨h, nx⟩ (Sc (· = .agg (renc (tru s q r))) ⟨h, nx⟩) := by
  obtain ⟨b1, _, b3, b4, _⟩ := son_bd h1 h1 hr
  have a1 := s_bd h1
  have m1 := mul_bs (p := hlo s r) (q := q.1) (A := 2002001) (B := 2000) b3.1 b3.2 (by omega) (by omega) (by omega)
  have m2 := mul_bs (p := hlo s r) (q := q.2) (A := 2002001) (B := 2000) b3.1 b3.2 (by omega) (by omega) (by omega)
  have m3 := mul_bs (p := hhi s r) (q := q.1) (A := 2002001) (B := 2000) b4.1 b4.2 (by omega) (by omega) (by omega)
  have m4 := mul_bs (p := hhi s r) (q := q.2) (A := 2002001) (B := 2000) b4.1 b4.2 (by omega) (by omega) (by omega)
  have cU : ∀ fl h' n', C LW fl 76 [.agg (renc s)] ⟨h', n'⟩ (Sc (· = .agg [i64 (ic s.1 s.2), i64 (st s.1 s.2), .bool (tn s.1 s.2)]) ⟨h', n'⟩) := fun fl h' n' => c_upright (by unfold Big; unfold SOk at h1; omega) (by unfold Big; unfold SOk at h1; omega)
  have cH : ∀ fl h' n', C LW fl 77 [.agg [i64 (ic s.1 s.2), i64 (st s.1 s.2), .bool (tn s.1 s.2)], .agg (renc r)] ⟨h', n'⟩ (Sc (· = .agg (renc (hlo s r, hhi s r))) ⟨h', n'⟩) := fun fl h' n' => c_halves (by unfold Mid; unfold ROk at hr; omega) (by unfold Mid; unfold ROk at hr; omega) (by unfold Mid; omega)
  have cG : ∀ fl h' n' x, C LW fl 82 [.agg [i64 (ic s.1 s.2), i64 (st s.1 s.2), .bool (tn s.1 s.2)], i64 x] ⟨h', n'⟩ (Sc (· = .agg [i64 x, i64 (2 * dg s)]) ⟨h', n'⟩) := fun fl h' n' x => c_height (by unfold Mid; omega) (by unfold Mid; omega)
  have cO : ∀ fl h' n', D h' n' → C LW fl 81 [.agg [.func 91 [] [], .func 99 [] []], .agg [i64 (min (hlo s r * q.1) (hlo s r * q.2)), i64 (2 * dg s)], .agg [i64 (max (hhi s r * q.1) (hhi s r * q.2)), i64 (2 * dg s)]] ⟨h', n'⟩ (Sc (· = .agg (renc (tru s q r))) ⟨h', n'⟩) := fun fl h' n' e => c_ofO (by unfold Big; omega) (by omega) (by unfold Big; omega) (by omega) e
  refine c_in lw54 rfl rfl rfl ?_
  dsimp only [L54]
  repeat' first
   | refine r_nil ?_
   | refine th_n ?_
   | refine w_seq ?_
   | refine w_reg ?_
   | refine r_fa (by simp (disch:=first|decide|(simp only[zF,zG];decide)) only [zA,zB,zC,zD,zE,zF,zG,zH,zI,zJ,zK,HV.cells,fl0,fl2,flS,flS1,flI1,flU1,flU2,flF]; try exact rfl) ?_
   | refine r_ld1 (by simp (disch:=first|decide|(simp only[zF,zG];decide)) only [zA,zB,zC,zD,zE,zF,zG,zH,zI,zJ,zK,HV.cells,fl0,fl2,flS,flS1,flI1,flU1,flU2,flF]; try exact rfl) (by first|assumption|(simp (disch:=omega) only [get_same,get_other]; first|done|exact rfl)) (by first|assumption|exact ow2 _ _ _ _|exact ow3 _ _ _ _ _ _|rfl|(simp only [zI,zJ,HV.cells]; exact rfl)) ?_
   | refine r_ldn (by simp (disch:=first|decide|(simp only[zF,zG];decide)) only [zA,zB,zC,zD,zE,zF,zG,zH,zI,zJ,zK,HV.cells,fl0,fl2,flS,flS1,flI1,flU1,flU2,flF]; try exact rfl) (by first|assumption|(simp (disch:=omega) only [get_same,get_other]; first|done|exact rfl)) (by first|assumption|exact ow2 _ _ _ _|exact ow3 _ _ _ _ _ _|rfl|(simp only [zI,zJ,HV.cells]; exact rfl)) ?_
   | refine r_box (by simp (disch:=first|decide|(simp only[zF,zG];decide)) only [zA,zB,zC,zD,zE,zF,zG,zH,zI,zJ,zK,HV.cells,fl0,fl2,flS,flS1,flI1,flU1,flU2,flF]; try exact rfl) ?_
   | refine r_alloc ?_
   | refine r_st (cs' := _) (by simp (disch:=first|decide|(simp only[zF,zG];decide)) only [zA,zB,zC,zD,zE,zF,zG,zH,zI,zJ,zK,HV.cells,fl0,fl2,flS,flS1,flI1,flU1,flU2,flF]; try exact rfl) (by simp (disch:=first|decide|(simp only[zF,zG];decide)) only [zA,zB,zC,zD,zE,zF,zG,zH,zI,zJ,zK,HV.cells,fl0,fl2,flS,flS1,flI1,flU1,flU2,flF]; try exact rfl) (by first|assumption|(simp (disch:=omega) only [get_same,get_other]; first|done|exact rfl)) (by exact True.intro) (by rfl) (by rfl) (by first|assumption|exact ow2 _ _ _ _|exact ow3 _ _ _ _ _ _|rfl|(simp only [zI,zJ,HV.cells]; exact rfl)) (by omega) ?_
   | refine r_mul (by simp (disch:=first|decide|(simp only[zF,zG];decide)) only [zA,zB,zC,zD,zE,zF,zG,zH,zI,zJ,zK,HV.cells,fl0,fl2,flS,flS1,flI1,flU1,flU2,flF]; try exact rfl) (by simp (disch:=first|decide|(simp only[zF,zG];decide)) only [zA,zB,zC,zD,zE,zF,zG,zH,zI,zJ,zK,HV.cells,fl0,fl2,flS,flS1,flI1,flU1,flU2,flF]; try exact rfl) (by omega) (by omega) ?_
   | refine r_bs (by simp (disch:=first|decide|(simp only[zF,zG];decide)) only [evParts,List.map_cons,List.map_nil,List.nil_append,List.cons_append,List.append_nil,zA,zB,zC,zD,zE,zF,zG,zH,zI,zJ,zK,HV.cells,fl0,fl2,flS,flS1,flI1,flU1,flU2,flF]; try exact rfl) ?_
   | refine r_calls (by simp (disch:=first|decide|(simp only[zF,zG];decide)) only [zA,zB,zC,zD,zE,zF,zG,zH,zI,zJ,zK,HV.cells,fl0,fl2,flS,flS1,flI1,flU1,flU2,flF]; try exact rfl) (by simp (disch:=first|decide|(simp only[zF,zG];decide)) only [List.map_cons,List.map_nil,List.nil_append,List.cons_append,List.append_nil,zA,zB,zC,zD,zE,zF,zG,zH,zI,zJ,zK,HV.cells,fl0,fl2,flS,flS1,flI1,flU1,flU2,flF]; first|done|exact rfl) (cU _ _ _) (fun n' hn' => ?_)
   | refine r_calls (by simp (disch:=first|decide|(simp only[zF,zG];decide)) only [zA,zB,zC,zD,zE,zF,zG,zH,zI,zJ,zK,HV.cells,fl0,fl2,flS,flS1,flI1,flU1,flU2,flF]; try exact rfl) (by simp (disch:=first|decide|(simp only[zF,zG];decide)) only [List.map_cons,List.map_nil,List.nil_append,List.cons_append,List.append_nil,zA,zB,zC,zD,zE,zF,zG,zH,zI,zJ,zK,HV.cells,fl0,fl2,flS,flS1,flI1,flU1,flU2,flF]; first|done|exact rfl) (cH _ _ _) (fun n' hn' => ?_)
   | fail
  refine r_calls (by simp (disch:=first|decide|(simp only[zF,zG];decide)) only [zA,zB,zC,zD,zE,zF,zG,zH,zI,zJ,zK,HV.cells,fl0,fl2,flS,flS1,flI1,flU1,flU2,flF]; try exact rfl) (by simp (disch:=first|decide|(simp only[zF,zG];decide)) only [List.map_cons,List.map_nil,List.nil_append,List.cons_append,List.append_nil,zA,zB,zC,zD,zE,zF,zG,zH,zI,zJ,zK,HV.cells,fl0,fl2,flS,flS1,flI1,flU1,flU2,flF]; try exact rfl) (c_least1 (y := hlo s r * q.2) (row_flat (k := .exact) (fun _ => rfl) (by omega) (by first|assumption|(simp (disch:=omega) only [get_same,get_other]; first|done|exact rfl)))) (fun n1 hn1 => ?_)
  repeat' first
   | refine r_nil ?_
   | refine th_n ?_
   | refine w_seq ?_
   | refine w_reg ?_
   | refine r_move (by simp (disch:=first|decide|(simp only[zF,zG];decide)) only [zA,zB,zC,zD,zE,zF,zG,zH,zI,zJ,zK,HV.cells,fl0,fl2,flS,flS1,flI1,flU1,flU2,flF]; try exact rfl) ?_
   | refine r_fa (by simp (disch:=first|decide|(simp only[zF,zG];decide)) only [zA,zB,zC,zD,zE,zF,zG,zH,zI,zJ,zK,HV.cells,fl0,fl2,flS,flS1,flI1,flU1,flU2,flF]; try exact rfl) ?_
   | refine r_ld1 (by simp (disch:=first|decide|(simp only[zF,zG];decide)) only [zA,zB,zC,zD,zE,zF,zG,zH,zI,zJ,zK,HV.cells,fl0,fl2,flS,flS1,flI1,flU1,flU2,flF]; try exact rfl) (by first|assumption|(simp (disch:=omega) only [get_same,get_other]; first|done|exact rfl)) (by first|assumption|exact ow2 _ _ _ _|exact ow3 _ _ _ _ _ _|rfl|(simp only [zI,zJ,HV.cells]; exact rfl)) ?_
   | refine r_mul (by simp (disch:=first|decide|(simp only[zF,zG];decide)) only [zA,zB,zC,zD,zE,zF,zG,zH,zI,zJ,zK,HV.cells,fl0,fl2,flS,flS1,flI1,flU1,flU2,flF]; try exact rfl) (by simp (disch:=first|decide|(simp only[zF,zG];decide)) only [zA,zB,zC,zD,zE,zF,zG,zH,zI,zJ,zK,HV.cells,fl0,fl2,flS,flS1,flI1,flU1,flU2,flF]; try exact rfl) (by omega) (by omega) ?_
   | refine r_bs (by simp (disch:=first|decide|(simp only[zF,zG];decide)) only [evParts,List.map_cons,List.map_nil,List.nil_append,List.cons_append,List.append_nil,zA,zB,zC,zD,zE,zF,zG,zH,zI,zJ,zK,HV.cells,fl0,fl2,flS,flS1,flI1,flU1,flU2,flF]; try exact rfl) ?_
   | fail
  refine r_calls (by simp (disch:=first|decide|(simp only[zF,zG];decide)) only [zA,zB,zC,zD,zE,zF,zG,zH,zI,zJ,zK,HV.cells,fl0,fl2,flS,flS1,flI1,flU1,flU2,flF]; try exact rfl) (by simp (disch:=first|decide|(simp only[zF,zG];decide)) only [List.map_cons,List.map_nil,List.nil_append,List.cons_append,List.append_nil,zA,zB,zC,zD,zE,zF,zG,zH,zI,zJ,zK,HV.cells,fl0,fl2,flS,flS1,flI1,flU1,flU2,flF]; try exact rfl) (c_greatest1 (y := hhi s r * q.2) (row_flat (k := .exact) (fun _ => rfl) (by omega) (by first|assumption|(simp (disch:=omega) only [get_same,get_other]; first|done|exact rfl)))) (fun n2 hn2 => ?_)
  repeat' first
   | refine r_nil ?_
   | refine th_n ?_
   | refine w_seq ?_
   | refine w_ret ?_
   | refine r_move (by simp (disch:=first|decide|(simp only[zF,zG];decide)) only [zA,zB,zC,zD,zE,zF,zG,zH,zI,zJ,zK,HV.cells,fl0,fl2,flS,flS1,flI1,flU1,flU2,flF]; try exact rfl) ?_
   | refine r_ldn (by simp (disch:=first|decide|(simp only[zF,zG];decide)) only [zA,zB,zC,zD,zE,zF,zG,zH,zI,zJ,zK,HV.cells,fl0,fl2,flS,flS1,flI1,flU1,flU2,flF]; try exact rfl) (by first|assumption|(simp (disch:=omega) only [get_same,get_other]; first|done|exact rfl)) (by first|assumption|exact ow2 _ _ _ _|exact ow3 _ _ _ _ _ _|rfl|(simp only [zI,zJ,HV.cells]; exact rfl)) ?_
   | refine r_st (cs' := _) (by simp (disch:=first|decide|(simp only[zF,zG];decide)) only [zA,zB,zC,zD,zE,zF,zG,zH,zI,zJ,zK,HV.cells,fl0,fl2,flS,flS1,flI1,flU1,flU2,flF]; try exact rfl) (by simp (disch:=first|decide|(simp only[zF,zG];decide)) only [zA,zB,zC,zD,zE,zF,zG,zH,zI,zJ,zK,HV.cells,fl0,fl2,flS,flS1,flI1,flU1,flU2,flF]; try exact rfl) (by first|assumption|(simp (disch:=omega) only [get_same,get_other]; first|done|exact rfl)) (by exact True.intro) (by rfl) (by rfl) (by first|assumption|exact ow2 _ _ _ _|exact ow3 _ _ _ _ _ _|rfl|(simp only [zI,zJ,HV.cells]; exact rfl)) (by omega) ?_
   | refine r_calls (by simp (disch:=first|decide|(simp only[zF,zG];decide)) only [zA,zB,zC,zD,zE,zF,zG,zH,zI,zJ,zK,HV.cells,fl0,fl2,flS,flS1,flI1,flU1,flU2,flF]; try exact rfl) (by simp (disch:=first|decide|(simp only[zF,zG];decide)) only [List.map_cons,List.map_nil,List.nil_append,List.cons_append,List.append_nil,zA,zB,zC,zD,zE,zF,zG,zH,zI,zJ,zK,HV.cells,fl0,fl2,flS,flS1,flI1,flU1,flU2,flF]; first|done|exact rfl) c_outward (fun n' hn' => ?_)
   | refine r_calls (by simp (disch:=first|decide|(simp only[zF,zG];decide)) only [zA,zB,zC,zD,zE,zF,zG,zH,zI,zJ,zK,HV.cells,fl0,fl2,flS,flS1,flI1,flU1,flU2,flF]; try exact rfl) (by simp (disch:=first|decide|(simp only[zF,zG];decide)) only [List.map_cons,List.map_nil,List.nil_append,List.cons_append,List.append_nil,zA,zB,zC,zD,zE,zF,zG,zH,zI,zJ,zK,HV.cells,fl0,fl2,flS,flS1,flI1,flU1,flU2,flF]; first|done|exact rfl) (cG _ _ _ _) (fun n' hn' => ?_)
   | refine r_calls (by simp (disch:=first|decide|(simp only[zF,zG];decide)) only [zA,zB,zC,zD,zE,zF,zG,zH,zI,zJ,zK,HV.cells,fl0,fl2,flS,flS1,flI1,flU1,flU2,flF]; try exact rfl) (by simp (disch:=first|decide|(simp only[zF,zG];decide)) only [List.map_cons,List.map_nil,List.nil_append,List.cons_append,List.append_nil,zA,zB,zC,zD,zE,zF,zG,zH,zI,zJ,zK,HV.cells,fl0,fl2,flS,flS1,flI1,flU1,flU2,flF]; first|done|exact rfl) (cO _ _ _ (by (repeat' first|assumption|refine D.upd ?_ (by omega)|exact D.mono (by assumption) (by omega)) <;> fail)) (fun n' hn' => ?_)
   | refine w_draw (by omega) (by (repeat' first|assumption|refine D.upd ?_ (by omega)|exact D.mono (by assumption) (by omega)) <;> fail) ?_
   | refine d_rest rfl ?_
   | refine d_one rfl ?_
   | refine d_next (by omega) ?_
   | fail
  exact fin_m (by simp only [zL,zM]) (res_c (by simp (disch:=first|decide|(simp only[zF,zG];decide)) only [zA,zB,zC,zD,zE,zF,zG,zH,zI,zJ,zK,HV.cells,fl0,fl2,flS,flS1,flI1,flU1,flU2,flF]; try exact rfl) (by first|assumption|(simp (disch:=omega) only [get_same,get_other]; first|done|exact rfl)) rfl res_nil) (sc_flat rfl (by dsimp only; omega) rfl)
end Go.Hx

/- Layer 3: the functions of the law and of the reference. -/
namespace Go.Hx
set_option linter.unusedSimpArgs false
set_option linter.unusedVariables false
set_option maxRecDepth 20000
set_option maxHeartbeats 4000000
attribute [local irreducible] W R C thenH inBlockH
def RB (r : Int × Int) : Prop := r.1 ≤ r.2 ∧ -2000000 ≤ r.1 ∧ r.2 ≤ 2000000
theorem ROk.rb {r : Int × Int} (h : ROk r.1 r.2) : RB r := by unfold ROk at h; unfold RB; omega
/-- Has a reading on one scale a height in common with readings on another one? -/
def Mts (s : Int × Int) (q : Int) (o r : Int × Int) : Prop := hlo s (q, q) * (2 * dg o) ≤ hhi o r * (2 * dg s) ∧ hlo o r * (2 * dg s) ≤ hhi s (q, q) * (2 * dg o)
instance (s : Int × Int) (q : Int) (o r : Int × Int) : Decidable (Mts s q o r) := by unfold Mts; infer_instance
def scl (l : List (Int × Int)) (r : Int × Int) : Int := if l.length ≤ 8 then (if LOk l then (if ROk r.1 r.2 then 0 else 2) else 1) else 3
/- 21 -/
theorem loop21 {fl : Nat} {h0 : Tr HBlk} {n0 rb : Nat} {Q : HExit → HAct → HS → Prop} {p : Option (Nat × Nat)} {l : List (Int × Int)} {cp : Nat} {t3 : HV} (hlen : l.length < 1000000000) (hfl : fl ≤ n0) :
    ∀ (m i : Nat) (a : HAct) (h : Tr HBlk) (nx : Nat), m + i = l.length → Ext h0 n0 h nx → Row renc 2 h nx p l → a.nt = 24 → a.defers = [] → a.tmp 0 = .slice p l.length cp → a.tmp 3 = t3 → a.tmp 5 = i64 i →
      (∀ a' h' n', Ext h0 n0 h' n' → a'.nt = 24 → a'.defers = [] → a'.tmp 3 = t3 → (∀ r ∈ l.drop i, SOk r.1 r.2) → Q .normal a' ⟨h', n'⟩) →
      (∀ a' h' n', Ext h0 n0 h' n' → a'.nt = 24 → a'.defers = [] → a'.tmp 4 = i64 1 → ¬ (∀ r ∈ l.drop i, SOk r.1 r.2) → Q .ret a' ⟨h', n'⟩) → W LW fl none (.loop L21w0) (inBlockH 0 Q) a ⟨h, nx⟩
  | 0, i, a, h, nx, hm, he, hrow, hnt, hds, h0', h3, h5, hq, hr => by
    have hle := he.le
    refine w_it (show L21w0 = _ by unfold L21w0; exact rfl) ?_
    repeat' first
     | refine r_nil ?_
     | refine th_n ?_
     | refine th_e ?_
     | refine ib_e ?_
     | refine w_exit ?_
     | refine w_seq ?_
     | refine w_reg ?_
     | refine w_f (by simp (disch:=first|decide|(simp only[zF,zG,hnt, h0', h3, h5];decide)) only [zA,zB,zC,zD,zE,zF,zG,zH,zI,zJ,zK,HV.cells,fl0,fl2,flS,flS1,flI1,flU1,flU2,flF,hnt, h0', h3, h5]; first|done|exact rfl) ?_
     | refine r_move (by simp (disch:=first|decide|(simp only[zF,zG,hnt, h0', h3, h5];decide)) only [zA,zB,zC,zD,zE,zF,zG,zH,zI,zJ,zK,HV.cells,fl0,fl2,flS,flS1,flI1,flU1,flU2,flF,hnt, h0', h3, h5]; try exact rfl) ?_
     | refine r_lss (by simp (disch:=first|decide|(simp only[zF,zG,hnt, h0', h3, h5];decide)) only [zA,zB,zC,zD,zE,zF,zG,zH,zI,zJ,zK,HV.cells,fl0,fl2,flS,flS1,flI1,flU1,flU2,flF,hnt, h0', h3, h5]; try exact rfl) (by simp (disch:=first|decide|(simp only[zF,zG,hnt, h0', h3, h5];decide)) only [zA,zB,zC,zD,zE,zF,zG,zH,zI,zJ,zK,HV.cells,fl0,fl2,flS,flS1,flI1,flU1,flU2,flF,hnt, h0', h3, h5]; try exact rfl) (fun hc => ?_) (fun hc => ?_) <;> (try (exfalso; omega))
     | refine r_len (by simp (disch:=first|decide|(simp only[zF,zG,hnt, h0', h3, h5];decide)) only [zA,zB,zC,zD,zE,zF,zG,zH,zI,zJ,zK,HV.cells,fl0,fl2,flS,flS1,flI1,flU1,flU2,flF,hnt, h0', h3, h5]; try exact rfl) ?_
     | fail
    refine hq _ _ _ he ?_ ?_ ?_ (fun r hr => by rw [List.drop_of_length_le (by omega)] at hr; cases hr)
    all_goals first|(simp only [zL,zM,zF,zG,hnt, hds, h3];done)|(simp (disch:=first|decide|(simp only[zF,zG,hnt, hds, h3];decide)) only [zA,zB,zC,zD,zE,zF,zG,zH,zI,zJ,zK,HV.cells,fl0,fl2,flS,flS1,flI1,flU1,flU2,flF,hnt, hds, h3];first|done|exact rfl)|assumption
  | m + 1, i, a, h, nx, hm, he, hrow, hnt, hds, h0', h3, h5, hq, hr => by
    have hi : i < l.length := by omega
    have hrow0 := hrow
    obtain ⟨b, o, cs, kk, rfl, hb, hg, hcs⟩ := hrow (by intro e; rw [e] at hi; simp at hi)
    have hy : l[i]? = some l[i] := by simp [hi]
    have e0 := hcs i _ hy
    have hf' : ∀ fl h' n', C LW fl 20 [.agg (renc l[i])] ⟨h', n'⟩ (Sc (· = .bool (decide (SOk l[i].1 l[i].2))) ⟨h', n'⟩) := fun fl h' n' => c_IsScale
    have hd := he.d
    have hle := he.le
    have hdrop := List.drop_eq_getElem_cons hi
    refine w_it (show L21w0 = _ by unfold L21w0; exact rfl) ?_
    repeat' first
     | refine r_nil ?_
     | refine th_n ?_
     | refine th_r ?_
     | refine ib_n ?_
     | refine ib_r ?_
     | refine w_seq ?_
     | refine w_reg ?_
     | refine w_ret ?_
     | refine w_skip ?_
     | refine w_block ?_
     | refine w_t (by simp (disch:=first|decide|(simp only[zF,zG,hnt, h0', h3, h5];decide)) only [zA,zB,zC,zD,zE,zF,zG,zH,zI,zJ,zK,HV.cells,fl0,fl2,flS,flS1,flI1,flU1,flU2,flF,hnt, h0', h3, h5]; first|done|exact rfl) ?_
     | refine w_f (by simp (disch:=first|decide|(simp only[zF,zG,hnt, h0', h3, h5];decide)) only [zA,zB,zC,zD,zE,zF,zG,zH,zI,zJ,zK,HV.cells,fl0,fl2,flS,flS1,flI1,flU1,flU2,flF,hnt, h0', h3, h5]; first|done|exact rfl) ?_
     | refine r_move (by simp (disch:=first|decide|(simp only[zF,zG,hnt, h0', h3, h5];decide)) only [zA,zB,zC,zD,zE,zF,zG,zH,zI,zJ,zK,HV.cells,fl0,fl2,flS,flS1,flI1,flU1,flU2,flF,hnt, h0', h3, h5]; try exact rfl) ?_
     | refine r_ldn (by simp (disch:=first|decide|(simp only[zF,zG,hnt, h0', h3, h5];decide)) only [zA,zB,zC,zD,zE,zF,zG,zH,zI,zJ,zK,HV.cells,fl0,fl2,flS,flS1,flI1,flU1,flU2,flF,hnt, h0', h3, h5]; try exact rfl) (by first|assumption|(simp (disch:=omega) only [get_same,get_other,hnt, h0', h3, h5]; first|done|exact rfl)) (by first|assumption|exact ow2 _ _ _ _|exact ow3 _ _ _ _ _ _|rfl|(simp only [zI,zJ,HV.cells,hnt, h0', h3, h5]; exact rfl)) ?_
     | refine r_add (by simp (disch:=first|decide|(simp only[zF,zG,hnt, h0', h3, h5];decide)) only [zA,zB,zC,zD,zE,zF,zG,zH,zI,zJ,zK,HV.cells,fl0,fl2,flS,flS1,flI1,flU1,flU2,flF,hnt, h0', h3, h5]; try exact rfl) (by simp (disch:=first|decide|(simp only[zF,zG,hnt, h0', h3, h5];decide)) only [zA,zB,zC,zD,zE,zF,zG,zH,zI,zJ,zK,HV.cells,fl0,fl2,flS,flS1,flI1,flU1,flU2,flF,hnt, h0', h3, h5]; try exact rfl) (by omega) (by omega) ?_
     | refine r_lss (by simp (disch:=first|decide|(simp only[zF,zG,hnt, h0', h3, h5];decide)) only [zA,zB,zC,zD,zE,zF,zG,zH,zI,zJ,zK,HV.cells,fl0,fl2,flS,flS1,flI1,flU1,flU2,flF,hnt, h0', h3, h5]; try exact rfl) (by simp (disch:=first|decide|(simp only[zF,zG,hnt, h0', h3, h5];decide)) only [zA,zB,zC,zD,zE,zF,zG,zH,zI,zJ,zK,HV.cells,fl0,fl2,flS,flS1,flI1,flU1,flU2,flF,hnt, h0', h3, h5]; try exact rfl) (fun hc => ?_) (fun hc => ?_) <;> (try (exfalso; omega))
     | refine r_not1 (by simp (disch:=first|decide|(simp only[zF,zG,hnt, h0', h3, h5];decide)) only [zA,zB,zC,zD,zE,zF,zG,zH,zI,zJ,zK,HV.cells,fl0,fl2,flS,flS1,flI1,flU1,flU2,flF,hnt, h0', h3, h5]; try exact rfl) ?_
     | refine r_len (by simp (disch:=first|decide|(simp only[zF,zG,hnt, h0', h3, h5];decide)) only [zA,zB,zC,zD,zE,zF,zG,zH,zI,zJ,zK,HV.cells,fl0,fl2,flS,flS1,flI1,flU1,flU2,flF,hnt, h0', h3, h5]; try exact rfl) ?_
     | refine r_ixs (by simp (disch:=first|decide|(simp only[zF,zG,hnt, h0', h3, h5];decide)) only [zA,zB,zC,zD,zE,zF,zG,zH,zI,zJ,zK,HV.cells,fl0,fl2,flS,flS1,flI1,flU1,flU2,flF,hnt, h0', h3, h5]; try exact rfl) (by simp (disch:=first|decide|(simp only[zF,zG,hnt, h0', h3, h5];decide)) only [zA,zB,zC,zD,zE,zF,zG,zH,zI,zJ,zK,HV.cells,fl0,fl2,flS,flS1,flI1,flU1,flU2,flF,hnt, h0', h3, h5]; try exact rfl) (by omega) ?_
     | refine r_calld (by simp (disch:=first|decide|(simp only[zF,zG,hnt, h0', h3, h5];decide)) only [zA,zB,zC,zD,zE,zF,zG,zH,zI,zJ,zK,HV.cells,fl0,fl2,flS,flS1,flI1,flU1,flU2,flF,hnt, h0', h3, h5]; try exact rfl) (by simp (disch:=first|decide|(simp only[zF,zG,hnt, h0', h3, h5];decide)) only [List.map_cons,List.map_nil,List.nil_append,List.cons_append,List.append_nil,zA,zB,zC,zD,zE,zF,zG,zH,zI,zJ,zK,HV.cells,fl0,fl2,flS,flS1,flI1,flU1,flU2,flF,hnt, h0', h3, h5]; first|done|exact rfl) (hf' _ _ _) (fun n' hn' hc => ?_) (fun n' hn' hc => ?_) <;> (try (exfalso; omega))
     | fail
    · refine loop21 (rb := rb) (cp := cp) hlen hfl m (i + 1) _ _ _ (by omega) (by repeat' first|assumption|refine Ext.put ?_ (by omega) (by omega)|exact Ext.up (by assumption) (by omega)|exact Ext.nx (by assumption) (by omega)) (Row.ext hrow0 (h' := _) (n' := _) (by repeat' first|assumption|refine Ext.put ?_ (by omega) (by omega)|exact Ext.up (by assumption) (by omega)|exact Ext.nx (by assumption) (by omega))) ?_ ?_ ?_ ?_ ?_ (fun a' h' n2 g1 g2 g3 g4 g5 => hq a' h' n2 g1 g2 g3 g4 ?_) (fun a' h' n2 g1 g2 g3 g4 g5 => hr a' h' n2 g1 g2 g3 g4 ?_)
      all_goals try first|(simp only [zL,zM,zF,zG,hnt, hds, h0', h3, h5];done)|(simp (disch:=first|decide|(simp only[zF,zG,hnt, hds, h0', h3, h5];decide)) only [zA,zB,zC,zD,zE,zF,zG,zH,zI,zJ,zK,HV.cells,fl0,fl2,flS,flS1,flI1,flU1,flU2,flF,hnt, hds, h0', h3, h5];first|done|exact rfl)|assumption
      · rw [hdrop]; intro r hr; rcases List.mem_cons.1 hr with e | e
        · rw [e]; exact hc
        · exact g5 r e
      · rw [hdrop]; exact fun e => g5 fun r hr => e r (List.mem_cons_of_mem _ hr)
    · refine hr _ _ _ (by repeat' first|assumption|refine Ext.put ?_ (by omega) (by omega)|exact Ext.up (by assumption) (by omega)|exact Ext.nx (by assumption) (by omega)) ?_ ?_ ?_ (fun e => hc (e _ (by rw [hdrop]; exact List.mem_cons_self ..)))
      all_goals first|(simp only [zL,zM,zF,zG,hnt, hds];done)|(simp (disch:=first|decide|(simp only[zF,zG,hnt, hds];decide)) only [zA,zB,zC,zD,zE,zF,zG,zH,zI,zJ,zK,HV.cells,fl0,fl2,flS,flS1,flI1,flU1,flU2,flF,hnt, hds];first|done|exact rfl)|assumption
theorem c_scaled {fl : Nat} {h : Tr HBlk} {nx : Nat} (hd : D h nx) {p : Option (Nat × Nat)} {l : List (Int × Int)} {r : Int × Int} {n cp : Nat} (hn : n = l.length) (hlen : l.length < 1000000000) (hrow : Row renc 2 h nx p l) :
    C LW fl 21 [.slice p n cp, .agg (renc r)] ⟨h, nx⟩ (Sc (· = i64 (scl l r)) ⟨h, nx⟩) := by
  subst hn
  refine c_in lw21 rfl rfl rfl ?_
  dsimp only [L21]
  repeat' first
   | refine r_nil ?_
   | refine th_n ?_
   | refine th_r ?_
   | refine w_seq ?_
   | refine w_reg ?_
   | refine w_ret ?_
   | refine w_skip ?_
   | refine w_block ?_
   | refine w_t (by simp (disch:=first|decide|(simp only[zF,zG];decide)) only [zA,zB,zC,zD,zE,zF,zG,zH,zI,zJ,zK,HV.cells,fl0,fl2,flS,flS1,flI1,flU1,flU2,flF]; first|done|exact rfl) ?_
   | refine w_f (by simp (disch:=first|decide|(simp only[zF,zG];decide)) only [zA,zB,zC,zD,zE,zF,zG,zH,zI,zJ,zK,HV.cells,fl0,fl2,flS,flS1,flI1,flU1,flU2,flF]; first|done|exact rfl) ?_
   | refine r_move (by simp (disch:=first|decide|(simp only[zF,zG];decide)) only [zA,zB,zC,zD,zE,zF,zG,zH,zI,zJ,zK,HV.cells,fl0,fl2,flS,flS1,flI1,flU1,flU2,flF]; try exact rfl) ?_
   | refine r_box (by simp (disch:=first|decide|(simp only[zF,zG];decide)) only [zA,zB,zC,zD,zE,zF,zG,zH,zI,zJ,zK,HV.cells,fl0,fl2,flS,flS1,flI1,flU1,flU2,flF]; try exact rfl) ?_
   | refine r_gtr (by simp (disch:=first|decide|(simp only[zF,zG];decide)) only [zA,zB,zC,zD,zE,zF,zG,zH,zI,zJ,zK,HV.cells,fl0,fl2,flS,flS1,flI1,flU1,flU2,flF]; try exact rfl) (by simp (disch:=first|decide|(simp only[zF,zG];decide)) only [zA,zB,zC,zD,zE,zF,zG,zH,zI,zJ,zK,HV.cells,fl0,fl2,flS,flS1,flI1,flU1,flU2,flF]; try exact rfl) (fun hc => ?_) (fun hc => ?_) <;> (try (exfalso; omega))
   | refine r_len (by simp (disch:=first|decide|(simp only[zF,zG];decide)) only [zA,zB,zC,zD,zE,zF,zG,zH,zI,zJ,zK,HV.cells,fl0,fl2,flS,flS1,flI1,flU1,flU2,flF]; try exact rfl) ?_
   | fail
  case refine_1 =>
    refine fin_r (by simp only [zL,zM]) (by simp (disch:=first|decide|(simp only[zF,zG];decide)) only [zA,zB,zC,zD,zE,zF,zG,zH,zI,zJ,zK,HV.cells,fl0,fl2,flS,flS1,flI1,flU1,flU2,flF]; try exact rfl) (sc_flat rfl (by dsimp only; omega) ?_)
    unfold scl
    rw [if_neg (by omega)]
  have hx : Ext h nx (h.set nx (some (.cells (renc r) .exact))) (nx + 1) := (by repeat' first|assumption|refine Ext.put ?_ (by omega) (by omega)|exact Ext.up (by assumption) (by omega)|exact Ext.nx (by assumption) (by omega))
  refine loop21 (h0 := h.set nx (some (.cells (renc r) .exact))) (n0 := nx + 1) (rb := nx) (t3 := .ptr (some (nx, 0))) (cp := cp) hlen (by omega) l.length 0 _ _ _ (by omega) (Ext.refl (by (repeat' first|assumption|refine D.upd ?_ (by omega)|exact D.mono (by assumption) (by omega)) <;> fail)) (hrow.ext hx) ?_ ?_ ?_ ?_ ?_ (fun a' h' n2 g1 g2 g3 g4 g5 => ?_) (fun a' h' n2 g1 g2 g3 g4 g5 => ?_)
  all_goals try first|(simp only [zL,zM,zF,zG];done)|(simp (disch:=first|decide|(simp only[zF,zG];decide)) only [zA,zB,zC,zD,zE,zF,zG,zH,zI,zJ,zK,HV.cells,fl0,fl2,flS,flS1,flI1,flU1,flU2,flF];first|done|exact rfl)|assumption
  · have hle := g1.le
    have hgr : h'.get nx = some (.cells (renc r) .exact) := by rw [g1.same _ (by omega)]; exact get_same _ _ _
    have hA : LOk l := by rw [List.drop_zero] at g5; exact g5
    repeat' first
     | refine r_nil ?_
     | refine th_n ?_
     | refine th_r ?_
     | refine w_seq ?_
     | refine w_reg ?_
     | refine w_ret ?_
     | refine w_skip ?_
     | refine w_t (by simp (disch:=first|decide|(simp only[zF,zG,g2, g4];decide)) only [zA,zB,zC,zD,zE,zF,zG,zH,zI,zJ,zK,HV.cells,fl0,fl2,flS,flS1,flI1,flU1,flU2,flF,g2, g4]; first|done|exact rfl) ?_
     | refine w_f (by simp (disch:=first|decide|(simp only[zF,zG,g2, g4];decide)) only [zA,zB,zC,zD,zE,zF,zG,zH,zI,zJ,zK,HV.cells,fl0,fl2,flS,flS1,flI1,flU1,flU2,flF,g2, g4]; first|done|exact rfl) ?_
     | refine r_move (by simp (disch:=first|decide|(simp only[zF,zG,g2, g4];decide)) only [zA,zB,zC,zD,zE,zF,zG,zH,zI,zJ,zK,HV.cells,fl0,fl2,flS,flS1,flI1,flU1,flU2,flF,g2, g4]; try exact rfl) ?_
     | refine r_ldn (by simp (disch:=first|decide|(simp only[zF,zG,g2, g4];decide)) only [zA,zB,zC,zD,zE,zF,zG,zH,zI,zJ,zK,HV.cells,fl0,fl2,flS,flS1,flI1,flU1,flU2,flF,g2, g4]; try exact rfl) (by first|assumption|(simp (disch:=omega) only [get_same,get_other,g2, g4]; first|done|exact rfl)) (by first|assumption|exact ow2 _ _ _ _|exact ow3 _ _ _ _ _ _|rfl|(simp only [zI,zJ,HV.cells,g2, g4]; exact rfl)) ?_
     | refine r_not1 (by simp (disch:=first|decide|(simp only[zF,zG,g2, g4];decide)) only [zA,zB,zC,zD,zE,zF,zG,zH,zI,zJ,zK,HV.cells,fl0,fl2,flS,flS1,flI1,flU1,flU2,flF,g2, g4]; try exact rfl) ?_
     | refine r_calld (by simp (disch:=first|decide|(simp only[zF,zG,g2, g4];decide)) only [zA,zB,zC,zD,zE,zF,zG,zH,zI,zJ,zK,HV.cells,fl0,fl2,flS,flS1,flI1,flU1,flU2,flF,g2, g4]; try exact rfl) (by simp (disch:=first|decide|(simp only[zF,zG,g2, g4];decide)) only [List.map_cons,List.map_nil,List.nil_append,List.cons_append,List.append_nil,zA,zB,zC,zD,zE,zF,zG,zH,zI,zJ,zK,HV.cells,fl0,fl2,flS,flS1,flI1,flU1,flU2,flF,g2, g4]; first|done|exact rfl) (c_AreReadings) (fun n' hn' hc => ?_) (fun n' hn' hc => ?_) <;> (try (exfalso; omega))
     | fail
    · refine fin_r (by simp only [zL, g3]) (by simp (disch:=first|decide|(simp only[zF,zG,g2];decide)) only [zA,zB,zC,zD,zE,zF,zG,zH,zI,zJ,zK,HV.cells,fl0,fl2,flS,flS1,flI1,flU1,flU2,flF,g2]; try exact rfl) (sc_flat rfl (by dsimp only; omega) ?_)
      unfold scl
      rw [if_pos (by omega), if_pos hA, if_pos (by assumption)]
    · refine fin_r (by simp only [zL, g3]) (by simp (disch:=first|decide|(simp only[zF,zG,g2];decide)) only [zA,zB,zC,zD,zE,zF,zG,zH,zI,zJ,zK,HV.cells,fl0,fl2,flS,flS1,flI1,flU1,flU2,flF,g2]; try exact rfl) (sc_flat rfl (by dsimp only; omega) ?_)
      unfold scl
      rw [if_pos (by omega), if_pos hA, if_neg (by assumption)]
  · have hle := g1.le
    have hA : ¬ LOk l := by rw [List.drop_zero] at g5; exact g5
    repeat' first
     | refine th_r ?_
     | fail
    refine fin_r (by simp only [zL, g3]) (by simp (disch:=first|decide|(simp only[zF,zG,g2, g4];decide)) only [zA,zB,zC,zD,zE,zF,zG,zH,zI,zJ,zK,HV.cells,fl0,fl2,flS,flS1,flI1,flU1,flU2,flF,g2, g4]; try exact rfl) (sc_flat rfl (by dsimp only; omega) ?_)
    unfold scl
    rw [if_pos (by omega), if_neg hA]
def Rdy (l : List (Int × Int)) (r : Int × Int) : Prop := scl l r = 0 ∧ -400 ≤ r.1 ∧ r.2 ≤ 400
instance (l : List (Int × Int)) (r : Int × Int) : Decidable (Rdy l r) := by unfold Rdy; infer_instance
/- 48 -/
theorem c_ready {fl : Nat} {h : Tr HBlk} {nx : Nat} (hd : D h nx) {p : Option (Nat × Nat)} {l : List (Int × Int)} {r : Int × Int} {n cp : Nat} (hn : n = l.length) (hlen : l.length < 1000000000) (hrow : Row renc 2 h nx p l) :
    C LW fl 48 [.slice p n cp, .agg (renc r)] ⟨h, nx⟩ (Sc (· = .bool (decide (Rdy l r))) ⟨h, nx⟩) := by
  subst hn
  have cS : ∀ fl h' n', Ext h nx h' n' → C LW fl 21 [.slice p l.length cp, .agg (renc r)] ⟨h', n'⟩ (Sc (· = i64 (scl l r)) ⟨h', n'⟩) := fun fl h' n' e => c_scaled e.d rfl hlen (hrow.ext e)
  refine c_in lw48 rfl rfl rfl ?_
  dsimp only [L48]
  repeat' first
   | refine r_nil ?_
   | refine th_n ?_
   | refine w_seq ?_
   | refine w_reg ?_
   | refine w_ret ?_
   | refine r_take (by simp (disch:=first|decide|(simp only[zF,zG];decide)) only [zA,zB,zC,zD,zE,zF,zG,zH,zI,zJ,zK,HV.cells,fl0,fl2,flS,flS1,flI1,flU1,flU2,flF]; first|done|exact rfl) ?_
   | refine r_drop (by simp (disch:=first|decide|(simp only[zF,zG,Bool.not_true,Bool.not_false];decide)) only [zA,zB,zC,zD,zE,zF,zG,zH,zI,zJ,zK,HV.cells,fl0,fl2,flS,flS1,flI1,flU1,flU2,flF,Bool.not_true,Bool.not_false]; first|done|exact rfl) ?_
   | refine r_move (by simp (disch:=first|decide|(simp only[zF,zG];decide)) only [zA,zB,zC,zD,zE,zF,zG,zH,zI,zJ,zK,HV.cells,fl0,fl2,flS,flS1,flI1,flU1,flU2,flF]; try exact rfl) ?_
   | refine r_fa (by simp (disch:=first|decide|(simp only[zF,zG];decide)) only [zA,zB,zC,zD,zE,zF,zG,zH,zI,zJ,zK,HV.cells,fl0,fl2,flS,flS1,flI1,flU1,flU2,flF]; try exact rfl) ?_
   | refine r_ld1 (by simp (disch:=first|decide|(simp only[zF,zG];decide)) only [zA,zB,zC,zD,zE,zF,zG,zH,zI,zJ,zK,HV.cells,fl0,fl2,flS,flS1,flI1,flU1,flU2,flF]; try exact rfl) (by first|assumption|(simp (disch:=omega) only [get_same,get_other]; first|done|exact rfl)) (by first|assumption|exact ow2 _ _ _ _|exact ow3 _ _ _ _ _ _|rfl|(simp only [zI,zJ,HV.cells]; exact rfl)) ?_
   | refine r_ldn (by simp (disch:=first|decide|(simp only[zF,zG];decide)) only [zA,zB,zC,zD,zE,zF,zG,zH,zI,zJ,zK,HV.cells,fl0,fl2,flS,flS1,flI1,flU1,flU2,flF]; try exact rfl) (by first|assumption|(simp (disch:=omega) only [get_same,get_other]; first|done|exact rfl)) (by first|assumption|exact ow2 _ _ _ _|exact ow3 _ _ _ _ _ _|rfl|(simp only [zI,zJ,HV.cells]; exact rfl)) ?_
   | refine r_box (by simp (disch:=first|decide|(simp only[zF,zG];decide)) only [zA,zB,zC,zD,zE,zF,zG,zH,zI,zJ,zK,HV.cells,fl0,fl2,flS,flS1,flI1,flU1,flU2,flF]; try exact rfl) ?_
   | refine r_leq (by simp (disch:=first|decide|(simp only[zF,zG];decide)) only [zA,zB,zC,zD,zE,zF,zG,zH,zI,zJ,zK,HV.cells,fl0,fl2,flS,flS1,flI1,flU1,flU2,flF]; try exact rfl) (by simp (disch:=first|decide|(simp only[zF,zG];decide)) only [zA,zB,zC,zD,zE,zF,zG,zH,zI,zJ,zK,HV.cells,fl0,fl2,flS,flS1,flI1,flU1,flU2,flF]; try exact rfl) (fun hc => ?_) (fun hc => ?_) <;> (try (exfalso; omega))
   | refine r_geq (by simp (disch:=first|decide|(simp only[zF,zG];decide)) only [zA,zB,zC,zD,zE,zF,zG,zH,zI,zJ,zK,HV.cells,fl0,fl2,flS,flS1,flI1,flU1,flU2,flF]; try exact rfl) (by simp (disch:=first|decide|(simp only[zF,zG];decide)) only [zA,zB,zC,zD,zE,zF,zG,zH,zI,zJ,zK,HV.cells,fl0,fl2,flS,flS1,flI1,flU1,flU2,flF]; try exact rfl) (fun hc => ?_) (fun hc => ?_) <;> (try (exfalso; omega))
   | refine r_eq (by simp (disch:=first|decide|(simp only[zF,zG];decide)) only [zA,zB,zC,zD,zE,zF,zG,zH,zI,zJ,zK,HV.cells,fl0,fl2,flS,flS1,flI1,flU1,flU2,flF]; try exact rfl) (by simp (disch:=first|decide|(simp only[zF,zG];decide)) only [zA,zB,zC,zD,zE,zF,zG,zH,zI,zJ,zK,HV.cells,fl0,fl2,flS,flS1,flI1,flU1,flU2,flF]; try exact rfl) (fun hc => ?_) (fun hc => ?_) <;> (try (exfalso; omega))
   | refine r_pt (by simp (disch:=first|decide|(simp only[zF,zG];decide)) only [zA,zB,zC,zD,zE,zF,zG,zH,zI,zJ,zK,HV.cells,fl0,fl2,flS,flS1,flI1,flU1,flU2,flF]; first|done|exact rfl) (by simp (disch:=first|decide|(simp only[zF,zG];decide)) only [zA,zB,zC,zD,zE,zF,zG,zH,zI,zJ,zK,HV.cells,fl0,fl2,flS,flS1,flI1,flU1,flU2,flF]; try exact rfl) ?_
   | refine r_pf (by simp (disch:=first|decide|(simp only[zF,zG];decide)) only [zA,zB,zC,zD,zE,zF,zG,zH,zI,zJ,zK,HV.cells,fl0,fl2,flS,flS1,flI1,flU1,flU2,flF]; first|done|exact rfl) (by simp (disch:=first|decide|(simp only[zF,zG];decide)) only [zA,zB,zC,zD,zE,zF,zG,zH,zI,zJ,zK,HV.cells,fl0,fl2,flS,flS1,flI1,flU1,flU2,flF]; try exact rfl) ?_
   | refine r_calls (by simp (disch:=first|decide|(simp only[zF,zG];decide)) only [zA,zB,zC,zD,zE,zF,zG,zH,zI,zJ,zK,HV.cells,fl0,fl2,flS,flS1,flI1,flU1,flU2,flF]; try exact rfl) (by simp (disch:=first|decide|(simp only[zF,zG];decide)) only [List.map_cons,List.map_nil,List.nil_append,List.cons_append,List.append_nil,zA,zB,zC,zD,zE,zF,zG,zH,zI,zJ,zK,HV.cells,fl0,fl2,flS,flS1,flI1,flU1,flU2,flF]; first|done|exact rfl) (cS _ _ _ (by repeat' first|assumption|refine Ext.put ?_ (by omega) (by omega)|exact Ext.up (by assumption) (by omega)|exact Ext.nx (by assumption) (by omega))) (fun n' hn' => ?_)
   | fail
  all_goals (refine fin_r (by simp only [zL,zM]) (by simp (disch:=first|decide|(simp only[zF,zG];decide)) only [zA,zB,zC,zD,zE,zF,zG,zH,zI,zJ,zK,HV.cells,fl0,fl2,flS,flS1,flI1,flU1,flU2,flF]; try exact rfl) (sc_flat rfl (by dsimp only; omega) ?_); first|rfl|(rw [decide_eq_true (by unfold Rdy at *; (try dsimp only at *); omega)])|(rw [decide_eq_false (by unfold Rdy at *; (try dsimp only at *); omega)]))
end Go.Hx

/- Layer 3: the arithmetic of what can stand on another scale. -/
namespace Go.Hx
theorem hlo_le {s r : Int × Int} (hr : r.1 ≤ r.2) : hlo s r + 2 ≤ hhi s r := by
  unfold hlo hhi tl th
  cases tn s.1 s.2 <;> simp only [if_true, if_false, Bool.false_eq_true] <;> omega
theorem slo_bd {s1 s2 r : Int × Int} (h : 1 ≤ dg s1) : hlo s1 r * dg s2 - dg s1 ≤ slo s1 s2 r * (2 * dg s1) ∧ (slo s1 s2 r - 1) * (2 * dg s1) < hlo s1 r * dg s2 - dg s1 := cd_bd (by omega)
theorem shi_bd {s1 s2 r : Int × Int} (h : 1 ≤ dg s1) : shi s1 s2 r * (2 * dg s1) ≤ hhi s1 r * dg s2 + dg s1 ∧ hhi s1 r * dg s2 + dg s1 < (shi s1 s2 r + 1) * (2 * dg s1) := fl_bd (by omega)
theorem slo_le {s1 s2 r : Int × Int} (h1 : 1 ≤ dg s1) (h2 : 1 ≤ dg s2) (hr : r.1 ≤ r.2) : slo s1 s2 r ≤ shi s1 s2 r := by
  have a := slo_bd (s1 := s1) (s2 := s2) (r := r) h1
  refine (fl_iff (by omega)).2 ?_
  have b := Int.mul_le_mul_of_nonneg_right (hlo_le (s := s1) hr) (show 0 ≤ dg s2 by omega)
  have e : (slo s1 s2 r - 1) * (2 * dg s1) = slo s1 s2 r * (2 * dg s1) - 2 * dg s1 := by rw [Int.sub_mul, Int.one_mul]
  rw [Int.add_mul] at b
  omega
theorem son_le {s1 s2 r : Int × Int} (h1 : 1 ≤ dg s1) (h2 : 1 ≤ dg s2) (hr : r.1 ≤ r.2) : (son s1 s2 r).1 ≤ (son s1 s2 r).2 := by
  have a := slo_le (s1 := s1) (s2 := s2) h1 h2 hr
  unfold son tl th
  dsimp only
  cases tn s2.1 s2.2 <;> simp only [if_true, if_false, Bool.false_eq_true] <;> omega
end Go.Hx

/- Layer 3: the laws of P3.1, P3.7, P3.8. -/
namespace Go.Hx
set_option linter.unusedSimpArgs false
set_option linter.unusedVariables false
set_option maxRecDepth 20000
set_option maxHeartbeats 4000000
attribute [local irreducible] W R C thenH inBlockH
theorem chk_scl {l : List (Int × Int)} {r : Int × Int} (h : l.length ≠ 0) : chkR l r = scl l r := by
  unfold chkR chkS scl
  by_cases h1 : l.length ≤ 8
  · rw [if_pos h1, if_pos h1]
    by_cases h2 : LOk l
    · rw [if_pos h2, if_pos h2, if_pos rfl, if_neg h]
    · rw [if_neg h2, if_neg h2, if_neg (by decide)]
  · rw [if_neg h1, if_neg h1, if_neg (by decide)]
theorem scl_zero {l : List (Int × Int)} {r : Int × Int} (h : scl l r = 0) : l.length ≤ 8 ∧ LOk l ∧ ROk r.1 r.2 := by
  unfold scl at h
  by_cases h1 : l.length ≤ 8
  · by_cases h2 : LOk l
    · by_cases h3 : ROk r.1 r.2
      · exact ⟨h1, h2, h3⟩
      · rw [if_pos h1, if_pos h2, if_neg h3] at h; omega
    · rw [if_pos h1, if_neg h2] at h; omega
  · rw [if_neg h1] at h; omega
theorem cvt_ok {a b r : Int × Int} (ha : SOk a.1 a.2) (hb : SOk b.1 b.2) (hr : ROk r.1 r.2) : thrE [a, b] r = if ROk (son a b r).1 (son a b r).2 then (son a b r, 0) else ((0, 0), 10) := by
  have hl : LOk [a, b] := fun s hs => by
    rcases List.mem_cons.1 hs with e | e
    · rw [e]; exact ha
    · rw [List.mem_singleton.1 e]; exact hb
  unfold thrE
  rw [if_pos]
  · show (if _ then thr [b] _ else _) = _
    rfl
  · rw [chk_scl (by simp)]
    unfold scl
    rw [if_pos (by simp), if_pos hl, if_pos hr]
end Go.Hx

/- Layer 3: there and back; turned scales; shifted scales; through scales: the arithmetic. -/
namespace Go.Hx
/-- Wider readings, wider ends. -/
theorem son_mono {a b r q : Int × Int} (h1 : 1 ≤ dg a) (h2 : 1 ≤ dg b) (hl : hlo a q ≤ hlo a r) (hh : hhi a r ≤ hhi a q) : slo a b q ≤ slo a b r ∧ shi a b r ≤ shi a b q := by
  have s1 := slo_bd (s1 := a) (s2 := b) (r := r) h1
  have s2 := shi_bd (s1 := a) (s2 := b) (r := r) h1
  have m1 := Int.mul_le_mul_of_nonneg_right hl (show 0 ≤ dg b by omega)
  have m2 := Int.mul_le_mul_of_nonneg_right hh (show 0 ≤ dg b by omega)
  exact ⟨(cd_iff (show 0 < 2 * dg a by omega)).2 (by omega), (fl_iff (show 0 < 2 * dg a by omega)).2 (by omega)⟩
end Go.Hx

/- Layer 3: the laws of P3.9, P3.13. -/
namespace Go.Hx
set_option linter.unusedSimpArgs false
set_option linter.unusedVariables false
set_option maxRecDepth 20000
set_option maxHeartbeats 4000000
attribute [local irreducible] W R C thenH inBlockH
/-- An operation that is asked for by what was not reckoned is left out. -/
theorem r_dropu {lp : Nat → Option LFunc} {fl : Nat} {N : HAct → HS → Prop} {a : HAct} {σ : HS} {op : LOp} {dst : Option Nat} {t : Nat} {w : Bool} {anc : List Nat} {os : List LOper} (hw : a.tmp t = .undef) (hn : R lp fl os N (a.put dst .undef) σ) : R lp fl (⟨dst, op, some (t, w), anc⟩ :: os) N a σ := by
  refine r_not ?_ hn
  simp [wantedH, hw, HV.undef]
theorem cvt_of {a b r c : Int × Int} {e : Int} {fl : Nat} {h : Tr HBlk} {nx : Nat} (hd : D h nx) (hV : thrE [a, b] r = (c, e)) : C LW fl 27 [.agg (renc a), .agg (renc b), .agg (renc r)] ⟨h, nx⟩ (Sc (· = .tuple [.agg (renc c), i64 e]) ⟨h, nx⟩) := by
  have := c_Convert (fl := fl) hd (s1 := a) (s2 := b) (r := r); rwa [hV] at this
end Go.Hx

/- Walks of the plain machine: regions that draw, in which operations lay blocks and others call. -/
namespace Go.Hx
variable {lp : Nat → Option LFunc} {fl : Nat} {rd : Option Nat} {Q : HExit → HAct → HS → Prop} {N : HAct → HS → Prop} {a : HAct} {h0 h : Tr HBlk} {nx s i : Nat} {os : List LOper} {done : List (Nat × List (Nat × HBlk))}
/-- Behind one operation. -/
def DX (lp : Nat → Option LFunc) (fl s : Nat) (h0 : Tr HBlk) (os : List LOper) (i : Nat) (done : List (Nat × List (Nat × HBlk))) (nx : Nat) (N : HAct → HS → Prop) : HAct → HS → Prop := fun a' σ' =>
  (σ'.nx = nx ∧ DG lp fl s h0 os (i + 1) done N a' nx) ∨ (∃ x, σ'.nx = nx + 1 ∧ σ'.h.get nx = some x ∧ DG lp fl s h0 os (i + 1) ((i, [(nx, x)]) :: done) N a' (nx + 1)) ∨ (nx ≤ σ'.nx ∧ (∀ b, nx ≤ b → σ'.h.get b = none) ∧ DG lp fl s h0 os (i + 1) done N a' σ'.nx) ∨ (nx ≤ σ'.nx ∧ DG lp fl s h0 os (i + 1) ((i, newFrom σ'.h nx (σ'.nx - nx)) :: done) N a' σ'.nx)
/-- What is done counts by what it lays. -/
theorem draw_eq {ex : Ex} : ∀ (os : List LOper) (i : Nat) (d1 d2 : List (Nat × List (Nat × HBlk))) (a : HAct) (nx : Nat), (∀ anc h, merge h anc d1 = merge h anc d2) → drawOps lp ex fl s h0 os i d1 a nx = drawOps lp ex fl s h0 os i d2 a nx
  | [], i, d1, d2, a, nx, h => by unfold drawOps; rw [h]
  | o :: os, i, d1, d2, a, nx, h => by
    unfold drawOps
    rw [h, h]
    cases Nat.blt i s with
    | false => rfl
    | true =>
      simp only [cond_true]
      cases stepOp lp ex (Nat.max fl nx) o a ⟨merge h0 (some o.anc) d2, nx⟩ with
      | none => rfl
      | some r =>
        obtain ⟨a', σ'⟩ := r
        dsimp only
        cases Nat.ble nx σ'.nx with
        | false => rfl
        | true =>
          simp only [Bool.not_true, cond_false]
          cases Nat.beq nx σ'.nx with
          | true => exact draw_eq os _ _ _ _ _ h
          | false =>
            simp only [cond_false]
            exact draw_eq os _ _ _ _ _ fun anc g => by unfold merge; exact h anc _
theorem x_step {o : LOper} {hm : Tr HBlk} (hi : Nat.blt i s = true) (hmg : merge h0 (some o.anc) done = hm) (hr : R lp (max fl nx) [o] (DX lp fl s h0 os i done nx N) a ⟨hm, nx⟩) : DG lp fl s h0 (o :: os) i done N a nx := by
  obtain ⟨n, a1, σ1, h1, h2⟩ := hr
  rcases h2 with h2 | h2 | ⟨e1, e2, h2⟩ | ⟨e1, h2⟩
  · exact g_step hi hmg ⟨n, a1, σ1, h1, by unfold DN; exact .inl h2⟩
  · exact g_step hi hmg ⟨n, a1, σ1, h1, by unfold DN; exact .inr h2⟩
  · have h1' : stepOp lp (exec lp n) (max fl nx) o a ⟨hm, nx⟩ = some (a1, σ1) := by
      unfold runOps at h1
      split at h1
      · rename_i e; rw [e]; exact h1
      · cases h1
    obtain ⟨n2, a2, σ2, h3, h4⟩ := dg_out h2
    have key : drawOps lp (exec lp (max n n2)) fl s h0 (o :: os) i done a nx = some (a2, σ2) := by
      unfold drawOps
      rw [hi, cond_true, hmg]
      show (match stepOp lp (exec lp (max n n2)) (max fl nx) o a ⟨hm, nx⟩ with | some (a, σ) => _ | none => none) = _
      rw [stepOp_mon (exec_mon (Nat.le_max_left n n2)) h1']
      have b1 : Nat.ble nx σ1.nx = true := ble_t' e1
      simp only [b1, Bool.not_true, cond_false]
      rw [newFrom_none _ _ e2]
      refine (draw_eq os _ _ done _ _ fun anc g => ?_).trans (drawOps_mon (exec_mon (Nat.le_max_right n n2)) h3)
      cases Nat.beq nx σ1.nx with
      | true => rfl
      | false =>
        simp only [cond_false]
        have e : ∀ c : Bool, (bif c then addAll g [] else g) = g := fun c => by cases c <;> rfl
        show merge (bif _ then addAll g [] else g) anc done = _
        rw [e]
    unfold DG
    exact ⟨_, a2, σ2, key, h4⟩
  · have h1' : stepOp lp (exec lp n) (max fl nx) o a ⟨hm, nx⟩ = some (a1, σ1) := by
      unfold runOps at h1
      split at h1
      · rename_i e; rw [e]; exact h1
      · cases h1
    obtain ⟨n2, a2, σ2, h3, h4⟩ := dg_out h2
    have key : drawOps lp (exec lp (max n n2)) fl s h0 (o :: os) i done a nx = some (a2, σ2) := by
      unfold drawOps
      rw [hi, cond_true, hmg]
      show (match stepOp lp (exec lp (max n n2)) (max fl nx) o a ⟨hm, nx⟩ with | some (a, σ) => _ | none => none) = _
      rw [stepOp_mon (exec_mon (Nat.le_max_left n n2)) h1']
      have b1 : Nat.ble nx σ1.nx = true := ble_t' e1
      simp only [b1, Bool.not_true, cond_false]
      refine (draw_eq os _ _ ((i, newFrom σ1.h nx (σ1.nx - nx)) :: done) _ _ fun anc g => ?_).trans (drawOps_mon (exec_mon (Nat.le_max_right n n2)) h3)
      cases hb : Nat.beq nx σ1.nx with
      | false => rfl
      | true =>
        have hz : σ1.nx - nx = 0 := by have := Nat.eq_of_beq_eq_true hb; omega
        rw [hz]
        simp only [cond_true]
        have e : ∀ c : Bool, (bif c then addAll g [] else g) = g := fun c => by cases c <;> rfl
        show merge g anc done = merge (bif _ then addAll g [] else g) anc done
        rw [e]
    unfold DG
    exact ⟨_, a2, σ2, key, h4⟩
theorem add_new {h2 : Tr HBlk} : ∀ (k lo : Nat) (g : Tr HBlk) (b : Nat), (addAll g (newFrom h2 lo k)).get b = if lo ≤ b ∧ b < lo + k then (match h2.get b with | some x => some x | none => g.get b) else g.get b
  | 0, lo, g, b => by rw [if_neg (by omega)]; rfl
  | k + 1, lo, g, b => by
    unfold newFrom
    cases e : h2.get lo with
    | none =>
      dsimp only
      rw [add_new k (lo + 1) g b]
      by_cases h1 : lo + 1 ≤ b ∧ b < lo + 1 + k
      · rw [if_pos h1, if_pos (by omega)]
      · rw [if_neg h1]
        by_cases h2 : lo ≤ b ∧ b < lo + (k + 1)
        · have : b = lo := by omega
          subst this
          rw [if_pos h2, e]
        · rw [if_neg h2]
    | some x =>
      dsimp only
      rw [ad_cons, add_new k (lo + 1) _ b]
      by_cases h1 : lo + 1 ≤ b ∧ b < lo + 1 + k
      · rw [if_pos h1, if_pos (by omega), get_other _ _ (by omega)]
      · rw [if_neg h1]
        by_cases h2 : lo ≤ b ∧ b < lo + (k + 1)
        · have : b = lo := by omega
          subst this
          rw [if_pos h2, e, get_same]
        · rw [if_neg h2, get_other _ _ (by omega)]
theorem x_same {hm : Tr HBlk} (hr : DG lp fl s h0 os (i + 1) done N a nx) : DX lp fl s h0 os i done nx N a ⟨hm, nx⟩ := .inl ⟨rfl, hr⟩
theorem x_new {hm : Tr HBlk} {x : HBlk} (hr : DG lp fl s h0 os (i + 1) ((i, [(nx, x)]) :: done) N a (nx + 1)) : DX lp fl s h0 os i done nx N a ⟨hm.set nx (some x), nx + 1⟩ := .inr (.inl ⟨x, rfl, get_same _ _ _, hr⟩)
theorem x_call {hm : Tr HBlk} {n' : Nat} (hn : nx ≤ n') (hd : D hm nx) (hr : DG lp fl s h0 os (i + 1) done N a n') : DX lp fl s h0 os i done nx N a ⟨hm, n'⟩ := .inr (.inr (.inl ⟨hn, by unfold D at hd; exact hd, hr⟩))
/-- A call that hands back new blocks. -/
theorem x_ext {hm h2 : Tr HBlk} {n2 : Nat} (e : Ext hm nx h2 n2) (hr : ∀ L, (∀ g b, b < nx ∨ n2 ≤ b → (addAll g L).get b = g.get b) → (∀ g b x, nx ≤ b → h2.get b = some x → (addAll g L).get b = some x) → (∀ g n', n2 ≤ n' → D g n' → D (addAll g L) n') → DG lp fl s h0 os (i + 1) ((i, L) :: done) N a n2) : DX lp fl s h0 os i done nx N a ⟨h2, n2⟩ := by
  have hle := e.le
  have hd := e.d
  refine .inr (.inr (.inr ⟨hle, hr _ (fun g b hb => ?_) (fun g b x hb hx => ?_) (fun g n' hn hg => ?_)⟩))
  · show (addAll g (newFrom h2 nx (n2 - nx))).get b = _
    rw [add_new, if_neg (by omega)]
  · show (addAll g (newFrom h2 nx (n2 - nx))).get b = _
    have : b < n2 := by
      refine Nat.not_le.1 fun h => ?_
      unfold D at hd
      rw [hd b h] at hx
      cases hx
    rw [add_new, if_pos (by omega), hx]
  · show D (addAll g (newFrom h2 nx (n2 - nx))) n'
    unfold D at hg ⊢
    intro b hb
    rw [add_new, if_neg (by omega)]
    exact hg b hb
attribute [irreducible] DX
end Go.Hx

/- Layer 3: lists of scales for the program; through scales. -/
namespace Go.Hx
set_option linter.unusedSimpArgs false
set_option linter.unusedVariables false
set_option maxRecDepth 20000
set_option maxHeartbeats 4000000
attribute [local irreducible] W R C thenH inBlockH
--dropu
theorem renc_flat (r : Int × Int) : (renc r).all flat1 = true := rfl
theorem renc_one (r : Int × Int) : (renc r).all HV.one = true := rfl
/-- Wider in degrees nearer to steam: wider as it stands. -/
theorem son_sub (t : Bool) {i L H L' H' : Int} (h1 : L' ≤ L) (h2 : H ≤ H') : tl t (i + L') (i + H') ≤ tl t (i + L) (i + H) ∧ th t (i + L) (i + H) ≤ th t (i + L') (i + H') := by
  unfold tl th
  cases t <;> simp only [if_true, if_false, Bool.false_eq_true] <;> omega
end Go.Hx

