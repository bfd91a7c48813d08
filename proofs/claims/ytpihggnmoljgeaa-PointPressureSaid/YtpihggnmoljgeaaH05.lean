/- Layer 3: what can stand on another scale, on the plain machine. -/
import Derived.Test.YtpihggnmoljgeaaH04
set_option linter.all false
/- Layer 3: what can stand on another scale, on the plain machine. -/
namespace Go.Hx
set_option linter.unusedSimpArgs false
set_option linter.unusedVariables false
set_option maxRecDepth 20000
set_option maxHeartbeats 4000000
attribute [local irreducible] W R C thenH inBlockH
abbrev renc (r : Int × Int) : List HV := [i64 r.1, i64 r.2]
theorem renc_len (r : Int × Int) : (renc r).length = 2 := rfl
theorem row_flat {α : Type} {enc : α → List HV} {sz : Nat} {h : Tr HBlk} {nx b : Nat} {l : List α} {k : BK} (he : ∀ x, (enc x).length = sz) (hb : b < nx) (hg : h.get b = some (.cells (l.flatMap enc) k)) : Row enc sz h nx (some (b, 0)) l :=
  fun _ => ⟨b, 0, _, _, rfl, hb, hg, fun i x hx => flat_row he l i x hx⟩
theorem ab_fl {m n A : Int} (hn : 1 ≤ n) (h0 : 0 ≤ A) (h1 : -A ≤ m) (h2 : m ≤ A) : (-A - 1 ≤ m / n ∧ m / n ≤ A + 1) ∧ -A - 1 ≤ cdiv m n ∧ cdiv m n ≤ A + 1 := by
  have key : ∀ k : Int, -A ≤ k → k ≤ A → -A - 1 ≤ k / n ∧ k / n ≤ A + 1 := fun k k1 k2 => by
    have m1 := Int.mul_le_mul_of_nonneg_left hn (show 0 ≤ A + 1 by omega)
    have m2 := Int.mul_le_mul_of_nonneg_left hn (show 0 ≤ A + 2 by omega)
    constructor
    · refine (fl_iff (by omega)).2 ?_
      rw [show -A - 1 = -(A + 1) by omega, Int.neg_mul]
      omega
    · have := mt (fl_iff (m := k) (n := n) (q := A + 2) (by omega)).1 (by omega)
      omega
  have a := key m h1 h2
  have b := key (-m) (by omega) (by omega)
  unfold cdiv
  omega
theorem s_bd {I S : Int} (h : SOk I S) : (-1000 ≤ ic I S ∧ ic I S ≤ 1000) ∧ (-1000 ≤ st I S ∧ st I S ≤ 1000) ∧ 1 ≤ st I S - ic I S ∧ st I S - ic I S ≤ 2000 := by
  unfold SOk at h
  unfold ic st
  by_cases e : I < S
  · rw [if_pos e, if_pos e]; omega
  · rw [if_neg e, if_neg e]; omega
theorem r_bd {b : Bool} {lo hi : Int} (h : ROk lo hi) : (-1000000 ≤ tl b lo hi ∧ tl b lo hi ≤ 1000000) ∧ (-1000000 ≤ th b lo hi ∧ th b lo hi ≤ 1000000) ∧ tl b lo hi ≤ th b lo hi := by
  unfold ROk at h
  unfold tl th
  cases b <;> simp only [if_true, if_false, Bool.false_eq_true] <;> omega
/-- Degrees between ice and steam; half degrees of readings; what stands on another scale. -/
def dg (s : Int × Int) : Int := st s.1 s.2 - ic s.1 s.2
def hlo (s r : Int × Int) : Int := 2 * (tl (tn s.1 s.2) r.1 r.2 - ic s.1 s.2) - 1
def hhi (s r : Int × Int) : Int := 2 * (th (tn s.1 s.2) r.1 r.2 - ic s.1 s.2) + 1
def slo (s1 s2 r : Int × Int) : Int := cdiv (hlo s1 r * dg s2 - dg s1) (2 * dg s1)
def shi (s1 s2 r : Int × Int) : Int := (hhi s1 r * dg s2 + dg s1) / (2 * dg s1)
theorem son_bd {s1 s2 r : Int × Int} (h1 : SOk s1.1 s1.2) (h2 : SOk s2.1 s2.2) (hr : ROk r.1 r.2) :
    (1 ≤ dg s1 ∧ dg s1 ≤ 2000) ∧ (1 ≤ dg s2 ∧ dg s2 ≤ 2000) ∧ (-2002001 ≤ hlo s1 r ∧ hlo s1 r ≤ 2002001) ∧ (-2002001 ≤ hhi s1 r ∧ hhi s1 r ≤ 2002001) ∧ (-4004002000 ≤ hlo s1 r * dg s2 ∧ hlo s1 r * dg s2 ≤ 4004002000) ∧ (-4004002000 ≤ hhi s1 r * dg s2 ∧ hhi s1 r * dg s2 ≤ 4004002000) ∧ (-5000000000 ≤ slo s1 s2 r ∧ slo s1 s2 r ≤ 5000000000) ∧ (-5000000000 ≤ shi s1 s2 r ∧ shi s1 s2 r ≤ 5000000000) := by
  have a1 := s_bd h1
  have a2 := s_bd h2
  have a3 := r_bd (b := tn s1.1 s1.2) hr
  have b1 : 1 ≤ dg s1 ∧ dg s1 ≤ 2000 := by unfold dg; omega
  have b2 : 1 ≤ dg s2 ∧ dg s2 ≤ 2000 := by unfold dg; omega
  have b3 : -2002001 ≤ hlo s1 r ∧ hlo s1 r ≤ 2002001 := by unfold hlo; omega
  have b4 : -2002001 ≤ hhi s1 r ∧ hhi s1 r ≤ 2002001 := by unfold hhi; omega
  have m1 := mul_bs (p := hlo s1 r) (q := dg s2) (A := 2002001) (B := 2000) b3.1 b3.2 (by omega) b2.2 (by omega)
  have m2 := mul_bs (p := hhi s1 r) (q := dg s2) (A := 2002001) (B := 2000) b4.1 b4.2 (by omega) b2.2 (by omega)
  have c1 := ab_fl (m := hlo s1 r * dg s2 - dg s1) (n := 2 * dg s1) (A := 4005000000) (by omega) (by omega) (by omega) (by omega)
  have c2 := ab_fl (m := hhi s1 r * dg s2 + dg s1) (n := 2 * dg s1) (A := 4005000000) (by omega) (by omega) (by omega) (by omega)
  have c3 : -5000000000 ≤ slo s1 s2 r ∧ slo s1 s2 r ≤ 5000000000 := by unfold slo; omega
  have c4 : -5000000000 ≤ shi s1 s2 r ∧ shi s1 s2 r ≤ 5000000000 := by unfold shi; omega
  omega
/- 97 -/
theorem loop97 {fl : Nat} {h0 : Tr HBlk} {n0 : Nat} {Q : HExit → HAct → HS → Prop} {p : Option (Nat × Nat)} {l : List (Int × Int)} {cp : Nat} {k : Nat} {first captured : List HV} {P : Int × Int → Prop} [DecidablePred P] (hlen : l.length < 1000000000) (hfl : fl ≤ n0)
    (hf : ∀ r ∈ l, ∀ fl h n, Ext h0 n0 h n → C LW fl k (first ++ [.agg (renc r)] ++ captured) ⟨h, n⟩ (Sc (· = .bool (decide (P r))) ⟨h, n⟩)) :
    ∀ (m i : Nat) (a : HAct) (h : Tr HBlk) (nx : Nat), m + i = l.length → Ext h0 n0 h nx → Row renc 2 h nx p l → a.nt = 18 → a.defers = [] → a.tmp 1 = .func k first captured → a.tmp 7 = .slice p l.length cp → a.tmp 8 = i64 l.length → a.tmp 9 = i64 i →
      (∀ a' h' n', Ext h0 n0 h' n' → a'.nt = 18 → a'.defers = [] → (∀ r ∈ l.drop i, P r) → Q .normal a' ⟨h', n'⟩) →
      (∀ a' h' n', Ext h0 n0 h' n' → a'.nt = 18 → a'.defers = [] → a'.tmp 4 = .bool false → ¬ (∀ r ∈ l.drop i, P r) → Q .ret a' ⟨h', n'⟩) → W LW fl none (.loop L97w0) (inBlockH 0 Q) a ⟨h, nx⟩
  | 0, i, a, h, nx, hm, he, hrow, hnt, hds, h1, h7, h8, h9, hq, hr => by
    have hle := he.le
    refine w_it (show L97w0 = _ by unfold L97w0; exact rfl) ?_
    repeat' first
     | refine r_nil ?_
     | refine th_n ?_
     | refine th_e ?_
     | refine ib_e ?_
     | refine w_exit ?_
     | refine w_seq ?_
     | refine w_reg ?_
     | refine w_f (by simp (disch:=first|decide|(simp only[zF,zG,hnt, h1, h7, h8, h9];decide)) only [zA,zB,zC,zD,zE,zF,zG,zH,zI,zJ,zK,HV.cells,fl0,fl2,flS,flS1,flI1,flU1,flU2,flF,hnt, h1, h7, h8, h9]; first|done|exact rfl) ?_
     | refine r_lss (by simp (disch:=first|decide|(simp only[zF,zG,hnt, h1, h7, h8, h9];decide)) only [zA,zB,zC,zD,zE,zF,zG,zH,zI,zJ,zK,HV.cells,fl0,fl2,flS,flS1,flI1,flU1,flU2,flF,hnt, h1, h7, h8, h9]; try exact rfl) (by simp (disch:=first|decide|(simp only[zF,zG,hnt, h1, h7, h8, h9];decide)) only [zA,zB,zC,zD,zE,zF,zG,zH,zI,zJ,zK,HV.cells,fl0,fl2,flS,flS1,flI1,flU1,flU2,flF,hnt, h1, h7, h8, h9]; try exact rfl) (fun hc => ?_) (fun hc => ?_) <;> (try (exfalso; omega))
     | fail
    refine hq _ _ _ he ?_ ?_ (fun r hr => by rw [List.drop_of_length_le (by omega)] at hr; cases hr)
    all_goals first|(simp only [zL,zM,zF,zG,hnt, hds];done)|(simp (disch:=first|decide|(simp only[zF,zG,hnt, hds];decide)) only [zA,zB,zC,zD,zE,zF,zG,zH,zI,zJ,zK,HV.cells,fl0,fl2,flS,flS1,flI1,flU1,flU2,flF,hnt, hds];first|done|exact rfl)|assumption
  | m + 1, i, a, h, nx, hm, he, hrow, hnt, hds, h1, h7, h8, h9, hq, hr => by
    have hi : i < l.length := by omega
    have hrow0 := hrow
    obtain ⟨b, o, cs, kk, rfl, hb, hg, hcs⟩ := hrow (by intro e; rw [e] at hi; simp at hi)
    have hy : l[i]? = some l[i] := by simp [hi]
    have e0 := hcs i _ hy
    have hf' := hf l[i] (List.getElem_mem hi)
    have ow : overwrite [i64 0, i64 0] 0 (HV.agg (renc l[i])).cells = some (renc l[i]) := rfl
    have tk : takeN 2 ((renc l[i]).drop 0) = some (renc l[i]) := rfl
    have hd := he.d
    have hle := he.le
    have hdrop := List.drop_eq_getElem_cons hi
    refine w_it (show L97w0 = _ by unfold L97w0; exact rfl) ?_
    repeat' first
     | refine r_nil ?_
     | refine th_n ?_
     | refine th_r ?_
     | refine ib_n ?_
     | refine ib_r ?_
     | refine w_seq ?_
     | refine w_reg ?_
     | refine w_ret ?_
     | refine w_skip ?_
     | refine w_block ?_
     | refine w_t (by simp (disch:=first|decide|(simp only[zF,zG,hnt, h1, h7, h8, h9];decide)) only [zA,zB,zC,zD,zE,zF,zG,zH,zI,zJ,zK,HV.cells,fl0,fl2,flS,flS1,flI1,flU1,flU2,flF,hnt, h1, h7, h8, h9]; first|done|exact rfl) ?_
     | refine w_f (by simp (disch:=first|decide|(simp only[zF,zG,hnt, h1, h7, h8, h9];decide)) only [zA,zB,zC,zD,zE,zF,zG,zH,zI,zJ,zK,HV.cells,fl0,fl2,flS,flS1,flI1,flU1,flU2,flF,hnt, h1, h7, h8, h9]; first|done|exact rfl) ?_
     | refine r_move (by simp (disch:=first|decide|(simp only[zF,zG,hnt, h1, h7, h8, h9];decide)) only [zA,zB,zC,zD,zE,zF,zG,zH,zI,zJ,zK,HV.cells,fl0,fl2,flS,flS1,flI1,flU1,flU2,flF,hnt, h1, h7, h8, h9]; try exact rfl) ?_
     | refine r_ldn (by simp (disch:=first|decide|(simp only[zF,zG,hnt, h1, h7, h8, h9];decide)) only [zA,zB,zC,zD,zE,zF,zG,zH,zI,zJ,zK,HV.cells,fl0,fl2,flS,flS1,flI1,flU1,flU2,flF,hnt, h1, h7, h8, h9]; try exact rfl) (by first|assumption|(simp (disch:=omega) only [get_same,get_other,hnt, h1, h7, h8, h9]; first|done|exact rfl)) (by first|assumption|exact ow2 _ _ _ _|exact ow3 _ _ _ _ _ _|rfl|(simp only [zI,zJ,HV.cells,hnt, h1, h7, h8, h9]; exact rfl)) ?_
     | refine r_alloc ?_
     | refine r_st (cs' := _) (by simp (disch:=first|decide|(simp only[zF,zG,hnt, h1, h7, h8, h9];decide)) only [zA,zB,zC,zD,zE,zF,zG,zH,zI,zJ,zK,HV.cells,fl0,fl2,flS,flS1,flI1,flU1,flU2,flF,hnt, h1, h7, h8, h9]; try exact rfl) (by simp (disch:=first|decide|(simp only[zF,zG,hnt, h1, h7, h8, h9];decide)) only [zA,zB,zC,zD,zE,zF,zG,zH,zI,zJ,zK,HV.cells,fl0,fl2,flS,flS1,flI1,flU1,flU2,flF,hnt, h1, h7, h8, h9]; try exact rfl) (by first|assumption|(simp (disch:=omega) only [get_same,get_other,hnt, h1, h7, h8, h9]; first|done|exact rfl)) (by exact True.intro) (by rfl) (by rfl) (by first|assumption|exact ow2 _ _ _ _|exact ow3 _ _ _ _ _ _|rfl|(simp only [zI,zJ,HV.cells,hnt, h1, h7, h8, h9]; exact rfl)) (by omega) ?_
     | refine r_add (by simp (disch:=first|decide|(simp only[zF,zG,hnt, h1, h7, h8, h9];decide)) only [zA,zB,zC,zD,zE,zF,zG,zH,zI,zJ,zK,HV.cells,fl0,fl2,flS,flS1,flI1,flU1,flU2,flF,hnt, h1, h7, h8, h9]; try exact rfl) (by simp (disch:=first|decide|(simp only[zF,zG,hnt, h1, h7, h8, h9];decide)) only [zA,zB,zC,zD,zE,zF,zG,zH,zI,zJ,zK,HV.cells,fl0,fl2,flS,flS1,flI1,flU1,flU2,flF,hnt, h1, h7, h8, h9]; try exact rfl) (by omega) (by omega) ?_
     | refine r_lss (by simp (disch:=first|decide|(simp only[zF,zG,hnt, h1, h7, h8, h9];decide)) only [zA,zB,zC,zD,zE,zF,zG,zH,zI,zJ,zK,HV.cells,fl0,fl2,flS,flS1,flI1,flU1,flU2,flF,hnt, h1, h7, h8, h9]; try exact rfl) (by simp (disch:=first|decide|(simp only[zF,zG,hnt, h1, h7, h8, h9];decide)) only [zA,zB,zC,zD,zE,zF,zG,zH,zI,zJ,zK,HV.cells,fl0,fl2,flS,flS1,flI1,flU1,flU2,flF,hnt, h1, h7, h8, h9]; try exact rfl) (fun hc => ?_) (fun hc => ?_) <;> (try (exfalso; omega))
     | refine r_not1 (by simp (disch:=first|decide|(simp only[zF,zG,hnt, h1, h7, h8, h9];decide)) only [zA,zB,zC,zD,zE,zF,zG,zH,zI,zJ,zK,HV.cells,fl0,fl2,flS,flS1,flI1,flU1,flU2,flF,hnt, h1, h7, h8, h9]; try exact rfl) ?_
     | refine r_ixs (by simp (disch:=first|decide|(simp only[zF,zG,hnt, h1, h7, h8, h9];decide)) only [zA,zB,zC,zD,zE,zF,zG,zH,zI,zJ,zK,HV.cells,fl0,fl2,flS,flS1,flI1,flU1,flU2,flF,hnt, h1, h7, h8, h9]; try exact rfl) (by simp (disch:=first|decide|(simp only[zF,zG,hnt, h1, h7, h8, h9];decide)) only [zA,zB,zC,zD,zE,zF,zG,zH,zI,zJ,zK,HV.cells,fl0,fl2,flS,flS1,flI1,flU1,flU2,flF,hnt, h1, h7, h8, h9]; try exact rfl) (by omega) ?_
     | refine r_calld (by simp (disch:=first|decide|(simp only[zF,zG,hnt, h1, h7, h8, h9];decide)) only [zA,zB,zC,zD,zE,zF,zG,zH,zI,zJ,zK,HV.cells,fl0,fl2,flS,flS1,flI1,flU1,flU2,flF,hnt, h1, h7, h8, h9]; try exact rfl) (by simp (disch:=first|decide|(simp only[zF,zG,hnt, h1, h7, h8, h9];decide)) only [List.map_cons,List.map_nil,List.nil_append,List.cons_append,List.append_nil,zA,zB,zC,zD,zE,zF,zG,zH,zI,zJ,zK,HV.cells,fl0,fl2,flS,flS1,flI1,flU1,flU2,flF,hnt, h1, h7, h8, h9]; first|done|exact rfl) (hf' _ _ _ (by repeat' first|assumption|refine Ext.put ?_ (by omega) (by omega)|exact Ext.up (by assumption) (by omega)|exact Ext.nx (by assumption) (by omega))) (fun n' hn' hc => ?_) (fun n' hn' hc => ?_) <;> (try (exfalso; omega))
     | fail
    · refine loop97 (cp := cp) hlen hfl hf m (i + 1) _ _ _ (by omega) (by repeat' first|assumption|refine Ext.put ?_ (by omega) (by omega)|exact Ext.up (by assumption) (by omega)|exact Ext.nx (by assumption) (by omega)) (Row.ext hrow0 (h' := _) (n' := _) (by repeat' first|assumption|refine Ext.put ?_ (by omega) (by omega)|exact Ext.up (by assumption) (by omega)|exact Ext.nx (by assumption) (by omega))) ?_ ?_ ?_ ?_ ?_ ?_ (fun a' h' n2 g1 g2 g3 g4 => hq a' h' n2 g1 g2 g3 ?_) (fun a' h' n2 g1 g2 g3 g4 g5 => hr a' h' n2 g1 g2 g3 g4 ?_)
      all_goals try first|(simp only [zL,zM,zF,zG,hnt, hds, h1, h7, h8, h9];done)|(simp (disch:=first|decide|(simp only[zF,zG,hnt, hds, h1, h7, h8, h9];decide)) only [zA,zB,zC,zD,zE,zF,zG,zH,zI,zJ,zK,HV.cells,fl0,fl2,flS,flS1,flI1,flU1,flU2,flF,hnt, hds, h1, h7, h8, h9];first|done|exact rfl)|assumption
      · rw [hdrop]; intro r hr; rcases List.mem_cons.1 hr with e | e
        · rw [e]; exact hc
        · exact g4 r e
      · rw [hdrop]; exact fun e => g5 fun r hr => e r (List.mem_cons_of_mem _ hr)
    · refine hr _ _ _ (by repeat' first|assumption|refine Ext.put ?_ (by omega) (by omega)|exact Ext.up (by assumption) (by omega)|exact Ext.nx (by assumption) (by omega)) ?_ ?_ ?_ (fun e => hc (e _ (by rw [hdrop]; exact List.mem_cons_self ..)))
      all_goals first|(simp only [zL,zM,zF,zG,hnt, hds];done)|(simp (disch:=first|decide|(simp only[zF,zG,hnt, hds];decide)) only [zA,zB,zC,zD,zE,zF,zG,zH,zI,zJ,zK,HV.cells,fl0,fl2,flS,flS1,flI1,flU1,flU2,flF,hnt, hds];first|done|exact rfl)|assumption
theorem c_all97 {fl : Nat} {h : Tr HBlk} {nx : Nat} (hd : D h nx) {p : Option (Nat × Nat)} {l : List (Int × Int)} {n cp : Nat} {k : Nat} {first captured : List HV} {P : Int × Int → Prop} [DecidablePred P] (hn : n = l.length) (hlen : l.length < 1000000000)
    (hrow : Row renc 2 h nx p l) (hf : ∀ r ∈ l, ∀ fl h1 n1, Ext h nx h1 n1 → C LW fl k (first ++ [.agg (renc r)] ++ captured) ⟨h1, n1⟩ (Sc (· = .bool (decide (P r))) ⟨h1, n1⟩)) :
    C LW fl 97 [.slice p n cp, .func k first captured] ⟨h, nx⟩ (Sc (· = .bool (decide (∀ r ∈ l, P r))) ⟨h, nx⟩) := by
  subst hn
  refine c_in lw97 rfl rfl rfl ?_
  dsimp only [L97]
  repeat' first
   | refine r_nil ?_
   | refine th_n ?_
   | refine w_seq ?_
   | refine w_reg ?_
   | refine w_block ?_
   | refine r_move (by simp (disch:=first|decide|(simp only[zF,zG];decide)) only [zA,zB,zC,zD,zE,zF,zG,zH,zI,zJ,zK,HV.cells,fl0,fl2,flS,flS1,flI1,flU1,flU2,flF]; try exact rfl) ?_
   | refine r_len (by simp (disch:=first|decide|(simp only[zF,zG];decide)) only [zA,zB,zC,zD,zE,zF,zG,zH,zI,zJ,zK,HV.cells,fl0,fl2,flS,flS1,flI1,flU1,flU2,flF]; try exact rfl) ?_
   | fail
  refine loop97 (cp := cp) hlen (Nat.le_refl _) hf l.length 0 _ _ _ (by omega) (Ext.refl hd) hrow ?_ ?_ ?_ ?_ ?_ ?_ (fun a' h' n2 g1 g2 g3 g4 => ?_) (fun a' h' n2 g1 g2 g3 g4 g5 => ?_)
  all_goals try first|(simp only [zL,zM,zF,zG];done)|(simp (disch:=first|decide|(simp only[zF,zG];decide)) only [zA,zB,zC,zD,zE,zF,zG,zH,zI,zJ,zK,HV.cells,fl0,fl2,flS,flS1,flI1,flU1,flU2,flF];first|done|exact rfl)|assumption
  · have hle := g1.le
    repeat' first
     | refine r_nil ?_
     | refine th_n ?_
     | refine w_seq ?_
     | refine w_reg ?_
     | refine w_ret ?_
     | refine r_move (by simp (disch:=first|decide|(simp only[zF,zG,g2];decide)) only [zA,zB,zC,zD,zE,zF,zG,zH,zI,zJ,zK,HV.cells,fl0,fl2,flS,flS1,flI1,flU1,flU2,flF,g2]; try exact rfl) ?_
     | fail
    refine fin_r (by simp only [zL, g3]) (by simp (disch:=first|decide|(simp only[zF,zG,g2];decide)) only [zA,zB,zC,zD,zE,zF,zG,zH,zI,zJ,zK,HV.cells,fl0,fl2,flS,flS1,flI1,flU1,flU2,flF,g2]; try exact rfl) (sc_flat rfl (by dsimp only; omega) ?_)
    rw [decide_eq_true (by simpa using g4)]
  · have hle := g1.le
    repeat' first
     | refine th_r ?_
     | fail
    refine fin_r (by simp only [zL, g3]) (by simp (disch:=first|decide|(simp only[zF,zG,g2, g4];decide)) only [zA,zB,zC,zD,zE,zF,zG,zH,zI,zJ,zK,HV.cells,fl0,fl2,flS,flS1,flI1,flU1,flU2,flF,g2, g4]; try exact rfl) (sc_flat rfl (by dsimp only; omega) ?_)
    rw [decide_eq_false (by simpa using g5)]
def LOk (l : List (Int × Int)) : Prop := ∀ s ∈ l, SOk s.1 s.2
instance (l : List (Int × Int)) : Decidable (LOk l) := by unfold LOk; infer_instance
def chkS (l : List (Int × Int)) : Int := if l.length ≤ 8 then (if LOk l then 0 else 1) else 3
/- 74 -/
theorem c_checkScales {fl : Nat} {h : Tr HBlk} {nx : Nat} (hd : D h nx) {p : Option (Nat × Nat)} {l : List (Int × Int)} {n cp : Nat} (hn : n = l.length) (hlen : l.length < 1000000000) (hrow : Row renc 2 h nx p l) :
    C LW fl 74 [.slice p n cp] ⟨h, nx⟩ (Sc (· = i64 (chkS l)) ⟨h, nx⟩) := by
  subst hn
  have cA : ∀ fl h' n', Ext h nx h' n' → C LW fl 97 [.slice p l.length cp, .func 52 [] []] ⟨h', n'⟩ (Sc (· = .bool (decide (LOk l))) ⟨h', n'⟩) := fun fl h' n' e => c_all97 (P := fun s => SOk s.1 s.2) e.d rfl hlen (hrow.ext e) (fun r _ fl h1 n1 _ => c_svalid)
  refine c_in lw74 rfl rfl rfl ?_
  dsimp only [L74]
  repeat' first
   | refine r_nil ?_
   | refine th_n ?_
   | refine th_r ?_
   | refine w_seq ?_
   | refine w_reg ?_
   | refine w_ret ?_
   | refine w_skip ?_
   | refine w_t (by simp (disch:=first|decide|(simp only[zF,zG];decide)) only [zA,zB,zC,zD,zE,zF,zG,zH,zI,zJ,zK,HV.cells,fl0,fl2,flS,flS1,flI1,flU1,flU2,flF]; first|done|exact rfl) ?_
   | refine w_f (by simp (disch:=first|decide|(simp only[zF,zG];decide)) only [zA,zB,zC,zD,zE,zF,zG,zH,zI,zJ,zK,HV.cells,fl0,fl2,flS,flS1,flI1,flU1,flU2,flF]; first|done|exact rfl) ?_
   | refine r_move (by simp (disch:=first|decide|(simp only[zF,zG];decide)) only [zA,zB,zC,zD,zE,zF,zG,zH,zI,zJ,zK,HV.cells,fl0,fl2,flS,flS1,flI1,flU1,flU2,flF]; try exact rfl) ?_
   | refine r_gtr (by simp (disch:=first|decide|(simp only[zF,zG];decide)) only [zA,zB,zC,zD,zE,zF,zG,zH,zI,zJ,zK,HV.cells,fl0,fl2,flS,flS1,flI1,flU1,flU2,flF]; try exact rfl) (by simp (disch:=first|decide|(simp only[zF,zG];decide)) only [zA,zB,zC,zD,zE,zF,zG,zH,zI,zJ,zK,HV.cells,fl0,fl2,flS,flS1,flI1,flU1,flU2,flF]; try exact rfl) (fun hc => ?_) (fun hc => ?_) <;> (try (exfalso; omega))
   | refine r_not1 (by simp (disch:=first|decide|(simp only[zF,zG];decide)) only [zA,zB,zC,zD,zE,zF,zG,zH,zI,zJ,zK,HV.cells,fl0,fl2,flS,flS1,flI1,flU1,flU2,flF]; try exact rfl) ?_
   | refine r_len (by simp (disch:=first|decide|(simp only[zF,zG];decide)) only [zA,zB,zC,zD,zE,zF,zG,zH,zI,zJ,zK,HV.cells,fl0,fl2,flS,flS1,flI1,flU1,flU2,flF]; try exact rfl) ?_
   | refine r_calld (by simp (disch:=first|decide|(simp only[zF,zG];decide)) only [zA,zB,zC,zD,zE,zF,zG,zH,zI,zJ,zK,HV.cells,fl0,fl2,flS,flS1,flI1,flU1,flU2,flF]; try exact rfl) (by simp (disch:=first|decide|(simp only[zF,zG];decide)) only [List.map_cons,List.map_nil,List.nil_append,List.cons_append,List.append_nil,zA,zB,zC,zD,zE,zF,zG,zH,zI,zJ,zK,HV.cells,fl0,fl2,flS,flS1,flI1,flU1,flU2,flF]; first|done|exact rfl) (cA _ _ _ (by repeat' first|assumption|refine Ext.put ?_ (by omega) (by omega)|exact Ext.up (by assumption) (by omega)|exact Ext.nx (by assumption) (by omega))) (fun n' hn' hc => ?_) (fun n' hn' hc => ?_) <;> (try (exfalso; omega))
   | fail
  all_goals
    refine fin_r (by simp only [zL,zM]) (by simp (disch:=first|decide|(simp only[zF,zG];decide)) only [zA,zB,zC,zD,zE,zF,zG,zH,zI,zJ,zK,HV.cells,fl0,fl2,flS,flS1,flI1,flU1,flU2,flF]; try exact rfl) (sc_flat rfl (by dsimp only; omega) ?_)
    unfold chkS
    first
      | rw [if_neg (by omega)]
      | rw [if_pos (by omega), if_pos hc]
      | rw [if_pos (by omega), if_neg hc]
def chkR (l : List (Int × Int)) (r : Int × Int) : Int := if chkS l = 0 then (if l.length = 0 then 1 else if ROk r.1 r.2 then 0 else 2) else chkS l
/- 53 -/
theorem c_checkReadings {fl : Nat} {h : Tr HBlk} {nx : Nat} (hd : D h nx) {p : Option (Nat × Nat)} {l : List (Int × Int)} {r : Int × Int} {n cp : Nat} (hn : n = l.length) (hlen : l.length < 1000000000) (hrow : Row renc 2 h nx p l) :
    C LW fl 53 [.agg (renc r), .slice p n cp] ⟨h, nx⟩ (Sc (· = i64 (chkR l r)) ⟨h, nx⟩) := by
  subst hn
  have cA : ∀ fl h' n', Ext h nx h' n' → C LW fl 74 [.slice p l.length cp] ⟨h', n'⟩ (Sc (· = i64 (chkS l)) ⟨h', n'⟩) := fun fl h' n' e => c_checkScales e.d rfl hlen (hrow.ext e)
  have cL : ∀ fl h' n', C LW fl 64 [.agg (renc r), .agg [i64 (-1000000), i64 1000000]] ⟨h', n'⟩ (Sc (· = .bool (decide (ROk r.1 r.2))) ⟨h', n'⟩) := fun fl h' n' => by
    have := c_liesIn (fl := fl) (h := h') (nx := n') (a := r.1) (b := r.2) (lo := -1000000) (hi := 1000000)
    rwa [show decide (r.1 ≤ r.2 ∧ ((-1000000 : Int) ≤ r.1 ∧ r.1 ≤ 1000000) ∧ ((-1000000 : Int) ≤ r.2 ∧ r.2 ≤ 1000000)) = decide (ROk r.1 r.2) by congr 1; unfold ROk; exact propext ⟨fun h => by omega, fun h => by omega⟩] at this
  refine c_in lw53 rfl rfl rfl ?_
  dsimp only [L53]
  repeat' first
   | refine r_nil ?_
   | refine th_n ?_
   | refine th_r ?_
   | refine w_seq ?_
   | refine w_reg ?_
   | refine w_ret ?_
   | refine w_skip ?_
   | refine w_t (by simp (disch:=first|decide|(simp only[zF,zG];decide)) only [zA,zB,zC,zD,zE,zF,zG,zH,zI,zJ,zK,HV.cells,fl0,fl2,flS,flS1,flI1,flU1,flU2,flF]; first|done|exact rfl) ?_
   | refine w_f (by simp (disch:=first|decide|(simp only[zF,zG];decide)) only [zA,zB,zC,zD,zE,zF,zG,zH,zI,zJ,zK,HV.cells,fl0,fl2,flS,flS1,flI1,flU1,flU2,flF]; first|done|exact rfl) ?_
   | refine r_move (by simp (disch:=first|decide|(simp only[zF,zG];decide)) only [zA,zB,zC,zD,zE,zF,zG,zH,zI,zJ,zK,HV.cells,fl0,fl2,flS,flS1,flI1,flU1,flU2,flF]; try exact rfl) ?_
   | refine r_ldn (by simp (disch:=first|decide|(simp only[zF,zG];decide)) only [zA,zB,zC,zD,zE,zF,zG,zH,zI,zJ,zK,HV.cells,fl0,fl2,flS,flS1,flI1,flU1,flU2,flF]; try exact rfl) (by first|assumption|(simp (disch:=omega) only [get_same,get_other]; first|done|exact rfl)) (by first|assumption|exact ow2 _ _ _ _|exact ow3 _ _ _ _ _ _|rfl|(simp only [zI,zJ,HV.cells]; exact rfl)) ?_
   | refine r_box (by simp (disch:=first|decide|(simp only[zF,zG];decide)) only [zA,zB,zC,zD,zE,zF,zG,zH,zI,zJ,zK,HV.cells,fl0,fl2,flS,flS1,flI1,flU1,flU2,flF]; try exact rfl) ?_
   | refine r_eq (by simp (disch:=first|decide|(simp only[zF,zG];decide)) only [zA,zB,zC,zD,zE,zF,zG,zH,zI,zJ,zK,HV.cells,fl0,fl2,flS,flS1,flI1,flU1,flU2,flF]; try exact rfl) (by simp (disch:=first|decide|(simp only[zF,zG];decide)) only [zA,zB,zC,zD,zE,zF,zG,zH,zI,zJ,zK,HV.cells,fl0,fl2,flS,flS1,flI1,flU1,flU2,flF]; try exact rfl) (fun hc => ?_) (fun hc => ?_) <;> (try (exfalso; omega))
   | refine r_ne (by simp (disch:=first|decide|(simp only[zF,zG];decide)) only [zA,zB,zC,zD,zE,zF,zG,zH,zI,zJ,zK,HV.cells,fl0,fl2,flS,flS1,flI1,flU1,flU2,flF]; try exact rfl) (by simp (disch:=first|decide|(simp only[zF,zG];decide)) only [zA,zB,zC,zD,zE,zF,zG,zH,zI,zJ,zK,HV.cells,fl0,fl2,flS,flS1,flI1,flU1,flU2,flF]; try exact rfl) (fun hc => ?_) (fun hc => ?_) <;> (try (exfalso; omega))
   | refine r_not1 (by simp (disch:=first|decide|(simp only[zF,zG];decide)) only [zA,zB,zC,zD,zE,zF,zG,zH,zI,zJ,zK,HV.cells,fl0,fl2,flS,flS1,flI1,flU1,flU2,flF]; try exact rfl) ?_
   | refine r_len (by simp (disch:=first|decide|(simp only[zF,zG];decide)) only [zA,zB,zC,zD,zE,zF,zG,zH,zI,zJ,zK,HV.cells,fl0,fl2,flS,flS1,flI1,flU1,flU2,flF]; try exact rfl) ?_
   | refine r_calls (by simp (disch:=first|decide|(simp only[zF,zG];decide)) only [zA,zB,zC,zD,zE,zF,zG,zH,zI,zJ,zK,HV.cells,fl0,fl2,flS,flS1,flI1,flU1,flU2,flF]; try exact rfl) (by simp (disch:=first|decide|(simp only[zF,zG];decide)) only [List.map_cons,List.map_nil,List.nil_append,List.cons_append,List.append_nil,zA,zB,zC,zD,zE,zF,zG,zH,zI,zJ,zK,HV.cells,fl0,fl2,flS,flS1,flI1,flU1,flU2,flF]; first|done|exact rfl) (cA _ _ _ (by repeat' first|assumption|refine Ext.put ?_ (by omega) (by omega)|exact Ext.up (by assumption) (by omega)|exact Ext.nx (by assumption) (by omega))) (fun n' hn' => ?_)
   | refine r_calls (by simp (disch:=first|decide|(simp only[zF,zG];decide)) only [zA,zB,zC,zD,zE,zF,zG,zH,zI,zJ,zK,HV.cells,fl0,fl2,flS,flS1,flI1,flU1,flU2,flF]; try exact rfl) (by simp (disch:=first|decide|(simp only[zF,zG];decide)) only [List.map_cons,List.map_nil,List.nil_append,List.cons_append,List.append_nil,zA,zB,zC,zD,zE,zF,zG,zH,zI,zJ,zK,HV.cells,fl0,fl2,flS,flS1,flI1,flU1,flU2,flF]; first|done|exact rfl) c_bor (fun n' hn' => ?_)
   | refine r_calld (by simp (disch:=first|decide|(simp only[zF,zG];decide)) only [zA,zB,zC,zD,zE,zF,zG,zH,zI,zJ,zK,HV.cells,fl0,fl2,flS,flS1,flI1,flU1,flU2,flF]; try exact rfl) (by simp (disch:=first|decide|(simp only[zF,zG];decide)) only [List.map_cons,List.map_nil,List.nil_append,List.cons_append,List.append_nil,zA,zB,zC,zD,zE,zF,zG,zH,zI,zJ,zK,HV.cells,fl0,fl2,flS,flS1,flI1,flU1,flU2,flF]; first|done|exact rfl) (cL _ _ _) (fun n' hn' hc => ?_) (fun n' hn' hc => ?_) <;> (try (exfalso; omega))
   | refine w_draw (by omega) (by (repeat' first|assumption|refine D.upd ?_ (by omega)|exact D.mono (by assumption) (by omega)) <;> fail) ?_
   | refine d_rest rfl ?_
   | refine d_one rfl ?_
   | refine d_next (by omega) ?_
   | fail
  all_goals
    refine fin_r (by simp only [zL,zM]) (by simp (disch:=first|decide|(simp only[zF,zG];decide)) only [zA,zB,zC,zD,zE,zF,zG,zH,zI,zJ,zK,HV.cells,fl0,fl2,flS,flS1,flI1,flU1,flU2,flF]; try exact rfl) (sc_flat rfl (by dsimp only; omega) ?_)
    unfold chkR
    first
      | rw [if_neg (by assumption)]
      | rw [if_pos (by assumption), if_pos (by omega)]
      | rw [if_pos (by assumption), if_neg (by omega), if_pos (by assumption)]
      | rw [if_pos (by assumption), if_neg (by omega), if_neg (by assumption)]
end Go.Hx

/- Layer 3: through scales; the thousandths of readings. -/
namespace Go.Hx
set_option linter.unusedSimpArgs false
set_option linter.unusedVariables false
set_option maxRecDepth 20000
set_option maxHeartbeats 4000000
attribute [local irreducible] W R C thenH inBlockH
theorem chk_zero {l : List (Int × Int)} {r : Int × Int} (h : chkR l r = 0) : l.length ≤ 8 ∧ LOk l ∧ l.length ≠ 0 ∧ ROk r.1 r.2 := by
  unfold chkR chkS at h
  by_cases h1 : l.length ≤ 8
  · by_cases h2 : LOk l
    · rw [if_pos h1, if_pos h2, if_pos rfl] at h
      by_cases h3 : l.length = 0
      · rw [if_pos h3] at h; omega
      · rw [if_neg h3] at h
        by_cases h4 : ROk r.1 r.2
        · exact ⟨h1, h2, h3, h4⟩
        · rw [if_neg h4] at h; omega
    · rw [if_pos h1, if_neg h2, if_neg (by decide)] at h; omega
  · rw [if_neg h1, if_neg (by decide)] at h; omega
/-- The least of some numbers. -/
def lst (x : Int) (ys : List Int) : Int := ys.foldl min x
/- 78 -/
theorem loop78 {lp : Nat → Option LFunc} {fl : Nat} {h : Tr HBlk} {nx : Nat} {Q : HExit → HAct → HS → Prop} {p : Option (Nat × Nat)} {ys : List Int} {c : Nat} (hrow : Row ienc 1 h nx p ys) (hlen : ys.length < 1000000000) :
    ∀ (m i : Nat) (cur : Int) (a : HAct), m + i = ys.length → a.nt = 19 → a.defers = [] → a.tmp 0 = i64 cur → a.tmp 7 = .slice p ys.length c → a.tmp 8 = i64 ys.length → a.tmp 9 = i64 i →
      (∀ a', a'.nt = 19 → a'.defers = [] → a'.tmp 0 = i64 (lst cur (ys.drop i)) → Q .normal a' ⟨h, nx⟩) → W lp fl none (.loop L78w0) (inBlockH 0 Q) a ⟨h, nx⟩
  | 0, i, cur, a, hm, hnt, hds, h0, h7, h8, h9, hq => by
    refine w_it (show L78w0 = _ by unfold L78w0; exact rfl) ?_
    repeat' first
     | refine r_nil ?_
     | refine th_n ?_
     | refine th_e ?_
     | refine ib_e ?_
     | refine w_exit ?_
     | refine w_seq ?_
     | refine w_reg ?_
     | refine w_f (by simp (disch:=first|decide|(simp only[zF,zG,hnt, h0, h7, h8, h9];decide)) only [zA,zB,zC,zD,zE,zF,zG,zH,zI,zJ,zK,HV.cells,fl0,fl2,flS,flS1,flI1,flU1,flU2,flF,hnt, h0, h7, h8, h9]; first|done|exact rfl) ?_
     | refine r_lss (by simp (disch:=first|decide|(simp only[zF,zG,hnt, h0, h7, h8, h9];decide)) only [zA,zB,zC,zD,zE,zF,zG,zH,zI,zJ,zK,HV.cells,fl0,fl2,flS,flS1,flI1,flU1,flU2,flF,hnt, h0, h7, h8, h9]; try exact rfl) (by simp (disch:=first|decide|(simp only[zF,zG,hnt, h0, h7, h8, h9];decide)) only [zA,zB,zC,zD,zE,zF,zG,zH,zI,zJ,zK,HV.cells,fl0,fl2,flS,flS1,flI1,flU1,flU2,flF,hnt, h0, h7, h8, h9]; try exact rfl) (fun hc => ?_) (fun hc => ?_) <;> (try (exfalso; omega))
     | fail
    refine hq _ ?_ ?_ ?_
    · simp only [put_nt, hnt]
    · simp only [put_defers, hds]
    · rw [List.drop_of_length_le (by omega)]; exact (by simp (disch:=first|decide|(simp only[zF,zG,hnt, h0];decide)) only [zA,zB,zC,zD,zE,zF,zG,zH,zI,zJ,zK,HV.cells,fl0,fl2,flS,flS1,flI1,flU1,flU2,flF,hnt, h0]; try exact rfl)
  | m + 1, i, cur, a, hm, hnt, hds, h0, h7, h8, h9, hq => by
    have hi : i < ys.length := by omega
    obtain ⟨b, o, cs, k, rfl, hb, hg, hcs⟩ := hrow (by intro e; rw [e] at hi; simp at hi)
    have hy : ys[i]? = some ys[i] := by simp [hi]
    have e0 := take_at (hcs i _ hy) (j := 0) rfl
    refine w_it (show L78w0 = _ by unfold L78w0; exact rfl) ?_
    repeat' first
     | refine r_nil ?_
     | refine th_n ?_
     | refine ib_n ?_
     | refine w_seq ?_
     | refine w_reg ?_
     | refine w_skip ?_
     | refine w_block ?_
     | refine w_t (by simp (disch:=first|decide|(simp only[zF,zG,hnt, h0, h7, h8, h9];decide)) only [zA,zB,zC,zD,zE,zF,zG,zH,zI,zJ,zK,HV.cells,fl0,fl2,flS,flS1,flI1,flU1,flU2,flF,hnt, h0, h7, h8, h9]; first|done|exact rfl) ?_
     | refine w_f (by simp (disch:=first|decide|(simp only[zF,zG,hnt, h0, h7, h8, h9];decide)) only [zA,zB,zC,zD,zE,zF,zG,zH,zI,zJ,zK,HV.cells,fl0,fl2,flS,flS1,flI1,flU1,flU2,flF,hnt, h0, h7, h8, h9]; first|done|exact rfl) ?_
     | refine r_move (by simp (disch:=first|decide|(simp only[zF,zG,hnt, h0, h7, h8, h9];decide)) only [zA,zB,zC,zD,zE,zF,zG,zH,zI,zJ,zK,HV.cells,fl0,fl2,flS,flS1,flI1,flU1,flU2,flF,hnt, h0, h7, h8, h9]; try exact rfl) ?_
     | refine r_ld1 (by simp (disch:=first|decide|(simp only[zF,zG,hnt, h0, h7, h8, h9];decide)) only [zA,zB,zC,zD,zE,zF,zG,zH,zI,zJ,zK,HV.cells,fl0,fl2,flS,flS1,flI1,flU1,flU2,flF,hnt, h0, h7, h8, h9]; try exact rfl) (by first|assumption|(simp (disch:=omega) only [get_same,get_other,hnt, h0, h7, h8, h9]; first|done|exact rfl)) (by first|assumption|exact ow2 _ _ _ _|exact ow3 _ _ _ _ _ _|rfl|(simp only [zI,zJ,HV.cells,hnt, h0, h7, h8, h9]; exact rfl)) ?_
     | refine r_add (by simp (disch:=first|decide|(simp only[zF,zG,hnt, h0, h7, h8, h9];decide)) only [zA,zB,zC,zD,zE,zF,zG,zH,zI,zJ,zK,HV.cells,fl0,fl2,flS,flS1,flI1,flU1,flU2,flF,hnt, h0, h7, h8, h9]; try exact rfl) (by simp (disch:=first|decide|(simp only[zF,zG,hnt, h0, h7, h8, h9];decide)) only [zA,zB,zC,zD,zE,zF,zG,zH,zI,zJ,zK,HV.cells,fl0,fl2,flS,flS1,flI1,flU1,flU2,flF,hnt, h0, h7, h8, h9]; try exact rfl) (by omega) (by omega) ?_
     | refine r_lss (by simp (disch:=first|decide|(simp only[zF,zG,hnt, h0, h7, h8, h9];decide)) only [zA,zB,zC,zD,zE,zF,zG,zH,zI,zJ,zK,HV.cells,fl0,fl2,flS,flS1,flI1,flU1,flU2,flF,hnt, h0, h7, h8, h9]; try exact rfl) (by simp (disch:=first|decide|(simp only[zF,zG,hnt, h0, h7, h8, h9];decide)) only [zA,zB,zC,zD,zE,zF,zG,zH,zI,zJ,zK,HV.cells,fl0,fl2,flS,flS1,flI1,flU1,flU2,flF,hnt, h0, h7, h8, h9]; try exact rfl) (fun hc => ?_) (fun hc => ?_) <;> (try (exfalso; omega))
     | refine r_ixs (by simp (disch:=first|decide|(simp only[zF,zG,hnt, h0, h7, h8, h9];decide)) only [zA,zB,zC,zD,zE,zF,zG,zH,zI,zJ,zK,HV.cells,fl0,fl2,flS,flS1,flI1,flU1,flU2,flF,hnt, h0, h7, h8, h9]; try exact rfl) (by simp (disch:=first|decide|(simp only[zF,zG,hnt, h0, h7, h8, h9];decide)) only [zA,zB,zC,zD,zE,zF,zG,zH,zI,zJ,zK,HV.cells,fl0,fl2,flS,flS1,flI1,flU1,flU2,flF,hnt, h0, h7, h8, h9]; try exact rfl) (by omega) ?_
     | fail
    · refine loop78 (c := c) hrow hlen m (i + 1) ys[i] _ (by omega) ?_ ?_ ?_ ?_ ?_ ?_ (fun a' g1 g2 g3 => hq a' g1 g2 ?_)
      all_goals try first|(simp only [zL,zM,zF,zG,hnt, hds, h0, h7, h8, h9];done)|(simp (disch:=first|decide|(simp only[zF,zG,hnt, hds, h0, h7, h8, h9];decide)) only [zA,zB,zC,zD,zE,zF,zG,zH,zI,zJ,zK,HV.cells,fl0,fl2,flS,flS1,flI1,flU1,flU2,flF,hnt, hds, h0, h7, h8, h9];first|done|exact rfl)|assumption
      rw [List.drop_eq_getElem_cons hi]
      show _ = i64 (lst (min cur ys[i]) _)
      rw [g3, show min cur ys[i] = ys[i] by omega]
    · refine loop78 (c := c) hrow hlen m (i + 1) cur _ (by omega) ?_ ?_ ?_ ?_ ?_ ?_ (fun a' g1 g2 g3 => hq a' g1 g2 ?_)
      all_goals try first|(simp only [zL,zM,zF,zG,hnt, hds, h0, h7, h8, h9];done)|(simp (disch:=first|decide|(simp only[zF,zG,hnt, hds, h0, h7, h8, h9];decide)) only [zA,zB,zC,zD,zE,zF,zG,zH,zI,zJ,zK,HV.cells,fl0,fl2,flS,flS1,flI1,flU1,flU2,flF,hnt, hds, h0, h7, h8, h9];first|done|exact rfl)|assumption
      rw [List.drop_eq_getElem_cons hi]
      show _ = i64 (lst (min cur ys[i]) _)
      rw [g3, show min cur ys[i] = cur by omega]
theorem c_least {lp : Nat → Option LFunc} (h78 : lp 78 = some L78) {fl : Nat} {h : Tr HBlk} {nx : Nat} {x : Int} {ys : List Int} {p : Option (Nat × Nat)} {n c : Nat} (hn : n = ys.length) (hrow : Row ienc 1 h nx p ys) (hlen : ys.length < 1000000000) : C lp fl 78 [i64 x, .slice p n c] ⟨h, nx⟩ (Sc (· = i64 (lst x ys)) ⟨h, nx⟩) := by
  subst hn
  refine c_in h78 rfl rfl rfl ?_
  dsimp only [L78]
  repeat' first
   | refine r_nil ?_
   | refine th_n ?_
   | refine w_seq ?_
   | refine w_reg ?_
   | refine w_block ?_
   | refine r_move (by simp (disch:=first|decide|(simp only[zF,zG];decide)) only [zA,zB,zC,zD,zE,zF,zG,zH,zI,zJ,zK,HV.cells,fl0,fl2,flS,flS1,flI1,flU1,flU2,flF]; try exact rfl) ?_
   | refine r_len (by simp (disch:=first|decide|(simp only[zF,zG];decide)) only [zA,zB,zC,zD,zE,zF,zG,zH,zI,zJ,zK,HV.cells,fl0,fl2,flS,flS1,flI1,flU1,flU2,flF]; try exact rfl) ?_
   | fail
  refine loop78 (c := c) hrow hlen ys.length 0 x _ (by omega) ?_ ?_ ?_ ?_ ?_ ?_ (fun a' g1 g2 g3 => ?_)
  all_goals try first|(simp only [zL,zM,zF,zG];done)|(simp (disch:=first|decide|(simp only[zF,zG];decide)) only [zA,zB,zC,zD,zE,zF,zG,zH,zI,zJ,zK,HV.cells,fl0,fl2,flS,flS1,flI1,flU1,flU2,flF];first|done|exact rfl)|assumption
  repeat' first
   | refine r_nil ?_
   | refine th_n ?_
   | refine w_seq ?_
   | refine w_reg ?_
   | refine w_ret ?_
   | refine r_move (by simp (disch:=first|decide|(simp only[zF,zG,g1, g2, g3];decide)) only [zA,zB,zC,zD,zE,zF,zG,zH,zI,zJ,zK,HV.cells,fl0,fl2,flS,flS1,flI1,flU1,flU2,flF,g1, g2, g3]; try exact rfl) ?_
   | fail
  refine fin_r (by simp only [put_defers, g2]) (by simp (disch:=first|decide|(simp only[zF,zG,g1, g3];decide)) only [zA,zB,zC,zD,zE,zF,zG,zH,zI,zJ,zK,HV.cells,fl0,fl2,flS,flS1,flI1,flU1,flU2,flF,g1, g3]; try exact rfl) ?_
  exact ⟨rfl, _, Nat.le_refl _, rfl⟩
/-- The greatest of some numbers. -/
def gst (x : Int) (ys : List Int) : Int := ys.foldl max x
/- 79 -/
theorem loop79 {lp : Nat → Option LFunc} {fl : Nat} {h : Tr HBlk} {nx : Nat} {Q : HExit → HAct → HS → Prop} {p : Option (Nat × Nat)} {ys : List Int} {c : Nat} (hrow : Row ienc 1 h nx p ys) (hlen : ys.length < 1000000000) :
    ∀ (m i : Nat) (cur : Int) (a : HAct), m + i = ys.length → a.nt = 19 → a.defers = [] → a.tmp 0 = i64 cur → a.tmp 7 = .slice p ys.length c → a.tmp 8 = i64 ys.length → a.tmp 9 = i64 i →
      (∀ a', a'.nt = 19 → a'.defers = [] → a'.tmp 0 = i64 (gst cur (ys.drop i)) → Q .normal a' ⟨h, nx⟩) → W lp fl none (.loop L79w0) (inBlockH 0 Q) a ⟨h, nx⟩
  | 0, i, cur, a, hm, hnt, hds, h0, h7, h8, h9, hq => by
    refine w_it (show L79w0 = _ by unfold L79w0; exact rfl) ?_
    repeat' first
     | refine r_nil ?_
     | refine th_n ?_
     | refine th_e ?_
     | refine ib_e ?_
     | refine w_exit ?_
     | refine w_seq ?_
     | refine w_reg ?_
     | refine w_f (by simp (disch:=first|decide|(simp only[zF,zG,hnt, h0, h7, h8, h9];decide)) only [zA,zB,zC,zD,zE,zF,zG,zH,zI,zJ,zK,HV.cells,fl0,fl2,flS,flS1,flI1,flU1,flU2,flF,hnt, h0, h7, h8, h9]; first|done|exact rfl) ?_
     | refine r_lss (by simp (disch:=first|decide|(simp only[zF,zG,hnt, h0, h7, h8, h9];decide)) only [zA,zB,zC,zD,zE,zF,zG,zH,zI,zJ,zK,HV.cells,fl0,fl2,flS,flS1,flI1,flU1,flU2,flF,hnt, h0, h7, h8, h9]; try exact rfl) (by simp (disch:=first|decide|(simp only[zF,zG,hnt, h0, h7, h8, h9];decide)) only [zA,zB,zC,zD,zE,zF,zG,zH,zI,zJ,zK,HV.cells,fl0,fl2,flS,flS1,flI1,flU1,flU2,flF,hnt, h0, h7, h8, h9]; try exact rfl) (fun hc => ?_) (fun hc => ?_) <;> (try (exfalso; omega))
     | fail
    refine hq _ ?_ ?_ ?_
    · simp only [put_nt, hnt]
    · simp only [put_defers, hds]
    · rw [List.drop_of_length_le (by omega)]; exact (by simp (disch:=first|decide|(simp only[zF,zG,hnt, h0];decide)) only [zA,zB,zC,zD,zE,zF,zG,zH,zI,zJ,zK,HV.cells,fl0,fl2,flS,flS1,flI1,flU1,flU2,flF,hnt, h0]; try exact rfl)
  | m + 1, i, cur, a, hm, hnt, hds, h0, h7, h8, h9, hq => by
    have hi : i < ys.length := by omega
    obtain ⟨b, o, cs, k, rfl, hb, hg, hcs⟩ := hrow (by intro e; rw [e] at hi; simp at hi)
    have hy : ys[i]? = some ys[i] := by simp [hi]
    have e0 := take_at (hcs i _ hy) (j := 0) rfl
    refine w_it (show L79w0 = _ by unfold L79w0; exact rfl) ?_
    repeat' first
     | refine r_nil ?_
     | refine th_n ?_
     | refine ib_n ?_
     | refine w_seq ?_
     | refine w_reg ?_
     | refine w_skip ?_
     | refine w_block ?_
     | refine w_t (by simp (disch:=first|decide|(simp only[zF,zG,hnt, h0, h7, h8, h9];decide)) only [zA,zB,zC,zD,zE,zF,zG,zH,zI,zJ,zK,HV.cells,fl0,fl2,flS,flS1,flI1,flU1,flU2,flF,hnt, h0, h7, h8, h9]; first|done|exact rfl) ?_
     | refine w_f (by simp (disch:=first|decide|(simp only[zF,zG,hnt, h0, h7, h8, h9];decide)) only [zA,zB,zC,zD,zE,zF,zG,zH,zI,zJ,zK,HV.cells,fl0,fl2,flS,flS1,flI1,flU1,flU2,flF,hnt, h0, h7, h8, h9]; first|done|exact rfl) ?_
     | refine r_move (by simp (disch:=first|decide|(simp only[zF,zG,hnt, h0, h7, h8, h9];decide)) only [zA,zB,zC,zD,zE,zF,zG,zH,zI,zJ,zK,HV.cells,fl0,fl2,flS,flS1,flI1,flU1,flU2,flF,hnt, h0, h7, h8, h9]; try exact rfl) ?_
     | refine r_ld1 (by simp (disch:=first|decide|(simp only[zF,zG,hnt, h0, h7, h8, h9];decide)) only [zA,zB,zC,zD,zE,zF,zG,zH,zI,zJ,zK,HV.cells,fl0,fl2,flS,flS1,flI1,flU1,flU2,flF,hnt, h0, h7, h8, h9]; try exact rfl) (by first|assumption|(simp (disch:=omega) only [get_same,get_other,hnt, h0, h7, h8, h9]; first|done|exact rfl)) (by first|assumption|exact ow2 _ _ _ _|exact ow3 _ _ _ _ _ _|rfl|(simp only [zI,zJ,HV.cells,hnt, h0, h7, h8, h9]; exact rfl)) ?_
     | refine r_add (by simp (disch:=first|decide|(simp only[zF,zG,hnt, h0, h7, h8, h9];decide)) only [zA,zB,zC,zD,zE,zF,zG,zH,zI,zJ,zK,HV.cells,fl0,fl2,flS,flS1,flI1,flU1,flU2,flF,hnt, h0, h7, h8, h9]; try exact rfl) (by simp (disch:=first|decide|(simp only[zF,zG,hnt, h0, h7, h8, h9];decide)) only [zA,zB,zC,zD,zE,zF,zG,zH,zI,zJ,zK,HV.cells,fl0,fl2,flS,flS1,flI1,flU1,flU2,flF,hnt, h0, h7, h8, h9]; try exact rfl) (by omega) (by omega) ?_
     | refine r_lss (by simp (disch:=first|decide|(simp only[zF,zG,hnt, h0, h7, h8, h9];decide)) only [zA,zB,zC,zD,zE,zF,zG,zH,zI,zJ,zK,HV.cells,fl0,fl2,flS,flS1,flI1,flU1,flU2,flF,hnt, h0, h7, h8, h9]; try exact rfl) (by simp (disch:=first|decide|(simp only[zF,zG,hnt, h0, h7, h8, h9];decide)) only [zA,zB,zC,zD,zE,zF,zG,zH,zI,zJ,zK,HV.cells,fl0,fl2,flS,flS1,flI1,flU1,flU2,flF,hnt, h0, h7, h8, h9]; try exact rfl) (fun hc => ?_) (fun hc => ?_) <;> (try (exfalso; omega))
     | refine r_gtr (by simp (disch:=first|decide|(simp only[zF,zG,hnt, h0, h7, h8, h9];decide)) only [zA,zB,zC,zD,zE,zF,zG,zH,zI,zJ,zK,HV.cells,fl0,fl2,flS,flS1,flI1,flU1,flU2,flF,hnt, h0, h7, h8, h9]; try exact rfl) (by simp (disch:=first|decide|(simp only[zF,zG,hnt, h0, h7, h8, h9];decide)) only [zA,zB,zC,zD,zE,zF,zG,zH,zI,zJ,zK,HV.cells,fl0,fl2,flS,flS1,flI1,flU1,flU2,flF,hnt, h0, h7, h8, h9]; try exact rfl) (fun hc => ?_) (fun hc => ?_) <;> (try (exfalso; omega))
     | refine r_ixs (by simp (disch:=first|decide|(simp only[zF,zG,hnt, h0, h7, h8, h9];decide)) only [zA,zB,zC,zD,zE,zF,zG,zH,zI,zJ,zK,HV.cells,fl0,fl2,flS,flS1,flI1,flU1,flU2,flF,hnt, h0, h7, h8, h9]; try exact rfl) (by simp (disch:=first|decide|(simp only[zF,zG,hnt, h0, h7, h8, h9];decide)) only [zA,zB,zC,zD,zE,zF,zG,zH,zI,zJ,zK,HV.cells,fl0,fl2,flS,flS1,flI1,flU1,flU2,flF,hnt, h0, h7, h8, h9]; try exact rfl) (by omega) ?_
     | fail
    · refine loop79 (c := c) hrow hlen m (i + 1) ys[i] _ (by omega) ?_ ?_ ?_ ?_ ?_ ?_ (fun a' g1 g2 g3 => hq a' g1 g2 ?_)
      all_goals try first|(simp only [zL,zM,zF,zG,hnt, hds, h0, h7, h8, h9];done)|(simp (disch:=first|decide|(simp only[zF,zG,hnt, hds, h0, h7, h8, h9];decide)) only [zA,zB,zC,zD,zE,zF,zG,zH,zI,zJ,zK,HV.cells,fl0,fl2,flS,flS1,flI1,flU1,flU2,flF,hnt, hds, h0, h7, h8, h9];first|done|exact rfl)|assumption
      rw [List.drop_eq_getElem_cons hi]
      show _ = i64 (gst (max cur ys[i]) _)
      rw [g3, show max cur ys[i] = ys[i] by omega]
    · refine loop79 (c := c) hrow hlen m (i + 1) cur _ (by omega) ?_ ?_ ?_ ?_ ?_ ?_ (fun a' g1 g2 g3 => hq a' g1 g2 ?_)
      all_goals try first|(simp only [zL,zM,zF,zG,hnt, hds, h0, h7, h8, h9];done)|(simp (disch:=first|decide|(simp only[zF,zG,hnt, hds, h0, h7, h8, h9];decide)) only [zA,zB,zC,zD,zE,zF,zG,zH,zI,zJ,zK,HV.cells,fl0,fl2,flS,flS1,flI1,flU1,flU2,flF,hnt, hds, h0, h7, h8, h9];first|done|exact rfl)|assumption
      rw [List.drop_eq_getElem_cons hi]
      show _ = i64 (gst (max cur ys[i]) _)
      rw [g3, show max cur ys[i] = cur by omega]
theorem c_greatest {lp : Nat → Option LFunc} (h79 : lp 79 = some L79) {fl : Nat} {h : Tr HBlk} {nx : Nat} {x : Int} {ys : List Int} {p : Option (Nat × Nat)} {n c : Nat} (hn : n = ys.length) (hrow : Row ienc 1 h nx p ys) (hlen : ys.length < 1000000000) : C lp fl 79 [i64 x, .slice p n c] ⟨h, nx⟩ (Sc (· = i64 (gst x ys)) ⟨h, nx⟩) := by
  subst hn
  refine c_in h79 rfl rfl rfl ?_
  dsimp only [L79]
  repeat' first
   | refine r_nil ?_
   | refine th_n ?_
   | refine w_seq ?_
   | refine w_reg ?_
   | refine w_block ?_
   | refine r_move (by simp (disch:=first|decide|(simp only[zF,zG];decide)) only [zA,zB,zC,zD,zE,zF,zG,zH,zI,zJ,zK,HV.cells,fl0,fl2,flS,flS1,flI1,flU1,flU2,flF]; try exact rfl) ?_
   | refine r_len (by simp (disch:=first|decide|(simp only[zF,zG];decide)) only [zA,zB,zC,zD,zE,zF,zG,zH,zI,zJ,zK,HV.cells,fl0,fl2,flS,flS1,flI1,flU1,flU2,flF]; try exact rfl) ?_
   | fail
  refine loop79 (c := c) hrow hlen ys.length 0 x _ (by omega) ?_ ?_ ?_ ?_ ?_ ?_ (fun a' g1 g2 g3 => ?_)
  all_goals try first|(simp only [zL,zM,zF,zG];done)|(simp (disch:=first|decide|(simp only[zF,zG];decide)) only [zA,zB,zC,zD,zE,zF,zG,zH,zI,zJ,zK,HV.cells,fl0,fl2,flS,flS1,flI1,flU1,flU2,flF];first|done|exact rfl)|assumption
  repeat' first
   | refine r_nil ?_
   | refine th_n ?_
   | refine w_seq ?_
   | refine w_reg ?_
   | refine w_ret ?_
   | refine r_move (by simp (disch:=first|decide|(simp only[zF,zG,g1, g2, g3];decide)) only [zA,zB,zC,zD,zE,zF,zG,zH,zI,zJ,zK,HV.cells,fl0,fl2,flS,flS1,flI1,flU1,flU2,flF,g1, g2, g3]; try exact rfl) ?_
   | fail
  refine fin_r (by simp only [put_defers, g2]) (by simp (disch:=first|decide|(simp only[zF,zG,g1, g3];decide)) only [zA,zB,zC,zD,zE,zF,zG,zH,zI,zJ,zK,HV.cells,fl0,fl2,flS,flS1,flI1,flU1,flU2,flF,g1, g3]; try exact rfl) ?_
  exact ⟨rfl, _, Nat.le_refl _, rfl⟩
theorem c_least1 {fl : Nat} {h : Tr HBlk} {nx : Nat} {x y : Int} {p : Option (Nat × Nat)} {cp : Nat} (hrow : Row ienc 1 h nx p [y]) : C LW fl 78 [i64 x, .slice p 1 cp] ⟨h, nx⟩ (Sc (· = i64 (min x y)) ⟨h, nx⟩) := c_least (ys := [y]) lw78 rfl hrow (by simp)
theorem c_greatest1 {fl : Nat} {h : Tr HBlk} {nx : Nat} {x y : Int} {p : Option (Nat × Nat)} {cp : Nat} (hrow : Row ienc 1 h nx p [y]) : C LW fl 79 [i64 x, .slice p 1 cp] ⟨h, nx⟩ (Sc (· = i64 (max x y)) ⟨h, nx⟩) := c_greatest (ys := [y]) lw79 rfl hrow (by simp)
/-- The thousandths of readings, where steam was at some height. -/
def tru (s q r : Int × Int) : Int × Int := (min (hlo s r * q.1) (hlo s r * q.2) / (2 * dg s), cdiv (max (hhi s r * q.1) (hhi s r * q.2)) (2 * dg s))
/- 54 -/
theorem c_true {fl : Nat} {h : Tr HBlk} {nx : Nat} (hd : D h nx) {s q r : Int × Int} (h1 : SOk s.1 s.2) (hr : ROk r.1 r.2) (hq : (0 ≤ q.1 ∧ q.1 ≤ 2000) ∧ 0 ≤ q.2 ∧ q.2 ≤ 2000) : C LW fl 54 [.agg (renc s), .agg (renc q), .agg (renc r)] ⟨h, nx⟩ (Sc (· = .agg (renc (tru s q r))) ⟨h, nx⟩) := by
  obtain ⟨b1, _, b3, b4, _⟩ := son_bd h1 h1 hr
  have a1 := s_bd h1
  have m1 := mul_bs (p := hlo s r) (q := q.1) (A := 2002001) (B := 2000) b3.1 b3.2 (by omega) (by omega) (by omega)
  have m2 := mul_bs (p := hlo s r) (q := q.2) (A := 2002001) (B := 2000) b3.1 b3.2 (by omega) (by omega) (by omega)
  have m3 := mul_bs (p := hhi s r) (q := q.1) (A := 2002001) (B := 2000) b4.1 b4.2 (by omega) (by omega) (by omega)
  have m4 := mul_bs (p := hhi s r) (q := q.2) (A := 2002001) (B := 2000) b4.1 b4.2 (by omega) (by omega) (by omega)
  have cU : ∀ fl h' n', C LW fl 76 [.agg (renc s)] ⟨h', n'⟩ (Sc (· = .agg [i64 (ic s.1 s.2), i64 (st s.1 s.2), .bool (tn s.1 s.2)]) ⟨h', n'⟩) := fun fl h' n' => c_upright (by unfold Big; unfold SOk at h1; omega) (by unfold Big; unfold SOk at h1; omega)
  have cH : ∀ fl h' n', C LW fl 77 [.agg [i64 (ic s.1 s.2), i64 (st s.1 s.2), .bool (tn s.1 s.2)], .agg (renc r)] ⟨h', n'⟩ (Sc (· = .agg (renc (hlo s r, hhi s r))) ⟨h', n'⟩) := fun fl h' n' => c_halves (by unfold Mid; unfold ROk at hr; omega) (by unfold Mid; unfold ROk at hr; omega) (by unfold Mid; omega)
  have cG : ∀ fl h' n' x, C LW fl 82 [.agg [i64 (ic s.1 s.2), i64 (st s.1 s.2), .bool (tn s.1 s.2)], i64 x] ⟨h', n'⟩ (Sc (· = .agg [i64 x, i64 (2 * dg s)]) ⟨h', n'⟩) := fun fl h' n' x => c_height (by unfold Mid; omega) (by unfold Mid; omega)
  have cO : ∀ fl h' n', D h' n' → C LW fl 81 [.agg [.func 91 [] [], .func 99 [] []], .agg [i64 (min (hlo s r * q.1) (hlo s r * q.2)), i64 (2 * dg s)], .agg [i64 (max (hhi s r * q.1) (hhi s r * q.2)), i64 (2 * dg s)]] ⟨h', n'⟩ (Sc (· = .agg (renc (tru s q r))) ⟨h', n'⟩) := fun fl h' n' e => c_ofO (by unfold Big; omega) (by omega) (by unfold Big; omega) (by omega) e
  refine c_in lw54 rfl rfl rfl ?_
  dsimp only [L54]
  repeat' first
   | refine r_nil ?_
   | refine th_n ?_
   | refine w_seq ?_
   | refine w_reg ?_
   | refine r_fa (by simp (disch:=first|decide|(simp only[zF,zG];decide)) only [zA,zB,zC,zD,zE,zF,zG,zH,zI,zJ,zK,HV.cells,fl0,fl2,flS,flS1,flI1,flU1,flU2,flF]; try exact rfl) ?_
   | refine r_ld1 (by simp (disch:=first|decide|(simp only[zF,zG];decide)) only [zA,zB,zC,zD,zE,zF,zG,zH,zI,zJ,zK,HV.cells,fl0,fl2,flS,flS1,flI1,flU1,flU2,flF]; try exact rfl) (by first|assumption|(simp (disch:=omega) only [get_same,get_other]; first|done|exact rfl)) (by first|assumption|exact ow2 _ _ _ _|exact ow3 _ _ _ _ _ _|rfl|(simp only [zI,zJ,HV.cells]; exact rfl)) ?_
   | refine r_ldn (by simp (disch:=first|decide|(simp only[zF,zG];decide)) only [zA,zB,zC,zD,zE,zF,zG,zH,zI,zJ,zK,HV.cells,fl0,fl2,flS,flS1,flI1,flU1,flU2,flF]; try exact rfl) (by first|assumption|(simp (disch:=omega) only [get_same,get_other]; first|done|exact rfl)) (by first|assumption|exact ow2 _ _ _ _|exact ow3 _ _ _ _ _ _|rfl|(simp only [zI,zJ,HV.cells]; exact rfl)) ?_
   | refine r_box (by simp (disch:=first|decide|(simp only[zF,zG];decide)) only [zA,zB,zC,zD,zE,zF,zG,zH,zI,zJ,zK,HV.cells,fl0,fl2,flS,flS1,flI1,flU1,flU2,flF]; try exact rfl) ?_
   | refine r_alloc ?_
   | refine r_st (cs' := _) (by simp (disch:=first|decide|(simp only[zF,zG];decide)) only [zA,zB,zC,zD,zE,zF,zG,zH,zI,zJ,zK,HV.cells,fl0,fl2,flS,flS1,flI1,flU1,flU2,flF]; try exact rfl) (by simp (disch:=first|decide|(simp only[zF,zG];decide)) only [zA,zB,zC,zD,zE,zF,zG,zH,zI,zJ,zK,HV.cells,fl0,fl2,flS,flS1,flI1,flU1,flU2,flF]; try exact rfl) (by first|assumption|(simp (disch:=omega) only [get_same,get_other]; first|done|exact rfl)) (by exact True.intro) (by rfl) (by rfl) (by first|assumption|exact ow2 _ _ _ _|exact ow3 _ _ _ _ _ _|rfl|(simp only [zI,zJ,HV.cells]; exact rfl)) (by omega) ?_
   | refine r_mul (by simp (disch:=first|decide|(simp only[zF,zG];decide)) only [zA,zB,zC,zD,zE,zF,zG,zH,zI,zJ,zK,HV.cells,fl0,fl2,flS,flS1,flI1,flU1,flU2,flF]; try exact rfl) (by simp (disch:=first|decide|(simp only[zF,zG];decide)) only [zA,zB,zC,zD,zE,zF,zG,zH,zI,zJ,zK,HV.cells,fl0,fl2,flS,flS1,flI1,flU1,flU2,flF]; try exact rfl) (by omega) (by omega) ?_
   | refine r_bs (by simp (disch:=first|decide|(simp only[zF,zG];decide)) only [evParts,List.map_cons,List.map_nil,List.nil_append,List.cons_append,List.append_nil,zA,zB,zC,zD,zE,zF,zG,zH,zI,zJ,zK,HV.cells,fl0,fl2,flS,flS1,flI1,flU1,flU2,flF]; try exact rfl) ?_
   | refine r_calls (by simp (disch:=first|decide|(simp only[zF,zG];decide)) only [zA,zB,zC,zD,zE,zF,zG,zH,zI,zJ,zK,HV.cells,fl0,fl2,flS,flS1,flI1,flU1,flU2,flF]; try exact rfl) (by simp (disch:=first|decide|(simp only[zF,zG];decide)) only [List.map_cons,List.map_nil,List.nil_append,List.cons_append,List.append_nil,zA,zB,zC,zD,zE,zF,zG,zH,zI,zJ,zK,HV.cells,fl0,fl2,flS,flS1,flI1,flU1,flU2,flF]; first|done|exact rfl) (cU _ _ _) (fun n' hn' => ?_)
   | refine r_calls (by simp (disch:=first|decide|(simp only[zF,zG];decide)) only [zA,zB,zC,zD,zE,zF,zG,zH,zI,zJ,zK,HV.cells,fl0,fl2,flS,flS1,flI1,flU1,flU2,flF]; try exact rfl) (by simp (disch:=first|decide|(simp only[zF,zG];decide)) only [List.map_cons,List.map_nil,List.nil_append,List.cons_append,List.append_nil,zA,zB,zC,zD,zE,zF,zG,zH,zI,zJ,zK,HV.cells,fl0,fl2,flS,flS1,flI1,flU1,flU2,flF]; first|done|exact rfl) (cH _ _ _) (fun n' hn' => ?_)
   | fail
  refine r_calls (by simp (disch:=first|decide|(simp only[zF,zG];decide)) only [zA,zB,zC,zD,zE,zF,zG,zH,zI,zJ,zK,HV.cells,fl0,fl2,flS,flS1,flI1,flU1,flU2,flF]; try exact rfl) (by simp (disch:=first|decide|(simp only[zF,zG];decide)) only [List.map_cons,List.map_nil,List.nil_append,List.cons_append,List.append_nil,zA,zB,zC,zD,zE,zF,zG,zH,zI,zJ,zK,HV.cells,fl0,fl2,flS,flS1,flI1,flU1,flU2,flF]; try exact rfl) (c_least1 (y := hlo s r * q.2) (row_flat (k := .exact) (fun _ => rfl) (by omega) (by first|assumption|(simp (disch:=omega) only [get_same,get_other]; first|done|exact rfl)))) (fun n1 hn1 => ?_)
  repeat' first
   | refine r_nil ?_
   | refine th_n ?_
   | refine w_seq ?_
   | refine w_reg ?_
   | refine r_move (by simp (disch:=first|decide|(simp only[zF,zG];decide)) only [zA,zB,zC,zD,zE,zF,zG,zH,zI,zJ,zK,HV.cells,fl0,fl2,flS,flS1,flI1,flU1,flU2,flF]; try exact rfl) ?_
   | refine r_fa (by simp (disch:=first|decide|(simp only[zF,zG];decide)) only [zA,zB,zC,zD,zE,zF,zG,zH,zI,zJ,zK,HV.cells,fl0,fl2,flS,flS1,flI1,flU1,flU2,flF]; try exact rfl) ?_
   | refine r_ld1 (by simp (disch:=first|decide|(simp only[zF,zG];decide)) only [zA,zB,zC,zD,zE,zF,zG,zH,zI,zJ,zK,HV.cells,fl0,fl2,flS,flS1,flI1,flU1,flU2,flF]; try exact rfl) (by first|assumption|(simp (disch:=omega) only [get_same,get_other]; first|done|exact rfl)) (by first|assumption|exact ow2 _ _ _ _|exact ow3 _ _ _ _ _ _|rfl|(simp only [zI,zJ,HV.cells]; exact rfl)) ?_
   | refine r_mul (by simp (disch:=first|decide|(simp only[zF,zG];decide)) only [zA,zB,zC,zD,zE,zF,zG,zH,zI,zJ,zK,HV.cells,fl0,fl2,flS,flS1,flI1,flU1,flU2,flF]; try exact rfl) (by simp (disch:=first|decide|(simp only[zF,zG];decide)) only [zA,zB,zC,zD,zE,zF,zG,zH,zI,zJ,zK,HV.cells,fl0,fl2,flS,flS1,flI1,flU1,flU2,flF]; try exact rfl) (by omega) (by omega) ?_
   | refine r_bs (by simp (disch:=first|decide|(simp only[zF,zG];decide)) only [evParts,List.map_cons,List.map_nil,List.nil_append,List.cons_append,List.append_nil,zA,zB,zC,zD,zE,zF,zG,zH,zI,zJ,zK,HV.cells,fl0,fl2,flS,flS1,flI1,flU1,flU2,flF]; try exact rfl) ?_
   | fail
  refine r_calls (by simp (disch:=first|decide|(simp only[zF,zG];decide)) only [zA,zB,zC,zD,zE,zF,zG,zH,zI,zJ,zK,HV.cells,fl0,fl2,flS,flS1,flI1,flU1,flU2,flF]; try exact rfl) (by simp (disch:=first|decide|(simp only[zF,zG];decide)) only [List.map_cons,List.map_nil,List.nil_append,List.cons_append,List.append_nil,zA,zB,zC,zD,zE,zF,zG,zH,zI,zJ,zK,HV.cells,fl0,fl2,flS,flS1,flI1,flU1,flU2,flF]; try exact rfl) (c_greatest1 (y := hhi s r * q.2) (row_flat (k := .exact) (fun _ => rfl) (by omega) (by first|assumption|(simp (disch:=omega) only [get_same,get_other]; first|done|exact rfl)))) (fun n2 hn2 => ?_)
  repeat' first
   | refine r_nil ?_
   | refine th_n ?_
   | refine w_seq ?_
   | refine w_ret ?_
   | refine r_move (by simp (disch:=first|decide|(simp only[zF,zG];decide)) only [zA,zB,zC,zD,zE,zF,zG,zH,zI,zJ,zK,HV.cells,fl0,fl2,flS,flS1,flI1,flU1,flU2,flF]; try exact rfl) ?_
   | refine r_ldn (by simp (disch:=first|decide|(simp only[zF,zG];decide)) only [zA,zB,zC,zD,zE,zF,zG,zH,zI,zJ,zK,HV.cells,fl0,fl2,flS,flS1,flI1,flU1,flU2,flF]; try exact rfl) (by first|assumption|(simp (disch:=omega) only [get_same,get_other]; first|done|exact rfl)) (by first|assumption|exact ow2 _ _ _ _|exact ow3 _ _ _ _ _ _|rfl|(simp only [zI,zJ,HV.cells]; exact rfl)) ?_
   | refine r_st (cs' := _) (by simp (disch:=first|decide|(simp only[zF,zG];decide)) only [zA,zB,zC,zD,zE,zF,zG,zH,zI,zJ,zK,HV.cells,fl0,fl2,flS,flS1,flI1,flU1,flU2,flF]; try exact rfl) (by simp (disch:=first|decide|(simp only[zF,zG];decide)) only [zA,zB,zC,zD,zE,zF,zG,zH,zI,zJ,zK,HV.cells,fl0,fl2,flS,flS1,flI1,flU1,flU2,flF]; try exact rfl) (by first|assumption|(simp (disch:=omega) only [get_same,get_other]; first|done|exact rfl)) (by exact True.intro) (by rfl) (by rfl) (by first|assumption|exact ow2 _ _ _ _|exact ow3 _ _ _ _ _ _|rfl|(simp only [zI,zJ,HV.cells]; exact rfl)) (by omega) ?_
   | refine r_calls (by simp (disch:=first|decide|(simp only[zF,zG];decide)) only [zA,zB,zC,zD,zE,zF,zG,zH,zI,zJ,zK,HV.cells,fl0,fl2,flS,flS1,flI1,flU1,flU2,flF]; try exact rfl) (by simp (disch:=first|decide|(simp only[zF,zG];decide)) only [List.map_cons,List.map_nil,List.nil_append,List.cons_append,List.append_nil,zA,zB,zC,zD,zE,zF,zG,zH,zI,zJ,zK,HV.cells,fl0,fl2,flS,flS1,flI1,flU1,flU2,flF]; first|done|exact rfl) c_outward (fun n' hn' => ?_)
   | refine r_calls (by simp (disch:=first|decide|(simp only[zF,zG];decide)) only [zA,zB,zC,zD,zE,zF,zG,zH,zI,zJ,zK,HV.cells,fl0,fl2,flS,flS1,flI1,flU1,flU2,flF]; try exact rfl) (by simp (disch:=first|decide|(simp only[zF,zG];decide)) only [List.map_cons,List.map_nil,List.nil_append,List.cons_append,List.append_nil,zA,zB,zC,zD,zE,zF,zG,zH,zI,zJ,zK,HV.cells,fl0,fl2,flS,flS1,flI1,flU1,flU2,flF]; first|done|exact rfl) (cG _ _ _ _) (fun n' hn' => ?_)
   | refine r_calls (by simp (disch:=first|decide|(simp only[zF,zG];decide)) only [zA,zB,zC,zD,zE,zF,zG,zH,zI,zJ,zK,HV.cells,fl0,fl2,flS,flS1,flI1,flU1,flU2,flF]; try exact rfl) (by simp (disch:=first|decide|(simp only[zF,zG];decide)) only [List.map_cons,List.map_nil,List.nil_append,List.cons_append,List.append_nil,zA,zB,zC,zD,zE,zF,zG,zH,zI,zJ,zK,HV.cells,fl0,fl2,flS,flS1,flI1,flU1,flU2,flF]; first|done|exact rfl) (cO _ _ _ (by (repeat' first|assumption|refine D.upd ?_ (by omega)|exact D.mono (by assumption) (by omega)) <;> fail)) (fun n' hn' => ?_)
   | refine w_draw (by omega) (by (repeat' first|assumption|refine D.upd ?_ (by omega)|exact D.mono (by assumption) (by omega)) <;> fail) ?_
   | refine d_rest rfl ?_
   | refine d_one rfl ?_
   | refine d_next (by omega) ?_
   | fail
  exact fin_m (by simp only [zL,zM]) (res_c (by simp (disch:=first|decide|(simp only[zF,zG];decide)) only [zA,zB,zC,zD,zE,zF,zG,zH,zI,zJ,zK,HV.cells,fl0,fl2,flS,flS1,flI1,flU1,flU2,flF]; try exact rfl) (by first|assumption|(simp (disch:=omega) only [get_same,get_other]; first|done|exact rfl)) rfl res_nil) (sc_flat rfl (by dsimp only; omega) rfl)
def hei (s r : Int × Int) : (Int × Int) × Int := if chkR [s] r = 0 then (tru s (1000, 1000) r, 0) else ((0, 0), chkR [s] r)
/- 18 -/
theorem c_Heights {fl : Nat} {h : Tr HBlk} {nx : Nat} (hd : D h nx) {s r : Int × Int} : C LW fl 18 [.agg (renc s), .agg (renc r)] ⟨h, nx⟩ (Sc (· = .tuple [.agg (renc (hei s r).1), i64 (hei s r).2]) ⟨h, nx⟩) := by
  refine c_in lw18 rfl rfl rfl ?_
  dsimp only [L18]
  by_cases hc : chkR [s] r = 0
  · obtain ⟨g1, g2, g3, g4⟩ := chk_zero hc
    have hs := g2 s (List.mem_singleton.2 rfl)
    rw [show hei s r = (tru s (1000, 1000) r, 0) from if_pos hc]
    repeat' first
     | refine r_nil ?_
     | refine th_n ?_
     | refine w_seq ?_
     | refine w_reg ?_
     | refine r_move (by simp (disch:=first|decide|(simp only[zF,zG];decide)) only [zA,zB,zC,zD,zE,zF,zG,zH,zI,zJ,zK,HV.cells,fl0,fl2,flS,flS1,flI1,flU1,flU2,flF]; try exact rfl) ?_
     | refine r_ldn (by simp (disch:=first|decide|(simp only[zF,zG];decide)) only [zA,zB,zC,zD,zE,zF,zG,zH,zI,zJ,zK,HV.cells,fl0,fl2,flS,flS1,flI1,flU1,flU2,flF]; try exact rfl) (by first|assumption|(simp (disch:=omega) only [get_same,get_other]; first|done|exact rfl)) (by first|assumption|exact ow2 _ _ _ _|exact ow3 _ _ _ _ _ _|rfl|(simp only [zI,zJ,HV.cells]; exact rfl)) ?_
     | refine r_box (by simp (disch:=first|decide|(simp only[zF,zG];decide)) only [zA,zB,zC,zD,zE,zF,zG,zH,zI,zJ,zK,HV.cells,fl0,fl2,flS,flS1,flI1,flU1,flU2,flF]; try exact rfl) ?_
     | refine r_alloc ?_
     | refine r_bs (by simp (disch:=first|decide|(simp only[zF,zG];decide)) only [evParts,List.map_cons,List.map_nil,List.nil_append,List.cons_append,List.append_nil,zA,zB,zC,zD,zE,zF,zG,zH,zI,zJ,zK,HV.cells,fl0,fl2,flS,flS1,flI1,flU1,flU2,flF]; try exact rfl) ?_
     | fail
    refine r_calls (by simp (disch:=first|decide|(simp only[zF,zG];decide)) only [zA,zB,zC,zD,zE,zF,zG,zH,zI,zJ,zK,HV.cells,fl0,fl2,flS,flS1,flI1,flU1,flU2,flF]; try exact rfl) (by simp (disch:=first|decide|(simp only[zF,zG];decide)) only [List.map_cons,List.map_nil,List.nil_append,List.cons_append,List.append_nil,zA,zB,zC,zD,zE,zF,zG,zH,zI,zJ,zK,HV.cells,fl0,fl2,flS,flS1,flI1,flU1,flU2,flF]; try exact rfl) (c_checkReadings (l := [s]) (r := r) (cp := 1) (by (repeat' first|assumption|refine D.upd ?_ (by omega)|exact D.mono (by assumption) (by omega)) <;> fail) rfl (by simp) (row_flat (k := .exact) renc_len (by omega) (by first|assumption|(simp (disch:=omega) only [get_same,get_other]; first|done|exact rfl)))) (fun n1 hn1 => ?_)
    have cT : ∀ fl h' n', D h' n' → C LW fl 54 [.agg (renc s), .agg [i64 1000, i64 1000], .agg (renc r)] ⟨h', n'⟩ (Sc (· = .agg (renc (tru s (1000, 1000) r))) ⟨h', n'⟩) := fun fl h' n' e => c_true (q := (1000, 1000)) e hs g4 (by dsimp only; omega)
    obtain ⟨u, hu⟩ : ∃ x, x = tru s (1000, 1000) r := ⟨_, rfl⟩
    rw [← hu] at cT ⊢
    rw [hc]
    repeat' first
     | refine r_nil ?_
     | refine th_n ?_
     | refine w_seq ?_
     | refine w_reg ?_
     | refine w_ret ?_
     | refine w_skip ?_
     | refine w_f (by simp (disch:=first|decide|(simp only[zF,zG];decide)) only [zA,zB,zC,zD,zE,zF,zG,zH,zI,zJ,zK,HV.cells,fl0,fl2,flS,flS1,flI1,flU1,flU2,flF]; first|done|exact rfl) ?_
     | refine r_move (by simp (disch:=first|decide|(simp only[zF,zG];decide)) only [zA,zB,zC,zD,zE,zF,zG,zH,zI,zJ,zK,HV.cells,fl0,fl2,flS,flS1,flI1,flU1,flU2,flF]; try exact rfl) ?_
     | refine r_ldn (by simp (disch:=first|decide|(simp only[zF,zG];decide)) only [zA,zB,zC,zD,zE,zF,zG,zH,zI,zJ,zK,HV.cells,fl0,fl2,flS,flS1,flI1,flU1,flU2,flF]; try exact rfl) (by first|assumption|(simp (disch:=omega) only [get_same,get_other]; first|done|exact rfl)) (by first|assumption|exact ow2 _ _ _ _|exact ow3 _ _ _ _ _ _|rfl|(simp only [zI,zJ,HV.cells]; exact rfl)) ?_
     | refine r_st (cs' := _) (by simp (disch:=first|decide|(simp only[zF,zG];decide)) only [zA,zB,zC,zD,zE,zF,zG,zH,zI,zJ,zK,HV.cells,fl0,fl2,flS,flS1,flI1,flU1,flU2,flF]; try exact rfl) (by simp (disch:=first|decide|(simp only[zF,zG];decide)) only [zA,zB,zC,zD,zE,zF,zG,zH,zI,zJ,zK,HV.cells,fl0,fl2,flS,flS1,flI1,flU1,flU2,flF]; try exact rfl) (by first|assumption|(simp (disch:=omega) only [get_same,get_other]; first|done|exact rfl)) (by exact True.intro) (by rfl) (by rfl) (by first|assumption|exact ow2 _ _ _ _|exact ow3 _ _ _ _ _ _|rfl|(simp only [zI,zJ,HV.cells]; exact rfl)) (by omega) ?_
     | refine r_ne (by simp (disch:=first|decide|(simp only[zF,zG];decide)) only [zA,zB,zC,zD,zE,zF,zG,zH,zI,zJ,zK,HV.cells,fl0,fl2,flS,flS1,flI1,flU1,flU2,flF]; try exact rfl) (by simp (disch:=first|decide|(simp only[zF,zG];decide)) only [zA,zB,zC,zD,zE,zF,zG,zH,zI,zJ,zK,HV.cells,fl0,fl2,flS,flS1,flI1,flU1,flU2,flF]; try exact rfl) (fun hc => ?_) (fun hc => ?_) <;> (try (exfalso; omega))
     | refine r_build (by simp (disch:=first|decide|(simp only[zF,zG];decide)) only [evParts,List.map_cons,List.map_nil,List.nil_append,List.cons_append,List.append_nil,zA,zB,zC,zD,zE,zF,zG,zH,zI,zJ,zK,HV.cells,fl0,fl2,flS,flS1,flI1,flU1,flU2,flF]; try exact rfl) ?_
     | refine r_calls (by simp (disch:=first|decide|(simp only[zF,zG];decide)) only [zA,zB,zC,zD,zE,zF,zG,zH,zI,zJ,zK,HV.cells,fl0,fl2,flS,flS1,flI1,flU1,flU2,flF]; try exact rfl) (by simp (disch:=first|decide|(simp only[zF,zG];decide)) only [List.map_cons,List.map_nil,List.nil_append,List.cons_append,List.append_nil,zA,zB,zC,zD,zE,zF,zG,zH,zI,zJ,zK,HV.cells,fl0,fl2,flS,flS1,flI1,flU1,flU2,flF]; first|done|exact rfl) (cT _ _ _ (by (repeat' first|assumption|refine D.upd ?_ (by omega)|exact D.mono (by assumption) (by omega)) <;> fail)) (fun n' hn' => ?_)
     | fail
    exact fin_m (by simp only [zL,zM]) (res_c (by simp (disch:=first|decide|(simp only[zF,zG];decide)) only [zA,zB,zC,zD,zE,zF,zG,zH,zI,zJ,zK,HV.cells,fl0,fl2,flS,flS1,flI1,flU1,flU2,flF]; try exact rfl) (by first|assumption|(simp (disch:=omega) only [get_same,get_other]; first|done|exact rfl)) rfl (res_t (by simp (disch:=first|decide|(simp only[zF,zG];decide)) only [zA,zB,zC,zD,zE,zF,zG,zH,zI,zJ,zK,HV.cells,fl0,fl2,flS,flS1,flI1,flU1,flU2,flF]; try exact rfl) res_nil)) (sc_flat rfl (by dsimp only; omega) rfl)
  · rw [show hei s r = ((0, 0), chkR [s] r) from if_neg hc]
    repeat' first
     | refine r_nil ?_
     | refine th_n ?_
     | refine w_seq ?_
     | refine w_reg ?_
     | refine r_move (by simp (disch:=first|decide|(simp only[zF,zG];decide)) only [zA,zB,zC,zD,zE,zF,zG,zH,zI,zJ,zK,HV.cells,fl0,fl2,flS,flS1,flI1,flU1,flU2,flF]; try exact rfl) ?_
     | refine r_ldn (by simp (disch:=first|decide|(simp only[zF,zG];decide)) only [zA,zB,zC,zD,zE,zF,zG,zH,zI,zJ,zK,HV.cells,fl0,fl2,flS,flS1,flI1,flU1,flU2,flF]; try exact rfl) (by first|assumption|(simp (disch:=omega) only [get_same,get_other]; first|done|exact rfl)) (by first|assumption|exact ow2 _ _ _ _|exact ow3 _ _ _ _ _ _|rfl|(simp only [zI,zJ,HV.cells]; exact rfl)) ?_
     | refine r_box (by simp (disch:=first|decide|(simp only[zF,zG];decide)) only [zA,zB,zC,zD,zE,zF,zG,zH,zI,zJ,zK,HV.cells,fl0,fl2,flS,flS1,flI1,flU1,flU2,flF]; try exact rfl) ?_
     | refine r_alloc ?_
     | refine r_bs (by simp (disch:=first|decide|(simp only[zF,zG];decide)) only [evParts,List.map_cons,List.map_nil,List.nil_append,List.cons_append,List.append_nil,zA,zB,zC,zD,zE,zF,zG,zH,zI,zJ,zK,HV.cells,fl0,fl2,flS,flS1,flI1,flU1,flU2,flF]; try exact rfl) ?_
     | fail
    refine r_calls (by simp (disch:=first|decide|(simp only[zF,zG];decide)) only [zA,zB,zC,zD,zE,zF,zG,zH,zI,zJ,zK,HV.cells,fl0,fl2,flS,flS1,flI1,flU1,flU2,flF]; try exact rfl) (by simp (disch:=first|decide|(simp only[zF,zG];decide)) only [List.map_cons,List.map_nil,List.nil_append,List.cons_append,List.append_nil,zA,zB,zC,zD,zE,zF,zG,zH,zI,zJ,zK,HV.cells,fl0,fl2,flS,flS1,flI1,flU1,flU2,flF]; try exact rfl) (c_checkReadings (l := [s]) (r := r) (cp := 1) (by (repeat' first|assumption|refine D.upd ?_ (by omega)|exact D.mono (by assumption) (by omega)) <;> fail) rfl (by simp) (row_flat (k := .exact) renc_len (by omega) (by first|assumption|(simp (disch:=omega) only [get_same,get_other]; first|done|exact rfl)))) (fun n1 hn1 => ?_)
    repeat' first
     | refine r_nil ?_
     | refine th_n ?_
     | refine th_r ?_
     | refine w_seq ?_
     | refine w_reg ?_
     | refine w_ret ?_
     | refine w_t (by simp (disch:=first|decide|(simp only[zF,zG];decide)) only [zA,zB,zC,zD,zE,zF,zG,zH,zI,zJ,zK,HV.cells,fl0,fl2,flS,flS1,flI1,flU1,flU2,flF]; first|done|exact rfl) ?_
     | refine r_move (by simp (disch:=first|decide|(simp only[zF,zG];decide)) only [zA,zB,zC,zD,zE,zF,zG,zH,zI,zJ,zK,HV.cells,fl0,fl2,flS,flS1,flI1,flU1,flU2,flF]; try exact rfl) ?_
     | refine r_st (cs' := _) (by simp (disch:=first|decide|(simp only[zF,zG];decide)) only [zA,zB,zC,zD,zE,zF,zG,zH,zI,zJ,zK,HV.cells,fl0,fl2,flS,flS1,flI1,flU1,flU2,flF]; try exact rfl) (by simp (disch:=first|decide|(simp only[zF,zG];decide)) only [zA,zB,zC,zD,zE,zF,zG,zH,zI,zJ,zK,HV.cells,fl0,fl2,flS,flS1,flI1,flU1,flU2,flF]; try exact rfl) (by first|assumption|(simp (disch:=omega) only [get_same,get_other]; first|done|exact rfl)) (by exact True.intro) (by rfl) (by rfl) (by first|assumption|exact ow2 _ _ _ _|exact ow3 _ _ _ _ _ _|rfl|(simp only [zI,zJ,HV.cells]; exact rfl)) (by omega) ?_
     | refine r_ne (by simp (disch:=first|decide|(simp only[zF,zG];decide)) only [zA,zB,zC,zD,zE,zF,zG,zH,zI,zJ,zK,HV.cells,fl0,fl2,flS,flS1,flI1,flU1,flU2,flF]; try exact rfl) (by simp (disch:=first|decide|(simp only[zF,zG];decide)) only [zA,zB,zC,zD,zE,zF,zG,zH,zI,zJ,zK,HV.cells,fl0,fl2,flS,flS1,flI1,flU1,flU2,flF]; try exact rfl) (fun hc => ?_) (fun hc => ?_) <;> (try (exfalso; omega))
     | refine r_build (by simp (disch:=first|decide|(simp only[zF,zG];decide)) only [evParts,List.map_cons,List.map_nil,List.nil_append,List.cons_append,List.append_nil,zA,zB,zC,zD,zE,zF,zG,zH,zI,zJ,zK,HV.cells,fl0,fl2,flS,flS1,flI1,flU1,flU2,flF]; try exact rfl) ?_
     | fail
    exact fin_m (by simp only [zL,zM]) (res_c (by simp (disch:=first|decide|(simp only[zF,zG];decide)) only [zA,zB,zC,zD,zE,zF,zG,zH,zI,zJ,zK,HV.cells,fl0,fl2,flS,flS1,flI1,flU1,flU2,flF]; try exact rfl) (by first|assumption|(simp (disch:=omega) only [get_same,get_other]; first|done|exact rfl)) rfl (res_t (by simp (disch:=first|decide|(simp only[zF,zG];decide)) only [zA,zB,zC,zD,zE,zF,zG,zH,zI,zJ,zK,HV.cells,fl0,fl2,flS,flS1,flI1,flU1,flU2,flF]; try exact rfl) res_nil)) (sc_flat rfl (by dsimp only; omega) rfl)
end Go.Hx

/- Layer 3: the functions of the law and of the reference. -/
namespace Go.Hx
set_option linter.unusedSimpArgs false
set_option linter.unusedVariables false
set_option maxRecDepth 20000
set_option maxHeartbeats 4000000
attribute [local irreducible] W R C thenH inBlockH
def RB (r : Int × Int) : Prop := r.1 ≤ r.2 ∧ -2000000 ≤ r.1 ∧ r.2 ≤ 2000000
theorem ROk.rb {r : Int × Int} (h : ROk r.1 r.2) : RB r := by unfold ROk at h; unfold RB; omega
/-- Has a reading on one scale a height in common with readings on another one? -/
def Mts (s : Int × Int) (q : Int) (o r : Int × Int) : Prop := hlo s (q, q) * (2 * dg o) ≤ hhi o r * (2 * dg s) ∧ hlo o r * (2 * dg s) ≤ hhi s (q, q) * (2 * dg o)
instance (s : Int × Int) (q : Int) (o r : Int × Int) : Decidable (Mts s q o r) := by unfold Mts; infer_instance
def scl (l : List (Int × Int)) (r : Int × Int) : Int := if l.length ≤ 8 then (if LOk l then (if ROk r.1 r.2 then 0 else 2) else 1) else 3
/- 21 -/
theorem loop21 {fl : Nat} {h0 : Tr HBlk} {n0 rb : Nat} {Q : HExit → HAct → HS → Prop} {p : Option (Nat × Nat)} {l : List (Int × Int)} {cp : Nat} {t3 : HV} (hlen : l.length < 1000000000) (hfl : fl ≤ n0) :
    ∀ (m i : Nat) (a : HAct) (h : Tr HBlk) (nx : Nat), m + i = l.length → Ext h0 n0 h nx → Row renc 2 h nx p l → a.nt = 24 → a.defers = [] → a.tmp 0 = .slice p l.length cp → a.tmp 3 = t3 → a.tmp 5 = i64 i →
      (∀ a' h' n', Ext h0 n0 h' n' → a'.nt = 24 → a'.defers = [] → a'.tmp 3 = t3 → (∀ r ∈ l.drop i, SOk r.1 r.2) → Q .normal a' ⟨h', n'⟩) →
      (∀ a' h' n', Ext h0 n0 h' n' → a'.nt = 24 → a'.defers = [] → a'.tmp 4 = i64 1 → ¬ (∀ r ∈ l.drop i, SOk r.1 r.2) → Q .ret a' ⟨h', n'⟩) → W LW fl none (.loop L21w0) (inBlockH 0 Q) a ⟨h, nx⟩
  | 0, i, a, h, nx, hm, he, hrow, hnt, hds, h0', h3, h5, hq, hr => by
    have hle := he.le
    refine w_it (show L21w0 = _ by unfold L21w0; exact rfl) ?_
    repeat' first
     | refine r_nil ?_
     | refine th_n ?_
     | refine th_e ?_
     | refine ib_e ?_
     | refine w_exit ?_
     | refine w_seq ?_
     | refine w_reg ?_
     | refine w_f (by simp (disch:=first|decide|(simp only[zF,zG,hnt, h0', h3, h5];decide)) only [zA,zB,zC,zD,zE,zF,zG,zH,zI,zJ,zK,HV.cells,fl0,fl2,flS,flS1,flI1,flU1,flU2,flF,hnt, h0', h3, h5]; first|done|exact rfl) ?_
     | refine r_move (by simp (disch:=first|decide|(simp only[zF,zG,hnt, h0', h3, h5];decide)) only [zA,zB,zC,zD,zE,zF,zG,zH,zI,zJ,zK,HV.cells,fl0,fl2,flS,flS1,flI1,flU1,flU2,flF,hnt, h0', h3, h5]; try exact rfl) ?_
     | refine r_lss (by simp (disch:=first|decide|(simp only[zF,zG,hnt, h0', h3, h5];decide)) only [zA,zB,zC,zD,zE,zF,zG,zH,zI,zJ,zK,HV.cells,fl0,fl2,flS,flS1,flI1,flU1,flU2,flF,hnt, h0', h3, h5]; try exact rfl) (by simp (disch:=first|decide|(simp only[zF,zG,hnt, h0', h3, h5];decide)) only [zA,zB,zC,zD,zE,zF,zG,zH,zI,zJ,zK,HV.cells,fl0,fl2,flS,flS1,flI1,flU1,flU2,flF,hnt, h0', h3, h5]; try exact rfl) (fun hc => ?_) (fun hc => ?_) <;> (try (exfalso; omega))
     | refine r_len (by simp (disch:=first|decide|(simp only[zF,zG,hnt, h0', h3, h5];decide)) only [zA,zB,zC,zD,zE,zF,zG,zH,zI,zJ,zK,HV.cells,fl0,fl2,flS,flS1,flI1,flU1,flU2,flF,hnt, h0', h3, h5]; try exact rfl) ?_
     | fail
    refine hq _ _ _ he ?_ ?_ ?_ (fun r hr => by rw [List.drop_of_length_le (by omega)] at hr; cases hr)
    all_goals first|(simp only [zL,zM,zF,zG,hnt, hds, h3];done)|(simp (disch:=first|decide|(simp only[zF,zG,hnt, hds, h3];decide)) only [zA,zB,zC,zD,zE,zF,zG,zH,zI,zJ,zK,HV.cells,fl0,fl2,flS,flS1,flI1,flU1,flU2,flF,hnt, hds, h3];first|done|exact rfl)|assumption
  | m + 1, i, a, h, nx, hm, he, hrow, hnt, hds, h0', h3, h5, hq, hr => by
    have hi : i < l.length := by omega
    have hrow0 := hrow
    obtain ⟨b, o, cs, kk, rfl, hb, hg, hcs⟩ := hrow (by intro e; rw [e] at hi; simp at hi)
    have hy : l[i]? = some l[i] := by simp [hi]
    have e0 := hcs i _ hy
    have hf' : ∀ fl h' n', C LW fl 20 [.agg (renc l[i])] ⟨h', n'⟩ (Sc (· = .bool (decide (SOk l[i].1 l[i].2))) ⟨h', n'⟩) := fun fl h' n' => c_IsScale
    have hd := he.d
    have hle := he.le
    have hdrop := List.drop_eq_getElem_cons hi
    refine w_it (show L21w0 = _ by unfold L21w0; exact rfl) ?_
    repeat' first
     | refine r_nil ?_
     | refine th_n ?_
     | refine th_r ?_
     | refine ib_n ?_
     | refine ib_r ?_
     | refine w_seq ?_
     | refine w_reg ?_
     | refine w_ret ?_
     | refine w_skip ?_
     | refine w_block ?_
     | refine w_t (by simp (disch:=first|decide|(simp only[zF,zG,hnt, h0', h3, h5];decide)) only [zA,zB,zC,zD,zE,zF,zG,zH,zI,zJ,zK,HV.cells,fl0,fl2,flS,flS1,flI1,flU1,flU2,flF,hnt, h0', h3, h5]; first|done|exact rfl) ?_
     | refine w_f (by simp (disch:=first|decide|(simp only[zF,zG,hnt, h0', h3, h5];decide)) only [zA,zB,zC,zD,zE,zF,zG,zH,zI,zJ,zK,HV.cells,fl0,fl2,flS,flS1,flI1,flU1,flU2,flF,hnt, h0', h3, h5]; first|done|exact rfl) ?_
     | refine r_move (by simp (disch:=first|decide|(simp only[zF,zG,hnt, h0', h3, h5];decide)) only [zA,zB,zC,zD,zE,zF,zG,zH,zI,zJ,zK,HV.cells,fl0,fl2,flS,flS1,flI1,flU1,flU2,flF,hnt, h0', h3, h5]; try exact rfl) ?_
     | refine r_ldn (by simp (disch:=first|decide|(simp only[zF,zG,hnt, h0', h3, h5];decide)) only [zA,zB,zC,zD,zE,zF,zG,zH,zI,zJ,zK,HV.cells,fl0,fl2,flS,flS1,flI1,flU1,flU2,flF,hnt, h0', h3, h5]; try exact rfl) (by first|assumption|(simp (disch:=omega) only [get_same,get_other,hnt, h0', h3, h5]; first|done|exact rfl)) (by first|assumption|exact ow2 _ _ _ _|exact ow3 _ _ _ _ _ _|rfl|(simp only [zI,zJ,HV.cells,hnt, h0', h3, h5]; exact rfl)) ?_
     | refine r_add (by simp (disch:=first|decide|(simp only[zF,zG,hnt, h0', h3, h5];decide)) only [zA,zB,zC,zD,zE,zF,zG,zH,zI,zJ,zK,HV.cells,fl0,fl2,flS,flS1,flI1,flU1,flU2,flF,hnt, h0', h3, h5]; try exact rfl) (by simp (disch:=first|decide|(simp only[zF,zG,hnt, h0', h3, h5];decide)) only [zA,zB,zC,zD,zE,zF,zG,zH,zI,zJ,zK,HV.cells,fl0,fl2,flS,flS1,flI1,flU1,flU2,flF,hnt, h0', h3, h5]; try exact rfl) (by omega) (by omega) ?_
     | refine r_lss (by simp (disch:=first|decide|(simp only[zF,zG,hnt, h0', h3, h5];decide)) only [zA,zB,zC,zD,zE,zF,zG,zH,zI,zJ,zK,HV.cells,fl0,fl2,flS,flS1,flI1,flU1,flU2,flF,hnt, h0', h3, h5]; try exact rfl) (by simp (disch:=first|decide|(simp only[zF,zG,hnt, h0', h3, h5];decide)) only [zA,zB,zC,zD,zE,zF,zG,zH,zI,zJ,zK,HV.cells,fl0,fl2,flS,flS1,flI1,flU1,flU2,flF,hnt, h0', h3, h5]; try exact rfl) (fun hc => ?_) (fun hc => ?_) <;> (try (exfalso; omega))
     | refine r_not1 (by simp (disch:=first|decide|(simp only[zF,zG,hnt, h0', h3, h5];decide)) only [zA,zB,zC,zD,zE,zF,zG,zH,zI,zJ,zK,HV.cells,fl0,fl2,flS,flS1,flI1,flU1,flU2,flF,hnt, h0', h3, h5]; try exact rfl) ?_
     | refine r_len (by simp (disch:=first|decide|(simp only[zF,zG,hnt, h0', h3, h5];decide)) only [zA,zB,zC,zD,zE,zF,zG,zH,zI,zJ,zK,HV.cells,fl0,fl2,flS,flS1,flI1,flU1,flU2,flF,hnt, h0', h3, h5]; try exact rfl) ?_
     | refine r_ixs (by simp (disch:=first|decide|(simp only[zF,zG,hnt, h0', h3, h5];decide)) only [zA,zB,zC,zD,zE,zF,zG,zH,zI,zJ,zK,HV.cells,fl0,fl2,flS,flS1,flI1,flU1,flU2,flF,hnt, h0', h3, h5]; try exact rfl) (by simp (disch:=first|decide|(simp only[zF,zG,hnt, h0', h3, h5];decide)) only [zA,zB,zC,zD,zE,zF,zG,zH,zI,zJ,zK,HV.cells,fl0,fl2,flS,flS1,flI1,flU1,flU2,flF,hnt, h0', h3, h5]; try exact rfl) (by omega) ?_
     | refine r_calld (by simp (disch:=first|decide|(simp only[zF,zG,hnt, h0', h3, h5];decide)) only [zA,zB,zC,zD,zE,zF,zG,zH,zI,zJ,zK,HV.cells,fl0,fl2,flS,flS1,flI1,flU1,flU2,flF,hnt, h0', h3, h5]; try exact rfl) (by simp (disch:=first|decide|(simp only[zF,zG,hnt, h0', h3, h5];decide)) only [List.map_cons,List.map_nil,List.nil_append,List.cons_append,List.append_nil,zA,zB,zC,zD,zE,zF,zG,zH,zI,zJ,zK,HV.cells,fl0,fl2,flS,flS1,flI1,flU1,flU2,flF,hnt, h0', h3, h5]; first|done|exact rfl) (hf' _ _ _) (fun n' hn' hc => ?_) (fun n' hn' hc => ?_) <;> (try (exfalso; omega))
     | fail
    · refine loop21 (rb := rb) (cp := cp) hlen hfl m (i + 1) _ _ _ (by omega) (by repeat' first|assumption|refine Ext.put ?_ (by omega) (by omega)|exact Ext.up (by assumption) (by omega)|exact Ext.nx (by assumption) (by omega)) (Row.ext hrow0 (h' := _) (n' := _) (by repeat' first|assumption|refine Ext.put ?_ (by omega) (by omega)|exact Ext.up (by assumption) (by omega)|exact Ext.nx (by assumption) (by omega))) ?_ ?_ ?_ ?_ ?_ (fun a' h' n2 g1 g2 g3 g4 g5 => hq a' h' n2 g1 g2 g3 g4 ?_) (fun a' h' n2 g1 g2 g3 g4 g5 => hr a' h' n2 g1 g2 g3 g4 ?_)
      all_goals try first|(simp only [zL,zM,zF,zG,hnt, hds, h0', h3, h5];done)|(simp (disch:=first|decide|(simp only[zF,zG,hnt, hds, h0', h3, h5];decide)) only [zA,zB,zC,zD,zE,zF,zG,zH,zI,zJ,zK,HV.cells,fl0,fl2,flS,flS1,flI1,flU1,flU2,flF,hnt, hds, h0', h3, h5];first|done|exact rfl)|assumption
      · rw [hdrop]; intro r hr; rcases List.mem_cons.1 hr with e | e
        · rw [e]; exact hc
        · exact g5 r e
      · rw [hdrop]; exact fun e => g5 fun r hr => e r (List.mem_cons_of_mem _ hr)
    · refine hr _ _ _ (by repeat' first|assumption|refine Ext.put ?_ (by omega) (by omega)|exact Ext.up (by assumption) (by omega)|exact Ext.nx (by assumption) (by omega)) ?_ ?_ ?_ (fun e => hc (e _ (by rw [hdrop]; exact List.mem_cons_self ..)))
      all_goals first|(simp only [zL,zM,zF,zG,hnt, hds];done)|(simp (disch:=first|decide|(simp only[zF,zG,hnt, hds];decide)) only [zA,zB,zC,zD,zE,zF,zG,zH,zI,zJ,zK,HV.cells,fl0,fl2,flS,flS1,flI1,flU1,flU2,flF,hnt, hds];first|done|exact rfl)|assumption
theorem c_scaled {fl : Nat} {h : Tr HBlk} {nx : Nat} (hd : D h nx) {p : Option (Nat × Nat)} {l : List (Int × Int)} {r : Int × Int} {n cp : Nat} (hn : n = l.length) (hlen : l.length < 1000000000) (hrow : Row renc 2 h nx p l) :
    C LW fl 21 [.slice p n cp, .agg (renc r)] ⟨h, nx⟩ (Sc (· = i64 (scl l r)) ⟨h, nx⟩) := by
  subst hn
  refine c_in lw21 rfl rfl rfl ?_
  dsimp only [L21]
  repeat' first
   | refine r_nil ?_
   | refine th_n ?_
   | refine th_r ?_
   | refine w_seq ?_
   | refine w_reg ?_
   | refine w_ret ?_
   | refine w_skip ?_
   | refine w_block ?_
   | refine w_t (by simp (disch:=first|decide|(simp only[zF,zG];decide)) only [zA,zB,zC,zD,zE,zF,zG,zH,zI,zJ,zK,HV.cells,fl0,fl2,flS,flS1,flI1,flU1,flU2,flF]; first|done|exact rfl) ?_
   | refine w_f (by simp (disch:=first|decide|(simp only[zF,zG];decide)) only [zA,zB,zC,zD,zE,zF,zG,zH,zI,zJ,zK,HV.cells,fl0,fl2,flS,flS1,flI1,flU1,flU2,flF]; first|done|exact rfl) ?_
   | refine r_move (by simp (disch:=first|decide|(simp only[zF,zG];decide)) only [zA,zB,zC,zD,zE,zF,zG,zH,zI,zJ,zK,HV.cells,fl0,fl2,flS,flS1,flI1,flU1,flU2,flF]; try exact rfl) ?_
   | refine r_box (by simp (disch:=first|decide|(simp only[zF,zG];decide)) only [zA,zB,zC,zD,zE,zF,zG,zH,zI,zJ,zK,HV.cells,fl0,fl2,flS,flS1,flI1,flU1,flU2,flF]; try exact rfl) ?_
   | refine r_gtr (by simp (disch:=first|decide|(simp only[zF,zG];decide)) only [zA,zB,zC,zD,zE,zF,zG,zH,zI,zJ,zK,HV.cells,fl0,fl2,flS,flS1,flI1,flU1,flU2,flF]; try exact rfl) (by simp (disch:=first|decide|(simp only[zF,zG];decide)) only [zA,zB,zC,zD,zE,zF,zG,zH,zI,zJ,zK,HV.cells,fl0,fl2,flS,flS1,flI1,flU1,flU2,flF]; try exact rfl) (fun hc => ?_) (fun hc => ?_) <;> (try (exfalso; omega))
   | refine r_len (by simp (disch:=first|decide|(simp only[zF,zG];decide)) only [zA,zB,zC,zD,zE,zF,zG,zH,zI,zJ,zK,HV.cells,fl0,fl2,flS,flS1,flI1,flU1,flU2,flF]; try exact rfl) ?_
   | fail
  case refine_1 =>
    refine fin_r (by simp only [zL,zM]) (by simp (disch:=first|decide|(simp only[zF,zG];decide)) only [zA,zB,zC,zD,zE,zF,zG,zH,zI,zJ,zK,HV.cells,fl0,fl2,flS,flS1,flI1,flU1,flU2,flF]; try exact rfl) (sc_flat rfl (by dsimp only; omega) ?_)
    unfold scl
    rw [if_neg (by omega)]
  have hx : Ext h nx (h.set nx (some (.cells (renc r) .exact))) (nx + 1) := (by repeat' first|assumption|refine Ext.put ?_ (by omega) (by omega)|exact Ext.up (by assumption) (by omega)|exact Ext.nx (by assumption) (by omega))
  refine loop21 (h0 := h.set nx (some (.cells (renc r) .exact))) (n0 := nx + 1) (rb := nx) (t3 := .ptr (some (nx, 0))) (cp := cp) hlen (by omega) l.length 0 _ _ _ (by omega) (Ext.refl (by (repeat' first|assumption|refine D.upd ?_ (by omega)|exact D.mono (by assumption) (by omega)) <;> fail)) (hrow.ext hx) ?_ ?_ ?_ ?_ ?_ (fun a' h' n2 g1 g2 g3 g4 g5 => ?_) (fun a' h' n2 g1 g2 g3 g4 g5 => ?_)
  all_goals try first|(simp only [zL,zM,zF,zG];done)|(simp (disch:=first|decide|(simp only[zF,zG];decide)) only [zA,zB,zC,zD,zE,zF,zG,zH,zI,zJ,zK,HV.cells,fl0,fl2,flS,flS1,flI1,flU1,flU2,flF];first|done|exact rfl)|assumption
  · have hle := g1.le
    have hgr : h'.get nx = some (.cells (renc r) .exact) := by rw [g1.same _ (by omega)]; exact get_same _ _ _
    have hA : LOk l := by rw [List.drop_zero] at g5; exact g5
    repeat' first
     | refine r_nil ?_
     | refine th_n ?_
     | refine th_r ?_
     | refine w_seq ?_
     | refine w_reg ?_
     | refine w_ret ?_
     | refine w_skip ?_
     | refine w_t (by simp (disch:=first|decide|(simp only[zF,zG,g2, g4];decide)) only [zA,zB,zC,zD,zE,zF,zG,zH,zI,zJ,zK,HV.cells,fl0,fl2,flS,flS1,flI1,flU1,flU2,flF,g2, g4]; first|done|exact rfl) ?_
     | refine w_f (by simp (disch:=first|decide|(simp only[zF,zG,g2, g4];decide)) only [zA,zB,zC,zD,zE,zF,zG,zH,zI,zJ,zK,HV.cells,fl0,fl2,flS,flS1,flI1,flU1,flU2,flF,g2, g4]; first|done|exact rfl) ?_
     | refine r_move (by simp (disch:=first|decide|(simp only[zF,zG,g2, g4];decide)) only [zA,zB,zC,zD,zE,zF,zG,zH,zI,zJ,zK,HV.cells,fl0,fl2,flS,flS1,flI1,flU1,flU2,flF,g2, g4]; try exact rfl) ?_
     | refine r_ldn (by simp (disch:=first|decide|(simp only[zF,zG,g2, g4];decide)) only [zA,zB,zC,zD,zE,zF,zG,zH,zI,zJ,zK,HV.cells,fl0,fl2,flS,flS1,flI1,flU1,flU2,flF,g2, g4]; try exact rfl) (by first|assumption|(simp (disch:=omega) only [get_same,get_other,g2, g4]; first|done|exact rfl)) (by first|assumption|exact ow2 _ _ _ _|exact ow3 _ _ _ _ _ _|rfl|(simp only [zI,zJ,HV.cells,g2, g4]; exact rfl)) ?_
     | refine r_not1 (by simp (disch:=first|decide|(simp only[zF,zG,g2, g4];decide)) only [zA,zB,zC,zD,zE,zF,zG,zH,zI,zJ,zK,HV.cells,fl0,fl2,flS,flS1,flI1,flU1,flU2,flF,g2, g4]; try exact rfl) ?_
     | refine r_calld (by simp (disch:=first|decide|(simp only[zF,zG,g2, g4];decide)) only [zA,zB,zC,zD,zE,zF,zG,zH,zI,zJ,zK,HV.cells,fl0,fl2,flS,flS1,flI1,flU1,flU2,flF,g2, g4]; try exact rfl) (by simp (disch:=first|decide|(simp only[zF,zG,g2, g4];decide)) only [List.map_cons,List.map_nil,List.nil_append,List.cons_append,List.append_nil,zA,zB,zC,zD,zE,zF,zG,zH,zI,zJ,zK,HV.cells,fl0,fl2,flS,flS1,flI1,flU1,flU2,flF,g2, g4]; first|done|exact rfl) (c_AreReadings) (fun n' hn' hc => ?_) (fun n' hn' hc => ?_) <;> (try (exfalso; omega))
     | fail
    · refine fin_r (by simp only [zL, g3]) (by simp (disch:=first|decide|(simp only[zF,zG,g2];decide)) only [zA,zB,zC,zD,zE,zF,zG,zH,zI,zJ,zK,HV.cells,fl0,fl2,flS,flS1,flI1,flU1,flU2,flF,g2]; try exact rfl) (sc_flat rfl (by dsimp only; omega) ?_)
      unfold scl
      rw [if_pos (by omega), if_pos hA, if_pos (by assumption)]
    · refine fin_r (by simp only [zL, g3]) (by simp (disch:=first|decide|(simp only[zF,zG,g2];decide)) only [zA,zB,zC,zD,zE,zF,zG,zH,zI,zJ,zK,HV.cells,fl0,fl2,flS,flS1,flI1,flU1,flU2,flF,g2]; try exact rfl) (sc_flat rfl (by dsimp only; omega) ?_)
      unfold scl
      rw [if_pos (by omega), if_pos hA, if_neg (by assumption)]
  · have hle := g1.le
    have hA : ¬ LOk l := by rw [List.drop_zero] at g5; exact g5
    repeat' first
     | refine th_r ?_
     | fail
    refine fin_r (by simp only [zL, g3]) (by simp (disch:=first|decide|(simp only[zF,zG,g2, g4];decide)) only [zA,zB,zC,zD,zE,zF,zG,zH,zI,zJ,zK,HV.cells,fl0,fl2,flS,flS1,flI1,flU1,flU2,flF,g2, g4]; try exact rfl) (sc_flat rfl (by dsimp only; omega) ?_)
    unfold scl
    rw [if_pos (by omega), if_neg hA]
def Rdy (l : List (Int × Int)) (r : Int × Int) : Prop := scl l r = 0 ∧ -400 ≤ r.1 ∧ r.2 ≤ 400
instance (l : List (Int × Int)) (r : Int × Int) : Decidable (Rdy l r) := by unfold Rdy; infer_instance
/- 48 -/
theorem c_ready {fl : Nat} {h : Tr HBlk} {nx : Nat} (hd : D h nx) {p : Option (Nat × Nat)} {l : List (Int × Int)} {r : Int × Int} {n cp : Nat} (hn : n = l.length) (hlen : l.length < 1000000000) (hrow : Row renc 2 h nx p l) :
    C LW fl 48 [.slice p n cp, .agg (renc r)] ⟨h, nx⟩ (Sc (· = .bool (decide (Rdy l r))) ⟨h, nx⟩) := by
  subst hn
  have cS : ∀ fl h' n', Ext h nx h' n' → C LW fl 21 [.slice p l.length cp, .agg (renc r)] ⟨h', n'⟩ (Sc (· = i64 (scl l r)) ⟨h', n'⟩) := fun fl h' n' e => c_scaled e.d rfl hlen (hrow.ext e)
  refine c_in lw48 rfl rfl rfl ?_
  dsimp only [L48]
  repeat' first
   | refine r_nil ?_
   | refine th_n ?_
   | refine w_seq ?_
   | refine w_reg ?_
   | refine w_ret ?_
   | refine r_take (by simp (disch:=first|decide|(simp only[zF,zG];decide)) only [zA,zB,zC,zD,zE,zF,zG,zH,zI,zJ,zK,HV.cells,fl0,fl2,flS,flS1,flI1,flU1,flU2,flF]; first|done|exact rfl) ?_
   | refine r_drop (by simp (disch:=first|decide|(simp only[zF,zG,Bool.not_true,Bool.not_false];decide)) only [zA,zB,zC,zD,zE,zF,zG,zH,zI,zJ,zK,HV.cells,fl0,fl2,flS,flS1,flI1,flU1,flU2,flF,Bool.not_true,Bool.not_false]; first|done|exact rfl) ?_
   | refine r_move (by simp (disch:=first|decide|(simp only[zF,zG];decide)) only [zA,zB,zC,zD,zE,zF,zG,zH,zI,zJ,zK,HV.cells,fl0,fl2,flS,flS1,flI1,flU1,flU2,flF]; try exact rfl) ?_
   | refine r_fa (by simp (disch:=first|decide|(simp only[zF,zG];decide)) only [zA,zB,zC,zD,zE,zF,zG,zH,zI,zJ,zK,HV.cells,fl0,fl2,flS,flS1,flI1,flU1,flU2,flF]; try exact rfl) ?_
   | refine r_ld1 (by simp (disch:=first|decide|(simp only[zF,zG];decide)) only [zA,zB,zC,zD,zE,zF,zG,zH,zI,zJ,zK,HV.cells,fl0,fl2,flS,flS1,flI1,flU1,flU2,flF]; try exact rfl) (by first|assumption|(simp (disch:=omega) only [get_same,get_other]; first|done|exact rfl)) (by first|assumption|exact ow2 _ _ _ _|exact ow3 _ _ _ _ _ _|rfl|(simp only [zI,zJ,HV.cells]; exact rfl)) ?_
   | refine r_ldn (by simp (disch:=first|decide|(simp only[zF,zG];decide)) only [zA,zB,zC,zD,zE,zF,zG,zH,zI,zJ,zK,HV.cells,fl0,fl2,flS,flS1,flI1,flU1,flU2,flF]; try exact rfl) (by first|assumption|(simp (disch:=omega) only [get_same,get_other]; first|done|exact rfl)) (by first|assumption|exact ow2 _ _ _ _|exact ow3 _ _ _ _ _ _|rfl|(simp only [zI,zJ,HV.cells]; exact rfl)) ?_
   | refine r_box (by simp (disch:=first|decide|(simp only[zF,zG];decide)) only [zA,zB,zC,zD,zE,zF,zG,zH,zI,zJ,zK,HV.cells,fl0,fl2,flS,flS1,flI1,flU1,flU2,flF]; try exact rfl) ?_
   | refine r_leq (by simp (disch:=first|decide|(simp only[zF,zG];decide)) only [zA,zB,zC,zD,zE,zF,zG,zH,zI,zJ,zK,HV.cells,fl0,fl2,flS,flS1,flI1,flU1,flU2,flF]; try exact rfl) (by simp (disch:=first|decide|(simp only[zF,zG];decide)) only [zA,zB,zC,zD,zE,zF,zG,zH,zI,zJ,zK,HV.cells,fl0,fl2,flS,flS1,flI1,flU1,flU2,flF]; try exact rfl) (fun hc => ?_) (fun hc => ?_) <;> (try (exfalso; omega))
   | refine r_geq (by simp (disch:=first|decide|(simp only[zF,zG];decide)) only [zA,zB,zC,zD,zE,zF,zG,zH,zI,zJ,zK,HV.cells,fl0,fl2,flS,flS1,flI1,flU1,flU2,flF]; try exact rfl) (by simp (disch:=first|decide|(simp only[zF,zG];decide)) only [zA,zB,zC,zD,zE,zF,zG,zH,zI,zJ,zK,HV.cells,fl0,fl2,flS,flS1,flI1,flU1,flU2,flF]; try exact rfl) (fun hc => ?_) (fun hc => ?_) <;> (try (exfalso; omega))
   | refine r_eq (by simp (disch:=first|decide|(simp only[zF,zG];decide)) only [zA,zB,zC,zD,zE,zF,zG,zH,zI,zJ,zK,HV.cells,fl0,fl2,flS,flS1,flI1,flU1,flU2,flF]; try exact rfl) (by simp (disch:=first|decide|(simp only[zF,zG];decide)) only [zA,zB,zC,zD,zE,zF,zG,zH,zI,zJ,zK,HV.cells,fl0,fl2,flS,flS1,flI1,flU1,flU2,flF]; try exact rfl) (fun hc => ?_) (fun hc => ?_) <;> (try (exfalso; omega))
   | refine r_pt (by simp (disch:=first|decide|(simp only[zF,zG];decide)) only [zA,zB,zC,zD,zE,zF,zG,zH,zI,zJ,zK,HV.cells,fl0,fl2,flS,flS1,flI1,flU1,flU2,flF]; first|done|exact rfl) (by simp (disch:=first|decide|(simp only[zF,zG];decide)) only [zA,zB,zC,zD,zE,zF,zG,zH,zI,zJ,zK,HV.cells,fl0,fl2,flS,flS1,flI1,flU1,flU2,flF]; try exact rfl) ?_
   | refine r_pf (by simp (disch:=first|decide|(simp only[zF,zG];decide)) only [zA,zB,zC,zD,zE,zF,zG,zH,zI,zJ,zK,HV.cells,fl0,fl2,flS,flS1,flI1,flU1,flU2,flF]; first|done|exact rfl) (by simp (disch:=first|decide|(simp only[zF,zG];decide)) only [zA,zB,zC,zD,zE,zF,zG,zH,zI,zJ,zK,HV.cells,fl0,fl2,flS,flS1,flI1,flU1,flU2,flF]; try exact rfl) ?_
   | refine r_calls (by simp (disch:=first|decide|(simp only[zF,zG];decide)) only [zA,zB,zC,zD,zE,zF,zG,zH,zI,zJ,zK,HV.cells,fl0,fl2,flS,flS1,flI1,flU1,flU2,flF]; try exact rfl) (by simp (disch:=first|decide|(simp only[zF,zG];decide)) only [List.map_cons,List.map_nil,List.nil_append,List.cons_append,List.append_nil,zA,zB,zC,zD,zE,zF,zG,zH,zI,zJ,zK,HV.cells,fl0,fl2,flS,flS1,flI1,flU1,flU2,flF]; first|done|exact rfl) (cS _ _ _ (by repeat' first|assumption|refine Ext.put ?_ (by omega) (by omega)|exact Ext.up (by assumption) (by omega)|exact Ext.nx (by assumption) (by omega))) (fun n' hn' => ?_)
   | fail
  all_goals (refine fin_r (by simp only [zL,zM]) (by simp (disch:=first|decide|(simp only[zF,zG];decide)) only [zA,zB,zC,zD,zE,zF,zG,zH,zI,zJ,zK,HV.cells,fl0,fl2,flS,flS1,flI1,flU1,flU2,flF]; try exact rfl) (sc_flat rfl (by dsimp only; omega) ?_); first|rfl|(rw [decide_eq_true (by unfold Rdy at *; (try dsimp only at *); omega)])|(rw [decide_eq_false (by unfold Rdy at *; (try dsimp only at *); omega)]))
end Go.Hx

/- Layer 3: the arithmetic of what can stand on another scale. -/
namespace Go.Hx
end Go.Hx

/- Layer 3: the laws of P3.1, P3.7, P3.8. -/
namespace Go.Hx
set_option linter.unusedSimpArgs false
set_option linter.unusedVariables false
set_option maxRecDepth 20000
set_option maxHeartbeats 4000000
attribute [local irreducible] W R C thenH inBlockH
theorem chk_scl {l : List (Int × Int)} {r : Int × Int} (h : l.length ≠ 0) : chkR l r = scl l r := by
  unfold chkR chkS scl
  by_cases h1 : l.length ≤ 8
  · rw [if_pos h1, if_pos h1]
    by_cases h2 : LOk l
    · rw [if_pos h2, if_pos h2, if_pos rfl, if_neg h]
    · rw [if_neg h2, if_neg h2, if_neg (by decide)]
  · rw [if_neg h1, if_neg h1, if_neg (by decide)]
end Go.Hx

/- Layer 3: there and back; turned scales; shifted scales; through scales: the arithmetic. -/
namespace Go.Hx
end Go.Hx

/- Layer 3: the laws of P3.9, P3.13. -/
namespace Go.Hx
set_option linter.unusedSimpArgs false
set_option linter.unusedVariables false
set_option maxRecDepth 20000
set_option maxHeartbeats 4000000
attribute [local irreducible] W R C thenH inBlockH
/-- An operation that is asked for by what was not reckoned is left out. -/
theorem r_dropu {lp : Nat → Option LFunc} {fl : Nat} {N : HAct → HS → Prop} {a : HAct} {σ : HS} {op : LOp} {dst : Option Nat} {t : Nat} {w : Bool} {anc : List Nat} {os : List LOper} (hw : a.tmp t = .undef) (hn : R lp fl os N (a.put dst .undef) σ) : R lp fl (⟨dst, op, some (t, w), anc⟩ :: os) N a σ := by
  refine r_not ?_ hn
  simp [wantedH, hw, HV.undef]
end Go.Hx

/- Walks of the plain machine: regions that draw, in which operations lay blocks and others call. -/
namespace Go.Hx
variable {lp : Nat → Option LFunc} {fl : Nat} {rd : Option Nat} {Q : HExit → HAct → HS → Prop} {N : HAct → HS → Prop} {a : HAct} {h0 h : Tr HBlk} {nx s i : Nat} {os : List LOper} {done : List (Nat × List (Nat × HBlk))}
/-- Behind one operation. -/
def DX (lp : Nat → Option LFunc) (fl s : Nat) (h0 : Tr HBlk) (os : List LOper) (i : Nat) (done : List (Nat × List (Nat × HBlk))) (nx : Nat) (N : HAct → HS → Prop) : HAct → HS → Prop := fun a' σ' =>
  (σ'.nx = nx ∧ DG lp fl s h0 os (i + 1) done N a' nx) ∨ (∃ x, σ'.nx = nx + 1 ∧ σ'.h.get nx = some x ∧ DG lp fl s h0 os (i + 1) ((i, [(nx, x)]) :: done) N a' (nx + 1)) ∨ (nx ≤ σ'.nx ∧ (∀ b, nx ≤ b → σ'.h.get b = none) ∧ DG lp fl s h0 os (i + 1) done N a' σ'.nx) ∨ (nx ≤ σ'.nx ∧ DG lp fl s h0 os (i + 1) ((i, newFrom σ'.h nx (σ'.nx - nx)) :: done) N a' σ'.nx)
/-- What is done counts by what it lays. -/
theorem draw_eq {ex : Ex} : ∀ (os : List LOper) (i : Nat) (d1 d2 : List (Nat × List (Nat × HBlk))) (a : HAct) (nx : Nat), (∀ anc h, merge h anc d1 = merge h anc d2) → drawOps lp ex fl s h0 os i d1 a nx = drawOps lp ex fl s h0 os i d2 a nx
  | [], i, d1, d2, a, nx, h => by unfold drawOps; rw [h]
  | o :: os, i, d1, d2, a, nx, h => by
    unfold drawOps
    rw [h, h]
    cases Nat.blt i s with
    | false => rfl
    | true =>
      simp only [cond_true]
      cases stepOp lp ex (Nat.max fl nx) o a ⟨merge h0 (some o.anc) d2, nx⟩ with
      | none => rfl
      | some r =>
        obtain ⟨a', σ'⟩ := r
        dsimp only
        cases Nat.ble nx σ'.nx with
        | false => rfl
        | true =>
          simp only [Bool.not_true, cond_false]
          cases Nat.beq nx σ'.nx with
          | true => exact draw_eq os _ _ _ _ _ h
          | false =>
            simp only [cond_false]
            exact draw_eq os _ _ _ _ _ fun anc g => by unfold merge; exact h anc _
theorem x_step {o : LOper} {hm : Tr HBlk} (hi : Nat.blt i s = true) (hmg : merge h0 (some o.anc) done = hm) (hr : R lp (max fl nx) [o] (DX lp fl s h0 os i done nx N) a ⟨hm, nx⟩) : DG lp fl s h0 (o :: os) i done N a nx := by
  obtain ⟨n, a1, σ1, h1, h2⟩ := hr
  rcases h2 with h2 | h2 | ⟨e1, e2, h2⟩ | ⟨e1, h2⟩
  · exact g_step hi hmg ⟨n, a1, σ1, h1, by unfold DN; exact .inl h2⟩
  · exact g_step hi hmg ⟨n, a1, σ1, h1, by unfold DN; exact .inr h2⟩
  · have h1' : stepOp lp (exec lp n) (max fl nx) o a ⟨hm, nx⟩ = some (a1, σ1) := by
      unfold runOps at h1
      split at h1
      · rename_i e; rw [e]; exact h1
      · cases h1
    obtain ⟨n2, a2, σ2, h3, h4⟩ := dg_out h2
    have key : drawOps lp (exec lp (max n n2)) fl s h0 (o :: os) i done a nx = some (a2, σ2) := by
      unfold drawOps
      rw [hi, cond_true, hmg]
      show (match stepOp lp (exec lp (max n n2)) (max fl nx) o a ⟨hm, nx⟩ with | some (a, σ) => _ | none => none) = _
      rw [stepOp_mon (exec_mon (Nat.le_max_left n n2)) h1']
      have b1 : Nat.ble nx σ1.nx = true := ble_t' e1
      simp only [b1, Bool.not_true, cond_false]
      rw [newFrom_none _ _ e2]
      refine (draw_eq os _ _ done _ _ fun anc g => ?_).trans (drawOps_mon (exec_mon (Nat.le_max_right n n2)) h3)
      cases Nat.beq nx σ1.nx with
      | true => rfl
      | false =>
        simp only [cond_false]
        have e : ∀ c : Bool, (bif c then addAll g [] else g) = g := fun c => by cases c <;> rfl
        show merge (bif _ then addAll g [] else g) anc done = _
        rw [e]
    unfold DG
    exact ⟨_, a2, σ2, key, h4⟩
  · have h1' : stepOp lp (exec lp n) (max fl nx) o a ⟨hm, nx⟩ = some (a1, σ1) := by
      unfold runOps at h1
      split at h1
      · rename_i e; rw [e]; exact h1
      · cases h1
    obtain ⟨n2, a2, σ2, h3, h4⟩ := dg_out h2
    have key : drawOps lp (exec lp (max n n2)) fl s h0 (o :: os) i done a nx = some (a2, σ2) := by
      unfold drawOps
      rw [hi, cond_true, hmg]
      show (match stepOp lp (exec lp (max n n2)) (max fl nx) o a ⟨hm, nx⟩ with | some (a, σ) => _ | none => none) = _
      rw [stepOp_mon (exec_mon (Nat.le_max_left n n2)) h1']
      have b1 : Nat.ble nx σ1.nx = true := ble_t' e1
      simp only [b1, Bool.not_true, cond_false]
      refine (draw_eq os _ _ ((i, newFrom σ1.h nx (σ1.nx - nx)) :: done) _ _ fun anc g => ?_).trans (drawOps_mon (exec_mon (Nat.le_max_right n n2)) h3)
      cases hb : Nat.beq nx σ1.nx with
      | false => rfl
      | true =>
        have hz : σ1.nx - nx = 0 := by have := Nat.eq_of_beq_eq_true hb; omega
        rw [hz]
        simp only [cond_true]
        have e : ∀ c : Bool, (bif c then addAll g [] else g) = g := fun c => by cases c <;> rfl
        show merge g anc done = merge (bif _ then addAll g [] else g) anc done
        rw [e]
    unfold DG
    exact ⟨_, a2, σ2, key, h4⟩
theorem add_new {h2 : Tr HBlk} : ∀ (k lo : Nat) (g : Tr HBlk) (b : Nat), (addAll g (newFrom h2 lo k)).get b = if lo ≤ b ∧ b < lo + k then (match h2.get b with | some x => some x | none => g.get b) else g.get b
  | 0, lo, g, b => by rw [if_neg (by omega)]; rfl
  | k + 1, lo, g, b => by
    unfold newFrom
    cases e : h2.get lo with
    | none =>
      dsimp only
      rw [add_new k (lo + 1) g b]
      by_cases h1 : lo + 1 ≤ b ∧ b < lo + 1 + k
      · rw [if_pos h1, if_pos (by omega)]
      · rw [if_neg h1]
        by_cases h2 : lo ≤ b ∧ b < lo + (k + 1)
        · have : b = lo := by omega
          subst this
          rw [if_pos h2, e]
        · rw [if_neg h2]
    | some x =>
      dsimp only
      rw [ad_cons, add_new k (lo + 1) _ b]
      by_cases h1 : lo + 1 ≤ b ∧ b < lo + 1 + k
      · rw [if_pos h1, if_pos (by omega), get_other _ _ (by omega)]
      · rw [if_neg h1]
        by_cases h2 : lo ≤ b ∧ b < lo + (k + 1)
        · have : b = lo := by omega
          subst this
          rw [if_pos h2, e, get_same]
        · rw [if_neg h2, get_other _ _ (by omega)]
theorem x_same {hm : Tr HBlk} (hr : DG lp fl s h0 os (i + 1) done N a nx) : DX lp fl s h0 os i done nx N a ⟨hm, nx⟩ := .inl ⟨rfl, hr⟩
theorem x_new {hm : Tr HBlk} {x : HBlk} (hr : DG lp fl s h0 os (i + 1) ((i, [(nx, x)]) :: done) N a (nx + 1)) : DX lp fl s h0 os i done nx N a ⟨hm.set nx (some x), nx + 1⟩ := .inr (.inl ⟨x, rfl, get_same _ _ _, hr⟩)
theorem x_call {hm : Tr HBlk} {n' : Nat} (hn : nx ≤ n') (hd : D hm nx) (hr : DG lp fl s h0 os (i + 1) done N a n') : DX lp fl s h0 os i done nx N a ⟨hm, n'⟩ := .inr (.inr (.inl ⟨hn, by unfold D at hd; exact hd, hr⟩))
/-- A call that hands back new blocks. -/
theorem x_ext {hm h2 : Tr HBlk} {n2 : Nat} (e : Ext hm nx h2 n2) (hr : ∀ L, (∀ g b, b < nx ∨ n2 ≤ b → (addAll g L).get b = g.get b) → (∀ g b x, nx ≤ b → h2.get b = some x → (addAll g L).get b = some x) → (∀ g n', n2 ≤ n' → D g n' → D (addAll g L) n') → DG lp fl s h0 os (i + 1) ((i, L) :: done) N a n2) : DX lp fl s h0 os i done nx N a ⟨h2, n2⟩ := by
  have hle := e.le
  have hd := e.d
  refine .inr (.inr (.inr ⟨hle, hr _ (fun g b hb => ?_) (fun g b x hb hx => ?_) (fun g n' hn hg => ?_)⟩))
  · show (addAll g (newFrom h2 nx (n2 - nx))).get b = _
    rw [add_new, if_neg (by omega)]
  · show (addAll g (newFrom h2 nx (n2 - nx))).get b = _
    have : b < n2 := by
      refine Nat.not_le.1 fun h => ?_
      unfold D at hd
      rw [hd b h] at hx
      cases hx
    rw [add_new, if_pos (by omega), hx]
  · show D (addAll g (newFrom h2 nx (n2 - nx))) n'
    unfold D at hg ⊢
    intro b hb
    rw [add_new, if_neg (by omega)]
    exact hg b hb
attribute [irreducible] DX
end Go.Hx

/- Layer 3: lists of scales for the program; through scales. -/
namespace Go.Hx
set_option linter.unusedSimpArgs false
set_option linter.unusedVariables false
set_option maxRecDepth 20000
set_option maxHeartbeats 4000000
attribute [local irreducible] W R C thenH inBlockH
--dropu
theorem renc_flat (r : Int × Int) : (renc r).all flat1 = true := rfl
theorem renc_one (r : Int × Int) : (renc r).all HV.one = true := rfl
end Go.Hx

/- More functions of the program: tables of steam. -/
namespace Go.Hx
set_option maxRecDepth 100000
noncomputable def L13 : LFunc := ⟨158, (.seq (.reg [⟨(.some 4), (.box (.t 0)), .none, []⟩, ⟨(.some 6), (.box (.t 2)), .none, []⟩, ⟨(.some 7), (.box (.t 3)), .none, []⟩, ⟨(.some 8), (.move (.c (.bool .false))), .none, []⟩]) (.seq (.seq (.reg [⟨(.some 20), (.load .true 2 (.t 4)), .none, []⟩, ⟨(.some 21), (.buildSlice 1 [(.int .i64 0), (.int .i64 0)] [(0, (2, (.t 20)))]), .none, []⟩, ⟨(.some 22), (.load .true 2 (.t 7)), .none, []⟩, ⟨(.some 23), (.call (.c (.func 48 [] [])) [(.t 21), (.t 22)]), .none, []⟩, ⟨(.some 24), (.un .not (.t 23)), .none, []⟩, ⟨(.some 25), (.move (.t 24)), .none, []⟩, ⟨(.some 26), (.move (.t 1)), (.some (25, .false)), []⟩, ⟨(.some 27), (.load .true 2 (.t 6)), (.some (25, .false)), []⟩, ⟨(.some 28), (.call (.c (.func 50 [] [])) [(.t 26), (.t 27)]), (.some (25, .false)), []⟩, ⟨(.some 29), (.un .not (.t 28)), (.some (25, .false)), []⟩, ⟨(.some 30), (.pick (.t 25) (.c (.bool .true)) (.t 29)), .none, []⟩]) (.cond (.t 30) (.seq (.reg [⟨(.some 31), (.call (.c (.func 22 [] [])) []), .none, []⟩, ⟨(.some 8), (.move (.t 31)), .none, []⟩]) .ret) .skip)) (.seq (.draw 12 [⟨(.some 33), (.move (.t 1)), .none, []⟩, ⟨(.some 34), (.call (.c (.func 31 [] [])) [(.t 33)]), .none, []⟩, ⟨(.some 35), (.fieldAddr 0 (.t 6)), .none, []⟩, ⟨(.some 36), (.load .false 1 (.t 35)), .none, []⟩, ⟨(.some 37), (.fieldAddr 0 (.t 6)), .none, []⟩, ⟨(.some 38), (.load .false 1 (.t 37)), .none, []⟩, ⟨(.some 39), (.call (.c (.func 44 [] [])) [(.t 36), (.t 38)]), .none, [1]⟩, ⟨(.some 40), (.call (.c (.func 30 [] [])) [(.t 34), (.t 39)]), .none, [6, 1]⟩, ⟨(.some 32), (.move (.t 40)), .none, [7, 6, 1]⟩, ⟨(.some 41), (.extract (.t 32) 0), .none, [7, 6, 1]⟩, ⟨(.some 42), (.extract (.t 32) 1), .none, [7, 6, 1]⟩, ⟨(.some 9), (.alloc [(.int .i64 0), (.int .i64 0)]), .none, []⟩, ⟨.none, (.store 2 (.t 9) (.t 41)), .none, [11, 7, 6, 1]⟩, ⟨(.some 10), (.move (.t 42)), .none, [11, 7, 6, 1]⟩]) (.seq (.draw 12 [⟨(.some 44), (.move (.t 1)), .none, []⟩, ⟨(.some 45), (.call (.c (.func 31 [] [])) [(.t 44)]), .none, []⟩, ⟨(.some 46), (.fieldAddr 1 (.t 6)), .none, []⟩, ⟨(.some 47), (.load .false 1 (.t 46)), .none, []⟩, ⟨(.some 48), (.fieldAddr 1 (.t 6)), .none, []⟩, ⟨(.some 49), (.load .false 1 (.t 48)), .none, []⟩, ⟨(.some 50), (.call (.c (.func 44 [] [])) [(.t 47), (.t 49)]), .none, [1]⟩, ⟨(.some 51), (.call (.c (.func 30 [] [])) [(.t 45), (.t 50)]), .none, [6, 1]⟩, ⟨(.some 43), (.move (.t 51)), .none, [7, 6, 1]⟩, ⟨(.some 52), (.extract (.t 43) 0), .none, [7, 6, 1]⟩, ⟨(.some 53), (.extract (.t 43) 1), .none, [7, 6, 1]⟩, ⟨(.some 11), (.alloc [(.int .i64 0), (.int .i64 0)]), .none, []⟩, ⟨.none, (.store 2 (.t 11) (.t 52)), .none, [11, 7, 6, 1]⟩, ⟨(.some 12), (.move (.t 53)), .none, [11, 7, 6, 1]⟩]) (.seq (.draw 9 [⟨(.some 55), (.move (.t 1)), .none, []⟩, ⟨(.some 56), (.call (.c (.func 31 [] [])) [(.t 55)]), .none, []⟩, ⟨(.some 57), (.load .true 2 (.t 6)), .none, []⟩, ⟨(.some 58), (.call (.c (.func 19 [] [])) [(.t 57)]), .none, [1]⟩, ⟨(.some 59), (.call (.c (.func 30 [] [])) [(.t 56), (.t 58)]), .none, [3, 1]⟩, ⟨(.some 54), (.move (.t 59)), .none, [4, 3, 1]⟩, ⟨(.some 60), (.extract (.t 54) 0), .none, [4, 3, 1]⟩, ⟨(.some 61), (.extract (.t 54) 1), .none, [4, 3, 1]⟩, ⟨(.some 13), (.alloc [(.int .i64 0), (.int .i64 0)]), .none, []⟩, ⟨.none, (.store 2 (.t 13) (.t 60)), .none, [8, 4, 3, 1]⟩, ⟨(.some 14), (.move (.t 61)), .none, [8, 4, 3, 1]⟩]) (.seq (.seq (.draw 59 [⟨(.some 62), (.move (.t 10)), .none, []⟩, ⟨(.some 63), (.eq (.cell (.i .i64)) .true (.t 62) (.c (.int .i64 0))), .none, []⟩, ⟨(.some 64), (.move (.t 63)), .none, []⟩, ⟨(.some 65), (.move (.t 12)), (.some (64, .false)), []⟩, ⟨(.some 66), (.eq (.cell (.i .i64)) .true (.t 65) (.c (.int .i64 0))), (.some (64, .false)), []⟩, ⟨(.some 67), (.pick (.t 64) (.c (.bool .true)) (.t 66)), .none, []⟩, ⟨(.some 68), (.move (.t 67)), .none, []⟩, ⟨(.some 69), (.move (.t 14)), (.some (68, .false)), []⟩, ⟨(.some 70), (.eq (.cell (.i .i64)) .true (.t 69) (.c (.int .i64 0))), (.some (68, .false)), []⟩, ⟨(.some 71), (.pick (.t 68) (.c (.bool .true)) (.t 70)), .none, []⟩, ⟨(.some 72), (.move (.t 71)), .none, []⟩, ⟨(.some 73), (.fieldAddr 0 (.t 9)), (.some (72, .false)), []⟩, ⟨(.some 74), (.load .false 1 (.t 73)), (.some (72, .false)), []⟩, ⟨(.some 75), (.fieldAddr 1 (.t 9)), (.some (72, .false)), []⟩, ⟨(.some 76), (.load .false 1 (.t 75)), (.some (72, .false)), []⟩, ⟨(.some 77), (.eq (.cell (.i .i64)) .true (.t 74) (.t 76)), (.some (72, .false)), []⟩, ⟨(.some 78), (.pick (.t 72) (.c (.bool .true)) (.t 77)), .none, []⟩, ⟨(.some 79), (.move (.t 78)), .none, []⟩, ⟨(.some 80), (.fieldAddr 0 (.t 11)), (.some (79, .false)), []⟩, ⟨(.some 81), (.load .false 1 (.t 80)), (.some (79, .false)), []⟩, ⟨(.some 82), (.fieldAddr 1 (.t 11)), (.some (79, .false)), []⟩, ⟨(.some 83), (.load .false 1 (.t 82)), (.some (79, .false)), []⟩, ⟨(.some 84), (.eq (.cell (.i .i64)) .true (.t 81) (.t 83)), (.some (79, .false)), []⟩, ⟨(.some 85), (.pick (.t 79) (.c (.bool .true)) (.t 84)), .none, []⟩, ⟨(.some 86), (.move (.t 85)), .none, []⟩, ⟨(.some 87), (.fieldAddr 0 (.t 9)), (.some (86, .false)), []⟩, ⟨(.some 88), (.load .false 1 (.t 87)), (.some (86, .false)), []⟩, ⟨(.some 89), (.fieldAddr 0 (.t 11)), (.some (86, .false)), []⟩, ⟨(.some 90), (.load .false 1 (.t 89)), (.some (86, .false)), []⟩, ⟨(.some 91), (.bin .gtr (.t 88) (.t 90)), (.some (86, .false)), []⟩, ⟨(.some 92), (.pick (.t 86) (.c (.bool .true)) (.t 91)), .none, []⟩, ⟨(.some 93), (.move (.t 92)), .none, []⟩, ⟨(.some 94), (.load .true 2 (.t 13)), (.some (93, .false)), []⟩, ⟨(.some 95), (.fieldAddr 0 (.t 9)), (.some (93, .false)), []⟩, ⟨(.some 96), (.load .false 1 (.t 95)), (.some (93, .false)), []⟩, ⟨(.some 97), (.fieldAddr 0 (.t 11)), (.some (93, .false)), []⟩, ⟨(.some 98), (.load .false 1 (.t 97)), (.some (93, .false)), []⟩, ⟨(.some 99), (.call (.c (.func 44 [] [])) [(.t 96), (.t 98)]), (.some (93, .false)), []⟩, ⟨(.some 100), (.eq (.row [(.i .i64), (.i .i64)]) .true (.t 94) (.t 99)), (.some (93, .false)), [37]⟩, ⟨(.some 101), (.pick (.t 93) (.c (.bool .true)) (.t 100)), .none, [37]⟩, ⟨(.some 102), (.move (.t 101)), .none, [37]⟩, ⟨(.some 103), (.fieldAddr 0 (.t 9)), (.some (102, .false)), [37]⟩, ⟨(.some 104), (.load .false 1 (.t 103)), (.some (102, .false)), [37]⟩, ⟨(.some 105), (.move (.t 1)), (.some (102, .false)), [37]⟩, ⟨(.some 106), (.indexAddrS 2 (.t 105) (.c (.int .i64 0))), (.some (102, .false)), [37]⟩, ⟨(.some 107), (.fieldAddr 1 (.t 106)), (.some (102, .false)), [37]⟩, ⟨(.some 108), (.load .false 1 (.t 107)), (.some (102, .false)), [37]⟩, ⟨(.some 109), (.bin .lss (.t 104) (.t 108)), (.some (102, .false)), [37]⟩, ⟨(.some 110), (.pick (.t 102) (.c (.bool .true)) (.t 109)), .none, [37]⟩, ⟨(.some 111), (.move (.t 110)), .none, [37]⟩, ⟨(.some 112), (.fieldAddr 1 (.t 11)), (.some (111, .false)), [37]⟩, ⟨(.some 113), (.load .false 1 (.t 112)), (.some (111, .false)), [37]⟩, ⟨(.some 114), (.move (.t 1)), (.some (111, .false)), [37]⟩, ⟨(.some 115), (.move (.t 1)), (.some (111, .false)), [37]⟩, ⟨(.some 116), (.len .slice (.t 115)), (.some (111, .false)), [37]⟩, ⟨(.some 117), (.bin .sub (.t 116) (.c (.int .i64 1))), (.some (111, .false)), [37]⟩, ⟨(.some 118), (.indexAddrS 2 (.t 114) (.t 117)), (.some (111, .false)), [37]⟩, ⟨(.some 119), (.fieldAddr 1 (.t 118)), (.some (111, .false)), [37]⟩, ⟨(.some 120), (.load .false 1 (.t 119)), (.some (111, .false)), [37]⟩, ⟨(.some 121), (.bin .gtr (.t 113) (.t 120)), (.some (111, .false)), [37]⟩, ⟨(.some 122), (.pick (.t 111) (.c (.bool .true)) (.t 121)), .none, [37]⟩]) (.cond (.t 122) (.seq (.reg [⟨(.some 8), (.move (.c (.bool .false))), .none, []⟩]) .ret) .skip)) (.seq (.reg [⟨(.some 123), (.build [(.int .i64 0), (.int .i64 0)] [(0, (1, (.c (.int .i64 700)))), (1, (1, (.c (.int .i64 940))))]), .none, []⟩, ⟨(.some 124), (.build [(.int .i64 0), (.int .i64 0)] [(0, (1, (.c (.int .i64 760)))), (1, (1, (.c (.int .i64 1000))))]), .none, []⟩, ⟨(.some 125), (.buildSlice 2 [(.int .i64 0), (.int .i64 0)] [(0, (2, (.t 123))), (2, (2, (.t 124)))]), .none, []⟩, ⟨(.some 15), (.move (.t 125)), .none, []⟩]) (.seq (.draw 9 [⟨(.some 127), (.load .true 2 (.t 4)), .none, []⟩, ⟨(.some 128), (.call (.c (.func 17 [] [])) [(.t 127)]), .none, []⟩, ⟨(.some 129), (.load .true 2 (.t 7)), .none, []⟩, ⟨(.some 130), (.call (.c (.func 19 [] [])) [(.t 129)]), .none, [1]⟩, ⟨(.some 131), (.call (.c (.func 18 [] [])) [(.t 128), (.t 130)]), .none, [3, 1]⟩, ⟨(.some 126), (.move (.t 131)), .none, [4, 3, 1]⟩, ⟨(.some 132), (.extract (.t 126) 0), .none, [4, 3, 1]⟩, ⟨(.some 133), (.extract (.t 126) 1), .none, [4, 3, 1]⟩, ⟨(.some 16), (.alloc [(.int .i64 0), (.int .i64 0)]), .none, []⟩, ⟨.none, (.store 2 (.t 16) (.t 132)), .none, [8, 4, 3, 1]⟩, ⟨(.some 17), (.move (.t 133)), .none, [8, 4, 3, 1]⟩]) (.seq (.draw 11 [⟨(.some 135), (.load .true 2 (.t 4)), .none, []⟩, ⟨(.some 136), (.call (.c (.func 17 [] [])) [(.t 135)]), .none, []⟩, ⟨(.some 137), (.move (.t 15)), .none, []⟩, ⟨(.some 138), (.call (.c (.func 44 [] [])) [(.c (.int .i64 760)), (.c (.int .i64 760))]), .none, [1]⟩, ⟨(.some 139), (.load .true 2 (.t 7)), .none, []⟩, ⟨(.some 140), (.call (.c (.func 19 [] [])) [(.t 139)]), .none, [3, 1]⟩, ⟨(.some 141), (.call (.c (.func 32 [] [])) [(.t 136), (.t 137), (.t 138), (.t 140)]), .none, [5, 3, 1]⟩, ⟨(.some 134), (.move (.t 141)), .none, [6, 5, 3, 1]⟩, ⟨(.some 142), (.extract (.t 134) 0), .none, [6, 5, 3, 1]⟩, ⟨(.some 143), (.extract (.t 134) 1), .none, [6, 5, 3, 1]⟩, ⟨(.some 18), (.alloc [(.int .i64 0), (.int .i64 0)]), .none, []⟩, ⟨.none, (.store 2 (.t 18) (.t 142)), .none, [10, 6, 5, 3, 1]⟩, ⟨(.some 19), (.move (.t 143)), .none, [10, 6, 5, 3, 1]⟩]) (.seq (.reg [⟨(.some 144), (.move (.t 17)), .none, []⟩, ⟨(.some 145), (.eq (.cell (.i .i64)) .false (.t 144) (.c (.int .i64 0))), .none, []⟩, ⟨(.some 146), (.move (.t 145)), .none, []⟩, ⟨(.some 147), (.move (.t 19)), (.some (146, .true)), []⟩, ⟨(.some 148), (.eq (.cell (.i .i64)) .false (.t 147) (.c (.int .i64 0))), (.some (146, .true)), []⟩, ⟨(.some 149), (.pick (.t 146) (.t 148) (.c (.bool .false))), .none, []⟩, ⟨(.some 150), (.move (.t 149)), .none, []⟩, ⟨(.some 151), (.load .true 2 (.t 16)), (.some (150, .true)), []⟩, ⟨(.some 152), (.load .true 2 (.t 18)), (.some (150, .true)), []⟩, ⟨(.some 153), (.eq (.row [(.i .i64), (.i .i64)]) .false (.t 151) (.t 152)), (.some (150, .true)), []⟩, ⟨(.some 154), (.pick (.t 150) (.t 153) (.c (.bool .false))), .none, []⟩, ⟨(.some 155), (.move (.t 154)), .none, []⟩, ⟨(.some 156), (.call (.c (.func 22 [] [])) []), (.some (155, .true)), []⟩, ⟨(.some 157), (.pick (.t 155) (.t 156) (.c (.bool .false))), .none, []⟩, ⟨(.some 8), (.move (.t 157)), .none, []⟩]) .ret)))))))))), [(.t 8)], .false, .none⟩
theorem lp13 : LP 13 = some L13 := by kernel_rfl
noncomputable def L30 : LFunc := ⟨28, (.seq (.reg [⟨(.some 3), (.box (.t 1)), .none, []⟩, ⟨(.some 4), (.alloc [(.int .i64 0), (.int .i64 0)]), .none, []⟩, ⟨(.some 5), (.move (.c (.int .i64 0))), .none, []⟩]) (.seq (.seq (.reg [⟨(.some 7), (.move (.t 0)), .none, []⟩, ⟨(.some 8), (.call (.c (.func 63 [] [])) [(.t 7)]), .none, []⟩, ⟨(.some 6), (.move (.t 8)), .none, []⟩]) (.seq (.reg [⟨(.some 9), (.move (.t 6)), .none, []⟩, ⟨(.some 10), (.eq (.cell (.i .i64)) .true (.t 9) (.c (.int .i64 0))), .none, []⟩]) (.cond (.t 10) (.seq (.reg [⟨(.some 11), (.build [(.int .i64 0), (.int .i64 0)] []), .none, []⟩, ⟨(.some 12), (.move (.t 6)), .none, []⟩, ⟨.none, (.store 2 (.t 4) (.t 11)), .none, []⟩, ⟨(.some 5), (.move (.t 12)), .none, []⟩]) .ret) .skip))) (.seq (.seq (.draw 3 [⟨(.some 13), (.load .true 2 (.t 3)), .none, []⟩, ⟨(.some 14), (.move (.t 0)), .none, []⟩, ⟨(.some 15), (.call (.c (.func 65 [] [])) [(.t 14)]), .none, []⟩, ⟨(.some 16), (.call (.c (.func 64 [] [])) [(.t 13), (.t 15)]), .none, [2]⟩, ⟨(.some 17), (.un .not (.t 16)), .none, [3, 2]⟩]) (.cond (.t 17) (.seq (.reg [⟨(.some 18), (.build [(.int .i64 0), (.int .i64 0)] []), .none, []⟩, ⟨.none, (.store 2 (.t 4) (.t 18)), .none, []⟩, ⟨(.some 5), (.move (.c (.int .i64 2))), .none, []⟩]) .ret) .skip)) (.seq (.draw 7 [⟨(.some 19), (.move (.t 0)), .none, []⟩, ⟨(.some 20), (.fieldAddr 0 (.t 3)), .none, []⟩, ⟨(.some 21), (.load .false 1 (.t 20)), .none, []⟩, ⟨(.some 22), (.call (.c (.func 66 [] [])) [(.t 19), (.t 21)]), .none, []⟩, ⟨(.some 23), (.move (.t 0)), .none, []⟩, ⟨(.some 24), (.fieldAddr 1 (.t 3)), .none, []⟩, ⟨(.some 25), (.load .false 1 (.t 24)), .none, []⟩, ⟨(.some 26), (.call (.c (.func 66 [] [])) [(.t 23), (.t 25)]), .none, [3]⟩, ⟨(.some 27), (.build [(.int .i64 0), (.int .i64 0)] [(0, (1, (.t 22))), (1, (1, (.t 26)))]), .none, [7, 3]⟩, ⟨.none, (.store 2 (.t 4) (.t 27)), .none, [7, 3]⟩, ⟨(.some 5), (.move (.c (.int .i64 0))), .none, [7, 3]⟩]) .ret)))), [(.cell 4 .true 2), (.t 5)], .false, .none⟩
theorem lp30 : LP 30 = some L30 := by kernel_rfl
noncomputable def L31w0 : LCode := (.seq (.seq (.reg [⟨(.some 5), (.move (.t 4)), .none, []⟩, ⟨(.some 6), (.move (.t 0)), .none, []⟩, ⟨(.some 7), (.len .slice (.t 6)), .none, []⟩, ⟨(.some 8), (.bin .lss (.t 5) (.t 7)), .none, []⟩]) (.cond (.t 8) .skip (.exit 0))) (.seq (.block 1 (.draw 11 [⟨(.some 11), (.move (.t 3)), .none, []⟩, ⟨(.some 12), (.move (.t 0)), .none, []⟩, ⟨(.some 13), (.move (.t 4)), .none, []⟩, ⟨(.some 14), (.indexAddrS 2 (.t 12) (.t 13)), .none, []⟩, ⟨(.some 15), (.fieldAddr 0 (.t 14)), .none, []⟩, ⟨(.some 16), (.load .false 1 (.t 15)), .none, []⟩, ⟨(.some 17), (.move (.t 0)), .none, []⟩, ⟨(.some 18), (.move (.t 4)), .none, []⟩, ⟨(.some 19), (.indexAddrS 2 (.t 17) (.t 18)), .none, []⟩, ⟨(.some 20), (.fieldAddr 1 (.t 19)), .none, []⟩, ⟨(.some 21), (.load .false 1 (.t 20)), .none, []⟩, ⟨(.some 22), (.build [(.int .i64 0), (.int .i64 0)] [(0, (1, (.t 16))), (1, (1, (.t 21)))]), .none, []⟩, ⟨(.some 23), (.buildSlice 1 [(.int .i64 0), (.int .i64 0)] [(0, (2, (.t 22)))]), .none, []⟩, ⟨(.some 24), (.append 2 16 (.t 11) (.t 23)), .none, [12]⟩, ⟨(.some 3), (.move (.t 24)), .none, [13, 12]⟩])) (.reg [⟨(.some 9), (.move (.t 4)), .none, []⟩, ⟨(.some 10), (.bin .add (.t 9) (.c (.int .i64 1))), .none, []⟩, ⟨(.some 4), (.move (.t 10)), .none, []⟩])))
noncomputable def L31 : LFunc := ⟨26, (.seq (.reg [⟨(.some 2), (.move (.c (.slice .none 0 0))), .none, []⟩]) (.seq (.reg [⟨(.some 3), (.move (.c (.slice .none 0 0))), .none, []⟩]) (.seq (.seq (.reg [⟨(.some 4), (.move (.c (.int .i64 0))), .none, []⟩]) (.block 0 (.loop L31w0))) (.seq (.reg [⟨(.some 25), (.move (.t 3)), .none, []⟩, ⟨(.some 2), (.move (.t 25)), .none, []⟩]) .ret)))), [(.t 2)], .false, .none⟩
theorem lp31 : LP 31 = some L31 := by kernel_rfl
noncomputable def L32 : LFunc := ⟨42, (.seq (.reg [⟨(.some 4), (.box (.t 0)), .none, []⟩, ⟨(.some 6), (.box (.t 2)), .none, []⟩, ⟨(.some 7), (.box (.t 3)), .none, []⟩, ⟨(.some 8), (.alloc [(.int .i64 0), (.int .i64 0)]), .none, []⟩, ⟨(.some 9), (.move (.c (.int .i64 0))), .none, []⟩]) (.seq (.seq (.reg [⟨(.some 14), (.move (.t 1)), .none, []⟩, ⟨(.some 15), (.call (.c (.func 63 [] [])) [(.t 14)]), .none, []⟩, ⟨(.some 10), (.move (.t 15)), .none, []⟩]) (.seq (.reg [⟨(.some 16), (.move (.t 10)), .none, []⟩, ⟨(.some 17), (.eq (.cell (.i .i64)) .true (.t 16) (.c (.int .i64 0))), .none, []⟩]) (.cond (.t 17) (.seq (.reg [⟨(.some 18), (.build [(.int .i64 0), (.int .i64 0)] []), .none, []⟩, ⟨(.some 19), (.move (.t 10)), .none, []⟩, ⟨.none, (.store 2 (.t 8) (.t 18)), .none, []⟩, ⟨(.some 9), (.move (.t 19)), .none, []⟩]) .ret) .skip))) (.seq (.seq (.reg [⟨(.some 20), (.load .true 2 (.t 7)), .none, []⟩, ⟨(.some 21), (.load .true 2 (.t 4)), .none, []⟩, ⟨(.some 22), (.buildSlice 1 [(.int .i64 0), (.int .i64 0)] [(0, (2, (.t 21)))]), .none, []⟩, ⟨(.some 23), (.call (.c (.func 53 [] [])) [(.t 20), (.t 22)]), .none, []⟩, ⟨(.some 11), (.move (.t 23)), .none, []⟩]) (.seq (.reg [⟨(.some 24), (.move (.t 11)), .none, []⟩, ⟨(.some 25), (.eq (.cell (.i .i64)) .true (.t 24) (.c (.int .i64 0))), .none, []⟩]) (.cond (.t 25) (.seq (.reg [⟨(.some 26), (.build [(.int .i64 0), (.int .i64 0)] []), .none, []⟩, ⟨(.some 27), (.move (.t 11)), .none, []⟩, ⟨.none, (.store 2 (.t 8) (.t 26)), .none, []⟩, ⟨(.some 9), (.move (.t 27)), .none, []⟩]) .ret) .skip))) (.seq (.reg [⟨(.some 29), (.move (.t 1)), .none, []⟩, ⟨(.some 30), (.load .true 2 (.t 6)), .none, []⟩, ⟨(.some 31), (.call (.c (.func 30 [] [])) [(.t 29), (.t 30)]), .none, []⟩, ⟨(.some 28), (.move (.t 31)), .none, []⟩, ⟨(.some 32), (.extract (.t 28) 0), .none, []⟩, ⟨(.some 33), (.extract (.t 28) 1), .none, []⟩, ⟨(.some 12), (.alloc [(.int .i64 0), (.int .i64 0)]), .none, []⟩, ⟨.none, (.store 2 (.t 12) (.t 32)), .none, []⟩, ⟨(.some 13), (.move (.t 33)), .none, []⟩]) (.seq (.seq (.reg [⟨(.some 34), (.move (.t 13)), .none, []⟩, ⟨(.some 35), (.eq (.cell (.i .i64)) .true (.t 34) (.c (.int .i64 0))), .none, []⟩]) (.cond (.t 35) (.seq (.reg [⟨(.some 36), (.build [(.int .i64 0), (.int .i64 0)] []), .none, []⟩, ⟨(.some 37), (.move (.t 13)), .none, []⟩, ⟨.none, (.store 2 (.t 8) (.t 36)), .none, []⟩, ⟨(.some 9), (.move (.t 37)), .none, []⟩]) .ret) .skip)) (.seq (.reg [⟨(.some 38), (.load .true 2 (.t 4)), .none, []⟩, ⟨(.some 39), (.load .true 2 (.t 12)), .none, []⟩, ⟨(.some 40), (.load .true 2 (.t 7)), .none, []⟩, ⟨(.some 41), (.call (.c (.func 54 [] [])) [(.t 38), (.t 39), (.t 40)]), .none, []⟩, ⟨.none, (.store 2 (.t 8) (.t 41)), .none, []⟩, ⟨(.some 9), (.move (.c (.int .i64 0))), .none, []⟩]) .ret)))))), [(.cell 8 .true 2), (.t 9)], .false, .none⟩
theorem lp32 : LP 32 = some L32 := by kernel_rfl
noncomputable def L33w0 : LCode := (.seq (.seq (.reg [⟨(.some 4), (.move (.t 3)), .none, []⟩, ⟨(.some 5), (.move (.t 0)), .none, []⟩, ⟨(.some 6), (.len .slice (.t 5)), .none, []⟩, ⟨(.some 7), (.bin .lss (.t 4) (.t 6)), .none, []⟩]) (.cond (.t 7) .skip (.exit 0))) (.seq (.block 1 (.seq (.draw 44 [⟨(.some 10), (.move (.t 0)), .none, []⟩, ⟨(.some 11), (.move (.t 3)), .none, []⟩, ⟨(.some 12), (.indexAddrS 2 (.t 10) (.t 11)), .none, []⟩, ⟨(.some 13), (.fieldAddr 0 (.t 12)), .none, []⟩, ⟨(.some 14), (.load .false 1 (.t 13)), .none, []⟩, ⟨(.some 15), (.call (.c (.func 55 [] [])) [(.t 14), (.c (.int .i64 1)), (.c (.int .i64 2000))]), .none, []⟩, ⟨(.some 16), (.un .not (.t 15)), .none, [5]⟩, ⟨(.some 17), (.move (.t 16)), .none, [5]⟩, ⟨(.some 18), (.move (.t 0)), (.some (17, .false)), [5]⟩, ⟨(.some 19), (.move (.t 3)), (.some (17, .false)), [5]⟩, ⟨(.some 20), (.indexAddrS 2 (.t 18) (.t 19)), (.some (17, .false)), [5]⟩, ⟨(.some 21), (.fieldAddr 1 (.t 20)), (.some (17, .false)), [5]⟩, ⟨(.some 22), (.load .false 1 (.t 21)), (.some (17, .false)), [5]⟩, ⟨(.some 23), (.call (.c (.func 55 [] [])) [(.t 22), (.c (.int .i64 1)), (.c (.int .i64 2000))]), (.some (17, .false)), [5]⟩, ⟨(.some 24), (.un .not (.t 23)), (.some (17, .false)), [13, 5]⟩, ⟨(.some 25), (.pick (.t 17) (.c (.bool .true)) (.t 24)), .none, [13, 5]⟩, ⟨(.some 26), (.move (.t 25)), .none, [13, 5]⟩, ⟨(.some 27), (.move (.t 3)), (.some (26, .false)), [13, 5]⟩, ⟨(.some 28), (.bin .gtr (.t 27) (.c (.int .i64 0))), (.some (26, .false)), [13, 5]⟩, ⟨(.some 29), (.move (.t 28)), (.some (26, .false)), [13, 5]⟩, ⟨(.some 30), (.move (.t 0)), (.some (29, .true)), [13, 5]⟩, ⟨(.some 31), (.move (.t 3)), (.some (29, .true)), [13, 5]⟩, ⟨(.some 32), (.indexAddrS 2 (.t 30) (.t 31)), (.some (29, .true)), [13, 5]⟩, ⟨(.some 33), (.fieldAddr 0 (.t 32)), (.some (29, .true)), [13, 5]⟩, ⟨(.some 34), (.load .false 1 (.t 33)), (.some (29, .true)), [13, 5]⟩, ⟨(.some 35), (.move (.t 0)), (.some (29, .true)), [13, 5]⟩, ⟨(.some 36), (.move (.t 3)), (.some (29, .true)), [13, 5]⟩, ⟨(.some 37), (.bin .sub (.t 36) (.c (.int .i64 1))), (.some (29, .true)), [13, 5]⟩, ⟨(.some 38), (.indexAddrS 2 (.t 35) (.t 37)), (.some (29, .true)), [13, 5]⟩, ⟨(.some 39), (.fieldAddr 0 (.t 38)), (.some (29, .true)), [13, 5]⟩, ⟨(.some 40), (.load .false 1 (.t 39)), (.some (29, .true)), [13, 5]⟩, ⟨(.some 41), (.bin .leq (.t 34) (.t 40)), (.some (29, .true)), [13, 5]⟩, ⟨(.some 42), (.move (.t 41)), (.some (29, .true)), [13, 5]⟩, ⟨(.some 43), (.move (.t 0)), (.some (42, .false)), [13, 5]⟩, ⟨(.some 44), (.move (.t 3)), (.some (42, .false)), [13, 5]⟩, ⟨(.some 45), (.indexAddrS 2 (.t 43) (.t 44)), (.some (42, .false)), [13, 5]⟩, ⟨(.some 46), (.fieldAddr 1 (.t 45)), (.some (42, .false)), [13, 5]⟩, ⟨(.some 47), (.load .false 1 (.t 46)), (.some (42, .false)), [13, 5]⟩, ⟨(.some 48), (.move (.t 0)), (.some (42, .false)), [13, 5]⟩, ⟨(.some 49), (.move (.t 3)), (.some (42, .false)), [13, 5]⟩, ⟨(.some 50), (.bin .sub (.t 49) (.c (.int .i64 1))), (.some (42, .false)), [13, 5]⟩, ⟨(.some 51), (.indexAddrS 2 (.t 48) (.t 50)), (.some (42, .false)), [13, 5]⟩, ⟨(.some 52), (.fieldAddr 1 (.t 51)), (.some (42, .false)), [13, 5]⟩, ⟨(.some 53), (.load .false 1 (.t 52)), (.some (42, .false)), [13, 5]⟩, ⟨(.some 54), (.bin .leq (.t 47) (.t 53)), (.some (42, .false)), [13, 5]⟩, ⟨(.some 55), (.pick (.t 42) (.c (.bool .true)) (.t 54)), (.some (29, .true)), [13, 5]⟩, ⟨(.some 56), (.pick (.t 29) (.t 55) (.c (.bool .false))), (.some (26, .false)), [13, 5]⟩, ⟨(.some 57), (.pick (.t 26) (.c (.bool .true)) (.t 56)), .none, [13, 5]⟩]) (.cond (.t 57) (.seq (.reg [⟨(.some 2), (.move (.c (.bool .false))), .none, []⟩]) .ret) .skip))) (.reg [⟨(.some 8), (.move (.t 3)), .none, []⟩, ⟨(.some 9), (.bin .add (.t 8) (.c (.int .i64 1))), .none, []⟩, ⟨(.some 3), (.move (.t 9)), .none, []⟩])))
noncomputable def L33 : LFunc := ⟨61, (.seq (.reg [⟨(.some 2), (.move (.c (.bool .false))), .none, []⟩]) (.seq (.seq (.reg [⟨(.some 3), (.move (.c (.int .i64 0))), .none, []⟩]) (.block 0 (.loop L33w0))) (.seq (.reg [⟨(.some 58), (.move (.t 0)), .none, []⟩, ⟨(.some 59), (.len .slice (.t 58)), .none, []⟩, ⟨(.some 60), (.bin .geq (.t 59) (.c (.int .i64 2))), .none, []⟩, ⟨(.some 2), (.move (.t 60)), .none, []⟩]) .ret))), [(.t 2)], .false, .none⟩
theorem lp33 : LP 33 = some L33 := by kernel_rfl
noncomputable def L50 : LFunc := ⟨27, (.seq (.reg [⟨(.some 3), (.box (.t 1)), .none, []⟩, ⟨(.some 4), (.move (.c (.bool .false))), .none, []⟩]) (.seq (.draw 20 [⟨(.some 5), (.move (.t 0)), .none, []⟩, ⟨(.some 6), (.len .slice (.t 5)), .none, []⟩, ⟨(.some 7), (.bin .leq (.t 6) (.c (.int .i64 8))), .none, []⟩, ⟨(.some 8), (.move (.t 7)), .none, []⟩, ⟨(.some 9), (.move (.t 0)), (.some (8, .true)), []⟩, ⟨(.some 10), (.call (.c (.func 33 [] [])) [(.t 9)]), (.some (8, .true)), []⟩, ⟨(.some 11), (.pick (.t 8) (.t 10) (.c (.bool .false))), .none, [5]⟩, ⟨(.some 12), (.move (.t 11)), .none, [5]⟩, ⟨(.some 13), (.load .true 2 (.t 3)), (.some (12, .true)), [5]⟩, ⟨(.some 14), (.move (.t 0)), (.some (12, .true)), [5]⟩, ⟨(.some 15), (.indexAddrS 2 (.t 14) (.c (.int .i64 0))), (.some (12, .true)), [5]⟩, ⟨(.some 16), (.fieldAddr 0 (.t 15)), (.some (12, .true)), [5]⟩, ⟨(.some 17), (.load .false 1 (.t 16)), (.some (12, .true)), [5]⟩, ⟨(.some 18), (.move (.t 0)), (.some (12, .true)), [5]⟩, ⟨(.some 19), (.move (.t 0)), (.some (12, .true)), [5]⟩, ⟨(.some 20), (.len .slice (.t 19)), (.some (12, .true)), [5]⟩, ⟨(.some 21), (.bin .sub (.t 20) (.c (.int .i64 1))), (.some (12, .true)), [5]⟩, ⟨(.some 22), (.indexAddrS 2 (.t 18) (.t 21)), (.some (12, .true)), [5]⟩, ⟨(.some 23), (.fieldAddr 0 (.t 22)), (.some (12, .true)), [5]⟩, ⟨(.some 24), (.load .false 1 (.t 23)), (.some (12, .true)), [5]⟩, ⟨(.some 25), (.call (.c (.func 34 [] [])) [(.t 13), (.t 17), (.t 24)]), (.some (12, .true)), [5]⟩, ⟨(.some 26), (.pick (.t 12) (.t 25) (.c (.bool .false))), .none, [20, 5]⟩, ⟨(.some 4), (.move (.t 26)), .none, [20, 5]⟩]) .ret)), [(.t 4)], .false, .none⟩
theorem lp50 : LP 50 = some L50 := by kernel_rfl
noncomputable def L63 : LFunc := ⟨19, (.seq (.reg [⟨(.some 2), (.move (.c (.int .i64 0))), .none, []⟩]) (.seq (.seq (.reg [⟨(.some 3), (.move (.t 0)), .none, []⟩, ⟨(.some 4), (.len .slice (.t 3)), .none, []⟩, ⟨(.some 5), (.bin .gtr (.t 4) (.c (.int .i64 8))), .none, []⟩]) (.cond (.t 5) (.seq (.reg [⟨(.some 2), (.move (.c (.int .i64 3))), .none, []⟩]) .ret) .skip)) (.seq (.seq (.reg [⟨(.some 6), (.move (.t 0)), .none, []⟩, ⟨(.some 7), (.len .slice (.t 6)), .none, []⟩, ⟨(.some 8), (.bin .lss (.t 7) (.c (.int .i64 2))), .none, []⟩, ⟨(.some 9), (.move (.t 8)), .none, []⟩, ⟨(.some 10), (.move (.t 0)), (.some (9, .false)), []⟩, ⟨(.some 11), (.call (.c (.func 86 [] [])) [(.t 10), (.c (.func 87 [] []))]), (.some (9, .false)), []⟩, ⟨(.some 12), (.un .not (.t 11)), (.some (9, .false)), []⟩, ⟨(.some 13), (.pick (.t 9) (.c (.bool .true)) (.t 12)), .none, []⟩, ⟨(.some 14), (.move (.t 13)), .none, []⟩, ⟨(.some 15), (.move (.t 0)), (.some (14, .false)), []⟩, ⟨(.some 16), (.call (.c (.func 88 [] [])) [(.t 15), (.c (.func 89 [] []))]), (.some (14, .false)), []⟩, ⟨(.some 17), (.un .not (.t 16)), (.some (14, .false)), []⟩, ⟨(.some 18), (.pick (.t 14) (.c (.bool .true)) (.t 17)), .none, []⟩]) (.cond (.t 18) (.seq (.reg [⟨(.some 2), (.move (.c (.int .i64 1))), .none, []⟩]) .ret) .skip)) (.seq (.reg [⟨(.some 2), (.move (.c (.int .i64 0))), .none, []⟩]) .ret)))), [(.t 2)], .false, .none⟩
theorem lp63 : LP 63 = some L63 := by kernel_rfl
noncomputable def L65 : LFunc := ⟨15, (.seq (.reg [⟨(.some 2), (.alloc [(.int .i64 0), (.int .i64 0)]), .none, []⟩]) (.seq (.draw 11 [⟨(.some 3), (.move (.t 0)), .none, []⟩, ⟨(.some 4), (.indexAddrS 2 (.t 3) (.c (.int .i64 0))), .none, []⟩, ⟨(.some 5), (.fieldAddr 0 (.t 4)), .none, []⟩, ⟨(.some 6), (.load .false 1 (.t 5)), .none, []⟩, ⟨(.some 7), (.move (.t 0)), .none, []⟩, ⟨(.some 8), (.move (.t 0)), .none, []⟩, ⟨(.some 9), (.len .slice (.t 8)), .none, []⟩, ⟨(.some 10), (.bin .sub (.t 9) (.c (.int .i64 1))), .none, []⟩, ⟨(.some 11), (.indexAddrS 2 (.t 7) (.t 10)), .none, []⟩, ⟨(.some 12), (.fieldAddr 0 (.t 11)), .none, []⟩, ⟨(.some 13), (.load .false 1 (.t 12)), .none, []⟩, ⟨(.some 14), (.build [(.int .i64 0), (.int .i64 0)] [(0, (1, (.t 6))), (1, (1, (.t 13)))]), .none, []⟩, ⟨.none, (.store 2 (.t 2) (.t 14)), .none, []⟩]) .ret)), [(.cell 2 .true 2)], .false, .none⟩
theorem lp65 : LP 65 = some L65 := by kernel_rfl
noncomputable def L66 : LFunc := ⟨36, (.seq (.reg [⟨(.some 3), (.box (.t 1)), .none, []⟩, ⟨(.some 4), (.move (.c (.int .i64 0))), .none, []⟩]) (.seq (.reg [⟨(.some 5), (.alloc [(.int .i64 0)]), .none, []⟩, ⟨.none, (.store 1 (.t 5) (.c (.int .i64 0))), .none, []⟩]) (.seq (.seq (.reg [⟨(.some 9), (.move (.t 0)), .none, []⟩, ⟨(.some 10), (.load .false 1 (.t 3)), .none, []⟩, ⟨(.some 11), (.call (.c (.func 90 [] [])) [(.t 9), (.t 10)]), .none, []⟩]) (.block 0 (.rangeFunc (.t 11) [12, 13] (.seq (.reg [⟨(.some 6), (.alloc [(.int .i64 0), (.int .i64 0)]), .none, []⟩, ⟨.none, (.store 2 (.t 6) (.t 12)), .none, []⟩]) (.reg [⟨(.some 7), (.alloc [(.int .i64 0), (.int .i64 0)]), .none, []⟩, ⟨.none, (.store 2 (.t 7) (.t 13)), .none, []⟩])) (.block 1 (.seq (.reg [⟨(.some 14), (.fieldAddr 1 (.t 7)), .none, []⟩, ⟨(.some 15), (.load .false 1 (.t 14)), .none, []⟩, ⟨(.some 16), (.fieldAddr 1 (.t 6)), .none, []⟩, ⟨(.some 17), (.load .false 1 (.t 16)), .none, []⟩, ⟨(.some 18), (.bin .sub (.t 15) (.t 17)), .none, []⟩, ⟨(.some 19), (.load .false 1 (.t 3)), .none, []⟩, ⟨(.some 20), (.fieldAddr 0 (.t 6)), .none, []⟩, ⟨(.some 21), (.load .false 1 (.t 20)), .none, []⟩, ⟨(.some 22), (.bin .sub (.t 19) (.t 21)), .none, []⟩, ⟨(.some 23), (.bin .mul (.t 18) (.t 22)), .none, []⟩, ⟨(.some 24), (.fieldAddr 0 (.t 7)), .none, []⟩, ⟨(.some 25), (.load .false 1 (.t 24)), .none, []⟩, ⟨(.some 26), (.fieldAddr 0 (.t 6)), .none, []⟩, ⟨(.some 27), (.load .false 1 (.t 26)), .none, []⟩, ⟨(.some 28), (.bin .sub (.t 25) (.t 27)), .none, []⟩, ⟨(.some 29), (.build [(.int .i64 0), (.int .i64 0)] [(0, (1, (.t 23))), (1, (1, (.t 28)))]), .none, []⟩, ⟨(.some 8), (.alloc [(.int .i64 0), (.int .i64 0)]), .none, []⟩, ⟨.none, (.store 2 (.t 8) (.t 29)), .none, []⟩]) (.draw 4 [⟨(.some 30), (.fieldAddr 1 (.t 6)), .none, []⟩, ⟨(.some 31), (.load .false 1 (.t 30)), .none, []⟩, ⟨(.some 32), (.load .true 2 (.t 8)), .none, []⟩, ⟨(.some 33), (.call (.c (.func 91 [] [])) [(.t 32)]), .none, []⟩, ⟨(.some 34), (.bin .add (.t 31) (.t 33)), .none, [3]⟩, ⟨.none, (.store 1 (.t 5) (.t 34)), .none, [3]⟩])))))) (.seq (.reg [⟨(.some 35), (.load .false 1 (.t 5)), .none, []⟩, ⟨(.some 4), (.move (.t 35)), .none, []⟩]) .ret)))), [(.t 4)], .false, .none⟩
theorem lp66 : LP 66 = some L66 := by kernel_rfl
noncomputable def L86w0 : LCode := (.seq (.reg [⟨(.some 10), (.bin .lss (.t 9) (.t 8)), .none, []⟩]) (.seq (.cond (.t 10) .skip (.exit 0)) (.seq (.block 1 (.seq (.reg [⟨(.some 11), (.indexAddrS 2 (.t 7) (.t 9)), .none, []⟩, ⟨(.some 12), (.load .true 2 (.t 11)), .none, []⟩, ⟨(.some 6), (.alloc [(.int .i64 0), (.int .i64 0)]), .none, []⟩, ⟨.none, (.store 2 (.t 6) (.t 12)), .none, []⟩]) (.seq (.reg [⟨(.some 13), (.move (.t 1)), .none, []⟩, ⟨(.some 14), (.load .true 2 (.t 6)), .none, []⟩, ⟨(.some 15), (.call (.t 13) [(.t 14)]), .none, []⟩, ⟨(.some 16), (.un .not (.t 15)), .none, []⟩]) (.cond (.t 16) (.seq (.reg [⟨(.some 4), (.move (.c (.bool .false))), .none, []⟩]) .ret) .skip)))) (.reg [⟨(.some 17), (.bin .add (.t 9) (.c (.int .i64 1))), .none, []⟩, ⟨(.some 9), (.move (.t 17)), .none, []⟩]))))
noncomputable def L86 : LFunc := ⟨18, (.seq (.reg [⟨(.some 4), (.move (.c (.bool .false))), .none, []⟩]) (.seq (.seq (.reg [⟨(.some 7), (.move (.t 0)), .none, []⟩, ⟨(.some 8), (.len .slice (.t 7)), .none, []⟩, ⟨(.some 9), (.move (.c (.int .i64 0))), .none, []⟩]) (.block 0 (.loop L86w0))) (.seq (.reg [⟨(.some 4), (.move (.c (.bool .true))), .none, []⟩]) .ret))), [(.t 4)], .false, .none⟩
theorem lp86 : LP 86 = some L86 := by kernel_rfl
noncomputable def L87 : LFunc := ⟨17, (.seq (.reg [⟨(.some 1), (.box (.t 0)), .none, []⟩, ⟨(.some 2), (.move (.c (.bool .false))), .none, []⟩]) (.seq (.reg [⟨(.some 5), (.build [(.int .i64 0), (.int .i64 0)] [(0, (1, (.c (.int .i64 1)))), (1, (1, (.c (.int .i64 2000))))]), .none, []⟩, ⟨(.some 6), (.build [(.int .i64 0), (.int .i64 0)] [(0, (1, (.c (.int .i64 1)))), (1, (1, (.c (.int .i64 2000))))]), .none, []⟩, ⟨(.some 3), (.alloc [(.int .i64 0), (.int .i64 0)]), .none, []⟩, ⟨(.some 4), (.alloc [(.int .i64 0), (.int .i64 0)]), .none, []⟩, ⟨.none, (.store 2 (.t 3) (.t 5)), .none, []⟩, ⟨.none, (.store 2 (.t 4) (.t 6)), .none, []⟩]) (.seq (.reg [⟨(.some 7), (.load .true 2 (.t 3)), .none, []⟩, ⟨(.some 8), (.fieldAddr 0 (.t 1)), .none, []⟩, ⟨(.some 9), (.load .false 1 (.t 8)), .none, []⟩, ⟨(.some 10), (.call (.c (.func 73 [] [])) [(.t 7), (.t 9)]), .none, []⟩, ⟨(.some 11), (.move (.t 10)), .none, []⟩, ⟨(.some 12), (.load .true 2 (.t 4)), (.some (11, .true)), []⟩, ⟨(.some 13), (.fieldAddr 1 (.t 1)), (.some (11, .true)), []⟩, ⟨(.some 14), (.load .false 1 (.t 13)), (.some (11, .true)), []⟩, ⟨(.some 15), (.call (.c (.func 73 [] [])) [(.t 12), (.t 14)]), (.some (11, .true)), []⟩, ⟨(.some 16), (.pick (.t 11) (.t 15) (.c (.bool .false))), .none, []⟩, ⟨(.some 2), (.move (.t 16)), .none, []⟩]) .ret))), [(.t 2)], .false, .none⟩
theorem lp87 : LP 87 = some L87 := by kernel_rfl
noncomputable def L88w0 : LCode := (.seq (.seq (.reg [⟨(.some 6), (.move (.t 5)), .none, []⟩, ⟨(.some 7), (.move (.t 0)), .none, []⟩, ⟨(.some 8), (.len .slice (.t 7)), .none, []⟩, ⟨(.some 9), (.bin .lss (.t 6) (.t 8)), .none, []⟩]) (.cond (.t 9) .skip (.exit 0))) (.seq (.block 1 (.seq (.draw 10 [⟨(.some 12), (.move (.t 1)), .none, []⟩, ⟨(.some 13), (.move (.t 0)), .none, []⟩, ⟨(.some 14), (.move (.t 5)), .none, []⟩, ⟨(.some 15), (.bin .sub (.t 14) (.c (.int .i64 1))), .none, []⟩, ⟨(.some 16), (.indexAddrS 2 (.t 13) (.t 15)), .none, []⟩, ⟨(.some 17), (.load .true 2 (.t 16)), .none, []⟩, ⟨(.some 18), (.move (.t 0)), .none, []⟩, ⟨(.some 19), (.move (.t 5)), .none, []⟩, ⟨(.some 20), (.indexAddrS 2 (.t 18) (.t 19)), .none, []⟩, ⟨(.some 21), (.load .true 2 (.t 20)), .none, []⟩, ⟨(.some 22), (.call (.t 12) [(.t 17), (.t 21)]), .none, []⟩, ⟨(.some 23), (.un .not (.t 22)), .none, [10]⟩]) (.cond (.t 23) (.seq (.reg [⟨(.some 4), (.move (.c (.bool .false))), .none, []⟩]) .ret) .skip))) (.reg [⟨(.some 10), (.move (.t 5)), .none, []⟩, ⟨(.some 11), (.bin .add (.t 10) (.c (.int .i64 1))), .none, []⟩, ⟨(.some 5), (.move (.t 11)), .none, []⟩])))
noncomputable def L88 : LFunc := ⟨24, (.seq (.reg [⟨(.some 4), (.move (.c (.bool .false))), .none, []⟩]) (.seq (.seq (.reg [⟨(.some 5), (.move (.c (.int .i64 1))), .none, []⟩]) (.block 0 (.loop L88w0))) (.seq (.reg [⟨(.some 4), (.move (.c (.bool .true))), .none, []⟩]) .ret))), [(.t 4)], .false, .none⟩
theorem lp88 : LP 88 = some L88 := by kernel_rfl
noncomputable def L89 : LFunc := ⟨17, (.seq (.reg [⟨(.some 2), (.box (.t 0)), .none, []⟩, ⟨(.some 3), (.box (.t 1)), .none, []⟩, ⟨(.some 4), (.move (.c (.bool .false))), .none, []⟩]) (.seq (.reg [⟨(.some 5), (.fieldAddr 0 (.t 2)), .none, []⟩, ⟨(.some 6), (.load .false 1 (.t 5)), .none, []⟩, ⟨(.some 7), (.fieldAddr 0 (.t 3)), .none, []⟩, ⟨(.some 8), (.load .false 1 (.t 7)), .none, []⟩, ⟨(.some 9), (.bin .lss (.t 6) (.t 8)), .none, []⟩, ⟨(.some 10), (.move (.t 9)), .none, []⟩, ⟨(.some 11), (.fieldAddr 1 (.t 2)), (.some (10, .true)), []⟩, ⟨(.some 12), (.load .false 1 (.t 11)), (.some (10, .true)), []⟩, ⟨(.some 13), (.fieldAddr 1 (.t 3)), (.some (10, .true)), []⟩, ⟨(.some 14), (.load .false 1 (.t 13)), (.some (10, .true)), []⟩, ⟨(.some 15), (.bin .lss (.t 12) (.t 14)), (.some (10, .true)), []⟩, ⟨(.some 16), (.pick (.t 10) (.t 15) (.c (.bool .false))), .none, []⟩, ⟨(.some 4), (.move (.t 16)), .none, []⟩]) .ret)), [(.t 4)], .false, .none⟩
theorem lp89 : LP 89 = some L89 := by kernel_rfl
noncomputable def L90 : LFunc := ⟨6, (.seq (.reg [⟨(.some 2), (.box (.t 0)), .none, []⟩, ⟨(.some 3), (.box (.t 1)), .none, []⟩, ⟨(.some 4), (.move (.c .nilFunc)), .none, []⟩]) (.seq (.reg [⟨(.some 5), (.makeFunc 102 [] [(.t 2), (.t 3)]), .none, []⟩, ⟨(.some 4), (.move (.t 5)), .none, []⟩]) .ret)), [(.t 4)], .false, .none⟩
theorem lp90 : LP 90 = some L90 := by kernel_rfl
noncomputable def L102w0 : LCode := (.seq (.seq (.reg [⟨(.some 6), (.move (.t 4)), .none, []⟩, ⟨(.some 7), (.load .false 1 (.t 1)), .none, []⟩, ⟨(.some 8), (.len .slice (.t 7)), .none, []⟩, ⟨(.some 9), (.bin .lss (.t 6) (.t 8)), .none, []⟩]) (.cond (.t 9) .skip (.exit 0))) (.seq (.block 1 (.seq (.reg [⟨(.some 12), (.load .false 1 (.t 1)), .none, []⟩, ⟨(.some 13), (.move (.t 4)), .none, []⟩, ⟨(.some 14), (.bin .sub (.t 13) (.c (.int .i64 1))), .none, []⟩, ⟨(.some 15), (.move (.t 4)), .none, []⟩, ⟨(.some 16), (.bin .add (.t 15) (.c (.int .i64 1))), .none, []⟩, ⟨(.some 17), (.sliceS 2 (.t 12) (.some (.t 14)) (.some (.t 16))), .none, []⟩, ⟨(.some 18), (.call (.c (.func 65 [] [])) [(.t 17)]), .none, []⟩, ⟨(.some 5), (.alloc [(.int .i64 0), (.int .i64 0)]), .none, []⟩, ⟨.none, (.store 2 (.t 5) (.t 18)), .none, []⟩]) (.seq (.draw 14 [⟨(.some 19), (.load .true 2 (.t 5)), .none, []⟩, ⟨(.some 20), (.load .false 1 (.t 2)), .none, []⟩, ⟨(.some 21), (.call (.c (.func 73 [] [])) [(.t 19), (.t 20)]), .none, []⟩, ⟨(.some 22), (.move (.t 21)), .none, [2]⟩, ⟨(.some 23), (.move (.t 0)), (.some (22, .true)), [2]⟩, ⟨(.some 24), (.load .false 1 (.t 1)), (.some (22, .true)), [2]⟩, ⟨(.some 25), (.move (.t 4)), (.some (22, .true)), [2]⟩, ⟨(.some 26), (.bin .sub (.t 25) (.c (.int .i64 1))), (.some (22, .true)), [2]⟩, ⟨(.some 27), (.indexAddrS 2 (.t 24) (.t 26)), (.some (22, .true)), [2]⟩, ⟨(.some 28), (.load .true 2 (.t 27)), (.some (22, .true)), [2]⟩, ⟨(.some 29), (.load .false 1 (.t 1)), (.some (22, .true)), [2]⟩, ⟨(.some 30), (.move (.t 4)), (.some (22, .true)), [2]⟩, ⟨(.some 31), (.indexAddrS 2 (.t 29) (.t 30)), (.some (22, .true)), [2]⟩, ⟨(.some 32), (.load .true 2 (.t 31)), (.some (22, .true)), [2]⟩, ⟨(.some 33), (.call (.t 23) [(.t 28), (.t 32)]), (.some (22, .true)), [2]⟩, ⟨(.some 34), (.un .not (.t 33)), (.some (22, .true)), [14, 2]⟩, ⟨(.some 35), (.pick (.t 22) (.t 34) (.c (.bool .false))), .none, [14, 2]⟩]) (.cond (.t 35) .ret .skip)))) (.reg [⟨(.some 10), (.move (.t 4)), .none, []⟩, ⟨(.some 11), (.bin .add (.t 10) (.c (.int .i64 1))), .none, []⟩, ⟨(.some 4), (.move (.t 11)), .none, []⟩])))
noncomputable def L102 : LFunc := ⟨36, (.seq (.reg [⟨(.some 4), (.move (.c (.int .i64 1))), .none, []⟩]) (.block 0 (.loop L102w0))), [], .true, .none⟩
theorem lp102 : LP 102 = some L102 := by kernel_rfl
theorem lw13 : LW 13 = some L13 := lw_of rfl lp13
theorem lw30 : LW 30 = some L30 := lw_of rfl lp30
theorem lw31 : LW 31 = some L31 := lw_of rfl lp31
theorem lw32 : LW 32 = some L32 := lw_of rfl lp32
theorem lw33 : LW 33 = some L33 := lw_of rfl lp33
theorem lw50 : LW 50 = some L50 := lw_of rfl lp50
theorem lw63 : LW 63 = some L63 := lw_of rfl lp63
theorem lw65 : LW 65 = some L65 := lw_of rfl lp65
theorem lw66 : LW 66 = some L66 := lw_of rfl lp66
theorem lw86 : LW 86 = some L86 := lw_of rfl lp86
theorem lw87 : LW 87 = some L87 := lw_of rfl lp87
theorem lw88 : LW 88 = some L88 := lw_of rfl lp88
theorem lw89 : LW 89 = some L89 := lw_of rfl lp89
theorem lw90 : LW 90 = some L90 := lw_of rfl lp90
theorem lw102 : LW 102 = some L102 := lw_of rfl lp102
end Go.Hx

