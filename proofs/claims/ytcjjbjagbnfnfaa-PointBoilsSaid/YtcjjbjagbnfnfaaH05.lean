/- Layer 3: what can stand on another scale, on the plain machine. -/
import Derived.Test.YtcjjbjagbnfnfaaH04
set_option linter.all false
/- Layer 3: what can stand on another scale, on the plain machine. -/
namespace Go.Hx
set_option linter.unusedSimpArgs false
set_option linter.unusedVariables false
set_option maxRecDepth 20000
set_option maxHeartbeats 4000000
attribute [local irreducible] W R C thenH inBlockH
abbrev renc (r : Int × Int) : List HV := [i64 r.1, i64 r.2]
theorem renc_len (r : Int × Int) : (renc r).length = 2 := rfl
theorem row_flat {α : Type} {enc : α → List HV} {sz : Nat} {h : Tr HBlk} {nx b : Nat} {l : List α} {k : BK} (he : ∀ x, (enc x).length = sz) (hb : b < nx) (hg : h.get b = some (.cells (l.flatMap enc) k)) : Row enc sz h nx (some (b, 0)) l :=
  fun _ => ⟨b, 0, _, _, rfl, hb, hg, fun i x hx => flat_row he l i x hx⟩
theorem ab_fl {m n A : Int} (hn : 1 ≤ n) (h0 : 0 ≤ A) (h1 : -A ≤ m) (h2 : m ≤ A) : (-A - 1 ≤ m / n ∧ m / n ≤ A + 1) ∧ -A - 1 ≤ cdiv m n ∧ cdiv m n ≤ A + 1 := by
  have key : ∀ k : Int, -A ≤ k → k ≤ A → -A - 1 ≤ k / n ∧ k / n ≤ A + 1 := fun k k1 k2 => by
    have m1 := Int.mul_le_mul_of_nonneg_left hn (show 0 ≤ A + 1 by omega)
    have m2 := Int.mul_le_mul_of_nonneg_left hn (show 0 ≤ A + 2 by omega)
    constructor
    · refine (fl_iff (by omega)).2 ?_
      rw [show -A - 1 = -(A + 1) by omega, Int.neg_mul]
      omega
    · have := mt (fl_iff (m := k) (n := n) (q := A + 2) (by omega)).1 (by omega)
      omega
  have a := key m h1 h2
  have b := key (-m) (by omega) (by omega)
  unfold cdiv
  omega
theorem s_bd {I S : Int} (h : SOk I S) : (-1000 ≤ ic I S ∧ ic I S ≤ 1000) ∧ (-1000 ≤ st I S ∧ st I S ≤ 1000) ∧ 1 ≤ st I S - ic I S ∧ st I S - ic I S ≤ 2000 := by
  unfold SOk at h
  unfold ic st
  by_cases e : I < S
  · rw [if_pos e, if_pos e]; omega
  · rw [if_neg e, if_neg e]; omega
theorem r_bd {b : Bool} {lo hi : Int} (h : ROk lo hi) : (-1000000 ≤ tl b lo hi ∧ tl b lo hi ≤ 1000000) ∧ (-1000000 ≤ th b lo hi ∧ th b lo hi ≤ 1000000) ∧ tl b lo hi ≤ th b lo hi := by
  unfold ROk at h
  unfold tl th
  cases b <;> simp only [if_true, if_false, Bool.false_eq_true] <;> omega
/-- Degrees between ice and steam; half degrees of readings; what stands on another scale. -/
def dg (s : Int × Int) : Int := st s.1 s.2 - ic s.1 s.2
def hlo (s r : Int × Int) : Int := 2 * (tl (tn s.1 s.2) r.1 r.2 - ic s.1 s.2) - 1
def hhi (s r : Int × Int) : Int := 2 * (th (tn s.1 s.2) r.1 r.2 - ic s.1 s.2) + 1
def slo (s1 s2 r : Int × Int) : Int := cdiv (hlo s1 r * dg s2 - dg s1) (2 * dg s1)
def shi (s1 s2 r : Int × Int) : Int := (hhi s1 r * dg s2 + dg s1) / (2 * dg s1)
theorem son_bd {s1 s2 r : Int × Int} (h1 : SOk s1.1 s1.2) (h2 : SOk s2.1 s2.2) (hr : ROk r.1 r.2) :
    (1 ≤ dg s1 ∧ dg s1 ≤ 2000) ∧ (1 ≤ dg s2 ∧ dg s2 ≤ 2000) ∧ (-2002001 ≤ hlo s1 r ∧ hlo s1 r ≤ 2002001) ∧ (-2002001 ≤ hhi s1 r ∧ hhi s1 r ≤ 2002001) ∧ (-4004002000 ≤ hlo s1 r * dg s2 ∧ hlo s1 r * dg s2 ≤ 4004002000) ∧ (-4004002000 ≤ hhi s1 r * dg s2 ∧ hhi s1 r * dg s2 ≤ 4004002000) ∧ (-5000000000 ≤ slo s1 s2 r ∧ slo s1 s2 r ≤ 5000000000) ∧ (-5000000000 ≤ shi s1 s2 r ∧ shi s1 s2 r ≤ 5000000000) := by
  have a1 := s_bd h1
  have a2 := s_bd h2
  have a3 := r_bd (b := tn s1.1 s1.2) hr
  have b1 : 1 ≤ dg s1 ∧ dg s1 ≤ 2000 := by unfold dg; omega
  have b2 : 1 ≤ dg s2 ∧ dg s2 ≤ 2000 := by unfold dg; omega
  have b3 : -2002001 ≤ hlo s1 r ∧ hlo s1 r ≤ 2002001 := by unfold hlo; omega
  have b4 : -2002001 ≤ hhi s1 r ∧ hhi s1 r ≤ 2002001 := by unfold hhi; omega
  have m1 := mul_bs (p := hlo s1 r) (q := dg s2) (A := 2002001) (B := 2000) b3.1 b3.2 (by omega) b2.2 (by omega)
  have m2 := mul_bs (p := hhi s1 r) (q := dg s2) (A := 2002001) (B := 2000) b4.1 b4.2 (by omega) b2.2 (by omega)
  have c1 := ab_fl (m := hlo s1 r * dg s2 - dg s1) (n := 2 * dg s1) (A := 4005000000) (by omega) (by omega) (by omega) (by omega)
  have c2 := ab_fl (m := hhi s1 r * dg s2 + dg s1) (n := 2 * dg s1) (A := 4005000000) (by omega) (by omega) (by omega) (by omega)
  have c3 : -5000000000 ≤ slo s1 s2 r ∧ slo s1 s2 r ≤ 5000000000 := by unfold slo; omega
  have c4 : -5000000000 ≤ shi s1 s2 r ∧ shi s1 s2 r ≤ 5000000000 := by unfold shi; omega
  omega
/- 97 -/
theorem loop97 {fl : Nat} {h0 : Tr HBlk} {n0 : Nat} {Q : HExit → HAct → HS → Prop} {p : Option (Nat × Nat)} {l : List (Int × Int)} {cp : Nat} {k : Nat} {first captured : List HV} {P : Int × Int → Prop} [DecidablePred P] (hlen : l.length < 1000000000) (hfl : fl ≤ n0)
    (hf : ∀ r ∈ l, ∀ fl h n, Ext h0 n0 h n → C LW fl k (first ++ [.agg (renc r)] ++ captured) ⟨h, n⟩ (Sc (· = .bool (decide (P r))) ⟨h, n⟩)) :
    ∀ (m i : Nat) (a : HAct) (h : Tr HBlk) (nx : Nat), m + i = l.length → Ext h0 n0 h nx → Row renc 2 h nx p l → a.nt = 18 → a.defers = [] → a.tmp 1 = .func k first captured → a.tmp 7 = .slice p l.length cp → a.tmp 8 = i64 l.length → a.tmp 9 = i64 i →
      (∀ a' h' n', Ext h0 n0 h' n' → a'.nt = 18 → a'.defers = [] → (∀ r ∈ l.drop i, P r) → Q .normal a' ⟨h', n'⟩) →
      (∀ a' h' n', Ext h0 n0 h' n' → a'.nt = 18 → a'.defers = [] → a'.tmp 4 = .bool false → ¬ (∀ r ∈ l.drop i, P r) → Q .ret a' ⟨h', n'⟩) → W LW fl none (.loop L97w0) (inBlockH 0 Q) a ⟨h, nx⟩
  | 0, i, a, h, nx, hm, he, hrow, hnt, hds, h1, h7, h8, h9, hq, hr => by
    have hle := he.le
    refine w_it (show L97w0 = _ by unfold L97w0; exact rfl) ?_
    repeat' first
     | refine r_nil ?_
     | refine th_n ?_
     | refine th_r ?_
     | refine th_e ?_
     | refine ib_n ?_
     | refine ib_r ?_
     | refine ib_e ?_
     | refine ib_x (by decide) ?_
     | refine w_exit ?_
     | refine w_seq ?_
     | refine w_reg ?_
     | refine w_ret ?_
     | refine w_skip ?_
     | refine w_block ?_
     | refine w_t (by simp (disch:=first|decide|(simp only[zF,zG,hnt, h1, h7, h8, h9];decide)) only [zA,zB,zC,zD,zE,zF,zG,zH,zI,zJ,zK,HV.cells,fl0,fl2,flS,flS1,flI1,flU1,flU2,flF,hnt, h1, h7, h8, h9]; first|done|exact rfl) ?_
     | refine w_f (by simp (disch:=first|decide|(simp only[zF,zG,hnt, h1, h7, h8, h9];decide)) only [zA,zB,zC,zD,zE,zF,zG,zH,zI,zJ,zK,HV.cells,fl0,fl2,flS,flS1,flI1,flU1,flU2,flF,hnt, h1, h7, h8, h9]; first|done|exact rfl) ?_
     | refine r_take (by simp (disch:=first|decide|(simp only[zF,zG,hnt, h1, h7, h8, h9];decide)) only [zA,zB,zC,zD,zE,zF,zG,zH,zI,zJ,zK,HV.cells,fl0,fl2,flS,flS1,flI1,flU1,flU2,flF,hnt, h1, h7, h8, h9]; first|done|exact rfl) ?_
     | refine r_drop (by simp (disch:=first|decide|(simp only[zF,zG,Bool.not_true,Bool.not_false,hnt, h1, h7, h8, h9];decide)) only [zA,zB,zC,zD,zE,zF,zG,zH,zI,zJ,zK,HV.cells,fl0,fl2,flS,flS1,flI1,flU1,flU2,flF,Bool.not_true,Bool.not_false,hnt, h1, h7, h8, h9]; first|done|exact rfl) ?_
     | refine r_move (by simp (disch:=first|decide|(simp only[zF,zG,hnt, h1, h7, h8, h9];decide)) only [zA,zB,zC,zD,zE,zF,zG,zH,zI,zJ,zK,HV.cells,fl0,fl2,flS,flS1,flI1,flU1,flU2,flF,hnt, h1, h7, h8, h9]; try exact rfl) ?_
     | refine r_ldn (by simp (disch:=first|decide|(simp only[zF,zG,hnt, h1, h7, h8, h9];decide)) only [zA,zB,zC,zD,zE,zF,zG,zH,zI,zJ,zK,HV.cells,fl0,fl2,flS,flS1,flI1,flU1,flU2,flF,hnt, h1, h7, h8, h9]; try exact rfl) (by first|assumption|(simp (disch:=omega) only [get_same,get_other,hnt, h1, h7, h8, h9]; first|done|exact rfl)) (by first|assumption|exact ow2 _ _ _ _|exact ow3 _ _ _ _ _ _|rfl|(simp only [zI,zJ,HV.cells,hnt, h1, h7, h8, h9]; exact rfl)) ?_
     | refine r_alloc ?_
     | refine r_st (cs' := _) (by simp (disch:=first|decide|(simp only[zF,zG,hnt, h1, h7, h8, h9];decide)) only [zA,zB,zC,zD,zE,zF,zG,zH,zI,zJ,zK,HV.cells,fl0,fl2,flS,flS1,flI1,flU1,flU2,flF,hnt, h1, h7, h8, h9]; try exact rfl) (by simp (disch:=first|decide|(simp only[zF,zG,hnt, h1, h7, h8, h9];decide)) only [zA,zB,zC,zD,zE,zF,zG,zH,zI,zJ,zK,HV.cells,fl0,fl2,flS,flS1,flI1,flU1,flU2,flF,hnt, h1, h7, h8, h9]; try exact rfl) (by first|assumption|(simp (disch:=omega) only [get_same,get_other,hnt, h1, h7, h8, h9]; first|done|exact rfl)) (by exact True.intro) (by rfl) (by rfl) (by first|assumption|exact ow2 _ _ _ _|exact ow3 _ _ _ _ _ _|rfl|(simp only [zI,zJ,HV.cells,hnt, h1, h7, h8, h9]; exact rfl)) (by omega) ?_
     | refine r_add (by simp (disch:=first|decide|(simp only[zF,zG,hnt, h1, h7, h8, h9];decide)) only [zA,zB,zC,zD,zE,zF,zG,zH,zI,zJ,zK,HV.cells,fl0,fl2,flS,flS1,flI1,flU1,flU2,flF,hnt, h1, h7, h8, h9]; try exact rfl) (by simp (disch:=first|decide|(simp only[zF,zG,hnt, h1, h7, h8, h9];decide)) only [zA,zB,zC,zD,zE,zF,zG,zH,zI,zJ,zK,HV.cells,fl0,fl2,flS,flS1,flI1,flU1,flU2,flF,hnt, h1, h7, h8, h9]; try exact rfl) (by omega) (by omega) ?_
     | refine r_lss (by simp (disch:=first|decide|(simp only[zF,zG,hnt, h1, h7, h8, h9];decide)) only [zA,zB,zC,zD,zE,zF,zG,zH,zI,zJ,zK,HV.cells,fl0,fl2,flS,flS1,flI1,flU1,flU2,flF,hnt, h1, h7, h8, h9]; try exact rfl) (by simp (disch:=first|decide|(simp only[zF,zG,hnt, h1, h7, h8, h9];decide)) only [zA,zB,zC,zD,zE,zF,zG,zH,zI,zJ,zK,HV.cells,fl0,fl2,flS,flS1,flI1,flU1,flU2,flF,hnt, h1, h7, h8, h9]; try exact rfl) (fun hc => ?_) (fun hc => ?_) <;> (try (exfalso; omega))
     | refine r_not1 (by simp (disch:=first|decide|(simp only[zF,zG,hnt, h1, h7, h8, h9];decide)) only [zA,zB,zC,zD,zE,zF,zG,zH,zI,zJ,zK,HV.cells,fl0,fl2,flS,flS1,flI1,flU1,flU2,flF,hnt, h1, h7, h8, h9]; try exact rfl) ?_
     | refine r_len (by simp (disch:=first|decide|(simp only[zF,zG,hnt, h1, h7, h8, h9];decide)) only [zA,zB,zC,zD,zE,zF,zG,zH,zI,zJ,zK,HV.cells,fl0,fl2,flS,flS1,flI1,flU1,flU2,flF,hnt, h1, h7, h8, h9]; try exact rfl) ?_
     | refine r_ixs (by simp (disch:=first|decide|(simp only[zF,zG,hnt, h1, h7, h8, h9];decide)) only [zA,zB,zC,zD,zE,zF,zG,zH,zI,zJ,zK,HV.cells,fl0,fl2,flS,flS1,flI1,flU1,flU2,flF,hnt, h1, h7, h8, h9]; try exact rfl) (by simp (disch:=first|decide|(simp only[zF,zG,hnt, h1, h7, h8, h9];decide)) only [zA,zB,zC,zD,zE,zF,zG,zH,zI,zJ,zK,HV.cells,fl0,fl2,flS,flS1,flI1,flU1,flU2,flF,hnt, h1, h7, h8, h9]; try exact rfl) (by omega) ?_
     | fail
    refine hq _ _ _ he ?_ ?_ (fun r hr => by rw [List.drop_of_length_le (by omega)] at hr; cases hr)
    all_goals first|(simp only [zL,zM,zF,zG,hnt, hds];done)|(simp (disch:=first|decide|(simp only[zF,zG,hnt, hds];decide)) only [zA,zB,zC,zD,zE,zF,zG,zH,zI,zJ,zK,HV.cells,fl0,fl2,flS,flS1,flI1,flU1,flU2,flF,hnt, hds];first|done|exact rfl)|assumption
  | m + 1, i, a, h, nx, hm, he, hrow, hnt, hds, h1, h7, h8, h9, hq, hr => by
    have hi : i < l.length := by omega
    have hrow0 := hrow
    obtain ⟨b, o, cs, kk, rfl, hb, hg, hcs⟩ := hrow (by intro e; rw [e] at hi; simp at hi)
    have hy : l[i]? = some l[i] := by simp [hi]
    have e0 := hcs i _ hy
    have hf' := hf l[i] (List.getElem_mem hi)
    have ow : overwrite [i64 0, i64 0] 0 (HV.agg (renc l[i])).cells = some (renc l[i]) := rfl
    have tk : takeN 2 ((renc l[i]).drop 0) = some (renc l[i]) := rfl
    have hd := he.d
    have hle := he.le
    have hdrop := List.drop_eq_getElem_cons hi
    refine w_it (show L97w0 = _ by unfold L97w0; exact rfl) ?_
    repeat' first
     | refine r_nil ?_
     | refine th_n ?_
     | refine th_r ?_
     | refine th_e ?_
     | refine ib_n ?_
     | refine ib_r ?_
     | refine ib_e ?_
     | refine ib_x (by decide) ?_
     | refine w_exit ?_
     | refine w_seq ?_
     | refine w_reg ?_
     | refine w_ret ?_
     | refine w_skip ?_
     | refine w_block ?_
     | refine w_t (by simp (disch:=first|decide|(simp only[zF,zG,hnt, h1, h7, h8, h9];decide)) only [zA,zB,zC,zD,zE,zF,zG,zH,zI,zJ,zK,HV.cells,fl0,fl2,flS,flS1,flI1,flU1,flU2,flF,hnt, h1, h7, h8, h9]; first|done|exact rfl) ?_
     | refine w_f (by simp (disch:=first|decide|(simp only[zF,zG,hnt, h1, h7, h8, h9];decide)) only [zA,zB,zC,zD,zE,zF,zG,zH,zI,zJ,zK,HV.cells,fl0,fl2,flS,flS1,flI1,flU1,flU2,flF,hnt, h1, h7, h8, h9]; first|done|exact rfl) ?_
     | refine r_take (by simp (disch:=first|decide|(simp only[zF,zG,hnt, h1, h7, h8, h9];decide)) only [zA,zB,zC,zD,zE,zF,zG,zH,zI,zJ,zK,HV.cells,fl0,fl2,flS,flS1,flI1,flU1,flU2,flF,hnt, h1, h7, h8, h9]; first|done|exact rfl) ?_
     | refine r_drop (by simp (disch:=first|decide|(simp only[zF,zG,Bool.not_true,Bool.not_false,hnt, h1, h7, h8, h9];decide)) only [zA,zB,zC,zD,zE,zF,zG,zH,zI,zJ,zK,HV.cells,fl0,fl2,flS,flS1,flI1,flU1,flU2,flF,Bool.not_true,Bool.not_false,hnt, h1, h7, h8, h9]; first|done|exact rfl) ?_
     | refine r_move (by simp (disch:=first|decide|(simp only[zF,zG,hnt, h1, h7, h8, h9];decide)) only [zA,zB,zC,zD,zE,zF,zG,zH,zI,zJ,zK,HV.cells,fl0,fl2,flS,flS1,flI1,flU1,flU2,flF,hnt, h1, h7, h8, h9]; try exact rfl) ?_
     | refine r_ldn (by simp (disch:=first|decide|(simp only[zF,zG,hnt, h1, h7, h8, h9];decide)) only [zA,zB,zC,zD,zE,zF,zG,zH,zI,zJ,zK,HV.cells,fl0,fl2,flS,flS1,flI1,flU1,flU2,flF,hnt, h1, h7, h8, h9]; try exact rfl) (by first|assumption|(simp (disch:=omega) only [get_same,get_other,hnt, h1, h7, h8, h9]; first|done|exact rfl)) (by first|assumption|exact ow2 _ _ _ _|exact ow3 _ _ _ _ _ _|rfl|(simp only [zI,zJ,HV.cells,hnt, h1, h7, h8, h9]; exact rfl)) ?_
     | refine r_alloc ?_
     | refine r_st (cs' := _) (by simp (disch:=first|decide|(simp only[zF,zG,hnt, h1, h7, h8, h9];decide)) only [zA,zB,zC,zD,zE,zF,zG,zH,zI,zJ,zK,HV.cells,fl0,fl2,flS,flS1,flI1,flU1,flU2,flF,hnt, h1, h7, h8, h9]; try exact rfl) (by simp (disch:=first|decide|(simp only[zF,zG,hnt, h1, h7, h8, h9];decide)) only [zA,zB,zC,zD,zE,zF,zG,zH,zI,zJ,zK,HV.cells,fl0,fl2,flS,flS1,flI1,flU1,flU2,flF,hnt, h1, h7, h8, h9]; try exact rfl) (by first|assumption|(simp (disch:=omega) only [get_same,get_other,hnt, h1, h7, h8, h9]; first|done|exact rfl)) (by exact True.intro) (by rfl) (by rfl) (by first|assumption|exact ow2 _ _ _ _|exact ow3 _ _ _ _ _ _|rfl|(simp only [zI,zJ,HV.cells,hnt, h1, h7, h8, h9]; exact rfl)) (by omega) ?_
     | refine r_add (by simp (disch:=first|decide|(simp only[zF,zG,hnt, h1, h7, h8, h9];decide)) only [zA,zB,zC,zD,zE,zF,zG,zH,zI,zJ,zK,HV.cells,fl0,fl2,flS,flS1,flI1,flU1,flU2,flF,hnt, h1, h7, h8, h9]; try exact rfl) (by simp (disch:=first|decide|(simp only[zF,zG,hnt, h1, h7, h8, h9];decide)) only [zA,zB,zC,zD,zE,zF,zG,zH,zI,zJ,zK,HV.cells,fl0,fl2,flS,flS1,flI1,flU1,flU2,flF,hnt, h1, h7, h8, h9]; try exact rfl) (by omega) (by omega) ?_
     | refine r_lss (by simp (disch:=first|decide|(simp only[zF,zG,hnt, h1, h7, h8, h9];decide)) only [zA,zB,zC,zD,zE,zF,zG,zH,zI,zJ,zK,HV.cells,fl0,fl2,flS,flS1,flI1,flU1,flU2,flF,hnt, h1, h7, h8, h9]; try exact rfl) (by simp (disch:=first|decide|(simp only[zF,zG,hnt, h1, h7, h8, h9];decide)) only [zA,zB,zC,zD,zE,zF,zG,zH,zI,zJ,zK,HV.cells,fl0,fl2,flS,flS1,flI1,flU1,flU2,flF,hnt, h1, h7, h8, h9]; try exact rfl) (fun hc => ?_) (fun hc => ?_) <;> (try (exfalso; omega))
     | refine r_not1 (by simp (disch:=first|decide|(simp only[zF,zG,hnt, h1, h7, h8, h9];decide)) only [zA,zB,zC,zD,zE,zF,zG,zH,zI,zJ,zK,HV.cells,fl0,fl2,flS,flS1,flI1,flU1,flU2,flF,hnt, h1, h7, h8, h9]; try exact rfl) ?_
     | refine r_len (by simp (disch:=first|decide|(simp only[zF,zG,hnt, h1, h7, h8, h9];decide)) only [zA,zB,zC,zD,zE,zF,zG,zH,zI,zJ,zK,HV.cells,fl0,fl2,flS,flS1,flI1,flU1,flU2,flF,hnt, h1, h7, h8, h9]; try exact rfl) ?_
     | refine r_ixs (by simp (disch:=first|decide|(simp only[zF,zG,hnt, h1, h7, h8, h9];decide)) only [zA,zB,zC,zD,zE,zF,zG,zH,zI,zJ,zK,HV.cells,fl0,fl2,flS,flS1,flI1,flU1,flU2,flF,hnt, h1, h7, h8, h9]; try exact rfl) (by simp (disch:=first|decide|(simp only[zF,zG,hnt, h1, h7, h8, h9];decide)) only [zA,zB,zC,zD,zE,zF,zG,zH,zI,zJ,zK,HV.cells,fl0,fl2,flS,flS1,flI1,flU1,flU2,flF,hnt, h1, h7, h8, h9]; try exact rfl) (by omega) ?_
     | refine r_calld (by simp (disch:=first|decide|(simp only[zF,zG,hnt, h1, h7, h8, h9];decide)) only [zA,zB,zC,zD,zE,zF,zG,zH,zI,zJ,zK,HV.cells,fl0,fl2,flS,flS1,flI1,flU1,flU2,flF,hnt, h1, h7, h8, h9]; try exact rfl) (by simp (disch:=first|decide|(simp only[zF,zG,hnt, h1, h7, h8, h9];decide)) only [List.map_cons,List.map_nil,List.nil_append,List.cons_append,List.append_nil,zA,zB,zC,zD,zE,zF,zG,zH,zI,zJ,zK,HV.cells,fl0,fl2,flS,flS1,flI1,flU1,flU2,flF,hnt, h1, h7, h8, h9]; first|done|exact rfl) (hf' _ _ _ (by repeat' first|assumption|refine Ext.put ?_ (by omega) (by omega)|exact Ext.up (by assumption) (by omega)|exact Ext.nx (by assumption) (by omega))) (fun n' hn' hc => ?_) (fun n' hn' hc => ?_) <;> (try (exfalso; omega))
     | fail
    · refine loop97 (cp := cp) hlen hfl hf m (i + 1) _ _ _ (by omega) (by repeat' first|assumption|refine Ext.put ?_ (by omega) (by omega)|exact Ext.up (by assumption) (by omega)|exact Ext.nx (by assumption) (by omega)) (Row.ext hrow0 (h' := _) (n' := _) (by repeat' first|assumption|refine Ext.put ?_ (by omega) (by omega)|exact Ext.up (by assumption) (by omega)|exact Ext.nx (by assumption) (by omega))) ?_ ?_ ?_ ?_ ?_ ?_ (fun a' h' n2 g1 g2 g3 g4 => hq a' h' n2 g1 g2 g3 ?_) (fun a' h' n2 g1 g2 g3 g4 g5 => hr a' h' n2 g1 g2 g3 g4 ?_)
      all_goals try first|(simp only [zL,zM,zF,zG,hnt, hds, h1, h7, h8, h9];done)|(simp (disch:=first|decide|(simp only[zF,zG,hnt, hds, h1, h7, h8, h9];decide)) only [zA,zB,zC,zD,zE,zF,zG,zH,zI,zJ,zK,HV.cells,fl0,fl2,flS,flS1,flI1,flU1,flU2,flF,hnt, hds, h1, h7, h8, h9];first|done|exact rfl)|assumption
      · rw [hdrop]; intro r hr; rcases List.mem_cons.1 hr with e | e
        · rw [e]; exact hc
        · exact g4 r e
      · rw [hdrop]; exact fun e => g5 fun r hr => e r (List.mem_cons_of_mem _ hr)
    · refine hr _ _ _ (by repeat' first|assumption|refine Ext.put ?_ (by omega) (by omega)|exact Ext.up (by assumption) (by omega)|exact Ext.nx (by assumption) (by omega)) ?_ ?_ ?_ (fun e => hc (e _ (by rw [hdrop]; exact List.mem_cons_self ..)))
      all_goals first|(simp only [zL,zM,zF,zG,hnt, hds];done)|(simp (disch:=first|decide|(simp only[zF,zG,hnt, hds];decide)) only [zA,zB,zC,zD,zE,zF,zG,zH,zI,zJ,zK,HV.cells,fl0,fl2,flS,flS1,flI1,flU1,flU2,flF,hnt, hds];first|done|exact rfl)|assumption
theorem c_all97 {fl : Nat} {h : Tr HBlk} {nx : Nat} (hd : D h nx) {p : Option (Nat × Nat)} {l : List (Int × Int)} {n cp : Nat} {k : Nat} {first captured : List HV} {P : Int × Int → Prop} [DecidablePred P] (hn : n = l.length) (hlen : l.length < 1000000000)
    (hrow : Row renc 2 h nx p l) (hf : ∀ r ∈ l, ∀ fl h1 n1, Ext h nx h1 n1 → C LW fl k (first ++ [.agg (renc r)] ++ captured) ⟨h1, n1⟩ (Sc (· = .bool (decide (P r))) ⟨h1, n1⟩)) :
    C LW fl 97 [.slice p n cp, .func k first captured] ⟨h, nx⟩ (Sc (· = .bool (decide (∀ r ∈ l, P r))) ⟨h, nx⟩) := by
  subst hn
  refine c_in lw97 rfl rfl rfl ?_
  dsimp only [L97]
  repeat' first
   | refine r_nil ?_
   | refine th_n ?_
   | refine th_r ?_
   | refine th_e ?_
   | refine ib_n ?_
   | refine ib_r ?_
   | refine ib_e ?_
   | refine ib_x (by decide) ?_
   | refine w_exit ?_
   | refine w_seq ?_
   | refine w_reg ?_
   | refine w_ret ?_
   | refine w_skip ?_
   | refine w_block ?_
   | refine w_t (by simp (disch:=first|decide|(simp only[zF,zG];decide)) only [zA,zB,zC,zD,zE,zF,zG,zH,zI,zJ,zK,HV.cells,fl0,fl2,flS,flS1,flI1,flU1,flU2,flF]; first|done|exact rfl) ?_
   | refine w_f (by simp (disch:=first|decide|(simp only[zF,zG];decide)) only [zA,zB,zC,zD,zE,zF,zG,zH,zI,zJ,zK,HV.cells,fl0,fl2,flS,flS1,flI1,flU1,flU2,flF]; first|done|exact rfl) ?_
   | refine r_take (by simp (disch:=first|decide|(simp only[zF,zG];decide)) only [zA,zB,zC,zD,zE,zF,zG,zH,zI,zJ,zK,HV.cells,fl0,fl2,flS,flS1,flI1,flU1,flU2,flF]; first|done|exact rfl) ?_
   | refine r_drop (by simp (disch:=first|decide|(simp only[zF,zG,Bool.not_true,Bool.not_false];decide)) only [zA,zB,zC,zD,zE,zF,zG,zH,zI,zJ,zK,HV.cells,fl0,fl2,flS,flS1,flI1,flU1,flU2,flF,Bool.not_true,Bool.not_false]; first|done|exact rfl) ?_
   | refine r_move (by simp (disch:=first|decide|(simp only[zF,zG];decide)) only [zA,zB,zC,zD,zE,zF,zG,zH,zI,zJ,zK,HV.cells,fl0,fl2,flS,flS1,flI1,flU1,flU2,flF]; try exact rfl) ?_
   | refine r_ldn (by simp (disch:=first|decide|(simp only[zF,zG];decide)) only [zA,zB,zC,zD,zE,zF,zG,zH,zI,zJ,zK,HV.cells,fl0,fl2,flS,flS1,flI1,flU1,flU2,flF]; try exact rfl) (by first|assumption|(simp (disch:=omega) only [get_same,get_other]; first|done|exact rfl)) (by first|assumption|exact ow2 _ _ _ _|exact ow3 _ _ _ _ _ _|rfl|(simp only [zI,zJ,HV.cells]; exact rfl)) ?_
   | refine r_alloc ?_
   | refine r_st (cs' := _) (by simp (disch:=first|decide|(simp only[zF,zG];decide)) only [zA,zB,zC,zD,zE,zF,zG,zH,zI,zJ,zK,HV.cells,fl0,fl2,flS,flS1,flI1,flU1,flU2,flF]; try exact rfl) (by simp (disch:=first|decide|(simp only[zF,zG];decide)) only [zA,zB,zC,zD,zE,zF,zG,zH,zI,zJ,zK,HV.cells,fl0,fl2,flS,flS1,flI1,flU1,flU2,flF]; try exact rfl) (by first|assumption|(simp (disch:=omega) only [get_same,get_other]; first|done|exact rfl)) (by exact True.intro) (by rfl) (by rfl) (by first|assumption|exact ow2 _ _ _ _|exact ow3 _ _ _ _ _ _|rfl|(simp only [zI,zJ,HV.cells]; exact rfl)) (by omega) ?_
   | refine r_add (by simp (disch:=first|decide|(simp only[zF,zG];decide)) only [zA,zB,zC,zD,zE,zF,zG,zH,zI,zJ,zK,HV.cells,fl0,fl2,flS,flS1,flI1,flU1,flU2,flF]; try exact rfl) (by simp (disch:=first|decide|(simp only[zF,zG];decide)) only [zA,zB,zC,zD,zE,zF,zG,zH,zI,zJ,zK,HV.cells,fl0,fl2,flS,flS1,flI1,flU1,flU2,flF]; try exact rfl) (by omega) (by omega) ?_
   | refine r_lss (by simp (disch:=first|decide|(simp only[zF,zG];decide)) only [zA,zB,zC,zD,zE,zF,zG,zH,zI,zJ,zK,HV.cells,fl0,fl2,flS,flS1,flI1,flU1,flU2,flF]; try exact rfl) (by simp (disch:=first|decide|(simp only[zF,zG];decide)) only [zA,zB,zC,zD,zE,zF,zG,zH,zI,zJ,zK,HV.cells,fl0,fl2,flS,flS1,flI1,flU1,flU2,flF]; try exact rfl) (fun hc => ?_) (fun hc => ?_) <;> (try (exfalso; omega))
   | refine r_not1 (by simp (disch:=first|decide|(simp only[zF,zG];decide)) only [zA,zB,zC,zD,zE,zF,zG,zH,zI,zJ,zK,HV.cells,fl0,fl2,flS,flS1,flI1,flU1,flU2,flF]; try exact rfl) ?_
   | refine r_len (by simp (disch:=first|decide|(simp only[zF,zG];decide)) only [zA,zB,zC,zD,zE,zF,zG,zH,zI,zJ,zK,HV.cells,fl0,fl2,flS,flS1,flI1,flU1,flU2,flF]; try exact rfl) ?_
   | refine r_ixs (by simp (disch:=first|decide|(simp only[zF,zG];decide)) only [zA,zB,zC,zD,zE,zF,zG,zH,zI,zJ,zK,HV.cells,fl0,fl2,flS,flS1,flI1,flU1,flU2,flF]; try exact rfl) (by simp (disch:=first|decide|(simp only[zF,zG];decide)) only [zA,zB,zC,zD,zE,zF,zG,zH,zI,zJ,zK,HV.cells,fl0,fl2,flS,flS1,flI1,flU1,flU2,flF]; try exact rfl) (by omega) ?_
   | fail
  refine loop97 (cp := cp) hlen (Nat.le_refl _) hf l.length 0 _ _ _ (by omega) (Ext.refl hd) hrow ?_ ?_ ?_ ?_ ?_ ?_ (fun a' h' n2 g1 g2 g3 g4 => ?_) (fun a' h' n2 g1 g2 g3 g4 g5 => ?_)
  all_goals try first|(simp only [zL,zM,zF,zG];done)|(simp (disch:=first|decide|(simp only[zF,zG];decide)) only [zA,zB,zC,zD,zE,zF,zG,zH,zI,zJ,zK,HV.cells,fl0,fl2,flS,flS1,flI1,flU1,flU2,flF];first|done|exact rfl)|assumption
  · have hle := g1.le
    repeat' first
     | refine r_nil ?_
     | refine th_n ?_
     | refine th_r ?_
     | refine th_e ?_
     | refine ib_n ?_
     | refine ib_r ?_
     | refine ib_e ?_
     | refine ib_x (by decide) ?_
     | refine w_exit ?_
     | refine w_seq ?_
     | refine w_reg ?_
     | refine w_ret ?_
     | refine w_skip ?_
     | refine w_block ?_
     | refine w_t (by simp (disch:=first|decide|(simp only[zF,zG,g2];decide)) only [zA,zB,zC,zD,zE,zF,zG,zH,zI,zJ,zK,HV.cells,fl0,fl2,flS,flS1,flI1,flU1,flU2,flF,g2]; first|done|exact rfl) ?_
     | refine w_f (by simp (disch:=first|decide|(simp only[zF,zG,g2];decide)) only [zA,zB,zC,zD,zE,zF,zG,zH,zI,zJ,zK,HV.cells,fl0,fl2,flS,flS1,flI1,flU1,flU2,flF,g2]; first|done|exact rfl) ?_
     | refine r_take (by simp (disch:=first|decide|(simp only[zF,zG,g2];decide)) only [zA,zB,zC,zD,zE,zF,zG,zH,zI,zJ,zK,HV.cells,fl0,fl2,flS,flS1,flI1,flU1,flU2,flF,g2]; first|done|exact rfl) ?_
     | refine r_drop (by simp (disch:=first|decide|(simp only[zF,zG,Bool.not_true,Bool.not_false,g2];decide)) only [zA,zB,zC,zD,zE,zF,zG,zH,zI,zJ,zK,HV.cells,fl0,fl2,flS,flS1,flI1,flU1,flU2,flF,Bool.not_true,Bool.not_false,g2]; first|done|exact rfl) ?_
     | refine r_move (by simp (disch:=first|decide|(simp only[zF,zG,g2];decide)) only [zA,zB,zC,zD,zE,zF,zG,zH,zI,zJ,zK,HV.cells,fl0,fl2,flS,flS1,flI1,flU1,flU2,flF,g2]; try exact rfl) ?_
     | refine r_ldn (by simp (disch:=first|decide|(simp only[zF,zG,g2];decide)) only [zA,zB,zC,zD,zE,zF,zG,zH,zI,zJ,zK,HV.cells,fl0,fl2,flS,flS1,flI1,flU1,flU2,flF,g2]; try exact rfl) (by first|assumption|(simp (disch:=omega) only [get_same,get_other,g2]; first|done|exact rfl)) (by first|assumption|exact ow2 _ _ _ _|exact ow3 _ _ _ _ _ _|rfl|(simp only [zI,zJ,HV.cells,g2]; exact rfl)) ?_
     | refine r_alloc ?_
     | refine r_st (cs' := _) (by simp (disch:=first|decide|(simp only[zF,zG,g2];decide)) only [zA,zB,zC,zD,zE,zF,zG,zH,zI,zJ,zK,HV.cells,fl0,fl2,flS,flS1,flI1,flU1,flU2,flF,g2]; try exact rfl) (by simp (disch:=first|decide|(simp only[zF,zG,g2];decide)) only [zA,zB,zC,zD,zE,zF,zG,zH,zI,zJ,zK,HV.cells,fl0,fl2,flS,flS1,flI1,flU1,flU2,flF,g2]; try exact rfl) (by first|assumption|(simp (disch:=omega) only [get_same,get_other,g2]; first|done|exact rfl)) (by exact True.intro) (by rfl) (by rfl) (by first|assumption|exact ow2 _ _ _ _|exact ow3 _ _ _ _ _ _|rfl|(simp only [zI,zJ,HV.cells,g2]; exact rfl)) (by omega) ?_
     | refine r_add (by simp (disch:=first|decide|(simp only[zF,zG,g2];decide)) only [zA,zB,zC,zD,zE,zF,zG,zH,zI,zJ,zK,HV.cells,fl0,fl2,flS,flS1,flI1,flU1,flU2,flF,g2]; try exact rfl) (by simp (disch:=first|decide|(simp only[zF,zG,g2];decide)) only [zA,zB,zC,zD,zE,zF,zG,zH,zI,zJ,zK,HV.cells,fl0,fl2,flS,flS1,flI1,flU1,flU2,flF,g2]; try exact rfl) (by omega) (by omega) ?_
     | refine r_lss (by simp (disch:=first|decide|(simp only[zF,zG,g2];decide)) only [zA,zB,zC,zD,zE,zF,zG,zH,zI,zJ,zK,HV.cells,fl0,fl2,flS,flS1,flI1,flU1,flU2,flF,g2]; try exact rfl) (by simp (disch:=first|decide|(simp only[zF,zG,g2];decide)) only [zA,zB,zC,zD,zE,zF,zG,zH,zI,zJ,zK,HV.cells,fl0,fl2,flS,flS1,flI1,flU1,flU2,flF,g2]; try exact rfl) (fun hc => ?_) (fun hc => ?_) <;> (try (exfalso; omega))
     | refine r_not1 (by simp (disch:=first|decide|(simp only[zF,zG,g2];decide)) only [zA,zB,zC,zD,zE,zF,zG,zH,zI,zJ,zK,HV.cells,fl0,fl2,flS,flS1,flI1,flU1,flU2,flF,g2]; try exact rfl) ?_
     | refine r_len (by simp (disch:=first|decide|(simp only[zF,zG,g2];decide)) only [zA,zB,zC,zD,zE,zF,zG,zH,zI,zJ,zK,HV.cells,fl0,fl2,flS,flS1,flI1,flU1,flU2,flF,g2]; try exact rfl) ?_
     | refine r_ixs (by simp (disch:=first|decide|(simp only[zF,zG,g2];decide)) only [zA,zB,zC,zD,zE,zF,zG,zH,zI,zJ,zK,HV.cells,fl0,fl2,flS,flS1,flI1,flU1,flU2,flF,g2]; try exact rfl) (by simp (disch:=first|decide|(simp only[zF,zG,g2];decide)) only [zA,zB,zC,zD,zE,zF,zG,zH,zI,zJ,zK,HV.cells,fl0,fl2,flS,flS1,flI1,flU1,flU2,flF,g2]; try exact rfl) (by omega) ?_
     | fail
    refine fin_r (by simp only [zL, g3]) (by simp (disch:=first|decide|(simp only[zF,zG,g2];decide)) only [zA,zB,zC,zD,zE,zF,zG,zH,zI,zJ,zK,HV.cells,fl0,fl2,flS,flS1,flI1,flU1,flU2,flF,g2]; try exact rfl) (sc_flat rfl (by dsimp only; omega) ?_)
    rw [decide_eq_true (by simpa using g4)]
  · have hle := g1.le
    repeat' first
     | refine r_nil ?_
     | refine th_n ?_
     | refine th_r ?_
     | refine th_e ?_
     | refine ib_n ?_
     | refine ib_r ?_
     | refine ib_e ?_
     | refine ib_x (by decide) ?_
     | refine w_exit ?_
     | refine w_seq ?_
     | refine w_reg ?_
     | refine w_ret ?_
     | refine w_skip ?_
     | refine w_block ?_
     | refine w_t (by simp (disch:=first|decide|(simp only[zF,zG,g2];decide)) only [zA,zB,zC,zD,zE,zF,zG,zH,zI,zJ,zK,HV.cells,fl0,fl2,flS,flS1,flI1,flU1,flU2,flF,g2]; first|done|exact rfl) ?_
     | refine w_f (by simp (disch:=first|decide|(simp only[zF,zG,g2];decide)) only [zA,zB,zC,zD,zE,zF,zG,zH,zI,zJ,zK,HV.cells,fl0,fl2,flS,flS1,flI1,flU1,flU2,flF,g2]; first|done|exact rfl) ?_
     | refine r_take (by simp (disch:=first|decide|(simp only[zF,zG,g2];decide)) only [zA,zB,zC,zD,zE,zF,zG,zH,zI,zJ,zK,HV.cells,fl0,fl2,flS,flS1,flI1,flU1,flU2,flF,g2]; first|done|exact rfl) ?_
     | refine r_drop (by simp (disch:=first|decide|(simp only[zF,zG,Bool.not_true,Bool.not_false,g2];decide)) only [zA,zB,zC,zD,zE,zF,zG,zH,zI,zJ,zK,HV.cells,fl0,fl2,flS,flS1,flI1,flU1,flU2,flF,Bool.not_true,Bool.not_false,g2]; first|done|exact rfl) ?_
     | refine r_move (by simp (disch:=first|decide|(simp only[zF,zG,g2];decide)) only [zA,zB,zC,zD,zE,zF,zG,zH,zI,zJ,zK,HV.cells,fl0,fl2,flS,flS1,flI1,flU1,flU2,flF,g2]; try exact rfl) ?_
     | refine r_ldn (by simp (disch:=first|decide|(simp only[zF,zG,g2];decide)) only [zA,zB,zC,zD,zE,zF,zG,zH,zI,zJ,zK,HV.cells,fl0,fl2,flS,flS1,flI1,flU1,flU2,flF,g2]; try exact rfl) (by first|assumption|(simp (disch:=omega) only [get_same,get_other,g2]; first|done|exact rfl)) (by first|assumption|exact ow2 _ _ _ _|exact ow3 _ _ _ _ _ _|rfl|(simp only [zI,zJ,HV.cells,g2]; exact rfl)) ?_
     | refine r_alloc ?_
     | refine r_st (cs' := _) (by simp (disch:=first|decide|(simp only[zF,zG,g2];decide)) only [zA,zB,zC,zD,zE,zF,zG,zH,zI,zJ,zK,HV.cells,fl0,fl2,flS,flS1,flI1,flU1,flU2,flF,g2]; try exact rfl) (by simp (disch:=first|decide|(simp only[zF,zG,g2];decide)) only [zA,zB,zC,zD,zE,zF,zG,zH,zI,zJ,zK,HV.cells,fl0,fl2,flS,flS1,flI1,flU1,flU2,flF,g2]; try exact rfl) (by first|assumption|(simp (disch:=omega) only [get_same,get_other,g2]; first|done|exact rfl)) (by exact True.intro) (by rfl) (by rfl) (by first|assumption|exact ow2 _ _ _ _|exact ow3 _ _ _ _ _ _|rfl|(simp only [zI,zJ,HV.cells,g2]; exact rfl)) (by omega) ?_
     | refine r_add (by simp (disch:=first|decide|(simp only[zF,zG,g2];decide)) only [zA,zB,zC,zD,zE,zF,zG,zH,zI,zJ,zK,HV.cells,fl0,fl2,flS,flS1,flI1,flU1,flU2,flF,g2]; try exact rfl) (by simp (disch:=first|decide|(simp only[zF,zG,g2];decide)) only [zA,zB,zC,zD,zE,zF,zG,zH,zI,zJ,zK,HV.cells,fl0,fl2,flS,flS1,flI1,flU1,flU2,flF,g2]; try exact rfl) (by omega) (by omega) ?_
     | refine r_lss (by simp (disch:=first|decide|(simp only[zF,zG,g2];decide)) only [zA,zB,zC,zD,zE,zF,zG,zH,zI,zJ,zK,HV.cells,fl0,fl2,flS,flS1,flI1,flU1,flU2,flF,g2]; try exact rfl) (by simp (disch:=first|decide|(simp only[zF,zG,g2];decide)) only [zA,zB,zC,zD,zE,zF,zG,zH,zI,zJ,zK,HV.cells,fl0,fl2,flS,flS1,flI1,flU1,flU2,flF,g2]; try exact rfl) (fun hc => ?_) (fun hc => ?_) <;> (try (exfalso; omega))
     | refine r_not1 (by simp (disch:=first|decide|(simp only[zF,zG,g2];decide)) only [zA,zB,zC,zD,zE,zF,zG,zH,zI,zJ,zK,HV.cells,fl0,fl2,flS,flS1,flI1,flU1,flU2,flF,g2]; try exact rfl) ?_
     | refine r_len (by simp (disch:=first|decide|(simp only[zF,zG,g2];decide)) only [zA,zB,zC,zD,zE,zF,zG,zH,zI,zJ,zK,HV.cells,fl0,fl2,flS,flS1,flI1,flU1,flU2,flF,g2]; try exact rfl) ?_
     | refine r_ixs (by simp (disch:=first|decide|(simp only[zF,zG,g2];decide)) only [zA,zB,zC,zD,zE,zF,zG,zH,zI,zJ,zK,HV.cells,fl0,fl2,flS,flS1,flI1,flU1,flU2,flF,g2]; try exact rfl) (by simp (disch:=first|decide|(simp only[zF,zG,g2];decide)) only [zA,zB,zC,zD,zE,zF,zG,zH,zI,zJ,zK,HV.cells,fl0,fl2,flS,flS1,flI1,flU1,flU2,flF,g2]; try exact rfl) (by omega) ?_
     | fail
    refine fin_r (by simp only [zL, g3]) (by simp (disch:=first|decide|(simp only[zF,zG,g2, g4];decide)) only [zA,zB,zC,zD,zE,zF,zG,zH,zI,zJ,zK,HV.cells,fl0,fl2,flS,flS1,flI1,flU1,flU2,flF,g2, g4]; try exact rfl) (sc_flat rfl (by dsimp only; omega) ?_)
    rw [decide_eq_false (by simpa using g5)]
def LOk (l : List (Int × Int)) : Prop := ∀ s ∈ l, SOk s.1 s.2
instance (l : List (Int × Int)) : Decidable (LOk l) := by unfold LOk; infer_instance
def chkS (l : List (Int × Int)) : Int := if l.length ≤ 8 then (if LOk l then 0 else 1) else 3
/- 74 -/
theorem c_checkScales {fl : Nat} {h : Tr HBlk} {nx : Nat} (hd : D h nx) {p : Option (Nat × Nat)} {l : List (Int × Int)} {n cp : Nat} (hn : n = l.length) (hlen : l.length < 1000000000) (hrow : Row renc 2 h nx p l) :
    C LW fl 74 [.slice p n cp] ⟨h, nx⟩ (Sc (· = i64 (chkS l)) ⟨h, nx⟩) := by
  subst hn
  have cA : ∀ fl h' n', Ext h nx h' n' → C LW fl 97 [.slice p l.length cp, .func 52 [] []] ⟨h', n'⟩ (Sc (· = .bool (decide (LOk l))) ⟨h', n'⟩) := fun fl h' n' e => c_all97 (P := fun s => SOk s.1 s.2) e.d rfl hlen (hrow.ext e) (fun r _ fl h1 n1 _ => c_svalid)
  refine c_in lw74 rfl rfl rfl ?_
  dsimp only [L74]
  repeat' first
   | refine r_nil ?_
   | refine th_n ?_
   | refine th_r ?_
   | refine w_seq ?_
   | refine w_reg ?_
   | refine w_ret ?_
   | refine w_skip ?_
   | refine w_t (by simp (disch:=first|decide|(simp only[zF,zG];decide)) only [zA,zB,zC,zD,zE,zF,zG,zH,zI,zJ,zK,HV.cells,fl0,fl2,flS,flS1,flI1,flU1,flU2,flF]; first|done|exact rfl) ?_
   | refine w_f (by simp (disch:=first|decide|(simp only[zF,zG];decide)) only [zA,zB,zC,zD,zE,zF,zG,zH,zI,zJ,zK,HV.cells,fl0,fl2,flS,flS1,flI1,flU1,flU2,flF]; first|done|exact rfl) ?_
   | refine r_move (by simp (disch:=first|decide|(simp only[zF,zG];decide)) only [zA,zB,zC,zD,zE,zF,zG,zH,zI,zJ,zK,HV.cells,fl0,fl2,flS,flS1,flI1,flU1,flU2,flF]; try exact rfl) ?_
   | refine r_gtr (by simp (disch:=first|decide|(simp only[zF,zG];decide)) only [zA,zB,zC,zD,zE,zF,zG,zH,zI,zJ,zK,HV.cells,fl0,fl2,flS,flS1,flI1,flU1,flU2,flF]; try exact rfl) (by simp (disch:=first|decide|(simp only[zF,zG];decide)) only [zA,zB,zC,zD,zE,zF,zG,zH,zI,zJ,zK,HV.cells,fl0,fl2,flS,flS1,flI1,flU1,flU2,flF]; try exact rfl) (fun hc => ?_) (fun hc => ?_) <;> (try (exfalso; omega))
   | refine r_not1 (by simp (disch:=first|decide|(simp only[zF,zG];decide)) only [zA,zB,zC,zD,zE,zF,zG,zH,zI,zJ,zK,HV.cells,fl0,fl2,flS,flS1,flI1,flU1,flU2,flF]; try exact rfl) ?_
   | refine r_len (by simp (disch:=first|decide|(simp only[zF,zG];decide)) only [zA,zB,zC,zD,zE,zF,zG,zH,zI,zJ,zK,HV.cells,fl0,fl2,flS,flS1,flI1,flU1,flU2,flF]; try exact rfl) ?_
   | refine r_calld (by simp (disch:=first|decide|(simp only[zF,zG];decide)) only [zA,zB,zC,zD,zE,zF,zG,zH,zI,zJ,zK,HV.cells,fl0,fl2,flS,flS1,flI1,flU1,flU2,flF]; try exact rfl) (by simp (disch:=first|decide|(simp only[zF,zG];decide)) only [List.map_cons,List.map_nil,List.nil_append,List.cons_append,List.append_nil,zA,zB,zC,zD,zE,zF,zG,zH,zI,zJ,zK,HV.cells,fl0,fl2,flS,flS1,flI1,flU1,flU2,flF]; first|done|exact rfl) (cA _ _ _ (by repeat' first|assumption|refine Ext.put ?_ (by omega) (by omega)|exact Ext.up (by assumption) (by omega)|exact Ext.nx (by assumption) (by omega))) (fun n' hn' hc => ?_) (fun n' hn' hc => ?_) <;> (try (exfalso; omega))
   | fail
  all_goals
    refine fin_r (by simp only [zL,zM]) (by simp (disch:=first|decide|(simp only[zF,zG];decide)) only [zA,zB,zC,zD,zE,zF,zG,zH,zI,zJ,zK,HV.cells,fl0,fl2,flS,flS1,flI1,flU1,flU2,flF]; try exact rfl) (sc_flat rfl (by dsimp only; omega) ?_)
    unfold chkS
    first
      | rw [if_neg (by omega)]
      | rw [if_pos (by omega), if_pos hc]
      | rw [if_pos (by omega), if_neg hc]
def chkR (l : List (Int × Int)) (r : Int × Int) : Int := if chkS l = 0 then (if l.length = 0 then 1 else if ROk r.1 r.2 then 0 else 2) else chkS l
/- 53 -/
theorem c_checkReadings {fl : Nat} {h : Tr HBlk} {nx : Nat} (hd : D h nx) {p : Option (Nat × Nat)} {l : List (Int × Int)} {r : Int × Int} {n cp : Nat} (hn : n = l.length) (hlen : l.length < 1000000000) (hrow : Row renc 2 h nx p l) :
    C LW fl 53 [.agg (renc r), .slice p n cp] ⟨h, nx⟩ (Sc (· = i64 (chkR l r)) ⟨h, nx⟩) := by
  subst hn
  have cA : ∀ fl h' n', Ext h nx h' n' → C LW fl 74 [.slice p l.length cp] ⟨h', n'⟩ (Sc (· = i64 (chkS l)) ⟨h', n'⟩) := fun fl h' n' e => c_checkScales e.d rfl hlen (hrow.ext e)
  have cL : ∀ fl h' n', C LW fl 64 [.agg (renc r), .agg [i64 (-1000000), i64 1000000]] ⟨h', n'⟩ (Sc (· = .bool (decide (ROk r.1 r.2))) ⟨h', n'⟩) := fun fl h' n' => by
    have := c_liesIn (fl := fl) (h := h') (nx := n') (a := r.1) (b := r.2) (lo := -1000000) (hi := 1000000)
    rwa [show decide (r.1 ≤ r.2 ∧ ((-1000000 : Int) ≤ r.1 ∧ r.1 ≤ 1000000) ∧ ((-1000000 : Int) ≤ r.2 ∧ r.2 ≤ 1000000)) = decide (ROk r.1 r.2) by congr 1; unfold ROk; exact propext ⟨fun h => by omega, fun h => by omega⟩] at this
  refine c_in lw53 rfl rfl rfl ?_
  dsimp only [L53]
  repeat' first
   | refine r_nil ?_
   | refine th_n ?_
   | refine th_r ?_
   | refine w_seq ?_
   | refine w_reg ?_
   | refine w_ret ?_
   | refine w_skip ?_
   | refine w_t (by simp (disch:=first|decide|(simp only[zF,zG];decide)) only [zA,zB,zC,zD,zE,zF,zG,zH,zI,zJ,zK,HV.cells,fl0,fl2,flS,flS1,flI1,flU1,flU2,flF]; first|done|exact rfl) ?_
   | refine w_f (by simp (disch:=first|decide|(simp only[zF,zG];decide)) only [zA,zB,zC,zD,zE,zF,zG,zH,zI,zJ,zK,HV.cells,fl0,fl2,flS,flS1,flI1,flU1,flU2,flF]; first|done|exact rfl) ?_
   | refine r_move (by simp (disch:=first|decide|(simp only[zF,zG];decide)) only [zA,zB,zC,zD,zE,zF,zG,zH,zI,zJ,zK,HV.cells,fl0,fl2,flS,flS1,flI1,flU1,flU2,flF]; try exact rfl) ?_
   | refine r_ldn (by simp (disch:=first|decide|(simp only[zF,zG];decide)) only [zA,zB,zC,zD,zE,zF,zG,zH,zI,zJ,zK,HV.cells,fl0,fl2,flS,flS1,flI1,flU1,flU2,flF]; try exact rfl) (by first|assumption|(simp (disch:=omega) only [get_same,get_other]; first|done|exact rfl)) (by first|assumption|exact ow2 _ _ _ _|exact ow3 _ _ _ _ _ _|rfl|(simp only [zI,zJ,HV.cells]; exact rfl)) ?_
   | refine r_box (by simp (disch:=first|decide|(simp only[zF,zG];decide)) only [zA,zB,zC,zD,zE,zF,zG,zH,zI,zJ,zK,HV.cells,fl0,fl2,flS,flS1,flI1,flU1,flU2,flF]; try exact rfl) ?_
   | refine r_eq (by simp (disch:=first|decide|(simp only[zF,zG];decide)) only [zA,zB,zC,zD,zE,zF,zG,zH,zI,zJ,zK,HV.cells,fl0,fl2,flS,flS1,flI1,flU1,flU2,flF]; try exact rfl) (by simp (disch:=first|decide|(simp only[zF,zG];decide)) only [zA,zB,zC,zD,zE,zF,zG,zH,zI,zJ,zK,HV.cells,fl0,fl2,flS,flS1,flI1,flU1,flU2,flF]; try exact rfl) (fun hc => ?_) (fun hc => ?_) <;> (try (exfalso; omega))
   | refine r_ne (by simp (disch:=first|decide|(simp only[zF,zG];decide)) only [zA,zB,zC,zD,zE,zF,zG,zH,zI,zJ,zK,HV.cells,fl0,fl2,flS,flS1,flI1,flU1,flU2,flF]; try exact rfl) (by simp (disch:=first|decide|(simp only[zF,zG];decide)) only [zA,zB,zC,zD,zE,zF,zG,zH,zI,zJ,zK,HV.cells,fl0,fl2,flS,flS1,flI1,flU1,flU2,flF]; try exact rfl) (fun hc => ?_) (fun hc => ?_) <;> (try (exfalso; omega))
   | refine r_eqb (by simp (disch:=first|decide|(simp only[zF,zG];decide)) only [zA,zB,zC,zD,zE,zF,zG,zH,zI,zJ,zK,HV.cells,fl0,fl2,flS,flS1,flI1,flU1,flU2,flF]; try exact rfl) (by simp (disch:=first|decide|(simp only[zF,zG];decide)) only [zA,zB,zC,zD,zE,zF,zG,zH,zI,zJ,zK,HV.cells,fl0,fl2,flS,flS1,flI1,flU1,flU2,flF]; try exact rfl) ?_
   | refine r_not1 (by simp (disch:=first|decide|(simp only[zF,zG];decide)) only [zA,zB,zC,zD,zE,zF,zG,zH,zI,zJ,zK,HV.cells,fl0,fl2,flS,flS1,flI1,flU1,flU2,flF]; try exact rfl) ?_
   | refine r_len (by simp (disch:=first|decide|(simp only[zF,zG];decide)) only [zA,zB,zC,zD,zE,zF,zG,zH,zI,zJ,zK,HV.cells,fl0,fl2,flS,flS1,flI1,flU1,flU2,flF]; try exact rfl) ?_
   | refine r_calls (by simp (disch:=first|decide|(simp only[zF,zG];decide)) only [zA,zB,zC,zD,zE,zF,zG,zH,zI,zJ,zK,HV.cells,fl0,fl2,flS,flS1,flI1,flU1,flU2,flF]; try exact rfl) (by simp (disch:=first|decide|(simp only[zF,zG];decide)) only [List.map_cons,List.map_nil,List.nil_append,List.cons_append,List.append_nil,zA,zB,zC,zD,zE,zF,zG,zH,zI,zJ,zK,HV.cells,fl0,fl2,flS,flS1,flI1,flU1,flU2,flF]; first|done|exact rfl) (cA _ _ _ (by repeat' first|assumption|refine Ext.put ?_ (by omega) (by omega)|exact Ext.up (by assumption) (by omega)|exact Ext.nx (by assumption) (by omega))) (fun n' hn' => ?_)
   | refine r_calls (by simp (disch:=first|decide|(simp only[zF,zG];decide)) only [zA,zB,zC,zD,zE,zF,zG,zH,zI,zJ,zK,HV.cells,fl0,fl2,flS,flS1,flI1,flU1,flU2,flF]; try exact rfl) (by simp (disch:=first|decide|(simp only[zF,zG];decide)) only [List.map_cons,List.map_nil,List.nil_append,List.cons_append,List.append_nil,zA,zB,zC,zD,zE,zF,zG,zH,zI,zJ,zK,HV.cells,fl0,fl2,flS,flS1,flI1,flU1,flU2,flF]; first|done|exact rfl) c_bor (fun n' hn' => ?_)
   | refine r_calld (by simp (disch:=first|decide|(simp only[zF,zG];decide)) only [zA,zB,zC,zD,zE,zF,zG,zH,zI,zJ,zK,HV.cells,fl0,fl2,flS,flS1,flI1,flU1,flU2,flF]; try exact rfl) (by simp (disch:=first|decide|(simp only[zF,zG];decide)) only [List.map_cons,List.map_nil,List.nil_append,List.cons_append,List.append_nil,zA,zB,zC,zD,zE,zF,zG,zH,zI,zJ,zK,HV.cells,fl0,fl2,flS,flS1,flI1,flU1,flU2,flF]; first|done|exact rfl) (cL _ _ _) (fun n' hn' hc => ?_) (fun n' hn' hc => ?_) <;> (try (exfalso; omega))
   | refine w_draw (by omega) (by (repeat' first|assumption|refine D.upd ?_ (by omega)|exact D.mono (by assumption) (by omega)) <;> fail) ?_
   | refine d_nil ?_
   | refine d_rest rfl ?_
   | refine d_al2 rfl rfl rfl ?_
   | refine d_bs rfl rfl ?_
   | refine d_box rfl rfl ?_
   | refine d_alloc rfl rfl ?_
   | refine d_one rfl rfl ?_
   | refine d_next (by omega) ?_
   | refine d_laid ?_
   | fail
  all_goals
    refine fin_r (by simp only [zL,zM]) (by simp (disch:=first|decide|(simp only[zF,zG];decide)) only [zA,zB,zC,zD,zE,zF,zG,zH,zI,zJ,zK,HV.cells,fl0,fl2,flS,flS1,flI1,flU1,flU2,flF]; try exact rfl) (sc_flat rfl (by dsimp only; omega) ?_)
    unfold chkR
    first
      | rw [if_neg (by assumption)]
      | rw [if_pos (by assumption), if_pos (by omega)]
      | rw [if_pos (by assumption), if_neg (by omega), if_pos (by assumption)]
      | rw [if_pos (by assumption), if_neg (by omega), if_neg (by assumption)]
end Go.Hx

/- Layer 3: through scales; the thousandths of readings. -/
namespace Go.Hx
set_option linter.unusedSimpArgs false
set_option linter.unusedVariables false
set_option maxRecDepth 20000
set_option maxHeartbeats 4000000
attribute [local irreducible] W R C thenH inBlockH
theorem chk_zero {l : List (Int × Int)} {r : Int × Int} (h : chkR l r = 0) : l.length ≤ 8 ∧ LOk l ∧ l.length ≠ 0 ∧ ROk r.1 r.2 := by
  unfold chkR chkS at h
  by_cases h1 : l.length ≤ 8
  · by_cases h2 : LOk l
    · rw [if_pos h1, if_pos h2, if_pos rfl] at h
      by_cases h3 : l.length = 0
      · rw [if_pos h3] at h; omega
      · rw [if_neg h3] at h
        by_cases h4 : ROk r.1 r.2
        · exact ⟨h1, h2, h3, h4⟩
        · rw [if_neg h4] at h; omega
    · rw [if_pos h1, if_neg h2, if_neg (by decide)] at h; omega
  · rw [if_neg h1, if_neg (by decide)] at h; omega
/-- The least of some numbers. -/
def lst (x : Int) (ys : List Int) : Int := ys.foldl min x
/- 78 -/
theorem loop78 {lp : Nat → Option LFunc} {fl : Nat} {h : Tr HBlk} {nx : Nat} {Q : HExit → HAct → HS → Prop} {p : Option (Nat × Nat)} {ys : List Int} {c : Nat} (hrow : Row ienc 1 h nx p ys) (hlen : ys.length < 1000000000) :
    ∀ (m i : Nat) (cur : Int) (a : HAct), m + i = ys.length → a.nt = 19 → a.defers = [] → a.tmp 0 = i64 cur → a.tmp 7 = .slice p ys.length c → a.tmp 8 = i64 ys.length → a.tmp 9 = i64 i →
      (∀ a', a'.nt = 19 → a'.defers = [] → a'.tmp 0 = i64 (lst cur (ys.drop i)) → Q .normal a' ⟨h, nx⟩) → W lp fl none (.loop L78w0) (inBlockH 0 Q) a ⟨h, nx⟩
  | 0, i, cur, a, hm, hnt, hds, h0, h7, h8, h9, hq => by
    refine w_it (show L78w0 = _ by unfold L78w0; exact rfl) ?_
    repeat' first
     | refine r_nil ?_
     | refine th_n ?_
     | refine th_r ?_
     | refine th_e ?_
     | refine ib_n ?_
     | refine ib_r ?_
     | refine ib_e ?_
     | refine ib_x (by decide) ?_
     | refine w_exit ?_
     | refine w_seq ?_
     | refine w_reg ?_
     | refine w_ret ?_
     | refine w_skip ?_
     | refine w_block ?_
     | refine w_t (by simp (disch:=first|decide|(simp only[zF,zG,hnt, h0, h7, h8, h9];decide)) only [zA,zB,zC,zD,zE,zF,zG,zH,zI,zJ,zK,HV.cells,fl0,fl2,flS,flS1,flI1,flU1,flU2,flF,hnt, h0, h7, h8, h9]; first|done|exact rfl) ?_
     | refine w_f (by simp (disch:=first|decide|(simp only[zF,zG,hnt, h0, h7, h8, h9];decide)) only [zA,zB,zC,zD,zE,zF,zG,zH,zI,zJ,zK,HV.cells,fl0,fl2,flS,flS1,flI1,flU1,flU2,flF,hnt, h0, h7, h8, h9]; first|done|exact rfl) ?_
     | refine r_move (by simp (disch:=first|decide|(simp only[zF,zG,hnt, h0, h7, h8, h9];decide)) only [zA,zB,zC,zD,zE,zF,zG,zH,zI,zJ,zK,HV.cells,fl0,fl2,flS,flS1,flI1,flU1,flU2,flF,hnt, h0, h7, h8, h9]; try exact rfl) ?_
     | refine r_ld1 (by simp (disch:=first|decide|(simp only[zF,zG,hnt, h0, h7, h8, h9];decide)) only [zA,zB,zC,zD,zE,zF,zG,zH,zI,zJ,zK,HV.cells,fl0,fl2,flS,flS1,flI1,flU1,flU2,flF,hnt, h0, h7, h8, h9]; try exact rfl) (by first|assumption|(simp (disch:=omega) only [get_same,get_other,hnt, h0, h7, h8, h9]; first|done|exact rfl)) (by first|assumption|exact ow2 _ _ _ _|exact ow3 _ _ _ _ _ _|rfl|(simp only [zI,zJ,HV.cells,hnt, h0, h7, h8, h9]; exact rfl)) ?_
     | refine r_add (by simp (disch:=first|decide|(simp only[zF,zG,hnt, h0, h7, h8, h9];decide)) only [zA,zB,zC,zD,zE,zF,zG,zH,zI,zJ,zK,HV.cells,fl0,fl2,flS,flS1,flI1,flU1,flU2,flF,hnt, h0, h7, h8, h9]; try exact rfl) (by simp (disch:=first|decide|(simp only[zF,zG,hnt, h0, h7, h8, h9];decide)) only [zA,zB,zC,zD,zE,zF,zG,zH,zI,zJ,zK,HV.cells,fl0,fl2,flS,flS1,flI1,flU1,flU2,flF,hnt, h0, h7, h8, h9]; try exact rfl) (by omega) (by omega) ?_
     | refine r_lss (by simp (disch:=first|decide|(simp only[zF,zG,hnt, h0, h7, h8, h9];decide)) only [zA,zB,zC,zD,zE,zF,zG,zH,zI,zJ,zK,HV.cells,fl0,fl2,flS,flS1,flI1,flU1,flU2,flF,hnt, h0, h7, h8, h9]; try exact rfl) (by simp (disch:=first|decide|(simp only[zF,zG,hnt, h0, h7, h8, h9];decide)) only [zA,zB,zC,zD,zE,zF,zG,zH,zI,zJ,zK,HV.cells,fl0,fl2,flS,flS1,flI1,flU1,flU2,flF,hnt, h0, h7, h8, h9]; try exact rfl) (fun hc => ?_) (fun hc => ?_) <;> (try (exfalso; omega))
     | refine r_len (by simp (disch:=first|decide|(simp only[zF,zG,hnt, h0, h7, h8, h9];decide)) only [zA,zB,zC,zD,zE,zF,zG,zH,zI,zJ,zK,HV.cells,fl0,fl2,flS,flS1,flI1,flU1,flU2,flF,hnt, h0, h7, h8, h9]; try exact rfl) ?_
     | refine r_ixs (by simp (disch:=first|decide|(simp only[zF,zG,hnt, h0, h7, h8, h9];decide)) only [zA,zB,zC,zD,zE,zF,zG,zH,zI,zJ,zK,HV.cells,fl0,fl2,flS,flS1,flI1,flU1,flU2,flF,hnt, h0, h7, h8, h9]; try exact rfl) (by simp (disch:=first|decide|(simp only[zF,zG,hnt, h0, h7, h8, h9];decide)) only [zA,zB,zC,zD,zE,zF,zG,zH,zI,zJ,zK,HV.cells,fl0,fl2,flS,flS1,flI1,flU1,flU2,flF,hnt, h0, h7, h8, h9]; try exact rfl) (by omega) ?_
     | fail
    refine hq _ ?_ ?_ ?_
    · simp only [put_nt, hnt]
    · simp only [put_defers, hds]
    · rw [List.drop_of_length_le (by omega)]; exact (by simp (disch:=first|decide|(simp only[zF,zG,hnt, h0];decide)) only [zA,zB,zC,zD,zE,zF,zG,zH,zI,zJ,zK,HV.cells,fl0,fl2,flS,flS1,flI1,flU1,flU2,flF,hnt, h0]; try exact rfl)
  | m + 1, i, cur, a, hm, hnt, hds, h0, h7, h8, h9, hq => by
    have hi : i < ys.length := by omega
    obtain ⟨b, o, cs, k, rfl, hb, hg, hcs⟩ := hrow (by intro e; rw [e] at hi; simp at hi)
    have hy : ys[i]? = some ys[i] := by simp [hi]
    have e0 := take_at (hcs i _ hy) (j := 0) rfl
    refine w_it (show L78w0 = _ by unfold L78w0; exact rfl) ?_
    repeat' first
     | refine r_nil ?_
     | refine th_n ?_
     | refine th_r ?_
     | refine th_e ?_
     | refine ib_n ?_
     | refine ib_r ?_
     | refine ib_e ?_
     | refine ib_x (by decide) ?_
     | refine w_exit ?_
     | refine w_seq ?_
     | refine w_reg ?_
     | refine w_ret ?_
     | refine w_skip ?_
     | refine w_block ?_
     | refine w_t (by simp (disch:=first|decide|(simp only[zF,zG,hnt, h0, h7, h8, h9];decide)) only [zA,zB,zC,zD,zE,zF,zG,zH,zI,zJ,zK,HV.cells,fl0,fl2,flS,flS1,flI1,flU1,flU2,flF,hnt, h0, h7, h8, h9]; first|done|exact rfl) ?_
     | refine w_f (by simp (disch:=first|decide|(simp only[zF,zG,hnt, h0, h7, h8, h9];decide)) only [zA,zB,zC,zD,zE,zF,zG,zH,zI,zJ,zK,HV.cells,fl0,fl2,flS,flS1,flI1,flU1,flU2,flF,hnt, h0, h7, h8, h9]; first|done|exact rfl) ?_
     | refine r_move (by simp (disch:=first|decide|(simp only[zF,zG,hnt, h0, h7, h8, h9];decide)) only [zA,zB,zC,zD,zE,zF,zG,zH,zI,zJ,zK,HV.cells,fl0,fl2,flS,flS1,flI1,flU1,flU2,flF,hnt, h0, h7, h8, h9]; try exact rfl) ?_
     | refine r_ld1 (by simp (disch:=first|decide|(simp only[zF,zG,hnt, h0, h7, h8, h9];decide)) only [zA,zB,zC,zD,zE,zF,zG,zH,zI,zJ,zK,HV.cells,fl0,fl2,flS,flS1,flI1,flU1,flU2,flF,hnt, h0, h7, h8, h9]; try exact rfl) (by first|assumption|(simp (disch:=omega) only [get_same,get_other,hnt, h0, h7, h8, h9]; first|done|exact rfl)) (by first|assumption|exact ow2 _ _ _ _|exact ow3 _ _ _ _ _ _|rfl|(simp only [zI,zJ,HV.cells,hnt, h0, h7, h8, h9]; exact rfl)) ?_
     | refine r_add (by simp (disch:=first|decide|(simp only[zF,zG,hnt, h0, h7, h8, h9];decide)) only [zA,zB,zC,zD,zE,zF,zG,zH,zI,zJ,zK,HV.cells,fl0,fl2,flS,flS1,flI1,flU1,flU2,flF,hnt, h0, h7, h8, h9]; try exact rfl) (by simp (disch:=first|decide|(simp only[zF,zG,hnt, h0, h7, h8, h9];decide)) only [zA,zB,zC,zD,zE,zF,zG,zH,zI,zJ,zK,HV.cells,fl0,fl2,flS,flS1,flI1,flU1,flU2,flF,hnt, h0, h7, h8, h9]; try exact rfl) (by omega) (by omega) ?_
     | refine r_lss (by simp (disch:=first|decide|(simp only[zF,zG,hnt, h0, h7, h8, h9];decide)) only [zA,zB,zC,zD,zE,zF,zG,zH,zI,zJ,zK,HV.cells,fl0,fl2,flS,flS1,flI1,flU1,flU2,flF,hnt, h0, h7, h8, h9]; try exact rfl) (by simp (disch:=first|decide|(simp only[zF,zG,hnt, h0, h7, h8, h9];decide)) only [zA,zB,zC,zD,zE,zF,zG,zH,zI,zJ,zK,HV.cells,fl0,fl2,flS,flS1,flI1,flU1,flU2,flF,hnt, h0, h7, h8, h9]; try exact rfl) (fun hc => ?_) (fun hc => ?_) <;> (try (exfalso; omega))
     | refine r_len (by simp (disch:=first|decide|(simp only[zF,zG,hnt, h0, h7, h8, h9];decide)) only [zA,zB,zC,zD,zE,zF,zG,zH,zI,zJ,zK,HV.cells,fl0,fl2,flS,flS1,flI1,flU1,flU2,flF,hnt, h0, h7, h8, h9]; try exact rfl) ?_
     | refine r_ixs (by simp (disch:=first|decide|(simp only[zF,zG,hnt, h0, h7, h8, h9];decide)) only [zA,zB,zC,zD,zE,zF,zG,zH,zI,zJ,zK,HV.cells,fl0,fl2,flS,flS1,flI1,flU1,flU2,flF,hnt, h0, h7, h8, h9]; try exact rfl) (by simp (disch:=first|decide|(simp only[zF,zG,hnt, h0, h7, h8, h9];decide)) only [zA,zB,zC,zD,zE,zF,zG,zH,zI,zJ,zK,HV.cells,fl0,fl2,flS,flS1,flI1,flU1,flU2,flF,hnt, h0, h7, h8, h9]; try exact rfl) (by omega) ?_
     | fail
    · refine loop78 (c := c) hrow hlen m (i + 1) ys[i] _ (by omega) ?_ ?_ ?_ ?_ ?_ ?_ (fun a' g1 g2 g3 => hq a' g1 g2 ?_)
      all_goals try first|(simp only [zL,zM,zF,zG,hnt, hds, h0, h7, h8, h9];done)|(simp (disch:=first|decide|(simp only[zF,zG,hnt, hds, h0, h7, h8, h9];decide)) only [zA,zB,zC,zD,zE,zF,zG,zH,zI,zJ,zK,HV.cells,fl0,fl2,flS,flS1,flI1,flU1,flU2,flF,hnt, hds, h0, h7, h8, h9];first|done|exact rfl)|assumption
      rw [List.drop_eq_getElem_cons hi]
      show _ = i64 (lst (min cur ys[i]) _)
      rw [g3, show min cur ys[i] = ys[i] by omega]
    · refine loop78 (c := c) hrow hlen m (i + 1) cur _ (by omega) ?_ ?_ ?_ ?_ ?_ ?_ (fun a' g1 g2 g3 => hq a' g1 g2 ?_)
      all_goals try first|(simp only [zL,zM,zF,zG,hnt, hds, h0, h7, h8, h9];done)|(simp (disch:=first|decide|(simp only[zF,zG,hnt, hds, h0, h7, h8, h9];decide)) only [zA,zB,zC,zD,zE,zF,zG,zH,zI,zJ,zK,HV.cells,fl0,fl2,flS,flS1,flI1,flU1,flU2,flF,hnt, hds, h0, h7, h8, h9];first|done|exact rfl)|assumption
      rw [List.drop_eq_getElem_cons hi]
      show _ = i64 (lst (min cur ys[i]) _)
      rw [g3, show min cur ys[i] = cur by omega]
theorem c_least {lp : Nat → Option LFunc} (h78 : lp 78 = some L78) {fl : Nat} {h : Tr HBlk} {nx : Nat} {x : Int} {ys : List Int} {p : Option (Nat × Nat)} {n c : Nat} (hn : n = ys.length) (hrow : Row ienc 1 h nx p ys) (hlen : ys.length < 1000000000) : C lp fl 78 [i64 x, .slice p n c] ⟨h, nx⟩ (Sc (· = i64 (lst x ys)) ⟨h, nx⟩) := by
  subst hn
  refine c_in h78 rfl rfl rfl ?_
  dsimp only [L78]
  repeat' first
   | refine r_nil ?_
   | refine th_n ?_
   | refine th_r ?_
   | refine th_e ?_
   | refine ib_n ?_
   | refine ib_r ?_
   | refine ib_e ?_
   | refine ib_x (by decide) ?_
   | refine w_exit ?_
   | refine w_seq ?_
   | refine w_reg ?_
   | refine w_ret ?_
   | refine w_skip ?_
   | refine w_block ?_
   | refine w_t (by simp (disch:=first|decide|(simp only[zF,zG];decide)) only [zA,zB,zC,zD,zE,zF,zG,zH,zI,zJ,zK,HV.cells,fl0,fl2,flS,flS1,flI1,flU1,flU2,flF]; first|done|exact rfl) ?_
   | refine w_f (by simp (disch:=first|decide|(simp only[zF,zG];decide)) only [zA,zB,zC,zD,zE,zF,zG,zH,zI,zJ,zK,HV.cells,fl0,fl2,flS,flS1,flI1,flU1,flU2,flF]; first|done|exact rfl) ?_
   | refine r_move (by simp (disch:=first|decide|(simp only[zF,zG];decide)) only [zA,zB,zC,zD,zE,zF,zG,zH,zI,zJ,zK,HV.cells,fl0,fl2,flS,flS1,flI1,flU1,flU2,flF]; try exact rfl) ?_
   | refine r_ld1 (by simp (disch:=first|decide|(simp only[zF,zG];decide)) only [zA,zB,zC,zD,zE,zF,zG,zH,zI,zJ,zK,HV.cells,fl0,fl2,flS,flS1,flI1,flU1,flU2,flF]; try exact rfl) (by first|assumption|(simp (disch:=omega) only [get_same,get_other]; first|done|exact rfl)) (by first|assumption|exact ow2 _ _ _ _|exact ow3 _ _ _ _ _ _|rfl|(simp only [zI,zJ,HV.cells]; exact rfl)) ?_
   | refine r_add (by simp (disch:=first|decide|(simp only[zF,zG];decide)) only [zA,zB,zC,zD,zE,zF,zG,zH,zI,zJ,zK,HV.cells,fl0,fl2,flS,flS1,flI1,flU1,flU2,flF]; try exact rfl) (by simp (disch:=first|decide|(simp only[zF,zG];decide)) only [zA,zB,zC,zD,zE,zF,zG,zH,zI,zJ,zK,HV.cells,fl0,fl2,flS,flS1,flI1,flU1,flU2,flF]; try exact rfl) (by omega) (by omega) ?_
   | refine r_lss (by simp (disch:=first|decide|(simp only[zF,zG];decide)) only [zA,zB,zC,zD,zE,zF,zG,zH,zI,zJ,zK,HV.cells,fl0,fl2,flS,flS1,flI1,flU1,flU2,flF]; try exact rfl) (by simp (disch:=first|decide|(simp only[zF,zG];decide)) only [zA,zB,zC,zD,zE,zF,zG,zH,zI,zJ,zK,HV.cells,fl0,fl2,flS,flS1,flI1,flU1,flU2,flF]; try exact rfl) (fun hc => ?_) (fun hc => ?_) <;> (try (exfalso; omega))
   | refine r_len (by simp (disch:=first|decide|(simp only[zF,zG];decide)) only [zA,zB,zC,zD,zE,zF,zG,zH,zI,zJ,zK,HV.cells,fl0,fl2,flS,flS1,flI1,flU1,flU2,flF]; try exact rfl) ?_
   | refine r_ixs (by simp (disch:=first|decide|(simp only[zF,zG];decide)) only [zA,zB,zC,zD,zE,zF,zG,zH,zI,zJ,zK,HV.cells,fl0,fl2,flS,flS1,flI1,flU1,flU2,flF]; try exact rfl) (by simp (disch:=first|decide|(simp only[zF,zG];decide)) only [zA,zB,zC,zD,zE,zF,zG,zH,zI,zJ,zK,HV.cells,fl0,fl2,flS,flS1,flI1,flU1,flU2,flF]; try exact rfl) (by omega) ?_
   | fail
  refine loop78 (c := c) hrow hlen ys.length 0 x _ (by omega) ?_ ?_ ?_ ?_ ?_ ?_ (fun a' g1 g2 g3 => ?_)
  all_goals try first|(simp only [zL,zM,zF,zG];done)|(simp (disch:=first|decide|(simp only[zF,zG];decide)) only [zA,zB,zC,zD,zE,zF,zG,zH,zI,zJ,zK,HV.cells,fl0,fl2,flS,flS1,flI1,flU1,flU2,flF];first|done|exact rfl)|assumption
  repeat' first
   | refine r_nil ?_
   | refine th_n ?_
   | refine th_r ?_
   | refine th_e ?_
   | refine ib_n ?_
   | refine ib_r ?_
   | refine ib_e ?_
   | refine ib_x (by decide) ?_
   | refine w_exit ?_
   | refine w_seq ?_
   | refine w_reg ?_
   | refine w_ret ?_
   | refine w_skip ?_
   | refine w_block ?_
   | refine w_t (by simp (disch:=first|decide|(simp only[zF,zG,g1, g2, g3];decide)) only [zA,zB,zC,zD,zE,zF,zG,zH,zI,zJ,zK,HV.cells,fl0,fl2,flS,flS1,flI1,flU1,flU2,flF,g1, g2, g3]; first|done|exact rfl) ?_
   | refine w_f (by simp (disch:=first|decide|(simp only[zF,zG,g1, g2, g3];decide)) only [zA,zB,zC,zD,zE,zF,zG,zH,zI,zJ,zK,HV.cells,fl0,fl2,flS,flS1,flI1,flU1,flU2,flF,g1, g2, g3]; first|done|exact rfl) ?_
   | refine r_move (by simp (disch:=first|decide|(simp only[zF,zG,g1, g2, g3];decide)) only [zA,zB,zC,zD,zE,zF,zG,zH,zI,zJ,zK,HV.cells,fl0,fl2,flS,flS1,flI1,flU1,flU2,flF,g1, g2, g3]; try exact rfl) ?_
   | refine r_ld1 (by simp (disch:=first|decide|(simp only[zF,zG,g1, g2, g3];decide)) only [zA,zB,zC,zD,zE,zF,zG,zH,zI,zJ,zK,HV.cells,fl0,fl2,flS,flS1,flI1,flU1,flU2,flF,g1, g2, g3]; try exact rfl) (by first|assumption|(simp (disch:=omega) only [get_same,get_other,g1, g2, g3]; first|done|exact rfl)) (by first|assumption|exact ow2 _ _ _ _|exact ow3 _ _ _ _ _ _|rfl|(simp only [zI,zJ,HV.cells,g1, g2, g3]; exact rfl)) ?_
   | refine r_add (by simp (disch:=first|decide|(simp only[zF,zG,g1, g2, g3];decide)) only [zA,zB,zC,zD,zE,zF,zG,zH,zI,zJ,zK,HV.cells,fl0,fl2,flS,flS1,flI1,flU1,flU2,flF,g1, g2, g3]; try exact rfl) (by simp (disch:=first|decide|(simp only[zF,zG,g1, g2, g3];decide)) only [zA,zB,zC,zD,zE,zF,zG,zH,zI,zJ,zK,HV.cells,fl0,fl2,flS,flS1,flI1,flU1,flU2,flF,g1, g2, g3]; try exact rfl) (by omega) (by omega) ?_
   | refine r_lss (by simp (disch:=first|decide|(simp only[zF,zG,g1, g2, g3];decide)) only [zA,zB,zC,zD,zE,zF,zG,zH,zI,zJ,zK,HV.cells,fl0,fl2,flS,flS1,flI1,flU1,flU2,flF,g1, g2, g3]; try exact rfl) (by simp (disch:=first|decide|(simp only[zF,zG,g1, g2, g3];decide)) only [zA,zB,zC,zD,zE,zF,zG,zH,zI,zJ,zK,HV.cells,fl0,fl2,flS,flS1,flI1,flU1,flU2,flF,g1, g2, g3]; try exact rfl) (fun hc => ?_) (fun hc => ?_) <;> (try (exfalso; omega))
   | refine r_len (by simp (disch:=first|decide|(simp only[zF,zG,g1, g2, g3];decide)) only [zA,zB,zC,zD,zE,zF,zG,zH,zI,zJ,zK,HV.cells,fl0,fl2,flS,flS1,flI1,flU1,flU2,flF,g1, g2, g3]; try exact rfl) ?_
   | refine r_ixs (by simp (disch:=first|decide|(simp only[zF,zG,g1, g2, g3];decide)) only [zA,zB,zC,zD,zE,zF,zG,zH,zI,zJ,zK,HV.cells,fl0,fl2,flS,flS1,flI1,flU1,flU2,flF,g1, g2, g3]; try exact rfl) (by simp (disch:=first|decide|(simp only[zF,zG,g1, g2, g3];decide)) only [zA,zB,zC,zD,zE,zF,zG,zH,zI,zJ,zK,HV.cells,fl0,fl2,flS,flS1,flI1,flU1,flU2,flF,g1, g2, g3]; try exact rfl) (by omega) ?_
   | fail
  refine fin_r (by simp only [put_defers, g2]) (by simp (disch:=first|decide|(simp only[zF,zG,g1, g3];decide)) only [zA,zB,zC,zD,zE,zF,zG,zH,zI,zJ,zK,HV.cells,fl0,fl2,flS,flS1,flI1,flU1,flU2,flF,g1, g3]; try exact rfl) ?_
  exact ⟨rfl, _, Nat.le_refl _, rfl⟩
/-- The greatest of some numbers. -/
def gst (x : Int) (ys : List Int) : Int := ys.foldl max x
/- 79 -/
theorem loop79 {lp : Nat → Option LFunc} {fl : Nat} {h : Tr HBlk} {nx : Nat} {Q : HExit → HAct → HS → Prop} {p : Option (Nat × Nat)} {ys : List Int} {c : Nat} (hrow : Row ienc 1 h nx p ys) (hlen : ys.length < 1000000000) :
    ∀ (m i : Nat) (cur : Int) (a : HAct), m + i = ys.length → a.nt = 19 → a.defers = [] → a.tmp 0 = i64 cur → a.tmp 7 = .slice p ys.length c → a.tmp 8 = i64 ys.length → a.tmp 9 = i64 i →
      (∀ a', a'.nt = 19 → a'.defers = [] → a'.tmp 0 = i64 (gst cur (ys.drop i)) → Q .normal a' ⟨h, nx⟩) → W lp fl none (.loop L79w0) (inBlockH 0 Q) a ⟨h, nx⟩
  | 0, i, cur, a, hm, hnt, hds, h0, h7, h8, h9, hq => by
    refine w_it (show L79w0 = _ by unfold L79w0; exact rfl) ?_
    repeat' first
     | refine r_nil ?_
     | refine th_n ?_
     | refine th_r ?_
     | refine th_e ?_
     | refine ib_n ?_
     | refine ib_r ?_
     | refine ib_e ?_
     | refine ib_x (by decide) ?_
     | refine w_exit ?_
     | refine w_seq ?_
     | refine w_reg ?_
     | refine w_ret ?_
     | refine w_skip ?_
     | refine w_block ?_
     | refine w_t (by simp (disch:=first|decide|(simp only[zF,zG,hnt, h0, h7, h8, h9];decide)) only [zA,zB,zC,zD,zE,zF,zG,zH,zI,zJ,zK,HV.cells,fl0,fl2,flS,flS1,flI1,flU1,flU2,flF,hnt, h0, h7, h8, h9]; first|done|exact rfl) ?_
     | refine w_f (by simp (disch:=first|decide|(simp only[zF,zG,hnt, h0, h7, h8, h9];decide)) only [zA,zB,zC,zD,zE,zF,zG,zH,zI,zJ,zK,HV.cells,fl0,fl2,flS,flS1,flI1,flU1,flU2,flF,hnt, h0, h7, h8, h9]; first|done|exact rfl) ?_
     | refine r_move (by simp (disch:=first|decide|(simp only[zF,zG,hnt, h0, h7, h8, h9];decide)) only [zA,zB,zC,zD,zE,zF,zG,zH,zI,zJ,zK,HV.cells,fl0,fl2,flS,flS1,flI1,flU1,flU2,flF,hnt, h0, h7, h8, h9]; try exact rfl) ?_
     | refine r_ld1 (by simp (disch:=first|decide|(simp only[zF,zG,hnt, h0, h7, h8, h9];decide)) only [zA,zB,zC,zD,zE,zF,zG,zH,zI,zJ,zK,HV.cells,fl0,fl2,flS,flS1,flI1,flU1,flU2,flF,hnt, h0, h7, h8, h9]; try exact rfl) (by first|assumption|(simp (disch:=omega) only [get_same,get_other,hnt, h0, h7, h8, h9]; first|done|exact rfl)) (by first|assumption|exact ow2 _ _ _ _|exact ow3 _ _ _ _ _ _|rfl|(simp only [zI,zJ,HV.cells,hnt, h0, h7, h8, h9]; exact rfl)) ?_
     | refine r_add (by simp (disch:=first|decide|(simp only[zF,zG,hnt, h0, h7, h8, h9];decide)) only [zA,zB,zC,zD,zE,zF,zG,zH,zI,zJ,zK,HV.cells,fl0,fl2,flS,flS1,flI1,flU1,flU2,flF,hnt, h0, h7, h8, h9]; try exact rfl) (by simp (disch:=first|decide|(simp only[zF,zG,hnt, h0, h7, h8, h9];decide)) only [zA,zB,zC,zD,zE,zF,zG,zH,zI,zJ,zK,HV.cells,fl0,fl2,flS,flS1,flI1,flU1,flU2,flF,hnt, h0, h7, h8, h9]; try exact rfl) (by omega) (by omega) ?_
     | refine r_lss (by simp (disch:=first|decide|(simp only[zF,zG,hnt, h0, h7, h8, h9];decide)) only [zA,zB,zC,zD,zE,zF,zG,zH,zI,zJ,zK,HV.cells,fl0,fl2,flS,flS1,flI1,flU1,flU2,flF,hnt, h0, h7, h8, h9]; try exact rfl) (by simp (disch:=first|decide|(simp only[zF,zG,hnt, h0, h7, h8, h9];decide)) only [zA,zB,zC,zD,zE,zF,zG,zH,zI,zJ,zK,HV.cells,fl0,fl2,flS,flS1,flI1,flU1,flU2,flF,hnt, h0, h7, h8, h9]; try exact rfl) (fun hc => ?_) (fun hc => ?_) <;> (try (exfalso; omega))
     | refine r_gtr (by simp (disch:=first|decide|(simp only[zF,zG,hnt, h0, h7, h8, h9];decide)) only [zA,zB,zC,zD,zE,zF,zG,zH,zI,zJ,zK,HV.cells,fl0,fl2,flS,flS1,flI1,flU1,flU2,flF,hnt, h0, h7, h8, h9]; try exact rfl) (by simp (disch:=first|decide|(simp only[zF,zG,hnt, h0, h7, h8, h9];decide)) only [zA,zB,zC,zD,zE,zF,zG,zH,zI,zJ,zK,HV.cells,fl0,fl2,flS,flS1,flI1,flU1,flU2,flF,hnt, h0, h7, h8, h9]; try exact rfl) (fun hc => ?_) (fun hc => ?_) <;> (try (exfalso; omega))
     | refine r_len (by simp (disch:=first|decide|(simp only[zF,zG,hnt, h0, h7, h8, h9];decide)) only [zA,zB,zC,zD,zE,zF,zG,zH,zI,zJ,zK,HV.cells,fl0,fl2,flS,flS1,flI1,flU1,flU2,flF,hnt, h0, h7, h8, h9]; try exact rfl) ?_
     | refine r_ixs (by simp (disch:=first|decide|(simp only[zF,zG,hnt, h0, h7, h8, h9];decide)) only [zA,zB,zC,zD,zE,zF,zG,zH,zI,zJ,zK,HV.cells,fl0,fl2,flS,flS1,flI1,flU1,flU2,flF,hnt, h0, h7, h8, h9]; try exact rfl) (by simp (disch:=first|decide|(simp only[zF,zG,hnt, h0, h7, h8, h9];decide)) only [zA,zB,zC,zD,zE,zF,zG,zH,zI,zJ,zK,HV.cells,fl0,fl2,flS,flS1,flI1,flU1,flU2,flF,hnt, h0, h7, h8, h9]; try exact rfl) (by omega) ?_
     | fail
    refine hq _ ?_ ?_ ?_
    · simp only [put_nt, hnt]
    · simp only [put_defers, hds]
    · rw [List.drop_of_length_le (by omega)]; exact (by simp (disch:=first|decide|(simp only[zF,zG,hnt, h0];decide)) only [zA,zB,zC,zD,zE,zF,zG,zH,zI,zJ,zK,HV.cells,fl0,fl2,flS,flS1,flI1,flU1,flU2,flF,hnt, h0]; try exact rfl)
  | m + 1, i, cur, a, hm, hnt, hds, h0, h7, h8, h9, hq => by
    have hi : i < ys.length := by omega
    obtain ⟨b, o, cs, k, rfl, hb, hg, hcs⟩ := hrow (by intro e; rw [e] at hi; simp at hi)
    have hy : ys[i]? = some ys[i] := by simp [hi]
    have e0 := take_at (hcs i _ hy) (j := 0) rfl
    refine w_it (show L79w0 = _ by unfold L79w0; exact rfl) ?_
    repeat' first
     | refine r_nil ?_
     | refine th_n ?_
     | refine th_r ?_
     | refine th_e ?_
     | refine ib_n ?_
     | refine ib_r ?_
     | refine ib_e ?_
     | refine ib_x (by decide) ?_
     | refine w_exit ?_
     | refine w_seq ?_
     | refine w_reg ?_
     | refine w_ret ?_
     | refine w_skip ?_
     | refine w_block ?_
     | refine w_t (by simp (disch:=first|decide|(simp only[zF,zG,hnt, h0, h7, h8, h9];decide)) only [zA,zB,zC,zD,zE,zF,zG,zH,zI,zJ,zK,HV.cells,fl0,fl2,flS,flS1,flI1,flU1,flU2,flF,hnt, h0, h7, h8, h9]; first|done|exact rfl) ?_
     | refine w_f (by simp (disch:=first|decide|(simp only[zF,zG,hnt, h0, h7, h8, h9];decide)) only [zA,zB,zC,zD,zE,zF,zG,zH,zI,zJ,zK,HV.cells,fl0,fl2,flS,flS1,flI1,flU1,flU2,flF,hnt, h0, h7, h8, h9]; first|done|exact rfl) ?_
     | refine r_move (by simp (disch:=first|decide|(simp only[zF,zG,hnt, h0, h7, h8, h9];decide)) only [zA,zB,zC,zD,zE,zF,zG,zH,zI,zJ,zK,HV.cells,fl0,fl2,flS,flS1,flI1,flU1,flU2,flF,hnt, h0, h7, h8, h9]; try exact rfl) ?_
     | refine r_ld1 (by simp (disch:=first|decide|(simp only[zF,zG,hnt, h0, h7, h8, h9];decide)) only [zA,zB,zC,zD,zE,zF,zG,zH,zI,zJ,zK,HV.cells,fl0,fl2,flS,flS1,flI1,flU1,flU2,flF,hnt, h0, h7, h8, h9]; try exact rfl) (by first|assumption|(simp (disch:=omega) only [get_same,get_other,hnt, h0, h7, h8, h9]; first|done|exact rfl)) (by first|assumption|exact ow2 _ _ _ _|exact ow3 _ _ _ _ _ _|rfl|(simp only [zI,zJ,HV.cells,hnt, h0, h7, h8, h9]; exact rfl)) ?_
     | refine r_add (by simp (disch:=first|decide|(simp only[zF,zG,hnt, h0, h7, h8, h9];decide)) only [zA,zB,zC,zD,zE,zF,zG,zH,zI,zJ,zK,HV.cells,fl0,fl2,flS,flS1,flI1,flU1,flU2,flF,hnt, h0, h7, h8, h9]; try exact rfl) (by simp (disch:=first|decide|(simp only[zF,zG,hnt, h0, h7, h8, h9];decide)) only [zA,zB,zC,zD,zE,zF,zG,zH,zI,zJ,zK,HV.cells,fl0,fl2,flS,flS1,flI1,flU1,flU2,flF,hnt, h0, h7, h8, h9]; try exact rfl) (by omega) (by omega) ?_
     | refine r_lss (by simp (disch:=first|decide|(simp only[zF,zG,hnt, h0, h7, h8, h9];decide)) only [zA,zB,zC,zD,zE,zF,zG,zH,zI,zJ,zK,HV.cells,fl0,fl2,flS,flS1,flI1,flU1,flU2,flF,hnt, h0, h7, h8, h9]; try exact rfl) (by simp (disch:=first|decide|(simp only[zF,zG,hnt, h0, h7, h8, h9];decide)) only [zA,zB,zC,zD,zE,zF,zG,zH,zI,zJ,zK,HV.cells,fl0,fl2,flS,flS1,flI1,flU1,flU2,flF,hnt, h0, h7, h8, h9]; try exact rfl) (fun hc => ?_) (fun hc => ?_) <;> (try (exfalso; omega))
     | refine r_gtr (by simp (disch:=first|decide|(simp only[zF,zG,hnt, h0, h7, h8, h9];decide)) only [zA,zB,zC,zD,zE,zF,zG,zH,zI,zJ,zK,HV.cells,fl0,fl2,flS,flS1,flI1,flU1,flU2,flF,hnt, h0, h7, h8, h9]; try exact rfl) (by simp (disch:=first|decide|(simp only[zF,zG,hnt, h0, h7, h8, h9];decide)) only [zA,zB,zC,zD,zE,zF,zG,zH,zI,zJ,zK,HV.cells,fl0,fl2,flS,flS1,flI1,flU1,flU2,flF,hnt, h0, h7, h8, h9]; try exact rfl) (fun hc => ?_) (fun hc => ?_) <;> (try (exfalso; omega))
     | refine r_len (by simp (disch:=first|decide|(simp only[zF,zG,hnt, h0, h7, h8, h9];decide)) only [zA,zB,zC,zD,zE,zF,zG,zH,zI,zJ,zK,HV.cells,fl0,fl2,flS,flS1,flI1,flU1,flU2,flF,hnt, h0, h7, h8, h9]; try exact rfl) ?_
     | refine r_ixs (by simp (disch:=first|decide|(simp only[zF,zG,hnt, h0, h7, h8, h9];decide)) only [zA,zB,zC,zD,zE,zF,zG,zH,zI,zJ,zK,HV.cells,fl0,fl2,flS,flS1,flI1,flU1,flU2,flF,hnt, h0, h7, h8, h9]; try exact rfl) (by simp (disch:=first|decide|(simp only[zF,zG,hnt, h0, h7, h8, h9];decide)) only [zA,zB,zC,zD,zE,zF,zG,zH,zI,zJ,zK,HV.cells,fl0,fl2,flS,flS1,flI1,flU1,flU2,flF,hnt, h0, h7, h8, h9]; try exact rfl) (by omega) ?_
     | fail
    · refine loop79 (c := c) hrow hlen m (i + 1) ys[i] _ (by omega) ?_ ?_ ?_ ?_ ?_ ?_ (fun a' g1 g2 g3 => hq a' g1 g2 ?_)
      all_goals try first|(simp only [zL,zM,zF,zG,hnt, hds, h0, h7, h8, h9];done)|(simp (disch:=first|decide|(simp only[zF,zG,hnt, hds, h0, h7, h8, h9];decide)) only [zA,zB,zC,zD,zE,zF,zG,zH,zI,zJ,zK,HV.cells,fl0,fl2,flS,flS1,flI1,flU1,flU2,flF,hnt, hds, h0, h7, h8, h9];first|done|exact rfl)|assumption
      rw [List.drop_eq_getElem_cons hi]
      show _ = i64 (gst (max cur ys[i]) _)
      rw [g3, show max cur ys[i] = ys[i] by omega]
    · refine loop79 (c := c) hrow hlen m (i + 1) cur _ (by omega) ?_ ?_ ?_ ?_ ?_ ?_ (fun a' g1 g2 g3 => hq a' g1 g2 ?_)
      all_goals try first|(simp only [zL,zM,zF,zG,hnt, hds, h0, h7, h8, h9];done)|(simp (disch:=first|decide|(simp only[zF,zG,hnt, hds, h0, h7, h8, h9];decide)) only [zA,zB,zC,zD,zE,zF,zG,zH,zI,zJ,zK,HV.cells,fl0,fl2,flS,flS1,flI1,flU1,flU2,flF,hnt, hds, h0, h7, h8, h9];first|done|exact rfl)|assumption
      rw [List.drop_eq_getElem_cons hi]
      show _ = i64 (gst (max cur ys[i]) _)
      rw [g3, show max cur ys[i] = cur by omega]
theorem c_greatest {lp : Nat → Option LFunc} (h79 : lp 79 = some L79) {fl : Nat} {h : Tr HBlk} {nx : Nat} {x : Int} {ys : List Int} {p : Option (Nat × Nat)} {n c : Nat} (hn : n = ys.length) (hrow : Row ienc 1 h nx p ys) (hlen : ys.length < 1000000000) : C lp fl 79 [i64 x, .slice p n c] ⟨h, nx⟩ (Sc (· = i64 (gst x ys)) ⟨h, nx⟩) := by
  subst hn
  refine c_in h79 rfl rfl rfl ?_
  dsimp only [L79]
  repeat' first
   | refine r_nil ?_
   | refine th_n ?_
   | refine th_r ?_
   | refine th_e ?_
   | refine ib_n ?_
   | refine ib_r ?_
   | refine ib_e ?_
   | refine ib_x (by decide) ?_
   | refine w_exit ?_
   | refine w_seq ?_
   | refine w_reg ?_
   | refine w_ret ?_
   | refine w_skip ?_
   | refine w_block ?_
   | refine w_t (by simp (disch:=first|decide|(simp only[zF,zG];decide)) only [zA,zB,zC,zD,zE,zF,zG,zH,zI,zJ,zK,HV.cells,fl0,fl2,flS,flS1,flI1,flU1,flU2,flF]; first|done|exact rfl) ?_
   | refine w_f (by simp (disch:=first|decide|(simp only[zF,zG];decide)) only [zA,zB,zC,zD,zE,zF,zG,zH,zI,zJ,zK,HV.cells,fl0,fl2,flS,flS1,flI1,flU1,flU2,flF]; first|done|exact rfl) ?_
   | refine r_move (by simp (disch:=first|decide|(simp only[zF,zG];decide)) only [zA,zB,zC,zD,zE,zF,zG,zH,zI,zJ,zK,HV.cells,fl0,fl2,flS,flS1,flI1,flU1,flU2,flF]; try exact rfl) ?_
   | refine r_ld1 (by simp (disch:=first|decide|(simp only[zF,zG];decide)) only [zA,zB,zC,zD,zE,zF,zG,zH,zI,zJ,zK,HV.cells,fl0,fl2,flS,flS1,flI1,flU1,flU2,flF]; try exact rfl) (by first|assumption|(simp (disch:=omega) only [get_same,get_other]; first|done|exact rfl)) (by first|assumption|exact ow2 _ _ _ _|exact ow3 _ _ _ _ _ _|rfl|(simp only [zI,zJ,HV.cells]; exact rfl)) ?_
   | refine r_add (by simp (disch:=first|decide|(simp only[zF,zG];decide)) only [zA,zB,zC,zD,zE,zF,zG,zH,zI,zJ,zK,HV.cells,fl0,fl2,flS,flS1,flI1,flU1,flU2,flF]; try exact rfl) (by simp (disch:=first|decide|(simp only[zF,zG];decide)) only [zA,zB,zC,zD,zE,zF,zG,zH,zI,zJ,zK,HV.cells,fl0,fl2,flS,flS1,flI1,flU1,flU2,flF]; try exact rfl) (by omega) (by omega) ?_
   | refine r_lss (by simp (disch:=first|decide|(simp only[zF,zG];decide)) only [zA,zB,zC,zD,zE,zF,zG,zH,zI,zJ,zK,HV.cells,fl0,fl2,flS,flS1,flI1,flU1,flU2,flF]; try exact rfl) (by simp (disch:=first|decide|(simp only[zF,zG];decide)) only [zA,zB,zC,zD,zE,zF,zG,zH,zI,zJ,zK,HV.cells,fl0,fl2,flS,flS1,flI1,flU1,flU2,flF]; try exact rfl) (fun hc => ?_) (fun hc => ?_) <;> (try (exfalso; omega))
   | refine r_gtr (by simp (disch:=first|decide|(simp only[zF,zG];decide)) only [zA,zB,zC,zD,zE,zF,zG,zH,zI,zJ,zK,HV.cells,fl0,fl2,flS,flS1,flI1,flU1,flU2,flF]; try exact rfl) (by simp (disch:=first|decide|(simp only[zF,zG];decide)) only [zA,zB,zC,zD,zE,zF,zG,zH,zI,zJ,zK,HV.cells,fl0,fl2,flS,flS1,flI1,flU1,flU2,flF]; try exact rfl) (fun hc => ?_) (fun hc => ?_) <;> (try (exfalso; omega))
   | refine r_len (by simp (disch:=first|decide|(simp only[zF,zG];decide)) only [zA,zB,zC,zD,zE,zF,zG,zH,zI,zJ,zK,HV.cells,fl0,fl2,flS,flS1,flI1,flU1,flU2,flF]; try exact rfl) ?_
   | refine r_ixs (by simp (disch:=first|decide|(simp only[zF,zG];decide)) only [zA,zB,zC,zD,zE,zF,zG,zH,zI,zJ,zK,HV.cells,fl0,fl2,flS,flS1,flI1,flU1,flU2,flF]; try exact rfl) (by simp (disch:=first|decide|(simp only[zF,zG];decide)) only [zA,zB,zC,zD,zE,zF,zG,zH,zI,zJ,zK,HV.cells,fl0,fl2,flS,flS1,flI1,flU1,flU2,flF]; try exact rfl) (by omega) ?_
   | fail
  refine loop79 (c := c) hrow hlen ys.length 0 x _ (by omega) ?_ ?_ ?_ ?_ ?_ ?_ (fun a' g1 g2 g3 => ?_)
  all_goals try first|(simp only [zL,zM,zF,zG];done)|(simp (disch:=first|decide|(simp only[zF,zG];decide)) only [zA,zB,zC,zD,zE,zF,zG,zH,zI,zJ,zK,HV.cells,fl0,fl2,flS,flS1,flI1,flU1,flU2,flF];first|done|exact rfl)|assumption
  repeat' first
   | refine r_nil ?_
   | refine th_n ?_
   | refine th_r ?_
   | refine th_e ?_
   | refine ib_n ?_
   | refine ib_r ?_
   | refine ib_e ?_
   | refine ib_x (by decide) ?_
   | refine w_exit ?_
   | refine w_seq ?_
   | refine w_reg ?_
   | refine w_ret ?_
   | refine w_skip ?_
   | refine w_block ?_
   | refine w_t (by simp (disch:=first|decide|(simp only[zF,zG,g1, g2, g3];decide)) only [zA,zB,zC,zD,zE,zF,zG,zH,zI,zJ,zK,HV.cells,fl0,fl2,flS,flS1,flI1,flU1,flU2,flF,g1, g2, g3]; first|done|exact rfl) ?_
   | refine w_f (by simp (disch:=first|decide|(simp only[zF,zG,g1, g2, g3];decide)) only [zA,zB,zC,zD,zE,zF,zG,zH,zI,zJ,zK,HV.cells,fl0,fl2,flS,flS1,flI1,flU1,flU2,flF,g1, g2, g3]; first|done|exact rfl) ?_
   | refine r_move (by simp (disch:=first|decide|(simp only[zF,zG,g1, g2, g3];decide)) only [zA,zB,zC,zD,zE,zF,zG,zH,zI,zJ,zK,HV.cells,fl0,fl2,flS,flS1,flI1,flU1,flU2,flF,g1, g2, g3]; try exact rfl) ?_
   | refine r_ld1 (by simp (disch:=first|decide|(simp only[zF,zG,g1, g2, g3];decide)) only [zA,zB,zC,zD,zE,zF,zG,zH,zI,zJ,zK,HV.cells,fl0,fl2,flS,flS1,flI1,flU1,flU2,flF,g1, g2, g3]; try exact rfl) (by first|assumption|(simp (disch:=omega) only [get_same,get_other,g1, g2, g3]; first|done|exact rfl)) (by first|assumption|exact ow2 _ _ _ _|exact ow3 _ _ _ _ _ _|rfl|(simp only [zI,zJ,HV.cells,g1, g2, g3]; exact rfl)) ?_
   | refine r_add (by simp (disch:=first|decide|(simp only[zF,zG,g1, g2, g3];decide)) only [zA,zB,zC,zD,zE,zF,zG,zH,zI,zJ,zK,HV.cells,fl0,fl2,flS,flS1,flI1,flU1,flU2,flF,g1, g2, g3]; try exact rfl) (by simp (disch:=first|decide|(simp only[zF,zG,g1, g2, g3];decide)) only [zA,zB,zC,zD,zE,zF,zG,zH,zI,zJ,zK,HV.cells,fl0,fl2,flS,flS1,flI1,flU1,flU2,flF,g1, g2, g3]; try exact rfl) (by omega) (by omega) ?_
   | refine r_lss (by simp (disch:=first|decide|(simp only[zF,zG,g1, g2, g3];decide)) only [zA,zB,zC,zD,zE,zF,zG,zH,zI,zJ,zK,HV.cells,fl0,fl2,flS,flS1,flI1,flU1,flU2,flF,g1, g2, g3]; try exact rfl) (by simp (disch:=first|decide|(simp only[zF,zG,g1, g2, g3];decide)) only [zA,zB,zC,zD,zE,zF,zG,zH,zI,zJ,zK,HV.cells,fl0,fl2,flS,flS1,flI1,flU1,flU2,flF,g1, g2, g3]; try exact rfl) (fun hc => ?_) (fun hc => ?_) <;> (try (exfalso; omega))
   | refine r_gtr (by simp (disch:=first|decide|(simp only[zF,zG,g1, g2, g3];decide)) only [zA,zB,zC,zD,zE,zF,zG,zH,zI,zJ,zK,HV.cells,fl0,fl2,flS,flS1,flI1,flU1,flU2,flF,g1, g2, g3]; try exact rfl) (by simp (disch:=first|decide|(simp only[zF,zG,g1, g2, g3];decide)) only [zA,zB,zC,zD,zE,zF,zG,zH,zI,zJ,zK,HV.cells,fl0,fl2,flS,flS1,flI1,flU1,flU2,flF,g1, g2, g3]; try exact rfl) (fun hc => ?_) (fun hc => ?_) <;> (try (exfalso; omega))
   | refine r_len (by simp (disch:=first|decide|(simp only[zF,zG,g1, g2, g3];decide)) only [zA,zB,zC,zD,zE,zF,zG,zH,zI,zJ,zK,HV.cells,fl0,fl2,flS,flS1,flI1,flU1,flU2,flF,g1, g2, g3]; try exact rfl) ?_
   | refine r_ixs (by simp (disch:=first|decide|(simp only[zF,zG,g1, g2, g3];decide)) only [zA,zB,zC,zD,zE,zF,zG,zH,zI,zJ,zK,HV.cells,fl0,fl2,flS,flS1,flI1,flU1,flU2,flF,g1, g2, g3]; try exact rfl) (by simp (disch:=first|decide|(simp only[zF,zG,g1, g2, g3];decide)) only [zA,zB,zC,zD,zE,zF,zG,zH,zI,zJ,zK,HV.cells,fl0,fl2,flS,flS1,flI1,flU1,flU2,flF,g1, g2, g3]; try exact rfl) (by omega) ?_
   | fail
  refine fin_r (by simp only [put_defers, g2]) (by simp (disch:=first|decide|(simp only[zF,zG,g1, g3];decide)) only [zA,zB,zC,zD,zE,zF,zG,zH,zI,zJ,zK,HV.cells,fl0,fl2,flS,flS1,flI1,flU1,flU2,flF,g1, g3]; try exact rfl) ?_
  exact ⟨rfl, _, Nat.le_refl _, rfl⟩
theorem c_least1 {fl : Nat} {h : Tr HBlk} {nx : Nat} {x y : Int} {p : Option (Nat × Nat)} {cp : Nat} (hrow : Row ienc 1 h nx p [y]) : C LW fl 78 [i64 x, .slice p 1 cp] ⟨h, nx⟩ (Sc (· = i64 (min x y)) ⟨h, nx⟩) := c_least (ys := [y]) lw78 rfl hrow (by simp)
theorem c_greatest1 {fl : Nat} {h : Tr HBlk} {nx : Nat} {x y : Int} {p : Option (Nat × Nat)} {cp : Nat} (hrow : Row ienc 1 h nx p [y]) : C LW fl 79 [i64 x, .slice p 1 cp] ⟨h, nx⟩ (Sc (· = i64 (max x y)) ⟨h, nx⟩) := c_greatest (ys := [y]) lw79 rfl hrow (by simp)
/-- The thousandths of readings, where steam was at some height. -/
def tru (s q r : Int × Int) : Int × Int := (min (hlo s r * q.1) (hlo s r * q.2) / (2 * dg s), cdiv (max (hhi s r * q.1) (hhi s r * q.2)) (2 * dg s))
/- 54 -/
theorem c_true {fl : Nat} {h : Tr HBlk} {nx : Nat} (hd : D h nx) {s q r : Int × Int} (h1 : SOk s.1 s.2) (hr : ROk r.1 r.2) (hq : (0 ≤ q.1 ∧ q.1 ≤ 2000) ∧ 0 ≤ q.2 ∧ q.2 ≤ 2000) : C LW fl 54 [.agg (renc s), .agg (renc q), .agg (renc r)] ⟨h, nx⟩ (Sc (· = .agg (renc (tru s q r))) ⟨h, nx⟩) := by
  obtain ⟨b1, _, b3, b4, _⟩ := son_bd h1 h1 hr
  have a1 := s_bd h1
  have m1 := mul_bs (p := hlo s r) (q := q.1) (A := 2002001) (B := 2000) b3.1 b3.2 (by omega) (by omega) (by omega)
  have m2 := mul_bs (p := hlo s r) (q := q.2) (A := 2002001) (B := 2000) b3.1 b3.2 (by omega) (by omega) (by omega)
  have m3 := mul_bs (p := hhi s r) (q := q.1) (A := 2002001) (B := 2000) b4.1 b4.2 (by omega) (by omega) (by omega)
  have m4 := mul_bs (p := hhi s r) (q := q.2) (A := 2002001) (B := 2000) b4.1 b4.2 (by omega) (by omega) (by omega)
  have cU : ∀ fl h' n', C LW fl 76 [.agg (renc s)] ⟨h', n'⟩ (Sc (· = .agg [i64 (ic s.1 s.2), i64 (st s.1 s.2), .bool (tn s.1 s.2)]) ⟨h', n'⟩) := fun fl h' n' => c_upright (by unfold Big; unfold SOk at h1; omega) (by unfold Big; unfold SOk at h1; omega)
  have cH : ∀ fl h' n', C LW fl 77 [.agg [i64 (ic s.1 s.2), i64 (st s.1 s.2), .bool (tn s.1 s.2)], .agg (renc r)] ⟨h', n'⟩ (Sc (· = .agg (renc (hlo s r, hhi s r))) ⟨h', n'⟩) := fun fl h' n' => c_halves (by unfold Mid; unfold ROk at hr; omega) (by unfold Mid; unfold ROk at hr; omega) (by unfold Mid; omega)
  have cG : ∀ fl h' n' x, C LW fl 82 [.agg [i64 (ic s.1 s.2), i64 (st s.1 s.2), .bool (tn s.1 s.2)], i64 x] ⟨h', n'⟩ (Sc (· = .agg [i64 x, i64 (2 * dg s)]) ⟨h', n'⟩) := fun fl h' n' x => c_height (by unfold Mid; omega) (by unfold Mid; omega)
  have cO : ∀ fl h' n', D h' n' → C LW fl 81 [.agg [.func 91 [] [], .func 99 [] []], .agg [i64 (min (hlo s r * q.1) (hlo s r * q.2)), i64 (2 * dg s)], .agg [i64 (max (hhi s r * q.1) (hhi s r * q.2)), i64 (2 * dg s)]] ⟨h', n'⟩ (Sc (· = .agg (renc (tru s q r))) ⟨h', n'⟩) := fun fl h' n' e => c_ofO (by unfold Big; omega) (by omega) (by unfold Big; omega) (by omega) e
  refine c_in lw54 rfl rfl rfl ?_
  dsimp only [L54]
  repeat' first
   | refine r_nil ?_
   | refine th_n ?_
   | refine th_r ?_
   | refine w_seq ?_
   | refine w_reg ?_
   | refine w_ret ?_
   | refine w_skip ?_
   | refine r_take (by simp (disch:=first|decide|(simp only[zF,zG];decide)) only [zA,zB,zC,zD,zE,zF,zG,zH,zI,zJ,zK,HV.cells,fl0,fl2,flS,flS1,flI1,flU1,flU2,flF]; first|done|exact rfl) ?_
   | refine r_drop (by simp (disch:=first|decide|(simp only[zF,zG,Bool.not_true,Bool.not_false];decide)) only [zA,zB,zC,zD,zE,zF,zG,zH,zI,zJ,zK,HV.cells,fl0,fl2,flS,flS1,flI1,flU1,flU2,flF,Bool.not_true,Bool.not_false]; first|done|exact rfl) ?_
   | refine r_move (by simp (disch:=first|decide|(simp only[zF,zG];decide)) only [zA,zB,zC,zD,zE,zF,zG,zH,zI,zJ,zK,HV.cells,fl0,fl2,flS,flS1,flI1,flU1,flU2,flF]; try exact rfl) ?_
   | refine r_fa (by simp (disch:=first|decide|(simp only[zF,zG];decide)) only [zA,zB,zC,zD,zE,zF,zG,zH,zI,zJ,zK,HV.cells,fl0,fl2,flS,flS1,flI1,flU1,flU2,flF]; try exact rfl) ?_
   | refine r_ld1 (by simp (disch:=first|decide|(simp only[zF,zG];decide)) only [zA,zB,zC,zD,zE,zF,zG,zH,zI,zJ,zK,HV.cells,fl0,fl2,flS,flS1,flI1,flU1,flU2,flF]; try exact rfl) (by first|assumption|(simp (disch:=omega) only [get_same,get_other]; first|done|exact rfl)) (by first|assumption|exact ow2 _ _ _ _|exact ow3 _ _ _ _ _ _|rfl|(simp only [zI,zJ,HV.cells]; exact rfl)) ?_
   | refine r_ldn (by simp (disch:=first|decide|(simp only[zF,zG];decide)) only [zA,zB,zC,zD,zE,zF,zG,zH,zI,zJ,zK,HV.cells,fl0,fl2,flS,flS1,flI1,flU1,flU2,flF]; try exact rfl) (by first|assumption|(simp (disch:=omega) only [get_same,get_other]; first|done|exact rfl)) (by first|assumption|exact ow2 _ _ _ _|exact ow3 _ _ _ _ _ _|rfl|(simp only [zI,zJ,HV.cells]; exact rfl)) ?_
   | refine r_box (by simp (disch:=first|decide|(simp only[zF,zG];decide)) only [zA,zB,zC,zD,zE,zF,zG,zH,zI,zJ,zK,HV.cells,fl0,fl2,flS,flS1,flI1,flU1,flU2,flF]; try exact rfl) ?_
   | refine r_alloc ?_
   | refine r_st (cs' := _) (by simp (disch:=first|decide|(simp only[zF,zG];decide)) only [zA,zB,zC,zD,zE,zF,zG,zH,zI,zJ,zK,HV.cells,fl0,fl2,flS,flS1,flI1,flU1,flU2,flF]; try exact rfl) (by simp (disch:=first|decide|(simp only[zF,zG];decide)) only [zA,zB,zC,zD,zE,zF,zG,zH,zI,zJ,zK,HV.cells,fl0,fl2,flS,flS1,flI1,flU1,flU2,flF]; try exact rfl) (by first|assumption|(simp (disch:=omega) only [get_same,get_other]; first|done|exact rfl)) (by exact True.intro) (by rfl) (by rfl) (by first|assumption|exact ow2 _ _ _ _|exact ow3 _ _ _ _ _ _|rfl|(simp only [zI,zJ,HV.cells]; exact rfl)) (by omega) ?_
   | refine r_mul (by simp (disch:=first|decide|(simp only[zF,zG];decide)) only [zA,zB,zC,zD,zE,zF,zG,zH,zI,zJ,zK,HV.cells,fl0,fl2,flS,flS1,flI1,flU1,flU2,flF]; try exact rfl) (by simp (disch:=first|decide|(simp only[zF,zG];decide)) only [zA,zB,zC,zD,zE,zF,zG,zH,zI,zJ,zK,HV.cells,fl0,fl2,flS,flS1,flI1,flU1,flU2,flF]; try exact rfl) (by omega) (by omega) ?_
   | refine r_bs (by simp (disch:=first|decide|(simp only[zF,zG];decide)) only [evParts,List.map_cons,List.map_nil,List.nil_append,List.cons_append,List.append_nil,zA,zB,zC,zD,zE,zF,zG,zH,zI,zJ,zK,HV.cells,fl0,fl2,flS,flS1,flI1,flU1,flU2,flF]; try exact rfl) ?_
   | refine r_calls (by simp (disch:=first|decide|(simp only[zF,zG];decide)) only [zA,zB,zC,zD,zE,zF,zG,zH,zI,zJ,zK,HV.cells,fl0,fl2,flS,flS1,flI1,flU1,flU2,flF]; try exact rfl) (by simp (disch:=first|decide|(simp only[zF,zG];decide)) only [List.map_cons,List.map_nil,List.nil_append,List.cons_append,List.append_nil,zA,zB,zC,zD,zE,zF,zG,zH,zI,zJ,zK,HV.cells,fl0,fl2,flS,flS1,flI1,flU1,flU2,flF]; first|done|exact rfl) (cU _ _ _) (fun n' hn' => ?_)
   | refine r_calls (by simp (disch:=first|decide|(simp only[zF,zG];decide)) only [zA,zB,zC,zD,zE,zF,zG,zH,zI,zJ,zK,HV.cells,fl0,fl2,flS,flS1,flI1,flU1,flU2,flF]; try exact rfl) (by simp (disch:=first|decide|(simp only[zF,zG];decide)) only [List.map_cons,List.map_nil,List.nil_append,List.cons_append,List.append_nil,zA,zB,zC,zD,zE,zF,zG,zH,zI,zJ,zK,HV.cells,fl0,fl2,flS,flS1,flI1,flU1,flU2,flF]; first|done|exact rfl) (cH _ _ _) (fun n' hn' => ?_)
   | refine w_draw (by omega) (by (repeat' first|assumption|refine D.upd ?_ (by omega)|exact D.mono (by assumption) (by omega)) <;> fail) ?_
   | refine d_nil ?_
   | refine d_rest rfl ?_
   | refine d_al2 rfl rfl rfl ?_
   | refine d_bs rfl rfl ?_
   | refine d_box rfl rfl ?_
   | refine d_alloc rfl rfl ?_
   | refine d_one rfl rfl ?_
   | refine d_next (by omega) ?_
   | refine d_laid ?_
   | fail
  refine r_calls (by simp (disch:=first|decide|(simp only[zF,zG];decide)) only [zA,zB,zC,zD,zE,zF,zG,zH,zI,zJ,zK,HV.cells,fl0,fl2,flS,flS1,flI1,flU1,flU2,flF]; try exact rfl) (by simp (disch:=first|decide|(simp only[zF,zG];decide)) only [List.map_cons,List.map_nil,List.nil_append,List.cons_append,List.append_nil,zA,zB,zC,zD,zE,zF,zG,zH,zI,zJ,zK,HV.cells,fl0,fl2,flS,flS1,flI1,flU1,flU2,flF]; try exact rfl) (c_least1 (y := hlo s r * q.2) (row_flat (k := .exact) (fun _ => rfl) (by omega) (by first|assumption|(simp (disch:=omega) only [get_same,get_other]; first|done|exact rfl)))) (fun n1 hn1 => ?_)
  repeat' first
   | refine r_nil ?_
   | refine th_n ?_
   | refine th_r ?_
   | refine w_seq ?_
   | refine w_reg ?_
   | refine w_ret ?_
   | refine w_skip ?_
   | refine r_take (by simp (disch:=first|decide|(simp only[zF,zG];decide)) only [zA,zB,zC,zD,zE,zF,zG,zH,zI,zJ,zK,HV.cells,fl0,fl2,flS,flS1,flI1,flU1,flU2,flF]; first|done|exact rfl) ?_
   | refine r_drop (by simp (disch:=first|decide|(simp only[zF,zG,Bool.not_true,Bool.not_false];decide)) only [zA,zB,zC,zD,zE,zF,zG,zH,zI,zJ,zK,HV.cells,fl0,fl2,flS,flS1,flI1,flU1,flU2,flF,Bool.not_true,Bool.not_false]; first|done|exact rfl) ?_
   | refine r_move (by simp (disch:=first|decide|(simp only[zF,zG];decide)) only [zA,zB,zC,zD,zE,zF,zG,zH,zI,zJ,zK,HV.cells,fl0,fl2,flS,flS1,flI1,flU1,flU2,flF]; try exact rfl) ?_
   | refine r_fa (by simp (disch:=first|decide|(simp only[zF,zG];decide)) only [zA,zB,zC,zD,zE,zF,zG,zH,zI,zJ,zK,HV.cells,fl0,fl2,flS,flS1,flI1,flU1,flU2,flF]; try exact rfl) ?_
   | refine r_ld1 (by simp (disch:=first|decide|(simp only[zF,zG];decide)) only [zA,zB,zC,zD,zE,zF,zG,zH,zI,zJ,zK,HV.cells,fl0,fl2,flS,flS1,flI1,flU1,flU2,flF]; try exact rfl) (by first|assumption|(simp (disch:=omega) only [get_same,get_other]; first|done|exact rfl)) (by first|assumption|exact ow2 _ _ _ _|exact ow3 _ _ _ _ _ _|rfl|(simp only [zI,zJ,HV.cells]; exact rfl)) ?_
   | refine r_ldn (by simp (disch:=first|decide|(simp only[zF,zG];decide)) only [zA,zB,zC,zD,zE,zF,zG,zH,zI,zJ,zK,HV.cells,fl0,fl2,flS,flS1,flI1,flU1,flU2,flF]; try exact rfl) (by first|assumption|(simp (disch:=omega) only [get_same,get_other]; first|done|exact rfl)) (by first|assumption|exact ow2 _ _ _ _|exact ow3 _ _ _ _ _ _|rfl|(simp only [zI,zJ,HV.cells]; exact rfl)) ?_
   | refine r_box (by simp (disch:=first|decide|(simp only[zF,zG];decide)) only [zA,zB,zC,zD,zE,zF,zG,zH,zI,zJ,zK,HV.cells,fl0,fl2,flS,flS1,flI1,flU1,flU2,flF]; try exact rfl) ?_
   | refine r_alloc ?_
   | refine r_st (cs' := _) (by simp (disch:=first|decide|(simp only[zF,zG];decide)) only [zA,zB,zC,zD,zE,zF,zG,zH,zI,zJ,zK,HV.cells,fl0,fl2,flS,flS1,flI1,flU1,flU2,flF]; try exact rfl) (by simp (disch:=first|decide|(simp only[zF,zG];decide)) only [zA,zB,zC,zD,zE,zF,zG,zH,zI,zJ,zK,HV.cells,fl0,fl2,flS,flS1,flI1,flU1,flU2,flF]; try exact rfl) (by first|assumption|(simp (disch:=omega) only [get_same,get_other]; first|done|exact rfl)) (by exact True.intro) (by rfl) (by rfl) (by first|assumption|exact ow2 _ _ _ _|exact ow3 _ _ _ _ _ _|rfl|(simp only [zI,zJ,HV.cells]; exact rfl)) (by omega) ?_
   | refine r_mul (by simp (disch:=first|decide|(simp only[zF,zG];decide)) only [zA,zB,zC,zD,zE,zF,zG,zH,zI,zJ,zK,HV.cells,fl0,fl2,flS,flS1,flI1,flU1,flU2,flF]; try exact rfl) (by simp (disch:=first|decide|(simp only[zF,zG];decide)) only [zA,zB,zC,zD,zE,zF,zG,zH,zI,zJ,zK,HV.cells,fl0,fl2,flS,flS1,flI1,flU1,flU2,flF]; try exact rfl) (by omega) (by omega) ?_
   | refine r_bs (by simp (disch:=first|decide|(simp only[zF,zG];decide)) only [evParts,List.map_cons,List.map_nil,List.nil_append,List.cons_append,List.append_nil,zA,zB,zC,zD,zE,zF,zG,zH,zI,zJ,zK,HV.cells,fl0,fl2,flS,flS1,flI1,flU1,flU2,flF]; try exact rfl) ?_
   | refine w_draw (by omega) (by (repeat' first|assumption|refine D.upd ?_ (by omega)|exact D.mono (by assumption) (by omega)) <;> fail) ?_
   | refine d_nil ?_
   | refine d_rest rfl ?_
   | refine d_al2 rfl rfl rfl ?_
   | refine d_bs rfl rfl ?_
   | refine d_box rfl rfl ?_
   | refine d_alloc rfl rfl ?_
   | refine d_one rfl rfl ?_
   | refine d_next (by omega) ?_
   | refine d_laid ?_
   | fail
  refine r_calls (by simp (disch:=first|decide|(simp only[zF,zG];decide)) only [zA,zB,zC,zD,zE,zF,zG,zH,zI,zJ,zK,HV.cells,fl0,fl2,flS,flS1,flI1,flU1,flU2,flF]; try exact rfl) (by simp (disch:=first|decide|(simp only[zF,zG];decide)) only [List.map_cons,List.map_nil,List.nil_append,List.cons_append,List.append_nil,zA,zB,zC,zD,zE,zF,zG,zH,zI,zJ,zK,HV.cells,fl0,fl2,flS,flS1,flI1,flU1,flU2,flF]; try exact rfl) (c_greatest1 (y := hhi s r * q.2) (row_flat (k := .exact) (fun _ => rfl) (by omega) (by first|assumption|(simp (disch:=omega) only [get_same,get_other]; first|done|exact rfl)))) (fun n2 hn2 => ?_)
  repeat' first
   | refine r_nil ?_
   | refine th_n ?_
   | refine th_r ?_
   | refine w_seq ?_
   | refine w_reg ?_
   | refine w_ret ?_
   | refine w_skip ?_
   | refine r_take (by simp (disch:=first|decide|(simp only[zF,zG];decide)) only [zA,zB,zC,zD,zE,zF,zG,zH,zI,zJ,zK,HV.cells,fl0,fl2,flS,flS1,flI1,flU1,flU2,flF]; first|done|exact rfl) ?_
   | refine r_drop (by simp (disch:=first|decide|(simp only[zF,zG,Bool.not_true,Bool.not_false];decide)) only [zA,zB,zC,zD,zE,zF,zG,zH,zI,zJ,zK,HV.cells,fl0,fl2,flS,flS1,flI1,flU1,flU2,flF,Bool.not_true,Bool.not_false]; first|done|exact rfl) ?_
   | refine r_move (by simp (disch:=first|decide|(simp only[zF,zG];decide)) only [zA,zB,zC,zD,zE,zF,zG,zH,zI,zJ,zK,HV.cells,fl0,fl2,flS,flS1,flI1,flU1,flU2,flF]; try exact rfl) ?_
   | refine r_fa (by simp (disch:=first|decide|(simp only[zF,zG];decide)) only [zA,zB,zC,zD,zE,zF,zG,zH,zI,zJ,zK,HV.cells,fl0,fl2,flS,flS1,flI1,flU1,flU2,flF]; try exact rfl) ?_
   | refine r_ld1 (by simp (disch:=first|decide|(simp only[zF,zG];decide)) only [zA,zB,zC,zD,zE,zF,zG,zH,zI,zJ,zK,HV.cells,fl0,fl2,flS,flS1,flI1,flU1,flU2,flF]; try exact rfl) (by first|assumption|(simp (disch:=omega) only [get_same,get_other]; first|done|exact rfl)) (by first|assumption|exact ow2 _ _ _ _|exact ow3 _ _ _ _ _ _|rfl|(simp only [zI,zJ,HV.cells]; exact rfl)) ?_
   | refine r_ldn (by simp (disch:=first|decide|(simp only[zF,zG];decide)) only [zA,zB,zC,zD,zE,zF,zG,zH,zI,zJ,zK,HV.cells,fl0,fl2,flS,flS1,flI1,flU1,flU2,flF]; try exact rfl) (by first|assumption|(simp (disch:=omega) only [get_same,get_other]; first|done|exact rfl)) (by first|assumption|exact ow2 _ _ _ _|exact ow3 _ _ _ _ _ _|rfl|(simp only [zI,zJ,HV.cells]; exact rfl)) ?_
   | refine r_box (by simp (disch:=first|decide|(simp only[zF,zG];decide)) only [zA,zB,zC,zD,zE,zF,zG,zH,zI,zJ,zK,HV.cells,fl0,fl2,flS,flS1,flI1,flU1,flU2,flF]; try exact rfl) ?_
   | refine r_alloc ?_
   | refine r_st (cs' := _) (by simp (disch:=first|decide|(simp only[zF,zG];decide)) only [zA,zB,zC,zD,zE,zF,zG,zH,zI,zJ,zK,HV.cells,fl0,fl2,flS,flS1,flI1,flU1,flU2,flF]; try exact rfl) (by simp (disch:=first|decide|(simp only[zF,zG];decide)) only [zA,zB,zC,zD,zE,zF,zG,zH,zI,zJ,zK,HV.cells,fl0,fl2,flS,flS1,flI1,flU1,flU2,flF]; try exact rfl) (by first|assumption|(simp (disch:=omega) only [get_same,get_other]; first|done|exact rfl)) (by exact True.intro) (by rfl) (by rfl) (by first|assumption|exact ow2 _ _ _ _|exact ow3 _ _ _ _ _ _|rfl|(simp only [zI,zJ,HV.cells]; exact rfl)) (by omega) ?_
   | refine r_mul (by simp (disch:=first|decide|(simp only[zF,zG];decide)) only [zA,zB,zC,zD,zE,zF,zG,zH,zI,zJ,zK,HV.cells,fl0,fl2,flS,flS1,flI1,flU1,flU2,flF]; try exact rfl) (by simp (disch:=first|decide|(simp only[zF,zG];decide)) only [zA,zB,zC,zD,zE,zF,zG,zH,zI,zJ,zK,HV.cells,fl0,fl2,flS,flS1,flI1,flU1,flU2,flF]; try exact rfl) (by omega) (by omega) ?_
   | refine r_bs (by simp (disch:=first|decide|(simp only[zF,zG];decide)) only [evParts,List.map_cons,List.map_nil,List.nil_append,List.cons_append,List.append_nil,zA,zB,zC,zD,zE,zF,zG,zH,zI,zJ,zK,HV.cells,fl0,fl2,flS,flS1,flI1,flU1,flU2,flF]; try exact rfl) ?_
   | refine r_calls (by simp (disch:=first|decide|(simp only[zF,zG];decide)) only [zA,zB,zC,zD,zE,zF,zG,zH,zI,zJ,zK,HV.cells,fl0,fl2,flS,flS1,flI1,flU1,flU2,flF]; try exact rfl) (by simp (disch:=first|decide|(simp only[zF,zG];decide)) only [List.map_cons,List.map_nil,List.nil_append,List.cons_append,List.append_nil,zA,zB,zC,zD,zE,zF,zG,zH,zI,zJ,zK,HV.cells,fl0,fl2,flS,flS1,flI1,flU1,flU2,flF]; first|done|exact rfl) c_outward (fun n' hn' => ?_)
   | refine r_calls (by simp (disch:=first|decide|(simp only[zF,zG];decide)) only [zA,zB,zC,zD,zE,zF,zG,zH,zI,zJ,zK,HV.cells,fl0,fl2,flS,flS1,flI1,flU1,flU2,flF]; try exact rfl) (by simp (disch:=first|decide|(simp only[zF,zG];decide)) only [List.map_cons,List.map_nil,List.nil_append,List.cons_append,List.append_nil,zA,zB,zC,zD,zE,zF,zG,zH,zI,zJ,zK,HV.cells,fl0,fl2,flS,flS1,flI1,flU1,flU2,flF]; first|done|exact rfl) (cG _ _ _ _) (fun n' hn' => ?_)
   | refine r_calls (by simp (disch:=first|decide|(simp only[zF,zG];decide)) only [zA,zB,zC,zD,zE,zF,zG,zH,zI,zJ,zK,HV.cells,fl0,fl2,flS,flS1,flI1,flU1,flU2,flF]; try exact rfl) (by simp (disch:=first|decide|(simp only[zF,zG];decide)) only [List.map_cons,List.map_nil,List.nil_append,List.cons_append,List.append_nil,zA,zB,zC,zD,zE,zF,zG,zH,zI,zJ,zK,HV.cells,fl0,fl2,flS,flS1,flI1,flU1,flU2,flF]; first|done|exact rfl) (cO _ _ _ (by (repeat' first|assumption|refine D.upd ?_ (by omega)|exact D.mono (by assumption) (by omega)) <;> fail)) (fun n' hn' => ?_)
   | refine w_draw (by omega) (by (repeat' first|assumption|refine D.upd ?_ (by omega)|exact D.mono (by assumption) (by omega)) <;> fail) ?_
   | refine d_nil ?_
   | refine d_rest rfl ?_
   | refine d_al2 rfl rfl rfl ?_
   | refine d_bs rfl rfl ?_
   | refine d_box rfl rfl ?_
   | refine d_alloc rfl rfl ?_
   | refine d_one rfl rfl ?_
   | refine d_next (by omega) ?_
   | refine d_laid ?_
   | fail
  exact fin_m (by simp only [zL,zM]) (res_c (by simp (disch:=first|decide|(simp only[zF,zG];decide)) only [zA,zB,zC,zD,zE,zF,zG,zH,zI,zJ,zK,HV.cells,fl0,fl2,flS,flS1,flI1,flU1,flU2,flF]; try exact rfl) (by first|assumption|(simp (disch:=omega) only [get_same,get_other]; first|done|exact rfl)) rfl res_nil) (sc_flat rfl (by dsimp only; omega) rfl)
end Go.Hx

/- Layer 3: the functions of the law and of the reference. -/
namespace Go.Hx
set_option linter.unusedSimpArgs false
set_option linter.unusedVariables false
set_option maxRecDepth 20000
set_option maxHeartbeats 4000000
attribute [local irreducible] W R C thenH inBlockH
/- 58 -/
theorem c_Size {fl : Nat} {h : Tr HBlk} {nx : Nat} {s : Int × Int} (hs : SOk s.1 s.2) : C LW fl 58 [.agg (renc s)] ⟨h, nx⟩ (Sc (· = i64 (2 * dg s)) ⟨h, nx⟩) := by
  have hS := hs
  unfold SOk at hS
  refine c_in lw58 rfl rfl rfl ?_
  dsimp only [L58]
  repeat' first
   | refine r_nil ?_
   | refine th_n ?_
   | refine th_r ?_
   | refine w_seq ?_
   | refine w_reg ?_
   | refine w_ret ?_
   | refine w_skip ?_
   | refine w_t (by simp (disch:=first|decide|(simp only[zF,zG];decide)) only [zA,zB,zC,zD,zE,zF,zG,zH,zI,zJ,zK,HV.cells,fl0,fl2,flS,flS1,flI1,flU1,flU2,flF]; first|done|exact rfl) ?_
   | refine w_f (by simp (disch:=first|decide|(simp only[zF,zG];decide)) only [zA,zB,zC,zD,zE,zF,zG,zH,zI,zJ,zK,HV.cells,fl0,fl2,flS,flS1,flI1,flU1,flU2,flF]; first|done|exact rfl) ?_
   | refine r_move (by simp (disch:=first|decide|(simp only[zF,zG];decide)) only [zA,zB,zC,zD,zE,zF,zG,zH,zI,zJ,zK,HV.cells,fl0,fl2,flS,flS1,flI1,flU1,flU2,flF]; try exact rfl) ?_
   | refine r_fa (by simp (disch:=first|decide|(simp only[zF,zG];decide)) only [zA,zB,zC,zD,zE,zF,zG,zH,zI,zJ,zK,HV.cells,fl0,fl2,flS,flS1,flI1,flU1,flU2,flF]; try exact rfl) ?_
   | refine r_ld1 (by simp (disch:=first|decide|(simp only[zF,zG];decide)) only [zA,zB,zC,zD,zE,zF,zG,zH,zI,zJ,zK,HV.cells,fl0,fl2,flS,flS1,flI1,flU1,flU2,flF]; try exact rfl) (by first|assumption|(simp (disch:=omega) only [get_same,get_other]; first|done|exact rfl)) (by first|assumption|exact ow2 _ _ _ _|exact ow3 _ _ _ _ _ _|rfl|(simp only [zI,zJ,HV.cells]; exact rfl)) ?_
   | refine r_box (by simp (disch:=first|decide|(simp only[zF,zG];decide)) only [zA,zB,zC,zD,zE,zF,zG,zH,zI,zJ,zK,HV.cells,fl0,fl2,flS,flS1,flI1,flU1,flU2,flF]; try exact rfl) ?_
   | refine r_sub (by simp (disch:=first|decide|(simp only[zF,zG];decide)) only [zA,zB,zC,zD,zE,zF,zG,zH,zI,zJ,zK,HV.cells,fl0,fl2,flS,flS1,flI1,flU1,flU2,flF]; try exact rfl) (by simp (disch:=first|decide|(simp only[zF,zG];decide)) only [zA,zB,zC,zD,zE,zF,zG,zH,zI,zJ,zK,HV.cells,fl0,fl2,flS,flS1,flI1,flU1,flU2,flF]; try exact rfl) (by omega) (by omega) ?_
   | refine r_mul (by simp (disch:=first|decide|(simp only[zF,zG];decide)) only [zA,zB,zC,zD,zE,zF,zG,zH,zI,zJ,zK,HV.cells,fl0,fl2,flS,flS1,flI1,flU1,flU2,flF]; try exact rfl) (by simp (disch:=first|decide|(simp only[zF,zG];decide)) only [zA,zB,zC,zD,zE,zF,zG,zH,zI,zJ,zK,HV.cells,fl0,fl2,flS,flS1,flI1,flU1,flU2,flF]; try exact rfl) (by omega) (by omega) ?_
   | refine r_gtr (by simp (disch:=first|decide|(simp only[zF,zG];decide)) only [zA,zB,zC,zD,zE,zF,zG,zH,zI,zJ,zK,HV.cells,fl0,fl2,flS,flS1,flI1,flU1,flU2,flF]; try exact rfl) (by simp (disch:=first|decide|(simp only[zF,zG];decide)) only [zA,zB,zC,zD,zE,zF,zG,zH,zI,zJ,zK,HV.cells,fl0,fl2,flS,flS1,flI1,flU1,flU2,flF]; try exact rfl) (fun hc => ?_) (fun hc => ?_) <;> (try (exfalso; omega))
   | fail
  all_goals
    refine fin_r (by simp only [zL,zM]) (by simp (disch:=first|decide|(simp only[zF,zG];decide)) only [zA,zB,zC,zD,zE,zF,zG,zH,zI,zJ,zK,HV.cells,fl0,fl2,flS,flS1,flI1,flU1,flU2,flF]; try exact rfl) (sc_flat rfl (by dsimp only; omega) ?_)
    unfold dg ic st
    first
      | rw [if_pos (by omega), if_pos (by omega)]
      | (rw [if_neg (by omega), if_neg (by omega)]; congr 1; omega)
/-- Half degrees of a point nearer to steam than ice is. -/
def abv (s : Int × Int) (p : Int) : Int := if s.2 > s.1 then p - 2 * s.1 else 2 * s.1 - p
/- 83 -/
theorem c_Above {fl : Nat} {h : Tr HBlk} {nx : Nat} {s : Int × Int} {p : Int} (hs : SOk s.1 s.2) (hp : Mid p) : C LW fl 83 [.agg (renc s), i64 p] ⟨h, nx⟩ (Sc (· = i64 (abv s p)) ⟨h, nx⟩) := by
  unfold SOk at hs
  unfold Mid at hp
  refine c_in lw83 rfl rfl rfl ?_
  dsimp only [L83]
  repeat' first
   | refine r_nil ?_
   | refine th_n ?_
   | refine th_r ?_
   | refine w_seq ?_
   | refine w_reg ?_
   | refine w_ret ?_
   | refine w_skip ?_
   | refine w_t (by simp (disch:=first|decide|(simp only[zF,zG];decide)) only [zA,zB,zC,zD,zE,zF,zG,zH,zI,zJ,zK,HV.cells,fl0,fl2,flS,flS1,flI1,flU1,flU2,flF]; first|done|exact rfl) ?_
   | refine w_f (by simp (disch:=first|decide|(simp only[zF,zG];decide)) only [zA,zB,zC,zD,zE,zF,zG,zH,zI,zJ,zK,HV.cells,fl0,fl2,flS,flS1,flI1,flU1,flU2,flF]; first|done|exact rfl) ?_
   | refine r_move (by simp (disch:=first|decide|(simp only[zF,zG];decide)) only [zA,zB,zC,zD,zE,zF,zG,zH,zI,zJ,zK,HV.cells,fl0,fl2,flS,flS1,flI1,flU1,flU2,flF]; try exact rfl) ?_
   | refine r_fa (by simp (disch:=first|decide|(simp only[zF,zG];decide)) only [zA,zB,zC,zD,zE,zF,zG,zH,zI,zJ,zK,HV.cells,fl0,fl2,flS,flS1,flI1,flU1,flU2,flF]; try exact rfl) ?_
   | refine r_ld1 (by simp (disch:=first|decide|(simp only[zF,zG];decide)) only [zA,zB,zC,zD,zE,zF,zG,zH,zI,zJ,zK,HV.cells,fl0,fl2,flS,flS1,flI1,flU1,flU2,flF]; try exact rfl) (by first|assumption|(simp (disch:=omega) only [get_same,get_other]; first|done|exact rfl)) (by first|assumption|exact ow2 _ _ _ _|exact ow3 _ _ _ _ _ _|rfl|(simp only [zI,zJ,HV.cells]; exact rfl)) ?_
   | refine r_box (by simp (disch:=first|decide|(simp only[zF,zG];decide)) only [zA,zB,zC,zD,zE,zF,zG,zH,zI,zJ,zK,HV.cells,fl0,fl2,flS,flS1,flI1,flU1,flU2,flF]; try exact rfl) ?_
   | refine r_sub (by simp (disch:=first|decide|(simp only[zF,zG];decide)) only [zA,zB,zC,zD,zE,zF,zG,zH,zI,zJ,zK,HV.cells,fl0,fl2,flS,flS1,flI1,flU1,flU2,flF]; try exact rfl) (by simp (disch:=first|decide|(simp only[zF,zG];decide)) only [zA,zB,zC,zD,zE,zF,zG,zH,zI,zJ,zK,HV.cells,fl0,fl2,flS,flS1,flI1,flU1,flU2,flF]; try exact rfl) (by omega) (by omega) ?_
   | refine r_mul (by simp (disch:=first|decide|(simp only[zF,zG];decide)) only [zA,zB,zC,zD,zE,zF,zG,zH,zI,zJ,zK,HV.cells,fl0,fl2,flS,flS1,flI1,flU1,flU2,flF]; try exact rfl) (by simp (disch:=first|decide|(simp only[zF,zG];decide)) only [zA,zB,zC,zD,zE,zF,zG,zH,zI,zJ,zK,HV.cells,fl0,fl2,flS,flS1,flI1,flU1,flU2,flF]; try exact rfl) (by omega) (by omega) ?_
   | refine r_gtr (by simp (disch:=first|decide|(simp only[zF,zG];decide)) only [zA,zB,zC,zD,zE,zF,zG,zH,zI,zJ,zK,HV.cells,fl0,fl2,flS,flS1,flI1,flU1,flU2,flF]; try exact rfl) (by simp (disch:=first|decide|(simp only[zF,zG];decide)) only [zA,zB,zC,zD,zE,zF,zG,zH,zI,zJ,zK,HV.cells,fl0,fl2,flS,flS1,flI1,flU1,flU2,flF]; try exact rfl) (fun hc => ?_) (fun hc => ?_) <;> (try (exfalso; omega))
   | fail
  all_goals
    refine fin_r (by simp only [zL,zM]) (by simp (disch:=first|decide|(simp only[zF,zG];decide)) only [zA,zB,zC,zD,zE,zF,zG,zH,zI,zJ,zK,HV.cells,fl0,fl2,flS,flS1,flI1,flU1,flU2,flF]; try exact rfl) (sc_flat rfl (by dsimp only; omega) ?_)
    unfold abv
    first
      | rw [if_pos hc]
      | rw [if_neg hc]
def RB (r : Int × Int) : Prop := r.1 ≤ r.2 ∧ -2000000 ≤ r.1 ∧ r.2 ≤ 2000000
theorem ROk.rb {r : Int × Int} (h : ROk r.1 r.2) : RB r := by unfold ROk at h; unfold RB; omega
/- 56 -/
theorem c_Allowed {fl : Nat} {h : Tr HBlk} {nx : Nat} (hd : D h nx) {s r : Int × Int} (hs : SOk s.1 s.2) (hr : RB r) : C LW fl 56 [.agg (renc s), .agg (renc r)] ⟨h, nx⟩ (Sc (· = .agg (renc (hlo s r, hhi s r))) ⟨h, nx⟩) := by
  have hS := hs
  unfold SOk at hS
  unfold RB at hr
  have cA : ∀ fl h' n' p, (-4000001 ≤ p ∧ p ≤ 4000001) → C LW fl 83 [.agg (renc s), i64 p] ⟨h', n'⟩ (Sc (· = i64 (abv s p)) ⟨h', n'⟩) := fun fl h' n' p hp => c_Above hs (by unfold Mid; omega)
  have e1 : min (abv s (2 * r.1 - 1)) (abv s (2 * r.2 + 1)) = hlo s r := by
    unfold abv hlo tl tn ic
    by_cases e : s.1 < s.2
    · rw [if_pos (by omega), if_pos (by omega), if_pos e, decide_eq_false (by omega)]; simp only [Bool.false_eq_true, if_false]; omega
    · rw [if_neg (by omega), if_neg (by omega), if_neg e, decide_eq_true (by omega)]; simp only [if_true]; omega
  have e2 : max (abv s (2 * r.1 - 1)) (abv s (2 * r.2 + 1)) = hhi s r := by
    unfold abv hhi th tn ic
    by_cases e : s.1 < s.2
    · rw [if_pos (by omega), if_pos (by omega), if_pos e, decide_eq_false (by omega)]; simp only [Bool.false_eq_true, if_false]; omega
    · rw [if_neg (by omega), if_neg (by omega), if_neg e, decide_eq_true (by omega)]; simp only [if_true]; omega
  refine c_in lw56 rfl rfl rfl ?_
  dsimp only [L56]
  repeat' first
   | refine r_nil ?_
   | refine th_n ?_
   | refine th_r ?_
   | refine w_seq ?_
   | refine w_reg ?_
   | refine w_ret ?_
   | refine w_skip ?_
   | refine r_move (by simp (disch:=first|decide|(simp only[zF,zG,e1, e2];decide)) only [zA,zB,zC,zD,zE,zF,zG,zH,zI,zJ,zK,HV.cells,fl0,fl2,flS,flS1,flI1,flU1,flU2,flF,e1, e2]; try exact rfl) ?_
   | refine r_fa (by simp (disch:=first|decide|(simp only[zF,zG,e1, e2];decide)) only [zA,zB,zC,zD,zE,zF,zG,zH,zI,zJ,zK,HV.cells,fl0,fl2,flS,flS1,flI1,flU1,flU2,flF,e1, e2]; try exact rfl) ?_
   | refine r_ld1 (by simp (disch:=first|decide|(simp only[zF,zG,e1, e2];decide)) only [zA,zB,zC,zD,zE,zF,zG,zH,zI,zJ,zK,HV.cells,fl0,fl2,flS,flS1,flI1,flU1,flU2,flF,e1, e2]; try exact rfl) (by first|assumption|(simp (disch:=omega) only [get_same,get_other,e1, e2]; first|done|exact rfl)) (by first|assumption|exact ow2 _ _ _ _|exact ow3 _ _ _ _ _ _|rfl|(simp only [zI,zJ,HV.cells,e1, e2]; exact rfl)) ?_
   | refine r_ldn (by simp (disch:=first|decide|(simp only[zF,zG,e1, e2];decide)) only [zA,zB,zC,zD,zE,zF,zG,zH,zI,zJ,zK,HV.cells,fl0,fl2,flS,flS1,flI1,flU1,flU2,flF,e1, e2]; try exact rfl) (by first|assumption|(simp (disch:=omega) only [get_same,get_other,e1, e2]; first|done|exact rfl)) (by first|assumption|exact ow2 _ _ _ _|exact ow3 _ _ _ _ _ _|rfl|(simp only [zI,zJ,HV.cells,e1, e2]; exact rfl)) ?_
   | refine r_box (by simp (disch:=first|decide|(simp only[zF,zG,e1, e2];decide)) only [zA,zB,zC,zD,zE,zF,zG,zH,zI,zJ,zK,HV.cells,fl0,fl2,flS,flS1,flI1,flU1,flU2,flF,e1, e2]; try exact rfl) ?_
   | refine r_alloc ?_
   | refine r_st (cs' := _) (by simp (disch:=first|decide|(simp only[zF,zG,e1, e2];decide)) only [zA,zB,zC,zD,zE,zF,zG,zH,zI,zJ,zK,HV.cells,fl0,fl2,flS,flS1,flI1,flU1,flU2,flF,e1, e2]; try exact rfl) (by simp (disch:=first|decide|(simp only[zF,zG,e1, e2];decide)) only [zA,zB,zC,zD,zE,zF,zG,zH,zI,zJ,zK,HV.cells,fl0,fl2,flS,flS1,flI1,flU1,flU2,flF,e1, e2]; try exact rfl) (by first|assumption|(simp (disch:=omega) only [get_same,get_other,e1, e2]; first|done|exact rfl)) (by exact True.intro) (by rfl) (by rfl) (by first|assumption|exact ow2 _ _ _ _|exact ow3 _ _ _ _ _ _|rfl|(simp only [zI,zJ,HV.cells,e1, e2]; exact rfl)) (by omega) ?_
   | refine r_add (by simp (disch:=first|decide|(simp only[zF,zG,e1, e2];decide)) only [zA,zB,zC,zD,zE,zF,zG,zH,zI,zJ,zK,HV.cells,fl0,fl2,flS,flS1,flI1,flU1,flU2,flF,e1, e2]; try exact rfl) (by simp (disch:=first|decide|(simp only[zF,zG,e1, e2];decide)) only [zA,zB,zC,zD,zE,zF,zG,zH,zI,zJ,zK,HV.cells,fl0,fl2,flS,flS1,flI1,flU1,flU2,flF,e1, e2]; try exact rfl) (by omega) (by omega) ?_
   | refine r_sub (by simp (disch:=first|decide|(simp only[zF,zG,e1, e2];decide)) only [zA,zB,zC,zD,zE,zF,zG,zH,zI,zJ,zK,HV.cells,fl0,fl2,flS,flS1,flI1,flU1,flU2,flF,e1, e2]; try exact rfl) (by simp (disch:=first|decide|(simp only[zF,zG,e1, e2];decide)) only [zA,zB,zC,zD,zE,zF,zG,zH,zI,zJ,zK,HV.cells,fl0,fl2,flS,flS1,flI1,flU1,flU2,flF,e1, e2]; try exact rfl) (by omega) (by omega) ?_
   | refine r_mul (by simp (disch:=first|decide|(simp only[zF,zG,e1, e2];decide)) only [zA,zB,zC,zD,zE,zF,zG,zH,zI,zJ,zK,HV.cells,fl0,fl2,flS,flS1,flI1,flU1,flU2,flF,e1, e2]; try exact rfl) (by simp (disch:=first|decide|(simp only[zF,zG,e1, e2];decide)) only [zA,zB,zC,zD,zE,zF,zG,zH,zI,zJ,zK,HV.cells,fl0,fl2,flS,flS1,flI1,flU1,flU2,flF,e1, e2]; try exact rfl) (by omega) (by omega) ?_
   | refine r_max2 (by simp (disch:=first|decide|(simp only[zF,zG,e1, e2];decide)) only [zA,zB,zC,zD,zE,zF,zG,zH,zI,zJ,zK,HV.cells,fl0,fl2,flS,flS1,flI1,flU1,flU2,flF,e1, e2]; try exact rfl) (by simp (disch:=first|decide|(simp only[zF,zG,e1, e2];decide)) only [zA,zB,zC,zD,zE,zF,zG,zH,zI,zJ,zK,HV.cells,fl0,fl2,flS,flS1,flI1,flU1,flU2,flF,e1, e2]; try exact rfl) ?_
   | refine r_min2 (by simp (disch:=first|decide|(simp only[zF,zG,e1, e2];decide)) only [zA,zB,zC,zD,zE,zF,zG,zH,zI,zJ,zK,HV.cells,fl0,fl2,flS,flS1,flI1,flU1,flU2,flF,e1, e2]; try exact rfl) (by simp (disch:=first|decide|(simp only[zF,zG,e1, e2];decide)) only [zA,zB,zC,zD,zE,zF,zG,zH,zI,zJ,zK,HV.cells,fl0,fl2,flS,flS1,flI1,flU1,flU2,flF,e1, e2]; try exact rfl) ?_
   | refine r_build (by simp (disch:=first|decide|(simp only[zF,zG,e1, e2];decide)) only [evParts,List.map_cons,List.map_nil,List.nil_append,List.cons_append,List.append_nil,zA,zB,zC,zD,zE,zF,zG,zH,zI,zJ,zK,HV.cells,fl0,fl2,flS,flS1,flI1,flU1,flU2,flF,e1, e2]; try exact rfl) ?_
   | refine r_calls (by simp (disch:=first|decide|(simp only[zF,zG,e1, e2];decide)) only [zA,zB,zC,zD,zE,zF,zG,zH,zI,zJ,zK,HV.cells,fl0,fl2,flS,flS1,flI1,flU1,flU2,flF,e1, e2]; try exact rfl) (by simp (disch:=first|decide|(simp only[zF,zG,e1, e2];decide)) only [List.map_cons,List.map_nil,List.nil_append,List.cons_append,List.append_nil,zA,zB,zC,zD,zE,zF,zG,zH,zI,zJ,zK,HV.cells,fl0,fl2,flS,flS1,flI1,flU1,flU2,flF,e1, e2]; first|done|exact rfl) (cA _ _ _ _ (by omega)) (fun n' hn' => ?_)
   | refine w_draw (by omega) (by (repeat' first|assumption|refine D.upd ?_ (by omega)|exact D.mono (by assumption) (by omega)) <;> fail) ?_
   | refine d_nil ?_
   | refine d_rest rfl ?_
   | refine d_al2 rfl rfl rfl ?_
   | refine d_bs rfl rfl ?_
   | refine d_box rfl rfl ?_
   | refine d_alloc rfl rfl ?_
   | refine d_one rfl rfl ?_
   | refine d_next (by omega) ?_
   | refine d_laid ?_
   | fail
  exact fin_m (by simp only [zL,zM]) (res_c (by simp (disch:=first|decide|(simp only[zF,zG];decide)) only [zA,zB,zC,zD,zE,zF,zG,zH,zI,zJ,zK,HV.cells,fl0,fl2,flS,flS1,flI1,flU1,flU2,flF]; try exact rfl) (by first|assumption|(simp (disch:=omega) only [get_same,get_other]; first|done|exact rfl)) rfl res_nil) (sc_flat rfl (by dsimp only; omega) rfl)
theorem td_cpos {m n : Int} (h1 : 0 < n) (h : 0 < Int.tmod m n) : Int.tdiv m n + 1 = cdiv m n := by
  have := td_neg (m := -m) h1 (by rw [Int.neg_tmod]; omega)
  rw [Int.neg_tdiv] at this
  unfold cdiv
  omega
theorem td_cneg {m n : Int} (h1 : 0 < n) (h : ¬ 0 < Int.tmod m n) : Int.tdiv m n = cdiv m n := by
  have := td_pos (m := -m) h1 (by rw [Int.neg_tmod]; omega)
  rw [Int.neg_tdiv] at this
  unfold cdiv
  omega
theorem td_abs {m n : Int} (hn : 0 < n) : (0 ≤ m → 0 ≤ Int.tdiv m n ∧ Int.tdiv m n ≤ m) ∧ (m ≤ 0 → m ≤ Int.tdiv m n ∧ Int.tdiv m n ≤ 0) := by
  constructor
  · intro g
    rw [Int.tdiv_eq_ediv_of_nonneg g]
    exact ⟨Int.ediv_nonneg g (by omega), Int.ediv_le_self n g⟩
  · intro g
    have e : Int.tdiv m n = -((-m) / n) := by rw [← Int.tdiv_eq_ediv_of_nonneg (by omega), Int.neg_tdiv]; omega
    have d1 : 0 ≤ -m / n := Int.ediv_nonneg (by omega) (by omega)
    have d2 : -m / n ≤ -m := Int.ediv_le_self n (by omega)
    omega
/- 57 -/
theorem c_Floor {fl : Nat} {h : Tr HBlk} {nx : Nat} {m n : Int} (hm : Big m) (hn : 0 < n) (hn2 : n ≤ 1000000000000) : C LW fl 57 [i64 m, i64 n] ⟨h, nx⟩ (Sc (· = i64 (m / n)) ⟨h, nx⟩) := by
  unfold Big at hm
  obtain ⟨e1, e2, e3⟩ := tm_bd (m := m) hn
  rw [Int.mul_comm] at e1
  have e4 : (Int.tdiv m n - 1) * n = Int.tdiv m n * n - n := by rw [Int.sub_mul, Int.one_mul]
  have e5 := td_abs (m := m) hn
  refine c_in lw57 rfl rfl rfl ?_
  dsimp only [L57]
  repeat' first
   | refine r_nil ?_
   | refine th_n ?_
   | refine th_r ?_
   | refine th_e ?_
   | refine ib_n ?_
   | refine ib_r ?_
   | refine ib_e ?_
   | refine ib_x (by decide) ?_
   | refine w_exit ?_
   | refine w_seq ?_
   | refine w_reg ?_
   | refine w_ret ?_
   | refine w_skip ?_
   | refine w_block ?_
   | refine w_t (by simp (disch:=first|decide|(simp only[zF,zG];decide)) only [zA,zB,zC,zD,zE,zF,zG,zH,zI,zJ,zK,HV.cells,fl0,fl2,flS,flS1,flI1,flU1,flU2,flF]; first|done|exact rfl) ?_
   | refine w_f (by simp (disch:=first|decide|(simp only[zF,zG];decide)) only [zA,zB,zC,zD,zE,zF,zG,zH,zI,zJ,zK,HV.cells,fl0,fl2,flS,flS1,flI1,flU1,flU2,flF]; first|done|exact rfl) ?_
   | refine r_move (by simp (disch:=first|decide|(simp only[zF,zG];decide)) only [zA,zB,zC,zD,zE,zF,zG,zH,zI,zJ,zK,HV.cells,fl0,fl2,flS,flS1,flI1,flU1,flU2,flF]; try exact rfl) ?_
   | refine r_sub (by simp (disch:=first|decide|(simp only[zF,zG];decide)) only [zA,zB,zC,zD,zE,zF,zG,zH,zI,zJ,zK,HV.cells,fl0,fl2,flS,flS1,flI1,flU1,flU2,flF]; try exact rfl) (by simp (disch:=first|decide|(simp only[zF,zG];decide)) only [zA,zB,zC,zD,zE,zF,zG,zH,zI,zJ,zK,HV.cells,fl0,fl2,flS,flS1,flI1,flU1,flU2,flF]; try exact rfl) (by omega) (by omega) ?_
   | refine r_mul (by simp (disch:=first|decide|(simp only[zF,zG];decide)) only [zA,zB,zC,zD,zE,zF,zG,zH,zI,zJ,zK,HV.cells,fl0,fl2,flS,flS1,flI1,flU1,flU2,flF]; try exact rfl) (by simp (disch:=first|decide|(simp only[zF,zG];decide)) only [zA,zB,zC,zD,zE,zF,zG,zH,zI,zJ,zK,HV.cells,fl0,fl2,flS,flS1,flI1,flU1,flU2,flF]; try exact rfl) (by omega) (by omega) ?_
   | refine r_gtr (by simp (disch:=first|decide|(simp only[zF,zG];decide)) only [zA,zB,zC,zD,zE,zF,zG,zH,zI,zJ,zK,HV.cells,fl0,fl2,flS,flS1,flI1,flU1,flU2,flF]; try exact rfl) (by simp (disch:=first|decide|(simp only[zF,zG];decide)) only [zA,zB,zC,zD,zE,zF,zG,zH,zI,zJ,zK,HV.cells,fl0,fl2,flS,flS1,flI1,flU1,flU2,flF]; try exact rfl) (fun hc => ?_) (fun hc => ?_) <;> (try (exfalso; omega))
   | refine r_quot (by simp (disch:=first|decide|(simp only[zF,zG];decide)) only [zA,zB,zC,zD,zE,zF,zG,zH,zI,zJ,zK,HV.cells,fl0,fl2,flS,flS1,flI1,flU1,flU2,flF]; try exact rfl) (by simp (disch:=first|decide|(simp only[zF,zG];decide)) only [zA,zB,zC,zD,zE,zF,zG,zH,zI,zJ,zK,HV.cells,fl0,fl2,flS,flS1,flI1,flU1,flU2,flF]; try exact rfl) (by omega) (by omega) ?_
   | fail
  refine w_it (show L57w0 = _ by unfold L57w0; exact rfl) ?_
  repeat' first
   | refine r_nil ?_
   | refine th_n ?_
   | refine th_r ?_
   | refine th_e ?_
   | refine ib_n ?_
   | refine ib_r ?_
   | refine ib_e ?_
   | refine ib_x (by decide) ?_
   | refine w_exit ?_
   | refine w_seq ?_
   | refine w_reg ?_
   | refine w_ret ?_
   | refine w_skip ?_
   | refine w_block ?_
   | refine w_t (by simp (disch:=first|decide|(simp only[zF,zG];decide)) only [zA,zB,zC,zD,zE,zF,zG,zH,zI,zJ,zK,HV.cells,fl0,fl2,flS,flS1,flI1,flU1,flU2,flF]; first|done|exact rfl) ?_
   | refine w_f (by simp (disch:=first|decide|(simp only[zF,zG];decide)) only [zA,zB,zC,zD,zE,zF,zG,zH,zI,zJ,zK,HV.cells,fl0,fl2,flS,flS1,flI1,flU1,flU2,flF]; first|done|exact rfl) ?_
   | refine r_move (by simp (disch:=first|decide|(simp only[zF,zG];decide)) only [zA,zB,zC,zD,zE,zF,zG,zH,zI,zJ,zK,HV.cells,fl0,fl2,flS,flS1,flI1,flU1,flU2,flF]; try exact rfl) ?_
   | refine r_sub (by simp (disch:=first|decide|(simp only[zF,zG];decide)) only [zA,zB,zC,zD,zE,zF,zG,zH,zI,zJ,zK,HV.cells,fl0,fl2,flS,flS1,flI1,flU1,flU2,flF]; try exact rfl) (by simp (disch:=first|decide|(simp only[zF,zG];decide)) only [zA,zB,zC,zD,zE,zF,zG,zH,zI,zJ,zK,HV.cells,fl0,fl2,flS,flS1,flI1,flU1,flU2,flF]; try exact rfl) (by omega) (by omega) ?_
   | refine r_mul (by simp (disch:=first|decide|(simp only[zF,zG];decide)) only [zA,zB,zC,zD,zE,zF,zG,zH,zI,zJ,zK,HV.cells,fl0,fl2,flS,flS1,flI1,flU1,flU2,flF]; try exact rfl) (by simp (disch:=first|decide|(simp only[zF,zG];decide)) only [zA,zB,zC,zD,zE,zF,zG,zH,zI,zJ,zK,HV.cells,fl0,fl2,flS,flS1,flI1,flU1,flU2,flF]; try exact rfl) (by omega) (by omega) ?_
   | refine r_gtr (by simp (disch:=first|decide|(simp only[zF,zG];decide)) only [zA,zB,zC,zD,zE,zF,zG,zH,zI,zJ,zK,HV.cells,fl0,fl2,flS,flS1,flI1,flU1,flU2,flF]; try exact rfl) (by simp (disch:=first|decide|(simp only[zF,zG];decide)) only [zA,zB,zC,zD,zE,zF,zG,zH,zI,zJ,zK,HV.cells,fl0,fl2,flS,flS1,flI1,flU1,flU2,flF]; try exact rfl) (fun hc => ?_) (fun hc => ?_) <;> (try (exfalso; omega))
   | refine r_quot (by simp (disch:=first|decide|(simp only[zF,zG];decide)) only [zA,zB,zC,zD,zE,zF,zG,zH,zI,zJ,zK,HV.cells,fl0,fl2,flS,flS1,flI1,flU1,flU2,flF]; try exact rfl) (by simp (disch:=first|decide|(simp only[zF,zG];decide)) only [zA,zB,zC,zD,zE,zF,zG,zH,zI,zJ,zK,HV.cells,fl0,fl2,flS,flS1,flI1,flU1,flU2,flF]; try exact rfl) (by omega) (by omega) ?_
   | fail
  · refine w_it (show L57w0 = _ by unfold L57w0; exact rfl) ?_
    repeat' first
     | refine r_nil ?_
     | refine th_n ?_
     | refine th_r ?_
     | refine th_e ?_
     | refine ib_n ?_
     | refine ib_r ?_
     | refine ib_e ?_
     | refine ib_x (by decide) ?_
     | refine w_exit ?_
     | refine w_seq ?_
     | refine w_reg ?_
     | refine w_ret ?_
     | refine w_skip ?_
     | refine w_block ?_
     | refine w_t (by simp (disch:=first|decide|(simp only[zF,zG];decide)) only [zA,zB,zC,zD,zE,zF,zG,zH,zI,zJ,zK,HV.cells,fl0,fl2,flS,flS1,flI1,flU1,flU2,flF]; first|done|exact rfl) ?_
     | refine w_f (by simp (disch:=first|decide|(simp only[zF,zG];decide)) only [zA,zB,zC,zD,zE,zF,zG,zH,zI,zJ,zK,HV.cells,fl0,fl2,flS,flS1,flI1,flU1,flU2,flF]; first|done|exact rfl) ?_
     | refine r_move (by simp (disch:=first|decide|(simp only[zF,zG];decide)) only [zA,zB,zC,zD,zE,zF,zG,zH,zI,zJ,zK,HV.cells,fl0,fl2,flS,flS1,flI1,flU1,flU2,flF]; try exact rfl) ?_
     | refine r_sub (by simp (disch:=first|decide|(simp only[zF,zG];decide)) only [zA,zB,zC,zD,zE,zF,zG,zH,zI,zJ,zK,HV.cells,fl0,fl2,flS,flS1,flI1,flU1,flU2,flF]; try exact rfl) (by simp (disch:=first|decide|(simp only[zF,zG];decide)) only [zA,zB,zC,zD,zE,zF,zG,zH,zI,zJ,zK,HV.cells,fl0,fl2,flS,flS1,flI1,flU1,flU2,flF]; try exact rfl) (by omega) (by omega) ?_
     | refine r_mul (by simp (disch:=first|decide|(simp only[zF,zG];decide)) only [zA,zB,zC,zD,zE,zF,zG,zH,zI,zJ,zK,HV.cells,fl0,fl2,flS,flS1,flI1,flU1,flU2,flF]; try exact rfl) (by simp (disch:=first|decide|(simp only[zF,zG];decide)) only [zA,zB,zC,zD,zE,zF,zG,zH,zI,zJ,zK,HV.cells,fl0,fl2,flS,flS1,flI1,flU1,flU2,flF]; try exact rfl) (by omega) (by omega) ?_
     | refine r_gtr (by simp (disch:=first|decide|(simp only[zF,zG];decide)) only [zA,zB,zC,zD,zE,zF,zG,zH,zI,zJ,zK,HV.cells,fl0,fl2,flS,flS1,flI1,flU1,flU2,flF]; try exact rfl) (by simp (disch:=first|decide|(simp only[zF,zG];decide)) only [zA,zB,zC,zD,zE,zF,zG,zH,zI,zJ,zK,HV.cells,fl0,fl2,flS,flS1,flI1,flU1,flU2,flF]; try exact rfl) (fun hc => ?_) (fun hc => ?_) <;> (try (exfalso; omega))
     | refine r_quot (by simp (disch:=first|decide|(simp only[zF,zG];decide)) only [zA,zB,zC,zD,zE,zF,zG,zH,zI,zJ,zK,HV.cells,fl0,fl2,flS,flS1,flI1,flU1,flU2,flF]; try exact rfl) (by simp (disch:=first|decide|(simp only[zF,zG];decide)) only [zA,zB,zC,zD,zE,zF,zG,zH,zI,zJ,zK,HV.cells,fl0,fl2,flS,flS1,flI1,flU1,flU2,flF]; try exact rfl) (by omega) (by omega) ?_
     | fail
    refine fin_r (by simp only [zL,zM]) (by simp (disch:=first|decide|(simp only[zF,zG];decide)) only [zA,zB,zC,zD,zE,zF,zG,zH,zI,zJ,zK,HV.cells,fl0,fl2,flS,flS1,flI1,flU1,flU2,flF]; try exact rfl) (sc_flat rfl (by dsimp only; omega) ?_); rw [td_neg hn (by omega)]
  · refine fin_r (by simp only [zL,zM]) (by simp (disch:=first|decide|(simp only[zF,zG];decide)) only [zA,zB,zC,zD,zE,zF,zG,zH,zI,zJ,zK,HV.cells,fl0,fl2,flS,flS1,flI1,flU1,flU2,flF]; try exact rfl) (sc_flat rfl (by dsimp only; omega) ?_); rw [td_pos hn (by omega)]
/- 59 -/
theorem c_Ceil {fl : Nat} {h : Tr HBlk} {nx : Nat} {m n : Int} (hm : Big m) (hn : 0 < n) (hn2 : n ≤ 1000000000000) : C LW fl 59 [i64 m, i64 n] ⟨h, nx⟩ (Sc (· = i64 (cdiv m n)) ⟨h, nx⟩) := by
  unfold Big at hm
  obtain ⟨e1, e2, e3⟩ := tm_bd (m := m) hn
  rw [Int.mul_comm] at e1
  have e4 : (Int.tdiv m n + 1) * n = Int.tdiv m n * n + n := by rw [Int.add_mul, Int.one_mul]
  have e5 := td_abs (m := m) hn
  refine c_in lw59 rfl rfl rfl ?_
  dsimp only [L59]
  repeat' first
   | refine r_nil ?_
   | refine th_n ?_
   | refine th_r ?_
   | refine th_e ?_
   | refine ib_n ?_
   | refine ib_r ?_
   | refine ib_e ?_
   | refine ib_x (by decide) ?_
   | refine w_exit ?_
   | refine w_seq ?_
   | refine w_reg ?_
   | refine w_ret ?_
   | refine w_skip ?_
   | refine w_block ?_
   | refine w_t (by simp (disch:=first|decide|(simp only[zF,zG];decide)) only [zA,zB,zC,zD,zE,zF,zG,zH,zI,zJ,zK,HV.cells,fl0,fl2,flS,flS1,flI1,flU1,flU2,flF]; first|done|exact rfl) ?_
   | refine w_f (by simp (disch:=first|decide|(simp only[zF,zG];decide)) only [zA,zB,zC,zD,zE,zF,zG,zH,zI,zJ,zK,HV.cells,fl0,fl2,flS,flS1,flI1,flU1,flU2,flF]; first|done|exact rfl) ?_
   | refine r_move (by simp (disch:=first|decide|(simp only[zF,zG];decide)) only [zA,zB,zC,zD,zE,zF,zG,zH,zI,zJ,zK,HV.cells,fl0,fl2,flS,flS1,flI1,flU1,flU2,flF]; try exact rfl) ?_
   | refine r_add (by simp (disch:=first|decide|(simp only[zF,zG];decide)) only [zA,zB,zC,zD,zE,zF,zG,zH,zI,zJ,zK,HV.cells,fl0,fl2,flS,flS1,flI1,flU1,flU2,flF]; try exact rfl) (by simp (disch:=first|decide|(simp only[zF,zG];decide)) only [zA,zB,zC,zD,zE,zF,zG,zH,zI,zJ,zK,HV.cells,fl0,fl2,flS,flS1,flI1,flU1,flU2,flF]; try exact rfl) (by omega) (by omega) ?_
   | refine r_mul (by simp (disch:=first|decide|(simp only[zF,zG];decide)) only [zA,zB,zC,zD,zE,zF,zG,zH,zI,zJ,zK,HV.cells,fl0,fl2,flS,flS1,flI1,flU1,flU2,flF]; try exact rfl) (by simp (disch:=first|decide|(simp only[zF,zG];decide)) only [zA,zB,zC,zD,zE,zF,zG,zH,zI,zJ,zK,HV.cells,fl0,fl2,flS,flS1,flI1,flU1,flU2,flF]; try exact rfl) (by omega) (by omega) ?_
   | refine r_lss (by simp (disch:=first|decide|(simp only[zF,zG];decide)) only [zA,zB,zC,zD,zE,zF,zG,zH,zI,zJ,zK,HV.cells,fl0,fl2,flS,flS1,flI1,flU1,flU2,flF]; try exact rfl) (by simp (disch:=first|decide|(simp only[zF,zG];decide)) only [zA,zB,zC,zD,zE,zF,zG,zH,zI,zJ,zK,HV.cells,fl0,fl2,flS,flS1,flI1,flU1,flU2,flF]; try exact rfl) (fun hc => ?_) (fun hc => ?_) <;> (try (exfalso; omega))
   | refine r_quot (by simp (disch:=first|decide|(simp only[zF,zG];decide)) only [zA,zB,zC,zD,zE,zF,zG,zH,zI,zJ,zK,HV.cells,fl0,fl2,flS,flS1,flI1,flU1,flU2,flF]; try exact rfl) (by simp (disch:=first|decide|(simp only[zF,zG];decide)) only [zA,zB,zC,zD,zE,zF,zG,zH,zI,zJ,zK,HV.cells,fl0,fl2,flS,flS1,flI1,flU1,flU2,flF]; try exact rfl) (by omega) (by omega) ?_
   | fail
  refine w_it (show L59w0 = _ by unfold L59w0; exact rfl) ?_
  repeat' first
   | refine r_nil ?_
   | refine th_n ?_
   | refine th_r ?_
   | refine th_e ?_
   | refine ib_n ?_
   | refine ib_r ?_
   | refine ib_e ?_
   | refine ib_x (by decide) ?_
   | refine w_exit ?_
   | refine w_seq ?_
   | refine w_reg ?_
   | refine w_ret ?_
   | refine w_skip ?_
   | refine w_block ?_
   | refine w_t (by simp (disch:=first|decide|(simp only[zF,zG];decide)) only [zA,zB,zC,zD,zE,zF,zG,zH,zI,zJ,zK,HV.cells,fl0,fl2,flS,flS1,flI1,flU1,flU2,flF]; first|done|exact rfl) ?_
   | refine w_f (by simp (disch:=first|decide|(simp only[zF,zG];decide)) only [zA,zB,zC,zD,zE,zF,zG,zH,zI,zJ,zK,HV.cells,fl0,fl2,flS,flS1,flI1,flU1,flU2,flF]; first|done|exact rfl) ?_
   | refine r_move (by simp (disch:=first|decide|(simp only[zF,zG];decide)) only [zA,zB,zC,zD,zE,zF,zG,zH,zI,zJ,zK,HV.cells,fl0,fl2,flS,flS1,flI1,flU1,flU2,flF]; try exact rfl) ?_
   | refine r_add (by simp (disch:=first|decide|(simp only[zF,zG];decide)) only [zA,zB,zC,zD,zE,zF,zG,zH,zI,zJ,zK,HV.cells,fl0,fl2,flS,flS1,flI1,flU1,flU2,flF]; try exact rfl) (by simp (disch:=first|decide|(simp only[zF,zG];decide)) only [zA,zB,zC,zD,zE,zF,zG,zH,zI,zJ,zK,HV.cells,fl0,fl2,flS,flS1,flI1,flU1,flU2,flF]; try exact rfl) (by omega) (by omega) ?_
   | refine r_mul (by simp (disch:=first|decide|(simp only[zF,zG];decide)) only [zA,zB,zC,zD,zE,zF,zG,zH,zI,zJ,zK,HV.cells,fl0,fl2,flS,flS1,flI1,flU1,flU2,flF]; try exact rfl) (by simp (disch:=first|decide|(simp only[zF,zG];decide)) only [zA,zB,zC,zD,zE,zF,zG,zH,zI,zJ,zK,HV.cells,fl0,fl2,flS,flS1,flI1,flU1,flU2,flF]; try exact rfl) (by omega) (by omega) ?_
   | refine r_lss (by simp (disch:=first|decide|(simp only[zF,zG];decide)) only [zA,zB,zC,zD,zE,zF,zG,zH,zI,zJ,zK,HV.cells,fl0,fl2,flS,flS1,flI1,flU1,flU2,flF]; try exact rfl) (by simp (disch:=first|decide|(simp only[zF,zG];decide)) only [zA,zB,zC,zD,zE,zF,zG,zH,zI,zJ,zK,HV.cells,fl0,fl2,flS,flS1,flI1,flU1,flU2,flF]; try exact rfl) (fun hc => ?_) (fun hc => ?_) <;> (try (exfalso; omega))
   | refine r_quot (by simp (disch:=first|decide|(simp only[zF,zG];decide)) only [zA,zB,zC,zD,zE,zF,zG,zH,zI,zJ,zK,HV.cells,fl0,fl2,flS,flS1,flI1,flU1,flU2,flF]; try exact rfl) (by simp (disch:=first|decide|(simp only[zF,zG];decide)) only [zA,zB,zC,zD,zE,zF,zG,zH,zI,zJ,zK,HV.cells,fl0,fl2,flS,flS1,flI1,flU1,flU2,flF]; try exact rfl) (by omega) (by omega) ?_
   | fail
  · refine w_it (show L59w0 = _ by unfold L59w0; exact rfl) ?_
    repeat' first
     | refine r_nil ?_
     | refine th_n ?_
     | refine th_r ?_
     | refine th_e ?_
     | refine ib_n ?_
     | refine ib_r ?_
     | refine ib_e ?_
     | refine ib_x (by decide) ?_
     | refine w_exit ?_
     | refine w_seq ?_
     | refine w_reg ?_
     | refine w_ret ?_
     | refine w_skip ?_
     | refine w_block ?_
     | refine w_t (by simp (disch:=first|decide|(simp only[zF,zG];decide)) only [zA,zB,zC,zD,zE,zF,zG,zH,zI,zJ,zK,HV.cells,fl0,fl2,flS,flS1,flI1,flU1,flU2,flF]; first|done|exact rfl) ?_
     | refine w_f (by simp (disch:=first|decide|(simp only[zF,zG];decide)) only [zA,zB,zC,zD,zE,zF,zG,zH,zI,zJ,zK,HV.cells,fl0,fl2,flS,flS1,flI1,flU1,flU2,flF]; first|done|exact rfl) ?_
     | refine r_move (by simp (disch:=first|decide|(simp only[zF,zG];decide)) only [zA,zB,zC,zD,zE,zF,zG,zH,zI,zJ,zK,HV.cells,fl0,fl2,flS,flS1,flI1,flU1,flU2,flF]; try exact rfl) ?_
     | refine r_add (by simp (disch:=first|decide|(simp only[zF,zG];decide)) only [zA,zB,zC,zD,zE,zF,zG,zH,zI,zJ,zK,HV.cells,fl0,fl2,flS,flS1,flI1,flU1,flU2,flF]; try exact rfl) (by simp (disch:=first|decide|(simp only[zF,zG];decide)) only [zA,zB,zC,zD,zE,zF,zG,zH,zI,zJ,zK,HV.cells,fl0,fl2,flS,flS1,flI1,flU1,flU2,flF]; try exact rfl) (by omega) (by omega) ?_
     | refine r_mul (by simp (disch:=first|decide|(simp only[zF,zG];decide)) only [zA,zB,zC,zD,zE,zF,zG,zH,zI,zJ,zK,HV.cells,fl0,fl2,flS,flS1,flI1,flU1,flU2,flF]; try exact rfl) (by simp (disch:=first|decide|(simp only[zF,zG];decide)) only [zA,zB,zC,zD,zE,zF,zG,zH,zI,zJ,zK,HV.cells,fl0,fl2,flS,flS1,flI1,flU1,flU2,flF]; try exact rfl) (by omega) (by omega) ?_
     | refine r_lss (by simp (disch:=first|decide|(simp only[zF,zG];decide)) only [zA,zB,zC,zD,zE,zF,zG,zH,zI,zJ,zK,HV.cells,fl0,fl2,flS,flS1,flI1,flU1,flU2,flF]; try exact rfl) (by simp (disch:=first|decide|(simp only[zF,zG];decide)) only [zA,zB,zC,zD,zE,zF,zG,zH,zI,zJ,zK,HV.cells,fl0,fl2,flS,flS1,flI1,flU1,flU2,flF]; try exact rfl) (fun hc => ?_) (fun hc => ?_) <;> (try (exfalso; omega))
     | refine r_quot (by simp (disch:=first|decide|(simp only[zF,zG];decide)) only [zA,zB,zC,zD,zE,zF,zG,zH,zI,zJ,zK,HV.cells,fl0,fl2,flS,flS1,flI1,flU1,flU2,flF]; try exact rfl) (by simp (disch:=first|decide|(simp only[zF,zG];decide)) only [zA,zB,zC,zD,zE,zF,zG,zH,zI,zJ,zK,HV.cells,fl0,fl2,flS,flS1,flI1,flU1,flU2,flF]; try exact rfl) (by omega) (by omega) ?_
     | fail
    refine fin_r (by simp only [zL,zM]) (by simp (disch:=first|decide|(simp only[zF,zG];decide)) only [zA,zB,zC,zD,zE,zF,zG,zH,zI,zJ,zK,HV.cells,fl0,fl2,flS,flS1,flI1,flU1,flU2,flF]; try exact rfl) (sc_flat rfl (by dsimp only; omega) ?_); rw [td_cpos hn (by omega)]
  · refine fin_r (by simp only [zL,zM]) (by simp (disch:=first|decide|(simp only[zF,zG];decide)) only [zA,zB,zC,zD,zE,zF,zG,zH,zI,zJ,zK,HV.cells,fl0,fl2,flS,flS1,flI1,flU1,flU2,flF]; try exact rfl) (sc_flat rfl (by dsimp only; omega) ?_); rw [td_cneg hn (by omega)]
/-- Has a reading on one scale a height in common with readings on another one? -/
def Mts (s : Int × Int) (q : Int) (o r : Int × Int) : Prop := hlo s (q, q) * (2 * dg o) ≤ hhi o r * (2 * dg s) ∧ hlo o r * (2 * dg s) ≤ hhi s (q, q) * (2 * dg o)
instance (s : Int × Int) (q : Int) (o r : Int × Int) : Decidable (Mts s q o r) := by unfold Mts; infer_instance
theorem h_bd {s r : Int × Int} (hs : SOk s.1 s.2) (hr : RB r) : (1 ≤ dg s ∧ dg s ≤ 2000) ∧ (-4002001 ≤ hlo s r ∧ hlo s r ≤ 4002001) ∧ (-4002001 ≤ hhi s r ∧ hhi s r ≤ 4002001) := by
  have a1 := s_bd hs
  unfold RB at hr
  have a3 : (-2000000 ≤ tl (tn s.1 s.2) r.1 r.2 ∧ tl (tn s.1 s.2) r.1 r.2 ≤ 2000000) ∧ -2000000 ≤ th (tn s.1 s.2) r.1 r.2 ∧ th (tn s.1 s.2) r.1 r.2 ≤ 2000000 := by
    unfold tl th
    cases tn s.1 s.2 <;> simp only [if_true, if_false, Bool.false_eq_true] <;> omega
  unfold dg hlo hhi
  omega
def scl (l : List (Int × Int)) (r : Int × Int) : Int := if l.length ≤ 8 then (if LOk l then (if ROk r.1 r.2 then 0 else 2) else 1) else 3
def Rdy (l : List (Int × Int)) (r : Int × Int) : Prop := scl l r = 0 ∧ -400 ≤ r.1 ∧ r.2 ≤ 400
instance (l : List (Int × Int)) (r : Int × Int) : Decidable (Rdy l r) := by unfold Rdy; infer_instance
end Go.Hx

/- Layer 3: the arithmetic of what can stand on another scale. -/
namespace Go.Hx
end Go.Hx

/- Layer 3: the laws of P3.1, P3.7, P3.8. -/
namespace Go.Hx
set_option linter.unusedSimpArgs false
set_option linter.unusedVariables false
set_option maxRecDepth 20000
set_option maxHeartbeats 4000000
attribute [local irreducible] W R C thenH inBlockH
theorem chk_scl {l : List (Int × Int)} {r : Int × Int} (h : l.length ≠ 0) : chkR l r = scl l r := by
  unfold chkR chkS scl
  by_cases h1 : l.length ≤ 8
  · rw [if_pos h1, if_pos h1]
    by_cases h2 : LOk l
    · rw [if_pos h2, if_pos h2, if_pos rfl, if_neg h]
    · rw [if_neg h2, if_neg h2, if_neg (by decide)]
  · rw [if_neg h1, if_neg h1, if_neg (by decide)]
end Go.Hx

/- Layer 3: there and back; turned scales; shifted scales; through scales: the arithmetic. -/
namespace Go.Hx
end Go.Hx

/- Layer 3: the laws of P3.9, P3.13. -/
namespace Go.Hx
set_option linter.unusedSimpArgs false
set_option linter.unusedVariables false
set_option maxRecDepth 20000
set_option maxHeartbeats 4000000
attribute [local irreducible] W R C thenH inBlockH
/-- An operation that is asked for by what was not reckoned is left out. -/
theorem r_dropu {lp : Nat → Option LFunc} {fl : Nat} {N : HAct → HS → Prop} {a : HAct} {σ : HS} {op : LOp} {dst : Option Nat} {t : Nat} {w : Bool} {anc : List Nat} {os : List LOper} (hw : a.tmp t = .undef) (hn : R lp fl os N (a.put dst .undef) σ) : R lp fl (⟨dst, op, some (t, w), anc⟩ :: os) N a σ := by
  refine r_not ?_ hn
  simp [wantedH, hw, HV.undef]
end Go.Hx

/- Walks of the plain machine: regions that draw, in which operations lay blocks and others call. -/
namespace Go.Hx
variable {lp : Nat → Option LFunc} {fl : Nat} {rd : Option Nat} {Q : HExit → HAct → HS → Prop} {N : HAct → HS → Prop} {a : HAct} {h0 h : Tr HBlk} {nx s n0 i : Nat} {os : List LOper} {done : List (Nat × List (Nat × HBlk))}
/-- Behind one operation. -/
def DX (lp : Nat → Option LFunc) (fl s n0 : Nat) (h0 : Tr HBlk) (os : List LOper) (i : Nat) (done : List (Nat × List (Nat × HBlk))) (nx : Nat) (N : HAct → HS → Prop) : HAct → HS → Prop := fun a' σ' =>
  (σ'.nx = nx ∧ DG lp fl s n0 h0 os (i + 1) done N a' nx) ∨ (∃ x, σ'.nx = nx + 1 ∧ σ'.h.get nx = some x ∧ DG lp fl s n0 h0 os (i + 1) ((i, [(nx, x)]) :: done) N a' (nx + 1)) ∨ (nx ≤ σ'.nx ∧ (∀ b, nx ≤ b → σ'.h.get b = none) ∧ DG lp fl s n0 h0 os (i + 1) done N a' σ'.nx) ∨ (nx ≤ σ'.nx ∧ DG lp fl s n0 h0 os (i + 1) ((i, newFrom σ'.h nx (σ'.nx - nx)) :: done) N a' σ'.nx)
/-- What some of those that have been done have laid. -/
noncomputable def mf (f : Nat → Bool) : Tr HBlk → List (Nat × List (Nat × HBlk)) → Tr HBlk
  | h, [] => h
  | h, (j, l) :: ds => mf f (bif f j then addAll h l else h) ds
theorem merge_mf {anc : Option (List Nat)} : ∀ (ds : List (Nat × List (Nat × HBlk))) (h : Tr HBlk), merge h anc ds = mf (fun j => match anc with | none => true | some anc => anc.contains j) h ds
  | [], _ => rfl
  | (j, l) :: ds, h => by unfold merge mf; exact merge_mf ds _
theorem mf_drop {f : Nat → Bool} {B : List Nat} : ∀ (ds : List (Nat × List (Nat × HBlk))) (h : Tr HBlk), mf f h (dropAll B ds) = mf (fun j => f j && !B.contains j) h ds
  | [], _ => rfl
  | (j, l) :: ds, h => by
    unfold dropAll
    cases hc : B.contains j with
    | true =>
      simp only [cond_true]
      rw [mf_drop ds h]
      show _ = mf _ (bif f j && !B.contains j then addAll h l else h) ds
      rw [hc]
      simp
    | false =>
      simp only [cond_false]
      show mf f (bif f j then addAll h l else h) (dropAll B ds) = mf _ (bif f j && !B.contains j then addAll h l else h) ds
      rw [mf_drop ds, hc]
      simp
/-- What is done counts by what it lays. -/
theorem draw_eq {ex : Ex} : ∀ (os : List LOper) (i : Nat) (d1 d2 : List (Nat × List (Nat × HBlk))) (a : HAct) (nx : Nat), (∀ f h, mf f h d1 = mf f h d2) → drawOps lp ex fl s n0 h0 os i d1 a nx = drawOps lp ex fl s n0 h0 os i d2 a nx
  | [], i, d1, d2, a, nx, h => by unfold drawOps; rw [merge_mf, merge_mf, h]
  | o :: os, i, d1, d2, a, nx, h => by
    have hm : ∀ anc, merge h0 anc d1 = merge h0 anc d2 := fun anc => by rw [merge_mf, merge_mf, h]
    unfold drawOps
    rw [hm, hm]
    cases Nat.blt i s with
    | false => rfl
    | true =>
      simp only [cond_true]
      cases o.anc.contains i with
      | true =>
        simp only [cond_true]
        cases stepOp lp ex (Nat.max fl n0) o a ⟨merge h0 (some o.anc) d2, nx⟩ with
        | none => rfl
        | some r =>
          obtain ⟨a', σ'⟩ := r
          dsimp only
          cases Nat.ble nx σ'.nx with
          | false => rfl
          | true =>
            simp only [Bool.not_true, cond_false]
            refine draw_eq os _ _ _ _ _ fun f g => ?_
            unfold mf
            rw [mf_drop, mf_drop, h]
      | false =>
        simp only [cond_false]
        cases stepOp lp ex (Nat.max fl nx) o a ⟨merge h0 (some o.anc) d2, nx⟩ with
        | none => rfl
        | some r =>
          obtain ⟨a', σ'⟩ := r
          dsimp only
          cases Nat.ble nx σ'.nx with
          | false => rfl
          | true =>
            simp only [Bool.not_true, cond_false]
            cases Nat.beq nx σ'.nx with
            | true => exact draw_eq os _ _ _ _ _ h
            | false =>
              simp only [cond_false]
              exact draw_eq os _ _ _ _ _ fun f g => by unfold mf; exact h f _
theorem x_step {o : LOper} {hm : Tr HBlk} (hi : Nat.blt i s = true) (hw : o.anc.contains i = false) (hmg : merge h0 (some o.anc) done = hm) (hr : R lp (max fl nx) [o] (DX lp fl s n0 h0 os i done nx N) a ⟨hm, nx⟩) : DG lp fl s n0 h0 (o :: os) i done N a nx := by
  obtain ⟨n, a1, σ1, h1, h2⟩ := hr
  rcases h2 with h2 | h2 | ⟨e1, e2, h2⟩ | ⟨e1, h2⟩
  · exact g_step hi hw hmg ⟨n, a1, σ1, h1, by unfold DN; exact .inl h2⟩
  · exact g_step hi hw hmg ⟨n, a1, σ1, h1, by unfold DN; exact .inr h2⟩
  · have h1' : stepOp lp (exec lp n) (max fl nx) o a ⟨hm, nx⟩ = some (a1, σ1) := by
      unfold runOps at h1
      split at h1
      · rename_i e; rw [e]; exact h1
      · cases h1
    obtain ⟨n2, a2, σ2, h3, h4⟩ := dg_out h2
    have key : drawOps lp (exec lp (max n n2)) fl s n0 h0 (o :: os) i done a nx = some (a2, σ2) := by
      unfold drawOps
      rw [hi, cond_true, hw, cond_false, hmg]
      show (match stepOp lp (exec lp (max n n2)) (max fl nx) o a ⟨hm, nx⟩ with | some (a, σ) => _ | none => none) = _
      rw [stepOp_mon (exec_mon (Nat.le_max_left n n2)) h1']
      have b1 : Nat.ble nx σ1.nx = true := ble_t' e1
      simp only [b1, Bool.not_true, cond_false]
      rw [newFrom_none _ _ e2]
      refine (draw_eq os _ _ done _ _ fun f g => ?_).trans (drawOps_mon (exec_mon (Nat.le_max_right n n2)) h3)
      cases Nat.beq nx σ1.nx with
      | true => rfl
      | false =>
        simp only [cond_false]
        have e : ∀ c : Bool, (bif c then addAll g [] else g) = g := fun c => by cases c <;> rfl
        show mf f (bif _ then addAll g [] else g) done = _
        rw [e]
    unfold DG
    exact ⟨_, a2, σ2, key, h4⟩
  · have h1' : stepOp lp (exec lp n) (max fl nx) o a ⟨hm, nx⟩ = some (a1, σ1) := by
      unfold runOps at h1
      split at h1
      · rename_i e; rw [e]; exact h1
      · cases h1
    obtain ⟨n2, a2, σ2, h3, h4⟩ := dg_out h2
    have key : drawOps lp (exec lp (max n n2)) fl s n0 h0 (o :: os) i done a nx = some (a2, σ2) := by
      unfold drawOps
      rw [hi, cond_true, hw, cond_false, hmg]
      show (match stepOp lp (exec lp (max n n2)) (max fl nx) o a ⟨hm, nx⟩ with | some (a, σ) => _ | none => none) = _
      rw [stepOp_mon (exec_mon (Nat.le_max_left n n2)) h1']
      have b1 : Nat.ble nx σ1.nx = true := ble_t' e1
      simp only [b1, Bool.not_true, cond_false]
      refine (draw_eq os _ _ ((i, newFrom σ1.h nx (σ1.nx - nx)) :: done) _ _ fun f g => ?_).trans (drawOps_mon (exec_mon (Nat.le_max_right n n2)) h3)
      cases hb : Nat.beq nx σ1.nx with
      | false => rfl
      | true =>
        have hz : σ1.nx - nx = 0 := by have := Nat.eq_of_beq_eq_true hb; omega
        rw [hz]
        simp only [cond_true]
        have e : ∀ c : Bool, (bif c then addAll g [] else g) = g := fun c => by cases c <;> rfl
        show mf f g done = mf f (bif _ then addAll g [] else g) done
        rw [e]
    unfold DG
    exact ⟨_, a2, σ2, key, h4⟩
theorem add_new {h2 : Tr HBlk} : ∀ (k lo : Nat) (g : Tr HBlk) (b : Nat), (addAll g (newFrom h2 lo k)).get b = if lo ≤ b ∧ b < lo + k then (match h2.get b with | some x => some x | none => g.get b) else g.get b
  | 0, lo, g, b => by rw [if_neg (by omega)]; rfl
  | k + 1, lo, g, b => by
    unfold newFrom
    cases e : h2.get lo with
    | none =>
      dsimp only
      rw [add_new k (lo + 1) g b]
      by_cases h1 : lo + 1 ≤ b ∧ b < lo + 1 + k
      · rw [if_pos h1, if_pos (by omega)]
      · rw [if_neg h1]
        by_cases h2 : lo ≤ b ∧ b < lo + (k + 1)
        · have : b = lo := by omega
          subst this
          rw [if_pos h2, e]
        · rw [if_neg h2]
    | some x =>
      dsimp only
      rw [ad_cons, add_new k (lo + 1) _ b]
      by_cases h1 : lo + 1 ≤ b ∧ b < lo + 1 + k
      · rw [if_pos h1, if_pos (by omega), get_other _ _ (by omega)]
      · rw [if_neg h1]
        by_cases h2 : lo ≤ b ∧ b < lo + (k + 1)
        · have : b = lo := by omega
          subst this
          rw [if_pos h2, e, get_same]
        · rw [if_neg h2, get_other _ _ (by omega)]
theorem x_same {hm : Tr HBlk} (hr : DG lp fl s n0 h0 os (i + 1) done N a nx) : DX lp fl s n0 h0 os i done nx N a ⟨hm, nx⟩ := .inl ⟨rfl, hr⟩
theorem x_new {hm : Tr HBlk} {x : HBlk} (hr : DG lp fl s n0 h0 os (i + 1) ((i, [(nx, x)]) :: done) N a (nx + 1)) : DX lp fl s n0 h0 os i done nx N a ⟨hm.set nx (some x), nx + 1⟩ := .inr (.inl ⟨x, rfl, get_same _ _ _, hr⟩)
theorem x_call {hm : Tr HBlk} {n' : Nat} (hn : nx ≤ n') (hd : D hm nx) (hr : DG lp fl s n0 h0 os (i + 1) done N a n') : DX lp fl s n0 h0 os i done nx N a ⟨hm, n'⟩ := .inr (.inr (.inl ⟨hn, by unfold D at hd; exact hd, hr⟩))
/-- A call that hands back new blocks. -/
theorem x_ext {hm h2 : Tr HBlk} {n2 : Nat} (e : Ext hm nx h2 n2) (hr : ∀ L, (∀ g b, b < nx ∨ n2 ≤ b → (addAll g L).get b = g.get b) → (∀ g b x, nx ≤ b → h2.get b = some x → (addAll g L).get b = some x) → (∀ g n', n2 ≤ n' → D g n' → D (addAll g L) n') → DG lp fl s n0 h0 os (i + 1) ((i, L) :: done) N a n2) : DX lp fl s n0 h0 os i done nx N a ⟨h2, n2⟩ := by
  have hle := e.le
  have hd := e.d
  refine .inr (.inr (.inr ⟨hle, hr _ (fun g b hb => ?_) (fun g b x hb hx => ?_) (fun g n' hn hg => ?_)⟩))
  · show (addAll g (newFrom h2 nx (n2 - nx))).get b = _
    rw [add_new, if_neg (by omega)]
  · show (addAll g (newFrom h2 nx (n2 - nx))).get b = _
    have : b < n2 := by
      refine Nat.not_le.1 fun h => ?_
      unfold D at hd
      rw [hd b h] at hx
      cases hx
    rw [add_new, if_pos (by omega), hx]
  · show D (addAll g (newFrom h2 nx (n2 - nx))) n'
    unfold D at hg ⊢
    intro b hb
    rw [add_new, if_neg (by omega)]
    exact hg b hb
/-- Behind one operation that may write what those that it sees have laid. -/
def DW (lp : Nat → Option LFunc) (fl s n0 : Nat) (h0 : Tr HBlk) (os : List LOper) (i : Nat) (anc : List Nat) (done : List (Nat × List (Nat × HBlk))) (nx : Nat) (N : HAct → HS → Prop) : HAct → HS → Prop := fun a' σ' =>
  nx ≤ σ'.nx ∧ DG lp fl s n0 h0 os (i + 1) ((i, newFrom σ'.h n0 (σ'.nx - n0)) :: dropAll anc done) N a' σ'.nx
theorem x_stepW {o : LOper} {hm : Tr HBlk} (hi : Nat.blt i s = true) (hw : o.anc.contains i = true) (hmg : merge h0 (some o.anc) done = hm) (hr : R lp (max fl n0) [o] (DW lp fl s n0 h0 os i o.anc done nx N) a ⟨hm, nx⟩) : DG lp fl s n0 h0 (o :: os) i done N a nx := by
  obtain ⟨n, a1, σ1, h1, e1, h2⟩ := hr
  have h1' : stepOp lp (exec lp n) (max fl n0) o a ⟨hm, nx⟩ = some (a1, σ1) := by
    unfold runOps at h1
    split at h1
    · rename_i e; rw [e]; exact h1
    · cases h1
  obtain ⟨n2, a2, σ2, h3, h4⟩ := dg_out h2
  have key : drawOps lp (exec lp (max n n2)) fl s n0 h0 (o :: os) i done a nx = some (a2, σ2) := by
    unfold drawOps
    rw [hi, cond_true, hw, cond_true, hmg]
    show (match stepOp lp (exec lp (max n n2)) (max fl n0) o a ⟨hm, nx⟩ with | some (a, σ) => _ | none => none) = _
    rw [stepOp_mon (exec_mon (Nat.le_max_left n n2)) h1']
    have b1 : Nat.ble nx σ1.nx = true := ble_t' e1
    simp only [b1, Bool.not_true, cond_false]
    exact drawOps_mon (exec_mon (Nat.le_max_right n n2)) h3
  unfold DG
  exact ⟨_, a2, σ2, key, h4⟩
/-- What it leaves of all that has been laid from the region's begin on. -/
theorem x_extW {h2 : Tr HBlk} {n2 : Nat} {anc : List Nat} {dn : List (Nat × List (Nat × HBlk))} (hle : nx ≤ n2) (hd : D h2 n2) (hdr : dropAll anc done = dn) (hr : ∀ L, (∀ g b, b < n0 ∨ n2 ≤ b → (addAll g L).get b = g.get b) → (∀ g b x, n0 ≤ b → h2.get b = some x → (addAll g L).get b = some x) → (∀ g n', n2 ≤ n' → D g n' → D (addAll g L) n') → DG lp fl s n0 h0 os (i + 1) ((i, L) :: dn) N a n2) : DW lp fl s n0 h0 os i anc done nx N a ⟨h2, n2⟩ := by
  subst hdr
  refine ⟨hle, hr _ (fun g b hb => ?_) (fun g b x hb hx => ?_) (fun g n' hn hg => ?_)⟩
  · show (addAll g (newFrom h2 n0 (n2 - n0))).get b = _
    rw [add_new, if_neg (by omega)]
  · show (addAll g (newFrom h2 n0 (n2 - n0))).get b = _
    have : b < n2 := by
      refine Nat.not_le.1 fun h => ?_
      unfold D at hd
      rw [hd b h] at hx
      cases hx
    rw [add_new, if_pos (by omega), hx]
  · show D (addAll g (newFrom h2 n0 (n2 - n0))) n'
    unfold D at hg ⊢
    intro b hb
    rw [add_new, if_neg (by omega)]
    exact hg b hb
attribute [irreducible] DX DW
end Go.Hx

/- Layer 3: lists of scales for the program; through scales. -/
namespace Go.Hx
set_option linter.unusedSimpArgs false
set_option linter.unusedVariables false
set_option maxRecDepth 20000
set_option maxHeartbeats 4000000
attribute [local irreducible] W R C thenH inBlockH
--dropu
theorem renc_flat (r : Int × Int) : (renc r).all flat1 = true := rfl
theorem renc_one (r : Int × Int) : (renc r).all HV.one = true := rfl
end Go.Hx

