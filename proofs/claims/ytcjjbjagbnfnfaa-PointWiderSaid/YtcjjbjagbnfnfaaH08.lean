/- Layer 3: tables of the reference. -/
import Derived.Test.YtcjjbjagbnfnfaaH07
set_option linter.all false
/- Layer 3: tables of the reference. -/
namespace Go.Hx
set_option linter.unusedSimpArgs false
set_option linter.unusedVariables false
set_option maxRecDepth 20000
set_option maxHeartbeats 4000000
attribute [local irreducible] W R C thenH inBlockH
--dropu
def Good (l : List (Int × Int)) (i : Nat) : Prop := (∀ j (hj : j < l.length), j < i → StOk l[j]) ∧ ∀ j (hj : j + 1 < l.length), j + 1 < i → Pre l[j] l[j + 1]
theorem ris_of : ∀ {l : List (Int × Int)}, (∀ j (hj : j + 1 < l.length), Pre l[j] l[j + 1]) → Ris l
  | [], _ => trivial
  | [s], _ => trivial
  | s :: q :: l, h => ⟨h 0 (by simp), ris_of fun j hj => h (j + 1) (by simpa using hj)⟩
theorem good_tb {l : List (Int × Int)} (h : Good l l.length) : TbOk l ↔ 2 ≤ l.length :=
  ⟨fun e => e.1, fun e => ⟨e, fun s hs => by obtain ⟨j, hj, rfl⟩ := List.getElem_of_mem hs; exact h.1 j hj hj, ris_of fun j hj => h.2 j hj hj⟩⟩
theorem good_next {l : List (Int × Int)} {i : Nat} (h : Good l i) (hi : i < l.length) (h1 : StOk l[i]) (h2 : ∀ k (hk : k + 1 = i), Pre (l[k]'(by omega)) l[i]) : Good l (i + 1) := by
  refine ⟨fun j hj hji => ?_, fun j hj hji => ?_⟩
  · by_cases e : j = i
    · subst e; exact h1
    · exact h.1 j hj (by omega)
  · by_cases e : j + 1 = i
    · subst e; exact h2 j rfl
    · exact h.2 j hj (by omega)
/- 33 -/
theorem loop33 {fl : Nat} {h0 : Tr HBlk} {n0 : Nat} {Q : HExit → HAct → HS → Prop} {p : Option (Nat × Nat)} {l : List (Int × Int)} {cp : Nat} (hlen : l.length < 1000000000) (hfl : fl ≤ n0) (hrow : Row renc 2 h0 n0 p l) :
    ∀ (m i : Nat) (a : HAct) (h : Tr HBlk) (nx : Nat), m + i = l.length → Ext h0 n0 h nx → Good l i → a.nt = 61 → a.defers = [] → a.tmp 0 = .slice p l.length cp → a.tmp 3 = i64 i →
      (∀ a' h' n', Ext h0 n0 h' n' → Good l l.length → a'.nt = 61 → a'.defers = [] → a'.tmp 0 = .slice p l.length cp → Q .normal a' ⟨h', n'⟩) →
      (∀ a' h' n', Ext h0 n0 h' n' → ¬ TbOk l → a'.nt = 61 → a'.defers = [] → a'.tmp 2 = .bool false → Q .ret a' ⟨h', n'⟩) → W LW fl none (.loop L33w0) (inBlockH 0 Q) a ⟨h, nx⟩
  | 0, i, a, h, nx, hm, he, hG, hnt, hds, t0, t3, hq, hr => by
    have hle := he.le
    refine w_it (show L33w0 = _ by unfold L33w0; exact rfl) ?_
    repeat' first
     | refine r_nil ?_
     | refine th_n ?_
     | refine th_r ?_
     | refine th_e ?_
     | refine ib_n ?_
     | refine ib_r ?_
     | refine ib_e ?_
     | refine ib_x (by decide) ?_
     | refine w_exit ?_
     | refine w_seq ?_
     | refine w_reg ?_
     | refine w_ret ?_
     | refine w_skip ?_
     | refine w_block ?_
     | refine w_t (by simp (disch:=first|decide|(simp only[zF,zG,hnt, t0, t3];decide)) only [zA,zB,zC,zD,zE,zF,zG,zH,zI,zJ,zK,HV.cells,fl0,fl2,flS,flS1,flI1,flU1,flU2,flF,hnt, t0, t3]; first|done|exact rfl) ?_
     | refine w_f (by simp (disch:=first|decide|(simp only[zF,zG,hnt, t0, t3];decide)) only [zA,zB,zC,zD,zE,zF,zG,zH,zI,zJ,zK,HV.cells,fl0,fl2,flS,flS1,flI1,flU1,flU2,flF,hnt, t0, t3]; first|done|exact rfl) ?_
     | refine r_take (by simp (disch:=first|decide|(simp only[zF,zG,hnt, t0, t3];decide)) only [zA,zB,zC,zD,zE,zF,zG,zH,zI,zJ,zK,HV.cells,fl0,fl2,flS,flS1,flI1,flU1,flU2,flF,hnt, t0, t3]; first|done|exact rfl) ?_
     | refine r_drop (by simp (disch:=first|decide|(simp only[zF,zG,Bool.not_true,Bool.not_false,hnt, t0, t3];decide)) only [zA,zB,zC,zD,zE,zF,zG,zH,zI,zJ,zK,HV.cells,fl0,fl2,flS,flS1,flI1,flU1,flU2,flF,Bool.not_true,Bool.not_false,hnt, t0, t3]; first|done|exact rfl) ?_
     | refine r_dropu (by simp (disch:=first|decide|(simp only[zF,zG,hnt, t0, t3];decide)) only [zA,zB,zC,zD,zE,zF,zG,zH,zI,zJ,zK,HV.cells,fl0,fl2,flS,flS1,flI1,flU1,flU2,flF,hnt, t0, t3]; first|done|exact rfl) ?_
     | refine r_move (by simp (disch:=first|decide|(simp only[zF,zG,hnt, t0, t3];decide)) only [zA,zB,zC,zD,zE,zF,zG,zH,zI,zJ,zK,HV.cells,fl0,fl2,flS,flS1,flI1,flU1,flU2,flF,hnt, t0, t3]; try exact rfl) ?_
     | refine r_fa (by simp (disch:=first|decide|(simp only[zF,zG,hnt, t0, t3];decide)) only [zA,zB,zC,zD,zE,zF,zG,zH,zI,zJ,zK,HV.cells,fl0,fl2,flS,flS1,flI1,flU1,flU2,flF,hnt, t0, t3]; try exact rfl) ?_
     | refine r_ld1 (by simp (disch:=first|decide|(simp only[zF,zG,hnt, t0, t3];decide)) only [zA,zB,zC,zD,zE,zF,zG,zH,zI,zJ,zK,HV.cells,fl0,fl2,flS,flS1,flI1,flU1,flU2,flF,hnt, t0, t3]; try exact rfl) (by first|assumption|(simp (disch:=omega) only [get_same,get_other,hnt, t0, t3]; first|done|exact rfl)) (by first|assumption|exact ow2 _ _ _ _|exact ow3 _ _ _ _ _ _|rfl|(simp only [zI,zJ,HV.cells,hnt, t0, t3]; exact rfl)) ?_
     | refine r_add (by simp (disch:=first|decide|(simp only[zF,zG,hnt, t0, t3];decide)) only [zA,zB,zC,zD,zE,zF,zG,zH,zI,zJ,zK,HV.cells,fl0,fl2,flS,flS1,flI1,flU1,flU2,flF,hnt, t0, t3]; try exact rfl) (by simp (disch:=first|decide|(simp only[zF,zG,hnt, t0, t3];decide)) only [zA,zB,zC,zD,zE,zF,zG,zH,zI,zJ,zK,HV.cells,fl0,fl2,flS,flS1,flI1,flU1,flU2,flF,hnt, t0, t3]; try exact rfl) (by omega) (by omega) ?_
     | refine r_sub (by simp (disch:=first|decide|(simp only[zF,zG,hnt, t0, t3];decide)) only [zA,zB,zC,zD,zE,zF,zG,zH,zI,zJ,zK,HV.cells,fl0,fl2,flS,flS1,flI1,flU1,flU2,flF,hnt, t0, t3]; try exact rfl) (by simp (disch:=first|decide|(simp only[zF,zG,hnt, t0, t3];decide)) only [zA,zB,zC,zD,zE,zF,zG,zH,zI,zJ,zK,HV.cells,fl0,fl2,flS,flS1,flI1,flU1,flU2,flF,hnt, t0, t3]; try exact rfl) (by omega) (by omega) ?_
     | refine r_lss (by simp (disch:=first|decide|(simp only[zF,zG,hnt, t0, t3];decide)) only [zA,zB,zC,zD,zE,zF,zG,zH,zI,zJ,zK,HV.cells,fl0,fl2,flS,flS1,flI1,flU1,flU2,flF,hnt, t0, t3]; try exact rfl) (by simp (disch:=first|decide|(simp only[zF,zG,hnt, t0, t3];decide)) only [zA,zB,zC,zD,zE,zF,zG,zH,zI,zJ,zK,HV.cells,fl0,fl2,flS,flS1,flI1,flU1,flU2,flF,hnt, t0, t3]; try exact rfl) (fun hc => ?_) (fun hc => ?_) <;> (try (exfalso; omega))
     | refine r_leq (by simp (disch:=first|decide|(simp only[zF,zG,hnt, t0, t3];decide)) only [zA,zB,zC,zD,zE,zF,zG,zH,zI,zJ,zK,HV.cells,fl0,fl2,flS,flS1,flI1,flU1,flU2,flF,hnt, t0, t3]; try exact rfl) (by simp (disch:=first|decide|(simp only[zF,zG,hnt, t0, t3];decide)) only [zA,zB,zC,zD,zE,zF,zG,zH,zI,zJ,zK,HV.cells,fl0,fl2,flS,flS1,flI1,flU1,flU2,flF,hnt, t0, t3]; try exact rfl) (fun hc => ?_) (fun hc => ?_) <;> (try (exfalso; omega))
     | refine r_gtr (by simp (disch:=first|decide|(simp only[zF,zG,hnt, t0, t3];decide)) only [zA,zB,zC,zD,zE,zF,zG,zH,zI,zJ,zK,HV.cells,fl0,fl2,flS,flS1,flI1,flU1,flU2,flF,hnt, t0, t3]; try exact rfl) (by simp (disch:=first|decide|(simp only[zF,zG,hnt, t0, t3];decide)) only [zA,zB,zC,zD,zE,zF,zG,zH,zI,zJ,zK,HV.cells,fl0,fl2,flS,flS1,flI1,flU1,flU2,flF,hnt, t0, t3]; try exact rfl) (fun hc => ?_) (fun hc => ?_) <;> (try (exfalso; omega))
     | refine r_geq (by simp (disch:=first|decide|(simp only[zF,zG,hnt, t0, t3];decide)) only [zA,zB,zC,zD,zE,zF,zG,zH,zI,zJ,zK,HV.cells,fl0,fl2,flS,flS1,flI1,flU1,flU2,flF,hnt, t0, t3]; try exact rfl) (by simp (disch:=first|decide|(simp only[zF,zG,hnt, t0, t3];decide)) only [zA,zB,zC,zD,zE,zF,zG,zH,zI,zJ,zK,HV.cells,fl0,fl2,flS,flS1,flI1,flU1,flU2,flF,hnt, t0, t3]; try exact rfl) (fun hc => ?_) (fun hc => ?_) <;> (try (exfalso; omega))
     | refine r_not1 (by simp (disch:=first|decide|(simp only[zF,zG,hnt, t0, t3];decide)) only [zA,zB,zC,zD,zE,zF,zG,zH,zI,zJ,zK,HV.cells,fl0,fl2,flS,flS1,flI1,flU1,flU2,flF,hnt, t0, t3]; try exact rfl) ?_
     | refine r_pt (by simp (disch:=first|decide|(simp only[zF,zG,hnt, t0, t3];decide)) only [zA,zB,zC,zD,zE,zF,zG,zH,zI,zJ,zK,HV.cells,fl0,fl2,flS,flS1,flI1,flU1,flU2,flF,hnt, t0, t3]; first|done|exact rfl) (by simp (disch:=first|decide|(simp only[zF,zG,hnt, t0, t3];decide)) only [zA,zB,zC,zD,zE,zF,zG,zH,zI,zJ,zK,HV.cells,fl0,fl2,flS,flS1,flI1,flU1,flU2,flF,hnt, t0, t3]; try exact rfl) ?_
     | refine r_pf (by simp (disch:=first|decide|(simp only[zF,zG,hnt, t0, t3];decide)) only [zA,zB,zC,zD,zE,zF,zG,zH,zI,zJ,zK,HV.cells,fl0,fl2,flS,flS1,flI1,flU1,flU2,flF,hnt, t0, t3]; first|done|exact rfl) (by simp (disch:=first|decide|(simp only[zF,zG,hnt, t0, t3];decide)) only [zA,zB,zC,zD,zE,zF,zG,zH,zI,zJ,zK,HV.cells,fl0,fl2,flS,flS1,flI1,flU1,flU2,flF,hnt, t0, t3]; try exact rfl) ?_
     | refine r_len (by simp (disch:=first|decide|(simp only[zF,zG,hnt, t0, t3];decide)) only [zA,zB,zC,zD,zE,zF,zG,zH,zI,zJ,zK,HV.cells,fl0,fl2,flS,flS1,flI1,flU1,flU2,flF,hnt, t0, t3]; try exact rfl) ?_
     | refine r_ixs (by simp (disch:=first|decide|(simp only[zF,zG,hnt, t0, t3];decide)) only [zA,zB,zC,zD,zE,zF,zG,zH,zI,zJ,zK,HV.cells,fl0,fl2,flS,flS1,flI1,flU1,flU2,flF,hnt, t0, t3]; try exact rfl) (by simp (disch:=first|decide|(simp only[zF,zG,hnt, t0, t3];decide)) only [zA,zB,zC,zD,zE,zF,zG,zH,zI,zJ,zK,HV.cells,fl0,fl2,flS,flS1,flI1,flU1,flU2,flF,hnt, t0, t3]; try exact rfl) (by omega) ?_
     | refine w_draw (by omega) (by (repeat' first|assumption|refine D.upd ?_ (by omega)|exact D.mono (by assumption) (by omega)) <;> fail) ?_
     | refine d_nil ?_
     | refine d_rest rfl ?_
     | refine d_al2 rfl rfl rfl ?_
     | refine d_bs rfl ?_
     | refine d_box rfl ?_
     | refine d_alloc rfl ?_
     | refine d_one rfl ?_
     | refine d_next (by omega) ?_
     | refine d_laid ?_
     | fail
    refine hq _ _ _ he (by rwa [show i = l.length by omega] at hG) ?_ ?_ ?_
    all_goals first|(simp only [zL,zM,zF,zG,hnt, hds, t0];done)|(simp (disch:=first|decide|(simp only[zF,zG,hnt, hds, t0];decide)) only [zA,zB,zC,zD,zE,zF,zG,zH,zI,zJ,zK,HV.cells,fl0,fl2,flS,flS1,flI1,flU1,flU2,flF,hnt, hds, t0];first|done|exact rfl)|assumption
  | m + 1, i, a, h, nx, hm, he, hG, hnt, hds, t0, t3, hq, hr => by
    have hi : i < l.length := by omega
    have hrow0 := hrow.ext he
    obtain ⟨b, o, cs, kk, rfl, hb, hg, hcs⟩ := hrow0 (by intro e; rw [e] at hi; simp at hi)
    have hy : l[i]? = some l[i] := by simp [hi]
    have e0 := hcs i _ hy
    have hd := he.d
    have hle := he.le
    have ef := take_at e0 (j := 0) (v := i64 l[i].1) rfl
    have eg := take_at e0 (j := 1) (v := i64 l[i].2) rfl
    have nS : ¬ StOk l[i] → ¬ TbOk l := fun h1 h2 => h1 (h2.2.1 _ (List.getElem_mem hi))
    match i, hm, hG, t3, hi, hy, e0, ef, eg, nS with
    | 0, hm, hG, t3, hi, hy, e0, ef, eg, nS =>
      refine w_it (show L33w0 = _ by unfold L33w0; exact rfl) ?_
      repeat' first
       | refine r_nil ?_
       | refine th_n ?_
       | refine th_r ?_
       | refine th_e ?_
       | refine ib_n ?_
       | refine ib_r ?_
       | refine ib_e ?_
       | refine ib_x (by decide) ?_
       | refine w_exit ?_
       | refine w_seq ?_
       | refine w_reg ?_
       | refine w_ret ?_
       | refine w_skip ?_
       | refine w_block ?_
       | refine w_t (by simp (disch:=first|decide|(simp only[zF,zG,hnt, t0, t3, hg];decide)) only [zA,zB,zC,zD,zE,zF,zG,zH,zI,zJ,zK,HV.cells,fl0,fl2,flS,flS1,flI1,flU1,flU2,flF,hnt, t0, t3, hg]; first|done|exact rfl) ?_
       | refine w_f (by simp (disch:=first|decide|(simp only[zF,zG,hnt, t0, t3, hg];decide)) only [zA,zB,zC,zD,zE,zF,zG,zH,zI,zJ,zK,HV.cells,fl0,fl2,flS,flS1,flI1,flU1,flU2,flF,hnt, t0, t3, hg]; first|done|exact rfl) ?_
       | refine r_take (by simp (disch:=first|decide|(simp only[zF,zG,hnt, t0, t3, hg];decide)) only [zA,zB,zC,zD,zE,zF,zG,zH,zI,zJ,zK,HV.cells,fl0,fl2,flS,flS1,flI1,flU1,flU2,flF,hnt, t0, t3, hg]; first|done|exact rfl) ?_
       | refine r_drop (by simp (disch:=first|decide|(simp only[zF,zG,Bool.not_true,Bool.not_false,hnt, t0, t3, hg];decide)) only [zA,zB,zC,zD,zE,zF,zG,zH,zI,zJ,zK,HV.cells,fl0,fl2,flS,flS1,flI1,flU1,flU2,flF,Bool.not_true,Bool.not_false,hnt, t0, t3, hg]; first|done|exact rfl) ?_
       | refine r_dropu (by simp (disch:=first|decide|(simp only[zF,zG,hnt, t0, t3, hg];decide)) only [zA,zB,zC,zD,zE,zF,zG,zH,zI,zJ,zK,HV.cells,fl0,fl2,flS,flS1,flI1,flU1,flU2,flF,hnt, t0, t3, hg]; first|done|exact rfl) ?_
       | refine r_move (by simp (disch:=first|decide|(simp only[zF,zG,hnt, t0, t3, hg];decide)) only [zA,zB,zC,zD,zE,zF,zG,zH,zI,zJ,zK,HV.cells,fl0,fl2,flS,flS1,flI1,flU1,flU2,flF,hnt, t0, t3, hg]; try exact rfl) ?_
       | refine r_fa (by simp (disch:=first|decide|(simp only[zF,zG,hnt, t0, t3, hg];decide)) only [zA,zB,zC,zD,zE,zF,zG,zH,zI,zJ,zK,HV.cells,fl0,fl2,flS,flS1,flI1,flU1,flU2,flF,hnt, t0, t3, hg]; try exact rfl) ?_
       | refine r_ld1 (by simp (disch:=first|decide|(simp only[zF,zG,hnt, t0, t3, hg];decide)) only [zA,zB,zC,zD,zE,zF,zG,zH,zI,zJ,zK,HV.cells,fl0,fl2,flS,flS1,flI1,flU1,flU2,flF,hnt, t0, t3, hg]; try exact rfl) (by first|assumption|(simp (disch:=omega) only [get_same,get_other,hnt, t0, t3, hg]; first|done|exact rfl)) (by first|assumption|exact ow2 _ _ _ _|exact ow3 _ _ _ _ _ _|rfl|(simp only [zI,zJ,HV.cells,hnt, t0, t3, hg]; exact rfl)) ?_
       | refine r_add (by simp (disch:=first|decide|(simp only[zF,zG,hnt, t0, t3, hg];decide)) only [zA,zB,zC,zD,zE,zF,zG,zH,zI,zJ,zK,HV.cells,fl0,fl2,flS,flS1,flI1,flU1,flU2,flF,hnt, t0, t3, hg]; try exact rfl) (by simp (disch:=first|decide|(simp only[zF,zG,hnt, t0, t3, hg];decide)) only [zA,zB,zC,zD,zE,zF,zG,zH,zI,zJ,zK,HV.cells,fl0,fl2,flS,flS1,flI1,flU1,flU2,flF,hnt, t0, t3, hg]; try exact rfl) (by omega) (by omega) ?_
       | refine r_sub (by simp (disch:=first|decide|(simp only[zF,zG,hnt, t0, t3, hg];decide)) only [zA,zB,zC,zD,zE,zF,zG,zH,zI,zJ,zK,HV.cells,fl0,fl2,flS,flS1,flI1,flU1,flU2,flF,hnt, t0, t3, hg]; try exact rfl) (by simp (disch:=first|decide|(simp only[zF,zG,hnt, t0, t3, hg];decide)) only [zA,zB,zC,zD,zE,zF,zG,zH,zI,zJ,zK,HV.cells,fl0,fl2,flS,flS1,flI1,flU1,flU2,flF,hnt, t0, t3, hg]; try exact rfl) (by omega) (by omega) ?_
       | refine r_lss (by simp (disch:=first|decide|(simp only[zF,zG,hnt, t0, t3, hg];decide)) only [zA,zB,zC,zD,zE,zF,zG,zH,zI,zJ,zK,HV.cells,fl0,fl2,flS,flS1,flI1,flU1,flU2,flF,hnt, t0, t3, hg]; try exact rfl) (by simp (disch:=first|decide|(simp only[zF,zG,hnt, t0, t3, hg];decide)) only [zA,zB,zC,zD,zE,zF,zG,zH,zI,zJ,zK,HV.cells,fl0,fl2,flS,flS1,flI1,flU1,flU2,flF,hnt, t0, t3, hg]; try exact rfl) (fun hc => ?_) (fun hc => ?_) <;> (try (exfalso; omega))
       | refine r_leq (by simp (disch:=first|decide|(simp only[zF,zG,hnt, t0, t3, hg];decide)) only [zA,zB,zC,zD,zE,zF,zG,zH,zI,zJ,zK,HV.cells,fl0,fl2,flS,flS1,flI1,flU1,flU2,flF,hnt, t0, t3, hg]; try exact rfl) (by simp (disch:=first|decide|(simp only[zF,zG,hnt, t0, t3, hg];decide)) only [zA,zB,zC,zD,zE,zF,zG,zH,zI,zJ,zK,HV.cells,fl0,fl2,flS,flS1,flI1,flU1,flU2,flF,hnt, t0, t3, hg]; try exact rfl) (fun hc => ?_) (fun hc => ?_) <;> (try (exfalso; omega))
       | refine r_gtr (by simp (disch:=first|decide|(simp only[zF,zG,hnt, t0, t3, hg];decide)) only [zA,zB,zC,zD,zE,zF,zG,zH,zI,zJ,zK,HV.cells,fl0,fl2,flS,flS1,flI1,flU1,flU2,flF,hnt, t0, t3, hg]; try exact rfl) (by simp (disch:=first|decide|(simp only[zF,zG,hnt, t0, t3, hg];decide)) only [zA,zB,zC,zD,zE,zF,zG,zH,zI,zJ,zK,HV.cells,fl0,fl2,flS,flS1,flI1,flU1,flU2,flF,hnt, t0, t3, hg]; try exact rfl) (fun hc => ?_) (fun hc => ?_) <;> (try (exfalso; omega))
       | refine r_geq (by simp (disch:=first|decide|(simp only[zF,zG,hnt, t0, t3, hg];decide)) only [zA,zB,zC,zD,zE,zF,zG,zH,zI,zJ,zK,HV.cells,fl0,fl2,flS,flS1,flI1,flU1,flU2,flF,hnt, t0, t3, hg]; try exact rfl) (by simp (disch:=first|decide|(simp only[zF,zG,hnt, t0, t3, hg];decide)) only [zA,zB,zC,zD,zE,zF,zG,zH,zI,zJ,zK,HV.cells,fl0,fl2,flS,flS1,flI1,flU1,flU2,flF,hnt, t0, t3, hg]; try exact rfl) (fun hc => ?_) (fun hc => ?_) <;> (try (exfalso; omega))
       | refine r_not1 (by simp (disch:=first|decide|(simp only[zF,zG,hnt, t0, t3, hg];decide)) only [zA,zB,zC,zD,zE,zF,zG,zH,zI,zJ,zK,HV.cells,fl0,fl2,flS,flS1,flI1,flU1,flU2,flF,hnt, t0, t3, hg]; try exact rfl) ?_
       | refine r_pt (by simp (disch:=first|decide|(simp only[zF,zG,hnt, t0, t3, hg];decide)) only [zA,zB,zC,zD,zE,zF,zG,zH,zI,zJ,zK,HV.cells,fl0,fl2,flS,flS1,flI1,flU1,flU2,flF,hnt, t0, t3, hg]; first|done|exact rfl) (by simp (disch:=first|decide|(simp only[zF,zG,hnt, t0, t3, hg];decide)) only [zA,zB,zC,zD,zE,zF,zG,zH,zI,zJ,zK,HV.cells,fl0,fl2,flS,flS1,flI1,flU1,flU2,flF,hnt, t0, t3, hg]; try exact rfl) ?_
       | refine r_pf (by simp (disch:=first|decide|(simp only[zF,zG,hnt, t0, t3, hg];decide)) only [zA,zB,zC,zD,zE,zF,zG,zH,zI,zJ,zK,HV.cells,fl0,fl2,flS,flS1,flI1,flU1,flU2,flF,hnt, t0, t3, hg]; first|done|exact rfl) (by simp (disch:=first|decide|(simp only[zF,zG,hnt, t0, t3, hg];decide)) only [zA,zB,zC,zD,zE,zF,zG,zH,zI,zJ,zK,HV.cells,fl0,fl2,flS,flS1,flI1,flU1,flU2,flF,hnt, t0, t3, hg]; try exact rfl) ?_
       | refine r_len (by simp (disch:=first|decide|(simp only[zF,zG,hnt, t0, t3, hg];decide)) only [zA,zB,zC,zD,zE,zF,zG,zH,zI,zJ,zK,HV.cells,fl0,fl2,flS,flS1,flI1,flU1,flU2,flF,hnt, t0, t3, hg]; try exact rfl) ?_
       | refine r_ixs (by simp (disch:=first|decide|(simp only[zF,zG,hnt, t0, t3, hg];decide)) only [zA,zB,zC,zD,zE,zF,zG,zH,zI,zJ,zK,HV.cells,fl0,fl2,flS,flS1,flI1,flU1,flU2,flF,hnt, t0, t3, hg]; try exact rfl) (by simp (disch:=first|decide|(simp only[zF,zG,hnt, t0, t3, hg];decide)) only [zA,zB,zC,zD,zE,zF,zG,zH,zI,zJ,zK,HV.cells,fl0,fl2,flS,flS1,flI1,flU1,flU2,flF,hnt, t0, t3, hg]; try exact rfl) (by omega) ?_
       | refine r_calld (by simp (disch:=first|decide|(simp only[zF,zG,hnt, t0, t3, hg];decide)) only [zA,zB,zC,zD,zE,zF,zG,zH,zI,zJ,zK,HV.cells,fl0,fl2,flS,flS1,flI1,flU1,flU2,flF,hnt, t0, t3, hg]; try exact rfl) (by simp (disch:=first|decide|(simp only[zF,zG,hnt, t0, t3, hg];decide)) only [List.map_cons,List.map_nil,List.nil_append,List.cons_append,List.append_nil,zA,zB,zC,zD,zE,zF,zG,zH,zI,zJ,zK,HV.cells,fl0,fl2,flS,flS1,flI1,flU1,flU2,flF,hnt, t0, t3, hg]; first|done|exact rfl) c_In (fun n' hn' hc => ?_) (fun n' hn' hc => ?_) <;> (try (exfalso; omega))
       | refine w_draw (by omega) (by (repeat' first|assumption|refine D.upd ?_ (by omega)|exact D.mono (by assumption) (by omega)) <;> fail) ?_
       | refine d_nil ?_
       | refine d_rest rfl ?_
       | refine d_al2 rfl rfl rfl ?_
       | refine d_bs rfl ?_
       | refine d_box rfl ?_
       | refine d_alloc rfl ?_
       | refine d_one rfl ?_
       | refine d_next (by omega) ?_
       | refine d_laid ?_
       | fail
      have ej : ((0 : Nat) : Int) + 1 = ((1 : Nat) : Int) := by omega
      all_goals first
        | (refine hr _ _ _ (he.up (by omega)) (nS (by unfold StOk; omega)) ?_ ?_ ?_
           all_goals first|(simp only [zL,zM,zF,zG,hnt, hds];done)|(simp (disch:=first|decide|(simp only[zF,zG,hnt, hds];decide)) only [zA,zB,zC,zD,zE,zF,zG,zH,zI,zJ,zK,HV.cells,fl0,fl2,flS,flS1,flI1,flU1,flU2,flF,hnt, hds];first|done|exact rfl)|assumption)
        | (refine loop33 (cp := cp) hlen hfl hrow m (0 + 1) _ _ _ (by omega) (he.up (by omega)) (good_next hG hi (by unfold StOk; omega) (fun k hk => by omega)) ?_ ?_ ?_ ?_ hq hr
           · first|(simp only [zL,zM,zF,zG,hnt];done)|(simp (disch:=first|decide|(simp only[zF,zG,hnt];decide)) only [zA,zB,zC,zD,zE,zF,zG,zH,zI,zJ,zK,HV.cells,fl0,fl2,flS,flS1,flI1,flU1,flU2,flF,hnt];first|done|exact rfl)|assumption
           · first|(simp only [zL,zM,zF,zG,hnt, hds];done)|(simp (disch:=first|decide|(simp only[zF,zG,hnt, hds];decide)) only [zA,zB,zC,zD,zE,zF,zG,zH,zI,zJ,zK,HV.cells,fl0,fl2,flS,flS1,flI1,flU1,flU2,flF,hnt, hds];first|done|exact rfl)|assumption
           · first|(simp only [zL,zM,zF,zG,hnt, t0];done)|(simp (disch:=first|decide|(simp only[zF,zG,hnt, t0];decide)) only [zA,zB,zC,zD,zE,zF,zG,zH,zI,zJ,zK,HV.cells,fl0,fl2,flS,flS1,flI1,flU1,flU2,flF,hnt, t0];first|done|exact rfl)|assumption
           · exact Eq.trans (by simp (disch:=first|decide|(simp only[zF,zG,hnt];decide)) only [zA,zB,zC,zD,zE,zF,zG,zH,zI,zJ,zK,HV.cells,fl0,fl2,flS,flS1,flI1,flU1,flU2,flF,hnt]; try exact rfl) (congrArg i64 (by omega)))
    | k + 1, hm, hG, t3, hi, hy, e0, ef, eg, nS =>
      have hz : l[k]? = some l[k] := by simp [show k < l.length by omega]
      have e1 := hcs k _ hz
      have eh := take_at e1 (j := 0) (v := i64 l[k].1) rfl
      have ei := take_at e1 (j := 1) (v := i64 l[k].2) rfl
      have ej : ((k + 1 : Nat) : Int) - 1 = (k : Int) := by omega
      have nP : ¬ Pre l[k] l[k + 1] → ¬ TbOk l := fun h1 h2 => h1 (ris_at h2.2.2 k hi)
      refine w_it (show L33w0 = _ by unfold L33w0; exact rfl) ?_
      repeat' first
       | refine r_nil ?_
       | refine th_n ?_
       | refine th_r ?_
       | refine th_e ?_
       | refine ib_n ?_
       | refine ib_r ?_
       | refine ib_e ?_
       | refine ib_x (by decide) ?_
       | refine w_exit ?_
       | refine w_seq ?_
       | refine w_reg ?_
       | refine w_ret ?_
       | refine w_skip ?_
       | refine w_block ?_
       | refine w_t (by simp (disch:=first|decide|(simp only[zF,zG,hnt, t0, t3, hg, ej];decide)) only [zA,zB,zC,zD,zE,zF,zG,zH,zI,zJ,zK,HV.cells,fl0,fl2,flS,flS1,flI1,flU1,flU2,flF,hnt, t0, t3, hg, ej]; first|done|exact rfl) ?_
       | refine w_f (by simp (disch:=first|decide|(simp only[zF,zG,hnt, t0, t3, hg, ej];decide)) only [zA,zB,zC,zD,zE,zF,zG,zH,zI,zJ,zK,HV.cells,fl0,fl2,flS,flS1,flI1,flU1,flU2,flF,hnt, t0, t3, hg, ej]; first|done|exact rfl) ?_
       | refine r_take (by simp (disch:=first|decide|(simp only[zF,zG,hnt, t0, t3, hg, ej];decide)) only [zA,zB,zC,zD,zE,zF,zG,zH,zI,zJ,zK,HV.cells,fl0,fl2,flS,flS1,flI1,flU1,flU2,flF,hnt, t0, t3, hg, ej]; first|done|exact rfl) ?_
       | refine r_drop (by simp (disch:=first|decide|(simp only[zF,zG,Bool.not_true,Bool.not_false,hnt, t0, t3, hg, ej];decide)) only [zA,zB,zC,zD,zE,zF,zG,zH,zI,zJ,zK,HV.cells,fl0,fl2,flS,flS1,flI1,flU1,flU2,flF,Bool.not_true,Bool.not_false,hnt, t0, t3, hg, ej]; first|done|exact rfl) ?_
       | refine r_dropu (by simp (disch:=first|decide|(simp only[zF,zG,hnt, t0, t3, hg, ej];decide)) only [zA,zB,zC,zD,zE,zF,zG,zH,zI,zJ,zK,HV.cells,fl0,fl2,flS,flS1,flI1,flU1,flU2,flF,hnt, t0, t3, hg, ej]; first|done|exact rfl) ?_
       | refine r_move (by simp (disch:=first|decide|(simp only[zF,zG,hnt, t0, t3, hg, ej];decide)) only [zA,zB,zC,zD,zE,zF,zG,zH,zI,zJ,zK,HV.cells,fl0,fl2,flS,flS1,flI1,flU1,flU2,flF,hnt, t0, t3, hg, ej]; try exact rfl) ?_
       | refine r_fa (by simp (disch:=first|decide|(simp only[zF,zG,hnt, t0, t3, hg, ej];decide)) only [zA,zB,zC,zD,zE,zF,zG,zH,zI,zJ,zK,HV.cells,fl0,fl2,flS,flS1,flI1,flU1,flU2,flF,hnt, t0, t3, hg, ej]; try exact rfl) ?_
       | refine r_ld1 (by simp (disch:=first|decide|(simp only[zF,zG,hnt, t0, t3, hg, ej];decide)) only [zA,zB,zC,zD,zE,zF,zG,zH,zI,zJ,zK,HV.cells,fl0,fl2,flS,flS1,flI1,flU1,flU2,flF,hnt, t0, t3, hg, ej]; try exact rfl) (by first|assumption|(simp (disch:=omega) only [get_same,get_other,hnt, t0, t3, hg, ej]; first|done|exact rfl)) (by first|assumption|exact ow2 _ _ _ _|exact ow3 _ _ _ _ _ _|rfl|(simp only [zI,zJ,HV.cells,hnt, t0, t3, hg, ej]; exact rfl)) ?_
       | refine r_add (by simp (disch:=first|decide|(simp only[zF,zG,hnt, t0, t3, hg, ej];decide)) only [zA,zB,zC,zD,zE,zF,zG,zH,zI,zJ,zK,HV.cells,fl0,fl2,flS,flS1,flI1,flU1,flU2,flF,hnt, t0, t3, hg, ej]; try exact rfl) (by simp (disch:=first|decide|(simp only[zF,zG,hnt, t0, t3, hg, ej];decide)) only [zA,zB,zC,zD,zE,zF,zG,zH,zI,zJ,zK,HV.cells,fl0,fl2,flS,flS1,flI1,flU1,flU2,flF,hnt, t0, t3, hg, ej]; try exact rfl) (by omega) (by omega) ?_
       | refine r_sub (by simp (disch:=first|decide|(simp only[zF,zG,hnt, t0, t3, hg, ej];decide)) only [zA,zB,zC,zD,zE,zF,zG,zH,zI,zJ,zK,HV.cells,fl0,fl2,flS,flS1,flI1,flU1,flU2,flF,hnt, t0, t3, hg, ej]; try exact rfl) (by simp (disch:=first|decide|(simp only[zF,zG,hnt, t0, t3, hg, ej];decide)) only [zA,zB,zC,zD,zE,zF,zG,zH,zI,zJ,zK,HV.cells,fl0,fl2,flS,flS1,flI1,flU1,flU2,flF,hnt, t0, t3, hg, ej]; try exact rfl) (by omega) (by omega) ?_
       | refine r_lss (by simp (disch:=first|decide|(simp only[zF,zG,hnt, t0, t3, hg, ej];decide)) only [zA,zB,zC,zD,zE,zF,zG,zH,zI,zJ,zK,HV.cells,fl0,fl2,flS,flS1,flI1,flU1,flU2,flF,hnt, t0, t3, hg, ej]; try exact rfl) (by simp (disch:=first|decide|(simp only[zF,zG,hnt, t0, t3, hg, ej];decide)) only [zA,zB,zC,zD,zE,zF,zG,zH,zI,zJ,zK,HV.cells,fl0,fl2,flS,flS1,flI1,flU1,flU2,flF,hnt, t0, t3, hg, ej]; try exact rfl) (fun hc => ?_) (fun hc => ?_) <;> (try (exfalso; omega))
       | refine r_leq (by simp (disch:=first|decide|(simp only[zF,zG,hnt, t0, t3, hg, ej];decide)) only [zA,zB,zC,zD,zE,zF,zG,zH,zI,zJ,zK,HV.cells,fl0,fl2,flS,flS1,flI1,flU1,flU2,flF,hnt, t0, t3, hg, ej]; try exact rfl) (by simp (disch:=first|decide|(simp only[zF,zG,hnt, t0, t3, hg, ej];decide)) only [zA,zB,zC,zD,zE,zF,zG,zH,zI,zJ,zK,HV.cells,fl0,fl2,flS,flS1,flI1,flU1,flU2,flF,hnt, t0, t3, hg, ej]; try exact rfl) (fun hc => ?_) (fun hc => ?_) <;> (try (exfalso; omega))
       | refine r_gtr (by simp (disch:=first|decide|(simp only[zF,zG,hnt, t0, t3, hg, ej];decide)) only [zA,zB,zC,zD,zE,zF,zG,zH,zI,zJ,zK,HV.cells,fl0,fl2,flS,flS1,flI1,flU1,flU2,flF,hnt, t0, t3, hg, ej]; try exact rfl) (by simp (disch:=first|decide|(simp only[zF,zG,hnt, t0, t3, hg, ej];decide)) only [zA,zB,zC,zD,zE,zF,zG,zH,zI,zJ,zK,HV.cells,fl0,fl2,flS,flS1,flI1,flU1,flU2,flF,hnt, t0, t3, hg, ej]; try exact rfl) (fun hc => ?_) (fun hc => ?_) <;> (try (exfalso; omega))
       | refine r_geq (by simp (disch:=first|decide|(simp only[zF,zG,hnt, t0, t3, hg, ej];decide)) only [zA,zB,zC,zD,zE,zF,zG,zH,zI,zJ,zK,HV.cells,fl0,fl2,flS,flS1,flI1,flU1,flU2,flF,hnt, t0, t3, hg, ej]; try exact rfl) (by simp (disch:=first|decide|(simp only[zF,zG,hnt, t0, t3, hg, ej];decide)) only [zA,zB,zC,zD,zE,zF,zG,zH,zI,zJ,zK,HV.cells,fl0,fl2,flS,flS1,flI1,flU1,flU2,flF,hnt, t0, t3, hg, ej]; try exact rfl) (fun hc => ?_) (fun hc => ?_) <;> (try (exfalso; omega))
       | refine r_not1 (by simp (disch:=first|decide|(simp only[zF,zG,hnt, t0, t3, hg, ej];decide)) only [zA,zB,zC,zD,zE,zF,zG,zH,zI,zJ,zK,HV.cells,fl0,fl2,flS,flS1,flI1,flU1,flU2,flF,hnt, t0, t3, hg, ej]; try exact rfl) ?_
       | refine r_pt (by simp (disch:=first|decide|(simp only[zF,zG,hnt, t0, t3, hg, ej];decide)) only [zA,zB,zC,zD,zE,zF,zG,zH,zI,zJ,zK,HV.cells,fl0,fl2,flS,flS1,flI1,flU1,flU2,flF,hnt, t0, t3, hg, ej]; first|done|exact rfl) (by simp (disch:=first|decide|(simp only[zF,zG,hnt, t0, t3, hg, ej];decide)) only [zA,zB,zC,zD,zE,zF,zG,zH,zI,zJ,zK,HV.cells,fl0,fl2,flS,flS1,flI1,flU1,flU2,flF,hnt, t0, t3, hg, ej]; try exact rfl) ?_
       | refine r_pf (by simp (disch:=first|decide|(simp only[zF,zG,hnt, t0, t3, hg, ej];decide)) only [zA,zB,zC,zD,zE,zF,zG,zH,zI,zJ,zK,HV.cells,fl0,fl2,flS,flS1,flI1,flU1,flU2,flF,hnt, t0, t3, hg, ej]; first|done|exact rfl) (by simp (disch:=first|decide|(simp only[zF,zG,hnt, t0, t3, hg, ej];decide)) only [zA,zB,zC,zD,zE,zF,zG,zH,zI,zJ,zK,HV.cells,fl0,fl2,flS,flS1,flI1,flU1,flU2,flF,hnt, t0, t3, hg, ej]; try exact rfl) ?_
       | refine r_len (by simp (disch:=first|decide|(simp only[zF,zG,hnt, t0, t3, hg, ej];decide)) only [zA,zB,zC,zD,zE,zF,zG,zH,zI,zJ,zK,HV.cells,fl0,fl2,flS,flS1,flI1,flU1,flU2,flF,hnt, t0, t3, hg, ej]; try exact rfl) ?_
       | refine r_ixs (by simp (disch:=first|decide|(simp only[zF,zG,hnt, t0, t3, hg, ej];decide)) only [zA,zB,zC,zD,zE,zF,zG,zH,zI,zJ,zK,HV.cells,fl0,fl2,flS,flS1,flI1,flU1,flU2,flF,hnt, t0, t3, hg, ej]; try exact rfl) (by simp (disch:=first|decide|(simp only[zF,zG,hnt, t0, t3, hg, ej];decide)) only [zA,zB,zC,zD,zE,zF,zG,zH,zI,zJ,zK,HV.cells,fl0,fl2,flS,flS1,flI1,flU1,flU2,flF,hnt, t0, t3, hg, ej]; try exact rfl) (by omega) ?_
       | refine r_calld (by simp (disch:=first|decide|(simp only[zF,zG,hnt, t0, t3, hg, ej];decide)) only [zA,zB,zC,zD,zE,zF,zG,zH,zI,zJ,zK,HV.cells,fl0,fl2,flS,flS1,flI1,flU1,flU2,flF,hnt, t0, t3, hg, ej]; try exact rfl) (by simp (disch:=first|decide|(simp only[zF,zG,hnt, t0, t3, hg, ej];decide)) only [List.map_cons,List.map_nil,List.nil_append,List.cons_append,List.append_nil,zA,zB,zC,zD,zE,zF,zG,zH,zI,zJ,zK,HV.cells,fl0,fl2,flS,flS1,flI1,flU1,flU2,flF,hnt, t0, t3, hg, ej]; first|done|exact rfl) c_In (fun n' hn' hc => ?_) (fun n' hn' hc => ?_) <;> (try (exfalso; omega))
       | refine w_draw (by omega) (by (repeat' first|assumption|refine D.upd ?_ (by omega)|exact D.mono (by assumption) (by omega)) <;> fail) ?_
       | refine d_nil ?_
       | refine d_rest rfl ?_
       | refine d_al2 rfl rfl rfl ?_
       | refine d_bs rfl ?_
       | refine d_box rfl ?_
       | refine d_alloc rfl ?_
       | refine d_one rfl ?_
       | refine d_next (by omega) ?_
       | refine d_laid ?_
       | fail
      have ek : ((k + 1 : Nat) : Int) + 1 = ((k + 2 : Nat) : Int) := by omega
      have el : ((k + 1 + 1 : Nat) : Int) = ((k + 2 : Nat) : Int) := by omega
      all_goals first
        | (refine hr _ _ _ (he.up (by omega)) (by first|exact nS (by unfold StOk; omega)|exact nP (by unfold Pre; omega)) ?_ ?_ ?_
           all_goals first|(simp only [zL,zM,zF,zG,hnt, hds];done)|(simp (disch:=first|decide|(simp only[zF,zG,hnt, hds];decide)) only [zA,zB,zC,zD,zE,zF,zG,zH,zI,zJ,zK,HV.cells,fl0,fl2,flS,flS1,flI1,flU1,flU2,flF,hnt, hds];first|done|exact rfl)|assumption)
        | (refine loop33 (cp := cp) hlen hfl hrow m (k + 1 + 1) _ _ _ (by omega) (he.up (by omega)) (good_next hG hi (by unfold StOk; omega) (fun j hj => by
            have e : j = k := by omega
            subst e
            unfold Pre
            omega)) ?_ ?_ ?_ ?_ hq hr
           · first|(simp only [zL,zM,zF,zG,hnt];done)|(simp (disch:=first|decide|(simp only[zF,zG,hnt];decide)) only [zA,zB,zC,zD,zE,zF,zG,zH,zI,zJ,zK,HV.cells,fl0,fl2,flS,flS1,flI1,flU1,flU2,flF,hnt];first|done|exact rfl)|assumption
           · first|(simp only [zL,zM,zF,zG,hnt, hds];done)|(simp (disch:=first|decide|(simp only[zF,zG,hnt, hds];decide)) only [zA,zB,zC,zD,zE,zF,zG,zH,zI,zJ,zK,HV.cells,fl0,fl2,flS,flS1,flI1,flU1,flU2,flF,hnt, hds];first|done|exact rfl)|assumption
           · first|(simp only [zL,zM,zF,zG,hnt, t0];done)|(simp (disch:=first|decide|(simp only[zF,zG,hnt, t0];decide)) only [zA,zB,zC,zD,zE,zF,zG,zH,zI,zJ,zK,HV.cells,fl0,fl2,flS,flS1,flI1,flU1,flU2,flF,hnt, t0];first|done|exact rfl)|assumption
           · exact Eq.trans (by simp (disch:=first|decide|(simp only[zF,zG,hnt];decide)) only [zA,zB,zC,zD,zE,zF,zG,zH,zI,zJ,zK,HV.cells,fl0,fl2,flS,flS1,flI1,flU1,flU2,flF,hnt]; try exact rfl) (congrArg i64 (by omega)))
/- 33 -/
theorem c_IsTable {fl : Nat} {h : Tr HBlk} {nx : Nat} (hd : D h nx) {p : Option (Nat × Nat)} {l : List (Int × Int)} {n cp : Nat} (hn : n = l.length) (hlen : l.length < 1000000000) (hrow : Row renc 2 h nx p l) :
    C LW fl 33 [.slice p n cp] ⟨h, nx⟩ (Sc (· = .bool (decide (TbOk l))) ⟨h, nx⟩) := by
  subst hn
  refine c_in lw33 rfl rfl rfl ?_
  dsimp only [L33]
  repeat' first
   | refine r_nil ?_
   | refine th_n ?_
   | refine th_r ?_
   | refine th_e ?_
   | refine ib_n ?_
   | refine ib_r ?_
   | refine ib_e ?_
   | refine ib_x (by decide) ?_
   | refine w_exit ?_
   | refine w_seq ?_
   | refine w_reg ?_
   | refine w_ret ?_
   | refine w_skip ?_
   | refine w_block ?_
   | refine w_t (by simp (disch:=first|decide|(simp only[zF,zG];decide)) only [zA,zB,zC,zD,zE,zF,zG,zH,zI,zJ,zK,HV.cells,fl0,fl2,flS,flS1,flI1,flU1,flU2,flF]; first|done|exact rfl) ?_
   | refine w_f (by simp (disch:=first|decide|(simp only[zF,zG];decide)) only [zA,zB,zC,zD,zE,zF,zG,zH,zI,zJ,zK,HV.cells,fl0,fl2,flS,flS1,flI1,flU1,flU2,flF]; first|done|exact rfl) ?_
   | refine r_take (by simp (disch:=first|decide|(simp only[zF,zG];decide)) only [zA,zB,zC,zD,zE,zF,zG,zH,zI,zJ,zK,HV.cells,fl0,fl2,flS,flS1,flI1,flU1,flU2,flF]; first|done|exact rfl) ?_
   | refine r_drop (by simp (disch:=first|decide|(simp only[zF,zG,Bool.not_true,Bool.not_false];decide)) only [zA,zB,zC,zD,zE,zF,zG,zH,zI,zJ,zK,HV.cells,fl0,fl2,flS,flS1,flI1,flU1,flU2,flF,Bool.not_true,Bool.not_false]; first|done|exact rfl) ?_
   | refine r_dropu (by simp (disch:=first|decide|(simp only[zF,zG];decide)) only [zA,zB,zC,zD,zE,zF,zG,zH,zI,zJ,zK,HV.cells,fl0,fl2,flS,flS1,flI1,flU1,flU2,flF]; first|done|exact rfl) ?_
   | refine r_move (by simp (disch:=first|decide|(simp only[zF,zG];decide)) only [zA,zB,zC,zD,zE,zF,zG,zH,zI,zJ,zK,HV.cells,fl0,fl2,flS,flS1,flI1,flU1,flU2,flF]; try exact rfl) ?_
   | refine r_fa (by simp (disch:=first|decide|(simp only[zF,zG];decide)) only [zA,zB,zC,zD,zE,zF,zG,zH,zI,zJ,zK,HV.cells,fl0,fl2,flS,flS1,flI1,flU1,flU2,flF]; try exact rfl) ?_
   | refine r_ld1 (by simp (disch:=first|decide|(simp only[zF,zG];decide)) only [zA,zB,zC,zD,zE,zF,zG,zH,zI,zJ,zK,HV.cells,fl0,fl2,flS,flS1,flI1,flU1,flU2,flF]; try exact rfl) (by first|assumption|(simp (disch:=omega) only [get_same,get_other]; first|done|exact rfl)) (by first|assumption|exact ow2 _ _ _ _|exact ow3 _ _ _ _ _ _|rfl|(simp only [zI,zJ,HV.cells]; exact rfl)) ?_
   | refine r_add (by simp (disch:=first|decide|(simp only[zF,zG];decide)) only [zA,zB,zC,zD,zE,zF,zG,zH,zI,zJ,zK,HV.cells,fl0,fl2,flS,flS1,flI1,flU1,flU2,flF]; try exact rfl) (by simp (disch:=first|decide|(simp only[zF,zG];decide)) only [zA,zB,zC,zD,zE,zF,zG,zH,zI,zJ,zK,HV.cells,fl0,fl2,flS,flS1,flI1,flU1,flU2,flF]; try exact rfl) (by omega) (by omega) ?_
   | refine r_sub (by simp (disch:=first|decide|(simp only[zF,zG];decide)) only [zA,zB,zC,zD,zE,zF,zG,zH,zI,zJ,zK,HV.cells,fl0,fl2,flS,flS1,flI1,flU1,flU2,flF]; try exact rfl) (by simp (disch:=first|decide|(simp only[zF,zG];decide)) only [zA,zB,zC,zD,zE,zF,zG,zH,zI,zJ,zK,HV.cells,fl0,fl2,flS,flS1,flI1,flU1,flU2,flF]; try exact rfl) (by omega) (by omega) ?_
   | refine r_lss (by simp (disch:=first|decide|(simp only[zF,zG];decide)) only [zA,zB,zC,zD,zE,zF,zG,zH,zI,zJ,zK,HV.cells,fl0,fl2,flS,flS1,flI1,flU1,flU2,flF]; try exact rfl) (by simp (disch:=first|decide|(simp only[zF,zG];decide)) only [zA,zB,zC,zD,zE,zF,zG,zH,zI,zJ,zK,HV.cells,fl0,fl2,flS,flS1,flI1,flU1,flU2,flF]; try exact rfl) (fun hc => ?_) (fun hc => ?_) <;> (try (exfalso; omega))
   | refine r_leq (by simp (disch:=first|decide|(simp only[zF,zG];decide)) only [zA,zB,zC,zD,zE,zF,zG,zH,zI,zJ,zK,HV.cells,fl0,fl2,flS,flS1,flI1,flU1,flU2,flF]; try exact rfl) (by simp (disch:=first|decide|(simp only[zF,zG];decide)) only [zA,zB,zC,zD,zE,zF,zG,zH,zI,zJ,zK,HV.cells,fl0,fl2,flS,flS1,flI1,flU1,flU2,flF]; try exact rfl) (fun hc => ?_) (fun hc => ?_) <;> (try (exfalso; omega))
   | refine r_gtr (by simp (disch:=first|decide|(simp only[zF,zG];decide)) only [zA,zB,zC,zD,zE,zF,zG,zH,zI,zJ,zK,HV.cells,fl0,fl2,flS,flS1,flI1,flU1,flU2,flF]; try exact rfl) (by simp (disch:=first|decide|(simp only[zF,zG];decide)) only [zA,zB,zC,zD,zE,zF,zG,zH,zI,zJ,zK,HV.cells,fl0,fl2,flS,flS1,flI1,flU1,flU2,flF]; try exact rfl) (fun hc => ?_) (fun hc => ?_) <;> (try (exfalso; omega))
   | refine r_geq (by simp (disch:=first|decide|(simp only[zF,zG];decide)) only [zA,zB,zC,zD,zE,zF,zG,zH,zI,zJ,zK,HV.cells,fl0,fl2,flS,flS1,flI1,flU1,flU2,flF]; try exact rfl) (by simp (disch:=first|decide|(simp only[zF,zG];decide)) only [zA,zB,zC,zD,zE,zF,zG,zH,zI,zJ,zK,HV.cells,fl0,fl2,flS,flS1,flI1,flU1,flU2,flF]; try exact rfl) (fun hc => ?_) (fun hc => ?_) <;> (try (exfalso; omega))
   | refine r_not1 (by simp (disch:=first|decide|(simp only[zF,zG];decide)) only [zA,zB,zC,zD,zE,zF,zG,zH,zI,zJ,zK,HV.cells,fl0,fl2,flS,flS1,flI1,flU1,flU2,flF]; try exact rfl) ?_
   | refine r_pt (by simp (disch:=first|decide|(simp only[zF,zG];decide)) only [zA,zB,zC,zD,zE,zF,zG,zH,zI,zJ,zK,HV.cells,fl0,fl2,flS,flS1,flI1,flU1,flU2,flF]; first|done|exact rfl) (by simp (disch:=first|decide|(simp only[zF,zG];decide)) only [zA,zB,zC,zD,zE,zF,zG,zH,zI,zJ,zK,HV.cells,fl0,fl2,flS,flS1,flI1,flU1,flU2,flF]; try exact rfl) ?_
   | refine r_pf (by simp (disch:=first|decide|(simp only[zF,zG];decide)) only [zA,zB,zC,zD,zE,zF,zG,zH,zI,zJ,zK,HV.cells,fl0,fl2,flS,flS1,flI1,flU1,flU2,flF]; first|done|exact rfl) (by simp (disch:=first|decide|(simp only[zF,zG];decide)) only [zA,zB,zC,zD,zE,zF,zG,zH,zI,zJ,zK,HV.cells,fl0,fl2,flS,flS1,flI1,flU1,flU2,flF]; try exact rfl) ?_
   | refine r_len (by simp (disch:=first|decide|(simp only[zF,zG];decide)) only [zA,zB,zC,zD,zE,zF,zG,zH,zI,zJ,zK,HV.cells,fl0,fl2,flS,flS1,flI1,flU1,flU2,flF]; try exact rfl) ?_
   | refine r_ixs (by simp (disch:=first|decide|(simp only[zF,zG];decide)) only [zA,zB,zC,zD,zE,zF,zG,zH,zI,zJ,zK,HV.cells,fl0,fl2,flS,flS1,flI1,flU1,flU2,flF]; try exact rfl) (by simp (disch:=first|decide|(simp only[zF,zG];decide)) only [zA,zB,zC,zD,zE,zF,zG,zH,zI,zJ,zK,HV.cells,fl0,fl2,flS,flS1,flI1,flU1,flU2,flF]; try exact rfl) (by omega) ?_
   | refine w_draw (by omega) (by (repeat' first|assumption|refine D.upd ?_ (by omega)|exact D.mono (by assumption) (by omega)) <;> fail) ?_
   | refine d_nil ?_
   | refine d_rest rfl ?_
   | refine d_al2 rfl rfl rfl ?_
   | refine d_bs rfl ?_
   | refine d_box rfl ?_
   | refine d_alloc rfl ?_
   | refine d_one rfl ?_
   | refine d_next (by omega) ?_
   | refine d_laid ?_
   | fail
  refine loop33 (cp := cp) hlen (Nat.le_refl _) hrow l.length 0 _ _ _ (by omega) (Ext.refl hd) ⟨fun j _ hj => by omega, fun j _ hj => by omega⟩ ?_ ?_ ?_ ?_ (fun a' h' n2 g1 g2 g3 g4 g5 => ?_) (fun a' h' n2 g1 g2 g3 g4 g5 => ?_)
  all_goals try first|(simp only [zL,zM,zF,zG];done)|(simp (disch:=first|decide|(simp only[zF,zG];decide)) only [zA,zB,zC,zD,zE,zF,zG,zH,zI,zJ,zK,HV.cells,fl0,fl2,flS,flS1,flI1,flU1,flU2,flF];first|done|exact rfl)|assumption
  · have hle := g1.le
    repeat' first
     | refine r_nil ?_
     | refine th_n ?_
     | refine th_r ?_
     | refine th_e ?_
     | refine ib_n ?_
     | refine ib_r ?_
     | refine ib_e ?_
     | refine ib_x (by decide) ?_
     | refine w_exit ?_
     | refine w_seq ?_
     | refine w_reg ?_
     | refine w_ret ?_
     | refine w_skip ?_
     | refine w_block ?_
     | refine w_t (by simp (disch:=first|decide|(simp only[zF,zG,g3, g5];decide)) only [zA,zB,zC,zD,zE,zF,zG,zH,zI,zJ,zK,HV.cells,fl0,fl2,flS,flS1,flI1,flU1,flU2,flF,g3, g5]; first|done|exact rfl) ?_
     | refine w_f (by simp (disch:=first|decide|(simp only[zF,zG,g3, g5];decide)) only [zA,zB,zC,zD,zE,zF,zG,zH,zI,zJ,zK,HV.cells,fl0,fl2,flS,flS1,flI1,flU1,flU2,flF,g3, g5]; first|done|exact rfl) ?_
     | refine r_take (by simp (disch:=first|decide|(simp only[zF,zG,g3, g5];decide)) only [zA,zB,zC,zD,zE,zF,zG,zH,zI,zJ,zK,HV.cells,fl0,fl2,flS,flS1,flI1,flU1,flU2,flF,g3, g5]; first|done|exact rfl) ?_
     | refine r_drop (by simp (disch:=first|decide|(simp only[zF,zG,Bool.not_true,Bool.not_false,g3, g5];decide)) only [zA,zB,zC,zD,zE,zF,zG,zH,zI,zJ,zK,HV.cells,fl0,fl2,flS,flS1,flI1,flU1,flU2,flF,Bool.not_true,Bool.not_false,g3, g5]; first|done|exact rfl) ?_
     | refine r_dropu (by simp (disch:=first|decide|(simp only[zF,zG,g3, g5];decide)) only [zA,zB,zC,zD,zE,zF,zG,zH,zI,zJ,zK,HV.cells,fl0,fl2,flS,flS1,flI1,flU1,flU2,flF,g3, g5]; first|done|exact rfl) ?_
     | refine r_move (by simp (disch:=first|decide|(simp only[zF,zG,g3, g5];decide)) only [zA,zB,zC,zD,zE,zF,zG,zH,zI,zJ,zK,HV.cells,fl0,fl2,flS,flS1,flI1,flU1,flU2,flF,g3, g5]; try exact rfl) ?_
     | refine r_fa (by simp (disch:=first|decide|(simp only[zF,zG,g3, g5];decide)) only [zA,zB,zC,zD,zE,zF,zG,zH,zI,zJ,zK,HV.cells,fl0,fl2,flS,flS1,flI1,flU1,flU2,flF,g3, g5]; try exact rfl) ?_
     | refine r_ld1 (by simp (disch:=first|decide|(simp only[zF,zG,g3, g5];decide)) only [zA,zB,zC,zD,zE,zF,zG,zH,zI,zJ,zK,HV.cells,fl0,fl2,flS,flS1,flI1,flU1,flU2,flF,g3, g5]; try exact rfl) (by first|assumption|(simp (disch:=omega) only [get_same,get_other,g3, g5]; first|done|exact rfl)) (by first|assumption|exact ow2 _ _ _ _|exact ow3 _ _ _ _ _ _|rfl|(simp only [zI,zJ,HV.cells,g3, g5]; exact rfl)) ?_
     | refine r_add (by simp (disch:=first|decide|(simp only[zF,zG,g3, g5];decide)) only [zA,zB,zC,zD,zE,zF,zG,zH,zI,zJ,zK,HV.cells,fl0,fl2,flS,flS1,flI1,flU1,flU2,flF,g3, g5]; try exact rfl) (by simp (disch:=first|decide|(simp only[zF,zG,g3, g5];decide)) only [zA,zB,zC,zD,zE,zF,zG,zH,zI,zJ,zK,HV.cells,fl0,fl2,flS,flS1,flI1,flU1,flU2,flF,g3, g5]; try exact rfl) (by omega) (by omega) ?_
     | refine r_sub (by simp (disch:=first|decide|(simp only[zF,zG,g3, g5];decide)) only [zA,zB,zC,zD,zE,zF,zG,zH,zI,zJ,zK,HV.cells,fl0,fl2,flS,flS1,flI1,flU1,flU2,flF,g3, g5]; try exact rfl) (by simp (disch:=first|decide|(simp only[zF,zG,g3, g5];decide)) only [zA,zB,zC,zD,zE,zF,zG,zH,zI,zJ,zK,HV.cells,fl0,fl2,flS,flS1,flI1,flU1,flU2,flF,g3, g5]; try exact rfl) (by omega) (by omega) ?_
     | refine r_lss (by simp (disch:=first|decide|(simp only[zF,zG,g3, g5];decide)) only [zA,zB,zC,zD,zE,zF,zG,zH,zI,zJ,zK,HV.cells,fl0,fl2,flS,flS1,flI1,flU1,flU2,flF,g3, g5]; try exact rfl) (by simp (disch:=first|decide|(simp only[zF,zG,g3, g5];decide)) only [zA,zB,zC,zD,zE,zF,zG,zH,zI,zJ,zK,HV.cells,fl0,fl2,flS,flS1,flI1,flU1,flU2,flF,g3, g5]; try exact rfl) (fun hc => ?_) (fun hc => ?_) <;> (try (exfalso; omega))
     | refine r_leq (by simp (disch:=first|decide|(simp only[zF,zG,g3, g5];decide)) only [zA,zB,zC,zD,zE,zF,zG,zH,zI,zJ,zK,HV.cells,fl0,fl2,flS,flS1,flI1,flU1,flU2,flF,g3, g5]; try exact rfl) (by simp (disch:=first|decide|(simp only[zF,zG,g3, g5];decide)) only [zA,zB,zC,zD,zE,zF,zG,zH,zI,zJ,zK,HV.cells,fl0,fl2,flS,flS1,flI1,flU1,flU2,flF,g3, g5]; try exact rfl) (fun hc => ?_) (fun hc => ?_) <;> (try (exfalso; omega))
     | refine r_gtr (by simp (disch:=first|decide|(simp only[zF,zG,g3, g5];decide)) only [zA,zB,zC,zD,zE,zF,zG,zH,zI,zJ,zK,HV.cells,fl0,fl2,flS,flS1,flI1,flU1,flU2,flF,g3, g5]; try exact rfl) (by simp (disch:=first|decide|(simp only[zF,zG,g3, g5];decide)) only [zA,zB,zC,zD,zE,zF,zG,zH,zI,zJ,zK,HV.cells,fl0,fl2,flS,flS1,flI1,flU1,flU2,flF,g3, g5]; try exact rfl) (fun hc => ?_) (fun hc => ?_) <;> (try (exfalso; omega))
     | refine r_geq (by simp (disch:=first|decide|(simp only[zF,zG,g3, g5];decide)) only [zA,zB,zC,zD,zE,zF,zG,zH,zI,zJ,zK,HV.cells,fl0,fl2,flS,flS1,flI1,flU1,flU2,flF,g3, g5]; try exact rfl) (by simp (disch:=first|decide|(simp only[zF,zG,g3, g5];decide)) only [zA,zB,zC,zD,zE,zF,zG,zH,zI,zJ,zK,HV.cells,fl0,fl2,flS,flS1,flI1,flU1,flU2,flF,g3, g5]; try exact rfl) (fun hc => ?_) (fun hc => ?_) <;> (try (exfalso; omega))
     | refine r_not1 (by simp (disch:=first|decide|(simp only[zF,zG,g3, g5];decide)) only [zA,zB,zC,zD,zE,zF,zG,zH,zI,zJ,zK,HV.cells,fl0,fl2,flS,flS1,flI1,flU1,flU2,flF,g3, g5]; try exact rfl) ?_
     | refine r_pt (by simp (disch:=first|decide|(simp only[zF,zG,g3, g5];decide)) only [zA,zB,zC,zD,zE,zF,zG,zH,zI,zJ,zK,HV.cells,fl0,fl2,flS,flS1,flI1,flU1,flU2,flF,g3, g5]; first|done|exact rfl) (by simp (disch:=first|decide|(simp only[zF,zG,g3, g5];decide)) only [zA,zB,zC,zD,zE,zF,zG,zH,zI,zJ,zK,HV.cells,fl0,fl2,flS,flS1,flI1,flU1,flU2,flF,g3, g5]; try exact rfl) ?_
     | refine r_pf (by simp (disch:=first|decide|(simp only[zF,zG,g3, g5];decide)) only [zA,zB,zC,zD,zE,zF,zG,zH,zI,zJ,zK,HV.cells,fl0,fl2,flS,flS1,flI1,flU1,flU2,flF,g3, g5]; first|done|exact rfl) (by simp (disch:=first|decide|(simp only[zF,zG,g3, g5];decide)) only [zA,zB,zC,zD,zE,zF,zG,zH,zI,zJ,zK,HV.cells,fl0,fl2,flS,flS1,flI1,flU1,flU2,flF,g3, g5]; try exact rfl) ?_
     | refine r_len (by simp (disch:=first|decide|(simp only[zF,zG,g3, g5];decide)) only [zA,zB,zC,zD,zE,zF,zG,zH,zI,zJ,zK,HV.cells,fl0,fl2,flS,flS1,flI1,flU1,flU2,flF,g3, g5]; try exact rfl) ?_
     | refine r_ixs (by simp (disch:=first|decide|(simp only[zF,zG,g3, g5];decide)) only [zA,zB,zC,zD,zE,zF,zG,zH,zI,zJ,zK,HV.cells,fl0,fl2,flS,flS1,flI1,flU1,flU2,flF,g3, g5]; try exact rfl) (by simp (disch:=first|decide|(simp only[zF,zG,g3, g5];decide)) only [zA,zB,zC,zD,zE,zF,zG,zH,zI,zJ,zK,HV.cells,fl0,fl2,flS,flS1,flI1,flU1,flU2,flF,g3, g5]; try exact rfl) (by omega) ?_
     | refine w_draw (by omega) (by (repeat' first|assumption|refine D.upd ?_ (by omega)|exact D.mono (by assumption) (by omega)) <;> fail) ?_
     | refine d_nil ?_
     | refine d_rest rfl ?_
     | refine d_al2 rfl rfl rfl ?_
     | refine d_bs rfl ?_
     | refine d_box rfl ?_
     | refine d_alloc rfl ?_
     | refine d_one rfl ?_
     | refine d_next (by omega) ?_
     | refine d_laid ?_
     | fail
    all_goals
      refine fin_r (by simp only [zL, zM, g4]) (by simp (disch:=first|decide|(simp only[zF,zG,g3];decide)) only [zA,zB,zC,zD,zE,zF,zG,zH,zI,zJ,zK,HV.cells,fl0,fl2,flS,flS1,flI1,flU1,flU2,flF,g3]; try exact rfl) (sc_flat rfl (by dsimp only; omega) ?_)
      first
        | rw [decide_eq_true ((good_tb g2).2 (by omega))]
        | rw [decide_eq_false (fun e => by have := (good_tb g2).1 e; omega)]
  · have hle := g1.le
    repeat' first
     | refine r_nil ?_
     | refine th_n ?_
     | refine th_r ?_
     | refine th_e ?_
     | refine ib_n ?_
     | refine ib_r ?_
     | refine ib_e ?_
     | refine ib_x (by decide) ?_
     | refine w_exit ?_
     | refine w_seq ?_
     | refine w_reg ?_
     | refine w_ret ?_
     | refine w_skip ?_
     | refine w_block ?_
     | refine w_t (by simp (disch:=first|decide|(simp only[zF,zG,g3];decide)) only [zA,zB,zC,zD,zE,zF,zG,zH,zI,zJ,zK,HV.cells,fl0,fl2,flS,flS1,flI1,flU1,flU2,flF,g3]; first|done|exact rfl) ?_
     | refine w_f (by simp (disch:=first|decide|(simp only[zF,zG,g3];decide)) only [zA,zB,zC,zD,zE,zF,zG,zH,zI,zJ,zK,HV.cells,fl0,fl2,flS,flS1,flI1,flU1,flU2,flF,g3]; first|done|exact rfl) ?_
     | refine r_take (by simp (disch:=first|decide|(simp only[zF,zG,g3];decide)) only [zA,zB,zC,zD,zE,zF,zG,zH,zI,zJ,zK,HV.cells,fl0,fl2,flS,flS1,flI1,flU1,flU2,flF,g3]; first|done|exact rfl) ?_
     | refine r_drop (by simp (disch:=first|decide|(simp only[zF,zG,Bool.not_true,Bool.not_false,g3];decide)) only [zA,zB,zC,zD,zE,zF,zG,zH,zI,zJ,zK,HV.cells,fl0,fl2,flS,flS1,flI1,flU1,flU2,flF,Bool.not_true,Bool.not_false,g3]; first|done|exact rfl) ?_
     | refine r_dropu (by simp (disch:=first|decide|(simp only[zF,zG,g3];decide)) only [zA,zB,zC,zD,zE,zF,zG,zH,zI,zJ,zK,HV.cells,fl0,fl2,flS,flS1,flI1,flU1,flU2,flF,g3]; first|done|exact rfl) ?_
     | refine r_move (by simp (disch:=first|decide|(simp only[zF,zG,g3];decide)) only [zA,zB,zC,zD,zE,zF,zG,zH,zI,zJ,zK,HV.cells,fl0,fl2,flS,flS1,flI1,flU1,flU2,flF,g3]; try exact rfl) ?_
     | refine r_fa (by simp (disch:=first|decide|(simp only[zF,zG,g3];decide)) only [zA,zB,zC,zD,zE,zF,zG,zH,zI,zJ,zK,HV.cells,fl0,fl2,flS,flS1,flI1,flU1,flU2,flF,g3]; try exact rfl) ?_
     | refine r_ld1 (by simp (disch:=first|decide|(simp only[zF,zG,g3];decide)) only [zA,zB,zC,zD,zE,zF,zG,zH,zI,zJ,zK,HV.cells,fl0,fl2,flS,flS1,flI1,flU1,flU2,flF,g3]; try exact rfl) (by first|assumption|(simp (disch:=omega) only [get_same,get_other,g3]; first|done|exact rfl)) (by first|assumption|exact ow2 _ _ _ _|exact ow3 _ _ _ _ _ _|rfl|(simp only [zI,zJ,HV.cells,g3]; exact rfl)) ?_
     | refine r_add (by simp (disch:=first|decide|(simp only[zF,zG,g3];decide)) only [zA,zB,zC,zD,zE,zF,zG,zH,zI,zJ,zK,HV.cells,fl0,fl2,flS,flS1,flI1,flU1,flU2,flF,g3]; try exact rfl) (by simp (disch:=first|decide|(simp only[zF,zG,g3];decide)) only [zA,zB,zC,zD,zE,zF,zG,zH,zI,zJ,zK,HV.cells,fl0,fl2,flS,flS1,flI1,flU1,flU2,flF,g3]; try exact rfl) (by omega) (by omega) ?_
     | refine r_sub (by simp (disch:=first|decide|(simp only[zF,zG,g3];decide)) only [zA,zB,zC,zD,zE,zF,zG,zH,zI,zJ,zK,HV.cells,fl0,fl2,flS,flS1,flI1,flU1,flU2,flF,g3]; try exact rfl) (by simp (disch:=first|decide|(simp only[zF,zG,g3];decide)) only [zA,zB,zC,zD,zE,zF,zG,zH,zI,zJ,zK,HV.cells,fl0,fl2,flS,flS1,flI1,flU1,flU2,flF,g3]; try exact rfl) (by omega) (by omega) ?_
     | refine r_lss (by simp (disch:=first|decide|(simp only[zF,zG,g3];decide)) only [zA,zB,zC,zD,zE,zF,zG,zH,zI,zJ,zK,HV.cells,fl0,fl2,flS,flS1,flI1,flU1,flU2,flF,g3]; try exact rfl) (by simp (disch:=first|decide|(simp only[zF,zG,g3];decide)) only [zA,zB,zC,zD,zE,zF,zG,zH,zI,zJ,zK,HV.cells,fl0,fl2,flS,flS1,flI1,flU1,flU2,flF,g3]; try exact rfl) (fun hc => ?_) (fun hc => ?_) <;> (try (exfalso; omega))
     | refine r_leq (by simp (disch:=first|decide|(simp only[zF,zG,g3];decide)) only [zA,zB,zC,zD,zE,zF,zG,zH,zI,zJ,zK,HV.cells,fl0,fl2,flS,flS1,flI1,flU1,flU2,flF,g3]; try exact rfl) (by simp (disch:=first|decide|(simp only[zF,zG,g3];decide)) only [zA,zB,zC,zD,zE,zF,zG,zH,zI,zJ,zK,HV.cells,fl0,fl2,flS,flS1,flI1,flU1,flU2,flF,g3]; try exact rfl) (fun hc => ?_) (fun hc => ?_) <;> (try (exfalso; omega))
     | refine r_gtr (by simp (disch:=first|decide|(simp only[zF,zG,g3];decide)) only [zA,zB,zC,zD,zE,zF,zG,zH,zI,zJ,zK,HV.cells,fl0,fl2,flS,flS1,flI1,flU1,flU2,flF,g3]; try exact rfl) (by simp (disch:=first|decide|(simp only[zF,zG,g3];decide)) only [zA,zB,zC,zD,zE,zF,zG,zH,zI,zJ,zK,HV.cells,fl0,fl2,flS,flS1,flI1,flU1,flU2,flF,g3]; try exact rfl) (fun hc => ?_) (fun hc => ?_) <;> (try (exfalso; omega))
     | refine r_geq (by simp (disch:=first|decide|(simp only[zF,zG,g3];decide)) only [zA,zB,zC,zD,zE,zF,zG,zH,zI,zJ,zK,HV.cells,fl0,fl2,flS,flS1,flI1,flU1,flU2,flF,g3]; try exact rfl) (by simp (disch:=first|decide|(simp only[zF,zG,g3];decide)) only [zA,zB,zC,zD,zE,zF,zG,zH,zI,zJ,zK,HV.cells,fl0,fl2,flS,flS1,flI1,flU1,flU2,flF,g3]; try exact rfl) (fun hc => ?_) (fun hc => ?_) <;> (try (exfalso; omega))
     | refine r_not1 (by simp (disch:=first|decide|(simp only[zF,zG,g3];decide)) only [zA,zB,zC,zD,zE,zF,zG,zH,zI,zJ,zK,HV.cells,fl0,fl2,flS,flS1,flI1,flU1,flU2,flF,g3]; try exact rfl) ?_
     | refine r_pt (by simp (disch:=first|decide|(simp only[zF,zG,g3];decide)) only [zA,zB,zC,zD,zE,zF,zG,zH,zI,zJ,zK,HV.cells,fl0,fl2,flS,flS1,flI1,flU1,flU2,flF,g3]; first|done|exact rfl) (by simp (disch:=first|decide|(simp only[zF,zG,g3];decide)) only [zA,zB,zC,zD,zE,zF,zG,zH,zI,zJ,zK,HV.cells,fl0,fl2,flS,flS1,flI1,flU1,flU2,flF,g3]; try exact rfl) ?_
     | refine r_pf (by simp (disch:=first|decide|(simp only[zF,zG,g3];decide)) only [zA,zB,zC,zD,zE,zF,zG,zH,zI,zJ,zK,HV.cells,fl0,fl2,flS,flS1,flI1,flU1,flU2,flF,g3]; first|done|exact rfl) (by simp (disch:=first|decide|(simp only[zF,zG,g3];decide)) only [zA,zB,zC,zD,zE,zF,zG,zH,zI,zJ,zK,HV.cells,fl0,fl2,flS,flS1,flI1,flU1,flU2,flF,g3]; try exact rfl) ?_
     | refine r_len (by simp (disch:=first|decide|(simp only[zF,zG,g3];decide)) only [zA,zB,zC,zD,zE,zF,zG,zH,zI,zJ,zK,HV.cells,fl0,fl2,flS,flS1,flI1,flU1,flU2,flF,g3]; try exact rfl) ?_
     | refine r_ixs (by simp (disch:=first|decide|(simp only[zF,zG,g3];decide)) only [zA,zB,zC,zD,zE,zF,zG,zH,zI,zJ,zK,HV.cells,fl0,fl2,flS,flS1,flI1,flU1,flU2,flF,g3]; try exact rfl) (by simp (disch:=first|decide|(simp only[zF,zG,g3];decide)) only [zA,zB,zC,zD,zE,zF,zG,zH,zI,zJ,zK,HV.cells,fl0,fl2,flS,flS1,flI1,flU1,flU2,flF,g3]; try exact rfl) (by omega) ?_
     | refine w_draw (by omega) (by (repeat' first|assumption|refine D.upd ?_ (by omega)|exact D.mono (by assumption) (by omega)) <;> fail) ?_
     | refine d_nil ?_
     | refine d_rest rfl ?_
     | refine d_al2 rfl rfl rfl ?_
     | refine d_bs rfl ?_
     | refine d_box rfl ?_
     | refine d_alloc rfl ?_
     | refine d_one rfl ?_
     | refine d_next (by omega) ?_
     | refine d_laid ?_
     | fail
    refine fin_r (by simp only [zL, zM, g4]) (by simp (disch:=first|decide|(simp only[zF,zG,g3, g5];decide)) only [zA,zB,zC,zD,zE,zF,zG,zH,zI,zJ,zK,HV.cells,fl0,fl2,flS,flS1,flI1,flU1,flU2,flF,g3, g5]; try exact rfl) (sc_flat rfl (by dsimp only; omega) ?_)
    rw [decide_eq_false g2]
def Tbd (l : List (Int × Int)) (q : Int × Int) : Prop := l.length ≤ 8 ∧ TbOk l ∧ PrOk l q
instance (l : List (Int × Int)) (q : Int × Int) : Decidable (Tbd l q) := by unfold Tbd; infer_instance
/- 50 -/
theorem c_tabled {fl : Nat} {h : Tr HBlk} {nx : Nat} (hd : D h nx) {p : Option (Nat × Nat)} {l : List (Int × Int)} {n cp : Nat} {q : Int × Int} (hn : n = l.length) (hrow : Row renc 2 h nx p l) :
    C LW fl 50 [.slice p n cp, .agg (renc q)] ⟨h, nx⟩ (Sc (· = .bool (decide (Tbd l q))) ⟨h, nx⟩) := by
  subst hn
  refine c_in lw50 rfl rfl rfl ?_
  dsimp only [L50]
  by_cases h8 : l.length ≤ 8
  · have cI : ∀ fl h' n', Ext h nx h' n' → C LW fl 33 [.slice p l.length cp] ⟨h', n'⟩ (Sc (· = .bool (decide (TbOk l))) ⟨h', n'⟩) := fun fl h' n' e => c_IsTable e.d rfl (by omega) (hrow.ext e)
    by_cases ht : TbOk l
    · rw [decide_eq_true ht] at cI
      have h2 := ht.1
      have hrow1 := hrow
      obtain ⟨b, o, cs, kk, rfl, hb, hg, hcs⟩ := hrow (by intro e; rw [e] at h2; simp at h2)
      have e0 := take_at (hcs 0 _ (List.getElem?_eq_getElem (show 0 < l.length by omega))) (j := 0) (v := i64 l[0].1) rfl
      have e1 := take_at (hcs (l.length - 1) _ (List.getElem?_eq_getElem (show l.length - 1 < l.length by omega))) (j := 0) (v := i64 l[l.length - 1].1) rfl
      have ej : ((l.length : Nat) : Int) - 1 = ((l.length - 1 : Nat) : Int) := by omega
      have hL : pP l 0 = l[0].1 := pP_at (by omega)
      have hR : pP l (l.length - 1) = l[l.length - 1].1 := pP_at (by omega)
      have cS : ∀ fl h' n', C LW fl 34 [.agg (renc q), i64 l[0].1, i64 l[l.length - 1].1] ⟨h', n'⟩ (Sc (· = .bool (decide (PrOk l q))) ⟨h', n'⟩) := fun fl h' n' => by
        have := c_Span (fl := fl) (h := h') (nx := n') (a := q.1) (b := q.2) (lo := l[0].1) (hi := l[l.length - 1].1)
        rwa [show decide (l[0].1 ≤ q.1 ∧ q.1 ≤ q.2 ∧ q.2 ≤ l[l.length - 1].1) = decide (PrOk l q) by unfold PrOk; simp only [hL, hR]] at this
      repeat' first
       | refine r_nil ?_
       | refine th_n ?_
       | refine th_r ?_
       | refine w_seq ?_
       | refine w_reg ?_
       | refine w_ret ?_
       | refine w_skip ?_
       | refine r_take (by simp (disch:=first|decide|(simp only[zF,zG,hg, ej];decide)) only [zA,zB,zC,zD,zE,zF,zG,zH,zI,zJ,zK,HV.cells,fl0,fl2,flS,flS1,flI1,flU1,flU2,flF,hg, ej]; first|done|exact rfl) ?_
       | refine r_drop (by simp (disch:=first|decide|(simp only[zF,zG,Bool.not_true,Bool.not_false,hg, ej];decide)) only [zA,zB,zC,zD,zE,zF,zG,zH,zI,zJ,zK,HV.cells,fl0,fl2,flS,flS1,flI1,flU1,flU2,flF,Bool.not_true,Bool.not_false,hg, ej]; first|done|exact rfl) ?_
       | refine r_dropu (by simp (disch:=first|decide|(simp only[zF,zG,hg, ej];decide)) only [zA,zB,zC,zD,zE,zF,zG,zH,zI,zJ,zK,HV.cells,fl0,fl2,flS,flS1,flI1,flU1,flU2,flF,hg, ej]; first|done|exact rfl) ?_
       | refine r_move (by simp (disch:=first|decide|(simp only[zF,zG,hg, ej];decide)) only [zA,zB,zC,zD,zE,zF,zG,zH,zI,zJ,zK,HV.cells,fl0,fl2,flS,flS1,flI1,flU1,flU2,flF,hg, ej]; try exact rfl) ?_
       | refine r_fa (by simp (disch:=first|decide|(simp only[zF,zG,hg, ej];decide)) only [zA,zB,zC,zD,zE,zF,zG,zH,zI,zJ,zK,HV.cells,fl0,fl2,flS,flS1,flI1,flU1,flU2,flF,hg, ej]; try exact rfl) ?_
       | refine r_ld1 (by simp (disch:=first|decide|(simp only[zF,zG,hg, ej];decide)) only [zA,zB,zC,zD,zE,zF,zG,zH,zI,zJ,zK,HV.cells,fl0,fl2,flS,flS1,flI1,flU1,flU2,flF,hg, ej]; try exact rfl) (by first|assumption|(simp (disch:=omega) only [get_same,get_other,hg, ej]; first|done|exact rfl)) (by first|assumption|exact ow2 _ _ _ _|exact ow3 _ _ _ _ _ _|rfl|(simp only [zI,zJ,HV.cells,hg, ej]; exact rfl)) ?_
       | refine r_ldn (by simp (disch:=first|decide|(simp only[zF,zG,hg, ej];decide)) only [zA,zB,zC,zD,zE,zF,zG,zH,zI,zJ,zK,HV.cells,fl0,fl2,flS,flS1,flI1,flU1,flU2,flF,hg, ej]; try exact rfl) (by first|assumption|(simp (disch:=omega) only [get_same,get_other,hg, ej]; first|done|exact rfl)) (by first|assumption|exact ow2 _ _ _ _|exact ow3 _ _ _ _ _ _|rfl|(simp only [zI,zJ,HV.cells,hg, ej]; exact rfl)) ?_
       | refine r_box (by simp (disch:=first|decide|(simp only[zF,zG,hg, ej];decide)) only [zA,zB,zC,zD,zE,zF,zG,zH,zI,zJ,zK,HV.cells,fl0,fl2,flS,flS1,flI1,flU1,flU2,flF,hg, ej]; try exact rfl) ?_
       | refine r_sub (by simp (disch:=first|decide|(simp only[zF,zG,hg, ej];decide)) only [zA,zB,zC,zD,zE,zF,zG,zH,zI,zJ,zK,HV.cells,fl0,fl2,flS,flS1,flI1,flU1,flU2,flF,hg, ej]; try exact rfl) (by simp (disch:=first|decide|(simp only[zF,zG,hg, ej];decide)) only [zA,zB,zC,zD,zE,zF,zG,zH,zI,zJ,zK,HV.cells,fl0,fl2,flS,flS1,flI1,flU1,flU2,flF,hg, ej]; try exact rfl) (by omega) (by omega) ?_
       | refine r_leq (by simp (disch:=first|decide|(simp only[zF,zG,hg, ej];decide)) only [zA,zB,zC,zD,zE,zF,zG,zH,zI,zJ,zK,HV.cells,fl0,fl2,flS,flS1,flI1,flU1,flU2,flF,hg, ej]; try exact rfl) (by simp (disch:=first|decide|(simp only[zF,zG,hg, ej];decide)) only [zA,zB,zC,zD,zE,zF,zG,zH,zI,zJ,zK,HV.cells,fl0,fl2,flS,flS1,flI1,flU1,flU2,flF,hg, ej]; try exact rfl) (fun hc => ?_) (fun hc => ?_) <;> (try (exfalso; omega))
       | refine r_pt (by simp (disch:=first|decide|(simp only[zF,zG,hg, ej];decide)) only [zA,zB,zC,zD,zE,zF,zG,zH,zI,zJ,zK,HV.cells,fl0,fl2,flS,flS1,flI1,flU1,flU2,flF,hg, ej]; first|done|exact rfl) (by simp (disch:=first|decide|(simp only[zF,zG,hg, ej];decide)) only [zA,zB,zC,zD,zE,zF,zG,zH,zI,zJ,zK,HV.cells,fl0,fl2,flS,flS1,flI1,flU1,flU2,flF,hg, ej]; try exact rfl) ?_
       | refine r_pf (by simp (disch:=first|decide|(simp only[zF,zG,hg, ej];decide)) only [zA,zB,zC,zD,zE,zF,zG,zH,zI,zJ,zK,HV.cells,fl0,fl2,flS,flS1,flI1,flU1,flU2,flF,hg, ej]; first|done|exact rfl) (by simp (disch:=first|decide|(simp only[zF,zG,hg, ej];decide)) only [zA,zB,zC,zD,zE,zF,zG,zH,zI,zJ,zK,HV.cells,fl0,fl2,flS,flS1,flI1,flU1,flU2,flF,hg, ej]; try exact rfl) ?_
       | refine r_len (by simp (disch:=first|decide|(simp only[zF,zG,hg, ej];decide)) only [zA,zB,zC,zD,zE,zF,zG,zH,zI,zJ,zK,HV.cells,fl0,fl2,flS,flS1,flI1,flU1,flU2,flF,hg, ej]; try exact rfl) ?_
       | refine r_ixs (by simp (disch:=first|decide|(simp only[zF,zG,hg, ej];decide)) only [zA,zB,zC,zD,zE,zF,zG,zH,zI,zJ,zK,HV.cells,fl0,fl2,flS,flS1,flI1,flU1,flU2,flF,hg, ej]; try exact rfl) (by simp (disch:=first|decide|(simp only[zF,zG,hg, ej];decide)) only [zA,zB,zC,zD,zE,zF,zG,zH,zI,zJ,zK,HV.cells,fl0,fl2,flS,flS1,flI1,flU1,flU2,flF,hg, ej]; try exact rfl) (by omega) ?_
       | refine r_calls (by simp (disch:=first|decide|(simp only[zF,zG,hg, ej];decide)) only [zA,zB,zC,zD,zE,zF,zG,zH,zI,zJ,zK,HV.cells,fl0,fl2,flS,flS1,flI1,flU1,flU2,flF,hg, ej]; try exact rfl) (by simp (disch:=first|decide|(simp only[zF,zG,hg, ej];decide)) only [List.map_cons,List.map_nil,List.nil_append,List.cons_append,List.append_nil,zA,zB,zC,zD,zE,zF,zG,zH,zI,zJ,zK,HV.cells,fl0,fl2,flS,flS1,flI1,flU1,flU2,flF,hg, ej]; first|done|exact rfl) (cI _ _ _ (by repeat' first|assumption|refine Ext.put ?_ (by omega) (by omega)|exact Ext.up (by assumption) (by omega)|exact Ext.nx (by assumption) (by omega))) (fun n' hn' => ?_)
       | refine r_ixs0 (by simp (disch:=first|decide|(simp only[zF,zG,hg, ej];decide)) only [zA,zB,zC,zD,zE,zF,zG,zH,zI,zJ,zK,HV.cells,fl0,fl2,flS,flS1,flI1,flU1,flU2,flF,hg, ej]; try exact rfl) (by omega) ?_
       | refine r_calls (by simp (disch:=first|decide|(simp only[zF,zG,hg, ej];decide)) only [zA,zB,zC,zD,zE,zF,zG,zH,zI,zJ,zK,HV.cells,fl0,fl2,flS,flS1,flI1,flU1,flU2,flF,hg, ej]; try exact rfl) (by simp (disch:=first|decide|(simp only[zF,zG,hg, ej];decide)) only [List.map_cons,List.map_nil,List.nil_append,List.cons_append,List.append_nil,zA,zB,zC,zD,zE,zF,zG,zH,zI,zJ,zK,HV.cells,fl0,fl2,flS,flS1,flI1,flU1,flU2,flF,hg, ej]; first|done|exact rfl) (cS _ _ _) (fun n' hn' => ?_)
       | refine w_draw (by omega) (by (repeat' first|assumption|refine D.upd ?_ (by omega)|exact D.mono (by assumption) (by omega)) <;> fail) ?_
       | refine d_nil ?_
       | refine d_rest rfl ?_
       | refine d_al2 rfl rfl rfl ?_
       | refine d_bs rfl ?_
       | refine d_box rfl ?_
       | refine d_alloc rfl ?_
       | refine d_one rfl ?_
       | refine d_next (by omega) ?_
       | refine d_laid ?_
       | fail
      refine fin_r (by simp only [zL,zM]) (by simp (disch:=first|decide|(simp only[zF,zG];decide)) only [zA,zB,zC,zD,zE,zF,zG,zH,zI,zJ,zK,HV.cells,fl0,fl2,flS,flS1,flI1,flU1,flU2,flF]; try exact rfl) (sc_flat rfl (by dsimp only; omega) ?_)
      congr 1
      refine decide_eq_decide.2 ?_
      exact ⟨fun h => ⟨h8, ht, h⟩, fun h => h.2.2⟩
    · rw [decide_eq_false ht] at cI
      repeat' first
       | refine r_nil ?_
       | refine th_n ?_
       | refine th_r ?_
       | refine w_seq ?_
       | refine w_reg ?_
       | refine w_ret ?_
       | refine w_skip ?_
       | refine r_take (by simp (disch:=first|decide|(simp only[zF,zG];decide)) only [zA,zB,zC,zD,zE,zF,zG,zH,zI,zJ,zK,HV.cells,fl0,fl2,flS,flS1,flI1,flU1,flU2,flF]; first|done|exact rfl) ?_
       | refine r_drop (by simp (disch:=first|decide|(simp only[zF,zG,Bool.not_true,Bool.not_false];decide)) only [zA,zB,zC,zD,zE,zF,zG,zH,zI,zJ,zK,HV.cells,fl0,fl2,flS,flS1,flI1,flU1,flU2,flF,Bool.not_true,Bool.not_false]; first|done|exact rfl) ?_
       | refine r_dropu (by simp (disch:=first|decide|(simp only[zF,zG];decide)) only [zA,zB,zC,zD,zE,zF,zG,zH,zI,zJ,zK,HV.cells,fl0,fl2,flS,flS1,flI1,flU1,flU2,flF]; first|done|exact rfl) ?_
       | refine r_move (by simp (disch:=first|decide|(simp only[zF,zG];decide)) only [zA,zB,zC,zD,zE,zF,zG,zH,zI,zJ,zK,HV.cells,fl0,fl2,flS,flS1,flI1,flU1,flU2,flF]; try exact rfl) ?_
       | refine r_fa (by simp (disch:=first|decide|(simp only[zF,zG];decide)) only [zA,zB,zC,zD,zE,zF,zG,zH,zI,zJ,zK,HV.cells,fl0,fl2,flS,flS1,flI1,flU1,flU2,flF]; try exact rfl) ?_
       | refine r_ld1 (by simp (disch:=first|decide|(simp only[zF,zG];decide)) only [zA,zB,zC,zD,zE,zF,zG,zH,zI,zJ,zK,HV.cells,fl0,fl2,flS,flS1,flI1,flU1,flU2,flF]; try exact rfl) (by first|assumption|(simp (disch:=omega) only [get_same,get_other]; first|done|exact rfl)) (by first|assumption|exact ow2 _ _ _ _|exact ow3 _ _ _ _ _ _|rfl|(simp only [zI,zJ,HV.cells]; exact rfl)) ?_
       | refine r_ldn (by simp (disch:=first|decide|(simp only[zF,zG];decide)) only [zA,zB,zC,zD,zE,zF,zG,zH,zI,zJ,zK,HV.cells,fl0,fl2,flS,flS1,flI1,flU1,flU2,flF]; try exact rfl) (by first|assumption|(simp (disch:=omega) only [get_same,get_other]; first|done|exact rfl)) (by first|assumption|exact ow2 _ _ _ _|exact ow3 _ _ _ _ _ _|rfl|(simp only [zI,zJ,HV.cells]; exact rfl)) ?_
       | refine r_box (by simp (disch:=first|decide|(simp only[zF,zG];decide)) only [zA,zB,zC,zD,zE,zF,zG,zH,zI,zJ,zK,HV.cells,fl0,fl2,flS,flS1,flI1,flU1,flU2,flF]; try exact rfl) ?_
       | refine r_sub (by simp (disch:=first|decide|(simp only[zF,zG];decide)) only [zA,zB,zC,zD,zE,zF,zG,zH,zI,zJ,zK,HV.cells,fl0,fl2,flS,flS1,flI1,flU1,flU2,flF]; try exact rfl) (by simp (disch:=first|decide|(simp only[zF,zG];decide)) only [zA,zB,zC,zD,zE,zF,zG,zH,zI,zJ,zK,HV.cells,fl0,fl2,flS,flS1,flI1,flU1,flU2,flF]; try exact rfl) (by omega) (by omega) ?_
       | refine r_leq (by simp (disch:=first|decide|(simp only[zF,zG];decide)) only [zA,zB,zC,zD,zE,zF,zG,zH,zI,zJ,zK,HV.cells,fl0,fl2,flS,flS1,flI1,flU1,flU2,flF]; try exact rfl) (by simp (disch:=first|decide|(simp only[zF,zG];decide)) only [zA,zB,zC,zD,zE,zF,zG,zH,zI,zJ,zK,HV.cells,fl0,fl2,flS,flS1,flI1,flU1,flU2,flF]; try exact rfl) (fun hc => ?_) (fun hc => ?_) <;> (try (exfalso; omega))
       | refine r_pt (by simp (disch:=first|decide|(simp only[zF,zG];decide)) only [zA,zB,zC,zD,zE,zF,zG,zH,zI,zJ,zK,HV.cells,fl0,fl2,flS,flS1,flI1,flU1,flU2,flF]; first|done|exact rfl) (by simp (disch:=first|decide|(simp only[zF,zG];decide)) only [zA,zB,zC,zD,zE,zF,zG,zH,zI,zJ,zK,HV.cells,fl0,fl2,flS,flS1,flI1,flU1,flU2,flF]; try exact rfl) ?_
       | refine r_pf (by simp (disch:=first|decide|(simp only[zF,zG];decide)) only [zA,zB,zC,zD,zE,zF,zG,zH,zI,zJ,zK,HV.cells,fl0,fl2,flS,flS1,flI1,flU1,flU2,flF]; first|done|exact rfl) (by simp (disch:=first|decide|(simp only[zF,zG];decide)) only [zA,zB,zC,zD,zE,zF,zG,zH,zI,zJ,zK,HV.cells,fl0,fl2,flS,flS1,flI1,flU1,flU2,flF]; try exact rfl) ?_
       | refine r_len (by simp (disch:=first|decide|(simp only[zF,zG];decide)) only [zA,zB,zC,zD,zE,zF,zG,zH,zI,zJ,zK,HV.cells,fl0,fl2,flS,flS1,flI1,flU1,flU2,flF]; try exact rfl) ?_
       | refine r_ixs (by simp (disch:=first|decide|(simp only[zF,zG];decide)) only [zA,zB,zC,zD,zE,zF,zG,zH,zI,zJ,zK,HV.cells,fl0,fl2,flS,flS1,flI1,flU1,flU2,flF]; try exact rfl) (by simp (disch:=first|decide|(simp only[zF,zG];decide)) only [zA,zB,zC,zD,zE,zF,zG,zH,zI,zJ,zK,HV.cells,fl0,fl2,flS,flS1,flI1,flU1,flU2,flF]; try exact rfl) (by omega) ?_
       | refine r_calls (by simp (disch:=first|decide|(simp only[zF,zG];decide)) only [zA,zB,zC,zD,zE,zF,zG,zH,zI,zJ,zK,HV.cells,fl0,fl2,flS,flS1,flI1,flU1,flU2,flF]; try exact rfl) (by simp (disch:=first|decide|(simp only[zF,zG];decide)) only [List.map_cons,List.map_nil,List.nil_append,List.cons_append,List.append_nil,zA,zB,zC,zD,zE,zF,zG,zH,zI,zJ,zK,HV.cells,fl0,fl2,flS,flS1,flI1,flU1,flU2,flF]; first|done|exact rfl) (cI _ _ _ (by repeat' first|assumption|refine Ext.put ?_ (by omega) (by omega)|exact Ext.up (by assumption) (by omega)|exact Ext.nx (by assumption) (by omega))) (fun n' hn' => ?_)
       | refine w_draw (by omega) (by (repeat' first|assumption|refine D.upd ?_ (by omega)|exact D.mono (by assumption) (by omega)) <;> fail) ?_
       | refine d_nil ?_
       | refine d_rest rfl ?_
       | refine d_al2 rfl rfl rfl ?_
       | refine d_bs rfl ?_
       | refine d_box rfl ?_
       | refine d_alloc rfl ?_
       | refine d_one rfl ?_
       | refine d_next (by omega) ?_
       | refine d_laid ?_
       | fail
      refine fin_r (by simp only [zL,zM]) (by simp (disch:=first|decide|(simp only[zF,zG];decide)) only [zA,zB,zC,zD,zE,zF,zG,zH,zI,zJ,zK,HV.cells,fl0,fl2,flS,flS1,flI1,flU1,flU2,flF]; try exact rfl) (sc_flat rfl (by dsimp only; omega) ?_)
      rw [decide_eq_false (fun e : Tbd l q => ht e.2.1)]
  · repeat' first
     | refine r_nil ?_
     | refine th_n ?_
     | refine th_r ?_
     | refine w_seq ?_
     | refine w_reg ?_
     | refine w_ret ?_
     | refine w_skip ?_
     | refine r_take (by simp (disch:=first|decide|(simp only[zF,zG];decide)) only [zA,zB,zC,zD,zE,zF,zG,zH,zI,zJ,zK,HV.cells,fl0,fl2,flS,flS1,flI1,flU1,flU2,flF]; first|done|exact rfl) ?_
     | refine r_drop (by simp (disch:=first|decide|(simp only[zF,zG,Bool.not_true,Bool.not_false];decide)) only [zA,zB,zC,zD,zE,zF,zG,zH,zI,zJ,zK,HV.cells,fl0,fl2,flS,flS1,flI1,flU1,flU2,flF,Bool.not_true,Bool.not_false]; first|done|exact rfl) ?_
     | refine r_dropu (by simp (disch:=first|decide|(simp only[zF,zG];decide)) only [zA,zB,zC,zD,zE,zF,zG,zH,zI,zJ,zK,HV.cells,fl0,fl2,flS,flS1,flI1,flU1,flU2,flF]; first|done|exact rfl) ?_
     | refine r_move (by simp (disch:=first|decide|(simp only[zF,zG];decide)) only [zA,zB,zC,zD,zE,zF,zG,zH,zI,zJ,zK,HV.cells,fl0,fl2,flS,flS1,flI1,flU1,flU2,flF]; try exact rfl) ?_
     | refine r_fa (by simp (disch:=first|decide|(simp only[zF,zG];decide)) only [zA,zB,zC,zD,zE,zF,zG,zH,zI,zJ,zK,HV.cells,fl0,fl2,flS,flS1,flI1,flU1,flU2,flF]; try exact rfl) ?_
     | refine r_ld1 (by simp (disch:=first|decide|(simp only[zF,zG];decide)) only [zA,zB,zC,zD,zE,zF,zG,zH,zI,zJ,zK,HV.cells,fl0,fl2,flS,flS1,flI1,flU1,flU2,flF]; try exact rfl) (by first|assumption|(simp (disch:=omega) only [get_same,get_other]; first|done|exact rfl)) (by first|assumption|exact ow2 _ _ _ _|exact ow3 _ _ _ _ _ _|rfl|(simp only [zI,zJ,HV.cells]; exact rfl)) ?_
     | refine r_ldn (by simp (disch:=first|decide|(simp only[zF,zG];decide)) only [zA,zB,zC,zD,zE,zF,zG,zH,zI,zJ,zK,HV.cells,fl0,fl2,flS,flS1,flI1,flU1,flU2,flF]; try exact rfl) (by first|assumption|(simp (disch:=omega) only [get_same,get_other]; first|done|exact rfl)) (by first|assumption|exact ow2 _ _ _ _|exact ow3 _ _ _ _ _ _|rfl|(simp only [zI,zJ,HV.cells]; exact rfl)) ?_
     | refine r_box (by simp (disch:=first|decide|(simp only[zF,zG];decide)) only [zA,zB,zC,zD,zE,zF,zG,zH,zI,zJ,zK,HV.cells,fl0,fl2,flS,flS1,flI1,flU1,flU2,flF]; try exact rfl) ?_
     | refine r_sub (by simp (disch:=first|decide|(simp only[zF,zG];decide)) only [zA,zB,zC,zD,zE,zF,zG,zH,zI,zJ,zK,HV.cells,fl0,fl2,flS,flS1,flI1,flU1,flU2,flF]; try exact rfl) (by simp (disch:=first|decide|(simp only[zF,zG];decide)) only [zA,zB,zC,zD,zE,zF,zG,zH,zI,zJ,zK,HV.cells,fl0,fl2,flS,flS1,flI1,flU1,flU2,flF]; try exact rfl) (by omega) (by omega) ?_
     | refine r_leq (by simp (disch:=first|decide|(simp only[zF,zG];decide)) only [zA,zB,zC,zD,zE,zF,zG,zH,zI,zJ,zK,HV.cells,fl0,fl2,flS,flS1,flI1,flU1,flU2,flF]; try exact rfl) (by simp (disch:=first|decide|(simp only[zF,zG];decide)) only [zA,zB,zC,zD,zE,zF,zG,zH,zI,zJ,zK,HV.cells,fl0,fl2,flS,flS1,flI1,flU1,flU2,flF]; try exact rfl) (fun hc => ?_) (fun hc => ?_) <;> (try (exfalso; omega))
     | refine r_pt (by simp (disch:=first|decide|(simp only[zF,zG];decide)) only [zA,zB,zC,zD,zE,zF,zG,zH,zI,zJ,zK,HV.cells,fl0,fl2,flS,flS1,flI1,flU1,flU2,flF]; first|done|exact rfl) (by simp (disch:=first|decide|(simp only[zF,zG];decide)) only [zA,zB,zC,zD,zE,zF,zG,zH,zI,zJ,zK,HV.cells,fl0,fl2,flS,flS1,flI1,flU1,flU2,flF]; try exact rfl) ?_
     | refine r_pf (by simp (disch:=first|decide|(simp only[zF,zG];decide)) only [zA,zB,zC,zD,zE,zF,zG,zH,zI,zJ,zK,HV.cells,fl0,fl2,flS,flS1,flI1,flU1,flU2,flF]; first|done|exact rfl) (by simp (disch:=first|decide|(simp only[zF,zG];decide)) only [zA,zB,zC,zD,zE,zF,zG,zH,zI,zJ,zK,HV.cells,fl0,fl2,flS,flS1,flI1,flU1,flU2,flF]; try exact rfl) ?_
     | refine r_len (by simp (disch:=first|decide|(simp only[zF,zG];decide)) only [zA,zB,zC,zD,zE,zF,zG,zH,zI,zJ,zK,HV.cells,fl0,fl2,flS,flS1,flI1,flU1,flU2,flF]; try exact rfl) ?_
     | refine r_ixs (by simp (disch:=first|decide|(simp only[zF,zG];decide)) only [zA,zB,zC,zD,zE,zF,zG,zH,zI,zJ,zK,HV.cells,fl0,fl2,flS,flS1,flI1,flU1,flU2,flF]; try exact rfl) (by simp (disch:=first|decide|(simp only[zF,zG];decide)) only [zA,zB,zC,zD,zE,zF,zG,zH,zI,zJ,zK,HV.cells,fl0,fl2,flS,flS1,flI1,flU1,flU2,flF]; try exact rfl) (by omega) ?_
     | refine w_draw (by omega) (by (repeat' first|assumption|refine D.upd ?_ (by omega)|exact D.mono (by assumption) (by omega)) <;> fail) ?_
     | refine d_nil ?_
     | refine d_rest rfl ?_
     | refine d_al2 rfl rfl rfl ?_
     | refine d_bs rfl ?_
     | refine d_box rfl ?_
     | refine d_alloc rfl ?_
     | refine d_one rfl ?_
     | refine d_next (by omega) ?_
     | refine d_laid ?_
     | fail
    refine fin_r (by simp only [zL,zM]) (by simp (disch:=first|decide|(simp only[zF,zG];decide)) only [zA,zB,zC,zD,zE,zF,zG,zH,zI,zJ,zK,HV.cells,fl0,fl2,flS,flS1,flI1,flU1,flU2,flF]; try exact rfl) (sc_flat rfl (by dsimp only; omega) ?_)
    rw [decide_eq_false (fun e : Tbd l q => h8 e.1)]
end Go.Hx

