/- Walks of the plain machine, operation by operation. -/
import Derived.Test.YtojkmobfhkjfnaaHyB
set_option linter.all false
namespace Go.Hx
variable {lp : Nat → Option LFunc} {fl : Nat} {rd : Option Nat} {Q : HExit → HAct → HS → Prop} {N : HAct → HS → Prop} {a : HAct} {σ σ' : HS}

theorem put_defers (a : HAct) (d : Option Nat) (v : HV) : (a.put d v).defers = a.defers := by
  unfold HAct.put
  cases d with
  | none => rfl
  | some d => dsimp only; cases Nat.blt d a.nt <;> rfl
theorem put_none (a : HAct) (v : HV) : a.put none v = a := rfl
theorem tmp_put {a : HAct} {d : Nat} (v : HV) (t : Nat) (h : d < a.nt) : (a.put (some d) v).tmp t = if t = d then v else a.tmp t := by
  have hb : Nat.blt d a.nt = true := by rw [Nat.blt_eq]; exact h
  unfold HAct.put HAct.tmp
  simp only [hb, cond_true, Tr.get_set]
  by_cases e : t = d
  · simp [e]
  · simp [e]
theorem tmp_same {a : HAct} {d : Nat} (v : HV) (h : d < a.nt) : (a.put (some d) v).tmp d = v := by rw [tmp_put v d h, if_pos rfl]
theorem tmp_other {a : HAct} {d t : Nat} (v : HV) (h : t ≠ d) : (a.put (some d) v).tmp t = a.tmp t := by
  unfold HAct.put HAct.tmp
  dsimp only
  cases Nat.blt d a.nt with
  | false => rfl
  | true => simp only [cond_true, Tr.get_set, if_neg h]
/-- What a call finds in its temporaries. -/
noncomputable def enter (nt : Nat) (args : List HV) : HAct := ⟨nt, putAll .e 0 args, []⟩
theorem enter_tmp (nt : Nat) (args : List HV) (t : Nat) : (enter nt args).tmp t = args[t]?.getD .undef := by
  unfold enter HAct.tmp
  dsimp only
  rw [putAll_get]
  by_cases h : t < args.length
  · rw [if_pos (by omega)]; simp
  · rw [if_neg (by omega), Tr.get_e]; simp [List.getElem?_eq_none (Nat.le_of_not_lt h)]
theorem enter_nt (nt : Nat) (args : List HV) : (enter nt args).nt = nt := rfl
theorem enter_defers (nt : Nat) (args : List HV) : (enter nt args).defers = [] := rfl
theorem get_same (t : Tr HBlk) (k : Nat) (x : Option HBlk) : (t.set k x).get k = x := by rw [Tr.get_set, if_pos rfl]
theorem get_other (t : Tr HBlk) (x : Option HBlk) {k j : Nat} (h : j ≠ k) : (t.set k x).get j = t.get j := by rw [Tr.get_set, if_neg h]

/-! operations -/
theorem r_go {op : LOp} {dst : Option Nat} {anc : List Nat} {os : List LOper} {v : HV} (h : opH lp (exec lp 0) fl op a σ = some (v, σ')) (hn : R lp fl os N (a.put dst v) σ') : R lp fl (⟨dst, op, none, anc⟩ :: os) N a σ :=
  r_op rfl h hn
theorem r_take {op : LOp} {dst : Option Nat} {t : Nat} {w : Bool} {anc : List Nat} {os : List LOper} (hw : a.tmp t = .bool w) (hn : R lp fl (⟨dst, op, none, anc⟩ :: os) N a σ) : R lp fl (⟨dst, op, some (t, w), anc⟩ :: os) N a σ := by
  obtain ⟨n, a', σ', h1, h2⟩ := hn
  refine ⟨n, a', σ', ?_, h2⟩
  unfold runOps stepOp at h1 ⊢
  have e1 : wantedH (some (t, w)) a = true := by simp [wantedH, hw]
  simp only [e1]
  exact h1
theorem r_drop {op : LOp} {dst : Option Nat} {t : Nat} {w : Bool} {anc : List Nat} {os : List LOper} (hw : a.tmp t = .bool (!w)) (hn : R lp fl os N (a.put dst .undef) σ) : R lp fl (⟨dst, op, some (t, w), anc⟩ :: os) N a σ := by
  refine r_not ?_ hn
  cases w <;> simp [wantedH, hw]
/-- A call whose contract is known. -/
theorem r_callc {f : Lo} {xs : List Lo} {dst : Option Nat} {anc : List Nat} {os : List LOper} {k : Nat} {first captured args : List HV} (hf : a.ev f = .func k first captured) (ha : first ++ xs.map a.ev ++ captured = args)
    {K : HV → HS → Prop} (hc : C lp fl k args σ K) (hn : ∀ v σ', K v σ' → R lp fl os N (a.put dst v) σ') : R lp fl (⟨dst, .call f xs, none, anc⟩ :: os) N a σ := by
  refine r_call rfl hf ?_
  rw [ha]
  exact hc.mono hn
/-- What a call that wrote nothing of its caller's has left. -/
def Sc (K : HV → Prop) (σ : HS) : HV → HS → Prop := fun v σ' => K v ∧ ∃ n, σ.nx ≤ n ∧ σ' = ⟨σ.h, n⟩
/-- Leaving with one plain value. -/
theorem leave_one {a : HAct} {t : Nat} (hd : a.defers = []) : leaveH fl a [.t t] σ = some (a.tmp t, σ) := by
  unfold leaveH
  rw [hd]
  rfl
end Go.Hx
