/- The plain machine and Go's: calls of functions, rounds of ranges over functions, and what a function hands back. -/
import Derived.Test.YtojkmobfhkjfnaaHxP
import Derived.RangeFuncNested
set_option linter.all false
namespace Go.Hx
variable {P : Program}

def FR (R : Option Nat) : Fence := { Fence.wide with round := R }
def exitOf : HExit → Exit
  | .normal => .normal
  | .exit id => .exit id
  | .ret => .ret
def RdOk (ρ : Rho) : Option Nat → Option Nat → Prop
  | none, none => True
  | some l, some L => ∃ r, ρ l = some r ∧ r.blk = L
  | _, _ => False
theorem RdOk.mono {ρ ρ' : Rho} (hle : Rho.le ρ ρ') {rd R : Option Nat} (h : RdOk ρ rd R) : RdOk ρ' rd R := by
  cases rd <;> cases R <;> first | trivial | exact h | (obtain ⟨r, h1, h2⟩ := h; exact ⟨r, hle _ _ h1, h2⟩)
def Dom (σ : HS) : Prop := ∀ b x, σ.h.get b = some x → b < σ.nx
theorem HF.dom {fl : Nat} {σ σ' : HS} (h : HF fl σ.nx σ'.nx σ.h.get σ'.h.get) (hd : Dom σ) : Dom σ' := fun b x hx => by
  by_cases hb : b < σ'.nx
  · exact hb
  · rw [h.high b (by omega)] at hx
    have := hd b x hx
    have := h.le
    omega
/-- What is asked of a world before a run. -/
structure In (P : Program) (base : Nat) (σ σ' : HS) (ρ : Rho) (W : World) : Prop where
  low : base ≤ W.heap.size
  sim : Sim P base σ.h.get ρ W
  fresh : ∀ b, σ.nx ≤ b → b < σ'.nx → ρ b = none
abbrev PostS (P : Program) (base fl : Nat) (σ σ' : HS) (ρ ρ' : Rho) (W W' : World) : Prop := Post P base fl σ.nx σ'.nx σ.h.get σ'.h.get ρ ρ' W W'
abbrev HFS (fl : Nat) (σ σ' : HS) : Prop := HF fl σ.nx σ'.nx σ.h.get σ'.h.get
theorem In.next {base fl : Nat} {σ σ1 σ' : HS} {ρ ρ1 : Rho} {W W1 : World} (h : In P base σ σ' ρ W) (p : PostS P base fl σ σ1 ρ ρ1 W W1) (hf : σ.nx ≤ σ1.nx) : In P base σ1 σ' ρ1 W1 :=
  ⟨Nat.le_trans h.low p.size, p.sim, fun b h1 h2 => by rw [p.out b (.inr h1)]; exact h.fresh b (by omega) h2⟩
theorem In.less {base : Nat} {σ σ1 σ' : HS} {ρ : Rho} {W : World} (h : In P base σ σ' ρ W) (hn : σ1.nx ≤ σ'.nx) : In P base σ σ1 ρ W :=
  ⟨h.low, h.sim, fun b h1 h2 => h.fresh b h1 (by omega)⟩

def ExSound (P : Program) (ex : Ex) : Prop :=
  ∀ (c : Code) (fl : Nat) (rd : Option Nat) (a : HAct) (σ : HS) (e : HExit) (a' : HAct) (σ' : HS), ex fl rd (lowC P c) a σ = some (e, a', σ') → Dom σ →
    ∀ (base : Nat) (ρ : Rho) (A : Act) (W : World) (R : Option Nat), In P base σ σ' ρ W → AR ρ a A → RdOk ρ rd R →
      HFS fl σ σ' ∧ c.wpIn (FR R) 0 P (fun E A' W' => ∃ ρ', PostS P base fl σ σ' ρ ρ' W W' ∧ E = exitOf e ∧ AR ρ' a' A') A W
def ExLe (ex : Ex) : Prop := ∀ (fl : Nat) (rd : Option Nat) (lc : LCode) (a : HAct) (σ : HS) (e : HExit) (a' : HAct) (σ' : HS), ex fl rd lc a σ = some (e, a', σ') → σ.nx ≤ σ'.nx
/-- The lowered functions are the program's. -/
def SpecOk (P : Program) (f : Nat) (g : List HV → HS → Option (HV × HS)) : Prop := ∀ (args : List HV) (σ : HS) (v : HV) (σ' : HS), g args σ = some (v, σ') → Dom σ → ∀ (fl base : Nat) (ρ : Rho) (Args : Array Value) (W : World), In P base σ σ' ρ W → LR ρ args Args.toList →
  HFS fl σ σ' ∧ (∃ fn, P.funcs[f]? = some fn ∧ fn.body.isSome = true ∧ (fn.name == "runtime.NumGoroutine") = false) ∧
  CallsIn (FR none) 0 P f Args W (fun E W' => ∃ V ρ', E = .returned V ∧ VR ρ' v V ∧ PostS P base fl σ σ' ρ ρ' W W')
def LpOk (P : Program) (lp : Nat → Option LFunc) : Prop := ∀ f lf, lp f = some lf → (∀ g, lf.spec = some g → SpecOk P f g) ∧ (lf.spec = none → ∃ fn c, P.funcs[f]? = some fn ∧ fn.body = some c ∧ (fn.name == "runtime.NumGoroutine") = false ∧ lf.nt = fn.ntmps ∧ lf.body = lowC P c ∧ lowRes P fn.results.toList = some lf.res)
theorem lowP_ok {imps : List Nat} : LpOk P (lowP P imps) := by
  intro f lf h
  simp only [lowP, Option.bind_eq_some_iff] at h
  obtain ⟨fn, h1, h2⟩ := h
  unfold lowF at h2
  split at h2
  · rename_i c rs h3 h4
    cases hn : (fn.name == "runtime.NumGoroutine") with
    | true => rw [hn] at h2; cases h2
    | false => rw [hn] at h2; cases h2; exact ⟨fun g hg => (by cases hg), fun _ => ⟨fn, c, h1, h3, hn, rfl, rfl, h4⟩⟩
  · cases h2

/-! entering -/
theorem putAll_get : ∀ (vs : List HV) (t : Tr HV) (i j : Nat), (putAll t i vs).get j = if i ≤ j ∧ j < i + vs.length then vs[j - i]? else t.get j
  | [], t, i, j => by simp only [putAll, List.length_nil]; rw [if_neg (by omega)]
  | v :: vs, t, i, j => by
    simp only [putAll, putAll_get vs, Tr.get_set, List.length_cons]
    by_cases e : j = i
    · subst e; rw [if_neg (by omega), if_pos rfl, if_pos (by omega)]; simp
    · by_cases h : i + 1 ≤ j ∧ j < i + 1 + vs.length
      · rw [if_pos h, if_pos (by omega)]
        have : j - i = (j - (i + 1)) + 1 := by omega
        rw [this]; simp
      · rw [if_neg h, if_neg e, if_neg (by omega)]
theorem ar_enter {ρ : Rho} {args : List HV} {Args : Array Value} {nt : Nat} (h : LR ρ args Args.toList) :
    AR ρ ⟨Nat.max nt args.length, putAll .e 0 args, []⟩ { tmps := Args ++ Array.replicate (nt - Args.size) Go.undef, defers := [] } := by
  have hl : args.length = Args.size := by have := h.1; simpa using this
  refine ⟨⟨?_, fun t => ?_⟩, rfl, fun m hm => by cases hm⟩
  · simp only [Array.size_append, Array.size_replicate]
    show _ = max nt args.length
    omega
  · rw [putAll_get]
    by_cases ht : t < args.length
    · rw [if_pos (by omega)]
      have h1 : args[t - 0]? = some args[t] := by simp [ht]
      have h2 : Args.toList[t]? = some Args[t] := by simp [hl ▸ ht]
      rw [h1]
      have : (Args ++ Array.replicate (nt - Args.size) Go.undef).getD t Go.undef = Args[t] := by
        simp [Array.getD_eq_getD_getElem?, Array.getElem?_append, hl ▸ ht]
      rw [this]
      exact h.2 t _ _ (by simpa using h1) h2
    · rw [if_neg (by omega), Tr.get_e]
      have : (Args ++ Array.replicate (nt - Args.size) Go.undef).getD t Go.undef = Go.undef := by
        rw [Array.getD_eq_getD_getElem?, Array.getElem?_append, if_neg (by omega), Array.getElem?_replicate]
        split <;> rfl
      rw [this]
      exact VR.undef ρ

/-! leaving -/
theorem take_marks {base fl : Nat} {ρ : Rho} {fn : Func} {T : Array Value} {R : Ending → World → Prop} : ∀ (ms : List Nat) (σ σ' : HS) (W : World), takeMarks fl ms σ = some σ' → Dom σ → Sim P base σ.h.get ρ W →
    (∀ m ∈ ms, (ρ m).isSome = true) → HFS fl σ σ' ∧ σ'.nx = σ.nx ∧ ∃ W', PostS P base fl σ σ' ρ ρ W W' ∧ ((LeavesInM (FR none) 0 P fn T R [] .returning W') → LeavesInM (FR none) 0 P fn T R (ms.map fun m => ⟨.collected ((ρ m).elim 0 RI.blk), #[]⟩) .returning W)
  | [], σ, σ', W, h, hd, hs, hm => by
    cases h
    exact ⟨HF.refl _ _ _, rfl, W, Post.refl hs, fun h => h⟩
  | m :: ms, σ, σ', W, h, hd, hs, hm => by
    unfold takeMarks at h
    split at h
    · rename_i hmk
      cases hfl : Nat.ble fl m with
      | false => rw [hfl] at h; cases h
      | true =>
        rw [hfl] at h
        simp only [cond_true] at h
        have hfl := Nat.le_of_ble_eq_true hfl
        obtain ⟨r, hr, hw, hbase⟩ := hs.ok _ _ hmk
        have hlt := (Array.getElem?_eq_some_iff.1 hw).1
        have p1 : PostS P base fl σ (σ.upd m none) ρ ρ W (W.putObj r.blk (.deferred none)) :=
          post_upd hs hmk rfl hfl hr (HS.get_upd σ _ _) rfl rfl rfl (frz_put hw rfl) (by simp) (fun k _ hk => World.putObj_heap_other hk) (fun z hz => by cases hz)
        have f1 : HFS fl σ (σ.upd m none) := hf_upd hfl (hd _ _ hmk) (HS.get_upd σ _ _)
        obtain ⟨f2, e2, W', p2, hl⟩ := take_marks ms (σ.upd m none) σ' _ h (f1.dom hd) p1.sim (fun m hm' => hm m (List.mem_cons_of_mem _ hm'))
        refine ⟨f1.trans f2, e2, W', Post.trans f1.le f2.le p1 p2, fun h => ?_⟩
        simp only [List.map_cons, LeavesInM]
        refine ⟨by simp, .inl ⟨r.blk, _, by simp [hr], run_takeDeferred hw, hl h⟩⟩
    · cases h
def resOne (T : Array Value) : ResultVar → Sem Value
  | .tmp t => pure (T.getD t Go.undef)
  | .cell a t => do loadVar t (← asAddr (T.getD a Go.undef))
theorem results_eq (fn : Func) (T : Array Value) : results fn T = (do let vs ← fn.results.mapM (resOne T); pure (if h : vs.size = 1 then vs[0] else .tuple vs)) := rfl
theorem res_ok {base : Nat} {σ : HS} {ρ : Rho} {W : World} {a : HAct} {T : Array Value} (hs : Sim P base σ.h.get ρ W) (ht : ∀ t, VR ρ (a.tmp t) (T.getD t Go.undef)) : ∀ (rs : List ResultVar) (lrs : List LRes) (vs : List HV), lowRes P rs = some lrs → resH a σ lrs = some vs →
    ∃ U : List Value, LR ρ vs U ∧ (rs.mapM (resOne T)).run P W = .ok U W
  | [], lrs, vs, h1, h2 => by
    cases h1
    cases h2
    exact ⟨[], LR.nil ρ, by simp⟩
  | .tmp t :: rs, lrs, vs, h1, h2 => by
    simp only [lowRes, Option.map_eq_some_iff] at h1
    obtain ⟨lrs', h1, rfl⟩ := h1
    unfold resH at h2
    split at h2
    · rename_i vs' h3
      cases h2
      obtain ⟨U, hU, hr⟩ := res_ok hs ht rs lrs' vs' h1 h3
      exact ⟨_ :: U, LR.cons (ht t) hU, by simp only [List.mapM_cons, resOne, Sem.run_bind, Sem.run_pure, Result.andThen_ok, hr]⟩
    · cases h2
  | .cell x t :: rs, lrs, vs, h1, h2 => by
    have key : ∀ (g : Bool) (n0 : Nat) (lrs' : List LRes), aggOf P t = some g → szOf P t = some n0 → lowRes P rs = some lrs' → lrs = .cell x g (if g then n0 else 1) :: lrs' →
        ∃ U : List Value, LR ρ vs U ∧ ((ResultVar.cell x t :: rs).mapM (resOne T)).run P W = .ok U W := by
      intro g n0 lrs' hg hz hl he
      subst he
      unfold resH at h2
      split at h2
      · rename_i p hp
        obtain ⟨b, q⟩ := p
        have hx := ht x
        rw [hp] at hx
        obtain ⟨r, hr, hV⟩ := vr_ptr hx
        split at h2
        · rename_i cs vs' hc h3
          split at h2
          · rename_i w hw
            cases h2
            obtain ⟨U, hU, hrun⟩ := res_ok hs ht rs lrs' vs' hl h3
            obtain ⟨r', C, hr', hC, hl1, hl2, hcell⟩ := sim_read hs hc
            rw [hr] at hr'; cases hr'
            obtain ⟨i, hi, hi2⟩ := info_size hz
            cases g with
            | true =>
              have hw : w = .agg cs := by simpa [whole] using hw.symm
              subst hw
              have hl1 : C.length = n0 := hl1
              refine ⟨.agg C.toArray :: U, LR.cons (VR.aggL hC) hU, ?_⟩
              have h0 : (resOne T (.cell x t)).run P W = .ok (.agg C.toArray) W := by
                simp only [resOne, Sem.run_bind, hV, asAddr, Sem.run_pure, Result.andThen_ok, loadVar, run_agg hg, if_true, run_size hi, hi2, run_loadCells_of hl1 hcell]
              simp only [List.mapM_cons, Sem.run_bind, h0, Sem.run_pure, Result.andThen_ok, hrun]
            | false =>
              have hw : ∃ u, cs = [u] ∧ u = w := by
                rcases cs with _ | ⟨u, _ | ⟨u2, rest⟩⟩
                · simp [whole] at hw
                · exact ⟨u, rfl, by simpa [whole] using hw⟩
                · simp [whole] at hw
              obtain ⟨u, rfl, rfl⟩ := hw
              obtain ⟨u', C', rfl, hv, _⟩ := LR.inv hC
              have hcell0 := hcell 0 u' rfl
              refine ⟨u' :: U, LR.cons hv hU, ?_⟩
              have h0 : (resOne T (.cell x t)).run P W = .ok u' W := by
                simp only [resOne, Sem.run_bind, hV, asAddr, Sem.run_pure, Result.andThen_ok, loadVar, run_agg hg, Bool.false_eq_true, if_false, run_load, show W.cell? ⟨r.blk, r.off + q, none⟩ = some u' from hcell0]
              simp only [List.mapM_cons, Sem.run_bind, h0, Sem.run_pure, Result.andThen_ok, hrun]
          · cases h2
        · cases h2
      · cases h2
    unfold lowRes at h1
    split at h1
    · rename_i n rs' e1 e2 e3; cases h1; exact key true n rs' e1 e2 e3 rfl
    · rename_i n rs' e1 e2 e3; cases h1; exact key false n rs' e1 e2 e3 rfl
    · cases h1
theorem results_ok {base : Nat} {σ : HS} {ρ : Rho} {W : World} {a : HAct} {T : Array Value} {fn : Func} {lrs : List LRes} {vs : List HV} (hs : Sim P base σ.h.get ρ W) (ht : ∀ t, VR ρ (a.tmp t) (T.getD t Go.undef)) (h1 : lowRes P fn.results.toList = some lrs) (h2 : resH a σ lrs = some vs) :
    ∃ V, (results fn T).run P W = .ok V W ∧ VR ρ (oneOf vs) V := by
  obtain ⟨U, hU, hr⟩ := res_ok hs ht _ _ _ h1 h2
  have hr' : (fn.results.mapM (resOne T)).run P W = .ok U.toArray W := by
    rw [Array.mapM_eq_mapM_toList]
    simp only [Sem.run_map, hr, Result.andThen_ok]
  have hr2 : (results fn T).run P W = .ok (if h : U.toArray.size = 1 then U.toArray[0] else .tuple U.toArray) W := by
    rw [results_eq]
    simp only [Sem.run_bind, hr', Result.andThen_ok, Sem.run_pure]
  refine ⟨_, hr2, ?_⟩
  have hlen := hU.1
  rcases vs with _ | ⟨v, _ | ⟨v2, vs⟩⟩
  · rw [dif_neg (by simp at hlen; simp [← hlen])]
    exact VR.tupleL hU
  · obtain ⟨u, U', rfl, hu, hU'⟩ := LR.inv hU
    have := LR.inv_nil hU'
    subst this
    simpa [oneOf] using hu
  · rw [dif_neg (by simp at hlen; simp [← hlen])]
    exact VR.tupleL hU
end Go.Hx
