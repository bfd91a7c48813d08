/- Walks of the plain machine: regions that draw, loops, calls of known functions. -/
import Derived.Test.YtojkmobfhkjfnaaHyD
set_option linter.all false
namespace Go.Hx
variable {lp : Nat → Option LFunc} {fl : Nat} {rd : Option Nat} {Q : HExit → HAct → HS → Prop} {N : HAct → HS → Prop} {a : HAct} {h : Tr HBlk} {nx : Nat} {os : List LOper} {dst : Option Nat} {anc : List Nat}

/-- Nothing lies from nx on. -/
def D (h : Tr HBlk) (nx : Nat) : Prop := ∀ b, nx ≤ b → h.get b = none
theorem D.mono {n : Nat} (hd : D h nx) (hn : nx ≤ n) : D h n := fun b hb => hd b (by omega)
theorem D.put {n b : Nat} {x : Option HBlk} (hd : D h nx) (hn : nx ≤ n) (hb : b < n) : D (h.set b x) n := fun c hc => by rw [Tr.get_set, if_neg (by omega)]; exact hd c (by omega)
theorem D.upd {b : Nat} {x : Option HBlk} (hd : D h nx) (hb : b < nx) : D (h.set b x) nx := hd.put (Nat.le_refl _) hb
theorem D.e : D .e 0 := fun b _ => Tr.get_e b

theorem newFrom_none : ∀ (k lo : Nat), (∀ b, lo ≤ b → h.get b = none) → newFrom h lo k = []
  | 0, _, _ => rfl
  | k + 1, lo, hd => by unfold newFrom; rw [hd lo (Nat.le_refl _)]; exact newFrom_none k (lo + 1) fun b hb => hd b (by omega)
def NilD (done : List (Nat × List (Nat × HBlk))) : Prop := ∀ p ∈ done, p.2 = []
theorem merge_nil {anc : Option (List Nat)} : ∀ {done : List (Nat × List (Nat × HBlk))}, NilD done → ∀ h : Tr HBlk, merge h anc done = h
  | [], _, h => rfl
  | (j, l) :: ds, hn, h => by
    have hl : l = [] := hn (j, l) (List.mem_cons_self ..)
    subst hl
    unfold merge
    cases anc with
    | none => exact merge_nil (fun p hp => hn p (List.mem_cons_of_mem _ hp)) h
    | some anc =>
      dsimp only
      cases anc.contains j <;> exact merge_nil (fun p hp => hn p (List.mem_cons_of_mem _ hp)) h
/-- The rest of a region that draws, in which nothing has been laid yet. -/
def DR (lp : Nat → Option LFunc) (fl s : Nat) (os : List LOper) (i : Nat) (N : HAct → HS → Prop) (a : HAct) (h : Tr HBlk) (nx : Nat) : Prop :=
  fl ≤ nx → D h nx → ∀ done, NilD done → ∃ n a' σ', drawOps lp (exec lp n) fl s h os i done a nx = some (a', σ') ∧ N a' σ'
theorem w_draw {s : Nat} {ops : List LOper} (hfl : fl ≤ nx) (hd : D h nx) (hr : DR lp fl s ops 0 (Q .normal) a h nx) : W lp fl rd (.draw s ops) Q a ⟨h, nx⟩ := by
  obtain ⟨n, a', σ', h1, h2⟩ := hr hfl hd [] (fun p hp => by cases hp)
  refine ⟨n + 1, .normal, a', σ', ?_, h2⟩
  show xDraw lp (exec lp n) fl s ops a ⟨h, nx⟩ = _
  unfold xDraw
  have : Nat.ble fl nx = true := by rw [Nat.ble_eq]; exact hfl
  simp only [this, cond_true, h1]
  rfl
theorem d_nil {s i : Nat} (hn : N a ⟨h, nx⟩) : DR lp fl s [] i N a h nx := fun _ _ done hd => ⟨0, a, ⟨h, nx⟩, by unfold drawOps; rw [merge_nil hd], hn⟩
theorem d_rest {s i : Nat} (hi : Nat.ble s i = true) (hr : R lp fl os N a ⟨h, nx⟩) : DR lp fl s os i N a h nx := by
  intro _ _ done hd
  obtain ⟨n, a', σ', h1, h2⟩ := hr
  cases os with
  | nil => exact ⟨n, a', σ', by unfold drawOps; rw [merge_nil hd]; exact h1, h2⟩
  | cons o os =>
    refine ⟨n, a', σ', ?_, h2⟩
    unfold drawOps
    have : Nat.blt i s = false := by
      cases e : Nat.blt i s with
      | false => rfl
      | true => rw [Nat.blt_eq] at e; have := Nat.le_of_ble_eq_true hi; omega
    rw [this, cond_false, merge_nil hd]
    exact h1
/-- What is left behind one operation that lays nothing that stays. -/
def DP (lp : Nat → Option LFunc) (fl s : Nat) (os : List LOper) (i : Nat) (N : HAct → HS → Prop) (h : Tr HBlk) (nx : Nat) : HAct → HS → Prop := fun a' σ' => ∃ n', nx ≤ n' ∧ σ' = ⟨h, n'⟩ ∧ DR lp fl s os i N a' h n'
theorem d_one {s i : Nat} {o : LOper} (hi : Nat.blt i s = true) (hr : R lp (max fl nx) [o] (DP lp fl s os (i + 1) N h nx) a ⟨h, nx⟩) : DR lp fl s (o :: os) i N a h nx := by
  intro hfl hd done hn
  obtain ⟨n, a', σ', h1, n', hn', rfl, hdr⟩ := hr
  have h1' : stepOp lp (exec lp n) (max fl nx) o a ⟨h, nx⟩ = some (a', ⟨h, n'⟩) := by
    unfold runOps at h1
    split at h1
    · rename_i e; rw [e]; exact h1
    · cases h1
  have hnew : newFrom h nx (n' - nx) = [] := newFrom_none _ _ hd
  have hd2 : NilD (bif Nat.beq nx n' then done else (i, newFrom h nx (n' - nx)) :: done) := by
    cases Nat.beq nx n' with
    | true => exact hn
    | false =>
      rw [hnew]
      intro p hp
      rcases List.mem_cons.1 hp with e | e
      · rw [e]
      · exact hn p e
  obtain ⟨m, a2, σ2, h2, h3⟩ := hdr (by omega) (hd.mono hn') _ hd2
  refine ⟨max n m, a2, σ2, ?_, h3⟩
  unfold drawOps
  rw [hi, cond_true, merge_nil hn]
  show (match stepOp lp (exec lp (max n m)) (max fl nx) o a ⟨h, nx⟩ with | some (a, σ) => _ | none => none) = _
  rw [stepOp_mon (exec_mon (Nat.le_max_left n m)) h1']
  have : Nat.ble nx n' = true := by rw [Nat.ble_eq]; exact hn'
  simp only [this, Bool.not_true, cond_false]
  exact drawOps_mon (exec_mon (Nat.le_max_right n m)) h2
theorem d_next {s i : Nat} {n' : Nat} (hn : nx ≤ n') (hr : DR lp fl s os i N a h n') : DP lp fl s os i N h nx a ⟨h, n'⟩ := ⟨n', hn, rfl, hr⟩
/-- The last one of those that are drawn, which lays a block. -/
def DL (lp : Nat → Option LFunc) (fl : Nat) (os : List LOper) (N : HAct → HS → Prop) (h : Tr HBlk) (nx : Nat) : HAct → HS → Prop := fun a' σ' => ∃ x, σ' = ⟨h.set nx (some x), nx + 1⟩ ∧ R lp fl os N a' σ'
theorem d_last {s i : Nat} {o : LOper} (hi : Nat.beq (i + 1) s = true) (hr : R lp (max fl nx) [o] (DL lp fl os N h nx) a ⟨h, nx⟩) : DR lp fl s (o :: os) i N a h nx := by
  intro hfl hd done hn
  obtain ⟨n, a', σ', h1, x, rfl, hrest⟩ := hr
  have h1' : stepOp lp (exec lp n) (max fl nx) o a ⟨h, nx⟩ = some (a', ⟨h.set nx (some x), nx + 1⟩) := by
    unfold runOps at h1
    split at h1
    · rename_i e; rw [e]; exact h1
    · cases h1
  obtain ⟨m, a2, σ2, h2, h3⟩ := hrest
  have hs := Nat.eq_of_beq_eq_true hi
  have hnew : newFrom (h.set nx (some x)) nx (nx + 1 - nx) = [(nx, x)] := by
    rw [show nx + 1 - nx = 1 by omega]
    unfold newFrom newFrom
    rw [Tr.get_set, if_pos rfl]
  have hm : merge h none ((i, [(nx, x)]) :: done) = h.set nx (some x) := by
    unfold merge
    simp only [cond_true]
    unfold addAll addAll
    exact merge_nil hn _
  refine ⟨max n m, a2, σ2, ?_, h3⟩
  unfold drawOps
  have hlt : Nat.blt i s = true := by rw [Nat.blt_eq]; omega
  rw [hlt, cond_true, merge_nil hn]
  rw [show Nat.max fl nx = max fl nx from rfl, stepOp_mon (exec_mon (Nat.le_max_left n m)) h1']
  have hb : Nat.ble nx (nx + 1) = true := by rw [Nat.ble_eq]; omega
  have hb2 : Nat.beq nx (nx + 1) = false := by
    cases e : Nat.beq nx (nx + 1) with
    | false => rfl
    | true => have := Nat.eq_of_beq_eq_true e; omega
  simp only [hb, hb2, Bool.not_true, cond_false, hnew]
  have rest : runOps lp (exec lp (max n m)) fl os a' ⟨h.set nx (some x), nx + 1⟩ = some (a2, σ2) := runOps_mon (exec_mon (Nat.le_max_right n m)) h2
  cases os with
  | nil => unfold drawOps; rw [hm]; exact rest
  | cons o os =>
    unfold drawOps
    have : Nat.blt (i + 1) s = false := by cases e : Nat.blt (i + 1) s with | false => rfl | true => rw [Nat.blt_eq] at e; omega
    rw [this, cond_false, hm]
    exact rest
theorem d_laid {x : HBlk} (hr : R lp fl os N a ⟨h.set nx (some x), nx + 1⟩) : DL lp fl os N h nx a ⟨h.set nx (some x), nx + 1⟩ := ⟨x, rfl, hr⟩

theorem d_bs {s i len : Nat} {z : List HV} {ps : List (Nat × Nat × Lo)} {g : Option (Nat × Bool)} (hi : Nat.beq (i + 1) s = true) (hr : R lp (max fl nx) [⟨dst, .buildSlice len z ps, g, anc⟩] (DL lp fl os N h nx) a ⟨h, nx⟩) : DR lp fl s (⟨dst, .buildSlice len z ps, g, anc⟩ :: os) i N a h nx := d_last hi hr
theorem d_box {s i : Nat} {x : Lo} {g : Option (Nat × Bool)} (hi : Nat.beq (i + 1) s = true) (hr : R lp (max fl nx) [⟨dst, .box x, g, anc⟩] (DL lp fl os N h nx) a ⟨h, nx⟩) : DR lp fl s (⟨dst, .box x, g, anc⟩ :: os) i N a h nx := d_last hi hr
theorem d_alloc {s i : Nat} {z : List HV} {g : Option (Nat × Bool)} (hi : Nat.beq (i + 1) s = true) (hr : R lp (max fl nx) [⟨dst, .alloc z, g, anc⟩] (DL lp fl os N h nx) a ⟨h, nx⟩) : DR lp fl s (⟨dst, .alloc z, g, anc⟩ :: os) i N a h nx := d_last hi hr

/-! loops -/
theorem w_iter {x : LCode} {σ : HS} (hw : W lp fl rd x (thenH (W lp fl rd (.loop x) Q) Q) a σ) : W lp fl rd (.loop x) Q a σ := by
  obtain ⟨n, e, a', σ', h1, h2⟩ := w_seq hw
  refine ⟨n, e, a', σ', ?_, h2⟩
  cases n with
  | zero => cases h1
  | succ n => exact h1

theorem w_it {x y : LCode} {σ : HS} (hx : x = y) (hw : W lp fl rd y (thenH (W lp fl rd (.loop x) Q) Q) a σ) : W lp fl rd (.loop x) Q a σ := by subst hx; exact w_iter hw

/-- The end of a function that may write what is its caller's. -/
def Fim (fl : Nat) (res : List LRes) (K : HV → HS → Prop) : HExit → HAct → HS → Prop := fun e a σ' => match e with | .exit _ => False | _ => ∃ v σ'', leaveH fl a res σ' = some (v, σ'') ∧ K v σ''
theorem c_im {f : Nat} {args : List HV} {lf : LFunc} {K : HV → HS → Prop} (hf : lp f = some lf) (hs : lf.spec = none) (hi : lf.imp = true) (hl : Nat.ble args.length lf.nt = true)
    (hw : W lp fl none lf.body (Fim fl lf.res K) (enter lf.nt args) ⟨h, nx⟩) : C lp fl f args ⟨h, nx⟩ K := c_imp hf hs hi (by
      rw [show Nat.max lf.nt args.length = lf.nt from Nat.max_eq_left (Nat.le_of_ble_eq_true hl)]; exact hw)
theorem fim_r {σ : HS} {t : Nat} {K : HV → HS → Prop} {v : HV} (hd : a.defers = []) (hv : a.tmp t = v) (hk : K v σ) : Fim fl [.t t] K .ret a σ := ⟨_, _, leave_one hd, hv ▸ hk⟩
/-- Leaving with several values. -/
theorem leave_many {res : List LRes} {σ : HS} {vs : List HV} (hd : a.defers = []) (hr : resH a σ res = some vs) : leaveH fl a res σ = some (oneOf vs, σ) := by
  unfold leaveH
  rw [hd]
  simp only [takeMarks, hr]
theorem fin_m {σ0 σ : HS} {res : List LRes} {K : HV → HS → Prop} {vs : List HV} (hd : a.defers = []) (hr : resH a σ res = some vs) (hk : K (oneOf vs) (gcH σ0 σ (oneOf vs))) : Fin σ0 res K .ret a σ := by
  unfold Fin
  exact ⟨_, _, leave_many hd hr, hk⟩
theorem res_nil {σ : HS} : resH a σ [] = some [] := rfl
theorem res_t {σ : HS} {t : Nat} {v : HV} {rs : List LRes} {vs : List HV} (hv : a.tmp t = v) (hr : resH a σ rs = some vs) : resH a σ (.t t :: rs) = some (v :: vs) := by
  unfold resH; rw [hr, ← hv]
theorem res_c {t b o n : Nat} {cs us : List HV} {k : BK} {rs : List LRes} {vs : List HV} (hv : a.tmp t = .ptr (some (b, o))) (hg : h.get b = some (.cells cs k)) (hc : takeN n (cs.drop o) = some us) (hr : resH a ⟨h, nx⟩ rs = some vs) : resH a ⟨h, nx⟩ (.cell t true n :: rs) = some (.agg us :: vs) := by
  unfold resH
  rw [hv]
  have : (⟨h, nx⟩ : HS).read (b, o) n = some us := by unfold HS.read HS.cells; simp only [hg, Option.bind_eq_bind, Option.bind_some]; exact hc
  simp only [this, hr, whole]
theorem res_c1 {t b o n : Nat} {cs : List HV} {u : HV} {k : BK} {rs : List LRes} {vs : List HV} (hv : a.tmp t = .ptr (some (b, o))) (hg : h.get b = some (.cells cs k)) (hc : cs[o]? = some u) (hr : resH a ⟨h, nx⟩ rs = some vs) : resH a ⟨h, nx⟩ (.cell t false 1 :: rs) = some (u :: vs) := by
  unfold resH
  rw [hv]
  simp only [read_one hg hc, hr, whole]

/-! calls -/
variable {f : Lo} {xs : List Lo} {k : Nat} {first captured args : List HV}
theorem r_calls {v : HV} (hf : a.ev f = .func k first captured) (ha : first ++ xs.map a.ev ++ captured = args) (hc : C lp fl k args ⟨h, nx⟩ (Sc (· = v) ⟨h, nx⟩)) (hn : ∀ n', nx ≤ n' → R lp fl os N (a.put dst v) ⟨h, n'⟩) : R lp fl (⟨dst, .call f xs, none, anc⟩ :: os) N a ⟨h, nx⟩ :=
  r_callc hf ha hc fun v' σ' ⟨e, n', h1, h2⟩ => by subst e; subst h2; exact hn n' h1
theorem r_calld {p : Prop} [Decidable p] (hf : a.ev f = .func k first captured) (ha : first ++ xs.map a.ev ++ captured = args) (hc : C lp fl k args ⟨h, nx⟩ (Sc (· = .bool (decide p)) ⟨h, nx⟩))
    (ht : ∀ n', nx ≤ n' → p → R lp fl os N (a.put dst (.bool true)) ⟨h, n'⟩) (hfl : ∀ n', nx ≤ n' → ¬ p → R lp fl os N (a.put dst (.bool false)) ⟨h, n'⟩) : R lp fl (⟨dst, .call f xs, none, anc⟩ :: os) N a ⟨h, nx⟩ := by
  refine r_calls hf ha hc fun n' h1 => ?_
  by_cases hp : p
  · rw [decide_eq_true hp]; exact ht n' h1 hp
  · rw [decide_eq_false hp]; exact hfl n' h1 hp

/-! rows -/
/-- What a slice shows: all rows of so many cells. -/
def Row {α : Type} (enc : α → List HV) (sz : Nat) (h : Tr HBlk) (nx : Nat) (p : Option (Nat × Nat)) (l : List α) : Prop :=
  l ≠ [] → ∃ b o cs k, p = some (b, o) ∧ b < nx ∧ h.get b = some (.cells cs k) ∧ ∀ i x, l[i]? = some x → takeN sz (cs.drop (o + i * sz)) = some (enc x)
theorem takeN_get : ∀ (n : Nat) (l r : List HV), takeN n l = some r → r.length = n ∧ ∀ j, j < n → l[j]? = r[j]?
  | 0, l, r, h => by cases h; exact ⟨rfl, fun j hj => by omega⟩
  | n + 1, [], r, h => by cases h
  | n + 1, v :: l, r, h => by
    unfold takeN at h
    cases e : takeN n l with
    | none => rw [e] at h; cases h
    | some r' =>
      rw [e] at h; cases h
      obtain ⟨h1, h2⟩ := takeN_get n l r' e
      refine ⟨by simp [h1], fun j hj => ?_⟩
      cases j with
      | zero => rfl
      | succ j => simpa using h2 j (by omega)
theorem take_at {n o j : Nat} {cs r : List HV} {v : HV} (ht : takeN n (cs.drop o) = some r) (hv : r[j]? = some v) : cs[o + j]? = some v := by
  obtain ⟨h1, h2⟩ := takeN_get n _ _ ht
  have hj : j < n := by
    rcases Nat.lt_or_ge j r.length with h | h
    · omega
    · rw [List.getElem?_eq_none h] at hv; cases hv
  rw [← hv, ← h2 j hj, List.getElem?_drop]
abbrev ienc (n : Int) : List HV := [i64 n]
attribute [irreducible] D DR DP DL Fim
end Go.Hx
