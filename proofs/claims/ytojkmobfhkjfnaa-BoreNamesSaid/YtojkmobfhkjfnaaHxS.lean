/- The plain machine and Go's: every operation, calls among them. -/
import Derived.Test.YtojkmobfhkjfnaaHxR
set_option linter.all false
namespace Go.Hx
variable {P : Program} {lp : Nat → Option LFunc} {ex : Ex}

/-- What is walked comes somewhere. -/
theorem wpIn_some {R : Option Nat} {c : Code} {Q : Exit → Act → World → Prop} {A : Act} {W : World} (h : c.wpIn (FR R) 0 P Q A W) : ∃ E A' W', Q E A' W' := by
  obtain ⟨E, A', W', hq, _⟩ := h { (default : Frame) with roundOf := R } [] [] rfl trivial (fun _ hd => by simp [FR, Fence.wide] at hd)
  exact ⟨E, A', W', hq⟩
theorem begin_fl {fl l : Nat} {σ σ' : HS} (h : beginRoundH fl l σ = some σ') : fl ≤ l := by
  unfold beginRoundH at h
  split at h
  · split at h
    · cases hfl : Nat.ble fl l with
      | false => rw [hfl] at h; cases h
      | true => exact Nat.le_of_ble_eq_true hfl
    · cases h
  · cases h
theorem begin_nx {fl l : Nat} {σ σ' : HS} (h : beginRoundH fl l σ = some σ') : σ'.nx = σ.nx := by
  unfold beginRoundH at h
  split at h
  · split at h
    · cases hb : Nat.ble fl l with
      | false => rw [hb] at h; cases h
      | true => rw [hb] at h; cases h; rfl
    · cases h
  · cases h
theorem end_nx {l : Nat} {e : HExit} {σ σ' : HS} {v : HV} (h : endRoundH l e σ = some (v, σ')) : σ'.nx = σ.nx := by
  unfold endRoundH at h
  split at h
  · split at h <;> (cases h; rfl)
  · cases h
theorem round_some {fl l : Nat} {args : List HV} {σ σ' : HS} {v : HV} (h : roundH ex fl l args σ = some (v, σ')) :
    ∃ q tmps a1 σ1 σ2 e a3 σ3, σ.h.get l = some (.loop q) ∧ zipPut q.nt q.tmps q.params args = some tmps ∧ ex fl (some l) q.assign ⟨q.nt, tmps, []⟩ σ = some (.normal, a1, σ1) ∧ beginRoundH fl l σ1 = some σ2 ∧
      ex fl (some l) q.body a1 σ2 = some (e, a3, σ3) ∧ endRoundH l e σ3 = some (v, σ') := by
  unfold roundH at h
  split at h
  · rename_i q hq
    split at h
    · rename_i tmps hz
      split at h
      · rename_i a1 σ1 hx1
        split at h
        · rename_i σ2 hbg
          split at h
          · rename_i e a3 σ3 hx2
            exact ⟨q, tmps, a1, σ1, σ2, e, a3, σ3, hq, hz, hx1, hbg, hx2, h⟩
          · cases h
        · cases h
      · cases h
    · cases h
  · cases h
theorem round_le (hle : ExLe ex) {fl l : Nat} {args : List HV} {σ σ' : HS} {v : HV} (h : roundH ex fl l args σ = some (v, σ')) : σ.nx ≤ σ'.nx := by
  obtain ⟨q, tmps, a1, σ1, σ2, e, a3, σ3, h1, h2, h3, h4, h5, h6⟩ := round_some h
  have := hle _ _ _ _ _ _ _ _ h3
  have := hle _ _ _ _ _ _ _ _ h5
  have := begin_nx h4
  have := end_nx h6
  omega
theorem round_sound (hle : ExLe ex) (hex : ExSound P ex) {fl l : Nat} {args : List HV} {σ σ' : HS} {v : HV} (h : roundH ex fl l args σ = some (v, σ')) (hd : Dom σ) :
    ∀ (base : Nat) (ρ : Rho) (Args : Array Value) (W : World) (R : Option Nat), In P base σ σ' ρ W → LR ρ args Args.toList →
      HFS fl σ σ' ∧ ∃ (r : RI) (L : Loop), ρ l = some r ∧ W.heap[r.blk]? = some (.loop L) ∧ Args.size = L.params.size ∧
        RoundIn (FR R) 0 P r.blk L.fn ((L.params.zip Args).foldl (fun tmps (t, a) => tmps.setIfInBounds t a) L.tmps) L.assign L.body W
          (fun E W' => ∃ V ρ', E = .returned V ∧ VR ρ' v V ∧ PostS P base fl σ σ' ρ ρ' W W') := by
  obtain ⟨q, tmps, a1, σ1, σ2, e, a3, σ3, hq, hz, hx1, hbg, hx2, hend⟩ := round_some h
  intro base ρ Args W R hin hargs
  have le1 := hle _ _ _ _ _ _ _ _ hx1
  have le2 := hle _ _ _ _ _ _ _ _ hx2
  have nx2 := begin_nx hbg
  have nx4 := end_nx hend
  have hfl := begin_fl hbg
  obtain ⟨r, m, L, hr, hw, hb, hm, hdf, hl⟩ := hin.sim.ok _ _ hq
  have ha : q.assign = lowC P L.assign := hl.assign.symm
  have hbo : q.body = lowC P L.body := hl.body.symm
  rw [ha] at hx1
  rw [hbo] at hx2
  have htr : TR ρ q.nt q.tmps L.tmps := hl.tmps
  obtain ⟨hlen, htr'⟩ := zip_put q.params args q.nt q.tmps tmps L.tmps Args.toList hz htr hargs
  have hpar := hl.params
  have hsz : Args.size = L.params.size := by
    have e1 := hargs.1
    have e2 : L.params.toList.length = q.params.length := by rw [hpar]
    simp only [Array.length_toList] at e1 e2
    omega
  have hfold : ((L.params.zip Args).foldl (fun tmps (t, a) => tmps.setIfInBounds t a) L.tmps) = ((q.params.zip Args.toList).foldl (fun (t : Array Value) (p : Nat × Value) => t.setIfInBounds p.1 p.2) L.tmps) := by
    rw [← Array.foldl_toList, Array.toList_zip, hpar]
  have hA : AR ρ ⟨q.nt, tmps, []⟩ { tmps := ((L.params.zip Args).foldl (fun tmps (t, a) => tmps.setIfInBounds t a) L.tmps), defers := [] } :=
    ⟨by rw [hfold]; exact htr', rfl, fun m hm => by cases hm⟩
  obtain ⟨f1, w1⟩ := hex L.assign fl (some l) _ σ .normal a1 σ1 hx1 hd base ρ _ W (some r.blk) (hin.less (by omega)) hA ⟨r, hr, rfl⟩
  have d1 := f1.dom hd
  -- what follows says of the store what it says in each world; so it is asked where the first run leads
  have rest : ∀ (ρ1 : Rho) (A1 : Act) (W1 : World), PostS P base fl σ σ1 ρ ρ1 W W1 → AR ρ1 a1 A1 → HFS fl σ σ' ∧
      ∃ W2, (Instr.beginRound r.blk).run P W1 = .ok () W2 ∧ L.body.wpIn (FR (some r.blk)) 0 P (roundPost P r.blk (fun E W' => ∃ V ρ', E = .returned V ∧ VR ρ' v V ∧ PostS P base fl σ σ' ρ ρ' W W')) A1 W2 := by
    intro ρ1 A1 W1 p1 ar1
    obtain ⟨n2, f2, r2, W2, hr2, hrun2, p2⟩ := begin_ok hbg d1 p1.sim
    have hr1 := p1.ext _ _ hr
    rw [hr1] at hr2; cases hr2
    have d2 := f2.dom d1
    have hin2 : In P base σ2 σ3 ρ1 W2 := by
      have i1 : In P base σ1 σ' ρ1 W1 := hin.next p1 le1
      have i2 : In P base σ2 σ' ρ1 W2 := i1.next p2 (by omega)
      exact i2.less (by omega)
    obtain ⟨f3, w3⟩ := hex L.body fl (some l) a1 σ2 e a3 σ3 hx2 d2 base ρ1 A1 W2 (some r.blk) hin2 ar1 ⟨r, hr1, rfl⟩
    have d3 := f3.dom d2
    have f4 : HFS fl σ3 σ' := by
      unfold endRoundH at hend
      split at hend
      · rename_i q3 hq3
        split at hend <;> (cases hend; exact hf_upd hfl (d3 _ _ hq3) (HS.get_upd σ3 _ _))
      · cases hend
    refine ⟨((f1.trans f2).trans f3).trans f4, W2, hrun2, wpIn_mono w3 ?_⟩
    rintro E A3 W3 ⟨ρ3, p3, rfl, ar3⟩
    obtain ⟨n4, f4', r4, V, W4, hr4, hrun4, hv4, p4⟩ := end_ok hend hfl d3 p3.sim
    have hr3 := p3.ext _ _ hr1
    rw [hr3] at hr4; cases hr4
    have pall : PostS P base fl σ σ' ρ ρ3 W W4 := by
      have q1 := Post.trans f1.le f2.le p1 p2
      have q2 := Post.trans (f1.trans f2).le f3.le q1 p3
      exact Post.trans ((f1.trans f2).trans f3).le f4.le q2 p4
    cases e with
    | normal => exact ⟨V, W4, hrun4, V, ρ3, rfl, hv4, pall⟩
    | exit id => exact ⟨V, W4, hrun4, V, ρ3, rfl, hv4, pall⟩
    | ret => exact ⟨V, W4, hrun4, V, ρ3, rfl, hv4, pall⟩
  have hf : HFS fl σ σ' := by
    obtain ⟨E, A1, W1, ρ1, p1, _, ar1⟩ := wpIn_some w1
    exact (rest ρ1 A1 W1 p1 ar1).1
  refine ⟨hf, r, L, hr, hw, hsz, roundIn_of_wpIn trivial (wpIn_mono w1 ?_)⟩
  rintro E A1 W1 ⟨ρ1, p1, rfl, ar1⟩
  obtain ⟨_, W2, g1, g2⟩ := rest ρ1 A1 W1 p1 ar1
  exact ⟨W2, g1, g2⟩

/-! operations -/
def Next1 (P : Program) (base fl : Nat) (σ σ' : HS) (ρ : Rho) (A : Act) (W : World) (dst : Option Nat) (v : HV) (next : Act → World → Prop) : Prop :=
  ∀ (V : Value) (W' : World) (ρ' : Rho), VR ρ' v V → PostS P base fl σ σ' ρ ρ' W W' → next (A.put dst V) W'
theorem lr_map {ρ : Rho} {xs : List HV} {U : List Value} (h : LR ρ xs U) : LR ρ xs U.toArray.toList := by simpa using h
theorem read_nx {fl : Nat} {a : Nat × Nat} {vs : List HV} {σ σ' : HS} (h : σ.write fl a vs = some σ') : σ'.nx = σ.nx := by
  unfold HS.write at h
  split at h
  · cases h
  · cases hc : (Nat.ble fl a.1 && vs.all HV.one) with
    | false => rw [hc] at h; cases h
    | true =>
      rw [hc] at h
      simp only [cond_true, Option.map_eq_some_iff] at h
      obtain ⟨cs', _, rfl⟩ := h
      rfl
  · cases h
theorem append_le {fl size bytes : Nat} {s x v : HV} {σ σ' : HS} (h : appendH fl σ size bytes s x = some (v, σ')) : σ.nx ≤ σ'.nx := by
  unfold appendH at h
  split at h
  · split at h
    · cases h
    · rename_i news _
      cases h1 : Nat.ble _ _ with
      | true =>
        rw [h1] at h
        simp only [cond_true] at h
        split at h
        · cases h; exact Nat.le_refl _
        · cases h
        · simp only [Option.map_eq_some_iff] at h
          obtain ⟨σ1, hw, he⟩ := h
          cases he
          rw [read_nx hw]; exact Nat.le_refl _
      | false =>
        rw [h1] at h
        simp only [cond_false] at h
        revert h
        generalize (Nat.ble _ _ && Nat.ble _ _ && Nat.blt 0 size) = c
        intro h
        cases c with
        | false => cases h
        | true =>
          simp only [cond_true] at h
          split at h
          · rw [cond_beq] at h
            split at h
            · cases h; simp [HS.new]
            · cases h
          · split at h
            · cases h; simp [HS.new]
            · revert h
              generalize (Nat.ble _ _ && Nat.beq _ size && Nat.beq _ _ && List.all news HV.one) = c2
              intro h
              cases c2 with
              | false => cases h
              | true => cases h; simp [HS.new, HS.upd]
            · cases h
  · cases h
theorem call_le (hle : ExLe ex) {fl : Nat} {f v : HV} {args : List HV} {σ σ' : HS} (h : callH lp ex fl f args σ = some (v, σ')) : σ.nx ≤ σ'.nx := by
  unfold callH at h
  split at h
  · exact callF_le hle h
  · exact round_le hle h
  · cases h
theorem keep_nx {σ σ' : HS} {r : Option HV} {v : HV} (h : keep σ r = some (v, σ')) : σ.nx ≤ σ'.nx := by
  obtain ⟨_, rfl⟩ := keep_some h; exact Nat.le_refl _
theorem op_le (hle : ExLe ex) {fl : Nat} {l : LOp} {a : HAct} {σ σ' : HS} {v : HV} (h : opH lp ex fl l a σ = some (v, σ')) : σ.nx ≤ σ'.nx := by
  cases l <;> simp only [opH] at h
  case move => cases h; exact Nat.le_refl _
  case pick => unfold oPick at h; split at h <;> cases h; exact Nat.le_refl _
  case alloc => cases h; simp [HS.new]
  case box => cases h; simp [HS.new]
  case build => unfold oBuild at h; split at h <;> cases h; exact Nat.le_refl _
  case buildSlice => unfold oBuildSlice at h; split at h <;> cases h; simp [HS.new]
  case load =>
    unfold oLoad at h
    split at h
    · split at h
      · exact keep_nx h
      · cases h
    · cases h
  case store =>
    unfold oStore at h
    split at h
    · rw [cond_beq] at h
      split at h
      · split at h
        · rename_i hw; cases h; rw [read_nx hw]; exact Nat.le_refl _
        · cases h
      · cases h
    · cases h
  case fieldAddr => unfold oFieldAddr at h; split at h <;> cases h; exact Nat.le_refl _
  case indexAddrS =>
    unfold oIndexAddrS at h
    split at h
    · obtain ⟨_, _, _, _, rfl⟩ := step_to h; exact Nat.le_refl _
    · cases h
  case indexAddrA =>
    unfold oIndexAddrA at h
    split at h
    · obtain ⟨_, _, _, _, rfl⟩ := step_to h; exact Nat.le_refl _
    · cases h
  case field => unfold oField at h; split at h <;> first | exact keep_nx h | cases h
  case indexA =>
    unfold oIndexA at h
    split at h
    · revert h
      generalize Nat.blt _ _ = c
      intro h
      cases c with
      | false => cases h
      | true => exact keep_nx h
    · cases h
  case bin => exact keep_nx h
  case eq => unfold oEq at h; split at h <;> cases h; exact Nat.le_refl _
  case un => exact keep_nx h
  case convInt => unfold oConvInt at h; split at h <;> cases h; exact Nat.le_refl _
  case makeFunc => cases h; exact Nat.le_refl _
  case makeMap => cases h; simp [HS.new]
  case makeSlice =>
    unfold oMakeSlice at h
    split at h
    · revert h
      generalize (Nat.ble _ _ && Nat.ble _ _ && Nat.ble _ _) = c
      intro h
      cases c with
      | false => cases h
      | true => cases h; simp [HS.new]
    · cases h
  case sliceS =>
    unfold oSliceS at h
    split at h
    · cases h; exact Nat.le_refl _
    · revert h
      generalize endH _ _ _ = c
      intro h
      cases c with
      | false => cases h
      | true => cases h; exact Nat.le_succ _
  case lookup =>
    unfold oLookup at h
    revert h
    generalize keyOk _ _ = c
    intro h
    cases c with
    | false => cases h
    | true =>
      simp only [cond_true] at h
      split at h
      · cases h; exact Nat.le_refl _
      · split at h
        · split at h
          · cases h; exact Nat.le_refl _
          · cases h; exact Nat.le_refl _
          · cases h
        · cases h
      · cases h
  case mapUpdate =>
    unfold oMapUpdate at h
    revert h
    generalize keyOk _ _ = c
    intro h
    cases c with
    | false => cases h
    | true =>
      simp only [cond_true] at h
      split at h
      · split at h
        · revert h
          generalize Nat.ble _ _ = c
          intro h
          cases c with
          | false => cases h
          | true =>
            simp only [cond_true] at h
            split at h
            · cases h; exact Nat.le_refl _
            · cases h
        · cases h
      · cases h
  case extract => unfold oExtract at h; split at h <;> first | exact keep_nx h | cases h
  case len => exact keep_nx h
  case cap => exact keep_nx h
  case min => exact keep_nx h
  case max => exact keep_nx h
  case append => exact append_le h
  case appendZ => unfold oAppendZ at h; split at h <;> first | (cases h; done) | (revert h; generalize (Nat.blt 0 _ && _ && _ && _) = c; intro h; cases c <;> cases h; exact Nat.le_succ _)
  case nilCheck => unfold oNilCheck at h; split at h <;> cases h <;> exact Nat.le_refl _
  case call => exact call_le hle h
  case bad => cases h
theorem vr_yield {ρ : Rho} {l : Nat} {V : Value} (h : VR ρ (.yield l) V) : ∃ r, ρ l = some r ∧ V = .func (.yield r.blk) #[] #[] := by
  cases h with
  | yield h => exact ⟨_, h, rfl⟩
theorem call_arg {A : Act} {g : Operand} {xs : Array Operand} : (xs.map A.eval).toList = xs.toList.map A.eval := by simp
theorem step_sound (hlp : LpOk P lp) (hle : ExLe ex) (hex : ExSound P ex) {o : Oper} {l : LOp} (hl : lowOp P o.op = some l) {fl : Nat} {a : HAct} {σ σ' : HS} {v : HV} (h : opH lp ex fl l a σ = some (v, σ')) (hd : Dom σ) :
    ∀ (base : Nat) (ρ : Rho) (A : Act) (W : World) (R : Option Nat) (next : Act → World → Prop) (Q : Exit → Act → World → Prop), In P base σ σ' ρ W → AR ρ a A →
      HFS fl σ σ' ∧ (Next1 P base fl σ σ' ρ A W o.dst v next → o.wpIn (FR R) 0 P A W next Q) := by
  intro base ρ A W R next Q hin ha
  have about : ∀ f, o.about P W A.eval = some f → (FR R).fn f := fun _ _ => trivial
  have sem : o.semAt R A.eval = execOp A.eval o := Oper.semAt_eq R A.eval o (low_no_defer hl)
  rcases op_any hl with hc | hp
  · obtain ⟨f, args, g, xs, ts, rfl, ho, hg, hxs⟩ := hc
    have h' : callH lp ex fl (a.ev f) (args.map a.ev) σ = some (v, σ') := h
    have vf := ev_ok ha hg
    have vx := evs_ok ha hxs
    unfold callH at h'
    split at h'
    · rename_i k first captured hf
      rw [hf] at vf
      obtain ⟨F, C, hV, hF, hC⟩ := vr_func vf
      have hargs : LR ρ (first ++ args.map a.ev ++ captured) (F.toArray ++ (xs.map A.eval) ++ C.toArray).toList := by
        have := LR.append (LR.append hF vx) hC
        simpa using this
      obtain ⟨g1, ⟨fn, q1, q2, q3⟩, g2⟩ := callF_sound hlp hle hex h' hd base ρ _ W hin hargs
      refine ⟨g1, fun hn => ⟨about, ?_⟩⟩
      have hrun : (o.semAt (FR R).round A.eval).run P W = .ok (.enter k (F.toArray ++ (xs.map A.eval) ++ C.toArray)) W := by
        show (o.semAt R A.eval).run P W = _
        rw [sem]
        simp [execOp, ho, resolve, hV, Deferred.ofValue, invoke, callFunc, q1]
        rw [if_neg (by intro e; rw [e] at q3; simp at q3), if_neg (by intro e; rw [e] at q2; cases q2)]
      rw [hrun]
      simp only [Oper.uponIn_enter]
      refine ⟨fun hdep => by simp [FR, Fence.wide] at hdep, ?_⟩
      have := g2.mono (R' := fun | .returned v, w'' => next (A.put o.dst v) w'' | .panicked chain, w'' => Q (.panic chain) A w'' | .outgrown, _ => LetsOut Q) (by
        rintro E W' ⟨V, ρ', rfl, hv, hp⟩
        exact hn V W' ρ' hv hp)
      cases R with
      | none => exact this
      | some r => exact CallsIn.inRound r this
    · rename_i k hf
      rw [hf] at vf
      obtain ⟨g1, r, L, hr, hw, hsz, g2⟩ := round_sound hle hex h' hd base ρ (xs.map A.eval) W R hin (by simpa using vx)
      have hV : A.eval g = .func (.yield r.blk) #[] #[] := by
        obtain ⟨r', hr', hV⟩ := vr_yield vf
        rw [hr] at hr'; cases hr'
        exact hV
      refine ⟨g1, fun hn => ⟨about, ?_⟩⟩
      have hrun : (o.semAt (FR R).round A.eval).run P W = .ok (.round r.blk L.fn ((L.params.zip (xs.map A.eval)).foldl (fun tmps (t, a) => tmps.setIfInBounds t a) L.tmps) L.assign L.body) W := by
        show (o.semAt R A.eval).run P W = _
        rw [sem]
        have := run_yield (P := P) (args := xs.map A.eval) hw hsz
        simp only [execOp, ho, resolve, hV, Deferred.ofValue, invoke, Sem.run_bind, Sem.run_pure, Result.andThen_ok, Array.empty_append]
        exact this
      rw [hrun]
      simp only [Oper.uponIn_round]
      refine ⟨fun hdep => by simp [FR, Fence.wide] at hdep, ?_⟩
      exact g2.mono (R' := fun | .returned v, w'' => next (A.put o.dst v) w'' | .panicked chain, w'' => Q (.panic chain) A w'' | .outgrown, _ => LetsOut Q) (by
        rintro E W' ⟨V, ρ', rfl, hv, hp⟩
        exact hn V W' ρ' hv hp)
    · cases h'
  · obtain ⟨g1, V, W', ρ', g2, g3, g4⟩ := hp lp ex fl a σ σ' v h hd base ρ A W hin.sim ha hin.low hin.fresh
    refine ⟨g1, fun hn => ⟨about, ?_⟩⟩
    show o.uponIn (FR R) 0 P A next Q ((o.semAt R A.eval).run P W)
    rw [sem]
    rcases g2 with g2 | ⟨g2, rfl⟩
    · rw [g2]; exact hn V W' ρ' g3 g4
    · rw [g2]; exact hn Go.undef W' ρ' g3 g4
end Go.Hx
