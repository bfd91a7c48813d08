/- The plain machine and Go's: every operation, calls among them. -/
import Derived.Test.YtldhaobimaodoaaH01
import Derived.Scope
set_option linter.all false
/- The plain machine and Go's: every operation, calls among them. -/
namespace Go.Hx
variable {P : Program} {lp : Nat → Option LFunc} {ex : Ex}

/-- What is walked comes somewhere. -/
theorem wpIn_some {R : Option Nat} {c : Code} {Q : Exit → Act → World → Prop} {A : Act} {W : World} (h : c.wpIn (FR R) 0 P Q A W) : ∃ E A' W', Q E A' W' := by
  obtain ⟨E, A', W', hq, _⟩ := h { (default : Frame) with roundOf := R } [] [] rfl trivial (fun _ hd => by simp [FR, Fence.wide] at hd)
  exact ⟨E, A', W', hq⟩
theorem begin_fl {fl l : Nat} {σ σ' : HS} (h : beginRoundH fl l σ = some σ') : fl ≤ l := by
  unfold beginRoundH at h
  split at h
  · split at h
    · cases hfl : Nat.ble fl l with
      | false => rw [hfl] at h; cases h
      | true => exact Nat.le_of_ble_eq_true hfl
    · cases h
  · cases h
theorem begin_nx {fl l : Nat} {σ σ' : HS} (h : beginRoundH fl l σ = some σ') : σ'.nx = σ.nx := by
  unfold beginRoundH at h
  split at h
  · split at h
    · cases hb : Nat.ble fl l with
      | false => rw [hb] at h; cases h
      | true => rw [hb] at h; cases h; rfl
    · cases h
  · cases h
theorem end_nx {l : Nat} {e : HExit} {σ σ' : HS} {v : HV} (h : endRoundH l e σ = some (v, σ')) : σ'.nx = σ.nx := by
  unfold endRoundH at h
  split at h
  · split at h <;> (cases h; rfl)
  · cases h
theorem round_some {fl l : Nat} {args : List HV} {σ σ' : HS} {v : HV} (h : roundH ex fl l args σ = some (v, σ')) :
    ∃ q tmps a1 σ1 σ2 e a3 σ3, σ.h.get l = some (.loop q) ∧ zipPut q.nt q.tmps q.params args = some tmps ∧ ex fl (some l) q.assign ⟨q.nt, tmps, []⟩ σ = some (.normal, a1, σ1) ∧ beginRoundH fl l σ1 = some σ2 ∧
      ex fl (some l) q.body a1 σ2 = some (e, a3, σ3) ∧ endRoundH l e σ3 = some (v, σ') := by
  unfold roundH at h
  split at h
  · rename_i q hq
    split at h
    · rename_i tmps hz
      split at h
      · rename_i a1 σ1 hx1
        split at h
        · rename_i σ2 hbg
          split at h
          · rename_i e a3 σ3 hx2
            exact ⟨q, tmps, a1, σ1, σ2, e, a3, σ3, hq, hz, hx1, hbg, hx2, h⟩
          · cases h
        · cases h
      · cases h
    · cases h
  · cases h
theorem round_le (hle : ExLe ex) {fl l : Nat} {args : List HV} {σ σ' : HS} {v : HV} (h : roundH ex fl l args σ = some (v, σ')) : σ.nx ≤ σ'.nx := by
  obtain ⟨q, tmps, a1, σ1, σ2, e, a3, σ3, h1, h2, h3, h4, h5, h6⟩ := round_some h
  have := hle _ _ _ _ _ _ _ _ h3
  have := hle _ _ _ _ _ _ _ _ h5
  have := begin_nx h4
  have := end_nx h6
  omega
theorem round_sound (hle : ExLe ex) (hex : ExSound P ex) {fl l : Nat} {args : List HV} {σ σ' : HS} {v : HV} (h : roundH ex fl l args σ = some (v, σ')) (hd : Dom σ) :
    ∀ (base : Nat) (ρ : Rho) (Args : Array Value) (W : World) (R : Option Nat), In P base σ σ' ρ W → LR ρ args Args.toList →
      HFS fl σ σ' ∧ ∃ (r : RI) (L : Loop), ρ l = some r ∧ W.heap[r.blk]? = some (.loop L) ∧ Args.size = L.params.size ∧
        RoundIn (FR R) 0 P r.blk L.fn ((L.params.zip Args).foldl (fun tmps (t, a) => tmps.setIfInBounds t a) L.tmps) L.assign L.body W
          (fun E W' => ∃ V ρ', E = .returned V ∧ VR ρ' v V ∧ PostS P base fl σ σ' ρ ρ' W W') := by
  obtain ⟨q, tmps, a1, σ1, σ2, e, a3, σ3, hq, hz, hx1, hbg, hx2, hend⟩ := round_some h
  intro base ρ Args W R hin hargs
  have le1 := hle _ _ _ _ _ _ _ _ hx1
  have le2 := hle _ _ _ _ _ _ _ _ hx2
  have nx2 := begin_nx hbg
  have nx4 := end_nx hend
  have hfl := begin_fl hbg
  obtain ⟨r, m, L, hr, hw, hb, hm, hdf, hl⟩ := hin.sim.ok _ _ hq
  have ha : q.assign = lowC P L.assign := hl.assign.symm
  have hbo : q.body = lowC P L.body := hl.body.symm
  rw [ha] at hx1
  rw [hbo] at hx2
  have htr : TR ρ q.nt q.tmps L.tmps := hl.tmps
  obtain ⟨hlen, htr'⟩ := zip_put q.params args q.nt q.tmps tmps L.tmps Args.toList hz htr hargs
  have hpar := hl.params
  have hsz : Args.size = L.params.size := by
    have e1 := hargs.1
    have e2 : L.params.toList.length = q.params.length := by rw [hpar]
    simp only [Array.length_toList] at e1 e2
    omega
  have hfold : ((L.params.zip Args).foldl (fun tmps (t, a) => tmps.setIfInBounds t a) L.tmps) = ((q.params.zip Args.toList).foldl (fun (t : Array Value) (p : Nat × Value) => t.setIfInBounds p.1 p.2) L.tmps) := by
    rw [← Array.foldl_toList, Array.toList_zip, hpar]
  have hA : AR ρ ⟨q.nt, tmps, []⟩ { tmps := ((L.params.zip Args).foldl (fun tmps (t, a) => tmps.setIfInBounds t a) L.tmps), defers := [] } :=
    ⟨by rw [hfold]; exact htr', rfl, fun m hm => by cases hm⟩
  obtain ⟨f1, w1⟩ := hex L.assign fl (some l) _ σ .normal a1 σ1 hx1 hd base ρ _ W (some r.blk) (hin.less (by omega)) hA ⟨r, hr, rfl⟩
  have d1 := f1.dom hd
  -- what follows says of the store what it says in each world; so it is asked where the first run leads
  have rest : ∀ (ρ1 : Rho) (A1 : Act) (W1 : World), PostS P base fl σ σ1 ρ ρ1 W W1 → AR ρ1 a1 A1 → HFS fl σ σ' ∧
      ∃ W2, (Instr.beginRound r.blk).run P W1 = .ok () W2 ∧ L.body.wpIn (FR (some r.blk)) 0 P (roundPost P r.blk (fun E W' => ∃ V ρ', E = .returned V ∧ VR ρ' v V ∧ PostS P base fl σ σ' ρ ρ' W W')) A1 W2 := by
    intro ρ1 A1 W1 p1 ar1
    obtain ⟨n2, f2, r2, W2, hr2, hrun2, p2⟩ := begin_ok hbg d1 p1.sim
    have hr1 := p1.ext _ _ hr
    rw [hr1] at hr2; cases hr2
    have d2 := f2.dom d1
    have hin2 : In P base σ2 σ3 ρ1 W2 := by
      have i1 : In P base σ1 σ' ρ1 W1 := hin.next p1 le1
      have i2 : In P base σ2 σ' ρ1 W2 := i1.next p2 (by omega)
      exact i2.less (by omega)
    obtain ⟨f3, w3⟩ := hex L.body fl (some l) a1 σ2 e a3 σ3 hx2 d2 base ρ1 A1 W2 (some r.blk) hin2 ar1 ⟨r, hr1, rfl⟩
    have d3 := f3.dom d2
    have f4 : HFS fl σ3 σ' := by
      unfold endRoundH at hend
      split at hend
      · rename_i q3 hq3
        split at hend <;> (cases hend; exact hf_upd hfl (d3 _ _ hq3) (HS.get_upd σ3 _ _))
      · cases hend
    refine ⟨((f1.trans f2).trans f3).trans f4, W2, hrun2, wpIn_mono w3 ?_⟩
    rintro E A3 W3 ⟨ρ3, p3, rfl, ar3⟩
    obtain ⟨n4, f4', r4, V, W4, hr4, hrun4, hv4, p4⟩ := end_ok hend hfl d3 p3.sim
    have hr3 := p3.ext _ _ hr1
    rw [hr3] at hr4; cases hr4
    have pall : PostS P base fl σ σ' ρ ρ3 W W4 := by
      have q1 := Post.trans f1.le f2.le p1 p2
      have q2 := Post.trans (f1.trans f2).le f3.le q1 p3
      exact Post.trans ((f1.trans f2).trans f3).le f4.le q2 p4
    cases e with
    | normal => exact ⟨V, W4, hrun4, V, ρ3, rfl, hv4, pall⟩
    | exit id => exact ⟨V, W4, hrun4, V, ρ3, rfl, hv4, pall⟩
    | ret => exact ⟨V, W4, hrun4, V, ρ3, rfl, hv4, pall⟩
  have hf : HFS fl σ σ' := by
    obtain ⟨E, A1, W1, ρ1, p1, _, ar1⟩ := wpIn_some w1
    exact (rest ρ1 A1 W1 p1 ar1).1
  refine ⟨hf, r, L, hr, hw, hsz, roundIn_of_wpIn trivial (wpIn_mono w1 ?_)⟩
  rintro E A1 W1 ⟨ρ1, p1, rfl, ar1⟩
  obtain ⟨_, W2, g1, g2⟩ := rest ρ1 A1 W1 p1 ar1
  exact ⟨W2, g1, g2⟩

/-! operations -/
def Next1 (P : Program) (base fl : Nat) (σ σ' : HS) (ρ : Rho) (A : Act) (W : World) (dst : Option Nat) (v : HV) (next : Act → World → Prop) : Prop :=
  ∀ (V : Value) (W' : World) (ρ' : Rho), VR ρ' v V → PostS P base fl σ σ' ρ ρ' W W' → next (A.put dst V) W'
theorem read_nx {fl : Nat} {a : Nat × Nat} {vs : List HV} {σ σ' : HS} (h : σ.write fl a vs = some σ') : σ'.nx = σ.nx := by
  unfold HS.write at h
  split at h
  · cases h
  · cases hc : (Nat.ble fl a.1 && vs.all HV.one) with
    | false => rw [hc] at h; cases h
    | true =>
      rw [hc] at h
      simp only [cond_true, Option.map_eq_some_iff] at h
      obtain ⟨cs', _, rfl⟩ := h
      rfl
  · cases h
theorem copy_le {fl size : Nat} {d s v : HV} {σ σ' : HS} (h : copyH fl σ size d s = some (v, σ')) : σ.nx ≤ σ'.nx := by
  unfold copyH at h
  split at h
  · split at h
    · cases h
    · split at h
      · cases h; exact Nat.le_refl _
      · cases h
      · simp only [Option.map_eq_some_iff] at h
        obtain ⟨σ1, hw, he⟩ := h
        cases he
        rw [read_nx hw]; exact Nat.le_refl _
  · cases h
theorem append_le {fl size bytes : Nat} {s x v : HV} {σ σ' : HS} (h : appendH fl σ size bytes s x = some (v, σ')) : σ.nx ≤ σ'.nx := by
  unfold appendH at h
  split at h
  · split at h
    · cases h
    · rename_i news _
      cases h1 : Nat.ble _ _ with
      | true =>
        rw [h1] at h
        simp only [cond_true] at h
        split at h
        · cases h; exact Nat.le_refl _
        · cases h
        · simp only [Option.map_eq_some_iff] at h
          obtain ⟨σ1, hw, he⟩ := h
          cases he
          rw [read_nx hw]; exact Nat.le_refl _
      | false =>
        rw [h1] at h
        simp only [cond_false] at h
        revert h
        generalize (Nat.ble _ _ && Nat.ble _ _ && Nat.blt 0 size) = c
        intro h
        cases c with
        | false => cases h
        | true =>
          simp only [cond_true] at h
          split at h
          · rw [cond_beq] at h
            split at h
            · cases h; simp [HS.new]
            · cases h
          · split at h
            · cases h; simp [HS.new]
            · revert h
              generalize (Nat.ble _ _ && Nat.beq _ size && Nat.beq _ _ && List.all news HV.one) = c2
              intro h
              cases c2 with
              | false => cases h
              | true => cases h; simp [HS.new, HS.upd]
            · cases h
  · cases h
theorem call_le (hle : ExLe ex) {fl : Nat} {f v : HV} {args : List HV} {σ σ' : HS} (h : callH lp ex fl f args σ = some (v, σ')) : σ.nx ≤ σ'.nx := by
  unfold callH at h
  split at h
  · exact callF_le hle h
  · exact round_le hle h
  · unfold callV at h
    split at h
    · exact callF_le hle h
    · cases h
  · cases h
theorem keep_nx {σ σ' : HS} {r : Option HV} {v : HV} (h : keep σ r = some (v, σ')) : σ.nx ≤ σ'.nx := by
  obtain ⟨_, rfl⟩ := keep_some h; exact Nat.le_refl _
theorem op_le (hle : ExLe ex) {fl : Nat} {l : LOp} {a : HAct} {σ σ' : HS} {v : HV} (h : opH lp ex fl l a σ = some (v, σ')) : σ.nx ≤ σ'.nx := by
  cases l <;> simp only [opH] at h
  case move => cases h; exact Nat.le_refl _
  case pick => unfold oPick at h; split at h <;> cases h; exact Nat.le_refl _
  case alloc => cases h; simp [HS.new]
  case box => cases h; simp [HS.new]
  case build => unfold oBuild at h; split at h <;> cases h; exact Nat.le_refl _
  case buildSlice => unfold oBuildSlice at h; split at h <;> cases h; simp [HS.new]
  case load =>
    unfold oLoad at h
    split at h
    · split at h
      · exact keep_nx h
      · cases h
    · cases h
  case store =>
    unfold oStore at h
    split at h
    · rw [cond_beq] at h
      split at h
      · split at h
        · rename_i hw; cases h; rw [read_nx hw]; exact Nat.le_refl _
        · cases h
      · cases h
    · cases h
  case fieldAddr => unfold oFieldAddr at h; split at h <;> cases h; exact Nat.le_refl _
  case indexAddrS =>
    unfold oIndexAddrS at h
    split at h
    · obtain ⟨_, _, _, _, rfl⟩ := step_to h; exact Nat.le_refl _
    · cases h
  case indexAddrA =>
    unfold oIndexAddrA at h
    split at h
    · obtain ⟨_, _, _, _, rfl⟩ := step_to h; exact Nat.le_refl _
    · cases h
  case field => unfold oField at h; split at h <;> first | exact keep_nx h | cases h
  case indexA =>
    unfold oIndexA at h
    split at h
    · revert h
      generalize Nat.blt _ _ = c
      intro h
      cases c with
      | false => cases h
      | true => exact keep_nx h
    · cases h
  case bin => exact keep_nx h
  case eq => unfold oEq at h; split at h <;> cases h; exact Nat.le_refl _
  case un => exact keep_nx h
  case convInt => unfold oConvInt at h; split at h <;> cases h; exact Nat.le_refl _
  case makeFunc => cases h; exact Nat.le_refl _
  case makeMap => cases h; simp [HS.new]
  case makeSlice =>
    unfold oMakeSlice at h
    split at h
    · revert h
      generalize (Nat.ble _ _ && Nat.ble _ _ && Nat.ble _ _) = c
      intro h
      cases c with
      | false => cases h
      | true => cases h; simp [HS.new]
    · cases h
  case sliceS =>
    unfold oSliceS at h
    split at h
    · cases h; exact Nat.le_refl _
    · revert h
      generalize endH _ _ _ = c
      intro h
      cases c with
      | false => cases h
      | true => cases h; exact Nat.le_succ _
  case sliceA => exact keep_nx h
  case copy => exact copy_le h
  case lookup =>
    unfold oLookup at h
    revert h
    generalize keyOk _ _ = c
    intro h
    cases c with
    | false => cases h
    | true =>
      simp only [cond_true] at h
      split at h
      · cases h; exact Nat.le_refl _
      · split at h
        · split at h
          · cases h; exact Nat.le_refl _
          · cases h; exact Nat.le_refl _
          · cases h
        · cases h
      · cases h
  case mapUpdate =>
    unfold oMapUpdate at h
    revert h
    generalize keyOk _ _ = c
    intro h
    cases c with
    | false => cases h
    | true =>
      simp only [cond_true] at h
      split at h
      · split at h
        · revert h
          generalize Nat.ble _ _ = c
          intro h
          cases c with
          | false => cases h
          | true =>
            simp only [cond_true] at h
            split at h
            · cases h; exact Nat.le_refl _
            · cases h
        · cases h
      · cases h
  case extract => unfold oExtract at h; split at h <;> first | exact keep_nx h | cases h
  case len => exact keep_nx h
  case cap => exact keep_nx h
  case min => exact keep_nx h
  case max => exact keep_nx h
  case append => exact append_le h
  case appendZ => unfold oAppendZ at h; split at h <;> first | (cases h; done) | (revert h; generalize (Nat.blt 0 _ && _ && _ && _) = c; intro h; cases c <;> cases h; exact Nat.le_succ _)
  case nilCheck => unfold oNilCheck at h; split at h <;> cases h <;> exact Nat.le_refl _
  case call => exact call_le hle h
  case callC =>
    unfold oCallC at h
    split at h
    · rename_i v1 σ1 h1
      revert h
      generalize chkH _ _ _ = c
      intro h
      cases c with
      | false => cases h
      | true => cases h; exact call_le hle h1
    · cases h
  case storeC n x v' cs =>
    unfold oStoreC at h
    split at h
    · rename_i v1 σ1 h1
      revert h
      generalize chkH _ _ _ = c
      intro h
      cases c with
      | false => cases h
      | true =>
        cases h
        unfold oStore at h1
        split at h1
        · rw [cond_beq] at h1
          split at h1
          · split at h1
            · rename_i hw; cases h1; rw [read_nx hw]; exact Nat.le_refl _
            · cases h1
          · cases h1
        · cases h1
    · cases h
  case raw => cases h
theorem vr_yield {ρ : Rho} {l : Nat} {V : Value} (h : VR ρ (.yield l) V) : ∃ r, ρ l = some r ∧ V = .func (.yield r.blk) #[] #[] := by
  cases h with
  | yield h => exact ⟨_, h, rfl⟩
theorem vr_via {ρ : Rho} {t : TypeId} {name : String} {f : Nat} {V : Value} (h : VR ρ (.via t name f) V) : V = .func (.methodOf t name) #[] #[] := by
  cases h with
  | via t name f => rfl
theorem via_of (hlp : LpOk P lp) {f off t : Nat} {name : String} (h : viaOf lp f t name = some off) : viaOff P t name = some (f, off) := by
  unfold viaOf at h
  split at h
  · rename_i lf hlf
    split at h
    · rename_i g off' hv
      cases hb : Nat.beq g f with
      | false => rw [hb] at h; cases h
      | true =>
        rw [hb] at h
        cases h
        have := Nat.eq_of_beq_eq_true hb
        subst this
        exact (hlp g lf hlf).2.2 t name _ hv
    · cases h
  · cases h
theorem run_follow {W : World} : ∀ (path : List FieldStep) (t : TypeId) (a b : Nat) (o off : Nat), viaRest P path t a = some off → ∃ xt, (follow path t (.var ⟨b, o + a, none⟩)).run P W = .ok (xt, .var ⟨b, o + off, none⟩) W ∧ (receiverAt xt (.var ⟨b, o + off, none⟩) true none).run P W = .ok (.pointer (some ⟨b, o + off, none⟩)) W
  | [], t, a, b, o, off, h => by
    unfold viaRest at h
    split at h
    · cases h
    · rename_i u hne hu
      cases h
      refine ⟨t, by simp [follow], ?_⟩
      unfold receiverAt
      simp only [Sem.run_bind, run_under hu, Result.andThen_ok]
      cases u
      case pointer e => exact (hne e rfl).elim
      all_goals rw [Sem.run_pure]
    · cases h
  | s :: rest, t, a, b, o, off, h => by
    unfold viaRest at h
    cases hd : s.deref with
    | true => rw [hd] at h; cases h
    | false =>
      rw [hd] at h
      simp only [cond_false] at h
      split at h
      · rename_i fs hu
        split at h
        · rename_i fd hf
          split at h
          · rename_i m hz
            obtain ⟨i, hi, hi2⟩ := info_size hz
            obtain ⟨xt, h1, h2⟩ := run_follow (W := W) rest fd.type (a + fd.offset) b o off h
            refine ⟨xt, ?_, h2⟩
            simp [follow, run_under hu, hf, hd, fieldPlace, run_size hi, hi2, add_none, Nat.add_assoc]
            exact h1
          · cases h
        · cases h
      · cases h
theorem run_path {W : World} {t : TypeId} {path : Array FieldStep} {b o off : Nat} (h : viaPath P path.toList = some off) : ∃ xt x, (follow path.toList t (.val (.pointer (some ⟨b, o, none⟩)))).run P W = .ok (xt, x) W ∧ (receiverAt xt x true none).run P W = .ok (.pointer (some ⟨b, o + off, none⟩)) W ∧ path.isEmpty = false := by
  have he : path.isEmpty = path.toList.isEmpty := by simp [Array.isEmpty_toList]
  rw [he]
  generalize path.toList = p at h
  cases p with
  | nil => cases h
  | cons s rest =>
    unfold viaPath at h
    dsimp only at h
    cases hd : s.deref with
    | false => rw [hd] at h; cases h
    | true =>
      rw [hd] at h
      simp only [cond_true] at h
      split at h
      · rename_i fs hu
        split at h
        · rename_i fd hf
          split at h
          · rename_i m hz
            obtain ⟨i, hi, hi2⟩ := info_size hz
            obtain ⟨xt, h1, h2⟩ := run_follow (P := P) (W := W) rest fd.type fd.offset b o off h
            refine ⟨xt, _, ?_, h2, rfl⟩
            simp [follow, run_under hu, hf, hd, fieldPlace, run_size hi, hi2, add_none, Place.get, asAddr, h1]
          · cases h
        · cases h
      · cases h
theorem run_via {W : World} {t : TypeId} {name : String} {f b o off : Nat} (h : viaOff P t name = some (f, off)) (n : Nat) : (method (n + 1) t (.pointer (some ⟨b, o, none⟩)) name).run P W = .ok (f, .pointer (some ⟨b, o + off, none⟩)) W ∧ ∃ e, P.underlying t = some (.pointer e) := by
  unfold viaOff at h
  split at h
  · rename_i e hu
    split at h
    · rename_i m hm
      split at h
      · rename_i g hg
        simp only [Option.map_eq_some_iff, Prod.mk.injEq] at h
        obtain ⟨o', h1, rfl, rfl⟩ := h
        obtain ⟨i, hi, hf⟩ := Option.bind_eq_some_iff.1 hm
        obtain ⟨xt, x, p1, p2, p3⟩ := run_path (P := P) (W := W) (t := t) (b := b) (o := o) h1
        have p4 : m.path ≠ #[] := by intro e; rw [e] at p3; cases p3
        refine ⟨?_, e, hu⟩
        simp [method, run_info hi, hf, hg, p1, p2, p4]
      · cases h
    · cases h
  · cases h
theorem step_sound (hlp : LpOk P lp) (hle : ExLe ex) (hex : ExSound P ex) {o : Oper} {l : LOp} (hl : lowOp P o.op = some l) {fl : Nat} {a : HAct} {σ σ' : HS} {v : HV} (h : opH lp ex fl l a σ = some (v, σ')) (hd : Dom σ) :
    ∀ (base : Nat) (ρ : Rho) (A : Act) (W : World) (R : Option Nat) (next : Act → World → Prop) (Q : Exit → Act → World → Prop), In P base σ σ' ρ W → AR ρ a A →
      HFS fl σ σ' ∧ (Next1 P base fl σ σ' ρ A W o.dst v next → o.wpIn (FR R) 0 P A W next Q) := by
  intro base ρ A W R next Q hin ha
  have about : ∀ f, o.about P W A.eval = some f → (FR R).fn f := fun _ _ => trivial
  have sem : o.semAt R A.eval = execOp A.eval o := Oper.semAt_eq R A.eval o (low_no_defer hl)
  rcases op_any hl with hc | hp
  · obtain ⟨f, args, g, xs, ts, rfl, ho, hg, hxs⟩ := hc
    have h' : callH lp ex fl (a.ev f) (args.map a.ev) σ = some (v, σ') := h
    have vf := ev_ok ha hg
    have vx := evs_ok ha hxs
    unfold callH at h'
    split at h'
    · rename_i k first captured hf
      rw [hf] at vf
      obtain ⟨F, C, hV, hF, hC⟩ := vr_func vf
      have hargs : LR ρ (first ++ args.map a.ev ++ captured) (F.toArray ++ (xs.map A.eval) ++ C.toArray).toList := by
        have := LR.append (LR.append hF vx) hC
        simpa using this
      obtain ⟨g1, ⟨fn, q1, q2, q3⟩, g2⟩ := callF_sound hlp hle hex h' hd base ρ _ W hin hargs
      refine ⟨g1, fun hn => ⟨about, ?_⟩⟩
      have hrun : (o.semAt (FR R).round A.eval).run P W = .ok (.enter k (F.toArray ++ (xs.map A.eval) ++ C.toArray)) W := by
        show (o.semAt R A.eval).run P W = _
        rw [sem]
        simp [execOp, ho, resolve, hV, Deferred.ofValue, invoke, callFunc, q1]
        rw [if_neg (by intro e; rw [e] at q3; simp at q3), if_neg (by intro e; rw [e] at q2; cases q2)]
      rw [hrun]
      simp only [Oper.uponIn_enter]
      refine ⟨fun hdep => by simp [FR, Fence.wide] at hdep, ?_⟩
      have := g2.mono (R' := fun | .returned v, w'' => next (A.put o.dst v) w'' | .panicked chain, w'' => Q (.panic chain) A w'' | .outgrown, _ => LetsOut Q) (by
        rintro E W' ⟨V, ρ', rfl, hv, hp⟩
        exact hn V W' ρ' hv hp)
      cases R with
      | none => exact this
      | some r => exact CallsIn.inRound r this
    · rename_i k hf
      rw [hf] at vf
      obtain ⟨g1, r, L, hr, hw, hsz, g2⟩ := round_sound hle hex h' hd base ρ (xs.map A.eval) W R hin (by simpa using vx)
      have hV : A.eval g = .func (.yield r.blk) #[] #[] := by
        obtain ⟨r', hr', hV⟩ := vr_yield vf
        rw [hr] at hr'; cases hr'
        exact hV
      refine ⟨g1, fun hn => ⟨about, ?_⟩⟩
      have hrun : (o.semAt (FR R).round A.eval).run P W = .ok (.round r.blk L.fn ((L.params.zip (xs.map A.eval)).foldl (fun tmps (t, a) => tmps.setIfInBounds t a) L.tmps) L.assign L.body) W := by
        show (o.semAt R A.eval).run P W = _
        rw [sem]
        have := run_yield (P := P) (args := xs.map A.eval) hw hsz
        simp only [execOp, ho, resolve, hV, Deferred.ofValue, invoke, Sem.run_bind, Sem.run_pure, Result.andThen_ok, Array.empty_append]
        exact this
      rw [hrun]
      simp only [Oper.uponIn_round]
      refine ⟨fun hdep => by simp [FR, Fence.wide] at hdep, ?_⟩
      exact g2.mono (R' := fun | .returned v, w'' => next (A.put o.dst v) w'' | .panicked chain, w'' => Q (.panic chain) A w'' | .outgrown, _ => LetsOut Q) (by
        rintro E W' ⟨V, ρ', rfl, hv, hp⟩
        exact hn V W' ρ' hv hp)
    · rename_i t name k hf
      rw [hf] at vf
      have hV := vr_via vf
      unfold callV at h'
      split at h'
      · rename_i off b q rest e1 e2
        have e3 := via_of hlp e1
        rw [e2] at vx
        obtain ⟨X, XS, hX, v1, v2⟩ := LR.inv vx
        obtain ⟨r, hr, rfl⟩ := vr_ptr v1
        have hY : xs.map A.eval = (Value.pointer (some ⟨r.blk, r.off + q, none⟩) :: XS).toArray := by
          apply Array.ext'
          rw [Array.toList_map]
          exact hX
        have hargs : LR ρ (.ptr (some (b, q + off)) :: rest) (#[Value.pointer (some ⟨r.blk, r.off + (q + off), none⟩)] ++ (xs.map A.eval).extract 1 (xs.map A.eval).size).toList := by
          have e4 : ((xs.map A.eval).extract 1 (xs.map A.eval).size).toList = XS := by rw [hY]; simp
          rw [Array.toList_append, e4]
          exact LR.cons (.ptr hr) v2
        obtain ⟨g1, ⟨fn, q1, q2, q3⟩, g2⟩ := callF_sound hlp hle hex h' hd base ρ _ W hin hargs
        refine ⟨g1, fun hn => ⟨about, ?_⟩⟩
        have h0 : (xs.map A.eval)[0]? = some (Value.pointer (some ⟨r.blk, r.off + q, none⟩)) := by
          rw [hY]; rfl
        have hrun : (o.semAt (FR R).round A.eval).run P W = .ok (.enter k (#[Value.pointer (some ⟨r.blk, r.off + (q + off), none⟩)] ++ (xs.map A.eval).extract 1 (xs.map A.eval).size)) W := by
          show (o.semAt R A.eval).run P W = _
          rw [sem]
          obtain ⟨e5, e, e6⟩ := run_via (P := P) (W := W) (t := t) (b := r.blk) (o := r.off + q) e3 (P.types.size + Made.depth - 1)
          have e7 : P.types.size + Made.depth - 1 + 1 = P.types.size + Made.depth := Nat.succ_pred_eq_of_pos (Nat.lt_of_lt_of_le (by decide) (Nat.le_add_left Made.depth _))
          rw [e7] at e5
          simp [execOp, ho, resolve, hV, Deferred.ofValue, invoke, callMethod, callFunc, q1, h0, run_under e6, e5, Nat.add_assoc]
          rw [if_neg (by intro e; rw [e] at q3; simp at q3), if_neg (by intro e; rw [e] at q2; cases q2)]
        rw [hrun]
        simp only [Oper.uponIn_enter]
        refine ⟨fun hdep => by simp [FR, Fence.wide] at hdep, ?_⟩
        have := g2.mono (R' := fun | .returned v, w'' => next (A.put o.dst v) w'' | .panicked chain, w'' => Q (.panic chain) A w'' | .outgrown, _ => LetsOut Q) (by
          rintro E W' ⟨V, ρ', rfl, hv, hp⟩
          exact hn V W' ρ' hv hp)
        cases R with
        | none => exact this
        | some r => exact CallsIn.inRound r this
      · cases h'
    · cases h'
  · obtain ⟨g1, V, W', ρ', g2, g3, g4⟩ := hp lp ex fl a σ σ' v h hd base ρ A W hin.sim ha hin.low hin.fresh
    refine ⟨g1, fun hn => ⟨about, ?_⟩⟩
    show o.uponIn (FR R) 0 P A next Q ((o.semAt R A.eval).run P W)
    rw [sem]
    rcases g2 with g2 | ⟨g2, rfl⟩
    · rw [g2]; exact hn V W' ρ' g3 g4
    · rw [g2]; exact hn Go.undef W' ρ' g3 g4
end Go.Hx

/- The plain machine and Go's: a region in the order of its text; whole codes. -/
namespace Go.Hx
variable {P : Program} {lp : Nat → Option LFunc} {ex : Ex}

/-- What one operation of a region puts into its slot, and where it leads. -/
noncomputable def stepVal (lp : Nat → Option LFunc) (ex : Ex) (fl : Nat) (o : LOper) (a : HAct) (σ : HS) : Option (HV × HS) :=
  bif wantedH o.g a then opH lp ex fl o.op a σ else some (.undef, σ)
theorem step_val {fl : Nat} {o : LOper} {a a' : HAct} {σ σ' : HS} (h : stepOp lp ex fl o a σ = some (a', σ')) : ∃ v, stepVal lp ex fl o a σ = some (v, σ') ∧ a' = a.put o.dst v := by
  unfold stepOp at h
  unfold stepVal
  cases hw : wantedH o.g a with
  | true =>
    rw [hw] at h
    simp only [cond_true] at h ⊢
    split at h
    · rename_i v σ1 h1; cases h; exact ⟨v, h1, rfl⟩
    · cases h
  | false =>
    rw [hw] at h
    cases h
    exact ⟨.undef, rfl, rfl⟩
theorem stepVal_le (hle : ExLe ex) {fl : Nat} {o : LOper} {a : HAct} {σ σ' : HS} {v : HV} (h : stepVal lp ex fl o a σ = some (v, σ')) : σ.nx ≤ σ'.nx := by
  unfold stepVal at h
  cases hw : wantedH o.g a with
  | true => rw [hw] at h; exact op_le hle h
  | false => rw [hw] at h; cases h; exact Nat.le_refl _
theorem guard_ok {ops : Array Oper} {o : Oper} {g : Option (Nat × Bool)} {ρ : Rho} {a : HAct} {A : Act} (hg : lowGuard ops o.guard = some g) (ha : AR ρ a A) : wantedH g a = Region.wanted o (yielded ops A.tmps) := by
  unfold lowGuard at hg
  unfold Region.wanted
  split at hg
  · rename_i h; cases hg; rw [h]; rfl
  · rename_i j want h
    simp only [Option.map_eq_some_iff] at hg
    obtain ⟨d, hd, rfl⟩ := hg
    rw [h]
    simp only [wantedH]
    have hv := ha.tmp d
    simp only [yielded, hd, Option.bind_some]
    have hget : A.tmps.getD d Go.undef = (A.tmps[d]?).getD Go.undef := by rw [Array.getD_eq_getD_getElem?]
    rw [hget] at hv
    cases hb : A.tmps[d]? with
    | none =>
      rw [hb] at hv
      generalize a.tmp d = x at hv
      cases hv <;> rfl
    | some V =>
      rw [hb] at hv
      simp only [Option.getD_some] at hv
      generalize a.tmp d = x at hv
      cases hv <;> simp
theorem val_sound (hlp : LpOk P lp) (hle : ExLe ex) (hex : ExSound P ex) {ops : Array Oper} {i : Nat} {o : Oper} (hi : ops[i]? = some o) {fl : Nat} {a : HAct} {σ σ' : HS} {v : HV} (h : stepVal lp ex fl (lowOper P ops o) a σ = some (v, σ')) (hd : Dom σ) :
    ∀ (base : Nat) (ρ : Rho) (A : Act) (W : World) (R : Option Nat) (K : Act → World → Prop) (Q : Exit → Act → World → Prop), In P base σ σ' ρ W → AR ρ a A →
      HFS fl σ σ' ∧ (Next1 P base fl σ σ' ρ A W o.dst v K → wpOpIn (FR R) 0 P ops Q i K A W) := by
  intro base ρ A W R K Q hin ha
  unfold lowOper at h
  split at h
  · rename_i g hg
    unfold stepVal at h
    have hw := guard_ok hg ha
    unfold wpOpIn
    rw [hi]
    simp only
    rw [← hw]
    cases hwv : wantedH g a with
    | false =>
      simp only [hwv, cond_false] at h
      cases h
      refine ⟨HF.refl _ _ _, fun hn => ?_⟩
      simp only [Bool.false_eq_true, if_false]
      exact ⟨fun _ _ => trivial, hn Go.undef W ρ (VR.undef ρ) (Post.refl hin.sim)⟩
    | true =>
      simp only [hwv, cond_true] at h
      simp only [if_true]
      cases hl : lowOp P o.op with
      | none => rw [hl] at h; cases h
      | some l =>
        rw [hl] at h
        exact step_sound hlp hle hex hl h hd base ρ A W R K Q hin ha
  · unfold stepVal at h
    simp only [wantedH, cond_true] at h
    cases h
/-- What is walked comes somewhere: of an operation. -/
theorem wpOpIn_const {R : Option Nat} {ops : Array Oper} {i : Nat} {A : Act} {W : World} {p : Prop} (h : wpOpIn (FR R) 0 P ops (fun _ _ _ => p) i (fun _ _ => p) A W) : p := by
  have h' : wpOpsIn (FR R) 0 P ops (fun _ _ _ => p) [i] A W := by rw [wpOpsIn_cons]; exact h
  obtain ⟨_, _, _, hp, _⟩ := wp_opsIn [i] A W h' { (default : Frame) with roundOf := R } [] [] rfl trivial (fun _ hd => by simp [FR, Fence.wide] at hd)
  exact hp
theorem runOps_le (hle : ExLe ex) {fl : Nat} : ∀ (l : List LOper) (a a' : HAct) (σ σ' : HS), runOps lp ex fl l a σ = some (a', σ') → σ.nx ≤ σ'.nx
  | [], a, a', σ, σ', h => by cases h; exact Nat.le_refl _
  | o :: os, a, a', σ, σ', h => by
    unfold runOps at h
    split at h
    · rename_i a1 σ1 h1
      obtain ⟨v, hv, _⟩ := step_val h1
      exact Nat.le_trans (stepVal_le hle hv) (runOps_le hle os a1 a' σ1 σ' h)
    · cases h
theorem runOps_sound (hlp : LpOk P lp) (hle : ExLe ex) (hex : ExSound P ex) {ops : Array Oper} {fl : Nat} : ∀ (m k : Nat) (a a' : HAct) (σ σ' : HS), k + m = ops.size → runOps lp ex fl ((ops.toList.drop k).map (lowOper P ops)) a σ = some (a', σ') → Dom σ →
    ∀ (base : Nat) (ρ : Rho) (A : Act) (W : World) (R : Option Nat) (Q : Exit → Act → World → Prop), In P base σ σ' ρ W → AR ρ a A →
      HFS fl σ σ' ∧ ((∀ A' W' ρ', AR ρ' a' A' → PostS P base fl σ σ' ρ ρ' W W' → Q .normal A' W') → wpOpsIn (FR R) 0 P ops Q (List.range' k m) A W)
  | 0, k, a, a', σ, σ', hk, h, hd, base, ρ, A, W, R, Q, hin, ha => by
    have : ops.toList.drop k = [] := by apply List.drop_eq_nil_of_le; simp; omega
    rw [this] at h
    cases h
    exact ⟨HF.refl _ _ _, fun hn => hn A W ρ ha (Post.refl hin.sim)⟩
  | m + 1, k, a, a', σ, σ', hk, h, hd, base, ρ, A, W, R, Q, hin, ha => by
    have hlt : k < ops.toList.length := by simp; omega
    rw [List.drop_eq_getElem_cons hlt] at h
    simp only [List.map_cons] at h
    unfold runOps at h
    split at h
    · rename_i a1 σ1 h1
      obtain ⟨v, hv, rfl⟩ := step_val h1
      have hi : ops[k]? = some ops.toList[k] := by simp at hlt ⊢
      have le1 := stepVal_le hle hv
      have le2 := runOps_le hle _ _ _ _ _ h
      have hdst : (lowOper P ops ops.toList[k]).dst = ops.toList[k].dst := by unfold lowOper; split <;> rfl
      have hin1 : In P base σ σ1 ρ W := hin.less le2
      -- the rest, wherever the first operation leads
      have rest : ∀ (V : Value) (W' : World) (ρ' : Rho), VR ρ' v V → HFS fl σ σ1 → PostS P base fl σ σ1 ρ ρ' W W' → HFS fl σ σ' ∧ ((∀ A' W' ρ', AR ρ' a' A' → PostS P base fl σ σ' ρ ρ' W W' → Q .normal A' W') → wpOpsIn (FR R) 0 P ops Q (List.range' (k + 1) m) (A.put ops.toList[k].dst V) W') := by
        intro V W' ρ' hv' f1 p1
        have ar1 : AR ρ' (a.put (lowOper P ops ops.toList[k]).dst v) (A.put ops.toList[k].dst V) := by rw [hdst]; exact (ha.mono p1.ext).put hv' _
        obtain ⟨f2, w2⟩ := runOps_sound hlp hle hex m (k + 1) _ a' σ1 σ' (by omega) h (f1.dom hd) base ρ' _ W' R Q (hin.next p1 le1) ar1
        exact ⟨f1.trans f2, fun hn => w2 fun A'' W'' ρ'' har hp => hn A'' W'' ρ'' har (Post.trans f1.le f2.le p1 hp)⟩
      obtain ⟨f1, _⟩ := val_sound hlp hle hex hi hv hd base ρ A W R (fun _ _ => True) Q hin1 ha
      have hff : HFS fl σ σ' := by
        obtain ⟨_, w⟩ := val_sound hlp hle hex hi hv hd base ρ A W R (fun _ _ => HFS fl σ σ') (fun _ _ _ => HFS fl σ σ') hin1 ha
        exact wpOpIn_const (w (fun V W' ρ' hv' p1 => (rest V W' ρ' hv' f1 p1).1))
      refine ⟨hff, fun hn => ?_⟩
      rw [List.range'_succ, wpOpsIn_cons]
      exact (val_sound hlp hle hex hi hv hd base ρ A W R _ Q hin1 ha).2 fun V W' ρ' hv' p1 => (rest V W' ρ' hv' f1 p1).2 hn
    · cases h

/-! whole codes -/
section scope
variable {b : Frame} {a : Act} {k : List Item} {cs : List Frame} {w : World}
theorem stepR_scope {c : Code} : step P (lone (b.atR a (.code (.scope c) :: k)) cs w) = .next (lone (b.atR a (.code c :: .inScope c :: k)) cs w) :=
  step_lone_go (by simp [stepG, stepG.exec, Frame.atR])
theorem stepR_inScope {c : Code} : step P (lone (b.atR a (.inScope c :: k)) cs w) = .next (lone (b.atR a k) cs w) :=
  step_lone_go (by simp [stepG, stepG.exec, Frame.atR])
end scope
theorem wpIn_scope {F : Fence} {n : Nat} {c : Code} {Q : Exit → Act → World → Prop} {a : Act} {w : World} (h : c.wpIn F n P (Exit.noGoto Q) a w) : (Code.scope c).wpIn F n P Q a w := by
  intro b k cs hro hb hr
  have h0 : (lone (b.atR a (.code (.scope c) :: k)) cs w).fenced P F := fenced_calm hb hr rfl
  obtain ⟨e, a₁, w₁, hq, harr⟩ := h b (.inScope c :: k) cs hro hb hr
  cases e with
  | normal => exact ⟨.normal, a₁, w₁, hq, .head h0 stepR_scope (StepsIn.trans harr (.one (fenced_calm hb hr rfl) stepR_inScope))⟩
  | exit id =>
    have hx : exitTo id (.inScope c :: k) = exitTo id k := by simp [exitTo]
    exact ⟨.exit id, a₁, w₁, hq, fun k' hk => .head h0 stepR_scope (harr.1 k' (by rw [hx]; exact hk)),
      fun hr' hk => let ⟨k₁, h1, h2⟩ := harr.2 hr' (by rw [hx]; exact hk); ⟨k₁, h1, .head h0 stepR_scope h2⟩⟩
  | goto l => exact hq.elim
  | ret => exact ⟨_, a₁, w₁, hq, .of_steps (.one h0 stepR_scope) harr⟩
  | panic ch => exact ⟨_, a₁, w₁, hq, .of_steps (.one h0 stepR_scope) harr⟩
  | outgrown => exact ⟨_, a₁, w₁, hq, .of_steps (.one h0 stepR_scope) harr⟩
theorem exec_le (n : Nat) : (∀ fl s ops (a a' : HAct) (σ σ' : HS), ExLe (exec lp n) → drawOps lp (exec lp n) fl s σ.nx σ.h ops 0 [] a σ.nx = some (a', σ') → σ.nx ≤ σ'.nx) → ExLe (exec lp n) → ExLe (exec lp (n + 1)) := by
  intro hdraw ih fl rd lc a σ e a' σ' h
  simp only [exec] at h
  cases lc <;> simp only [xCode] at h
  case skip => cases h; exact Nat.le_refl _
  case seq x y =>
    unfold xSeq at h
    split at h
    · rename_i a1 σ1 h1; exact Nat.le_trans (ih _ _ _ _ _ _ _ _ h1) (ih _ _ _ _ _ _ _ _ h)
    · exact ih _ _ _ _ _ _ _ _ h
  case cond c x y =>
    unfold xCond at h
    split at h
    · rename_i b _
      cases b <;> exact ih _ _ _ _ _ _ _ _ h
    · cases h
  case block id x =>
    unfold xBlock at h
    split at h
    · rename_i h1; cases h; exact ih _ _ _ _ _ _ _ _ h1
    · exact ih _ _ _ _ _ _ _ _ h
  case loop x =>
    unfold xSeq at h
    split at h
    · rename_i a1 σ1 h1; exact Nat.le_trans (ih _ _ _ _ _ _ _ _ h1) (ih _ _ _ _ _ _ _ _ h)
    · exact ih _ _ _ _ _ _ _ _ h
  case scope x => exact ih _ _ _ _ _ _ _ _ h
  case exit id => cases h; exact Nat.le_refl _
  case ret => cases h; exact Nat.le_refl _
  case reg ops =>
    unfold xRegion xNormal at h
    split at h
    · rename_i h1; cases h; exact runOps_le ih _ _ _ _ _ h1
    · cases h
  case draw s ops =>
    unfold xDraw xNormal at h
    revert h
    generalize Nat.ble fl σ.nx = c
    intro h
    cases c with
    | false => cases h
    | true =>
      simp only [cond_true] at h
      split at h
      · rename_i h1; cases h; exact hdraw _ _ _ _ _ _ _ ih h1
      · cases h
  case rangeFunc f ps assign body =>
    unfold xRange at h
    split at h
    · rename_i g first captured mk ms σ1 hf hm
      split at h
      · rename_i w σ2 hc
        have h1 := callF_le ih hc
        have h0 : σ.nx ≤ σ1.nx := by
          unfold marksOf at hm
          split at hm
          · cases hm; simp [HS.new]
          · split at hm
            · cases hm; exact Nat.le_refl _
            · cases hm
        have h2 : σ2.nx = σ'.nx := by
          unfold endLoopH at h
          split at h
          · split at h
            · cases h
            · revert h
              generalize Nat.ble _ _ = c
              intro h
              cases c with
              | false => cases h
              | true => cases h; rfl
          · cases h
        have h3 : σ1.nx + 1 ≤ σ2.nx := h1
        omega
      · cases h
    · cases h
  case bad => cases h
end Go.Hx

/- The plain machine and Go's: whole codes. -/
namespace Go.Hx
variable {P : Program} {lp : Nat → Option LFunc} {ex : Ex}

abbrev PQ (P : Program) (base fl : Nat) (σ σ' : HS) (ρ : Rho) (W : World) (e : HExit) (a' : HAct) : Exit → Act → World → Prop :=
  fun E A' W' => ∃ ρ', PostS P base fl σ σ' ρ ρ' W W' ∧ E = exitOf e ∧ AR ρ' a' A'
/-- One code, from one state. -/
def Snd (P : Program) (c : Code) (fl : Nat) (rd : Option Nat) (a : HAct) (σ : HS) (e : HExit) (a' : HAct) (σ' : HS) : Prop :=
  ∀ (base : Nat) (ρ : Rho) (A : Act) (W : World) (R : Option Nat), In P base σ σ' ρ W → AR ρ a A → RdOk ρ rd R →
      HFS fl σ σ' ∧ c.wpIn (FR R) 0 P (PQ P base fl σ σ' ρ W e a') A W
def DrawSound (P : Program) (lp : Nat → Option LFunc) (ex : Ex) : Prop :=
  ∀ (id : Nat) (ops : Array Oper) (fl : Nat) (rd : Option Nat) (a : HAct) (σ : HS) (e : HExit) (a' : HAct) (σ' : HS), xCode lp ex fl rd (lowDraw P ops) a σ = some (e, a', σ') → Dom σ → Snd P (.region id ops true) fl rd a σ e a' σ'
def DrawLe (lp : Nat → Option LFunc) (ex : Ex) : Prop := ∀ fl s ops (a a' : HAct) (σ σ' : HS), drawOps lp ex fl s σ.nx σ.h ops 0 [] a σ.nx = some (a', σ') → σ.nx ≤ σ'.nx

theorem pq_trans {base fl : Nat} {σ σ1 σ' : HS} {ρ ρ1 : Rho} {W W1 : World} {e : HExit} {a' : HAct} (f1 : HFS fl σ σ1) (f2 : HFS fl σ1 σ') (p1 : PostS P base fl σ σ1 ρ ρ1 W W1) {E : Exit} {A' : Act} {W' : World} (h : PQ P base fl σ1 σ' ρ1 W1 e a' E A' W') : PQ P base fl σ σ' ρ W e a' E A' W' := by
  obtain ⟨ρ', p2, he, ha⟩ := h
  exact ⟨ρ', Post.trans f1.le f2.le p1 p2, he, ha⟩

/-- Two codes, one behind the other. -/
theorem then_sound {c : Code} {fl : Nat} {rd : Option Nat} {a a1 a' : HAct} {σ σ1 σ' : HS} {e : HExit} {N : Act → World → Prop} {base : Nat} {ρ : Rho} {A : Act} {W : World} {R : Option Nat}
    (le1 : σ.nx ≤ σ1.nx) (le2 : σ1.nx ≤ σ'.nx) (h1 : Snd P c fl rd a σ .normal a1 σ1)
    (hin : In P base σ σ' ρ W) (ha : AR ρ a A) (hrd : RdOk ρ rd R)
    (h2 : ∀ (ρ1 : Rho) (A1 : Act) (W1 : World), HFS fl σ σ1 → PostS P base fl σ σ1 ρ ρ1 W W1 → In P base σ1 σ' ρ1 W1 → AR ρ1 a1 A1 → RdOk ρ1 rd R → HFS fl σ1 σ' ∧ ((∀ E A' W', PQ P base fl σ1 σ' ρ1 W1 e a' E A' W' → PQ P base fl σ σ' ρ W e a' E A' W') → N A1 W1)) :
    HFS fl σ σ' ∧ c.wpIn (FR R) 0 P (Exit.then N (PQ P base fl σ σ' ρ W e a')) A W := by
  obtain ⟨f1, w1⟩ := h1 base ρ A W R (hin.less le2) ha hrd
  have step : ∀ E A1 W1, PQ P base fl σ σ1 ρ W .normal a1 E A1 W1 → HFS fl σ σ' ∧ Exit.then N (PQ P base fl σ σ' ρ W e a') E A1 W1 := by
    rintro E A1 W1 ⟨ρ1, p1, rfl, ar1⟩
    obtain ⟨f2, n2⟩ := h2 ρ1 A1 W1 f1 p1 (hin.next p1 le1) ar1 (hrd.mono p1.ext)
    exact ⟨f1.trans f2, n2 fun E A' W' h => pq_trans f1 f2 p1 h⟩
  obtain ⟨E, A1, W1, hq⟩ := wpIn_some w1
  exact ⟨(step E A1 W1 hq).1, wpIn_mono w1 fun E A1 W1 hq => (step E A1 W1 hq).2⟩
theorem seq_sound (hle : ExLe ex) (hex : ExSound P ex) {x y : Code} {fl : Nat} {rd : Option Nat} {a a' : HAct} {σ σ' : HS} {e : HExit} (h : xSeq ex fl rd (lowC P x) (lowC P y) a σ = some (e, a', σ')) (hd : Dom σ) : Snd P (.seq x y) fl rd a σ e a' σ' := by
  intro base ρ A W R hin ha hrd
  unfold xSeq at h
  split at h
  · rename_i a1 σ1 h1
    have le1 := hle _ _ _ _ _ _ _ _ h1
    have le2 := hle _ _ _ _ _ _ _ _ h
    obtain ⟨g1, g2⟩ := then_sound (N := y.wpIn (FR R) 0 P (PQ P base fl σ σ' ρ W e a')) le1 le2 (hex x fl rd a σ .normal a1 σ1 h1 hd) hin ha hrd fun ρ1 A1 W1 f1 p1 hin1 ar1 hrd1 => by
      obtain ⟨f2, w2⟩ := hex y fl rd a1 σ1 e a' σ' h (f1.dom hd) base ρ1 A1 W1 R hin1 ar1 hrd1
      exact ⟨f2, fun hq => wpIn_mono w2 hq⟩
    exact ⟨g1, wpIn_seq g2⟩
  · rename_i hne
    obtain ⟨f1, w1⟩ := hex x fl rd a σ e a' σ' h hd base ρ A W R hin ha hrd
    refine ⟨f1, wpIn_seq (wpIn_mono w1 ?_)⟩
    rintro E A1 W1 ⟨ρ1, p1, rfl, ar1⟩
    cases e with
    | normal => exact absurd h (hne _ _)
    | exit id => exact ⟨ρ1, p1, rfl, ar1⟩
    | ret => exact ⟨ρ1, p1, rfl, ar1⟩
theorem cond_sound (hex : ExSound P ex) {c : Operand} {lc : Lo} (hc : lowX c = some lc) {x y : Code} {fl : Nat} {rd : Option Nat} {a a' : HAct} {σ σ' : HS} {e : HExit} (h : xCond ex fl rd lc (lowC P x) (lowC P y) a σ = some (e, a', σ')) (hd : Dom σ) : Snd P (.cond c x y) fl rd a σ e a' σ' := by
  intro base ρ A W R hin ha hrd
  have hv := ev_ok ha hc
  unfold xCond at h
  split at h
  · rename_i b hb
    rw [hb] at hv
    have hV : A.eval c = .bool b := by generalize A.eval c = V at hv; cases hv; rfl
    cases b with
    | true =>
      obtain ⟨f1, w1⟩ := hex x fl rd a σ e a' σ' h hd base ρ A W R hin ha hrd
      exact ⟨f1, wpIn_cond hV w1⟩
    | false =>
      obtain ⟨f1, w1⟩ := hex y fl rd a σ e a' σ' h hd base ρ A W R hin ha hrd
      exact ⟨f1, wpIn_cond hV w1⟩
  · cases h
theorem block_sound (hex : ExSound P ex) {id : Nat} {x : Code} {fl : Nat} {rd : Option Nat} {a a' : HAct} {σ σ' : HS} {e : HExit} (h : xBlock ex fl rd id (lowC P x) a σ = some (e, a', σ')) (hd : Dom σ) : Snd P (.block id x) fl rd a σ e a' σ' := by
  intro base ρ A W R hin ha hrd
  unfold xBlock at h
  split at h
  · rename_i i a1 σ1 h1
    cases h
    obtain ⟨f1, w1⟩ := hex x fl rd a σ (.exit i) a' σ' h1 hd base ρ A W R hin ha hrd
    refine ⟨f1, wpIn_block (wpIn_mono w1 ?_)⟩
    rintro E A1 W1 ⟨ρ1, p1, rfl, ar1⟩
    simp only [exitOf, Exit.inBlock]
    by_cases hi : i = id
    · subst hi
      simp only [if_true, Nat.beq_refl, cond_true]
      exact ⟨ρ1, p1, rfl, ar1⟩
    · have : Nat.beq i id = false := by
        cases e : Nat.beq i id
        · rfl
        · exact absurd (Nat.eq_of_beq_eq_true e) hi
      simp only [if_neg hi, this, cond_false]
      exact ⟨ρ1, p1, rfl, ar1⟩
  · rename_i hne
    obtain ⟨f1, w1⟩ := hex x fl rd a σ e a' σ' h hd base ρ A W R hin ha hrd
    refine ⟨f1, wpIn_block (wpIn_mono w1 ?_)⟩
    rintro E A1 W1 ⟨ρ1, p1, rfl, ar1⟩
    cases e with
    | normal => exact ⟨ρ1, p1, rfl, ar1⟩
    | exit id => exact absurd h (hne _ _ _)
    | ret => exact ⟨ρ1, p1, rfl, ar1⟩
theorem scope_sound (hex : ExSound P ex) {x : Code} {fl : Nat} {rd : Option Nat} {a a' : HAct} {σ σ' : HS} {e : HExit} (h : ex fl rd (lowC P x) a σ = some (e, a', σ')) (hd : Dom σ) : Snd P (.scope x) fl rd a σ e a' σ' := by
  intro base ρ A W R hin ha hrd
  obtain ⟨f1, w1⟩ := hex x fl rd a σ e a' σ' h hd base ρ A W R hin ha hrd
  refine ⟨f1, wpIn_scope (wpIn_mono w1 ?_)⟩
  rintro E A1 W1 ⟨ρ1, p1, rfl, ar1⟩
  cases e <;> exact ⟨ρ1, p1, rfl, ar1⟩
theorem region_sound (hlp : LpOk P lp) (hle : ExLe ex) (hex : ExSound P ex) {id : Nat} {ops : Array Oper} {fl : Nat} {rd : Option Nat} {a a' : HAct} {σ σ' : HS} {e : HExit} (h : xRegion lp ex fl (ops.toList.map (lowOper P ops)) a σ = some (e, a', σ')) (hd : Dom σ) : Snd P (.region id ops false) fl rd a σ e a' σ' := by
  intro base ρ A W R hin ha hrd
  unfold xRegion xNormal at h
  split at h
  · rename_i a1 σ1 h1
    cases h
    obtain ⟨f1, w1⟩ := runOps_sound hlp hle hex (ops := ops) (fl := fl) ops.size 0 a a' σ σ' (by omega) (by simpa using h1) hd base ρ A W R (PQ P base fl σ σ' ρ W .normal a') hin ha
    refine ⟨f1, wpIn_region ?_⟩
    rw [List.range_eq_range']
    exact w1 fun A' W' ρ' har hp => ⟨ρ', hp, rfl, har⟩
  · cases h
/-- A loop, in as many rounds as there is fuel. -/
theorem loop_sound (hlp : LpOk P lp) {c : Code} : ∀ (n : Nat), (∀ j, j < n → ExSound P (exec lp j) ∧ ExLe (exec lp j)) → ∀ {fl : Nat} {rd : Option Nat} {a a' : HAct} {σ σ' : HS} {e : HExit}, exec lp n fl rd (.loop (lowC P c)) a σ = some (e, a', σ') → Dom σ →
    ∀ (base : Nat) (ρ : Rho) (A : Act) (W : World) (R : Option Nat), In P base σ σ' ρ W → AR ρ a A → RdOk ρ rd R →
      HFS fl σ σ' ∧ ∀ (Q : Exit → Act → World → Prop), (∀ E A' W', PQ P base fl σ σ' ρ W e a' E A' W' → Q E A' W') → Code.roundsIn (FR R) 0 P c Q n A W
  | 0, _, _, _, _, _, _, _, _, h, _ => by cases h
  | n + 1, hall, fl, rd, a, a', σ, σ', e, h, hd => by
    intro base ρ A W R hin ha hrd
    obtain ⟨hex, hle⟩ := hall n (by omega)
    simp only [exec, xCode] at h
    unfold xSeq at h
    simp only [roundsIn_succ]
    split at h
    · rename_i a1 σ1 h1
      have le1 := hle _ _ _ _ _ _ _ _ h1
      have le2 := hle _ _ _ _ _ _ _ _ h
      have key : ∀ (N : Act → World → Prop) (ρ1 : Rho) (A1 : Act) (W1 : World), HFS fl σ σ1 → PostS P base fl σ σ1 ρ ρ1 W W1 → In P base σ1 σ' ρ1 W1 → AR ρ1 a1 A1 → RdOk ρ1 rd R → HFS fl σ1 σ' ∧ ∀ (Q : Exit → Act → World → Prop), (∀ E A' W', PQ P base fl σ1 σ' ρ1 W1 e a' E A' W' → Q E A' W') → Code.roundsIn (FR R) 0 P c Q n A1 W1 :=
        fun N ρ1 A1 W1 f1 p1 hin1 ar1 hrd1 => loop_sound hlp n (fun j hj => hall j (by omega)) h (f1.dom hd) base ρ1 A1 W1 R hin1 ar1 hrd1
      have hs := hex c fl rd a σ .normal a1 σ1 h1 hd
      refine ⟨(then_sound (N := fun _ _ => True) (e := e) (a' := a') le1 le2 hs hin ha hrd fun ρ1 A1 W1 f1 p1 hin1 ar1 hrd1 => ⟨(key (fun _ _ => True) ρ1 A1 W1 f1 p1 hin1 ar1 hrd1).1, fun _ => trivial⟩).1, fun Q hQ => ?_⟩
      refine wpIn_mono (then_sound (N := Code.roundsIn (FR R) 0 P c Q n) (e := e) (a' := a') le1 le2 hs hin ha hrd fun ρ1 A1 W1 f1 p1 hin1 ar1 hrd1 => ?_).2 ?_
      · obtain ⟨f2, r2⟩ := key (fun _ _ => True) ρ1 A1 W1 f1 p1 hin1 ar1 hrd1
        exact ⟨f2, fun hq => r2 Q fun E A' W' h => hQ _ _ _ (hq _ _ _ h)⟩
      · intro E A' W' h
        cases E <;> first | exact h | exact hQ _ _ _ h
    · rename_i hne
      obtain ⟨f1, w1⟩ := hex c fl rd a σ e a' σ' h hd base ρ A W R hin ha hrd
      refine ⟨f1, fun Q hQ => wpIn_mono w1 ?_⟩
      rintro E A1 W1 ⟨ρ1, p1, rfl, ar1⟩
      cases e with
      | normal => exact absurd h (hne _ _)
      | exit id => exact hQ _ _ _ ⟨ρ1, p1, rfl, ar1⟩
      | ret => exact hQ _ _ _ ⟨ρ1, p1, rfl, ar1⟩
end Go.Hx

/- The plain machine and Go's: ranges over functions. -/
namespace Go.Hx
variable {P : Program} {lp : Nat → Option LFunc} {ex : Ex}

theorem end_loop_some {fl l : Nat} {ms : List Nat} {a a' : HAct} {σ σ' : HS} {e : HExit} (h : endLoopH fl l ms a σ = some (e, a', σ')) :
    ∃ q : HLoop, σ.h.get l = some (.loop q) ∧ q.state ≠ .busy ∧ fl ≤ l ∧ e = q.pending ∧ a' = { a with defers := ms ++ a.defers } ∧ σ' = σ.upd l (some (.loop { q with state := .exhausted })) := by
  unfold endLoopH at h
  split at h
  · rename_i q hq
    split at h
    · cases h
    · rename_i hb
      cases hfl : Nat.ble fl l with
      | false => rw [hfl] at h; cases h
      | true =>
        rw [hfl] at h
        cases h
        exact ⟨q, hq, hb, Nat.le_of_ble_eq_true hfl, rfl, rfl, rfl⟩
  · cases h
theorem marks_ok {rd R : Option Nat} {base fl mk : Nat} {ms : List Nat} {σ σ1 σ' : HS} {ρ : Rho} {W : World} (h : marksOf rd σ = some (mk, ms, σ1)) (hin : In P base σ σ' ρ W) (hn : σ1.nx ≤ σ'.nx) (hrd : RdOk ρ rd R) :
    HFS fl σ σ1 ∧ ∃ (ρ1 : Rho) (W1 : World) (m : RI), PostS P base fl σ σ1 ρ ρ1 W W1 ∧ ρ1 mk = some m ∧ (∀ k ∈ ms, (ρ1 k).isSome = true) ∧
      ∀ fn tmps ps assign body, (Instr.enterLoop fn tmps ps assign body R).run P W =
        .ok (W1.heap.size, ms.map fun k => ⟨.collected ((ρ1 k).elim 0 RI.blk), #[]⟩) (W1.alloc (.loop { state := .ready, pending := none, fn, tmps, params := ps, assign, body, defers := m.blk })) := by
  unfold marksOf at h
  cases rd with
  | none =>
    cases R with
    | some _ => exact hrd.elim
    | none =>
      cases h
      have hfr : ρ σ.nx = none := hin.fresh _ (Nat.le_refl _) hn
      have hput : (ρ.put σ.nx ⟨W.heap.size, 0, 0⟩) σ.nx = some ⟨W.heap.size, 0, 0⟩ := Rho.put_same ..
      refine ⟨hf_new (HS.get_new σ _), ρ.put σ.nx ⟨W.heap.size, 0, 0⟩, W.alloc (.deferred (some [])), ⟨W.heap.size, 0, 0⟩, post_new hin.sim hfr (HS.get_new σ _) rfl ⟨_, hput, World.alloc_heap_new W _, hin.low⟩, hput, ?_, ?_⟩
      · intro k hk
        rw [List.mem_singleton] at hk
        subst hk; rw [hput]; rfl
      · intro fn tmps ps assign body
        rw [run_enterLoop_outer]
        simp only [List.map_cons, List.map_nil, hput, Option.elim, World.size_alloc]
  | some l =>
    cases R with
    | none => exact hrd.elim
    | some L =>
      obtain ⟨r, hr, rfl⟩ := hrd
      simp only at h
      split at h
      · rename_i q hq
        cases h
        obtain ⟨r', m, Lp, hr', hw, hb, hm, hdf, hl⟩ := hin.sim.ok _ _ hq
        rw [hr] at hr'; cases hr'
        refine ⟨HF.refl _ _ _, ρ, W, m, Post.refl hin.sim, hm, (fun k hk => by cases hk), (fun fn tmps ps assign body => ?_)⟩
        rw [run_enterLoop_inner hw, hdf]; rfl
      · cases h
theorem range_sound (hlp : LpOk P lp) (hle : ExLe ex) (hex : ExSound P ex) {g : Operand} {lg : Lo} (hg : lowX g = some lg) {ps : Array Tmp} {assign body : Code} {fl : Nat} {rd : Option Nat} {a a' : HAct} {σ σ' : HS} {e : HExit}
    (h : xRange lp ex fl rd lg ps.toList (lowC P assign) (lowC P body) a σ = some (e, a', σ')) (hd : Dom σ) : Snd P (.rangeFunc g ps assign body) fl rd a σ e a' σ' := by
  intro base ρ A W R hin ha hrd
  unfold xRange at h
  split at h
  · rename_i f first captured mk ms σ1 hf hm
    split at h
    · rename_i w σ3 hc
      obtain ⟨q3, hq3, hb3, hfl, he, ha', hs'⟩ := end_loop_some h
      have hv := ev_ok ha hg
      rw [hf] at hv
      obtain ⟨F, C, hV, hF, hC⟩ := vr_func hv
      have le3 := callF_le hle hc
      have hnx : σ'.nx = σ3.nx := by rw [hs']; rfl
      have le3' : σ1.nx + 1 ≤ σ3.nx := le3
      obtain ⟨f1, ρ1, W1, m, p1, hmk, hms, henter⟩ := marks_ok (fl := fl) hm hin (by omega) hrd
      have d1 := f1.dom hd
      have hin1 : In P base σ1 σ' ρ1 W1 := hin.next p1 f1.le
      have hfr : ρ1 σ1.nx = none := hin1.fresh _ (Nat.le_refl _) (by omega)
      obtain ⟨q, hq⟩ : ∃ q : HLoop, q = ⟨.ready, .normal, a.nt, a.tmps, ps.toList, lowC P assign, lowC P body, mk⟩ := ⟨_, rfl⟩
      rw [← hq] at hc
      have f2 : HFS fl σ1 (σ1.new (.loop q)) := hf_new (HS.get_new σ1 _)
      have d2 := f2.dom d1
      have hput : (ρ1.put σ1.nx ⟨W1.heap.size, 0, 0⟩) σ1.nx = some ⟨W1.heap.size, 0, 0⟩ := Rho.put_same ..
      -- with whatever function's name in the record
      have all : ∀ fn, HFS fl (σ1.new (.loop q)) σ3 ∧ ∃ (F1 C1 : Array Value) (W2 : World), A.eval g = .func (.func f) F1 C1 ∧ W2 = W1.alloc (.loop { state := .ready, pending := none, fn, tmps := A.tmps, params := ps, assign, body, defers := m.blk }) ∧
          (∃ fd, P.funcs[f]? = some fd ∧ fd.body.isSome = true ∧ (fd.name == "runtime.NumGoroutine") = false) ∧
          CallsIn (FR none) 0 P f (F1 ++ #[.func (.yield W1.heap.size) #[] #[]] ++ C1) W2 (rangePost (FR R) 0 P W1.heap.size (PQ P base fl σ σ' ρ W e a') { A with defers := (ms.map fun k => ⟨.collected ((ρ1 k).elim 0 RI.blk), #[]⟩) ++ A.defers }) := by
        intro fn
        obtain ⟨W2, hW2⟩ : ∃ W2, W2 = W1.alloc (.loop { state := .ready, pending := none, fn, tmps := A.tmps, params := ps, assign, body, defers := m.blk }) := ⟨_, rfl⟩
        have ext2 : Rho.le ρ1 (ρ1.put σ1.nx ⟨W1.heap.size, 0, 0⟩) := Rho.le_put _ hfr
        have p2 : PostS P base fl σ1 (σ1.new (.loop q)) ρ1 (ρ1.put σ1.nx ⟨W1.heap.size, 0, 0⟩) W1 W2 := by
          rw [hW2]
          refine post_new hin1.sim hfr (HS.get_new σ1 _) rfl ⟨⟨W1.heap.size, 0, 0⟩, m, _, hput, World.alloc_heap_new W1 _, hin1.low, ?_, rfl, ?_⟩
          · rw [hq]; exact ext2 _ _ hmk
          · rw [hq]
            exact ⟨rfl, rfl, (ha.mono (ρ' := ρ1.put σ1.nx ⟨W1.heap.size, 0, 0⟩) (fun b r hr => ext2 _ _ (p1.ext _ _ hr))).tmps, rfl, rfl, rfl⟩
        have hin2 : In P base (σ1.new (.loop q)) σ' (ρ1.put σ1.nx ⟨W1.heap.size, 0, 0⟩) W2 := hin1.next p2 f2.le
        have e02 : Rho.le ρ (ρ1.put σ1.nx ⟨W1.heap.size, 0, 0⟩) := fun b r hr => ext2 _ _ (p1.ext _ _ hr)
        have hargs : LR (ρ1.put σ1.nx ⟨W1.heap.size, 0, 0⟩) (first ++ [.yield σ1.nx] ++ captured) (F.toArray ++ #[Value.func (.yield W1.heap.size) #[] #[]] ++ C.toArray).toList := by
          have hy : VR (ρ1.put σ1.nx ⟨W1.heap.size, 0, 0⟩) (.yield σ1.nx) (.func (.yield W1.heap.size) #[] #[]) := .yield hput
          have := LR.append (LR.append (hF.mono e02) (LR.cons hy (LR.nil _))) (hC.mono e02)
          simpa using this
        obtain ⟨f3, hfd, hcall⟩ := callF_sound hlp hle hex hc d2 base _ _ W2 (hin2.less (by omega)) hargs
        refine ⟨f3, F.toArray, C.toArray, W2, hV, hW2, hfd, hcall.mono ?_⟩
        rintro E W3 ⟨V, ρ3, rfl, _, p3⟩
        have d3 := f3.dom d2
        obtain ⟨r4, m4, L4, hr4, hw4, hb4, hm4, hdf4, hl4⟩ := p3.sim.ok _ _ hq3
        have hr3 := p3.ext _ _ hput
        rw [hr4] at hr3; cases hr3
        have hlt := (Array.getElem?_eq_some_iff.1 hw4).1
        have hnb : L4.state ≠ .busy := by
          rw [hl4.state]
          intro hbs
          apply hb3
          revert hbs
          cases q3.state <;> intro hbs <;> first | rfl | cases hbs
        obtain ⟨W4, hW4⟩ : ∃ W4, W4 = W3.putObj W1.heap.size (.loop { L4 with state := .exhausted }) := ⟨_, rfl⟩
        have p4 : PostS P base fl σ3 σ' ρ3 ρ3 W3 W4 := by
          rw [hs', hW4]
          refine post_upd p3.sim hq3 rfl hfl hr4 (HS.get_upd σ3 _ _) rfl rfl rfl (frz_put hw4 rfl) (by simp) (fun k _ hk => World.putObj_heap_other hk) (fun z hz => ?_)
          cases hz
          exact ⟨_, m4, _, hr4, World.putObj_heap_same hlt, hb4, hm4, hdf4, rfl, hl4.pending, hl4.tmps, hl4.params, hl4.assign, hl4.body⟩
        have f4 : HFS fl σ3 σ' := by rw [hs']; exact hf_upd hfl (d3 _ _ hq3) (HS.get_upd σ3 _ _)
        have pall : PostS P base fl σ σ' ρ ρ3 W W4 := by
          have q1 := Post.trans f1.le f2.le p1 p2
          have q2 := Post.trans (f1.trans f2).le f3.le q1 p3
          exact Post.trans ((f1.trans f2).trans f3).le f4.le q2 p4
        have e13 : Rho.le ρ1 ρ3 := fun b r hr => p3.ext _ _ (ext2 _ _ hr)
        have hA : AR ρ3 a' { A with defers := (ms.map fun k => ⟨.collected ((ρ1 k).elim 0 RI.blk), #[]⟩) ++ A.defers } := by
          have h0 := ha.mono (ρ' := ρ3) (fun b r hr => e13 _ _ (p1.ext _ _ hr))
          rw [ha']
          refine ⟨h0.tmps, ?_, ?_⟩
          · show _ ++ A.defers = List.map _ (ms ++ a.defers)
            rw [List.map_append, h0.defers]
            congr 1
            apply List.map_congr_left
            intro k hk
            obtain ⟨x, hx⟩ := Option.isSome_iff_exists.1 (hms k hk)
            rw [hx, e13 _ _ hx]
          · intro k hk
            rcases List.mem_append.1 hk with hk | hk
            · obtain ⟨x, hx⟩ := Option.isSome_iff_exists.1 (hms k hk)
              rw [e13 _ _ hx]; rfl
            · exact h0.marks k hk
        refine ⟨L4.pending, W4, by rw [hW4]; exact run_endLoop hw4 hnb, ?_⟩
        rw [hl4.pending]
        subst he
        cases hp : q3.pending with
        | normal => exact ⟨ρ3, pall, rfl, hA⟩
        | exit id => exact wpIn_exit ⟨ρ3, pall, rfl, hA⟩
        | ret => exact wpIn_ret ⟨ρ3, pall, rfl, hA⟩
      obtain ⟨f3, _⟩ := all 0
      have f4 : HFS fl σ3 σ' := by rw [hs']; exact hf_upd hfl ((f3.dom d2) _ _ hq3) (HS.get_upd σ3 _ _)
      refine ⟨((f1.trans f2).trans f3).trans f4, wpIn_rangeFunc fun fn _ => ?_⟩
      obtain ⟨_, F1, C1, W2, hV1, hW2, ⟨fd, q1, q2, q3'⟩, hcall⟩ := all fn
      refine ⟨W1.heap.size, (ms.map fun k => ⟨.collected ((ρ1 k).elim 0 RI.blk), #[]⟩), W2, { target := .fn (.func f) C1, args := F1 ++ #[.func (.yield W1.heap.size) #[] #[]] }, W2, f, F1 ++ #[.func (.yield W1.heap.size) #[] #[]] ++ C1, W2, ?_, ?_, fun _ _ => trivial, ?_, ?_, ?_⟩
      · rw [hW2]; exact henter fn A.tmps ps assign body
      · have : A.eval (.const (.func (.yield W1.heap.size) #[] #[])) = .func (.yield W1.heap.size) #[] #[] := rfl
        simp [resolve, hV1, Deferred.ofValue, this]
      · simp [invoke, callFunc, q1]
        rw [if_neg (by intro e; rw [e] at q3'; simp at q3'), if_neg (by intro e; rw [e] at q2; cases q2)]
      · intro hdep; simp [FR, Fence.wide] at hdep
      · cases R with
        | none => exact hcall
        | some r => exact CallsIn.inRound r hcall
    · cases h
  · cases h
end Go.Hx

/- The plain machine and Go's: regions that draw their order, first part: on what an operation depends. -/
namespace Go.Hx
variable {P : Program} {lp : Nat → Option LFunc} {ex : Ex}

theorem ev_congr {a b : HAct} {x : Lo} (h : ∀ t ∈ x.tmps, a.tmp t = b.tmp t) : a.ev x = b.ev x := by
  cases x with
  | t n => exact h n (by simp [Lo.tmps])
  | c v => rfl
theorem evs_congr {a b : HAct} : ∀ {xs : List Lo}, (∀ t ∈ tmpsOf xs, a.tmp t = b.tmp t) → xs.map a.ev = xs.map b.ev
  | [], _ => rfl
  | x :: xs, h => by
    simp only [tmpsOf, List.flatMap_cons, List.mem_append] at h
    rw [List.map_cons, List.map_cons, ev_congr (fun t ht => h t (.inl ht)), evs_congr (fun t ht => h t (.inr ht))]
theorem evo_congr {a b : HAct} {x : Option Lo} (h : ∀ t ∈ oTmps x, a.tmp t = b.tmp t) : x.map a.ev = x.map b.ev := by
  cases x with
  | none => rfl
  | some x => rw [Option.map_some, Option.map_some, ev_congr h]
theorem parts_congr {a b : HAct} : ∀ {ps : List (Nat × Nat × Lo)}, (∀ t ∈ (ps.flatMap fun (_, _, x) => x.tmps), a.tmp t = b.tmp t) → evParts a ps = evParts b ps
  | [], _ => rfl
  | (o, s, x) :: ps, h => by
    simp only [List.flatMap_cons, List.mem_append] at h
    have := parts_congr (a := a) (b := b) (ps := ps) (fun t ht => h t (.inr ht))
    simp only [evParts, List.map_cons] at this ⊢
    rw [ev_congr (fun t ht => h t (.inl ht)), this]
theorem rd_congr {o : Rd} {a b : HAct} (σ : HS) (h : ∀ t ∈ o.tmps, a.tmp t = b.tmp t) : rdH o a σ = rdH o b σ := by
  cases o <;> simp only [Rd.tmps, List.mem_append] at h <;> simp only [rdH]
  case load => simp only [oLoad, ev_congr h]
  case lookup => simp only [oLookup, ev_congr (fun t ht => h t (.inl ht)), ev_congr (fun t ht => h t (.inr ht))]
theorem chk_congr {a b : HAct} {σ' : HS} (hn : a.nt = b.nt) : ∀ {cs : List (Rd × Nat)}, (∀ t ∈ cs.flatMap (fun (o, t) => t :: o.tmps), a.tmp t = b.tmp t) → chkH a σ' cs = chkH b σ' cs
  | [], _ => rfl
  | (o, t) :: cs, hm => by
    simp only [List.flatMap_cons, List.mem_append] at hm
    unfold chkH
    rw [chk_congr hn (fun t ht => hm t (.inr ht)), rd_congr σ' (fun t' ht => hm t' (.inl (List.mem_cons_of_mem _ ht))), hm t (.inl (List.mem_cons_self ..)), hn]
theorem op_congr {fl : Nat} {l : LOp} {a b : HAct} (σ : HS) (hn : a.nt = b.nt) (h : ∀ t ∈ l.tmps, a.tmp t = b.tmp t) : opH lp ex fl l a σ = opH lp ex fl l b σ := by
  cases l <;> simp only [LOp.tmps, List.mem_append] at h <;> simp only [opH]
  case move x => simp only [oMove, ev_congr h]
  case pick c x y => simp only [oPick, ev_congr (fun t ht => h t (.inl (.inl ht))), ev_congr (fun t ht => h t (.inl (.inr ht))), ev_congr (fun t ht => h t (.inr ht))]
  case alloc => rfl
  case box => simp only [oBox, ev_congr h]
  case build => simp only [oBuild, parts_congr h]
  case buildSlice => simp only [oBuildSlice, parts_congr h]
  case load => simp only [oLoad, ev_congr h]
  case store => simp only [oStore, ev_congr (fun t ht => h t (.inl ht)), ev_congr (fun t ht => h t (.inr ht))]
  case fieldAddr => simp only [oFieldAddr, ev_congr h]
  case indexAddrS => simp only [oIndexAddrS, ev_congr (fun t ht => h t (.inl ht)), ev_congr (fun t ht => h t (.inr ht))]
  case indexAddrA => simp only [oIndexAddrA, ev_congr (fun t ht => h t (.inl ht)), ev_congr (fun t ht => h t (.inr ht))]
  case field => simp only [oField, ev_congr h]
  case indexA => simp only [oIndexA, ev_congr (fun t ht => h t (.inl ht)), ev_congr (fun t ht => h t (.inr ht))]
  case bin => simp only [oBin, ev_congr (fun t ht => h t (.inl ht)), ev_congr (fun t ht => h t (.inr ht))]
  case eq => simp only [oEq, ev_congr (fun t ht => h t (.inl ht)), ev_congr (fun t ht => h t (.inr ht))]
  case un => simp only [oUn, ev_congr h]
  case convInt => simp only [oConvInt, ev_congr h]
  case makeFunc => simp only [oMakeFunc, evs_congr (fun t ht => h t (.inl ht)), evs_congr (fun t ht => h t (.inr ht))]
  case makeMap => rfl
  case makeSlice => simp only [oMakeSlice, ev_congr (fun t ht => h t (.inl ht)), ev_congr (fun t ht => h t (.inr ht))]
  case sliceS => simp only [oSliceS, ev_congr (fun t ht => h t (.inl (.inl ht))), evo_congr (fun t ht => h t (.inl (.inr ht))), evo_congr (fun t ht => h t (.inr ht))]
  case sliceA => simp only [oSliceA, ev_congr (fun t ht => h t (.inl (.inl ht))), evo_congr (fun t ht => h t (.inl (.inr ht))), evo_congr (fun t ht => h t (.inr ht))]
  case copy => simp only [oCopy, ev_congr (fun t ht => h t (.inl ht)), ev_congr (fun t ht => h t (.inr ht))]
  case lookup => simp only [oLookup, ev_congr (fun t ht => h t (.inl ht)), ev_congr (fun t ht => h t (.inr ht))]
  case mapUpdate => simp only [oMapUpdate, ev_congr (fun t ht => h t (.inl (.inl ht))), ev_congr (fun t ht => h t (.inl (.inr ht))), ev_congr (fun t ht => h t (.inr ht))]
  case extract => simp only [oExtract, ev_congr h]
  case len => simp only [oLen, ev_congr h]
  case cap => simp only [oCap, ev_congr h]
  case min => simp only [oMin, evs_congr h]
  case max => simp only [oMax, evs_congr h]
  case appendZ => simp only [oAppendZ, ev_congr (fun t ht => h t (.inl ht)), ev_congr (fun t ht => h t (.inr ht))]
  case append => simp only [oAppend, ev_congr (fun t ht => h t (.inl ht)), ev_congr (fun t ht => h t (.inr ht))]
  case nilCheck => simp only [oNilCheck, ev_congr h]
  case call => simp only [oCall, ev_congr (fun t ht => h t (.inl ht)), evs_congr (fun t ht => h t (.inr ht))]
  case callC f xs cs =>
    have hc : ∀ σ', chkH a σ' cs = chkH b σ' cs := fun σ' => chk_congr hn (cs := cs) (fun t ht => h t (.inr ht))
    simp only [oCallC, ev_congr (fun t ht => h t (.inl (.inl ht))), evs_congr (fun t ht => h t (.inl (.inr ht))), hc]
  case storeC n x v cs =>
    have hc : ∀ σ', chkH a σ' cs = chkH b σ' cs := fun σ' => chk_congr hn (cs := cs) (fun t ht => h t (.inr ht))
    simp only [oStoreC, oStore, ev_congr (fun t ht => h t (.inl (.inl ht))), ev_congr (fun t ht => h t (.inl (.inr ht))), hc]
  case raw => rfl
theorem keep_any {σ σ' : HS} {r : Option HV} {v : HV} (h : keep σ r = some (v, σ')) : σ' = σ ∧ ∀ σ2, keep σ2 r = some (v, σ2) := by
  cases r with
  | none => cases h
  | some u => cases h; exact ⟨rfl, fun _ => rfl⟩
/-- What touches no memory is the same in any. -/
theorem op_untouch {fl : Nat} {l : LOp} {a : HAct} {σ σ' : HS} {v : HV} (ht : l.touches = false) (h : opH lp ex fl l a σ = some (v, σ')) : σ' = σ ∧ ∀ fl2 σ2, opH lp ex fl2 l a σ2 = some (v, σ2) := by
  cases l <;> simp only [LOp.touches, reduceCtorEq] at ht <;> simp only [opH] at h ⊢
  case move => cases h; exact ⟨rfl, fun _ _ => rfl⟩
  case pick =>
    unfold oPick at h ⊢
    split at h
    · rename_i hb; cases h; exact ⟨rfl, fun _ _ => rfl⟩
    · cases h
  case build =>
    unfold oBuild at h ⊢
    split at h
    · rename_i hb; cases h; exact ⟨rfl, fun _ _ => rfl⟩
    · cases h
  case fieldAddr =>
    unfold oFieldAddr at h ⊢
    split at h
    · rename_i hb; cases h; exact ⟨rfl, fun _ _ => rfl⟩
    · cases h
  case indexAddrS =>
    unfold oIndexAddrS stepTo at h ⊢
    split at h
    · rename_i hb
      split at h
      · rename_i hi
        revert h
        generalize Nat.blt _ _ = c
        intro h
        cases c with
        | false => cases h
        | true => cases h; exact ⟨rfl, fun _ _ => rfl⟩
      · cases h
    · cases h
  case indexAddrA =>
    unfold oIndexAddrA stepTo at h ⊢
    split at h
    · rename_i hb
      split at h
      · rename_i hi
        revert h
        generalize Nat.blt _ _ = c
        intro h
        cases c with
        | false => cases h
        | true => cases h; exact ⟨rfl, fun _ _ => rfl⟩
      · cases h
    · cases h
  case field =>
    unfold oField at h ⊢
    split at h
    · rename_i hb; exact ⟨(keep_any h).1, fun _ => (keep_any h).2⟩
    · cases h
  case indexA =>
    unfold oIndexA at h ⊢
    split at h
    · rename_i hb hi
      revert h
      generalize Nat.blt _ _ = c
      intro h
      cases c with
      | false => cases h
      | true => exact ⟨(keep_any h).1, fun _ => (keep_any h).2⟩
    · cases h
  case bin => exact ⟨(keep_any h).1, fun _ => (keep_any h).2⟩
  case eq =>
    unfold oEq at h ⊢
    split at h
    · rename_i hb; cases h; exact ⟨rfl, fun _ _ => rfl⟩
    · cases h
  case un => exact ⟨(keep_any h).1, fun _ => (keep_any h).2⟩
  case convInt =>
    unfold oConvInt at h ⊢
    split at h
    · rename_i hb; cases h; exact ⟨rfl, fun _ _ => rfl⟩
    · cases h
  case makeFunc => cases h; exact ⟨rfl, fun _ _ => rfl⟩
  case extract =>
    unfold oExtract at h ⊢
    split at h
    · rename_i hb; exact ⟨(keep_any h).1, fun _ => (keep_any h).2⟩
    · cases h
  case nilCheck =>
    unfold oNilCheck at h ⊢
    split at h
    · rename_i hb; cases h; exact ⟨rfl, fun _ _ => rfl⟩
    · rename_i hb; cases h; exact ⟨rfl, fun _ _ => rfl⟩
    · cases h
/-- With the guard, too. -/
theorem val_congr {fl : Nat} {o : LOper} {a b : HAct} (σ : HS) (hn : a.nt = b.nt) (h : ∀ t ∈ o.names, a.tmp t = b.tmp t) : stepVal lp ex fl o a σ = stepVal lp ex fl o b σ := by
  unfold stepVal
  have h1 : wantedH o.g a = wantedH o.g b := by
    unfold wantedH
    cases hg : o.g with
    | none => rfl
    | some q =>
      obtain ⟨t, w⟩ := q
      have : a.tmp t = b.tmp t := h t (by simp [LOper.names, hg])
      simp only [this]
  rw [h1, op_congr σ hn (fun t ht => h t (by simp [LOper.names, ht]))]
theorem val_untouch {fl : Nat} {o : LOper} {a : HAct} {σ σ' : HS} {v : HV} (ht : o.op.touches = false) (h : stepVal lp ex fl o a σ = some (v, σ')) : σ' = σ ∧ ∀ fl2 σ2, stepVal lp ex fl2 o a σ2 = some (v, σ2) := by
  unfold stepVal at h ⊢
  cases hw : wantedH o.g a with
  | true =>
    rw [hw] at h
    obtain ⟨h1, h2⟩ := op_untouch ht h
    exact ⟨h1, fun fl2 σ2 => by simp only [cond_true]; exact h2 fl2 σ2⟩
  | false => rw [hw] at h; cases h; exact ⟨rfl, fun _ _ => rfl⟩
end Go.Hx

/- The plain machine and Go's: regions that draw their order, second part: masks, the store that is put together, and how runs on a part of a store are runs on all of it. -/
namespace Go.Hx
variable {P : Program} {lp : Nat → Option LFunc} {ex : Ex}

/-! masks -/
theorem edge_bit {masks : List Nat} {j : Nat} : ∀ {es : List Edge}, (edgeMask masks es).testBit j = true → ∃ e ∈ es, Region.binds .any e = true ∧ (j = e.on ∨ (masks.getD e.on 0).testBit j = true)
  | [], h => by simp [edgeMask] at h
  | e :: es, h => by
    unfold edgeMask at h
    cases hb : Region.binds .any e with
    | true =>
      rw [hb] at h
      simp only [cond_true, Nat.testBit_or, Bool.or_eq_true] at h
      rcases h with (h | h) | h
      · rw [Nat.one_shiftLeft, Nat.testBit_two_pow] at h
        exact ⟨e, by simp, hb, .inl (by have := of_decide_eq_true h; omega)⟩
      · exact ⟨e, by simp, hb, .inr h⟩
      · obtain ⟨e', h1, h2⟩ := edge_bit h; exact ⟨e', by simp [h1], h2⟩
    | false =>
      rw [hb] at h
      obtain ⟨e', h1, h2⟩ := edge_bit h; exact ⟨e', by simp [h1], h2⟩
theorem masks_pre : ∀ (os : List Oper) (ms : List Nat), ∃ l, masksOf os ms = ms ++ l
  | [], ms => ⟨[], by simp [masksOf]⟩
  | o :: os, ms => by
    obtain ⟨l, hl⟩ := masks_pre os (ms ++ [edgeMask ms o.after.toList])
    exact ⟨[edgeMask ms o.after.toList] ++ l, by rw [masksOf, hl, List.append_assoc]⟩
theorem masks_at : ∀ (os : List Oper) (ms : List Nat) (i : Nat) (o : Oper), os[i]? = some o → (masksOf os ms).getD (ms.length + i) 0 = edgeMask ((masksOf os ms).take (ms.length + i)) o.after.toList
  | [], ms, i, o, h => by simp at h
  | o' :: os, ms, 0, o, h => by
    simp at h
    subst h
    obtain ⟨l, hl⟩ := masks_pre os (ms ++ [edgeMask ms o'.after.toList])
    rw [masksOf, hl]
    simp
  | o' :: os, ms, i + 1, o, h => by
    have := masks_at os (ms ++ [edgeMask ms o'.after.toList]) i o (by simpa using h)
    rw [masksOf]
    simp only [List.length_append, List.length_cons, List.length_nil] at this
    rw [show ms.length + (i + 1) = ms.length + (0 + 1) + i by omega]
    exact this
theorem anc_edge {os : List Oper} {i j : Nat} {o : Oper} (ho : os[i]? = some o) (h : ((masksOf os []).getD i 0).testBit j = true) : ∃ e ∈ o.after.toList, Region.binds .any e = true ∧ (j = e.on ∨ ((masksOf os []).getD e.on 0).testBit j = true) := by
  have := masks_at os [] i o ho
  simp only [List.length_nil, Nat.zero_add] at this
  rw [this] at h
  obtain ⟨e, h1, h2, h3⟩ := edge_bit h
  refine ⟨e, h1, h2, h3.imp id fun h3 => ?_⟩
  by_cases he : e.on < i
  · rwa [List.getD_eq_getElem?_getD, List.getElem?_take_of_lt he, ← List.getD_eq_getElem?_getD] at h3
  · rw [List.getD_eq_getElem?_getD, List.getElem?_eq_none (by simp; omega)] at h3
    simp at h3
theorem edges_ok : ∀ {os : List Oper} {i k : Nat} {o : Oper}, edgesOks os k = true → os[i]? = some o → ∀ e ∈ o.after.toList, Region.binds .any e = true → e.on < k + i
  | [], i, k, o, _, h => by simp at h
  | o' :: os, 0, k, o, h, ho => by
    simp at ho
    subst ho
    simp only [edgesOks, edgesOk, Bool.and_eq_true, List.all_eq_true, Bool.or_eq_true, Bool.not_eq_true'] at h
    intro e he hb
    rcases h.1 e he with h1 | h1
    · rw [h1] at hb; cases hb
    · simpa using blt_lt h1
  | o' :: os, i + 1, k, o, h, ho => by
    simp only [edgesOks, Bool.and_eq_true] at h
    intro e he hb
    have := edges_ok h.2 (by simpa using ho) e he hb
    omega
theorem draw_ok1 {all : List LOper} {m i : Nat} {o : LOper} : ∀ {n : Nat}, drawOk1 all m i o n = true → ∀ (j : Nat) (x : LOper), j < n → all[j]? = some x → m.testBit j = true ∨ clash x o = false
  | 0, _, j, x, h, _ => by omega
  | n + 1, h, j, x, hj, hx => by
    simp only [drawOk1, Bool.and_eq_true] at h
    by_cases e : j = n
    · subst e
      have := h.1
      rw [hx] at this
      simpa using this
    · exact draw_ok1 h.2 j x (by omega) hx
theorem zone_ok1 {all : List LOper} {m i s : Nat} {o : LOper} : ∀ {n : Nat}, zoneOk all m i s o n = true → ∀ (j : Nat) (x : LOper), j < n → all[j]? = some x → m.testBit j = true ∨ x.op.touches = false ∨ o.op.touches = false ∨ (x.op.reads = true ∧ o.op.reads = true) ∨ (isCallO o = true ∧ s ≤ j ∧ ∃ p, pairOf all i j = some p)
  | 0, _, j, x, h, _ => by omega
  | n + 1, h, j, x, hj, hx => by
    simp only [zoneOk, Bool.and_eq_true] at h
    by_cases e : j = n
    · subst e
      have := h.1
      rw [hx] at this
      simp only [Bool.or_eq_true, Bool.and_eq_true, Bool.not_eq_true', Bool.and_eq_false_iff, Nat.ble_eq, Option.isSome_iff_exists] at this
      rcases this with ((h1 | h1 | h1) | h1) | h1
      · exact .inl h1
      · exact .inr (.inl h1)
      · exact .inr (.inr (.inl h1))
      · exact .inr (.inr (.inr (.inl h1)))
      · exact .inr (.inr (.inr (.inr ⟨h1.1.1, h1.1.2, h1.2⟩)))
    · exact zone_ok1 h.2 j x (by omega) hx
theorem draw_ok {all : List LOper} {masks : List Nat} : ∀ {os : List LOper} {k : Nat}, drawOk all masks os k = true → ∀ (i : Nat) (o : LOper), os[i]? = some o → ∀ (j : Nat) (x : LOper), j < k + i → all[j]? = some x → (masks.getD (k + i) 0).testBit j = true ∨ clash x o = false
  | [], k, h, i, o, ho => by simp at ho
  | o' :: os, k, h, 0, o, ho => by
    simp at ho
    subst ho
    simp only [drawOk, Bool.and_eq_true] at h
    exact draw_ok1 h.1
  | o' :: os, k, h, i + 1, o, ho => by
    simp only [drawOk, Bool.and_eq_true] at h
    have := draw_ok h.2 i o (by simpa using ho)
    rw [show k + 1 + i = k + (i + 1) by omega] at this
    exact this
theorem zone_or {all : List LOper} {masks : List Nat} : ∀ {os : List LOper} {k s : Nat}, s ≤ k → s ≤ zoneAt all masks os k s ∧ (zoneAt all masks os k s = s ∨ k < zoneAt all masks os k s)
  | [], k, s, _ => ⟨Nat.le_refl _, .inl rfl⟩
  | o' :: os, k, s, hs => by
    unfold zoneAt
    cases hz : zoneOk all (masks.getD k 0) k s o' k with
    | true =>
      simp only [cond_true]
      obtain ⟨h1, h2⟩ := zone_or (all := all) (masks := masks) (os := os) (k := k + 1) (s := s) (by omega)
      exact ⟨h1, h2.imp id fun h => by omega⟩
    | false =>
      simp only [cond_false]
      obtain ⟨h1, h2⟩ := zone_or (all := all) (masks := masks) (os := os) (k := k + 1) (s := k + 1) (Nat.le_refl _)
      exact ⟨by omega, .inr (by omega)⟩
theorem zone_at {all : List LOper} {masks : List Nat} : ∀ {os : List LOper} {k s : Nat}, s ≤ k → ∀ (i : Nat) (o : LOper), os[i]? = some o → zoneAt all masks os k s ≤ k + i → zoneOk all (masks.getD (k + i) 0) (k + i) (zoneAt all masks os k s) o (k + i) = true
  | [], k, s, _, i, o, ho, _ => by simp at ho
  | o' :: os, k, s, hs, i, o, ho, hk => by
    unfold zoneAt at hk ⊢
    cases hz : zoneOk all (masks.getD k 0) k s o' k with
    | true =>
      rw [hz] at hk
      simp only [cond_true] at hk ⊢
      cases i with
      | zero =>
        simp at ho; subst ho
        have : zoneAt all masks os (k + 1) s = s := by
          rcases (zone_or (all := all) (masks := masks) (os := os) (k := k + 1) (s := s) (by omega)).2 with h | h
          · exact h
          · omega
        rw [this]; exact hz
      | succ i =>
        have := zone_at (all := all) (masks := masks) (os := os) (k := k + 1) (s := s) (by omega) i o (by simpa using ho) (by omega)
        rw [show k + 1 + i = k + (i + 1) by omega] at this
        exact this
    | false =>
      rw [hz] at hk
      simp only [cond_false] at hk ⊢
      cases i with
      | zero =>
        have := (zone_or (all := all) (masks := masks) (os := os) (k := k + 1) (s := k + 1) (Nat.le_refl _)).1
        omega
      | succ i =>
        have := zone_at (all := all) (masks := masks) (os := os) (k := k + 1) (s := k + 1) (Nat.le_refl _) i o (by simpa using ho) (by omega)
        rw [show k + 1 + i = k + (i + 1) by omega] at this
        exact this
theorem bits_bit {m : Nat} {ops : List LOper} {ws : List Bool} {i k : Nat} : ∀ {j : Nat}, k ∈ bitsOf m ops ws i j → m.testBit k = true ∧ k < j ∧ ∃ o, ops[k]? = some o ∧ (o.op.makes = true ∨ ws.getD k false = true)
  | 0, h => by simp [bitsOf] at h
  | j + 1, h => by
    unfold bitsOf at h
    revert h
    cases hb : (m.testBit j && (match ops[j]? with | some o => o.op.makes || ws.getD j false | none => false)) with
    | true =>
      intro h
      simp only [cond_true, List.mem_cons] at h
      rcases h with rfl | h
      · simp only [Bool.and_eq_true] at hb
        refine ⟨hb.1, by omega, ?_⟩
        cases ho : ops[k]? with
        | none => rw [ho] at hb; exact absurd hb.2 (by simp)
        | some o => rw [ho] at hb; exact ⟨o, rfl, by simpa using hb.2⟩
      · obtain ⟨h1, h2, h3⟩ := bits_bit h
        exact ⟨h1, by omega, h3⟩
    | false =>
      intro h
      obtain ⟨h1, h2, h3⟩ := bits_bit h
      exact ⟨h1, by omega, h3⟩
theorem own_mem {i k : Nat} {w : Bool} {l : List Nat} (h : k ∈ withOwn i w l) : (k = i ∧ w = true) ∨ k ∈ l := by
  cases l with
  | nil => cases h
  | cons j l =>
    unfold withOwn at h
    cases w with
    | true =>
      simp only [cond_true, List.mem_cons] at h ⊢
      rcases h with h | h
      · exact .inl ⟨h, trivial⟩
      · exact .inr h
    | false => exact .inr h
theorem anc_at {all : List LOper} {masks : List Nat} {ws : List Bool} : ∀ {os : List LOper} {k i : Nat}, (withAnc all masks ws os k)[i]? = (os[i]?).map fun o => { o with anc := withOwn (k + i) (ws.getD (k + i) false) (bitsOf (masks.getD (k + i) 0) all ws (k + i) (k + i)) }
  | [], k, i => by simp [withAnc]
  | o :: os, k, 0 => by simp [withAnc]
  | o :: os, k, i + 1 => by
    simp only [withAnc, List.getElem?_cons_succ]
    rw [anc_at, show k + 1 + i = k + (i + 1) by omega]
theorem may_at {all : List LOper} {masks : List Nat} {s : Nat} : ∀ {os : List LOper} {k i : Nat}, (mayAll all masks s os k).getD i false = true → ∃ o, os[i]? = some o ∧ k + i < s ∧ o.op.writes = true ∧ ancOk all masks (k + i) (k + i) = true
  | [], k, i, h => by simp [mayAll] at h
  | o :: os, k, 0, h => by
    simp only [mayAll, List.getD_cons_zero, Bool.and_eq_true] at h
    exact ⟨o, rfl, blt_lt h.1.1, h.1.2, h.2⟩
  | o :: os, k, i + 1, h => by
    simp only [mayAll, List.getD_cons_succ] at h
    obtain ⟨o', h1, h2, h3, h4⟩ := may_at h
    rw [show k + 1 + i = k + (i + 1) by omega] at h2 h4
    exact ⟨o', by simpa using h1, h2, h3, h4⟩
theorem alone_ok {all : List LOper} {masks : List Nat} {i k : Nat} : ∀ {n : Nat}, aloneOk all masks i k n = true → ∀ (j : Nat) (x : LOper), j < n → all[j]? = some x → x.op.touches = true → (masks.getD j 0).testBit k = true → j = i ∨ (masks.getD i 0).testBit j = true ∨ (masks.getD j 0).testBit i = true
  | 0, _, j, x, h, _ => by omega
  | n + 1, h, j, x, hj, hx => by
    simp only [aloneOk, Bool.and_eq_true] at h
    by_cases e : j = n
    · subst e
      intro ht hk
      have := h.1
      rw [hx] at this
      simp only [ht, hk, Bool.not_true, Bool.or_false, Bool.or_eq_true] at this
      rcases this with (h1 | h1) | h1
      · exact .inl (Nat.eq_of_beq_eq_true h1)
      · exact .inr (.inl h1)
      · exact .inr (.inr h1)
    · exact alone_ok h.2 j x (by omega) hx
theorem anc_ok {all : List LOper} {masks : List Nat} {i : Nat} : ∀ {n : Nat}, ancOk all masks i n = true → ∀ (k : Nat) (o : LOper), k < n → (masks.getD i 0).testBit k = true → all[k]? = some o → (o.op.makes = true ∨ o.op.writes = true) → aloneOk all masks i k all.length = true
  | 0, _, k, o, h, _ => by omega
  | n + 1, h, k, o, hk, hm => by
    simp only [ancOk, Bool.and_eq_true] at h
    by_cases e : k = n
    · subst e
      intro ho hw
      have := h.1
      rw [ho, hm] at this
      have hw' : (o.op.makes || o.op.writes) = true := by simpa using hw
      simpa only [hw', Bool.not_true, Bool.false_or] using this
    · exact anc_ok h.2 k o (by omega) hm
/-- What comes ahead has a lower number. -/
theorem mask_lt {os : List Oper} (hok : edgesOks os 0 = true) : ∀ (i : Nat) {o : Oper} {j : Nat}, os[i]? = some o → ((masksOf os []).getD i 0).testBit j = true → j < i := by
  intro i
  induction i using Nat.strongRecOn with
  | ind i ih =>
    intro o j ho h
    obtain ⟨e, h1, h2, h3⟩ := anc_edge ho h
    have he := edges_ok (k := 0) hok ho e h1 h2
    rw [Nat.zero_add] at he
    rcases h3 with rfl | h3
    · exact he
    · have hlt : i < os.length := by
        rcases Nat.lt_or_ge i os.length with h | h
        · exact h
        · rw [List.getElem?_eq_none h] at ho; cases ho
      have := ih e.on he (o := os[e.on]) (by simp [show e.on < os.length by omega]) h3
      omega

/-! the store that is put together -/
theorem new_from {h : Tr HBlk} : ∀ {n lo b : Nat} {x : HBlk}, (b, x) ∈ newFrom h lo n ↔ lo ≤ b ∧ b < lo + n ∧ h.get b = some x
  | 0, lo, b, x => by simp [newFrom]; omega
  | n + 1, lo, b, x => by
    unfold newFrom
    split
    · rename_i y hy
      simp only [List.mem_cons, Prod.mk.injEq, new_from (n := n) (lo := lo + 1)]
      constructor
      · rintro (⟨rfl, rfl⟩ | ⟨h1, h2, h3⟩)
        · exact ⟨by omega, by omega, hy⟩
        · exact ⟨by omega, by omega, h3⟩
      · rintro ⟨h1, h2, h3⟩
        by_cases e : b = lo
        · subst e; rw [hy] at h3; cases h3; exact .inl ⟨rfl, rfl⟩
        · exact .inr ⟨by omega, by omega, h3⟩
    · rename_i hy
      rw [new_from (n := n) (lo := lo + 1)]
      constructor
      · rintro ⟨h1, h2, h3⟩; exact ⟨by omega, by omega, h3⟩
      · rintro ⟨h1, h2, h3⟩
        refine ⟨?_, by omega, h3⟩
        rcases Nat.lt_or_eq_of_le h1 with h | h
        · exact h
        · subst h; rw [hy] at h3; cases h3
theorem add_get {b : Nat} {x : HBlk} : ∀ {l : List (Nat × HBlk)} {h : Tr HBlk}, (addAll h l).get b = some x → h.get b = some x ∨ (b, x) ∈ l
  | [], h, hx => .inl hx
  | (c, y) :: l, h, hx => by
    rcases add_get (l := l) hx with h1 | h1
    · rw [Tr.get_set] at h1
      by_cases e : b = c
      · subst e; rw [if_pos rfl] at h1; cases h1; exact .inr (by simp)
      · rw [if_neg e] at h1; exact .inl h1
    · exact .inr (by simp [h1])
theorem add_other {b : Nat} : ∀ {l : List (Nat × HBlk)} {h : Tr HBlk}, (∀ x, (b, x) ∉ l) → (addAll h l).get b = h.get b
  | [], h, _ => rfl
  | (c, y) :: l, h, hx => by
    have e : b ≠ c := fun e => hx y (by simp [e])
    rw [addAll, add_other (fun x hm => hx x (by simp [hm])), Tr.get_set, if_neg e]
theorem merge_get {anc : Option (List Nat)} {b : Nat} {x : HBlk} : ∀ {ds : List (Nat × List (Nat × HBlk))} {h : Tr HBlk}, (merge h anc ds).get b = some x → h.get b = some x ∨ ∃ j l, (j, l) ∈ ds ∧ (b, x) ∈ l ∧ ∀ asg, anc = some asg → j ∈ asg
  | [], h, hx => .inl hx
  | (j, l) :: ds, h, hx => by
    unfold merge at hx
    rcases merge_get hx with h1 | ⟨j', l', h1, h2⟩
    · cases anc with
      | none =>
        simp only [cond_true] at h1
        rcases add_get h1 with h1 | h1
        · exact .inl h1
        · exact .inr ⟨j, l, by simp, h1, fun _ h => by cases h⟩
      | some asg =>
        simp only at h1
        cases hc : asg.contains j with
        | true =>
          rw [hc] at h1
          rcases add_get h1 with h1 | h1
          · exact .inl h1
          · exact .inr ⟨j, l, by simp, h1, fun _ h => by cases h; simpa using hc⟩
        | false => rw [hc] at h1; exact .inl h1
    · exact .inr ⟨j', l', by simp [h1], h2⟩
theorem merge_other {anc : Option (List Nat)} {b : Nat} : ∀ {ds : List (Nat × List (Nat × HBlk))} {h : Tr HBlk}, (∀ j l, (j, l) ∈ ds → ∀ x, (b, x) ∉ l) → (merge h anc ds).get b = h.get b
  | [], h, _ => rfl
  | (j, l) :: ds, h, hx => by
    unfold merge
    rw [merge_other (fun j' l' hm => hx j' l' (by simp [hm]))]
    cases anc with
    | none => exact add_other (hx j l (by simp))
    | some asg =>
      simp only
      cases asg.contains j with
      | true => exact add_other (hx j l (by simp))
      | false => rfl

/-! runs on a part of a store -/
theorem Post.wide {base fl nx nx' n0 n1 : Nat} {g g' : Hp} {ρ ρ' : Rho} {W W' : World} (h : Post P base fl nx nx' g g' ρ ρ' W W') (h0 : n0 ≤ nx) (h1 : nx' ≤ n1) : Post P base fl n0 n1 g g' ρ ρ' W W' :=
  { h with out := fun b hb => h.out b (by omega) }
theorem Post.and {base fl nx nx' : Nat} {g g1 g' : Hp} {ρ ρ1 ρ' : Rho} {W W1 W' : World} (h : Post P base fl nx nx' g g1 ρ ρ1 W W1) (k : Post P base fl nx nx' g1 g' ρ1 ρ' W1 W') : Post P base fl nx nx' g g' ρ ρ' W W' :=
  { ext := fun b r hr => k.ext b r (h.ext b r hr)
    out := fun b hb => (k.out b hb).trans (h.out b hb)
    sim := k.sim
    os := k.os.trans h.os
    tape := k.tape.trans h.tape
    output := k.output.trans h.output
    frz := fun a => (k.frz a).trans (h.frz a)
    size := Nat.le_trans h.size k.size
    same := fun i hi hm => by
      refine (k.same i (Nat.lt_of_lt_of_le hi h.size) fun hm1 => ?_).trans (h.same i hi hm)
      rcases h.own i hm1 with h1 | h1
      · omega
      · exact hm h1
    own := fun i hm => by
      rcases k.own i hm with h1 | h1
      · exact .inl (Nat.le_trans h.size h1)
      · exact h.own i h1 }
/-- On a greater store. -/
theorem Post.more {base fl nx nx' : Nat} {g gs g' : Hp} {ρ ρ' : Rho} {W W' : World} (h : Post P base fl nx nx' gs g' ρ ρ' W W') (hs : ∀ b x, gs b = some x → g b = some x) : Post P base fl nx nx' g g' ρ ρ' W W' :=
  { h with
    same := fun k hk hm => h.same k hk fun ⟨b, x, r, h1, h2⟩ => hm ⟨b, x, r, hs _ _ h1, h2⟩
    own := fun k hk => (h.own k hk).imp id fun ⟨b, x, r, h1, h2⟩ => ⟨b, x, r, hs _ _ h1, h2⟩ }
/-- Of what is there at the end, a part. -/
theorem Post.less {base fl nx nx' : Nat} {g g' gs : Hp} {ρ ρ' : Rho} {W W' : World} (h : Post P base fl nx nx' g g' ρ ρ' W W') (hs : ∀ b x, gs b = some x → g' b = some x) : Post P base fl nx nx' g gs ρ ρ' W W' :=
  { h with
    sim := h.sim.less hs
    own := fun k ⟨b, x, r, h1, h2⟩ => h.own k ⟨b, x, r, hs _ _ h1, h2⟩ }
/-- What only lays blocks, on a part of a store: it lays them beside all of it. -/
theorem Post.frame {base fl fp nx nx' : Nat} {g gs gs' : Hp} {ρ ρ' : Rho} {W W' : World} (hs : Sim P base g ρ W) (hdom : ∀ b x, gs b = some x → b < nx) (hfp : fp = nx)
    (h : Post P base fp nx nx' gs gs' ρ ρ' W W') : Post P base fl nx nx' g (fun b => if nx ≤ b ∧ b < nx' then gs' b else g b) ρ ρ' W W' := by
  subst hfp
  have none : ∀ k, ¬ May fp gs ρ k := fun k ⟨b, x, r, h1, _, h3, _⟩ => by have := hdom b x h1; omega
  have keep : ∀ k, k < W.heap.size → W'.heap[k]? = W.heap[k]? := fun k hk => h.same k hk (none k)
  have old : ∀ b y, g b = some y → BOk P base ρ' W' b y := fun b y hy => by
    refine (hs.ok b y hy).keep h.ext fun r hr => keep _ ?_
    obtain ⟨r', hr', hlt, _⟩ := (hs.ok b y hy).has
    rw [hr] at hr'; cases hr'; exact hlt
  have oldblk : ∀ b y r, g b = some y → ρ' b = some r → ρ b = some r ∧ r.blk < W.heap.size := fun b y r hy hr => by
    obtain ⟨r', hr', hlt, _⟩ := (hs.ok b y hy).has
    have := h.ext _ _ hr'
    rw [hr] at this; cases this
    exact ⟨hr', hlt⟩
  have newblk : ∀ b y r, fp ≤ b → gs' b = some y → y.own = true → ρ' b = some r → W.heap.size ≤ r.blk := fun b y r hb hy ho hr =>
    (h.own r.blk ⟨b, y, r, hy, ho, hb, hr, rfl⟩).resolve_right (none _)
  refine ⟨h.ext, h.out, ⟨fun b x hx => ?_, fun b b' x x' r r' h1 h2 h3 h4 h5 h6 h7 => ?_⟩, h.os, h.tape, h.output, h.frz, h.size, fun k hk _ => keep k hk, fun k ⟨b, x, r, h1, h2, h3, h4, h5⟩ => ?_⟩
  · split at hx
    · exact h.sim.ok b x hx
    · exact old b x hx
  · by_cases c1 : fp ≤ b ∧ b < nx' <;> by_cases c2 : fp ≤ b' ∧ b' < nx'
    · rw [if_pos c1] at h1; rw [if_pos c2] at h2
      exact h.sim.inj b b' x x' r r' h1 h2 h3 h4 h5 h6 h7
    · rw [if_pos c1] at h1; rw [if_neg c2] at h2
      have q1 := newblk b x r c1.1 h1 h3 h6
      have q2 := (oldblk b' x' r' h2 h7).2
      omega
    · rw [if_neg c1] at h1; rw [if_pos c2] at h2
      have q1 := newblk b' x' r' c2.1 h2 h4 h7
      have q2 := (oldblk b x r h1 h6).2
      omega
    · rw [if_neg c1] at h1; rw [if_neg c2] at h2
      exact hs.inj b b' x x' r r' h1 h2 h3 h4 h5 (oldblk _ _ _ h1 h6).1 (oldblk _ _ _ h2 h7).1
  · by_cases c : fp ≤ b ∧ b < nx'
    · simp only [if_pos c] at h1
      exact .inl (h5 ▸ newblk b x r c.1 h1 h2 h4)
    · simp only [if_neg c] at h1
      exact .inr ⟨b, x, r, h1, h2, h3, (oldblk _ _ _ h1 h4).1, h5⟩
/-- What may write some of what it sees, of a part of a store: the rest of the store is as it was. -/
theorem Post.frameW {base fl fp nx nx' : Nat} {g gs gs' : Hp} {ρ ρ' : Rho} {W W' : World} (hs : Sim P base g ρ W) (hsub : ∀ b x, gs b = some x → g b = some x) (hfl : fl ≤ fp) (hfp : fp ≤ nx) (hlow : ∀ b, b < fp → gs' b = gs b)
    (h : Post P base fp nx nx' gs gs' ρ ρ' W W') : Post P base fl nx nx' g (fun b => if (nx ≤ b ∧ b < nx') ∨ (gs b).isSome = true then gs' b else g b) ρ ρ' W W' := by
  -- a block that is not seen lies nowhere where the run may write
  have apart : ∀ b y r, g b = some y → (gs b).isSome ≠ true → ρ b = some r → ¬ May fp gs ρ r.blk := by
    rintro b y r hy hn hr ⟨b1, x1, r1, h1, h2, h3, h4, h5⟩
    have hne : b ≠ b1 := fun e => hn (by rw [e, h1]; rfl)
    cases ho : y.own with
    | true => exact hs.inj b b1 y x1 r r1 hy (hsub _ _ h1) ho h2 hne hr h4 h5.symm
    | false =>
      obtain ⟨r2, e2, _, _, lo⟩ := (hs.ok b y hy).has
      rw [hr] at e2; cases e2
      obtain ⟨r3, e3, _, hi, _⟩ := (hs.ok b1 x1 (hsub _ _ h1)).has
      rw [h4] at e3; cases e3
      have := lo ho
      have := hi h2
      omega
  have old : ∀ b y, g b = some y → (gs b).isSome ≠ true → BOk P base ρ' W' b y := fun b y hy hn => by
    refine (hs.ok b y hy).keep h.ext fun r hr => h.same _ ?_ (apart b y r hy hn hr)
    obtain ⟨r', hr', hlt, _⟩ := (hs.ok b y hy).has
    rw [hr] at hr'; cases hr'; exact hlt
  have oldblk : ∀ b y r, g b = some y → ρ' b = some r → ρ b = some r ∧ r.blk < W.heap.size := fun b y r hy hr => by
    obtain ⟨r', hr', hlt, _⟩ := (hs.ok b y hy).has
    have := h.ext _ _ hr'
    rw [hr] at this; cases this
    exact ⟨hr', hlt⟩
  -- what is seen, or new, and what is not seen lie apart
  have cross : ∀ b b' x x' r r', gs' b = some x → g b' = some x' → (gs b').isSome ≠ true → x.own = true → x'.own = true → b ≠ b' → ρ' b = some r → ρ' b' = some r' → r.blk ≠ r'.blk := by
    intro b b' x x' r r' h1 h2 hn h3 h4 h5 h6 h7
    obtain ⟨q1, q2⟩ := oldblk b' x' r' h2 h7
    by_cases c : b < fp
    · have e1 : gs b = some x := (hlow b c) ▸ h1
      exact hs.inj b b' x x' r r' (hsub _ _ e1) h2 h3 h4 h5 (oldblk b x r (hsub _ _ e1) h6).1 q1
    · rcases h.own r.blk ⟨b, x, r, h1, h3, by omega, h6, rfl⟩ with h8 | h8
      · omega
      · intro e
        rw [e] at h8
        exact apart b' x' r' h2 hn q1 h8
  refine ⟨h.ext, h.out, ⟨fun b x hx => ?_, fun b b' x x' r r' h1 h2 h3 h4 h5 h6 h7 => ?_⟩, h.os, h.tape, h.output, h.frz, h.size, fun k hk hm => ?_, fun k ⟨b, x, r, h1, h2, h3, h4, h5⟩ => ?_⟩
  · split at hx
    · exact h.sim.ok b x hx
    · rename_i c
      exact old b x hx (fun e => c (.inr e))
  · by_cases c1 : (nx ≤ b ∧ b < nx') ∨ (gs b).isSome = true <;> by_cases c2 : (nx ≤ b' ∧ b' < nx') ∨ (gs b').isSome = true
    · rw [if_pos c1] at h1; rw [if_pos c2] at h2
      exact h.sim.inj b b' x x' r r' h1 h2 h3 h4 h5 h6 h7
    · rw [if_pos c1] at h1; rw [if_neg c2] at h2
      exact cross b b' x x' r r' h1 h2 (fun e => c2 (.inr e)) h3 h4 h5 h6 h7
    · rw [if_neg c1] at h1; rw [if_pos c2] at h2
      exact (cross b' b x' x r' r h2 h1 (fun e => c1 (.inr e)) h4 h3 (Ne.symm h5) h7 h6).symm
    · rw [if_neg c1] at h1; rw [if_neg c2] at h2
      exact hs.inj b b' x x' r r' h1 h2 h3 h4 h5 (oldblk _ _ _ h1 h6).1 (oldblk _ _ _ h2 h7).1
  · refine h.same k hk ?_
    rintro ⟨b, x, r, h1, h2, h3, h4, h5⟩
    exact hm ⟨b, x, r, hsub _ _ h1, h2, by omega, h4, h5⟩
  · by_cases c : (nx ≤ b ∧ b < nx') ∨ (gs b).isSome = true
    · simp only [if_pos c] at h1
      by_cases c2 : b < fp
      · have e1 : gs b = some x := (hlow b c2) ▸ h1
        exact .inr ⟨b, x, r, hsub _ _ e1, h2, h3, (oldblk b x r (hsub _ _ e1) h4).1, h5⟩
      · rcases h.own k ⟨b, x, r, h1, h2, by omega, h4, h5⟩ with h6 | ⟨b1, x1, r1, g1, g2, g3, g4, g5⟩
        · exact .inl h6
        · exact .inr ⟨b1, x1, r1, hsub _ _ g1, g2, by omega, g4, g5⟩
    · simp only [if_neg c] at h1
      exact .inr ⟨b, x, r, h1, h2, h3, (oldblk _ _ _ h1 h4).1, h5⟩
/-- What writes lays nothing under an old number. -/
theorem writes_keep {o : LOper} {fl : Nat} {a : HAct} {σ σ' : HS} {v : HV} (hw : o.op.writes = true) (h : stepVal lp ex fl o a σ = some (v, σ')) : ∀ b, b < σ.nx → σ.h.get b = none → σ'.h.get b = none := by
  intro b hb hn
  have wr : ∀ (σ1 : HS) p vs, σ.write fl p vs = some σ1 → σ1.h.get b = none := by
    intro σ1 p vs hx
    unfold HS.write at hx
    have upd : ∀ cs k, σ.h.get p.1 = some (.cells cs k) → ∀ y, (σ.upd p.1 y).h.get b = none := by
      intro cs k hg y
      show ((σ.h.set p.1 y).get b) = none
      rw [Tr.get_set]
      by_cases e : b = p.1
      · rw [e, hg] at hn; cases hn
      · rw [if_neg e]; exact hn
    split at hx
    · cases hx
    · rename_i cs k hne hg
      revert hx
      generalize (Nat.ble fl p.1 && vs.all HV.one) = c
      intro hx
      cases c with
      | false => cases hx
      | true =>
        simp only [cond_true, Option.map_eq_some_iff] at hx
        obtain ⟨cs', _, rfl⟩ := hx
        exact upd _ _ hg _
    · cases hx
  unfold stepVal at h
  cases hg : wantedH o.g a with
  | false => rw [hg] at h; cases h; exact hn
  | true =>
    rw [hg] at h
    simp only [cond_true] at h
    cases hop : o.op <;> rw [hop] at h hw <;> simp only [LOp.writes, reduceCtorEq] at hw <;> simp only [opH] at h
    case store n x y =>
      unfold oStore at h
      split at h
      · rename_i p hp
        revert h
        generalize Nat.beq _ n = c
        intro h
        cases c with
        | false => cases h
        | true =>
          simp only [cond_true] at h
          split at h
          · rename_i σ1 h1
            cases h
            exact wr _ _ _ h1
          · cases h
      · cases h
    case mapUpdate d m k y =>
      unfold oMapUpdate at h
      revert h
      generalize keyOk d (a.ev k) = c
      intro h
      cases c with
      | false => cases h
      | true =>
        simp only [cond_true] at h
        split at h
        · rename_i r hr
          split at h
          · rename_i es hes
            revert h
            generalize Nat.ble fl r = c
            intro h
            cases c with
            | false => cases h
            | true =>
              simp only [cond_true] at h
              split at h
              · cases h
                show ((σ.h.set r _).get b) = none
                rw [Tr.get_set]
                by_cases e : b = r
                · rw [e, hes] at hn; cases hn
                · rw [if_neg e]; exact hn
              · cases h
          · cases h
        · cases h
    case copy size x y =>
      unfold oCopy at h
      unfold copyH at h
      split at h
      · split at h
        · cases h
        · split at h
          · cases h; exact hn
          · cases h
          · simp only [Option.map_eq_some_iff] at h
            obtain ⟨σ1, h1, h2⟩ := h
            cases h2
            exact wr _ _ _ h1
      · cases h
    case append size bytes s x =>
      unfold oAppend at h
      have new : ∀ (σ1 : HS) blk, σ1.nx = σ.nx → σ1.h.get b = none → (σ1.new blk).h.get b = none := by
        intro σ1 blk e1 e2
        show ((σ1.h.set σ1.nx (some blk)).get b) = none
        rw [Tr.get_set, if_neg (by omega)]
        exact e2
      unfold appendH at h
      split at h
      · rename_i sa sl sc xa xl xc hsv hxv
        split at h
        · cases h
        · rename_i news hnews
          revert h
          generalize Nat.ble (sl + xl) sc = c1
          intro h
          cases c1 with
          | true =>
            simp only [cond_true] at h
            split at h
            · cases h; exact hn
            · cases h
            · simp only [Option.map_eq_some_iff] at h
              obtain ⟨σ1, h1, h2⟩ := h
              cases h2
              exact wr _ _ _ h1
          | false =>
            simp only [cond_false] at h
            revert h
            generalize (Nat.ble ((sl + xl) * bytes) 35184372088832 && Nat.ble (sl + xl) 35184372088832 && Nat.blt 0 size) = c2
            intro h
            cases c2 with
            | false => cases h
            | true =>
              simp only [cond_true] at h
              split at h
              · revert h
                generalize Nat.beq sl 0 = c3
                intro h
                cases c3 with
                | false => cases h
                | true => cases h; exact new _ _ rfl hn
              · split at h
                · cases h; exact new _ _ rfl hn
                · rename_i a1 cs z old hg1 hr1
                  revert h
                  generalize (Nat.ble fl _ && Nat.beq z size && Nat.beq _ _ && news.all HV.one) = c3
                  intro h
                  cases c3 with
                  | false => cases h
                  | true =>
                    cases h
                    refine new _ _ rfl ?_
                    show ((σ.h.set _ none).get b) = none
                    rw [Tr.get_set]
                    split
                    · rfl
                    · exact hn
                · cases h
      · cases h
end Go.Hx

/- The plain machine and Go's: regions that draw their order, third part: what a run in the order of the text has gone through. -/
namespace Go.Hx
variable {P : Program} {lp : Nat → Option LFunc} {ex : Ex}

/-- Which operations may write what those ahead of them have laid: N tells for each one those that it sees. -/
def Fl (N : Nat → List Nat) (j : Nat) : Prop := (N j).contains j = true
/-- What an operation has laid, or holds from then on. -/
def Hold (N : Nat → List Nat) (n0 : Nat) (S S' : Nat → HS) (j b : Nat) : Prop := ((S j).nx ≤ b ∨ (Fl N j ∧ n0 ≤ b)) ∧ b < (S' j).nx
/-- Nobody from lo up to hi holds what j held. -/
def Live (N : Nat → List Nat) (j lo hi : Nat) : Prop := ∀ m, lo ≤ m → m < hi → Fl N m → j ∉ N m
theorem drop_in {anc : List Nat} {j : Nat} {l : List (Nat × HBlk)} : ∀ {ds : List (Nat × List (Nat × HBlk))}, (j, l) ∈ dropAll anc ds → (j, l) ∈ ds ∧ j ∉ anc
  | [], h => by cases h
  | (k, m) :: ds, h => by
    unfold dropAll at h
    revert h
    cases hc : anc.contains k with
    | true => intro h; obtain ⟨h1, h2⟩ := drop_in h; exact ⟨by simp [h1], h2⟩
    | false =>
      intro h
      simp only [cond_false, List.mem_cons, Prod.mk.injEq] at h
      rcases h with ⟨rfl, rfl⟩ | h
      · refine ⟨by simp, fun hm => ?_⟩
        have : anc.contains j = true := by simpa using hm
        rw [this] at hc; cases hc
      · obtain ⟨h1, h2⟩ := drop_in h
        exact ⟨by simp [h1], h2⟩

/-- From the operation i on: what lay before each one and behind it. -/
structure Trace (lp : Nat → Option LFunc) (ex : Ex) (fl s n0 : Nat) (h0 : Tr HBlk) (N : Nat → List Nat) (os : List LOper) (i : Nat) (done : List (Nat × List (Nat × HBlk))) (v : Nat → HV) (A : Nat → HAct) (S S' : Nat → HS) (z : Nat) : Prop where
  lo : i ≤ z
  hi : z ≤ i + os.length
  side : ∀ k, k < os.length → (i + k < z ↔ i + k < s)
  act : ∀ k o, os[k]? = some o → A (i + k + 1) = (A (i + k)).put o.dst (v (i + k))
  pure : ∀ k o, os[k]? = some o → i + k < z → stepVal lp ex (bif (N (i + k)).contains (i + k) then Nat.max fl n0 else Nat.max fl (S (i + k)).nx) o (A (i + k)) (S (i + k)) = some (v (i + k), S' (i + k)) ∧ (S (i + k)).nx ≤ (S' (i + k)).nx ∧ (S (i + k + 1)).nx = (S' (i + k)).nx
  from_ : ∀ k, k < os.length → i + k < z → ∀ b x, (S (i + k)).h.get b = some x → h0.get b = some x ∨ (∃ j l, (j, l) ∈ done ∧ (b, x) ∈ l ∧ j ∈ N (i + k) ∧ Live N j i (i + k)) ∨ ∃ j, i ≤ j ∧ j < i + k ∧ j ∈ N (i + k) ∧ Live N j (j + 1) (i + k) ∧ Hold N n0 S S' j b ∧ (S' j).h.get b = some x
  zone : ∀ k o, os[k]? = some o → z ≤ i + k → stepVal lp ex fl o (A (i + k)) (S (i + k)) = some (v (i + k), S' (i + k)) ∧ S (i + k + 1) = S' (i + k)
  all : ∀ b x, (S z).h.get b = some x → h0.get b = some x ∨ (∃ j l, (j, l) ∈ done ∧ (b, x) ∈ l ∧ Live N j i z) ∨ ∃ j, i ≤ j ∧ j < z ∧ Live N j (j + 1) z ∧ Hold N n0 S S' j b ∧ (S' j).h.get b = some x
  other : ∀ b, (∀ j l, (j, l) ∈ done → ∀ x, (b, x) ∉ l) → (∀ j, i ≤ j → j < z → ¬ Hold N n0 S S' j b) → (S z).h.get b = h0.get b

theorem seq_trace {fl : Nat} : ∀ (os : List LOper) (i : Nat) (a a' : HAct) (σ σ' : HS), runOps lp ex fl os a σ = some (a', σ') →
    ∃ (v : Nat → HV) (A : Nat → HAct) (S : Nat → HS), A i = a ∧ S i = σ ∧ A (i + os.length) = a' ∧ S (i + os.length) = σ' ∧ ∀ k o, os[k]? = some o → stepVal lp ex fl o (A (i + k)) (S (i + k)) = some (v (i + k), S (i + k + 1)) ∧ A (i + k + 1) = (A (i + k)).put o.dst (v (i + k))
  | [], i, a, a', σ, σ', h => by
    cases h
    exact ⟨fun _ => .undef, fun _ => a, fun _ => σ, rfl, rfl, rfl, rfl, fun k o ho => by simp at ho⟩
  | o :: os, i, a, a', σ, σ', h => by
    unfold runOps at h
    split at h
    · rename_i a1 σ1 h1
      obtain ⟨v0, hv, rfl⟩ := step_val h1
      obtain ⟨v, A, S, e1, e2, e3, e4, e5⟩ := seq_trace os (i + 1) _ a' σ1 σ' h
      refine ⟨fun j => if j = i then v0 else v j, fun j => if j = i then a else A j, fun j => if j = i then σ else S j, by simp, by simp, ?_, ?_, ?_⟩
      · rw [List.length_cons]; dsimp only; rw [if_neg (by omega), ← e3]; congr 1; omega
      · rw [List.length_cons]; dsimp only; rw [if_neg (by omega), ← e4]; congr 1; omega
      · intro k o' ho
        cases k with
        | zero =>
          simp at ho
          subst ho
          simp only [Nat.add_zero, if_true, if_neg (show ¬ i + 1 = i by omega), e1, e2]
          exact ⟨hv, trivial⟩
        | succ k =>
          have := e5 k o' (by simpa using ho)
          dsimp only
          rw [if_neg (by omega), if_neg (by omega), if_neg (by omega), if_neg (by omega), if_neg (by omega)]
          rw [show i + (k + 1) = i + 1 + k by omega]
          exact this
    · cases h
theorem draw_trace {fl s n0 : Nat} {h0 : Tr HBlk} {N : Nat → List Nat} : ∀ (os : List LOper) (i : Nat) (done : List (Nat × List (Nat × HBlk))) (a a' : HAct) (nx : Nat) (σ' : HS), (∀ k o, os[k]? = some o → o.anc = N (i + k)) → drawOps lp ex fl s n0 h0 os i done a nx = some (a', σ') →
    ∃ (v : Nat → HV) (A : Nat → HAct) (S S' : Nat → HS) (z : Nat), A i = a ∧ (S i).nx = nx ∧ A (i + os.length) = a' ∧ S (i + os.length) = σ' ∧ Trace lp ex fl s n0 h0 N os i done v A S S' z
  | [], i, done, a, a', nx, σ', hN, h => by
    cases h
    refine ⟨fun _ => .undef, fun _ => a, fun _ => ⟨merge h0 none done, nx⟩, fun _ => ⟨merge h0 none done, nx⟩, i, rfl, rfl, rfl, rfl, Nat.le_refl _, by simp, fun k hk => by simp at hk, fun k o ho => by simp at ho, fun k o ho => by simp at ho, fun k ho => by simp at ho, fun k o ho => by simp at ho, fun b x hx => ?_, fun b hb _ => merge_other hb⟩
    rcases merge_get hx with h1 | ⟨j, l, h1, h2, _⟩
    · exact .inl h1
    · exact .inr (.inl ⟨j, l, h1, h2, fun m h3 h4 => by omega⟩)
  | o :: os, i, done, a, a', nx, σ', hN, h => by
    have hNi : o.anc = N i := by have := hN 0 o rfl; simpa using this
    unfold drawOps at h
    cases hc : Nat.blt i s with
    | false =>
      rw [hc] at h
      have hs : s ≤ i := by
        have : ¬ i < s := by intro h; rw [← Nat.blt_eq] at h; rw [h] at hc; cases hc
        omega
      obtain ⟨v, A, S, e1, e2, e3, e4, e5⟩ := seq_trace (o :: os) i a a' _ σ' h
      refine ⟨v, A, S, fun j => S (j + 1), i, e1, by rw [e2], e3, e4, Nat.le_refl _, by simp, fun k _ => by omega, fun k o ho => (e5 k o ho).2, fun k o ho hk => by omega, fun k ho hk => by omega, fun k o ho _ => ⟨(e5 k o ho).1, rfl⟩, fun b x hx => ?_, fun b hb _ => ?_⟩
      · rw [e2] at hx
        rcases merge_get hx with h1 | ⟨j, l, h1, h2, _⟩
        · exact .inl h1
        · exact .inr (.inl ⟨j, l, h1, h2, fun m h3 h4 => by omega⟩)
      · rw [e2]; exact merge_other hb
    | true =>
      have hs := blt_lt hc
      rw [hc] at h
      simp only [cond_true] at h
      have key : ∃ (v0 : HV) (σ1 : HS) (done' : List (Nat × List (Nat × HBlk))), stepVal lp ex (bif (N i).contains i then Nat.max fl n0 else Nat.max fl nx) o a ⟨merge h0 (some o.anc) done, nx⟩ = some (v0, σ1) ∧ nx ≤ σ1.nx ∧
          drawOps lp ex fl s n0 h0 os (i + 1) done' (a.put o.dst v0) σ1.nx = some (a', σ') ∧
          (∀ j l, (j, l) ∈ done' → ((j, l) ∈ done ∧ (Fl N i → j ∉ N i)) ∨ (j = i ∧ ∀ b x, (b, x) ∈ l → ((nx ≤ b ∨ (Fl N i ∧ n0 ≤ b)) ∧ b < σ1.nx) ∧ σ1.h.get b = some x)) := by
        cases hw : o.anc.contains i with
        | true =>
          rw [hw] at h
          simp only [cond_true] at h
          split at h
          · rename_i a1 σ1 h1
            obtain ⟨v0, hv, rfl⟩ := step_val h1
            cases hle : Nat.ble nx σ1.nx with
            | false => rw [hle] at h; cases h
            | true =>
              rw [hle] at h
              simp only [Bool.not_true, cond_false] at h
              refine ⟨v0, σ1, _, by rw [← hNi, hw]; exact hv, Nat.le_of_ble_eq_true hle, h, fun j l hm => ?_⟩
              simp only [List.mem_cons, Prod.mk.injEq] at hm
              rcases hm with ⟨rfl, rfl⟩ | hm
              · refine .inr ⟨rfl, fun b x hx => ?_⟩
                rw [new_from] at hx
                exact ⟨⟨.inr ⟨by unfold Fl; rw [← hNi]; exact hw, hx.1⟩, by omega⟩, hx.2.2⟩
              · obtain ⟨h2, h3⟩ := drop_in hm
                exact .inl ⟨h2, fun _ => by rw [← hNi]; exact h3⟩
          · cases h
        | false =>
          rw [hw] at h
          simp only [cond_false] at h
          split at h
          · rename_i a1 σ1 h1
            obtain ⟨v0, hv, rfl⟩ := step_val h1
            cases hle : Nat.ble nx σ1.nx with
            | false => rw [hle] at h; cases h
            | true =>
              rw [hle] at h
              simp only [Bool.not_true, cond_false] at h
              refine ⟨v0, σ1, _, by rw [← hNi, hw]; exact hv, Nat.le_of_ble_eq_true hle, h, fun j l hm => ?_⟩
              rw [cond_beq] at hm
              have nf : ¬ Fl N i := by unfold Fl; rw [← hNi, hw]; decide
              split at hm
              · exact .inl ⟨hm, fun e => absurd e nf⟩
              · simp only [List.mem_cons, Prod.mk.injEq] at hm
                rcases hm with ⟨rfl, rfl⟩ | hm
                · refine .inr ⟨rfl, fun b x hx => ?_⟩
                  rw [new_from] at hx
                  exact ⟨⟨.inl hx.1, by omega⟩, hx.2.2⟩
                · exact .inl ⟨hm, fun e => absurd e nf⟩
          · cases h
      obtain ⟨v0, σ1, done', hv, hle, h, inD⟩ := key
      obtain ⟨v, A, S, S', z, e1, e2, e3, e4, t⟩ := draw_trace os (i + 1) done' _ a' σ1.nx σ' (fun k o' ho => by have := hN (k + 1) o' (by simpa using ho); rw [this]; congr 1; omega) h
      have tlo := t.lo
      have thi := t.hi
      have hold : ∀ j b, j ≠ i → (Hold N n0 (fun j => if j = i then ⟨merge h0 (some o.anc) done, nx⟩ else S j) (fun j => if j = i then σ1 else S' j) j b ↔ Hold N n0 S S' j b) := fun j b hj => by
        unfold Hold
        simp only [if_neg hj]
      have hold0 : ∀ b, (Hold N n0 (fun j => if j = i then ⟨merge h0 (some o.anc) done, nx⟩ else S j) (fun j => if j = i then σ1 else S' j) i b ↔ ((nx ≤ b ∨ (Fl N i ∧ n0 ≤ b)) ∧ b < σ1.nx)) := fun b => by
        unfold Hold
        simp only [if_true]
      have live : ∀ j k, (Fl N i → j ∉ N i) → Live N j (i + 1) k → Live N j i k := fun j k h1 h2 m h3 h4 h5 => by
        by_cases e : m = i
        · subst e; exact h1 h5
        · exact h2 m (by omega) h4 h5
      refine ⟨fun j => if j = i then v0 else v j, fun j => if j = i then a else A j, fun j => if j = i then ⟨merge h0 (some o.anc) done, nx⟩ else S j, fun j => if j = i then σ1 else S' j, z, by simp, by simp, ?_, ?_, by omega, by simp; omega, ?_, ?_, ?_, ?_, ?_, ?_, ?_⟩
      · rw [List.length_cons]; dsimp only; rw [if_neg (by omega), ← e3]; congr 1; omega
      · rw [List.length_cons]; dsimp only; rw [if_neg (by omega), ← e4]; congr 1; omega
      · intro k hk
        cases k with
        | zero => constructor <;> intro _ <;> omega
        | succ k =>
          have := t.side k (by simpa using hk)
          rw [show i + (k + 1) = i + 1 + k by omega]
          exact this
      · intro k o' ho
        cases k with
        | zero =>
          simp at ho
          subst ho
          simp only [Nat.add_zero, if_true, if_neg (show ¬ i + 1 = i by omega), e1]
        | succ k =>
          have := t.act k o' (by simpa using ho)
          rw [if_neg (by omega), if_neg (by omega), if_neg (by omega)]
          rw [show i + (k + 1) = i + 1 + k by omega]
          exact this
      · intro k o' ho hk
        cases k with
        | zero =>
          simp at ho
          subst ho
          simp only [Nat.add_zero, if_true, if_neg (show ¬ i + 1 = i by omega), e2]
          exact ⟨hv, hle, trivial⟩
        | succ k =>
          have := t.pure k o' (by simpa using ho) (by omega)
          rw [if_neg (by omega), if_neg (by omega), if_neg (by omega), if_neg (by omega), if_neg (by omega)]
          rw [show i + (k + 1) = i + 1 + k by omega]
          exact this
      · intro k hkl hk b x hx
        cases k with
        | zero =>
          simp only [Nat.add_zero, if_true] at hx
          rcases merge_get hx with h1 | ⟨j, l, h1, h2, h3⟩
          · exact .inl h1
          · exact .inr (.inl ⟨j, l, h1, h2, by rw [Nat.add_zero, ← hNi]; exact h3 _ rfl, fun m h3 h4 => by omega⟩)
        | succ k =>
          simp only [if_neg (show ¬ i + (k + 1) = i by omega)] at hx
          rw [show i + (k + 1) = i + 1 + k by omega] at hx ⊢
          rcases t.from_ k (by simpa using hkl) (by omega) b x hx with h1 | ⟨j, l, h1, h2, h3, h4⟩ | ⟨j, h1, h2, h3, h4, h5, h6⟩
          · exact .inl h1
          · rcases inD j l h1 with ⟨h5, h6⟩ | ⟨rfl, h5⟩
            · exact .inr (.inl ⟨j, l, h5, h2, h3, live j _ h6 h4⟩)
            · obtain ⟨h6, h7⟩ := h5 b x h2
              refine .inr (.inr ⟨j, by omega, by omega, h3, h4, (hold0 b).2 h6, ?_⟩)
              simp only [if_true]
              exact h7
          · refine .inr (.inr ⟨j, by omega, by omega, h3, h4, (hold j b (by omega)).2 h5, ?_⟩)
            simp only [if_neg (show ¬ j = i by omega)]
            exact h6
      · intro k o' ho hk
        cases k with
        | zero => omega
        | succ k =>
          have := t.zone k o' (by simpa using ho) (by omega)
          rw [if_neg (by omega), if_neg (by omega), if_neg (by omega), if_neg (by omega), if_neg (by omega)]
          rw [show i + (k + 1) = i + 1 + k by omega]
          exact this
      · intro b x hx
        simp only [if_neg (show ¬ z = i by omega)] at hx
        rcases t.all b x hx with h1 | ⟨j, l, h1, h2, h3⟩ | ⟨j, h1, h2, h4, h5, h6⟩
        · exact .inl h1
        · rcases inD j l h1 with ⟨h5, h6⟩ | ⟨rfl, h5⟩
          · exact .inr (.inl ⟨j, l, h5, h2, live j _ h6 h3⟩)
          · obtain ⟨h6, h7⟩ := h5 b x h2
            refine .inr (.inr ⟨j, by omega, by omega, h3, (hold0 b).2 h6, ?_⟩)
            simp only [if_true]
            exact h7
        · refine .inr (.inr ⟨j, by omega, by omega, h4, (hold j b (by omega)).2 h5, ?_⟩)
          simp only [if_neg (show ¬ j = i by omega)]
          exact h6
      · intro b hb hj
        simp only [if_neg (show ¬ z = i by omega)]
        refine t.other b (fun j l hm x hx => ?_) (fun j h1 h2 h3 => ?_)
        · rcases inD j l hm with ⟨hm, _⟩ | ⟨rfl, h5⟩
          · exact hb j l hm x hx
          · exact hj j (by omega) (by omega) ((hold0 b).2 (h5 b x hx).1)
        · exact hj j (by omega) h2 ((hold j b (by omega)).2 h3)
theorem draw_le (hle : ExLe ex) : DrawLe lp ex := by
  intro fl s ops a a' σ σ' h
  obtain ⟨v, A, S, S', z, e1, e2, e3, e4, t⟩ := draw_trace (N := fun k => ((ops[k]?).map (·.anc)).getD []) ops 0 [] a a' σ.nx σ' (fun k o ho => by simp [ho]) h
  have : ∀ k, k ≤ ops.length → σ.nx ≤ (S (0 + k)).nx := by
    intro k
    induction k with
    | zero => intro _; rw [e2]; exact Nat.le_refl _
    | succ k ih =>
      intro hk
      have hk' : k < ops.length := by omega
      have ho : ops[k]? = some ops[k] := by simp [hk']
      have := ih (by omega)
      by_cases hz : 0 + k < z
      · obtain ⟨_, h2, h3⟩ := t.pure k _ ho hz
        rw [show 0 + (k + 1) = 0 + k + 1 by omega, h3]
        omega
      · obtain ⟨h1, h2⟩ := t.zone k _ ho (by omega)
        rw [show 0 + (k + 1) = 0 + k + 1 by omega, h2]
        have := stepVal_le hle h1
        omega
  rw [← e4]
  exact this _ (Nat.le_refl _)
end Go.Hx

/- The plain machine and Go's: regions that draw their order: whatever order is drawn, it comes to the same. -/
namespace Go.Hx
variable {P : Program} {lp : Nat → Option LFunc} {ex : Ex}

/-- From where on an operation that draws may write. -/
def flo (N : Nat → List Nat) (σ : HS) (S : Nat → HS) (i : Nat) : Nat := bif (N i).contains i then σ.nx else (S i).nx
/-- What is known of a region and of its run in the order of the text. -/
structure DF (P : Program) (lp : Nat → Option LFunc) (ex : Ex) (ops : Array Oper) (fl z : Nat) (σ : HS) (v : Nat → HV) (A : Nat → HAct) (S S' : Nat → HS) (mask : Nat → Nat) (N : Nat → List Nat) : Prop where
  zN : z ≤ ops.size
  flo : fl ≤ σ.nx
  dom : Dom σ
  n0 : (S 0).nx = σ.nx
  edge : ∀ i o, ops[i]? = some o → ∀ e ∈ o.after, Region.binds .any e = true → e.on < i
  anc : ∀ i o, ops[i]? = some o → ∀ j, (mask i).testBit j = true → ∃ e ∈ o.after, Region.binds .any e = true ∧ (j = e.on ∨ (mask e.on).testBit j = true)
  lt : ∀ i o, ops[i]? = some o → ∀ j, (mask i).testBit j = true → j < i
  nsub : ∀ i o, ops[i]? = some o → ∀ j, j ∈ N i → j = i ∨ (mask i).testBit j = true
  exc : ∀ i o, ops[i]? = some o → Fl N i → ∀ k, k ∈ N i → k ≠ i → ∀ j x, ops[j]? = some x → (lowOper P ops x).op.touches = true → (mask j).testBit k = true → j = i ∨ (mask i).testBit j = true ∨ (mask j).testBit i = true
  wr : ∀ i o, ops[i]? = some o → Fl N i → (lowOper P ops o).op.writes = true
  cl : ∀ i o j x, ops[i]? = some o → ops[j]? = some x → j < i → (mask i).testBit j = true ∨ clash (lowOper P ops x) (lowOper P ops o) = false
  ord : ∀ i o j x, ops[i]? = some o → ops[j]? = some x → j < i → z ≤ i → (mask i).testBit j = true ∨ (lowOper P ops x).op.touches = false ∨ (lowOper P ops o).op.touches = false ∨ ((lowOper P ops x).op.reads = true ∧ (lowOper P ops o).op.reads = true) ∨ (z ≤ j ∧ (lowOper P ops x).op.reads = true ∧ stepVal lp ex fl (lowOper P ops x) (A j) (S' i) = some (v j, S' i))
  act : ∀ i o, ops[i]? = some o → A (i + 1) = (A i).put o.dst (v i)
  pure : ∀ i o, ops[i]? = some o → i < z → stepVal lp ex (Hx.flo N σ S i) (lowOper P ops o) (A i) (S i) = some (v i, S' i)
  nxt : ∀ i, i < ops.size → (S i).nx ≤ (S (i + 1)).nx ∧ (S (i + 1)).nx = (S' i).nx
  from_ : ∀ i, i < ops.size → i < z → ∀ b x, (S i).h.get b = some x → σ.h.get b = some x ∨ ∃ j, j < i ∧ j ∈ N i ∧ Live N j (j + 1) i ∧ Hold N σ.nx S S' j b ∧ (S' j).h.get b = some x
  zone : ∀ i o, ops[i]? = some o → z ≤ i → stepVal lp ex fl (lowOper P ops o) (A i) (S i) = some (v i, S' i) ∧ S (i + 1) = S' i
  all : ∀ b x, (S z).h.get b = some x → σ.h.get b = some x ∨ ∃ j, j < z ∧ Live N j (j + 1) z ∧ Hold N σ.nx S S' j b ∧ (S' j).h.get b = some x
  other : ∀ b, (∀ j, j < z → ¬ Hold N σ.nx S S' j b) → (S z).h.get b = σ.h.get b

section
variable {ops : Array Oper} {fl z : Nat} {σ : HS} {v : Nat → HV} {A : Nat → HAct} {S S' : Nat → HS} {mask : Nat → Nat} {N : Nat → List Nat}

theorem DF.mono (d : DF P lp ex ops fl z σ v A S S' mask N) {i j : Nat} (h : i ≤ j) (hj : j ≤ ops.size) : (S i).nx ≤ (S j).nx := by
  induction j with
  | zero => rw [show i = 0 by omega]; exact Nat.le_refl _
  | succ j ih =>
    by_cases e : i = j + 1
    · rw [e]; exact Nat.le_refl _
    · exact Nat.le_trans (ih (by omega) (by omega)) (d.nxt j (by omega)).1
/-- Blocks of one operation are no other's. -/
theorem DF.apart (d : DF P lp ex ops fl z σ v A S S' mask N) {i j b : Nat} (hi : i < ops.size) (hj : j < ops.size) (hne : i ≠ j) (h1 : (S i).nx ≤ b) (h2 : b < (S' i).nx) (h3 : (S j).nx ≤ b) (h4 : b < (S' j).nx) : False := by
  have e1 := (d.nxt i hi).2
  have e2 := (d.nxt j hj).2
  rcases Nat.lt_or_gt_of_ne hne with h | h
  · have := d.mono (i := i + 1) (j := j) h (by omega)
    omega
  · have := d.mono (i := j + 1) (j := i) h (by omega)
    omega
theorem DF.step (d : DF P lp ex ops fl z σ v A S S' mask N) {i : Nat} {o : Oper} (ho : ops[i]? = some o) : ∃ f, stepVal lp ex f (lowOper P ops o) (A i) (S i) = some (v i, S' i) := by
  by_cases h : i < z
  · exact ⟨_, d.pure i o ho h⟩
  · exact ⟨_, (d.zone i o ho (by omega)).1⟩
theorem DF.untouch (d : DF P lp ex ops fl z σ v A S S' mask N) {i : Nat} {o : Oper} (ho : ops[i]? = some o) (ht : (lowOper P ops o).op.touches = false) : S' i = S i := by
  obtain ⟨f, h⟩ := d.step ho
  exact (val_untouch ht h).1
theorem op_reads {fl : Nat} {l : LOp} {a : HAct} {σ σ' : HS} {v : HV} (hr : l.reads = true) (h : opH lp ex fl l a σ = some (v, σ')) : σ' = σ := by
  cases l <;> simp only [LOp.reads, reduceCtorEq] at hr <;> simp only [opH] at h
  case load =>
    unfold oLoad at h
    split at h
    · split at h
      · exact (keep_some h).2
      · cases h
    · cases h
  case lookup =>
    unfold oLookup at h
    revert h
    generalize keyOk _ _ = c
    intro h
    cases c with
    | false => cases h
    | true =>
      simp only [cond_true] at h
      split at h
      · cases h; rfl
      · split at h
        · split at h
          · cases h; rfl
          · cases h; rfl
          · cases h
        · cases h
      · cases h
  case len => exact (keep_some h).2
theorem DF.still1 (d : DF P lp ex ops fl z σ v A S S' mask N) {i : Nat} {o : Oper} (ho : ops[i]? = some o) (ht : (lowOper P ops o).op.chg = false) : S' i = S i := by
  cases h1 : (lowOper P ops o).op.touches with
  | false => exact d.untouch ho h1
  | true =>
    have hr : (lowOper P ops o).op.reads = true := by
      unfold LOp.chg at ht
      rw [h1] at ht
      simpa using ht
    obtain ⟨f, h⟩ := d.step ho
    unfold stepVal at h
    cases hw : wantedH (lowOper P ops o).g (A i) with
    | false => rw [hw] at h; exact (Prod.mk.inj (Option.some.inj h)).2.symm
    | true => rw [hw] at h; exact op_reads hr h
theorem chg_touch {o : LOp} (h : o.chg = true) : o.touches = true := by unfold LOp.chg at h; cases ht : o.touches with
  | false => rw [ht] at h; cases h
  | true => rfl
theorem chg_read {o : LOp} (h : o.chg = true) : o.reads = false := by unfold LOp.chg at h; cases ht : o.reads with
  | true => rw [ht] at h; simp at h
  | false => rfl
theorem writes_chg {o : LOp} (h : o.writes = true) : o.chg = true := by
  cases o <;> first | rfl | (exact absurd h (by decide)) | (simp only [LOp.writes, reduceCtorEq] at h)
theorem writes_touch {o : LOp} (h : o.writes = true) : o.touches = true := by
  cases o <;> first | rfl | (exact absurd h (by decide)) | (simp only [LOp.writes, reduceCtorEq] at h)
theorem DF.hold_ge (d : DF P lp ex ops fl z σ v A S S' mask N) {j b : Nat} (hj : j < ops.size) (h : Hold N σ.nx S S' j b) : σ.nx ≤ b := by
  have := d.mono (i := 0) (j := j) (Nat.zero_le _) (by omega)
  rw [d.n0] at this
  rcases h.1 with h | h
  · omega
  · exact h.2
theorem DF.flo_le (d : DF P lp ex ops fl z σ v A S S' mask N) {i : Nat} (hi : i < ops.size) : σ.nx ≤ Hx.flo N σ S i ∧ Hx.flo N σ S i ≤ (S i).nx := by
  have := d.mono (i := 0) (j := i) (Nat.zero_le _) (by omega)
  rw [d.n0] at this
  unfold Hx.flo
  cases (N i).contains i with
  | true => exact ⟨Nat.le_refl _, this⟩
  | false => exact ⟨this, Nat.le_refl _⟩
/-- What is held of an old number was seen. -/
theorem DF.saw (d : DF P lp ex ops fl z σ v A S S' mask N) {j b : Nat} {x : HBlk} (hj : j < ops.size) (hz : j < z) (h : Hold N σ.nx S S' j b) (hb : b < (S j).nx) (hx : (S' j).h.get b = some x) :
    ∃ y k, k < j ∧ k ∈ N j ∧ Live N k (k + 1) j ∧ Hold N σ.nx S S' k b ∧ (S' k).h.get b = some y := by
  have ho : ops[j]? = some ops[j] := by simp [hj]
  have hf : Fl N j := by
    rcases h.1 with h | h
    · omega
    · exact h.1
  cases hy : (S j).h.get b with
  | none =>
    have := writes_keep (d.wr j _ ho hf) (d.pure j _ ho hz) b hb hy
    rw [this] at hx; cases hx
  | some y =>
    rcases d.from_ j hj hz b y hy with h1 | ⟨k, h1, h2, h3, h4, h5⟩
    · have := d.dom b y h1
      have := d.hold_ge hj h
      omega
    · exact ⟨y, k, h1, h2, h3, h4, h5⟩
/-- From one to the next that it sees. -/
inductive Reach (N : Nat → List Nat) : Nat → Nat → Prop
  | refl (j : Nat) : Reach N j j
  | step {j k m : Nat} (h : k ∈ N j) (hk : k < j) (r : Reach N k m) : Reach N j m
theorem Reach.le {N : Nat → List Nat} {j m : Nat} (h : Reach N j m) : m ≤ j := by
  induction h with
  | refl => exact Nat.le_refl _
  | step _ hk _ ih => omega
/-- Of two that hold a block the later one, or one that it reaches, holds it from the first one. -/
theorem DF.uniq (d : DF P lp ex ops fl z σ v A S S' mask N) {b : Nat} : ∀ (j' j : Nat), j < j' → j' < z → Hold N σ.nx S S' j b → Hold N σ.nx S S' j' b → ∀ x y, (S' j).h.get b = some x → (S' j').h.get b = some y →
    ∃ m, Reach N j' m ∧ Fl N m ∧ j ∈ N m ∧ j < m := by
  intro j'
  induction j' using Nat.strongRecOn with
  | ind j' ih =>
    intro j hj hz h1 h2 x y hx hy
    have hN := d.zN
    have e1 := (d.nxt j (by omega)).2
    have e2 := d.mono (i := j + 1) (j := j') hj (by omega)
    have hb : b < (S j').nx := by have := h1.2; omega
    have hf : Fl N j' := by
      rcases h2.1 with h | h
      · omega
      · exact h.1
    obtain ⟨y2, k, k1, k2, k3, k4, k5⟩ := d.saw (by omega) hz h2 hb hy
    rcases Nat.lt_trichotomy j k with c | c | c
    · obtain ⟨m, m1, m2, m3, m4⟩ := ih k k1 j c (by omega) h1 k4 x y2 hx k5
      exact ⟨m, .step k2 k1 m1, m2, m3, m4⟩
    · subst c
      exact ⟨j', .refl _, hf, k2, hj⟩
    · obtain ⟨m, m1, m2, m3, m4⟩ := ih j hj k c (by omega) k4 h1 y2 x k5 hx
      have := m1.le
      exact absurd m3 (k3 m (by omega) (by omega) m2)
/-- From one place of the zone to the next one that touches memory nothing happens. -/
theorem DF.still (d : DF P lp ex ops fl z σ v A S S' mask N) {k i : Nat} (hz : z ≤ k) (hk : k ≤ i) (hi : i ≤ ops.size) (h : ∀ j o, k ≤ j → j < i → ops[j]? = some o → (lowOper P ops o).op.chg = false) : S i = S k := by
  induction i with
  | zero => rw [show k = 0 by omega]
  | succ i ih =>
    by_cases e : k = i + 1
    · rw [e]
    · have hlt : i < ops.size := by omega
      have ho : ops[i]? = some ops[i] := by simp [hlt]
      rw [(d.zone i _ ho (by omega)).2, d.still1 ho (h i _ (by omega) (by omega) ho)]
      exact ih (by omega) (by omega) (fun j o h1 h2 => h j o h1 (by omega))

/-! temporaries, when some of the operations have been done -/
noncomputable def actL (ops : Array Oper) (v : Nat → HV) (L : Nat → Bool) (a : HAct) : Nat → HAct
  | 0 => a
  | k + 1 => bif L k then (actL ops v L a k).put ((ops[k]?).bind (·.dst)) (v k) else actL ops v L a k
theorem put_nt (a : HAct) (d : Option Nat) (x : HV) : (a.put d x).nt = a.nt := by
  unfold HAct.put
  cases d with
  | none => rfl
  | some d => dsimp only; cases h : Nat.blt d a.nt <;> rfl
theorem put_tmp (a : HAct) (d : Option Nat) (x : HV) (t : Nat) : (a.put d x).tmp t = if d = some t ∧ t < a.nt then x else a.tmp t := by
  unfold HAct.put
  cases d with
  | none => simp
  | some d =>
    dsimp only
    cases h : Nat.blt d a.nt with
    | true =>
      have hd := blt_lt h
      simp only [cond_true, HAct.tmp, Tr.get_set, Option.some.injEq]
      by_cases e : t = d
      · subst e; rw [if_pos rfl, if_pos ⟨rfl, hd⟩]; rfl
      · rw [if_neg e, if_neg (by omega)]
    | false =>
      have hd : ¬ d < a.nt := by intro h2; rw [← Nat.blt_eq] at h2; rw [h2] at h; cases h
      simp only [cond_false, Option.some.injEq]
      rw [if_neg (by rintro ⟨rfl, h⟩; exact hd h)]
theorem act_nt {L : Nat → Bool} {a : HAct} (k : Nat) : (actL ops v L a k).nt = a.nt := by
  induction k with
  | zero => rfl
  | succ k ih =>
    unfold actL
    cases L k with
    | true => rw [cond_true, put_nt, ih]
    | false => rw [cond_false, ih]
theorem DF.act_all_nt (d : DF P lp ex ops fl z σ v A S S' mask N) {k : Nat} (hk : k ≤ ops.size) : (A k).nt = (A 0).nt := by
  induction k with
  | zero => rfl
  | succ k ih =>
    have hlt : k < ops.size := by omega
    have ho : ops[k]? = some ops[k] := by simp [hlt]
    rw [d.act k _ ho, put_nt, ih (by omega)]
theorem clash_names {x y : LOper} (h : clash x y = false) : (∀ t, x.dst = some t → t ∉ y.names) ∧ (∀ t, y.dst = some t → t ∉ x.names) := by
  unfold clash at h
  simp only [Bool.or_eq_false_iff] at h
  refine ⟨fun t ht hm => ?_, fun t ht hm => ?_⟩
  · have := h.1; rw [ht] at this; simp at this; exact this hm
  · have := h.2; rw [ht] at this; simp at this; exact this hm
theorem low_dst (o : Oper) : (lowOper P ops o).dst = o.dst := by unfold lowOper; split <;> rfl
/-- An operation that is not done yet sees what it sees in the order of the text. -/
theorem DF.sees (d : DF P lp ex ops fl z σ v A S S' mask N) {L : Nat → Bool} {i : Nat} {o : Oper} (ho : ops[i]? = some o) (hi : L i = false) (hanc : ∀ j, (mask i).testBit j = true → L j = true)
    (hcl : ∀ k, L k = true → ∀ j, (mask k).testBit j = true → L j = true) {t : Nat} (ht : t ∈ (lowOper P ops o).names) : (actL ops v L (A 0) ops.size).tmp t = (A i).tmp t := by
  have hlt : i < ops.size := (Array.getElem?_eq_some_iff.1 ho).1
  have h1 : ∀ k, k ≤ i → (actL ops v L (A 0) k).tmp t = (A k).tmp t := by
    intro k
    induction k with
    | zero => intro _; rfl
    | succ k ih =>
      intro hk
      have hkl : k < ops.size := by omega
      have hok : ops[k]? = some ops[k] := by simp [hkl]
      have ih := ih (by omega)
      rw [d.act k _ hok]
      unfold actL
      cases hL : L k with
      | true =>
        rw [cond_true, put_tmp, put_tmp, act_nt, d.act_all_nt (k := k) (by omega), ih, hok]
        simp only [Option.bind_some]
      | false =>
        rw [cond_false, put_tmp, ih]
        rcases d.cl i o k _ ho hok (by omega) with h | h
        · rw [hanc k h] at hL; cases hL
        · have := (clash_names h).1 t
          rw [low_dst] at this
          rw [if_neg (fun hh => this hh.1 ht)]
  have h2 : ∀ k, i ≤ k → k ≤ ops.size → (actL ops v L (A 0) k).tmp t = (A i).tmp t := by
    intro k
    induction k with
    | zero => intro hk _; rw [show i = 0 by omega]; rfl
    | succ k ih =>
      intro hk hk2
      by_cases e : i = k + 1
      · rw [← e]; exact h1 i (Nat.le_refl _)
      · have ih := ih (by omega) (by omega)
        have hkl : k < ops.size := by omega
        have hok : ops[k]? = some ops[k] := by simp [hkl]
        unfold actL
        cases hL : L k with
        | false => exact ih
        | true =>
          rw [cond_true, put_tmp, ih, hok]
          simp only [Option.bind_some]
          have hne : i ≠ k := fun e => by rw [e] at hi; rw [hi] at hL; cases hL
          rcases d.cl k _ i o hok ho (by omega) with h | h
          · rw [hcl k hL i h] at hi; cases hi
          · have := (clash_names h).2 t
            rw [low_dst] at this
            rw [if_neg (fun hh => this hh.1 ht)]
  exact h2 _ (by omega) (Nat.le_refl _)
def also (L : Nat → Bool) (i : Nat) : Nat → Bool := fun j => if j = i then true else L j
theorem DF.done (d : DF P lp ex ops fl z σ v A S S' mask N) {L : Nat → Bool} {i : Nat} {o : Oper} (ho : ops[i]? = some o) (hi : L i = false)
    (hcl : ∀ k, L k = true → ∀ j, (mask k).testBit j = true → L j = true) (t : Nat) : (actL ops v (also L i) (A 0) ops.size).tmp t = ((actL ops v L (A 0) ops.size).put o.dst (v i)).tmp t := by
  have hlt : i < ops.size := (Array.getElem?_eq_some_iff.1 ho).1
  have h1 : ∀ k, k ≤ i → actL ops v (also L i) (A 0) k = actL ops v L (A 0) k := by
    intro k
    induction k with
    | zero => intro _; rfl
    | succ k ih =>
      intro hk
      unfold actL
      rw [ih (by omega), show also L i k = L k by simp [also]; omega]
  have h2 : ∀ k, i < k → k ≤ ops.size → ∀ t, (actL ops v (also L i) (A 0) k).tmp t = ((actL ops v L (A 0) k).put o.dst (v i)).tmp t := by
    intro k
    induction k with
    | zero => intro hk; omega
    | succ k ih =>
      intro hk hk2 t
      by_cases e : i = k
      · subst e
        unfold actL
        rw [h1 i (Nat.le_refl _), hi, show also L i i = true by simp [also], ho]
        rfl
      · have ih := ih (by omega) (by omega)
        have hkl : k < ops.size := by omega
        have hok : ops[k]? = some ops[k] := by simp [hkl]
        unfold actL
        rw [show also L i k = L k by simp [also]; omega]
        cases hL : L k with
        | false => exact ih t
        | true =>
          simp only [cond_true, hok, Option.bind_some]
          rw [put_tmp, put_tmp, put_tmp, ih, put_tmp, put_nt, act_nt, act_nt]
          rcases d.cl k _ i o hok ho (by omega) with h | h
          · rw [hcl k hL i h] at hi; cases hi
          · by_cases c1 : ops[k].dst = some t ∧ t < (A 0).nt
            · have := (clash_names h).2 t
              rw [low_dst] at this
              have hn := this c1.1
              have : ¬ (o.dst = some t ∧ t < (A 0).nt) := by
                rintro ⟨h5, _⟩
                apply hn
                unfold LOper.names
                rw [low_dst, h5]
                simp
              rw [if_pos c1, if_neg this, if_pos c1]
            · simp only [if_neg c1]
  exact h2 _ hlt (Nat.le_refl _) t
theorem DF.done_all (d : DF P lp ex ops fl z σ v A S S' mask N) {L : Nat → Bool} (h : ∀ i, i < ops.size → L i = true) {k : Nat} (hk : k ≤ ops.size) : actL ops v L (A 0) k = A k := by
  induction k with
  | zero => rfl
  | succ k ih =>
    have hkl : k < ops.size := by omega
    have hok : ops[k]? = some ops[k] := by simp [hkl]
    unfold actL
    rw [h k hkl, ih (by omega), d.act k _ hok, hok]
    rfl
end

def cnt (L : Nat → Bool) : Nat → Nat
  | 0 => 0
  | k + 1 => cnt L k + (bif L k then 0 else 1)
theorem cnt_also {L : Nat → Bool} {i : Nat} (hi : L i = false) : ∀ k, (k ≤ i → cnt (also L i) k = cnt L k) ∧ (i < k → cnt (also L i) k + 1 = cnt L k)
  | 0 => ⟨fun _ => rfl, fun h => by omega⟩
  | k + 1 => by
    obtain ⟨h1, h2⟩ := cnt_also hi k
    unfold cnt
    refine ⟨fun h => ?_, fun h => ?_⟩
    · rw [h1 (by omega), show also L i k = L k by simp [also]; omega]
    · by_cases e : k = i
      · subst e
        rw [h1 (Nat.le_refl _), hi, show also L k k = true by simp [also]]
        rfl
      · rw [show also L i k = L k by simp [also]; omega, ← h2 (by omega)]
        omega
theorem cnt_zero {L : Nat → Bool} : ∀ k, cnt L k = 0 → ∀ i, i < k → L i = true
  | 0, _, i, h => by omega
  | k + 1, h, i, hi => by
    unfold cnt at h
    have h1 : cnt L k = 0 := by omega
    by_cases e : i = k
    · subst e
      cases hL : L i with
      | true => rfl
      | false => rw [hL] at h; simp at h
    · exact cnt_zero k h1 i (by omega)
theorem cnt_none {L : Nat → Bool} (h : ∀ i, L i = false) : ∀ k, cnt L k = k
  | 0 => rfl
  | k + 1 => by unfold cnt; rw [cnt_none h k, h k]; rfl
end Go.Hx

/- The plain machine and Go's: regions that draw their order: what holds when some of the operations have been done. -/
namespace Go.Hx
variable {P : Program} {lp : Nat → Option LFunc} {ex : Ex}

/-- Nobody of those that have been done holds what j held. -/
def LiveL (N : Nat → List Nat) (L : Nat → Bool) (z j : Nat) : Prop := ∀ m, m < z → L m = true → Fl N m → m ≠ j → j ∉ N m
structure DInv (P : Program) (lp : Nat → Option LFunc) (ex : Ex) (ops : Array Oper) (fl z : Nat) (σ : HS) (v : Nat → HV) (A : Nat → HAct) (S S' : Nat → HS) (mask : Nat → Nat) (N : Nat → List Nat)
    (base : Nat) (ρ0 : Rho) (W0 : World) (L : Nat → Bool) (A1 : Act) (W : World) (ρ : Rho) (g : Hp) (aL : HAct) : Prop where
  ar : AR ρ aL A1
  nt : aL.nt = (A 0).nt
  df : aL.defers = (A 0).defers
  tm : ∀ t, aL.tmp t = (actL ops v L (A 0) ops.size).tmp t
  fr : ∀ i, i < ops.size → L i = false → ∀ b, (S i).nx ≤ b → b < (S' i).nx → ρ b = none
  post : Post P base fl σ.nx (S ops.size).nx σ.h.get g ρ0 ρ W0 W
  closed : ∀ k, L k = true → ∀ j, (mask k).testBit j = true → L j = true
  hfs : ∀ i, i < ops.size → L i = true → HFS (if i < z then flo N σ S i else fl) (S i) (S' i)
  heap : ((∀ b x, σ.h.get b = some x → g b = some x) ∧ (∀ j, j < z → L j = true → LiveL N L z j → ∀ b x, Hold N σ.nx S S' j b → (S' j).h.get b = some x → g b = some x) ∧
        (∀ i o, z ≤ i → ops[i]? = some o → (lowOper P ops o).op.chg = true → L i = false))
    ∨ ∃ k o, z ≤ k ∧ ops[k]? = some o ∧ (lowOper P ops o).op.chg = true ∧ L k = true ∧ g = (S' k).h.get ∧ ∀ i o, k < i → ops[i]? = some o → (lowOper P ops o).op.chg = true → L i = false

section
variable {ops : Array Oper} {fl z : Nat} {σ : HS} {v : Nat → HV} {A : Nat → HAct} {S S' : Nat → HS} {mask : Nat → Nat} {N : Nat → List Nat} {base : Nat} {ρ0 ρ : Rho} {W0 W : World} {L : Nat → Bool} {A1 : Act} {g : Hp} {aL : HAct}

theorem also_true {L : Nat → Bool} {i j : Nat} : also L i j = true ↔ j = i ∨ L j = true := by
  unfold also
  by_cases e : j = i
  · simp [e]
  · simp [e]
theorem also_false {L : Nat → Bool} {i j : Nat} : also L i j = false ↔ j ≠ i ∧ L j = false := by
  unfold also
  by_cases e : j = i
  · simp [e]
  · simp [e]
/-- One more has been done: what is the same for all sorts of operations. -/
theorem DInv.next (d : DF P lp ex ops fl z σ v A S S' mask N) (q : DInv P lp ex ops fl z σ v A S S' mask N base ρ0 W0 L A1 W ρ g aL) {i : Nat} {o : Oper} (ho : ops[i]? = some o) (hi : L i = false) (hanc : ∀ j, (mask i).testBit j = true → L j = true)
    {V : Value} {W' : World} {ρ' : Rho} {g' : Hp} (hv : VR ρ' (v i) V) (hp : Post P base fl (S i).nx (S' i).nx g g' ρ ρ' W W') (hf : HFS (if i < z then flo N σ S i else fl) (S i) (S' i))
    (hh : ((∀ b x, σ.h.get b = some x → g' b = some x) ∧ (∀ j, j < z → also L i j = true → LiveL N (also L i) z j → ∀ b x, Hold N σ.nx S S' j b → (S' j).h.get b = some x → g' b = some x) ∧
        (∀ i' o, z ≤ i' → ops[i']? = some o → (lowOper P ops o).op.chg = true → also L i i' = false))
    ∨ ∃ k o, z ≤ k ∧ ops[k]? = some o ∧ (lowOper P ops o).op.chg = true ∧ also L i k = true ∧ g' = (S' k).h.get ∧ ∀ i' o, k < i' → ops[i']? = some o → (lowOper P ops o).op.chg = true → also L i i' = false) :
    DInv P lp ex ops fl z σ v A S S' mask N base ρ0 W0 (also L i) (A1.put o.dst V) W' ρ' g' (aL.put o.dst (v i)) := by
  have hlt : i < ops.size := (Array.getElem?_eq_some_iff.1 ho).1
  have hn := d.nxt i hlt
  refine ⟨(q.ar.mono hp.ext).put hv _, by rw [put_nt]; exact q.nt, ?_, fun t => ?_, fun j hj hL b h1 h2 => ?_, ?_, fun k hk j hm => ?_, fun j hj hL => ?_, hh⟩
  · rw [← q.df]
    unfold HAct.put
    cases o.dst with
    | none => rfl
    | some t => dsimp only; cases Nat.blt t aL.nt <;> rfl
  · rw [d.done ho hi q.closed, put_tmp, put_tmp, q.tm, q.nt, act_nt]
  · obtain ⟨hne, hL⟩ := also_false.1 hL
    rw [hp.out b]
    · exact q.fr j hj hL b h1 h2
    · have := d.apart hlt hj (fun e => hne e.symm) (b := b)
      by_cases c : b < (S i).nx
      · exact .inl c
      · by_cases c2 : b < (S' i).nx
        · exact (this (by omega) c2 h1 h2).elim
        · exact .inr (by omega)
  · refine q.post.and (hp.wide ?_ ?_)
    · rw [← d.n0]; exact d.mono (Nat.zero_le _) (by omega)
    · rw [← hn.2]; exact d.mono hlt (Nat.le_refl _)
  · rcases also_true.1 hk with rfl | hk
    · exact also_true.2 (.inr (hanc j hm))
    · exact also_true.2 (.inr (q.closed k hk j hm))
  · rcases also_true.1 hL with rfl | hL
    · exact hf
    · exact q.hfs j hj hL
/-- In the zone, up to an operation: what the store itself says. -/
theorem DF.upto (d : DF P lp ex ops fl z σ v A S S' mask N) {k : Nat} (hz : z ≤ k) (hk : k ≤ ops.size) (h : ∀ j o, z ≤ j → j < k → ops[j]? = some o → (lowOper P ops o).op.chg = true → HFS fl (S j) (S' j)) : HFS fl σ (S k) := by
  induction k with
  | zero =>
    have e : z = 0 := by omega
    subst e
    refine ⟨by rw [d.n0]; exact Nat.le_refl _, fun b _ _ => d.other b (fun j hj => by omega), fun b _ => d.other b (fun j hj => by omega)⟩
  | succ k ih =>
    by_cases e : z = k + 1
    · rw [← e]
      have hmono : σ.nx ≤ (S z).nx := by rw [← d.n0]; exact d.mono (Nat.zero_le _) (by omega)
      refine ⟨hmono, fun b _ hb => d.other b (fun j hj h1 => ?_), fun b hb => d.other b (fun j hj h1 => ?_)⟩
      · have := d.hold_ge (by omega) h1
        omega
      · have := d.mono (i := j + 1) (j := z) (by omega) (by omega)
        have := (d.nxt j (by omega)).2
        have := h1.2
        omega
    · have hlt : k < ops.size := by omega
      have ho : ops[k]? = some ops[k] := by simp [hlt]
      have ih := ih (by omega) (by omega) (fun j o h1 h2 => h j o h1 (by omega))
      have hs := (d.zone k _ ho (by omega)).2
      rw [hs]
      cases ht : (lowOper P ops ops[k]).op.chg with
      | true => exact ih.trans (h k _ (by omega) (by omega) ho ht)
      | false => rw [d.still1 ho ht]; exact ih
/-- At the zone's begin all that has been laid is there. -/
theorem DInv.begin (d : DF P lp ex ops fl z σ v A S S' mask N) (q1 : ∀ b x, σ.h.get b = some x → g b = some x) (q2 : ∀ j, j < z → L j = true → LiveL N L z j → ∀ b x, Hold N σ.nx S S' j b → (S' j).h.get b = some x → g b = some x)
    (hl : ∀ j o, j < z → ops[j]? = some o → (lowOper P ops o).op.chg = true → L j = true) : ∀ b x, (S z).h.get b = some x → g b = some x := by
  intro b x hx
  rcases d.all b x hx with h | ⟨j, h1, h2, h3, h4⟩
  · exact q1 b x h
  · have hlt : j < ops.size := Nat.lt_of_lt_of_le h1 d.zN
    have ho : ops[j]? = some ops[j] := by simp [hlt]
    cases ht : (lowOper P ops ops[j]).op.chg with
    | true =>
      refine q2 j h1 (hl j _ h1 ho ht) (fun m m1 m2 m3 m4 m5 => ?_) b x h3 h4
      have hml : m < ops.size := Nat.lt_of_lt_of_le m1 d.zN
      have hm : ops[m]? = some ops[m] := by simp [hml]
      rcases d.nsub m _ hm j m5 with e | e
      · exact m4 e.symm
      · have := d.lt m _ hm j e
        exact h2 m (by omega) m1 m3 m5
    | false =>
      have e := d.still1 ho ht
      rcases h3.1 with c | c
      · have := h3.2
        rw [e] at this
        omega
      · rw [writes_chg (d.wr j _ ho c.1)] at ht; cases ht
/-- What one that has been done holds is not new to one that has not. -/
theorem DInv.notMine (d : DF P lp ex ops fl z σ v A S S' mask N) (closed : ∀ k, L k = true → ∀ j, (mask k).testBit j = true → L j = true) {i b : Nat} (hi : i < ops.size) (hL : L i = false) (b1 : (S i).nx ≤ b) (b2 : b < (S' i).nx) :
    ∀ j, j < z → L j = true → Hold N σ.nx S S' j b → ∀ x, (S' j).h.get b = some x → False := by
  intro j
  induction j using Nat.strongRecOn with
  | ind j ih =>
    intro hz hj h x hx
    have hN := d.zN
    have ho : ops[j]? = some ops[j] := by simp [show j < ops.size by omega]
    rcases Nat.lt_trichotomy j i with c | c | c
    · have e1 := (d.nxt j (by omega)).2
      have e2 := d.mono (i := j + 1) (j := i) c (by omega)
      have := h.2
      omega
    · subst c; rw [hj] at hL; cases hL
    · have e1 := (d.nxt i hi).2
      have e2 := d.mono (i := i + 1) (j := j) c (by omega)
      obtain ⟨y, k, k1, k2, k3, k4, k5⟩ := d.saw (by omega) hz h (by omega) hx
      have hk : L k = true := by
        rcases d.nsub j _ ho k k2 with e | e
        · omega
        · exact closed j hj k e
      exact ih k k1 (by omega) hk k4 y k5
/-- Of those that have been done, whose blocks nobody else holds, two hold no block both. -/
theorem DInv.one (d : DF P lp ex ops fl z σ v A S S' mask N) (closed : ∀ k, L k = true → ∀ j, (mask k).testBit j = true → L j = true) {j j' b : Nat} {x y : HBlk} (hz : j < z) (hz' : j' < z) (h1 : L j = true) (h2 : L j' = true) (l1 : LiveL N L z j) (l2 : LiveL N L z j')
    (k1 : Hold N σ.nx S S' j b) (k2 : Hold N σ.nx S S' j' b) (hx : (S' j).h.get b = some x) (hy : (S' j').h.get b = some y) : j = j' := by
  have reach : ∀ p m, Reach N p m → p < ops.size → L p = true → L m = true := by
    intro p m r
    induction r with
    | refl => exact fun _ h => h
    | step h hk r ih =>
      rename_i p k m
      intro hp hl
      have ho : ops[p]? = some ops[p] := by simp [hp]
      refine ih (by omega) ?_
      rcases d.nsub p _ ho k h with e | e
      · omega
      · exact closed p hl k e
  have hN := d.zN
  rcases Nat.lt_trichotomy j j' with c | c | c
  · obtain ⟨m, m1, m2, m3, m4⟩ := d.uniq j' j c hz' k1 k2 x y hx hy
    have := m1.le
    exact absurd m3 (l1 m (by omega) (reach _ _ m1 (by omega) h2) m2 (by omega))
  · exact c
  · obtain ⟨m, m1, m2, m3, m4⟩ := d.uniq j j' c hz k2 k1 y x hy hx
    have := m1.le
    exact absurd m3 (l2 m (by omega) (reach _ _ m1 (by omega) h1) m2 (by omega))
theorem op_done (hlp : LpOk P lp) (hle : ExLe ex) (hex : ExSound P ex) (d : DF P lp ex ops fl z σ v A S S' mask N) (hbase : base ≤ W0.heap.size) (q : DInv P lp ex ops fl z σ v A S S' mask N base ρ0 W0 L A1 W ρ g aL) {i : Nat} {o : Oper} (ho : ops[i]? = some o) (hi : L i = false) (hanc : ∀ j, (mask i).testBit j = true → L j = true)
    {R : Option Nat} {K : Act → World → Prop} {Q : Exit → Act → World → Prop} (hK : ∀ A1 W ρ g aL, DInv P lp ex ops fl z σ v A S S' mask N base ρ0 W0 (also L i) A1 W ρ g aL → K A1 W) : wpOpIn (FR R) 0 P ops Q i K A1 W := by
  have hlt : i < ops.size := (Array.getElem?_eq_some_iff.1 ho).1
  have hn := d.nxt i hlt
  have names : ∀ t ∈ (lowOper P ops o).names, aL.tmp t = (A i).tmp t := fun t ht => by rw [q.tm, d.sees ho hi hanc q.closed ht]
  have hnt : aL.nt = (A i).nt := q.nt.trans (d.act_all_nt (by omega)).symm
  have low : base ≤ W.heap.size := Nat.le_trans hbase q.post.size
  cases ht : (lowOper P ops o).op.touches with
  | false =>
    obtain ⟨f, hstep⟩ := d.step ho
    obtain ⟨he, hall⟩ := val_untouch ht hstep
    have h1 := hall (S i).nx ⟨.e, (S i).nx⟩
    rw [← val_congr _ hnt names] at h1
    have hin : In P base (⟨.e, (S i).nx⟩ : HS) ⟨.e, (S i).nx⟩ ρ W := ⟨low, q.post.sim.less fun b x hx => (by rw [Tr.get_e] at hx; cases hx), fun b h1 h2 => (by omega)⟩
    have hd : Dom (⟨.e, (S i).nx⟩ : HS) := fun b x hx => by rw [show (⟨.e, (S i).nx⟩ : HS).h = .e from rfl, Tr.get_e] at hx; cases hx
    refine (val_sound hlp hle hex ho h1 hd base ρ A1 W R K Q hin q.ar).2 fun V W' ρ' hv hp => ?_
    have hp' := Post.frame (fl := fl) (g := g) q.post.sim (fun b x hx => by rw [Tr.get_e] at hx; cases hx) rfl hp
    have hg : (fun b => if (S i).nx ≤ b ∧ b < (S i).nx then (Tr.e : Tr HBlk).get b else g b) = g := by
      funext b
      rw [if_neg (by omega)]
    rw [hg] at hp'
    refine hK _ _ ρ' g _ (q.next d ho hi hanc hv (by rw [he]; exact hp') (by rw [he]; exact HF.refl _ _ _) ?_)
    rcases q.heap with ⟨q1, q2, q3⟩ | ⟨k, ok, q1, q2, q3, q4, q5, q6⟩
    · refine .inl ⟨q1, fun j hj hL hv b x h3 h4 => ?_, fun i' o' hz ho' ht' => also_false.2 ⟨fun e => ?_, q3 i' o' hz ho' ht'⟩⟩
      · rcases also_true.1 hL with rfl | hL
        · rcases h3.1 with c | c
          · have := h3.2
            rw [he] at this; omega
          · rw [writes_touch (d.wr j _ ho c.1)] at ht; cases ht
        · exact q2 j hj hL (fun m m1 m2 m3 m4 => hv m m1 (also_true.2 (.inr m2)) m3 m4) b x h3 h4
      · subst e; rw [ho] at ho'; cases ho'; rw [chg_touch ht'] at ht; cases ht
    · refine .inr ⟨k, ok, q1, q2, q3, also_true.2 (.inr q4), q5, fun i' o' hk ho' ht' => also_false.2 ⟨fun e => ?_, q6 i' o' hk ho' ht'⟩⟩
      subst e; rw [ho] at ho'; cases ho'; rw [chg_touch ht'] at ht; cases ht
  | true =>
    by_cases hz : i < z
    · -- it sees what those ahead of it have laid, and may write this if nobody else knows it
      have h1 := d.pure i o ho hz
      rw [← val_congr _ hnt names] at h1
      have pureCase : (∀ b x, σ.h.get b = some x → g b = some x) ∧ (∀ j, j < z → L j = true → LiveL N L z j → ∀ b x, Hold N σ.nx S S' j b → (S' j).h.get b = some x → g b = some x) ∧
        (∀ i o, z ≤ i → ops[i]? = some o → (lowOper P ops o).op.chg = true → L i = false) := by
        rcases q.heap with h | ⟨k, ok, q1, q2, q3, q4, q5, q6⟩
        · exact h
        · rcases d.ord k ok i o q2 ho (by omega) q1 with h | h | h | h | h
          · rw [q.closed k q4 i h] at hi; cases hi
          · rw [h] at ht; cases ht
          · rw [chg_touch q3] at h; cases h
          · rw [chg_read q3] at h; cases h.2
          · have := h.1; omega
      obtain ⟨q1, q2, q3⟩ := pureCase
      have hN := d.zN
      have maskOf : ∀ j, j < i → j ∈ N i → (mask i).testBit j = true := fun j h2 h3 => (d.nsub i o ho j h3).resolve_left (by omega)
      have liveIn : ∀ j, j < i → j ∈ N i → Live N j (j + 1) i → LiveL N L z j := fun j h2 h3 h4 m m1 m2 m3 m4 m5 => by
        have hm : ops[m]? = some ops[m] := by simp [show m < ops.size by omega]
        rcases d.exc m _ hm m3 j m5 (Ne.symm m4) i o ho ht (maskOf j h2 h3) with e | e | e
        · subst e; rw [hi] at m2; cases m2
        · rw [q.closed m m2 i e] at hi; cases hi
        · have := d.lt i o ho m e
          have : j < m := by
            rcases d.nsub m _ hm j m5 with e2 | e2
            · exact absurd e2.symm m4
            · exact d.lt m _ hm j e2
          exact h4 m (by omega) (by omega) m3 m5
      have seen : ∀ b x, (S i).h.get b = some x → σ.h.get b = some x ∨ ∃ j, j < i ∧ j ∈ N i ∧ L j = true ∧ LiveL N L z j ∧ Hold N σ.nx S S' j b ∧ (S' j).h.get b = some x := fun b x hx => by
        rcases d.from_ i hlt hz b x hx with h | ⟨j, h2, h3, h4, h5, h6⟩
        · exact .inl h
        · exact .inr ⟨j, h2, h3, hanc j (maskOf j h2 h3), liveIn j h2 h3 h4, h5, h6⟩
      have hsub : ∀ b x, (S i).h.get b = some x → g b = some x := fun b x hx => by
        rcases seen b x hx with h | ⟨j, h2, h3, h4, h5, h6, h7⟩
        · exact q1 b x h
        · exact q2 j (by omega) h4 h5 b x h6 h7
      have hnx : σ.nx ≤ (S i).nx := by
        have := d.mono (i := 0) (j := i) (Nat.zero_le _) (by omega)
        rwa [d.n0] at this
      have hdom : Dom (S i) := fun b x hx => by
        rcases seen b x hx with h | ⟨j, h2, h3, h4, h5, h6, h7⟩
        · have := d.dom b x h
          omega
        · have := (d.nxt j (by omega)).2
          have := d.mono (i := j + 1) (j := i) (by omega) (by omega)
          have := h6.2
          omega
      obtain ⟨f1, f2⟩ := d.flo_le hlt
      have hin : In P base (S i) (S' i) ρ W := ⟨low, q.post.sim.less hsub, q.fr i hlt hi⟩
      obtain ⟨hf, hw⟩ := val_sound hlp hle hex ho h1 hdom base ρ A1 W R K Q hin q.ar
      refine hw fun V W' ρ' hv hp => ?_
      have hp' := Post.frameW (fl := fl) (g := g) q.post.sim hsub (Nat.le_trans d.flo f1) f2 (fun b hb => hf.low b hb (by omega)) hp
      refine hK _ _ ρ' _ _ (q.next d ho hi hanc hv hp' (by rw [if_pos hz]; exact hf) (.inl ⟨fun b x hx => ?_, fun j hj hL hlv b x h3 h4 => ?_, fun i' o' hz' ho' ht' => also_false.2 ⟨fun e => by omega, q3 i' o' hz' ho' ht'⟩⟩))
      · have hb := d.dom b x hx
        by_cases c : ((S i).nx ≤ b ∧ b < (S' i).nx) ∨ ((S i).h.get b).isSome = true
        · rw [if_pos c]
          rcases c with c | c
          · omega
          · obtain ⟨y, hy⟩ := Option.isSome_iff_exists.1 c
            have e := hsub b y hy
            rw [q1 b x hx] at e
            cases e
            rw [hf.low b (by omega) (by omega)]
            exact hy
        · rw [if_neg c]; exact q1 b x hx
      · rcases also_true.1 hL with rfl | hL
        · -- its own
          rw [if_pos]
          · exact h4
          · by_cases c : (S j).nx ≤ b
            · exact .inl ⟨c, h3.2⟩
            · refine .inr ?_
              have hfl : Fl N j := by
                rcases h3.1 with h | h
                · exact absurd h c
                · exact h.1
              cases hy : (S j).h.get b with
              | none =>
                have := writes_keep (d.wr j o ho hfl) h1 b (by omega) hy
                rw [this] at h4; cases h4
              | some y => rfl
        · have hlv' : LiveL N L z j := fun m m1 m2 m3 m4 => hlv m m1 (also_true.2 (.inr m2)) m3 m4
          have hgb := q2 j hj hL hlv' b x h3 h4
          by_cases c : ((S i).nx ≤ b ∧ b < (S' i).nx) ∨ ((S i).h.get b).isSome = true
          · rw [if_pos c]
            rcases c with c | c
            · exact (DInv.notMine d q.closed hlt hi c.1 c.2 j hj hL h3 x h4).elim
            · obtain ⟨y, hy⟩ := Option.isSome_iff_exists.1 c
              rcases seen b y hy with h | ⟨k, k1, k2, k3, k4, k5, k6⟩
              · have := d.dom b y h
                have := d.hold_ge (by omega) h3
                omega
              · have e := DInv.one d q.closed hj (by omega) hL k3 hlv' k4 h3 k5 h4 k6
                subst e
                have nf : ¬ Fl N i := fun hfi => hlv i hz (also_true.2 (.inl rfl)) hfi (by omega) k2
                have ef : flo N σ S i = (S i).nx := by
                  unfold flo
                  cases hc : (N i).contains i with
                  | true => exact absurd hc nf
                  | false => rfl
                have hb : b < (S i).nx := hdom b y hy
                rw [hf.low b (by rw [ef]; exact hb) hb]
                rw [hsub b y hy] at hgb
                cases hgb
                exact hy
          · rw [if_neg c]; exact hgb
    · have hz : z ≤ i := by omega
      obtain ⟨h1, hs1⟩ := d.zone i o ho hz
      rw [← val_congr _ hnt names] at h1
      -- all before it on memory has been done
      have before : ∀ j x, j < i → ops[j]? = some x → (lowOper P ops x).op.chg = true → L j = true := fun j x hj hx htx => by
        rcases d.ord i o j x ho hx hj hz with h | h | h | h | h
        · exact hanc j h
        · rw [chg_touch htx] at h; cases h
        · rw [h] at ht; cases ht
        · rw [chg_read htx] at h; cases h.1
        · rw [chg_read htx] at h; cases h.2.1
      cases hc : (lowOper P ops o).op.chg with
      | false =>
        have key : ∃ σ2 : HS, (∀ b x, σ2.h.get b = some x → g b = some x) ∧ Dom σ2 ∧ σ.nx ≤ σ2.nx ∧ stepVal lp ex fl (lowOper P ops o) aL σ2 = some (v i, σ2) := by
          have he := d.still1 ho hc
          have hfd : HFS fl σ (S i) := d.upto hz (by omega) fun j x h2 h3 hx htx => by
            have := q.hfs j (by omega) (before j x h3 hx htx)
            rwa [if_neg (by omega)] at this
          have here : (∀ b x, (S i).h.get b = some x → g b = some x) → ∃ σ2 : HS, (∀ b x, σ2.h.get b = some x → g b = some x) ∧ Dom σ2 ∧ σ.nx ≤ σ2.nx ∧ stepVal lp ex fl (lowOper P ops o) aL σ2 = some (v i, σ2) := fun hsub =>
            ⟨S i, hsub, hfd.dom d.dom, hfd.le, by rw [he] at h1; exact h1⟩
          rcases q.heap with ⟨q1, q2, q3⟩ | ⟨k, ok, q1, q2, q3, q4, q5, q6⟩
          · refine here ?_
            have e : S i = S z := d.still (Nat.le_refl _) hz (by omega) fun j x h2 h3 hx => by
              cases htx : (lowOper P ops x).op.chg with
              | false => rfl
              | true =>
                have c1 := before j x h3 hx htx
                rw [q3 j x h2 hx htx] at c1; cases c1
            rw [e]
            exact DInv.begin d q1 q2 fun j x hj hx htx => before j x (by omega) hx htx
          · rcases Nat.lt_trichotomy k i with hki | hki | hki
            · refine here ?_
              have e : S i = S (k + 1) := d.still (by omega) (by omega) (by omega) fun j x h2 h3 hx => by
                cases htx : (lowOper P ops x).op.chg with
                | false => rfl
                | true =>
                  have c1 := before j x h3 hx htx
                  rw [q6 j x (by omega) hx htx] at c1; cases c1
              rw [e, (d.zone k ok q2 q1).2, q5]
              exact fun b x hx => hx
            · subst hki; rw [hi] at q4; cases q4
            · have hkl : k < ops.size := (Array.getElem?_eq_some_iff.1 q2).1
              rcases d.ord k ok i o q2 ho hki q1 with h | h | h | h | h
              · rw [q.closed k q4 i h] at hi; cases hi
              · rw [h] at ht; cases ht
              · rw [chg_touch q3] at h; cases h
              · rw [chg_read q3] at h; cases h.2
              · have beforeK : ∀ j x, j < k → ops[j]? = some x → (lowOper P ops x).op.chg = true → L j = true := fun j x hj hx htx => by
                  rcases d.ord k ok j x q2 hx hj q1 with h | h | h | h | h
                  · exact q.closed k q4 j h
                  · rw [chg_touch htx] at h; cases h
                  · rw [chg_touch q3] at h; cases h
                  · rw [chg_read htx] at h; cases h.1
                  · rw [chg_read htx] at h; cases h.2.1
                have hfk : HFS fl σ (S k) := d.upto q1 (by omega) fun j x h2 h3 hx htx => by
                  have := q.hfs j (by omega) (beforeK j x h3 hx htx)
                  rwa [if_neg (by omega)] at this
                have hk2 := q.hfs k hkl q4
                rw [if_neg (by omega)] at hk2
                have hfk' := hfk.trans hk2
                exact ⟨S' k, fun b x hx => by rw [q5]; exact hx, hfk'.dom d.dom, hfk'.le, by rw [val_congr _ hnt names]; exact h.2.2⟩
        obtain ⟨σ2, k1, k2, k3, k4⟩ := key
        have hin : In P base σ2 σ2 ρ W := ⟨low, q.post.sim.less k1, fun b h1 h2 => by omega⟩
        obtain ⟨hf, hw⟩ := val_sound hlp hle hex ho k4 k2 base ρ A1 W R K Q hin q.ar
        refine hw fun V W' ρ' hv hp => ?_
        have hp' := Post.frameW (fl := fl) (g := g) q.post.sim k1 (Nat.le_refl _) (Nat.le_trans d.flo k3) (fun b _ => rfl) hp
        have hg : (fun b => if (σ2.nx ≤ b ∧ b < σ2.nx) ∨ (σ2.h.get b).isSome = true then σ2.h.get b else g b) = g := by
          funext b
          split
          · rename_i c
            rcases c with c | c
            · omega
            · obtain ⟨y, hy⟩ := Option.isSome_iff_exists.1 c
              rw [hy, k1 b y hy]
          · rfl
        rw [hg] at hp'
        have he := d.still1 ho hc
        have hp2 : Post P base fl (S i).nx (S' i).nx g g ρ ρ' W W' := { hp' with out := fun b _ => hp'.out b (by omega) }
        refine hK _ _ ρ' g _ (q.next d ho hi hanc hv hp2 (by rw [if_neg (by omega), he]; exact HF.refl _ _ _) ?_)
        rcases q.heap with ⟨q1, q2, q3⟩ | ⟨k, ok, q1, q2, q3, q4, q5, q6⟩
        · refine .inl ⟨q1, fun j hj hL hv b x h3 h4 => ?_, fun i' o' hz ho' ht' => also_false.2 ⟨fun e => ?_, q3 i' o' hz ho' ht'⟩⟩
          · rcases also_true.1 hL with rfl | hL
            · omega
            · exact q2 j hj hL (fun m m1 m2 m3 m4 => hv m m1 (also_true.2 (.inr m2)) m3 m4) b x h3 h4
          · subst e; rw [ho] at ho'; cases ho'; rw [hc] at ht'; cases ht'
        · refine .inr ⟨k, ok, q1, q2, q3, also_true.2 (.inr q4), q5, fun i' o' hk ho' ht' => also_false.2 ⟨fun e => ?_, q6 i' o' hk ho' ht'⟩⟩
          subst e; rw [ho] at ho'; cases ho'; rw [hc] at ht'; cases ht'
      | true =>
        have after : ∀ j x, i < j → ops[j]? = some x → (lowOper P ops x).op.chg = true → L j = false := fun j x hj hx htx => by
          rcases d.ord j x i o hx ho hj (by omega) with h | h | h | h | h
          · cases hL : L j with
            | false => rfl
            | true => rw [q.closed j hL i h] at hi; cases hi
          · rw [h] at ht; cases ht
          · rw [chg_touch htx] at h; cases h
          · rw [chg_read htx] at h; cases h.2
          · rw [chg_read hc] at h; cases h.2.1
        have hfd : HFS fl σ (S i) := d.upto hz (by omega) fun j x h2 h3 hx htx => by
          have := q.hfs j (by omega) (before j x h3 hx htx)
          rwa [if_neg (by omega)] at this
        have hdom : Dom (S i) := hfd.dom d.dom
        have hsub : ∀ b x, (S i).h.get b = some x → g b = some x := by
          rcases q.heap with ⟨q1, q2, q3⟩ | ⟨k, ok, q1, q2, q3, q4, q5, q6⟩
          · have e : S i = S z := d.still (Nat.le_refl _) hz (by omega) fun j x h2 h3 hx => by
              cases htx : (lowOper P ops x).op.chg with
              | false => rfl
              | true =>
                have c1 := before j x h3 hx htx
                rw [q3 j x h2 hx htx] at c1; cases c1
            rw [e]
            exact DInv.begin d q1 q2 fun j x hj hx htx => before j x (by omega) hx htx
          · have hki : k < i := by
              rcases Nat.lt_or_ge k i with h | h
              · exact h
              · rcases Nat.lt_or_eq_of_le h with h | h
                · rw [after k ok h q2 q3] at q4; cases q4
                · subst h; rw [hi] at q4; cases q4
            have e : S i = S (k + 1) := d.still (by omega) (by omega) (by omega) fun j x h2 h3 hx => by
              cases htx : (lowOper P ops x).op.chg with
              | false => rfl
              | true =>
                have c1 := before j x h3 hx htx
                rw [q6 j x (by omega) hx htx] at c1; cases c1
            rw [e, (d.zone k ok q2 q1).2, q5]
            exact fun b x hx => hx
        have hin : In P base (S i) (S' i) ρ W := ⟨low, q.post.sim.less hsub, q.fr i hlt hi⟩
        obtain ⟨hf, hw⟩ := val_sound hlp hle hex ho h1 hdom base ρ A1 W R K Q hin q.ar
        refine hw fun V W' ρ' hv hp => ?_
        refine hK _ _ ρ' _ _ (q.next d ho hi hanc hv (hp.more hsub) (by rw [if_neg (by omega)]; exact hf) (.inr ⟨i, o, hz, ho, hc, also_true.2 (.inl rfl), rfl, fun i' o' h2 ho' ht' => also_false.2 ⟨by omega, after i' o' h2 ho' ht'⟩⟩))
/-- All has been done. -/
theorem all_done (d : DF P lp ex ops fl z σ v A S S' mask N) (q : DInv P lp ex ops fl z σ v A S S' mask N base ρ0 W0 L A1 W ρ g aL) (h : ∀ i, i < ops.size → L i = true) :
    HFS fl σ (S ops.size) ∧ PostS P base fl σ (S ops.size) ρ0 ρ W0 W ∧ (AR ρ (A ops.size) A1) := by
  refine ⟨d.upto d.zN (Nat.le_refl _) fun j o h1 h2 _ _ => ?_, ?_, ?_⟩
  · have := q.hfs j h2 (h j h2)
    rwa [if_neg (by omega)] at this
  · refine q.post.less ?_
    rcases q.heap with ⟨q1, q2, q3⟩ | ⟨k, ok, q1, q2, q3, q4, q5, q6⟩
    · have e : S ops.size = S z := d.still (Nat.le_refl _) d.zN (Nat.le_refl _) fun j x h2 h3 hx => by
        cases htx : (lowOper P ops x).op.chg with
        | false => rfl
        | true => have := h j h3; rw [q3 j x h2 hx htx] at this; cases this
      rw [e]
      exact DInv.begin d q1 q2 fun j x hj hx htx => h j (by have := d.zN; omega)
    · have hk : k < ops.size := (Array.getElem?_eq_some_iff.1 q2).1
      have e : S ops.size = S (k + 1) := d.still (by omega) (by omega) (Nat.le_refl _) fun j x h2 h3 hx => by
        cases htx : (lowOper P ops x).op.chg with
        | false => rfl
        | true => have := h j h3; rw [q6 j x (by omega) hx htx] at this; cases this
      rw [e, (d.zone k ok q2 q1).2, q5]
      exact fun b x hx => hx
  · have e := d.done_all h (Nat.le_refl ops.size)
    have hnt := d.act_all_nt (Nat.le_refl ops.size)
    have hdf : ∀ k, k ≤ ops.size → (A k).defers = (A 0).defers := by
      intro k
      induction k with
      | zero => intro _; rfl
      | succ k ih =>
        intro hk
        have hkl : k < ops.size := by omega
        have hok : ops[k]? = some ops[k] := by simp [hkl]
        rw [d.act k _ hok, ← ih (by omega)]
        unfold HAct.put
        cases ops[k].dst with
        | none => rfl
        | some t => dsimp only; cases Nat.blt t (A k).nt <;> rfl
    have tm := q.tm
    rw [e] at tm
    refine ⟨⟨?_, fun t => ?_⟩, ?_, ?_⟩
    · rw [hnt, ← q.nt]; exact q.ar.tmps.1
    · have := q.ar.tmps.2 t
      have e2 := tm t
      unfold HAct.tmp at e2
      rw [← e2]
      exact this
    · rw [hdf _ (Nat.le_refl _), ← q.df]; exact q.ar.defers
    · rw [hdf _ (Nat.le_refl _), ← q.df]; exact q.ar.marks
end
end Go.Hx

