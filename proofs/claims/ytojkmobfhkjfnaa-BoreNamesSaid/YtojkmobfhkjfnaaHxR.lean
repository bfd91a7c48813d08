/- The plain machine and Go's: a function called, a round run. -/
import Derived.Test.YtojkmobfhkjfnaaHxQ
set_option linter.all false
namespace Go.Hx
variable {P : Program} {lp : Nat → Option LFunc} {ex : Ex}

theorem takeMarks_nx {fl : Nat} : ∀ (ms : List Nat) (σ σ' : HS), takeMarks fl ms σ = some σ' → σ'.nx = σ.nx
  | [], σ, σ', h => by cases h; rfl
  | m :: ms, σ, σ', h => by
    unfold takeMarks at h
    split at h
    · cases hfl : Nat.ble fl m with
      | false => rw [hfl] at h; cases h
      | true => rw [hfl] at h; exact (takeMarks_nx ms _ σ' h).trans rfl
    · cases h
theorem leave_some {fl : Nat} {a : HAct} {res : List LRes} {σ σ' : HS} {v : HV} (h : leaveH fl a res σ = some (v, σ')) : ∃ vs, takeMarks fl a.defers σ = some σ' ∧ resH a σ' res = some vs ∧ v = oneOf vs := by
  unfold leaveH at h
  split at h
  · rename_i σ1 h1
    split at h
    · rename_i vs h2; cases h; exact ⟨vs, h1, h2, rfl⟩
    · cases h
  · cases h
theorem callB_le (hle : ExLe ex) {fl : Nat} {lf : LFunc} {args : List HV} {σ σ' : HS} {v : HV} (h : callB ex fl lf args σ = some (v, σ')) : σ.nx ≤ σ'.nx := by
  unfold callB at h
  split at h
  · rename_i hrun
    obtain ⟨vs, hm, _, _⟩ := leave_some h
    rw [takeMarks_nx _ _ _ hm]; exact hle _ _ _ _ _ _ _ _ hrun
  · rename_i hrun
    obtain ⟨vs, hm, _, _⟩ := leave_some h
    rw [takeMarks_nx _ _ _ hm]; exact hle _ _ _ _ _ _ _ _ hrun
  · cases h
theorem specH_some {g : List HV → HS → Option (HV × HS)} {args : List HV} {σ σ' : HS} {v : HV} (h : specH g args σ = some (v, σ')) : g args σ = some (v, σ') ∧ σ.nx ≤ σ'.nx := by
  unfold specH at h
  split at h
  · rename_i v1 σ1 h1
    cases hb : Nat.ble σ.nx σ1.nx with
    | false => rw [hb] at h; cases h
    | true => rw [hb] at h; cases h; exact ⟨h1, Nat.le_of_ble_eq_true hb⟩
  · cases h
theorem specH_le {g : List HV → HS → Option (HV × HS)} {args : List HV} {σ σ' : HS} {v : HV} (h : specH g args σ = some (v, σ')) : σ.nx ≤ σ'.nx := (specH_some h).2
theorem callF_le (hle : ExLe ex) {fl f : Nat} {args : List HV} {σ σ' : HS} {v : HV} (h : callF lp ex fl f args σ = some (v, σ')) : σ.nx ≤ σ'.nx := by
  unfold callF at h
  split at h
  · cases h
  · rename_i lf _
    split at h
    · exact specH_le h
    cases hi : lf.imp with
    | true => rw [hi] at h; exact callB_le hle h
    | false =>
      rw [hi] at h
      simp only [cond_false] at h
      split at h
      · rename_i v1 σ1 h1; cases h; have := callB_le hle h1; exact this
      · cases h
theorem callB_sound (hlp : LpOk P lp) (hle : ExLe ex) (hex : ExSound P ex) {fl f : Nat} {lf : LFunc} (hlf : lp f = some lf) (hsp : lf.spec = none) {args : List HV} {σ σ' : HS} {v : HV} (h : callB ex fl lf args σ = some (v, σ')) (hd : Dom σ) :
    ∀ (base : Nat) (ρ : Rho) (Args : Array Value) (W : World), In P base σ σ' ρ W → LR ρ args Args.toList →
      HFS fl σ σ' ∧ (∃ fn, P.funcs[f]? = some fn ∧ fn.body.isSome = true ∧ (fn.name == "runtime.NumGoroutine") = false) ∧
      CallsIn (FR none) 0 P f Args W (fun E W' => ∃ V ρ', E = .returned V ∧ VR ρ' v V ∧ PostS P base fl σ σ' ρ ρ' W W') := by
  unfold callB at h
  · obtain ⟨fn, c, hf, hb, hname, hnt, hbody, hres⟩ := (hlp f lf hlf).2 hsp
    have key : ∀ (e : HExit) (a : HAct) (σ1 : HS), ex fl none lf.body ⟨Nat.max lf.nt args.length, putAll .e 0 args, []⟩ σ = some (e, a, σ1) → (exitOf e = .normal ∨ exitOf e = .ret) → leaveH fl a lf.res σ1 = some (v, σ') →
        ∀ (base : Nat) (ρ : Rho) (Args : Array Value) (W : World), In P base σ σ' ρ W → LR ρ args Args.toList →
          HFS fl σ σ' ∧ (∃ fn, P.funcs[f]? = some fn ∧ fn.body.isSome = true ∧ (fn.name == "runtime.NumGoroutine") = false) ∧
          CallsIn (FR none) 0 P f Args W (fun E W' => ∃ V ρ', E = .returned V ∧ VR ρ' v V ∧ PostS P base fl σ σ' ρ ρ' W W') := by
      intro e a σ1 hrun he hl
      obtain ⟨vs, hm, hr, rfl⟩ := leave_some hl
      have hnx := takeMarks_nx _ _ _ hm
      have hle1 := hle _ _ _ _ _ _ _ _ hrun
      rw [hbody] at hrun
      have hsound := hex c fl none _ σ e a σ1 hrun hd
      intro base ρ Args W hin hargs
      have hin1 := hin.less (σ1 := σ1) (by omega)
      rw [hnt] at hsound
      obtain ⟨hf1, hwp⟩ := hsound base ρ _ W none hin1 (ar_enter hargs) trivial
      have hd1 := hf1.dom hd
      have hff : HFS fl σ σ' := by
        -- the marks are taken in a world that the run leads to; of the store alone this says the same
        have : ∀ (ms : List Nat) (s s' : HS), takeMarks fl ms s = some s' → Dom s → HFS fl s s' := by
          intro ms
          induction ms with
          | nil => intro s s' h _; cases h; exact HF.refl _ _ _
          | cons m ms ih =>
            intro s s' h hds
            unfold takeMarks at h
            split at h
            · rename_i hmk
              cases hfl : Nat.ble fl m with
              | false => rw [hfl] at h; cases h
              | true =>
                rw [hfl] at h
                have f1 : HFS fl s (s.upd m none) := hf_upd (Nat.le_of_ble_eq_true hfl) (hds _ _ hmk) (HS.get_upd s _ _)
                exact f1.trans (ih _ _ h (f1.dom hds))
            · cases h
        exact hf1.trans (this _ _ _ hm hd1)
      refine ⟨hff, ⟨fn, hf, by simp [hb], hname⟩, ?_⟩
      refine callsIn_of_wp_marks hf hb trivial (wpIn_mono hwp ?_)
      rintro E A' W' ⟨ρ', hp, rfl, ha⟩
      have leave : LeavesInM (FR none) 0 P fn A'.tmps (fun E W' => ∃ V ρ', E = .returned V ∧ VR ρ' (oneOf vs) V ∧ PostS P base fl σ σ' ρ ρ' W W') A'.defers .returning W' := by
        rw [ha.defers]
        obtain ⟨g1, g2, W2, g3, g4⟩ := take_marks (fn := fn) (T := A'.tmps) (R := fun E W' => ∃ V ρ', E = .returned V ∧ VR ρ' (oneOf vs) V ∧ PostS P base fl σ σ' ρ ρ' W W') a.defers σ1 σ' W' hm hd1 hp.sim ha.marks
        refine g4 ?_
        obtain ⟨V, hV, hv⟩ := results_ok (fn := fn) g3.sim ha.tmps.2 hres hr
        exact ⟨V, hV, V, ρ', rfl, hv, Post.trans hf1.le g1.le hp g3⟩
      rcases he with he | he <;> rw [he] <;> exact leave
    split at h
    · rename_i a σ1 hrun
      exact key .normal a σ1 hrun (.inl rfl) h
    · rename_i a σ1 hrun
      exact key .ret a σ1 hrun (.inr rfl) h
    · cases h

def Kept (h1 : Tr HBlk) (nx : Nat) (h h' : Tr HBlk) : Prop := ∀ b, (b < nx → h'.get b = h.get b) ∧ ∀ x, h'.get b = some x → h.get b = some x ∨ (nx ≤ b ∧ h1.get b = some x)
theorem Kept.refl (h1 : Tr HBlk) (nx : Nat) (h : Tr HBlk) : Kept h1 nx h h := fun _ => ⟨fun _ => rfl, fun _ hx => .inl hx⟩
theorem Kept.trans {h1 : Tr HBlk} {nx : Nat} {h h' h'' : Tr HBlk} (a : Kept h1 nx h h') (c : Kept h1 nx h' h'') : Kept h1 nx h h'' := fun b =>
  ⟨fun hb => ((c b).1 hb).trans ((a b).1 hb), fun x hx => by
    rcases (c b).2 x hx with h3 | h3
    · exact (a b).2 x h3
    · exact .inr h3⟩
theorem kept_put {h1 : Tr HBlk} {nx : Nat} (h : Tr HBlk) {c : Nat} {y : HBlk} (hc : Nat.blt c nx = false) (hy : h1.get c = some y) : Kept h1 nx h (h.set c (some y)) := by
  have hc' : nx ≤ c := by
    rcases Nat.lt_or_ge c nx with hlt | hge
    · rw [← Nat.blt_eq] at hlt; rw [hlt] at hc; cases hc
    · exact hge
  intro b
  rw [Tr.get_set]
  by_cases e : b = c
  · subst e; exact ⟨fun hb => by omega, fun x hx => by rw [if_pos rfl] at hx; cases hx; exact .inr ⟨hc', hy⟩⟩
  · rw [if_neg e]; exact ⟨fun _ => rfl, fun x hx => .inl hx⟩
theorem kept_v (h1 : Tr HBlk) (nx : Nat) {k : List HV → Tr HBlk → Tr HBlk} (hk : ∀ vs h, Kept h1 nx h (k vs h)) (h : Tr HBlk) (v : HV) : Kept h1 nx h (keepV h1 nx k h v) := by
  unfold keepV
  split
  · rename_i c _ _ _
    cases hc : Nat.blt c nx with
    | true => exact Kept.refl _ _ _
    | false =>
      simp only [cond_false]
      split
      · rename_i hg; exact (kept_put h hc hg).trans (hk _ _)
      · exact Kept.refl _ _ _
  · rename_i c _
    cases hc : Nat.blt c nx with
    | true => exact Kept.refl _ _ _
    | false =>
      simp only [cond_false]
      split
      · rename_i hg; exact (kept_put h hc hg).trans (hk _ _)
      · exact Kept.refl _ _ _
  · rename_i c
    cases hc : Nat.blt c nx with
    | true => exact Kept.refl _ _ _
    | false =>
      simp only [cond_false]
      split
      · rename_i hg; exact (kept_put h hc hg).trans (hk _ _)
      · exact Kept.refl _ _ _
  · exact hk _ _
  · exact hk _ _
  · exact hk _ _
  · exact Kept.refl _ _ _
theorem kept_d (h1 : Tr HBlk) (nx : Nat) : ∀ (d : Nat) (vs : List HV) (h : Tr HBlk), Kept h1 nx h (keepD h1 nx d vs h)
  | 0, vs, h => Kept.refl _ _ _
  | d + 1, [], h => Kept.refl _ _ _
  | d + 1, v :: vs, h => by
    unfold keepD
    rw [List.foldl_cons]
    exact (kept_v h1 nx (kept_d h1 nx d) h v).trans (kept_d h1 nx (d + 1) vs _)
theorem callF_sound (hlp : LpOk P lp) (hle : ExLe ex) (hex : ExSound P ex) {fl f : Nat} {args : List HV} {σ σ' : HS} {v : HV} (h : callF lp ex fl f args σ = some (v, σ')) (hd : Dom σ) :
    ∀ (base : Nat) (ρ : Rho) (Args : Array Value) (W : World), In P base σ σ' ρ W → LR ρ args Args.toList →
      HFS fl σ σ' ∧ (∃ fn, P.funcs[f]? = some fn ∧ fn.body.isSome = true ∧ (fn.name == "runtime.NumGoroutine") = false) ∧
      CallsIn (FR none) 0 P f Args W (fun E W' => ∃ V ρ', E = .returned V ∧ VR ρ' v V ∧ PostS P base fl σ σ' ρ ρ' W W') := by
  unfold callF at h
  split at h
  · cases h
  · rename_i lf hlf
    split at h
    · rename_i g hg
      intro base ρ Args W hin hargs
      exact (hlp f lf hlf).1 g hg args σ v σ' (specH_some h).1 hd fl base ρ Args W hin hargs
    rename_i hsp
    cases hi : lf.imp with
    | true => rw [hi] at h; exact callB_sound hlp hle hex hlf hsp h hd
    | false =>
      rw [hi] at h
      simp only [cond_false] at h
      split at h
      · rename_i v1 σ1 h1
        cases h
        intro base ρ Args W hin hargs
        obtain ⟨hf, hfn, hcall⟩ := callB_sound hlp hle hex hlf hsp h1 hd base ρ Args W ⟨hin.low, hin.sim, hin.fresh⟩ hargs
        have kg : ∀ b, (b < σ.nx → (gcH σ σ1 v).h.get b = σ.h.get b) ∧ ∀ x, (gcH σ σ1 v).h.get b = some x → σ.h.get b = some x ∨ (σ.nx ≤ b ∧ σ1.h.get b = some x) := fun b => kept_d _ _ _ _ _ b
        have sub : ∀ b x, (gcH σ σ1 v).h.get b = some x → σ1.h.get b = some x := by
          intro b x hx
          rcases (kg b).2 x hx with h2 | h2
          · rw [hf.low b (hd _ _ h2) (hd _ _ h2)]; exact h2
          · exact h2.2
        have hnm : ∀ k, ¬ May σ.nx σ.h.get ρ k := fun k ⟨b, x, r, g1, _, g3, _⟩ => by have := hd _ _ g1; omega
        refine ⟨⟨hf.le, fun b _ hb => (kg b).1 hb, fun b hb => ?_⟩, hfn, hcall.mono ?_⟩
        · have hb' : σ1.nx ≤ b := hb
          have h0 : σ.h.get b = none := by
            cases e : σ.h.get b with
            | none => rfl
            | some x => have := hd _ _ e; have := hf.le; omega
          cases e : (gcH σ σ1 v).h.get b with
          | none => rw [h0]
          | some x => have h2 := hf.high b hb'; rw [sub b x e, h0] at h2; cases h2
        · rintro E W' ⟨V, ρ', rfl, hv, hp⟩
          refine ⟨V, ρ', rfl, hv, hp.ext, hp.out, hp.sim.less sub, hp.os, hp.tape, hp.output, hp.frz, hp.size, fun k hk _ => hp.same k hk (hnm k), fun k ⟨b, x, r, g1, g2, g3, g4, g5⟩ => ?_⟩
          rcases (kg b).2 x g1 with g6 | g6
          · obtain ⟨r0, hr0, _⟩ := (hin.sim.ok b x g6).has
            have : r0 = r := Option.some.inj ((hp.ext b r0 hr0).symm.trans g4)
            subst this
            exact .inr ⟨b, x, r0, g6, g2, g3, hr0, g5⟩
          · rcases hp.own k ⟨b, x, r, g6.2, g2, g6.1, g4, g5⟩ with g7 | g7
            · exact .inl g7
            · exact absurd g7 (hnm k)
      · cases h

theorem zip_put {ρ : Rho} : ∀ (ps : List Nat) (vs : List HV) (nt : Nat) (t t' : Tr HV) (T : Array Value) (U : List Value), zipPut nt t ps vs = some t' → TR ρ nt t T → LR ρ vs U → ps.length = vs.length ∧
    TR ρ nt t' ((ps.zip U).foldl (fun (t : Array Value) (p : Nat × Value) => t.setIfInBounds p.1 p.2) T)
  | [], [], nt, t, t', T, U, h, ht, hu => by
    cases h
    rw [LR.inv_nil hu]
    exact ⟨rfl, ht⟩
  | p :: ps, v :: vs, nt, t, t', T, U, h, ht, hu => by
    obtain ⟨u, U', rfl, hv, hu'⟩ := LR.inv hu
    unfold zipPut at h
    have step : TR ρ nt (bif Nat.blt p nt then t.set p (some v) else t) (T.setIfInBounds p u) := by
      cases hb : Nat.blt p nt with
      | true => exact ht.put (blt_lt hb) hv
      | false =>
        have hd : ¬ p < nt := by intro h; rw [← Nat.blt_eq] at h; rw [h] at hb; cases hb
        have hT : T.setIfInBounds p u = T := by simp [Array.setIfInBounds]; intro h; have := ht.1; omega
        rw [hT]; exact ht
    obtain ⟨h1, h2⟩ := zip_put ps vs nt _ t' _ U' h step hu'
    exact ⟨by simp [h1], h2⟩
  | [], _ :: _, _, _, _, _, _, h, _, _ => by cases h
  | _ :: _, [], _, _, _, _, _, h, _, _ => by cases h

theorem begin_ok {base fl l : Nat} {σ σ' : HS} {ρ : Rho} {W : World} (h : beginRoundH fl l σ = some σ') (hd : Dom σ) (hs : Sim P base σ.h.get ρ W) :
    σ'.nx = σ.nx ∧ HFS fl σ σ' ∧ ∃ r W', ρ l = some r ∧ (Instr.beginRound r.blk).run P W = .ok () W' ∧ PostS P base fl σ σ' ρ ρ W W' := by
  unfold beginRoundH at h
  split at h
  · rename_i q hq
    split at h
    · rename_i hst
      cases hfl : Nat.ble fl l with
      | false => rw [hfl] at h; cases h
      | true =>
        rw [hfl] at h
        cases h
        have hfl := Nat.le_of_ble_eq_true hfl
        obtain ⟨r, m, L, hr, hw, hb, hm, hdf, hl⟩ := hs.ok _ _ hq
        have hlt := (Array.getElem?_eq_some_iff.1 hw).1
        have hready : L.state = .ready := by rw [hl.state, hst]; rfl
        refine ⟨rfl, hf_upd hfl (hd _ _ hq) (HS.get_upd σ _ _), r, _, hr, run_beginRound hw hready, ?_⟩
        refine post_upd hs hq rfl hfl hr (HS.get_upd σ _ _) rfl rfl rfl (frz_put hw rfl) (by simp) (fun k _ hk => World.putObj_heap_other hk) (fun z hz => ?_)
        cases hz
        exact ⟨r, m, _, hr, World.putObj_heap_same hlt, hb, hm, hdf, rfl, hl.pending, hl.tmps, hl.params, hl.assign, hl.body⟩
    · cases h
  · cases h
theorem end_ok {base fl l : Nat} {σ σ' : HS} {ρ : Rho} {W : World} {e : HExit} {v : HV} (h : endRoundH l e σ = some (v, σ')) (hfl : fl ≤ l) (hd : Dom σ) (hs : Sim P base σ.h.get ρ W) :
    σ'.nx = σ.nx ∧ HFS fl σ σ' ∧ ∃ r V W', ρ l = some r ∧ (Instr.endRound r.blk (jumpOf e)).run P W = .ok V W' ∧ VR ρ v V ∧ PostS P base fl σ σ' ρ ρ W W' := by
  unfold endRoundH at h
  split at h
  · rename_i q hq
    obtain ⟨r, m, L, hr, hw, hb, hm, hdf, hl⟩ := hs.ok _ _ hq
    have hlt := (Array.getElem?_eq_some_iff.1 hw).1
    have fin : ∀ (st : LState) (pe : HExit), jumpOf pe = jumpOf e → stateOf st = (if (jumpOf e).isNone then .ready else .done) → v = .bool (jumpOf e).isNone → σ' = σ.upd l (some (.loop { q with state := st, pending := pe })) →
        σ'.nx = σ.nx ∧ HFS fl σ σ' ∧ ∃ r V W', ρ l = some r ∧ (Instr.endRound r.blk (jumpOf e)).run P W = .ok V W' ∧ VR ρ v V ∧ PostS P base fl σ σ' ρ ρ W W' := by
      intro st pe h1 h2 h3 h4
      subst h3; subst h4
      refine ⟨rfl, hf_upd hfl (hd _ _ hq) (HS.get_upd σ _ _), r, _, _, hr, run_endRound (jumpOf e) hw, .bool _, ?_⟩
      refine post_upd hs hq rfl hfl hr (HS.get_upd σ _ _) rfl rfl rfl (frz_put hw rfl) (by simp) (fun k _ hk => World.putObj_heap_other hk) (fun z hz => ?_)
      cases hz
      exact ⟨r, m, _, hr, World.putObj_heap_same hlt, hb, hm, hdf, h2.symm, h1.symm, hl.tmps, hl.params, hl.assign, hl.body⟩
    split at h
    · cases h; exact fin .ready .normal rfl rfl rfl rfl
    · rename_i hne
      cases h
      cases e with
      | normal => exact absurd rfl hne
      | exit id => exact fin .done (.exit id) rfl rfl rfl rfl
      | ret => exact fin .done .ret rfl rfl rfl rfl
  · cases h
end Go.Hx
