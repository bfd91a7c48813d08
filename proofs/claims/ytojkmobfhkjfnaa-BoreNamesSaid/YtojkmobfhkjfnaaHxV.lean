/- The plain machine and Go's: ranges over functions. -/
import Derived.Test.YtojkmobfhkjfnaaHxU
set_option linter.all false
namespace Go.Hx
variable {P : Program} {lp : Nat → Option LFunc} {ex : Ex}

theorem end_loop_some {fl l : Nat} {ms : List Nat} {a a' : HAct} {σ σ' : HS} {e : HExit} (h : endLoopH fl l ms a σ = some (e, a', σ')) :
    ∃ q : HLoop, σ.h.get l = some (.loop q) ∧ q.state ≠ .busy ∧ fl ≤ l ∧ e = q.pending ∧ a' = { a with defers := ms ++ a.defers } ∧ σ' = σ.upd l (some (.loop { q with state := .exhausted })) := by
  unfold endLoopH at h
  split at h
  · rename_i q hq
    split at h
    · cases h
    · rename_i hb
      cases hfl : Nat.ble fl l with
      | false => rw [hfl] at h; cases h
      | true =>
        rw [hfl] at h
        cases h
        exact ⟨q, hq, hb, Nat.le_of_ble_eq_true hfl, rfl, rfl, rfl⟩
  · cases h
theorem marks_ok {rd R : Option Nat} {base fl mk : Nat} {ms : List Nat} {σ σ1 σ' : HS} {ρ : Rho} {W : World} (h : marksOf rd σ = some (mk, ms, σ1)) (hin : In P base σ σ' ρ W) (hn : σ1.nx ≤ σ'.nx) (hrd : RdOk ρ rd R) :
    HFS fl σ σ1 ∧ ∃ (ρ1 : Rho) (W1 : World) (m : RI), PostS P base fl σ σ1 ρ ρ1 W W1 ∧ ρ1 mk = some m ∧ (∀ k ∈ ms, (ρ1 k).isSome = true) ∧
      ∀ fn tmps ps assign body, (Instr.enterLoop fn tmps ps assign body R).run P W =
        .ok (W1.heap.size, ms.map fun k => ⟨.collected ((ρ1 k).elim 0 RI.blk), #[]⟩) (W1.alloc (.loop { state := .ready, pending := none, fn, tmps, params := ps, assign, body, defers := m.blk })) := by
  unfold marksOf at h
  cases rd with
  | none =>
    cases R with
    | some _ => exact hrd.elim
    | none =>
      cases h
      have hfr : ρ σ.nx = none := hin.fresh _ (Nat.le_refl _) hn
      have hput : (ρ.put σ.nx ⟨W.heap.size, 0, 0⟩) σ.nx = some ⟨W.heap.size, 0, 0⟩ := Rho.put_same ..
      refine ⟨hf_new (HS.get_new σ _), ρ.put σ.nx ⟨W.heap.size, 0, 0⟩, W.alloc (.deferred (some [])), ⟨W.heap.size, 0, 0⟩, post_new hin.sim hfr (HS.get_new σ _) rfl ⟨_, hput, World.alloc_heap_new W _, hin.low⟩, hput, ?_, ?_⟩
      · intro k hk
        rw [List.mem_singleton] at hk
        subst hk; rw [hput]; rfl
      · intro fn tmps ps assign body
        rw [run_enterLoop_outer]
        simp only [List.map_cons, List.map_nil, hput, Option.elim, World.size_alloc]
  | some l =>
    cases R with
    | none => exact hrd.elim
    | some L =>
      obtain ⟨r, hr, rfl⟩ := hrd
      simp only at h
      split at h
      · rename_i q hq
        cases h
        obtain ⟨r', m, Lp, hr', hw, hb, hm, hdf, hl⟩ := hin.sim.ok _ _ hq
        rw [hr] at hr'; cases hr'
        refine ⟨HF.refl _ _ _, ρ, W, m, Post.refl hin.sim, hm, (fun k hk => by cases hk), (fun fn tmps ps assign body => ?_)⟩
        rw [run_enterLoop_inner hw, hdf]; rfl
      · cases h
theorem range_sound (hlp : LpOk P lp) (hle : ExLe ex) (hex : ExSound P ex) {g : Operand} {lg : Lo} (hg : lowX g = some lg) {ps : Array Tmp} {assign body : Code} {fl : Nat} {rd : Option Nat} {a a' : HAct} {σ σ' : HS} {e : HExit}
    (h : xRange lp ex fl rd lg ps.toList (lowC P assign) (lowC P body) a σ = some (e, a', σ')) (hd : Dom σ) : Snd P (.rangeFunc g ps assign body) fl rd a σ e a' σ' := by
  intro base ρ A W R hin ha hrd
  unfold xRange at h
  split at h
  · rename_i f first captured mk ms σ1 hf hm
    split at h
    · rename_i w σ3 hc
      obtain ⟨q3, hq3, hb3, hfl, he, ha', hs'⟩ := end_loop_some h
      have hv := ev_ok ha hg
      rw [hf] at hv
      obtain ⟨F, C, hV, hF, hC⟩ := vr_func hv
      have le3 := callF_le hle hc
      have hnx : σ'.nx = σ3.nx := by rw [hs']; rfl
      have le3' : σ1.nx + 1 ≤ σ3.nx := le3
      obtain ⟨f1, ρ1, W1, m, p1, hmk, hms, henter⟩ := marks_ok (fl := fl) hm hin (by omega) hrd
      have d1 := f1.dom hd
      have hin1 : In P base σ1 σ' ρ1 W1 := hin.next p1 f1.le
      have hfr : ρ1 σ1.nx = none := hin1.fresh _ (Nat.le_refl _) (by omega)
      obtain ⟨q, hq⟩ : ∃ q : HLoop, q = ⟨.ready, .normal, a.nt, a.tmps, ps.toList, lowC P assign, lowC P body, mk⟩ := ⟨_, rfl⟩
      rw [← hq] at hc
      have f2 : HFS fl σ1 (σ1.new (.loop q)) := hf_new (HS.get_new σ1 _)
      have d2 := f2.dom d1
      have hput : (ρ1.put σ1.nx ⟨W1.heap.size, 0, 0⟩) σ1.nx = some ⟨W1.heap.size, 0, 0⟩ := Rho.put_same ..
      -- with whatever function's name in the record
      have all : ∀ fn, HFS fl (σ1.new (.loop q)) σ3 ∧ ∃ (F1 C1 : Array Value) (W2 : World), A.eval g = .func (.func f) F1 C1 ∧ W2 = W1.alloc (.loop { state := .ready, pending := none, fn, tmps := A.tmps, params := ps, assign, body, defers := m.blk }) ∧
          (∃ fd, P.funcs[f]? = some fd ∧ fd.body.isSome = true ∧ (fd.name == "runtime.NumGoroutine") = false) ∧
          CallsIn (FR none) 0 P f (F1 ++ #[.func (.yield W1.heap.size) #[] #[]] ++ C1) W2 (rangePost (FR R) 0 P W1.heap.size (PQ P base fl σ σ' ρ W e a') { A with defers := (ms.map fun k => ⟨.collected ((ρ1 k).elim 0 RI.blk), #[]⟩) ++ A.defers }) := by
        intro fn
        obtain ⟨W2, hW2⟩ : ∃ W2, W2 = W1.alloc (.loop { state := .ready, pending := none, fn, tmps := A.tmps, params := ps, assign, body, defers := m.blk }) := ⟨_, rfl⟩
        have ext2 : Rho.le ρ1 (ρ1.put σ1.nx ⟨W1.heap.size, 0, 0⟩) := Rho.le_put _ hfr
        have p2 : PostS P base fl σ1 (σ1.new (.loop q)) ρ1 (ρ1.put σ1.nx ⟨W1.heap.size, 0, 0⟩) W1 W2 := by
          rw [hW2]
          refine post_new hin1.sim hfr (HS.get_new σ1 _) rfl ⟨⟨W1.heap.size, 0, 0⟩, m, _, hput, World.alloc_heap_new W1 _, hin1.low, ?_, rfl, ?_⟩
          · rw [hq]; exact ext2 _ _ hmk
          · rw [hq]
            exact ⟨rfl, rfl, (ha.mono (ρ' := ρ1.put σ1.nx ⟨W1.heap.size, 0, 0⟩) (fun b r hr => ext2 _ _ (p1.ext _ _ hr))).tmps, rfl, rfl, rfl⟩
        have hin2 : In P base (σ1.new (.loop q)) σ' (ρ1.put σ1.nx ⟨W1.heap.size, 0, 0⟩) W2 := hin1.next p2 f2.le
        have e02 : Rho.le ρ (ρ1.put σ1.nx ⟨W1.heap.size, 0, 0⟩) := fun b r hr => ext2 _ _ (p1.ext _ _ hr)
        have hargs : LR (ρ1.put σ1.nx ⟨W1.heap.size, 0, 0⟩) (first ++ [.yield σ1.nx] ++ captured) (F.toArray ++ #[Value.func (.yield W1.heap.size) #[] #[]] ++ C.toArray).toList := by
          have hy : VR (ρ1.put σ1.nx ⟨W1.heap.size, 0, 0⟩) (.yield σ1.nx) (.func (.yield W1.heap.size) #[] #[]) := .yield hput
          have := LR.append (LR.append (hF.mono e02) (LR.cons hy (LR.nil _))) (hC.mono e02)
          simpa using this
        obtain ⟨f3, hfd, hcall⟩ := callF_sound hlp hle hex hc d2 base _ _ W2 (hin2.less (by omega)) hargs
        refine ⟨f3, F.toArray, C.toArray, W2, hV, hW2, hfd, hcall.mono ?_⟩
        rintro E W3 ⟨V, ρ3, rfl, _, p3⟩
        have d3 := f3.dom d2
        obtain ⟨r4, m4, L4, hr4, hw4, hb4, hm4, hdf4, hl4⟩ := p3.sim.ok _ _ hq3
        have hr3 := p3.ext _ _ hput
        rw [hr4] at hr3; cases hr3
        have hlt := (Array.getElem?_eq_some_iff.1 hw4).1
        have hnb : L4.state ≠ .busy := by
          rw [hl4.state]
          intro hbs
          apply hb3
          revert hbs
          cases q3.state <;> intro hbs <;> first | rfl | cases hbs
        obtain ⟨W4, hW4⟩ : ∃ W4, W4 = W3.putObj W1.heap.size (.loop { L4 with state := .exhausted }) := ⟨_, rfl⟩
        have p4 : PostS P base fl σ3 σ' ρ3 ρ3 W3 W4 := by
          rw [hs', hW4]
          refine post_upd p3.sim hq3 rfl hfl hr4 (HS.get_upd σ3 _ _) rfl rfl rfl (frz_put hw4 rfl) (by simp) (fun k _ hk => World.putObj_heap_other hk) (fun z hz => ?_)
          cases hz
          exact ⟨_, m4, _, hr4, World.putObj_heap_same hlt, hb4, hm4, hdf4, rfl, hl4.pending, hl4.tmps, hl4.params, hl4.assign, hl4.body⟩
        have f4 : HFS fl σ3 σ' := by rw [hs']; exact hf_upd hfl (d3 _ _ hq3) (HS.get_upd σ3 _ _)
        have pall : PostS P base fl σ σ' ρ ρ3 W W4 := by
          have q1 := Post.trans f1.le f2.le p1 p2
          have q2 := Post.trans (f1.trans f2).le f3.le q1 p3
          exact Post.trans ((f1.trans f2).trans f3).le f4.le q2 p4
        have e13 : Rho.le ρ1 ρ3 := fun b r hr => p3.ext _ _ (ext2 _ _ hr)
        have hA : AR ρ3 a' { A with defers := (ms.map fun k => ⟨.collected ((ρ1 k).elim 0 RI.blk), #[]⟩) ++ A.defers } := by
          have h0 := ha.mono (ρ' := ρ3) (fun b r hr => e13 _ _ (p1.ext _ _ hr))
          rw [ha']
          refine ⟨h0.tmps, ?_, ?_⟩
          · show _ ++ A.defers = List.map _ (ms ++ a.defers)
            rw [List.map_append, h0.defers]
            congr 1
            apply List.map_congr_left
            intro k hk
            obtain ⟨x, hx⟩ := Option.isSome_iff_exists.1 (hms k hk)
            rw [hx, e13 _ _ hx]
          · intro k hk
            rcases List.mem_append.1 hk with hk | hk
            · obtain ⟨x, hx⟩ := Option.isSome_iff_exists.1 (hms k hk)
              rw [e13 _ _ hx]; rfl
            · exact h0.marks k hk
        refine ⟨L4.pending, W4, by rw [hW4]; exact run_endLoop hw4 hnb, ?_⟩
        rw [hl4.pending]
        subst he
        cases hp : q3.pending with
        | normal => exact ⟨ρ3, pall, rfl, hA⟩
        | exit id => exact wpIn_exit ⟨ρ3, pall, rfl, hA⟩
        | ret => exact wpIn_ret ⟨ρ3, pall, rfl, hA⟩
      obtain ⟨f3, _⟩ := all 0
      have f4 : HFS fl σ3 σ' := by rw [hs']; exact hf_upd hfl ((f3.dom d2) _ _ hq3) (HS.get_upd σ3 _ _)
      refine ⟨((f1.trans f2).trans f3).trans f4, wpIn_rangeFunc fun fn _ => ?_⟩
      obtain ⟨_, F1, C1, W2, hV1, hW2, ⟨fd, q1, q2, q3'⟩, hcall⟩ := all fn
      refine ⟨W1.heap.size, (ms.map fun k => ⟨.collected ((ρ1 k).elim 0 RI.blk), #[]⟩), W2, { target := .fn (.func f) C1, args := F1 ++ #[.func (.yield W1.heap.size) #[] #[]] }, W2, f, F1 ++ #[.func (.yield W1.heap.size) #[] #[]] ++ C1, W2, ?_, ?_, fun _ _ => trivial, ?_, ?_, ?_⟩
      · rw [hW2]; exact henter fn A.tmps ps assign body
      · have : A.eval (.const (.func (.yield W1.heap.size) #[] #[])) = .func (.yield W1.heap.size) #[] #[] := rfl
        simp [resolve, hV1, Deferred.ofValue, this]
      · simp [invoke, callFunc, q1]
        rw [if_neg (by intro e; rw [e] at q3'; simp at q3'), if_neg (by intro e; rw [e] at q2; cases q2)]
      · intro hdep; simp [FR, Fence.wide] at hdep
      · cases R with
        | none => exact hcall
        | some r => exact CallsIn.inRound r hcall
    · cases h
  · cases h
end Go.Hx
