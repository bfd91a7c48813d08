/- The plain machine as closures: where it comes to something, the plain machine comes to the same. -/
import Derived.Test.YtldhaobimaodoaaH04
import Derived.Test.YtldhaobimaodoaaH03
import Derived.Test.YtldhaobimaodoaaH02
set_option linter.all false
/- The plain machine as closures: where it comes to something, the plain machine comes to the same. -/
namespace Go.Hx
variable {lp : Nat → Option LFunc} {nt : Nat}

theorem run_mk {α : Type} (f : α) : (Bx.mk f).run = f := rfl
theorem then_eq {α β : Type} (b : Bx α) (g : α → Bx β) : b.then g = g b.run := by cases b; rfl
theorem pa_then {β : Type} (p : Pa) (g : Pa → Bx β) : p.then g = g p := by cases p <;> rfl
theorem tmp_eq (a : Tr HV) (ds : List Nat) (n : Nat) : (pa n).tmp a = (⟨nt, a, ds⟩ : HAct).tmp n := by
  show Option.rec (motive := fun _ => HV) HV.undef (fun v => v) (a.get n) = (a.get n).getD .undef
  cases a.get n <;> rfl
theorem ev_eq (x : Lo) (a : Tr HV) (ds : List Nat) : (evK x).run a = (⟨nt, a, ds⟩ : HAct).ev x := by
  cases x with
  | t n => exact tmp_eq a ds n
  | c v => rfl
theorem evs_eq (xs : List Lo) (a : Tr HV) (ds : List Nat) : (xs.map fun x => evL x a) = xs.map (⟨nt, a, ds⟩ : HAct).ev := by
  apply List.map_congr_left
  intro x _
  exact ev_eq x a ds

def KoOk (lp : Nat → Option LFunc) (nt : Nat) (G : Ko) (o : LOp) : Prop := ∀ fl a ds h nx (k : Kv) r, G fl a h nx k = some r → ∃ n v σ', opH lp (exec lp n) fl o ⟨nt, a, ds⟩ ⟨h, nx⟩ = some (v, σ') ∧ k v σ'.h σ'.nx = some r
def KosOk (lp : Nat → Option LFunc) (nt : Nat) (G : Nat → Kt → Kt) (os : List LOper) : Prop := ∀ fl (k : Kt) a ds h nx r, G fl k a ds h nx = some r → ∃ n a' σ', runOps lp (exec lp n) fl os ⟨nt, a, ds⟩ ⟨h, nx⟩ = some (a', σ') ∧ a'.nt = nt ∧ k a'.tmps a'.defers σ'.h σ'.nx = some r
def contK (e : HExit) (kn : Kt) (kx : Nat → Kt) (kr : Kt) (a : HAct) (σ : HS) : Option (HV × HS) :=
  match e with
  | .normal => kn a.tmps a.defers σ.h σ.nx
  | .exit i => kx i a.tmps a.defers σ.h σ.nx
  | .ret => kr a.tmps a.defers σ.h σ.nx
def KcOk (lp : Nat → Option LFunc) (nt : Nat) (F : Kc) (c : LCode) : Prop := ∀ fl rd kn kx kr a ds h nx r, F fl rd kn kx kr a ds h nx = some r → ∃ n e a' σ', exec lp n fl rd c ⟨nt, a, ds⟩ ⟨h, nx⟩ = some (e, a', σ') ∧ a'.nt = nt ∧ contK e kn kx kr a' σ' = some r
def KfOk (lp : Nat → Option LFunc) (F : Kf) (f : Nat) : Prop := ∀ fl args h nx (k : Kv) r, F fl args h nx k = some r → ∃ n v σ', callF lp (exec lp n) fl f args ⟨h, nx⟩ = some (v, σ') ∧ k v σ'.h σ'.nx = some r

def KrOk (lp : Nat → Option LFunc) (ro : Kr) : Prop := ∀ fl l args h nx (k : Kv) r, ro fl l args h nx k = some r → ∃ n v σ', roundH (exec lp n) fl l args ⟨h, nx⟩ = some (v, σ') ∧ k v σ'.h σ'.nx = some r
theorem slow_ok (o : LOp) : KoOk lp nt (slowK lp nt o) o := by
  intro fl a ds h nx k r hr
  unfold slowK at hr
  rw [op_congr (a := ⟨nt, a, []⟩) (b := ⟨nt, a, ds⟩) ⟨h, nx⟩ rfl (fun _ _ => rfl)] at hr
  split at hr
  · rename_i v σ' ho; exact ⟨0, v, σ', ho, hr⟩
  · cases hr
theorem chk_ds {nt : Nat} {a : Tr HV} {ds ds' : List Nat} {σ : HS} : ∀ (cs : List (Rd × Nat)), chkH ⟨nt, a, ds⟩ σ cs = chkH ⟨nt, a, ds'⟩ σ cs
  | [] => rfl
  | (o, t) :: cs => by
    unfold chkH
    rw [chk_ds (ds' := ds') cs, rd_congr (a := ⟨nt, a, ds⟩) (b := ⟨nt, a, ds'⟩) σ (fun _ _ => rfl)]
    rfl
theorem call_ok {fn : Nat → Bx Kf} {ro : Kr} (hfn : ∀ f, KfOk lp (fn f).run f) (hro : KrOk lp ro) (f : Lo) (xs : List Lo) : KoOk lp nt (callK lp fn ro (evK f).run xs) (.call f xs) := by
  intro fl a ds h nx k r hr
  unfold callK at hr
  rw [ev_eq (nt := nt) f a ds, evs_eq (nt := nt) xs a ds] at hr
  split at hr
  · rename_i g first captured hf
    obtain ⟨n, v, σ', h1, h2⟩ := hfn g _ _ _ _ _ _ hr
    refine ⟨n, v, σ', ?_, h2⟩
    show callH lp _ fl _ _ _ = _
    unfold callH
    rw [hf]
    exact h1
  · rename_i l hf
    obtain ⟨n, v, σ', h1, h2⟩ := hro _ _ _ _ _ _ _ hr
    refine ⟨n, v, σ', ?_, h2⟩
    show callH lp _ fl _ _ _ = _
    unfold callH
    rw [hf]
    exact h1
  · rename_i t name g hf
    unfold viaK at hr
    split at hr
    · rename_i off b o rest e1 e2
      obtain ⟨n, v, σ', h1, h2⟩ := hfn g _ _ _ _ _ _ hr
      refine ⟨n, v, σ', ?_, h2⟩
      show callH lp _ fl _ _ _ = _
      unfold callH
      rw [hf]
      show callV lp _ fl t name g _ _ = _
      unfold callV
      rw [e1, e2]
      exact h1
    · cases hr
  · cases hr
theorem nth_eq : ∀ (i : Nat) (l : List HV), nthK i l = l[i]?
  | 0, [] => rfl
  | 0, v :: l => rfl
  | i + 1, [] => rfl
  | i + 1, v :: l => (nth_eq i l).trans (by simp)
theorem set_eq (v : HV) : ∀ (i : Nat) (l : List HV), i < l.length → overwrite l i [v] = some (setR i v l)
  | _, [], h => by simp at h
  | 0, x :: l, _ => by cases l <;> rfl
  | i + 1, x :: l, h => by
    unfold overwrite
    rw [set_eq v i l (by simpa using h)]
    rfl
theorem op_ok {fn : Nat → Bx Kf} {ro : Kr} (hfn : ∀ f, KfOk lp (fn f).run f) (hro : KrOk lp ro) (o : LOp) : KoOk lp nt (compOp lp fn ro nt o).run o := by
  have slow := slow_ok (lp := lp) (nt := nt) o
  unfold compOp
  split
  case h_1 x =>
    rw [then_eq, run_mk]
    intro fl a ds h nx k r hr
    dsimp only at hr
    rw [ev_eq (nt := nt) x a ds] at hr
    exact ⟨0, _, ⟨h, nx⟩, rfl, hr⟩
  case h_2 op x y =>
    rw [then_eq, then_eq, run_mk]
    intro fl a ds h nx k r hr
    dsimp only at hr
    rw [ev_eq (nt := nt) x a ds, ev_eq (nt := nt) y a ds] at hr
    unfold binK at hr
    split at hr
    · rename_i k1 m k2 n e1 e2
      cases hk : sameK k1 k2 with
      | false => rw [hk] at hr; cases hr
      | true =>
        rw [hk] at hr
        simp only [cond_true] at hr
        split at hr
        · rename_i v e3
          refine ⟨0, v, ⟨h, nx⟩, ?_, hr⟩
          show keep _ (binH op _ _) = _
          rw [e1, e2]
          unfold binH
          dsimp only
          cases hsh : isShift op with
          | true => rw [hsh] at e3; simp only [cond_true] at e3 ⊢; rw [e3]; rfl
          | false => rw [hsh] at e3; simp only [cond_false] at e3 ⊢; rw [hk, e3]; rfl
        · cases hr
    · cases hr
  case h_3 off x =>
    rw [then_eq, run_mk]
    intro fl a ds h nx k r hr
    dsimp only at hr
    rw [ev_eq (nt := nt) x a ds] at hr
    unfold addrK at hr
    split at hr
    · rename_i b o e1
      refine ⟨0, _, ⟨h, nx⟩, ?_, hr⟩
      show oFieldAddr off x _ _ = _
      unfold oFieldAddr
      rw [e1]
    · cases hr
  case h_4 len size x i =>
    rw [then_eq, then_eq, run_mk]
    intro fl a ds h nx k r hr
    dsimp only at hr
    rw [ev_eq (nt := nt) x a ds, ev_eq (nt := nt) i a ds] at hr
    unfold idxK at hr
    split at hr
    · rename_i b o kk j e1 e2
      cases hb : Nat.blt j len with
      | false => rw [hb] at hr; cases hr
      | true =>
        rw [hb] at hr
        refine ⟨0, _, ⟨h, nx⟩, ?_, hr⟩
        show oIndexAddrA len size x i _ _ = _
        unfold oIndexAddrA
        rw [e1, e2]
        simp only [natOf, stepTo, hb, cond_true]
    · cases hr
  case h_5 x =>
    rw [then_eq, run_mk]
    intro fl a ds h nx k r hr
    dsimp only at hr
    rw [ev_eq (nt := nt) x a ds] at hr
    unfold nilK at hr
    split at hr
    · rename_i p e1
      refine ⟨0, _, ⟨h, nx⟩, ?_, hr⟩
      show oNilCheck x _ _ = _
      unfold oNilCheck
      rw [e1]
    · rename_i f first captured e1
      refine ⟨0, _, ⟨h, nx⟩, ?_, hr⟩
      show oNilCheck x _ _ = _
      unfold oNilCheck
      rw [e1]
    · cases hr
  case h_6 x =>
    rw [then_eq, run_mk]
    intro fl a ds h nx k r hr
    dsimp only at hr
    rw [ev_eq (nt := nt) x a ds] at hr
    unfold loadK at hr
    split at hr
    · rename_i b o e1
      split at hr
      · rename_i cs bk e2
        rw [nth_eq] at hr
        split at hr
        · rename_i v e3
          refine ⟨0, v, ⟨h, nx⟩, ?_, hr⟩
          show oLoad false 1 x _ _ = _
          unfold oLoad
          rw [e1]
          have hc : (⟨h, nx⟩ : HS).cells b = some cs := by unfold HS.cells; rw [e2]
          have hr2 : (⟨h, nx⟩ : HS).read (b, o) 1 = some [v] := by
            unfold HS.read
            simp only [hc, Option.bind_eq_bind, Option.bind_some]
            have hlt : o < cs.length := by
              rcases Nat.lt_or_ge o cs.length with h | h
              · exact h
              · rw [List.getElem?_eq_none h] at e3; cases e3
            rw [List.drop_eq_getElem_cons hlt]
            rw [List.getElem?_eq_getElem hlt] at e3
            cases e3
            simp [takeN]
          simp only [hr2, whole, keep]
        · cases hr
      · cases hr
    · cases hr
  case h_7 x y =>
    rw [then_eq, then_eq, run_mk]
    intro fl a ds h nx k r hr
    dsimp only at hr
    rw [ev_eq (nt := nt) x a ds, ev_eq (nt := nt) y a ds] at hr
    revert hr
    cases h1 : ((⟨nt, a, ds⟩ : HAct).ev y).one with
    | false => exact fun hr => slow fl a ds h nx k r hr
    | true =>
    intro hr
    simp only [cond_true] at hr
    unfold storeK at hr
    split at hr
    · rename_i b o e1
      split at hr
      · rename_i cs bk e2
        revert hr
        cases hc : (Nat.ble fl b && ((⟨nt, a, ds⟩ : HAct).ev y).one && wrOk bk) with
        | false => intro hr; cases hr
        | true =>
          intro hr
          simp only [cond_true] at hr
          simp only [Bool.and_eq_true] at hc
          obtain ⟨⟨c1, c2⟩, c3⟩ := hc
          rw [nth_eq] at hr
          split at hr
          · rename_i u e3
            have hlt : o < cs.length := by
              rcases Nat.lt_or_ge o cs.length with h | h
              · exact h
              · rw [List.getElem?_eq_none h] at e3; cases e3
            refine ⟨0, .undef, ⟨h.set b (some (.cells (setR o ((⟨nt, a, ds⟩ : HAct).ev y) cs) bk)), nx⟩, ?_, hr⟩
            have hcells : ((⟨nt, a, ds⟩ : HAct).ev y).cells = [(⟨nt, a, ds⟩ : HAct).ev y] := by
              generalize (⟨nt, a, ds⟩ : HAct).ev y = v at c2
              cases v <;> first | rfl | cases c2
            show oStore fl 1 x y _ _ = _
            unfold oStore
            rw [e1, hcells]
            have hw : (⟨h, nx⟩ : HS).write fl (b, o) [(⟨nt, a, ds⟩ : HAct).ev y] = some ⟨h.set b (some (.cells (setR o ((⟨nt, a, ds⟩ : HAct).ev y) cs) bk)), nx⟩ := by
              unfold HS.write
              simp only [e2]
              cases bk with
              | ro => cases c3
              | exact => simp only [c1, List.all_cons, c2, List.all_nil, Bool.and_true, cond_true, set_eq _ _ _ hlt, Option.map_some]; rfl
              | opn z => simp only [c1, List.all_cons, c2, List.all_nil, Bool.and_true, cond_true, set_eq _ _ _ hlt, Option.map_some]; rfl
            simp only [hw]
            rfl
          · cases hr
      · cases hr
    · cases hr
  case h_8 f xs =>
    rw [then_eq, run_mk]
    exact call_ok hfn hro f xs
  case h_9 f xs cs =>
    rw [then_eq, run_mk]
    intro fl a ds h nx k r hr
    obtain ⟨n, v, σ', h1, h2⟩ := call_ok hfn hro f xs _ _ ds _ _ _ _ hr
    refine ⟨n, v, σ', ?_, ?_⟩
    · cases hc : chkH ⟨nt, a, []⟩ ⟨σ'.h, σ'.nx⟩ cs with
      | false => rw [hc] at h2; cases h2
      | true =>
        have h1 : callH lp (exec lp n) fl ((⟨nt, a, ds⟩ : HAct).ev f) (xs.map (⟨nt, a, ds⟩ : HAct).ev) ⟨h, nx⟩ = some (v, σ') := h1
        have hc : chkH ⟨nt, a, ds⟩ σ' cs = true := by rw [← hc]; exact chk_ds cs
        show oCallC lp _ fl f xs cs _ _ = _
        unfold oCallC
        rw [h1]
        simp only [hc, cond_true]
    · cases hc : chkH ⟨nt, a, []⟩ ⟨σ'.h, σ'.nx⟩ cs with
      | false => rw [hc] at h2; cases h2
      | true => rw [hc] at h2; exact h2
  case h_10 => exact slow
theorem guard_k {G : Bx Ko} {o : LOper} (h : KoOk lp nt G.run o.op) : ∀ fl a ds hp nx (k : Kv) r, (guardK o.g G).run fl a hp nx k = some r →
    ∃ n v σ', (bif wantedH o.g ⟨nt, a, ds⟩ then opH lp (exec lp n) fl o.op ⟨nt, a, ds⟩ ⟨hp, nx⟩ else some (.undef, ⟨hp, nx⟩)) = some (v, σ') ∧ k v σ'.h σ'.nx = some r := by
  intro fl a ds hp nx k r hr
  unfold guardK at hr
  split at hr
  · rename_i hg
    obtain ⟨n, v, σ', h1, h2⟩ := h fl a ds hp nx k r hr
    refine ⟨n, v, σ', ?_, h2⟩
    rw [hg]
    exact h1
  · rename_i t want hg
    rw [then_eq, then_eq, run_mk] at hr
    rw [ev_eq (nt := nt) (.t t) a ds] at hr
    have hw : wantedH o.g ⟨nt, a, ds⟩ = isB want ((⟨nt, a, ds⟩ : HAct).ev (.t t)) := by
      rw [hg]
      unfold wantedH isB
      dsimp only [HAct.ev]
      generalize (⟨nt, a, ds⟩ : HAct).tmp t = x
      cases x <;> rfl
    rw [hw]
    cases hb : isB want ((⟨nt, a, ds⟩ : HAct).ev (.t t)) with
    | true =>
      rw [hb] at hr
      exact h fl a ds hp nx k r hr
    | false =>
      rw [hb] at hr
      exact ⟨0, .undef, ⟨hp, nx⟩, rfl, hr⟩
theorem put_k (dst : Option Nat) (a : Tr HV) (ds : List Nat) (v : HV) : (⟨nt, a, ds⟩ : HAct).put dst v = ⟨nt, (putK nt dst).run a v, ds⟩ := by
  unfold HAct.put putK
  cases dst with
  | none => rfl
  | some d =>
    dsimp only
    cases Nat.blt d nt with
    | false => rfl
    | true => rw [cond_true, cond_true, pa_then]; rfl
theorem step_k {G : Bx Ko} {o : LOper} (h : KoOk lp nt G.run o.op) : ∀ fl a ds hp nx (k : Kv) r, (guardK o.g G).run fl a hp nx k = some r →
    ∃ n v σ', stepOp lp (exec lp n) fl o ⟨nt, a, ds⟩ ⟨hp, nx⟩ = some (⟨nt, (putK nt o.dst).run a v, ds⟩, σ') ∧ k v σ'.h σ'.nx = some r := by
  intro fl a ds hp nx k r hr
  obtain ⟨n, v, σ', h1, h2⟩ := guard_k h fl a ds hp nx k r hr
  refine ⟨n, v, σ', ?_, h2⟩
  unfold stepOp
  cases hw : wantedH o.g ⟨nt, a, ds⟩ with
  | true => rw [hw] at h1; simp only [cond_true] at h1 ⊢; rw [h1]; simp only [put_k]
  | false =>
    rw [hw] at h1
    cases h1
    simp only [cond_false, put_k]
theorem ops_k {op : LOp → Bx Ko} (hop : ∀ o, KoOk lp nt (op o).run o) : ∀ os, KosOk lp nt (compOps op nt os).run os
  | [] => fun fl k a ds h nx r hr => ⟨0, _, _, rfl, rfl, hr⟩
  | o :: os => by
    intro fl k a ds h nx r hr
    unfold compOps at hr
    rw [then_eq, then_eq, then_eq, run_mk] at hr
    obtain ⟨n, v, σ1, h1, h2⟩ := step_k (hop o.op) fl a ds h nx _ r hr
    obtain ⟨m, a', σ', h3, h4, h5⟩ := ops_k hop os fl k _ ds _ _ r h2
    refine ⟨max n m, a', σ', ?_, h4, h5⟩
    unfold runOps
    rw [stepOp_mon (exec_mon (Nat.le_max_left n m)) h1]
    exact runOps_mon (exec_mon (Nat.le_max_right n m)) h3
theorem draw_k {op : LOp → Bx Ko} (hop : ∀ o, KoOk lp nt (op o).run o) {s : Nat} : ∀ os fl n0 i h0 done (k : Kt) a ds nx r, fl ≤ n0 → n0 ≤ nx → (drawK op nt s os).run fl n0 i h0 done k a ds nx = some r →
    ∃ n a' σ', drawOps lp (exec lp n) fl s n0 h0 os i done ⟨nt, a, ds⟩ nx = some (a', σ') ∧ a'.nt = nt ∧ k a'.tmps a'.defers σ'.h σ'.nx = some r
  | [], fl, n0, i, h0, done, k, a, ds, nx, r, _, _, hr => ⟨0, _, _, rfl, rfl, hr⟩
  | o :: os, fl, n0, i, h0, done, k, a, ds, nx, r, hfl, hn0, hr => by
    unfold drawK at hr
    rw [then_eq, then_eq, then_eq, then_eq, run_mk] at hr
    cases hc : Nat.blt i s with
    | false =>
      rw [hc] at hr
      obtain ⟨n, a', σ', h1, h2, h3⟩ := ops_k hop (o :: os) fl k a ds _ nx r hr
      refine ⟨n, a', σ', ?_, h2, h3⟩
      unfold drawOps
      rw [hc]
      exact h1
    | true =>
      rw [hc] at hr
      simp only [cond_true] at hr
      cases hw : o.anc.contains i with
      | true =>
        rw [hw] at hr
        simp only [cond_true] at hr
        obtain ⟨n, v, σ1, h1, h2⟩ := step_k (hop o.op) n0 a ds _ nx _ r hr
        revert h2
        cases hb : Nat.ble nx σ1.nx with
        | false => intro h2; cases h2
        | true =>
          intro h2
          simp only [cond_true] at h2
          have hle := Nat.le_of_ble_eq_true hb
          obtain ⟨m, a', σ', h3, h4, h5⟩ := draw_k hop os fl n0 (Nat.succ i) h0 _ k _ ds _ r hfl (Nat.le_trans hn0 hle) h2
          refine ⟨max n m, a', σ', ?_, h4, h5⟩
          have hmx : Nat.max fl n0 = n0 := Nat.max_eq_right hfl
          unfold drawOps
          rw [hc, hw]
          simp only [cond_true, hmx]
          rw [stepOp_mon (exec_mon (Nat.le_max_left n m)) h1]
          simp only [hb, Bool.not_true, cond_false]
          exact drawOps_mon (exec_mon (Nat.le_max_right n m)) h3
      | false =>
        rw [hw] at hr
        simp only [cond_false] at hr
        obtain ⟨n, v, σ1, h1, h2⟩ := step_k (hop o.op) nx a ds _ nx _ r hr
        revert h2
        cases hb : Nat.ble nx σ1.nx with
        | false => intro h2; cases h2
        | true =>
          intro h2
          simp only [cond_true] at h2
          have hle := Nat.le_of_ble_eq_true hb
          obtain ⟨m, a', σ', h3, h4, h5⟩ := draw_k hop os fl n0 (Nat.succ i) h0 _ k _ ds _ r hfl (Nat.le_trans hn0 hle) h2
          refine ⟨max n m, a', σ', ?_, h4, h5⟩
          have hmx : Nat.max fl nx = nx := Nat.max_eq_right (by omega)
          unfold drawOps
          rw [hc, hw]
          simp only [cond_true, cond_false, hmx]
          rw [stepOp_mon (exec_mon (Nat.le_max_left n m)) h1]
          simp only [hb, Bool.not_true, cond_false]
          exact drawOps_mon (exec_mon (Nat.le_max_right n m)) h3
theorem seq_run {n : Nat} {fl : Nat} {rd : Option Nat} {x y : LCode} {a a1 : HAct} {σ σ1 : HS} {q : HExit × HAct × HS} {m : Nat} (h1 : exec lp n fl rd x a σ = some (.normal, a1, σ1)) (h2 : exec lp m fl rd y a1 σ1 = some q) : xSeq (exec lp (max n m)) fl rd x y a σ = some q := by
  unfold xSeq
  rw [exec_mon (Nat.le_max_left n m) _ _ _ _ _ _ h1]
  exact exec_mon (Nat.le_max_right n m) _ _ _ _ _ _ h2
theorem loop_k {b : Option HBlk} {k : LState → HExit → Nat → Tr HV → List Nat → LCode → LCode → Nat → Option (HV × HS)} {r : HV × HS} (hr : loopK b k = some r) : ∃ q : HLoop, b = some (.loop q) ∧ k q.state q.pending q.nt q.tmps q.params q.assign q.body q.marks = some r := by
  unfold loopK at hr
  split at hr
  · exact ⟨_, rfl, hr⟩
  · cases hr
theorem marks_k {rd : Option Nat} {h : Tr HBlk} {nx : Nat} {k : Nat → List Nat → Tr HBlk → Nat → Option (HV × HS)} {r : HV × HS} (hr : marksK rd h nx k = some r) : ∃ mk ms h1 n1, marksOf rd ⟨h, nx⟩ = some (mk, ms, ⟨h1, n1⟩) ∧ k mk ms h1 n1 = some r := by
  unfold marksK at hr
  cases rd with
  | none => exact ⟨_, _, _, _, rfl, hr⟩
  | some l =>
    obtain ⟨q, hq, hk⟩ := loop_k hr
    refine ⟨_, _, _, _, ?_, hk⟩
    unfold marksOf
    simp only [hq]
theorem jump_k (e : HExit) (kn : Kt) (kx : Nat → Kt) (kr : Kt) (a : HAct) (σ : HS) : jumpK e kn kx kr a.tmps a.defers σ.h σ.nx = contK e kn kx kr a σ := by cases e <;> rfl
theorem range_k {fn : Nat → Bx Kf} (hfn : ∀ f, KfOk lp (fn f).run f) (f : Lo) (ps : List Nat) (assign body : LCode) : KcOk lp nt (rangeK fn nt (evK f).run ps assign body) (.rangeFunc f ps assign body) := by
  intro fl rd kn kx kr a ds h nx r hr
  unfold rangeK at hr
  rw [ev_eq (nt := nt) f a ds] at hr
  split at hr
  · rename_i g first captured hf
    obtain ⟨mk, ms, h1, n1, hm, hr⟩ := marks_k hr
    obtain ⟨n, v, σ3, hc, hr⟩ := hfn g _ _ _ _ _ _ hr
    obtain ⟨q, hq, hr⟩ := loop_k hr
    revert hr
    cases hb : (notBusy q.state && Nat.ble fl n1) with
    | false => intro hr; cases hr
    | true =>
      intro hr
      simp only [cond_true] at hr
      simp only [Bool.and_eq_true] at hb
      refine ⟨n + 1, q.pending, ⟨nt, a, ms ++ ds⟩, σ3.upd n1 (some (.loop { q with state := .exhausted })), ?_, rfl, ?_⟩
      · show xRange lp (exec lp n) fl rd f ps assign body _ _ = _
        unfold xRange
        rw [hf, hm]
        dsimp only
        have hc' : callF lp (exec lp n) fl g (first ++ [.yield n1] ++ captured) ((⟨h1, n1⟩ : HS).new (.loop ⟨.ready, .normal, nt, a, ps, assign, body, mk⟩)) = some (v, σ3) := hc
        rw [hc']
        dsimp only
        unfold endLoopH
        rw [hq]
        dsimp only
        have hnb := hb.1
        cases hst : q.state <;> rw [hst] at hnb <;> first | (exact absurd hnb (by decide)) | (dsimp only; rw [hb.2]; rfl)
      · rw [← jump_k]; exact hr
  · cases hr
theorem end_k {l : Nat} {e : HExit} {k : Kv} {h : Tr HBlk} {nx : Nat} {r : HV × HS} (hr : endK l e k h nx = some r) : ∃ v σ', endRoundH l e ⟨h, nx⟩ = some (v, σ') ∧ k v σ'.h σ'.nx = some r := by
  unfold endK at hr
  obtain ⟨q, hq, hr⟩ := loop_k hr
  cases e with
  | normal =>
    refine ⟨.bool true, (⟨h, nx⟩ : HS).upd l (some (.loop { q with state := .ready, pending := .normal })), ?_, hr⟩
    unfold endRoundH
    simp only [hq]
  | exit id =>
    refine ⟨.bool false, (⟨h, nx⟩ : HS).upd l (some (.loop { q with state := .done, pending := .exit id })), ?_, hr⟩
    unfold endRoundH
    simp only [hq]
  | ret =>
    refine ⟨.bool false, (⟨h, nx⟩ : HS).upd l (some (.loop { q with state := .done, pending := .ret })), ?_, hr⟩
    unfold endRoundH
    simp only [hq]
theorem round_k {co : Nat → LCode → Bx Kc} (hco : ∀ nt c, KcOk lp nt (co nt c).run c) : KrOk lp (roundK co) := by
  intro fl l args h nx k r hr
  unfold roundK at hr
  obtain ⟨q, hq, hr⟩ := loop_k hr
  split at hr
  · rename_i tm1 hz
    obtain ⟨n, e, a1, σ1, h1, h2, h3⟩ := hco _ _ _ _ _ _ _ _ _ _ _ _ hr
    cases e with
    | normal =>
      dsimp only [contK] at h3
      obtain ⟨q1, hq1, h3⟩ := loop_k h3
      revert h3
      cases hb : (isReady q1.state && Nat.ble fl l) with
      | false => intro h3; cases h3
      | true =>
        intro h3
        simp only [cond_true] at h3
        simp only [Bool.and_eq_true] at hb
        obtain ⟨m, e, a2, σ2, h4, h5, h6⟩ := hco _ _ _ _ _ _ _ _ _ _ _ _ h3
        have ea : (⟨q.nt, a1.tmps, a1.defers⟩ : HAct) = a1 := by rw [← h2]
        rw [ea] at h4
        have hbegin : beginRoundH fl l σ1 = some ⟨σ1.h.set l (some (.loop { q1 with state := .busy })), σ1.nx⟩ := by
          unfold beginRoundH
          rw [hq1]
          dsimp only
          have hrd := hb.1
          cases hst : q1.state <;> rw [hst] at hrd <;> first | (exact absurd hrd (by decide)) | (dsimp only; rw [hb.2]; rfl)
        have hend : ∃ v σ', endRoundH l e σ2 = some (v, σ') ∧ k v σ'.h σ'.nx = some r := by
          cases e <;> exact end_k h6
        obtain ⟨v, σ', g1, g2⟩ := hend
        refine ⟨max n m, v, σ', ?_, g2⟩
        unfold roundH
        rw [hq]
        dsimp only
        rw [hz]
        dsimp only
        rw [exec_mon (Nat.le_max_left n m) _ _ _ _ _ _ h1]
        dsimp only
        rw [hbegin]
        dsimp only
        rw [exec_mon (Nat.le_max_right n m) _ _ _ _ _ _ h4]
        exact g1
    | exit id => cases h3
    | ret => cases h3
  · cases hr
theorem comp_k {op : LOp → Bx Ko} {fn : Nat → Bx Kf} (hop : ∀ o, KoOk lp nt (op o).run o) (hfn : ∀ f, KfOk lp (fn f).run f) : ∀ c, KcOk lp nt (comp op fn nt c).run c
  | .skip => fun fl rd kn kx kr a ds h nx r hr => ⟨1, .normal, _, _, rfl, rfl, hr⟩
  | .seq x y => by
    intro fl rd kn kx kr a ds h nx r hr
    unfold comp at hr
    rw [then_eq, then_eq, run_mk] at hr
    obtain ⟨n, e, a1, σ1, h1, h2, h3⟩ := comp_k hop hfn x fl rd _ kx kr a ds h nx r hr
    cases e with
    | normal =>
      dsimp only [contK] at h3
      obtain ⟨m, e, a', σ', h4, h5, h6⟩ := comp_k hop hfn y fl rd kn kx kr a1.tmps a1.defers σ1.h σ1.nx r h3
      have ea : (⟨nt, a1.tmps, a1.defers⟩ : HAct) = a1 := by rw [← h2]
      rw [ea] at h4
      exact ⟨max n m + 1, e, a', σ', seq_run h1 h4, h5, h6⟩
    | exit id => exact ⟨n + 1, .exit id, a1, σ1, by show xSeq _ _ _ _ _ _ _ = _; unfold xSeq; rw [h1], h2, h3⟩
    | ret => exact ⟨n + 1, .ret, a1, σ1, by show xSeq _ _ _ _ _ _ _ = _; unfold xSeq; rw [h1], h2, h3⟩
  | .cond c x y => by
    intro fl rd kn kx kr a ds h nx r hr
    unfold comp at hr
    rw [then_eq, then_eq, then_eq, run_mk] at hr
    rw [ev_eq (nt := nt) c a ds] at hr
    split at hr
    · rename_i b hb
      cases b with
      | true =>
        obtain ⟨n, e, a', σ', h1, h2, h3⟩ := comp_k hop hfn x fl rd kn kx kr a ds h nx r hr
        refine ⟨n + 1, e, a', σ', ?_, h2, h3⟩
        show xCond _ _ _ _ _ _ _ _ = _
        unfold xCond
        rw [hb]; exact h1
      | false =>
        obtain ⟨n, e, a', σ', h1, h2, h3⟩ := comp_k hop hfn y fl rd kn kx kr a ds h nx r hr
        refine ⟨n + 1, e, a', σ', ?_, h2, h3⟩
        show xCond _ _ _ _ _ _ _ _ = _
        unfold xCond
        rw [hb]; exact h1
    · cases hr
  | .block id x => by
    intro fl rd kn kx kr a ds h nx r hr
    unfold comp at hr
    rw [then_eq, run_mk] at hr
    obtain ⟨n, e, a', σ', h1, h2, h3⟩ := comp_k hop hfn x fl rd kn _ kr a ds h nx r hr
    cases e with
    | normal => exact ⟨n + 1, .normal, a', σ', by show xBlock _ _ _ _ _ _ _ = _; unfold xBlock; rw [h1], h2, h3⟩
    | ret => exact ⟨n + 1, .ret, a', σ', by show xBlock _ _ _ _ _ _ _ = _; unfold xBlock; rw [h1], h2, h3⟩
    | exit i =>
      dsimp only [contK] at h3
      refine ⟨n + 1, bif Nat.beq i id then .normal else .exit i, a', σ', by show xBlock _ _ _ _ _ _ _ = _; unfold xBlock; rw [h1], h2, ?_⟩
      revert h3
      cases Nat.beq i id <;> exact fun h => h
  | .loop x => by
    intro fl rd kn kx kr a ds h nx r hr
    unfold comp at hr
    rw [then_eq, run_mk] at hr
    have ihx := comp_k hop hfn x
    revert hr
    generalize 1000000 = m
    induction m generalizing a ds h nx with
    | zero => intro hr; cases hr
    | succ m ih =>
      intro hr
      obtain ⟨n, e, a1, σ1, h1, h2, h3⟩ := ihx fl rd _ kx kr a ds h nx r hr
      cases e with
      | normal =>
        dsimp only [contK] at h3
        obtain ⟨k, e, a', σ', h4, h5, h6⟩ := ih a1.tmps a1.defers σ1.h σ1.nx h3
        have ea : (⟨nt, a1.tmps, a1.defers⟩ : HAct) = a1 := by rw [← h2]
        rw [ea] at h4
        exact ⟨max n k + 1, e, a', σ', seq_run h1 h4, h5, h6⟩
      | exit id => exact ⟨n + 1, .exit id, a1, σ1, by show xSeq _ _ _ _ _ _ _ = _; unfold xSeq; rw [h1], h2, h3⟩
      | ret => exact ⟨n + 1, .ret, a1, σ1, by show xSeq _ _ _ _ _ _ _ = _; unfold xSeq; rw [h1], h2, h3⟩
  | .scope x => by
    intro fl rd kn kx kr a ds h nx r hr
    obtain ⟨n, e, a', σ', h1, h2, h3⟩ := comp_k hop hfn x fl rd kn kx kr a ds h nx r hr
    exact ⟨n + 1, e, a', σ', h1, h2, h3⟩
  | .exit id => fun fl rd kn kx kr a ds h nx r hr => ⟨1, .exit id, _, _, rfl, rfl, hr⟩
  | .ret => fun fl rd kn kx kr a ds h nx r hr => ⟨1, .ret, _, _, rfl, rfl, hr⟩
  | .reg ops => by
    intro fl rd kn kx kr a ds h nx r hr
    unfold comp at hr
    rw [then_eq, run_mk] at hr
    obtain ⟨n, a', σ', h1, h2, h3⟩ := ops_k hop ops fl kn a ds h nx r hr
    refine ⟨n + 1, .normal, a', σ', ?_, h2, h3⟩
    show xNormal _ = _
    rw [h1]; rfl
  | .draw s ops => by
    intro fl rd kn kx kr a ds h nx r hr
    unfold comp at hr
    rw [then_eq, run_mk] at hr
    cases hb : Nat.ble fl nx with
    | false => rw [hb] at hr; cases hr
    | true =>
      rw [hb] at hr
      obtain ⟨n, a', σ', h1, h2, h3⟩ := draw_k hop ops fl nx 0 h [] kn a ds nx r (Nat.le_of_ble_eq_true hb) (Nat.le_refl _) hr
      refine ⟨n + 1, .normal, a', σ', ?_, h2, h3⟩
      show xDraw lp (exec lp n) fl s ops _ _ = _
      unfold xDraw
      rw [hb]
      simp only [cond_true, h1]
      rfl
  | .rangeFunc f ps assign body => by
    unfold comp
    rw [then_eq, run_mk]
    exact range_k hfn f ps assign body
  | .bad => fun fl rd kn kx kr a ds h nx r hr => by cases hr
theorem leave_k {fl : Nat} {res : List LRes} {k : Kv} {a : HAct} {σ : HS} {r : HV × HS} (hn : a.nt = nt) (hr : leaveK fl nt res k a.tmps a.defers σ.h σ.nx = some r) : ∃ v σ', leaveH fl a res σ = some (v, σ') ∧ k v σ'.h σ'.nx = some r := by
  unfold leaveK at hr
  have ea : (⟨nt, a.tmps, a.defers⟩ : HAct) = a := by rw [← hn]
  rw [ea] at hr
  split at hr
  · rename_i v σ' h1; exact ⟨v, σ', h1, hr⟩
  · cases hr
theorem both_k : ∀ n, (∀ f, KfOk lp ((bothK lp n).1 f).run f) ∧ KrOk lp (bothK lp n).2
  | 0 => ⟨fun f fl args h nx k r hr => (by cases hr), fun fl l args h nx k r hr => (by cases hr)⟩
  | n + 1 => by
    obtain ⟨hfn, hro⟩ := both_k n
    have hco : ∀ nt c, KcOk lp nt (comp (compOp lp (bothK lp n).1 (bothK lp n).2 nt) (bothK lp n).1 nt c).run c := fun nt c => comp_k (fun o => op_ok hfn hro o) hfn c
    refine ⟨fun f fl args h nx k r hr => ?_, round_k hco⟩
    unfold bothK at hr
    dsimp only at hr
    split at hr
    · cases hr
    · rename_i lf hlf
      split at hr
      · rename_i g hg
        rw [run_mk] at hr
        unfold specK at hr
        split at hr
        · rename_i v σ h1
          cases hb : Nat.ble nx σ.nx with
          | false => rw [hb] at hr; cases hr
          | true =>
            rw [hb] at hr
            refine ⟨0, v, σ, ?_, hr⟩
            unfold callF
            rw [hlf]
            simp only [hg]
            unfold specH
            rw [h1]
            simp only [hb, cond_true]
        · cases hr
      rename_i hsp
      rw [then_eq] at hr
      have run : ∀ (fl0 : Nat) (k0 : Kv), (bif Nat.ble args.length lf.nt then (comp (compOp lp (bothK lp n).1 (bothK lp n).2 lf.nt) (bothK lp n).1 lf.nt lf.body).run fl0 none (leaveK fl0 lf.nt lf.res k0) (fun _ _ _ _ _ => none) (leaveK fl0 lf.nt lf.res k0) (putAll .e 0 args) [] h nx else none) = some r →
          ∃ m v σ', callB (exec lp m) fl0 lf args ⟨h, nx⟩ = some (v, σ') ∧ k0 v σ'.h σ'.nx = some r := by
        intro fl0 k0 hr
        cases hb : Nat.ble args.length lf.nt with
        | false => rw [hb] at hr; cases hr
        | true =>
          rw [hb] at hr
          simp only [cond_true] at hr
          have hmx : Nat.max lf.nt args.length = lf.nt := Nat.max_eq_left (Nat.le_of_ble_eq_true hb)
          obtain ⟨m, e, a', σ', h1, h2, h3⟩ := hco lf.nt lf.body fl0 none _ _ _ _ _ _ _ r hr
          cases e with
          | normal =>
            obtain ⟨v, σ'', g1, g2⟩ := leave_k h2 h3
            refine ⟨m, v, σ'', ?_, g2⟩
            unfold callB
            rw [hmx, h1]
            exact g1
          | exit id => cases h3
          | ret =>
            obtain ⟨v, σ'', g1, g2⟩ := leave_k h2 h3
            refine ⟨m, v, σ'', ?_, g2⟩
            unfold callB
            rw [hmx, h1]
            exact g1
      unfold enterK at hr
      cases hi : lf.imp with
      | true =>
        rw [hi] at hr
        simp only [cond_true] at hr
        rw [run_mk] at hr
        obtain ⟨m, v, σ', g1, g2⟩ := run fl k hr
        refine ⟨m, v, σ', ?_, g2⟩
        unfold callF
        rw [hlf]
        simp only [hsp, hi, cond_true]
        exact g1
      | false =>
        rw [hi] at hr
        simp only [cond_false] at hr
        rw [run_mk] at hr
        obtain ⟨m, v, σ', g1, g2⟩ := run nx (gcK h nx k) hr
        refine ⟨m, v, gcH ⟨h, nx⟩ σ' v, ?_, g2⟩
        unfold callF
        rw [hlf]
        simp only [hsp, hi, cond_false, g1]
theorem fn_k (n f : Nat) : KfOk lp ((fnK lp n f).run) f := (both_k n).1 f
/-- **What the closures reckon, the plain machine does.** -/
theorem c_of_k {n f : Nat} {args : List HV} {h : Tr HBlk} {nx : Nat} {Q : HV → HS → Prop} {k : Kv} {r : HV × HS} (hr : (fnK lp n f).run 0 args h nx k = some r) (hk : ∀ v h nx, k v h nx = some r → Q v ⟨h, nx⟩) : C lp 0 f args ⟨h, nx⟩ Q := by
  obtain ⟨m, v, σ', h1, h2⟩ := fn_k n f 0 args h nx k r hr
  exact ⟨m, v, σ', h1, hk _ _ _ h2⟩
end Go.Hx

