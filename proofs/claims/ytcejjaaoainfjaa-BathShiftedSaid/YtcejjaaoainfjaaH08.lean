import Derived.Test.YtcejjaaoainfjaaH07
import Derived.Test.YtcejjaaoainfjaaH02
import Derived.Test.YtcejjaaoainfjaaH01
import Derived.Test.YtcejjaaoainfjaaH05
import Derived.Test.YtcejjaaoainfjaaH03
import Derived.OpenShut
import Derived.ChangeSlices
import Derived.Test.YtcejjaaoainfjaaRows
set_option linter.all false
namespace Go.Hx
variable {lp : Nat → Option zp} {nt : Nat}
theorem yj {α : Type} (f : α) : (Bx.mk f).run = f := rfl
theorem zR {α β : Type} (b : Bx α) (g : α → Bx β) : b.then g = g b.run := by cases b; rfl
theorem pa_then {β : Type} (p : Pa) (g : Pa → Bx β) : p.then g = g p := by cases p <;> rfl
theorem tmp_eq (a : Tr HV) (ds : List Nat) (n : Nat) : (pa n).tmp a = (⟨nt, a, ds⟩ : HAct).tmp n := by
 show Option.rec (motive := fun _ => HV) HV.undef (fun v => v) (a.get n) = (a.get n).getD .undef
 cases a.get n <;> rfl
theorem zC (x : Lo) (a : Tr HV) (ds : List Nat) : (evK x).run a = (⟨nt, a, ds⟩ : HAct).ev x := by
 cases x with
 | t n => exact tmp_eq a ds n
 | c v => rfl
theorem evs_eq (xs : List Lo) (a : Tr HV) (ds : List Nat) : (xs.map fun x => evL x a) = xs.map (⟨nt, a, ds⟩ : HAct).ev := by
 apply List.map_congr_left
 intro x _
 exact zC x a ds
def KoOk (lp : Nat → Option zp) (nt : Nat) (G : Ko) (o : LOp) : Prop := ∀ fl a ds h nx (k : Kv) r, G fl a h nx k = some r → ∃ n v σ', opH lp (exec lp n) fl o ⟨nt, a, ds⟩ ⟨h, nx⟩ = some (v, σ') ∧ k v σ'.h σ'.nx = some r
def KosOk (lp : Nat → Option zp) (nt : Nat) (G : Nat → Kt → Kt) (os : List zh) : Prop := ∀ fl (k : Kt) a ds h nx r, G fl k a ds h nx = some r → ∃ n a' σ', runOps lp (exec lp n) fl os ⟨nt, a, ds⟩ ⟨h, nx⟩ = some (a', σ') ∧ a'.nt = nt ∧ k a'.tmps a'.defers σ'.h σ'.nx = some r
def contK (e : HExit) (kn : Kt) (kx : Nat → Kt) (kr : Kt) (a : HAct) (σ : HS) : Option (HV × HS) :=
 match e with
 | .normal => kn a.tmps a.defers σ.h σ.nx
 | .exit i => kx i a.tmps a.defers σ.h σ.nx
 | .ret => kr a.tmps a.defers σ.h σ.nx
def KcOk (lp : Nat → Option zp) (nt : Nat) (F : Kc) (c : ze) : Prop := ∀ fl rd kn kx kr a ds h nx r, F fl rd kn kx kr a ds h nx = some r → ∃ n e a' σ', exec lp n fl rd c ⟨nt, a, ds⟩ ⟨h, nx⟩ = some (e, a', σ') ∧ a'.nt = nt ∧ contK e kn kx kr a' σ' = some r
def KfOk (lp : Nat → Option zp) (F : Kf) (f : Nat) : Prop := ∀ fl args h nx (k : Kv) r, F fl args h nx k = some r → ∃ n v σ', callF lp (exec lp n) fl f args ⟨h, nx⟩ = some (v, σ') ∧ k v σ'.h σ'.nx = some r
def KrOk (lp : Nat → Option zp) (ro : Kr) : Prop := ∀ fl l args h nx (k : Kv) r, ro fl l args h nx k = some r → ∃ n v σ', roundH (exec lp n) fl l args ⟨h, nx⟩ = some (v, σ') ∧ k v σ'.h σ'.nx = some r
theorem slow_ok (o : LOp) : KoOk lp nt (slowK lp nt o) o := by
 intro fl a ds h nx k r hr
 unfold slowK at hr
 rw [Xo (a := ⟨nt, a, []⟩) (b := ⟨nt, a, ds⟩) ⟨h, nx⟩ rfl (fun _ _ => rfl)] at hr
 split at hr
 ·rename_i v σ' ho; exact ⟨0, v, σ', ho, hr⟩
 ·cases hr
theorem chk_ds {nt : Nat} {a : Tr HV} {ds ds' : List Nat} {σ : HS} : ∀ (cs : List (Bool × Nat × Lo × Nat)), chkH ⟨nt, a, ds⟩ σ cs = chkH ⟨nt, a, ds'⟩ σ cs
 | [] => rfl
 | (g, n, x, t) :: cs => by
  unfold chkH
  rw [chk_ds (ds' := ds') cs]
  rfl
theorem Y1 {fn : Nat → Bx Kf} {ro : Kr} (hfn : ∀ f, KfOk lp (fn f).run f) (hro : KrOk lp ro) (f : Lo) (xs : List Lo) : KoOk lp nt (callK lp fn ro (evK f).run xs) (.call f xs) := by
 intro fl a ds h nx k r hr
 unfold callK at hr
 rw [zC (nt := nt) f a ds, evs_eq (nt := nt) xs a ds] at hr
 split at hr
 ·rename_i g first captured hf
  obtain ⟨n, v, σ', h1, h2⟩ := hfn g _ _ _ _ _ _ hr
  refine ⟨n, v, σ', ?_, h2⟩
  show callH lp _ fl _ _ _ = _
  unfold callH
  rw [hf]
  exact h1
 ·rename_i l hf
  obtain ⟨n, v, σ', h1, h2⟩ := hro _ _ _ _ _ _ _ hr
  refine ⟨n, v, σ', ?_, h2⟩
  show callH lp _ fl _ _ _ = _
  unfold callH
  rw [hf]
  exact h1
 ·rename_i t name g hf
  unfold viaK at hr
  split at hr
  ·rename_i off b o rest e1 e2
   obtain ⟨n, v, σ', h1, h2⟩ := hfn g _ _ _ _ _ _ hr
   refine ⟨n, v, σ', ?_, h2⟩
   show callH lp _ fl _ _ _ = _
   unfold callH
   rw [hf]
   show callV lp _ fl t name g _ _ = _
   unfold callV
   rw [e1, e2]
   exact h1
  ·cases hr
 ·cases hr
theorem Yf : ∀ (i : Nat) (l : List HV), nthK i l = l[i]?
 | 0, [] => rfl
 | 0, v :: l => rfl
 | i + 1, [] => rfl
 | i + 1, v :: l => (Yf i l).trans (by simp)
theorem X0 (v : HV) : ∀ (i : Nat) (l : List HV), i < l.length → overwrite l i [v] = some (setR i v l)
 | _, [], h => by simp at h
 | 0, x :: l, _ => by cases l <;> rfl
 | i + 1, x :: l, h => by
  unfold overwrite
  rw [X0 v i l (by simpa using h)]
  rfl
theorem op_ok {fn : Nat → Bx Kf} {ro : Kr} (hfn : ∀ f, KfOk lp (fn f).run f) (hro : KrOk lp ro) (o : LOp) : KoOk lp nt (compOp lp fn ro nt o).run o := by
 have slow := slow_ok (lp := lp) (nt := nt) o
 unfold compOp
 split
 case h_1 x =>
  rw [zR, yj]
  intro fl a ds h nx k r hr
  dsimp only at hr
  rw [zC (nt := nt) x a ds] at hr
  exact ⟨0, _, ⟨h, nx⟩, rfl, hr⟩
 case h_2 op x y =>
  rw [zR, zR, yj]
  intro fl a ds h nx k r hr
  dsimp only at hr
  rw [zC (nt := nt) x a ds, zC (nt := nt) y a ds] at hr
  unfold binK at hr
  split at hr
  ·rename_i k1 m k2 n e1 e2
   cases hk : sameK k1 k2 with
   | false => rw [hk] at hr; cases hr
   | true =>
    rw [hk] at hr
    simp only [cond_true] at hr
    split at hr
    ·rename_i v e3
     refine ⟨0, v, ⟨h, nx⟩, ?_, hr⟩
     show keep _ (binH op _ _) = _
     rw [e1, e2]
     unfold binH
     dsimp only
     cases hsh : isShift op with
     | true => rw [hsh] at e3; simp only [cond_true] at e3 ⊢; rw [e3]; rfl
     | false => rw [hsh] at e3; simp only [cond_false] at e3 ⊢; rw [hk, e3]; rfl
    ·cases hr
  ·cases hr
 case h_3 off x =>
  rw [zR, yj]
  intro fl a ds h nx k r hr
  dsimp only at hr
  rw [zC (nt := nt) x a ds] at hr
  unfold addrK at hr
  split at hr
  ·rename_i b o e1
   refine ⟨0, _, ⟨h, nx⟩, ?_, hr⟩
   show oFieldAddr off x _ _ = _
   unfold oFieldAddr
   rw [e1]
  ·cases hr
 case h_4 len size x i =>
  rw [zR, zR, yj]
  intro fl a ds h nx k r hr
  dsimp only at hr
  rw [zC (nt := nt) x a ds, zC (nt := nt) i a ds] at hr
  unfold idxK at hr
  split at hr
  ·rename_i b o kk j e1 e2
   cases hb : Nat.blt j len with
   | false => rw [hb] at hr; cases hr
   | true =>
    rw [hb] at hr
    refine ⟨0, _, ⟨h, nx⟩, ?_, hr⟩
    show oIndexAddrA len size x i _ _ = _
    unfold oIndexAddrA
    rw [e1, e2]
    simp only [natOf, stepTo, hb, cond_true]
  ·cases hr
 case h_5 x =>
  rw [zR, yj]
  intro fl a ds h nx k r hr
  dsimp only at hr
  rw [zC (nt := nt) x a ds] at hr
  unfold nilK at hr
  split at hr
  ·rename_i p e1
   refine ⟨0, _, ⟨h, nx⟩, ?_, hr⟩
   show oNilCheck x _ _ = _
   unfold oNilCheck
   rw [e1]
  ·rename_i f first captured e1
   refine ⟨0, _, ⟨h, nx⟩, ?_, hr⟩
   show oNilCheck x _ _ = _
   unfold oNilCheck
   rw [e1]
  ·cases hr
 case h_6 x =>
  rw [zR, yj]
  intro fl a ds h nx k r hr
  dsimp only at hr
  rw [zC (nt := nt) x a ds] at hr
  unfold loadK at hr
  split at hr
  ·rename_i b o e1
   split at hr
   ·rename_i cs bk e2
    rw [Yf] at hr
    split at hr
    ·rename_i v e3
     refine ⟨0, v, ⟨h, nx⟩, ?_, hr⟩
     show oLoad false 1 x _ _ = _
     unfold oLoad
     rw [e1]
     have hc : (⟨h, nx⟩ : HS).cells b = some cs := by unfold HS.cells; rw [e2]
     have hr2 : (⟨h, nx⟩ : HS).read (b, o) 1 = some [v] := by
      unfold HS.read
      simp only [hc, Option.bind_eq_bind, Option.bind_some]
      have hlt : o < cs.length := by
       rcases Nat.lt_or_ge o cs.length with h | h
       ·exact h
       ·rw [List.getElem?_eq_none h] at e3; cases e3
      rw [List.drop_eq_getElem_cons hlt]
      rw [List.getElem?_eq_getElem hlt] at e3
      cases e3
      simp [takeN]
     simp only [hr2, whole, keep]
    ·cases hr
   ·cases hr
  ·cases hr
 case h_7 x y =>
  rw [zR, zR, yj]
  intro fl a ds h nx k r hr
  dsimp only at hr
  rw [zC (nt := nt) x a ds, zC (nt := nt) y a ds] at hr
  revert hr
  cases h1 : ((⟨nt, a, ds⟩ : HAct).ev y).one with
  | false => exact fun hr => slow fl a ds h nx k r hr
  | true =>
  intro hr
  simp only [cond_true] at hr
  unfold storeK at hr
  split at hr
  ·rename_i b o e1
   split at hr
   ·rename_i cs bk e2
    revert hr
    cases hc : (Nat.ble fl b && ((⟨nt, a, ds⟩ : HAct).ev y).one && wrOk bk) with
    | false => intro hr; cases hr
    | true =>
     intro hr
     simp only [cond_true] at hr
     simp only [Bool.and_eq_true] at hc
     obtain ⟨⟨c1, c2⟩, c3⟩ := hc
     rw [Yf] at hr
     split at hr
     ·rename_i u e3
      have hlt : o < cs.length := by
       rcases Nat.lt_or_ge o cs.length with h | h
       ·exact h
       ·rw [List.getElem?_eq_none h] at e3; cases e3
      refine ⟨0, .undef, ⟨h.set b (some (.cells (setR o ((⟨nt, a, ds⟩ : HAct).ev y) cs) bk)), nx⟩, ?_, hr⟩
      have hcells : ((⟨nt, a, ds⟩ : HAct).ev y).cells = [(⟨nt, a, ds⟩ : HAct).ev y] := by
       generalize (⟨nt, a, ds⟩ : HAct).ev y = v at c2
       cases v <;> first | rfl | cases c2
      show oStore fl 1 x y _ _ = _
      unfold oStore
      rw [e1, hcells]
      have hw : (⟨h, nx⟩ : HS).write fl (b, o) [(⟨nt, a, ds⟩ : HAct).ev y] = some ⟨h.set b (some (.cells (setR o ((⟨nt, a, ds⟩ : HAct).ev y) cs) bk)), nx⟩ := by
       unfold HS.write
       simp only [e2]
       cases bk with
       | ro => cases c3
       | exact => simp only [c1, List.all_cons, c2, List.all_nil, Bool.and_true, cond_true, X0 _ _ _ hlt, Option.map_some]; rfl
       | opn z => simp only [c1, List.all_cons, c2, List.all_nil, Bool.and_true, cond_true, X0 _ _ _ hlt, Option.map_some]; rfl
      simp only [hw]
      rfl
     ·cases hr
   ·cases hr
  ·cases hr
 case h_8 f xs =>
  rw [zR, yj]
  exact Y1 hfn hro f xs
 case h_9 f xs cs =>
  rw [zR, yj]
  intro fl a ds h nx k r hr
  obtain ⟨n, v, σ', h1, h2⟩ := Y1 hfn hro f xs _ _ ds _ _ _ _ hr
  refine ⟨n, v, σ', ?_, ?_⟩
  ·cases hc : chkH ⟨nt, a, []⟩ ⟨σ'.h, σ'.nx⟩ cs with
   | false => rw [hc] at h2; cases h2
   | true =>
    have h1 : callH lp (exec lp n) fl ((⟨nt, a, ds⟩ : HAct).ev f) (xs.map (⟨nt, a, ds⟩ : HAct).ev) ⟨h, nx⟩ = some (v, σ') := h1
    have hc : chkH ⟨nt, a, ds⟩ σ' cs = true := by rw [← hc]; exact chk_ds cs
    show oCallC lp _ fl f xs cs _ _ = _
    unfold oCallC
    rw [h1]
    simp only [hc, cond_true]
  ·cases hc : chkH ⟨nt, a, []⟩ ⟨σ'.h, σ'.nx⟩ cs with
   | false => rw [hc] at h2; cases h2
   | true => rw [hc] at h2; exact h2
 case h_10 => exact slow
theorem guard_k {G : Bx Ko} {o : zh} (h : KoOk lp nt G.run o.op) : ∀ fl a ds hp nx (k : Kv) r, (guardK o.g G).run fl a hp nx k = some r →
  ∃ n v σ', (bif wantedH o.g ⟨nt, a, ds⟩ then opH lp (exec lp n) fl o.op ⟨nt, a, ds⟩ ⟨hp, nx⟩ else some (.undef, ⟨hp, nx⟩)) = some (v, σ') ∧ k v σ'.h σ'.nx = some r := by
 intro fl a ds hp nx k r hr
 unfold guardK at hr
 split at hr
 ·rename_i hg
  obtain ⟨n, v, σ', h1, h2⟩ := h fl a ds hp nx k r hr
  refine ⟨n, v, σ', ?_, h2⟩
  rw [hg]
  exact h1
 ·rename_i t want hg
  rw [zR, zR, yj] at hr
  rw [zC (nt := nt) (.t t) a ds] at hr
  have hw : wantedH o.g ⟨nt, a, ds⟩ = isB want ((⟨nt, a, ds⟩ : HAct).ev (.t t)) := by
   rw [hg]
   unfold wantedH isB
   dsimp only [HAct.ev]
   generalize (⟨nt, a, ds⟩ : HAct).tmp t = x
   cases x <;> rfl
  rw [hw]
  cases hb : isB want ((⟨nt, a, ds⟩ : HAct).ev (.t t)) with
  | true =>
   rw [hb] at hr
   exact h fl a ds hp nx k r hr
  | false =>
   rw [hb] at hr
   exact ⟨0, .undef, ⟨hp, nx⟩, rfl, hr⟩
theorem put_k (dst : Option Nat) (a : Tr HV) (ds : List Nat) (v : HV) : (⟨nt, a, ds⟩ : HAct).put dst v = ⟨nt, (putK nt dst).run a v, ds⟩ := by
 unfold HAct.put putK
 cases dst with
 | none => rfl
 | some d =>
  dsimp only
  cases Nat.blt d nt with
  | false => rfl
  | true => rw [cond_true, cond_true, pa_then]; rfl
theorem XX {G : Bx Ko} {o : zh} (h : KoOk lp nt G.run o.op) : ∀ fl a ds hp nx (k : Kv) r, (guardK o.g G).run fl a hp nx k = some r →
  ∃ n v σ', stepOp lp (exec lp n) fl o ⟨nt, a, ds⟩ ⟨hp, nx⟩ = some (⟨nt, (putK nt o.dst).run a v, ds⟩, σ') ∧ k v σ'.h σ'.nx = some r := by
 intro fl a ds hp nx k r hr
 obtain ⟨n, v, σ', h1, h2⟩ := guard_k h fl a ds hp nx k r hr
 refine ⟨n, v, σ', ?_, h2⟩
 unfold stepOp
 cases hw : wantedH o.g ⟨nt, a, ds⟩ with
 | true => rw [hw] at h1; simp only [cond_true] at h1 ⊢; rw [h1]; simp only [put_k]
 | false =>
  rw [hw] at h1
  cases h1
  simp only [cond_false, put_k]
theorem ops_k {op : LOp → Bx Ko} (hop : ∀ o, KoOk lp nt (op o).run o) : ∀ os, KosOk lp nt (compOps op nt os).run os
 | [] => fun fl k a ds h nx r hr => ⟨0, _, _, rfl, rfl, hr⟩
 | o :: os => by
  intro fl k a ds h nx r hr
  unfold compOps at hr
  rw [zR, zR, zR, yj] at hr
  obtain ⟨n, v, σ1, h1, h2⟩ := XX (hop o.op) fl a ds h nx _ r hr
  obtain ⟨m, a', σ', h3, h4, h5⟩ := ops_k hop os fl k _ ds _ _ r h2
  refine ⟨max n m, a', σ', ?_, h4, h5⟩
  unfold runOps
  rw [yf (zL (Nat.le_max_left n m)) h1]
  exact yw (zL (Nat.le_max_right n m)) h3
theorem Yq {op : LOp → Bx Ko} (hop : ∀ o, KoOk lp nt (op o).run o) {s : Nat} : ∀ os fl n0 i h0 done (k : Kt) a ds nx r, fl ≤ n0 → n0 ≤ nx → (drawK op nt s os).run fl n0 i h0 done k a ds nx = some r →
  ∃ n a' σ', drawOps lp (exec lp n) fl s n0 h0 os i done ⟨nt, a, ds⟩ nx = some (a', σ') ∧ a'.nt = nt ∧ k a'.tmps a'.defers σ'.h σ'.nx = some r
 | [], fl, n0, i, h0, done, k, a, ds, nx, r, _, _, hr => ⟨0, _, _, rfl, rfl, hr⟩
 | o :: os, fl, n0, i, h0, done, k, a, ds, nx, r, hfl, hn0, hr => by
  unfold drawK at hr
  rw [zR, zR, zR, zR, yj] at hr
  cases hc : Nat.blt i s with
  | false =>
   rw [hc] at hr
   obtain ⟨n, a', σ', h1, h2, h3⟩ := ops_k hop (o :: os) fl k a ds _ nx r hr
   refine ⟨n, a', σ', ?_, h2, h3⟩
   unfold drawOps
   rw [hc]
   exact h1
  | true =>
   rw [hc] at hr
   simp only [cond_true] at hr
   cases hw : o.anc.contains i with
   | true =>
    rw [hw] at hr
    simp only [cond_true] at hr
    obtain ⟨n, v, σ1, h1, h2⟩ := XX (hop o.op) n0 a ds _ nx _ r hr
    revert h2
    cases hb : Nat.ble nx σ1.nx with
    | false => intro h2; cases h2
    | true =>
     intro h2
     simp only [cond_true] at h2
     have hle := Nat.le_of_ble_eq_true hb
     obtain ⟨m, a', σ', h3, h4, h5⟩ := Yq hop os fl n0 (Nat.succ i) h0 _ k _ ds _ r hfl (Nat.le_trans hn0 hle) h2
     refine ⟨max n m, a', σ', ?_, h4, h5⟩
     have hmx : Nat.max fl n0 = n0 := Nat.max_eq_right hfl
     unfold drawOps
     rw [hc, hw]
     simp only [cond_true, hmx]
     rw [yf (zL (Nat.le_max_left n m)) h1]
     simp only [hb, Bool.not_true, cond_false]
     exact yd (zL (Nat.le_max_right n m)) h3
   | false =>
    rw [hw] at hr
    simp only [cond_false] at hr
    obtain ⟨n, v, σ1, h1, h2⟩ := XX (hop o.op) nx a ds _ nx _ r hr
    revert h2
    cases hb : Nat.ble nx σ1.nx with
    | false => intro h2; cases h2
    | true =>
     intro h2
     simp only [cond_true] at h2
     have hle := Nat.le_of_ble_eq_true hb
     obtain ⟨m, a', σ', h3, h4, h5⟩ := Yq hop os fl n0 (Nat.succ i) h0 _ k _ ds _ r hfl (Nat.le_trans hn0 hle) h2
     refine ⟨max n m, a', σ', ?_, h4, h5⟩
     have hmx : Nat.max fl nx = nx := Nat.max_eq_right (by omega)
     unfold drawOps
     rw [hc, hw]
     simp only [cond_true, cond_false, hmx]
     rw [yf (zL (Nat.le_max_left n m)) h1]
     simp only [hb, Bool.not_true, cond_false]
     exact yd (zL (Nat.le_max_right n m)) h3
theorem YG {n : Nat} {fl : Nat} {rd : Option Nat} {x y : ze} {a a1 : HAct} {σ σ1 : HS} {q : HExit × HAct × HS} {m : Nat} (h1 : exec lp n fl rd x a σ = some (.normal, a1, σ1)) (h2 : exec lp m fl rd y a1 σ1 = some q) : xSeq (exec lp (max n m)) fl rd x y a σ = some q := by
 unfold xSeq
 rw [zL (Nat.le_max_left n m) _ _ _ _ _ _ h1]
 exact zL (Nat.le_max_right n m) _ _ _ _ _ _ h2
theorem jV {b : Option HBlk} {k : LState → HExit → Nat → Tr HV → List Nat → ze → ze → Nat → Option (HV × HS)} {r : HV × HS} (hr : loopK b k = some r) : ∃ q : HLoop, b = some (.loop q) ∧ k q.state q.pending q.nt q.tmps q.params q.assign q.body q.marks = some r := by
 unfold loopK at hr
 split at hr
 ·exact ⟨_, rfl, hr⟩
 ·cases hr
theorem marks_k {rd : Option Nat} {h : Tr HBlk} {nx : Nat} {k : Nat → List Nat → Tr HBlk → Nat → Option (HV × HS)} {r : HV × HS} (hr : marksK rd h nx k = some r) : ∃ mk ms h1 n1, marksOf rd ⟨h, nx⟩ = some (mk, ms, ⟨h1, n1⟩) ∧ k mk ms h1 n1 = some r := by
 unfold marksK at hr
 cases rd with
 | none => exact ⟨_, _, _, _, rfl, hr⟩
 | some l =>
  obtain ⟨q, hq, hk⟩ := jV hr
  refine ⟨_, _, _, _, ?_, hk⟩
  unfold marksOf
  simp only [hq]
theorem jump_k (e : HExit) (kn : Kt) (kx : Nat → Kt) (kr : Kt) (a : HAct) (σ : HS) : jumpK e kn kx kr a.tmps a.defers σ.h σ.nx = contK e kn kx kr a σ := by cases e <;> rfl
theorem range_k {fn : Nat → Bx Kf} (hfn : ∀ f, KfOk lp (fn f).run f) (f : Lo) (ps : List Nat) (assign body : ze) : KcOk lp nt (rangeK fn nt (evK f).run ps assign body) (.rangeFunc f ps assign body) := by
 intro fl rd kn kx kr a ds h nx r hr
 unfold rangeK at hr
 rw [zC (nt := nt) f a ds] at hr
 split at hr
 ·rename_i g first captured hf
  obtain ⟨mk, ms, h1, n1, hm, hr⟩ := marks_k hr
  obtain ⟨n, v, σ3, hc, hr⟩ := hfn g _ _ _ _ _ _ hr
  obtain ⟨q, hq, hr⟩ := jV hr
  revert hr
  cases hb : (notBusy q.state && Nat.ble fl n1) with
  | false => intro hr; cases hr
  | true =>
   intro hr
   simp only [cond_true] at hr
   simp only [Bool.and_eq_true] at hb
   refine ⟨n + 1, q.pending, ⟨nt, a, ms ++ ds⟩, σ3.upd n1 (some (.loop { q with state := .exhausted })), ?_, rfl, ?_⟩
   ·show xRange lp (exec lp n) fl rd f ps assign body _ _ = _
    unfold xRange
    rw [hf, hm]
    dsimp only
    have hc' : callF lp (exec lp n) fl g (first ++ [.yield n1] ++ captured) ((⟨h1, n1⟩ : HS).new (.loop ⟨.ready, .normal, nt, a, ps, assign, body, mk⟩)) = some (v, σ3) := hc
    rw [hc']
    dsimp only
    unfold endLoopH
    rw [hq]
    dsimp only
    have hnb := hb.1
    cases hst : q.state <;> rw [hst] at hnb <;> first | (exact absurd hnb (by decide)) | (dsimp only; rw [hb.2]; rfl)
   ·rw [← jump_k]; exact hr
 ·cases hr
theorem end_k {l : Nat} {e : HExit} {k : Kv} {h : Tr HBlk} {nx : Nat} {r : HV × HS} (hr : endK l e k h nx = some r) : ∃ v σ', endRoundH l e ⟨h, nx⟩ = some (v, σ') ∧ k v σ'.h σ'.nx = some r := by
 unfold endK at hr
 obtain ⟨q, hq, hr⟩ := jV hr
 cases e with
 | normal =>
  refine ⟨.bool true, (⟨h, nx⟩ : HS).upd l (some (.loop { q with state := .ready, pending := .normal })), ?_, hr⟩
  unfold endRoundH
  simp only [hq]
 | exit id =>
  refine ⟨.bool false, (⟨h, nx⟩ : HS).upd l (some (.loop { q with state := .done, pending := .exit id })), ?_, hr⟩
  unfold endRoundH
  simp only [hq]
 | ret =>
  refine ⟨.bool false, (⟨h, nx⟩ : HS).upd l (some (.loop { q with state := .done, pending := .ret })), ?_, hr⟩
  unfold endRoundH
  simp only [hq]
theorem round_k {co : Nat → ze → Bx Kc} (hco : ∀ nt c, KcOk lp nt (co nt c).run c) : KrOk lp (roundK co) := by
 intro fl l args h nx k r hr
 unfold roundK at hr
 obtain ⟨q, hq, hr⟩ := jV hr
 split at hr
 ·rename_i tm1 hz
  obtain ⟨n, e, a1, σ1, h1, h2, h3⟩ := hco _ _ _ _ _ _ _ _ _ _ _ _ hr
  cases e with
  | normal =>
   dsimp only [contK] at h3
   obtain ⟨q1, hq1, h3⟩ := jV h3
   revert h3
   cases hb : (isReady q1.state && Nat.ble fl l) with
   | false => intro h3; cases h3
   | true =>
    intro h3
    simp only [cond_true] at h3
    simp only [Bool.and_eq_true] at hb
    obtain ⟨m, e, a2, σ2, h4, h5, h6⟩ := hco _ _ _ _ _ _ _ _ _ _ _ _ h3
    have ea : (⟨q.nt, a1.tmps, a1.defers⟩ : HAct) = a1 := by rw [← h2]
    rw [ea] at h4
    have hbegin : beginRoundH fl l σ1 = some ⟨σ1.h.set l (some (.loop { q1 with state := .busy })), σ1.nx⟩ := by
     unfold beginRoundH
     rw [hq1]
     dsimp only
     have hrd := hb.1
     cases hst : q1.state <;> rw [hst] at hrd <;> first | (exact absurd hrd (by decide)) | (dsimp only; rw [hb.2]; rfl)
    have hend : ∃ v σ', endRoundH l e σ2 = some (v, σ') ∧ k v σ'.h σ'.nx = some r := by
     cases e <;> exact end_k h6
    obtain ⟨v, σ', g1, g2⟩ := hend
    refine ⟨max n m, v, σ', ?_, g2⟩
    unfold roundH
    rw [hq]
    dsimp only
    rw [hz]
    dsimp only
    rw [zL (Nat.le_max_left n m) _ _ _ _ _ _ h1]
    dsimp only
    rw [hbegin]
    dsimp only
    rw [zL (Nat.le_max_right n m) _ _ _ _ _ _ h4]
    exact g1
  | exit id => cases h3
  | ret => cases h3
 ·cases hr
theorem vW {op : LOp → Bx Ko} {fn : Nat → Bx Kf} (hop : ∀ o, KoOk lp nt (op o).run o) (hfn : ∀ f, KfOk lp (fn f).run f) : ∀ c, KcOk lp nt (comp op fn nt c).run c
 | .skip => fun fl rd kn kx kr a ds h nx r hr => ⟨1, .normal, _, _, rfl, rfl, hr⟩
 | .seq x y => by
  intro fl rd kn kx kr a ds h nx r hr
  unfold comp at hr
  rw [zR, zR, yj] at hr
  obtain ⟨n, e, a1, σ1, h1, h2, h3⟩ := vW hop hfn x fl rd _ kx kr a ds h nx r hr
  cases e with
  | normal =>
   dsimp only [contK] at h3
   obtain ⟨m, e, a', σ', h4, h5, h6⟩ := vW hop hfn y fl rd kn kx kr a1.tmps a1.defers σ1.h σ1.nx r h3
   have ea : (⟨nt, a1.tmps, a1.defers⟩ : HAct) = a1 := by rw [← h2]
   rw [ea] at h4
   exact ⟨max n m + 1, e, a', σ', YG h1 h4, h5, h6⟩
  | exit id => exact ⟨n + 1, .exit id, a1, σ1, by show xSeq _ _ _ _ _ _ _ = _; unfold xSeq; rw [h1], h2, h3⟩
  | ret => exact ⟨n + 1, .ret, a1, σ1, by show xSeq _ _ _ _ _ _ _ = _; unfold xSeq; rw [h1], h2, h3⟩
 | .cond c x y => by
  intro fl rd kn kx kr a ds h nx r hr
  unfold comp at hr
  rw [zR, zR, zR, yj] at hr
  rw [zC (nt := nt) c a ds] at hr
  split at hr
  ·rename_i b hb
   cases b with
   | true =>
    obtain ⟨n, e, a', σ', h1, h2, h3⟩ := vW hop hfn x fl rd kn kx kr a ds h nx r hr
    refine ⟨n + 1, e, a', σ', ?_, h2, h3⟩
    show xCond _ _ _ _ _ _ _ _ = _
    unfold xCond
    rw [hb]; exact h1
   | false =>
    obtain ⟨n, e, a', σ', h1, h2, h3⟩ := vW hop hfn y fl rd kn kx kr a ds h nx r hr
    refine ⟨n + 1, e, a', σ', ?_, h2, h3⟩
    show xCond _ _ _ _ _ _ _ _ = _
    unfold xCond
    rw [hb]; exact h1
  ·cases hr
 | .block id x => by
  intro fl rd kn kx kr a ds h nx r hr
  unfold comp at hr
  rw [zR, yj] at hr
  obtain ⟨n, e, a', σ', h1, h2, h3⟩ := vW hop hfn x fl rd kn _ kr a ds h nx r hr
  cases e with
  | normal => exact ⟨n + 1, .normal, a', σ', by show xBlock _ _ _ _ _ _ _ = _; unfold xBlock; rw [h1], h2, h3⟩
  | ret => exact ⟨n + 1, .ret, a', σ', by show xBlock _ _ _ _ _ _ _ = _; unfold xBlock; rw [h1], h2, h3⟩
  | exit i =>
   dsimp only [contK] at h3
   refine ⟨n + 1, bif Nat.beq i id then .normal else .exit i, a', σ', by show xBlock _ _ _ _ _ _ _ = _; unfold xBlock; rw [h1], h2, ?_⟩
   revert h3
   cases Nat.beq i id <;> exact fun h => h
 | .loop x => by
  intro fl rd kn kx kr a ds h nx r hr
  unfold comp at hr
  rw [zR, yj] at hr
  have ihx := vW hop hfn x
  revert hr
  generalize 1000000 = m
  induction m generalizing a ds h nx with
  | zero => intro hr; cases hr
  | succ m ih =>
   intro hr
   obtain ⟨n, e, a1, σ1, h1, h2, h3⟩ := ihx fl rd _ kx kr a ds h nx r hr
   cases e with
   | normal =>
    dsimp only [contK] at h3
    obtain ⟨k, e, a', σ', h4, h5, h6⟩ := ih a1.tmps a1.defers σ1.h σ1.nx h3
    have ea : (⟨nt, a1.tmps, a1.defers⟩ : HAct) = a1 := by rw [← h2]
    rw [ea] at h4
    exact ⟨max n k + 1, e, a', σ', YG h1 h4, h5, h6⟩
   | exit id => exact ⟨n + 1, .exit id, a1, σ1, by show xSeq _ _ _ _ _ _ _ = _; unfold xSeq; rw [h1], h2, h3⟩
   | ret => exact ⟨n + 1, .ret, a1, σ1, by show xSeq _ _ _ _ _ _ _ = _; unfold xSeq; rw [h1], h2, h3⟩
 | .scope x => by
  intro fl rd kn kx kr a ds h nx r hr
  obtain ⟨n, e, a', σ', h1, h2, h3⟩ := vW hop hfn x fl rd kn kx kr a ds h nx r hr
  exact ⟨n + 1, e, a', σ', h1, h2, h3⟩
 | .exit id => fun fl rd kn kx kr a ds h nx r hr => ⟨1, .exit id, _, _, rfl, rfl, hr⟩
 | .ret => fun fl rd kn kx kr a ds h nx r hr => ⟨1, .ret, _, _, rfl, rfl, hr⟩
 | .reg ops => by
  intro fl rd kn kx kr a ds h nx r hr
  unfold comp at hr
  rw [zR, yj] at hr
  obtain ⟨n, a', σ', h1, h2, h3⟩ := ops_k hop ops fl kn a ds h nx r hr
  refine ⟨n + 1, .normal, a', σ', ?_, h2, h3⟩
  show xNormal _ = _
  rw [h1]; rfl
 | .draw s ops => by
  intro fl rd kn kx kr a ds h nx r hr
  unfold comp at hr
  rw [zR, yj] at hr
  cases hb : Nat.ble fl nx with
  | false => rw [hb] at hr; cases hr
  | true =>
   rw [hb] at hr
   obtain ⟨n, a', σ', h1, h2, h3⟩ := Yq hop ops fl nx 0 h [] kn a ds nx r (Nat.le_of_ble_eq_true hb) (Nat.le_refl _) hr
   refine ⟨n + 1, .normal, a', σ', ?_, h2, h3⟩
   show xDraw lp (exec lp n) fl s ops _ _ = _
   unfold xDraw
   rw [hb]
   simp only [cond_true, h1]
   rfl
 | .rangeFunc f ps assign body => by
  unfold comp
  rw [zR, yj]
  exact range_k hfn f ps assign body
 | .bad => fun fl rd kn kx kr a ds h nx r hr => by cases hr
theorem YV {fl : Nat} {res : List LRes} {k : Kv} {a : HAct} {σ : HS} {r : HV × HS} (hn : a.nt = nt) (hr : leaveK fl nt res k a.tmps a.defers σ.h σ.nx = some r) : ∃ v σ', leaveH fl a res σ = some (v, σ') ∧ k v σ'.h σ'.nx = some r := by
 unfold leaveK at hr
 have ea : (⟨nt, a.tmps, a.defers⟩ : HAct) = a := by rw [← hn]
 rw [ea] at hr
 split at hr
 ·rename_i v σ' h1; exact ⟨v, σ', h1, hr⟩
 ·cases hr
theorem both_k : ∀ n, (∀ f, KfOk lp ((bothK lp n).1 f).run f) ∧ KrOk lp (bothK lp n).2
 | 0 => ⟨fun f fl args h nx k r hr => (by cases hr), fun fl l args h nx k r hr => (by cases hr)⟩
 | n + 1 => by
  obtain ⟨hfn, hro⟩ := both_k n
  have hco : ∀ nt c, KcOk lp nt (comp (compOp lp (bothK lp n).1 (bothK lp n).2 nt) (bothK lp n).1 nt c).run c := fun nt c => vW (fun o => op_ok hfn hro o) hfn c
  refine ⟨fun f fl args h nx k r hr => ?_, round_k hco⟩
  unfold bothK at hr
  dsimp only at hr
  split at hr
  ·cases hr
  ·rename_i lf hlf
   split at hr
   ·rename_i g hg
    rw [yj] at hr
    unfold specK at hr
    split at hr
    ·rename_i v σ h1
     cases hb : Nat.ble nx σ.nx with
     | false => rw [hb] at hr; cases hr
     | true =>
      rw [hb] at hr
      refine ⟨0, v, σ, ?_, hr⟩
      unfold callF
      rw [hlf]
      simp only [hg]
      unfold specH
      rw [h1]
      simp only [hb, cond_true]
    ·cases hr
   rename_i hsp
   rw [zR] at hr
   have run : ∀ (fl0 : Nat) (k0 : Kv), (bif Nat.ble args.length lf.nt then (comp (compOp lp (bothK lp n).1 (bothK lp n).2 lf.nt) (bothK lp n).1 lf.nt lf.body).run fl0 none (leaveK fl0 lf.nt lf.res k0) (fun _ _ _ _ _ => none) (leaveK fl0 lf.nt lf.res k0) (putAll .e 0 args) [] h nx else none) = some r →
     ∃ m v σ', callB (exec lp m) fl0 lf args ⟨h, nx⟩ = some (v, σ') ∧ k0 v σ'.h σ'.nx = some r := by
    intro fl0 k0 hr
    cases hb : Nat.ble args.length lf.nt with
    | false => rw [hb] at hr; cases hr
    | true =>
     rw [hb] at hr
     simp only [cond_true] at hr
     have hmx : Nat.max lf.nt args.length = lf.nt := Nat.max_eq_left (Nat.le_of_ble_eq_true hb)
     obtain ⟨m, e, a', σ', h1, h2, h3⟩ := hco lf.nt lf.body fl0 none _ _ _ _ _ _ _ r hr
     cases e with
     | normal =>
      obtain ⟨v, σ'', g1, g2⟩ := YV h2 h3
      refine ⟨m, v, σ'', ?_, g2⟩
      unfold callB
      rw [hmx, h1]
      exact g1
     | exit id => cases h3
     | ret =>
      obtain ⟨v, σ'', g1, g2⟩ := YV h2 h3
      refine ⟨m, v, σ'', ?_, g2⟩
      unfold callB
      rw [hmx, h1]
      exact g1
   unfold enterK at hr
   cases hi : lf.imp with
   | true =>
    rw [hi] at hr
    simp only [cond_true] at hr
    rw [yj] at hr
    obtain ⟨m, v, σ', g1, g2⟩ := run fl k hr
    refine ⟨m, v, σ', ?_, g2⟩
    unfold callF
    rw [hlf]
    simp only [hsp, hi, cond_true]
    exact g1
   | false =>
    rw [hi] at hr
    simp only [cond_false] at hr
    rw [yj] at hr
    obtain ⟨m, v, σ', g1, g2⟩ := run nx (gcK h nx k) hr
    refine ⟨m, v, gcH ⟨h, nx⟩ σ' v, ?_, g2⟩
    unfold callF
    rw [hlf]
    simp only [hsp, hi, cond_false, g1]
theorem fn_k (n f : Nat) : KfOk lp ((fnK lp n f).run) f := (both_k n).1 f
theorem c_of_k {n f : Nat} {args : List HV} {h : Tr HBlk} {nx : Nat} {Q : HV → HS → Prop} {k : Kv} {r : HV × HS} (hr : (fnK lp n f).run 0 args h nx k = some r) (hk : ∀ v h nx, k v h nx = some r → Q v ⟨h, nx⟩) : C lp 0 f args ⟨h, nx⟩ Q := by
 obtain ⟨m, v, σ', h1, h2⟩ := fn_k n f 0 args h nx k r hr
 exact ⟨m, v, σ', h1, hk _ _ _ h2⟩
end Go.Hx

namespace Go.Hx
theorem mixed : (Go.Proofs.Try.prog).follows .mixedOrders = true := by kernel_rfl
noncomputable def endK0 : Kv := fun v _ _ => some (v, ⟨.e, 0⟩)
theorem Zk {lp : Nat → Option zp} {n f : Nat} (hr : (fnK lp n f).run 0 [] .e 0 endK0 = some (.bool true, ⟨.e, 0⟩)) : C lp 0 f [] ⟨.e, 0⟩ (fun v _ => v = .bool true) :=
 c_of_k hr fun v h nx hk => by unfold endK0 at hk; cases hk; rfl
theorem closed20 : C LP 0 20 [] ⟨.e, 0⟩ (fun v _ => v = .bool true) := Zk (n := 400) (by kernel_rfl)
end Go.Hx

namespace Go.Hx
open Go.RowKit
variable {P : Program}
end Go.Hx

namespace Go.Hx
open Go.RowKit Go.ChangeShapes Go.WideShapes Go.ChangeAt
theorem XZ : ∀ args σ v σ', spWakes args σ = some (v, σ') → σ' = σ ∧ args.all flat = true ∧ flatV v = true ∧ C LP 0 20 args ⟨.e, 0⟩ (fun v' _ => v' = v) := by
 intro args σ v σ' h
 cases args with
 | nil => cases h; exact ⟨rfl, rfl, rfl, closed20⟩
 | cons a l => cases h
theorem lw_ok : LpOk Go.Proofs.Try.prog LW := withS_ok YU (XY mixed YU XZ)
theorem wfk {k : IntKind} {n : Int} (h : (Lit.int k n).wf = true) : k.min ≤ n ∧ n ≤ k.max := by
 simp only [Lit.wf, Bool.and_eq_true, decide_eq_true_eq] at h
 exact h
def e2 (x : Int × Int) : List HV := [i64 x.1, i64 x.2]
def e3 (x : Int × Int × Int) : List HV := [i64 x.1, i64 x.2.1, i64 x.2.2]
theorem dec2 : ∀ us : Nat → Value, (∀ j k, [Leaf.i .i64, .i .i64][j]? = some k → LeafV k (us j)) → ∃ x : Int × Int, ∀ j u, (e2 x)[j]? = some u → ∀ ρ, VR ρ u (us j) := by
 intro us h
 obtain ⟨a, e0⟩ := uK (h 0 _ rfl)
 obtain ⟨b, e1⟩ := uK (h 1 _ rfl)
 refine ⟨(a, b), fun j u hj ρ => ?_⟩
 match j, hj with
 | 0, hj => cases hj; rw [e0]; exact .int _ _
 | 1, hj => cases hj; rw [e1]; exact .int _ _
 | j + 2, hj => simp [e2] at hj
theorem rel2 (F : V.PH) (x : Int × Int) : V.rP V.rI V.rI F x (e2 x) := ⟨[_], [_], rfl, rfl, rfl⟩
def e4 (x : Int × Int × Int × Int) : List HV := [i64 x.1, i64 x.2.1, i64 x.2.2.1, i64 x.2.2.2]
end Go.Hx

namespace Go.Hx
open Go.RowKit
variable {P : Program}
def SlotN (ρ : Rho) (w : World) (s : Slot) : Prop := ∃ (C : Array Value) (e : TypeId) (z : Nat × Nat), w.heap[s.ri.blk]? = some (.cells C e z) ∧ ∀ (i : Nat) (v : HV), s.cs[i]? = some v → ∃ u, C[s.ri.off + i]? = some u ∧ VR ρ v u
theorem SlotOk.n {w : World} {s : Slot} (h : SlotOk w s) (ρ : Rho) : SlotN ρ w s := by
 obtain ⟨C, e, z, h1, h2⟩ := h
 exact ⟨C, e, z, h1, fun i v hv => let ⟨u, a, b⟩ := h2 i v hv; ⟨u, a, b ρ⟩⟩
theorem calls_argsN {lp : Nat → Option zp} (hm : P.follows .mixedOrders = true) (hlp : LpOk P lp) {f : Nat} {args : List HV} {ss : List (Option Slot)} {W : World} (hs : ∀ s, some s ∈ ss → SlotN (rhoOf ss) W s)
  (h : C lp 0 f args ⟨lay ss, ss.length⟩ (Sc (· = .bool true) ⟨lay ss, ss.length⟩)) {Args : Array Value} (ha : LR (rhoOf ss) args Args.toList) :
  Calls P f Args W fun e W' => e = .returned (.bool true) ∧ Below W.heap.size W W' := by
 have hro : ∀ b x, (lay ss).get b = some x → x.own = false := fun b x hx => by
  rw [lay_get] at hx
  cases e : ss.getD b none with
  | none => rw [e] at hx; cases hx
  | some s => rw [e] at hx; cases hx; rfl
 have mem : ∀ b s, ss.getD b none = some s → some s ∈ ss ∧ b < ss.length := fun b s e => by
  rw [List.getD_eq_getElem?_getD] at e
  cases e2 : ss[b]? with
  | none => rw [e2] at e; cases e
  | some o =>
   rw [e2] at e
   have : o = some s := e
   subst this
   refine ⟨List.mem_of_getElem? e2, ?_⟩
   rcases Nat.lt_or_ge b ss.length with h | h
   ·exact h
   ·rw [List.getElem?_eq_none h] at e2; cases e2
 have hdom : Dom ⟨lay ss, ss.length⟩ := fun b x hx => by
  have hx' : (lay ss).get b = some x := hx
  rw [lay_get] at hx'
  cases e : ss.getD b none with
  | none => rw [e] at hx'; cases hx'
  | some s => exact (mem b s e).2
 have hsim : Sim P W.heap.size (lay ss).get (rhoOf ss) W := by
  refine ⟨fun b x hx => ?_, fun b b' x x' r r' hx _ ho => by rw [hro b x hx] at ho; cases ho⟩
  rw [lay_get] at hx
  cases e : ss.getD b none with
  | none => rw [e] at hx; cases hx
  | some s =>
   rw [e] at hx
   cases hx
   obtain ⟨C, el, z, hw, hc⟩ := hs s (mem b s e).1
   refine ⟨s.ri, C, el, z, by unfold rhoOf riOf; rw [e]; rfl, hw, fun i v hv => ?_, (Array.getElem?_eq_some_iff.1 hw).1⟩
   obtain ⟨u, h1, h2⟩ := hc i v hv
   exact ⟨u, h1, h2⟩
 obtain ⟨n, v, σ', h1, h2⟩ := h
 have hin : In P W.heap.size ⟨lay ss, ss.length⟩ σ' (rhoOf ss) W := ⟨Nat.le_refl _, hsim, fun b hb _ => by
  show riOf (ss.getD b none) = none
  rw [List.getD_eq_getElem?_getD, List.getElem?_eq_none hb]; rfl⟩
 have := Y8 hm hlp h1 hdom W.heap.size (rhoOf ss) Args W hin ha
 rw [fr_none] at this
 refine (callsIn_wide.1 this).mono ?_
 rintro e W' ⟨V, ρ', rfl, hv, hp⟩
 obtain ⟨rfl, _⟩ := h2
 cases hv
 exact ⟨rfl, kj hp hro⟩
theorem kB {α : Type} {enc : α → List HV} {sz : Nat} : ∀ (l : List α), (∀ x ∈ l, (enc x).length = sz) → ∀ (i : Nat) (x : α), l[i]? = some x → takeN sz ((l.flatMap enc).drop (0 + i * sz)) = some (enc x)
 | [], _, i, x, h => by simp at h
 | y :: l, he, 0, x, h => by
  simp at h; subst h
  rw [Nat.zero_mul, List.flatMap_cons, ← he y (List.mem_cons_self ..)]
  exact ua _ _
 | y :: l, he, i + 1, x, h => by
  have := kB l (fun x hx => he x (List.mem_cons_of_mem _ hx)) i x (by simpa using h)
  have hy := he y (List.mem_cons_self ..)
  rw [List.flatMap_cons, List.drop_append, show 0 + (i + 1) * sz - (enc y).length = 0 + i * sz by rw [hy, Nat.add_mul]; omega, List.drop_of_length_le (by rw [hy, Nat.add_mul]; omega), List.nil_append]
  exact this
theorem u9 {α β : Type} {f : α → List β} {m : Nat} : ∀ (l : List α), (∀ x ∈ l, (f x).length = m) → ∀ (i j : Nat) (x : α), l[i]? = some x → j < m → (l.flatMap f)[i * m + j]? = (f x)[j]?
 | [], _, i, j, x, h, _ => by simp at h
 | y :: l, he, 0, j, x, h, hj => by
  simp at h; subst h
  rw [List.flatMap_cons, Nat.zero_mul, Nat.zero_add, List.getElem?_append_left (by rw [he y (List.mem_cons_self ..)]; exact hj)]
 | y :: l, he, i + 1, j, x, h, hj => by
  have hy := he y (List.mem_cons_self ..)
  rw [List.flatMap_cons, List.getElem?_append_right (by rw [hy, Nat.add_mul]; omega), hy, show (i + 1) * m + j - m = i * m + j by rw [Nat.add_mul]; omega]
  exact u9 l (fun x hx => he x (List.mem_cons_of_mem _ hx)) i j x (by simpa using h) hj
theorem u7 {α β : Type} {f : α → List β} {m : Nat} : ∀ (l : List α), (∀ x ∈ l, (f x).length = m) → (l.flatMap f).length = l.length * m
 | [], _ => by simp
 | y :: l, he => by
  rw [List.flatMap_cons, List.length_append, u7 l (fun x hx => he x (List.mem_cons_of_mem _ hx)), he y (List.mem_cons_self ..), List.length_cons, Nat.add_mul]; omega
theorem flat_ix {α β : Type} {f : α → List β} {m : Nat} (hm : 0 < m) (l : List α) (he : ∀ x ∈ l, (f x).length = m) (p : Nat) (v : β) (h : (l.flatMap f)[p]? = some v) : ∃ i j x, p = i * m + j ∧ j < m ∧ l[i]? = some x ∧ (f x)[j]? = some v := by
 have hp : p < (l.flatMap f).length := (List.getElem?_eq_some_iff.1 h).1
 rw [u7 l he] at hp
 have h1 : p / m < l.length := Nat.div_lt_of_lt_mul (by rw [Nat.mul_comm]; exact hp)
 have h2 : p % m < m := Nat.mod_lt _ hm
 have h3 : p = p / m * m + p % m := by rw [Nat.mul_comm]; exact (Nat.div_add_mod p m).symm
 refine ⟨p / m, p % m, l[p / m], h3, h2, List.getElem?_eq_getElem h1, ?_⟩
 rw [← u9 l he (p / m) (p % m) _ (List.getElem?_eq_getElem h1) h2, ← h3]; exact h
section
variable {H : Type} {enc : TypeId × Value → H} {w : World} {base : Nat} {held : Bool}
theorem YP {t e : TypeId} {fuel : Nat} {cs : List Value} {x : DataW H × List MemPlace} (ht : P.underlying t = some (.slice e)) (hc : 0 < P.cellsOf e) (h : DataW.trod enc P w base (fun _ => true) held fuel t cs = some x) :
  (∃ a, cs = [a] ∧ (a = .slice none 0 0 ∨ ∃ b, a = .slice (some b) 0 0)) ∨ ∃ (blk off len cap : Nat) (C : Array Value) (el : TypeId) (z : Nat × Nat), cs = [.slice (some ⟨blk, off, none⟩) len cap] ∧ len ≤ cap ∧ w.heap[blk]? = some (.cells C el z) ∧
   ∀ i, i < len → ∃ (us : List Value) (n : Nat) (y : DataW H × List MemPlace), us.length = P.cellsOf e ∧ (∀ j, j < us.length → C[off + (i * P.cellsOf e + j)]? = us[j]?) ∧ DataW.trod enc P w base (fun _ => true) held n e us = some y := by
 rcases Deep.open_slice ht h with ⟨rfl, _⟩ | ⟨a, len, cap, m, n, D, Pl, rfl, _, hlc, hm, hmm, _, hx⟩
 ·exact .inl ⟨_, rfl, .inl rfl⟩
 ·simp only [if_true] at hmm
  subst hmm
  by_cases h0 : m = 0
  ·subst h0
   have : len = 0 := by omega
   subst this
   exact .inl ⟨_, rfl, .inr ⟨a, rfl⟩⟩
  ·obtain ⟨blk, off, spot⟩ := a
   obtain ⟨cs', h1, h2⟩ := hx 0 (by omega)
   obtain ⟨_, hlen, hcell⟩ := World.cells?_some h1
   have hc0 := hcell 0 hc
   have e0 : ((Addr.mk blk off spot).add (0 * P.cellsOf e)).add 0 = Addr.mk blk off spot := by rw [Nat.zero_mul]; rfl
   rw [e0, List.getElem?_eq_getElem (by omega)] at hc0
   unfold World.cell? at hc0
   dsimp only at hc0
   split at hc0
   ·rename_i C el z hw
    cases hsp : spot with
    | some s => rw [hsp] at hc0; simp at hc0
    | none =>
     refine .inr ⟨blk, off, len, m, C, el, z, rfl, hlc, hw, fun i hi => ?_⟩
     subst hsp
     obtain ⟨us, g1, g2⟩ := hx i (by omega)
     obtain ⟨_, glen, gcell⟩ := World.cells?_some g1
     refine ⟨us, n, _, glen, fun j hj => ?_, g2⟩
     have hcj := gcell j (by omega)
     rw [Deep.add_add] at hcj
     have key : w.cell? (Addr.add ⟨blk, off, none⟩ (i * P.cellsOf e + j)) = C[off + (i * P.cellsOf e + j)]? := by
      unfold Addr.add World.cell?
      by_cases h0 : i * P.cellsOf e + j = 0
      ·rw [if_pos h0, h0]
       simp only [hw, Nat.add_zero]
       rfl
      ·rw [if_neg h0]
       simp only [hw]
       rfl
     rw [key] at hcj
     exact hcj
   ·cases hc0
structure ArgP {α : Type} (rel : V.Rel α) (sz : Nat) (w : World) (v : Value) (o : Option Slot) (mk : Nat → HV) (l : List α) : Prop where
 ok : ∀ s, o = some s → SlotOk w s
 vr : ∀ (k : Nat) (ρ : Rho), ρ k = riOf o → VR ρ (mk k) v
 row : ∀ k, ∃ p c, mk k = .slice p l.length c ∧ ∀ (h : Tr HBlk), h.get k = (o.map fun s => .cells s.cs .ro) → V.RowF rel sz (V.all h) p c l
theorem argP {α : Type} [Inhabited α] {rel : V.Rel α} {enc0 : α → List HV} {t e : TypeId} {d : Nat} {ks : List Leaf} {fuel : Nat} {cs : List Value} {x : DataW H × List MemPlace} (ht : P.underlying t = some (.slice e)) (hk : leaves P d e = some ks) (hl : ks.length = P.cellsOf e) (hpos : 0 < ks.length)
  (h : DataW.trod enc P w base (fun _ => true) held fuel t cs = some x) (he : ∀ x, (enc0 x).length = ks.length) (hrel : ∀ F x, rel F x (enc0 x))
  (hdec : ∀ us : Nat → Value, (∀ j k, ks[j]? = some k → LeafV k (us j)) → ∃ x : α, ∀ j u, (enc0 x)[j]? = some u → ∀ ρ, VR ρ u (us j)) :
  ∃ (v : Value) (o : Option Slot) (mk : Nat → HV) (l : List α), cs = [v] ∧ ArgP rel ks.length w v o mk l := by
 rcases YP ht (by omega) h with ⟨a, rfl, ha⟩ | ⟨blk, off, len, cap, C, el, z, rfl, hlc, hw, hx⟩
 ·rcases ha with rfl | ⟨b, rfl⟩
  ·exact ⟨_, none, fun _ => .slice none 0 0, [], rfl, ⟨fun s e => (by cases e), fun k ρ _ => .slice0, fun k => ⟨none, 0, rfl, fun h _ => ⟨Nat.le_refl _, fun hne => absurd rfl hne⟩⟩⟩⟩
  ·exact ⟨_, none, fun k => .slice (some (k, 0)) 0 0, [], rfl, ⟨fun s e => (by cases e), fun k ρ _ => .slice00 b, fun k => ⟨some (k, 0), 0, rfl, fun h _ => ⟨Nat.le_refl _, fun hne => absurd rfl hne⟩⟩⟩⟩
 ·have each : ∀ i, i < len → ∃ x : α, ∀ j u, (enc0 x)[j]? = some u → ∃ c, C[off + (i * ks.length + j)]? = some c ∧ ∀ ρ, VR ρ u c := by
   intro i hi
   obtain ⟨us, n, y, g1, g2, g3⟩ := hx i hi
   have hf2 := vl d e ks n us _ hk hl g3
   obtain ⟨x, hx1⟩ := hdec (fun j => (us[j]?).getD .nilFunc) (fun j k hj => by
    have hjl : j < ks.length := (List.getElem?_eq_some_iff.1 hj).1
    have hju : us[j]? = some us[j] := List.getElem?_eq_getElem (by rw [← hf2.1]; exact hjl)
    rw [hju]
    exact hf2.2 j k _ hj hju)
   refine ⟨x, fun j u hj => ?_⟩
   have hjl : j < ks.length := by rw [← he x]; exact (List.getElem?_eq_some_iff.1 hj).1
   have hju : us[j]? = some us[j] := List.getElem?_eq_getElem (by rw [← hf2.1]; exact hjl)
   refine ⟨us[j], by rw [hl, g2 j (by rw [← hf2.1]; exact hjl)]; exact hju, fun ρ => ?_⟩
   have := hx1 j u hj ρ
   rwa [hju] at this
  obtain ⟨f, hf⟩ := Deep.choose_lt each
  refine ⟨_, some ⟨((List.range len).map f).flatMap enc0, ⟨blk, off, 0⟩⟩, fun k => .slice (some (k, 0)) len cap, (List.range len).map f, rfl, ⟨fun s e => ?_, fun k ρ hr => ?_, fun k => ⟨some (k, 0), cap, by simp, fun h hg => ⟨by simpa using hlc, fun _ => ⟨k, 0, _, .ro, rfl, hg, fun i x hx => ⟨_, XA he _ i x hx, hrel _ x⟩⟩⟩⟩⟩⟩
  ·cases e
   refine ⟨C, el, z, hw, fun i u hu => ?_⟩
   obtain ⟨i', j, x, rfl, h2, h3⟩ := YW he _ i u hu
   have hi' : i' < len := by
    rcases Nat.lt_or_ge i' len with h | h
    ·exact h
    ·rw [List.getElem?_eq_none (by simp; omega)] at h2; cases h2
   rw [List.getElem?_map, List.getElem?_range hi'] at h2
   cases h2
   exact hf i' hi' j u h3
  ·exact VR.slice (r := ⟨blk, off, 0⟩) (o := 0) hr
structure ElOk {α : Type} (rel : V.Rel α) (sz m : Nat) (w : World) (us : List Value) (x : α) (cells : Nat → List HV) (inner : List (Option Slot)) : Prop where
 len : inner.length = m
 sz : ∀ k, (cells k).length = sz
 ok : ∀ s, some s ∈ inner → SlotOk w s
 vr : ∀ k (ρ : Rho), (∀ i, i < m → ρ (k + i) = riOf (inner.getD i none)) → ∀ (j : Nat) (u : HV), (cells k)[j]? = some u → ∃ c : Value, us[j]? = some c ∧ VR ρ u c
 rel : ∀ k (h : Tr HBlk), (∀ i, i < m → h.get (k + i) = ((inner.getD i none).map fun s => .cells s.cs .ro)) → rel (V.all h) x (cells k)
def Has (ss : List (Option Slot)) (k : Nat) (part : List (Option Slot)) : Prop := ∀ i, i < part.length → ss.getD (k + i) none = part.getD i none
theorem Has.mid (a b c : List (Option Slot)) : Has (a ++ (b ++ c)) a.length b := fun i hi => by
 rw [List.getD_eq_getElem?_getD, List.getD_eq_getElem?_getD, List.getElem?_append_right (by omega), show a.length + i - a.length = i by omega, List.getElem?_append_left hi]
structure ArgN {α : Type} (rel : V.Rel α) (sz : Nat) (w : World) (v : Value) (mk : Nat → HV) (part : Nat → List (Option Slot)) (l : List α) : Prop where
 ok : ∀ ss k, Has ss k (part k) → ∀ s, some s ∈ part k → SlotN (rhoOf ss) w s
 vr : ∀ ss k, Has ss k (part k) → VR (rhoOf ss) (mk k) v
 row : ∀ k, ∃ p c, mk k = .slice p l.length c ∧ ∀ ss, Has ss k (part k) → V.RowF rel sz (V.all (lay ss)) p c l
theorem argN {α : Type} [Inhabited α] {rel : V.Rel α} {sz m : Nat} {t e : TypeId} {fuel : Nat} {cs : List Value} {x : DataW H × List MemPlace} (ht : P.underlying t = some (.slice e)) (hc : sz = P.cellsOf e) (hpos : 0 < sz) (hm : 0 < m)
  (h : DataW.trod enc P w base (fun _ => true) held fuel t cs = some x)
  (hdec : ∀ (us : List Value) (n : Nat) (y : DataW H × List MemPlace), us.length = sz → DataW.trod enc P w base (fun _ => true) held n e us = some y → ∃ (x : α) (cells : Nat → List HV) (inner : List (Option Slot)), ElOk rel sz m w us x cells inner) :
  ∃ (v : Value) (mk : Nat → HV) (part : Nat → List (Option Slot)) (l : List α), cs = [v] ∧ ArgN rel sz w v mk part l := by
 rcases YP ht (by omega) h with ⟨a, rfl, ha⟩ | ⟨blk, off, len, cap, C, el, z, rfl, hlc, hw, hx⟩
 ·rcases ha with rfl | ⟨b, rfl⟩
  ·exact ⟨_, fun _ => .slice none 0 0, fun _ => [], [], rfl, ⟨fun ss k _ s hs => by simp at hs, fun ss k _ => .slice0, fun k => ⟨none, 0, rfl, fun ss _ => ⟨Nat.le_refl _, fun hne => absurd rfl hne⟩⟩⟩⟩
  ·exact ⟨_, fun k => .slice (some (k, 0)) 0 0, fun _ => [], [], rfl, ⟨fun ss k _ s hs => by simp at hs, fun ss k _ => .slice00 b, fun k => ⟨some (k, 0), 0, rfl, fun ss _ => ⟨Nat.le_refl _, fun hne => absurd rfl hne⟩⟩⟩⟩
 ·have each : ∀ i, i < len → ∃ y : α × (Nat → List HV) × List (Option Slot), ∃ us : List Value, (∀ j, j < us.length → C[off + (i * sz + j)]? = us[j]?) ∧ us.length = sz ∧ ElOk rel sz m w us y.1 y.2.1 y.2.2 := by
   intro i hi
   obtain ⟨us, n, y, g1, g2, g3⟩ := hx i hi
   obtain ⟨x, ce, inn, hel⟩ := hdec us n y (by omega) g3
   exact ⟨(x, ce, inn), us, by rw [hc]; exact g2, by omega, hel⟩
  obtain ⟨f, hf⟩ := Deep.choose_lt each
  have hlen : ∀ i ∈ List.range len, (f i).2.2.length = m := fun i hi => (hf i (by simpa using hi)).elim fun us h => h.2.2.len
  have hsz : ∀ k, ∀ i ∈ List.range len, ((f i).2.1 (k + 1 + i * m)).length = sz := fun k i hi => (hf i (by simpa using hi)).elim fun us h => h.2.2.sz _
  have hrg : ∀ i, i < len → (List.range len)[i]? = some i := fun i hi => List.getElem?_range hi
  let outer : Nat → Slot := fun k => ⟨(List.range len).flatMap fun i => (f i).2.1 (k + 1 + i * m), ⟨blk, off, 0⟩⟩
  let part : Nat → List (Option Slot) := fun k => some (outer k) :: (List.range len).flatMap fun i => (f i).2.2
  have plen : ∀ k, (part k).length = 1 + len * m := fun k => by
   show (_ :: _).length = _
   rw [List.length_cons, u7 _ hlen, List.length_range]; omega
  have at0 : ∀ k ss, Has ss k (part k) → ss.getD k none = some (outer k) := fun k ss h => by
   have := h 0 (by rw [plen]; omega)
   rw [Nat.add_zero] at this
   exact this
  have atI : ∀ k ss, Has ss k (part k) → ∀ i j, i < len → j < m → ss.getD (k + 1 + i * m + j) none = (f i).2.2.getD j none := fun k ss h i j hi hj => by
   have hb : i * m + j < len * m := by
    have : (i + 1) * m ≤ len * m := Nat.mul_le_mul_right _ hi
    rw [Nat.add_mul] at this; omega
   have := h (1 + (i * m + j)) (by rw [plen]; omega)
   rw [show k + (1 + (i * m + j)) = k + 1 + i * m + j by omega] at this
   rw [this, List.getD_eq_getElem?_getD, List.getD_eq_getElem?_getD, Nat.add_comm 1]
   show (((List.range len).flatMap fun i => (f i).2.2)[i * m + j]?).getD none = _
   rw [u9 (f := fun i => (f i).2.2) _ hlen i j i (hrg i hi) hj]
  refine ⟨_, fun k => .slice (some (k, 0)) len cap, part, (List.range len).map fun i => (f i).1, rfl, ⟨fun ss k hh s hs => ?_, fun ss k hh => ?_, fun k => ⟨some (k, 0), cap, by simp, fun ss hh => ⟨by simpa using hlc, fun _ => ⟨k, 0, (outer k).cs, .ro, rfl, ?_, fun i x hx => ?_⟩⟩⟩⟩⟩
  ·rcases List.mem_cons.1 hs with e | hs
   ·cases e
    refine ⟨C, el, z, hw, fun i u hu => ?_⟩
    obtain ⟨i', j, x, rfl, hj, h2, h3⟩ := flat_ix hpos _ (hsz k) i u hu
    have hi' : i' < len := by have := (List.getElem?_eq_some_iff.1 h2).1; simpa using this
    rw [hrg i' hi'] at h2
    cases h2
    obtain ⟨us, g1, g2, hel⟩ := hf i' hi'
    obtain ⟨c, h4, h5⟩ := hel.vr (k + 1 + i' * m) (rhoOf ss) (fun q hq => by unfold rhoOf; rw [atI k ss hh i' q hi' hq]) j u h3
    exact ⟨c, by rw [g1 j (by omega)]; exact h4, h5⟩
   ·obtain ⟨i, hi, hs⟩ := List.mem_flatMap.1 hs
    obtain ⟨us, g1, g2, hel⟩ := hf i (by simpa using hi)
    exact (hel.ok s hs).n _
  ·refine VR.slice (r := ⟨blk, off, 0⟩) (o := 0) ?_
   unfold rhoOf
   rw [at0 k ss hh]; rfl
  ·unfold V.all
   rw [lay_get, at0 k ss hh]; rfl
  ·have hi : i < len := by have := (List.getElem?_eq_some_iff.1 hx).1; simpa using this
   rw [List.getElem?_map, hrg i hi] at hx
   cases hx
   obtain ⟨us, g1, g2, hel⟩ := hf i hi
   refine ⟨_, kB (enc := fun i => (f i).2.1 (k + 1 + i * m)) _ (hsz k) i i (hrg i hi), hel.rel _ _ fun q hq => ?_⟩
   rw [lay_get, atI k ss hh i q hi hq]
end
end Go.Hx

namespace Go.Hx
open Go.RowKit Go.ChangeShapes Go.WideShapes Go.ChangeAt
open Go.Proofs
set_option maxRecDepth 100000
theorem leaves51 : leaves Try.prog 20 51 = some [.i .i64, .i .i64] := by kernel_rfl
theorem leaves108 : leaves Try.prog 20 108 = some [.i .i64, .i .i64] := by kernel_rfl
theorem cells51 : 2 = Try.prog.cellsOf 51 := by kernel_rfl
theorem cells108 : 2 = Try.prog.cellsOf 108 := by kernel_rfl
theorem cells3 : 1 = Try.prog.cellsOf 3 := by kernel_rfl
theorem cells22 : 1 = Try.prog.cellsOf 22 := by kernel_rfl
theorem cells23 : 1 = Try.prog.cellsOf 23 := by kernel_rfl
theorem cells101 : 1 = Try.prog.cellsOf 101 := by kernel_rfl
theorem cells103 : 3 = Try.prog.cellsOf 103 := by kernel_rfl
theorem cells25 : Try.prog.cellsOf 25 = 3 := by kernel_rfl
abbrev relB : V.Rel (Int × Int × List (Int × Int)) := V.rP V.rI (V.rP V.rI (V.rL (V.rP V.rI V.rI) 2))
section
variable {P : Program} {H : Type} {enc : TypeId × Value → H} {w : World} {base : Nat} {held : Bool}
theorem vV {spare : Nat → Bool} {t : TypeId} {fs : Array Field} {fuel : Nat} {cs : List Value} {x : DataW H × List MemPlace} (ht : P.underlying t = some (.struct fs)) (h : DataW.trod enc P w base spare held fuel t cs = some x) {j : Nat} {f : Field} (hj : fs[j]? = some f) :
  ∃ n y, DataW.trod enc P w base spare held n f.type ((cs.drop f.offset).take (P.cellsOf f.type)) = some y := by
 obtain ⟨xs, n, _, _, hlen, hxl, hx⟩ := DataW.trod_struct ht h
 have h3 := hx j f hj
 have hjl : j < xs.length := by
  have : j < fs.size := (Array.getElem?_eq_some_iff.1 hj).1
  omega
 rw [List.getElem?_eq_getElem hjl] at h3
 exact ⟨n, _, h3⟩
end
section
variable {H : Type} {enc : TypeId × Value → H} {w : World} {base : Nat} {held : Bool} {v : Value} {dd : DataW H} {p : List MemPlace} {b0 : Nat}
theorem two_ints {us : List Value} (h : F2 [.i .i64, .i .i64] us) : ∃ a b : Int, us = [.int .i64 a, .int .i64 b] := by
 obtain ⟨u0, C, rfl, h0, h⟩ := YX h
 obtain ⟨u1, C, rfl, h1, h⟩ := YX h
 obtain rfl := f2_nil h
 obtain ⟨a, rfl⟩ := uK h0
 obtain ⟨b, rfl⟩ := uK h1
 exact ⟨a, b, rfl⟩
theorem el_bath (us : List Value) (n : Nat) (y : DataW H × List MemPlace) (hl : us.length = 3) (h : DataW.trod enc Try.prog w base (fun _ => true) held n 103 us = some y) :
  ∃ (x : Int × Int × List (Int × Int)) (cells : Nat → List HV) (inner : List (Option Slot)), ElOk relB 3 1 w us x cells inner := by
 obtain ⟨n1, y1, h1⟩ := vV Try.underlying103 h (j := 0) rfl
 obtain ⟨n2, y2, h2⟩ := vV Try.underlying103 h (j := 1) rfl
 obtain ⟨u0, u1, u2, rfl⟩ : ∃ u0 u1 u2, us = [u0, u1, u2] := by
  match us, hl with
  | [a, b, c], _ => exact ⟨a, b, c, rfl⟩
 have h1 : DataW.trod enc Try.prog w base (fun _ => true) held n1 51 (([u0, u1, u2].drop 0).take (Try.prog.cellsOf 51)) = some y1 := h1
 have h2 : DataW.trod enc Try.prog w base (fun _ => true) held n2 101 (([u0, u1, u2].drop 2).take (Try.prog.cellsOf 101)) = some y2 := h2
 rw [← cells51] at h1
 rw [← cells101] at h2
 obtain ⟨a, b, e⟩ := two_ints (vl 20 51 _ n1 _ _ leaves51 cells51 h1)
 obtain ⟨v, o, mk, l, e2, ha⟩ := argP (rel := V.rP V.rI V.rI) (enc0 := e2) Try.underlying101 leaves108 cells108 (by decide) h2 (fun _ => rfl) rel2 dec2
 have e : [u0, u1] = [.int .i64 a, .int .i64 b] := e
 have e2 : [u2] = [v] := e2
 cases e
 cases e2
 refine ⟨(a, b, l), fun k => [i64 a, i64 b, mk k], [o], rfl, fun k => rfl, fun s hs => ?_, fun k ρ hr j u hu => ?_, fun k h hg => ?_⟩
 ·rcases List.mem_cons.1 hs with e | hs
  ·exact ha.ok s e.symm
  ·cases hs
 ·match j, hu with
  | 0, hu => cases hu; exact ⟨_, rfl, .int _ _⟩
  | 1, hu => cases hu; exact ⟨_, rfl, .int _ _⟩
  | 2, hu => cases hu; exact ⟨_, rfl, ha.vr k ρ (hr 0 (by decide))⟩
  | j + 3, hu => simp at hu
 ·obtain ⟨p, c, e, hrow⟩ := ha.row k
  exact ⟨[_], [_, _], rfl, rfl, ⟨[_], [_], rfl, rfl, ⟨p, c, by rw [e], hrow h (hg 0 (by decide))⟩⟩⟩
def SerA (W : World) (v : Value) : Prop := ∃ (e : Int) (vo vb : Value), v = .agg #[vo, .int .i64 e, vb] ∧ (∃ oo mo lo, ArgP (V.rP V.rI V.rI) 2 W vo oo mo lo) ∧ ∃ mk part l, ArgN relB 3 W vb mk part l
theorem arg_series (hv : Value.okWide Try.prog w .any b0 25 v) (h : DataW.Trod enc Try.prog w base (fun _ => true) held 25 v dd p) : SerA w v := by
 obtain ⟨C, rfl, hs⟩ := okWide_struct Try.underlying25 hv
 obtain ⟨fuel, hf⟩ := h
 obtain ⟨n0, y0, h0⟩ := vV Try.underlying25 hf (j := 0) rfl
 obtain ⟨n1, y1, h1⟩ := vV Try.underlying25 hf (j := 1) rfl
 obtain ⟨n2, y2, h2⟩ := vV Try.underlying25 hf (j := 2) rfl
 have hs := hs.trans cells25
 obtain ⟨u0, u1, u2, rfl⟩ : ∃ u0 u1 u2, C = #[u0, u1, u2] := by
  obtain ⟨l⟩ := C
  match l, hs with
  | [a, b, c], _ => exact ⟨a, b, c, rfl⟩
 have h0 : DataW.trod enc Try.prog w base (fun _ => true) held n0 22 (([u0, u1, u2].drop 0).take (Try.prog.cellsOf 22)) = some y0 := h0
 have h1 : DataW.trod enc Try.prog w base (fun _ => true) held n1 3 (([u0, u1, u2].drop 1).take (Try.prog.cellsOf 3)) = some y1 := h1
 have h2 : DataW.trod enc Try.prog w base (fun _ => true) held n2 23 (([u0, u1, u2].drop 2).take (Try.prog.cellsOf 23)) = some y2 := h2
 rw [← cells22] at h0
 rw [← cells3] at h1
 rw [← cells23] at h2
 obtain ⟨vo, oo, mo, lo, e0, ha⟩ := argP (rel := V.rP V.rI V.rI) (enc0 := e2) Try.underlying22 leaves51 cells51 (by decide) h0 (fun _ => rfl) rel2 dec2
 obtain ⟨e, e1, _⟩ := DataW.trod_int Try.underlying3 h1
 obtain ⟨vb, mk, part, l, e2, hb⟩ := argN (rel := relB) (sz := 3) (m := 1) Try.underlying23 cells103 (by decide) (by decide) h2 el_bath
 have e0 : [u0] = [vo] := e0
 have e1 : [u1] = [.int .i64 e] := e1
 have e2 : [u2] = [vb] := e2
 cases e0; cases e1; cases e2
 exact ⟨e, _, _, rfl, ⟨oo, mo, lo, ha⟩, mk, part, l, hb⟩
end
end Go.Hx

