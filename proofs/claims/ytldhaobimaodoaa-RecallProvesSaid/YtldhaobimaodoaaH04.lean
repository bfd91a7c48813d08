/- Walks of the plain machine: regions that draw, in which operations lay blocks and others call. -/
import Derived.Test.YtldhaobimaodoaaH03
import Derived.Test.YtldhaobimaodoaaH02
import Derived.Test.YtldhaobimaodoaaH00
set_option linter.all false
/- Walks of the plain machine: regions that draw, in which operations lay blocks and others call. -/
namespace Go.Hx
variable {lp : Nat → Option LFunc} {fl : Nat} {rd : Option Nat} {Q : HExit → HAct → HS → Prop} {N : HAct → HS → Prop} {a : HAct} {h0 h : Tr HBlk} {nx s n0 i : Nat} {os : List LOper} {done : List (Nat × List (Nat × HBlk))}
/-- Behind one operation. -/
def DX (lp : Nat → Option LFunc) (fl s n0 : Nat) (h0 : Tr HBlk) (os : List LOper) (i : Nat) (done : List (Nat × List (Nat × HBlk))) (nx : Nat) (N : HAct → HS → Prop) : HAct → HS → Prop := fun a' σ' =>
  (σ'.nx = nx ∧ DG lp fl s n0 h0 os (i + 1) done N a' nx) ∨ (∃ x, σ'.nx = nx + 1 ∧ σ'.h.get nx = some x ∧ DG lp fl s n0 h0 os (i + 1) ((i, [(nx, x)]) :: done) N a' (nx + 1)) ∨ (nx ≤ σ'.nx ∧ (∀ b, nx ≤ b → σ'.h.get b = none) ∧ DG lp fl s n0 h0 os (i + 1) done N a' σ'.nx) ∨ (nx ≤ σ'.nx ∧ DG lp fl s n0 h0 os (i + 1) ((i, newFrom σ'.h nx (σ'.nx - nx)) :: done) N a' σ'.nx)
/-- What some of those that have been done have laid. -/
noncomputable def mf (f : Nat → Bool) : Tr HBlk → List (Nat × List (Nat × HBlk)) → Tr HBlk
  | h, [] => h
  | h, (j, l) :: ds => mf f (bif f j then addAll h l else h) ds
theorem merge_mf {anc : Option (List Nat)} : ∀ (ds : List (Nat × List (Nat × HBlk))) (h : Tr HBlk), merge h anc ds = mf (fun j => match anc with | none => true | some anc => anc.contains j) h ds
  | [], _ => rfl
  | (j, l) :: ds, h => by unfold merge mf; exact merge_mf ds _
theorem mf_drop {f : Nat → Bool} {B : List Nat} : ∀ (ds : List (Nat × List (Nat × HBlk))) (h : Tr HBlk), mf f h (dropAll B ds) = mf (fun j => f j && !B.contains j) h ds
  | [], _ => rfl
  | (j, l) :: ds, h => by
    unfold dropAll
    cases hc : B.contains j with
    | true =>
      simp only [cond_true]
      rw [mf_drop ds h]
      show _ = mf _ (bif f j && !B.contains j then addAll h l else h) ds
      rw [hc]
      simp
    | false =>
      simp only [cond_false]
      show mf f (bif f j then addAll h l else h) (dropAll B ds) = mf _ (bif f j && !B.contains j then addAll h l else h) ds
      rw [mf_drop ds, hc]
      simp
/-- What is done counts by what it lays. -/
theorem draw_eq {ex : Ex} : ∀ (os : List LOper) (i : Nat) (d1 d2 : List (Nat × List (Nat × HBlk))) (a : HAct) (nx : Nat), (∀ f h, mf f h d1 = mf f h d2) → drawOps lp ex fl s n0 h0 os i d1 a nx = drawOps lp ex fl s n0 h0 os i d2 a nx
  | [], i, d1, d2, a, nx, h => by unfold drawOps; rw [merge_mf, merge_mf, h]
  | o :: os, i, d1, d2, a, nx, h => by
    have hm : ∀ anc, merge h0 anc d1 = merge h0 anc d2 := fun anc => by rw [merge_mf, merge_mf, h]
    unfold drawOps
    rw [hm, hm]
    cases Nat.blt i s with
    | false => rfl
    | true =>
      simp only [cond_true]
      cases o.anc.contains i with
      | true =>
        simp only [cond_true]
        cases stepOp lp ex (Nat.max fl n0) o a ⟨merge h0 (some o.anc) d2, nx⟩ with
        | none => rfl
        | some r =>
          obtain ⟨a', σ'⟩ := r
          dsimp only
          cases Nat.ble nx σ'.nx with
          | false => rfl
          | true =>
            simp only [Bool.not_true, cond_false]
            refine draw_eq os _ _ _ _ _ fun f g => ?_
            unfold mf
            rw [mf_drop, mf_drop, h]
      | false =>
        simp only [cond_false]
        cases stepOp lp ex (Nat.max fl nx) o a ⟨merge h0 (some o.anc) d2, nx⟩ with
        | none => rfl
        | some r =>
          obtain ⟨a', σ'⟩ := r
          dsimp only
          cases Nat.ble nx σ'.nx with
          | false => rfl
          | true =>
            simp only [Bool.not_true, cond_false]
            cases Nat.beq nx σ'.nx with
            | true => exact draw_eq os _ _ _ _ _ h
            | false =>
              simp only [cond_false]
              exact draw_eq os _ _ _ _ _ fun f g => by unfold mf; exact h f _
theorem x_step {o : LOper} {hm : Tr HBlk} (hi : Nat.blt i s = true) (hw : o.anc.contains i = false) (hmg : merge h0 (some o.anc) done = hm) (hr : R lp (max fl nx) [o] (DX lp fl s n0 h0 os i done nx N) a ⟨hm, nx⟩) : DG lp fl s n0 h0 (o :: os) i done N a nx := by
  obtain ⟨n, a1, σ1, h1, h2⟩ := hr
  rcases h2 with h2 | h2 | ⟨e1, e2, h2⟩ | ⟨e1, h2⟩
  · exact g_step hi hw hmg ⟨n, a1, σ1, h1, by unfold DN; exact .inl h2⟩
  · exact g_step hi hw hmg ⟨n, a1, σ1, h1, by unfold DN; exact .inr h2⟩
  · have h1' : stepOp lp (exec lp n) (max fl nx) o a ⟨hm, nx⟩ = some (a1, σ1) := by
      unfold runOps at h1
      split at h1
      · rename_i e; rw [e]; exact h1
      · cases h1
    obtain ⟨n2, a2, σ2, h3, h4⟩ := dg_out h2
    have key : drawOps lp (exec lp (max n n2)) fl s n0 h0 (o :: os) i done a nx = some (a2, σ2) := by
      unfold drawOps
      rw [hi, cond_true, hw, cond_false, hmg]
      show (match stepOp lp (exec lp (max n n2)) (max fl nx) o a ⟨hm, nx⟩ with | some (a, σ) => _ | none => none) = _
      rw [stepOp_mon (exec_mon (Nat.le_max_left n n2)) h1']
      have b1 : Nat.ble nx σ1.nx = true := ble_t' e1
      simp only [b1, Bool.not_true, cond_false]
      rw [newFrom_none _ _ e2]
      refine (draw_eq os _ _ done _ _ fun f g => ?_).trans (drawOps_mon (exec_mon (Nat.le_max_right n n2)) h3)
      cases Nat.beq nx σ1.nx with
      | true => rfl
      | false =>
        simp only [cond_false]
        have e : ∀ c : Bool, (bif c then addAll g [] else g) = g := fun c => by cases c <;> rfl
        show mf f (bif _ then addAll g [] else g) done = _
        rw [e]
    unfold DG
    exact ⟨_, a2, σ2, key, h4⟩
  · have h1' : stepOp lp (exec lp n) (max fl nx) o a ⟨hm, nx⟩ = some (a1, σ1) := by
      unfold runOps at h1
      split at h1
      · rename_i e; rw [e]; exact h1
      · cases h1
    obtain ⟨n2, a2, σ2, h3, h4⟩ := dg_out h2
    have key : drawOps lp (exec lp (max n n2)) fl s n0 h0 (o :: os) i done a nx = some (a2, σ2) := by
      unfold drawOps
      rw [hi, cond_true, hw, cond_false, hmg]
      show (match stepOp lp (exec lp (max n n2)) (max fl nx) o a ⟨hm, nx⟩ with | some (a, σ) => _ | none => none) = _
      rw [stepOp_mon (exec_mon (Nat.le_max_left n n2)) h1']
      have b1 : Nat.ble nx σ1.nx = true := ble_t' e1
      simp only [b1, Bool.not_true, cond_false]
      refine (draw_eq os _ _ ((i, newFrom σ1.h nx (σ1.nx - nx)) :: done) _ _ fun f g => ?_).trans (drawOps_mon (exec_mon (Nat.le_max_right n n2)) h3)
      cases hb : Nat.beq nx σ1.nx with
      | false => rfl
      | true =>
        have hz : σ1.nx - nx = 0 := by have := Nat.eq_of_beq_eq_true hb; omega
        rw [hz]
        simp only [cond_true]
        have e : ∀ c : Bool, (bif c then addAll g [] else g) = g := fun c => by cases c <;> rfl
        show mf f g done = mf f (bif _ then addAll g [] else g) done
        rw [e]
    unfold DG
    exact ⟨_, a2, σ2, key, h4⟩
theorem x_same {hm : Tr HBlk} (hr : DG lp fl s n0 h0 os (i + 1) done N a nx) : DX lp fl s n0 h0 os i done nx N a ⟨hm, nx⟩ := .inl ⟨rfl, hr⟩
theorem x_new {hm : Tr HBlk} {x : HBlk} (hr : DG lp fl s n0 h0 os (i + 1) ((i, [(nx, x)]) :: done) N a (nx + 1)) : DX lp fl s n0 h0 os i done nx N a ⟨hm.set nx (some x), nx + 1⟩ := .inr (.inl ⟨x, rfl, get_same _ _ _, hr⟩)
theorem x_call {hm : Tr HBlk} {n' : Nat} (hn : nx ≤ n') (hd : D hm nx) (hr : DG lp fl s n0 h0 os (i + 1) done N a n') : DX lp fl s n0 h0 os i done nx N a ⟨hm, n'⟩ := .inr (.inr (.inl ⟨hn, by unfold D at hd; exact hd, hr⟩))
/-- Behind one operation that may write what those that it sees have laid. -/
def DW (lp : Nat → Option LFunc) (fl s n0 : Nat) (h0 : Tr HBlk) (os : List LOper) (i : Nat) (anc : List Nat) (done : List (Nat × List (Nat × HBlk))) (nx : Nat) (N : HAct → HS → Prop) : HAct → HS → Prop := fun a' σ' =>
  nx ≤ σ'.nx ∧ DG lp fl s n0 h0 os (i + 1) ((i, newFrom σ'.h n0 (σ'.nx - n0)) :: dropAll anc done) N a' σ'.nx
attribute [irreducible] DX DW
end Go.Hx

/- Walks of the plain machine: a range over a function: the call that it is, and each round that 'yield' runs. -/
namespace Go.Hx
variable {lp : Nat → Option LFunc} {fl : Nat} {Q : HExit → HAct → HS → Prop} {N : HAct → HS → Prop} {a : HAct} {h : Tr HBlk} {nx : Nat} {os : List LOper} {dst : Option Nat} {anc : List Nat}
end Go.Hx

/- What a function's run knows of its store: what is frozen, what it owns; values as lists, numbers and pairs; rules of single steps. -/
namespace Go.Hx.V
set_option linter.unusedVariables false
abbrev PH := Nat → Option HBlk
def PH.le (F G : PH) : Prop := ∀ b x, F b = some x → G b = some x
def PH.sub (F : PH) (h : Tr HBlk) : Prop := ∀ b x, F b = some x → h.get b = some x
theorem PH.le.refl (F : PH) : PH.le F F := fun _ _ h => h
theorem PH.le.trans {F G K : PH} (a : PH.le F G) (b : PH.le G K) : PH.le F K := fun c x h => b c x (a c x h)
abbrev Rel (α : Type) := PH → α → List HV → Prop
class OkR {α : Type} (rel : Rel α) (sz : outParam Nat) : Prop where
  mono : ∀ {F G : PH} {x r}, PH.le F G → rel F x r → rel G x r
  len : ∀ {F x r}, rel F x r → r.length = sz
  one : ∀ {F x r}, rel F x r → r.all HV.one = true
def rI : Rel Int := fun _ x r => r = [i64 x]
def rK (k : IntKind) : Rel Int := fun _ x r => r = [.int k x]
def rB : Rel Bool := fun _ x r => r = [.bool x]
def rU : Rel Unit := fun _ _ r => r = []
def rP {α β : Type} (a : Rel α) (b : Rel β) : Rel (α × β) := fun F x r => ∃ r1 r2, r = r1 ++ r2 ∧ a F x.1 r1 ∧ b F x.2 r2
def RowF {α : Type} (rel : Rel α) (sz : Nat) (F : PH) (p : Option (Nat × Nat)) (c : Nat) (l : List α) : Prop :=
  l.length ≤ c ∧ (l ≠ [] → ∃ b o cs k, p = some (b, o) ∧ F b = some (.cells cs k) ∧ ∀ i x, l[i]? = some x → ∃ r, takeN sz (cs.drop (o + i * sz)) = some r ∧ rel F x r)
def rL {α : Type} (rel : Rel α) (sz : Nat) : Rel (List α) := fun F l r => ∃ p c, r = [.slice p l.length c] ∧ RowF rel sz F p c l
/-- A list's cells. -/
def LR {α : Type} (rel : Rel α) (sz : Nat) (F : PH) (l : List α) (cs : List HV) : Prop := cs.length = l.length * sz ∧ ∀ i x, l[i]? = some x → ∃ r, takeN sz (cs.drop (i * sz)) = some r ∧ rel F x r
def rA {α : Type} (n : Nat) (rel : Rel α) (sz : Nat) : Rel (List α) := fun F l r => l.length = n ∧ LR rel sz F l r ∧ r.all HV.one = true
theorem RowF.mono {α : Type} {rel : Rel α} {sz : Nat} [OkR rel sz] {F G : PH} {p : Option (Nat × Nat)} {c : Nat} {l : List α} (h : PH.le F G) (hr : RowF rel sz F p c l) : RowF rel sz G p c l := ⟨hr.1, fun hne => by
  obtain ⟨b, o, cs, k, h1, h2, h3⟩ := hr.2 hne
  refine ⟨b, o, cs, k, h1, h _ _ h2, fun i x hx => ?_⟩
  obtain ⟨r, g1, g2⟩ := h3 i x hx
  exact ⟨r, g1, OkR.mono h g2⟩⟩
theorem LR.mono {α : Type} {rel : Rel α} {sz : Nat} [OkR rel sz] {F G : PH} {l : List α} {cs : List HV} (h : PH.le F G) (hr : LR rel sz F l cs) : LR rel sz G l cs := by
  refine ⟨hr.1, fun i x hx => ?_⟩
  obtain ⟨r, g1, g2⟩ := hr.2 i x hx
  exact ⟨r, g1, OkR.mono h g2⟩
instance : OkR rI 1 := ⟨fun _ h => h, fun h => by rw [h]; rfl, fun h => by rw [h]; rfl⟩
instance {k : IntKind} : OkR (rK k) 1 := ⟨fun _ h => h, fun h => by rw [h]; rfl, fun h => by rw [h]; rfl⟩
instance : OkR rB 1 := ⟨fun _ h => h, fun h => by rw [h]; rfl, fun h => by rw [h]; rfl⟩
instance : OkR rU 0 := ⟨fun _ h => h, fun h => by rw [h]; rfl, fun h => by rw [h]; rfl⟩
instance {α β : Type} {a : Rel α} {b : Rel β} {m n : Nat} [OkR a m] [OkR b n] : OkR (rP a b) (m + n) where
  mono h := fun ⟨r1, r2, e, g1, g2⟩ => ⟨r1, r2, e, OkR.mono h g1, OkR.mono h g2⟩
  len := fun ⟨r1, r2, e, g1, g2⟩ => by rw [e, List.length_append, OkR.len g1, OkR.len g2]
  one := fun ⟨r1, r2, e, g1, g2⟩ => by rw [e, List.all_append, OkR.one g1, OkR.one g2]; rfl
instance {α : Type} {a : Rel α} {m : Nat} [OkR a m] : OkR (rL a m) 1 where
  mono h := fun ⟨p, c, e, g⟩ => ⟨p, c, e, g.mono h⟩
  len := fun ⟨p, c, e, g⟩ => by rw [e]; rfl
  one := fun ⟨p, c, e, g⟩ => by rw [e]; rfl
instance : OkR (rP rI rI) 2 := inferInstanceAs (OkR (rP rI rI) (1 + 1))
instance : OkR (rP rI (rP rI rI)) 3 := inferInstanceAs (OkR (rP rI (rP rI rI)) (1 + 2))
instance : OkR (rP rI (rP rI (rP rI rI))) 4 := inferInstanceAs (OkR (rP rI (rP rI (rP rI rI))) (1 + 3))
instance {α : Type} {a : Rel α} {m n : Nat} [OkR a m] : OkR (rA n a m) (n * m) where
  mono h := fun ⟨e, g, o⟩ => ⟨e, g.mono h, o⟩
  len := fun ⟨e, g, o⟩ => by rw [g.1, e]
  one := fun ⟨e, g, o⟩ => o
theorem LR.nil {α : Type} {rel : Rel α} {sz : Nat} {F : PH} : LR rel sz F [] [] := ⟨by simp, fun i x h => by simp at h⟩
theorem takeN_all : ∀ l : List HV, takeN l.length l = some l
  | [] => rfl
  | v :: l => by show (takeN l.length l).map _ = _; rw [takeN_all l]; rfl
theorem takeN_app' : ∀ (a b : List HV), takeN a.length (a ++ b) = some a
  | [], _ => rfl
  | v :: l, b => by show (takeN l.length (l ++ b)).map _ = _; rw [takeN_app l b]; rfl
theorem LR.app {α : Type} {rel : Rel α} {sz : Nat} {F : PH} {l m : List α} {cs ds : List HV} (h : LR rel sz F l cs) (g : LR rel sz F m ds) : LR rel sz F (l ++ m) (cs ++ ds) := by
  refine ⟨by rw [List.length_append, List.length_append, h.1, g.1, Nat.add_mul], fun i x hx => ?_⟩
  by_cases e : i < l.length
  · rw [List.getElem?_append_left e] at hx
    obtain ⟨r, g1, g2⟩ := h.2 i x hx
    refine ⟨r, ?_, g2⟩
    have hle : i * sz ≤ cs.length := by rw [h.1]; exact Nat.mul_le_mul_right _ (by omega)
    rw [List.drop_append_of_le_length hle]
    exact takeN_more _ _ _ _ g1
  · rw [List.getElem?_append_right (by omega)] at hx
    obtain ⟨r, g1, g2⟩ := g.2 _ x hx
    refine ⟨r, ?_, g2⟩
    have e2 : i * sz = cs.length + (i - l.length) * sz := by rw [h.1, ← Nat.add_mul]; congr 1; omega
    rw [e2, ← List.drop_drop, List.drop_left]
    exact g1
theorem LR.one {α : Type} {rel : Rel α} {sz : Nat} [OkR rel sz] {F : PH} {x : α} {r : List HV} (h : rel F x r) : LR rel sz F [x] r := by
  refine ⟨by rw [OkR.len h]; simp, fun i y hy => ?_⟩
  cases i with
  | zero =>
    cases hy
    refine ⟨r, ?_, h⟩
    rw [Nat.zero_mul, List.drop_zero, ← OkR.len (rel := rel) h]
    exact takeN_all r
  | succ i => simp at hy
theorem LR.all1 {α : Type} {rel : Rel α} {sz : Nat} [OkR rel sz] {F : PH} : ∀ {l : List α} {cs : List HV}, LR rel sz F l cs → cs.all HV.one = true
  | [], cs, h => by
    have : cs = [] := List.length_eq_zero_iff.1 (by rw [h.1]; simp)
    rw [this]; rfl
  | x :: l, cs, h => by
    obtain ⟨r, g1, g2⟩ := h.2 0 x rfl
    rw [Nat.zero_mul, List.drop_zero] at g1
    have hl := h.1
    have e := OkR.len (rel := rel) g2
    have e2 : cs = r ++ cs.drop sz := by
      have : ∀ (n : Nat) (l r : List HV), takeN n l = some r → l = r ++ l.drop n := fun n => by
        induction n with
        | zero => intro l r h; cases h; rfl
        | succ n ih =>
          intro l r h
          cases l with
          | nil => cases h
          | cons v l =>
            unfold takeN at h
            cases e : takeN n l with
            | none => rw [e] at h; cases h
            | some q => rw [e] at h; cases h; show v :: l = v :: (q ++ l.drop n); rw [← ih l q e]
      exact this _ _ _ g1
    have h2 : LR rel sz F l (cs.drop sz) := by
      refine ⟨by rw [List.length_drop, hl, List.length_cons, Nat.add_mul]; omega, fun i y hy => ?_⟩
      obtain ⟨q, q1, q2⟩ := h.2 (i + 1) y hy
      refine ⟨q, ?_, q2⟩
      rw [List.drop_drop, show sz + i * sz = (i + 1) * sz by rw [Nat.add_mul]; omega]
      exact q1
    rw [e2, List.all_append, OkR.one g2, LR.all1 h2]
    rfl
/-! what is owned -/
inductive LE where
  | bx (b : Nat) (cs : List HV)
  | ls (o : Option Nat) (c : Nat) (cs : List HV) (sz : Nat)
  | any (b : Nat) (x : HBlk)
  | mks (ds : List Nat)
def LE.os : LE → List Nat
  | .bx b _ => [b]
  | .ls o _ _ _ => o.toList
  | .any b _ => [b]
  | .mks ds => ds
theorem os_bx {b c : Nat} {cs : List HV} (h : c ∈ (LE.bx b cs).os) : c = b := List.mem_singleton.1 h
theorem os_any {b c : Nat} {x : HBlk} (h : c ∈ (LE.any b x).os) : c = b := List.mem_singleton.1 h
theorem os_ls {o : Option Nat} {b c k : Nat} {cs : List HV} (h : b ∈ (LE.ls o c cs k).os) : o = some b := by
  cases o with
  | none => cases h
  | some d => rw [List.mem_singleton.1 h]
def LE.ok (n0 nx : Nat) (h : Tr HBlk) : LE → Prop
  | .bx b cs => n0 ≤ b ∧ b < nx ∧ h.get b = some (.cells cs .exact)
  | .ls none c cs sz => cs = [] ∧ c = 0
  | .ls (some b) c cs sz => n0 ≤ b ∧ b < nx ∧ ((h.get b = some (.cells cs (.opn sz)) ∧ cs.length = c * sz) ∨ ∃ rest, h.get b = some (.cells (cs ++ rest) .exact) ∧ (cs ++ rest).length = c * sz)
  | .any b x => n0 ≤ b ∧ b < nx ∧ h.get b = some x
  | .mks ds => ds.Nodup ∧ ∀ b ∈ ds, n0 ≤ b ∧ b < nx ∧ h.get b = some .marks
theorem LE.ok_same {n0 nx n' : Nat} {h h' : Tr HBlk} {e : LE} (hn : nx ≤ n') (hs : ∀ b, b ∈ e.os → h'.get b = h.get b) (ho : e.ok n0 nx h) : e.ok n0 n' h' := by
  match e, ho with
  | .bx b cs, ⟨a, b', c⟩ => exact ⟨a, by omega, by rw [hs b (List.mem_singleton.2 rfl)]; exact c⟩
  | .ls none c cs sz, ho => exact ho
  | .ls (some b) c cs sz, ⟨a, b', ho⟩ => exact ⟨a, by omega, by rw [hs b (List.mem_singleton.2 rfl)]; exact ho⟩
  | .any b x, ⟨a, b', c⟩ => exact ⟨a, by omega, by rw [hs b (List.mem_singleton.2 rfl)]; exact c⟩
  | .mks ds, ⟨a, c⟩ => exact ⟨a, fun b hb => by obtain ⟨q1, q2, q3⟩ := c b hb; exact ⟨q1, by omega, by rw [hs b hb]; exact q3⟩⟩
theorem LE.ok_bd {n0 nx : Nat} {h : Tr HBlk} {e : LE} (ho : e.ok n0 nx h) {b : Nat} (hb : b ∈ e.os) : n0 ≤ b ∧ b < nx := by
  match e, ho with
  | .bx b cs, ⟨a, b', c⟩ => rw [os_bx hb]; exact ⟨a, b'⟩
  | .ls none c cs sz, ho => cases hb
  | .ls (some b) c cs sz, ⟨a, b', ho⟩ => rw [← Option.some.inj (os_ls hb)]; exact ⟨a, b'⟩
  | .any b x, ⟨a, b', c⟩ => rw [os_any hb]; exact ⟨a, b'⟩
  | .mks ds, ⟨a, c⟩ => obtain ⟨q1, q2, _⟩ := c b hb; exact ⟨q1, q2⟩
structure St (n0 : Nat) (h0 : Tr HBlk) (F0 F : PH) (h : Tr HBlk) (nx : Nat) (L : List LE) : Prop where
  ext : Ext h0 n0 h nx
  sub : F.sub h
  le : PH.le F0 F
  lo : ∀ b, b < n0 → F b = F0 b
  off : ∀ e ∈ L, ∀ b, b ∈ e.os → F b = none
  own : ∀ e ∈ L, e.ok n0 nx h
  dist : L.Pairwise fun e e' => ∀ b, b ∈ e.os → b ∉ e'.os
section
variable {n0 nx : Nat} {h0 h : Tr HBlk} {F0 F : PH} {L : List LE}
theorem St.start (hd : D h0 n0) (hs : F0.sub h0) : St n0 h0 F0 F0 h0 n0 [] := ⟨Ext.refl hd, hs, PH.le.refl _, fun _ _ => rfl, (fun e he => by cases he), (fun e he => by cases he), List.Pairwise.nil⟩
theorem St.d (st : St n0 h0 F0 F h nx L) : D h nx := st.ext.d
theorem St.dom (st : St n0 h0 F0 F h nx L) {b : Nat} {x : HBlk} (hb : F b = some x) : b < nx := by
  refine Nat.not_le.1 fun hle => ?_
  have := st.sub b x hb
  have hd := st.ext.d
  unfold D at hd
  rw [hd b hle] at this
  cases this
theorem St.up (st : St n0 h0 F0 F h nx L) {n' : Nat} (hn : nx ≤ n') : St n0 h0 F0 F h n' L :=
  ⟨st.ext.up hn, st.sub, st.le, st.lo, st.off, fun e he => LE.ok_same hn (fun _ _ => rfl) (st.own e he), st.dist⟩
/-- Behind something that has left all as it was. -/
theorem St.call (st : St n0 h0 F0 F h nx L) {h' : Tr HBlk} {n' : Nat} {F' : PH} (e : Ext h nx h' n') (hle : PH.le F F') (hlo : ∀ b, b < nx → F' b = F b) (hs : F'.sub h') : St n0 h0 F0 F' h' n' L := by
  have hn := st.ext.le
  refine ⟨st.ext.trans e, hs, st.le.trans hle, fun b hb => by rw [hlo b (by omega)]; exact st.lo b hb, fun x hx b hb => ?_, fun x hx => LE.ok_same e.le (fun b hb => e.same b (LE.ok_bd (st.own x hx) hb).2) (st.own x hx), st.dist⟩
  rw [hlo b (LE.ok_bd (st.own x hx) hb).2]
  exact st.off x hx b hb
/-- Behind something that has written below. -/
theorem St.ext1 (st : St n0 h0 F0 F h nx L) {h' : Tr HBlk} {n' : Nat} (e : Ext h nx h' n') : St n0 h0 F0 F h' n' L :=
  st.call e (PH.le.refl _) (fun _ _ => rfl) fun b x hb => by rw [e.same b (st.dom hb)]; exact st.sub b x hb
theorem St.push (st : St n0 h0 F0 F h nx L) {h' : Tr HBlk} {n' b : Nat} {e : LE} (x : Ext h nx h' n') (hb : ∀ c, c ∈ e.os → nx ≤ c ∧ c < n') (ho : e.ok n0 n' h') : St n0 h0 F0 F h' n' (L ++ [e]) := by
  have s1 := st.ext1 x
  refine ⟨s1.ext, s1.sub, s1.le, s1.lo, fun y hy c hc => ?_, fun y hy => ?_, ?_⟩
  · rcases List.mem_append.1 hy with h1 | h1
    · exact s1.off y h1 c hc
    · rw [List.mem_singleton.1 h1] at hc
      cases e2 : F c with
      | none => rfl
      | some z => have := st.dom e2; have := hb c hc; omega
  · rcases List.mem_append.1 hy with h1 | h1
    · exact s1.own y h1
    · rw [List.mem_singleton.1 h1]; exact ho
  · refine List.pairwise_append.2 ⟨s1.dist, List.pairwise_singleton .., fun y hy z hz c hc => ?_⟩
    rw [List.mem_singleton.1 hz]
    intro h2
    have := (LE.ok_bd (st.own y hy) hc).2
    have := hb c h2
    omega
theorem St.alloc (st : St n0 h0 F0 F h nx L) (cs : List HV) : St n0 h0 F0 F (h.set nx (some (.cells cs .exact))) (nx + 1) (L ++ [.bx nx cs]) := by
  have hn := st.ext.le
  exact st.push (b := nx) (Ext.set st.d (by omega) (by omega) (by omega)) (fun c hc => by rw [os_bx hc]; omega) ⟨by omega, by omega, get_same _ _ _⟩
theorem St.allocL (st : St n0 h0 F0 F h nx L) {cs rest : List HV} {c sz : Nat} (hl : (cs ++ rest).length = c * sz) : St n0 h0 F0 F (h.set nx (some (.cells (cs ++ rest) .exact))) (nx + 1) (L ++ [.ls (some nx) c cs sz]) := by
  have hn := st.ext.le
  exact st.push (b := nx) (Ext.set st.d (by omega) (by omega) (by omega)) (fun c hc => by rw [← Option.some.inj (os_ls hc)]; omega) ⟨by omega, by omega, .inr ⟨rest, get_same _ _ _, hl⟩⟩
theorem St.nilL (st : St n0 h0 F0 F h nx L) (sz : Nat) : St n0 h0 F0 F h nx (L ++ [.ls none 0 [] sz]) :=
  st.push (b := 0) (Ext.refl st.d) (fun c hc => by cases hc) ⟨rfl, rfl⟩
/-- One that is owned becomes another one, at a place that nobody knows. -/
theorem St.swap (st : St n0 h0 F0 F h nx L) {i : Nat} {e e' : LE} (hi : L[i]? = some e) {h' : Tr HBlk} {n' : Nat} (hn : nx ≤ n') (hd : D h' n') (hs : ∀ b, b < nx → b ∉ e.os → h'.get b = h.get b)
    (hb : ∀ c, c ∈ e'.os → c ∈ e.os ∨ (nx ≤ c ∧ c < n')) (ho : e'.ok n0 n' h') : St n0 h0 F0 F h' n' (L.set i e') := by
  have hne := st.ext.le
  have hmem : e ∈ L := List.mem_of_getElem? hi
  have hil : i < L.length := by
    rcases Nat.lt_or_ge i L.length with g | g
    · exact g
    · rw [List.getElem?_eq_none g] at hi; cases hi
  have hie : L[i] = e := by rw [List.getElem?_eq_getElem hil] at hi; exact Option.some.inj hi
  have pw := List.pairwise_iff_getElem.1 st.dist
  have ne : ∀ j (hj : j < L.length), j ≠ i → ∀ c, c ∈ L[j].os → c ∉ e.os := fun j hj hji c hc h2 => by
    rcases Nat.lt_or_gt_of_ne hji with g | g
    · exact pw j i hj hil g c hc (by rw [hie]; exact h2)
    · exact pw i j hil hj g c (by rw [hie]; exact h2) hc
  have ox : ∀ j (hj : j < L.length), j ≠ i → ∀ c, c ∈ L[j].os → c ∉ e'.os := fun j hj hji c hc h2 => by
    rcases hb c h2 with g | g
    · exact ne j hj hji c hc g
    · have := (LE.ok_bd (st.own _ (List.getElem_mem hj)) hc).2; omega
  refine ⟨⟨by omega, hd, fun b hb2 => ?_⟩, fun b x hx => ?_, st.le, st.lo, fun y hy c hc => ?_, fun y hy => ?_, ?_⟩
  · rw [hs b (by omega) fun h2 => by have := (LE.ok_bd (st.own e hmem) h2).1; omega]
    exact st.ext.same b hb2
  · rw [hs b (st.dom hx) fun h2 => by rw [st.off e hmem b h2] at hx; cases hx]
    exact st.sub b x hx
  · obtain ⟨j, hj, rfl⟩ := List.getElem_of_mem hy
    rw [List.length_set] at hj
    rw [List.getElem_set] at hc
    by_cases hji : i = j
    · rw [if_pos hji] at hc
      rcases hb c hc with g | g
      · exact st.off e hmem c g
      · cases e2 : F c with
        | none => rfl
        | some z => have := st.dom e2; omega
    · rw [if_neg hji] at hc
      exact st.off _ (List.getElem_mem hj) c hc
  · obtain ⟨j, hj, rfl⟩ := List.getElem_of_mem hy
    rw [List.length_set] at hj
    rw [List.getElem_set]
    by_cases hji : i = j
    · rw [if_pos hji]; exact ho
    · rw [if_neg hji]
      exact LE.ok_same hn (fun b hb2 => hs b (LE.ok_bd (st.own _ (List.getElem_mem hj)) hb2).2 (ne j hj (fun e => hji e.symm) b hb2)) (st.own _ (List.getElem_mem hj))
  · refine List.pairwise_iff_getElem.2 fun j k hj hk hjk c hc => ?_
    rw [List.length_set] at hj hk
    rw [List.getElem_set] at hc ⊢
    by_cases hji : i = j
    · rw [if_pos hji] at hc
      rw [if_neg (by omega)]
      exact fun h2 => ox k hk (by omega) c h2 hc
    · rw [if_neg hji] at hc
      by_cases hki : i = k
      · rw [if_pos hki]; exact ox j hj (fun e => hji e.symm) c hc
      · rw [if_neg hki]; exact pw j k hj hk hjk c hc
theorem St.at (st : St n0 h0 F0 F h nx L) {i : Nat} {e : LE} (hi : L[i]? = some e) : e.ok n0 nx h := st.own e (List.mem_of_getElem? hi)
theorem St.store (st : St n0 h0 F0 F h nx L) (i : Nat) {b : Nat} {cs : List HV} (hi : L[i]? = some (.bx b cs)) (cs' : List HV) : St n0 h0 F0 F (h.set b (some (.cells cs' .exact))) nx (L.set i (.bx b cs')) := by
  obtain ⟨h1, h2, h3⟩ := st.at hi
  exact st.swap hi (Nat.le_refl _) (st.d.upd h2) (fun c hc hne => get_other _ _ fun e => hne (List.mem_singleton.2 e)) (fun c hc => .inl hc) ⟨h1, h2, get_same _ _ _⟩
/-- Less is known to be owned. -/
theorem St.drop (st : St n0 h0 F0 F h nx L) {M : List LE} (hs : M.Sublist L) : St n0 h0 F0 F h nx M :=
  ⟨st.ext, st.sub, st.le, st.lo, fun e he => st.off e (hs.mem he), fun e he => st.own e (hs.mem he), st.dist.sublist hs⟩
def slv (o : Option Nat) (n c : Nat) : HV := .slice (o.map fun b => (b, 0)) n c
theorem ls_le {o : Option Nat} {c k sz : Nat} {cs : List HV} (hz : 0 < sz) (ho : LE.ok n0 nx h (.ls o c cs sz)) (hk : cs.length = k * sz) : k ≤ c := by
  match o, ho with
  | none, ⟨h1, h2⟩ =>
    subst h1
    have : k * sz = 0 := hk.symm
    rcases Nat.mul_eq_zero.1 this with e | e <;> omega
  | some b, ⟨h1, h2, h3⟩ =>
    rcases h3 with ⟨g1, g2⟩ | ⟨rest, g1, g2⟩
    · exact Nat.le_of_mul_le_mul_right (by omega) hz
    · rw [List.length_append] at g2
      exact Nat.le_of_mul_le_mul_right (by omega) hz
/-- A list that is owned, for whoever reads it. -/
theorem LE.row {α : Type} {rel : Rel α} {sz c : Nat} {o : Option Nat} {cs : List HV} {l : List α} {G : PH} (ho : LE.ok n0 nx h (.ls o c cs sz)) (hr : LR rel sz F l cs) [OkR rel sz] (hz : 0 < sz) (hle : PH.le F G) (hG : ∀ b, o = some b → G b = h.get b) : RowF rel sz G (o.map fun b => (b, 0)) c l := ⟨ls_le hz ho hr.1, fun hne => by
  match o, ho with
  | none, ⟨h1, h2⟩ =>
    subst h1
    obtain ⟨x, m, rfl⟩ : ∃ x m, l = x :: m := by cases l with | nil => exact absurd rfl hne | cons x m => exact ⟨x, m, rfl⟩
    obtain ⟨r, g1, g2⟩ := hr.2 0 x rfl
    have := hr.1
    simp only [List.length_nil, List.length_cons] at this
    have h3 : (m.length + 1) * sz = 0 := this.symm
    rw [Nat.add_mul] at h3
    omega
  | some b, ⟨h1, h2, h3⟩ =>
    have hl := hr.1
    rcases h3 with ⟨g1, g2⟩ | ⟨rest, g1, g2⟩
    · exact ⟨b, 0, cs, _, rfl, by rw [hG b rfl]; exact g1, fun i x hx => by
        obtain ⟨r, q1, q2⟩ := hr.2 i x hx
        exact ⟨r, by rw [Nat.zero_add]; exact q1, OkR.mono hle q2⟩⟩
    · exact ⟨b, 0, cs ++ rest, _, rfl, by rw [hG b rfl]; exact g1, fun i x hx => by
        obtain ⟨r, q1, q2⟩ := hr.2 i x hx
        refine ⟨r, ?_, OkR.mono hle q2⟩
        rw [Nat.zero_add]
        have hi : i < l.length := by
          rcases Nat.lt_or_ge i l.length with g | g
          · exact g
          · rw [List.getElem?_eq_none g] at hx; cases hx
        rw [List.drop_append_of_le_length (by rw [hl]; exact Nat.mul_le_mul_right _ (by omega))]
        exact takeN_more _ _ _ _ q1⟩⟩
end
end Go.Hx.V

/- Appending to what is owned; freezing; regions that draw. -/
namespace Go.Hx.V
set_option linter.unusedVariables false
open Go.Hx
theorem ovw : ∀ (cs rest row : List HV), row.length ≤ rest.length → overwrite (cs ++ rest) cs.length row = some (cs ++ row ++ rest.drop row.length)
  | [], rest, [], _ => by cases rest <;> rfl
  | [], [], v :: row, h => by simp at h
  | [], x :: rest, v :: row, h => by
    show (overwrite rest 0 row).map _ = _
    have := ovw [] rest row (by simpa using h)
    simp only [List.nil_append, List.length_nil] at this
    rw [this]; rfl
  | c :: cs, rest, row, h => by
    cases row with
    | nil =>
      have : ∀ (l : List HV) (o : Nat), overwrite l o [] = some l := fun l o => by cases l <;> cases o <;> rfl
      rw [this]; simp
    | cons v row =>
      show (overwrite (cs ++ rest) cs.length (v :: row)).map _ = _
      rw [ovw cs rest (v :: row) h]; rfl
section
variable {n0 nx : Nat} {h0 h : Tr HBlk} {F0 F : PH} {L : List LE}
/-- Something is appended to a list that is owned. -/
theorem St.append (st : St n0 h0 F0 F h nx L) (i : Nat) {o : Option Nat} {c k sz n cx bytes fl : Nat} {cs csx row : List HV} {kx : BK} {bx ox : Nat} (hi : L[i]? = some (.ls o c cs sz)) (hk : cs.length = k * sz) (hz : 0 < sz) (hfl : fl ≤ n0)
    (hg : h.get bx = some (.cells csx kx)) (ht : takeN (n * sz) (csx.drop ox) = some row) (h1 : row.all HV.one = true) (hn : 0 < n) (hb : (k + n) * bytes ≤ 35184372088832) (hb2 : k + n ≤ 35184372088832) :
    ∃ o' c' h' n', appendH fl ⟨h, nx⟩ sz bytes (slv o k c) (.slice (some (bx, ox)) n cx) = some (slv o' (k + n) c', ⟨h', n'⟩) ∧ St n0 h0 F0 F h' n' (L.set i (.ls o' c' (cs ++ row) sz)) := by
  have hne := st.ext.le
  have hrl : row.length = n * sz := (takeN_get _ _ _ ht).1
  have ho := st.at hi
  have hkc := ls_le hz ho hk
  match o, ho, hi with
  | none, ⟨e1, e2⟩, hi =>
    subst e1
    have hk0 : k = 0 := by
      have : k * sz = 0 := hk.symm
      rcases Nat.mul_eq_zero.1 this with e | e <;> omega
    subst hk0; subst e2
    rw [Nat.zero_add] at hb hb2
    refine ⟨some nx, n, _, _, ?_, st.swap hi (h' := h.set nx (some (.cells row (.opn sz)))) (n' := nx + 1) (by omega) (st.d.put (by omega) (by omega)) (fun b hb3 _ => get_other _ _ (by omega)) (fun d hd => by rw [← Option.some.inj (os_ls hd)]; exact .inr ⟨by omega, by omega⟩) ⟨by omega, by omega, .inl ⟨get_same _ _ _, by simpa using hrl⟩⟩⟩
    rw [show 0 + n = n by omega]
    exact app_nil hg ht hn hb hb2 hz
  | some b, ⟨b1, b2, b3⟩, hi =>
    rcases b3 with ⟨g1, g2⟩ | ⟨rest, g1, g2⟩
    · have hck : c = k := Nat.eq_of_mul_eq_mul_right hz (by omega)
      subst hck
      refine ⟨some nx, c + n, _, _, app_opn hg ht g1 g2 (by omega) rfl h1 hn hb hb2 hz, st.swap hi (by omega) (st.d.upd b2 |>.put (by omega) (by omega)) (fun d hd hne => ?_) (fun d hd => by rw [← Option.some.inj (os_ls hd)]; exact .inr ⟨by omega, by omega⟩) ⟨by omega, by omega, .inl ⟨get_same _ _ _, by rw [List.length_append, g2, hrl, Nat.add_mul]⟩⟩⟩
      rw [get_other _ _ (by omega), get_other _ _ (fun e => hne (List.mem_singleton.2 e))]
    · by_cases hfit : k + n ≤ c
      · have hrest : row.length ≤ rest.length := by
          rw [List.length_append] at g2
          have := Nat.mul_le_mul_right sz hfit
          rw [Nat.add_mul] at this
          omega
        have e : 0 + k * sz = cs.length := by omega
        refine ⟨some b, c, _, _, app_in hg ht g1 (by trivial) (by omega) h1 (fun e => ?_) hfit (by rw [e]; exact ovw cs rest row hrest), st.swap hi (Nat.le_refl _) (st.d.upd b2) (fun d hd hne => get_other _ _ fun e => hne (List.mem_singleton.2 e)) (fun d hd => .inl hd) ⟨b1, b2, .inr ⟨rest.drop row.length, get_same _ _ _, ?_⟩⟩⟩
        · rw [e] at hrl
          have : n * sz = 0 := hrl.symm
          rcases Nat.mul_eq_zero.1 this with e | e <;> omega
        · simp only [List.length_append, List.length_drop] at g2 ⊢; omega
      · refine ⟨some nx, k + n, _, _, app_exact hg ht g1 (old := cs) ?_ (by omega) hb hb2 hz, st.swap hi (h' := h.set nx (some (.cells (cs ++ row) (.opn sz)))) (n' := nx + 1) (by omega) (st.d.put (by omega) (by omega)) (fun b hb3 _ => get_other _ _ (by omega)) (fun d hd => by rw [← Option.some.inj (os_ls hd)]; exact .inr ⟨by omega, by omega⟩) ⟨by omega, by omega, .inl ⟨get_same _ _ _, by rw [List.length_append, hk, hrl, Nat.add_mul]⟩⟩⟩
        rw [List.drop_zero, ← hk]
        exact takeN_app' _ _
theorem St.append0 (st : St n0 h0 F0 F h nx L) {i : Nat} {o p : Option Nat} {c k sz cx bytes fl : Nat} {px : Option (Nat × Nat)} {cs : List HV} (hi : L[i]? = some (.ls o c cs sz)) (hk : cs.length = k * sz) (hz : 0 < sz) :
    appendH fl ⟨h, nx⟩ sz bytes (slv o k c) (.slice px 0 cx) = some (slv o k c, ⟨h, nx⟩) := app_none (ls_le hz (st.at hi) hk)
/-- What is owned is frozen. -/
theorem St.freeze (st : St n0 h0 F0 F h nx L) (i : Nat) {α : Type} {rel : Rel α} {o : Option Nat} {c sz : Nat} {cs : List HV} {l : List α} [OkR rel sz] (hi : L[i]? = some (.ls o c cs sz)) (hr : LR rel sz F l cs) (hz : 0 < sz) :
    ∃ F', PH.le F F' ∧ St n0 h0 F0 F' h nx (L.eraseIdx i) ∧ RowF rel sz F' (o.map fun b => (b, 0)) c l := by
  have ho := st.at hi
  have hil : i < L.length := by
    rcases Nat.lt_or_ge i L.length with g | g
    · exact g
    · rw [List.getElem?_eq_none g] at hi; cases hi
  have hie : L[i] = .ls o c cs sz := by rw [List.getElem?_eq_getElem hil] at hi; exact Option.some.inj hi
  cases o with
  | none => exact ⟨F, PH.le.refl _, st.drop (List.eraseIdx_sublist ..), LE.row ho hr hz (PH.le.refl _) (fun b hb => by cases hb)⟩
  | some b =>
    have hF : F b = none := st.off _ (List.mem_of_getElem? hi) b (List.mem_singleton.2 rfl)
    have hle : PH.le F (fun d => if d = b then h.get b else F d) := fun d x hd => by
      show (if d = b then h.get b else F d) = _
      rw [if_neg (fun e => by rw [e, hF] at hd; cases hd)]; exact hd
    have s2 := st.drop (List.eraseIdx_sublist L i)
    obtain ⟨b1, b2, _⟩ := ho
    refine ⟨fun d => if d = b then h.get b else F d, hle, ⟨s2.ext, fun d x hd => ?_, s2.le.trans hle, fun d hd => ?_, fun e he d hd => ?_, s2.own, s2.dist⟩, LE.row (st.at hi) hr hz hle fun d hd => by cases hd; exact if_pos rfl⟩
    · have hd' : (if d = b then h.get b else F d) = some x := hd
      by_cases e : d = b
      · rw [if_pos e] at hd'; rw [e]; exact hd'
      · rw [if_neg e] at hd'; exact st.sub d x hd'
    · show (if d = b then h.get b else F d) = _
      rw [if_neg (by omega)]; exact st.lo d hd
    · show (if d = b then h.get b else F d) = _
      have hne : d ≠ b := fun e2 => by
        subst e2
        have pw := List.pairwise_iff_getElem.1 st.dist
        obtain ⟨j, hj, hje⟩ := List.getElem_of_mem he
        rw [List.length_eraseIdx, if_pos hil] at hj
        rw [List.getElem_eraseIdx] at hje
        by_cases g : j < i
        · rw [dif_pos g] at hje
          exact pw j i (by omega) hil g d (by rw [hje]; exact hd) (by rw [hie]; exact List.mem_singleton.2 rfl)
        · rw [dif_neg g] at hje
          exact pw i (j + 1) hil (by omega) (by omega) d (by rw [hie]; exact List.mem_singleton.2 rfl) (by rw [hje]; exact hd)
      rw [if_neg hne]
      exact s2.off e he d hd
/-- All that lies there, for a call that hands back plain values. -/
noncomputable def all (h : Tr HBlk) : PH := fun b => h.get b
theorem St.all_le (st : St n0 h0 F0 F h nx L) : PH.le F (all h) := st.sub
theorem all_sub (h : Tr HBlk) : (all h).sub h := fun _ _ h => h
theorem St.row_all (st : St n0 h0 F0 F h nx L) {α : Type} {rel : Rel α} {o : Option Nat} {c sz i : Nat} {cs : List HV} {l : List α} [OkR rel sz] (hi : L[i]? = some (.ls o c cs sz)) (hr : LR rel sz F l cs) (hz : 0 < sz) : RowF rel sz (all h) (o.map fun b => (b, 0)) c l :=
  LE.row (st.at hi) hr hz st.all_le fun b hb => rfl
end
/-! regions that draw -/
structure Dw (n1 nx : Nat) (h1 : Tr HBlk) (done : List (Nat × List (Nat × HBlk))) (V : List (Nat × PH)) : Prop where
  le : n1 ≤ nx
  bd : ∀ e ∈ V, ∀ b x, e.2 b = some x → n1 ≤ b ∧ b < nx
  vis : ∀ (f : Nat → Bool) g, ∀ e ∈ V, f e.1 = true → ∀ b x, e.2 b = some x → (mf f g done).get b = some x
  out : ∀ (f : Nat → Bool) g b, b < n1 ∨ nx ≤ b → (mf f g done).get b = g.get b
  hid : ∀ (f : Nat → Bool) g, ∀ e ∈ V, f e.1 = false → ∀ b x, e.2 b = some x → (mf f g done).get b = g.get b
  dis : V.Pairwise fun e e' => ∀ b x, e.2 b = some x → e'.2 b = none
  idx : ∀ p ∈ done, ∃ e ∈ V, e.1 = p.1
/-- What an operation of such a region sees. -/
structure Vw (n1 nx : Nat) (h1 hm : Tr HBlk) (A : List Nat) (V : List (Nat × PH)) : Prop where
  le : n1 ≤ nx
  low : ∀ b, b < n1 → hm.get b = h1.get b
  d : D hm nx
  vis : ∀ e ∈ V, A.contains e.1 = true → PH.sub e.2 hm
section
variable {lp : Nat → Option LFunc} {fl : Nat} {rd : Option Nat} {Q : HExit → HAct → HS → Prop} {N : HAct → HS → Prop} {a : HAct} {h1 hm : Tr HBlk} {nx s n1 i : Nat} {os : List LOper} {done : List (Nat × List (Nat × HBlk))} {V : List (Nat × PH)}
theorem Dw.start : Dw n1 n1 h1 [] [] := ⟨Nat.le_refl _, (fun e he => by cases he), (fun f g e he => by cases he), (fun f g b hb => rfl), (fun f g e he => by cases he), List.Pairwise.nil, (fun p hp => by cases hp)⟩
theorem Dw.d (dw : Dw n1 nx h1 done V) (hd : D h1 n1) (f : Nat → Bool) : D (mf f h1 done) nx := by
  have hle := dw.le
  unfold D at hd ⊢
  exact fun b hb => by rw [dw.out f h1 b (.inr hb)]; exact hd b (by omega)
theorem Dw.view (dw : Dw n1 nx h1 done V) (hd : D h1 n1) (A : List Nat) : Vw n1 nx h1 (merge h1 (some A) done) A V := by
  rw [merge_mf]
  exact ⟨dw.le, fun b hb => dw.out _ _ b (.inl hb), dw.d hd _, fun e he hA b x hx => dw.vis _ _ e he hA b x hx⟩
theorem w_drawV {ops : List LOper} (hfl : fl ≤ nx) (hr : Dw nx nx h1 [] [] → DG lp fl s nx h1 ops 0 [] (Q .normal) a nx) : W lp fl rd (.draw s ops) Q a ⟨h1, nx⟩ := w_drawg hfl (hr Dw.start)
theorem y_step {o : LOper} (hd : D h1 n1) (dw : Dw n1 nx h1 done V) (hi : Nat.blt i s = true) (hw : o.anc.contains i = false) (hr : ∀ hm, Vw n1 nx h1 hm o.anc V → R lp (max fl nx) [o] (DX lp fl s n1 h1 os i done nx N) a ⟨hm, nx⟩) : DG lp fl s n1 h1 (o :: os) i done N a nx :=
  x_step hi hw rfl (hr _ (dw.view hd _))
theorem Dw.up (dw : Dw n1 nx h1 done V) {n' : Nat} (hn : nx ≤ n') : Dw n1 n' h1 done V := by
  have hle := dw.le
  exact ⟨by omega, fun e he b x hx => by have := dw.bd e he b x hx; omega, dw.vis, fun f g b hb => dw.out f g b (by omega), dw.hid, dw.dis, dw.idx⟩
/-- A new entry: what one operation has laid. -/
theorem Dw.put (dw : Dw n1 nx h1 done V) {n2 : Nat} {l : List (Nat × HBlk)} {G : PH} (hn : nx ≤ n2) (ho : ∀ g b, b < nx ∨ n2 ≤ b → (addAll g l).get b = g.get b) (hG : ∀ g b x, G b = some x → nx ≤ b ∧ b < n2 ∧ (addAll g l).get b = some x) : Dw n1 n2 h1 ((i, l) :: done) ((i, G) :: V) := by
  have hle := dw.le
  have ext : ∀ (f : Nat → Bool) g b, b < nx → (mf f (bif f i then addAll g l else g) done).get b = (mf f g done).get b := fun f g b hb => by
    cases f i with
    | false => rfl
    | true =>
      simp only [cond_true]
      -- by what the entries lay, or the base
      have key : ∀ (ds : List (Nat × List (Nat × HBlk))) (g1 g2 : Tr HBlk), g1.get b = g2.get b → (mf f g1 ds).get b = (mf f g2 ds).get b := fun ds => by
        induction ds with
        | nil => intro g1 g2 h; exact h
        | cons p ds ih =>
          intro g1 g2 h
          obtain ⟨j, m⟩ := p
          unfold mf
          refine ih _ _ ?_
          cases f j with
          | false => exact h
          | true =>
            simp only [cond_true]
            have : ∀ (m : List (Nat × HBlk)) (g1 g2 : Tr HBlk), g1.get b = g2.get b → (addAll g1 m).get b = (addAll g2 m).get b := fun m => by
              induction m with
              | nil => intro g1 g2 h; exact h
              | cons q m ih =>
                intro g1 g2 h
                obtain ⟨c, x⟩ := q
                rw [ad_cons, ad_cons]
                refine ih _ _ ?_
                rw [Tr.get_set, Tr.get_set, h]
            exact this m g1 g2 h
      exact key done _ _ (ho g b (.inl hb))
  have hdis : ∀ e ∈ V, ∀ b x, G b = some x → e.2 b = none := fun e he b x hx => by
    cases hy : e.2 b with
    | none => rfl
    | some y => have := dw.bd e he b y hy; have := hG .e b x hx; omega
  refine ⟨by omega, fun e he b x hx => ?_, fun f g e he hf b x hx => ?_, fun f g b hb => ?_, fun f g e he hf b x hx => ?_, List.pairwise_cons.2 ⟨hdis, dw.dis⟩, fun p hp => ?_⟩
  · rcases List.mem_cons.1 he with rfl | he
    · have := hG .e b x hx; omega
    · have := dw.bd e he b x hx; omega
  · show (mf f (bif f i then addAll g l else g) done).get b = _
    rcases List.mem_cons.1 he with rfl | he
    · have hf' : f i = true := hf
      rw [hf']
      simp only [cond_true]
      obtain ⟨g1, g2, g3⟩ := hG g b x hx
      rw [dw.out f _ b (.inr g1)]
      exact g3
    · exact dw.vis f _ e he hf b x hx
  · show (mf f (bif f i then addAll g l else g) done).get b = _
    rw [dw.out f _ b (by omega)]
    cases f i with
    | false => rfl
    | true => exact ho g b (by omega)
  · show (mf f (bif f i then addAll g l else g) done).get b = _
    rcases List.mem_cons.1 he with rfl | he
    · have hf' : f i = false := hf
      rw [hf']
      simp only [cond_false]
      obtain ⟨g1, g2, g3⟩ := hG g b x hx
      exact dw.out f _ b (.inr g1)
    · rw [dw.hid f _ e he hf b x hx]
      have := dw.bd e he b x hx
      cases f i with
      | false => rfl
      | true => exact ho g b (.inl (by omega))
  · rcases List.mem_cons.1 hp with rfl | hp
    · exact ⟨_, List.mem_cons_self .., rfl⟩
    · obtain ⟨e, he, h⟩ := dw.idx p hp
      exact ⟨e, List.mem_cons_of_mem _ he, h⟩
def one (b : Nat) (x : HBlk) : PH := fun c => if c = b then some x else none
theorem y_same (hr : DG lp fl s n1 h1 os (i + 1) done N a nx) : DX lp fl s n1 h1 os i done nx N a ⟨hm, nx⟩ := x_same hr
theorem y_call {n' : Nat} (dw : Dw n1 nx h1 done V) (hn : nx ≤ n') (hd : D hm nx) (hr : Dw n1 n' h1 done V → DG lp fl s n1 h1 os (i + 1) done N a n') : DX lp fl s n1 h1 os i done nx N a ⟨hm, n'⟩ := x_call hn hd (hr (dw.up hn))
theorem y_new {x : HBlk} (dw : Dw n1 nx h1 done V) (hr : ∀ done', Dw n1 (nx + 1) h1 done' ((i, one nx x) :: V) → DG lp fl s n1 h1 os (i + 1) done' N a (nx + 1)) : DX lp fl s n1 h1 os i done nx N a ⟨hm.set nx (some x), nx + 1⟩ := by
  refine x_new (hr _ (dw.put (by omega) (fun g b hb => ?_) fun g b y hy => ?_))
  · rw [ad_cons, ad_nil]; exact get_other _ _ (by omega)
  · have hy' : (if b = nx then some x else none) = some y := hy
    by_cases e : b = nx
    · rw [if_pos e] at hy'; cases hy'; subst e
      exact ⟨by omega, by omega, by rw [ad_cons, ad_nil, get_same]⟩
    · rw [if_neg e] at hy'; cases hy'
/-- The end of the part that is drawn. -/
theorem y_end (hd : D h1 n1) (dw : Dw n1 nx h1 done V) (hi : Nat.ble s i = true) (hr : ∀ h', Ext h1 n1 h' nx → (∀ e ∈ V, PH.sub e.2 h') → R lp fl os N a ⟨h', nx⟩) : DG lp fl s n1 h1 os i done N a nx := by
  refine g_end hi rfl (hr _ ⟨dw.le, ?_, fun b hb => ?_⟩ fun e he b x hx => ?_)
  · rw [merge_mf]; exact dw.d hd _
  · rw [merge_mf]; exact dw.out _ _ b (.inl hb)
  · rw [merge_mf]; exact dw.vis _ _ e he rfl b x hx
end
end Go.Hx.V

/- Rules of single steps, with what is held looked up by themselves. -/
namespace Go.Hx.V
set_option linter.unusedVariables false
open Go.Hx
noncomputable def lo (T : Tr HV) : Lo → HV
  | .t n => (T.get n).getD .undef
  | .c v => v
theorem ev_eq {nt : Nat} {T : Tr HV} {ds : List Nat} (x : Lo) : (HAct.mk nt T ds).ev x = lo T x := by cases x <;> rfl
theorem ev_c {T : Tr HV} {v : HV} : lo T (.c v) = v := rfl
theorem ev_t {T : Tr HV} {n : Nat} {v : HV} (h : T.get n = some v) : lo T (.t n) = v := by show (T.get n).getD .undef = v; rw [h]; rfl
theorem ge_h {T : Tr HV} {d : Nat} {v : Option HV} : (T.set d v).get d = v := by rw [Tr.get_set, if_pos rfl]
theorem ge_m {T : Tr HV} {d n : Nat} {x v : Option HV} (h : Nat.beq n d = false) (g : T.get n = v) : (T.set d x).get n = v := by
  rw [Tr.get_set, if_neg (fun e => by rw [e, Nat.beq_refl] at h; cases h)]; exact g
theorem ge_f {T : Tr HV} {n d1 d2 d3 d4 : Nat} {v x1 x2 x3 x4 : Option HV} (h : (Nat.beq n d1 || (Nat.beq n d2 || (Nat.beq n d3 || (Nat.beq n d4 || false)))) = false) (g : T.get n = v) : (((((T.set d4 x4).set d3 x3).set d2 x2).set d1 x1)).get n = v := by
  simp only [Bool.or_eq_false_iff] at h
  obtain ⟨h1, h2, h3, h4, -⟩ := h
  exact (ge_m h1 (ge_m h2 (ge_m h3 (ge_m h4 g))))
theorem ge_w {T : Tr HV} {n d1 d2 d3 d4 d5 d6 d7 d8 d9 d10 d11 d12 d13 d14 d15 d16 : Nat} {v x1 x2 x3 x4 x5 x6 x7 x8 x9 x10 x11 x12 x13 x14 x15 x16 : Option HV} (h : (Nat.beq n d1 || (Nat.beq n d2 || (Nat.beq n d3 || (Nat.beq n d4 || (Nat.beq n d5 || (Nat.beq n d6 || (Nat.beq n d7 || (Nat.beq n d8 || (Nat.beq n d9 || (Nat.beq n d10 || (Nat.beq n d11 || (Nat.beq n d12 || (Nat.beq n d13 || (Nat.beq n d14 || (Nat.beq n d15 || (Nat.beq n d16 || false)))))))))))))))) = false) (g : T.get n = v) : (((((((((((((((((T.set d16 x16).set d15 x15).set d14 x14).set d13 x13).set d12 x12).set d11 x11).set d10 x10).set d9 x9).set d8 x8).set d7 x7).set d6 x6).set d5 x5).set d4 x4).set d3 x3).set d2 x2).set d1 x1)).get n = v := by
  simp only [Bool.or_eq_false_iff] at h
  obtain ⟨h1, h2, h3, h4, h5, h6, h7, h8, h9, h10, h11, h12, h13, h14, h15, h16, -⟩ := h
  exact (ge_m h1 (ge_m h2 (ge_m h3 (ge_m h4 (ge_m h5 (ge_m h6 (ge_m h7 (ge_m h8 (ge_m h9 (ge_m h10 (ge_m h11 (ge_m h12 (ge_m h13 (ge_m h14 (ge_m h15 (ge_m h16 g))))))))))))))))
theorem gA {T : Tr HV} {n : Nat} {v : Option HV} (h : T.get n = v := by repeat first | exact ge_h | refine ge_w rfl ?_ | refine ge_f rfl ?_ | refine ge_m rfl ?_ | assumption) : T.get n = v := h
theorem put_eq {nt d : Nat} {T : Tr HV} {ds : List Nat} {v : HV} (hd : Nat.blt d nt = true) : (HAct.mk nt T ds).put (some d) v = ⟨nt, T.set d (some v), ds⟩ := by
  unfold HAct.put; simp only [hd, cond_true]
def rng (x : Int) : Prop := -9223372036854775808 ≤ x ∧ x < 9223372036854775808
instance (x : Int) : Decidable (rng x) := by unfold rng; infer_instance
/-! what a function comes to, as long as nothing fails -/
def ck {β : Type} (p : Prop) [Decidable p] (k : Option β) : Option β := if p then k else none
theorem ck_some {β : Type} {p : Prop} [Decidable p] {k : Option β} {r : β} (h : ck p k = some r) : p ∧ k = some r := by
  unfold ck at h; by_cases hp : p
  · rw [if_pos hp] at h; exact ⟨hp, h⟩
  · rw [if_neg hp] at h; cases h
theorem ck_pos {β : Type} {p : Prop} [Decidable p] {k : Option β} (h : p) : ck p k = k := if_pos h
def bnd {α β : Type} (x : Option α) (f : α → Option β) : Option β := x.bind f
theorem bnd_some {α β : Type} {x : Option α} {f : α → Option β} {r : β} (h : bnd x f = some r) : ∃ v, x = some v ∧ f v = some r := Option.bind_eq_some_iff.1 h
theorem bnd_ret {α β : Type} {x : α} {f : α → Option β} : bnd (some x) f = f x := rfl
theorem bif_t {β : Type} {b : Bool} {x y : Option β} {r : β} (hb : b = true) (h : (bif b then x else y) = some r) : x = some r := by subst hb; exact h
theorem bif_f {β : Type} {b : Bool} {x y : Option β} {r : β} (hb : b = false) (h : (bif b then x else y) = some r) : y = some r := by subst hb; exact h
/-- The element of a list at a number. -/
def ix {α β : Type} (l : List α) (j : Int) (k : α → Option β) : Option β := if 0 ≤ j then (match l[j.toNat]? with | some x => k x | none => none) else none
theorem ix_some {α β : Type} {l : List α} {j : Int} {k : α → Option β} {r : β} (h : ix l j k = some r) : ∃ (n : Nat) (x : α), j = n ∧ n < l.length ∧ l[n]? = some x ∧ k x = some r := by
  unfold ix at h
  by_cases hj : 0 ≤ j
  · rw [if_pos hj] at h
    cases e : l[j.toNat]? with
    | none => rw [e] at h; cases h
    | some x =>
      rw [e] at h
      refine ⟨j.toNat, x, (Int.toNat_of_nonneg hj).symm, ?_, e, h⟩
      rcases Nat.lt_or_ge j.toNat l.length with g | g
      · exact g
      · rw [List.getElem?_eq_none g] at e; cases e
  · rw [if_neg hj] at h; cases h
theorem ix_pos {α β : Type} {l : List α} {n : Nat} {x : α} {k : α → Option β} (h : l[n]? = some x) : ix l n k = k x := by
  unfold ix; rw [if_pos (by omega), Int.toNat_natCast, h]
def iter {α β : Type} (step : α → Option (α ⊕ β)) : Nat → α → Option β
  | 0, _ => none
  | n + 1, x => (step x).bind fun s => match s with
    | .inl x' => iter step n x'
    | .inr y => some y
theorem inj {α : Type} {x y : α} (h : some x = some y) : x = y := Option.some.inj h
section
variable {lp : Nat → Option LFunc} {fl : Nat} {rd : Option Nat} {Q : HExit → HAct → HS → Prop} {N : HAct → HS → Prop} {nt d : Nat} {T : Tr HV} {ds : List Nat} {σ : HS} {h : Tr HBlk} {nx : Nat} {os : List LOper} {anc : List Nat}
theorem v_go {op : LOp} {v : HV} {σ' : HS} (hop : opH lp (exec lp 0) fl op ⟨nt, T, ds⟩ σ = some (v, σ')) (hd : Nat.blt d nt = true) (hn : R lp fl os N ⟨nt, T.set d (some v), ds⟩ σ') : R lp fl (⟨some d, op, none, anc⟩ :: os) N ⟨nt, T, ds⟩ σ :=
  r_go hop (by rw [put_eq hd]; exact hn)
theorem v_move {x : Lo} {v : HV} (hn : R lp fl os N ⟨nt, T.set d (some v), ds⟩ σ) (hx : lo T x = v := by first | exact ev_c | (apply ev_t; repeat first | exact ge_h | refine ge_w rfl ?_ | refine ge_f rfl ?_ | refine ge_m rfl ?_ | assumption)) (hd : Nat.blt d nt = true := by rfl) : R lp fl (⟨some d, .move x, none, anc⟩ :: os) N ⟨nt, T, ds⟩ σ :=
  r_move ((ev_eq x).trans hx) (by rw [put_eq hd]; exact hn)
theorem v_fa {off b o : Nat} {x : Lo} (hn : R lp fl os N ⟨nt, T.set d (some (.ptr (some (b, o + off)))), ds⟩ σ) (hx : lo T x = .ptr (some (b, o)) := by first | exact ev_c | (apply ev_t; repeat first | exact ge_h | refine ge_w rfl ?_ | refine ge_f rfl ?_ | refine ge_m rfl ?_ | assumption)) (hd : Nat.blt d nt = true := by rfl) : R lp fl (⟨some d, .fieldAddr off x, none, anc⟩ :: os) N ⟨nt, T, ds⟩ σ :=
  r_fa ((ev_eq x).trans hx) (by rw [put_eq hd]; exact hn)
theorem v_ld1 {b o : Nat} {x : Lo} {cs : List HV} {k : BK} {v : HV} (hg : h.get b = some (.cells cs k)) (hv : cs[o]? = some v) (hn : R lp fl os N ⟨nt, T.set d (some v), ds⟩ ⟨h, nx⟩) (hx : lo T x = .ptr (some (b, o)) := by first | exact ev_c | (apply ev_t; repeat first | exact ge_h | refine ge_w rfl ?_ | refine ge_f rfl ?_ | refine ge_m rfl ?_ | assumption)) (hd : Nat.blt d nt = true := by rfl) : R lp fl (⟨some d, .load false 1 x, none, anc⟩ :: os) N ⟨nt, T, ds⟩ ⟨h, nx⟩ :=
  r_ld1 ((ev_eq x).trans hx) hg hv (by rw [put_eq hd]; exact hn)
theorem v_ldn {b o n : Nat} {x : Lo} {cs vs : List HV} {k : BK} (hg : h.get b = some (.cells cs k)) (hv : takeN n (cs.drop o) = some vs) (hn : R lp fl os N ⟨nt, T.set d (some (.agg vs)), ds⟩ ⟨h, nx⟩) (hx : lo T x = .ptr (some (b, o)) := by first | exact ev_c | (apply ev_t; repeat first | exact ge_h | refine ge_w rfl ?_ | refine ge_f rfl ?_ | refine ge_m rfl ?_ | assumption)) (hd : Nat.blt d nt = true := by rfl) : R lp fl (⟨some d, .load true n x, none, anc⟩ :: os) N ⟨nt, T, ds⟩ ⟨h, nx⟩ :=
  r_ldn ((ev_eq x).trans hx) hg hv (by rw [put_eq hd]; exact hn)
theorem v_add {x y : Lo} {m n : Int} (hk : rng (m + n)) (hn : R lp fl os N ⟨nt, T.set d (some (i64 (m + n))), ds⟩ σ) (hx : lo T x = i64 m := by first | exact ev_c | (apply ev_t; repeat first | exact ge_h | refine ge_w rfl ?_ | refine ge_f rfl ?_ | refine ge_m rfl ?_ | assumption)) (hy : lo T y = i64 n := by first | exact ev_c | (apply ev_t; repeat first | exact ge_h | refine ge_w rfl ?_ | refine ge_f rfl ?_ | refine ge_m rfl ?_ | assumption)) (hd : Nat.blt d nt = true := by rfl) : R lp fl (⟨some d, .bin .add x y, none, anc⟩ :: os) N ⟨nt, T, ds⟩ σ :=
  r_add ((ev_eq x).trans hx) ((ev_eq y).trans hy) hk.1 hk.2 (by rw [put_eq hd]; exact hn)
theorem v_sub {x y : Lo} {m n : Int} (hk : rng (m - n)) (hn : R lp fl os N ⟨nt, T.set d (some (i64 (m - n))), ds⟩ σ) (hx : lo T x = i64 m := by first | exact ev_c | (apply ev_t; repeat first | exact ge_h | refine ge_w rfl ?_ | refine ge_f rfl ?_ | refine ge_m rfl ?_ | assumption)) (hy : lo T y = i64 n := by first | exact ev_c | (apply ev_t; repeat first | exact ge_h | refine ge_w rfl ?_ | refine ge_f rfl ?_ | refine ge_m rfl ?_ | assumption)) (hd : Nat.blt d nt = true := by rfl) : R lp fl (⟨some d, .bin .sub x y, none, anc⟩ :: os) N ⟨nt, T, ds⟩ σ :=
  r_sub ((ev_eq x).trans hx) ((ev_eq y).trans hy) hk.1 hk.2 (by rw [put_eq hd]; exact hn)
theorem v_lss {x y : Lo} {k : IntKind} {m n : Int} (hn : R lp fl os N ⟨nt, T.set d (some (.bool (decide (m < n)))), ds⟩ σ) (hx : lo T x = .int k m := by first | exact ev_c | (apply ev_t; repeat first | exact ge_h | refine ge_w rfl ?_ | refine ge_f rfl ?_ | refine ge_m rfl ?_ | assumption)) (hy : lo T y = .int k n := by first | exact ev_c | (apply ev_t; repeat first | exact ge_h | refine ge_w rfl ?_ | refine ge_f rfl ?_ | refine ge_m rfl ?_ | assumption)) (hd : Nat.blt d nt = true := by rfl) : R lp fl (⟨some d, .bin .lss x y, none, anc⟩ :: os) N ⟨nt, T, ds⟩ σ :=
  v_go (by
    show keep σ (binH .lss ((HAct.mk nt T ds).ev x) ((HAct.mk nt T ds).ev y)) = _
    rw [ev_eq, ev_eq, hx, hy]
    have e : sameK k k = true := by cases k <;> rfl
    simp only [binH, isShift, cond_false, e, cond_true, intFast, ltI_eq]; rfl) hd hn
theorem v_leq {x y : Lo} {k : IntKind} {m n : Int} (hn : R lp fl os N ⟨nt, T.set d (some (.bool (decide (m ≤ n)))), ds⟩ σ) (hx : lo T x = .int k m := by first | exact ev_c | (apply ev_t; repeat first | exact ge_h | refine ge_w rfl ?_ | refine ge_f rfl ?_ | refine ge_m rfl ?_ | assumption)) (hy : lo T y = .int k n := by first | exact ev_c | (apply ev_t; repeat first | exact ge_h | refine ge_w rfl ?_ | refine ge_f rfl ?_ | refine ge_m rfl ?_ | assumption)) (hd : Nat.blt d nt = true := by rfl) : R lp fl (⟨some d, .bin .leq x y, none, anc⟩ :: os) N ⟨nt, T, ds⟩ σ :=
  v_go (by
    show keep σ (binH .leq ((HAct.mk nt T ds).ev x) ((HAct.mk nt T ds).ev y)) = _
    rw [ev_eq, ev_eq, hx, hy]
    have e : sameK k k = true := by cases k <;> rfl
    have e2 : (!decide (n < m)) = decide (m ≤ n) := by by_cases g : n < m <;> simp [g] <;> omega
    simp only [binH, isShift, cond_false, e, cond_true, intFast, ltI_eq, e2]; rfl) hd hn
theorem v_gtr {x y : Lo} {k : IntKind} {m n : Int} (hn : R lp fl os N ⟨nt, T.set d (some (.bool (decide (n < m)))), ds⟩ σ) (hx : lo T x = .int k m := by first | exact ev_c | (apply ev_t; repeat first | exact ge_h | refine ge_w rfl ?_ | refine ge_f rfl ?_ | refine ge_m rfl ?_ | assumption)) (hy : lo T y = .int k n := by first | exact ev_c | (apply ev_t; repeat first | exact ge_h | refine ge_w rfl ?_ | refine ge_f rfl ?_ | refine ge_m rfl ?_ | assumption)) (hd : Nat.blt d nt = true := by rfl) : R lp fl (⟨some d, .bin .gtr x y, none, anc⟩ :: os) N ⟨nt, T, ds⟩ σ :=
  v_go (by
    show keep σ (binH .gtr ((HAct.mk nt T ds).ev x) ((HAct.mk nt T ds).ev y)) = _
    rw [ev_eq, ev_eq, hx, hy]
    have e : sameK k k = true := by cases k <;> rfl
    simp only [binH, isShift, cond_false, e, cond_true, intFast, ltI_eq]; rfl) hd hn
theorem v_geq {x y : Lo} {k : IntKind} {m n : Int} (hn : R lp fl os N ⟨nt, T.set d (some (.bool (decide (n ≤ m)))), ds⟩ σ) (hx : lo T x = .int k m := by first | exact ev_c | (apply ev_t; repeat first | exact ge_h | refine ge_w rfl ?_ | refine ge_f rfl ?_ | refine ge_m rfl ?_ | assumption)) (hy : lo T y = .int k n := by first | exact ev_c | (apply ev_t; repeat first | exact ge_h | refine ge_w rfl ?_ | refine ge_f rfl ?_ | refine ge_m rfl ?_ | assumption)) (hd : Nat.blt d nt = true := by rfl) : R lp fl (⟨some d, .bin .geq x y, none, anc⟩ :: os) N ⟨nt, T, ds⟩ σ :=
  v_go (by
    show keep σ (binH .geq ((HAct.mk nt T ds).ev x) ((HAct.mk nt T ds).ev y)) = _
    rw [ev_eq, ev_eq, hx, hy]
    have e : sameK k k = true := by cases k <;> rfl
    have e2 : (!decide (m < n)) = decide (n ≤ m) := by by_cases g : m < n <;> simp [g] <;> omega
    simp only [binH, isShift, cond_false, e, cond_true, intFast, ltI_eq, e2]; rfl) hd hn
end
end Go.Hx.V

/- Rules of single steps: comparisons, rows, structs, calls; branches, loops, the end. -/
namespace Go.Hx.V
set_option linter.unusedVariables false
open Go.Hx
section
variable {lp : Nat → Option LFunc} {fl : Nat} {rd : Option Nat} {Q : HExit → HAct → HS → Prop} {N : HAct → HS → Prop} {nt d : Nat} {T : Tr HV} {ds : List Nat} {σ : HS} {h : Tr HBlk} {nx : Nat} {os : List LOper} {anc : List Nat}
theorem v_eqi {x y : Lo} {k : IntKind} {m n : Int}  (hn : R lp fl os N ⟨nt, T.set d (some (.bool (decide (m = n)))), ds⟩ σ) (hx : lo T x = .int k m := by first | exact ev_c | (apply ev_t; repeat first | exact ge_h | refine ge_w rfl ?_ | refine ge_f rfl ?_ | refine ge_m rfl ?_ | assumption)) (hy : lo T y = .int k n := by first | exact ev_c | (apply ev_t; repeat first | exact ge_h | refine ge_w rfl ?_ | refine ge_f rfl ?_ | refine ge_m rfl ?_ | assumption)) (hd : Nat.blt d nt = true := by rfl) : R lp fl (⟨some d, .eq (.cell (.i k)) false x y, none, anc⟩ :: os) N ⟨nt, T, ds⟩ σ :=
  r_eqh ((ev_eq x).trans hx) ((ev_eq y).trans hy) (b := decide (m = n)) (by show (if k = k ∧ k = k then some (m == n) else none) = _; rw [if_pos ⟨rfl, rfl⟩]; congr 1) (by rw [put_eq hd]; simpa using hn)
theorem v_nei {x y : Lo} {k : IntKind} {m n : Int}  (hn : R lp fl os N ⟨nt, T.set d (some (.bool (!decide (m = n)))), ds⟩ σ) (hx : lo T x = .int k m := by first | exact ev_c | (apply ev_t; repeat first | exact ge_h | refine ge_w rfl ?_ | refine ge_f rfl ?_ | refine ge_m rfl ?_ | assumption)) (hy : lo T y = .int k n := by first | exact ev_c | (apply ev_t; repeat first | exact ge_h | refine ge_w rfl ?_ | refine ge_f rfl ?_ | refine ge_m rfl ?_ | assumption)) (hd : Nat.blt d nt = true := by rfl) : R lp fl (⟨some d, .eq (.cell (.i k)) true x y, none, anc⟩ :: os) N ⟨nt, T, ds⟩ σ :=
  r_eqh ((ev_eq x).trans hx) ((ev_eq y).trans hy) (b := decide (m = n)) (by show (if k = k ∧ k = k then some (m == n) else none) = _; rw [if_pos ⟨rfl, rfl⟩]; congr 1) (by rw [put_eq hd]; simpa using hn)
theorem v_eqb {x y : Lo} {m n : Bool}  (hn : R lp fl os N ⟨nt, T.set d (some (.bool (m == n))), ds⟩ σ) (hx : lo T x = .bool m := by first | exact ev_c | (apply ev_t; repeat first | exact ge_h | refine ge_w rfl ?_ | refine ge_f rfl ?_ | refine ge_m rfl ?_ | assumption)) (hy : lo T y = .bool n := by first | exact ev_c | (apply ev_t; repeat first | exact ge_h | refine ge_w rfl ?_ | refine ge_f rfl ?_ | refine ge_m rfl ?_ | assumption)) (hd : Nat.blt d nt = true := by rfl) : R lp fl (⟨some d, .eq (.cell .b) false x y, none, anc⟩ :: os) N ⟨nt, T, ds⟩ σ :=
  r_eqh ((ev_eq x).trans hx) ((ev_eq y).trans hy) (b := m == n) rfl (by rw [put_eq hd]; simpa using hn)
theorem v_not {x : Lo} {b : Bool}  (hn : R lp fl os N ⟨nt, T.set d (some (.bool (!b))), ds⟩ σ) (hx : lo T x = .bool b := by first | exact ev_c | (apply ev_t; repeat first | exact ge_h | refine ge_w rfl ?_ | refine ge_f rfl ?_ | refine ge_m rfl ?_ | assumption)) (hd : Nat.blt d nt = true := by rfl) : R lp fl (⟨some d, .un .not x, none, anc⟩ :: os) N ⟨nt, T, ds⟩ σ :=
  r_not1 ((ev_eq x).trans hx) (by rw [put_eq hd]; exact hn)
theorem v_pt {c x y : Lo} {v : HV}  (hn : R lp fl os N ⟨nt, T.set d (some v), ds⟩ σ) (hc : lo T c = .bool true := by first | exact ev_c | (apply ev_t; repeat first | exact ge_h | refine ge_w rfl ?_ | refine ge_f rfl ?_ | refine ge_m rfl ?_ | assumption)) (hx : lo T x = v := by first | exact ev_c | (apply ev_t; repeat first | exact ge_h | refine ge_w rfl ?_ | refine ge_f rfl ?_ | refine ge_m rfl ?_ | assumption)) (hd : Nat.blt d nt = true := by rfl) : R lp fl (⟨some d, .pick c x y, none, anc⟩ :: os) N ⟨nt, T, ds⟩ σ :=
  r_pt ((ev_eq c).trans hc) ((ev_eq x).trans hx) (by rw [put_eq hd]; exact hn)
theorem v_pf {c x y : Lo} {v : HV}  (hn : R lp fl os N ⟨nt, T.set d (some v), ds⟩ σ) (hc : lo T c = .bool false := by first | exact ev_c | (apply ev_t; repeat first | exact ge_h | refine ge_w rfl ?_ | refine ge_f rfl ?_ | refine ge_m rfl ?_ | assumption)) (hx : lo T y = v := by first | exact ev_c | (apply ev_t; repeat first | exact ge_h | refine ge_w rfl ?_ | refine ge_f rfl ?_ | refine ge_m rfl ?_ | assumption)) (hd : Nat.blt d nt = true := by rfl) : R lp fl (⟨some d, .pick c x y, none, anc⟩ :: os) N ⟨nt, T, ds⟩ σ :=
  r_pf ((ev_eq c).trans hc) ((ev_eq y).trans hx) (by rw [put_eq hd]; exact hn)
theorem v_len {x : Lo} {p : Option (Nat × Nat)} {n c : Nat}  (hn : R lp fl os N ⟨nt, T.set d (some (i64 n)), ds⟩ σ) (hx : lo T x = .slice p n c := by first | exact ev_c | (apply ev_t; repeat first | exact ge_h | refine ge_w rfl ?_ | refine ge_f rfl ?_ | refine ge_m rfl ?_ | assumption)) (hd : Nat.blt d nt = true := by rfl) : R lp fl (⟨some d, .len .slice x, none, anc⟩ :: os) N ⟨nt, T, ds⟩ σ :=
  r_len ((ev_eq x).trans hx) (by rw [put_eq hd]; exact hn)
theorem v_ixs {size : Nat} {x i : Lo} {b o n c j : Nat} {z : Int} (hz : z = j) (hj : j < n) (hn : R lp fl os N ⟨nt, T.set d (some (.ptr (some (b, o + j * size)))), ds⟩ σ) (hx : lo T x = .slice (some (b, o)) n c := by first | exact ev_c | (apply ev_t; repeat first | exact ge_h | refine ge_w rfl ?_ | refine ge_f rfl ?_ | refine ge_m rfl ?_ | assumption)) (hi : lo T i = i64 z := by first | exact ev_c | (apply ev_t; repeat first | exact ge_h | refine ge_w rfl ?_ | refine ge_f rfl ?_ | refine ge_m rfl ?_ | assumption)) (hd : Nat.blt d nt = true := by rfl) : R lp fl (⟨some d, .indexAddrS size x i, none, anc⟩ :: os) N ⟨nt, T, ds⟩ σ :=
  r_ixs ((ev_eq x).trans hx) ((ev_eq i).trans (by rw [hi, hz])) hj (by rw [put_eq hd]; exact hn)
theorem v_ixa {len size : Nat} {x i : Lo} {b o j : Nat} {z : Int} (hz : z = j) (hj : j < len) (hn : R lp fl os N ⟨nt, T.set d (some (.ptr (some (b, o + j * size)))), ds⟩ σ) (hx : lo T x = .ptr (some (b, o)) := by first | exact ev_c | (apply ev_t; repeat first | exact ge_h | refine ge_w rfl ?_ | refine ge_f rfl ?_ | refine ge_m rfl ?_ | assumption)) (hi : lo T i = i64 z := by first | exact ev_c | (apply ev_t; repeat first | exact ge_h | refine ge_w rfl ?_ | refine ge_f rfl ?_ | refine ge_m rfl ?_ | assumption)) (hd : Nat.blt d nt = true := by rfl) : R lp fl (⟨some d, .indexAddrA len size x i, none, anc⟩ :: os) N ⟨nt, T, ds⟩ σ :=
  r_ixa ((ev_eq x).trans hx) ((ev_eq i).trans (by rw [hi, hz])) hj (by rw [put_eq hd]; exact hn)
theorem v_xt {x : Lo} {i : Nat} {vs : List HV} {v : HV} (hv : vs[i]? = some v) (hn : R lp fl os N ⟨nt, T.set d (some v), ds⟩ σ) (hx : lo T x = .tuple vs := by first | exact ev_c | (apply ev_t; repeat first | exact ge_h | refine ge_w rfl ?_ | refine ge_f rfl ?_ | refine ge_m rfl ?_ | assumption)) (hd : Nat.blt d nt = true := by rfl) : R lp fl (⟨some d, .extract x i, none, anc⟩ :: os) N ⟨nt, T, ds⟩ σ :=
  r_ext ((ev_eq x).trans hx) hv (by rw [put_eq hd]; exact hn)
/-- Values of several operands. -/
inductive Evs (T : Tr HV) : List Lo → List HV → Prop where
  | nil : Evs T [] []
  | cons {x : Lo} {xs : List Lo} {v : HV} {vs : List HV} (hx : lo T x = v) (hs : Evs T xs vs) : Evs T (x :: xs) (v :: vs)
theorem Evs.map {xs : List Lo} {vs : List HV} (e : Evs T xs vs) : xs.map (HAct.mk nt T ds).ev = vs := by
  induction e with
  | nil => rfl
  | cons hx hs ih => rw [List.map_cons, ih, ev_eq, hx]
inductive Evp (T : Tr HV) : List (Nat × Nat × Lo) → List (Nat × Nat × HV) → Prop where
  | nil : Evp T [] []
  | cons {x : Lo} {o s : Nat} {xs : List (Nat × Nat × Lo)} {v : HV} {vs : List (Nat × Nat × HV)} (hx : lo T x = v) (hs : Evp T xs vs) : Evp T ((o, s, x) :: xs) ((o, s, v) :: vs)
theorem Evp.map {xs : List (Nat × Nat × Lo)} {vs : List (Nat × Nat × HV)} (e : Evp T xs vs) : evParts (HAct.mk nt T ds) xs = vs := by
  unfold evParts
  induction e with
  | nil => rfl
  | cons hx hs ih => rw [List.map_cons, ih]; dsimp only; rw [ev_eq, hx]
theorem v_build {z cs : List HV} {ps : List (Nat × Nat × Lo)} {vs : List (Nat × Nat × HV)} (hf : fillH z vs = some cs) (hn : R lp fl os N ⟨nt, T.set d (some (.agg cs)), ds⟩ σ) (hp : Evp T ps vs := by repeat (first | exact Evp.nil | (apply Evp.cons; focus (first | exact ev_c | (apply ev_t; repeat first | exact ge_h | refine ge_w rfl ?_ | refine ge_f rfl ?_ | refine ge_m rfl ?_ | assumption))))) (hd : Nat.blt d nt = true := by rfl) : R lp fl (⟨some d, .build z ps, none, anc⟩ :: os) N ⟨nt, T, ds⟩ σ :=
  r_build (by rw [hp.map]; exact hf) (by rw [put_eq hd]; exact hn)
theorem v_mf {f : Nat} {u w : List HV} {first captured : List Lo}  (hn : R lp fl os N ⟨nt, T.set d (some (.func f u w)), ds⟩ σ) (hu : Evs T first u := by repeat (first | exact Evs.nil | (apply Evs.cons; focus (first | exact ev_c | (apply ev_t; repeat first | exact ge_h | refine ge_w rfl ?_ | refine ge_f rfl ?_ | refine ge_m rfl ?_ | assumption))))) (hw : Evs T captured w := by repeat (first | exact Evs.nil | (apply Evs.cons; focus (first | exact ev_c | (apply ev_t; repeat first | exact ge_h | refine ge_w rfl ?_ | refine ge_f rfl ?_ | refine ge_m rfl ?_ | assumption))))) (hd : Nat.blt d nt = true := by rfl) : R lp fl (⟨some d, .makeFunc f first captured, none, anc⟩ :: os) N ⟨nt, T, ds⟩ σ :=
  r_mf hu.map hw.map (by rw [put_eq hd]; exact hn)
theorem v_box {n0 : Nat} {h0 : Tr HBlk} {F0 F : PH} {L : List LE} {x : Lo} {v : HV} (st : St n0 h0 F0 F h nx L) (hn : ∀ b h' n', St n0 h0 F0 F h' n' (L ++ [.bx b v.cells]) → R lp fl os N ⟨nt, T.set d (some (.ptr (some (b, 0)))), ds⟩ ⟨h', n'⟩) (hx : lo T x = v := by first | exact ev_c | (apply ev_t; repeat first | exact ge_h | refine ge_w rfl ?_ | refine ge_f rfl ?_ | refine ge_m rfl ?_ | assumption)) (hd : Nat.blt d nt = true := by rfl) : R lp fl (⟨some d, .box x, none, anc⟩ :: os) N ⟨nt, T, ds⟩ ⟨h, nx⟩ :=
  r_box ((ev_eq x).trans hx) (by rw [put_eq hd]; exact hn _ _ _ (st.alloc _))
theorem v_alloc {n0 : Nat} {h0 : Tr HBlk} {F0 F : PH} {L : List LE} {z : List HV} (st : St n0 h0 F0 F h nx L) (hn : ∀ b h' n', St n0 h0 F0 F h' n' (L ++ [.bx b z]) → R lp fl os N ⟨nt, T.set d (some (.ptr (some (b, 0)))), ds⟩ ⟨h', n'⟩) (hd : Nat.blt d nt = true := by rfl) : R lp fl (⟨some d, .alloc z, none, anc⟩ :: os) N ⟨nt, T, ds⟩ ⟨h, nx⟩ :=
  r_alloc (by rw [put_eq hd]; exact hn _ _ _ (st.alloc _))
theorem v_bs {n0 : Nat} {h0 : Tr HBlk} {F0 F : PH} {L : List LE} {len : Nat} {z cs : List HV} {ps : List (Nat × Nat × Lo)} {vs : List (Nat × Nat × HV)} (st : St n0 h0 F0 F h nx L) (hf : fillH (repl len z) vs = some cs) (hn : ∀ b h' n', St n0 h0 F0 F h' n' (L ++ [.bx b cs]) → R lp fl os N ⟨nt, T.set d (some (.slice (some (b, 0)) len len)), ds⟩ ⟨h', n'⟩) (hp : Evp T ps vs := by repeat (first | exact Evp.nil | (apply Evp.cons; focus (first | exact ev_c | (apply ev_t; repeat first | exact ge_h | refine ge_w rfl ?_ | refine ge_f rfl ?_ | refine ge_m rfl ?_ | assumption))))) (hd : Nat.blt d nt = true := by rfl) : R lp fl (⟨some d, .buildSlice len z ps, none, anc⟩ :: os) N ⟨nt, T, ds⟩ ⟨h, nx⟩ :=
  r_bs (by rw [hp.map]; exact hf) (by rw [put_eq hd]; exact hn _ _ _ (st.alloc _))
theorem v_ms {n0 : Nat} {h0 : Tr HBlk} {F0 F : PH} {L : List LE} {zero : List HV} {bytes ln cn : Nat} {l c : Lo} {zl zc : Int} (st : St n0 h0 F0 F h nx L) (h1 : zl = ln) (h2 : zc = cn) (h3 : ln ≤ cn) (h4 : cn * bytes ≤ 35184372088832 ∧ cn ≤ 35184372088832) (hn : ∀ o h' n', St n0 h0 F0 F h' n' (L ++ [.ls o cn (repl ln zero) zero.length]) → R lp fl os N ⟨nt, T.set d (some (slv o ln cn)), ds⟩ ⟨h', n'⟩) (hl : lo T l = i64 zl := by first | exact ev_c | (apply ev_t; repeat first | exact ge_h | refine ge_w rfl ?_ | refine ge_f rfl ?_ | refine ge_m rfl ?_ | assumption)) (hc : lo T c = i64 zc := by first | exact ev_c | (apply ev_t; repeat first | exact ge_h | refine ge_w rfl ?_ | refine ge_f rfl ?_ | refine ge_m rfl ?_ | assumption)) (hd : Nat.blt d nt = true := by rfl) : R lp fl (⟨some d, .makeSlice zero bytes l c, none, anc⟩ :: os) N ⟨nt, T, ds⟩ ⟨h, nx⟩ :=
  r_ms ((ev_eq l).trans (by rw [hl, h1])) ((ev_eq c).trans (by rw [hc, h2])) h3 h4.1 h4.2 (by
    rw [put_eq hd]
    have hl : ∀ n, (repl n zero).length = n * zero.length := fun n => by unfold repl; rw [List.length_flatten]; simp
    have e : repl cn zero = repl ln zero ++ repl (cn - ln) zero := by
      unfold repl; rw [← List.flatten_append, List.replicate_append_replicate]; congr 2; omega
    have s2 := st.allocL (cs := repl ln zero) (rest := repl (cn - ln) zero) (c := cn) (sz := zero.length) (by rw [← e, hl])
    rw [← e] at s2
    exact hn (some nx) _ _ s2)
theorem v_st {n0 : Nat} {h0 : Tr HBlk} {F0 F : PH} {L : List LE} {n b o : Nat} {x y : Lo} {cs cs' : List HV} {v : HV} (st : St n0 h0 F0 F h nx L) (i : Nat) (hi : L[i]? = some (.bx b cs)) (hw : overwrite cs o v.cells = some cs') (hl : v.cells.length = n) (h1 : v.cells.all HV.one = true) (hfl : fl ≤ n0) (hn : ∀ h', St n0 h0 F0 F h' nx (L.set i (.bx b cs')) → R lp fl os N ⟨nt, T, ds⟩ ⟨h', nx⟩) (hx : lo T x = .ptr (some (b, o)) := by first | exact ev_c | (apply ev_t; repeat first | exact ge_h | refine ge_w rfl ?_ | refine ge_f rfl ?_ | refine ge_m rfl ?_ | assumption)) (hy : lo T y = v := by first | exact ev_c | (apply ev_t; repeat first | exact ge_h | refine ge_w rfl ?_ | refine ge_f rfl ?_ | refine ge_m rfl ?_ | assumption)) : R lp fl (⟨none, .store n x y, none, anc⟩ :: os) N ⟨nt, T, ds⟩ ⟨h, nx⟩ :=
  r_st ((ev_eq x).trans hx) ((ev_eq y).trans hy) (st.at hi).2.2 trivial hl h1 hw (Nat.le_trans hfl (st.at hi).1) (hn _ (st.store i hi _))
def KS (v0 : HV) (nx : Nat) (h : Tr HBlk) : HV → HS → Prop := fun v σ => v = v0 ∧ ∃ n, nx ≤ n ∧ σ = ⟨h, n⟩
def KR {α : Type} (rv : PH → α → HV → Prop) (F : PH) (h : Tr HBlk) (nx : Nat) (x : α) : HV → HS → Prop := fun v σ => ∃ F', Ext h nx σ.h σ.nx ∧ PH.le F F' ∧ (∀ b, b < nx → F' b = F b) ∧ F'.sub σ.h ∧ rv F' x v
theorem v_call {n0 : Nat} {h0 : Tr HBlk} {F0 F : PH} {L : List LE} {f : Lo} {xs : List Lo} {k : Nat} {first captured vs args : List HV} {v : HV} (st : St n0 h0 F0 F h nx L) (hc : C lp fl k args ⟨h, nx⟩ (KS v nx h)) (hn : ∀ n', St n0 h0 F0 F h n' L → R lp fl os N ⟨nt, T.set d (some v), ds⟩ ⟨h, n'⟩) (hf : lo T f = .func k first captured := by first | exact ev_c | (apply ev_t; repeat first | exact ge_h | refine ge_w rfl ?_ | refine ge_f rfl ?_ | refine ge_m rfl ?_ | assumption)) (he : Evs T xs vs := by repeat (first | exact Evs.nil | (apply Evs.cons; focus (first | exact ev_c | (apply ev_t; repeat first | exact ge_h | refine ge_w rfl ?_ | refine ge_f rfl ?_ | refine ge_m rfl ?_ | assumption))))) (ha : first ++ vs ++ captured = args := by rfl) (hd : Nat.blt d nt = true := by rfl) : R lp fl (⟨some d, .call f xs, none, anc⟩ :: os) N ⟨nt, T, ds⟩ ⟨h, nx⟩ :=
  r_callc ((ev_eq f).trans hf) (by rw [he.map]; exact ha) hc fun w σ' ⟨e, n, hl, e2⟩ => by subst e; subst e2; rw [put_eq hd]; exact hn n (st.up hl)
theorem v_callR {n0 : Nat} {h0 : Tr HBlk} {F0 F : PH} {L : List LE} {f : Lo} {xs : List Lo} {k : Nat} {first captured vs args : List HV} {α : Type} {rv : PH → α → HV → Prop} {x : α} (st : St n0 h0 F0 F h nx L) (hc : C lp fl k args ⟨h, nx⟩ (KR rv F h nx x)) (hn : ∀ v F' h' n', PH.le F F' → rv F' x v → St n0 h0 F0 F' h' n' L → R lp fl os N ⟨nt, T.set d (some v), ds⟩ ⟨h', n'⟩) (hf : lo T f = .func k first captured := by first | exact ev_c | (apply ev_t; repeat first | exact ge_h | refine ge_w rfl ?_ | refine ge_f rfl ?_ | refine ge_m rfl ?_ | assumption)) (he : Evs T xs vs := by repeat (first | exact Evs.nil | (apply Evs.cons; focus (first | exact ev_c | (apply ev_t; repeat first | exact ge_h | refine ge_w rfl ?_ | refine ge_f rfl ?_ | refine ge_m rfl ?_ | assumption))))) (ha : first ++ vs ++ captured = args := by rfl) (hd : Nat.blt d nt = true := by rfl) : R lp fl (⟨some d, .call f xs, none, anc⟩ :: os) N ⟨nt, T, ds⟩ ⟨h, nx⟩ :=
  r_callc ((ev_eq f).trans hf) (by rw [he.map]; exact ha) hc fun w σ' ⟨F', e, l1, l2, l3, l4⟩ => by rw [put_eq hd]; exact hn w F' σ'.h σ'.nx l1 l4 (st.call e l1 l2 l3)
theorem v_app {n0 : Nat} {h0 : Tr HBlk} {F0 F : PH} {L : List LE} {s x : Lo} {o : Option Nat} {c k sz n cx bytes bx ox : Nat} {cs csx row : List HV} {kx : BK} (st : St n0 h0 F0 F h nx L) (i : Nat) (hi : L[i]? = some (.ls o c cs sz)) (hk : cs.length = k * sz) (hg : h.get bx = some (.cells csx kx)) (ht : takeN (n * sz) (csx.drop ox) = some row) (h1 : row.all HV.one = true) (hb : (k + n) * bytes ≤ 35184372088832 ∧ k + n ≤ 35184372088832) (hfl : fl ≤ n0) (hz : 0 < sz) (hn0 : 0 < n) (hn : ∀ o' c' h' n', St n0 h0 F0 F h' n' (L.set i (.ls o' c' (cs ++ row) sz)) → R lp fl os N ⟨nt, T.set d (some (slv o' (k + n) c')), ds⟩ ⟨h', n'⟩) (hs : lo T s = slv o k c := by first | exact ev_c | (apply ev_t; repeat first | exact ge_h | refine ge_w rfl ?_ | refine ge_f rfl ?_ | refine ge_m rfl ?_ | assumption)) (hx : lo T x = .slice (some (bx, ox)) n cx := by first | exact ev_c | (apply ev_t; repeat first | exact ge_h | refine ge_w rfl ?_ | refine ge_f rfl ?_ | refine ge_m rfl ?_ | assumption)) (hd : Nat.blt d nt = true := by rfl) : R lp fl (⟨some d, .append sz bytes s x, none, anc⟩ :: os) N ⟨nt, T, ds⟩ ⟨h, nx⟩ := by
  obtain ⟨o', c', h', n', e, s2⟩ := st.append i hi hk hz hfl hg ht h1 hn0 hb.1 hb.2 (cx := cx)
  exact r_app ((ev_eq s).trans hs) ((ev_eq x).trans hx) e (by rw [put_eq hd]; exact hn _ _ _ _ s2)
theorem v_cond {c : Lo} {x y : LCode} {b : Bool} (h1 : b = true → W lp fl rd x Q ⟨nt, T, ds⟩ σ) (h2 : b = false → W lp fl rd y Q ⟨nt, T, ds⟩ σ) (hc : lo T c = .bool b := by first | exact ev_c | (apply ev_t; repeat first | exact ge_h | refine ge_w rfl ?_ | refine ge_f rfl ?_ | refine ge_m rfl ?_ | assumption)) : W lp fl rd (.cond c x y) Q ⟨nt, T, ds⟩ σ := by
  cases b with
  | true => exact w_t ((ev_eq c).trans hc) (h1 rfl)
  | false => exact w_f ((ev_eq c).trans hc) (h2 rfl)
theorem in_c {f : Nat} {args : List HV} {lf : LFunc} {K : HV → HS → Prop} {F : PH} (hd : D h nx) (hF : F.sub h) (hf : lp f = some lf) (hs : lf.spec = none) (hi : lf.imp = false) (hl : Nat.ble args.length lf.nt = true)
    (hw : St nx h F F h nx [] → W lp nx none lf.body (Fin ⟨h, nx⟩ lf.res K) ⟨lf.nt, putAll .e 0 args, []⟩ ⟨h, nx⟩) : C lp fl f args ⟨h, nx⟩ K := c_in hf hs hi hl (hw (St.start hd hF))
theorem in_m {f : Nat} {args : List HV} {lf : LFunc} {K : HV → HS → Prop} {F : PH} (hd : D h nx) (hF : F.sub h) (hfl : fl ≤ nx) (hf : lp f = some lf) (hs : lf.spec = none) (hi : lf.imp = true) (hl : Nat.ble args.length lf.nt = true)
    (hw : St nx h F F h nx [] → fl ≤ nx → W lp fl none lf.body (Fim fl lf.res K) ⟨lf.nt, putAll .e 0 args, []⟩ ⟨h, nx⟩) : C lp fl f args ⟨h, nx⟩ K := c_im hf hs hi hl (hw (St.start hd hF) hfl)
inductive Res (T : Tr HV) (h : Tr HBlk) : List LRes → List HV → Prop where
  | nil : Res T h [] []
  | t {n : Nat} {v : HV} {rs : List LRes} {vs : List HV} (hv : T.get n = some v) (hr : Res T h rs vs) : Res T h (.t n :: rs) (v :: vs)
  | c {t b o n : Nat} {cs us : List HV} {k : BK} {rs : List LRes} {vs : List HV} (hv : T.get t = some (.ptr (some (b, o)))) (hg : h.get b = some (.cells cs k)) (hc : takeN n (cs.drop o) = some us) (hr : Res T h rs vs) : Res T h (.cell t true n :: rs) (.agg us :: vs)
  | c1 {t b o : Nat} {cs : List HV} {u : HV} {k : BK} {rs : List LRes} {vs : List HV} (hv : T.get t = some (.ptr (some (b, o)))) (hg : h.get b = some (.cells cs k)) (hc : cs[o]? = some u) (hr : Res T h rs vs) : Res T h (.cell t false 1 :: rs) (u :: vs)
theorem Res.eq {rs : List LRes} {vs : List HV} (r : Res T h rs vs) : resH ⟨nt, T, ds⟩ ⟨h, nx⟩ rs = some vs := by
  induction r with
  | nil => rfl
  | t hv hr ih => exact res_t (by show (T.get _).getD .undef = _; rw [hv]; rfl) ih
  | c hv hg hc hr ih => exact res_c (by show (T.get _).getD .undef = _; rw [hv]; rfl) hg hc ih
  | @c1 t b o cs u k rs vs hv hg hc hr ih => exact res_c1 (n := 0) (by show (T.get _).getD .undef = _; rw [hv]; rfl) hg hc ih
/-- A function of plain values ends. -/
theorem end_s {n0 : Nat} {h0 : Tr HBlk} {F0 F : PH} {L : List LE} {res : List LRes} {vs : List HV} {v : HV} (st : St n0 h0 F0 F h nx L) (hr : Res T h res vs) (hv : oneOf vs = v) (hw : flatV v = true) : Fin ⟨h0, n0⟩ res (KS v n0 h0) .ret ⟨nt, T, []⟩ ⟨h, nx⟩ :=
  fin_m rfl hr.eq (by
    subst hv
    rw [gc_flat hw]
    exact ⟨rfl, nx, st.ext.le, rfl⟩)
theorem end_r {α : Type} {rv : PH → α → HV → Prop} {x : α} {n0 : Nat} {h0 : Tr HBlk} {F0 F : PH} {L : List LE} {res : List LRes} {vs : List HV} (st : St n0 h0 F0 F h nx L) (hr : Res T h res vs) (hv : rv F x (oneOf vs)) : Fim fl res (KR rv F0 h0 n0 x) .ret ⟨nt, T, []⟩ ⟨h, nx⟩ :=
  by unfold Fim; exact ⟨oneOf vs, ⟨h, nx⟩, leave_many rfl hr.eq, F, st.ext, st.le, st.lo, st.sub, hv⟩
end
end Go.Hx.V

/- Rules for texts that are written by a program: guards, drawn operations in one step, elements of lists. -/
namespace Go.Hx.V
set_option linter.unusedVariables false
open Go.Hx
theorem RowF.get {α : Type} {rel : Rel α} {sz : Nat} {F : PH} {p : Option (Nat × Nat)} {l : List α} {n c : Nat} {x : α} (hr : RowF rel sz F p c l) (g : l[n]? = some x) : ∃ b o cs k r, p = some (b, o) ∧ F b = some (.cells cs k) ∧ takeN sz (cs.drop (o + n * sz)) = some r ∧ rel F x r := by
  obtain ⟨b, o, cs, k, h1, h2, h3⟩ := hr.2 (fun e => by rw [e] at g; cases g)
  obtain ⟨r, g1, g2⟩ := h3 n x g
  exact ⟨b, o, cs, k, r, h1, h2, g1, g2⟩
theorem RowF.nil {α : Type} {rel : Rel α} {sz c : Nat} {F : PH} {p : Option (Nat × Nat)} : RowF rel sz F p c ([] : List α) := ⟨Nat.zero_le _, fun h => absurd rfl h⟩
theorem LE.get {α : Type} {rel : Rel α} {sz c n0 nx n : Nat} {h : Tr HBlk} {F : PH} {o : Option Nat} {cs : List HV} {l : List α} {x : α} [OkR rel sz] (ho : LE.ok n0 nx h (.ls o c cs sz)) (hr : LR rel sz F l cs) (hz : 0 < sz) (g : l[n]? = some x) : ∃ b cs' k r, (o.map fun b => (b, 0)) = some (b, 0) ∧ h.get b = some (.cells cs' k) ∧ takeN sz (cs'.drop (0 + n * sz)) = some r ∧ rel F x r := by
  obtain ⟨r, g1, g2⟩ := hr.2 n x g
  have hn : n < l.length := by
    rcases Nat.lt_or_ge n l.length with g3 | g3
    · exact g3
    · rw [List.getElem?_eq_none g3] at g; cases g
  match o, ho with
  | none, ⟨h1, h2⟩ =>
    subst h1
    have := hr.1
    simp only [List.length_nil] at this
    rcases Nat.mul_eq_zero.1 this.symm with e | e <;> omega
  | some b, ⟨h1, h2, h3⟩ =>
    rcases h3 with ⟨q1, q2⟩ | ⟨rest, q1, q2⟩
    · exact ⟨b, cs, _, r, rfl, q1, by rw [Nat.zero_add]; exact g1, g2⟩
    · refine ⟨b, cs ++ rest, _, r, rfl, q1, ?_, g2⟩
      rw [Nat.zero_add, List.drop_append_of_le_length (by rw [hr.1]; exact Nat.mul_le_mul_right _ (by omega))]
      exact takeN_more _ _ _ _ g1
theorem LR.repl {α : Type} {rel : Rel α} {sz : Nat} [OkR rel sz] {F : PH} {x : α} {r : List HV} (h : rel F x r) : ∀ n, LR rel sz F (List.replicate n x) (repl n r)
  | 0 => LR.nil
  | n + 1 => by
    have := (LR.one (rel := rel) h).app (LR.repl h n)
    rw [List.replicate_succ]
    have e : Go.Hx.repl (n + 1) r = r ++ Go.Hx.repl n r := by unfold Go.Hx.repl; rw [List.replicate_succ, List.flatten_cons]
    rw [e]; exact this
def sel {α β γ : Type} (f : α → Option γ) (g : β → Option γ) : α ⊕ β → Option γ
  | .inl x => f x
  | .inr y => g y
theorem sel_l {α β γ : Type} {f : α → Option γ} {g : β → Option γ} {x : α} {r : γ} (h : sel f g (.inl x) = some r) : f x = some r := h
theorem sel_r {α β γ : Type} {f : α → Option γ} {g : β → Option γ} {x : β} {r : γ} (h : sel f g (.inr x) = some r) : g x = some r := h
section
variable {lp : Nat → Option LFunc} {fl : Nat} {rd : Option Nat} {Q : HExit → HAct → HS → Prop} {N : HAct → HS → Prop} {nt d : Nat} {T : Tr HV} {ds : List Nat} {σ : HS} {h : Tr HBlk} {nx : Nat} {os : List LOper} {anc : List Nat}
theorem thn {N' : HAct → HS → Prop} {a : HAct} (hn : N' a σ) : thenH N' Q .normal a σ := hn
theorem g_take {op : LOp} {dst : Option Nat} {t : Nat} {b w : Bool} (hb : b = w) (hn : R lp fl (⟨dst, op, none, anc⟩ :: os) N ⟨nt, T, ds⟩ σ) (hx : lo T (.t t) = .bool b := by first | exact ev_c | (apply ev_t; repeat first | exact ge_h | refine ge_w rfl ?_ | refine ge_f rfl ?_ | refine ge_m rfl ?_ | assumption)) : R lp fl (⟨dst, op, some (t, w), anc⟩ :: os) N ⟨nt, T, ds⟩ σ := by
  subst hb
  exact r_take hx hn
theorem g_skip {op : LOp} {t : Nat} {b w : Bool} (hb : b = !w) (hn : R lp fl os N ⟨nt, T.set d (some .undef), ds⟩ σ) (hx : lo T (.t t) = .bool b := by first | exact ev_c | (apply ev_t; repeat first | exact ge_h | refine ge_w rfl ?_ | refine ge_f rfl ?_ | refine ge_m rfl ?_ | assumption)) (hd : Nat.blt d nt = true := by rfl) : R lp fl (⟨some d, op, some (t, w), anc⟩ :: os) N ⟨nt, T, ds⟩ σ := by
  subst hb
  exact r_drop hx (by rw [put_eq hd]; exact hn)
theorem v_pick {c x y : Lo} {b : Bool} {v : HV} (hb : b = true) (hn : R lp fl os N ⟨nt, T.set d (some v), ds⟩ σ) (hc : lo T c = .bool b := by first | exact ev_c | (apply ev_t; repeat first | exact ge_h | refine ge_w rfl ?_ | refine ge_f rfl ?_ | refine ge_m rfl ?_ | assumption)) (hx : lo T x = v := by first | exact ev_c | (apply ev_t; repeat first | exact ge_h | refine ge_w rfl ?_ | refine ge_f rfl ?_ | refine ge_m rfl ?_ | assumption)) (hd : Nat.blt d nt = true := by rfl) : R lp fl (⟨some d, .pick c x y, none, anc⟩ :: os) N ⟨nt, T, ds⟩ σ := by
  subst hb
  exact v_pt hn hc hx hd
theorem v_pick' {c x y : Lo} {b : Bool} {v : HV} (hb : b = false) (hn : R lp fl os N ⟨nt, T.set d (some v), ds⟩ σ) (hc : lo T c = .bool b := by first | exact ev_c | (apply ev_t; repeat first | exact ge_h | refine ge_w rfl ?_ | refine ge_f rfl ?_ | refine ge_m rfl ?_ | assumption)) (hx : lo T y = v := by first | exact ev_c | (apply ev_t; repeat first | exact ge_h | refine ge_w rfl ?_ | refine ge_f rfl ?_ | refine ge_m rfl ?_ | assumption)) (hd : Nat.blt d nt = true := by rfl) : R lp fl (⟨some d, .pick c x y, none, anc⟩ :: os) N ⟨nt, T, ds⟩ σ := by
  subst hb
  exact v_pf hn hc hx hd
theorem v_ixp {size : Nat} {x i : Lo} {p : Option (Nat × Nat)} {b o n c j : Nat} {z : Int} (hp : p = some (b, o)) (hz : z = j) (hj : j < n) (hn : R lp fl os N ⟨nt, T.set d (some (.ptr (some (b, o + j * size)))), ds⟩ σ) (hx : lo T x = .slice p n c := by first | exact ev_c | (apply ev_t; repeat first | exact ge_h | refine ge_w rfl ?_ | refine ge_f rfl ?_ | refine ge_m rfl ?_ | assumption)) (hi : lo T i = i64 z := by first | exact ev_c | (apply ev_t; repeat first | exact ge_h | refine ge_w rfl ?_ | refine ge_f rfl ?_ | refine ge_m rfl ?_ | assumption)) (hd : Nat.blt d nt = true := by rfl) : R lp fl (⟨some d, .indexAddrS size x i, none, anc⟩ :: os) N ⟨nt, T, ds⟩ σ := by
  subst hp
  exact v_ixs hz hj hn hx hi hd
theorem v_aps {n0 : Nat} {h0 : Tr HBlk} {F0 F : PH} {L : List LE} {s x : Lo} {o : Option Nat} {c k sz n m cx bytes bx ox : Nat} {cs csx row : List HV} {kx : BK} (st : St n0 h0 F0 F h nx L) (i : Nat) (hi : L[i]? = some (.ls o c cs sz)) (hk : cs.length = k * sz) (hg : h.get bx = some (.cells csx kx)) (ht : takeN (n * sz) (csx.drop ox) = some row) (h1 : row.all HV.one = true) (hb : (k + n) * bytes ≤ 35184372088832 ∧ k + n ≤ 35184372088832) (hfl : fl ≤ n0) (hz : 0 < sz) (hn0 : 0 < n) (hm : k + n = m) (hn : ∀ o' c' h' n', St n0 h0 F0 F h' n' (L.set i (.ls o' c' (cs ++ row) sz)) → R lp fl os N ⟨nt, T.set d (some (slv o' m c')), ds⟩ ⟨h', n'⟩) (hs : lo T s = slv o k c := by first | exact ev_c | (apply ev_t; repeat first | exact ge_h | refine ge_w rfl ?_ | refine ge_f rfl ?_ | refine ge_m rfl ?_ | assumption)) (hx : lo T x = .slice (some (bx, ox)) n cx := by first | exact ev_c | (apply ev_t; repeat first | exact ge_h | refine ge_w rfl ?_ | refine ge_f rfl ?_ | refine ge_m rfl ?_ | assumption)) (hd : Nat.blt d nt = true := by rfl) : R lp fl (⟨some d, .append sz bytes s x, none, anc⟩ :: os) N ⟨nt, T, ds⟩ ⟨h, nx⟩ := by
  subst hm
  exact v_app st i hi hk hg ht h1 hb hfl hz hn0 hn hs hx hd
theorem putAll_get : ∀ (vs : List HV) (T : Tr HV) (i j : Nat), (putAll T i vs).get j = if i ≤ j ∧ j < i + vs.length then vs[j - i]? else T.get j
  | [], T, i, j => by rw [if_neg (by simp)]; rfl
  | v :: vs, T, i, j => by
    show (putAll (T.set i (some v)) (i + 1) vs).get j = _
    rw [putAll_get vs _ (i + 1) j]
    by_cases e : i = j
    · subst e
      rw [if_neg (by omega), if_pos (by simp), Tr.get_set, if_pos rfl]; simp
    · by_cases g : i + 1 ≤ j ∧ j < i + 1 + vs.length
      · rw [if_pos g, if_pos ⟨by omega, by simp; omega⟩, show j - i = (j - (i + 1)) + 1 by omega, List.getElem?_cons_succ]
      · rw [if_neg g, if_neg (by rintro ⟨q1, q2⟩; simp at q2; omega), Tr.get_set, if_neg (fun h => e h.symm)]
theorem in_cT {f : Nat} {args : List HV} {lf : LFunc} {K : HV → HS → Prop} {F : PH} (hd : D h nx) (hF : F.sub h) (hf : lp f = some lf) (hs : lf.spec = none) (hi : lf.imp = false) (hl : Nat.ble args.length lf.nt = true)
    (hw : St nx h F F h nx [] → ∀ T, (∀ i v, args[i]? = some v → T.get i = some v) → W lp nx none lf.body (Fin ⟨h, nx⟩ lf.res K) ⟨lf.nt, T, []⟩ ⟨h, nx⟩) : C lp fl f args ⟨h, nx⟩ K :=
  in_c hd hF hf hs hi hl fun st => hw st _ fun i v hv => by
    have hlt : i < args.length := by
      rcases Nat.lt_or_ge i args.length with g | g
      · exact g
      · rw [List.getElem?_eq_none g] at hv; cases hv
    rw [putAll_get, if_pos ⟨by omega, by omega⟩]; exact hv
theorem in_mT {f : Nat} {args : List HV} {lf : LFunc} {K : HV → HS → Prop} {F : PH} (hd : D h nx) (hF : F.sub h) (hfl : fl ≤ nx) (hf : lp f = some lf) (hs : lf.spec = none) (hi : lf.imp = true) (hl : Nat.ble args.length lf.nt = true)
    (hw : St nx h F F h nx [] → ∀ T, (∀ i v, args[i]? = some v → T.get i = some v) → W lp fl none lf.body (Fim fl lf.res K) ⟨lf.nt, T, []⟩ ⟨h, nx⟩) : C lp fl f args ⟨h, nx⟩ K :=
  in_m hd hF hfl hf hs hi hl fun st _ => hw st _ fun i v hv => by
    have hlt : i < args.length := by
      rcases Nat.lt_or_ge i args.length with g | g
      · exact g
      · rw [List.getElem?_eq_none g] at hv; cases hv
    rw [putAll_get, if_pos ⟨by omega, by omega⟩]; exact hv
/-- A part of a list. -/
theorem slf {α : Type} {rel : Rel α} {sz : Nat} {F : PH} {p : Option (Nat × Nat)} {c a b : Nat} {l : List α} {x : HV} {lo hi : Option HV} (hr : RowF rel sz F p c l) (hx : x = .slice p l.length c) (ha : boundH 0 lo = some a) (hb : boundH l.length hi = some b) (h1 : a ≤ b) (h2 : b ≤ l.length) :
    ∃ p' c' n', (match sliceH ⟨h, nx⟩ sz x lo hi with | some v => some (v, (⟨h, nx⟩ : HS)) | none => bif endH x lo hi then some (.slice (some (nx, 0)) 0 0, ⟨h, nx + 1⟩) else none) = some (.slice p' (b - a) c', ⟨h, n'⟩) ∧ nx ≤ n' ∧ RowF rel sz F p' c' ((l.drop a).take (b - a)) := by
  subst hx
  have hc := hr.1
  have hlen : ((l.drop a).take (b - a)).length = b - a := by rw [List.length_take, List.length_drop]; omega
  have sub : ∀ o : Nat, (l ≠ [] → ∃ b' cs k, p = some (b', o) ∧ F b' = some (.cells cs k) ∧ ∀ i x, l[i]? = some x → ∃ r, takeN sz (cs.drop (o + i * sz)) = some r ∧ rel F x r) → ∀ b', p = some (b', o) → (l.drop a).take (b - a) ≠ [] → ∃ b9 o' cs k, (some (b', o + a * sz) : Option (Nat × Nat)) = some (b9, o') ∧ F b9 = some (.cells cs k) ∧ ∀ i x, ((l.drop a).take (b - a))[i]? = some x → ∃ r, takeN sz (cs.drop (o' + i * sz)) = some r ∧ rel F x r := fun o ho b' hp hne => by
    have hl : l ≠ [] := fun e => hne (by rw [e]; simp)
    obtain ⟨b2, cs, k, e1, e2, e3⟩ := ho hl
    rw [hp] at e1; cases e1
    refine ⟨_, _, cs, k, rfl, e2, fun i x hx => ?_⟩
    rw [List.getElem?_take] at hx
    by_cases g : i < b - a
    · rw [if_pos g, List.getElem?_drop] at hx
      obtain ⟨r, g1, g2⟩ := e3 _ x hx
      exact ⟨r, by rw [show o + a * sz + i * sz = o + (a + i) * sz by rw [Nat.add_mul]; omega]; exact g1, g2⟩
    · rw [if_neg g] at hx; cases hx
  unfold sliceH
  simp only [ha, hb]
  rw [if_pos ⟨h1, by omega⟩]
  cases hp : p with
  | none =>
    refine ⟨none, c - a, nx, by simp only [cutH], Nat.le_refl _, by rw [hlen]; omega, fun hne => ?_⟩
    have hl : l ≠ [] := fun e => hne (by rw [e]; simp)
    obtain ⟨b2, o2, cs, k, e1, _⟩ := hr.2 hl
    rw [hp] at e1; cases e1
  | some q =>
    obtain ⟨b', o⟩ := q
    by_cases hca : a < c ∨ a = 0
    · refine ⟨some (b', o + a * sz), c - a, nx, by simp only [cutH, if_pos hca], Nat.le_refl _, by rw [hlen]; omega, fun hne => sub o (fun hl => ?_) b' hp hne⟩
      obtain ⟨b2, o2, cs, k, e1, e2, e3⟩ := hr.2 hl
      rw [hp] at e1; cases e1
      exact ⟨b', cs, k, hp, e2, e3⟩
    · have hac : a = c := by omega
      have hbc : b = c := by omega
      have hz : b - a = 0 := by omega
      have nil : (l.drop a).take (b - a) = [] := by rw [hz]; rfl
      have e : endH (.slice (some (b', o)) l.length c) lo hi = true := by
        unfold endH
        simp only [ha, hb, hac, hbc, Nat.beq_refl, Bool.and_self]
      have yes : (∃ cs, h.get b' = some (.cells cs .exact)) → ∃ p' c' n', (match cutH ⟨h, nx⟩ sz (some (b', o)) c a b with | some v => some (v, (⟨h, nx⟩ : HS)) | none => bif endH (.slice (some (b', o)) l.length c) lo hi then some (.slice (some (nx, 0)) 0 0, ⟨h, nx + 1⟩) else none) = some (.slice p' (b - a) c', ⟨h, n'⟩) ∧ nx ≤ n' ∧ RowF rel sz F p' c' ((l.drop a).take (b - a)) := fun ⟨cs, hg⟩ => by
        refine ⟨some (b', o), c - a, nx, ?_, Nat.le_refl _, by rw [hlen]; omega, fun hne => absurd nil hne⟩
        simp only [cutH, if_neg hca, hg]
      have no : (cutH ⟨h, nx⟩ sz (some (b', o)) c a b = none) → ∃ p' c' n', (match cutH ⟨h, nx⟩ sz (some (b', o)) c a b with | some v => some (v, (⟨h, nx⟩ : HS)) | none => bif endH (.slice (some (b', o)) l.length c) lo hi then some (.slice (some (nx, 0)) 0 0, ⟨h, nx + 1⟩) else none) = some (.slice p' (b - a) c', ⟨h, n'⟩) ∧ nx ≤ n' ∧ RowF rel sz F p' c' ((l.drop a).take (b - a)) := fun hg => by
        refine ⟨some (nx, 0), 0, nx + 1, ?_, by omega, by rw [hlen]; omega, fun hne => absurd nil hne⟩
        rw [hg]
        simp only [e, cond_true, hz]
      cases hg : h.get b' with
      | none => exact no (by simp only [cutH, if_neg hca, hg])
      | some blk =>
        cases blk with
        | cells cs k =>
          cases k with
          | exact => exact yes ⟨cs, hg⟩
          | ro => exact no (by simp only [cutH, if_neg hca, hg])
          | opn z => exact no (by simp only [cutH, if_neg hca, hg])
        | map _ => exact no (by simp only [cutH, if_neg hca, hg])
        | loop _ => exact no (by simp only [cutH, if_neg hca, hg])
        | marks => exact no (by simp only [cutH, if_neg hca, hg])
theorem v_slf {α : Type} {rel : Rel α} {sz : Nat} {F : PH} {p : Option (Nat × Nat)} {c : Nat} {l : List α} {x : Lo} {lw hw : Option Lo} (a b : Nat) (hr : RowF rel sz F p c l) (ha : boundH 0 (lw.map (HAct.mk nt T ds).ev) = some a) (hb : boundH l.length (hw.map (HAct.mk nt T ds).ev) = some b) (h1 : a ≤ b ∧ b ≤ l.length) {m : Nat} (hm : b - a = m) (hn : ∀ p' c' n', nx ≤ n' → RowF rel sz F p' c' ((l.drop a).take (b - a)) → R lp fl os N ⟨nt, T.set d (some (.slice p' m c')), ds⟩ ⟨h, n'⟩) (hx : lo T x = .slice p l.length c := by first | exact ev_c | (apply ev_t; repeat first | exact ge_h | refine ge_w rfl ?_ | refine ge_f rfl ?_ | refine ge_m rfl ?_ | assumption)) (hd : Nat.blt d nt = true := by rfl) : R lp fl (⟨some d, .sliceS sz x lw hw, none, anc⟩ :: os) N ⟨nt, T, ds⟩ ⟨h, nx⟩ := by
  subst hm
  obtain ⟨p', c', n', e, hle, hr'⟩ := slf (h := h) (nx := nx) hr ((ev_eq (nt := nt) (ds := ds) x).trans hx) ha hb h1.1 h1.2
  exact v_go (σ' := ⟨h, n'⟩) e hd (hn p' c' n' hle hr')
theorem bd_some {k : IntKind} {y : Lo} {z : Int} {n e : Nat} (hy : lo T y = .int k z) (hz : z = n) : boundH e ((some y).map (HAct.mk nt T ds).ev) = some n := by
  show natOf ((HAct.mk nt T ds).ev y) = some n
  rw [ev_eq, hy, hz]; rfl
theorem bd_none {e : Nat} : boundH e ((none : Option Lo).map (HAct.mk nt T ds).ev) = some e := rfl
/-! results -/
def lvL {α : Type} (rel : Rel α) (sz : Nat) : PH → List α → HV → Prop := fun F l v => ∃ p c, v = .slice p l.length c ∧ RowF rel sz F p c l
def rvA {α : Type} (rel : Rel α) : PH → α → HV → Prop := fun F x v => ∃ r, v = .agg r ∧ rel F x r
/-! what a region that draws has laid -/
inductive Lay (n' : Nat) (h' : Tr HBlk) : Nat → List (Nat × List HV) → Prop where
  | nil {lo : Nat} (hl : lo ≤ n') : Lay n' h' lo []
  | cons {lo b : Nat} {cs : List HV} {E : List (Nat × List HV)} (hb : lo ≤ b) (hg : h'.get b = some (.cells cs .exact)) (hs : Lay n' h' (b + 1) E) : Lay n' h' lo ((b, cs) :: E)
theorem Lay.le {n' lo : Nat} {h' : Tr HBlk} {E : List (Nat × List HV)} (l : Lay n' h' lo E) : lo ≤ n' := by
  induction l with
  | nil h => exact h
  | cons hb hg hs ih => omega
theorem Lay.bd {n' lo : Nat} {h' : Tr HBlk} {E : List (Nat × List HV)} (l : Lay n' h' lo E) : ∀ e ∈ E, lo ≤ e.1 ∧ e.1 < n' ∧ h'.get e.1 = some (.cells e.2 .exact) := by
  induction l with
  | nil h => intro e he; cases he
  | cons hb hg hs ih =>
    have := hs.le
    intro e he
    rcases List.mem_cons.1 he with rfl | he
    · exact ⟨hb, by show _ < _; omega, hg⟩
    · have := ih e he; exact ⟨by omega, this.2.1, this.2.2⟩
theorem Lay.pw {n' lo : Nat} {h' : Tr HBlk} {E : List (Nat × List HV)} (l : Lay n' h' lo E) : (E.map fun e => LE.bx e.1 e.2).Pairwise fun e e' => ∀ b, b ∈ e.os → b ∉ e'.os := by
  induction l with
  | nil h => exact List.Pairwise.nil
  | @cons lo b cs E hb hg hs ih =>
    rw [List.map_cons]
    refine List.pairwise_cons.2 ⟨fun z hz c hc h2 => ?_, ih⟩
    obtain ⟨e, he, rfl⟩ := List.mem_map.1 hz
    have := (hs.bd e he).1
    have h3 : c = e.1 := os_bx h2
    have h4 : c = b := os_bx hc
    omega
theorem St.laid {n0 n' : Nat} {h0 h' : Tr HBlk} {F0 F : PH} {L : List LE} (st : St n0 h0 F0 F h nx L) (ex : Ext h nx h' n') {E : List (Nat × List HV)} (l : Lay n' h' nx E) : St n0 h0 F0 F h' n' (L ++ E.map fun e => .bx e.1 e.2) := by
  have s1 := st.ext1 ex
  have hne := st.ext.le
  refine ⟨s1.ext, s1.sub, s1.le, s1.lo, fun y hy c hc => ?_, fun y hy => ?_, ?_⟩
  · rcases List.mem_append.1 hy with h1 | h1
    · exact s1.off y h1 c hc
    · obtain ⟨e, he, rfl⟩ := List.mem_map.1 h1
      have := l.bd e he
      rw [os_bx hc]
      cases e2 : F e.1 with
      | none => rfl
      | some z => have := st.dom e2; omega
  · rcases List.mem_append.1 hy with h1 | h1
    · exact s1.own y h1
    · obtain ⟨e, he, rfl⟩ := List.mem_map.1 h1
      have := l.bd e he
      exact ⟨by omega, this.2.1, this.2.2⟩
  · refine List.pairwise_append.2 ⟨s1.dist, ?_, fun y hy z hz c hc => ?_⟩
    · exact l.pw
    · obtain ⟨e, he, rfl⟩ := List.mem_map.1 hz
      have := l.bd e he
      intro h2
      have h3 : c = e.1 := os_bx h2
      have := (LE.ok_bd (st.own y hy) hc).2
      omega
theorem v_mk {n0 n : Nat} {h0 : Tr HBlk} {F0 F : PH} {L : List LE} {zero : List HV} {bytes : Nat} {l c : Lo} {zl zc : Int} (st : St n0 h0 F0 F h nx L) (h1 : 0 ≤ zl) (h2 : 0 ≤ zc) (hn' : zl.toNat = n) (h3 : zl.toNat ≤ zc.toNat) (h4 : zc.toNat * bytes ≤ 35184372088832 ∧ zc.toNat ≤ 35184372088832) (hn : ∀ o h' n', St n0 h0 F0 F h' n' (L ++ [.ls o zc.toNat (repl zl.toNat zero) zero.length]) → R lp fl os N ⟨nt, T.set d (some (slv o n zc.toNat)), ds⟩ ⟨h', n'⟩) (hl : lo T l = i64 zl := by first | exact ev_c | (apply ev_t; repeat first | exact ge_h | refine ge_w rfl ?_ | refine ge_f rfl ?_ | refine ge_m rfl ?_ | assumption)) (hc : lo T c = i64 zc := by first | exact ev_c | (apply ev_t; repeat first | exact ge_h | refine ge_w rfl ?_ | refine ge_f rfl ?_ | refine ge_m rfl ?_ | assumption)) (hd : Nat.blt d nt = true := by rfl) : R lp fl (⟨some d, .makeSlice zero bytes l c, none, anc⟩ :: os) N ⟨nt, T, ds⟩ ⟨h, nx⟩ := by
  subst hn'
  exact v_ms st (Int.toNat_of_nonneg h1).symm (Int.toNat_of_nonneg h2).symm h3 h4 hn hl hc hd
/-! what lies, raw -/
theorem u_alloc {z : List HV} (hn : R lp fl os N ⟨nt, T.set d (some (.ptr (some (nx, 0)))), ds⟩ ⟨h.set nx (some (.cells z .exact)), nx + 1⟩) (hd : Nat.blt d nt = true := by rfl) : R lp fl (⟨some d, .alloc z, none, anc⟩ :: os) N ⟨nt, T, ds⟩ ⟨h, nx⟩ :=
  r_alloc (by rw [put_eq hd]; exact hn)
theorem u_bs {len : Nat} {z cs : List HV} {ps : List (Nat × Nat × Lo)} {vs : List (Nat × Nat × HV)} (hf : fillH (repl len z) vs = some cs) (hn : R lp fl os N ⟨nt, T.set d (some (.slice (some (nx, 0)) len len)), ds⟩ ⟨h.set nx (some (.cells cs .exact)), nx + 1⟩) (hp : Evp T ps vs := by repeat (first | exact Evp.nil | (apply Evp.cons; focus (first | exact ev_c | (apply ev_t; repeat first | exact ge_h | refine ge_w rfl ?_ | refine ge_f rfl ?_ | refine ge_m rfl ?_ | assumption))))) (hd : Nat.blt d nt = true := by rfl) : R lp fl (⟨some d, .buildSlice len z ps, none, anc⟩ :: os) N ⟨nt, T, ds⟩ ⟨h, nx⟩ :=
  r_bs (by rw [hp.map]; exact hf) (by rw [put_eq hd]; exact hn)
theorem u_call {f : Lo} {xs : List Lo} {k : Nat} {first captured vs args : List HV} {v : HV} (hc : C lp fl k args ⟨h, nx⟩ (KS v nx h)) (hn : ∀ n', nx ≤ n' → R lp fl os N ⟨nt, T.set d (some v), ds⟩ ⟨h, n'⟩) (hf : lo T f = .func k first captured := by first | exact ev_c | (apply ev_t; repeat first | exact ge_h | refine ge_w rfl ?_ | refine ge_f rfl ?_ | refine ge_m rfl ?_ | assumption)) (he : Evs T xs vs := by repeat (first | exact Evs.nil | (apply Evs.cons; focus (first | exact ev_c | (apply ev_t; repeat first | exact ge_h | refine ge_w rfl ?_ | refine ge_f rfl ?_ | refine ge_m rfl ?_ | assumption))))) (ha : first ++ vs ++ captured = args := by rfl) (hd : Nat.blt d nt = true := by rfl) : R lp fl (⟨some d, .call f xs, none, anc⟩ :: os) N ⟨nt, T, ds⟩ ⟨h, nx⟩ :=
  r_callc ((ev_eq f).trans hf) (by rw [he.map]; exact ha) hc fun w σ' ⟨e, n, hl, e2⟩ => by subst e; subst e2; rw [put_eq hd]; exact hn n hl
/-! regions that draw: one operation, one step -/
variable {h1 : Tr HBlk} {s n1 i : Nat} {done : List (Nat × List (Nat × HBlk))} {V : List (Nat × PH)} {T' : Tr HV}
theorem pr_nil : R lp fl [] (fun a σ' => a = ⟨nt, T, ds⟩ ∧ σ' = σ) ⟨nt, T, ds⟩ σ := r_nil ⟨rfl, rfl⟩
theorem y_pure {o : LOper} (hd : D h1 n1) (dw : Dw n1 nx h1 done V) (h2 : ∀ hm, Vw n1 nx h1 hm o.anc V → R lp (max fl nx) [o] (fun a σ => a = ⟨nt, T', ds⟩ ∧ σ = ⟨hm, nx⟩) ⟨nt, T, ds⟩ ⟨hm, nx⟩) (hr : DG lp fl s n1 h1 os (i + 1) done N ⟨nt, T', ds⟩ nx) (hi : Nat.blt i s = true := by rfl) (hw : o.anc.contains i = false := by rfl) : DG lp fl s n1 h1 (o :: os) i done N ⟨nt, T, ds⟩ nx :=
  y_step hd dw hi hw fun hm vw => by
    obtain ⟨n, a, σ, e, rfl, rfl⟩ := h2 hm vw
    exact ⟨n, _, _, e, y_same hr⟩
theorem y_flat {o : LOper} (hd : D h1 n1) (dw : Dw n1 nx h1 done V) (h2 : ∀ hm, Vw n1 nx h1 hm o.anc V → R lp (max fl nx) [o] (fun a σ => a = ⟨nt, T', ds⟩ ∧ ∃ n, nx ≤ n ∧ σ = ⟨hm, n⟩) ⟨nt, T, ds⟩ ⟨hm, nx⟩) (hr : ∀ n, nx ≤ n → Dw n1 n h1 done V → DG lp fl s n1 h1 os (i + 1) done N ⟨nt, T', ds⟩ n) (hi : Nat.blt i s = true := by rfl) (hw : o.anc.contains i = false := by rfl) : DG lp fl s n1 h1 (o :: os) i done N ⟨nt, T, ds⟩ nx :=
  y_step hd dw hi hw fun hm vw => by
    obtain ⟨n, a, σ, e, rfl, m, hm2, rfl⟩ := h2 hm vw
    exact ⟨n, _, _, e, y_call dw hm2 vw.d (hr m hm2)⟩
theorem pf_nil {n : Nat} (hn : nx ≤ n) : R lp fl [] (fun a σ' => a = ⟨nt, T, ds⟩ ∧ ∃ n, nx ≤ n ∧ σ' = ⟨h, n⟩) ⟨nt, T, ds⟩ ⟨h, n⟩ := r_nil ⟨rfl, n, hn, rfl⟩
theorem y_lay {o : LOper} {x : HBlk} (hd : D h1 n1) (dw : Dw n1 nx h1 done V) (h2 : ∀ hm, Vw n1 nx h1 hm o.anc V → R lp (max fl nx) [o] (fun a σ => a = ⟨nt, T', ds⟩ ∧ σ = ⟨hm.set nx (some x), nx + 1⟩) ⟨nt, T, ds⟩ ⟨hm, nx⟩) (hr : ∀ done', Dw n1 (nx + 1) h1 done' ((i, one nx x) :: V) → DG lp fl s n1 h1 os (i + 1) done' N ⟨nt, T', ds⟩ (nx + 1)) (hi : Nat.blt i s = true := by rfl) (hw : o.anc.contains i = false := by rfl) : DG lp fl s n1 h1 (o :: os) i done N ⟨nt, T, ds⟩ nx :=
  y_step hd dw hi hw fun hm vw => by
    obtain ⟨n, a, σ, e, rfl, rfl⟩ := h2 hm vw
    exact ⟨n, _, _, e, y_new dw hr⟩
theorem Vw.bx {n0 : Nat} {b : Nat} {cs : List HV} {hm : Tr HBlk} {A : List Nat} (vw : Vw n1 nx h1 hm A V) (ho : LE.ok n0 n1 h1 (.bx b cs)) : hm.get b = some (.cells cs .exact) := (vw.low b ho.2.1).trans ho.2.2
theorem Vw.fz {n0 : Nat} {h0 : Tr HBlk} {F0 F : PH} {L : List LE} {hm : Tr HBlk} {A : List Nat} (vw : Vw n1 nx h1 hm A V) (st : St n0 h0 F0 F h1 n1 L) {b : Nat} {x : HBlk} (hb : F b = some x) : hm.get b = some x := (vw.low b (st.dom hb)).trans (st.sub b x hb)
theorem Vw.sub {n0 : Nat} {h0 : Tr HBlk} {F0 F : PH} {L : List LE} {hm : Tr HBlk} {A : List Nat} (vw : Vw n1 nx h1 hm A V) (st : St n0 h0 F0 F h1 n1 L) : F.sub hm := fun b x hb => vw.fz st hb
/-- All that lay there ahead of the region, for a call that hands back plain values. -/
theorem Vw.all {hm : Tr HBlk} {A : List Nat} (vw : Vw n1 nx h1 hm A V) (hd : D h1 n1) : PH.sub (all h1) hm := fun b x hb => by
  have : b < n1 := by
    refine Nat.not_le.1 fun hle => ?_
    unfold D at hd
    have hb' : h1.get b = some x := hb
    rw [hd b hle] at hb'; cases hb'
  rw [vw.low b this]; exact hb
end
end Go.Hx.V

/- Regions that draw in which calls hand back lists; lists that are built in one step; appending whole lists. -/
namespace Go.Hx.V
set_option linter.unusedVariables false
open Go.Hx
/-- What is frozen, of what some operations have laid. -/
def FF (F : PH) (W : List (Nat × PH)) (f : Nat → Bool) : PH := fun b =>
  match F b with
  | some x => some x
  | none => W.findSome? fun e => if f e.1 then e.2 b else none
structure Wf (F : PH) (n1 : Nat) (V W : List (Nat × PH)) : Prop where
  sub : W.Sublist V
  dom : ∀ b x, F b = some x → b < n1
section
variable {lp : Nat → Option LFunc} {fl : Nat} {rd : Option Nat} {Q : HExit → HAct → HS → Prop} {N : HAct → HS → Prop} {nt d : Nat} {T : Tr HV} {ds : List Nat} {os : List LOper}
variable {h1 hm h0 : Tr HBlk} {nx s n1 n0 i : Nat} {done : List (Nat × List (Nat × HBlk))} {V W : List (Nat × PH)} {F F0 : PH} {L : List LE}
theorem Wf.start (st : St n0 h0 F0 F h1 n1 L) : Wf F n1 [] [] := ⟨List.Sublist.refl _, fun b x hx => st.dom hx⟩
theorem Wf.lay (wf : Wf F n1 V W) {e : Nat × PH} : Wf F n1 (e :: V) W := ⟨wf.sub.cons e, wf.dom⟩
theorem Wf.deep (wf : Wf F n1 V W) {e : Nat × PH} : Wf F n1 (e :: V) (e :: W) := ⟨List.Sublist.cons_cons e wf.sub, wf.dom⟩
theorem FF.base {f : Nat → Bool} : PH.le F (FF F W f) := fun b x hx => by unfold FF; rw [hx]
theorem FF.inv {f : Nat → Bool} {b : Nat} {x : HBlk} (h : FF F W f b = some x) : F b = some x ∨ ∃ e ∈ W, f e.1 = true ∧ e.2 b = some x := by
  unfold FF at h
  cases hF : F b with
  | some y => rw [hF] at h; exact .inl h
  | none =>
    rw [hF] at h
    obtain ⟨e, he, h2⟩ := List.exists_of_findSome?_eq_some h
    by_cases hf : f e.1 = true
    · rw [if_pos hf] at h2; exact .inr ⟨e, he, hf, h2⟩
    · rw [if_neg hf] at h2; cases h2
theorem FF.of {f : Nat → Bool} (wf : Wf F n1 V W) (dw : Dw n1 nx h1 done V) {e : Nat × PH} (he : e ∈ W) (hf : f e.1 = true) {b : Nat} {x : HBlk} (hb : e.2 b = some x) : FF F W f b = some x := by
  have hFn : F b = none := by
    cases hF : F b with
    | none => rfl
    | some y => have := wf.dom b y hF; have := dw.bd e (wf.sub.mem he) b x hb; omega
  unfold FF
  rw [hFn]
  show W.findSome? _ = _
  have hp := dw.dis.sublist wf.sub
  clear hFn
  have : ∀ W : List (Nat × PH), e ∈ W → W.Pairwise (fun e e' => ∀ b x, e.2 b = some x → e'.2 b = none) → (W.findSome? fun e => if f e.1 then e.2 b else none) = some x := fun W => by
    induction W with
    | nil => intro he; cases he
    | cons a W ih =>
      intro he hp
      rw [List.findSome?_cons]
      rcases List.mem_cons.1 he with rfl | h2
      · rw [if_pos hf, hb]
      · have h3 := List.pairwise_cons.1 hp
        have : a.2 b = none := by
          cases ha : a.2 b with
          | none => rfl
          | some y => have := h3.1 e h2 b y ha; rw [this] at hb; cases hb
        have e2 : (if f a.1 then a.2 b else none) = none := by rw [this]; split <;> rfl
        rw [e2]
        exact ih h2 h3.2
  exact this W he hp
theorem FF.mono (wf : Wf F n1 V W) (dw : Dw n1 nx h1 done V) {f g : Nat → Bool} (h : ∀ j, f j = true → g j = true) : PH.le (FF F W f) (FF F W g) := fun b x hx => by
  rcases FF.inv hx with h2 | ⟨e, he, hf, h2⟩
  · exact FF.base b x h2
  · exact FF.of wf dw he (h _ hf) h2
theorem FF.sub (wf : Wf F n1 V W) (st : St n0 h0 F0 F h1 n1 L) {A : List Nat} (vw : Vw n1 nx h1 hm A V) : PH.sub (FF F W A.contains) hm := fun b x hx => by
  rcases FF.inv hx with h2 | ⟨e, he, hf, h2⟩
  · exact vw.fz st h2
  · exact vw.vis e (wf.sub.mem he) hf b x h2
theorem FF.cons (wf : Wf F n1 V W) {e : Nat × PH} (wf2 : Wf F n1 (e :: V) (e :: W)) (dw : Dw n1 nx h1 done (e :: V)) {f : Nat → Bool} : PH.le (FF F W f) (FF F (e :: W) f) := fun b x hx => by
  rcases FF.inv hx with h2 | ⟨c, he, hf, h2⟩
  · exact FF.base b x h2
  · exact FF.of wf2 dw (List.mem_cons_of_mem _ he) hf h2
/-- What one has laid another one has not. -/
theorem Dw.not (dw : Dw n1 nx h1 done V) {j k b : Nat} {x : HBlk} {G : PH} (hs : [(j, one b x), (k, G)].Sublist V ∨ [(k, G), (j, one b x)].Sublist V) : G b = none := by
  have e : one b x b = some x := if_pos rfl
  rcases hs with h | h
  · have p := dw.dis.sublist h
    exact (List.pairwise_cons.1 p).1 _ (List.mem_cons_self ..) b x e
  · have p := dw.dis.sublist h
    cases hG : G b with
    | none => rfl
    | some y =>
      have := (List.pairwise_cons.1 p).1 _ (List.mem_cons_self ..) b y hG
      have t2 : one b x b = none := this
      rw [e] at t2; cases t2
theorem RowF.blk {α : Type} {rel : Rel α} {sz : Nat} [OkR rel sz] {G : PH} {a : Nat} {cs : List HV} {k : BK} {l : List α} (hg : G a = some (.cells cs k)) (lr : LR rel sz F l cs) (hl : PH.le F G) {c : Nat} (hc : l.length ≤ c := by exact Nat.le_refl _) : RowF rel sz G (some (a, 0)) c l := ⟨hc, fun _ =>
  ⟨a, 0, cs, k, rfl, hg, fun i x hx => by
    obtain ⟨r, g1, g2⟩ := lr.2 i x hx
    exact ⟨r, by rw [Nat.zero_add]; exact g1, OkR.mono hl g2⟩⟩⟩
theorem g_skipu {op : LOp} {anc : List Nat} {t : Nat} {w : Bool} {σ : HS} (hn : R lp fl os N ⟨nt, T.set d (some .undef), ds⟩ σ) (hx : lo T (.t t) = .undef := by first | exact ev_c | (apply ev_t; repeat first | exact ge_h | refine ge_w rfl ?_ | refine ge_f rfl ?_ | refine ge_m rfl ?_ | assumption)) (hd : Nat.blt d nt = true := by rfl) : R lp fl (⟨some d, op, some (t, w), anc⟩ :: os) N ⟨nt, T, ds⟩ σ :=
  r_not (by show (match (HAct.mk nt T ds).tmp t with | .bool b => b == w | _ => false) = false; rw [show (HAct.mk nt T ds).tmp t = .undef from hx]; rfl) (by rw [put_eq hd]; exact hn)
/-- A slice that was built is a list that is owned. -/
theorem St.asL (st : St n0 h0 F0 F h1 nx L) (i : Nat) {b n sz : Nat} {cs : List HV} (hi : L[i]? = some (.bx b cs)) (hl : cs.length = n * sz) : St n0 h0 F0 F h1 nx (L.set i (.ls (some b) n cs sz)) := by
  obtain ⟨b1, b2, b3⟩ := st.at hi
  have s := st.swap (e' := .ls (some b) n cs sz) hi (h' := h1) (n' := nx) (Nat.le_refl _) st.d (fun _ _ _ => rfl) (fun c hc => .inl hc) ⟨b1, b2, .inr ⟨[], by rw [List.append_nil]; exact b3, by rw [List.append_nil]; exact hl⟩⟩
  exact s
/-- All cells of a list. -/
theorem RowF.cells {α : Type} {rel : Rel α} {sz : Nat} [OkR rel sz] {p : Option (Nat × Nat)} {c : Nat} {l : List α} (hr : RowF rel sz F p c l) : ∃ row, LR rel sz F l row ∧ (l ≠ [] → ∃ b o cs k, p = some (b, o) ∧ F b = some (.cells cs k) ∧ takeN (l.length * sz) (cs.drop o) = some row) := by
  by_cases hne : l = []
  · subst hne; exact ⟨[], LR.nil, fun h => absurd rfl h⟩
  obtain ⟨b, o, cs, k, h1, h2, h3⟩ := hr.2 hne
  have key : ∀ (m : List α) (cs : List HV), (∀ i x, m[i]? = some x → ∃ r, takeN sz (cs.drop (i * sz)) = some r ∧ rel F x r) → ∃ row, LR rel sz F m row ∧ takeN (m.length * sz) cs = some row := fun m => by
    induction m with
    | nil => intro cs h; exact ⟨[], LR.nil, by simp; cases cs <;> rfl⟩
    | cons x m ih =>
      intro cs h
      obtain ⟨r, g1, g2⟩ := h 0 x rfl
      rw [Nat.zero_mul, List.drop_zero] at g1
      obtain ⟨row, q1, q2⟩ := ih (cs.drop sz) fun i y hy => by
        obtain ⟨r, g3, g4⟩ := h (i + 1) y hy
        refine ⟨r, ?_, g4⟩
        rw [List.drop_drop, show sz + i * sz = (i + 1) * sz by rw [Nat.add_mul]; omega]
        exact g3
      refine ⟨r ++ row, (LR.one g2).app q1, ?_⟩
      rw [List.length_cons, show (m.length + 1) * sz = sz + m.length * sz by rw [Nat.add_mul]; omega]
      exact take_split _ _ _ _ _ g1 q2
  obtain ⟨row, q1, q2⟩ := key l (cs.drop o) fun i x hx => by
    obtain ⟨r, g1, g2⟩ := h3 i x hx
    exact ⟨r, by rw [List.drop_drop]; exact g1, g2⟩
  exact ⟨row, q1, fun _ => ⟨b, o, cs, k, h1, h2, q2⟩⟩
/-- A whole list is appended. -/
theorem v_apr {α : Type} {rel : Rel α} {s' x : Lo} {o : Option Nat} {p : Option (Nat × Nat)} {c sz m cx bytes : Nat} {cs : List HV} {l k : List α} {anc : List Nat} [OkR rel sz] (st : St n0 h0 F0 F h1 nx L) (i : Nat) (hi : L[i]? = some (.ls o c cs sz)) (hk : LR rel sz F k cs) (hr : RowF rel sz F p cx l) (hb : (k.length + l.length) * bytes ≤ 35184372088832 ∧ k.length + l.length ≤ 35184372088832) (hfl : fl ≤ n0) (hz : 0 < sz) (hm : k.length + l.length = m)
    (hn : ∀ o' c' cs' h' n', St n0 h0 F0 F h' n' (L.set i (.ls o' c' cs' sz)) → LR rel sz F (k ++ l) cs' → R lp fl os N ⟨nt, T.set d (some (slv o' m c')), ds⟩ ⟨h', n'⟩)
    (hs : lo T s' = slv o k.length c := by first | exact ev_c | (apply ev_t; repeat first | exact ge_h | refine ge_w rfl ?_ | refine ge_f rfl ?_ | refine ge_m rfl ?_ | assumption)) (hx : lo T x = .slice p l.length cx := by first | exact ev_c | (apply ev_t; repeat first | exact ge_h | refine ge_w rfl ?_ | refine ge_f rfl ?_ | refine ge_m rfl ?_ | assumption)) (hd : Nat.blt d nt = true := by rfl) : R lp fl (⟨some d, .append sz bytes s' x, none, anc⟩ :: os) N ⟨nt, T, ds⟩ ⟨h1, nx⟩ := by
  subst hm
  obtain ⟨row, q1, q2⟩ := RowF.cells hr
  by_cases hne : l = []
  · subst hne
    have e := St.append0 (fl := fl) (bytes := bytes) (px := p) (cx := cx) (p := none) st hi hk.1 hz
    refine r_app ((ev_eq s').trans hs) ((ev_eq x).trans hx) e ?_
    rw [put_eq hd]
    have hL : L.set i (.ls o c cs sz) = L := by
      have hil : i < L.length := by
        rcases Nat.lt_or_ge i L.length with g | g
        · exact g
        · rw [List.getElem?_eq_none g] at hi; cases hi
      rw [List.getElem?_eq_getElem hil] at hi
      rw [← Option.some.inj hi, List.set_getElem_self]
    have := hn o c cs h1 nx (by rw [hL]; exact st) (by rw [List.append_nil]; exact hk)
    exact this
  · obtain ⟨b, oo, csx, kx, rfl, g1, g2⟩ := q2 hne
    obtain ⟨o', c', h', n', e, s2⟩ := st.append i hi hk.1 hz hfl (st.sub _ _ g1) g2 (LR.all1 q1) (List.length_pos_iff.2 hne) hb.1 hb.2 (cx := cx)
    exact r_app ((ev_eq s').trans hs) ((ev_eq x).trans hx) e (by rw [put_eq hd]; exact hn _ _ _ _ _ s2 (hk.app q1))
end
end Go.Hx.V

/- Ranges over functions, calls that are walked in place, ends of functions with marks; cuts and loops in which marks grow. -/
namespace Go.Hx.V
set_option linter.unusedVariables false
open Go.Hx
section
variable {lp : Nat → Option LFunc} {fl : Nat} {rd : Option Nat} {Q : HExit → HAct → HS → Prop} {N : HAct → HS → Prop} {nt d : Nat} {T : Tr HV} {ds : List Nat} {os : List LOper} {σ : HS} {anc : List Nat}
variable {h h0 : Tr HBlk} {nx n0 : Nat} {F F0 : PH} {L : List LE}
theorem w_cutD {x y : LCode} (p : Tr HV → List Nat → Tr HBlk → Nat → Prop) (h1 : W lp fl rd x (thenH (fun a σ => a.nt = nt ∧ p a.tmps a.defers σ.h σ.nx) Q) ⟨nt, T, ds⟩ σ) (h2 : ∀ T ds h nx, p T ds h nx → W lp fl rd y Q ⟨nt, T, ds⟩ ⟨h, nx⟩) : W lp fl rd (.seq x y) Q ⟨nt, T, ds⟩ σ := by
  refine w_seq (h1.mono fun e a σ hq => ?_)
  cases e with
  | normal =>
    obtain ⟨e1, hp⟩ := hq
    obtain ⟨n, t, df⟩ := a
    obtain ⟨h, nx⟩ := σ
    cases e1
    exact h2 t df h nx hp
  | exit i => exact hq
  | ret => exact hq
theorem v_loopD {α β : Type} {B : LCode} (step : α → Option (α ⊕ β)) (p : α → Tr HV → List Nat → Tr HBlk → Nat → Prop) (Qy : β → HExit → HAct → HS → Prop)
    (hB : ∀ x T ds h nx s, p x T ds h nx → step x = some s → W lp fl rd B (thenH (fun a σ => ∃ x', s = .inl x' ∧ a.nt = nt ∧ p x' a.tmps a.defers σ.h σ.nx) (fun e a σ => ∃ y, s = .inr y ∧ Qy y e a σ)) ⟨nt, T, ds⟩ ⟨h, nx⟩) :
    ∀ (m : Nat) (x : α) (y : β) (T : Tr HV) (ds : List Nat) (h : Tr HBlk) (nx : Nat), iter step m x = some y → p x T ds h nx → (∀ e a σ, e ≠ .normal → Qy y e a σ → Q e a σ) → W lp fl rd (.loop B) Q ⟨nt, T, ds⟩ ⟨h, nx⟩
  | 0, x, y, T, ds, h, nx, hi, hp, hq => by cases hi
  | m + 1, x, y, T, ds, h, nx, hi, hp, hq => by
    obtain ⟨s, hs, hi⟩ := Option.bind_eq_some_iff.1 hi
    refine w_iter ((hB x T ds h nx s hp hs).mono fun e a σ h1 => ?_)
    cases e with
    | normal =>
      obtain ⟨x', rfl, e1, hp'⟩ := h1
      obtain ⟨n, t, df⟩ := a
      obtain ⟨g, n1⟩ := σ
      have e1' : nt = n := e1.symm
      subst e1'
      exact v_loopD step p Qy hB m x' y t df g n1 hi hp' hq
    | exit i =>
      obtain ⟨y', rfl, h2⟩ := h1
      cases hi
      exact hq _ _ _ (fun e => by cases e) h2
    | ret =>
      obtain ⟨y', rfl, h2⟩ := h1
      cases hi
      exact hq _ _ _ (fun e => by cases e) h2
/-- A call that is walked in place. -/
def IK (lp : Nat → Option LFunc) (fl : Nat) (os : List LOper) (N : HAct → HS → Prop) (nt d : Nat) (T : Tr HV) (ds : List Nat) : HV → HS → Prop := fun v σ' => R lp fl os N ⟨nt, T.set d (some v), ds⟩ σ'
theorem v_inl {f : Lo} {xs : List Lo} {k : Nat} {first captured vs args : List HV} {lf : LFunc} (hk : lp k = some lf) (hs : lf.spec = none) (him : lf.imp = true)
    (hw : ∀ T', (∀ j v, args[j]? = some v → T'.get j = some v) → W lp fl none lf.body (Fim fl lf.res (IK lp fl os N nt d T ds)) ⟨lf.nt, T', []⟩ σ)
    (hf : lo T f = .func k first captured := by first | exact ev_c | (apply ev_t; repeat first | exact ge_h | refine ge_w rfl ?_ | refine ge_f rfl ?_ | refine ge_m rfl ?_ | assumption))
    (he : Evs T xs vs := by repeat (first | exact Evs.nil | (apply Evs.cons; focus (first | exact ev_c | (apply ev_t; repeat first | exact ge_h | refine ge_w rfl ?_ | refine ge_f rfl ?_ | refine ge_m rfl ?_ | assumption)))))
    (ha : first ++ vs ++ captured = args := by rfl) (hl : Nat.ble args.length lf.nt = true := by rfl) (hd : Nat.blt d nt = true := by rfl) : R lp fl (⟨some d, .call f xs, none, anc⟩ :: os) N ⟨nt, T, ds⟩ σ :=
  r_callc ((ev_eq f).trans hf) (by rw [he.map]; exact ha) (c_im hk hs him hl (hw _ fun j v hv => by
    have hlt : j < args.length := by
      rcases Nat.lt_or_ge j args.length with g | g
      · exact g
      · rw [List.getElem?_eq_none g] at hv; cases hv
    rw [putAll_get, if_pos ⟨by omega, by omega⟩]; exact hv)) fun v σ' h => by rw [put_eq hd]; exact h
theorem inl_end {res : List LRes} {vs : List HV} {v : HV} {nt' : Nat} {T' : Tr HV} {e : HExit} {K : HV → HS → Prop} (hr : Res T' h res vs) (hv : oneOf vs = v) (he : e = .ret ∨ e = .normal) (hk : K v ⟨h, nx⟩) : Fim fl res K e ⟨nt', T', []⟩ ⟨h, nx⟩ := by
  subst hv
  have key : ∃ v σ'', leaveH fl ⟨nt', T', []⟩ res (⟨h, nx⟩ : HS) = some (v, σ'') ∧ K v σ'' := ⟨oneOf vs, ⟨h, nx⟩, leave_many rfl hr.eq, hk⟩
  rcases he with rfl | rfl <;> unfold Fim <;> exact key
theorem ik {v : HV} (hr : R lp fl os N ⟨nt, T.set d (some v), ds⟩ ⟨h, nx⟩) : IK lp fl os N nt d T ds v ⟨h, nx⟩ := hr
/-! marks go at the end -/
end
end Go.Hx.V

/- What is known of the temporaries, and no more. -/
namespace Go.Hx.V
open Go.Hx
variable {lp : Nat → Option LFunc} {fl nt : Nat} {rd : Option Nat} {Q : HExit → HAct → HS → Prop} {T : Tr HV} {ds : List Nat} {σ : HS} {c : LCode}
end Go.Hx.V

/- Arrays at the end of what a box holds, as functions of places. -/
namespace Go.Hx.V
open Go.Hx
def eI (k : IntKind) (n : Nat) (f : Nat → Int) : List HV := (List.range n).map fun i => .int k (f i)
def eB (n : Nat) (f : Nat → Bool) : List HV := (List.range n).map fun i => .bool (f i)
def ups {α : Type} (f : Nat → α) (j : Nat) (v : α) : Nat → α := fun i => if i = j then v else f i
section
variable {k : IntKind} {n : Nat} {f : Nat → Int} {g : Nat → Bool}
theorem eI_len : (eI k n f).length = n := by unfold eI; rw [List.length_map, List.length_range]
theorem eB_len : (eB n g).length = n := by unfold eB; rw [List.length_map, List.length_range]
theorem eI_one : (eI k n f).all HV.one = true := by
  unfold eI; rw [List.all_map, List.all_eq_true]; intro i _; rfl
theorem eB_one : (eB n g).all HV.one = true := by
  unfold eB; rw [List.all_map, List.all_eq_true]; intro i _; rfl
theorem eI_get {i : Nat} (h : i < n) : (eI k n f)[i]? = some (.int k (f i)) := by
  unfold eI; rw [List.getElem?_map, List.getElem?_range h]; rfl
theorem eB_get {i : Nat} (h : i < n) : (eB n g)[i]? = some (.bool (g i)) := by
  unfold eB; rw [List.getElem?_map, List.getElem?_range h]; rfl
theorem ovw1 : ∀ (l : List HV) (i : Nat) (v : HV), i < l.length → overwrite l i [v] = some (l.set i v)
  | [], i, v, h => by simp at h
  | x :: l, 0, v, h => by cases l <;> rfl
  | x :: l, i + 1, v, h => by
    show (overwrite l i [v]).map _ = _
    rw [ovw1 l i v (by simpa using h)]; rfl
theorem eI_set {i : Nat} {v : Int} : (eI k n f).set i (.int k v) = eI k n (ups f i v) := by
  apply List.ext_getElem?
  intro j
  rw [List.getElem?_set]
  by_cases hj : j < n
  · rw [eI_get (f := ups f i v) hj, eI_len]
    by_cases e : i = j
    · subst e; rw [if_pos rfl, if_pos hj]; unfold ups; rw [if_pos rfl]
    · rw [if_neg e, eI_get hj]; unfold ups; rw [if_neg (Ne.symm e)]
  · rw [List.getElem?_eq_none (l := eI k n (ups f i v)) (by rw [eI_len]; omega), List.getElem?_eq_none (l := eI k n f) (by rw [eI_len]; omega), eI_len]
    by_cases e : i = j
    · subst e; rw [if_pos rfl, if_neg hj]
    · rw [if_neg e]
theorem eB_set {i : Nat} {v : Bool} : (eB n g).set i (.bool v) = eB n (ups g i v) := by
  apply List.ext_getElem?
  intro j
  rw [List.getElem?_set]
  by_cases hj : j < n
  · rw [eB_get (g := ups g i v) hj, eB_len]
    by_cases e : i = j
    · subst e; rw [if_pos rfl, if_pos hj]; unfold ups; rw [if_pos rfl]
    · rw [if_neg e, eB_get hj]; unfold ups; rw [if_neg (Ne.symm e)]
  · rw [List.getElem?_eq_none (l := eB n (ups g i v)) (by rw [eB_len]; omega), List.getElem?_eq_none (l := eB n g) (by rw [eB_len]; omega), eB_len]
    by_cases e : i = j
    · subst e; rw [if_pos rfl, if_neg hj]
    · rw [if_neg e]
theorem ar_set (P : List HV) {p off ix : Nat} {v : Int} (hp : P.length = p) (ho : off = p + ix) (hl : ix < n) : overwrite (P ++ eI k n f) off [.int k v] = some (P ++ eI k n (ups f ix v)) := by
  rw [ovw1 _ _ _ (by rw [List.length_append, eI_len]; omega), List.set_append_right _ _ (by omega), show off - P.length = ix by omega, eI_set]
theorem ar_setB (P : List HV) {p off ix : Nat} {v : Bool} (hp : P.length = p) (ho : off = p + ix) (hl : ix < n) : overwrite (P ++ eB n g) off [.bool v] = some (P ++ eB n (ups g ix v)) := by
  rw [ovw1 _ _ _ (by rw [List.length_append, eB_len]; omega), List.set_append_right _ _ (by omega), show off - P.length = ix by omega, eB_set]
end
theorem ar_get0 {k : IntKind} {n : Nat} {f : Nat → Int} {off ix : Nat} (ho : off = ix) (hl : ix < n) : (eI k n f)[off]? = some (.int k (f ix)) := by rw [ho]; exact eI_get hl
theorem ar_get0B {n : Nat} {g : Nat → Bool} {off ix : Nat} (ho : off = ix) (hl : ix < n) : (eB n g)[off]? = some (.bool (g ix)) := by rw [ho]; exact eB_get hl
theorem ar_set0 {k : IntKind} {n : Nat} {f : Nat → Int} {off ix : Nat} {v : Int} (ho : off = ix) (hl : ix < n) : overwrite (eI k n f) off [.int k v] = some (eI k n (ups f ix v)) := ar_set (p := 0) [] rfl (by omega) hl
theorem ar_set0B {n : Nat} {g : Nat → Bool} {off ix : Nat} {v : Bool} (ho : off = ix) (hl : ix < n) : overwrite (eB n g) off [.bool v] = some (eB n (ups g ix v)) := ar_setB (p := 0) [] rfl (by omega) hl
theorem tk_tail (P1 P2 : List HV) {E : List HV} {m off n : Nat} (h1 : P1.length = off) (hE : E.length = m) (h2 : P2.length + m = n) : takeN n ((P1 ++ (P2 ++ E)).drop off) = some (P2 ++ E) := by
  rw [← h1, List.drop_left, ← h2, ← hE, ← List.length_append]; exact takeN_all _
theorem ov_full : ∀ (q r : List HV), q.length = r.length → overwrite q 0 r = some r
  | [], [], _ => rfl
  | x :: q, [], h => by simp at h
  | [], y :: r, h => by simp at h
  | x :: q, y :: r, h => by
    show (overwrite q 0 r).map _ = _
    rw [ov_full q r (by simpa using h)]; rfl
theorem ov_tail : ∀ (P : List HV) {q r : List HV} {off : Nat}, P.length = off → q.length = r.length → overwrite (P ++ q) off r = some (P ++ r)
  | [], q, r, off, h, e => by rw [← h]; exact ov_full q r e
  | x :: P, q, [], off, h, e => by
    have : q = [] := List.length_eq_zero_iff.1 (by simpa using e)
    subst this
    cases off <;> rfl
  | x :: P, q, y :: r, off, h, e => by
    subst h
    show (overwrite (P ++ q) P.length (y :: r)).map _ = _
    rw [ov_tail P rfl e]; rfl
theorem len_tail (P : List HV) {E : List HV} {m n : Nat} (hE : E.length = m) (h : P.length + m = n) : (P ++ E).length = n := by rw [List.length_append, hE, h]
theorem one_tail (P : List HV) {E : List HV} (h : P.all HV.one = true) (hE : E.all HV.one = true) : (P ++ E).all HV.one = true := by rw [List.all_append, h, hE]; rfl
section
variable {n0 nx : Nat} {h0 h : Tr HBlk} {F0 F : PH} {L : List LE}
theorem St.cells (st : St n0 h0 F0 F h nx L) (i : Nat) {b : Nat} {cs : List HV} (hi : L[i]? = some (.bx b cs)) (cs' : List HV) (he : cs = cs') : St n0 h0 F0 F h nx (L.set i (.bx b cs')) := by
  subst he
  have : L.set i (.bx b cs) = L := by
    apply List.ext_getElem?
    intro j
    rw [List.getElem?_set]
    by_cases e : i = j
    · subst e
      rw [if_pos rfl, hi]
      split
      · rfl
      · rename_i hn; rw [List.getElem?_eq_none (by omega)] at hi; cases hi
    · rw [if_neg e]
  rw [this]; exact st
end
def rF (k : IntKind) (n : Nat) : Rel (Nat → Int) := fun _ f r => r = eI k n f
def rFB (n : Nat) : Rel (Nat → Bool) := fun _ f r => r = eB n f
instance {k : IntKind} {n : Nat} : OkR (rF k n) n := ⟨fun _ h => h, fun h => by rw [h]; exact eI_len, fun h => by rw [h]; exact eI_one⟩
instance {n : Nat} : OkR (rFB n) n := ⟨fun _ h => h, fun h => by rw [h]; exact eB_len, fun h => by rw [h]; exact eB_one⟩
end Go.Hx.V

/- Maps, as functions from keys. -/
namespace Go.Hx.V
set_option linter.unusedVariables false
open Go.Hx
def KD {κ : Type} [DecidableEq κ] (D : ED) (en : κ → HV) : Prop := ∀ a b : κ, eqH D (en a) (en b) = some (decide (a = b))
def KRw {κ : Type} [DecidableEq κ] (ks : List Leaf) (en : κ → List HV) : Prop := ∀ a b : κ, eqRow ks (en a) (en b) = some (decide (a = b))
theorem KD.int {k : IntKind} : KD (.cell (.i k)) (fun x : Int => .int k x) := fun a b => by
  show (if k = k ∧ k = k then some (a == b) else none) = _
  rw [if_pos ⟨rfl, rfl⟩]; rfl
theorem KRw.one {k : IntKind} : KRw [.i k] (fun x : Int => [.int k x]) := fun a b => by
  show (match (if k = k ∧ k = k then some (a == b) else none), some true with | some a, some b => some (a && b) | _, _ => none) = _
  rw [if_pos ⟨rfl, rfl⟩]
  show some ((a == b) && true) = _
  rw [Bool.and_true]; rfl
theorem KRw.cons {κ : Type} [DecidableEq κ] {ks : List Leaf} {en : κ → List HV} {k : IntKind} (h : KRw ks en) : KRw (.i k :: ks) (fun p : Int × κ => .int k p.1 :: en p.2) := fun a b => by
  show (match (if k = k ∧ k = k then some (a.1 == b.1) else none), eqRow ks (en a.2) (en b.2) with | some a, some b => some (a && b) | _, _ => none) = _
  rw [if_pos ⟨rfl, rfl⟩, h a.2 b.2]
  show some ((a.1 == b.1) && decide (a.2 = b.2)) = _
  congr 1
  obtain ⟨a1, a2⟩ := a
  obtain ⟨b1, b2⟩ := b
  by_cases c : a1 = b1
  · by_cases c' : a2 = b2
    · subst c; subst c'; simp
    · simp [c, c']
  · simp [c]
theorem KD.row {κ : Type} [DecidableEq κ] {ks : List Leaf} {en : κ → List HV} (h : KRw ks en) : KD (.row ks) (fun k => .agg (en k)) := h
section
variable {κ β : Type} [DecidableEq κ]
def look : List (κ × β) → κ → Option β
  | [], _ => none
  | (x, v) :: l, k => if k = x then some v else look l k
def putM (k : κ) (v : β) : List (κ × β) → List (κ × β)
  | [] => [(k, v)]
  | (x, u) :: l => if k = x then (k, v) :: l else (x, u) :: putM k v l
def upm (m : κ → Option β) (k : κ) (v : β) : κ → Option β := fun j => if j = k then some v else m j
theorem look_put {k : κ} {v : β} : ∀ (l : List (κ × β)) (j : κ), look (putM k v l) j = if j = k then some v else look l j
  | [], j => rfl
  | (x, u) :: l, j => by
    unfold putM
    by_cases c : k = x
    · rw [if_pos c]
      unfold look
      by_cases c' : j = k
      · rw [if_pos c', if_pos c']
      · rw [if_neg c', if_neg c', if_neg (fun e => c' (e.trans c.symm))]
    · rw [if_neg c]
      unfold look
      by_cases c' : j = x
      · rw [if_pos c', if_neg (fun e => c (e.symm.trans c')), if_pos c']
      · rw [if_neg c', if_neg c', look_put l j]
def MR (D : ED) (en : κ → HV) (ev : β → HV) (es : List (HV × HV)) (m : κ → Option β) : Prop := KD D en ∧ ∃ l : List (κ × β), es = l.map (fun p => (en p.1, ev p.2)) ∧ ∀ k, m k = look l k
theorem MR.nil {D : ED} {en : κ → HV} {ev : β → HV} (h : KD D en) : MR D en ev [] (fun _ => none) := ⟨h, [], rfl, fun _ => rfl⟩
theorem MR.upd {D : ED} {en : κ → HV} {ev : β → HV} {es : List (HV × HV)} {m : κ → Option β} (h : MR D en ev es m) (k : κ) (v : β) : ∃ es', updH D (en k) (ev v) es = some es' ∧ MR D en ev es' (upm m k v) := by
  obtain ⟨hd, l, rfl, hm⟩ := h
  refine ⟨(putM k v l).map (fun p => (en p.1, ev p.2)), ?_, hd, putM k v l, rfl, fun j => ?_⟩
  · clear hm
    induction l with
    | nil => rfl
    | cons p l ih =>
      obtain ⟨x, u⟩ := p
      show (match eqH D (en k) (en x) with | some true => some ((en k, ev v) :: l.map fun p : κ × β => (en p.1, ev p.2)) | some false => (updH D (en k) (ev v) (l.map fun p : κ × β => (en p.1, ev p.2))).map ((en x, ev u) :: ·) | none => none) = _
      rw [hd k x]
      unfold putM
      by_cases c : k = x
      · rw [decide_eq_true c, if_pos c]; rfl
      · rw [decide_eq_false c, if_neg c]
        show (updH D (en k) (ev v) (l.map fun p : κ × β => (en p.1, ev p.2))).map ((en x, ev u) :: ·) = _
        rw [ih]; rfl
  · rw [look_put]
    unfold upm
    rw [hm j]
theorem MR.key {D : ED} {en : κ → HV} {ev : β → HV} {es : List (HV × HV)} {m : κ → Option β} (h : MR D en ev es m) (k : κ) : keyOk D (en k) = true := by
  unfold keyOk; rw [h.1 k k]; rfl
end
section
variable {lp : Nat → Option LFunc} {fl : Nat} {N : HAct → HS → Prop} {nt d : Nat} {T : Tr HV} {ds : List Nat} {h : Tr HBlk} {nx : Nat} {os : List LOper} {anc : List Nat} {κ β : Type} [DecidableEq κ]
end
end Go.Hx.V

/- Appending, in the part of a region that draws, to a row that this part itself has laid. -/
namespace Go.Hx.V
set_option linter.unusedVariables false
open Go.Hx
section
variable {lp : Nat → Option LFunc} {fl : Nat} {N : HAct → HS → Prop} {nt d : Nat} {T : Tr HV} {ds : List Nat} {os : List LOper}
variable {h1 hm h0 : Tr HBlk} {nx s n1 n0 i : Nat} {done : List (Nat × List (Nat × HBlk))} {V : List (Nat × PH)} {F F0 : PH} {L : List LE}
theorem sl_len {α : Type} {l : List α} {a b : Nat} (h : b ≤ l.length) : b - a = ((l.drop a).take (b - a)).length := by rw [List.length_take, List.length_drop]; omega
end
end Go.Hx.V

/- Arrays of pairs at the end of what a box holds. -/
namespace Go.Hx.V
open Go.Hx
section
variable {k : IntKind} {n : Nat} {f : Nat → Int}
end
section
variable {k : IntKind} {n : Nat} {f : Nat → Int}
end
end Go.Hx.V

/- Stores, in the part of a region that draws, to boxes that this part itself has laid. -/
namespace Go.Hx.V
set_option linter.unusedVariables false
open Go.Hx
theorem LR.cons1 {α : Type} {rel : Rel α} {sz : Nat} [OkR rel sz] {F : PH} {x : α} {r : List HV} {l : List α} {cs : List HV} (h : rel F x r) (t : LR rel sz F l cs) : LR rel sz F (x :: l) (r ++ cs) := (LR.one h).app t
section
variable {lp : Nat → Option LFunc} {fl : Nat} {N : HAct → HS → Prop} {nt d : Nat} {T : Tr HV} {ds : List Nat} {os : List LOper}
variable {h1 hm h0 : Tr HBlk} {nx s n1 n0 i : Nat} {done : List (Nat × List (Nat × HBlk))} {V : List (Nat × PH)} {F F0 : PH} {L : List LE}
end
end Go.Hx.V

/- A store into an element of a list that is owned. -/
namespace Go.Hx.V
set_option linter.unusedVariables false
section
variable {lp : Nat → Option LFunc} {fl : Nat} {rd : Option Nat} {Q : HExit → HAct → HS → Prop} {N : HAct → HS → Prop} {nt d : Nat} {T : Tr HV} {ds : List Nat} {σ : HS} {h : Tr HBlk} {nx : Nat} {os : List LOper} {anc : List Nat}
end
end Go.Hx.V

/- Calls of functions that write what is their caller's, by a contract of their own: what they own is lent to them. So functions that call themselves can be shown by induction. -/
namespace Go.Hx.V
set_option linter.unusedVariables false
open Go.Hx
section
variable {lp : Nat → Option LFunc} {fl : Nat} {rd : Option Nat} {Q : HExit → HAct → HS → Prop} {N : HAct → HS → Prop} {nt d : Nat} {T : Tr HV} {ds : List Nat} {os : List LOper} {σ : HS} {anc : List Nat}
variable {h h0 : Tr HBlk} {nx n0 : Nat} {F F0 : PH} {L M O : List LE}
/-- Entries in another order. -/
theorem St.pick (st : St n0 h0 F0 F h nx L) (is : List Nat) (hn : is.Nodup := by decide) : St n0 h0 F0 F h nx (is.filterMap fun i => L[i]?) := by
  have mem : ∀ e, e ∈ (is.filterMap fun i => L[i]?) → e ∈ L := fun e he => by
    obtain ⟨i, _, hi⟩ := List.mem_filterMap.1 he
    exact List.mem_of_getElem? hi
  refine ⟨st.ext, st.sub, st.le, st.lo, fun e he => st.off e (mem e he), fun e he => st.own e (mem e he), ?_⟩
  have pw := List.pairwise_iff_getElem.1 st.dist
  have sym : ∀ (i j : Nat) (e e' : LE), i ≠ j → L[i]? = some e → L[j]? = some e' → ∀ b, b ∈ e.os → b ∉ e'.os := fun i j e e' hij hi hj b hb hb' => by
    obtain ⟨hi1, rfl⟩ := List.getElem?_eq_some_iff.1 hi
    obtain ⟨hj1, rfl⟩ := List.getElem?_eq_some_iff.1 hj
    rcases Nat.lt_or_gt_of_ne hij with g | g
    · exact pw i j hi1 hj1 g b hb hb'
    · exact pw j i hj1 hi1 g b hb' hb
  clear mem
  induction is with
  | nil => exact List.Pairwise.nil
  | cons i is ih =>
    obtain ⟨h1, h2⟩ := List.nodup_cons.1 hn
    rw [List.filterMap_cons]
    cases hi : L[i]? with
    | none => exact ih h2
    | some e =>
      refine List.pairwise_cons.2 ⟨fun e' he' => ?_, ih h2⟩
      obtain ⟨j, hj, hje⟩ := List.mem_filterMap.1 he'
      exact sym i j e e' (fun e2 => h1 (e2 ▸ hj)) hi hje
theorem LE.known {nx : Nat} {e : LE} (ho : e.ok n0 nx h) {b : Nat} (hb : b ∈ e.os) : ∃ x, h.get b = some x := by
  match e, ho with
  | .bx b cs, ⟨_, _, c⟩ => rw [os_bx hb]; exact ⟨_, c⟩
  | .ls none c cs sz, ho => cases hb
  | .ls (some b) c cs sz, ⟨_, _, ho⟩ =>
    rw [← Option.some.inj (os_ls hb)]
    rcases ho with ⟨g, _⟩ | ⟨rest, g, _⟩ <;> exact ⟨_, g⟩
  | .any b x, ⟨_, _, c⟩ => rw [os_any hb]; exact ⟨_, c⟩
  | .mks ds, ⟨_, c⟩ => exact ⟨_, (c b hb).2.2⟩
end
end Go.Hx.V

/- Maps as the rows of their entries: owned, frozen, as arguments and results. -/
namespace Go.Hx.V
set_option linter.unusedVariables false
open Go.Hx
abbrev ME := List (HV × HV)
/-- What a map holds, in what is known of a store. -/
def MapF (F : PH) (p : Option Nat) (es : ME) : Prop := match p with
  | none => es = []
  | some b => F b = some (.map es)
def MapH (h : Tr HBlk) (p : Option Nat) (es : ME) : Prop := match p with
  | none => es = []
  | some b => h.get b = some (.map es)
theorem MapF.mono {F G : PH} {p : Option Nat} {es : ME} (hl : PH.le F G) (h : MapF F p es) : MapF G p es := by
  cases p with
  | none => exact h
  | some b => exact hl _ _ h
theorem MapF.at {F : PH} {p : Option Nat} {es : ME} {h : Tr HBlk} (hs : F.sub h) (hm : MapF F p es) : MapH h p es := by
  cases p with
  | none => exact hm
  | some b => exact hs _ _ hm
theorem MapF.nil {F : PH} : MapF F none [] := rfl
def rM : Rel ME := fun F es r => ∃ p, r = [.map p] ∧ MapF F p es
instance : OkR rM 1 where
  mono h := fun ⟨p, e, g⟩ => ⟨p, e, g.mono h⟩
  len := fun ⟨p, e, g⟩ => by rw [e]; rfl
  one := fun ⟨p, e, g⟩ => by rw [e]; rfl
/-- Relations that speak of no store. -/
class FlatR {α : Type} (rel : Rel α) : Prop where
  any : ∀ {F G : PH} {x r}, rel F x r → rel G x r
instance : FlatR rI := ⟨fun h => h⟩
instance {k : IntKind} : FlatR (rK k) := ⟨fun h => h⟩
instance : FlatR rB := ⟨fun h => h⟩
instance : FlatR rU := ⟨fun h => h⟩
instance {k : IntKind} {n : Nat} : FlatR (rF k n) := ⟨fun h => h⟩
instance {n : Nat} : FlatR (rFB n) := ⟨fun h => h⟩
instance {α β : Type} {a : Rel α} {b : Rel β} [FlatR a] [FlatR b] : FlatR (rP a b) := ⟨fun ⟨r1, r2, e, g1, g2⟩ => ⟨r1, r2, e, FlatR.any g1, FlatR.any g2⟩⟩
theorem LR.flat {α : Type} {rel : Rel α} {sz : Nat} {F G : PH} [FlatR rel] {l : List α} {cs : List HV} (h : LR rel sz F l cs) : LR rel sz G l cs :=
  ⟨h.1, fun i x hx => let ⟨r, g1, g2⟩ := h.2 i x hx; ⟨r, g1, FlatR.any g2⟩⟩
/-- What a lookup comes to. -/
def lkE (D : ED) (k : HV) (es : ME) (z : HV) : Option (HV × Bool) := match findH D k es with
  | some (some v) => some (v, true)
  | some none => some (z, false)
  | none => none
def dI (v : HV) : Option Int := match v with
  | .int .i64 n => some n
  | _ => none
theorem dI_some {v : HV} {n : Int} (h : dI v = some n) : v = i64 n := by
  unfold dI at h
  split at h
  · cases h; rfl
  · cases h
theorem ar_getM0B {n : Nat} {g : Nat → Bool} (Q : List HV) {off ix : Nat} (ho : off = ix) (hl : ix < n) : (eB n g ++ Q)[off]? = some (.bool (g ix)) := by
  rw [List.getElem?_append_left (by rw [eB_len]; omega), ho]; exact eB_get hl
section
variable {lp : Nat → Option LFunc} {fl : Nat} {rd : Option Nat} {Q : HExit → HAct → HS → Prop} {N : HAct → HS → Prop} {nt d : Nat} {T : Tr HV} {ds : List Nat} {os : List LOper} {σ : HS} {anc : List Nat}
variable {h h0 : Tr HBlk} {nx n0 : Nat} {F F0 : PH} {L : List LE}
theorem Vw.an {n1 : Nat} {b : Nat} {x : HBlk} {hm h1 : Tr HBlk} {A : List Nat} {V : List (Nat × PH)} (vw : Vw n1 nx h1 hm A V) (ho : LE.ok n0 n1 h1 (.any b x)) : hm.get b = some x := (vw.low b ho.2.1).trans ho.2.2
theorem lk_go {D : ED} {zero kv : HV} {ok : Bool} {x y : Lo} {p : Option Nat} {es : ME} {r : HV × Bool} (hm : MapH h p es) (hr : lkE D kv es zero = some r) (hk : keyOk D kv = true) (hx : lo T x = .map p) (hy : lo T y = kv) :
    opH lp (exec lp 0) fl (.lookup D zero ok x y) ⟨nt, T, ds⟩ ⟨h, nx⟩ = some (bif ok then .tuple [r.1, .bool r.2] else r.1, ⟨h, nx⟩) := by
  show oLookup D zero ok x y _ _ = _
  unfold oLookup
  rw [(ev_eq y).trans hy, (ev_eq x).trans hx]
  simp only [hk, cond_true]
  unfold lkE at hr
  cases p with
  | none =>
    have : es = [] := hm
    subst this
    simp only [findH] at hr
    cases hr
    rfl
  | some b =>
    have hg : h.get b = some (.map es) := hm
    simp only [hg]
    cases hf : findH D kv es with
    | none => rw [hf] at hr; cases hr
    | some o => cases o <;> (rw [hf] at hr; cases hr; rfl)
theorem v_lkE1 {D : ED} {zero kv v : HV} {x y : Lo} {p : Option Nat} {es : ME} {r : HV × Bool} (hm : MapH h p es) (hr : lkE D kv es zero = some r) (hv : r.1 = v) (hk : keyOk D kv = true) (hn : R lp fl os N ⟨nt, T.set d (some v), ds⟩ ⟨h, nx⟩) (hx : lo T x = .map p := by first | exact ev_c | (apply ev_t; exact gA)) (hy : lo T y = kv := by first | exact ev_c | (apply ev_t; exact gA)) (hd : Nat.blt d nt = true := by rfl) : R lp fl (⟨some d, .lookup D zero false x y, none, anc⟩ :: os) N ⟨nt, T, ds⟩ ⟨h, nx⟩ :=
  r_go (lk_go (ok := false) hm hr hk hx hy) (by rw [put_eq hd]; subst hv; exact hn)
theorem v_ixv {len j : Nat} {m : Int} {x y : Lo} {cs : List HV} {v : HV} (hm : (j : Int) = m) (hl : j < len) (hv : cs[j]? = some v) (hn : R lp fl os N ⟨nt, T.set d (some v), ds⟩ σ) (hx : lo T x = .agg cs := by first | exact ev_c | (apply ev_t; exact gA)) (hy : lo T y = i64 m := by first | exact ev_c | (apply ev_t; exact gA)) (hd : Nat.blt d nt = true := by rfl) : R lp fl (⟨some d, .indexA len 1 false x y, none, anc⟩ :: os) N ⟨nt, T, ds⟩ σ :=
  r_go (v := v) (by
    show oIndexA len 1 false x y _ _ = _
    unfold oIndexA
    rw [(ev_eq x).trans hx, (ev_eq y).trans hy, ← hm]
    have e : natOf (i64 (j : Int)) = some j := rfl
    simp only [e]
    have b : Nat.blt j len = true := by rw [Nat.blt_eq]; exact hl
    simp only [b, cond_true, partH, cond_false, Nat.mul_one]
    show keep σ cs[Nat.mul j 1]? = _
    rw [show Nat.mul j 1 = j from Nat.mul_one j, hv]; rfl) (by rw [put_eq hd]; exact hn)
/-! stores that are checked -/
end
end Go.Hx.V

/- Ranges over maps as folds over their entries in any order; functions of which the answer is known, seen from a store of their own. -/
namespace Go.Hx
open Go.ChangeMaps (setBlock)
variable {P : Program} {lp : Nat → Option LFunc}
noncomputable section
def foldE {α : Type} (step : HV × HV → α → Option α) : List (HV × HV) → α → Option α
  | [], x => some x
  | e :: l, x => (step e x).bind (foldE step l)
theorem foldE_app {α : Type} (step : HV × HV → α → Option α) : ∀ (l m : List (HV × HV)) (x : α), foldE step (l ++ m) x = (foldE step l x).bind (foldE step m)
  | [], m, x => rfl
  | e :: l, m, x => by
    show (step e x).bind (foldE step (l ++ m)) = ((step e x).bind (foldE step l)).bind (foldE step m)
    cases step e x with
    | none => rfl
    | some y => exact foldE_app step l m y
/-- The entries at these places. -/
def atE (es : List (HV × HV)) (is : List Nat) : List (HV × HV) := is.filterMap fun i => es[i]?
theorem fm_congr {α β : Type} {f g : α → Option β} : ∀ {l : List α}, (∀ x, x ∈ l → f x = g x) → l.filterMap f = l.filterMap g
  | [], _ => rfl
  | x :: l, h => by
    rw [List.filterMap_cons, List.filterMap_cons, h x (List.mem_cons_self ..), fm_congr fun y hy => h y (List.mem_cons_of_mem _ hy)]
theorem atE_range (es : List (HV × HV)) : atE es (List.range es.length) = es := by
  unfold atE
  apply List.ext_getElem?
  intro i
  have : ∀ (l : List (HV × HV)) (k : Nat), (List.range' k l.length).filterMap (fun i => if k ≤ i then l[i - k]? else none) = l := by
    intro l
    induction l with
    | nil => intro k; rfl
    | cons x l ih =>
      intro k
      rw [List.length_cons, List.range'_succ, List.filterMap_cons]
      simp only [Nat.le_refl, if_true, Nat.sub_self, List.getElem?_cons_zero]
      congr 1
      refine Eq.trans ?_ (ih (k + 1))
      apply fm_congr
      intro i hi
      have := List.mem_range'.1 hi
      obtain ⟨j, hj, e⟩ := this
      rw [if_pos (by omega), if_pos (by omega)]
      have : i - k = (i - (k + 1)) + 1 := by omega
      rw [this, List.getElem?_cons_succ]
  have h := this es 0
  rw [List.range_eq_range']
  simp only [Nat.zero_le, if_true, Nat.sub_zero] at h
  rw [h]

theorem sx_forFold {α : Type} (hm : P.follows .mixedOrders = true) (hlp : LpOk P lp) {fl : Nat} {rd : Option Nat} {it nx more pair out nxt m t nt : Nat} {pre ops : List LOper} {body : LCode} {Q : HExit → HAct → HS → Prop} {a : HAct} {σ : HS} {kt et : TypeId} {es : List (HV × HV)}
    (step : HV × HV → α → Option α) (Pp : Nat → Nat → α → Tr HV → List Nat → Tr HBlk → Nat → Prop) (init : α)
    (ht : P.underlying t = some (.map kt et)) (hne1 : it ≠ nx) (hne2 : it ≠ more) (hit : it < nt) (hnx : nx < nt) (hmo : more < nt) (hpa : pair < nt)
    (hF : ∀ l, l.Perm es → ∃ y, foldE step l init = some y)
    (h : R lp fl pre (fun a1 σ1 => ∃ T ds hh n1 mb, a1 = ⟨nt, T, ds⟩ ∧ σ1 = ⟨hh, n1⟩ ∧ T.get m = some (.map (some mb)) ∧ hh.get mb = some (.map es) ∧ hh.get n1 = none ∧ Pp n1 mb init (T.set it (some (.ptr (some (n1, 0))))) ds hh (n1 + 1)) a σ)
    (hP : ∀ itb mb x T ds hh n', Pp itb mb x T ds hh n' → T.get it = some (.ptr (some (itb, 0))) ∧ hh.get mb = some (.map es))
    (hB : ∀ itb mb x x' e T ds hh n', Pp itb mb x T ds hh n' → e ∈ es → step e x = some x' →
      R lp fl ops (W lp fl rd body (inBlockH nxt (fun ex a' σ' => ex = .normal ∧ a'.nt = nt ∧ Pp itb mb x' a'.tmps a'.defers σ'.h σ'.nx))) ⟨nt, ((T.set nx (some (.tuple [.bool true, e.1, e.2]))).set more (some (.bool true))).set pair (some (.tuple [e.1, e.2])), ds⟩ ⟨hh, n'⟩)
    (done : ∀ itb mb y T ds hh n', Pp itb mb y T ds hh n' → (∃ l, l.Perm es ∧ foldE step l init = some y) → Q .normal ⟨nt, (T.set nx (some (.tuple [.bool false]))).set more (some (.bool false)), ds⟩ ⟨hh, n'⟩) :
    SX P fl rd (.seq (.reg (pre ++ [⟨some it, .raw (.range t (.tmp m)), none, []⟩])) (mapLoop it nx more pair out nxt ops body)) Q a σ := by
  obtain ⟨k0, a1, σ1, g1, T0, ds0, hh0, n1, mb, e1, e2, g2, g3, g4, g5⟩ := h
  have pt : ∀ (T : Tr HV) (ds : List Nat) (d : Nat) (v : HV), d < nt → (HAct.mk nt T ds).put (some d) v = ⟨nt, T.set d (some v), ds⟩ := fun T ds d v hd => V.put_eq (by rw [Nat.blt_eq]; exact hd)
  refine sx_forMap hm hlp (I := fun rem a σ => ∃ vis x T ds hh n', (vis ++ rem).Perm (List.range es.length) ∧ foldE step (atE es vis) init = some x ∧ a = ⟨nt, T, ds⟩ ∧ σ = ⟨hh, n'⟩ ∧ Pp n1 mb x T ds hh n') ht hne1 hne2 ?_
  refine ⟨k0, a1, σ1, g1, ?_⟩
  subst e1; subst e2
  refine ⟨hit, mb, es, ?_, g3, g4, ⟨?_, ?_⟩, ?_, ?_, ?_, ?_⟩
  · show (T0.get m).getD .undef = _; rw [g2]; rfl
  · rintro rem a σ ⟨vis, x, T, ds, hh, n', _, _, rfl, rfl, hp⟩
    show (T.get it).getD .undef = _
    rw [(hP _ _ _ _ _ _ _ hp).1]; rfl
  · rintro rem a σ ⟨vis, x, T, ds, hh, n', _, _, rfl, rfl, hp⟩
    exact ⟨es, (hP _ _ _ _ _ _ _ hp).2, rfl⟩
  · rintro rem a σ ⟨vis, x, T, ds, hh, n', _, _, rfl, rfl, hp⟩
    exact ⟨hnx, hmo⟩
  · rintro a σ ⟨vis, x, T, ds, hh, n', hperm, hf, rfl, rfl, hp⟩
    unfold ended
    rw [pt _ _ _ _ hnx, pt _ _ _ _ hmo]
    refine done _ _ _ _ _ _ _ hp ⟨atE es vis, ?_, hf⟩
    rw [List.append_nil] at hperm
    have : (atE es vis).Perm (atE es (List.range es.length)) := hperm.filterMap _
    rwa [atE_range] at this
  · rintro rem i a σ es' kv ⟨vis, x, T, ds, hh, n', hperm, hf, rfl, rfl, hp⟩ hi hes hkv
    have hes2 := (hP _ _ _ _ _ _ _ hp).2
    have : es' = es := by
      have h1 : hh.get mb = some (.map es') := hes
      rw [hes2] at h1; cases h1; rfl
    subst this
    have hperm2 : ((vis ++ [i]) ++ rem.erase i).Perm (List.range es'.length) := by
      refine List.Perm.trans ?_ hperm
      rw [List.append_assoc]
      exact List.Perm.append_left vis (List.perm_cons_erase hi).symm
    obtain ⟨x', hx'⟩ : ∃ x', step kv x = some x' := by
      have hp2 : (atE es' ((vis ++ [i]) ++ rem.erase i)).Perm es' := by
        have := hperm2.filterMap (fun i => es'[i]?)
        have h2 := atE_range es'
        unfold atE at h2 ⊢
        rw [h2] at this
        exact this
      obtain ⟨y, hy⟩ := hF _ hp2
      unfold atE at hy hf
      rw [List.filterMap_append, List.filterMap_append, foldE_app, foldE_app, hf] at hy
      simp only [Option.bind_some, List.filterMap_cons, List.filterMap_nil, hkv, foldE] at hy
      cases hs : step kv x with
      | some x' => exact ⟨x', rfl⟩
      | none => rw [hs] at hy; cases hy
    unfold RoundTo entered
    rw [pt _ _ _ _ hnx, pt _ _ _ _ hmo, pt _ _ _ _ hpa]
    obtain ⟨k1, a2, σ2, r1, k2, e, a3, σ3, r2, r3⟩ := hB _ _ _ _ kv _ _ _ _ hp (List.mem_of_getElem? hkv) hx'
    refine ⟨k1, a2, σ2, r1, k2, e, a3, σ3, r2, ?_⟩
    have fin : ∀ (ex : HExit) (a' : HAct) (σ' : HS), (ex = .normal ∧ a'.nt = nt ∧ Pp n1 mb x' a'.tmps a'.defers σ'.h σ'.nx) → roundTo out (fun a σ => ∃ vis x T ds hh n', (vis ++ rem.erase i).Perm (List.range es'.length) ∧ foldE step (atE es' vis) init = some x ∧ a = ⟨nt, T, ds⟩ ∧ σ = ⟨hh, n'⟩ ∧ Pp n1 mb x T ds hh n') Q ex a' σ' := by
      rintro ex ⟨nt', T', ds'⟩ ⟨h', n'⟩ ⟨rfl, e1, e2⟩
      have e1' : nt' = nt := e1
      subst e1'
      refine ⟨vis ++ [i], x', T', ds', h', n', hperm2, ?_, rfl, rfl, e2⟩
      unfold atE at hf ⊢
      rw [List.filterMap_append, foldE_app, hf]
      simp only [Option.bind_some, List.filterMap_cons, List.filterMap_nil, hkv, foldE, hx']
    cases e with
    | normal => exact fin _ _ _ r3
    | ret => exact absurd r3.1 (by intro h; cases h)
    | exit j =>
      by_cases hj : j = nxt
      · subst hj
        simp only [inBlockH, if_true] at r3 ⊢
        exact fin _ _ _ ⟨rfl, r3.2⟩
      · simp only [inBlockH, if_neg hj] at r3
        exact absurd r3.1 (by intro h; cases h)
  · refine ⟨[], init, _, _, _, _, by simp, rfl, pt _ _ _ _ hit, rfl, g5⟩

/-! seen from a store of its own -/
def flatB : HBlk → Bool
  | .cells cs _ => cs.all flat1
  | .map es => es.all fun e => flat e.1 && flat e.2
  | _ => false
theorem spec_rebase (hlp : LpOk P lp) {f : Nat} {lf : LFunc} (hlf : lp f = some lf) (hsp : lf.spec = none) {g : List HV → HS → Option (HV × HS)}
    (h : ∀ args σ v σ', g args σ = some (v, σ') → σ' = σ ∧ flatV v = true ∧ ∃ (σ0 : HS) (args0 : List HV) (π : Nat → Option Nat), Dom σ0 ∧ (∀ b, σ0.nx ≤ b → π b = none) ∧
      (∀ b x, σ0.h.get b = some x → ∃ c, π b = some c ∧ σ.h.get c = some x ∧ flatB x = true) ∧ (∀ b b' c, π b = some c → π b' = some c → b = b') ∧
      (∀ ρ Args, LR ρ args Args → LR (fun b => (π b).bind ρ) args0 Args) ∧
      SX P σ0.nx none lf.body (fun e a σ' => match e with | .exit _ => False | _ => ∃ σ'', leaveH σ0.nx a lf.res σ' = some (v, σ'')) (enter (Nat.max lf.nt args0.length) args0) σ0) : SpecOk P f g := by
  intro args σ v σ' hg hd fl base ρ Args W hin hargs
  obtain ⟨rfl, hfv, σ0, args0, π, d0, hπ, hb, hinj, hl, hsx⟩ := h _ _ _ _ hg
  obtain ⟨N, hN, sc⟩ := sc_of_sx hlp hlf hsp hsx
  have hsim : Sim P base σ0.h.get (fun b => (π b).bind ρ) W := by
    refine ⟨fun b x hx => ?_, fun b b' x x' r r' h1 h2 h3 h4 h5 h6 h7 => ?_⟩
    · obtain ⟨c, h1, h2, h3⟩ := hb b x hx
      have hr : ∀ r, ρ c = some r → (fun b => (π b).bind ρ) b = some r := fun r h => by show (π b).bind ρ = _; rw [h1]; exact h
      have ok := hin.sim.ok c x h2
      cases x with
      | cells cs k =>
        obtain ⟨r, C, e, z, q1, q2, q3, q4⟩ := ok
        refine ⟨r, C, e, z, hr r q1, q2, fun i v hv => ?_, q4⟩
        obtain ⟨u, hu, hvr⟩ := q3 i v hv
        exact ⟨u, hu, hvr.f1 (List.all_eq_true.1 h3 v (List.mem_of_getElem? hv))⟩
      | map es =>
        obtain ⟨r, E, cl, q1, q2, q3, q4, q5⟩ := ok
        refine ⟨r, E, cl, hr r q1, q2, q3, ⟨q4.1, fun i e y he hy => ?_⟩, q5⟩
        obtain ⟨a1, a2⟩ := q4.2 i e y he hy
        have := List.all_eq_true.1 h3 e (List.mem_of_getElem? he)
        simp only [Bool.and_eq_true] at this
        exact ⟨a1.flat this.1, a2.flat this.2⟩
      | loop l => cases h3
      | marks => cases h3
    · obtain ⟨c, q1, q2, _⟩ := hb b x h1
      obtain ⟨c', q1', q2', _⟩ := hb b' x' h2
      have e6 : ρ c = some r := by have h6' : (π b).bind ρ = some r := h6; rwa [q1] at h6'
      have e7 : ρ c' = some r' := by have h7' : (π b').bind ρ = some r' := h7; rwa [q1'] at h7'
      exact hin.sim.inj c c' x x' r r' q2 q2' h3 h4 (fun e => h5 (hinj _ _ c q1 (by rw [e]; exact q1'))) e6 e7
  obtain ⟨_, hfn, hc⟩ := sc d0 σ0.nx base (fun b => (π b).bind ρ) Args W ⟨hin.low, hsim, fun b h1 h2 => by show (π b).bind ρ = none; rw [hπ b h1]; rfl⟩ (hl ρ _ hargs)
  refine ⟨HF.refl _ _ _, hfn, hc.mono ?_⟩
  rintro E W' ⟨V, ρ', rfl, hv, p⟩
  have keep : ∀ k, k < W.heap.size → W'.heap[k]? = W.heap[k]? := fun k hk => p.same k hk fun ⟨b, x, r, h1, _, h3, _⟩ => by have := d0 b x h1; omega
  exact ⟨V, ρ, rfl, hv.flatV hfv, fun _ _ h => h, fun _ _ => rfl, ⟨fun b x hx => by
      obtain ⟨r, hr, hlt, _⟩ := (hin.sim.ok b x hx).has
      exact (hin.sim.ok b x hx).keep (fun _ _ h => h) fun r' hr' => by rw [hr] at hr'; cases hr'; exact keep _ hlt, hin.sim.inj⟩,
    p.os, p.tape, p.output, p.frz, p.size, fun k hk _ => keep k hk, fun k hk => .inr hk⟩
end
end Go.Hx

/- Ranges over maps, for functions that are decompiled: how they begin and end; what keys and values are read as. -/
namespace Go.Hx.V
open Go.Hx
variable {P : Program} {lp : Nat → Option LFunc} {nt : Nat} {T : Tr HV} {ds : List Nat} {h : Tr HBlk} {nx : Nat}
theorem in_xT {fl : Nat} {args : List HV} {lf : LFunc} {Q : HExit → HAct → HS → Prop} (hl : Nat.ble args.length lf.nt = true)
    (hw : ∀ T', (∀ j v, args[j]? = some v → T'.get j = some v) → SX P fl none lf.body Q ⟨lf.nt, T', []⟩ ⟨h, nx⟩) : SX P fl none lf.body Q (enter (Nat.max lf.nt args.length) args) ⟨h, nx⟩ := by
  rw [show Nat.max lf.nt args.length = lf.nt from Nat.max_eq_left (Nat.le_of_ble_eq_true hl)]
  refine hw _ fun j v hv => ?_
  have hlt : j < args.length := by
    rcases Nat.lt_or_ge j args.length with g | g
    · exact g
    · rw [List.getElem?_eq_none g] at hv; cases hv
  rw [putAll_get, if_pos ⟨by omega, by omega⟩]; exact hv
/-- The end of such a function. -/
def XQ (fl : Nat) (res : List LRes) (v : HV) : HExit → HAct → HS → Prop := fun e a σ' => match e with
  | .exit _ => False
  | _ => ∃ σ'', leaveH fl a res σ' = some (v, σ'')
theorem end_x {fl : Nat} {res : List LRes} {vs : List HV} {v : HV} {e : HExit} (hr : Res T h res vs) (hv : oneOf vs = v) (he : e = .ret ∨ e = .normal) : XQ fl res v e ⟨nt, T, []⟩ ⟨h, nx⟩ := by
  subst hv
  have key : ∃ σ'', leaveH fl ⟨nt, T, []⟩ res (⟨h, nx⟩ : HS) = some (oneOf vs, σ'') := ⟨⟨h, nx⟩, leave_many rfl hr.eq⟩
  rcases he with rfl | rfl <;> exact key
theorem bnd_at {α β : Type} {x : Option α} {f : α → Option β} {r : β} {y : α} (h : bnd x f = some r) (hy : x = some y) : f y = some r := by subst hy; exact h
theorem d_get {n0 : Nat} {h0 : Tr HBlk} {F0 F : PH} {L : List LE} (st : St n0 h0 F0 F h nx L) : h.get nx = none := by
  have := st.d
  unfold D at this
  exact this nx (Nat.le_refl _)
/-! reading keys and values -/
def dI0 : List HV → Option Int
  | [.int .i64 n] => some n
  | _ => none
def bAt (l : List Bool) (i : Nat) : Bool := l.getD i false
def dBs : Nat → List HV → Option (List Bool × List HV)
  | 0, cs => some ([], cs)
  | n + 1, .bool b :: cs => (dBs n cs).map fun p => (b :: p.1, p.2)
  | _ + 1, _ => none
def dBA {β : Type} (n : Nat) (r : List HV → Option β) (cs : List HV) : Option ((Nat → Bool) × β) := (dBs n cs).bind fun p => (r p.2).map (bAt p.1, ·)
def dAg {α : Type} (r : List HV → Option α) : HV → Option α
  | .agg cs => r cs
  | _ => none
theorem dI0_some {cs : List HV} {n : Int} (h : dI0 cs = some n) : cs = [i64 n] := by
  unfold dI0 at h; split at h <;> cases h; rfl
theorem dBs_some : ∀ {n : Nat} {cs : List HV} {p : List Bool × List HV}, dBs n cs = some p → p.1.length = n ∧ cs = p.1.map .bool ++ p.2
  | 0, cs, p, h => by cases h; exact ⟨rfl, rfl⟩
  | n + 1, cs, p, h => by
    cases cs with
    | nil => cases h
    | cons v cs =>
      cases v with
      | bool b =>
        obtain ⟨q, hq, rfl⟩ := Option.map_eq_some_iff.1 (show (dBs n cs).map (fun p => (b :: p.1, p.2)) = some p from h)
        obtain ⟨h1, h2⟩ := dBs_some hq
        exact ⟨by simp [h1], by rw [h2]; rfl⟩
      | _ => cases h
theorem eB_bAt {l : List Bool} {n : Nat} (h : l.length = n) : eB n (bAt l) = l.map .bool := by
  subst h
  apply List.ext_getElem?
  intro i
  unfold eB bAt
  rw [List.getElem?_map, List.getElem?_map]
  by_cases hi : i < l.length
  · rw [List.getElem?_range hi, List.getElem?_eq_getElem hi, Option.map_some, Option.map_some]
    simp [List.getD_eq_getElem?_getD, List.getElem?_eq_getElem hi]
  · rw [List.getElem?_eq_none (l := List.range _) (by simp; omega), List.getElem?_eq_none (l := l) (by omega)]; rfl
theorem dBA_some {β : Type} {n : Nat} {r : List HV → Option β} {cs : List HV} {x : (Nat → Bool) × β} (h : dBA n r cs = some x) : ∃ c, cs = eB n x.1 ++ c ∧ r c = some x.2 := by
  unfold dBA at h
  obtain ⟨p, hp, h2⟩ := Option.bind_eq_some_iff.1 h
  obtain ⟨y, hy, rfl⟩ := Option.map_eq_some_iff.1 h2
  obtain ⟨h3, h4⟩ := dBs_some hp
  exact ⟨p.2, by rw [h4]; show _ = eB n (bAt p.1) ++ _; rw [eB_bAt h3], hy⟩
theorem dAg_some {α : Type} {r : List HV → Option α} {v : HV} {x : α} (h : dAg r v = some x) : ∃ cs, v = .agg cs ∧ r cs = some x := by
  unfold dAg at h
  split at h
  · exact ⟨_, rfl, h⟩
  · cases h
theorem thx_n {N : HAct → HS → Prop} {Q : HExit → HAct → HS → Prop} {a : HAct} {σ : HS} (h : N a σ) : thenH N Q .normal a σ := h
theorem sx_forFoldL {α : Type} (hm : P.follows .mixedOrders = true) (hlp : LpOk P lp) {fl : Nat} {rd : Option Nat} {it nx more pair out nxt m t nt : Nat} {xs ops : List LOper} {body : LCode} {Q : HExit → HAct → HS → Prop} {a : HAct} {σ : HS} {kt et : TypeId} {es : List (HV × HV)}
    (step : HV × HV → α → Option α) (Pp : Nat → Nat → α → Tr HV → List Nat → Tr HBlk → Nat → Prop) (init : α)
    (hx : xs.dropLast ++ [⟨some it, .raw (.range t (.tmp m)), none, []⟩] = xs) (ht : P.underlying t = some (.map kt et)) (hne1 : it ≠ nx) (hne2 : it ≠ more) (hit : it < nt) (hnx : nx < nt) (hmo : more < nt) (hpa : pair < nt)
    (hF : ∀ l, l.Perm es → ∃ y, foldE step l init = some y)
    (h : R lp fl xs.dropLast (fun a1 σ1 => ∃ T ds hh n1 mb, a1 = ⟨nt, T, ds⟩ ∧ σ1 = ⟨hh, n1⟩ ∧ T.get m = some (.map (some mb)) ∧ hh.get mb = some (.map es) ∧ hh.get n1 = none ∧ Pp n1 mb init (T.set it (some (.ptr (some (n1, 0))))) ds hh (n1 + 1)) a σ)
    (hP : ∀ itb mb x T ds hh n', Pp itb mb x T ds hh n' → T.get it = some (.ptr (some (itb, 0))) ∧ hh.get mb = some (.map es))
    (hB : ∀ itb mb x x' e T ds hh n', Pp itb mb x T ds hh n' → e ∈ es → step e x = some x' →
      R lp fl ops (W lp fl rd body (inBlockH nxt (fun ex a' σ' => ex = .normal ∧ a'.nt = nt ∧ Pp itb mb x' a'.tmps a'.defers σ'.h σ'.nx))) ⟨nt, ((T.set nx (some (.tuple [.bool true, e.1, e.2]))).set more (some (.bool true))).set pair (some (.tuple [e.1, e.2])), ds⟩ ⟨hh, n'⟩)
    (done : ∀ itb mb y T ds hh n', Pp itb mb y T ds hh n' → (∃ l, l.Perm es ∧ foldE step l init = some y) → Q .normal ⟨nt, (T.set nx (some (.tuple [.bool false]))).set more (some (.bool false)), ds⟩ ⟨hh, n'⟩) :
    SX P fl rd (.seq (.reg xs) (mapLoop it nx more pair out nxt ops body)) Q a σ := by
  rw [← hx]
  exact sx_forFold hm hlp step Pp init ht hne1 hne2 hit hnx hmo hpa hF (by simpa using h) hP hB done
end Go.Hx.V

/- The plain machine once more, as closures: what the kernel can reckon fast. This file: the machine. -/
namespace Go.Hx
noncomputable section

/-- Where a run goes on: temporaries, marks, blocks, the next number. -/
abbrev Kt := Tr HV → List Nat → Tr HBlk → Nat → Option (HV × HS)
/-- Where an operation's value goes. -/
abbrev Kv := HV → Tr HBlk → Nat → Option (HV × HS)
/-- Operations: the floor, temporaries, blocks, the next number, and where the value goes. -/
abbrev Ko := Nat → Tr HV → Tr HBlk → Nat → Kv → Option (HV × HS)
/-- Codes: the floor, the round, and where they go: behind, out of a block, out of the function. -/
abbrev Kc := Nat → Option Nat → Kt → (Nat → Kt) → Kt → Kt
/-- Functions. -/
abbrev Kf := Nat → List HV → Tr HBlk → Nat → Kv → Option (HV × HS)

def Pa.tmp (p : Pa) (a : Tr HV) : HV := Option.rec (motive := fun _ => HV) .undef (fun v => v) (Tr.getP p a)
/-- A closure that is made once: the kernel keeps what a closed term comes to. -/
inductive Bx (α : Type) where
  | mk (f : α)
def Bx.run {α : Type} (b : Bx α) : α := Bx.rec (motive := fun _ => α) (fun f => f) b
def Bx.then {α β : Type} (b : Bx α) (g : α → Bx β) : Bx β := Bx.rec (motive := fun _ => Bx β) g b
/-- A road, made once. -/
def Pa.then {β : Type} (p : Pa) (g : Pa → Bx β) : Bx β := Pa.rec (motive := fun _ => Bx β) (g .z) (fun q _ => g (.a q)) (fun q _ => g (.b q)) (fun q _ => g (.c q)) (fun q _ => g (.d q)) p
def evK (x : Lo) : Bx (Tr HV → HV) :=
  match x with
  | .t n => .mk (Pa.tmp (pa n))
  | .c v => .mk (fun _ => v)
def evL (x : Lo) (a : Tr HV) : HV := (evK x).run a
/-- All that is not served by itself. -/
def slowK (lp : Nat → Option LFunc) (nt : Nat) (o : LOp) : Ko := fun fl a h nx k =>
  match opH lp (exec lp 0) fl o ⟨nt, a, []⟩ ⟨h, nx⟩ with
  | some (v, σ) => k v σ.h σ.nx
  | none => none
def viaK (lp : Nat → Option LFunc) (fn : Nat → Bx Kf) (t : Nat) (name : String) (g : Nat) (args : List HV) : Nat → Tr HBlk → Nat → Kv → Option (HV × HS) := fun fl h nx k =>
  match viaOf lp g t name, args with
  | some off, .ptr (some (b, o)) :: rest => (fn g).run fl (.ptr (some (b, Nat.add o off)) :: rest) h nx k
  | _, _ => none
def callK (lp : Nat → Option LFunc) (fn : Nat → Bx Kf) (ro : Nat → Nat → List HV → Tr HBlk → Nat → Kv → Option (HV × HS)) (f : Tr HV → HV) (xs : List Lo) : Ko := fun fl a h nx k =>
  match f a with
  | .func g first captured => (fn g).run fl (first ++ xs.map (fun x => evL x a) ++ captured) h nx k
  | .yield l => ro fl l (xs.map fun x => evL x a) h nx k
  | .via t name g => viaK lp fn t name g (xs.map fun x => evL x a) fl h nx k
  | _ => none
def binK (g : IntKind → Int → Int → Option HV) (x y : HV) (h : Tr HBlk) (nx : Nat) (k : Kv) : Option (HV × HS) :=
  match x, y with
  | .int k1 m, .int k2 n => bif sameK k1 k2 then (match g k1 m n with | some v => k v h nx | none => none) else none
  | _, _ => none
def addrK (off : Nat) (x : HV) (h : Tr HBlk) (nx : Nat) (k : Kv) : Option (HV × HS) :=
  match x with
  | .ptr (some (b, o)) => k (.ptr (some (b, Nat.add o off))) h nx
  | _ => none
def idxK (len size : Nat) (x i : HV) (h : Tr HBlk) (nx : Nat) (k : Kv) : Option (HV × HS) :=
  match x, i with
  | .ptr (some (b, o)), .int _ (.ofNat i) => bif Nat.blt i len then k (.ptr (some (b, Nat.add o (Nat.mul i size)))) h nx else none
  | _, _ => none
def nilK (x : HV) (h : Tr HBlk) (nx : Nat) (k : Kv) : Option (HV × HS) :=
  match x with
  | .ptr (some p) => k (.ptr (some p)) h nx
  | .func f first captured => k (.func f first captured) h nx
  | _ => none
def nthK (i : Nat) : List HV → Option HV :=
  Nat.rec (motive := fun _ => List HV → Option HV) (fun l => List.rec (motive := fun _ => Option HV) none (fun v _ _ => some v) l) (fun _ ih l => List.rec (motive := fun _ => Option HV) none (fun _ t _ => ih t) l) i
def setR (i : Nat) (v : HV) : List HV → List HV :=
  Nat.rec (motive := fun _ => List HV → List HV) (fun l => List.rec (motive := fun _ => List HV) [] (fun _ t _ => v :: t) l) (fun _ ih l => List.rec (motive := fun _ => List HV) [] (fun x t _ => x :: ih t) l) i
def loadK (x : HV) (h : Tr HBlk) (nx : Nat) (k : Kv) : Option (HV × HS) :=
  match x with
  | .ptr (some (b, o)) =>
    match h.get b with
    | some (.cells cs _) =>
      match nthK o cs with
      | some v => k v h nx
      | none => none
    | _ => none
  | _ => none
def wrOk : BK → Bool
  | .ro => false
  | _ => true
def storeK (fl : Nat) (x v : HV) (h : Tr HBlk) (nx : Nat) (k : Kv) : Option (HV × HS) :=
  match x with
  | .ptr (some (b, o)) =>
    match h.get b with
    | some (.cells cs bk) =>
      bif Nat.ble fl b && v.one && wrOk bk then
        match nthK o cs with
        | some _ => k .undef (h.set b (some (.cells (setR o v cs) bk))) nx
        | none => none
      else none
    | _ => none
  | _ => none
def compOp (lp : Nat → Option LFunc) (fn : Nat → Bx Kf) (ro : Nat → Nat → List HV → Tr HBlk → Nat → Kv → Option (HV × HS)) (nt : Nat) (o : LOp) : Bx Ko :=
  match o with
  | .move x => (evK x).then fun e => .mk fun _ a h nx k => k (e a) h nx
  | .bin op x y => (evK x).then fun e => (evK y).then fun f => .mk fun _ a h nx k => binK (bif isShift op then shiftH op else intFast op) (e a) (f a) h nx k
  | .fieldAddr off x => (evK x).then fun e => .mk fun _ a h nx k => addrK off (e a) h nx k
  | .indexAddrA len size x i => (evK x).then fun e => (evK i).then fun f => .mk fun _ a h nx k => idxK len size (e a) (f a) h nx k
  | .nilCheck x => (evK x).then fun e => .mk fun _ a h nx k => nilK (e a) h nx k
  | .load false 1 x => (evK x).then fun e => .mk fun _ a h nx k => loadK (e a) h nx k
  | .store 1 x v => (evK x).then fun e => (evK v).then fun f => .mk fun fl a h nx k => bif (f a).one then storeK fl (e a) (f a) h nx k else slowK lp nt (.store 1 x v) fl a h nx k
  | .call f xs => (evK f).then fun e => .mk (callK lp fn ro e xs)
  | .callC f xs cs => (evK f).then fun e => .mk fun fl a h nx k => callK lp fn ro e xs fl a h nx fun v h nx => bif chkH ⟨nt, a, []⟩ ⟨h, nx⟩ cs then k v h nx else none
  | o => .mk (slowK lp nt o)
def putK (nt : Nat) (dst : Option Nat) : Bx (Tr HV → HV → Tr HV) :=
  match dst with
  | none => .mk fun a _ => a
  | some d => bif Nat.blt d nt then (pa d).then fun p => .mk (fun a v => Tr.setP (some v) p a) else .mk fun a _ => a
def isB (want : Bool) : HV → Bool
  | .bool b => b == want
  | _ => false
def guardK (g : Option (Nat × Bool)) (o : Bx Ko) : Bx Ko :=
  match g with
  | none => o
  | some (t, want) => (evK (.t t)).then fun e => o.then fun o => .mk fun fl a h nx k =>
      bif isB want (e a) then o fl a h nx k else k .undef h nx
def compOps (op : LOp → Bx Ko) (nt : Nat) : List LOper → Bx (Nat → Kt → Kt)
  | [] => .mk fun _ k => k
  | o :: os => (guardK o.g (op o.op)).then fun f => (putK nt o.dst).then fun p => (compOps op nt os).then fun r => .mk fun fl k a ds h nx => f fl a h nx fun v h nx => r fl k (p a v) ds h nx
def drawK (op : LOp → Bx Ko) (nt s : Nat) : List LOper → Bx (Nat → Nat → Nat → Tr HBlk → List (Nat × List (Nat × HBlk)) → Kt → Tr HV → List Nat → Nat → Option (HV × HS))
  | [] => .mk fun _ _ _ h0 done k a ds nx => k a ds (merge h0 none done) nx
  | o :: os => (guardK o.g (op o.op)).then fun f => (putK nt o.dst).then fun p => (drawK op nt s os).then fun r => (compOps op nt (o :: os)).then fun q => .mk fun fl n0 i h0 done k a ds nx =>
      bif Nat.blt i s then
        bif o.anc.contains i then
          f n0 a (merge h0 (some o.anc) done) nx fun v h nx' => bif Nat.ble nx nx' then r fl n0 (Nat.succ i) h0 ((i, newFrom h n0 (Nat.sub nx' n0)) :: dropAll o.anc done) k (p a v) ds nx' else none
        else
          f nx a (merge h0 (some o.anc) done) nx fun v h nx' => bif Nat.ble nx nx' then r fl n0 (Nat.succ i) h0 (bif Nat.beq nx nx' then done else (i, newFrom h nx (Nat.sub nx' nx)) :: done) k (p a v) ds nx' else none
      else q fl k a ds (merge h0 none done) nx
/-- The loop's record, by its parts. -/
def loopK (b : Option HBlk) (k : LState → HExit → Nat → Tr HV → List Nat → LCode → LCode → Nat → Option (HV × HS)) : Option (HV × HS) :=
  match b with
  | some (.loop ⟨st, pe, nt, tm, ps, asg, bo, mk⟩) => k st pe nt tm ps asg bo mk
  | _ => none
def marksK (rd : Option Nat) (h : Tr HBlk) (nx : Nat) (k : Nat → List Nat → Tr HBlk → Nat → Option (HV × HS)) : Option (HV × HS) :=
  match rd with
  | none => k nx [nx] (h.set nx (some .marks)) (Nat.succ nx)
  | some l => loopK (h.get l) fun _ _ _ _ _ _ _ mk => k mk [] h nx
def notBusy : LState → Bool
  | .busy => false
  | _ => true
def isReady : LState → Bool
  | .ready => true
  | _ => false
def jumpK (e : HExit) (kn : Kt) (kx : Nat → Kt) (kr : Kt) : Kt :=
  match e with
  | .normal => kn
  | .exit i => kx i
  | .ret => kr
def rangeK (fn : Nat → Bx Kf) (nt : Nat) (e : Tr HV → HV) (ps : List Nat) (assign body : LCode) : Kc := fun fl rd kn kx kr a ds h nx =>
  match e a with
  | .func g first captured =>
    marksK rd h nx fun mk ms h1 n1 =>
      (fn g).run fl (first ++ [.yield n1] ++ captured) (h1.set n1 (some (.loop ⟨.ready, .normal, nt, a, ps, assign, body, mk⟩))) (Nat.succ n1) fun _ h3 n3 =>
        loopK (h3.get n1) fun st pe nt' tm ps' asg bo mk' =>
          bif notBusy st && Nat.ble fl n1 then jumpK pe kn kx kr a (ms ++ ds) (h3.set n1 (some (.loop ⟨.exhausted, pe, nt', tm, ps', asg, bo, mk'⟩))) n3 else none
  | _ => none
def endK (l : Nat) (e : HExit) (k : Kv) (h : Tr HBlk) (nx : Nat) : Option (HV × HS) :=
  loopK (h.get l) fun _ _ nt tm ps asg bo mk =>
    match e with
    | .normal => k (.bool true) (h.set l (some (.loop ⟨.ready, .normal, nt, tm, ps, asg, bo, mk⟩))) nx
    | e => k (.bool false) (h.set l (some (.loop ⟨.done, e, nt, tm, ps, asg, bo, mk⟩))) nx
def roundK (co : Nat → LCode → Bx Kc) : Nat → Nat → List HV → Tr HBlk → Nat → Kv → Option (HV × HS) := fun fl l args h nx k =>
  loopK (h.get l) fun _ _ nt tm ps asg bo _ =>
    match zipPut nt tm ps args with
    | some tm1 =>
      (co nt asg).run fl (some l)
        (fun a1 ds1 h1 n1 => loopK (h1.get l) fun st pe nt' tm' ps' asg' bo' mk' =>
          bif isReady st && Nat.ble fl l then
            (co nt bo).run fl (some l) (fun _ _ => endK l .normal k) (fun i _ _ => endK l (.exit i) k) (fun _ _ => endK l .ret k) a1 ds1 (h1.set l (some (.loop ⟨.busy, pe, nt', tm', ps', asg', bo', mk'⟩))) n1
          else none)
        (fun _ _ _ _ _ => none) (fun _ _ _ _ => none) tm1 [] h nx
    | none => none
def comp (op : LOp → Bx Ko) (fn : Nat → Bx Kf) (nt : Nat) : LCode → Bx Kc
  | .skip => .mk fun _ _ kn _ _ => kn
  | .seq x y => (comp op fn nt x).then fun f => (comp op fn nt y).then fun g => .mk fun fl rd kn kx kr => f fl rd (g fl rd kn kx kr) kx kr
  | .cond c x y => (evK c).then fun e => (comp op fn nt x).then fun f => (comp op fn nt y).then fun g => .mk fun fl rd kn kx kr a ds h nx =>
      match e a with
      | .bool b => bif b then f fl rd kn kx kr a ds h nx else g fl rd kn kx kr a ds h nx
      | _ => none
  | .block id x => (comp op fn nt x).then fun f => .mk fun fl rd kn kx kr => f fl rd kn (fun i => bif Nat.beq i id then kn else kx i) kr
  | .loop x => (comp op fn nt x).then fun f => .mk fun fl rd _ kx kr => Nat.rec (motive := fun _ => Kt) (fun _ _ _ _ => none) (fun _ ih => f fl rd ih kx kr) 1000000
  | .scope x => comp op fn nt x
  | .exit id => .mk fun _ _ _ kx _ => kx id
  | .ret => .mk fun _ _ _ _ kr => kr
  | .reg ops => (compOps op nt ops).then fun f => .mk fun fl _ kn _ _ => f fl kn
  | .draw s ops => (drawK op nt s ops).then fun f => .mk fun fl _ kn _ _ a ds h nx => bif Nat.ble fl nx then f fl nx 0 h [] kn a ds nx else none
  | .rangeFunc f ps assign body => (evK f).then fun e => .mk (rangeK fn nt e ps assign body)
  | .bad => .mk fun _ _ _ _ _ _ _ _ _ => none
def leaveK (fl : Nat) (nt : Nat) (res : List LRes) (k : Kv) : Kt := fun a ds h nx =>
  match leaveH fl ⟨nt, a, ds⟩ res ⟨h, nx⟩ with
  | some (v, σ) => k v σ.h σ.nx
  | none => none
abbrev Kr := Nat → Nat → List HV → Tr HBlk → Nat → Kv → Option (HV × HS)
/-- Behind a call that wrote nothing of its caller's. -/
def gcK (h : Tr HBlk) (nx : Nat) (k : Kv) : Kv := fun v h' nx' => k v (keepD h' nx 5 [v] h) nx'
def specK (g : List HV → HS → Option (HV × HS)) : Kf := fun _ args h nx k =>
  match g args ⟨h, nx⟩ with
  | some (v, σ) => bif Nat.ble nx σ.nx then k v σ.h σ.nx else none
  | none => none
def enterK (lf : LFunc) (body : Kc) : Bx Kf :=
  bif lf.imp then .mk fun fl args h nx k => bif Nat.ble args.length lf.nt then body fl none (leaveK fl lf.nt lf.res k) (fun _ _ _ _ _ => none) (leaveK fl lf.nt lf.res k) (putAll .e 0 args) [] h nx else none
  else .mk fun _ args h nx k => bif Nat.ble args.length lf.nt then body nx none (leaveK nx lf.nt lf.res (gcK h nx k)) (fun _ _ _ _ _ => none) (leaveK nx lf.nt lf.res (gcK h nx k)) (putAll .e 0 args) [] h nx else none
/-- Functions and rounds, so deep. -/
def bothK (lp : Nat → Option LFunc) : Nat → (Nat → Bx Kf) × Kr
  | 0 => (fun _ => .mk fun _ _ _ _ _ => none, fun _ _ _ _ _ _ => none)
  | n + 1 =>
    (fun f =>
      match lp f with
      | none => .mk fun _ _ _ _ _ => none
      | some lf =>
        match lf.spec with
        | some g => .mk (specK g)
        | none => (comp (compOp lp (bothK lp n).1 (bothK lp n).2 lf.nt) (bothK lp n).1 lf.nt lf.body).then (enterK lf),
     roundK fun nt c => comp (compOp lp (bothK lp n).1 (bothK lp n).2 nt) (bothK lp n).1 nt c)
def fnK (lp : Nat → Option LFunc) (n : Nat) : Nat → Bx Kf := (bothK lp n).1
end
end Go.Hx

