import Derived.Test.YtcejjaaoainfjaaH02
import Derived.Below
import Derived.OpenShut
import Derived.Deep.Slices
import Derived.WideShapes
set_option linter.all false
namespace Go.Hx
open Go.RowKit
variable {P : Program}
inductive LeafV : Leaf → Value → Prop
 | b (b : Bool) : LeafV .b (.bool b)
 | i (k : IntKind) (n : Int) : LeafV (.i k) (.int k n)
 | s (s : ByteArray) : LeafV .s (.string s)
def F2 (ks : List Leaf) (cs : List Value) : Prop := ks.length = cs.length ∧ ∀ (i : Nat) (k : Leaf) (u : Value), ks[i]? = some k → cs[i]? = some u → LeafV k u
theorem Ym {k : Leaf} {u : Value} (h : LeafV k u) : F2 [k] [u] := ⟨rfl, fun i k' u' h1 h2 => by
 cases i with
 | zero => cases h1; cases h2; exact h
 | succ i => simp at h1⟩
section
variable {H : Type} {enc : TypeId × Value → H} {w : World} {base : Nat} {spare : Nat → Bool} {held : Bool}
theorem jG {t : TypeId} {n : Nat} (h : szOf P t = some n) : P.cellsOf t = n := by
 unfold szOf at h
 unfold Program.cellsOf
 rw [h]; rfl
theorem uk {lv : TypeId → Option (List Leaf)} {cs : List Value} : ∀ (fs : List Field) (off : Nat) (ks : List Leaf), leavesF P lv fs off = some ks →
  (∀ f ∈ fs, ∀ kf, lv f.type = some kf → kf.length = P.cellsOf f.type → F2 kf ((cs.drop f.offset).take (P.cellsOf f.type))) →
  ∀ (i : Nat) (k : Leaf) (u : Value), ks[i]? = some k → cs[off + i]? = some u → LeafV k u
 | [], off, ks, h, _, i, k, u, h1, _ => by cases h; simp at h1
 | f :: fs, off, ks, h, hf, i, k, u, h1, h2 => by
  unfold leavesF at h
  split at h
  ·rename_i kf n e1 e2
   cases hc : (f.name != "_" && Nat.beq f.offset off && Nat.beq n kf.length) with
   | false => rw [hc] at h; cases h
   | true =>
    rw [hc] at h
    simp only [cond_true, Option.map_eq_some_iff] at h
    obtain ⟨kr, h3, rfl⟩ := h
    simp only [Bool.and_eq_true] at hc
    have ho : f.offset = off := Nat.eq_of_beq_eq_true hc.1.2
    have hn : n = kf.length := Nat.eq_of_beq_eq_true hc.2
    have hs := jG e2
    by_cases hi : i < kf.length
    ·have := (hf f (List.mem_cons_self ..) kf e1 (by omega)).2 i k u (by rwa [List.getElem?_append_left hi] at h1)
     exact this (by rw [List.getElem?_take, if_pos (by omega), List.getElem?_drop, ho]; exact h2)
    ·refine uk fs (off + n) kr h3 (fun g hg => hf g (List.mem_cons_of_mem _ hg)) (i - kf.length) k u ?_ ?_
     ·rwa [List.getElem?_append_right (by omega)] at h1
     ·rw [show off + n + (i - kf.length) = off + i by omega]; exact h2
  ·cases h
theorem YK {ks : List Leaf} {k : Leaf} : ∀ {n i : Nat}, (repL n ks)[i]? = some k → 1 ≤ ks.length → (repL n ks)[i]? = ks[i % ks.length]?
 | 0, i, h, _ => by simp [repL] at h
 | n + 1, i, h, hl => by
  unfold repL at h ⊢
  by_cases hi : i < ks.length
  ·rw [List.getElem?_append_left hi, Nat.mod_eq_of_lt hi]
  ·rw [List.getElem?_append_right (by omega)] at h ⊢
   rw [YK h hl, ← Nat.mod_eq_sub_mod (a := i) (b := ks.length) (by omega)]
theorem vl : ∀ (d : Nat) (t : TypeId) (ks : List Leaf) (fuel : Nat) (cs : List Value) (x : DataW H × List MemPlace), leaves P d t = some ks → ks.length = P.cellsOf t → DataW.trod enc P w base spare held fuel t cs = some x → F2 ks cs
 | 0, t, ks, fuel, cs, x, h, _, _ => by cases h
 | d + 1, t, ks, fuel, cs, x, h, hl, ht => by
  unfold leaves at h
  split at h
  ·rename_i e; cases h
   obtain ⟨b, rfl, _⟩ := DataW.trod_bool e ht
   exact Ym (.b b)
  ·rename_i k e; cases h
   obtain ⟨n, rfl, _⟩ := DataW.trod_int e ht
   exact Ym (.i k n)
  ·rename_i e; cases h
   obtain ⟨s, rfl, _⟩ := DataW.trod_string e ht
   exact Ym (.s s)
  ·rename_i fs e
   cases hst : P.stoodInHeld t with
   | true => rw [hst] at h; cases h
   | false =>
    rw [hst] at h
    simp only [cond_false] at h
    obtain ⟨xs, n, _, _, hlen, hxl, hx⟩ := DataW.trod_struct e ht
    refine ⟨by omega, fun i k u h1 h2 => ?_⟩
    refine uk fs.toList 0 ks h (fun f hf kf hk hkl => ?_) i k u h1 (by rwa [Nat.zero_add])
    obtain ⟨j, hj, rfl⟩ := List.getElem_of_mem hf
    have hj' : j < fs.size := by simpa using hj
    have hfj : fs[j]? = some fs.toList[j] := by rw [← Array.getElem?_toList]; exact List.getElem?_eq_getElem hj
    have h3 := hx j _ hfj
    have h4 : xs[j]? = some xs[j] := List.getElem?_eq_getElem (by omega)
    rw [h4] at h3
    exact vl d _ kf n _ _ hk hkl h3
  ·rename_i len e hu
   obtain ⟨k1, e1, e2, e3, rfl⟩ := vE h
   have hce := jG e2
   obtain ⟨xs, m, _, _, hlen, hxl, hx⟩ := DataW.trod_array hu ht
   refine ⟨by omega, fun i k u h1 h2 => ?_⟩
   have hi : i < (repL len k1).length := by
    rcases Nat.lt_or_ge i (repL len k1).length with g | g
    ·exact g
    ·rw [List.getElem?_eq_none g] at h1; cases h1
   rw [Xh] at hi
   have hq : i / k1.length < len := Nat.div_lt_of_lt_mul (by rw [Nat.mul_comm]; exact hi)
   have h3 := hx (i / k1.length) hq
   rw [List.getElem?_eq_getElem (by omega)] at h3
   have := (vl d e k1 m _ _ e1 (by omega) h3).2 (i % k1.length) k u (by rw [← YK h1 (by omega)]; exact h1) (by
    rw [hce, List.getElem?_take, if_pos (Nat.mod_lt _ (by omega)), List.getElem?_drop, Nat.mul_comm, Nat.div_add_mod]; exact h2)
   exact this
  ·cases h
end
structure Slot where
 cs : List HV
 ri : RI
noncomputable def laid : Nat → List (Option Slot) → Tr HBlk → Tr HBlk
 | _, [], h => h
 | k, none :: ss, h => laid (k + 1) ss h
 | k, some s :: ss, h => laid (k + 1) ss (h.set k (some (.cells s.cs .ro)))
def riOf (o : Option Slot) : Option RI := o.map (·.ri)
def rhoOf (ss : List (Option Slot)) : Rho := fun b => riOf (ss.getD b none)
theorem jW : ∀ (ss : List (Option Slot)) (k : Nat) (h : Tr HBlk) (b : Nat), (laid k ss h).get b = if k ≤ b ∧ b < k + ss.length then (match ss.getD (b - k) none with | some s => some (.cells s.cs .ro) | none => h.get b) else h.get b
 | [], k, h, b => by rw [if_neg (by simp only [List.length_nil]; omega)]; rfl
 | none :: ss, k, h, b => by
  show (laid (k + 1) ss h).get b = _
  rw [jW ss (k + 1) h b]
  by_cases e : b = k
  ·subst e; rw [if_neg (by omega), if_pos (by simp)]; simp
  ·by_cases h1 : k + 1 ≤ b ∧ b < k + 1 + ss.length
   ·rw [if_pos h1, if_pos (by simp; omega), show b - k = (b - (k + 1)) + 1 by omega]; rfl
   ·rw [if_neg h1, if_neg (by simp; omega)]
 | some s :: ss, k, h, b => by
  show (laid (k + 1) ss (h.set k _)).get b = _
  rw [jW ss (k + 1) _ b, Tr.get_set]
  by_cases e : b = k
  ·subst e; rw [if_neg (by omega), if_pos rfl, if_pos (by simp)]; simp
  ·rw [if_neg e]
   by_cases h1 : k + 1 ≤ b ∧ b < k + 1 + ss.length
   ·rw [if_pos h1, if_pos (by simp; omega), show b - k = (b - (k + 1)) + 1 by omega]; rfl
   ·rw [if_neg h1, if_neg (by simp; omega)]
noncomputable def lay (ss : List (Option Slot)) : Tr HBlk := laid 0 ss .e
theorem lay_get (ss : List (Option Slot)) (b : Nat) : (lay ss).get b = (ss.getD b none).map fun s => .cells s.cs .ro := by
 unfold lay
 rw [jW, Tr.get_e]
 by_cases h : b < ss.length
 ·rw [if_pos ⟨Nat.zero_le _, by omega⟩, Nat.sub_zero]
  cases ss.getD b none <;> rfl
 ·rw [if_neg (by omega), List.getD_eq_getElem?_getD, List.getElem?_eq_none (by omega)]; rfl
theorem lay_d (ss : List (Option Slot)) : D (lay ss) ss.length := by
 unfold D
 intro b hb
 rw [lay_get, List.getD_eq_getElem?_getD, List.getElem?_eq_none (by omega)]; rfl
def SlotOk (w : World) (s : Slot) : Prop := ∃ (C : Array Value) (e : TypeId) (z : Nat × Nat), w.heap[s.ri.blk]? = some (.cells C e z) ∧ ∀ (i : Nat) (v : HV), s.cs[i]? = some v → ∃ u, C[s.ri.off + i]? = some u ∧ ∀ ρ, VR ρ v u
theorem kj {base nx nx' : Nat} {g g' : Hp} {ρ ρ' : Rho} {W W' : World} (h : Post P base 0 nx nx' g g' ρ ρ' W W') (hro : ∀ b x, g b = some x → x.own = false) : Below W.heap.size W W' :=
 ⟨h.os, h.tape, h.output, h.size, fun k hk => h.same k hk fun ⟨b, x, r, h1, h2, _⟩ => by rw [hro b x h1] at h2; cases h2⟩
theorem YW {α : Type} {enc : α → List HV} {sz : Nat} (he : ∀ x, (enc x).length = sz) : ∀ (l : List α) (p : Nat) (v : HV), (l.flatMap enc)[p]? = some v → ∃ i j x, p = i * sz + j ∧ l[i]? = some x ∧ (enc x)[j]? = some v
 | [], p, v, h => by simp at h
 | x :: l, p, v, h => by
  rw [List.flatMap_cons] at h
  by_cases hp : p < sz
  ·rw [List.getElem?_append_left (by rw [he]; exact hp)] at h
   exact ⟨0, p, x, by omega, rfl, h⟩
  ·rw [List.getElem?_append_right (by rw [he]; omega), he] at h
   obtain ⟨i, j, y, h1, h2, h3⟩ := YW he l _ v h
   exact ⟨i + 1, j, y, by rw [Nat.add_mul]; omega, by simpa using h2, h3⟩
theorem uK {k : IntKind} {u : Value} (h : LeafV (.i k) u) : ∃ n, u = .int k n := by cases h; exact ⟨_, rfl⟩
theorem YX {k : Leaf} {ks : List Leaf} {C : List Value} (h : F2 (k :: ks) C) : ∃ u C', C = u :: C' ∧ LeafV k u ∧ F2 ks C' := by
 cases C with
 | nil => exact absurd h.1 (by simp)
 | cons u C => exact ⟨u, C, rfl, h.2 0 k u rfl rfl, by simpa using h.1, fun i k' u' h1 h2 => h.2 (i + 1) k' u' (by simpa using h1) (by simpa using h2)⟩
theorem f2_nil {C : List Value} (h : F2 [] C) : C = [] := by
 cases C with
 | nil => rfl
 | cons u C => exact absurd h.1 (by simp)
end Go.Hx

namespace Go.Hx
variable {lp : Nat → Option zp} {fl : Nat} {N : HAct → HS → Prop} {a : HAct} {h : Tr HBlk} {nx : Nat} {os : List zh} {dst : Option Nat} {anc : List Nat}
theorem r_mm (hn : R lp fl os N (a.put dst (.map (some nx))) ⟨h.set nx (some (.map [])), nx + 1⟩) : R lp fl (⟨dst, .makeMap, none, anc⟩ :: os) N a ⟨h, nx⟩ := r_go rfl hn
theorem r_lku {d : ED} {zero kv : HV} {m k : Lo} {r : Nat} {es : List (HV × HV)} {o : Option HV} (hm : a.ev m = .map (some r)) (hk : a.ev k = kv) (hok : keyOk d kv = true) (hg : h.get r = some (.map es)) (hf : findH d kv es = some o) (hn : R lp fl os N (a.put dst (o.getD zero)) ⟨h, nx⟩) : R lp fl (⟨dst, .lookup d zero false m k, none, anc⟩ :: os) N a ⟨h, nx⟩ :=
 r_go (by
  show oLookup d zero false m k a _ = _
  unfold oLookup
  rw [hk, hm]
  simp only [hok, cond_true, hg, hf]
  cases o <;> rfl) hn
theorem r_mup {d : ED} {kv : HV} {m k v : Lo} {vv : HV} {r : Nat} {es es' : List (HV × HV)} (hm : a.ev m = .map (some r)) (hk : a.ev k = kv) (hv : a.ev v = vv) (hok : keyOk d kv = true) (hg : h.get r = some (.map es)) (hfl : fl ≤ r) (hu : updH d kv vv es = some es') (hn : R lp fl os N (a.put dst .undef) ⟨h.set r (some (.map es')), nx⟩) : R lp fl (⟨dst, .mapUpdate d m k v, none, anc⟩ :: os) N a ⟨h, nx⟩ :=
 r_go (by
  show oMapUpdate fl d m k v a _ = _
  unfold oMapUpdate
  rw [hk, hm, hv]
  simp only [hok, cond_true, hg, yh hfl, hu]
  rfl) hn
theorem r_eqh {d : ED} {neg b : Bool} {x y : Lo} {u w : HV} {σ : HS} (hx : a.ev x = u) (hy : a.ev y = w) (he : eqH d u w = some b) (hn : R lp fl os N (a.put dst (.bool (b != neg))) σ) : R lp fl (⟨dst, .eq d neg x y, none, anc⟩ :: os) N a σ :=
 r_go (by show oEq d neg x y a σ = _; unfold oEq; rw [hx, hy]; simp only [he]) hn
end Go.Hx

namespace Go.Hx
end Go.Hx

namespace Go.Hx
variable {lp : Nat → Option zp} {fl : Nat} {N : HAct → HS → Prop} {a : HAct} {h : Tr HBlk} {nx : Nat} {os : List zh}
end Go.Hx

namespace Go.Hx
variable {lp : Nat → Option zp} {fl : Nat} {rd : Option Nat} {Q : HExit → HAct → HS → Prop} {N : HAct → HS → Prop} {a : HAct} {h0 h : Tr HBlk} {nx s n0 i : Nat} {os : List zh} {done : List (Nat × List (Nat × HBlk))}
def DG (lp : Nat → Option zp) (fl s n0 : Nat) (h0 : Tr HBlk) (os : List zh) (i : Nat) (done : List (Nat × List (Nat × HBlk))) (N : HAct → HS → Prop) (a : HAct) (nx : Nat) : Prop :=
 ∃ n a' σ', drawOps lp (exec lp n) fl s n0 h0 os i done a nx = some (a', σ') ∧ N a' σ'
def DN (lp : Nat → Option zp) (fl s n0 : Nat) (h0 : Tr HBlk) (os : List zh) (i : Nat) (done : List (Nat × List (Nat × HBlk))) (nx : Nat) (N : HAct → HS → Prop) : HAct → HS → Prop := fun a' σ' =>
 (σ'.nx = nx ∧ DG lp fl s n0 h0 os (i + 1) done N a' nx) ∨ ∃ x, σ'.nx = nx + 1 ∧ σ'.h.get nx = some x ∧ DG lp fl s n0 h0 os (i + 1) ((i, [(nx, x)]) :: done) N a' (nx + 1)
theorem w_drawg {ops : List zh} (hfl : fl ≤ nx) (hr : DG lp fl s nx h ops 0 [] (Q .normal) a nx) : W lp fl rd (.draw s ops) Q a ⟨h, nx⟩ := by
 obtain ⟨n, a', σ', h1, h2⟩ := hr
 refine ⟨n + 1, .normal, a', σ', ?_, h2⟩
 show xDraw lp (exec lp n) fl s ops a ⟨h, nx⟩ = _
 unfold xDraw
 have : Nat.ble fl nx = true := yh hfl
 simp only [this, cond_true, h1]
 rfl
theorem g_step {o : zh} {hm : Tr HBlk} (hi : Nat.blt i s = true) (hw : o.anc.contains i = false) (hmg : merge h0 (some o.anc) done = hm) (hr : R lp (max fl nx) [o] (DN lp fl s n0 h0 os i done nx N) a ⟨hm, nx⟩) : DG lp fl s n0 h0 (o :: os) i done N a nx := by
 obtain ⟨n, a1, σ1, h1, h2⟩ := hr
 have h1' : stepOp lp (exec lp n) (max fl nx) o a ⟨hm, nx⟩ = some (a1, σ1) := by
  unfold runOps at h1
  split at h1
  ·rename_i e; rw [e]; exact h1
  ·cases h1
 rcases h2 with ⟨e1, n2, a2, σ2, h3, h4⟩ | ⟨x, e1, e2, n2, a2, σ2, h3, h4⟩
 ·refine ⟨max n n2, a2, σ2, ?_, h4⟩
  unfold drawOps
  rw [hi, cond_true, hw, cond_false, hmg]
  show (match stepOp lp (exec lp (max n n2)) (max fl nx) o a ⟨hm, nx⟩ with | some (a, σ) => _ | none => none) = _
  rw [yf (zL (Nat.le_max_left n n2)) h1']
  have b1 : Nat.ble nx σ1.nx = true := yh (by omega)
  have b2 : Nat.beq nx σ1.nx = true := by rw [e1]; exact Nat.beq_refl nx
  simp only [b1, b2, Bool.not_true, cond_false, cond_true]
  rw [e1]
  exact yd (zL (Nat.le_max_right n n2)) h3
 ·refine ⟨max n n2, a2, σ2, ?_, h4⟩
  unfold drawOps
  rw [hi, cond_true, hw, cond_false, hmg]
  show (match stepOp lp (exec lp (max n n2)) (max fl nx) o a ⟨hm, nx⟩ with | some (a, σ) => _ | none => none) = _
  rw [yf (zL (Nat.le_max_left n n2)) h1']
  have b1 : Nat.ble nx σ1.nx = true := yh (by omega)
  have b2 : Nat.beq nx σ1.nx = false := by
   cases e : Nat.beq nx σ1.nx with
   | false => rfl
   | true => have := Nat.eq_of_beq_eq_true e; omega
  have b3 : newFrom σ1.h nx (σ1.nx - nx) = [(nx, x)] := by
   rw [e1, show nx + 1 - nx = 1 by omega]
   unfold newFrom newFrom
   rw [e2]
  simp only [b1, b2, b3, Bool.not_true, cond_false]
  rw [e1]
  exact yd (zL (Nat.le_max_right n n2)) h3
theorem g_end (hi : Nat.ble s i = true) {hm : Tr HBlk} (hmg : merge h0 none done = hm) (hr : R lp fl os N a ⟨hm, nx⟩) : DG lp fl s n0 h0 os i done N a nx := by
 obtain ⟨n, a', σ', h1, h2⟩ := hr
 refine ⟨n, a', σ', ?_, h2⟩
 cases os with
 | nil => unfold drawOps; rw [hmg]; exact h1
 | cons o os =>
  unfold drawOps
  have : Nat.blt i s = false := by
   cases e : Nat.blt i s with
   | false => rfl
   | true => rw [Nat.blt_eq] at e; have := Nat.le_of_ble_eq_true hi; omega
  rw [this, cond_false, hmg]
  exact h1
theorem dr_in {anc : List Nat} {j : Nat} {l : List (Nat × HBlk)} (hc : anc.contains j = true) : dropAll anc ((j, l) :: done) = dropAll anc done := by
 show (bif anc.contains j then dropAll anc done else (j, l) :: dropAll anc done) = _
 rw [hc]; rfl
theorem ad_nil : addAll h [] = h := rfl
theorem uT {b : Nat} {x : HBlk} {l : List (Nat × HBlk)} : addAll h ((b, x) :: l) = addAll (h.set b (some x)) l := rfl
attribute [irreducible] DG DN
end Go.Hx

namespace Go.Hx
variable {lp : Nat → Option zp} {fl : Nat} {N : HAct → HS → Prop} {a : HAct} {h : Tr HBlk} {nx : Nat} {os : List zh} {dst : Option Nat} {anc : List Nat}
theorem Yr {h0 : Tr HBlk} {s n0 i : Nat} {done : List (Nat × List (Nat × HBlk))} (hg : DG lp fl s n0 h0 os i done N a nx) : ∃ n a' σ', drawOps lp (exec lp n) fl s n0 h0 os i done a nx = some (a', σ') ∧ N a' σ' := by
 unfold DG at hg
 exact hg
end Go.Hx

namespace Go.Hx
variable {lp : Nat → Option zp} {fl : Nat} {rd : Option Nat} {Q : HExit → HAct → HS → Prop} {N : HAct → HS → Prop} {a : HAct} {h0 h : Tr HBlk} {nx s n0 i : Nat} {os : List zh} {done : List (Nat × List (Nat × HBlk))}
def DX (lp : Nat → Option zp) (fl s n0 : Nat) (h0 : Tr HBlk) (os : List zh) (i : Nat) (done : List (Nat × List (Nat × HBlk))) (nx : Nat) (N : HAct → HS → Prop) : HAct → HS → Prop := fun a' σ' =>
 (σ'.nx = nx ∧ DG lp fl s n0 h0 os (i + 1) done N a' nx) ∨ (∃ x, σ'.nx = nx + 1 ∧ σ'.h.get nx = some x ∧ DG lp fl s n0 h0 os (i + 1) ((i, [(nx, x)]) :: done) N a' (nx + 1)) ∨ (nx ≤ σ'.nx ∧ (∀ b, nx ≤ b → σ'.h.get b = none) ∧ DG lp fl s n0 h0 os (i + 1) done N a' σ'.nx) ∨ (nx ≤ σ'.nx ∧ DG lp fl s n0 h0 os (i + 1) ((i, newFrom σ'.h nx (σ'.nx - nx)) :: done) N a' σ'.nx)
noncomputable def mf (f : Nat → Bool) : Tr HBlk → List (Nat × List (Nat × HBlk)) → Tr HBlk
 | h, [] => h
 | h, (j, l) :: ds => mf f (bif f j then addAll h l else h) ds
theorem yQ {anc : Option (List Nat)} : ∀ (ds : List (Nat × List (Nat × HBlk))) (h : Tr HBlk), merge h anc ds = mf (fun j => match anc with | none => true | some anc => anc.contains j) h ds
 | [], _ => rfl
 | (j, l) :: ds, h => by unfold merge mf; exact yQ ds _
theorem js {f : Nat → Bool} {B : List Nat} : ∀ (ds : List (Nat × List (Nat × HBlk))) (h : Tr HBlk), mf f h (dropAll B ds) = mf (fun j => f j && !B.contains j) h ds
 | [], _ => rfl
 | (j, l) :: ds, h => by
  unfold dropAll
  cases hc : B.contains j with
  | true =>
   simp only [cond_true]
   rw [js ds h]
   show _ = mf _ (bif f j && !B.contains j then addAll h l else h) ds
   rw [hc]
   simp
  | false =>
   simp only [cond_false]
   show mf f (bif f j then addAll h l else h) (dropAll B ds) = mf _ (bif f j && !B.contains j then addAll h l else h) ds
   rw [js ds, hc]
   simp
theorem uP {ex : Ex} : ∀ (os : List zh) (i : Nat) (d1 d2 : List (Nat × List (Nat × HBlk))) (a : HAct) (nx : Nat), (∀ f h, mf f h d1 = mf f h d2) → drawOps lp ex fl s n0 h0 os i d1 a nx = drawOps lp ex fl s n0 h0 os i d2 a nx
 | [], i, d1, d2, a, nx, h => by unfold drawOps; rw [yQ, yQ, h]
 | o :: os, i, d1, d2, a, nx, h => by
  have hm : ∀ anc, merge h0 anc d1 = merge h0 anc d2 := fun anc => by rw [yQ, yQ, h]
  unfold drawOps
  rw [hm, hm]
  cases Nat.blt i s with
  | false => rfl
  | true =>
   simp only [cond_true]
   cases o.anc.contains i with
   | true =>
    simp only [cond_true]
    cases stepOp lp ex (Nat.max fl n0) o a ⟨merge h0 (some o.anc) d2, nx⟩ with
    | none => rfl
    | some r =>
     obtain ⟨a', σ'⟩ := r
     dsimp only
     cases Nat.ble nx σ'.nx with
     | false => rfl
     | true =>
      simp only [Bool.not_true, cond_false]
      refine uP os _ _ _ _ _ fun f g => ?_
      unfold mf
      rw [js, js, h]
   | false =>
    simp only [cond_false]
    cases stepOp lp ex (Nat.max fl nx) o a ⟨merge h0 (some o.anc) d2, nx⟩ with
    | none => rfl
    | some r =>
     obtain ⟨a', σ'⟩ := r
     dsimp only
     cases Nat.ble nx σ'.nx with
     | false => rfl
     | true =>
      simp only [Bool.not_true, cond_false]
      cases Nat.beq nx σ'.nx with
      | true => exact uP os _ _ _ _ _ h
      | false =>
       simp only [cond_false]
       exact uP os _ _ _ _ _ fun f g => by unfold mf; exact h f _
theorem x_step {o : zh} {hm : Tr HBlk} (hi : Nat.blt i s = true) (hw : o.anc.contains i = false) (hmg : merge h0 (some o.anc) done = hm) (hr : R lp (max fl nx) [o] (DX lp fl s n0 h0 os i done nx N) a ⟨hm, nx⟩) : DG lp fl s n0 h0 (o :: os) i done N a nx := by
 obtain ⟨n, a1, σ1, h1, h2⟩ := hr
 rcases h2 with h2 | h2 | ⟨e1, e2, h2⟩ | ⟨e1, h2⟩
 ·exact g_step hi hw hmg ⟨n, a1, σ1, h1, by unfold DN; exact .inl h2⟩
 ·exact g_step hi hw hmg ⟨n, a1, σ1, h1, by unfold DN; exact .inr h2⟩
 ·have h1' : stepOp lp (exec lp n) (max fl nx) o a ⟨hm, nx⟩ = some (a1, σ1) := by
   unfold runOps at h1
   split at h1
   ·rename_i e; rw [e]; exact h1
   ·cases h1
  obtain ⟨n2, a2, σ2, h3, h4⟩ := Yr h2
  have key : drawOps lp (exec lp (max n n2)) fl s n0 h0 (o :: os) i done a nx = some (a2, σ2) := by
   unfold drawOps
   rw [hi, cond_true, hw, cond_false, hmg]
   show (match stepOp lp (exec lp (max n n2)) (max fl nx) o a ⟨hm, nx⟩ with | some (a, σ) => _ | none => none) = _
   rw [yf (zL (Nat.le_max_left n n2)) h1']
   have b1 : Nat.ble nx σ1.nx = true := yh e1
   simp only [b1, Bool.not_true, cond_false]
   rw [uI _ _ e2]
   refine (uP os _ _ done _ _ fun f g => ?_).trans (yd (zL (Nat.le_max_right n n2)) h3)
   cases Nat.beq nx σ1.nx with
   | true => rfl
   | false =>
    simp only [cond_false]
    have e : ∀ c : Bool, (bif c then addAll g [] else g) = g := fun c => by cases c <;> rfl
    show mf f (bif _ then addAll g [] else g) done = _
    rw [e]
  unfold DG
  exact ⟨_, a2, σ2, key, h4⟩
 ·have h1' : stepOp lp (exec lp n) (max fl nx) o a ⟨hm, nx⟩ = some (a1, σ1) := by
   unfold runOps at h1
   split at h1
   ·rename_i e; rw [e]; exact h1
   ·cases h1
  obtain ⟨n2, a2, σ2, h3, h4⟩ := Yr h2
  have key : drawOps lp (exec lp (max n n2)) fl s n0 h0 (o :: os) i done a nx = some (a2, σ2) := by
   unfold drawOps
   rw [hi, cond_true, hw, cond_false, hmg]
   show (match stepOp lp (exec lp (max n n2)) (max fl nx) o a ⟨hm, nx⟩ with | some (a, σ) => _ | none => none) = _
   rw [yf (zL (Nat.le_max_left n n2)) h1']
   have b1 : Nat.ble nx σ1.nx = true := yh e1
   simp only [b1, Bool.not_true, cond_false]
   refine (uP os _ _ ((i, newFrom σ1.h nx (σ1.nx - nx)) :: done) _ _ fun f g => ?_).trans (yd (zL (Nat.le_max_right n n2)) h3)
   cases hb : Nat.beq nx σ1.nx with
   | false => rfl
   | true =>
    have hz : σ1.nx - nx = 0 := by have := Nat.eq_of_beq_eq_true hb; omega
    rw [hz]
    simp only [cond_true]
    have e : ∀ c : Bool, (bif c then addAll g [] else g) = g := fun c => by cases c <;> rfl
    show mf f g done = mf f (bif _ then addAll g [] else g) done
    rw [e]
  unfold DG
  exact ⟨_, a2, σ2, key, h4⟩
theorem uS {h2 : Tr HBlk} : ∀ (k lo : Nat) (g : Tr HBlk) (b : Nat), (addAll g (newFrom h2 lo k)).get b = if lo ≤ b ∧ b < lo + k then (match h2.get b with | some x => some x | none => g.get b) else g.get b
 | 0, lo, g, b => by rw [if_neg (by omega)]; rfl
 | k + 1, lo, g, b => by
  unfold newFrom
  cases e : h2.get lo with
  | none =>
   dsimp only
   rw [uS k (lo + 1) g b]
   by_cases h1 : lo + 1 ≤ b ∧ b < lo + 1 + k
   ·rw [if_pos h1, if_pos (by omega)]
   ·rw [if_neg h1]
    by_cases h2 : lo ≤ b ∧ b < lo + (k + 1)
    ·have : b = lo := by omega
     subst this
     rw [if_pos h2, e]
    ·rw [if_neg h2]
  | some x =>
   dsimp only
   rw [uT, uS k (lo + 1) _ b]
   by_cases h1 : lo + 1 ≤ b ∧ b < lo + 1 + k
   ·rw [if_pos h1, if_pos (by omega), z7 _ _ (by omega)]
   ·rw [if_neg h1]
    by_cases h2 : lo ≤ b ∧ b < lo + (k + 1)
    ·have : b = lo := by omega
     subst this
     rw [if_pos h2, e, z8]
    ·rw [if_neg h2, z7 _ _ (by omega)]
theorem x_same {hm : Tr HBlk} (hr : DG lp fl s n0 h0 os (i + 1) done N a nx) : DX lp fl s n0 h0 os i done nx N a ⟨hm, nx⟩ := .inl ⟨rfl, hr⟩
theorem x_new {hm : Tr HBlk} {x : HBlk} (hr : DG lp fl s n0 h0 os (i + 1) ((i, [(nx, x)]) :: done) N a (nx + 1)) : DX lp fl s n0 h0 os i done nx N a ⟨hm.set nx (some x), nx + 1⟩ := .inr (.inl ⟨x, rfl, z8 _ _ _, hr⟩)
theorem x_call {hm : Tr HBlk} {n' : Nat} (hn : nx ≤ n') (hd : D hm nx) (hr : DG lp fl s n0 h0 os (i + 1) done N a n') : DX lp fl s n0 h0 os i done nx N a ⟨hm, n'⟩ := .inr (.inr (.inl ⟨hn, by unfold D at hd; exact hd, hr⟩))
def DW (lp : Nat → Option zp) (fl s n0 : Nat) (h0 : Tr HBlk) (os : List zh) (i : Nat) (anc : List Nat) (done : List (Nat × List (Nat × HBlk))) (nx : Nat) (N : HAct → HS → Prop) : HAct → HS → Prop := fun a' σ' =>
 nx ≤ σ'.nx ∧ DG lp fl s n0 h0 os (i + 1) ((i, newFrom σ'.h n0 (σ'.nx - n0)) :: dropAll anc done) N a' σ'.nx
theorem x_stepW {o : zh} {hm : Tr HBlk} (hi : Nat.blt i s = true) (hw : o.anc.contains i = true) (hmg : merge h0 (some o.anc) done = hm) (hr : R lp (max fl n0) [o] (DW lp fl s n0 h0 os i o.anc done nx N) a ⟨hm, nx⟩) : DG lp fl s n0 h0 (o :: os) i done N a nx := by
 obtain ⟨n, a1, σ1, h1, e1, h2⟩ := hr
 have h1' : stepOp lp (exec lp n) (max fl n0) o a ⟨hm, nx⟩ = some (a1, σ1) := by
  unfold runOps at h1
  split at h1
  ·rename_i e; rw [e]; exact h1
  ·cases h1
 obtain ⟨n2, a2, σ2, h3, h4⟩ := Yr h2
 have key : drawOps lp (exec lp (max n n2)) fl s n0 h0 (o :: os) i done a nx = some (a2, σ2) := by
  unfold drawOps
  rw [hi, cond_true, hw, cond_true, hmg]
  show (match stepOp lp (exec lp (max n n2)) (max fl n0) o a ⟨hm, nx⟩ with | some (a, σ) => _ | none => none) = _
  rw [yf (zL (Nat.le_max_left n n2)) h1']
  have b1 : Nat.ble nx σ1.nx = true := yh e1
  simp only [b1, Bool.not_true, cond_false]
  exact yd (zL (Nat.le_max_right n n2)) h3
 unfold DG
 exact ⟨_, a2, σ2, key, h4⟩
theorem x_extW {h2 : Tr HBlk} {n2 : Nat} {anc : List Nat} {dn : List (Nat × List (Nat × HBlk))} (hle : nx ≤ n2) (hd : D h2 n2) (hdr : dropAll anc done = dn) (hr : ∀ L, (∀ g b, b < n0 ∨ n2 ≤ b → (addAll g L).get b = g.get b) → (∀ g b x, n0 ≤ b → h2.get b = some x → (addAll g L).get b = some x) → (∀ g n', n2 ≤ n' → D g n' → D (addAll g L) n') → DG lp fl s n0 h0 os (i + 1) ((i, L) :: dn) N a n2) : DW lp fl s n0 h0 os i anc done nx N a ⟨h2, n2⟩ := by
 subst hdr
 refine ⟨hle, hr _ (fun g b hb => ?_) (fun g b x hb hx => ?_) (fun g n' hn hg => ?_)⟩
 ·show (addAll g (newFrom h2 n0 (n2 - n0))).get b = _
  rw [uS, if_neg (by omega)]
 ·show (addAll g (newFrom h2 n0 (n2 - n0))).get b = _
  have : b < n2 := by
   refine Nat.not_le.1 fun h => ?_
   unfold D at hd
   rw [hd b h] at hx
   cases hx
  rw [uS, if_pos (by omega), hx]
 ·show D (addAll g (newFrom h2 n0 (n2 - n0))) n'
  unfold D at hg ⊢
  intro b hb
  rw [uS, if_neg (by omega)]
  exact hg b hb
attribute [irreducible] DX DW
end Go.Hx

namespace Go.Hx
variable {lp : Nat → Option zp} {fl : Nat} {Q : HExit → HAct → HS → Prop} {N : HAct → HS → Prop} {a : HAct} {h : Tr HBlk} {nx : Nat} {os : List zh} {dst : Option Nat} {anc : List Nat}
theorem w_range {f : Lo} {ps : List Nat} {assign body : ze} {g : Nat} {first captured : List HV} {K : HV → HS → Prop} (hf : a.ev f = .func g first captured)
  (hc : C lp fl g (first ++ [.yield (nx + 1)] ++ captured) ⟨(h.set nx (some .marks)).set (nx + 1) (some (.loop ⟨.ready, .normal, a.nt, a.tmps, ps, assign, body, nx⟩)), nx + 1 + 1⟩ K)
  (hk : ∀ v σ', K v σ' → ∃ r, σ'.h.get (nx + 1) = some (.loop r) ∧ r.state ≠ .busy ∧ fl ≤ nx + 1 ∧ Q r.pending { a with defers := [nx] ++ a.defers } ⟨σ'.h.set (nx + 1) (some (.loop { r with state := .exhausted })), σ'.nx⟩) :
  W lp fl none (.rangeFunc f ps assign body) Q a ⟨h, nx⟩ := by
 obtain ⟨n, v, σ', h1, h2⟩ := hc
 obtain ⟨r, g1, g2, g3, g4⟩ := hk v σ' h2
 refine ⟨n + 1, r.pending, _, _, ?_, g4⟩
 show xRange lp (exec lp n) fl none f ps assign body a ⟨h, nx⟩ = _
 unfold xRange
 rw [hf]
 show (match callF lp (exec lp n) fl g (first ++ [.yield (nx + 1)] ++ captured) ⟨(h.set nx (some .marks)).set (nx + 1) (some (.loop ⟨.ready, .normal, a.nt, a.tmps, ps, assign, body, nx⟩)), nx + 1 + 1⟩ with | some (_, σ') => endLoopH fl (nx + 1) [nx] a σ' | none => none) = _
 rw [h1]
 show endLoopH fl (nx + 1) [nx] a σ' = _
 unfold endLoopH
 rw [g1]
 have b : Nat.ble fl (nx + 1) = true := yh g3
 cases e : r.state with
 | busy => exact absurd e g2
 | ready => simp only [e, b, cond_true]; rfl
 | done => simp only [e, b, cond_true]; rfl
 | exhausted => simp only [e, b, cond_true]; rfl
def YB (lp : Nat → Option zp) (fl l : Nat) (os : List zh) (N : HAct → HS → Prop) (a : HAct) (dst : Option Nat) : HExit → HAct → HS → Prop := fun e _ σ2 =>
 ∃ r2, σ2.h.get l = some (.loop r2) ∧ (e = .normal → R lp fl os N (a.put dst (.bool true)) ⟨σ2.h.set l (some (.loop { r2 with state := .ready, pending := .normal })), σ2.nx⟩) ∧
  (e ≠ .normal → R lp fl os N (a.put dst (.bool false)) ⟨σ2.h.set l (some (.loop { r2 with state := .done, pending := e })), σ2.nx⟩)
def YA (lp : Nat → Option zp) (fl l : Nat) (body : ze) (os : List zh) (N : HAct → HS → Prop) (a : HAct) (dst : Option Nat) : HExit → HAct → HS → Prop := fun e a1 σ1 =>
 e = .normal ∧ ∃ r1, σ1.h.get l = some (.loop r1) ∧ r1.state = .ready ∧ fl ≤ l ∧ W lp fl (some l) body (YB lp fl l os N a dst) a1 ⟨σ1.h.set l (some (.loop { r1 with state := .busy })), σ1.nx⟩
theorem r_yield {f : Lo} {xs : List Lo} {l : Nat} {r : HLoop} {args : List HV} {tmps : Tr HV} (hf : a.ev f = .yield l) (ha : xs.map a.ev = args) (hg : h.get l = some (.loop r)) (hz : zipPut r.nt r.tmps r.params args = some tmps)
  (hw : W lp fl (some l) r.assign (YA lp fl l r.body os N a dst) ⟨r.nt, tmps, []⟩ ⟨h, nx⟩) : R lp fl (⟨dst, .call f xs, none, anc⟩ :: os) N a ⟨h, nx⟩ := by
 obtain ⟨n1, e1, a1, σ1, w1, rfl, r1, g1, g2, g3, n2, e2, a2, σ2, w2, r2, q1, q2, q3⟩ := hw
 have b : Nat.ble fl l = true := yh g3
 have key : ∀ m, n1 ≤ m → n2 ≤ m → opH lp (exec lp m) fl (.call f xs) a ⟨h, nx⟩ = endRoundH l e2 σ2 := fun m m1 m2 => by
  show callH lp (exec lp m) fl (a.ev f) (xs.map a.ev) ⟨h, nx⟩ = _
  rw [hf, ha]
  show roundH (exec lp m) fl l args ⟨h, nx⟩ = _
  unfold roundH
  simp only [hg, hz]
  rw [zL m1 _ _ _ _ _ _ w1]
  simp only
  have eb : beginRoundH fl l σ1 = some ⟨σ1.h.set l (some (.loop { r1 with state := .busy })), σ1.nx⟩ := by
   unfold beginRoundH
   simp only [g1, g2, b, cond_true]
   rfl
  rw [eb]
  simp only
  rw [zL m2 _ _ _ _ _ _ w2]
 by_cases he : e2 = .normal
 ·obtain ⟨n3, a3, σ3, w3, w4⟩ := q2 he
  subst he
  refine ⟨max n1 (max n2 n3), a3, σ3, ?_, w4⟩
  have k := key (max n1 (max n2 n3)) (by omega) (by omega)
  have ee : endRoundH l .normal σ2 = some (.bool true, ⟨σ2.h.set l (some (.loop { r2 with state := .ready, pending := .normal })), σ2.nx⟩) := by
   unfold endRoundH
   simp only [q1]
   rfl
  rw [ee] at k
  unfold runOps stepOp
  show (match (match opH lp (exec lp (max n1 (max n2 n3))) fl (.call f xs) a ⟨h, nx⟩ with | some (v, σ) => some (a.put dst v, σ) | none => none) with | some (a, σ) => runOps lp (exec lp (max n1 (max n2 n3))) fl os a σ | none => none) = _
  rw [k]
  exact yw (zL (by omega)) w3
 ·obtain ⟨n3, a3, σ3, w3, w4⟩ := q3 he
  refine ⟨max n1 (max n2 n3), a3, σ3, ?_, w4⟩
  have k := key (max n1 (max n2 n3)) (by omega) (by omega)
  have ee : endRoundH l e2 σ2 = some (.bool false, ⟨σ2.h.set l (some (.loop { r2 with state := .done, pending := e2 })), σ2.nx⟩) := by
   unfold endRoundH
   simp only [q1]
   cases e2 with
   | normal => exact absurd rfl he
   | exit i => rfl
   | ret => rfl
  rw [ee] at k
  unfold runOps stepOp
  show (match (match opH lp (exec lp (max n1 (max n2 n3))) fl (.call f xs) a ⟨h, nx⟩ with | some (v, σ) => some (a.put dst v, σ) | none => none) with | some (a, σ) => runOps lp (exec lp (max n1 (max n2 n3))) fl os a σ | none => none) = _
  rw [k]
  exact yw (zL (by omega)) w3
end Go.Hx

namespace Go.Hx.V
abbrev PH := Nat → Option HBlk
def PH.le (F G : PH) : Prop := ∀ b x, F b = some x → G b = some x
def PH.sub (F : PH) (h : Tr HBlk) : Prop := ∀ b x, F b = some x → h.get b = some x
theorem PH.le.refl (F : PH) : PH.le F F := fun _ _ h => h
theorem PH.le.trans {F G K : PH} (a : PH.le F G) (b : PH.le G K) : PH.le F K := fun c x h => b c x (a c x h)
abbrev Rel (α : Type) := PH → α → List HV → Prop
class OkR {α : Type} (rel : Rel α) (sz : outParam Nat) : Prop where
 mono : ∀ {F G : PH} {x r}, PH.le F G → rel F x r → rel G x r
 len : ∀ {F x r}, rel F x r → r.length = sz
 one : ∀ {F x r}, rel F x r → r.all HV.one = true
def rI : Rel Int := fun _ x r => r = [i64 x]
def rK (k : IntKind) : Rel Int := fun _ x r => r = [.int k x]
def rB : Rel Bool := fun _ x r => r = [.bool x]
def rU : Rel Unit := fun _ _ r => r = []
def rP {α β : Type} (a : Rel α) (b : Rel β) : Rel (α × β) := fun F x r => ∃ r1 r2, r = r1 ++ r2 ∧ a F x.1 r1 ∧ b F x.2 r2
def RowF {α : Type} (rel : Rel α) (sz : Nat) (F : PH) (p : Option (Nat × Nat)) (c : Nat) (l : List α) : Prop :=
 l.length ≤ c ∧ (l ≠ [] → ∃ b o cs k, p = some (b, o) ∧ F b = some (.cells cs k) ∧ ∀ i x, l[i]? = some x → ∃ r, takeN sz (cs.drop (o + i * sz)) = some r ∧ rel F x r)
def rL {α : Type} (rel : Rel α) (sz : Nat) : Rel (List α) := fun F l r => ∃ p c, r = [.slice p l.length c] ∧ RowF rel sz F p c l
def LR {α : Type} (rel : Rel α) (sz : Nat) (F : PH) (l : List α) (cs : List HV) : Prop := cs.length = l.length * sz ∧ ∀ i x, l[i]? = some x → ∃ r, takeN sz (cs.drop (i * sz)) = some r ∧ rel F x r
def rA {α : Type} (n : Nat) (rel : Rel α) (sz : Nat) : Rel (List α) := fun F l r => l.length = n ∧ LR rel sz F l r ∧ r.all HV.one = true
theorem RowF.mono {α : Type} {rel : Rel α} {sz : Nat} [OkR rel sz] {F G : PH} {p : Option (Nat × Nat)} {c : Nat} {l : List α} (h : PH.le F G) (hr : RowF rel sz F p c l) : RowF rel sz G p c l := ⟨hr.1, fun hne => by
 obtain ⟨b, o, cs, k, h1, h2, h3⟩ := hr.2 hne
 refine ⟨b, o, cs, k, h1, h _ _ h2, fun i x hx => ?_⟩
 obtain ⟨r, g1, g2⟩ := h3 i x hx
 exact ⟨r, g1, OkR.mono h g2⟩⟩
theorem LR.mono {α : Type} {rel : Rel α} {sz : Nat} [OkR rel sz] {F G : PH} {l : List α} {cs : List HV} (h : PH.le F G) (hr : LR rel sz F l cs) : LR rel sz G l cs := by
 refine ⟨hr.1, fun i x hx => ?_⟩
 obtain ⟨r, g1, g2⟩ := hr.2 i x hx
 exact ⟨r, g1, OkR.mono h g2⟩
instance : OkR rI 1 := ⟨fun _ h => h, fun h => by rw [h]; rfl, fun h => by rw [h]; rfl⟩
instance {k : IntKind} : OkR (rK k) 1 := ⟨fun _ h => h, fun h => by rw [h]; rfl, fun h => by rw [h]; rfl⟩
instance : OkR rB 1 := ⟨fun _ h => h, fun h => by rw [h]; rfl, fun h => by rw [h]; rfl⟩
instance : OkR rU 0 := ⟨fun _ h => h, fun h => by rw [h]; rfl, fun h => by rw [h]; rfl⟩
instance {α β : Type} {a : Rel α} {b : Rel β} {m n : Nat} [OkR a m] [OkR b n] : OkR (rP a b) (m + n) where
 mono h := fun ⟨r1, r2, e, g1, g2⟩ => ⟨r1, r2, e, OkR.mono h g1, OkR.mono h g2⟩
 len := fun ⟨r1, r2, e, g1, g2⟩ => by rw [e, List.length_append, OkR.len g1, OkR.len g2]
 one := fun ⟨r1, r2, e, g1, g2⟩ => by rw [e, List.all_append, OkR.one g1, OkR.one g2]; rfl
instance {α : Type} {a : Rel α} {m : Nat} [OkR a m] : OkR (rL a m) 1 where
 mono h := fun ⟨p, c, e, g⟩ => ⟨p, c, e, g.mono h⟩
 len := fun ⟨p, c, e, g⟩ => by rw [e]; rfl
 one := fun ⟨p, c, e, g⟩ => by rw [e]; rfl
instance : OkR (rP rI rI) 2 := inferInstanceAs (OkR (rP rI rI) (1 + 1))
instance : OkR (rP rI (rP rI rI)) 3 := inferInstanceAs (OkR (rP rI (rP rI rI)) (1 + 2))
instance : OkR (rP rI (rP rI (rP rI rI))) 4 := inferInstanceAs (OkR (rP rI (rP rI (rP rI rI))) (1 + 3))
instance {α : Type} {a : Rel α} {m n : Nat} [OkR a m] : OkR (rA n a m) (n * m) where
 mono h := fun ⟨e, g, o⟩ => ⟨e, g.mono h, o⟩
 len := fun ⟨e, g, o⟩ => by rw [g.1, e]
 one := fun ⟨e, g, o⟩ => o
theorem LR.nil {α : Type} {rel : Rel α} {sz : Nat} {F : PH} : LR rel sz F [] [] := ⟨by simp, fun i x h => by simp at h⟩
theorem uV : ∀ l : List HV, takeN l.length l = some l
 | [] => rfl
 | v :: l => by show (takeN l.length l).map _ = _; rw [uV l]; rfl
theorem XV : ∀ (a b : List HV), takeN a.length (a ++ b) = some a
 | [], _ => rfl
 | v :: l, b => by show (takeN l.length (l ++ b)).map _ = _; rw [ua l b]; rfl
theorem LR.app {α : Type} {rel : Rel α} {sz : Nat} {F : PH} {l m : List α} {cs ds : List HV} (h : LR rel sz F l cs) (g : LR rel sz F m ds) : LR rel sz F (l ++ m) (cs ++ ds) := by
 refine ⟨by rw [List.length_append, List.length_append, h.1, g.1, Nat.add_mul], fun i x hx => ?_⟩
 by_cases e : i < l.length
 ·rw [List.getElem?_append_left e] at hx
  obtain ⟨r, g1, g2⟩ := h.2 i x hx
  refine ⟨r, ?_, g2⟩
  have hle : i * sz ≤ cs.length := by rw [h.1]; exact Nat.mul_le_mul_right _ (by omega)
  rw [List.drop_append_of_le_length hle]
  exact vA _ _ _ _ g1
 ·rw [List.getElem?_append_right (by omega)] at hx
  obtain ⟨r, g1, g2⟩ := g.2 _ x hx
  refine ⟨r, ?_, g2⟩
  have e2 : i * sz = cs.length + (i - l.length) * sz := by rw [h.1, ← Nat.add_mul]; congr 1; omega
  rw [e2, ← List.drop_drop, List.drop_left]
  exact g1
theorem LR.one {α : Type} {rel : Rel α} {sz : Nat} [OkR rel sz] {F : PH} {x : α} {r : List HV} (h : rel F x r) : LR rel sz F [x] r := by
 refine ⟨by rw [OkR.len h]; simp, fun i y hy => ?_⟩
 cases i with
 | zero =>
  cases hy
  refine ⟨r, ?_, h⟩
  rw [Nat.zero_mul, List.drop_zero, ← OkR.len (rel := rel) h]
  exact uV r
 | succ i => simp at hy
theorem LR.all1 {α : Type} {rel : Rel α} {sz : Nat} [OkR rel sz] {F : PH} : ∀ {l : List α} {cs : List HV}, LR rel sz F l cs → cs.all HV.one = true
 | [], cs, h => by
  have : cs = [] := List.length_eq_zero_iff.1 (by rw [h.1]; simp)
  rw [this]; rfl
 | x :: l, cs, h => by
  obtain ⟨r, g1, g2⟩ := h.2 0 x rfl
  rw [Nat.zero_mul, List.drop_zero] at g1
  have hl := h.1
  have e := OkR.len (rel := rel) g2
  have e2 : cs = r ++ cs.drop sz := by
   have : ∀ (n : Nat) (l r : List HV), takeN n l = some r → l = r ++ l.drop n := fun n => by
    induction n with
    | zero => intro l r h; cases h; rfl
    | succ n ih =>
     intro l r h
     cases l with
     | nil => cases h
     | cons v l =>
      unfold takeN at h
      cases e : takeN n l with
      | none => rw [e] at h; cases h
      | some q => rw [e] at h; cases h; show v :: l = v :: (q ++ l.drop n); rw [← ih l q e]
   exact this _ _ _ g1
  have h2 : LR rel sz F l (cs.drop sz) := by
   refine ⟨by rw [List.length_drop, hl, List.length_cons, Nat.add_mul]; omega, fun i y hy => ?_⟩
   obtain ⟨q, q1, q2⟩ := h.2 (i + 1) y hy
   refine ⟨q, ?_, q2⟩
   rw [List.drop_drop, show sz + i * sz = (i + 1) * sz by rw [Nat.add_mul]; omega]
   exact q1
  rw [e2, List.all_append, OkR.one g2, LR.all1 h2]
  rfl
inductive LE where
 | bx (b : Nat) (cs : List HV)
 | ls (o : Option Nat) (c : Nat) (cs : List HV) (sz : Nat)
 | any (b : Nat) (x : HBlk)
 | mks (ds : List Nat)
def LE.os : LE → List Nat
 | .bx b _ => [b]
 | .ls o _ _ _ => o.toList
 | .any b _ => [b]
 | .mks ds => ds
theorem jO {b c : Nat} {cs : List HV} (h : c ∈ (LE.bx b cs).os) : c = b := List.mem_singleton.1 h
theorem X8 {b c : Nat} {x : HBlk} (h : c ∈ (LE.any b x).os) : c = b := List.mem_singleton.1 h
theorem jN {o : Option Nat} {b c k : Nat} {cs : List HV} (h : b ∈ (LE.ls o c cs k).os) : o = some b := by
 cases o with
 | none => cases h
 | some d => rw [List.mem_singleton.1 h]
def LE.ok (n0 nx : Nat) (h : Tr HBlk) : LE → Prop
 | .bx b cs => n0 ≤ b ∧ b < nx ∧ h.get b = some (.cells cs .exact)
 | .ls none c cs sz => cs = [] ∧ c = 0
 | .ls (some b) c cs sz => n0 ≤ b ∧ b < nx ∧ ((h.get b = some (.cells cs (.opn sz)) ∧ cs.length = c * sz) ∨ ∃ rest, h.get b = some (.cells (cs ++ rest) .exact) ∧ (cs ++ rest).length = c * sz)
 | .any b x => n0 ≤ b ∧ b < nx ∧ h.get b = some x
 | .mks ds => ds.Nodup ∧ ∀ b ∈ ds, n0 ≤ b ∧ b < nx ∧ h.get b = some .marks
theorem LE.ok_same {n0 nx n' : Nat} {h h' : Tr HBlk} {e : LE} (hn : nx ≤ n') (hs : ∀ b, b ∈ e.os → h'.get b = h.get b) (ho : e.ok n0 nx h) : e.ok n0 n' h' := by
 match e, ho with
 | .bx b cs, ⟨a, b', c⟩ => exact ⟨a, by omega, by rw [hs b (List.mem_singleton.2 rfl)]; exact c⟩
 | .ls none c cs sz, ho => exact ho
 | .ls (some b) c cs sz, ⟨a, b', ho⟩ => exact ⟨a, by omega, by rw [hs b (List.mem_singleton.2 rfl)]; exact ho⟩
 | .any b x, ⟨a, b', c⟩ => exact ⟨a, by omega, by rw [hs b (List.mem_singleton.2 rfl)]; exact c⟩
 | .mks ds, ⟨a, c⟩ => exact ⟨a, fun b hb => by obtain ⟨q1, q2, q3⟩ := c b hb; exact ⟨q1, by omega, by rw [hs b hb]; exact q3⟩⟩
theorem LE.ok_bd {n0 nx : Nat} {h : Tr HBlk} {e : LE} (ho : e.ok n0 nx h) {b : Nat} (hb : b ∈ e.os) : n0 ≤ b ∧ b < nx := by
 match e, ho with
 | .bx b cs, ⟨a, b', c⟩ => rw [jO hb]; exact ⟨a, b'⟩
 | .ls none c cs sz, ho => cases hb
 | .ls (some b) c cs sz, ⟨a, b', ho⟩ => rw [← Option.some.inj (jN hb)]; exact ⟨a, b'⟩
 | .any b x, ⟨a, b', c⟩ => rw [X8 hb]; exact ⟨a, b'⟩
 | .mks ds, ⟨a, c⟩ => obtain ⟨q1, q2, _⟩ := c b hb; exact ⟨q1, q2⟩
structure St (n0 : Nat) (h0 : Tr HBlk) (F0 F : PH) (h : Tr HBlk) (nx : Nat) (L : List LE) : Prop where
 ext : Ext h0 n0 h nx
 sub : F.sub h
 le : PH.le F0 F
 lo : ∀ b, b < n0 → F b = F0 b
 off : ∀ e ∈ L, ∀ b, b ∈ e.os → F b = none
 own : ∀ e ∈ L, e.ok n0 nx h
 dist : L.Pairwise fun e e' => ∀ b, b ∈ e.os → b ∉ e'.os
section
variable {n0 nx : Nat} {h0 h : Tr HBlk} {F0 F : PH} {L : List LE}
theorem St.start (hd : D h0 n0) (hs : F0.sub h0) : St n0 h0 F0 F0 h0 n0 [] := ⟨Ext.refl hd, hs, PH.le.refl _, fun _ _ => rfl, (fun e he => by cases he), (fun e he => by cases he), List.Pairwise.nil⟩
theorem St.d (st : St n0 h0 F0 F h nx L) : D h nx := st.ext.d
theorem St.dom (st : St n0 h0 F0 F h nx L) {b : Nat} {x : HBlk} (hb : F b = some x) : b < nx := by
 refine Nat.not_le.1 fun hle => ?_
 have := st.sub b x hb
 have hd := st.ext.d
 unfold D at hd
 rw [hd b hle] at this
 cases this
theorem St.up (st : St n0 h0 F0 F h nx L) {n' : Nat} (hn : nx ≤ n') : St n0 h0 F0 F h n' L :=
 ⟨st.ext.up hn, st.sub, st.le, st.lo, st.off, fun e he => LE.ok_same hn (fun _ _ => rfl) (st.own e he), st.dist⟩
theorem St.call (st : St n0 h0 F0 F h nx L) {h' : Tr HBlk} {n' : Nat} {F' : PH} (e : Ext h nx h' n') (hle : PH.le F F') (hlo : ∀ b, b < nx → F' b = F b) (hs : F'.sub h') : St n0 h0 F0 F' h' n' L := by
 have hn := st.ext.le
 refine ⟨st.ext.trans e, hs, st.le.trans hle, fun b hb => by rw [hlo b (by omega)]; exact st.lo b hb, fun x hx b hb => ?_, fun x hx => LE.ok_same e.le (fun b hb => e.same b (LE.ok_bd (st.own x hx) hb).2) (st.own x hx), st.dist⟩
 rw [hlo b (LE.ok_bd (st.own x hx) hb).2]
 exact st.off x hx b hb
theorem St.ext1 (st : St n0 h0 F0 F h nx L) {h' : Tr HBlk} {n' : Nat} (e : Ext h nx h' n') : St n0 h0 F0 F h' n' L :=
 st.call e (PH.le.refl _) (fun _ _ => rfl) fun b x hb => by rw [e.same b (st.dom hb)]; exact st.sub b x hb
theorem St.push (st : St n0 h0 F0 F h nx L) {h' : Tr HBlk} {n' b : Nat} {e : LE} (x : Ext h nx h' n') (hb : ∀ c, c ∈ e.os → nx ≤ c ∧ c < n') (ho : e.ok n0 n' h') : St n0 h0 F0 F h' n' (L ++ [e]) := by
 have s1 := st.ext1 x
 refine ⟨s1.ext, s1.sub, s1.le, s1.lo, fun y hy c hc => ?_, fun y hy => ?_, ?_⟩
 ·rcases List.mem_append.1 hy with h1 | h1
  ·exact s1.off y h1 c hc
  ·rw [List.mem_singleton.1 h1] at hc
   cases e2 : F c with
   | none => rfl
   | some z => have := st.dom e2; have := hb c hc; omega
 ·rcases List.mem_append.1 hy with h1 | h1
  ·exact s1.own y h1
  ·rw [List.mem_singleton.1 h1]; exact ho
 ·refine List.pairwise_append.2 ⟨s1.dist, List.pairwise_singleton .., fun y hy z hz c hc => ?_⟩
  rw [List.mem_singleton.1 hz]
  intro h2
  have := (LE.ok_bd (st.own y hy) hc).2
  have := hb c h2
  omega
theorem St.alloc (st : St n0 h0 F0 F h nx L) (cs : List HV) : St n0 h0 F0 F (h.set nx (some (.cells cs .exact))) (nx + 1) (L ++ [.bx nx cs]) := by
 have hn := st.ext.le
 exact st.push (b := nx) (Ext.set st.d (by omega) (by omega) (by omega)) (fun c hc => by rw [jO hc]; omega) ⟨by omega, by omega, z8 _ _ _⟩
theorem St.allocL (st : St n0 h0 F0 F h nx L) {cs rest : List HV} {c sz : Nat} (hl : (cs ++ rest).length = c * sz) : St n0 h0 F0 F (h.set nx (some (.cells (cs ++ rest) .exact))) (nx + 1) (L ++ [.ls (some nx) c cs sz]) := by
 have hn := st.ext.le
 exact st.push (b := nx) (Ext.set st.d (by omega) (by omega) (by omega)) (fun c hc => by rw [← Option.some.inj (jN hc)]; omega) ⟨by omega, by omega, .inr ⟨rest, z8 _ _ _, hl⟩⟩
theorem St.nilL (st : St n0 h0 F0 F h nx L) (sz : Nat) : St n0 h0 F0 F h nx (L ++ [.ls none 0 [] sz]) :=
 st.push (b := 0) (Ext.refl st.d) (fun c hc => by cases hc) ⟨rfl, rfl⟩
theorem St.swap (st : St n0 h0 F0 F h nx L) {i : Nat} {e e' : LE} (hi : L[i]? = some e) {h' : Tr HBlk} {n' : Nat} (hn : nx ≤ n') (hd : D h' n') (hs : ∀ b, b < nx → b ∉ e.os → h'.get b = h.get b)
  (hb : ∀ c, c ∈ e'.os → c ∈ e.os ∨ (nx ≤ c ∧ c < n')) (ho : e'.ok n0 n' h') : St n0 h0 F0 F h' n' (L.set i e') := by
 have hne := st.ext.le
 have hmem : e ∈ L := List.mem_of_getElem? hi
 have hil : i < L.length := by
  rcases Nat.lt_or_ge i L.length with g | g
  ·exact g
  ·rw [List.getElem?_eq_none g] at hi; cases hi
 have hie : L[i] = e := by rw [List.getElem?_eq_getElem hil] at hi; exact Option.some.inj hi
 have pw := List.pairwise_iff_getElem.1 st.dist
 have ne : ∀ j (hj : j < L.length), j ≠ i → ∀ c, c ∈ L[j].os → c ∉ e.os := fun j hj hji c hc h2 => by
  rcases Nat.lt_or_gt_of_ne hji with g | g
  ·exact pw j i hj hil g c hc (by rw [hie]; exact h2)
  ·exact pw i j hil hj g c (by rw [hie]; exact h2) hc
 have ox : ∀ j (hj : j < L.length), j ≠ i → ∀ c, c ∈ L[j].os → c ∉ e'.os := fun j hj hji c hc h2 => by
  rcases hb c h2 with g | g
  ·exact ne j hj hji c hc g
  ·have := (LE.ok_bd (st.own _ (List.getElem_mem hj)) hc).2; omega
 refine ⟨⟨by omega, hd, fun b hb2 => ?_⟩, fun b x hx => ?_, st.le, st.lo, fun y hy c hc => ?_, fun y hy => ?_, ?_⟩
 ·rw [hs b (by omega) fun h2 => by have := (LE.ok_bd (st.own e hmem) h2).1; omega]
  exact st.ext.same b hb2
 ·rw [hs b (st.dom hx) fun h2 => by rw [st.off e hmem b h2] at hx; cases hx]
  exact st.sub b x hx
 ·obtain ⟨j, hj, rfl⟩ := List.getElem_of_mem hy
  rw [List.length_set] at hj
  rw [List.getElem_set] at hc
  by_cases hji : i = j
  ·rw [if_pos hji] at hc
   rcases hb c hc with g | g
   ·exact st.off e hmem c g
   ·cases e2 : F c with
    | none => rfl
    | some z => have := st.dom e2; omega
  ·rw [if_neg hji] at hc
   exact st.off _ (List.getElem_mem hj) c hc
 ·obtain ⟨j, hj, rfl⟩ := List.getElem_of_mem hy
  rw [List.length_set] at hj
  rw [List.getElem_set]
  by_cases hji : i = j
  ·rw [if_pos hji]; exact ho
  ·rw [if_neg hji]
   exact LE.ok_same hn (fun b hb2 => hs b (LE.ok_bd (st.own _ (List.getElem_mem hj)) hb2).2 (ne j hj (fun e => hji e.symm) b hb2)) (st.own _ (List.getElem_mem hj))
 ·refine List.pairwise_iff_getElem.2 fun j k hj hk hjk c hc => ?_
  rw [List.length_set] at hj hk
  rw [List.getElem_set] at hc ⊢
  by_cases hji : i = j
  ·rw [if_pos hji] at hc
   rw [if_neg (by omega)]
   exact fun h2 => ox k hk (by omega) c h2 hc
  ·rw [if_neg hji] at hc
   by_cases hki : i = k
   ·rw [if_pos hki]; exact ox j hj (fun e => hji e.symm) c hc
   ·rw [if_neg hki]; exact pw j k hj hk hjk c hc
theorem St.at (st : St n0 h0 F0 F h nx L) {i : Nat} {e : LE} (hi : L[i]? = some e) : e.ok n0 nx h := st.own e (List.mem_of_getElem? hi)
theorem St.store (st : St n0 h0 F0 F h nx L) (i : Nat) {b : Nat} {cs : List HV} (hi : L[i]? = some (.bx b cs)) (cs' : List HV) : St n0 h0 F0 F (h.set b (some (.cells cs' .exact))) nx (L.set i (.bx b cs')) := by
 obtain ⟨h1, h2, h3⟩ := st.at hi
 exact st.swap hi (Nat.le_refl _) (st.d.upd h2) (fun c hc hne => z7 _ _ fun e => hne (List.mem_singleton.2 e)) (fun c hc => .inl hc) ⟨h1, h2, z8 _ _ _⟩
theorem St.drop (st : St n0 h0 F0 F h nx L) {M : List LE} (hs : M.Sublist L) : St n0 h0 F0 F h nx M :=
 ⟨st.ext, st.sub, st.le, st.lo, fun e he => st.off e (hs.mem he), fun e he => st.own e (hs.mem he), st.dist.sublist hs⟩
def slv (o : Option Nat) (n c : Nat) : HV := .slice (o.map fun b => (b, 0)) n c
theorem ls_le {o : Option Nat} {c k sz : Nat} {cs : List HV} (hz : 0 < sz) (ho : LE.ok n0 nx h (.ls o c cs sz)) (hk : cs.length = k * sz) : k ≤ c := by
 match o, ho with
 | none, ⟨h1, h2⟩ =>
  subst h1
  have : k * sz = 0 := hk.symm
  rcases Nat.mul_eq_zero.1 this with e | e <;> omega
 | some b, ⟨h1, h2, h3⟩ =>
  rcases h3 with ⟨g1, g2⟩ | ⟨rest, g1, g2⟩
  ·exact Nat.le_of_mul_le_mul_right (by omega) hz
  ·rw [List.length_append] at g2
   exact Nat.le_of_mul_le_mul_right (by omega) hz
theorem LE.row {α : Type} {rel : Rel α} {sz c : Nat} {o : Option Nat} {cs : List HV} {l : List α} {G : PH} (ho : LE.ok n0 nx h (.ls o c cs sz)) (hr : LR rel sz F l cs) [OkR rel sz] (hz : 0 < sz) (hle : PH.le F G) (hG : ∀ b, o = some b → G b = h.get b) : RowF rel sz G (o.map fun b => (b, 0)) c l := ⟨ls_le hz ho hr.1, fun hne => by
 match o, ho with
 | none, ⟨h1, h2⟩ =>
  subst h1
  obtain ⟨x, m, rfl⟩ : ∃ x m, l = x :: m := by cases l with | nil => exact absurd rfl hne | cons x m => exact ⟨x, m, rfl⟩
  obtain ⟨r, g1, g2⟩ := hr.2 0 x rfl
  have := hr.1
  simp only [List.length_nil, List.length_cons] at this
  have h3 : (m.length + 1) * sz = 0 := this.symm
  rw [Nat.add_mul] at h3
  omega
 | some b, ⟨h1, h2, h3⟩ =>
  have hl := hr.1
  rcases h3 with ⟨g1, g2⟩ | ⟨rest, g1, g2⟩
  ·exact ⟨b, 0, cs, _, rfl, by rw [hG b rfl]; exact g1, fun i x hx => by
    obtain ⟨r, q1, q2⟩ := hr.2 i x hx
    exact ⟨r, by rw [Nat.zero_add]; exact q1, OkR.mono hle q2⟩⟩
  ·exact ⟨b, 0, cs ++ rest, _, rfl, by rw [hG b rfl]; exact g1, fun i x hx => by
    obtain ⟨r, q1, q2⟩ := hr.2 i x hx
    refine ⟨r, ?_, OkR.mono hle q2⟩
    rw [Nat.zero_add]
    have hi : i < l.length := by
     rcases Nat.lt_or_ge i l.length with g | g
     ·exact g
     ·rw [List.getElem?_eq_none g] at hx; cases hx
    rw [List.drop_append_of_le_length (by rw [hl]; exact Nat.mul_le_mul_right _ (by omega))]
    exact vA _ _ _ _ q1⟩⟩
end
end Go.Hx.V

namespace Go.Hx.V
open Go.Hx
theorem ovw : ∀ (cs rest row : List HV), row.length ≤ rest.length → overwrite (cs ++ rest) cs.length row = some (cs ++ row ++ rest.drop row.length)
 | [], rest, [], _ => by cases rest <;> rfl
 | [], [], v :: row, h => by simp at h
 | [], x :: rest, v :: row, h => by
  show (overwrite rest 0 row).map _ = _
  have := ovw [] rest row (by simpa using h)
  simp only [List.nil_append, List.length_nil] at this
  rw [this]; rfl
 | c :: cs, rest, row, h => by
  cases row with
  | nil =>
   have : ∀ (l : List HV) (o : Nat), overwrite l o [] = some l := fun l o => by cases l <;> cases o <;> rfl
   rw [this]; simp
  | cons v row =>
   show (overwrite (cs ++ rest) cs.length (v :: row)).map _ = _
   rw [ovw cs rest (v :: row) h]; rfl
section
variable {n0 nx : Nat} {h0 h : Tr HBlk} {F0 F : PH} {L : List LE}
theorem St.append (st : St n0 h0 F0 F h nx L) (i : Nat) {o : Option Nat} {c k sz n cx bytes fl : Nat} {cs csx row : List HV} {kx : BK} {bx ox : Nat} (hi : L[i]? = some (.ls o c cs sz)) (hk : cs.length = k * sz) (hz : 0 < sz) (hfl : fl ≤ n0)
  (hg : h.get bx = some (.cells csx kx)) (ht : takeN (n * sz) (csx.drop ox) = some row) (h1 : row.all HV.one = true) (hn : 0 < n) (hb : (k + n) * bytes ≤ 35184372088832) (hb2 : k + n ≤ 35184372088832) :
  ∃ o' c' h' n', appendH fl ⟨h, nx⟩ sz bytes (slv o k c) (.slice (some (bx, ox)) n cx) = some (slv o' (k + n) c', ⟨h', n'⟩) ∧ St n0 h0 F0 F h' n' (L.set i (.ls o' c' (cs ++ row) sz)) := by
 have hne := st.ext.le
 have hrl : row.length = n * sz := (vc _ _ _ ht).1
 have ho := st.at hi
 have hkc := ls_le hz ho hk
 match o, ho, hi with
 | none, ⟨e1, e2⟩, hi =>
  subst e1
  have hk0 : k = 0 := by
   have : k * sz = 0 := hk.symm
   rcases Nat.mul_eq_zero.1 this with e | e <;> omega
  subst hk0; subst e2
  rw [Nat.zero_add] at hb hb2
  refine ⟨some nx, n, _, _, ?_, st.swap hi (h' := h.set nx (some (.cells row (.opn sz)))) (n' := nx + 1) (by omega) (st.d.put (by omega) (by omega)) (fun b hb3 _ => z7 _ _ (by omega)) (fun d hd => by rw [← Option.some.inj (jN hd)]; exact .inr ⟨by omega, by omega⟩) ⟨by omega, by omega, .inl ⟨z8 _ _ _, by simpa using hrl⟩⟩⟩
  rw [show 0 + n = n by omega]
  exact app_nil hg ht hn hb hb2 hz
 | some b, ⟨b1, b2, b3⟩, hi =>
  rcases b3 with ⟨g1, g2⟩ | ⟨rest, g1, g2⟩
  ·have hck : c = k := Nat.eq_of_mul_eq_mul_right hz (by omega)
   subst hck
   refine ⟨some nx, c + n, _, _, app_opn hg ht g1 g2 (by omega) rfl h1 hn hb hb2 hz, st.swap hi (by omega) (st.d.upd b2 |>.put (by omega) (by omega)) (fun d hd hne => ?_) (fun d hd => by rw [← Option.some.inj (jN hd)]; exact .inr ⟨by omega, by omega⟩) ⟨by omega, by omega, .inl ⟨z8 _ _ _, by rw [List.length_append, g2, hrl, Nat.add_mul]⟩⟩⟩
   rw [z7 _ _ (by omega), z7 _ _ (fun e => hne (List.mem_singleton.2 e))]
  ·by_cases hfit : k + n ≤ c
   ·have hrest : row.length ≤ rest.length := by
     rw [List.length_append] at g2
     have := Nat.mul_le_mul_right sz hfit
     rw [Nat.add_mul] at this
     omega
    have e : 0 + k * sz = cs.length := by omega
    refine ⟨some b, c, _, _, app_in hg ht g1 (by trivial) (by omega) h1 (fun e => ?_) hfit (by rw [e]; exact ovw cs rest row hrest), st.swap hi (Nat.le_refl _) (st.d.upd b2) (fun d hd hne => z7 _ _ fun e => hne (List.mem_singleton.2 e)) (fun d hd => .inl hd) ⟨b1, b2, .inr ⟨rest.drop row.length, z8 _ _ _, ?_⟩⟩⟩
    ·rw [e] at hrl
     have : n * sz = 0 := hrl.symm
     rcases Nat.mul_eq_zero.1 this with e | e <;> omega
    ·simp only [List.length_append, List.length_drop] at g2 ⊢; omega
   ·refine ⟨some nx, k + n, _, _, kH hg ht g1 (old := cs) ?_ (by omega) hb hb2 hz, st.swap hi (h' := h.set nx (some (.cells (cs ++ row) (.opn sz)))) (n' := nx + 1) (by omega) (st.d.put (by omega) (by omega)) (fun b hb3 _ => z7 _ _ (by omega)) (fun d hd => by rw [← Option.some.inj (jN hd)]; exact .inr ⟨by omega, by omega⟩) ⟨by omega, by omega, .inl ⟨z8 _ _ _, by rw [List.length_append, hk, hrl, Nat.add_mul]⟩⟩⟩
    rw [List.drop_zero, ← hk]
    exact XV _ _
theorem St.append0 (st : St n0 h0 F0 F h nx L) {i : Nat} {o p : Option Nat} {c k sz cx bytes fl : Nat} {px : Option (Nat × Nat)} {cs : List HV} (hi : L[i]? = some (.ls o c cs sz)) (hk : cs.length = k * sz) (hz : 0 < sz) :
  appendH fl ⟨h, nx⟩ sz bytes (slv o k c) (.slice px 0 cx) = some (slv o k c, ⟨h, nx⟩) := XL (ls_le hz (st.at hi) hk)
theorem St.freeze (st : St n0 h0 F0 F h nx L) (i : Nat) {α : Type} {rel : Rel α} {o : Option Nat} {c sz : Nat} {cs : List HV} {l : List α} [OkR rel sz] (hi : L[i]? = some (.ls o c cs sz)) (hr : LR rel sz F l cs) (hz : 0 < sz) :
  ∃ F', PH.le F F' ∧ St n0 h0 F0 F' h nx (L.eraseIdx i) ∧ RowF rel sz F' (o.map fun b => (b, 0)) c l := by
 have ho := st.at hi
 have hil : i < L.length := by
  rcases Nat.lt_or_ge i L.length with g | g
  ·exact g
  ·rw [List.getElem?_eq_none g] at hi; cases hi
 have hie : L[i] = .ls o c cs sz := by rw [List.getElem?_eq_getElem hil] at hi; exact Option.some.inj hi
 cases o with
 | none => exact ⟨F, PH.le.refl _, st.drop (List.eraseIdx_sublist ..), LE.row ho hr hz (PH.le.refl _) (fun b hb => by cases hb)⟩
 | some b =>
  have hF : F b = none := st.off _ (List.mem_of_getElem? hi) b (List.mem_singleton.2 rfl)
  have hle : PH.le F (fun d => if d = b then h.get b else F d) := fun d x hd => by
   show (if d = b then h.get b else F d) = _
   rw [if_neg (fun e => by rw [e, hF] at hd; cases hd)]; exact hd
  have s2 := st.drop (List.eraseIdx_sublist L i)
  obtain ⟨b1, b2, _⟩ := ho
  refine ⟨fun d => if d = b then h.get b else F d, hle, ⟨s2.ext, fun d x hd => ?_, s2.le.trans hle, fun d hd => ?_, fun e he d hd => ?_, s2.own, s2.dist⟩, LE.row (st.at hi) hr hz hle fun d hd => by cases hd; exact if_pos rfl⟩
  ·have hd' : (if d = b then h.get b else F d) = some x := hd
   by_cases e : d = b
   ·rw [if_pos e] at hd'; rw [e]; exact hd'
   ·rw [if_neg e] at hd'; exact st.sub d x hd'
  ·show (if d = b then h.get b else F d) = _
   rw [if_neg (by omega)]; exact st.lo d hd
  ·show (if d = b then h.get b else F d) = _
   have hne : d ≠ b := fun e2 => by
    subst e2
    have pw := List.pairwise_iff_getElem.1 st.dist
    obtain ⟨j, hj, hje⟩ := List.getElem_of_mem he
    rw [List.length_eraseIdx, if_pos hil] at hj
    rw [List.getElem_eraseIdx] at hje
    by_cases g : j < i
    ·rw [dif_pos g] at hje
     exact pw j i (by omega) hil g d (by rw [hje]; exact hd) (by rw [hie]; exact List.mem_singleton.2 rfl)
    ·rw [dif_neg g] at hje
     exact pw i (j + 1) hil (by omega) (by omega) d (by rw [hie]; exact List.mem_singleton.2 rfl) (by rw [hje]; exact hd)
   rw [if_neg hne]
   exact s2.off e he d hd
noncomputable def all (h : Tr HBlk) : PH := fun b => h.get b
theorem St.all_le (st : St n0 h0 F0 F h nx L) : PH.le F (all h) := st.sub
theorem all_sub (h : Tr HBlk) : (all h).sub h := fun _ _ h => h
theorem St.row_all (st : St n0 h0 F0 F h nx L) {α : Type} {rel : Rel α} {o : Option Nat} {c sz i : Nat} {cs : List HV} {l : List α} [OkR rel sz] (hi : L[i]? = some (.ls o c cs sz)) (hr : LR rel sz F l cs) (hz : 0 < sz) : RowF rel sz (all h) (o.map fun b => (b, 0)) c l :=
 LE.row (st.at hi) hr hz st.all_le fun b hb => rfl
end
structure Dw (n1 nx : Nat) (h1 : Tr HBlk) (done : List (Nat × List (Nat × HBlk))) (V : List (Nat × PH)) : Prop where
 le : n1 ≤ nx
 bd : ∀ e ∈ V, ∀ b x, e.2 b = some x → n1 ≤ b ∧ b < nx
 vis : ∀ (f : Nat → Bool) g, ∀ e ∈ V, f e.1 = true → ∀ b x, e.2 b = some x → (mf f g done).get b = some x
 out : ∀ (f : Nat → Bool) g b, b < n1 ∨ nx ≤ b → (mf f g done).get b = g.get b
 hid : ∀ (f : Nat → Bool) g, ∀ e ∈ V, f e.1 = false → ∀ b x, e.2 b = some x → (mf f g done).get b = g.get b
 dis : V.Pairwise fun e e' => ∀ b x, e.2 b = some x → e'.2 b = none
 idx : ∀ p ∈ done, ∃ e ∈ V, e.1 = p.1
structure Vw (n1 nx : Nat) (h1 hm : Tr HBlk) (A : List Nat) (V : List (Nat × PH)) : Prop where
 le : n1 ≤ nx
 low : ∀ b, b < n1 → hm.get b = h1.get b
 d : D hm nx
 vis : ∀ e ∈ V, A.contains e.1 = true → PH.sub e.2 hm
section
variable {lp : Nat → Option zp} {fl : Nat} {rd : Option Nat} {Q : HExit → HAct → HS → Prop} {N : HAct → HS → Prop} {a : HAct} {h1 hm : Tr HBlk} {nx s n1 i : Nat} {os : List zh} {done : List (Nat × List (Nat × HBlk))} {V : List (Nat × PH)}
theorem Dw.start : Dw n1 n1 h1 [] [] := ⟨Nat.le_refl _, (fun e he => by cases he), (fun f g e he => by cases he), (fun f g b hb => rfl), (fun f g e he => by cases he), List.Pairwise.nil, (fun p hp => by cases hp)⟩
theorem Dw.d (dw : Dw n1 nx h1 done V) (hd : D h1 n1) (f : Nat → Bool) : D (mf f h1 done) nx := by
 have hle := dw.le
 unfold D at hd ⊢
 exact fun b hb => by rw [dw.out f h1 b (.inr hb)]; exact hd b (by omega)
theorem Dw.view (dw : Dw n1 nx h1 done V) (hd : D h1 n1) (A : List Nat) : Vw n1 nx h1 (merge h1 (some A) done) A V := by
 rw [yQ]
 exact ⟨dw.le, fun b hb => dw.out _ _ b (.inl hb), dw.d hd _, fun e he hA b x hx => dw.vis _ _ e he hA b x hx⟩
theorem yn {ops : List zh} (hfl : fl ≤ nx) (hr : Dw nx nx h1 [] [] → DG lp fl s nx h1 ops 0 [] (Q .normal) a nx) : W lp fl rd (.draw s ops) Q a ⟨h1, nx⟩ := w_drawg hfl (hr Dw.start)
theorem jw {o : zh} (hd : D h1 n1) (dw : Dw n1 nx h1 done V) (hi : Nat.blt i s = true) (hw : o.anc.contains i = false) (hr : ∀ hm, Vw n1 nx h1 hm o.anc V → R lp (max fl nx) [o] (DX lp fl s n1 h1 os i done nx N) a ⟨hm, nx⟩) : DG lp fl s n1 h1 (o :: os) i done N a nx :=
 x_step hi hw rfl (hr _ (dw.view hd _))
theorem Dw.up (dw : Dw n1 nx h1 done V) {n' : Nat} (hn : nx ≤ n') : Dw n1 n' h1 done V := by
 have hle := dw.le
 exact ⟨by omega, fun e he b x hx => by have := dw.bd e he b x hx; omega, dw.vis, fun f g b hb => dw.out f g b (by omega), dw.hid, dw.dis, dw.idx⟩
theorem Dw.put (dw : Dw n1 nx h1 done V) {n2 : Nat} {l : List (Nat × HBlk)} {G : PH} (hn : nx ≤ n2) (ho : ∀ g b, b < nx ∨ n2 ≤ b → (addAll g l).get b = g.get b) (hG : ∀ g b x, G b = some x → nx ≤ b ∧ b < n2 ∧ (addAll g l).get b = some x) : Dw n1 n2 h1 ((i, l) :: done) ((i, G) :: V) := by
 have hle := dw.le
 have ext : ∀ (f : Nat → Bool) g b, b < nx → (mf f (bif f i then addAll g l else g) done).get b = (mf f g done).get b := fun f g b hb => by
  cases f i with
  | false => rfl
  | true =>
   simp only [cond_true]
   -- by what the entries lay, or the base
   have key : ∀ (ds : List (Nat × List (Nat × HBlk))) (g1 g2 : Tr HBlk), g1.get b = g2.get b → (mf f g1 ds).get b = (mf f g2 ds).get b := fun ds => by
    induction ds with
    | nil => intro g1 g2 h; exact h
    | cons p ds ih =>
     intro g1 g2 h
     obtain ⟨j, m⟩ := p
     unfold mf
     refine ih _ _ ?_
     cases f j with
     | false => exact h
     | true =>
      simp only [cond_true]
      have : ∀ (m : List (Nat × HBlk)) (g1 g2 : Tr HBlk), g1.get b = g2.get b → (addAll g1 m).get b = (addAll g2 m).get b := fun m => by
       induction m with
       | nil => intro g1 g2 h; exact h
       | cons q m ih =>
        intro g1 g2 h
        obtain ⟨c, x⟩ := q
        rw [uT, uT]
        refine ih _ _ ?_
        rw [Tr.get_set, Tr.get_set, h]
      exact this m g1 g2 h
   exact key done _ _ (ho g b (.inl hb))
 have hdis : ∀ e ∈ V, ∀ b x, G b = some x → e.2 b = none := fun e he b x hx => by
  cases hy : e.2 b with
  | none => rfl
  | some y => have := dw.bd e he b y hy; have := hG .e b x hx; omega
 refine ⟨by omega, fun e he b x hx => ?_, fun f g e he hf b x hx => ?_, fun f g b hb => ?_, fun f g e he hf b x hx => ?_, List.pairwise_cons.2 ⟨hdis, dw.dis⟩, fun p hp => ?_⟩
 ·rcases List.mem_cons.1 he with rfl | he
  ·have := hG .e b x hx; omega
  ·have := dw.bd e he b x hx; omega
 ·show (mf f (bif f i then addAll g l else g) done).get b = _
  rcases List.mem_cons.1 he with rfl | he
  ·have hf' : f i = true := hf
   rw [hf']
   simp only [cond_true]
   obtain ⟨g1, g2, g3⟩ := hG g b x hx
   rw [dw.out f _ b (.inr g1)]
   exact g3
  ·exact dw.vis f _ e he hf b x hx
 ·show (mf f (bif f i then addAll g l else g) done).get b = _
  rw [dw.out f _ b (by omega)]
  cases f i with
  | false => rfl
  | true => exact ho g b (by omega)
 ·show (mf f (bif f i then addAll g l else g) done).get b = _
  rcases List.mem_cons.1 he with rfl | he
  ·have hf' : f i = false := hf
   rw [hf']
   simp only [cond_false]
   obtain ⟨g1, g2, g3⟩ := hG g b x hx
   exact dw.out f _ b (.inr g1)
  ·rw [dw.hid f _ e he hf b x hx]
   have := dw.bd e he b x hx
   cases f i with
   | false => rfl
   | true => exact ho g b (.inl (by omega))
 ·rcases List.mem_cons.1 hp with rfl | hp
  ·exact ⟨_, List.mem_cons_self .., rfl⟩
  ·obtain ⟨e, he, h⟩ := dw.idx p hp
   exact ⟨e, List.mem_cons_of_mem _ he, h⟩
def one (b : Nat) (x : HBlk) : PH := fun c => if c = b then some x else none
theorem y_same (hr : DG lp fl s n1 h1 os (i + 1) done N a nx) : DX lp fl s n1 h1 os i done nx N a ⟨hm, nx⟩ := x_same hr
theorem XP {n' : Nat} (dw : Dw n1 nx h1 done V) (hn : nx ≤ n') (hd : D hm nx) (hr : Dw n1 n' h1 done V → DG lp fl s n1 h1 os (i + 1) done N a n') : DX lp fl s n1 h1 os i done nx N a ⟨hm, n'⟩ := x_call hn hd (hr (dw.up hn))
theorem y_new {x : HBlk} (dw : Dw n1 nx h1 done V) (hr : ∀ done', Dw n1 (nx + 1) h1 done' ((i, one nx x) :: V) → DG lp fl s n1 h1 os (i + 1) done' N a (nx + 1)) : DX lp fl s n1 h1 os i done nx N a ⟨hm.set nx (some x), nx + 1⟩ := by
 refine x_new (hr _ (dw.put (by omega) (fun g b hb => ?_) fun g b y hy => ?_))
 ·rw [uT, ad_nil]; exact z7 _ _ (by omega)
 ·have hy' : (if b = nx then some x else none) = some y := hy
  by_cases e : b = nx
  ·rw [if_pos e] at hy'; cases hy'; subst e
   exact ⟨by omega, by omega, by rw [uT, ad_nil, z8]⟩
  ·rw [if_neg e] at hy'; cases hy'
theorem vd (hd : D h1 n1) (dw : Dw n1 nx h1 done V) (hi : Nat.ble s i = true) (hr : ∀ h', Ext h1 n1 h' nx → (∀ e ∈ V, PH.sub e.2 h') → R lp fl os N a ⟨h', nx⟩) : DG lp fl s n1 h1 os i done N a nx := by
 refine g_end hi rfl (hr _ ⟨dw.le, ?_, fun b hb => ?_⟩ fun e he b x hx => ?_)
 ·rw [yQ]; exact dw.d hd _
 ·rw [yQ]; exact dw.out _ _ b (.inl hb)
 ·rw [yQ]; exact dw.vis _ _ e he rfl b x hx
end
end Go.Hx.V

namespace Go.Hx.V
open Go.Hx
noncomputable def lo (T : Tr HV) : Lo → HV
 | .t n => (T.get n).getD .undef
 | .c v => v
theorem zC {nt : Nat} {T : Tr HV} {ds : List Nat} (x : Lo) : (HAct.mk nt T ds).ev x = lo T x := by cases x <;> rfl
theorem ev_c {T : Tr HV} {v : HV} : lo T (.c v) = v := rfl
theorem ev_t {T : Tr HV} {n : Nat} {v : HV} (h : T.get n = some v) : lo T (.t n) = v := by show (T.get n).getD .undef = v; rw [h]; rfl
theorem ge_h {T : Tr HV} {d : Nat} {v : Option HV} : (T.set d v).get d = v := by rw [Tr.get_set, if_pos rfl]
theorem ge_m {T : Tr HV} {d n : Nat} {x v : Option HV} (h : Nat.beq n d = false) (g : T.get n = v) : (T.set d x).get n = v := by
 rw [Tr.get_set, if_neg (fun e => by rw [e, Nat.beq_refl] at h; cases h)]; exact g
theorem ge_f {T : Tr HV} {n d1 d2 d3 d4 : Nat} {v x1 x2 x3 x4 : Option HV} (h : (Nat.beq n d1 || (Nat.beq n d2 || (Nat.beq n d3 || (Nat.beq n d4 || false)))) = false) (g : T.get n = v) : (((((T.set d4 x4).set d3 x3).set d2 x2).set d1 x1)).get n = v := by
 simp only [Bool.or_eq_false_iff] at h
 obtain ⟨h1, h2, h3, h4, -⟩ := h
 exact (ge_m h1 (ge_m h2 (ge_m h3 (ge_m h4 g))))
theorem ge_w {T : Tr HV} {n d1 d2 d3 d4 d5 d6 d7 d8 d9 d10 d11 d12 d13 d14 d15 d16 : Nat} {v x1 x2 x3 x4 x5 x6 x7 x8 x9 x10 x11 x12 x13 x14 x15 x16 : Option HV} (h : (Nat.beq n d1 || (Nat.beq n d2 || (Nat.beq n d3 || (Nat.beq n d4 || (Nat.beq n d5 || (Nat.beq n d6 || (Nat.beq n d7 || (Nat.beq n d8 || (Nat.beq n d9 || (Nat.beq n d10 || (Nat.beq n d11 || (Nat.beq n d12 || (Nat.beq n d13 || (Nat.beq n d14 || (Nat.beq n d15 || (Nat.beq n d16 || false)))))))))))))))) = false) (g : T.get n = v) : (((((((((((((((((T.set d16 x16).set d15 x15).set d14 x14).set d13 x13).set d12 x12).set d11 x11).set d10 x10).set d9 x9).set d8 x8).set d7 x7).set d6 x6).set d5 x5).set d4 x4).set d3 x3).set d2 x2).set d1 x1)).get n = v := by
 simp only [Bool.or_eq_false_iff] at h
 obtain ⟨h1, h2, h3, h4, h5, h6, h7, h8, h9, h10, h11, h12, h13, h14, h15, h16, -⟩ := h
 exact (ge_m h1 (ge_m h2 (ge_m h3 (ge_m h4 (ge_m h5 (ge_m h6 (ge_m h7 (ge_m h8 (ge_m h9 (ge_m h10 (ge_m h11 (ge_m h12 (ge_m h13 (ge_m h14 (ge_m h15 (ge_m h16 g))))))))))))))))
theorem gA {T : Tr HV} {n : Nat} {v : Option HV} (h : T.get n = v := by repeat first | exact ge_h | refine ge_w rfl ?_ | refine ge_f rfl ?_ | refine ge_m rfl ?_ | assumption) : T.get n = v := h
theorem zP {nt d : Nat} {T : Tr HV} {ds : List Nat} {v : HV} (hd : Nat.blt d nt = true) : (HAct.mk nt T ds).put (some d) v = ⟨nt, T.set d (some v), ds⟩ := by
 unfold HAct.put; simp only [hd, cond_true]
def rng (x : Int) : Prop := -9223372036854775808 ≤ x ∧ x < 9223372036854775808
instance (x : Int) : Decidable (rng x) := by unfold rng; infer_instance
def ck {β : Type} (p : Prop) [Decidable p] (k : Option β) : Option β := if p then k else none
theorem zn {β : Type} {p : Prop} [Decidable p] {k : Option β} {r : β} (h : ck p k = some r) : p ∧ k = some r := by
 unfold ck at h; by_cases hp : p
 ·rw [if_pos hp] at h; exact ⟨hp, h⟩
 ·rw [if_neg hp] at h; cases h
theorem zr {β : Type} {p : Prop} [Decidable p] {k : Option β} (h : p) : ck p k = k := if_pos h
def bnd {α β : Type} (x : Option α) (f : α → Option β) : Option β := x.bind f
theorem zj {α β : Type} {x : Option α} {f : α → Option β} {r : β} (h : bnd x f = some r) : ∃ v, x = some v ∧ f v = some r := Option.bind_eq_some_iff.1 h
theorem zi {α β : Type} {x : α} {f : α → Option β} : bnd (some x) f = f x := rfl
theorem zy {β : Type} {b : Bool} {x y : Option β} {r : β} (hb : b = true) (h : (bif b then x else y) = some r) : x = some r := by subst hb; exact h
theorem zA {β : Type} {b : Bool} {x y : Option β} {r : β} (hb : b = false) (h : (bif b then x else y) = some r) : y = some r := by subst hb; exact h
def ix {α β : Type} (l : List α) (j : Int) (k : α → Option β) : Option β := if 0 ≤ j then (match l[j.toNat]? with | some x => k x | none => none) else none
theorem zO {α β : Type} {l : List α} {j : Int} {k : α → Option β} {r : β} (h : ix l j k = some r) : ∃ (n : Nat) (x : α), j = n ∧ n < l.length ∧ l[n]? = some x ∧ k x = some r := by
 unfold ix at h
 by_cases hj : 0 ≤ j
 ·rw [if_pos hj] at h
  cases e : l[j.toNat]? with
  | none => rw [e] at h; cases h
  | some x =>
   rw [e] at h
   refine ⟨j.toNat, x, (Int.toNat_of_nonneg hj).symm, ?_, e, h⟩
   rcases Nat.lt_or_ge j.toNat l.length with g | g
   ·exact g
   ·rw [List.getElem?_eq_none g] at e; cases e
 ·rw [if_neg hj] at h; cases h
theorem ix_pos {α β : Type} {l : List α} {n : Nat} {x : α} {k : α → Option β} (h : l[n]? = some x) : ix l n k = k x := by
 unfold ix; rw [if_pos (by omega), Int.toNat_natCast, h]
def iter {α β : Type} (step : α → Option (α ⊕ β)) : Nat → α → Option β
 | 0, _ => none
 | n + 1, x => (step x).bind fun s => match s with
  | .inl x' => iter step n x'
  | .inr y => some y
theorem inj {α : Type} {x y : α} (h : some x = some y) : x = y := Option.some.inj h
section
variable {lp : Nat → Option zp} {fl : Nat} {rd : Option Nat} {Q : HExit → HAct → HS → Prop} {N : HAct → HS → Prop} {nt d : Nat} {T : Tr HV} {ds : List Nat} {σ : HS} {h : Tr HBlk} {nx : Nat} {os : List zh} {anc : List Nat}
theorem v_go {op : LOp} {v : HV} {σ' : HS} (hop : opH lp (exec lp 0) fl op ⟨nt, T, ds⟩ σ = some (v, σ')) (hd : Nat.blt d nt = true) (hn : R lp fl os N ⟨nt, T.set d (some v), ds⟩ σ') : R lp fl (⟨some d, op, none, anc⟩ :: os) N ⟨nt, T, ds⟩ σ :=
 r_go hop (by rw [zP hd]; exact hn)
theorem za {x : Lo} {v : HV} (hn : R lp fl os N ⟨nt, T.set d (some v), ds⟩ σ) (hx : lo T x = v := by first | exact ev_c | (apply ev_t; repeat first | exact ge_h | refine ge_w rfl ?_ | refine ge_f rfl ?_ | refine ge_m rfl ?_ | assumption)) (hd : Nat.blt d nt = true := by rfl) : R lp fl (⟨some d, .move x, none, anc⟩ :: os) N ⟨nt, T, ds⟩ σ :=
 r_move ((zC x).trans hx) (by rw [zP hd]; exact hn)
theorem v_fa {off b o : Nat} {x : Lo} (hn : R lp fl os N ⟨nt, T.set d (some (.ptr (some (b, o + off)))), ds⟩ σ) (hx : lo T x = .ptr (some (b, o)) := by first | exact ev_c | (apply ev_t; repeat first | exact ge_h | refine ge_w rfl ?_ | refine ge_f rfl ?_ | refine ge_m rfl ?_ | assumption)) (hd : Nat.blt d nt = true := by rfl) : R lp fl (⟨some d, .fieldAddr off x, none, anc⟩ :: os) N ⟨nt, T, ds⟩ σ :=
 r_fa ((zC x).trans hx) (by rw [zP hd]; exact hn)
theorem zq {b o : Nat} {x : Lo} {cs : List HV} {k : BK} {v : HV} (hg : h.get b = some (.cells cs k)) (hv : cs[o]? = some v) (hn : R lp fl os N ⟨nt, T.set d (some v), ds⟩ ⟨h, nx⟩) (hx : lo T x = .ptr (some (b, o)) := by first | exact ev_c | (apply ev_t; repeat first | exact ge_h | refine ge_w rfl ?_ | refine ge_f rfl ?_ | refine ge_m rfl ?_ | assumption)) (hd : Nat.blt d nt = true := by rfl) : R lp fl (⟨some d, .load false 1 x, none, anc⟩ :: os) N ⟨nt, T, ds⟩ ⟨h, nx⟩ :=
 r_ld1 ((zC x).trans hx) hg hv (by rw [zP hd]; exact hn)
theorem zM {b o n : Nat} {x : Lo} {cs vs : List HV} {k : BK} (hg : h.get b = some (.cells cs k)) (hv : takeN n (cs.drop o) = some vs) (hn : R lp fl os N ⟨nt, T.set d (some (.agg vs)), ds⟩ ⟨h, nx⟩) (hx : lo T x = .ptr (some (b, o)) := by first | exact ev_c | (apply ev_t; repeat first | exact ge_h | refine ge_w rfl ?_ | refine ge_f rfl ?_ | refine ge_m rfl ?_ | assumption)) (hd : Nat.blt d nt = true := by rfl) : R lp fl (⟨some d, .load true n x, none, anc⟩ :: os) N ⟨nt, T, ds⟩ ⟨h, nx⟩ :=
 r_ldn ((zC x).trans hx) hg hv (by rw [zP hd]; exact hn)
theorem v_nc {p : Nat × Nat} {x : Lo} (hn : R lp fl os N ⟨nt, T.set d (some (.ptr (some p))), ds⟩ σ) (hx : lo T x = .ptr (some p) := by first | exact ev_c | (apply ev_t; repeat first | exact ge_h | refine ge_w rfl ?_ | refine ge_f rfl ?_ | refine ge_m rfl ?_ | assumption)) (hd : Nat.blt d nt = true := by rfl) : R lp fl (⟨some d, .nilCheck x, none, anc⟩ :: os) N ⟨nt, T, ds⟩ σ :=
 r_nc ((zC x).trans hx) (by rw [zP hd]; exact hn)
theorem zY {x y : Lo} {m n : Int} (hk : rng (m + n)) (hn : R lp fl os N ⟨nt, T.set d (some (i64 (m + n))), ds⟩ σ) (hx : lo T x = i64 m := by first | exact ev_c | (apply ev_t; repeat first | exact ge_h | refine ge_w rfl ?_ | refine ge_f rfl ?_ | refine ge_m rfl ?_ | assumption)) (hy : lo T y = i64 n := by first | exact ev_c | (apply ev_t; repeat first | exact ge_h | refine ge_w rfl ?_ | refine ge_f rfl ?_ | refine ge_m rfl ?_ | assumption)) (hd : Nat.blt d nt = true := by rfl) : R lp fl (⟨some d, .bin .add x y, none, anc⟩ :: os) N ⟨nt, T, ds⟩ σ :=
 r_add ((zC x).trans hx) ((zC y).trans hy) hk.1 hk.2 (by rw [zP hd]; exact hn)
theorem v_sub {x y : Lo} {m n : Int} (hk : rng (m - n)) (hn : R lp fl os N ⟨nt, T.set d (some (i64 (m - n))), ds⟩ σ) (hx : lo T x = i64 m := by first | exact ev_c | (apply ev_t; repeat first | exact ge_h | refine ge_w rfl ?_ | refine ge_f rfl ?_ | refine ge_m rfl ?_ | assumption)) (hy : lo T y = i64 n := by first | exact ev_c | (apply ev_t; repeat first | exact ge_h | refine ge_w rfl ?_ | refine ge_f rfl ?_ | refine ge_m rfl ?_ | assumption)) (hd : Nat.blt d nt = true := by rfl) : R lp fl (⟨some d, .bin .sub x y, none, anc⟩ :: os) N ⟨nt, T, ds⟩ σ :=
 r_sub ((zC x).trans hx) ((zC y).trans hy) hk.1 hk.2 (by rw [zP hd]; exact hn)
theorem k9 {x : Lo} {m : Int} (hk : rng (-m)) (hn : R lp fl os N ⟨nt, T.set d (some (i64 (-m))), ds⟩ σ) (hx : lo T x = i64 m := by first | exact ev_c | (apply ev_t; repeat first | exact ge_h | refine ge_w rfl ?_ | refine ge_f rfl ?_ | refine ge_m rfl ?_ | assumption)) (hd : Nat.blt d nt = true := by rfl) : R lp fl (⟨some d, .un .neg x, none, anc⟩ :: os) N ⟨nt, T, ds⟩ σ :=
 r_neg ((zC x).trans hx) hk.1 hk.2 (by rw [zP hd]; exact hn)
theorem v_rem {x y : Lo} {k : IntKind} {m n : Int} (hk : n ≠ 0) (hn : R lp fl os N ⟨nt, T.set d (some (.int k (m.tmod n))), ds⟩ σ) (hx : lo T x = .int k m := by first | exact ev_c | (apply ev_t; repeat first | exact ge_h | refine ge_w rfl ?_ | refine ge_f rfl ?_ | refine ge_m rfl ?_ | assumption)) (hy : lo T y = .int k n := by first | exact ev_c | (apply ev_t; repeat first | exact ge_h | refine ge_w rfl ?_ | refine ge_f rfl ?_ | refine ge_m rfl ?_ | assumption)) (hd : Nat.blt d nt = true := by rfl) : R lp fl (⟨some d, .bin .rem x y, none, anc⟩ :: os) N ⟨nt, T, ds⟩ σ :=
 v_go (by
  show keep σ (binH .rem ((HAct.mk nt T ds).ev x) ((HAct.mk nt T ds).ev y)) = _
  rw [zC, zC, hx, hy]
  have e : sameK k k = true := by cases k <;> rfl
  simp only [binH, isShift, cond_false, e, cond_true, intFast, intArith, if_neg hk]; rfl) hd hn
theorem yc {x y : Lo} {k : IntKind} {m n : Int} (hn : R lp fl os N ⟨nt, T.set d (some (.bool (decide (m < n)))), ds⟩ σ) (hx : lo T x = .int k m := by first | exact ev_c | (apply ev_t; repeat first | exact ge_h | refine ge_w rfl ?_ | refine ge_f rfl ?_ | refine ge_m rfl ?_ | assumption)) (hy : lo T y = .int k n := by first | exact ev_c | (apply ev_t; repeat first | exact ge_h | refine ge_w rfl ?_ | refine ge_f rfl ?_ | refine ge_m rfl ?_ | assumption)) (hd : Nat.blt d nt = true := by rfl) : R lp fl (⟨some d, .bin .lss x y, none, anc⟩ :: os) N ⟨nt, T, ds⟩ σ :=
 v_go (by
  show keep σ (binH .lss ((HAct.mk nt T ds).ev x) ((HAct.mk nt T ds).ev y)) = _
  rw [zC, zC, hx, hy]
  have e : sameK k k = true := by cases k <;> rfl
  simp only [binH, isShift, cond_false, e, cond_true, intFast, jT]; rfl) hd hn
theorem vL {x y : Lo} {k : IntKind} {m n : Int} (hn : R lp fl os N ⟨nt, T.set d (some (.bool (decide (m ≤ n)))), ds⟩ σ) (hx : lo T x = .int k m := by first | exact ev_c | (apply ev_t; repeat first | exact ge_h | refine ge_w rfl ?_ | refine ge_f rfl ?_ | refine ge_m rfl ?_ | assumption)) (hy : lo T y = .int k n := by first | exact ev_c | (apply ev_t; repeat first | exact ge_h | refine ge_w rfl ?_ | refine ge_f rfl ?_ | refine ge_m rfl ?_ | assumption)) (hd : Nat.blt d nt = true := by rfl) : R lp fl (⟨some d, .bin .leq x y, none, anc⟩ :: os) N ⟨nt, T, ds⟩ σ :=
 v_go (by
  show keep σ (binH .leq ((HAct.mk nt T ds).ev x) ((HAct.mk nt T ds).ev y)) = _
  rw [zC, zC, hx, hy]
  have e : sameK k k = true := by cases k <;> rfl
  have e2 : (!decide (n < m)) = decide (m ≤ n) := by by_cases g : n < m <;> simp [g] <;> omega
  simp only [binH, isShift, cond_false, e, cond_true, intFast, jT, e2]; rfl) hd hn
theorem jg {x y : Lo} {k : IntKind} {m n : Int} (hn : R lp fl os N ⟨nt, T.set d (some (.bool (decide (n < m)))), ds⟩ σ) (hx : lo T x = .int k m := by first | exact ev_c | (apply ev_t; repeat first | exact ge_h | refine ge_w rfl ?_ | refine ge_f rfl ?_ | refine ge_m rfl ?_ | assumption)) (hy : lo T y = .int k n := by first | exact ev_c | (apply ev_t; repeat first | exact ge_h | refine ge_w rfl ?_ | refine ge_f rfl ?_ | refine ge_m rfl ?_ | assumption)) (hd : Nat.blt d nt = true := by rfl) : R lp fl (⟨some d, .bin .gtr x y, none, anc⟩ :: os) N ⟨nt, T, ds⟩ σ :=
 v_go (by
  show keep σ (binH .gtr ((HAct.mk nt T ds).ev x) ((HAct.mk nt T ds).ev y)) = _
  rw [zC, zC, hx, hy]
  have e : sameK k k = true := by cases k <;> rfl
  simp only [binH, isShift, cond_false, e, cond_true, intFast, jT]; rfl) hd hn
theorem YC {x y : Lo} {k : IntKind} {m n : Int} (hn : R lp fl os N ⟨nt, T.set d (some (.bool (decide (n ≤ m)))), ds⟩ σ) (hx : lo T x = .int k m := by first | exact ev_c | (apply ev_t; repeat first | exact ge_h | refine ge_w rfl ?_ | refine ge_f rfl ?_ | refine ge_m rfl ?_ | assumption)) (hy : lo T y = .int k n := by first | exact ev_c | (apply ev_t; repeat first | exact ge_h | refine ge_w rfl ?_ | refine ge_f rfl ?_ | refine ge_m rfl ?_ | assumption)) (hd : Nat.blt d nt = true := by rfl) : R lp fl (⟨some d, .bin .geq x y, none, anc⟩ :: os) N ⟨nt, T, ds⟩ σ :=
 v_go (by
  show keep σ (binH .geq ((HAct.mk nt T ds).ev x) ((HAct.mk nt T ds).ev y)) = _
  rw [zC, zC, hx, hy]
  have e : sameK k k = true := by cases k <;> rfl
  have e2 : (!decide (m < n)) = decide (n ≤ m) := by by_cases g : m < n <;> simp [g] <;> omega
  simp only [binH, isShift, cond_false, e, cond_true, intFast, jT, e2]; rfl) hd hn
end
end Go.Hx.V

namespace Go.Hx.V
open Go.Hx
section
variable {lp : Nat → Option zp} {fl : Nat} {rd : Option Nat} {Q : HExit → HAct → HS → Prop} {N : HAct → HS → Prop} {nt d : Nat} {T : Tr HV} {ds : List Nat} {σ : HS} {h : Tr HBlk} {nx : Nat} {os : List zh} {anc : List Nat}
theorem jz {x y : Lo} {k : IntKind} {m n : Int}  (hn : R lp fl os N ⟨nt, T.set d (some (.bool (decide (m = n)))), ds⟩ σ) (hx : lo T x = .int k m := by first | exact ev_c | (apply ev_t; repeat first | exact ge_h | refine ge_w rfl ?_ | refine ge_f rfl ?_ | refine ge_m rfl ?_ | assumption)) (hy : lo T y = .int k n := by first | exact ev_c | (apply ev_t; repeat first | exact ge_h | refine ge_w rfl ?_ | refine ge_f rfl ?_ | refine ge_m rfl ?_ | assumption)) (hd : Nat.blt d nt = true := by rfl) : R lp fl (⟨some d, .eq (.cell (.i k)) false x y, none, anc⟩ :: os) N ⟨nt, T, ds⟩ σ :=
 r_eqh ((zC x).trans hx) ((zC y).trans hy) (b := decide (m = n)) (by show (if k = k ∧ k = k then some (m == n) else none) = _; rw [if_pos ⟨rfl, rfl⟩]; congr 1) (by rw [zP hd]; simpa using hn)
theorem vN {x y : Lo} {k : IntKind} {m n : Int}  (hn : R lp fl os N ⟨nt, T.set d (some (.bool (!decide (m = n)))), ds⟩ σ) (hx : lo T x = .int k m := by first | exact ev_c | (apply ev_t; repeat first | exact ge_h | refine ge_w rfl ?_ | refine ge_f rfl ?_ | refine ge_m rfl ?_ | assumption)) (hy : lo T y = .int k n := by first | exact ev_c | (apply ev_t; repeat first | exact ge_h | refine ge_w rfl ?_ | refine ge_f rfl ?_ | refine ge_m rfl ?_ | assumption)) (hd : Nat.blt d nt = true := by rfl) : R lp fl (⟨some d, .eq (.cell (.i k)) true x y, none, anc⟩ :: os) N ⟨nt, T, ds⟩ σ :=
 r_eqh ((zC x).trans hx) ((zC y).trans hy) (b := decide (m = n)) (by show (if k = k ∧ k = k then some (m == n) else none) = _; rw [if_pos ⟨rfl, rfl⟩]; congr 1) (by rw [zP hd]; simpa using hn)
theorem v_ner {x y : Lo} {D : ED} {u w : HV} {b : Bool} (he : eqH D u w = some b) (hn : R lp fl os N ⟨nt, T.set d (some (.bool (!b))), ds⟩ σ) (hx : lo T x = u := by first | exact ev_c | (apply ev_t; repeat first | exact ge_h | refine ge_w rfl ?_ | refine ge_f rfl ?_ | refine ge_m rfl ?_ | assumption)) (hy : lo T y = w := by first | exact ev_c | (apply ev_t; repeat first | exact ge_h | refine ge_w rfl ?_ | refine ge_f rfl ?_ | refine ge_m rfl ?_ | assumption)) (hd : Nat.blt d nt = true := by rfl) : R lp fl (⟨some d, .eq D true x y, none, anc⟩ :: os) N ⟨nt, T, ds⟩ σ :=
 r_eqh ((zC x).trans hx) ((zC y).trans hy) he (by rw [zP hd]; cases b <;> exact hn)
theorem yv {x : Lo} {b : Bool}  (hn : R lp fl os N ⟨nt, T.set d (some (.bool (!b))), ds⟩ σ) (hx : lo T x = .bool b := by first | exact ev_c | (apply ev_t; repeat first | exact ge_h | refine ge_w rfl ?_ | refine ge_f rfl ?_ | refine ge_m rfl ?_ | assumption)) (hd : Nat.blt d nt = true := by rfl) : R lp fl (⟨some d, .un .not x, none, anc⟩ :: os) N ⟨nt, T, ds⟩ σ :=
 r_not1 ((zC x).trans hx) (by rw [zP hd]; exact hn)
theorem v_pt {c x y : Lo} {v : HV}  (hn : R lp fl os N ⟨nt, T.set d (some v), ds⟩ σ) (hc : lo T c = .bool true := by first | exact ev_c | (apply ev_t; repeat first | exact ge_h | refine ge_w rfl ?_ | refine ge_f rfl ?_ | refine ge_m rfl ?_ | assumption)) (hx : lo T x = v := by first | exact ev_c | (apply ev_t; repeat first | exact ge_h | refine ge_w rfl ?_ | refine ge_f rfl ?_ | refine ge_m rfl ?_ | assumption)) (hd : Nat.blt d nt = true := by rfl) : R lp fl (⟨some d, .pick c x y, none, anc⟩ :: os) N ⟨nt, T, ds⟩ σ :=
 r_pt ((zC c).trans hc) ((zC x).trans hx) (by rw [zP hd]; exact hn)
theorem v_pf {c x y : Lo} {v : HV}  (hn : R lp fl os N ⟨nt, T.set d (some v), ds⟩ σ) (hc : lo T c = .bool false := by first | exact ev_c | (apply ev_t; repeat first | exact ge_h | refine ge_w rfl ?_ | refine ge_f rfl ?_ | refine ge_m rfl ?_ | assumption)) (hx : lo T y = v := by first | exact ev_c | (apply ev_t; repeat first | exact ge_h | refine ge_w rfl ?_ | refine ge_f rfl ?_ | refine ge_m rfl ?_ | assumption)) (hd : Nat.blt d nt = true := by rfl) : R lp fl (⟨some d, .pick c x y, none, anc⟩ :: os) N ⟨nt, T, ds⟩ σ :=
 r_pf ((zC c).trans hc) ((zC y).trans hx) (by rw [zP hd]; exact hn)
theorem z2 {x : Lo} {p : Option (Nat × Nat)} {n c : Nat}  (hn : R lp fl os N ⟨nt, T.set d (some (i64 n)), ds⟩ σ) (hx : lo T x = .slice p n c := by first | exact ev_c | (apply ev_t; repeat first | exact ge_h | refine ge_w rfl ?_ | refine ge_f rfl ?_ | refine ge_m rfl ?_ | assumption)) (hd : Nat.blt d nt = true := by rfl) : R lp fl (⟨some d, .len .slice x, none, anc⟩ :: os) N ⟨nt, T, ds⟩ σ :=
 r_len ((zC x).trans hx) (by rw [zP hd]; exact hn)
theorem v_ixs {size : Nat} {x i : Lo} {b o n c j : Nat} {z : Int} (hz : z = j) (hj : j < n) (hn : R lp fl os N ⟨nt, T.set d (some (.ptr (some (b, o + j * size)))), ds⟩ σ) (hx : lo T x = .slice (some (b, o)) n c := by first | exact ev_c | (apply ev_t; repeat first | exact ge_h | refine ge_w rfl ?_ | refine ge_f rfl ?_ | refine ge_m rfl ?_ | assumption)) (hi : lo T i = i64 z := by first | exact ev_c | (apply ev_t; repeat first | exact ge_h | refine ge_w rfl ?_ | refine ge_f rfl ?_ | refine ge_m rfl ?_ | assumption)) (hd : Nat.blt d nt = true := by rfl) : R lp fl (⟨some d, .indexAddrS size x i, none, anc⟩ :: os) N ⟨nt, T, ds⟩ σ :=
 r_ixs ((zC x).trans hx) ((zC i).trans (by rw [hi, hz])) hj (by rw [zP hd]; exact hn)
theorem yl {len size : Nat} {x i : Lo} {b o j : Nat} {z : Int} (hz : z = j) (hj : j < len) (hn : R lp fl os N ⟨nt, T.set d (some (.ptr (some (b, o + j * size)))), ds⟩ σ) (hx : lo T x = .ptr (some (b, o)) := by first | exact ev_c | (apply ev_t; repeat first | exact ge_h | refine ge_w rfl ?_ | refine ge_f rfl ?_ | refine ge_m rfl ?_ | assumption)) (hi : lo T i = i64 z := by first | exact ev_c | (apply ev_t; repeat first | exact ge_h | refine ge_w rfl ?_ | refine ge_f rfl ?_ | refine ge_m rfl ?_ | assumption)) (hd : Nat.blt d nt = true := by rfl) : R lp fl (⟨some d, .indexAddrA len size x i, none, anc⟩ :: os) N ⟨nt, T, ds⟩ σ :=
 r_ixa ((zC x).trans hx) ((zC i).trans (by rw [hi, hz])) hj (by rw [zP hd]; exact hn)
theorem v_xt {x : Lo} {i : Nat} {vs : List HV} {v : HV} (hv : vs[i]? = some v) (hn : R lp fl os N ⟨nt, T.set d (some v), ds⟩ σ) (hx : lo T x = .tuple vs := by first | exact ev_c | (apply ev_t; repeat first | exact ge_h | refine ge_w rfl ?_ | refine ge_f rfl ?_ | refine ge_m rfl ?_ | assumption)) (hd : Nat.blt d nt = true := by rfl) : R lp fl (⟨some d, .extract x i, none, anc⟩ :: os) N ⟨nt, T, ds⟩ σ :=
 r_ext ((zC x).trans hx) hv (by rw [zP hd]; exact hn)
theorem XU {k k' : IntKind} {x : Lo} {m : Int} (hk : IntKind.wrap k m = m) (hn : R lp fl os N ⟨nt, T.set d (some (.int k m)), ds⟩ σ) (hx : lo T x = .int k' m := by first | exact ev_c | (apply ev_t; repeat first | exact ge_h | refine ge_w rfl ?_ | refine ge_f rfl ?_ | refine ge_m rfl ?_ | assumption)) (hd : Nat.blt d nt = true := by rfl) : R lp fl (⟨some d, .convInt k x, none, anc⟩ :: os) N ⟨nt, T, ds⟩ σ :=
 v_go (by show oConvInt k x (HAct.mk nt T ds) σ = _; unfold oConvInt; rw [zC, hx]; show some ((HV.int k (IntKind.wrap k m)), σ) = _; rw [hk]) hd hn
inductive Evs (T : Tr HV) : List Lo → List HV → Prop where
 | nil : Evs T [] []
 | cons {x : Lo} {xs : List Lo} {v : HV} {vs : List HV} (hx : lo T x = v) (hs : Evs T xs vs) : Evs T (x :: xs) (v :: vs)
theorem Evs.map {xs : List Lo} {vs : List HV} (e : Evs T xs vs) : xs.map (HAct.mk nt T ds).ev = vs := by
 induction e with
 | nil => rfl
 | cons hx hs ih => rw [List.map_cons, ih, zC, hx]
inductive Evp (T : Tr HV) : List (Nat × Nat × Lo) → List (Nat × Nat × HV) → Prop where
 | nil : Evp T [] []
 | cons {x : Lo} {o s : Nat} {xs : List (Nat × Nat × Lo)} {v : HV} {vs : List (Nat × Nat × HV)} (hx : lo T x = v) (hs : Evp T xs vs) : Evp T ((o, s, x) :: xs) ((o, s, v) :: vs)
theorem Evp.map {xs : List (Nat × Nat × Lo)} {vs : List (Nat × Nat × HV)} (e : Evp T xs vs) : evParts (HAct.mk nt T ds) xs = vs := by
 unfold evParts
 induction e with
 | nil => rfl
 | cons hx hs ih => rw [List.map_cons, ih]; dsimp only; rw [zC, hx]
theorem ya {z cs : List HV} {ps : List (Nat × Nat × Lo)} {vs : List (Nat × Nat × HV)} (hf : fillH z vs = some cs) (hn : R lp fl os N ⟨nt, T.set d (some (.agg cs)), ds⟩ σ) (hp : Evp T ps vs := by repeat (first | exact Evp.nil | (apply Evp.cons; focus (first | exact ev_c | (apply ev_t; repeat first | exact ge_h | refine ge_w rfl ?_ | refine ge_f rfl ?_ | refine ge_m rfl ?_ | assumption))))) (hd : Nat.blt d nt = true := by rfl) : R lp fl (⟨some d, .build z ps, none, anc⟩ :: os) N ⟨nt, T, ds⟩ σ :=
 r_build (by rw [hp.map]; exact hf) (by rw [zP hd]; exact hn)
theorem v_mf {f : Nat} {u w : List HV} {first captured : List Lo}  (hn : R lp fl os N ⟨nt, T.set d (some (.func f u w)), ds⟩ σ) (hu : Evs T first u := by repeat (first | exact Evs.nil | (apply Evs.cons; focus (first | exact ev_c | (apply ev_t; repeat first | exact ge_h | refine ge_w rfl ?_ | refine ge_f rfl ?_ | refine ge_m rfl ?_ | assumption))))) (hw : Evs T captured w := by repeat (first | exact Evs.nil | (apply Evs.cons; focus (first | exact ev_c | (apply ev_t; repeat first | exact ge_h | refine ge_w rfl ?_ | refine ge_f rfl ?_ | refine ge_m rfl ?_ | assumption))))) (hd : Nat.blt d nt = true := by rfl) : R lp fl (⟨some d, .makeFunc f first captured, none, anc⟩ :: os) N ⟨nt, T, ds⟩ σ :=
 r_mf hu.map hw.map (by rw [zP hd]; exact hn)
theorem yi {n0 : Nat} {h0 : Tr HBlk} {F0 F : PH} {L : List LE} {x : Lo} {v : HV} (st : St n0 h0 F0 F h nx L) (hn : ∀ b h' n', St n0 h0 F0 F h' n' (L ++ [.bx b v.cells]) → R lp fl os N ⟨nt, T.set d (some (.ptr (some (b, 0)))), ds⟩ ⟨h', n'⟩) (hx : lo T x = v := by first | exact ev_c | (apply ev_t; repeat first | exact ge_h | refine ge_w rfl ?_ | refine ge_f rfl ?_ | refine ge_m rfl ?_ | assumption)) (hd : Nat.blt d nt = true := by rfl) : R lp fl (⟨some d, .box x, none, anc⟩ :: os) N ⟨nt, T, ds⟩ ⟨h, nx⟩ :=
 r_box ((zC x).trans hx) (by rw [zP hd]; exact hn _ _ _ (st.alloc _))
theorem zQ {n0 : Nat} {h0 : Tr HBlk} {F0 F : PH} {L : List LE} {z : List HV} (st : St n0 h0 F0 F h nx L) (hn : ∀ b h' n', St n0 h0 F0 F h' n' (L ++ [.bx b z]) → R lp fl os N ⟨nt, T.set d (some (.ptr (some (b, 0)))), ds⟩ ⟨h', n'⟩) (hd : Nat.blt d nt = true := by rfl) : R lp fl (⟨some d, .alloc z, none, anc⟩ :: os) N ⟨nt, T, ds⟩ ⟨h, nx⟩ :=
 YL (by rw [zP hd]; exact hn _ _ _ (st.alloc _))
theorem v_bs {n0 : Nat} {h0 : Tr HBlk} {F0 F : PH} {L : List LE} {len : Nat} {z cs : List HV} {ps : List (Nat × Nat × Lo)} {vs : List (Nat × Nat × HV)} (st : St n0 h0 F0 F h nx L) (hf : fillH (repl len z) vs = some cs) (hn : ∀ b h' n', St n0 h0 F0 F h' n' (L ++ [.bx b cs]) → R lp fl os N ⟨nt, T.set d (some (.slice (some (b, 0)) len len)), ds⟩ ⟨h', n'⟩) (hp : Evp T ps vs := by repeat (first | exact Evp.nil | (apply Evp.cons; focus (first | exact ev_c | (apply ev_t; repeat first | exact ge_h | refine ge_w rfl ?_ | refine ge_f rfl ?_ | refine ge_m rfl ?_ | assumption))))) (hd : Nat.blt d nt = true := by rfl) : R lp fl (⟨some d, .buildSlice len z ps, none, anc⟩ :: os) N ⟨nt, T, ds⟩ ⟨h, nx⟩ :=
 r_bs (by rw [hp.map]; exact hf) (by rw [zP hd]; exact hn _ _ _ (st.alloc _))
theorem v_ms {n0 : Nat} {h0 : Tr HBlk} {F0 F : PH} {L : List LE} {zero : List HV} {bytes ln cn : Nat} {l c : Lo} {zl zc : Int} (st : St n0 h0 F0 F h nx L) (h1 : zl = ln) (h2 : zc = cn) (h3 : ln ≤ cn) (h4 : cn * bytes ≤ 35184372088832 ∧ cn ≤ 35184372088832) (hn : ∀ o h' n', St n0 h0 F0 F h' n' (L ++ [.ls o cn (repl ln zero) zero.length]) → R lp fl os N ⟨nt, T.set d (some (slv o ln cn)), ds⟩ ⟨h', n'⟩) (hl : lo T l = i64 zl := by first | exact ev_c | (apply ev_t; repeat first | exact ge_h | refine ge_w rfl ?_ | refine ge_f rfl ?_ | refine ge_m rfl ?_ | assumption)) (hc : lo T c = i64 zc := by first | exact ev_c | (apply ev_t; repeat first | exact ge_h | refine ge_w rfl ?_ | refine ge_f rfl ?_ | refine ge_m rfl ?_ | assumption)) (hd : Nat.blt d nt = true := by rfl) : R lp fl (⟨some d, .makeSlice zero bytes l c, none, anc⟩ :: os) N ⟨nt, T, ds⟩ ⟨h, nx⟩ :=
 r_ms ((zC l).trans (by rw [hl, h1])) ((zC c).trans (by rw [hc, h2])) h3 h4.1 h4.2 (by
  rw [zP hd]
  have hl : ∀ n, (repl n zero).length = n * zero.length := fun n => by unfold repl; rw [List.length_flatten]; simp
  have e : repl cn zero = repl ln zero ++ repl (cn - ln) zero := by
   unfold repl; rw [← List.flatten_append, List.replicate_append_replicate]; congr 2; omega
  have s2 := st.allocL (cs := repl ln zero) (rest := repl (cn - ln) zero) (c := cn) (sz := zero.length) (by rw [← e, hl])
  rw [← e] at s2
  exact hn (some nx) _ _ s2)
theorem v_st {n0 : Nat} {h0 : Tr HBlk} {F0 F : PH} {L : List LE} {n b o : Nat} {x y : Lo} {cs cs' : List HV} {v : HV} (st : St n0 h0 F0 F h nx L) (i : Nat) (hi : L[i]? = some (.bx b cs)) (hw : overwrite cs o v.cells = some cs') (hl : v.cells.length = n) (h1 : v.cells.all HV.one = true) (hfl : fl ≤ n0) (hn : ∀ h', St n0 h0 F0 F h' nx (L.set i (.bx b cs')) → R lp fl os N ⟨nt, T, ds⟩ ⟨h', nx⟩) (hx : lo T x = .ptr (some (b, o)) := by first | exact ev_c | (apply ev_t; repeat first | exact ge_h | refine ge_w rfl ?_ | refine ge_f rfl ?_ | refine ge_m rfl ?_ | assumption)) (hy : lo T y = v := by first | exact ev_c | (apply ev_t; repeat first | exact ge_h | refine ge_w rfl ?_ | refine ge_f rfl ?_ | refine ge_m rfl ?_ | assumption)) : R lp fl (⟨none, .store n x y, none, anc⟩ :: os) N ⟨nt, T, ds⟩ ⟨h, nx⟩ :=
 r_st ((zC x).trans hx) ((zC y).trans hy) (st.at hi).2.2 trivial hl h1 hw (Nat.le_trans hfl (st.at hi).1) (hn _ (st.store i hi _))
def KS (v0 : HV) (nx : Nat) (h : Tr HBlk) : HV → HS → Prop := fun v σ => v = v0 ∧ ∃ n, nx ≤ n ∧ σ = ⟨h, n⟩
def KR {α : Type} (rv : PH → α → HV → Prop) (F : PH) (h : Tr HBlk) (nx : Nat) (x : α) : HV → HS → Prop := fun v σ => ∃ F', Ext h nx σ.h σ.nx ∧ PH.le F F' ∧ (∀ b, b < nx → F' b = F b) ∧ F'.sub σ.h ∧ rv F' x v
theorem zT {n0 : Nat} {h0 : Tr HBlk} {F0 F : PH} {L : List LE} {f : Lo} {xs : List Lo} {k : Nat} {first captured vs args : List HV} {v : HV} (st : St n0 h0 F0 F h nx L) (hc : C lp fl k args ⟨h, nx⟩ (KS v nx h)) (hn : ∀ n', St n0 h0 F0 F h n' L → R lp fl os N ⟨nt, T.set d (some v), ds⟩ ⟨h, n'⟩) (hf : lo T f = .func k first captured := by first | exact ev_c | (apply ev_t; repeat first | exact ge_h | refine ge_w rfl ?_ | refine ge_f rfl ?_ | refine ge_m rfl ?_ | assumption)) (he : Evs T xs vs := by repeat (first | exact Evs.nil | (apply Evs.cons; focus (first | exact ev_c | (apply ev_t; repeat first | exact ge_h | refine ge_w rfl ?_ | refine ge_f rfl ?_ | refine ge_m rfl ?_ | assumption))))) (ha : first ++ vs ++ captured = args := by rfl) (hd : Nat.blt d nt = true := by rfl) : R lp fl (⟨some d, .call f xs, none, anc⟩ :: os) N ⟨nt, T, ds⟩ ⟨h, nx⟩ :=
 jr ((zC f).trans hf) (by rw [he.map]; exact ha) hc fun w σ' ⟨e, n, hl, e2⟩ => by subst e; subst e2; rw [zP hd]; exact hn n (st.up hl)
theorem YD {ty : Nat} {name : String} {off b o : Nat} {rest : List HV} {n0 : Nat} {h0 : Tr HBlk} {F0 F : PH} {L : List LE} {f : Lo} {xs : List Lo} {k : Nat} {vs : List HV} {v : HV} (hv : viaOf lp k ty name = some off) (st : St n0 h0 F0 F h nx L) (hc : C lp fl k (.ptr (some (b, o + off)) :: rest) ⟨h, nx⟩ (KS v nx h)) (hn : ∀ n', St n0 h0 F0 F h n' L → R lp fl os N ⟨nt, T.set d (some v), ds⟩ ⟨h, n'⟩) (hf : lo T f = .via ty name k := by first | exact ev_c | (apply ev_t; repeat first | exact ge_h | refine ge_w rfl ?_ | refine ge_f rfl ?_ | refine ge_m rfl ?_ | assumption)) (he : Evs T xs vs := by repeat (first | exact Evs.nil | (apply Evs.cons; focus (first | exact ev_c | (apply ev_t; repeat first | exact ge_h | refine ge_w rfl ?_ | refine ge_f rfl ?_ | refine ge_m rfl ?_ | assumption))))) (ha : vs = .ptr (some (b, o)) :: rest := by rfl) (hd : Nat.blt d nt = true := by rfl) : R lp fl (⟨some d, .call f xs, none, anc⟩ :: os) N ⟨nt, T, ds⟩ ⟨h, nx⟩ :=
 r_via rfl ((zC f).trans hf) hv (by rw [he.map]; exact ha) (hc.mono fun w σ' ⟨e, n, hl, e2⟩ => by subst e; subst e2; rw [zP hd]; exact hn n (st.up hl))
theorem yr {n0 : Nat} {h0 : Tr HBlk} {F0 F : PH} {L : List LE} {f : Lo} {xs : List Lo} {k : Nat} {first captured vs args : List HV} {α : Type} {rv : PH → α → HV → Prop} {x : α} (st : St n0 h0 F0 F h nx L) (hc : C lp fl k args ⟨h, nx⟩ (KR rv F h nx x)) (hn : ∀ v F' h' n', PH.le F F' → rv F' x v → St n0 h0 F0 F' h' n' L → R lp fl os N ⟨nt, T.set d (some v), ds⟩ ⟨h', n'⟩) (hf : lo T f = .func k first captured := by first | exact ev_c | (apply ev_t; repeat first | exact ge_h | refine ge_w rfl ?_ | refine ge_f rfl ?_ | refine ge_m rfl ?_ | assumption)) (he : Evs T xs vs := by repeat (first | exact Evs.nil | (apply Evs.cons; focus (first | exact ev_c | (apply ev_t; repeat first | exact ge_h | refine ge_w rfl ?_ | refine ge_f rfl ?_ | refine ge_m rfl ?_ | assumption))))) (ha : first ++ vs ++ captured = args := by rfl) (hd : Nat.blt d nt = true := by rfl) : R lp fl (⟨some d, .call f xs, none, anc⟩ :: os) N ⟨nt, T, ds⟩ ⟨h, nx⟩ :=
 jr ((zC f).trans hf) (by rw [he.map]; exact ha) hc fun w σ' ⟨F', e, l1, l2, l3, l4⟩ => by rw [zP hd]; exact hn w F' σ'.h σ'.nx l1 l4 (st.call e l1 l2 l3)
theorem v_app {n0 : Nat} {h0 : Tr HBlk} {F0 F : PH} {L : List LE} {s x : Lo} {o : Option Nat} {c k sz n cx bytes bx ox : Nat} {cs csx row : List HV} {kx : BK} (st : St n0 h0 F0 F h nx L) (i : Nat) (hi : L[i]? = some (.ls o c cs sz)) (hk : cs.length = k * sz) (hg : h.get bx = some (.cells csx kx)) (ht : takeN (n * sz) (csx.drop ox) = some row) (h1 : row.all HV.one = true) (hb : (k + n) * bytes ≤ 35184372088832 ∧ k + n ≤ 35184372088832) (hfl : fl ≤ n0) (hz : 0 < sz) (hn0 : 0 < n) (hn : ∀ o' c' h' n', St n0 h0 F0 F h' n' (L.set i (.ls o' c' (cs ++ row) sz)) → R lp fl os N ⟨nt, T.set d (some (slv o' (k + n) c')), ds⟩ ⟨h', n'⟩) (hs : lo T s = slv o k c := by first | exact ev_c | (apply ev_t; repeat first | exact ge_h | refine ge_w rfl ?_ | refine ge_f rfl ?_ | refine ge_m rfl ?_ | assumption)) (hx : lo T x = .slice (some (bx, ox)) n cx := by first | exact ev_c | (apply ev_t; repeat first | exact ge_h | refine ge_w rfl ?_ | refine ge_f rfl ?_ | refine ge_m rfl ?_ | assumption)) (hd : Nat.blt d nt = true := by rfl) : R lp fl (⟨some d, .append sz bytes s x, none, anc⟩ :: os) N ⟨nt, T, ds⟩ ⟨h, nx⟩ := by
 obtain ⟨o', c', h', n', e, s2⟩ := st.append i hi hk hz hfl hg ht h1 hn0 hb.1 hb.2 (cx := cx)
 exact Xk ((zC s).trans hs) ((zC x).trans hx) e (by rw [zP hd]; exact hn _ _ _ _ s2)
theorem zE {c : Lo} {x y : ze} {b : Bool} (h1 : b = true → W lp fl rd x Q ⟨nt, T, ds⟩ σ) (h2 : b = false → W lp fl rd y Q ⟨nt, T, ds⟩ σ) (hc : lo T c = .bool b := by first | exact ev_c | (apply ev_t; repeat first | exact ge_h | refine ge_w rfl ?_ | refine ge_f rfl ?_ | refine ge_m rfl ?_ | assumption)) : W lp fl rd (.cond c x y) Q ⟨nt, T, ds⟩ σ := by
 cases b with
 | true => exact w_t ((zC c).trans hc) (h1 rfl)
 | false => exact w_f ((zC c).trans hc) (h2 rfl)
theorem in_c {f : Nat} {args : List HV} {lf : zp} {K : HV → HS → Prop} {F : PH} (hd : D h nx) (hF : F.sub h) (hf : lp f = some lf) (hs : lf.spec = none) (hi : lf.imp = false) (hl : Nat.ble args.length lf.nt = true)
  (hw : St nx h F F h nx [] → W lp nx none lf.body (Fin ⟨h, nx⟩ lf.res K) ⟨lf.nt, putAll .e 0 args, []⟩ ⟨h, nx⟩) : C lp fl f args ⟨h, nx⟩ K := c_in hf hs hi hl (hw (St.start hd hF))
theorem in_m {f : Nat} {args : List HV} {lf : zp} {K : HV → HS → Prop} {F : PH} (hd : D h nx) (hF : F.sub h) (hfl : fl ≤ nx) (hf : lp f = some lf) (hs : lf.spec = none) (hi : lf.imp = true) (hl : Nat.ble args.length lf.nt = true)
  (hw : St nx h F F h nx [] → fl ≤ nx → W lp fl none lf.body (Fim fl lf.res K) ⟨lf.nt, putAll .e 0 args, []⟩ ⟨h, nx⟩) : C lp fl f args ⟨h, nx⟩ K := c_im hf hs hi hl (hw (St.start hd hF) hfl)
inductive Res (T : Tr HV) (h : Tr HBlk) : List LRes → List HV → Prop where
 | nil : Res T h [] []
 | t {n : Nat} {v : HV} {rs : List LRes} {vs : List HV} (hv : T.get n = some v) (hr : Res T h rs vs) : Res T h (.t n :: rs) (v :: vs)
 | c {t b o n : Nat} {cs us : List HV} {k : BK} {rs : List LRes} {vs : List HV} (hv : T.get t = some (.ptr (some (b, o)))) (hg : h.get b = some (.cells cs k)) (hc : takeN n (cs.drop o) = some us) (hr : Res T h rs vs) : Res T h (.cell t true n :: rs) (.agg us :: vs)
 | c1 {t b o : Nat} {cs : List HV} {u : HV} {k : BK} {rs : List LRes} {vs : List HV} (hv : T.get t = some (.ptr (some (b, o)))) (hg : h.get b = some (.cells cs k)) (hc : cs[o]? = some u) (hr : Res T h rs vs) : Res T h (.cell t false 1 :: rs) (u :: vs)
theorem Res.eq {rs : List LRes} {vs : List HV} (r : Res T h rs vs) : resH ⟨nt, T, ds⟩ ⟨h, nx⟩ rs = some vs := by
 induction r with
 | nil => rfl
 | t hv hr ih => exact res_t (by show (T.get _).getD .undef = _; rw [hv]; rfl) ih
 | c hv hg hc hr ih => exact res_c (by show (T.get _).getD .undef = _; rw [hv]; rfl) hg hc ih
 | @c1 t b o cs u k rs vs hv hg hc hr ih => exact res_c1 (n := 0) (by show (T.get _).getD .undef = _; rw [hv]; rfl) hg hc ih
theorem zJ {n0 : Nat} {h0 : Tr HBlk} {F0 F : PH} {L : List LE} {res : List LRes} {vs : List HV} {v : HV} (st : St n0 h0 F0 F h nx L) (hr : Res T h res vs) (hv : oneOf vs = v) (hw : flatV v = true) : Fin ⟨h0, n0⟩ res (KS v n0 h0) .ret ⟨nt, T, []⟩ ⟨h, nx⟩ :=
 fin_m rfl hr.eq (by
  subst hv
  rw [gc_flat hw]
  exact ⟨rfl, nx, st.ext.le, rfl⟩)
theorem ul {α : Type} {rv : PH → α → HV → Prop} {x : α} {n0 : Nat} {h0 : Tr HBlk} {F0 F : PH} {L : List LE} {res : List LRes} {vs : List HV} (st : St n0 h0 F0 F h nx L) (hr : Res T h res vs) (hv : rv F x (oneOf vs)) : Fim fl res (KR rv F0 h0 n0 x) .ret ⟨nt, T, []⟩ ⟨h, nx⟩ :=
 by unfold Fim; exact ⟨oneOf vs, ⟨h, nx⟩, vG rfl hr.eq, F, st.ext, st.le, st.lo, st.sub, hv⟩
end
end Go.Hx.V

namespace Go.Hx.V
open Go.Hx
theorem RowF.get {α : Type} {rel : Rel α} {sz : Nat} {F : PH} {p : Option (Nat × Nat)} {l : List α} {n c : Nat} {x : α} (hr : RowF rel sz F p c l) (g : l[n]? = some x) : ∃ b o cs k r, p = some (b, o) ∧ F b = some (.cells cs k) ∧ takeN sz (cs.drop (o + n * sz)) = some r ∧ rel F x r := by
 obtain ⟨b, o, cs, k, h1, h2, h3⟩ := hr.2 (fun e => by rw [e] at g; cases g)
 obtain ⟨r, g1, g2⟩ := h3 n x g
 exact ⟨b, o, cs, k, r, h1, h2, g1, g2⟩
theorem RowF.nil {α : Type} {rel : Rel α} {sz c : Nat} {F : PH} {p : Option (Nat × Nat)} : RowF rel sz F p c ([] : List α) := ⟨Nat.zero_le _, fun h => absurd rfl h⟩
theorem LE.get {α : Type} {rel : Rel α} {sz c n0 nx n : Nat} {h : Tr HBlk} {F : PH} {o : Option Nat} {cs : List HV} {l : List α} {x : α} [OkR rel sz] (ho : LE.ok n0 nx h (.ls o c cs sz)) (hr : LR rel sz F l cs) (hz : 0 < sz) (g : l[n]? = some x) : ∃ b cs' k r, (o.map fun b => (b, 0)) = some (b, 0) ∧ h.get b = some (.cells cs' k) ∧ takeN sz (cs'.drop (0 + n * sz)) = some r ∧ rel F x r := by
 obtain ⟨r, g1, g2⟩ := hr.2 n x g
 have hn : n < l.length := by
  rcases Nat.lt_or_ge n l.length with g3 | g3
  ·exact g3
  ·rw [List.getElem?_eq_none g3] at g; cases g
 match o, ho with
 | none, ⟨h1, h2⟩ =>
  subst h1
  have := hr.1
  simp only [List.length_nil] at this
  rcases Nat.mul_eq_zero.1 this.symm with e | e <;> omega
 | some b, ⟨h1, h2, h3⟩ =>
  rcases h3 with ⟨q1, q2⟩ | ⟨rest, q1, q2⟩
  ·exact ⟨b, cs, _, r, rfl, q1, by rw [Nat.zero_add]; exact g1, g2⟩
  ·refine ⟨b, cs ++ rest, _, r, rfl, q1, ?_, g2⟩
   rw [Nat.zero_add, List.drop_append_of_le_length (by rw [hr.1]; exact Nat.mul_le_mul_right _ (by omega))]
   exact vA _ _ _ _ g1
theorem LE.getb {α : Type} {rel : Rel α} {sz c n0 nx n : Nat} {h : Tr HBlk} {F : PH} {o : Option Nat} {cs : List HV} {l : List α} {x : α} [OkR rel sz] (ho : LE.ok n0 nx h (.ls o c cs sz)) (hr : LR rel sz F l cs) (hz : 0 < sz) (g : l[n]? = some x) : ∃ b cs' k r, (o.map fun b => (b, 0)) = some (b, 0) ∧ b < nx ∧ h.get b = some (.cells cs' k) ∧ takeN sz (cs'.drop (0 + n * sz)) = some r ∧ rel F x r := by
 obtain ⟨b, cs', k, r, e, g1, g2, g3⟩ := LE.get ho hr hz g
 refine ⟨b, cs', k, r, e, ?_, g1, g2, g3⟩
 cases o with
 | none => cases e
 | some d => cases e; exact (LE.ok_bd ho (List.mem_singleton.2 rfl)).2
theorem LR.repl {α : Type} {rel : Rel α} {sz : Nat} [OkR rel sz] {F : PH} {x : α} {r : List HV} (h : rel F x r) : ∀ n, LR rel sz F (List.replicate n x) (repl n r)
 | 0 => LR.nil
 | n + 1 => by
  have := (LR.one (rel := rel) h).app (LR.repl h n)
  rw [List.replicate_succ]
  have e : Go.Hx.repl (n + 1) r = r ++ Go.Hx.repl n r := by unfold Go.Hx.repl; rw [List.replicate_succ, List.flatten_cons]
  rw [e]; exact this
def sel {α β γ : Type} (f : α → Option γ) (g : β → Option γ) : α ⊕ β → Option γ
 | .inl x => f x
 | .inr y => g y
theorem yM {α β γ : Type} {f : α → Option γ} {g : β → Option γ} {x : α} {r : γ} (h : sel f g (.inl x) = some r) : f x = some r := h
theorem yL {α β γ : Type} {f : α → Option γ} {g : β → Option γ} {x : β} {r : γ} (h : sel f g (.inr x) = some r) : g x = some r := h
section
variable {lp : Nat → Option zp} {fl : Nat} {rd : Option Nat} {Q : HExit → HAct → HS → Prop} {N : HAct → HS → Prop} {nt d : Nat} {T : Tr HV} {ds : List Nat} {σ : HS} {h : Tr HBlk} {nx : Nat} {os : List zh} {anc : List Nat}
theorem thn {N' : HAct → HS → Prop} {a : HAct} (hn : N' a σ) : thenH N' Q .normal a σ := hn
theorem zk {op : LOp} {dst : Option Nat} {t : Nat} {b w : Bool} (hb : b = w) (hn : R lp fl (⟨dst, op, none, anc⟩ :: os) N ⟨nt, T, ds⟩ σ) (hx : lo T (.t t) = .bool b := by first | exact ev_c | (apply ev_t; repeat first | exact ge_h | refine ge_w rfl ?_ | refine ge_f rfl ?_ | refine ge_m rfl ?_ | assumption)) : R lp fl (⟨dst, op, some (t, w), anc⟩ :: os) N ⟨nt, T, ds⟩ σ := by
 subst hb
 exact r_take hx hn
theorem zf {op : LOp} {t : Nat} {b w : Bool} (hb : b = !w) (hn : R lp fl os N ⟨nt, T.set d (some .undef), ds⟩ σ) (hx : lo T (.t t) = .bool b := by first | exact ev_c | (apply ev_t; repeat first | exact ge_h | refine ge_w rfl ?_ | refine ge_f rfl ?_ | refine ge_m rfl ?_ | assumption)) (hd : Nat.blt d nt = true := by rfl) : R lp fl (⟨some d, op, some (t, w), anc⟩ :: os) N ⟨nt, T, ds⟩ σ := by
 subst hb
 exact r_drop hx (by rw [zP hd]; exact hn)
theorem zK {c x y : Lo} {b : Bool} {v : HV} (hb : b = true) (hn : R lp fl os N ⟨nt, T.set d (some v), ds⟩ σ) (hc : lo T c = .bool b := by first | exact ev_c | (apply ev_t; repeat first | exact ge_h | refine ge_w rfl ?_ | refine ge_f rfl ?_ | refine ge_m rfl ?_ | assumption)) (hx : lo T x = v := by first | exact ev_c | (apply ev_t; repeat first | exact ge_h | refine ge_w rfl ?_ | refine ge_f rfl ?_ | refine ge_m rfl ?_ | assumption)) (hd : Nat.blt d nt = true := by rfl) : R lp fl (⟨some d, .pick c x y, none, anc⟩ :: os) N ⟨nt, T, ds⟩ σ := by
 subst hb
 exact v_pt hn hc hx hd
theorem zI {c x y : Lo} {b : Bool} {v : HV} (hb : b = false) (hn : R lp fl os N ⟨nt, T.set d (some v), ds⟩ σ) (hc : lo T c = .bool b := by first | exact ev_c | (apply ev_t; repeat first | exact ge_h | refine ge_w rfl ?_ | refine ge_f rfl ?_ | refine ge_m rfl ?_ | assumption)) (hx : lo T y = v := by first | exact ev_c | (apply ev_t; repeat first | exact ge_h | refine ge_w rfl ?_ | refine ge_f rfl ?_ | refine ge_m rfl ?_ | assumption)) (hd : Nat.blt d nt = true := by rfl) : R lp fl (⟨some d, .pick c x y, none, anc⟩ :: os) N ⟨nt, T, ds⟩ σ := by
 subst hb
 exact v_pf hn hc hx hd
theorem z9 {size : Nat} {x i : Lo} {p : Option (Nat × Nat)} {b o n c j : Nat} {z : Int} (hp : p = some (b, o)) (hz : z = j) (hj : j < n) (hn : R lp fl os N ⟨nt, T.set d (some (.ptr (some (b, o + j * size)))), ds⟩ σ) (hx : lo T x = .slice p n c := by first | exact ev_c | (apply ev_t; repeat first | exact ge_h | refine ge_w rfl ?_ | refine ge_f rfl ?_ | refine ge_m rfl ?_ | assumption)) (hi : lo T i = i64 z := by first | exact ev_c | (apply ev_t; repeat first | exact ge_h | refine ge_w rfl ?_ | refine ge_f rfl ?_ | refine ge_m rfl ?_ | assumption)) (hd : Nat.blt d nt = true := by rfl) : R lp fl (⟨some d, .indexAddrS size x i, none, anc⟩ :: os) N ⟨nt, T, ds⟩ σ := by
 subst hp
 exact v_ixs hz hj hn hx hi hd
theorem jh {n0 : Nat} {h0 : Tr HBlk} {F0 F : PH} {L : List LE} {s x : Lo} {o : Option Nat} {c k sz n m cx bytes bx ox : Nat} {cs csx row : List HV} {kx : BK} (st : St n0 h0 F0 F h nx L) (i : Nat) (hi : L[i]? = some (.ls o c cs sz)) (hk : cs.length = k * sz) (hg : h.get bx = some (.cells csx kx)) (ht : takeN (n * sz) (csx.drop ox) = some row) (h1 : row.all HV.one = true) (hb : (k + n) * bytes ≤ 35184372088832 ∧ k + n ≤ 35184372088832) (hfl : fl ≤ n0) (hz : 0 < sz) (hn0 : 0 < n) (hm : k + n = m) (hn : ∀ o' c' h' n', St n0 h0 F0 F h' n' (L.set i (.ls o' c' (cs ++ row) sz)) → R lp fl os N ⟨nt, T.set d (some (slv o' m c')), ds⟩ ⟨h', n'⟩) (hs : lo T s = slv o k c := by first | exact ev_c | (apply ev_t; repeat first | exact ge_h | refine ge_w rfl ?_ | refine ge_f rfl ?_ | refine ge_m rfl ?_ | assumption)) (hx : lo T x = .slice (some (bx, ox)) n cx := by first | exact ev_c | (apply ev_t; repeat first | exact ge_h | refine ge_w rfl ?_ | refine ge_f rfl ?_ | refine ge_m rfl ?_ | assumption)) (hd : Nat.blt d nt = true := by rfl) : R lp fl (⟨some d, .append sz bytes s x, none, anc⟩ :: os) N ⟨nt, T, ds⟩ ⟨h, nx⟩ := by
 subst hm
 exact v_app st i hi hk hg ht h1 hb hfl hz hn0 hn hs hx hd
theorem yx : ∀ (vs : List HV) (T : Tr HV) (i j : Nat), (putAll T i vs).get j = if i ≤ j ∧ j < i + vs.length then vs[j - i]? else T.get j
 | [], T, i, j => by rw [if_neg (by simp)]; rfl
 | v :: vs, T, i, j => by
  show (putAll (T.set i (some v)) (i + 1) vs).get j = _
  rw [yx vs _ (i + 1) j]
  by_cases e : i = j
  ·subst e
   rw [if_neg (by omega), if_pos (by simp), Tr.get_set, if_pos rfl]; simp
  ·by_cases g : i + 1 ≤ j ∧ j < i + 1 + vs.length
   ·rw [if_pos g, if_pos ⟨by omega, by simp; omega⟩, show j - i = (j - (i + 1)) + 1 by omega, List.getElem?_cons_succ]
   ·rw [if_neg g, if_neg (by rintro ⟨q1, q2⟩; simp at q2; omega), Tr.get_set, if_neg (fun h => e h.symm)]
theorem yg {f : Nat} {args : List HV} {lf : zp} {K : HV → HS → Prop} {F : PH} (hd : D h nx) (hF : F.sub h) (hf : lp f = some lf) (hs : lf.spec = none) (hi : lf.imp = false) (hl : Nat.ble args.length lf.nt = true)
  (hw : St nx h F F h nx [] → ∀ T, (∀ i v, args[i]? = some v → T.get i = some v) → W lp nx none lf.body (Fin ⟨h, nx⟩ lf.res K) ⟨lf.nt, T, []⟩ ⟨h, nx⟩) : C lp fl f args ⟨h, nx⟩ K :=
 in_c hd hF hf hs hi hl fun st => hw st _ fun i v hv => by
  have hlt : i < args.length := by
   rcases Nat.lt_or_ge i args.length with g | g
   ·exact g
   ·rw [List.getElem?_eq_none g] at hv; cases hv
  rw [yx, if_pos ⟨by omega, by omega⟩]; exact hv
theorem ky {f : Nat} {args : List HV} {lf : zp} {K : HV → HS → Prop} {F : PH} (hd : D h nx) (hF : F.sub h) (hfl : fl ≤ nx) (hf : lp f = some lf) (hs : lf.spec = none) (hi : lf.imp = true) (hl : Nat.ble args.length lf.nt = true)
  (hw : St nx h F F h nx [] → ∀ T, (∀ i v, args[i]? = some v → T.get i = some v) → W lp fl none lf.body (Fim fl lf.res K) ⟨lf.nt, T, []⟩ ⟨h, nx⟩) : C lp fl f args ⟨h, nx⟩ K :=
 in_m hd hF hfl hf hs hi hl fun st _ => hw st _ fun i v hv => by
  have hlt : i < args.length := by
   rcases Nat.lt_or_ge i args.length with g | g
   ·exact g
   ·rw [List.getElem?_eq_none g] at hv; cases hv
  rw [yx, if_pos ⟨by omega, by omega⟩]; exact hv
theorem slf {α : Type} {rel : Rel α} {sz : Nat} {F : PH} {p : Option (Nat × Nat)} {c a b : Nat} {l : List α} {x : HV} {lo hi : Option HV} (hr : RowF rel sz F p c l) (hx : x = .slice p l.length c) (ha : boundH 0 lo = some a) (hb : boundH l.length hi = some b) (h1 : a ≤ b) (h2 : b ≤ l.length) :
  ∃ p' c' n', (match sliceH ⟨h, nx⟩ sz x lo hi with | some v => some (v, (⟨h, nx⟩ : HS)) | none => bif endH x lo hi then some (.slice (some (nx, 0)) 0 0, ⟨h, nx + 1⟩) else none) = some (.slice p' (b - a) c', ⟨h, n'⟩) ∧ nx ≤ n' ∧ RowF rel sz F p' c' ((l.drop a).take (b - a)) := by
 subst hx
 have hc := hr.1
 have hlen : ((l.drop a).take (b - a)).length = b - a := by rw [List.length_take, List.length_drop]; omega
 have sub : ∀ o : Nat, (l ≠ [] → ∃ b' cs k, p = some (b', o) ∧ F b' = some (.cells cs k) ∧ ∀ i x, l[i]? = some x → ∃ r, takeN sz (cs.drop (o + i * sz)) = some r ∧ rel F x r) → ∀ b', p = some (b', o) → (l.drop a).take (b - a) ≠ [] → ∃ b9 o' cs k, (some (b', o + a * sz) : Option (Nat × Nat)) = some (b9, o') ∧ F b9 = some (.cells cs k) ∧ ∀ i x, ((l.drop a).take (b - a))[i]? = some x → ∃ r, takeN sz (cs.drop (o' + i * sz)) = some r ∧ rel F x r := fun o ho b' hp hne => by
  have hl : l ≠ [] := fun e => hne (by rw [e]; simp)
  obtain ⟨b2, cs, k, e1, e2, e3⟩ := ho hl
  rw [hp] at e1; cases e1
  refine ⟨_, _, cs, k, rfl, e2, fun i x hx => ?_⟩
  rw [List.getElem?_take] at hx
  by_cases g : i < b - a
  ·rw [if_pos g, List.getElem?_drop] at hx
   obtain ⟨r, g1, g2⟩ := e3 _ x hx
   exact ⟨r, by rw [show o + a * sz + i * sz = o + (a + i) * sz by rw [Nat.add_mul]; omega]; exact g1, g2⟩
  ·rw [if_neg g] at hx; cases hx
 unfold sliceH
 simp only [ha, hb]
 rw [if_pos ⟨h1, by omega⟩]
 cases hp : p with
 | none =>
  refine ⟨none, c - a, nx, by simp only [cutH], Nat.le_refl _, by rw [hlen]; omega, fun hne => ?_⟩
  have hl : l ≠ [] := fun e => hne (by rw [e]; simp)
  obtain ⟨b2, o2, cs, k, e1, _⟩ := hr.2 hl
  rw [hp] at e1; cases e1
 | some q =>
  obtain ⟨b', o⟩ := q
  by_cases hca : a < c ∨ a = 0
  ·refine ⟨some (b', o + a * sz), c - a, nx, by simp only [cutH, if_pos hca], Nat.le_refl _, by rw [hlen]; omega, fun hne => sub o (fun hl => ?_) b' hp hne⟩
   obtain ⟨b2, o2, cs, k, e1, e2, e3⟩ := hr.2 hl
   rw [hp] at e1; cases e1
   exact ⟨b', cs, k, hp, e2, e3⟩
  ·have hac : a = c := by omega
   have hbc : b = c := by omega
   have hz : b - a = 0 := by omega
   have nil : (l.drop a).take (b - a) = [] := by rw [hz]; rfl
   have e : endH (.slice (some (b', o)) l.length c) lo hi = true := by
    unfold endH
    simp only [ha, hb, hac, hbc, Nat.beq_refl, Bool.and_self]
   have yes : (∃ cs, h.get b' = some (.cells cs .exact)) → ∃ p' c' n', (match cutH ⟨h, nx⟩ sz (some (b', o)) c a b with | some v => some (v, (⟨h, nx⟩ : HS)) | none => bif endH (.slice (some (b', o)) l.length c) lo hi then some (.slice (some (nx, 0)) 0 0, ⟨h, nx + 1⟩) else none) = some (.slice p' (b - a) c', ⟨h, n'⟩) ∧ nx ≤ n' ∧ RowF rel sz F p' c' ((l.drop a).take (b - a)) := fun ⟨cs, hg⟩ => by
    refine ⟨some (b', o), c - a, nx, ?_, Nat.le_refl _, by rw [hlen]; omega, fun hne => absurd nil hne⟩
    simp only [cutH, if_neg hca, hg]
   have no : (cutH ⟨h, nx⟩ sz (some (b', o)) c a b = none) → ∃ p' c' n', (match cutH ⟨h, nx⟩ sz (some (b', o)) c a b with | some v => some (v, (⟨h, nx⟩ : HS)) | none => bif endH (.slice (some (b', o)) l.length c) lo hi then some (.slice (some (nx, 0)) 0 0, ⟨h, nx + 1⟩) else none) = some (.slice p' (b - a) c', ⟨h, n'⟩) ∧ nx ≤ n' ∧ RowF rel sz F p' c' ((l.drop a).take (b - a)) := fun hg => by
    refine ⟨some (nx, 0), 0, nx + 1, ?_, by omega, by rw [hlen]; omega, fun hne => absurd nil hne⟩
    rw [hg]
    simp only [e, cond_true, hz]
   cases hg : h.get b' with
   | none => exact no (by simp only [cutH, if_neg hca, hg])
   | some blk =>
    cases blk with
    | cells cs k =>
     cases k with
     | exact => exact yes ⟨cs, hg⟩
     | ro => exact no (by simp only [cutH, if_neg hca, hg])
     | opn z => exact no (by simp only [cutH, if_neg hca, hg])
    | map _ => exact no (by simp only [cutH, if_neg hca, hg])
    | loop _ => exact no (by simp only [cutH, if_neg hca, hg])
    | marks => exact no (by simp only [cutH, if_neg hca, hg])
theorem v_slf {α : Type} {rel : Rel α} {sz : Nat} {F : PH} {p : Option (Nat × Nat)} {c : Nat} {l : List α} {x : Lo} {lw hw : Option Lo} (a b : Nat) (hr : RowF rel sz F p c l) (ha : boundH 0 (lw.map (HAct.mk nt T ds).ev) = some a) (hb : boundH l.length (hw.map (HAct.mk nt T ds).ev) = some b) (h1 : a ≤ b ∧ b ≤ l.length) {m : Nat} (hm : b - a = m) (hn : ∀ p' c' n', nx ≤ n' → RowF rel sz F p' c' ((l.drop a).take (b - a)) → R lp fl os N ⟨nt, T.set d (some (.slice p' m c')), ds⟩ ⟨h, n'⟩) (hx : lo T x = .slice p l.length c := by first | exact ev_c | (apply ev_t; repeat first | exact ge_h | refine ge_w rfl ?_ | refine ge_f rfl ?_ | refine ge_m rfl ?_ | assumption)) (hd : Nat.blt d nt = true := by rfl) : R lp fl (⟨some d, .sliceS sz x lw hw, none, anc⟩ :: os) N ⟨nt, T, ds⟩ ⟨h, nx⟩ := by
 subst hm
 obtain ⟨p', c', n', e, hle, hr'⟩ := slf (h := h) (nx := nx) hr ((zC (nt := nt) (ds := ds) x).trans hx) ha hb h1.1 h1.2
 exact v_go (σ' := ⟨h, n'⟩) e hd (hn p' c' n' hle hr')
theorem Y3 {k : IntKind} {y : Lo} {z : Int} {n e : Nat} (hy : lo T y = .int k z) (hz : z = n) : boundH e ((some y).map (HAct.mk nt T ds).ev) = some n := by
 show natOf ((HAct.mk nt T ds).ev y) = some n
 rw [zC, hy, hz]; rfl
theorem Y4 {e : Nat} : boundH e ((none : Option Lo).map (HAct.mk nt T ds).ev) = some e := rfl
def lvI : PH → Int → HV → Prop := fun _ x v => v = i64 x
def lvB : PH → Bool → HV → Prop := fun _ x v => v = .bool x
def lvL {α : Type} (rel : Rel α) (sz : Nat) : PH → List α → HV → Prop := fun F l v => ∃ p c, v = .slice p l.length c ∧ RowF rel sz F p c l
def rvA {α : Type} (rel : Rel α) : PH → α → HV → Prop := fun F x v => ∃ r, v = .agg r ∧ rel F x r
def rvT2 {α β : Type} (a : PH → α → HV → Prop) (b : PH → β → HV → Prop) : PH → α × β → HV → Prop := fun F x v => ∃ u w, v = .tuple [u, w] ∧ a F x.1 u ∧ b F x.2 w
inductive Lay (n' : Nat) (h' : Tr HBlk) : Nat → List (Nat × List HV) → Prop where
 | nil {lo : Nat} (hl : lo ≤ n') : Lay n' h' lo []
 | cons {lo b : Nat} {cs : List HV} {E : List (Nat × List HV)} (hb : lo ≤ b) (hg : h'.get b = some (.cells cs .exact)) (hs : Lay n' h' (b + 1) E) : Lay n' h' lo ((b, cs) :: E)
theorem Lay.le {n' lo : Nat} {h' : Tr HBlk} {E : List (Nat × List HV)} (l : Lay n' h' lo E) : lo ≤ n' := by
 induction l with
 | nil h => exact h
 | cons hb hg hs ih => omega
theorem Lay.bd {n' lo : Nat} {h' : Tr HBlk} {E : List (Nat × List HV)} (l : Lay n' h' lo E) : ∀ e ∈ E, lo ≤ e.1 ∧ e.1 < n' ∧ h'.get e.1 = some (.cells e.2 .exact) := by
 induction l with
 | nil h => intro e he; cases he
 | cons hb hg hs ih =>
  have := hs.le
  intro e he
  rcases List.mem_cons.1 he with rfl | he
  ·exact ⟨hb, by show _ < _; omega, hg⟩
  ·have := ih e he; exact ⟨by omega, this.2.1, this.2.2⟩
theorem Lay.pw {n' lo : Nat} {h' : Tr HBlk} {E : List (Nat × List HV)} (l : Lay n' h' lo E) : (E.map fun e => LE.bx e.1 e.2).Pairwise fun e e' => ∀ b, b ∈ e.os → b ∉ e'.os := by
 induction l with
 | nil h => exact List.Pairwise.nil
 | @cons lo b cs E hb hg hs ih =>
  rw [List.map_cons]
  refine List.pairwise_cons.2 ⟨fun z hz c hc h2 => ?_, ih⟩
  obtain ⟨e, he, rfl⟩ := List.mem_map.1 hz
  have := (hs.bd e he).1
  have h3 : c = e.1 := jO h2
  have h4 : c = b := jO hc
  omega
theorem St.laid {n0 n' : Nat} {h0 h' : Tr HBlk} {F0 F : PH} {L : List LE} (st : St n0 h0 F0 F h nx L) (ex : Ext h nx h' n') {E : List (Nat × List HV)} (l : Lay n' h' nx E) : St n0 h0 F0 F h' n' (L ++ E.map fun e => .bx e.1 e.2) := by
 have s1 := st.ext1 ex
 have hne := st.ext.le
 refine ⟨s1.ext, s1.sub, s1.le, s1.lo, fun y hy c hc => ?_, fun y hy => ?_, ?_⟩
 ·rcases List.mem_append.1 hy with h1 | h1
  ·exact s1.off y h1 c hc
  ·obtain ⟨e, he, rfl⟩ := List.mem_map.1 h1
   have := l.bd e he
   rw [jO hc]
   cases e2 : F e.1 with
   | none => rfl
   | some z => have := st.dom e2; omega
 ·rcases List.mem_append.1 hy with h1 | h1
  ·exact s1.own y h1
  ·obtain ⟨e, he, rfl⟩ := List.mem_map.1 h1
   have := l.bd e he
   exact ⟨by omega, this.2.1, this.2.2⟩
 ·refine List.pairwise_append.2 ⟨s1.dist, ?_, fun y hy z hz c hc => ?_⟩
  ·exact l.pw
  ·obtain ⟨e, he, rfl⟩ := List.mem_map.1 hz
   have := l.bd e he
   intro h2
   have h3 : c = e.1 := jO h2
   have := (LE.ok_bd (st.own y hy) hc).2
   omega
theorem v_mk {n0 n : Nat} {h0 : Tr HBlk} {F0 F : PH} {L : List LE} {zero : List HV} {bytes : Nat} {l c : Lo} {zl zc : Int} (st : St n0 h0 F0 F h nx L) (h1 : 0 ≤ zl) (h2 : 0 ≤ zc) (hn' : zl.toNat = n) (h3 : zl.toNat ≤ zc.toNat) (h4 : zc.toNat * bytes ≤ 35184372088832 ∧ zc.toNat ≤ 35184372088832) (hn : ∀ o h' n', St n0 h0 F0 F h' n' (L ++ [.ls o zc.toNat (repl zl.toNat zero) zero.length]) → R lp fl os N ⟨nt, T.set d (some (slv o n zc.toNat)), ds⟩ ⟨h', n'⟩) (hl : lo T l = i64 zl := by first | exact ev_c | (apply ev_t; repeat first | exact ge_h | refine ge_w rfl ?_ | refine ge_f rfl ?_ | refine ge_m rfl ?_ | assumption)) (hc : lo T c = i64 zc := by first | exact ev_c | (apply ev_t; repeat first | exact ge_h | refine ge_w rfl ?_ | refine ge_f rfl ?_ | refine ge_m rfl ?_ | assumption)) (hd : Nat.blt d nt = true := by rfl) : R lp fl (⟨some d, .makeSlice zero bytes l c, none, anc⟩ :: os) N ⟨nt, T, ds⟩ ⟨h, nx⟩ := by
 subst hn'
 exact v_ms st (Int.toNat_of_nonneg h1).symm (Int.toNat_of_nonneg h2).symm h3 h4 hn hl hc hd
theorem kM {z : List HV} (hn : R lp fl os N ⟨nt, T.set d (some (.ptr (some (nx, 0)))), ds⟩ ⟨h.set nx (some (.cells z .exact)), nx + 1⟩) (hd : Nat.blt d nt = true := by rfl) : R lp fl (⟨some d, .alloc z, none, anc⟩ :: os) N ⟨nt, T, ds⟩ ⟨h, nx⟩ :=
 YL (by rw [zP hd]; exact hn)
theorem u_bs {len : Nat} {z cs : List HV} {ps : List (Nat × Nat × Lo)} {vs : List (Nat × Nat × HV)} (hf : fillH (repl len z) vs = some cs) (hn : R lp fl os N ⟨nt, T.set d (some (.slice (some (nx, 0)) len len)), ds⟩ ⟨h.set nx (some (.cells cs .exact)), nx + 1⟩) (hp : Evp T ps vs := by repeat (first | exact Evp.nil | (apply Evp.cons; focus (first | exact ev_c | (apply ev_t; repeat first | exact ge_h | refine ge_w rfl ?_ | refine ge_f rfl ?_ | refine ge_m rfl ?_ | assumption))))) (hd : Nat.blt d nt = true := by rfl) : R lp fl (⟨some d, .buildSlice len z ps, none, anc⟩ :: os) N ⟨nt, T, ds⟩ ⟨h, nx⟩ :=
 r_bs (by rw [hp.map]; exact hf) (by rw [zP hd]; exact hn)
theorem um {f : Lo} {xs : List Lo} {k : Nat} {first captured vs args : List HV} {v : HV} (hc : C lp fl k args ⟨h, nx⟩ (KS v nx h)) (hn : ∀ n', nx ≤ n' → R lp fl os N ⟨nt, T.set d (some v), ds⟩ ⟨h, n'⟩) (hf : lo T f = .func k first captured := by first | exact ev_c | (apply ev_t; repeat first | exact ge_h | refine ge_w rfl ?_ | refine ge_f rfl ?_ | refine ge_m rfl ?_ | assumption)) (he : Evs T xs vs := by repeat (first | exact Evs.nil | (apply Evs.cons; focus (first | exact ev_c | (apply ev_t; repeat first | exact ge_h | refine ge_w rfl ?_ | refine ge_f rfl ?_ | refine ge_m rfl ?_ | assumption))))) (ha : first ++ vs ++ captured = args := by rfl) (hd : Nat.blt d nt = true := by rfl) : R lp fl (⟨some d, .call f xs, none, anc⟩ :: os) N ⟨nt, T, ds⟩ ⟨h, nx⟩ :=
 jr ((zC f).trans hf) (by rw [he.map]; exact ha) hc fun w σ' ⟨e, n, hl, e2⟩ => by subst e; subst e2; rw [zP hd]; exact hn n hl
theorem YF {ty : Nat} {name : String} {off b o : Nat} {rest : List HV} {f : Lo} {xs : List Lo} {k : Nat} {vs : List HV} {v : HV} (hv : viaOf lp k ty name = some off) (hc : C lp fl k (.ptr (some (b, o + off)) :: rest) ⟨h, nx⟩ (KS v nx h)) (hn : ∀ n', nx ≤ n' → R lp fl os N ⟨nt, T.set d (some v), ds⟩ ⟨h, n'⟩) (hf : lo T f = .via ty name k := by first | exact ev_c | (apply ev_t; repeat first | exact ge_h | refine ge_w rfl ?_ | refine ge_f rfl ?_ | refine ge_m rfl ?_ | assumption)) (he : Evs T xs vs := by repeat (first | exact Evs.nil | (apply Evs.cons; focus (first | exact ev_c | (apply ev_t; repeat first | exact ge_h | refine ge_w rfl ?_ | refine ge_f rfl ?_ | refine ge_m rfl ?_ | assumption))))) (ha : vs = .ptr (some (b, o)) :: rest := by rfl) (hd : Nat.blt d nt = true := by rfl) : R lp fl (⟨some d, .call f xs, none, anc⟩ :: os) N ⟨nt, T, ds⟩ ⟨h, nx⟩ :=
 r_via rfl ((zC f).trans hf) hv (by rw [he.map]; exact ha) (hc.mono fun w σ' ⟨e, n, hl, e2⟩ => by subst e; subst e2; rw [zP hd]; exact hn n hl)
variable {h1 : Tr HBlk} {s n1 i : Nat} {done : List (Nat × List (Nat × HBlk))} {V : List (Nat × PH)} {T' : Tr HV}
theorem zu : R lp fl [] (fun a σ' => a = ⟨nt, T, ds⟩ ∧ σ' = σ) ⟨nt, T, ds⟩ σ := zb ⟨rfl, rfl⟩
theorem zB {o : zh} (hd : D h1 n1) (dw : Dw n1 nx h1 done V) (h2 : ∀ hm, Vw n1 nx h1 hm o.anc V → R lp (max fl nx) [o] (fun a σ => a = ⟨nt, T', ds⟩ ∧ σ = ⟨hm, nx⟩) ⟨nt, T, ds⟩ ⟨hm, nx⟩) (hr : DG lp fl s n1 h1 os (i + 1) done N ⟨nt, T', ds⟩ nx) (hi : Nat.blt i s = true := by rfl) (hw : o.anc.contains i = false := by rfl) : DG lp fl s n1 h1 (o :: os) i done N ⟨nt, T, ds⟩ nx :=
 jw hd dw hi hw fun hm vw => by
  obtain ⟨n, a, σ, e, rfl, rfl⟩ := h2 hm vw
  exact ⟨n, _, _, e, y_same hr⟩
theorem vy {o : zh} (hd : D h1 n1) (dw : Dw n1 nx h1 done V) (h2 : ∀ hm, Vw n1 nx h1 hm o.anc V → R lp (max fl nx) [o] (fun a σ => a = ⟨nt, T', ds⟩ ∧ ∃ n, nx ≤ n ∧ σ = ⟨hm, n⟩) ⟨nt, T, ds⟩ ⟨hm, nx⟩) (hr : ∀ n, nx ≤ n → Dw n1 n h1 done V → DG lp fl s n1 h1 os (i + 1) done N ⟨nt, T', ds⟩ n) (hi : Nat.blt i s = true := by rfl) (hw : o.anc.contains i = false := by rfl) : DG lp fl s n1 h1 (o :: os) i done N ⟨nt, T, ds⟩ nx :=
 jw hd dw hi hw fun hm vw => by
  obtain ⟨n, a, σ, e, rfl, m, hm2, rfl⟩ := h2 hm vw
  exact ⟨n, _, _, e, XP dw hm2 vw.d (hr m hm2)⟩
theorem vC {n : Nat} (hn : nx ≤ n) : R lp fl [] (fun a σ' => a = ⟨nt, T, ds⟩ ∧ ∃ n, nx ≤ n ∧ σ' = ⟨h, n⟩) ⟨nt, T, ds⟩ ⟨h, n⟩ := zb ⟨rfl, n, hn, rfl⟩
theorem km {o : zh} {x : HBlk} (hd : D h1 n1) (dw : Dw n1 nx h1 done V) (h2 : ∀ hm, Vw n1 nx h1 hm o.anc V → R lp (max fl nx) [o] (fun a σ => a = ⟨nt, T', ds⟩ ∧ σ = ⟨hm.set nx (some x), nx + 1⟩) ⟨nt, T, ds⟩ ⟨hm, nx⟩) (hr : ∀ done', Dw n1 (nx + 1) h1 done' ((i, one nx x) :: V) → DG lp fl s n1 h1 os (i + 1) done' N ⟨nt, T', ds⟩ (nx + 1)) (hi : Nat.blt i s = true := by rfl) (hw : o.anc.contains i = false := by rfl) : DG lp fl s n1 h1 (o :: os) i done N ⟨nt, T, ds⟩ nx :=
 jw hd dw hi hw fun hm vw => by
  obtain ⟨n, a, σ, e, rfl, rfl⟩ := h2 hm vw
  exact ⟨n, _, _, e, y_new dw hr⟩
theorem Vw.bx {n0 : Nat} {b : Nat} {cs : List HV} {hm : Tr HBlk} {A : List Nat} (vw : Vw n1 nx h1 hm A V) (ho : LE.ok n0 n1 h1 (.bx b cs)) : hm.get b = some (.cells cs .exact) := (vw.low b ho.2.1).trans ho.2.2
theorem Vw.fz {n0 : Nat} {h0 : Tr HBlk} {F0 F : PH} {L : List LE} {hm : Tr HBlk} {A : List Nat} (vw : Vw n1 nx h1 hm A V) (st : St n0 h0 F0 F h1 n1 L) {b : Nat} {x : HBlk} (hb : F b = some x) : hm.get b = some x := (vw.low b (st.dom hb)).trans (st.sub b x hb)
theorem Vw.sub {n0 : Nat} {h0 : Tr HBlk} {F0 F : PH} {L : List LE} {hm : Tr HBlk} {A : List Nat} (vw : Vw n1 nx h1 hm A V) (st : St n0 h0 F0 F h1 n1 L) : F.sub hm := fun b x hb => vw.fz st hb
end
end Go.Hx.V

namespace Go.Hx.V
open Go.Hx
def FF (F : PH) (W : List (Nat × PH)) (f : Nat → Bool) : PH := fun b =>
 match F b with
 | some x => some x
 | none => W.findSome? fun e => if f e.1 then e.2 b else none
structure Wf (F : PH) (n1 : Nat) (V W : List (Nat × PH)) : Prop where
 sub : W.Sublist V
 dom : ∀ b x, F b = some x → b < n1
section
variable {lp : Nat → Option zp} {fl : Nat} {rd : Option Nat} {Q : HExit → HAct → HS → Prop} {N : HAct → HS → Prop} {nt d : Nat} {T : Tr HV} {ds : List Nat} {os : List zh}
variable {h1 hm h0 : Tr HBlk} {nx s n1 n0 i : Nat} {done : List (Nat × List (Nat × HBlk))} {V W : List (Nat × PH)} {F F0 : PH} {L : List LE}
theorem Wf.start (st : St n0 h0 F0 F h1 n1 L) : Wf F n1 [] [] := ⟨List.Sublist.refl _, fun b x hx => st.dom hx⟩
theorem FF.base {f : Nat → Bool} : PH.le F (FF F W f) := fun b x hx => by unfold FF; rw [hx]
theorem FF.inv {f : Nat → Bool} {b : Nat} {x : HBlk} (h : FF F W f b = some x) : F b = some x ∨ ∃ e ∈ W, f e.1 = true ∧ e.2 b = some x := by
 unfold FF at h
 cases hF : F b with
 | some y => rw [hF] at h; exact .inl h
 | none =>
  rw [hF] at h
  obtain ⟨e, he, h2⟩ := List.exists_of_findSome?_eq_some h
  by_cases hf : f e.1 = true
  ·rw [if_pos hf] at h2; exact .inr ⟨e, he, hf, h2⟩
  ·rw [if_neg hf] at h2; cases h2
theorem FF.sub (wf : Wf F n1 V W) (st : St n0 h0 F0 F h1 n1 L) {A : List Nat} (vw : Vw n1 nx h1 hm A V) : PH.sub (FF F W A.contains) hm := fun b x hx => by
 rcases FF.inv hx with h2 | ⟨e, he, hf, h2⟩
 ·exact vw.fz st h2
 ·exact vw.vis e (wf.sub.mem he) hf b x h2
theorem Dw.not (dw : Dw n1 nx h1 done V) {j k b : Nat} {x : HBlk} {G : PH} (hs : [(j, one b x), (k, G)].Sublist V ∨ [(k, G), (j, one b x)].Sublist V) : G b = none := by
 have e : one b x b = some x := if_pos rfl
 rcases hs with h | h
 ·have p := dw.dis.sublist h
  exact (List.pairwise_cons.1 p).1 _ (List.mem_cons_self ..) b x e
 ·have p := dw.dis.sublist h
  cases hG : G b with
  | none => rfl
  | some y =>
   have := (List.pairwise_cons.1 p).1 _ (List.mem_cons_self ..) b y hG
   have t2 : one b x b = none := this
   rw [e] at t2; cases t2
theorem St.asL (st : St n0 h0 F0 F h1 nx L) (i : Nat) {b n sz : Nat} {cs : List HV} (hi : L[i]? = some (.bx b cs)) (hl : cs.length = n * sz) : St n0 h0 F0 F h1 nx (L.set i (.ls (some b) n cs sz)) := by
 obtain ⟨b1, b2, b3⟩ := st.at hi
 have s := st.swap (e' := .ls (some b) n cs sz) hi (h' := h1) (n' := nx) (Nat.le_refl _) st.d (fun _ _ _ => rfl) (fun c hc => .inl hc) ⟨b1, b2, .inr ⟨[], by rw [List.append_nil]; exact b3, by rw [List.append_nil]; exact hl⟩⟩
 exact s
theorem RowF.cells {α : Type} {rel : Rel α} {sz : Nat} [OkR rel sz] {p : Option (Nat × Nat)} {c : Nat} {l : List α} (hr : RowF rel sz F p c l) : ∃ row, LR rel sz F l row ∧ (l ≠ [] → ∃ b o cs k, p = some (b, o) ∧ F b = some (.cells cs k) ∧ takeN (l.length * sz) (cs.drop o) = some row) := by
 by_cases hne : l = []
 ·subst hne; exact ⟨[], LR.nil, fun h => absurd rfl h⟩
 obtain ⟨b, o, cs, k, h1, h2, h3⟩ := hr.2 hne
 have key : ∀ (m : List α) (cs : List HV), (∀ i x, m[i]? = some x → ∃ r, takeN sz (cs.drop (i * sz)) = some r ∧ rel F x r) → ∃ row, LR rel sz F m row ∧ takeN (m.length * sz) cs = some row := fun m => by
  induction m with
  | nil => intro cs h; exact ⟨[], LR.nil, by simp; cases cs <;> rfl⟩
  | cons x m ih =>
   intro cs h
   obtain ⟨r, g1, g2⟩ := h 0 x rfl
   rw [Nat.zero_mul, List.drop_zero] at g1
   obtain ⟨row, q1, q2⟩ := ih (cs.drop sz) fun i y hy => by
    obtain ⟨r, g3, g4⟩ := h (i + 1) y hy
    refine ⟨r, ?_, g4⟩
    rw [List.drop_drop, show sz + i * sz = (i + 1) * sz by rw [Nat.add_mul]; omega]
    exact g3
   refine ⟨r ++ row, (LR.one g2).app q1, ?_⟩
   rw [List.length_cons, show (m.length + 1) * sz = sz + m.length * sz by rw [Nat.add_mul]; omega]
   exact jC _ _ _ _ _ g1 q2
 obtain ⟨row, q1, q2⟩ := key l (cs.drop o) fun i x hx => by
  obtain ⟨r, g1, g2⟩ := h3 i x hx
  exact ⟨r, by rw [List.drop_drop]; exact g1, g2⟩
 exact ⟨row, q1, fun _ => ⟨b, o, cs, k, h1, h2, q2⟩⟩
theorem v_apr {α : Type} {rel : Rel α} {s' x : Lo} {o : Option Nat} {p : Option (Nat × Nat)} {c sz m cx bytes : Nat} {cs : List HV} {l k : List α} {anc : List Nat} [OkR rel sz] (st : St n0 h0 F0 F h1 nx L) (i : Nat) (hi : L[i]? = some (.ls o c cs sz)) (hk : LR rel sz F k cs) (hr : RowF rel sz F p cx l) (hb : (k.length + l.length) * bytes ≤ 35184372088832 ∧ k.length + l.length ≤ 35184372088832) (hfl : fl ≤ n0) (hz : 0 < sz) (hm : k.length + l.length = m)
  (hn : ∀ o' c' cs' h' n', St n0 h0 F0 F h' n' (L.set i (.ls o' c' cs' sz)) → LR rel sz F (k ++ l) cs' → R lp fl os N ⟨nt, T.set d (some (slv o' m c')), ds⟩ ⟨h', n'⟩)
  (hs : lo T s' = slv o k.length c := by first | exact ev_c | (apply ev_t; repeat first | exact ge_h | refine ge_w rfl ?_ | refine ge_f rfl ?_ | refine ge_m rfl ?_ | assumption)) (hx : lo T x = .slice p l.length cx := by first | exact ev_c | (apply ev_t; repeat first | exact ge_h | refine ge_w rfl ?_ | refine ge_f rfl ?_ | refine ge_m rfl ?_ | assumption)) (hd : Nat.blt d nt = true := by rfl) : R lp fl (⟨some d, .append sz bytes s' x, none, anc⟩ :: os) N ⟨nt, T, ds⟩ ⟨h1, nx⟩ := by
 subst hm
 obtain ⟨row, q1, q2⟩ := RowF.cells hr
 by_cases hne : l = []
 ·subst hne
  have e := St.append0 (fl := fl) (bytes := bytes) (px := p) (cx := cx) (p := none) st hi hk.1 hz
  refine Xk ((zC s').trans hs) ((zC x).trans hx) e ?_
  rw [zP hd]
  have hL : L.set i (.ls o c cs sz) = L := by
   have hil : i < L.length := by
    rcases Nat.lt_or_ge i L.length with g | g
    ·exact g
    ·rw [List.getElem?_eq_none g] at hi; cases hi
   rw [List.getElem?_eq_getElem hil] at hi
   rw [← Option.some.inj hi, List.set_getElem_self]
  have := hn o c cs h1 nx (by rw [hL]; exact st) (by rw [List.append_nil]; exact hk)
  exact this
 ·obtain ⟨b, oo, csx, kx, rfl, g1, g2⟩ := q2 hne
  obtain ⟨o', c', h', n', e, s2⟩ := st.append i hi hk.1 hz hfl (st.sub _ _ g1) g2 (LR.all1 q1) (List.length_pos_iff.2 hne) hb.1 hb.2 (cx := cx)
  exact Xk ((zC s').trans hs) ((zC x).trans hx) e (by rw [zP hd]; exact hn _ _ _ _ _ s2 (hk.app q1))
end
end Go.Hx.V

namespace Go.Hx.V
open Go.Hx
section
variable {lp : Nat → Option zp} {fl : Nat} {rd : Option Nat} {Q : HExit → HAct → HS → Prop} {N : HAct → HS → Prop} {nt d : Nat} {T : Tr HV} {ds : List Nat} {os : List zh} {σ : HS} {anc : List Nat}
variable {h h0 : Tr HBlk} {nx n0 : Nat} {F F0 : PH} {L : List LE}
theorem yt {x y : ze} (p : Tr HV → List Nat → Tr HBlk → Nat → Prop) (h1 : W lp fl rd x (thenH (fun a σ => a.nt = nt ∧ p a.tmps a.defers σ.h σ.nx) Q) ⟨nt, T, ds⟩ σ) (h2 : ∀ T ds h nx, p T ds h nx → W lp fl rd y Q ⟨nt, T, ds⟩ ⟨h, nx⟩) : W lp fl rd (.seq x y) Q ⟨nt, T, ds⟩ σ := by
 refine zd (h1.mono fun e a σ hq => ?_)
 cases e with
 | normal =>
  obtain ⟨e1, hp⟩ := hq
  obtain ⟨n, t, df⟩ := a
  obtain ⟨h, nx⟩ := σ
  cases e1
  exact h2 t df h nx hp
 | exit i => exact hq
 | ret => exact hq
theorem zW {α β : Type} {B : ze} (step : α → Option (α ⊕ β)) (p : α → Tr HV → List Nat → Tr HBlk → Nat → Prop) (Qy : β → HExit → HAct → HS → Prop)
  (hB : ∀ x T ds h nx s, p x T ds h nx → step x = some s → W lp fl rd B (thenH (fun a σ => ∃ x', s = .inl x' ∧ a.nt = nt ∧ p x' a.tmps a.defers σ.h σ.nx) (fun e a σ => ∃ y, s = .inr y ∧ Qy y e a σ)) ⟨nt, T, ds⟩ ⟨h, nx⟩) :
  ∀ (m : Nat) (x : α) (y : β) (T : Tr HV) (ds : List Nat) (h : Tr HBlk) (nx : Nat), iter step m x = some y → p x T ds h nx → (∀ e a σ, e ≠ .normal → Qy y e a σ → Q e a σ) → W lp fl rd (.loop B) Q ⟨nt, T, ds⟩ ⟨h, nx⟩
 | 0, x, y, T, ds, h, nx, hi, hp, hq => by cases hi
 | m + 1, x, y, T, ds, h, nx, hi, hp, hq => by
  obtain ⟨s, hs, hi⟩ := Option.bind_eq_some_iff.1 hi
  refine w_iter ((hB x T ds h nx s hp hs).mono fun e a σ h1 => ?_)
  cases e with
  | normal =>
   obtain ⟨x', rfl, e1, hp'⟩ := h1
   obtain ⟨n, t, df⟩ := a
   obtain ⟨g, n1⟩ := σ
   have e1' : nt = n := e1.symm
   subst e1'
   exact zW step p Qy hB m x' y t df g n1 hi hp' hq
  | exit i =>
   obtain ⟨y', rfl, h2⟩ := h1
   cases hi
   exact hq _ _ _ (fun e => by cases e) h2
  | ret =>
   obtain ⟨y', rfl, h2⟩ := h1
   cases hi
   exact hq _ _ _ (fun e => by cases e) h2
theorem St.mk0 (st : St n0 h0 F0 F h nx L) : St n0 h0 F0 F h nx (L ++ [.mks []]) :=
 st.push (b := 0) (Ext.refl st.d) (fun c hc => by cases hc) ⟨List.nodup_nil, fun b hb => by cases hb⟩
theorem St.mark (st : St n0 h0 F0 F h nx L) (i : Nat) (hi : L[i]? = some (.mks ds)) : St n0 h0 F0 F (h.set nx (some .marks)) (nx + 1) (L.set i (.mks (nx :: ds))) := by
 have hne := st.ext.le
 obtain ⟨g1, g2⟩ := st.at hi
 refine st.swap hi (by omega) (st.d.put (by omega) (by omega)) (fun b hb _ => z7 _ _ (by omega)) (fun c hc => ?_) ⟨List.nodup_cons.2 ⟨fun hm => ?_, g1⟩, fun b hb => ?_⟩
 ·rcases List.mem_cons.1 hc with rfl | h2
  ·exact .inr ⟨by omega, by omega⟩
  ·exact .inl h2
 ·have := (g2 nx hm).2.1; omega
 ·rcases List.mem_cons.1 hb with rfl | h2
  ·exact ⟨by omega, by omega, z8 _ _ _⟩
  ·obtain ⟨q1, q2, q3⟩ := g2 b h2
   exact ⟨q1, by omega, by rw [z7 _ _ (by omega)]; exact q3⟩
theorem St.pushA (st : St n0 h0 F0 F h nx L) (x : HBlk) : St n0 h0 F0 F (h.set nx (some x)) (nx + 1) (L ++ [.any nx x]) := by
 have hn := st.ext.le
 exact st.push (b := nx) (Ext.set st.d (by omega) (by omega) (by omega)) (fun c hc => by rw [X8 hc]; omega) ⟨by omega, by omega, z8 _ _ _⟩
theorem St.setA (st : St n0 h0 F0 F h nx L) (i : Nat) {b : Nat} {x : HBlk} (hi : L[i]? = some (.any b x)) (y : HBlk) : St n0 h0 F0 F (h.set b (some y)) nx (L.set i (.any b y)) := by
 obtain ⟨h1, h2, h3⟩ := st.at hi
 exact st.swap hi (Nat.le_refl _) (st.d.upd h2) (fun c hc hne => z7 _ _ fun e => hne (List.mem_singleton.2 e)) (fun c hc => .inl hc) ⟨h1, h2, z8 _ _ _⟩
def RK (fl l : Nat) (Q : HExit → HAct → HS → Prop) (a : HAct) : HV → HS → Prop := fun _ σ' =>
 ∃ r, σ'.h.get l = some (.loop r) ∧ r.state ≠ .busy ∧ fl ≤ l ∧ Q r.pending a ⟨σ'.h.set l (some (.loop { r with state := .exhausted })), σ'.nx⟩
theorem w_rangeV {f : Lo} {ps : List Nat} {assign body : ze} {g : Nat} {first captured : List HV} {lf : zp} (st : St n0 h0 F0 F h nx L) (i : Nat) (hi : L[i]? = some (.mks ds)) (hfl : fl ≤ n0) (hk : lp g = some lf) (hs : lf.spec = none) (him : lf.imp = true) (hl : ∀ l, Nat.ble (first ++ [HV.yield l] ++ captured).length lf.nt = true)
  (hw : ∀ m l r0 T' h' n', r0.state = .ready → r0.pending = .normal → r0.nt = nt → r0.tmps = T → r0.params = ps → r0.assign = assign → r0.body = body → St n0 h0 F0 F h' n' (L.set i (.mks (m :: ds)) ++ [.any l (.loop r0)]) →
   (∀ j v, (first ++ [HV.yield l] ++ captured)[j]? = some v → T'.get j = some v) → W lp fl none lf.body (Fim fl lf.res (RK fl l Q ⟨nt, T, m :: ds⟩)) ⟨lf.nt, T', []⟩ ⟨h', n'⟩)
  (hf : lo T f = .func g first captured := by first | exact ev_c | (apply ev_t; repeat first | exact ge_h | refine ge_w rfl ?_ | refine ge_f rfl ?_ | refine ge_m rfl ?_ | assumption)) : W lp fl none (.rangeFunc f ps assign body) Q ⟨nt, T, ds⟩ ⟨h, nx⟩ := by
 have s1 := st.mark i hi
 have s2 := s1.pushA (.loop ⟨.ready, .normal, nt, T, ps, assign, body, nx⟩)
 have hn := st.ext.le
 refine w_range (K := RK fl (nx + 1) Q ⟨nt, T, nx :: ds⟩) ((zC f).trans hf) ?_ fun v σ' hq => hq
 refine c_im hk hs him (hl _) ?_
 refine hw nx (nx + 1) _ (putAll .e 0 (first ++ [HV.yield (nx + 1)] ++ captured)) _ _ rfl rfl rfl rfl rfl rfl rfl s2 fun j v hv => ?_
 have hlt : j < (first ++ [HV.yield (nx + 1)] ++ captured).length := by
  rcases Nat.lt_or_ge j (first ++ [HV.yield (nx + 1)] ++ captured).length with g | g
  ·exact g
  ·rw [List.getElem?_eq_none g] at hv; cases hv
 rw [yx, if_pos ⟨by omega, by omega⟩]; exact hv
theorem kq {l : Nat} {r : HLoop} {nt' : Nat} {T' : Tr HV} {e e' : HExit} {a : HAct} (st : St n0 h0 F0 F h nx L) (j : Nat) (hj : L[j]? = some (.any l (.loop r))) (hb : r.state ≠ .busy) (he : r.pending = e') (hfl : fl ≤ n0) (hr : e = .ret ∨ e = .normal)
  (hq : ∀ h', St n0 h0 F0 F h' nx (L.set j (.any l (.loop { r with state := .exhausted }))) → Q e' a ⟨h', nx⟩) : Fim fl [] (RK fl l Q a) e ⟨nt', T', []⟩ ⟨h, nx⟩ := by
 subst he
 obtain ⟨g1, g2, g3⟩ := st.at hj
 have key : ∃ v σ'', leaveH fl ⟨nt', T', []⟩ [] (⟨h, nx⟩ : HS) = some (v, σ'') ∧ RK fl l Q a v σ'' :=
  ⟨_, _, vG rfl rfl, r, g3, hb, by omega, hq _ (st.setA j hj _)⟩
 rcases hr with rfl | rfl <;> unfold Fim <;> exact key
theorem v_yield {f : Lo} {xs ps : List _} {l ntc : Nat} {r0 : HLoop} {args : List HV} {Tc tmps : Tr HV} {asg body : ze} (st : St n0 h0 F0 F h nx L) (j : Nat) (hj : L[j]? = some (.any l (.loop r0))) (en : r0.nt = ntc) (eT : r0.tmps = Tc) (ep : r0.params = ps) (ea : r0.assign = asg) (eb : r0.body = body)
  (hw : zipPut ntc Tc ps args = some tmps → W lp fl (some l) asg (YA lp fl l body os N ⟨nt, T, ds⟩ (some d)) ⟨ntc, tmps, []⟩ ⟨h, nx⟩) (hz : zipPut ntc Tc ps args = some tmps)
  (hf : lo T f = .yield l := by first | exact ev_c | (apply ev_t; repeat first | exact ge_h | refine ge_w rfl ?_ | refine ge_f rfl ?_ | refine ge_m rfl ?_ | assumption))
  (he : Evs T xs args := by repeat (first | exact Evs.nil | (apply Evs.cons; focus (first | exact ev_c | (apply ev_t; repeat first | exact ge_h | refine ge_w rfl ?_ | refine ge_f rfl ?_ | refine ge_m rfl ?_ | assumption))))) : R lp fl (⟨some d, .call f xs, none, anc⟩ :: os) N ⟨nt, T, ds⟩ ⟨h, nx⟩ := by
 subst en; subst eT; subst ep; subst ea; subst eb
 exact r_yield ((zC f).trans hf) he.map (st.at hj).2.2 hz (hw hz)
theorem ya_n {l ntc : Nat} {r0 : HLoop} {body : ze} {a : HAct} {dst : Option Nat} (st : St n0 h0 F0 F h nx L) (j : Nat) (hj : L[j]? = some (.any l (.loop r0))) (hst : r0.state = .ready) (hfl : fl ≤ n0) (hw : ∀ h', St n0 h0 F0 F h' nx (L.set j (.any l (.loop { r0 with state := .busy }))) → W lp fl (some l) body (YB lp fl l os N a dst) ⟨ntc, T, ds⟩ ⟨h', nx⟩) : YA lp fl l body os N a dst .normal ⟨ntc, T, ds⟩ ⟨h, nx⟩ := by
 obtain ⟨g1, g2, g3⟩ := st.at hj
 exact ⟨rfl, r0, g3, hst, by omega, hw _ (st.setA j hj _)⟩
theorem yb_n {l : Nat} {r0 : HLoop} {a : HAct} (st : St n0 h0 F0 F h nx L) (j : Nat) (hj : L[j]? = some (.any l (.loop { r0 with state := .busy }))) (hst : r0.state = .ready) (hp : r0.pending = .normal) (hr : ∀ h', St n0 h0 F0 F h' nx (L.set j (.any l (.loop r0))) → R lp fl os N ⟨nt, T.set d (some (.bool true)), ds⟩ ⟨h', nx⟩) (hd : Nat.blt d nt = true := by rfl) : YB lp fl l os N ⟨nt, T, ds⟩ (some d) .normal a ⟨h, nx⟩ := by
 obtain ⟨g1, g2, g3⟩ := st.at hj
 refine ⟨_, g3, fun _ => ?_, fun h => absurd rfl h⟩
 have s2 := st.setA j hj (.loop { r0 with state := .ready, pending := .normal })
 have e : ({ r0 with state := .ready, pending := .normal } : HLoop) = r0 := by
  obtain ⟨a1, a2, a3, a4, a5, a6, a7, a8⟩ := r0
  cases hst; cases hp; rfl
 rw [zP hd]
 have h3 : (h.set l (some (.loop { r0 with state := .ready, pending := .normal })) : Tr HBlk) = h.set l (some (.loop r0)) := by rw [e]
 rw [e] at s2
 have := hr _ s2
 show R lp fl os N _ ⟨h.set l (some (.loop { ({ r0 with state := .busy } : HLoop) with state := .ready, pending := .normal })), nx⟩
 exact h3 ▸ this
theorem yb_e {l : Nat} {r0 : HLoop} {a : HAct} {e : HExit} (st : St n0 h0 F0 F h nx L) (j : Nat) (hj : L[j]? = some (.any l (.loop { r0 with state := .busy }))) (hne : e ≠ .normal) (hr : ∀ h', St n0 h0 F0 F h' nx (L.set j (.any l (.loop { r0 with state := .done, pending := e }))) → R lp fl os N ⟨nt, T.set d (some (.bool false)), ds⟩ ⟨h', nx⟩) (hd : Nat.blt d nt = true := by rfl) : YB lp fl l os N ⟨nt, T, ds⟩ (some d) e a ⟨h, nx⟩ := by
 obtain ⟨g1, g2, g3⟩ := st.at hj
 refine ⟨_, g3, fun h => absurd h hne, fun _ => ?_⟩
 rw [zP hd]
 exact hr _ (st.setA j hj _)
def IK (lp : Nat → Option zp) (fl : Nat) (os : List zh) (N : HAct → HS → Prop) (nt d : Nat) (T : Tr HV) (ds : List Nat) : HV → HS → Prop := fun v σ' => R lp fl os N ⟨nt, T.set d (some v), ds⟩ σ'
theorem Yz {f : Lo} {xs : List Lo} {k : Nat} {first captured vs args : List HV} {lf : zp} (hk : lp k = some lf) (hs : lf.spec = none) (him : lf.imp = true)
  (hw : ∀ T', (∀ j v, args[j]? = some v → T'.get j = some v) → W lp fl none lf.body (Fim fl lf.res (IK lp fl os N nt d T ds)) ⟨lf.nt, T', []⟩ σ)
  (hf : lo T f = .func k first captured := by first | exact ev_c | (apply ev_t; repeat first | exact ge_h | refine ge_w rfl ?_ | refine ge_f rfl ?_ | refine ge_m rfl ?_ | assumption))
  (he : Evs T xs vs := by repeat (first | exact Evs.nil | (apply Evs.cons; focus (first | exact ev_c | (apply ev_t; repeat first | exact ge_h | refine ge_w rfl ?_ | refine ge_f rfl ?_ | refine ge_m rfl ?_ | assumption)))))
  (ha : first ++ vs ++ captured = args := by rfl) (hl : Nat.ble args.length lf.nt = true := by rfl) (hd : Nat.blt d nt = true := by rfl) : R lp fl (⟨some d, .call f xs, none, anc⟩ :: os) N ⟨nt, T, ds⟩ σ :=
 jr ((zC f).trans hf) (by rw [he.map]; exact ha) (c_im hk hs him hl (hw _ fun j v hv => by
  have hlt : j < args.length := by
   rcases Nat.lt_or_ge j args.length with g | g
   ·exact g
   ·rw [List.getElem?_eq_none g] at hv; cases hv
  rw [yx, if_pos ⟨by omega, by omega⟩]; exact hv)) fun v σ' h => by rw [zP hd]; exact h
theorem vn {res : List LRes} {vs : List HV} {v : HV} {nt' : Nat} {T' : Tr HV} {e : HExit} {K : HV → HS → Prop} (hr : Res T' h res vs) (hv : oneOf vs = v) (he : e = .ret ∨ e = .normal) (hk : K v ⟨h, nx⟩) : Fim fl res K e ⟨nt', T', []⟩ ⟨h, nx⟩ := by
 subst hv
 have key : ∃ v σ'', leaveH fl ⟨nt', T', []⟩ res (⟨h, nx⟩ : HS) = some (v, σ'') ∧ K v σ'' := ⟨oneOf vs, ⟨h, nx⟩, vG rfl hr.eq, hk⟩
 rcases he with rfl | rfl <;> unfold Fim <;> exact key
theorem ik {v : HV} (hr : R lp fl os N ⟨nt, T.set d (some v), ds⟩ ⟨h, nx⟩) : IK lp fl os N nt d T ds v ⟨h, nx⟩ := hr
theorem St.unmark (i : Nat) (hfl : fl ≤ n0) : ∀ (ds : List Nat) (h : Tr HBlk) (L : List LE), St n0 h0 F0 F h nx L → L[i]? = some (.mks ds) → ∃ h2, takeMarks fl ds ⟨h, nx⟩ = some ⟨h2, nx⟩ ∧ St n0 h0 F0 F h2 nx (L.set i (.mks []))
 | [], h, L, st, hi => ⟨h, rfl, by
  have hil : i < L.length := by
   rcases Nat.lt_or_ge i L.length with g | g
   ·exact g
   ·rw [List.getElem?_eq_none g] at hi; cases hi
  have e : L.set i (.mks []) = L := by
   rw [List.getElem?_eq_getElem hil] at hi
   rw [← Option.some.inj hi, List.set_getElem_self]
  rw [e]; exact st⟩
 | m :: ds, h, L, st, hi => by
  obtain ⟨g1, g2⟩ := st.at hi
  obtain ⟨q1, q2, q3⟩ := g2 m (List.mem_cons_self ..)
  have hnd := List.nodup_cons.1 g1
  have s2 : St n0 h0 F0 F (h.set m none) nx (L.set i (.mks ds)) := by
   refine st.swap hi (Nat.le_refl _) (st.d.upd q2) (fun b hb hne => z7 _ _ fun e => hne (by rw [e]; exact List.mem_cons_self ..)) (fun c hc => .inl (List.mem_cons_of_mem _ hc)) ⟨hnd.2, fun b hb => ?_⟩
   obtain ⟨w1, w2, w3⟩ := g2 b (List.mem_cons_of_mem _ hb)
   exact ⟨w1, w2, by rw [z7 _ _ (fun e => hnd.1 (by rw [← e]; exact hb))]; exact w3⟩
  have hil : i < L.length := by
   rcases Nat.lt_or_ge i L.length with g | g
   ·exact g
   ·rw [List.getElem?_eq_none g] at hi; cases hi
  obtain ⟨h2, e1, e2⟩ := St.unmark i hfl ds (h.set m none) (L.set i (.mks ds)) s2 (by rw [List.getElem?_set_self hil])
  refine ⟨h2, ?_, by rw [List.set_set] at e2; exact e2⟩
  unfold takeMarks
  have b : Nat.ble fl m = true := yh (by omega)
  simp only [q3, b, cond_true]
  exact e1
theorem end_rM {α : Type} {rv : PH → α → HV → Prop} {x : α} {res : List LRes} {e : HExit} (st : St n0 h0 F0 F h nx L) (i : Nat) (hi : L[i]? = some (.mks ds)) (hfl : fl ≤ n0) (he : e = .ret ∨ e = .normal) (vs : List HV) (hr : ∀ h, St n0 h0 F0 F h nx (L.set i (.mks [])) → Res T h res vs) (hv : rv F x (oneOf vs)) : Fim fl res (KR rv F0 h0 n0 x) e ⟨nt, T, ds⟩ ⟨h, nx⟩ := by
 obtain ⟨h2, e1, s2⟩ := St.unmark i hfl ds h L st hi
 have key : ∃ v σ'', leaveH fl ⟨nt, T, ds⟩ res (⟨h, nx⟩ : HS) = some (v, σ'') ∧ KR rv F0 h0 n0 x v σ'' := by
  refine ⟨oneOf vs, ⟨h2, nx⟩, ?_, F, s2.ext, s2.le, s2.lo, s2.sub, hv⟩
  unfold leaveH
  rw [show (HAct.mk nt T ds).defers = ds from rfl, e1]
  dsimp only
  have := (hr h2 s2).eq (nt := nt) (ds := ds) (nx := nx)
  rw [this]
 rcases he with rfl | rfl <;> unfold Fim <;> exact key
end
end Go.Hx.V

