/- Walks of the plain machine: more operations; what is kept behind a call of plain values. -/
import Derived.Test.YtojkmobfhkjfnaaHyE
import Derived.Test.YtojkmobfhkjfnaaHyF
set_option linter.all false
namespace Go.Hx
variable {lp : Nat → Option LFunc} {fl : Nat} {rd : Option Nat} {Q : HExit → HAct → HS → Prop} {N : HAct → HS → Prop} {a : HAct} {h : Tr HBlk} {nx : Nat} {os : List LOper} {dst : Option Nat} {anc : List Nat}
theorem r_neg {x : Lo} {m : Int} {σ : HS} (hx : a.ev x = i64 m) (h1 : -9223372036854775808 ≤ -m) (h2 : -m < 9223372036854775808) (hn : R lp fl os N (a.put dst (i64 (-m))) σ) : R lp fl (⟨dst, .un .neg x, none, anc⟩ :: os) N a σ :=
  r_go (by show keep σ (unH .neg _) = _; rw [hx]; simp only [unH, i64]; rw [show (0 : Int) - m = -m by omega, wrap_small _ h1 h2]; rfl) hn
theorem r_quo {x y : Lo} {m n : Int} {σ : HS} (hx : a.ev x = i64 m) (hy : a.ev y = i64 n) (h0 : n ≠ 0) (h1 : -9223372036854775808 ≤ m.tdiv n) (h2 : m.tdiv n < 9223372036854775808) (hn : R lp fl os N (a.put dst (i64 (m.tdiv n))) σ) : R lp fl (⟨dst, .bin .quo x y, none, anc⟩ :: os) N a σ :=
  r_go (by show keep σ (binH .quo _ _) = _; rw [hx, hy]; simp only [binH, i64, isShift, cond_false, sameK, cond_true, intFast, intArith, if_neg h0]; rw [wrap_small _ h1 h2]; rfl) hn

theorem keep_one {h1 : Tr HBlk} {nx : Nat} {k : List HV → Tr HBlk → Tr HBlk} {v : HV} {h : Tr HBlk} (hv : flat1 v = true) (hk : k [] h = h) : keepV h1 nx k h v = h := by
  cases v with
  | ptr a => cases a with | none => rfl | some _ => cases hv
  | slice a l c => cases a with | none => rfl | some _ => cases hv
  | map a => cases a with | none => rfl | some _ => cases hv
  | func f a b => cases a with | cons _ _ => cases hv | nil => cases b with | cons _ _ => cases hv | nil => exact hk
  | agg _ => cases hv
  | tuple _ => cases hv
  | _ => rfl
theorem keep_nil {h1 : Tr HBlk} {nx d : Nat} {h : Tr HBlk} : keepD h1 nx d [] h = h := by cases d <;> rfl
theorem keep_all1 {h1 : Tr HBlk} {nx d : Nat} {h : Tr HBlk} : ∀ {vs : List HV}, vs.all flat1 = true → keepD h1 nx d vs h = h
  | [], _ => keep_nil
  | v :: vs, hv => by
    cases d with
    | zero => rfl
    | succ d =>
      rw [List.all_cons, Bool.and_eq_true] at hv
      have := keep_all1 (h1 := h1) (nx := nx) (d := d + 1) (h := h) hv.2
      unfold keepD at this ⊢
      rw [List.foldl_cons, keep_one hv.1 keep_nil]
      exact this
theorem keep_all {h1 : Tr HBlk} {nx d : Nat} {h : Tr HBlk} : ∀ {vs : List HV}, vs.all flat = true → keepD h1 nx d vs h = h
  | [], _ => keep_nil
  | v :: vs, hv => by
    cases d with
    | zero => rfl
    | succ d =>
      rw [List.all_cons, Bool.and_eq_true] at hv
      have := keep_all (h1 := h1) (nx := nx) (d := d + 1) (h := h) hv.2
      unfold keepD at this ⊢
      rw [List.foldl_cons]
      have e : keepV h1 nx (keepD h1 nx d) h v = h := by
        cases v with
        | agg cs => exact keep_all1 hv.1
        | _ => exact keep_one hv.1 keep_nil
      rw [e]
      exact this
theorem gc_flat {σ σ' : HS} {v : HV} (hv : flatV v = true) : gcH σ σ' v = ⟨σ.h, σ'.nx⟩ := by
  unfold gcH
  congr 1
  cases v with
  | tuple vs => exact keep_all (vs := vs) (d := 4) hv
  | agg cs => exact keep_all (vs := [.agg cs]) (d := 5) (by simp only [List.all_cons, List.all_nil, Bool.and_true]; exact hv)
  | _ => exact keep_all1 (vs := [_]) (d := 5) (by simp only [List.all_cons, List.all_nil, Bool.and_true]; exact hv)
/-- The end of a function that hands back plain values. -/
theorem sc_flat {σ0 σ : HS} {v w : HV} (hw : flatV w = true) (hn : σ0.nx ≤ σ.nx) (hv : v = w) : Sc (· = w) σ0 v (gcH σ0 σ v) := by
  subst hv
  rw [gc_flat hw]
  exact ⟨rfl, _, hn, rfl⟩
end Go.Hx
