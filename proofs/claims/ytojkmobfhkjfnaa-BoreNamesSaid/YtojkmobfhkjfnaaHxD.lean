/- The plain machine and Go's: what one act on the store is in the world: a block laid, cells read, cells written. -/
import Derived.Test.YtojkmobfhkjfnaaHxC
set_option linter.all false
namespace Go.Hx
variable {P : Program}

theorem add_none (b o n : Nat) : (⟨b, o, none⟩ : Addr).add n = ⟨b, o + n, none⟩ := by
  unfold Addr.add
  split
  · subst_vars; rfl
  · rfl

def Rho.put (ρ : Rho) (b : Nat) (r : RI) : Rho := fun j => if j = b then some r else ρ j
theorem Rho.put_same (ρ : Rho) (b : Nat) (r : RI) : ρ.put b r b = some r := by simp [Rho.put]
theorem Rho.put_other (ρ : Rho) {b j : Nat} (r : RI) (h : j ≠ b) : ρ.put b r j = ρ j := by simp [Rho.put, h]
theorem Rho.le_put {ρ : Rho} {b : Nat} (r : RI) (h : ρ b = none) : Rho.le ρ (ρ.put b r) := fun j q hq => by
  by_cases e : j = b
  · subst e; rw [h] at hq; cases hq
  · rw [Rho.put_other _ _ e]; exact hq
theorem Rho.le_refl (ρ : Rho) : Rho.le ρ ρ := fun _ _ h => h

/-- A new block. -/
theorem post_new {base fl nx : Nat} {g g' : Hp} {ρ : Rho} {W : World} {x : HBlk} {o : Obj} {r : RI} (hs : Sim P base g ρ W) (hn : ρ nx = none)
    (hg : ∀ b, g' b = if b = nx then some x else g b) (hr : r.blk = W.heap.size) (hx : BOk P base (ρ.put nx r) (W.alloc o) nx x) (hz : zOf o = (0, 0) := by rfl) :
    Post P base fl nx (nx + 1) g g' ρ (ρ.put nx r) W (W.alloc o) where
  ext := Rho.le_put r hn
  out := fun b hb => Rho.put_other _ _ (by omega)
  sim := by
    have keep : ∀ b y, g b = some y → BOk P base (ρ.put nx r) (W.alloc o) b y := fun b y hy =>
      (hs.ok b y hy).keep (Rho.le_put r hn) fun q hq => by
        obtain ⟨q', hq', hlt, _⟩ := (hs.ok b y hy).has
        rw [hq] at hq'; cases hq'
        exact heap_alloc_old W o _ hlt
    have fact : ∀ b y, g' b = some y → b ≠ nx → g b = some y := fun b y hy e => by rw [hg, if_neg e] at hy; exact hy
    refine ⟨fun b y hy => ?_, fun b b' y y' q q' h1 h2 h3 h4 h5 h6 h7 => ?_⟩
    · by_cases e : b = nx
      · subst e; rw [hg, if_pos rfl] at hy; cases hy; exact hx
      · exact keep b y (fact b y hy e)
    · by_cases e : b = nx
      · subst e
        rw [Rho.put_same] at h6; cases h6
        have e' : b' ≠ b := fun h => h5 h.symm
        rw [Rho.put_other _ _ e'] at h7
        obtain ⟨q0, hq0, hlt, _⟩ := (hs.ok b' y' (fact _ _ h2 e')).has
        rw [h7] at hq0; cases hq0; omega
      · rw [Rho.put_other _ _ e] at h6
        by_cases e' : b' = nx
        · subst e'
          rw [Rho.put_same] at h7; cases h7
          obtain ⟨q0, hq0, hlt, _⟩ := (hs.ok b y (fact _ _ h1 e)).has
          rw [h6] at hq0; cases hq0; omega
        · rw [Rho.put_other _ _ e'] at h7
          exact hs.inj b b' y y' q q' (fact _ _ h1 e) (fact _ _ h2 e') h3 h4 h5 h6 h7
  os := rfl
  tape := rfl
  output := rfl
  frz := frz_alloc hz
  size := by simp
  same := fun k hk _ => heap_alloc_old W o k hk
  own := fun k ⟨b, y, q, h1, h2, h3, h4, h5⟩ => by
    by_cases e : b = nx
    · subst e; rw [Rho.put_same] at h4; cases h4; exact .inl (by omega)
    · rw [Rho.put_other _ _ e] at h4
      rw [hg, if_neg e] at h1
      exact .inr ⟨b, y, q, h1, h2, h3, h4, h5⟩
theorem hf_new {fl nx : Nat} {g g' : Hp} {x : HBlk} (hg : ∀ b, g' b = if b = nx then some x else g b) : HF fl nx (nx + 1) g g' :=
  ⟨by omega, fun b _ h => by rw [hg, if_neg (by omega)], fun b h => by rw [hg, if_neg (by omega)]⟩
theorem HS.get_new (σ : HS) (x : HBlk) (b : Nat) : (σ.new x).h.get b = if b = σ.nx then some x else σ.h.get b := Tr.get_set _ _ _ _
theorem HS.get_upd (σ : HS) (j : Nat) (x : Option HBlk) (b : Nat) : (σ.upd j x).h.get b = if b = j then x else σ.h.get b := Tr.get_set _ _ _ _

/-- A store's block is written in place, or given up: only that block turns. -/
theorem post_upd {base fl nx j : Nat} {g g' : Hp} {ρ : Rho} {W W' : World} {x : HBlk} {y : Option HBlk} {r : RI} (hs : Sim P base g ρ W) (hj : g j = some x) (ho : x.own = true) (hfl : fl ≤ j) (hr : ρ j = some r)
    (hg : ∀ b, g' b = if b = j then y else g b) (hos : W'.os = W.os) (htape : W'.tape = W.tape) (hout : W'.output = W.output) (hfz : ∀ a, W'.frozen? a = W.frozen? a) (hsize : W.heap.size ≤ W'.heap.size)
    (hsame : ∀ k, k < W.heap.size → k ≠ r.blk → W'.heap[k]? = W.heap[k]?) (hy : ∀ z, y = some z → BOk P base ρ W' j z) :
    Post P base fl nx nx g g' ρ ρ W W' where
  ext := Rho.le_refl ρ
  out := fun _ _ => rfl
  sim := by
    have fact : ∀ b z, g' b = some z → b ≠ j → g b = some z := fun b z hz e => by rw [hg, if_neg e] at hz; exact hz
    have hx0 := (hs.ok j x hj).has
    refine ⟨fun b z hz => ?_, fun b b' z z' q q' h1 h2 h3 h4 h5 h6 h7 => ?_⟩
    · by_cases e : b = j
      · subst e; rw [hg, if_pos rfl] at hz; exact hy z hz
      · refine (hs.ok b z (fact b z hz e)).keep (Rho.le_refl ρ) fun q hq => hsame _ ?_ ?_
        · obtain ⟨q', hq', hlt, _⟩ := (hs.ok b z (fact b z hz e)).has
          rw [hq] at hq'; cases hq'; exact hlt
        · obtain ⟨q', hq', hlt, hb1, hb2⟩ := (hs.ok b z (fact b z hz e)).has
          rw [hq] at hq'; cases hq'
          obtain ⟨r', hr', _, hr1, _⟩ := hx0
          rw [hr] at hr'; cases hr'
          cases ho' : z.own with
          | true => exact hs.inj b j z x q r (fact b z hz e) hj ho' ho e hq hr
          | false => have := hb2 ho'; have := hr1 ho; omega
    · have key : ∀ b z q, g' b = some z → ρ b = some q → z.own = true → ∃ z0, g b = some z0 ∧ z0.own = true := fun b z q hz _ ho' => by
        by_cases e : b = j
        · subst e; exact ⟨x, hj, ho⟩
        · exact ⟨z, fact b z hz e, ho'⟩
      obtain ⟨z0, e1, e2⟩ := key b z q h1 h6 h3
      obtain ⟨z1, e3, e4⟩ := key b' z' q' h2 h7 h4
      exact hs.inj b b' z0 z1 q q' e1 e3 e2 e4 h5 h6 h7
  os := hos
  tape := htape
  output := hout
  frz := hfz
  size := hsize
  same := fun k hk hm => hsame k hk fun e => hm ⟨j, x, r, hj, ho, hfl, hr, e.symm⟩
  own := fun k ⟨b, z, q, h1, h2, h3, h4, h5⟩ => by
    by_cases e : b = j
    · subst e; exact .inr ⟨b, x, q, hj, ho, h3, h4, h5⟩
    · rw [hg, if_neg e] at h1; exact .inr ⟨b, z, q, h1, h2, h3, h4, h5⟩
theorem hf_upd {fl nx j : Nat} {g g' : Hp} {y : Option HBlk} (hfl : fl ≤ j) (hj : j < nx) (hg : ∀ b, g' b = if b = j then y else g b) : HF fl nx nx g g' :=
  ⟨Nat.le_refl _, fun b h _ => by rw [hg, if_neg (by omega)], fun b h => by rw [hg, if_neg (by omega)]⟩

/-! cells -/
theorem takeN_some : ∀ {n : Nat} {l cs : List HV}, takeN n l = some cs → cs = l.take n ∧ cs.length = n
  | 0, l, cs, h => by simp [takeN] at h; subst h; simp
  | n + 1, [], cs, h => by simp [takeN] at h
  | n + 1, v :: l, cs, h => by
    simp only [takeN, Option.map_eq_some_iff] at h
    obtain ⟨ds, hd, rfl⟩ := h
    obtain ⟨h1, h2⟩ := takeN_some hd
    exact ⟨by simp [← h1], by simp [h2]⟩
theorem overwrite_some : ∀ {l : List HV} {o : Nat} {vs l' : List HV}, overwrite l o vs = some l' → l'.length = l.length ∧ (vs ≠ [] → o + vs.length ≤ l.length) ∧
    ∀ i, l'[i]? = if o ≤ i ∧ i < o + vs.length then vs[i - o]? else l[i]?
  | l, o, [], l', h => by
    have : l' = l := by
      have e : overwrite l o [] = some l := by cases l <;> cases o <;> rfl
      rw [e] at h; exact (Option.some.inj h).symm
    subst this
    exact ⟨rfl, fun h => absurd rfl h, fun i => by rw [if_neg (by simp only [List.length_nil]; omega)]⟩
  | [], o, v :: vs, l', h => by simp [overwrite] at h
  | x :: l, 0, v :: vs, l', h => by
    simp only [overwrite, Option.map_eq_some_iff] at h
    obtain ⟨d, hd, rfl⟩ := h
    obtain ⟨h1, h2, h3⟩ := overwrite_some hd
    refine ⟨by simp [h1], fun _ => ?_, fun i => ?_⟩
    · by_cases e : vs = []
      · subst e; simp
      · have := h2 e; simp at this ⊢; omega
    · cases i with
      | zero => simp
      | succ i =>
        have := h3 i
        simp only [List.getElem?_cons_succ, this, List.length_cons]
        by_cases hi : i < vs.length
        · rw [if_pos (by omega), if_pos (by omega)]; simp
        · rw [if_neg (by omega), if_neg (by omega)]
  | x :: l, o + 1, v :: vs, l', h => by
    simp only [overwrite, Option.map_eq_some_iff] at h
    obtain ⟨d, hd, rfl⟩ := h
    obtain ⟨h1, h2, h3⟩ := overwrite_some hd
    refine ⟨by simp [h1], fun hn => ?_, fun i => ?_⟩
    · have := h2 hn; simp at this ⊢; omega
    · cases i with
      | zero => rw [if_neg (by omega)]; simp
      | succ i =>
        have := h3 i
        simp only [List.getElem?_cons_succ, this]
        by_cases hi : o ≤ i ∧ i < o + (v :: vs).length
        · rw [if_pos hi, if_pos (by omega)]; congr 1; omega
        · rw [if_neg hi, if_neg (by omega)]

/-- From 'there is a value for each' to a list of them. -/
theorem LR.of_cells {ρ : Rho} {C : Array Value} : ∀ {cs : List HV} {off : Nat}, (∀ (i : Nat) (v : HV), cs[i]? = some v → ∃ u, C[off + i]? = some u ∧ VR ρ v u) →
    ∃ U : List Value, LR ρ cs U ∧ ∀ j u, U[j]? = some u → C[off + j]? = some u
  | [], off, _ => ⟨[], LR.nil ρ, fun j u h => by simp at h⟩
  | v :: cs, off, h => by
    obtain ⟨u, hu, hv⟩ := h 0 v rfl
    obtain ⟨U, hU, hC⟩ := LR.of_cells (cs := cs) (off := off + 1) fun i w hw => by
      obtain ⟨x, hx, hr⟩ := h (i + 1) w (by simpa using hw)
      exact ⟨x, by rw [← hx]; congr 1; omega, hr⟩
    refine ⟨u :: U, LR.cons hv hU, fun j x hx => ?_⟩
    cases j with
    | zero => simp at hx; subst hx; simpa using hu
    | succ j => rw [← hC j x (by simpa using hx)]; congr 1; omega

theorem sim_read {base : Nat} {ρ : Rho} {W : World} {σ : HS} {a : Nat × Nat} {n : Nat} {cs : List HV} (hs : Sim P base σ.h.get ρ W) (h : σ.read a n = some cs) :
    ∃ (r : RI) (U : List Value), ρ a.1 = some r ∧ LR ρ cs U ∧ U.length = n ∧ cs.length = n ∧ (∀ j u, U[j]? = some u → W.cell? ⟨r.blk, r.off + a.2 + j, none⟩ = some u) := by
  simp only [HS.read, HS.cells, Option.bind_eq_bind, Option.bind_eq_some_iff] at h
  obtain ⟨all, h1, h2⟩ := h
  split at h1
  · rename_i cs' k hb
    cases h1
    obtain ⟨r, C, e, z, hr, hw, hc, _⟩ := hs.ok _ _ hb
    obtain ⟨e1, e2⟩ := takeN_some h2
    obtain ⟨U, hU, hC⟩ := LR.of_cells (C := C) (cs := cs) (off := r.off + a.2) (ρ := ρ) fun i v hv => by
      rw [e1, List.getElem?_take] at hv
      split at hv
      · rw [List.getElem?_drop] at hv
        obtain ⟨u, hu, hr'⟩ := hc _ _ hv
        exact ⟨u, by rw [← hu]; congr 1; omega, hr'⟩
      · cases hv
    exact ⟨r, U, hr, hU, hU.1.symm.trans e2, e2, fun j u hu => by rw [cell_of_row W r.blk _ C e z hw]; exact hC j u hu⟩
  · cases h1
theorem run_loadCells_of {W : World} {b o n : Nat} {U : List Value} (hl : U.length = n) (h : ∀ j u, U[j]? = some u → W.cell? ⟨b, o + j, none⟩ = some u) :
    (loadCells ⟨b, o, none⟩ n).run P W = .ok U.toArray W := by
  rw [← hl]
  exact run_loadCells_list (P := P) W _ U fun j u hu => by rw [add_none]; exact h j u hu

theorem LR.all_one {ρ : Rho} {vs : List HV} {U : List Value} (h : LR ρ vs U) (h1 : vs.all HV.one = true) : ∀ u ∈ U, u.oneCell' = true := by
  intro u hu
  obtain ⟨i, hi⟩ := List.getElem?_of_mem hu
  have hlt : i < vs.length := by rw [h.1]; exact (List.getElem?_eq_some_iff.1 hi).1
  have hv : vs[i]? = some vs[i] := List.getElem?_eq_getElem hlt
  exact (h.2 i _ _ hv hi).one (List.all_eq_true.1 h1 _ (List.getElem_mem hlt))

theorem sim_write {base fl : Nat} {ρ : Rho} {W : World} {σ σ' : HS} {a : Nat × Nat} {vs : List HV} {U : List Value} (hs : Sim P base σ.h.get ρ W) (h : σ.write fl a vs = some σ') (hU : LR ρ vs U) :
    σ'.nx = σ.nx ∧ ∃ (r : RI) (W' : World), ρ a.1 = some r ∧ (storeCells ⟨r.blk, r.off + a.2, none⟩ U).run P W = .ok () W' ∧
      Post P base fl σ.nx σ.nx σ.h.get σ'.h.get ρ ρ W W' := by
  unfold HS.write at h
  split at h
  · cases h
  · rename_i cs k hne hb
    cases hc : (Nat.ble fl a.1 && vs.all HV.one) with
    | false => rw [hc] at h; cases h
    | true =>
      rw [hc] at h
      simp only [Bool.and_eq_true, cond_true, Option.map_eq_some_iff] at hc h
      obtain ⟨cs', ho, rfl⟩ := h
      obtain ⟨hfl, hone⟩ := hc
      have hfl := Nat.le_of_ble_eq_true hfl
      obtain ⟨r, C, e, z, hr, hw, hcell, hk⟩ := hs.ok _ _ hb
      obtain ⟨l1, l2, l3⟩ := overwrite_some ho
      have hown : HBlk.own (.cells cs k) = true := by cases k <;> first | rfl | exact absurd rfl hne
      have hz : z = (0, 0) := by cases k <;> first | exact absurd rfl hne | exact hk.2.1
      subst hz
      refine ⟨rfl, r, ?_⟩
      by_cases hv : vs = []
      · subst hv
        have hU0 := LR.inv_nil hU
        subst hU0
        have hcs : cs' = cs := by
          apply List.ext_getElem?
          intro i
          rw [l3, if_neg (by simp only [List.length_nil]; omega)]
        subst hcs
        exact ⟨W, hr, rfl, post_upd hs hb hown hfl hr (HS.get_upd σ _ _) rfl rfl rfl (fun _ => rfl) (Nat.le_refl _) (fun _ _ _ => rfl) fun z hz => by cases hz; exact ⟨r, C, e, (0, 0), hr, hw, hcell, hk⟩⟩
      · have hb2 := l2 hv
        have hlen : r.off + cs.length ≤ C.size := by
          by_cases hcl : cs.length = 0
          · exfalso; have : vs.length = 0 := by omega
            exact hv (List.length_eq_zero_iff.1 this)
          · obtain ⟨u, hu, _⟩ := hcell (cs.length - 1) cs[cs.length - 1] (List.getElem?_eq_getElem (by omega))
            have := (Array.getElem?_eq_some_iff.1 hu).1
            omega
        have hst := run_storeCells_at P r.blk (r.off + a.2) e U 0 C W hw (by rw [← hU.1]; omega) (hU.all_one hone)
        refine ⟨_, hr, by simpa using hst, ?_⟩
        have hrow : ∀ D : Array Value, (W.setRow r.blk D).heap[r.blk]? = some (.cells D e (0, 0)) := fun D => setRow_heap W r.blk C D e (0, 0) hw
        refine post_upd hs hb hown hfl hr (HS.get_upd σ _ _) rfl rfl rfl (fun a => ?_) (by simp) (fun k _ hk => ?_) fun z hz => ?_
        · rw [frozen_eq, frozen_eq]
          by_cases ea : a.block = r.blk
          · rw [ea, hrow, hw]; rfl
          · simp only [World.setRow]
            rw [Array.getElem?_modify, if_neg (by omega)]
        · simp only [World.setRow]
          rw [Array.getElem?_modify, if_neg (by omega)]
        · cases hz
          refine ⟨r, _, e, (0, 0), hr, hrow _, fun i v hi => ?_, ?_⟩
          · rw [l3] at hi
            have hUl := hU.1
            by_cases hin : a.2 ≤ i ∧ i < a.2 + vs.length
            · rw [if_pos hin] at hi
              have hlt : i - a.2 < U.length := by omega
              refine ⟨U[i - a.2], ?_, hU.2 _ _ _ hi (List.getElem?_eq_getElem hlt)⟩
              rw [List.getElem?_toArray, List.getElem?_append_right (by simp; omega)]
              rw [List.getElem?_append_left (by simp; omega)]
              rw [List.getElem?_eq_some_iff]
              refine ⟨by simp; omega, ?_⟩
              congr 1
              simp
              omega
            · rw [if_neg hin] at hi
              obtain ⟨u, hu, hr'⟩ := hcell i v hi
              refine ⟨u, ?_, hr'⟩
              rw [List.getElem?_toArray]
              by_cases hlt : i < a.2
              · rw [List.getElem?_append_left (by simp; omega), List.getElem?_take, if_pos (by omega)]
                simpa using hu
              · have hlo : a.2 + vs.length ≤ i := by omega
                rw [List.getElem?_append_right (by simp; omega), List.getElem?_append_right (by simp; omega), List.getElem?_drop]
                rw [← Array.getElem?_toList] at hu
                rw [← hu]
                congr 1
                simp
                omega
          · cases k with
            | ro => exact absurd rfl hne
            | exact => exact hk
            | opn s =>
              obtain ⟨k1, k2, k3⟩ := hk
              refine ⟨k1, rfl, ?_⟩
              have := hU.1
              simp
              omega
  · cases h
end Go.Hx
