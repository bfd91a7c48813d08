/- The plain machine and Go's: regions that draw their order, second part: masks, the store that is put together, and how runs on a part of a store are runs on all of it. -/
import Derived.Test.YtojkmobfhkjfnaaHxW
set_option linter.all false
namespace Go.Hx
variable {P : Program} {lp : Nat → Option LFunc} {ex : Ex}

/-! masks -/
theorem edge_bit {masks : List Nat} {j : Nat} : ∀ {es : List Edge}, (edgeMask masks es).testBit j = true → ∃ e ∈ es, Region.binds .any e = true ∧ (j = e.on ∨ (masks.getD e.on 0).testBit j = true)
  | [], h => by simp [edgeMask] at h
  | e :: es, h => by
    unfold edgeMask at h
    cases hb : Region.binds .any e with
    | true =>
      rw [hb] at h
      simp only [cond_true, Nat.testBit_or, Bool.or_eq_true] at h
      rcases h with (h | h) | h
      · rw [Nat.one_shiftLeft, Nat.testBit_two_pow] at h
        exact ⟨e, by simp, hb, .inl (by have := of_decide_eq_true h; omega)⟩
      · exact ⟨e, by simp, hb, .inr h⟩
      · obtain ⟨e', h1, h2⟩ := edge_bit h; exact ⟨e', by simp [h1], h2⟩
    | false =>
      rw [hb] at h
      obtain ⟨e', h1, h2⟩ := edge_bit h; exact ⟨e', by simp [h1], h2⟩
theorem masks_pre : ∀ (os : List Oper) (ms : List Nat), ∃ l, masksOf os ms = ms ++ l
  | [], ms => ⟨[], by simp [masksOf]⟩
  | o :: os, ms => by
    obtain ⟨l, hl⟩ := masks_pre os (ms ++ [edgeMask ms o.after.toList])
    exact ⟨[edgeMask ms o.after.toList] ++ l, by rw [masksOf, hl, List.append_assoc]⟩
theorem masks_at : ∀ (os : List Oper) (ms : List Nat) (i : Nat) (o : Oper), os[i]? = some o → (masksOf os ms).getD (ms.length + i) 0 = edgeMask ((masksOf os ms).take (ms.length + i)) o.after.toList
  | [], ms, i, o, h => by simp at h
  | o' :: os, ms, 0, o, h => by
    simp at h
    subst h
    obtain ⟨l, hl⟩ := masks_pre os (ms ++ [edgeMask ms o'.after.toList])
    rw [masksOf, hl]
    simp
  | o' :: os, ms, i + 1, o, h => by
    have := masks_at os (ms ++ [edgeMask ms o'.after.toList]) i o (by simpa using h)
    rw [masksOf]
    simp only [List.length_append, List.length_cons, List.length_nil] at this
    rw [show ms.length + (i + 1) = ms.length + (0 + 1) + i by omega]
    exact this
theorem anc_edge {os : List Oper} {i j : Nat} {o : Oper} (ho : os[i]? = some o) (h : ((masksOf os []).getD i 0).testBit j = true) : ∃ e ∈ o.after.toList, Region.binds .any e = true ∧ (j = e.on ∨ ((masksOf os []).getD e.on 0).testBit j = true) := by
  have := masks_at os [] i o ho
  simp only [List.length_nil, Nat.zero_add] at this
  rw [this] at h
  obtain ⟨e, h1, h2, h3⟩ := edge_bit h
  refine ⟨e, h1, h2, h3.imp id fun h3 => ?_⟩
  by_cases he : e.on < i
  · rwa [List.getD_eq_getElem?_getD, List.getElem?_take_of_lt he, ← List.getD_eq_getElem?_getD] at h3
  · rw [List.getD_eq_getElem?_getD, List.getElem?_eq_none (by simp; omega)] at h3
    simp at h3
theorem edges_ok : ∀ {os : List Oper} {i k : Nat} {o : Oper}, edgesOks os k = true → os[i]? = some o → ∀ e ∈ o.after.toList, Region.binds .any e = true → e.on < k + i
  | [], i, k, o, _, h => by simp at h
  | o' :: os, 0, k, o, h, ho => by
    simp at ho
    subst ho
    simp only [edgesOks, edgesOk, Bool.and_eq_true, List.all_eq_true, Bool.or_eq_true, Bool.not_eq_true'] at h
    intro e he hb
    rcases h.1 e he with h1 | h1
    · rw [h1] at hb; cases hb
    · simpa using blt_lt h1
  | o' :: os, i + 1, k, o, h, ho => by
    simp only [edgesOks, Bool.and_eq_true] at h
    intro e he hb
    have := edges_ok h.2 (by simpa using ho) e he hb
    omega
theorem draw_ok1 {all : List LOper} {m i : Nat} {o : LOper} : ∀ {n : Nat}, drawOk1 all m i o n = true → ∀ (j : Nat) (x : LOper), j < n → all[j]? = some x → m.testBit j = true ∨ clash x o = false
  | 0, _, j, x, h, _ => by omega
  | n + 1, h, j, x, hj, hx => by
    simp only [drawOk1, Bool.and_eq_true] at h
    by_cases e : j = n
    · subst e
      have := h.1
      rw [hx] at this
      simpa using this
    · exact draw_ok1 h.2 j x (by omega) hx
theorem zone_ok1 {all : List LOper} {m i : Nat} {o : LOper} : ∀ {n : Nat}, zoneOk all m i o n = true → ∀ (j : Nat) (x : LOper), j < n → all[j]? = some x → m.testBit j = true ∨ x.op.touches = false ∨ o.op.touches = false
  | 0, _, j, x, h, _ => by omega
  | n + 1, h, j, x, hj, hx => by
    simp only [zoneOk, Bool.and_eq_true] at h
    by_cases e : j = n
    · subst e
      have := h.1
      rw [hx] at this
      simpa [Decidable.not_and_iff_or_not] using this
    · exact zone_ok1 h.2 j x (by omega) hx
theorem draw_ok {all : List LOper} {masks : List Nat} : ∀ {os : List LOper} {k : Nat}, drawOk all masks os k = true → ∀ (i : Nat) (o : LOper), os[i]? = some o → ∀ (j : Nat) (x : LOper), j < k + i → all[j]? = some x → (masks.getD (k + i) 0).testBit j = true ∨ clash x o = false
  | [], k, h, i, o, ho => by simp at ho
  | o' :: os, k, h, 0, o, ho => by
    simp at ho
    subst ho
    simp only [drawOk, Bool.and_eq_true] at h
    exact draw_ok1 h.1
  | o' :: os, k, h, i + 1, o, ho => by
    simp only [drawOk, Bool.and_eq_true] at h
    have := draw_ok h.2 i o (by simpa using ho)
    rw [show k + 1 + i = k + (i + 1) by omega] at this
    exact this
theorem zone_at {all : List LOper} {masks : List Nat} : ∀ {os : List LOper} {k s : Nat}, s ≤ k → s ≤ zoneAt all masks os k s ∧ ∀ (i : Nat) (o : LOper), os[i]? = some o → zoneAt all masks os k s ≤ k + i → ∀ (j : Nat) (x : LOper), j < k + i → all[j]? = some x → (masks.getD (k + i) 0).testBit j = true ∨ x.op.touches = false ∨ o.op.touches = false
  | [], k, s, _ => ⟨Nat.le_refl _, fun i o ho => by simp at ho⟩
  | o' :: os, k, s, hs => by
    unfold zoneAt
    cases hz : zoneOk all (masks.getD k 0) k o' k with
    | true =>
      simp only [cond_true]
      obtain ⟨h1, h2⟩ := zone_at (all := all) (masks := masks) (os := os) (k := k + 1) (s := s) (by omega)
      refine ⟨h1, fun i o ho hk => ?_⟩
      cases i with
      | zero => simp at ho; subst ho; exact zone_ok1 hz
      | succ i =>
        have := h2 i o (by simpa using ho) (by omega)
        rw [show k + 1 + i = k + (i + 1) by omega] at this
        exact this
    | false =>
      simp only [cond_false]
      obtain ⟨h1, h2⟩ := zone_at (all := all) (masks := masks) (os := os) (k := k + 1) (s := k + 1) (Nat.le_refl _)
      refine ⟨?_, fun i o ho hk => ?_⟩
      · omega
      · cases i with
        | zero => omega
        | succ i =>
          have := h2 i o (by simpa using ho) (by omega)
          rw [show k + 1 + i = k + (i + 1) by omega] at this
          exact this
theorem bits_bit {m : Nat} {ops : List LOper} {i k : Nat} : ∀ {j : Nat}, k ∈ bitsOf m ops i j → m.testBit k = true
  | 0, h => by simp [bitsOf] at h
  | j + 1, h => by
    unfold bitsOf at h
    revert h
    cases hb : (m.testBit j && (match ops[j]? with | some o => o.op.makes | none => false)) with
    | true =>
      intro h
      simp only [cond_true, List.mem_cons] at h
      rcases h with rfl | h
      · simp only [Bool.and_eq_true] at hb; exact hb.1
      · exact bits_bit h
    | false => intro h; exact bits_bit h
theorem anc_at {all : List LOper} {masks : List Nat} : ∀ {os : List LOper} {k i : Nat}, (withAnc all masks os k)[i]? = (os[i]?).map fun o => { o with anc := bitsOf (masks.getD (k + i) 0) all (k + i) (k + i) }
  | [], k, i => by simp [withAnc]
  | o :: os, k, 0 => by simp [withAnc]
  | o :: os, k, i + 1 => by
    simp only [withAnc, List.getElem?_cons_succ]
    rw [anc_at, show k + 1 + i = k + (i + 1) by omega]

/-! the store that is put together -/
theorem new_from {h : Tr HBlk} : ∀ {n lo b : Nat} {x : HBlk}, (b, x) ∈ newFrom h lo n ↔ lo ≤ b ∧ b < lo + n ∧ h.get b = some x
  | 0, lo, b, x => by simp [newFrom]; omega
  | n + 1, lo, b, x => by
    unfold newFrom
    split
    · rename_i y hy
      simp only [List.mem_cons, Prod.mk.injEq, new_from (n := n) (lo := lo + 1)]
      constructor
      · rintro (⟨rfl, rfl⟩ | ⟨h1, h2, h3⟩)
        · exact ⟨by omega, by omega, hy⟩
        · exact ⟨by omega, by omega, h3⟩
      · rintro ⟨h1, h2, h3⟩
        by_cases e : b = lo
        · subst e; rw [hy] at h3; cases h3; exact .inl ⟨rfl, rfl⟩
        · exact .inr ⟨by omega, by omega, h3⟩
    · rename_i hy
      rw [new_from (n := n) (lo := lo + 1)]
      constructor
      · rintro ⟨h1, h2, h3⟩; exact ⟨by omega, by omega, h3⟩
      · rintro ⟨h1, h2, h3⟩
        refine ⟨?_, by omega, h3⟩
        rcases Nat.lt_or_eq_of_le h1 with h | h
        · exact h
        · subst h; rw [hy] at h3; cases h3
theorem add_get {b : Nat} {x : HBlk} : ∀ {l : List (Nat × HBlk)} {h : Tr HBlk}, (addAll h l).get b = some x → h.get b = some x ∨ (b, x) ∈ l
  | [], h, hx => .inl hx
  | (c, y) :: l, h, hx => by
    rcases add_get (l := l) hx with h1 | h1
    · rw [Tr.get_set] at h1
      by_cases e : b = c
      · subst e; rw [if_pos rfl] at h1; cases h1; exact .inr (by simp)
      · rw [if_neg e] at h1; exact .inl h1
    · exact .inr (by simp [h1])
theorem add_other {b : Nat} : ∀ {l : List (Nat × HBlk)} {h : Tr HBlk}, (∀ x, (b, x) ∉ l) → (addAll h l).get b = h.get b
  | [], h, _ => rfl
  | (c, y) :: l, h, hx => by
    have e : b ≠ c := fun e => hx y (by simp [e])
    rw [addAll, add_other (fun x hm => hx x (by simp [hm])), Tr.get_set, if_neg e]
theorem merge_get {anc : Option (List Nat)} {b : Nat} {x : HBlk} : ∀ {ds : List (Nat × List (Nat × HBlk))} {h : Tr HBlk}, (merge h anc ds).get b = some x → h.get b = some x ∨ ∃ j l, (j, l) ∈ ds ∧ (b, x) ∈ l ∧ ∀ as, anc = some as → j ∈ as
  | [], h, hx => .inl hx
  | (j, l) :: ds, h, hx => by
    unfold merge at hx
    rcases merge_get hx with h1 | ⟨j', l', h1, h2⟩
    · cases anc with
      | none =>
        simp only [cond_true] at h1
        rcases add_get h1 with h1 | h1
        · exact .inl h1
        · exact .inr ⟨j, l, by simp, h1, fun _ h => by cases h⟩
      | some as =>
        simp only at h1
        cases hc : as.contains j with
        | true =>
          rw [hc] at h1
          rcases add_get h1 with h1 | h1
          · exact .inl h1
          · exact .inr ⟨j, l, by simp, h1, fun _ h => by cases h; simpa using hc⟩
        | false => rw [hc] at h1; exact .inl h1
    · exact .inr ⟨j', l', by simp [h1], h2⟩
theorem merge_other {anc : Option (List Nat)} {b : Nat} : ∀ {ds : List (Nat × List (Nat × HBlk))} {h : Tr HBlk}, (∀ j l, (j, l) ∈ ds → ∀ x, (b, x) ∉ l) → (merge h anc ds).get b = h.get b
  | [], h, _ => rfl
  | (j, l) :: ds, h, hx => by
    unfold merge
    rw [merge_other (fun j' l' hm => hx j' l' (by simp [hm]))]
    cases anc with
    | none => exact add_other (hx j l (by simp))
    | some as =>
      simp only
      cases as.contains j with
      | true => exact add_other (hx j l (by simp))
      | false => rfl

/-! runs on a part of a store -/
theorem Post.wide {base fl nx nx' n0 n1 : Nat} {g g' : Hp} {ρ ρ' : Rho} {W W' : World} (h : Post P base fl nx nx' g g' ρ ρ' W W') (h0 : n0 ≤ nx) (h1 : nx' ≤ n1) : Post P base fl n0 n1 g g' ρ ρ' W W' :=
  { h with out := fun b hb => h.out b (by omega) }
theorem Post.and {base fl nx nx' : Nat} {g g1 g' : Hp} {ρ ρ1 ρ' : Rho} {W W1 W' : World} (h : Post P base fl nx nx' g g1 ρ ρ1 W W1) (k : Post P base fl nx nx' g1 g' ρ1 ρ' W1 W') : Post P base fl nx nx' g g' ρ ρ' W W' :=
  { ext := fun b r hr => k.ext b r (h.ext b r hr)
    out := fun b hb => (k.out b hb).trans (h.out b hb)
    sim := k.sim
    os := k.os.trans h.os
    tape := k.tape.trans h.tape
    output := k.output.trans h.output
    frz := fun a => (k.frz a).trans (h.frz a)
    size := Nat.le_trans h.size k.size
    same := fun i hi hm => by
      refine (k.same i (Nat.lt_of_lt_of_le hi h.size) fun hm1 => ?_).trans (h.same i hi hm)
      rcases h.own i hm1 with h1 | h1
      · omega
      · exact hm h1
    own := fun i hm => by
      rcases k.own i hm with h1 | h1
      · exact .inl (Nat.le_trans h.size h1)
      · exact h.own i h1 }
/-- On a greater store. -/
theorem Post.more {base fl nx nx' : Nat} {g gs g' : Hp} {ρ ρ' : Rho} {W W' : World} (h : Post P base fl nx nx' gs g' ρ ρ' W W') (hs : ∀ b x, gs b = some x → g b = some x) : Post P base fl nx nx' g g' ρ ρ' W W' :=
  { h with
    same := fun k hk hm => h.same k hk fun ⟨b, x, r, h1, h2⟩ => hm ⟨b, x, r, hs _ _ h1, h2⟩
    own := fun k hk => (h.own k hk).imp id fun ⟨b, x, r, h1, h2⟩ => ⟨b, x, r, hs _ _ h1, h2⟩ }
/-- Of what is there at the end, a part. -/
theorem Post.less {base fl nx nx' : Nat} {g g' gs : Hp} {ρ ρ' : Rho} {W W' : World} (h : Post P base fl nx nx' g g' ρ ρ' W W') (hs : ∀ b x, gs b = some x → g' b = some x) : Post P base fl nx nx' g gs ρ ρ' W W' :=
  { h with
    sim := h.sim.less hs
    own := fun k ⟨b, x, r, h1, h2⟩ => h.own k ⟨b, x, r, hs _ _ h1, h2⟩ }
/-- What only lays blocks, on a part of a store: it lays them beside all of it. -/
theorem Post.frame {base fl fp nx nx' : Nat} {g gs gs' : Hp} {ρ ρ' : Rho} {W W' : World} (hs : Sim P base g ρ W) (hdom : ∀ b x, gs b = some x → b < nx) (hfp : fp = nx)
    (h : Post P base fp nx nx' gs gs' ρ ρ' W W') : Post P base fl nx nx' g (fun b => if nx ≤ b ∧ b < nx' then gs' b else g b) ρ ρ' W W' := by
  subst hfp
  have none : ∀ k, ¬ May fp gs ρ k := fun k ⟨b, x, r, h1, _, h3, _⟩ => by have := hdom b x h1; omega
  have keep : ∀ k, k < W.heap.size → W'.heap[k]? = W.heap[k]? := fun k hk => h.same k hk (none k)
  have old : ∀ b y, g b = some y → BOk P base ρ' W' b y := fun b y hy => by
    refine (hs.ok b y hy).keep h.ext fun r hr => keep _ ?_
    obtain ⟨r', hr', hlt, _⟩ := (hs.ok b y hy).has
    rw [hr] at hr'; cases hr'; exact hlt
  have oldblk : ∀ b y r, g b = some y → ρ' b = some r → ρ b = some r ∧ r.blk < W.heap.size := fun b y r hy hr => by
    obtain ⟨r', hr', hlt, _⟩ := (hs.ok b y hy).has
    have := h.ext _ _ hr'
    rw [hr] at this; cases this
    exact ⟨hr', hlt⟩
  have newblk : ∀ b y r, fp ≤ b → gs' b = some y → y.own = true → ρ' b = some r → W.heap.size ≤ r.blk := fun b y r hb hy ho hr =>
    (h.own r.blk ⟨b, y, r, hy, ho, hb, hr, rfl⟩).resolve_right (none _)
  refine ⟨h.ext, h.out, ⟨fun b x hx => ?_, fun b b' x x' r r' h1 h2 h3 h4 h5 h6 h7 => ?_⟩, h.os, h.tape, h.output, h.frz, h.size, fun k hk _ => keep k hk, fun k ⟨b, x, r, h1, h2, h3, h4, h5⟩ => ?_⟩
  · split at hx
    · exact h.sim.ok b x hx
    · exact old b x hx
  · by_cases c1 : fp ≤ b ∧ b < nx' <;> by_cases c2 : fp ≤ b' ∧ b' < nx'
    · rw [if_pos c1] at h1; rw [if_pos c2] at h2
      exact h.sim.inj b b' x x' r r' h1 h2 h3 h4 h5 h6 h7
    · rw [if_pos c1] at h1; rw [if_neg c2] at h2
      have q1 := newblk b x r c1.1 h1 h3 h6
      have q2 := (oldblk b' x' r' h2 h7).2
      omega
    · rw [if_neg c1] at h1; rw [if_pos c2] at h2
      have q1 := newblk b' x' r' c2.1 h2 h4 h7
      have q2 := (oldblk b x r h1 h6).2
      omega
    · rw [if_neg c1] at h1; rw [if_neg c2] at h2
      exact hs.inj b b' x x' r r' h1 h2 h3 h4 h5 (oldblk _ _ _ h1 h6).1 (oldblk _ _ _ h2 h7).1
  · by_cases c : fp ≤ b ∧ b < nx'
    · simp only [if_pos c] at h1
      exact .inl (h5 ▸ newblk b x r c.1 h1 h2 h4)
    · simp only [if_neg c] at h1
      exact .inr ⟨b, x, r, h1, h2, h3, (oldblk _ _ _ h1 h4).1, h5⟩
end Go.Hx
