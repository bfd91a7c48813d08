import Derived.Test.YtcejjaaoainfjaaH01
import Derived.Test.YtcejjaaoainfjaaH00
import Derived.RowKit3
set_option linter.all false
namespace Go.Hx
variable {P : Program} {lp : Nat → Option zp} {ex : Ex}
theorem j6 {masks : List Nat} {j : Nat} : ∀ {es : List Edge}, (edgeMask masks es).testBit j = true → ∃ e ∈ es, Region.binds .any e = true ∧ (j = e.on ∨ (masks.getD e.on 0).testBit j = true)
 | [], h => by simp [edgeMask] at h
 | e :: es, h => by
  unfold edgeMask at h
  cases hb : Region.binds .any e with
  | true =>
   rw [hb] at h
   simp only [cond_true, Nat.testBit_or, Bool.or_eq_true] at h
   rcases h with (h | h) | h
   ·rw [Nat.one_shiftLeft, Nat.testBit_two_pow] at h
    exact ⟨e, by simp, hb, .inl (by have := of_decide_eq_true h; omega)⟩
   ·exact ⟨e, by simp, hb, .inr h⟩
   ·obtain ⟨e', h1, h2⟩ := j6 h; exact ⟨e', by simp [h1], h2⟩
  | false =>
   rw [hb] at h
   obtain ⟨e', h1, h2⟩ := j6 h; exact ⟨e', by simp [h1], h2⟩
theorem kw : ∀ (os : List Oper) (ms : List Nat), ∃ l, masksOf os ms = ms ++ l
 | [], ms => ⟨[], by simp [masksOf]⟩
 | o :: os, ms => by
  obtain ⟨l, hl⟩ := kw os (ms ++ [edgeMask ms o.after.toList])
  exact ⟨[edgeMask ms o.after.toList] ++ l, by rw [masksOf, hl, List.append_assoc]⟩
theorem Xq : ∀ (os : List Oper) (ms : List Nat) (i : Nat) (o : Oper), os[i]? = some o → (masksOf os ms).getD (ms.length + i) 0 = edgeMask ((masksOf os ms).take (ms.length + i)) o.after.toList
 | [], ms, i, o, h => by simp at h
 | o' :: os, ms, 0, o, h => by
  simp at h
  subst h
  obtain ⟨l, hl⟩ := kw os (ms ++ [edgeMask ms o'.after.toList])
  rw [masksOf, hl]
  simp
 | o' :: os, ms, i + 1, o, h => by
  have := Xq os (ms ++ [edgeMask ms o'.after.toList]) i o (by simpa using h)
  rw [masksOf]
  simp only [List.length_append, List.length_cons, List.length_nil] at this
  rw [show ms.length + (i + 1) = ms.length + (0 + 1) + i by omega]
  exact this
theorem XM {os : List Oper} {i j : Nat} {o : Oper} (ho : os[i]? = some o) (h : ((masksOf os []).getD i 0).testBit j = true) : ∃ e ∈ o.after.toList, Region.binds .any e = true ∧ (j = e.on ∨ ((masksOf os []).getD e.on 0).testBit j = true) := by
 have := Xq os [] i o ho
 simp only [List.length_nil, Nat.zero_add] at this
 rw [this] at h
 obtain ⟨e, h1, h2, h3⟩ := j6 h
 refine ⟨e, h1, h2, h3.imp id fun h3 => ?_⟩
 by_cases he : e.on < i
 ·rwa [List.getD_eq_getElem?_getD, List.getElem?_take_of_lt he, ← List.getD_eq_getElem?_getD] at h3
 ·rw [List.getD_eq_getElem?_getD, List.getElem?_eq_none (by simp; omega)] at h3
  simp at h3
theorem j5 : ∀ {os : List Oper} {i k : Nat} {o : Oper}, edgesOks os k = true → os[i]? = some o → ∀ e ∈ o.after.toList, Region.binds .any e = true → e.on < k + i
 | [], i, k, o, _, h => by simp at h
 | o' :: os, 0, k, o, h, ho => by
  simp at ho
  subst ho
  simp only [edgesOks, edgesOk, Bool.and_eq_true, List.all_eq_true, Bool.or_eq_true, Bool.not_eq_true'] at h
  intro e he hb
  rcases h.1 e he with h1 | h1
  ·rw [h1] at hb; cases hb
  ·simpa using vY h1
 | o' :: os, i + 1, k, o, h, ho => by
  simp only [edgesOks, Bool.and_eq_true] at h
  intro e he hb
  have := j5 h.2 (by simpa using ho) e he hb
  omega
theorem XE {all : List zh} {m i : Nat} {o : zh} : ∀ {n : Nat}, drawOk1 all m i o n = true → ∀ (j : Nat) (x : zh), j < n → all[j]? = some x → m.testBit j = true ∨ clash x o = false
 | 0, _, j, x, h, _ => by omega
 | n + 1, h, j, x, hj, hx => by
  simp only [drawOk1, Bool.and_eq_true] at h
  by_cases e : j = n
  ·subst e
   have := h.1
   rw [hx] at this
   simpa using this
  ·exact XE h.2 j x (by omega) hx
theorem kZ {all : List zh} {m i s : Nat} {o : zh} : ∀ {n : Nat}, zoneOk all m i s o n = true → ∀ (j : Nat) (x : zh), j < n → all[j]? = some x → m.testBit j = true ∨ x.op.touches = false ∨ o.op.touches = false ∨ (x.op.reads = true ∧ o.op.reads = true) ∨ (isCallO o = true ∧ s ≤ j ∧ ∃ p, pairOf all i j = some p)
 | 0, _, j, x, h, _ => by omega
 | n + 1, h, j, x, hj, hx => by
  simp only [zoneOk, Bool.and_eq_true] at h
  by_cases e : j = n
  ·subst e
   have := h.1
   rw [hx] at this
   simp only [Bool.or_eq_true, Bool.and_eq_true, Bool.not_eq_true', Bool.and_eq_false_iff, Nat.ble_eq, Option.isSome_iff_exists] at this
   rcases this with ((h1 | h1 | h1) | h1) | h1
   ·exact .inl h1
   ·exact .inr (.inl h1)
   ·exact .inr (.inr (.inl h1))
   ·exact .inr (.inr (.inr (.inl h1)))
   ·exact .inr (.inr (.inr (.inr ⟨h1.1.1, h1.1.2, h1.2⟩)))
  ·exact kZ h.2 j x (by omega) hx
theorem YZ {all : List zh} {masks : List Nat} : ∀ {os : List zh} {k : Nat}, drawOk all masks os k = true → ∀ (i : Nat) (o : zh), os[i]? = some o → ∀ (j : Nat) (x : zh), j < k + i → all[j]? = some x → (masks.getD (k + i) 0).testBit j = true ∨ clash x o = false
 | [], k, h, i, o, ho => by simp at ho
 | o' :: os, k, h, 0, o, ho => by
  simp at ho
  subst ho
  simp only [drawOk, Bool.and_eq_true] at h
  exact XE h.1
 | o' :: os, k, h, i + 1, o, ho => by
  simp only [drawOk, Bool.and_eq_true] at h
  have := YZ h.2 i o (by simpa using ho)
  rw [show k + 1 + i = k + (i + 1) by omega] at this
  exact this
theorem jo {all : List zh} {masks : List Nat} : ∀ {os : List zh} {k s : Nat}, s ≤ k → s ≤ zoneAt all masks os k s ∧ (zoneAt all masks os k s = s ∨ k < zoneAt all masks os k s)
 | [], k, s, _ => ⟨Nat.le_refl _, .inl rfl⟩
 | o' :: os, k, s, hs => by
  unfold zoneAt
  cases hz : zoneOk all (masks.getD k 0) k s o' k with
  | true =>
   simp only [cond_true]
   obtain ⟨h1, h2⟩ := jo (all := all) (masks := masks) (os := os) (k := k + 1) (s := s) (by omega)
   exact ⟨h1, h2.imp id fun h => by omega⟩
  | false =>
   simp only [cond_false]
   obtain ⟨h1, h2⟩ := jo (all := all) (masks := masks) (os := os) (k := k + 1) (s := k + 1) (Nat.le_refl _)
   exact ⟨by omega, .inr (by omega)⟩
theorem kJ {all : List zh} {masks : List Nat} : ∀ {os : List zh} {k s : Nat}, s ≤ k → ∀ (i : Nat) (o : zh), os[i]? = some o → zoneAt all masks os k s ≤ k + i → zoneOk all (masks.getD (k + i) 0) (k + i) (zoneAt all masks os k s) o (k + i) = true
 | [], k, s, _, i, o, ho, _ => by simp at ho
 | o' :: os, k, s, hs, i, o, ho, hk => by
  unfold zoneAt at hk ⊢
  cases hz : zoneOk all (masks.getD k 0) k s o' k with
  | true =>
   rw [hz] at hk
   simp only [cond_true] at hk ⊢
   cases i with
   | zero =>
    simp at ho; subst ho
    have : zoneAt all masks os (k + 1) s = s := by
     rcases (jo (all := all) (masks := masks) (os := os) (k := k + 1) (s := s) (by omega)).2 with h | h
     ·exact h
     ·omega
    rw [this]; exact hz
   | succ i =>
    have := kJ (all := all) (masks := masks) (os := os) (k := k + 1) (s := s) (by omega) i o (by simpa using ho) (by omega)
    rw [show k + 1 + i = k + (i + 1) by omega] at this
    exact this
  | false =>
   rw [hz] at hk
   simp only [cond_false] at hk ⊢
   cases i with
   | zero =>
    have := (jo (all := all) (masks := masks) (os := os) (k := k + 1) (s := k + 1) (Nat.le_refl _)).1
    omega
   | succ i =>
    have := kJ (all := all) (masks := masks) (os := os) (k := k + 1) (s := k + 1) (Nat.le_refl _) i o (by simpa using ho) (by omega)
    rw [show k + 1 + i = k + (i + 1) by omega] at this
    exact this
theorem j8 {m : Nat} {ops : List zh} {ws : List Bool} {i k : Nat} : ∀ {j : Nat}, k ∈ bitsOf m ops ws i j → m.testBit k = true ∧ k < j ∧ ∃ o, ops[k]? = some o ∧ (o.op.makes = true ∨ ws.getD k false = true)
 | 0, h => by simp [bitsOf] at h
 | j + 1, h => by
  unfold bitsOf at h
  revert h
  cases hb : (m.testBit j && (match ops[j]? with | some o => o.op.makes || ws.getD j false | none => false)) with
  | true =>
   intro h
   simp only [cond_true, List.mem_cons] at h
   rcases h with rfl | h
   ·simp only [Bool.and_eq_true] at hb
    refine ⟨hb.1, by omega, ?_⟩
    cases ho : ops[k]? with
    | none => rw [ho] at hb; exact absurd hb.2 (by simp)
    | some o => rw [ho] at hb; exact ⟨o, rfl, by simpa using hb.2⟩
   ·obtain ⟨h1, h2, h3⟩ := j8 h
    exact ⟨h1, by omega, h3⟩
  | false =>
   intro h
   obtain ⟨h1, h2, h3⟩ := j8 h
   exact ⟨h1, by omega, h3⟩
theorem own_mem {i k : Nat} {w : Bool} {l : List Nat} (h : k ∈ withOwn i w l) : (k = i ∧ w = true) ∨ k ∈ l := by
 cases l with
 | nil => cases h
 | cons j l =>
  unfold withOwn at h
  cases w with
  | true =>
   simp only [cond_true, List.mem_cons] at h ⊢
   rcases h with h | h
   ·exact .inl ⟨h, trivial⟩
   ·exact .inr h
  | false => exact .inr h
theorem anc_at {all : List zh} {masks : List Nat} {ws : List Bool} : ∀ {os : List zh} {k i : Nat}, (withAnc all masks ws os k)[i]? = (os[i]?).map fun o => { o with anc := withOwn (k + i) (ws.getD (k + i) false) (bitsOf (masks.getD (k + i) 0) all ws (k + i) (k + i)) }
 | [], k, i => by simp [withAnc]
 | o :: os, k, 0 => by simp [withAnc]
 | o :: os, k, i + 1 => by
  simp only [withAnc, List.getElem?_cons_succ]
  rw [anc_at, show k + 1 + i = k + (i + 1) by omega]
theorem may_at {all : List zh} {masks : List Nat} {s : Nat} : ∀ {os : List zh} {k i : Nat}, (mayAll all masks s os k).getD i false = true → ∃ o, os[i]? = some o ∧ k + i < s ∧ o.op.writes = true ∧ ancOk all masks (k + i) (k + i) = true
 | [], k, i, h => by simp [mayAll] at h
 | o :: os, k, 0, h => by
  simp only [mayAll, List.getD_cons_zero, Bool.and_eq_true] at h
  exact ⟨o, rfl, vY h.1.1, h.1.2, h.2⟩
 | o :: os, k, i + 1, h => by
  simp only [mayAll, List.getD_cons_succ] at h
  obtain ⟨o', h1, h2, h3, h4⟩ := may_at h
  rw [show k + 1 + i = k + (i + 1) by omega] at h2 h4
  exact ⟨o', by simpa using h1, h2, h3, h4⟩
theorem XO {all : List zh} {masks : List Nat} {i k : Nat} : ∀ {n : Nat}, aloneOk all masks i k n = true → ∀ (j : Nat) (x : zh), j < n → all[j]? = some x → x.op.touches = true → (masks.getD j 0).testBit k = true → j = i ∨ (masks.getD i 0).testBit j = true ∨ (masks.getD j 0).testBit i = true
 | 0, _, j, x, h, _ => by omega
 | n + 1, h, j, x, hj, hx => by
  simp only [aloneOk, Bool.and_eq_true] at h
  by_cases e : j = n
  ·subst e
   intro ht hk
   have := h.1
   rw [hx] at this
   simp only [ht, hk, Bool.not_true, Bool.or_false, Bool.or_eq_true] at this
   rcases this with (h1 | h1) | h1
   ·exact .inl (Nat.eq_of_beq_eq_true h1)
   ·exact .inr (.inl h1)
   ·exact .inr (.inr h1)
  ·exact XO h.2 j x (by omega) hx
theorem anc_ok {all : List zh} {masks : List Nat} {i : Nat} : ∀ {n : Nat}, ancOk all masks i n = true → ∀ (k : Nat) (o : zh), k < n → (masks.getD i 0).testBit k = true → all[k]? = some o → (o.op.makes = true ∨ o.op.writes = true) → aloneOk all masks i k all.length = true
 | 0, _, k, o, h, _ => by omega
 | n + 1, h, k, o, hk, hm => by
  simp only [ancOk, Bool.and_eq_true] at h
  by_cases e : k = n
  ·subst e
   intro ho hw
   have := h.1
   rw [ho, hm] at this
   have hw' : (o.op.makes || o.op.writes) = true := by simpa using hw
   simpa only [hw', Bool.not_true, Bool.false_or] using this
  ·exact anc_ok h.2 k o (by omega) hm
theorem mask_lt {os : List Oper} (hok : edgesOks os 0 = true) : ∀ (i : Nat) {o : Oper} {j : Nat}, os[i]? = some o → ((masksOf os []).getD i 0).testBit j = true → j < i := by
 intro i
 induction i using Nat.strongRecOn with
 | ind i ih =>
  intro o j ho h
  obtain ⟨e, h1, h2, h3⟩ := XM ho h
  have he := j5 (k := 0) hok ho e h1 h2
  rw [Nat.zero_add] at he
  rcases h3 with rfl | h3
  ·exact he
  ·have hlt : i < os.length := by
    rcases Nat.lt_or_ge i os.length with h | h
    ·exact h
    ·rw [List.getElem?_eq_none h] at ho; cases ho
   have := ih e.on he (o := os[e.on]) (by simp [show e.on < os.length by omega]) h3
   omega
theorem uH {h : Tr HBlk} : ∀ {n lo b : Nat} {x : HBlk}, (b, x) ∈ newFrom h lo n ↔ lo ≤ b ∧ b < lo + n ∧ h.get b = some x
 | 0, lo, b, x => by simp [newFrom]; omega
 | n + 1, lo, b, x => by
  unfold newFrom
  split
  ·rename_i y hy
   simp only [List.mem_cons, Prod.mk.injEq, uH (n := n) (lo := lo + 1)]
   constructor
   ·rintro (⟨rfl, rfl⟩ | ⟨h1, h2, h3⟩)
    ·exact ⟨by omega, by omega, hy⟩
    ·exact ⟨by omega, by omega, h3⟩
   ·rintro ⟨h1, h2, h3⟩
    by_cases e : b = lo
    ·subst e; rw [hy] at h3; cases h3; exact .inl ⟨rfl, rfl⟩
    ·exact .inr ⟨by omega, by omega, h3⟩
  ·rename_i hy
   rw [uH (n := n) (lo := lo + 1)]
   constructor
   ·rintro ⟨h1, h2, h3⟩; exact ⟨by omega, by omega, h3⟩
   ·rintro ⟨h1, h2, h3⟩
    refine ⟨?_, by omega, h3⟩
    rcases Nat.lt_or_eq_of_le h1 with h | h
    ·exact h
    ·subst h; rw [hy] at h3; cases h3
theorem kX {b : Nat} {x : HBlk} : ∀ {l : List (Nat × HBlk)} {h : Tr HBlk}, (addAll h l).get b = some x → h.get b = some x ∨ (b, x) ∈ l
 | [], h, hx => .inl hx
 | (c, y) :: l, h, hx => by
  rcases kX (l := l) hx with h1 | h1
  ·rw [Tr.get_set] at h1
   by_cases e : b = c
   ·subst e; rw [if_pos rfl] at h1; cases h1; exact .inr (by simp)
   ·rw [if_neg e] at h1; exact .inl h1
  ·exact .inr (by simp [h1])
theorem jd {b : Nat} : ∀ {l : List (Nat × HBlk)} {h : Tr HBlk}, (∀ x, (b, x) ∉ l) → (addAll h l).get b = h.get b
 | [], h, _ => rfl
 | (c, y) :: l, h, hx => by
  have e : b ≠ c := fun e => hx y (by simp [e])
  rw [addAll, jd (fun x hm => hx x (by simp [hm])), Tr.get_set, if_neg e]
theorem uf {anc : Option (List Nat)} {b : Nat} {x : HBlk} : ∀ {ds : List (Nat × List (Nat × HBlk))} {h : Tr HBlk}, (merge h anc ds).get b = some x → h.get b = some x ∨ ∃ j l, (j, l) ∈ ds ∧ (b, x) ∈ l ∧ ∀ asg, anc = some asg → j ∈ asg
 | [], h, hx => .inl hx
 | (j, l) :: ds, h, hx => by
  unfold merge at hx
  rcases uf hx with h1 | ⟨j', l', h1, h2⟩
  ·cases anc with
   | none =>
    simp only [cond_true] at h1
    rcases kX h1 with h1 | h1
    ·exact .inl h1
    ·exact .inr ⟨j, l, by simp, h1, fun _ h => by cases h⟩
   | some asg =>
    simp only at h1
    cases hc : asg.contains j with
    | true =>
     rw [hc] at h1
     rcases kX h1 with h1 | h1
     ·exact .inl h1
     ·exact .inr ⟨j, l, by simp, h1, fun _ h => by cases h; simpa using hc⟩
    | false => rw [hc] at h1; exact .inl h1
  ·exact .inr ⟨j', l', by simp [h1], h2⟩
theorem vT {anc : Option (List Nat)} {b : Nat} : ∀ {ds : List (Nat × List (Nat × HBlk))} {h : Tr HBlk}, (∀ j l, (j, l) ∈ ds → ∀ x, (b, x) ∉ l) → (merge h anc ds).get b = h.get b
 | [], h, _ => rfl
 | (j, l) :: ds, h, hx => by
  unfold merge
  rw [vT (fun j' l' hm => hx j' l' (by simp [hm]))]
  cases anc with
  | none => exact jd (hx j l (by simp))
  | some asg =>
   simp only
   cases asg.contains j with
   | true => exact jd (hx j l (by simp))
   | false => rfl
theorem Post.wide {base fl nx nx' n0 n1 : Nat} {g g' : Hp} {ρ ρ' : Rho} {W W' : World} (h : Post P base fl nx nx' g g' ρ ρ' W W') (h0 : n0 ≤ nx) (h1 : nx' ≤ n1) : Post P base fl n0 n1 g g' ρ ρ' W W' :=
 {h with out := fun b hb => h.out b (by omega) }
theorem Post.and {base fl nx nx' : Nat} {g g1 g' : Hp} {ρ ρ1 ρ' : Rho} {W W1 W' : World} (h : Post P base fl nx nx' g g1 ρ ρ1 W W1) (k : Post P base fl nx nx' g1 g' ρ1 ρ' W1 W') : Post P base fl nx nx' g g' ρ ρ' W W' :=
 {ext := fun b r hr => k.ext b r (h.ext b r hr)
  out := fun b hb => (k.out b hb).trans (h.out b hb)
  sim := k.sim
  os := k.os.trans h.os
  tape := k.tape.trans h.tape
  output := k.output.trans h.output
  frz := fun a => (k.frz a).trans (h.frz a)
  size := Nat.le_trans h.size k.size
  same := fun i hi hm => by
   refine (k.same i (Nat.lt_of_lt_of_le hi h.size) fun hm1 => ?_).trans (h.same i hi hm)
   rcases h.own i hm1 with h1 | h1
   ·omega
   ·exact hm h1
  own := fun i hm => by
   rcases k.own i hm with h1 | h1
   ·exact .inl (Nat.le_trans h.size h1)
   ·exact h.own i h1 }
theorem Post.more {base fl nx nx' : Nat} {g gs g' : Hp} {ρ ρ' : Rho} {W W' : World} (h : Post P base fl nx nx' gs g' ρ ρ' W W') (hs : ∀ b x, gs b = some x → g b = some x) : Post P base fl nx nx' g g' ρ ρ' W W' :=
 {h with
  same := fun k hk hm => h.same k hk fun ⟨b, x, r, h1, h2⟩ => hm ⟨b, x, r, hs _ _ h1, h2⟩
  own := fun k hk => (h.own k hk).imp id fun ⟨b, x, r, h1, h2⟩ => ⟨b, x, r, hs _ _ h1, h2⟩ }
theorem Post.less {base fl nx nx' : Nat} {g g' gs : Hp} {ρ ρ' : Rho} {W W' : World} (h : Post P base fl nx nx' g g' ρ ρ' W W') (hs : ∀ b x, gs b = some x → g' b = some x) : Post P base fl nx nx' g gs ρ ρ' W W' :=
 {h with
  sim := h.sim.less hs
  own := fun k ⟨b, x, r, h1, h2⟩ => h.own k ⟨b, x, r, hs _ _ h1, h2⟩ }
theorem Post.frame {base fl fp nx nx' : Nat} {g gs gs' : Hp} {ρ ρ' : Rho} {W W' : World} (hs : Sim P base g ρ W) (hdom : ∀ b x, gs b = some x → b < nx) (hfp : fp = nx)
  (h : Post P base fp nx nx' gs gs' ρ ρ' W W') : Post P base fl nx nx' g (fun b => if nx ≤ b ∧ b < nx' then gs' b else g b) ρ ρ' W W' := by
 subst hfp
 have none : ∀ k, ¬ May fp gs ρ k := fun k ⟨b, x, r, h1, _, h3, _⟩ => by have := hdom b x h1; omega
 have keep : ∀ k, k < W.heap.size → W'.heap[k]? = W.heap[k]? := fun k hk => h.same k hk (none k)
 have old : ∀ b y, g b = some y → BOk P base ρ' W' b y := fun b y hy => by
  refine (hs.ok b y hy).keep h.ext fun r hr => keep _ ?_
  obtain ⟨r', hr', hlt, _⟩ := (hs.ok b y hy).has
  rw [hr] at hr'; cases hr'; exact hlt
 have oldblk : ∀ b y r, g b = some y → ρ' b = some r → ρ b = some r ∧ r.blk < W.heap.size := fun b y r hy hr => by
  obtain ⟨r', hr', hlt, _⟩ := (hs.ok b y hy).has
  have := h.ext _ _ hr'
  rw [hr] at this; cases this
  exact ⟨hr', hlt⟩
 have newblk : ∀ b y r, fp ≤ b → gs' b = some y → y.own = true → ρ' b = some r → W.heap.size ≤ r.blk := fun b y r hb hy ho hr =>
  (h.own r.blk ⟨b, y, r, hy, ho, hb, hr, rfl⟩).resolve_right (none _)
 refine ⟨h.ext, h.out, ⟨fun b x hx => ?_, fun b b' x x' r r' h1 h2 h3 h4 h5 h6 h7 => ?_⟩, h.os, h.tape, h.output, h.frz, h.size, fun k hk _ => keep k hk, fun k ⟨b, x, r, h1, h2, h3, h4, h5⟩ => ?_⟩
 ·split at hx
  ·exact h.sim.ok b x hx
  ·exact old b x hx
 ·by_cases c1 : fp ≤ b ∧ b < nx' <;> by_cases c2 : fp ≤ b' ∧ b' < nx'
  ·rw [if_pos c1] at h1; rw [if_pos c2] at h2
   exact h.sim.inj b b' x x' r r' h1 h2 h3 h4 h5 h6 h7
  ·rw [if_pos c1] at h1; rw [if_neg c2] at h2
   have q1 := newblk b x r c1.1 h1 h3 h6
   have q2 := (oldblk b' x' r' h2 h7).2
   omega
  ·rw [if_neg c1] at h1; rw [if_pos c2] at h2
   have q1 := newblk b' x' r' c2.1 h2 h4 h7
   have q2 := (oldblk b x r h1 h6).2
   omega
  ·rw [if_neg c1] at h1; rw [if_neg c2] at h2
   exact hs.inj b b' x x' r r' h1 h2 h3 h4 h5 (oldblk _ _ _ h1 h6).1 (oldblk _ _ _ h2 h7).1
 ·by_cases c : fp ≤ b ∧ b < nx'
  ·simp only [if_pos c] at h1
   exact .inl (h5 ▸ newblk b x r c.1 h1 h2 h4)
  ·simp only [if_neg c] at h1
   exact .inr ⟨b, x, r, h1, h2, h3, (oldblk _ _ _ h1 h4).1, h5⟩
theorem Post.frameW {base fl fp nx nx' : Nat} {g gs gs' : Hp} {ρ ρ' : Rho} {W W' : World} (hs : Sim P base g ρ W) (hsub : ∀ b x, gs b = some x → g b = some x) (hfl : fl ≤ fp) (hfp : fp ≤ nx) (hlow : ∀ b, b < fp → gs' b = gs b)
  (h : Post P base fp nx nx' gs gs' ρ ρ' W W') : Post P base fl nx nx' g (fun b => if (nx ≤ b ∧ b < nx') ∨ (gs b).isSome = true then gs' b else g b) ρ ρ' W W' := by
 -- a block that is not seen lies nowhere where the run may write
 have apart : ∀ b y r, g b = some y → (gs b).isSome ≠ true → ρ b = some r → ¬ May fp gs ρ r.blk := by
  rintro b y r hy hn hr ⟨b1, x1, r1, h1, h2, h3, h4, h5⟩
  have hne : b ≠ b1 := fun e => hn (by rw [e, h1]; rfl)
  cases ho : y.own with
  | true => exact hs.inj b b1 y x1 r r1 hy (hsub _ _ h1) ho h2 hne hr h4 h5.symm
  | false =>
   obtain ⟨r2, e2, _, _, lo⟩ := (hs.ok b y hy).has
   rw [hr] at e2; cases e2
   obtain ⟨r3, e3, _, hi, _⟩ := (hs.ok b1 x1 (hsub _ _ h1)).has
   rw [h4] at e3; cases e3
   have := lo ho
   have := hi h2
   omega
 have old : ∀ b y, g b = some y → (gs b).isSome ≠ true → BOk P base ρ' W' b y := fun b y hy hn => by
  refine (hs.ok b y hy).keep h.ext fun r hr => h.same _ ?_ (apart b y r hy hn hr)
  obtain ⟨r', hr', hlt, _⟩ := (hs.ok b y hy).has
  rw [hr] at hr'; cases hr'; exact hlt
 have oldblk : ∀ b y r, g b = some y → ρ' b = some r → ρ b = some r ∧ r.blk < W.heap.size := fun b y r hy hr => by
  obtain ⟨r', hr', hlt, _⟩ := (hs.ok b y hy).has
  have := h.ext _ _ hr'
  rw [hr] at this; cases this
  exact ⟨hr', hlt⟩
 -- what is seen, or new, and what is not seen lie apart
 have cross : ∀ b b' x x' r r', gs' b = some x → g b' = some x' → (gs b').isSome ≠ true → x.own = true → x'.own = true → b ≠ b' → ρ' b = some r → ρ' b' = some r' → r.blk ≠ r'.blk := by
  intro b b' x x' r r' h1 h2 hn h3 h4 h5 h6 h7
  obtain ⟨q1, q2⟩ := oldblk b' x' r' h2 h7
  by_cases c : b < fp
  ·have e1 : gs b = some x := (hlow b c) ▸ h1
   exact hs.inj b b' x x' r r' (hsub _ _ e1) h2 h3 h4 h5 (oldblk b x r (hsub _ _ e1) h6).1 q1
  ·rcases h.own r.blk ⟨b, x, r, h1, h3, by omega, h6, rfl⟩ with h8 | h8
   ·omega
   ·intro e
    rw [e] at h8
    exact apart b' x' r' h2 hn q1 h8
 refine ⟨h.ext, h.out, ⟨fun b x hx => ?_, fun b b' x x' r r' h1 h2 h3 h4 h5 h6 h7 => ?_⟩, h.os, h.tape, h.output, h.frz, h.size, fun k hk hm => ?_, fun k ⟨b, x, r, h1, h2, h3, h4, h5⟩ => ?_⟩
 ·split at hx
  ·exact h.sim.ok b x hx
  ·rename_i c
   exact old b x hx (fun e => c (.inr e))
 ·by_cases c1 : (nx ≤ b ∧ b < nx') ∨ (gs b).isSome = true <;> by_cases c2 : (nx ≤ b' ∧ b' < nx') ∨ (gs b').isSome = true
  ·rw [if_pos c1] at h1; rw [if_pos c2] at h2
   exact h.sim.inj b b' x x' r r' h1 h2 h3 h4 h5 h6 h7
  ·rw [if_pos c1] at h1; rw [if_neg c2] at h2
   exact cross b b' x x' r r' h1 h2 (fun e => c2 (.inr e)) h3 h4 h5 h6 h7
  ·rw [if_neg c1] at h1; rw [if_pos c2] at h2
   exact (cross b' b x' x r' r h2 h1 (fun e => c1 (.inr e)) h4 h3 (Ne.symm h5) h7 h6).symm
  ·rw [if_neg c1] at h1; rw [if_neg c2] at h2
   exact hs.inj b b' x x' r r' h1 h2 h3 h4 h5 (oldblk _ _ _ h1 h6).1 (oldblk _ _ _ h2 h7).1
 ·refine h.same k hk ?_
  rintro ⟨b, x, r, h1, h2, h3, h4, h5⟩
  exact hm ⟨b, x, r, hsub _ _ h1, h2, by omega, h4, h5⟩
 ·by_cases c : (nx ≤ b ∧ b < nx') ∨ (gs b).isSome = true
  ·simp only [if_pos c] at h1
   by_cases c2 : b < fp
   ·have e1 : gs b = some x := (hlow b c2) ▸ h1
    exact .inr ⟨b, x, r, hsub _ _ e1, h2, h3, (oldblk b x r (hsub _ _ e1) h4).1, h5⟩
   ·rcases h.own k ⟨b, x, r, h1, h2, by omega, h4, h5⟩ with h6 | ⟨b1, x1, r1, g1, g2, g3, g4, g5⟩
    ·exact .inl h6
    ·exact .inr ⟨b1, x1, r1, hsub _ _ g1, g2, by omega, g4, g5⟩
  ·simp only [if_neg c] at h1
   exact .inr ⟨b, x, r, h1, h2, h3, (oldblk _ _ _ h1 h4).1, h5⟩
theorem je {o : zh} {fl : Nat} {a : HAct} {σ σ' : HS} {v : HV} (hw : o.op.writes = true) (h : stepVal lp ex fl o a σ = some (v, σ')) : ∀ b, b < σ.nx → σ.h.get b = none → σ'.h.get b = none := by
 intro b hb hn
 have wr : ∀ (σ1 : HS) p vs, σ.write fl p vs = some σ1 → σ1.h.get b = none := by
  intro σ1 p vs hx
  unfold HS.write at hx
  have upd : ∀ cs k, σ.h.get p.1 = some (.cells cs k) → ∀ y, (σ.upd p.1 y).h.get b = none := by
   intro cs k hg y
   show ((σ.h.set p.1 y).get b) = none
   rw [Tr.get_set]
   by_cases e : b = p.1
   ·rw [e, hg] at hn; cases hn
   ·rw [if_neg e]; exact hn
  split at hx
  ·cases hx
  ·rename_i cs k hne hg
   revert hx
   generalize (Nat.ble fl p.1 && vs.all HV.one) = c
   intro hx
   cases c with
   | false => cases hx
   | true =>
    simp only [cond_true, Option.map_eq_some_iff] at hx
    obtain ⟨cs', _, rfl⟩ := hx
    exact upd _ _ hg _
  ·cases hx
 unfold stepVal at h
 cases hg : wantedH o.g a with
 | false => rw [hg] at h; cases h; exact hn
 | true =>
  rw [hg] at h
  simp only [cond_true] at h
  cases hop : o.op <;> rw [hop] at h hw <;> simp only [LOp.writes, reduceCtorEq] at hw <;> simp only [opH] at h
  case store n x y =>
   unfold oStore at h
   split at h
   ·rename_i p hp
    revert h
    generalize Nat.beq _ n = c
    intro h
    cases c with
    | false => cases h
    | true =>
     simp only [cond_true] at h
     split at h
     ·rename_i σ1 h1
      cases h
      exact wr _ _ _ h1
     ·cases h
   ·cases h
  case mapUpdate d m k y =>
   unfold oMapUpdate at h
   revert h
   generalize keyOk d (a.ev k) = c
   intro h
   cases c with
   | false => cases h
   | true =>
    simp only [cond_true] at h
    split at h
    ·rename_i r hr
     split at h
     ·rename_i es hes
      revert h
      generalize Nat.ble fl r = c
      intro h
      cases c with
      | false => cases h
      | true =>
       simp only [cond_true] at h
       split at h
       ·cases h
        show ((σ.h.set r _).get b) = none
        rw [Tr.get_set]
        by_cases e : b = r
        ·rw [e, hes] at hn; cases hn
        ·rw [if_neg e]; exact hn
       ·cases h
     ·cases h
    ·cases h
  case copy size x y =>
   unfold oCopy at h
   unfold copyH at h
   split at h
   ·split at h
    ·cases h
    ·split at h
     ·cases h; exact hn
     ·cases h
     ·simp only [Option.map_eq_some_iff] at h
      obtain ⟨σ1, h1, h2⟩ := h
      cases h2
      exact wr _ _ _ h1
   ·cases h
  case append size bytes s x =>
   unfold oAppend at h
   have new : ∀ (σ1 : HS) blk, σ1.nx = σ.nx → σ1.h.get b = none → (σ1.new blk).h.get b = none := by
    intro σ1 blk e1 e2
    show ((σ1.h.set σ1.nx (some blk)).get b) = none
    rw [Tr.get_set, if_neg (by omega)]
    exact e2
   unfold appendH at h
   split at h
   ·rename_i sa sl sc xa xl xc hsv hxv
    split at h
    ·cases h
    ·rename_i news hnews
     revert h
     generalize Nat.ble (sl + xl) sc = c1
     intro h
     cases c1 with
     | true =>
      simp only [cond_true] at h
      split at h
      ·cases h; exact hn
      ·cases h
      ·simp only [Option.map_eq_some_iff] at h
       obtain ⟨σ1, h1, h2⟩ := h
       cases h2
       exact wr _ _ _ h1
     | false =>
      simp only [cond_false] at h
      revert h
      generalize (Nat.ble ((sl + xl) * bytes) 35184372088832 && Nat.ble (sl + xl) 35184372088832 && Nat.blt 0 size) = c2
      intro h
      cases c2 with
      | false => cases h
      | true =>
       simp only [cond_true] at h
       split at h
       ·revert h
        generalize Nat.beq sl 0 = c3
        intro h
        cases c3 with
        | false => cases h
        | true => cases h; exact new _ _ rfl hn
       ·split at h
        ·cases h; exact new _ _ rfl hn
        ·rename_i a1 cs z old hg1 hr1
         revert h
         generalize (Nat.ble fl _ && Nat.beq z size && Nat.beq _ _ && news.all HV.one) = c3
         intro h
         cases c3 with
         | false => cases h
         | true =>
          cases h
          refine new _ _ rfl ?_
          show ((σ.h.set _ none).get b) = none
          rw [Tr.get_set]
          split
          ·rfl
          ·exact hn
        ·cases h
   ·cases h
end Go.Hx

namespace Go.Hx
variable {P : Program} {lp : Nat → Option zp} {ex : Ex}
def Fl (N : Nat → List Nat) (j : Nat) : Prop := (N j).contains j = true
def Hold (N : Nat → List Nat) (n0 : Nat) (S S' : Nat → HS) (j b : Nat) : Prop := ((S j).nx ≤ b ∨ (Fl N j ∧ n0 ≤ b)) ∧ b < (S' j).nx
def Live (N : Nat → List Nat) (j lo hi : Nat) : Prop := ∀ m, lo ≤ m → m < hi → Fl N m → j ∉ N m
theorem kV {anc : List Nat} {j : Nat} {l : List (Nat × HBlk)} : ∀ {ds : List (Nat × List (Nat × HBlk))}, (j, l) ∈ dropAll anc ds → (j, l) ∈ ds ∧ j ∉ anc
 | [], h => by cases h
 | (k, m) :: ds, h => by
  unfold dropAll at h
  revert h
  cases hc : anc.contains k with
  | true => intro h; obtain ⟨h1, h2⟩ := kV h; exact ⟨by simp [h1], h2⟩
  | false =>
   intro h
   simp only [cond_false, List.mem_cons, Prod.mk.injEq] at h
   rcases h with ⟨rfl, rfl⟩ | h
   ·refine ⟨by simp, fun hm => ?_⟩
    have : anc.contains j = true := by simpa using hm
    rw [this] at hc; cases hc
   ·obtain ⟨h1, h2⟩ := kV h
    exact ⟨by simp [h1], h2⟩
structure Trace (lp : Nat → Option zp) (ex : Ex) (fl s n0 : Nat) (h0 : Tr HBlk) (N : Nat → List Nat) (os : List zh) (i : Nat) (done : List (Nat × List (Nat × HBlk))) (v : Nat → HV) (A : Nat → HAct) (S S' : Nat → HS) (z : Nat) : Prop where
 lo : i ≤ z
 hi : z ≤ i + os.length
 side : ∀ k, k < os.length → (i + k < z ↔ i + k < s)
 act : ∀ k o, os[k]? = some o → A (i + k + 1) = (A (i + k)).put o.dst (v (i + k))
 pure : ∀ k o, os[k]? = some o → i + k < z → stepVal lp ex (bif (N (i + k)).contains (i + k) then Nat.max fl n0 else Nat.max fl (S (i + k)).nx) o (A (i + k)) (S (i + k)) = some (v (i + k), S' (i + k)) ∧ (S (i + k)).nx ≤ (S' (i + k)).nx ∧ (S (i + k + 1)).nx = (S' (i + k)).nx
 from_ : ∀ k, k < os.length → i + k < z → ∀ b x, (S (i + k)).h.get b = some x → h0.get b = some x ∨ (∃ j l, (j, l) ∈ done ∧ (b, x) ∈ l ∧ j ∈ N (i + k) ∧ Live N j i (i + k)) ∨ ∃ j, i ≤ j ∧ j < i + k ∧ j ∈ N (i + k) ∧ Live N j (j + 1) (i + k) ∧ Hold N n0 S S' j b ∧ (S' j).h.get b = some x
 zone : ∀ k o, os[k]? = some o → z ≤ i + k → stepVal lp ex fl o (A (i + k)) (S (i + k)) = some (v (i + k), S' (i + k)) ∧ S (i + k + 1) = S' (i + k)
 all : ∀ b x, (S z).h.get b = some x → h0.get b = some x ∨ (∃ j l, (j, l) ∈ done ∧ (b, x) ∈ l ∧ Live N j i z) ∨ ∃ j, i ≤ j ∧ j < z ∧ Live N j (j + 1) z ∧ Hold N n0 S S' j b ∧ (S' j).h.get b = some x
 other : ∀ b, (∀ j l, (j, l) ∈ done → ∀ x, (b, x) ∉ l) → (∀ j, i ≤ j → j < z → ¬ Hold N n0 S S' j b) → (S z).h.get b = h0.get b
theorem kp {fl : Nat} : ∀ (os : List zh) (i : Nat) (a a' : HAct) (σ σ' : HS), runOps lp ex fl os a σ = some (a', σ') →
  ∃ (v : Nat → HV) (A : Nat → HAct) (S : Nat → HS), A i = a ∧ S i = σ ∧ A (i + os.length) = a' ∧ S (i + os.length) = σ' ∧ ∀ k o, os[k]? = some o → stepVal lp ex fl o (A (i + k)) (S (i + k)) = some (v (i + k), S (i + k + 1)) ∧ A (i + k + 1) = (A (i + k)).put o.dst (v (i + k))
 | [], i, a, a', σ, σ', h => by
  cases h
  exact ⟨fun _ => .undef, fun _ => a, fun _ => σ, rfl, rfl, rfl, rfl, fun k o ho => by simp at ho⟩
 | o :: os, i, a, a', σ, σ', h => by
  unfold runOps at h
  split at h
  ·rename_i a1 σ1 h1
   obtain ⟨v0, hv, rfl⟩ := vP h1
   obtain ⟨v, A, S, e1, e2, e3, e4, e5⟩ := kp os (i + 1) _ a' σ1 σ' h
   refine ⟨fun j => if j = i then v0 else v j, fun j => if j = i then a else A j, fun j => if j = i then σ else S j, by simp, by simp, ?_, ?_, ?_⟩
   ·rw [List.length_cons]; dsimp only; rw [if_neg (by omega), ← e3]; congr 1; omega
   ·rw [List.length_cons]; dsimp only; rw [if_neg (by omega), ← e4]; congr 1; omega
   ·intro k o' ho
    cases k with
    | zero =>
     simp at ho
     subst ho
     simp only [Nat.add_zero, if_true, if_neg (show ¬ i + 1 = i by omega), e1, e2]
     exact ⟨hv, trivial⟩
    | succ k =>
     have := e5 k o' (by simpa using ho)
     dsimp only
     rw [if_neg (by omega), if_neg (by omega), if_neg (by omega), if_neg (by omega), if_neg (by omega)]
     rw [show i + (k + 1) = i + 1 + k by omega]
     exact this
  ·cases h
theorem uy {fl s n0 : Nat} {h0 : Tr HBlk} {N : Nat → List Nat} : ∀ (os : List zh) (i : Nat) (done : List (Nat × List (Nat × HBlk))) (a a' : HAct) (nx : Nat) (σ' : HS), (∀ k o, os[k]? = some o → o.anc = N (i + k)) → drawOps lp ex fl s n0 h0 os i done a nx = some (a', σ') →
  ∃ (v : Nat → HV) (A : Nat → HAct) (S S' : Nat → HS) (z : Nat), A i = a ∧ (S i).nx = nx ∧ A (i + os.length) = a' ∧ S (i + os.length) = σ' ∧ Trace lp ex fl s n0 h0 N os i done v A S S' z
 | [], i, done, a, a', nx, σ', hN, h => by
  cases h
  refine ⟨fun _ => .undef, fun _ => a, fun _ => ⟨merge h0 none done, nx⟩, fun _ => ⟨merge h0 none done, nx⟩, i, rfl, rfl, rfl, rfl, Nat.le_refl _, by simp, fun k hk => by simp at hk, fun k o ho => by simp at ho, fun k o ho => by simp at ho, fun k ho => by simp at ho, fun k o ho => by simp at ho, fun b x hx => ?_, fun b hb _ => vT hb⟩
  rcases uf hx with h1 | ⟨j, l, h1, h2, _⟩
  ·exact .inl h1
  ·exact .inr (.inl ⟨j, l, h1, h2, fun m h3 h4 => by omega⟩)
 | o :: os, i, done, a, a', nx, σ', hN, h => by
  have hNi : o.anc = N i := by have := hN 0 o rfl; simpa using this
  unfold drawOps at h
  cases hc : Nat.blt i s with
  | false =>
   rw [hc] at h
   have hs : s ≤ i := by
    have : ¬ i < s := by intro h; rw [← Nat.blt_eq] at h; rw [h] at hc; cases hc
    omega
   obtain ⟨v, A, S, e1, e2, e3, e4, e5⟩ := kp (o :: os) i a a' _ σ' h
   refine ⟨v, A, S, fun j => S (j + 1), i, e1, by rw [e2], e3, e4, Nat.le_refl _, by simp, fun k _ => by omega, fun k o ho => (e5 k o ho).2, fun k o ho hk => by omega, fun k ho hk => by omega, fun k o ho _ => ⟨(e5 k o ho).1, rfl⟩, fun b x hx => ?_, fun b hb _ => ?_⟩
   ·rw [e2] at hx
    rcases uf hx with h1 | ⟨j, l, h1, h2, _⟩
    ·exact .inl h1
    ·exact .inr (.inl ⟨j, l, h1, h2, fun m h3 h4 => by omega⟩)
   ·rw [e2]; exact vT hb
  | true =>
   have hs := vY hc
   rw [hc] at h
   simp only [cond_true] at h
   have key : ∃ (v0 : HV) (σ1 : HS) (done' : List (Nat × List (Nat × HBlk))), stepVal lp ex (bif (N i).contains i then Nat.max fl n0 else Nat.max fl nx) o a ⟨merge h0 (some o.anc) done, nx⟩ = some (v0, σ1) ∧ nx ≤ σ1.nx ∧
     drawOps lp ex fl s n0 h0 os (i + 1) done' (a.put o.dst v0) σ1.nx = some (a', σ') ∧
     (∀ j l, (j, l) ∈ done' → ((j, l) ∈ done ∧ (Fl N i → j ∉ N i)) ∨ (j = i ∧ ∀ b x, (b, x) ∈ l → ((nx ≤ b ∨ (Fl N i ∧ n0 ≤ b)) ∧ b < σ1.nx) ∧ σ1.h.get b = some x)) := by
    cases hw : o.anc.contains i with
    | true =>
     rw [hw] at h
     simp only [cond_true] at h
     split at h
     ·rename_i a1 σ1 h1
      obtain ⟨v0, hv, rfl⟩ := vP h1
      cases hle : Nat.ble nx σ1.nx with
      | false => rw [hle] at h; cases h
      | true =>
       rw [hle] at h
       simp only [Bool.not_true, cond_false] at h
       refine ⟨v0, σ1, _, by rw [← hNi, hw]; exact hv, Nat.le_of_ble_eq_true hle, h, fun j l hm => ?_⟩
       simp only [List.mem_cons, Prod.mk.injEq] at hm
       rcases hm with ⟨rfl, rfl⟩ | hm
       ·refine .inr ⟨rfl, fun b x hx => ?_⟩
        rw [uH] at hx
        exact ⟨⟨.inr ⟨by unfold Fl; rw [← hNi]; exact hw, hx.1⟩, by omega⟩, hx.2.2⟩
       ·obtain ⟨h2, h3⟩ := kV hm
        exact .inl ⟨h2, fun _ => by rw [← hNi]; exact h3⟩
     ·cases h
    | false =>
     rw [hw] at h
     simp only [cond_false] at h
     split at h
     ·rename_i a1 σ1 h1
      obtain ⟨v0, hv, rfl⟩ := vP h1
      cases hle : Nat.ble nx σ1.nx with
      | false => rw [hle] at h; cases h
      | true =>
       rw [hle] at h
       simp only [Bool.not_true, cond_false] at h
       refine ⟨v0, σ1, _, by rw [← hNi, hw]; exact hv, Nat.le_of_ble_eq_true hle, h, fun j l hm => ?_⟩
       rw [yD] at hm
       have nf : ¬ Fl N i := by unfold Fl; rw [← hNi, hw]; decide
       split at hm
       ·exact .inl ⟨hm, fun e => absurd e nf⟩
       ·simp only [List.mem_cons, Prod.mk.injEq] at hm
        rcases hm with ⟨rfl, rfl⟩ | hm
        ·refine .inr ⟨rfl, fun b x hx => ?_⟩
         rw [uH] at hx
         exact ⟨⟨.inl hx.1, by omega⟩, hx.2.2⟩
        ·exact .inl ⟨hm, fun e => absurd e nf⟩
     ·cases h
   obtain ⟨v0, σ1, done', hv, hle, h, inD⟩ := key
   obtain ⟨v, A, S, S', z, e1, e2, e3, e4, t⟩ := uy os (i + 1) done' _ a' σ1.nx σ' (fun k o' ho => by have := hN (k + 1) o' (by simpa using ho); rw [this]; congr 1; omega) h
   have tlo := t.lo
   have thi := t.hi
   have hold : ∀ j b, j ≠ i → (Hold N n0 (fun j => if j = i then ⟨merge h0 (some o.anc) done, nx⟩ else S j) (fun j => if j = i then σ1 else S' j) j b ↔ Hold N n0 S S' j b) := fun j b hj => by
    unfold Hold
    simp only [if_neg hj]
   have hold0 : ∀ b, (Hold N n0 (fun j => if j = i then ⟨merge h0 (some o.anc) done, nx⟩ else S j) (fun j => if j = i then σ1 else S' j) i b ↔ ((nx ≤ b ∨ (Fl N i ∧ n0 ≤ b)) ∧ b < σ1.nx)) := fun b => by
    unfold Hold
    simp only [if_true]
   have live : ∀ j k, (Fl N i → j ∉ N i) → Live N j (i + 1) k → Live N j i k := fun j k h1 h2 m h3 h4 h5 => by
    by_cases e : m = i
    ·subst e; exact h1 h5
    ·exact h2 m (by omega) h4 h5
   refine ⟨fun j => if j = i then v0 else v j, fun j => if j = i then a else A j, fun j => if j = i then ⟨merge h0 (some o.anc) done, nx⟩ else S j, fun j => if j = i then σ1 else S' j, z, by simp, by simp, ?_, ?_, by omega, by simp; omega, ?_, ?_, ?_, ?_, ?_, ?_, ?_⟩
   ·rw [List.length_cons]; dsimp only; rw [if_neg (by omega), ← e3]; congr 1; omega
   ·rw [List.length_cons]; dsimp only; rw [if_neg (by omega), ← e4]; congr 1; omega
   ·intro k hk
    cases k with
    | zero => constructor <;> intro _ <;> omega
    | succ k =>
     have := t.side k (by simpa using hk)
     rw [show i + (k + 1) = i + 1 + k by omega]
     exact this
   ·intro k o' ho
    cases k with
    | zero =>
     simp at ho
     subst ho
     simp only [Nat.add_zero, if_true, if_neg (show ¬ i + 1 = i by omega), e1]
    | succ k =>
     have := t.act k o' (by simpa using ho)
     rw [if_neg (by omega), if_neg (by omega), if_neg (by omega)]
     rw [show i + (k + 1) = i + 1 + k by omega]
     exact this
   ·intro k o' ho hk
    cases k with
    | zero =>
     simp at ho
     subst ho
     simp only [Nat.add_zero, if_true, if_neg (show ¬ i + 1 = i by omega), e2]
     exact ⟨hv, hle, trivial⟩
    | succ k =>
     have := t.pure k o' (by simpa using ho) (by omega)
     rw [if_neg (by omega), if_neg (by omega), if_neg (by omega), if_neg (by omega), if_neg (by omega)]
     rw [show i + (k + 1) = i + 1 + k by omega]
     exact this
   ·intro k hkl hk b x hx
    cases k with
    | zero =>
     simp only [Nat.add_zero, if_true] at hx
     rcases uf hx with h1 | ⟨j, l, h1, h2, h3⟩
     ·exact .inl h1
     ·exact .inr (.inl ⟨j, l, h1, h2, by rw [Nat.add_zero, ← hNi]; exact h3 _ rfl, fun m h3 h4 => by omega⟩)
    | succ k =>
     simp only [if_neg (show ¬ i + (k + 1) = i by omega)] at hx
     rw [show i + (k + 1) = i + 1 + k by omega] at hx ⊢
     rcases t.from_ k (by simpa using hkl) (by omega) b x hx with h1 | ⟨j, l, h1, h2, h3, h4⟩ | ⟨j, h1, h2, h3, h4, h5, h6⟩
     ·exact .inl h1
     ·rcases inD j l h1 with ⟨h5, h6⟩ | ⟨rfl, h5⟩
      ·exact .inr (.inl ⟨j, l, h5, h2, h3, live j _ h6 h4⟩)
      ·obtain ⟨h6, h7⟩ := h5 b x h2
       refine .inr (.inr ⟨j, by omega, by omega, h3, h4, (hold0 b).2 h6, ?_⟩)
       simp only [if_true]
       exact h7
     ·refine .inr (.inr ⟨j, by omega, by omega, h3, h4, (hold j b (by omega)).2 h5, ?_⟩)
      simp only [if_neg (show ¬ j = i by omega)]
      exact h6
   ·intro k o' ho hk
    cases k with
    | zero => omega
    | succ k =>
     have := t.zone k o' (by simpa using ho) (by omega)
     rw [if_neg (by omega), if_neg (by omega), if_neg (by omega), if_neg (by omega), if_neg (by omega)]
     rw [show i + (k + 1) = i + 1 + k by omega]
     exact this
   ·intro b x hx
    simp only [if_neg (show ¬ z = i by omega)] at hx
    rcases t.all b x hx with h1 | ⟨j, l, h1, h2, h3⟩ | ⟨j, h1, h2, h4, h5, h6⟩
    ·exact .inl h1
    ·rcases inD j l h1 with ⟨h5, h6⟩ | ⟨rfl, h5⟩
     ·exact .inr (.inl ⟨j, l, h5, h2, live j _ h6 h3⟩)
     ·obtain ⟨h6, h7⟩ := h5 b x h2
      refine .inr (.inr ⟨j, by omega, by omega, h3, (hold0 b).2 h6, ?_⟩)
      simp only [if_true]
      exact h7
    ·refine .inr (.inr ⟨j, by omega, by omega, h4, (hold j b (by omega)).2 h5, ?_⟩)
     simp only [if_neg (show ¬ j = i by omega)]
     exact h6
   ·intro b hb hj
    simp only [if_neg (show ¬ z = i by omega)]
    refine t.other b (fun j l hm x hx => ?_) (fun j h1 h2 h3 => ?_)
    ·rcases inD j l hm with ⟨hm, _⟩ | ⟨rfl, h5⟩
     ·exact hb j l hm x hx
     ·exact hj j (by omega) (by omega) ((hold0 b).2 (h5 b x hx).1)
    ·exact hj j (by omega) h2 ((hold j b (by omega)).2 h3)
theorem draw_le (hle : ExLe ex) : DrawLe lp ex := by
 intro fl s ops a a' σ σ' h
 obtain ⟨v, A, S, S', z, e1, e2, e3, e4, t⟩ := uy (N := fun k => ((ops[k]?).map (·.anc)).getD []) ops 0 [] a a' σ.nx σ' (fun k o ho => by simp [ho]) h
 have : ∀ k, k ≤ ops.length → σ.nx ≤ (S (0 + k)).nx := by
  intro k
  induction k with
  | zero => intro _; rw [e2]; exact Nat.le_refl _
  | succ k ih =>
   intro hk
   have hk' : k < ops.length := by omega
   have ho : ops[k]? = some ops[k] := by simp [hk']
   have := ih (by omega)
   by_cases hz : 0 + k < z
   ·obtain ⟨_, h2, h3⟩ := t.pure k _ ho hz
    rw [show 0 + (k + 1) = 0 + k + 1 by omega, h3]
    omega
   ·obtain ⟨h1, h2⟩ := t.zone k _ ho (by omega)
    rw [show 0 + (k + 1) = 0 + k + 1 by omega, h2]
    have := vB hle h1
    omega
 rw [← e4]
 exact this _ (Nat.le_refl _)
end Go.Hx

namespace Go.Hx
variable {P : Program} {lp : Nat → Option zp} {ex : Ex}
def flo (N : Nat → List Nat) (σ : HS) (S : Nat → HS) (i : Nat) : Nat := bif (N i).contains i then σ.nx else (S i).nx
structure DF (P : Program) (lp : Nat → Option zp) (ex : Ex) (ops : Array Oper) (fl z : Nat) (σ : HS) (v : Nat → HV) (A : Nat → HAct) (S S' : Nat → HS) (mask : Nat → Nat) (N : Nat → List Nat) : Prop where
 zN : z ≤ ops.size
 flo : fl ≤ σ.nx
 dom : Dom σ
 n0 : (S 0).nx = σ.nx
 edge : ∀ i o, ops[i]? = some o → ∀ e ∈ o.after, Region.binds .any e = true → e.on < i
 anc : ∀ i o, ops[i]? = some o → ∀ j, (mask i).testBit j = true → ∃ e ∈ o.after, Region.binds .any e = true ∧ (j = e.on ∨ (mask e.on).testBit j = true)
 lt : ∀ i o, ops[i]? = some o → ∀ j, (mask i).testBit j = true → j < i
 nsub : ∀ i o, ops[i]? = some o → ∀ j, j ∈ N i → j = i ∨ (mask i).testBit j = true
 exc : ∀ i o, ops[i]? = some o → Fl N i → ∀ k, k ∈ N i → k ≠ i → ∀ j x, ops[j]? = some x → (lowOper P ops x).op.touches = true → (mask j).testBit k = true → j = i ∨ (mask i).testBit j = true ∨ (mask j).testBit i = true
 wr : ∀ i o, ops[i]? = some o → Fl N i → (lowOper P ops o).op.writes = true
 cl : ∀ i o j x, ops[i]? = some o → ops[j]? = some x → j < i → (mask i).testBit j = true ∨ clash (lowOper P ops x) (lowOper P ops o) = false
 ord : ∀ i o j x, ops[i]? = some o → ops[j]? = some x → j < i → z ≤ i → (mask i).testBit j = true ∨ (lowOper P ops x).op.touches = false ∨ (lowOper P ops o).op.touches = false ∨ ((lowOper P ops x).op.reads = true ∧ (lowOper P ops o).op.reads = true) ∨ (z ≤ j ∧ (lowOper P ops x).op.reads = true ∧ stepVal lp ex fl (lowOper P ops x) (A j) (S' i) = some (v j, S' i))
 act : ∀ i o, ops[i]? = some o → A (i + 1) = (A i).put o.dst (v i)
 pure : ∀ i o, ops[i]? = some o → i < z → stepVal lp ex (Hx.flo N σ S i) (lowOper P ops o) (A i) (S i) = some (v i, S' i)
 nxt : ∀ i, i < ops.size → (S i).nx ≤ (S (i + 1)).nx ∧ (S (i + 1)).nx = (S' i).nx
 from_ : ∀ i, i < ops.size → i < z → ∀ b x, (S i).h.get b = some x → σ.h.get b = some x ∨ ∃ j, j < i ∧ j ∈ N i ∧ Live N j (j + 1) i ∧ Hold N σ.nx S S' j b ∧ (S' j).h.get b = some x
 zone : ∀ i o, ops[i]? = some o → z ≤ i → stepVal lp ex fl (lowOper P ops o) (A i) (S i) = some (v i, S' i) ∧ S (i + 1) = S' i
 all : ∀ b x, (S z).h.get b = some x → σ.h.get b = some x ∨ ∃ j, j < z ∧ Live N j (j + 1) z ∧ Hold N σ.nx S S' j b ∧ (S' j).h.get b = some x
 other : ∀ b, (∀ j, j < z → ¬ Hold N σ.nx S S' j b) → (S z).h.get b = σ.h.get b
section
variable {ops : Array Oper} {fl z : Nat} {σ : HS} {v : Nat → HV} {A : Nat → HAct} {S S' : Nat → HS} {mask : Nat → Nat} {N : Nat → List Nat}
theorem DF.mono (d : DF P lp ex ops fl z σ v A S S' mask N) {i j : Nat} (h : i ≤ j) (hj : j ≤ ops.size) : (S i).nx ≤ (S j).nx := by
 induction j with
 | zero => rw [show i = 0 by omega]; exact Nat.le_refl _
 | succ j ih =>
  by_cases e : i = j + 1
  ·rw [e]; exact Nat.le_refl _
  ·exact Nat.le_trans (ih (by omega) (by omega)) (d.nxt j (by omega)).1
theorem DF.apart (d : DF P lp ex ops fl z σ v A S S' mask N) {i j b : Nat} (hi : i < ops.size) (hj : j < ops.size) (hne : i ≠ j) (h1 : (S i).nx ≤ b) (h2 : b < (S' i).nx) (h3 : (S j).nx ≤ b) (h4 : b < (S' j).nx) : False := by
 have e1 := (d.nxt i hi).2
 have e2 := (d.nxt j hj).2
 rcases Nat.lt_or_gt_of_ne hne with h | h
 ·have := d.mono (i := i + 1) (j := j) h (by omega)
  omega
 ·have := d.mono (i := j + 1) (j := i) h (by omega)
  omega
theorem DF.step (d : DF P lp ex ops fl z σ v A S S' mask N) {i : Nat} {o : Oper} (ho : ops[i]? = some o) : ∃ f, stepVal lp ex f (lowOper P ops o) (A i) (S i) = some (v i, S' i) := by
 by_cases h : i < z
 ·exact ⟨_, d.pure i o ho h⟩
 ·exact ⟨_, (d.zone i o ho (by omega)).1⟩
theorem DF.untouch (d : DF P lp ex ops fl z σ v A S S' mask N) {i : Nat} {o : Oper} (ho : ops[i]? = some o) (ht : (lowOper P ops o).op.touches = false) : S' i = S i := by
 obtain ⟨f, h⟩ := d.step ho
 exact (jf ht h).1
theorem Xl {fl : Nat} {l : LOp} {a : HAct} {σ σ' : HS} {v : HV} (hr : l.reads = true) (h : opH lp ex fl l a σ = some (v, σ')) : σ' = σ := by
 cases l <;> simp only [LOp.reads, reduceCtorEq] at hr <;> simp only [opH] at h
 case load =>
  unfold oLoad at h
  split at h
  ·split at h
   ·exact (ye h).2
   ·cases h
  ·cases h
 case lookup =>
  unfold oLookup at h
  revert h
  generalize keyOk _ _ = c
  intro h
  cases c with
  | false => cases h
  | true =>
   simp only [cond_true] at h
   split at h
   ·cases h; rfl
   ·split at h
    ·split at h
     ·cases h; rfl
     ·cases h; rfl
     ·cases h
    ·cases h
   ·cases h
 case len => exact (ye h).2
theorem DF.still1 (d : DF P lp ex ops fl z σ v A S S' mask N) {i : Nat} {o : Oper} (ho : ops[i]? = some o) (ht : (lowOper P ops o).op.chg = false) : S' i = S i := by
 cases h1 : (lowOper P ops o).op.touches with
 | false => exact d.untouch ho h1
 | true =>
  have hr : (lowOper P ops o).op.reads = true := by
   unfold LOp.chg at ht
   rw [h1] at ht
   simpa using ht
  obtain ⟨f, h⟩ := d.step ho
  unfold stepVal at h
  cases hw : wantedH (lowOper P ops o).g (A i) with
  | false => rw [hw] at h; exact (Prod.mk.inj (Option.some.inj h)).2.symm
  | true => rw [hw] at h; exact Xl hr h
theorem yK {o : LOp} (h : o.chg = true) : o.touches = true := by unfold LOp.chg at h; cases ht : o.touches with
 | false => rw [ht] at h; cases h
 | true => rfl
theorem y4 {o : LOp} (h : o.chg = true) : o.reads = false := by unfold LOp.chg at h; cases ht : o.reads with
 | true => rw [ht] at h; simp at h
 | false => rfl
theorem XQ {o : LOp} (h : o.writes = true) : o.chg = true := by
 cases o <;> first | rfl | (exact absurd h (by decide)) | (simp only [LOp.writes, reduceCtorEq] at h)
theorem kK {o : LOp} (h : o.writes = true) : o.touches = true := by
 cases o <;> first | rfl | (exact absurd h (by decide)) | (simp only [LOp.writes, reduceCtorEq] at h)
theorem DF.hold_ge (d : DF P lp ex ops fl z σ v A S S' mask N) {j b : Nat} (hj : j < ops.size) (h : Hold N σ.nx S S' j b) : σ.nx ≤ b := by
 have := d.mono (i := 0) (j := j) (Nat.zero_le _) (by omega)
 rw [d.n0] at this
 rcases h.1 with h | h
 ·omega
 ·exact h.2
theorem DF.flo_le (d : DF P lp ex ops fl z σ v A S S' mask N) {i : Nat} (hi : i < ops.size) : σ.nx ≤ Hx.flo N σ S i ∧ Hx.flo N σ S i ≤ (S i).nx := by
 have := d.mono (i := 0) (j := i) (Nat.zero_le _) (by omega)
 rw [d.n0] at this
 unfold Hx.flo
 cases (N i).contains i with
 | true => exact ⟨Nat.le_refl _, this⟩
 | false => exact ⟨this, Nat.le_refl _⟩
theorem DF.saw (d : DF P lp ex ops fl z σ v A S S' mask N) {j b : Nat} {x : HBlk} (hj : j < ops.size) (hz : j < z) (h : Hold N σ.nx S S' j b) (hb : b < (S j).nx) (hx : (S' j).h.get b = some x) :
  ∃ y k, k < j ∧ k ∈ N j ∧ Live N k (k + 1) j ∧ Hold N σ.nx S S' k b ∧ (S' k).h.get b = some y := by
 have ho : ops[j]? = some ops[j] := by simp [hj]
 have hf : Fl N j := by
  rcases h.1 with h | h
  ·omega
  ·exact h.1
 cases hy : (S j).h.get b with
 | none =>
  have := je (d.wr j _ ho hf) (d.pure j _ ho hz) b hb hy
  rw [this] at hx; cases hx
 | some y =>
  rcases d.from_ j hj hz b y hy with h1 | ⟨k, h1, h2, h3, h4, h5⟩
  ·have := d.dom b y h1
   have := d.hold_ge hj h
   omega
  ·exact ⟨y, k, h1, h2, h3, h4, h5⟩
inductive Reach (N : Nat → List Nat) : Nat → Nat → Prop
 | refl (j : Nat) : Reach N j j
 | step {j k m : Nat} (h : k ∈ N j) (hk : k < j) (r : Reach N k m) : Reach N j m
theorem Reach.le {N : Nat → List Nat} {j m : Nat} (h : Reach N j m) : m ≤ j := by
 induction h with
 | refl => exact Nat.le_refl _
 | step _ hk _ ih => omega
theorem DF.uniq (d : DF P lp ex ops fl z σ v A S S' mask N) {b : Nat} : ∀ (j' j : Nat), j < j' → j' < z → Hold N σ.nx S S' j b → Hold N σ.nx S S' j' b → ∀ x y, (S' j).h.get b = some x → (S' j').h.get b = some y →
  ∃ m, Reach N j' m ∧ Fl N m ∧ j ∈ N m ∧ j < m := by
 intro j'
 induction j' using Nat.strongRecOn with
 | ind j' ih =>
  intro j hj hz h1 h2 x y hx hy
  have hN := d.zN
  have e1 := (d.nxt j (by omega)).2
  have e2 := d.mono (i := j + 1) (j := j') hj (by omega)
  have hb : b < (S j').nx := by have := h1.2; omega
  have hf : Fl N j' := by
   rcases h2.1 with h | h
   ·omega
   ·exact h.1
  obtain ⟨y2, k, k1, k2, k3, k4, k5⟩ := d.saw (by omega) hz h2 hb hy
  rcases Nat.lt_trichotomy j k with c | c | c
  ·obtain ⟨m, m1, m2, m3, m4⟩ := ih k k1 j c (by omega) h1 k4 x y2 hx k5
   exact ⟨m, .step k2 k1 m1, m2, m3, m4⟩
  ·subst c
   exact ⟨j', .refl _, hf, k2, hj⟩
  ·obtain ⟨m, m1, m2, m3, m4⟩ := ih j hj k c (by omega) k4 h1 y2 x k5 hx
   have := m1.le
   exact absurd m3 (k3 m (by omega) (by omega) m2)
theorem DF.still (d : DF P lp ex ops fl z σ v A S S' mask N) {k i : Nat} (hz : z ≤ k) (hk : k ≤ i) (hi : i ≤ ops.size) (h : ∀ j o, k ≤ j → j < i → ops[j]? = some o → (lowOper P ops o).op.chg = false) : S i = S k := by
 induction i with
 | zero => rw [show k = 0 by omega]
 | succ i ih =>
  by_cases e : k = i + 1
  ·rw [e]
  ·have hlt : i < ops.size := by omega
   have ho : ops[i]? = some ops[i] := by simp [hlt]
   rw [(d.zone i _ ho (by omega)).2, d.still1 ho (h i _ (by omega) (by omega) ho)]
   exact ih (by omega) (by omega) (fun j o h1 h2 => h j o h1 (by omega))
noncomputable def actL (ops : Array Oper) (v : Nat → HV) (L : Nat → Bool) (a : HAct) : Nat → HAct
 | 0 => a
 | k + 1 => bif L k then (actL ops v L a k).put ((ops[k]?).bind (·.dst)) (v k) else actL ops v L a k
theorem uZ (a : HAct) (d : Option Nat) (x : HV) : (a.put d x).nt = a.nt := by
 unfold HAct.put
 cases d with
 | none => rfl
 | some d => dsimp only; cases h : Nat.blt d a.nt <;> rfl
theorem yA (a : HAct) (d : Option Nat) (x : HV) (t : Nat) : (a.put d x).tmp t = if d = some t ∧ t < a.nt then x else a.tmp t := by
 unfold HAct.put
 cases d with
 | none => simp
 | some d =>
  dsimp only
  cases h : Nat.blt d a.nt with
  | true =>
   have hd := vY h
   simp only [cond_true, HAct.tmp, Tr.get_set, Option.some.injEq]
   by_cases e : t = d
   ·subst e; rw [if_pos rfl, if_pos ⟨rfl, hd⟩]; rfl
   ·rw [if_neg e, if_neg (by omega)]
  | false =>
   have hd : ¬ d < a.nt := by intro h2; rw [← Nat.blt_eq] at h2; rw [h2] at h; cases h
   simp only [cond_false, Option.some.injEq]
   rw [if_neg (by rintro ⟨rfl, h⟩; exact hd h)]
theorem kY {L : Nat → Bool} {a : HAct} (k : Nat) : (actL ops v L a k).nt = a.nt := by
 induction k with
 | zero => rfl
 | succ k ih =>
  unfold actL
  cases L k with
  | true => rw [cond_true, uZ, ih]
  | false => rw [cond_false, ih]
theorem DF.act_all_nt (d : DF P lp ex ops fl z σ v A S S' mask N) {k : Nat} (hk : k ≤ ops.size) : (A k).nt = (A 0).nt := by
 induction k with
 | zero => rfl
 | succ k ih =>
  have hlt : k < ops.size := by omega
  have ho : ops[k]? = some ops[k] := by simp [hlt]
  rw [d.act k _ ho, uZ, ih (by omega)]
theorem vX {x y : zh} (h : clash x y = false) : (∀ t, x.dst = some t → t ∉ y.names) ∧ (∀ t, y.dst = some t → t ∉ x.names) := by
 unfold clash at h
 simp only [Bool.or_eq_false_iff] at h
 refine ⟨fun t ht hm => ?_, fun t ht hm => ?_⟩
 ·have := h.1; rw [ht] at this; simp at this; exact this hm
 ·have := h.2; rw [ht] at this; simp at this; exact this hm
theorem uJ (o : Oper) : (lowOper P ops o).dst = o.dst := by unfold lowOper; split <;> rfl
theorem DF.sees (d : DF P lp ex ops fl z σ v A S S' mask N) {L : Nat → Bool} {i : Nat} {o : Oper} (ho : ops[i]? = some o) (hi : L i = false) (hanc : ∀ j, (mask i).testBit j = true → L j = true)
  (hcl : ∀ k, L k = true → ∀ j, (mask k).testBit j = true → L j = true) {t : Nat} (ht : t ∈ (lowOper P ops o).names) : (actL ops v L (A 0) ops.size).tmp t = (A i).tmp t := by
 have hlt : i < ops.size := (Array.getElem?_eq_some_iff.1 ho).1
 have h1 : ∀ k, k ≤ i → (actL ops v L (A 0) k).tmp t = (A k).tmp t := by
  intro k
  induction k with
  | zero => intro _; rfl
  | succ k ih =>
   intro hk
   have hkl : k < ops.size := by omega
   have hok : ops[k]? = some ops[k] := by simp [hkl]
   have ih := ih (by omega)
   rw [d.act k _ hok]
   unfold actL
   cases hL : L k with
   | true =>
    rw [cond_true, yA, yA, kY, d.act_all_nt (k := k) (by omega), ih, hok]
    simp only [Option.bind_some]
   | false =>
    rw [cond_false, yA, ih]
    rcases d.cl i o k _ ho hok (by omega) with h | h
    ·rw [hanc k h] at hL; cases hL
    ·have := (vX h).1 t
     rw [uJ] at this
     rw [if_neg (fun hh => this hh.1 ht)]
 have h2 : ∀ k, i ≤ k → k ≤ ops.size → (actL ops v L (A 0) k).tmp t = (A i).tmp t := by
  intro k
  induction k with
  | zero => intro hk _; rw [show i = 0 by omega]; rfl
  | succ k ih =>
   intro hk hk2
   by_cases e : i = k + 1
   ·rw [← e]; exact h1 i (Nat.le_refl _)
   ·have ih := ih (by omega) (by omega)
    have hkl : k < ops.size := by omega
    have hok : ops[k]? = some ops[k] := by simp [hkl]
    unfold actL
    cases hL : L k with
    | false => exact ih
    | true =>
     rw [cond_true, yA, ih, hok]
     simp only [Option.bind_some]
     have hne : i ≠ k := fun e => by rw [e] at hi; rw [hi] at hL; cases hL
     rcases d.cl k _ i o hok ho (by omega) with h | h
     ·rw [hcl k hL i h] at hi; cases hi
     ·have := (vX h).2 t
      rw [uJ] at this
      rw [if_neg (fun hh => this hh.1 ht)]
 exact h2 _ (by omega) (Nat.le_refl _)
def also (L : Nat → Bool) (i : Nat) : Nat → Bool := fun j => if j = i then true else L j
theorem DF.done (d : DF P lp ex ops fl z σ v A S S' mask N) {L : Nat → Bool} {i : Nat} {o : Oper} (ho : ops[i]? = some o) (hi : L i = false)
  (hcl : ∀ k, L k = true → ∀ j, (mask k).testBit j = true → L j = true) (t : Nat) : (actL ops v (also L i) (A 0) ops.size).tmp t = ((actL ops v L (A 0) ops.size).put o.dst (v i)).tmp t := by
 have hlt : i < ops.size := (Array.getElem?_eq_some_iff.1 ho).1
 have h1 : ∀ k, k ≤ i → actL ops v (also L i) (A 0) k = actL ops v L (A 0) k := by
  intro k
  induction k with
  | zero => intro _; rfl
  | succ k ih =>
   intro hk
   unfold actL
   rw [ih (by omega), show also L i k = L k by simp [also]; omega]
 have h2 : ∀ k, i < k → k ≤ ops.size → ∀ t, (actL ops v (also L i) (A 0) k).tmp t = ((actL ops v L (A 0) k).put o.dst (v i)).tmp t := by
  intro k
  induction k with
  | zero => intro hk; omega
  | succ k ih =>
   intro hk hk2 t
   by_cases e : i = k
   ·subst e
    unfold actL
    rw [h1 i (Nat.le_refl _), hi, show also L i i = true by simp [also], ho]
    rfl
   ·have ih := ih (by omega) (by omega)
    have hkl : k < ops.size := by omega
    have hok : ops[k]? = some ops[k] := by simp [hkl]
    unfold actL
    rw [show also L i k = L k by simp [also]; omega]
    cases hL : L k with
    | false => exact ih t
    | true =>
     simp only [cond_true, hok, Option.bind_some]
     rw [yA, yA, yA, ih, yA, uZ, kY, kY]
     rcases d.cl k _ i o hok ho (by omega) with h | h
     ·rw [hcl k hL i h] at hi; cases hi
     ·by_cases c1 : ops[k].dst = some t ∧ t < (A 0).nt
      ·have := (vX h).2 t
       rw [uJ] at this
       have hn := this c1.1
       have : ¬ (o.dst = some t ∧ t < (A 0).nt) := by
        rintro ⟨h5, _⟩
        apply hn
        unfold zh.names
        rw [uJ, h5]
        simp
       rw [if_pos c1, if_neg this, if_pos c1]
      ·simp only [if_neg c1]
 exact h2 _ hlt (Nat.le_refl _) t
theorem DF.done_all (d : DF P lp ex ops fl z σ v A S S' mask N) {L : Nat → Bool} (h : ∀ i, i < ops.size → L i = true) {k : Nat} (hk : k ≤ ops.size) : actL ops v L (A 0) k = A k := by
 induction k with
 | zero => rfl
 | succ k ih =>
  have hkl : k < ops.size := by omega
  have hok : ops[k]? = some ops[k] := by simp [hkl]
  unfold actL
  rw [h k hkl, ih (by omega), d.act k _ hok, hok]
  rfl
end
def cnt (L : Nat → Bool) : Nat → Nat
 | 0 => 0
 | k + 1 => cnt L k + (bif L k then 0 else 1)
theorem XH {L : Nat → Bool} {i : Nat} (hi : L i = false) : ∀ k, (k ≤ i → cnt (also L i) k = cnt L k) ∧ (i < k → cnt (also L i) k + 1 = cnt L k)
 | 0 => ⟨fun _ => rfl, fun h => by omega⟩
 | k + 1 => by
  obtain ⟨h1, h2⟩ := XH hi k
  unfold cnt
  refine ⟨fun h => ?_, fun h => ?_⟩
  ·rw [h1 (by omega), show also L i k = L k by simp [also]; omega]
  ·by_cases e : k = i
   ·subst e
    rw [h1 (Nat.le_refl _), hi, show also L k k = true by simp [also]]
    rfl
   ·rw [show also L i k = L k by simp [also]; omega, ← h2 (by omega)]
    omega
theorem XF {L : Nat → Bool} : ∀ k, cnt L k = 0 → ∀ i, i < k → L i = true
 | 0, _, i, h => by omega
 | k + 1, h, i, hi => by
  unfold cnt at h
  have h1 : cnt L k = 0 := by omega
  by_cases e : i = k
  ·subst e
   cases hL : L i with
   | true => rfl
   | false => rw [hL] at h; simp at h
  ·exact XF k h1 i (by omega)
theorem XG {L : Nat → Bool} (h : ∀ i, L i = false) : ∀ k, cnt L k = k
 | 0 => rfl
 | k + 1 => by unfold cnt; rw [XG h k, h k]; rfl
end Go.Hx

namespace Go.Hx
variable {P : Program} {lp : Nat → Option zp} {ex : Ex}
def LiveL (N : Nat → List Nat) (L : Nat → Bool) (z j : Nat) : Prop := ∀ m, m < z → L m = true → Fl N m → m ≠ j → j ∉ N m
structure DInv (P : Program) (lp : Nat → Option zp) (ex : Ex) (ops : Array Oper) (fl z : Nat) (σ : HS) (v : Nat → HV) (A : Nat → HAct) (S S' : Nat → HS) (mask : Nat → Nat) (N : Nat → List Nat)
  (base : Nat) (ρ0 : Rho) (W0 : World) (L : Nat → Bool) (A1 : Act) (W : World) (ρ : Rho) (g : Hp) (aL : HAct) : Prop where
 ar : AR ρ aL A1
 nt : aL.nt = (A 0).nt
 df : aL.defers = (A 0).defers
 tm : ∀ t, aL.tmp t = (actL ops v L (A 0) ops.size).tmp t
 fr : ∀ i, i < ops.size → L i = false → ∀ b, (S i).nx ≤ b → b < (S' i).nx → ρ b = none
 post : Post P base fl σ.nx (S ops.size).nx σ.h.get g ρ0 ρ W0 W
 closed : ∀ k, L k = true → ∀ j, (mask k).testBit j = true → L j = true
 hfs : ∀ i, i < ops.size → L i = true → HFS (if i < z then flo N σ S i else fl) (S i) (S' i)
 heap : ((∀ b x, σ.h.get b = some x → g b = some x) ∧ (∀ j, j < z → L j = true → LiveL N L z j → ∀ b x, Hold N σ.nx S S' j b → (S' j).h.get b = some x → g b = some x) ∧
    (∀ i o, z ≤ i → ops[i]? = some o → (lowOper P ops o).op.chg = true → L i = false))
  ∨ ∃ k o, z ≤ k ∧ ops[k]? = some o ∧ (lowOper P ops o).op.chg = true ∧ L k = true ∧ g = (S' k).h.get ∧ ∀ i o, k < i → ops[i]? = some o → (lowOper P ops o).op.chg = true → L i = false
section
variable {ops : Array Oper} {fl z : Nat} {σ : HS} {v : Nat → HV} {A : Nat → HAct} {S S' : Nat → HS} {mask : Nat → Nat} {N : Nat → List Nat} {base : Nat} {ρ0 ρ : Rho} {W0 W : World} {L : Nat → Bool} {A1 : Act} {g : Hp} {aL : HAct}
theorem yb {L : Nat → Bool} {i j : Nat} : also L i j = true ↔ j = i ∨ L j = true := by
 unfold also
 by_cases e : j = i
 ·simp [e]
 ·simp [e]
theorem yF {L : Nat → Bool} {i j : Nat} : also L i j = false ↔ j ≠ i ∧ L j = false := by
 unfold also
 by_cases e : j = i
 ·simp [e]
 ·simp [e]
theorem DInv.next (d : DF P lp ex ops fl z σ v A S S' mask N) (q : DInv P lp ex ops fl z σ v A S S' mask N base ρ0 W0 L A1 W ρ g aL) {i : Nat} {o : Oper} (ho : ops[i]? = some o) (hi : L i = false) (hanc : ∀ j, (mask i).testBit j = true → L j = true)
  {V : Value} {W' : World} {ρ' : Rho} {g' : Hp} (hv : VR ρ' (v i) V) (hp : Post P base fl (S i).nx (S' i).nx g g' ρ ρ' W W') (hf : HFS (if i < z then flo N σ S i else fl) (S i) (S' i))
  (hh : ((∀ b x, σ.h.get b = some x → g' b = some x) ∧ (∀ j, j < z → also L i j = true → LiveL N (also L i) z j → ∀ b x, Hold N σ.nx S S' j b → (S' j).h.get b = some x → g' b = some x) ∧
    (∀ i' o, z ≤ i' → ops[i']? = some o → (lowOper P ops o).op.chg = true → also L i i' = false))
  ∨ ∃ k o, z ≤ k ∧ ops[k]? = some o ∧ (lowOper P ops o).op.chg = true ∧ also L i k = true ∧ g' = (S' k).h.get ∧ ∀ i' o, k < i' → ops[i']? = some o → (lowOper P ops o).op.chg = true → also L i i' = false) :
  DInv P lp ex ops fl z σ v A S S' mask N base ρ0 W0 (also L i) (A1.put o.dst V) W' ρ' g' (aL.put o.dst (v i)) := by
 have hlt : i < ops.size := (Array.getElem?_eq_some_iff.1 ho).1
 have hn := d.nxt i hlt
 refine ⟨(q.ar.mono hp.ext).put hv _, by rw [uZ]; exact q.nt, ?_, fun t => ?_, fun j hj hL b h1 h2 => ?_, ?_, fun k hk j hm => ?_, fun j hj hL => ?_, hh⟩
 ·rw [← q.df]
  unfold HAct.put
  cases o.dst with
  | none => rfl
  | some t => dsimp only; cases Nat.blt t aL.nt <;> rfl
 ·rw [d.done ho hi q.closed, yA, yA, q.tm, q.nt, kY]
 ·obtain ⟨hne, hL⟩ := yF.1 hL
  rw [hp.out b]
  ·exact q.fr j hj hL b h1 h2
  ·have := d.apart hlt hj (fun e => hne e.symm) (b := b)
   by_cases c : b < (S i).nx
   ·exact .inl c
   ·by_cases c2 : b < (S' i).nx
    ·exact (this (by omega) c2 h1 h2).elim
    ·exact .inr (by omega)
 ·refine q.post.and (hp.wide ?_ ?_)
  ·rw [← d.n0]; exact d.mono (Nat.zero_le _) (by omega)
  ·rw [← hn.2]; exact d.mono hlt (Nat.le_refl _)
 ·rcases yb.1 hk with rfl | hk
  ·exact yb.2 (.inr (hanc j hm))
  ·exact yb.2 (.inr (q.closed k hk j hm))
 ·rcases yb.1 hL with rfl | hL
  ·exact hf
  ·exact q.hfs j hj hL
theorem DF.upto (d : DF P lp ex ops fl z σ v A S S' mask N) {k : Nat} (hz : z ≤ k) (hk : k ≤ ops.size) (h : ∀ j o, z ≤ j → j < k → ops[j]? = some o → (lowOper P ops o).op.chg = true → HFS fl (S j) (S' j)) : HFS fl σ (S k) := by
 induction k with
 | zero =>
  have e : z = 0 := by omega
  subst e
  refine ⟨by rw [d.n0]; exact Nat.le_refl _, fun b _ _ => d.other b (fun j hj => by omega), fun b _ => d.other b (fun j hj => by omega)⟩
 | succ k ih =>
  by_cases e : z = k + 1
  ·rw [← e]
   have hmono : σ.nx ≤ (S z).nx := by rw [← d.n0]; exact d.mono (Nat.zero_le _) (by omega)
   refine ⟨hmono, fun b _ hb => d.other b (fun j hj h1 => ?_), fun b hb => d.other b (fun j hj h1 => ?_)⟩
   ·have := d.hold_ge (by omega) h1
    omega
   ·have := d.mono (i := j + 1) (j := z) (by omega) (by omega)
    have := (d.nxt j (by omega)).2
    have := h1.2
    omega
  ·have hlt : k < ops.size := by omega
   have ho : ops[k]? = some ops[k] := by simp [hlt]
   have ih := ih (by omega) (by omega) (fun j o h1 h2 => h j o h1 (by omega))
   have hs := (d.zone k _ ho (by omega)).2
   rw [hs]
   cases ht : (lowOper P ops ops[k]).op.chg with
   | true => exact ih.trans (h k _ (by omega) (by omega) ho ht)
   | false => rw [d.still1 ho ht]; exact ih
theorem DInv.begin (d : DF P lp ex ops fl z σ v A S S' mask N) (q1 : ∀ b x, σ.h.get b = some x → g b = some x) (q2 : ∀ j, j < z → L j = true → LiveL N L z j → ∀ b x, Hold N σ.nx S S' j b → (S' j).h.get b = some x → g b = some x)
  (hl : ∀ j o, j < z → ops[j]? = some o → (lowOper P ops o).op.chg = true → L j = true) : ∀ b x, (S z).h.get b = some x → g b = some x := by
 intro b x hx
 rcases d.all b x hx with h | ⟨j, h1, h2, h3, h4⟩
 ·exact q1 b x h
 ·have hlt : j < ops.size := Nat.lt_of_lt_of_le h1 d.zN
  have ho : ops[j]? = some ops[j] := by simp [hlt]
  cases ht : (lowOper P ops ops[j]).op.chg with
  | true =>
   refine q2 j h1 (hl j _ h1 ho ht) (fun m m1 m2 m3 m4 m5 => ?_) b x h3 h4
   have hml : m < ops.size := Nat.lt_of_lt_of_le m1 d.zN
   have hm : ops[m]? = some ops[m] := by simp [hml]
   rcases d.nsub m _ hm j m5 with e | e
   ·exact m4 e.symm
   ·have := d.lt m _ hm j e
    exact h2 m (by omega) m1 m3 m5
  | false =>
   have e := d.still1 ho ht
   rcases h3.1 with c | c
   ·have := h3.2
    rw [e] at this
    omega
   ·rw [XQ (d.wr j _ ho c.1)] at ht; cases ht
theorem DInv.notMine (d : DF P lp ex ops fl z σ v A S S' mask N) (closed : ∀ k, L k = true → ∀ j, (mask k).testBit j = true → L j = true) {i b : Nat} (hi : i < ops.size) (hL : L i = false) (b1 : (S i).nx ≤ b) (b2 : b < (S' i).nx) :
  ∀ j, j < z → L j = true → Hold N σ.nx S S' j b → ∀ x, (S' j).h.get b = some x → False := by
 intro j
 induction j using Nat.strongRecOn with
 | ind j ih =>
  intro hz hj h x hx
  have hN := d.zN
  have ho : ops[j]? = some ops[j] := by simp [show j < ops.size by omega]
  rcases Nat.lt_trichotomy j i with c | c | c
  ·have e1 := (d.nxt j (by omega)).2
   have e2 := d.mono (i := j + 1) (j := i) c (by omega)
   have := h.2
   omega
  ·subst c; rw [hj] at hL; cases hL
  ·have e1 := (d.nxt i hi).2
   have e2 := d.mono (i := i + 1) (j := j) c (by omega)
   obtain ⟨y, k, k1, k2, k3, k4, k5⟩ := d.saw (by omega) hz h (by omega) hx
   have hk : L k = true := by
    rcases d.nsub j _ ho k k2 with e | e
    ·omega
    ·exact closed j hj k e
   exact ih k k1 (by omega) hk k4 y k5
theorem DInv.one (d : DF P lp ex ops fl z σ v A S S' mask N) (closed : ∀ k, L k = true → ∀ j, (mask k).testBit j = true → L j = true) {j j' b : Nat} {x y : HBlk} (hz : j < z) (hz' : j' < z) (h1 : L j = true) (h2 : L j' = true) (l1 : LiveL N L z j) (l2 : LiveL N L z j')
  (k1 : Hold N σ.nx S S' j b) (k2 : Hold N σ.nx S S' j' b) (hx : (S' j).h.get b = some x) (hy : (S' j').h.get b = some y) : j = j' := by
 have reach : ∀ p m, Reach N p m → p < ops.size → L p = true → L m = true := by
  intro p m r
  induction r with
  | refl => exact fun _ h => h
  | step h hk r ih =>
   rename_i p k m
   intro hp hl
   have ho : ops[p]? = some ops[p] := by simp [hp]
   refine ih (by omega) ?_
   rcases d.nsub p _ ho k h with e | e
   ·omega
   ·exact closed p hl k e
 have hN := d.zN
 rcases Nat.lt_trichotomy j j' with c | c | c
 ·obtain ⟨m, m1, m2, m3, m4⟩ := d.uniq j' j c hz' k1 k2 x y hx hy
  have := m1.le
  exact absurd m3 (l1 m (by omega) (reach _ _ m1 (by omega) h2) m2 (by omega))
 ·exact c
 ·obtain ⟨m, m1, m2, m3, m4⟩ := d.uniq j j' c hz k2 k1 y x hy hx
  have := m1.le
  exact absurd m3 (l2 m (by omega) (reach _ _ m1 (by omega) h1) m2 (by omega))
theorem op_done (hlp : LpOk P lp) (hle : ExLe ex) (hex : ExSound P ex) (d : DF P lp ex ops fl z σ v A S S' mask N) (hbase : base ≤ W0.heap.size) (q : DInv P lp ex ops fl z σ v A S S' mask N base ρ0 W0 L A1 W ρ g aL) {i : Nat} {o : Oper} (ho : ops[i]? = some o) (hi : L i = false) (hanc : ∀ j, (mask i).testBit j = true → L j = true)
  {R : Option Nat} {K : Act → World → Prop} {Q : Exit → Act → World → Prop} (hK : ∀ A1 W ρ g aL, DInv P lp ex ops fl z σ v A S S' mask N base ρ0 W0 (also L i) A1 W ρ g aL → K A1 W) : wpOpIn (FR R) 0 P ops Q i K A1 W := by
 have hlt : i < ops.size := (Array.getElem?_eq_some_iff.1 ho).1
 have hn := d.nxt i hlt
 have names : ∀ t ∈ (lowOper P ops o).names, aL.tmp t = (A i).tmp t := fun t ht => by rw [q.tm, d.sees ho hi hanc q.closed ht]
 have hnt : aL.nt = (A i).nt := q.nt.trans (d.act_all_nt (by omega)).symm
 have low : base ≤ W.heap.size := Nat.le_trans hbase q.post.size
 cases ht : (lowOper P ops o).op.touches with
 | false =>
  obtain ⟨f, hstep⟩ := d.step ho
  obtain ⟨he, hall⟩ := jf ht hstep
  have h1 := hall (S i).nx ⟨.e, (S i).nx⟩
  rw [← v9 _ hnt names] at h1
  have hin : In P base (⟨.e, (S i).nx⟩ : HS) ⟨.e, (S i).nx⟩ ρ W := ⟨low, q.post.sim.less fun b x hx => (by rw [Tr.get_e] at hx; cases hx), fun b h1 h2 => (by omega)⟩
  have hd : Dom (⟨.e, (S i).nx⟩ : HS) := fun b x hx => by rw [show (⟨.e, (S i).nx⟩ : HS).h = .e from rfl, Tr.get_e] at hx; cases hx
  refine (yT hlp hle hex ho h1 hd base ρ A1 W R K Q hin q.ar).2 fun V W' ρ' hv hp => ?_
  have hp' := Post.frame (fl := fl) (g := g) q.post.sim (fun b x hx => by rw [Tr.get_e] at hx; cases hx) rfl hp
  have hg : (fun b => if (S i).nx ≤ b ∧ b < (S i).nx then (Tr.e : Tr HBlk).get b else g b) = g := by
   funext b
   rw [if_neg (by omega)]
  rw [hg] at hp'
  refine hK _ _ ρ' g _ (q.next d ho hi hanc hv (by rw [he]; exact hp') (by rw [he]; exact HF.refl _ _ _) ?_)
  rcases q.heap with ⟨q1, q2, q3⟩ | ⟨k, ok, q1, q2, q3, q4, q5, q6⟩
  ·refine .inl ⟨q1, fun j hj hL hv b x h3 h4 => ?_, fun i' o' hz ho' ht' => yF.2 ⟨fun e => ?_, q3 i' o' hz ho' ht'⟩⟩
   ·rcases yb.1 hL with rfl | hL
    ·rcases h3.1 with c | c
     ·have := h3.2
      rw [he] at this; omega
     ·rw [kK (d.wr j _ ho c.1)] at ht; cases ht
    ·exact q2 j hj hL (fun m m1 m2 m3 m4 => hv m m1 (yb.2 (.inr m2)) m3 m4) b x h3 h4
   ·subst e; rw [ho] at ho'; cases ho'; rw [yK ht'] at ht; cases ht
  ·refine .inr ⟨k, ok, q1, q2, q3, yb.2 (.inr q4), q5, fun i' o' hk ho' ht' => yF.2 ⟨fun e => ?_, q6 i' o' hk ho' ht'⟩⟩
   subst e; rw [ho] at ho'; cases ho'; rw [yK ht'] at ht; cases ht
 | true =>
  by_cases hz : i < z
  ·-- it sees what those ahead of it have laid, and may write this if nobody else knows it
   have h1 := d.pure i o ho hz
   rw [← v9 _ hnt names] at h1
   have pureCase : (∀ b x, σ.h.get b = some x → g b = some x) ∧ (∀ j, j < z → L j = true → LiveL N L z j → ∀ b x, Hold N σ.nx S S' j b → (S' j).h.get b = some x → g b = some x) ∧
    (∀ i o, z ≤ i → ops[i]? = some o → (lowOper P ops o).op.chg = true → L i = false) := by
    rcases q.heap with h | ⟨k, ok, q1, q2, q3, q4, q5, q6⟩
    ·exact h
    ·rcases d.ord k ok i o q2 ho (by omega) q1 with h | h | h | h | h
     ·rw [q.closed k q4 i h] at hi; cases hi
     ·rw [h] at ht; cases ht
     ·rw [yK q3] at h; cases h
     ·rw [y4 q3] at h; cases h.2
     ·have := h.1; omega
   obtain ⟨q1, q2, q3⟩ := pureCase
   have hN := d.zN
   have maskOf : ∀ j, j < i → j ∈ N i → (mask i).testBit j = true := fun j h2 h3 => (d.nsub i o ho j h3).resolve_left (by omega)
   have liveIn : ∀ j, j < i → j ∈ N i → Live N j (j + 1) i → LiveL N L z j := fun j h2 h3 h4 m m1 m2 m3 m4 m5 => by
    have hm : ops[m]? = some ops[m] := by simp [show m < ops.size by omega]
    rcases d.exc m _ hm m3 j m5 (Ne.symm m4) i o ho ht (maskOf j h2 h3) with e | e | e
    ·subst e; rw [hi] at m2; cases m2
    ·rw [q.closed m m2 i e] at hi; cases hi
    ·have := d.lt i o ho m e
     have : j < m := by
      rcases d.nsub m _ hm j m5 with e2 | e2
      ·exact absurd e2.symm m4
      ·exact d.lt m _ hm j e2
     exact h4 m (by omega) (by omega) m3 m5
   have seen : ∀ b x, (S i).h.get b = some x → σ.h.get b = some x ∨ ∃ j, j < i ∧ j ∈ N i ∧ L j = true ∧ LiveL N L z j ∧ Hold N σ.nx S S' j b ∧ (S' j).h.get b = some x := fun b x hx => by
    rcases d.from_ i hlt hz b x hx with h | ⟨j, h2, h3, h4, h5, h6⟩
    ·exact .inl h
    ·exact .inr ⟨j, h2, h3, hanc j (maskOf j h2 h3), liveIn j h2 h3 h4, h5, h6⟩
   have hsub : ∀ b x, (S i).h.get b = some x → g b = some x := fun b x hx => by
    rcases seen b x hx with h | ⟨j, h2, h3, h4, h5, h6, h7⟩
    ·exact q1 b x h
    ·exact q2 j (by omega) h4 h5 b x h6 h7
   have hnx : σ.nx ≤ (S i).nx := by
    have := d.mono (i := 0) (j := i) (Nat.zero_le _) (by omega)
    rwa [d.n0] at this
   have hdom : Dom (S i) := fun b x hx => by
    rcases seen b x hx with h | ⟨j, h2, h3, h4, h5, h6, h7⟩
    ·have := d.dom b x h
     omega
    ·have := (d.nxt j (by omega)).2
     have := d.mono (i := j + 1) (j := i) (by omega) (by omega)
     have := h6.2
     omega
   obtain ⟨f1, f2⟩ := d.flo_le hlt
   have hin : In P base (S i) (S' i) ρ W := ⟨low, q.post.sim.less hsub, q.fr i hlt hi⟩
   obtain ⟨hf, hw⟩ := yT hlp hle hex ho h1 hdom base ρ A1 W R K Q hin q.ar
   refine hw fun V W' ρ' hv hp => ?_
   have hp' := Post.frameW (fl := fl) (g := g) q.post.sim hsub (Nat.le_trans d.flo f1) f2 (fun b hb => hf.low b hb (by omega)) hp
   refine hK _ _ ρ' _ _ (q.next d ho hi hanc hv hp' (by rw [if_pos hz]; exact hf) (.inl ⟨fun b x hx => ?_, fun j hj hL hlv b x h3 h4 => ?_, fun i' o' hz' ho' ht' => yF.2 ⟨fun e => by omega, q3 i' o' hz' ho' ht'⟩⟩))
   ·have hb := d.dom b x hx
    by_cases c : ((S i).nx ≤ b ∧ b < (S' i).nx) ∨ ((S i).h.get b).isSome = true
    ·rw [if_pos c]
     rcases c with c | c
     ·omega
     ·obtain ⟨y, hy⟩ := Option.isSome_iff_exists.1 c
      have e := hsub b y hy
      rw [q1 b x hx] at e
      cases e
      rw [hf.low b (by omega) (by omega)]
      exact hy
    ·rw [if_neg c]; exact q1 b x hx
   ·rcases yb.1 hL with rfl | hL
    ·-- its own
     rw [if_pos]
     ·exact h4
     ·by_cases c : (S j).nx ≤ b
      ·exact .inl ⟨c, h3.2⟩
      ·refine .inr ?_
       have hfl : Fl N j := by
        rcases h3.1 with h | h
        ·exact absurd h c
        ·exact h.1
       cases hy : (S j).h.get b with
       | none =>
        have := je (d.wr j o ho hfl) h1 b (by omega) hy
        rw [this] at h4; cases h4
       | some y => rfl
    ·have hlv' : LiveL N L z j := fun m m1 m2 m3 m4 => hlv m m1 (yb.2 (.inr m2)) m3 m4
     have hgb := q2 j hj hL hlv' b x h3 h4
     by_cases c : ((S i).nx ≤ b ∧ b < (S' i).nx) ∨ ((S i).h.get b).isSome = true
     ·rw [if_pos c]
      rcases c with c | c
      ·exact (DInv.notMine d q.closed hlt hi c.1 c.2 j hj hL h3 x h4).elim
      ·obtain ⟨y, hy⟩ := Option.isSome_iff_exists.1 c
       rcases seen b y hy with h | ⟨k, k1, k2, k3, k4, k5, k6⟩
       ·have := d.dom b y h
        have := d.hold_ge (by omega) h3
        omega
       ·have e := DInv.one d q.closed hj (by omega) hL k3 hlv' k4 h3 k5 h4 k6
        subst e
        have nf : ¬ Fl N i := fun hfi => hlv i hz (yb.2 (.inl rfl)) hfi (by omega) k2
        have ef : flo N σ S i = (S i).nx := by
         unfold flo
         cases hc : (N i).contains i with
         | true => exact absurd hc nf
         | false => rfl
        have hb : b < (S i).nx := hdom b y hy
        rw [hf.low b (by rw [ef]; exact hb) hb]
        rw [hsub b y hy] at hgb
        cases hgb
        exact hy
     ·rw [if_neg c]; exact hgb
  ·have hz : z ≤ i := by omega
   obtain ⟨h1, hs1⟩ := d.zone i o ho hz
   rw [← v9 _ hnt names] at h1
   -- all before it on memory has been done
   have before : ∀ j x, j < i → ops[j]? = some x → (lowOper P ops x).op.chg = true → L j = true := fun j x hj hx htx => by
    rcases d.ord i o j x ho hx hj hz with h | h | h | h | h
    ·exact hanc j h
    ·rw [yK htx] at h; cases h
    ·rw [h] at ht; cases ht
    ·rw [y4 htx] at h; cases h.1
    ·rw [y4 htx] at h; cases h.2.1
   cases hc : (lowOper P ops o).op.chg with
   | false =>
    have key : ∃ σ2 : HS, (∀ b x, σ2.h.get b = some x → g b = some x) ∧ Dom σ2 ∧ σ.nx ≤ σ2.nx ∧ stepVal lp ex fl (lowOper P ops o) aL σ2 = some (v i, σ2) := by
     have he := d.still1 ho hc
     have hfd : HFS fl σ (S i) := d.upto hz (by omega) fun j x h2 h3 hx htx => by
      have := q.hfs j (by omega) (before j x h3 hx htx)
      rwa [if_neg (by omega)] at this
     have here : (∀ b x, (S i).h.get b = some x → g b = some x) → ∃ σ2 : HS, (∀ b x, σ2.h.get b = some x → g b = some x) ∧ Dom σ2 ∧ σ.nx ≤ σ2.nx ∧ stepVal lp ex fl (lowOper P ops o) aL σ2 = some (v i, σ2) := fun hsub =>
      ⟨S i, hsub, hfd.dom d.dom, hfd.le, by rw [he] at h1; exact h1⟩
     rcases q.heap with ⟨q1, q2, q3⟩ | ⟨k, ok, q1, q2, q3, q4, q5, q6⟩
     ·refine here ?_
      have e : S i = S z := d.still (Nat.le_refl _) hz (by omega) fun j x h2 h3 hx => by
       cases htx : (lowOper P ops x).op.chg with
       | false => rfl
       | true =>
        have c1 := before j x h3 hx htx
        rw [q3 j x h2 hx htx] at c1; cases c1
      rw [e]
      exact DInv.begin d q1 q2 fun j x hj hx htx => before j x (by omega) hx htx
     ·rcases Nat.lt_trichotomy k i with hki | hki | hki
      ·refine here ?_
       have e : S i = S (k + 1) := d.still (by omega) (by omega) (by omega) fun j x h2 h3 hx => by
        cases htx : (lowOper P ops x).op.chg with
        | false => rfl
        | true =>
         have c1 := before j x h3 hx htx
         rw [q6 j x (by omega) hx htx] at c1; cases c1
       rw [e, (d.zone k ok q2 q1).2, q5]
       exact fun b x hx => hx
      ·subst hki; rw [hi] at q4; cases q4
      ·have hkl : k < ops.size := (Array.getElem?_eq_some_iff.1 q2).1
       rcases d.ord k ok i o q2 ho hki q1 with h | h | h | h | h
       ·rw [q.closed k q4 i h] at hi; cases hi
       ·rw [h] at ht; cases ht
       ·rw [yK q3] at h; cases h
       ·rw [y4 q3] at h; cases h.2
       ·have beforeK : ∀ j x, j < k → ops[j]? = some x → (lowOper P ops x).op.chg = true → L j = true := fun j x hj hx htx => by
         rcases d.ord k ok j x q2 hx hj q1 with h | h | h | h | h
         ·exact q.closed k q4 j h
         ·rw [yK htx] at h; cases h
         ·rw [yK q3] at h; cases h
         ·rw [y4 htx] at h; cases h.1
         ·rw [y4 htx] at h; cases h.2.1
        have hfk : HFS fl σ (S k) := d.upto q1 (by omega) fun j x h2 h3 hx htx => by
         have := q.hfs j (by omega) (beforeK j x h3 hx htx)
         rwa [if_neg (by omega)] at this
        have hk2 := q.hfs k hkl q4
        rw [if_neg (by omega)] at hk2
        have hfk' := hfk.trans hk2
        exact ⟨S' k, fun b x hx => by rw [q5]; exact hx, hfk'.dom d.dom, hfk'.le, by rw [v9 _ hnt names]; exact h.2.2⟩
    obtain ⟨σ2, k1, k2, k3, k4⟩ := key
    have hin : In P base σ2 σ2 ρ W := ⟨low, q.post.sim.less k1, fun b h1 h2 => by omega⟩
    obtain ⟨hf, hw⟩ := yT hlp hle hex ho k4 k2 base ρ A1 W R K Q hin q.ar
    refine hw fun V W' ρ' hv hp => ?_
    have hp' := Post.frameW (fl := fl) (g := g) q.post.sim k1 (Nat.le_refl _) (Nat.le_trans d.flo k3) (fun b _ => rfl) hp
    have hg : (fun b => if (σ2.nx ≤ b ∧ b < σ2.nx) ∨ (σ2.h.get b).isSome = true then σ2.h.get b else g b) = g := by
     funext b
     split
     ·rename_i c
      rcases c with c | c
      ·omega
      ·obtain ⟨y, hy⟩ := Option.isSome_iff_exists.1 c
       rw [hy, k1 b y hy]
     ·rfl
    rw [hg] at hp'
    have he := d.still1 ho hc
    have hp2 : Post P base fl (S i).nx (S' i).nx g g ρ ρ' W W' := { hp' with out := fun b _ => hp'.out b (by omega) }
    refine hK _ _ ρ' g _ (q.next d ho hi hanc hv hp2 (by rw [if_neg (by omega), he]; exact HF.refl _ _ _) ?_)
    rcases q.heap with ⟨q1, q2, q3⟩ | ⟨k, ok, q1, q2, q3, q4, q5, q6⟩
    ·refine .inl ⟨q1, fun j hj hL hv b x h3 h4 => ?_, fun i' o' hz ho' ht' => yF.2 ⟨fun e => ?_, q3 i' o' hz ho' ht'⟩⟩
     ·rcases yb.1 hL with rfl | hL
      ·omega
      ·exact q2 j hj hL (fun m m1 m2 m3 m4 => hv m m1 (yb.2 (.inr m2)) m3 m4) b x h3 h4
     ·subst e; rw [ho] at ho'; cases ho'; rw [hc] at ht'; cases ht'
    ·refine .inr ⟨k, ok, q1, q2, q3, yb.2 (.inr q4), q5, fun i' o' hk ho' ht' => yF.2 ⟨fun e => ?_, q6 i' o' hk ho' ht'⟩⟩
     subst e; rw [ho] at ho'; cases ho'; rw [hc] at ht'; cases ht'
   | true =>
    have after : ∀ j x, i < j → ops[j]? = some x → (lowOper P ops x).op.chg = true → L j = false := fun j x hj hx htx => by
     rcases d.ord j x i o hx ho hj (by omega) with h | h | h | h | h
     ·cases hL : L j with
      | false => rfl
      | true => rw [q.closed j hL i h] at hi; cases hi
     ·rw [h] at ht; cases ht
     ·rw [yK htx] at h; cases h
     ·rw [y4 htx] at h; cases h.2
     ·rw [y4 hc] at h; cases h.2.1
    have hfd : HFS fl σ (S i) := d.upto hz (by omega) fun j x h2 h3 hx htx => by
     have := q.hfs j (by omega) (before j x h3 hx htx)
     rwa [if_neg (by omega)] at this
    have hdom : Dom (S i) := hfd.dom d.dom
    have hsub : ∀ b x, (S i).h.get b = some x → g b = some x := by
     rcases q.heap with ⟨q1, q2, q3⟩ | ⟨k, ok, q1, q2, q3, q4, q5, q6⟩
     ·have e : S i = S z := d.still (Nat.le_refl _) hz (by omega) fun j x h2 h3 hx => by
       cases htx : (lowOper P ops x).op.chg with
       | false => rfl
       | true =>
        have c1 := before j x h3 hx htx
        rw [q3 j x h2 hx htx] at c1; cases c1
      rw [e]
      exact DInv.begin d q1 q2 fun j x hj hx htx => before j x (by omega) hx htx
     ·have hki : k < i := by
       rcases Nat.lt_or_ge k i with h | h
       ·exact h
       ·rcases Nat.lt_or_eq_of_le h with h | h
        ·rw [after k ok h q2 q3] at q4; cases q4
        ·subst h; rw [hi] at q4; cases q4
      have e : S i = S (k + 1) := d.still (by omega) (by omega) (by omega) fun j x h2 h3 hx => by
       cases htx : (lowOper P ops x).op.chg with
       | false => rfl
       | true =>
        have c1 := before j x h3 hx htx
        rw [q6 j x (by omega) hx htx] at c1; cases c1
      rw [e, (d.zone k ok q2 q1).2, q5]
      exact fun b x hx => hx
    have hin : In P base (S i) (S' i) ρ W := ⟨low, q.post.sim.less hsub, q.fr i hlt hi⟩
    obtain ⟨hf, hw⟩ := yT hlp hle hex ho h1 hdom base ρ A1 W R K Q hin q.ar
    refine hw fun V W' ρ' hv hp => ?_
    refine hK _ _ ρ' _ _ (q.next d ho hi hanc hv (hp.more hsub) (by rw [if_neg (by omega)]; exact hf) (.inr ⟨i, o, hz, ho, hc, yb.2 (.inl rfl), rfl, fun i' o' h2 ho' ht' => yF.2 ⟨by omega, after i' o' h2 ho' ht'⟩⟩))
theorem all_done (d : DF P lp ex ops fl z σ v A S S' mask N) (q : DInv P lp ex ops fl z σ v A S S' mask N base ρ0 W0 L A1 W ρ g aL) (h : ∀ i, i < ops.size → L i = true) :
  HFS fl σ (S ops.size) ∧ PostS P base fl σ (S ops.size) ρ0 ρ W0 W ∧ (AR ρ (A ops.size) A1) := by
 refine ⟨d.upto d.zN (Nat.le_refl _) fun j o h1 h2 _ _ => ?_, ?_, ?_⟩
 ·have := q.hfs j h2 (h j h2)
  rwa [if_neg (by omega)] at this
 ·refine q.post.less ?_
  rcases q.heap with ⟨q1, q2, q3⟩ | ⟨k, ok, q1, q2, q3, q4, q5, q6⟩
  ·have e : S ops.size = S z := d.still (Nat.le_refl _) d.zN (Nat.le_refl _) fun j x h2 h3 hx => by
    cases htx : (lowOper P ops x).op.chg with
    | false => rfl
    | true => have := h j h3; rw [q3 j x h2 hx htx] at this; cases this
   rw [e]
   exact DInv.begin d q1 q2 fun j x hj hx htx => h j (by have := d.zN; omega)
  ·have hk : k < ops.size := (Array.getElem?_eq_some_iff.1 q2).1
   have e : S ops.size = S (k + 1) := d.still (by omega) (by omega) (Nat.le_refl _) fun j x h2 h3 hx => by
    cases htx : (lowOper P ops x).op.chg with
    | false => rfl
    | true => have := h j h3; rw [q6 j x (by omega) hx htx] at this; cases this
   rw [e, (d.zone k ok q2 q1).2, q5]
   exact fun b x hx => hx
 ·have e := d.done_all h (Nat.le_refl ops.size)
  have hnt := d.act_all_nt (Nat.le_refl ops.size)
  have hdf : ∀ k, k ≤ ops.size → (A k).defers = (A 0).defers := by
   intro k
   induction k with
   | zero => intro _; rfl
   | succ k ih =>
    intro hk
    have hkl : k < ops.size := by omega
    have hok : ops[k]? = some ops[k] := by simp [hkl]
    rw [d.act k _ hok, ← ih (by omega)]
    unfold HAct.put
    cases ops[k].dst with
    | none => rfl
    | some t => dsimp only; cases Nat.blt t (A k).nt <;> rfl
  have tm := q.tm
  rw [e] at tm
  refine ⟨⟨?_, fun t => ?_⟩, ?_, ?_⟩
  ·rw [hnt, ← q.nt]; exact q.ar.tmps.1
  ·have := q.ar.tmps.2 t
   have e2 := tm t
   unfold HAct.tmp at e2
   rw [← e2]
   exact this
  ·rw [hdf _ (Nat.le_refl _), ← q.df]; exact q.ar.defers
  ·rw [hdf _ (Nat.le_refl _), ← q.df]; exact q.ar.marks
end
end Go.Hx

namespace Go.Hx
variable {P : Program} {lp : Nat → Option zp} {ex : Ex}
section
variable {ops : Array Oper} {fl z : Nat} {σ : HS} {v : Nat → HV} {A : Nat → HAct} {S S' : Nat → HS} {mask : Nat → Nat} {N : Nat → List Nat} {base : Nat} {ρ0 : Rho} {W0 : World}
theorem uw {l : Array Bool} {i : Nat} (hi : i < l.size) : l.getD i true = l.getD i false := by
 simp [Array.getD_eq_getD_getElem?, hi]
theorem XN {l : Array Bool} {i : Nat} (hi : i < l.size) : (fun j => (l.setIfInBounds i true).getD j false) = also (fun j => l.getD j false) i := by
 funext j
 unfold also
 simp only [Array.getD_eq_getD_getElem?, Array.getElem?_setIfInBounds]
 by_cases e : i = j
 ·subst e; simp [hi]
 ·have : j ≠ i := fun h => e h.symm
  simp [e, this]
theorem kI (hlp : LpOk P lp) (hle : ExLe ex) (hex : ExSound P ex) (d : DF P lp ex ops fl z σ v A S S' mask N) (hbase : base ≤ W0.heap.size) {R : Option Nat} {Q : Exit → Act → World → Prop}
  (hQ : ∀ A1 W ρ, HFS fl σ (S ops.size) → PostS P base fl σ (S ops.size) ρ0 ρ W0 W → AR ρ (A ops.size) A1 → Q .normal A1 W) :
  ∀ (n : Nat) (l : Array Bool) (A1 : Act) (W : World) (ρ : Rho) (g : Hp) (aL : HAct), l.size = ops.size → cnt (fun i => l.getD i false) ops.size = n →
   DInv P lp ex ops fl z σ v A S S' mask N base ρ0 W0 (fun i => l.getD i false) A1 W ρ g aL → wpAnyIn (FR R) 0 P .any ops Q n l A1 W
 | 0, l, A1, W, ρ, g, aL, hs, hc, q => by
  have h := XF _ hc
  unfold wpAnyIn
  refine ⟨?_, ?_⟩
  ·apply List.eq_nil_iff_forall_not_mem.2
   intro i hi
   obtain ⟨h1, o, ho, _⟩ := mem_ready.1 hi
   have hlt : i < ops.size := (Array.getElem?_eq_some_iff.1 ho).1
   rw [uw (by omega), h i hlt] at h1
   cases h1
  ·obtain ⟨h1, h2, h3⟩ := all_done d q h
   exact hQ _ _ _ h1 h2 h3
 | n + 1, l, A1, W, ρ, g, aL, hs, hc, q => by
  unfold wpAnyIn
  refine ⟨fun hr => ?_, fun i hi => ?_⟩
  ·-- the first one that is not done could be done
   exfalso
   have least : ∀ k, k ≤ ops.size → (∀ i, i < k → l.getD i false = true) ∨ ∃ i, i < k ∧ l.getD i false = false ∧ ∀ j, j < i → l.getD j false = true := by
    intro k
    induction k with
    | zero => intro _; exact .inl fun i hi => by omega
    | succ k ih =>
     intro hk
     rcases ih (by omega) with h | ⟨i, h1, h2, h3⟩
     ·cases hL : l.getD k false with
      | true =>
       refine .inl fun i hi => ?_
       by_cases e : i = k
       ·rw [e]; exact hL
       ·exact h i (by omega)
      | false => exact .inr ⟨k, by omega, hL, h⟩
     ·exact .inr ⟨i, by omega, h2, h3⟩
   rcases least ops.size (Nat.le_refl _) with h | ⟨i, h1, h2, h3⟩
   ·have : ∀ k, k ≤ ops.size → cnt (fun i => l.getD i false) k = 0 := by
     intro k
     induction k with
     | zero => intro _; rfl
     | succ k ih => intro hk; unfold cnt; rw [ih (by omega), h k (by omega)]; rfl
    rw [this _ (Nat.le_refl _)] at hc
    cases hc
   ·have ho : ops[i]? = some ops[i] := by simp [h1]
    have : i ∈ Region.ready .any ops l := mem_ready.2 ⟨by rw [uw (by omega)]; exact h2, ops[i], ho, fun e he hb => h3 _ (d.edge i _ ho e he hb)⟩
    rw [hr] at this
    cases this
  ·obtain ⟨h1, o, ho, h2⟩ := mem_ready.1 hi
   have hlt : i < ops.size := (Array.getElem?_eq_some_iff.1 ho).1
   rw [uw (by omega)] at h1
   have hanc : ∀ j, (mask i).testBit j = true → l.getD j false = true := fun j hj => by
    obtain ⟨e, he, hb, h⟩ := d.anc i o ho j hj
    have h3 := h2 e he hb
    rcases h with rfl | h
    ·exact h3
    ·exact q.closed e.on h3 j h
   refine op_done hlp hle hex d hbase q ho h1 hanc fun A1 W ρ g aL q' => ?_
   rw [← XN (by omega)] at q'
   have hc' : cnt (fun j => (l.setIfInBounds i true).getD j false) ops.size = n := by
    rw [XN (by omega)]
    have := (XH (L := fun j => l.getD j false) (i := i) h1 ops.size).2 hlt
    omega
   exact kI hlp hle hex d hbase hQ n _ A1 W ρ g aL (by simpa using hs) hc' q'
end
noncomputable def chk1 (a : HAct) (σ : HS) (p : Bool × Nat × Lo × Nat) : Bool := match oLoad p.1 p.2.1 p.2.2.1 a σ with | some (u, _) => Nat.blt p.2.2.2 a.nt && hvEq u (a.tmp p.2.2.2) | none => false
theorem Y0 {a : HAct} {σ : HS} : ∀ {cs : List (Bool × Nat × Lo × Nat)}, chkH a σ cs = true → ∀ p ∈ cs, chk1 a σ p = true
 | [], _, p, hp => by cases hp
 | (g, n, x, t) :: cs, h, p, hp => by
  unfold chkH at h
  simp only [Bool.and_eq_true] at h
  rcases List.mem_cons.1 hp with rfl | hp
  ·exact h.1
  ·exact Y0 h.2 p hp
theorem Xp {all : List zh} {m i s j : Nat} {p : Bool × Nat × Lo × Nat} (hs : s ≤ j) (hm : m.testBit j = false) (hp : pairOf all i j = some p) : ∀ {n : Nat}, j < n → p ∈ chksOf all m i s n
 | 0, h => by omega
 | n + 1, h => by
  unfold chksOf
  by_cases e : j = n
  ·subst e
   have : (Nat.ble s j && !m.testBit j) = true := by rw [hm]; simpa using hs
   rw [this, hp]
   exact List.mem_cons_self ..
  ·have ih := Xp (all := all) (m := m) (i := i) hs hm hp (n := n) (by omega)
   cases (Nat.ble s n && !m.testBit n) with
   | false => exact ih
   | true =>
    simp only [cond_true]
    split
    ·exact List.mem_cons_of_mem _ ih
    ·exact ih
theorem Xy {a b : HV} (h : hvEq1 a b = true) : a = b := by
 unfold hvEq1 at h
 split at h <;> first | (cases h; done) | rfl | skip
 all_goals simp only [Bool.and_eq_true, beq_iff_eq, Xd, eqI_eq, decide_eq_true_eq, Nat.beq_eq] at h
 ·rw [h]
 ·rw [h.1, h.2]
 ·rw [h.1, h.2]
 ·rw [h.1, h.2]
 ·rw [h.1.1, h.1.2, h.2.1, h.2.2]
 ·rw [h]
 ·rw [h]
theorem Xx : ∀ {a b : List HV}, hvEqs a b = true → a = b
 | [], [], _ => rfl
 | x :: xs, y :: ys, h => by
  unfold hvEqs at h
  simp only [Bool.and_eq_true] at h
  rw [Xy h.1, Xx h.2]
 | [], _ :: _, h => by cases h
 | _ :: _, [], h => by cases h
theorem hvEq_eq {a b : HV} (h : hvEq a b = true) : a = b := by
 unfold hvEq at h
 split at h
 ·rw [Xx h]
 ·exact Xy h
theorem Zg {o : zh} (h : isCallO o = true) : ∃ f xs, o.op = .call f xs ∧ o.g = none := by
 unfold isCallO at h
 split at h
 ·rename_i f xs e1 e2; exact ⟨_, xs, e1, e2⟩
 ·cases h
theorem j7 {all : List zh} {m i s : Nat} {o : zh} {fl : Nat} {a : HAct} {σ σ' : HS} {v : HV} (h : stepVal lp ex fl (withChk1 all m i s o) a σ = some (v, σ')) :
  stepVal lp ex fl o a σ = some (v, σ') ∧ (s ≤ i → isCallO o = true → ∀ p ∈ chksOf all m i s i, chk1 a σ' p = true) := by
 unfold withChk1 at h
 cases hc : (Nat.ble s i && isCallO o) with
 | false =>
  rw [hc] at h
  refine ⟨h, fun h1 h2 => ?_⟩
  have : Nat.ble s i = true := by rw [Nat.ble_eq]; exact h1
  rw [h2, this] at hc
  cases hc
 | true =>
  rw [hc] at h
  simp only [cond_true] at h
  simp only [Bool.and_eq_true] at hc
  obtain ⟨f, xs, e1, e2⟩ := Zg hc.2
  cases hcs : chksOf all m i s i with
  | nil => rw [hcs] at h; exact ⟨h, fun _ _ p hp => by cases hp⟩
  | cons c cs =>
   rw [hcs] at h
   have hw : withCall o (c :: cs) = { o with op := .callC f xs (c :: cs) } := by unfold withCall; rw [e1]
   dsimp only at h
   rw [hw] at h
   unfold stepVal at h ⊢
   rw [show wantedH ({ o with op := .callC f xs (c :: cs) } : zh).g a = true by show wantedH o.g a = true; rw [e2]; rfl] at h
   rw [show wantedH o.g a = true by rw [e2]; rfl]
   simp only [cond_true] at h ⊢
   have h : oCallC lp ex fl f xs (c :: cs) a σ = some (v, σ') := h
   unfold oCallC at h
   split at h
   ·rename_i v1 σ1 h1
    revert h
    cases hk : chkH a σ1 (c :: cs) with
    | false => intro h; cases h
    | true =>
     intro h
     cases h
     refine ⟨?_, fun _ _ => Y0 hk⟩
     rw [e1]; exact h1
   ·cases h
theorem YS {all : List zh} {ns : List Nat} {j : Nat} : ∀ {n : Nat}, noOver all ns j n = true → ∀ k x d, j < k → k < n → all[k]? = some x → x.dst = some d → d ∉ ns
 | 0, _, k, _, _, _, h, _, _ => by omega
 | n + 1, h, k, x, d, h1, h2, hx, hd => by
  unfold noOver at h
  simp only [Bool.and_eq_true] at h
  by_cases e : k = n
  ·subst e
   have := h.1
   rw [hx] at this
   simp only [hd, Bool.or_eq_true, Nat.ble_eq] at this
   rcases this with h | h
   ·omega
   ·simpa using h
  ·exact YS h.2 k x d h1 (by omega) hx hd
theorem pair_of {all : List zh} {i j : Nat} {p : Bool × Nat × Lo × Nat} (h : pairOf all i j = some p) : ∃ an, all[j]? = some ⟨some p.2.2.2, .load p.1 p.2.1 p.2.2.1, none, an⟩ ∧ p.2.2.2 ∉ p.2.2.1.tmps ∧ noOver all (p.2.2.2 :: p.2.2.1.tmps) j i = true := by
 unfold pairOf at h
 split at h
 ·rename_i t g n x an e
  revert h
  cases hc : (!x.tmps.contains t && noOver all (t :: x.tmps) j i) with
  | false => intro h; cases h
  | true =>
   intro h
   cases h
   simp only [Bool.and_eq_true, Bool.not_eq_true'] at hc
   exact ⟨an, e, by simpa using hc.1, hc.2⟩
 ·cases h
theorem chk_at {all : List zh} {masks : List Nat} {s : Nat} : ∀ (os : List zh) (k i : Nat), (withChk all masks s os k)[i]? = (os[i]?).map fun o => withChk1 all (masks.getD (k + i) 0) (k + i) s o
 | [], k, i => by simp [withChk]
 | o :: os, k, 0 => by simp [withChk]
 | o :: os, k, i + 1 => by
  have := chk_at (all := all) (masks := masks) (s := s) os (k + 1) i
  rw [show k + 1 + i = k + (i + 1) by omega] at this
  simpa [withChk] using this
theorem ui {all : List zh} {m i s : Nat} {o : zh} : (withChk1 all m i s o).dst = o.dst ∧ (withChk1 all m i s o).anc = o.anc := by
 unfold withChk1
 cases (Nat.ble s i && isCallO o) with
 | false => exact ⟨rfl, rfl⟩
 | true =>
  simp only [cond_true]
  split
  ·exact ⟨rfl, rfl⟩
  ·unfold withCall
   split <;> exact ⟨rfl, rfl⟩
theorem chk1_low {all : List zh} {m i s : Nat} {o : zh} (h : i < s) : withChk1 all m i s o = o := by
 unfold withChk1
 have : Nat.ble s i = false := by
  cases e : Nat.ble s i
  ·rfl
  ·rw [Nat.ble_eq] at e; omega
 rw [this]; rfl
theorem Yp (hm : P.follows .mixedOrders = true) (hlp : LpOk P lp) (hle : ExLe ex) (hex : ExSound P ex) : DrawSound P lp ex := by
 intro id ops fl rd a σ e a' σ' h hd
 unfold lowDraw at h
 simp only at h
 obtain ⟨all, hall⟩ : ∃ all, all = ops.toList.map (lowOper P ops) := ⟨_, rfl⟩
 obtain ⟨masks, hmasks⟩ : ∃ masks, masks = masksOf ops.toList [] := ⟨_, rfl⟩
 rw [← hall, ← hmasks] at h
 cases hok : (drawOk all masks all 0 && edgesOks ops.toList 0) with
 | false => rw [hok] at h; cases h
 | true =>
  rw [hok] at h
  simp only [cond_true, xCode] at h
  simp only [Bool.and_eq_true] at hok
  unfold xDraw xNormal at h
  cases hfl : Nat.ble fl σ.nx with
  | false => rw [hfl] at h; cases h
  | true =>
   rw [hfl] at h
   have hfl := Nat.le_of_ble_eq_true hfl
   simp only [cond_true] at h
   split at h
   ·rename_i h1
    cases h
    obtain ⟨s, hs⟩ : ∃ s, s = zoneAt all masks all 0 0 := ⟨_, rfl⟩
    obtain ⟨ws, hws⟩ : ∃ ws, ws = mayAll all masks s all 0 := ⟨_, rfl⟩
    rw [← hs, ← hws] at h1
    obtain ⟨N, hN⟩ : ∃ N : Nat → List Nat, N = fun i => bif Nat.blt i ops.size then withOwn i (ws.getD i false) (bitsOf (masks.getD i 0) all ws i i) else [] := ⟨_, rfl⟩
    have opAt : ∀ i o, ops[i]? = some o → all[i]? = some (lowOper P ops o) ∧ (withChk all masks s (withAnc all masks ws all 0) 0)[i]? = some (withChk1 all (masks.getD i 0) i s { lowOper P ops o with anc := N i }) := by
     intro i o ho
     have h1 : all[i]? = some (lowOper P ops o) := by rw [hall]; simp [ho]
     refine ⟨h1, ?_⟩
     have hlt : i < ops.size := (Array.getElem?_eq_some_iff.1 ho).1
     have hb : Nat.blt i ops.size = true := by rw [Nat.blt_eq]; exact hlt
     rw [chk_at, anc_at, h1, hN, Nat.zero_add]
     simp [hb]
    have hlen : (withChk all masks s (withAnc all masks ws all 0) 0).length = ops.size := by
     have c : ∀ (os : List zh) (k : Nat), (withChk all masks s os k).length = os.length := by
      intro os
      induction os with
      | nil => intro k; rfl
      | cons o os ih => intro k; simp [withChk, ih]
     rw [c]
     have : ∀ (os : List zh) (k : Nat), (withAnc all masks ws os k).length = os.length := by
      intro os
      induction os with
      | nil => intro k; rfl
      | cons o os ih => intro k; simp [withAnc, ih]
     rw [this, hall]; simp
    have hNanc : ∀ (k : Nat) (o : zh), (withChk all masks s (withAnc all masks ws all 0) 0)[k]? = some o → o.anc = N (0 + k) := by
     intro k o ho
     have hlt : k < ops.size := by
      rcases Nat.lt_or_ge k ops.size with h | h
      ·exact h
      ·rw [List.getElem?_eq_none (by omega)] at ho; cases ho
     have h2 := (opAt k ops[k] (by simp [hlt])).2
     rw [ho] at h2
     cases h2
     rw [Nat.zero_add, ui.2]
    obtain ⟨v, A, S, S', z, e1, e2, e3, e4, t⟩ := uy (N := N) _ 0 [] a a' σ.nx σ' hNanc h1
    rw [hlen, Nat.zero_add] at e3 e4
    have inN : ∀ i k, k ∈ N i → i < ops.size ∧ ((k = i ∧ ws.getD i false = true) ∨ ((masks.getD i 0).testBit k = true ∧ k < i ∧ ∃ o, all[k]? = some o ∧ (o.op.makes = true ∨ ws.getD k false = true))) := by
     intro i k hk
     rw [hN] at hk
     dsimp only at hk
     revert hk
     cases hc : Nat.blt i ops.size with
     | false => intro hk; cases hk
     | true =>
      intro hk
      refine ⟨vY hc, (own_mem hk).imp (fun h => h) fun h => j8 h⟩
    have mayW : ∀ i, ws.getD i false = true → ∃ o, all[i]? = some o ∧ i < s ∧ o.op.writes = true ∧ ancOk all masks i i = true := by
     intro i hi
     rw [hws] at hi
     obtain ⟨o, h1, h2, h3, h4⟩ := may_at hi
     rw [Nat.zero_add] at h2 h4
     exact ⟨o, h1, h2, h3, h4⟩
    have flW : ∀ i, Fl N i → ws.getD i false = true := by
     intro i hi
     have hm : i ∈ N i := by unfold Fl at hi; simpa using hi
     rcases (inN i i hm).2 with h | h
     ·exact h.2
     ·omega
    have zN : z ≤ ops.size := by have := t.hi; omega
    have nxt : ∀ i, i < ops.size → (S i).nx ≤ (S (i + 1)).nx ∧ (S (i + 1)).nx = (S' i).nx := by
     intro i hi
     have ho : ops[i]? = some ops[i] := by simp [hi]
     obtain ⟨_, ho2⟩ := opAt i _ ho
     by_cases hz : i < z
     ·have := t.pure i _ ho2 (by omega)
      rw [Nat.zero_add] at this
      omega
     ·have := t.zone i _ ho2 (by omega)
      rw [Nat.zero_add] at this
      have h3 := vB hle this.1
      rw [this.2]
      exact ⟨h3, rfl⟩
    have mono : ∀ i, i ≤ ops.size → σ.nx ≤ (S i).nx := by
     intro i
     induction i with
     | zero => intro _; rw [e2]; exact Nat.le_refl _
     | succ i ih => intro hi; exact Nat.le_trans (ih (by omega)) (nxt i (by omega)).1
    have zs : ∀ i o, ops[i]? = some o → z ≤ i → zoneAt all masks all 0 0 ≤ i := by
     intro i o ho hz
     have hlt : i < ops.size := (Array.getElem?_eq_some_iff.1 ho).1
     have := t.side i (by omega)
     omega
    have hanc' : ∀ i o, ops[i]? = some o → ∀ j, (masks.getD i 0).testBit j = true → ∃ e ∈ o.after, Region.binds .any e = true ∧ (j = e.on ∨ (masks.getD e.on 0).testBit j = true) := by
     intro i o ho j hj
     rw [hmasks] at hj ⊢
     obtain ⟨e, h1, h2, h3⟩ := XM (os := ops.toList) (i := i) (o := o) (by simpa using ho) hj
     exact ⟨e, by simpa using h1, h2, h3⟩
    have d : DF P lp ex ops fl z σ v A S S' (fun i => masks.getD i 0) N := by
     refine ⟨zN, hfl, hd, e2, fun i o ho e he hb => ?_, hanc', fun i o ho j hj => ?_, fun i o ho j hj => ?_, fun i o ho hf k hk hne j x hx htx hjk => ?_, fun i o ho hf => ?_, fun i o j x ho hx hj => ?_, fun i o j x ho hx hj hz => ?_, fun i o ho => ?_, fun i o ho hz => ?_, nxt, fun i hi hz b x hx => ?_, fun i o ho hz => ?_, fun b x hx => ?_, fun b hb => ?_⟩
     ·have := j5 (k := 0) hok.2 (i := i) (o := o) (by simpa using ho) e (by simpa using he) hb
      omega
     ·rw [hmasks] at hj
      exact mask_lt hok.2 i (o := o) (by simpa using ho) hj
     ·rcases (inN i j hj).2 with h | h
      ·exact .inl h.1
      ·exact .inr h.1
     ·obtain ⟨o2, h1, h2, h3, h4⟩ := mayW i (flW i hf)
      rcases (inN i k hk).2 with h | ⟨h5, h6, o3, h7, h8⟩
      ·exact absurd h.1 hne
      ·have h9 : o3.op.makes = true ∨ o3.op.writes = true := by
        rcases h8 with h8 | h8
        ·exact .inl h8
        ·obtain ⟨o4, g1, _, g3, _⟩ := mayW k h8
         rw [h7] at g1; cases g1
         exact .inr g3
       have h10 := anc_ok h4 k o3 h6 h5 h7 h9
       have hjl : j < all.length := by
        rcases Nat.lt_or_ge j all.length with h | h
        ·exact h
        ·have := (opAt j x hx).1
         rw [List.getElem?_eq_none h] at this; cases this
       exact XO h10 j _ hjl (opAt j x hx).1 htx hjk
     ·obtain ⟨o2, h1, h2, h3, h4⟩ := mayW i (flW i hf)
      rw [(opAt i o ho).1] at h1
      cases h1
      exact h3
     ·have := YZ hok.1 i _ (opAt i o ho).1 j _ (by omega) (opAt j x hx).1
      rwa [Nat.zero_add] at this
     ·have hlt : i < ops.size := (Array.getElem?_eq_some_iff.1 ho).1
      have hzs := zs i o ho hz
      have hzo := kJ (all := all) (masks := masks) (os := all) (k := 0) (s := 0) (Nat.le_refl _) i _ (opAt i o ho).1 (by omega)
      rw [Nat.zero_add] at hzo
      rcases kZ hzo j _ hj (opAt j x hx).1 with h | h | h | h | ⟨g1, g2, p, g3⟩
      ·exact .inl h
      ·exact .inr (.inl h)
      ·exact .inr (.inr (.inl h))
      ·exact .inr (.inr (.inr (.inl h)))
      ·cases hmj : (masks.getD i 0).testBit j with
       | true => exact .inl rfl
       | false =>
        rw [← hs] at g2 hzs
        have hjl : j < ops.size := (Array.getElem?_eq_some_iff.1 hx).1
        have hzj : z ≤ j := by
         rcases Nat.lt_or_ge j z with c | c
         ·have := (t.side j (by omega)).1 (by omega)
          omega
         ·exact c
        obtain ⟨an, p1, p2, p3⟩ := pair_of g3
        rw [(opAt j x hx).1] at p1
        have hx1 : lowOper P ops x = ⟨some p.2.2.2, .load p.1 p.2.1 p.2.2.1, none, an⟩ := Option.some.inj p1
        have st := (t.zone i _ (opAt i o ho).2 (by omega)).1
        rw [Nat.zero_add] at st
        have hck := (j7 st).2 hzs g1 p (Xp g2 hmj g3 hj)
        have stj := (t.zone j _ (opAt j x hx).2 (by omega)).1
        rw [Nat.zero_add] at stj
        have stj := (j7 stj).1
        -- what it needs and makes stands as it was
        have actj : A (j + 1) = (A j).put (some p.2.2.2) (v j) := by
         have := t.act j _ (opAt j x hx).2
         rw [Nat.zero_add] at this
         rw [this, ui.1]
         show (A j).put (lowOper P ops x).dst (v j) = _
         rw [hx1]
        have keep : ∀ d, j + 1 + d ≤ i → (A (j + 1 + d)).nt = (A (j + 1)).nt ∧ ∀ t' ∈ p.2.2.2 :: p.2.2.1.tmps, (A (j + 1 + d)).tmp t' = (A (j + 1)).tmp t' := by
         intro d
         induction d with
         | zero => intro _; exact ⟨rfl, fun _ _ => rfl⟩
         | succ d ih =>
          intro hd
          obtain ⟨i1, i2⟩ := ih (by omega)
          have hml : j + 1 + d < ops.size := by omega
          have hmo : ops[j + 1 + d]? = some ops[j + 1 + d] := by simp [hml]
          have hact := t.act (j + 1 + d) _ (opAt _ _ hmo).2
          rw [Nat.zero_add, ui.1] at hact
          refine ⟨by rw [show j + 1 + (d + 1) = j + 1 + d + 1 by omega, hact, uZ, i1], fun t' ht' => ?_⟩
          rw [show j + 1 + (d + 1) = j + 1 + d + 1 by omega, hact, yA, if_neg, i2 t' ht']
          rintro ⟨e, _⟩
          exact YS p3 (j + 1 + d) _ t' (by omega) (by omega) (opAt _ _ hmo).1 e ht'
        obtain ⟨k1, k2⟩ := keep (i - (j + 1)) (by omega)
        rw [show j + 1 + (i - (j + 1)) = i by omega] at k1 k2
        refine .inr (.inr (.inr (.inr ⟨hzj, by rw [hx1]; rfl, ?_⟩)))
        rw [hx1]
        have evs : (A i).ev p.2.2.1 = (A j).ev p.2.2.1 := zw fun t' ht' => by
         rw [k2 t' (List.mem_cons_of_mem _ ht'), actj, yA, if_neg]
         rintro ⟨e, _⟩
         cases e
         exact p2 ht'
        unfold chk1 at hck
        split at hck
        ·rename_i u σ2 hu
         simp only [Bool.and_eq_true, Nat.blt_eq] at hck
         have hu2 : u = v j := by
          rw [hvEq_eq hck.2, k2 _ (List.mem_cons_self ..), actj, yA, if_pos]
          refine ⟨rfl, ?_⟩
          have := hck.1
          rw [k1, actj, uZ] at this
          exact this
         have hs2 : σ2 = S' i := Xl (lp := lp) (ex := ex) (fl := fl) (l := .load p.1 p.2.1 p.2.2.1) rfl hu
         subst hu2
         subst hs2
         show oLoad p.1 p.2.1 p.2.2.1 (A j) (S' i) = _
         have : oLoad p.1 p.2.1 p.2.2.1 (A j) (S' i) = oLoad p.1 p.2.1 p.2.2.1 (A i) (S' i) := by simp only [oLoad, evs]
         rw [this]; exact hu
        ·cases hck
     ·have := t.act i _ (opAt i o ho).2
      rw [Nat.zero_add] at this
      rw [this, ui.1]
      show (A i).put (lowOper P ops o).dst (v i) = _
      rw [uJ]
     ·have := (t.pure i _ (opAt i o ho).2 (by omega)).1
      have hlt : i < ops.size := (Array.getElem?_eq_some_iff.1 ho).1
      rw [Nat.zero_add, chk1_low ((t.side i (by omega)).1 (by omega) |> fun h => by omega)] at this
      have hmx : Nat.max fl (S i).nx = (S i).nx := by
       have := mono i (by omega)
       exact Nat.max_eq_right (by omega)
      have hmy : Nat.max fl σ.nx = σ.nx := Nat.max_eq_right (by omega)
      rw [hmx, hmy] at this
      exact this
     ·have := t.from_ i (by omega) (by omega) b x (by rw [Nat.zero_add]; exact hx)
      rw [Nat.zero_add] at this
      rcases this with h | ⟨j, l, h, _⟩ | ⟨j, _, h2, h3, h4, h5, h6⟩
      ·exact .inl h
      ·cases h
      ·exact .inr ⟨j, h2, h3, h4, h5, h6⟩
     ·have := t.zone i _ (opAt i o ho).2 (by omega)
      rw [Nat.zero_add] at this
      exact ⟨(j7 this.1).1, this.2⟩
     ·rcases t.all b x hx with h | ⟨j, l, h, _⟩ | ⟨j, _, h2, h3⟩
      ·exact .inl h
      ·cases h
      ·exact .inr ⟨j, h2, h3⟩
     ·exact t.other b (fun j l h => by cases h) (fun j _ h2 => hb j h2)
    intro base ρ A0 W R hin ha hrd
    have key : (Code.region id ops true).wpIn (FR R) 0 P (fun E A' W' => HFS fl σ σ' ∧ PQ P base fl σ σ' ρ W .normal a' E A' W') A0 W := by
     refine wpIn_region_any hm ?_
     refine kI hlp hle hex d (base := base) (ρ0 := ρ) (W0 := W) hin.low ?_ ops.size _ A0 _ ρ σ.h.get a (by simp) ?_ ?_
     ·intro A1 W1 ρ1 h1 h2 h3
      rw [e4] at h1 h2
      rw [e3] at h3
      exact ⟨h1, ρ1, h2, rfl, h3⟩
     ·refine XG (fun i => ?_) _
      simp only [Array.getD_eq_getD_getElem?, Array.getElem?_replicate]
      split <;> rfl
     ·have off : ∀ i, (Array.replicate ops.size false).getD i false = false := by
       intro i
       simp only [Array.getD_eq_getD_getElem?, Array.getElem?_replicate]
       split <;> rfl
      have none : ∀ k, actL ops v (fun i => (Array.replicate ops.size false).getD i false) (A 0) k = A 0 := by
       intro k
       induction k with
       | zero => rfl
       | succ k ih => unfold actL; rw [off k, cond_false, ih]
      have hsim : Sim P base σ.h.get ρ { heap := W.heap, tape := W.tape, drawn := W.drawn + 1, os := W.os, output := W.output } :=
       ⟨fun b x hx => (hin.sim.ok b x hx).keep (Rho.le_refl ρ) fun r _ => rfl, hin.sim.inj⟩
      refine ⟨ha, by rw [e1], by rw [e1], fun t => by rw [none, e1], fun i hi _ b h1 h2 => ?_, ?_, fun k hk => ?_, fun i _ hL => ?_, .inl ⟨fun b x hx => hx, fun j _ hL => ?_, fun i o _ _ _ => off i⟩⟩
      ·refine hin.fresh b ?_ ?_
       ·have := mono i (by omega); omega
       ·have h3 := (nxt i hi).2
        have h4 : (S (i + 1)).nx ≤ (S ops.size).nx := d.mono hi (Nat.le_refl _)
        rw [e4] at h4
        omega
      ·exact ⟨fun _ _ h => h, fun _ _ => rfl, hsim, rfl, rfl, rfl, fun _ => rfl, Nat.le_refl _, fun _ _ _ => rfl, fun _ h => .inr h⟩
      ·rw [off k] at hk; cases hk
      ·rw [off i] at hL; cases hL
      ·rw [off j] at hL; cases hL
    obtain ⟨_, _, _, hf, _⟩ := uU key
    exact ⟨hf, wpIn_mono key fun E A' W' h => h.2⟩
   ·cases h
theorem Yt (hm : P.follows .mixedOrders = true) (hlp : LpOk P lp) : ∀ n, (∀ j, j < n → ExSound P (exec lp j) ∧ ExLe (exec lp j)) → ExSound P (exec lp n) ∧ ExLe (exec lp n)
 | 0, _ => ⟨(fun c fl rd a σ e a' σ' h => by cases h), (fun fl rd lc a σ e a' σ' h => by cases h)⟩
 | n + 1, hall => by
  obtain ⟨hex, hle⟩ := hall n (by omega)
  refine ⟨?_, exec_le n (fun fl s ops a a' σ σ' _ h => draw_le hle fl s ops a a' σ σ' h) hle⟩
  intro c fl rd a σ e a' σ' h hd
  have h0 : exec lp (n + 1) fl rd (lowC P c) a σ = some (e, a', σ') := h
  simp only [exec] at h
  have nothing : ∀ base ρ A W R, In P base σ σ ρ W → AR ρ a A → RdOk ρ rd R → ∀ E : HExit, PQ P base fl σ σ ρ W E a (exitOf E) A W := fun base ρ A W R hin ha _ E => ⟨ρ, Post.refl hin.sim, rfl, ha⟩
  cases c with
  | skip =>
   cases h
   exact fun base ρ A W R hin ha hrd => ⟨HF.refl _ _ _, wpIn_skip (nothing base ρ A W R hin ha hrd .normal)⟩
  | region id ops draw =>
   cases draw with
   | false => exact kN hlp hle hex h hd
   | true => exact Yp hm hlp hle hex id ops fl rd a σ e a' σ' h hd
  | seq x y => exact Y7 hle hex h hd
  | cond c x y =>
   simp only [lowC] at h
   split at h
   ·rename_i lc hc
    exact Ys hex hc h hd
   ·cases h
  | block id x => exact XJ hex h hd
  | loop x =>
   intro base ρ A W R hin ha hrd
   obtain ⟨f1, h2⟩ := jU hlp (c := x) (n + 1) hall h0 hd base ρ A W R hin ha hrd
   exact ⟨f1, wpIn_loop_rounds (n + 1) (h2 _ fun _ _ _ h => h)⟩
  | rangeFunc g ps assign body =>
   simp only [lowC] at h
   split at h
   ·rename_i lg hg
    exact Xj hlp hle hex hg h hd
   ·cases h
  | exit id =>
   cases h
   exact fun base ρ A W R hin ha hrd => ⟨HF.refl _ _ _, wpIn_exit (nothing base ρ A W R hin ha hrd (.exit id))⟩
  | scope x => exact Xc hex h hd
  | label l =>
   cases h
   exact fun base ρ A W R hin ha hrd => ⟨HF.refl _ _ _, wpIn_label (nothing base ρ A W R hin ha hrd .normal)⟩
  | ret =>
   cases h
   exact fun base ρ A W R hin ha hrd => ⟨HF.refl _ _ _, wpIn_ret (nothing base ρ A W R hin ha hrd .ret)⟩
  | goto l => cases h
  | refuse s => cases h
theorem vI (hm : P.follows .mixedOrders = true) (hlp : LpOk P lp) (n : Nat) : ExSound P (exec lp n) ∧ ExLe (exec lp n) := by
 induction n using Nat.strongRecOn with
 | ind n ih => exact Yt hm hlp n ih
theorem Y8 (hm : P.follows .mixedOrders = true) {lp : Nat → Option zp} (hlp : LpOk P lp) {n fl f : Nat} {args : List HV} {σ σ' : HS} {v : HV} (h : callF lp (exec lp n) fl f args σ = some (v, σ')) (hd : Dom σ) :
  ∀ (base : Nat) (ρ : Rho) (Args : Array Value) (W : World), In P base σ σ' ρ W → LR ρ args Args.toList →
   CallsIn (FR none) 0 P f Args W (fun E W' => ∃ V ρ', E = .returned V ∧ VR ρ' v V ∧ PostS P base fl σ σ' ρ ρ' W W') :=
 fun base ρ Args W hin hargs => (y6 hlp (vI hm hlp n).2 (vI hm hlp n).1 h hd base ρ Args W hin hargs).2.2
end Go.Hx

namespace Go.Hx
variable {lp : Nat → Option zp} {ex ex' : Ex}
def ExMon (ex ex' : Ex) : Prop := ∀ fl rd c a σ r, ex fl rd c a σ = some r → ex' fl rd c a σ = some r
theorem kG (h : ExMon ex ex') {fl : Nat} {lf : zp} {args : List HV} {σ : HS} {r : HV × HS} (hr : callB ex fl lf args σ = some r) : callB ex' fl lf args σ = some r := by
 unfold callB at hr ⊢
 cases he : ex fl none lf.body ⟨Nat.max lf.nt args.length, putAll .e 0 args, []⟩ σ with
 | none => rw [he] at hr; cases hr
 | some x => rw [he] at hr; rw [h _ _ _ _ _ _ he]; exact hr
theorem vt (h : ExMon ex ex') {fl f : Nat} {args : List HV} {σ : HS} {r : HV × HS} (hr : callF lp ex fl f args σ = some r) : callF lp ex' fl f args σ = some r := by
 unfold callF at hr ⊢
 cases hl : lp f with
 | none => rw [hl] at hr; cases hr
 | some lf =>
  rw [hl] at hr
  dsimp only at hr ⊢
  cases hsp : lf.spec with
  | some g => rw [hsp] at hr; exact hr
  | none =>
  rw [hsp] at hr
  dsimp only at hr ⊢
  cases hi : lf.imp with
  | true => rw [hi] at hr; exact kG h hr
  | false =>
   rw [hi] at hr
   simp only [cond_false] at hr ⊢
   cases he : callB ex σ.nx lf args σ with
   | none => rw [he] at hr; cases hr
   | some x => rw [he] at hr; rw [kG h he]; exact hr
theorem X4 (h : ExMon ex ex') {fl l : Nat} {args : List HV} {σ : HS} {r : HV × HS} (hr : roundH ex fl l args σ = some r) : roundH ex' fl l args σ = some r := by
 unfold roundH at hr ⊢
 cases hl : σ.h.get l with
 | none => rw [hl] at hr; cases hr
 | some b =>
  rw [hl] at hr
  cases b with
  | loop q =>
   dsimp only at hr ⊢
   cases hz : zipPut q.nt q.tmps q.params args with
   | none => rw [hz] at hr; cases hr
   | some tmps =>
    rw [hz] at hr
    dsimp only at hr ⊢
    cases he : ex fl (some l) q.assign ⟨q.nt, tmps, []⟩ σ with
    | none => rw [he] at hr; cases hr
    | some x =>
     rw [he] at hr
     rw [h _ _ _ _ _ _ he]
     obtain ⟨e, a, σ1⟩ := x
     cases e with
     | normal =>
      dsimp only at hr ⊢
      cases hb : beginRoundH fl l σ1 with
      | none => rw [hb] at hr; cases hr
      | some σ2 =>
       rw [hb] at hr
       dsimp only at hr ⊢
       cases he2 : ex fl (some l) q.body a σ2 with
       | none => rw [he2] at hr; cases hr
       | some y => rw [he2] at hr; rw [h _ _ _ _ _ _ he2]; exact hr
     | exit id => exact hr
     | ret => exact hr
  | cells cs k => cases hr
  | map es => cases hr
  | marks => cases hr
theorem kF (h : ExMon ex ex') {fl : Nat} {f : HV} {args : List HV} {σ : HS} {r : HV × HS} (hr : callH lp ex fl f args σ = some r) : callH lp ex' fl f args σ = some r := by
 unfold callH at hr ⊢
 split at hr
 ·exact vt h hr
 ·exact X4 h hr
 ·unfold callV at hr ⊢
  split at hr
  ·exact vt h hr
  ·cases hr
 ·cases hr
theorem op_mon (h : ExMon ex ex') {fl : Nat} {o : LOp} {a : HAct} {σ : HS} {r : HV × HS} (hr : opH lp ex fl o a σ = some r) : opH lp ex' fl o a σ = some r := by
 cases o <;> first | exact hr | skip
 case call f args => exact kF h hr
 case callC f args cs =>
  simp only [opH] at hr ⊢
  unfold oCallC at hr ⊢
  cases e : callH lp ex fl (a.ev f) (args.map a.ev) σ with
  | none => rw [e] at hr; cases hr
  | some y => rw [e] at hr; rw [kF h e]; exact hr
theorem yf (h : ExMon ex ex') {fl : Nat} {o : zh} {a : HAct} {σ : HS} {r : HAct × HS} (hr : stepOp lp ex fl o a σ = some r) : stepOp lp ex' fl o a σ = some r := by
 unfold stepOp at hr ⊢
 cases hw : wantedH o.g a with
 | false => rw [hw] at hr; exact hr
 | true =>
  rw [hw] at hr
  simp only [cond_true] at hr ⊢
  cases ho : opH lp ex fl o.op a σ with
  | none => rw [ho] at hr; cases hr
  | some x => rw [ho] at hr; rw [op_mon h ho]; exact hr
theorem yw (h : ExMon ex ex') {fl : Nat} : ∀ {ops : List zh} {a : HAct} {σ : HS} {r : HAct × HS}, runOps lp ex fl ops a σ = some r → runOps lp ex' fl ops a σ = some r
 | [], _, _, _, hr => hr
 | o :: os, a, σ, r, hr => by
  unfold runOps at hr ⊢
  cases ho : stepOp lp ex fl o a σ with
  | none => rw [ho] at hr; cases hr
  | some x => rw [ho] at hr; rw [yf h ho]; exact yw h hr
theorem yd (h : ExMon ex ex') {fl s n0 : Nat} {h0 : Tr HBlk} : ∀ {ops : List zh} {i : Nat} {done : List (Nat × List (Nat × HBlk))} {a : HAct} {nx : Nat} {r : HAct × HS}, drawOps lp ex fl s n0 h0 ops i done a nx = some r → drawOps lp ex' fl s n0 h0 ops i done a nx = some r
 | [], _, _, _, _, _, hr => hr
 | o :: os, i, done, a, nx, r, hr => by
  unfold drawOps at hr ⊢
  cases hc : Nat.blt i s with
  | false => rw [hc] at hr; exact yw h hr
  | true =>
   rw [hc] at hr
   simp only [cond_true] at hr ⊢
   cases hw : o.anc.contains i with
   | true =>
    rw [hw] at hr
    simp only [cond_true] at hr ⊢
    cases ho : stepOp lp ex (Nat.max fl n0) o a ⟨merge h0 (some o.anc) done, nx⟩ with
    | none => rw [ho] at hr; cases hr
    | some x =>
     obtain ⟨a1, σ1⟩ := x
     rw [ho] at hr
     rw [yf h ho]
     dsimp only at hr ⊢
     cases hb : Nat.ble nx σ1.nx with
     | false => rw [hb] at hr; cases hr
     | true => rw [hb] at hr; exact yd h hr
   | false =>
    rw [hw] at hr
    simp only [cond_false] at hr ⊢
    cases ho : stepOp lp ex (Nat.max fl nx) o a ⟨merge h0 (some o.anc) done, nx⟩ with
    | none => rw [ho] at hr; cases hr
    | some x =>
     obtain ⟨a1, σ1⟩ := x
     rw [ho] at hr
     rw [yf h ho]
     dsimp only at hr ⊢
     cases hb : Nat.ble nx σ1.nx with
     | false => rw [hb] at hr; cases hr
     | true => rw [hb] at hr; exact yd h hr
theorem jS {x x' : Option (HAct × HS)} (h : ∀ r, x = some r → x' = some r) {r : HExit × HAct × HS} (hr : xNormal x = some r) : xNormal x' = some r := by
 cases hx : x with
 | none => rw [hx] at hr; cases hr
 | some y => rw [hx] at hr; rw [h y hx]; exact hr
theorem Y6 (h : ExMon ex ex') : ExMon (xCode lp ex) (xCode lp ex') := by
 intro fl rd c a σ r hr
 have seq : ∀ x y, xSeq ex fl rd x y a σ = some r → xSeq ex' fl rd x y a σ = some r := by
  intro x y hr
  unfold xSeq at hr ⊢
  cases hx : ex fl rd x a σ with
  | none => rw [hx] at hr; cases hr
  | some q =>
   rw [hx] at hr
   rw [h _ _ _ _ _ _ hx]
   obtain ⟨e, a1, σ1⟩ := q
   cases e with
   | normal => exact h _ _ _ _ _ _ hr
   | exit id => exact hr
   | ret => exact hr
 cases c with
 | skip => exact hr
 | seq x y => exact seq x y hr
 | cond c x y =>
  simp only [xCode] at hr ⊢
  unfold xCond at hr ⊢
  split at hr
  ·rename_i b _
   cases b <;> exact h _ _ _ _ _ _ hr
  ·cases hr
 | block id x =>
  simp only [xCode] at hr ⊢
  unfold xBlock at hr ⊢
  cases hx : ex fl rd x a σ with
  | none => rw [hx] at hr; cases hr
  | some q => rw [hx] at hr; rw [h _ _ _ _ _ _ hx]; exact hr
 | loop x => exact seq x (.loop x) hr
 | scope x => exact h _ _ _ _ _ _ hr
 | exit id => exact hr
 | ret => exact hr
 | reg ops => exact jS (fun _ => yw h) hr
 | draw s ops =>
  simp only [xCode] at hr ⊢
  unfold xDraw at hr ⊢
  cases hb : Nat.ble fl σ.nx with
  | false => rw [hb] at hr; cases hr
  | true => rw [hb] at hr; exact jS (fun _ => yd h) hr
 | rangeFunc f ps assign body =>
  simp only [xCode] at hr ⊢
  unfold xRange at hr ⊢
  split at hr
  ·split at hr
   ·rename_i hc; rw [vt h hc]; exact hr
   ·cases hr
  ·cases hr
 | bad => exact hr
theorem Zj (n : Nat) : ExMon (exec lp n) (exec lp (n + 1)) := by
 induction n with
 | zero => intro fl rd c a σ r hr; cases hr
 | succ n ih => exact fun fl rd c a σ r hr => Y6 ih fl rd c a σ r hr
theorem zL {m n : Nat} (h : m ≤ n) : ExMon (exec lp m) (exec lp n) := by
 induction n with
 | zero => rw [show m = 0 by omega]; exact fun _ _ _ _ _ _ h => h
 | succ n ih =>
  by_cases e : m = n + 1
  ·rw [e]; exact fun _ _ _ _ _ _ h => h
  ·exact fun fl rd c a σ r hr => Zj n _ _ _ _ _ _ (ih (by omega) _ _ _ _ _ _ hr)
def W (lp : Nat → Option zp) (fl : Nat) (rd : Option Nat) (c : ze) (Q : HExit → HAct → HS → Prop) (a : HAct) (σ : HS) : Prop := ∃ n e a' σ', exec lp n fl rd c a σ = some (e, a', σ') ∧ Q e a' σ'
def C (lp : Nat → Option zp) (fl f : Nat) (args : List HV) (σ : HS) (Q : HV → HS → Prop) : Prop := ∃ n v σ', callF lp (exec lp n) fl f args σ = some (v, σ') ∧ Q v σ'
variable {fl : Nat} {rd : Option Nat} {Q : HExit → HAct → HS → Prop} {a : HAct} {σ : HS}
theorem W.mono {c : ze} {Q' : HExit → HAct → HS → Prop} (h : W lp fl rd c Q a σ) (hq : ∀ e a σ, Q e a σ → Q' e a σ) : W lp fl rd c Q' a σ := by
 obtain ⟨n, e, a', σ', h1, h2⟩ := h; exact ⟨n, e, a', σ', h1, hq _ _ _ h2⟩
theorem C.mono {f : Nat} {args : List HV} {Q Q' : HV → HS → Prop} (h : C lp fl f args σ Q) (hq : ∀ v σ, Q v σ → Q' v σ) : C lp fl f args σ Q' := by
 obtain ⟨n, v, σ', h1, h2⟩ := h; exact ⟨n, v, σ', h1, hq _ _ h2⟩
def thenH (N : HAct → HS → Prop) (Q : HExit → HAct → HS → Prop) : HExit → HAct → HS → Prop
 | .normal, a, σ => N a σ
 | e, a, σ => Q e a σ
theorem zF (h : Q .normal a σ) : W lp fl rd .skip Q a σ := ⟨1, _, _, _, rfl, h⟩
theorem z6 {id : Nat} (h : Q (.exit id) a σ) : W lp fl rd (.exit id) Q a σ := ⟨1, _, _, _, rfl, h⟩
theorem zD (h : Q .ret a σ) : W lp fl rd .ret Q a σ := ⟨1, _, _, _, rfl, h⟩
theorem zd {x y : ze} (h : W lp fl rd x (thenH (W lp fl rd y Q) Q) a σ) : W lp fl rd (.seq x y) Q a σ := by
 obtain ⟨n, e, a1, σ1, h1, h2⟩ := h
 cases e with
 | normal =>
  obtain ⟨m, e', a', σ', h3, h4⟩ := h2
  refine ⟨max n m + 1, e', a', σ', ?_, h4⟩
  show xSeq (exec lp (max n m)) fl rd x y a σ = _
  unfold xSeq
  rw [zL (Nat.le_max_left n m) _ _ _ _ _ _ h1]
  exact zL (Nat.le_max_right n m) _ _ _ _ _ _ h3
 | exit id =>
  refine ⟨n + 1, _, _, _, ?_, h2⟩
  show xSeq (exec lp n) fl rd x y a σ = _
  unfold xSeq; rw [h1]
 | ret =>
  refine ⟨n + 1, _, _, _, ?_, h2⟩
  show xSeq (exec lp n) fl rd x y a σ = _
  unfold xSeq; rw [h1]
theorem w_cond {c : Lo} {x y : ze} {b : Bool} (hc : a.ev c = .bool b) (h : W lp fl rd (bif b then x else y) Q a σ) : W lp fl rd (.cond c x y) Q a σ := by
 obtain ⟨n, e, a', σ', h1, h2⟩ := h
 refine ⟨n + 1, e, a', σ', ?_, h2⟩
 show xCond (exec lp n) fl rd c x y a σ = _
 unfold xCond
 rw [hc]
 cases b <;> exact h1
def inBlockH (id : Nat) (Q : HExit → HAct → HS → Prop) : HExit → HAct → HS → Prop
 | .exit i, a, σ => if i = id then Q .normal a σ else Q (.exit i) a σ
 | e, a, σ => Q e a σ
theorem zx {id : Nat} {x : ze} (h : W lp fl rd x (inBlockH id Q) a σ) : W lp fl rd (.block id x) Q a σ := by
 obtain ⟨n, e, a', σ', h1, h2⟩ := h
 cases e with
 | normal =>
  refine ⟨n + 1, _, _, _, ?_, h2⟩
  show xBlock (exec lp n) fl rd id x a σ = _
  unfold xBlock; rw [h1]
 | ret =>
  refine ⟨n + 1, _, _, _, ?_, h2⟩
  show xBlock (exec lp n) fl rd id x a σ = _
  unfold xBlock; rw [h1]
 | exit i =>
  by_cases hi : i = id
  ·subst hi
   simp only [inBlockH, if_true] at h2
   refine ⟨n + 1, .normal, a', σ', ?_, h2⟩
   show xBlock (exec lp n) fl rd i x a σ = _
   unfold xBlock; rw [h1]; simp
  ·simp only [inBlockH, if_neg hi] at h2
   refine ⟨n + 1, .exit i, a', σ', ?_, h2⟩
   show xBlock (exec lp n) fl rd id x a σ = _
   unfold xBlock; rw [h1]
   have : Nat.beq i id = false := by
    cases e : Nat.beq i id
    ·rfl
    ·exact absurd (Nat.eq_of_beq_eq_true e) hi
   simp [this]
def R (lp : Nat → Option zp) (fl : Nat) (ops : List zh) (N : HAct → HS → Prop) (a : HAct) (σ : HS) : Prop := ∃ n a' σ', runOps lp (exec lp n) fl ops a σ = some (a', σ') ∧ N a' σ'
theorem zb {N : HAct → HS → Prop} (h : N a σ) : R lp fl [] N a σ := ⟨0, a, σ, rfl, h⟩
theorem r_op {N : HAct → HS → Prop} {o : zh} {os : List zh} {v : HV} {σ' : HS} (hw : wantedH o.g a = true) (h : opH lp (exec lp 0) fl o.op a σ = some (v, σ')) (hn : R lp fl os N (a.put o.dst v) σ') : R lp fl (o :: os) N a σ := by
 obtain ⟨n, a', σ'', h1, h2⟩ := hn
 refine ⟨n, a', σ'', ?_, h2⟩
 unfold runOps stepOp
 rw [hw, op_mon (zL (Nat.zero_le n)) h]
 exact h1
theorem r_not {N : HAct → HS → Prop} {o : zh} {os : List zh} (hw : wantedH o.g a = false) (hn : R lp fl os N (a.put o.dst .undef) σ) : R lp fl (o :: os) N a σ := by
 obtain ⟨n, a', σ'', h1, h2⟩ := hn
 refine ⟨n, a', σ'', ?_, h2⟩
 unfold runOps stepOp
 rw [hw]
 exact h1
theorem r_call {N : HAct → HS → Prop} {dst : Option Nat} {g : Option (Nat × Bool)} {anc : List Nat} {f : Lo} {args : List Lo} {os : List zh} {k : Nat} {first captured : List HV} (hw : wantedH g a = true) (hf : a.ev f = .func k first captured)
  (h : C lp fl k (first ++ args.map a.ev ++ captured) σ fun v σ' => R lp fl os N (a.put dst v) σ') : R lp fl (⟨dst, .call f args, g, anc⟩ :: os) N a σ := by
 obtain ⟨n, v, σ', h1, m, a', σ'', h2, h3⟩ := h
 refine ⟨max n m, a', σ'', ?_, h3⟩
 unfold runOps stepOp
 have h4 : opH lp (exec lp (max n m)) fl (.call f args) a σ = some (v, σ') := by
  show callH lp _ fl (a.ev f) (args.map a.ev) σ = _
  unfold callH
  rw [hf]
  exact vt (zL (Nat.le_max_left n m)) h1
 rw [hw]
 simp only [cond_true, h4]
 exact yw (zL (Nat.le_max_right n m)) h2
theorem r_via {N : HAct → HS → Prop} {dst : Option Nat} {g : Option (Nat × Bool)} {anc : List Nat} {f : Lo} {args : List Lo} {os : List zh} {k off b o : Nat} {t : Nat} {name : String} {rest : List HV} (hw : wantedH g a = true) (hf : a.ev f = .via t name k) (hv : viaOf lp k t name = some off) (ha : args.map a.ev = .ptr (some (b, o)) :: rest)
  (h : C lp fl k (.ptr (some (b, o + off)) :: rest) σ fun v σ' => R lp fl os N (a.put dst v) σ') : R lp fl (⟨dst, .call f args, g, anc⟩ :: os) N a σ := by
 obtain ⟨n, v, σ', h1, m, a', σ'', h2, h3⟩ := h
 refine ⟨max n m, a', σ'', ?_, h3⟩
 unfold runOps stepOp
 have h4 : opH lp (exec lp (max n m)) fl (.call f args) a σ = some (v, σ') := by
  show callH lp _ fl (a.ev f) (args.map a.ev) σ = _
  unfold callH
  rw [hf]
  show callV lp _ fl t name k _ σ = _
  unfold callV
  rw [hv, ha]
  exact vt (zL (Nat.le_max_left n m)) h1
 rw [hw]
 simp only [cond_true, h4]
 exact yw (zL (Nat.le_max_right n m)) h2
theorem zg {ops : List zh} (h : R lp fl ops (Q .normal) a σ) : W lp fl rd (.reg ops) Q a σ := by
 obtain ⟨n, a', σ', h1, h2⟩ := h
 refine ⟨n + 1, .normal, a', σ', ?_, h2⟩
 show xNormal (runOps lp (exec lp n) fl ops a σ) = _
 rw [h1]; rfl
theorem cb_of {n0 : Nat} {args : List HV} {lf : zp} {K : HV → HS → Prop}
  (h : W lp n0 none lf.body (fun e a σ' => match e with | .exit _ => False | _ => ∃ v σ'', leaveH n0 a lf.res σ' = some (v, σ'') ∧ K v σ'') ⟨Nat.max lf.nt args.length, putAll .e 0 args, []⟩ σ) : ∃ n v σ', callB (exec lp n) n0 lf args σ = some (v, σ') ∧ K v σ' := by
 obtain ⟨n, e, a', σ', h1, h2⟩ := h
 have key : ∀ v σ'', leaveH n0 a' lf.res σ' = some (v, σ'') → K v σ'' → (e = .normal ∨ e = .ret) → ∃ n v σ', callB (exec lp n) n0 lf args σ = some (v, σ') ∧ K v σ' := by
  intro v σ'' g1 g2 he
  refine ⟨n, v, σ'', ?_, g2⟩
  unfold callB
  rw [h1]
  rcases he with rfl | rfl <;> exact g1
 cases e with
 | normal => obtain ⟨v, σ'', g1, g2⟩ := h2; exact key v σ'' g1 g2 (.inl rfl)
 | exit id => exact h2.elim
 | ret => obtain ⟨v, σ'', g1, g2⟩ := h2; exact key v σ'' g1 g2 (.inr rfl)
theorem c_imp {f : Nat} {args : List HV} {lf : zp} {K : HV → HS → Prop} (hf : lp f = some lf) (hs : lf.spec = none) (hi : lf.imp = true)
  (h : W lp fl none lf.body (fun e a σ' => match e with | .exit _ => False | _ => ∃ v σ'', leaveH fl a lf.res σ' = some (v, σ'') ∧ K v σ'') ⟨Nat.max lf.nt args.length, putAll .e 0 args, []⟩ σ) : C lp fl f args σ K := by
 obtain ⟨n, v, σ', h1, h2⟩ := cb_of h
 refine ⟨n, v, σ', ?_, h2⟩
 unfold callF
 rw [hf]
 simp only [hs, hi, cond_true]
 exact h1
theorem c_of {f : Nat} {args : List HV} {lf : zp} {K : HV → HS → Prop} (hf : lp f = some lf) (hs : lf.spec = none) (hi : lf.imp = false)
  (h : W lp σ.nx none lf.body (fun e a σ' => match e with | .exit _ => False | _ => ∃ v σ'', leaveH σ.nx a lf.res σ' = some (v, σ'') ∧ K v (gcH σ σ'' v)) ⟨Nat.max lf.nt args.length, putAll .e 0 args, []⟩ σ) : C lp fl f args σ K := by
 obtain ⟨n, v, σ', h1, h2⟩ := cb_of (K := fun v σ' => K v (gcH σ σ' v)) h
 refine ⟨n, v, gcH σ σ' v, ?_, h2⟩
 unfold callF
 rw [hf]
 simp only [hs, hi, cond_false, h1]
theorem c_spec {f : Nat} {args : List HV} {lf : zp} {g : List HV → HS → Option (HV × HS)} {v : HV} {σ' : HS} {K : HV → HS → Prop} (hf : lp f = some lf) (hs : lf.spec = some g) (hg : g args σ = some (v, σ')) (hn : σ.nx ≤ σ'.nx) (hk : K v σ') : C lp fl f args σ K := by
 refine ⟨0, v, σ', ?_, hk⟩
 unfold callF
 rw [hf]
 simp only [hs]
 unfold specH
 rw [hg]
 have : Nat.ble σ.nx σ'.nx = true := by rw [Nat.ble_eq]; exact hn
 simp only [this, cond_true]
end Go.Hx

namespace Go.Hx
open Go.RowKit
variable {P : Program}
theorem fr_none : FR none = Fence.wide := rfl
end Go.Hx

namespace Go.Hx
variable {P : Program}
def flat1 : HV → Bool
 | .bool _ | .int _ _ | .str _ | .ptr none | .slice none _ _ | .map none | .nilFunc | .nilIface | .func _ [] [] | .via _ _ _ => true
 | _ => false
def flat : HV → Bool
 | .agg cs => cs.all flat1
 | v => flat1 v
def flatV : HV → Bool
 | .tuple vs => vs.all flat
 | v => flat v
theorem VR.f1 {ρ ρ' : Rho} {v : HV} {V : Value} (hf : flat1 v = true) (h : VR ρ v V) : VR ρ' v V := by
 cases h with
 | bool b => exact .bool b
 | int k n => exact .int k n
 | str s => exact .str s
 | ptr0 => exact .ptr0
 | slice0 => exact .slice0
 | map0 => exact .map0
 | nilFunc => exact .nilFunc
 | nilIface => exact .nilIface
 | via t path f => exact .via t path f
 | func h1 h2 h3 h4 =>
  rename_i f first captured F C
  cases first with
  | cons _ _ => cases hf
  | nil =>
   cases captured with
   | cons _ _ => cases hf
   | nil => exact .func h1 h2 (fun i v u hv _ => by simp at hv) (fun i v u hv _ => by simp at hv)
 | ptr _ => cases hf
 | slice _ => cases hf
 | slice00 _ => cases hf
 | map _ => cases hf
 | yield _ => cases hf
 | agg _ _ => cases hf
 | tuple _ _ => cases hf
theorem VR.flat {ρ ρ' : Rho} {v : HV} {V : Value} (hf : Hx.flat v = true) (h : VR ρ v V) : VR ρ' v V := by
 cases v with
 | agg cs =>
  cases h with
  | agg hl h => exact .agg hl fun i v u hv hu => (h i v u hv hu).f1 (List.all_eq_true.1 hf v (List.mem_of_getElem? hv))
 | _ => exact h.f1 hf
theorem VR.flatV {ρ ρ' : Rho} {v : HV} {V : Value} (hf : Hx.flatV v = true) (h : VR ρ v V) : VR ρ' v V := by
 cases v with
 | tuple cs =>
  cases h with
  | tuple hl h => exact .tuple hl fun i v u hv hu => (h i v u hv hu).flat (List.all_eq_true.1 hf v (List.mem_of_getElem? hv))
 | _ => exact h.flat hf
theorem LR.flat {ρ ρ' : Rho} {vs : List HV} {V : List Value} (hf : vs.all Hx.flat = true) (h : LR ρ vs V) : LR ρ' vs V :=
 ⟨h.1, fun i v u hv hu => (h.2 i v u hv hu).flat (List.all_eq_true.1 hf v (List.mem_of_getElem? hv))⟩
theorem Y9 {base fl nx0 nx0' : Nat} {g0 g0' : Hp} {ρ0 ρ0' ρ : Rho} {σ : HS} {W W' : World} (p : Post P W.heap.size 0 nx0 nx0' g0 g0' ρ0 ρ0' W W') (hro : ∀ b x, g0 b = some x → x.own = false) (hs : Sim P base σ.h.get ρ W) : PostS P base fl σ σ ρ ρ W W' := by
 have keep : ∀ k, k < W.heap.size → W'.heap[k]? = W.heap[k]? := fun k hk => p.same k hk fun ⟨b, x, r, h1, h2, _⟩ => by rw [hro b x h1] at h2; cases h2
 exact ⟨fun _ _ h => h, fun _ _ => rfl, ⟨fun b x hx => by
   obtain ⟨r, hr, hlt, _⟩ := (hs.ok b x hx).has
   exact (hs.ok b x hx).keep (fun _ _ h => h) fun r' hr' => by rw [hr] at hr'; cases hr'; exact keep _ hlt, hs.inj⟩,
  p.os, p.tape, p.output, p.frz, p.size, fun k hk _ => keep k hk, fun k hk => .inr hk⟩
theorem X2 (hm : P.follows .mixedOrders = true) {lp : Nat → Option zp} (hlp : LpOk P lp) {n fl f : Nat} {args : List HV} {σ σ' : HS} {v : HV} (h : callF lp (exec lp n) fl f args σ = some (v, σ')) (hd : Dom σ) :
  ∀ (base : Nat) (ρ : Rho) (Args : Array Value) (W : World), In P base σ σ' ρ W → LR ρ args Args.toList →
   HFS fl σ σ' ∧ (∃ fn, P.funcs[f]? = some fn ∧ fn.body.isSome = true ∧ (fn.name == "runtime.NumGoroutine") = false) ∧
   CallsIn (FR none) 0 P f Args W (fun E W' => ∃ V ρ', E = .returned V ∧ VR ρ' v V ∧ PostS P base fl σ σ' ρ ρ' W W') :=
 fun base ρ Args W hin hargs => y6 hlp (vI hm hlp n).2 (vI hm hlp n).1 h hd base ρ Args W hin hargs
theorem XY (hm : P.follows .mixedOrders = true) {lp : Nat → Option zp} (hlp : LpOk P lp) {f : Nat} {g : List HV → HS → Option (HV × HS)}
  (h : ∀ args σ v σ', g args σ = some (v, σ') → σ' = σ ∧ args.all flat = true ∧ flatV v = true ∧ C lp 0 f args ⟨.e, 0⟩ (fun v' _ => v' = v)) : SpecOk P f g := by
 intro args σ v σ' hg hd fl base ρ Args W hin hargs
 obtain ⟨rfl, hfa, hfv, n, v', σ1, h1, rfl⟩ := h _ _ _ _ hg
 have no : ∀ b x, (⟨.e, 0⟩ : HS).h.get b = some x → False := fun b x hx => by rw [show (⟨.e, 0⟩ : HS).h = .e from rfl, Tr.get_e] at hx; cases hx
 obtain ⟨_, hfn, hc⟩ := X2 hm hlp h1 (fun b x hx => (no b x hx).elim) W.heap.size (fun _ => none) Args W
  ⟨Nat.le_refl _, ⟨(fun b x hx => (no b x hx).elim), (fun b b' x x' r r' hx => (no b x hx).elim)⟩, fun _ _ _ => rfl⟩ (hargs.flat hfa)
 refine ⟨HF.refl _ _ _, hfn, hc.mono ?_⟩
 rintro E W' ⟨V, ρ', rfl, hv, hp⟩
 exact ⟨V, ρ, rfl, hv.flatV hfv, Y9 hp (fun b x hx => (no b x hx).elim) hin.sim⟩
def withS (lp : Nat → Option zp) (f : Nat) (g : List HV → HS → Option (HV × HS)) : Nat → Option zp := fun i => bif Nat.beq i f then some ⟨0, .bad, [], false, some g, fun _ _ => none⟩ else lp i
theorem withS_ok {lp : Nat → Option zp} (hlp : LpOk P lp) {f : Nat} {g : List HV → HS → Option (HV × HS)} (hg : SpecOk P f g) : LpOk P (withS lp f g) := by
 intro i lf h
 unfold withS at h
 cases hb : Nat.beq i f with
 | true =>
  rw [hb] at h
  cases h
  have := Nat.eq_of_beq_eq_true hb
  subst this
  exact ⟨fun g' hg' => (by cases hg'; exact hg), fun h => (by cases h), fun _ _ _ h => (by cases h)⟩
 | false => rw [hb] at h; exact hlp i lf h
end Go.Hx

namespace Go.Hx
variable {lp : Nat → Option zp} {fl : Nat} {rd : Option Nat} {Q : HExit → HAct → HS → Prop} {N : HAct → HS → Prop} {a : HAct} {σ σ' : HS}
noncomputable def enter (nt : Nat) (args : List HV) : HAct := ⟨nt, putAll .e 0 args, []⟩
theorem z8 (t : Tr HBlk) (k : Nat) (x : Option HBlk) : (t.set k x).get k = x := by rw [Tr.get_set, if_pos rfl]
theorem z7 (t : Tr HBlk) (x : Option HBlk) {k j : Nat} (h : j ≠ k) : (t.set k x).get j = t.get j := by rw [Tr.get_set, if_neg h]
theorem r_go {op : LOp} {dst : Option Nat} {anc : List Nat} {os : List zh} {v : HV} (h : opH lp (exec lp 0) fl op a σ = some (v, σ')) (hn : R lp fl os N (a.put dst v) σ') : R lp fl (⟨dst, op, none, anc⟩ :: os) N a σ :=
 r_op rfl h hn
theorem r_take {op : LOp} {dst : Option Nat} {t : Nat} {w : Bool} {anc : List Nat} {os : List zh} (hw : a.tmp t = .bool w) (hn : R lp fl (⟨dst, op, none, anc⟩ :: os) N a σ) : R lp fl (⟨dst, op, some (t, w), anc⟩ :: os) N a σ := by
 obtain ⟨n, a', σ', h1, h2⟩ := hn
 refine ⟨n, a', σ', ?_, h2⟩
 unfold runOps stepOp at h1 ⊢
 have e1 : wantedH (some (t, w)) a = true := by simp [wantedH, hw]
 simp only [e1]
 exact h1
theorem r_drop {op : LOp} {dst : Option Nat} {t : Nat} {w : Bool} {anc : List Nat} {os : List zh} (hw : a.tmp t = .bool (!w)) (hn : R lp fl os N (a.put dst .undef) σ) : R lp fl (⟨dst, op, some (t, w), anc⟩ :: os) N a σ := by
 refine r_not ?_ hn
 cases w <;> simp [wantedH, hw]
theorem jr {f : Lo} {xs : List Lo} {dst : Option Nat} {anc : List Nat} {os : List zh} {k : Nat} {first captured args : List HV} (hf : a.ev f = .func k first captured) (ha : first ++ xs.map a.ev ++ captured = args)
  {K : HV → HS → Prop} (hc : C lp fl k args σ K) (hn : ∀ v σ', K v σ' → R lp fl os N (a.put dst v) σ') : R lp fl (⟨dst, .call f xs, none, anc⟩ :: os) N a σ := by
 refine r_call rfl hf ?_
 rw [ha]
 exact hc.mono hn
def Sc (K : HV → Prop) (σ : HS) : HV → HS → Prop := fun v σ' => K v ∧ ∃ n, σ.nx ≤ n ∧ σ' = ⟨σ.h, n⟩
end Go.Hx

namespace Go.Hx
variable {lp : Nat → Option zp} {fl : Nat} {rd : Option Nat} {Q : HExit → HAct → HS → Prop} {N : HAct → HS → Prop} {a : HAct} {h : Tr HBlk} {nx : Nat} {os : List zh} {dst : Option Nat} {anc : List Nat}
abbrev i64 (n : Int) : HV := .int .i64 n
theorem th_n {c : ze} {σ : HS} (h : W lp fl rd c Q a σ) : thenH (W lp fl rd c Q) Q .normal a σ := h
theorem th_r {N : HAct → HS → Prop} {σ : HS} (h : Q .ret a σ) : thenH N Q .ret a σ := h
theorem th_e {N : HAct → HS → Prop} {i : Nat} {σ : HS} (h : Q (.exit i) a σ) : thenH N Q (.exit i) a σ := h
theorem ib_n {id : Nat} {σ : HS} (h : Q .normal a σ) : inBlockH id Q .normal a σ := h
theorem ib_r {id : Nat} {σ : HS} (h : Q .ret a σ) : inBlockH id Q .ret a σ := h
theorem ib_e {id : Nat} {σ : HS} (h : Q .normal a σ) : inBlockH id Q (.exit id) a σ := by show (if id = id then _ else _); rw [if_pos rfl]; exact h
theorem w_t {c : Lo} {x y : ze} {σ : HS} (hc : a.ev c = .bool true) (h : W lp fl rd x Q a σ) : W lp fl rd (.cond c x y) Q a σ := w_cond hc h
theorem w_f {c : Lo} {x y : ze} {σ : HS} (hc : a.ev c = .bool false) (h : W lp fl rd y Q a σ) : W lp fl rd (.cond c x y) Q a σ := w_cond hc h
def Fin (σ0 : HS) (res : List LRes) (K : HV → HS → Prop) : HExit → HAct → HS → Prop := fun e a σ' => match e with | .exit _ => False | _ => ∃ v σ'', leaveH σ0.nx a res σ' = some (v, σ'') ∧ K v (gcH σ0 σ'' v)
theorem c_in {f : Nat} {args : List HV} {lf : zp} {K : HV → HS → Prop} (hf : lp f = some lf) (hs : lf.spec = none) (hi : lf.imp = false) (hl : Nat.ble args.length lf.nt = true)
  (hw : W lp nx none lf.body (Fin ⟨h, nx⟩ lf.res K) (enter lf.nt args) ⟨h, nx⟩) : C lp fl f args ⟨h, nx⟩ K := c_of hf hs hi (by
   rw [show Nat.max lf.nt args.length = lf.nt from Nat.max_eq_left (Nat.le_of_ble_eq_true hl)]; exact hw)
theorem r_move {x : Lo} {v : HV} {σ : HS} (hx : a.ev x = v) (hn : R lp fl os N (a.put dst v) σ) : R lp fl (⟨dst, .move x, none, anc⟩ :: os) N a σ := by subst hx; exact r_go rfl hn
theorem r_box {x : Lo} {v : HV} (hx : a.ev x = v) (hn : R lp fl os N (a.put dst (.ptr (some (nx, 0)))) ⟨h.set nx (some (.cells v.cells .exact)), nx + 1⟩) : R lp fl (⟨dst, .box x, none, anc⟩ :: os) N a ⟨h, nx⟩ := by subst hx; exact r_go rfl hn
theorem YL {z : List HV} (hn : R lp fl os N (a.put dst (.ptr (some (nx, 0)))) ⟨h.set nx (some (.cells z .exact)), nx + 1⟩) : R lp fl (⟨dst, .alloc z, none, anc⟩ :: os) N a ⟨h, nx⟩ := r_go rfl hn
theorem r_fa {off : Nat} {x : Lo} {b o : Nat} {σ : HS} (hx : a.ev x = .ptr (some (b, o))) (hn : R lp fl os N (a.put dst (.ptr (some (b, o + off)))) σ) : R lp fl (⟨dst, .fieldAddr off x, none, anc⟩ :: os) N a σ :=
 r_go (by show oFieldAddr off x a σ = _; unfold oFieldAddr; rw [hx]; rfl) hn
theorem Xi {b o : Nat} {cs : List HV} {k : BK} {v : HV} (hg : h.get b = some (.cells cs k)) (hv : cs[o]? = some v) : (⟨h, nx⟩ : HS).read (b, o) 1 = some [v] := by
 unfold HS.read HS.cells
 simp only [hg, Option.bind_eq_bind, Option.bind_some]
 have hlt : o < cs.length := by
  rcases Nat.lt_or_ge o cs.length with h | h
  ·exact h
  ·rw [List.getElem?_eq_none h] at hv; cases hv
 rw [List.drop_eq_getElem_cons hlt]
 rw [List.getElem?_eq_getElem hlt] at hv
 cases hv
 simp [takeN]
theorem r_ld1 {x : Lo} {b o : Nat} {cs : List HV} {k : BK} {v : HV} (hx : a.ev x = .ptr (some (b, o))) (hg : h.get b = some (.cells cs k)) (hv : cs[o]? = some v) (hn : R lp fl os N (a.put dst v) ⟨h, nx⟩) : R lp fl (⟨dst, .load false 1 x, none, anc⟩ :: os) N a ⟨h, nx⟩ :=
 r_go (by show oLoad false 1 x a _ = _; unfold oLoad; rw [hx]; simp only [Xi hg hv]; rfl) hn
theorem r_ldn {n : Nat} {x : Lo} {b o : Nat} {cs vs : List HV} {k : BK} (hx : a.ev x = .ptr (some (b, o))) (hg : h.get b = some (.cells cs k)) (hv : takeN n (cs.drop o) = some vs) (hn : R lp fl os N (a.put dst (.agg vs)) ⟨h, nx⟩) : R lp fl (⟨dst, .load true n x, none, anc⟩ :: os) N a ⟨h, nx⟩ :=
 r_go (by
  show oLoad true n x a _ = _
  unfold oLoad; rw [hx]
  have : (⟨h, nx⟩ : HS).read (b, o) n = some vs := by unfold HS.read HS.cells; simp only [hg, Option.bind_eq_bind, Option.bind_some]; exact hv
  simp only [this]; rfl) hn
def Own : BK → Prop
 | .ro => False
 | _ => True
theorem r_st {n : Nat} {x y : Lo} {b o : Nat} {cs cs' : List HV} {k : BK} {v : HV} (hx : a.ev x = .ptr (some (b, o))) (hy : a.ev y = v) (hg : h.get b = some (.cells cs k)) (hk : Own k) (hl : v.cells.length = n) (h1 : v.cells.all HV.one = true) (hw : overwrite cs o v.cells = some cs') (hfl : fl ≤ b)
  (hn : R lp fl os N (a.put dst .undef) ⟨h.set b (some (.cells cs' k)), nx⟩) : R lp fl (⟨dst, .store n x y, none, anc⟩ :: os) N a ⟨h, nx⟩ :=
 r_go (by
  show oStore fl n x y a _ = _
  subst hy
  unfold oStore; rw [hx]
  have hb : Nat.ble fl b = true := by rw [Nat.ble_eq]; exact hfl
  have : (⟨h, nx⟩ : HS).write fl (b, o) (a.ev y).cells = some ⟨h.set b (some (.cells cs' k)), nx⟩ := by
   unfold HS.write
   simp only [hg]
   cases k with
   | ro => exact hk.elim
   | exact => simp only [hb, h1, Bool.and_self, cond_true, hw, Option.map_some]; rfl
   | opn s => simp only [hb, h1, Bool.and_self, cond_true, hw, Option.map_some]; rfl
  simp only [hl, Nat.beq_refl, cond_true, this]) hn
theorem r_add {x y : Lo} {m n : Int} {σ : HS} (hx : a.ev x = i64 m) (hy : a.ev y = i64 n) (h1 : -9223372036854775808 ≤ m + n) (h2 : m + n < 9223372036854775808) (hn : R lp fl os N (a.put dst (i64 (m + n))) σ) : R lp fl (⟨dst, .bin .add x y, none, anc⟩ :: os) N a σ :=
 r_go (by show keep σ (binH .add _ _) = _; rw [hx, hy]; simp only [binH, i64, isShift, cond_false, sameK, cond_true, intFast, wr_eq]; rw [show Int.add m n = m + n from rfl, yE _ h1 h2]; rfl) hn
theorem r_sub {x y : Lo} {m n : Int} {σ : HS} (hx : a.ev x = i64 m) (hy : a.ev y = i64 n) (h1 : -9223372036854775808 ≤ m - n) (h2 : m - n < 9223372036854775808) (hn : R lp fl os N (a.put dst (i64 (m - n))) σ) : R lp fl (⟨dst, .bin .sub x y, none, anc⟩ :: os) N a σ :=
 r_go (by show keep σ (binH .sub _ _) = _; rw [hx, hy]; simp only [binH, i64, isShift, cond_false, sameK, cond_true, intFast, wr_eq]; rw [show Int.sub m n = m - n from rfl, yE _ h1 h2]; rfl) hn
theorem r_not1 {x : Lo} {b : Bool} {σ : HS} (hx : a.ev x = .bool b) (hn : R lp fl os N (a.put dst (.bool (!b))) σ) : R lp fl (⟨dst, .un .not x, none, anc⟩ :: os) N a σ :=
 r_go (by show keep σ (unH .not _) = _; rw [hx]; rfl) hn
theorem r_pt {c x y : Lo} {v : HV} {σ : HS} (hc : a.ev c = .bool true) (hx : a.ev x = v) (hn : R lp fl os N (a.put dst v) σ) : R lp fl (⟨dst, .pick c x y, none, anc⟩ :: os) N a σ :=
 r_go (by show oPick c x y a σ = _; unfold oPick; rw [hc, ← hx]; rfl) hn
theorem r_pf {c x y : Lo} {v : HV} {σ : HS} (hc : a.ev c = .bool false) (hy : a.ev y = v) (hn : R lp fl os N (a.put dst v) σ) : R lp fl (⟨dst, .pick c x y, none, anc⟩ :: os) N a σ :=
 r_go (by show oPick c x y a σ = _; unfold oPick; rw [hc, ← hy]; rfl) hn
theorem r_len {x : Lo} {p : Option (Nat × Nat)} {n c : Nat} {σ : HS} (hx : a.ev x = .slice p n c) (hn : R lp fl os N (a.put dst (i64 n)) σ) : R lp fl (⟨dst, .len .slice x, none, anc⟩ :: os) N a σ :=
 r_go (by show keep σ (lenH σ .slice _) = _; rw [hx]; rfl) hn
theorem r_ixs {size : Nat} {x i : Lo} {b o n c j : Nat} {σ : HS} (hx : a.ev x = .slice (some (b, o)) n c) (hi : a.ev i = i64 (j : Int)) (hj : j < n) (hn : R lp fl os N (a.put dst (.ptr (some (b, o + j * size)))) σ) : R lp fl (⟨dst, .indexAddrS size x i, none, anc⟩ :: os) N a σ :=
 r_go (by
  show oIndexAddrS size x i a σ = _
  unfold oIndexAddrS; rw [hx, hi]
  have : Nat.blt j n = true := by rw [Nat.blt_eq]; exact hj
  show stepTo b o size n (natOf (.int .i64 (Int.ofNat j))) σ = _
  simp only [natOf, stepTo, this, cond_true]; rfl) hn
theorem r_ixa {len size : Nat} {x i : Lo} {b o j : Nat} {σ : HS} (hx : a.ev x = .ptr (some (b, o))) (hi : a.ev i = i64 (j : Int)) (hj : j < len) (hn : R lp fl os N (a.put dst (.ptr (some (b, o + j * size)))) σ) : R lp fl (⟨dst, .indexAddrA len size x i, none, anc⟩ :: os) N a σ :=
 r_go (by
  show oIndexAddrA len size x i a σ = _
  unfold oIndexAddrA; rw [hx, hi]
  have : Nat.blt j len = true := by rw [Nat.blt_eq]; exact hj
  show stepTo b o size len (natOf (.int .i64 (Int.ofNat j))) σ = _
  simp only [natOf, stepTo, this, cond_true]; rfl) hn
theorem r_build {z cs : List HV} {ps : List (Nat × Nat × Lo)} {σ : HS} (hf : fillH z (evParts a ps) = some cs) (hn : R lp fl os N (a.put dst (.agg cs)) σ) : R lp fl (⟨dst, .build z ps, none, anc⟩ :: os) N a σ :=
 r_go (by show oBuild z ps a σ = _; unfold oBuild; rw [hf]) hn
theorem r_bs {len : Nat} {z cs : List HV} {ps : List (Nat × Nat × Lo)} (hf : fillH (repl len z) (evParts a ps) = some cs) (hn : R lp fl os N (a.put dst (.slice (some (nx, 0)) len len)) ⟨h.set nx (some (.cells cs .exact)), nx + 1⟩) : R lp fl (⟨dst, .buildSlice len z ps, none, anc⟩ :: os) N a ⟨h, nx⟩ :=
 r_go (by show oBuildSlice len z ps a _ = _; unfold oBuildSlice; rw [hf]; rfl) hn
theorem r_ext {x : Lo} {i : Nat} {vs : List HV} {v : HV} {σ : HS} (hx : a.ev x = .tuple vs) (hv : vs[i]? = some v) (hn : R lp fl os N (a.put dst v) σ) : R lp fl (⟨dst, .extract x i, none, anc⟩ :: os) N a σ :=
 r_go (by show oExtract x i a σ = _; unfold oExtract; rw [hx]; simp only [hv, keep]) hn
theorem r_mf {f : Nat} {first captured : List Lo} {u w : List HV} {σ : HS} (h1 : first.map a.ev = u) (h2 : captured.map a.ev = w) (hn : R lp fl os N (a.put dst (.func f u w)) σ) : R lp fl (⟨dst, .makeFunc f first captured, none, anc⟩ :: os) N a σ :=
 r_go (by show some _ = _; rw [h1, h2]) hn
theorem r_nc {x : Lo} {p : Nat × Nat} {σ : HS} (hx : a.ev x = .ptr (some p)) (hn : R lp fl os N (a.put dst (.ptr (some p))) σ) : R lp fl (⟨dst, .nilCheck x, none, anc⟩ :: os) N a σ :=
 r_go (by show oNilCheck x a σ = _; unfold oNilCheck; rw [hx]) hn
attribute [irreducible] Fin
end Go.Hx

namespace Go.Hx
variable {lp : Nat → Option zp} {fl : Nat} {rd : Option Nat} {Q : HExit → HAct → HS → Prop} {N : HAct → HS → Prop} {a : HAct} {h : Tr HBlk} {nx : Nat} {os : List zh} {dst : Option Nat} {anc : List Nat}
def D (h : Tr HBlk) (nx : Nat) : Prop := ∀ b, nx ≤ b → h.get b = none
theorem D.mono {n : Nat} (hd : D h nx) (hn : nx ≤ n) : D h n := fun b hb => hd b (by omega)
theorem D.put {n b : Nat} {x : Option HBlk} (hd : D h nx) (hn : nx ≤ n) (hb : b < n) : D (h.set b x) n := fun c hc => by rw [Tr.get_set, if_neg (by omega)]; exact hd c (by omega)
theorem D.upd {b : Nat} {x : Option HBlk} (hd : D h nx) (hb : b < nx) : D (h.set b x) nx := hd.put (Nat.le_refl _) hb
theorem uI : ∀ (k lo : Nat), (∀ b, lo ≤ b → h.get b = none) → newFrom h lo k = []
 | 0, _, _ => rfl
 | k + 1, lo, hd => by unfold newFrom; rw [hd lo (Nat.le_refl _)]; exact uI k (lo + 1) fun b hb => hd b (by omega)
def NilD (done : List (Nat × List (Nat × HBlk))) : Prop := ∀ p ∈ done, p.2 = []
def DR (lp : Nat → Option zp) (fl s : Nat) (os : List zh) (i : Nat) (N : HAct → HS → Prop) (a : HAct) (h : Tr HBlk) (nx : Nat) : Prop :=
 fl ≤ nx → D h nx → ∀ n0 done, NilD done → ∃ n a' σ', drawOps lp (exec lp n) fl s n0 h os i done a nx = some (a', σ') ∧ N a' σ'
def DP (lp : Nat → Option zp) (fl s : Nat) (os : List zh) (i : Nat) (N : HAct → HS → Prop) (h : Tr HBlk) (nx : Nat) : HAct → HS → Prop := fun a' σ' => ∃ n', nx ≤ n' ∧ σ' = ⟨h, n'⟩ ∧ DR lp fl s os i N a' h n'
def DL (lp : Nat → Option zp) (fl : Nat) (os : List zh) (N : HAct → HS → Prop) (h : Tr HBlk) (nx : Nat) : HAct → HS → Prop := fun a' σ' => ∃ x, σ' = ⟨h.set nx (some x), nx + 1⟩ ∧ R lp fl os N a' σ'
theorem w_iter {x : ze} {σ : HS} (hw : W lp fl rd x (thenH (W lp fl rd (.loop x) Q) Q) a σ) : W lp fl rd (.loop x) Q a σ := by
 obtain ⟨n, e, a', σ', h1, h2⟩ := zd hw
 refine ⟨n, e, a', σ', ?_, h2⟩
 cases n with
 | zero => cases h1
 | succ n => exact h1
def Fim (fl : Nat) (res : List LRes) (K : HV → HS → Prop) : HExit → HAct → HS → Prop := fun e a σ' => match e with | .exit _ => False | _ => ∃ v σ'', leaveH fl a res σ' = some (v, σ'') ∧ K v σ''
theorem c_im {f : Nat} {args : List HV} {lf : zp} {K : HV → HS → Prop} (hf : lp f = some lf) (hs : lf.spec = none) (hi : lf.imp = true) (hl : Nat.ble args.length lf.nt = true)
  (hw : W lp fl none lf.body (Fim fl lf.res K) (enter lf.nt args) ⟨h, nx⟩) : C lp fl f args ⟨h, nx⟩ K := c_imp hf hs hi (by
   rw [show Nat.max lf.nt args.length = lf.nt from Nat.max_eq_left (Nat.le_of_ble_eq_true hl)]; exact hw)
theorem vG {res : List LRes} {σ : HS} {vs : List HV} (hd : a.defers = []) (hr : resH a σ res = some vs) : leaveH fl a res σ = some (oneOf vs, σ) := by
 unfold leaveH
 rw [hd]
 simp only [takeMarks, hr]
theorem fin_m {σ0 σ : HS} {res : List LRes} {K : HV → HS → Prop} {vs : List HV} (hd : a.defers = []) (hr : resH a σ res = some vs) (hk : K (oneOf vs) (gcH σ0 σ (oneOf vs))) : Fin σ0 res K .ret a σ := by
 unfold Fin
 exact ⟨_, _, vG hd hr, hk⟩
theorem res_t {σ : HS} {t : Nat} {v : HV} {rs : List LRes} {vs : List HV} (hv : a.tmp t = v) (hr : resH a σ rs = some vs) : resH a σ (.t t :: rs) = some (v :: vs) := by
 unfold resH; rw [hr, ← hv]
theorem res_c {t b o n : Nat} {cs us : List HV} {k : BK} {rs : List LRes} {vs : List HV} (hv : a.tmp t = .ptr (some (b, o))) (hg : h.get b = some (.cells cs k)) (hc : takeN n (cs.drop o) = some us) (hr : resH a ⟨h, nx⟩ rs = some vs) : resH a ⟨h, nx⟩ (.cell t true n :: rs) = some (.agg us :: vs) := by
 unfold resH
 rw [hv]
 have : (⟨h, nx⟩ : HS).read (b, o) n = some us := by unfold HS.read HS.cells; simp only [hg, Option.bind_eq_bind, Option.bind_some]; exact hc
 simp only [this, hr, whole]
theorem res_c1 {t b o n : Nat} {cs : List HV} {u : HV} {k : BK} {rs : List LRes} {vs : List HV} (hv : a.tmp t = .ptr (some (b, o))) (hg : h.get b = some (.cells cs k)) (hc : cs[o]? = some u) (hr : resH a ⟨h, nx⟩ rs = some vs) : resH a ⟨h, nx⟩ (.cell t false 1 :: rs) = some (u :: vs) := by
 unfold resH
 rw [hv]
 simp only [Xi hg hc, hr, whole]
variable {f : Lo} {xs : List Lo} {k : Nat} {first captured args : List HV}
def Row {α : Type} (enc : α → List HV) (sz : Nat) (h : Tr HBlk) (nx : Nat) (p : Option (Nat × Nat)) (l : List α) : Prop :=
 l ≠ [] → ∃ b o cs k, p = some (b, o) ∧ b < nx ∧ h.get b = some (.cells cs k) ∧ ∀ i x, l[i]? = some x → takeN sz (cs.drop (o + i * sz)) = some (enc x)
theorem vc : ∀ (n : Nat) (l r : List HV), takeN n l = some r → r.length = n ∧ ∀ j, j < n → l[j]? = r[j]?
 | 0, l, r, h => by cases h; exact ⟨rfl, fun j hj => by omega⟩
 | n + 1, [], r, h => by cases h
 | n + 1, v :: l, r, h => by
  unfold takeN at h
  cases e : takeN n l with
  | none => rw [e] at h; cases h
  | some r' =>
   rw [e] at h; cases h
   obtain ⟨h1, h2⟩ := vc n l r' e
   refine ⟨by simp [h1], fun j hj => ?_⟩
   cases j with
   | zero => rfl
   | succ j => simpa using h2 j (by omega)
theorem yk {n o j : Nat} {cs r : List HV} {v : HV} (ht : takeN n (cs.drop o) = some r) (hv : r[j]? = some v) : cs[o + j]? = some v := by
 obtain ⟨h1, h2⟩ := vc n _ _ ht
 have hj : j < n := by
  rcases Nat.lt_or_ge j r.length with h | h
  ·omega
  ·rw [List.getElem?_eq_none h] at hv; cases hv
 rw [← hv, ← h2 j hj, List.getElem?_drop]
attribute [irreducible] D DR DP DL Fim
end Go.Hx

namespace Go.Hx
variable {lp : Nat → Option zp} {fl : Nat} {rd : Option Nat} {Q : HExit → HAct → HS → Prop} {N : HAct → HS → Prop} {a : HAct} {h : Tr HBlk} {nx : Nat} {os : List zh} {dst : Option Nat} {anc : List Nat}
theorem r_neg {x : Lo} {m : Int} {σ : HS} (hx : a.ev x = i64 m) (h1 : -9223372036854775808 ≤ -m) (h2 : -m < 9223372036854775808) (hn : R lp fl os N (a.put dst (i64 (-m))) σ) : R lp fl (⟨dst, .un .neg x, none, anc⟩ :: os) N a σ :=
 r_go (by show keep σ (unH .neg _) = _; rw [hx]; simp only [unH, i64]; rw [show (0 : Int) - m = -m by omega, yE _ h1 h2]; rfl) hn
theorem Xv {h1 : Tr HBlk} {nx : Nat} {k : List HV → Tr HBlk → Tr HBlk} {v : HV} {h : Tr HBlk} (hv : flat1 v = true) (hk : k [] h = h) : keepV h1 nx k h v = h := by
 cases v with
 | ptr a => cases a with | none => rfl | some _ => cases hv
 | slice a l c => cases a with | none => rfl | some _ => cases hv
 | map a => cases a with | none => rfl | some _ => cases hv
 | func f a b => cases a with | cons _ _ => cases hv | nil => cases b with | cons _ _ => cases hv | nil => exact hk
 | agg _ => cases hv
 | tuple _ => cases hv
 | _ => rfl
theorem uL {h1 : Tr HBlk} {nx d : Nat} {h : Tr HBlk} : keepD h1 nx d [] h = h := by cases d <;> rfl
theorem u5 {h1 : Tr HBlk} {nx d : Nat} {h : Tr HBlk} : ∀ {vs : List HV}, vs.all flat1 = true → keepD h1 nx d vs h = h
 | [], _ => uL
 | v :: vs, hv => by
  cases d with
  | zero => rfl
  | succ d =>
   rw [List.all_cons, Bool.and_eq_true] at hv
   have := u5 (h1 := h1) (nx := nx) (d := d + 1) (h := h) hv.2
   unfold keepD at this ⊢
   rw [List.foldl_cons, Xv hv.1 uL]
   exact this
theorem jY {h1 : Tr HBlk} {nx d : Nat} {h : Tr HBlk} : ∀ {vs : List HV}, vs.all flat = true → keepD h1 nx d vs h = h
 | [], _ => uL
 | v :: vs, hv => by
  cases d with
  | zero => rfl
  | succ d =>
   rw [List.all_cons, Bool.and_eq_true] at hv
   have := jY (h1 := h1) (nx := nx) (d := d + 1) (h := h) hv.2
   unfold keepD at this ⊢
   rw [List.foldl_cons]
   have e : keepV h1 nx (keepD h1 nx d) h v = h := by
    cases v with
    | agg cs => exact u5 hv.1
    | _ => exact Xv hv.1 uL
   rw [e]
   exact this
theorem gc_flat {σ σ' : HS} {v : HV} (hv : flatV v = true) : gcH σ σ' v = ⟨σ.h, σ'.nx⟩ := by
 unfold gcH
 congr 1
 cases v with
 | tuple vs => exact jY (vs := vs) (d := 4) hv
 | agg cs => exact jY (vs := [.agg cs]) (d := 5) (by simp only [List.all_cons, List.all_nil, Bool.and_true]; exact hv)
 | _ => exact u5 (vs := [_]) (d := 5) (by simp only [List.all_cons, List.all_nil, Bool.and_true]; exact hv)
end Go.Hx
namespace Go.Hx
end Go.Hx

namespace Go.Hx
variable {lp : Nat → Option zp} {fl : Nat} {N : HAct → HS → Prop} {a : HAct} {h : Tr HBlk} {nx : Nat} {os : List zh} {dst : Option Nat} {anc : List Nat} {size bytes : Nat}
theorem Xk {s x : Lo} {sv xv v : HV} {h' : Tr HBlk} {n' : Nat} (hs : a.ev s = sv) (hx : a.ev x = xv) (ha : appendH fl ⟨h, nx⟩ size bytes sv xv = some (v, ⟨h', n'⟩)) (hn : R lp fl os N (a.put dst v) ⟨h', n'⟩) : R lp fl (⟨dst, .append size bytes s x, none, anc⟩ :: os) N a ⟨h, nx⟩ :=
 r_go (by show appendH fl _ size bytes (a.ev s) (a.ev x) = _; rw [hs, hx]; exact ha) hn
theorem jL {b o n : Nat} {cs row : List HV} {k : BK} (hg : h.get b = some (.cells cs k)) (ht : takeN n (cs.drop o) = some row) : (⟨h, nx⟩ : HS).read (b, o) n = some row := by
 unfold HS.read HS.cells
 simp only [hg, Option.bind_eq_bind, Option.bind_some]
 exact ht
theorem ud {b o n : Nat} {cs row : List HV} {k : BK} (hg : h.get b = some (.cells cs k)) (ht : takeN n (cs.drop o) = some row) : readS ⟨h, nx⟩ (b, o) n = some row := by
 unfold readS
 cases e : Nat.beq n 0 with
 | true => have := Nat.eq_of_beq_eq_true e; subst this; cases ht; rfl
 | false => exact jL hg ht
theorem yh {a b : Nat} (h : a ≤ b) : Nat.ble a b = true := by rw [Nat.ble_eq]; exact h
theorem Yv {a b : Nat} (h : b < a) : Nat.ble a b = false := by
 cases e : Nat.ble a b with
 | false => rfl
 | true => have := Nat.le_of_ble_eq_true e; omega
theorem Yu {a b : Nat} (h : a < b) : Nat.blt a b = true := by rw [Nat.blt_eq]; exact h
theorem app_nil {bx ox cx n : Nat} {cs row : List HV} {k : BK} (hg : h.get bx = some (.cells cs k)) (ht : takeN (n * size) (cs.drop ox) = some row) (hn : 0 < n) (h1 : n * bytes ≤ 35184372088832) (h2 : n ≤ 35184372088832) (h3 : 0 < size) :
  appendH fl ⟨h, nx⟩ size bytes (.slice none 0 0) (.slice (some (bx, ox)) n cx) = some (.slice (some (nx, 0)) n n, ⟨h.set nx (some (.cells row (.opn size))), nx + 1⟩) := by
 unfold appendH
 simp only [ud hg ht, Nat.zero_add, Yv hn, yh h1, yh h2, Yu h3, Bool.and_self, cond_true, cond_false, Nat.beq_refl]
 rfl
theorem app_opn {bx ox cx n b k z : Nat} {cs old row : List HV} {bk : BK} (hg : h.get bx = some (.cells cs bk)) (ht : takeN (n * size) (cs.drop ox) = some row) (hb : h.get b = some (.cells old (.opn size))) (hl : old.length = k * size) (hfl : fl ≤ b) (hz : z = k) (h1row : row.all HV.one = true)
  (hn : 0 < n) (h1 : (k + n) * bytes ≤ 35184372088832) (h2 : k + n ≤ 35184372088832) (h3 : 0 < size) :
  appendH fl ⟨h, nx⟩ size bytes (.slice (some (b, 0)) k z) (.slice (some (bx, ox)) n cx) = some (.slice (some (nx, 0)) (k + n) (k + n), ⟨(h.set b none).set nx (some (.cells (old ++ row) (.opn size))), nx + 1⟩) := by
 subst hz
 have tk : takeN (z * size) (old.drop 0) = some old := by
  rw [← hl]
  have : ∀ l : List HV, takeN l.length l = some l := fun l => by
   induction l with
   | nil => rfl
   | cons v l ih => show (takeN l.length l).map _ = _; rw [ih]; rfl
  exact this old
 unfold appendH
 simp only [ud hg ht, Yv (show z < z + n by omega), yh h1, yh h2, Yu h3, Bool.and_self, cond_true, cond_false, hb, jL hb tk]
 have e1 : Nat.ble fl b = true := yh hfl
 have e2 : Nat.beq size size = true := Nat.beq_refl size
 have e3 : Nat.beq (0 + z * size) old.length = true := by rw [Nat.zero_add, hl]; exact Nat.beq_refl _
 simp only [e1, e2, e3, h1row, Bool.and_self, cond_true]
 rfl
theorem app_in {bx ox cx n b o k z : Nat} {cs old row new : List HV} {bk k2 : BK} (hg : h.get bx = some (.cells cs bk)) (ht : takeN (n * size) (cs.drop ox) = some row) (hb : h.get b = some (.cells old k2)) (hk : Own k2) (hfl : fl ≤ b) (h1row : row.all HV.one = true) (hne : row ≠ [])
  (hfit : k + n ≤ z) (hw : overwrite old (o + k * size) row = some new) :
  appendH fl ⟨h, nx⟩ size bytes (.slice (some (b, o)) k z) (.slice (some (bx, ox)) n cx) = some (.slice (some (b, o)) (k + n) z, ⟨h.set b (some (.cells new k2)), nx⟩) := by
 unfold appendH
 have hwr : (⟨h, nx⟩ : HS).write fl (b, o + k * size) row = some ⟨h.set b (some (.cells new k2)), nx⟩ := by
  unfold HS.write
  simp only [hb]
  have e1 : Nat.ble fl b = true := yh hfl
  cases k2 with
  | ro => exact hk.elim
  | exact => simp only [e1, h1row, Bool.and_self, cond_true, hw, Option.map_some]; rfl
  | opn s => simp only [e1, h1row, Bool.and_self, cond_true, hw, Option.map_some]; rfl
 simp only [ud hg ht, yh hfit, cond_true]
 cases row with
 | nil => exact absurd rfl hne
 | cons v r => simp only [hwr, Option.map_some]
theorem XL {p : Option (Nat × Nat)} {k z cx : Nat} {px : Option (Nat × Nat)} (hkz : k ≤ z) : appendH fl ⟨h, nx⟩ size bytes (.slice p k z) (.slice px 0 cx) = some (.slice p k z, ⟨h, nx⟩) := by
 unfold appendH
 simp only [Nat.add_zero, yh hkz, cond_true]
 cases px with
 | none => cases p <;> rfl
 | some a =>
  have e : readS ⟨h, nx⟩ a (0 * size) = some [] := by unfold readS; rw [Nat.zero_mul]; rfl
  simp only [e]
theorem kH {bx ox cx n b o k z : Nat} {cs old cs2 row : List HV} {bk : BK} (hg : h.get bx = some (.cells cs bk)) (ht : takeN (n * size) (cs.drop ox) = some row) (hb : h.get b = some (.cells cs2 .exact)) (ho : takeN (k * size) (cs2.drop o) = some old) (hfull : z < k + n)
  (h1 : (k + n) * bytes ≤ 35184372088832) (h2 : k + n ≤ 35184372088832) (h3 : 0 < size) :
  appendH fl ⟨h, nx⟩ size bytes (.slice (some (b, o)) k z) (.slice (some (bx, ox)) n cx) = some (.slice (some (nx, 0)) (k + n) (k + n), ⟨h.set nx (some (.cells (old ++ row) (.opn size))), nx + 1⟩) := by
 unfold appendH
 simp only [ud hg ht, Yv hfull, yh h1, yh h2, Yu h3, Bool.and_self, cond_true, cond_false, hb, jL hb ho]
 rfl
theorem r_ms {zero : List HV} {l c : Lo} {ln cn : Nat} (hl : a.ev l = i64 ln) (hc : a.ev c = i64 cn) (h1 : ln ≤ cn) (h2 : cn * bytes ≤ 35184372088832) (h3 : cn ≤ 35184372088832) (hn : R lp fl os N (a.put dst (.slice (some (nx, 0)) ln cn)) ⟨h.set nx (some (.cells (repl cn zero) .exact)), nx + 1⟩) : R lp fl (⟨dst, .makeSlice zero bytes l c, none, anc⟩ :: os) N a ⟨h, nx⟩ :=
 r_go (by
  show oMakeSlice zero bytes l c a _ = _
  unfold oMakeSlice
  rw [hl, hc]
  have e1 : natOf (i64 (ln : Int)) = some ln := rfl
  have e2 : natOf (i64 (cn : Int)) = some cn := rfl
  rw [e1, e2]
  simp only [yh h1, yh h2, yh h3, Bool.and_self, cond_true]
  rfl) hn
end Go.Hx

namespace Go.Hx
structure Ext (h : Tr HBlk) (nx : Nat) (h' : Tr HBlk) (n' : Nat) : Prop where
 le : nx ≤ n'
 d : D h' n'
 same : ∀ b, b < nx → h'.get b = h.get b
theorem Ext.refl {h : Tr HBlk} {nx : Nat} (hd : D h nx) : Ext h nx h nx := ⟨Nat.le_refl _, hd, fun _ _ => rfl⟩
theorem Ext.trans {h h1 h2 : Tr HBlk} {nx n1 n2 : Nat} (a : Ext h nx h1 n1) (b : Ext h1 n1 h2 n2) : Ext h nx h2 n2 :=
 ⟨Nat.le_trans a.le b.le, b.d, fun c hc => (b.same c (Nat.lt_of_lt_of_le hc a.le)).trans (a.same c hc)⟩
theorem Ext.set {h : Tr HBlk} {nx n b : Nat} {x : Option HBlk} (hd : D h nx) (hn : nx ≤ n) (h1 : nx ≤ b) (h2 : b < n) : Ext h nx (h.set b x) n :=
 ⟨hn, hd.put hn h2, fun c hc => by rw [Tr.get_set, if_neg (by omega)]⟩
theorem Ext.up {h0 h : Tr HBlk} {n0 n n2 : Nat} (e : Ext h0 n0 h n) (hn : n ≤ n2) : Ext h0 n0 h n2 := ⟨Nat.le_trans e.le hn, e.d.mono hn, e.same⟩
theorem uq : ∀ (n : Nat) (l r : List HV), takeN n l = some r → ∀ j m, j + m ≤ n → takeN m (l.drop j) = takeN m (r.drop j)
 | n, l, r, h, 0, 0, _ => rfl
 | n + 1, [], r, h, _, _, _ => by cases h
 | n + 1, v :: l, r, h, 0, m + 1, hj => by
  unfold takeN at h
  cases e : takeN n l with
  | none => rw [e] at h; cases h
  | some r' =>
   rw [e] at h; cases h
   show (takeN m l).map _ = (takeN m r').map _
   have := uq n l r' e 0 m (by omega)
   simp only [List.drop_zero] at this
   rw [this]
 | n + 1, v :: l, r, h, j + 1, m, hj => by
  unfold takeN at h
  cases e : takeN n l with
  | none => rw [e] at h; cases h
  | some r' => rw [e] at h; cases h; exact uq n l r' e j m (by omega)
 | 0, l, r, h, j + 1, m, hj => by omega
theorem vA : ∀ (n : Nat) (l m r : List HV), takeN n l = some r → takeN n (l ++ m) = some r
 | 0, _, _, _, h => h
 | n + 1, [], _, _, h => by cases h
 | n + 1, v :: l, m, r, h => by
  unfold takeN at h
  cases e : takeN n l with
  | none => rw [e] at h; cases h
  | some r' =>
   rw [e] at h
   show (takeN n (l ++ m)).map _ = _
   rw [vA n l m r' e]; exact h
theorem jC : ∀ (n m : Nat) (l r s : List HV), takeN n l = some r → takeN m (l.drop n) = some s → takeN (n + m) l = some (r ++ s)
 | 0, m, l, r, s, h1, h2 => by cases h1; rw [Nat.zero_add]; exact h2
 | n + 1, m, [], r, s, h1, _ => by cases h1
 | n + 1, m, v :: l, r, s, h1, h2 => by
  unfold takeN at h1
  cases e : takeN n l with
  | none => rw [e] at h1; cases h1
  | some r' =>
   rw [e] at h1; cases h1
   rw [show n + 1 + m = (n + m) + 1 by omega]
   show (takeN (n + m) l).map _ = _
   rw [jC n m l r' s e h2]; rfl
theorem Xa {sz o j n : Nat} {cs row r : List HV} (ht : takeN sz (cs.drop o) = some row) (hj : j + n ≤ sz) (hr : takeN n (row.drop j) = some r) : takeN n (cs.drop (o + j)) = some r := by
 rw [← List.drop_drop, uq sz _ row ht j n hj]; exact hr
def Out {α : Type} (enc : α → List HV) (sz n0 : Nat) (h : Tr HBlk) (nx : Nat) (v : HV) (l : List α) : Prop :=
 (l = [] ∧ v = .slice none 0 0) ∨ ∃ b, n0 ≤ b ∧ b < nx ∧ v = .slice (some (b, 0)) l.length l.length ∧ h.get b = some (.cells (l.flatMap enc) (.opn sz))
theorem ua : ∀ (a b : List HV), takeN a.length (a ++ b) = some a
 | [], _ => rfl
 | v :: a, b => by show (takeN a.length (a ++ b)).map _ = _; rw [ua a b]; rfl
theorem XA {α : Type} {enc : α → List HV} {sz : Nat} (he : ∀ x, (enc x).length = sz) : ∀ (l : List α) (i : Nat) (x : α), l[i]? = some x → takeN sz ((l.flatMap enc).drop (0 + i * sz)) = some (enc x)
 | [], i, x, h => by simp at h
 | y :: l, 0, x, h => by
  simp at h; subst h
  rw [Nat.zero_mul, List.flatMap_cons, ← he y]
  exact ua _ _
 | y :: l, i + 1, x, h => by
  have := XA he l i x (by simpa using h)
  rw [List.flatMap_cons, List.drop_append, show 0 + (i + 1) * sz - (enc y).length = 0 + i * sz by rw [he y, Nat.add_mul]; omega, List.drop_of_length_le (by rw [he y, Nat.add_mul]; omega), List.nil_append]
  exact this
end Go.Hx

