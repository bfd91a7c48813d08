/- The functions of the program, as the plain machine runs them. -/
import Derived.Test.YtpifhppigeblaaaH04
import Derived.ProofKit
import Derived.Test.YtpifhppigeblaaaH02
import Derived.Test.YtpifhppigeblaaaH03
set_option linter.all false
/- The functions of the program, as the plain machine runs them. -/
namespace Go.Hx
set_option maxRecDepth 100000
noncomputable def L83r0 : List LOper := [(og 22 (.bin .leq (.t 20) (.t 21)) 18 .true), (o 23 (.pick (.t 18) (.t 22) (.c (.bool .false)))), (o 6 (.move (.t 23)))]
noncomputable def L83r1 : List LOper := ((o 17 (.pick (.t 11) (.t 16) (.c (.bool .false)))) :: (o 18 (.move (.t 17))) :: (og 19 (.fieldAddr 1 (.t 3)) 18 .true) :: (og 20 (.load .false 1 (.t 19)) 18 .true) :: (og 21 (.move (.t 2)) 18 .true) :: L83r0)
noncomputable def L83r2 : List LOper := ((og 12 (.fieldAddr 0 (.t 3)) 11 .true) :: (og 13 (.load .false 1 (.t 12)) 11 .true) :: (og 14 (.fieldAddr 1 (.t 3)) 11 .true) :: (og 15 (.load .false 1 (.t 14)) 11 .true) :: (og 16 (.bin .leq (.t 13) (.t 15)) 11 .true) :: L83r1)
noncomputable def L83s0 : LCode := (.seq (.reg ((o 7 (.move (.t 1))) :: (o 8 (.fieldAddr 0 (.t 3))) :: (o 9 (.load .false 1 (.t 8))) :: (o 10 (.bin .leq (.t 7) (.t 9))) :: (o 11 (.move (.t 10))) :: L83r2)) .ret)
noncomputable def L83 : LFunc := ⟨24, (.seq (.reg [(o 3 (.box (.t 0))), (o 6 (.move (.c (.bool .false))))]) L83s0), [(.t 6)], .false, .none, viaOff Go.Proofs.Try.prog⟩
theorem lp83 : LP 83 = some L83 := by kernel_rfl
noncomputable def L87s0 : LCode := (.cond (.t 15) (.reg [(o 16 (.move (.t 6))), (o 0 (.move (.t 16)))]) .skip)
noncomputable def L87s1 : LCode := (.seq (.reg [(o 13 (.move (.t 6))), (o 14 (.move (.t 0))), (o 15 (.bin .gtr (.t 13) (.t 14)))]) L87s0)
noncomputable def L87s2 : LCode := (.reg [(o 17 (.bin .add (.t 9) (.c (.int .i64 1)))), (o 9 (.move (.t 17)))])
noncomputable def L87s3 : LCode := (.seq (.block 1 (.seq (.reg [(o 11 (.indexAddrS 1 (.t 7) (.t 9))), (o 12 (.load .false 1 (.t 11))), (o 6 (.move (.t 12)))]) L87s1)) L87s2)
noncomputable def L87w0 : LCode := (.seq (.reg [(o 10 (.bin .lss (.t 9) (.t 8)))]) (.seq (.cond (.t 10) .skip (.exit 0)) L87s3))
noncomputable def L87s4 : LCode := (.seq (.reg [(o 18 (.move (.t 0))), (o 4 (.move (.t 18)))]) .ret)
noncomputable def L87s5 : LCode := (.seq (.seq (.reg [(o 7 (.move (.t 1))), (o 8 (.len .slice (.t 7))), (o 9 (.move (.c (.int .i64 0))))]) (.block 0 (.loop L87w0))) L87s4)
noncomputable def L87 : LFunc := ⟨19, (.seq (.reg [(o 4 (.move (.c (.int .i64 0))))]) L87s5), [(.t 4)], .false, .none, viaOff Go.Proofs.Try.prog⟩
theorem lp87 : LP 87 = some L87 := by kernel_rfl
end Go.Hx

/- The functions of the program, of which one is known: the closed examples tell true. -/
namespace Go.Hx
noncomputable section
def spWakes : List HV → HS → Option (HV × HS)
  | [], σ => some (.bool true, σ)
  | _, _ => none
def LW : Nat → Option LFunc := withS LP 19 spWakes
theorem withS_of {lp : Nat → Option LFunc} {f : Nat} {g : List HV → HS → Option (HV × HS)} {k : Nat} {lf : LFunc} (hk : Nat.beq k f = false) (h : lp k = some lf) : withS lp f g k = some lf := by
  unfold withS
  rw [hk]
  exact h
theorem lw_of {k : Nat} {lf : LFunc} (hk : Nat.beq k 19 = false) (h : LP k = some lf) : LW k = some lf := withS_of hk h
theorem lw3 : LW 3 = some L3 := lw_of rfl lp3
theorem lw20 : LW 20 = some L20 := lw_of rfl lp20
theorem lw21 : LW 21 = some L21 := lw_of rfl lp21
theorem lw22 : LW 22 = some L22 := lw_of rfl lp22
theorem lw23 : LW 23 = some L23 := lw_of rfl lp23
theorem lw24 : LW 24 = some L24 := lw_of rfl lp24
theorem lw25 : LW 25 = some L25 := lw_of rfl lp25
theorem lw26 : LW 26 = some L26 := lw_of rfl lp26
theorem lw27 : LW 27 = some L27 := lw_of rfl lp27
theorem lw35 : LW 35 = some L35 := lw_of rfl lp35
theorem lw37 : LW 37 = some L37 := lw_of rfl lp37
theorem lw38 : LW 38 = some L38 := lw_of rfl lp38
theorem lw48 : LW 48 = some L48 := lw_of rfl lp48
theorem lw63 : LW 63 = some L63 := lw_of rfl lp63
theorem lw64 : LW 64 = some L64 := lw_of rfl lp64
theorem lw65 : LW 65 = some L65 := lw_of rfl lp65
theorem lw66 : LW 66 = some L66 := lw_of rfl lp66
theorem lw67 : LW 67 = some L67 := lw_of rfl lp67
theorem lw68 : LW 68 = some L68 := lw_of rfl lp68
theorem lw69 : LW 69 = some L69 := lw_of rfl lp69
theorem lw70 : LW 70 = some L70 := lw_of rfl lp70
theorem lw71 : LW 71 = some L71 := lw_of rfl lp71
theorem lw83 : LW 83 = some L83 := lw_of rfl lp83
theorem lw86 : LW 86 = some L86 := lw_of rfl lp86
theorem lw87 : LW 87 = some L87 := lw_of rfl lp87
theorem lw88 : LW 88 = some L88 := lw_of rfl lp88
theorem V.ct_wakes {fl : Nat} {h : Tr HBlk} {nx : Nat} : C LW fl 19 [] ⟨h, nx⟩ (V.KS (.bool true) nx h) :=
  c_spec (lf := ⟨0, .bad, [], false, some spWakes, fun _ _ => none⟩) rfl rfl rfl (Nat.le_refl _) ⟨rfl, nx, Nat.le_refl _, rfl⟩
end
end Go.Hx

/- What is known of the temporaries, and no more. -/
namespace Go.Hx.V
open Go.Hx
variable {lp : Nat → Option LFunc} {fl nt : Nat} {rd : Option Nat} {Q : HExit → HAct → HS → Prop} {T : Tr HV} {ds : List Nat} {σ : HS} {c : LCode}
end Go.Hx.V

/- Arrays at the end of what a box holds, as functions of places. -/
namespace Go.Hx.V
open Go.Hx
def eI (k : IntKind) (n : Nat) (f : Nat → Int) : List HV := (List.range n).map fun i => .int k (f i)
def eB (n : Nat) (f : Nat → Bool) : List HV := (List.range n).map fun i => .bool (f i)
section
variable {k : IntKind} {n : Nat} {f : Nat → Int} {g : Nat → Bool}
theorem eI_len : (eI k n f).length = n := by unfold eI; rw [List.length_map, List.length_range]
theorem eB_len : (eB n g).length = n := by unfold eB; rw [List.length_map, List.length_range]
theorem eI_one : (eI k n f).all HV.one = true := by
  unfold eI; rw [List.all_map, List.all_eq_true]; intro i _; rfl
theorem eB_one : (eB n g).all HV.one = true := by
  unfold eB; rw [List.all_map, List.all_eq_true]; intro i _; rfl
end
section
variable {n0 nx : Nat} {h0 h : Tr HBlk} {F0 F : PH} {L : List LE}
theorem St.cells (st : St n0 h0 F0 F h nx L) (i : Nat) {b : Nat} {cs : List HV} (hi : L[i]? = some (.bx b cs)) (cs' : List HV) (he : cs = cs') : St n0 h0 F0 F h nx (L.set i (.bx b cs')) := by
  subst he
  have : L.set i (.bx b cs) = L := by
    apply List.ext_getElem?
    intro j
    rw [List.getElem?_set]
    by_cases e : i = j
    · subst e
      rw [if_pos rfl, hi]
      split
      · rfl
      · rename_i hn; rw [List.getElem?_eq_none (by omega)] at hi; cases hi
    · rw [if_neg e]
  rw [this]; exact st
end
def rF (k : IntKind) (n : Nat) : Rel (Nat → Int) := fun _ f r => r = eI k n f
def rFB (n : Nat) : Rel (Nat → Bool) := fun _ f r => r = eB n f
instance {k : IntKind} {n : Nat} : OkR (rF k n) n := ⟨fun _ h => h, fun h => by rw [h]; exact eI_len, fun h => by rw [h]; exact eI_one⟩
instance {n : Nat} : OkR (rFB n) n := ⟨fun _ h => h, fun h => by rw [h]; exact eB_len, fun h => by rw [h]; exact eB_one⟩
end Go.Hx.V

/- Maps, as functions from keys. -/
namespace Go.Hx.V
set_option linter.unusedVariables false
open Go.Hx
def KD {κ : Type} [DecidableEq κ] (D : ED) (en : κ → HV) : Prop := ∀ a b : κ, eqH D (en a) (en b) = some (decide (a = b))
def KRw {κ : Type} [DecidableEq κ] (ks : List Leaf) (en : κ → List HV) : Prop := ∀ a b : κ, eqRow ks (en a) (en b) = some (decide (a = b))
theorem KD.int {k : IntKind} : KD (.cell (.i k)) (fun x : Int => .int k x) := fun a b => by
  show (if k = k ∧ k = k then some (a == b) else none) = _
  rw [if_pos ⟨rfl, rfl⟩]; rfl
theorem KRw.one {k : IntKind} : KRw [.i k] (fun x : Int => [.int k x]) := fun a b => by
  show (match (if k = k ∧ k = k then some (a == b) else none), some true with | some a, some b => some (a && b) | _, _ => none) = _
  rw [if_pos ⟨rfl, rfl⟩]
  show some ((a == b) && true) = _
  rw [Bool.and_true]; rfl
theorem KRw.cons {κ : Type} [DecidableEq κ] {ks : List Leaf} {en : κ → List HV} {k : IntKind} (h : KRw ks en) : KRw (.i k :: ks) (fun p : Int × κ => .int k p.1 :: en p.2) := fun a b => by
  show (match (if k = k ∧ k = k then some (a.1 == b.1) else none), eqRow ks (en a.2) (en b.2) with | some a, some b => some (a && b) | _, _ => none) = _
  rw [if_pos ⟨rfl, rfl⟩, h a.2 b.2]
  show some ((a.1 == b.1) && decide (a.2 = b.2)) = _
  congr 1
  obtain ⟨a1, a2⟩ := a
  obtain ⟨b1, b2⟩ := b
  by_cases c : a1 = b1
  · by_cases c' : a2 = b2
    · subst c; subst c'; simp
    · simp [c, c']
  · simp [c]
theorem KD.row {κ : Type} [DecidableEq κ] {ks : List Leaf} {en : κ → List HV} (h : KRw ks en) : KD (.row ks) (fun k => .agg (en k)) := h
section
variable {κ β : Type} [DecidableEq κ]
def look : List (κ × β) → κ → Option β
  | [], _ => none
  | (x, v) :: l, k => if k = x then some v else look l k
def putM (k : κ) (v : β) : List (κ × β) → List (κ × β)
  | [] => [(k, v)]
  | (x, u) :: l => if k = x then (k, v) :: l else (x, u) :: putM k v l
def upm (m : κ → Option β) (k : κ) (v : β) : κ → Option β := fun j => if j = k then some v else m j
theorem look_put {k : κ} {v : β} : ∀ (l : List (κ × β)) (j : κ), look (putM k v l) j = if j = k then some v else look l j
  | [], j => rfl
  | (x, u) :: l, j => by
    unfold putM
    by_cases c : k = x
    · rw [if_pos c]
      unfold look
      by_cases c' : j = k
      · rw [if_pos c', if_pos c']
      · rw [if_neg c', if_neg c', if_neg (fun e => c' (e.trans c.symm))]
    · rw [if_neg c]
      unfold look
      by_cases c' : j = x
      · rw [if_pos c', if_neg (fun e => c (e.symm.trans c')), if_pos c']
      · rw [if_neg c', if_neg c', look_put l j]
def MR (D : ED) (en : κ → HV) (ev : β → HV) (es : List (HV × HV)) (m : κ → Option β) : Prop := KD D en ∧ ∃ l : List (κ × β), es = l.map (fun p => (en p.1, ev p.2)) ∧ ∀ k, m k = look l k
theorem MR.nil {D : ED} {en : κ → HV} {ev : β → HV} (h : KD D en) : MR D en ev [] (fun _ => none) := ⟨h, [], rfl, fun _ => rfl⟩
theorem MR.upd {D : ED} {en : κ → HV} {ev : β → HV} {es : List (HV × HV)} {m : κ → Option β} (h : MR D en ev es m) (k : κ) (v : β) : ∃ es', updH D (en k) (ev v) es = some es' ∧ MR D en ev es' (upm m k v) := by
  obtain ⟨hd, l, rfl, hm⟩ := h
  refine ⟨(putM k v l).map (fun p => (en p.1, ev p.2)), ?_, hd, putM k v l, rfl, fun j => ?_⟩
  · clear hm
    induction l with
    | nil => rfl
    | cons p l ih =>
      obtain ⟨x, u⟩ := p
      show (match eqH D (en k) (en x) with | some true => some ((en k, ev v) :: l.map fun p : κ × β => (en p.1, ev p.2)) | some false => (updH D (en k) (ev v) (l.map fun p : κ × β => (en p.1, ev p.2))).map ((en x, ev u) :: ·) | none => none) = _
      rw [hd k x]
      unfold putM
      by_cases c : k = x
      · rw [decide_eq_true c, if_pos c]; rfl
      · rw [decide_eq_false c, if_neg c]
        show (updH D (en k) (ev v) (l.map fun p : κ × β => (en p.1, ev p.2))).map ((en x, ev u) :: ·) = _
        rw [ih]; rfl
  · rw [look_put]
    unfold upm
    rw [hm j]
theorem MR.key {D : ED} {en : κ → HV} {ev : β → HV} {es : List (HV × HV)} {m : κ → Option β} (h : MR D en ev es m) (k : κ) : keyOk D (en k) = true := by
  unfold keyOk; rw [h.1 k k]; rfl
end
section
variable {lp : Nat → Option LFunc} {fl : Nat} {N : HAct → HS → Prop} {nt d : Nat} {T : Tr HV} {ds : List Nat} {h : Tr HBlk} {nx : Nat} {os : List LOper} {anc : List Nat} {κ β : Type} [DecidableEq κ]
end
end Go.Hx.V

/- Appending, in the part of a region that draws, to a row that this part itself has laid. -/
namespace Go.Hx.V
set_option linter.unusedVariables false
open Go.Hx
section
variable {lp : Nat → Option LFunc} {fl : Nat} {N : HAct → HS → Prop} {nt d : Nat} {T : Tr HV} {ds : List Nat} {os : List LOper}
variable {h1 hm h0 : Tr HBlk} {nx s n1 n0 i : Nat} {done : List (Nat × List (Nat × HBlk))} {V : List (Nat × PH)} {F F0 : PH} {L : List LE}
end
end Go.Hx.V

/- What the functions of the program come to. -/
namespace Go.Hx.V
open Go.Hx
set_option linter.unusedVariables false
set_option maxRecDepth 20000
set_option maxHeartbeats 4000000
/- meniscus/meniscuslaw01.to -/
def sf35 (N : Nat) (a0_0 : Int) (a0_1 : Int) : Option (Int × Int) :=
  some (a0_0, a0_1)
/- meniscus/meniscuslaw01.Tube -/
def sf21 (N : Nat) (a0_0 : Int) (a0_1 : Int) (a0_2 : Int) (a0_3 : Int) : Option (Int × Int × Int × Int) :=
  (bnd (sf35 N a0_2 a0_3) fun v7 => some (a0_0, a0_1, v7.1, v7.2))
/- (meniscus/bore.Range).liesIn -/
def sf83 (N : Nat) (a0_0 : Int) (a0_1 : Int) (a1 : Int) (a2 : Int) : Option Bool :=
  (bif (decide (a1 ≤ a0_0)) then (bif (decide (a0_0 ≤ a0_1)) then some (decide (a0_1 ≤ a2)) else some false) else some false)
/- (meniscus/bore.Range).has -/
def sf66 (N : Nat) (a0_0 : Int) (a0_1 : Int) (a1 : Int) : Option Bool :=
  (bif (decide (a0_0 ≤ a1)) then some (decide (a1 ≤ a0_1)) else some false)
/- (meniscus/bore.Tube).valid -/
def sf63 (N : Nat) (a0_0 : Int) (a0_1 : Int) (a0_2 : Int) (a0_3 : Int) : Option Bool :=
  bnd (bnd ((bif (decide (a0_0 < (1 : Int))) then some true else (bif (decide ((10 : Int) < a0_0)) then some true else (bnd (sf83 N a0_2 a0_3 (1 : Int) (200 : Int)) fun v37 => some (!v37)))) : Option (Bool)) (fun y31 => (bif y31 then some (.inl ()) else some (.inr ()))) : Option (Unit ⊕ Unit)) (sel (fun w22 => some false) (fun w24 => (ck (rng (a0_0 * a0_2)) ((ck (rng (a0_0 * a0_3)) ((bif (decide (a0_1 ≤ (2000 : Int))) then (bnd (sf66 N (a0_0 * a0_2) (a0_0 * a0_3) a0_1) fun v48 => some v48) else some false)))))))
/- meniscus/bore.CheckTube -/
def sf20 (N : Nat) (a0_0 : Int) (a0_1 : Int) (a0_2 : Int) (a0_3 : Int) : Option Int :=
  (bnd (sf63 N a0_0 a0_1 a0_2 a0_3) fun v4 => (bif (!v4) then some (1 : Int) else some (0 : Int)))
/- meniscus/meniscuslaw01.Readings -/
def sf23_L1 (N : Nat) (a0 : (List (Int × Int × Int × Int))) (x3 : ((List (Int × Int × Int × Int)) × Int)) : Option (((List (Int × Int × Int × Int)) × Int) ⊕ (List (Int × Int × Int × Int))) :=
  (bif (decide (x3.2 < ((a0).length : Int))) then (ix a0 x3.2 fun x23 => (ix a0 x3.2 fun x24 => (ix a0 x3.2 fun x25 => (bnd (sf35 N x25.2.2.1 x25.2.2.2) fun v26 => (ck ((x3.1.length + 1) * 32 ≤ 35184372088832 ∧ x3.1.length + 1 ≤ 35184372088832) ((ck (rng (x3.2 + (1 : Int))) (some (.inl ((x3.1 ++ [(x23.1, x24.2.1, v26.1, v26.2)]), (x3.2 + (1 : Int)))))))))))) else some (.inr x3.1))
def sf23 (N : Nat) (a0 : (List (Int × Int × Int × Int))) : Option (List (Int × Int × Int × Int)) :=
  bnd (iter (sf23_L1 N a0) N (([] : List (Int × Int × Int × Int)), (0 : Int))) (fun y19 => some y19)
/- meniscus/meniscuslaw01.list -/
def sf24 (N : Nat) (a0 : (List Int)) : Option (List Int) :=
  (ck ((([] : List Int).length + a0.length) * 8 ≤ 35184372088832 ∧ ([] : List Int).length + a0.length ≤ 35184372088832) (some (([] : List Int) ++ a0)))
/- (meniscus/bore.Tube).allows -/
def sf86 (N : Nat) (a0_0 : Int) (a0_1 : Int) (a0_2 : Int) (a0_3 : Int) (a1_0 : Int) (a1_1 : Int) (a1_2 : Int) (a1_3 : Int) : Option Bool :=
  (bif (decide ((0 : Int) ≤ a1_0)) then (bif (decide (a1_0 < a0_0)) then (bif (decide (a1_0 ≤ a1_1)) then (bif (decide (a1_1 ≤ a0_0)) then (bnd (sf83 N a1_2 a1_3 (0 : Int) (2000 : Int)) fun v11 => some v11) else some false) else some false) else some false) else some false)
/- meniscus/lists.All[meniscus/bore.Reading] -/
def sf68_L1 (N : Nat) (a0 : (List (Int × Int × Int × Int))) (a1f0_0 : Int) (a1f0_1 : Int) (a1f0_2 : Int) (a1f0_3 : Int) (x1 : Int) : Option (Int ⊕ (Unit ⊕ Unit)) :=
  (bif (decide (x1 < ((a0).length : Int))) then (ix a0 x1 fun x20 => (bnd (sf86 N a1f0_0 a1f0_1 a1f0_2 a1f0_3 x20.1 x20.2.1 x20.2.2.1 x20.2.2.2) fun v25 => (bif (!v25) then some (.inr (.inl ())) else (ck (rng (x1 + (1 : Int))) (some (.inl (x1 + (1 : Int)))))))) else some (.inr (.inr ())))
def sf68 (N : Nat) (a0 : (List (Int × Int × Int × Int))) (a1f0_0 : Int) (a1f0_1 : Int) (a1f0_2 : Int) (a1f0_3 : Int) : Option Bool :=
  bnd (iter (sf68_L1 N a0 a1f0_0 a1f0_1 a1f0_2 a1f0_3) N (0 : Int)) (sel (fun w15 => some false) (fun w17 => some true))
/- meniscus/bore.check -/
def sf64 (N : Nat) (a0_0 : Int) (a0_1 : Int) (a0_2 : Int) (a0_3 : Int) (a1 : (List (Int × Int × Int × Int))) : Option Int :=
  (bnd (sf20 N a0_0 a0_1 a0_2 a0_3) fun v4 => (bif (!(decide (v4 = (0 : Int)))) then some v4 else (bif (decide ((12 : Int) < ((a1).length : Int))) then some (3 : Int) else (bnd (sf68 N a1 a0_0 a0_1 a0_2 a0_3) fun v9 => (bif (!v9) then some (2 : Int) else some (0 : Int))))))
/- meniscus/lists.All[int] -/
def sf65_L1 (N : Nat) (a0 : (List Int)) (a1f0_0 : Int) (a1f0_1 : Int) (x1 : Int) : Option (Int ⊕ (Unit ⊕ Unit)) :=
  (bif (decide (x1 < ((a0).length : Int))) then (ix a0 x1 fun x16 => (bnd (sf66 N a1f0_0 a1f0_1 x16) fun v17 => (bif (!v17) then some (.inr (.inl ())) else (ck (rng (x1 + (1 : Int))) (some (.inl (x1 + (1 : Int)))))))) else some (.inr (.inr ())))
def sf65 (N : Nat) (a0 : (List Int)) (a1f0_0 : Int) (a1f0_1 : Int) : Option Bool :=
  bnd (iter (sf65_L1 N a0 a1f0_0 a1f0_1) N (0 : Int)) (sel (fun w11 => some false) (fun w13 => some true))
/- meniscus/bore.heightsOf -/
def sf67_L1 (a0 : (List Int)) (x7 : ((List Int) × Int × Int)) : Option (((List Int) × Int × Int) ⊕ (List Int)) :=
  (bif (decide (x7.2.2 < ((a0).length : Int))) then (ix a0 x7.2.2 fun x22 => (ck (rng (x7.2.1 + x22)) ((ck ((x7.1.length + 1) * 8 ≤ 35184372088832 ∧ x7.1.length + 1 ≤ 35184372088832) ((ck (rng (x7.2.2 + (1 : Int))) (some (.inl ((x7.1 ++ [(x7.2.1 + x22)]), (x7.2.1 + x22), (x7.2.2 + (1 : Int))))))))))) else some (.inr x7.1))
def sf67 (N : Nat) (a0 : (List Int)) : Option (List Int) :=
  (ck (rng (((a0).length : Int) + (1 : Int))) ((ck (0 ≤ (0 : Int) ∧ 0 ≤ (((a0).length : Int) + (1 : Int)) ∧ Int.toNat (0 : Int) ≤ Int.toNat (((a0).length : Int) + (1 : Int)) ∧ (Int.toNat (((a0).length : Int) + (1 : Int)) * 8 ≤ 35184372088832 ∧ Int.toNat (((a0).length : Int) + (1 : Int)) ≤ 35184372088832)) ((ck (((List.replicate (Int.toNat (0 : Int)) 0).length + 1) * 8 ≤ 35184372088832 ∧ (List.replicate (Int.toNat (0 : Int)) 0).length + 1 ≤ 35184372088832) (bnd (iter (sf67_L1 a0) N (((List.replicate (Int.toNat (0 : Int)) 0) ++ [(0 : Int)]), (0 : Int), (0 : Int))) (fun y18 => some y18)))))))
/- meniscus/lists.Greatest -/
def sf87_L1 (a1 : (List Int)) (x1 : (Int × Int)) : Option ((Int × Int) ⊕ Int) :=
  (bif (decide (x1.2 < ((a1).length : Int))) then (ix a1 x1.2 fun x11 => (bif (decide (x1.1 < x11)) then (ck (rng (x1.2 + (1 : Int))) (some (.inl (x11, (x1.2 + (1 : Int)))))) else (ck (rng (x1.2 + (1 : Int))) (some (.inl (x1.1, (x1.2 + (1 : Int)))))))) else some (.inr x1.1))
def sf87 (N : Nat) (a0 : Int) (a1 : (List Int)) : Option Int :=
  bnd (iter (sf87_L1 a1) N (a0, (0 : Int))) (fun y8 => some y8)
/- meniscus/lists.Least -/
def sf88_L1 (a1 : (List Int)) (x1 : (Int × Int)) : Option ((Int × Int) ⊕ Int) :=
  (bif (decide (x1.2 < ((a1).length : Int))) then (ix a1 x1.2 fun x11 => (bif (decide (x11 < x1.1)) then (ck (rng (x1.2 + (1 : Int))) (some (.inl (x11, (x1.2 + (1 : Int)))))) else (ck (rng (x1.2 + (1 : Int))) (some (.inl (x1.1, (x1.2 + (1 : Int)))))))) else some (.inr x1.1))
def sf88 (N : Nat) (a0 : Int) (a1 : (List Int)) : Option Int :=
  bnd (iter (sf88_L1 a1) N (a0, (0 : Int))) (fun y8 => some y8)
/- (meniscus/bore.heights).agree -/
def sf69 (N : Nat) (a0 : (List Int)) (a1_0 : Int) (a1_1 : Int) (a1_2 : Int) (a1_3 : Int) : Option Bool :=
  (ix a0 a1_1 fun x4 => (ix a0 a1_0 fun x5 => (ck (rng (x4 - x5)) ((bnd (sf87 N a1_2 ([(x4 - x5)])) fun v9 => (ck (rng (a1_1 + (1 : Int))) ((bif (decide ((a1_1 + (1 : Int)) < ((a0).length : Int))) then (ck (rng (a1_1 + (1 : Int))) ((ix a0 (a1_1 + (1 : Int)) fun x15 => (ix a0 a1_0 fun x16 => (ck (rng (x15 - x16)) ((ck (rng ((x15 - x16) - (1 : Int))) ((bnd (sf88 N a1_3 ([((x15 - x16) - (1 : Int))])) fun v24 => some (decide (v9 ≤ v24))))))))))) else some (decide (v9 ≤ a1_3))))))))))
/- meniscus/lists.All[meniscus/bore.Reading] -/
def sf68_2_L1 (N : Nat) (a0 : (List (Int × Int × Int × Int))) (a1f0 : (List Int)) (x1 : Int) : Option (Int ⊕ (Unit ⊕ Unit)) :=
  (bif (decide (x1 < ((a0).length : Int))) then (ix a0 x1 fun x20 => (bnd (sf69 N a1f0 x20.1 x20.2.1 x20.2.2.1 x20.2.2.2) fun v25 => (bif (!v25) then some (.inr (.inl ())) else (ck (rng (x1 + (1 : Int))) (some (.inl (x1 + (1 : Int)))))))) else some (.inr (.inr ())))
def sf68_2 (N : Nat) (a0 : (List (Int × Int × Int × Int))) (a1f0 : (List Int)) : Option Bool :=
  bnd (iter (sf68_2_L1 N a0 a1f0) N (0 : Int)) (sel (fun w15 => some false) (fun w17 => some true))
/- meniscus/bore.ProveTruth -/
def sf22 (N : Nat) (a0_0 : Int) (a0_1 : Int) (a0_2 : Int) (a0_3 : Int) (a1 : (List (Int × Int × Int × Int))) (a2 : (List Int)) : Option Bool :=
  bnd (bnd ((bnd (sf64 N a0_0 a0_1 a0_2 a0_3 a1) fun v44 => (bif (!(decide (v44 = (0 : Int)))) then some true else (bif (!(decide (((a2).length : Int) = a0_0))) then some true else (bnd (sf65 N a2 a0_2 a0_3) fun v49 => some (!v49))))) : Option (Bool)) (fun y40 => (bif y40 then some (.inl ()) else some (.inr ()))) : Option (Unit ⊕ Unit)) (sel (fun w28 => some false) (fun w30 => (bnd (sf67 N a2) fun v53 => (ix v53 a0_0 fun x58 => (bif (decide (x58 = a0_1)) then (bnd (sf68_2 N a1 v53) fun v61 => some v61) else some false)))))
/- meniscus/meniscusref01.In -/
def sf37 (N : Nat) (a0 : Int) (a1 : Int) (a2 : Int) : Option Bool :=
  (bif (decide (a1 ≤ a0)) then some (decide (a0 ≤ a2)) else some false)
/- meniscus/meniscusref01.Span -/
def sf48 (N : Nat) (a0_0 : Int) (a0_1 : Int) (a1 : Int) (a2 : Int) : Option Bool :=
  (bnd (sf37 N a0_0 a1 a0_1) fun v4 => (bif v4 then some (decide (a0_1 ≤ a2)) else some false))
/- meniscus/meniscusref01.IsTube -/
def sf25 (N : Nat) (a0_0 : Int) (a0_1 : Int) (a0_2 : Int) (a0_3 : Int) : Option Bool :=
  (bnd (sf37 N a0_0 (1 : Int) (10 : Int)) fun v4 => (bif v4 then (bnd (sf48 N a0_2 a0_3 (1 : Int) (200 : Int)) fun v8 => (bif v8 then (bnd (sf37 N a0_1 (1 : Int) (2000 : Int)) fun v12 => (bif v12 then (ck (rng (a0_0 * a0_2)) ((ck (rng (a0_0 * a0_3)) ((bnd (sf37 N a0_1 (a0_0 * a0_2) (a0_0 * a0_3)) fun v18 => some v18))))) else some false)) else some false)) else some false))
/- meniscus/meniscusref01.Fault -/
def sf70_L1 (N : Nat) (a0_0 : Int) (a1 : (List (Int × Int × Int × Int))) (x9 : Int) : Option (Int ⊕ (Int ⊕ Unit)) :=
  (bif (decide (x9 < ((a1).length : Int))) then (ix a1 x9 fun x54 => bnd ((ck (rng (a0_0 - (1 : Int))) ((bnd (sf37 N x54.1 (0 : Int) (a0_0 - (1 : Int))) fun v76 => (bif (!v76) then some true else (bnd (sf37 N x54.2.1 x54.1 a0_0) fun v80 => (bif (!v80) then some true else (bnd (sf48 N x54.2.2.1 x54.2.2.2 (0 : Int) (2000 : Int)) fun v84 => some (!v84)))))))) : Option (Bool)) (fun y71 => (bif y71 then some (.inr (.inl (2 : Int))) else (ck (rng (x9 + (1 : Int))) (some (.inl (x9 + (1 : Int)))))))) else some (.inr (.inr ())))
def sf70 (N : Nat) (a0_0 : Int) (a0_1 : Int) (a0_2 : Int) (a0_3 : Int) (a1 : (List (Int × Int × Int × Int))) : Option Int :=
  (bnd (sf25 N a0_0 a0_1 a0_2 a0_3) fun v4 => (bif (!v4) then some (1 : Int) else (bif (decide ((12 : Int) < ((a1).length : Int))) then some (3 : Int) else bnd (iter (sf70_L1 N a0_0 a1) N (0 : Int)) (sel (fun w49 => some w49) (fun w51 => some (0 : Int))))))
/- meniscus/meniscuslaw01.fault -/
def sf26 (N : Nat) (a0_0 : Int) (a0_1 : Int) (a0_2 : Int) (a0_3 : Int) (a1 : (List (Int × Int × Int × Int))) : Option Int :=
  (bnd (sf70 N a0_0 a0_1 a0_2 a0_3 a1) fun v4 => some v4)
/- meniscus/meniscusref01.Height -/
def sf38_L1 (a0 : (List Int)) (a1 : Int) (x1 : (Int × Int)) : Option ((Int × Int) ⊕ Int) :=
  (bif (decide (x1.2 < a1)) then (ix a0 x1.2 fun x10 => (ck (rng (x1.1 + x10)) ((ck (rng (x1.2 + (1 : Int))) (some (.inl ((x1.1 + x10), (x1.2 + (1 : Int))))))))) else some (.inr x1.1))
def sf38 (N : Nat) (a0 : (List Int)) (a1 : Int) : Option Int :=
  bnd (iter (sf38_L1 a0 a1) N ((0 : Int), (0 : Int))) (fun y7 => some y7)
/- meniscus/meniscusref01.Right -/
def sf71 (N : Nat) (a0_0 : Int) (a0_1 : Int) (a0_2 : Int) (a0_3 : Int) (a1_0 : Int) (a1_1 : Int) (a1_2 : Int) (a1_3 : Int) (a2 : (List Int)) : Option Bool :=
  (bnd (sf38 N a2 a1_0) fun v7 => (bnd (sf38 N a2 a1_1) fun v10 => (ck (rng (v10 - v7)) ((bif (decide (a1_1 < a0_0)) then (ck (rng (a1_1 + (1 : Int))) ((bnd (sf38 N a2 (a1_1 + (1 : Int))) fun v17 => (ck (rng (v17 - v7)) ((ck (rng ((v17 - v7) - (1 : Int))) (some (decide ((max a1_2 (v10 - v7)) ≤ (min a1_3 ((v17 - v7) - (1 : Int)))))))))))) else some (decide ((max a1_2 (v10 - v7)) ≤ a1_3)))))))
/- meniscus/meniscusref01.IsTruth -/
def sf27_L1 (N : Nat) (a0_2 : Int) (a0_3 : Int) (a2 : (List Int)) (x5 : Int) : Option (Int ⊕ (Unit ⊕ Unit)) :=
  (bif (decide (x5 < ((a2).length : Int))) then (ix a2 x5 fun x21 => (bnd (sf37 N x21 a0_2 a0_3) fun v23 => (bif (!v23) then some (.inr (.inl ())) else (ck (rng (x5 + (1 : Int))) (some (.inl (x5 + (1 : Int)))))))) else some (.inr (.inr ())))
def sf27_L2 (N : Nat) (a0_0 : Int) (a0_1 : Int) (a0_2 : Int) (a0_3 : Int) (a1 : (List (Int × Int × Int × Int))) (a2 : (List Int)) (x32 : Int) : Option (Int ⊕ (Unit ⊕ Unit)) :=
  (bif (decide (x32 < ((a1).length : Int))) then (ix a1 x32 fun x49 => (bnd (sf71 N a0_0 a0_1 a0_2 a0_3 x49.1 x49.2.1 x49.2.2.1 x49.2.2.2 a2) fun v51 => (bif (!v51) then some (.inr (.inl ())) else (ck (rng (x32 + (1 : Int))) (some (.inl (x32 + (1 : Int)))))))) else some (.inr (.inr ())))
def sf27 (N : Nat) (a0_0 : Int) (a0_1 : Int) (a0_2 : Int) (a0_3 : Int) (a1 : (List (Int × Int × Int × Int))) (a2 : (List Int)) : Option Bool :=
  (bif (!(decide (((a2).length : Int) = a0_0))) then some false else bnd (iter (sf27_L1 N a0_2 a0_3 a2) N (0 : Int)) (sel (fun w16 => some false) (fun w18 => bnd (iter (sf27_L2 N a0_0 a0_1 a0_2 a0_3 a1 a2) N (0 : Int)) (sel (fun w44 => some false) (fun w46 => (bnd (sf38 N a2 a0_0) fun v62 => some (decide (v62 = a0_1))))))))
/- meniscus/meniscuslaw01.BoreProves -/
def sf3 (N : Nat) (a0_0 : Int) (a0_1 : Int) (a0_2 : Int) (a0_3 : Int) (a1 : (List (Int × Int × Int × Int))) (a2 : (List Int)) : Option Bool :=
  bnd (bnd ((bif (decide ((15 : Int) < ((a1).length : Int))) then some true else some (decide ((15 : Int) < ((a2).length : Int)))) : Option (Bool)) (fun y20 => (bif y20 then some (.inl true) else some (.inr ()))) : Option (Bool ⊕ Unit)) (sel (fun w15 => some w15) (fun w17 => (bnd (sf21 N a0_0 a0_1 a0_2 a0_3) fun v27 => (bnd (sf20 N v27.1 v27.2.1 v27.2.2.1 v27.2.2.2) fun v30 => (bnd (sf21 N a0_0 a0_1 a0_2 a0_3) fun v33 => (bnd (sf23 N a1) fun v36 => (bnd (sf24 N a2) fun v41 => (bnd (sf22 N v33.1 v33.2.1 v33.2.2.1 v33.2.2.2 v36 v41) fun v47 => bnd ((bnd (sf25 N a0_0 a0_1 a0_2 a0_3) fun v58 => (bif (!v58) then some (1 : Int) else some (0 : Int))) : Option (Int)) (fun y54 => (bif (decide (v30 = y54)) then (bnd (sf26 N a0_0 a0_1 a0_2 a0_3 a1) fun v66 => (bif (decide (v66 = (0 : Int))) then (bnd (sf27 N a0_0 a0_1 a0_2 a0_3 a1 a2) fun v70 => (bif (v47 == v70) then some true else some false)) else (bif (v47 == false) then some true else some false))) else some false))))))))))
end Go.Hx.V

/- Functions of the program come to that. -/
namespace Go.Hx.V
open Go.Hx
set_option linter.unusedVariables false
set_option maxRecDepth 20000
set_option maxHeartbeats 4000000
attribute [local irreducible] W R C thenH inBlockH Tr.get Tr.set lo ck bnd ix iter
theorem ct35 (N : Nat) {a0_0 : Int} {a0_1 : Int} {r : (Int × Int)} (hF : sf35 N a0_0 a0_1 = some r) {fl : Nat} {h0 : Tr HBlk} {n0 : Nat} {F0 : PH} (hd : D h0 n0) (hs : F0.sub h0) : C LW fl 35 [(.agg [(i64 a0_0), (i64 a0_1)])] ⟨h0, n0⟩ (KS (.agg [(i64 r.1), (i64 r.2)]) n0 h0) := by
  unfold sf35 at hF
  refine in_cT hd hs lw35 rfl rfl (by rfl) (fun st T hT => ?_)
  have hfl : n0 ≤ n0 := Nat.le_refl n0
  have t0 := hT 0 _ rfl
  dsimp only [L35]
  refine w_seq ?_; refine w_reg ?_; refine v_box st (fun b1 h2 n3 st => ?_); refine v_alloc st (fun b4 h5 n6 st => ?_); refine r_nil ?_; refine th_n ?_; refine w_seq ?_; refine w_reg ?_; refine v_fa ?_; refine v_ld1 (st.at (i := 0) rfl).2.2 rfl ?_; refine v_fa ?_; refine v_ld1 (st.at (i := 0) rfl).2.2 rfl ?_; refine v_build (cs := [(i64 a0_0), (i64 a0_1)]) rfl ?_; refine v_st (cs' := [(i64 a0_0), (i64 a0_1)]) st 1 rfl rfl rfl rfl hfl (fun h7 st => ?_); refine r_nil ?_; refine th_n ?_; refine w_ret ?_; obtain rfl := inj hF
  exact end_s st (Res.c gA (st.at (i := 1) rfl).2.2 (show takeN _ _ = some [(i64 a0_0), (i64 a0_1)] from rfl) Res.nil) rfl rfl
theorem ct83 (N : Nat) {a0_0 : Int} {a0_1 : Int} {a1 : Int} {a2 : Int} {r : Bool} (hF : sf83 N a0_0 a0_1 a1 a2 = some r) {fl : Nat} {h0 : Tr HBlk} {n0 : Nat} {F0 : PH} (hd : D h0 n0) (hs : F0.sub h0) : C LW fl 83 [(.agg [(i64 a0_0), (i64 a0_1)]), (i64 a1), (i64 a2)] ⟨h0, n0⟩ (KS (.bool r) n0 h0) := by
  unfold sf83 at hF
  refine in_cT hd hs lw83 rfl rfl (by rfl) (fun st T hT => ?_)
  have hfl : n0 ≤ n0 := Nat.le_refl n0
  have t0 := hT 0 _ rfl
  have t1 := hT 1 _ rfl
  have t2 := hT 2 _ rfl
  dsimp only [L83]
  refine w_seq ?_; refine w_reg ?_; refine v_box st (fun b1 h2 n3 st => ?_); refine v_move ?_; refine r_nil ?_; refine th_n ?_; refine w_seq ?_; refine w_reg ?_; refine v_move ?_; refine v_fa ?_; refine v_ld1 (st.at (i := 0) rfl).2.2 rfl ?_; refine v_leq ?_; refine v_move ?_
  rcases Bool.eq_false_or_eq_true (decide (a1 ≤ a0_0)) with hb4 | hb4
  · have hF := bif_t hb4 hF; refine g_take hb4 (v_fa ?_); refine g_take hb4 (v_ld1 (st.at (i := 0) rfl).2.2 rfl ?_); refine g_take hb4 (v_fa ?_); refine g_take hb4 (v_ld1 (st.at (i := 0) rfl).2.2 rfl ?_); refine g_take hb4 (v_leq ?_); refine v_pick hb4 ?_; refine v_move ?_
    rcases Bool.eq_false_or_eq_true (decide (a0_0 ≤ a0_1)) with hb5 | hb5
    · have hF := bif_t hb5 hF; refine g_take hb5 (v_fa ?_); refine g_take hb5 (v_ld1 (st.at (i := 0) rfl).2.2 rfl ?_); refine g_take hb5 (v_move ?_); refine g_take hb5 (v_leq ?_); refine v_pick hb5 ?_; refine v_move ?_; refine r_nil ?_; refine th_n ?_; refine w_ret ?_; obtain rfl := inj hF
      exact end_s st (Res.t gA Res.nil) rfl rfl
    · have hF := bif_f hb5 hF; refine g_skip hb5 ?_; refine g_skip hb5 ?_; refine g_skip hb5 ?_; refine g_skip hb5 ?_; refine v_pick' hb5 ?_; refine v_move ?_; refine r_nil ?_; refine th_n ?_; refine w_ret ?_; obtain rfl := inj hF
      exact end_s st (Res.t gA Res.nil) rfl rfl
  · have hF := bif_f hb4 hF; refine g_skip hb4 ?_; refine g_skip hb4 ?_; refine g_skip hb4 ?_; refine g_skip hb4 ?_; refine g_skip hb4 ?_; refine v_pick' hb4 ?_; refine v_move ?_; refine g_skip rfl ?_; refine g_skip rfl ?_; refine g_skip rfl ?_; refine g_skip rfl ?_; refine v_pick' rfl ?_; refine v_move ?_; refine r_nil ?_; refine th_n ?_; refine w_ret ?_; obtain rfl := inj hF
    exact end_s st (Res.t gA Res.nil) rfl rfl
theorem ct66 (N : Nat) {a0_0 : Int} {a0_1 : Int} {a1 : Int} {r : Bool} (hF : sf66 N a0_0 a0_1 a1 = some r) {fl : Nat} {h0 : Tr HBlk} {n0 : Nat} {F0 : PH} (hd : D h0 n0) (hs : F0.sub h0) : C LW fl 66 [(.agg [(i64 a0_0), (i64 a0_1)]), (i64 a1)] ⟨h0, n0⟩ (KS (.bool r) n0 h0) := by
  unfold sf66 at hF
  refine in_cT hd hs lw66 rfl rfl (by rfl) (fun st T hT => ?_)
  have hfl : n0 ≤ n0 := Nat.le_refl n0
  have t0 := hT 0 _ rfl
  have t1 := hT 1 _ rfl
  dsimp only [L66]
  refine w_seq ?_; refine w_reg ?_; refine v_box st (fun b1 h2 n3 st => ?_); refine v_move ?_; refine r_nil ?_; refine th_n ?_; refine w_seq ?_; refine w_reg ?_; refine v_fa ?_; refine v_ld1 (st.at (i := 0) rfl).2.2 rfl ?_; refine v_move ?_; refine v_leq ?_; refine v_move ?_
  rcases Bool.eq_false_or_eq_true (decide (a0_0 ≤ a1)) with hb4 | hb4
  · have hF := bif_t hb4 hF; refine g_take hb4 (v_move ?_); refine g_take hb4 (v_fa ?_); refine g_take hb4 (v_ld1 (st.at (i := 0) rfl).2.2 rfl ?_); refine g_take hb4 (v_leq ?_); refine v_pick hb4 ?_; refine v_move ?_; refine r_nil ?_; refine th_n ?_; refine w_ret ?_; obtain rfl := inj hF
    exact end_s st (Res.t gA Res.nil) rfl rfl
  · have hF := bif_f hb4 hF; refine g_skip hb4 ?_; refine g_skip hb4 ?_; refine g_skip hb4 ?_; refine g_skip hb4 ?_; refine v_pick' hb4 ?_; refine v_move ?_; refine r_nil ?_; refine th_n ?_; refine w_ret ?_; obtain rfl := inj hF
    exact end_s st (Res.t gA Res.nil) rfl rfl
theorem ct24 (N : Nat) {a0 : (List Int)} {r : (List Int)} (hF : sf24 N a0 = some r) {fl : Nat} {h0 : Tr HBlk} {n0 : Nat} {F0 : PH} (hd : D h0 n0) (hs : F0.sub h0) (hfl : fl ≤ n0) {pa0 : Option (Nat × Nat)} {ca0 : Nat} (ra0 : RowF rI 1 F0 pa0 ca0 a0) : C LW fl 24 [(.slice pa0 (a0).length ca0)] ⟨h0, n0⟩ (KR (lvL rI 1) F0 h0 n0 r) := by
  unfold sf24 at hF
  refine in_mT hd hs hfl lw24 rfl rfl (by rfl) (fun st T hT => ?_)
  have t0 := hT 0 _ rfl
  dsimp only [L24]
  refine w_seq ?_; refine w_reg ?_; refine v_move ?_; refine r_nil ?_; refine th_n ?_; refine w_seq ?_; refine w_reg ?_; refine v_bs (cs := []) st rfl (fun b1 h2 n3 st => ?_); refine v_move ?_
  have st := St.asL st 0 rfl (n := 0) (sz := 1) rfl
  have w4 : LR rI 1 F0 ([] : List Int) [] := LR.nil
  obtain ⟨q5, hF⟩ := ck_some hF
  refine v_apr (m := (([] : List Int) ++ a0).length) st 0 rfl w4 ra0 q5 hfl (by decide) (by simp) (fun o5 c5 cs5 h5 n5 st w5 => ?_)
  refine v_move ?_; refine r_nil ?_; refine th_n ?_; refine w_ret ?_; obtain rfl := inj hF
  obtain ⟨F6, le6, st, rf6⟩ := St.freeze st 0 rfl w5 (by decide)
  exact end_r st (Res.t gA Res.nil) ⟨_, _, rfl, rf6⟩
theorem ct67 (N : Nat) {a0 : (List Int)} {r : (List Int)} (hF : sf67 N a0 = some r) {fl : Nat} {h0 : Tr HBlk} {n0 : Nat} {F0 : PH} (hd : D h0 n0) (hs : F0.sub h0) (hfl : fl ≤ n0) {pa0 : Option (Nat × Nat)} {ca0 : Nat} (ra0 : RowF rI 1 F0 pa0 ca0 a0) : C LW fl 67 [(.slice pa0 (a0).length ca0)] ⟨h0, n0⟩ (KR (lvL rI 1) F0 h0 n0 r) := by
  unfold sf67 at hF
  refine in_mT hd hs hfl lw67 rfl rfl (by rfl) (fun st T hT => ?_)
  have t0 := hT 0 _ rfl
  dsimp only [L67]
  refine w_seq ?_; refine w_reg ?_; refine v_move ?_; refine r_nil ?_; refine th_n ?_; refine w_seq ?_; refine w_reg ?_; refine v_move ?_; refine v_len ?_; obtain ⟨q1, hF⟩ := ck_some hF; refine v_add q1 ?_; obtain ⟨q2, hF⟩ := ck_some hF
  have w2 : LR rI 1 F0 (List.replicate (Int.toNat (0 : Int)) 0) (Go.Hx.repl (Int.toNat (0 : Int)) [(i64 (0 : Int))]) := LR.repl (rfl) _
  refine v_mk st (n := (List.replicate (Int.toNat (0 : Int)) 0).length) q2.1 q2.2.1 (by simp) q2.2.2.1 q2.2.2.2 (fun o2 h2 n2 st => ?_)
  refine v_move ?_; refine r_nil ?_; refine th_n ?_; refine w_seq ?_; refine w_reg ?_; refine v_move ?_; refine r_nil ?_; refine th_n ?_; refine w_seq ?_; refine w_reg ?_; refine v_move ?_; refine v_move ?_; refine v_bs (cs := [(i64 (0 : Int))]) st rfl (fun b3 h4 n5 st => ?_); obtain ⟨q6, hF⟩ := ck_some hF
  have w6 : LR rI 1 F0 ((List.replicate (Int.toNat (0 : Int)) 0) ++ [(0 : Int)]) ((Go.Hx.repl (Int.toNat (0 : Int)) [(i64 (0 : Int))]) ++ [(i64 (0 : Int))]) := LR.app w2 (LR.one (rfl))
  refine v_aps (n := 1) (ox := 0) (m := ((List.replicate (Int.toNat (0 : Int)) 0) ++ [(0 : Int)]).length) (row := [(i64 (0 : Int))]) st 0 rfl w2.1 (st.at (i := 1) rfl).2.2 rfl rfl q6 hfl (by decide) (by decide) (by simp) (fun o6 c6 h6 n6 st => ?_)
  refine v_move ?_; refine r_nil ?_; refine th_n ?_; refine w_seq ?_; refine w_seq ?_; refine w_reg ?_; refine v_move ?_; refine v_len ?_; refine v_move ?_; refine r_nil ?_; refine th_n ?_; refine w_block ?_; obtain ⟨y18, hy, hF⟩ := bnd_some hF; refine v_loopD (sf67_L1 a0) (fun x7 T ds8 h nx => ∃ (F8 : PH) (o9 : Option Nat) (c9 : Nat) (cs9 : List HV), ds8 = [] ∧ PH.le F0 F8 ∧ St n0 h0 F0 F8 h nx [.ls o9 c9 cs9 1, .bx b3 [(i64 (0 : Int))]] ∧ LR rI 1 F8 x7.1 cs9 ∧ T.get 3 = some (slv o9 (x7.1).length c9) ∧ T.get 4 = some (i64 x7.2.1) ∧ T.get 15 = some (.slice pa0 (a0).length ca0) ∧ T.get 16 = some (i64 ((a0).length : Int)) ∧ T.get 17 = some (i64 x7.2.2)) (fun y e a σ => e = .exit 0 ∧ a.nt = 30 ∧ ∃ (F19 : PH) (o20 : Option Nat) (c20 : Nat) (cs20 : List HV), a.defers = [] ∧ PH.le F0 F19 ∧ St n0 h0 F0 F19 σ.h σ.nx [.ls o20 c20 cs20 1, .bx b3 [(i64 (0 : Int))]] ∧ LR rI 1 F19 y cs20 ∧ a.tmps.get 3 = some (slv o20 (y).length c20)) (fun x7 T ds8 h nx s hp hF => ?_) N _ y18 _ _ _ _ hy ⟨F0, o6, c6, ((Go.Hx.repl (Int.toNat (0 : Int)) [(i64 (0 : Int))]) ++ [(i64 (0 : Int))]), rfl, (PH.le.refl _), st, w6, gA, gA, gA, gA, gA⟩ (fun e a σ hne hq => ?_)
  · obtain ⟨F8, o9, c9, cs9, rfl, le8, st, w9, t3, t4, t15, t16, t17⟩ := hp; unfold sf67_L1 at hF; unfold L67w0; refine w_seq ?_; refine w_reg ?_; refine v_lss ?_; refine r_nil ?_; refine th_n ?_; refine w_seq ?_; refine v_cond (fun hb21 => ?_) (fun hb21 => ?_)
    · have hF := bif_t hb21 hF; refine w_skip ?_; refine th_n ?_; refine w_seq ?_; refine w_block ?_; refine w_seq ?_; refine w_reg ?_; obtain ⟨n22, x22, z22, l22, g22, hF⟩ := ix_some hF; obtain ⟨b22, o22, s22, j22, r22, e22, f22, k22, rfl⟩ := RowF.get ra0 g22; refine v_ixp e22 z22 l22 ?_; refine v_ld1 (st.sub _ _ (le8 _ _ f22)) (take_at (j := 0) k22 rfl) ?_; refine v_move ?_; refine r_nil ?_; refine th_n ?_; refine w_seq ?_; refine w_reg ?_; refine v_move ?_; refine v_move ?_; obtain ⟨q23, hF⟩ := ck_some hF; refine v_add q23 ?_; refine v_move ?_; refine r_nil ?_; refine th_n ?_; refine w_reg ?_; refine v_move ?_; refine v_move ?_; refine v_bs (cs := [(i64 (x7.2.1 + x22))]) st rfl (fun b24 h25 n26 st => ?_)
      obtain ⟨q27, hF⟩ := ck_some hF
      have w27 : LR rI 1 F8 (x7.1 ++ [(x7.2.1 + x22)]) (cs9 ++ [(i64 (x7.2.1 + x22))]) := LR.app w9 (LR.one (rfl))
      refine v_aps (n := 1) (ox := 0) (m := (x7.1 ++ [(x7.2.1 + x22)]).length) (row := [(i64 (x7.2.1 + x22))]) st 0 rfl w9.1 (st.at (i := 2) rfl).2.2 rfl rfl q27 hfl (by decide) (by decide) (by simp) (fun o27 c27 h27 n27 st => ?_)
      refine v_move ?_; refine r_nil ?_; refine ib_n ?_; refine th_n ?_; refine w_reg ?_; obtain ⟨q28, hF⟩ := ck_some hF; refine v_add q28 ?_; refine v_move ?_; refine r_nil ?_; refine thn ⟨_, (inj hF).symm, rfl, ?_⟩; dsimp only
      exact ⟨F8, o27, c27, (cs9 ++ [(i64 (x7.2.1 + x22))]), rfl, le8, (st.drop (by first | exact List.Sublist.refl _ | (repeat first | exact List.nil_sublist _ | refine List.Sublist.cons_cons _ ?_ | refine List.Sublist.cons _ ?_))), w27, gA, gA, gA, gA, gA⟩
    · have hF := bif_f hb21 hF; refine w_exit ?_; refine th_e ?_; refine th_e ?_; refine ⟨_, (inj hF).symm, rfl, rfl, ?_⟩; dsimp only
      exact ⟨F8, o9, c9, cs9, rfl, le8, st, w9, gA⟩
  · obtain ⟨N9, T, ds19⟩ := a; obtain ⟨h29, n30⟩ := σ; obtain ⟨rfl, e1, F19, o20, c20, cs20, e2, le19, st, w20, t3⟩ := hq
    dsimp only at e1 e2
    subst e1
    subst e2
    dsimp only at st t3
    refine ib_e ?_; refine th_n ?_; refine w_seq ?_; refine w_reg ?_; refine v_move ?_; refine v_move ?_; refine r_nil ?_; refine th_n ?_; refine w_ret ?_; obtain rfl := inj hF
    obtain ⟨F31, le31, st, rf31⟩ := St.freeze st 0 rfl w20 (by decide)
    have le32 := PH.le.trans le19 le31
    exact end_r st (Res.t gA Res.nil) ⟨_, _, rfl, rf31⟩
theorem ct87 (N : Nat) {a0 : Int} {a1 : (List Int)} {r : Int} (hF : sf87 N a0 a1 = some r) {fl : Nat} {h0 : Tr HBlk} {n0 : Nat} {F0 : PH} (hd : D h0 n0) (hs : F0.sub h0) {pa1 : Option (Nat × Nat)} {ca1 : Nat} (ra1 : RowF rI 1 F0 pa1 ca1 a1) : C LW fl 87 [(i64 a0), (.slice pa1 (a1).length ca1)] ⟨h0, n0⟩ (KS (i64 r) n0 h0) := by
  unfold sf87 at hF
  refine in_cT hd hs lw87 rfl rfl (by rfl) (fun st T hT => ?_)
  have hfl : n0 ≤ n0 := Nat.le_refl n0
  have t0 := hT 0 _ rfl
  have t1 := hT 1 _ rfl
  dsimp only [L87]
  refine w_seq ?_; refine w_reg ?_; refine v_move ?_; refine r_nil ?_; refine th_n ?_; refine w_seq ?_; refine w_seq ?_; refine w_reg ?_; refine v_move ?_; refine v_len ?_; refine v_move ?_; refine r_nil ?_; refine th_n ?_; refine w_block ?_; obtain ⟨y8, hy, hF⟩ := bnd_some hF; refine v_loopD (sf87_L1 a1) (fun x1 T ds2 h nx => ∃ (F2 : PH), ds2 = [] ∧ PH.le F0 F2 ∧ St n0 h0 F0 F2 h nx [] ∧ T.get 0 = some (i64 x1.1) ∧ T.get 7 = some (.slice pa1 (a1).length ca1) ∧ T.get 8 = some (i64 ((a1).length : Int)) ∧ T.get 9 = some (i64 x1.2)) (fun y e a σ => e = .exit 0 ∧ a.nt = 19 ∧ ∃ (F9 : PH), a.defers = [] ∧ PH.le F0 F9 ∧ St n0 h0 F0 F9 σ.h σ.nx [] ∧ a.tmps.get 0 = some (i64 y)) (fun x1 T ds2 h nx s hp hF => ?_) N _ y8 _ _ _ _ hy ⟨F0, rfl, (PH.le.refl _), st, gA, gA, gA, gA⟩ (fun e a σ hne hq => ?_)
  · obtain ⟨F2, rfl, le2, st, t0, t7, t8, t9⟩ := hp; unfold sf87_L1 at hF; unfold L87w0; refine w_seq ?_; refine w_reg ?_; refine v_lss ?_; refine r_nil ?_; refine th_n ?_; refine w_seq ?_; refine v_cond (fun hb10 => ?_) (fun hb10 => ?_)
    · have hF := bif_t hb10 hF; refine w_skip ?_; refine th_n ?_; refine w_seq ?_; refine w_block ?_; refine w_seq ?_; refine w_reg ?_; obtain ⟨n11, x11, z11, l11, g11, hF⟩ := ix_some hF; obtain ⟨b11, o11, s11, j11, r11, e11, f11, k11, rfl⟩ := RowF.get ra1 g11; refine v_ixp e11 z11 l11 ?_; refine v_ld1 (st.sub _ _ (le2 _ _ f11)) (take_at (j := 0) k11 rfl) ?_; refine v_move ?_; refine r_nil ?_; refine th_n ?_; refine w_seq ?_; refine w_reg ?_; refine v_move ?_; refine v_move ?_; refine v_gtr ?_; refine r_nil ?_; refine th_n ?_; refine v_cond (fun hb12 => ?_) (fun hb12 => ?_)
      · have hF := bif_t hb12 hF; refine w_reg ?_; refine v_move ?_; refine v_move ?_; refine r_nil ?_; refine ib_n ?_; refine th_n ?_; refine w_reg ?_; obtain ⟨q13, hF⟩ := ck_some hF; refine v_add q13 ?_; refine v_move ?_; refine r_nil ?_; refine thn ⟨_, (inj hF).symm, rfl, ?_⟩; dsimp only
        exact ⟨F2, rfl, le2, st, gA, gA, gA, gA⟩
      · have hF := bif_f hb12 hF; refine w_skip ?_; refine ib_n ?_; refine th_n ?_; refine w_reg ?_; obtain ⟨q14, hF⟩ := ck_some hF; refine v_add q14 ?_; refine v_move ?_; refine r_nil ?_; refine thn ⟨_, (inj hF).symm, rfl, ?_⟩; dsimp only
        exact ⟨F2, rfl, le2, st, gA, gA, gA, gA⟩
    · have hF := bif_f hb10 hF; refine w_exit ?_; refine th_e ?_; refine th_e ?_; refine ⟨_, (inj hF).symm, rfl, rfl, ?_⟩; dsimp only
      exact ⟨F2, rfl, le2, st, gA⟩
  · obtain ⟨N9, T, ds9⟩ := a; obtain ⟨h15, n16⟩ := σ; obtain ⟨rfl, e1, F9, e2, le9, st, t0⟩ := hq
    dsimp only at e1 e2
    subst e1
    subst e2
    dsimp only at st t0
    refine ib_e ?_; refine th_n ?_; refine w_seq ?_; refine w_reg ?_; refine v_move ?_; refine v_move ?_; refine r_nil ?_; refine th_n ?_; refine w_ret ?_; obtain rfl := inj hF
    exact end_s st (Res.t gA Res.nil) rfl rfl
theorem ct88 (N : Nat) {a0 : Int} {a1 : (List Int)} {r : Int} (hF : sf88 N a0 a1 = some r) {fl : Nat} {h0 : Tr HBlk} {n0 : Nat} {F0 : PH} (hd : D h0 n0) (hs : F0.sub h0) {pa1 : Option (Nat × Nat)} {ca1 : Nat} (ra1 : RowF rI 1 F0 pa1 ca1 a1) : C LW fl 88 [(i64 a0), (.slice pa1 (a1).length ca1)] ⟨h0, n0⟩ (KS (i64 r) n0 h0) := by
  unfold sf88 at hF
  refine in_cT hd hs lw88 rfl rfl (by rfl) (fun st T hT => ?_)
  have hfl : n0 ≤ n0 := Nat.le_refl n0
  have t0 := hT 0 _ rfl
  have t1 := hT 1 _ rfl
  dsimp only [L88]
  refine w_seq ?_; refine w_reg ?_; refine v_move ?_; refine r_nil ?_; refine th_n ?_; refine w_seq ?_; refine w_seq ?_; refine w_reg ?_; refine v_move ?_; refine v_len ?_; refine v_move ?_; refine r_nil ?_; refine th_n ?_; refine w_block ?_; obtain ⟨y8, hy, hF⟩ := bnd_some hF; refine v_loopD (sf88_L1 a1) (fun x1 T ds2 h nx => ∃ (F2 : PH), ds2 = [] ∧ PH.le F0 F2 ∧ St n0 h0 F0 F2 h nx [] ∧ T.get 0 = some (i64 x1.1) ∧ T.get 7 = some (.slice pa1 (a1).length ca1) ∧ T.get 8 = some (i64 ((a1).length : Int)) ∧ T.get 9 = some (i64 x1.2)) (fun y e a σ => e = .exit 0 ∧ a.nt = 19 ∧ ∃ (F9 : PH), a.defers = [] ∧ PH.le F0 F9 ∧ St n0 h0 F0 F9 σ.h σ.nx [] ∧ a.tmps.get 0 = some (i64 y)) (fun x1 T ds2 h nx s hp hF => ?_) N _ y8 _ _ _ _ hy ⟨F0, rfl, (PH.le.refl _), st, gA, gA, gA, gA⟩ (fun e a σ hne hq => ?_)
  · obtain ⟨F2, rfl, le2, st, t0, t7, t8, t9⟩ := hp; unfold sf88_L1 at hF; unfold L88w0; refine w_seq ?_; refine w_reg ?_; refine v_lss ?_; refine r_nil ?_; refine th_n ?_; refine w_seq ?_; refine v_cond (fun hb10 => ?_) (fun hb10 => ?_)
    · have hF := bif_t hb10 hF; refine w_skip ?_; refine th_n ?_; refine w_seq ?_; refine w_block ?_; refine w_seq ?_; refine w_reg ?_; obtain ⟨n11, x11, z11, l11, g11, hF⟩ := ix_some hF; obtain ⟨b11, o11, s11, j11, r11, e11, f11, k11, rfl⟩ := RowF.get ra1 g11; refine v_ixp e11 z11 l11 ?_; refine v_ld1 (st.sub _ _ (le2 _ _ f11)) (take_at (j := 0) k11 rfl) ?_; refine v_move ?_; refine r_nil ?_; refine th_n ?_; refine w_seq ?_; refine w_reg ?_; refine v_move ?_; refine v_move ?_; refine v_lss ?_; refine r_nil ?_; refine th_n ?_; refine v_cond (fun hb12 => ?_) (fun hb12 => ?_)
      · have hF := bif_t hb12 hF; refine w_reg ?_; refine v_move ?_; refine v_move ?_; refine r_nil ?_; refine ib_n ?_; refine th_n ?_; refine w_reg ?_; obtain ⟨q13, hF⟩ := ck_some hF; refine v_add q13 ?_; refine v_move ?_; refine r_nil ?_; refine thn ⟨_, (inj hF).symm, rfl, ?_⟩; dsimp only
        exact ⟨F2, rfl, le2, st, gA, gA, gA, gA⟩
      · have hF := bif_f hb12 hF; refine w_skip ?_; refine ib_n ?_; refine th_n ?_; refine w_reg ?_; obtain ⟨q14, hF⟩ := ck_some hF; refine v_add q14 ?_; refine v_move ?_; refine r_nil ?_; refine thn ⟨_, (inj hF).symm, rfl, ?_⟩; dsimp only
        exact ⟨F2, rfl, le2, st, gA, gA, gA, gA⟩
    · have hF := bif_f hb10 hF; refine w_exit ?_; refine th_e ?_; refine th_e ?_; refine ⟨_, (inj hF).symm, rfl, rfl, ?_⟩; dsimp only
      exact ⟨F2, rfl, le2, st, gA⟩
  · obtain ⟨N9, T, ds9⟩ := a; obtain ⟨h15, n16⟩ := σ; obtain ⟨rfl, e1, F9, e2, le9, st, t0⟩ := hq
    dsimp only at e1 e2
    subst e1
    subst e2
    dsimp only at st t0
    refine ib_e ?_; refine th_n ?_; refine w_seq ?_; refine w_reg ?_; refine v_move ?_; refine v_move ?_; refine r_nil ?_; refine th_n ?_; refine w_ret ?_; obtain rfl := inj hF
    exact end_s st (Res.t gA Res.nil) rfl rfl
theorem ct37 (N : Nat) {a0 : Int} {a1 : Int} {a2 : Int} {r : Bool} (hF : sf37 N a0 a1 a2 = some r) {fl : Nat} {h0 : Tr HBlk} {n0 : Nat} {F0 : PH} (hd : D h0 n0) (hs : F0.sub h0) : C LW fl 37 [(i64 a0), (i64 a1), (i64 a2)] ⟨h0, n0⟩ (KS (.bool r) n0 h0) := by
  unfold sf37 at hF
  refine in_cT hd hs lw37 rfl rfl (by rfl) (fun st T hT => ?_)
  have hfl : n0 ≤ n0 := Nat.le_refl n0
  have t0 := hT 0 _ rfl
  have t1 := hT 1 _ rfl
  have t2 := hT 2 _ rfl
  dsimp only [L37]
  refine w_seq ?_; refine w_reg ?_; refine v_move ?_; refine r_nil ?_; refine th_n ?_; refine w_seq ?_; refine w_reg ?_; refine v_move ?_; refine v_move ?_; refine v_geq ?_; refine v_move ?_
  rcases Bool.eq_false_or_eq_true (decide (a1 ≤ a0)) with hb1 | hb1
  · have hF := bif_t hb1 hF; refine g_take hb1 (v_move ?_); refine g_take hb1 (v_move ?_); refine g_take hb1 (v_leq ?_); refine v_pick hb1 ?_; refine v_move ?_; refine r_nil ?_; refine th_n ?_; refine w_ret ?_; obtain rfl := inj hF
    exact end_s st (Res.t gA Res.nil) rfl rfl
  · have hF := bif_f hb1 hF; refine g_skip hb1 ?_; refine g_skip hb1 ?_; refine g_skip hb1 ?_; refine v_pick' hb1 ?_; refine v_move ?_; refine r_nil ?_; refine th_n ?_; refine w_ret ?_; obtain rfl := inj hF
    exact end_s st (Res.t gA Res.nil) rfl rfl
theorem ct38 (N : Nat) {a0 : (List Int)} {a1 : Int} {r : Int} (hF : sf38 N a0 a1 = some r) {fl : Nat} {h0 : Tr HBlk} {n0 : Nat} {F0 : PH} (hd : D h0 n0) (hs : F0.sub h0) {pa0 : Option (Nat × Nat)} {ca0 : Nat} (ra0 : RowF rI 1 F0 pa0 ca0 a0) : C LW fl 38 [(.slice pa0 (a0).length ca0), (i64 a1)] ⟨h0, n0⟩ (KS (i64 r) n0 h0) := by
  unfold sf38 at hF
  refine in_cT hd hs lw38 rfl rfl (by rfl) (fun st T hT => ?_)
  have hfl : n0 ≤ n0 := Nat.le_refl n0
  have t0 := hT 0 _ rfl
  have t1 := hT 1 _ rfl
  dsimp only [L38]
  refine w_seq ?_; refine w_reg ?_; refine v_move ?_; refine r_nil ?_; refine th_n ?_; refine w_seq ?_; refine w_reg ?_; refine v_move ?_; refine r_nil ?_; refine th_n ?_; refine w_seq ?_; refine w_seq ?_; refine w_reg ?_; refine v_move ?_; refine r_nil ?_; refine th_n ?_; refine w_block ?_; obtain ⟨y7, hy, hF⟩ := bnd_some hF; refine v_loopD (sf38_L1 a0 a1) (fun x1 T ds2 h nx => ∃ (F2 : PH), ds2 = [] ∧ PH.le F0 F2 ∧ St n0 h0 F0 F2 h nx [] ∧ T.get 0 = some (.slice pa0 (a0).length ca0) ∧ T.get 1 = some (i64 a1) ∧ T.get 5 = some (i64 x1.1) ∧ T.get 6 = some (i64 x1.2)) (fun y e a σ => e = .exit 0 ∧ a.nt = 19 ∧ ∃ (F8 : PH), a.defers = [] ∧ PH.le F0 F8 ∧ St n0 h0 F0 F8 σ.h σ.nx [] ∧ a.tmps.get 5 = some (i64 y)) (fun x1 T ds2 h nx s hp hF => ?_) N _ y7 _ _ _ _ hy ⟨F0, rfl, (PH.le.refl _), st, gA, gA, gA, gA⟩ (fun e a σ hne hq => ?_)
  · obtain ⟨F2, rfl, le2, st, t0, t1, t5, t6⟩ := hp; unfold sf38_L1 at hF; unfold L38w0; refine w_seq ?_; refine w_seq ?_; refine w_reg ?_; refine v_move ?_; refine v_move ?_; refine v_lss ?_; refine r_nil ?_; refine th_n ?_; refine v_cond (fun hb9 => ?_) (fun hb9 => ?_)
    · have hF := bif_t hb9 hF; refine w_skip ?_; refine th_n ?_; refine w_seq ?_; refine w_block ?_; refine w_reg ?_; refine v_move ?_; refine v_move ?_; refine v_move ?_; obtain ⟨n10, x10, z10, l10, g10, hF⟩ := ix_some hF; obtain ⟨b10, o10, s10, j10, r10, e10, f10, k10, rfl⟩ := RowF.get ra0 g10; refine v_ixp e10 z10 l10 ?_; refine v_ld1 (st.sub _ _ (le2 _ _ f10)) (take_at (j := 0) k10 rfl) ?_; obtain ⟨q11, hF⟩ := ck_some hF; refine v_add q11 ?_; refine v_move ?_; refine r_nil ?_; refine ib_n ?_; refine th_n ?_; refine w_reg ?_; refine v_move ?_; obtain ⟨q12, hF⟩ := ck_some hF; refine v_add q12 ?_; refine v_move ?_; refine r_nil ?_; refine thn ⟨_, (inj hF).symm, rfl, ?_⟩; dsimp only
      exact ⟨F2, rfl, le2, st, gA, gA, gA, gA⟩
    · have hF := bif_f hb9 hF; refine w_exit ?_; refine th_e ?_; refine th_e ?_; refine ⟨_, (inj hF).symm, rfl, rfl, ?_⟩; dsimp only
      exact ⟨F2, rfl, le2, st, gA⟩
  · obtain ⟨N9, T, ds8⟩ := a; obtain ⟨h13, n14⟩ := σ; obtain ⟨rfl, e1, F8, e2, le8, st, t5⟩ := hq
    dsimp only at e1 e2
    subst e1
    subst e2
    dsimp only at st t5
    refine ib_e ?_; refine th_n ?_; refine w_seq ?_; refine w_reg ?_; refine v_move ?_; refine v_move ?_; refine r_nil ?_; refine th_n ?_; refine w_ret ?_; obtain rfl := inj hF
    exact end_s st (Res.t gA Res.nil) rfl rfl
end Go.Hx.V

/- Functions of the program come to that. -/
namespace Go.Hx.V
open Go.Hx
set_option linter.unusedVariables false
set_option maxRecDepth 20000
set_option maxHeartbeats 4000000
attribute [local irreducible] W R C thenH inBlockH Tr.get Tr.set lo ck bnd ix iter
end Go.Hx.V

/- Functions of the program come to that. -/
namespace Go.Hx.V
open Go.Hx
set_option linter.unusedVariables false
set_option maxRecDepth 20000
set_option maxHeartbeats 4000000
attribute [local irreducible] W R C thenH inBlockH Tr.get Tr.set lo ck bnd ix iter
theorem ct21 (N : Nat) {a0_0 : Int} {a0_1 : Int} {a0_2 : Int} {a0_3 : Int} {r : (Int × Int × Int × Int)} (hF : sf21 N a0_0 a0_1 a0_2 a0_3 = some r) {fl : Nat} {h0 : Tr HBlk} {n0 : Nat} {F0 : PH} (hd : D h0 n0) (hs : F0.sub h0) : C LW fl 21 [(.agg [(i64 a0_0), (i64 a0_1), (i64 a0_2), (i64 a0_3)])] ⟨h0, n0⟩ (KS (.agg [(i64 r.1), (i64 r.2.1), (i64 r.2.2.1), (i64 r.2.2.2)]) n0 h0) := by
  unfold sf21 at hF
  refine in_cT hd hs lw21 rfl rfl (by rfl) (fun st T hT => ?_)
  have hfl : n0 ≤ n0 := Nat.le_refl n0
  have t0 := hT 0 _ rfl
  dsimp only [L21]
  refine w_seq ?_; refine w_reg ?_; refine v_box st (fun b1 h2 n3 st => ?_); refine v_alloc st (fun b4 h5 n6 st => ?_); refine r_nil ?_; refine th_n ?_; refine w_seq ?_; refine w_drawV (Nat.le_trans hfl st.ext.le) (fun dw => ?_); refine y_pure st.d dw (fun hm vw => v_fa pr_nil) ?_; refine y_pure st.d dw (fun hm vw => v_ld1 (vw.bx (st.at (i := 0) rfl)) rfl pr_nil) ?_; refine y_pure st.d dw (fun hm vw => v_fa pr_nil) ?_; refine y_pure st.d dw (fun hm vw => v_ld1 (vw.bx (st.at (i := 0) rfl)) rfl pr_nil) ?_; refine y_pure st.d dw (fun hm vw => v_fa pr_nil) ?_; refine y_pure st.d dw (fun hm vw => v_ldn (vs := [(i64 a0_2), (i64 a0_3)]) (vw.bx (st.at (i := 0) rfl)) rfl pr_nil) ?_; obtain ⟨v7, e8, hF⟩ := bnd_some hF
  refine y_flat st.d dw (fun hm vw => u_call (ct35 N e8 vw.d (vw.sub st) ) (fun n' hn' => pf_nil hn')) (fun n9 hn' dw => ?_); refine y_end st.d dw rfl (fun h10 ex vs => ?_)
  have st := st.ext1 ex
  refine v_build (cs := [(i64 a0_0), (i64 a0_1), (i64 v7.1), (i64 v7.2)]) rfl ?_; refine v_st (cs' := [(i64 a0_0), (i64 a0_1), (i64 v7.1), (i64 v7.2)]) st 1 rfl rfl rfl rfl hfl (fun h11 st => ?_); refine r_nil ?_; refine th_n ?_; refine w_ret ?_; obtain rfl := inj hF
  exact end_s st (Res.c gA (st.at (i := 1) rfl).2.2 (show takeN _ _ = some [(i64 a0_0), (i64 a0_1), (i64 v7.1), (i64 v7.2)] from rfl) Res.nil) rfl rfl
theorem ct63 (N : Nat) {a0_0 : Int} {a0_1 : Int} {a0_2 : Int} {a0_3 : Int} {r : Bool} (hF : sf63 N a0_0 a0_1 a0_2 a0_3 = some r) {fl : Nat} {h0 : Tr HBlk} {n0 : Nat} {F0 : PH} (hd : D h0 n0) (hs : F0.sub h0) : C LW fl 63 [(.agg [(i64 a0_0), (i64 a0_1), (i64 a0_2), (i64 a0_3)])] ⟨h0, n0⟩ (KS (.bool r) n0 h0) := by
  unfold sf63 at hF
  refine in_cT hd hs lw63 rfl rfl (by rfl) (fun st T hT => ?_)
  have hfl : n0 ≤ n0 := Nat.le_refl n0
  have t0 := hT 0 _ rfl
  dsimp only [L63]
  refine w_seq ?_; refine w_reg ?_; refine v_box st (fun b1 h2 n3 st => ?_); refine v_move ?_; refine r_nil ?_; refine th_n ?_; obtain ⟨y19, hA20, hF⟩ := bnd_some hF; refine w_cutD (fun T ds25 h nx => ∃ u, y19 = (.inr u) ∧ ∃ (F25 : PH), ds25 = [] ∧ PH.le F0 F25 ∧ St n0 h0 F0 F25 h nx [.bx b1 [(i64 a0_0), (i64 a0_1), (i64 a0_2), (i64 a0_3)]] ∧ T.get 1 = some (.ptr (some (b1, 0)))) ?_ (fun T ds25 h nx hp => ?_)
  · have hK21 := hF
    have hF := hA20; obtain ⟨y31, hA32, hF⟩ := bnd_some hF; refine w_cutD (fun T ds34 h nx => ∃ (F34 : PH), ds34 = [] ∧ PH.le F0 F34 ∧ St n0 h0 F0 F34 h nx [.bx b1 [(i64 a0_0), (i64 a0_1), (i64 a0_2), (i64 a0_3)]] ∧ T.get 1 = some (.ptr (some (b1, 0))) ∧ T.get 17 = some (.bool y31)) ?_ (fun T ds34 h nx hp => ?_)
    · have hK33 := hF
      have hF := hA32; refine w_reg ?_; refine v_fa ?_; refine v_ld1 (st.at (i := 0) rfl).2.2 rfl ?_; refine v_lss ?_; refine v_move ?_
      rcases Bool.eq_false_or_eq_true (decide (a0_0 < (1 : Int))) with hb35 | hb35
      · have hF := bif_t hb35 hF; refine g_skip hb35 ?_; refine g_skip hb35 ?_; refine g_skip hb35 ?_; refine v_pick hb35 ?_; refine v_move ?_; refine g_skip rfl ?_; refine g_skip rfl ?_; refine g_skip rfl ?_; refine g_skip rfl ?_; refine v_pick rfl ?_; refine r_nil ?_; obtain rfl := inj hF; refine thn ⟨rfl, ?_⟩; dsimp only
        exact ⟨F0, rfl, (PH.le.refl _), st, gA, gA⟩
      · have hF := bif_f hb35 hF; refine g_take hb35 (v_fa ?_); refine g_take hb35 (v_ld1 (st.at (i := 0) rfl).2.2 rfl ?_); refine g_take hb35 (v_gtr ?_); refine v_pick' hb35 ?_; refine v_move ?_
        rcases Bool.eq_false_or_eq_true (decide ((10 : Int) < a0_0)) with hb36 | hb36
        · have hF := bif_t hb36 hF; refine g_skip hb36 ?_; refine g_skip hb36 ?_; refine g_skip hb36 ?_; refine g_skip hb36 ?_; refine v_pick hb36 ?_; refine r_nil ?_; obtain rfl := inj hF; refine thn ⟨rfl, ?_⟩; dsimp only
          exact ⟨F0, rfl, (PH.le.refl _), st, gA, gA⟩
        · have hF := bif_f hb36 hF; refine g_take hb36 (v_fa ?_); refine g_take hb36 (v_ldn (vs := [(i64 a0_2), (i64 a0_3)]) (st.at (i := 0) rfl).2.2 rfl ?_); obtain ⟨v37, e38, hF⟩ := bnd_some hF; refine g_take hb36 (v_call st (ct83 N e38 st.d st.sub ) (fun n39 st => ?_)); refine g_take hb36 (v_not ?_); refine v_pick' hb36 ?_; refine r_nil ?_; obtain rfl := inj hF; refine thn ⟨rfl, ?_⟩; dsimp only
          exact ⟨F0, rfl, (PH.le.refl _), st, gA, gA⟩
    · obtain ⟨F34, rfl, le34, st, t1, t17⟩ := hp; refine v_cond (fun hb40 => ?_) (fun hb40 => ?_)
      · have hF := bif_t hb40 hF; refine w_seq ?_; refine w_reg ?_; refine v_move ?_; refine r_nil ?_; refine th_n ?_; refine w_ret ?_; obtain rfl := inj hF; have hF := hK21; have hF := sel_l hF; refine th_r ?_; obtain rfl := inj hF
        exact end_s st (Res.t gA Res.nil) rfl rfl
      · have hF := bif_f hb40 hF; refine w_skip ?_; obtain rfl := inj hF; refine thn ⟨rfl, _, rfl, ?_⟩; dsimp only
        exact ⟨F34, rfl, le34, st, gA⟩
  · obtain ⟨w24, rfl, F25, rfl, le25, st, t1⟩ := hp; have hF := sel_r hF; refine w_seq ?_; refine w_reg ?_; refine v_fa ?_; refine v_ld1 (st.at (i := 0) rfl).2.2 rfl ?_; refine v_fa ?_; refine v_fa ?_; refine v_ld1 (st.at (i := 0) rfl).2.2 rfl ?_; obtain ⟨q41, hF⟩ := ck_some hF; refine v_mul q41 ?_; refine v_fa ?_; refine v_ld1 (st.at (i := 0) rfl).2.2 rfl ?_; refine v_fa ?_; refine v_fa ?_; refine v_ld1 (st.at (i := 0) rfl).2.2 rfl ?_; obtain ⟨q42, hF⟩ := ck_some hF; refine v_mul q42 ?_; refine v_build (cs := [(i64 (a0_0 * a0_2)), (i64 (a0_0 * a0_3))]) rfl ?_; refine v_alloc st (fun b43 h44 n45 st => ?_); refine v_st (cs' := [(i64 (a0_0 * a0_2)), (i64 (a0_0 * a0_3))]) st 1 rfl rfl rfl rfl hfl (fun h46 st => ?_)
    refine r_nil ?_; refine th_n ?_; refine w_seq ?_; refine w_reg ?_; refine v_fa ?_; refine v_ld1 (st.at (i := 0) rfl).2.2 rfl ?_; refine v_leq ?_; refine v_move ?_
    rcases Bool.eq_false_or_eq_true (decide (a0_1 ≤ (2000 : Int))) with hb47 | hb47
    · have hF := bif_t hb47 hF; refine g_take hb47 (v_ldn (vs := [(i64 (a0_0 * a0_2)), (i64 (a0_0 * a0_3))]) (st.at (i := 1) rfl).2.2 rfl ?_); refine g_take hb47 (v_fa ?_); refine g_take hb47 (v_ld1 (st.at (i := 0) rfl).2.2 rfl ?_); obtain ⟨v48, e49, hF⟩ := bnd_some hF; refine g_take hb47 (v_call st (ct66 N e49 st.d st.sub ) (fun n50 st => ?_)); refine v_pick hb47 ?_; refine v_move ?_; refine r_nil ?_; refine th_n ?_; refine w_ret ?_; obtain rfl := inj hF
      exact end_s st (Res.t gA Res.nil) rfl rfl
    · have hF := bif_f hb47 hF; refine g_skip hb47 ?_; refine g_skip hb47 ?_; refine g_skip hb47 ?_; refine g_skip hb47 ?_; refine v_pick' hb47 ?_; refine v_move ?_; refine r_nil ?_; refine th_n ?_; refine w_ret ?_; obtain rfl := inj hF
      exact end_s st (Res.t gA Res.nil) rfl rfl
theorem ct23 (N : Nat) {a0 : (List (Int × Int × Int × Int))} {r : (List (Int × Int × Int × Int))} (hF : sf23 N a0 = some r) {fl : Nat} {h0 : Tr HBlk} {n0 : Nat} {F0 : PH} (hd : D h0 n0) (hs : F0.sub h0) (hfl : fl ≤ n0) {pa0 : Option (Nat × Nat)} {ca0 : Nat} (ra0 : RowF (rP rI (rP rI (rP rI rI))) 4 F0 pa0 ca0 a0) : C LW fl 23 [(.slice pa0 (a0).length ca0)] ⟨h0, n0⟩ (KR (lvL (rP rI (rP rI (rP rI rI))) 4) F0 h0 n0 r) := by
  unfold sf23 at hF
  refine in_mT hd hs hfl lw23 rfl rfl (by rfl) (fun st T hT => ?_)
  have t0 := hT 0 _ rfl
  dsimp only [L23]
  refine w_seq ?_; refine w_reg ?_; refine v_move ?_; refine r_nil ?_; refine th_n ?_; refine w_seq ?_; refine w_reg ?_; refine v_move ?_; refine r_nil ?_; refine th_n ?_; refine w_seq ?_; refine w_seq ?_; refine w_reg ?_; refine v_move ?_; refine r_nil ?_; refine th_n ?_; refine w_block ?_
  have st := st.nilL 4
  have w1 : LR (rP rI (rP rI (rP rI rI))) 4 F0 ([] : List (Int × Int × Int × Int)) [] := LR.nil
  obtain ⟨y19, hy, hF⟩ := bnd_some hF; refine v_loopD (sf23_L1 N a0) (fun x3 T ds4 h nx => ∃ (F4 : PH) (o5 : Option Nat) (c5 : Nat) (cs5 : List HV), ds4 = [] ∧ PH.le F0 F4 ∧ St n0 h0 F0 F4 h nx [.ls o5 c5 cs5 4] ∧ LR (rP rI (rP rI (rP rI rI))) 4 F4 x3.1 cs5 ∧ T.get 0 = some (.slice pa0 (a0).length ca0) ∧ T.get 3 = some (slv o5 (x3.1).length c5) ∧ T.get 4 = some (i64 x3.2)) (fun y e a σ => e = .exit 0 ∧ a.nt = 32 ∧ ∃ (F20 : PH) (o21 : Option Nat) (c21 : Nat) (cs21 : List HV), a.defers = [] ∧ PH.le F0 F20 ∧ St n0 h0 F0 F20 σ.h σ.nx [.ls o21 c21 cs21 4] ∧ LR (rP rI (rP rI (rP rI rI))) 4 F20 y cs21 ∧ a.tmps.get 3 = some (slv o21 (y).length c21)) (fun x3 T ds4 h nx s hp hF => ?_) N _ y19 _ _ _ _ hy ⟨F0, none, 0, [], rfl, (PH.le.refl _), st, w1, gA, gA, gA⟩ (fun e a σ hne hq => ?_)
  · obtain ⟨F4, o5, c5, cs5, rfl, le4, st, w5, t0, t3, t4⟩ := hp; unfold sf23_L1 at hF; unfold L23w0; refine w_seq ?_; refine w_seq ?_; refine w_reg ?_; refine v_move ?_; refine v_move ?_; refine v_len ?_; refine v_lss ?_; refine r_nil ?_; refine th_n ?_; refine v_cond (fun hb22 => ?_) (fun hb22 => ?_)
    · have hF := bif_t hb22 hF; refine w_skip ?_; refine th_n ?_; refine w_seq ?_; refine w_block ?_; refine w_drawV (Nat.le_trans hfl st.ext.le) (fun dw => ?_); refine y_pure st.d dw (fun hm vw => v_move pr_nil) ?_; refine y_pure st.d dw (fun hm vw => v_move pr_nil) ?_; refine y_pure st.d dw (fun hm vw => v_move pr_nil) ?_; obtain ⟨n23, x23, z23, l23, g23, hF⟩ := ix_some hF; obtain ⟨b23, o23, s23, j23, r23, e23, f23, k23, ⟨_, _, rfl, rfl, ⟨_, _, rfl, rfl, ⟨_, _, rfl, rfl, rfl⟩⟩⟩⟩ := RowF.get ra0 g23; refine y_pure st.d dw (fun hm vw => v_ixp e23 z23 l23 pr_nil) ?_; refine y_pure st.d dw (fun hm vw => v_fa pr_nil) ?_; refine y_pure st.d dw (fun hm vw => v_ld1 (vw.fz st (le4 _ _ f23)) (take_at (j := 0) k23 rfl) pr_nil) ?_
      refine y_pure st.d dw (fun hm vw => v_move pr_nil) ?_; refine y_pure st.d dw (fun hm vw => v_move pr_nil) ?_; obtain ⟨n24, x24, z24, l24, g24, hF⟩ := ix_some hF; obtain ⟨b24, o24, s24, j24, r24, e24, f24, k24, ⟨_, _, rfl, rfl, ⟨_, _, rfl, rfl, ⟨_, _, rfl, rfl, rfl⟩⟩⟩⟩ := RowF.get ra0 g24; refine y_pure st.d dw (fun hm vw => v_ixp e24 z24 l24 pr_nil) ?_; refine y_pure st.d dw (fun hm vw => v_fa pr_nil) ?_; refine y_pure st.d dw (fun hm vw => v_ld1 (vw.fz st (le4 _ _ f24)) (take_at (j := 1) k24 rfl) pr_nil) ?_; refine y_pure st.d dw (fun hm vw => v_move pr_nil) ?_; refine y_pure st.d dw (fun hm vw => v_move pr_nil) ?_; obtain ⟨n25, x25, z25, l25, g25, hF⟩ := ix_some hF; obtain ⟨b25, o25, s25, j25, r25, e25, f25, k25, ⟨_, _, rfl, rfl, ⟨_, _, rfl, rfl, ⟨_, _, rfl, rfl, rfl⟩⟩⟩⟩ := RowF.get ra0 g25
      refine y_pure st.d dw (fun hm vw => v_ixp e25 z25 l25 pr_nil) ?_; refine y_pure st.d dw (fun hm vw => v_fa pr_nil) ?_
      refine y_pure st.d dw (fun hm vw => v_ldn (vs := [(i64 x25.2.2.1), (i64 x25.2.2.2)]) (vw.fz st (le4 _ _ f25)) (take_sub (j := 2) k25 (by decide) rfl) pr_nil) ?_
      obtain ⟨v26, e27, hF⟩ := bnd_some hF; refine y_flat st.d dw (fun hm vw => u_call (ct35 N e27 vw.d (vw.sub st) ) (fun n' hn' => pf_nil hn')) (fun n28 hn' dw => ?_); refine y_end st.d dw rfl (fun h29 ex vs => ?_)
      have st := st.ext1 ex
      refine v_build (cs := [(i64 x23.1), (i64 x24.2.1), (i64 v26.1), (i64 v26.2)]) rfl ?_; refine v_bs (cs := [(i64 x23.1), (i64 x24.2.1), (i64 v26.1), (i64 v26.2)]) st rfl (fun b30 h31 n32 st => ?_); obtain ⟨q33, hF⟩ := ck_some hF
      have w33 : LR (rP rI (rP rI (rP rI rI))) 4 F4 (x3.1 ++ [(x23.1, x24.2.1, v26.1, v26.2)]) (cs5 ++ [(i64 x23.1), (i64 x24.2.1), (i64 v26.1), (i64 v26.2)]) := LR.app w5 (LR.one (⟨[(i64 x23.1)], [(i64 x24.2.1), (i64 v26.1), (i64 v26.2)], rfl, rfl, ⟨[(i64 x24.2.1)], [(i64 v26.1), (i64 v26.2)], rfl, rfl, ⟨[(i64 v26.1)], [(i64 v26.2)], rfl, rfl, rfl⟩⟩⟩))
      refine v_aps (n := 1) (ox := 0) (m := (x3.1 ++ [(x23.1, x24.2.1, v26.1, v26.2)]).length) (row := [(i64 x23.1), (i64 x24.2.1), (i64 v26.1), (i64 v26.2)]) st 0 rfl w5.1 (st.at (i := 1) rfl).2.2 rfl rfl q33 hfl (by decide) (by decide) (by simp) (fun o33 c33 h33 n33 st => ?_)
      refine v_move ?_; refine r_nil ?_; refine ib_n ?_; refine th_n ?_; refine w_reg ?_; refine v_move ?_; obtain ⟨q34, hF⟩ := ck_some hF; refine v_add q34 ?_; refine v_move ?_; refine r_nil ?_; refine thn ⟨_, (inj hF).symm, rfl, ?_⟩; dsimp only
      exact ⟨F4, o33, c33, (cs5 ++ [(i64 x23.1), (i64 x24.2.1), (i64 v26.1), (i64 v26.2)]), rfl, le4, (st.drop (by first | exact List.Sublist.refl _ | (repeat first | exact List.nil_sublist _ | refine List.Sublist.cons_cons _ ?_ | refine List.Sublist.cons _ ?_))), w33, gA, gA, gA⟩
    · have hF := bif_f hb22 hF; refine w_exit ?_; refine th_e ?_; refine th_e ?_; refine ⟨_, (inj hF).symm, rfl, rfl, ?_⟩; dsimp only
      exact ⟨F4, o5, c5, cs5, rfl, le4, st, w5, gA⟩
  · obtain ⟨N9, T, ds20⟩ := a; obtain ⟨h35, n36⟩ := σ; obtain ⟨rfl, e1, F20, o21, c21, cs21, e2, le20, st, w21, t3⟩ := hq
    dsimp only at e1 e2
    subst e1
    subst e2
    dsimp only at st t3
    refine ib_e ?_; refine th_n ?_; refine w_seq ?_; refine w_reg ?_; refine v_move ?_; refine v_move ?_; refine r_nil ?_; refine th_n ?_; refine w_ret ?_; obtain rfl := inj hF
    obtain ⟨F37, le37, st, rf37⟩ := St.freeze st 0 rfl w21 (by decide)
    have le38 := PH.le.trans le20 le37
    exact end_r st (Res.t gA Res.nil) ⟨_, _, rfl, rf37⟩
theorem ct86 (N : Nat) {a0_0 : Int} {a0_1 : Int} {a0_2 : Int} {a0_3 : Int} {a1_0 : Int} {a1_1 : Int} {a1_2 : Int} {a1_3 : Int} {r : Bool} (hF : sf86 N a0_0 a0_1 a0_2 a0_3 a1_0 a1_1 a1_2 a1_3 = some r) {fl : Nat} {h0 : Tr HBlk} {n0 : Nat} {F0 : PH} (hd : D h0 n0) (hs : F0.sub h0) : C LW fl 86 [(.agg [(i64 a0_0), (i64 a0_1), (i64 a0_2), (i64 a0_3)]), (.agg [(i64 a1_0), (i64 a1_1), (i64 a1_2), (i64 a1_3)])] ⟨h0, n0⟩ (KS (.bool r) n0 h0) := by
  unfold sf86 at hF
  refine in_cT hd hs lw86 rfl rfl (by rfl) (fun st T hT => ?_)
  have hfl : n0 ≤ n0 := Nat.le_refl n0
  have t0 := hT 0 _ rfl
  have t1 := hT 1 _ rfl
  dsimp only [L86]
  refine w_seq ?_; refine w_reg ?_; refine v_box st (fun b1 h2 n3 st => ?_); refine v_box st (fun b4 h5 n6 st => ?_); refine v_move ?_; refine r_nil ?_; refine th_n ?_; refine w_seq ?_; refine w_reg ?_; refine v_fa ?_; refine v_ld1 (st.at (i := 1) rfl).2.2 rfl ?_; refine v_leq ?_; refine v_move ?_
  rcases Bool.eq_false_or_eq_true (decide ((0 : Int) ≤ a1_0)) with hb7 | hb7
  · have hF := bif_t hb7 hF; refine g_take hb7 (v_fa ?_); refine g_take hb7 (v_ld1 (st.at (i := 1) rfl).2.2 rfl ?_); refine g_take hb7 (v_fa ?_); refine g_take hb7 (v_ld1 (st.at (i := 0) rfl).2.2 rfl ?_); refine g_take hb7 (v_lss ?_); refine v_pick hb7 ?_; refine v_move ?_
    rcases Bool.eq_false_or_eq_true (decide (a1_0 < a0_0)) with hb8 | hb8
    · have hF := bif_t hb8 hF; refine g_take hb8 (v_fa ?_); refine g_take hb8 (v_ld1 (st.at (i := 1) rfl).2.2 rfl ?_); refine g_take hb8 (v_fa ?_); refine g_take hb8 (v_ld1 (st.at (i := 1) rfl).2.2 rfl ?_); refine g_take hb8 (v_leq ?_); refine v_pick hb8 ?_; refine v_move ?_
      rcases Bool.eq_false_or_eq_true (decide (a1_0 ≤ a1_1)) with hb9 | hb9
      · have hF := bif_t hb9 hF; refine g_take hb9 (v_fa ?_); refine g_take hb9 (v_ld1 (st.at (i := 1) rfl).2.2 rfl ?_); refine g_take hb9 (v_fa ?_); refine g_take hb9 (v_ld1 (st.at (i := 0) rfl).2.2 rfl ?_); refine g_take hb9 (v_leq ?_); refine v_pick hb9 ?_; refine v_move ?_
        rcases Bool.eq_false_or_eq_true (decide (a1_1 ≤ a0_0)) with hb10 | hb10
        · have hF := bif_t hb10 hF; refine g_take hb10 (v_fa ?_); refine g_take hb10 (v_ldn (vs := [(i64 a1_2), (i64 a1_3)]) (st.at (i := 1) rfl).2.2 rfl ?_); obtain ⟨v11, e12, hF⟩ := bnd_some hF; refine g_take hb10 (v_call st (ct83 N e12 st.d st.sub ) (fun n13 st => ?_)); refine v_pick hb10 ?_; refine v_move ?_; refine r_nil ?_; refine th_n ?_; refine w_ret ?_; obtain rfl := inj hF
          exact end_s st (Res.t gA Res.nil) rfl rfl
        · have hF := bif_f hb10 hF; refine g_skip hb10 ?_; refine g_skip hb10 ?_; refine g_skip hb10 ?_; refine v_pick' hb10 ?_; refine v_move ?_; refine r_nil ?_; refine th_n ?_; refine w_ret ?_; obtain rfl := inj hF
          exact end_s st (Res.t gA Res.nil) rfl rfl
      · have hF := bif_f hb9 hF; refine g_skip hb9 ?_; refine g_skip hb9 ?_; refine g_skip hb9 ?_; refine g_skip hb9 ?_; refine g_skip hb9 ?_; refine v_pick' hb9 ?_; refine v_move ?_; refine g_skip rfl ?_; refine g_skip rfl ?_; refine g_skip rfl ?_; refine v_pick' rfl ?_; refine v_move ?_; refine r_nil ?_; refine th_n ?_; refine w_ret ?_; obtain rfl := inj hF
        exact end_s st (Res.t gA Res.nil) rfl rfl
    · have hF := bif_f hb8 hF; refine g_skip hb8 ?_; refine g_skip hb8 ?_; refine g_skip hb8 ?_; refine g_skip hb8 ?_; refine g_skip hb8 ?_; refine v_pick' hb8 ?_; refine v_move ?_; refine g_skip rfl ?_; refine g_skip rfl ?_; refine g_skip rfl ?_; refine g_skip rfl ?_; refine g_skip rfl ?_; refine v_pick' rfl ?_; refine v_move ?_; refine g_skip rfl ?_; refine g_skip rfl ?_; refine g_skip rfl ?_; refine v_pick' rfl ?_; refine v_move ?_; refine r_nil ?_; refine th_n ?_; refine w_ret ?_; obtain rfl := inj hF
      exact end_s st (Res.t gA Res.nil) rfl rfl
  · have hF := bif_f hb7 hF; refine g_skip hb7 ?_; refine g_skip hb7 ?_; refine g_skip hb7 ?_; refine g_skip hb7 ?_; refine g_skip hb7 ?_; refine v_pick' hb7 ?_; refine v_move ?_; refine g_skip rfl ?_; refine g_skip rfl ?_; refine g_skip rfl ?_; refine g_skip rfl ?_; refine g_skip rfl ?_; refine v_pick' rfl ?_; refine v_move ?_; refine g_skip rfl ?_; refine g_skip rfl ?_; refine g_skip rfl ?_; refine g_skip rfl ?_; refine g_skip rfl ?_; refine v_pick' rfl ?_; refine v_move ?_; refine g_skip rfl ?_; refine g_skip rfl ?_; refine g_skip rfl ?_; refine v_pick' rfl ?_; refine v_move ?_; refine r_nil ?_; refine th_n ?_; refine w_ret ?_; obtain rfl := inj hF
    exact end_s st (Res.t gA Res.nil) rfl rfl
theorem ct65 (N : Nat) {a0 : (List Int)} {a1f0_0 : Int} {a1f0_1 : Int} {r : Bool} (hF : sf65 N a0 a1f0_0 a1f0_1 = some r) {fl : Nat} {h0 : Tr HBlk} {n0 : Nat} {F0 : PH} (hd : D h0 n0) (hs : F0.sub h0) {pa0 : Option (Nat × Nat)} {ca0 : Nat} (ra0 : RowF rI 1 F0 pa0 ca0 a0) : C LW fl 65 [(.slice pa0 (a0).length ca0), (.func 66 [(.agg [(i64 a1f0_0), (i64 a1f0_1)])] [])] ⟨h0, n0⟩ (KS (.bool r) n0 h0) := by
  unfold sf65 at hF
  refine in_cT hd hs lw65 rfl rfl (by rfl) (fun st T hT => ?_)
  have hfl : n0 ≤ n0 := Nat.le_refl n0
  have t0 := hT 0 _ rfl
  have t1 := hT 1 _ rfl
  dsimp only [L65]
  refine w_seq ?_; refine w_reg ?_; refine v_move ?_; refine r_nil ?_; refine th_n ?_; refine w_seq ?_; refine w_seq ?_; refine w_reg ?_; refine v_move ?_; refine v_len ?_; refine v_move ?_; refine r_nil ?_; refine th_n ?_; refine w_block ?_; obtain ⟨y10, hy, hF⟩ := bnd_some hF; refine v_loopD (sf65_L1 N a0 a1f0_0 a1f0_1) (fun x1 T ds2 h nx => ∃ (F2 : PH), ds2 = [] ∧ PH.le F0 F2 ∧ St n0 h0 F0 F2 h nx [] ∧ T.get 1 = some (.func 66 [(.agg [(i64 a1f0_0), (i64 a1f0_1)])] []) ∧ T.get 7 = some (.slice pa0 (a0).length ca0) ∧ T.get 8 = some (i64 ((a0).length : Int)) ∧ T.get 9 = some (i64 x1)) (fun y e a σ => (∃ u, y = (.inl u) ∧ e = .ret ∧ a.nt = 18 ∧ ∃ (F12 : PH), a.defers = [] ∧ PH.le F0 F12 ∧ St n0 h0 F0 F12 σ.h σ.nx [] ∧ a.tmps.get 4 = some (.bool false)) ∨ (∃ u, y = (.inr u) ∧ e = .exit 0 ∧ a.nt = 18 ∧ ∃ (F14 : PH), a.defers = [] ∧ PH.le F0 F14 ∧ St n0 h0 F0 F14 σ.h σ.nx [])) (fun x1 T ds2 h nx s hp hF => ?_) N _ y10 _ _ _ _ hy ⟨F0, rfl, (PH.le.refl _), st, gA, gA, gA, gA⟩ (fun e a σ hne hq => ?_)
  · obtain ⟨F2, rfl, le2, st, t1, t7, t8, t9⟩ := hp; unfold sf65_L1 at hF; unfold L65w0; refine w_seq ?_; refine w_reg ?_; refine v_lss ?_; refine r_nil ?_; refine th_n ?_; refine w_seq ?_; refine v_cond (fun hb15 => ?_) (fun hb15 => ?_)
    · have hF := bif_t hb15 hF; refine w_skip ?_; refine th_n ?_; refine w_seq ?_; refine w_block ?_; refine w_seq ?_; refine w_reg ?_; obtain ⟨n16, x16, z16, l16, g16, hF⟩ := ix_some hF; obtain ⟨b16, o16, s16, j16, r16, e16, f16, k16, rfl⟩ := RowF.get ra0 g16; refine v_ixp e16 z16 l16 ?_; refine v_ld1 (st.sub _ _ (le2 _ _ f16)) (take_at (j := 0) k16 rfl) ?_; refine v_move ?_; refine r_nil ?_; refine th_n ?_; refine w_seq ?_; refine w_reg ?_; refine v_move ?_; refine v_move ?_; obtain ⟨v17, e18, hF⟩ := bnd_some hF; refine v_call st (ct66 N e18 st.d st.sub ) (fun n19 st => ?_); refine v_not ?_; refine r_nil ?_; refine th_n ?_; refine v_cond (fun hb20 => ?_) (fun hb20 => ?_)
      · have hF := bif_t hb20 hF; refine w_seq ?_; refine w_reg ?_; refine v_move ?_; refine r_nil ?_; refine th_n ?_; refine w_ret ?_; refine ib_r ?_; refine th_r ?_; refine th_r ?_; refine ⟨_, (inj hF).symm, .inl ⟨_, rfl, rfl, rfl, ?_⟩⟩; dsimp only
        exact ⟨F2, rfl, le2, st, gA⟩
      · have hF := bif_f hb20 hF; refine w_skip ?_; refine ib_n ?_; refine th_n ?_; refine w_reg ?_; obtain ⟨q21, hF⟩ := ck_some hF; refine v_add q21 ?_; refine v_move ?_; refine r_nil ?_; refine thn ⟨_, (inj hF).symm, rfl, ?_⟩; dsimp only
        exact ⟨F2, rfl, le2, st, gA, gA, gA, gA⟩
    · have hF := bif_f hb15 hF; refine w_exit ?_; refine th_e ?_; refine th_e ?_; refine ⟨_, (inj hF).symm, .inr (⟨_, rfl, rfl, rfl, ?_⟩)⟩; dsimp only
      exact ⟨F2, rfl, le2, st⟩
  · rcases hq with hq | hq
    · obtain ⟨N9, T, ds12⟩ := a; obtain ⟨h22, n23⟩ := σ; obtain ⟨w11, rfl, rfl, e1, F12, e2, le12, st, t4⟩ := hq
      dsimp only at e1 e2
      subst e1
      subst e2
      dsimp only at st t4
      have hF := sel_l hF; refine ib_r ?_; refine th_r ?_; obtain rfl := inj hF
      exact end_s st (Res.t gA Res.nil) rfl rfl
    · obtain ⟨N9, T, ds14⟩ := a; obtain ⟨h24, n25⟩ := σ; obtain ⟨w13, rfl, rfl, e1, F14, e2, le14, st⟩ := hq
      dsimp only at e1 e2
      subst e1
      subst e2
      dsimp only at st
      have hF := sel_r hF; refine ib_e ?_; refine th_n ?_; refine w_seq ?_; refine w_reg ?_; refine v_move ?_; refine r_nil ?_; refine th_n ?_; refine w_ret ?_; obtain rfl := inj hF
      exact end_s st (Res.t gA Res.nil) rfl rfl
end Go.Hx.V

/- Functions of the program come to that. -/
namespace Go.Hx.V
open Go.Hx
set_option linter.unusedVariables false
set_option maxRecDepth 20000
set_option maxHeartbeats 4000000
attribute [local irreducible] W R C thenH inBlockH Tr.get Tr.set lo ck bnd ix iter
theorem ct69 (N : Nat) {a0 : (List Int)} {a1_0 : Int} {a1_1 : Int} {a1_2 : Int} {a1_3 : Int} {r : Bool} (hF : sf69 N a0 a1_0 a1_1 a1_2 a1_3 = some r) {fl : Nat} {h0 : Tr HBlk} {n0 : Nat} {F0 : PH} (hd : D h0 n0) (hs : F0.sub h0) {pa0 : Option (Nat × Nat)} {ca0 : Nat} (ra0 : RowF rI 1 F0 pa0 ca0 a0) : C LW fl 69 [(.slice pa0 (a0).length ca0), (.agg [(i64 a1_0), (i64 a1_1), (i64 a1_2), (i64 a1_3)])] ⟨h0, n0⟩ (KS (.bool r) n0 h0) := by
  unfold sf69 at hF
  refine in_cT hd hs lw69 rfl rfl (by rfl) (fun st T hT => ?_)
  have hfl : n0 ≤ n0 := Nat.le_refl n0
  have t0 := hT 0 _ rfl
  have t1 := hT 1 _ rfl
  dsimp only [L69]
  refine w_seq ?_; refine w_reg ?_; refine v_box st (fun b1 h2 n3 st => ?_); refine v_move ?_; refine r_nil ?_; refine th_n ?_; refine w_seq ?_; refine w_drawV (Nat.le_trans hfl st.ext.le) (fun dw => ?_); refine y_pure st.d dw (fun hm vw => v_fa pr_nil) ?_; refine y_pure st.d dw (fun hm vw => v_fa pr_nil) ?_; refine y_pure st.d dw (fun hm vw => v_ld1 (vw.bx (st.at (i := 0) rfl)) rfl pr_nil) ?_; refine y_pure st.d dw (fun hm vw => v_move pr_nil) ?_; refine y_pure st.d dw (fun hm vw => v_fa pr_nil) ?_; refine y_pure st.d dw (fun hm vw => v_ld1 (vw.bx (st.at (i := 0) rfl)) rfl pr_nil) ?_; obtain ⟨n4, x4, z4, l4, g4, hF⟩ := ix_some hF; obtain ⟨b4, o4, s4, j4, r4, e4, f4, k4, rfl⟩ := RowF.get ra0 g4
  refine y_pure st.d dw (fun hm vw => v_ixp e4 z4 l4 pr_nil) ?_; refine y_pure st.d dw (fun hm vw => v_ld1 (vw.fz st f4) (take_at (j := 0) k4 rfl) pr_nil) ?_; refine y_pure st.d dw (fun hm vw => v_move pr_nil) ?_; refine y_pure st.d dw (fun hm vw => v_fa pr_nil) ?_; refine y_pure st.d dw (fun hm vw => v_ld1 (vw.bx (st.at (i := 0) rfl)) rfl pr_nil) ?_; obtain ⟨n5, x5, z5, l5, g5, hF⟩ := ix_some hF; obtain ⟨b5, o5, s5, j5, r5, e5, f5, k5, rfl⟩ := RowF.get ra0 g5; refine y_pure st.d dw (fun hm vw => v_ixp e5 z5 l5 pr_nil) ?_; refine y_pure st.d dw (fun hm vw => v_ld1 (vw.fz st f5) (take_at (j := 0) k5 rfl) pr_nil) ?_; obtain ⟨q6, hF⟩ := ck_some hF; refine y_pure st.d dw (fun hm vw => v_sub q6 pr_nil) ?_
  refine y_lay st.d dw (fun hm vw => u_bs (cs := [(i64 (x4 - x5))]) rfl pr_nil) (fun done dw => ?_); refine y_end st.d dw rfl (fun h7 ex vs => ?_)
  have st := St.laid st ex (Lay.cons (b := n3) (cs := [(i64 (x4 - x5))]) (by have := dw.le; omega) (vs _ (List.mem_cons_self ..) _ _ (if_pos rfl)) (Lay.nil (by have := dw.le; omega)))
  have st := St.asL st 1 rfl (n := 1) (sz := 1) rfl
  have w8 : LR rI 1 F0 [(x4 - x5)] [(i64 (x4 - x5))] := (LR.one (rfl))
  obtain ⟨v9, e10, hF⟩ := bnd_some hF
  refine v_call st (ct87 N e10 st.d (all_sub _) (st.row_all (i := 1) rfl w8 (by decide))) (fun n11 st => ?_)
  refine v_move ?_; refine r_nil ?_; refine th_n ?_; refine w_seq ?_; refine w_reg ?_; refine v_fa ?_; refine v_fa ?_; refine v_ld1 (st.at (i := 0) rfl).2.2 rfl ?_; refine v_move ?_; refine r_nil ?_; refine th_n ?_; refine w_seq ?_; refine w_seq ?_; refine w_reg ?_; refine v_fa ?_; refine v_ld1 (st.at (i := 0) rfl).2.2 rfl ?_; obtain ⟨q12, hF⟩ := ck_some hF; refine v_add q12 ?_; refine v_move ?_; refine v_len ?_; refine v_lss ?_; refine r_nil ?_; refine th_n ?_; refine v_cond (fun hb13 => ?_) (fun hb13 => ?_)
  · have hF := bif_t hb13 hF; refine w_drawV (Nat.le_trans hfl st.ext.le) (fun dw => ?_); refine y_pure st.d dw (fun hm vw => v_move pr_nil) ?_; refine y_pure st.d dw (fun hm vw => v_move pr_nil) ?_; refine y_pure st.d dw (fun hm vw => v_fa pr_nil) ?_; refine y_pure st.d dw (fun hm vw => v_ld1 (vw.bx (st.at (i := 0) rfl)) rfl pr_nil) ?_; obtain ⟨q14, hF⟩ := ck_some hF; refine y_pure st.d dw (fun hm vw => v_add q14 pr_nil) ?_; obtain ⟨n15, x15, z15, l15, g15, hF⟩ := ix_some hF; obtain ⟨b15, o15, s15, j15, r15, e15, f15, k15, rfl⟩ := RowF.get ra0 g15; refine y_pure st.d dw (fun hm vw => v_ixp e15 z15 l15 pr_nil) ?_; refine y_pure st.d dw (fun hm vw => v_ld1 (vw.fz st f15) (take_at (j := 0) k15 rfl) pr_nil) ?_
    refine y_pure st.d dw (fun hm vw => v_move pr_nil) ?_; refine y_pure st.d dw (fun hm vw => v_fa pr_nil) ?_; refine y_pure st.d dw (fun hm vw => v_ld1 (vw.bx (st.at (i := 0) rfl)) rfl pr_nil) ?_; obtain ⟨n16, x16, z16, l16, g16, hF⟩ := ix_some hF; obtain ⟨b16, o16, s16, j16, r16, e16, f16, k16, rfl⟩ := RowF.get ra0 g16; refine y_pure st.d dw (fun hm vw => v_ixp e16 z16 l16 pr_nil) ?_; refine y_pure st.d dw (fun hm vw => v_ld1 (vw.fz st f16) (take_at (j := 0) k16 rfl) pr_nil) ?_; refine y_end st.d dw rfl (fun h17 ex vs => ?_)
    have st := st.ext1 ex
    obtain ⟨q18, hF⟩ := ck_some hF; refine v_sub q18 ?_; obtain ⟨q19, hF⟩ := ck_some hF; refine v_sub q19 ?_; refine v_bs (cs := [(i64 ((x15 - x16) - (1 : Int)))]) st rfl (fun b20 h21 n22 st => ?_)
    have st := St.asL st 2 rfl (n := 1) (sz := 1) rfl
    have w23 : LR rI 1 F0 [((x15 - x16) - (1 : Int))] [(i64 ((x15 - x16) - (1 : Int)))] := (LR.one (rfl))
    obtain ⟨v24, e25, hF⟩ := bnd_some hF
    refine v_call st (ct88 N e25 st.d (all_sub _) (st.row_all (i := 2) rfl w23 (by decide))) (fun n26 st => ?_)
    refine v_move ?_; refine r_nil ?_; refine th_n ?_; refine w_seq ?_; refine w_reg ?_; refine v_move ?_; refine v_move ?_; refine v_leq ?_; refine v_move ?_; refine r_nil ?_; refine th_n ?_; refine w_ret ?_; obtain rfl := inj hF
    exact end_s st (Res.t gA Res.nil) rfl rfl
  · have hF := bif_f hb13 hF; refine w_skip ?_; refine th_n ?_; refine w_seq ?_; refine w_reg ?_; refine v_move ?_; refine v_move ?_; refine v_leq ?_; refine v_move ?_; refine r_nil ?_; refine th_n ?_; refine w_ret ?_; obtain rfl := inj hF
    exact end_s st (Res.t gA Res.nil) rfl rfl
theorem ct48 (N : Nat) {a0_0 : Int} {a0_1 : Int} {a1 : Int} {a2 : Int} {r : Bool} (hF : sf48 N a0_0 a0_1 a1 a2 = some r) {fl : Nat} {h0 : Tr HBlk} {n0 : Nat} {F0 : PH} (hd : D h0 n0) (hs : F0.sub h0) : C LW fl 48 [(.agg [(i64 a0_0), (i64 a0_1)]), (i64 a1), (i64 a2)] ⟨h0, n0⟩ (KS (.bool r) n0 h0) := by
  unfold sf48 at hF
  refine in_cT hd hs lw48 rfl rfl (by rfl) (fun st T hT => ?_)
  have hfl : n0 ≤ n0 := Nat.le_refl n0
  have t0 := hT 0 _ rfl
  have t1 := hT 1 _ rfl
  have t2 := hT 2 _ rfl
  dsimp only [L48]
  refine w_seq ?_; refine w_reg ?_; refine v_box st (fun b1 h2 n3 st => ?_); refine v_move ?_; refine r_nil ?_; refine th_n ?_; refine w_seq ?_; refine w_reg ?_; refine v_fa ?_; refine v_ld1 (st.at (i := 0) rfl).2.2 rfl ?_; refine v_move ?_; refine v_fa ?_; refine v_ld1 (st.at (i := 0) rfl).2.2 rfl ?_; obtain ⟨v4, e5, hF⟩ := bnd_some hF; refine v_call st (ct37 N e5 st.d st.sub ) (fun n6 st => ?_); refine v_move ?_
  rcases Bool.eq_false_or_eq_true v4 with hb7 | hb7
  · have hF := bif_t hb7 hF; refine g_take hb7 (v_fa ?_); refine g_take hb7 (v_ld1 (st.at (i := 0) rfl).2.2 rfl ?_); refine g_take hb7 (v_move ?_); refine g_take hb7 (v_leq ?_); refine v_pick hb7 ?_; refine v_move ?_; refine r_nil ?_; refine th_n ?_; refine w_ret ?_; obtain rfl := inj hF
    exact end_s st (Res.t gA Res.nil) rfl rfl
  · have hF := bif_f hb7 hF; refine g_skip hb7 ?_; refine g_skip hb7 ?_; refine g_skip hb7 ?_; refine g_skip hb7 ?_; refine v_pick' hb7 ?_; refine v_move ?_; refine r_nil ?_; refine th_n ?_; refine w_ret ?_; obtain rfl := inj hF
    exact end_s st (Res.t gA Res.nil) rfl rfl
theorem ct71 (N : Nat) {a0_0 : Int} {a0_1 : Int} {a0_2 : Int} {a0_3 : Int} {a1_0 : Int} {a1_1 : Int} {a1_2 : Int} {a1_3 : Int} {a2 : (List Int)} {r : Bool} (hF : sf71 N a0_0 a0_1 a0_2 a0_3 a1_0 a1_1 a1_2 a1_3 a2 = some r) {fl : Nat} {h0 : Tr HBlk} {n0 : Nat} {F0 : PH} (hd : D h0 n0) (hs : F0.sub h0) {pa2 : Option (Nat × Nat)} {ca2 : Nat} (ra2 : RowF rI 1 F0 pa2 ca2 a2) : C LW fl 71 [(.agg [(i64 a0_0), (i64 a0_1), (i64 a0_2), (i64 a0_3)]), (.agg [(i64 a1_0), (i64 a1_1), (i64 a1_2), (i64 a1_3)]), (.slice pa2 (a2).length ca2)] ⟨h0, n0⟩ (KS (.bool r) n0 h0) := by
  unfold sf71 at hF
  refine in_cT hd hs lw71 rfl rfl (by rfl) (fun st T hT => ?_)
  have hfl : n0 ≤ n0 := Nat.le_refl n0
  have t0 := hT 0 _ rfl
  have t1 := hT 1 _ rfl
  have t2 := hT 2 _ rfl
  dsimp only [L71]
  refine w_seq ?_; refine w_reg ?_; refine v_box st (fun b1 h2 n3 st => ?_); refine v_box st (fun b4 h5 n6 st => ?_); refine v_move ?_; refine r_nil ?_; refine th_n ?_; refine w_seq ?_; refine w_reg ?_; refine v_move ?_; refine v_fa ?_; refine v_ld1 (st.at (i := 1) rfl).2.2 rfl ?_; obtain ⟨v7, e8, hF⟩ := bnd_some hF; refine v_call st (ct38 N e8 st.d st.sub ra2) (fun n9 st => ?_); refine v_move ?_; refine r_nil ?_; refine th_n ?_; refine w_seq ?_; refine w_drawV (Nat.le_trans hfl st.ext.le) (fun dw => ?_); refine y_pure st.d dw (fun hm vw => v_fa pr_nil) ?_; refine y_pure st.d dw (fun hm vw => v_fa pr_nil) ?_; refine y_pure st.d dw (fun hm vw => v_ld1 (vw.bx (st.at (i := 1) rfl)) rfl pr_nil) ?_
  refine y_pure st.d dw (fun hm vw => v_move pr_nil) ?_; refine y_pure st.d dw (fun hm vw => v_fa pr_nil) ?_; refine y_pure st.d dw (fun hm vw => v_ld1 (vw.bx (st.at (i := 1) rfl)) rfl pr_nil) ?_; obtain ⟨v10, e11, hF⟩ := bnd_some hF; refine y_flat st.d dw (fun hm vw => u_call (ct38 N e11 vw.d (vw.sub st) ra2) (fun n' hn' => pf_nil hn')) (fun n12 hn' dw => ?_); refine y_pure st.d dw (fun hm vw => v_move pr_nil) ?_; obtain ⟨q13, hF⟩ := ck_some hF; refine y_pure st.d dw (fun hm vw => v_sub q13 pr_nil) ?_; refine y_pure st.d dw (fun hm vw => v_max pr_nil) ?_; refine y_pure st.d dw (fun hm vw => v_fa pr_nil) ?_; refine y_pure st.d dw (fun hm vw => v_fa pr_nil) ?_; refine y_pure st.d dw (fun hm vw => v_ld1 (vw.bx (st.at (i := 1) rfl)) rfl pr_nil) ?_
  refine y_end st.d dw rfl (fun h14 ex vs => ?_)
  have st := st.ext1 ex
  refine v_move ?_; refine v_move ?_; refine r_nil ?_; refine th_n ?_; refine w_seq ?_; refine w_seq ?_; refine w_reg ?_; refine v_fa ?_; refine v_ld1 (st.at (i := 1) rfl).2.2 rfl ?_; refine v_fa ?_; refine v_ld1 (st.at (i := 0) rfl).2.2 rfl ?_; refine v_lss ?_; refine r_nil ?_; refine th_n ?_; refine v_cond (fun hb15 => ?_) (fun hb15 => ?_)
  · have hF := bif_t hb15 hF; refine w_reg ?_; refine v_move ?_; refine v_move ?_; refine v_fa ?_; refine v_ld1 (st.at (i := 1) rfl).2.2 rfl ?_; obtain ⟨q16, hF⟩ := ck_some hF; refine v_add q16 ?_; obtain ⟨v17, e18, hF⟩ := bnd_some hF; refine v_call st (ct38 N e18 st.d st.sub ra2) (fun n19 st => ?_); refine v_move ?_; obtain ⟨q20, hF⟩ := ck_some hF; refine v_sub q20 ?_; obtain ⟨q21, hF⟩ := ck_some hF; refine v_sub q21 ?_; refine v_min ?_; refine v_move ?_; refine r_nil ?_; refine th_n ?_; refine w_seq ?_; refine w_reg ?_; refine v_move ?_; refine v_move ?_; refine v_leq ?_; refine v_move ?_; refine r_nil ?_; refine th_n ?_; refine w_ret ?_; obtain rfl := inj hF
    exact end_s st (Res.t gA Res.nil) rfl rfl
  · have hF := bif_f hb15 hF; refine w_skip ?_; refine th_n ?_; refine w_seq ?_; refine w_reg ?_; refine v_move ?_; refine v_move ?_; refine v_leq ?_; refine v_move ?_; refine r_nil ?_; refine th_n ?_; refine w_ret ?_; obtain rfl := inj hF
    exact end_s st (Res.t gA Res.nil) rfl rfl
end Go.Hx.V

/- Functions of the program come to that. -/
namespace Go.Hx.V
open Go.Hx
set_option linter.unusedVariables false
set_option maxRecDepth 20000
set_option maxHeartbeats 4000000
attribute [local irreducible] W R C thenH inBlockH Tr.get Tr.set lo ck bnd ix iter
end Go.Hx.V

/- Functions of the program come to that. -/
namespace Go.Hx.V
open Go.Hx
set_option linter.unusedVariables false
set_option maxRecDepth 20000
set_option maxHeartbeats 4000000
attribute [local irreducible] W R C thenH inBlockH Tr.get Tr.set lo ck bnd ix iter
end Go.Hx.V

/- Functions of the program come to that. -/
namespace Go.Hx.V
open Go.Hx
set_option linter.unusedVariables false
set_option maxRecDepth 20000
set_option maxHeartbeats 4000000
attribute [local irreducible] W R C thenH inBlockH Tr.get Tr.set lo ck bnd ix iter
end Go.Hx.V

/- Functions of the program come to that. -/
namespace Go.Hx.V
open Go.Hx
set_option linter.unusedVariables false
set_option maxRecDepth 20000
set_option maxHeartbeats 4000000
attribute [local irreducible] W R C thenH inBlockH Tr.get Tr.set lo ck bnd ix iter
end Go.Hx.V

/- Functions of the program come to that. -/
namespace Go.Hx.V
open Go.Hx
set_option linter.unusedVariables false
set_option maxRecDepth 20000
set_option maxHeartbeats 4000000
attribute [local irreducible] W R C thenH inBlockH Tr.get Tr.set lo ck bnd ix iter
theorem ct20 (N : Nat) {a0_0 : Int} {a0_1 : Int} {a0_2 : Int} {a0_3 : Int} {r : Int} (hF : sf20 N a0_0 a0_1 a0_2 a0_3 = some r) {fl : Nat} {h0 : Tr HBlk} {n0 : Nat} {F0 : PH} (hd : D h0 n0) (hs : F0.sub h0) : C LW fl 20 [(.agg [(i64 a0_0), (i64 a0_1), (i64 a0_2), (i64 a0_3)])] ⟨h0, n0⟩ (KS (i64 r) n0 h0) := by
  unfold sf20 at hF
  refine in_cT hd hs lw20 rfl rfl (by rfl) (fun st T hT => ?_)
  have hfl : n0 ≤ n0 := Nat.le_refl n0
  have t0 := hT 0 _ rfl
  dsimp only [L20]
  refine w_seq ?_; refine w_reg ?_; refine v_box st (fun b1 h2 n3 st => ?_); refine v_move ?_; refine r_nil ?_; refine th_n ?_; refine w_seq ?_; refine w_seq ?_; refine w_reg ?_; refine v_ldn (vs := [(i64 a0_0), (i64 a0_1), (i64 a0_2), (i64 a0_3)]) (st.at (i := 0) rfl).2.2 rfl ?_; obtain ⟨v4, e5, hF⟩ := bnd_some hF; refine v_call st (ct63 N e5 st.d st.sub ) (fun n6 st => ?_); refine v_not ?_; refine r_nil ?_; refine th_n ?_; refine v_cond (fun hb7 => ?_) (fun hb7 => ?_)
  · have hF := bif_t hb7 hF; refine w_seq ?_; refine w_reg ?_; refine v_move ?_; refine r_nil ?_; refine th_n ?_; refine w_ret ?_; refine th_r ?_; obtain rfl := inj hF
    exact end_s st (Res.t gA Res.nil) rfl rfl
  · have hF := bif_f hb7 hF; refine w_skip ?_; refine th_n ?_; refine w_seq ?_; refine w_reg ?_; refine v_move ?_; refine r_nil ?_; refine th_n ?_; refine w_ret ?_; obtain rfl := inj hF
    exact end_s st (Res.t gA Res.nil) rfl rfl
theorem ct68 (N : Nat) {a0 : (List (Int × Int × Int × Int))} {a1f0_0 : Int} {a1f0_1 : Int} {a1f0_2 : Int} {a1f0_3 : Int} {r : Bool} (hF : sf68 N a0 a1f0_0 a1f0_1 a1f0_2 a1f0_3 = some r) {fl : Nat} {h0 : Tr HBlk} {n0 : Nat} {F0 : PH} (hd : D h0 n0) (hs : F0.sub h0) {pa0 : Option (Nat × Nat)} {ca0 : Nat} (ra0 : RowF (rP rI (rP rI (rP rI rI))) 4 F0 pa0 ca0 a0) : C LW fl 68 [(.slice pa0 (a0).length ca0), (.func 86 [(.agg [(i64 a1f0_0), (i64 a1f0_1), (i64 a1f0_2), (i64 a1f0_3)])] [])] ⟨h0, n0⟩ (KS (.bool r) n0 h0) := by
  unfold sf68 at hF
  refine in_cT hd hs lw68 rfl rfl (by rfl) (fun st T hT => ?_)
  have hfl : n0 ≤ n0 := Nat.le_refl n0
  have t0 := hT 0 _ rfl
  have t1 := hT 1 _ rfl
  dsimp only [L68]
  refine w_seq ?_; refine w_reg ?_; refine v_move ?_; refine r_nil ?_; refine th_n ?_; refine w_seq ?_; refine w_seq ?_; refine w_reg ?_; refine v_move ?_; refine v_len ?_; refine v_move ?_; refine r_nil ?_; refine th_n ?_; refine w_block ?_; obtain ⟨y14, hy, hF⟩ := bnd_some hF; refine v_loopD (sf68_L1 N a0 a1f0_0 a1f0_1 a1f0_2 a1f0_3) (fun x1 T ds2 h nx => ∃ (F2 : PH), ds2 = [] ∧ PH.le F0 F2 ∧ St n0 h0 F0 F2 h nx [] ∧ T.get 1 = some (.func 86 [(.agg [(i64 a1f0_0), (i64 a1f0_1), (i64 a1f0_2), (i64 a1f0_3)])] []) ∧ T.get 7 = some (.slice pa0 (a0).length ca0) ∧ T.get 8 = some (i64 ((a0).length : Int)) ∧ T.get 9 = some (i64 x1)) (fun y e a σ => (∃ u, y = (.inl u) ∧ e = .ret ∧ a.nt = 18 ∧ ∃ (F16 : PH), a.defers = [] ∧ PH.le F0 F16 ∧ St n0 h0 F0 F16 σ.h σ.nx [] ∧ a.tmps.get 4 = some (.bool false)) ∨ (∃ u, y = (.inr u) ∧ e = .exit 0 ∧ a.nt = 18 ∧ ∃ (F18 : PH), a.defers = [] ∧ PH.le F0 F18 ∧ St n0 h0 F0 F18 σ.h σ.nx [])) (fun x1 T ds2 h nx s hp hF => ?_) N _ y14 _ _ _ _ hy ⟨F0, rfl, (PH.le.refl _), st, gA, gA, gA, gA⟩ (fun e a σ hne hq => ?_)
  · obtain ⟨F2, rfl, le2, st, t1, t7, t8, t9⟩ := hp; unfold sf68_L1 at hF; unfold L68w0; refine w_seq ?_; refine w_reg ?_; refine v_lss ?_; refine r_nil ?_; refine th_n ?_; refine w_seq ?_; refine v_cond (fun hb19 => ?_) (fun hb19 => ?_)
    · have hF := bif_t hb19 hF; refine w_skip ?_; refine th_n ?_; refine w_seq ?_; refine w_block ?_; refine w_seq ?_; refine w_reg ?_; obtain ⟨n20, x20, z20, l20, g20, hF⟩ := ix_some hF; obtain ⟨b20, o20, s20, j20, r20, e20, f20, k20, ⟨_, _, rfl, rfl, ⟨_, _, rfl, rfl, ⟨_, _, rfl, rfl, rfl⟩⟩⟩⟩ := RowF.get ra0 g20; refine v_ixp e20 z20 l20 ?_; refine v_ldn (st.sub _ _ (le2 _ _ f20)) k20 ?_; refine v_alloc st (fun b21 h22 n23 st => ?_); refine v_st (cs' := [(i64 x20.1), (i64 x20.2.1), (i64 x20.2.2.1), (i64 x20.2.2.2)]) st 0 rfl rfl rfl rfl hfl (fun h24 st => ?_); refine r_nil ?_; refine th_n ?_; refine w_seq ?_; refine w_reg ?_; refine v_move ?_; refine v_ldn (vs := [(i64 x20.1), (i64 x20.2.1), (i64 x20.2.2.1), (i64 x20.2.2.2)]) (st.at (i := 0) rfl).2.2 rfl ?_
      obtain ⟨v25, e26, hF⟩ := bnd_some hF; refine v_call st (ct86 N e26 st.d st.sub ) (fun n27 st => ?_); refine v_not ?_; refine r_nil ?_; refine th_n ?_; refine v_cond (fun hb28 => ?_) (fun hb28 => ?_)
      · have hF := bif_t hb28 hF; refine w_seq ?_; refine w_reg ?_; refine v_move ?_; refine r_nil ?_; refine th_n ?_; refine w_ret ?_; refine ib_r ?_; refine th_r ?_; refine th_r ?_; refine ⟨_, (inj hF).symm, .inl ⟨_, rfl, rfl, rfl, ?_⟩⟩; dsimp only
        exact ⟨F2, rfl, le2, (st.drop (by first | exact List.Sublist.refl _ | (repeat first | exact List.nil_sublist _ | refine List.Sublist.cons_cons _ ?_ | refine List.Sublist.cons _ ?_))), gA⟩
      · have hF := bif_f hb28 hF; refine w_skip ?_; refine ib_n ?_; refine th_n ?_; refine w_reg ?_; obtain ⟨q29, hF⟩ := ck_some hF; refine v_add q29 ?_; refine v_move ?_; refine r_nil ?_; refine thn ⟨_, (inj hF).symm, rfl, ?_⟩; dsimp only
        exact ⟨F2, rfl, le2, (st.drop (by first | exact List.Sublist.refl _ | (repeat first | exact List.nil_sublist _ | refine List.Sublist.cons_cons _ ?_ | refine List.Sublist.cons _ ?_))), gA, gA, gA, gA⟩
    · have hF := bif_f hb19 hF; refine w_exit ?_; refine th_e ?_; refine th_e ?_; refine ⟨_, (inj hF).symm, .inr (⟨_, rfl, rfl, rfl, ?_⟩)⟩; dsimp only
      exact ⟨F2, rfl, le2, st⟩
  · rcases hq with hq | hq
    · obtain ⟨N9, T, ds16⟩ := a; obtain ⟨h30, n31⟩ := σ; obtain ⟨w15, rfl, rfl, e1, F16, e2, le16, st, t4⟩ := hq
      dsimp only at e1 e2
      subst e1
      subst e2
      dsimp only at st t4
      have hF := sel_l hF; refine ib_r ?_; refine th_r ?_; obtain rfl := inj hF
      exact end_s st (Res.t gA Res.nil) rfl rfl
    · obtain ⟨N9, T, ds18⟩ := a; obtain ⟨h32, n33⟩ := σ; obtain ⟨w17, rfl, rfl, e1, F18, e2, le18, st⟩ := hq
      dsimp only at e1 e2
      subst e1
      subst e2
      dsimp only at st
      have hF := sel_r hF; refine ib_e ?_; refine th_n ?_; refine w_seq ?_; refine w_reg ?_; refine v_move ?_; refine r_nil ?_; refine th_n ?_; refine w_ret ?_; obtain rfl := inj hF
      exact end_s st (Res.t gA Res.nil) rfl rfl
theorem ct68_2 (N : Nat) {a0 : (List (Int × Int × Int × Int))} {a1f0 : (List Int)} {r : Bool} (hF : sf68_2 N a0 a1f0 = some r) {fl : Nat} {h0 : Tr HBlk} {n0 : Nat} {F0 : PH} (hd : D h0 n0) (hs : F0.sub h0) {pa0 : Option (Nat × Nat)} {ca0 : Nat} {pa1f0 : Option (Nat × Nat)} {ca1f0 : Nat} (ra0 : RowF (rP rI (rP rI (rP rI rI))) 4 F0 pa0 ca0 a0) (ra1f0 : RowF rI 1 F0 pa1f0 ca1f0 a1f0) : C LW fl 68 [(.slice pa0 (a0).length ca0), (.func 69 [(.slice pa1f0 (a1f0).length ca1f0)] [])] ⟨h0, n0⟩ (KS (.bool r) n0 h0) := by
  unfold sf68_2 at hF
  refine in_cT hd hs lw68 rfl rfl (by rfl) (fun st T hT => ?_)
  have hfl : n0 ≤ n0 := Nat.le_refl n0
  have t0 := hT 0 _ rfl
  have t1 := hT 1 _ rfl
  dsimp only [L68]
  refine w_seq ?_; refine w_reg ?_; refine v_move ?_; refine r_nil ?_; refine th_n ?_; refine w_seq ?_; refine w_seq ?_; refine w_reg ?_; refine v_move ?_; refine v_len ?_; refine v_move ?_; refine r_nil ?_; refine th_n ?_; refine w_block ?_; obtain ⟨y14, hy, hF⟩ := bnd_some hF; refine v_loopD (sf68_2_L1 N a0 a1f0) (fun x1 T ds2 h nx => ∃ (F2 : PH), ds2 = [] ∧ PH.le F0 F2 ∧ St n0 h0 F0 F2 h nx [] ∧ T.get 1 = some (.func 69 [(.slice pa1f0 (a1f0).length ca1f0)] []) ∧ T.get 7 = some (.slice pa0 (a0).length ca0) ∧ T.get 8 = some (i64 ((a0).length : Int)) ∧ T.get 9 = some (i64 x1)) (fun y e a σ => (∃ u, y = (.inl u) ∧ e = .ret ∧ a.nt = 18 ∧ ∃ (F16 : PH), a.defers = [] ∧ PH.le F0 F16 ∧ St n0 h0 F0 F16 σ.h σ.nx [] ∧ a.tmps.get 4 = some (.bool false)) ∨ (∃ u, y = (.inr u) ∧ e = .exit 0 ∧ a.nt = 18 ∧ ∃ (F18 : PH), a.defers = [] ∧ PH.le F0 F18 ∧ St n0 h0 F0 F18 σ.h σ.nx [])) (fun x1 T ds2 h nx s hp hF => ?_) N _ y14 _ _ _ _ hy ⟨F0, rfl, (PH.le.refl _), st, gA, gA, gA, gA⟩ (fun e a σ hne hq => ?_)
  · obtain ⟨F2, rfl, le2, st, t1, t7, t8, t9⟩ := hp; unfold sf68_2_L1 at hF; unfold L68w0; refine w_seq ?_; refine w_reg ?_; refine v_lss ?_; refine r_nil ?_; refine th_n ?_; refine w_seq ?_; refine v_cond (fun hb19 => ?_) (fun hb19 => ?_)
    · have hF := bif_t hb19 hF; refine w_skip ?_; refine th_n ?_; refine w_seq ?_; refine w_block ?_; refine w_seq ?_; refine w_reg ?_; obtain ⟨n20, x20, z20, l20, g20, hF⟩ := ix_some hF; obtain ⟨b20, o20, s20, j20, r20, e20, f20, k20, ⟨_, _, rfl, rfl, ⟨_, _, rfl, rfl, ⟨_, _, rfl, rfl, rfl⟩⟩⟩⟩ := RowF.get ra0 g20; refine v_ixp e20 z20 l20 ?_; refine v_ldn (st.sub _ _ (le2 _ _ f20)) k20 ?_; refine v_alloc st (fun b21 h22 n23 st => ?_); refine v_st (cs' := [(i64 x20.1), (i64 x20.2.1), (i64 x20.2.2.1), (i64 x20.2.2.2)]) st 0 rfl rfl rfl rfl hfl (fun h24 st => ?_); refine r_nil ?_; refine th_n ?_; refine w_seq ?_; refine w_reg ?_; refine v_move ?_; refine v_ldn (vs := [(i64 x20.1), (i64 x20.2.1), (i64 x20.2.2.1), (i64 x20.2.2.2)]) (st.at (i := 0) rfl).2.2 rfl ?_
      obtain ⟨v25, e26, hF⟩ := bnd_some hF; refine v_call st (ct69 N e26 st.d st.sub (RowF.mono le2 ra1f0)) (fun n27 st => ?_); refine v_not ?_; refine r_nil ?_; refine th_n ?_; refine v_cond (fun hb28 => ?_) (fun hb28 => ?_)
      · have hF := bif_t hb28 hF; refine w_seq ?_; refine w_reg ?_; refine v_move ?_; refine r_nil ?_; refine th_n ?_; refine w_ret ?_; refine ib_r ?_; refine th_r ?_; refine th_r ?_; refine ⟨_, (inj hF).symm, .inl ⟨_, rfl, rfl, rfl, ?_⟩⟩; dsimp only
        exact ⟨F2, rfl, le2, (st.drop (by first | exact List.Sublist.refl _ | (repeat first | exact List.nil_sublist _ | refine List.Sublist.cons_cons _ ?_ | refine List.Sublist.cons _ ?_))), gA⟩
      · have hF := bif_f hb28 hF; refine w_skip ?_; refine ib_n ?_; refine th_n ?_; refine w_reg ?_; obtain ⟨q29, hF⟩ := ck_some hF; refine v_add q29 ?_; refine v_move ?_; refine r_nil ?_; refine thn ⟨_, (inj hF).symm, rfl, ?_⟩; dsimp only
        exact ⟨F2, rfl, le2, (st.drop (by first | exact List.Sublist.refl _ | (repeat first | exact List.nil_sublist _ | refine List.Sublist.cons_cons _ ?_ | refine List.Sublist.cons _ ?_))), gA, gA, gA, gA⟩
    · have hF := bif_f hb19 hF; refine w_exit ?_; refine th_e ?_; refine th_e ?_; refine ⟨_, (inj hF).symm, .inr (⟨_, rfl, rfl, rfl, ?_⟩)⟩; dsimp only
      exact ⟨F2, rfl, le2, st⟩
  · rcases hq with hq | hq
    · obtain ⟨N9, T, ds16⟩ := a; obtain ⟨h30, n31⟩ := σ; obtain ⟨w15, rfl, rfl, e1, F16, e2, le16, st, t4⟩ := hq
      dsimp only at e1 e2
      subst e1
      subst e2
      dsimp only at st t4
      have hF := sel_l hF; refine ib_r ?_; refine th_r ?_; obtain rfl := inj hF
      exact end_s st (Res.t gA Res.nil) rfl rfl
    · obtain ⟨N9, T, ds18⟩ := a; obtain ⟨h32, n33⟩ := σ; obtain ⟨w17, rfl, rfl, e1, F18, e2, le18, st⟩ := hq
      dsimp only at e1 e2
      subst e1
      subst e2
      dsimp only at st
      have hF := sel_r hF; refine ib_e ?_; refine th_n ?_; refine w_seq ?_; refine w_reg ?_; refine v_move ?_; refine r_nil ?_; refine th_n ?_; refine w_ret ?_; obtain rfl := inj hF
      exact end_s st (Res.t gA Res.nil) rfl rfl
theorem ct25 (N : Nat) {a0_0 : Int} {a0_1 : Int} {a0_2 : Int} {a0_3 : Int} {r : Bool} (hF : sf25 N a0_0 a0_1 a0_2 a0_3 = some r) {fl : Nat} {h0 : Tr HBlk} {n0 : Nat} {F0 : PH} (hd : D h0 n0) (hs : F0.sub h0) : C LW fl 25 [(.agg [(i64 a0_0), (i64 a0_1), (i64 a0_2), (i64 a0_3)])] ⟨h0, n0⟩ (KS (.bool r) n0 h0) := by
  unfold sf25 at hF
  refine in_cT hd hs lw25 rfl rfl (by rfl) (fun st T hT => ?_)
  have hfl : n0 ≤ n0 := Nat.le_refl n0
  have t0 := hT 0 _ rfl
  dsimp only [L25]
  refine w_seq ?_; refine w_reg ?_; refine v_box st (fun b1 h2 n3 st => ?_); refine v_move ?_; refine r_nil ?_; refine th_n ?_; refine w_seq ?_; refine w_reg ?_; refine v_fa ?_; refine v_ld1 (st.at (i := 0) rfl).2.2 rfl ?_; obtain ⟨v4, e5, hF⟩ := bnd_some hF; refine v_call st (ct37 N e5 st.d st.sub ) (fun n6 st => ?_); refine v_move ?_
  rcases Bool.eq_false_or_eq_true v4 with hb7 | hb7
  · have hF := bif_t hb7 hF; refine g_take hb7 (v_fa ?_); refine g_take hb7 (v_ldn (vs := [(i64 a0_2), (i64 a0_3)]) (st.at (i := 0) rfl).2.2 rfl ?_); obtain ⟨v8, e9, hF⟩ := bnd_some hF; refine g_take hb7 (v_call st (ct48 N e9 st.d st.sub ) (fun n10 st => ?_)); refine v_pick hb7 ?_; refine v_move ?_
    rcases Bool.eq_false_or_eq_true v8 with hb11 | hb11
    · have hF := bif_t hb11 hF; refine g_take hb11 (v_fa ?_); refine g_take hb11 (v_ld1 (st.at (i := 0) rfl).2.2 rfl ?_); obtain ⟨v12, e13, hF⟩ := bnd_some hF; refine g_take hb11 (v_call st (ct37 N e13 st.d st.sub ) (fun n14 st => ?_)); refine v_pick hb11 ?_; refine v_move ?_
      rcases Bool.eq_false_or_eq_true v12 with hb15 | hb15
      · have hF := bif_t hb15 hF; refine g_take hb15 (v_fa ?_); refine g_take hb15 (v_ld1 (st.at (i := 0) rfl).2.2 rfl ?_); refine g_take hb15 (v_fa ?_); refine g_take hb15 (v_ld1 (st.at (i := 0) rfl).2.2 rfl ?_); refine g_take hb15 (v_fa ?_); refine g_take hb15 (v_fa ?_); refine g_take hb15 (v_ld1 (st.at (i := 0) rfl).2.2 rfl ?_); obtain ⟨q16, hF⟩ := ck_some hF; refine g_take hb15 (v_mul q16 ?_); refine g_take hb15 (v_fa ?_); refine g_take hb15 (v_ld1 (st.at (i := 0) rfl).2.2 rfl ?_); refine g_take hb15 (v_fa ?_); refine g_take hb15 (v_fa ?_); refine g_take hb15 (v_ld1 (st.at (i := 0) rfl).2.2 rfl ?_); obtain ⟨q17, hF⟩ := ck_some hF; refine g_take hb15 (v_mul q17 ?_); obtain ⟨v18, e19, hF⟩ := bnd_some hF
        refine g_take hb15 (v_call st (ct37 N e19 st.d st.sub ) (fun n20 st => ?_)); refine v_pick hb15 ?_; refine v_move ?_; refine r_nil ?_; refine th_n ?_; refine w_ret ?_; obtain rfl := inj hF
        exact end_s st (Res.t gA Res.nil) rfl rfl
      · have hF := bif_f hb15 hF; refine g_skip hb15 ?_; refine g_skip hb15 ?_; refine g_skip hb15 ?_; refine g_skip hb15 ?_; refine g_skip hb15 ?_; refine g_skip hb15 ?_; refine g_skip hb15 ?_; refine g_skip hb15 ?_; refine g_skip hb15 ?_; refine g_skip hb15 ?_; refine g_skip hb15 ?_; refine g_skip hb15 ?_; refine g_skip hb15 ?_; refine g_skip hb15 ?_; refine g_skip hb15 ?_; refine v_pick' hb15 ?_; refine v_move ?_; refine r_nil ?_; refine th_n ?_; refine w_ret ?_; obtain rfl := inj hF
        exact end_s st (Res.t gA Res.nil) rfl rfl
    · have hF := bif_f hb11 hF; refine g_skip hb11 ?_; refine g_skip hb11 ?_; refine g_skip hb11 ?_; refine v_pick' hb11 ?_; refine v_move ?_; refine g_skip rfl ?_; refine g_skip rfl ?_; refine g_skip rfl ?_; refine g_skip rfl ?_; refine g_skip rfl ?_; refine g_skip rfl ?_; refine g_skip rfl ?_; refine g_skip rfl ?_; refine g_skip rfl ?_; refine g_skip rfl ?_; refine g_skip rfl ?_; refine g_skip rfl ?_; refine g_skip rfl ?_; refine g_skip rfl ?_; refine g_skip rfl ?_; refine v_pick' rfl ?_; refine v_move ?_; refine r_nil ?_; refine th_n ?_; refine w_ret ?_; obtain rfl := inj hF
      exact end_s st (Res.t gA Res.nil) rfl rfl
  · have hF := bif_f hb7 hF; refine g_skip hb7 ?_; refine g_skip hb7 ?_; refine g_skip hb7 ?_; refine v_pick' hb7 ?_; refine v_move ?_; refine g_skip rfl ?_; refine g_skip rfl ?_; refine g_skip rfl ?_; refine v_pick' rfl ?_; refine v_move ?_; refine g_skip rfl ?_; refine g_skip rfl ?_; refine g_skip rfl ?_; refine g_skip rfl ?_; refine g_skip rfl ?_; refine g_skip rfl ?_; refine g_skip rfl ?_; refine g_skip rfl ?_; refine g_skip rfl ?_; refine g_skip rfl ?_; refine g_skip rfl ?_; refine g_skip rfl ?_; refine g_skip rfl ?_; refine g_skip rfl ?_; refine g_skip rfl ?_; refine v_pick' rfl ?_; refine v_move ?_; refine r_nil ?_; refine th_n ?_; refine w_ret ?_; obtain rfl := inj hF
    exact end_s st (Res.t gA Res.nil) rfl rfl
end Go.Hx.V

/- Functions of the program come to that. -/
namespace Go.Hx.V
open Go.Hx
set_option linter.unusedVariables false
set_option maxRecDepth 20000
set_option maxHeartbeats 4000000
attribute [local irreducible] W R C thenH inBlockH Tr.get Tr.set lo ck bnd ix iter
theorem ct27 (N : Nat) {a0_0 : Int} {a0_1 : Int} {a0_2 : Int} {a0_3 : Int} {a1 : (List (Int × Int × Int × Int))} {a2 : (List Int)} {r : Bool} (hF : sf27 N a0_0 a0_1 a0_2 a0_3 a1 a2 = some r) {fl : Nat} {h0 : Tr HBlk} {n0 : Nat} {F0 : PH} (hd : D h0 n0) (hs : F0.sub h0) {pa1 : Option (Nat × Nat)} {ca1 : Nat} {pa2 : Option (Nat × Nat)} {ca2 : Nat} (ra1 : RowF (rP rI (rP rI (rP rI rI))) 4 F0 pa1 ca1 a1) (ra2 : RowF rI 1 F0 pa2 ca2 a2) : C LW fl 27 [(.agg [(i64 a0_0), (i64 a0_1), (i64 a0_2), (i64 a0_3)]), (.slice pa1 (a1).length ca1), (.slice pa2 (a2).length ca2)] ⟨h0, n0⟩ (KS (.bool r) n0 h0) := by
  unfold sf27 at hF
  refine in_cT hd hs lw27 rfl rfl (by rfl) (fun st T hT => ?_)
  have hfl : n0 ≤ n0 := Nat.le_refl n0
  have t0 := hT 0 _ rfl
  have t1 := hT 1 _ rfl
  have t2 := hT 2 _ rfl
  dsimp only [L27]
  refine w_seq ?_; refine w_reg ?_; refine v_box st (fun b1 h2 n3 st => ?_); refine v_move ?_; refine r_nil ?_; refine th_n ?_; refine w_seq ?_; refine w_seq ?_; refine w_reg ?_; refine v_move ?_; refine v_len ?_; refine v_fa ?_; refine v_ld1 (st.at (i := 0) rfl).2.2 rfl ?_; refine v_nei ?_; refine r_nil ?_; refine th_n ?_; refine v_cond (fun hb4 => ?_) (fun hb4 => ?_)
  · have hF := bif_t hb4 hF; refine w_seq ?_; refine w_reg ?_; refine v_move ?_; refine r_nil ?_; refine th_n ?_; refine w_ret ?_; refine th_r ?_; obtain rfl := inj hF
    exact end_s st (Res.t gA Res.nil) rfl rfl
  · have hF := bif_f hb4 hF; refine w_skip ?_; refine th_n ?_; refine w_seq ?_; refine w_seq ?_; refine w_reg ?_; refine v_move ?_; refine r_nil ?_; refine th_n ?_; refine w_block ?_; obtain ⟨y15, hy, hF⟩ := bnd_some hF; refine v_loopD (sf27_L1 N a0_2 a0_3 a2) (fun x5 T ds6 h nx => ∃ (F6 : PH), ds6 = [] ∧ PH.le F0 F6 ∧ St n0 h0 F0 F6 h nx [.bx b1 [(i64 a0_0), (i64 a0_1), (i64 a0_2), (i64 a0_3)]] ∧ T.get 1 = some (.slice pa1 (a1).length ca1) ∧ T.get 2 = some (.slice pa2 (a2).length ca2) ∧ T.get 3 = some (.ptr (some (b1, 0))) ∧ T.get 7 = some (i64 x5)) (fun y e a σ => (∃ u, y = (.inl u) ∧ e = .ret ∧ a.nt = 53 ∧ ∃ (F17 : PH), a.defers = [] ∧ PH.le F0 F17 ∧ St n0 h0 F0 F17 σ.h σ.nx [.bx b1 [(i64 a0_0), (i64 a0_1), (i64 a0_2), (i64 a0_3)]] ∧ a.tmps.get 6 = some (.bool false)) ∨ (∃ u, y = (.inr u) ∧ e = .exit 0 ∧ a.nt = 53 ∧ ∃ (F19 : PH), a.defers = [] ∧ PH.le F0 F19 ∧ St n0 h0 F0 F19 σ.h σ.nx [.bx b1 [(i64 a0_0), (i64 a0_1), (i64 a0_2), (i64 a0_3)]] ∧ a.tmps.get 1 = some (.slice pa1 (a1).length ca1) ∧ a.tmps.get 2 = some (.slice pa2 (a2).length ca2) ∧ a.tmps.get 3 = some (.ptr (some (b1, 0))))) (fun x5 T ds6 h nx s hp hF => ?_) N _ y15 _ _ _ _ hy ⟨F0, rfl, (PH.le.refl _), st, gA, gA, gA, gA⟩ (fun e a σ hne hq => ?_)
    · obtain ⟨F6, rfl, le6, st, t1, t2, t3, t7⟩ := hp; unfold sf27_L1 at hF; unfold L27w1; refine w_seq ?_; refine w_seq ?_; refine w_reg ?_; refine v_move ?_; refine v_move ?_; refine v_len ?_; refine v_lss ?_; refine r_nil ?_; refine th_n ?_; refine v_cond (fun hb20 => ?_) (fun hb20 => ?_)
      · have hF := bif_t hb20 hF; refine w_skip ?_; refine th_n ?_; refine w_seq ?_; refine w_block ?_; refine w_seq ?_; refine w_drawV (Nat.le_trans hfl st.ext.le) (fun dw => ?_); refine y_pure st.d dw (fun hm vw => v_move pr_nil) ?_; refine y_pure st.d dw (fun hm vw => v_move pr_nil) ?_; obtain ⟨n21, x21, z21, l21, g21, hF⟩ := ix_some hF; obtain ⟨b21, o21, s21, j21, r21, e21, f21, k21, rfl⟩ := RowF.get ra2 g21; refine y_pure st.d dw (fun hm vw => v_ixp e21 z21 l21 pr_nil) ?_; refine y_pure st.d dw (fun hm vw => v_ld1 (vw.fz st (le6 _ _ f21)) (take_at (j := 0) k21 rfl) pr_nil) ?_; refine y_pure st.d dw (fun hm vw => v_fa pr_nil) ?_; refine y_pure st.d dw (fun hm vw => v_fa pr_nil) ?_; refine y_pure st.d dw (fun hm vw => v_ld1 (vw.bx (st.at (i := 0) rfl)) rfl pr_nil) ?_
        refine y_pure st.d dw (fun hm vw => v_fa pr_nil) ?_; refine y_pure st.d dw (fun hm vw => v_fa pr_nil) ?_; refine y_pure st.d dw (fun hm vw => v_ld1 (vw.bx (st.at (i := 0) rfl)) rfl pr_nil) ?_; refine y_end st.d dw rfl (fun h22 ex vs => ?_)
        have st := st.ext1 ex
        obtain ⟨v23, e24, hF⟩ := bnd_some hF; refine v_call st (ct37 N e24 st.d st.sub ) (fun n25 st => ?_); refine v_not ?_; refine r_nil ?_; refine th_n ?_; refine v_cond (fun hb26 => ?_) (fun hb26 => ?_)
        · have hF := bif_t hb26 hF; refine w_seq ?_; refine w_reg ?_; refine v_move ?_; refine r_nil ?_; refine th_n ?_; refine w_ret ?_; refine ib_r ?_; refine th_r ?_; refine th_r ?_; refine ⟨_, (inj hF).symm, .inl ⟨_, rfl, rfl, rfl, ?_⟩⟩; dsimp only
          exact ⟨F6, rfl, le6, st, gA⟩
        · have hF := bif_f hb26 hF; refine w_skip ?_; refine ib_n ?_; refine th_n ?_; refine w_reg ?_; refine v_move ?_; obtain ⟨q27, hF⟩ := ck_some hF; refine v_add q27 ?_; refine v_move ?_; refine r_nil ?_; refine thn ⟨_, (inj hF).symm, rfl, ?_⟩; dsimp only
          exact ⟨F6, rfl, le6, st, gA, gA, gA, gA⟩
      · have hF := bif_f hb20 hF; refine w_exit ?_; refine th_e ?_; refine th_e ?_; refine ⟨_, (inj hF).symm, .inr (⟨_, rfl, rfl, rfl, ?_⟩)⟩; dsimp only
        exact ⟨F6, rfl, le6, st, gA, gA, gA⟩
    · rcases hq with hq | hq
      · obtain ⟨N9, T, ds17⟩ := a; obtain ⟨h28, n29⟩ := σ; obtain ⟨w16, rfl, rfl, e1, F17, e2, le17, st, t6⟩ := hq
        dsimp only at e1 e2
        subst e1
        subst e2
        dsimp only at st t6
        have hF := sel_l hF; refine ib_r ?_; refine th_r ?_; obtain rfl := inj hF
        exact end_s st (Res.t gA Res.nil) rfl rfl
      · obtain ⟨N9, T, ds19⟩ := a; obtain ⟨h30, n31⟩ := σ; obtain ⟨w18, rfl, rfl, e1, F19, e2, le19, st, t1, t2, t3⟩ := hq
        dsimp only at e1 e2
        subst e1
        subst e2
        dsimp only at st t1 t2 t3
        have hF := sel_r hF; refine ib_e ?_; refine th_n ?_; refine w_seq ?_; refine w_seq ?_; refine w_reg ?_; refine v_move ?_; refine r_nil ?_; refine th_n ?_; refine w_block ?_; obtain ⟨y43, hy, hF⟩ := bnd_some hF; refine v_loopD (sf27_L2 N a0_0 a0_1 a0_2 a0_3 a1 a2) (fun x32 T ds33 h nx => ∃ (F33 : PH), ds33 = [] ∧ PH.le F19 F33 ∧ St n0 h0 F0 F33 h nx [.bx b1 [(i64 a0_0), (i64 a0_1), (i64 a0_2), (i64 a0_3)]] ∧ T.get 1 = some (.slice pa1 (a1).length ca1) ∧ T.get 2 = some (.slice pa2 (a2).length ca2) ∧ T.get 3 = some (.ptr (some (b1, 0))) ∧ T.get 8 = some (i64 x32)) (fun y e a σ => (∃ u, y = (.inl u) ∧ e = .ret ∧ a.nt = 53 ∧ ∃ (F45 : PH), a.defers = [] ∧ PH.le F19 F45 ∧ St n0 h0 F0 F45 σ.h σ.nx [.bx b1 [(i64 a0_0), (i64 a0_1), (i64 a0_2), (i64 a0_3)]] ∧ a.tmps.get 6 = some (.bool false)) ∨ (∃ u, y = (.inr u) ∧ e = .exit 2 ∧ a.nt = 53 ∧ ∃ (F47 : PH), a.defers = [] ∧ PH.le F19 F47 ∧ St n0 h0 F0 F47 σ.h σ.nx [.bx b1 [(i64 a0_0), (i64 a0_1), (i64 a0_2), (i64 a0_3)]] ∧ a.tmps.get 2 = some (.slice pa2 (a2).length ca2) ∧ a.tmps.get 3 = some (.ptr (some (b1, 0))))) (fun x32 T ds33 h nx s hp hF => ?_) N _ y43 _ _ _ _ hy ⟨F19, rfl, (PH.le.refl _), st, gA, gA, gA, gA⟩ (fun e a σ hne hq => ?_)
        · obtain ⟨F33, rfl, le33, st, t1, t2, t3, t8⟩ := hp
          have le34 := PH.le.trans le19 le33
          unfold sf27_L2 at hF; unfold L27w0; refine w_seq ?_; refine w_seq ?_; refine w_reg ?_; refine v_move ?_; refine v_move ?_; refine v_len ?_; refine v_lss ?_; refine r_nil ?_; refine th_n ?_; refine v_cond (fun hb48 => ?_) (fun hb48 => ?_)
          · have hF := bif_t hb48 hF; refine w_skip ?_; refine th_n ?_; refine w_seq ?_; refine w_block ?_; refine w_seq ?_; refine w_drawV (Nat.le_trans hfl st.ext.le) (fun dw => ?_); refine y_pure st.d dw (fun hm vw => v_ldn (vs := [(i64 a0_0), (i64 a0_1), (i64 a0_2), (i64 a0_3)]) (vw.bx (st.at (i := 0) rfl)) rfl pr_nil) ?_; refine y_pure st.d dw (fun hm vw => v_move pr_nil) ?_; refine y_pure st.d dw (fun hm vw => v_move pr_nil) ?_; obtain ⟨n49, x49, z49, l49, g49, hF⟩ := ix_some hF; obtain ⟨b49, o49, s49, j49, r49, e49, f49, k49, ⟨_, _, rfl, rfl, ⟨_, _, rfl, rfl, ⟨_, _, rfl, rfl, rfl⟩⟩⟩⟩ := RowF.get ra1 g49; refine y_pure st.d dw (fun hm vw => v_ixp e49 z49 l49 pr_nil) ?_; refine y_pure st.d dw (fun hm vw => v_ldn (vw.fz st (le34 _ _ f49)) k49 pr_nil) ?_
            refine y_end st.d dw rfl (fun h50 ex vs => ?_)
            have st := st.ext1 ex
            refine v_move ?_; obtain ⟨v51, e52, hF⟩ := bnd_some hF; refine v_call st (ct71 N e52 st.d st.sub (RowF.mono le34 ra2)) (fun n53 st => ?_); refine v_not ?_; refine r_nil ?_; refine th_n ?_; refine v_cond (fun hb54 => ?_) (fun hb54 => ?_)
            · have hF := bif_t hb54 hF; refine w_seq ?_; refine w_reg ?_; refine v_move ?_; refine r_nil ?_; refine th_n ?_; refine w_ret ?_; refine ib_r ?_; refine th_r ?_; refine th_r ?_; refine ⟨_, (inj hF).symm, .inl ⟨_, rfl, rfl, rfl, ?_⟩⟩; dsimp only
              exact ⟨F33, rfl, le33, st, gA⟩
            · have hF := bif_f hb54 hF; refine w_skip ?_; refine ib_n ?_; refine th_n ?_; refine w_reg ?_; refine v_move ?_; obtain ⟨q55, hF⟩ := ck_some hF; refine v_add q55 ?_; refine v_move ?_; refine r_nil ?_; refine thn ⟨_, (inj hF).symm, rfl, ?_⟩; dsimp only
              exact ⟨F33, rfl, le33, st, gA, gA, gA, gA⟩
          · have hF := bif_f hb48 hF; refine w_exit ?_; refine th_e ?_; refine th_e ?_; refine ⟨_, (inj hF).symm, .inr (⟨_, rfl, rfl, rfl, ?_⟩)⟩; dsimp only
            exact ⟨F33, rfl, le33, st, gA, gA⟩
        · rcases hq with hq | hq
          · obtain ⟨N9, T, ds45⟩ := a; obtain ⟨h57, n58⟩ := σ; obtain ⟨w44, rfl, rfl, e1, F45, e2, le45, st, t6⟩ := hq
            dsimp only at e1 e2
            subst e1
            subst e2
            dsimp only at st t6
            have le56 := PH.le.trans le19 le45
            have hF := sel_l hF; refine ib_r ?_; refine th_r ?_; obtain rfl := inj hF
            exact end_s st (Res.t gA Res.nil) rfl rfl
          · obtain ⟨N9, T, ds47⟩ := a; obtain ⟨h60, n61⟩ := σ; obtain ⟨w46, rfl, rfl, e1, F47, e2, le47, st, t2, t3⟩ := hq
            dsimp only at e1 e2
            subst e1
            subst e2
            dsimp only at st t2 t3
            have le59 := PH.le.trans le19 le47
            have hF := sel_r hF; refine ib_e ?_; refine th_n ?_; refine w_seq ?_; refine w_drawV (Nat.le_trans hfl st.ext.le) (fun dw => ?_); refine y_pure st.d dw (fun hm vw => v_move pr_nil) ?_; refine y_pure st.d dw (fun hm vw => v_fa pr_nil) ?_; refine y_pure st.d dw (fun hm vw => v_ld1 (vw.bx (st.at (i := 0) rfl)) rfl pr_nil) ?_; obtain ⟨v62, e63, hF⟩ := bnd_some hF; refine y_flat st.d dw (fun hm vw => u_call (ct38 N e63 vw.d (vw.sub st) (RowF.mono le59 ra2)) (fun n' hn' => pf_nil hn')) (fun n64 hn' dw => ?_); refine y_pure st.d dw (fun hm vw => v_fa pr_nil) ?_; refine y_pure st.d dw (fun hm vw => v_ld1 (vw.bx (st.at (i := 0) rfl)) rfl pr_nil) ?_; refine y_end st.d dw rfl (fun h65 ex vs => ?_)
            have st := st.ext1 ex
            refine v_eqi ?_; refine v_move ?_; refine r_nil ?_; refine th_n ?_; refine w_ret ?_; obtain rfl := inj hF
            exact end_s st (Res.t gA Res.nil) rfl rfl
end Go.Hx.V

/- Functions of the program come to that. -/
namespace Go.Hx.V
open Go.Hx
set_option linter.unusedVariables false
set_option maxRecDepth 20000
set_option maxHeartbeats 4000000
attribute [local irreducible] W R C thenH inBlockH Tr.get Tr.set lo ck bnd ix iter
end Go.Hx.V

/- Functions of the program come to that. -/
namespace Go.Hx.V
open Go.Hx
set_option linter.unusedVariables false
set_option maxRecDepth 20000
set_option maxHeartbeats 4000000
attribute [local irreducible] W R C thenH inBlockH Tr.get Tr.set lo ck bnd ix iter
theorem ct64 (N : Nat) {a0_0 : Int} {a0_1 : Int} {a0_2 : Int} {a0_3 : Int} {a1 : (List (Int × Int × Int × Int))} {r : Int} (hF : sf64 N a0_0 a0_1 a0_2 a0_3 a1 = some r) {fl : Nat} {h0 : Tr HBlk} {n0 : Nat} {F0 : PH} (hd : D h0 n0) (hs : F0.sub h0) {pa1 : Option (Nat × Nat)} {ca1 : Nat} (ra1 : RowF (rP rI (rP rI (rP rI rI))) 4 F0 pa1 ca1 a1) : C LW fl 64 [(.agg [(i64 a0_0), (i64 a0_1), (i64 a0_2), (i64 a0_3)]), (.slice pa1 (a1).length ca1)] ⟨h0, n0⟩ (KS (i64 r) n0 h0) := by
  unfold sf64 at hF
  refine in_cT hd hs lw64 rfl rfl (by rfl) (fun st T hT => ?_)
  have hfl : n0 ≤ n0 := Nat.le_refl n0
  have t0 := hT 0 _ rfl
  have t1 := hT 1 _ rfl
  dsimp only [L64]
  refine w_seq ?_; refine w_reg ?_; refine v_box st (fun b1 h2 n3 st => ?_); refine v_move ?_; refine r_nil ?_; refine th_n ?_; refine w_seq ?_; refine w_seq ?_; refine w_reg ?_; refine v_ldn (vs := [(i64 a0_0), (i64 a0_1), (i64 a0_2), (i64 a0_3)]) (st.at (i := 0) rfl).2.2 rfl ?_; obtain ⟨v4, e5, hF⟩ := bnd_some hF; refine v_call st (ct20 N e5 st.d st.sub ) (fun n6 st => ?_); refine v_move ?_; refine r_nil ?_; refine th_n ?_; refine w_seq ?_; refine w_reg ?_; refine v_move ?_; refine v_nei ?_; refine r_nil ?_; refine th_n ?_; refine v_cond (fun hb7 => ?_) (fun hb7 => ?_)
  · have hF := bif_t hb7 hF; refine w_seq ?_; refine w_reg ?_; refine v_move ?_; refine v_move ?_; refine r_nil ?_; refine th_n ?_; refine w_ret ?_; refine th_r ?_; obtain rfl := inj hF
    exact end_s st (Res.t gA Res.nil) rfl rfl
  · have hF := bif_f hb7 hF; refine w_skip ?_; refine th_n ?_; refine w_seq ?_; refine w_seq ?_; refine w_reg ?_; refine v_move ?_; refine v_len ?_; refine v_gtr ?_; refine r_nil ?_; refine th_n ?_; refine v_cond (fun hb8 => ?_) (fun hb8 => ?_)
    · have hF := bif_t hb8 hF; refine w_seq ?_; refine w_reg ?_; refine v_move ?_; refine r_nil ?_; refine th_n ?_; refine w_ret ?_; refine th_r ?_; obtain rfl := inj hF
      exact end_s st (Res.t gA Res.nil) rfl rfl
    · have hF := bif_f hb8 hF; refine w_skip ?_; refine th_n ?_; refine w_seq ?_; refine w_seq ?_; refine w_reg ?_; refine v_move ?_; refine v_ldn (vs := [(i64 a0_0), (i64 a0_1), (i64 a0_2), (i64 a0_3)]) (st.at (i := 0) rfl).2.2 rfl ?_; refine v_mf ?_; obtain ⟨v9, e10, hF⟩ := bnd_some hF; refine v_call st (ct68 N e10 st.d st.sub ra1) (fun n11 st => ?_); refine v_not ?_; refine r_nil ?_; refine th_n ?_; refine v_cond (fun hb12 => ?_) (fun hb12 => ?_)
      · have hF := bif_t hb12 hF; refine w_seq ?_; refine w_reg ?_; refine v_move ?_; refine r_nil ?_; refine th_n ?_; refine w_ret ?_; refine th_r ?_; obtain rfl := inj hF
        exact end_s st (Res.t gA Res.nil) rfl rfl
      · have hF := bif_f hb12 hF; refine w_skip ?_; refine th_n ?_; refine w_seq ?_; refine w_reg ?_; refine v_move ?_; refine r_nil ?_; refine th_n ?_; refine w_ret ?_; obtain rfl := inj hF
        exact end_s st (Res.t gA Res.nil) rfl rfl
theorem ct70 (N : Nat) {a0_0 : Int} {a0_1 : Int} {a0_2 : Int} {a0_3 : Int} {a1 : (List (Int × Int × Int × Int))} {r : Int} (hF : sf70 N a0_0 a0_1 a0_2 a0_3 a1 = some r) {fl : Nat} {h0 : Tr HBlk} {n0 : Nat} {F0 : PH} (hd : D h0 n0) (hs : F0.sub h0) {pa1 : Option (Nat × Nat)} {ca1 : Nat} (ra1 : RowF (rP rI (rP rI (rP rI rI))) 4 F0 pa1 ca1 a1) : C LW fl 70 [(.agg [(i64 a0_0), (i64 a0_1), (i64 a0_2), (i64 a0_3)]), (.slice pa1 (a1).length ca1)] ⟨h0, n0⟩ (KS (i64 r) n0 h0) := by
  unfold sf70 at hF
  refine in_cT hd hs lw70 rfl rfl (by rfl) (fun st T hT => ?_)
  have hfl : n0 ≤ n0 := Nat.le_refl n0
  have t0 := hT 0 _ rfl
  have t1 := hT 1 _ rfl
  dsimp only [L70]
  refine w_seq ?_; refine w_reg ?_; refine v_box st (fun b1 h2 n3 st => ?_); refine v_move ?_; refine r_nil ?_; refine th_n ?_; refine w_seq ?_; refine w_seq ?_; refine w_reg ?_; refine v_ldn (vs := [(i64 a0_0), (i64 a0_1), (i64 a0_2), (i64 a0_3)]) (st.at (i := 0) rfl).2.2 rfl ?_; obtain ⟨v4, e5, hF⟩ := bnd_some hF; refine v_call st (ct25 N e5 st.d st.sub ) (fun n6 st => ?_); refine v_not ?_; refine r_nil ?_; refine th_n ?_; refine v_cond (fun hb7 => ?_) (fun hb7 => ?_)
  · have hF := bif_t hb7 hF; refine w_seq ?_; refine w_reg ?_; refine v_move ?_; refine r_nil ?_; refine th_n ?_; refine w_ret ?_; refine th_r ?_; obtain rfl := inj hF
    exact end_s st (Res.t gA Res.nil) rfl rfl
  · have hF := bif_f hb7 hF; refine w_skip ?_; refine th_n ?_; refine w_seq ?_; refine w_seq ?_; refine w_reg ?_; refine v_move ?_; refine v_len ?_; refine v_gtr ?_; refine r_nil ?_; refine th_n ?_; refine v_cond (fun hb8 => ?_) (fun hb8 => ?_)
    · have hF := bif_t hb8 hF; refine w_seq ?_; refine w_reg ?_; refine v_move ?_; refine r_nil ?_; refine th_n ?_; refine w_ret ?_; refine th_r ?_; obtain rfl := inj hF
      exact end_s st (Res.t gA Res.nil) rfl rfl
    · have hF := bif_f hb8 hF; refine w_skip ?_; refine th_n ?_; refine w_seq ?_; refine w_seq ?_; refine w_reg ?_; refine v_move ?_; refine r_nil ?_; refine th_n ?_; refine w_block ?_; obtain ⟨y48, hy, hF⟩ := bnd_some hF; refine v_loopD (sf70_L1 N a0_0 a1) (fun x9 T ds10 h nx => ∃ (F10 : PH), ds10 = [] ∧ PH.le F0 F10 ∧ St n0 h0 F0 F10 h nx [.bx b1 [(i64 a0_0), (i64 a0_1), (i64 a0_2), (i64 a0_3)]] ∧ T.get 1 = some (.slice pa1 (a1).length ca1) ∧ T.get 2 = some (.ptr (some (b1, 0))) ∧ T.get 5 = some (i64 x9)) (fun y e a σ => (∃ u, y = (.inl u) ∧ e = .ret ∧ a.nt = 46 ∧ ∃ (F50 : PH), a.defers = [] ∧ PH.le F0 F50 ∧ St n0 h0 F0 F50 σ.h σ.nx [.bx b1 [(i64 a0_0), (i64 a0_1), (i64 a0_2), (i64 a0_3)]] ∧ a.tmps.get 4 = some (i64 u)) ∨ (∃ u, y = (.inr u) ∧ e = .exit 0 ∧ a.nt = 46 ∧ ∃ (F52 : PH), a.defers = [] ∧ PH.le F0 F52 ∧ St n0 h0 F0 F52 σ.h σ.nx [.bx b1 [(i64 a0_0), (i64 a0_1), (i64 a0_2), (i64 a0_3)]])) (fun x9 T ds10 h nx s hp hF => ?_) N _ y48 _ _ _ _ hy ⟨F0, rfl, (PH.le.refl _), st, gA, gA, gA⟩ (fun e a σ hne hq => ?_)
      · obtain ⟨F10, rfl, le10, st, t1, t2, t5⟩ := hp; unfold sf70_L1 at hF; unfold L70w0; refine w_seq ?_; refine w_seq ?_; refine w_reg ?_; refine v_move ?_; refine v_move ?_; refine v_len ?_; refine v_lss ?_; refine r_nil ?_; refine th_n ?_; refine v_cond (fun hb53 => ?_) (fun hb53 => ?_)
        · have hF := bif_t hb53 hF; refine w_skip ?_; refine th_n ?_; refine w_seq ?_; refine w_block ?_; refine w_seq ?_; refine w_reg ?_; refine v_move ?_; refine v_move ?_; obtain ⟨n54, x54, z54, l54, g54, hF⟩ := ix_some hF; obtain ⟨b54, o54, s54, j54, r54, e54, f54, k54, ⟨_, _, rfl, rfl, ⟨_, _, rfl, rfl, ⟨_, _, rfl, rfl, rfl⟩⟩⟩⟩ := RowF.get ra1 g54; refine v_ixp e54 z54 l54 ?_; refine v_ldn (st.sub _ _ (le10 _ _ f54)) k54 ?_; refine v_alloc st (fun b55 h56 n57 st => ?_); refine v_st (cs' := [(i64 x54.1), (i64 x54.2.1), (i64 x54.2.2.1), (i64 x54.2.2.2)]) st 1 rfl rfl rfl rfl hfl (fun h58 st => ?_); refine r_nil ?_; refine th_n ?_; obtain ⟨y71, hA72, hF⟩ := bnd_some hF; refine w_cutD (fun T ds74 h nx => ∃ (F74 : PH), ds74 = [] ∧ PH.le F10 F74 ∧ St n0 h0 F0 F74 h nx [.bx b1 [(i64 a0_0), (i64 a0_1), (i64 a0_2), (i64 a0_3)], .bx b55 [(i64 x54.1), (i64 x54.2.1), (i64 x54.2.2.1), (i64 x54.2.2.2)]] ∧ T.get 1 = some (.slice pa1 (a1).length ca1) ∧ T.get 2 = some (.ptr (some (b1, 0))) ∧ T.get 5 = some (i64 x9) ∧ T.get 45 = some (.bool y71)) ?_ (fun T ds74 h nx hp => ?_)
          · have hK73 := hF
            have hF := hA72; refine w_reg ?_; refine v_fa ?_; refine v_ld1 (st.at (i := 1) rfl).2.2 rfl ?_; refine v_fa ?_; refine v_ld1 (st.at (i := 0) rfl).2.2 rfl ?_; obtain ⟨q75, hF⟩ := ck_some hF; refine v_sub q75 ?_; obtain ⟨v76, e77, hF⟩ := bnd_some hF; refine v_call st (ct37 N e77 st.d st.sub ) (fun n78 st => ?_); refine v_not ?_; refine v_move ?_
            rcases Bool.eq_false_or_eq_true (!v76) with hb79 | hb79
            · have hF := bif_t hb79 hF; refine g_skip hb79 ?_; refine g_skip hb79 ?_; refine g_skip hb79 ?_; refine g_skip hb79 ?_; refine g_skip hb79 ?_; refine g_skip hb79 ?_; refine g_skip hb79 ?_; refine g_skip hb79 ?_; refine v_pick hb79 ?_; refine v_move ?_; refine g_skip rfl ?_; refine g_skip rfl ?_; refine g_skip rfl ?_; refine g_skip rfl ?_; refine v_pick rfl ?_; refine r_nil ?_; obtain rfl := inj hF; refine thn ⟨rfl, ?_⟩; dsimp only
              exact ⟨F10, rfl, (PH.le.refl _), st, gA, gA, gA, gA⟩
            · have hF := bif_f hb79 hF; refine g_take hb79 (v_fa ?_); refine g_take hb79 (v_ld1 (st.at (i := 1) rfl).2.2 rfl ?_); refine g_take hb79 (v_fa ?_); refine g_take hb79 (v_ld1 (st.at (i := 1) rfl).2.2 rfl ?_); refine g_take hb79 (v_fa ?_); refine g_take hb79 (v_ld1 (st.at (i := 0) rfl).2.2 rfl ?_); obtain ⟨v80, e81, hF⟩ := bnd_some hF; refine g_take hb79 (v_call st (ct37 N e81 st.d st.sub ) (fun n82 st => ?_)); refine g_take hb79 (v_not ?_); refine v_pick' hb79 ?_; refine v_move ?_
              rcases Bool.eq_false_or_eq_true (!v80) with hb83 | hb83
              · have hF := bif_t hb83 hF; refine g_skip hb83 ?_; refine g_skip hb83 ?_; refine g_skip hb83 ?_; refine g_skip hb83 ?_; refine v_pick hb83 ?_; refine r_nil ?_; obtain rfl := inj hF; refine thn ⟨rfl, ?_⟩; dsimp only
                exact ⟨F10, rfl, (PH.le.refl _), st, gA, gA, gA, gA⟩
              · have hF := bif_f hb83 hF; refine g_take hb83 (v_fa ?_); refine g_take hb83 (v_ldn (vs := [(i64 x54.2.2.1), (i64 x54.2.2.2)]) (st.at (i := 1) rfl).2.2 rfl ?_); obtain ⟨v84, e85, hF⟩ := bnd_some hF; refine g_take hb83 (v_call st (ct48 N e85 st.d st.sub ) (fun n86 st => ?_)); refine g_take hb83 (v_not ?_); refine v_pick' hb83 ?_; refine r_nil ?_; obtain rfl := inj hF; refine thn ⟨rfl, ?_⟩; dsimp only
                exact ⟨F10, rfl, (PH.le.refl _), st, gA, gA, gA, gA⟩
          · obtain ⟨F74, rfl, le74, st, t1, t2, t5, t45⟩ := hp
            have le87 := PH.le.trans le10 le74
            refine v_cond (fun hb88 => ?_) (fun hb88 => ?_)
            · have hF := bif_t hb88 hF; refine w_seq ?_; refine w_reg ?_; refine v_move ?_; refine r_nil ?_; refine th_n ?_; refine w_ret ?_; refine ib_r ?_; refine th_r ?_; refine th_r ?_; refine ⟨_, (inj hF).symm, .inl ⟨_, rfl, rfl, rfl, ?_⟩⟩; dsimp only
              exact ⟨F74, rfl, le87, (st.drop (by first | exact List.Sublist.refl _ | (repeat first | exact List.nil_sublist _ | refine List.Sublist.cons_cons _ ?_ | refine List.Sublist.cons _ ?_))), gA⟩
            · have hF := bif_f hb88 hF; refine w_skip ?_; refine ib_n ?_; refine th_n ?_; refine w_reg ?_; refine v_move ?_; obtain ⟨q89, hF⟩ := ck_some hF; refine v_add q89 ?_; refine v_move ?_; refine r_nil ?_; refine thn ⟨_, (inj hF).symm, rfl, ?_⟩; dsimp only
              exact ⟨F74, rfl, le87, (st.drop (by first | exact List.Sublist.refl _ | (repeat first | exact List.nil_sublist _ | refine List.Sublist.cons_cons _ ?_ | refine List.Sublist.cons _ ?_))), gA, gA, gA⟩
        · have hF := bif_f hb53 hF; refine w_exit ?_; refine th_e ?_; refine th_e ?_; refine ⟨_, (inj hF).symm, .inr (⟨_, rfl, rfl, rfl, ?_⟩)⟩; dsimp only
          exact ⟨F10, rfl, le10, st⟩
      · rcases hq with hq | hq
        · obtain ⟨N9, T, ds50⟩ := a; obtain ⟨h90, n91⟩ := σ; obtain ⟨w49, rfl, rfl, e1, F50, e2, le50, st, t4⟩ := hq
          dsimp only at e1 e2
          subst e1
          subst e2
          dsimp only at st t4
          have hF := sel_l hF; refine ib_r ?_; refine th_r ?_; obtain rfl := inj hF
          exact end_s st (Res.t gA Res.nil) rfl rfl
        · obtain ⟨N9, T, ds52⟩ := a; obtain ⟨h92, n93⟩ := σ; obtain ⟨w51, rfl, rfl, e1, F52, e2, le52, st⟩ := hq
          dsimp only at e1 e2
          subst e1
          subst e2
          dsimp only at st
          have hF := sel_r hF; refine ib_e ?_; refine th_n ?_; refine w_seq ?_; refine w_reg ?_; refine v_move ?_; refine r_nil ?_; refine th_n ?_; refine w_ret ?_; obtain rfl := inj hF
          exact end_s st (Res.t gA Res.nil) rfl rfl
end Go.Hx.V

/- Functions of the program come to that. -/
namespace Go.Hx.V
open Go.Hx
set_option linter.unusedVariables false
set_option maxRecDepth 20000
set_option maxHeartbeats 4000000
attribute [local irreducible] W R C thenH inBlockH Tr.get Tr.set lo ck bnd ix iter
theorem ct22 (N : Nat) {a0_0 : Int} {a0_1 : Int} {a0_2 : Int} {a0_3 : Int} {a1 : (List (Int × Int × Int × Int))} {a2 : (List Int)} {r : Bool} (hF : sf22 N a0_0 a0_1 a0_2 a0_3 a1 a2 = some r) {fl : Nat} {h0 : Tr HBlk} {n0 : Nat} {F0 : PH} (hd : D h0 n0) (hs : F0.sub h0) {pa1 : Option (Nat × Nat)} {ca1 : Nat} {pa2 : Option (Nat × Nat)} {ca2 : Nat} (ra1 : RowF (rP rI (rP rI (rP rI rI))) 4 F0 pa1 ca1 a1) (ra2 : RowF rI 1 F0 pa2 ca2 a2) : C LW fl 22 [(.agg [(i64 a0_0), (i64 a0_1), (i64 a0_2), (i64 a0_3)]), (.slice pa1 (a1).length ca1), (.slice pa2 (a2).length ca2)] ⟨h0, n0⟩ (KS (.bool r) n0 h0) := by
  unfold sf22 at hF
  refine in_cT hd hs lw22 rfl rfl (by rfl) (fun st T hT => ?_)
  have hfl : n0 ≤ n0 := Nat.le_refl n0
  have t0 := hT 0 _ rfl
  have t1 := hT 1 _ rfl
  have t2 := hT 2 _ rfl
  dsimp only [L22]
  refine w_seq ?_; refine w_reg ?_; refine v_box st (fun b1 h2 n3 st => ?_); refine v_move ?_; refine r_nil ?_; refine th_n ?_; obtain ⟨y25, hA26, hF⟩ := bnd_some hF; refine w_cutD (fun T ds31 h nx => ∃ u, y25 = (.inr u) ∧ ∃ (F31 : PH), ds31 = [] ∧ PH.le F0 F31 ∧ St n0 h0 F0 F31 h nx [.bx b1 [(i64 a0_0), (i64 a0_1), (i64 a0_2), (i64 a0_3)]] ∧ T.get 1 = some (.slice pa1 (a1).length ca1) ∧ T.get 2 = some (.slice pa2 (a2).length ca2) ∧ T.get 3 = some (.ptr (some (b1, 0)))) ?_ (fun T ds31 h nx hp => ?_)
  · have hK27 := hF
    have hF := hA26; obtain ⟨y40, hA41, hF⟩ := bnd_some hF; refine w_cutD (fun T ds43 h nx => ∃ (F43 : PH), ds43 = [] ∧ PH.le F0 F43 ∧ St n0 h0 F0 F43 h nx [.bx b1 [(i64 a0_0), (i64 a0_1), (i64 a0_2), (i64 a0_3)]] ∧ T.get 1 = some (.slice pa1 (a1).length ca1) ∧ T.get 2 = some (.slice pa2 (a2).length ca2) ∧ T.get 3 = some (.ptr (some (b1, 0))) ∧ T.get 26 = some (.bool y40)) ?_ (fun T ds43 h nx hp => ?_)
    · have hK42 := hF
      have hF := hA41; refine w_reg ?_; refine v_ldn (vs := [(i64 a0_0), (i64 a0_1), (i64 a0_2), (i64 a0_3)]) (st.at (i := 0) rfl).2.2 rfl ?_; refine v_move ?_; obtain ⟨v44, e45, hF⟩ := bnd_some hF; refine v_call st (ct64 N e45 st.d st.sub ra1) (fun n46 st => ?_); refine v_nei ?_; refine v_move ?_
      rcases Bool.eq_false_or_eq_true (!(decide (v44 = (0 : Int)))) with hb47 | hb47
      · have hF := bif_t hb47 hF; refine g_skip hb47 ?_; refine g_skip hb47 ?_; refine g_skip hb47 ?_; refine g_skip hb47 ?_; refine g_skip hb47 ?_; refine v_pick hb47 ?_; refine v_move ?_; refine g_skip rfl ?_; refine g_skip rfl ?_; refine g_skip rfl ?_; refine g_skip rfl ?_; refine g_skip rfl ?_; refine g_skip rfl ?_; refine v_pick rfl ?_; refine r_nil ?_; obtain rfl := inj hF; refine thn ⟨rfl, ?_⟩; dsimp only
        exact ⟨F0, rfl, (PH.le.refl _), st, gA, gA, gA, gA⟩
      · have hF := bif_f hb47 hF; refine g_take hb47 (v_move ?_); refine g_take hb47 (v_len ?_); refine g_take hb47 (v_fa ?_); refine g_take hb47 (v_ld1 (st.at (i := 0) rfl).2.2 rfl ?_); refine g_take hb47 (v_nei ?_); refine v_pick' hb47 ?_; refine v_move ?_
        rcases Bool.eq_false_or_eq_true (!(decide (((a2).length : Int) = a0_0))) with hb48 | hb48
        · have hF := bif_t hb48 hF; refine g_skip hb48 ?_; refine g_skip hb48 ?_; refine g_skip hb48 ?_; refine g_skip hb48 ?_; refine g_skip hb48 ?_; refine g_skip hb48 ?_; refine v_pick hb48 ?_; refine r_nil ?_; obtain rfl := inj hF; refine thn ⟨rfl, ?_⟩; dsimp only
          exact ⟨F0, rfl, (PH.le.refl _), st, gA, gA, gA, gA⟩
        · have hF := bif_f hb48 hF; refine g_take hb48 (v_move ?_); refine g_take hb48 (v_fa ?_); refine g_take hb48 (v_ldn (vs := [(i64 a0_2), (i64 a0_3)]) (st.at (i := 0) rfl).2.2 rfl ?_); refine g_take hb48 (v_mf ?_); obtain ⟨v49, e50, hF⟩ := bnd_some hF; refine g_take hb48 (v_call st (ct65 N e50 st.d st.sub ra2) (fun n51 st => ?_)); refine g_take hb48 (v_not ?_); refine v_pick' hb48 ?_; refine r_nil ?_; obtain rfl := inj hF; refine thn ⟨rfl, ?_⟩; dsimp only
          exact ⟨F0, rfl, (PH.le.refl _), st, gA, gA, gA, gA⟩
    · obtain ⟨F43, rfl, le43, st, t1, t2, t3, t26⟩ := hp; refine v_cond (fun hb52 => ?_) (fun hb52 => ?_)
      · have hF := bif_t hb52 hF; refine w_seq ?_; refine w_reg ?_; refine v_move ?_; refine r_nil ?_; refine th_n ?_; refine w_ret ?_; obtain rfl := inj hF; have hF := hK27; have hF := sel_l hF; refine th_r ?_; obtain rfl := inj hF
        exact end_s st (Res.t gA Res.nil) rfl rfl
      · have hF := bif_f hb52 hF; refine w_skip ?_; obtain rfl := inj hF; refine thn ⟨rfl, _, rfl, ?_⟩; dsimp only
        exact ⟨F43, rfl, le43, st, gA, gA, gA⟩
  · obtain ⟨w30, rfl, F31, rfl, le31, st, t1, t2, t3⟩ := hp; have hF := sel_r hF; refine w_seq ?_; refine w_reg ?_; refine v_move ?_; obtain ⟨v53, e54, hF⟩ := bnd_some hF; refine v_callR st (ct67 N e54 st.d st.sub (Nat.le_trans hfl st.ext.le) (RowF.mono le31 ra2)) (fun u55 F55 h55 n55 le55 rv55 st => ?_)
    have le56 := PH.le.trans le31 le55
    obtain ⟨py57, cy57, rfl, ry57⟩ := rv55; refine v_move ?_; refine r_nil ?_; refine th_n ?_; refine w_seq ?_; refine w_drawV (Nat.le_trans hfl st.ext.le) (fun dw => ?_); refine y_pure st.d dw (fun hm vw => v_move pr_nil) ?_; refine y_pure st.d dw (fun hm vw => v_fa pr_nil) ?_; refine y_pure st.d dw (fun hm vw => v_ld1 (vw.bx (st.at (i := 0) rfl)) rfl pr_nil) ?_; obtain ⟨n58, x58, z58, l58, g58, hF⟩ := ix_some hF; obtain ⟨b58, o58, s58, j58, r58, e58, f58, k58, rfl⟩ := RowF.get ry57 g58; refine y_pure st.d dw (fun hm vw => v_ixp e58 z58 l58 pr_nil) ?_; refine y_pure st.d dw (fun hm vw => v_ld1 (vw.fz st f58) (take_at (j := 0) k58 rfl) pr_nil) ?_; refine y_pure st.d dw (fun hm vw => v_fa pr_nil) ?_
    refine y_pure st.d dw (fun hm vw => v_ld1 (vw.bx (st.at (i := 0) rfl)) rfl pr_nil) ?_; refine y_end st.d dw rfl (fun h59 ex vs => ?_)
    have st := st.ext1 ex
    refine v_eqi ?_; refine v_move ?_
    rcases Bool.eq_false_or_eq_true (decide (x58 = a0_1)) with hb60 | hb60
    · have hF := bif_t hb60 hF; refine g_take hb60 (v_move ?_); refine g_take hb60 (v_move ?_); refine g_take hb60 (v_mf ?_); obtain ⟨v61, e62, hF⟩ := bnd_some hF; refine g_take hb60 (v_call st (ct68_2 N e62 st.d st.sub (RowF.mono le56 ra1) ry57) (fun n63 st => ?_)); refine v_pick hb60 ?_; refine v_move ?_; refine r_nil ?_; refine th_n ?_; refine w_ret ?_; obtain rfl := inj hF
      exact end_s st (Res.t gA Res.nil) rfl rfl
    · have hF := bif_f hb60 hF; refine g_skip hb60 ?_; refine g_skip hb60 ?_; refine g_skip hb60 ?_; refine g_skip hb60 ?_; refine v_pick' hb60 ?_; refine v_move ?_; refine r_nil ?_; refine th_n ?_; refine w_ret ?_; obtain rfl := inj hF
      exact end_s st (Res.t gA Res.nil) rfl rfl
theorem ct26 (N : Nat) {a0_0 : Int} {a0_1 : Int} {a0_2 : Int} {a0_3 : Int} {a1 : (List (Int × Int × Int × Int))} {r : Int} (hF : sf26 N a0_0 a0_1 a0_2 a0_3 a1 = some r) {fl : Nat} {h0 : Tr HBlk} {n0 : Nat} {F0 : PH} (hd : D h0 n0) (hs : F0.sub h0) {pa1 : Option (Nat × Nat)} {ca1 : Nat} (ra1 : RowF (rP rI (rP rI (rP rI rI))) 4 F0 pa1 ca1 a1) : C LW fl 26 [(.agg [(i64 a0_0), (i64 a0_1), (i64 a0_2), (i64 a0_3)]), (.slice pa1 (a1).length ca1)] ⟨h0, n0⟩ (KS (i64 r) n0 h0) := by
  unfold sf26 at hF
  refine in_cT hd hs lw26 rfl rfl (by rfl) (fun st T hT => ?_)
  have hfl : n0 ≤ n0 := Nat.le_refl n0
  have t0 := hT 0 _ rfl
  have t1 := hT 1 _ rfl
  dsimp only [L26]
  refine w_seq ?_; refine w_reg ?_; refine v_box st (fun b1 h2 n3 st => ?_); refine v_move ?_; refine r_nil ?_; refine th_n ?_; refine w_seq ?_; refine w_reg ?_; refine v_ldn (vs := [(i64 a0_0), (i64 a0_1), (i64 a0_2), (i64 a0_3)]) (st.at (i := 0) rfl).2.2 rfl ?_; refine v_move ?_; obtain ⟨v4, e5, hF⟩ := bnd_some hF; refine v_call st (ct70 N e5 st.d st.sub ra1) (fun n6 st => ?_); refine v_move ?_; refine r_nil ?_; refine th_n ?_; refine w_ret ?_; obtain rfl := inj hF
  exact end_s st (Res.t gA Res.nil) rfl rfl
end Go.Hx.V

/- Functions of the program come to that. -/
namespace Go.Hx.V
open Go.Hx
set_option linter.unusedVariables false
set_option maxRecDepth 20000
set_option maxHeartbeats 4000000
attribute [local irreducible] W R C thenH inBlockH Tr.get Tr.set lo ck bnd ix iter
theorem ct3 (N : Nat) {a0_0 : Int} {a0_1 : Int} {a0_2 : Int} {a0_3 : Int} {a1 : (List (Int × Int × Int × Int))} {a2 : (List Int)} {r : Bool} (hF : sf3 N a0_0 a0_1 a0_2 a0_3 a1 a2 = some r) {fl : Nat} {h0 : Tr HBlk} {n0 : Nat} {F0 : PH} (hd : D h0 n0) (hs : F0.sub h0) {pa1 : Option (Nat × Nat)} {ca1 : Nat} {pa2 : Option (Nat × Nat)} {ca2 : Nat} (ra1 : RowF (rP rI (rP rI (rP rI rI))) 4 F0 pa1 ca1 a1) (ra2 : RowF rI 1 F0 pa2 ca2 a2) : C LW fl 3 [(.agg [(i64 a0_0), (i64 a0_1), (i64 a0_2), (i64 a0_3)]), (.slice pa1 (a1).length ca1), (.slice pa2 (a2).length ca2)] ⟨h0, n0⟩ (KS (.bool r) n0 h0) := by
  unfold sf3 at hF
  refine in_cT hd hs lw3 rfl rfl (by rfl) (fun st T hT => ?_)
  have hfl : n0 ≤ n0 := Nat.le_refl n0
  have t0 := hT 0 _ rfl
  have t1 := hT 1 _ rfl
  have t2 := hT 2 _ rfl
  dsimp only [L3]
  refine w_seq ?_; refine w_reg ?_; refine v_box st (fun b1 h2 n3 st => ?_); refine v_move ?_; refine r_nil ?_; refine th_n ?_; obtain ⟨y12, hA13, hF⟩ := bnd_some hF; refine w_cutD (fun T ds18 h nx => ∃ u, y12 = (.inr u) ∧ ∃ (F18 : PH), ds18 = [] ∧ PH.le F0 F18 ∧ St n0 h0 F0 F18 h nx [.bx b1 [(i64 a0_0), (i64 a0_1), (i64 a0_2), (i64 a0_3)]] ∧ T.get 1 = some (.slice pa1 (a1).length ca1) ∧ T.get 2 = some (.slice pa2 (a2).length ca2) ∧ T.get 3 = some (.ptr (some (b1, 0)))) ?_ (fun T ds18 h nx hp => ?_)
  · have hK14 := hF
    have hF := hA13; obtain ⟨y20, hA21, hF⟩ := bnd_some hF; refine w_cutD (fun T ds23 h nx => ∃ (F23 : PH), ds23 = [] ∧ PH.le F0 F23 ∧ St n0 h0 F0 F23 h nx [.bx b1 [(i64 a0_0), (i64 a0_1), (i64 a0_2), (i64 a0_3)]] ∧ T.get 1 = some (.slice pa1 (a1).length ca1) ∧ T.get 2 = some (.slice pa2 (a2).length ca2) ∧ T.get 3 = some (.ptr (some (b1, 0))) ∧ T.get 17 = some (.bool y20)) ?_ (fun T ds23 h nx hp => ?_)
    · have hK22 := hF
      have hF := hA21; refine w_reg ?_; refine v_move ?_; refine v_len ?_; refine v_gtr ?_; refine v_move ?_
      rcases Bool.eq_false_or_eq_true (decide ((15 : Int) < ((a1).length : Int))) with hb24 | hb24
      · have hF := bif_t hb24 hF; refine g_skip hb24 ?_; refine g_skip hb24 ?_; refine g_skip hb24 ?_; refine v_pick hb24 ?_; refine r_nil ?_; obtain rfl := inj hF; refine thn ⟨rfl, ?_⟩; dsimp only
        exact ⟨F0, rfl, (PH.le.refl _), st, gA, gA, gA, gA⟩
      · have hF := bif_f hb24 hF; refine g_take hb24 (v_move ?_); refine g_take hb24 (v_len ?_); refine g_take hb24 (v_gtr ?_); refine v_pick' hb24 ?_; refine r_nil ?_; obtain rfl := inj hF; refine thn ⟨rfl, ?_⟩; dsimp only
        exact ⟨F0, rfl, (PH.le.refl _), st, gA, gA, gA, gA⟩
    · obtain ⟨F23, rfl, le23, st, t1, t2, t3, t17⟩ := hp; refine v_cond (fun hb25 => ?_) (fun hb25 => ?_)
      · have hF := bif_t hb25 hF; refine w_seq ?_; refine w_reg ?_; refine v_call st (ct_wakes (h := _) (nx := _)) (fun n26 st => ?_); refine v_move ?_; refine r_nil ?_; refine th_n ?_; refine w_ret ?_; obtain rfl := inj hF; have hF := hK14; have hF := sel_l hF; refine th_r ?_; obtain rfl := inj hF
        exact end_s st (Res.t gA Res.nil) rfl rfl
      · have hF := bif_f hb25 hF; refine w_skip ?_; obtain rfl := inj hF; refine thn ⟨rfl, _, rfl, ?_⟩; dsimp only
        exact ⟨F23, rfl, le23, st, gA, gA, gA⟩
  · obtain ⟨w17, rfl, F18, rfl, le18, st, t1, t2, t3⟩ := hp; have hF := sel_r hF; refine w_seq ?_; refine w_reg ?_; refine v_ldn (vs := [(i64 a0_0), (i64 a0_1), (i64 a0_2), (i64 a0_3)]) (st.at (i := 0) rfl).2.2 rfl ?_; obtain ⟨v27, e28, hF⟩ := bnd_some hF; refine v_call st (ct21 N e28 st.d st.sub ) (fun n29 st => ?_); obtain ⟨v30, e31, hF⟩ := bnd_some hF; refine v_call st (ct20 N e31 st.d st.sub ) (fun n32 st => ?_); refine v_move ?_; refine r_nil ?_; refine th_n ?_; refine w_seq ?_; refine w_reg ?_; refine v_ldn (vs := [(i64 a0_0), (i64 a0_1), (i64 a0_2), (i64 a0_3)]) (st.at (i := 0) rfl).2.2 rfl ?_; obtain ⟨v33, e34, hF⟩ := bnd_some hF; refine v_call st (ct21 N e34 st.d st.sub ) (fun n35 st => ?_)
    refine v_move ?_; obtain ⟨v36, e37, hF⟩ := bnd_some hF; refine v_callR st (ct23 N e37 st.d st.sub (Nat.le_trans hfl st.ext.le) (RowF.mono le18 ra1)) (fun u38 F38 h38 n38 le38 rv38 st => ?_)
    have le39 := PH.le.trans le18 le38
    obtain ⟨py40, cy40, rfl, ry40⟩ := rv38; refine v_move ?_; obtain ⟨v41, e42, hF⟩ := bnd_some hF; refine v_callR st (ct24 N e42 st.d st.sub (Nat.le_trans hfl st.ext.le) (RowF.mono le39 ra2)) (fun u43 F43 h43 n43 le43 rv43 st => ?_)
    have le44 := PH.le.trans le39 le43
    have le45 := PH.le.trans le38 le43
    obtain ⟨py46, cy46, rfl, ry46⟩ := rv43; obtain ⟨v47, e48, hF⟩ := bnd_some hF; refine v_call st (ct22 N e48 st.d st.sub (RowF.mono le43 ry40) ry46) (fun n49 st => ?_); refine v_move ?_; refine r_nil ?_; refine th_n ?_; refine w_seq ?_; refine w_reg ?_; refine v_move ?_; refine r_nil ?_; refine th_n ?_; obtain ⟨y54, hA55, hF⟩ := bnd_some hF; refine w_cutD (fun T ds57 h nx => ∃ (F57 : PH), ds57 = [] ∧ PH.le F43 F57 ∧ St n0 h0 F0 F57 h nx [.bx b1 [(i64 a0_0), (i64 a0_1), (i64 a0_2), (i64 a0_3)]] ∧ T.get 1 = some (.slice pa1 (a1).length ca1) ∧ T.get 2 = some (.slice pa2 (a2).length ca2) ∧ T.get 3 = some (.ptr (some (b1, 0))) ∧ T.get 7 = some (i64 v30) ∧ T.get 8 = some (.bool v47) ∧ T.get 9 = some (i64 y54)) ?_ (fun T ds57 h nx hp => ?_)
    · have hK56 := hF
      have hF := hA55; refine w_seq ?_; refine w_reg ?_; refine v_ldn (vs := [(i64 a0_0), (i64 a0_1), (i64 a0_2), (i64 a0_3)]) (st.at (i := 0) rfl).2.2 rfl ?_; obtain ⟨v58, e59, hF⟩ := bnd_some hF; refine v_call st (ct25 N e59 st.d st.sub ) (fun n60 st => ?_); refine v_not ?_; refine r_nil ?_; refine th_n ?_; refine v_cond (fun hb61 => ?_) (fun hb61 => ?_)
      · have hF := bif_t hb61 hF; refine w_reg ?_; refine v_move ?_; refine r_nil ?_; obtain rfl := inj hF; refine thn ⟨rfl, ?_⟩; dsimp only
        exact ⟨F43, rfl, (PH.le.refl _), st, gA, gA, gA, gA, gA, gA⟩
      · have hF := bif_f hb61 hF; refine w_skip ?_; obtain rfl := inj hF; refine thn ⟨rfl, ?_⟩; dsimp only
        exact ⟨F43, rfl, (PH.le.refl _), st, gA, gA, gA, gA, gA, gA⟩
    · obtain ⟨F57, rfl, le57, st, t1, t2, t3, t7, t8, t9⟩ := hp
      have le62 := PH.le.trans le44 le57
      have le63 := PH.le.trans le45 le57
      have le64 := PH.le.trans le43 le57
      refine w_seq ?_; refine w_reg ?_; refine v_move ?_; refine v_move ?_; refine v_eqi ?_; refine v_move ?_
      rcases Bool.eq_false_or_eq_true (decide (v30 = y54)) with hb65 | hb65
      · have hF := bif_t hb65 hF; refine g_take hb65 (v_move ?_); refine g_take hb65 (v_ldn (vs := [(i64 a0_0), (i64 a0_1), (i64 a0_2), (i64 a0_3)]) (st.at (i := 0) rfl).2.2 rfl ?_); refine g_take hb65 (v_move ?_); obtain ⟨v66, e67, hF⟩ := bnd_some hF; refine g_take hb65 (v_call st (ct26 N e67 st.d st.sub (RowF.mono le62 ra1)) (fun n68 st => ?_)); refine g_take hb65 (v_eqi ?_); refine g_take hb65 (v_move ?_)
        rcases Bool.eq_false_or_eq_true (decide (v66 = (0 : Int))) with hb69 | hb69
        · have hF := bif_t hb69 hF; refine g_take hb69 (v_ldn (vs := [(i64 a0_0), (i64 a0_1), (i64 a0_2), (i64 a0_3)]) (st.at (i := 0) rfl).2.2 rfl ?_); refine g_take hb69 (v_move ?_); refine g_take hb69 (v_move ?_); obtain ⟨v70, e71, hF⟩ := bnd_some hF; refine g_take hb69 (v_call st (ct27 N e71 st.d st.sub (RowF.mono le62 ra1) (RowF.mono le62 ra2)) (fun n72 st => ?_)); refine g_take hb65 (v_pick hb69 ?_); refine g_take hb65 (v_eqb ?_); refine v_pick hb65 ?_; refine v_move ?_
          rcases Bool.eq_false_or_eq_true (v47 == v70) with hb73 | hb73
          · have hF := bif_t hb73 hF; refine g_take hb73 (v_call st (ct_wakes (h := _) (nx := _)) (fun n74 st => ?_)); refine v_pick hb73 ?_; refine v_move ?_; refine r_nil ?_; refine th_n ?_; refine w_ret ?_; obtain rfl := inj hF
            exact end_s st (Res.t gA Res.nil) rfl rfl
          · have hF := bif_f hb73 hF; refine g_skip hb73 ?_; refine v_pick' hb73 ?_; refine v_move ?_; refine r_nil ?_; refine th_n ?_; refine w_ret ?_; obtain rfl := inj hF
            exact end_s st (Res.t gA Res.nil) rfl rfl
        · have hF := bif_f hb69 hF; refine g_skip hb69 ?_; refine g_skip hb69 ?_; refine g_skip hb69 ?_; refine g_skip hb69 ?_; refine g_take hb65 (v_pick' hb69 ?_); refine g_take hb65 (v_eqb ?_); refine v_pick hb65 ?_; refine v_move ?_
          rcases Bool.eq_false_or_eq_true (v47 == false) with hb75 | hb75
          · have hF := bif_t hb75 hF; refine g_take hb75 (v_call st (ct_wakes (h := _) (nx := _)) (fun n76 st => ?_)); refine v_pick hb75 ?_; refine v_move ?_; refine r_nil ?_; refine th_n ?_; refine w_ret ?_; obtain rfl := inj hF
            exact end_s st (Res.t gA Res.nil) rfl rfl
          · have hF := bif_f hb75 hF; refine g_skip hb75 ?_; refine v_pick' hb75 ?_; refine v_move ?_; refine r_nil ?_; refine th_n ?_; refine w_ret ?_; obtain rfl := inj hF
            exact end_s st (Res.t gA Res.nil) rfl rfl
      · have hF := bif_f hb65 hF; refine g_skip hb65 ?_; refine g_skip hb65 ?_; refine g_skip hb65 ?_; refine g_skip hb65 ?_; refine g_skip hb65 ?_; refine g_skip hb65 ?_; refine g_skipu ?_; refine g_skipu ?_; refine g_skipu ?_; refine g_skipu ?_; refine g_skip hb65 ?_; refine g_skip hb65 ?_; refine v_pick' hb65 ?_; refine v_move ?_; refine g_skip rfl ?_; refine v_pick' rfl ?_; refine v_move ?_; refine r_nil ?_; refine th_n ?_; refine w_ret ?_; obtain rfl := inj hF
        exact end_s st (Res.t gA Res.nil) rfl rfl
end Go.Hx.V

/- Functions of the program come to that. -/
namespace Go.Hx.V
open Go.Hx
set_option linter.unusedVariables false
set_option maxRecDepth 20000
set_option maxHeartbeats 4000000
attribute [local irreducible] W R C thenH inBlockH Tr.get Tr.set lo ck bnd ix iter
end Go.Hx.V

/- Functions of the program come to that. -/
namespace Go.Hx.V
open Go.Hx
set_option linter.unusedVariables false
set_option maxRecDepth 20000
set_option maxHeartbeats 4000000
attribute [local irreducible] W R C thenH inBlockH Tr.get Tr.set lo ck bnd ix iter
end Go.Hx.V


/- Loops of functions on lists and numbers: what they come to. -/
namespace Go.Hx.V
open Go.Hx
theorem iter_run {α β : Type} {step : α → Option (α ⊕ β)} (s : Nat → α) (y : β) : ∀ (n i N : Nat), (∀ j, i ≤ j → j < i + n → step (s j) = some (.inl (s (j + 1)))) → step (s (i + n)) = some (.inr y) → n < N → iter step N (s i) = some y
  | 0, i, N, hs, he, hN => by
    obtain ⟨N, rfl⟩ : ∃ k, N = k + 1 := ⟨N - 1, by omega⟩
    unfold iter; rw [Nat.add_zero] at he; rw [he]; rfl
  | n + 1, i, N, hs, he, hN => by
    obtain ⟨N, rfl⟩ : ∃ k, N = k + 1 := ⟨N - 1, by omega⟩
    unfold iter
    rw [hs i (by omega) (by omega)]
    exact iter_run s y n (i + 1) N (fun j h1 h2 => hs j (by omega) (by omega)) (by rw [show i + 1 + n = i + (n + 1) by omega]; exact he) (by omega)
/-- A loop from 0 on. -/
theorem iter_up {α β : Type} {step : α → Option (α ⊕ β)} {x : α} {N : Nat} (s : Nat → α) (n : Nat) (y : β) (hx : x = s 0) (hs : ∀ j, j < n → step (s j) = some (.inl (s (j + 1)))) (he : step (s n) = some (.inr y)) (hN : n < N) : iter step N x = some y := by
  subst hx
  exact iter_run s y n 0 N (fun j _ h2 => hs j (by omega)) (by rw [Nat.zero_add]; exact he) hN
/-- A loop that ends early, or not. -/
theorem iter_all {α β : Type} {step : α → Option (α ⊕ β)} {x : α} {N : Nat} (s : Nat → α) (n : Nat) (p : Nat → Prop) [DecidablePred p] (good bad : β) (hx : x = s 0) (hs : ∀ j, j < n → p j → step (s j) = some (.inl (s (j + 1)))) (hf : ∀ j, j < n → ¬ p j → step (s j) = some (.inr bad)) (he : step (s n) = some (.inr good)) (hN : n < N) :
    ((∀ j, j < n → p j) ∧ iter step N x = some good) ∨ (¬ (∀ j, j < n → p j) ∧ iter step N x = some bad) := by
  by_cases h : ∀ j, j < n → p j
  · exact .inl ⟨h, iter_up s n good hx (fun j hj => hs j hj (h j hj)) he hN⟩
  · refine .inr ⟨h, ?_⟩
    have h1 : ∃ j, j < n ∧ ¬ p j := by
      refine Classical.byContradiction fun hc => h fun j hj => Classical.byContradiction fun hp => hc ⟨j, hj, hp⟩
    -- the first one
    obtain ⟨j, hj, hp, hmin⟩ : ∃ j, j < n ∧ ¬ p j ∧ ∀ i, i < j → p i := by
      obtain ⟨j, hj⟩ := h1
      induction j using Nat.strongRecOn with
      | ind j ih =>
        by_cases g : ∀ i, i < j → p i
        · exact ⟨j, hj.1, hj.2, g⟩
        · have : ∃ i, i < j ∧ ¬ p i := Classical.byContradiction fun hc => g fun i hi => Classical.byContradiction fun hp => hc ⟨i, hi, hp⟩
          obtain ⟨i, hi, hpi⟩ := this
          exact ih i hi ⟨by omega, hpi⟩
    exact iter_up s j bad hx (fun i hi => hs i (by omega) (hmin i hi)) (hf j hj hp) (by omega)
theorem ix_at {α β : Type} {l : List α} {j : Int} {n : Nat} {x : α} {k : α → Option β} (hj : j = n) (h : l[n]? = some x) : ix l j k = k x := by
  subst hj; exact ix_pos h
theorem lt_some {α : Type} {l : List α} {n : Nat} (h : n < l.length) : l[n]? = some l[n] := List.getElem?_eq_getElem h
theorem some_lt {α : Type} {l : List α} {n : Nat} {x : α} (h : l[n]? = some x) : n < l.length := by
  rcases Nat.lt_or_ge n l.length with g | g
  · exact g
  · rw [List.getElem?_eq_none g] at h; cases h
theorem take_succ' {α : Type} {l : List α} {n : Nat} {x : α} (h : l[n]? = some x) : l.take (n + 1) = l.take n ++ [x] := by
  rw [List.take_add_one, h]; rfl
end Go.Hx.V

/- Bore: what a limit makes of what is known, by the functions on lists and numbers. -/
namespace Go.Hx.V
open Go.Hx
set_option linter.unusedVariables false
end Go.Hx.V

/- Bore: what a limit makes of what is known: the loops. -/
namespace Go.Hx.V
open Go.Hx
set_option linter.unusedVariables false
end Go.Hx.V

/- Bore: what the simple functions come to. -/
namespace Go.Hx.V
open Go.Hx
set_option linter.unusedVariables false
theorem s21 {N : Nat} {a b c d : Int} : sf21 N a b c d = some (a, b, c, d) := rfl
theorem s37 {N : Nat} {a b c : Int} : sf37 N a b c = some (decide (b ≤ a ∧ a ≤ c)) := by
  unfold sf37
  by_cases h : b ≤ a
  · rw [decide_eq_true h, cond_true]; simp [h]
  · rw [decide_eq_false h, cond_false]; simp [h]
theorem s48 {N : Nat} {p q a b : Int} : sf48 N p q a b = some (decide (a ≤ p ∧ p ≤ q ∧ q ≤ b)) := by
  unfold sf48
  rw [s37, bnd_ret]
  by_cases h : a ≤ p ∧ p ≤ q
  · rw [decide_eq_true h, cond_true]; simp [h]
  · rw [decide_eq_false h, cond_false]
    congr 1
    exact (decide_eq_false fun h' => h ⟨h'.1, h'.2.1⟩).symm
theorem s83 {N : Nat} {p q a b : Int} : sf83 N p q a b = some (decide (a ≤ p ∧ p ≤ q ∧ q ≤ b)) := by
  unfold sf83
  by_cases h : a ≤ p <;> by_cases h2 : p ≤ q <;> simp [h, h2]
theorem s66 {N : Nat} {p q x : Int} : sf66 N p q x = some (decide (p ≤ x ∧ x ≤ q)) := by
  unfold sf66
  by_cases h : p ≤ x <;> simp [h]
/-- A tube is valid. -/
def TubeOk (n t lo hi : Int) : Prop := 1 ≤ n ∧ n ≤ 10 ∧ (1 ≤ lo ∧ lo ≤ hi ∧ hi ≤ 200) ∧ 1 ≤ t ∧ t ≤ 2000 ∧ n * lo ≤ t ∧ t ≤ n * hi
instance {n t lo hi : Int} : Decidable (TubeOk n t lo hi) := by unfold TubeOk; infer_instance
theorem prod_b {n a : Int} (h1 : 1 ≤ n) (h2 : n ≤ 10) (h3 : 1 ≤ a) (h4 : a ≤ 200) : 1 ≤ n * a ∧ n * a ≤ 2000 := by
  have q1 : 1 * a ≤ n * a := Int.mul_le_mul_of_nonneg_right h1 (by omega)
  have q2 : n * a ≤ 10 * a := Int.mul_le_mul_of_nonneg_right h2 (by omega)
  omega
theorem s25 {N : Nat} {n t lo hi : Int} : sf25 N n t lo hi = some (decide (TubeOk n t lo hi)) := by
  unfold sf25
  rw [s37, bnd_ret]
  by_cases h1 : 1 ≤ n ∧ n ≤ 10
  · rw [decide_eq_true h1, cond_true, s48, bnd_ret]
    by_cases h2 : 1 ≤ lo ∧ lo ≤ hi ∧ hi ≤ 200
    · rw [decide_eq_true h2, cond_true, s37, bnd_ret]
      by_cases h3 : 1 ≤ t ∧ t ≤ 2000
      · have b1 := prod_b (a := lo) h1.1 h1.2 (by omega) (by omega)
        have b2 := prod_b (a := hi) h1.1 h1.2 (by omega) (by omega)
        rw [decide_eq_true h3, cond_true, ck_pos (by unfold rng; omega), ck_pos (by unfold rng; omega), s37, bnd_ret]
        congr 1
        by_cases h4 : n * lo ≤ t ∧ t ≤ n * hi
        · rw [decide_eq_true h4]; exact (decide_eq_true ⟨h1.1, h1.2, h2, h3.1, h3.2, h4⟩).symm
        · rw [decide_eq_false h4]; exact (decide_eq_false fun q => h4 q.2.2.2.2.2).symm
      · rw [decide_eq_false h3, cond_false]
        congr 1
        exact (decide_eq_false fun q => h3 ⟨q.2.2.2.1, q.2.2.2.2.1⟩).symm
    · rw [decide_eq_false h2, cond_false]
      congr 1
      exact (decide_eq_false fun q => h2 q.2.2.1).symm
  · rw [decide_eq_false h1, cond_false]
    congr 1
    exact (decide_eq_false fun q => h1 ⟨q.1, q.2.1⟩).symm
theorem s24 {N : Nat} {l : List Int} (h : l.length ≤ 100) : sf24 N l = some l := by
  unfold sf24
  rw [ck_pos (by simp; omega)]
  rfl
theorem s23 {N : Nat} {l : List (Int × Int × Int × Int)} (h : l.length ≤ 100) (hN : 1000 ≤ N) : sf23 N l = some l := by
  unfold sf23
  have e : iter (sf23_L1 N l) N (([] : List (Int × Int × Int × Int)), (0 : Int)) = some l := by
    refine iter_up (fun j => (l.take j, (j : Int))) l.length l rfl (fun j hj => ?_) ?_ (by omega)
    · obtain ⟨z, hz⟩ : ∃ z, l[j]? = some z := ⟨_, lt_some hj⟩
      unfold sf23_L1
      dsimp only
      rw [decide_eq_true (by omega), cond_true, ix_at rfl hz, ix_at rfl hz, ix_at rfl hz]
      show bnd (some (z.2.2.1, z.2.2.2)) _ = _
      rw [bnd_ret, ck_pos (by rw [List.length_take]; omega), ck_pos (by unfold rng; omega), take_succ' hz]
      rfl
    · unfold sf23_L1
      dsimp only
      rw [decide_eq_false (by omega), cond_false, List.take_length]
  rw [e, bnd_ret]
theorem s63 {N : Nat} {n t lo hi : Int} : sf63 N n t lo hi = some (decide (TubeOk n t lo hi)) := by
  unfold sf63
  by_cases h1 : n < 1
  · rw [decide_eq_true h1, cond_true, bnd_ret, cond_true, bnd_ret]
    show some false = _
    congr 1
    exact (decide_eq_false fun q => by have := q.1; omega).symm
  rw [decide_eq_false h1, cond_false]
  by_cases h2 : 10 < n
  · rw [decide_eq_true h2, cond_true, bnd_ret, cond_true, bnd_ret]
    show some false = _
    congr 1
    exact (decide_eq_false fun q => by have := q.2.1; omega).symm
  rw [decide_eq_false h2, cond_false, s83, bnd_ret]
  by_cases h3 : 1 ≤ lo ∧ lo ≤ hi ∧ hi ≤ 200
  · have b1 := prod_b (n := n) (a := lo) (by omega) (by omega) (by omega) (by omega)
    have b2 := prod_b (n := n) (a := hi) (by omega) (by omega) (by omega) (by omega)
    rw [decide_eq_true h3, bnd_ret]
    show ck _ _ = _
    rw [ck_pos (by unfold rng; omega), ck_pos (by unfold rng; omega)]
    by_cases h4 : t ≤ 2000
    · rw [decide_eq_true h4, cond_true, s66, bnd_ret]
      congr 1
      by_cases h5 : n * lo ≤ t ∧ t ≤ n * hi
      · rw [decide_eq_true h5]; exact (decide_eq_true ⟨by omega, by omega, h3, by omega, h4, h5⟩).symm
      · rw [decide_eq_false h5]; exact (decide_eq_false fun q => h5 q.2.2.2.2.2).symm
    · rw [decide_eq_false h4, cond_false]
      congr 1
      exact (decide_eq_false fun q => h4 q.2.2.2.2.1).symm
  · rw [decide_eq_false h3, bnd_ret]
    show some false = _
    congr 1
    exact (decide_eq_false fun q => h3 q.2.2.1).symm
theorem s20 {N : Nat} {n t lo hi : Int} : sf20 N n t lo hi = some (if TubeOk n t lo hi then 0 else 1) := by
  unfold sf20
  rw [s63, bnd_ret]
  by_cases h : TubeOk n t lo hi
  · rw [decide_eq_true h, if_pos h]; rfl
  · rw [decide_eq_false h, if_neg h]; rfl
/-- A reading is one of a tube. -/
def RdOk' (n : Int) (r : Int × Int × Int × Int) : Prop := (0 ≤ r.1 ∧ r.1 < n) ∧ (r.1 ≤ r.2.1 ∧ r.2.1 ≤ n) ∧ 0 ≤ r.2.2.1 ∧ r.2.2.1 ≤ r.2.2.2 ∧ r.2.2.2 ≤ 2000
instance {n : Int} {r : Int × Int × Int × Int} : Decidable (RdOk' n r) := by unfold RdOk'; infer_instance
theorem s86 {N : Nat} {n t lo hi : Int} {r : Int × Int × Int × Int} : sf86 N n t lo hi r.1 r.2.1 r.2.2.1 r.2.2.2 = some (decide (RdOk' n r)) := by
  unfold sf86
  rw [s83, bnd_ret]
  by_cases h1 : 0 ≤ r.1
  · by_cases h2 : r.1 < n
    · by_cases h3 : r.1 ≤ r.2.1
      · by_cases h4 : r.2.1 ≤ n
        · rw [decide_eq_true h1, decide_eq_true h2, decide_eq_true h3, decide_eq_true h4, cond_true, cond_true, cond_true, cond_true]
          congr 1
          by_cases h5 : 0 ≤ r.2.2.1 ∧ r.2.2.1 ≤ r.2.2.2 ∧ r.2.2.2 ≤ 2000
          · rw [decide_eq_true h5]; exact (decide_eq_true ⟨⟨h1, h2⟩, ⟨h3, h4⟩, h5⟩).symm
          · rw [decide_eq_false h5]; exact (decide_eq_false fun q => h5 q.2.2).symm
        · rw [decide_eq_true h1, decide_eq_true h2, decide_eq_true h3, decide_eq_false h4, cond_true, cond_true, cond_true, cond_false]
          congr 1; exact (decide_eq_false fun q => h4 q.2.1.2).symm
      · rw [decide_eq_true h1, decide_eq_true h2, decide_eq_false h3, cond_true, cond_true, cond_false]
        congr 1; exact (decide_eq_false fun q => h3 q.2.1.1).symm
    · rw [decide_eq_true h1, decide_eq_false h2, cond_true, cond_false]
      congr 1; exact (decide_eq_false fun q => h2 q.1.2).symm
  · rw [decide_eq_false h1, cond_false]
    congr 1; exact (decide_eq_false fun q => h1 q.1.1).symm
/-- All of a list. -/
def AllP {α : Type} (p : α → Prop) (l : List α) : Prop := ∀ x, x ∈ l → p x
theorem all_loopE {α ε : Type} {bad : ε} {step : Int → Option (Int ⊕ (ε ⊕ Unit))} {l : List α} {p : α → Prop} [DecidablePred p] {N : Nat} (hN : l.length < N)
    (hs : ∀ (j : Nat) z, l[j]? = some z → p z → step (j : Int) = some (.inl ((j : Int) + 1)))
    (hf : ∀ (j : Nat) z, l[j]? = some z → ¬ p z → step (j : Int) = some (.inr (.inl bad)))
    (he : step (l.length : Int) = some (.inr (.inr ()))) : (AllP p l ∧ iter step N 0 = some (.inr ())) ∨ (¬ AllP p l ∧ iter step N 0 = some (.inl bad)) := by
  have H : ((∀ j, j < l.length → ∀ z, l[j]? = some z → p z) ∧ iter step N (0 : Int) = some (.inr ())) ∨ (¬ (∀ j, j < l.length → ∀ z, l[j]? = some z → p z) ∧ iter step N (0 : Int) = some (.inl bad)) := by
    haveI : DecidablePred fun (j : Nat) => ∀ z, l[j]? = some z → p z := fun j => Classical.propDecidable _
    refine iter_all (fun j => (j : Int)) l.length (fun j => ∀ z, l[j]? = some z → p z) (Sum.inr () : ε ⊕ Unit) (Sum.inl bad : ε ⊕ Unit) rfl (fun j hj hp => ?_) (fun j hj hp => ?_) he hN
    · obtain ⟨z, hz⟩ : ∃ z, l[j]? = some z := ⟨_, lt_some hj⟩
      exact hs j z hz (hp z hz)
    · obtain ⟨z, hz⟩ : ∃ z, l[j]? = some z := ⟨_, lt_some hj⟩
      exact hf j z hz fun q => hp fun z' hz' => by rw [hz] at hz'; cases hz'; exact q
  rcases H with ⟨h1, h2⟩ | ⟨h1, h2⟩
  · refine .inl ⟨fun x hx => ?_, h2⟩
    obtain ⟨j, hj, rfl⟩ := List.getElem_of_mem hx
    exact h1 j hj _ (lt_some hj)
  · exact .inr ⟨fun q => h1 fun j hj z hz => q z (List.mem_of_getElem? hz), h2⟩
instance {α : Type} {p : α → Prop} [DecidablePred p] {l : List α} : Decidable (AllP p l) := inferInstanceAs (Decidable (∀ x, x ∈ l → p x))
theorem s68 {N : Nat} {n t lo hi : Int} {l : List (Int × Int × Int × Int)} (h : l.length ≤ 100) (hN : 1000 ≤ N) : sf68 N l n t lo hi = some (decide (AllP (RdOk' n) l)) := by
  unfold sf68
  rcases all_loopE (step := sf68_L1 N l n t lo hi) (l := l) (p := RdOk' n) (N := N) (by omega) (by
      intro j z hz hp
      have := some_lt hz
      unfold sf68_L1
      rw [decide_eq_true (by omega), cond_true, ix_at rfl hz, s86, bnd_ret, decide_eq_true hp, Bool.not_true, cond_false, ck_pos (by unfold rng; omega)]) (by
      intro j z hz hp
      have := some_lt hz
      unfold sf68_L1
      rw [decide_eq_true (by omega), cond_true, ix_at rfl hz, s86, bnd_ret, decide_eq_false hp]
      rfl) (by
      unfold sf68_L1
      rw [decide_eq_false (by omega), cond_false]) with ⟨hA, e⟩ | ⟨hA, e⟩
  · rw [e, bnd_ret, decide_eq_true hA]; rfl
  · rw [e, bnd_ret, decide_eq_false hA]; rfl
theorem s64 {N : Nat} {n t lo hi : Int} {l : List (Int × Int × Int × Int)} (h : l.length ≤ 100) (hN : 1000 ≤ N) : sf64 N n t lo hi l = some (if TubeOk n t lo hi then if l.length ≤ 12 then if AllP (RdOk' n) l then 0 else 2 else 3 else 1) := by
  unfold sf64
  rw [s20, bnd_ret]
  by_cases h1 : TubeOk n t lo hi
  · rw [if_pos h1, if_pos h1]
    show (bif (decide ((12 : Int) < (l.length : Int))) then _ else _) = _
    by_cases h2 : l.length ≤ 12
    · rw [decide_eq_false (by omega), cond_false, if_pos h2, s68 h hN, bnd_ret]
      by_cases h3 : AllP (RdOk' n) l
      · rw [decide_eq_true h3, if_pos h3]; rfl
      · rw [decide_eq_false h3, if_neg h3]; rfl
    · rw [decide_eq_true (by omega), cond_true, if_neg h2]
  · rw [if_neg h1, if_neg h1]; rfl
theorem s70 {N : Nat} {n t lo hi : Int} {l : List (Int × Int × Int × Int)} (h : l.length ≤ 100) (hN : 1000 ≤ N) : sf70 N n t lo hi l = some (if TubeOk n t lo hi then if l.length ≤ 12 then if AllP (RdOk' n) l then 0 else 2 else 3 else 1) := by
  unfold sf70
  rw [s25, bnd_ret]
  by_cases h1 : TubeOk n t lo hi
  · rw [decide_eq_true h1, if_pos h1]
    show (bif (decide ((12 : Int) < (l.length : Int))) then _ else _) = _
    by_cases h2 : l.length ≤ 12
    · rw [decide_eq_false (by omega), cond_false, if_pos h2]
      have hn : 1 ≤ n ∧ n ≤ 10 := ⟨h1.1, h1.2.1⟩
      have key : ∀ z : Int × Int × Int × Int, (ck (rng (n - 1)) (bnd (sf37 N z.1 0 (n - 1)) fun v76 => (bif (!v76) then some true else (bnd (sf37 N z.2.1 z.1 n) fun v80 => (bif (!v80) then some true else (bnd (sf48 N z.2.2.1 z.2.2.2 0 2000) fun v84 => some (!v84))))))) = some (!(decide (RdOk' n z))) := fun z => by
        rw [ck_pos (by unfold rng; omega), s37, bnd_ret]
        by_cases a1 : 0 ≤ z.1 ∧ z.1 ≤ n - 1
        · rw [decide_eq_true a1]
          show bnd _ _ = _
          rw [s37, bnd_ret]
          by_cases a2 : z.1 ≤ z.2.1 ∧ z.2.1 ≤ n
          · rw [decide_eq_true a2]
            show bnd _ _ = _
            rw [s48, bnd_ret]
            by_cases a3 : 0 ≤ z.2.2.1 ∧ z.2.2.1 ≤ z.2.2.2 ∧ z.2.2.2 ≤ 2000
            · rw [decide_eq_true a3, decide_eq_true (p := RdOk' n z) ⟨⟨a1.1, by omega⟩, a2, a3⟩]
            · rw [decide_eq_false a3, decide_eq_false (p := RdOk' n z) fun q => a3 q.2.2]
          · rw [decide_eq_false a2, decide_eq_false (p := RdOk' n z) fun q => a2 q.2.1]; rfl
        · rw [decide_eq_false a1, decide_eq_false (p := RdOk' n z) fun q => a1 ⟨q.1.1, by have := q.1.2; omega⟩]; rfl
      rcases all_loopE (step := sf70_L1 N n l) (l := l) (p := RdOk' n) (N := N) (by omega) (by
          intro j z hz hp
          have := some_lt hz
          unfold sf70_L1
          rw [decide_eq_true (by omega), cond_true, ix_at rfl hz, key, bnd_ret, decide_eq_true hp, Bool.not_true, cond_false, ck_pos (by unfold rng; omega)]) (by
          intro j z hz hp
          have := some_lt hz
          unfold sf70_L1
          rw [decide_eq_true (by omega), cond_true, ix_at rfl hz, key, bnd_ret, decide_eq_false hp]
          rfl) (by
          unfold sf70_L1
          rw [decide_eq_false (by omega), cond_false]) with ⟨hA, e⟩ | ⟨hA, e⟩
      · rw [e, bnd_ret, if_pos hA]; rfl
      · rw [e, bnd_ret, if_neg hA]; rfl
    · rw [decide_eq_true (by omega), cond_true, if_neg h2]
  · rw [decide_eq_false h1, if_neg h1]; rfl
end Go.Hx.V

/- Bore: heights, and whether a reading is right. -/
namespace Go.Hx.V
open Go.Hx
set_option linter.unusedVariables false
def hs (l : List Int) (j : Nat) : Int := (l.take j).sum
theorem hs_succ {l : List Int} {j : Nat} {x : Int} (h : l[j]? = some x) : hs l (j + 1) = hs l j + x := by
  unfold hs
  rw [take_succ' h, List.sum_append]
  simp
def Vol (x : Int) : Prop := 0 ≤ x ∧ x ≤ 200
theorem hs_b {l : List Int} (h : AllP Vol l) : ∀ j, j ≤ l.length → 0 ≤ hs l j ∧ hs l j ≤ 200 * j
  | 0, _ => by unfold hs; simp
  | j + 1, hj => by
    have ih := hs_b h j (by omega)
    obtain ⟨x, hx⟩ : ∃ x, l[j]? = some x := ⟨_, lt_some (by omega)⟩
    have := h x (List.mem_of_getElem? hx)
    unfold Vol at this
    rw [hs_succ hx]; omega
theorem s38 {N : Nat} {l : List Int} {a : Nat} (ha : a ≤ l.length) (hl : l.length ≤ 15) (hb : AllP Vol l) (hN : 1000 ≤ N) : sf38 N l a = some (hs l a) := by
  unfold sf38
  have e : iter (sf38_L1 l a) N ((0 : Int), (0 : Int)) = some (hs l a) := by
    refine iter_up (fun j => (hs l j, (j : Int))) a _ rfl (fun j hj => ?_) ?_ (by omega)
    · obtain ⟨x, hx⟩ : ∃ x, l[j]? = some x := ⟨_, lt_some (by omega)⟩
      have b := hs_b hb (j + 1) (by omega)
      unfold sf38_L1
      dsimp only
      rw [hs_succ hx] at *
      rw [decide_eq_true (by omega), cond_true, ix_at rfl hx, ck_pos (by unfold rng; omega), ck_pos (by unfold rng; omega)]
      rfl
    · unfold sf38_L1
      dsimp only
      rw [decide_eq_false (by omega), cond_false]
  rw [e, bnd_ret]
def hts (l : List Int) : List Int := (List.range (l.length + 1)).map (hs l)
theorem hts_at {l : List Int} {j : Nat} (h : j ≤ l.length) : (hts l)[j]? = some (hs l j) := by
  unfold hts
  rw [List.getElem?_map, List.getElem?_range (by omega)]; rfl
theorem hts_len {l : List Int} : (hts l).length = l.length + 1 := by unfold hts; simp
theorem s67 {N : Nat} {l : List Int} (hl : l.length ≤ 15) (hb : AllP Vol l) (hN : 1000 ≤ N) : sf67 N l = some (hts l) := by
  unfold sf67
  have e : iter (sf67_L1 l) N (([] : List Int) ++ [(0 : Int)], (0 : Int), (0 : Int)) = some (hts l) := by
    refine iter_up (fun j => ((List.range (j + 1)).map (hs l), hs l j, (j : Int))) l.length _ rfl (fun j hj => ?_) ?_ (by omega)
    · obtain ⟨x, hx⟩ : ∃ x, l[j]? = some x := ⟨_, lt_some (by omega)⟩
      have b := hs_b hb (j + 1) (by omega)
      unfold sf67_L1
      dsimp only
      have eh := hs_succ hx
      rw [decide_eq_true (by omega), cond_true, ix_at rfl hx, ck_pos (by unfold rng; omega), ck_pos (by simp; omega), ck_pos (by unfold rng; omega), ← eh, List.range_succ (n := j + 1), List.map_append]
      rfl
    · unfold sf67_L1
      dsimp only
      rw [decide_eq_false (by omega), cond_false]
      rfl
  rw [ck_pos (by unfold rng; omega), ck_pos (by omega), ck_pos (by simp), show List.replicate (Int.toNat 0) (0 : Int) = [] from rfl, e, bnd_ret]
theorem s87 {N : Nat} {a x : Int} (hN : 1000 ≤ N) : sf87 N a [x] = some (max a x) := by
  unfold sf87
  have e : iter (sf87_L1 [x]) N (a, (0 : Int)) = some (max a x) := by
    refine iter_up (fun j => (if j = 0 then a else max a x, (j : Int))) 1 _ rfl (fun j hj => ?_) ?_ (by omega)
    · obtain rfl : j = 0 := by omega
      unfold sf87_L1
      by_cases h : a < x
      · simp [h, ix, ck, rng]; omega
      · simp [h, ix, ck, rng]; omega
    · rfl
  rw [e, bnd_ret]
theorem s88 {N : Nat} {a x : Int} (hN : 1000 ≤ N) : sf88 N a [x] = some (min a x) := by
  unfold sf88
  have e : iter (sf88_L1 [x]) N (a, (0 : Int)) = some (min a x) := by
    refine iter_up (fun j => (if j = 0 then a else min a x, (j : Int))) 1 _ rfl (fun j hj => ?_) ?_ (by omega)
    · obtain rfl : j = 0 := by omega
      unfold sf88_L1
      by_cases h : x < a
      · simp [h, ix, ck, rng]; omega
      · simp [h, ix, ck, rng]; omega
    · rfl
  rw [e, bnd_ret]
/-- A reading is right, by heights. -/
def RightP (l : List Int) (r : Int × Int × Int × Int) : Prop := max r.2.2.1 (hs l r.2.1.toNat - hs l r.1.toNat) ≤ if r.2.1 < l.length then min r.2.2.2 (hs l (r.2.1.toNat + 1) - hs l r.1.toNat - 1) else r.2.2.2
instance {l : List Int} {r : Int × Int × Int × Int} : Decidable (RightP l r) := by unfold RightP; infer_instance
theorem rp {l : List Int} {f g : Nat} {lo hi : Int} : RightP l ((f : Int), (g : Int), lo, hi) = (max lo (hs l g - hs l f) ≤ if (g : Int) < l.length then min hi (hs l (g + 1) - hs l f - 1) else hi) := rfl
theorem s69 {N : Nat} {l : List Int} {r : Int × Int × Int × Int} (hl : l.length ≤ 15) (hb : AllP Vol l) (hr : RdOk' l.length r) (hN : 1000 ≤ N) : sf69 N (hts l) r.1 r.2.1 r.2.2.1 r.2.2.2 = some (decide (RightP l r)) := by
  obtain ⟨f, g, lo, hi⟩ := r
  obtain ⟨h1, h2, h3⟩ := hr
  dsimp only at h1 h2 h3
  obtain ⟨f, rfl⟩ : ∃ k : Nat, f = k := ⟨f.toNat, by omega⟩
  obtain ⟨g, rfl⟩ : ∃ k : Nat, g = k := ⟨g.toNat, by omega⟩
  have b1 := hs_b hb f (by omega)
  have b2 := hs_b hb g (by omega)
  unfold sf69
  dsimp only
  rw [ix_at rfl (hts_at (j := g) (by omega)), ix_at rfl (hts_at (j := f) (by omega)), ck_pos (by unfold rng; omega), s87 hN, bnd_ret, ck_pos (by unfold rng; omega), hts_len]
  by_cases h : g < l.length
  · have b3 := hs_b hb (g + 1) (by omega)
    rw [decide_eq_true (by omega), cond_true, ck_pos (by unfold rng; omega), ix_at (j := (g : Int) + 1) (n := g + 1) (by omega) (hts_at (j := g + 1) (by omega)), ix_at rfl (hts_at (j := f) (by omega)), ck_pos (by unfold rng; omega), ck_pos (by unfold rng; omega), s88 hN, bnd_ret]
    refine congrArg some (decide_eq_decide.2 ?_)
    rw [rp, if_pos (by omega)]
  · rw [decide_eq_false (by omega), cond_false]
    refine congrArg some (decide_eq_decide.2 ?_)
    rw [rp, if_neg (by omega)]
theorem s71 {N : Nat} {l : List Int} {t lo' hi' : Int} {r : Int × Int × Int × Int} (hl : l.length ≤ 15) (hb : AllP Vol l) (hr : RdOk' l.length r) (hN : 1000 ≤ N) : sf71 N l.length t lo' hi' r.1 r.2.1 r.2.2.1 r.2.2.2 l = some (decide (RightP l r)) := by
  obtain ⟨f, g, lo, hi⟩ := r
  obtain ⟨h1, h2, h3⟩ := hr
  dsimp only at h1 h2 h3
  obtain ⟨f, rfl⟩ : ∃ k : Nat, f = k := ⟨f.toNat, by omega⟩
  obtain ⟨g, rfl⟩ : ∃ k : Nat, g = k := ⟨g.toNat, by omega⟩
  have b1 := hs_b hb f (by omega)
  have b2 := hs_b hb g (by omega)
  unfold sf71
  dsimp only
  rw [s38 (by omega) hl hb hN, bnd_ret, s38 (by omega) hl hb hN, bnd_ret, ck_pos (by unfold rng; omega)]
  by_cases h : g < l.length
  · have b3 := hs_b hb (g + 1) (by omega)
    rw [decide_eq_true (by omega), cond_true, ck_pos (by unfold rng; omega), show (g : Int) + 1 = ((g + 1 : Nat) : Int) from rfl, s38 (by omega) hl hb hN, bnd_ret, ck_pos (by unfold rng; omega), ck_pos (by unfold rng; omega)]
    refine congrArg some (decide_eq_decide.2 ?_)
    rw [rp, if_pos (by omega)]
  · rw [decide_eq_false (by omega), cond_false]
    refine congrArg some (decide_eq_decide.2 ?_)
    rw [rp, if_neg (by omega)]
end Go.Hx.V

