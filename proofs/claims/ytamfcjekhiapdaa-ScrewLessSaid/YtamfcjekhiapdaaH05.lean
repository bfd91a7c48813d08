/- The functions of the program, as the plain machine runs them. -/
import Derived.Test.YtamfcjekhiapdaaH04
import Derived.ProofKit
import Derived.Test.YtamfcjekhiapdaaH02
import Derived.Test.YtamfcjekhiapdaaH03
set_option linter.all false
/- The functions of the program, as the plain machine runs them. -/
namespace Go.Hx
set_option maxRecDepth 100000
noncomputable def L99s0 : LCode := (.cond (.t 16) (.seq (.reg [(o 4 (.move (.c (.bool .false))))]) .ret) .skip)
noncomputable def L99s1 : LCode := (.seq (.reg [(o 13 (.move (.t 1))), (o 14 (.load .true 3 (.t 6))), (o 15 (.call (.t 13) [(.t 14)])), (o 16 (.un .not (.t 15)))]) L99s0)
noncomputable def L99s2 : LCode := (.reg [(o 17 (.bin .add (.t 9) (.c (.int .i64 1)))), (o 9 (.move (.t 17)))])
noncomputable def L99s3 : LCode := (.seq (.block 1 (.seq (.reg [(o 11 (.indexAddrS 3 (.t 7) (.t 9))), (o 12 (.load .true 3 (.t 11))), (o 6 (.alloc [(.int .i64 0), (.int .i64 0), (.int .i64 0)])), (on (.store 3 (.t 6) (.t 12)))]) L99s1)) L99s2)
noncomputable def L99w0 : LCode := (.seq (.reg [(o 10 (.bin .lss (.t 9) (.t 8)))]) (.seq (.cond (.t 10) .skip (.exit 0)) L99s3))
noncomputable def L99s4 : LCode := (.seq (.seq (.reg [(o 7 (.move (.t 0))), (o 8 (.len .slice (.t 7))), (o 9 (.move (.c (.int .i64 0))))]) (.block 0 (.loop L99w0))) (.seq (.reg [(o 4 (.move (.c (.bool .true))))]) .ret))
noncomputable def L99 : LFunc := ⟨18, (.seq (.reg [(o 4 (.move (.c (.bool .false))))]) L99s4), [(.t 4)], .false, .none⟩
theorem lp99 : LP 99 = some L99 := by kernel_rfl
noncomputable def L103s0 : LCode := (.cond (.t 15) (.reg [(o 16 (.move (.t 6))), (o 0 (.move (.t 16)))]) .skip)
noncomputable def L103s1 : LCode := (.seq (.reg [(o 13 (.move (.t 6))), (o 14 (.move (.t 0))), (o 15 (.bin .lss (.t 13) (.t 14)))]) L103s0)
noncomputable def L103s2 : LCode := (.reg [(o 17 (.bin .add (.t 9) (.c (.int .i64 1)))), (o 9 (.move (.t 17)))])
noncomputable def L103s3 : LCode := (.seq (.block 1 (.seq (.reg [(o 11 (.indexAddrS 1 (.t 7) (.t 9))), (o 12 (.load .false 1 (.t 11))), (o 6 (.move (.t 12)))]) L103s1)) L103s2)
noncomputable def L103w0 : LCode := (.seq (.reg [(o 10 (.bin .lss (.t 9) (.t 8)))]) (.seq (.cond (.t 10) .skip (.exit 0)) L103s3))
noncomputable def L103s4 : LCode := (.seq (.reg [(o 18 (.move (.t 0))), (o 4 (.move (.t 18)))]) .ret)
noncomputable def L103s5 : LCode := (.seq (.seq (.reg [(o 7 (.move (.t 1))), (o 8 (.len .slice (.t 7))), (o 9 (.move (.c (.int .i64 0))))]) (.block 0 (.loop L103w0))) L103s4)
noncomputable def L103 : LFunc := ⟨19, (.seq (.reg [(o 4 (.move (.c (.int .i64 0))))]) L103s5), [(.t 4)], .false, .none⟩
theorem lp103 : LP 103 = some L103 := by kernel_rfl
noncomputable def L107r0 : List LOper := [(o 17 (.load .false 1 (.t 16))), (o 18 (.move (.t 0))), (o 19 (.move (.t 5))), (o 20 (.indexAddrS 1 (.t 18) (.t 19))), (o 21 (.load .false 1 (.t 20))), (o 22 (.call (.t 12) [(.t 17), (.t 21)])), (oa 23 (.un .not (.t 22)) [10])]
noncomputable def L107s0 : LCode := (.cond (.t 23) (.seq (.reg [(o 4 (.move (.c (.bool .false))))]) .ret) .skip)
noncomputable def L107s1 : LCode := (.reg [(o 10 (.move (.t 5))), (o 11 (.bin .add (.t 10) (.c (.int .i64 1)))), (o 5 (.move (.t 11)))])
noncomputable def L107s2 : LCode := (.seq (.block 1 (.seq (.draw 10 ((o 12 (.move (.t 1))) :: (o 13 (.move (.t 0))) :: (o 14 (.move (.t 5))) :: (o 15 (.bin .sub (.t 14) (.c (.int .i64 1)))) :: (o 16 (.indexAddrS 1 (.t 13) (.t 15))) :: L107r0)) L107s0)) L107s1)
noncomputable def L107w0 : LCode := (.seq (.seq (.reg [(o 6 (.move (.t 5))), (o 7 (.move (.t 0))), (o 8 (.len .slice (.t 7))), (o 9 (.bin .lss (.t 6) (.t 8)))]) (.cond (.t 9) .skip (.exit 0))) L107s2)
noncomputable def L107s3 : LCode := (.seq (.seq (.reg [(o 5 (.move (.c (.int .i64 1))))]) (.block 0 (.loop L107w0))) (.seq (.reg [(o 4 (.move (.c (.bool .true))))]) .ret))
noncomputable def L107 : LFunc := ⟨24, (.seq (.reg [(o 4 (.move (.c (.bool .false))))]) L107s3), [(.t 4)], .false, .none⟩
theorem lp107 : LP 107 = some L107 := by kernel_rfl
end Go.Hx

/- The functions of the program, of which one is known: the closed examples tell true. -/
namespace Go.Hx
noncomputable section
def spWakes : List HV → HS → Option (HV × HS)
  | [], σ => some (.bool true, σ)
  | _, _ => none
def LW : Nat → Option LFunc := withS LP 17 spWakes
theorem withS_of {lp : Nat → Option LFunc} {f : Nat} {g : List HV → HS → Option (HV × HS)} {k : Nat} {lf : LFunc} (hk : Nat.beq k f = false) (h : lp k = some lf) : withS lp f g k = some lf := by
  unfold withS
  rw [hk]
  exact h
theorem lw_of {k : Nat} {lf : LFunc} (hk : Nat.beq k 17 = false) (h : LP k = some lf) : LW k = some lf := withS_of hk h
theorem lw14 : LW 14 = some L14 := lw_of rfl lp14
theorem lw16 : LW 16 = some L16 := lw_of rfl lp16
theorem lw18 : LW 18 = some L18 := lw_of rfl lp18
theorem lw19 : LW 19 = some L19 := lw_of rfl lp19
theorem lw23 : LW 23 = some L23 := lw_of rfl lp23
theorem lw24 : LW 24 = some L24 := lw_of rfl lp24
theorem lw25 : LW 25 = some L25 := lw_of rfl lp25
theorem lw30 : LW 30 = some L30 := lw_of rfl lp30
theorem lw32 : LW 32 = some L32 := lw_of rfl lp32
theorem lw38 : LW 38 = some L38 := lw_of rfl lp38
theorem lw39 : LW 39 = some L39 := lw_of rfl lp39
theorem lw43 : LW 43 = some L43 := lw_of rfl lp43
theorem lw48 : LW 48 = some L48 := lw_of rfl lp48
theorem lw50 : LW 50 = some L50 := lw_of rfl lp50
theorem lw53 : LW 53 = some L53 := lw_of rfl lp53
theorem lw54 : LW 54 = some L54 := lw_of rfl lp54
theorem lw55 : LW 55 = some L55 := lw_of rfl lp55
theorem lw56 : LW 56 = some L56 := lw_of rfl lp56
theorem lw57 : LW 57 = some L57 := lw_of rfl lp57
theorem lw58 : LW 58 = some L58 := lw_of rfl lp58
theorem lw59 : LW 59 = some L59 := lw_of rfl lp59
theorem lw60 : LW 60 = some L60 := lw_of rfl lp60
theorem lw62 : LW 62 = some L62 := lw_of rfl lp62
theorem lw64 : LW 64 = some L64 := lw_of rfl lp64
theorem lw66 : LW 66 = some L66 := lw_of rfl lp66
theorem lw67 : LW 67 = some L67 := lw_of rfl lp67
theorem lw68 : LW 68 = some L68 := lw_of rfl lp68
theorem lw71 : LW 71 = some L71 := lw_of rfl lp71
theorem lw72 : LW 72 = some L72 := lw_of rfl lp72
theorem lw73 : LW 73 = some L73 := lw_of rfl lp73
theorem lw76 : LW 76 = some L76 := lw_of rfl lp76
theorem lw77 : LW 77 = some L77 := lw_of rfl lp77
theorem lw78 : LW 78 = some L78 := lw_of rfl lp78
theorem lw79 : LW 79 = some L79 := lw_of rfl lp79
theorem lw81 : LW 81 = some L81 := lw_of rfl lp81
theorem lw82 : LW 82 = some L82 := lw_of rfl lp82
theorem lw83 : LW 83 = some L83 := lw_of rfl lp83
theorem lw84 : LW 84 = some L84 := lw_of rfl lp84
theorem lw85 : LW 85 = some L85 := lw_of rfl lp85
theorem lw86 : LW 86 = some L86 := lw_of rfl lp86
theorem lw87 : LW 87 = some L87 := lw_of rfl lp87
theorem lw88 : LW 88 = some L88 := lw_of rfl lp88
theorem lw89 : LW 89 = some L89 := lw_of rfl lp89
theorem lw90 : LW 90 = some L90 := lw_of rfl lp90
theorem lw91 : LW 91 = some L91 := lw_of rfl lp91
theorem lw93 : LW 93 = some L93 := lw_of rfl lp93
theorem lw94 : LW 94 = some L94 := lw_of rfl lp94
theorem lw95 : LW 95 = some L95 := lw_of rfl lp95
theorem lw96 : LW 96 = some L96 := lw_of rfl lp96
theorem lw97 : LW 97 = some L97 := lw_of rfl lp97
theorem lw98 : LW 98 = some L98 := lw_of rfl lp98
theorem lw99 : LW 99 = some L99 := lw_of rfl lp99
theorem lw100 : LW 100 = some L100 := lw_of rfl lp100
theorem lw101 : LW 101 = some L101 := lw_of rfl lp101
theorem lw102 : LW 102 = some L102 := lw_of rfl lp102
theorem lw103 : LW 103 = some L103 := lw_of rfl lp103
theorem lw104 : LW 104 = some L104 := lw_of rfl lp104
theorem lw105 : LW 105 = some L105 := lw_of rfl lp105
theorem lw106 : LW 106 = some L106 := lw_of rfl lp106
theorem lw107 : LW 107 = some L107 := lw_of rfl lp107
theorem lw108 : LW 108 = some L108 := lw_of rfl lp108
theorem V.ct_wakes {fl : Nat} {h : Tr HBlk} {nx : Nat} : C LW fl 17 [] ⟨h, nx⟩ (V.KS (.bool true) nx h) :=
  c_spec (lf := ⟨0, .bad, [], false, some spWakes⟩) rfl rfl rfl (Nat.le_refl _) ⟨rfl, nx, Nat.le_refl _, rfl⟩
end
end Go.Hx

/- What is known of the temporaries, and no more. -/
namespace Go.Hx.V
open Go.Hx
variable {lp : Nat → Option LFunc} {fl nt : Nat} {rd : Option Nat} {Q : HExit → HAct → HS → Prop} {T : Tr HV} {ds : List Nat} {σ : HS} {c : LCode}
theorem shr_ok {k : IntKind} {m n : Int} (h : 0 ≤ n) : shiftH .shr k m n = some (.int k (Int.fdiv m (2 ^ (Nat.min n.toNat k.bits)))) := by
  unfold shiftH; rw [if_neg (Int.not_lt.2 h)]
end Go.Hx.V

/- Arrays at the end of what a box holds, as functions of places. -/
namespace Go.Hx.V
open Go.Hx
def eI (k : IntKind) (n : Nat) (f : Nat → Int) : List HV := (List.range n).map fun i => .int k (f i)
def eB (n : Nat) (f : Nat → Bool) : List HV := (List.range n).map fun i => .bool (f i)
def ups {α : Type} (f : Nat → α) (j : Nat) (v : α) : Nat → α := fun i => if i = j then v else f i
section
variable {k : IntKind} {n : Nat} {f : Nat → Int} {g : Nat → Bool}
theorem eI_len : (eI k n f).length = n := by unfold eI; rw [List.length_map, List.length_range]
theorem eB_len : (eB n g).length = n := by unfold eB; rw [List.length_map, List.length_range]
theorem eI_one : (eI k n f).all HV.one = true := by
  unfold eI; rw [List.all_map, List.all_eq_true]; intro i _; rfl
theorem eB_one : (eB n g).all HV.one = true := by
  unfold eB; rw [List.all_map, List.all_eq_true]; intro i _; rfl
end
section
variable {n0 nx : Nat} {h0 h : Tr HBlk} {F0 F : PH} {L : List LE}
theorem St.cells (st : St n0 h0 F0 F h nx L) (i : Nat) {b : Nat} {cs : List HV} (hi : L[i]? = some (.bx b cs)) (cs' : List HV) (he : cs = cs') : St n0 h0 F0 F h nx (L.set i (.bx b cs')) := by
  subst he
  have : L.set i (.bx b cs) = L := by
    apply List.ext_getElem?
    intro j
    rw [List.getElem?_set]
    by_cases e : i = j
    · subst e
      rw [if_pos rfl, hi]
      split
      · rfl
      · rename_i hn; rw [List.getElem?_eq_none (by omega)] at hi; cases hi
    · rw [if_neg e]
  rw [this]; exact st
end
def rF (k : IntKind) (n : Nat) : Rel (Nat → Int) := fun _ f r => r = eI k n f
def rFB (n : Nat) : Rel (Nat → Bool) := fun _ f r => r = eB n f
instance {k : IntKind} {n : Nat} : OkR (rF k n) n := ⟨fun _ h => h, fun h => by rw [h]; exact eI_len, fun h => by rw [h]; exact eI_one⟩
instance {n : Nat} : OkR (rFB n) n := ⟨fun _ h => h, fun h => by rw [h]; exact eB_len, fun h => by rw [h]; exact eB_one⟩
end Go.Hx.V

/- What the functions of the program come to. -/
namespace Go.Hx.V
open Go.Hx
set_option linter.unusedVariables false
set_option maxRecDepth 20000
set_option maxHeartbeats 4000000
/- meniscus/meniscuslaw04.Thin -/
def sf16 (N : Nat) (a0_0 : Int) (a0_1 : (List (Int × Int))) (a0_2 : (List (Int × Int × Int))) (a0_3 : Int) (a1 : (List Int)) (a2 : (List Int)) : Option Bool :=
  (bif (decide (((a0_1).length : Int) ≤ (11 : Int))) then (bif (decide (((a0_2).length : Int) ≤ (6 : Int))) then (bif (decide (((a1).length : Int) ≤ (13 : Int))) then some (decide (((a2).length : Int) ≤ (13 : Int))) else some false) else some false) else some false)
/- meniscus/meniscuslaw04.to -/
def sf25 (N : Nat) (a0_0 : Int) (a0_1 : Int) : Option (Int × Int) :=
  some (a0_0, a0_1)
/- meniscus/meniscuslaw04.Screw -/
def sf19_L1 (N : Nat) (a0_1 : (List (Int × Int))) (x30 : (Int × (List (Int × Int)))) : Option ((Int × (List (Int × Int))) ⊕ (List (Int × Int))) :=
  (bif (decide (x30.1 < ((a0_1).length : Int))) then (ix a0_1 x30.1 fun x46 => (bnd (sf25 N x46.1 x46.2) fun v47 => (ck ((x30.2.length + 1) * 16 ≤ 35184372088832 ∧ x30.2.length + 1 ≤ 35184372088832) ((ck (rng (x30.1 + (1 : Int))) (some (.inl ((x30.1 + (1 : Int)), (x30.2 ++ [(v47.1, v47.2)]))))))))) else some (.inr x30.2))
def sf19_L2 (N : Nat) (a0_2 : (List (Int × Int × Int))) (x75 : (Int × (List (Int × Int × Int)))) : Option ((Int × (List (Int × Int × Int))) ⊕ (List (Int × Int × Int))) :=
  (bif (decide (x75.1 < ((a0_2).length : Int))) then (ix a0_2 x75.1 fun x93 => (ix a0_2 x75.1 fun x94 => (bnd (sf25 N x94.2.1 x94.2.2) fun v95 => (ck ((x75.2.length + 1) * 24 ≤ 35184372088832 ∧ x75.2.length + 1 ≤ 35184372088832) ((ck (rng (x75.1 + (1 : Int))) (some (.inl ((x75.1 + (1 : Int)), (x75.2 ++ [(x93.1, v95.1, v95.2)])))))))))) else some (.inr x75.2))
def sf19 (N : Nat) (a0_0 : Int) (a0_1 : (List (Int × Int))) (a0_2 : (List (Int × Int × Int))) (a0_3 : Int) : Option (Int × (List (Int × Int)) × (List (Int × Int × Int)) × Int) :=
  bnd (iter (sf19_L1 N a0_1) N ((0 : Int), ([] : List (Int × Int)))) (fun y42 => bnd (iter (sf19_L2 N a0_2) N ((0 : Int), ([] : List (Int × Int × Int)))) (fun y89 => some (a0_0, y42, y89, a0_3)))
/- meniscus/screw.isError -/
def sf98 (N : Nat) (a0_0 : Int) (a0_1 : Int) : Option Bool :=
  (bif (decide ((-20 : Int) ≤ a0_0)) then (bif (decide (a0_0 ≤ a0_1)) then some (decide (a0_1 ≤ (20 : Int))) else some false) else some false)
/- meniscus/lists.All[meniscus/screw.Range] -/
def sf97_L1 (N : Nat) (a0 : (List (Int × Int))) (x1 : Int) : Option (Int ⊕ (Unit ⊕ Unit)) :=
  (bif (decide (x1 < ((a0).length : Int))) then (ix a0 x1 fun x20 => (bnd (sf98 N x20.1 x20.2) fun v25 => (bif (!v25) then some (.inr (.inl ())) else (ck (rng (x1 + (1 : Int))) (some (.inl (x1 + (1 : Int)))))))) else some (.inr (.inr ())))
def sf97 (N : Nat) (a0 : (List (Int × Int))) : Option Bool :=
  bnd (iter (sf97_L1 N a0) N (0 : Int)) (sel (fun w15 => some false) (fun w17 => some true))
/- (meniscus/screw.Screw).phasesValid -/
def sf76 (N : Nat) (a0_0 : Int) (a0_1 : (List (Int × Int))) (a0_2 : (List (Int × Int × Int))) (a0_3 : Int) : Option Bool :=
  (bif (decide ((0 : Int) < ((a0_1).length : Int))) then (bnd (sf97 N a0_1) fun v5 => some v5) else some false)
/- (meniscus/screw.Zone).valid -/
def sf100 (N : Nat) (a0_0 : Int) (a0_1 : Int) (a0_2 : Int) : Option Bool :=
  (bif (decide ((0 : Int) ≤ a0_0)) then (bif (decide (a0_0 ≤ (60 : Int))) then (bnd (sf98 N a0_1 a0_2) fun v6 => some v6) else some false) else some false)
/- meniscus/lists.All[meniscus/screw.Zone] -/
def sf99_L1 (N : Nat) (a0 : (List (Int × Int × Int))) (x1 : Int) : Option (Int ⊕ (Unit ⊕ Unit)) :=
  (bif (decide (x1 < ((a0).length : Int))) then (ix a0 x1 fun x20 => (bnd (sf100 N x20.1 x20.2.1 x20.2.2) fun v25 => (bif (!v25) then some (.inr (.inl ())) else (ck (rng (x1 + (1 : Int))) (some (.inl (x1 + (1 : Int)))))))) else some (.inr (.inr ())))
def sf99 (N : Nat) (a0 : (List (Int × Int × Int))) : Option Bool :=
  bnd (iter (sf99_L1 N a0) N (0 : Int)) (sel (fun w15 => some false) (fun w17 => some true))
/- (meniscus/screw.Zone).mayPrecede -/
def sf102 (N : Nat) (a0_0 : Int) (a0_1 : Int) (a0_2 : Int) (a1_0 : Int) (a1_1 : Int) (a1_2 : Int) : Option Bool :=
  some (decide (a0_0 < a1_0))
/- meniscus/lists.InOrder[meniscus/screw.Zone] -/
def sf101_L1 (N : Nat) (a0 : (List (Int × Int × Int))) (x1 : Int) : Option (Int ⊕ (Unit ⊕ Unit)) :=
  (bif (decide (x1 < ((a0).length : Int))) then (ck (rng (x1 - (1 : Int))) ((ix a0 (x1 - (1 : Int)) fun x20 => (ix a0 x1 fun x21 => (bnd (sf102 N x20.1 x20.2.1 x20.2.2 x21.1 x21.2.1 x21.2.2) fun v23 => (bif (!v23) then some (.inr (.inl ())) else (ck (rng (x1 + (1 : Int))) (some (.inl (x1 + (1 : Int))))))))))) else some (.inr (.inr ())))
def sf101 (N : Nat) (a0 : (List (Int × Int × Int))) : Option Bool :=
  bnd (iter (sf101_L1 N a0) N (1 : Int)) (sel (fun w14 => some false) (fun w16 => some true))
/- (meniscus/screw.Screw).zonesValid -/
def sf77 (N : Nat) (a0_0 : Int) (a0_1 : (List (Int × Int))) (a0_2 : (List (Int × Int × Int))) (a0_3 : Int) : Option Bool :=
  (bif (decide ((0 : Int) < ((a0_2).length : Int))) then (ix a0_2 (0 : Int) fun x5 => (bif (decide (x5.1 = (0 : Int))) then (bnd (sf99 N a0_2) fun v7 => (bif v7 then (bnd (sf101 N a0_2) fun v11 => some v11) else some false)) else some false)) else some false)
/- meniscus/screw.lowEnds -/
def sf83 (N : Nat) : Option Unit :=
  some ()
/- (meniscus/screw.Range).low -/
def sf105 (N : Nat) (a0_0 : Int) (a0_1 : Int) : Option Int :=
  some a0_0
/- (meniscus/screw.ends).truth -/
def sf84_L1 (N : Nat) (a1_1 : (List (Int × Int))) (x36 : (Int × (List Int))) : Option ((Int × (List Int)) ⊕ (List Int)) :=
  (bif (decide (x36.1 < ((a1_1).length : Int))) then (ix a1_1 x36.1 fun x56 => (bnd (sf105 N x56.1 x56.2) fun v61 => (ck ((x36.2.length + 1) * 8 ≤ 35184372088832 ∧ x36.2.length + 1 ≤ 35184372088832) ((ck (rng (x36.1 + (1 : Int))) (some (.inl ((x36.1 + (1 : Int)), (x36.2 ++ [v61]))))))))) else some (.inr x36.2))
def sf84_L2 (N : Nat) (a1_2 : (List (Int × Int × Int))) (x92 : (Int × (List Int))) : Option ((Int × (List Int)) ⊕ (List Int)) :=
  (bif (decide (x92.1 < ((a1_2).length : Int))) then (ix a1_2 x92.1 fun x113 => (bnd (sf105 N x113.2.1 x113.2.2) fun v118 => (ck ((x92.2.length + 1) * 8 ≤ 35184372088832 ∧ x92.2.length + 1 ≤ 35184372088832) ((ck (rng (x92.1 + (1 : Int))) (some (.inl ((x92.1 + (1 : Int)), (x92.2 ++ [v118]))))))))) else some (.inr x92.2))
def sf84 (N : Nat) (a1_0 : Int) (a1_1 : (List (Int × Int))) (a1_2 : (List (Int × Int × Int))) (a1_3 : Int) : Option ((List Int) × (List Int)) :=
  bnd (iter (sf84_L1 N a1_1) N ((0 : Int), ([] : List Int))) (fun y52 => bnd (iter (sf84_L2 N a1_2) N ((0 : Int), ([] : List Int))) (fun y109 => some (y52, y109)))
/- meniscus/lists.Least -/
def sf103_L1 (a1 : (List Int)) (x1 : (Int × Int)) : Option ((Int × Int) ⊕ Int) :=
  (bif (decide (x1.2 < ((a1).length : Int))) then (ix a1 x1.2 fun x11 => (bif (decide (x11 < x1.1)) then (ck (rng (x1.2 + (1 : Int))) (some (.inl (x11, (x1.2 + (1 : Int)))))) else (ck (rng (x1.2 + (1 : Int))) (some (.inl (x1.1, (x1.2 + (1 : Int)))))))) else some (.inr x1.1))
def sf103 (N : Nat) (a0 : Int) (a1 : (List Int)) : Option Int :=
  bnd (iter (sf103_L1 a1) N (a0, (0 : Int))) (fun y8 => some y8)
/- (meniscus/screw.Screw).goesOn -/
def sf78 (N : Nat) (a0_0 : Int) (a0_1 : (List (Int × Int))) (a0_2 : (List (Int × Int × Int))) (a0_3 : Int) : Option Bool :=
  (bnd (sf83 N ) fun v4 => (bnd (sf84 N a0_0 a0_1 a0_2 a0_3) fun v7 => (ix v7.1 (0 : Int) fun x16 => (ck (0 ≤ (1 : Int) ∧ 0 ≤ ((v7.1).length : Int) ∧ ((Int.toNat (1 : Int)) ≤ v7.1.length ∧ v7.1.length ≤ v7.1.length)) ((bnd (sf103 N x16 ((v7.1.drop (Int.toNat (1 : Int))).take (v7.1.length - (Int.toNat (1 : Int))))) fun v20 => (ix v7.2 (0 : Int) fun x23 => (ck (0 ≤ (1 : Int) ∧ 0 ≤ ((v7.2).length : Int) ∧ ((Int.toNat (1 : Int)) ≤ v7.2.length ∧ v7.2.length ≤ v7.2.length)) ((bnd (sf103 N x23 ((v7.2.drop (Int.toNat (1 : Int))).take (v7.2.length - (Int.toNat (1 : Int))))) fun v27 => (ck (rng (a0_0 + v20)) ((ck (rng ((a0_0 + v20) + v27)) (some (decide ((1 : Int) ≤ ((a0_0 + v20) + v27)))))))))))))))))
/- (meniscus/screw.Screw).valid -/
def sf50 (N : Nat) (a0_0 : Int) (a0_1 : (List (Int × Int))) (a0_2 : (List (Int × Int × Int))) (a0_3 : Int) : Option Bool :=
  (bif (decide ((1 : Int) ≤ a0_0)) then (bif (decide (a0_0 ≤ (50 : Int))) then (bif (decide ((1 : Int) ≤ a0_3)) then (bif (decide (a0_3 ≤ (60 : Int))) then (bnd (sf76 N a0_0 a0_1 a0_2 a0_3) fun v8 => (bif v8 then (bnd (sf77 N a0_0 a0_1 a0_2 a0_3) fun v12 => (bif v12 then (bnd (sf78 N a0_0 a0_1 a0_2 a0_3) fun v16 => some v16) else some false)) else some false)) else some false) else some false) else some false) else some false)
/- meniscus/screw.CheckScrew -/
def sf18 (N : Nat) (a0_0 : Int) (a0_1 : (List (Int × Int))) (a0_2 : (List (Int × Int × Int))) (a0_3 : Int) : Option Int :=
  bnd ((bif (decide ((8 : Int) < ((a0_1).length : Int))) then some true else some (decide ((3 : Int) < ((a0_2).length : Int)))) : Option (Bool)) (fun y5 => (bif y5 then some (3 : Int) else (bnd (sf50 N a0_0 a0_1 a0_2 a0_3) fun v11 => (bif (!v11) then some (1 : Int) else some (0 : Int)))))
/- meniscus/meniscuslaw04.list -/
def sf30 (N : Nat) (a0 : (List Int)) : Option (List Int) :=
  (ck ((([] : List Int).length + a0.length) * 8 ≤ 35184372088832 ∧ ([] : List Int).length + a0.length ≤ 35184372088832) (some (([] : List Int) ++ a0)))
/- (meniscus/screw.Screw).hasTick -/
def sf79 (N : Nat) (a0_0 : Int) (a0_1 : (List (Int × Int))) (a0_2 : (List (Int × Int × Int))) (a0_3 : Int) (a1 : Int) : Option Bool :=
  (bif (decide ((0 : Int) ≤ a1)) then some (decide (a1 ≤ a0_3)) else some false)
/- (meniscus/screw.Screw).zoneOf -/
def sf82_L1 (a0_2 : (List (Int × Int × Int))) (a1 : Int) (x4 : (Int × Int)) : Option ((Int × Int) ⊕ Int) :=
  (bif (decide (x4.2 < ((a0_2).length : Int))) then (ix a0_2 x4.2 fun x18 => (bif (decide (x18.1 ≤ a1)) then (ck (rng (x4.2 + (1 : Int))) (some (.inl (x4.2, (x4.2 + (1 : Int)))))) else (ck (rng (x4.2 + (1 : Int))) (some (.inl (x4.1, (x4.2 + (1 : Int)))))))) else some (.inr x4.1))
def sf82 (N : Nat) (a0_0 : Int) (a0_1 : (List (Int × Int))) (a0_2 : (List (Int × Int × Int))) (a0_3 : Int) (a1 : Int) : Option Int :=
  bnd (iter (sf82_L1 a0_2 a1) N ((0 : Int), (0 : Int))) (fun y15 => some y15)
/- (meniscus/screw.Screw).places -/
def sf53_L1 (N : Nat) (a0_0 : Int) (a0_1 : (List (Int × Int))) (a0_2 : (List (Int × Int × Int))) (a0_3 : Int) (a1_0 : (List Int)) (a1_1 : (List Int)) (x17 : (Int × Int × (List Int))) (x100 : (Int × Int × (List Int))) : Option ((Int × Int × (List Int)) ⊕ ((Int × (List Int)) ⊕ (Int × (List Int)))) :=
  (bif (decide (x100.1 < ((a0_1).length : Int))) then (ck (rng (x17.1 + x100.1)) ((bif (decide ((x17.1 + x100.1) = a0_3)) then some (.inr (.inl (x100.2.1, x100.2.2))) else (ix a1_0 x100.1 fun x134 => (ck (rng (a0_0 + x134)) ((bnd (sf82 N a0_0 a0_1 a0_2 a0_3 (x17.1 + x100.1)) fun v136 => (ix a1_1 v136 fun x139 => (ck (rng ((a0_0 + x134) + x139)) ((ck (rng (x100.2.1 + ((a0_0 + x134) + x139))) ((ck ((x100.2.2.length + 1) * 8 ≤ 35184372088832 ∧ x100.2.2.length + 1 ≤ 35184372088832) ((ck (rng (x100.1 + (1 : Int))) (some (.inl ((x100.1 + (1 : Int)), (x100.2.1 + ((a0_0 + x134) + x139)), (x100.2.2 ++ [(x100.2.1 + ((a0_0 + x134) + x139))]))))))))))))))))))) else some (.inr (.inr (x100.2.1, x100.2.2))))
def sf53_L2 (N : Nat) (a0_0 : Int) (a0_1 : (List (Int × Int))) (a0_2 : (List (Int × Int × Int))) (a0_3 : Int) (a1_0 : (List Int)) (a1_1 : (List Int)) (x17 : (Int × Int × (List Int))) : Option ((Int × Int × (List Int)) ⊕ (Int × (List Int))) :=
  (bif (decide (x17.1 < a0_3)) then bnd (iter (sf53_L1 N a0_0 a0_1 a0_2 a0_3 a1_0 a1_1 x17) N ((0 : Int), x17.2.1, x17.2.2)) (sel (fun w125 => (ck (rng (x17.1 + ((a0_1).length : Int))) (some (.inl ((x17.1 + ((a0_1).length : Int)), w125.1, w125.2))))) (fun w128 => (ck (rng (x17.1 + ((a0_1).length : Int))) (some (.inl ((x17.1 + ((a0_1).length : Int)), w128.1, w128.2)))))) else some (.inr (x17.2.1, x17.2.2)))
def sf53 (N : Nat) (a0_0 : Int) (a0_1 : (List (Int × Int))) (a0_2 : (List (Int × Int × Int))) (a0_3 : Int) (a1_0 : (List Int)) (a1_1 : (List Int)) : Option (List Int) :=
  (ck (rng (a0_3 + (1 : Int))) ((ck (0 ≤ (1 : Int) ∧ 0 ≤ (a0_3 + (1 : Int)) ∧ Int.toNat (1 : Int) ≤ Int.toNat (a0_3 + (1 : Int)) ∧ (Int.toNat (a0_3 + (1 : Int)) * 8 ≤ 35184372088832 ∧ Int.toNat (a0_3 + (1 : Int)) ≤ 35184372088832)) (bnd (iter (sf53_L2 N a0_0 a0_1 a0_2 a0_3 a1_0 a1_1) N ((0 : Int), (0 : Int), (List.replicate (Int.toNat (1 : Int)) 0))) (fun y88 => some y88.2)))))
/- meniscus/screw.highEnds -/
def sf85 (N : Nat) : Option Unit :=
  some ()
/- (meniscus/screw.Range).high -/
def sf106 (N : Nat) (a0_0 : Int) (a0_1 : Int) : Option Int :=
  some a0_1
/- (meniscus/screw.ends).truth -/
def sf84_2_L1 (N : Nat) (a1_1 : (List (Int × Int))) (x36 : (Int × (List Int))) : Option ((Int × (List Int)) ⊕ (List Int)) :=
  (bif (decide (x36.1 < ((a1_1).length : Int))) then (ix a1_1 x36.1 fun x56 => (bnd (sf106 N x56.1 x56.2) fun v61 => (ck ((x36.2.length + 1) * 8 ≤ 35184372088832 ∧ x36.2.length + 1 ≤ 35184372088832) ((ck (rng (x36.1 + (1 : Int))) (some (.inl ((x36.1 + (1 : Int)), (x36.2 ++ [v61]))))))))) else some (.inr x36.2))
def sf84_2_L2 (N : Nat) (a1_2 : (List (Int × Int × Int))) (x92 : (Int × (List Int))) : Option ((Int × (List Int)) ⊕ (List Int)) :=
  (bif (decide (x92.1 < ((a1_2).length : Int))) then (ix a1_2 x92.1 fun x113 => (bnd (sf106 N x113.2.1 x113.2.2) fun v118 => (ck ((x92.2.length + 1) * 8 ≤ 35184372088832 ∧ x92.2.length + 1 ≤ 35184372088832) ((ck (rng (x92.1 + (1 : Int))) (some (.inl ((x92.1 + (1 : Int)), (x92.2 ++ [v118]))))))))) else some (.inr x92.2))
def sf84_2 (N : Nat) (a1_0 : Int) (a1_1 : (List (Int × Int))) (a1_2 : (List (Int × Int × Int))) (a1_3 : Int) : Option ((List Int) × (List Int)) :=
  bnd (iter (sf84_2_L1 N a1_1) N ((0 : Int), ([] : List Int))) (fun y52 => bnd (iter (sf84_2_L2 N a1_2) N ((0 : Int), ([] : List Int))) (fun y109 => some (y52, y109)))
/- meniscus/screw.engineOf -/
def sf54 (N : Nat) (a0_0 : Int) (a0_1 : (List (Int × Int))) (a0_2 : (List (Int × Int × Int))) (a0_3 : Int) : Option (Int × (List (Int × Int)) × (List (Int × Int × Int)) × Int × (List Int) × (List Int)) :=
  (bnd (sf83 N ) fun v7 => (bnd (sf84 N a0_0 a0_1 a0_2 a0_3) fun v10 => (bnd (sf53 N a0_0 a0_1 a0_2 a0_3 v10.1 v10.2) fun v15 => (bnd (sf85 N ) fun v20 => (bnd (sf84_2 N a0_0 a0_1 a0_2 a0_3) fun v23 => (bnd (sf53 N a0_0 a0_1 a0_2 a0_3 v23.1 v23.2) fun v30 => some (a0_0, a0_1, a0_2, a0_3, v15, v30)))))))
/- (meniscus/screw.engine).bounds -/
def sf55 (N : Nat) (a0_0 : Int) (a0_1 : (List (Int × Int))) (a0_2 : (List (Int × Int × Int))) (a0_3 : Int) (a0_4 : (List Int)) (a0_5 : (List Int)) (a1 : Int) : Option (Int × Int) :=
  (ix a0_4 a1 fun x7 => (ix a0_5 a1 fun x8 => some (x7, x8)))
/- meniscus/meniscusref04.In -/
def sf24 (N : Nat) (a0 : Int) (a1 : Int) (a2 : Int) : Option Bool :=
  (bif (decide (a1 ≤ a0)) then some (decide (a0 ≤ a2)) else some false)
/- meniscus/meniscusref04.span -/
def sf86 (N : Nat) (a0_0 : Int) (a0_1 : Int) : Option Bool :=
  (bnd (sf24 N a0_0 (-20 : Int) a0_1) fun v4 => (bif v4 then some (decide (a0_1 ≤ (20 : Int))) else some false))
/- meniscus/meniscusref04.Fault -/
def sf56_L1 (N : Nat) (a0_2 : (List (Int × Int × Int))) (x90 : Int) : Option (Int ⊕ (Int ⊕ Unit)) :=
  (bif (decide (x90 < ((a0_2).length : Int))) then (ix a0_2 x90 fun x145 => bnd ((bnd (sf24 N x145.1 (0 : Int) (60 : Int)) fun v169 => (bif (!v169) then some true else (bnd (sf86 N x145.2.1 x145.2.2) fun v174 => (bif (!v174) then some true else (bif (decide ((0 : Int) < x90)) then (ck (rng (x90 - (1 : Int))) ((ix a0_2 (x90 - (1 : Int)) fun x181 => some (decide (x145.1 ≤ x181.1))))) else some false))))) : Option (Bool)) (fun y165 => (bif y165 then some (.inr (.inl (1 : Int))) else (ck (rng (x90 + (1 : Int))) (some (.inl (x90 + (1 : Int)))))))) else some (.inr (.inr ())))
def sf56_L2 (a0_0 : Int) (a0_1 : (List (Int × Int))) (a0_2 : (List (Int × Int × Int))) (x197 : Int) (x259 : Int) : Option (Int ⊕ (Int ⊕ Unit)) :=
  (bif (decide (x259 < ((a0_2).length : Int))) then (ix a0_1 x197 fun x279 => (ck (rng (a0_0 + x279.1)) ((ix a0_2 x259 fun x281 => (ck (rng ((a0_0 + x279.1) + x281.2.1)) ((bif (decide (((a0_0 + x279.1) + x281.2.1) < (1 : Int))) then some (.inr (.inl (1 : Int))) else (ck (rng (x259 + (1 : Int))) (some (.inl (x259 + (1 : Int)))))))))))) else some (.inr (.inr ())))
def sf56_L3 (N : Nat) (a0_0 : Int) (a0_1 : (List (Int × Int))) (a0_2 : (List (Int × Int × Int))) (x197 : Int) : Option (Int ⊕ (Int ⊕ Unit)) :=
  (bif (decide (x197 < ((a0_1).length : Int))) then (ix a0_1 x197 fun x254 => (bnd (sf86 N x254.1 x254.2) fun v255 => (bif (!v255) then some (.inr (.inl (1 : Int))) else bnd (iter (sf56_L2 a0_0 a0_1 a0_2 x197) N (0 : Int)) (sel (fun w274 => some (.inr (.inl w274))) (fun w276 => (ck (rng (x197 + (1 : Int))) (some (.inl (x197 + (1 : Int)))))))))) else some (.inr (.inr ())))
def sf56 (N : Nat) (a0_0 : Int) (a0_1 : (List (Int × Int))) (a0_2 : (List (Int × Int × Int))) (a0_3 : Int) : Option Int :=
  bnd (bnd ((bif (decide ((8 : Int) < ((a0_1).length : Int))) then some true else some (decide ((3 : Int) < ((a0_2).length : Int)))) : Option (Bool)) (fun y19 => (bif y19 then some (.inl (3 : Int)) else some (.inr ()))) : Option (Int ⊕ Unit)) (sel (fun w14 => some w14) (fun w16 => bnd (bnd ((bnd (sf24 N a0_0 (1 : Int) (50 : Int)) fun v75 => (bif (!v75) then some true else (bnd (sf24 N a0_3 (1 : Int) (60 : Int)) fun v79 => (bif (!v79) then some true else (bif (decide (((a0_1).length : Int) = (0 : Int))) then some true else (bif (decide (((a0_2).length : Int) = (0 : Int))) then some true else (ix a0_2 (0 : Int) fun x85 => some (!(decide (x85.1 = (0 : Int))))))))))) : Option (Bool)) (fun y71 => (bif y71 then some (.inl (1 : Int)) else some (.inr ()))) : Option (Int ⊕ Unit)) (sel (fun w56 => some w56) (fun w58 => bnd (iter (sf56_L1 N a0_2) N (0 : Int)) (sel (fun w140 => some w140) (fun w142 => bnd (iter (sf56_L3 N a0_0 a0_1 a0_2) N (0 : Int)) (sel (fun w249 => some w249) (fun w251 => some (0 : Int)))))))))
/- meniscus/meniscuslaw04.fault -/
def sf23 (N : Nat) (a0_0 : Int) (a0_1 : (List (Int × Int))) (a0_2 : (List (Int × Int × Int))) (a0_3 : Int) : Option Int :=
  (bnd (sf56 N a0_0 a0_1 a0_2 a0_3) fun v4 => some v4)
/- meniscus/screw.isPlace -/
def sf60 (N : Nat) (a0 : Int) : Option Bool :=
  (bif (decide ((0 : Int) ≤ a0)) then some (decide (a0 ≤ (5000 : Int))) else some false)
/- meniscus/lists.All[int] -/
def sf87_L1 (N : Nat) (a0 : (List Int)) (x1 : Int) : Option (Int ⊕ (Unit ⊕ Unit)) :=
  (bif (decide (x1 < ((a0).length : Int))) then (ix a0 x1 fun x16 => (bnd (sf60 N x16) fun v17 => (bif (!v17) then some (.inr (.inl ())) else (ck (rng (x1 + (1 : Int))) (some (.inl (x1 + (1 : Int)))))))) else some (.inr (.inr ())))
def sf87 (N : Nat) (a0 : (List Int)) : Option Bool :=
  bnd (iter (sf87_L1 N a0) N (0 : Int)) (sel (fun w11 => some false) (fun w13 => some true))
/- meniscus/lists.Rises_1 -/
def sf108 (N : Nat) (a0 : Int) (a1 : Int) : Option Bool :=
  some (decide (a0 < a1))
/- meniscus/lists.InOrder[int] -/
def sf107_L1 (N : Nat) (a0 : (List Int)) (x1 : Int) : Option (Int ⊕ (Unit ⊕ Unit)) :=
  (bif (decide (x1 < ((a0).length : Int))) then (ck (rng (x1 - (1 : Int))) ((ix a0 (x1 - (1 : Int)) fun x20 => (ix a0 x1 fun x21 => (bnd (sf108 N x20 x21) fun v23 => (bif (!v23) then some (.inr (.inl ())) else (ck (rng (x1 + (1 : Int))) (some (.inl (x1 + (1 : Int))))))))))) else some (.inr (.inr ())))
def sf107 (N : Nat) (a0 : (List Int)) : Option Bool :=
  bnd (iter (sf107_L1 N a0) N (1 : Int)) (sel (fun w14 => some false) (fun w16 => some true))
/- meniscus/lists.Rises -/
def sf88 (N : Nat) (a0 : (List Int)) : Option Bool :=
  (bnd (sf107 N a0) fun v1 => some v1)
/- meniscus/screw.checkScale -/
def sf66 (N : Nat) (a0_0 : Int) (a0_1 : (List (Int × Int))) (a0_2 : (List (Int × Int × Int))) (a0_3 : Int) (a1 : (List Int)) : Option Int :=
  (bnd (sf18 N a0_0 a0_1 a0_2 a0_3) fun v4 => (bif (!(decide (v4 = (0 : Int)))) then some v4 else (bif (decide ((10 : Int) < ((a1).length : Int))) then some (3 : Int) else bnd ((bif (decide (((a1).length : Int) = (0 : Int))) then some true else (bnd (sf87 N a1) fun v22 => (bif (!v22) then some true else (bnd (sf88 N a1) fun v26 => some (!v26))))) : Option (Bool)) (fun y17 => (bif y17 then some (2 : Int) else some (0 : Int))))))
/- meniscus/lists.All[int] -/
def sf87_2_L1 (N : Nat) (a0 : (List Int)) (a1f0_0 : Int) (a1f0_1 : (List (Int × Int))) (a1f0_2 : (List (Int × Int × Int))) (a1f0_3 : Int) (x1 : Int) : Option (Int ⊕ (Unit ⊕ Unit)) :=
  (bif (decide (x1 < ((a0).length : Int))) then (ix a0 x1 fun x16 => (bnd (sf79 N a1f0_0 a1f0_1 a1f0_2 a1f0_3 x16) fun v17 => (bif (!v17) then some (.inr (.inl ())) else (ck (rng (x1 + (1 : Int))) (some (.inl (x1 + (1 : Int)))))))) else some (.inr (.inr ())))
def sf87_2 (N : Nat) (a0 : (List Int)) (a1f0_0 : Int) (a1f0_1 : (List (Int × Int))) (a1f0_2 : (List (Int × Int × Int))) (a1f0_3 : Int) : Option Bool :=
  bnd (iter (sf87_2_L1 N a0 a1f0_0 a1f0_1 a1f0_2 a1f0_3) N (0 : Int)) (sel (fun w11 => some false) (fun w13 => some true))
/- meniscus/screw.checkCutting -/
def sf57 (N : Nat) (a0_0 : Int) (a0_1 : (List (Int × Int))) (a0_2 : (List (Int × Int × Int))) (a0_3 : Int) (a1 : (List Int)) (a2 : (List Int)) : Option Int :=
  (bnd (sf66 N a0_0 a0_1 a0_2 a0_3 a1) fun v4 => (bif (!(decide (v4 = (0 : Int)))) then some v4 else bnd ((bif (!(decide (((a2).length : Int) = ((a1).length : Int)))) then some true else (bnd (sf87_2 N a2 a0_0 a0_1 a0_2 a0_3) fun v21 => (bif (!v21) then some true else (bnd (sf88 N a2) fun v25 => some (!v25))))) : Option (Bool)) (fun y16 => (bif y16 then some (2 : Int) else some (0 : Int)))))
/- meniscus/screw.linesOf -/
def sf58_L1 (a0 : (List Int)) (a1 : (List Int)) (x2 : ((List (Int × Int)) × Int)) : Option (((List (Int × Int)) × Int) ⊕ (List (Int × Int))) :=
  (bif (decide (x2.2 < ((a0).length : Int))) then (ix a0 x2.2 fun x17 => (ix a1 x2.2 fun x18 => (ck ((x2.1.length + 1) * 16 ≤ 35184372088832 ∧ x2.1.length + 1 ≤ 35184372088832) ((ck (rng (x2.2 + (1 : Int))) (some (.inl ((x2.1 ++ [(x17, x18)]), (x2.2 + (1 : Int)))))))))) else some (.inr x2.1))
def sf58 (N : Nat) (a0 : (List Int)) (a1 : (List Int)) : Option (List (Int × Int)) :=
  (ck (0 ≤ (0 : Int) ∧ 0 ≤ ((a0).length : Int) ∧ Int.toNat (0 : Int) ≤ Int.toNat ((a0).length : Int) ∧ (Int.toNat ((a0).length : Int) * 16 ≤ 35184372088832 ∧ Int.toNat ((a0).length : Int) ≤ 35184372088832)) (bnd (iter (sf58_L1 a0 a1) N ((List.replicate (Int.toNat (0 : Int)) (0, 0)), (0 : Int))) (fun y13 => some y13)))
/- (meniscus/screw.engine).out -/
def sf59 (N : Nat) (a0_0 : Int) (a0_1 : (List (Int × Int))) (a0_2 : (List (Int × Int × Int))) (a0_3 : Int) (a0_4 : (List Int)) (a0_5 : (List Int)) (a1_0 : Int) (a1_1 : Int) : Option (Int × Int) :=
  (bnd (sf55 N a0_0 a0_1 a0_2 a0_3 a0_4 a0_5 a1_1) fun v10 => (ck (rng (v10.1 - a1_0)) ((ck (rng (v10.2 - a1_0)) (some ((v10.1 - a1_0), (v10.2 - a1_0)))))))
/- meniscus/screw.taskOf -/
def sf62 (N : Nat) (a0_0 : Int) (a0_1 : (List (Int × Int))) (a0_2 : (List (Int × Int × Int))) (a0_3 : Int) (a1 : Int) : Option (Int × (List (Int × Int)) × (List (Int × Int × Int)) × Int × (List Int) × (List Int) × Int) :=
  (bnd (sf54 N a0_0 a0_1 a0_2 a0_3) fun v7 => some (v7.1, v7.2.1, v7.2.2.1, v7.2.2.2.1, v7.2.2.2.2.1, v7.2.2.2.2.2, a1))
/- meniscus/lists.Greatest -/
def sf96_L1 (a1 : (List Int)) (x1 : (Int × Int)) : Option ((Int × Int) ⊕ Int) :=
  (bif (decide (x1.2 < ((a1).length : Int))) then (ix a1 x1.2 fun x11 => (bif (decide (x1.1 < x11)) then (ck (rng (x1.2 + (1 : Int))) (some (.inl (x11, (x1.2 + (1 : Int)))))) else (ck (rng (x1.2 + (1 : Int))) (some (.inl (x1.1, (x1.2 + (1 : Int)))))))) else some (.inr x1.1))
def sf96 (N : Nat) (a0 : Int) (a1 : (List Int)) : Option Int :=
  bnd (iter (sf96_L1 a1) N (a0, (0 : Int))) (fun y8 => some y8)
/- (meniscus/screw.task).right -/
def sf73 (N : Nat) (a0_0 : Int) (a0_1 : (List (Int × Int))) (a0_2 : (List (Int × Int × Int))) (a0_3 : Int) (a0_4 : (List Int)) (a0_5 : (List Int)) (a0_6 : Int) (a1_0 : Int) (a1_1 : Int) : Option Bool :=
  (bnd (sf59 N a0_0 a0_1 a0_2 a0_3 a0_4 a0_5 a1_0 a1_1) fun v7 => (ck (rng (-v7.1)) ((bnd (sf96 N (-v7.1) ([v7.2])) fun v15 => some (decide (v15 ≤ a0_6))))))
/- meniscus/meniscusref04.ScaleFault -/
def sf68_L1 (N : Nat) (a0 : (List Int)) (x2 : Int) : Option (Int ⊕ (Int ⊕ Unit)) :=
  (bif (decide (x2 < ((a0).length : Int))) then bnd ((ix a0 x2 fun x58 => (bnd (sf24 N x58 (0 : Int) (5000 : Int)) fun v59 => (bif (!v59) then some true else (bif (decide ((0 : Int) < x2)) then (ix a0 x2 fun x65 => (ck (rng (x2 - (1 : Int))) ((ix a0 (x2 - (1 : Int)) fun x67 => some (decide (x65 ≤ x67)))))) else some false)))) : Option (Bool)) (fun y54 => (bif y54 then some (.inr (.inl (2 : Int))) else (ck (rng (x2 + (1 : Int))) (some (.inl (x2 + (1 : Int))))))) else some (.inr (.inr ())))
def sf68 (N : Nat) (a0 : (List Int)) : Option Int :=
  (bif (decide ((10 : Int) < ((a0).length : Int))) then some (3 : Int) else bnd (iter (sf68_L1 N a0) N (0 : Int)) (sel (fun w37 => some w37) (fun w39 => (bif (decide (((a0).length : Int) = (0 : Int))) then some (2 : Int) else some (0 : Int)))))
/- meniscus/meniscuslaw04.scaled -/
def sf39 (N : Nat) (a0_0 : Int) (a0_1 : (List (Int × Int))) (a0_2 : (List (Int × Int × Int))) (a0_3 : Int) (a1 : (List Int)) : Option Int :=
  (bnd (sf23 N a0_0 a0_1 a0_2 a0_3) fun v4 => (bif (!(decide (v4 = (0 : Int)))) then some v4 else (bnd (sf68 N a1) fun v8 => some v8)))
/- meniscus/meniscusref04.IsCutting -/
def sf64_L1 (N : Nat) (a0_3 : Int) (a2 : (List Int)) (x4 : Int) : Option (Int ⊕ (Unit ⊕ Unit)) :=
  (bif (decide (x4 < ((a2).length : Int))) then bnd ((ix a2 x4 fun x60 => (bnd (sf24 N x60 (0 : Int) a0_3) fun v61 => (bif (!v61) then some true else (bif (decide ((0 : Int) < x4)) then (ix a2 x4 fun x67 => (ck (rng (x4 - (1 : Int))) ((ix a2 (x4 - (1 : Int)) fun x69 => some (decide (x67 ≤ x69)))))) else some false)))) : Option (Bool)) (fun y56 => (bif y56 then some (.inr (.inl ())) else (ck (rng (x4 + (1 : Int))) (some (.inl (x4 + (1 : Int))))))) else some (.inr (.inr ())))
def sf64 (N : Nat) (a0_0 : Int) (a0_1 : (List (Int × Int))) (a0_2 : (List (Int × Int × Int))) (a0_3 : Int) (a1 : (List Int)) (a2 : (List Int)) : Option Bool :=
  bnd (iter (sf64_L1 N a0_3 a2) N (0 : Int)) (sel (fun w39 => some false) (fun w41 => some (decide (((a2).length : Int) = ((a1).length : Int)))))
/- meniscus/meniscuslaw04.cut -/
def sf32 (N : Nat) (a0_0 : Int) (a0_1 : (List (Int × Int))) (a0_2 : (List (Int × Int × Int))) (a0_3 : Int) (a1 : (List Int)) (a2 : (List Int)) : Option Int :=
  (bnd (sf39 N a0_0 a0_1 a0_2 a0_3 a1) fun v4 => (bif (!(decide (v4 = (0 : Int)))) then some v4 else (bnd (sf64 N a0_0 a0_1 a0_2 a0_3 a1 a2) fun v8 => (bif (!v8) then some (2 : Int) else some (0 : Int)))))
/- (meniscus/screw.task).canCut -/
def sf91_L1 (N : Nat) (a0_0 : Int) (a0_1 : (List (Int × Int))) (a0_2 : (List (Int × Int × Int))) (a0_3 : Int) (a0_4 : (List Int)) (a0_5 : (List Int)) (a0_6 : Int) (x41 : Int) (x42 : Int) : Option (Int ⊕ (Int ⊕ Unit)) :=
  (bif (decide (x42 < a0_3)) then (ck (rng (x42 + (1 : Int))) ((bnd (sf73 N a0_0 a0_1 a0_2 a0_3 a0_4 a0_5 a0_6 x41 (x42 + (1 : Int))) fun v58 => (bif v58 then some (.inr (.inl (x42 + (1 : Int)))) else some (.inl (x42 + (1 : Int))))))) else some (.inr (.inr ())))
def sf91_L2 (N : Nat) (a0_0 : Int) (a0_1 : (List (Int × Int))) (a0_2 : (List (Int × Int × Int))) (a0_3 : Int) (a0_4 : (List Int)) (a0_5 : (List Int)) (a0_6 : Int) (a1 : (List Int)) (x4 : (Int × Int)) : Option ((Int × Int) ⊕ (Unit ⊕ Unit)) :=
  (bif (decide (x4.2 < ((a1).length : Int))) then (ix a1 x4.2 fun x41 => bnd (iter (sf91_L1 N a0_0 a0_1 a0_2 a0_3 a0_4 a0_5 a0_6 x41) N x4.1) (sel (fun w52 => (ck (rng (x4.2 + (1 : Int))) (some (.inl (w52, (x4.2 + (1 : Int))))))) (fun w54 => some (.inr (.inl ()))))) else some (.inr (.inr ())))
def sf91 (N : Nat) (a0_0 : Int) (a0_1 : (List (Int × Int))) (a0_2 : (List (Int × Int × Int))) (a0_3 : Int) (a0_4 : (List Int)) (a0_5 : (List Int)) (a0_6 : Int) (a1 : (List Int)) : Option Bool :=
  bnd (iter (sf91_L2 N a0_0 a0_1 a0_2 a0_3 a0_4 a0_5 a0_6 a1) N ((-1 : Int), (0 : Int))) (sel (fun w36 => some false) (fun w38 => some true))
/- (meniscus/screw.engine).printed_1 -/
def sf90 (N : Nat) (a0 : Int) (k0p0 : Int) (k0p1 : (List (Int × Int))) (k0p2 : (List (Int × Int × Int))) (k0p3 : Int) (k0p4 : (List Int)) (k0p5 : (List Int)) (k1p0 : (List Int)) : Option Bool :=
  (bnd (sf91 N k0p0 k0p1 k0p2 k0p3 k0p4 k0p5 a0 k1p0) fun v1 => some v1)
/- sort.Search -/
def sf89_L1 (N : Nat) (a1c0p0 : Int) (a1c0p1 : (List (Int × Int))) (a1c0p2 : (List (Int × Int × Int))) (a1c0p3 : Int) (a1c0p4 : (List Int)) (a1c0p5 : (List Int)) (a1c1p0 : (List Int)) (x1 : (Int × Int)) : Option ((Int × Int) ⊕ Int) :=
  (bif (decide (x1.1 < x1.2)) then (ck (rng (x1.1 + x1.2)) ((ck (IntKind.wrap .u64 (x1.1 + x1.2) = (x1.1 + x1.2)) ((ck (0 ≤ (1 : Int)) ((ck (IntKind.wrap .i64 (Int.fdiv (x1.1 + x1.2) (2 ^ (Nat.min (Int.toNat (1 : Int)) (IntKind.bits .u64)))) = (Int.fdiv (x1.1 + x1.2) (2 ^ (Nat.min (Int.toNat (1 : Int)) (IntKind.bits .u64))))) ((bnd (sf90 N (Int.fdiv (x1.1 + x1.2) (2 ^ (Nat.min (Int.toNat (1 : Int)) (IntKind.bits .u64)))) a1c0p0 a1c0p1 a1c0p2 a1c0p3 a1c0p4 a1c0p5 a1c1p0) fun v20 => (bif (!v20) then (ck (rng ((Int.fdiv (x1.1 + x1.2) (2 ^ (Nat.min (Int.toNat (1 : Int)) (IntKind.bits .u64)))) + (1 : Int))) (some (.inl (((Int.fdiv (x1.1 + x1.2) (2 ^ (Nat.min (Int.toNat (1 : Int)) (IntKind.bits .u64)))) + (1 : Int)), x1.2)))) else some (.inl (x1.1, (Int.fdiv (x1.1 + x1.2) (2 ^ (Nat.min (Int.toNat (1 : Int)) (IntKind.bits .u64)))))))))))))))) else some (.inr x1.1))
def sf89 (N : Nat) (a0 : Int) (a1c0p0 : Int) (a1c0p1 : (List (Int × Int))) (a1c0p2 : (List (Int × Int × Int))) (a1c0p3 : Int) (a1c0p4 : (List Int)) (a1c0p5 : (List Int)) (a1c1p0 : (List Int)) : Option Int :=
  bnd (iter (sf89_L1 N a1c0p0 a1c0p1 a1c0p2 a1c0p3 a1c0p4 a1c0p5 a1c1p0) N ((0 : Int), a0)) (fun y13 => some y13)
/- (meniscus/screw.engine).printed -/
def sf67 (N : Nat) (a0_0 : Int) (a0_1 : (List (Int × Int))) (a0_2 : (List (Int × Int × Int))) (a0_3 : Int) (a0_4 : (List Int)) (a0_5 : (List Int)) (a1 : (List Int)) : Option Int :=
  (bnd (sf89 N (5000 : Int) a0_0 a0_1 a0_2 a0_3 a0_4 a0_5 a1) fun v7 => some v7)
/- meniscus/screw.Printed -/
def sf38 (N : Nat) (a0_0 : Int) (a0_1 : (List (Int × Int))) (a0_2 : (List (Int × Int × Int))) (a0_3 : Int) (a1 : (List Int)) : Option (Int × Int) :=
  (bnd (sf66 N a0_0 a0_1 a0_2 a0_3 a1) fun v4 => (bif (!(decide (v4 = (0 : Int)))) then some ((0 : Int), v4) else (ck (rng (a0_3 + (1 : Int))) ((bif (decide ((a0_3 + (1 : Int)) < ((a1).length : Int))) then some ((0 : Int), (9 : Int)) else (bnd (sf54 N a0_0 a0_1 a0_2 a0_3) fun v10 => (bnd (sf67 N v10.1 v10.2.1 v10.2.2.1 v10.2.2.2.1 v10.2.2.2.2.1 v10.2.2.2.2.2 a1) fun v17 => some (v17, (0 : Int)))))))))
/- meniscus/screw.ahead -/
def sf95 (N : Nat) : Option (Int × Int × Int) :=
  some ((-1 : Int), (-1 : Int), (0 : Int))
/- (meniscus/screw.cut).then -/
def sf93 (N : Nat) (a0_0 : Int) (a0_1 : Int) (a0_2 : Int) (a1 : Int) : Option (Int × Int × Int) :=
  (bnd (sf95 N ) fun v7 => (bif (a0_0 == v7.1 && (a0_1 == v7.2.1 && (a0_2 == v7.2.2 && true))) then some ((0 : Int), a1, (0 : Int)) else (ck (rng (a0_0 + (1 : Int))) ((ck (rng (a1 - a0_1)) (some ((a0_0 + (1 : Int)), a1, (a1 - a0_1))))))))
/- (meniscus/screw.cut).settingsTo -/
def sf94 (N : Nat) (a0_0 : Int) (a0_1 : Int) (a0_2 : Int) (a1_0 : Int) (a1_1 : Int) (a1_2 : Int) : Option Int :=
  (bif (decide (a1_2 = a0_2)) then some (0 : Int) else some (1 : Int))
/- meniscus/screw.settingsOf -/
def sf71_L1 (N : Nat) (a0 : (List Int)) (x8 : (Int × Int × Int × Int × Int)) : Option ((Int × Int × Int × Int × Int) ⊕ (Int × Int × Int × Int)) :=
  (bif (decide (x8.2.1 < ((a0).length : Int))) then (ix a0 x8.2.1 fun x28 => (bnd (sf93 N x8.2.2.1 x8.2.2.2.1 x8.2.2.2.2 x28) fun v29 => (bnd (sf94 N x8.2.2.1 x8.2.2.2.1 x8.2.2.2.2 v29.1 v29.2.1 v29.2.2) fun v36 => (ck (rng (x8.1 + v36)) ((ck (rng (x8.2.1 + (1 : Int))) (some (.inl ((x8.1 + v36), (x8.2.1 + (1 : Int)), v29.1, v29.2.1, v29.2.2))))))))) else some (.inr (x8.1, x8.2.2.1, x8.2.2.2.1, x8.2.2.2.2)))
def sf71 (N : Nat) (a0 : (List Int)) : Option Int :=
  (bnd (sf95 N ) fun v1 => bnd (iter (sf71_L1 N a0) N ((0 : Int), (0 : Int), v1.1, v1.2.1, v1.2.2)) (fun y25 => some y25.1))
/- meniscus/lists.All[meniscus/screw.line] -/
def sf72_L1 (N : Nat) (a0 : (List (Int × Int))) (a1f0_0 : Int) (a1f0_1 : (List (Int × Int))) (a1f0_2 : (List (Int × Int × Int))) (a1f0_3 : Int) (a1f0_4 : (List Int)) (a1f0_5 : (List Int)) (a1f0_6 : Int) (x1 : Int) : Option (Int ⊕ (Unit ⊕ Unit)) :=
  (bif (decide (x1 < ((a0).length : Int))) then (ix a0 x1 fun x20 => (bnd (sf73 N a1f0_0 a1f0_1 a1f0_2 a1f0_3 a1f0_4 a1f0_5 a1f0_6 x20.1 x20.2) fun v25 => (bif (!v25) then some (.inr (.inl ())) else (ck (rng (x1 + (1 : Int))) (some (.inl (x1 + (1 : Int)))))))) else some (.inr (.inr ())))
def sf72 (N : Nat) (a0 : (List (Int × Int))) (a1f0_0 : Int) (a1f0_1 : (List (Int × Int))) (a1f0_2 : (List (Int × Int × Int))) (a1f0_3 : Int) (a1f0_4 : (List Int)) (a1f0_5 : (List Int)) (a1f0_6 : Int) : Option Bool :=
  bnd (iter (sf72_L1 N a0 a1f0_0 a1f0_1 a1f0_2 a1f0_3 a1f0_4 a1f0_5 a1f0_6) N (0 : Int)) (sel (fun w15 => some false) (fun w17 => some true))
/- meniscus/screw.ProveCutting -/
def sf43 (N : Nat) (a0_0 : Int) (a0_1 : (List (Int × Int))) (a0_2 : (List (Int × Int × Int))) (a0_3 : Int) (a1 : (List Int)) (a2 : (List Int)) (a3 : Int) (a4 : Int) : Option Bool :=
  bnd (bnd ((bnd (sf57 N a0_0 a0_1 a0_2 a0_3 a1 a2) fun v53 => (bif (!(decide (v53 = (0 : Int)))) then some true else (bnd (sf60 N a3) fun v57 => (bif (!v57) then some true else (bnd (sf71 N a2) fun v61 => some (decide (a4 < v61))))))) : Option (Bool)) (fun y49 => (bif y49 then some (.inl ()) else some (.inr ()))) : Option (Unit ⊕ Unit)) (sel (fun w34 => some false) (fun w36 => (bnd (sf58 N a1 a2) fun v65 => (bnd (sf62 N a0_0 a0_1 a0_2 a0_3 a3) fun v73 => (bnd (sf72 N v65 v73.1 v73.2.1 v73.2.2.1 v73.2.2.2.1 v73.2.2.2.2.1 v73.2.2.2.2.2.1 v73.2.2.2.2.2.2) fun v83 => some v83)))))
/- meniscus/meniscuslaw04.ready -/
def sf48 (N : Nat) (a0_0 : Int) (a0_1 : (List (Int × Int))) (a0_2 : (List (Int × Int × Int))) (a0_3 : Int) (a1 : (List Int)) : Option Bool :=
  (bnd (sf16 N a0_0 a0_1 a0_2 a0_3 a1 ([])) fun v4 => (bif v4 then (bnd (sf39 N a0_0 a0_1 a0_2 a0_3 a1) fun v8 => some (decide (v8 = (0 : Int)))) else some false))
/- meniscus/meniscuslaw04.ScrewLess -/
def sf14_L1 (a1 : (List Int)) (a2 : (List Int)) (a4 : Int) (v39 : Int) (x46 : ((List Int) × (List Int) × Int)) : Option (((List Int) × (List Int) × Int) ⊕ ((List Int) × (List Int))) :=
  (bif (decide (x46.2.2 < ((a1).length : Int))) then (ck (IntKind.wrap .u64 x46.2.2 = x46.2.2) ((ck (0 ≤ x46.2.2) ((ck ((2 : Int) ≠ 0) ((bif (decide ((Int.tmod (Int.fdiv a4 (2 ^ (Nat.min (Int.toNat x46.2.2) (IntKind.bits .u16)))) (2 : Int)) = (0 : Int))) then (ck (rng (x46.2.2 + (1 : Int))) (some (.inl (x46.1, x46.2.1, (x46.2.2 + (1 : Int)))))) else (ix a1 x46.2.2 fun x80 => (ck ((x46.1.length + 1) * 8 ≤ 35184372088832 ∧ x46.1.length + 1 ≤ 35184372088832) ((bif (decide (v39 = (0 : Int))) then (ix a2 x46.2.2 fun x86 => (ck ((x46.2.1.length + 1) * 8 ≤ 35184372088832 ∧ x46.2.1.length + 1 ≤ 35184372088832) ((ck (rng (x46.2.2 + (1 : Int))) (some (.inl ((x46.1 ++ [x80]), (x46.2.1 ++ [x86]), (x46.2.2 + (1 : Int))))))))) else (ck (rng (x46.2.2 + (1 : Int))) (some (.inl ((x46.1 ++ [x80]), x46.2.1, (x46.2.2 + (1 : Int))))))))))))))))) else some (.inr (x46.1, x46.2.1)))
def sf14 (N : Nat) (a0_0 : Int) (a0_1 : (List (Int × Int))) (a0_2 : (List (Int × Int × Int))) (a0_3 : Int) (a1 : (List Int)) (a2 : (List Int)) (a3 : Int) (a4 : Int) : Option Bool :=
  bnd (bnd ((bnd (sf48 N a0_0 a0_1 a0_2 a0_3 a1) fun v33 => (bif (!v33) then some true else some (decide ((13 : Int) < ((a2).length : Int))))) : Option (Bool)) (fun y29 => (bif y29 then some (.inl true) else some (.inr ()))) : Option (Bool ⊕ Unit)) (sel (fun w21 => some w21) (fun w23 => (bnd (sf32 N a0_0 a0_1 a0_2 a0_3 a1 a2) fun v39 => bnd (iter (sf14_L1 a1 a2 a4 v39) N (([] : List Int), ([] : List Int), (0 : Int))) (fun y70 => (bif (decide (((y70.1).length : Int) = (0 : Int))) then some true else bnd (bnd ((bif (decide (v39 = (0 : Int))) then (bnd (sf19 N a0_0 a0_1 a0_2 a0_3) fun v599 => (bnd (sf30 N a1) fun v608 => (bnd (sf30 N a2) fun v617 => (ck (IntKind.wrap .i64 a3 = a3) ((bnd (sf43 N v599.1 v599.2.1 v599.2.2.1 v599.2.2.2 v608 v617 a3 (99 : Int)) fun v628 => (bif v628 then (bnd (sf19 N a0_0 a0_1 a0_2 a0_3) fun v632 => (bnd (sf30 N y70.1) fun v644 => (bnd (sf30 N y70.2) fun v656 => (ck (IntKind.wrap .i64 a3 = a3) ((bnd (sf43 N v632.1 v632.2.1 v632.2.2.1 v632.2.2.2 v644 v656 a3 (99 : Int)) fun v670 => some (!v670))))))) else some false))))))) else some false) : Option (Bool)) (fun y594 => (bif y594 then some (.inl ()) else some (.inr ()))) : Option (Unit ⊕ Unit)) (sel (fun w515 => some false) (fun w517 => (bnd (sf19 N a0_0 a0_1 a0_2 a0_3) fun v686 => (bnd (sf30 N a1) fun v696 => (bnd (sf38 N v686.1 v686.2.1 v686.2.2.1 v686.2.2.2 v696) fun v706 => (bnd (sf19 N a0_0 a0_1 a0_2 a0_3) fun v709 => (bnd (sf30 N y70.1) fun v721 => (bnd (sf38 N v709.1 v709.2.1 v709.2.2.1 v709.2.2.2 v721) fun v733 => (bif (!(decide (v706.2 = (0 : Int)))) then (bif (decide (v706.2 = (9 : Int))) then some true else (bif (decide (v733.2 = (0 : Int))) then (bif (decide (v733.1 ≤ v706.1)) then some true else some false) else some false)) else (bif (decide (v733.2 = (0 : Int))) then (bif (decide (v733.1 ≤ v706.1)) then some true else some false) else some false)))))))))))))))
end Go.Hx.V

/- Functions of the program come to that. -/
namespace Go.Hx.V
open Go.Hx
set_option linter.unusedVariables false
set_option maxRecDepth 20000
set_option maxHeartbeats 4000000
attribute [local irreducible] W R C thenH inBlockH Tr.get Tr.set lo
theorem ct16 (N : Nat) {a0_0 : Int} {a0_1 : (List (Int × Int))} {a0_2 : (List (Int × Int × Int))} {a0_3 : Int} {a1 : (List Int)} {a2 : (List Int)} {r : Bool} (hF : sf16 N a0_0 a0_1 a0_2 a0_3 a1 a2 = some r) {fl : Nat} {h0 : Tr HBlk} {n0 : Nat} {F0 : PH} (hd : D h0 n0) (hs : F0.sub h0) {pa0_1 : Option (Nat × Nat)} {ca0_1 : Nat} {pa0_2 : Option (Nat × Nat)} {ca0_2 : Nat} {pa1 : Option (Nat × Nat)} {ca1 : Nat} {pa2 : Option (Nat × Nat)} {ca2 : Nat} (ra0_1 : RowF (rP rI rI) 2 F0 pa0_1 ca0_1 a0_1) (ra0_2 : RowF (rP rI (rP rI rI)) 3 F0 pa0_2 ca0_2 a0_2) (ra1 : RowF rI 1 F0 pa1 ca1 a1) (ra2 : RowF rI 1 F0 pa2 ca2 a2) : C LW fl 16 [(.agg [(i64 a0_0), (.slice pa0_1 (a0_1).length ca0_1), (.slice pa0_2 (a0_2).length ca0_2), (i64 a0_3)]), (.slice pa1 (a1).length ca1), (.slice pa2 (a2).length ca2)] ⟨h0, n0⟩ (KS (.bool r) n0 h0) := by
  unfold sf16 at hF
  refine in_cT hd hs lw16 rfl rfl (by rfl) (fun st T hT => ?_)
  have hfl : n0 ≤ n0 := Nat.le_refl n0
  have t0 := hT 0 _ rfl
  have t1 := hT 1 _ rfl
  have t2 := hT 2 _ rfl
  dsimp only [L16]
  refine w_seq ?_; refine w_reg ?_; refine v_box st (fun b1 h2 n3 st => ?_); refine v_move ?_; refine r_nil ?_; refine th_n ?_; refine w_seq ?_; refine w_reg ?_; refine v_fa ?_; refine v_ld1 (st.at (i := 0) rfl).2.2 rfl ?_; refine v_len ?_; refine v_leq ?_; refine v_move ?_
  rcases Bool.eq_false_or_eq_true (decide (((a0_1).length : Int) ≤ (11 : Int))) with hb4 | hb4
  · have hF := bif_t hb4 hF; refine g_take hb4 (v_fa ?_); refine g_take hb4 (v_ld1 (st.at (i := 0) rfl).2.2 rfl ?_); refine g_take hb4 (v_len ?_); refine g_take hb4 (v_leq ?_); refine v_pick hb4 ?_; refine v_move ?_
    rcases Bool.eq_false_or_eq_true (decide (((a0_2).length : Int) ≤ (6 : Int))) with hb5 | hb5
    · have hF := bif_t hb5 hF; refine g_take hb5 (v_move ?_); refine g_take hb5 (v_len ?_); refine g_take hb5 (v_leq ?_); refine v_pick hb5 ?_; refine v_move ?_
      rcases Bool.eq_false_or_eq_true (decide (((a1).length : Int) ≤ (13 : Int))) with hb6 | hb6
      · have hF := bif_t hb6 hF; refine g_take hb6 (v_move ?_); refine g_take hb6 (v_len ?_); refine g_take hb6 (v_leq ?_); refine v_pick hb6 ?_; refine v_move ?_; refine r_nil ?_; refine th_n ?_; refine w_ret ?_; obtain rfl := inj hF
        exact end_s st (Res.t gA Res.nil) rfl rfl
      · have hF := bif_f hb6 hF; refine g_skip hb6 ?_; refine g_skip hb6 ?_; refine g_skip hb6 ?_; refine v_pick' hb6 ?_; refine v_move ?_; refine r_nil ?_; refine th_n ?_; refine w_ret ?_; obtain rfl := inj hF
        exact end_s st (Res.t gA Res.nil) rfl rfl
    · have hF := bif_f hb5 hF; refine g_skip hb5 ?_; refine g_skip hb5 ?_; refine g_skip hb5 ?_; refine v_pick' hb5 ?_; refine v_move ?_; refine g_skip rfl ?_; refine g_skip rfl ?_; refine g_skip rfl ?_; refine v_pick' rfl ?_; refine v_move ?_; refine r_nil ?_; refine th_n ?_; refine w_ret ?_; obtain rfl := inj hF
      exact end_s st (Res.t gA Res.nil) rfl rfl
  · have hF := bif_f hb4 hF; refine g_skip hb4 ?_; refine g_skip hb4 ?_; refine g_skip hb4 ?_; refine g_skip hb4 ?_; refine v_pick' hb4 ?_; refine v_move ?_; refine g_skip rfl ?_; refine g_skip rfl ?_; refine g_skip rfl ?_; refine v_pick' rfl ?_; refine v_move ?_; refine g_skip rfl ?_; refine g_skip rfl ?_; refine g_skip rfl ?_; refine v_pick' rfl ?_; refine v_move ?_; refine r_nil ?_; refine th_n ?_; refine w_ret ?_; obtain rfl := inj hF
    exact end_s st (Res.t gA Res.nil) rfl rfl
theorem ct25 (N : Nat) {a0_0 : Int} {a0_1 : Int} {r : (Int × Int)} (hF : sf25 N a0_0 a0_1 = some r) {fl : Nat} {h0 : Tr HBlk} {n0 : Nat} {F0 : PH} (hd : D h0 n0) (hs : F0.sub h0) : C LW fl 25 [(.agg [(i64 a0_0), (i64 a0_1)])] ⟨h0, n0⟩ (KS (.agg [(i64 r.1), (i64 r.2)]) n0 h0) := by
  unfold sf25 at hF
  refine in_cT hd hs lw25 rfl rfl (by rfl) (fun st T hT => ?_)
  have hfl : n0 ≤ n0 := Nat.le_refl n0
  have t0 := hT 0 _ rfl
  dsimp only [L25]
  refine w_seq ?_; refine w_reg ?_; refine v_box st (fun b1 h2 n3 st => ?_); refine v_alloc st (fun b4 h5 n6 st => ?_); refine r_nil ?_; refine th_n ?_; refine w_seq ?_; refine w_reg ?_; refine v_fa ?_; refine v_ld1 (st.at (i := 0) rfl).2.2 rfl ?_; refine v_fa ?_; refine v_ld1 (st.at (i := 0) rfl).2.2 rfl ?_; refine v_build (cs := [(i64 a0_0), (i64 a0_1)]) rfl ?_; refine v_st (cs' := [(i64 a0_0), (i64 a0_1)]) st 1 rfl rfl rfl rfl hfl (fun h7 st => ?_); refine r_nil ?_; refine th_n ?_; refine w_ret ?_; obtain rfl := inj hF
  exact end_s st (Res.c gA (st.at (i := 1) rfl).2.2 (show takeN _ _ = some [(i64 a0_0), (i64 a0_1)] from rfl) Res.nil) rfl rfl
theorem ct98 (N : Nat) {a0_0 : Int} {a0_1 : Int} {r : Bool} (hF : sf98 N a0_0 a0_1 = some r) {fl : Nat} {h0 : Tr HBlk} {n0 : Nat} {F0 : PH} (hd : D h0 n0) (hs : F0.sub h0) : C LW fl 98 [(.agg [(i64 a0_0), (i64 a0_1)])] ⟨h0, n0⟩ (KS (.bool r) n0 h0) := by
  unfold sf98 at hF
  refine in_cT hd hs lw98 rfl rfl (by rfl) (fun st T hT => ?_)
  have hfl : n0 ≤ n0 := Nat.le_refl n0
  have t0 := hT 0 _ rfl
  dsimp only [L98]
  refine w_seq ?_; refine w_reg ?_; refine v_box st (fun b1 h2 n3 st => ?_); refine v_move ?_; refine r_nil ?_; refine th_n ?_; refine w_seq ?_; refine w_reg ?_; refine v_fa ?_; refine v_ld1 (st.at (i := 0) rfl).2.2 rfl ?_; refine v_leq ?_; refine v_move ?_
  rcases Bool.eq_false_or_eq_true (decide ((-20 : Int) ≤ a0_0)) with hb4 | hb4
  · have hF := bif_t hb4 hF; refine g_take hb4 (v_fa ?_); refine g_take hb4 (v_ld1 (st.at (i := 0) rfl).2.2 rfl ?_); refine g_take hb4 (v_fa ?_); refine g_take hb4 (v_ld1 (st.at (i := 0) rfl).2.2 rfl ?_); refine g_take hb4 (v_leq ?_); refine v_pick hb4 ?_; refine v_move ?_
    rcases Bool.eq_false_or_eq_true (decide (a0_0 ≤ a0_1)) with hb5 | hb5
    · have hF := bif_t hb5 hF; refine g_take hb5 (v_fa ?_); refine g_take hb5 (v_ld1 (st.at (i := 0) rfl).2.2 rfl ?_); refine g_take hb5 (v_leq ?_); refine v_pick hb5 ?_; refine v_move ?_; refine r_nil ?_; refine th_n ?_; refine w_ret ?_; obtain rfl := inj hF
      exact end_s st (Res.t gA Res.nil) rfl rfl
    · have hF := bif_f hb5 hF; refine g_skip hb5 ?_; refine g_skip hb5 ?_; refine g_skip hb5 ?_; refine v_pick' hb5 ?_; refine v_move ?_; refine r_nil ?_; refine th_n ?_; refine w_ret ?_; obtain rfl := inj hF
      exact end_s st (Res.t gA Res.nil) rfl rfl
  · have hF := bif_f hb4 hF; refine g_skip hb4 ?_; refine g_skip hb4 ?_; refine g_skip hb4 ?_; refine g_skip hb4 ?_; refine g_skip hb4 ?_; refine v_pick' hb4 ?_; refine v_move ?_; refine g_skip rfl ?_; refine g_skip rfl ?_; refine g_skip rfl ?_; refine v_pick' rfl ?_; refine v_move ?_; refine r_nil ?_; refine th_n ?_; refine w_ret ?_; obtain rfl := inj hF
    exact end_s st (Res.t gA Res.nil) rfl rfl
theorem ct102 (N : Nat) {a0_0 : Int} {a0_1 : Int} {a0_2 : Int} {a1_0 : Int} {a1_1 : Int} {a1_2 : Int} {r : Bool} (hF : sf102 N a0_0 a0_1 a0_2 a1_0 a1_1 a1_2 = some r) {fl : Nat} {h0 : Tr HBlk} {n0 : Nat} {F0 : PH} (hd : D h0 n0) (hs : F0.sub h0) : C LW fl 102 [(.agg [(i64 a0_0), (i64 a0_1), (i64 a0_2)]), (.agg [(i64 a1_0), (i64 a1_1), (i64 a1_2)])] ⟨h0, n0⟩ (KS (.bool r) n0 h0) := by
  unfold sf102 at hF
  refine in_cT hd hs lw102 rfl rfl (by rfl) (fun st T hT => ?_)
  have hfl : n0 ≤ n0 := Nat.le_refl n0
  have t0 := hT 0 _ rfl
  have t1 := hT 1 _ rfl
  dsimp only [L102]
  refine w_seq ?_; refine w_reg ?_; refine v_box st (fun b1 h2 n3 st => ?_); refine v_box st (fun b4 h5 n6 st => ?_); refine v_move ?_; refine r_nil ?_; refine th_n ?_; refine w_seq ?_; refine w_reg ?_; refine v_fa ?_; refine v_ld1 (st.at (i := 0) rfl).2.2 rfl ?_; refine v_fa ?_; refine v_ld1 (st.at (i := 1) rfl).2.2 rfl ?_; refine v_lss ?_; refine v_move ?_; refine r_nil ?_; refine th_n ?_; refine w_ret ?_; obtain rfl := inj hF
  exact end_s st (Res.t gA Res.nil) rfl rfl
theorem ct83 (N : Nat) {r : Unit} (hF : sf83 N = some r) {fl : Nat} {h0 : Tr HBlk} {n0 : Nat} {F0 : PH} (hd : D h0 n0) (hs : F0.sub h0) : C LW fl 83 [] ⟨h0, n0⟩ (KS (.agg [(.func 105 [] [])]) n0 h0) := by
  unfold sf83 at hF
  refine in_cT hd hs lw83 rfl rfl (by rfl) (fun st T hT => ?_)
  have hfl : n0 ≤ n0 := Nat.le_refl n0
  dsimp only [L83]
  refine w_seq ?_; refine w_reg ?_; refine v_alloc st (fun b1 h2 n3 st => ?_); refine r_nil ?_; refine th_n ?_; refine w_seq ?_; refine w_reg ?_; refine v_build (cs := [(.func 105 [] [])]) rfl ?_; refine v_st (cs' := [(.func 105 [] [])]) st 0 rfl rfl rfl rfl hfl (fun h4 st => ?_); refine r_nil ?_; refine th_n ?_; refine w_ret ?_; obtain rfl := inj hF
  exact end_s st (Res.c gA (st.at (i := 0) rfl).2.2 (show takeN _ _ = some [(.func 105 [] [])] from rfl) Res.nil) rfl rfl
theorem ct105 (N : Nat) {a0_0 : Int} {a0_1 : Int} {r : Int} (hF : sf105 N a0_0 a0_1 = some r) {fl : Nat} {h0 : Tr HBlk} {n0 : Nat} {F0 : PH} (hd : D h0 n0) (hs : F0.sub h0) : C LW fl 105 [(.agg [(i64 a0_0), (i64 a0_1)])] ⟨h0, n0⟩ (KS (i64 r) n0 h0) := by
  unfold sf105 at hF
  refine in_cT hd hs lw105 rfl rfl (by rfl) (fun st T hT => ?_)
  have hfl : n0 ≤ n0 := Nat.le_refl n0
  have t0 := hT 0 _ rfl
  dsimp only [L105]
  refine w_seq ?_; refine w_reg ?_; refine v_box st (fun b1 h2 n3 st => ?_); refine v_move ?_; refine r_nil ?_; refine th_n ?_; refine w_seq ?_; refine w_reg ?_; refine v_fa ?_; refine v_ld1 (st.at (i := 0) rfl).2.2 rfl ?_; refine v_move ?_; refine r_nil ?_; refine th_n ?_; refine w_ret ?_; obtain rfl := inj hF
  exact end_s st (Res.t gA Res.nil) rfl rfl
theorem ct103 (N : Nat) {a0 : Int} {a1 : (List Int)} {r : Int} (hF : sf103 N a0 a1 = some r) {fl : Nat} {h0 : Tr HBlk} {n0 : Nat} {F0 : PH} (hd : D h0 n0) (hs : F0.sub h0) {pa1 : Option (Nat × Nat)} {ca1 : Nat} (ra1 : RowF rI 1 F0 pa1 ca1 a1) : C LW fl 103 [(i64 a0), (.slice pa1 (a1).length ca1)] ⟨h0, n0⟩ (KS (i64 r) n0 h0) := by
  unfold sf103 at hF
  refine in_cT hd hs lw103 rfl rfl (by rfl) (fun st T hT => ?_)
  have hfl : n0 ≤ n0 := Nat.le_refl n0
  have t0 := hT 0 _ rfl
  have t1 := hT 1 _ rfl
  dsimp only [L103]
  refine w_seq ?_; refine w_reg ?_; refine v_move ?_; refine r_nil ?_; refine th_n ?_; refine w_seq ?_; refine w_seq ?_; refine w_reg ?_; refine v_move ?_; refine v_len ?_; refine v_move ?_; refine r_nil ?_; refine th_n ?_; refine w_block ?_; obtain ⟨y8, hy, hF⟩ := bnd_some hF; refine v_loopD (sf103_L1 a1) (fun x1 T ds2 h nx => ∃ (F2 : PH), ds2 = [] ∧ PH.le F0 F2 ∧ St n0 h0 F0 F2 h nx [] ∧ T.get 0 = some (i64 x1.1) ∧ T.get 7 = some (.slice pa1 (a1).length ca1) ∧ T.get 8 = some (i64 ((a1).length : Int)) ∧ T.get 9 = some (i64 x1.2)) (fun y e a σ => e = .exit 0 ∧ a.nt = 19 ∧ ∃ (F9 : PH), a.defers = [] ∧ PH.le F0 F9 ∧ St n0 h0 F0 F9 σ.h σ.nx [] ∧ a.tmps.get 0 = some (i64 y)) (fun x1 T ds2 h nx s hp hF => ?_) N _ y8 _ _ _ _ hy ⟨F0, rfl, (PH.le.refl _), st, gA, gA, gA, gA⟩ (fun e a σ hne hq => ?_)
  · obtain ⟨F2, rfl, le2, st, t0, t7, t8, t9⟩ := hp; unfold sf103_L1 at hF; unfold L103w0; refine w_seq ?_; refine w_reg ?_; refine v_lss ?_; refine r_nil ?_; refine th_n ?_; refine w_seq ?_; refine v_cond (fun hb10 => ?_) (fun hb10 => ?_)
    · have hF := bif_t hb10 hF; refine w_skip ?_; refine th_n ?_; refine w_seq ?_; refine w_block ?_; refine w_seq ?_; refine w_reg ?_; obtain ⟨n11, x11, z11, l11, g11, hF⟩ := ix_some hF; obtain ⟨b11, o11, s11, j11, r11, e11, f11, k11, rfl⟩ := RowF.get ra1 g11; refine v_ixp e11 z11 l11 ?_; refine v_ld1 (st.sub _ _ (le2 _ _ f11)) (take_at (j := 0) k11 rfl) ?_; refine v_move ?_; refine r_nil ?_; refine th_n ?_; refine w_seq ?_; refine w_reg ?_; refine v_move ?_; refine v_move ?_; refine v_lss ?_; refine r_nil ?_; refine th_n ?_; refine v_cond (fun hb12 => ?_) (fun hb12 => ?_)
      · have hF := bif_t hb12 hF; refine w_reg ?_; refine v_move ?_; refine v_move ?_; refine r_nil ?_; refine ib_n ?_; refine th_n ?_; refine w_reg ?_; obtain ⟨q13, hF⟩ := ck_some hF; refine v_add q13 ?_; refine v_move ?_; refine r_nil ?_; refine thn ⟨_, (inj hF).symm, rfl, ?_⟩; dsimp only
        exact ⟨F2, rfl, le2, st, gA, gA, gA, gA⟩
      · have hF := bif_f hb12 hF; refine w_skip ?_; refine ib_n ?_; refine th_n ?_; refine w_reg ?_; obtain ⟨q14, hF⟩ := ck_some hF; refine v_add q14 ?_; refine v_move ?_; refine r_nil ?_; refine thn ⟨_, (inj hF).symm, rfl, ?_⟩; dsimp only
        exact ⟨F2, rfl, le2, st, gA, gA, gA, gA⟩
    · have hF := bif_f hb10 hF; refine w_exit ?_; refine th_e ?_; refine th_e ?_; refine ⟨_, (inj hF).symm, rfl, rfl, ?_⟩; dsimp only
      exact ⟨F2, rfl, le2, st, gA⟩
  · obtain ⟨N9, T, ds9⟩ := a; obtain ⟨h15, n16⟩ := σ; obtain ⟨rfl, e1, F9, e2, le9, st, t0⟩ := hq
    dsimp only at e1 e2
    subst e1
    subst e2
    dsimp only at st t0
    refine ib_e ?_; refine th_n ?_; refine w_seq ?_; refine w_reg ?_; refine v_move ?_; refine v_move ?_; refine r_nil ?_; refine th_n ?_; refine w_ret ?_; obtain rfl := inj hF
    exact end_s st (Res.t gA Res.nil) rfl rfl
theorem ct30 (N : Nat) {a0 : (List Int)} {r : (List Int)} (hF : sf30 N a0 = some r) {fl : Nat} {h0 : Tr HBlk} {n0 : Nat} {F0 : PH} (hd : D h0 n0) (hs : F0.sub h0) (hfl : fl ≤ n0) {pa0 : Option (Nat × Nat)} {ca0 : Nat} (ra0 : RowF rI 1 F0 pa0 ca0 a0) : C LW fl 30 [(.slice pa0 (a0).length ca0)] ⟨h0, n0⟩ (KR (lvL rI 1) F0 h0 n0 r) := by
  unfold sf30 at hF
  refine in_mT hd hs hfl lw30 rfl rfl (by rfl) (fun st T hT => ?_)
  have t0 := hT 0 _ rfl
  dsimp only [L30]
  refine w_seq ?_; refine w_reg ?_; refine v_move ?_; refine r_nil ?_; refine th_n ?_; refine w_seq ?_; refine w_reg ?_; refine v_move ?_
  have st := st.nilL 1
  have w1 : LR rI 1 F0 ([] : List Int) [] := LR.nil
  obtain ⟨q3, hF⟩ := ck_some hF
  refine v_apr (m := (([] : List Int) ++ a0).length) st 0 rfl w1 ra0 q3 hfl (by decide) (by simp) (fun o3 c3 cs3 h3 n3 st w3 => ?_)
  refine v_move ?_; refine r_nil ?_; refine th_n ?_; refine w_ret ?_; obtain rfl := inj hF
  obtain ⟨F4, le4, st, rf4⟩ := St.freeze st 0 rfl w3 (by decide)
  exact end_r st (Res.t gA Res.nil) ⟨_, _, rfl, rf4⟩
theorem ct79 (N : Nat) {a0_0 : Int} {a0_1 : (List (Int × Int))} {a0_2 : (List (Int × Int × Int))} {a0_3 : Int} {a1 : Int} {r : Bool} (hF : sf79 N a0_0 a0_1 a0_2 a0_3 a1 = some r) {fl : Nat} {h0 : Tr HBlk} {n0 : Nat} {F0 : PH} (hd : D h0 n0) (hs : F0.sub h0) {pa0_1 : Option (Nat × Nat)} {ca0_1 : Nat} {pa0_2 : Option (Nat × Nat)} {ca0_2 : Nat} (ra0_1 : RowF (rP rI rI) 2 F0 pa0_1 ca0_1 a0_1) (ra0_2 : RowF (rP rI (rP rI rI)) 3 F0 pa0_2 ca0_2 a0_2) : C LW fl 79 [(.agg [(i64 a0_0), (.slice pa0_1 (a0_1).length ca0_1), (.slice pa0_2 (a0_2).length ca0_2), (i64 a0_3)]), (i64 a1)] ⟨h0, n0⟩ (KS (.bool r) n0 h0) := by
  unfold sf79 at hF
  refine in_cT hd hs lw79 rfl rfl (by rfl) (fun st T hT => ?_)
  have hfl : n0 ≤ n0 := Nat.le_refl n0
  have t0 := hT 0 _ rfl
  have t1 := hT 1 _ rfl
  dsimp only [L79]
  refine w_seq ?_; refine w_reg ?_; refine v_box st (fun b1 h2 n3 st => ?_); refine v_move ?_; refine r_nil ?_; refine th_n ?_; refine w_seq ?_; refine w_reg ?_; refine v_move ?_; refine v_leq ?_; refine v_move ?_
  rcases Bool.eq_false_or_eq_true (decide ((0 : Int) ≤ a1)) with hb4 | hb4
  · have hF := bif_t hb4 hF; refine g_take hb4 (v_move ?_); refine g_take hb4 (v_fa ?_); refine g_take hb4 (v_ld1 (st.at (i := 0) rfl).2.2 rfl ?_); refine g_take hb4 (v_leq ?_); refine v_pick hb4 ?_; refine v_move ?_; refine r_nil ?_; refine th_n ?_; refine w_ret ?_; obtain rfl := inj hF
    exact end_s st (Res.t gA Res.nil) rfl rfl
  · have hF := bif_f hb4 hF; refine g_skip hb4 ?_; refine g_skip hb4 ?_; refine g_skip hb4 ?_; refine g_skip hb4 ?_; refine v_pick' hb4 ?_; refine v_move ?_; refine r_nil ?_; refine th_n ?_; refine w_ret ?_; obtain rfl := inj hF
    exact end_s st (Res.t gA Res.nil) rfl rfl
theorem ct82 (N : Nat) {a0_0 : Int} {a0_1 : (List (Int × Int))} {a0_2 : (List (Int × Int × Int))} {a0_3 : Int} {a1 : Int} {r : Int} (hF : sf82 N a0_0 a0_1 a0_2 a0_3 a1 = some r) {fl : Nat} {h0 : Tr HBlk} {n0 : Nat} {F0 : PH} (hd : D h0 n0) (hs : F0.sub h0) {pa0_1 : Option (Nat × Nat)} {ca0_1 : Nat} {pa0_2 : Option (Nat × Nat)} {ca0_2 : Nat} (ra0_1 : RowF (rP rI rI) 2 F0 pa0_1 ca0_1 a0_1) (ra0_2 : RowF (rP rI (rP rI rI)) 3 F0 pa0_2 ca0_2 a0_2) : C LW fl 82 [(.agg [(i64 a0_0), (.slice pa0_1 (a0_1).length ca0_1), (.slice pa0_2 (a0_2).length ca0_2), (i64 a0_3)]), (i64 a1)] ⟨h0, n0⟩ (KS (i64 r) n0 h0) := by
  unfold sf82 at hF
  refine in_cT hd hs lw82 rfl rfl (by rfl) (fun st T hT => ?_)
  have hfl : n0 ≤ n0 := Nat.le_refl n0
  have t0 := hT 0 _ rfl
  have t1 := hT 1 _ rfl
  dsimp only [L82]
  refine w_seq ?_; refine w_reg ?_; refine v_box st (fun b1 h2 n3 st => ?_); refine v_move ?_; refine r_nil ?_; refine th_n ?_; refine w_seq ?_; refine w_reg ?_; refine v_move ?_; refine r_nil ?_; refine th_n ?_; refine w_seq ?_; refine w_seq ?_; refine w_reg ?_; refine v_fa ?_; refine v_ld1 (st.at (i := 0) rfl).2.2 rfl ?_; refine v_len ?_; refine v_move ?_; refine r_nil ?_; refine th_n ?_; refine w_block ?_; obtain ⟨y15, hy, hF⟩ := bnd_some hF; refine v_loopD (sf82_L1 a0_2 a1) (fun x4 T ds5 h nx => ∃ (F5 : PH), ds5 = [] ∧ PH.le F0 F5 ∧ St n0 h0 F0 F5 h nx [.bx b1 [(i64 a0_0), (.slice pa0_1 (a0_1).length ca0_1), (.slice pa0_2 (a0_2).length ca0_2), (i64 a0_3)]] ∧ T.get 1 = some (i64 a1) ∧ T.get 5 = some (i64 x4.1) ∧ T.get 9 = some (.slice pa0_2 (a0_2).length ca0_2) ∧ T.get 10 = some (i64 ((a0_2).length : Int)) ∧ T.get 11 = some (i64 x4.2)) (fun y e a σ => e = .exit 0 ∧ a.nt = 23 ∧ ∃ (F16 : PH), a.defers = [] ∧ PH.le F0 F16 ∧ St n0 h0 F0 F16 σ.h σ.nx [.bx b1 [(i64 a0_0), (.slice pa0_1 (a0_1).length ca0_1), (.slice pa0_2 (a0_2).length ca0_2), (i64 a0_3)]] ∧ a.tmps.get 5 = some (i64 y)) (fun x4 T ds5 h nx s hp hF => ?_) N _ y15 _ _ _ _ hy ⟨F0, rfl, (PH.le.refl _), st, gA, gA, gA, gA, gA⟩ (fun e a σ hne hq => ?_)
  · obtain ⟨F5, rfl, le5, st, t1, t5, t9, t10, t11⟩ := hp; unfold sf82_L1 at hF; unfold L82w0; refine w_seq ?_; refine w_reg ?_; refine v_lss ?_; refine r_nil ?_; refine th_n ?_; refine w_seq ?_; refine v_cond (fun hb17 => ?_) (fun hb17 => ?_)
    · have hF := bif_t hb17 hF; refine w_skip ?_; refine th_n ?_; refine w_seq ?_; refine w_block ?_; refine w_seq ?_; refine w_reg ?_; refine v_move ?_; obtain ⟨n18, x18, z18, l18, g18, hF⟩ := ix_some hF; obtain ⟨b18, o18, s18, j18, r18, e18, f18, k18, ⟨_, _, rfl, rfl, ⟨_, _, rfl, rfl, rfl⟩⟩⟩ := RowF.get ra0_2 g18; refine v_ixp e18 z18 l18 ?_; refine v_ldn (st.sub _ _ (le5 _ _ f18)) k18 ?_; refine v_alloc st (fun b19 h20 n21 st => ?_); refine v_move ?_; refine v_st (cs' := [(i64 x18.1), (i64 x18.2.1), (i64 x18.2.2)]) st 1 rfl rfl rfl rfl hfl (fun h22 st => ?_); refine r_nil ?_; refine th_n ?_; refine w_seq ?_; refine w_reg ?_; refine v_fa ?_; refine v_ld1 (st.at (i := 1) rfl).2.2 rfl ?_; refine v_move ?_
      refine v_leq ?_; refine r_nil ?_; refine th_n ?_; refine v_cond (fun hb23 => ?_) (fun hb23 => ?_)
      · have hF := bif_t hb23 hF; refine w_reg ?_; refine v_move ?_; refine v_move ?_; refine r_nil ?_; refine ib_n ?_; refine th_n ?_; refine w_reg ?_; obtain ⟨q24, hF⟩ := ck_some hF; refine v_add q24 ?_; refine v_move ?_; refine r_nil ?_; refine thn ⟨_, (inj hF).symm, rfl, ?_⟩; dsimp only
        exact ⟨F5, rfl, le5, (st.drop (by first | exact List.Sublist.refl _ | (repeat first | exact List.nil_sublist _ | refine List.Sublist.cons_cons _ ?_ | refine List.Sublist.cons _ ?_))), gA, gA, gA, gA, gA⟩
      · have hF := bif_f hb23 hF; refine w_skip ?_; refine ib_n ?_; refine th_n ?_; refine w_reg ?_; obtain ⟨q25, hF⟩ := ck_some hF; refine v_add q25 ?_; refine v_move ?_; refine r_nil ?_; refine thn ⟨_, (inj hF).symm, rfl, ?_⟩; dsimp only
        exact ⟨F5, rfl, le5, (st.drop (by first | exact List.Sublist.refl _ | (repeat first | exact List.nil_sublist _ | refine List.Sublist.cons_cons _ ?_ | refine List.Sublist.cons _ ?_))), gA, gA, gA, gA, gA⟩
    · have hF := bif_f hb17 hF; refine w_exit ?_; refine th_e ?_; refine th_e ?_; refine ⟨_, (inj hF).symm, rfl, rfl, ?_⟩; dsimp only
      exact ⟨F5, rfl, le5, st, gA⟩
  · obtain ⟨N9, T, ds16⟩ := a; obtain ⟨h26, n27⟩ := σ; obtain ⟨rfl, e1, F16, e2, le16, st, t5⟩ := hq
    dsimp only at e1 e2
    subst e1
    subst e2
    dsimp only at st t5
    refine ib_e ?_; refine th_n ?_; refine w_seq ?_; refine w_reg ?_; refine v_move ?_; refine v_move ?_; refine r_nil ?_; refine th_n ?_; refine w_ret ?_; obtain rfl := inj hF
    exact end_s st (Res.t gA Res.nil) rfl rfl
theorem ct85 (N : Nat) {r : Unit} (hF : sf85 N = some r) {fl : Nat} {h0 : Tr HBlk} {n0 : Nat} {F0 : PH} (hd : D h0 n0) (hs : F0.sub h0) : C LW fl 85 [] ⟨h0, n0⟩ (KS (.agg [(.func 106 [] [])]) n0 h0) := by
  unfold sf85 at hF
  refine in_cT hd hs lw85 rfl rfl (by rfl) (fun st T hT => ?_)
  have hfl : n0 ≤ n0 := Nat.le_refl n0
  dsimp only [L85]
  refine w_seq ?_; refine w_reg ?_; refine v_alloc st (fun b1 h2 n3 st => ?_); refine r_nil ?_; refine th_n ?_; refine w_seq ?_; refine w_reg ?_; refine v_build (cs := [(.func 106 [] [])]) rfl ?_; refine v_st (cs' := [(.func 106 [] [])]) st 0 rfl rfl rfl rfl hfl (fun h4 st => ?_); refine r_nil ?_; refine th_n ?_; refine w_ret ?_; obtain rfl := inj hF
  exact end_s st (Res.c gA (st.at (i := 0) rfl).2.2 (show takeN _ _ = some [(.func 106 [] [])] from rfl) Res.nil) rfl rfl
theorem ct106 (N : Nat) {a0_0 : Int} {a0_1 : Int} {r : Int} (hF : sf106 N a0_0 a0_1 = some r) {fl : Nat} {h0 : Tr HBlk} {n0 : Nat} {F0 : PH} (hd : D h0 n0) (hs : F0.sub h0) : C LW fl 106 [(.agg [(i64 a0_0), (i64 a0_1)])] ⟨h0, n0⟩ (KS (i64 r) n0 h0) := by
  unfold sf106 at hF
  refine in_cT hd hs lw106 rfl rfl (by rfl) (fun st T hT => ?_)
  have hfl : n0 ≤ n0 := Nat.le_refl n0
  have t0 := hT 0 _ rfl
  dsimp only [L106]
  refine w_seq ?_; refine w_reg ?_; refine v_box st (fun b1 h2 n3 st => ?_); refine v_move ?_; refine r_nil ?_; refine th_n ?_; refine w_seq ?_; refine w_reg ?_; refine v_fa ?_; refine v_ld1 (st.at (i := 0) rfl).2.2 rfl ?_; refine v_move ?_; refine r_nil ?_; refine th_n ?_; refine w_ret ?_; obtain rfl := inj hF
  exact end_s st (Res.t gA Res.nil) rfl rfl
end Go.Hx.V

/- Functions of the program come to that. -/
namespace Go.Hx.V
open Go.Hx
set_option linter.unusedVariables false
set_option maxRecDepth 20000
set_option maxHeartbeats 4000000
attribute [local irreducible] W R C thenH inBlockH Tr.get Tr.set lo
theorem ct55 (N : Nat) {a0_0 : Int} {a0_1 : (List (Int × Int))} {a0_2 : (List (Int × Int × Int))} {a0_3 : Int} {a0_4 : (List Int)} {a0_5 : (List Int)} {a1 : Int} {r : (Int × Int)} (hF : sf55 N a0_0 a0_1 a0_2 a0_3 a0_4 a0_5 a1 = some r) {fl : Nat} {h0 : Tr HBlk} {n0 : Nat} {F0 : PH} (hd : D h0 n0) (hs : F0.sub h0) {pa0_1 : Option (Nat × Nat)} {ca0_1 : Nat} {pa0_2 : Option (Nat × Nat)} {ca0_2 : Nat} {pa0_4 : Option (Nat × Nat)} {ca0_4 : Nat} {pa0_5 : Option (Nat × Nat)} {ca0_5 : Nat} (ra0_1 : RowF (rP rI rI) 2 F0 pa0_1 ca0_1 a0_1) (ra0_2 : RowF (rP rI (rP rI rI)) 3 F0 pa0_2 ca0_2 a0_2) (ra0_4 : RowF rI 1 F0 pa0_4 ca0_4 a0_4) (ra0_5 : RowF rI 1 F0 pa0_5 ca0_5 a0_5) : C LW fl 55 [(.agg [(i64 a0_0), (.slice pa0_1 (a0_1).length ca0_1), (.slice pa0_2 (a0_2).length ca0_2), (i64 a0_3), (.slice pa0_4 (a0_4).length ca0_4), (.slice pa0_5 (a0_5).length ca0_5)]), (i64 a1)] ⟨h0, n0⟩ (KS (.agg [(i64 r.1), (i64 r.2)]) n0 h0) := by
  unfold sf55 at hF
  refine in_cT hd hs lw55 rfl rfl (by rfl) (fun st T hT => ?_)
  have hfl : n0 ≤ n0 := Nat.le_refl n0
  have t0 := hT 0 _ rfl
  have t1 := hT 1 _ rfl
  dsimp only [L55]
  refine w_seq ?_; refine w_reg ?_; refine v_box st (fun b1 h2 n3 st => ?_); refine v_alloc st (fun b4 h5 n6 st => ?_); refine r_nil ?_; refine th_n ?_; refine w_seq ?_; refine w_drawV (Nat.le_trans hfl st.ext.le) (fun dw => ?_); refine y_pure st.d dw (fun hm vw => v_fa pr_nil) ?_; refine y_pure st.d dw (fun hm vw => v_ld1 (vw.bx (st.at (i := 0) rfl)) rfl pr_nil) ?_; refine y_pure st.d dw (fun hm vw => v_move pr_nil) ?_; obtain ⟨n7, x7, z7, l7, g7, hF⟩ := ix_some hF; obtain ⟨b7, o7, s7, j7, r7, e7, f7, k7, rfl⟩ := RowF.get ra0_4 g7; refine y_pure st.d dw (fun hm vw => v_ixp e7 z7 l7 pr_nil) ?_; refine y_pure st.d dw (fun hm vw => v_ld1 (vw.fz st f7) (take_at (j := 0) k7 rfl) pr_nil) ?_; refine y_pure st.d dw (fun hm vw => v_fa pr_nil) ?_
  refine y_pure st.d dw (fun hm vw => v_ld1 (vw.bx (st.at (i := 0) rfl)) rfl pr_nil) ?_; refine y_pure st.d dw (fun hm vw => v_move pr_nil) ?_; obtain ⟨n8, x8, z8, l8, g8, hF⟩ := ix_some hF; obtain ⟨b8, o8, s8, j8, r8, e8, f8, k8, rfl⟩ := RowF.get ra0_5 g8; refine y_pure st.d dw (fun hm vw => v_ixp e8 z8 l8 pr_nil) ?_; refine y_pure st.d dw (fun hm vw => v_ld1 (vw.fz st f8) (take_at (j := 0) k8 rfl) pr_nil) ?_; refine y_end st.d dw rfl (fun h9 ex vs => ?_)
  have st := st.ext1 ex
  refine v_build (cs := [(i64 x7), (i64 x8)]) rfl ?_; refine v_st (cs' := [(i64 x7), (i64 x8)]) st 1 rfl rfl rfl rfl hfl (fun h10 st => ?_); refine r_nil ?_; refine th_n ?_; refine w_ret ?_; obtain rfl := inj hF
  exact end_s st (Res.c gA (st.at (i := 1) rfl).2.2 (show takeN _ _ = some [(i64 x7), (i64 x8)] from rfl) Res.nil) rfl rfl
theorem ct24 (N : Nat) {a0 : Int} {a1 : Int} {a2 : Int} {r : Bool} (hF : sf24 N a0 a1 a2 = some r) {fl : Nat} {h0 : Tr HBlk} {n0 : Nat} {F0 : PH} (hd : D h0 n0) (hs : F0.sub h0) : C LW fl 24 [(i64 a0), (i64 a1), (i64 a2)] ⟨h0, n0⟩ (KS (.bool r) n0 h0) := by
  unfold sf24 at hF
  refine in_cT hd hs lw24 rfl rfl (by rfl) (fun st T hT => ?_)
  have hfl : n0 ≤ n0 := Nat.le_refl n0
  have t0 := hT 0 _ rfl
  have t1 := hT 1 _ rfl
  have t2 := hT 2 _ rfl
  dsimp only [L24]
  refine w_seq ?_; refine w_reg ?_; refine v_move ?_; refine r_nil ?_; refine th_n ?_; refine w_seq ?_; refine w_reg ?_; refine v_move ?_; refine v_move ?_; refine v_geq ?_; refine v_move ?_
  rcases Bool.eq_false_or_eq_true (decide (a1 ≤ a0)) with hb1 | hb1
  · have hF := bif_t hb1 hF; refine g_take hb1 (v_move ?_); refine g_take hb1 (v_move ?_); refine g_take hb1 (v_leq ?_); refine v_pick hb1 ?_; refine v_move ?_; refine r_nil ?_; refine th_n ?_; refine w_ret ?_; obtain rfl := inj hF
    exact end_s st (Res.t gA Res.nil) rfl rfl
  · have hF := bif_f hb1 hF; refine g_skip hb1 ?_; refine g_skip hb1 ?_; refine g_skip hb1 ?_; refine v_pick' hb1 ?_; refine v_move ?_; refine r_nil ?_; refine th_n ?_; refine w_ret ?_; obtain rfl := inj hF
    exact end_s st (Res.t gA Res.nil) rfl rfl
end Go.Hx.V

/- Functions of the program come to that. -/
namespace Go.Hx.V
open Go.Hx
set_option linter.unusedVariables false
set_option maxRecDepth 20000
set_option maxHeartbeats 4000000
attribute [local irreducible] W R C thenH inBlockH Tr.get Tr.set lo
theorem ct60 (N : Nat) {a0 : Int} {r : Bool} (hF : sf60 N a0 = some r) {fl : Nat} {h0 : Tr HBlk} {n0 : Nat} {F0 : PH} (hd : D h0 n0) (hs : F0.sub h0) : C LW fl 60 [(i64 a0)] ⟨h0, n0⟩ (KS (.bool r) n0 h0) := by
  unfold sf60 at hF
  refine in_cT hd hs lw60 rfl rfl (by rfl) (fun st T hT => ?_)
  have hfl : n0 ≤ n0 := Nat.le_refl n0
  have t0 := hT 0 _ rfl
  dsimp only [L60]
  refine w_seq ?_; refine w_reg ?_; refine v_move ?_; refine r_nil ?_; refine th_n ?_; refine w_seq ?_; refine w_reg ?_; refine v_move ?_; refine v_leq ?_; refine v_move ?_
  rcases Bool.eq_false_or_eq_true (decide ((0 : Int) ≤ a0)) with hb1 | hb1
  · have hF := bif_t hb1 hF; refine g_take hb1 (v_move ?_); refine g_take hb1 (v_leq ?_); refine v_pick hb1 ?_; refine v_move ?_; refine r_nil ?_; refine th_n ?_; refine w_ret ?_; obtain rfl := inj hF
    exact end_s st (Res.t gA Res.nil) rfl rfl
  · have hF := bif_f hb1 hF; refine g_skip hb1 ?_; refine g_skip hb1 ?_; refine v_pick' hb1 ?_; refine v_move ?_; refine r_nil ?_; refine th_n ?_; refine w_ret ?_; obtain rfl := inj hF
    exact end_s st (Res.t gA Res.nil) rfl rfl
theorem ct108 (N : Nat) {a0 : Int} {a1 : Int} {r : Bool} (hF : sf108 N a0 a1 = some r) {fl : Nat} {h0 : Tr HBlk} {n0 : Nat} {F0 : PH} (hd : D h0 n0) (hs : F0.sub h0) : C LW fl 108 [(i64 a0), (i64 a1)] ⟨h0, n0⟩ (KS (.bool r) n0 h0) := by
  unfold sf108 at hF
  refine in_cT hd hs lw108 rfl rfl (by rfl) (fun st T hT => ?_)
  have hfl : n0 ≤ n0 := Nat.le_refl n0
  have t0 := hT 0 _ rfl
  have t1 := hT 1 _ rfl
  dsimp only [L108]
  refine w_seq ?_; refine w_reg ?_; refine v_move ?_; refine r_nil ?_; refine th_n ?_; refine w_seq ?_; refine w_reg ?_; refine v_move ?_; refine v_move ?_; refine v_lss ?_; refine v_move ?_; refine r_nil ?_; refine th_n ?_; refine w_ret ?_; obtain rfl := inj hF
  exact end_s st (Res.t gA Res.nil) rfl rfl
theorem ct58 (N : Nat) {a0 : (List Int)} {a1 : (List Int)} {r : (List (Int × Int))} (hF : sf58 N a0 a1 = some r) {fl : Nat} {h0 : Tr HBlk} {n0 : Nat} {F0 : PH} (hd : D h0 n0) (hs : F0.sub h0) (hfl : fl ≤ n0) {pa0 : Option (Nat × Nat)} {ca0 : Nat} {pa1 : Option (Nat × Nat)} {ca1 : Nat} (ra0 : RowF rI 1 F0 pa0 ca0 a0) (ra1 : RowF rI 1 F0 pa1 ca1 a1) : C LW fl 58 [(.slice pa0 (a0).length ca0), (.slice pa1 (a1).length ca1)] ⟨h0, n0⟩ (KR (lvL (rP rI rI) 2) F0 h0 n0 r) := by
  unfold sf58 at hF
  refine in_mT hd hs hfl lw58 rfl rfl (by rfl) (fun st T hT => ?_)
  have t0 := hT 0 _ rfl
  have t1 := hT 1 _ rfl
  dsimp only [L58]
  refine w_seq ?_; refine w_reg ?_; refine v_move ?_; refine r_nil ?_; refine th_n ?_; refine w_seq ?_; refine w_reg ?_; refine v_move ?_; refine v_len ?_; obtain ⟨q1, hF⟩ := ck_some hF
  have w1 : LR (rP rI rI) 2 F0 (List.replicate (Int.toNat (0 : Int)) (0, 0)) (Go.Hx.repl (Int.toNat (0 : Int)) [(i64 (0 : Int)), (i64 (0 : Int))]) := LR.repl (⟨[(i64 (0 : Int))], [(i64 (0 : Int))], rfl, rfl, rfl⟩) _
  refine v_mk st (n := (List.replicate (Int.toNat (0 : Int)) (0, 0)).length) q1.1 q1.2.1 (by simp) q1.2.2.1 q1.2.2.2 (fun o1 h1 n1 st => ?_)
  refine v_move ?_; refine r_nil ?_; refine th_n ?_; refine w_seq ?_; refine w_seq ?_; refine w_reg ?_; refine v_move ?_; refine v_len ?_; refine v_move ?_; refine r_nil ?_; refine th_n ?_; refine w_block ?_; obtain ⟨y13, hy, hF⟩ := bnd_some hF; refine v_loopD (sf58_L1 a0 a1) (fun x2 T ds3 h nx => ∃ (F3 : PH) (o4 : Option Nat) (c4 : Nat) (cs4 : List HV), ds3 = [] ∧ PH.le F0 F3 ∧ St n0 h0 F0 F3 h nx [.ls o4 c4 cs4 2] ∧ LR (rP rI rI) 2 F3 x2.1 cs4 ∧ T.get 1 = some (.slice pa1 (a1).length ca1) ∧ T.get 5 = some (slv o4 (x2.1).length c4) ∧ T.get 11 = some (.slice pa0 (a0).length ca0) ∧ T.get 12 = some (i64 ((a0).length : Int)) ∧ T.get 13 = some (i64 x2.2)) (fun y e a σ => e = .exit 0 ∧ a.nt = 29 ∧ ∃ (F14 : PH) (o15 : Option Nat) (c15 : Nat) (cs15 : List HV), a.defers = [] ∧ PH.le F0 F14 ∧ St n0 h0 F0 F14 σ.h σ.nx [.ls o15 c15 cs15 2] ∧ LR (rP rI rI) 2 F14 y cs15 ∧ a.tmps.get 5 = some (slv o15 (y).length c15)) (fun x2 T ds3 h nx s hp hF => ?_) N _ y13 _ _ _ _ hy ⟨F0, o1, (Int.toNat ((a0).length : Int)), (Go.Hx.repl (Int.toNat (0 : Int)) [(i64 (0 : Int)), (i64 (0 : Int))]), rfl, (PH.le.refl _), st, w1, gA, gA, gA, gA, gA⟩ (fun e a σ hne hq => ?_)
  · obtain ⟨F3, o4, c4, cs4, rfl, le3, st, w4, t1, t5, t11, t12, t13⟩ := hp; unfold sf58_L1 at hF; unfold L58w0; refine w_seq ?_; refine w_reg ?_; refine v_lss ?_; refine r_nil ?_; refine th_n ?_; refine w_seq ?_; refine v_cond (fun hb16 => ?_) (fun hb16 => ?_)
    · have hF := bif_t hb16 hF; refine w_skip ?_; refine th_n ?_; refine w_seq ?_; refine w_block ?_; refine w_seq ?_; refine w_reg ?_; refine v_move ?_; obtain ⟨n17, x17, z17, l17, g17, hF⟩ := ix_some hF; obtain ⟨b17, o17, s17, j17, r17, e17, f17, k17, rfl⟩ := RowF.get ra0 g17; refine v_ixp e17 z17 l17 ?_; refine v_ld1 (st.sub _ _ (le3 _ _ f17)) (take_at (j := 0) k17 rfl) ?_; refine v_move ?_; refine v_move ?_; refine r_nil ?_; refine th_n ?_; refine w_reg ?_; refine v_move ?_; refine v_move ?_; refine v_move ?_; refine v_move ?_; obtain ⟨n18, x18, z18, l18, g18, hF⟩ := ix_some hF; obtain ⟨b18, o18, s18, j18, r18, e18, f18, k18, rfl⟩ := RowF.get ra1 g18; refine v_ixp e18 z18 l18 ?_; refine v_ld1 (st.sub _ _ (le3 _ _ f18)) (take_at (j := 0) k18 rfl) ?_
      refine v_build (cs := [(i64 x17), (i64 x18)]) rfl ?_; refine v_bs (cs := [(i64 x17), (i64 x18)]) st rfl (fun b19 h20 n21 st => ?_); obtain ⟨q22, hF⟩ := ck_some hF
      have w22 : LR (rP rI rI) 2 F3 (x2.1 ++ [(x17, x18)]) (cs4 ++ [(i64 x17), (i64 x18)]) := LR.app w4 (LR.one (⟨[(i64 x17)], [(i64 x18)], rfl, rfl, rfl⟩))
      refine v_aps (n := 1) (ox := 0) (m := (x2.1 ++ [(x17, x18)]).length) (row := [(i64 x17), (i64 x18)]) st 0 rfl w4.1 (st.at (i := 1) rfl).2.2 rfl rfl q22 hfl (by decide) (by decide) (by simp) (fun o22 c22 h22 n22 st => ?_)
      refine v_move ?_; refine r_nil ?_; refine ib_n ?_; refine th_n ?_; refine w_reg ?_; obtain ⟨q23, hF⟩ := ck_some hF; refine v_add q23 ?_; refine v_move ?_; refine r_nil ?_; refine thn ⟨_, (inj hF).symm, rfl, ?_⟩; dsimp only
      exact ⟨F3, o22, c22, (cs4 ++ [(i64 x17), (i64 x18)]), rfl, le3, (st.drop (by first | exact List.Sublist.refl _ | (repeat first | exact List.nil_sublist _ | refine List.Sublist.cons_cons _ ?_ | refine List.Sublist.cons _ ?_))), w22, gA, gA, gA, gA, gA⟩
    · have hF := bif_f hb16 hF; refine w_exit ?_; refine th_e ?_; refine th_e ?_; refine ⟨_, (inj hF).symm, rfl, rfl, ?_⟩; dsimp only
      exact ⟨F3, o4, c4, cs4, rfl, le3, st, w4, gA⟩
  · obtain ⟨N9, T, ds14⟩ := a; obtain ⟨h24, n25⟩ := σ; obtain ⟨rfl, e1, F14, o15, c15, cs15, e2, le14, st, w15, t5⟩ := hq
    dsimp only at e1 e2
    subst e1
    subst e2
    dsimp only at st t5
    refine ib_e ?_; refine th_n ?_; refine w_seq ?_; refine w_reg ?_; refine v_move ?_; refine v_move ?_; refine r_nil ?_; refine th_n ?_; refine w_ret ?_; obtain rfl := inj hF
    obtain ⟨F26, le26, st, rf26⟩ := St.freeze st 0 rfl w15 (by decide)
    have le27 := PH.le.trans le14 le26
    exact end_r st (Res.t gA Res.nil) ⟨_, _, rfl, rf26⟩
theorem ct96 (N : Nat) {a0 : Int} {a1 : (List Int)} {r : Int} (hF : sf96 N a0 a1 = some r) {fl : Nat} {h0 : Tr HBlk} {n0 : Nat} {F0 : PH} (hd : D h0 n0) (hs : F0.sub h0) {pa1 : Option (Nat × Nat)} {ca1 : Nat} (ra1 : RowF rI 1 F0 pa1 ca1 a1) : C LW fl 96 [(i64 a0), (.slice pa1 (a1).length ca1)] ⟨h0, n0⟩ (KS (i64 r) n0 h0) := by
  unfold sf96 at hF
  refine in_cT hd hs lw96 rfl rfl (by rfl) (fun st T hT => ?_)
  have hfl : n0 ≤ n0 := Nat.le_refl n0
  have t0 := hT 0 _ rfl
  have t1 := hT 1 _ rfl
  dsimp only [L96]
  refine w_seq ?_; refine w_reg ?_; refine v_move ?_; refine r_nil ?_; refine th_n ?_; refine w_seq ?_; refine w_seq ?_; refine w_reg ?_; refine v_move ?_; refine v_len ?_; refine v_move ?_; refine r_nil ?_; refine th_n ?_; refine w_block ?_; obtain ⟨y8, hy, hF⟩ := bnd_some hF; refine v_loopD (sf96_L1 a1) (fun x1 T ds2 h nx => ∃ (F2 : PH), ds2 = [] ∧ PH.le F0 F2 ∧ St n0 h0 F0 F2 h nx [] ∧ T.get 0 = some (i64 x1.1) ∧ T.get 7 = some (.slice pa1 (a1).length ca1) ∧ T.get 8 = some (i64 ((a1).length : Int)) ∧ T.get 9 = some (i64 x1.2)) (fun y e a σ => e = .exit 0 ∧ a.nt = 19 ∧ ∃ (F9 : PH), a.defers = [] ∧ PH.le F0 F9 ∧ St n0 h0 F0 F9 σ.h σ.nx [] ∧ a.tmps.get 0 = some (i64 y)) (fun x1 T ds2 h nx s hp hF => ?_) N _ y8 _ _ _ _ hy ⟨F0, rfl, (PH.le.refl _), st, gA, gA, gA, gA⟩ (fun e a σ hne hq => ?_)
  · obtain ⟨F2, rfl, le2, st, t0, t7, t8, t9⟩ := hp; unfold sf96_L1 at hF; unfold L96w0; refine w_seq ?_; refine w_reg ?_; refine v_lss ?_; refine r_nil ?_; refine th_n ?_; refine w_seq ?_; refine v_cond (fun hb10 => ?_) (fun hb10 => ?_)
    · have hF := bif_t hb10 hF; refine w_skip ?_; refine th_n ?_; refine w_seq ?_; refine w_block ?_; refine w_seq ?_; refine w_reg ?_; obtain ⟨n11, x11, z11, l11, g11, hF⟩ := ix_some hF; obtain ⟨b11, o11, s11, j11, r11, e11, f11, k11, rfl⟩ := RowF.get ra1 g11; refine v_ixp e11 z11 l11 ?_; refine v_ld1 (st.sub _ _ (le2 _ _ f11)) (take_at (j := 0) k11 rfl) ?_; refine v_move ?_; refine r_nil ?_; refine th_n ?_; refine w_seq ?_; refine w_reg ?_; refine v_move ?_; refine v_move ?_; refine v_gtr ?_; refine r_nil ?_; refine th_n ?_; refine v_cond (fun hb12 => ?_) (fun hb12 => ?_)
      · have hF := bif_t hb12 hF; refine w_reg ?_; refine v_move ?_; refine v_move ?_; refine r_nil ?_; refine ib_n ?_; refine th_n ?_; refine w_reg ?_; obtain ⟨q13, hF⟩ := ck_some hF; refine v_add q13 ?_; refine v_move ?_; refine r_nil ?_; refine thn ⟨_, (inj hF).symm, rfl, ?_⟩; dsimp only
        exact ⟨F2, rfl, le2, st, gA, gA, gA, gA⟩
      · have hF := bif_f hb12 hF; refine w_skip ?_; refine ib_n ?_; refine th_n ?_; refine w_reg ?_; obtain ⟨q14, hF⟩ := ck_some hF; refine v_add q14 ?_; refine v_move ?_; refine r_nil ?_; refine thn ⟨_, (inj hF).symm, rfl, ?_⟩; dsimp only
        exact ⟨F2, rfl, le2, st, gA, gA, gA, gA⟩
    · have hF := bif_f hb10 hF; refine w_exit ?_; refine th_e ?_; refine th_e ?_; refine ⟨_, (inj hF).symm, rfl, rfl, ?_⟩; dsimp only
      exact ⟨F2, rfl, le2, st, gA⟩
  · obtain ⟨N9, T, ds9⟩ := a; obtain ⟨h15, n16⟩ := σ; obtain ⟨rfl, e1, F9, e2, le9, st, t0⟩ := hq
    dsimp only at e1 e2
    subst e1
    subst e2
    dsimp only at st t0
    refine ib_e ?_; refine th_n ?_; refine w_seq ?_; refine w_reg ?_; refine v_move ?_; refine v_move ?_; refine r_nil ?_; refine th_n ?_; refine w_ret ?_; obtain rfl := inj hF
    exact end_s st (Res.t gA Res.nil) rfl rfl
theorem ct95 (N : Nat) {r : (Int × Int × Int)} (hF : sf95 N = some r) {fl : Nat} {h0 : Tr HBlk} {n0 : Nat} {F0 : PH} (hd : D h0 n0) (hs : F0.sub h0) : C LW fl 95 [] ⟨h0, n0⟩ (KS (.agg [(i64 r.1), (i64 r.2.1), (i64 r.2.2)]) n0 h0) := by
  unfold sf95 at hF
  refine in_cT hd hs lw95 rfl rfl (by rfl) (fun st T hT => ?_)
  have hfl : n0 ≤ n0 := Nat.le_refl n0
  dsimp only [L95]
  refine w_seq ?_; refine w_reg ?_; refine v_alloc st (fun b1 h2 n3 st => ?_); refine r_nil ?_; refine th_n ?_; refine w_seq ?_; refine w_reg ?_; refine v_build (cs := [(i64 (-1 : Int)), (i64 (-1 : Int)), (i64 (0 : Int))]) rfl ?_; refine v_st (cs' := [(i64 (-1 : Int)), (i64 (-1 : Int)), (i64 (0 : Int))]) st 0 rfl rfl rfl rfl hfl (fun h4 st => ?_); refine r_nil ?_; refine th_n ?_; refine w_ret ?_; obtain rfl := inj hF
  exact end_s st (Res.c gA (st.at (i := 0) rfl).2.2 (show takeN _ _ = some [(i64 (-1 : Int)), (i64 (-1 : Int)), (i64 (0 : Int))] from rfl) Res.nil) rfl rfl
theorem ct94 (N : Nat) {a0_0 : Int} {a0_1 : Int} {a0_2 : Int} {a1_0 : Int} {a1_1 : Int} {a1_2 : Int} {r : Int} (hF : sf94 N a0_0 a0_1 a0_2 a1_0 a1_1 a1_2 = some r) {fl : Nat} {h0 : Tr HBlk} {n0 : Nat} {F0 : PH} (hd : D h0 n0) (hs : F0.sub h0) : C LW fl 94 [(.agg [(i64 a0_0), (i64 a0_1), (i64 a0_2)]), (.agg [(i64 a1_0), (i64 a1_1), (i64 a1_2)])] ⟨h0, n0⟩ (KS (i64 r) n0 h0) := by
  unfold sf94 at hF
  refine in_cT hd hs lw94 rfl rfl (by rfl) (fun st T hT => ?_)
  have hfl : n0 ≤ n0 := Nat.le_refl n0
  have t0 := hT 0 _ rfl
  have t1 := hT 1 _ rfl
  dsimp only [L94]
  refine w_seq ?_; refine w_reg ?_; refine v_box st (fun b1 h2 n3 st => ?_); refine v_box st (fun b4 h5 n6 st => ?_); refine v_move ?_; refine r_nil ?_; refine th_n ?_; refine w_seq ?_; refine w_seq ?_; refine w_reg ?_; refine v_fa ?_; refine v_ld1 (st.at (i := 1) rfl).2.2 rfl ?_; refine v_fa ?_; refine v_ld1 (st.at (i := 0) rfl).2.2 rfl ?_; refine v_eqi ?_; refine r_nil ?_; refine th_n ?_; refine v_cond (fun hb7 => ?_) (fun hb7 => ?_)
  · have hF := bif_t hb7 hF; refine w_seq ?_; refine w_reg ?_; refine v_move ?_; refine r_nil ?_; refine th_n ?_; refine w_ret ?_; refine th_r ?_; obtain rfl := inj hF
    exact end_s st (Res.t gA Res.nil) rfl rfl
  · have hF := bif_f hb7 hF; refine w_skip ?_; refine th_n ?_; refine w_seq ?_; refine w_reg ?_; refine v_move ?_; refine r_nil ?_; refine th_n ?_; refine w_ret ?_; obtain rfl := inj hF
    exact end_s st (Res.t gA Res.nil) rfl rfl
end Go.Hx.V

/- Functions of the program come to that. -/
namespace Go.Hx.V
open Go.Hx
set_option linter.unusedVariables false
set_option maxRecDepth 20000
set_option maxHeartbeats 4000000
attribute [local irreducible] W R C thenH inBlockH Tr.get Tr.set lo
theorem ct19 (N : Nat) {a0_0 : Int} {a0_1 : (List (Int × Int))} {a0_2 : (List (Int × Int × Int))} {a0_3 : Int} {r : (Int × (List (Int × Int)) × (List (Int × Int × Int)) × Int)} (hF : sf19 N a0_0 a0_1 a0_2 a0_3 = some r) {fl : Nat} {h0 : Tr HBlk} {n0 : Nat} {F0 : PH} (hd : D h0 n0) (hs : F0.sub h0) (hfl : fl ≤ n0) {pa0_1 : Option (Nat × Nat)} {ca0_1 : Nat} {pa0_2 : Option (Nat × Nat)} {ca0_2 : Nat} (ra0_1 : RowF (rP rI rI) 2 F0 pa0_1 ca0_1 a0_1) (ra0_2 : RowF (rP rI (rP rI rI)) 3 F0 pa0_2 ca0_2 a0_2) : C LW fl 19 [(.agg [(i64 a0_0), (.slice pa0_1 (a0_1).length ca0_1), (.slice pa0_2 (a0_2).length ca0_2), (i64 a0_3)])] ⟨h0, n0⟩ (KR (rvA (rP rI (rP (rL (rP rI rI) 2) (rP (rL (rP rI (rP rI rI)) 3) rI)))) F0 h0 n0 r) := by
  unfold sf19 at hF
  refine in_mT hd hs hfl lw19 rfl rfl (by rfl) (fun st T hT => ?_)
  have t0 := hT 0 _ rfl
  dsimp only [L19]
  refine w_seq ?_; refine w_reg ?_; refine v_box st (fun b1 h2 n3 st => ?_); refine v_alloc st (fun b4 h5 n6 st => ?_); refine r_nil ?_; refine th_n ?_; refine w_seq ?_; refine w_reg ?_; refine v_fa ?_; refine v_ld1 (st.at (i := 0) rfl).2.2 rfl ?_; refine v_fa ?_; refine v_ld1 (st.at (i := 0) rfl).2.2 rfl ?_; refine v_build (cs := [(i64 a0_0), (.slice none 0 0), (.slice none 0 0), (i64 a0_3)]) rfl ?_; refine v_alloc st (fun b7 h8 n9 st => ?_); refine v_st (cs' := [(i64 a0_0), (.slice none 0 0), (.slice none 0 0), (i64 a0_3)]) st 2 rfl rfl rfl rfl hfl (fun h10 st => ?_); refine r_nil ?_; refine th_n ?_; refine w_seq ?_; refine w_seq ?_; refine w_reg ?_; refine v_move ?_; refine r_nil ?_; refine th_n ?_
  refine w_block ?_
  have st := st.nilL 2
  have w28 : LR (rP rI rI) 2 F0 ([] : List (Int × Int)) [] := LR.nil
  obtain ⟨y42, hy, hF⟩ := bnd_some hF; refine v_loopD (sf19_L1 N a0_1) (fun x30 T ds31 h nx => ∃ (F31 : PH) (o32 : Option Nat) (c32 : Nat) (cs32 : List HV), ds31 = [] ∧ PH.le F0 F31 ∧ St n0 h0 F0 F31 h nx [.bx b1 [(i64 a0_0), (.slice pa0_1 (a0_1).length ca0_1), (.slice pa0_2 (a0_2).length ca0_2), (i64 a0_3)], .bx b4 [(i64 (0 : Int)), (.slice none 0 0), (.slice none 0 0), (i64 (0 : Int))], .bx b7 [(i64 a0_0), (slv o32 (x30.2).length c32), (.slice none 0 0), (i64 a0_3)], .ls o32 c32 cs32 2] ∧ LR (rP rI rI) 2 F31 x30.2 cs32 ∧ T.get 1 = some (.ptr (some (b1, 0))) ∧ T.get 2 = some (.ptr (some (b4, 0))) ∧ T.get 3 = some (.ptr (some (b7, 0))) ∧ T.get 4 = some (i64 x30.1)) (fun y e a σ => e = .exit 0 ∧ a.nt = 56 ∧ ∃ (F43 : PH) (o44 : Option Nat) (c44 : Nat) (cs44 : List HV), a.defers = [] ∧ PH.le F0 F43 ∧ St n0 h0 F0 F43 σ.h σ.nx [.bx b1 [(i64 a0_0), (.slice pa0_1 (a0_1).length ca0_1), (.slice pa0_2 (a0_2).length ca0_2), (i64 a0_3)], .bx b4 [(i64 (0 : Int)), (.slice none 0 0), (.slice none 0 0), (i64 (0 : Int))], .bx b7 [(i64 a0_0), (slv o44 (y).length c44), (.slice none 0 0), (i64 a0_3)], .ls o44 c44 cs44 2] ∧ LR (rP rI rI) 2 F43 y cs44 ∧ a.tmps.get 1 = some (.ptr (some (b1, 0))) ∧ a.tmps.get 2 = some (.ptr (some (b4, 0))) ∧ a.tmps.get 3 = some (.ptr (some (b7, 0)))) (fun x30 T ds31 h nx s hp hF => ?_) N _ y42 _ _ _ _ hy ⟨F0, none, 0, [], rfl, (PH.le.refl _), st, w28, gA, gA, gA, gA⟩ (fun e a σ hne hq => ?_)
  · obtain ⟨F31, o32, c32, cs32, rfl, le31, st, w32, t1, t2, t3, t4⟩ := hp; unfold sf19_L1 at hF; unfold L19w1; refine w_seq ?_; refine w_seq ?_; refine w_reg ?_; refine v_move ?_; refine v_fa ?_; refine v_ld1 (st.at (i := 0) rfl).2.2 rfl ?_; refine v_len ?_; refine v_lss ?_; refine r_nil ?_; refine th_n ?_; refine v_cond (fun hb45 => ?_) (fun hb45 => ?_)
    · have hF := bif_t hb45 hF; refine w_skip ?_; refine th_n ?_; refine w_seq ?_; refine w_block ?_; refine w_drawV (Nat.le_trans hfl st.ext.le) (fun dw => ?_); refine y_pure st.d dw (fun hm vw => v_fa pr_nil) ?_; refine y_pure st.d dw (fun hm vw => v_ld1 (vw.bx (st.at (i := 2) rfl)) rfl pr_nil) ?_; refine y_pure st.d dw (fun hm vw => v_fa pr_nil) ?_; refine y_pure st.d dw (fun hm vw => v_ld1 (vw.bx (st.at (i := 0) rfl)) rfl pr_nil) ?_; refine y_pure st.d dw (fun hm vw => v_move pr_nil) ?_; obtain ⟨n46, x46, z46, l46, g46, hF⟩ := ix_some hF; obtain ⟨b46, o46, s46, j46, r46, e46, f46, k46, ⟨_, _, rfl, rfl, rfl⟩⟩ := RowF.get ra0_1 g46; refine y_pure st.d dw (fun hm vw => v_ixp e46 z46 l46 pr_nil) ?_
      refine y_pure st.d dw (fun hm vw => v_ldn (vw.fz st (le31 _ _ f46)) k46 pr_nil) ?_; obtain ⟨v47, e48, hF⟩ := bnd_some hF; refine y_flat st.d dw (fun hm vw => u_call (ct25 N e48 vw.d (vw.sub st) ) (fun n' hn' => pf_nil hn')) (fun n49 hn' dw => ?_); refine y_lay st.d dw (fun hm vw => u_bs (cs := [(i64 v47.1), (i64 v47.2)]) rfl pr_nil) (fun done dw => ?_); refine y_end st.d dw rfl (fun h50 ex vs => ?_)
      have st := St.laid st ex (Lay.cons (b := n49) (cs := [(i64 v47.1), (i64 v47.2)]) (by have := dw.le; omega) (vs _ (List.mem_cons_self ..) _ _ (if_pos rfl)) (Lay.nil (by have := dw.le; omega)))
      obtain ⟨q51, hF⟩ := ck_some hF
      have w51 : LR (rP rI rI) 2 F31 (x30.2 ++ [(v47.1, v47.2)]) (cs32 ++ [(i64 v47.1), (i64 v47.2)]) := LR.app w32 (LR.one (⟨[(i64 v47.1)], [(i64 v47.2)], rfl, rfl, rfl⟩))
      refine v_aps (n := 1) (ox := 0) (m := (x30.2 ++ [(v47.1, v47.2)]).length) (row := [(i64 v47.1), (i64 v47.2)]) st 3 rfl w32.1 (st.at (i := 4) rfl).2.2 rfl rfl q51 hfl (by decide) (by decide) (by simp) (fun o51 c51 h51 n51 st => ?_)
      refine v_fa ?_; refine v_st (cs' := [(i64 a0_0), (slv o51 ((x30.2 ++ [(v47.1, v47.2)])).length c51), (.slice none 0 0), (i64 a0_3)]) st 2 rfl rfl rfl rfl hfl (fun h52 st => ?_); refine r_nil ?_; refine ib_n ?_; refine th_n ?_; refine w_reg ?_; refine v_move ?_; obtain ⟨q53, hF⟩ := ck_some hF; refine v_add q53 ?_; refine v_move ?_; refine r_nil ?_; refine thn ⟨_, (inj hF).symm, rfl, ?_⟩; dsimp only
      exact ⟨F31, o51, c51, (cs32 ++ [(i64 v47.1), (i64 v47.2)]), rfl, le31, (st.drop (by first | exact List.Sublist.refl _ | (repeat first | exact List.nil_sublist _ | refine List.Sublist.cons_cons _ ?_ | refine List.Sublist.cons _ ?_))), w51, gA, gA, gA, gA⟩
    · have hF := bif_f hb45 hF; refine w_exit ?_; refine th_e ?_; refine th_e ?_; refine ⟨_, (inj hF).symm, rfl, rfl, ?_⟩; dsimp only
      exact ⟨F31, o32, c32, cs32, rfl, le31, st, w32, gA, gA, gA⟩
  · obtain ⟨N9, T, ds43⟩ := a; obtain ⟨h54, n55⟩ := σ; obtain ⟨rfl, e1, F43, o44, c44, cs44, e2, le43, st, w44, t1, t2, t3⟩ := hq
    dsimp only at e1 e2
    subst e1
    subst e2
    dsimp only at st t1 t2 t3
    refine ib_e ?_; refine th_n ?_; refine w_seq ?_; refine w_seq ?_; refine w_reg ?_; refine v_move ?_; refine r_nil ?_; refine th_n ?_; refine w_block ?_
    have st := st.nilL 3
    have w73 : LR (rP rI (rP rI rI)) 3 F43 ([] : List (Int × Int × Int)) [] := LR.nil
    obtain ⟨y89, hy, hF⟩ := bnd_some hF; refine v_loopD (sf19_L2 N a0_2) (fun x75 T ds76 h nx => ∃ (F76 : PH) (o77 : Option Nat) (c77 : Nat) (cs77 : List HV), ds76 = [] ∧ PH.le F43 F76 ∧ St n0 h0 F0 F76 h nx [.bx b1 [(i64 a0_0), (.slice pa0_1 (a0_1).length ca0_1), (.slice pa0_2 (a0_2).length ca0_2), (i64 a0_3)], .bx b4 [(i64 (0 : Int)), (.slice none 0 0), (.slice none 0 0), (i64 (0 : Int))], .bx b7 [(i64 a0_0), (slv o44 (y42).length c44), (slv o77 (x75.2).length c77), (i64 a0_3)], .ls o44 c44 cs44 2, .ls o77 c77 cs77 3] ∧ LR (rP rI (rP rI rI)) 3 F76 x75.2 cs77 ∧ T.get 1 = some (.ptr (some (b1, 0))) ∧ T.get 2 = some (.ptr (some (b4, 0))) ∧ T.get 3 = some (.ptr (some (b7, 0))) ∧ T.get 5 = some (i64 x75.1)) (fun y e a σ => e = .exit 2 ∧ a.nt = 56 ∧ ∃ (F90 : PH) (o91 : Option Nat) (c91 : Nat) (cs91 : List HV), a.defers = [] ∧ PH.le F43 F90 ∧ St n0 h0 F0 F90 σ.h σ.nx [.bx b1 [(i64 a0_0), (.slice pa0_1 (a0_1).length ca0_1), (.slice pa0_2 (a0_2).length ca0_2), (i64 a0_3)], .bx b4 [(i64 (0 : Int)), (.slice none 0 0), (.slice none 0 0), (i64 (0 : Int))], .bx b7 [(i64 a0_0), (slv o44 (y42).length c44), (slv o91 (y).length c91), (i64 a0_3)], .ls o44 c44 cs44 2, .ls o91 c91 cs91 3] ∧ LR (rP rI (rP rI rI)) 3 F90 y cs91 ∧ a.tmps.get 2 = some (.ptr (some (b4, 0))) ∧ a.tmps.get 3 = some (.ptr (some (b7, 0)))) (fun x75 T ds76 h nx s hp hF => ?_) N _ y89 _ _ _ _ hy ⟨F43, none, 0, [], rfl, (PH.le.refl _), st, w73, gA, gA, gA, gA⟩ (fun e a σ hne hq => ?_)
    · obtain ⟨F76, o77, c77, cs77, rfl, le76, st, w77, t1, t2, t3, t5⟩ := hp
      have le78 := PH.le.trans le43 le76
      unfold sf19_L2 at hF; unfold L19w0; refine w_seq ?_; refine w_seq ?_; refine w_reg ?_; refine v_move ?_; refine v_fa ?_; refine v_ld1 (st.at (i := 0) rfl).2.2 rfl ?_; refine v_len ?_; refine v_lss ?_; refine r_nil ?_; refine th_n ?_; refine v_cond (fun hb92 => ?_) (fun hb92 => ?_)
      · have hF := bif_t hb92 hF; refine w_skip ?_; refine th_n ?_; refine w_seq ?_; refine w_block ?_; refine w_drawV (Nat.le_trans hfl st.ext.le) (fun dw => ?_); refine y_pure st.d dw (fun hm vw => v_fa pr_nil) ?_; refine y_pure st.d dw (fun hm vw => v_ld1 (vw.bx (st.at (i := 2) rfl)) rfl pr_nil) ?_; refine y_pure st.d dw (fun hm vw => v_fa pr_nil) ?_; refine y_pure st.d dw (fun hm vw => v_ld1 (vw.bx (st.at (i := 0) rfl)) rfl pr_nil) ?_; refine y_pure st.d dw (fun hm vw => v_move pr_nil) ?_; obtain ⟨n93, x93, z93, l93, g93, hF⟩ := ix_some hF; obtain ⟨b93, o93, s93, j93, r93, e93, f93, k93, ⟨_, _, rfl, rfl, ⟨_, _, rfl, rfl, rfl⟩⟩⟩ := RowF.get ra0_2 g93; refine y_pure st.d dw (fun hm vw => v_ixp e93 z93 l93 pr_nil) ?_
        refine y_pure st.d dw (fun hm vw => v_fa pr_nil) ?_; refine y_pure st.d dw (fun hm vw => v_ld1 (vw.fz st (le78 _ _ f93)) (take_at (j := 0) k93 rfl) pr_nil) ?_; refine y_pure st.d dw (fun hm vw => v_fa pr_nil) ?_; refine y_pure st.d dw (fun hm vw => v_ld1 (vw.bx (st.at (i := 0) rfl)) rfl pr_nil) ?_; refine y_pure st.d dw (fun hm vw => v_move pr_nil) ?_; obtain ⟨n94, x94, z94, l94, g94, hF⟩ := ix_some hF; obtain ⟨b94, o94, s94, j94, r94, e94, f94, k94, ⟨_, _, rfl, rfl, ⟨_, _, rfl, rfl, rfl⟩⟩⟩ := RowF.get ra0_2 g94; refine y_pure st.d dw (fun hm vw => v_ixp e94 z94 l94 pr_nil) ?_; refine y_pure st.d dw (fun hm vw => v_fa pr_nil) ?_
        refine y_pure st.d dw (fun hm vw => v_ldn (vs := [(i64 x94.2.1), (i64 x94.2.2)]) (vw.fz st (le78 _ _ f94)) (take_sub (j := 1) k94 (by decide) rfl) pr_nil) ?_
        obtain ⟨v95, e96, hF⟩ := bnd_some hF; refine y_flat st.d dw (fun hm vw => u_call (ct25 N e96 vw.d (vw.sub st) ) (fun n' hn' => pf_nil hn')) (fun n97 hn' dw => ?_); refine y_pure st.d dw (fun hm vw => v_build (cs := [(i64 x93.1), (i64 v95.1), (i64 v95.2)]) rfl pr_nil) ?_; refine y_lay st.d dw (fun hm vw => u_bs (cs := [(i64 x93.1), (i64 v95.1), (i64 v95.2)]) rfl pr_nil) (fun done dw => ?_); refine y_end st.d dw rfl (fun h98 ex vs => ?_)
        have st := St.laid st ex (Lay.cons (b := n97) (cs := [(i64 x93.1), (i64 v95.1), (i64 v95.2)]) (by have := dw.le; omega) (vs _ (List.mem_cons_self ..) _ _ (if_pos rfl)) (Lay.nil (by have := dw.le; omega)))
        obtain ⟨q99, hF⟩ := ck_some hF
        have w99 : LR (rP rI (rP rI rI)) 3 F76 (x75.2 ++ [(x93.1, v95.1, v95.2)]) (cs77 ++ [(i64 x93.1), (i64 v95.1), (i64 v95.2)]) := LR.app w77 (LR.one (⟨[(i64 x93.1)], [(i64 v95.1), (i64 v95.2)], rfl, rfl, ⟨[(i64 v95.1)], [(i64 v95.2)], rfl, rfl, rfl⟩⟩))
        refine v_aps (n := 1) (ox := 0) (m := (x75.2 ++ [(x93.1, v95.1, v95.2)]).length) (row := [(i64 x93.1), (i64 v95.1), (i64 v95.2)]) st 4 rfl w77.1 (st.at (i := 5) rfl).2.2 rfl rfl q99 hfl (by decide) (by decide) (by simp) (fun o99 c99 h99 n99 st => ?_)
        refine v_fa ?_; refine v_st (cs' := [(i64 a0_0), (slv o44 (y42).length c44), (slv o99 ((x75.2 ++ [(x93.1, v95.1, v95.2)])).length c99), (i64 a0_3)]) st 2 rfl rfl rfl rfl hfl (fun h100 st => ?_); refine r_nil ?_; refine ib_n ?_; refine th_n ?_; refine w_reg ?_; refine v_move ?_; obtain ⟨q101, hF⟩ := ck_some hF; refine v_add q101 ?_; refine v_move ?_; refine r_nil ?_; refine thn ⟨_, (inj hF).symm, rfl, ?_⟩; dsimp only
        exact ⟨F76, o99, c99, (cs77 ++ [(i64 x93.1), (i64 v95.1), (i64 v95.2)]), rfl, le76, (st.drop (by first | exact List.Sublist.refl _ | (repeat first | exact List.nil_sublist _ | refine List.Sublist.cons_cons _ ?_ | refine List.Sublist.cons _ ?_))), w99, gA, gA, gA, gA⟩
      · have hF := bif_f hb92 hF; refine w_exit ?_; refine th_e ?_; refine th_e ?_; refine ⟨_, (inj hF).symm, rfl, rfl, ?_⟩; dsimp only
        exact ⟨F76, o77, c77, cs77, rfl, le76, st, w77, gA, gA⟩
    · obtain ⟨N9, T, ds90⟩ := a; obtain ⟨h103, n104⟩ := σ; obtain ⟨rfl, e1, F90, o91, c91, cs91, e2, le90, st, w91, t2, t3⟩ := hq
      dsimp only at e1 e2
      subst e1
      subst e2
      dsimp only at st t2 t3
      have le102 := PH.le.trans le43 le90
      refine ib_e ?_; refine th_n ?_; refine w_seq ?_; refine w_reg ?_; refine v_ldn (vs := [(i64 a0_0), (slv o44 (y42).length c44), (slv o91 (y89).length c91), (i64 a0_3)]) (st.at (i := 2) rfl).2.2 rfl ?_; refine v_st (cs' := [(i64 a0_0), (slv o44 (y42).length c44), (slv o91 (y89).length c91), (i64 a0_3)]) st 1 rfl rfl rfl rfl hfl (fun h105 st => ?_); refine r_nil ?_; refine th_n ?_; refine w_ret ?_; obtain rfl := inj hF
      obtain ⟨F106, le106, st, rf106⟩ := St.freeze st 3 rfl (LR.mono le90 w44) (by decide)
      have le107 := PH.le.trans le102 le106
      have le108 := PH.le.trans le90 le106
      obtain ⟨F109, le109, st, rf109⟩ := St.freeze st 3 rfl (LR.mono le106 w91) (by decide)
      have le110 := PH.le.trans le107 le109
      have le111 := PH.le.trans le108 le109
      have le112 := PH.le.trans le106 le109
      exact end_r st (Res.c gA (st.at (i := 1) rfl).2.2 (show takeN _ _ = some [(i64 a0_0), (.slice (o44.map fun b => (b, 0)) (y42).length c44), (.slice (o91.map fun b => (b, 0)) (y89).length c91), (i64 a0_3)] from rfl) Res.nil) ⟨_, rfl, ⟨[(i64 a0_0)], [(.slice (o44.map fun b => (b, 0)) (y42).length c44), (.slice (o91.map fun b => (b, 0)) (y89).length c91), (i64 a0_3)], rfl, rfl, ⟨[(.slice (o44.map fun b => (b, 0)) (y42).length c44)], [(.slice (o91.map fun b => (b, 0)) (y89).length c91), (i64 a0_3)], rfl, ⟨_, _, rfl, (RowF.mono le109 rf106)⟩, ⟨[(.slice (o91.map fun b => (b, 0)) (y89).length c91)], [(i64 a0_3)], rfl, ⟨_, _, rfl, rf109⟩, rfl⟩⟩⟩⟩
theorem ct97 (N : Nat) {a0 : (List (Int × Int))} {r : Bool} (hF : sf97 N a0 = some r) {fl : Nat} {h0 : Tr HBlk} {n0 : Nat} {F0 : PH} (hd : D h0 n0) (hs : F0.sub h0) {pa0 : Option (Nat × Nat)} {ca0 : Nat} (ra0 : RowF (rP rI rI) 2 F0 pa0 ca0 a0) : C LW fl 97 [(.slice pa0 (a0).length ca0), (.func 98 [] [])] ⟨h0, n0⟩ (KS (.bool r) n0 h0) := by
  unfold sf97 at hF
  refine in_cT hd hs lw97 rfl rfl (by rfl) (fun st T hT => ?_)
  have hfl : n0 ≤ n0 := Nat.le_refl n0
  have t0 := hT 0 _ rfl
  have t1 := hT 1 _ rfl
  dsimp only [L97]
  refine w_seq ?_; refine w_reg ?_; refine v_move ?_; refine r_nil ?_; refine th_n ?_; refine w_seq ?_; refine w_seq ?_; refine w_reg ?_; refine v_move ?_; refine v_len ?_; refine v_move ?_; refine r_nil ?_; refine th_n ?_; refine w_block ?_; obtain ⟨y14, hy, hF⟩ := bnd_some hF; refine v_loopD (sf97_L1 N a0) (fun x1 T ds2 h nx => ∃ (F2 : PH), ds2 = [] ∧ PH.le F0 F2 ∧ St n0 h0 F0 F2 h nx [] ∧ T.get 1 = some (.func 98 [] []) ∧ T.get 7 = some (.slice pa0 (a0).length ca0) ∧ T.get 8 = some (i64 ((a0).length : Int)) ∧ T.get 9 = some (i64 x1)) (fun y e a σ => (∃ u, y = (.inl u) ∧ e = .ret ∧ a.nt = 18 ∧ ∃ (F16 : PH), a.defers = [] ∧ PH.le F0 F16 ∧ St n0 h0 F0 F16 σ.h σ.nx [] ∧ a.tmps.get 4 = some (.bool false)) ∨ (∃ u, y = (.inr u) ∧ e = .exit 0 ∧ a.nt = 18 ∧ ∃ (F18 : PH), a.defers = [] ∧ PH.le F0 F18 ∧ St n0 h0 F0 F18 σ.h σ.nx [])) (fun x1 T ds2 h nx s hp hF => ?_) N _ y14 _ _ _ _ hy ⟨F0, rfl, (PH.le.refl _), st, gA, gA, gA, gA⟩ (fun e a σ hne hq => ?_)
  · obtain ⟨F2, rfl, le2, st, t1, t7, t8, t9⟩ := hp; unfold sf97_L1 at hF; unfold L97w0; refine w_seq ?_; refine w_reg ?_; refine v_lss ?_; refine r_nil ?_; refine th_n ?_; refine w_seq ?_; refine v_cond (fun hb19 => ?_) (fun hb19 => ?_)
    · have hF := bif_t hb19 hF; refine w_skip ?_; refine th_n ?_; refine w_seq ?_; refine w_block ?_; refine w_seq ?_; refine w_reg ?_; obtain ⟨n20, x20, z20, l20, g20, hF⟩ := ix_some hF; obtain ⟨b20, o20, s20, j20, r20, e20, f20, k20, ⟨_, _, rfl, rfl, rfl⟩⟩ := RowF.get ra0 g20; refine v_ixp e20 z20 l20 ?_; refine v_ldn (st.sub _ _ (le2 _ _ f20)) k20 ?_; refine v_alloc st (fun b21 h22 n23 st => ?_); refine v_st (cs' := [(i64 x20.1), (i64 x20.2)]) st 0 rfl rfl rfl rfl hfl (fun h24 st => ?_); refine r_nil ?_; refine th_n ?_; refine w_seq ?_; refine w_reg ?_; refine v_move ?_; refine v_ldn (vs := [(i64 x20.1), (i64 x20.2)]) (st.at (i := 0) rfl).2.2 rfl ?_; obtain ⟨v25, e26, hF⟩ := bnd_some hF; refine v_call st (ct98 N e26 st.d st.sub ) (fun n27 st => ?_)
      refine v_not ?_; refine r_nil ?_; refine th_n ?_; refine v_cond (fun hb28 => ?_) (fun hb28 => ?_)
      · have hF := bif_t hb28 hF; refine w_seq ?_; refine w_reg ?_; refine v_move ?_; refine r_nil ?_; refine th_n ?_; refine w_ret ?_; refine ib_r ?_; refine th_r ?_; refine th_r ?_; refine ⟨_, (inj hF).symm, .inl ⟨_, rfl, rfl, rfl, ?_⟩⟩; dsimp only
        exact ⟨F2, rfl, le2, (st.drop (by first | exact List.Sublist.refl _ | (repeat first | exact List.nil_sublist _ | refine List.Sublist.cons_cons _ ?_ | refine List.Sublist.cons _ ?_))), gA⟩
      · have hF := bif_f hb28 hF; refine w_skip ?_; refine ib_n ?_; refine th_n ?_; refine w_reg ?_; obtain ⟨q29, hF⟩ := ck_some hF; refine v_add q29 ?_; refine v_move ?_; refine r_nil ?_; refine thn ⟨_, (inj hF).symm, rfl, ?_⟩; dsimp only
        exact ⟨F2, rfl, le2, (st.drop (by first | exact List.Sublist.refl _ | (repeat first | exact List.nil_sublist _ | refine List.Sublist.cons_cons _ ?_ | refine List.Sublist.cons _ ?_))), gA, gA, gA, gA⟩
    · have hF := bif_f hb19 hF; refine w_exit ?_; refine th_e ?_; refine th_e ?_; refine ⟨_, (inj hF).symm, .inr (⟨_, rfl, rfl, rfl, ?_⟩)⟩; dsimp only
      exact ⟨F2, rfl, le2, st⟩
  · rcases hq with hq | hq
    · obtain ⟨N9, T, ds16⟩ := a; obtain ⟨h30, n31⟩ := σ; obtain ⟨w15, rfl, rfl, e1, F16, e2, le16, st, t4⟩ := hq
      dsimp only at e1 e2
      subst e1
      subst e2
      dsimp only at st t4
      have hF := sel_l hF; refine ib_r ?_; refine th_r ?_; obtain rfl := inj hF
      exact end_s st (Res.t gA Res.nil) rfl rfl
    · obtain ⟨N9, T, ds18⟩ := a; obtain ⟨h32, n33⟩ := σ; obtain ⟨w17, rfl, rfl, e1, F18, e2, le18, st⟩ := hq
      dsimp only at e1 e2
      subst e1
      subst e2
      dsimp only at st
      have hF := sel_r hF; refine ib_e ?_; refine th_n ?_; refine w_seq ?_; refine w_reg ?_; refine v_move ?_; refine r_nil ?_; refine th_n ?_; refine w_ret ?_; obtain rfl := inj hF
      exact end_s st (Res.t gA Res.nil) rfl rfl
theorem ct100 (N : Nat) {a0_0 : Int} {a0_1 : Int} {a0_2 : Int} {r : Bool} (hF : sf100 N a0_0 a0_1 a0_2 = some r) {fl : Nat} {h0 : Tr HBlk} {n0 : Nat} {F0 : PH} (hd : D h0 n0) (hs : F0.sub h0) : C LW fl 100 [(.agg [(i64 a0_0), (i64 a0_1), (i64 a0_2)])] ⟨h0, n0⟩ (KS (.bool r) n0 h0) := by
  unfold sf100 at hF
  refine in_cT hd hs lw100 rfl rfl (by rfl) (fun st T hT => ?_)
  have hfl : n0 ≤ n0 := Nat.le_refl n0
  have t0 := hT 0 _ rfl
  dsimp only [L100]
  refine w_seq ?_; refine w_reg ?_; refine v_box st (fun b1 h2 n3 st => ?_); refine v_move ?_; refine r_nil ?_; refine th_n ?_; refine w_seq ?_; refine w_reg ?_; refine v_fa ?_; refine v_ld1 (st.at (i := 0) rfl).2.2 rfl ?_; refine v_leq ?_; refine v_move ?_
  rcases Bool.eq_false_or_eq_true (decide ((0 : Int) ≤ a0_0)) with hb4 | hb4
  · have hF := bif_t hb4 hF; refine g_take hb4 (v_fa ?_); refine g_take hb4 (v_ld1 (st.at (i := 0) rfl).2.2 rfl ?_); refine g_take hb4 (v_leq ?_); refine v_pick hb4 ?_; refine v_move ?_
    rcases Bool.eq_false_or_eq_true (decide (a0_0 ≤ (60 : Int))) with hb5 | hb5
    · have hF := bif_t hb5 hF; refine g_take hb5 (v_fa ?_); refine g_take hb5 (v_ldn (vs := [(i64 a0_1), (i64 a0_2)]) (st.at (i := 0) rfl).2.2 rfl ?_); obtain ⟨v6, e7, hF⟩ := bnd_some hF; refine g_take hb5 (v_call st (ct98 N e7 st.d st.sub ) (fun n8 st => ?_)); refine v_pick hb5 ?_; refine v_move ?_; refine r_nil ?_; refine th_n ?_; refine w_ret ?_; obtain rfl := inj hF
      exact end_s st (Res.t gA Res.nil) rfl rfl
    · have hF := bif_f hb5 hF; refine g_skip hb5 ?_; refine g_skip hb5 ?_; refine g_skip hb5 ?_; refine v_pick' hb5 ?_; refine v_move ?_; refine r_nil ?_; refine th_n ?_; refine w_ret ?_; obtain rfl := inj hF
      exact end_s st (Res.t gA Res.nil) rfl rfl
  · have hF := bif_f hb4 hF; refine g_skip hb4 ?_; refine g_skip hb4 ?_; refine g_skip hb4 ?_; refine v_pick' hb4 ?_; refine v_move ?_; refine g_skip rfl ?_; refine g_skip rfl ?_; refine g_skip rfl ?_; refine v_pick' rfl ?_; refine v_move ?_; refine r_nil ?_; refine th_n ?_; refine w_ret ?_; obtain rfl := inj hF
    exact end_s st (Res.t gA Res.nil) rfl rfl
end Go.Hx.V

/- Functions of the program come to that. -/
namespace Go.Hx.V
open Go.Hx
set_option linter.unusedVariables false
set_option maxRecDepth 20000
set_option maxHeartbeats 4000000
attribute [local irreducible] W R C thenH inBlockH Tr.get Tr.set lo
theorem ct101 (N : Nat) {a0 : (List (Int × Int × Int))} {r : Bool} (hF : sf101 N a0 = some r) {fl : Nat} {h0 : Tr HBlk} {n0 : Nat} {F0 : PH} (hd : D h0 n0) (hs : F0.sub h0) {pa0 : Option (Nat × Nat)} {ca0 : Nat} (ra0 : RowF (rP rI (rP rI rI)) 3 F0 pa0 ca0 a0) : C LW fl 101 [(.slice pa0 (a0).length ca0), (.func 102 [] [])] ⟨h0, n0⟩ (KS (.bool r) n0 h0) := by
  unfold sf101 at hF
  refine in_cT hd hs lw101 rfl rfl (by rfl) (fun st T hT => ?_)
  have hfl : n0 ≤ n0 := Nat.le_refl n0
  have t0 := hT 0 _ rfl
  have t1 := hT 1 _ rfl
  dsimp only [L101]
  refine w_seq ?_; refine w_reg ?_; refine v_move ?_; refine r_nil ?_; refine th_n ?_; refine w_seq ?_; refine w_seq ?_; refine w_reg ?_; refine v_move ?_; refine r_nil ?_; refine th_n ?_; refine w_block ?_; obtain ⟨y13, hy, hF⟩ := bnd_some hF; refine v_loopD (sf101_L1 N a0) (fun x1 T ds2 h nx => ∃ (F2 : PH), ds2 = [] ∧ PH.le F0 F2 ∧ St n0 h0 F0 F2 h nx [] ∧ T.get 0 = some (.slice pa0 (a0).length ca0) ∧ T.get 1 = some (.func 102 [] []) ∧ T.get 5 = some (i64 x1)) (fun y e a σ => (∃ u, y = (.inl u) ∧ e = .ret ∧ a.nt = 24 ∧ ∃ (F15 : PH), a.defers = [] ∧ PH.le F0 F15 ∧ St n0 h0 F0 F15 σ.h σ.nx [] ∧ a.tmps.get 4 = some (.bool false)) ∨ (∃ u, y = (.inr u) ∧ e = .exit 0 ∧ a.nt = 24 ∧ ∃ (F17 : PH), a.defers = [] ∧ PH.le F0 F17 ∧ St n0 h0 F0 F17 σ.h σ.nx [])) (fun x1 T ds2 h nx s hp hF => ?_) N _ y13 _ _ _ _ hy ⟨F0, rfl, (PH.le.refl _), st, gA, gA, gA⟩ (fun e a σ hne hq => ?_)
  · obtain ⟨F2, rfl, le2, st, t0, t1, t5⟩ := hp; unfold sf101_L1 at hF; unfold L101w0; refine w_seq ?_; refine w_seq ?_; refine w_reg ?_; refine v_move ?_; refine v_move ?_; refine v_len ?_; refine v_lss ?_; refine r_nil ?_; refine th_n ?_; refine v_cond (fun hb18 => ?_) (fun hb18 => ?_)
    · have hF := bif_t hb18 hF; refine w_skip ?_; refine th_n ?_; refine w_seq ?_; refine w_block ?_; refine w_seq ?_; refine w_drawV (Nat.le_trans hfl st.ext.le) (fun dw => ?_); refine y_pure st.d dw (fun hm vw => v_move pr_nil) ?_; refine y_pure st.d dw (fun hm vw => v_move pr_nil) ?_; refine y_pure st.d dw (fun hm vw => v_move pr_nil) ?_; obtain ⟨q19, hF⟩ := ck_some hF; refine y_pure st.d dw (fun hm vw => v_sub q19 pr_nil) ?_; obtain ⟨n20, x20, z20, l20, g20, hF⟩ := ix_some hF; obtain ⟨b20, o20, s20, j20, r20, e20, f20, k20, ⟨_, _, rfl, rfl, ⟨_, _, rfl, rfl, rfl⟩⟩⟩ := RowF.get ra0 g20; refine y_pure st.d dw (fun hm vw => v_ixp e20 z20 l20 pr_nil) ?_; refine y_pure st.d dw (fun hm vw => v_ldn (vw.fz st (le2 _ _ f20)) k20 pr_nil) ?_
      refine y_pure st.d dw (fun hm vw => v_move pr_nil) ?_; refine y_pure st.d dw (fun hm vw => v_move pr_nil) ?_; obtain ⟨n21, x21, z21, l21, g21, hF⟩ := ix_some hF; obtain ⟨b21, o21, s21, j21, r21, e21, f21, k21, ⟨_, _, rfl, rfl, ⟨_, _, rfl, rfl, rfl⟩⟩⟩ := RowF.get ra0 g21; refine y_pure st.d dw (fun hm vw => v_ixp e21 z21 l21 pr_nil) ?_; refine y_pure st.d dw (fun hm vw => v_ldn (vw.fz st (le2 _ _ f21)) k21 pr_nil) ?_; refine y_end st.d dw rfl (fun h22 ex vs => ?_)
      have st := st.ext1 ex
      obtain ⟨v23, e24, hF⟩ := bnd_some hF; refine v_call st (ct102 N e24 st.d st.sub ) (fun n25 st => ?_); refine v_not ?_; refine r_nil ?_; refine th_n ?_; refine v_cond (fun hb26 => ?_) (fun hb26 => ?_)
      · have hF := bif_t hb26 hF; refine w_seq ?_; refine w_reg ?_; refine v_move ?_; refine r_nil ?_; refine th_n ?_; refine w_ret ?_; refine ib_r ?_; refine th_r ?_; refine th_r ?_; refine ⟨_, (inj hF).symm, .inl ⟨_, rfl, rfl, rfl, ?_⟩⟩; dsimp only
        exact ⟨F2, rfl, le2, st, gA⟩
      · have hF := bif_f hb26 hF; refine w_skip ?_; refine ib_n ?_; refine th_n ?_; refine w_reg ?_; refine v_move ?_; obtain ⟨q27, hF⟩ := ck_some hF; refine v_add q27 ?_; refine v_move ?_; refine r_nil ?_; refine thn ⟨_, (inj hF).symm, rfl, ?_⟩; dsimp only
        exact ⟨F2, rfl, le2, st, gA, gA, gA⟩
    · have hF := bif_f hb18 hF; refine w_exit ?_; refine th_e ?_; refine th_e ?_; refine ⟨_, (inj hF).symm, .inr (⟨_, rfl, rfl, rfl, ?_⟩)⟩; dsimp only
      exact ⟨F2, rfl, le2, st⟩
  · rcases hq with hq | hq
    · obtain ⟨N9, T, ds15⟩ := a; obtain ⟨h28, n29⟩ := σ; obtain ⟨w14, rfl, rfl, e1, F15, e2, le15, st, t4⟩ := hq
      dsimp only at e1 e2
      subst e1
      subst e2
      dsimp only at st t4
      have hF := sel_l hF; refine ib_r ?_; refine th_r ?_; obtain rfl := inj hF
      exact end_s st (Res.t gA Res.nil) rfl rfl
    · obtain ⟨N9, T, ds17⟩ := a; obtain ⟨h30, n31⟩ := σ; obtain ⟨w16, rfl, rfl, e1, F17, e2, le17, st⟩ := hq
      dsimp only at e1 e2
      subst e1
      subst e2
      dsimp only at st
      have hF := sel_r hF; refine ib_e ?_; refine th_n ?_; refine w_seq ?_; refine w_reg ?_; refine v_move ?_; refine r_nil ?_; refine th_n ?_; refine w_ret ?_; obtain rfl := inj hF
      exact end_s st (Res.t gA Res.nil) rfl rfl
theorem ct84 (N : Nat) {a1_0 : Int} {a1_1 : (List (Int × Int))} {a1_2 : (List (Int × Int × Int))} {a1_3 : Int} {r : ((List Int) × (List Int))} (hF : sf84 N a1_0 a1_1 a1_2 a1_3 = some r) {fl : Nat} {h0 : Tr HBlk} {n0 : Nat} {F0 : PH} (hd : D h0 n0) (hs : F0.sub h0) (hfl : fl ≤ n0) {pa1_1 : Option (Nat × Nat)} {ca1_1 : Nat} {pa1_2 : Option (Nat × Nat)} {ca1_2 : Nat} (ra1_1 : RowF (rP rI rI) 2 F0 pa1_1 ca1_1 a1_1) (ra1_2 : RowF (rP rI (rP rI rI)) 3 F0 pa1_2 ca1_2 a1_2) : C LW fl 84 [(.agg [(.func 105 [] [])]), (.agg [(i64 a1_0), (.slice pa1_1 (a1_1).length ca1_1), (.slice pa1_2 (a1_2).length ca1_2), (i64 a1_3)])] ⟨h0, n0⟩ (KR (rvA (rP (rL rI 1) (rL rI 1))) F0 h0 n0 r) := by
  unfold sf84 at hF
  refine in_mT hd hs hfl lw84 rfl rfl (by rfl) (fun st T hT => ?_)
  have t0 := hT 0 _ rfl
  have t1 := hT 1 _ rfl
  dsimp only [L84]
  refine w_seq ?_; refine w_reg ?_; refine v_box st (fun b1 h2 n3 st => ?_); refine v_box st (fun b4 h5 n6 st => ?_); refine v_alloc st (fun b7 h8 n9 st => ?_); refine r_nil ?_; refine th_n ?_; refine w_seq ?_; refine w_reg ?_; refine v_alloc st (fun b10 h11 n12 st => ?_); refine r_nil ?_; refine th_n ?_; refine w_seq ?_; refine w_seq ?_; refine w_reg ?_; refine v_fa ?_; refine v_ld1 (st.at (i := 1) rfl).2.2 rfl ?_; refine v_len ?_; refine v_move ?_; refine r_nil ?_; refine th_n ?_; refine w_block ?_
  have st := st.nilL 1
  have w34 : LR rI 1 F0 ([] : List Int) [] := LR.nil
  obtain ⟨y52, hy, hF⟩ := bnd_some hF; refine v_loopD (sf84_L1 N a1_1) (fun x36 T ds37 h nx => ∃ (F37 : PH) (o38 : Option Nat) (c38 : Nat) (cs38 : List HV), ds37 = [] ∧ PH.le F0 F37 ∧ St n0 h0 F0 F37 h nx [.bx b1 [(.func 105 [] [])], .bx b4 [(i64 a1_0), (.slice pa1_1 (a1_1).length ca1_1), (.slice pa1_2 (a1_2).length ca1_2), (i64 a1_3)], .bx b7 [(.slice none 0 0), (.slice none 0 0)], .bx b10 [(slv o38 (x36.2).length c38), (.slice none 0 0)], .ls o38 c38 cs38 1] ∧ LR rI 1 F37 x36.2 cs38 ∧ T.get 2 = some (.ptr (some (b1, 0))) ∧ T.get 3 = some (.ptr (some (b4, 0))) ∧ T.get 4 = some (.ptr (some (b7, 0))) ∧ T.get 5 = some (.ptr (some (b10, 0))) ∧ T.get 11 = some (.slice pa1_1 (a1_1).length ca1_1) ∧ T.get 12 = some (i64 ((a1_1).length : Int)) ∧ T.get 13 = some (i64 x36.1)) (fun y e a σ => e = .exit 0 ∧ a.nt = 46 ∧ ∃ (F53 : PH) (o54 : Option Nat) (c54 : Nat) (cs54 : List HV), a.defers = [] ∧ PH.le F0 F53 ∧ St n0 h0 F0 F53 σ.h σ.nx [.bx b1 [(.func 105 [] [])], .bx b4 [(i64 a1_0), (.slice pa1_1 (a1_1).length ca1_1), (.slice pa1_2 (a1_2).length ca1_2), (i64 a1_3)], .bx b7 [(.slice none 0 0), (.slice none 0 0)], .bx b10 [(slv o54 (y).length c54), (.slice none 0 0)], .ls o54 c54 cs54 1] ∧ LR rI 1 F53 y cs54 ∧ a.tmps.get 2 = some (.ptr (some (b1, 0))) ∧ a.tmps.get 3 = some (.ptr (some (b4, 0))) ∧ a.tmps.get 4 = some (.ptr (some (b7, 0))) ∧ a.tmps.get 5 = some (.ptr (some (b10, 0)))) (fun x36 T ds37 h nx s hp hF => ?_) N _ y52 _ _ _ _ hy ⟨F0, none, 0, [], rfl, (PH.le.refl _), st, w34, gA, gA, gA, gA, gA, gA, gA⟩ (fun e a σ hne hq => ?_)
  · obtain ⟨F37, o38, c38, cs38, rfl, le37, st, w38, t2, t3, t4, t5, t11, t12, t13⟩ := hp; unfold sf84_L1 at hF; unfold L84w1; refine w_seq ?_; refine w_reg ?_; refine v_lss ?_; refine r_nil ?_; refine th_n ?_; refine w_seq ?_; refine v_cond (fun hb55 => ?_) (fun hb55 => ?_)
    · have hF := bif_t hb55 hF; refine w_skip ?_; refine th_n ?_; refine w_seq ?_; refine w_block ?_; refine w_seq ?_; refine w_reg ?_; obtain ⟨n56, x56, z56, l56, g56, hF⟩ := ix_some hF; obtain ⟨b56, o56, s56, j56, r56, e56, f56, k56, ⟨_, _, rfl, rfl, rfl⟩⟩ := RowF.get ra1_1 g56; refine v_ixp e56 z56 l56 ?_; refine v_ldn (st.sub _ _ (le37 _ _ f56)) k56 ?_; refine v_alloc st (fun b57 h58 n59 st => ?_); refine v_st (cs' := [(i64 x56.1), (i64 x56.2)]) st 5 rfl rfl rfl rfl hfl (fun h60 st => ?_); refine r_nil ?_; refine th_n ?_; refine w_drawV (Nat.le_trans hfl st.ext.le) (fun dw => ?_)
      have wf := Wf.start st
      refine y_pure st.d dw (fun hm vw => v_fa pr_nil) ?_; refine y_pure st.d dw (fun hm vw => v_ld1 (vw.bx (st.at (i := 3) rfl)) rfl pr_nil) ?_; refine y_pure st.d dw (fun hm vw => v_fa pr_nil) ?_; refine y_pure st.d dw (fun hm vw => v_ld1 (vw.bx (st.at (i := 0) rfl)) rfl pr_nil) ?_; refine y_pure st.d dw (fun hm vw => v_ldn (vs := [(i64 x56.1), (i64 x56.2)]) (vw.bx (st.at (i := 5) rfl)) rfl pr_nil) ?_; obtain ⟨v61, e62, hF⟩ := bnd_some hF; refine y_flat st.d dw (fun hm vw => u_call (ct105 N e62 vw.d (FF.sub wf st vw) ) (fun n' hn' => pf_nil hn')) (fun n63 hn' dw => ?_); refine y_lay st.d dw (fun hm vw => u_bs (cs := [(i64 v61)]) rfl pr_nil) (fun done dw => ?_)
      have wf := Wf.lay wf (e := (6, one n63 (.cells [(i64 v61)] .exact)))
      refine y_end st.d dw rfl (fun h64 ex vs => ?_)
      have st := St.laid st ex (Lay.cons (b := n63) (cs := [(i64 v61)]) (by have := dw.le; omega) (vs _ (List.mem_cons_self ..) _ _ (if_pos rfl)) (Lay.nil (by have := dw.le; omega)))
      obtain ⟨q65, hF⟩ := ck_some hF
      have w65 : LR rI 1 F37 (x36.2 ++ [v61]) (cs38 ++ [(i64 v61)]) := LR.app w38 (LR.one (rfl))
      refine v_aps (n := 1) (ox := 0) (m := (x36.2 ++ [v61]).length) (row := [(i64 v61)]) st 4 rfl w38.1 (st.at (i := 6) rfl).2.2 rfl rfl q65 hfl (by decide) (by decide) (by simp) (fun o65 c65 h65 n65 st => ?_)
      refine v_fa ?_; refine v_st (cs' := [(slv o65 ((x36.2 ++ [v61])).length c65), (.slice none 0 0)]) st 3 rfl rfl rfl rfl hfl (fun h66 st => ?_); refine r_nil ?_; refine ib_n ?_; refine th_n ?_; refine w_reg ?_; obtain ⟨q67, hF⟩ := ck_some hF; refine v_add q67 ?_; refine v_move ?_; refine r_nil ?_; refine thn ⟨_, (inj hF).symm, rfl, ?_⟩; dsimp only
      exact ⟨F37, o65, c65, (cs38 ++ [(i64 v61)]), rfl, le37, (st.drop (by first | exact List.Sublist.refl _ | (repeat first | exact List.nil_sublist _ | refine List.Sublist.cons_cons _ ?_ | refine List.Sublist.cons _ ?_))), w65, gA, gA, gA, gA, gA, gA, gA⟩
    · have hF := bif_f hb55 hF; refine w_exit ?_; refine th_e ?_; refine th_e ?_; refine ⟨_, (inj hF).symm, rfl, rfl, ?_⟩; dsimp only
      exact ⟨F37, o38, c38, cs38, rfl, le37, st, w38, gA, gA, gA, gA⟩
  · obtain ⟨N9, T, ds53⟩ := a; obtain ⟨h68, n69⟩ := σ; obtain ⟨rfl, e1, F53, o54, c54, cs54, e2, le53, st, w54, t2, t3, t4, t5⟩ := hq
    dsimp only at e1 e2
    subst e1
    subst e2
    dsimp only at st t2 t3 t4 t5
    refine ib_e ?_; refine th_n ?_; refine w_seq ?_; refine w_seq ?_; refine w_reg ?_; refine v_fa ?_; refine v_ld1 (st.at (i := 1) rfl).2.2 rfl ?_; refine v_len ?_; refine v_move ?_; refine r_nil ?_; refine th_n ?_; refine w_block ?_
    have st := st.nilL 1
    have w90 : LR rI 1 F53 ([] : List Int) [] := LR.nil
    obtain ⟨y109, hy, hF⟩ := bnd_some hF; refine v_loopD (sf84_L2 N a1_2) (fun x92 T ds93 h nx => ∃ (F93 : PH) (o94 : Option Nat) (c94 : Nat) (cs94 : List HV), ds93 = [] ∧ PH.le F53 F93 ∧ St n0 h0 F0 F93 h nx [.bx b1 [(.func 105 [] [])], .bx b4 [(i64 a1_0), (.slice pa1_1 (a1_1).length ca1_1), (.slice pa1_2 (a1_2).length ca1_2), (i64 a1_3)], .bx b7 [(.slice none 0 0), (.slice none 0 0)], .bx b10 [(slv o54 (y52).length c54), (slv o94 (x92.2).length c94)], .ls o54 c54 cs54 1, .ls o94 c94 cs94 1] ∧ LR rI 1 F93 x92.2 cs94 ∧ T.get 2 = some (.ptr (some (b1, 0))) ∧ T.get 4 = some (.ptr (some (b7, 0))) ∧ T.get 5 = some (.ptr (some (b10, 0))) ∧ T.get 28 = some (.slice pa1_2 (a1_2).length ca1_2) ∧ T.get 29 = some (i64 ((a1_2).length : Int)) ∧ T.get 30 = some (i64 x92.1)) (fun y e a σ => e = .exit 2 ∧ a.nt = 46 ∧ ∃ (F110 : PH) (o111 : Option Nat) (c111 : Nat) (cs111 : List HV), a.defers = [] ∧ PH.le F53 F110 ∧ St n0 h0 F0 F110 σ.h σ.nx [.bx b1 [(.func 105 [] [])], .bx b4 [(i64 a1_0), (.slice pa1_1 (a1_1).length ca1_1), (.slice pa1_2 (a1_2).length ca1_2), (i64 a1_3)], .bx b7 [(.slice none 0 0), (.slice none 0 0)], .bx b10 [(slv o54 (y52).length c54), (slv o111 (y).length c111)], .ls o54 c54 cs54 1, .ls o111 c111 cs111 1] ∧ LR rI 1 F110 y cs111 ∧ a.tmps.get 4 = some (.ptr (some (b7, 0))) ∧ a.tmps.get 5 = some (.ptr (some (b10, 0)))) (fun x92 T ds93 h nx s hp hF => ?_) N _ y109 _ _ _ _ hy ⟨F53, none, 0, [], rfl, (PH.le.refl _), st, w90, gA, gA, gA, gA, gA, gA⟩ (fun e a σ hne hq => ?_)
    · obtain ⟨F93, o94, c94, cs94, rfl, le93, st, w94, t2, t4, t5, t28, t29, t30⟩ := hp
      have le95 := PH.le.trans le53 le93
      unfold sf84_L2 at hF; unfold L84w0; refine w_seq ?_; refine w_reg ?_; refine v_lss ?_; refine r_nil ?_; refine th_n ?_; refine w_seq ?_; refine v_cond (fun hb112 => ?_) (fun hb112 => ?_)
      · have hF := bif_t hb112 hF; refine w_skip ?_; refine th_n ?_; refine w_seq ?_; refine w_block ?_; refine w_seq ?_; refine w_reg ?_; obtain ⟨n113, x113, z113, l113, g113, hF⟩ := ix_some hF; obtain ⟨b113, o113, s113, j113, r113, e113, f113, k113, ⟨_, _, rfl, rfl, ⟨_, _, rfl, rfl, rfl⟩⟩⟩ := RowF.get ra1_2 g113; refine v_ixp e113 z113 l113 ?_; refine v_ldn (st.sub _ _ (le95 _ _ f113)) k113 ?_; refine v_alloc st (fun b114 h115 n116 st => ?_); refine v_st (cs' := [(i64 x113.1), (i64 x113.2.1), (i64 x113.2.2)]) st 6 rfl rfl rfl rfl hfl (fun h117 st => ?_); refine r_nil ?_; refine th_n ?_; refine w_drawV (Nat.le_trans hfl st.ext.le) (fun dw => ?_)
        have wf := Wf.start st
        refine y_pure st.d dw (fun hm vw => v_fa pr_nil) ?_; refine y_pure st.d dw (fun hm vw => v_ld1 (vw.bx (st.at (i := 3) rfl)) rfl pr_nil) ?_; refine y_pure st.d dw (fun hm vw => v_fa pr_nil) ?_; refine y_pure st.d dw (fun hm vw => v_ld1 (vw.bx (st.at (i := 0) rfl)) rfl pr_nil) ?_; refine y_pure st.d dw (fun hm vw => v_fa pr_nil) ?_; refine y_pure st.d dw (fun hm vw => v_ldn (vs := [(i64 x113.2.1), (i64 x113.2.2)]) (vw.bx (st.at (i := 6) rfl)) rfl pr_nil) ?_; obtain ⟨v118, e119, hF⟩ := bnd_some hF; refine y_flat st.d dw (fun hm vw => u_call (ct105 N e119 vw.d (FF.sub wf st vw) ) (fun n' hn' => pf_nil hn')) (fun n120 hn' dw => ?_); refine y_lay st.d dw (fun hm vw => u_bs (cs := [(i64 v118)]) rfl pr_nil) (fun done dw => ?_)
        have wf := Wf.lay wf (e := (7, one n120 (.cells [(i64 v118)] .exact)))
        refine y_end st.d dw rfl (fun h121 ex vs => ?_)
        have st := St.laid st ex (Lay.cons (b := n120) (cs := [(i64 v118)]) (by have := dw.le; omega) (vs _ (List.mem_cons_self ..) _ _ (if_pos rfl)) (Lay.nil (by have := dw.le; omega)))
        obtain ⟨q122, hF⟩ := ck_some hF
        have w122 : LR rI 1 F93 (x92.2 ++ [v118]) (cs94 ++ [(i64 v118)]) := LR.app w94 (LR.one (rfl))
        refine v_aps (n := 1) (ox := 0) (m := (x92.2 ++ [v118]).length) (row := [(i64 v118)]) st 5 rfl w94.1 (st.at (i := 7) rfl).2.2 rfl rfl q122 hfl (by decide) (by decide) (by simp) (fun o122 c122 h122 n122 st => ?_)
        refine v_fa ?_; refine v_st (cs' := [(slv o54 (y52).length c54), (slv o122 ((x92.2 ++ [v118])).length c122)]) st 3 rfl rfl rfl rfl hfl (fun h123 st => ?_); refine r_nil ?_; refine ib_n ?_; refine th_n ?_; refine w_reg ?_; obtain ⟨q124, hF⟩ := ck_some hF; refine v_add q124 ?_; refine v_move ?_; refine r_nil ?_; refine thn ⟨_, (inj hF).symm, rfl, ?_⟩; dsimp only
        exact ⟨F93, o122, c122, (cs94 ++ [(i64 v118)]), rfl, le93, (st.drop (by first | exact List.Sublist.refl _ | (repeat first | exact List.nil_sublist _ | refine List.Sublist.cons_cons _ ?_ | refine List.Sublist.cons _ ?_))), w122, gA, gA, gA, gA, gA, gA⟩
      · have hF := bif_f hb112 hF; refine w_exit ?_; refine th_e ?_; refine th_e ?_; refine ⟨_, (inj hF).symm, rfl, rfl, ?_⟩; dsimp only
        exact ⟨F93, o94, c94, cs94, rfl, le93, st, w94, gA, gA⟩
    · obtain ⟨N9, T, ds110⟩ := a; obtain ⟨h126, n127⟩ := σ; obtain ⟨rfl, e1, F110, o111, c111, cs111, e2, le110, st, w111, t4, t5⟩ := hq
      dsimp only at e1 e2
      subst e1
      subst e2
      dsimp only at st t4 t5
      have le125 := PH.le.trans le53 le110
      refine ib_e ?_; refine th_n ?_; refine w_seq ?_; refine w_reg ?_; refine v_ldn (vs := [(slv o54 (y52).length c54), (slv o111 (y109).length c111)]) (st.at (i := 3) rfl).2.2 rfl ?_; refine v_st (cs' := [(slv o54 (y52).length c54), (slv o111 (y109).length c111)]) st 2 rfl rfl rfl rfl hfl (fun h128 st => ?_); refine r_nil ?_; refine th_n ?_; refine w_ret ?_; obtain rfl := inj hF
      obtain ⟨F129, le129, st, rf129⟩ := St.freeze st 4 rfl (LR.mono le110 w54) (by decide)
      have le130 := PH.le.trans le125 le129
      have le131 := PH.le.trans le110 le129
      obtain ⟨F132, le132, st, rf132⟩ := St.freeze st 4 rfl (LR.mono le129 w111) (by decide)
      have le133 := PH.le.trans le130 le132
      have le134 := PH.le.trans le131 le132
      have le135 := PH.le.trans le129 le132
      exact end_r st (Res.c gA (st.at (i := 2) rfl).2.2 (show takeN _ _ = some [(.slice (o54.map fun b => (b, 0)) (y52).length c54), (.slice (o111.map fun b => (b, 0)) (y109).length c111)] from rfl) Res.nil) ⟨_, rfl, ⟨[(.slice (o54.map fun b => (b, 0)) (y52).length c54)], [(.slice (o111.map fun b => (b, 0)) (y109).length c111)], rfl, ⟨_, _, rfl, (RowF.mono le132 rf129)⟩, ⟨_, _, rfl, rf132⟩⟩⟩
end Go.Hx.V

/- Functions of the program come to that. -/
namespace Go.Hx.V
open Go.Hx
set_option linter.unusedVariables false
set_option maxRecDepth 20000
set_option maxHeartbeats 4000000
attribute [local irreducible] W R C thenH inBlockH Tr.get Tr.set lo
end Go.Hx.V

/- Functions of the program come to that. -/
namespace Go.Hx.V
open Go.Hx
set_option linter.unusedVariables false
set_option maxRecDepth 20000
set_option maxHeartbeats 4000000
attribute [local irreducible] W R C thenH inBlockH Tr.get Tr.set lo
theorem ct53 (N : Nat) {a0_0 : Int} {a0_1 : (List (Int × Int))} {a0_2 : (List (Int × Int × Int))} {a0_3 : Int} {a1_0 : (List Int)} {a1_1 : (List Int)} {r : (List Int)} (hF : sf53 N a0_0 a0_1 a0_2 a0_3 a1_0 a1_1 = some r) {fl : Nat} {h0 : Tr HBlk} {n0 : Nat} {F0 : PH} (hd : D h0 n0) (hs : F0.sub h0) (hfl : fl ≤ n0) {pa0_1 : Option (Nat × Nat)} {ca0_1 : Nat} {pa0_2 : Option (Nat × Nat)} {ca0_2 : Nat} {pa1_0 : Option (Nat × Nat)} {ca1_0 : Nat} {pa1_1 : Option (Nat × Nat)} {ca1_1 : Nat} (ra0_1 : RowF (rP rI rI) 2 F0 pa0_1 ca0_1 a0_1) (ra0_2 : RowF (rP rI (rP rI rI)) 3 F0 pa0_2 ca0_2 a0_2) (ra1_0 : RowF rI 1 F0 pa1_0 ca1_0 a1_0) (ra1_1 : RowF rI 1 F0 pa1_1 ca1_1 a1_1) : C LW fl 53 [(.agg [(i64 a0_0), (.slice pa0_1 (a0_1).length ca0_1), (.slice pa0_2 (a0_2).length ca0_2), (i64 a0_3)]), (.agg [(.slice pa1_0 (a1_0).length ca1_0), (.slice pa1_1 (a1_1).length ca1_1)])] ⟨h0, n0⟩ (KR (lvL rI 1) F0 h0 n0 r) := by
  unfold sf53 at hF
  refine in_mT hd hs hfl lw53 rfl rfl (by rfl) (fun st T hT => ?_)
  have t0 := hT 0 _ rfl
  have t1 := hT 1 _ rfl
  dsimp only [L53]
  have st := st.mk0
  refine w_seq ?_; refine w_reg ?_; refine v_box st (fun b1 h2 n3 st => ?_); refine v_box st (fun b4 h5 n6 st => ?_); refine v_move ?_; refine r_nil ?_; refine th_n ?_; refine w_seq ?_; refine w_reg ?_; refine v_fa ?_; refine v_ld1 (st.at (i := 1) rfl).2.2 rfl ?_; obtain ⟨q7, hF⟩ := ck_some hF; refine v_add q7 ?_; obtain ⟨q8, hF⟩ := ck_some hF
  have w8 : LR rI 1 F0 (List.replicate (Int.toNat (1 : Int)) 0) (Go.Hx.repl (Int.toNat (1 : Int)) [(i64 (0 : Int))]) := LR.repl (rfl) _
  refine v_mk st (n := (List.replicate (Int.toNat (1 : Int)) 0).length) q8.1 q8.2.1 (by simp) q8.2.2.1 q8.2.2.2 (fun o8 h8 n8 st => ?_)
  refine v_alloc st (fun b9 h10 n11 st => ?_); refine v_st (cs' := [(slv o8 ((List.replicate (Int.toNat (1 : Int)) 0)).length (Int.toNat (a0_3 + (1 : Int))))]) st 4 rfl rfl rfl rfl hfl (fun h12 st => ?_); refine r_nil ?_; refine th_n ?_; refine w_seq ?_; refine w_reg ?_; refine v_alloc st (fun b13 h14 n15 st => ?_); refine v_st (cs' := [(i64 (0 : Int))]) st 5 rfl rfl rfl rfl hfl (fun h16 st => ?_); refine r_nil ?_; refine th_n ?_; refine w_seq ?_; refine w_seq ?_; refine w_reg ?_; refine v_move ?_; refine r_nil ?_; refine th_n ?_; refine w_block ?_; obtain ⟨y88, hy, hF⟩ := bnd_some hF; refine v_loopD (sf53_L2 N a0_0 a0_1 a0_2 a0_3 a1_0 a1_1) (fun x17 T ds18 h nx => ∃ (F18 : PH) (o19 : Option Nat) (c19 : Nat) (cs19 : List HV), PH.le F0 F18 ∧ St n0 h0 F0 F18 h nx [.mks ds18, .bx b1 [(i64 a0_0), (.slice pa0_1 (a0_1).length ca0_1), (.slice pa0_2 (a0_2).length ca0_2), (i64 a0_3)], .bx b4 [(.slice pa1_0 (a1_0).length ca1_0), (.slice pa1_1 (a1_1).length ca1_1)], .ls o19 c19 cs19 1, .bx b9 [(slv o19 (x17.2.2).length c19)], .bx b13 [(i64 x17.2.1)]] ∧ LR rI 1 F18 x17.2.2 cs19 ∧ T.get 2 = some (.ptr (some (b1, 0))) ∧ T.get 3 = some (.ptr (some (b4, 0))) ∧ T.get 4 = some (.slice none 0 0) ∧ T.get 5 = some (.ptr (some (b9, 0))) ∧ T.get 6 = some (.ptr (some (b13, 0))) ∧ T.get 7 = some (i64 x17.1)) (fun y e a σ => e = .exit 0 ∧ a.nt = 51 ∧ ∃ (F89 : PH) (o90 : Option Nat) (c90 : Nat) (cs90 : List HV), PH.le F0 F89 ∧ St n0 h0 F0 F89 σ.h σ.nx [.mks a.defers, .bx b1 [(i64 a0_0), (.slice pa0_1 (a0_1).length ca0_1), (.slice pa0_2 (a0_2).length ca0_2), (i64 a0_3)], .bx b4 [(.slice pa1_0 (a1_0).length ca1_0), (.slice pa1_1 (a1_1).length ca1_1)], .ls o90 c90 cs90 1, .bx b9 [(slv o90 (y.2).length c90)], .bx b13 [(i64 y.1)]] ∧ LR rI 1 F89 y.2 cs90 ∧ a.tmps.get 5 = some (.ptr (some (b9, 0)))) (fun x17 T ds18 h nx s hp hF => ?_) N _ y88 _ _ _ _ hy ⟨F0, o8, (Int.toNat (a0_3 + (1 : Int))), (Go.Hx.repl (Int.toNat (1 : Int)) [(i64 (0 : Int))]), (PH.le.refl _), st, w8, gA, gA, gA, gA, gA, gA⟩ (fun e a σ hne hq => ?_)
  · obtain ⟨F18, o19, c19, cs19, le18, st, w19, t2, t3, t4, t5, t6, t7⟩ := hp; unfold sf53_L2 at hF; unfold L53w0; refine w_seq ?_; refine w_seq ?_; refine w_reg ?_; refine v_move ?_; refine v_fa ?_; refine v_ld1 (st.at (i := 1) rfl).2.2 rfl ?_; refine v_lss ?_; refine r_nil ?_; refine th_n ?_; refine v_cond (fun hb91 => ?_) (fun hb91 => ?_)
    · have hF := bif_t hb91 hF; refine w_skip ?_; refine th_n ?_; refine w_seq ?_; refine w_block ?_; refine w_seq ?_; refine w_reg ?_; refine v_ldn (vs := [(i64 a0_0), (.slice pa0_1 (a0_1).length ca0_1), (.slice pa0_2 (a0_2).length ca0_2), (i64 a0_3)]) (st.at (i := 1) rfl).2.2 rfl ?_; refine v_move ?_; refine v_inl lw81 rfl rfl (fun T hT => ?_)
      have t0 := hT 0 _ rfl
      have t1 := hT 1 _ rfl
      dsimp only [L81]
      refine w_seq ?_; refine w_reg ?_; refine v_box st (fun b93 h94 n95 st => ?_); refine v_box st (fun b96 h97 n98 st => ?_); refine v_move ?_; refine r_nil ?_; refine th_n ?_; refine w_seq ?_; refine w_reg ?_; refine v_mf ?_; refine v_move ?_; refine r_nil ?_; refine th_n ?_; refine w_ret ?_; refine inl_end (v := (.func 104 [] [(.ptr (some (b93, 0))), (.ptr (some (b96, 0)))])) (Res.t gA Res.nil) rfl (.inl rfl) (ik ?_); refine r_nil ?_; refine th_n ?_; refine w_block ?_; refine w_rangeV st 0 rfl hfl lw104 rfl rfl (fun l => rfl) (fun m99 l99 r99 T h99 n99 rs99 rp99 rn99 rT99 ro99 ra99 rb99 st hT => ?_); obtain ⟨T99, rt99⟩ : ∃ X, X = r99.tmps := ⟨_, rfl⟩
      have u99_2 : T99.get 2 = some (.ptr (some (b1, 0))) := by rw [rt99, rT99]; repeat first | exact ge_h | refine ge_w rfl ?_ | refine ge_f rfl ?_ | refine ge_m rfl ?_ | assumption
      have u99_3 : T99.get 3 = some (.ptr (some (b4, 0))) := by rw [rt99, rT99]; repeat first | exact ge_h | refine ge_w rfl ?_ | refine ge_f rfl ?_ | refine ge_m rfl ?_ | assumption
      have u99_5 : T99.get 5 = some (.ptr (some (b9, 0))) := by rw [rt99, rT99]; repeat first | exact ge_h | refine ge_w rfl ?_ | refine ge_f rfl ?_ | refine ge_m rfl ?_ | assumption
      have u99_6 : T99.get 6 = some (.ptr (some (b13, 0))) := by rw [rt99, rT99]; repeat first | exact ge_h | refine ge_w rfl ?_ | refine ge_f rfl ?_ | refine ge_m rfl ?_ | assumption
      have t0 := hT 0 _ rfl
      have t1 := hT 1 _ rfl
      have t2 := hT 2 _ rfl
      dsimp only [L104]
      refine w_seq ?_; refine w_reg ?_; refine v_fa ?_; refine v_ld1 (st.at (i := 6) rfl).2.2 rfl ?_; refine v_len ?_; refine v_move ?_; refine r_nil ?_; refine th_n ?_; refine w_block ?_; obtain ⟨y124, hy, hF⟩ := bnd_some hF; refine v_loopD (sf53_L1 N a0_0 a0_1 a0_2 a0_3 a1_0 a1_1 x17) (fun x100 T ds101 h nx => ∃ (F101 : PH) (o102 : Option Nat) (c102 : Nat) (cs102 : List HV), ds101 = [] ∧ PH.le F18 F101 ∧ St n0 h0 F0 F101 h nx [.mks (m99 :: ds18), .bx b1 [(i64 a0_0), (.slice pa0_1 (a0_1).length ca0_1), (.slice pa0_2 (a0_2).length ca0_2), (i64 a0_3)], .bx b4 [(.slice pa1_0 (a1_0).length ca1_0), (.slice pa1_1 (a1_1).length ca1_1)], .ls o102 c102 cs102 1, .bx b9 [(slv o102 (x100.2.2).length c102)], .bx b13 [(i64 x100.2.1)], .bx b93 [(i64 a0_0), (.slice pa0_1 (a0_1).length ca0_1), (.slice pa0_2 (a0_2).length ca0_2), (i64 a0_3)], .bx b96 [(i64 x17.1)], .any l99 (.loop r99)] ∧ LR rI 1 F101 x100.2.2 cs102 ∧ T.get 0 = some (.yield l99) ∧ T.get 1 = some (.ptr (some (b93, 0))) ∧ T.get 2 = some (.ptr (some (b96, 0))) ∧ T.get 8 = some (i64 ((a0_1).length : Int)) ∧ T.get 9 = some (i64 x100.1)) (fun y e a σ => (∃ u, y = (.inl u) ∧ e = .ret ∧ a.nt = 27 ∧ ∃ (F126 : PH) (o127 : Option Nat) (c127 : Nat) (cs127 : List HV), a.defers = [] ∧ PH.le F18 F126 ∧ St n0 h0 F0 F126 σ.h σ.nx [.mks (m99 :: ds18), .bx b1 [(i64 a0_0), (.slice pa0_1 (a0_1).length ca0_1), (.slice pa0_2 (a0_2).length ca0_2), (i64 a0_3)], .bx b4 [(.slice pa1_0 (a1_0).length ca1_0), (.slice pa1_1 (a1_1).length ca1_1)], .ls o127 c127 cs127 1, .bx b9 [(slv o127 (u.2).length c127)], .bx b13 [(i64 u.1)], .bx b93 [(i64 a0_0), (.slice pa0_1 (a0_1).length ca0_1), (.slice pa0_2 (a0_2).length ca0_2), (i64 a0_3)], .bx b96 [(i64 x17.1)], .any l99 (.loop r99)] ∧ LR rI 1 F126 u.2 cs127) ∨ (∃ u, y = (.inr u) ∧ e = .exit 0 ∧ a.nt = 27 ∧ ∃ (F129 : PH) (o130 : Option Nat) (c130 : Nat) (cs130 : List HV), a.defers = [] ∧ PH.le F18 F129 ∧ St n0 h0 F0 F129 σ.h σ.nx [.mks (m99 :: ds18), .bx b1 [(i64 a0_0), (.slice pa0_1 (a0_1).length ca0_1), (.slice pa0_2 (a0_2).length ca0_2), (i64 a0_3)], .bx b4 [(.slice pa1_0 (a1_0).length ca1_0), (.slice pa1_1 (a1_1).length ca1_1)], .ls o130 c130 cs130 1, .bx b9 [(slv o130 (u.2).length c130)], .bx b13 [(i64 u.1)], .bx b93 [(i64 a0_0), (.slice pa0_1 (a0_1).length ca0_1), (.slice pa0_2 (a0_2).length ca0_2), (i64 a0_3)], .bx b96 [(i64 x17.1)], .any l99 (.loop r99)] ∧ LR rI 1 F129 u.2 cs130)) (fun x100 T ds101 h nx s hp hF => ?_) N _ y124 _ _ _ _ hy ⟨F18, o19, c19, cs19, rfl, (PH.le.refl _), st, w19, gA, gA, gA, gA, gA⟩ (fun e a σ hne hq => ?_)
      · obtain ⟨F101, o102, c102, cs102, rfl, le101, st, w102, t0, t1, t2, t8, t9⟩ := hp
        have le103 := PH.le.trans le18 le101
        unfold sf53_L1 at hF; unfold L104w0; refine w_seq ?_; refine w_reg ?_; refine v_lss ?_; refine r_nil ?_; refine th_n ?_; refine w_seq ?_; refine v_cond (fun hb131 => ?_) (fun hb131 => ?_)
        · have hF := bif_t hb131 hF; refine w_skip ?_; refine th_n ?_; refine w_seq ?_; refine w_block ?_; refine w_seq ?_; refine w_reg ?_; refine v_move ?_; refine v_move ?_; refine r_nil ?_; refine th_n ?_; refine w_seq ?_; refine w_reg ?_; refine v_ld1 (st.at (i := 7) rfl).2.2 rfl ?_; refine v_move ?_; obtain ⟨q132, hF⟩ := ck_some hF; refine v_add q132 ?_; refine v_move ?_; refine r_nil ?_; refine th_n ?_; refine w_seq ?_; refine w_reg ?_; refine v_move ?_; refine v_fa ?_; refine v_ld1 (st.at (i := 6) rfl).2.2 rfl ?_; refine v_eqi ?_; refine v_move ?_
          rcases Bool.eq_false_or_eq_true (decide ((x17.1 + x100.1) = a0_3)) with hb133 | hb133
          · have hF := bif_t hb133 hF; refine g_skip hb133 ?_; refine g_skip hb133 ?_; refine g_skip hb133 ?_; refine g_skip hb133 ?_; refine g_skip hb133 ?_; refine v_pick hb133 ?_; refine r_nil ?_; refine th_n ?_; refine v_ct ?_; refine w_ret ?_; refine ib_r ?_; refine th_r ?_; refine th_r ?_; refine ⟨_, (inj hF).symm, .inl ⟨_, rfl, rfl, rfl, ?_⟩⟩; dsimp only
            exact ⟨F101, o102, c102, cs102, rfl, le101, st, w102⟩
          · have hF := bif_f hb133 hF; refine g_take hb133 (v_move ?_); refine g_take hb133 (v_move ?_); refine g_take hb133 (v_move ?_); refine g_take hb133 (v_yield (Tc := T99) (tmps := ((T99.set 26 (some (i64 x100.1))).set 27 (some (i64 (x17.1 + x100.1))))) st 8 rfl rn99 rt99.symm ro99 ra99 rb99 (fun hz => ?_) rfl); refine w_seq ?_; refine w_reg ?_; refine v_move ?_; refine r_nil ?_; refine th_n ?_; refine w_reg ?_; refine v_move ?_; refine r_nil ?_; refine ya_n st 8 rfl rs99 hfl (fun h st => ?_); refine w_block ?_; refine w_seq ?_; refine w_drawV (Nat.le_trans hfl st.ext.le) (fun dw => ?_); refine y_pure st.d dw (fun hm vw => v_ld1 (vw.bx (st.at (i := 5) rfl)) rfl pr_nil) ?_; refine y_pure st.d dw (fun hm vw => v_fa pr_nil) ?_
            refine y_pure st.d dw (fun hm vw => v_ld1 (vw.bx (st.at (i := 1) rfl)) rfl pr_nil) ?_; refine y_pure st.d dw (fun hm vw => v_fa pr_nil) ?_; refine y_pure st.d dw (fun hm vw => v_ld1 (vw.bx (st.at (i := 2) rfl)) rfl pr_nil) ?_; refine y_pure st.d dw (fun hm vw => v_move pr_nil) ?_; obtain ⟨n134, x134, z134, l134, g134, hF⟩ := ix_some hF; obtain ⟨b134, o134, s134, j134, r134, e134, f134, k134, rfl⟩ := RowF.get ra1_0 g134; refine y_pure st.d dw (fun hm vw => v_ixp e134 z134 l134 pr_nil) ?_; refine y_pure st.d dw (fun hm vw => v_ld1 (vw.fz st (le103 _ _ f134)) (take_at (j := 0) k134 rfl) pr_nil) ?_; obtain ⟨q135, hF⟩ := ck_some hF; refine y_pure st.d dw (fun hm vw => v_add q135 pr_nil) ?_
            refine y_pure st.d dw (fun hm vw => v_fa pr_nil) ?_; refine y_pure st.d dw (fun hm vw => v_ld1 (vw.bx (st.at (i := 2) rfl)) rfl pr_nil) ?_; refine y_pure st.d dw (fun hm vw => v_ldn (vs := [(i64 a0_0), (.slice pa0_1 (a0_1).length ca0_1), (.slice pa0_2 (a0_2).length ca0_2), (i64 a0_3)]) (vw.bx (st.at (i := 1) rfl)) rfl pr_nil) ?_; refine y_pure st.d dw (fun hm vw => v_move pr_nil) ?_; obtain ⟨v136, e137, hF⟩ := bnd_some hF; refine y_flat st.d dw (fun hm vw => u_call (ct82 N e137 vw.d (vw.sub st) (RowF.mono le103 ra0_1) (RowF.mono le103 ra0_2)) (fun n' hn' => pf_nil hn')) (fun n138 hn' dw => ?_); obtain ⟨n139, x139, z139, l139, g139, hF⟩ := ix_some hF; obtain ⟨b139, o139, s139, j139, r139, e139, f139, k139, rfl⟩ := RowF.get ra1_1 g139
            refine y_pure st.d dw (fun hm vw => v_ixp e139 z139 l139 pr_nil) ?_; refine y_pure st.d dw (fun hm vw => v_ld1 (vw.fz st (le103 _ _ f139)) (take_at (j := 0) k139 rfl) pr_nil) ?_; refine y_end st.d dw rfl (fun h140 ex vs => ?_)
            have st := st.ext1 ex
            obtain ⟨q141, hF⟩ := ck_some hF; refine v_add q141 ?_; obtain ⟨q142, hF⟩ := ck_some hF; refine v_add q142 ?_; refine v_st (cs' := [(i64 (x100.2.1 + ((a0_0 + x134) + x139)))]) st 5 rfl rfl rfl rfl hfl (fun h143 st => ?_); refine r_nil ?_; refine th_n ?_; refine w_reg ?_; refine v_ld1 (st.at (i := 4) rfl).2.2 rfl ?_; refine v_ld1 (st.at (i := 5) rfl).2.2 rfl ?_; refine v_bs (cs := [(i64 (x100.2.1 + ((a0_0 + x134) + x139)))]) st rfl (fun b144 h145 n146 st => ?_); obtain ⟨q147, hF⟩ := ck_some hF
            have w147 : LR rI 1 F101 (x100.2.2 ++ [(x100.2.1 + ((a0_0 + x134) + x139))]) (cs102 ++ [(i64 (x100.2.1 + ((a0_0 + x134) + x139)))]) := LR.app w102 (LR.one (rfl))
            refine v_aps (n := 1) (ox := 0) (m := (x100.2.2 ++ [(x100.2.1 + ((a0_0 + x134) + x139))]).length) (row := [(i64 (x100.2.1 + ((a0_0 + x134) + x139)))]) st 3 rfl w102.1 (st.at (i := 9) rfl).2.2 rfl rfl q147 hfl (by decide) (by decide) (by simp) (fun o147 c147 h147 n147 st => ?_)
            refine v_st (cs' := [(slv o147 ((x100.2.2 ++ [(x100.2.1 + ((a0_0 + x134) + x139))])).length c147)]) st 4 rfl rfl rfl rfl hfl (fun h148 st => ?_); refine r_nil ?_; refine ib_n ?_; refine yb_n st 8 rfl rs99 rp99 (fun h st => ?_); refine g_take hb133 (v_not ?_); refine v_pick' hb133 ?_; refine r_nil ?_; refine th_n ?_; refine v_cond (fun hq149 => ?_) (fun hq149 => ?_)
            · exact absurd hq149 (by rw [(congrArg (!·) rfl)]; decide)
            · refine w_skip ?_; refine ib_n ?_; refine th_n ?_; refine w_reg ?_; obtain ⟨q150, hF⟩ := ck_some hF; refine v_add q150 ?_; refine v_move ?_; refine r_nil ?_; refine thn ⟨_, (inj hF).symm, rfl, ?_⟩; dsimp only
              exact ⟨F101, o147, c147, (cs102 ++ [(i64 (x100.2.1 + ((a0_0 + x134) + x139)))]), rfl, le101, (st.drop (by first | exact List.Sublist.refl _ | (repeat first | exact List.nil_sublist _ | refine List.Sublist.cons_cons _ ?_ | refine List.Sublist.cons _ ?_))), w147, gA, gA, gA, gA, gA⟩
        · have hF := bif_f hb131 hF; refine w_exit ?_; refine th_e ?_; refine th_e ?_; refine ⟨_, (inj hF).symm, .inr (⟨_, rfl, rfl, rfl, ?_⟩)⟩; dsimp only
          exact ⟨F101, o102, c102, cs102, rfl, le101, st, w102⟩
      · rcases hq with hq | hq
        · obtain ⟨N9, T, ds126⟩ := a; obtain ⟨h152, n153⟩ := σ; obtain ⟨w125, rfl, rfl, e1, F126, o127, c127, cs127, e2, le126, st, w127⟩ := hq
          dsimp only at e1 e2
          subst e1
          subst e2
          dsimp only at st
          have le151 := PH.le.trans le18 le126
          have hF := sel_l hF; refine ib_r ?_
          refine range_end st 8 rfl (by rw [rs99]; exact fun e => by cases e) rp99 hfl (.inl rfl) (fun h st => ?_)
          have st := st.drop (List.eraseIdx_sublist _ 8)
          refine ib_n ?_; refine ib_n ?_; refine th_n ?_; refine w_reg ?_; refine v_move ?_; refine v_fa ?_; refine v_ld1 (st.at (i := 1) rfl).2.2 rfl ?_; refine v_len ?_; obtain ⟨q154, hF⟩ := ck_some hF; refine v_add q154 ?_; refine v_move ?_; refine r_nil ?_; refine thn ⟨_, (inj hF).symm, rfl, ?_⟩; dsimp only
          exact ⟨F126, o127, c127, cs127, le151, (st.drop (by first | exact List.Sublist.refl _ | (repeat first | exact List.nil_sublist _ | refine List.Sublist.cons_cons _ ?_ | refine List.Sublist.cons _ ?_))), w127, gA, gA, gA, gA, gA, gA⟩
        · obtain ⟨N9, T, ds129⟩ := a; obtain ⟨h156, n157⟩ := σ; obtain ⟨w128, rfl, rfl, e1, F129, o130, c130, cs130, e2, le129, st, w130⟩ := hq
          dsimp only at e1 e2
          subst e1
          subst e2
          dsimp only at st
          have le155 := PH.le.trans le18 le129
          have hF := sel_r hF; refine ib_e ?_
          refine range_end st 8 rfl (by rw [rs99]; exact fun e => by cases e) rp99 hfl (.inr rfl) (fun h st => ?_)
          have st := st.drop (List.eraseIdx_sublist _ 8)
          refine ib_n ?_; refine ib_n ?_; refine th_n ?_; refine w_reg ?_; refine v_move ?_; refine v_fa ?_; refine v_ld1 (st.at (i := 1) rfl).2.2 rfl ?_; refine v_len ?_; obtain ⟨q158, hF⟩ := ck_some hF; refine v_add q158 ?_; refine v_move ?_; refine r_nil ?_; refine thn ⟨_, (inj hF).symm, rfl, ?_⟩; dsimp only
          exact ⟨F129, o130, c130, cs130, le155, (st.drop (by first | exact List.Sublist.refl _ | (repeat first | exact List.nil_sublist _ | refine List.Sublist.cons_cons _ ?_ | refine List.Sublist.cons _ ?_))), w130, gA, gA, gA, gA, gA, gA⟩
    · have hF := bif_f hb91 hF; refine w_exit ?_; refine th_e ?_; refine th_e ?_; refine ⟨_, (inj hF).symm, rfl, rfl, ?_⟩; dsimp only
      exact ⟨F18, o19, c19, cs19, le18, st, w19, gA⟩
  · obtain ⟨N9, T, ds89⟩ := a; obtain ⟨h159, n160⟩ := σ; obtain ⟨rfl, e1, F89, o90, c90, cs90, le89, st, w90, t5⟩ := hq
    dsimp only at e1
    subst e1
    dsimp only at st t5
    refine ib_e ?_; refine th_n ?_; refine w_seq ?_; refine w_reg ?_; refine v_ld1 (st.at (i := 4) rfl).2.2 rfl ?_; refine v_move ?_; refine r_nil ?_; refine th_n ?_; refine w_ret ?_; obtain rfl := inj hF
    obtain ⟨F161, le161, st, rf161⟩ := St.freeze st 3 rfl w90 (by decide)
    have le162 := PH.le.trans le89 le161
    exact end_rM st 0 rfl hfl (.inl rfl) [(.slice (o90.map fun b => (b, 0)) (y88.2).length c90)] (fun h st => (Res.t gA Res.nil)) ⟨_, _, rfl, rf161⟩
end Go.Hx.V

/- Functions of the program come to that. -/
namespace Go.Hx.V
open Go.Hx
set_option linter.unusedVariables false
set_option maxRecDepth 20000
set_option maxHeartbeats 4000000
attribute [local irreducible] W R C thenH inBlockH Tr.get Tr.set lo
theorem ct84_2 (N : Nat) {a1_0 : Int} {a1_1 : (List (Int × Int))} {a1_2 : (List (Int × Int × Int))} {a1_3 : Int} {r : ((List Int) × (List Int))} (hF : sf84_2 N a1_0 a1_1 a1_2 a1_3 = some r) {fl : Nat} {h0 : Tr HBlk} {n0 : Nat} {F0 : PH} (hd : D h0 n0) (hs : F0.sub h0) (hfl : fl ≤ n0) {pa1_1 : Option (Nat × Nat)} {ca1_1 : Nat} {pa1_2 : Option (Nat × Nat)} {ca1_2 : Nat} (ra1_1 : RowF (rP rI rI) 2 F0 pa1_1 ca1_1 a1_1) (ra1_2 : RowF (rP rI (rP rI rI)) 3 F0 pa1_2 ca1_2 a1_2) : C LW fl 84 [(.agg [(.func 106 [] [])]), (.agg [(i64 a1_0), (.slice pa1_1 (a1_1).length ca1_1), (.slice pa1_2 (a1_2).length ca1_2), (i64 a1_3)])] ⟨h0, n0⟩ (KR (rvA (rP (rL rI 1) (rL rI 1))) F0 h0 n0 r) := by
  unfold sf84_2 at hF
  refine in_mT hd hs hfl lw84 rfl rfl (by rfl) (fun st T hT => ?_)
  have t0 := hT 0 _ rfl
  have t1 := hT 1 _ rfl
  dsimp only [L84]
  refine w_seq ?_; refine w_reg ?_; refine v_box st (fun b1 h2 n3 st => ?_); refine v_box st (fun b4 h5 n6 st => ?_); refine v_alloc st (fun b7 h8 n9 st => ?_); refine r_nil ?_; refine th_n ?_; refine w_seq ?_; refine w_reg ?_; refine v_alloc st (fun b10 h11 n12 st => ?_); refine r_nil ?_; refine th_n ?_; refine w_seq ?_; refine w_seq ?_; refine w_reg ?_; refine v_fa ?_; refine v_ld1 (st.at (i := 1) rfl).2.2 rfl ?_; refine v_len ?_; refine v_move ?_; refine r_nil ?_; refine th_n ?_; refine w_block ?_
  have st := st.nilL 1
  have w34 : LR rI 1 F0 ([] : List Int) [] := LR.nil
  obtain ⟨y52, hy, hF⟩ := bnd_some hF; refine v_loopD (sf84_2_L1 N a1_1) (fun x36 T ds37 h nx => ∃ (F37 : PH) (o38 : Option Nat) (c38 : Nat) (cs38 : List HV), ds37 = [] ∧ PH.le F0 F37 ∧ St n0 h0 F0 F37 h nx [.bx b1 [(.func 106 [] [])], .bx b4 [(i64 a1_0), (.slice pa1_1 (a1_1).length ca1_1), (.slice pa1_2 (a1_2).length ca1_2), (i64 a1_3)], .bx b7 [(.slice none 0 0), (.slice none 0 0)], .bx b10 [(slv o38 (x36.2).length c38), (.slice none 0 0)], .ls o38 c38 cs38 1] ∧ LR rI 1 F37 x36.2 cs38 ∧ T.get 2 = some (.ptr (some (b1, 0))) ∧ T.get 3 = some (.ptr (some (b4, 0))) ∧ T.get 4 = some (.ptr (some (b7, 0))) ∧ T.get 5 = some (.ptr (some (b10, 0))) ∧ T.get 11 = some (.slice pa1_1 (a1_1).length ca1_1) ∧ T.get 12 = some (i64 ((a1_1).length : Int)) ∧ T.get 13 = some (i64 x36.1)) (fun y e a σ => e = .exit 0 ∧ a.nt = 46 ∧ ∃ (F53 : PH) (o54 : Option Nat) (c54 : Nat) (cs54 : List HV), a.defers = [] ∧ PH.le F0 F53 ∧ St n0 h0 F0 F53 σ.h σ.nx [.bx b1 [(.func 106 [] [])], .bx b4 [(i64 a1_0), (.slice pa1_1 (a1_1).length ca1_1), (.slice pa1_2 (a1_2).length ca1_2), (i64 a1_3)], .bx b7 [(.slice none 0 0), (.slice none 0 0)], .bx b10 [(slv o54 (y).length c54), (.slice none 0 0)], .ls o54 c54 cs54 1] ∧ LR rI 1 F53 y cs54 ∧ a.tmps.get 2 = some (.ptr (some (b1, 0))) ∧ a.tmps.get 3 = some (.ptr (some (b4, 0))) ∧ a.tmps.get 4 = some (.ptr (some (b7, 0))) ∧ a.tmps.get 5 = some (.ptr (some (b10, 0)))) (fun x36 T ds37 h nx s hp hF => ?_) N _ y52 _ _ _ _ hy ⟨F0, none, 0, [], rfl, (PH.le.refl _), st, w34, gA, gA, gA, gA, gA, gA, gA⟩ (fun e a σ hne hq => ?_)
  · obtain ⟨F37, o38, c38, cs38, rfl, le37, st, w38, t2, t3, t4, t5, t11, t12, t13⟩ := hp; unfold sf84_2_L1 at hF; unfold L84w1; refine w_seq ?_; refine w_reg ?_; refine v_lss ?_; refine r_nil ?_; refine th_n ?_; refine w_seq ?_; refine v_cond (fun hb55 => ?_) (fun hb55 => ?_)
    · have hF := bif_t hb55 hF; refine w_skip ?_; refine th_n ?_; refine w_seq ?_; refine w_block ?_; refine w_seq ?_; refine w_reg ?_; obtain ⟨n56, x56, z56, l56, g56, hF⟩ := ix_some hF; obtain ⟨b56, o56, s56, j56, r56, e56, f56, k56, ⟨_, _, rfl, rfl, rfl⟩⟩ := RowF.get ra1_1 g56; refine v_ixp e56 z56 l56 ?_; refine v_ldn (st.sub _ _ (le37 _ _ f56)) k56 ?_; refine v_alloc st (fun b57 h58 n59 st => ?_); refine v_st (cs' := [(i64 x56.1), (i64 x56.2)]) st 5 rfl rfl rfl rfl hfl (fun h60 st => ?_); refine r_nil ?_; refine th_n ?_; refine w_drawV (Nat.le_trans hfl st.ext.le) (fun dw => ?_)
      have wf := Wf.start st
      refine y_pure st.d dw (fun hm vw => v_fa pr_nil) ?_; refine y_pure st.d dw (fun hm vw => v_ld1 (vw.bx (st.at (i := 3) rfl)) rfl pr_nil) ?_; refine y_pure st.d dw (fun hm vw => v_fa pr_nil) ?_; refine y_pure st.d dw (fun hm vw => v_ld1 (vw.bx (st.at (i := 0) rfl)) rfl pr_nil) ?_; refine y_pure st.d dw (fun hm vw => v_ldn (vs := [(i64 x56.1), (i64 x56.2)]) (vw.bx (st.at (i := 5) rfl)) rfl pr_nil) ?_; obtain ⟨v61, e62, hF⟩ := bnd_some hF; refine y_flat st.d dw (fun hm vw => u_call (ct106 N e62 vw.d (FF.sub wf st vw) ) (fun n' hn' => pf_nil hn')) (fun n63 hn' dw => ?_); refine y_lay st.d dw (fun hm vw => u_bs (cs := [(i64 v61)]) rfl pr_nil) (fun done dw => ?_)
      have wf := Wf.lay wf (e := (6, one n63 (.cells [(i64 v61)] .exact)))
      refine y_end st.d dw rfl (fun h64 ex vs => ?_)
      have st := St.laid st ex (Lay.cons (b := n63) (cs := [(i64 v61)]) (by have := dw.le; omega) (vs _ (List.mem_cons_self ..) _ _ (if_pos rfl)) (Lay.nil (by have := dw.le; omega)))
      obtain ⟨q65, hF⟩ := ck_some hF
      have w65 : LR rI 1 F37 (x36.2 ++ [v61]) (cs38 ++ [(i64 v61)]) := LR.app w38 (LR.one (rfl))
      refine v_aps (n := 1) (ox := 0) (m := (x36.2 ++ [v61]).length) (row := [(i64 v61)]) st 4 rfl w38.1 (st.at (i := 6) rfl).2.2 rfl rfl q65 hfl (by decide) (by decide) (by simp) (fun o65 c65 h65 n65 st => ?_)
      refine v_fa ?_; refine v_st (cs' := [(slv o65 ((x36.2 ++ [v61])).length c65), (.slice none 0 0)]) st 3 rfl rfl rfl rfl hfl (fun h66 st => ?_); refine r_nil ?_; refine ib_n ?_; refine th_n ?_; refine w_reg ?_; obtain ⟨q67, hF⟩ := ck_some hF; refine v_add q67 ?_; refine v_move ?_; refine r_nil ?_; refine thn ⟨_, (inj hF).symm, rfl, ?_⟩; dsimp only
      exact ⟨F37, o65, c65, (cs38 ++ [(i64 v61)]), rfl, le37, (st.drop (by first | exact List.Sublist.refl _ | (repeat first | exact List.nil_sublist _ | refine List.Sublist.cons_cons _ ?_ | refine List.Sublist.cons _ ?_))), w65, gA, gA, gA, gA, gA, gA, gA⟩
    · have hF := bif_f hb55 hF; refine w_exit ?_; refine th_e ?_; refine th_e ?_; refine ⟨_, (inj hF).symm, rfl, rfl, ?_⟩; dsimp only
      exact ⟨F37, o38, c38, cs38, rfl, le37, st, w38, gA, gA, gA, gA⟩
  · obtain ⟨N9, T, ds53⟩ := a; obtain ⟨h68, n69⟩ := σ; obtain ⟨rfl, e1, F53, o54, c54, cs54, e2, le53, st, w54, t2, t3, t4, t5⟩ := hq
    dsimp only at e1 e2
    subst e1
    subst e2
    dsimp only at st t2 t3 t4 t5
    refine ib_e ?_; refine th_n ?_; refine w_seq ?_; refine w_seq ?_; refine w_reg ?_; refine v_fa ?_; refine v_ld1 (st.at (i := 1) rfl).2.2 rfl ?_; refine v_len ?_; refine v_move ?_; refine r_nil ?_; refine th_n ?_; refine w_block ?_
    have st := st.nilL 1
    have w90 : LR rI 1 F53 ([] : List Int) [] := LR.nil
    obtain ⟨y109, hy, hF⟩ := bnd_some hF; refine v_loopD (sf84_2_L2 N a1_2) (fun x92 T ds93 h nx => ∃ (F93 : PH) (o94 : Option Nat) (c94 : Nat) (cs94 : List HV), ds93 = [] ∧ PH.le F53 F93 ∧ St n0 h0 F0 F93 h nx [.bx b1 [(.func 106 [] [])], .bx b4 [(i64 a1_0), (.slice pa1_1 (a1_1).length ca1_1), (.slice pa1_2 (a1_2).length ca1_2), (i64 a1_3)], .bx b7 [(.slice none 0 0), (.slice none 0 0)], .bx b10 [(slv o54 (y52).length c54), (slv o94 (x92.2).length c94)], .ls o54 c54 cs54 1, .ls o94 c94 cs94 1] ∧ LR rI 1 F93 x92.2 cs94 ∧ T.get 2 = some (.ptr (some (b1, 0))) ∧ T.get 4 = some (.ptr (some (b7, 0))) ∧ T.get 5 = some (.ptr (some (b10, 0))) ∧ T.get 28 = some (.slice pa1_2 (a1_2).length ca1_2) ∧ T.get 29 = some (i64 ((a1_2).length : Int)) ∧ T.get 30 = some (i64 x92.1)) (fun y e a σ => e = .exit 2 ∧ a.nt = 46 ∧ ∃ (F110 : PH) (o111 : Option Nat) (c111 : Nat) (cs111 : List HV), a.defers = [] ∧ PH.le F53 F110 ∧ St n0 h0 F0 F110 σ.h σ.nx [.bx b1 [(.func 106 [] [])], .bx b4 [(i64 a1_0), (.slice pa1_1 (a1_1).length ca1_1), (.slice pa1_2 (a1_2).length ca1_2), (i64 a1_3)], .bx b7 [(.slice none 0 0), (.slice none 0 0)], .bx b10 [(slv o54 (y52).length c54), (slv o111 (y).length c111)], .ls o54 c54 cs54 1, .ls o111 c111 cs111 1] ∧ LR rI 1 F110 y cs111 ∧ a.tmps.get 4 = some (.ptr (some (b7, 0))) ∧ a.tmps.get 5 = some (.ptr (some (b10, 0)))) (fun x92 T ds93 h nx s hp hF => ?_) N _ y109 _ _ _ _ hy ⟨F53, none, 0, [], rfl, (PH.le.refl _), st, w90, gA, gA, gA, gA, gA, gA⟩ (fun e a σ hne hq => ?_)
    · obtain ⟨F93, o94, c94, cs94, rfl, le93, st, w94, t2, t4, t5, t28, t29, t30⟩ := hp
      have le95 := PH.le.trans le53 le93
      unfold sf84_2_L2 at hF; unfold L84w0; refine w_seq ?_; refine w_reg ?_; refine v_lss ?_; refine r_nil ?_; refine th_n ?_; refine w_seq ?_; refine v_cond (fun hb112 => ?_) (fun hb112 => ?_)
      · have hF := bif_t hb112 hF; refine w_skip ?_; refine th_n ?_; refine w_seq ?_; refine w_block ?_; refine w_seq ?_; refine w_reg ?_; obtain ⟨n113, x113, z113, l113, g113, hF⟩ := ix_some hF; obtain ⟨b113, o113, s113, j113, r113, e113, f113, k113, ⟨_, _, rfl, rfl, ⟨_, _, rfl, rfl, rfl⟩⟩⟩ := RowF.get ra1_2 g113; refine v_ixp e113 z113 l113 ?_; refine v_ldn (st.sub _ _ (le95 _ _ f113)) k113 ?_; refine v_alloc st (fun b114 h115 n116 st => ?_); refine v_st (cs' := [(i64 x113.1), (i64 x113.2.1), (i64 x113.2.2)]) st 6 rfl rfl rfl rfl hfl (fun h117 st => ?_); refine r_nil ?_; refine th_n ?_; refine w_drawV (Nat.le_trans hfl st.ext.le) (fun dw => ?_)
        have wf := Wf.start st
        refine y_pure st.d dw (fun hm vw => v_fa pr_nil) ?_; refine y_pure st.d dw (fun hm vw => v_ld1 (vw.bx (st.at (i := 3) rfl)) rfl pr_nil) ?_; refine y_pure st.d dw (fun hm vw => v_fa pr_nil) ?_; refine y_pure st.d dw (fun hm vw => v_ld1 (vw.bx (st.at (i := 0) rfl)) rfl pr_nil) ?_; refine y_pure st.d dw (fun hm vw => v_fa pr_nil) ?_; refine y_pure st.d dw (fun hm vw => v_ldn (vs := [(i64 x113.2.1), (i64 x113.2.2)]) (vw.bx (st.at (i := 6) rfl)) rfl pr_nil) ?_; obtain ⟨v118, e119, hF⟩ := bnd_some hF; refine y_flat st.d dw (fun hm vw => u_call (ct106 N e119 vw.d (FF.sub wf st vw) ) (fun n' hn' => pf_nil hn')) (fun n120 hn' dw => ?_); refine y_lay st.d dw (fun hm vw => u_bs (cs := [(i64 v118)]) rfl pr_nil) (fun done dw => ?_)
        have wf := Wf.lay wf (e := (7, one n120 (.cells [(i64 v118)] .exact)))
        refine y_end st.d dw rfl (fun h121 ex vs => ?_)
        have st := St.laid st ex (Lay.cons (b := n120) (cs := [(i64 v118)]) (by have := dw.le; omega) (vs _ (List.mem_cons_self ..) _ _ (if_pos rfl)) (Lay.nil (by have := dw.le; omega)))
        obtain ⟨q122, hF⟩ := ck_some hF
        have w122 : LR rI 1 F93 (x92.2 ++ [v118]) (cs94 ++ [(i64 v118)]) := LR.app w94 (LR.one (rfl))
        refine v_aps (n := 1) (ox := 0) (m := (x92.2 ++ [v118]).length) (row := [(i64 v118)]) st 5 rfl w94.1 (st.at (i := 7) rfl).2.2 rfl rfl q122 hfl (by decide) (by decide) (by simp) (fun o122 c122 h122 n122 st => ?_)
        refine v_fa ?_; refine v_st (cs' := [(slv o54 (y52).length c54), (slv o122 ((x92.2 ++ [v118])).length c122)]) st 3 rfl rfl rfl rfl hfl (fun h123 st => ?_); refine r_nil ?_; refine ib_n ?_; refine th_n ?_; refine w_reg ?_; obtain ⟨q124, hF⟩ := ck_some hF; refine v_add q124 ?_; refine v_move ?_; refine r_nil ?_; refine thn ⟨_, (inj hF).symm, rfl, ?_⟩; dsimp only
        exact ⟨F93, o122, c122, (cs94 ++ [(i64 v118)]), rfl, le93, (st.drop (by first | exact List.Sublist.refl _ | (repeat first | exact List.nil_sublist _ | refine List.Sublist.cons_cons _ ?_ | refine List.Sublist.cons _ ?_))), w122, gA, gA, gA, gA, gA, gA⟩
      · have hF := bif_f hb112 hF; refine w_exit ?_; refine th_e ?_; refine th_e ?_; refine ⟨_, (inj hF).symm, rfl, rfl, ?_⟩; dsimp only
        exact ⟨F93, o94, c94, cs94, rfl, le93, st, w94, gA, gA⟩
    · obtain ⟨N9, T, ds110⟩ := a; obtain ⟨h126, n127⟩ := σ; obtain ⟨rfl, e1, F110, o111, c111, cs111, e2, le110, st, w111, t4, t5⟩ := hq
      dsimp only at e1 e2
      subst e1
      subst e2
      dsimp only at st t4 t5
      have le125 := PH.le.trans le53 le110
      refine ib_e ?_; refine th_n ?_; refine w_seq ?_; refine w_reg ?_; refine v_ldn (vs := [(slv o54 (y52).length c54), (slv o111 (y109).length c111)]) (st.at (i := 3) rfl).2.2 rfl ?_; refine v_st (cs' := [(slv o54 (y52).length c54), (slv o111 (y109).length c111)]) st 2 rfl rfl rfl rfl hfl (fun h128 st => ?_); refine r_nil ?_; refine th_n ?_; refine w_ret ?_; obtain rfl := inj hF
      obtain ⟨F129, le129, st, rf129⟩ := St.freeze st 4 rfl (LR.mono le110 w54) (by decide)
      have le130 := PH.le.trans le125 le129
      have le131 := PH.le.trans le110 le129
      obtain ⟨F132, le132, st, rf132⟩ := St.freeze st 4 rfl (LR.mono le129 w111) (by decide)
      have le133 := PH.le.trans le130 le132
      have le134 := PH.le.trans le131 le132
      have le135 := PH.le.trans le129 le132
      exact end_r st (Res.c gA (st.at (i := 2) rfl).2.2 (show takeN _ _ = some [(.slice (o54.map fun b => (b, 0)) (y52).length c54), (.slice (o111.map fun b => (b, 0)) (y109).length c111)] from rfl) Res.nil) ⟨_, rfl, ⟨[(.slice (o54.map fun b => (b, 0)) (y52).length c54)], [(.slice (o111.map fun b => (b, 0)) (y109).length c111)], rfl, ⟨_, _, rfl, (RowF.mono le132 rf129)⟩, ⟨_, _, rfl, rf132⟩⟩⟩
theorem ct86 (N : Nat) {a0_0 : Int} {a0_1 : Int} {r : Bool} (hF : sf86 N a0_0 a0_1 = some r) {fl : Nat} {h0 : Tr HBlk} {n0 : Nat} {F0 : PH} (hd : D h0 n0) (hs : F0.sub h0) : C LW fl 86 [(.agg [(i64 a0_0), (i64 a0_1)])] ⟨h0, n0⟩ (KS (.bool r) n0 h0) := by
  unfold sf86 at hF
  refine in_cT hd hs lw86 rfl rfl (by rfl) (fun st T hT => ?_)
  have hfl : n0 ≤ n0 := Nat.le_refl n0
  have t0 := hT 0 _ rfl
  dsimp only [L86]
  refine w_seq ?_; refine w_reg ?_; refine v_box st (fun b1 h2 n3 st => ?_); refine v_move ?_; refine r_nil ?_; refine th_n ?_; refine w_seq ?_; refine w_reg ?_; refine v_fa ?_; refine v_ld1 (st.at (i := 0) rfl).2.2 rfl ?_; refine v_fa ?_; refine v_ld1 (st.at (i := 0) rfl).2.2 rfl ?_; obtain ⟨v4, e5, hF⟩ := bnd_some hF; refine v_call st (ct24 N e5 st.d st.sub ) (fun n6 st => ?_); refine v_move ?_
  rcases Bool.eq_false_or_eq_true v4 with hb7 | hb7
  · have hF := bif_t hb7 hF; refine g_take hb7 (v_fa ?_); refine g_take hb7 (v_ld1 (st.at (i := 0) rfl).2.2 rfl ?_); refine g_take hb7 (v_leq ?_); refine v_pick hb7 ?_; refine v_move ?_; refine r_nil ?_; refine th_n ?_; refine w_ret ?_; obtain rfl := inj hF
    exact end_s st (Res.t gA Res.nil) rfl rfl
  · have hF := bif_f hb7 hF; refine g_skip hb7 ?_; refine g_skip hb7 ?_; refine g_skip hb7 ?_; refine v_pick' hb7 ?_; refine v_move ?_; refine r_nil ?_; refine th_n ?_; refine w_ret ?_; obtain rfl := inj hF
    exact end_s st (Res.t gA Res.nil) rfl rfl
end Go.Hx.V

/- Functions of the program come to that. -/
namespace Go.Hx.V
open Go.Hx
set_option linter.unusedVariables false
set_option maxRecDepth 20000
set_option maxHeartbeats 4000000
attribute [local irreducible] W R C thenH inBlockH Tr.get Tr.set lo
theorem ct87 (N : Nat) {a0 : (List Int)} {r : Bool} (hF : sf87 N a0 = some r) {fl : Nat} {h0 : Tr HBlk} {n0 : Nat} {F0 : PH} (hd : D h0 n0) (hs : F0.sub h0) {pa0 : Option (Nat × Nat)} {ca0 : Nat} (ra0 : RowF rI 1 F0 pa0 ca0 a0) : C LW fl 87 [(.slice pa0 (a0).length ca0), (.func 60 [] [])] ⟨h0, n0⟩ (KS (.bool r) n0 h0) := by
  unfold sf87 at hF
  refine in_cT hd hs lw87 rfl rfl (by rfl) (fun st T hT => ?_)
  have hfl : n0 ≤ n0 := Nat.le_refl n0
  have t0 := hT 0 _ rfl
  have t1 := hT 1 _ rfl
  dsimp only [L87]
  refine w_seq ?_; refine w_reg ?_; refine v_move ?_; refine r_nil ?_; refine th_n ?_; refine w_seq ?_; refine w_seq ?_; refine w_reg ?_; refine v_move ?_; refine v_len ?_; refine v_move ?_; refine r_nil ?_; refine th_n ?_; refine w_block ?_; obtain ⟨y10, hy, hF⟩ := bnd_some hF; refine v_loopD (sf87_L1 N a0) (fun x1 T ds2 h nx => ∃ (F2 : PH), ds2 = [] ∧ PH.le F0 F2 ∧ St n0 h0 F0 F2 h nx [] ∧ T.get 1 = some (.func 60 [] []) ∧ T.get 7 = some (.slice pa0 (a0).length ca0) ∧ T.get 8 = some (i64 ((a0).length : Int)) ∧ T.get 9 = some (i64 x1)) (fun y e a σ => (∃ u, y = (.inl u) ∧ e = .ret ∧ a.nt = 18 ∧ ∃ (F12 : PH), a.defers = [] ∧ PH.le F0 F12 ∧ St n0 h0 F0 F12 σ.h σ.nx [] ∧ a.tmps.get 4 = some (.bool false)) ∨ (∃ u, y = (.inr u) ∧ e = .exit 0 ∧ a.nt = 18 ∧ ∃ (F14 : PH), a.defers = [] ∧ PH.le F0 F14 ∧ St n0 h0 F0 F14 σ.h σ.nx [])) (fun x1 T ds2 h nx s hp hF => ?_) N _ y10 _ _ _ _ hy ⟨F0, rfl, (PH.le.refl _), st, gA, gA, gA, gA⟩ (fun e a σ hne hq => ?_)
  · obtain ⟨F2, rfl, le2, st, t1, t7, t8, t9⟩ := hp; unfold sf87_L1 at hF; unfold L87w0; refine w_seq ?_; refine w_reg ?_; refine v_lss ?_; refine r_nil ?_; refine th_n ?_; refine w_seq ?_; refine v_cond (fun hb15 => ?_) (fun hb15 => ?_)
    · have hF := bif_t hb15 hF; refine w_skip ?_; refine th_n ?_; refine w_seq ?_; refine w_block ?_; refine w_seq ?_; refine w_reg ?_; obtain ⟨n16, x16, z16, l16, g16, hF⟩ := ix_some hF; obtain ⟨b16, o16, s16, j16, r16, e16, f16, k16, rfl⟩ := RowF.get ra0 g16; refine v_ixp e16 z16 l16 ?_; refine v_ld1 (st.sub _ _ (le2 _ _ f16)) (take_at (j := 0) k16 rfl) ?_; refine v_move ?_; refine r_nil ?_; refine th_n ?_; refine w_seq ?_; refine w_reg ?_; refine v_move ?_; refine v_move ?_; obtain ⟨v17, e18, hF⟩ := bnd_some hF; refine v_call st (ct60 N e18 st.d st.sub ) (fun n19 st => ?_); refine v_not ?_; refine r_nil ?_; refine th_n ?_; refine v_cond (fun hb20 => ?_) (fun hb20 => ?_)
      · have hF := bif_t hb20 hF; refine w_seq ?_; refine w_reg ?_; refine v_move ?_; refine r_nil ?_; refine th_n ?_; refine w_ret ?_; refine ib_r ?_; refine th_r ?_; refine th_r ?_; refine ⟨_, (inj hF).symm, .inl ⟨_, rfl, rfl, rfl, ?_⟩⟩; dsimp only
        exact ⟨F2, rfl, le2, st, gA⟩
      · have hF := bif_f hb20 hF; refine w_skip ?_; refine ib_n ?_; refine th_n ?_; refine w_reg ?_; obtain ⟨q21, hF⟩ := ck_some hF; refine v_add q21 ?_; refine v_move ?_; refine r_nil ?_; refine thn ⟨_, (inj hF).symm, rfl, ?_⟩; dsimp only
        exact ⟨F2, rfl, le2, st, gA, gA, gA, gA⟩
    · have hF := bif_f hb15 hF; refine w_exit ?_; refine th_e ?_; refine th_e ?_; refine ⟨_, (inj hF).symm, .inr (⟨_, rfl, rfl, rfl, ?_⟩)⟩; dsimp only
      exact ⟨F2, rfl, le2, st⟩
  · rcases hq with hq | hq
    · obtain ⟨N9, T, ds12⟩ := a; obtain ⟨h22, n23⟩ := σ; obtain ⟨w11, rfl, rfl, e1, F12, e2, le12, st, t4⟩ := hq
      dsimp only at e1 e2
      subst e1
      subst e2
      dsimp only at st t4
      have hF := sel_l hF; refine ib_r ?_; refine th_r ?_; obtain rfl := inj hF
      exact end_s st (Res.t gA Res.nil) rfl rfl
    · obtain ⟨N9, T, ds14⟩ := a; obtain ⟨h24, n25⟩ := σ; obtain ⟨w13, rfl, rfl, e1, F14, e2, le14, st⟩ := hq
      dsimp only at e1 e2
      subst e1
      subst e2
      dsimp only at st
      have hF := sel_r hF; refine ib_e ?_; refine th_n ?_; refine w_seq ?_; refine w_reg ?_; refine v_move ?_; refine r_nil ?_; refine th_n ?_; refine w_ret ?_; obtain rfl := inj hF
      exact end_s st (Res.t gA Res.nil) rfl rfl
theorem ct107 (N : Nat) {a0 : (List Int)} {r : Bool} (hF : sf107 N a0 = some r) {fl : Nat} {h0 : Tr HBlk} {n0 : Nat} {F0 : PH} (hd : D h0 n0) (hs : F0.sub h0) {pa0 : Option (Nat × Nat)} {ca0 : Nat} (ra0 : RowF rI 1 F0 pa0 ca0 a0) : C LW fl 107 [(.slice pa0 (a0).length ca0), (.func 108 [] [])] ⟨h0, n0⟩ (KS (.bool r) n0 h0) := by
  unfold sf107 at hF
  refine in_cT hd hs lw107 rfl rfl (by rfl) (fun st T hT => ?_)
  have hfl : n0 ≤ n0 := Nat.le_refl n0
  have t0 := hT 0 _ rfl
  have t1 := hT 1 _ rfl
  dsimp only [L107]
  refine w_seq ?_; refine w_reg ?_; refine v_move ?_; refine r_nil ?_; refine th_n ?_; refine w_seq ?_; refine w_seq ?_; refine w_reg ?_; refine v_move ?_; refine r_nil ?_; refine th_n ?_; refine w_block ?_; obtain ⟨y13, hy, hF⟩ := bnd_some hF; refine v_loopD (sf107_L1 N a0) (fun x1 T ds2 h nx => ∃ (F2 : PH), ds2 = [] ∧ PH.le F0 F2 ∧ St n0 h0 F0 F2 h nx [] ∧ T.get 0 = some (.slice pa0 (a0).length ca0) ∧ T.get 1 = some (.func 108 [] []) ∧ T.get 5 = some (i64 x1)) (fun y e a σ => (∃ u, y = (.inl u) ∧ e = .ret ∧ a.nt = 24 ∧ ∃ (F15 : PH), a.defers = [] ∧ PH.le F0 F15 ∧ St n0 h0 F0 F15 σ.h σ.nx [] ∧ a.tmps.get 4 = some (.bool false)) ∨ (∃ u, y = (.inr u) ∧ e = .exit 0 ∧ a.nt = 24 ∧ ∃ (F17 : PH), a.defers = [] ∧ PH.le F0 F17 ∧ St n0 h0 F0 F17 σ.h σ.nx [])) (fun x1 T ds2 h nx s hp hF => ?_) N _ y13 _ _ _ _ hy ⟨F0, rfl, (PH.le.refl _), st, gA, gA, gA⟩ (fun e a σ hne hq => ?_)
  · obtain ⟨F2, rfl, le2, st, t0, t1, t5⟩ := hp; unfold sf107_L1 at hF; unfold L107w0; refine w_seq ?_; refine w_seq ?_; refine w_reg ?_; refine v_move ?_; refine v_move ?_; refine v_len ?_; refine v_lss ?_; refine r_nil ?_; refine th_n ?_; refine v_cond (fun hb18 => ?_) (fun hb18 => ?_)
    · have hF := bif_t hb18 hF; refine w_skip ?_; refine th_n ?_; refine w_seq ?_; refine w_block ?_; refine w_seq ?_; refine w_drawV (Nat.le_trans hfl st.ext.le) (fun dw => ?_); refine y_pure st.d dw (fun hm vw => v_move pr_nil) ?_; refine y_pure st.d dw (fun hm vw => v_move pr_nil) ?_; refine y_pure st.d dw (fun hm vw => v_move pr_nil) ?_; obtain ⟨q19, hF⟩ := ck_some hF; refine y_pure st.d dw (fun hm vw => v_sub q19 pr_nil) ?_; obtain ⟨n20, x20, z20, l20, g20, hF⟩ := ix_some hF; obtain ⟨b20, o20, s20, j20, r20, e20, f20, k20, rfl⟩ := RowF.get ra0 g20; refine y_pure st.d dw (fun hm vw => v_ixp e20 z20 l20 pr_nil) ?_; refine y_pure st.d dw (fun hm vw => v_ld1 (vw.fz st (le2 _ _ f20)) (take_at (j := 0) k20 rfl) pr_nil) ?_
      refine y_pure st.d dw (fun hm vw => v_move pr_nil) ?_; refine y_pure st.d dw (fun hm vw => v_move pr_nil) ?_; obtain ⟨n21, x21, z21, l21, g21, hF⟩ := ix_some hF; obtain ⟨b21, o21, s21, j21, r21, e21, f21, k21, rfl⟩ := RowF.get ra0 g21; refine y_pure st.d dw (fun hm vw => v_ixp e21 z21 l21 pr_nil) ?_; refine y_pure st.d dw (fun hm vw => v_ld1 (vw.fz st (le2 _ _ f21)) (take_at (j := 0) k21 rfl) pr_nil) ?_; refine y_end st.d dw rfl (fun h22 ex vs => ?_)
      have st := st.ext1 ex
      obtain ⟨v23, e24, hF⟩ := bnd_some hF; refine v_call st (ct108 N e24 st.d st.sub ) (fun n25 st => ?_); refine v_not ?_; refine r_nil ?_; refine th_n ?_; refine v_cond (fun hb26 => ?_) (fun hb26 => ?_)
      · have hF := bif_t hb26 hF; refine w_seq ?_; refine w_reg ?_; refine v_move ?_; refine r_nil ?_; refine th_n ?_; refine w_ret ?_; refine ib_r ?_; refine th_r ?_; refine th_r ?_; refine ⟨_, (inj hF).symm, .inl ⟨_, rfl, rfl, rfl, ?_⟩⟩; dsimp only
        exact ⟨F2, rfl, le2, st, gA⟩
      · have hF := bif_f hb26 hF; refine w_skip ?_; refine ib_n ?_; refine th_n ?_; refine w_reg ?_; refine v_move ?_; obtain ⟨q27, hF⟩ := ck_some hF; refine v_add q27 ?_; refine v_move ?_; refine r_nil ?_; refine thn ⟨_, (inj hF).symm, rfl, ?_⟩; dsimp only
        exact ⟨F2, rfl, le2, st, gA, gA, gA⟩
    · have hF := bif_f hb18 hF; refine w_exit ?_; refine th_e ?_; refine th_e ?_; refine ⟨_, (inj hF).symm, .inr (⟨_, rfl, rfl, rfl, ?_⟩)⟩; dsimp only
      exact ⟨F2, rfl, le2, st⟩
  · rcases hq with hq | hq
    · obtain ⟨N9, T, ds15⟩ := a; obtain ⟨h28, n29⟩ := σ; obtain ⟨w14, rfl, rfl, e1, F15, e2, le15, st, t4⟩ := hq
      dsimp only at e1 e2
      subst e1
      subst e2
      dsimp only at st t4
      have hF := sel_l hF; refine ib_r ?_; refine th_r ?_; obtain rfl := inj hF
      exact end_s st (Res.t gA Res.nil) rfl rfl
    · obtain ⟨N9, T, ds17⟩ := a; obtain ⟨h30, n31⟩ := σ; obtain ⟨w16, rfl, rfl, e1, F17, e2, le17, st⟩ := hq
      dsimp only at e1 e2
      subst e1
      subst e2
      dsimp only at st
      have hF := sel_r hF; refine ib_e ?_; refine th_n ?_; refine w_seq ?_; refine w_reg ?_; refine v_move ?_; refine r_nil ?_; refine th_n ?_; refine w_ret ?_; obtain rfl := inj hF
      exact end_s st (Res.t gA Res.nil) rfl rfl
end Go.Hx.V

