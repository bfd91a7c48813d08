/- The functions of the program, as the plain machine runs them. -/
import Derived.Test.YtamfcjekhiapdaaH04
import Derived.ProofKit
import Derived.Test.YtamfcjekhiapdaaH02
import Derived.Test.YtamfcjekhiapdaaH03
set_option linter.all false
/- The functions of the program, as the plain machine runs them. -/
namespace Go.Hx
set_option maxRecDepth 100000
noncomputable def L99s0 : LCode := (.cond (.t 16) (.seq (.reg [(o 4 (.move (.c (.bool .false))))]) .ret) .skip)
noncomputable def L99s1 : LCode := (.seq (.reg [(o 13 (.move (.t 1))), (o 14 (.load .true 3 (.t 6))), (o 15 (.call (.t 13) [(.t 14)])), (o 16 (.un .not (.t 15)))]) L99s0)
noncomputable def L99s2 : LCode := (.reg [(o 17 (.bin .add (.t 9) (.c (.int .i64 1)))), (o 9 (.move (.t 17)))])
noncomputable def L99s3 : LCode := (.seq (.block 1 (.seq (.reg [(o 11 (.indexAddrS 3 (.t 7) (.t 9))), (o 12 (.load .true 3 (.t 11))), (o 6 (.alloc [(.int .i64 0), (.int .i64 0), (.int .i64 0)])), (on (.store 3 (.t 6) (.t 12)))]) L99s1)) L99s2)
noncomputable def L99w0 : LCode := (.seq (.reg [(o 10 (.bin .lss (.t 9) (.t 8)))]) (.seq (.cond (.t 10) .skip (.exit 0)) L99s3))
noncomputable def L99s4 : LCode := (.seq (.seq (.reg [(o 7 (.move (.t 0))), (o 8 (.len .slice (.t 7))), (o 9 (.move (.c (.int .i64 0))))]) (.block 0 (.loop L99w0))) (.seq (.reg [(o 4 (.move (.c (.bool .true))))]) .ret))
noncomputable def L99 : LFunc := ⟨18, (.seq (.reg [(o 4 (.move (.c (.bool .false))))]) L99s4), [(.t 4)], .false, .none⟩
theorem lp99 : LP 99 = some L99 := by kernel_rfl
noncomputable def L103s0 : LCode := (.cond (.t 15) (.reg [(o 16 (.move (.t 6))), (o 0 (.move (.t 16)))]) .skip)
noncomputable def L103s1 : LCode := (.seq (.reg [(o 13 (.move (.t 6))), (o 14 (.move (.t 0))), (o 15 (.bin .lss (.t 13) (.t 14)))]) L103s0)
noncomputable def L103s2 : LCode := (.reg [(o 17 (.bin .add (.t 9) (.c (.int .i64 1)))), (o 9 (.move (.t 17)))])
noncomputable def L103s3 : LCode := (.seq (.block 1 (.seq (.reg [(o 11 (.indexAddrS 1 (.t 7) (.t 9))), (o 12 (.load .false 1 (.t 11))), (o 6 (.move (.t 12)))]) L103s1)) L103s2)
noncomputable def L103w0 : LCode := (.seq (.reg [(o 10 (.bin .lss (.t 9) (.t 8)))]) (.seq (.cond (.t 10) .skip (.exit 0)) L103s3))
noncomputable def L103s4 : LCode := (.seq (.reg [(o 18 (.move (.t 0))), (o 4 (.move (.t 18)))]) .ret)
noncomputable def L103s5 : LCode := (.seq (.seq (.reg [(o 7 (.move (.t 1))), (o 8 (.len .slice (.t 7))), (o 9 (.move (.c (.int .i64 0))))]) (.block 0 (.loop L103w0))) L103s4)
noncomputable def L103 : LFunc := ⟨19, (.seq (.reg [(o 4 (.move (.c (.int .i64 0))))]) L103s5), [(.t 4)], .false, .none⟩
theorem lp103 : LP 103 = some L103 := by kernel_rfl
end Go.Hx

/- The functions of the program, of which one is known: the closed examples tell true. -/
namespace Go.Hx
noncomputable section
def spWakes : List HV → HS → Option (HV × HS)
  | [], σ => some (.bool true, σ)
  | _, _ => none
def LW : Nat → Option LFunc := withS LP 17 spWakes
theorem withS_of {lp : Nat → Option LFunc} {f : Nat} {g : List HV → HS → Option (HV × HS)} {k : Nat} {lf : LFunc} (hk : Nat.beq k f = false) (h : lp k = some lf) : withS lp f g k = some lf := by
  unfold withS
  rw [hk]
  exact h
theorem lw_of {k : Nat} {lf : LFunc} (hk : Nat.beq k 17 = false) (h : LP k = some lf) : LW k = some lf := withS_of hk h
theorem lw3 : LW 3 = some L3 := lw_of rfl lp3
theorem lw5 : LW 5 = some L5 := lw_of rfl lp5
theorem lw9 : LW 9 = some L9 := lw_of rfl lp9
theorem lw13 : LW 13 = some L13 := lw_of rfl lp13
theorem lw15 : LW 15 = some L15 := lw_of rfl lp15
theorem lw16 : LW 16 = some L16 := lw_of rfl lp16
theorem lw18 : LW 18 = some L18 := lw_of rfl lp18
theorem lw19 : LW 19 = some L19 := lw_of rfl lp19
theorem lw20 : LW 20 = some L20 := lw_of rfl lp20
theorem lw21 : LW 21 = some L21 := lw_of rfl lp21
theorem lw22 : LW 22 = some L22 := lw_of rfl lp22
theorem lw23 : LW 23 = some L23 := lw_of rfl lp23
theorem lw24 : LW 24 = some L24 := lw_of rfl lp24
theorem lw25 : LW 25 = some L25 := lw_of rfl lp25
theorem lw26 : LW 26 = some L26 := lw_of rfl lp26
theorem lw27 : LW 27 = some L27 := lw_of rfl lp27
theorem lw28 : LW 28 = some L28 := lw_of rfl lp28
theorem lw30 : LW 30 = some L30 := lw_of rfl lp30
theorem lw33 : LW 33 = some L33 := lw_of rfl lp33
theorem lw34 : LW 34 = some L34 := lw_of rfl lp34
theorem lw35 : LW 35 = some L35 := lw_of rfl lp35
theorem lw36 : LW 36 = some L36 := lw_of rfl lp36
theorem lw37 : LW 37 = some L37 := lw_of rfl lp37
theorem lw44 : LW 44 = some L44 := lw_of rfl lp44
theorem lw45 : LW 45 = some L45 := lw_of rfl lp45
theorem lw49 : LW 49 = some L49 := lw_of rfl lp49
theorem lw50 : LW 50 = some L50 := lw_of rfl lp50
theorem lw51 : LW 51 = some L51 := lw_of rfl lp51
theorem lw52 : LW 52 = some L52 := lw_of rfl lp52
theorem lw53 : LW 53 = some L53 := lw_of rfl lp53
theorem lw54 : LW 54 = some L54 := lw_of rfl lp54
theorem lw55 : LW 55 = some L55 := lw_of rfl lp55
theorem lw56 : LW 56 = some L56 := lw_of rfl lp56
theorem lw59 : LW 59 = some L59 := lw_of rfl lp59
theorem lw60 : LW 60 = some L60 := lw_of rfl lp60
theorem lw62 : LW 62 = some L62 := lw_of rfl lp62
theorem lw65 : LW 65 = some L65 := lw_of rfl lp65
theorem lw73 : LW 73 = some L73 := lw_of rfl lp73
theorem lw74 : LW 74 = some L74 := lw_of rfl lp74
theorem lw75 : LW 75 = some L75 := lw_of rfl lp75
theorem lw76 : LW 76 = some L76 := lw_of rfl lp76
theorem lw77 : LW 77 = some L77 := lw_of rfl lp77
theorem lw78 : LW 78 = some L78 := lw_of rfl lp78
theorem lw79 : LW 79 = some L79 := lw_of rfl lp79
theorem lw80 : LW 80 = some L80 := lw_of rfl lp80
theorem lw81 : LW 81 = some L81 := lw_of rfl lp81
theorem lw82 : LW 82 = some L82 := lw_of rfl lp82
theorem lw83 : LW 83 = some L83 := lw_of rfl lp83
theorem lw84 : LW 84 = some L84 := lw_of rfl lp84
theorem lw85 : LW 85 = some L85 := lw_of rfl lp85
theorem lw86 : LW 86 = some L86 := lw_of rfl lp86
theorem lw96 : LW 96 = some L96 := lw_of rfl lp96
theorem lw97 : LW 97 = some L97 := lw_of rfl lp97
theorem lw98 : LW 98 = some L98 := lw_of rfl lp98
theorem lw99 : LW 99 = some L99 := lw_of rfl lp99
theorem lw100 : LW 100 = some L100 := lw_of rfl lp100
theorem lw101 : LW 101 = some L101 := lw_of rfl lp101
theorem lw102 : LW 102 = some L102 := lw_of rfl lp102
theorem lw103 : LW 103 = some L103 := lw_of rfl lp103
theorem lw104 : LW 104 = some L104 := lw_of rfl lp104
theorem lw105 : LW 105 = some L105 := lw_of rfl lp105
theorem lw106 : LW 106 = some L106 := lw_of rfl lp106
theorem V.ct_wakes {fl : Nat} {h : Tr HBlk} {nx : Nat} : C LW fl 17 [] ⟨h, nx⟩ (V.KS (.bool true) nx h) :=
  c_spec (lf := ⟨0, .bad, [], false, some spWakes⟩) rfl rfl rfl (Nat.le_refl _) ⟨rfl, nx, Nat.le_refl _, rfl⟩
end
end Go.Hx

/- What the functions of the program come to. -/
namespace Go.Hx.V
open Go.Hx
set_option linter.unusedVariables false
set_option maxRecDepth 20000
set_option maxHeartbeats 4000000
/- meniscus/meniscuslaw04.Thin -/
def sf16 (N : Nat) (a0_0 : Int) (a0_1 : (List (Int × Int))) (a0_2 : (List (Int × Int × Int))) (a0_3 : Int) (a1 : (List Int)) (a2 : (List Int)) : Option Bool :=
  (bif (decide (((a0_1).length : Int) ≤ (11 : Int))) then (bif (decide (((a0_2).length : Int) ≤ (6 : Int))) then (bif (decide (((a1).length : Int) ≤ (13 : Int))) then some (decide (((a2).length : Int) ≤ (13 : Int))) else some false) else some false) else some false)
/- meniscus/meniscuslaw04.to -/
def sf25 (N : Nat) (a0_0 : Int) (a0_1 : Int) : Option (Int × Int) :=
  some (a0_0, a0_1)
/- meniscus/meniscuslaw04.Screw -/
def sf19_L1 (N : Nat) (a0_1 : (List (Int × Int))) (x30 : (Int × (List (Int × Int)))) : Option ((Int × (List (Int × Int))) ⊕ (List (Int × Int))) :=
  (bif (decide (x30.1 < ((a0_1).length : Int))) then (ix a0_1 x30.1 fun x46 => (bnd (sf25 N x46.1 x46.2) fun v47 => (ck ((x30.2.length + 1) * 16 ≤ 35184372088832 ∧ x30.2.length + 1 ≤ 35184372088832) ((ck (rng (x30.1 + (1 : Int))) (some (.inl ((x30.1 + (1 : Int)), (x30.2 ++ [(v47.1, v47.2)]))))))))) else some (.inr x30.2))
def sf19_L2 (N : Nat) (a0_2 : (List (Int × Int × Int))) (x75 : (Int × (List (Int × Int × Int)))) : Option ((Int × (List (Int × Int × Int))) ⊕ (List (Int × Int × Int))) :=
  (bif (decide (x75.1 < ((a0_2).length : Int))) then (ix a0_2 x75.1 fun x93 => (ix a0_2 x75.1 fun x94 => (bnd (sf25 N x94.2.1 x94.2.2) fun v95 => (ck ((x75.2.length + 1) * 24 ≤ 35184372088832 ∧ x75.2.length + 1 ≤ 35184372088832) ((ck (rng (x75.1 + (1 : Int))) (some (.inl ((x75.1 + (1 : Int)), (x75.2 ++ [(x93.1, v95.1, v95.2)])))))))))) else some (.inr x75.2))
def sf19 (N : Nat) (a0_0 : Int) (a0_1 : (List (Int × Int))) (a0_2 : (List (Int × Int × Int))) (a0_3 : Int) : Option (Int × (List (Int × Int)) × (List (Int × Int × Int)) × Int) :=
  bnd (iter (sf19_L1 N a0_1) N ((0 : Int), ([] : List (Int × Int)))) (fun y42 => bnd (iter (sf19_L2 N a0_2) N ((0 : Int), ([] : List (Int × Int × Int)))) (fun y89 => some (a0_0, y42, y89, a0_3)))
/- meniscus/screw.isError -/
def sf98 (N : Nat) (a0_0 : Int) (a0_1 : Int) : Option Bool :=
  (bif (decide ((-20 : Int) ≤ a0_0)) then (bif (decide (a0_0 ≤ a0_1)) then some (decide (a0_1 ≤ (20 : Int))) else some false) else some false)
/- meniscus/lists.All[meniscus/screw.Range] -/
def sf97_L1 (N : Nat) (a0 : (List (Int × Int))) (x1 : Int) : Option (Int ⊕ (Unit ⊕ Unit)) :=
  (bif (decide (x1 < ((a0).length : Int))) then (ix a0 x1 fun x20 => (bnd (sf98 N x20.1 x20.2) fun v25 => (bif (!v25) then some (.inr (.inl ())) else (ck (rng (x1 + (1 : Int))) (some (.inl (x1 + (1 : Int)))))))) else some (.inr (.inr ())))
def sf97 (N : Nat) (a0 : (List (Int × Int))) : Option Bool :=
  bnd (iter (sf97_L1 N a0) N (0 : Int)) (sel (fun w15 => some false) (fun w17 => some true))
/- (meniscus/screw.Screw).phasesValid -/
def sf76 (N : Nat) (a0_0 : Int) (a0_1 : (List (Int × Int))) (a0_2 : (List (Int × Int × Int))) (a0_3 : Int) : Option Bool :=
  (bif (decide ((0 : Int) < ((a0_1).length : Int))) then (bnd (sf97 N a0_1) fun v5 => some v5) else some false)
/- (meniscus/screw.Zone).valid -/
def sf100 (N : Nat) (a0_0 : Int) (a0_1 : Int) (a0_2 : Int) : Option Bool :=
  (bif (decide ((0 : Int) ≤ a0_0)) then (bif (decide (a0_0 ≤ (60 : Int))) then (bnd (sf98 N a0_1 a0_2) fun v6 => some v6) else some false) else some false)
/- meniscus/lists.All[meniscus/screw.Zone] -/
def sf99_L1 (N : Nat) (a0 : (List (Int × Int × Int))) (x1 : Int) : Option (Int ⊕ (Unit ⊕ Unit)) :=
  (bif (decide (x1 < ((a0).length : Int))) then (ix a0 x1 fun x20 => (bnd (sf100 N x20.1 x20.2.1 x20.2.2) fun v25 => (bif (!v25) then some (.inr (.inl ())) else (ck (rng (x1 + (1 : Int))) (some (.inl (x1 + (1 : Int)))))))) else some (.inr (.inr ())))
def sf99 (N : Nat) (a0 : (List (Int × Int × Int))) : Option Bool :=
  bnd (iter (sf99_L1 N a0) N (0 : Int)) (sel (fun w15 => some false) (fun w17 => some true))
/- (meniscus/screw.Zone).mayPrecede -/
def sf102 (N : Nat) (a0_0 : Int) (a0_1 : Int) (a0_2 : Int) (a1_0 : Int) (a1_1 : Int) (a1_2 : Int) : Option Bool :=
  some (decide (a0_0 < a1_0))
/- meniscus/lists.InOrder[meniscus/screw.Zone] -/
def sf101_L1 (N : Nat) (a0 : (List (Int × Int × Int))) (x1 : Int) : Option (Int ⊕ (Unit ⊕ Unit)) :=
  (bif (decide (x1 < ((a0).length : Int))) then (ck (rng (x1 - (1 : Int))) ((ix a0 (x1 - (1 : Int)) fun x20 => (ix a0 x1 fun x21 => (bnd (sf102 N x20.1 x20.2.1 x20.2.2 x21.1 x21.2.1 x21.2.2) fun v23 => (bif (!v23) then some (.inr (.inl ())) else (ck (rng (x1 + (1 : Int))) (some (.inl (x1 + (1 : Int))))))))))) else some (.inr (.inr ())))
def sf101 (N : Nat) (a0 : (List (Int × Int × Int))) : Option Bool :=
  bnd (iter (sf101_L1 N a0) N (1 : Int)) (sel (fun w14 => some false) (fun w16 => some true))
/- (meniscus/screw.Screw).zonesValid -/
def sf77 (N : Nat) (a0_0 : Int) (a0_1 : (List (Int × Int))) (a0_2 : (List (Int × Int × Int))) (a0_3 : Int) : Option Bool :=
  (bif (decide ((0 : Int) < ((a0_2).length : Int))) then (ix a0_2 (0 : Int) fun x5 => (bif (decide (x5.1 = (0 : Int))) then (bnd (sf99 N a0_2) fun v7 => (bif v7 then (bnd (sf101 N a0_2) fun v11 => some v11) else some false)) else some false)) else some false)
/- meniscus/screw.lowEnds -/
def sf83 (N : Nat) : Option Unit :=
  some ()
/- (meniscus/screw.Range).low -/
def sf105 (N : Nat) (a0_0 : Int) (a0_1 : Int) : Option Int :=
  some a0_0
/- (meniscus/screw.ends).truth -/
def sf84_L1 (N : Nat) (a1_1 : (List (Int × Int))) (x36 : (Int × (List Int))) : Option ((Int × (List Int)) ⊕ (List Int)) :=
  (bif (decide (x36.1 < ((a1_1).length : Int))) then (ix a1_1 x36.1 fun x56 => (bnd (sf105 N x56.1 x56.2) fun v61 => (ck ((x36.2.length + 1) * 8 ≤ 35184372088832 ∧ x36.2.length + 1 ≤ 35184372088832) ((ck (rng (x36.1 + (1 : Int))) (some (.inl ((x36.1 + (1 : Int)), (x36.2 ++ [v61]))))))))) else some (.inr x36.2))
def sf84_L2 (N : Nat) (a1_2 : (List (Int × Int × Int))) (x92 : (Int × (List Int))) : Option ((Int × (List Int)) ⊕ (List Int)) :=
  (bif (decide (x92.1 < ((a1_2).length : Int))) then (ix a1_2 x92.1 fun x113 => (bnd (sf105 N x113.2.1 x113.2.2) fun v118 => (ck ((x92.2.length + 1) * 8 ≤ 35184372088832 ∧ x92.2.length + 1 ≤ 35184372088832) ((ck (rng (x92.1 + (1 : Int))) (some (.inl ((x92.1 + (1 : Int)), (x92.2 ++ [v118]))))))))) else some (.inr x92.2))
def sf84 (N : Nat) (a1_0 : Int) (a1_1 : (List (Int × Int))) (a1_2 : (List (Int × Int × Int))) (a1_3 : Int) : Option ((List Int) × (List Int)) :=
  bnd (iter (sf84_L1 N a1_1) N ((0 : Int), ([] : List Int))) (fun y52 => bnd (iter (sf84_L2 N a1_2) N ((0 : Int), ([] : List Int))) (fun y109 => some (y52, y109)))
/- meniscus/lists.Least -/
def sf103_L1 (a1 : (List Int)) (x1 : (Int × Int)) : Option ((Int × Int) ⊕ Int) :=
  (bif (decide (x1.2 < ((a1).length : Int))) then (ix a1 x1.2 fun x11 => (bif (decide (x11 < x1.1)) then (ck (rng (x1.2 + (1 : Int))) (some (.inl (x11, (x1.2 + (1 : Int)))))) else (ck (rng (x1.2 + (1 : Int))) (some (.inl (x1.1, (x1.2 + (1 : Int)))))))) else some (.inr x1.1))
def sf103 (N : Nat) (a0 : Int) (a1 : (List Int)) : Option Int :=
  bnd (iter (sf103_L1 a1) N (a0, (0 : Int))) (fun y8 => some y8)
/- (meniscus/screw.Screw).goesOn -/
def sf78 (N : Nat) (a0_0 : Int) (a0_1 : (List (Int × Int))) (a0_2 : (List (Int × Int × Int))) (a0_3 : Int) : Option Bool :=
  (bnd (sf83 N ) fun v4 => (bnd (sf84 N a0_0 a0_1 a0_2 a0_3) fun v7 => (ix v7.1 (0 : Int) fun x16 => (ck (0 ≤ (1 : Int) ∧ 0 ≤ ((v7.1).length : Int) ∧ ((Int.toNat (1 : Int)) ≤ v7.1.length ∧ v7.1.length ≤ v7.1.length)) ((bnd (sf103 N x16 ((v7.1.drop (Int.toNat (1 : Int))).take (v7.1.length - (Int.toNat (1 : Int))))) fun v20 => (ix v7.2 (0 : Int) fun x23 => (ck (0 ≤ (1 : Int) ∧ 0 ≤ ((v7.2).length : Int) ∧ ((Int.toNat (1 : Int)) ≤ v7.2.length ∧ v7.2.length ≤ v7.2.length)) ((bnd (sf103 N x23 ((v7.2.drop (Int.toNat (1 : Int))).take (v7.2.length - (Int.toNat (1 : Int))))) fun v27 => (ck (rng (a0_0 + v20)) ((ck (rng ((a0_0 + v20) + v27)) (some (decide ((1 : Int) ≤ ((a0_0 + v20) + v27)))))))))))))))))
/- (meniscus/screw.Screw).valid -/
def sf50 (N : Nat) (a0_0 : Int) (a0_1 : (List (Int × Int))) (a0_2 : (List (Int × Int × Int))) (a0_3 : Int) : Option Bool :=
  (bif (decide ((1 : Int) ≤ a0_0)) then (bif (decide (a0_0 ≤ (50 : Int))) then (bif (decide ((1 : Int) ≤ a0_3)) then (bif (decide (a0_3 ≤ (60 : Int))) then (bnd (sf76 N a0_0 a0_1 a0_2 a0_3) fun v8 => (bif v8 then (bnd (sf77 N a0_0 a0_1 a0_2 a0_3) fun v12 => (bif v12 then (bnd (sf78 N a0_0 a0_1 a0_2 a0_3) fun v16 => some v16) else some false)) else some false)) else some false) else some false) else some false) else some false)
/- meniscus/screw.CheckScrew -/
def sf18 (N : Nat) (a0_0 : Int) (a0_1 : (List (Int × Int))) (a0_2 : (List (Int × Int × Int))) (a0_3 : Int) : Option Int :=
  bnd ((bif (decide ((8 : Int) < ((a0_1).length : Int))) then some true else some (decide ((3 : Int) < ((a0_2).length : Int)))) : Option (Bool)) (fun y5 => (bif y5 then some (3 : Int) else (bnd (sf50 N a0_0 a0_1 a0_2 a0_3) fun v11 => (bif (!v11) then some (1 : Int) else some (0 : Int)))))
/- meniscus/meniscuslaw04.list -/
def sf30 (N : Nat) (a0 : (List Int)) : Option (List Int) :=
  (ck ((([] : List Int).length + a0.length) * 8 ≤ 35184372088832 ∧ ([] : List Int).length + a0.length ≤ 35184372088832) (some (([] : List Int) ++ a0)))
/- meniscus/meniscuslaw04.Truth -/
def sf21 (N : Nat) (a0_0 : (List Int)) (a0_1 : (List Int)) : Option ((List Int) × (List Int)) :=
  (bnd (sf30 N a0_0) fun v7 => (bnd (sf30 N a0_1) fun v14 => some (v7, v14)))
/- (meniscus/screw.Screw).hasTick -/
def sf79 (N : Nat) (a0_0 : Int) (a0_1 : (List (Int × Int))) (a0_2 : (List (Int × Int × Int))) (a0_3 : Int) (a1 : Int) : Option Bool :=
  (bif (decide ((0 : Int) ≤ a1)) then some (decide (a1 ≤ a0_3)) else some false)
/- meniscus/screw.checkTick -/
def sf51 (N : Nat) (a0_0 : Int) (a0_1 : (List (Int × Int))) (a0_2 : (List (Int × Int × Int))) (a0_3 : Int) (a1 : Int) : Option Int :=
  (bnd (sf18 N a0_0 a0_1 a0_2 a0_3) fun v4 => (bif (!(decide (v4 = (0 : Int)))) then some v4 else (bnd (sf79 N a0_0 a0_1 a0_2 a0_3 a1) fun v8 => (bif (!v8) then some (2 : Int) else some (0 : Int)))))
/- (meniscus/screw.Range).has -/
def sf80 (N : Nat) (a0_0 : Int) (a0_1 : Int) (a1 : Int) : Option Bool :=
  (bif (decide (a0_0 ≤ a1)) then some (decide (a1 ≤ a0_1)) else some false)
/- (meniscus/screw.Screw).allows -/
def sf52_L1 (N : Nat) (a0_1 : (List (Int × Int))) (a1_0 : (List Int)) (x28 : Int) : Option (Int ⊕ (Unit ⊕ Unit)) :=
  (bif (decide (x28 < ((a0_1).length : Int))) then (ix a0_1 x28 fun x50 => (ix a1_0 x28 fun x55 => (bnd (sf80 N x50.1 x50.2 x55) fun v57 => (bif (!v57) then some (.inr (.inl ())) else (ck (rng (x28 + (1 : Int))) (some (.inl (x28 + (1 : Int))))))))) else some (.inr (.inr ())))
def sf52_L2 (N : Nat) (a0_2 : (List (Int × Int × Int))) (a1_1 : (List Int)) (x68 : Int) : Option (Int ⊕ (Unit ⊕ Unit)) :=
  (bif (decide (x68 < ((a0_2).length : Int))) then (ix a0_2 x68 fun x91 => (ix a1_1 x68 fun x96 => (bnd (sf80 N x91.2.1 x91.2.2 x96) fun v98 => (bif (!v98) then some (.inr (.inl ())) else (ck (rng (x68 + (1 : Int))) (some (.inl (x68 + (1 : Int))))))))) else some (.inr (.inr ())))
def sf52 (N : Nat) (a0_0 : Int) (a0_1 : (List (Int × Int))) (a0_2 : (List (Int × Int × Int))) (a0_3 : Int) (a1_0 : (List Int)) (a1_1 : (List Int)) : Option Bool :=
  bnd (bnd ((bif (!(decide (((a1_0).length : Int) = ((a0_1).length : Int)))) then some true else some (!(decide (((a1_1).length : Int) = ((a0_2).length : Int))))) : Option (Bool)) (fun y22 => (bif y22 then some (.inl ()) else some (.inr ()))) : Option (Unit ⊕ Unit)) (sel (fun w17 => some false) (fun w19 => bnd (iter (sf52_L1 N a0_1 a1_0) N (0 : Int)) (sel (fun w45 => some false) (fun w47 => bnd (iter (sf52_L2 N a0_2 a1_1) N (0 : Int)) (sel (fun w86 => some false) (fun w88 => some true))))))
/- (meniscus/screw.Screw).zoneOf -/
def sf82_L1 (a0_2 : (List (Int × Int × Int))) (a1 : Int) (x4 : (Int × Int)) : Option ((Int × Int) ⊕ Int) :=
  (bif (decide (x4.2 < ((a0_2).length : Int))) then (ix a0_2 x4.2 fun x18 => (bif (decide (x18.1 ≤ a1)) then (ck (rng (x4.2 + (1 : Int))) (some (.inl (x4.2, (x4.2 + (1 : Int)))))) else (ck (rng (x4.2 + (1 : Int))) (some (.inl (x4.1, (x4.2 + (1 : Int)))))))) else some (.inr x4.1))
def sf82 (N : Nat) (a0_0 : Int) (a0_1 : (List (Int × Int))) (a0_2 : (List (Int × Int × Int))) (a0_3 : Int) (a1 : Int) : Option Int :=
  bnd (iter (sf82_L1 a0_2 a1) N ((0 : Int), (0 : Int))) (fun y15 => some y15)
/- (meniscus/screw.Screw).places -/
def sf53_L1 (N : Nat) (a0_0 : Int) (a0_1 : (List (Int × Int))) (a0_2 : (List (Int × Int × Int))) (a0_3 : Int) (a1_0 : (List Int)) (a1_1 : (List Int)) (x17 : (Int × Int × (List Int))) (x100 : (Int × Int × (List Int))) : Option ((Int × Int × (List Int)) ⊕ ((Int × (List Int)) ⊕ (Int × (List Int)))) :=
  (bif (decide (x100.1 < ((a0_1).length : Int))) then (ck (rng (x17.1 + x100.1)) ((bif (decide ((x17.1 + x100.1) = a0_3)) then some (.inr (.inl (x100.2.1, x100.2.2))) else (ix a1_0 x100.1 fun x134 => (ck (rng (a0_0 + x134)) ((bnd (sf82 N a0_0 a0_1 a0_2 a0_3 (x17.1 + x100.1)) fun v136 => (ix a1_1 v136 fun x139 => (ck (rng ((a0_0 + x134) + x139)) ((ck (rng (x100.2.1 + ((a0_0 + x134) + x139))) ((ck ((x100.2.2.length + 1) * 8 ≤ 35184372088832 ∧ x100.2.2.length + 1 ≤ 35184372088832) ((ck (rng (x100.1 + (1 : Int))) (some (.inl ((x100.1 + (1 : Int)), (x100.2.1 + ((a0_0 + x134) + x139)), (x100.2.2 ++ [(x100.2.1 + ((a0_0 + x134) + x139))]))))))))))))))))))) else some (.inr (.inr (x100.2.1, x100.2.2))))
def sf53_L2 (N : Nat) (a0_0 : Int) (a0_1 : (List (Int × Int))) (a0_2 : (List (Int × Int × Int))) (a0_3 : Int) (a1_0 : (List Int)) (a1_1 : (List Int)) (x17 : (Int × Int × (List Int))) : Option ((Int × Int × (List Int)) ⊕ (Int × (List Int))) :=
  (bif (decide (x17.1 < a0_3)) then bnd (iter (sf53_L1 N a0_0 a0_1 a0_2 a0_3 a1_0 a1_1 x17) N ((0 : Int), x17.2.1, x17.2.2)) (sel (fun w125 => (ck (rng (x17.1 + ((a0_1).length : Int))) (some (.inl ((x17.1 + ((a0_1).length : Int)), w125.1, w125.2))))) (fun w128 => (ck (rng (x17.1 + ((a0_1).length : Int))) (some (.inl ((x17.1 + ((a0_1).length : Int)), w128.1, w128.2)))))) else some (.inr (x17.2.1, x17.2.2)))
def sf53 (N : Nat) (a0_0 : Int) (a0_1 : (List (Int × Int))) (a0_2 : (List (Int × Int × Int))) (a0_3 : Int) (a1_0 : (List Int)) (a1_1 : (List Int)) : Option (List Int) :=
  (ck (rng (a0_3 + (1 : Int))) ((ck (0 ≤ (1 : Int) ∧ 0 ≤ (a0_3 + (1 : Int)) ∧ Int.toNat (1 : Int) ≤ Int.toNat (a0_3 + (1 : Int)) ∧ (Int.toNat (a0_3 + (1 : Int)) * 8 ≤ 35184372088832 ∧ Int.toNat (a0_3 + (1 : Int)) ≤ 35184372088832)) (bnd (iter (sf53_L2 N a0_0 a0_1 a0_2 a0_3 a1_0 a1_1) N ((0 : Int), (0 : Int), (List.replicate (Int.toNat (1 : Int)) 0))) (fun y88 => some y88.2)))))
/- meniscus/screw.Place -/
def sf20 (N : Nat) (a0_0 : Int) (a0_1 : (List (Int × Int))) (a0_2 : (List (Int × Int × Int))) (a0_3 : Int) (a1 : Int) (a2_0 : (List Int)) (a2_1 : (List Int)) : Option (Int × Int) :=
  (bnd (sf51 N a0_0 a0_1 a0_2 a0_3 a1) fun v7 => (bif (!(decide (v7 = (0 : Int)))) then some ((0 : Int), v7) else (bnd (sf52 N a0_0 a0_1 a0_2 a0_3 a2_0 a2_1) fun v11 => (bif (!v11) then some ((0 : Int), (2 : Int)) else (bnd (sf53 N a0_0 a0_1 a0_2 a0_3 a2_0 a2_1) fun v15 => (ix v15 a1 fun x19 => some (x19, (0 : Int))))))))
/- meniscus/screw.highEnds -/
def sf85 (N : Nat) : Option Unit :=
  some ()
/- (meniscus/screw.Range).high -/
def sf106 (N : Nat) (a0_0 : Int) (a0_1 : Int) : Option Int :=
  some a0_1
/- (meniscus/screw.ends).truth -/
def sf84_2_L1 (N : Nat) (a1_1 : (List (Int × Int))) (x36 : (Int × (List Int))) : Option ((Int × (List Int)) ⊕ (List Int)) :=
  (bif (decide (x36.1 < ((a1_1).length : Int))) then (ix a1_1 x36.1 fun x56 => (bnd (sf106 N x56.1 x56.2) fun v61 => (ck ((x36.2.length + 1) * 8 ≤ 35184372088832 ∧ x36.2.length + 1 ≤ 35184372088832) ((ck (rng (x36.1 + (1 : Int))) (some (.inl ((x36.1 + (1 : Int)), (x36.2 ++ [v61]))))))))) else some (.inr x36.2))
def sf84_2_L2 (N : Nat) (a1_2 : (List (Int × Int × Int))) (x92 : (Int × (List Int))) : Option ((Int × (List Int)) ⊕ (List Int)) :=
  (bif (decide (x92.1 < ((a1_2).length : Int))) then (ix a1_2 x92.1 fun x113 => (bnd (sf106 N x113.2.1 x113.2.2) fun v118 => (ck ((x92.2.length + 1) * 8 ≤ 35184372088832 ∧ x92.2.length + 1 ≤ 35184372088832) ((ck (rng (x92.1 + (1 : Int))) (some (.inl ((x92.1 + (1 : Int)), (x92.2 ++ [v118]))))))))) else some (.inr x92.2))
def sf84_2 (N : Nat) (a1_0 : Int) (a1_1 : (List (Int × Int))) (a1_2 : (List (Int × Int × Int))) (a1_3 : Int) : Option ((List Int) × (List Int)) :=
  bnd (iter (sf84_2_L1 N a1_1) N ((0 : Int), ([] : List Int))) (fun y52 => bnd (iter (sf84_2_L2 N a1_2) N ((0 : Int), ([] : List Int))) (fun y109 => some (y52, y109)))
/- meniscus/screw.engineOf -/
def sf54 (N : Nat) (a0_0 : Int) (a0_1 : (List (Int × Int))) (a0_2 : (List (Int × Int × Int))) (a0_3 : Int) : Option (Int × (List (Int × Int)) × (List (Int × Int × Int)) × Int × (List Int) × (List Int)) :=
  (bnd (sf83 N ) fun v7 => (bnd (sf84 N a0_0 a0_1 a0_2 a0_3) fun v10 => (bnd (sf53 N a0_0 a0_1 a0_2 a0_3 v10.1 v10.2) fun v15 => (bnd (sf85 N ) fun v20 => (bnd (sf84_2 N a0_0 a0_1 a0_2 a0_3) fun v23 => (bnd (sf53 N a0_0 a0_1 a0_2 a0_3 v23.1 v23.2) fun v30 => some (a0_0, a0_1, a0_2, a0_3, v15, v30)))))))
/- (meniscus/screw.engine).bounds -/
def sf55 (N : Nat) (a0_0 : Int) (a0_1 : (List (Int × Int))) (a0_2 : (List (Int × Int × Int))) (a0_3 : Int) (a0_4 : (List Int)) (a0_5 : (List Int)) (a1 : Int) : Option (Int × Int) :=
  (ix a0_4 a1 fun x7 => (ix a0_5 a1 fun x8 => some (x7, x8)))
/- meniscus/screw.Bounds -/
def sf22 (N : Nat) (a0_0 : Int) (a0_1 : (List (Int × Int))) (a0_2 : (List (Int × Int × Int))) (a0_3 : Int) (a1 : Int) : Option (Int × Int × Int) :=
  (bnd (sf51 N a0_0 a0_1 a0_2 a0_3 a1) fun v7 => (bif (!(decide (v7 = (0 : Int)))) then some ((0 : Int), (0 : Int), v7) else (bnd (sf54 N a0_0 a0_1 a0_2 a0_3) fun v12 => (bnd (sf55 N v12.1 v12.2.1 v12.2.2.1 v12.2.2.2.1 v12.2.2.2.2.1 v12.2.2.2.2.2 a1) fun v19 => some (v19.1, v19.2, (0 : Int))))))
/- meniscus/meniscusref04.In -/
def sf24 (N : Nat) (a0 : Int) (a1 : Int) (a2 : Int) : Option Bool :=
  (bif (decide (a1 ≤ a0)) then some (decide (a0 ≤ a2)) else some false)
/- meniscus/meniscusref04.span -/
def sf86 (N : Nat) (a0_0 : Int) (a0_1 : Int) : Option Bool :=
  (bnd (sf24 N a0_0 (-20 : Int) a0_1) fun v4 => (bif v4 then some (decide (a0_1 ≤ (20 : Int))) else some false))
/- meniscus/meniscusref04.Fault -/
def sf56_L1 (N : Nat) (a0_2 : (List (Int × Int × Int))) (x90 : Int) : Option (Int ⊕ (Int ⊕ Unit)) :=
  (bif (decide (x90 < ((a0_2).length : Int))) then (ix a0_2 x90 fun x145 => bnd ((bnd (sf24 N x145.1 (0 : Int) (60 : Int)) fun v169 => (bif (!v169) then some true else (bnd (sf86 N x145.2.1 x145.2.2) fun v174 => (bif (!v174) then some true else (bif (decide ((0 : Int) < x90)) then (ck (rng (x90 - (1 : Int))) ((ix a0_2 (x90 - (1 : Int)) fun x181 => some (decide (x145.1 ≤ x181.1))))) else some false))))) : Option (Bool)) (fun y165 => (bif y165 then some (.inr (.inl (1 : Int))) else (ck (rng (x90 + (1 : Int))) (some (.inl (x90 + (1 : Int)))))))) else some (.inr (.inr ())))
def sf56_L2 (a0_0 : Int) (a0_1 : (List (Int × Int))) (a0_2 : (List (Int × Int × Int))) (x197 : Int) (x259 : Int) : Option (Int ⊕ (Int ⊕ Unit)) :=
  (bif (decide (x259 < ((a0_2).length : Int))) then (ix a0_1 x197 fun x279 => (ck (rng (a0_0 + x279.1)) ((ix a0_2 x259 fun x281 => (ck (rng ((a0_0 + x279.1) + x281.2.1)) ((bif (decide (((a0_0 + x279.1) + x281.2.1) < (1 : Int))) then some (.inr (.inl (1 : Int))) else (ck (rng (x259 + (1 : Int))) (some (.inl (x259 + (1 : Int)))))))))))) else some (.inr (.inr ())))
def sf56_L3 (N : Nat) (a0_0 : Int) (a0_1 : (List (Int × Int))) (a0_2 : (List (Int × Int × Int))) (x197 : Int) : Option (Int ⊕ (Int ⊕ Unit)) :=
  (bif (decide (x197 < ((a0_1).length : Int))) then (ix a0_1 x197 fun x254 => (bnd (sf86 N x254.1 x254.2) fun v255 => (bif (!v255) then some (.inr (.inl (1 : Int))) else bnd (iter (sf56_L2 a0_0 a0_1 a0_2 x197) N (0 : Int)) (sel (fun w274 => some (.inr (.inl w274))) (fun w276 => (ck (rng (x197 + (1 : Int))) (some (.inl (x197 + (1 : Int)))))))))) else some (.inr (.inr ())))
def sf56 (N : Nat) (a0_0 : Int) (a0_1 : (List (Int × Int))) (a0_2 : (List (Int × Int × Int))) (a0_3 : Int) : Option Int :=
  bnd (bnd ((bif (decide ((8 : Int) < ((a0_1).length : Int))) then some true else some (decide ((3 : Int) < ((a0_2).length : Int)))) : Option (Bool)) (fun y19 => (bif y19 then some (.inl (3 : Int)) else some (.inr ()))) : Option (Int ⊕ Unit)) (sel (fun w14 => some w14) (fun w16 => bnd (bnd ((bnd (sf24 N a0_0 (1 : Int) (50 : Int)) fun v75 => (bif (!v75) then some true else (bnd (sf24 N a0_3 (1 : Int) (60 : Int)) fun v79 => (bif (!v79) then some true else (bif (decide (((a0_1).length : Int) = (0 : Int))) then some true else (bif (decide (((a0_2).length : Int) = (0 : Int))) then some true else (ix a0_2 (0 : Int) fun x85 => some (!(decide (x85.1 = (0 : Int))))))))))) : Option (Bool)) (fun y71 => (bif y71 then some (.inl (1 : Int)) else some (.inr ()))) : Option (Int ⊕ Unit)) (sel (fun w56 => some w56) (fun w58 => bnd (iter (sf56_L1 N a0_2) N (0 : Int)) (sel (fun w140 => some w140) (fun w142 => bnd (iter (sf56_L3 N a0_0 a0_1 a0_2) N (0 : Int)) (sel (fun w249 => some w249) (fun w251 => some (0 : Int)))))))))
/- meniscus/meniscuslaw04.fault -/
def sf23 (N : Nat) (a0_0 : Int) (a0_1 : (List (Int × Int))) (a0_2 : (List (Int × Int × Int))) (a0_3 : Int) : Option Int :=
  (bnd (sf56 N a0_0 a0_1 a0_2 a0_3) fun v4 => some v4)
/- meniscus/meniscusref04.Ends -/
def sf45_L1 (a0_1 : (List (Int × Int))) (a1 : Bool) (x32 : (Int × (List Int))) : Option ((Int × (List Int)) ⊕ (List Int)) :=
  (bif (decide (x32.1 < ((a0_1).length : Int))) then (bif a1 then (ix a0_1 x32.1 fun x52 => (ck ((x32.2.length + 1) * 8 ≤ 35184372088832 ∧ x32.2.length + 1 ≤ 35184372088832) ((ck (rng (x32.1 + (1 : Int))) (some (.inl ((x32.1 + (1 : Int)), (x32.2 ++ [x52.2])))))))) else (ix a0_1 x32.1 fun x57 => (ck ((x32.2.length + 1) * 8 ≤ 35184372088832 ∧ x32.2.length + 1 ≤ 35184372088832) ((ck (rng (x32.1 + (1 : Int))) (some (.inl ((x32.1 + (1 : Int)), (x32.2 ++ [x57.1]))))))))) else some (.inr x32.2))
def sf45_L2 (a0_2 : (List (Int × Int × Int))) (a1 : Bool) (x85 : (Int × (List Int))) : Option ((Int × (List Int)) ⊕ (List Int)) :=
  (bif (decide (x85.1 < ((a0_2).length : Int))) then (bif a1 then (ix a0_2 x85.1 fun x106 => (ck ((x85.2.length + 1) * 8 ≤ 35184372088832 ∧ x85.2.length + 1 ≤ 35184372088832) ((ck (rng (x85.1 + (1 : Int))) (some (.inl ((x85.1 + (1 : Int)), (x85.2 ++ [x106.2.2])))))))) else (ix a0_2 x85.1 fun x111 => (ck ((x85.2.length + 1) * 8 ≤ 35184372088832 ∧ x85.2.length + 1 ≤ 35184372088832) ((ck (rng (x85.1 + (1 : Int))) (some (.inl ((x85.1 + (1 : Int)), (x85.2 ++ [x111.2.1]))))))))) else some (.inr x85.2))
def sf45 (N : Nat) (a0_0 : Int) (a0_1 : (List (Int × Int))) (a0_2 : (List (Int × Int × Int))) (a0_3 : Int) (a1 : Bool) : Option ((List Int) × (List Int)) :=
  bnd (iter (sf45_L1 a0_1 a1) N ((0 : Int), ([] : List Int))) (fun y47 => bnd (iter (sf45_L2 a0_2 a1) N ((0 : Int), ([] : List Int))) (fun y101 => some (y47, y101)))
/- meniscus/meniscusref04.ZoneOf -/
def sf49_L1 (a0_2 : (List (Int × Int × Int))) (a1 : Int) (x4 : (Int × Int)) : Option ((Int × Int) ⊕ Int) :=
  (bif (decide (x4.2 < ((a0_2).length : Int))) then (ix a0_2 x4.2 fun x14 => (bif (decide (x14.1 ≤ a1)) then (ck (rng (x4.2 + (1 : Int))) (some (.inl (x4.2, (x4.2 + (1 : Int)))))) else (ck (rng (x4.2 + (1 : Int))) (some (.inl (x4.1, (x4.2 + (1 : Int)))))))) else some (.inr x4.1))
def sf49 (N : Nat) (a0_0 : Int) (a0_1 : (List (Int × Int))) (a0_2 : (List (Int × Int × Int))) (a0_3 : Int) (a1 : Int) : Option Int :=
  bnd (iter (sf49_L1 a0_2 a1) N ((0 : Int), (0 : Int))) (fun y11 => some y11)
/- meniscus/meniscusref04.Place -/
def sf28_L1 (N : Nat) (a0_0 : Int) (a0_1 : (List (Int × Int))) (a0_2 : (List (Int × Int × Int))) (a0_3 : Int) (a1 : Int) (a2_0 : (List Int)) (a2_1 : (List Int)) (x7 : (Int × Int)) : Option ((Int × Int) ⊕ Int) :=
  (bif (decide (x7.2 < a1)) then (ck (((a0_1).length : Int) ≠ 0) ((ix a2_0 (Int.tmod x7.2 ((a0_1).length : Int)) fun x25 => (ck (rng (a0_0 + x25)) ((bnd (sf49 N a0_0 a0_1 a0_2 a0_3 x7.2) fun v27 => (ix a2_1 v27 fun x30 => (ck (rng ((a0_0 + x25) + x30)) ((ck (rng (x7.1 + ((a0_0 + x25) + x30))) ((ck (rng (x7.2 + (1 : Int))) (some (.inl ((x7.1 + ((a0_0 + x25) + x30)), (x7.2 + (1 : Int))))))))))))))))) else some (.inr x7.1))
def sf28 (N : Nat) (a0_0 : Int) (a0_1 : (List (Int × Int))) (a0_2 : (List (Int × Int × Int))) (a0_3 : Int) (a1 : Int) (a2_0 : (List Int)) (a2_1 : (List Int)) : Option Int :=
  bnd (iter (sf28_L1 N a0_0 a0_1 a0_2 a0_3 a1 a2_0 a2_1) N ((0 : Int), (0 : Int))) (fun y21 => some y21)
/- meniscus/meniscusref04.Bounds -/
def sf26 (N : Nat) (a0_0 : Int) (a0_1 : (List (Int × Int))) (a0_2 : (List (Int × Int × Int))) (a0_3 : Int) (a1 : Int) : Option (Int × Int) :=
  (bnd (sf45 N a0_0 a0_1 a0_2 a0_3 false) fun v7 => (bnd (sf28 N a0_0 a0_1 a0_2 a0_3 a1 v7.1 v7.2) fun v12 => (bnd (sf45 N a0_0 a0_1 a0_2 a0_3 true) fun v15 => (bnd (sf28 N a0_0 a0_1 a0_2 a0_3 a1 v15.1 v15.2) fun v25 => some (v12, v25)))))
/- meniscus/meniscusref04.IsTruth -/
def sf27_L1 (N : Nat) (a0_1 : (List (Int × Int))) (a1_0 : (List Int)) (x28 : Int) : Option (Int ⊕ (Unit ⊕ Unit)) :=
  (bif (decide (x28 < ((a1_0).length : Int))) then (ix a1_0 x28 fun x47 => (ix a0_1 x28 fun x48 => (ix a0_1 x28 fun x49 => (bnd (sf24 N x47 x48.1 x49.2) fun v51 => (bif (!v51) then some (.inr (.inl ())) else (ck (rng (x28 + (1 : Int))) (some (.inl (x28 + (1 : Int)))))))))) else some (.inr (.inr ())))
def sf27_L2 (N : Nat) (a0_2 : (List (Int × Int × Int))) (a1_1 : (List Int)) (x62 : Int) : Option (Int ⊕ (Unit ⊕ Unit)) :=
  (bif (decide (x62 < ((a1_1).length : Int))) then (ix a1_1 x62 fun x82 => (ix a0_2 x62 fun x83 => (ix a0_2 x62 fun x84 => (bnd (sf24 N x82 x83.2.1 x84.2.2) fun v86 => (bif (!v86) then some (.inr (.inl ())) else (ck (rng (x62 + (1 : Int))) (some (.inl (x62 + (1 : Int)))))))))) else some (.inr (.inr ())))
def sf27 (N : Nat) (a0_0 : Int) (a0_1 : (List (Int × Int))) (a0_2 : (List (Int × Int × Int))) (a0_3 : Int) (a1_0 : (List Int)) (a1_1 : (List Int)) : Option Bool :=
  bnd (bnd ((bif (!(decide (((a1_0).length : Int) = ((a0_1).length : Int)))) then some true else some (!(decide (((a1_1).length : Int) = ((a0_2).length : Int))))) : Option (Bool)) (fun y22 => (bif y22 then some (.inl ()) else some (.inr ()))) : Option (Unit ⊕ Unit)) (sel (fun w17 => some false) (fun w19 => bnd (iter (sf27_L1 N a0_1 a1_0) N (0 : Int)) (sel (fun w42 => some false) (fun w44 => bnd (iter (sf27_L2 N a0_2 a1_1) N (0 : Int)) (sel (fun w77 => some false) (fun w79 => some true))))))
/- meniscus/meniscuslaw04.ScrewPlaces -/
def sf3 (N : Nat) (a0_0 : Int) (a0_1 : (List (Int × Int))) (a0_2 : (List (Int × Int × Int))) (a0_3 : Int) (a1 : Int) (a2_0 : (List Int)) (a2_1 : (List Int)) : Option Bool :=
  (bnd (sf16 N a0_0 a0_1 a0_2 a0_3 a2_0 a2_1) fun v7 => (bif (!v7) then some true else (bnd (sf19 N a0_0 a0_1 a0_2 a0_3) fun v12 => (bnd (sf18 N v12.1 v12.2.1 v12.2.2.1 v12.2.2.2) fun v17 => (bnd (sf19 N a0_0 a0_1 a0_2 a0_3) fun v20 => (bnd (sf21 N a2_0 a2_1) fun v29 => (bnd (sf20 N v20.1 v20.2.1 v20.2.2.1 v20.2.2.2 a1 v29.1 v29.2) fun v37 => (bnd (sf19 N a0_0 a0_1 a0_2 a0_3) fun v40 => (bnd (sf22 N v40.1 v40.2.1 v40.2.2.1 v40.2.2.2 a1) fun v49 => (bnd (sf23 N a0_0 a0_1 a0_2 a0_3) fun v56 => (bif (!(decide (v17 = v56))) then some false else bnd (bnd ((bif (decide (v56 = (0 : Int))) then (bnd (sf24 N a1 (0 : Int) a0_3) fun v91 => some (!v91)) else some false) : Option (Bool)) (fun y86 => (bif y86 then some (2 : Int) else some v56)) : Option (Int)) (fun y78 => (bif (!(decide (y78 = (0 : Int)))) then (bif (decide (v37.2 = y78)) then (bif (decide (v49.2.2 = y78)) then (bif (decide (v37.1 = (0 : Int))) then (bif (v49.1 == (0 : Int) && (v49.2.1 == (0 : Int) && true)) then some true else some false) else some false) else some false) else some false) else bnd (bnd ((bif (!(decide (v49.2.2 = (0 : Int)))) then some true else (bnd (sf26 N a0_0 a0_1 a0_2 a0_3 a1) fun v162 => (bnd (sf25 N v162.1 v162.2) fun v165 => some (!(v49.1 == v165.1 && (v49.2.1 == v165.2 && true)))))) : Option (Bool)) (fun y156 => (bif y156 then some (.inl ()) else some (.inr ()))) : Option (Unit ⊕ Unit)) (sel (fun w143 => some false) (fun w145 => (bnd (sf27 N a0_0 a0_1 a0_2 a0_3 a2_0 a2_1) fun v188 => (bif (!v188) then (bif (decide (v37.2 = (2 : Int))) then (bif (decide (v37.1 = (0 : Int))) then some true else some false) else some false) else (bif (decide (v37.2 = (0 : Int))) then (bnd (sf28 N a0_0 a0_1 a0_2 a0_3 a1 a2_0 a2_1) fun v196 => (bif (decide (v37.1 = v196)) then some true else some false)) else some false))))))))))))))))))
/- meniscus/screw.isPlace -/
def sf60 (N : Nat) (a0 : Int) : Option Bool :=
  (bif (decide ((0 : Int) ≤ a0)) then some (decide (a0 ≤ (5000 : Int))) else some false)
/- (meniscus/screw.engine).out -/
def sf59 (N : Nat) (a0_0 : Int) (a0_1 : (List (Int × Int))) (a0_2 : (List (Int × Int × Int))) (a0_3 : Int) (a0_4 : (List Int)) (a0_5 : (List Int)) (a1_0 : Int) (a1_1 : Int) : Option (Int × Int) :=
  (bnd (sf55 N a0_0 a0_1 a0_2 a0_3 a0_4 a0_5 a1_1) fun v10 => (ck (rng (v10.1 - a1_0)) ((ck (rng (v10.2 - a1_0)) (some ((v10.1 - a1_0), (v10.2 - a1_0)))))))
/- meniscus/screw.taskOf -/
def sf62 (N : Nat) (a0_0 : Int) (a0_1 : (List (Int × Int))) (a0_2 : (List (Int × Int × Int))) (a0_3 : Int) (a1 : Int) : Option (Int × (List (Int × Int)) × (List (Int × Int × Int)) × Int × (List Int) × (List Int) × Int) :=
  (bnd (sf54 N a0_0 a0_1 a0_2 a0_3) fun v7 => some (v7.1, v7.2.1, v7.2.2.1, v7.2.2.2.1, v7.2.2.2.2.1, v7.2.2.2.2.2, a1))
/- meniscus/lists.Greatest -/
def sf96_L1 (a1 : (List Int)) (x1 : (Int × Int)) : Option ((Int × Int) ⊕ Int) :=
  (bif (decide (x1.2 < ((a1).length : Int))) then (ix a1 x1.2 fun x11 => (bif (decide (x1.1 < x11)) then (ck (rng (x1.2 + (1 : Int))) (some (.inl (x11, (x1.2 + (1 : Int)))))) else (ck (rng (x1.2 + (1 : Int))) (some (.inl (x1.1, (x1.2 + (1 : Int)))))))) else some (.inr x1.1))
def sf96 (N : Nat) (a0 : Int) (a1 : (List Int)) : Option Int :=
  bnd (iter (sf96_L1 a1) N (a0, (0 : Int))) (fun y8 => some y8)
/- (meniscus/screw.task).right -/
def sf73 (N : Nat) (a0_0 : Int) (a0_1 : (List (Int × Int))) (a0_2 : (List (Int × Int × Int))) (a0_3 : Int) (a0_4 : (List Int)) (a0_5 : (List Int)) (a0_6 : Int) (a1_0 : Int) (a1_1 : Int) : Option Bool :=
  (bnd (sf59 N a0_0 a0_1 a0_2 a0_3 a0_4 a0_5 a1_0 a1_1) fun v7 => (ck (rng (-v7.1)) ((bnd (sf96 N (-v7.1) ([v7.2])) fun v15 => some (decide (v15 ≤ a0_6))))))
/- meniscus/meniscuslaw04.between -/
def sf33 (N : Nat) (a0 : Int) (a1 : Int) : Option (Int × Int) :=
  some (a0, a1)
/- meniscus/meniscusref04.Needs -/
def sf34 (N : Nat) (a0_0 : Int) (a0_1 : (List (Int × Int))) (a0_2 : (List (Int × Int × Int))) (a0_3 : Int) (a1 : Int) (a2 : Int) : Option Int :=
  (bnd (sf26 N a0_0 a0_1 a0_2 a0_3 a1) fun v4 => (ck (rng (a2 - v4.1)) ((ck (rng (v4.2 - a2)) (some (max (max (a2 - v4.1) (v4.2 - a2)) (0 : Int)))))))
/- (meniscus/screw.task).ticks -/
def sf65_L1 (N : Nat) (a0_0 : Int) (a0_1 : (List (Int × Int))) (a0_2 : (List (Int × Int × Int))) (a0_3 : Int) (a0_4 : (List Int)) (a0_5 : (List Int)) (a0_6 : Int) (a1 : Int) (x7 : ((List Int) × Int)) : Option (((List Int) × Int) ⊕ (List Int)) :=
  (bif (decide (x7.2 < (a0_3 + (1 : Int)))) then (bnd (sf73 N a0_0 a0_1 a0_2 a0_3 a0_4 a0_5 a0_6 a1 x7.2) fun v25 => (bif v25 then (ck ((x7.1.length + 1) * 8 ≤ 35184372088832 ∧ x7.1.length + 1 ≤ 35184372088832) ((ck (rng (x7.2 + (1 : Int))) (some (.inl ((x7.1 ++ [x7.2]), (x7.2 + (1 : Int)))))))) else (ck (rng (x7.2 + (1 : Int))) (some (.inl (x7.1, (x7.2 + (1 : Int)))))))) else some (.inr x7.1))
def sf65 (N : Nat) (a0_0 : Int) (a0_1 : (List (Int × Int))) (a0_2 : (List (Int × Int × Int))) (a0_3 : Int) (a0_4 : (List Int)) (a0_5 : (List Int)) (a0_6 : Int) (a1 : Int) : Option (List Int) :=
  (ck (rng (a0_3 + (1 : Int))) (bnd (iter (sf65_L1 N a0_0 a0_1 a0_2 a0_3 a0_4 a0_5 a0_6 a1) N (([] : List Int), (0 : Int))) (fun y21 => some y21)))
/- meniscus/screw.Right -/
def sf35 (N : Nat) (a0_0 : Int) (a0_1 : (List (Int × Int))) (a0_2 : (List (Int × Int × Int))) (a0_3 : Int) (a1 : Int) (a2 : Int) : Option ((List Int) × Int) :=
  (bnd (sf18 N a0_0 a0_1 a0_2 a0_3) fun v4 => (bif (!(decide (v4 = (0 : Int)))) then some ([], v4) else bnd (bnd ((bnd (sf60 N a1) fun v45 => (bif (!v45) then some true else (bnd (sf60 N a2) fun v49 => some (!v49)))) : Option (Bool)) (fun y41 => (bif y41 then some (.inl (2 : Int)) else some (.inr ()))) : Option (Int ⊕ Unit)) (sel (fun w30 => some ([], w30)) (fun w32 => (bnd (sf62 N a0_0 a0_1 a0_2 a0_3 a2) fun v53 => (bnd (sf65 N v53.1 v53.2.1 v53.2.2.1 v53.2.2.2.1 v53.2.2.2.2.1 v53.2.2.2.2.2.1 v53.2.2.2.2.2.2 a1) fun v61 => (bif (decide (((v61).length : Int) = (0 : Int))) then some ([], (7 : Int)) else some (v61, (0 : Int)))))))))
/- meniscus/meniscusref04.Right -/
def sf36_L1 (N : Nat) (a0_0 : Int) (a0_1 : (List (Int × Int))) (a0_2 : (List (Int × Int × Int))) (a0_3 : Int) (a1 : Int) (a2 : Int) (x6 : ((List Int) × Int)) : Option (((List Int) × Int) ⊕ (List Int)) :=
  (bif (decide (x6.2 ≤ a0_3)) then (bnd (sf34 N a0_0 a0_1 a0_2 a0_3 x6.2 a1) fun v24 => (bif (decide (v24 ≤ a2)) then (ck ((x6.1.length + 1) * 8 ≤ 35184372088832 ∧ x6.1.length + 1 ≤ 35184372088832) ((ck (rng (x6.2 + (1 : Int))) (some (.inl ((x6.1 ++ [x6.2]), (x6.2 + (1 : Int)))))))) else (ck (rng (x6.2 + (1 : Int))) (some (.inl (x6.1, (x6.2 + (1 : Int)))))))) else some (.inr x6.1))
def sf36 (N : Nat) (a0_0 : Int) (a0_1 : (List (Int × Int))) (a0_2 : (List (Int × Int × Int))) (a0_3 : Int) (a1 : Int) (a2 : Int) : Option (List Int) :=
  bnd (iter (sf36_L1 N a0_0 a0_1 a0_2 a0_3 a1 a2) N (([] : List Int), (0 : Int))) (fun y20 => some y20)
/- meniscus/meniscuslaw04.ints -/
def sf37_L1 (a0 : (List Int)) (a1 : (List Int)) (x2 : Int) : Option (Int ⊕ (Unit ⊕ Unit)) :=
  (bif (decide (x2 < ((a0).length : Int))) then (ix a0 x2 fun x16 => (ix a1 x2 fun x17 => (bif (!(decide (x16 = x17))) then some (.inr (.inl ())) else (ck (rng (x2 + (1 : Int))) (some (.inl (x2 + (1 : Int)))))))) else some (.inr (.inr ())))
def sf37 (N : Nat) (a0 : (List Int)) (a1 : (List Int)) : Option Bool :=
  (bif (!(decide (((a0).length : Int) = ((a1).length : Int)))) then some false else bnd (iter (sf37_L1 a0 a1) N (0 : Int)) (sel (fun w11 => some false) (fun w13 => some true)))
/- meniscus/meniscuslaw04.ScrewRights -/
def sf5 (N : Nat) (a0_0 : Int) (a0_1 : (List (Int × Int))) (a0_2 : (List (Int × Int × Int))) (a0_3 : Int) (a1 : Int) (a2 : Int) : Option Bool :=
  (bnd (sf16 N a0_0 a0_1 a0_2 a0_3 ([]) ([])) fun v4 => (bif (!v4) then some true else (bnd (sf19 N a0_0 a0_1 a0_2 a0_3) fun v9 => (bnd (sf35 N v9.1 v9.2.1 v9.2.2.1 v9.2.2.2 a1 a2) fun v14 => (bnd (sf23 N a0_0 a0_1 a0_2 a0_3) fun v19 => bnd (bnd ((bif (decide (v19 = (0 : Int))) then (bnd (sf24 N a1 (0 : Int) (5000 : Int)) fun v62 => (bif (!v62) then some true else (bnd (sf24 N a2 (0 : Int) (5000 : Int)) fun v66 => some (!v66)))) else some false) : Option (Bool)) (fun y57 => (bif y57 then some (2 : Int) else some v19)) : Option (Int)) (fun y45 => bnd ((bif (decide (y45 = (0 : Int))) then (bnd (sf36 N a0_0 a0_1 a0_2 a0_3 a1 a2) fun v89 => (bif (decide (((v89).length : Int) = (0 : Int))) then some ((7 : Int), v89) else some (y45, v89))) else some (y45, [])) : Option ((Int × (List Int)))) (fun y83 => (bif (decide (v14.2 = y83.1)) then (bnd (sf37 N v14.1 y83.2) fun v101 => (bif v101 then some true else some false)) else some false))))))))
/- meniscus/meniscuslaw04.word -/
def sf75 (N : Nat) (a0 : (List Int)) (a1 : Int) : Option Int :=
  (bif (decide (((a0).length : Int) = (0 : Int))) then some (0 : Int) else (ck (((a0).length : Int) ≠ 0) ((ix a0 (Int.tmod a1 ((a0).length : Int)) fun x3 => (ck (IntKind.wrap .i64 x3 = x3) (some x3))))))
/- meniscus/meniscuslaw04.picked -/
def sf74 (N : Nat) (a0_0 : Int) (a0_1 : Int) (a1 : Int) : Option Int :=
  (ck (rng (a0_1 - a0_0)) ((ck (rng ((a0_1 - a0_0) + (1 : Int))) ((ck (((a0_1 - a0_0) + (1 : Int)) ≠ 0) ((ck (rng (a0_0 + (Int.tmod a1 ((a0_1 - a0_0) + (1 : Int))))) (some (a0_0 + (Int.tmod a1 ((a0_1 - a0_0) + (1 : Int))))))))))))
/- meniscus/meniscuslaw04.Picked -/
def sf44_L1 (N : Nat) (a0_1 : (List (Int × Int))) (a1 : (List Int)) (x32 : (Int × (List Int))) : Option ((Int × (List Int)) ⊕ (List Int)) :=
  (bif (decide (x32.1 < ((a0_1).length : Int))) then (ix a0_1 x32.1 fun x51 => (bnd (sf75 N a1 x32.1) fun v52 => (bnd (sf74 N x51.1 x51.2 v52) fun v55 => (ck ((x32.2.length + 1) * 8 ≤ 35184372088832 ∧ x32.2.length + 1 ≤ 35184372088832) ((ck (rng (x32.1 + (1 : Int))) (some (.inl ((x32.1 + (1 : Int)), (x32.2 ++ [v55])))))))))) else some (.inr x32.2))
def sf44_L2 (N : Nat) (a0_2 : (List (Int × Int × Int))) (a1 : (List Int)) (x86 : (Int × (List Int))) : Option ((Int × (List Int)) ⊕ (List Int)) :=
  (bif (decide (x86.1 < ((a0_2).length : Int))) then (ix a0_2 x86.1 fun x107 => (ck (rng (x86.1 + (9 : Int))) ((bnd (sf75 N a1 (x86.1 + (9 : Int))) fun v109 => (bnd (sf74 N x107.2.1 x107.2.2 v109) fun v112 => (ck ((x86.2.length + 1) * 8 ≤ 35184372088832 ∧ x86.2.length + 1 ≤ 35184372088832) ((ck (rng (x86.1 + (1 : Int))) (some (.inl ((x86.1 + (1 : Int)), (x86.2 ++ [v112])))))))))))) else some (.inr x86.2))
def sf44 (N : Nat) (a0_0 : Int) (a0_1 : (List (Int × Int))) (a0_2 : (List (Int × Int × Int))) (a0_3 : Int) (a1 : (List Int)) : Option ((List Int) × (List Int)) :=
  bnd (iter (sf44_L1 N a0_1 a1) N ((0 : Int), ([] : List Int))) (fun y47 => bnd (iter (sf44_L2 N a0_2 a1) N ((0 : Int), ([] : List Int))) (fun y103 => some (y47, y103)))
/- meniscus/meniscuslaw04.ScrewEnds -/
def sf9_L1 (N : Nat) (a0_0 : Int) (a0_1 : (List (Int × Int))) (a0_2 : (List (Int × Int × Int))) (a0_3 : Int) (a1 : (List Int)) (x51 : Int) : Option (Int ⊕ (Unit ⊕ Unit)) :=
  (bif (decide (x51 ≤ a0_3)) then (bnd (sf19 N a0_0 a0_1 a0_2 a0_3) fun v265 => (bnd (sf22 N v265.1 v265.2.1 v265.2.2.1 v265.2.2.2 x51) fun v272 => (bnd (sf19 N a0_0 a0_1 a0_2 a0_3) fun v279 => (bnd (sf45 N a0_0 a0_1 a0_2 a0_3 false) fun v290 => (bnd (sf21 N v290.1 v290.2) fun v300 => (bnd (sf20 N v279.1 v279.2.1 v279.2.2.1 v279.2.2.2 x51 v300.1 v300.2) fun v311 => (bnd (sf19 N a0_0 a0_1 a0_2 a0_3) fun v314 => (bnd (sf45 N a0_0 a0_1 a0_2 a0_3 true) fun v329 => (bnd (sf21 N v329.1 v329.2) fun v343 => (bnd (sf20 N v314.1 v314.2.1 v314.2.2.1 v314.2.2.2 x51 v343.1 v343.2) fun v358 => (bnd (sf19 N a0_0 a0_1 a0_2 a0_3) fun v361 => (bnd (sf44 N a0_0 a0_1 a0_2 a0_3 a1) fun v380 => (bnd (sf21 N v380.1 v380.2) fun v398 => (bnd (sf20 N v361.1 v361.2.1 v361.2.2.1 v361.2.2.2 x51 v398.1 v398.2) fun v417 => bnd ((bif (!(decide (v272.2.2 = (0 : Int)))) then some true else (bif (!(decide (v311.2 = (0 : Int)))) then some true else (bif (!(decide (v358.2 = (0 : Int)))) then some true else (bif (!(decide (v417.2 = (0 : Int)))) then some true else (bnd (sf33 N v311.1 v358.1) fun v446 => (bif (!(v272.1 == v446.1 && (v272.2.1 == v446.2 && true))) then some true else (bif (decide (v417.1 < v311.1)) then some true else some (decide (v358.1 < v417.1))))))))) : Option (Bool)) (fun y434 => (bif y434 then some (.inr (.inl ())) else (ck (rng (x51 + (1 : Int))) (some (.inl (x51 + (1 : Int))))))))))))))))))))) else some (.inr (.inr ())))
def sf9 (N : Nat) (a0_0 : Int) (a0_1 : (List (Int × Int))) (a0_2 : (List (Int × Int × Int))) (a0_3 : Int) (a1 : (List Int)) : Option Bool :=
  bnd (bnd ((bnd (sf16 N a0_0 a0_1 a0_2 a0_3 ([]) ([])) fun v42 => (bif (!v42) then some true else (bnd (sf23 N a0_0 a0_1 a0_2 a0_3) fun v46 => some (!(decide (v46 = (0 : Int))))))) : Option (Bool)) (fun y38 => (bif y38 then some (.inl true) else some (.inr ()))) : Option (Bool ⊕ Unit)) (sel (fun w27 => some w27) (fun w29 => bnd (iter (sf9_L1 N a0_0 a0_1 a0_2 a0_3 a1) N (0 : Int)) (sel (fun w260 => some false) (fun w262 => some true))))
/- meniscus/meniscuslaw04.ScrewTurns -/
def sf13 (N : Nat) (a0_0 : Int) (a0_1 : (List (Int × Int))) (a0_2 : (List (Int × Int × Int))) (a0_3 : Int) (a1 : (List Int)) (a2 : Int) (a3 : Int) : Option Bool :=
  bnd (bnd ((bnd (sf16 N a0_0 a0_1 a0_2 a0_3 ([]) ([])) fun v45 => (bif (!v45) then some true else (bnd (sf23 N a0_0 a0_1 a0_2 a0_3) fun v49 => (bif (!(decide (v49 = (0 : Int)))) then some true else some (decide (a0_3 < ((a0_1).length : Int))))))) : Option (Bool)) (fun y41 => (bif y41 then some (.inl true) else some (.inr ()))) : Option (Bool ⊕ Unit)) (sel (fun w29 => some w29) (fun w31 => (ck (IntKind.wrap .i64 a2 = a2) ((ck (rng (a0_3 - ((a0_1).length : Int))) ((ck (rng ((a0_3 - ((a0_1).length : Int)) + (1 : Int))) ((ck (((a0_3 - ((a0_1).length : Int)) + (1 : Int)) ≠ 0) ((ck (IntKind.wrap .i64 a3 = a3) ((ck (rng (a0_3 - ((a0_1).length : Int))) ((ck (rng ((a0_3 - ((a0_1).length : Int)) + (1 : Int))) ((ck (((a0_3 - ((a0_1).length : Int)) + (1 : Int)) ≠ 0) (bnd (bnd ((bnd (sf49 N a0_0 a0_1 a0_2 a0_3 (Int.tmod a2 ((a0_3 - ((a0_1).length : Int)) + (1 : Int)))) fun v163 => (ck (rng ((Int.tmod a2 ((a0_3 - ((a0_1).length : Int)) + (1 : Int))) + ((a0_1).length : Int))) ((ck (rng (((Int.tmod a2 ((a0_3 - ((a0_1).length : Int)) + (1 : Int))) + ((a0_1).length : Int)) - (1 : Int))) ((bnd (sf49 N a0_0 a0_1 a0_2 a0_3 (((Int.tmod a2 ((a0_3 - ((a0_1).length : Int)) + (1 : Int))) + ((a0_1).length : Int)) - (1 : Int))) fun v168 => (bif (!(decide (v163 = v168))) then some true else (bnd (sf49 N a0_0 a0_1 a0_2 a0_3 (Int.tmod a3 ((a0_3 - ((a0_1).length : Int)) + (1 : Int)))) fun v173 => (ck (rng ((Int.tmod a3 ((a0_3 - ((a0_1).length : Int)) + (1 : Int))) + ((a0_1).length : Int))) ((ck (rng (((Int.tmod a3 ((a0_3 - ((a0_1).length : Int)) + (1 : Int))) + ((a0_1).length : Int)) - (1 : Int))) ((bnd (sf49 N a0_0 a0_1 a0_2 a0_3 (((Int.tmod a3 ((a0_3 - ((a0_1).length : Int)) + (1 : Int))) + ((a0_1).length : Int)) - (1 : Int))) fun v178 => (bif (!(decide (v173 = v178))) then some true else (bnd (sf49 N a0_0 a0_1 a0_2 a0_3 (Int.tmod a2 ((a0_3 - ((a0_1).length : Int)) + (1 : Int)))) fun v183 => (bnd (sf49 N a0_0 a0_1 a0_2 a0_3 (Int.tmod a3 ((a0_3 - ((a0_1).length : Int)) + (1 : Int)))) fun v187 => some (!(decide (v183 = v187))))))))))))))))))) : Option (Bool)) (fun y159 => (bif y159 then some (.inl true) else some (.inr ()))) : Option (Bool ⊕ Unit)) (sel (fun w128 => some w128) (fun w130 => (bnd (sf44 N a0_0 a0_1 a0_2 a0_3 a1) fun v195 => (bnd (sf19 N a0_0 a0_1 a0_2 a0_3) fun v206 => (bnd (sf21 N v195.1 v195.2) fun v217 => (bnd (sf20 N v206.1 v206.2.1 v206.2.2.1 v206.2.2.2 (Int.tmod a2 ((a0_3 - ((a0_1).length : Int)) + (1 : Int))) v217.1 v217.2) fun v227 => (bnd (sf19 N a0_0 a0_1 a0_2 a0_3) fun v230 => (ck (rng ((Int.tmod a2 ((a0_3 - ((a0_1).length : Int)) + (1 : Int))) + ((a0_1).length : Int))) ((bnd (sf21 N v195.1 v195.2) fun v245 => (bnd (sf20 N v230.1 v230.2.1 v230.2.2.1 v230.2.2.2 ((Int.tmod a2 ((a0_3 - ((a0_1).length : Int)) + (1 : Int))) + ((a0_1).length : Int)) v245.1 v245.2) fun v258 => (bnd (sf19 N a0_0 a0_1 a0_2 a0_3) fun v261 => (bnd (sf21 N v195.1 v195.2) fun v278 => (bnd (sf20 N v261.1 v261.2.1 v261.2.2.1 v261.2.2.2 (Int.tmod a3 ((a0_3 - ((a0_1).length : Int)) + (1 : Int))) v278.1 v278.2) fun v294 => (bnd (sf19 N a0_0 a0_1 a0_2 a0_3) fun v297 => (ck (rng ((Int.tmod a3 ((a0_3 - ((a0_1).length : Int)) + (1 : Int))) + ((a0_1).length : Int))) ((bnd (sf21 N v195.1 v195.2) fun v318 => (bnd (sf20 N v297.1 v297.2.1 v297.2.2.1 v297.2.2.2 ((Int.tmod a3 ((a0_3 - ((a0_1).length : Int)) + (1 : Int))) + ((a0_1).length : Int)) v318.1 v318.2) fun v337 => (bif (decide (v227.2 = (0 : Int))) then (bif (decide (v258.2 = (0 : Int))) then (bif (decide (v294.2 = (0 : Int))) then (bif (decide (v337.2 = (0 : Int))) then (ck (rng (v258.1 - v227.1)) ((ck (rng (v337.1 - v294.1)) ((bif (decide ((v258.1 - v227.1) = (v337.1 - v294.1))) then some true else some false))))) else some false) else some false) else some false) else some false))))))))))))))))))))))))))))))))))))))
/- meniscus/meniscuslaw04.ScrewOn -/
def sf15_L1 (N : Nat) (a0_0 : Int) (a0_1 : (List (Int × Int))) (a0_2 : (List (Int × Int × Int))) (a0_3 : Int) (v51 : ((List Int) × (List Int))) (x61 : (Int × Int)) : Option ((Int × Int) ⊕ (Unit ⊕ Unit)) :=
  (bif (decide (x61.2 ≤ a0_3)) then (bnd (sf19 N a0_0 a0_1 a0_2 a0_3) fun v114 => (bnd (sf21 N v51.1 v51.2) fun v125 => (bnd (sf20 N v114.1 v114.2.1 v114.2.2.1 v114.2.2.2 x61.2 v125.1 v125.2) fun v135 => bnd ((bif (!(decide (v135.2 = (0 : Int)))) then some true else (bif (decide (v135.1 ≤ x61.1)) then some true else (bif (decide (x61.2 = (0 : Int))) then some (!(decide (v135.1 = (0 : Int)))) else some false))) : Option (Bool)) (fun y141 => (bif y141 then some (.inr (.inl ())) else (ck (rng (x61.2 + (1 : Int))) (some (.inl (v135.1, (x61.2 + (1 : Int))))))))))) else some (.inr (.inr ())))
def sf15 (N : Nat) (a0_0 : Int) (a0_1 : (List (Int × Int))) (a0_2 : (List (Int × Int × Int))) (a0_3 : Int) (a1 : (List Int)) : Option Bool :=
  bnd (bnd ((bnd (sf16 N a0_0 a0_1 a0_2 a0_3 ([]) ([])) fun v42 => (bif (!v42) then some true else (bnd (sf23 N a0_0 a0_1 a0_2 a0_3) fun v46 => some (!(decide (v46 = (0 : Int))))))) : Option (Bool)) (fun y38 => (bif y38 then some (.inl true) else some (.inr ()))) : Option (Bool ⊕ Unit)) (sel (fun w27 => some w27) (fun w29 => (bnd (sf44 N a0_0 a0_1 a0_2 a0_3 a1) fun v51 => bnd (iter (sf15_L1 N a0_0 a0_1 a0_2 a0_3 v51) N ((-1 : Int), (0 : Int))) (sel (fun w109 => some false) (fun w111 => some true)))))
end Go.Hx.V

/- Functions of the program come to that. -/
namespace Go.Hx.V
open Go.Hx
set_option linter.unusedVariables false
set_option maxRecDepth 20000
set_option maxHeartbeats 4000000
attribute [local irreducible] W R C thenH inBlockH Tr.get Tr.set lo
theorem ct16 (N : Nat) {a0_0 : Int} {a0_1 : (List (Int × Int))} {a0_2 : (List (Int × Int × Int))} {a0_3 : Int} {a1 : (List Int)} {a2 : (List Int)} {r : Bool} (hF : sf16 N a0_0 a0_1 a0_2 a0_3 a1 a2 = some r) {fl : Nat} {h0 : Tr HBlk} {n0 : Nat} {F0 : PH} (hd : D h0 n0) (hs : F0.sub h0) {pa0_1 : Option (Nat × Nat)} {ca0_1 : Nat} {pa0_2 : Option (Nat × Nat)} {ca0_2 : Nat} {pa1 : Option (Nat × Nat)} {ca1 : Nat} {pa2 : Option (Nat × Nat)} {ca2 : Nat} (ra0_1 : RowF (rP rI rI) 2 F0 pa0_1 ca0_1 a0_1) (ra0_2 : RowF (rP rI (rP rI rI)) 3 F0 pa0_2 ca0_2 a0_2) (ra1 : RowF rI 1 F0 pa1 ca1 a1) (ra2 : RowF rI 1 F0 pa2 ca2 a2) : C LW fl 16 [(.agg [(i64 a0_0), (.slice pa0_1 (a0_1).length ca0_1), (.slice pa0_2 (a0_2).length ca0_2), (i64 a0_3)]), (.slice pa1 (a1).length ca1), (.slice pa2 (a2).length ca2)] ⟨h0, n0⟩ (KS (.bool r) n0 h0) := by
  unfold sf16 at hF
  refine in_cT hd hs lw16 rfl rfl (by rfl) (fun st T hT => ?_)
  have hfl : n0 ≤ n0 := Nat.le_refl n0
  have t0 := hT 0 _ rfl
  have t1 := hT 1 _ rfl
  have t2 := hT 2 _ rfl
  dsimp only [L16]
  refine w_seq ?_; refine w_reg ?_; refine v_box st (fun b1 h2 n3 st => ?_); refine v_move ?_; refine r_nil ?_; refine th_n ?_; refine w_seq ?_; refine w_reg ?_; refine v_fa ?_; refine v_ld1 (st.at (i := 0) rfl).2.2 rfl ?_; refine v_len ?_; refine v_leq ?_; refine v_move ?_
  rcases Bool.eq_false_or_eq_true (decide (((a0_1).length : Int) ≤ (11 : Int))) with hb4 | hb4
  · have hF := bif_t hb4 hF; refine g_take hb4 (v_fa ?_); refine g_take hb4 (v_ld1 (st.at (i := 0) rfl).2.2 rfl ?_); refine g_take hb4 (v_len ?_); refine g_take hb4 (v_leq ?_); refine v_pick hb4 ?_; refine v_move ?_
    rcases Bool.eq_false_or_eq_true (decide (((a0_2).length : Int) ≤ (6 : Int))) with hb5 | hb5
    · have hF := bif_t hb5 hF; refine g_take hb5 (v_move ?_); refine g_take hb5 (v_len ?_); refine g_take hb5 (v_leq ?_); refine v_pick hb5 ?_; refine v_move ?_
      rcases Bool.eq_false_or_eq_true (decide (((a1).length : Int) ≤ (13 : Int))) with hb6 | hb6
      · have hF := bif_t hb6 hF; refine g_take hb6 (v_move ?_); refine g_take hb6 (v_len ?_); refine g_take hb6 (v_leq ?_); refine v_pick hb6 ?_; refine v_move ?_; refine r_nil ?_; refine th_n ?_; refine w_ret ?_; obtain rfl := inj hF
        exact end_s st (Res.t gA Res.nil) rfl rfl
      · have hF := bif_f hb6 hF; refine g_skip hb6 ?_; refine g_skip hb6 ?_; refine g_skip hb6 ?_; refine v_pick' hb6 ?_; refine v_move ?_; refine r_nil ?_; refine th_n ?_; refine w_ret ?_; obtain rfl := inj hF
        exact end_s st (Res.t gA Res.nil) rfl rfl
    · have hF := bif_f hb5 hF; refine g_skip hb5 ?_; refine g_skip hb5 ?_; refine g_skip hb5 ?_; refine v_pick' hb5 ?_; refine v_move ?_; refine g_skip rfl ?_; refine g_skip rfl ?_; refine g_skip rfl ?_; refine v_pick' rfl ?_; refine v_move ?_; refine r_nil ?_; refine th_n ?_; refine w_ret ?_; obtain rfl := inj hF
      exact end_s st (Res.t gA Res.nil) rfl rfl
  · have hF := bif_f hb4 hF; refine g_skip hb4 ?_; refine g_skip hb4 ?_; refine g_skip hb4 ?_; refine g_skip hb4 ?_; refine v_pick' hb4 ?_; refine v_move ?_; refine g_skip rfl ?_; refine g_skip rfl ?_; refine g_skip rfl ?_; refine v_pick' rfl ?_; refine v_move ?_; refine g_skip rfl ?_; refine g_skip rfl ?_; refine g_skip rfl ?_; refine v_pick' rfl ?_; refine v_move ?_; refine r_nil ?_; refine th_n ?_; refine w_ret ?_; obtain rfl := inj hF
    exact end_s st (Res.t gA Res.nil) rfl rfl
theorem ct25 (N : Nat) {a0_0 : Int} {a0_1 : Int} {r : (Int × Int)} (hF : sf25 N a0_0 a0_1 = some r) {fl : Nat} {h0 : Tr HBlk} {n0 : Nat} {F0 : PH} (hd : D h0 n0) (hs : F0.sub h0) : C LW fl 25 [(.agg [(i64 a0_0), (i64 a0_1)])] ⟨h0, n0⟩ (KS (.agg [(i64 r.1), (i64 r.2)]) n0 h0) := by
  unfold sf25 at hF
  refine in_cT hd hs lw25 rfl rfl (by rfl) (fun st T hT => ?_)
  have hfl : n0 ≤ n0 := Nat.le_refl n0
  have t0 := hT 0 _ rfl
  dsimp only [L25]
  refine w_seq ?_; refine w_reg ?_; refine v_box st (fun b1 h2 n3 st => ?_); refine v_alloc st (fun b4 h5 n6 st => ?_); refine r_nil ?_; refine th_n ?_; refine w_seq ?_; refine w_reg ?_; refine v_fa ?_; refine v_ld1 (st.at (i := 0) rfl).2.2 rfl ?_; refine v_fa ?_; refine v_ld1 (st.at (i := 0) rfl).2.2 rfl ?_; refine v_build (cs := [(i64 a0_0), (i64 a0_1)]) rfl ?_; refine v_st (cs' := [(i64 a0_0), (i64 a0_1)]) st 1 rfl rfl rfl rfl hfl (fun h7 st => ?_); refine r_nil ?_; refine th_n ?_; refine w_ret ?_; obtain rfl := inj hF
  exact end_s st (Res.c gA (st.at (i := 1) rfl).2.2 (show takeN _ _ = some [(i64 a0_0), (i64 a0_1)] from rfl) Res.nil) rfl rfl
theorem ct98 (N : Nat) {a0_0 : Int} {a0_1 : Int} {r : Bool} (hF : sf98 N a0_0 a0_1 = some r) {fl : Nat} {h0 : Tr HBlk} {n0 : Nat} {F0 : PH} (hd : D h0 n0) (hs : F0.sub h0) : C LW fl 98 [(.agg [(i64 a0_0), (i64 a0_1)])] ⟨h0, n0⟩ (KS (.bool r) n0 h0) := by
  unfold sf98 at hF
  refine in_cT hd hs lw98 rfl rfl (by rfl) (fun st T hT => ?_)
  have hfl : n0 ≤ n0 := Nat.le_refl n0
  have t0 := hT 0 _ rfl
  dsimp only [L98]
  refine w_seq ?_; refine w_reg ?_; refine v_box st (fun b1 h2 n3 st => ?_); refine v_move ?_; refine r_nil ?_; refine th_n ?_; refine w_seq ?_; refine w_reg ?_; refine v_fa ?_; refine v_ld1 (st.at (i := 0) rfl).2.2 rfl ?_; refine v_leq ?_; refine v_move ?_
  rcases Bool.eq_false_or_eq_true (decide ((-20 : Int) ≤ a0_0)) with hb4 | hb4
  · have hF := bif_t hb4 hF; refine g_take hb4 (v_fa ?_); refine g_take hb4 (v_ld1 (st.at (i := 0) rfl).2.2 rfl ?_); refine g_take hb4 (v_fa ?_); refine g_take hb4 (v_ld1 (st.at (i := 0) rfl).2.2 rfl ?_); refine g_take hb4 (v_leq ?_); refine v_pick hb4 ?_; refine v_move ?_
    rcases Bool.eq_false_or_eq_true (decide (a0_0 ≤ a0_1)) with hb5 | hb5
    · have hF := bif_t hb5 hF; refine g_take hb5 (v_fa ?_); refine g_take hb5 (v_ld1 (st.at (i := 0) rfl).2.2 rfl ?_); refine g_take hb5 (v_leq ?_); refine v_pick hb5 ?_; refine v_move ?_; refine r_nil ?_; refine th_n ?_; refine w_ret ?_; obtain rfl := inj hF
      exact end_s st (Res.t gA Res.nil) rfl rfl
    · have hF := bif_f hb5 hF; refine g_skip hb5 ?_; refine g_skip hb5 ?_; refine g_skip hb5 ?_; refine v_pick' hb5 ?_; refine v_move ?_; refine r_nil ?_; refine th_n ?_; refine w_ret ?_; obtain rfl := inj hF
      exact end_s st (Res.t gA Res.nil) rfl rfl
  · have hF := bif_f hb4 hF; refine g_skip hb4 ?_; refine g_skip hb4 ?_; refine g_skip hb4 ?_; refine g_skip hb4 ?_; refine g_skip hb4 ?_; refine v_pick' hb4 ?_; refine v_move ?_; refine g_skip rfl ?_; refine g_skip rfl ?_; refine g_skip rfl ?_; refine v_pick' rfl ?_; refine v_move ?_; refine r_nil ?_; refine th_n ?_; refine w_ret ?_; obtain rfl := inj hF
    exact end_s st (Res.t gA Res.nil) rfl rfl
theorem ct102 (N : Nat) {a0_0 : Int} {a0_1 : Int} {a0_2 : Int} {a1_0 : Int} {a1_1 : Int} {a1_2 : Int} {r : Bool} (hF : sf102 N a0_0 a0_1 a0_2 a1_0 a1_1 a1_2 = some r) {fl : Nat} {h0 : Tr HBlk} {n0 : Nat} {F0 : PH} (hd : D h0 n0) (hs : F0.sub h0) : C LW fl 102 [(.agg [(i64 a0_0), (i64 a0_1), (i64 a0_2)]), (.agg [(i64 a1_0), (i64 a1_1), (i64 a1_2)])] ⟨h0, n0⟩ (KS (.bool r) n0 h0) := by
  unfold sf102 at hF
  refine in_cT hd hs lw102 rfl rfl (by rfl) (fun st T hT => ?_)
  have hfl : n0 ≤ n0 := Nat.le_refl n0
  have t0 := hT 0 _ rfl
  have t1 := hT 1 _ rfl
  dsimp only [L102]
  refine w_seq ?_; refine w_reg ?_; refine v_box st (fun b1 h2 n3 st => ?_); refine v_box st (fun b4 h5 n6 st => ?_); refine v_move ?_; refine r_nil ?_; refine th_n ?_; refine w_seq ?_; refine w_reg ?_; refine v_fa ?_; refine v_ld1 (st.at (i := 0) rfl).2.2 rfl ?_; refine v_fa ?_; refine v_ld1 (st.at (i := 1) rfl).2.2 rfl ?_; refine v_lss ?_; refine v_move ?_; refine r_nil ?_; refine th_n ?_; refine w_ret ?_; obtain rfl := inj hF
  exact end_s st (Res.t gA Res.nil) rfl rfl
theorem ct83 (N : Nat) {r : Unit} (hF : sf83 N = some r) {fl : Nat} {h0 : Tr HBlk} {n0 : Nat} {F0 : PH} (hd : D h0 n0) (hs : F0.sub h0) : C LW fl 83 [] ⟨h0, n0⟩ (KS (.agg [(.func 105 [] [])]) n0 h0) := by
  unfold sf83 at hF
  refine in_cT hd hs lw83 rfl rfl (by rfl) (fun st T hT => ?_)
  have hfl : n0 ≤ n0 := Nat.le_refl n0
  dsimp only [L83]
  refine w_seq ?_; refine w_reg ?_; refine v_alloc st (fun b1 h2 n3 st => ?_); refine r_nil ?_; refine th_n ?_; refine w_seq ?_; refine w_reg ?_; refine v_build (cs := [(.func 105 [] [])]) rfl ?_; refine v_st (cs' := [(.func 105 [] [])]) st 0 rfl rfl rfl rfl hfl (fun h4 st => ?_); refine r_nil ?_; refine th_n ?_; refine w_ret ?_; obtain rfl := inj hF
  exact end_s st (Res.c gA (st.at (i := 0) rfl).2.2 (show takeN _ _ = some [(.func 105 [] [])] from rfl) Res.nil) rfl rfl
theorem ct105 (N : Nat) {a0_0 : Int} {a0_1 : Int} {r : Int} (hF : sf105 N a0_0 a0_1 = some r) {fl : Nat} {h0 : Tr HBlk} {n0 : Nat} {F0 : PH} (hd : D h0 n0) (hs : F0.sub h0) : C LW fl 105 [(.agg [(i64 a0_0), (i64 a0_1)])] ⟨h0, n0⟩ (KS (i64 r) n0 h0) := by
  unfold sf105 at hF
  refine in_cT hd hs lw105 rfl rfl (by rfl) (fun st T hT => ?_)
  have hfl : n0 ≤ n0 := Nat.le_refl n0
  have t0 := hT 0 _ rfl
  dsimp only [L105]
  refine w_seq ?_; refine w_reg ?_; refine v_box st (fun b1 h2 n3 st => ?_); refine v_move ?_; refine r_nil ?_; refine th_n ?_; refine w_seq ?_; refine w_reg ?_; refine v_fa ?_; refine v_ld1 (st.at (i := 0) rfl).2.2 rfl ?_; refine v_move ?_; refine r_nil ?_; refine th_n ?_; refine w_ret ?_; obtain rfl := inj hF
  exact end_s st (Res.t gA Res.nil) rfl rfl
theorem ct103 (N : Nat) {a0 : Int} {a1 : (List Int)} {r : Int} (hF : sf103 N a0 a1 = some r) {fl : Nat} {h0 : Tr HBlk} {n0 : Nat} {F0 : PH} (hd : D h0 n0) (hs : F0.sub h0) {pa1 : Option (Nat × Nat)} {ca1 : Nat} (ra1 : RowF rI 1 F0 pa1 ca1 a1) : C LW fl 103 [(i64 a0), (.slice pa1 (a1).length ca1)] ⟨h0, n0⟩ (KS (i64 r) n0 h0) := by
  unfold sf103 at hF
  refine in_cT hd hs lw103 rfl rfl (by rfl) (fun st T hT => ?_)
  have hfl : n0 ≤ n0 := Nat.le_refl n0
  have t0 := hT 0 _ rfl
  have t1 := hT 1 _ rfl
  dsimp only [L103]
  refine w_seq ?_; refine w_reg ?_; refine v_move ?_; refine r_nil ?_; refine th_n ?_; refine w_seq ?_; refine w_seq ?_; refine w_reg ?_; refine v_move ?_; refine v_len ?_; refine v_move ?_; refine r_nil ?_; refine th_n ?_; refine w_block ?_; obtain ⟨y8, hy, hF⟩ := bnd_some hF; refine v_loopD (sf103_L1 a1) (fun x1 T ds2 h nx => ∃ (F2 : PH), ds2 = [] ∧ PH.le F0 F2 ∧ St n0 h0 F0 F2 h nx [] ∧ T.get 0 = some (i64 x1.1) ∧ T.get 7 = some (.slice pa1 (a1).length ca1) ∧ T.get 8 = some (i64 ((a1).length : Int)) ∧ T.get 9 = some (i64 x1.2)) (fun y e a σ => e = .exit 0 ∧ a.nt = 19 ∧ ∃ (F9 : PH), a.defers = [] ∧ PH.le F0 F9 ∧ St n0 h0 F0 F9 σ.h σ.nx [] ∧ a.tmps.get 0 = some (i64 y)) (fun x1 T ds2 h nx s hp hF => ?_) N _ y8 _ _ _ _ hy ⟨F0, rfl, (PH.le.refl _), st, gA, gA, gA, gA⟩ (fun e a σ hne hq => ?_)
  · obtain ⟨F2, rfl, le2, st, t0, t7, t8, t9⟩ := hp; unfold sf103_L1 at hF; unfold L103w0; refine w_seq ?_; refine w_reg ?_; refine v_lss ?_; refine r_nil ?_; refine th_n ?_; refine w_seq ?_; refine v_cond (fun hb10 => ?_) (fun hb10 => ?_)
    · have hF := bif_t hb10 hF; refine w_skip ?_; refine th_n ?_; refine w_seq ?_; refine w_block ?_; refine w_seq ?_; refine w_reg ?_; obtain ⟨n11, x11, z11, l11, g11, hF⟩ := ix_some hF; obtain ⟨b11, o11, s11, j11, r11, e11, f11, k11, rfl⟩ := RowF.get ra1 g11; refine v_ixp e11 z11 l11 ?_; refine v_ld1 (st.sub _ _ (le2 _ _ f11)) (take_at (j := 0) k11 rfl) ?_; refine v_move ?_; refine r_nil ?_; refine th_n ?_; refine w_seq ?_; refine w_reg ?_; refine v_move ?_; refine v_move ?_; refine v_lss ?_; refine r_nil ?_; refine th_n ?_; refine v_cond (fun hb12 => ?_) (fun hb12 => ?_)
      · have hF := bif_t hb12 hF; refine w_reg ?_; refine v_move ?_; refine v_move ?_; refine r_nil ?_; refine ib_n ?_; refine th_n ?_; refine w_reg ?_; obtain ⟨q13, hF⟩ := ck_some hF; refine v_add q13 ?_; refine v_move ?_; refine r_nil ?_; refine thn ⟨_, (inj hF).symm, rfl, ?_⟩; dsimp only
        exact ⟨F2, rfl, le2, st, gA, gA, gA, gA⟩
      · have hF := bif_f hb12 hF; refine w_skip ?_; refine ib_n ?_; refine th_n ?_; refine w_reg ?_; obtain ⟨q14, hF⟩ := ck_some hF; refine v_add q14 ?_; refine v_move ?_; refine r_nil ?_; refine thn ⟨_, (inj hF).symm, rfl, ?_⟩; dsimp only
        exact ⟨F2, rfl, le2, st, gA, gA, gA, gA⟩
    · have hF := bif_f hb10 hF; refine w_exit ?_; refine th_e ?_; refine th_e ?_; refine ⟨_, (inj hF).symm, rfl, rfl, ?_⟩; dsimp only
      exact ⟨F2, rfl, le2, st, gA⟩
  · obtain ⟨N9, T, ds9⟩ := a; obtain ⟨h15, n16⟩ := σ; obtain ⟨rfl, e1, F9, e2, le9, st, t0⟩ := hq
    dsimp only at e1 e2
    subst e1
    subst e2
    dsimp only at st t0
    refine ib_e ?_; refine th_n ?_; refine w_seq ?_; refine w_reg ?_; refine v_move ?_; refine v_move ?_; refine r_nil ?_; refine th_n ?_; refine w_ret ?_; obtain rfl := inj hF
    exact end_s st (Res.t gA Res.nil) rfl rfl
theorem ct30 (N : Nat) {a0 : (List Int)} {r : (List Int)} (hF : sf30 N a0 = some r) {fl : Nat} {h0 : Tr HBlk} {n0 : Nat} {F0 : PH} (hd : D h0 n0) (hs : F0.sub h0) (hfl : fl ≤ n0) {pa0 : Option (Nat × Nat)} {ca0 : Nat} (ra0 : RowF rI 1 F0 pa0 ca0 a0) : C LW fl 30 [(.slice pa0 (a0).length ca0)] ⟨h0, n0⟩ (KR (lvL rI 1) F0 h0 n0 r) := by
  unfold sf30 at hF
  refine in_mT hd hs hfl lw30 rfl rfl (by rfl) (fun st T hT => ?_)
  have t0 := hT 0 _ rfl
  dsimp only [L30]
  refine w_seq ?_; refine w_reg ?_; refine v_move ?_; refine r_nil ?_; refine th_n ?_; refine w_seq ?_; refine w_reg ?_; refine v_move ?_
  have st := st.nilL 1
  have w1 : LR rI 1 F0 ([] : List Int) [] := LR.nil
  obtain ⟨q3, hF⟩ := ck_some hF
  refine v_apr (m := (([] : List Int) ++ a0).length) st 0 rfl w1 ra0 q3 hfl (by decide) (by simp) (fun o3 c3 cs3 h3 n3 st w3 => ?_)
  refine v_move ?_; refine r_nil ?_; refine th_n ?_; refine w_ret ?_; obtain rfl := inj hF
  obtain ⟨F4, le4, st, rf4⟩ := St.freeze st 0 rfl w3 (by decide)
  exact end_r st (Res.t gA Res.nil) ⟨_, _, rfl, rf4⟩
theorem ct79 (N : Nat) {a0_0 : Int} {a0_1 : (List (Int × Int))} {a0_2 : (List (Int × Int × Int))} {a0_3 : Int} {a1 : Int} {r : Bool} (hF : sf79 N a0_0 a0_1 a0_2 a0_3 a1 = some r) {fl : Nat} {h0 : Tr HBlk} {n0 : Nat} {F0 : PH} (hd : D h0 n0) (hs : F0.sub h0) {pa0_1 : Option (Nat × Nat)} {ca0_1 : Nat} {pa0_2 : Option (Nat × Nat)} {ca0_2 : Nat} (ra0_1 : RowF (rP rI rI) 2 F0 pa0_1 ca0_1 a0_1) (ra0_2 : RowF (rP rI (rP rI rI)) 3 F0 pa0_2 ca0_2 a0_2) : C LW fl 79 [(.agg [(i64 a0_0), (.slice pa0_1 (a0_1).length ca0_1), (.slice pa0_2 (a0_2).length ca0_2), (i64 a0_3)]), (i64 a1)] ⟨h0, n0⟩ (KS (.bool r) n0 h0) := by
  unfold sf79 at hF
  refine in_cT hd hs lw79 rfl rfl (by rfl) (fun st T hT => ?_)
  have hfl : n0 ≤ n0 := Nat.le_refl n0
  have t0 := hT 0 _ rfl
  have t1 := hT 1 _ rfl
  dsimp only [L79]
  refine w_seq ?_; refine w_reg ?_; refine v_box st (fun b1 h2 n3 st => ?_); refine v_move ?_; refine r_nil ?_; refine th_n ?_; refine w_seq ?_; refine w_reg ?_; refine v_move ?_; refine v_leq ?_; refine v_move ?_
  rcases Bool.eq_false_or_eq_true (decide ((0 : Int) ≤ a1)) with hb4 | hb4
  · have hF := bif_t hb4 hF; refine g_take hb4 (v_move ?_); refine g_take hb4 (v_fa ?_); refine g_take hb4 (v_ld1 (st.at (i := 0) rfl).2.2 rfl ?_); refine g_take hb4 (v_leq ?_); refine v_pick hb4 ?_; refine v_move ?_; refine r_nil ?_; refine th_n ?_; refine w_ret ?_; obtain rfl := inj hF
    exact end_s st (Res.t gA Res.nil) rfl rfl
  · have hF := bif_f hb4 hF; refine g_skip hb4 ?_; refine g_skip hb4 ?_; refine g_skip hb4 ?_; refine g_skip hb4 ?_; refine v_pick' hb4 ?_; refine v_move ?_; refine r_nil ?_; refine th_n ?_; refine w_ret ?_; obtain rfl := inj hF
    exact end_s st (Res.t gA Res.nil) rfl rfl
theorem ct80 (N : Nat) {a0_0 : Int} {a0_1 : Int} {a1 : Int} {r : Bool} (hF : sf80 N a0_0 a0_1 a1 = some r) {fl : Nat} {h0 : Tr HBlk} {n0 : Nat} {F0 : PH} (hd : D h0 n0) (hs : F0.sub h0) : C LW fl 80 [(.agg [(i64 a0_0), (i64 a0_1)]), (i64 a1)] ⟨h0, n0⟩ (KS (.bool r) n0 h0) := by
  unfold sf80 at hF
  refine in_cT hd hs lw80 rfl rfl (by rfl) (fun st T hT => ?_)
  have hfl : n0 ≤ n0 := Nat.le_refl n0
  have t0 := hT 0 _ rfl
  have t1 := hT 1 _ rfl
  dsimp only [L80]
  refine w_seq ?_; refine w_reg ?_; refine v_box st (fun b1 h2 n3 st => ?_); refine v_move ?_; refine r_nil ?_; refine th_n ?_; refine w_seq ?_; refine w_reg ?_; refine v_fa ?_; refine v_ld1 (st.at (i := 0) rfl).2.2 rfl ?_; refine v_move ?_; refine v_leq ?_; refine v_move ?_
  rcases Bool.eq_false_or_eq_true (decide (a0_0 ≤ a1)) with hb4 | hb4
  · have hF := bif_t hb4 hF; refine g_take hb4 (v_move ?_); refine g_take hb4 (v_fa ?_); refine g_take hb4 (v_ld1 (st.at (i := 0) rfl).2.2 rfl ?_); refine g_take hb4 (v_leq ?_); refine v_pick hb4 ?_; refine v_move ?_; refine r_nil ?_; refine th_n ?_; refine w_ret ?_; obtain rfl := inj hF
    exact end_s st (Res.t gA Res.nil) rfl rfl
  · have hF := bif_f hb4 hF; refine g_skip hb4 ?_; refine g_skip hb4 ?_; refine g_skip hb4 ?_; refine g_skip hb4 ?_; refine v_pick' hb4 ?_; refine v_move ?_; refine r_nil ?_; refine th_n ?_; refine w_ret ?_; obtain rfl := inj hF
    exact end_s st (Res.t gA Res.nil) rfl rfl
theorem ct82 (N : Nat) {a0_0 : Int} {a0_1 : (List (Int × Int))} {a0_2 : (List (Int × Int × Int))} {a0_3 : Int} {a1 : Int} {r : Int} (hF : sf82 N a0_0 a0_1 a0_2 a0_3 a1 = some r) {fl : Nat} {h0 : Tr HBlk} {n0 : Nat} {F0 : PH} (hd : D h0 n0) (hs : F0.sub h0) {pa0_1 : Option (Nat × Nat)} {ca0_1 : Nat} {pa0_2 : Option (Nat × Nat)} {ca0_2 : Nat} (ra0_1 : RowF (rP rI rI) 2 F0 pa0_1 ca0_1 a0_1) (ra0_2 : RowF (rP rI (rP rI rI)) 3 F0 pa0_2 ca0_2 a0_2) : C LW fl 82 [(.agg [(i64 a0_0), (.slice pa0_1 (a0_1).length ca0_1), (.slice pa0_2 (a0_2).length ca0_2), (i64 a0_3)]), (i64 a1)] ⟨h0, n0⟩ (KS (i64 r) n0 h0) := by
  unfold sf82 at hF
  refine in_cT hd hs lw82 rfl rfl (by rfl) (fun st T hT => ?_)
  have hfl : n0 ≤ n0 := Nat.le_refl n0
  have t0 := hT 0 _ rfl
  have t1 := hT 1 _ rfl
  dsimp only [L82]
  refine w_seq ?_; refine w_reg ?_; refine v_box st (fun b1 h2 n3 st => ?_); refine v_move ?_; refine r_nil ?_; refine th_n ?_; refine w_seq ?_; refine w_reg ?_; refine v_move ?_; refine r_nil ?_; refine th_n ?_; refine w_seq ?_; refine w_seq ?_; refine w_reg ?_; refine v_fa ?_; refine v_ld1 (st.at (i := 0) rfl).2.2 rfl ?_; refine v_len ?_; refine v_move ?_; refine r_nil ?_; refine th_n ?_; refine w_block ?_; obtain ⟨y15, hy, hF⟩ := bnd_some hF; refine v_loopD (sf82_L1 a0_2 a1) (fun x4 T ds5 h nx => ∃ (F5 : PH), ds5 = [] ∧ PH.le F0 F5 ∧ St n0 h0 F0 F5 h nx [.bx b1 [(i64 a0_0), (.slice pa0_1 (a0_1).length ca0_1), (.slice pa0_2 (a0_2).length ca0_2), (i64 a0_3)]] ∧ T.get 1 = some (i64 a1) ∧ T.get 5 = some (i64 x4.1) ∧ T.get 9 = some (.slice pa0_2 (a0_2).length ca0_2) ∧ T.get 10 = some (i64 ((a0_2).length : Int)) ∧ T.get 11 = some (i64 x4.2)) (fun y e a σ => e = .exit 0 ∧ a.nt = 23 ∧ ∃ (F16 : PH), a.defers = [] ∧ PH.le F0 F16 ∧ St n0 h0 F0 F16 σ.h σ.nx [.bx b1 [(i64 a0_0), (.slice pa0_1 (a0_1).length ca0_1), (.slice pa0_2 (a0_2).length ca0_2), (i64 a0_3)]] ∧ a.tmps.get 5 = some (i64 y)) (fun x4 T ds5 h nx s hp hF => ?_) N _ y15 _ _ _ _ hy ⟨F0, rfl, (PH.le.refl _), st, gA, gA, gA, gA, gA⟩ (fun e a σ hne hq => ?_)
  · obtain ⟨F5, rfl, le5, st, t1, t5, t9, t10, t11⟩ := hp; unfold sf82_L1 at hF; unfold L82w0; refine w_seq ?_; refine w_reg ?_; refine v_lss ?_; refine r_nil ?_; refine th_n ?_; refine w_seq ?_; refine v_cond (fun hb17 => ?_) (fun hb17 => ?_)
    · have hF := bif_t hb17 hF; refine w_skip ?_; refine th_n ?_; refine w_seq ?_; refine w_block ?_; refine w_seq ?_; refine w_reg ?_; refine v_move ?_; obtain ⟨n18, x18, z18, l18, g18, hF⟩ := ix_some hF; obtain ⟨b18, o18, s18, j18, r18, e18, f18, k18, ⟨_, _, rfl, rfl, ⟨_, _, rfl, rfl, rfl⟩⟩⟩ := RowF.get ra0_2 g18; refine v_ixp e18 z18 l18 ?_; refine v_ldn (st.sub _ _ (le5 _ _ f18)) k18 ?_; refine v_alloc st (fun b19 h20 n21 st => ?_); refine v_move ?_; refine v_st (cs' := [(i64 x18.1), (i64 x18.2.1), (i64 x18.2.2)]) st 1 rfl rfl rfl rfl hfl (fun h22 st => ?_); refine r_nil ?_; refine th_n ?_; refine w_seq ?_; refine w_reg ?_; refine v_fa ?_; refine v_ld1 (st.at (i := 1) rfl).2.2 rfl ?_; refine v_move ?_
      refine v_leq ?_; refine r_nil ?_; refine th_n ?_; refine v_cond (fun hb23 => ?_) (fun hb23 => ?_)
      · have hF := bif_t hb23 hF; refine w_reg ?_; refine v_move ?_; refine v_move ?_; refine r_nil ?_; refine ib_n ?_; refine th_n ?_; refine w_reg ?_; obtain ⟨q24, hF⟩ := ck_some hF; refine v_add q24 ?_; refine v_move ?_; refine r_nil ?_; refine thn ⟨_, (inj hF).symm, rfl, ?_⟩; dsimp only
        exact ⟨F5, rfl, le5, (st.drop (by first | exact List.Sublist.refl _ | (repeat first | exact List.nil_sublist _ | refine List.Sublist.cons_cons _ ?_ | refine List.Sublist.cons _ ?_))), gA, gA, gA, gA, gA⟩
      · have hF := bif_f hb23 hF; refine w_skip ?_; refine ib_n ?_; refine th_n ?_; refine w_reg ?_; obtain ⟨q25, hF⟩ := ck_some hF; refine v_add q25 ?_; refine v_move ?_; refine r_nil ?_; refine thn ⟨_, (inj hF).symm, rfl, ?_⟩; dsimp only
        exact ⟨F5, rfl, le5, (st.drop (by first | exact List.Sublist.refl _ | (repeat first | exact List.nil_sublist _ | refine List.Sublist.cons_cons _ ?_ | refine List.Sublist.cons _ ?_))), gA, gA, gA, gA, gA⟩
    · have hF := bif_f hb17 hF; refine w_exit ?_; refine th_e ?_; refine th_e ?_; refine ⟨_, (inj hF).symm, rfl, rfl, ?_⟩; dsimp only
      exact ⟨F5, rfl, le5, st, gA⟩
  · obtain ⟨N9, T, ds16⟩ := a; obtain ⟨h26, n27⟩ := σ; obtain ⟨rfl, e1, F16, e2, le16, st, t5⟩ := hq
    dsimp only at e1 e2
    subst e1
    subst e2
    dsimp only at st t5
    refine ib_e ?_; refine th_n ?_; refine w_seq ?_; refine w_reg ?_; refine v_move ?_; refine v_move ?_; refine r_nil ?_; refine th_n ?_; refine w_ret ?_; obtain rfl := inj hF
    exact end_s st (Res.t gA Res.nil) rfl rfl
theorem ct85 (N : Nat) {r : Unit} (hF : sf85 N = some r) {fl : Nat} {h0 : Tr HBlk} {n0 : Nat} {F0 : PH} (hd : D h0 n0) (hs : F0.sub h0) : C LW fl 85 [] ⟨h0, n0⟩ (KS (.agg [(.func 106 [] [])]) n0 h0) := by
  unfold sf85 at hF
  refine in_cT hd hs lw85 rfl rfl (by rfl) (fun st T hT => ?_)
  have hfl : n0 ≤ n0 := Nat.le_refl n0
  dsimp only [L85]
  refine w_seq ?_; refine w_reg ?_; refine v_alloc st (fun b1 h2 n3 st => ?_); refine r_nil ?_; refine th_n ?_; refine w_seq ?_; refine w_reg ?_; refine v_build (cs := [(.func 106 [] [])]) rfl ?_; refine v_st (cs' := [(.func 106 [] [])]) st 0 rfl rfl rfl rfl hfl (fun h4 st => ?_); refine r_nil ?_; refine th_n ?_; refine w_ret ?_; obtain rfl := inj hF
  exact end_s st (Res.c gA (st.at (i := 0) rfl).2.2 (show takeN _ _ = some [(.func 106 [] [])] from rfl) Res.nil) rfl rfl
theorem ct106 (N : Nat) {a0_0 : Int} {a0_1 : Int} {r : Int} (hF : sf106 N a0_0 a0_1 = some r) {fl : Nat} {h0 : Tr HBlk} {n0 : Nat} {F0 : PH} (hd : D h0 n0) (hs : F0.sub h0) : C LW fl 106 [(.agg [(i64 a0_0), (i64 a0_1)])] ⟨h0, n0⟩ (KS (i64 r) n0 h0) := by
  unfold sf106 at hF
  refine in_cT hd hs lw106 rfl rfl (by rfl) (fun st T hT => ?_)
  have hfl : n0 ≤ n0 := Nat.le_refl n0
  have t0 := hT 0 _ rfl
  dsimp only [L106]
  refine w_seq ?_; refine w_reg ?_; refine v_box st (fun b1 h2 n3 st => ?_); refine v_move ?_; refine r_nil ?_; refine th_n ?_; refine w_seq ?_; refine w_reg ?_; refine v_fa ?_; refine v_ld1 (st.at (i := 0) rfl).2.2 rfl ?_; refine v_move ?_; refine r_nil ?_; refine th_n ?_; refine w_ret ?_; obtain rfl := inj hF
  exact end_s st (Res.t gA Res.nil) rfl rfl
end Go.Hx.V

/- Functions of the program come to that. -/
namespace Go.Hx.V
open Go.Hx
set_option linter.unusedVariables false
set_option maxRecDepth 20000
set_option maxHeartbeats 4000000
attribute [local irreducible] W R C thenH inBlockH Tr.get Tr.set lo
theorem ct55 (N : Nat) {a0_0 : Int} {a0_1 : (List (Int × Int))} {a0_2 : (List (Int × Int × Int))} {a0_3 : Int} {a0_4 : (List Int)} {a0_5 : (List Int)} {a1 : Int} {r : (Int × Int)} (hF : sf55 N a0_0 a0_1 a0_2 a0_3 a0_4 a0_5 a1 = some r) {fl : Nat} {h0 : Tr HBlk} {n0 : Nat} {F0 : PH} (hd : D h0 n0) (hs : F0.sub h0) {pa0_1 : Option (Nat × Nat)} {ca0_1 : Nat} {pa0_2 : Option (Nat × Nat)} {ca0_2 : Nat} {pa0_4 : Option (Nat × Nat)} {ca0_4 : Nat} {pa0_5 : Option (Nat × Nat)} {ca0_5 : Nat} (ra0_1 : RowF (rP rI rI) 2 F0 pa0_1 ca0_1 a0_1) (ra0_2 : RowF (rP rI (rP rI rI)) 3 F0 pa0_2 ca0_2 a0_2) (ra0_4 : RowF rI 1 F0 pa0_4 ca0_4 a0_4) (ra0_5 : RowF rI 1 F0 pa0_5 ca0_5 a0_5) : C LW fl 55 [(.agg [(i64 a0_0), (.slice pa0_1 (a0_1).length ca0_1), (.slice pa0_2 (a0_2).length ca0_2), (i64 a0_3), (.slice pa0_4 (a0_4).length ca0_4), (.slice pa0_5 (a0_5).length ca0_5)]), (i64 a1)] ⟨h0, n0⟩ (KS (.agg [(i64 r.1), (i64 r.2)]) n0 h0) := by
  unfold sf55 at hF
  refine in_cT hd hs lw55 rfl rfl (by rfl) (fun st T hT => ?_)
  have hfl : n0 ≤ n0 := Nat.le_refl n0
  have t0 := hT 0 _ rfl
  have t1 := hT 1 _ rfl
  dsimp only [L55]
  refine w_seq ?_; refine w_reg ?_; refine v_box st (fun b1 h2 n3 st => ?_); refine v_alloc st (fun b4 h5 n6 st => ?_); refine r_nil ?_; refine th_n ?_; refine w_seq ?_; refine w_drawV (Nat.le_trans hfl st.ext.le) (fun dw => ?_); refine y_pure st.d dw (fun hm vw => v_fa pr_nil) ?_; refine y_pure st.d dw (fun hm vw => v_ld1 (vw.bx (st.at (i := 0) rfl)) rfl pr_nil) ?_; refine y_pure st.d dw (fun hm vw => v_move pr_nil) ?_; obtain ⟨n7, x7, z7, l7, g7, hF⟩ := ix_some hF; obtain ⟨b7, o7, s7, j7, r7, e7, f7, k7, rfl⟩ := RowF.get ra0_4 g7; refine y_pure st.d dw (fun hm vw => v_ixp e7 z7 l7 pr_nil) ?_; refine y_pure st.d dw (fun hm vw => v_ld1 (vw.fz st f7) (take_at (j := 0) k7 rfl) pr_nil) ?_; refine y_pure st.d dw (fun hm vw => v_fa pr_nil) ?_
  refine y_pure st.d dw (fun hm vw => v_ld1 (vw.bx (st.at (i := 0) rfl)) rfl pr_nil) ?_; refine y_pure st.d dw (fun hm vw => v_move pr_nil) ?_; obtain ⟨n8, x8, z8, l8, g8, hF⟩ := ix_some hF; obtain ⟨b8, o8, s8, j8, r8, e8, f8, k8, rfl⟩ := RowF.get ra0_5 g8; refine y_pure st.d dw (fun hm vw => v_ixp e8 z8 l8 pr_nil) ?_; refine y_pure st.d dw (fun hm vw => v_ld1 (vw.fz st f8) (take_at (j := 0) k8 rfl) pr_nil) ?_; refine y_end st.d dw rfl (fun h9 ex vs => ?_)
  have st := st.ext1 ex
  refine v_build (cs := [(i64 x7), (i64 x8)]) rfl ?_; refine v_st (cs' := [(i64 x7), (i64 x8)]) st 1 rfl rfl rfl rfl hfl (fun h10 st => ?_); refine r_nil ?_; refine th_n ?_; refine w_ret ?_; obtain rfl := inj hF
  exact end_s st (Res.c gA (st.at (i := 1) rfl).2.2 (show takeN _ _ = some [(i64 x7), (i64 x8)] from rfl) Res.nil) rfl rfl
theorem ct24 (N : Nat) {a0 : Int} {a1 : Int} {a2 : Int} {r : Bool} (hF : sf24 N a0 a1 a2 = some r) {fl : Nat} {h0 : Tr HBlk} {n0 : Nat} {F0 : PH} (hd : D h0 n0) (hs : F0.sub h0) : C LW fl 24 [(i64 a0), (i64 a1), (i64 a2)] ⟨h0, n0⟩ (KS (.bool r) n0 h0) := by
  unfold sf24 at hF
  refine in_cT hd hs lw24 rfl rfl (by rfl) (fun st T hT => ?_)
  have hfl : n0 ≤ n0 := Nat.le_refl n0
  have t0 := hT 0 _ rfl
  have t1 := hT 1 _ rfl
  have t2 := hT 2 _ rfl
  dsimp only [L24]
  refine w_seq ?_; refine w_reg ?_; refine v_move ?_; refine r_nil ?_; refine th_n ?_; refine w_seq ?_; refine w_reg ?_; refine v_move ?_; refine v_move ?_; refine v_geq ?_; refine v_move ?_
  rcases Bool.eq_false_or_eq_true (decide (a1 ≤ a0)) with hb1 | hb1
  · have hF := bif_t hb1 hF; refine g_take hb1 (v_move ?_); refine g_take hb1 (v_move ?_); refine g_take hb1 (v_leq ?_); refine v_pick hb1 ?_; refine v_move ?_; refine r_nil ?_; refine th_n ?_; refine w_ret ?_; obtain rfl := inj hF
    exact end_s st (Res.t gA Res.nil) rfl rfl
  · have hF := bif_f hb1 hF; refine g_skip hb1 ?_; refine g_skip hb1 ?_; refine g_skip hb1 ?_; refine v_pick' hb1 ?_; refine v_move ?_; refine r_nil ?_; refine th_n ?_; refine w_ret ?_; obtain rfl := inj hF
    exact end_s st (Res.t gA Res.nil) rfl rfl
theorem ct45 (N : Nat) {a0_0 : Int} {a0_1 : (List (Int × Int))} {a0_2 : (List (Int × Int × Int))} {a0_3 : Int} {a1 : Bool} {r : ((List Int) × (List Int))} (hF : sf45 N a0_0 a0_1 a0_2 a0_3 a1 = some r) {fl : Nat} {h0 : Tr HBlk} {n0 : Nat} {F0 : PH} (hd : D h0 n0) (hs : F0.sub h0) (hfl : fl ≤ n0) {pa0_1 : Option (Nat × Nat)} {ca0_1 : Nat} {pa0_2 : Option (Nat × Nat)} {ca0_2 : Nat} (ra0_1 : RowF (rP rI rI) 2 F0 pa0_1 ca0_1 a0_1) (ra0_2 : RowF (rP rI (rP rI rI)) 3 F0 pa0_2 ca0_2 a0_2) : C LW fl 45 [(.agg [(i64 a0_0), (.slice pa0_1 (a0_1).length ca0_1), (.slice pa0_2 (a0_2).length ca0_2), (i64 a0_3)]), (.bool a1)] ⟨h0, n0⟩ (KR (rvA (rP (rL rI 1) (rL rI 1))) F0 h0 n0 r) := by
  unfold sf45 at hF
  refine in_mT hd hs hfl lw45 rfl rfl (by rfl) (fun st T hT => ?_)
  have t0 := hT 0 _ rfl
  have t1 := hT 1 _ rfl
  dsimp only [L45]
  refine w_seq ?_; refine w_reg ?_; refine v_box st (fun b1 h2 n3 st => ?_); refine v_alloc st (fun b4 h5 n6 st => ?_); refine r_nil ?_; refine th_n ?_; refine w_seq ?_; refine w_reg ?_; refine v_alloc st (fun b7 h8 n9 st => ?_); refine r_nil ?_; refine th_n ?_; refine w_seq ?_; refine w_seq ?_; refine w_reg ?_; refine v_move ?_; refine r_nil ?_; refine th_n ?_; refine w_block ?_
  have st := st.nilL 1
  have w30 : LR rI 1 F0 ([] : List Int) [] := LR.nil
  obtain ⟨y47, hy, hF⟩ := bnd_some hF; refine v_loopD (sf45_L1 a0_1 a1) (fun x32 T ds33 h nx => ∃ (F33 : PH) (o34 : Option Nat) (c34 : Nat) (cs34 : List HV), ds33 = [] ∧ PH.le F0 F33 ∧ St n0 h0 F0 F33 h nx [.bx b1 [(i64 a0_0), (.slice pa0_1 (a0_1).length ca0_1), (.slice pa0_2 (a0_2).length ca0_2), (i64 a0_3)], .bx b4 [(.slice none 0 0), (.slice none 0 0)], .bx b7 [(slv o34 (x32.2).length c34), (.slice none 0 0)], .ls o34 c34 cs34 1] ∧ LR rI 1 F33 x32.2 cs34 ∧ T.get 1 = some (.bool a1) ∧ T.get 2 = some (.ptr (some (b1, 0))) ∧ T.get 4 = some (.ptr (some (b4, 0))) ∧ T.get 5 = some (.ptr (some (b7, 0))) ∧ T.get 6 = some (i64 x32.1)) (fun y e a σ => e = .exit 0 ∧ a.nt = 71 ∧ ∃ (F48 : PH) (o49 : Option Nat) (c49 : Nat) (cs49 : List HV), a.defers = [] ∧ PH.le F0 F48 ∧ St n0 h0 F0 F48 σ.h σ.nx [.bx b1 [(i64 a0_0), (.slice pa0_1 (a0_1).length ca0_1), (.slice pa0_2 (a0_2).length ca0_2), (i64 a0_3)], .bx b4 [(.slice none 0 0), (.slice none 0 0)], .bx b7 [(slv o49 (y).length c49), (.slice none 0 0)], .ls o49 c49 cs49 1] ∧ LR rI 1 F48 y cs49 ∧ a.tmps.get 1 = some (.bool a1) ∧ a.tmps.get 2 = some (.ptr (some (b1, 0))) ∧ a.tmps.get 4 = some (.ptr (some (b4, 0))) ∧ a.tmps.get 5 = some (.ptr (some (b7, 0)))) (fun x32 T ds33 h nx s hp hF => ?_) N _ y47 _ _ _ _ hy ⟨F0, none, 0, [], rfl, (PH.le.refl _), st, w30, gA, gA, gA, gA, gA⟩ (fun e a σ hne hq => ?_)
  · obtain ⟨F33, o34, c34, cs34, rfl, le33, st, w34, t1, t2, t4, t5, t6⟩ := hp; unfold sf45_L1 at hF; unfold L45w1; refine w_seq ?_; refine w_seq ?_; refine w_reg ?_; refine v_move ?_; refine v_fa ?_; refine v_ld1 (st.at (i := 0) rfl).2.2 rfl ?_; refine v_len ?_; refine v_lss ?_; refine r_nil ?_; refine th_n ?_; refine v_cond (fun hb50 => ?_) (fun hb50 => ?_)
    · have hF := bif_t hb50 hF; refine w_skip ?_; refine th_n ?_; refine w_seq ?_; refine w_block ?_; refine w_seq ?_; refine w_reg ?_; refine v_move ?_; refine r_nil ?_; refine th_n ?_; refine v_cond (fun hb51 => ?_) (fun hb51 => ?_)
      · have hF := bif_t hb51 hF; refine w_drawV (Nat.le_trans hfl st.ext.le) (fun dw => ?_); refine y_pure st.d dw (fun hm vw => v_fa pr_nil) ?_; refine y_pure st.d dw (fun hm vw => v_ld1 (vw.bx (st.at (i := 2) rfl)) rfl pr_nil) ?_; refine y_pure st.d dw (fun hm vw => v_fa pr_nil) ?_; refine y_pure st.d dw (fun hm vw => v_ld1 (vw.bx (st.at (i := 0) rfl)) rfl pr_nil) ?_; refine y_pure st.d dw (fun hm vw => v_move pr_nil) ?_; obtain ⟨n52, x52, z52, l52, g52, hF⟩ := ix_some hF; obtain ⟨b52, o52, s52, j52, r52, e52, f52, k52, ⟨_, _, rfl, rfl, rfl⟩⟩ := RowF.get ra0_1 g52; refine y_pure st.d dw (fun hm vw => v_ixp e52 z52 l52 pr_nil) ?_; refine y_pure st.d dw (fun hm vw => v_fa pr_nil) ?_; refine y_pure st.d dw (fun hm vw => v_ld1 (vw.fz st (le33 _ _ f52)) (take_at (j := 1) k52 rfl) pr_nil) ?_
        refine y_lay st.d dw (fun hm vw => u_bs (cs := [(i64 x52.2)]) rfl pr_nil) (fun done dw => ?_); refine y_end st.d dw rfl (fun h53 ex vs => ?_)
        have st := St.laid st ex (Lay.cons (b := nx) (cs := [(i64 x52.2)]) (by have := dw.le; omega) (vs _ (List.mem_cons_self ..) _ _ (if_pos rfl)) (Lay.nil (by have := dw.le; omega)))
        obtain ⟨q54, hF⟩ := ck_some hF
        have w54 : LR rI 1 F33 (x32.2 ++ [x52.2]) (cs34 ++ [(i64 x52.2)]) := LR.app w34 (LR.one (rfl))
        refine v_aps (n := 1) (ox := 0) (m := (x32.2 ++ [x52.2]).length) (row := [(i64 x52.2)]) st 3 rfl w34.1 (st.at (i := 4) rfl).2.2 rfl rfl q54 hfl (by decide) (by decide) (by simp) (fun o54 c54 h54 n54 st => ?_)
        refine v_fa ?_; refine v_st (cs' := [(slv o54 ((x32.2 ++ [x52.2])).length c54), (.slice none 0 0)]) st 2 rfl rfl rfl rfl hfl (fun h55 st => ?_); refine r_nil ?_; refine ib_n ?_; refine th_n ?_; refine w_reg ?_; refine v_move ?_; obtain ⟨q56, hF⟩ := ck_some hF; refine v_add q56 ?_; refine v_move ?_; refine r_nil ?_; refine thn ⟨_, (inj hF).symm, rfl, ?_⟩; dsimp only
        exact ⟨F33, o54, c54, (cs34 ++ [(i64 x52.2)]), rfl, le33, (st.drop (by first | exact List.Sublist.refl _ | (repeat first | exact List.nil_sublist _ | refine List.Sublist.cons_cons _ ?_ | refine List.Sublist.cons _ ?_))), w54, gA, gA, gA, gA, gA⟩
      · have hF := bif_f hb51 hF; refine w_drawV (Nat.le_trans hfl st.ext.le) (fun dw => ?_); refine y_pure st.d dw (fun hm vw => v_fa pr_nil) ?_; refine y_pure st.d dw (fun hm vw => v_ld1 (vw.bx (st.at (i := 2) rfl)) rfl pr_nil) ?_; refine y_pure st.d dw (fun hm vw => v_fa pr_nil) ?_; refine y_pure st.d dw (fun hm vw => v_ld1 (vw.bx (st.at (i := 0) rfl)) rfl pr_nil) ?_; refine y_pure st.d dw (fun hm vw => v_move pr_nil) ?_; obtain ⟨n57, x57, z57, l57, g57, hF⟩ := ix_some hF; obtain ⟨b57, o57, s57, j57, r57, e57, f57, k57, ⟨_, _, rfl, rfl, rfl⟩⟩ := RowF.get ra0_1 g57; refine y_pure st.d dw (fun hm vw => v_ixp e57 z57 l57 pr_nil) ?_; refine y_pure st.d dw (fun hm vw => v_fa pr_nil) ?_; refine y_pure st.d dw (fun hm vw => v_ld1 (vw.fz st (le33 _ _ f57)) (take_at (j := 0) k57 rfl) pr_nil) ?_
        refine y_lay st.d dw (fun hm vw => u_bs (cs := [(i64 x57.1)]) rfl pr_nil) (fun done dw => ?_); refine y_end st.d dw rfl (fun h58 ex vs => ?_)
        have st := St.laid st ex (Lay.cons (b := nx) (cs := [(i64 x57.1)]) (by have := dw.le; omega) (vs _ (List.mem_cons_self ..) _ _ (if_pos rfl)) (Lay.nil (by have := dw.le; omega)))
        obtain ⟨q59, hF⟩ := ck_some hF
        have w59 : LR rI 1 F33 (x32.2 ++ [x57.1]) (cs34 ++ [(i64 x57.1)]) := LR.app w34 (LR.one (rfl))
        refine v_aps (n := 1) (ox := 0) (m := (x32.2 ++ [x57.1]).length) (row := [(i64 x57.1)]) st 3 rfl w34.1 (st.at (i := 4) rfl).2.2 rfl rfl q59 hfl (by decide) (by decide) (by simp) (fun o59 c59 h59 n59 st => ?_)
        refine v_fa ?_; refine v_st (cs' := [(slv o59 ((x32.2 ++ [x57.1])).length c59), (.slice none 0 0)]) st 2 rfl rfl rfl rfl hfl (fun h60 st => ?_); refine r_nil ?_; refine ib_n ?_; refine th_n ?_; refine w_reg ?_; refine v_move ?_; obtain ⟨q61, hF⟩ := ck_some hF; refine v_add q61 ?_; refine v_move ?_; refine r_nil ?_; refine thn ⟨_, (inj hF).symm, rfl, ?_⟩; dsimp only
        exact ⟨F33, o59, c59, (cs34 ++ [(i64 x57.1)]), rfl, le33, (st.drop (by first | exact List.Sublist.refl _ | (repeat first | exact List.nil_sublist _ | refine List.Sublist.cons_cons _ ?_ | refine List.Sublist.cons _ ?_))), w59, gA, gA, gA, gA, gA⟩
    · have hF := bif_f hb50 hF; refine w_exit ?_; refine th_e ?_; refine th_e ?_; refine ⟨_, (inj hF).symm, rfl, rfl, ?_⟩; dsimp only
      exact ⟨F33, o34, c34, cs34, rfl, le33, st, w34, gA, gA, gA, gA⟩
  · obtain ⟨N9, T, ds48⟩ := a; obtain ⟨h62, n63⟩ := σ; obtain ⟨rfl, e1, F48, o49, c49, cs49, e2, le48, st, w49, t1, t2, t4, t5⟩ := hq
    dsimp only at e1 e2
    subst e1
    subst e2
    dsimp only at st t1 t2 t4 t5
    refine ib_e ?_; refine th_n ?_; refine w_seq ?_; refine w_seq ?_; refine w_reg ?_; refine v_move ?_; refine r_nil ?_; refine th_n ?_; refine w_block ?_
    have st := st.nilL 1
    have w83 : LR rI 1 F48 ([] : List Int) [] := LR.nil
    obtain ⟨y101, hy, hF⟩ := bnd_some hF; refine v_loopD (sf45_L2 a0_2 a1) (fun x85 T ds86 h nx => ∃ (F86 : PH) (o87 : Option Nat) (c87 : Nat) (cs87 : List HV), ds86 = [] ∧ PH.le F48 F86 ∧ St n0 h0 F0 F86 h nx [.bx b1 [(i64 a0_0), (.slice pa0_1 (a0_1).length ca0_1), (.slice pa0_2 (a0_2).length ca0_2), (i64 a0_3)], .bx b4 [(.slice none 0 0), (.slice none 0 0)], .bx b7 [(slv o49 (y47).length c49), (slv o87 (x85.2).length c87)], .ls o49 c49 cs49 1, .ls o87 c87 cs87 1] ∧ LR rI 1 F86 x85.2 cs87 ∧ T.get 1 = some (.bool a1) ∧ T.get 2 = some (.ptr (some (b1, 0))) ∧ T.get 4 = some (.ptr (some (b4, 0))) ∧ T.get 5 = some (.ptr (some (b7, 0))) ∧ T.get 7 = some (i64 x85.1)) (fun y e a σ => e = .exit 2 ∧ a.nt = 71 ∧ ∃ (F102 : PH) (o103 : Option Nat) (c103 : Nat) (cs103 : List HV), a.defers = [] ∧ PH.le F48 F102 ∧ St n0 h0 F0 F102 σ.h σ.nx [.bx b1 [(i64 a0_0), (.slice pa0_1 (a0_1).length ca0_1), (.slice pa0_2 (a0_2).length ca0_2), (i64 a0_3)], .bx b4 [(.slice none 0 0), (.slice none 0 0)], .bx b7 [(slv o49 (y47).length c49), (slv o103 (y).length c103)], .ls o49 c49 cs49 1, .ls o103 c103 cs103 1] ∧ LR rI 1 F102 y cs103 ∧ a.tmps.get 4 = some (.ptr (some (b4, 0))) ∧ a.tmps.get 5 = some (.ptr (some (b7, 0)))) (fun x85 T ds86 h nx s hp hF => ?_) N _ y101 _ _ _ _ hy ⟨F48, none, 0, [], rfl, (PH.le.refl _), st, w83, gA, gA, gA, gA, gA⟩ (fun e a σ hne hq => ?_)
    · obtain ⟨F86, o87, c87, cs87, rfl, le86, st, w87, t1, t2, t4, t5, t7⟩ := hp
      have le88 := PH.le.trans le48 le86
      unfold sf45_L2 at hF; unfold L45w0; refine w_seq ?_; refine w_seq ?_; refine w_reg ?_; refine v_move ?_; refine v_fa ?_; refine v_ld1 (st.at (i := 0) rfl).2.2 rfl ?_; refine v_len ?_; refine v_lss ?_; refine r_nil ?_; refine th_n ?_; refine v_cond (fun hb104 => ?_) (fun hb104 => ?_)
      · have hF := bif_t hb104 hF; refine w_skip ?_; refine th_n ?_; refine w_seq ?_; refine w_block ?_; refine w_seq ?_; refine w_reg ?_; refine v_move ?_; refine r_nil ?_; refine th_n ?_; refine v_cond (fun hb105 => ?_) (fun hb105 => ?_)
        · have hF := bif_t hb105 hF; refine w_drawV (Nat.le_trans hfl st.ext.le) (fun dw => ?_); refine y_pure st.d dw (fun hm vw => v_fa pr_nil) ?_; refine y_pure st.d dw (fun hm vw => v_ld1 (vw.bx (st.at (i := 2) rfl)) rfl pr_nil) ?_; refine y_pure st.d dw (fun hm vw => v_fa pr_nil) ?_; refine y_pure st.d dw (fun hm vw => v_ld1 (vw.bx (st.at (i := 0) rfl)) rfl pr_nil) ?_; refine y_pure st.d dw (fun hm vw => v_move pr_nil) ?_; obtain ⟨n106, x106, z106, l106, g106, hF⟩ := ix_some hF; obtain ⟨b106, o106, s106, j106, r106, e106, f106, k106, ⟨_, _, rfl, rfl, ⟨_, _, rfl, rfl, rfl⟩⟩⟩ := RowF.get ra0_2 g106; refine y_pure st.d dw (fun hm vw => v_ixp e106 z106 l106 pr_nil) ?_; refine y_pure st.d dw (fun hm vw => v_fa pr_nil) ?_
          refine y_pure st.d dw (fun hm vw => v_fa pr_nil) ?_; refine y_pure st.d dw (fun hm vw => v_ld1 (vw.fz st (le88 _ _ f106)) (take_at (j := 2) k106 rfl) pr_nil) ?_; refine y_lay st.d dw (fun hm vw => u_bs (cs := [(i64 x106.2.2)]) rfl pr_nil) (fun done dw => ?_); refine y_end st.d dw rfl (fun h107 ex vs => ?_)
          have st := St.laid st ex (Lay.cons (b := nx) (cs := [(i64 x106.2.2)]) (by have := dw.le; omega) (vs _ (List.mem_cons_self ..) _ _ (if_pos rfl)) (Lay.nil (by have := dw.le; omega)))
          obtain ⟨q108, hF⟩ := ck_some hF
          have w108 : LR rI 1 F86 (x85.2 ++ [x106.2.2]) (cs87 ++ [(i64 x106.2.2)]) := LR.app w87 (LR.one (rfl))
          refine v_aps (n := 1) (ox := 0) (m := (x85.2 ++ [x106.2.2]).length) (row := [(i64 x106.2.2)]) st 4 rfl w87.1 (st.at (i := 5) rfl).2.2 rfl rfl q108 hfl (by decide) (by decide) (by simp) (fun o108 c108 h108 n108 st => ?_)
          refine v_fa ?_; refine v_st (cs' := [(slv o49 (y47).length c49), (slv o108 ((x85.2 ++ [x106.2.2])).length c108)]) st 2 rfl rfl rfl rfl hfl (fun h109 st => ?_); refine r_nil ?_; refine ib_n ?_; refine th_n ?_; refine w_reg ?_; refine v_move ?_; obtain ⟨q110, hF⟩ := ck_some hF; refine v_add q110 ?_; refine v_move ?_; refine r_nil ?_; refine thn ⟨_, (inj hF).symm, rfl, ?_⟩; dsimp only
          exact ⟨F86, o108, c108, (cs87 ++ [(i64 x106.2.2)]), rfl, le86, (st.drop (by first | exact List.Sublist.refl _ | (repeat first | exact List.nil_sublist _ | refine List.Sublist.cons_cons _ ?_ | refine List.Sublist.cons _ ?_))), w108, gA, gA, gA, gA, gA⟩
        · have hF := bif_f hb105 hF; refine w_drawV (Nat.le_trans hfl st.ext.le) (fun dw => ?_); refine y_pure st.d dw (fun hm vw => v_fa pr_nil) ?_; refine y_pure st.d dw (fun hm vw => v_ld1 (vw.bx (st.at (i := 2) rfl)) rfl pr_nil) ?_; refine y_pure st.d dw (fun hm vw => v_fa pr_nil) ?_; refine y_pure st.d dw (fun hm vw => v_ld1 (vw.bx (st.at (i := 0) rfl)) rfl pr_nil) ?_; refine y_pure st.d dw (fun hm vw => v_move pr_nil) ?_; obtain ⟨n111, x111, z111, l111, g111, hF⟩ := ix_some hF; obtain ⟨b111, o111, s111, j111, r111, e111, f111, k111, ⟨_, _, rfl, rfl, ⟨_, _, rfl, rfl, rfl⟩⟩⟩ := RowF.get ra0_2 g111; refine y_pure st.d dw (fun hm vw => v_ixp e111 z111 l111 pr_nil) ?_; refine y_pure st.d dw (fun hm vw => v_fa pr_nil) ?_
          refine y_pure st.d dw (fun hm vw => v_fa pr_nil) ?_; refine y_pure st.d dw (fun hm vw => v_ld1 (vw.fz st (le88 _ _ f111)) (take_at (j := 1) k111 rfl) pr_nil) ?_; refine y_lay st.d dw (fun hm vw => u_bs (cs := [(i64 x111.2.1)]) rfl pr_nil) (fun done dw => ?_); refine y_end st.d dw rfl (fun h112 ex vs => ?_)
          have st := St.laid st ex (Lay.cons (b := nx) (cs := [(i64 x111.2.1)]) (by have := dw.le; omega) (vs _ (List.mem_cons_self ..) _ _ (if_pos rfl)) (Lay.nil (by have := dw.le; omega)))
          obtain ⟨q113, hF⟩ := ck_some hF
          have w113 : LR rI 1 F86 (x85.2 ++ [x111.2.1]) (cs87 ++ [(i64 x111.2.1)]) := LR.app w87 (LR.one (rfl))
          refine v_aps (n := 1) (ox := 0) (m := (x85.2 ++ [x111.2.1]).length) (row := [(i64 x111.2.1)]) st 4 rfl w87.1 (st.at (i := 5) rfl).2.2 rfl rfl q113 hfl (by decide) (by decide) (by simp) (fun o113 c113 h113 n113 st => ?_)
          refine v_fa ?_; refine v_st (cs' := [(slv o49 (y47).length c49), (slv o113 ((x85.2 ++ [x111.2.1])).length c113)]) st 2 rfl rfl rfl rfl hfl (fun h114 st => ?_); refine r_nil ?_; refine ib_n ?_; refine th_n ?_; refine w_reg ?_; refine v_move ?_; obtain ⟨q115, hF⟩ := ck_some hF; refine v_add q115 ?_; refine v_move ?_; refine r_nil ?_; refine thn ⟨_, (inj hF).symm, rfl, ?_⟩; dsimp only
          exact ⟨F86, o113, c113, (cs87 ++ [(i64 x111.2.1)]), rfl, le86, (st.drop (by first | exact List.Sublist.refl _ | (repeat first | exact List.nil_sublist _ | refine List.Sublist.cons_cons _ ?_ | refine List.Sublist.cons _ ?_))), w113, gA, gA, gA, gA, gA⟩
      · have hF := bif_f hb104 hF; refine w_exit ?_; refine th_e ?_; refine th_e ?_; refine ⟨_, (inj hF).symm, rfl, rfl, ?_⟩; dsimp only
        exact ⟨F86, o87, c87, cs87, rfl, le86, st, w87, gA, gA⟩
    · obtain ⟨N9, T, ds102⟩ := a; obtain ⟨h117, n118⟩ := σ; obtain ⟨rfl, e1, F102, o103, c103, cs103, e2, le102, st, w103, t4, t5⟩ := hq
      dsimp only at e1 e2
      subst e1
      subst e2
      dsimp only at st t4 t5
      have le116 := PH.le.trans le48 le102
      refine ib_e ?_; refine th_n ?_; refine w_seq ?_; refine w_reg ?_; refine v_ldn (vs := [(slv o49 (y47).length c49), (slv o103 (y101).length c103)]) (st.at (i := 2) rfl).2.2 rfl ?_; refine v_st (cs' := [(slv o49 (y47).length c49), (slv o103 (y101).length c103)]) st 1 rfl rfl rfl rfl hfl (fun h119 st => ?_); refine r_nil ?_; refine th_n ?_; refine w_ret ?_; obtain rfl := inj hF
      obtain ⟨F120, le120, st, rf120⟩ := St.freeze st 3 rfl (LR.mono le102 w49) (by decide)
      have le121 := PH.le.trans le116 le120
      have le122 := PH.le.trans le102 le120
      obtain ⟨F123, le123, st, rf123⟩ := St.freeze st 3 rfl (LR.mono le120 w103) (by decide)
      have le124 := PH.le.trans le121 le123
      have le125 := PH.le.trans le122 le123
      have le126 := PH.le.trans le120 le123
      exact end_r st (Res.c gA (st.at (i := 1) rfl).2.2 (show takeN _ _ = some [(.slice (o49.map fun b => (b, 0)) (y47).length c49), (.slice (o103.map fun b => (b, 0)) (y101).length c103)] from rfl) Res.nil) ⟨_, rfl, ⟨[(.slice (o49.map fun b => (b, 0)) (y47).length c49)], [(.slice (o103.map fun b => (b, 0)) (y101).length c103)], rfl, ⟨_, _, rfl, (RowF.mono le123 rf120)⟩, ⟨_, _, rfl, rf123⟩⟩⟩
theorem ct49 (N : Nat) {a0_0 : Int} {a0_1 : (List (Int × Int))} {a0_2 : (List (Int × Int × Int))} {a0_3 : Int} {a1 : Int} {r : Int} (hF : sf49 N a0_0 a0_1 a0_2 a0_3 a1 = some r) {fl : Nat} {h0 : Tr HBlk} {n0 : Nat} {F0 : PH} (hd : D h0 n0) (hs : F0.sub h0) {pa0_1 : Option (Nat × Nat)} {ca0_1 : Nat} {pa0_2 : Option (Nat × Nat)} {ca0_2 : Nat} (ra0_1 : RowF (rP rI rI) 2 F0 pa0_1 ca0_1 a0_1) (ra0_2 : RowF (rP rI (rP rI rI)) 3 F0 pa0_2 ca0_2 a0_2) : C LW fl 49 [(.agg [(i64 a0_0), (.slice pa0_1 (a0_1).length ca0_1), (.slice pa0_2 (a0_2).length ca0_2), (i64 a0_3)]), (i64 a1)] ⟨h0, n0⟩ (KS (i64 r) n0 h0) := by
  unfold sf49 at hF
  refine in_cT hd hs lw49 rfl rfl (by rfl) (fun st T hT => ?_)
  have hfl : n0 ≤ n0 := Nat.le_refl n0
  have t0 := hT 0 _ rfl
  have t1 := hT 1 _ rfl
  dsimp only [L49]
  refine w_seq ?_; refine w_reg ?_; refine v_box st (fun b1 h2 n3 st => ?_); refine v_move ?_; refine r_nil ?_; refine th_n ?_; refine w_seq ?_; refine w_reg ?_; refine v_move ?_; refine r_nil ?_; refine th_n ?_; refine w_seq ?_; refine w_seq ?_; refine w_reg ?_; refine v_move ?_; refine r_nil ?_; refine th_n ?_; refine w_block ?_; obtain ⟨y11, hy, hF⟩ := bnd_some hF; refine v_loopD (sf49_L1 a0_2 a1) (fun x4 T ds5 h nx => ∃ (F5 : PH), ds5 = [] ∧ PH.le F0 F5 ∧ St n0 h0 F0 F5 h nx [.bx b1 [(i64 a0_0), (.slice pa0_1 (a0_1).length ca0_1), (.slice pa0_2 (a0_2).length ca0_2), (i64 a0_3)]] ∧ T.get 1 = some (i64 a1) ∧ T.get 2 = some (.ptr (some (b1, 0))) ∧ T.get 5 = some (i64 x4.1) ∧ T.get 6 = some (i64 x4.2)) (fun y e a σ => e = .exit 0 ∧ a.nt = 24 ∧ ∃ (F12 : PH), a.defers = [] ∧ PH.le F0 F12 ∧ St n0 h0 F0 F12 σ.h σ.nx [.bx b1 [(i64 a0_0), (.slice pa0_1 (a0_1).length ca0_1), (.slice pa0_2 (a0_2).length ca0_2), (i64 a0_3)]] ∧ a.tmps.get 5 = some (i64 y)) (fun x4 T ds5 h nx s hp hF => ?_) N _ y11 _ _ _ _ hy ⟨F0, rfl, (PH.le.refl _), st, gA, gA, gA, gA⟩ (fun e a σ hne hq => ?_)
  · obtain ⟨F5, rfl, le5, st, t1, t2, t5, t6⟩ := hp; unfold sf49_L1 at hF; unfold L49w0; refine w_seq ?_; refine w_seq ?_; refine w_reg ?_; refine v_move ?_; refine v_fa ?_; refine v_ld1 (st.at (i := 0) rfl).2.2 rfl ?_; refine v_len ?_; refine v_lss ?_; refine r_nil ?_; refine th_n ?_; refine v_cond (fun hb13 => ?_) (fun hb13 => ?_)
    · have hF := bif_t hb13 hF; refine w_skip ?_; refine th_n ?_; refine w_seq ?_; refine w_block ?_; refine w_seq ?_; refine w_reg ?_; refine v_fa ?_; refine v_ld1 (st.at (i := 0) rfl).2.2 rfl ?_; refine v_move ?_; obtain ⟨n14, x14, z14, l14, g14, hF⟩ := ix_some hF; obtain ⟨b14, o14, s14, j14, r14, e14, f14, k14, ⟨_, _, rfl, rfl, ⟨_, _, rfl, rfl, rfl⟩⟩⟩ := RowF.get ra0_2 g14; refine v_ixp e14 z14 l14 ?_; refine v_fa ?_; refine v_ld1 (st.sub _ _ (le5 _ _ f14)) (take_at (j := 0) k14 rfl) ?_; refine v_move ?_; refine v_leq ?_; refine r_nil ?_; refine th_n ?_; refine v_cond (fun hb15 => ?_) (fun hb15 => ?_)
      · have hF := bif_t hb15 hF; refine w_reg ?_; refine v_move ?_; refine v_move ?_; refine r_nil ?_; refine ib_n ?_; refine th_n ?_; refine w_reg ?_; refine v_move ?_; obtain ⟨q16, hF⟩ := ck_some hF; refine v_add q16 ?_; refine v_move ?_; refine r_nil ?_; refine thn ⟨_, (inj hF).symm, rfl, ?_⟩; dsimp only
        exact ⟨F5, rfl, le5, st, gA, gA, gA, gA⟩
      · have hF := bif_f hb15 hF; refine w_skip ?_; refine ib_n ?_; refine th_n ?_; refine w_reg ?_; refine v_move ?_; obtain ⟨q17, hF⟩ := ck_some hF; refine v_add q17 ?_; refine v_move ?_; refine r_nil ?_; refine thn ⟨_, (inj hF).symm, rfl, ?_⟩; dsimp only
        exact ⟨F5, rfl, le5, st, gA, gA, gA, gA⟩
    · have hF := bif_f hb13 hF; refine w_exit ?_; refine th_e ?_; refine th_e ?_; refine ⟨_, (inj hF).symm, rfl, rfl, ?_⟩; dsimp only
      exact ⟨F5, rfl, le5, st, gA⟩
  · obtain ⟨N9, T, ds12⟩ := a; obtain ⟨h18, n19⟩ := σ; obtain ⟨rfl, e1, F12, e2, le12, st, t5⟩ := hq
    dsimp only at e1 e2
    subst e1
    subst e2
    dsimp only at st t5
    refine ib_e ?_; refine th_n ?_; refine w_seq ?_; refine w_reg ?_; refine v_move ?_; refine v_move ?_; refine r_nil ?_; refine th_n ?_; refine w_ret ?_; obtain rfl := inj hF
    exact end_s st (Res.t gA Res.nil) rfl rfl
end Go.Hx.V

/- Functions of the program come to that. -/
namespace Go.Hx.V
open Go.Hx
set_option linter.unusedVariables false
set_option maxRecDepth 20000
set_option maxHeartbeats 4000000
attribute [local irreducible] W R C thenH inBlockH Tr.get Tr.set lo
theorem ct60 (N : Nat) {a0 : Int} {r : Bool} (hF : sf60 N a0 = some r) {fl : Nat} {h0 : Tr HBlk} {n0 : Nat} {F0 : PH} (hd : D h0 n0) (hs : F0.sub h0) : C LW fl 60 [(i64 a0)] ⟨h0, n0⟩ (KS (.bool r) n0 h0) := by
  unfold sf60 at hF
  refine in_cT hd hs lw60 rfl rfl (by rfl) (fun st T hT => ?_)
  have hfl : n0 ≤ n0 := Nat.le_refl n0
  have t0 := hT 0 _ rfl
  dsimp only [L60]
  refine w_seq ?_; refine w_reg ?_; refine v_move ?_; refine r_nil ?_; refine th_n ?_; refine w_seq ?_; refine w_reg ?_; refine v_move ?_; refine v_leq ?_; refine v_move ?_
  rcases Bool.eq_false_or_eq_true (decide ((0 : Int) ≤ a0)) with hb1 | hb1
  · have hF := bif_t hb1 hF; refine g_take hb1 (v_move ?_); refine g_take hb1 (v_leq ?_); refine v_pick hb1 ?_; refine v_move ?_; refine r_nil ?_; refine th_n ?_; refine w_ret ?_; obtain rfl := inj hF
    exact end_s st (Res.t gA Res.nil) rfl rfl
  · have hF := bif_f hb1 hF; refine g_skip hb1 ?_; refine g_skip hb1 ?_; refine v_pick' hb1 ?_; refine v_move ?_; refine r_nil ?_; refine th_n ?_; refine w_ret ?_; obtain rfl := inj hF
    exact end_s st (Res.t gA Res.nil) rfl rfl
theorem ct96 (N : Nat) {a0 : Int} {a1 : (List Int)} {r : Int} (hF : sf96 N a0 a1 = some r) {fl : Nat} {h0 : Tr HBlk} {n0 : Nat} {F0 : PH} (hd : D h0 n0) (hs : F0.sub h0) {pa1 : Option (Nat × Nat)} {ca1 : Nat} (ra1 : RowF rI 1 F0 pa1 ca1 a1) : C LW fl 96 [(i64 a0), (.slice pa1 (a1).length ca1)] ⟨h0, n0⟩ (KS (i64 r) n0 h0) := by
  unfold sf96 at hF
  refine in_cT hd hs lw96 rfl rfl (by rfl) (fun st T hT => ?_)
  have hfl : n0 ≤ n0 := Nat.le_refl n0
  have t0 := hT 0 _ rfl
  have t1 := hT 1 _ rfl
  dsimp only [L96]
  refine w_seq ?_; refine w_reg ?_; refine v_move ?_; refine r_nil ?_; refine th_n ?_; refine w_seq ?_; refine w_seq ?_; refine w_reg ?_; refine v_move ?_; refine v_len ?_; refine v_move ?_; refine r_nil ?_; refine th_n ?_; refine w_block ?_; obtain ⟨y8, hy, hF⟩ := bnd_some hF; refine v_loopD (sf96_L1 a1) (fun x1 T ds2 h nx => ∃ (F2 : PH), ds2 = [] ∧ PH.le F0 F2 ∧ St n0 h0 F0 F2 h nx [] ∧ T.get 0 = some (i64 x1.1) ∧ T.get 7 = some (.slice pa1 (a1).length ca1) ∧ T.get 8 = some (i64 ((a1).length : Int)) ∧ T.get 9 = some (i64 x1.2)) (fun y e a σ => e = .exit 0 ∧ a.nt = 19 ∧ ∃ (F9 : PH), a.defers = [] ∧ PH.le F0 F9 ∧ St n0 h0 F0 F9 σ.h σ.nx [] ∧ a.tmps.get 0 = some (i64 y)) (fun x1 T ds2 h nx s hp hF => ?_) N _ y8 _ _ _ _ hy ⟨F0, rfl, (PH.le.refl _), st, gA, gA, gA, gA⟩ (fun e a σ hne hq => ?_)
  · obtain ⟨F2, rfl, le2, st, t0, t7, t8, t9⟩ := hp; unfold sf96_L1 at hF; unfold L96w0; refine w_seq ?_; refine w_reg ?_; refine v_lss ?_; refine r_nil ?_; refine th_n ?_; refine w_seq ?_; refine v_cond (fun hb10 => ?_) (fun hb10 => ?_)
    · have hF := bif_t hb10 hF; refine w_skip ?_; refine th_n ?_; refine w_seq ?_; refine w_block ?_; refine w_seq ?_; refine w_reg ?_; obtain ⟨n11, x11, z11, l11, g11, hF⟩ := ix_some hF; obtain ⟨b11, o11, s11, j11, r11, e11, f11, k11, rfl⟩ := RowF.get ra1 g11; refine v_ixp e11 z11 l11 ?_; refine v_ld1 (st.sub _ _ (le2 _ _ f11)) (take_at (j := 0) k11 rfl) ?_; refine v_move ?_; refine r_nil ?_; refine th_n ?_; refine w_seq ?_; refine w_reg ?_; refine v_move ?_; refine v_move ?_; refine v_gtr ?_; refine r_nil ?_; refine th_n ?_; refine v_cond (fun hb12 => ?_) (fun hb12 => ?_)
      · have hF := bif_t hb12 hF; refine w_reg ?_; refine v_move ?_; refine v_move ?_; refine r_nil ?_; refine ib_n ?_; refine th_n ?_; refine w_reg ?_; obtain ⟨q13, hF⟩ := ck_some hF; refine v_add q13 ?_; refine v_move ?_; refine r_nil ?_; refine thn ⟨_, (inj hF).symm, rfl, ?_⟩; dsimp only
        exact ⟨F2, rfl, le2, st, gA, gA, gA, gA⟩
      · have hF := bif_f hb12 hF; refine w_skip ?_; refine ib_n ?_; refine th_n ?_; refine w_reg ?_; obtain ⟨q14, hF⟩ := ck_some hF; refine v_add q14 ?_; refine v_move ?_; refine r_nil ?_; refine thn ⟨_, (inj hF).symm, rfl, ?_⟩; dsimp only
        exact ⟨F2, rfl, le2, st, gA, gA, gA, gA⟩
    · have hF := bif_f hb10 hF; refine w_exit ?_; refine th_e ?_; refine th_e ?_; refine ⟨_, (inj hF).symm, rfl, rfl, ?_⟩; dsimp only
      exact ⟨F2, rfl, le2, st, gA⟩
  · obtain ⟨N9, T, ds9⟩ := a; obtain ⟨h15, n16⟩ := σ; obtain ⟨rfl, e1, F9, e2, le9, st, t0⟩ := hq
    dsimp only at e1 e2
    subst e1
    subst e2
    dsimp only at st t0
    refine ib_e ?_; refine th_n ?_; refine w_seq ?_; refine w_reg ?_; refine v_move ?_; refine v_move ?_; refine r_nil ?_; refine th_n ?_; refine w_ret ?_; obtain rfl := inj hF
    exact end_s st (Res.t gA Res.nil) rfl rfl
theorem ct33 (N : Nat) {a0 : Int} {a1 : Int} {r : (Int × Int)} (hF : sf33 N a0 a1 = some r) {fl : Nat} {h0 : Tr HBlk} {n0 : Nat} {F0 : PH} (hd : D h0 n0) (hs : F0.sub h0) : C LW fl 33 [(i64 a0), (i64 a1)] ⟨h0, n0⟩ (KS (.agg [(i64 r.1), (i64 r.2)]) n0 h0) := by
  unfold sf33 at hF
  refine in_cT hd hs lw33 rfl rfl (by rfl) (fun st T hT => ?_)
  have hfl : n0 ≤ n0 := Nat.le_refl n0
  have t0 := hT 0 _ rfl
  have t1 := hT 1 _ rfl
  dsimp only [L33]
  refine w_seq ?_; refine w_reg ?_; refine v_alloc st (fun b1 h2 n3 st => ?_); refine r_nil ?_; refine th_n ?_; refine w_seq ?_; refine w_reg ?_; refine v_move ?_; refine v_move ?_; refine v_build (cs := [(i64 a0), (i64 a1)]) rfl ?_; refine v_st (cs' := [(i64 a0), (i64 a1)]) st 0 rfl rfl rfl rfl hfl (fun h4 st => ?_); refine r_nil ?_; refine th_n ?_; refine w_ret ?_; obtain rfl := inj hF
  exact end_s st (Res.c gA (st.at (i := 0) rfl).2.2 (show takeN _ _ = some [(i64 a0), (i64 a1)] from rfl) Res.nil) rfl rfl
theorem ct37 (N : Nat) {a0 : (List Int)} {a1 : (List Int)} {r : Bool} (hF : sf37 N a0 a1 = some r) {fl : Nat} {h0 : Tr HBlk} {n0 : Nat} {F0 : PH} (hd : D h0 n0) (hs : F0.sub h0) {pa0 : Option (Nat × Nat)} {ca0 : Nat} {pa1 : Option (Nat × Nat)} {ca1 : Nat} (ra0 : RowF rI 1 F0 pa0 ca0 a0) (ra1 : RowF rI 1 F0 pa1 ca1 a1) : C LW fl 37 [(.slice pa0 (a0).length ca0), (.slice pa1 (a1).length ca1)] ⟨h0, n0⟩ (KS (.bool r) n0 h0) := by
  unfold sf37 at hF
  refine in_cT hd hs lw37 rfl rfl (by rfl) (fun st T hT => ?_)
  have hfl : n0 ≤ n0 := Nat.le_refl n0
  have t0 := hT 0 _ rfl
  have t1 := hT 1 _ rfl
  dsimp only [L37]
  refine w_seq ?_; refine w_reg ?_; refine v_move ?_; refine r_nil ?_; refine th_n ?_; refine w_seq ?_; refine w_seq ?_; refine w_reg ?_; refine v_move ?_; refine v_len ?_; refine v_move ?_; refine v_len ?_; refine v_nei ?_; refine r_nil ?_; refine th_n ?_; refine v_cond (fun hb1 => ?_) (fun hb1 => ?_)
  · have hF := bif_t hb1 hF; refine w_seq ?_; refine w_reg ?_; refine v_move ?_; refine r_nil ?_; refine th_n ?_; refine w_ret ?_; refine th_r ?_; obtain rfl := inj hF
    exact end_s st (Res.t gA Res.nil) rfl rfl
  · have hF := bif_f hb1 hF; refine w_skip ?_; refine th_n ?_; refine w_seq ?_; refine w_seq ?_; refine w_reg ?_; refine v_move ?_; refine r_nil ?_; refine th_n ?_; refine w_block ?_; obtain ⟨y10, hy, hF⟩ := bnd_some hF; refine v_loopD (sf37_L1 a0 a1) (fun x2 T ds3 h nx => ∃ (F3 : PH), ds3 = [] ∧ PH.le F0 F3 ∧ St n0 h0 F0 F3 h nx [] ∧ T.get 0 = some (.slice pa0 (a0).length ca0) ∧ T.get 1 = some (.slice pa1 (a1).length ca1) ∧ T.get 5 = some (i64 x2)) (fun y e a σ => (∃ u, y = (.inl u) ∧ e = .ret ∧ a.nt = 26 ∧ ∃ (F12 : PH), a.defers = [] ∧ PH.le F0 F12 ∧ St n0 h0 F0 F12 σ.h σ.nx [] ∧ a.tmps.get 4 = some (.bool false)) ∨ (∃ u, y = (.inr u) ∧ e = .exit 0 ∧ a.nt = 26 ∧ ∃ (F14 : PH), a.defers = [] ∧ PH.le F0 F14 ∧ St n0 h0 F0 F14 σ.h σ.nx [])) (fun x2 T ds3 h nx s hp hF => ?_) N _ y10 _ _ _ _ hy ⟨F0, rfl, (PH.le.refl _), st, gA, gA, gA⟩ (fun e a σ hne hq => ?_)
    · obtain ⟨F3, rfl, le3, st, t0, t1, t5⟩ := hp; unfold sf37_L1 at hF; unfold L37w0; refine w_seq ?_; refine w_seq ?_; refine w_reg ?_; refine v_move ?_; refine v_move ?_; refine v_len ?_; refine v_lss ?_; refine r_nil ?_; refine th_n ?_; refine v_cond (fun hb15 => ?_) (fun hb15 => ?_)
      · have hF := bif_t hb15 hF; refine w_skip ?_; refine th_n ?_; refine w_seq ?_; refine w_block ?_; refine w_seq ?_; refine w_drawV (Nat.le_trans hfl st.ext.le) (fun dw => ?_); refine y_pure st.d dw (fun hm vw => v_move pr_nil) ?_; refine y_pure st.d dw (fun hm vw => v_move pr_nil) ?_; obtain ⟨n16, x16, z16, l16, g16, hF⟩ := ix_some hF; obtain ⟨b16, o16, s16, j16, r16, e16, f16, k16, rfl⟩ := RowF.get ra0 g16; refine y_pure st.d dw (fun hm vw => v_ixp e16 z16 l16 pr_nil) ?_; refine y_pure st.d dw (fun hm vw => v_ld1 (vw.fz st (le3 _ _ f16)) (take_at (j := 0) k16 rfl) pr_nil) ?_; refine y_pure st.d dw (fun hm vw => v_move pr_nil) ?_; refine y_pure st.d dw (fun hm vw => v_move pr_nil) ?_; obtain ⟨n17, x17, z17, l17, g17, hF⟩ := ix_some hF
        obtain ⟨b17, o17, s17, j17, r17, e17, f17, k17, rfl⟩ := RowF.get ra1 g17; refine y_pure st.d dw (fun hm vw => v_ixp e17 z17 l17 pr_nil) ?_; refine y_pure st.d dw (fun hm vw => v_ld1 (vw.fz st (le3 _ _ f17)) (take_at (j := 0) k17 rfl) pr_nil) ?_; refine y_end st.d dw rfl (fun h18 ex vs => ?_)
        have st := st.ext1 ex
        refine v_nei ?_; refine r_nil ?_; refine th_n ?_; refine v_cond (fun hb19 => ?_) (fun hb19 => ?_)
        · have hF := bif_t hb19 hF; refine w_seq ?_; refine w_reg ?_; refine v_move ?_; refine r_nil ?_; refine th_n ?_; refine w_ret ?_; refine ib_r ?_; refine th_r ?_; refine th_r ?_; refine ⟨_, (inj hF).symm, .inl ⟨_, rfl, rfl, rfl, ?_⟩⟩; dsimp only
          exact ⟨F3, rfl, le3, st, gA⟩
        · have hF := bif_f hb19 hF; refine w_skip ?_; refine ib_n ?_; refine th_n ?_; refine w_reg ?_; refine v_move ?_; obtain ⟨q20, hF⟩ := ck_some hF; refine v_add q20 ?_; refine v_move ?_; refine r_nil ?_; refine thn ⟨_, (inj hF).symm, rfl, ?_⟩; dsimp only
          exact ⟨F3, rfl, le3, st, gA, gA, gA⟩
      · have hF := bif_f hb15 hF; refine w_exit ?_; refine th_e ?_; refine th_e ?_; refine ⟨_, (inj hF).symm, .inr (⟨_, rfl, rfl, rfl, ?_⟩)⟩; dsimp only
        exact ⟨F3, rfl, le3, st⟩
    · rcases hq with hq | hq
      · obtain ⟨N9, T, ds12⟩ := a; obtain ⟨h21, n22⟩ := σ; obtain ⟨w11, rfl, rfl, e1, F12, e2, le12, st, t4⟩ := hq
        dsimp only at e1 e2
        subst e1
        subst e2
        dsimp only at st t4
        have hF := sel_l hF; refine ib_r ?_; refine th_r ?_; obtain rfl := inj hF
        exact end_s st (Res.t gA Res.nil) rfl rfl
      · obtain ⟨N9, T, ds14⟩ := a; obtain ⟨h23, n24⟩ := σ; obtain ⟨w13, rfl, rfl, e1, F14, e2, le14, st⟩ := hq
        dsimp only at e1 e2
        subst e1
        subst e2
        dsimp only at st
        have hF := sel_r hF; refine ib_e ?_; refine th_n ?_; refine w_seq ?_; refine w_reg ?_; refine v_move ?_; refine r_nil ?_; refine th_n ?_; refine w_ret ?_; obtain rfl := inj hF
        exact end_s st (Res.t gA Res.nil) rfl rfl
theorem ct75 (N : Nat) {a0 : (List Int)} {a1 : Int} {r : Int} (hF : sf75 N a0 a1 = some r) {fl : Nat} {h0 : Tr HBlk} {n0 : Nat} {F0 : PH} (hd : D h0 n0) (hs : F0.sub h0) {pa0 : Option (Nat × Nat)} {ca0 : Nat} (ra0 : RowF (rK .u16) 1 F0 pa0 ca0 a0) : C LW fl 75 [(.slice pa0 (a0).length ca0), (i64 a1)] ⟨h0, n0⟩ (KS (i64 r) n0 h0) := by
  unfold sf75 at hF
  refine in_cT hd hs lw75 rfl rfl (by rfl) (fun st T hT => ?_)
  have hfl : n0 ≤ n0 := Nat.le_refl n0
  have t0 := hT 0 _ rfl
  have t1 := hT 1 _ rfl
  dsimp only [L75]
  refine w_seq ?_; refine w_reg ?_; refine v_move ?_; refine r_nil ?_; refine th_n ?_; refine w_seq ?_; refine w_seq ?_; refine w_reg ?_; refine v_move ?_; refine v_len ?_; refine v_eqi ?_; refine r_nil ?_; refine th_n ?_; refine v_cond (fun hb1 => ?_) (fun hb1 => ?_)
  · have hF := bif_t hb1 hF; refine w_seq ?_; refine w_reg ?_; refine v_move ?_; refine r_nil ?_; refine th_n ?_; refine w_ret ?_; refine th_r ?_; obtain rfl := inj hF
    exact end_s st (Res.t gA Res.nil) rfl rfl
  · have hF := bif_f hb1 hF; refine w_skip ?_; refine th_n ?_; refine w_seq ?_; refine w_reg ?_; refine v_move ?_; refine v_move ?_; refine v_move ?_; refine v_len ?_; obtain ⟨q2, hF⟩ := ck_some hF; refine v_rem q2 ?_; obtain ⟨n3, x3, z3, l3, g3, hF⟩ := ix_some hF; obtain ⟨b3, o3, s3, j3, r3, e3, f3, k3, rfl⟩ := RowF.get ra0 g3; refine v_ixp e3 z3 l3 ?_; refine v_ld1 (st.sub _ _ f3) (take_at (j := 0) k3 rfl) ?_; obtain ⟨q4, hF⟩ := ck_some hF; refine v_conv q4 ?_; refine v_move ?_; refine r_nil ?_; refine th_n ?_; refine w_ret ?_; obtain rfl := inj hF
    exact end_s st (Res.t gA Res.nil) rfl rfl
theorem ct74 (N : Nat) {a0_0 : Int} {a0_1 : Int} {a1 : Int} {r : Int} (hF : sf74 N a0_0 a0_1 a1 = some r) {fl : Nat} {h0 : Tr HBlk} {n0 : Nat} {F0 : PH} (hd : D h0 n0) (hs : F0.sub h0) : C LW fl 74 [(.agg [(i64 a0_0), (i64 a0_1)]), (i64 a1)] ⟨h0, n0⟩ (KS (i64 r) n0 h0) := by
  unfold sf74 at hF
  refine in_cT hd hs lw74 rfl rfl (by rfl) (fun st T hT => ?_)
  have hfl : n0 ≤ n0 := Nat.le_refl n0
  have t0 := hT 0 _ rfl
  have t1 := hT 1 _ rfl
  dsimp only [L74]
  refine w_seq ?_; refine w_reg ?_; refine v_box st (fun b1 h2 n3 st => ?_); refine v_move ?_; refine r_nil ?_; refine th_n ?_; refine w_seq ?_; refine w_drawV (Nat.le_trans hfl st.ext.le) (fun dw => ?_); refine y_pure st.d dw (fun hm vw => v_fa pr_nil) ?_; refine y_pure st.d dw (fun hm vw => v_ld1 (vw.bx (st.at (i := 0) rfl)) rfl pr_nil) ?_; refine y_pure st.d dw (fun hm vw => v_move pr_nil) ?_; refine y_pure st.d dw (fun hm vw => v_fa pr_nil) ?_; refine y_pure st.d dw (fun hm vw => v_ld1 (vw.bx (st.at (i := 0) rfl)) rfl pr_nil) ?_; refine y_pure st.d dw (fun hm vw => v_fa pr_nil) ?_; refine y_pure st.d dw (fun hm vw => v_ld1 (vw.bx (st.at (i := 0) rfl)) rfl pr_nil) ?_; refine y_end st.d dw rfl (fun h4 ex vs => ?_)
  have st := st.ext1 ex
  obtain ⟨q5, hF⟩ := ck_some hF; refine v_sub q5 ?_; obtain ⟨q6, hF⟩ := ck_some hF; refine v_add q6 ?_; obtain ⟨q7, hF⟩ := ck_some hF; refine v_rem q7 ?_; obtain ⟨q8, hF⟩ := ck_some hF; refine v_add q8 ?_; refine v_move ?_; refine r_nil ?_; refine th_n ?_; refine w_ret ?_; obtain rfl := inj hF
  exact end_s st (Res.t gA Res.nil) rfl rfl
end Go.Hx.V

/- Functions of the program come to that. -/
namespace Go.Hx.V
open Go.Hx
set_option linter.unusedVariables false
set_option maxRecDepth 20000
set_option maxHeartbeats 4000000
attribute [local irreducible] W R C thenH inBlockH Tr.get Tr.set lo
theorem ct19 (N : Nat) {a0_0 : Int} {a0_1 : (List (Int × Int))} {a0_2 : (List (Int × Int × Int))} {a0_3 : Int} {r : (Int × (List (Int × Int)) × (List (Int × Int × Int)) × Int)} (hF : sf19 N a0_0 a0_1 a0_2 a0_3 = some r) {fl : Nat} {h0 : Tr HBlk} {n0 : Nat} {F0 : PH} (hd : D h0 n0) (hs : F0.sub h0) (hfl : fl ≤ n0) {pa0_1 : Option (Nat × Nat)} {ca0_1 : Nat} {pa0_2 : Option (Nat × Nat)} {ca0_2 : Nat} (ra0_1 : RowF (rP rI rI) 2 F0 pa0_1 ca0_1 a0_1) (ra0_2 : RowF (rP rI (rP rI rI)) 3 F0 pa0_2 ca0_2 a0_2) : C LW fl 19 [(.agg [(i64 a0_0), (.slice pa0_1 (a0_1).length ca0_1), (.slice pa0_2 (a0_2).length ca0_2), (i64 a0_3)])] ⟨h0, n0⟩ (KR (rvA (rP rI (rP (rL (rP rI rI) 2) (rP (rL (rP rI (rP rI rI)) 3) rI)))) F0 h0 n0 r) := by
  unfold sf19 at hF
  refine in_mT hd hs hfl lw19 rfl rfl (by rfl) (fun st T hT => ?_)
  have t0 := hT 0 _ rfl
  dsimp only [L19]
  refine w_seq ?_; refine w_reg ?_; refine v_box st (fun b1 h2 n3 st => ?_); refine v_alloc st (fun b4 h5 n6 st => ?_); refine r_nil ?_; refine th_n ?_; refine w_seq ?_; refine w_reg ?_; refine v_fa ?_; refine v_ld1 (st.at (i := 0) rfl).2.2 rfl ?_; refine v_fa ?_; refine v_ld1 (st.at (i := 0) rfl).2.2 rfl ?_; refine v_build (cs := [(i64 a0_0), (.slice none 0 0), (.slice none 0 0), (i64 a0_3)]) rfl ?_; refine v_alloc st (fun b7 h8 n9 st => ?_); refine v_st (cs' := [(i64 a0_0), (.slice none 0 0), (.slice none 0 0), (i64 a0_3)]) st 2 rfl rfl rfl rfl hfl (fun h10 st => ?_); refine r_nil ?_; refine th_n ?_; refine w_seq ?_; refine w_seq ?_; refine w_reg ?_; refine v_move ?_; refine r_nil ?_; refine th_n ?_
  refine w_block ?_
  have st := st.nilL 2
  have w28 : LR (rP rI rI) 2 F0 ([] : List (Int × Int)) [] := LR.nil
  obtain ⟨y42, hy, hF⟩ := bnd_some hF; refine v_loopD (sf19_L1 N a0_1) (fun x30 T ds31 h nx => ∃ (F31 : PH) (o32 : Option Nat) (c32 : Nat) (cs32 : List HV), ds31 = [] ∧ PH.le F0 F31 ∧ St n0 h0 F0 F31 h nx [.bx b1 [(i64 a0_0), (.slice pa0_1 (a0_1).length ca0_1), (.slice pa0_2 (a0_2).length ca0_2), (i64 a0_3)], .bx b4 [(i64 (0 : Int)), (.slice none 0 0), (.slice none 0 0), (i64 (0 : Int))], .bx b7 [(i64 a0_0), (slv o32 (x30.2).length c32), (.slice none 0 0), (i64 a0_3)], .ls o32 c32 cs32 2] ∧ LR (rP rI rI) 2 F31 x30.2 cs32 ∧ T.get 1 = some (.ptr (some (b1, 0))) ∧ T.get 2 = some (.ptr (some (b4, 0))) ∧ T.get 3 = some (.ptr (some (b7, 0))) ∧ T.get 4 = some (i64 x30.1)) (fun y e a σ => e = .exit 0 ∧ a.nt = 56 ∧ ∃ (F43 : PH) (o44 : Option Nat) (c44 : Nat) (cs44 : List HV), a.defers = [] ∧ PH.le F0 F43 ∧ St n0 h0 F0 F43 σ.h σ.nx [.bx b1 [(i64 a0_0), (.slice pa0_1 (a0_1).length ca0_1), (.slice pa0_2 (a0_2).length ca0_2), (i64 a0_3)], .bx b4 [(i64 (0 : Int)), (.slice none 0 0), (.slice none 0 0), (i64 (0 : Int))], .bx b7 [(i64 a0_0), (slv o44 (y).length c44), (.slice none 0 0), (i64 a0_3)], .ls o44 c44 cs44 2] ∧ LR (rP rI rI) 2 F43 y cs44 ∧ a.tmps.get 1 = some (.ptr (some (b1, 0))) ∧ a.tmps.get 2 = some (.ptr (some (b4, 0))) ∧ a.tmps.get 3 = some (.ptr (some (b7, 0)))) (fun x30 T ds31 h nx s hp hF => ?_) N _ y42 _ _ _ _ hy ⟨F0, none, 0, [], rfl, (PH.le.refl _), st, w28, gA, gA, gA, gA⟩ (fun e a σ hne hq => ?_)
  · obtain ⟨F31, o32, c32, cs32, rfl, le31, st, w32, t1, t2, t3, t4⟩ := hp; unfold sf19_L1 at hF; unfold L19w1; refine w_seq ?_; refine w_seq ?_; refine w_reg ?_; refine v_move ?_; refine v_fa ?_; refine v_ld1 (st.at (i := 0) rfl).2.2 rfl ?_; refine v_len ?_; refine v_lss ?_; refine r_nil ?_; refine th_n ?_; refine v_cond (fun hb45 => ?_) (fun hb45 => ?_)
    · have hF := bif_t hb45 hF; refine w_skip ?_; refine th_n ?_; refine w_seq ?_; refine w_block ?_; refine w_drawV (Nat.le_trans hfl st.ext.le) (fun dw => ?_); refine y_pure st.d dw (fun hm vw => v_fa pr_nil) ?_; refine y_pure st.d dw (fun hm vw => v_ld1 (vw.bx (st.at (i := 2) rfl)) rfl pr_nil) ?_; refine y_pure st.d dw (fun hm vw => v_fa pr_nil) ?_; refine y_pure st.d dw (fun hm vw => v_ld1 (vw.bx (st.at (i := 0) rfl)) rfl pr_nil) ?_; refine y_pure st.d dw (fun hm vw => v_move pr_nil) ?_; obtain ⟨n46, x46, z46, l46, g46, hF⟩ := ix_some hF; obtain ⟨b46, o46, s46, j46, r46, e46, f46, k46, ⟨_, _, rfl, rfl, rfl⟩⟩ := RowF.get ra0_1 g46; refine y_pure st.d dw (fun hm vw => v_ixp e46 z46 l46 pr_nil) ?_
      refine y_pure st.d dw (fun hm vw => v_ldn (vw.fz st (le31 _ _ f46)) k46 pr_nil) ?_; obtain ⟨v47, e48, hF⟩ := bnd_some hF; refine y_flat st.d dw (fun hm vw => u_call (ct25 N e48 vw.d (vw.sub st) ) (fun n' hn' => pf_nil hn')) (fun n49 hn' dw => ?_); refine y_lay st.d dw (fun hm vw => u_bs (cs := [(i64 v47.1), (i64 v47.2)]) rfl pr_nil) (fun done dw => ?_); refine y_end st.d dw rfl (fun h50 ex vs => ?_)
      have st := St.laid st ex (Lay.cons (b := n49) (cs := [(i64 v47.1), (i64 v47.2)]) (by have := dw.le; omega) (vs _ (List.mem_cons_self ..) _ _ (if_pos rfl)) (Lay.nil (by have := dw.le; omega)))
      obtain ⟨q51, hF⟩ := ck_some hF
      have w51 : LR (rP rI rI) 2 F31 (x30.2 ++ [(v47.1, v47.2)]) (cs32 ++ [(i64 v47.1), (i64 v47.2)]) := LR.app w32 (LR.one (⟨[(i64 v47.1)], [(i64 v47.2)], rfl, rfl, rfl⟩))
      refine v_aps (n := 1) (ox := 0) (m := (x30.2 ++ [(v47.1, v47.2)]).length) (row := [(i64 v47.1), (i64 v47.2)]) st 3 rfl w32.1 (st.at (i := 4) rfl).2.2 rfl rfl q51 hfl (by decide) (by decide) (by simp) (fun o51 c51 h51 n51 st => ?_)
      refine v_fa ?_; refine v_st (cs' := [(i64 a0_0), (slv o51 ((x30.2 ++ [(v47.1, v47.2)])).length c51), (.slice none 0 0), (i64 a0_3)]) st 2 rfl rfl rfl rfl hfl (fun h52 st => ?_); refine r_nil ?_; refine ib_n ?_; refine th_n ?_; refine w_reg ?_; refine v_move ?_; obtain ⟨q53, hF⟩ := ck_some hF; refine v_add q53 ?_; refine v_move ?_; refine r_nil ?_; refine thn ⟨_, (inj hF).symm, rfl, ?_⟩; dsimp only
      exact ⟨F31, o51, c51, (cs32 ++ [(i64 v47.1), (i64 v47.2)]), rfl, le31, (st.drop (by first | exact List.Sublist.refl _ | (repeat first | exact List.nil_sublist _ | refine List.Sublist.cons_cons _ ?_ | refine List.Sublist.cons _ ?_))), w51, gA, gA, gA, gA⟩
    · have hF := bif_f hb45 hF; refine w_exit ?_; refine th_e ?_; refine th_e ?_; refine ⟨_, (inj hF).symm, rfl, rfl, ?_⟩; dsimp only
      exact ⟨F31, o32, c32, cs32, rfl, le31, st, w32, gA, gA, gA⟩
  · obtain ⟨N9, T, ds43⟩ := a; obtain ⟨h54, n55⟩ := σ; obtain ⟨rfl, e1, F43, o44, c44, cs44, e2, le43, st, w44, t1, t2, t3⟩ := hq
    dsimp only at e1 e2
    subst e1
    subst e2
    dsimp only at st t1 t2 t3
    refine ib_e ?_; refine th_n ?_; refine w_seq ?_; refine w_seq ?_; refine w_reg ?_; refine v_move ?_; refine r_nil ?_; refine th_n ?_; refine w_block ?_
    have st := st.nilL 3
    have w73 : LR (rP rI (rP rI rI)) 3 F43 ([] : List (Int × Int × Int)) [] := LR.nil
    obtain ⟨y89, hy, hF⟩ := bnd_some hF; refine v_loopD (sf19_L2 N a0_2) (fun x75 T ds76 h nx => ∃ (F76 : PH) (o77 : Option Nat) (c77 : Nat) (cs77 : List HV), ds76 = [] ∧ PH.le F43 F76 ∧ St n0 h0 F0 F76 h nx [.bx b1 [(i64 a0_0), (.slice pa0_1 (a0_1).length ca0_1), (.slice pa0_2 (a0_2).length ca0_2), (i64 a0_3)], .bx b4 [(i64 (0 : Int)), (.slice none 0 0), (.slice none 0 0), (i64 (0 : Int))], .bx b7 [(i64 a0_0), (slv o44 (y42).length c44), (slv o77 (x75.2).length c77), (i64 a0_3)], .ls o44 c44 cs44 2, .ls o77 c77 cs77 3] ∧ LR (rP rI (rP rI rI)) 3 F76 x75.2 cs77 ∧ T.get 1 = some (.ptr (some (b1, 0))) ∧ T.get 2 = some (.ptr (some (b4, 0))) ∧ T.get 3 = some (.ptr (some (b7, 0))) ∧ T.get 5 = some (i64 x75.1)) (fun y e a σ => e = .exit 2 ∧ a.nt = 56 ∧ ∃ (F90 : PH) (o91 : Option Nat) (c91 : Nat) (cs91 : List HV), a.defers = [] ∧ PH.le F43 F90 ∧ St n0 h0 F0 F90 σ.h σ.nx [.bx b1 [(i64 a0_0), (.slice pa0_1 (a0_1).length ca0_1), (.slice pa0_2 (a0_2).length ca0_2), (i64 a0_3)], .bx b4 [(i64 (0 : Int)), (.slice none 0 0), (.slice none 0 0), (i64 (0 : Int))], .bx b7 [(i64 a0_0), (slv o44 (y42).length c44), (slv o91 (y).length c91), (i64 a0_3)], .ls o44 c44 cs44 2, .ls o91 c91 cs91 3] ∧ LR (rP rI (rP rI rI)) 3 F90 y cs91 ∧ a.tmps.get 2 = some (.ptr (some (b4, 0))) ∧ a.tmps.get 3 = some (.ptr (some (b7, 0)))) (fun x75 T ds76 h nx s hp hF => ?_) N _ y89 _ _ _ _ hy ⟨F43, none, 0, [], rfl, (PH.le.refl _), st, w73, gA, gA, gA, gA⟩ (fun e a σ hne hq => ?_)
    · obtain ⟨F76, o77, c77, cs77, rfl, le76, st, w77, t1, t2, t3, t5⟩ := hp
      have le78 := PH.le.trans le43 le76
      unfold sf19_L2 at hF; unfold L19w0; refine w_seq ?_; refine w_seq ?_; refine w_reg ?_; refine v_move ?_; refine v_fa ?_; refine v_ld1 (st.at (i := 0) rfl).2.2 rfl ?_; refine v_len ?_; refine v_lss ?_; refine r_nil ?_; refine th_n ?_; refine v_cond (fun hb92 => ?_) (fun hb92 => ?_)
      · have hF := bif_t hb92 hF; refine w_skip ?_; refine th_n ?_; refine w_seq ?_; refine w_block ?_; refine w_drawV (Nat.le_trans hfl st.ext.le) (fun dw => ?_); refine y_pure st.d dw (fun hm vw => v_fa pr_nil) ?_; refine y_pure st.d dw (fun hm vw => v_ld1 (vw.bx (st.at (i := 2) rfl)) rfl pr_nil) ?_; refine y_pure st.d dw (fun hm vw => v_fa pr_nil) ?_; refine y_pure st.d dw (fun hm vw => v_ld1 (vw.bx (st.at (i := 0) rfl)) rfl pr_nil) ?_; refine y_pure st.d dw (fun hm vw => v_move pr_nil) ?_; obtain ⟨n93, x93, z93, l93, g93, hF⟩ := ix_some hF; obtain ⟨b93, o93, s93, j93, r93, e93, f93, k93, ⟨_, _, rfl, rfl, ⟨_, _, rfl, rfl, rfl⟩⟩⟩ := RowF.get ra0_2 g93; refine y_pure st.d dw (fun hm vw => v_ixp e93 z93 l93 pr_nil) ?_
        refine y_pure st.d dw (fun hm vw => v_fa pr_nil) ?_; refine y_pure st.d dw (fun hm vw => v_ld1 (vw.fz st (le78 _ _ f93)) (take_at (j := 0) k93 rfl) pr_nil) ?_; refine y_pure st.d dw (fun hm vw => v_fa pr_nil) ?_; refine y_pure st.d dw (fun hm vw => v_ld1 (vw.bx (st.at (i := 0) rfl)) rfl pr_nil) ?_; refine y_pure st.d dw (fun hm vw => v_move pr_nil) ?_; obtain ⟨n94, x94, z94, l94, g94, hF⟩ := ix_some hF; obtain ⟨b94, o94, s94, j94, r94, e94, f94, k94, ⟨_, _, rfl, rfl, ⟨_, _, rfl, rfl, rfl⟩⟩⟩ := RowF.get ra0_2 g94; refine y_pure st.d dw (fun hm vw => v_ixp e94 z94 l94 pr_nil) ?_; refine y_pure st.d dw (fun hm vw => v_fa pr_nil) ?_
        refine y_pure st.d dw (fun hm vw => v_ldn (vs := [(i64 x94.2.1), (i64 x94.2.2)]) (vw.fz st (le78 _ _ f94)) (take_sub (j := 1) k94 (by decide) rfl) pr_nil) ?_
        obtain ⟨v95, e96, hF⟩ := bnd_some hF; refine y_flat st.d dw (fun hm vw => u_call (ct25 N e96 vw.d (vw.sub st) ) (fun n' hn' => pf_nil hn')) (fun n97 hn' dw => ?_); refine y_pure st.d dw (fun hm vw => v_build (cs := [(i64 x93.1), (i64 v95.1), (i64 v95.2)]) rfl pr_nil) ?_; refine y_lay st.d dw (fun hm vw => u_bs (cs := [(i64 x93.1), (i64 v95.1), (i64 v95.2)]) rfl pr_nil) (fun done dw => ?_); refine y_end st.d dw rfl (fun h98 ex vs => ?_)
        have st := St.laid st ex (Lay.cons (b := n97) (cs := [(i64 x93.1), (i64 v95.1), (i64 v95.2)]) (by have := dw.le; omega) (vs _ (List.mem_cons_self ..) _ _ (if_pos rfl)) (Lay.nil (by have := dw.le; omega)))
        obtain ⟨q99, hF⟩ := ck_some hF
        have w99 : LR (rP rI (rP rI rI)) 3 F76 (x75.2 ++ [(x93.1, v95.1, v95.2)]) (cs77 ++ [(i64 x93.1), (i64 v95.1), (i64 v95.2)]) := LR.app w77 (LR.one (⟨[(i64 x93.1)], [(i64 v95.1), (i64 v95.2)], rfl, rfl, ⟨[(i64 v95.1)], [(i64 v95.2)], rfl, rfl, rfl⟩⟩))
        refine v_aps (n := 1) (ox := 0) (m := (x75.2 ++ [(x93.1, v95.1, v95.2)]).length) (row := [(i64 x93.1), (i64 v95.1), (i64 v95.2)]) st 4 rfl w77.1 (st.at (i := 5) rfl).2.2 rfl rfl q99 hfl (by decide) (by decide) (by simp) (fun o99 c99 h99 n99 st => ?_)
        refine v_fa ?_; refine v_st (cs' := [(i64 a0_0), (slv o44 (y42).length c44), (slv o99 ((x75.2 ++ [(x93.1, v95.1, v95.2)])).length c99), (i64 a0_3)]) st 2 rfl rfl rfl rfl hfl (fun h100 st => ?_); refine r_nil ?_; refine ib_n ?_; refine th_n ?_; refine w_reg ?_; refine v_move ?_; obtain ⟨q101, hF⟩ := ck_some hF; refine v_add q101 ?_; refine v_move ?_; refine r_nil ?_; refine thn ⟨_, (inj hF).symm, rfl, ?_⟩; dsimp only
        exact ⟨F76, o99, c99, (cs77 ++ [(i64 x93.1), (i64 v95.1), (i64 v95.2)]), rfl, le76, (st.drop (by first | exact List.Sublist.refl _ | (repeat first | exact List.nil_sublist _ | refine List.Sublist.cons_cons _ ?_ | refine List.Sublist.cons _ ?_))), w99, gA, gA, gA, gA⟩
      · have hF := bif_f hb92 hF; refine w_exit ?_; refine th_e ?_; refine th_e ?_; refine ⟨_, (inj hF).symm, rfl, rfl, ?_⟩; dsimp only
        exact ⟨F76, o77, c77, cs77, rfl, le76, st, w77, gA, gA⟩
    · obtain ⟨N9, T, ds90⟩ := a; obtain ⟨h103, n104⟩ := σ; obtain ⟨rfl, e1, F90, o91, c91, cs91, e2, le90, st, w91, t2, t3⟩ := hq
      dsimp only at e1 e2
      subst e1
      subst e2
      dsimp only at st t2 t3
      have le102 := PH.le.trans le43 le90
      refine ib_e ?_; refine th_n ?_; refine w_seq ?_; refine w_reg ?_; refine v_ldn (vs := [(i64 a0_0), (slv o44 (y42).length c44), (slv o91 (y89).length c91), (i64 a0_3)]) (st.at (i := 2) rfl).2.2 rfl ?_; refine v_st (cs' := [(i64 a0_0), (slv o44 (y42).length c44), (slv o91 (y89).length c91), (i64 a0_3)]) st 1 rfl rfl rfl rfl hfl (fun h105 st => ?_); refine r_nil ?_; refine th_n ?_; refine w_ret ?_; obtain rfl := inj hF
      obtain ⟨F106, le106, st, rf106⟩ := St.freeze st 3 rfl (LR.mono le90 w44) (by decide)
      have le107 := PH.le.trans le102 le106
      have le108 := PH.le.trans le90 le106
      obtain ⟨F109, le109, st, rf109⟩ := St.freeze st 3 rfl (LR.mono le106 w91) (by decide)
      have le110 := PH.le.trans le107 le109
      have le111 := PH.le.trans le108 le109
      have le112 := PH.le.trans le106 le109
      exact end_r st (Res.c gA (st.at (i := 1) rfl).2.2 (show takeN _ _ = some [(i64 a0_0), (.slice (o44.map fun b => (b, 0)) (y42).length c44), (.slice (o91.map fun b => (b, 0)) (y89).length c91), (i64 a0_3)] from rfl) Res.nil) ⟨_, rfl, ⟨[(i64 a0_0)], [(.slice (o44.map fun b => (b, 0)) (y42).length c44), (.slice (o91.map fun b => (b, 0)) (y89).length c91), (i64 a0_3)], rfl, rfl, ⟨[(.slice (o44.map fun b => (b, 0)) (y42).length c44)], [(.slice (o91.map fun b => (b, 0)) (y89).length c91), (i64 a0_3)], rfl, ⟨_, _, rfl, (RowF.mono le109 rf106)⟩, ⟨[(.slice (o91.map fun b => (b, 0)) (y89).length c91)], [(i64 a0_3)], rfl, ⟨_, _, rfl, rf109⟩, rfl⟩⟩⟩⟩
theorem ct97 (N : Nat) {a0 : (List (Int × Int))} {r : Bool} (hF : sf97 N a0 = some r) {fl : Nat} {h0 : Tr HBlk} {n0 : Nat} {F0 : PH} (hd : D h0 n0) (hs : F0.sub h0) {pa0 : Option (Nat × Nat)} {ca0 : Nat} (ra0 : RowF (rP rI rI) 2 F0 pa0 ca0 a0) : C LW fl 97 [(.slice pa0 (a0).length ca0), (.func 98 [] [])] ⟨h0, n0⟩ (KS (.bool r) n0 h0) := by
  unfold sf97 at hF
  refine in_cT hd hs lw97 rfl rfl (by rfl) (fun st T hT => ?_)
  have hfl : n0 ≤ n0 := Nat.le_refl n0
  have t0 := hT 0 _ rfl
  have t1 := hT 1 _ rfl
  dsimp only [L97]
  refine w_seq ?_; refine w_reg ?_; refine v_move ?_; refine r_nil ?_; refine th_n ?_; refine w_seq ?_; refine w_seq ?_; refine w_reg ?_; refine v_move ?_; refine v_len ?_; refine v_move ?_; refine r_nil ?_; refine th_n ?_; refine w_block ?_; obtain ⟨y14, hy, hF⟩ := bnd_some hF; refine v_loopD (sf97_L1 N a0) (fun x1 T ds2 h nx => ∃ (F2 : PH), ds2 = [] ∧ PH.le F0 F2 ∧ St n0 h0 F0 F2 h nx [] ∧ T.get 1 = some (.func 98 [] []) ∧ T.get 7 = some (.slice pa0 (a0).length ca0) ∧ T.get 8 = some (i64 ((a0).length : Int)) ∧ T.get 9 = some (i64 x1)) (fun y e a σ => (∃ u, y = (.inl u) ∧ e = .ret ∧ a.nt = 18 ∧ ∃ (F16 : PH), a.defers = [] ∧ PH.le F0 F16 ∧ St n0 h0 F0 F16 σ.h σ.nx [] ∧ a.tmps.get 4 = some (.bool false)) ∨ (∃ u, y = (.inr u) ∧ e = .exit 0 ∧ a.nt = 18 ∧ ∃ (F18 : PH), a.defers = [] ∧ PH.le F0 F18 ∧ St n0 h0 F0 F18 σ.h σ.nx [])) (fun x1 T ds2 h nx s hp hF => ?_) N _ y14 _ _ _ _ hy ⟨F0, rfl, (PH.le.refl _), st, gA, gA, gA, gA⟩ (fun e a σ hne hq => ?_)
  · obtain ⟨F2, rfl, le2, st, t1, t7, t8, t9⟩ := hp; unfold sf97_L1 at hF; unfold L97w0; refine w_seq ?_; refine w_reg ?_; refine v_lss ?_; refine r_nil ?_; refine th_n ?_; refine w_seq ?_; refine v_cond (fun hb19 => ?_) (fun hb19 => ?_)
    · have hF := bif_t hb19 hF; refine w_skip ?_; refine th_n ?_; refine w_seq ?_; refine w_block ?_; refine w_seq ?_; refine w_reg ?_; obtain ⟨n20, x20, z20, l20, g20, hF⟩ := ix_some hF; obtain ⟨b20, o20, s20, j20, r20, e20, f20, k20, ⟨_, _, rfl, rfl, rfl⟩⟩ := RowF.get ra0 g20; refine v_ixp e20 z20 l20 ?_; refine v_ldn (st.sub _ _ (le2 _ _ f20)) k20 ?_; refine v_alloc st (fun b21 h22 n23 st => ?_); refine v_st (cs' := [(i64 x20.1), (i64 x20.2)]) st 0 rfl rfl rfl rfl hfl (fun h24 st => ?_); refine r_nil ?_; refine th_n ?_; refine w_seq ?_; refine w_reg ?_; refine v_move ?_; refine v_ldn (vs := [(i64 x20.1), (i64 x20.2)]) (st.at (i := 0) rfl).2.2 rfl ?_; obtain ⟨v25, e26, hF⟩ := bnd_some hF; refine v_call st (ct98 N e26 st.d st.sub ) (fun n27 st => ?_)
      refine v_not ?_; refine r_nil ?_; refine th_n ?_; refine v_cond (fun hb28 => ?_) (fun hb28 => ?_)
      · have hF := bif_t hb28 hF; refine w_seq ?_; refine w_reg ?_; refine v_move ?_; refine r_nil ?_; refine th_n ?_; refine w_ret ?_; refine ib_r ?_; refine th_r ?_; refine th_r ?_; refine ⟨_, (inj hF).symm, .inl ⟨_, rfl, rfl, rfl, ?_⟩⟩; dsimp only
        exact ⟨F2, rfl, le2, (st.drop (by first | exact List.Sublist.refl _ | (repeat first | exact List.nil_sublist _ | refine List.Sublist.cons_cons _ ?_ | refine List.Sublist.cons _ ?_))), gA⟩
      · have hF := bif_f hb28 hF; refine w_skip ?_; refine ib_n ?_; refine th_n ?_; refine w_reg ?_; obtain ⟨q29, hF⟩ := ck_some hF; refine v_add q29 ?_; refine v_move ?_; refine r_nil ?_; refine thn ⟨_, (inj hF).symm, rfl, ?_⟩; dsimp only
        exact ⟨F2, rfl, le2, (st.drop (by first | exact List.Sublist.refl _ | (repeat first | exact List.nil_sublist _ | refine List.Sublist.cons_cons _ ?_ | refine List.Sublist.cons _ ?_))), gA, gA, gA, gA⟩
    · have hF := bif_f hb19 hF; refine w_exit ?_; refine th_e ?_; refine th_e ?_; refine ⟨_, (inj hF).symm, .inr (⟨_, rfl, rfl, rfl, ?_⟩)⟩; dsimp only
      exact ⟨F2, rfl, le2, st⟩
  · rcases hq with hq | hq
    · obtain ⟨N9, T, ds16⟩ := a; obtain ⟨h30, n31⟩ := σ; obtain ⟨w15, rfl, rfl, e1, F16, e2, le16, st, t4⟩ := hq
      dsimp only at e1 e2
      subst e1
      subst e2
      dsimp only at st t4
      have hF := sel_l hF; refine ib_r ?_; refine th_r ?_; obtain rfl := inj hF
      exact end_s st (Res.t gA Res.nil) rfl rfl
    · obtain ⟨N9, T, ds18⟩ := a; obtain ⟨h32, n33⟩ := σ; obtain ⟨w17, rfl, rfl, e1, F18, e2, le18, st⟩ := hq
      dsimp only at e1 e2
      subst e1
      subst e2
      dsimp only at st
      have hF := sel_r hF; refine ib_e ?_; refine th_n ?_; refine w_seq ?_; refine w_reg ?_; refine v_move ?_; refine r_nil ?_; refine th_n ?_; refine w_ret ?_; obtain rfl := inj hF
      exact end_s st (Res.t gA Res.nil) rfl rfl
theorem ct100 (N : Nat) {a0_0 : Int} {a0_1 : Int} {a0_2 : Int} {r : Bool} (hF : sf100 N a0_0 a0_1 a0_2 = some r) {fl : Nat} {h0 : Tr HBlk} {n0 : Nat} {F0 : PH} (hd : D h0 n0) (hs : F0.sub h0) : C LW fl 100 [(.agg [(i64 a0_0), (i64 a0_1), (i64 a0_2)])] ⟨h0, n0⟩ (KS (.bool r) n0 h0) := by
  unfold sf100 at hF
  refine in_cT hd hs lw100 rfl rfl (by rfl) (fun st T hT => ?_)
  have hfl : n0 ≤ n0 := Nat.le_refl n0
  have t0 := hT 0 _ rfl
  dsimp only [L100]
  refine w_seq ?_; refine w_reg ?_; refine v_box st (fun b1 h2 n3 st => ?_); refine v_move ?_; refine r_nil ?_; refine th_n ?_; refine w_seq ?_; refine w_reg ?_; refine v_fa ?_; refine v_ld1 (st.at (i := 0) rfl).2.2 rfl ?_; refine v_leq ?_; refine v_move ?_
  rcases Bool.eq_false_or_eq_true (decide ((0 : Int) ≤ a0_0)) with hb4 | hb4
  · have hF := bif_t hb4 hF; refine g_take hb4 (v_fa ?_); refine g_take hb4 (v_ld1 (st.at (i := 0) rfl).2.2 rfl ?_); refine g_take hb4 (v_leq ?_); refine v_pick hb4 ?_; refine v_move ?_
    rcases Bool.eq_false_or_eq_true (decide (a0_0 ≤ (60 : Int))) with hb5 | hb5
    · have hF := bif_t hb5 hF; refine g_take hb5 (v_fa ?_); refine g_take hb5 (v_ldn (vs := [(i64 a0_1), (i64 a0_2)]) (st.at (i := 0) rfl).2.2 rfl ?_); obtain ⟨v6, e7, hF⟩ := bnd_some hF; refine g_take hb5 (v_call st (ct98 N e7 st.d st.sub ) (fun n8 st => ?_)); refine v_pick hb5 ?_; refine v_move ?_; refine r_nil ?_; refine th_n ?_; refine w_ret ?_; obtain rfl := inj hF
      exact end_s st (Res.t gA Res.nil) rfl rfl
    · have hF := bif_f hb5 hF; refine g_skip hb5 ?_; refine g_skip hb5 ?_; refine g_skip hb5 ?_; refine v_pick' hb5 ?_; refine v_move ?_; refine r_nil ?_; refine th_n ?_; refine w_ret ?_; obtain rfl := inj hF
      exact end_s st (Res.t gA Res.nil) rfl rfl
  · have hF := bif_f hb4 hF; refine g_skip hb4 ?_; refine g_skip hb4 ?_; refine g_skip hb4 ?_; refine v_pick' hb4 ?_; refine v_move ?_; refine g_skip rfl ?_; refine g_skip rfl ?_; refine g_skip rfl ?_; refine v_pick' rfl ?_; refine v_move ?_; refine r_nil ?_; refine th_n ?_; refine w_ret ?_; obtain rfl := inj hF
    exact end_s st (Res.t gA Res.nil) rfl rfl
end Go.Hx.V

/- Functions of the program come to that. -/
namespace Go.Hx.V
open Go.Hx
set_option linter.unusedVariables false
set_option maxRecDepth 20000
set_option maxHeartbeats 4000000
attribute [local irreducible] W R C thenH inBlockH Tr.get Tr.set lo
theorem ct101 (N : Nat) {a0 : (List (Int × Int × Int))} {r : Bool} (hF : sf101 N a0 = some r) {fl : Nat} {h0 : Tr HBlk} {n0 : Nat} {F0 : PH} (hd : D h0 n0) (hs : F0.sub h0) {pa0 : Option (Nat × Nat)} {ca0 : Nat} (ra0 : RowF (rP rI (rP rI rI)) 3 F0 pa0 ca0 a0) : C LW fl 101 [(.slice pa0 (a0).length ca0), (.func 102 [] [])] ⟨h0, n0⟩ (KS (.bool r) n0 h0) := by
  unfold sf101 at hF
  refine in_cT hd hs lw101 rfl rfl (by rfl) (fun st T hT => ?_)
  have hfl : n0 ≤ n0 := Nat.le_refl n0
  have t0 := hT 0 _ rfl
  have t1 := hT 1 _ rfl
  dsimp only [L101]
  refine w_seq ?_; refine w_reg ?_; refine v_move ?_; refine r_nil ?_; refine th_n ?_; refine w_seq ?_; refine w_seq ?_; refine w_reg ?_; refine v_move ?_; refine r_nil ?_; refine th_n ?_; refine w_block ?_; obtain ⟨y13, hy, hF⟩ := bnd_some hF; refine v_loopD (sf101_L1 N a0) (fun x1 T ds2 h nx => ∃ (F2 : PH), ds2 = [] ∧ PH.le F0 F2 ∧ St n0 h0 F0 F2 h nx [] ∧ T.get 0 = some (.slice pa0 (a0).length ca0) ∧ T.get 1 = some (.func 102 [] []) ∧ T.get 5 = some (i64 x1)) (fun y e a σ => (∃ u, y = (.inl u) ∧ e = .ret ∧ a.nt = 24 ∧ ∃ (F15 : PH), a.defers = [] ∧ PH.le F0 F15 ∧ St n0 h0 F0 F15 σ.h σ.nx [] ∧ a.tmps.get 4 = some (.bool false)) ∨ (∃ u, y = (.inr u) ∧ e = .exit 0 ∧ a.nt = 24 ∧ ∃ (F17 : PH), a.defers = [] ∧ PH.le F0 F17 ∧ St n0 h0 F0 F17 σ.h σ.nx [])) (fun x1 T ds2 h nx s hp hF => ?_) N _ y13 _ _ _ _ hy ⟨F0, rfl, (PH.le.refl _), st, gA, gA, gA⟩ (fun e a σ hne hq => ?_)
  · obtain ⟨F2, rfl, le2, st, t0, t1, t5⟩ := hp; unfold sf101_L1 at hF; unfold L101w0; refine w_seq ?_; refine w_seq ?_; refine w_reg ?_; refine v_move ?_; refine v_move ?_; refine v_len ?_; refine v_lss ?_; refine r_nil ?_; refine th_n ?_; refine v_cond (fun hb18 => ?_) (fun hb18 => ?_)
    · have hF := bif_t hb18 hF; refine w_skip ?_; refine th_n ?_; refine w_seq ?_; refine w_block ?_; refine w_seq ?_; refine w_drawV (Nat.le_trans hfl st.ext.le) (fun dw => ?_); refine y_pure st.d dw (fun hm vw => v_move pr_nil) ?_; refine y_pure st.d dw (fun hm vw => v_move pr_nil) ?_; refine y_pure st.d dw (fun hm vw => v_move pr_nil) ?_; obtain ⟨q19, hF⟩ := ck_some hF; refine y_pure st.d dw (fun hm vw => v_sub q19 pr_nil) ?_; obtain ⟨n20, x20, z20, l20, g20, hF⟩ := ix_some hF; obtain ⟨b20, o20, s20, j20, r20, e20, f20, k20, ⟨_, _, rfl, rfl, ⟨_, _, rfl, rfl, rfl⟩⟩⟩ := RowF.get ra0 g20; refine y_pure st.d dw (fun hm vw => v_ixp e20 z20 l20 pr_nil) ?_; refine y_pure st.d dw (fun hm vw => v_ldn (vw.fz st (le2 _ _ f20)) k20 pr_nil) ?_
      refine y_pure st.d dw (fun hm vw => v_move pr_nil) ?_; refine y_pure st.d dw (fun hm vw => v_move pr_nil) ?_; obtain ⟨n21, x21, z21, l21, g21, hF⟩ := ix_some hF; obtain ⟨b21, o21, s21, j21, r21, e21, f21, k21, ⟨_, _, rfl, rfl, ⟨_, _, rfl, rfl, rfl⟩⟩⟩ := RowF.get ra0 g21; refine y_pure st.d dw (fun hm vw => v_ixp e21 z21 l21 pr_nil) ?_; refine y_pure st.d dw (fun hm vw => v_ldn (vw.fz st (le2 _ _ f21)) k21 pr_nil) ?_; refine y_end st.d dw rfl (fun h22 ex vs => ?_)
      have st := st.ext1 ex
      obtain ⟨v23, e24, hF⟩ := bnd_some hF; refine v_call st (ct102 N e24 st.d st.sub ) (fun n25 st => ?_); refine v_not ?_; refine r_nil ?_; refine th_n ?_; refine v_cond (fun hb26 => ?_) (fun hb26 => ?_)
      · have hF := bif_t hb26 hF; refine w_seq ?_; refine w_reg ?_; refine v_move ?_; refine r_nil ?_; refine th_n ?_; refine w_ret ?_; refine ib_r ?_; refine th_r ?_; refine th_r ?_; refine ⟨_, (inj hF).symm, .inl ⟨_, rfl, rfl, rfl, ?_⟩⟩; dsimp only
        exact ⟨F2, rfl, le2, st, gA⟩
      · have hF := bif_f hb26 hF; refine w_skip ?_; refine ib_n ?_; refine th_n ?_; refine w_reg ?_; refine v_move ?_; obtain ⟨q27, hF⟩ := ck_some hF; refine v_add q27 ?_; refine v_move ?_; refine r_nil ?_; refine thn ⟨_, (inj hF).symm, rfl, ?_⟩; dsimp only
        exact ⟨F2, rfl, le2, st, gA, gA, gA⟩
    · have hF := bif_f hb18 hF; refine w_exit ?_; refine th_e ?_; refine th_e ?_; refine ⟨_, (inj hF).symm, .inr (⟨_, rfl, rfl, rfl, ?_⟩)⟩; dsimp only
      exact ⟨F2, rfl, le2, st⟩
  · rcases hq with hq | hq
    · obtain ⟨N9, T, ds15⟩ := a; obtain ⟨h28, n29⟩ := σ; obtain ⟨w14, rfl, rfl, e1, F15, e2, le15, st, t4⟩ := hq
      dsimp only at e1 e2
      subst e1
      subst e2
      dsimp only at st t4
      have hF := sel_l hF; refine ib_r ?_; refine th_r ?_; obtain rfl := inj hF
      exact end_s st (Res.t gA Res.nil) rfl rfl
    · obtain ⟨N9, T, ds17⟩ := a; obtain ⟨h30, n31⟩ := σ; obtain ⟨w16, rfl, rfl, e1, F17, e2, le17, st⟩ := hq
      dsimp only at e1 e2
      subst e1
      subst e2
      dsimp only at st
      have hF := sel_r hF; refine ib_e ?_; refine th_n ?_; refine w_seq ?_; refine w_reg ?_; refine v_move ?_; refine r_nil ?_; refine th_n ?_; refine w_ret ?_; obtain rfl := inj hF
      exact end_s st (Res.t gA Res.nil) rfl rfl
theorem ct84 (N : Nat) {a1_0 : Int} {a1_1 : (List (Int × Int))} {a1_2 : (List (Int × Int × Int))} {a1_3 : Int} {r : ((List Int) × (List Int))} (hF : sf84 N a1_0 a1_1 a1_2 a1_3 = some r) {fl : Nat} {h0 : Tr HBlk} {n0 : Nat} {F0 : PH} (hd : D h0 n0) (hs : F0.sub h0) (hfl : fl ≤ n0) {pa1_1 : Option (Nat × Nat)} {ca1_1 : Nat} {pa1_2 : Option (Nat × Nat)} {ca1_2 : Nat} (ra1_1 : RowF (rP rI rI) 2 F0 pa1_1 ca1_1 a1_1) (ra1_2 : RowF (rP rI (rP rI rI)) 3 F0 pa1_2 ca1_2 a1_2) : C LW fl 84 [(.agg [(.func 105 [] [])]), (.agg [(i64 a1_0), (.slice pa1_1 (a1_1).length ca1_1), (.slice pa1_2 (a1_2).length ca1_2), (i64 a1_3)])] ⟨h0, n0⟩ (KR (rvA (rP (rL rI 1) (rL rI 1))) F0 h0 n0 r) := by
  unfold sf84 at hF
  refine in_mT hd hs hfl lw84 rfl rfl (by rfl) (fun st T hT => ?_)
  have t0 := hT 0 _ rfl
  have t1 := hT 1 _ rfl
  dsimp only [L84]
  refine w_seq ?_; refine w_reg ?_; refine v_box st (fun b1 h2 n3 st => ?_); refine v_box st (fun b4 h5 n6 st => ?_); refine v_alloc st (fun b7 h8 n9 st => ?_); refine r_nil ?_; refine th_n ?_; refine w_seq ?_; refine w_reg ?_; refine v_alloc st (fun b10 h11 n12 st => ?_); refine r_nil ?_; refine th_n ?_; refine w_seq ?_; refine w_seq ?_; refine w_reg ?_; refine v_fa ?_; refine v_ld1 (st.at (i := 1) rfl).2.2 rfl ?_; refine v_len ?_; refine v_move ?_; refine r_nil ?_; refine th_n ?_; refine w_block ?_
  have st := st.nilL 1
  have w34 : LR rI 1 F0 ([] : List Int) [] := LR.nil
  obtain ⟨y52, hy, hF⟩ := bnd_some hF; refine v_loopD (sf84_L1 N a1_1) (fun x36 T ds37 h nx => ∃ (F37 : PH) (o38 : Option Nat) (c38 : Nat) (cs38 : List HV), ds37 = [] ∧ PH.le F0 F37 ∧ St n0 h0 F0 F37 h nx [.bx b1 [(.func 105 [] [])], .bx b4 [(i64 a1_0), (.slice pa1_1 (a1_1).length ca1_1), (.slice pa1_2 (a1_2).length ca1_2), (i64 a1_3)], .bx b7 [(.slice none 0 0), (.slice none 0 0)], .bx b10 [(slv o38 (x36.2).length c38), (.slice none 0 0)], .ls o38 c38 cs38 1] ∧ LR rI 1 F37 x36.2 cs38 ∧ T.get 2 = some (.ptr (some (b1, 0))) ∧ T.get 3 = some (.ptr (some (b4, 0))) ∧ T.get 4 = some (.ptr (some (b7, 0))) ∧ T.get 5 = some (.ptr (some (b10, 0))) ∧ T.get 11 = some (.slice pa1_1 (a1_1).length ca1_1) ∧ T.get 12 = some (i64 ((a1_1).length : Int)) ∧ T.get 13 = some (i64 x36.1)) (fun y e a σ => e = .exit 0 ∧ a.nt = 46 ∧ ∃ (F53 : PH) (o54 : Option Nat) (c54 : Nat) (cs54 : List HV), a.defers = [] ∧ PH.le F0 F53 ∧ St n0 h0 F0 F53 σ.h σ.nx [.bx b1 [(.func 105 [] [])], .bx b4 [(i64 a1_0), (.slice pa1_1 (a1_1).length ca1_1), (.slice pa1_2 (a1_2).length ca1_2), (i64 a1_3)], .bx b7 [(.slice none 0 0), (.slice none 0 0)], .bx b10 [(slv o54 (y).length c54), (.slice none 0 0)], .ls o54 c54 cs54 1] ∧ LR rI 1 F53 y cs54 ∧ a.tmps.get 2 = some (.ptr (some (b1, 0))) ∧ a.tmps.get 3 = some (.ptr (some (b4, 0))) ∧ a.tmps.get 4 = some (.ptr (some (b7, 0))) ∧ a.tmps.get 5 = some (.ptr (some (b10, 0)))) (fun x36 T ds37 h nx s hp hF => ?_) N _ y52 _ _ _ _ hy ⟨F0, none, 0, [], rfl, (PH.le.refl _), st, w34, gA, gA, gA, gA, gA, gA, gA⟩ (fun e a σ hne hq => ?_)
  · obtain ⟨F37, o38, c38, cs38, rfl, le37, st, w38, t2, t3, t4, t5, t11, t12, t13⟩ := hp; unfold sf84_L1 at hF; unfold L84w1; refine w_seq ?_; refine w_reg ?_; refine v_lss ?_; refine r_nil ?_; refine th_n ?_; refine w_seq ?_; refine v_cond (fun hb55 => ?_) (fun hb55 => ?_)
    · have hF := bif_t hb55 hF; refine w_skip ?_; refine th_n ?_; refine w_seq ?_; refine w_block ?_; refine w_seq ?_; refine w_reg ?_; obtain ⟨n56, x56, z56, l56, g56, hF⟩ := ix_some hF; obtain ⟨b56, o56, s56, j56, r56, e56, f56, k56, ⟨_, _, rfl, rfl, rfl⟩⟩ := RowF.get ra1_1 g56; refine v_ixp e56 z56 l56 ?_; refine v_ldn (st.sub _ _ (le37 _ _ f56)) k56 ?_; refine v_alloc st (fun b57 h58 n59 st => ?_); refine v_st (cs' := [(i64 x56.1), (i64 x56.2)]) st 5 rfl rfl rfl rfl hfl (fun h60 st => ?_); refine r_nil ?_; refine th_n ?_; refine w_drawV (Nat.le_trans hfl st.ext.le) (fun dw => ?_)
      have wf := Wf.start st
      refine y_pure st.d dw (fun hm vw => v_fa pr_nil) ?_; refine y_pure st.d dw (fun hm vw => v_ld1 (vw.bx (st.at (i := 3) rfl)) rfl pr_nil) ?_; refine y_pure st.d dw (fun hm vw => v_fa pr_nil) ?_; refine y_pure st.d dw (fun hm vw => v_ld1 (vw.bx (st.at (i := 0) rfl)) rfl pr_nil) ?_; refine y_pure st.d dw (fun hm vw => v_ldn (vs := [(i64 x56.1), (i64 x56.2)]) (vw.bx (st.at (i := 5) rfl)) rfl pr_nil) ?_; obtain ⟨v61, e62, hF⟩ := bnd_some hF; refine y_flat st.d dw (fun hm vw => u_call (ct105 N e62 vw.d (FF.sub wf st vw) ) (fun n' hn' => pf_nil hn')) (fun n63 hn' dw => ?_); refine y_lay st.d dw (fun hm vw => u_bs (cs := [(i64 v61)]) rfl pr_nil) (fun done dw => ?_)
      have wf := Wf.lay wf (e := (6, one n63 (.cells [(i64 v61)] .exact)))
      refine y_end st.d dw rfl (fun h64 ex vs => ?_)
      have st := St.laid st ex (Lay.cons (b := n63) (cs := [(i64 v61)]) (by have := dw.le; omega) (vs _ (List.mem_cons_self ..) _ _ (if_pos rfl)) (Lay.nil (by have := dw.le; omega)))
      obtain ⟨q65, hF⟩ := ck_some hF
      have w65 : LR rI 1 F37 (x36.2 ++ [v61]) (cs38 ++ [(i64 v61)]) := LR.app w38 (LR.one (rfl))
      refine v_aps (n := 1) (ox := 0) (m := (x36.2 ++ [v61]).length) (row := [(i64 v61)]) st 4 rfl w38.1 (st.at (i := 6) rfl).2.2 rfl rfl q65 hfl (by decide) (by decide) (by simp) (fun o65 c65 h65 n65 st => ?_)
      refine v_fa ?_; refine v_st (cs' := [(slv o65 ((x36.2 ++ [v61])).length c65), (.slice none 0 0)]) st 3 rfl rfl rfl rfl hfl (fun h66 st => ?_); refine r_nil ?_; refine ib_n ?_; refine th_n ?_; refine w_reg ?_; obtain ⟨q67, hF⟩ := ck_some hF; refine v_add q67 ?_; refine v_move ?_; refine r_nil ?_; refine thn ⟨_, (inj hF).symm, rfl, ?_⟩; dsimp only
      exact ⟨F37, o65, c65, (cs38 ++ [(i64 v61)]), rfl, le37, (st.drop (by first | exact List.Sublist.refl _ | (repeat first | exact List.nil_sublist _ | refine List.Sublist.cons_cons _ ?_ | refine List.Sublist.cons _ ?_))), w65, gA, gA, gA, gA, gA, gA, gA⟩
    · have hF := bif_f hb55 hF; refine w_exit ?_; refine th_e ?_; refine th_e ?_; refine ⟨_, (inj hF).symm, rfl, rfl, ?_⟩; dsimp only
      exact ⟨F37, o38, c38, cs38, rfl, le37, st, w38, gA, gA, gA, gA⟩
  · obtain ⟨N9, T, ds53⟩ := a; obtain ⟨h68, n69⟩ := σ; obtain ⟨rfl, e1, F53, o54, c54, cs54, e2, le53, st, w54, t2, t3, t4, t5⟩ := hq
    dsimp only at e1 e2
    subst e1
    subst e2
    dsimp only at st t2 t3 t4 t5
    refine ib_e ?_; refine th_n ?_; refine w_seq ?_; refine w_seq ?_; refine w_reg ?_; refine v_fa ?_; refine v_ld1 (st.at (i := 1) rfl).2.2 rfl ?_; refine v_len ?_; refine v_move ?_; refine r_nil ?_; refine th_n ?_; refine w_block ?_
    have st := st.nilL 1
    have w90 : LR rI 1 F53 ([] : List Int) [] := LR.nil
    obtain ⟨y109, hy, hF⟩ := bnd_some hF; refine v_loopD (sf84_L2 N a1_2) (fun x92 T ds93 h nx => ∃ (F93 : PH) (o94 : Option Nat) (c94 : Nat) (cs94 : List HV), ds93 = [] ∧ PH.le F53 F93 ∧ St n0 h0 F0 F93 h nx [.bx b1 [(.func 105 [] [])], .bx b4 [(i64 a1_0), (.slice pa1_1 (a1_1).length ca1_1), (.slice pa1_2 (a1_2).length ca1_2), (i64 a1_3)], .bx b7 [(.slice none 0 0), (.slice none 0 0)], .bx b10 [(slv o54 (y52).length c54), (slv o94 (x92.2).length c94)], .ls o54 c54 cs54 1, .ls o94 c94 cs94 1] ∧ LR rI 1 F93 x92.2 cs94 ∧ T.get 2 = some (.ptr (some (b1, 0))) ∧ T.get 4 = some (.ptr (some (b7, 0))) ∧ T.get 5 = some (.ptr (some (b10, 0))) ∧ T.get 28 = some (.slice pa1_2 (a1_2).length ca1_2) ∧ T.get 29 = some (i64 ((a1_2).length : Int)) ∧ T.get 30 = some (i64 x92.1)) (fun y e a σ => e = .exit 2 ∧ a.nt = 46 ∧ ∃ (F110 : PH) (o111 : Option Nat) (c111 : Nat) (cs111 : List HV), a.defers = [] ∧ PH.le F53 F110 ∧ St n0 h0 F0 F110 σ.h σ.nx [.bx b1 [(.func 105 [] [])], .bx b4 [(i64 a1_0), (.slice pa1_1 (a1_1).length ca1_1), (.slice pa1_2 (a1_2).length ca1_2), (i64 a1_3)], .bx b7 [(.slice none 0 0), (.slice none 0 0)], .bx b10 [(slv o54 (y52).length c54), (slv o111 (y).length c111)], .ls o54 c54 cs54 1, .ls o111 c111 cs111 1] ∧ LR rI 1 F110 y cs111 ∧ a.tmps.get 4 = some (.ptr (some (b7, 0))) ∧ a.tmps.get 5 = some (.ptr (some (b10, 0)))) (fun x92 T ds93 h nx s hp hF => ?_) N _ y109 _ _ _ _ hy ⟨F53, none, 0, [], rfl, (PH.le.refl _), st, w90, gA, gA, gA, gA, gA, gA⟩ (fun e a σ hne hq => ?_)
    · obtain ⟨F93, o94, c94, cs94, rfl, le93, st, w94, t2, t4, t5, t28, t29, t30⟩ := hp
      have le95 := PH.le.trans le53 le93
      unfold sf84_L2 at hF; unfold L84w0; refine w_seq ?_; refine w_reg ?_; refine v_lss ?_; refine r_nil ?_; refine th_n ?_; refine w_seq ?_; refine v_cond (fun hb112 => ?_) (fun hb112 => ?_)
      · have hF := bif_t hb112 hF; refine w_skip ?_; refine th_n ?_; refine w_seq ?_; refine w_block ?_; refine w_seq ?_; refine w_reg ?_; obtain ⟨n113, x113, z113, l113, g113, hF⟩ := ix_some hF; obtain ⟨b113, o113, s113, j113, r113, e113, f113, k113, ⟨_, _, rfl, rfl, ⟨_, _, rfl, rfl, rfl⟩⟩⟩ := RowF.get ra1_2 g113; refine v_ixp e113 z113 l113 ?_; refine v_ldn (st.sub _ _ (le95 _ _ f113)) k113 ?_; refine v_alloc st (fun b114 h115 n116 st => ?_); refine v_st (cs' := [(i64 x113.1), (i64 x113.2.1), (i64 x113.2.2)]) st 6 rfl rfl rfl rfl hfl (fun h117 st => ?_); refine r_nil ?_; refine th_n ?_; refine w_drawV (Nat.le_trans hfl st.ext.le) (fun dw => ?_)
        have wf := Wf.start st
        refine y_pure st.d dw (fun hm vw => v_fa pr_nil) ?_; refine y_pure st.d dw (fun hm vw => v_ld1 (vw.bx (st.at (i := 3) rfl)) rfl pr_nil) ?_; refine y_pure st.d dw (fun hm vw => v_fa pr_nil) ?_; refine y_pure st.d dw (fun hm vw => v_ld1 (vw.bx (st.at (i := 0) rfl)) rfl pr_nil) ?_; refine y_pure st.d dw (fun hm vw => v_fa pr_nil) ?_; refine y_pure st.d dw (fun hm vw => v_ldn (vs := [(i64 x113.2.1), (i64 x113.2.2)]) (vw.bx (st.at (i := 6) rfl)) rfl pr_nil) ?_; obtain ⟨v118, e119, hF⟩ := bnd_some hF; refine y_flat st.d dw (fun hm vw => u_call (ct105 N e119 vw.d (FF.sub wf st vw) ) (fun n' hn' => pf_nil hn')) (fun n120 hn' dw => ?_); refine y_lay st.d dw (fun hm vw => u_bs (cs := [(i64 v118)]) rfl pr_nil) (fun done dw => ?_)
        have wf := Wf.lay wf (e := (7, one n120 (.cells [(i64 v118)] .exact)))
        refine y_end st.d dw rfl (fun h121 ex vs => ?_)
        have st := St.laid st ex (Lay.cons (b := n120) (cs := [(i64 v118)]) (by have := dw.le; omega) (vs _ (List.mem_cons_self ..) _ _ (if_pos rfl)) (Lay.nil (by have := dw.le; omega)))
        obtain ⟨q122, hF⟩ := ck_some hF
        have w122 : LR rI 1 F93 (x92.2 ++ [v118]) (cs94 ++ [(i64 v118)]) := LR.app w94 (LR.one (rfl))
        refine v_aps (n := 1) (ox := 0) (m := (x92.2 ++ [v118]).length) (row := [(i64 v118)]) st 5 rfl w94.1 (st.at (i := 7) rfl).2.2 rfl rfl q122 hfl (by decide) (by decide) (by simp) (fun o122 c122 h122 n122 st => ?_)
        refine v_fa ?_; refine v_st (cs' := [(slv o54 (y52).length c54), (slv o122 ((x92.2 ++ [v118])).length c122)]) st 3 rfl rfl rfl rfl hfl (fun h123 st => ?_); refine r_nil ?_; refine ib_n ?_; refine th_n ?_; refine w_reg ?_; obtain ⟨q124, hF⟩ := ck_some hF; refine v_add q124 ?_; refine v_move ?_; refine r_nil ?_; refine thn ⟨_, (inj hF).symm, rfl, ?_⟩; dsimp only
        exact ⟨F93, o122, c122, (cs94 ++ [(i64 v118)]), rfl, le93, (st.drop (by first | exact List.Sublist.refl _ | (repeat first | exact List.nil_sublist _ | refine List.Sublist.cons_cons _ ?_ | refine List.Sublist.cons _ ?_))), w122, gA, gA, gA, gA, gA, gA⟩
      · have hF := bif_f hb112 hF; refine w_exit ?_; refine th_e ?_; refine th_e ?_; refine ⟨_, (inj hF).symm, rfl, rfl, ?_⟩; dsimp only
        exact ⟨F93, o94, c94, cs94, rfl, le93, st, w94, gA, gA⟩
    · obtain ⟨N9, T, ds110⟩ := a; obtain ⟨h126, n127⟩ := σ; obtain ⟨rfl, e1, F110, o111, c111, cs111, e2, le110, st, w111, t4, t5⟩ := hq
      dsimp only at e1 e2
      subst e1
      subst e2
      dsimp only at st t4 t5
      have le125 := PH.le.trans le53 le110
      refine ib_e ?_; refine th_n ?_; refine w_seq ?_; refine w_reg ?_; refine v_ldn (vs := [(slv o54 (y52).length c54), (slv o111 (y109).length c111)]) (st.at (i := 3) rfl).2.2 rfl ?_; refine v_st (cs' := [(slv o54 (y52).length c54), (slv o111 (y109).length c111)]) st 2 rfl rfl rfl rfl hfl (fun h128 st => ?_); refine r_nil ?_; refine th_n ?_; refine w_ret ?_; obtain rfl := inj hF
      obtain ⟨F129, le129, st, rf129⟩ := St.freeze st 4 rfl (LR.mono le110 w54) (by decide)
      have le130 := PH.le.trans le125 le129
      have le131 := PH.le.trans le110 le129
      obtain ⟨F132, le132, st, rf132⟩ := St.freeze st 4 rfl (LR.mono le129 w111) (by decide)
      have le133 := PH.le.trans le130 le132
      have le134 := PH.le.trans le131 le132
      have le135 := PH.le.trans le129 le132
      exact end_r st (Res.c gA (st.at (i := 2) rfl).2.2 (show takeN _ _ = some [(.slice (o54.map fun b => (b, 0)) (y52).length c54), (.slice (o111.map fun b => (b, 0)) (y109).length c111)] from rfl) Res.nil) ⟨_, rfl, ⟨[(.slice (o54.map fun b => (b, 0)) (y52).length c54)], [(.slice (o111.map fun b => (b, 0)) (y109).length c111)], rfl, ⟨_, _, rfl, (RowF.mono le132 rf129)⟩, ⟨_, _, rfl, rf132⟩⟩⟩
theorem ct21 (N : Nat) {a0_0 : (List Int)} {a0_1 : (List Int)} {r : ((List Int) × (List Int))} (hF : sf21 N a0_0 a0_1 = some r) {fl : Nat} {h0 : Tr HBlk} {n0 : Nat} {F0 : PH} (hd : D h0 n0) (hs : F0.sub h0) (hfl : fl ≤ n0) {pa0_0 : Option (Nat × Nat)} {ca0_0 : Nat} {pa0_1 : Option (Nat × Nat)} {ca0_1 : Nat} (ra0_0 : RowF rI 1 F0 pa0_0 ca0_0 a0_0) (ra0_1 : RowF rI 1 F0 pa0_1 ca0_1 a0_1) : C LW fl 21 [(.agg [(.slice pa0_0 (a0_0).length ca0_0), (.slice pa0_1 (a0_1).length ca0_1)])] ⟨h0, n0⟩ (KR (rvA (rP (rL rI 1) (rL rI 1))) F0 h0 n0 r) := by
  unfold sf21 at hF
  refine in_mT hd hs hfl lw21 rfl rfl (by rfl) (fun st T hT => ?_)
  have t0 := hT 0 _ rfl
  dsimp only [L21]
  refine w_seq ?_; refine w_reg ?_; refine v_box st (fun b1 h2 n3 st => ?_); refine v_alloc st (fun b4 h5 n6 st => ?_); refine r_nil ?_; refine th_n ?_; refine w_seq ?_; refine w_drawV (Nat.le_trans hfl st.ext.le) (fun dw => ?_)
  have wf := Wf.start st
  refine y_pure st.d dw (fun hm vw => v_fa pr_nil) ?_; refine y_pure st.d dw (fun hm vw => v_ld1 (vw.bx (st.at (i := 0) rfl)) rfl pr_nil) ?_; obtain ⟨v7, e8, hF⟩ := bnd_some hF
  refine y_deep st dw wf (fun hm vw => u_callR (ct30 N e8 vw.d (FF.sub wf st vw) (Nat.max_le.2 ⟨by have := dw.le; have := st.ext.le; omega, Nat.le_refl _⟩) (RowF.mono FF.base ra0_0)) (fun v F' h' n' ex l1 l2 l3 l4 => r_nil ⟨_, _, rfl, ex, l1, l2, l3, l4⟩)) (fun u9 F9 n9 done hn' dw9 wf9 rv9 le9 => ?_)
  have wf := wf9
  have dw := dw9
  obtain ⟨py10, cy10, rfl, ry10⟩ := rv9; refine y_pure st.d dw (fun hm vw => v_fa pr_nil) ?_; refine y_pure st.d dw (fun hm vw => v_ld1 (vw.bx (st.at (i := 0) rfl)) rfl pr_nil) ?_; refine y_end st.d dw rfl (fun h11 ex vs => ?_)
  obtain ⟨F12, lt12, st⟩ := St.laidF st dw wf ex vs (Lay.nil (by have := dw.le; omega)) (fun e he => by cases he)
  have lz13 := lt12 _ (le9 (fun _ => true) rfl (fun _ _ => rfl))
  have lb12 := lt12 _ FF.base
  obtain ⟨v14, e15, hF⟩ := bnd_some hF; refine v_callR st (ct30 N e15 st.d st.sub (Nat.le_trans hfl st.ext.le) (RowF.mono lb12 ra0_1)) (fun u16 F16 h16 n16 le16 rv16 st => ?_)
  have le17 := PH.le.trans lb12 le16
  have le18 := PH.le.trans lz13 le16
  obtain ⟨py19, cy19, rfl, ry19⟩ := rv16; refine v_build (cs := [(.slice py10 (v7).length cy10), (.slice py19 (v14).length cy19)]) rfl ?_; refine v_st (cs' := [(.slice py10 (v7).length cy10), (.slice py19 (v14).length cy19)]) st 1 rfl rfl rfl rfl hfl (fun h20 st => ?_); refine r_nil ?_; refine th_n ?_; refine w_ret ?_; obtain rfl := inj hF
  exact end_r st (Res.c gA (st.at (i := 1) rfl).2.2 (show takeN _ _ = some [(.slice py10 (v7).length cy10), (.slice py19 (v14).length cy19)] from rfl) Res.nil) ⟨_, rfl, ⟨[(.slice py10 (v7).length cy10)], [(.slice py19 (v14).length cy19)], rfl, ⟨_, _, rfl, (RowF.mono le18 ry10)⟩, ⟨_, _, rfl, ry19⟩⟩⟩
end Go.Hx.V

