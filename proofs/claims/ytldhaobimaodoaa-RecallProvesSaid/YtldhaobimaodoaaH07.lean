/- The functions of the program, as they are. -/
import Derived.Test.YtldhaobimaodoaaH04
import Derived.Test.YtldhaobimaodoaaH05
import Derived.Test.YtldhaobimaodoaaH06
set_option linter.all false
/- The functions of the program, as they are. -/
namespace Go.Hx
noncomputable section
abbrev PRG : Program := Go.Proofs.Try.prog
theorem mixed : PRG.follows .mixedOrders = true := by kernel_rfl
abbrev LWA : Nat → Option LFunc := LP
theorem lx_ok : LpOk PRG LWA := lowP_ok
theorem la54 : LWA 54 = some L54 := lp54
theorem la58 : LWA 58 = some L58 := lp58
theorem la64 : LWA 64 = some L64 := lp64
theorem la68 : LWA 68 = some L68 := lp68
theorem la69 : LWA 69 = some L69 := lp69
theorem la72 : LWA 72 = some L72 := lp72
theorem la74 : LWA 74 = some L74 := lp74
theorem la76 : LWA 76 = some L76 := lp76
theorem la77 : LWA 77 = some L77 := lp77
theorem la81 : LWA 81 = some L81 := lp81
theorem la86 : LWA 86 = some L86 := lp86
theorem la87 : LWA 87 = some L87 := lp87
theorem la89 : LWA 89 = some L89 := lp89
theorem la90 : LWA 90 = some L90 := lp90
end
end Go.Hx

/- What the functions of the program come to. -/
namespace Go.Hx.V.A
open Go.Hx
set_option linter.unusedVariables false
set_option maxRecDepth 20000
set_option maxHeartbeats 4000000
/- (meniscus/recall.done).with -/
def sf76 (N : Nat) (a0_0 : (Nat → Bool)) (a1 : Int) : Option (Nat → Bool) :=
  (ck (0 ≤ a1 ∧ a1 < 8) (some (ups a0_0 (Int.toNat a1) true)))
/- meniscus/lists.Greatest -/
def sf77_L1 (a1 : (List Int)) (x1 : (Int × Int)) : Option ((Int × Int) ⊕ Int) :=
  (bif (decide (x1.2 < ((a1).length : Int))) then (ix a1 x1.2 fun x11 => (bif (decide (x1.1 < x11)) then (ck (rng (x1.2 + (1 : Int))) (some (.inl (x11, (x1.2 + (1 : Int)))))) else (ck (rng (x1.2 + (1 : Int))) (some (.inl (x1.1, (x1.2 + (1 : Int)))))))) else some (.inr x1.1))
def sf77 (N : Nat) (a0 : Int) (a1 : (List Int)) : Option Int :=
  bnd (iter (sf77_L1 a1) N (a0, (0 : Int))) (fun y8 => some y8)
/- (meniscus/recall.Batch).behind -/
def sf74_L1 (a0_2 : (List (Int × Int × Int × Int × Int))) (a1_0 : (Nat → Bool)) (x14 : (Int × (Nat → Int))) : Option ((Int × (Nat → Int)) ⊕ (Nat → Int)) :=
  (bif (decide (x14.1 < ((a0_2).length : Int))) then (ix a0_2 x14.1 fun x39 => (ck (0 ≤ x14.1 ∧ x14.1 < 8) ((bif (a1_0 (Int.toNat x14.1)) then (ck (0 ≤ x39.1 ∧ x39.1 < 6) ((ck (rng ((x14.2 (Int.toNat x39.1)) - x39.2.2.1)) ((ck (0 ≤ x39.1 ∧ x39.1 < 6) ((ck (0 ≤ x39.2.1 ∧ x39.2.1 < 6) ((ck (rng (((ups x14.2 (Int.toNat x39.1) ((x14.2 (Int.toNat x39.1)) - x39.2.2.1)) (Int.toNat x39.2.1)) + x39.2.2.1)) ((ck (0 ≤ x39.2.1 ∧ x39.2.1 < 6) ((ck (rng (x14.1 + (1 : Int))) (some (.inl ((x14.1 + (1 : Int)), (ups (ups x14.2 (Int.toNat x39.1) ((x14.2 (Int.toNat x39.1)) - x39.2.2.1)) (Int.toNat x39.2.1) (((ups x14.2 (Int.toNat x39.1) ((x14.2 (Int.toNat x39.1)) - x39.2.2.1)) (Int.toNat x39.2.1)) + x39.2.2.1)))))))))))))))))) else (ck (rng (x14.1 + (1 : Int))) (some (.inl ((x14.1 + (1 : Int)), x14.2)))))))) else some (.inr x14.2))
def sf74 (N : Nat) (a0_0 : Int) (a0_1 : Int) (a0_2 : (List (Int × Int × Int × Int × Int))) (a1_0 : (Nat → Bool)) : Option (Nat → Int) :=
  bnd (iter (sf74_L1 a0_2 a1_0) N ((0 : Int), (ups (fun _ => 0) 0 a0_1))) (fun y36 => some y36)
/- (meniscus/recall.Batch).then -/
def sf64 (N : Nat) (a0_0 : Int) (a0_1 : Int) (a0_2 : (List (Int × Int × Int × Int × Int))) (a1_0 : (Nat → Bool)) (a1_1 : Int) (a2 : Int) : Option ((Nat → Bool) × Int × Bool) :=
  (ix a0_2 a2 fun x10 => (bnd (sf76 N a1_0 a2) fun v15 => (bnd (sf77 N a1_1 ([x10.2.2.2.1])) fun v18 => bnd ((ck (0 ≤ a2 ∧ a2 < 8) ((bif (!(a1_0 (Int.toNat a2))) then (bnd (sf74 N a0_0 a0_1 a0_2 a1_0) fun v38 => (ck (0 ≤ x10.1 ∧ x10.1 < 6) ((bif (decide (x10.2.2.1 ≤ (v38 (Int.toNat x10.1)))) then some (decide (v18 ≤ x10.2.2.2.2)) else some false)))) else some false))) : Option (Bool)) (fun y32 => some (v15, v18, y32)))))
/- meniscus/lists.Least -/
def sf81_L1 (a1 : (List Int)) (x1 : (Int × Int)) : Option ((Int × Int) ⊕ Int) :=
  (bif (decide (x1.2 < ((a1).length : Int))) then (ix a1 x1.2 fun x11 => (bif (decide (x11 < x1.1)) then (ck (rng (x1.2 + (1 : Int))) (some (.inl (x11, (x1.2 + (1 : Int)))))) else (ck (rng (x1.2 + (1 : Int))) (some (.inl (x1.1, (x1.2 + (1 : Int)))))))) else some (.inr x1.1))
def sf81 (N : Nat) (a0 : Int) (a1 : (List Int)) : Option Int :=
  bnd (iter (sf81_L1 a1) N (a0, (0 : Int))) (fun y8 => some y8)
/- (meniscus/recall.sold).days -/
def sf68 (N : Nat) (a0_0 : Int) (a0_1 : Int) (a0_2 : (List (Int × Int × Int × Int × Int))) (a0_3 : ME) (a1 : Int) (a2_0 : (Nat → Bool)) (a2_1 : Int) : Option (Int × Int) :=
  (bnd (lkE (.row [.b, .b, .b, .b, .b, .b, .b, .b, (.i .i64)]) (.agg ((eB 8 a2_0) ++ [(i64 a2_1)])) a0_3 (i64 (0 : Int))) fun y10 => bnd (dI y10.1) fun x12 => (ix a0_2 a1 fun x14 => (bnd (sf81 N x12 ([x14.2.2.2.2])) fun v15 => some (a2_1, v15))))
/- (meniscus/recall.Range).areSome -/
def sf69 (N : Nat) (a0_0 : Int) (a0_1 : Int) : Option Bool :=
  some (decide (a0_0 ≤ a0_1))
/- (meniscus/recall.Range).first -/
def sf89 (N : Nat) (a0_0 : Int) (a0_1 : Int) : Option Int :=
  some a0_0
/- (meniscus/recall.end).among -/
def sf87_L1 (N : Nat) (a1 : (List (Int × Int))) (x22 : ((List Int) × Int)) : Option (((List Int) × Int) ⊕ (List Int)) :=
  (bif (decide (x22.2 < ((a1).length : Int))) then (ix a1 x22.2 fun x43 => (bnd (sf89 N x43.1 x43.2) fun v48 => (ck ((x22.1.length + 1) * 8 ≤ 35184372088832 ∧ x22.1.length + 1 ≤ 35184372088832) ((ck (rng (x22.2 + (1 : Int))) (some (.inl ((x22.1 ++ [v48]), (x22.2 + (1 : Int)))))))))) else some (.inr x22.1))
def sf87 (N : Nat) (a1 : (List (Int × Int))) : Option Int :=
  (ck (0 ≤ (0 : Int) ∧ 0 ≤ ((a1).length : Int) ∧ Int.toNat (0 : Int) ≤ Int.toNat ((a1).length : Int) ∧ (Int.toNat ((a1).length : Int) * 8 ≤ 35184372088832 ∧ Int.toNat ((a1).length : Int) ≤ 35184372088832)) (bnd (iter (sf87_L1 N a1) N ((List.replicate (Int.toNat (0 : Int)) (0 : Int)), (0 : Int))) (fun y39 => (ix y39 (0 : Int) fun x60 => (ck (0 ≤ (1 : Int) ∧ 0 ≤ ((y39).length : Int) ∧ ((Int.toNat (1 : Int)) ≤ y39.length ∧ y39.length ≤ y39.length)) ((bnd (sf81 N x60 ((y39.drop (Int.toNat (1 : Int))).take (y39.length - (Int.toNat (1 : Int))))) fun v64 => some v64)))))))
/- (meniscus/recall.Range).last -/
def sf90 (N : Nat) (a0_0 : Int) (a0_1 : Int) : Option Int :=
  some a0_1
/- (meniscus/recall.end).among -/
def sf87_2_L1 (N : Nat) (a1 : (List (Int × Int))) (x22 : ((List Int) × Int)) : Option (((List Int) × Int) ⊕ (List Int)) :=
  (bif (decide (x22.2 < ((a1).length : Int))) then (ix a1 x22.2 fun x43 => (bnd (sf90 N x43.1 x43.2) fun v48 => (ck ((x22.1.length + 1) * 8 ≤ 35184372088832 ∧ x22.1.length + 1 ≤ 35184372088832) ((ck (rng (x22.2 + (1 : Int))) (some (.inl ((x22.1 ++ [v48]), (x22.2 + (1 : Int)))))))))) else some (.inr x22.1))
def sf87_2 (N : Nat) (a1 : (List (Int × Int))) : Option Int :=
  (ck (0 ≤ (0 : Int) ∧ 0 ≤ ((a1).length : Int) ∧ Int.toNat (0 : Int) ≤ Int.toNat ((a1).length : Int) ∧ (Int.toNat ((a1).length : Int) * 8 ≤ 35184372088832 ∧ Int.toNat ((a1).length : Int) ≤ 35184372088832)) (bnd (iter (sf87_2_L1 N a1) N ((List.replicate (Int.toNat (0 : Int)) (0 : Int)), (0 : Int))) (fun y39 => (ix y39 (0 : Int) fun x60 => (ck (0 ≤ (1 : Int) ∧ 0 ≤ ((y39).length : Int) ∧ ((Int.toNat (1 : Int)) ≤ y39.length ∧ y39.length ≤ y39.length)) ((bnd (sf77 N x60 ((y39.drop (Int.toNat (1 : Int))).take (y39.length - (Int.toNat (1 : Int))))) fun v64 => some v64)))))))
/- meniscus/recall.span -/
def sf72 (N : Nat) (a0 : (List (Int × Int))) : Option (Int × Int) :=
  (bnd (sf87 N a0) fun v21 => (bnd (sf87_2 N a0) fun v25 => some (v21, v25)))
/- (meniscus/recall.sold).when -/
def sf54_S (N : Nat) (a0_0 : Int) (a0_1 : Int) (a0_2 : (List (Int × Int × Int × Int × Int))) (a0_3 : ME) (a1 : Int) (e : HV × HV) (x9 : (List (Int × Int))) : Option (List (Int × Int)) :=
  bnd ((dAg (dBA 8 dI0)) e.1) fun k12 => bnd (dI e.2) fun v13 => (bnd (sf64 N a0_0 a0_1 a0_2 k12.1 k12.2 a1) fun v18 => bnd ((bif v18.2.2 then (bnd (sf68 N a0_0 a0_1 a0_2 a0_3 a1 v18.1 v18.2.1) fun v37 => (bnd (sf69 N v37.1 v37.2) fun v40 => some v40)) else some false) : Option (Bool)) (fun y32 => (bif y32 then (bnd (sf68 N a0_0 a0_1 a0_2 a0_3 a1 v18.1 v18.2.1) fun v45 => (ck ((x9.length + 1) * 16 ≤ 35184372088832 ∧ x9.length + 1 ≤ 35184372088832) (some (x9 ++ [(v45.1, v45.2)])))) else some x9)))
def sf54o (N : Nat) (a0_0 : Int) (a0_1 : Int) (a0_2 : (List (Int × Int × Int × Int × Int))) (a0_3 : ME) (a1 : Int) (ord : ME) : Option (Int × Int) :=
  bnd (foldE (sf54_S N a0_0 a0_1 a0_2 a0_3 a1) ord ([] : List (Int × Int))) fun x9 => (bnd (sf72 N x9) fun v52 => some (v52.1, v52.2))
/- (meniscus/recall.sold).holds -/
def sf58_S (N : Nat) (a0_0 : Int) (a0_1 : Int) (a0_2 : (List (Int × Int × Int × Int × Int))) (a1 : Int) (a2 : Int) (e : HV × HV) (x9 : (List (Int × Int))) : Option (List (Int × Int)) :=
  bnd ((dAg (dBA 8 dI0)) e.1) fun k12 => bnd (dI e.2) fun v13 => bnd ((bif (decide (k12.2 ≤ a2)) then some (decide (a2 < v13)) else some false) : Option (Bool)) (fun y19 => (bif y19 then (bnd (sf74 N a0_0 a0_1 a0_2 k12.1) fun v26 => (ck (0 ≤ a1 ∧ a1 < 6) ((ck ((x9.length + 1) * 16 ≤ 35184372088832 ∧ x9.length + 1 ≤ 35184372088832) (some (x9 ++ [((v26 (Int.toNat a1)), (v26 (Int.toNat a1)))])))))) else some x9))
def sf58o (N : Nat) (a0_0 : Int) (a0_1 : Int) (a0_2 : (List (Int × Int × Int × Int × Int))) (a0_3 : ME) (a1 : Int) (a2 : Int) (ord : ME) : Option (Int × Int) :=
  bnd (foldE (sf58_S N a0_0 a0_1 a0_2 a1 a2) ord ([] : List (Int × Int))) fun x9 => (bnd (sf72 N x9) fun v34 => some (v34.1, v34.2))
end Go.Hx.V.A

/- What 'when' and 'holds' come to, seen from the store. -/
namespace Go.Hx.V.A
open Go.Hx
noncomputable section
def rd5 : List HV → Option (List (Int × Int × Int × Int × Int))
  | [] => some []
  | .int .i64 a :: .int .i64 b :: .int .i64 c :: .int .i64 d :: .int .i64 e :: t => (rd5 t).map ((a, b, c, d, e) :: ·)
  | _ => none
def rdSl (σ : HS) (p : Option (Nat × Nat)) (l c : Nat) : Option (List (Int × Int × Int × Int × Int)) := match p with
  | some (b, 0) => match σ.h.get b with
    | some (.cells cs _) => (rd5 cs).bind fun rs => bif Nat.ble l rs.length && Nat.ble l c then some (rs.take l) else none
    | _ => none
  | _ => none
def flatE (es : ME) : Bool := es.all fun e => flat e.1 && flat e.2
def g54 (args : List HV) (σ : HS) : Option (HV × HS) := match args with
  | [.agg [.int .i64 ow, .int .i64 tot, .slice p l c, .map (some mb)], .int .i64 a1] => (rdSl σ p l c).bind fun rs => match σ.h.get mb with
    | some (.map es) => bif flatE es then (sf54o 64 ow tot rs es a1 es).map fun r => (.agg [i64 r.1, i64 r.2], σ) else none
    | _ => none
  | _ => none
def g58 (args : List HV) (σ : HS) : Option (HV × HS) := match args with
  | [.agg [.int .i64 ow, .int .i64 tot, .slice p l c, .map (some mb)], .int .i64 a1, .int .i64 a2] => (rdSl σ p l c).bind fun rs => match σ.h.get mb with
    | some (.map es) => bif flatE es then (sf58o 64 ow tot rs es a1 a2 es).map fun r => (.agg [i64 r.1, i64 r.2], σ) else none
    | _ => none
  | _ => none
end
end Go.Hx.V.A
namespace Go.Hx
noncomputable section
def LQ : Nat → Option LFunc := withS (withS LP 54 V.A.g54) 58 V.A.g58
noncomputable def endK0 : Kv := fun v _ _ => some (v, ⟨.e, 0⟩)
end
end Go.Hx

/- The functions of the program, of which three are known: the closed examples tell true; when and holds. -/
namespace Go.Hx
noncomputable section
def spWakes : List HV → HS → Option (HV × HS)
  | [], σ => some (.bool true, σ)
  | _, _ => none
def LW : Nat → Option LFunc := withS LQ 16 spWakes
theorem withS_of {lp : Nat → Option LFunc} {f : Nat} {g : List HV → HS → Option (HV × HS)} {k : Nat} {lf : LFunc} (hk : Nat.beq k f = false) (h : lp k = some lf) : withS lp f g k = some lf := by
  unfold withS
  rw [hk]
  exact h
theorem lw_of {k : Nat} {lf : LFunc} (h1 : Nat.beq k 54 = false) (h2 : Nat.beq k 58 = false) (h3 : Nat.beq k 16 = false) (h : LP k = some lf) : LW k = some lf := withS_of h3 (withS_of h2 (withS_of h1 h))
theorem lw3 : LW 3 = some L3 := lw_of rfl rfl rfl lp3
theorem lw17 : LW 17 = some L17 := lw_of rfl rfl rfl lp17
theorem lw18 : LW 18 = some L18 := lw_of rfl rfl rfl lp18
theorem lw19 : LW 19 = some L19 := lw_of rfl rfl rfl lp19
theorem lw20 : LW 20 = some L20 := lw_of rfl rfl rfl lp20
theorem lw21 : LW 21 = some L21 := lw_of rfl rfl rfl lp21
theorem lw22 : LW 22 = some L22 := lw_of rfl rfl rfl lp22
theorem lw31 : LW 31 = some L31 := lw_of rfl rfl rfl lp31
theorem lw40 : LW 40 = some L40 := lw_of rfl rfl rfl lp40
theorem lw46 : LW 46 = some L46 := lw_of rfl rfl rfl lp46
theorem lw47 : LW 47 = some L47 := lw_of rfl rfl rfl lp47
theorem lw48 : LW 48 = some L48 := lw_of rfl rfl rfl lp48
theorem lw49 : LW 49 = some L49 := lw_of rfl rfl rfl lp49
theorem lw53 : LW 53 = some L53 := lw_of rfl rfl rfl lp53
theorem lw56 : LW 56 = some L56 := lw_of rfl rfl rfl lp56
theorem lw57 : LW 57 = some L57 := lw_of rfl rfl rfl lp57
theorem lw60 : LW 60 = some L60 := lw_of rfl rfl rfl lp60
theorem lw61 : LW 61 = some L61 := lw_of rfl rfl rfl lp61
theorem lw62 : LW 62 = some L62 := lw_of rfl rfl rfl lp62
theorem lw63 : LW 63 = some L63 := lw_of rfl rfl rfl lp63
theorem lw64 : LW 64 = some L64 := lw_of rfl rfl rfl lp64
theorem lw68 : LW 68 = some L68 := lw_of rfl rfl rfl lp68
theorem lw69 : LW 69 = some L69 := lw_of rfl rfl rfl lp69
theorem lw72 : LW 72 = some L72 := lw_of rfl rfl rfl lp72
theorem lw74 : LW 74 = some L74 := lw_of rfl rfl rfl lp74
theorem lw75 : LW 75 = some L75 := lw_of rfl rfl rfl lp75
theorem lw76 : LW 76 = some L76 := lw_of rfl rfl rfl lp76
theorem lw77 : LW 77 = some L77 := lw_of rfl rfl rfl lp77
theorem lw81 : LW 81 = some L81 := lw_of rfl rfl rfl lp81
theorem lw86 : LW 86 = some L86 := lw_of rfl rfl rfl lp86
theorem lw87 : LW 87 = some L87 := lw_of rfl rfl rfl lp87
theorem lw89 : LW 89 = some L89 := lw_of rfl rfl rfl lp89
theorem lw90 : LW 90 = some L90 := lw_of rfl rfl rfl lp90
theorem V.ct_wakes {fl : Nat} {h : Tr HBlk} {nx : Nat} : C LW fl 16 [] ⟨h, nx⟩ (V.KS (.bool true) nx h) :=
  c_spec (lf := ⟨0, .bad, [], false, some spWakes, fun _ _ => none⟩) rfl rfl rfl (Nat.le_refl _) ⟨rfl, nx, Nat.le_refl _, rfl⟩
end
end Go.Hx

/- What the functions of the program come to. -/
namespace Go.Hx.V
open Go.Hx
set_option linter.unusedVariables false
set_option maxRecDepth 20000
set_option maxHeartbeats 4000000
/- meniscus/meniscuslaw09.Batch -/
def sf18_L1 (a0_2 : (List (Int × Int × Int × Int × Int))) (x30 : (Int × (List (Int × Int × Int × Int × Int)))) : Option ((Int × (List (Int × Int × Int × Int × Int))) ⊕ (List (Int × Int × Int × Int × Int))) :=
  (bif (decide (x30.1 < ((a0_2).length : Int))) then (ix a0_2 x30.1 fun x49 => (ck ((x30.2.length + 1) * 40 ≤ 35184372088832 ∧ x30.2.length + 1 ≤ 35184372088832) ((ck (rng (x30.1 + (1 : Int))) (some (.inl ((x30.1 + (1 : Int)), (x30.2 ++ [(x49.1, x49.2.1, x49.2.2.1, x49.2.2.2.1, x49.2.2.2.2)])))))))) else some (.inr x30.2))
def sf18 (N : Nat) (a0_0 : Int) (a0_1 : Int) (a0_2 : (List (Int × Int × Int × Int × Int))) : Option (Int × Int × (List (Int × Int × Int × Int × Int))) :=
  bnd (iter (sf18_L1 a0_2) N ((0 : Int), ([] : List (Int × Int × Int × Int × Int)))) (fun y45 => some (a0_0, a0_1, y45))
/- (meniscus/recall.Batch).hasOwner -/
def sf56 (N : Nat) (a0_0 : Int) (a0_1 : Int) (a0_2 : (List (Int × Int × Int × Int × Int))) (a1 : Int) : Option Bool :=
  (bif (decide ((0 : Int) ≤ a1)) then some (decide (a1 < a0_0)) else some false)
/- meniscus/recall.isDay -/
def sf57 (N : Nat) (a0 : Int) : Option Bool :=
  (bif (decide ((0 : Int) ≤ a0)) then some (decide (a0 ≤ (100 : Int))) else some false)
/- (meniscus/recall.Range).areDays -/
def sf75 (N : Nat) (a0_0 : Int) (a0_1 : Int) : Option Bool :=
  (bnd (sf57 N a0_0) fun v4 => (bif v4 then (bnd (sf57 N a0_1) fun v8 => (bif v8 then some (decide (a0_0 ≤ a0_1)) else some false)) else some false))
/- (meniscus/recall.Batch).allows -/
def sf62 (N : Nat) (a0_0 : Int) (a0_1 : Int) (a0_2 : (List (Int × Int × Int × Int × Int))) (a1_0 : Int) (a1_1 : Int) (a1_2 : Int) (a1_3 : Int) (a1_4 : Int) : Option Bool :=
  (bnd (sf56 N a0_0 a0_1 a0_2 a1_0) fun v7 => (bif v7 then (bnd (sf56 N a0_0 a0_1 a0_2 a1_1) fun v11 => (bif v11 then (bif (!(decide (a1_0 = a1_1))) then (bif (decide ((1 : Int) ≤ a1_2)) then (bif (decide (a1_2 ≤ (1000 : Int))) then (bnd (sf75 N a1_3 a1_4) fun v18 => some v18) else some false) else some false) else some false) else some false)) else some false))
/- meniscus/lists.All[meniscus/recall.Sale] -/
def sf61_L1 (N : Nat) (a0 : (List (Int × Int × Int × Int × Int))) (a1f0_0 : Int) (a1f0_1 : Int) (a1f0_2 : (List (Int × Int × Int × Int × Int))) (x1 : Int) : Option (Int ⊕ (Unit ⊕ Unit)) :=
  (bif (decide (x1 < ((a0).length : Int))) then (ix a0 x1 fun x20 => (bnd (sf62 N a1f0_0 a1f0_1 a1f0_2 x20.1 x20.2.1 x20.2.2.1 x20.2.2.2.1 x20.2.2.2.2) fun v25 => (bif (!v25) then some (.inr (.inl ())) else (ck (rng (x1 + (1 : Int))) (some (.inl (x1 + (1 : Int)))))))) else some (.inr (.inr ())))
def sf61 (N : Nat) (a0 : (List (Int × Int × Int × Int × Int))) (a1f0_0 : Int) (a1f0_1 : Int) (a1f0_2 : (List (Int × Int × Int × Int × Int))) : Option Bool :=
  bnd (iter (sf61_L1 N a0 a1f0_0 a1f0_1 a1f0_2) N (0 : Int)) (sel (fun w15 => some false) (fun w17 => some true))
/- (meniscus/recall.Batch).check -/
def sf46 (N : Nat) (a0_0 : Int) (a0_1 : Int) (a0_2 : (List (Int × Int × Int × Int × Int))) : Option Int :=
  (bif (decide ((8 : Int) < ((a0_2).length : Int))) then some (3 : Int) else bnd ((bif (decide (a0_0 < (1 : Int))) then some true else (bif (decide ((6 : Int) < a0_0)) then some true else (bif (decide (a0_1 < (0 : Int))) then some true else (bif (decide ((1000 : Int) < a0_1)) then some true else (bnd (sf61 N a0_2 a0_0 a0_1 a0_2) fun v20 => some (!v20)))))) : Option (Bool)) (fun y12 => (bif y12 then some (1 : Int) else some (0 : Int))))
/- meniscus/recall.CheckBatch -/
def sf17 (N : Nat) (a0_0 : Int) (a0_1 : Int) (a0_2 : (List (Int × Int × Int × Int × Int))) : Option Int :=
  (bnd (sf46 N a0_0 a0_1 a0_2) fun v4 => some v4)
/- meniscus/meniscuslaw09.list -/
def sf20 (N : Nat) (a0 : (List Int)) : Option (List Int) :=
  (ck ((([] : List Int).length + a0.length) * 8 ≤ 35184372088832 ∧ ([] : List Int).length + a0.length ≤ 35184372088832) (some (([] : List Int) ++ a0)))
/- (meniscus/recall.Batch).hasSale -/
def sf53 (N : Nat) (a0_0 : Int) (a0_1 : Int) (a0_2 : (List (Int × Int × Int × Int × Int))) (a1 : Int) : Option Bool :=
  (bif (decide ((0 : Int) ≤ a1)) then some (decide (a1 < ((a0_2).length : Int))) else some false)
/- meniscus/lists.All[int] -/
def sf63_L1 (N : Nat) (a0 : (List Int)) (a1f0_0 : Int) (a1f0_1 : Int) (a1f0_2 : (List (Int × Int × Int × Int × Int))) (x1 : Int) : Option (Int ⊕ (Unit ⊕ Unit)) :=
  (bif (decide (x1 < ((a0).length : Int))) then (ix a0 x1 fun x16 => (bnd (sf53 N a1f0_0 a1f0_1 a1f0_2 x16) fun v17 => (bif (!v17) then some (.inr (.inl ())) else (ck (rng (x1 + (1 : Int))) (some (.inl (x1 + (1 : Int)))))))) else some (.inr (.inr ())))
def sf63 (N : Nat) (a0 : (List Int)) (a1f0_0 : Int) (a1f0_1 : Int) (a1f0_2 : (List (Int × Int × Int × Int × Int))) : Option Bool :=
  bnd (iter (sf63_L1 N a0 a1f0_0 a1f0_1 a1f0_2) N (0 : Int)) (sel (fun w11 => some false) (fun w13 => some true))
/- (meniscus/recall.done).with -/
def sf76 (N : Nat) (a0_0 : (Nat → Bool)) (a1 : Int) : Option (Nat → Bool) :=
  (ck (0 ≤ a1 ∧ a1 < 8) (some (ups a0_0 (Int.toNat a1) true)))
/- meniscus/lists.Greatest -/
def sf77_L1 (a1 : (List Int)) (x1 : (Int × Int)) : Option ((Int × Int) ⊕ Int) :=
  (bif (decide (x1.2 < ((a1).length : Int))) then (ix a1 x1.2 fun x11 => (bif (decide (x1.1 < x11)) then (ck (rng (x1.2 + (1 : Int))) (some (.inl (x11, (x1.2 + (1 : Int)))))) else (ck (rng (x1.2 + (1 : Int))) (some (.inl (x1.1, (x1.2 + (1 : Int)))))))) else some (.inr x1.1))
def sf77 (N : Nat) (a0 : Int) (a1 : (List Int)) : Option Int :=
  bnd (iter (sf77_L1 a1) N (a0, (0 : Int))) (fun y8 => some y8)
/- (meniscus/recall.Batch).behind -/
def sf74_L1 (a0_2 : (List (Int × Int × Int × Int × Int))) (a1_0 : (Nat → Bool)) (x14 : (Int × (Nat → Int))) : Option ((Int × (Nat → Int)) ⊕ (Nat → Int)) :=
  (bif (decide (x14.1 < ((a0_2).length : Int))) then (ix a0_2 x14.1 fun x39 => (ck (0 ≤ x14.1 ∧ x14.1 < 8) ((bif (a1_0 (Int.toNat x14.1)) then (ck (0 ≤ x39.1 ∧ x39.1 < 6) ((ck (rng ((x14.2 (Int.toNat x39.1)) - x39.2.2.1)) ((ck (0 ≤ x39.1 ∧ x39.1 < 6) ((ck (0 ≤ x39.2.1 ∧ x39.2.1 < 6) ((ck (rng (((ups x14.2 (Int.toNat x39.1) ((x14.2 (Int.toNat x39.1)) - x39.2.2.1)) (Int.toNat x39.2.1)) + x39.2.2.1)) ((ck (0 ≤ x39.2.1 ∧ x39.2.1 < 6) ((ck (rng (x14.1 + (1 : Int))) (some (.inl ((x14.1 + (1 : Int)), (ups (ups x14.2 (Int.toNat x39.1) ((x14.2 (Int.toNat x39.1)) - x39.2.2.1)) (Int.toNat x39.2.1) (((ups x14.2 (Int.toNat x39.1) ((x14.2 (Int.toNat x39.1)) - x39.2.2.1)) (Int.toNat x39.2.1)) + x39.2.2.1)))))))))))))))))) else (ck (rng (x14.1 + (1 : Int))) (some (.inl ((x14.1 + (1 : Int)), x14.2)))))))) else some (.inr x14.2))
def sf74 (N : Nat) (a0_0 : Int) (a0_1 : Int) (a0_2 : (List (Int × Int × Int × Int × Int))) (a1_0 : (Nat → Bool)) : Option (Nat → Int) :=
  bnd (iter (sf74_L1 a0_2 a1_0) N ((0 : Int), (ups (fun _ => 0) 0 a0_1))) (fun y36 => some y36)
/- (meniscus/recall.Batch).then -/
def sf64 (N : Nat) (a0_0 : Int) (a0_1 : Int) (a0_2 : (List (Int × Int × Int × Int × Int))) (a1_0 : (Nat → Bool)) (a1_1 : Int) (a2 : Int) : Option ((Nat → Bool) × Int × Bool) :=
  (ix a0_2 a2 fun x10 => (bnd (sf76 N a1_0 a2) fun v15 => (bnd (sf77 N a1_1 ([x10.2.2.2.1])) fun v18 => bnd ((ck (0 ≤ a2 ∧ a2 < 8) ((bif (!(a1_0 (Int.toNat a2))) then (bnd (sf74 N a0_0 a0_1 a0_2 a1_0) fun v38 => (ck (0 ≤ x10.1 ∧ x10.1 < 6) ((bif (decide (x10.2.2.1 ≤ (v38 (Int.toNat x10.1)))) then some (decide (v18 ≤ x10.2.2.2.2)) else some false)))) else some false))) : Option (Bool)) (fun y32 => some (v15, v18, y32)))))
/- (meniscus/recall.Batch).isTruth -/
def sf47_L1 (N : Nat) (a0_0 : Int) (a0_1 : Int) (a0_2 : (List (Int × Int × Int × Int × Int))) (a1 : (List Int)) (a2 : (List Int)) (x45 : (Int × (Nat → Bool) × Int)) : Option ((Int × (Nat → Bool) × Int) ⊕ (((Nat → Bool) × Int) ⊕ ((Nat → Bool) × Int))) :=
  (bif (decide (x45.1 < ((a1).length : Int))) then (ix a1 x45.1 fun x116 => (bnd (sf64 N a0_0 a0_1 a0_2 x45.2.1 x45.2.2 x116) fun v117 => bnd (bnd ((bif (!v117.2.2) then some true else (ix a2 x116 fun x162 => (bif (decide (x162 < v117.2.1)) then some true else (ix a2 x116 fun x164 => (ix a0_2 x116 fun x165 => some (decide (x165.2.2.2.2 < x164))))))) : Option (Bool)) (fun y156 => (bif y156 then some (.inl ()) else some (.inr ()))) : Option (Unit ⊕ Unit)) (sel (fun w146 => some (.inr (.inl (x45.2.1, x45.2.2)))) (fun w148 => (ix a2 x116 fun x174 => (ck (rng (x45.1 + (1 : Int))) (some (.inl ((x45.1 + (1 : Int)), v117.1, x174))))))))) else some (.inr (.inr (x45.2.1, x45.2.2))))
def sf47 (N : Nat) (a0_0 : Int) (a0_1 : Int) (a0_2 : (List (Int × Int × Int × Int × Int))) (a1 : (List Int)) (a2 : (List Int)) : Option Bool :=
  bnd (bnd ((bif (!(decide (((a1).length : Int) = ((a0_2).length : Int)))) then some true else (bif (!(decide (((a2).length : Int) = ((a0_2).length : Int)))) then some true else (bnd (sf63 N a1 a0_0 a0_1 a0_2) fun v37 => some (!v37)))) : Option (Bool)) (fun y31 => (bif y31 then some (.inl ()) else some (.inr ()))) : Option (Unit ⊕ Unit)) (sel (fun w22 => some false) (fun w24 => bnd (iter (sf47_L1 N a0_0 a0_1 a0_2 a1 a2) N ((0 : Int), (fun _ => false), (0 : Int))) (sel (fun w111 => some false) (fun w113 => some true))))
/- meniscus/recall.ProveTruth -/
def sf19 (N : Nat) (a0_0 : Int) (a0_1 : Int) (a0_2 : (List (Int × Int × Int × Int × Int))) (a1 : (List Int)) (a2 : (List Int)) : Option Bool :=
  (bnd (sf46 N a0_0 a0_1 a0_2) fun v4 => (bif (decide (v4 = (0 : Int))) then (bnd (sf47 N a0_0 a0_1 a0_2 a1 a2) fun v8 => some v8) else some false))
/- meniscus/meniscusref09.In -/
def sf31 (N : Nat) (a0 : Int) (a1 : Int) (a2 : Int) : Option Bool :=
  (bif (decide (a1 ≤ a0)) then some (decide (a0 ≤ a2)) else some false)
/- meniscus/meniscusref09.Fault -/
def sf48_L1 (N : Nat) (a0_0 : Int) (a0_2 : (List (Int × Int × Int × Int × Int))) (x50 : Int) : Option (Int ⊕ (Int ⊕ Unit)) :=
  (bif (decide (x50 < ((a0_2).length : Int))) then (ix a0_2 x50 fun x111 => bnd ((ck (rng (a0_0 - (1 : Int))) ((bnd (sf31 N x111.1 (0 : Int) (a0_0 - (1 : Int))) fun v140 => (bif (!v140) then some true else (ck (rng (a0_0 - (1 : Int))) ((bnd (sf31 N x111.2.1 (0 : Int) (a0_0 - (1 : Int))) fun v145 => (bif (!v145) then some true else (bif (decide (x111.1 = x111.2.1)) then some true else (bnd (sf31 N x111.2.2.1 (1 : Int) (1000 : Int)) fun v150 => (bif (!v150) then some true else (bnd (sf31 N x111.2.2.2.1 (0 : Int) x111.2.2.2.2) fun v154 => (bif (!v154) then some true else some (decide ((100 : Int) < x111.2.2.2.2))))))))))))))) : Option (Bool)) (fun y135 => (bif y135 then some (.inr (.inl (1 : Int))) else (ck (rng (x50 + (1 : Int))) (some (.inl (x50 + (1 : Int)))))))) else some (.inr (.inr ())))
def sf48 (N : Nat) (a0_0 : Int) (a0_1 : Int) (a0_2 : (List (Int × Int × Int × Int × Int))) : Option Int :=
  (bif (decide ((8 : Int) < ((a0_2).length : Int))) then some (3 : Int) else bnd (bnd ((bnd (sf31 N a0_0 (1 : Int) (6 : Int)) fun v42 => (bif (!v42) then some true else (bnd (sf31 N a0_1 (0 : Int) (1000 : Int)) fun v46 => some (!v46)))) : Option (Bool)) (fun y38 => (bif y38 then some (.inl (1 : Int)) else some (.inr ()))) : Option (Int ⊕ Unit)) (sel (fun w27 => some w27) (fun w29 => bnd (iter (sf48_L1 N a0_0 a0_2) N (0 : Int)) (sel (fun w106 => some w106) (fun w108 => some (0 : Int))))))
/- meniscus/meniscuslaw09.fault -/
def sf21 (N : Nat) (a0_0 : Int) (a0_1 : Int) (a0_2 : (List (Int × Int × Int × Int × Int))) : Option Int :=
  (bnd (sf48 N a0_0 a0_1 a0_2) fun v4 => some v4)
/- meniscus/meniscusref09.Has -/
def sf40_L1 (a0 : (List Int)) (a1 : Int) (x1 : Int) : Option (Int ⊕ (Bool ⊕ Unit)) :=
  (bif (decide (x1 < ((a0).length : Int))) then (ix a0 x1 fun x13 => (bif (decide (x13 = a1)) then some (.inr (.inl true)) else (ck (rng (x1 + (1 : Int))) (some (.inl (x1 + (1 : Int))))))) else some (.inr (.inr ())))
def sf40 (N : Nat) (a0 : (List Int)) (a1 : Int) : Option Bool :=
  bnd (iter (sf40_L1 a0 a1) N (0 : Int)) (sel (fun w8 => some w8) (fun w10 => some false))
/- meniscus/meniscusref09.Stock -/
def sf60_L1 (a0_2 : (List (Int × Int × Int × Int × Int))) (a1 : (List Int)) (a2 : Int) (x10 : (Int × Int)) : Option ((Int × Int) ⊕ Int) :=
  (bif (decide (x10.2 < ((a1).length : Int))) then (ix a1 x10.2 fun x35 => (ix a0_2 x35 fun x36 => bnd ((bif (decide (x36.2.1 = a2)) then (ck (rng (x10.1 + x36.2.2.1)) (some (x10.1 + x36.2.2.1))) else some x10.1) : Option (Int)) (fun y41 => (bif (decide (x36.1 = a2)) then (ck (rng (y41 - x36.2.2.1)) ((ck (rng (x10.2 + (1 : Int))) (some (.inl ((y41 - x36.2.2.1), (x10.2 + (1 : Int)))))))) else (ck (rng (x10.2 + (1 : Int))) (some (.inl (y41, (x10.2 + (1 : Int)))))))))) else some (.inr x10.1))
def sf60 (N : Nat) (a0_0 : Int) (a0_1 : Int) (a0_2 : (List (Int × Int × Int × Int × Int))) (a1 : (List Int)) (a2 : Int) : Option Int :=
  bnd ((bif (decide (a2 = (0 : Int))) then some a0_1 else some (0 : Int)) : Option (Int)) (fun y5 => bnd (iter (sf60_L1 a0_2 a1 a2) N (y5, (0 : Int))) (fun y32 => some y32))
/- meniscus/meniscusref09.May -/
def sf49 (N : Nat) (a0_0 : Int) (a0_1 : Int) (a0_2 : (List (Int × Int × Int × Int × Int))) (a1 : (List Int)) (a2 : Int) (a3 : Int) (a4 : Int) : Option Bool :=
  (ix a0_2 a3 fun x4 => (bnd (sf40 N a1 a3) fun v9 => (bif (!v9) then (bnd (sf31 N a4 x4.2.2.2.1 x4.2.2.2.2) fun v13 => (bif v13 then (bif (decide (a2 ≤ a4)) then (bnd (sf60 N a0_0 a0_1 a0_2 a1 x4.1) fun v18 => some (decide (x4.2.2.1 ≤ v18))) else some false) else some false)) else some false)))
/- meniscus/meniscusref09.IsTruth -/
def sf22_L1 (N : Nat) (a0_0 : Int) (a0_1 : Int) (a0_2 : (List (Int × Int × Int × Int × Int))) (a1 : (List Int)) (a2 : (List Int)) (x25 : (Int × Int)) : Option ((Int × Int) ⊕ (Unit ⊕ Unit)) :=
  (bif (decide (x25.2 < ((a1).length : Int))) then bnd (bnd ((ix a1 x25.2 fun x193 => (ck (rng (((a0_2).length : Int) - (1 : Int))) ((bnd (sf31 N x193 (0 : Int) (((a0_2).length : Int) - (1 : Int))) fun v195 => (bif (!v195) then some true else (ck (0 ≤ 0 ∧ 0 ≤ x25.2 ∧ (0 ≤ (Int.toNat x25.2) ∧ (Int.toNat x25.2) ≤ a1.length)) ((ix a1 x25.2 fun x202 => (ix a1 x25.2 fun x203 => (ix a2 x203 fun x204 => (bnd (sf49 N a0_0 a0_1 a0_2 ((a1.drop 0).take ((Int.toNat x25.2) - 0)) x25.1 x202 x204) fun v206 => some (!v206)))))))))))) : Option (Bool)) (fun y189 => (bif y189 then some (.inl ()) else some (.inr ()))) : Option (Unit ⊕ Unit)) (sel (fun w169 => some (.inr (.inl ()))) (fun w171 => (ix a1 x25.2 fun x216 => (ix a2 x216 fun x217 => (ck (rng (x25.2 + (1 : Int))) (some (.inl (x217, (x25.2 + (1 : Int)))))))))) else some (.inr (.inr ())))
def sf22 (N : Nat) (a0_0 : Int) (a0_1 : Int) (a0_2 : (List (Int × Int × Int × Int × Int))) (a1 : (List Int)) (a2 : (List Int)) : Option Bool :=
  bnd (bnd ((bif (!(decide (((a1).length : Int) = ((a0_2).length : Int)))) then some true else some (!(decide (((a2).length : Int) = ((a0_2).length : Int))))) : Option (Bool)) (fun y19 => (bif y19 then some (.inl ()) else some (.inr ()))) : Option (Unit ⊕ Unit)) (sel (fun w14 => some false) (fun w16 => bnd (iter (sf22_L1 N a0_0 a0_1 a0_2 a1 a2) N ((0 : Int), (0 : Int))) (sel (fun w122 => some false) (fun w124 => some true))))
/- meniscus/meniscuslaw09.RecallProves -/
def sf3 (N : Nat) (a0_0 : Int) (a0_1 : Int) (a0_2 : (List (Int × Int × Int × Int × Int))) (a1 : (List Int)) (a2 : (List Int)) : Option Bool :=
  bnd (bnd ((bif (decide ((12 : Int) < ((a0_2).length : Int))) then some true else (bif (decide ((12 : Int) < ((a1).length : Int))) then some true else some (decide ((12 : Int) < ((a2).length : Int))))) : Option (Bool)) (fun y23 => (bif y23 then some (.inl true) else some (.inr ()))) : Option (Bool ⊕ Unit)) (sel (fun w17 => some w17) (fun w19 => (bnd (sf18 N a0_0 a0_1 a0_2) fun v31 => (bnd (sf17 N v31.1 v31.2.1 v31.2.2) fun v36 => (bnd (sf18 N a0_0 a0_1 a0_2) fun v39 => (bnd (sf20 N a1) fun v45 => (bnd (sf20 N a2) fun v52 => (bnd (sf19 N v39.1 v39.2.1 v39.2.2 v45 v52) fun v60 => (bnd (sf21 N a0_0 a0_1 a0_2) fun v63 => (bif (decide (v36 = v63)) then (bif (decide (v36 = (0 : Int))) then (bnd (sf22 N a0_0 a0_1 a0_2 a1 a2) fun v68 => (bif (v60 == v68) then some true else some false)) else (bif (v60 == false) then some true else some false)) else some false))))))))))
/- (meniscus/recall.Range).first -/
def sf89 (N : Nat) (a0_0 : Int) (a0_1 : Int) : Option Int :=
  some a0_0
/- meniscus/lists.Least -/
def sf81_L1 (a1 : (List Int)) (x1 : (Int × Int)) : Option ((Int × Int) ⊕ Int) :=
  (bif (decide (x1.2 < ((a1).length : Int))) then (ix a1 x1.2 fun x11 => (bif (decide (x11 < x1.1)) then (ck (rng (x1.2 + (1 : Int))) (some (.inl (x11, (x1.2 + (1 : Int)))))) else (ck (rng (x1.2 + (1 : Int))) (some (.inl (x1.1, (x1.2 + (1 : Int)))))))) else some (.inr x1.1))
def sf81 (N : Nat) (a0 : Int) (a1 : (List Int)) : Option Int :=
  bnd (iter (sf81_L1 a1) N (a0, (0 : Int))) (fun y8 => some y8)
/- (meniscus/recall.end).among -/
def sf87_L1 (N : Nat) (a1 : (List (Int × Int))) (x22 : ((List Int) × Int)) : Option (((List Int) × Int) ⊕ (List Int)) :=
  (bif (decide (x22.2 < ((a1).length : Int))) then (ix a1 x22.2 fun x43 => (bnd (sf89 N x43.1 x43.2) fun v48 => (ck ((x22.1.length + 1) * 8 ≤ 35184372088832 ∧ x22.1.length + 1 ≤ 35184372088832) ((ck (rng (x22.2 + (1 : Int))) (some (.inl ((x22.1 ++ [v48]), (x22.2 + (1 : Int)))))))))) else some (.inr x22.1))
def sf87 (N : Nat) (a1 : (List (Int × Int))) : Option Int :=
  (ck (0 ≤ (0 : Int) ∧ 0 ≤ ((a1).length : Int) ∧ Int.toNat (0 : Int) ≤ Int.toNat ((a1).length : Int) ∧ (Int.toNat ((a1).length : Int) * 8 ≤ 35184372088832 ∧ Int.toNat ((a1).length : Int) ≤ 35184372088832)) (bnd (iter (sf87_L1 N a1) N ((List.replicate (Int.toNat (0 : Int)) (0 : Int)), (0 : Int))) (fun y39 => (ix y39 (0 : Int) fun x60 => (ck (0 ≤ (1 : Int) ∧ 0 ≤ ((y39).length : Int) ∧ ((Int.toNat (1 : Int)) ≤ y39.length ∧ y39.length ≤ y39.length)) ((bnd (sf81 N x60 ((y39.drop (Int.toNat (1 : Int))).take (y39.length - (Int.toNat (1 : Int))))) fun v64 => some v64)))))))
/- (meniscus/recall.Range).last -/
def sf90 (N : Nat) (a0_0 : Int) (a0_1 : Int) : Option Int :=
  some a0_1
/- (meniscus/recall.end).among -/
def sf87_2_L1 (N : Nat) (a1 : (List (Int × Int))) (x22 : ((List Int) × Int)) : Option (((List Int) × Int) ⊕ (List Int)) :=
  (bif (decide (x22.2 < ((a1).length : Int))) then (ix a1 x22.2 fun x43 => (bnd (sf90 N x43.1 x43.2) fun v48 => (ck ((x22.1.length + 1) * 8 ≤ 35184372088832 ∧ x22.1.length + 1 ≤ 35184372088832) ((ck (rng (x22.2 + (1 : Int))) (some (.inl ((x22.1 ++ [v48]), (x22.2 + (1 : Int)))))))))) else some (.inr x22.1))
def sf87_2 (N : Nat) (a1 : (List (Int × Int))) : Option Int :=
  (ck (0 ≤ (0 : Int) ∧ 0 ≤ ((a1).length : Int) ∧ Int.toNat (0 : Int) ≤ Int.toNat ((a1).length : Int) ∧ (Int.toNat ((a1).length : Int) * 8 ≤ 35184372088832 ∧ Int.toNat ((a1).length : Int) ≤ 35184372088832)) (bnd (iter (sf87_2_L1 N a1) N ((List.replicate (Int.toNat (0 : Int)) (0 : Int)), (0 : Int))) (fun y39 => (ix y39 (0 : Int) fun x60 => (ck (0 ≤ (1 : Int) ∧ 0 ≤ ((y39).length : Int) ∧ ((Int.toNat (1 : Int)) ≤ y39.length ∧ y39.length ≤ y39.length)) ((bnd (sf77 N x60 ((y39.drop (Int.toNat (1 : Int))).take (y39.length - (Int.toNat (1 : Int))))) fun v64 => some v64)))))))
/- meniscus/recall.span -/
def sf72 (N : Nat) (a0 : (List (Int × Int))) : Option (Int × Int) :=
  (bnd (sf87 N a0) fun v21 => (bnd (sf87_2 N a0) fun v25 => some (v21, v25)))
/- (meniscus/recall.sold).days -/
def sf68 (N : Nat) (a0_0 : Int) (a0_1 : Int) (a0_2 : (List (Int × Int × Int × Int × Int))) (a0_3 : ME) (a1 : Int) (a2_0 : (Nat → Bool)) (a2_1 : Int) : Option (Int × Int) :=
  (bnd (lkE (.row [.b, .b, .b, .b, .b, .b, .b, .b, (.i .i64)]) (.agg ((eB 8 a2_0) ++ [(i64 a2_1)])) a0_3 (i64 (0 : Int))) fun y10 => bnd (dI y10.1) fun x12 => (ix a0_2 a1 fun x14 => (bnd (sf81 N x12 ([x14.2.2.2.2])) fun v15 => some (a2_1, v15))))
/- (meniscus/recall.Range).areSome -/
def sf69 (N : Nat) (a0_0 : Int) (a0_1 : Int) : Option Bool :=
  some (decide (a0_0 ≤ a0_1))
end Go.Hx.V

/- Functions of the program come to that. -/
namespace Go.Hx.V
open Go.Hx
set_option linter.unusedVariables false
set_option maxRecDepth 20000
set_option maxHeartbeats 4000000
attribute [local irreducible] W R C thenH inBlockH Tr.get Tr.set lo ck bnd ix iter
theorem ct18 (N : Nat) {a0_0 : Int} {a0_1 : Int} {a0_2 : (List (Int × Int × Int × Int × Int))} {r : (Int × Int × (List (Int × Int × Int × Int × Int)))} (hF : sf18 N a0_0 a0_1 a0_2 = some r) {fl : Nat} {h0 : Tr HBlk} {n0 : Nat} {F0 : PH} (hd : D h0 n0) (hs : F0.sub h0) (hfl : fl ≤ n0) {pa0_2 : Option (Nat × Nat)} {ca0_2 : Nat} (ra0_2 : RowF (rP rI (rP rI (rP rI (rP rI rI)))) 5 F0 pa0_2 ca0_2 a0_2) : C LW fl 18 [(.agg [(i64 a0_0), (i64 a0_1), (.slice pa0_2 (a0_2).length ca0_2)])] ⟨h0, n0⟩ (KR (rvA (rP rI (rP rI (rL (rP rI (rP rI (rP rI (rP rI rI)))) 5)))) F0 h0 n0 r) := by
  unfold sf18 at hF
  refine in_mT hd hs hfl lw18 rfl rfl (by rfl) (fun st T hT => ?_)
  have t0 := hT 0 _ rfl
  dsimp only [L18]
  refine w_seq ?_; refine w_reg ?_; refine v_box st (fun b1 h2 n3 st => ?_); refine v_alloc st (fun b4 h5 n6 st => ?_); refine r_nil ?_; refine th_n ?_; refine w_seq ?_; refine w_reg ?_; refine v_fa ?_; refine v_ld1 (st.at (i := 0) rfl).2.2 rfl ?_; refine v_fa ?_; refine v_ld1 (st.at (i := 0) rfl).2.2 rfl ?_; refine v_build (cs := [(i64 a0_0), (i64 a0_1), (.slice none 0 0)]) rfl ?_; refine v_alloc st (fun b7 h8 n9 st => ?_); refine v_st (cs' := [(i64 a0_0), (i64 a0_1), (.slice none 0 0)]) st 2 rfl rfl rfl rfl hfl (fun h10 st => ?_); refine r_nil ?_; refine th_n ?_; refine w_seq ?_; refine w_seq ?_; refine w_reg ?_; refine v_move ?_; refine r_nil ?_; refine th_n ?_; refine w_block ?_
  have st := st.nilL 5
  have w28 : LR (rP rI (rP rI (rP rI (rP rI rI)))) 5 F0 ([] : List (Int × Int × Int × Int × Int)) [] := LR.nil
  obtain ⟨y45, hy, hF⟩ := bnd_some hF; refine v_loopD (sf18_L1 a0_2) (fun x30 T ds31 h nx => ∃ (F31 : PH) (o32 : Option Nat) (c32 : Nat) (cs32 : List HV), ds31 = [] ∧ PH.le F0 F31 ∧ St n0 h0 F0 F31 h nx [.bx b1 [(i64 a0_0), (i64 a0_1), (.slice pa0_2 (a0_2).length ca0_2)], .bx b4 [(i64 (0 : Int)), (i64 (0 : Int)), (.slice none 0 0)], .bx b7 [(i64 a0_0), (i64 a0_1), (slv o32 (x30.2).length c32)], .ls o32 c32 cs32 5] ∧ LR (rP rI (rP rI (rP rI (rP rI rI)))) 5 F31 x30.2 cs32 ∧ T.get 1 = some (.ptr (some (b1, 0))) ∧ T.get 2 = some (.ptr (some (b4, 0))) ∧ T.get 3 = some (.ptr (some (b7, 0))) ∧ T.get 4 = some (i64 x30.1)) (fun y e a σ => e = .exit 0 ∧ a.nt = 43 ∧ ∃ (F46 : PH) (o47 : Option Nat) (c47 : Nat) (cs47 : List HV), a.defers = [] ∧ PH.le F0 F46 ∧ St n0 h0 F0 F46 σ.h σ.nx [.bx b1 [(i64 a0_0), (i64 a0_1), (.slice pa0_2 (a0_2).length ca0_2)], .bx b4 [(i64 (0 : Int)), (i64 (0 : Int)), (.slice none 0 0)], .bx b7 [(i64 a0_0), (i64 a0_1), (slv o47 (y).length c47)], .ls o47 c47 cs47 5] ∧ LR (rP rI (rP rI (rP rI (rP rI rI)))) 5 F46 y cs47 ∧ a.tmps.get 2 = some (.ptr (some (b4, 0))) ∧ a.tmps.get 3 = some (.ptr (some (b7, 0)))) (fun x30 T ds31 hc31 nc31 s hp hF => ?_) N _ y45 _ _ _ _ hy ⟨F0, none, 0, [], rfl, (PH.le.refl _), st, w28, gA, gA, gA, gA⟩ (fun e a σ hne hq => ?_)
  · obtain ⟨F31, o32, c32, cs32, rfl, le31, st, w32, t1, t2, t3, t4⟩ := hp; unfold sf18_L1 at hF; unfold L18w0; refine w_seq ?_; refine w_seq ?_; refine w_reg ?_; refine v_move ?_; refine v_fa ?_; refine v_ld1 (st.at (i := 0) rfl).2.2 rfl ?_; refine v_len ?_; refine v_lss ?_; refine r_nil ?_; refine th_n ?_; refine v_cond (fun hb48 => ?_) (fun hb48 => ?_)
    · have hF := bif_t hb48 hF; refine w_skip ?_; refine th_n ?_; refine w_seq ?_; refine w_block ?_; refine w_seq ?_; refine w_reg ?_; refine v_fa ?_; refine v_ld1 (st.at (i := 0) rfl).2.2 rfl ?_; refine v_move ?_; obtain ⟨n49, x49, z49, l49, g49, hF⟩ := ix_some hF; obtain ⟨b49, o49, s49, j49, r49, e49, f49, k49, ⟨_, _, rfl, rfl, ⟨_, _, rfl, rfl, ⟨_, _, rfl, rfl, ⟨_, _, rfl, rfl, rfl⟩⟩⟩⟩⟩ := RowF.get ra0_2 g49; refine v_ixp e49 z49 l49 ?_; refine v_ldn (st.sub _ _ (le31 _ _ f49)) k49 ?_; refine v_alloc st (fun b50 h51 n52 st => ?_); refine v_st (cs' := [(i64 x49.1), (i64 x49.2.1), (i64 x49.2.2.1), (i64 x49.2.2.2.1), (i64 x49.2.2.2.2)]) st 4 rfl rfl rfl rfl hfl (fun h53 st => ?_); refine r_nil ?_
      refine th_n ?_; refine w_reg ?_; refine v_fa ?_; refine v_ld1 (st.at (i := 2) rfl).2.2 rfl ?_; refine v_fa ?_; refine v_ld1 (st.at (i := 4) rfl).2.2 rfl ?_; refine v_fa ?_; refine v_ld1 (st.at (i := 4) rfl).2.2 rfl ?_; refine v_fa ?_; refine v_ld1 (st.at (i := 4) rfl).2.2 rfl ?_; refine v_fa ?_; refine v_fa ?_; refine v_ld1 (st.at (i := 4) rfl).2.2 rfl ?_; refine v_fa ?_; refine v_fa ?_; refine v_ld1 (st.at (i := 4) rfl).2.2 rfl ?_; refine v_build (cs := [(i64 x49.2.2.2.1), (i64 x49.2.2.2.2)]) rfl ?_; refine v_build (cs := [(i64 x49.1), (i64 x49.2.1), (i64 x49.2.2.1), (i64 x49.2.2.2.1), (i64 x49.2.2.2.2)]) rfl ?_; refine v_bs (cs := [(i64 x49.1), (i64 x49.2.1), (i64 x49.2.2.1), (i64 x49.2.2.2.1), (i64 x49.2.2.2.2)]) st rfl (fun b54 h55 n56 st => ?_)
      obtain ⟨q57, hF⟩ := ck_some hF
      have w57 : LR (rP rI (rP rI (rP rI (rP rI rI)))) 5 F31 (x30.2 ++ [(x49.1, x49.2.1, x49.2.2.1, x49.2.2.2.1, x49.2.2.2.2)]) (cs32 ++ [(i64 x49.1), (i64 x49.2.1), (i64 x49.2.2.1), (i64 x49.2.2.2.1), (i64 x49.2.2.2.2)]) := LR.app w32 (LR.one (⟨[(i64 x49.1)], _, rfl, rfl, ⟨[(i64 x49.2.1)], _, rfl, rfl, ⟨[(i64 x49.2.2.1)], _, rfl, rfl, ⟨[(i64 x49.2.2.2.1)], _, rfl, rfl, rfl⟩⟩⟩⟩))
      refine v_aps (n := 1) (ox := 0) (m := (x30.2 ++ [(x49.1, x49.2.1, x49.2.2.1, x49.2.2.2.1, x49.2.2.2.2)]).length) (row := [(i64 x49.1), (i64 x49.2.1), (i64 x49.2.2.1), (i64 x49.2.2.2.1), (i64 x49.2.2.2.2)]) st 3 rfl w32.1 (st.at (i := 5) rfl).2.2 rfl rfl q57 hfl (by decide) (by decide) (by simp) (fun o57 c57 h57 n57 st => ?_)
      refine v_fa ?_; refine v_st (cs' := [(i64 a0_0), (i64 a0_1), (slv o57 ((x30.2 ++ [(x49.1, x49.2.1, x49.2.2.1, x49.2.2.2.1, x49.2.2.2.2)])).length c57)]) st 2 rfl rfl rfl rfl hfl (fun h58 st => ?_); refine r_nil ?_; refine ib_n ?_; refine th_n ?_; refine w_reg ?_; refine v_move ?_; obtain ⟨q59, hF⟩ := ck_some hF; refine v_add q59 ?_; refine v_move ?_; refine r_nil ?_; refine thn ⟨_, (inj hF).symm, rfl, ?_⟩; dsimp only
      exact ⟨F31, o57, c57, (cs32 ++ [(i64 x49.1), (i64 x49.2.1), (i64 x49.2.2.1), (i64 x49.2.2.2.1), (i64 x49.2.2.2.2)]), rfl, le31, (st.drop (by first | exact List.Sublist.refl _ | (repeat first | exact List.nil_sublist _ | refine List.Sublist.cons_cons _ ?_ | refine List.Sublist.cons _ ?_))), w57, gA, gA, gA, gA⟩
    · have hF := bif_f hb48 hF; refine w_exit ?_; refine th_e ?_; refine th_e ?_; refine ⟨_, (inj hF).symm, rfl, rfl, ?_⟩; dsimp only
      exact ⟨F31, o32, c32, cs32, rfl, le31, st, w32, gA, gA⟩
  · obtain ⟨N9, T, ds46⟩ := a; obtain ⟨h60, n61⟩ := σ; obtain ⟨rfl, e1, F46, o47, c47, cs47, e2, le46, st, w47, t2, t3⟩ := hq
    dsimp only at e1 e2
    subst e1
    subst e2
    dsimp only at st t2 t3
    refine ib_e ?_; refine th_n ?_; refine w_seq ?_; refine w_reg ?_; refine v_ldn (vs := [(i64 a0_0), (i64 a0_1), (slv o47 (y45).length c47)]) (st.at (i := 2) rfl).2.2 rfl ?_; refine v_st (cs' := [(i64 a0_0), (i64 a0_1), (slv o47 (y45).length c47)]) st 1 rfl rfl rfl rfl hfl (fun h62 st => ?_); refine r_nil ?_; refine th_n ?_; refine w_ret ?_; obtain rfl := inj hF
    obtain ⟨F63, le63, st, rf63⟩ := St.freeze st 3 rfl w47 (by decide)
    have le64 := PH.le.trans le46 le63
    exact end_r st (Res.c gA (st.at (i := 1) rfl).2.2 (show takeN _ _ = some [(i64 a0_0), (i64 a0_1), (.slice (o47.map fun b => (b, 0)) (y45).length c47)] from rfl) Res.nil) ⟨_, rfl, ⟨[(i64 a0_0)], _, rfl, rfl, ⟨[(i64 a0_1)], _, rfl, rfl, ⟨_, _, rfl, rf63⟩⟩⟩⟩
theorem ct56 (N : Nat) {a0_0 : Int} {a0_1 : Int} {a0_2 : (List (Int × Int × Int × Int × Int))} {a1 : Int} {r : Bool} (hF : sf56 N a0_0 a0_1 a0_2 a1 = some r) {fl : Nat} {h0 : Tr HBlk} {n0 : Nat} {F0 : PH} (hd : D h0 n0) (hs : F0.sub h0) {pa0_2 : Option (Nat × Nat)} {ca0_2 : Nat} (ra0_2 : RowF (rP rI (rP rI (rP rI (rP rI rI)))) 5 F0 pa0_2 ca0_2 a0_2) : C LW fl 56 [(.agg [(i64 a0_0), (i64 a0_1), (.slice pa0_2 (a0_2).length ca0_2)]), (i64 a1)] ⟨h0, n0⟩ (KS (.bool r) n0 h0) := by
  unfold sf56 at hF
  refine in_cT hd hs lw56 rfl rfl (by rfl) (fun st T hT => ?_)
  have hfl : n0 ≤ n0 := Nat.le_refl n0
  have t0 := hT 0 _ rfl
  have t1 := hT 1 _ rfl
  dsimp only [L56]
  refine w_seq ?_; refine w_reg ?_; refine v_box st (fun b1 h2 n3 st => ?_); refine v_move ?_; refine r_nil ?_; refine th_n ?_; refine w_seq ?_; refine w_reg ?_; refine v_move ?_; refine v_leq ?_; refine v_move ?_
  rcases Bool.eq_false_or_eq_true (decide ((0 : Int) ≤ a1)) with hb4 | hb4
  · have hF := bif_t hb4 hF; refine g_take hb4 (v_move ?_); refine g_take hb4 (v_fa ?_); refine g_take hb4 (v_ld1 (st.at (i := 0) rfl).2.2 rfl ?_); refine g_take hb4 (v_lss ?_); refine v_pick hb4 ?_; refine v_move ?_; refine r_nil ?_; refine th_n ?_; refine w_ret ?_; obtain rfl := inj hF
    exact end_s st (Res.t gA Res.nil) rfl rfl
  · have hF := bif_f hb4 hF; refine g_skip hb4 ?_; refine g_skip hb4 ?_; refine g_skip hb4 ?_; refine g_skip hb4 ?_; refine v_pick' hb4 ?_; refine v_move ?_; refine r_nil ?_; refine th_n ?_; refine w_ret ?_; obtain rfl := inj hF
    exact end_s st (Res.t gA Res.nil) rfl rfl
theorem ct57 (N : Nat) {a0 : Int} {r : Bool} (hF : sf57 N a0 = some r) {fl : Nat} {h0 : Tr HBlk} {n0 : Nat} {F0 : PH} (hd : D h0 n0) (hs : F0.sub h0) : C LW fl 57 [(i64 a0)] ⟨h0, n0⟩ (KS (.bool r) n0 h0) := by
  unfold sf57 at hF
  refine in_cT hd hs lw57 rfl rfl (by rfl) (fun st T hT => ?_)
  have hfl : n0 ≤ n0 := Nat.le_refl n0
  have t0 := hT 0 _ rfl
  dsimp only [L57]
  refine w_seq ?_; refine w_reg ?_; refine v_move ?_; refine r_nil ?_; refine th_n ?_; refine w_seq ?_; refine w_reg ?_; refine v_move ?_; refine v_leq ?_; refine v_move ?_
  rcases Bool.eq_false_or_eq_true (decide ((0 : Int) ≤ a0)) with hb1 | hb1
  · have hF := bif_t hb1 hF; refine g_take hb1 (v_move ?_); refine g_take hb1 (v_leq ?_); refine v_pick hb1 ?_; refine v_move ?_; refine r_nil ?_; refine th_n ?_; refine w_ret ?_; obtain rfl := inj hF
    exact end_s st (Res.t gA Res.nil) rfl rfl
  · have hF := bif_f hb1 hF; refine g_skip hb1 ?_; refine g_skip hb1 ?_; refine v_pick' hb1 ?_; refine v_move ?_; refine r_nil ?_; refine th_n ?_; refine w_ret ?_; obtain rfl := inj hF
    exact end_s st (Res.t gA Res.nil) rfl rfl
theorem ct20 (N : Nat) {a0 : (List Int)} {r : (List Int)} (hF : sf20 N a0 = some r) {fl : Nat} {h0 : Tr HBlk} {n0 : Nat} {F0 : PH} (hd : D h0 n0) (hs : F0.sub h0) (hfl : fl ≤ n0) {pa0 : Option (Nat × Nat)} {ca0 : Nat} (ra0 : RowF rI 1 F0 pa0 ca0 a0) : C LW fl 20 [(.slice pa0 (a0).length ca0)] ⟨h0, n0⟩ (KR (lvL rI 1) F0 h0 n0 r) := by
  unfold sf20 at hF
  refine in_mT hd hs hfl lw20 rfl rfl (by rfl) (fun st T hT => ?_)
  have t0 := hT 0 _ rfl
  dsimp only [L20]
  refine w_seq ?_; refine w_reg ?_; refine v_move ?_; refine r_nil ?_; refine th_n ?_; refine w_seq ?_; refine w_reg ?_; refine v_bs (cs := []) st rfl (fun b1 h2 n3 st => ?_); refine v_move ?_
  have st := St.asL st 0 rfl (n := 0) (sz := 1) rfl
  have w4 : LR rI 1 F0 ([] : List Int) [] := LR.nil
  obtain ⟨q5, hF⟩ := ck_some hF
  refine v_apr (m := (([] : List Int) ++ a0).length) st 0 rfl w4 ra0 q5 hfl (by decide) (by first | (simp; done) | (simp; omega)) (fun o5 c5 cs5 h5 n5 st w5 => ?_)
  refine v_move ?_; refine r_nil ?_; refine th_n ?_; refine w_ret ?_; obtain rfl := inj hF
  obtain ⟨F6, le6, st, rf6⟩ := St.freeze st 0 rfl w5 (by decide)
  exact end_r st (Res.t gA Res.nil) ⟨_, _, rfl, rf6⟩
theorem ct53 (N : Nat) {a0_0 : Int} {a0_1 : Int} {a0_2 : (List (Int × Int × Int × Int × Int))} {a1 : Int} {r : Bool} (hF : sf53 N a0_0 a0_1 a0_2 a1 = some r) {fl : Nat} {h0 : Tr HBlk} {n0 : Nat} {F0 : PH} (hd : D h0 n0) (hs : F0.sub h0) {pa0_2 : Option (Nat × Nat)} {ca0_2 : Nat} (ra0_2 : RowF (rP rI (rP rI (rP rI (rP rI rI)))) 5 F0 pa0_2 ca0_2 a0_2) : C LW fl 53 [(.agg [(i64 a0_0), (i64 a0_1), (.slice pa0_2 (a0_2).length ca0_2)]), (i64 a1)] ⟨h0, n0⟩ (KS (.bool r) n0 h0) := by
  unfold sf53 at hF
  refine in_cT hd hs lw53 rfl rfl (by rfl) (fun st T hT => ?_)
  have hfl : n0 ≤ n0 := Nat.le_refl n0
  have t0 := hT 0 _ rfl
  have t1 := hT 1 _ rfl
  dsimp only [L53]
  refine w_seq ?_; refine w_reg ?_; refine v_box st (fun b1 h2 n3 st => ?_); refine v_move ?_; refine r_nil ?_; refine th_n ?_; refine w_seq ?_; refine w_reg ?_; refine v_move ?_; refine v_leq ?_; refine v_move ?_
  rcases Bool.eq_false_or_eq_true (decide ((0 : Int) ≤ a1)) with hb4 | hb4
  · have hF := bif_t hb4 hF; refine g_take hb4 (v_move ?_); refine g_take hb4 (v_fa ?_); refine g_take hb4 (v_ld1 (st.at (i := 0) rfl).2.2 rfl ?_); refine g_take hb4 (v_len ?_); refine g_take hb4 (v_lss ?_); refine v_pick hb4 ?_; refine v_move ?_; refine r_nil ?_; refine th_n ?_; refine w_ret ?_; obtain rfl := inj hF
    exact end_s st (Res.t gA Res.nil) rfl rfl
  · have hF := bif_f hb4 hF; refine g_skip hb4 ?_; refine g_skip hb4 ?_; refine g_skip hb4 ?_; refine g_skip hb4 ?_; refine g_skip hb4 ?_; refine v_pick' hb4 ?_; refine v_move ?_; refine r_nil ?_; refine th_n ?_; refine w_ret ?_; obtain rfl := inj hF
    exact end_s st (Res.t gA Res.nil) rfl rfl
theorem ct76 (N : Nat) {a0_0 : (Nat → Bool)} {a1 : Int} {r : (Nat → Bool)} (hF : sf76 N a0_0 a1 = some r) {fl : Nat} {h0 : Tr HBlk} {n0 : Nat} {F0 : PH} (hd : D h0 n0) (hs : F0.sub h0) : C LW fl 76 [(.agg (eB 8 a0_0)), (i64 a1)] ⟨h0, n0⟩ (KS (.agg (eB 8 r)) n0 h0) := by
  unfold sf76 at hF
  refine in_cT hd hs lw76 rfl rfl (by rfl) (fun st T hT => ?_)
  have hfl : n0 ≤ n0 := Nat.le_refl n0
  have t0 := hT 0 _ rfl
  have t1 := hT 1 _ rfl
  dsimp only [L76]
  refine w_seq ?_; refine w_reg ?_; refine v_box st (fun b1 h2 n3 st => ?_); refine v_alloc st (fun b4 h5 n6 st => ?_)
  have st := st.cells 1 rfl (eB 8 (fun _ => false)) rfl
  refine r_nil ?_; refine th_n ?_; refine w_seq ?_; refine w_reg ?_; refine v_move ?_; obtain ⟨q7, hF⟩ := ck_some hF
  refine v_ixa (j := (Int.toNat a1)) (Int.toNat_of_nonneg q7.1).symm (by omega) ?_
  refine v_st (o := (0 + (Int.toNat a1) * 1)) (v := (.bool true)) (cs' := (eB 8 (ups a0_0 (Int.toNat a1) true))) st 0 rfl (ar_set0B (ix := (Int.toNat a1)) (by omega) (by omega)) rfl rfl hfl (fun h8 st => ?_)
  refine r_nil ?_; refine th_n ?_; refine w_seq ?_; refine w_reg ?_; refine v_ldn (vs := (eB 8 (ups a0_0 (Int.toNat a1) true))) (st.at (i := 0) rfl).2.2 (tk_tail (E := (eB 8 (ups a0_0 (Int.toNat a1) true))) [] [] rfl eB_len rfl) ?_
  refine v_st (v := (.agg (eB 8 (ups a0_0 (Int.toNat a1) true)))) (cs' := (eB 8 (ups a0_0 (Int.toNat a1) true))) st 1 rfl (ov_tail (q := (eB 8 (fun _ => false))) (r := (eB 8 (ups a0_0 (Int.toNat a1) true))) [] rfl (by simp [eI_len, eB_len])) (len_tail (E := (eB 8 (ups a0_0 (Int.toNat a1) true))) [] eB_len (by rfl)) (one_tail (E := (eB 8 (ups a0_0 (Int.toNat a1) true))) [] (by rfl) eB_one) hfl (fun h9 st => ?_)
  refine r_nil ?_; refine th_n ?_; refine w_ret ?_; obtain rfl := inj hF
  exact end_s st (Res.c gA (st.at (i := 1) rfl).2.2 (show takeN _ _ = some (eB 8 (ups a0_0 (Int.toNat a1) true)) from (tk_tail (E := (eB 8 (ups a0_0 (Int.toNat a1) true))) [] [] rfl eB_len rfl)) Res.nil) rfl rfl
theorem ct77 (N : Nat) {a0 : Int} {a1 : (List Int)} {r : Int} (hF : sf77 N a0 a1 = some r) {fl : Nat} {h0 : Tr HBlk} {n0 : Nat} {F0 : PH} (hd : D h0 n0) (hs : F0.sub h0) {pa1 : Option (Nat × Nat)} {ca1 : Nat} (ra1 : RowF rI 1 F0 pa1 ca1 a1) : C LW fl 77 [(i64 a0), (.slice pa1 (a1).length ca1)] ⟨h0, n0⟩ (KS (i64 r) n0 h0) := by
  unfold sf77 at hF
  refine in_cT hd hs lw77 rfl rfl (by rfl) (fun st T hT => ?_)
  have hfl : n0 ≤ n0 := Nat.le_refl n0
  have t0 := hT 0 _ rfl
  have t1 := hT 1 _ rfl
  dsimp only [L77]
  refine w_seq ?_; refine w_reg ?_; refine v_move ?_; refine r_nil ?_; refine th_n ?_; refine w_seq ?_; refine w_seq ?_; refine w_reg ?_; refine v_move ?_; refine v_len ?_; refine v_move ?_; refine r_nil ?_; refine th_n ?_; refine w_block ?_; obtain ⟨y8, hy, hF⟩ := bnd_some hF; refine v_loopD (sf77_L1 a1) (fun x1 T ds2 h nx => ∃ (F2 : PH), ds2 = [] ∧ PH.le F0 F2 ∧ St n0 h0 F0 F2 h nx [] ∧ T.get 0 = some (i64 x1.1) ∧ T.get 7 = some (.slice pa1 (a1).length ca1) ∧ T.get 8 = some (i64 ((a1).length : Int)) ∧ T.get 9 = some (i64 x1.2)) (fun y e a σ => e = .exit 0 ∧ a.nt = 19 ∧ ∃ (F9 : PH), a.defers = [] ∧ PH.le F0 F9 ∧ St n0 h0 F0 F9 σ.h σ.nx [] ∧ a.tmps.get 0 = some (i64 y)) (fun x1 T ds2 hc2 nc2 s hp hF => ?_) N _ y8 _ _ _ _ hy ⟨F0, rfl, (PH.le.refl _), st, gA, gA, gA, gA⟩ (fun e a σ hne hq => ?_)
  · obtain ⟨F2, rfl, le2, st, t0, t7, t8, t9⟩ := hp; unfold sf77_L1 at hF; unfold L77w0; refine w_seq ?_; refine w_reg ?_; refine v_lss ?_; refine r_nil ?_; refine th_n ?_; refine w_seq ?_; refine v_cond (fun hb10 => ?_) (fun hb10 => ?_)
    · have hF := bif_t hb10 hF; refine w_skip ?_; refine th_n ?_; refine w_seq ?_; refine w_block ?_; refine w_seq ?_; refine w_reg ?_; obtain ⟨n11, x11, z11, l11, g11, hF⟩ := ix_some hF; obtain ⟨b11, o11, s11, j11, r11, e11, f11, k11, rfl⟩ := RowF.get ra1 g11; refine v_ixp e11 z11 l11 ?_; refine v_ld1 (st.sub _ _ (le2 _ _ f11)) (take_at (j := 0) k11 rfl) ?_; refine v_move ?_; refine r_nil ?_; refine th_n ?_; refine w_seq ?_; refine w_reg ?_; refine v_move ?_; refine v_move ?_; refine v_gtr ?_; refine r_nil ?_; refine th_n ?_; refine v_cond (fun hb12 => ?_) (fun hb12 => ?_)
      · have hF := bif_t hb12 hF; refine w_reg ?_; refine v_move ?_; refine v_move ?_; refine r_nil ?_; refine ib_n ?_; refine th_n ?_; refine w_reg ?_; obtain ⟨q13, hF⟩ := ck_some hF; refine v_add q13 ?_; refine v_move ?_; refine r_nil ?_; refine thn ⟨_, (inj hF).symm, rfl, ?_⟩; dsimp only
        exact ⟨F2, rfl, le2, st, gA, gA, gA, gA⟩
      · have hF := bif_f hb12 hF; refine w_skip ?_; refine ib_n ?_; refine th_n ?_; refine w_reg ?_; obtain ⟨q14, hF⟩ := ck_some hF; refine v_add q14 ?_; refine v_move ?_; refine r_nil ?_; refine thn ⟨_, (inj hF).symm, rfl, ?_⟩; dsimp only
        exact ⟨F2, rfl, le2, st, gA, gA, gA, gA⟩
    · have hF := bif_f hb10 hF; refine w_exit ?_; refine th_e ?_; refine th_e ?_; refine ⟨_, (inj hF).symm, rfl, rfl, ?_⟩; dsimp only
      exact ⟨F2, rfl, le2, st, gA⟩
  · obtain ⟨N9, T, ds9⟩ := a; obtain ⟨h15, n16⟩ := σ; obtain ⟨rfl, e1, F9, e2, le9, st, t0⟩ := hq
    dsimp only at e1 e2
    subst e1
    subst e2
    dsimp only at st t0
    refine ib_e ?_; refine th_n ?_; refine w_seq ?_; refine w_reg ?_; refine v_move ?_; refine v_move ?_; refine r_nil ?_; refine th_n ?_; refine w_ret ?_; obtain rfl := inj hF
    exact end_s st (Res.t gA Res.nil) rfl rfl
end Go.Hx.V

/- Functions of the program come to that. -/
namespace Go.Hx.V
open Go.Hx
set_option linter.unusedVariables false
set_option maxRecDepth 20000
set_option maxHeartbeats 4000000
attribute [local irreducible] W R C thenH inBlockH Tr.get Tr.set lo ck bnd ix iter
theorem ct74 (N : Nat) {a0_0 : Int} {a0_1 : Int} {a0_2 : (List (Int × Int × Int × Int × Int))} {a1_0 : (Nat → Bool)} {r : (Nat → Int)} (hF : sf74 N a0_0 a0_1 a0_2 a1_0 = some r) {fl : Nat} {h0 : Tr HBlk} {n0 : Nat} {F0 : PH} (hd : D h0 n0) (hs : F0.sub h0) {pa0_2 : Option (Nat × Nat)} {ca0_2 : Nat} (ra0_2 : RowF (rP rI (rP rI (rP rI (rP rI rI)))) 5 F0 pa0_2 ca0_2 a0_2) : C LW fl 74 [(.agg [(i64 a0_0), (i64 a0_1), (.slice pa0_2 (a0_2).length ca0_2)]), (.agg (eB 8 a1_0))] ⟨h0, n0⟩ (KS (.agg (eI .i64 6 r)) n0 h0) := by
  unfold sf74 at hF
  refine in_cT hd hs lw74 rfl rfl (by rfl) (fun st T hT => ?_)
  have hfl : n0 ≤ n0 := Nat.le_refl n0
  have t0 := hT 0 _ rfl
  have t1 := hT 1 _ rfl
  dsimp only [L74]
  refine w_seq ?_; refine w_reg ?_; refine v_box st (fun b1 h2 n3 st => ?_); refine v_box st (fun b4 h5 n6 st => ?_); refine v_alloc st (fun b7 h8 n9 st => ?_)
  have st := st.cells 2 rfl (eI .i64 6 (fun _ => 0)) rfl
  refine r_nil ?_; refine th_n ?_; refine w_seq ?_; refine w_reg ?_; refine v_fa ?_; refine v_ld1 (st.at (i := 0) rfl).2.2 rfl ?_; refine v_build (cs := (eI .i64 6 (ups (fun _ => 0) 0 a0_1))) rfl ?_; refine v_alloc st (fun b10 h11 n12 st => ?_)
  have st := st.cells 3 rfl (eI .i64 6 (fun _ => 0)) rfl
  refine v_st (v := (.agg (eI .i64 6 (ups (fun _ => 0) 0 a0_1)))) (cs' := (eI .i64 6 (ups (fun _ => 0) 0 a0_1))) st 3 rfl (ov_tail (q := (eI .i64 6 (fun _ => 0))) (r := (eI .i64 6 (ups (fun _ => 0) 0 a0_1))) [] rfl (by simp [eI_len, eB_len])) (len_tail (E := (eI .i64 6 (ups (fun _ => 0) 0 a0_1))) [] eI_len (by rfl)) (one_tail (E := (eI .i64 6 (ups (fun _ => 0) 0 a0_1))) [] (by rfl) eI_one) hfl (fun h13 st => ?_)
  refine r_nil ?_; refine th_n ?_; refine w_seq ?_; refine w_seq ?_; refine w_reg ?_; refine v_fa ?_; refine v_ld1 (st.at (i := 0) rfl).2.2 rfl ?_; refine v_len ?_; refine v_move ?_; refine r_nil ?_; refine th_n ?_; refine w_block ?_; obtain ⟨y36, hy, hF⟩ := bnd_some hF; refine v_loopD (sf74_L1 a0_2 a1_0) (fun x14 T ds15 h nx => ∃ (F15 : PH), ds15 = [] ∧ PH.le F0 F15 ∧ St n0 h0 F0 F15 h nx [.bx b1 [(i64 a0_0), (i64 a0_1), (.slice pa0_2 (a0_2).length ca0_2)], .bx b4 (eB 8 a1_0), .bx b7 (eI .i64 6 (fun _ => 0)), .bx b10 (eI .i64 6 x14.2)] ∧ T.get 3 = some (.ptr (some (b4, 0))) ∧ T.get 4 = some (.ptr (some (b7, 0))) ∧ T.get 5 = some (.ptr (some (b10, 0))) ∧ T.get 12 = some (.slice pa0_2 (a0_2).length ca0_2) ∧ T.get 13 = some (i64 ((a0_2).length : Int)) ∧ T.get 14 = some (i64 x14.1)) (fun y e a σ => e = .exit 0 ∧ a.nt = 40 ∧ ∃ (F37 : PH), a.defers = [] ∧ PH.le F0 F37 ∧ St n0 h0 F0 F37 σ.h σ.nx [.bx b1 [(i64 a0_0), (i64 a0_1), (.slice pa0_2 (a0_2).length ca0_2)], .bx b4 (eB 8 a1_0), .bx b7 (eI .i64 6 (fun _ => 0)), .bx b10 (eI .i64 6 y)] ∧ a.tmps.get 4 = some (.ptr (some (b7, 0))) ∧ a.tmps.get 5 = some (.ptr (some (b10, 0)))) (fun x14 T ds15 hc15 nc15 s hp hF => ?_) N _ y36 _ _ _ _ hy ⟨F0, rfl, (PH.le.refl _), st, gA, gA, gA, gA, gA, gA⟩ (fun e a σ hne hq => ?_)
  · obtain ⟨F15, rfl, le15, st, t3, t4, t5, t12, t13, t14⟩ := hp; unfold sf74_L1 at hF; unfold L74w0; refine w_seq ?_; refine w_reg ?_; refine v_lss ?_; refine r_nil ?_; refine th_n ?_; refine w_seq ?_; refine v_cond (fun hb38 => ?_) (fun hb38 => ?_)
    · have hF := bif_t hb38 hF; refine w_skip ?_; refine th_n ?_; refine w_seq ?_; refine w_block ?_; refine w_seq ?_; refine w_reg ?_; refine v_move ?_; obtain ⟨n39, x39, z39, l39, g39, hF⟩ := ix_some hF; obtain ⟨b39, o39, s39, j39, r39, e39, f39, k39, ⟨_, _, rfl, rfl, ⟨_, _, rfl, rfl, ⟨_, _, rfl, rfl, ⟨_, _, rfl, rfl, rfl⟩⟩⟩⟩⟩ := RowF.get ra0_2 g39; refine v_ixp e39 z39 l39 ?_; refine v_ldn (st.sub _ _ (le15 _ _ f39)) k39 ?_; refine v_alloc st (fun b40 h41 n42 st => ?_); refine v_move ?_; refine v_st (cs' := [(i64 x39.1), (i64 x39.2.1), (i64 x39.2.2.1), (i64 x39.2.2.2.1), (i64 x39.2.2.2.2)]) st 4 rfl rfl rfl rfl hfl (fun h43 st => ?_); refine r_nil ?_; refine th_n ?_; refine w_seq ?_; refine w_reg ?_
      refine v_move ?_; obtain ⟨q44, hF⟩ := ck_some hF
      refine v_ixa (j := (Int.toNat x14.1)) (Int.toNat_of_nonneg q44.1).symm (by omega) ?_
      refine v_ld1 (o := (0 + (Int.toNat x14.1) * 1)) (st.at (i := 1) rfl).2.2 (ar_get0B (ix := (Int.toNat x14.1)) (by omega) (by omega)) ?_
      refine r_nil ?_; refine th_n ?_; refine v_cond (fun hb45 => ?_) (fun hb45 => ?_)
      · have hF := bif_t hb45 hF; refine w_seq ?_; refine w_drawV (Nat.le_trans hfl st.ext.le) (fun dw => ?_); refine y_end st.d dw rfl (fun h46 ex vs => ?_)
        have st := st.ext1 ex
        refine v_fa ?_; refine v_ld1 (st.at (i := 4) rfl).2.2 rfl ?_; obtain ⟨q47, hF⟩ := ck_some hF
        refine v_ixa (j := (Int.toNat x39.1)) (Int.toNat_of_nonneg q47.1).symm (by omega) ?_
        refine v_ld1 (o := (0 + (Int.toNat x39.1) * 1)) (st.at (i := 3) rfl).2.2 (ar_get0 (ix := (Int.toNat x39.1)) (by omega) (by omega)) ?_
        refine v_fa ?_; refine v_ld1 (st.at (i := 4) rfl).2.2 rfl ?_; obtain ⟨q48, hF⟩ := ck_some hF; refine v_sub q48 ?_; obtain ⟨q49, hF⟩ := ck_some hF
        refine v_ixa (j := (Int.toNat x39.1)) (Int.toNat_of_nonneg q49.1).symm (by omega) ?_
        refine v_st (o := (0 + (Int.toNat x39.1) * 1)) (v := (i64 ((x14.2 (Int.toNat x39.1)) - x39.2.2.1))) (cs' := (eI .i64 6 (ups x14.2 (Int.toNat x39.1) ((x14.2 (Int.toNat x39.1)) - x39.2.2.1)))) st 3 rfl (ar_set0 (ix := (Int.toNat x39.1)) (by omega) (by omega)) rfl rfl hfl (fun h50 st => ?_)
        refine r_nil ?_; refine th_n ?_; refine w_drawV (Nat.le_trans hfl st.ext.le) (fun dw => ?_); refine y_end st.d dw rfl (fun h51 ex vs => ?_)
        have st := st.ext1 ex
        refine v_fa ?_; refine v_ld1 (st.at (i := 4) rfl).2.2 rfl ?_; obtain ⟨q52, hF⟩ := ck_some hF
        refine v_ixa (j := (Int.toNat x39.2.1)) (Int.toNat_of_nonneg q52.1).symm (by omega) ?_
        refine v_ld1 (o := (0 + (Int.toNat x39.2.1) * 1)) (st.at (i := 3) rfl).2.2 (ar_get0 (ix := (Int.toNat x39.2.1)) (by omega) (by omega)) ?_
        refine v_fa ?_; refine v_ld1 (st.at (i := 4) rfl).2.2 rfl ?_; obtain ⟨q53, hF⟩ := ck_some hF; refine v_add q53 ?_; obtain ⟨q54, hF⟩ := ck_some hF
        refine v_ixa (j := (Int.toNat x39.2.1)) (Int.toNat_of_nonneg q54.1).symm (by omega) ?_
        refine v_st (o := (0 + (Int.toNat x39.2.1) * 1)) (v := (i64 (((ups x14.2 (Int.toNat x39.1) ((x14.2 (Int.toNat x39.1)) - x39.2.2.1)) (Int.toNat x39.2.1)) + x39.2.2.1))) (cs' := (eI .i64 6 (ups (ups x14.2 (Int.toNat x39.1) ((x14.2 (Int.toNat x39.1)) - x39.2.2.1)) (Int.toNat x39.2.1) (((ups x14.2 (Int.toNat x39.1) ((x14.2 (Int.toNat x39.1)) - x39.2.2.1)) (Int.toNat x39.2.1)) + x39.2.2.1)))) st 3 rfl (ar_set0 (ix := (Int.toNat x39.2.1)) (by omega) (by omega)) rfl rfl hfl (fun h55 st => ?_)
        refine r_nil ?_; refine ib_n ?_; refine th_n ?_; refine w_reg ?_; obtain ⟨q56, hF⟩ := ck_some hF; refine v_add q56 ?_; refine v_move ?_; refine r_nil ?_; refine thn ⟨_, (inj hF).symm, rfl, ?_⟩; dsimp only
        exact ⟨F15, rfl, le15, (st.drop (by first | exact List.Sublist.refl _ | (repeat first | exact List.nil_sublist _ | refine List.Sublist.cons_cons _ ?_ | refine List.Sublist.cons _ ?_))), gA, gA, gA, gA, gA, gA⟩
      · have hF := bif_f hb45 hF; refine w_skip ?_; refine ib_n ?_; refine th_n ?_; refine w_reg ?_; obtain ⟨q57, hF⟩ := ck_some hF; refine v_add q57 ?_; refine v_move ?_; refine r_nil ?_; refine thn ⟨_, (inj hF).symm, rfl, ?_⟩; dsimp only
        exact ⟨F15, rfl, le15, (st.drop (by first | exact List.Sublist.refl _ | (repeat first | exact List.nil_sublist _ | refine List.Sublist.cons_cons _ ?_ | refine List.Sublist.cons _ ?_))), gA, gA, gA, gA, gA, gA⟩
    · have hF := bif_f hb38 hF; refine w_exit ?_; refine th_e ?_; refine th_e ?_; refine ⟨_, (inj hF).symm, rfl, rfl, ?_⟩; dsimp only
      exact ⟨F15, rfl, le15, st, gA, gA⟩
  · obtain ⟨N9, T, ds37⟩ := a; obtain ⟨h58, n59⟩ := σ; obtain ⟨rfl, e1, F37, e2, le37, st, t4, t5⟩ := hq
    dsimp only at e1 e2
    subst e1
    subst e2
    dsimp only at st t4 t5
    refine ib_e ?_; refine th_n ?_; refine w_seq ?_; refine w_reg ?_; refine v_ldn (vs := (eI .i64 6 y36)) (st.at (i := 3) rfl).2.2 (tk_tail (E := (eI .i64 6 y36)) [] [] rfl eI_len rfl) ?_
    refine v_st (v := (.agg (eI .i64 6 y36))) (cs' := (eI .i64 6 y36)) st 2 rfl (ov_tail (q := (eI .i64 6 (fun _ => 0))) (r := (eI .i64 6 y36)) [] rfl (by simp [eI_len, eB_len])) (len_tail (E := (eI .i64 6 y36)) [] eI_len (by rfl)) (one_tail (E := (eI .i64 6 y36)) [] (by rfl) eI_one) hfl (fun h60 st => ?_)
    refine r_nil ?_; refine th_n ?_; refine w_ret ?_; obtain rfl := inj hF
    exact end_s st (Res.c gA (st.at (i := 2) rfl).2.2 (show takeN _ _ = some (eI .i64 6 y36) from (tk_tail (E := (eI .i64 6 y36)) [] [] rfl eI_len rfl)) Res.nil) rfl rfl
theorem ct31 (N : Nat) {a0 : Int} {a1 : Int} {a2 : Int} {r : Bool} (hF : sf31 N a0 a1 a2 = some r) {fl : Nat} {h0 : Tr HBlk} {n0 : Nat} {F0 : PH} (hd : D h0 n0) (hs : F0.sub h0) : C LW fl 31 [(i64 a0), (i64 a1), (i64 a2)] ⟨h0, n0⟩ (KS (.bool r) n0 h0) := by
  unfold sf31 at hF
  refine in_cT hd hs lw31 rfl rfl (by rfl) (fun st T hT => ?_)
  have hfl : n0 ≤ n0 := Nat.le_refl n0
  have t0 := hT 0 _ rfl
  have t1 := hT 1 _ rfl
  have t2 := hT 2 _ rfl
  dsimp only [L31]
  refine w_seq ?_; refine w_reg ?_; refine v_move ?_; refine r_nil ?_; refine th_n ?_; refine w_seq ?_; refine w_reg ?_; refine v_move ?_; refine v_move ?_; refine v_geq ?_; refine v_move ?_
  rcases Bool.eq_false_or_eq_true (decide (a1 ≤ a0)) with hb1 | hb1
  · have hF := bif_t hb1 hF; refine g_take hb1 (v_move ?_); refine g_take hb1 (v_move ?_); refine g_take hb1 (v_leq ?_); refine v_pick hb1 ?_; refine v_move ?_; refine r_nil ?_; refine th_n ?_; refine w_ret ?_; obtain rfl := inj hF
    exact end_s st (Res.t gA Res.nil) rfl rfl
  · have hF := bif_f hb1 hF; refine g_skip hb1 ?_; refine g_skip hb1 ?_; refine g_skip hb1 ?_; refine v_pick' hb1 ?_; refine v_move ?_; refine r_nil ?_; refine th_n ?_; refine w_ret ?_; obtain rfl := inj hF
    exact end_s st (Res.t gA Res.nil) rfl rfl
theorem ct40 (N : Nat) {a0 : (List Int)} {a1 : Int} {r : Bool} (hF : sf40 N a0 a1 = some r) {fl : Nat} {h0 : Tr HBlk} {n0 : Nat} {F0 : PH} (hd : D h0 n0) (hs : F0.sub h0) {pa0 : Option (Nat × Nat)} {ca0 : Nat} (ra0 : RowF rI 1 F0 pa0 ca0 a0) : C LW fl 40 [(.slice pa0 (a0).length ca0), (i64 a1)] ⟨h0, n0⟩ (KS (.bool r) n0 h0) := by
  unfold sf40 at hF
  refine in_cT hd hs lw40 rfl rfl (by rfl) (fun st T hT => ?_)
  have hfl : n0 ≤ n0 := Nat.le_refl n0
  have t0 := hT 0 _ rfl
  have t1 := hT 1 _ rfl
  dsimp only [L40]
  refine w_seq ?_; refine w_reg ?_; refine v_move ?_; refine r_nil ?_; refine th_n ?_; refine w_seq ?_; refine w_seq ?_; refine w_reg ?_; refine v_move ?_; refine r_nil ?_; refine th_n ?_; refine w_block ?_; obtain ⟨y7, hy, hF⟩ := bnd_some hF; refine v_loopD (sf40_L1 a0 a1) (fun x1 T ds2 h nx => ∃ (F2 : PH), ds2 = [] ∧ PH.le F0 F2 ∧ St n0 h0 F0 F2 h nx [] ∧ T.get 0 = some (.slice pa0 (a0).length ca0) ∧ T.get 1 = some (i64 a1) ∧ T.get 5 = some (i64 x1)) (fun y e a σ => (∃ u, y = (.inl u) ∧ e = .ret ∧ a.nt = 18 ∧ ∃ (F9 : PH), a.defers = [] ∧ PH.le F0 F9 ∧ St n0 h0 F0 F9 σ.h σ.nx [] ∧ a.tmps.get 4 = some (.bool u)) ∨ (∃ u, y = (.inr u) ∧ e = .exit 0 ∧ a.nt = 18 ∧ ∃ (F11 : PH), a.defers = [] ∧ PH.le F0 F11 ∧ St n0 h0 F0 F11 σ.h σ.nx [])) (fun x1 T ds2 hc2 nc2 s hp hF => ?_) N _ y7 _ _ _ _ hy ⟨F0, rfl, (PH.le.refl _), st, gA, gA, gA⟩ (fun e a σ hne hq => ?_)
  · obtain ⟨F2, rfl, le2, st, t0, t1, t5⟩ := hp; unfold sf40_L1 at hF; unfold L40w0; refine w_seq ?_; refine w_seq ?_; refine w_reg ?_; refine v_move ?_; refine v_move ?_; refine v_len ?_; refine v_lss ?_; refine r_nil ?_; refine th_n ?_; refine v_cond (fun hb12 => ?_) (fun hb12 => ?_)
    · have hF := bif_t hb12 hF; refine w_skip ?_; refine th_n ?_; refine w_seq ?_; refine w_block ?_; refine w_seq ?_; refine w_reg ?_; refine v_move ?_; refine v_move ?_; obtain ⟨n13, x13, z13, l13, g13, hF⟩ := ix_some hF; obtain ⟨b13, o13, s13, j13, r13, e13, f13, k13, rfl⟩ := RowF.get ra0 g13; refine v_ixp e13 z13 l13 ?_; refine v_ld1 (st.sub _ _ (le2 _ _ f13)) (take_at (j := 0) k13 rfl) ?_; refine v_move ?_; refine v_eqi ?_; refine r_nil ?_; refine th_n ?_; refine v_cond (fun hb14 => ?_) (fun hb14 => ?_)
      · have hF := bif_t hb14 hF; refine w_seq ?_; refine w_reg ?_; refine v_move ?_; refine r_nil ?_; refine th_n ?_; refine w_ret ?_; refine ib_r ?_; refine th_r ?_; refine th_r ?_; refine ⟨_, (inj hF).symm, .inl ⟨_, rfl, rfl, rfl, ?_⟩⟩; dsimp only
        exact ⟨F2, rfl, le2, st, gA⟩
      · have hF := bif_f hb14 hF; refine w_skip ?_; refine ib_n ?_; refine th_n ?_; refine w_reg ?_; refine v_move ?_; obtain ⟨q15, hF⟩ := ck_some hF; refine v_add q15 ?_; refine v_move ?_; refine r_nil ?_; refine thn ⟨_, (inj hF).symm, rfl, ?_⟩; dsimp only
        exact ⟨F2, rfl, le2, st, gA, gA, gA⟩
    · have hF := bif_f hb12 hF; refine w_exit ?_; refine th_e ?_; refine th_e ?_; refine ⟨_, (inj hF).symm, .inr (⟨_, rfl, rfl, rfl, ?_⟩)⟩; dsimp only
      exact ⟨F2, rfl, le2, st⟩
  · rcases hq with hq | hq
    · obtain ⟨N9, T, ds9⟩ := a; obtain ⟨h16, n17⟩ := σ; obtain ⟨w8, rfl, rfl, e1, F9, e2, le9, st, t4⟩ := hq
      dsimp only at e1 e2
      subst e1
      subst e2
      dsimp only at st t4
      have hF := sel_l hF; refine ib_r ?_; refine th_r ?_; obtain rfl := inj hF
      exact end_s st (Res.t gA Res.nil) rfl rfl
    · obtain ⟨N9, T, ds11⟩ := a; obtain ⟨h18, n19⟩ := σ; obtain ⟨w10, rfl, rfl, e1, F11, e2, le11, st⟩ := hq
      dsimp only at e1 e2
      subst e1
      subst e2
      dsimp only at st
      have hF := sel_r hF; refine ib_e ?_; refine th_n ?_; refine w_seq ?_; refine w_reg ?_; refine v_move ?_; refine r_nil ?_; refine th_n ?_; refine w_ret ?_; obtain rfl := inj hF
      exact end_s st (Res.t gA Res.nil) rfl rfl
theorem ct60 (N : Nat) {a0_0 : Int} {a0_1 : Int} {a0_2 : (List (Int × Int × Int × Int × Int))} {a1 : (List Int)} {a2 : Int} {r : Int} (hF : sf60 N a0_0 a0_1 a0_2 a1 a2 = some r) {fl : Nat} {h0 : Tr HBlk} {n0 : Nat} {F0 : PH} (hd : D h0 n0) (hs : F0.sub h0) {pa0_2 : Option (Nat × Nat)} {ca0_2 : Nat} {pa1 : Option (Nat × Nat)} {ca1 : Nat} (ra0_2 : RowF (rP rI (rP rI (rP rI (rP rI rI)))) 5 F0 pa0_2 ca0_2 a0_2) (ra1 : RowF rI 1 F0 pa1 ca1 a1) : C LW fl 60 [(.agg [(i64 a0_0), (i64 a0_1), (.slice pa0_2 (a0_2).length ca0_2)]), (.slice pa1 (a1).length ca1), (i64 a2)] ⟨h0, n0⟩ (KS (i64 r) n0 h0) := by
  unfold sf60 at hF
  refine in_cT hd hs lw60 rfl rfl (by rfl) (fun st T hT => ?_)
  have hfl : n0 ≤ n0 := Nat.le_refl n0
  have t0 := hT 0 _ rfl
  have t1 := hT 1 _ rfl
  have t2 := hT 2 _ rfl
  dsimp only [L60]
  refine w_seq ?_; refine w_reg ?_; refine v_box st (fun b1 h2 n3 st => ?_); refine v_move ?_; refine r_nil ?_; refine th_n ?_; refine w_seq ?_; refine w_reg ?_; refine v_move ?_; refine r_nil ?_; refine th_n ?_; obtain ⟨y5, hA6, hF⟩ := bnd_some hF; refine w_cutD (fun T ds8 h nx => ∃ (F8 : PH), ds8 = [] ∧ PH.le F0 F8 ∧ St n0 h0 F0 F8 h nx [.bx b1 [(i64 a0_0), (i64 a0_1), (.slice pa0_2 (a0_2).length ca0_2)]] ∧ T.get 1 = some (.slice pa1 (a1).length ca1) ∧ T.get 2 = some (i64 a2) ∧ T.get 3 = some (.ptr (some (b1, 0))) ∧ T.get 7 = some (i64 y5)) ?_ (fun T ds8 hc8 nc8 hp => ?_)
  · have hK7 := hF
    have hF := hA6; refine w_seq ?_; refine w_reg ?_; refine v_move ?_; refine v_eqi ?_; refine r_nil ?_; refine th_n ?_; refine v_cond (fun hb9 => ?_) (fun hb9 => ?_)
    · have hF := bif_t hb9 hF; refine w_reg ?_; refine v_fa ?_; refine v_ld1 (st.at (i := 0) rfl).2.2 rfl ?_; refine v_move ?_; refine r_nil ?_; obtain rfl := inj hF; refine thn ⟨rfl, ?_⟩; dsimp only
      exact ⟨F0, rfl, (PH.le.refl _), st, gA, gA, gA, gA⟩
    · have hF := bif_f hb9 hF; refine w_skip ?_; obtain rfl := inj hF; refine thn ⟨rfl, ?_⟩; dsimp only
      exact ⟨F0, rfl, (PH.le.refl _), st, gA, gA, gA, gA⟩
  · obtain ⟨F8, rfl, le8, st, t1, t2, t3, t7⟩ := hp; refine w_seq ?_; refine w_seq ?_; refine w_reg ?_; refine v_move ?_; refine r_nil ?_; refine th_n ?_; refine w_block ?_; obtain ⟨y32, hy, hF⟩ := bnd_some hF; refine v_loopD (sf60_L1 a0_2 a1 a2) (fun x10 T ds11 h nx => ∃ (F11 : PH), ds11 = [] ∧ PH.le F8 F11 ∧ St n0 h0 F0 F11 h nx [.bx b1 [(i64 a0_0), (i64 a0_1), (.slice pa0_2 (a0_2).length ca0_2)]] ∧ T.get 1 = some (.slice pa1 (a1).length ca1) ∧ T.get 2 = some (i64 a2) ∧ T.get 3 = some (.ptr (some (b1, 0))) ∧ T.get 7 = some (i64 x10.1) ∧ T.get 8 = some (i64 x10.2)) (fun y e a σ => e = .exit 0 ∧ a.nt = 45 ∧ ∃ (F33 : PH), a.defers = [] ∧ PH.le F8 F33 ∧ St n0 h0 F0 F33 σ.h σ.nx [.bx b1 [(i64 a0_0), (i64 a0_1), (.slice pa0_2 (a0_2).length ca0_2)]] ∧ a.tmps.get 7 = some (i64 y)) (fun x10 T ds11 hc11 nc11 s hp hF => ?_) N _ y32 _ _ _ _ hy ⟨F8, rfl, (PH.le.refl _), st, gA, gA, gA, gA, gA⟩ (fun e a σ hne hq => ?_)
    · obtain ⟨F11, rfl, le11, st, t1, t2, t3, t7, t8⟩ := hp
      have le12 := PH.le.trans le8 le11
      unfold sf60_L1 at hF; unfold L60w0; refine w_seq ?_; refine w_seq ?_; refine w_reg ?_; refine v_move ?_; refine v_move ?_; refine v_len ?_; refine v_lss ?_; refine r_nil ?_; refine th_n ?_; refine v_cond (fun hb34 => ?_) (fun hb34 => ?_)
      · have hF := bif_t hb34 hF; refine w_skip ?_; refine th_n ?_; refine w_seq ?_; refine w_block ?_; refine w_seq ?_; refine w_drawV (Nat.le_trans hfl st.ext.le) (fun dw => ?_); refine y_pure st.d dw (fun hm vw => v_fa pr_nil) ?_; refine y_pure st.d dw (fun hm vw => v_ld1 (vw.bx (st.at (i := 0) rfl)) rfl pr_nil) ?_; refine y_pure st.d dw (fun hm vw => v_move pr_nil) ?_; refine y_pure st.d dw (fun hm vw => v_move pr_nil) ?_; obtain ⟨n35, x35, z35, l35, g35, hF⟩ := ix_some hF; obtain ⟨b35, o35, s35, j35, r35, e35, f35, k35, rfl⟩ := RowF.get ra1 g35; refine y_pure st.d dw (fun hm vw => v_ixp e35 z35 l35 pr_nil) ?_; refine y_pure st.d dw (fun hm vw => v_ld1 (vw.fz st (le12 _ _ f35)) (take_at (j := 0) k35 rfl) pr_nil) ?_
        obtain ⟨n36, x36, z36, l36, g36, hF⟩ := ix_some hF; obtain ⟨b36, o36, s36, j36, r36, e36, f36, k36, ⟨_, _, rfl, rfl, ⟨_, _, rfl, rfl, ⟨_, _, rfl, rfl, ⟨_, _, rfl, rfl, rfl⟩⟩⟩⟩⟩ := RowF.get ra0_2 g36; refine y_pure st.d dw (fun hm vw => v_ixp e36 z36 l36 pr_nil) ?_; refine y_pure st.d dw (fun hm vw => v_ldn (vw.fz st (le12 _ _ f36)) k36 pr_nil) ?_; refine y_lay st.d dw (fun hm vw => u_alloc pr_nil) (fun done dw => ?_); refine y_end st.d dw rfl (fun h37 ex vs => ?_)
        have st := St.laid st ex (Lay.cons (b := nc11) (cs := [(i64 (0 : Int)), (i64 (0 : Int)), (i64 (0 : Int)), (i64 (0 : Int)), (i64 (0 : Int))]) (by have := dw.le; omega) (vs _ (List.mem_cons_self ..) _ _ (if_pos rfl)) (Lay.nil (by have := dw.le; omega)))
        refine v_st (cs' := [(i64 x36.1), (i64 x36.2.1), (i64 x36.2.2.1), (i64 x36.2.2.2.1), (i64 x36.2.2.2.2)]) st 1 rfl rfl rfl rfl hfl (fun h38 st => ?_); refine r_nil ?_; refine th_n ?_; obtain ⟨y41, hA42, hF⟩ := bnd_some hF; refine w_cutD (fun T ds44 h nx => ∃ (F44 : PH), ds44 = [] ∧ PH.le F11 F44 ∧ St n0 h0 F0 F44 h nx [.bx b1 [(i64 a0_0), (i64 a0_1), (.slice pa0_2 (a0_2).length ca0_2)], .bx nc11 [(i64 x36.1), (i64 x36.2.1), (i64 x36.2.2.1), (i64 x36.2.2.2.1), (i64 x36.2.2.2.2)]] ∧ T.get 1 = some (.slice pa1 (a1).length ca1) ∧ T.get 2 = some (i64 a2) ∧ T.get 3 = some (.ptr (some (b1, 0))) ∧ T.get 7 = some (i64 y41) ∧ T.get 8 = some (i64 x10.2) ∧ T.get 9 = some (.ptr (some (nc11, 0)))) ?_ (fun T ds44 hc44 nc44 hp => ?_)
        · have hK43 := hF
          have hF := hA42; refine w_seq ?_; refine w_reg ?_; refine v_fa ?_; refine v_ld1 (st.at (i := 1) rfl).2.2 rfl ?_; refine v_move ?_; refine v_eqi ?_; refine r_nil ?_; refine th_n ?_; refine v_cond (fun hb45 => ?_) (fun hb45 => ?_)
          · have hF := bif_t hb45 hF; refine w_reg ?_; refine v_move ?_; refine v_fa ?_; refine v_ld1 (st.at (i := 1) rfl).2.2 rfl ?_; obtain ⟨q46, hF⟩ := ck_some hF; refine v_add q46 ?_; refine v_move ?_; refine r_nil ?_; obtain rfl := inj hF; refine thn ⟨rfl, ?_⟩; dsimp only
            exact ⟨F11, rfl, (PH.le.refl _), st, gA, gA, gA, gA, gA, gA⟩
          · have hF := bif_f hb45 hF; refine w_skip ?_; obtain rfl := inj hF; refine thn ⟨rfl, ?_⟩; dsimp only
            exact ⟨F11, rfl, (PH.le.refl _), st, gA, gA, gA, gA, gA, gA⟩
        · obtain ⟨F44, rfl, le44, st, t1, t2, t3, t7, t8, t9⟩ := hp
          have le47 := PH.le.trans le12 le44
          have le48 := PH.le.trans le11 le44
          refine w_seq ?_; refine w_reg ?_; refine v_fa ?_; refine v_ld1 (st.at (i := 1) rfl).2.2 rfl ?_; refine v_move ?_; refine v_eqi ?_; refine r_nil ?_; refine th_n ?_; refine v_cond (fun hb49 => ?_) (fun hb49 => ?_)
          · have hF := bif_t hb49 hF; refine w_reg ?_; refine v_move ?_; refine v_fa ?_; refine v_ld1 (st.at (i := 1) rfl).2.2 rfl ?_; obtain ⟨q50, hF⟩ := ck_some hF; refine v_sub q50 ?_; refine v_move ?_; refine r_nil ?_; refine ib_n ?_; refine th_n ?_; refine w_reg ?_; refine v_move ?_; obtain ⟨q51, hF⟩ := ck_some hF; refine v_add q51 ?_; refine v_move ?_; refine r_nil ?_; refine thn ⟨_, (inj hF).symm, rfl, ?_⟩; dsimp only
            exact ⟨F44, rfl, le48, (st.drop (by first | exact List.Sublist.refl _ | (repeat first | exact List.nil_sublist _ | refine List.Sublist.cons_cons _ ?_ | refine List.Sublist.cons _ ?_))), gA, gA, gA, gA, gA⟩
          · have hF := bif_f hb49 hF; refine w_skip ?_; refine ib_n ?_; refine th_n ?_; refine w_reg ?_; refine v_move ?_; obtain ⟨q52, hF⟩ := ck_some hF; refine v_add q52 ?_; refine v_move ?_; refine r_nil ?_; refine thn ⟨_, (inj hF).symm, rfl, ?_⟩; dsimp only
            exact ⟨F44, rfl, le48, (st.drop (by first | exact List.Sublist.refl _ | (repeat first | exact List.nil_sublist _ | refine List.Sublist.cons_cons _ ?_ | refine List.Sublist.cons _ ?_))), gA, gA, gA, gA, gA⟩
      · have hF := bif_f hb34 hF; refine w_exit ?_; refine th_e ?_; refine th_e ?_; refine ⟨_, (inj hF).symm, rfl, rfl, ?_⟩; dsimp only
        exact ⟨F11, rfl, le11, st, gA⟩
    · obtain ⟨N9, T, ds33⟩ := a; obtain ⟨h54, n55⟩ := σ; obtain ⟨rfl, e1, F33, e2, le33, st, t7⟩ := hq
      dsimp only at e1 e2
      subst e1
      subst e2
      dsimp only at st t7
      have le53 := PH.le.trans le8 le33
      refine ib_e ?_; refine th_n ?_; refine w_seq ?_; refine w_reg ?_; refine v_move ?_; refine v_move ?_; refine r_nil ?_; refine th_n ?_; refine w_ret ?_; obtain rfl := inj hF
      exact end_s st (Res.t gA Res.nil) rfl rfl
theorem ct89 (N : Nat) {a0_0 : Int} {a0_1 : Int} {r : Int} (hF : sf89 N a0_0 a0_1 = some r) {fl : Nat} {h0 : Tr HBlk} {n0 : Nat} {F0 : PH} (hd : D h0 n0) (hs : F0.sub h0) : C LW fl 89 [(.agg [(i64 a0_0), (i64 a0_1)])] ⟨h0, n0⟩ (KS (i64 r) n0 h0) := by
  unfold sf89 at hF
  refine in_cT hd hs lw89 rfl rfl (by rfl) (fun st T hT => ?_)
  have hfl : n0 ≤ n0 := Nat.le_refl n0
  have t0 := hT 0 _ rfl
  dsimp only [L89]
  refine w_seq ?_; refine w_reg ?_; refine v_box st (fun b1 h2 n3 st => ?_); refine v_move ?_; refine r_nil ?_; refine th_n ?_; refine w_seq ?_; refine w_reg ?_; refine v_fa ?_; refine v_ld1 (st.at (i := 0) rfl).2.2 rfl ?_; refine v_move ?_; refine r_nil ?_; refine th_n ?_; refine w_ret ?_; obtain rfl := inj hF
  exact end_s st (Res.t gA Res.nil) rfl rfl
end Go.Hx.V

/- Functions of the program come to that. -/
namespace Go.Hx.V
open Go.Hx
set_option linter.unusedVariables false
set_option maxRecDepth 20000
set_option maxHeartbeats 4000000
attribute [local irreducible] W R C thenH inBlockH Tr.get Tr.set lo ck bnd ix iter
theorem ct75 (N : Nat) {a0_0 : Int} {a0_1 : Int} {r : Bool} (hF : sf75 N a0_0 a0_1 = some r) {fl : Nat} {h0 : Tr HBlk} {n0 : Nat} {F0 : PH} (hd : D h0 n0) (hs : F0.sub h0) : C LW fl 75 [(.agg [(i64 a0_0), (i64 a0_1)])] ⟨h0, n0⟩ (KS (.bool r) n0 h0) := by
  unfold sf75 at hF
  refine in_cT hd hs lw75 rfl rfl (by rfl) (fun st T hT => ?_)
  have hfl : n0 ≤ n0 := Nat.le_refl n0
  have t0 := hT 0 _ rfl
  dsimp only [L75]
  refine w_seq ?_; refine w_reg ?_; refine v_box st (fun b1 h2 n3 st => ?_); refine v_move ?_; refine r_nil ?_; refine th_n ?_; refine w_seq ?_; refine w_reg ?_; refine v_fa ?_; refine v_ld1 (st.at (i := 0) rfl).2.2 rfl ?_; obtain ⟨v4, e5, hF⟩ := bnd_some hF; refine v_call st (ct57 N e5 st.d st.sub ) (fun n6 st => ?_); refine v_move ?_
  rcases Bool.eq_false_or_eq_true v4 with hb7 | hb7
  · have hF := bif_t hb7 hF; refine g_take hb7 (v_fa ?_); refine g_take hb7 (v_ld1 (st.at (i := 0) rfl).2.2 rfl ?_); obtain ⟨v8, e9, hF⟩ := bnd_some hF; refine g_take hb7 (v_call st (ct57 N e9 st.d st.sub ) (fun n10 st => ?_)); refine v_pick hb7 ?_; refine v_move ?_
    rcases Bool.eq_false_or_eq_true v8 with hb11 | hb11
    · have hF := bif_t hb11 hF; refine g_take hb11 (v_fa ?_); refine g_take hb11 (v_ld1 (st.at (i := 0) rfl).2.2 rfl ?_); refine g_take hb11 (v_fa ?_); refine g_take hb11 (v_ld1 (st.at (i := 0) rfl).2.2 rfl ?_); refine g_take hb11 (v_leq ?_); refine v_pick hb11 ?_; refine v_move ?_; refine r_nil ?_; refine th_n ?_; refine w_ret ?_; obtain rfl := inj hF
      exact end_s st (Res.t gA Res.nil) rfl rfl
    · have hF := bif_f hb11 hF; refine g_skip hb11 ?_; refine g_skip hb11 ?_; refine g_skip hb11 ?_; refine g_skip hb11 ?_; refine g_skip hb11 ?_; refine v_pick' hb11 ?_; refine v_move ?_; refine r_nil ?_; refine th_n ?_; refine w_ret ?_; obtain rfl := inj hF
      exact end_s st (Res.t gA Res.nil) rfl rfl
  · have hF := bif_f hb7 hF; refine g_skip hb7 ?_; refine g_skip hb7 ?_; refine g_skip hb7 ?_; refine v_pick' hb7 ?_; refine v_move ?_; refine g_skip rfl ?_; refine g_skip rfl ?_; refine g_skip rfl ?_; refine g_skip rfl ?_; refine g_skip rfl ?_; refine v_pick' rfl ?_; refine v_move ?_; refine r_nil ?_; refine th_n ?_; refine w_ret ?_; obtain rfl := inj hF
    exact end_s st (Res.t gA Res.nil) rfl rfl
theorem ct63 (N : Nat) {a0 : (List Int)} {a1f0_0 : Int} {a1f0_1 : Int} {a1f0_2 : (List (Int × Int × Int × Int × Int))} {r : Bool} (hF : sf63 N a0 a1f0_0 a1f0_1 a1f0_2 = some r) {fl : Nat} {h0 : Tr HBlk} {n0 : Nat} {F0 : PH} (hd : D h0 n0) (hs : F0.sub h0) {pa0 : Option (Nat × Nat)} {ca0 : Nat} {pa1f0_2 : Option (Nat × Nat)} {ca1f0_2 : Nat} (ra0 : RowF rI 1 F0 pa0 ca0 a0) (ra1f0_2 : RowF (rP rI (rP rI (rP rI (rP rI rI)))) 5 F0 pa1f0_2 ca1f0_2 a1f0_2) : C LW fl 63 [(.slice pa0 (a0).length ca0), (.func 53 [(.agg [(i64 a1f0_0), (i64 a1f0_1), (.slice pa1f0_2 (a1f0_2).length ca1f0_2)])] [])] ⟨h0, n0⟩ (KS (.bool r) n0 h0) := by
  unfold sf63 at hF
  refine in_cT hd hs lw63 rfl rfl (by rfl) (fun st T hT => ?_)
  have hfl : n0 ≤ n0 := Nat.le_refl n0
  have t0 := hT 0 _ rfl
  have t1 := hT 1 _ rfl
  dsimp only [L63]
  refine w_seq ?_; refine w_reg ?_; refine v_move ?_; refine r_nil ?_; refine th_n ?_; refine w_seq ?_; refine w_seq ?_; refine w_reg ?_; refine v_move ?_; refine v_len ?_; refine v_move ?_; refine r_nil ?_; refine th_n ?_; refine w_block ?_; obtain ⟨y10, hy, hF⟩ := bnd_some hF; refine v_loopD (sf63_L1 N a0 a1f0_0 a1f0_1 a1f0_2) (fun x1 T ds2 h nx => ∃ (F2 : PH), ds2 = [] ∧ PH.le F0 F2 ∧ St n0 h0 F0 F2 h nx [] ∧ T.get 1 = some (.func 53 [(.agg [(i64 a1f0_0), (i64 a1f0_1), (.slice pa1f0_2 (a1f0_2).length ca1f0_2)])] []) ∧ T.get 7 = some (.slice pa0 (a0).length ca0) ∧ T.get 8 = some (i64 ((a0).length : Int)) ∧ T.get 9 = some (i64 x1)) (fun y e a σ => (∃ u, y = (.inl u) ∧ e = .ret ∧ a.nt = 18 ∧ ∃ (F12 : PH), a.defers = [] ∧ PH.le F0 F12 ∧ St n0 h0 F0 F12 σ.h σ.nx [] ∧ a.tmps.get 4 = some (.bool false)) ∨ (∃ u, y = (.inr u) ∧ e = .exit 0 ∧ a.nt = 18 ∧ ∃ (F14 : PH), a.defers = [] ∧ PH.le F0 F14 ∧ St n0 h0 F0 F14 σ.h σ.nx [])) (fun x1 T ds2 hc2 nc2 s hp hF => ?_) N _ y10 _ _ _ _ hy ⟨F0, rfl, (PH.le.refl _), st, gA, gA, gA, gA⟩ (fun e a σ hne hq => ?_)
  · obtain ⟨F2, rfl, le2, st, t1, t7, t8, t9⟩ := hp; unfold sf63_L1 at hF; unfold L63w0; refine w_seq ?_; refine w_reg ?_; refine v_lss ?_; refine r_nil ?_; refine th_n ?_; refine w_seq ?_; refine v_cond (fun hb15 => ?_) (fun hb15 => ?_)
    · have hF := bif_t hb15 hF; refine w_skip ?_; refine th_n ?_; refine w_seq ?_; refine w_block ?_; refine w_seq ?_; refine w_reg ?_; obtain ⟨n16, x16, z16, l16, g16, hF⟩ := ix_some hF; obtain ⟨b16, o16, s16, j16, r16, e16, f16, k16, rfl⟩ := RowF.get ra0 g16; refine v_ixp e16 z16 l16 ?_; refine v_ld1 (st.sub _ _ (le2 _ _ f16)) (take_at (j := 0) k16 rfl) ?_; refine v_move ?_; refine r_nil ?_; refine th_n ?_; refine w_seq ?_; refine w_reg ?_; refine v_move ?_; refine v_move ?_; obtain ⟨v17, e18, hF⟩ := bnd_some hF; refine v_call st (ct53 N e18 st.d st.sub (RowF.mono le2 ra1f0_2)) (fun n19 st => ?_); refine v_not ?_; refine r_nil ?_; refine th_n ?_; refine v_cond (fun hb20 => ?_) (fun hb20 => ?_)
      · have hF := bif_t hb20 hF; refine w_seq ?_; refine w_reg ?_; refine v_move ?_; refine r_nil ?_; refine th_n ?_; refine w_ret ?_; refine ib_r ?_; refine th_r ?_; refine th_r ?_; refine ⟨_, (inj hF).symm, .inl ⟨_, rfl, rfl, rfl, ?_⟩⟩; dsimp only
        exact ⟨F2, rfl, le2, st, gA⟩
      · have hF := bif_f hb20 hF; refine w_skip ?_; refine ib_n ?_; refine th_n ?_; refine w_reg ?_; obtain ⟨q21, hF⟩ := ck_some hF; refine v_add q21 ?_; refine v_move ?_; refine r_nil ?_; refine thn ⟨_, (inj hF).symm, rfl, ?_⟩; dsimp only
        exact ⟨F2, rfl, le2, st, gA, gA, gA, gA⟩
    · have hF := bif_f hb15 hF; refine w_exit ?_; refine th_e ?_; refine th_e ?_; refine ⟨_, (inj hF).symm, .inr (⟨_, rfl, rfl, rfl, ?_⟩)⟩; dsimp only
      exact ⟨F2, rfl, le2, st⟩
  · rcases hq with hq | hq
    · obtain ⟨N9, T, ds12⟩ := a; obtain ⟨h22, n23⟩ := σ; obtain ⟨w11, rfl, rfl, e1, F12, e2, le12, st, t4⟩ := hq
      dsimp only at e1 e2
      subst e1
      subst e2
      dsimp only at st t4
      have hF := sel_l hF; refine ib_r ?_; refine th_r ?_; obtain rfl := inj hF
      exact end_s st (Res.t gA Res.nil) rfl rfl
    · obtain ⟨N9, T, ds14⟩ := a; obtain ⟨h24, n25⟩ := σ; obtain ⟨w13, rfl, rfl, e1, F14, e2, le14, st⟩ := hq
      dsimp only at e1 e2
      subst e1
      subst e2
      dsimp only at st
      have hF := sel_r hF; refine ib_e ?_; refine th_n ?_; refine w_seq ?_; refine w_reg ?_; refine v_move ?_; refine r_nil ?_; refine th_n ?_; refine w_ret ?_; obtain rfl := inj hF
      exact end_s st (Res.t gA Res.nil) rfl rfl
theorem ct64 (N : Nat) {a0_0 : Int} {a0_1 : Int} {a0_2 : (List (Int × Int × Int × Int × Int))} {a1_0 : (Nat → Bool)} {a1_1 : Int} {a2 : Int} {r : ((Nat → Bool) × Int × Bool)} (hF : sf64 N a0_0 a0_1 a0_2 a1_0 a1_1 a2 = some r) {fl : Nat} {h0 : Tr HBlk} {n0 : Nat} {F0 : PH} (hd : D h0 n0) (hs : F0.sub h0) {pa0_2 : Option (Nat × Nat)} {ca0_2 : Nat} (ra0_2 : RowF (rP rI (rP rI (rP rI (rP rI rI)))) 5 F0 pa0_2 ca0_2 a0_2) : C LW fl 64 [(.agg [(i64 a0_0), (i64 a0_1), (.slice pa0_2 (a0_2).length ca0_2)]), (.agg ((eB 8 a1_0) ++ [(i64 a1_1)])), (i64 a2)] ⟨h0, n0⟩ (KS (.tuple [(.agg ((eB 8 r.1) ++ [(i64 r.2.1)])), (.bool r.2.2)]) n0 h0) := by
  unfold sf64 at hF
  refine in_cT hd hs lw64 rfl rfl (by rfl) (fun st T hT => ?_)
  have hfl : n0 ≤ n0 := Nat.le_refl n0
  have t0 := hT 0 _ rfl
  have t1 := hT 1 _ rfl
  have t2 := hT 2 _ rfl
  dsimp only [L64]
  refine w_seq ?_; refine w_reg ?_; refine v_box st (fun b1 h2 n3 st => ?_); refine v_box st (fun b4 h5 n6 st => ?_); refine v_alloc st (fun b7 h8 n9 st => ?_)
  have st := st.cells 2 rfl ((eB 8 (fun _ => false)) ++ [(i64 (0 : Int))]) rfl
  refine v_move ?_; refine r_nil ?_; refine th_n ?_; refine w_seq ?_; refine w_reg ?_; refine v_fa ?_; refine v_ld1 (st.at (i := 0) rfl).2.2 rfl ?_; refine v_move ?_; obtain ⟨n10, x10, z10, l10, g10, hF⟩ := ix_some hF; obtain ⟨b10, o10, s10, j10, r10, e10, f10, k10, ⟨_, _, rfl, rfl, ⟨_, _, rfl, rfl, ⟨_, _, rfl, rfl, ⟨_, _, rfl, rfl, rfl⟩⟩⟩⟩⟩ := RowF.get ra0_2 g10; refine v_ixp e10 z10 l10 ?_; refine v_ldn (st.sub _ _ f10) k10 ?_; refine v_alloc st (fun b11 h12 n13 st => ?_); refine v_st (cs' := [(i64 x10.1), (i64 x10.2.1), (i64 x10.2.2.1), (i64 x10.2.2.2.1), (i64 x10.2.2.2.2)]) st 3 rfl rfl rfl rfl hfl (fun h14 st => ?_); refine r_nil ?_; refine th_n ?_; refine w_seq ?_; refine w_drawV (Nat.le_trans hfl st.ext.le) (fun dw => ?_)
  refine y_pure st.d dw (fun hm vw => v_fa pr_nil) ?_; refine y_pure st.d dw (fun hm vw => v_ldn (vs := (eB 8 a1_0)) (vw.bx (st.at (i := 1) rfl)) rfl pr_nil) ?_; refine y_pure st.d dw (fun hm vw => v_move pr_nil) ?_; obtain ⟨v15, e16, hF⟩ := bnd_some hF; refine y_flat st.d dw (fun hm vw => u_call (ct76 N e16 vw.d (vw.sub st) ) (fun n' hn' => pf_nil hn')) (fun n17 hn' dw => ?_); refine y_pure st.d dw (fun hm vw => v_fa pr_nil) ?_; refine y_pure st.d dw (fun hm vw => v_ld1 (vw.bx (st.at (i := 1) rfl)) rfl pr_nil) ?_; refine y_pure st.d dw (fun hm vw => v_fa pr_nil) ?_; refine y_pure st.d dw (fun hm vw => v_fa pr_nil) ?_; refine y_pure st.d dw (fun hm vw => v_ld1 (vw.bx (st.at (i := 3) rfl)) rfl pr_nil) ?_
  refine y_lay st.d dw (fun hm vw => u_bs (cs := [(i64 x10.2.2.2.1)]) rfl pr_nil) (fun done dw => ?_); obtain ⟨v18, e19, hF⟩ := bnd_some hF; refine y_flat st.d dw (fun hm vw => u_call (ct77 N e19 vw.d (all_sub _) (RowF.blk (F := F0) (vw.vis _ (List.mem_cons_self ..) rfl _ _ (if_pos rfl)) (show LR rI 1 F0 [x10.2.2.2.1] [(i64 x10.2.2.2.1)] from (LR.cons1 (x := x10.2.2.2.1) (r := [(i64 x10.2.2.2.1)]) (l := []) (cs := []) (rfl) LR.nil)) (vw.sub st))) (fun n' hn' => pf_nil hn')) (fun n20 hn' dw => ?_); refine y_pure st.d dw (fun hm vw => v_build (cs := ((eB 8 v15) ++ [(i64 v18)])) rfl pr_nil) ?_; refine y_lay st.d dw (fun hm vw => u_alloc pr_nil) (fun done dw => ?_); refine y_end st.d dw rfl (fun h21 ex vs => ?_)
  have st := St.laid st ex (Lay.cons (b := n17) (cs := [(i64 x10.2.2.2.1)]) (by have := dw.le; omega) (vs _ (List.mem_cons_of_mem _ (List.mem_cons_self ..)) _ _ (if_pos rfl)) (Lay.cons (b := n20) (cs := ((eB 8 (fun _ => false)) ++ [(i64 (0 : Int))])) (by have := dw.le; omega) (vs _ (List.mem_cons_self ..) _ _ (if_pos rfl)) (Lay.nil (by have := dw.le; omega))))
  refine v_st (v := (.agg ((eB 8 v15) ++ [(i64 v18)]))) (cs' := ((eB 8 v15) ++ [(i64 v18)])) st 5 rfl rfl rfl rfl hfl (fun h22 st => ?_); refine r_nil ?_; refine th_n ?_; obtain ⟨y32, hA33, hF⟩ := bnd_some hF; refine w_cutD (fun T ds35 h nx => ∃ (F35 : PH), ds35 = [] ∧ PH.le F0 F35 ∧ St n0 h0 F0 F35 h nx [.bx b1 [(i64 a0_0), (i64 a0_1), (.slice pa0_2 (a0_2).length ca0_2)], .bx b4 ((eB 8 a1_0) ++ [(i64 a1_1)]), .bx b7 ((eB 8 (fun _ => false)) ++ [(i64 (0 : Int))]), .bx b11 [(i64 x10.1), (i64 x10.2.1), (i64 x10.2.2.1), (i64 x10.2.2.2.1), (i64 x10.2.2.2.2)], .bx n17 [(i64 x10.2.2.2.1)], .bx n20 ((eB 8 v15) ++ [(i64 v18)])] ∧ T.get 6 = some (.ptr (some (b7, 0))) ∧ T.get 9 = some (.ptr (some (n20, 0))) ∧ T.get 10 = some (.bool y32)) ?_ (fun T ds35 hc35 nc35 hp => ?_)
  · have hK34 := hF
    have hF := hA33; refine w_drawV (Nat.le_trans hfl st.ext.le) (fun dw => ?_); refine y_pure st.d dw (fun hm vw => v_move pr_nil) ?_; refine y_pure st.d dw (fun hm vw => v_fa pr_nil) ?_; obtain ⟨q36, hF⟩ := ck_some hF
    refine y_pure st.d dw (fun hm vw => v_ixa (j := (Int.toNat a2)) (Int.toNat_of_nonneg q36.1).symm (by omega) pr_nil) ?_
    refine y_pure st.d dw (fun hm vw => v_ld1 (o := (0 + (Int.toNat a2) * 1)) (vw.bx (st.at (i := 1) rfl)) (V.ar_getM0B [(i64 a1_1)] (off := (0 + (Int.toNat a2) * 1)) (ix := (Int.toNat a2)) (by omega) (by omega)) pr_nil) ?_
    refine y_pure st.d dw (fun hm vw => v_not pr_nil) ?_; refine y_pure st.d dw (fun hm vw => v_move pr_nil) ?_
    rcases Bool.eq_false_or_eq_true (!(a1_0 (Int.toNat a2))) with hb37 | hb37
    · have hF := bif_t hb37 hF; refine y_pure st.d dw (fun hm vw => g_take hb37 (v_fa pr_nil)) ?_; refine y_pure st.d dw (fun hm vw => g_take hb37 (v_ld1 (vw.bx (st.at (i := 3) rfl)) rfl pr_nil)) ?_; refine y_pure st.d dw (fun hm vw => g_take hb37 (v_ldn (vs := [(i64 a0_0), (i64 a0_1), (.slice pa0_2 (a0_2).length ca0_2)]) (vw.bx (st.at (i := 0) rfl)) rfl pr_nil)) ?_; refine y_pure st.d dw (fun hm vw => g_take hb37 (v_fa pr_nil)) ?_; refine y_pure st.d dw (fun hm vw => g_take hb37 (v_ldn (vs := (eB 8 a1_0)) (vw.bx (st.at (i := 1) rfl)) rfl pr_nil)) ?_; obtain ⟨v38, e39, hF⟩ := bnd_some hF; refine y_flat st.d dw (fun hm vw => g_take hb37 (u_call (ct74 N e39 vw.d (vw.sub st) ra0_2) (fun n' hn' => pf_nil hn'))) (fun n40 hn' dw => ?_)
      refine y_pure st.d dw (fun hm vw => g_take hb37 (v_fa pr_nil)) ?_; refine y_pure st.d dw (fun hm vw => g_take hb37 (v_ld1 (vw.bx (st.at (i := 3) rfl)) rfl pr_nil)) ?_; refine y_end st.d dw rfl (fun h41 ex vs => ?_)
      have st := st.ext1 ex
      obtain ⟨q42, hF⟩ := ck_some hF
      refine g_take hb37 (v_ixv (j := (Int.toNat x10.1)) (Int.toNat_of_nonneg q42.1) (by omega) (ar_get0 (n := 6) (off := (Int.toNat x10.1)) (ix := (Int.toNat x10.1)) rfl (by omega)) ?_)
      refine g_take hb37 (v_leq ?_); refine v_pick hb37 ?_; refine v_move ?_
      rcases Bool.eq_false_or_eq_true (decide (x10.2.2.1 ≤ (v38 (Int.toNat x10.1)))) with hb43 | hb43
      · have hF := bif_t hb43 hF; refine g_take hb43 (v_fa ?_); refine g_take hb43 (v_ld1 (st.at (i := 5) rfl).2.2 rfl ?_); refine g_take hb43 (v_fa ?_); refine g_take hb43 (v_fa ?_); refine g_take hb43 (v_ld1 (st.at (i := 3) rfl).2.2 rfl ?_); refine g_take hb43 (v_leq ?_); refine v_pick hb43 ?_; refine v_move ?_; refine r_nil ?_; obtain rfl := inj hF; refine thn ⟨rfl, ?_⟩; dsimp only
        exact ⟨F0, rfl, (PH.le.refl _), st, gA, gA, gA⟩
      · have hF := bif_f hb43 hF; refine g_skip hb43 ?_; refine g_skip hb43 ?_; refine g_skip hb43 ?_; refine g_skip hb43 ?_; refine g_skip hb43 ?_; refine g_skip hb43 ?_; refine v_pick' hb43 ?_; refine v_move ?_; refine r_nil ?_; obtain rfl := inj hF; refine thn ⟨rfl, ?_⟩; dsimp only
        exact ⟨F0, rfl, (PH.le.refl _), st, gA, gA, gA⟩
    · have hF := bif_f hb37 hF; refine y_pure st.d dw (fun hm vw => g_skip hb37 pr_nil) ?_; refine y_pure st.d dw (fun hm vw => g_skip hb37 pr_nil) ?_; refine y_pure st.d dw (fun hm vw => g_skip hb37 pr_nil) ?_; refine y_pure st.d dw (fun hm vw => g_skip hb37 pr_nil) ?_; refine y_pure st.d dw (fun hm vw => g_skip hb37 pr_nil) ?_; refine y_pure st.d dw (fun hm vw => g_skip hb37 pr_nil) ?_; refine y_pure st.d dw (fun hm vw => g_skip hb37 pr_nil) ?_; refine y_pure st.d dw (fun hm vw => g_skip hb37 pr_nil) ?_; refine y_end st.d dw rfl (fun h44 ex vs => ?_)
      have st := st.ext1 ex
      refine g_skip hb37 ?_; refine g_skip hb37 ?_; refine v_pick' hb37 ?_; refine v_move ?_; refine g_skip rfl ?_; refine g_skip rfl ?_; refine g_skip rfl ?_; refine g_skip rfl ?_; refine g_skip rfl ?_; refine g_skip rfl ?_; refine v_pick' rfl ?_; refine v_move ?_; refine r_nil ?_; obtain rfl := inj hF; refine thn ⟨rfl, ?_⟩; dsimp only
      exact ⟨F0, rfl, (PH.le.refl _), st, gA, gA, gA⟩
  · obtain ⟨F35, rfl, le35, st, t6, t9, t10⟩ := hp; refine w_seq ?_; refine w_reg ?_; refine v_ldn (vs := ((eB 8 v15) ++ [(i64 v18)])) (st.at (i := 5) rfl).2.2 rfl ?_; refine v_move ?_; refine v_st (v := (.agg ((eB 8 v15) ++ [(i64 v18)]))) (cs' := ((eB 8 v15) ++ [(i64 v18)])) st 2 rfl rfl rfl rfl hfl (fun h45 st => ?_); refine v_move ?_; refine r_nil ?_; refine th_n ?_; refine w_ret ?_; obtain rfl := inj hF
    exact end_s st (Res.c gA (st.at (i := 2) rfl).2.2 (show takeN _ _ = some ((eB 8 v15) ++ [(i64 v18)]) from rfl) (Res.t gA Res.nil)) rfl rfl
end Go.Hx.V

/- Functions of the program come to that. -/
namespace Go.Hx.V
open Go.Hx
set_option linter.unusedVariables false
set_option maxRecDepth 20000
set_option maxHeartbeats 4000000
attribute [local irreducible] W R C thenH inBlockH Tr.get Tr.set lo ck bnd ix iter
theorem ct48 (N : Nat) {a0_0 : Int} {a0_1 : Int} {a0_2 : (List (Int × Int × Int × Int × Int))} {r : Int} (hF : sf48 N a0_0 a0_1 a0_2 = some r) {fl : Nat} {h0 : Tr HBlk} {n0 : Nat} {F0 : PH} (hd : D h0 n0) (hs : F0.sub h0) {pa0_2 : Option (Nat × Nat)} {ca0_2 : Nat} (ra0_2 : RowF (rP rI (rP rI (rP rI (rP rI rI)))) 5 F0 pa0_2 ca0_2 a0_2) : C LW fl 48 [(.agg [(i64 a0_0), (i64 a0_1), (.slice pa0_2 (a0_2).length ca0_2)])] ⟨h0, n0⟩ (KS (i64 r) n0 h0) := by
  unfold sf48 at hF
  refine in_cT hd hs lw48 rfl rfl (by rfl) (fun st T hT => ?_)
  have hfl : n0 ≤ n0 := Nat.le_refl n0
  have t0 := hT 0 _ rfl
  dsimp only [L48]
  refine w_seq ?_; refine w_reg ?_; refine v_box st (fun b1 h2 n3 st => ?_); refine v_move ?_; refine r_nil ?_; refine th_n ?_; refine w_seq ?_; refine w_seq ?_; refine w_reg ?_; refine v_fa ?_; refine v_ld1 (st.at (i := 0) rfl).2.2 rfl ?_; refine v_len ?_; refine v_gtr ?_; refine r_nil ?_; refine th_n ?_; refine v_cond (fun hb4 => ?_) (fun hb4 => ?_)
  · have hF := bif_t hb4 hF; refine w_seq ?_; refine w_reg ?_; refine v_move ?_; refine r_nil ?_; refine th_n ?_; refine w_ret ?_; refine th_r ?_; obtain rfl := inj hF
    exact end_s st (Res.t gA Res.nil) rfl rfl
  · have hF := bif_f hb4 hF; refine w_skip ?_; refine th_n ?_; obtain ⟨y24, hA25, hF⟩ := bnd_some hF; refine w_cutD (fun T ds30 h nx => ∃ u, y24 = (.inr u) ∧ ∃ (F30 : PH), ds30 = [] ∧ PH.le F0 F30 ∧ St n0 h0 F0 F30 h nx [.bx b1 [(i64 a0_0), (i64 a0_1), (.slice pa0_2 (a0_2).length ca0_2)]] ∧ T.get 1 = some (.ptr (some (b1, 0)))) ?_ (fun T ds30 hc30 nc30 hp => ?_)
    · have hK26 := hF
      have hF := hA25; obtain ⟨y38, hA39, hF⟩ := bnd_some hF; refine w_cutD (fun T ds41 h nx => ∃ (F41 : PH), ds41 = [] ∧ PH.le F0 F41 ∧ St n0 h0 F0 F41 h nx [.bx b1 [(i64 a0_0), (i64 a0_1), (.slice pa0_2 (a0_2).length ca0_2)]] ∧ T.get 1 = some (.ptr (some (b1, 0))) ∧ T.get 18 = some (.bool y38)) ?_ (fun T ds41 hc41 nc41 hp => ?_)
      · have hK40 := hF
        have hF := hA39; refine w_reg ?_; refine v_fa ?_; refine v_ld1 (st.at (i := 0) rfl).2.2 rfl ?_; obtain ⟨v42, e43, hF⟩ := bnd_some hF; refine v_call st (ct31 N e43 st.d st.sub ) (fun n44 st => ?_); refine v_not ?_; refine v_move ?_
        rcases Bool.eq_false_or_eq_true (!v42) with hb45 | hb45
        · have hF := bif_t hb45 hF; refine g_skip hb45 ?_; refine g_skip hb45 ?_; refine g_skip hb45 ?_; refine g_skip hb45 ?_; refine v_pick hb45 ?_; refine r_nil ?_; obtain rfl := inj hF; refine thn ⟨rfl, ?_⟩; dsimp only
          exact ⟨F0, rfl, (PH.le.refl _), st, gA, gA⟩
        · have hF := bif_f hb45 hF; refine g_take hb45 (v_fa ?_); refine g_take hb45 (v_ld1 (st.at (i := 0) rfl).2.2 rfl ?_); obtain ⟨v46, e47, hF⟩ := bnd_some hF; refine g_take hb45 (v_call st (ct31 N e47 st.d st.sub ) (fun n48 st => ?_)); refine g_take hb45 (v_not ?_); refine v_pick' hb45 ?_; refine r_nil ?_; obtain rfl := inj hF; refine thn ⟨rfl, ?_⟩; dsimp only
          exact ⟨F0, rfl, (PH.le.refl _), st, gA, gA⟩
      · obtain ⟨F41, rfl, le41, st, t1, t18⟩ := hp; refine v_cond (fun hb49 => ?_) (fun hb49 => ?_)
        · have hF := bif_t hb49 hF; refine w_seq ?_; refine w_reg ?_; refine v_move ?_; refine r_nil ?_; refine th_n ?_; refine w_ret ?_; obtain rfl := inj hF; have hF := hK26; have hF := sel_l hF; refine th_r ?_; obtain rfl := inj hF
          exact end_s st (Res.t gA Res.nil) rfl rfl
        · have hF := bif_f hb49 hF; refine w_skip ?_; obtain rfl := inj hF; refine thn ⟨rfl, _, rfl, ?_⟩; dsimp only
          exact ⟨F41, rfl, le41, st, gA⟩
    · obtain ⟨w29, rfl, F30, rfl, le30, st, t1⟩ := hp; have hF := sel_r hF; refine w_seq ?_; refine w_seq ?_; refine w_reg ?_; refine v_move ?_; refine r_nil ?_; refine th_n ?_; refine w_block ?_; obtain ⟨y105, hy, hF⟩ := bnd_some hF; refine v_loopD (sf48_L1 N a0_0 a0_2) (fun x50 T ds51 h nx => ∃ (F51 : PH), ds51 = [] ∧ PH.le F30 F51 ∧ St n0 h0 F0 F51 h nx [.bx b1 [(i64 a0_0), (i64 a0_1), (.slice pa0_2 (a0_2).length ca0_2)]] ∧ T.get 1 = some (.ptr (some (b1, 0))) ∧ T.get 3 = some (i64 x50)) (fun y e a σ => (∃ u, y = (.inl u) ∧ e = .ret ∧ a.nt = 76 ∧ ∃ (F107 : PH), a.defers = [] ∧ PH.le F30 F107 ∧ St n0 h0 F0 F107 σ.h σ.nx [.bx b1 [(i64 a0_0), (i64 a0_1), (.slice pa0_2 (a0_2).length ca0_2)]] ∧ a.tmps.get 2 = some (i64 u)) ∨ (∃ u, y = (.inr u) ∧ e = .exit 0 ∧ a.nt = 76 ∧ ∃ (F109 : PH), a.defers = [] ∧ PH.le F30 F109 ∧ St n0 h0 F0 F109 σ.h σ.nx [.bx b1 [(i64 a0_0), (i64 a0_1), (.slice pa0_2 (a0_2).length ca0_2)]])) (fun x50 T ds51 hc51 nc51 s hp hF => ?_) N _ y105 _ _ _ _ hy ⟨F30, rfl, (PH.le.refl _), st, gA, gA⟩ (fun e a σ hne hq => ?_)
      · obtain ⟨F51, rfl, le51, st, t1, t3⟩ := hp
        have le52 := PH.le.trans le30 le51
        unfold sf48_L1 at hF; unfold L48w0; refine w_seq ?_; refine w_seq ?_; refine w_reg ?_; refine v_move ?_; refine v_fa ?_; refine v_ld1 (st.at (i := 0) rfl).2.2 rfl ?_; refine v_len ?_; refine v_lss ?_; refine r_nil ?_; refine th_n ?_; refine v_cond (fun hb110 => ?_) (fun hb110 => ?_)
        · have hF := bif_t hb110 hF; refine w_skip ?_; refine th_n ?_; refine w_seq ?_; refine w_block ?_; refine w_seq ?_; refine w_reg ?_; refine v_fa ?_; refine v_ld1 (st.at (i := 0) rfl).2.2 rfl ?_; refine v_move ?_; obtain ⟨n111, x111, z111, l111, g111, hF⟩ := ix_some hF; obtain ⟨b111, o111, s111, j111, r111, e111, f111, k111, ⟨_, _, rfl, rfl, ⟨_, _, rfl, rfl, ⟨_, _, rfl, rfl, ⟨_, _, rfl, rfl, rfl⟩⟩⟩⟩⟩ := RowF.get ra0_2 g111; refine v_ixp e111 z111 l111 ?_; refine v_ldn (st.sub _ _ (le52 _ _ f111)) k111 ?_; refine v_alloc st (fun b112 h113 n114 st => ?_); refine v_st (cs' := [(i64 x111.1), (i64 x111.2.1), (i64 x111.2.2.1), (i64 x111.2.2.2.1), (i64 x111.2.2.2.2)]) st 1 rfl rfl rfl rfl hfl (fun h115 st => ?_)
          refine r_nil ?_; refine th_n ?_; obtain ⟨y135, hA136, hF⟩ := bnd_some hF; refine w_cutD (fun T ds138 h nx => ∃ (F138 : PH), ds138 = [] ∧ PH.le F51 F138 ∧ St n0 h0 F0 F138 h nx [.bx b1 [(i64 a0_0), (i64 a0_1), (.slice pa0_2 (a0_2).length ca0_2)], .bx b112 [(i64 x111.1), (i64 x111.2.1), (i64 x111.2.2.1), (i64 x111.2.2.2.1), (i64 x111.2.2.2.2)]] ∧ T.get 1 = some (.ptr (some (b1, 0))) ∧ T.get 3 = some (i64 x50) ∧ T.get 75 = some (.bool y135)) ?_ (fun T ds138 hc138 nc138 hp => ?_)
          · have hK137 := hF
            have hF := hA136; refine w_reg ?_; refine v_fa ?_; refine v_ld1 (st.at (i := 1) rfl).2.2 rfl ?_; refine v_fa ?_; refine v_ld1 (st.at (i := 0) rfl).2.2 rfl ?_; obtain ⟨q139, hF⟩ := ck_some hF; refine v_sub q139 ?_; obtain ⟨v140, e141, hF⟩ := bnd_some hF; refine v_call st (ct31 N e141 st.d st.sub ) (fun n142 st => ?_); refine v_not ?_; refine v_move ?_
            rcases Bool.eq_false_or_eq_true (!v140) with hb143 | hb143
            · have hF := bif_t hb143 hF; refine g_skip hb143 ?_; refine g_skip hb143 ?_; refine g_skip hb143 ?_; refine g_skip hb143 ?_; refine g_skip hb143 ?_; refine g_skip hb143 ?_; refine g_skip hb143 ?_; refine v_pick hb143 ?_; refine v_move ?_; refine g_skip rfl ?_; refine g_skip rfl ?_; refine g_skip rfl ?_; refine g_skip rfl ?_; refine g_skip rfl ?_; refine v_pick rfl ?_; refine v_move ?_; refine g_skip rfl ?_; refine g_skip rfl ?_; refine g_skip rfl ?_; refine g_skip rfl ?_; refine v_pick rfl ?_; refine v_move ?_; refine g_skip rfl ?_; refine g_skip rfl ?_; refine g_skip rfl ?_; refine g_skip rfl ?_; refine g_skip rfl ?_; refine g_skip rfl ?_; refine g_skip rfl ?_; refine g_skip rfl ?_
              refine v_pick rfl ?_; refine v_move ?_; refine g_skip rfl ?_; refine g_skip rfl ?_; refine g_skip rfl ?_; refine g_skip rfl ?_; refine v_pick rfl ?_; refine r_nil ?_; obtain rfl := inj hF; refine thn ⟨rfl, ?_⟩; dsimp only
              exact ⟨F51, rfl, (PH.le.refl _), st, gA, gA, gA⟩
            · have hF := bif_f hb143 hF; refine g_take hb143 (v_fa ?_); refine g_take hb143 (v_ld1 (st.at (i := 1) rfl).2.2 rfl ?_); refine g_take hb143 (v_fa ?_); refine g_take hb143 (v_ld1 (st.at (i := 0) rfl).2.2 rfl ?_); obtain ⟨q144, hF⟩ := ck_some hF; refine g_take hb143 (v_sub q144 ?_); obtain ⟨v145, e146, hF⟩ := bnd_some hF; refine g_take hb143 (v_call st (ct31 N e146 st.d st.sub ) (fun n147 st => ?_)); refine g_take hb143 (v_not ?_); refine v_pick' hb143 ?_; refine v_move ?_
              rcases Bool.eq_false_or_eq_true (!v145) with hb148 | hb148
              · have hF := bif_t hb148 hF; refine g_skip hb148 ?_; refine g_skip hb148 ?_; refine g_skip hb148 ?_; refine g_skip hb148 ?_; refine g_skip hb148 ?_; refine v_pick hb148 ?_; refine v_move ?_; refine g_skip rfl ?_; refine g_skip rfl ?_; refine g_skip rfl ?_; refine g_skip rfl ?_; refine v_pick rfl ?_; refine v_move ?_; refine g_skip rfl ?_; refine g_skip rfl ?_; refine g_skip rfl ?_; refine g_skip rfl ?_; refine g_skip rfl ?_; refine g_skip rfl ?_; refine g_skip rfl ?_; refine g_skip rfl ?_; refine v_pick rfl ?_; refine v_move ?_; refine g_skip rfl ?_; refine g_skip rfl ?_; refine g_skip rfl ?_; refine g_skip rfl ?_; refine v_pick rfl ?_; refine r_nil ?_; obtain rfl := inj hF; refine thn ⟨rfl, ?_⟩
                dsimp only
                exact ⟨F51, rfl, (PH.le.refl _), st, gA, gA, gA⟩
              · have hF := bif_f hb148 hF; refine g_take hb148 (v_fa ?_); refine g_take hb148 (v_ld1 (st.at (i := 1) rfl).2.2 rfl ?_); refine g_take hb148 (v_fa ?_); refine g_take hb148 (v_ld1 (st.at (i := 1) rfl).2.2 rfl ?_); refine g_take hb148 (v_eqi ?_); refine v_pick' hb148 ?_; refine v_move ?_
                rcases Bool.eq_false_or_eq_true (decide (x111.1 = x111.2.1)) with hb149 | hb149
                · have hF := bif_t hb149 hF; refine g_skip hb149 ?_; refine g_skip hb149 ?_; refine g_skip hb149 ?_; refine g_skip hb149 ?_; refine v_pick hb149 ?_; refine v_move ?_; refine g_skip rfl ?_; refine g_skip rfl ?_; refine g_skip rfl ?_; refine g_skip rfl ?_; refine g_skip rfl ?_; refine g_skip rfl ?_; refine g_skip rfl ?_; refine g_skip rfl ?_; refine v_pick rfl ?_; refine v_move ?_; refine g_skip rfl ?_; refine g_skip rfl ?_; refine g_skip rfl ?_; refine g_skip rfl ?_; refine v_pick rfl ?_; refine r_nil ?_; obtain rfl := inj hF; refine thn ⟨rfl, ?_⟩; dsimp only
                  exact ⟨F51, rfl, (PH.le.refl _), st, gA, gA, gA⟩
                · have hF := bif_f hb149 hF; refine g_take hb149 (v_fa ?_); refine g_take hb149 (v_ld1 (st.at (i := 1) rfl).2.2 rfl ?_); obtain ⟨v150, e151, hF⟩ := bnd_some hF; refine g_take hb149 (v_call st (ct31 N e151 st.d st.sub ) (fun n152 st => ?_)); refine g_take hb149 (v_not ?_); refine v_pick' hb149 ?_; refine v_move ?_
                  rcases Bool.eq_false_or_eq_true (!v150) with hb153 | hb153
                  · have hF := bif_t hb153 hF; refine g_skip hb153 ?_; refine g_skip hb153 ?_; refine g_skip hb153 ?_; refine g_skip hb153 ?_; refine g_skip hb153 ?_; refine g_skip hb153 ?_; refine g_skip hb153 ?_; refine g_skip hb153 ?_; refine v_pick hb153 ?_; refine v_move ?_; refine g_skip rfl ?_; refine g_skip rfl ?_; refine g_skip rfl ?_; refine g_skip rfl ?_; refine v_pick rfl ?_; refine r_nil ?_; obtain rfl := inj hF; refine thn ⟨rfl, ?_⟩; dsimp only
                    exact ⟨F51, rfl, (PH.le.refl _), st, gA, gA, gA⟩
                  · have hF := bif_f hb153 hF; refine g_take hb153 (v_fa ?_); refine g_take hb153 (v_fa ?_); refine g_take hb153 (v_ld1 (st.at (i := 1) rfl).2.2 rfl ?_); refine g_take hb153 (v_fa ?_); refine g_take hb153 (v_fa ?_); refine g_take hb153 (v_ld1 (st.at (i := 1) rfl).2.2 rfl ?_); obtain ⟨v154, e155, hF⟩ := bnd_some hF; refine g_take hb153 (v_call st (ct31 N e155 st.d st.sub ) (fun n156 st => ?_)); refine g_take hb153 (v_not ?_); refine v_pick' hb153 ?_; refine v_move ?_
                    rcases Bool.eq_false_or_eq_true (!v154) with hb157 | hb157
                    · have hF := bif_t hb157 hF; refine g_skip hb157 ?_; refine g_skip hb157 ?_; refine g_skip hb157 ?_; refine g_skip hb157 ?_; refine v_pick hb157 ?_; refine r_nil ?_; obtain rfl := inj hF; refine thn ⟨rfl, ?_⟩; dsimp only
                      exact ⟨F51, rfl, (PH.le.refl _), st, gA, gA, gA⟩
                    · have hF := bif_f hb157 hF; refine g_take hb157 (v_fa ?_); refine g_take hb157 (v_fa ?_); refine g_take hb157 (v_ld1 (st.at (i := 1) rfl).2.2 rfl ?_); refine g_take hb157 (v_gtr ?_); refine v_pick' hb157 ?_; refine r_nil ?_; obtain rfl := inj hF; refine thn ⟨rfl, ?_⟩; dsimp only
                      exact ⟨F51, rfl, (PH.le.refl _), st, gA, gA, gA⟩
          · obtain ⟨F138, rfl, le138, st, t1, t3, t75⟩ := hp
            have le158 := PH.le.trans le52 le138
            have le159 := PH.le.trans le51 le138
            refine v_cond (fun hb160 => ?_) (fun hb160 => ?_)
            · have hF := bif_t hb160 hF; refine w_seq ?_; refine w_reg ?_; refine v_move ?_; refine r_nil ?_; refine th_n ?_; refine w_ret ?_; refine ib_r ?_; refine th_r ?_; refine th_r ?_; refine ⟨_, (inj hF).symm, .inl ⟨_, rfl, rfl, rfl, ?_⟩⟩; dsimp only
              exact ⟨F138, rfl, le159, (st.drop (by first | exact List.Sublist.refl _ | (repeat first | exact List.nil_sublist _ | refine List.Sublist.cons_cons _ ?_ | refine List.Sublist.cons _ ?_))), gA⟩
            · have hF := bif_f hb160 hF; refine w_skip ?_; refine ib_n ?_; refine th_n ?_; refine w_reg ?_; refine v_move ?_; obtain ⟨q161, hF⟩ := ck_some hF; refine v_add q161 ?_; refine v_move ?_; refine r_nil ?_; refine thn ⟨_, (inj hF).symm, rfl, ?_⟩; dsimp only
              exact ⟨F138, rfl, le159, (st.drop (by first | exact List.Sublist.refl _ | (repeat first | exact List.nil_sublist _ | refine List.Sublist.cons_cons _ ?_ | refine List.Sublist.cons _ ?_))), gA, gA⟩
        · have hF := bif_f hb110 hF; refine w_exit ?_; refine th_e ?_; refine th_e ?_; refine ⟨_, (inj hF).symm, .inr (⟨_, rfl, rfl, rfl, ?_⟩)⟩; dsimp only
          exact ⟨F51, rfl, le51, st⟩
      · rcases hq with hq | hq
        · obtain ⟨N9, T, ds107⟩ := a; obtain ⟨h163, n164⟩ := σ; obtain ⟨w106, rfl, rfl, e1, F107, e2, le107, st, t2⟩ := hq
          dsimp only at e1 e2
          subst e1
          subst e2
          dsimp only at st t2
          have le162 := PH.le.trans le30 le107
          have hF := sel_l hF; refine ib_r ?_; refine th_r ?_; obtain rfl := inj hF
          exact end_s st (Res.t gA Res.nil) rfl rfl
        · obtain ⟨N9, T, ds109⟩ := a; obtain ⟨h166, n167⟩ := σ; obtain ⟨w108, rfl, rfl, e1, F109, e2, le109, st⟩ := hq
          dsimp only at e1 e2
          subst e1
          subst e2
          dsimp only at st
          have le165 := PH.le.trans le30 le109
          have hF := sel_r hF; refine ib_e ?_; refine th_n ?_; refine w_seq ?_; refine w_reg ?_; refine v_move ?_; refine r_nil ?_; refine th_n ?_; refine w_ret ?_; obtain rfl := inj hF
          exact end_s st (Res.t gA Res.nil) rfl rfl
theorem ct49 (N : Nat) {a0_0 : Int} {a0_1 : Int} {a0_2 : (List (Int × Int × Int × Int × Int))} {a1 : (List Int)} {a2 : Int} {a3 : Int} {a4 : Int} {r : Bool} (hF : sf49 N a0_0 a0_1 a0_2 a1 a2 a3 a4 = some r) {fl : Nat} {h0 : Tr HBlk} {n0 : Nat} {F0 : PH} (hd : D h0 n0) (hs : F0.sub h0) {pa0_2 : Option (Nat × Nat)} {ca0_2 : Nat} {pa1 : Option (Nat × Nat)} {ca1 : Nat} (ra0_2 : RowF (rP rI (rP rI (rP rI (rP rI rI)))) 5 F0 pa0_2 ca0_2 a0_2) (ra1 : RowF rI 1 F0 pa1 ca1 a1) : C LW fl 49 [(.agg [(i64 a0_0), (i64 a0_1), (.slice pa0_2 (a0_2).length ca0_2)]), (.slice pa1 (a1).length ca1), (i64 a2), (i64 a3), (i64 a4)] ⟨h0, n0⟩ (KS (.bool r) n0 h0) := by
  unfold sf49 at hF
  refine in_cT hd hs lw49 rfl rfl (by rfl) (fun st T hT => ?_)
  have hfl : n0 ≤ n0 := Nat.le_refl n0
  have t0 := hT 0 _ rfl
  have t1 := hT 1 _ rfl
  have t2 := hT 2 _ rfl
  have t3 := hT 3 _ rfl
  have t4 := hT 4 _ rfl
  dsimp only [L49]
  refine w_seq ?_; refine w_reg ?_; refine v_box st (fun b1 h2 n3 st => ?_); refine v_move ?_; refine r_nil ?_; refine th_n ?_; refine w_seq ?_; refine w_reg ?_; refine v_fa ?_; refine v_ld1 (st.at (i := 0) rfl).2.2 rfl ?_; refine v_move ?_; obtain ⟨n4, x4, z4, l4, g4, hF⟩ := ix_some hF; obtain ⟨b4, o4, s4, j4, r4, e4, f4, k4, ⟨_, _, rfl, rfl, ⟨_, _, rfl, rfl, ⟨_, _, rfl, rfl, ⟨_, _, rfl, rfl, rfl⟩⟩⟩⟩⟩ := RowF.get ra0_2 g4; refine v_ixp e4 z4 l4 ?_; refine v_ldn (st.sub _ _ f4) k4 ?_; refine v_alloc st (fun b5 h6 n7 st => ?_); refine v_st (cs' := [(i64 x4.1), (i64 x4.2.1), (i64 x4.2.2.1), (i64 x4.2.2.2.1), (i64 x4.2.2.2.2)]) st 1 rfl rfl rfl rfl hfl (fun h8 st => ?_); refine r_nil ?_; refine th_n ?_
  refine w_seq ?_; refine w_drawV (Nat.le_trans hfl st.ext.le) (fun dw => ?_); refine y_pure st.d dw (fun hm vw => v_move pr_nil) ?_; refine y_pure st.d dw (fun hm vw => v_move pr_nil) ?_; obtain ⟨v9, e10, hF⟩ := bnd_some hF; refine y_flat st.d dw (fun hm vw => u_call (ct40 N e10 vw.d (vw.sub st) ra1) (fun n' hn' => pf_nil hn')) (fun n11 hn' dw => ?_); refine y_pure st.d dw (fun hm vw => v_not pr_nil) ?_; refine y_pure st.d dw (fun hm vw => v_move pr_nil) ?_
  rcases Bool.eq_false_or_eq_true (!v9) with hb12 | hb12
  · have hF := bif_t hb12 hF; refine y_pure st.d dw (fun hm vw => g_take hb12 (v_move pr_nil)) ?_; refine y_pure st.d dw (fun hm vw => g_take hb12 (v_fa pr_nil)) ?_; refine y_pure st.d dw (fun hm vw => g_take hb12 (v_fa pr_nil)) ?_; refine y_pure st.d dw (fun hm vw => g_take hb12 (v_ld1 (vw.bx (st.at (i := 1) rfl)) rfl pr_nil)) ?_; refine y_pure st.d dw (fun hm vw => g_take hb12 (v_fa pr_nil)) ?_; refine y_pure st.d dw (fun hm vw => g_take hb12 (v_fa pr_nil)) ?_; refine y_pure st.d dw (fun hm vw => g_take hb12 (v_ld1 (vw.bx (st.at (i := 1) rfl)) rfl pr_nil)) ?_; obtain ⟨v13, e14, hF⟩ := bnd_some hF; refine y_flat st.d dw (fun hm vw => g_take hb12 (u_call (ct31 N e14 vw.d (vw.sub st) ) (fun n' hn' => pf_nil hn'))) (fun n15 hn' dw => ?_)
    refine y_pure st.d dw (fun hm vw => v_pick hb12 pr_nil) ?_; refine y_pure st.d dw (fun hm vw => v_move pr_nil) ?_
    rcases Bool.eq_false_or_eq_true v13 with hb16 | hb16
    · have hF := bif_t hb16 hF; refine y_pure st.d dw (fun hm vw => g_take hb16 (v_move pr_nil)) ?_; refine y_pure st.d dw (fun hm vw => g_take hb16 (v_move pr_nil)) ?_; refine y_pure st.d dw (fun hm vw => g_take hb16 (v_geq pr_nil)) ?_; refine y_pure st.d dw (fun hm vw => v_pick hb16 pr_nil) ?_; refine y_pure st.d dw (fun hm vw => v_move pr_nil) ?_
      rcases Bool.eq_false_or_eq_true (decide (a2 ≤ a4)) with hb17 | hb17
      · have hF := bif_t hb17 hF; refine y_pure st.d dw (fun hm vw => g_take hb17 (v_ldn (vs := [(i64 a0_0), (i64 a0_1), (.slice pa0_2 (a0_2).length ca0_2)]) (vw.bx (st.at (i := 0) rfl)) rfl pr_nil)) ?_; refine y_pure st.d dw (fun hm vw => g_take hb17 (v_move pr_nil)) ?_; refine y_pure st.d dw (fun hm vw => g_take hb17 (v_fa pr_nil)) ?_; refine y_pure st.d dw (fun hm vw => g_take hb17 (v_ld1 (vw.bx (st.at (i := 1) rfl)) rfl pr_nil)) ?_; obtain ⟨v18, e19, hF⟩ := bnd_some hF; refine y_flat st.d dw (fun hm vw => g_take hb17 (u_call (ct60 N e19 vw.d (vw.sub st) ra0_2 ra1) (fun n' hn' => pf_nil hn'))) (fun n20 hn' dw => ?_); refine y_pure st.d dw (fun hm vw => g_take hb17 (v_fa pr_nil)) ?_; refine y_pure st.d dw (fun hm vw => g_take hb17 (v_ld1 (vw.bx (st.at (i := 1) rfl)) rfl pr_nil)) ?_
        refine y_end st.d dw rfl (fun h21 ex vs => ?_)
        have st := st.ext1 ex
        refine g_take hb17 (v_geq ?_); refine v_pick hb17 ?_; refine v_move ?_; refine r_nil ?_; refine th_n ?_; refine w_ret ?_; obtain rfl := inj hF
        exact end_s st (Res.t gA Res.nil) rfl rfl
      · have hF := bif_f hb17 hF; refine y_pure st.d dw (fun hm vw => g_skip hb17 pr_nil) ?_; refine y_pure st.d dw (fun hm vw => g_skip hb17 pr_nil) ?_; refine y_pure st.d dw (fun hm vw => g_skip hb17 pr_nil) ?_; refine y_pure st.d dw (fun hm vw => g_skip hb17 pr_nil) ?_; refine y_pure st.d dw (fun hm vw => g_skip hb17 pr_nil) ?_; refine y_pure st.d dw (fun hm vw => g_skip hb17 pr_nil) ?_; refine y_pure st.d dw (fun hm vw => g_skip hb17 pr_nil) ?_; refine y_end st.d dw rfl (fun h22 ex vs => ?_)
        have st := st.ext1 ex
        refine g_skip hb17 ?_; refine v_pick' hb17 ?_; refine v_move ?_; refine r_nil ?_; refine th_n ?_; refine w_ret ?_; obtain rfl := inj hF
        exact end_s st (Res.t gA Res.nil) rfl rfl
    · have hF := bif_f hb16 hF; refine y_pure st.d dw (fun hm vw => g_skip hb16 pr_nil) ?_; refine y_pure st.d dw (fun hm vw => g_skip hb16 pr_nil) ?_; refine y_pure st.d dw (fun hm vw => g_skip hb16 pr_nil) ?_; refine y_pure st.d dw (fun hm vw => v_pick' hb16 pr_nil) ?_; refine y_pure st.d dw (fun hm vw => v_move pr_nil) ?_; refine y_pure st.d dw (fun hm vw => g_skip rfl pr_nil) ?_; refine y_pure st.d dw (fun hm vw => g_skip rfl pr_nil) ?_; refine y_pure st.d dw (fun hm vw => g_skip rfl pr_nil) ?_; refine y_pure st.d dw (fun hm vw => g_skip rfl pr_nil) ?_; refine y_pure st.d dw (fun hm vw => g_skip rfl pr_nil) ?_; refine y_pure st.d dw (fun hm vw => g_skip rfl pr_nil) ?_; refine y_pure st.d dw (fun hm vw => g_skip rfl pr_nil) ?_
      refine y_end st.d dw rfl (fun h23 ex vs => ?_)
      have st := st.ext1 ex
      refine g_skip rfl ?_; refine v_pick' rfl ?_; refine v_move ?_; refine r_nil ?_; refine th_n ?_; refine w_ret ?_; obtain rfl := inj hF
      exact end_s st (Res.t gA Res.nil) rfl rfl
  · have hF := bif_f hb12 hF; refine y_pure st.d dw (fun hm vw => g_skip hb12 pr_nil) ?_; refine y_pure st.d dw (fun hm vw => g_skip hb12 pr_nil) ?_; refine y_pure st.d dw (fun hm vw => g_skip hb12 pr_nil) ?_; refine y_pure st.d dw (fun hm vw => g_skip hb12 pr_nil) ?_; refine y_pure st.d dw (fun hm vw => g_skip hb12 pr_nil) ?_; refine y_pure st.d dw (fun hm vw => g_skip hb12 pr_nil) ?_; refine y_pure st.d dw (fun hm vw => g_skip hb12 pr_nil) ?_; refine y_pure st.d dw (fun hm vw => g_skip hb12 pr_nil) ?_; refine y_pure st.d dw (fun hm vw => v_pick' hb12 pr_nil) ?_; refine y_pure st.d dw (fun hm vw => v_move pr_nil) ?_; refine y_pure st.d dw (fun hm vw => g_skip rfl pr_nil) ?_; refine y_pure st.d dw (fun hm vw => g_skip rfl pr_nil) ?_
    refine y_pure st.d dw (fun hm vw => g_skip rfl pr_nil) ?_; refine y_pure st.d dw (fun hm vw => v_pick' rfl pr_nil) ?_; refine y_pure st.d dw (fun hm vw => v_move pr_nil) ?_; refine y_pure st.d dw (fun hm vw => g_skip rfl pr_nil) ?_; refine y_pure st.d dw (fun hm vw => g_skip rfl pr_nil) ?_; refine y_pure st.d dw (fun hm vw => g_skip rfl pr_nil) ?_; refine y_pure st.d dw (fun hm vw => g_skip rfl pr_nil) ?_; refine y_pure st.d dw (fun hm vw => g_skip rfl pr_nil) ?_; refine y_pure st.d dw (fun hm vw => g_skip rfl pr_nil) ?_; refine y_pure st.d dw (fun hm vw => g_skip rfl pr_nil) ?_; refine y_end st.d dw rfl (fun h24 ex vs => ?_)
    have st := st.ext1 ex
    refine g_skip rfl ?_; refine v_pick' rfl ?_; refine v_move ?_; refine r_nil ?_; refine th_n ?_; refine w_ret ?_; obtain rfl := inj hF
    exact end_s st (Res.t gA Res.nil) rfl rfl
end Go.Hx.V

/- Functions of the program come to that. -/
namespace Go.Hx.V
open Go.Hx
set_option linter.unusedVariables false
set_option maxRecDepth 20000
set_option maxHeartbeats 4000000
attribute [local irreducible] W R C thenH inBlockH Tr.get Tr.set lo ck bnd ix iter
theorem ct62 (N : Nat) {a0_0 : Int} {a0_1 : Int} {a0_2 : (List (Int × Int × Int × Int × Int))} {a1_0 : Int} {a1_1 : Int} {a1_2 : Int} {a1_3 : Int} {a1_4 : Int} {r : Bool} (hF : sf62 N a0_0 a0_1 a0_2 a1_0 a1_1 a1_2 a1_3 a1_4 = some r) {fl : Nat} {h0 : Tr HBlk} {n0 : Nat} {F0 : PH} (hd : D h0 n0) (hs : F0.sub h0) {pa0_2 : Option (Nat × Nat)} {ca0_2 : Nat} (ra0_2 : RowF (rP rI (rP rI (rP rI (rP rI rI)))) 5 F0 pa0_2 ca0_2 a0_2) : C LW fl 62 [(.agg [(i64 a0_0), (i64 a0_1), (.slice pa0_2 (a0_2).length ca0_2)]), (.agg [(i64 a1_0), (i64 a1_1), (i64 a1_2), (i64 a1_3), (i64 a1_4)])] ⟨h0, n0⟩ (KS (.bool r) n0 h0) := by
  unfold sf62 at hF
  refine in_cT hd hs lw62 rfl rfl (by rfl) (fun st T hT => ?_)
  have hfl : n0 ≤ n0 := Nat.le_refl n0
  have t0 := hT 0 _ rfl
  have t1 := hT 1 _ rfl
  dsimp only [L62]
  refine w_seq ?_; refine w_reg ?_; refine v_box st (fun b1 h2 n3 st => ?_); refine v_box st (fun b4 h5 n6 st => ?_); refine v_move ?_; refine r_nil ?_; refine th_n ?_; refine w_seq ?_; refine w_reg ?_; refine v_ldn (vs := [(i64 a0_0), (i64 a0_1), (.slice pa0_2 (a0_2).length ca0_2)]) (st.at (i := 0) rfl).2.2 rfl ?_; refine v_fa ?_; refine v_ld1 (st.at (i := 1) rfl).2.2 rfl ?_; obtain ⟨v7, e8, hF⟩ := bnd_some hF; refine v_call st (ct56 N e8 st.d st.sub ra0_2) (fun n9 st => ?_); refine v_move ?_
  rcases Bool.eq_false_or_eq_true v7 with hb10 | hb10
  · have hF := bif_t hb10 hF; refine g_take hb10 (v_ldn (vs := [(i64 a0_0), (i64 a0_1), (.slice pa0_2 (a0_2).length ca0_2)]) (st.at (i := 0) rfl).2.2 rfl ?_); refine g_take hb10 (v_fa ?_); refine g_take hb10 (v_ld1 (st.at (i := 1) rfl).2.2 rfl ?_); obtain ⟨v11, e12, hF⟩ := bnd_some hF; refine g_take hb10 (v_call st (ct56 N e12 st.d st.sub ra0_2) (fun n13 st => ?_)); refine v_pick hb10 ?_; refine v_move ?_
    rcases Bool.eq_false_or_eq_true v11 with hb14 | hb14
    · have hF := bif_t hb14 hF; refine g_take hb14 (v_fa ?_); refine g_take hb14 (v_ld1 (st.at (i := 1) rfl).2.2 rfl ?_); refine g_take hb14 (v_fa ?_); refine g_take hb14 (v_ld1 (st.at (i := 1) rfl).2.2 rfl ?_); refine g_take hb14 (v_nei ?_); refine v_pick hb14 ?_; refine v_move ?_
      rcases Bool.eq_false_or_eq_true (!(decide (a1_0 = a1_1))) with hb15 | hb15
      · have hF := bif_t hb15 hF; refine g_take hb15 (v_fa ?_); refine g_take hb15 (v_ld1 (st.at (i := 1) rfl).2.2 rfl ?_); refine g_take hb15 (v_leq ?_); refine v_pick hb15 ?_; refine v_move ?_
        rcases Bool.eq_false_or_eq_true (decide ((1 : Int) ≤ a1_2)) with hb16 | hb16
        · have hF := bif_t hb16 hF; refine g_take hb16 (v_fa ?_); refine g_take hb16 (v_ld1 (st.at (i := 1) rfl).2.2 rfl ?_); refine g_take hb16 (v_leq ?_); refine v_pick hb16 ?_; refine v_move ?_
          rcases Bool.eq_false_or_eq_true (decide (a1_2 ≤ (1000 : Int))) with hb17 | hb17
          · have hF := bif_t hb17 hF; refine g_take hb17 (v_fa ?_); refine g_take hb17 (v_ldn (vs := [(i64 a1_3), (i64 a1_4)]) (st.at (i := 1) rfl).2.2 rfl ?_); obtain ⟨v18, e19, hF⟩ := bnd_some hF; refine g_take hb17 (v_call st (ct75 N e19 st.d st.sub ) (fun n20 st => ?_)); refine v_pick hb17 ?_; refine v_move ?_; refine r_nil ?_; refine th_n ?_; refine w_ret ?_; obtain rfl := inj hF
            exact end_s st (Res.t gA Res.nil) rfl rfl
          · have hF := bif_f hb17 hF; refine g_skip hb17 ?_; refine g_skip hb17 ?_; refine g_skip hb17 ?_; refine v_pick' hb17 ?_; refine v_move ?_; refine r_nil ?_; refine th_n ?_; refine w_ret ?_; obtain rfl := inj hF
            exact end_s st (Res.t gA Res.nil) rfl rfl
        · have hF := bif_f hb16 hF; refine g_skip hb16 ?_; refine g_skip hb16 ?_; refine g_skip hb16 ?_; refine v_pick' hb16 ?_; refine v_move ?_; refine g_skip rfl ?_; refine g_skip rfl ?_; refine g_skip rfl ?_; refine v_pick' rfl ?_; refine v_move ?_; refine r_nil ?_; refine th_n ?_; refine w_ret ?_; obtain rfl := inj hF
          exact end_s st (Res.t gA Res.nil) rfl rfl
      · have hF := bif_f hb15 hF; refine g_skip hb15 ?_; refine g_skip hb15 ?_; refine g_skip hb15 ?_; refine v_pick' hb15 ?_; refine v_move ?_; refine g_skip rfl ?_; refine g_skip rfl ?_; refine g_skip rfl ?_; refine v_pick' rfl ?_; refine v_move ?_; refine g_skip rfl ?_; refine g_skip rfl ?_; refine g_skip rfl ?_; refine v_pick' rfl ?_; refine v_move ?_; refine r_nil ?_; refine th_n ?_; refine w_ret ?_; obtain rfl := inj hF
        exact end_s st (Res.t gA Res.nil) rfl rfl
    · have hF := bif_f hb14 hF; refine g_skip hb14 ?_; refine g_skip hb14 ?_; refine g_skip hb14 ?_; refine g_skip hb14 ?_; refine g_skip hb14 ?_; refine v_pick' hb14 ?_; refine v_move ?_; refine g_skip rfl ?_; refine g_skip rfl ?_; refine g_skip rfl ?_; refine v_pick' rfl ?_; refine v_move ?_; refine g_skip rfl ?_; refine g_skip rfl ?_; refine g_skip rfl ?_; refine v_pick' rfl ?_; refine v_move ?_; refine g_skip rfl ?_; refine g_skip rfl ?_; refine g_skip rfl ?_; refine v_pick' rfl ?_; refine v_move ?_; refine r_nil ?_; refine th_n ?_; refine w_ret ?_; obtain rfl := inj hF
      exact end_s st (Res.t gA Res.nil) rfl rfl
  · have hF := bif_f hb10 hF; refine g_skip hb10 ?_; refine g_skip hb10 ?_; refine g_skip hb10 ?_; refine g_skip hb10 ?_; refine v_pick' hb10 ?_; refine v_move ?_; refine g_skip rfl ?_; refine g_skip rfl ?_; refine g_skip rfl ?_; refine g_skip rfl ?_; refine g_skip rfl ?_; refine v_pick' rfl ?_; refine v_move ?_; refine g_skip rfl ?_; refine g_skip rfl ?_; refine g_skip rfl ?_; refine v_pick' rfl ?_; refine v_move ?_; refine g_skip rfl ?_; refine g_skip rfl ?_; refine g_skip rfl ?_; refine v_pick' rfl ?_; refine v_move ?_; refine g_skip rfl ?_; refine g_skip rfl ?_; refine g_skip rfl ?_; refine v_pick' rfl ?_; refine v_move ?_; refine r_nil ?_; refine th_n ?_; refine w_ret ?_; obtain rfl := inj hF
    exact end_s st (Res.t gA Res.nil) rfl rfl
theorem ct47 (N : Nat) {a0_0 : Int} {a0_1 : Int} {a0_2 : (List (Int × Int × Int × Int × Int))} {a1 : (List Int)} {a2 : (List Int)} {r : Bool} (hF : sf47 N a0_0 a0_1 a0_2 a1 a2 = some r) {fl : Nat} {h0 : Tr HBlk} {n0 : Nat} {F0 : PH} (hd : D h0 n0) (hs : F0.sub h0) {pa0_2 : Option (Nat × Nat)} {ca0_2 : Nat} {pa1 : Option (Nat × Nat)} {ca1 : Nat} {pa2 : Option (Nat × Nat)} {ca2 : Nat} (ra0_2 : RowF (rP rI (rP rI (rP rI (rP rI rI)))) 5 F0 pa0_2 ca0_2 a0_2) (ra1 : RowF rI 1 F0 pa1 ca1 a1) (ra2 : RowF rI 1 F0 pa2 ca2 a2) : C LW fl 47 [(.agg [(i64 a0_0), (i64 a0_1), (.slice pa0_2 (a0_2).length ca0_2)]), (.slice pa1 (a1).length ca1), (.slice pa2 (a2).length ca2)] ⟨h0, n0⟩ (KS (.bool r) n0 h0) := by
  unfold sf47 at hF
  refine in_cT hd hs lw47 rfl rfl (by rfl) (fun st T hT => ?_)
  have hfl : n0 ≤ n0 := Nat.le_refl n0
  have t0 := hT 0 _ rfl
  have t1 := hT 1 _ rfl
  have t2 := hT 2 _ rfl
  dsimp only [L47]
  refine w_seq ?_; refine w_reg ?_; refine v_box st (fun b1 h2 n3 st => ?_); refine v_move ?_; refine r_nil ?_; refine th_n ?_; obtain ⟨y19, hA20, hF⟩ := bnd_some hF; refine w_cutD (fun T ds25 h nx => ∃ u, y19 = (.inr u) ∧ ∃ (F25 : PH), ds25 = [] ∧ PH.le F0 F25 ∧ St n0 h0 F0 F25 h nx [.bx b1 [(i64 a0_0), (i64 a0_1), (.slice pa0_2 (a0_2).length ca0_2)]] ∧ T.get 1 = some (.slice pa1 (a1).length ca1) ∧ T.get 2 = some (.slice pa2 (a2).length ca2) ∧ T.get 3 = some (.ptr (some (b1, 0)))) ?_ (fun T ds25 hc25 nc25 hp => ?_)
  · have hK21 := hF
    have hF := hA20; obtain ⟨y31, hA32, hF⟩ := bnd_some hF; refine w_cutD (fun T ds34 h nx => ∃ (F34 : PH), ds34 = [] ∧ PH.le F0 F34 ∧ St n0 h0 F0 F34 h nx [.bx b1 [(i64 a0_0), (i64 a0_1), (.slice pa0_2 (a0_2).length ca0_2)]] ∧ T.get 1 = some (.slice pa1 (a1).length ca1) ∧ T.get 2 = some (.slice pa2 (a2).length ca2) ∧ T.get 3 = some (.ptr (some (b1, 0))) ∧ T.get 32 = some (.bool y31)) ?_ (fun T ds34 hc34 nc34 hp => ?_)
    · have hK33 := hF
      have hF := hA32; refine w_reg ?_; refine v_move ?_; refine v_len ?_; refine v_fa ?_; refine v_ld1 (st.at (i := 0) rfl).2.2 rfl ?_; refine v_len ?_; refine v_nei ?_; refine v_move ?_
      rcases Bool.eq_false_or_eq_true (!(decide (((a1).length : Int) = ((a0_2).length : Int)))) with hb35 | hb35
      · have hF := bif_t hb35 hF; refine g_skip hb35 ?_; refine g_skip hb35 ?_; refine g_skip hb35 ?_; refine g_skip hb35 ?_; refine g_skip hb35 ?_; refine g_skip hb35 ?_; refine v_pick hb35 ?_; refine v_move ?_; refine g_skip rfl ?_; refine g_skip rfl ?_; refine g_skip rfl ?_; refine g_skip rfl ?_; refine g_skip rfl ?_; refine v_pick rfl ?_; refine r_nil ?_; obtain rfl := inj hF; refine thn ⟨rfl, ?_⟩; dsimp only
        exact ⟨F0, rfl, (PH.le.refl _), st, gA, gA, gA, gA⟩
      · have hF := bif_f hb35 hF; refine g_take hb35 (v_move ?_); refine g_take hb35 (v_len ?_); refine g_take hb35 (v_fa ?_); refine g_take hb35 (v_ld1 (st.at (i := 0) rfl).2.2 rfl ?_); refine g_take hb35 (v_len ?_); refine g_take hb35 (v_nei ?_); refine v_pick' hb35 ?_; refine v_move ?_
        rcases Bool.eq_false_or_eq_true (!(decide (((a2).length : Int) = ((a0_2).length : Int)))) with hb36 | hb36
        · have hF := bif_t hb36 hF; refine g_skip hb36 ?_; refine g_skip hb36 ?_; refine g_skip hb36 ?_; refine g_skip hb36 ?_; refine g_skip hb36 ?_; refine v_pick hb36 ?_; refine r_nil ?_; obtain rfl := inj hF; refine thn ⟨rfl, ?_⟩; dsimp only
          exact ⟨F0, rfl, (PH.le.refl _), st, gA, gA, gA, gA⟩
        · have hF := bif_f hb36 hF; refine g_take hb36 (v_move ?_); refine g_take hb36 (v_ldn (vs := [(i64 a0_0), (i64 a0_1), (.slice pa0_2 (a0_2).length ca0_2)]) (st.at (i := 0) rfl).2.2 rfl ?_); refine g_take hb36 (v_mf ?_); obtain ⟨v37, e38, hF⟩ := bnd_some hF; refine g_take hb36 (v_call st (ct63 N e38 st.d st.sub ra1 ra0_2) (fun n39 st => ?_)); refine g_take hb36 (v_not ?_); refine v_pick' hb36 ?_; refine r_nil ?_; obtain rfl := inj hF; refine thn ⟨rfl, ?_⟩; dsimp only
          exact ⟨F0, rfl, (PH.le.refl _), st, gA, gA, gA, gA⟩
    · obtain ⟨F34, rfl, le34, st, t1, t2, t3, t32⟩ := hp; refine v_cond (fun hb40 => ?_) (fun hb40 => ?_)
      · have hF := bif_t hb40 hF; refine w_seq ?_; refine w_reg ?_; refine v_move ?_; refine r_nil ?_; refine th_n ?_; refine w_ret ?_; obtain rfl := inj hF; have hF := hK21; have hF := sel_l hF; refine th_r ?_; obtain rfl := inj hF
        exact end_s st (Res.t gA Res.nil) rfl rfl
      · have hF := bif_f hb40 hF; refine w_skip ?_; obtain rfl := inj hF; refine thn ⟨rfl, _, rfl, ?_⟩; dsimp only
        exact ⟨F34, rfl, le34, st, gA, gA, gA⟩
  · obtain ⟨w24, rfl, F25, rfl, le25, st, t1, t2, t3⟩ := hp; have hF := sel_r hF; refine w_seq ?_; refine w_reg ?_; refine v_build (cs := ((eB 8 (fun _ => false)) ++ [(i64 (0 : Int))])) rfl ?_; refine v_alloc st (fun b41 h42 n43 st => ?_)
    have st := st.cells 1 rfl ((eB 8 (fun _ => false)) ++ [(i64 (0 : Int))]) rfl
    refine v_st (v := (.agg ((eB 8 (fun _ => false)) ++ [(i64 (0 : Int))]))) (cs' := ((eB 8 (fun _ => false)) ++ [(i64 (0 : Int))])) st 1 rfl rfl rfl rfl hfl (fun h44 st => ?_); refine r_nil ?_; refine th_n ?_; refine w_seq ?_; refine w_seq ?_; refine w_reg ?_; refine v_move ?_; refine v_len ?_; refine v_move ?_; refine r_nil ?_; refine th_n ?_; refine w_block ?_; obtain ⟨y110, hy, hF⟩ := bnd_some hF; refine v_loopD (sf47_L1 N a0_0 a0_1 a0_2 a1 a2) (fun x45 T ds46 h nx => ∃ (F46 : PH), ds46 = [] ∧ PH.le F25 F46 ∧ St n0 h0 F0 F46 h nx [.bx b1 [(i64 a0_0), (i64 a0_1), (.slice pa0_2 (a0_2).length ca0_2)], .bx b41 ((eB 8 x45.2.1) ++ [(i64 x45.2.2)])] ∧ T.get 2 = some (.slice pa2 (a2).length ca2) ∧ T.get 3 = some (.ptr (some (b1, 0))) ∧ T.get 7 = some (.ptr (some (b41, 0))) ∧ T.get 34 = some (.slice pa1 (a1).length ca1) ∧ T.get 35 = some (i64 ((a1).length : Int)) ∧ T.get 36 = some (i64 x45.1)) (fun y e a σ => (∃ u, y = (.inl u) ∧ e = .ret ∧ a.nt = 80 ∧ ∃ (F112 : PH), a.defers = [] ∧ PH.le F25 F112 ∧ St n0 h0 F0 F112 σ.h σ.nx [.bx b1 [(i64 a0_0), (i64 a0_1), (.slice pa0_2 (a0_2).length ca0_2)], .bx b41 ((eB 8 u.1) ++ [(i64 u.2)])] ∧ a.tmps.get 6 = some (.bool false)) ∨ (∃ u, y = (.inr u) ∧ e = .exit 0 ∧ a.nt = 80 ∧ ∃ (F114 : PH), a.defers = [] ∧ PH.le F25 F114 ∧ St n0 h0 F0 F114 σ.h σ.nx [.bx b1 [(i64 a0_0), (i64 a0_1), (.slice pa0_2 (a0_2).length ca0_2)], .bx b41 ((eB 8 u.1) ++ [(i64 u.2)])])) (fun x45 T ds46 hc46 nc46 s hp hF => ?_) N _ y110 _ _ _ _ hy ⟨F25, rfl, (PH.le.refl _), st, gA, gA, gA, gA, gA, gA⟩ (fun e a σ hne hq => ?_)
    · obtain ⟨F46, rfl, le46, st, t2, t3, t7, t34, t35, t36⟩ := hp
      have le47 := PH.le.trans le25 le46
      unfold sf47_L1 at hF; unfold L47w0; refine w_seq ?_; refine w_reg ?_; refine v_lss ?_; refine r_nil ?_; refine th_n ?_; refine w_seq ?_; refine v_cond (fun hb115 => ?_) (fun hb115 => ?_)
      · have hF := bif_t hb115 hF; refine w_skip ?_; refine th_n ?_; refine w_seq ?_; refine w_block ?_; refine w_seq ?_; refine w_reg ?_; obtain ⟨n116, x116, z116, l116, g116, hF⟩ := ix_some hF; obtain ⟨b116, o116, s116, j116, r116, e116, f116, k116, rfl⟩ := RowF.get ra1 g116; refine v_ixp e116 z116 l116 ?_; refine v_ld1 (st.sub _ _ (le47 _ _ f116)) (take_at (j := 0) k116 rfl) ?_; refine v_move ?_; refine r_nil ?_; refine th_n ?_; refine w_seq ?_; refine w_reg ?_; refine v_ldn (vs := [(i64 a0_0), (i64 a0_1), (.slice pa0_2 (a0_2).length ca0_2)]) (st.at (i := 0) rfl).2.2 rfl ?_; refine v_ldn (vs := ((eB 8 x45.2.1) ++ [(i64 x45.2.2)])) (st.at (i := 1) rfl).2.2 rfl ?_; refine v_move ?_; obtain ⟨v117, e118, hF⟩ := bnd_some hF
        refine v_call st (ct64 N e118 st.d st.sub (RowF.mono le47 ra0_2)) (fun n119 st => ?_); refine v_move ?_; refine v_xt rfl ?_; refine v_xt rfl ?_; refine v_alloc st (fun b120 h121 n122 st => ?_)
        have st := st.cells 2 rfl ((eB 8 (fun _ => false)) ++ [(i64 (0 : Int))]) rfl
        refine v_st (v := (.agg ((eB 8 v117.1) ++ [(i64 v117.2.1)]))) (cs' := ((eB 8 v117.1) ++ [(i64 v117.2.1)])) st 2 rfl rfl rfl rfl hfl (fun h123 st => ?_); refine v_move ?_; refine r_nil ?_; refine th_n ?_; obtain ⟨y143, hA144, hF⟩ := bnd_some hF; refine w_cutD (fun T ds149 h nx => ∃ u, y143 = (.inr u) ∧ ∃ (F149 : PH), ds149 = [] ∧ PH.le F46 F149 ∧ St n0 h0 F0 F149 h nx [.bx b1 [(i64 a0_0), (i64 a0_1), (.slice pa0_2 (a0_2).length ca0_2)], .bx b41 ((eB 8 x45.2.1) ++ [(i64 x45.2.2)]), .bx b120 ((eB 8 v117.1) ++ [(i64 v117.2.1)])] ∧ T.get 2 = some (.slice pa2 (a2).length ca2) ∧ T.get 3 = some (.ptr (some (b1, 0))) ∧ T.get 7 = some (.ptr (some (b41, 0))) ∧ T.get 9 = some (i64 x116) ∧ T.get 10 = some (.ptr (some (b120, 0))) ∧ T.get 34 = some (.slice pa1 (a1).length ca1) ∧ T.get 35 = some (i64 ((a1).length : Int)) ∧ T.get 36 = some (i64 x45.1)) ?_ (fun T ds149 hc149 nc149 hp => ?_)
        · have hK145 := hF
          have hF := hA144; obtain ⟨y156, hA157, hF⟩ := bnd_some hF; refine w_cutD (fun T ds159 h nx => ∃ (F159 : PH), ds159 = [] ∧ PH.le F46 F159 ∧ St n0 h0 F0 F159 h nx [.bx b1 [(i64 a0_0), (i64 a0_1), (.slice pa0_2 (a0_2).length ca0_2)], .bx b41 ((eB 8 x45.2.1) ++ [(i64 x45.2.2)]), .bx b120 ((eB 8 v117.1) ++ [(i64 v117.2.1)])] ∧ T.get 2 = some (.slice pa2 (a2).length ca2) ∧ T.get 3 = some (.ptr (some (b1, 0))) ∧ T.get 7 = some (.ptr (some (b41, 0))) ∧ T.get 9 = some (i64 x116) ∧ T.get 10 = some (.ptr (some (b120, 0))) ∧ T.get 34 = some (.slice pa1 (a1).length ca1) ∧ T.get 35 = some (i64 ((a1).length : Int)) ∧ T.get 36 = some (i64 x45.1) ∧ T.get 71 = some (.bool y156)) ?_ (fun T ds159 hc159 nc159 hp => ?_)
          · have hK158 := hF
            have hF := hA157; refine w_drawV (Nat.le_trans hfl st.ext.le) (fun dw => ?_); refine y_end st.d dw rfl (fun h160 ex vs => ?_)
            have st := st.ext1 ex
            refine v_move ?_; refine v_not ?_; refine v_move ?_
            rcases Bool.eq_false_or_eq_true (!v117.2.2) with hb161 | hb161
            · have hF := bif_t hb161 hF; refine g_skip hb161 ?_; refine g_skip hb161 ?_; refine g_skip hb161 ?_; refine g_skip hb161 ?_; refine g_skip hb161 ?_; refine g_skip hb161 ?_; refine g_skip hb161 ?_; refine v_pick hb161 ?_; refine v_move ?_; refine g_skip rfl ?_; refine g_skip rfl ?_; refine g_skip rfl ?_; refine g_skip rfl ?_; refine g_skip rfl ?_; refine g_skip rfl ?_; refine g_skip rfl ?_; refine g_skip rfl ?_; refine g_skip rfl ?_; refine g_skip rfl ?_; refine g_skip rfl ?_; refine g_skip rfl ?_; refine v_pick rfl ?_; refine r_nil ?_; obtain rfl := inj hF; refine thn ⟨rfl, ?_⟩; dsimp only
              exact ⟨F46, rfl, (PH.le.refl _), st, gA, gA, gA, gA, gA, gA, gA, gA, gA⟩
            · have hF := bif_f hb161 hF; refine g_take hb161 (v_move ?_); refine g_take hb161 (v_move ?_); obtain ⟨n162, x162, z162, l162, g162, hF⟩ := ix_some hF; obtain ⟨b162, o162, s162, j162, r162, e162, f162, k162, rfl⟩ := RowF.get ra2 g162; refine g_take hb161 (v_ixp e162 z162 l162 ?_); refine g_take hb161 (v_ld1 (st.sub _ _ (le47 _ _ f162)) (take_at (j := 0) k162 rfl) ?_); refine g_take hb161 (v_fa ?_); refine g_take hb161 (v_ld1 (st.at (i := 2) rfl).2.2 rfl ?_); refine g_take hb161 (v_lss ?_); refine v_pick' hb161 ?_; refine v_move ?_
              rcases Bool.eq_false_or_eq_true (decide (x162 < v117.2.1)) with hb163 | hb163
              · have hF := bif_t hb163 hF; refine g_skip hb163 ?_; refine g_skip hb163 ?_; refine g_skip hb163 ?_; refine g_skip hb163 ?_; refine g_skip hb163 ?_; refine g_skip hb163 ?_; refine g_skip hb163 ?_; refine g_skip hb163 ?_; refine g_skip hb163 ?_; refine g_skip hb163 ?_; refine g_skip hb163 ?_; refine g_skip hb163 ?_; refine v_pick hb163 ?_; refine r_nil ?_; obtain rfl := inj hF; refine thn ⟨rfl, ?_⟩; dsimp only
                exact ⟨F46, rfl, (PH.le.refl _), st, gA, gA, gA, gA, gA, gA, gA, gA, gA⟩
              · have hF := bif_f hb163 hF; refine g_take hb163 (v_move ?_); refine g_take hb163 (v_move ?_); obtain ⟨n164, x164, z164, l164, g164, hF⟩ := ix_some hF; obtain ⟨b164, o164, s164, j164, r164, e164, f164, k164, rfl⟩ := RowF.get ra2 g164; refine g_take hb163 (v_ixp e164 z164 l164 ?_); refine g_take hb163 (v_ld1 (st.sub _ _ (le47 _ _ f164)) (take_at (j := 0) k164 rfl) ?_); refine g_take hb163 (v_fa ?_); refine g_take hb163 (v_ld1 (st.at (i := 0) rfl).2.2 rfl ?_); refine g_take hb163 (v_move ?_); obtain ⟨n165, x165, z165, l165, g165, hF⟩ := ix_some hF; obtain ⟨b165, o165, s165, j165, r165, e165, f165, k165, ⟨_, _, rfl, rfl, ⟨_, _, rfl, rfl, ⟨_, _, rfl, rfl, ⟨_, _, rfl, rfl, rfl⟩⟩⟩⟩⟩ := RowF.get ra0_2 g165
                refine g_take hb163 (v_ixp e165 z165 l165 ?_); refine g_take hb163 (v_fa ?_); refine g_take hb163 (v_fa ?_); refine g_take hb163 (v_ld1 (st.sub _ _ (le47 _ _ f165)) (take_at (j := 4) k165 rfl) ?_); refine g_take hb163 (v_gtr ?_); refine v_pick' hb163 ?_; refine r_nil ?_; obtain rfl := inj hF; refine thn ⟨rfl, ?_⟩; dsimp only
                exact ⟨F46, rfl, (PH.le.refl _), st, gA, gA, gA, gA, gA, gA, gA, gA, gA⟩
          · obtain ⟨F159, rfl, le159, st, t2, t3, t7, t9, t10, t34, t35, t36, t71⟩ := hp
            have le166 := PH.le.trans le47 le159
            have le167 := PH.le.trans le46 le159
            refine v_cond (fun hb168 => ?_) (fun hb168 => ?_)
            · have hF := bif_t hb168 hF; refine w_seq ?_; refine w_reg ?_; refine v_move ?_; refine r_nil ?_; refine th_n ?_; refine w_ret ?_; obtain rfl := inj hF; have hF := hK145; have hF := sel_l hF; refine th_r ?_; refine ib_r ?_; refine th_r ?_; refine th_r ?_; refine ⟨_, (inj hF).symm, .inl ⟨_, rfl, rfl, rfl, ?_⟩⟩; dsimp only
              exact ⟨F159, rfl, le167, (st.drop (by first | exact List.Sublist.refl _ | (repeat first | exact List.nil_sublist _ | refine List.Sublist.cons_cons _ ?_ | refine List.Sublist.cons _ ?_))), gA⟩
            · have hF := bif_f hb168 hF; refine w_skip ?_; obtain rfl := inj hF; refine thn ⟨rfl, _, rfl, ?_⟩; dsimp only
              exact ⟨F159, rfl, le159, st, gA, gA, gA, gA, gA, gA, gA, gA⟩
        · obtain ⟨w148, rfl, F149, rfl, le149, st, t2, t3, t7, t9, t10, t34, t35, t36⟩ := hp; have hF := sel_r hF
          have le171 := PH.le.trans le47 le149
          have le172 := PH.le.trans le46 le149
          refine w_drawV (Nat.le_trans hfl st.ext.le) (fun dw => ?_); refine y_end st.d dw rfl (fun h173 ex vs => ?_)
          have st := st.ext1 ex
          refine v_fa ?_; refine v_ldn (vs := (eB 8 v117.1)) (st.at (i := 2) rfl).2.2 rfl ?_; refine v_move ?_; refine v_move ?_; obtain ⟨n174, x174, z174, l174, g174, hF⟩ := ix_some hF; obtain ⟨b174, o174, s174, j174, r174, e174, f174, k174, rfl⟩ := RowF.get ra2 g174; refine v_ixp e174 z174 l174 ?_; refine v_ld1 (st.sub _ _ (le171 _ _ f174)) (take_at (j := 0) k174 rfl) ?_; refine v_build (cs := ((eB 8 v117.1) ++ [(i64 x174)])) rfl ?_; refine v_st (v := (.agg ((eB 8 v117.1) ++ [(i64 x174)]))) (cs' := ((eB 8 v117.1) ++ [(i64 x174)])) st 1 rfl rfl rfl rfl hfl (fun h175 st => ?_); refine r_nil ?_; refine ib_n ?_; refine th_n ?_; refine w_reg ?_; obtain ⟨q176, hF⟩ := ck_some hF; refine v_add q176 ?_
          refine v_move ?_; refine r_nil ?_; refine thn ⟨_, (inj hF).symm, rfl, ?_⟩; dsimp only
          exact ⟨F149, rfl, le172, (st.drop (by first | exact List.Sublist.refl _ | (repeat first | exact List.nil_sublist _ | refine List.Sublist.cons_cons _ ?_ | refine List.Sublist.cons _ ?_))), gA, gA, gA, gA, gA, gA⟩
      · have hF := bif_f hb115 hF; refine w_exit ?_; refine th_e ?_; refine th_e ?_; refine ⟨_, (inj hF).symm, .inr (⟨_, rfl, rfl, rfl, ?_⟩)⟩; dsimp only
        exact ⟨F46, rfl, le46, st⟩
    · rcases hq with hq | hq
      · obtain ⟨N9, T, ds112⟩ := a; obtain ⟨h178, n179⟩ := σ; obtain ⟨w111, rfl, rfl, e1, F112, e2, le112, st, t6⟩ := hq
        dsimp only at e1 e2
        subst e1
        subst e2
        dsimp only at st t6
        have le177 := PH.le.trans le25 le112
        have hF := sel_l hF; refine ib_r ?_; refine th_r ?_; obtain rfl := inj hF
        exact end_s st (Res.t gA Res.nil) rfl rfl
      · obtain ⟨N9, T, ds114⟩ := a; obtain ⟨h181, n182⟩ := σ; obtain ⟨w113, rfl, rfl, e1, F114, e2, le114, st⟩ := hq
        dsimp only at e1 e2
        subst e1
        subst e2
        dsimp only at st
        have le180 := PH.le.trans le25 le114
        have hF := sel_r hF; refine ib_e ?_; refine th_n ?_; refine w_seq ?_; refine w_reg ?_; refine v_move ?_; refine r_nil ?_; refine th_n ?_; refine w_ret ?_; obtain rfl := inj hF
        exact end_s st (Res.t gA Res.nil) rfl rfl
theorem ct21 (N : Nat) {a0_0 : Int} {a0_1 : Int} {a0_2 : (List (Int × Int × Int × Int × Int))} {r : Int} (hF : sf21 N a0_0 a0_1 a0_2 = some r) {fl : Nat} {h0 : Tr HBlk} {n0 : Nat} {F0 : PH} (hd : D h0 n0) (hs : F0.sub h0) {pa0_2 : Option (Nat × Nat)} {ca0_2 : Nat} (ra0_2 : RowF (rP rI (rP rI (rP rI (rP rI rI)))) 5 F0 pa0_2 ca0_2 a0_2) : C LW fl 21 [(.agg [(i64 a0_0), (i64 a0_1), (.slice pa0_2 (a0_2).length ca0_2)])] ⟨h0, n0⟩ (KS (i64 r) n0 h0) := by
  unfold sf21 at hF
  refine in_cT hd hs lw21 rfl rfl (by rfl) (fun st T hT => ?_)
  have hfl : n0 ≤ n0 := Nat.le_refl n0
  have t0 := hT 0 _ rfl
  dsimp only [L21]
  refine w_seq ?_; refine w_reg ?_; refine v_box st (fun b1 h2 n3 st => ?_); refine v_move ?_; refine r_nil ?_; refine th_n ?_; refine w_seq ?_; refine w_reg ?_; refine v_ldn (vs := [(i64 a0_0), (i64 a0_1), (.slice pa0_2 (a0_2).length ca0_2)]) (st.at (i := 0) rfl).2.2 rfl ?_; obtain ⟨v4, e5, hF⟩ := bnd_some hF; refine v_call st (ct48 N e5 st.d st.sub ra0_2) (fun n6 st => ?_); refine v_move ?_; refine r_nil ?_; refine th_n ?_; refine w_ret ?_; obtain rfl := inj hF
  exact end_s st (Res.t gA Res.nil) rfl rfl
end Go.Hx.V

/- Functions of the program come to that. -/
namespace Go.Hx.V
open Go.Hx
set_option linter.unusedVariables false
set_option maxRecDepth 20000
set_option maxHeartbeats 4000000
attribute [local irreducible] W R C thenH inBlockH Tr.get Tr.set lo ck bnd ix iter
theorem ct81 (N : Nat) {a0 : Int} {a1 : (List Int)} {r : Int} (hF : sf81 N a0 a1 = some r) {fl : Nat} {h0 : Tr HBlk} {n0 : Nat} {F0 : PH} (hd : D h0 n0) (hs : F0.sub h0) {pa1 : Option (Nat × Nat)} {ca1 : Nat} (ra1 : RowF rI 1 F0 pa1 ca1 a1) : C LW fl 81 [(i64 a0), (.slice pa1 (a1).length ca1)] ⟨h0, n0⟩ (KS (i64 r) n0 h0) := by
  unfold sf81 at hF
  refine in_cT hd hs lw81 rfl rfl (by rfl) (fun st T hT => ?_)
  have hfl : n0 ≤ n0 := Nat.le_refl n0
  have t0 := hT 0 _ rfl
  have t1 := hT 1 _ rfl
  dsimp only [L81]
  refine w_seq ?_; refine w_reg ?_; refine v_move ?_; refine r_nil ?_; refine th_n ?_; refine w_seq ?_; refine w_seq ?_; refine w_reg ?_; refine v_move ?_; refine v_len ?_; refine v_move ?_; refine r_nil ?_; refine th_n ?_; refine w_block ?_; obtain ⟨y8, hy, hF⟩ := bnd_some hF; refine v_loopD (sf81_L1 a1) (fun x1 T ds2 h nx => ∃ (F2 : PH), ds2 = [] ∧ PH.le F0 F2 ∧ St n0 h0 F0 F2 h nx [] ∧ T.get 0 = some (i64 x1.1) ∧ T.get 7 = some (.slice pa1 (a1).length ca1) ∧ T.get 8 = some (i64 ((a1).length : Int)) ∧ T.get 9 = some (i64 x1.2)) (fun y e a σ => e = .exit 0 ∧ a.nt = 19 ∧ ∃ (F9 : PH), a.defers = [] ∧ PH.le F0 F9 ∧ St n0 h0 F0 F9 σ.h σ.nx [] ∧ a.tmps.get 0 = some (i64 y)) (fun x1 T ds2 hc2 nc2 s hp hF => ?_) N _ y8 _ _ _ _ hy ⟨F0, rfl, (PH.le.refl _), st, gA, gA, gA, gA⟩ (fun e a σ hne hq => ?_)
  · obtain ⟨F2, rfl, le2, st, t0, t7, t8, t9⟩ := hp; unfold sf81_L1 at hF; unfold L81w0; refine w_seq ?_; refine w_reg ?_; refine v_lss ?_; refine r_nil ?_; refine th_n ?_; refine w_seq ?_; refine v_cond (fun hb10 => ?_) (fun hb10 => ?_)
    · have hF := bif_t hb10 hF; refine w_skip ?_; refine th_n ?_; refine w_seq ?_; refine w_block ?_; refine w_seq ?_; refine w_reg ?_; obtain ⟨n11, x11, z11, l11, g11, hF⟩ := ix_some hF; obtain ⟨b11, o11, s11, j11, r11, e11, f11, k11, rfl⟩ := RowF.get ra1 g11; refine v_ixp e11 z11 l11 ?_; refine v_ld1 (st.sub _ _ (le2 _ _ f11)) (take_at (j := 0) k11 rfl) ?_; refine v_move ?_; refine r_nil ?_; refine th_n ?_; refine w_seq ?_; refine w_reg ?_; refine v_move ?_; refine v_move ?_; refine v_lss ?_; refine r_nil ?_; refine th_n ?_; refine v_cond (fun hb12 => ?_) (fun hb12 => ?_)
      · have hF := bif_t hb12 hF; refine w_reg ?_; refine v_move ?_; refine v_move ?_; refine r_nil ?_; refine ib_n ?_; refine th_n ?_; refine w_reg ?_; obtain ⟨q13, hF⟩ := ck_some hF; refine v_add q13 ?_; refine v_move ?_; refine r_nil ?_; refine thn ⟨_, (inj hF).symm, rfl, ?_⟩; dsimp only
        exact ⟨F2, rfl, le2, st, gA, gA, gA, gA⟩
      · have hF := bif_f hb12 hF; refine w_skip ?_; refine ib_n ?_; refine th_n ?_; refine w_reg ?_; obtain ⟨q14, hF⟩ := ck_some hF; refine v_add q14 ?_; refine v_move ?_; refine r_nil ?_; refine thn ⟨_, (inj hF).symm, rfl, ?_⟩; dsimp only
        exact ⟨F2, rfl, le2, st, gA, gA, gA, gA⟩
    · have hF := bif_f hb10 hF; refine w_exit ?_; refine th_e ?_; refine th_e ?_; refine ⟨_, (inj hF).symm, rfl, rfl, ?_⟩; dsimp only
      exact ⟨F2, rfl, le2, st, gA⟩
  · obtain ⟨N9, T, ds9⟩ := a; obtain ⟨h15, n16⟩ := σ; obtain ⟨rfl, e1, F9, e2, le9, st, t0⟩ := hq
    dsimp only at e1 e2
    subst e1
    subst e2
    dsimp only at st t0
    refine ib_e ?_; refine th_n ?_; refine w_seq ?_; refine w_reg ?_; refine v_move ?_; refine v_move ?_; refine r_nil ?_; refine th_n ?_; refine w_ret ?_; obtain rfl := inj hF
    exact end_s st (Res.t gA Res.nil) rfl rfl
theorem ct90 (N : Nat) {a0_0 : Int} {a0_1 : Int} {r : Int} (hF : sf90 N a0_0 a0_1 = some r) {fl : Nat} {h0 : Tr HBlk} {n0 : Nat} {F0 : PH} (hd : D h0 n0) (hs : F0.sub h0) : C LW fl 90 [(.agg [(i64 a0_0), (i64 a0_1)])] ⟨h0, n0⟩ (KS (i64 r) n0 h0) := by
  unfold sf90 at hF
  refine in_cT hd hs lw90 rfl rfl (by rfl) (fun st T hT => ?_)
  have hfl : n0 ≤ n0 := Nat.le_refl n0
  have t0 := hT 0 _ rfl
  dsimp only [L90]
  refine w_seq ?_; refine w_reg ?_; refine v_box st (fun b1 h2 n3 st => ?_); refine v_move ?_; refine r_nil ?_; refine th_n ?_; refine w_seq ?_; refine w_reg ?_; refine v_fa ?_; refine v_ld1 (st.at (i := 0) rfl).2.2 rfl ?_; refine v_move ?_; refine r_nil ?_; refine th_n ?_; refine w_ret ?_; obtain rfl := inj hF
  exact end_s st (Res.t gA Res.nil) rfl rfl
theorem ct69 (N : Nat) {a0_0 : Int} {a0_1 : Int} {r : Bool} (hF : sf69 N a0_0 a0_1 = some r) {fl : Nat} {h0 : Tr HBlk} {n0 : Nat} {F0 : PH} (hd : D h0 n0) (hs : F0.sub h0) : C LW fl 69 [(.agg [(i64 a0_0), (i64 a0_1)])] ⟨h0, n0⟩ (KS (.bool r) n0 h0) := by
  unfold sf69 at hF
  refine in_cT hd hs lw69 rfl rfl (by rfl) (fun st T hT => ?_)
  have hfl : n0 ≤ n0 := Nat.le_refl n0
  have t0 := hT 0 _ rfl
  dsimp only [L69]
  refine w_seq ?_; refine w_reg ?_; refine v_box st (fun b1 h2 n3 st => ?_); refine v_move ?_; refine r_nil ?_; refine th_n ?_; refine w_seq ?_; refine w_reg ?_; refine v_fa ?_; refine v_ld1 (st.at (i := 0) rfl).2.2 rfl ?_; refine v_fa ?_; refine v_ld1 (st.at (i := 0) rfl).2.2 rfl ?_; refine v_leq ?_; refine v_move ?_; refine r_nil ?_; refine th_n ?_; refine w_ret ?_; obtain rfl := inj hF
  exact end_s st (Res.t gA Res.nil) rfl rfl
end Go.Hx.V

/- Functions of the program come to that. -/
namespace Go.Hx.V
open Go.Hx
set_option linter.unusedVariables false
set_option maxRecDepth 20000
set_option maxHeartbeats 4000000
attribute [local irreducible] W R C thenH inBlockH Tr.get Tr.set lo ck bnd ix iter
theorem ct87 (N : Nat) {a1 : (List (Int × Int))} {r : Int} (hF : sf87 N a1 = some r) {fl : Nat} {h0 : Tr HBlk} {n0 : Nat} {F0 : PH} (hd : D h0 n0) (hs : F0.sub h0) {pa1 : Option (Nat × Nat)} {ca1 : Nat} (ra1 : RowF (rP rI rI) 2 F0 pa1 ca1 a1) : C LW fl 87 [(.agg [(.func 89 [] []), (.func 81 [] [])]), (.slice pa1 (a1).length ca1)] ⟨h0, n0⟩ (KS (i64 r) n0 h0) := by
  unfold sf87 at hF
  refine in_cT hd hs lw87 rfl rfl (by rfl) (fun st T hT => ?_)
  have hfl : n0 ≤ n0 := Nat.le_refl n0
  have t0 := hT 0 _ rfl
  have t1 := hT 1 _ rfl
  dsimp only [L87]
  refine w_seq ?_; refine w_reg ?_; refine v_box st (fun b1 h2 n3 st => ?_); refine v_move ?_; refine r_nil ?_; refine th_n ?_; refine w_seq ?_; refine w_reg ?_; refine v_move ?_; refine v_len ?_; obtain ⟨q4, hF⟩ := ck_some hF
  have w4 : LR rI 1 F0 (List.replicate (Int.toNat (0 : Int)) (0 : Int)) (Go.Hx.repl (Int.toNat (0 : Int)) [(i64 (0 : Int))]) := LR.repl (rfl) _
  refine v_mk st (n := (List.replicate (Int.toNat (0 : Int)) (0 : Int)).length) q4.1 q4.2.1 (by simp) q4.2.2.1 q4.2.2.2 (fun o4 h4 n4 st => ?_)
  refine v_move ?_; refine r_nil ?_; refine th_n ?_; refine w_seq ?_; refine w_seq ?_; refine w_reg ?_; refine v_move ?_; refine v_len ?_; refine v_move ?_; refine r_nil ?_; refine th_n ?_; refine w_block ?_; obtain ⟨y39, hy, hF⟩ := bnd_some hF; refine v_loopD (sf87_L1 N a1) (fun x22 T ds23 h nx => ∃ (F23 : PH) (o24 : Option Nat) (c24 : Nat) (cs24 : List HV), ds23 = [] ∧ PH.le F0 F23 ∧ St n0 h0 F0 F23 h nx [.bx b1 [(.func 89 [] []), (.func 81 [] [])], .ls o24 c24 cs24 1] ∧ LR rI 1 F23 x22.1 cs24 ∧ T.get 2 = some (.ptr (some (b1, 0))) ∧ T.get 5 = some (slv o24 (x22.1).length c24) ∧ T.get 11 = some (.slice pa1 (a1).length ca1) ∧ T.get 12 = some (i64 ((a1).length : Int)) ∧ T.get 13 = some (i64 x22.2)) (fun y e a σ => e = .exit 0 ∧ a.nt = 33 ∧ ∃ (F40 : PH) (o41 : Option Nat) (c41 : Nat) (cs41 : List HV), a.defers = [] ∧ PH.le F0 F40 ∧ St n0 h0 F0 F40 σ.h σ.nx [.bx b1 [(.func 89 [] []), (.func 81 [] [])], .ls o41 c41 cs41 1] ∧ LR rI 1 F40 y cs41 ∧ a.tmps.get 2 = some (.ptr (some (b1, 0))) ∧ a.tmps.get 5 = some (slv o41 (y).length c41)) (fun x22 T ds23 hc23 nc23 s hp hF => ?_) N _ y39 _ _ _ _ hy ⟨F0, o4, (Int.toNat ((a1).length : Int)), (Go.Hx.repl (Int.toNat (0 : Int)) [(i64 (0 : Int))]), rfl, (PH.le.refl _), st, w4, gA, gA, gA, gA, gA⟩ (fun e a σ hne hq => ?_)
  · obtain ⟨F23, o24, c24, cs24, rfl, le23, st, w24, t2, t5, t11, t12, t13⟩ := hp; unfold sf87_L1 at hF; unfold L87w0; refine w_seq ?_; refine w_reg ?_; refine v_lss ?_; refine r_nil ?_; refine th_n ?_; refine w_seq ?_; refine v_cond (fun hb42 => ?_) (fun hb42 => ?_)
    · have hF := bif_t hb42 hF; refine w_skip ?_; refine th_n ?_; refine w_seq ?_; refine w_block ?_; refine w_seq ?_; refine w_reg ?_; obtain ⟨n43, x43, z43, l43, g43, hF⟩ := ix_some hF; obtain ⟨b43, o43, s43, j43, r43, e43, f43, k43, ⟨_, _, rfl, rfl, rfl⟩⟩ := RowF.get ra1 g43; refine v_ixp e43 z43 l43 ?_; refine v_ldn (st.sub _ _ (le23 _ _ f43)) k43 ?_; refine v_alloc st (fun b44 h45 n46 st => ?_); refine v_st (cs' := [(i64 x43.1), (i64 x43.2)]) st 2 rfl rfl rfl rfl hfl (fun h47 st => ?_); refine r_nil ?_; refine th_n ?_; refine w_reg ?_; refine v_move ?_; refine v_fa ?_; refine v_ld1 (st.at (i := 0) rfl).2.2 rfl ?_; refine v_ldn (vs := [(i64 x43.1), (i64 x43.2)]) (st.at (i := 2) rfl).2.2 rfl ?_
      obtain ⟨v48, e49, hF⟩ := bnd_some hF; refine v_call st (ct89 N e49 st.d st.sub ) (fun n50 st => ?_); refine v_bs (cs := [(i64 v48)]) st rfl (fun b51 h52 n53 st => ?_); obtain ⟨q54, hF⟩ := ck_some hF
      have w54 : LR rI 1 F23 (x22.1 ++ [v48]) (cs24 ++ [(i64 v48)]) := LR.app w24 (LR.one (rfl))
      refine v_aps (n := 1) (ox := 0) (m := (x22.1 ++ [v48]).length) (row := [(i64 v48)]) st 1 rfl w24.1 (st.at (i := 3) rfl).2.2 rfl rfl q54 hfl (by decide) (by decide) (by simp) (fun o54 c54 h54 n54 st => ?_)
      refine v_move ?_; refine r_nil ?_; refine ib_n ?_; refine th_n ?_; refine w_reg ?_; obtain ⟨q55, hF⟩ := ck_some hF; refine v_add q55 ?_; refine v_move ?_; refine r_nil ?_; refine thn ⟨_, (inj hF).symm, rfl, ?_⟩; dsimp only
      exact ⟨F23, o54, c54, (cs24 ++ [(i64 v48)]), rfl, le23, (st.drop (by first | exact List.Sublist.refl _ | (repeat first | exact List.nil_sublist _ | refine List.Sublist.cons_cons _ ?_ | refine List.Sublist.cons _ ?_))), w54, gA, gA, gA, gA, gA⟩
    · have hF := bif_f hb42 hF; refine w_exit ?_; refine th_e ?_; refine th_e ?_; refine ⟨_, (inj hF).symm, rfl, rfl, ?_⟩; dsimp only
      exact ⟨F23, o24, c24, cs24, rfl, le23, st, w24, gA, gA⟩
  · obtain ⟨N9, T, ds40⟩ := a; obtain ⟨h56, n57⟩ := σ; obtain ⟨rfl, e1, F40, o41, c41, cs41, e2, le40, st, w41, t2, t5⟩ := hq
    dsimp only at e1 e2
    subst e1
    subst e2
    dsimp only at st t2 t5
    refine ib_e ?_; refine th_n ?_; refine w_seq ?_
    obtain ⟨F58, le58, st, rf58⟩ := St.freeze st 1 rfl w41 (by decide)
    have le59 := PH.le.trans le40 le58
    refine w_drawV (Nat.le_trans hfl st.ext.le) (fun dw => ?_); refine y_pure st.d dw (fun hm vw => v_fa pr_nil) ?_; refine y_pure st.d dw (fun hm vw => v_ld1 (vw.bx (st.at (i := 0) rfl)) rfl pr_nil) ?_; refine y_pure st.d dw (fun hm vw => v_move pr_nil) ?_; obtain ⟨n60, x60, z60, l60, g60, hF⟩ := ix_some hF; obtain ⟨b60, o60, s60, j60, r60, e60, f60, k60, rfl⟩ := RowF.get rf58 g60; refine y_pure st.d dw (fun hm vw => v_ixp e60 z60 l60 pr_nil) ?_; refine y_pure st.d dw (fun hm vw => v_ld1 (vw.fz st f60) (take_at (j := 0) k60 rfl) pr_nil) ?_; refine y_pure st.d dw (fun hm vw => v_move pr_nil) ?_; obtain ⟨q61, hF⟩ := ck_some hF
    refine y_step st.d dw rfl rfl (fun hm vw => v_slf (m := ((y39.drop (Int.toNat (1 : Int))).take (y39.length - (Int.toNat (1 : Int)))).length) (Int.toNat (1 : Int)) y39.length rf58 (bd_some (by first | exact ev_c | (apply ev_t; repeat first | exact ge_h | refine ge_w rfl ?_ | refine ge_f rfl ?_ | refine ge_m rfl ?_ | assumption)) (Int.toNat_of_nonneg q61.1).symm) bd_none q61.2.2 (sl_len q61.2.2.2) (fun p61 c61 n62 hn' rs61 => r_nil (y_call dw hn' vw.d (fun dw => ?_))))
    refine y_end st.d dw rfl (fun h63 ex vs => ?_)
    have st := st.ext1 ex
    obtain ⟨v64, e65, hF⟩ := bnd_some hF; refine v_call st (ct81 N e65 st.d st.sub rs61) (fun n66 st => ?_); refine v_move ?_; refine r_nil ?_; refine th_n ?_; refine w_ret ?_; obtain rfl := inj hF
    exact end_s st (Res.t gA Res.nil) rfl rfl
theorem ct87_2 (N : Nat) {a1 : (List (Int × Int))} {r : Int} (hF : sf87_2 N a1 = some r) {fl : Nat} {h0 : Tr HBlk} {n0 : Nat} {F0 : PH} (hd : D h0 n0) (hs : F0.sub h0) {pa1 : Option (Nat × Nat)} {ca1 : Nat} (ra1 : RowF (rP rI rI) 2 F0 pa1 ca1 a1) : C LW fl 87 [(.agg [(.func 90 [] []), (.func 77 [] [])]), (.slice pa1 (a1).length ca1)] ⟨h0, n0⟩ (KS (i64 r) n0 h0) := by
  unfold sf87_2 at hF
  refine in_cT hd hs lw87 rfl rfl (by rfl) (fun st T hT => ?_)
  have hfl : n0 ≤ n0 := Nat.le_refl n0
  have t0 := hT 0 _ rfl
  have t1 := hT 1 _ rfl
  dsimp only [L87]
  refine w_seq ?_; refine w_reg ?_; refine v_box st (fun b1 h2 n3 st => ?_); refine v_move ?_; refine r_nil ?_; refine th_n ?_; refine w_seq ?_; refine w_reg ?_; refine v_move ?_; refine v_len ?_; obtain ⟨q4, hF⟩ := ck_some hF
  have w4 : LR rI 1 F0 (List.replicate (Int.toNat (0 : Int)) (0 : Int)) (Go.Hx.repl (Int.toNat (0 : Int)) [(i64 (0 : Int))]) := LR.repl (rfl) _
  refine v_mk st (n := (List.replicate (Int.toNat (0 : Int)) (0 : Int)).length) q4.1 q4.2.1 (by simp) q4.2.2.1 q4.2.2.2 (fun o4 h4 n4 st => ?_)
  refine v_move ?_; refine r_nil ?_; refine th_n ?_; refine w_seq ?_; refine w_seq ?_; refine w_reg ?_; refine v_move ?_; refine v_len ?_; refine v_move ?_; refine r_nil ?_; refine th_n ?_; refine w_block ?_; obtain ⟨y39, hy, hF⟩ := bnd_some hF; refine v_loopD (sf87_2_L1 N a1) (fun x22 T ds23 h nx => ∃ (F23 : PH) (o24 : Option Nat) (c24 : Nat) (cs24 : List HV), ds23 = [] ∧ PH.le F0 F23 ∧ St n0 h0 F0 F23 h nx [.bx b1 [(.func 90 [] []), (.func 77 [] [])], .ls o24 c24 cs24 1] ∧ LR rI 1 F23 x22.1 cs24 ∧ T.get 2 = some (.ptr (some (b1, 0))) ∧ T.get 5 = some (slv o24 (x22.1).length c24) ∧ T.get 11 = some (.slice pa1 (a1).length ca1) ∧ T.get 12 = some (i64 ((a1).length : Int)) ∧ T.get 13 = some (i64 x22.2)) (fun y e a σ => e = .exit 0 ∧ a.nt = 33 ∧ ∃ (F40 : PH) (o41 : Option Nat) (c41 : Nat) (cs41 : List HV), a.defers = [] ∧ PH.le F0 F40 ∧ St n0 h0 F0 F40 σ.h σ.nx [.bx b1 [(.func 90 [] []), (.func 77 [] [])], .ls o41 c41 cs41 1] ∧ LR rI 1 F40 y cs41 ∧ a.tmps.get 2 = some (.ptr (some (b1, 0))) ∧ a.tmps.get 5 = some (slv o41 (y).length c41)) (fun x22 T ds23 hc23 nc23 s hp hF => ?_) N _ y39 _ _ _ _ hy ⟨F0, o4, (Int.toNat ((a1).length : Int)), (Go.Hx.repl (Int.toNat (0 : Int)) [(i64 (0 : Int))]), rfl, (PH.le.refl _), st, w4, gA, gA, gA, gA, gA⟩ (fun e a σ hne hq => ?_)
  · obtain ⟨F23, o24, c24, cs24, rfl, le23, st, w24, t2, t5, t11, t12, t13⟩ := hp; unfold sf87_2_L1 at hF; unfold L87w0; refine w_seq ?_; refine w_reg ?_; refine v_lss ?_; refine r_nil ?_; refine th_n ?_; refine w_seq ?_; refine v_cond (fun hb42 => ?_) (fun hb42 => ?_)
    · have hF := bif_t hb42 hF; refine w_skip ?_; refine th_n ?_; refine w_seq ?_; refine w_block ?_; refine w_seq ?_; refine w_reg ?_; obtain ⟨n43, x43, z43, l43, g43, hF⟩ := ix_some hF; obtain ⟨b43, o43, s43, j43, r43, e43, f43, k43, ⟨_, _, rfl, rfl, rfl⟩⟩ := RowF.get ra1 g43; refine v_ixp e43 z43 l43 ?_; refine v_ldn (st.sub _ _ (le23 _ _ f43)) k43 ?_; refine v_alloc st (fun b44 h45 n46 st => ?_); refine v_st (cs' := [(i64 x43.1), (i64 x43.2)]) st 2 rfl rfl rfl rfl hfl (fun h47 st => ?_); refine r_nil ?_; refine th_n ?_; refine w_reg ?_; refine v_move ?_; refine v_fa ?_; refine v_ld1 (st.at (i := 0) rfl).2.2 rfl ?_; refine v_ldn (vs := [(i64 x43.1), (i64 x43.2)]) (st.at (i := 2) rfl).2.2 rfl ?_
      obtain ⟨v48, e49, hF⟩ := bnd_some hF; refine v_call st (ct90 N e49 st.d st.sub ) (fun n50 st => ?_); refine v_bs (cs := [(i64 v48)]) st rfl (fun b51 h52 n53 st => ?_); obtain ⟨q54, hF⟩ := ck_some hF
      have w54 : LR rI 1 F23 (x22.1 ++ [v48]) (cs24 ++ [(i64 v48)]) := LR.app w24 (LR.one (rfl))
      refine v_aps (n := 1) (ox := 0) (m := (x22.1 ++ [v48]).length) (row := [(i64 v48)]) st 1 rfl w24.1 (st.at (i := 3) rfl).2.2 rfl rfl q54 hfl (by decide) (by decide) (by simp) (fun o54 c54 h54 n54 st => ?_)
      refine v_move ?_; refine r_nil ?_; refine ib_n ?_; refine th_n ?_; refine w_reg ?_; obtain ⟨q55, hF⟩ := ck_some hF; refine v_add q55 ?_; refine v_move ?_; refine r_nil ?_; refine thn ⟨_, (inj hF).symm, rfl, ?_⟩; dsimp only
      exact ⟨F23, o54, c54, (cs24 ++ [(i64 v48)]), rfl, le23, (st.drop (by first | exact List.Sublist.refl _ | (repeat first | exact List.nil_sublist _ | refine List.Sublist.cons_cons _ ?_ | refine List.Sublist.cons _ ?_))), w54, gA, gA, gA, gA, gA⟩
    · have hF := bif_f hb42 hF; refine w_exit ?_; refine th_e ?_; refine th_e ?_; refine ⟨_, (inj hF).symm, rfl, rfl, ?_⟩; dsimp only
      exact ⟨F23, o24, c24, cs24, rfl, le23, st, w24, gA, gA⟩
  · obtain ⟨N9, T, ds40⟩ := a; obtain ⟨h56, n57⟩ := σ; obtain ⟨rfl, e1, F40, o41, c41, cs41, e2, le40, st, w41, t2, t5⟩ := hq
    dsimp only at e1 e2
    subst e1
    subst e2
    dsimp only at st t2 t5
    refine ib_e ?_; refine th_n ?_; refine w_seq ?_
    obtain ⟨F58, le58, st, rf58⟩ := St.freeze st 1 rfl w41 (by decide)
    have le59 := PH.le.trans le40 le58
    refine w_drawV (Nat.le_trans hfl st.ext.le) (fun dw => ?_); refine y_pure st.d dw (fun hm vw => v_fa pr_nil) ?_; refine y_pure st.d dw (fun hm vw => v_ld1 (vw.bx (st.at (i := 0) rfl)) rfl pr_nil) ?_; refine y_pure st.d dw (fun hm vw => v_move pr_nil) ?_; obtain ⟨n60, x60, z60, l60, g60, hF⟩ := ix_some hF; obtain ⟨b60, o60, s60, j60, r60, e60, f60, k60, rfl⟩ := RowF.get rf58 g60; refine y_pure st.d dw (fun hm vw => v_ixp e60 z60 l60 pr_nil) ?_; refine y_pure st.d dw (fun hm vw => v_ld1 (vw.fz st f60) (take_at (j := 0) k60 rfl) pr_nil) ?_; refine y_pure st.d dw (fun hm vw => v_move pr_nil) ?_; obtain ⟨q61, hF⟩ := ck_some hF
    refine y_step st.d dw rfl rfl (fun hm vw => v_slf (m := ((y39.drop (Int.toNat (1 : Int))).take (y39.length - (Int.toNat (1 : Int)))).length) (Int.toNat (1 : Int)) y39.length rf58 (bd_some (by first | exact ev_c | (apply ev_t; repeat first | exact ge_h | refine ge_w rfl ?_ | refine ge_f rfl ?_ | refine ge_m rfl ?_ | assumption)) (Int.toNat_of_nonneg q61.1).symm) bd_none q61.2.2 (sl_len q61.2.2.2) (fun p61 c61 n62 hn' rs61 => r_nil (y_call dw hn' vw.d (fun dw => ?_))))
    refine y_end st.d dw rfl (fun h63 ex vs => ?_)
    have st := st.ext1 ex
    obtain ⟨v64, e65, hF⟩ := bnd_some hF; refine v_call st (ct77 N e65 st.d st.sub rs61) (fun n66 st => ?_); refine v_move ?_; refine r_nil ?_; refine th_n ?_; refine w_ret ?_; obtain rfl := inj hF
    exact end_s st (Res.t gA Res.nil) rfl rfl
theorem ct68 (N : Nat) {a0_0 : Int} {a0_1 : Int} {a0_2 : (List (Int × Int × Int × Int × Int))} {a0_3 : ME} {a1 : Int} {a2_0 : (Nat → Bool)} {a2_1 : Int} {r : (Int × Int)} (hF : sf68 N a0_0 a0_1 a0_2 a0_3 a1 a2_0 a2_1 = some r) {fl : Nat} {h0 : Tr HBlk} {n0 : Nat} {F0 : PH} (hd : D h0 n0) (hs : F0.sub h0) {pa0_2 : Option (Nat × Nat)} {ca0_2 : Nat} {pa0_3 : Option Nat} (ra0_2 : RowF (rP rI (rP rI (rP rI (rP rI rI)))) 5 F0 pa0_2 ca0_2 a0_2) (ra0_3 : MapF F0 pa0_3 a0_3) : C LW fl 68 [(.agg [(i64 a0_0), (i64 a0_1), (.slice pa0_2 (a0_2).length ca0_2), (.map pa0_3)]), (i64 a1), (.agg ((eB 8 a2_0) ++ [(i64 a2_1)]))] ⟨h0, n0⟩ (KS (.agg [(i64 r.1), (i64 r.2)]) n0 h0) := by
  unfold sf68 at hF
  refine in_cT hd hs lw68 rfl rfl (by rfl) (fun st T hT => ?_)
  have hfl : n0 ≤ n0 := Nat.le_refl n0
  have t0 := hT 0 _ rfl
  have t1 := hT 1 _ rfl
  have t2 := hT 2 _ rfl
  dsimp only [L68]
  refine w_seq ?_; refine w_reg ?_; refine v_box st (fun b1 h2 n3 st => ?_); refine v_box st (fun b4 h5 n6 st => ?_); refine v_alloc st (fun b7 h8 n9 st => ?_); refine r_nil ?_; refine th_n ?_; refine w_seq ?_; refine w_drawV (Nat.le_trans hfl st.ext.le) (fun dw => ?_); refine y_pure st.d dw (fun hm vw => v_fa pr_nil) ?_; refine y_pure st.d dw (fun hm vw => v_ld1 (vw.bx (st.at (i := 1) rfl)) rfl pr_nil) ?_; refine y_pure st.d dw (fun hm vw => v_fa pr_nil) ?_; refine y_pure st.d dw (fun hm vw => v_ld1 (vw.bx (st.at (i := 0) rfl)) rfl pr_nil) ?_; refine y_pure st.d dw (fun hm vw => v_ldn (vs := ((eB 8 a2_0) ++ [(i64 a2_1)])) (vw.bx (st.at (i := 1) rfl)) rfl pr_nil) ?_; obtain ⟨y10, e11, hF⟩ := bnd_some hF
  obtain ⟨x12, e13, hF⟩ := bnd_some hF; refine y_pure st.d dw (fun hm vw => v_lkE1 (kv := (.agg ((eB 8 a2_0) ++ [(i64 a2_1)]))) (MapF.at (vw.sub st) ra0_3) e11 (dI_some e13) rfl pr_nil) ?_; refine y_pure st.d dw (fun hm vw => v_fa pr_nil) ?_; refine y_pure st.d dw (fun hm vw => v_fa pr_nil) ?_; refine y_pure st.d dw (fun hm vw => v_ld1 (vw.bx (st.at (i := 0) rfl)) rfl pr_nil) ?_; refine y_pure st.d dw (fun hm vw => v_move pr_nil) ?_; obtain ⟨n14, x14, z14, l14, g14, hF⟩ := ix_some hF; obtain ⟨b14, o14, s14, j14, r14, e14, f14, k14, ⟨_, _, rfl, rfl, ⟨_, _, rfl, rfl, ⟨_, _, rfl, rfl, ⟨_, _, rfl, rfl, rfl⟩⟩⟩⟩⟩ := RowF.get ra0_2 g14; refine y_pure st.d dw (fun hm vw => v_ixp e14 z14 l14 pr_nil) ?_
  refine y_pure st.d dw (fun hm vw => v_fa pr_nil) ?_; refine y_pure st.d dw (fun hm vw => v_fa pr_nil) ?_; refine y_pure st.d dw (fun hm vw => v_ld1 (vw.fz st f14) (take_at (j := 4) k14 rfl) pr_nil) ?_; refine y_lay st.d dw (fun hm vw => u_bs (cs := [(i64 x14.2.2.2.2)]) rfl pr_nil) (fun done dw => ?_); obtain ⟨v15, e16, hF⟩ := bnd_some hF; refine y_flat st.d dw (fun hm vw => u_call (ct81 N e16 vw.d (all_sub _) (RowF.blk (F := F0) (vw.vis _ (List.mem_cons_self ..) rfl _ _ (if_pos rfl)) (show LR rI 1 F0 [x14.2.2.2.2] [(i64 x14.2.2.2.2)] from (LR.cons1 (x := x14.2.2.2.2) (r := [(i64 x14.2.2.2.2)]) (l := []) (cs := []) (rfl) LR.nil)) (vw.sub st))) (fun n' hn' => pf_nil hn')) (fun n17 hn' dw => ?_)
  refine y_end st.d dw rfl (fun h18 ex vs => ?_)
  have st := St.laid st ex (Lay.cons (b := n9) (cs := [(i64 x14.2.2.2.2)]) (by have := dw.le; omega) (vs _ (List.mem_cons_self ..) _ _ (if_pos rfl)) (Lay.nil (by have := dw.le; omega)))
  refine v_build (cs := [(i64 a2_1), (i64 v15)]) rfl ?_; refine v_st (cs' := [(i64 a2_1), (i64 v15)]) st 2 rfl rfl rfl rfl hfl (fun h19 st => ?_); refine r_nil ?_; refine th_n ?_; refine w_ret ?_; obtain rfl := inj hF
  exact end_s st (Res.c gA (st.at (i := 2) rfl).2.2 (show takeN _ _ = some [(i64 a2_1), (i64 v15)] from rfl) Res.nil) rfl rfl
end Go.Hx.V

