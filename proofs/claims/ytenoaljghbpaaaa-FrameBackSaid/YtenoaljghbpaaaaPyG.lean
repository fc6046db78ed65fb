/-
  Payloads: the program's Read of a GOAWAY, its order drawn.
-/
import Derived.Test.YtenoaljghbpaaaaPyF
import Derived.Test.YtenoaljghbpaaaaBag
import Derived.Test.YtenoaljghbpaaaaSbS
import Derived.Deep.RegionHeld
namespace Go.Proofs.Ytenoaljghbpaaaa
open Go.RowKit
set_option linter.unusedVariables false
set_option linter.unusedSimpArgs false

set_option maxRecDepth 100000 in
set_option maxHeartbeats 8000000 in
theorem pyRead_c7 (ty fl st : Nat) (v : Value) (l : List UInt8) (hty : ty < 256) (hfl : fl < 256) (hst : st < 4294967296) (w : World) (T F S : Int) (hT : (ty : Int) = T) (hF : (fl : Int) = F) (hS : (st : Int) = S) (hv : Bs w v l) (hl : l.length ≤ 1000000)
    (hm : misN ty st = false) (hs : sizN ty fl l.length = false) (ht : ty = 7) :
    Calls Try.prog 31 #[.agg #[.int .u8 T, .int .u8 F, .int .u32 S, v]] w fun e w' => RdP w.heap.size ty fl st l e w' ∧ Below w.heap.size w w' := by
  obtain rfl : T = 7 := by omega
  have H8 : Bx (8 ≤ l.length) := ⟨by
    have h := hs
    rw [ht] at h
    have h2 : decide (l.length < 8) = false := h
    have := of_decide_eq_false h2
    omega⟩
  have H4 : Bx (4 ≤ l.length) := ⟨by have := H8.out; omega⟩
  have H44 : Bx (4 ≤ (l.drop 4).length) := ⟨by have := H8.out; rw [List.length_drop]; omega⟩
  have HLM4 : Bx ((l.drop 4).length ≤ 1000000) := ⟨by rw [List.length_drop]; omega⟩
  have HLM8 : Bx ((l.drop 8).length ≤ 1000000) := ⟨by rw [List.length_drop]; omega⟩
  obtain ⟨v4, hsl4, hv40⟩ := hv.from_ 4 (by omega) (by have := H4.out; omega)
  obtain ⟨v8, hsl8, hv80⟩ := hv.from_ 8 (by omega) (by have := H8.out; omega)
  have HV4w := Bx.mk (hv40 w hv)
  have HV8w := Bx.mk (hv80 w hv)
  rw [show (4 : Int).toNat = 4 from rfl] at HV4w
  rw [show (8 : Int).toNat = 8 from rfl] at HV8w
  clear hv40 hv80
  have HMI := Bx.mk (fun W => misplaced_any ty st F v hst W 7 S hT hS)
  have HSI := Bx.mk (fun W (h : Bs W v l) => missized_any ty fl S v l hty hfl W 7 F hT hF h hl)
  have hpr : payR ty fl st l = 0 := by unfold payR; rw [if_neg (by rw [hm]; decide), if_neg (by rw [hs]; decide), if_neg (by rw [ht]; decide), if_neg (by omega)]
  rw [hm] at HMI
  rw [hs] at HSI
  have HB1 : Bx (Below w.heap.size w ((w.alloc (.cells #[.int .u8 7, .int .u8 F, .int .u32 S, v] 28)).alloc (.cells (payA nilV nilV 0 0 0) 50))) := ⟨((Below.refl _ _).alloc (Nat.le_refl _) _).alloc (by simp) _⟩
  have HF1 : Bx (Sb 28 ((w.alloc (.cells #[.int .u8 7, .int .u8 F, .int .u32 S, v] 28)).alloc (.cells (payA nilV nilV 0 0 0) 50)) w.heap.size #[.int .u8 7, .int .u8 F, .int .u32 S, v]) := ⟨(Sb.new _ w _).alloc _⟩
  have HZ1 : Bx (Sb 50 ((w.alloc (.cells #[.int .u8 7, .int .u8 F, .int .u32 S, v] 28)).alloc (.cells (payA nilV nilV 0 0 0) 50)) (w.heap.size + 1) (payA nilV nilV 0 0 0)) := ⟨Sb.newg _ _ _ (by simp) _⟩
  have HV := Bx.mk hv
  have HLM := Bx.mk hl
  have HPR := Bx.mk hpr
  clear hT hF hS hty hfl hst hv hl hm hpr hs
  unfold RdP
  go_enter Try.func31, Try.ntmps31
  go_upto_region 1 with fail
  obtain ⟨w1, hw1⟩ : ∃ W, (w.alloc (.cells #[.int .u8 7, .int .u8 F, .int .u32 S, v] 28)).alloc (.cells (payA nilV nilV 0 0 0) 50) = W := ⟨_, rfl⟩
  obtain ⟨g1, hg1⟩ : ∃ g, w.heap.size = g := ⟨_, rfl⟩
  obtain ⟨g2, hg2⟩ : ∃ g, w.heap.size + 1 = g := ⟨_, rfl⟩
  rw [hw1] at HB1 HF1 HZ1 ⊢
  have HBW := HB1
  rw [hg1] at HF1 ⊢
  rw [hg1, show g1 + 1 = g2 by omega] at HZ1
  rw [show g1 + 1 = g2 by omega]
  have HG : Bx (g1 < w1.heap.size ∧ g2 < w1.heap.size ∧ w.heap.size ≤ g2) := ⟨HF1.out.lt, HZ1.out.lt, by omega⟩
  obtain ⟨c0, c1, c2, c3⟩ := HF1.out.cellsF (Below.refl w1.heap.size w1) HG.out.1
  clear hw1 hg1 hg2
  go_upto_region 20 with (first
    | (go_at_call 82; refine (HMI.out _).mono ?_; rintro e w2 ⟨rfl, b2⟩; clear c0 c1 c2 c3; have HC := Bx.mk (b2); obtain ⟨c0, c1, c2, c3⟩ := HF1.out.cellsF HC.out HG.out.1; clear b2)
    | (go_at_call 83; refine (HSI.out _ (HV.out.keep (HBW.out.trans (HC.out.mono HBW.out.size)))).mono ?_; rintro e w3 ⟨rfl, b3⟩; clear c0 c1 c2 c3; replace HC := Bx.mk (HC.out.trans (b3.mono HC.out.size)); obtain ⟨c0, c1, c2, c3⟩ := HF1.out.cellsF HC.out HG.out.1; clear b3))
  have hSx := HC.out
  have k3 : ∀ W, Below w1.heap.size w1 W → W.cell? ⟨g1, 3, none⟩ = some v := fun W h => (HF1.out.cellsF h HG.out.1).2.2.2
  have HVS : ∀ W, Below w1.heap.size w1 W → Bs W v l := fun W h => HV.out.keep (HBW.out.trans (h.mono HBW.out.size))
  have HV4 : ∀ W, Below w1.heap.size w1 W → Bs W v4 (l.drop 4) := fun W h => HV4w.out.keep (HBW.out.trans (h.mono HBW.out.size))
  have HV8 : ∀ W, Below w1.heap.size w1 W → Bs W v8 (l.drop 8) := fun W h => HV8w.out.keep (HBW.out.trans (h.mono HBW.out.size))
  clear c0 c1 c2 c3
  refine wp_region_x 12 (fun W => Below w1.heap.size w1 W) (by kernel_rfl) (hSx.drew) (fun hHeld => ?_)
  refine wpAnyX_take0 (i := 0) (oi := ⟨some 49, Op.fieldAddr 28 (Operand.tmp 1) 3, 0, _, _, none⟩) (v := ?v0) rfl (by omega) (by kernel_rfl) (by kernel_rfl) (by kernel_rfl) (fun _ _ _ h => h) (Or.inl ⟨by rfl, ?y0⟩) (by assumption) ?r0
  case y0 =>
    intro W hSw
    try dsimp only at hSw
    go_simp
    try with_reducible rfl
  case r0 =>
  try simp only [Act.put, List.setIfInBounds_toArray, List.set_cons_zero, List.set_cons_succ]
  refine wpAnyX_take (i := 1) (oi := ⟨some 50, Op.load 22 (Operand.tmp 49), 22, _, _, none⟩) (v := ?v1) rfl (by omega) (by kernel_rfl) (by kernel_rfl) (by kernel_rfl) (by kernel_rfl) (by kernel_rfl) (fun _ _ _ h => h) (Or.inl ⟨by rfl, ?y1⟩) (by assumption) ?r1
  case y1 =>
    intro W hSw
    try dsimp only at hSw
    go_simp
    try with_reducible rfl
  case r1 =>
  try simp only [Act.put, List.setIfInBounds_toArray, List.set_cons_zero, List.set_cons_succ]
  refine wpAnyX_take0 (i := 3) (oi := ⟨some 52, Op.fieldAddr 28 (Operand.tmp 1) 3, 0, _, _, none⟩) (v := ?v3) rfl (by omega) (by kernel_rfl) (by kernel_rfl) (by kernel_rfl) (fun _ _ _ h => h) (Or.inl ⟨by rfl, ?y3⟩) (by assumption) ?r3
  case y3 =>
    intro W hSw
    try dsimp only at hSw
    go_simp
    try with_reducible rfl
  case r3 =>
  try simp only [Act.put, List.setIfInBounds_toArray, List.set_cons_zero, List.set_cons_succ]
  refine wpAnyX_take (i := 4) (oi := ⟨some 53, Op.load 22 (Operand.tmp 52), 22, _, _, none⟩) (v := ?v4) rfl (by omega) (by kernel_rfl) (by kernel_rfl) (by kernel_rfl) (by kernel_rfl) (by kernel_rfl) (fun _ _ _ h => h) (Or.inl ⟨by rfl, ?y4⟩) (by assumption) ?r4
  case y4 =>
    intro W hSw
    try dsimp only at hSw
    go_simp
    try with_reducible rfl
  case r4 =>
  try simp only [Act.put, List.setIfInBounds_toArray, List.set_cons_zero, List.set_cons_succ]
  refine wpAnyX_take0 (i := 5) (oi := ⟨some 54, Op.slice 22 (Operand.tmp 53) (some (Operand.const (Value.int IntKind.i64 4))) none none, 22, _, _, none⟩) (v := ?v5) rfl (by omega) (by kernel_rfl) (by kernel_rfl) (by kernel_rfl) (fun _ _ _ h => h) (Or.inl ⟨by rfl, ?y5⟩) (by assumption) ?r5
  case y5 =>
    intro W hSw
    try dsimp only at hSw
    go_simp
    try with_reducible rfl
  case r5 =>
  try simp only [Act.put, List.setIfInBounds_toArray, List.set_cons_zero, List.set_cons_succ]
  refine wpAnyX_take0 (i := 7) (oi := ⟨some 56, Op.fieldAddr 28 (Operand.tmp 1) 3, 0, _, _, none⟩) (v := ?v7) rfl (by omega) (by kernel_rfl) (by kernel_rfl) (by kernel_rfl) (fun _ _ _ h => h) (Or.inl ⟨by rfl, ?y7⟩) (by assumption) ?r7
  case y7 =>
    intro W hSw
    try dsimp only at hSw
    go_simp
    try with_reducible rfl
  case r7 =>
  try simp only [Act.put, List.setIfInBounds_toArray, List.set_cons_zero, List.set_cons_succ]
  refine wpAnyX_take (i := 8) (oi := ⟨some 57, Op.load 22 (Operand.tmp 56), 22, _, _, none⟩) (v := ?v8) rfl (by omega) (by kernel_rfl) (by kernel_rfl) (by kernel_rfl) (by kernel_rfl) (by kernel_rfl) (fun _ _ _ h => h) (Or.inl ⟨by rfl, ?y8⟩) (by assumption) ?r8
  case y8 =>
    intro W hSw
    try dsimp only at hSw
    go_simp
    try with_reducible rfl
  case r8 =>
  try simp only [Act.put, List.setIfInBounds_toArray, List.set_cons_zero, List.set_cons_succ]
  refine wpAnyX_take0 (i := 9) (oi := ⟨some 58, Op.slice 22 (Operand.tmp 57) (some (Operand.const (Value.int IntKind.i64 8))) none none, 22, _, _, none⟩) (v := ?v9) rfl (by omega) (by kernel_rfl) (by kernel_rfl) (by kernel_rfl) (fun _ _ _ h => h) (Or.inl ⟨by rfl, ?y9⟩) (by assumption) ?r9
  case y9 =>
    intro W hSw
    try dsimp only at hSw
    go_simp
    try with_reducible rfl
  case r9 =>
  try simp only [Act.put, List.setIfInBounds_toArray, List.set_cons_zero, List.set_cons_succ]
  refine wpAnyX_one (i := 2) (by kernel_rfl) rfl (fun K hK => ?_)
  go_simp
  go_at_call 86
  refine (low_any v l _ (HVS _ hHeld) H4.out HLM.out).mono ?_
  rintro e w5 ⟨rfl, hw5⟩
  subst hw5
  refine hK _ _ (fun _ => hHeld) ?_
  clear hK K
  try simp only [Act.put, List.setIfInBounds_toArray, List.set_cons_zero, List.set_cons_succ]
  refine wpAnyX_one (i := 6) (by kernel_rfl) rfl (fun K hK => ?_)
  go_simp
  go_at_call 87
  refine (four_any v4 _ _ (HV4 _ hHeld) H44.out HLM4.out).mono ?_
  rintro e w6 ⟨rfl, hw6⟩
  subst hw6
  refine hK _ _ (fun _ => hHeld) ?_
  clear hK K
  try simp only [Act.put, List.setIfInBounds_toArray, List.set_cons_zero, List.set_cons_succ]
  refine wpAnyX_one (i := 10) (by kernel_rfl) rfl (fun K hK => ?_)
  go_simp
  go_at_call 85
  refine (clone_any w1.heap.size v8 (l.drop 8) _ (HV8 _ hHeld) hHeld.size HLM8.out).mono ?_
  rintro e w9 ⟨u, rfl, hu, b9⟩
  obtain ⟨A0, n0, cc0, rfl⟩ := hu.shape
  have hS9 : Below w1.heap.size w1 w9 := hHeld.trans b9
  refine hK _ _ (fun _ => hS9) ?_
  clear hK K
  try simp only [Act.put, List.setIfInBounds_toArray, List.set_cons_zero, List.set_cons_succ]
  refine wpAnyX_take0 (i := 11) (oi := ⟨some 60, Op.build 50 #[(3, Operand.tmp 51), (2, Operand.tmp 55), (0, Operand.tmp 59)], 50, _, _, none⟩) (v := ?v11) rfl (by omega) (by kernel_rfl) (by kernel_rfl) (by kernel_rfl) (fun _ _ _ h => h) (Or.inl ⟨by rfl, ?y11⟩) (by assumption) ?r11
  case y11 =>
    intro W hSw
    try dsimp only at hSw
    go_simp
    try with_reducible rfl
  case r11 =>
  try simp only [Act.put, List.setIfInBounds_toArray, List.set_cons_zero, List.set_cons_succ]
  refine wpAnyX_one (i := 12) (by kernel_rfl) rfl (fun K hK => ?_)
  refine step_storeS rfl 50 _ _ rfl 50 g2 (payA nilV nilV 0 0 0) (payA (.slice A0 n0 cc0) nilV (be4 (l.drop 4) : Int) ((be4 l % 2147483648 : Nat) : Int) 0) rfl rfl (HZ1.out.below hS9 HG.out.2.1) pay_size rfl (by simp [payA, Value.oneCell']) ?_
  intro w8 hs8 hg8
  have HS8 := Bx.mk hs8
  have HB8 := Bx.mk ((HBW.out.trans (hS9.mono HBW.out.size)).grown hg8 (HBW.out.trans (hS9.mono HBW.out.size)).size (fun k hk => by injection hk with hk; have := HG.out.2.2; omega))
  clear hs8 hg8
  refine hK _ _ (fun h => absurd h (by decide)) ?_
  clear hK K
  try simp only [Act.put, List.setIfInBounds_toArray, List.set_cons_zero, List.set_cons_succ]
  refine wpAnyX_one (i := 13) (by kernel_rfl) rfl (fun K hK => ?_)
  go_simp
  refine hK _ _ (fun h => absurd h (by decide)) ?_
  clear hK K
  try simp only [Act.put, List.setIfInBounds_toArray, List.set_cons_zero, List.set_cons_succ]
  refine wpAnyX_done (by kernel_rfl) ?_ _
  go_wp2_with fail
  exact bodyPost_ret (ret_S Try.results31 _ _ g2 50 (payA (.slice A0 n0 cc0) (nilV) ((be4 (l.drop 4) : Int)) (((be4 l % 2147483648 : Nat) : Int)) (0)) _ _ rfl rfl HS8.out Try.underlying50 rfl pay_size) rfl ⟨⟨A0, n0, cc0, none, 0, 0, (be4 (l.drop 4) : Int), ((be4 l % 2147483648 : Nat) : Int), 0, by rw [HPR.out]; rfl, fun _ => ⟨fun h => absurd h (by omega), fun h => absurd h (by omega)⟩⟩, HB8.out⟩
end Go.Proofs.Ytenoaljghbpaaaa
