/-
  Payloads: the program's Read.
-/
import Derived.Test.YtenoaljghbpaaaaPyE
import Derived.Deep.RegionHeld
namespace Go.Proofs.Ytenoaljghbpaaaa
open Go.RowKit
set_option linter.unusedVariables false
set_option linter.unusedSimpArgs false

def isPad (ty : Nat) : Prop := ty = 0 ∨ ty = 1 ∨ ty = 5
instance (ty : Nat) : Decidable (isPad ty) := inferInstanceAs (Decidable (ty = 0 ∨ ty = 1 ∨ ty = 5))
/-- The rule that a frame breaks. -/
def payR (ty fl st : Nat) (l : List UInt8) : Nat :=
  if misN ty st = true then 2 else if sizN ty fl l.length = true then 1 else if isPad ty then (if l.length < aheadN ty fl + padN fl l then 6 else 0) else if ty = 8 then (if be4 l % 2147483648 = 0 then 3 else 0) else 0
theorem readPadded_any (ty fl : Nat) (S : Int) (v : Value) (l : List UInt8) (hty : ty < 256) (hfl : fl < 256) (w : World) (T F : Int) (hT : (ty : Int) = T) (hF : (fl : Int) = F) (hv : Bs w v l) (hl : l.length ≤ 1000000)
    (h8 : hasN fl 8 = true → 0 < l.length) :
    Calls Try.prog 84 #[.agg #[.int .u8 T, .int .u8 F, .int .u32 S, v]] w fun e w' => ∃ (A1 : Option Addr) (n1 c1 : Nat) (st : Int), e = .returned (.tuple #[.agg (payA (.slice A1 n1 c1) nilV 0 st 0), .int .i64 ((if l.length < aheadN ty fl + padN fl l then 6 else 0 : Nat) : Int)]) ∧
      (¬ l.length < aheadN ty fl + padN fl l → OwB w' w.heap.size (.slice A1 n1 c1) (dataN ty fl l) ∧ (ty ≠ 5 → st = 0)) ∧ Below w.heap.size w w' := by
  by_cases hno : l.length < aheadN ty fl + padN fl l
  · rw [if_pos hno]
    cases hx : hasN fl 8 with
    | false => exact (readPadded_no_false ty fl S v l hty hfl w T F hT hF hv hl h8 hno hx).mono fun e w' ⟨h1, h2⟩ => ⟨none, 0, 0, 0, h1, fun h => absurd hno h, h2⟩
    | true => exact (readPadded_no_true ty fl S v l hty hfl w T F hT hF hv hl h8 hno hx).mono fun e w' ⟨h1, h2⟩ => ⟨none, 0, 0, 0, h1, fun h => absurd hno h, h2⟩
  · rw [if_neg hno]
    by_cases h5 : ty = 5
    · cases hx : hasN fl 8 with
      | false => refine (readPadded_ok_false_true ty fl S v l hty hfl w T F hT hF hv hl h8 hno hx h5).mono ?_; rintro e w' ⟨u, h1, h2, h3⟩; obtain ⟨A, n, c, rfl⟩ := h2.shape; exact ⟨A, n, c, _, h1, fun _ => ⟨h2, fun h => absurd h5 h⟩, h3⟩
      | true => refine (readPadded_ok_true_true ty fl S v l hty hfl w T F hT hF hv hl h8 hno hx h5).mono ?_; rintro e w' ⟨u, h1, h2, h3⟩; obtain ⟨A, n, c, rfl⟩ := h2.shape; exact ⟨A, n, c, _, h1, fun _ => ⟨h2, fun h => absurd h5 h⟩, h3⟩
    · cases hx : hasN fl 8 with
      | false => refine (readPadded_ok_false_false ty fl S v l hty hfl w T F hT hF hv hl h8 hno hx h5).mono ?_; rintro e w' ⟨u, h1, h2, h3⟩; obtain ⟨A, n, c, rfl⟩ := h2.shape; exact ⟨A, n, c, _, h1, fun _ => ⟨h2, fun _ => rfl⟩, h3⟩
      | true => refine (readPadded_ok_true_false ty fl S v l hty hfl w T F hT hF hv hl h8 hno hx h5).mono ?_; rintro e w' ⟨u, h1, h2, h3⟩; obtain ⟨A, n, c, rfl⟩ := h2.shape; exact ⟨A, n, c, _, h1, fun _ => ⟨h2, fun _ => rfl⟩, h3⟩
theorem sizN_has (ty fl n : Nat) (hp : isPad ty) (h : sizN ty fl n = false) : hasN fl 8 = true → 0 < n := fun h8 => by
  unfold sizN at h
  have hp' : ty = 0 ∨ ty = 1 ∨ ty = 5 := hp
  rw [if_pos hp'] at h
  have h2 := of_decide_eq_false h
  have : 1 ≤ aheadN ty fl := by unfold aheadN; rw [if_pos h8]; omega
  omega
/-- What Read hands back. -/
def RdP (B : Nat) (ty fl st : Nat) (l : List UInt8) (e : Ending) (w' : World) : Prop :=
  ∃ (A1 : Option Addr) (n1 c1 : Nat) (A2 : Option Addr) (n2 c2 : Nat) (c s i : Int), e = .returned (.tuple #[.agg (payA (.slice A1 n1 c1) (.slice A2 n2 c2) c s i), .int .i64 (payR ty fl st l : Int)]) ∧
    (payR ty fl st l = 0 → (ty = 0 ∨ ty = 1 → OwB w' B (.slice A1 n1 c1) (dataN ty fl l) ∧ (.slice A2 n2 c2) = nilV ∧ c = 0 ∧ s = 0 ∧ i = 0) ∧ (ty = 9 → OwB w' B (.slice A1 n1 c1) l))
set_option maxRecDepth 100000 in
set_option maxHeartbeats 8000000 in
theorem pyRead_mis (ty fl st : Nat) (v : Value) (l : List UInt8) (hty : ty < 256) (hfl : fl < 256) (hst : st < 4294967296) (w : World) (T F S : Int) (hT : (ty : Int) = T) (hF : (fl : Int) = F) (hS : (st : Int) = S) (hv : Bs w v l) (hl : l.length ≤ 1000000)
    (hm : misN ty st = true) :
    Calls Try.prog 31 #[.agg #[.int .u8 T, .int .u8 F, .int .u32 S, v]] w fun e w' => RdP w.heap.size ty fl st l e w' ∧ Below w.heap.size w w' := by
  have HMI := Bx.mk (fun W => misplaced_any ty st F v hst W T S hT hS)
  have HSI := Bx.mk (fun W (h : Bs W v l) => missized_any ty fl S v l hty hfl W T F hT hF h hl)
  have hpr : payR ty fl st l = 2 := by unfold payR; rw [if_pos hm]
  rw [hm] at HMI
  skip
  have HB1 : Bx (Below w.heap.size w ((w.alloc (.cells #[.int .u8 T, .int .u8 F, .int .u32 S, v] 28)).alloc (.cells (payA nilV nilV 0 0 0) 50))) := ⟨((Below.refl _ _).alloc (Nat.le_refl _) _).alloc (by simp) _⟩
  have HF1 : Bx (Sb 28 ((w.alloc (.cells #[.int .u8 T, .int .u8 F, .int .u32 S, v] 28)).alloc (.cells (payA nilV nilV 0 0 0) 50)) w.heap.size #[.int .u8 T, .int .u8 F, .int .u32 S, v]) := ⟨(Sb.new _ w _).alloc _⟩
  have HZ1 : Bx (Sb 50 ((w.alloc (.cells #[.int .u8 T, .int .u8 F, .int .u32 S, v] 28)).alloc (.cells (payA nilV nilV 0 0 0) 50)) (w.heap.size + 1) (payA nilV nilV 0 0 0)) := ⟨Sb.newg _ _ _ (by simp) _⟩
  have HV := Bx.mk hv
  have HLM := Bx.mk hl
  have HPR := Bx.mk hpr
  clear hT hF hS hty hfl hst hv hl hm hpr 
  unfold RdP
  go_enter Try.func31, Try.ntmps31
  go_upto_region 1 with fail
  obtain ⟨w1, hw1⟩ : ∃ W, (w.alloc (.cells #[.int .u8 T, .int .u8 F, .int .u32 S, v] 28)).alloc (.cells (payA nilV nilV 0 0 0) 50) = W := ⟨_, rfl⟩
  obtain ⟨g1, hg1⟩ : ∃ g, w.heap.size = g := ⟨_, rfl⟩
  obtain ⟨g2, hg2⟩ : ∃ g, w.heap.size + 1 = g := ⟨_, rfl⟩
  rw [hw1] at HB1 HF1 HZ1 ⊢
  have HBW := HB1
  rw [hg1] at HF1 ⊢
  rw [hg1, show g1 + 1 = g2 by omega] at HZ1
  rw [show g1 + 1 = g2 by omega]
  have HG : Bx (g1 < w1.heap.size ∧ g2 < w1.heap.size ∧ w.heap.size ≤ g2) := ⟨HF1.out.lt, HZ1.out.lt, by omega⟩
  obtain ⟨c0, c1, c2, c3⟩ := HF1.out.cellsF (Below.refl w1.heap.size w1) HG.out.1
  clear hw1 hg1 hg2
  go_wp2_with (first
    | (go_at_call 82; refine (HMI.out _).mono ?_; rintro e w2 ⟨rfl, b2⟩; clear c0 c1 c2 c3; have HC := Bx.mk (b2); obtain ⟨c0, c1, c2, c3⟩ := HF1.out.cellsF HC.out HG.out.1; clear b2)
    | (with_reducible refine wpList_storeP g2 _ none none 0 0 0 0 (0) (0) (0) rfl rfl (HZ1.out.below HC.out HG.out.2.1) rfl ?_; intro w8 hs8 hg8; have HS8 := Bx.mk hs8; have HB8 := Bx.mk ((HBW.out.trans (HC.out.mono HBW.out.size)).grown hg8 (HBW.out.trans (HC.out.mono HBW.out.size)).size (fun k hk => by injection hk with hk; have := HG.out.2.2; omega)); clear hs8 hg8))
  exact bodyPost_ret (ret_S Try.results31 _ _ g2 50 (payA (nilV) (nilV) (0) (0) (0)) _ _ rfl rfl HS8.out Try.underlying50 rfl pay_size) rfl ⟨⟨none, 0, 0, none, 0, 0, 0, 0, 0, by rw [HPR.out]; rfl, fun h => by rw [HPR.out] at h; exact absurd h (by decide)⟩, HB8.out⟩
set_option maxRecDepth 100000 in
set_option maxHeartbeats 8000000 in
theorem pyRead_siz (ty fl st : Nat) (v : Value) (l : List UInt8) (hty : ty < 256) (hfl : fl < 256) (hst : st < 4294967296) (w : World) (T F S : Int) (hT : (ty : Int) = T) (hF : (fl : Int) = F) (hS : (st : Int) = S) (hv : Bs w v l) (hl : l.length ≤ 1000000)
    (hm : misN ty st = false) (hs : sizN ty fl l.length = true) :
    Calls Try.prog 31 #[.agg #[.int .u8 T, .int .u8 F, .int .u32 S, v]] w fun e w' => RdP w.heap.size ty fl st l e w' ∧ Below w.heap.size w w' := by
  have HMI := Bx.mk (fun W => misplaced_any ty st F v hst W T S hT hS)
  have HSI := Bx.mk (fun W (h : Bs W v l) => missized_any ty fl S v l hty hfl W T F hT hF h hl)
  have hpr : payR ty fl st l = 1 := by unfold payR; rw [if_neg (by rw [hm]; decide), if_pos hs]
  rw [hm] at HMI
  rw [hs] at HSI
  have HB1 : Bx (Below w.heap.size w ((w.alloc (.cells #[.int .u8 T, .int .u8 F, .int .u32 S, v] 28)).alloc (.cells (payA nilV nilV 0 0 0) 50))) := ⟨((Below.refl _ _).alloc (Nat.le_refl _) _).alloc (by simp) _⟩
  have HF1 : Bx (Sb 28 ((w.alloc (.cells #[.int .u8 T, .int .u8 F, .int .u32 S, v] 28)).alloc (.cells (payA nilV nilV 0 0 0) 50)) w.heap.size #[.int .u8 T, .int .u8 F, .int .u32 S, v]) := ⟨(Sb.new _ w _).alloc _⟩
  have HZ1 : Bx (Sb 50 ((w.alloc (.cells #[.int .u8 T, .int .u8 F, .int .u32 S, v] 28)).alloc (.cells (payA nilV nilV 0 0 0) 50)) (w.heap.size + 1) (payA nilV nilV 0 0 0)) := ⟨Sb.newg _ _ _ (by simp) _⟩
  have HV := Bx.mk hv
  have HLM := Bx.mk hl
  have HPR := Bx.mk hpr
  clear hT hF hS hty hfl hst hv hl hm hpr hs
  unfold RdP
  go_enter Try.func31, Try.ntmps31
  go_upto_region 1 with fail
  obtain ⟨w1, hw1⟩ : ∃ W, (w.alloc (.cells #[.int .u8 T, .int .u8 F, .int .u32 S, v] 28)).alloc (.cells (payA nilV nilV 0 0 0) 50) = W := ⟨_, rfl⟩
  obtain ⟨g1, hg1⟩ : ∃ g, w.heap.size = g := ⟨_, rfl⟩
  obtain ⟨g2, hg2⟩ : ∃ g, w.heap.size + 1 = g := ⟨_, rfl⟩
  rw [hw1] at HB1 HF1 HZ1 ⊢
  have HBW := HB1
  rw [hg1] at HF1 ⊢
  rw [hg1, show g1 + 1 = g2 by omega] at HZ1
  rw [show g1 + 1 = g2 by omega]
  have HG : Bx (g1 < w1.heap.size ∧ g2 < w1.heap.size ∧ w.heap.size ≤ g2) := ⟨HF1.out.lt, HZ1.out.lt, by omega⟩
  obtain ⟨c0, c1, c2, c3⟩ := HF1.out.cellsF (Below.refl w1.heap.size w1) HG.out.1
  clear hw1 hg1 hg2
  go_wp2_with (first
    | (go_at_call 82; refine (HMI.out _).mono ?_; rintro e w2 ⟨rfl, b2⟩; clear c0 c1 c2 c3; have HC := Bx.mk (b2); obtain ⟨c0, c1, c2, c3⟩ := HF1.out.cellsF HC.out HG.out.1; clear b2)
    | (go_at_call 83; refine (HSI.out _ (HV.out.keep (HBW.out.trans (HC.out.mono HBW.out.size)))).mono ?_; rintro e w3 ⟨rfl, b3⟩; clear c0 c1 c2 c3; replace HC := Bx.mk (HC.out.trans (b3.mono HC.out.size)); obtain ⟨c0, c1, c2, c3⟩ := HF1.out.cellsF HC.out HG.out.1; clear b3)
    | (with_reducible refine wpList_storeP g2 _ none none 0 0 0 0 (0) (0) (0) rfl rfl (HZ1.out.below HC.out HG.out.2.1) rfl ?_; intro w8 hs8 hg8; have HS8 := Bx.mk hs8; have HB8 := Bx.mk ((HBW.out.trans (HC.out.mono HBW.out.size)).grown hg8 (HBW.out.trans (HC.out.mono HBW.out.size)).size (fun k hk => by injection hk with hk; have := HG.out.2.2; omega)); clear hs8 hg8))
  exact bodyPost_ret (ret_S Try.results31 _ _ g2 50 (payA (nilV) (nilV) (0) (0) (0)) _ _ rfl rfl HS8.out Try.underlying50 rfl pay_size) rfl ⟨⟨none, 0, 0, none, 0, 0, 0, 0, 0, by rw [HPR.out]; rfl, fun h => by rw [HPR.out] at h; exact absurd h (by decide)⟩, HB8.out⟩
set_option maxRecDepth 100000 in
set_option maxHeartbeats 8000000 in
theorem pyRead_c9 (ty fl st : Nat) (v : Value) (l : List UInt8) (hty : ty < 256) (hfl : fl < 256) (hst : st < 4294967296) (w : World) (T F S : Int) (hT : (ty : Int) = T) (hF : (fl : Int) = F) (hS : (st : Int) = S) (hv : Bs w v l) (hl : l.length ≤ 1000000)
    (hm : misN ty st = false) (hs : sizN ty fl l.length = false) (ht : ty = 9) :
    Calls Try.prog 31 #[.agg #[.int .u8 T, .int .u8 F, .int .u32 S, v]] w fun e w' => RdP w.heap.size ty fl st l e w' ∧ Below w.heap.size w w' := by
  obtain rfl : T = 9 := by omega
  have HMI := Bx.mk (fun W => misplaced_any ty st F v hst W 9 S hT hS)
  have HSI := Bx.mk (fun W (h : Bs W v l) => missized_any ty fl S v l hty hfl W 9 F hT hF h hl)
  have hpr : payR ty fl st l = 0 := by unfold payR; rw [if_neg (by rw [hm]; decide), if_neg (by rw [hs]; decide), if_neg (by rw [ht]; decide), if_neg (by omega)]
  rw [hm] at HMI
  rw [hs] at HSI
  have HB1 : Bx (Below w.heap.size w ((w.alloc (.cells #[.int .u8 9, .int .u8 F, .int .u32 S, v] 28)).alloc (.cells (payA nilV nilV 0 0 0) 50))) := ⟨((Below.refl _ _).alloc (Nat.le_refl _) _).alloc (by simp) _⟩
  have HF1 : Bx (Sb 28 ((w.alloc (.cells #[.int .u8 9, .int .u8 F, .int .u32 S, v] 28)).alloc (.cells (payA nilV nilV 0 0 0) 50)) w.heap.size #[.int .u8 9, .int .u8 F, .int .u32 S, v]) := ⟨(Sb.new _ w _).alloc _⟩
  have HZ1 : Bx (Sb 50 ((w.alloc (.cells #[.int .u8 9, .int .u8 F, .int .u32 S, v] 28)).alloc (.cells (payA nilV nilV 0 0 0) 50)) (w.heap.size + 1) (payA nilV nilV 0 0 0)) := ⟨Sb.newg _ _ _ (by simp) _⟩
  have HV := Bx.mk hv
  have HLM := Bx.mk hl
  have HPR := Bx.mk hpr
  clear hT hF hS hty hfl hst hv hl hm hpr hs
  unfold RdP
  go_enter Try.func31, Try.ntmps31
  go_upto_region 1 with fail
  obtain ⟨w1, hw1⟩ : ∃ W, (w.alloc (.cells #[.int .u8 9, .int .u8 F, .int .u32 S, v] 28)).alloc (.cells (payA nilV nilV 0 0 0) 50) = W := ⟨_, rfl⟩
  obtain ⟨g1, hg1⟩ : ∃ g, w.heap.size = g := ⟨_, rfl⟩
  obtain ⟨g2, hg2⟩ : ∃ g, w.heap.size + 1 = g := ⟨_, rfl⟩
  rw [hw1] at HB1 HF1 HZ1 ⊢
  have HBW := HB1
  rw [hg1] at HF1 ⊢
  rw [hg1, show g1 + 1 = g2 by omega] at HZ1
  rw [show g1 + 1 = g2 by omega]
  have HG : Bx (g1 < w1.heap.size ∧ g2 < w1.heap.size ∧ w.heap.size ≤ g2) := ⟨HF1.out.lt, HZ1.out.lt, by omega⟩
  obtain ⟨c0, c1, c2, c3⟩ := HF1.out.cellsF (Below.refl w1.heap.size w1) HG.out.1
  clear hw1 hg1 hg2
  go_wp2_with (first
    | (go_at_call 82; refine (HMI.out _).mono ?_; rintro e w2 ⟨rfl, b2⟩; clear c0 c1 c2 c3; have HC := Bx.mk (b2); obtain ⟨c0, c1, c2, c3⟩ := HF1.out.cellsF HC.out HG.out.1; clear b2)
    | (go_at_call 83; refine (HSI.out _ (HV.out.keep (HBW.out.trans (HC.out.mono HBW.out.size)))).mono ?_; rintro e w3 ⟨rfl, b3⟩; clear c0 c1 c2 c3; replace HC := Bx.mk (HC.out.trans (b3.mono HC.out.size)); obtain ⟨c0, c1, c2, c3⟩ := HF1.out.cellsF HC.out HG.out.1; clear b3)
    | (go_at_call 85; refine (clone_any w1.heap.size v l _ (HV.out.keep (HBW.out.trans (HC.out.mono HBW.out.size))) HC.out.size HLM.out).mono ?_; rintro e w5 ⟨u, rfl, hu, b5⟩; obtain ⟨A0, n0, cc0, rfl⟩ := hu.shape; clear c0 c1 c2 c3; replace HC := Bx.mk (HC.out.trans b5); have HU := Bx.mk hu; clear hu b5)
    | (with_reducible refine wpList_storeP g2 _ A0 none n0 cc0 0 0 (0) (0) (0) rfl rfl (HZ1.out.below HC.out HG.out.2.1) rfl ?_; intro w8 hs8 hg8; have HS8 := Bx.mk hs8; have HB8 := Bx.mk ((HBW.out.trans (HC.out.mono HBW.out.size)).grown hg8 (HBW.out.trans (HC.out.mono HBW.out.size)).size (fun k hk => by injection hk with hk; have := HG.out.2.2; omega)); have HU8 := Bx.mk (HU.out.grownO hg8 HG.out.2.1); clear hs8 hg8))
  exact bodyPost_ret (ret_S Try.results31 _ _ g2 50 (payA (.slice A0 n0 cc0) (nilV) (0) (0) (0)) _ _ rfl rfl HS8.out Try.underlying50 rfl pay_size) rfl ⟨⟨A0, n0, cc0, none, 0, 0, 0, 0, 0, by rw [HPR.out]; rfl, fun _ => ⟨fun h => absurd h (by omega), fun _ => HU8.out.mono HBW.out.size⟩⟩, HB8.out⟩
set_option maxRecDepth 100000 in
set_option maxHeartbeats 8000000 in
theorem pyRead_c6 (ty fl st : Nat) (v : Value) (l : List UInt8) (hty : ty < 256) (hfl : fl < 256) (hst : st < 4294967296) (w : World) (T F S : Int) (hT : (ty : Int) = T) (hF : (fl : Int) = F) (hS : (st : Int) = S) (hv : Bs w v l) (hl : l.length ≤ 1000000)
    (hm : misN ty st = false) (hs : sizN ty fl l.length = false) (ht : ty = 6) :
    Calls Try.prog 31 #[.agg #[.int .u8 T, .int .u8 F, .int .u32 S, v]] w fun e w' => RdP w.heap.size ty fl st l e w' ∧ Below w.heap.size w w' := by
  obtain rfl : T = 6 := by omega
  have HMI := Bx.mk (fun W => misplaced_any ty st F v hst W 6 S hT hS)
  have HSI := Bx.mk (fun W (h : Bs W v l) => missized_any ty fl S v l hty hfl W 6 F hT hF h hl)
  have hpr : payR ty fl st l = 0 := by unfold payR; rw [if_neg (by rw [hm]; decide), if_neg (by rw [hs]; decide), if_neg (by rw [ht]; decide), if_neg (by omega)]
  rw [hm] at HMI
  rw [hs] at HSI
  have HB1 : Bx (Below w.heap.size w ((w.alloc (.cells #[.int .u8 6, .int .u8 F, .int .u32 S, v] 28)).alloc (.cells (payA nilV nilV 0 0 0) 50))) := ⟨((Below.refl _ _).alloc (Nat.le_refl _) _).alloc (by simp) _⟩
  have HF1 : Bx (Sb 28 ((w.alloc (.cells #[.int .u8 6, .int .u8 F, .int .u32 S, v] 28)).alloc (.cells (payA nilV nilV 0 0 0) 50)) w.heap.size #[.int .u8 6, .int .u8 F, .int .u32 S, v]) := ⟨(Sb.new _ w _).alloc _⟩
  have HZ1 : Bx (Sb 50 ((w.alloc (.cells #[.int .u8 6, .int .u8 F, .int .u32 S, v] 28)).alloc (.cells (payA nilV nilV 0 0 0) 50)) (w.heap.size + 1) (payA nilV nilV 0 0 0)) := ⟨Sb.newg _ _ _ (by simp) _⟩
  have HV := Bx.mk hv
  have HLM := Bx.mk hl
  have HPR := Bx.mk hpr
  clear hT hF hS hty hfl hst hv hl hm hpr hs
  unfold RdP
  go_enter Try.func31, Try.ntmps31
  go_upto_region 1 with fail
  obtain ⟨w1, hw1⟩ : ∃ W, (w.alloc (.cells #[.int .u8 6, .int .u8 F, .int .u32 S, v] 28)).alloc (.cells (payA nilV nilV 0 0 0) 50) = W := ⟨_, rfl⟩
  obtain ⟨g1, hg1⟩ : ∃ g, w.heap.size = g := ⟨_, rfl⟩
  obtain ⟨g2, hg2⟩ : ∃ g, w.heap.size + 1 = g := ⟨_, rfl⟩
  rw [hw1] at HB1 HF1 HZ1 ⊢
  have HBW := HB1
  rw [hg1] at HF1 ⊢
  rw [hg1, show g1 + 1 = g2 by omega] at HZ1
  rw [show g1 + 1 = g2 by omega]
  have HG : Bx (g1 < w1.heap.size ∧ g2 < w1.heap.size ∧ w.heap.size ≤ g2) := ⟨HF1.out.lt, HZ1.out.lt, by omega⟩
  obtain ⟨c0, c1, c2, c3⟩ := HF1.out.cellsF (Below.refl w1.heap.size w1) HG.out.1
  clear hw1 hg1 hg2
  go_wp2_with (first
    | (go_at_call 82; refine (HMI.out _).mono ?_; rintro e w2 ⟨rfl, b2⟩; clear c0 c1 c2 c3; have HC := Bx.mk (b2); obtain ⟨c0, c1, c2, c3⟩ := HF1.out.cellsF HC.out HG.out.1; clear b2)
    | (go_at_call 83; refine (HSI.out _ (HV.out.keep (HBW.out.trans (HC.out.mono HBW.out.size)))).mono ?_; rintro e w3 ⟨rfl, b3⟩; clear c0 c1 c2 c3; replace HC := Bx.mk (HC.out.trans (b3.mono HC.out.size)); obtain ⟨c0, c1, c2, c3⟩ := HF1.out.cellsF HC.out HG.out.1; clear b3)
    | (go_at_call 85; refine (clone_any w1.heap.size v l _ (HV.out.keep (HBW.out.trans (HC.out.mono HBW.out.size))) HC.out.size HLM.out).mono ?_; rintro e w5 ⟨u, rfl, hu, b5⟩; obtain ⟨A0, n0, cc0, rfl⟩ := hu.shape; clear c0 c1 c2 c3; replace HC := Bx.mk (HC.out.trans b5); have HU := Bx.mk hu; clear hu b5)
    | (with_reducible refine wpList_storeP g2 _ A0 none n0 cc0 0 0 (0) (0) (0) rfl rfl (HZ1.out.below HC.out HG.out.2.1) rfl ?_; intro w8 hs8 hg8; have HS8 := Bx.mk hs8; have HB8 := Bx.mk ((HBW.out.trans (HC.out.mono HBW.out.size)).grown hg8 (HBW.out.trans (HC.out.mono HBW.out.size)).size (fun k hk => by injection hk with hk; have := HG.out.2.2; omega)); have HU8 := Bx.mk (HU.out.grownO hg8 HG.out.2.1); clear hs8 hg8))
  exact bodyPost_ret (ret_S Try.results31 _ _ g2 50 (payA (.slice A0 n0 cc0) (nilV) (0) (0) (0)) _ _ rfl rfl HS8.out Try.underlying50 rfl pay_size) rfl ⟨⟨A0, n0, cc0, none, 0, 0, 0, 0, 0, by rw [HPR.out]; rfl, fun _ => ⟨fun h => absurd h (by omega), fun _ => HU8.out.mono HBW.out.size⟩⟩, HB8.out⟩
set_option maxRecDepth 100000 in
set_option maxHeartbeats 8000000 in
theorem pyRead_c2 (ty fl st : Nat) (v : Value) (l : List UInt8) (hty : ty < 256) (hfl : fl < 256) (hst : st < 4294967296) (w : World) (T F S : Int) (hT : (ty : Int) = T) (hF : (fl : Int) = F) (hS : (st : Int) = S) (hv : Bs w v l) (hl : l.length ≤ 1000000)
    (hm : misN ty st = false) (hs : sizN ty fl l.length = false) (ht : ty = 2) :
    Calls Try.prog 31 #[.agg #[.int .u8 T, .int .u8 F, .int .u32 S, v]] w fun e w' => RdP w.heap.size ty fl st l e w' ∧ Below w.heap.size w w' := by
  obtain rfl : T = 2 := by omega
  have H4 : Bx (4 ≤ l.length) := ⟨by
    have h := hs
    rw [ht] at h
    have h2 : (l.length != 5) = false := h
    rw [bne_eq_false_iff_eq] at h2
    omega⟩
  have HMI := Bx.mk (fun W => misplaced_any ty st F v hst W 2 S hT hS)
  have HSI := Bx.mk (fun W (h : Bs W v l) => missized_any ty fl S v l hty hfl W 2 F hT hF h hl)
  have hpr : payR ty fl st l = 0 := by unfold payR; rw [if_neg (by rw [hm]; decide), if_neg (by rw [hs]; decide), if_neg (by rw [ht]; decide), if_neg (by omega)]
  rw [hm] at HMI
  rw [hs] at HSI
  have HB1 : Bx (Below w.heap.size w ((w.alloc (.cells #[.int .u8 2, .int .u8 F, .int .u32 S, v] 28)).alloc (.cells (payA nilV nilV 0 0 0) 50))) := ⟨((Below.refl _ _).alloc (Nat.le_refl _) _).alloc (by simp) _⟩
  have HF1 : Bx (Sb 28 ((w.alloc (.cells #[.int .u8 2, .int .u8 F, .int .u32 S, v] 28)).alloc (.cells (payA nilV nilV 0 0 0) 50)) w.heap.size #[.int .u8 2, .int .u8 F, .int .u32 S, v]) := ⟨(Sb.new _ w _).alloc _⟩
  have HZ1 : Bx (Sb 50 ((w.alloc (.cells #[.int .u8 2, .int .u8 F, .int .u32 S, v] 28)).alloc (.cells (payA nilV nilV 0 0 0) 50)) (w.heap.size + 1) (payA nilV nilV 0 0 0)) := ⟨Sb.newg _ _ _ (by simp) _⟩
  have HV := Bx.mk hv
  have HLM := Bx.mk hl
  have HPR := Bx.mk hpr
  clear hT hF hS hty hfl hst hv hl hm hpr hs
  unfold RdP
  go_enter Try.func31, Try.ntmps31
  go_upto_region 1 with fail
  obtain ⟨w1, hw1⟩ : ∃ W, (w.alloc (.cells #[.int .u8 2, .int .u8 F, .int .u32 S, v] 28)).alloc (.cells (payA nilV nilV 0 0 0) 50) = W := ⟨_, rfl⟩
  obtain ⟨g1, hg1⟩ : ∃ g, w.heap.size = g := ⟨_, rfl⟩
  obtain ⟨g2, hg2⟩ : ∃ g, w.heap.size + 1 = g := ⟨_, rfl⟩
  rw [hw1] at HB1 HF1 HZ1 ⊢
  have HBW := HB1
  rw [hg1] at HF1 ⊢
  rw [hg1, show g1 + 1 = g2 by omega] at HZ1
  rw [show g1 + 1 = g2 by omega]
  have HG : Bx (g1 < w1.heap.size ∧ g2 < w1.heap.size ∧ w.heap.size ≤ g2) := ⟨HF1.out.lt, HZ1.out.lt, by omega⟩
  obtain ⟨c0, c1, c2, c3⟩ := HF1.out.cellsF (Below.refl w1.heap.size w1) HG.out.1
  clear hw1 hg1 hg2
  go_wp2_with (first
    | (go_at_call 82; refine (HMI.out _).mono ?_; rintro e w2 ⟨rfl, b2⟩; clear c0 c1 c2 c3; have HC := Bx.mk (b2); obtain ⟨c0, c1, c2, c3⟩ := HF1.out.cellsF HC.out HG.out.1; clear b2)
    | (go_at_call 83; refine (HSI.out _ (HV.out.keep (HBW.out.trans (HC.out.mono HBW.out.size)))).mono ?_; rintro e w3 ⟨rfl, b3⟩; clear c0 c1 c2 c3; replace HC := Bx.mk (HC.out.trans (b3.mono HC.out.size)); obtain ⟨c0, c1, c2, c3⟩ := HF1.out.cellsF HC.out HG.out.1; clear b3)
    | (go_at_call 86; refine (low_any v l _ (HV.out.keep (HBW.out.trans (HC.out.mono HBW.out.size))) H4.out HLM.out).mono ?_; rintro e w5 ⟨rfl, hw5⟩; subst hw5)
    | (with_reducible refine wpList_storeP g2 _ none none 0 0 0 0 (0) (((be4 l % 2147483648 : Nat) : Int)) (0) rfl rfl (HZ1.out.below HC.out HG.out.2.1) rfl ?_; intro w8 hs8 hg8; have HS8 := Bx.mk hs8; have HB8 := Bx.mk ((HBW.out.trans (HC.out.mono HBW.out.size)).grown hg8 (HBW.out.trans (HC.out.mono HBW.out.size)).size (fun k hk => by injection hk with hk; have := HG.out.2.2; omega)); clear hs8 hg8))
  exact bodyPost_ret (ret_S Try.results31 _ _ g2 50 (payA (nilV) (nilV) (0) (((be4 l % 2147483648 : Nat) : Int)) (0)) _ _ rfl rfl HS8.out Try.underlying50 rfl pay_size) rfl ⟨⟨none, 0, 0, none, 0, 0, 0, ((be4 l % 2147483648 : Nat) : Int), 0, by rw [HPR.out]; rfl, fun _ => ⟨fun h => absurd h (by omega), fun h => absurd h (by omega)⟩⟩, HB8.out⟩
set_option maxRecDepth 100000 in
set_option maxHeartbeats 8000000 in
theorem pyRead_c3 (ty fl st : Nat) (v : Value) (l : List UInt8) (hty : ty < 256) (hfl : fl < 256) (hst : st < 4294967296) (w : World) (T F S : Int) (hT : (ty : Int) = T) (hF : (fl : Int) = F) (hS : (st : Int) = S) (hv : Bs w v l) (hl : l.length ≤ 1000000)
    (hm : misN ty st = false) (hs : sizN ty fl l.length = false) (ht : ty = 3) :
    Calls Try.prog 31 #[.agg #[.int .u8 T, .int .u8 F, .int .u32 S, v]] w fun e w' => RdP w.heap.size ty fl st l e w' ∧ Below w.heap.size w w' := by
  obtain rfl : T = 3 := by omega
  have H4 : Bx (4 ≤ l.length) := ⟨by
    have h := hs
    rw [ht] at h
    have h2 : (l.length != 4) = false := h
    rw [bne_eq_false_iff_eq] at h2
    omega⟩
  have HMI := Bx.mk (fun W => misplaced_any ty st F v hst W 3 S hT hS)
  have HSI := Bx.mk (fun W (h : Bs W v l) => missized_any ty fl S v l hty hfl W 3 F hT hF h hl)
  have hpr : payR ty fl st l = 0 := by unfold payR; rw [if_neg (by rw [hm]; decide), if_neg (by rw [hs]; decide), if_neg (by rw [ht]; decide), if_neg (by omega)]
  rw [hm] at HMI
  rw [hs] at HSI
  have HB1 : Bx (Below w.heap.size w ((w.alloc (.cells #[.int .u8 3, .int .u8 F, .int .u32 S, v] 28)).alloc (.cells (payA nilV nilV 0 0 0) 50))) := ⟨((Below.refl _ _).alloc (Nat.le_refl _) _).alloc (by simp) _⟩
  have HF1 : Bx (Sb 28 ((w.alloc (.cells #[.int .u8 3, .int .u8 F, .int .u32 S, v] 28)).alloc (.cells (payA nilV nilV 0 0 0) 50)) w.heap.size #[.int .u8 3, .int .u8 F, .int .u32 S, v]) := ⟨(Sb.new _ w _).alloc _⟩
  have HZ1 : Bx (Sb 50 ((w.alloc (.cells #[.int .u8 3, .int .u8 F, .int .u32 S, v] 28)).alloc (.cells (payA nilV nilV 0 0 0) 50)) (w.heap.size + 1) (payA nilV nilV 0 0 0)) := ⟨Sb.newg _ _ _ (by simp) _⟩
  have HV := Bx.mk hv
  have HLM := Bx.mk hl
  have HPR := Bx.mk hpr
  clear hT hF hS hty hfl hst hv hl hm hpr hs
  unfold RdP
  go_enter Try.func31, Try.ntmps31
  go_upto_region 1 with fail
  obtain ⟨w1, hw1⟩ : ∃ W, (w.alloc (.cells #[.int .u8 3, .int .u8 F, .int .u32 S, v] 28)).alloc (.cells (payA nilV nilV 0 0 0) 50) = W := ⟨_, rfl⟩
  obtain ⟨g1, hg1⟩ : ∃ g, w.heap.size = g := ⟨_, rfl⟩
  obtain ⟨g2, hg2⟩ : ∃ g, w.heap.size + 1 = g := ⟨_, rfl⟩
  rw [hw1] at HB1 HF1 HZ1 ⊢
  have HBW := HB1
  rw [hg1] at HF1 ⊢
  rw [hg1, show g1 + 1 = g2 by omega] at HZ1
  rw [show g1 + 1 = g2 by omega]
  have HG : Bx (g1 < w1.heap.size ∧ g2 < w1.heap.size ∧ w.heap.size ≤ g2) := ⟨HF1.out.lt, HZ1.out.lt, by omega⟩
  obtain ⟨c0, c1, c2, c3⟩ := HF1.out.cellsF (Below.refl w1.heap.size w1) HG.out.1
  clear hw1 hg1 hg2
  go_wp2_with (first
    | (go_at_call 82; refine (HMI.out _).mono ?_; rintro e w2 ⟨rfl, b2⟩; clear c0 c1 c2 c3; have HC := Bx.mk (b2); obtain ⟨c0, c1, c2, c3⟩ := HF1.out.cellsF HC.out HG.out.1; clear b2)
    | (go_at_call 83; refine (HSI.out _ (HV.out.keep (HBW.out.trans (HC.out.mono HBW.out.size)))).mono ?_; rintro e w3 ⟨rfl, b3⟩; clear c0 c1 c2 c3; replace HC := Bx.mk (HC.out.trans (b3.mono HC.out.size)); obtain ⟨c0, c1, c2, c3⟩ := HF1.out.cellsF HC.out HG.out.1; clear b3)
    | (go_at_call 87; refine (four_any v l _ (HV.out.keep (HBW.out.trans (HC.out.mono HBW.out.size))) H4.out HLM.out).mono ?_; rintro e w5 ⟨rfl, hw5⟩; subst hw5)
    | (with_reducible refine wpList_storeP g2 _ none none 0 0 0 0 ((be4 l : Int)) (0) (0) rfl rfl (HZ1.out.below HC.out HG.out.2.1) rfl ?_; intro w8 hs8 hg8; have HS8 := Bx.mk hs8; have HB8 := Bx.mk ((HBW.out.trans (HC.out.mono HBW.out.size)).grown hg8 (HBW.out.trans (HC.out.mono HBW.out.size)).size (fun k hk => by injection hk with hk; have := HG.out.2.2; omega)); clear hs8 hg8))
  exact bodyPost_ret (ret_S Try.results31 _ _ g2 50 (payA (nilV) (nilV) ((be4 l : Int)) (0) (0)) _ _ rfl rfl HS8.out Try.underlying50 rfl pay_size) rfl ⟨⟨none, 0, 0, none, 0, 0, (be4 l : Int), 0, 0, by rw [HPR.out]; rfl, fun _ => ⟨fun h => absurd h (by omega), fun h => absurd h (by omega)⟩⟩, HB8.out⟩
set_option maxRecDepth 100000 in
set_option maxHeartbeats 8000000 in
theorem pyRead_c4 (ty fl st : Nat) (v : Value) (l : List UInt8) (hty : ty < 256) (hfl : fl < 256) (hst : st < 4294967296) (w : World) (T F S : Int) (hT : (ty : Int) = T) (hF : (fl : Int) = F) (hS : (st : Int) = S) (hv : Bs w v l) (hl : l.length ≤ 1000000)
    (hm : misN ty st = false) (hs : sizN ty fl l.length = false) (ht : ty = 4) :
    Calls Try.prog 31 #[.agg #[.int .u8 T, .int .u8 F, .int .u32 S, v]] w fun e w' => RdP w.heap.size ty fl st l e w' ∧ Below w.heap.size w w' := by
  obtain rfl : T = 4 := by omega
  have H6 : Bx (l.length % 6 = 0) := ⟨by
    have h := hs
    rw [ht] at h
    have h2 : (l.length % 6 != 0 || (hasN fl 1 && decide (0 < l.length))) = false := h
    rw [Bool.or_eq_false_iff, bne_eq_false_iff_eq] at h2
    exact h2.1⟩
  have HMI := Bx.mk (fun W => misplaced_any ty st F v hst W 4 S hT hS)
  have HSI := Bx.mk (fun W (h : Bs W v l) => missized_any ty fl S v l hty hfl W 4 F hT hF h hl)
  have hpr : payR ty fl st l = 0 := by unfold payR; rw [if_neg (by rw [hm]; decide), if_neg (by rw [hs]; decide), if_neg (by rw [ht]; decide), if_neg (by omega)]
  rw [hm] at HMI
  rw [hs] at HSI
  have HB1 : Bx (Below w.heap.size w ((w.alloc (.cells #[.int .u8 4, .int .u8 F, .int .u32 S, v] 28)).alloc (.cells (payA nilV nilV 0 0 0) 50))) := ⟨((Below.refl _ _).alloc (Nat.le_refl _) _).alloc (by simp) _⟩
  have HF1 : Bx (Sb 28 ((w.alloc (.cells #[.int .u8 4, .int .u8 F, .int .u32 S, v] 28)).alloc (.cells (payA nilV nilV 0 0 0) 50)) w.heap.size #[.int .u8 4, .int .u8 F, .int .u32 S, v]) := ⟨(Sb.new _ w _).alloc _⟩
  have HZ1 : Bx (Sb 50 ((w.alloc (.cells #[.int .u8 4, .int .u8 F, .int .u32 S, v] 28)).alloc (.cells (payA nilV nilV 0 0 0) 50)) (w.heap.size + 1) (payA nilV nilV 0 0 0)) := ⟨Sb.newg _ _ _ (by simp) _⟩
  have HV := Bx.mk hv
  have HLM := Bx.mk hl
  have HPR := Bx.mk hpr
  clear hT hF hS hty hfl hst hv hl hm hpr hs
  unfold RdP
  go_enter Try.func31, Try.ntmps31
  go_upto_region 1 with fail
  obtain ⟨w1, hw1⟩ : ∃ W, (w.alloc (.cells #[.int .u8 4, .int .u8 F, .int .u32 S, v] 28)).alloc (.cells (payA nilV nilV 0 0 0) 50) = W := ⟨_, rfl⟩
  obtain ⟨g1, hg1⟩ : ∃ g, w.heap.size = g := ⟨_, rfl⟩
  obtain ⟨g2, hg2⟩ : ∃ g, w.heap.size + 1 = g := ⟨_, rfl⟩
  rw [hw1] at HB1 HF1 HZ1 ⊢
  have HBW := HB1
  rw [hg1] at HF1 ⊢
  rw [hg1, show g1 + 1 = g2 by omega] at HZ1
  rw [show g1 + 1 = g2 by omega]
  have HG : Bx (g1 < w1.heap.size ∧ g2 < w1.heap.size ∧ w.heap.size ≤ g2) := ⟨HF1.out.lt, HZ1.out.lt, by omega⟩
  obtain ⟨c0, c1, c2, c3⟩ := HF1.out.cellsF (Below.refl w1.heap.size w1) HG.out.1
  clear hw1 hg1 hg2
  go_wp2_with (first
    | (go_at_call 82; refine (HMI.out _).mono ?_; rintro e w2 ⟨rfl, b2⟩; clear c0 c1 c2 c3; have HC := Bx.mk (b2); obtain ⟨c0, c1, c2, c3⟩ := HF1.out.cellsF HC.out HG.out.1; clear b2)
    | (go_at_call 83; refine (HSI.out _ (HV.out.keep (HBW.out.trans (HC.out.mono HBW.out.size)))).mono ?_; rintro e w3 ⟨rfl, b3⟩; clear c0 c1 c2 c3; replace HC := Bx.mk (HC.out.trans (b3.mono HC.out.size)); obtain ⟨c0, c1, c2, c3⟩ := HF1.out.cellsF HC.out HG.out.1; clear b3)
    | (go_at_call 88; refine (readSettings_any v l _ (HV.out.keep (HBW.out.trans (HC.out.mono HBW.out.size))) H6.out HLM.out).mono ?_; rintro e w5 ⟨u, us, rfl, hu, b5⟩; obtain ⟨A0, cc0, rfl⟩ := hu.shape; clear c0 c1 c2 c3; replace HC := Bx.mk (HC.out.trans (b5.mono HC.out.size)); clear hu b5)
    | (with_reducible refine wpList_storeP g2 _ none A0 0 0 us.length cc0 (0) (0) (0) rfl rfl (HZ1.out.below HC.out HG.out.2.1) rfl ?_; intro w8 hs8 hg8; have HS8 := Bx.mk hs8; have HB8 := Bx.mk ((HBW.out.trans (HC.out.mono HBW.out.size)).grown hg8 (HBW.out.trans (HC.out.mono HBW.out.size)).size (fun k hk => by injection hk with hk; have := HG.out.2.2; omega)); clear hs8 hg8))
  exact bodyPost_ret (ret_S Try.results31 _ _ g2 50 (payA (nilV) (.slice A0 us.length cc0) (0) (0) (0)) _ _ rfl rfl HS8.out Try.underlying50 rfl pay_size) rfl ⟨⟨none, 0, 0, A0, us.length, cc0, 0, 0, 0, by rw [HPR.out]; rfl, fun _ => ⟨fun h => absurd h (by omega), fun h => absurd h (by omega)⟩⟩, HB8.out⟩
set_option maxRecDepth 100000 in
set_option maxHeartbeats 8000000 in
theorem pyRead_c8 (ty fl st : Nat) (v : Value) (l : List UInt8) (hty : ty < 256) (hfl : fl < 256) (hst : st < 4294967296) (w : World) (T F S : Int) (hT : (ty : Int) = T) (hF : (fl : Int) = F) (hS : (st : Int) = S) (hv : Bs w v l) (hl : l.length ≤ 1000000)
    (hm : misN ty st = false) (hs : sizN ty fl l.length = false) (ht : ty = 8) :
    Calls Try.prog 31 #[.agg #[.int .u8 T, .int .u8 F, .int .u32 S, v]] w fun e w' => RdP w.heap.size ty fl st l e w' ∧ Below w.heap.size w w' := by
  obtain rfl : T = 8 := by omega
  have H4 : Bx (4 ≤ l.length) := ⟨by
    have h := hs
    rw [ht] at h
    have h2 : (l.length != 4) = false := h
    rw [bne_eq_false_iff_eq] at h2
    omega⟩
  obtain ⟨q, hq⟩ : ∃ q : Int, (if be4 l % 2147483648 = 0 then (3 : Int) else 0) = q := ⟨_, rfl⟩
  have hq2 : (((if be4 l % 2147483648 = 0 then 3 else 0 : Nat)) : Int) = q := by rw [← hq]; split <;> rfl
  have HQ := Bx.mk hq
  have HQ2 := Bx.mk hq2
  clear hq hq2
  have HMI := Bx.mk (fun W => misplaced_any ty st F v hst W 8 S hT hS)
  have HSI := Bx.mk (fun W (h : Bs W v l) => missized_any ty fl S v l hty hfl W 8 F hT hF h hl)
  have hpr : payR ty fl st l = (if be4 l % 2147483648 = 0 then 3 else 0) := by unfold payR; rw [if_neg (by rw [hm]; decide), if_neg (by rw [hs]; decide), if_neg (by rw [ht]; decide), if_pos ht]
  rw [hm] at HMI
  rw [hs] at HSI
  have HB1 : Bx (Below w.heap.size w ((w.alloc (.cells #[.int .u8 8, .int .u8 F, .int .u32 S, v] 28)).alloc (.cells (payA nilV nilV 0 0 0) 50))) := ⟨((Below.refl _ _).alloc (Nat.le_refl _) _).alloc (by simp) _⟩
  have HF1 : Bx (Sb 28 ((w.alloc (.cells #[.int .u8 8, .int .u8 F, .int .u32 S, v] 28)).alloc (.cells (payA nilV nilV 0 0 0) 50)) w.heap.size #[.int .u8 8, .int .u8 F, .int .u32 S, v]) := ⟨(Sb.new _ w _).alloc _⟩
  have HZ1 : Bx (Sb 50 ((w.alloc (.cells #[.int .u8 8, .int .u8 F, .int .u32 S, v] 28)).alloc (.cells (payA nilV nilV 0 0 0) 50)) (w.heap.size + 1) (payA nilV nilV 0 0 0)) := ⟨Sb.newg _ _ _ (by simp) _⟩
  have HV := Bx.mk hv
  have HLM := Bx.mk hl
  have HPR := Bx.mk hpr
  clear hT hF hS hty hfl hst hv hl hm hpr hs
  unfold RdP
  go_enter Try.func31, Try.ntmps31
  go_upto_region 1 with fail
  obtain ⟨w1, hw1⟩ : ∃ W, (w.alloc (.cells #[.int .u8 8, .int .u8 F, .int .u32 S, v] 28)).alloc (.cells (payA nilV nilV 0 0 0) 50) = W := ⟨_, rfl⟩
  obtain ⟨g1, hg1⟩ : ∃ g, w.heap.size = g := ⟨_, rfl⟩
  obtain ⟨g2, hg2⟩ : ∃ g, w.heap.size + 1 = g := ⟨_, rfl⟩
  rw [hw1] at HB1 HF1 HZ1 ⊢
  have HBW := HB1
  rw [hg1] at HF1 ⊢
  rw [hg1, show g1 + 1 = g2 by omega] at HZ1
  rw [show g1 + 1 = g2 by omega]
  have HG : Bx (g1 < w1.heap.size ∧ g2 < w1.heap.size ∧ w.heap.size ≤ g2) := ⟨HF1.out.lt, HZ1.out.lt, by omega⟩
  obtain ⟨c0, c1, c2, c3⟩ := HF1.out.cellsF (Below.refl w1.heap.size w1) HG.out.1
  clear hw1 hg1 hg2
  go_wp2_with (first
    | (go_at_call 82; refine (HMI.out _).mono ?_; rintro e w2 ⟨rfl, b2⟩; clear c0 c1 c2 c3; have HC := Bx.mk (b2); obtain ⟨c0, c1, c2, c3⟩ := HF1.out.cellsF HC.out HG.out.1; clear b2)
    | (go_at_call 83; refine (HSI.out _ (HV.out.keep (HBW.out.trans (HC.out.mono HBW.out.size)))).mono ?_; rintro e w3 ⟨rfl, b3⟩; clear c0 c1 c2 c3; replace HC := Bx.mk (HC.out.trans (b3.mono HC.out.size)); obtain ⟨c0, c1, c2, c3⟩ := HF1.out.cellsF HC.out HG.out.1; clear b3)
    | (go_at_call 89; refine (readIncr_any v l _ (HV.out.keep (HBW.out.trans (HC.out.mono HBW.out.size))) H4.out HLM.out).mono ?_; rw [HQ.out]; rintro e w5 ⟨rfl, b5⟩; clear c0 c1 c2 c3; replace HC := Bx.mk (HC.out.trans (b5.mono HC.out.size)); clear b5)
    | (with_reducible refine wpList_storeP g2 _ none none 0 0 0 0 (0) (0) (((be4 l % 2147483648 : Nat) : Int)) rfl rfl (HZ1.out.below HC.out HG.out.2.1) rfl ?_; intro w8 hs8 hg8; have HS8 := Bx.mk hs8; have HB8 := Bx.mk ((HBW.out.trans (HC.out.mono HBW.out.size)).grown hg8 (HBW.out.trans (HC.out.mono HBW.out.size)).size (fun k hk => by injection hk with hk; have := HG.out.2.2; omega)); clear hs8 hg8))
  exact bodyPost_ret (ret_S Try.results31 _ _ g2 50 (payA (nilV) (nilV) (0) (0) (((be4 l % 2147483648 : Nat) : Int))) _ _ rfl rfl HS8.out Try.underlying50 rfl pay_size) rfl ⟨⟨none, 0, 0, none, 0, 0, 0, 0, ((be4 l % 2147483648 : Nat) : Int), by rw [HPR.out, HQ2.out]; rfl, fun _ => ⟨fun h => absurd h (by omega), fun h => absurd h (by omega)⟩⟩, HB8.out⟩
set_option maxRecDepth 100000 in
set_option maxHeartbeats 8000000 in
theorem pyRead_p0 (ty fl st : Nat) (v : Value) (l : List UInt8) (hty : ty < 256) (hfl : fl < 256) (hst : st < 4294967296) (w : World) (T F S : Int) (hT : (ty : Int) = T) (hF : (fl : Int) = F) (hS : (st : Int) = S) (hv : Bs w v l) (hl : l.length ≤ 1000000)
    (hm : misN ty st = false) (hs : sizN ty fl l.length = false) (ht : isPad ty) (ht2 : ty = 0) :
    Calls Try.prog 31 #[.agg #[.int .u8 T, .int .u8 F, .int .u32 S, v]] w fun e w' => RdP w.heap.size ty fl st l e w' ∧ Below w.heap.size w w' := by
  obtain rfl : T = 0 := by omega
  have HRP := fun W (h : Bs W v l) => readPadded_any ty fl S v l hty hfl W 0 F hT hF h hl (sizN_has ty fl l.length ht hs)
  have HT := Bx.mk ht
  obtain ⟨q, hq⟩ : ∃ q : Int, ((if l.length < aheadN ty fl + padN fl l then 6 else 0 : Nat) : Int) = q := ⟨_, rfl⟩
  rw [hq] at HRP
  replace HRP := Bx.mk HRP
  have HQ := Bx.mk hq
  clear hq
  have HMI := Bx.mk (fun W => misplaced_any ty st F v hst W 0 S hT hS)
  have HSI := Bx.mk (fun W (h : Bs W v l) => missized_any ty fl S v l hty hfl W 0 F hT hF h hl)
  have hpr : payR ty fl st l = (if l.length < aheadN ty fl + padN fl l then 6 else 0) := by unfold payR; rw [if_neg (by rw [hm]; decide), if_neg (by rw [hs]; decide), if_pos ht]
  rw [hm] at HMI
  rw [hs] at HSI
  have HB1 : Bx (Below w.heap.size w ((w.alloc (.cells #[.int .u8 0, .int .u8 F, .int .u32 S, v] 28)).alloc (.cells (payA nilV nilV 0 0 0) 50))) := ⟨((Below.refl _ _).alloc (Nat.le_refl _) _).alloc (by simp) _⟩
  have HF1 : Bx (Sb 28 ((w.alloc (.cells #[.int .u8 0, .int .u8 F, .int .u32 S, v] 28)).alloc (.cells (payA nilV nilV 0 0 0) 50)) w.heap.size #[.int .u8 0, .int .u8 F, .int .u32 S, v]) := ⟨(Sb.new _ w _).alloc _⟩
  have HZ1 : Bx (Sb 50 ((w.alloc (.cells #[.int .u8 0, .int .u8 F, .int .u32 S, v] 28)).alloc (.cells (payA nilV nilV 0 0 0) 50)) (w.heap.size + 1) (payA nilV nilV 0 0 0)) := ⟨Sb.newg _ _ _ (by simp) _⟩
  have HV := Bx.mk hv
  have HLM := Bx.mk hl
  have HPR := Bx.mk hpr
  clear hT hF hS hty hfl hst hv hl hm hpr hs
  unfold RdP
  go_enter Try.func31, Try.ntmps31
  go_upto_region 1 with fail
  obtain ⟨w1, hw1⟩ : ∃ W, (w.alloc (.cells #[.int .u8 0, .int .u8 F, .int .u32 S, v] 28)).alloc (.cells (payA nilV nilV 0 0 0) 50) = W := ⟨_, rfl⟩
  obtain ⟨g1, hg1⟩ : ∃ g, w.heap.size = g := ⟨_, rfl⟩
  obtain ⟨g2, hg2⟩ : ∃ g, w.heap.size + 1 = g := ⟨_, rfl⟩
  rw [hw1] at HB1 HF1 HZ1 ⊢
  have HBW := HB1
  rw [hg1] at HF1 ⊢
  rw [hg1, show g1 + 1 = g2 by omega] at HZ1
  rw [show g1 + 1 = g2 by omega]
  have HG : Bx (g1 < w1.heap.size ∧ g2 < w1.heap.size ∧ w.heap.size ≤ g2) := ⟨HF1.out.lt, HZ1.out.lt, by omega⟩
  obtain ⟨c0, c1, c2, c3⟩ := HF1.out.cellsF (Below.refl w1.heap.size w1) HG.out.1
  clear hw1 hg1 hg2
  go_wp2_with (first
    | (go_at_call 82; refine (HMI.out _).mono ?_; rintro e w2 ⟨rfl, b2⟩; clear c0 c1 c2 c3; have HC := Bx.mk (b2); obtain ⟨c0, c1, c2, c3⟩ := HF1.out.cellsF HC.out HG.out.1; clear b2)
    | (go_at_call 83; refine (HSI.out _ (HV.out.keep (HBW.out.trans (HC.out.mono HBW.out.size)))).mono ?_; rintro e w3 ⟨rfl, b3⟩; clear c0 c1 c2 c3; replace HC := Bx.mk (HC.out.trans (b3.mono HC.out.size)); obtain ⟨c0, c1, c2, c3⟩ := HF1.out.cellsF HC.out HG.out.1; clear b3)
    | (go_at_call 84; refine (HRP.out _ (HV.out.keep (HBW.out.trans (HC.out.mono HBW.out.size)))).mono ?_; rintro e w5 ⟨A0, n0, cc0, st0, rfl, hu, b5⟩; clear c0 c1 c2 c3; have HUB := Bx.mk HC.out.size; replace HC := Bx.mk (HC.out.trans (b5.mono HC.out.size)); have HU := Bx.mk hu; clear hu b5)
    | (with_reducible refine wpList_storeP g2 _ A0 none n0 cc0 0 0 (0) (st0) (0) rfl rfl (HZ1.out.below HC.out HG.out.2.1) rfl ?_; intro w8 hs8 hg8; have HS8 := Bx.mk hs8; have HB8 := Bx.mk ((HBW.out.trans (HC.out.mono HBW.out.size)).grown hg8 (HBW.out.trans (HC.out.mono HBW.out.size)).size (fun k hk => by injection hk with hk; have := HG.out.2.2; omega)); have HG8 := Bx.mk hg8; clear hs8 hg8))
  have HW2 := HUB.out
  exact bodyPost_ret (ret_S Try.results31 _ _ g2 50 (payA (.slice A0 n0 cc0) nilV 0 st0 0) _ _ rfl rfl HS8.out Try.underlying50 rfl pay_size) rfl ⟨⟨A0, n0, cc0, none, 0, 0, 0, st0, 0, by rw [HPR.out, HQ.out]; rfl, fun h => by
    rw [HPR.out] at h
    have hno : ¬ l.length < aheadN ty fl + padN fl l := fun hh => by rw [if_pos hh] at h; cases h
    obtain ⟨h1, h2⟩ := HU.out hno
    exact ⟨fun h01 => ⟨((h1.mono HW2).grownO HG8.out HG.out.2.1).mono HBW.out.size, rfl, rfl, h2 (by omega), rfl⟩, fun h9 => absurd HT.out (by unfold isPad; omega)⟩⟩, HB8.out⟩
set_option maxRecDepth 100000 in
set_option maxHeartbeats 8000000 in
theorem pyRead_p1 (ty fl st : Nat) (v : Value) (l : List UInt8) (hty : ty < 256) (hfl : fl < 256) (hst : st < 4294967296) (w : World) (T F S : Int) (hT : (ty : Int) = T) (hF : (fl : Int) = F) (hS : (st : Int) = S) (hv : Bs w v l) (hl : l.length ≤ 1000000)
    (hm : misN ty st = false) (hs : sizN ty fl l.length = false) (ht : isPad ty) (ht2 : ty = 1) :
    Calls Try.prog 31 #[.agg #[.int .u8 T, .int .u8 F, .int .u32 S, v]] w fun e w' => RdP w.heap.size ty fl st l e w' ∧ Below w.heap.size w w' := by
  obtain rfl : T = 1 := by omega
  have HRP := fun W (h : Bs W v l) => readPadded_any ty fl S v l hty hfl W 1 F hT hF h hl (sizN_has ty fl l.length ht hs)
  have HT := Bx.mk ht
  obtain ⟨q, hq⟩ : ∃ q : Int, ((if l.length < aheadN ty fl + padN fl l then 6 else 0 : Nat) : Int) = q := ⟨_, rfl⟩
  rw [hq] at HRP
  replace HRP := Bx.mk HRP
  have HQ := Bx.mk hq
  clear hq
  have HMI := Bx.mk (fun W => misplaced_any ty st F v hst W 1 S hT hS)
  have HSI := Bx.mk (fun W (h : Bs W v l) => missized_any ty fl S v l hty hfl W 1 F hT hF h hl)
  have hpr : payR ty fl st l = (if l.length < aheadN ty fl + padN fl l then 6 else 0) := by unfold payR; rw [if_neg (by rw [hm]; decide), if_neg (by rw [hs]; decide), if_pos ht]
  rw [hm] at HMI
  rw [hs] at HSI
  have HB1 : Bx (Below w.heap.size w ((w.alloc (.cells #[.int .u8 1, .int .u8 F, .int .u32 S, v] 28)).alloc (.cells (payA nilV nilV 0 0 0) 50))) := ⟨((Below.refl _ _).alloc (Nat.le_refl _) _).alloc (by simp) _⟩
  have HF1 : Bx (Sb 28 ((w.alloc (.cells #[.int .u8 1, .int .u8 F, .int .u32 S, v] 28)).alloc (.cells (payA nilV nilV 0 0 0) 50)) w.heap.size #[.int .u8 1, .int .u8 F, .int .u32 S, v]) := ⟨(Sb.new _ w _).alloc _⟩
  have HZ1 : Bx (Sb 50 ((w.alloc (.cells #[.int .u8 1, .int .u8 F, .int .u32 S, v] 28)).alloc (.cells (payA nilV nilV 0 0 0) 50)) (w.heap.size + 1) (payA nilV nilV 0 0 0)) := ⟨Sb.newg _ _ _ (by simp) _⟩
  have HV := Bx.mk hv
  have HLM := Bx.mk hl
  have HPR := Bx.mk hpr
  clear hT hF hS hty hfl hst hv hl hm hpr hs
  unfold RdP
  go_enter Try.func31, Try.ntmps31
  go_upto_region 1 with fail
  obtain ⟨w1, hw1⟩ : ∃ W, (w.alloc (.cells #[.int .u8 1, .int .u8 F, .int .u32 S, v] 28)).alloc (.cells (payA nilV nilV 0 0 0) 50) = W := ⟨_, rfl⟩
  obtain ⟨g1, hg1⟩ : ∃ g, w.heap.size = g := ⟨_, rfl⟩
  obtain ⟨g2, hg2⟩ : ∃ g, w.heap.size + 1 = g := ⟨_, rfl⟩
  rw [hw1] at HB1 HF1 HZ1 ⊢
  have HBW := HB1
  rw [hg1] at HF1 ⊢
  rw [hg1, show g1 + 1 = g2 by omega] at HZ1
  rw [show g1 + 1 = g2 by omega]
  have HG : Bx (g1 < w1.heap.size ∧ g2 < w1.heap.size ∧ w.heap.size ≤ g2) := ⟨HF1.out.lt, HZ1.out.lt, by omega⟩
  obtain ⟨c0, c1, c2, c3⟩ := HF1.out.cellsF (Below.refl w1.heap.size w1) HG.out.1
  clear hw1 hg1 hg2
  go_wp2_with (first
    | (go_at_call 82; refine (HMI.out _).mono ?_; rintro e w2 ⟨rfl, b2⟩; clear c0 c1 c2 c3; have HC := Bx.mk (b2); obtain ⟨c0, c1, c2, c3⟩ := HF1.out.cellsF HC.out HG.out.1; clear b2)
    | (go_at_call 83; refine (HSI.out _ (HV.out.keep (HBW.out.trans (HC.out.mono HBW.out.size)))).mono ?_; rintro e w3 ⟨rfl, b3⟩; clear c0 c1 c2 c3; replace HC := Bx.mk (HC.out.trans (b3.mono HC.out.size)); obtain ⟨c0, c1, c2, c3⟩ := HF1.out.cellsF HC.out HG.out.1; clear b3)
    | (go_at_call 84; refine (HRP.out _ (HV.out.keep (HBW.out.trans (HC.out.mono HBW.out.size)))).mono ?_; rintro e w5 ⟨A0, n0, cc0, st0, rfl, hu, b5⟩; clear c0 c1 c2 c3; have HUB := Bx.mk HC.out.size; replace HC := Bx.mk (HC.out.trans (b5.mono HC.out.size)); have HU := Bx.mk hu; clear hu b5)
    | (with_reducible refine wpList_storeP g2 _ A0 none n0 cc0 0 0 (0) (st0) (0) rfl rfl (HZ1.out.below HC.out HG.out.2.1) rfl ?_; intro w8 hs8 hg8; have HS8 := Bx.mk hs8; have HB8 := Bx.mk ((HBW.out.trans (HC.out.mono HBW.out.size)).grown hg8 (HBW.out.trans (HC.out.mono HBW.out.size)).size (fun k hk => by injection hk with hk; have := HG.out.2.2; omega)); have HG8 := Bx.mk hg8; clear hs8 hg8))
  have HW2 := HUB.out
  exact bodyPost_ret (ret_S Try.results31 _ _ g2 50 (payA (.slice A0 n0 cc0) nilV 0 st0 0) _ _ rfl rfl HS8.out Try.underlying50 rfl pay_size) rfl ⟨⟨A0, n0, cc0, none, 0, 0, 0, st0, 0, by rw [HPR.out, HQ.out]; rfl, fun h => by
    rw [HPR.out] at h
    have hno : ¬ l.length < aheadN ty fl + padN fl l := fun hh => by rw [if_pos hh] at h; cases h
    obtain ⟨h1, h2⟩ := HU.out hno
    exact ⟨fun h01 => ⟨((h1.mono HW2).grownO HG8.out HG.out.2.1).mono HBW.out.size, rfl, rfl, h2 (by omega), rfl⟩, fun h9 => absurd HT.out (by unfold isPad; omega)⟩⟩, HB8.out⟩
set_option maxRecDepth 100000 in
set_option maxHeartbeats 8000000 in
theorem pyRead_p5 (ty fl st : Nat) (v : Value) (l : List UInt8) (hty : ty < 256) (hfl : fl < 256) (hst : st < 4294967296) (w : World) (T F S : Int) (hT : (ty : Int) = T) (hF : (fl : Int) = F) (hS : (st : Int) = S) (hv : Bs w v l) (hl : l.length ≤ 1000000)
    (hm : misN ty st = false) (hs : sizN ty fl l.length = false) (ht : isPad ty) (ht2 : ty = 5) :
    Calls Try.prog 31 #[.agg #[.int .u8 T, .int .u8 F, .int .u32 S, v]] w fun e w' => RdP w.heap.size ty fl st l e w' ∧ Below w.heap.size w w' := by
  obtain rfl : T = 5 := by omega
  have HRP := fun W (h : Bs W v l) => readPadded_any ty fl S v l hty hfl W 5 F hT hF h hl (sizN_has ty fl l.length ht hs)
  have HT := Bx.mk ht
  obtain ⟨q, hq⟩ : ∃ q : Int, ((if l.length < aheadN ty fl + padN fl l then 6 else 0 : Nat) : Int) = q := ⟨_, rfl⟩
  rw [hq] at HRP
  replace HRP := Bx.mk HRP
  have HQ := Bx.mk hq
  clear hq
  have HMI := Bx.mk (fun W => misplaced_any ty st F v hst W 5 S hT hS)
  have HSI := Bx.mk (fun W (h : Bs W v l) => missized_any ty fl S v l hty hfl W 5 F hT hF h hl)
  have hpr : payR ty fl st l = (if l.length < aheadN ty fl + padN fl l then 6 else 0) := by unfold payR; rw [if_neg (by rw [hm]; decide), if_neg (by rw [hs]; decide), if_pos ht]
  rw [hm] at HMI
  rw [hs] at HSI
  have HB1 : Bx (Below w.heap.size w ((w.alloc (.cells #[.int .u8 5, .int .u8 F, .int .u32 S, v] 28)).alloc (.cells (payA nilV nilV 0 0 0) 50))) := ⟨((Below.refl _ _).alloc (Nat.le_refl _) _).alloc (by simp) _⟩
  have HF1 : Bx (Sb 28 ((w.alloc (.cells #[.int .u8 5, .int .u8 F, .int .u32 S, v] 28)).alloc (.cells (payA nilV nilV 0 0 0) 50)) w.heap.size #[.int .u8 5, .int .u8 F, .int .u32 S, v]) := ⟨(Sb.new _ w _).alloc _⟩
  have HZ1 : Bx (Sb 50 ((w.alloc (.cells #[.int .u8 5, .int .u8 F, .int .u32 S, v] 28)).alloc (.cells (payA nilV nilV 0 0 0) 50)) (w.heap.size + 1) (payA nilV nilV 0 0 0)) := ⟨Sb.newg _ _ _ (by simp) _⟩
  have HV := Bx.mk hv
  have HLM := Bx.mk hl
  have HPR := Bx.mk hpr
  clear hT hF hS hty hfl hst hv hl hm hpr hs
  unfold RdP
  go_enter Try.func31, Try.ntmps31
  go_upto_region 1 with fail
  obtain ⟨w1, hw1⟩ : ∃ W, (w.alloc (.cells #[.int .u8 5, .int .u8 F, .int .u32 S, v] 28)).alloc (.cells (payA nilV nilV 0 0 0) 50) = W := ⟨_, rfl⟩
  obtain ⟨g1, hg1⟩ : ∃ g, w.heap.size = g := ⟨_, rfl⟩
  obtain ⟨g2, hg2⟩ : ∃ g, w.heap.size + 1 = g := ⟨_, rfl⟩
  rw [hw1] at HB1 HF1 HZ1 ⊢
  have HBW := HB1
  rw [hg1] at HF1 ⊢
  rw [hg1, show g1 + 1 = g2 by omega] at HZ1
  rw [show g1 + 1 = g2 by omega]
  have HG : Bx (g1 < w1.heap.size ∧ g2 < w1.heap.size ∧ w.heap.size ≤ g2) := ⟨HF1.out.lt, HZ1.out.lt, by omega⟩
  obtain ⟨c0, c1, c2, c3⟩ := HF1.out.cellsF (Below.refl w1.heap.size w1) HG.out.1
  clear hw1 hg1 hg2
  go_wp2_with (first
    | (go_at_call 82; refine (HMI.out _).mono ?_; rintro e w2 ⟨rfl, b2⟩; clear c0 c1 c2 c3; have HC := Bx.mk (b2); obtain ⟨c0, c1, c2, c3⟩ := HF1.out.cellsF HC.out HG.out.1; clear b2)
    | (go_at_call 83; refine (HSI.out _ (HV.out.keep (HBW.out.trans (HC.out.mono HBW.out.size)))).mono ?_; rintro e w3 ⟨rfl, b3⟩; clear c0 c1 c2 c3; replace HC := Bx.mk (HC.out.trans (b3.mono HC.out.size)); obtain ⟨c0, c1, c2, c3⟩ := HF1.out.cellsF HC.out HG.out.1; clear b3)
    | (go_at_call 84; refine (HRP.out _ (HV.out.keep (HBW.out.trans (HC.out.mono HBW.out.size)))).mono ?_; rintro e w5 ⟨A0, n0, cc0, st0, rfl, hu, b5⟩; clear c0 c1 c2 c3; have HUB := Bx.mk HC.out.size; replace HC := Bx.mk (HC.out.trans (b5.mono HC.out.size)); have HU := Bx.mk hu; clear hu b5)
    | (with_reducible refine wpList_storeP g2 _ A0 none n0 cc0 0 0 (0) (st0) (0) rfl rfl (HZ1.out.below HC.out HG.out.2.1) rfl ?_; intro w8 hs8 hg8; have HS8 := Bx.mk hs8; have HB8 := Bx.mk ((HBW.out.trans (HC.out.mono HBW.out.size)).grown hg8 (HBW.out.trans (HC.out.mono HBW.out.size)).size (fun k hk => by injection hk with hk; have := HG.out.2.2; omega)); have HG8 := Bx.mk hg8; clear hs8 hg8))
  have HW2 := HUB.out
  exact bodyPost_ret (ret_S Try.results31 _ _ g2 50 (payA (.slice A0 n0 cc0) nilV 0 st0 0) _ _ rfl rfl HS8.out Try.underlying50 rfl pay_size) rfl ⟨⟨A0, n0, cc0, none, 0, 0, 0, st0, 0, by rw [HPR.out, HQ.out]; rfl, fun h => by
    rw [HPR.out] at h
    have hno : ¬ l.length < aheadN ty fl + padN fl l := fun hh => by rw [if_pos hh] at h; cases h
    obtain ⟨h1, h2⟩ := HU.out hno
    exact ⟨fun h01 => ⟨((h1.mono HW2).grownO HG8.out HG.out.2.1).mono HBW.out.size, rfl, rfl, h2 (by omega), rfl⟩, fun h9 => absurd HT.out (by unfold isPad; omega)⟩⟩, HB8.out⟩
set_option maxRecDepth 100000 in
set_option maxHeartbeats 8000000 in
theorem pyRead_none (ty fl st : Nat) (v : Value) (l : List UInt8) (hty : ty < 256) (hfl : fl < 256) (hst : st < 4294967296) (w : World) (T F S : Int) (hT : (ty : Int) = T) (hF : (fl : Int) = F) (hS : (st : Int) = S) (hv : Bs w v l) (hl : l.length ≤ 1000000)
    (hm : misN ty st = false) (hs : sizN ty fl l.length = false) (ht : 9 < ty) :
    Calls Try.prog 31 #[.agg #[.int .u8 T, .int .u8 F, .int .u32 S, v]] w fun e w' => RdP w.heap.size ty fl st l e w' ∧ Below w.heap.size w w' := by
  have e0 : (T == 0) = false := by rw [beq_eq_false_iff_ne]; omega
  have e1 : (T == 1) = false := by rw [beq_eq_false_iff_ne]; omega
  have e2 : (T == 2) = false := by rw [beq_eq_false_iff_ne]; omega
  have e3 : (T == 3) = false := by rw [beq_eq_false_iff_ne]; omega
  have e4 : (T == 4) = false := by rw [beq_eq_false_iff_ne]; omega
  have e5 : (T == 5) = false := by rw [beq_eq_false_iff_ne]; omega
  have e6 : (T == 6) = false := by rw [beq_eq_false_iff_ne]; omega
  have e7 : (T == 7) = false := by rw [beq_eq_false_iff_ne]; omega
  have e8 : (T == 8) = false := by rw [beq_eq_false_iff_ne]; omega
  have e9 : (T == 9) = false := by rw [beq_eq_false_iff_ne]; omega
  have HMI := Bx.mk (fun W => misplaced_any ty st F v hst W T S hT hS)
  have HSI := Bx.mk (fun W (h : Bs W v l) => missized_any ty fl S v l hty hfl W T F hT hF h hl)
  have hpr : payR ty fl st l = 0 := by unfold payR; rw [if_neg (by rw [hm]; decide), if_neg (by rw [hs]; decide), if_neg (by unfold isPad; omega), if_neg (by omega)]
  rw [hm] at HMI
  rw [hs] at HSI
  have HB1 : Bx (Below w.heap.size w ((w.alloc (.cells #[.int .u8 T, .int .u8 F, .int .u32 S, v] 28)).alloc (.cells (payA nilV nilV 0 0 0) 50))) := ⟨((Below.refl _ _).alloc (Nat.le_refl _) _).alloc (by simp) _⟩
  have HF1 : Bx (Sb 28 ((w.alloc (.cells #[.int .u8 T, .int .u8 F, .int .u32 S, v] 28)).alloc (.cells (payA nilV nilV 0 0 0) 50)) w.heap.size #[.int .u8 T, .int .u8 F, .int .u32 S, v]) := ⟨(Sb.new _ w _).alloc _⟩
  have HZ1 : Bx (Sb 50 ((w.alloc (.cells #[.int .u8 T, .int .u8 F, .int .u32 S, v] 28)).alloc (.cells (payA nilV nilV 0 0 0) 50)) (w.heap.size + 1) (payA nilV nilV 0 0 0)) := ⟨Sb.newg _ _ _ (by simp) _⟩
  have HV := Bx.mk hv
  have HLM := Bx.mk hl
  have HPR := Bx.mk hpr
  clear hT hF hS hty hfl hst hv hl hm hpr hs
  unfold RdP
  go_enter Try.func31, Try.ntmps31
  go_upto_region 1 with fail
  obtain ⟨w1, hw1⟩ : ∃ W, (w.alloc (.cells #[.int .u8 T, .int .u8 F, .int .u32 S, v] 28)).alloc (.cells (payA nilV nilV 0 0 0) 50) = W := ⟨_, rfl⟩
  obtain ⟨g1, hg1⟩ : ∃ g, w.heap.size = g := ⟨_, rfl⟩
  obtain ⟨g2, hg2⟩ : ∃ g, w.heap.size + 1 = g := ⟨_, rfl⟩
  rw [hw1] at HB1 HF1 HZ1 ⊢
  have HBW := HB1
  rw [hg1] at HF1 ⊢
  rw [hg1, show g1 + 1 = g2 by omega] at HZ1
  rw [show g1 + 1 = g2 by omega]
  have HG : Bx (g1 < w1.heap.size ∧ g2 < w1.heap.size ∧ w.heap.size ≤ g2) := ⟨HF1.out.lt, HZ1.out.lt, by omega⟩
  obtain ⟨c0, c1, c2, c3⟩ := HF1.out.cellsF (Below.refl w1.heap.size w1) HG.out.1
  clear hw1 hg1 hg2
  go_wp2_with (first
    | (go_at_call 82; refine (HMI.out _).mono ?_; rintro e w2 ⟨rfl, b2⟩; clear c0 c1 c2 c3; have HC := Bx.mk (b2); obtain ⟨c0, c1, c2, c3⟩ := HF1.out.cellsF HC.out HG.out.1; clear b2)
    | (go_at_call 83; refine (HSI.out _ (HV.out.keep (HBW.out.trans (HC.out.mono HBW.out.size)))).mono ?_; rintro e w3 ⟨rfl, b3⟩; clear c0 c1 c2 c3; replace HC := Bx.mk (HC.out.trans (b3.mono HC.out.size)); obtain ⟨c0, c1, c2, c3⟩ := HF1.out.cellsF HC.out HG.out.1; clear b3)
    | (with_reducible refine wpList_storeP g2 _ none none 0 0 0 0 (0) (0) (0) rfl rfl (HZ1.out.below HC.out HG.out.2.1) rfl ?_; intro w8 hs8 hg8; have HS8 := Bx.mk hs8; have HB8 := Bx.mk ((HBW.out.trans (HC.out.mono HBW.out.size)).grown hg8 (HBW.out.trans (HC.out.mono HBW.out.size)).size (fun k hk => by injection hk with hk; have := HG.out.2.2; omega)); clear hs8 hg8))
  exact bodyPost_ret (ret_S Try.results31 _ _ g2 50 (payA (nilV) (nilV) (0) (0) (0)) _ _ rfl rfl HS8.out Try.underlying50 rfl pay_size) rfl ⟨⟨none, 0, 0, none, 0, 0, 0, 0, 0, by rw [HPR.out]; rfl, fun _ => ⟨fun h => absurd h (by omega), fun h => absurd h (by omega)⟩⟩, HB8.out⟩
end Go.Proofs.Ytenoaljghbpaaaa
