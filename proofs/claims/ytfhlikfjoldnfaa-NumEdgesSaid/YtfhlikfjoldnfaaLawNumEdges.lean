/-
  bifoldlaw1.NumEdges answers true, whatever its arguments: the walk.
-/
import Derived.Test.YtfhlikfjoldnfaaNumK
namespace Go.Proofs.Ytfhlikfjoldnfaa
open Go.RowKit
set_option linter.unusedVariables false

theorem var_len (w : World) (g : Nat) (hg : w.heap.size = g) (x : Int) (L : Nat) (h0 : 0 ≤ x) (h1 : x < 4611686018427387904) (hL : (varB x).length = L) :
    Calls Try.prog 12 #[.slice none 0 0, .slice (some ⟨g, 0, none⟩) 1 1] (w.alloc (.cells #[.int .u64 x] 30)) fun e w' =>
      ∃ A c, e = .returned (.tuple #[.slice A L c, .int .i64 0]) ∧ Below w.heap.size w w' := by
  refine (var_at w g hg x h0 h1).mono ?_
  rintro e w' ⟨v', rfl, h, hb⟩
  obtain ⟨A, L', c, rfl, hL', -, -, -, -⟩ := h.open_
  have : L' = L := hL'.out.trans hL
  subst this
  exact ⟨A, c, rfl, hb⟩

theorem below_past {w w1 w2 : World} {o : Obj} (b1 : Below w.heap.size w w1) (b2 : Below (w1.alloc o).heap.size (w1.alloc o) w2) : Below w.heap.size w w2 :=
  b1.trans (((Below.refl _ _).alloc b1.size o).trans (b2.mono (by have := b1.size; simp; omega)))

theorem wf_u8 {a : Int} (h : (Lit.int .u8 a).wf = true) : 0 ≤ a ∧ a < 256 := by
  simp [Lit.wf, IntKind.min, IntKind.max, IntKind.signed, IntKind.bits] at h
  omega
theorem wf_i8 {a : Int} (h : (Lit.int .i8 a).wf = true) : -128 ≤ a ∧ a < 128 := by
  simp [Lit.wf, IntKind.min, IntKind.max, IntKind.signed, IntKind.bits] at h
  omega

set_option maxRecDepth 100000 in
set_option maxHeartbeats 1000000 in
theorem edges_0_0 (a0 a1 : Int) (h0 : 0 ≤ a0) (h1 : a0 < 256) (h2 : -128 ≤ a1) (h3 : a1 < 128) (hq : a0 % 4 = 0) (hr : a1.tmod 3 = -2) (w : World) :
    Calls Try.prog 8 #[.int .u8 a0, .int .i8 a1] w fun e w' => e = .returned (.bool true) ∧ Below w.heap.size w w' := by
  have cl : clsLen 62 = 1 := by decide +kernel
  have hw : IntKind.u64.wrap (64 + IntKind.u64.wrap (-2)) = 62 := by decide +kernel
  go_enter Try.func8, Try.ntmps8
  go_wp2_with (first
    | (go_at_call 11; refine (known_any _).mono ?_; rintro e w1 ⟨rfl, b1⟩)
    | (go_at_call 15; refine (varLen_any 62 (by omega) (by omega) _).mono ?_; rintro e w' ⟨rfl, rfl⟩)
    | (go_at_call 12; refine (var_len _ _ (by simp) 62 1 (by omega) (by omega) (by decide +kernel)).mono ?_; rintro e w2 ⟨A, c, rfl, b2⟩))
  go_ret
  refine ⟨rfl, ?_⟩
  have b3 := below_past b1 b2
  have s3 := b3.size
  first
    | exact b3.alloc s3 _
    | exact (b3.alloc s3 _).alloc (by simp; omega) _

set_option maxRecDepth 100000 in
set_option maxHeartbeats 1000000 in
theorem edges_0_1 (a0 a1 : Int) (h0 : 0 ≤ a0) (h1 : a0 < 256) (h2 : -128 ≤ a1) (h3 : a1 < 128) (hq : a0 % 4 = 0) (hr : a1.tmod 3 = -1) (w : World) :
    Calls Try.prog 8 #[.int .u8 a0, .int .i8 a1] w fun e w' => e = .returned (.bool true) ∧ Below w.heap.size w w' := by
  have cl : clsLen 63 = 1 := by decide +kernel
  have hw : IntKind.u64.wrap (64 + IntKind.u64.wrap (-1)) = 63 := by decide +kernel
  go_enter Try.func8, Try.ntmps8
  go_wp2_with (first
    | (go_at_call 11; refine (known_any _).mono ?_; rintro e w1 ⟨rfl, b1⟩)
    | (go_at_call 15; refine (varLen_any 63 (by omega) (by omega) _).mono ?_; rintro e w' ⟨rfl, rfl⟩)
    | (go_at_call 12; refine (var_len _ _ (by simp) 63 1 (by omega) (by omega) (by decide +kernel)).mono ?_; rintro e w2 ⟨A, c, rfl, b2⟩))
  go_ret
  refine ⟨rfl, ?_⟩
  have b3 := below_past b1 b2
  have s3 := b3.size
  first
    | exact b3.alloc s3 _
    | exact (b3.alloc s3 _).alloc (by simp; omega) _

set_option maxRecDepth 100000 in
set_option maxHeartbeats 1000000 in
theorem edges_0_2 (a0 a1 : Int) (h0 : 0 ≤ a0) (h1 : a0 < 256) (h2 : -128 ≤ a1) (h3 : a1 < 128) (hq : a0 % 4 = 0) (hr : a1.tmod 3 = 0) (w : World) :
    Calls Try.prog 8 #[.int .u8 a0, .int .i8 a1] w fun e w' => e = .returned (.bool true) ∧ Below w.heap.size w w' := by
  have cl : clsLen 64 = 2 := by decide +kernel
  have hw : IntKind.u64.wrap (64 + IntKind.u64.wrap 0) = 64 := by decide +kernel
  go_enter Try.func8, Try.ntmps8
  go_wp2_with (first
    | (go_at_call 11; refine (known_any _).mono ?_; rintro e w1 ⟨rfl, b1⟩)
    | (go_at_call 15; refine (varLen_any 64 (by omega) (by omega) _).mono ?_; rintro e w' ⟨rfl, rfl⟩)
    | (go_at_call 12; refine (var_len _ _ (by simp) 64 2 (by omega) (by omega) (by decide +kernel)).mono ?_; rintro e w2 ⟨A, c, rfl, b2⟩))
  go_ret
  refine ⟨rfl, ?_⟩
  have b3 := below_past b1 b2
  have s3 := b3.size
  first
    | exact b3.alloc s3 _
    | exact (b3.alloc s3 _).alloc (by simp; omega) _

set_option maxRecDepth 100000 in
set_option maxHeartbeats 1000000 in
theorem edges_0_3 (a0 a1 : Int) (h0 : 0 ≤ a0) (h1 : a0 < 256) (h2 : -128 ≤ a1) (h3 : a1 < 128) (hq : a0 % 4 = 0) (hr : a1.tmod 3 = 1) (w : World) :
    Calls Try.prog 8 #[.int .u8 a0, .int .i8 a1] w fun e w' => e = .returned (.bool true) ∧ Below w.heap.size w w' := by
  have cl : clsLen 65 = 2 := by decide +kernel
  have hw : IntKind.u64.wrap (64 + IntKind.u64.wrap 1) = 65 := by decide +kernel
  go_enter Try.func8, Try.ntmps8
  go_wp2_with (first
    | (go_at_call 11; refine (known_any _).mono ?_; rintro e w1 ⟨rfl, b1⟩)
    | (go_at_call 15; refine (varLen_any 65 (by omega) (by omega) _).mono ?_; rintro e w' ⟨rfl, rfl⟩)
    | (go_at_call 12; refine (var_len _ _ (by simp) 65 2 (by omega) (by omega) (by decide +kernel)).mono ?_; rintro e w2 ⟨A, c, rfl, b2⟩))
  go_ret
  refine ⟨rfl, ?_⟩
  have b3 := below_past b1 b2
  have s3 := b3.size
  first
    | exact b3.alloc s3 _
    | exact (b3.alloc s3 _).alloc (by simp; omega) _

set_option maxRecDepth 100000 in
set_option maxHeartbeats 1000000 in
theorem edges_0_4 (a0 a1 : Int) (h0 : 0 ≤ a0) (h1 : a0 < 256) (h2 : -128 ≤ a1) (h3 : a1 < 128) (hq : a0 % 4 = 0) (hr : a1.tmod 3 = 2) (w : World) :
    Calls Try.prog 8 #[.int .u8 a0, .int .i8 a1] w fun e w' => e = .returned (.bool true) ∧ Below w.heap.size w w' := by
  have cl : clsLen 66 = 2 := by decide +kernel
  have hw : IntKind.u64.wrap (64 + IntKind.u64.wrap 2) = 66 := by decide +kernel
  go_enter Try.func8, Try.ntmps8
  go_wp2_with (first
    | (go_at_call 11; refine (known_any _).mono ?_; rintro e w1 ⟨rfl, b1⟩)
    | (go_at_call 15; refine (varLen_any 66 (by omega) (by omega) _).mono ?_; rintro e w' ⟨rfl, rfl⟩)
    | (go_at_call 12; refine (var_len _ _ (by simp) 66 2 (by omega) (by omega) (by decide +kernel)).mono ?_; rintro e w2 ⟨A, c, rfl, b2⟩))
  go_ret
  refine ⟨rfl, ?_⟩
  have b3 := below_past b1 b2
  have s3 := b3.size
  first
    | exact b3.alloc s3 _
    | exact (b3.alloc s3 _).alloc (by simp; omega) _

set_option maxRecDepth 100000 in
set_option maxHeartbeats 1000000 in
theorem edges_1_0 (a0 a1 : Int) (h0 : 0 ≤ a0) (h1 : a0 < 256) (h2 : -128 ≤ a1) (h3 : a1 < 128) (hq : a0 % 4 = 1) (hr : a1.tmod 3 = -2) (w : World) :
    Calls Try.prog 8 #[.int .u8 a0, .int .i8 a1] w fun e w' => e = .returned (.bool true) ∧ Below w.heap.size w w' := by
  have cl : clsLen 16382 = 2 := by decide +kernel
  have hw : IntKind.u64.wrap (16384 + IntKind.u64.wrap (-2)) = 16382 := by decide +kernel
  go_enter Try.func8, Try.ntmps8
  go_wp2_with (first
    | (go_at_call 11; refine (known_any _).mono ?_; rintro e w1 ⟨rfl, b1⟩)
    | (go_at_call 15; refine (varLen_any 16382 (by omega) (by omega) _).mono ?_; rintro e w' ⟨rfl, rfl⟩)
    | (go_at_call 12; refine (var_len _ _ (by simp) 16382 2 (by omega) (by omega) (by decide +kernel)).mono ?_; rintro e w2 ⟨A, c, rfl, b2⟩))
  go_ret
  refine ⟨rfl, ?_⟩
  have b3 := below_past b1 b2
  have s3 := b3.size
  first
    | exact b3.alloc s3 _
    | exact (b3.alloc s3 _).alloc (by simp; omega) _

set_option maxRecDepth 100000 in
set_option maxHeartbeats 1000000 in
theorem edges_1_1 (a0 a1 : Int) (h0 : 0 ≤ a0) (h1 : a0 < 256) (h2 : -128 ≤ a1) (h3 : a1 < 128) (hq : a0 % 4 = 1) (hr : a1.tmod 3 = -1) (w : World) :
    Calls Try.prog 8 #[.int .u8 a0, .int .i8 a1] w fun e w' => e = .returned (.bool true) ∧ Below w.heap.size w w' := by
  have cl : clsLen 16383 = 2 := by decide +kernel
  have hw : IntKind.u64.wrap (16384 + IntKind.u64.wrap (-1)) = 16383 := by decide +kernel
  go_enter Try.func8, Try.ntmps8
  go_wp2_with (first
    | (go_at_call 11; refine (known_any _).mono ?_; rintro e w1 ⟨rfl, b1⟩)
    | (go_at_call 15; refine (varLen_any 16383 (by omega) (by omega) _).mono ?_; rintro e w' ⟨rfl, rfl⟩)
    | (go_at_call 12; refine (var_len _ _ (by simp) 16383 2 (by omega) (by omega) (by decide +kernel)).mono ?_; rintro e w2 ⟨A, c, rfl, b2⟩))
  go_ret
  refine ⟨rfl, ?_⟩
  have b3 := below_past b1 b2
  have s3 := b3.size
  first
    | exact b3.alloc s3 _
    | exact (b3.alloc s3 _).alloc (by simp; omega) _

set_option maxRecDepth 100000 in
set_option maxHeartbeats 1000000 in
theorem edges_1_2 (a0 a1 : Int) (h0 : 0 ≤ a0) (h1 : a0 < 256) (h2 : -128 ≤ a1) (h3 : a1 < 128) (hq : a0 % 4 = 1) (hr : a1.tmod 3 = 0) (w : World) :
    Calls Try.prog 8 #[.int .u8 a0, .int .i8 a1] w fun e w' => e = .returned (.bool true) ∧ Below w.heap.size w w' := by
  have cl : clsLen 16384 = 4 := by decide +kernel
  have hw : IntKind.u64.wrap (16384 + IntKind.u64.wrap 0) = 16384 := by decide +kernel
  go_enter Try.func8, Try.ntmps8
  go_wp2_with (first
    | (go_at_call 11; refine (known_any _).mono ?_; rintro e w1 ⟨rfl, b1⟩)
    | (go_at_call 15; refine (varLen_any 16384 (by omega) (by omega) _).mono ?_; rintro e w' ⟨rfl, rfl⟩)
    | (go_at_call 12; refine (var_len _ _ (by simp) 16384 4 (by omega) (by omega) (by decide +kernel)).mono ?_; rintro e w2 ⟨A, c, rfl, b2⟩))
  go_ret
  refine ⟨rfl, ?_⟩
  have b3 := below_past b1 b2
  have s3 := b3.size
  first
    | exact b3.alloc s3 _
    | exact (b3.alloc s3 _).alloc (by simp; omega) _

set_option maxRecDepth 100000 in
set_option maxHeartbeats 1000000 in
theorem edges_1_3 (a0 a1 : Int) (h0 : 0 ≤ a0) (h1 : a0 < 256) (h2 : -128 ≤ a1) (h3 : a1 < 128) (hq : a0 % 4 = 1) (hr : a1.tmod 3 = 1) (w : World) :
    Calls Try.prog 8 #[.int .u8 a0, .int .i8 a1] w fun e w' => e = .returned (.bool true) ∧ Below w.heap.size w w' := by
  have cl : clsLen 16385 = 4 := by decide +kernel
  have hw : IntKind.u64.wrap (16384 + IntKind.u64.wrap 1) = 16385 := by decide +kernel
  go_enter Try.func8, Try.ntmps8
  go_wp2_with (first
    | (go_at_call 11; refine (known_any _).mono ?_; rintro e w1 ⟨rfl, b1⟩)
    | (go_at_call 15; refine (varLen_any 16385 (by omega) (by omega) _).mono ?_; rintro e w' ⟨rfl, rfl⟩)
    | (go_at_call 12; refine (var_len _ _ (by simp) 16385 4 (by omega) (by omega) (by decide +kernel)).mono ?_; rintro e w2 ⟨A, c, rfl, b2⟩))
  go_ret
  refine ⟨rfl, ?_⟩
  have b3 := below_past b1 b2
  have s3 := b3.size
  first
    | exact b3.alloc s3 _
    | exact (b3.alloc s3 _).alloc (by simp; omega) _

set_option maxRecDepth 100000 in
set_option maxHeartbeats 1000000 in
theorem edges_1_4 (a0 a1 : Int) (h0 : 0 ≤ a0) (h1 : a0 < 256) (h2 : -128 ≤ a1) (h3 : a1 < 128) (hq : a0 % 4 = 1) (hr : a1.tmod 3 = 2) (w : World) :
    Calls Try.prog 8 #[.int .u8 a0, .int .i8 a1] w fun e w' => e = .returned (.bool true) ∧ Below w.heap.size w w' := by
  have cl : clsLen 16386 = 4 := by decide +kernel
  have hw : IntKind.u64.wrap (16384 + IntKind.u64.wrap 2) = 16386 := by decide +kernel
  go_enter Try.func8, Try.ntmps8
  go_wp2_with (first
    | (go_at_call 11; refine (known_any _).mono ?_; rintro e w1 ⟨rfl, b1⟩)
    | (go_at_call 15; refine (varLen_any 16386 (by omega) (by omega) _).mono ?_; rintro e w' ⟨rfl, rfl⟩)
    | (go_at_call 12; refine (var_len _ _ (by simp) 16386 4 (by omega) (by omega) (by decide +kernel)).mono ?_; rintro e w2 ⟨A, c, rfl, b2⟩))
  go_ret
  refine ⟨rfl, ?_⟩
  have b3 := below_past b1 b2
  have s3 := b3.size
  first
    | exact b3.alloc s3 _
    | exact (b3.alloc s3 _).alloc (by simp; omega) _

set_option maxRecDepth 100000 in
set_option maxHeartbeats 1000000 in
theorem edges_2_0 (a0 a1 : Int) (h0 : 0 ≤ a0) (h1 : a0 < 256) (h2 : -128 ≤ a1) (h3 : a1 < 128) (hq : a0 % 4 = 2) (hr : a1.tmod 3 = -2) (w : World) :
    Calls Try.prog 8 #[.int .u8 a0, .int .i8 a1] w fun e w' => e = .returned (.bool true) ∧ Below w.heap.size w w' := by
  have cl : clsLen 1073741822 = 4 := by decide +kernel
  have hw : IntKind.u64.wrap (1073741824 + IntKind.u64.wrap (-2)) = 1073741822 := by decide +kernel
  go_enter Try.func8, Try.ntmps8
  go_wp2_with (first
    | (go_at_call 11; refine (known_any _).mono ?_; rintro e w1 ⟨rfl, b1⟩)
    | (go_at_call 15; refine (varLen_any 1073741822 (by omega) (by omega) _).mono ?_; rintro e w' ⟨rfl, rfl⟩)
    | (go_at_call 12; refine (var_len _ _ (by simp) 1073741822 4 (by omega) (by omega) (by decide +kernel)).mono ?_; rintro e w2 ⟨A, c, rfl, b2⟩))
  go_ret
  refine ⟨rfl, ?_⟩
  have b3 := below_past b1 b2
  have s3 := b3.size
  first
    | exact b3.alloc s3 _
    | exact (b3.alloc s3 _).alloc (by simp; omega) _

set_option maxRecDepth 100000 in
set_option maxHeartbeats 1000000 in
theorem edges_2_1 (a0 a1 : Int) (h0 : 0 ≤ a0) (h1 : a0 < 256) (h2 : -128 ≤ a1) (h3 : a1 < 128) (hq : a0 % 4 = 2) (hr : a1.tmod 3 = -1) (w : World) :
    Calls Try.prog 8 #[.int .u8 a0, .int .i8 a1] w fun e w' => e = .returned (.bool true) ∧ Below w.heap.size w w' := by
  have cl : clsLen 1073741823 = 4 := by decide +kernel
  have hw : IntKind.u64.wrap (1073741824 + IntKind.u64.wrap (-1)) = 1073741823 := by decide +kernel
  go_enter Try.func8, Try.ntmps8
  go_wp2_with (first
    | (go_at_call 11; refine (known_any _).mono ?_; rintro e w1 ⟨rfl, b1⟩)
    | (go_at_call 15; refine (varLen_any 1073741823 (by omega) (by omega) _).mono ?_; rintro e w' ⟨rfl, rfl⟩)
    | (go_at_call 12; refine (var_len _ _ (by simp) 1073741823 4 (by omega) (by omega) (by decide +kernel)).mono ?_; rintro e w2 ⟨A, c, rfl, b2⟩))
  go_ret
  refine ⟨rfl, ?_⟩
  have b3 := below_past b1 b2
  have s3 := b3.size
  first
    | exact b3.alloc s3 _
    | exact (b3.alloc s3 _).alloc (by simp; omega) _

set_option maxRecDepth 100000 in
set_option maxHeartbeats 1000000 in
theorem edges_2_2 (a0 a1 : Int) (h0 : 0 ≤ a0) (h1 : a0 < 256) (h2 : -128 ≤ a1) (h3 : a1 < 128) (hq : a0 % 4 = 2) (hr : a1.tmod 3 = 0) (w : World) :
    Calls Try.prog 8 #[.int .u8 a0, .int .i8 a1] w fun e w' => e = .returned (.bool true) ∧ Below w.heap.size w w' := by
  have cl : clsLen 1073741824 = 8 := by decide +kernel
  have hw : IntKind.u64.wrap (1073741824 + IntKind.u64.wrap 0) = 1073741824 := by decide +kernel
  go_enter Try.func8, Try.ntmps8
  go_wp2_with (first
    | (go_at_call 11; refine (known_any _).mono ?_; rintro e w1 ⟨rfl, b1⟩)
    | (go_at_call 15; refine (varLen_any 1073741824 (by omega) (by omega) _).mono ?_; rintro e w' ⟨rfl, rfl⟩)
    | (go_at_call 12; refine (var_len _ _ (by simp) 1073741824 8 (by omega) (by omega) (by decide +kernel)).mono ?_; rintro e w2 ⟨A, c, rfl, b2⟩))
  go_ret
  refine ⟨rfl, ?_⟩
  have b3 := below_past b1 b2
  have s3 := b3.size
  first
    | exact b3.alloc s3 _
    | exact (b3.alloc s3 _).alloc (by simp; omega) _

set_option maxRecDepth 100000 in
set_option maxHeartbeats 1000000 in
theorem edges_2_3 (a0 a1 : Int) (h0 : 0 ≤ a0) (h1 : a0 < 256) (h2 : -128 ≤ a1) (h3 : a1 < 128) (hq : a0 % 4 = 2) (hr : a1.tmod 3 = 1) (w : World) :
    Calls Try.prog 8 #[.int .u8 a0, .int .i8 a1] w fun e w' => e = .returned (.bool true) ∧ Below w.heap.size w w' := by
  have cl : clsLen 1073741825 = 8 := by decide +kernel
  have hw : IntKind.u64.wrap (1073741824 + IntKind.u64.wrap 1) = 1073741825 := by decide +kernel
  go_enter Try.func8, Try.ntmps8
  go_wp2_with (first
    | (go_at_call 11; refine (known_any _).mono ?_; rintro e w1 ⟨rfl, b1⟩)
    | (go_at_call 15; refine (varLen_any 1073741825 (by omega) (by omega) _).mono ?_; rintro e w' ⟨rfl, rfl⟩)
    | (go_at_call 12; refine (var_len _ _ (by simp) 1073741825 8 (by omega) (by omega) (by decide +kernel)).mono ?_; rintro e w2 ⟨A, c, rfl, b2⟩))
  go_ret
  refine ⟨rfl, ?_⟩
  have b3 := below_past b1 b2
  have s3 := b3.size
  first
    | exact b3.alloc s3 _
    | exact (b3.alloc s3 _).alloc (by simp; omega) _

set_option maxRecDepth 100000 in
set_option maxHeartbeats 1000000 in
theorem edges_2_4 (a0 a1 : Int) (h0 : 0 ≤ a0) (h1 : a0 < 256) (h2 : -128 ≤ a1) (h3 : a1 < 128) (hq : a0 % 4 = 2) (hr : a1.tmod 3 = 2) (w : World) :
    Calls Try.prog 8 #[.int .u8 a0, .int .i8 a1] w fun e w' => e = .returned (.bool true) ∧ Below w.heap.size w w' := by
  have cl : clsLen 1073741826 = 8 := by decide +kernel
  have hw : IntKind.u64.wrap (1073741824 + IntKind.u64.wrap 2) = 1073741826 := by decide +kernel
  go_enter Try.func8, Try.ntmps8
  go_wp2_with (first
    | (go_at_call 11; refine (known_any _).mono ?_; rintro e w1 ⟨rfl, b1⟩)
    | (go_at_call 15; refine (varLen_any 1073741826 (by omega) (by omega) _).mono ?_; rintro e w' ⟨rfl, rfl⟩)
    | (go_at_call 12; refine (var_len _ _ (by simp) 1073741826 8 (by omega) (by omega) (by decide +kernel)).mono ?_; rintro e w2 ⟨A, c, rfl, b2⟩))
  go_ret
  refine ⟨rfl, ?_⟩
  have b3 := below_past b1 b2
  have s3 := b3.size
  first
    | exact b3.alloc s3 _
    | exact (b3.alloc s3 _).alloc (by simp; omega) _

set_option maxRecDepth 100000 in
set_option maxHeartbeats 1000000 in
theorem edges_3_0 (a0 a1 : Int) (h0 : 0 ≤ a0) (h1 : a0 < 256) (h2 : -128 ≤ a1) (h3 : a1 < 128) (hq : a0 % 4 = 3) (hr : a1.tmod 3 = -2) (w : World) :
    Calls Try.prog 8 #[.int .u8 a0, .int .i8 a1] w fun e w' => e = .returned (.bool true) ∧ Below w.heap.size w w' := by
  have cl : clsLen 4611686018427387902 = 8 := by decide +kernel
  have hw : IntKind.u64.wrap (4611686018427387904 + IntKind.u64.wrap (-2)) = 4611686018427387902 := by decide +kernel
  go_enter Try.func8, Try.ntmps8
  go_wp2_with (first
    | (go_at_call 11; refine (known_any _).mono ?_; rintro e w1 ⟨rfl, b1⟩)
    | (go_at_call 15; refine (varLen_any 4611686018427387902 (by omega) (by omega) _).mono ?_; rintro e w' ⟨rfl, rfl⟩)
    | (go_at_call 12; refine (var_len _ _ (by simp) 4611686018427387902 8 (by omega) (by omega) (by decide +kernel)).mono ?_; rintro e w2 ⟨A, c, rfl, b2⟩))
  go_ret
  refine ⟨rfl, ?_⟩
  have b3 := below_past b1 b2
  have s3 := b3.size
  first
    | exact b3.alloc s3 _
    | exact (b3.alloc s3 _).alloc (by simp; omega) _

set_option maxRecDepth 100000 in
set_option maxHeartbeats 1000000 in
theorem edges_3_1 (a0 a1 : Int) (h0 : 0 ≤ a0) (h1 : a0 < 256) (h2 : -128 ≤ a1) (h3 : a1 < 128) (hq : a0 % 4 = 3) (hr : a1.tmod 3 = -1) (w : World) :
    Calls Try.prog 8 #[.int .u8 a0, .int .i8 a1] w fun e w' => e = .returned (.bool true) ∧ Below w.heap.size w w' := by
  have cl : clsLen 4611686018427387903 = 8 := by decide +kernel
  have hw : IntKind.u64.wrap (4611686018427387904 + IntKind.u64.wrap (-1)) = 4611686018427387903 := by decide +kernel
  go_enter Try.func8, Try.ntmps8
  go_wp2_with (first
    | (go_at_call 11; refine (known_any _).mono ?_; rintro e w1 ⟨rfl, b1⟩)
    | (go_at_call 15; refine (varLen_any 4611686018427387903 (by omega) (by omega) _).mono ?_; rintro e w' ⟨rfl, rfl⟩)
    | (go_at_call 12; refine (var_len _ _ (by simp) 4611686018427387903 8 (by omega) (by omega) (by decide +kernel)).mono ?_; rintro e w2 ⟨A, c, rfl, b2⟩))
  go_ret
  refine ⟨rfl, ?_⟩
  have b3 := below_past b1 b2
  have s3 := b3.size
  first
    | exact b3.alloc s3 _
    | exact (b3.alloc s3 _).alloc (by simp; omega) _

set_option maxRecDepth 100000 in
set_option maxHeartbeats 1000000 in
theorem edges_3_2 (a0 a1 : Int) (h0 : 0 ≤ a0) (h1 : a0 < 256) (h2 : -128 ≤ a1) (h3 : a1 < 128) (hq : a0 % 4 = 3) (hr : a1.tmod 3 = 0) (w : World) :
    Calls Try.prog 8 #[.int .u8 a0, .int .i8 a1] w fun e w' => e = .returned (.bool true) ∧ Below w.heap.size w w' := by
  have cl : clsLen 4611686018427387904 = 0 := by decide +kernel
  have hw : IntKind.u64.wrap (4611686018427387904 + IntKind.u64.wrap 0) = 4611686018427387904 := by decide +kernel
  go_enter Try.func8, Try.ntmps8
  go_wp2_with (first
    | (go_at_call 11; refine (known_any _).mono ?_; rintro e w1 ⟨rfl, b1⟩)
    | (go_at_call 15; refine (varLen_any 4611686018427387904 (by omega) (by omega) _).mono ?_; rintro e w' ⟨rfl, rfl⟩)
    | (go_at_call 12; refine (var_at_no _ _ (by simp) 4611686018427387904 (by omega) (by omega)).mono ?_; rintro e w2 ⟨rfl, b2⟩))
  go_ret
  refine ⟨rfl, ?_⟩
  have b3 := below_past b1 b2
  have s3 := b3.size
  first
    | exact b3.alloc s3 _
    | exact (b3.alloc s3 _).alloc (by simp; omega) _

set_option maxRecDepth 100000 in
set_option maxHeartbeats 1000000 in
theorem edges_3_3 (a0 a1 : Int) (h0 : 0 ≤ a0) (h1 : a0 < 256) (h2 : -128 ≤ a1) (h3 : a1 < 128) (hq : a0 % 4 = 3) (hr : a1.tmod 3 = 1) (w : World) :
    Calls Try.prog 8 #[.int .u8 a0, .int .i8 a1] w fun e w' => e = .returned (.bool true) ∧ Below w.heap.size w w' := by
  have cl : clsLen 4611686018427387905 = 0 := by decide +kernel
  have hw : IntKind.u64.wrap (4611686018427387904 + IntKind.u64.wrap 1) = 4611686018427387905 := by decide +kernel
  go_enter Try.func8, Try.ntmps8
  go_wp2_with (first
    | (go_at_call 11; refine (known_any _).mono ?_; rintro e w1 ⟨rfl, b1⟩)
    | (go_at_call 15; refine (varLen_any 4611686018427387905 (by omega) (by omega) _).mono ?_; rintro e w' ⟨rfl, rfl⟩)
    | (go_at_call 12; refine (var_at_no _ _ (by simp) 4611686018427387905 (by omega) (by omega)).mono ?_; rintro e w2 ⟨rfl, b2⟩))
  go_ret
  refine ⟨rfl, ?_⟩
  have b3 := below_past b1 b2
  have s3 := b3.size
  first
    | exact b3.alloc s3 _
    | exact (b3.alloc s3 _).alloc (by simp; omega) _

set_option maxRecDepth 100000 in
set_option maxHeartbeats 1000000 in
theorem edges_3_4 (a0 a1 : Int) (h0 : 0 ≤ a0) (h1 : a0 < 256) (h2 : -128 ≤ a1) (h3 : a1 < 128) (hq : a0 % 4 = 3) (hr : a1.tmod 3 = 2) (w : World) :
    Calls Try.prog 8 #[.int .u8 a0, .int .i8 a1] w fun e w' => e = .returned (.bool true) ∧ Below w.heap.size w w' := by
  have cl : clsLen 4611686018427387906 = 0 := by decide +kernel
  have hw : IntKind.u64.wrap (4611686018427387904 + IntKind.u64.wrap 2) = 4611686018427387906 := by decide +kernel
  go_enter Try.func8, Try.ntmps8
  go_wp2_with (first
    | (go_at_call 11; refine (known_any _).mono ?_; rintro e w1 ⟨rfl, b1⟩)
    | (go_at_call 15; refine (varLen_any 4611686018427387906 (by omega) (by omega) _).mono ?_; rintro e w' ⟨rfl, rfl⟩)
    | (go_at_call 12; refine (var_at_no _ _ (by simp) 4611686018427387906 (by omega) (by omega)).mono ?_; rintro e w2 ⟨rfl, b2⟩))
  go_ret
  refine ⟨rfl, ?_⟩
  have b3 := below_past b1 b2
  have s3 := b3.size
  first
    | exact b3.alloc s3 _
    | exact (b3.alloc s3 _).alloc (by simp; omega) _

theorem tmod3 (a : Int) : a.tmod 3 = -2 ∨ a.tmod 3 = -1 ∨ a.tmod 3 = 0 ∨ a.tmod 3 = 1 ∨ a.tmod 3 = 2 := by
  rcases Int.le_total 0 a with h | h
  · rw [Int.tmod_eq_emod_of_nonneg h]; omega
  · have e : a = -(-a) := by omega
    rw [e, Int.neg_tmod, Int.tmod_eq_emod_of_nonneg (by omega)]; omega

theorem numEdges_walk (a0 : Int) (a1 : Int) (w0 : (Lit.int .u8 a0).wf = true) (w1 : (Lit.int .i8 a1).wf = true) (w : World) :
    Calls Try.prog 8 #[.int .u8 a0, .int .i8 a1] w fun e w' => e = .returned (.bool true) ∧ Below w.heap.size w w' := by
  obtain ⟨h0, h1⟩ := wf_u8 w0
  obtain ⟨h2, h3⟩ := wf_i8 w1
  have hq : a0 % 4 = 0 ∨ a0 % 4 = 1 ∨ a0 % 4 = 2 ∨ a0 % 4 = 3 := by omega
  have hr := tmod3 a1
  rcases hq with q | q | q | q <;> rcases hr with r | r | r | r | r
  · exact edges_0_0 a0 a1 h0 h1 h2 h3 q r w
  · exact edges_0_1 a0 a1 h0 h1 h2 h3 q r w
  · exact edges_0_2 a0 a1 h0 h1 h2 h3 q r w
  · exact edges_0_3 a0 a1 h0 h1 h2 h3 q r w
  · exact edges_0_4 a0 a1 h0 h1 h2 h3 q r w
  · exact edges_1_0 a0 a1 h0 h1 h2 h3 q r w
  · exact edges_1_1 a0 a1 h0 h1 h2 h3 q r w
  · exact edges_1_2 a0 a1 h0 h1 h2 h3 q r w
  · exact edges_1_3 a0 a1 h0 h1 h2 h3 q r w
  · exact edges_1_4 a0 a1 h0 h1 h2 h3 q r w
  · exact edges_2_0 a0 a1 h0 h1 h2 h3 q r w
  · exact edges_2_1 a0 a1 h0 h1 h2 h3 q r w
  · exact edges_2_2 a0 a1 h0 h1 h2 h3 q r w
  · exact edges_2_3 a0 a1 h0 h1 h2 h3 q r w
  · exact edges_2_4 a0 a1 h0 h1 h2 h3 q r w
  · exact edges_3_0 a0 a1 h0 h1 h2 h3 q r w
  · exact edges_3_1 a0 a1 h0 h1 h2 h3 q r w
  · exact edges_3_2 a0 a1 h0 h1 h2 h3 q r w
  · exact edges_3_3 a0 a1 h0 h1 h2 h3 q r w
  · exact edges_3_4 a0 a1 h0 h1 h2 h3 q r w

end Go.Proofs.Ytfhlikfjoldnfaa
