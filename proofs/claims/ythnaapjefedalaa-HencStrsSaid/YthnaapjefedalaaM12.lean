/-
  Texts put together: HuffJ, OwH, NumD, NumH, NumI, HuffF.
-/
import Derived.Test.YthnaapjefedalaaM11
import Derived.Test.YthnaapjefedalaaM08
import Derived.Test.YthnaapjefedalaaM04
import Derived.Test.YthnaapjefedalaaM09
import Derived.Test.YthnaapjefedalaaM01

/-
  Contracts of the document's HuffLen and Huffman.
-/
namespace Go.Proofs.Ythnaapjefedalaa
open Go.RowKit
set_option linter.unusedVariables false

set_option maxRecDepth 100000 in
set_option maxHeartbeats 1000000 in
theorem huffLen_any (s : ByteArray) (w : World) (hs : s.size ≤ 1000000) :
    Calls Try.prog 48 #[.string s] w fun e w' => e = .returned (.int .i64 (((bitLen s.data.toList + 7) / 8 : Nat) : Int)) ∧ Below w.heap.size w w' := by
  go_enter Try.func48, Try.ntmps48
  go_wp2_with (go_at_call 66; refine (codes_any _).mono ?_; rintro e w1 ⟨m, rfl, hm, b1⟩)
  have HC := Bx.mk hm
  clear hm
  go_loop [4, 5] (fun t i => ∃ k : Nat, k ≤ s.size ∧ i = .int .i64 k ∧ t = .int .i64 (bitLen (s.data.toList.take k))) (fun _ i => s.size - (intOf i).toNat)
  case atStart => exact ⟨0, Nat.zero_le _, rfl, rfl⟩
  case round =>
    obtain ⟨k, hk, rfl, rfl⟩ := hrel
    have hb := bitLen_le (s.data.toList.take k)
    have hl : (s.data.toList.take k).length ≤ k := List.length_take_le _ _
    by_cases hlt : k < s.size
    · have hx : s[k].toNat < 257 := by have := s[k].toNat_lt; omega
      have hc := (HC.out.cells s[k].toNat hx).2
      have hll := ll_byte s[k]
      have HS := Lib.hid (bitLen_snoc s k hlt)
      go_wp2
      go_round
      case rel => exact ⟨k + 1, by omega, by go_num, by rw [HS.out]; go_num⟩
      case measure => simp [intOf]; omega
    · go_wp2
      go_ret
      have he : s.data.toList.take k = s.data.toList := List.take_of_length_le (by simp; omega)
      refine ⟨hret_int (by rw [he]), b1⟩

theorem y_lt (x m n v : Nat) (hm : m < 8) (hn : n ≤ 30) (hx : x < 2 ^ m) (hv : v < 2 ^ n) : x * 2 ^ n + v < 18446744073709551616 := by
  have h1 : (x + 1) * 2 ^ n ≤ 2 ^ m * 2 ^ n := Nat.mul_le_mul_right _ hx
  rw [Nat.add_mul, Nat.one_mul, ← Nat.pow_add] at h1
  have h2 : (2:Nat) ^ (m + n) ≤ 2 ^ 37 := Nat.pow_le_pow_right (by omega) (by omega)
  have h3 : (2:Nat) ^ 37 < 18446744073709551616 := by decide
  omega
theorem nw_small (x m n v : Nat) (hm : m < 8) (hn : n ≤ 30) (hx : x < 2 ^ m) : hnw x n v = x * 2 ^ n + v := by
  have h := y_lt x m n 0 hm hn hx (Nat.two_pow_pos n)
  unfold hnw
  rw [Nat.mod_eq_of_lt (by omega)]

theorem mask_low (y t : Nat) (hy : y < 18446744073709551616) (ht : t < 8) : bits .and .u64 (y : Int) (IntKind.u64.wrap (IntKind.u64.wrap (2 ^ t) - 1)) = ((y % 2 ^ t : Nat) : Int) := by
  have h1 : IntKind.u64.wrap (IntKind.u64.wrap (2 ^ t) - 1) = ((2 ^ t - 1 : Nat) : Int) := by
    have : t = 0 ∨ t = 1 ∨ t = 2 ∨ t = 3 ∨ t = 4 ∨ t = 5 ∨ t = 6 ∨ t = 7 := by omega
    rcases this with rfl | rfl | rfl | rfl | rfl | rfl | rfl | rfl <;> rfl
  have h2 : (2:Nat) ^ t ≤ 2 ^ 8 := Nat.pow_le_pow_right (by omega) (by omega)
  have h3 : (2:Nat) ^ 8 = 256 := rfl
  rw [h1, u64_and_nat _ _ hy (by omega), Nat.and_two_pow_sub_one_eq_mod]

def RefEncRel (w : World) (s : ByteArray) (G : List UInt8) (o wd n i : Value) (wr : World) : Prop :=
  ∃ (k x m : Nat) (l1 : List UInt8), i = .int .i64 (k : Int) ∧ k ≤ s.size ∧ wd = .int .u64 (x : Int) ∧ n = .int .i64 (m : Int) ∧ m < 8 ∧ x < 2 ^ m ∧
    l1 ++ enc (s.data.toList.drop k) x m = G ∧ ApB wr w.heap.size o l1 ∧ Below w.heap.size w wr

set_option maxRecDepth 100000 in
set_option maxHeartbeats 1000000 in
theorem huffman_any (bV : Value) (l : List UInt8) (s : ByteArray) (w : World) (hb : ∀ (B : Nat) (W : World), Below w.heap.size w W → ApB W B bV l) (hl : l.length ≤ 100000) (hs : s.size ≤ 100000) :
    Calls Try.prog 49 #[bV, .string s] w fun e w' => ∃ v', e = .returned v' ∧ ApB w' w.heap.size v' (l ++ enc s.data.toList 0 0) ∧ Below w.heap.size w w' := by
  obtain ⟨i0, hi, hz, hz1, hz2⟩ := info_parts infoU8
  have Hi := Lib.hid hi
  have Hz := Lib.hid hz
  have Hz1 := Lib.hid hz1
  have Hz2 := Lib.hid hz2
  clear hi hz hz1 hz2
  have HBV := Bx.mk hb
  have hbl := bitLen_le s.data.toList
  have hsl : s.data.toList.length = s.size := by simp
  obtain ⟨G, hGd⟩ : ∃ G, l ++ enc s.data.toList 0 0 = G := ⟨_, rfl⟩
  rw [hGd]
  have hGL : G.length ≤ 500000 := by rw [← hGd, List.length_append, enc_length _ _ _ (by omega)]; omega
  have HGD := Bx.mk hGd
  have HGL := Bx.mk hGL
  clear hb hbl hsl hGd hGL
  go_enter Try.func49, Try.ntmps49
  go_wp2_with (go_at_call 66; refine (codes_any _).mono ?_; rintro e w1 ⟨g, rfl, hm, b1⟩)
  have HC := Bx.mk hm
  have HB1 := Bx.mk b1
  have HGW : Bx (g < w1.heap.size) := ⟨World.rowIs.lt hm⟩
  clear hm b1
  go_loopw [0, 6, 7, 8] (fun o wd n i wr => RefEncRel w1 s G o wd n i wr) (fun _ _ _ i _ => s.size - (intOf i).toNat)
  case atStart => exact ⟨0, 0, 0, l, rfl, by omega, rfl, rfl, by omega, by omega, HGD.out, HBV.out _ _ HB1.out, Below.refl _ _⟩
  case round =>
    obtain ⟨k, x, m, l1, rfl, hk, rfl, rfl, hm, hx, hG1, hap1, hb1⟩ := hrel
    have HX := Bx.mk hx
    have HM := Bx.mk hm
    have HG1 := Bx.mk hG1
    have HAP := Bx.mk hap1
    have HB := Bx.mk hb1
    have hsz := hb1.size
    have hcode := HC.out.keep hb1
    clear hx hG1 hap1 hb1
    by_cases hlt : k < s.size
    · have hck : s[k].toNat < 256 := s[k].toNat_lt
      have hll := ll_byte s[k]
      obtain ⟨hc1, hc2⟩ := hcode.cells s[k].toNat (by omega)
      clear hcode
      have HLB := Bx.mk hll
      obtain ⟨-, hll2, -⟩ := hll
      generalize hcl : ll s[k].toNat = n at hc2 hll2 HLB
      generalize hcc : cw s[k].toNat = v at hc1 HLB
      have HE : Bx (ll s[k].toNat = n ∧ cw s[k].toNat = v) := ⟨hcl, hcc⟩
      clear hcl hcc
      go_wp2
      go_region
      rw [word_or x n v hll2 HLB.out.2.2, nw_small x m n v HM.out hll2 HX.out]
      have HY := Bx.mk (y_lt x m n v HM.out hll2 HX.out HLB.out.2.2)
      have HG2 : Bx (l1 ++ (emit ((m + n) / 8) (x * 2 ^ n + v) (m + n) ++ enc (s.data.toList.drop (k + 1)) ((x * 2 ^ n + v) % 2 ^ ((m + n) % 8)) ((m + n) % 8)) = G) := ⟨by
        have h := HG1.out
        rw [List.drop_eq_getElem_cons (by simpa using hlt)] at h
        have e : enc (s[k] :: s.data.toList.drop (k + 1)) x m = _ := enc.eq_2 ..
        rw [HE.out.1, HE.out.2] at e
        exact (congrArg (l1 ++ ·) e).symm.trans h⟩
      have HAP2 : Bx (ApB (wr.alloc (Obj.cells #[Value.int IntKind.u32 v, Value.int IntKind.i64 n] 112)).drew w1.heap.size u0 l1) := ⟨(HAP.out.alloc _).drew⟩
      have HB2 : Bx (Below w1.heap.size w1 (wr.alloc (Obj.cells #[Value.int IntKind.u32 v, Value.int IntKind.i64 n] 112)).drew) := ⟨(HB.out.alloc hsz _).drew⟩
      have hmn : m + n ≤ 37 := by omega
      clear hc1 hc2 HG1 HAP HB HX HLB HE hck hll2 hsz
      generalize (wr.alloc (Obj.cells #[Value.int IntKind.u32 v, Value.int IntKind.i64 n] 112)).drew = w5 at HAP2 HB2 ⊢
      generalize x * 2 ^ n + v = y at HY HG2 ⊢
      go_wp2
      go_loopw [0, 7] (fun o n' wr' => EmitRel w1 G (enc (s.data.toList.drop (k + 1)) (y % 2 ^ ((m + n) % 8)) ((m + n) % 8)) y ((m + n) % 8) o n' wr') (fun _ n' _ => (intOf n').toNat)
      case atStart => exact ⟨m + n, l1, by go_num, hmn, rfl, HG2.out, HAP2.out, HB2.out⟩
      case round =>
        obtain ⟨t, l2, rfl, ht, ht8, hG2, hap2, hb2⟩ := hrel
        have HT8 := Bx.mk ht8
        have HG3 := Bx.mk hG2
        have HAP3 := Bx.mk hap2
        have HB3 := Bx.mk hb2
        clear ht8 hG2 hap2 hb2 HG2 HAP2 HB2
        have hlen : l2.length ≤ 500000 := by
          have h := congrArg List.length HG3.out
          have h2 := HGL.out
          rw [← h, List.length_append] at h2
          omega
        have hsz := HB3.out.size
        by_cases h8 : 8 ≤ t
        · go_wp2_with (first
            | (at_builtin
               refine wpList_append_ap _ rfl _ _ 33 rfl w1.heap.size 5 i0 (.int .u8 0) 1 Try.underlying33 Hi.out Hz.out Hz1.out Hz2.out rfl _ _ (l2.map bv) _ rfl rfl (HAP3.out.alloc _) (Rd.lit wr 5 _ 1 rfl (by simp [maxLen])) (by simp [Value.oneCell']) (by simp; omega) (by simp [maxLen]; omega) (by simp; omega) ?_
               intro v6 w6 hap6 hb6))
          have HAP6 := Bx.mk (snoc_any hap6 (UInt8.ofNat (y / 2 ^ (t - 8) % 256)) (by rw [← byte_nat (by omega)]; simp))
          have HB6 : Bx (Below w1.heap.size w1 w6) := ⟨HB3.out.trans (((Below.refl _ _).alloc hsz _).trans hb6)⟩
          clear hap6 hb6
          go_wp2
          go_roundw
          case rel =>
            refine ⟨t - 8, l2 ++ [UInt8.ofNat (y / 2 ^ (t - 8) % 256)], by go_num, by omega, by have := HT8.out; omega, ?_, HAP6.out, HB6.out⟩
            have h := HG3.out
            rw [emit_next y t h8] at h
            rw [← h]
            simp
          case measure => simp [intOf]; omega
        · have HG4 : Bx (l2 ++ enc (s.data.toList.drop (k + 1)) (y % 2 ^ t) t = G) := ⟨by
            have h := HG3.out
            rw [emit_done y t (by omega), List.nil_append] at h
            have e := HT8.out
            rw [Nat.mod_eq_of_lt (by omega)] at e
            rw [e]; exact h⟩
          clear HG3 HT8
          have HW := Bx.mk (mask_low y t HY.out (by omega))
          have HL := Bx.mk (Nat.mod_lt y (Nat.two_pow_pos t))
          go_wp2
          go_roundw
          case rel => exact ⟨k + 1, y % 2 ^ t, t, l2, by go_num, by omega, by rw [HW.out], rfl, by omega, HL.out, HG4.out, HAP3.out, HB3.out⟩
          case measure => simp [intOf]; omega
    · clear hcode
      obtain rfl : k = s.size := by omega
      have HG4 : Bx (l1 ++ last (x % 2 ^ m) m = G) := ⟨by
        have h := HG1.out
        rw [List.drop_of_length_le (by simp)] at h
        rw [Nat.mod_eq_of_lt HX.out]
        exact h⟩
      have hlen : l1.length ≤ 500000 := by
        have h := congrArg List.length HG4.out
        have h2 := HGL.out
        rw [← h, List.length_append] at h2
        omega
      clear HG1
      by_cases h0 : 0 < m
      · have hw8 : IntKind.i64.wrap (8 - (m : Int)) = 8 - (m : Int) := by rw [IntKind.wrap_i64]; omega
        have hw0 : (0 : Int) ≤ 8 - (m : Int) := by omega
        have hw9 : (8 - (m : Int)).toNat = 8 - m := by omega
        go_wp2
        go_region_law (refine step_append_ap rfl (.tmp 53) (.tmp 64) 33 rfl w1.heap.size 5 i0 (.int .u8 0) 1 Try.underlying33 Hi.out Hz.out Hz1.out Hz2.out rfl _ _ (l1.map bv) _ rfl rfl (HAP.out.drew.alloc _) (Rd.lit wr.drew 5 _ 1 rfl (by simp [maxLen])) (by simp [Value.oneCell']) (by simp; omega) (by simp [maxLen]; omega) (by simp; omega) ?_; intro v2 w2 hap2 hb2)
        have HAP2 := Bx.mk (snoc_any hap2 (UInt8.ofNat (x % 2 ^ m * 2 ^ (8 - m) + (2 ^ (8 - m) - 1))) (by rw [last_byte x m h0 hm]; exact byte_nat (last_lt x m h0 hm)))
        have HB2 : Bx (Below w1.heap.size w1 w2) := ⟨HB.out.trans (((Below.refl _ _).alloc hsz _).drew.trans hb2)⟩
        clear hap2 hb2
        go_wp2
        go_ret
        refine ⟨_, rfl, ?_, HB1.out.trans (HB2.out.mono HB1.out.size)⟩
        have h := HG4.out
        rw [last, if_neg (by omega)] at h
        rw [← h]
        exact HAP2.out.mono HB1.out.size
      · obtain rfl : m = 0 := by omega
        go_wp2
        go_ret
        refine ⟨_, rfl, ?_, HB1.out.trans (HB.out.mono HB1.out.size)⟩
        have h := HG4.out
        simp only [last, if_true, List.append_nil] at h
        rw [← h]
        exact HAP.out.mono HB1.out.size

end Go.Proofs.Ythnaapjefedalaa

/-
  Contract of the document's Huffman, over a row of bytes of its own.
-/
namespace Go.Proofs.Ythnaapjefedalaa
open Go.RowKit
set_option linter.unusedVariables false

def RefEncO (w : World) (B m0 : Nat) (s : ByteArray) (G : List UInt8) (o wd n i : Value) (wr : World) : Prop :=
  ∃ (k x m : Nat) (l1 : List UInt8), i = .int .i64 (k : Int) ∧ k ≤ s.size ∧ wd = .int .u64 (x : Int) ∧ n = .int .i64 (m : Int) ∧ m < 8 ∧ x < 2 ^ m ∧
    l1 ++ enc (s.data.toList.drop k) x m = G ∧ OwB wr B o l1 ∧ Below B w wr ∧ wr.heap[m0]? = w.heap[m0]?
def EmitRelO (w : World) (B m0 : Nat) (G T : List UInt8) (y r : Nat) (o n : Value) (wr : World) : Prop :=
  ∃ (t : Nat) (l1 : List UInt8), n = .int .i64 (t : Int) ∧ t ≤ 37 ∧ t % 8 = r ∧ l1 ++ (emit (t / 8) y t ++ T) = G ∧ OwB wr B o l1 ∧ Below B w wr ∧ wr.heap[m0]? = w.heap[m0]?

set_option maxRecDepth 100000 in
set_option maxHeartbeats 1000000 in
theorem huffman_own (B : Nat) (bV : Value) (l : List UInt8) (s : ByteArray) (w : World) (hb : OwB w B bV l) (hBs : B ≤ w.heap.size) (hl : l.length ≤ 100000) (hs : s.size ≤ 100000) :
    Calls Try.prog 49 #[bV, .string s] w fun e w' => ∃ v', e = .returned v' ∧ OwB w' B v' (l ++ enc s.data.toList 0 0) ∧ Below B w w' := by
  obtain ⟨i0, hi, hz, hz1, hz2⟩ := info_parts infoU8
  have Hi := Lib.hid hi
  have Hz := Lib.hid hz
  have Hz1 := Lib.hid hz1
  have Hz2 := Lib.hid hz2
  clear hi hz hz1 hz2
  have HBV := Bx.mk hb
  have hbl := bitLen_le s.data.toList
  have hsl : s.data.toList.length = s.size := by simp
  obtain ⟨G, hGd⟩ : ∃ G, l ++ enc s.data.toList 0 0 = G := ⟨_, rfl⟩
  rw [hGd]
  have hGL : G.length ≤ 500000 := by rw [← hGd, List.length_append, enc_length _ _ _ (by omega)]; omega
  have HGD := Bx.mk hGd
  have HGL := Bx.mk hGL
  have HBS := Bx.mk hBs
  clear hb hBs hbl hsl hGd hGL
  go_enter Try.func49, Try.ntmps49
  go_wp2_with (go_at_call 66; refine (codes_any _).mono ?_; rintro e w1 ⟨g, rfl, hm, b1⟩)
  have HC := Bx.mk hm
  have HB1 := Bx.mk (b1.mono HBS.out)
  have HS1 : Bx (B ≤ w1.heap.size) := ⟨Nat.le_trans HBS.out b1.size⟩
  have HBV := Bx.mk (HBV.out.keep b1)
  have HGW : Bx (g < w1.heap.size) := ⟨World.rowIs.lt hm⟩
  clear hm b1
  go_loopw [0, 6, 7, 8] (fun o wd n i wr => RefEncO w1 B g s G o wd n i wr) (fun _ _ _ i _ => s.size - (intOf i).toNat)
  case atStart => exact ⟨0, 0, 0, l, rfl, by omega, rfl, rfl, by omega, by omega, HGD.out, HBV.out, Below.refl _ _, rfl⟩
  case round =>
    obtain ⟨k, x, m, l1, rfl, hk, rfl, rfl, hm, hx, hG1, hap1, hb1, hgb⟩ := hrel
    have HX := Bx.mk hx
    have HM := Bx.mk hm
    have HG1 := Bx.mk hG1
    have HAP := Bx.mk hap1
    have HB := Bx.mk hb1
    have hsz : B ≤ wr.heap.size := Nat.le_trans HS1.out hb1.size
    have hcode : CodesAt wr g := World.rowIs.of_block HC.out hgb
    have HGB := Bx.mk hgb
    have HGZ : Bx (g < wr.heap.size) := ⟨Nat.lt_of_lt_of_le HGW.out hb1.size⟩
    clear hx hG1 hap1 hb1 hgb
    by_cases hlt : k < s.size
    · have hck : s[k].toNat < 256 := s[k].toNat_lt
      have hll := ll_byte s[k]
      obtain ⟨hc1, hc2⟩ := hcode.cells s[k].toNat (by omega)
      clear hcode
      have HLB := Bx.mk hll
      obtain ⟨-, hll2, -⟩ := hll
      generalize hcl : ll s[k].toNat = n at hc2 hll2 HLB
      generalize hcc : cw s[k].toNat = v at hc1 HLB
      have HE : Bx (ll s[k].toNat = n ∧ cw s[k].toNat = v) := ⟨hcl, hcc⟩
      clear hcl hcc
      go_wp2
      go_region
      rw [word_or x n v hll2 HLB.out.2.2, nw_small x m n v HM.out hll2 HX.out]
      have HY := Bx.mk (y_lt x m n v HM.out hll2 HX.out HLB.out.2.2)
      have HG2 : Bx (l1 ++ (emit ((m + n) / 8) (x * 2 ^ n + v) (m + n) ++ enc (s.data.toList.drop (k + 1)) ((x * 2 ^ n + v) % 2 ^ ((m + n) % 8)) ((m + n) % 8)) = G) := ⟨by
        have h := HG1.out
        rw [List.drop_eq_getElem_cons (by simpa using hlt)] at h
        have e : enc (s[k] :: s.data.toList.drop (k + 1)) x m = _ := enc.eq_2 ..
        rw [HE.out.1, HE.out.2] at e
        exact (congrArg (l1 ++ ·) e).symm.trans h⟩
      have HAP2 : Bx (OwB (wr.alloc (Obj.cells #[Value.int IntKind.u32 v, Value.int IntKind.i64 n] 112)).drew B u0 l1) := ⟨(HAP.out.alloc _).drew⟩
      have HB2 : Bx (Below B w1 (wr.alloc (Obj.cells #[Value.int IntKind.u32 v, Value.int IntKind.i64 n] 112)).drew) := ⟨(HB.out.alloc hsz _).drew⟩
      have HG5 : Bx ((wr.alloc (Obj.cells #[Value.int IntKind.u32 v, Value.int IntKind.i64 n] 112)).drew.heap[g]? = w1.heap[g]?) := ⟨(((Below.refl wr.heap.size wr).alloc (Nat.le_refl _) (Obj.cells #[Value.int IntKind.u32 v, Value.int IntKind.i64 n] 112)).drew.block g HGZ.out).trans HGB.out⟩
      have hmn : m + n ≤ 37 := by omega
      clear hc1 hc2 HG1 HAP HB HX HLB HE hck hll2 hsz
      generalize (wr.alloc (Obj.cells #[Value.int IntKind.u32 v, Value.int IntKind.i64 n] 112)).drew = w5 at HAP2 HB2 HG5 ⊢
      generalize x * 2 ^ n + v = y at HY HG2 ⊢
      go_wp2
      go_loopw [0, 7] (fun o n' wr' => EmitRelO w1 B g G (enc (s.data.toList.drop (k + 1)) (y % 2 ^ ((m + n) % 8)) ((m + n) % 8)) y ((m + n) % 8) o n' wr') (fun _ n' _ => (intOf n').toNat)
      case atStart => exact ⟨m + n, l1, by go_num, hmn, rfl, HG2.out, HAP2.out, HB2.out, HG5.out⟩
      case round =>
        obtain ⟨t, l2, rfl, ht, ht8, hG2, hap2, hb2, hgb2⟩ := hrel
        have HGB2 := Bx.mk hgb2
        clear hgb2
        have HT8 := Bx.mk ht8
        have HG3 := Bx.mk hG2
        have HAP3 := Bx.mk hap2
        have HB3 := Bx.mk hb2
        clear ht8 hG2 hap2 hb2 HG2 HAP2 HB2
        have hlen : l2.length ≤ 500000 := by
          have h := congrArg List.length HG3.out
          have h2 := HGL.out
          rw [← h, List.length_append] at h2
          omega
        have hsz : B ≤ wr.heap.size := Nat.le_trans HS1.out HB3.out.size
        by_cases h8 : 8 ≤ t
        · go_wp2_with (first
            | (at_builtin
               refine wpList_append_og _ rfl _ _ 33 rfl B 5 i0 (.int .u8 0) 1 Try.underlying33 Hi.out Hz.out Hz1.out Hz2.out rfl _ _ (l2.map bv) _ rfl rfl (HAP3.out.alloc _) (Rd.lit wr 5 _ 1 rfl (by simp [maxLen])) (by simp [Value.oneCell']) (by simp; omega) (by simp [maxLen]; omega) (by simp; omega) ?_
               intro v6 w6 hap6 hb6 hgr6))
          have HAP6 := Bx.mk (OwB.snoc hap6 (UInt8.ofNat (y / 2 ^ (t - 8) % 256)) (by rw [← byte_nat (by omega)]; simp))
          have HB6 : Bx (Below B w1 w6) := ⟨HB3.out.trans (((Below.refl _ _).alloc hsz _).trans hb6)⟩
          have HG6 : Bx (w6.heap[g]? = w1.heap[g]?) := ⟨by
            have hlt : g < wr.heap.size := Nat.lt_of_lt_of_le HGW.out HB3.out.size
            rw [hgr6.block g (by simp; omega) (fun e => HAP3.out.ne (World.rowIs.of_block HC.out HGB2.out) (by decide) e.symm), ((Below.refl wr.heap.size wr).alloc (Nat.le_refl _) _).block g hlt]
            exact HGB2.out⟩
          clear hap6 hb6 hgr6
          go_wp2
          go_roundw
          case rel =>
            refine ⟨t - 8, l2 ++ [UInt8.ofNat (y / 2 ^ (t - 8) % 256)], by go_num, by omega, by have := HT8.out; omega, ?_, HAP6.out, HB6.out, HG6.out⟩
            have h := HG3.out
            rw [emit_next y t h8] at h
            rw [← h]
            simp
          case measure => simp [intOf]; omega
        · have HG4 : Bx (l2 ++ enc (s.data.toList.drop (k + 1)) (y % 2 ^ t) t = G) := ⟨by
            have h := HG3.out
            rw [emit_done y t (by omega), List.nil_append] at h
            have e := HT8.out
            rw [Nat.mod_eq_of_lt (by omega)] at e
            rw [e]; exact h⟩
          clear HG3 HT8
          have HW := Bx.mk (mask_low y t HY.out (by omega))
          have HL := Bx.mk (Nat.mod_lt y (Nat.two_pow_pos t))
          go_wp2
          go_roundw
          case rel => exact ⟨k + 1, y % 2 ^ t, t, l2, by go_num, by omega, by rw [HW.out], rfl, by omega, HL.out, HG4.out, HAP3.out, HB3.out, HGB2.out⟩
          case measure => simp [intOf]; omega
    · clear hcode
      obtain rfl : k = s.size := by omega
      have HG4 : Bx (l1 ++ last (x % 2 ^ m) m = G) := ⟨by
        have h := HG1.out
        rw [List.drop_of_length_le (by simp)] at h
        rw [Nat.mod_eq_of_lt HX.out]
        exact h⟩
      have hlen : l1.length ≤ 500000 := by
        have h := congrArg List.length HG4.out
        have h2 := HGL.out
        rw [← h, List.length_append] at h2
        omega
      clear HG1
      by_cases h0 : 0 < m
      · have hw8 : IntKind.i64.wrap (8 - (m : Int)) = 8 - (m : Int) := by rw [IntKind.wrap_i64]; omega
        have hw0 : (0 : Int) ≤ 8 - (m : Int) := by omega
        have hw9 : (8 - (m : Int)).toNat = 8 - m := by omega
        go_wp2
        go_region_law (refine step_append_og rfl (.tmp 53) (.tmp 64) 33 rfl B 5 i0 (.int .u8 0) 1 Try.underlying33 Hi.out Hz.out Hz1.out Hz2.out rfl _ _ (l1.map bv) _ rfl rfl (HAP.out.drew.alloc _) (Rd.lit wr.drew 5 _ 1 rfl (by simp [maxLen])) (by simp [Value.oneCell']) (by simp; omega) (by simp [maxLen]; omega) (by simp; omega) ?_; intro v2 w2 hap2 hb2 _)
        have HAP2 := Bx.mk (OwB.snoc hap2 (UInt8.ofNat (x % 2 ^ m * 2 ^ (8 - m) + (2 ^ (8 - m) - 1))) (by rw [last_byte x m h0 hm]; exact byte_nat (last_lt x m h0 hm)))
        have HB2 : Bx (Below B w1 w2) := ⟨HB.out.trans (((Below.refl _ _).alloc hsz _).drew.trans hb2)⟩
        clear hap2 hb2
        go_wp2
        go_ret
        refine ⟨_, rfl, ?_, HB1.out.trans HB2.out⟩
        have h := HG4.out
        rw [last, if_neg (by omega)] at h
        rw [← h]
        exact HAP2.out
      · obtain rfl : m = 0 := by omega
        go_wp2
        go_ret
        refine ⟨_, rfl, ?_, HB1.out.trans HB.out⟩
        have h := HG4.out
        simp only [last, if_true, List.append_nil] at h
        rw [← h]
        exact HAP.out

end Go.Proofs.Ythnaapjefedalaa

/-
  Contracts of num.ReadVar and of the document's ReadVar.
-/
namespace Go.Proofs.Ythnaapjefedalaa
open Go.RowKit
set_option linter.unusedVariables false

def rvLen (c : UInt8) : Nat := 2 ^ (c.toNat / 64)
/-- What ReadVar answers: the number, how many bytes, the error's number. -/
def rv : List UInt8 → Int × Int × Int
  | [] => (0, 0, 20)
  | c :: t => if (c :: t).length < rvLen c then (0, 0, 20) else ((rb ((c :: t).take (rvLen c)) : Int) % 2 ^ (8 * rvLen c - 2), (rvLen c : Int), 0)

def Ans3 (x : Int × Int × Int) : Ending := .returned (.tuple #[.int .u64 x.1, .int .i64 x.2.1, .int .i64 x.2.2])

theorem ans3 {a b c : Int} {x : Int × Int × Int} (h : x = (a, b, c)) : Ending.returned (.tuple #[.int .u64 a, .int .i64 b, .int .i64 c]) = Ans3 x := by subst h; rfl

theorem rv_more (c : UInt8) (t : List UInt8) (h : (c :: t).length < rvLen c) : rv (c :: t) = (0, 0, 20) := by simp only [rv, if_pos h]
theorem rv_ok (c : UInt8) (t : List UInt8) (h : ¬ (c :: t).length < rvLen c) : rv (c :: t) = ((rb ((c :: t).take (rvLen c)) : Int) % 2 ^ (8 * rvLen c - 2), (rvLen c : Int), 0) := by simp only [rv, if_neg h]

theorem fin_mask (n i r : Nat) (m N : Int) (hm : m = ((2 ^ i - 1 : Nat) : Int)) (hi : i ≤ 64) (hr : r < 18446744073709551616) (hN : N = (n : Int)) : ((r : Int) % 2 ^ i, (n : Int), (0 : Int)) = (bits .and .u64 (r : Int) m, N, 0) := by
  rw [u64_mask r i m hm hi hr, hN]
  simp

theorem Bs.cell0 {w : World} {bV : Value} {x : UInt8} {t : List UInt8} (h : Bs w bV (x :: t)) : ∃ b o L c, bV = .slice (some ⟨b, o, none⟩) L c ∧ Hid (L = t.length + 1) ∧ 1 ≤ L ∧ L ≤ c ∧ c ≤ maxLen ∧ w.cell? ⟨b, o, none⟩ = some (.int .u8 (x.toNat : Int)) := by
  obtain ⟨b, o, c, hv, h1, h2, -, h3⟩ := Rd.at_ h (by simp)
  have := h3 0 (bv x) (by simp)
  exact ⟨b, o, _, c, hv, by simp [Hid], by simp, h1, h2, by simpa [bv] using this⟩

end Go.Proofs.Ythnaapjefedalaa

/-
  Contracts of num.ReadPrefix and of the document's ReadPrefix.
-/
namespace Go.Proofs.Ythnaapjefedalaa
open Go.RowKit
set_option linter.unusedVariables false

def maxVar : Nat := 4611686018427387903
def rpGo : List UInt8 → Nat → Nat → Int × Int × Int
  | [], _, _ => (0, 0, 20)
  | c :: t, i, v =>
    if (maxVar - v) / 2 ^ (7 * i) < c.toNat % 128 then (0, 0, 21)
    else if c.toNat < 128 then (((v + c.toNat % 128 * 2 ^ (7 * i) : Nat) : Int), ((i + 2 : Nat) : Int), 0)
    else if i + 1 = 10 then (0, 0, 21)
    else rpGo t (i + 1) (v + c.toNat % 128 * 2 ^ (7 * i))
/-- What ReadPrefix answers at k bits. -/
def rp (k : Nat) : List UInt8 → Int × Int × Int
  | [] => (0, 0, 20)
  | c :: t => if c.toNat % 2 ^ k < 2 ^ k - 1 then (((c.toNat % 2 ^ k : Nat) : Int), 1, 0) else rpGo t 0 (c.toNat % 2 ^ k)

theorem rpGo_big (c : UInt8) (t : List UInt8) (i v : Nat) (h : (maxVar - v) / 2 ^ (7 * i) < c.toNat % 128) : rpGo (c :: t) i v = (0, 0, 21) := by simp only [rpGo, if_pos h]
theorem rpGo_last (c : UInt8) (t : List UInt8) (i v : Nat) (h : ¬ (maxVar - v) / 2 ^ (7 * i) < c.toNat % 128) (hc : c.toNat < 128) : rpGo (c :: t) i v = (((v + c.toNat % 128 * 2 ^ (7 * i) : Nat) : Int), ((i + 2 : Nat) : Int), 0) := by simp only [rpGo, if_neg h, if_pos hc]
theorem rpGo_ten (c : UInt8) (t : List UInt8) (i v : Nat) (h : ¬ (maxVar - v) / 2 ^ (7 * i) < c.toNat % 128) (hc : ¬ c.toNat < 128) (hi : i + 1 = 10) : rpGo (c :: t) i v = (0, 0, 21) := by simp only [rpGo, if_neg h, if_neg hc, if_pos hi]
theorem rpGo_on (c : UInt8) (t : List UInt8) (i v : Nat) (h : ¬ (maxVar - v) / 2 ^ (7 * i) < c.toNat % 128) (hc : ¬ c.toNat < 128) (hi : ¬ i + 1 = 10) : rpGo (c :: t) i v = rpGo t (i + 1) (v + c.toNat % 128 * 2 ^ (7 * i)) := by simp only [rpGo, if_neg h, if_neg hc, if_neg hi]

/-- What a byte comes to: p are its seven low bits. -/
def rpAns (c : Nat) (t : List UInt8) (i v p : Nat) : Int × Int × Int :=
  if (maxVar - v) / 2 ^ (7 * i) < p then (0, 0, 21)
  else if c < 128 then (((v + p * 2 ^ (7 * i) : Nat) : Int), ((i + 2 : Nat) : Int), 0)
  else if i + 1 = 10 then (0, 0, 21)
  else rpGo t (i + 1) (v + p * 2 ^ (7 * i))
theorem rpGo_ans (c : UInt8) (t : List UInt8) (i v : Nat) : rpGo (c :: t) i v = rpAns c.toNat t i v (c.toNat % 128) := rfl
theorem rpAns_big (c : Nat) (t : List UInt8) (i v p : Nat) (h : (maxVar - v) / 2 ^ (7 * i) < p) : rpAns c t i v p = (0, 0, 21) := by simp only [rpAns, if_pos h]
theorem rpAns_last (c : Nat) (t : List UInt8) (i v p : Nat) (r : Int) (h : ¬ (maxVar - v) / 2 ^ (7 * i) < p) (hc : c < 128) (hr : ((v + p * 2 ^ (7 * i) : Nat) : Int) = r) : rpAns c t i v p = (r, ((i + 2 : Nat) : Int), 0) := by simp only [rpAns, if_neg h, if_pos hc, hr]
theorem rpAns_ten (c : Nat) (t : List UInt8) (v p : Nat) (h : ¬ (maxVar - v) / 2 ^ (7 * 9) < p) (hc : ¬ c < 128) : rpAns c t 9 v p = (0, 0, 21) := by simp only [rpAns, if_neg h, if_neg hc]; rfl
theorem rpAns_on (c : Nat) (t : List UInt8) (i v p r : Nat) (h : ¬ (maxVar - v) / 2 ^ (7 * i) < p) (hc : ¬ c < 128) (hi : ¬ i + 1 = 10) (hr : v + p * 2 ^ (7 * i) = r) : rpAns c t i v p = rpGo t (i + 1) r := by simp only [rpAns, if_neg h, if_neg hc, if_neg hi, hr]

theorem pfits (p v i : Nat) (hv : v ≤ maxVar) (h : ¬ (maxVar - v) / 2 ^ (7 * i) < p) : v + p * 2 ^ (7 * i) ≤ maxVar := by
  have h1 : p * 2 ^ (7 * i) ≤ maxVar - v := by
    have := Nat.mul_le_mul_right (2 ^ (7 * i)) (Nat.not_lt.1 h)
    exact Nat.le_trans this (Nat.div_mul_le_self _ _)
  omega

theorem and127 (y : UInt8) : bits .and .u8 (y.toNat : Int) 127 = ((y.toNat % 128 : Nat) : Int) := by
  have hy := y.toNat_lt
  have key : ∀ z, z < 256 → z &&& 127 = z % 128 := by decide +kernel
  rw [show (127 : Int) = ((127 : Nat) : Int) from rfl, u8_and_nat _ _ hy (by omega), key _ hy]
theorem shl_fit (p v i : Nat) (S : Int) (h : v + p * 2 ^ (7 * i) ≤ maxVar) (hS : IntKind.u64.wrap ((p : Int) * 2 ^ (7 * i)) = S) : S = ((p * 2 ^ (7 * i) : Nat) : Int) := by
  have e : (p : Int) * 2 ^ (7 * i) = ((p * 2 ^ (7 * i) : Nat) : Int) := by push_cast; rfl
  rw [← hS, IntKind.wrap_u64, e]
  unfold maxVar at h
  omega
theorem shl7 (i : Nat) (h : i ≤ 9) (x : Int) : Op.shift .shl .u64 x .i64 (7 * (i : Int)) = pure (.int .u64 (IntKind.u64.wrap (x * 2 ^ (7 * i)))) := by
  rw [shift_shl_u64 _ _ _ (by omega) (by omega)]
  rw [show (7 * (i : Int)).toNat = 7 * i from by omega]
theorem shr7 (i : Nat) (h : i ≤ 9) (x : Int) : Op.shift .shr .u64 x .i64 (7 * (i : Int)) = pure (.int .u64 (x / 2 ^ (7 * i))) := by
  rw [shift_shr_u64 _ _ _ (by omega) (by omega)]
  rw [show (7 * (i : Int)).toNat = 7 * i from by omega]
theorem div_small (v D Q : Int) (i p : Nat) (h : D = 4611686018427387903 - v) (h0 : 0 ≤ v) (h1 : v ≤ 4611686018427387903) (hQ : D / 2 ^ (7 * i) = Q) (hb : Q < (p : Int)) : ((maxVar - v.toNat) / 2 ^ (7 * i) : Nat) < p := by
  have : (((maxVar - v.toNat) / 2 ^ (7 * i) : Nat) : Int) = Q := by
    rw [← hQ, h]
    push_cast
    congr 1
    unfold maxVar
    omega
  omega
theorem div_fits (v D Q : Int) (i p : Nat) (h : D = 4611686018427387903 - v) (h0 : 0 ≤ v) (h1 : v ≤ 4611686018427387903) (hQ : D / 2 ^ (7 * i) = Q) (hb : ¬ Q < (p : Int)) : ¬ ((maxVar - v.toNat) / 2 ^ (7 * i) : Nat) < p := by
  have : (((maxVar - v.toNat) / 2 ^ (7 * i) : Nat) : Int) = Q := by
    rw [← hQ, h]
    push_cast
    congr 1
    unfold maxVar
    omega
  omega

def RpRel (R : Int × Int × Int) (t : List UInt8) (T : Nat) (vv iv : Value) : Prop :=
  ∃ (i : Nat) (v : Int), iv = .int .i64 i ∧ vv = .int .u64 v ∧ 0 ≤ v ∧ v ≤ 4611686018427387903 ∧ i ≤ T ∧ i ≤ 9 ∧ rpGo (t.drop i) i v.toNat = R

end Go.Proofs.Ythnaapjefedalaa

/-
  The contract of the document's ReadPrefix.
-/
namespace Go.Proofs.Ythnaapjefedalaa
open Go.RowKit
set_option linter.unusedVariables false

theorem refReadPrefix_nil (bV : Value) (n : Int) (w : World) (hb : Bs w bV []) :
    Calls Try.prog 39 #[bV, .int .i64 n] w fun e w' => e = Ans3 (rp (bitsOf n) []) ∧ w = w' := by
  obtain ⟨A, L, c, rfl, hL, h1, h2, h3, h4⟩ := hb.open_
  have hL0 : L = 0 := hL.out
  subst hL0
  clear hb hL h3 h4
  go_enter Try.func39, Try.ntmps39
  go_wp2
  go_ret3
  exact ⟨rfl, rfl⟩

theorem and128 (z : Nat) (hz : z < 256) : (bits .and .u8 (z : Int) 128 == 0) = decide (z < 128) := by
  have key : ∀ z, z < 256 → (((z &&& 128 : Nat) : Int) == 0) = decide (z < 128) := by decide +kernel
  rw [show (128 : Int) = ((128 : Nat) : Int) from rfl, u8_and_nat _ _ hz (by omega), key z hz]

def RefRel (R : Int × Int × Int) (t : List UInt8) (T : Nat) (vv iv : Value) : Prop :=
  ∃ (i : Nat) (v : Int), iv = .int .i64 ((i : Int) + 1) ∧ vv = .int .u64 v ∧ 0 ≤ v ∧ v ≤ 4611686018427387903 ∧ i ≤ T ∧ ((i ≤ 9 ∧ rpGo (t.drop i) i v.toNat = R) ∨ (i = 10 ∧ R = (0, 0, 21)))

set_option maxHeartbeats 1000000 in
theorem refReadPrefix_cons (bV : Value) (x : UInt8) (t : List UInt8) (n : Int) (w : World) (hb : Bs w bV (x :: t)) (hm : (x :: t).length ≤ 1000000) :
    Calls Try.prog 39 #[bV, .int .i64 n] w fun e w' => e = Ans3 (rp (bitsOf n) (x :: t)) ∧ w = w' := by
  obtain ⟨hk1, hk8, hkn⟩ := bitsOf_range n
  generalize bitsOf n = k at hk1 hk8 hkn ⊢
  have hM := full_range hk1 hk8
  have hfw := full_wrap (k : Int) (by omega) (by omega)
  rw [full_nat, Int.toNat_natCast] at hfw
  have hx256 := x.toNat_lt
  have hand := u64_mask x.toNat k _ rfl (by omega) (by omega)
  have hrp : rp k (x :: t) = if x.toNat % 2 ^ k < 2 ^ k - 1 then (((x.toNat % 2 ^ k : Nat) : Int), 1, 0) else rpGo t 0 (x.toNat % 2 ^ k) := rfl
  have hml : x.toNat % 2 ^ k ≤ x.toNat := Nat.mod_le _ _
  generalize rp k (x :: t) = R at hrp ⊢
  generalize x.toNat % 2 ^ k = v0 at hand hrp hml
  generalize 2 ^ k - 1 = M at hM hfw hand hrp
  obtain ⟨hM1, hM2⟩ := hM
  obtain ⟨b, o, L, c, rfl, hL, h0, h1, h2, hc⟩ := hb.cell0
  have Hb := Lib.hid hb
  clear hb
  have hne : ((L : Int) == 0) = false := by simp; omega
  unfold maxLen at h2
  by_cases hlt : v0 < M
  · rw [if_pos hlt] at hrp
    have Hrp := Lib.hid hrp
    clear hrp
    go_enter Try.func39, Try.ntmps39
    go_wp2
    go_ret3
    exact ⟨ans3 Hrp.out, rfl⟩
  · rw [if_neg hlt] at hrp
    have Hrp := Lib.hid hrp
    clear hrp
    have hMv : decide (v0 < M) = false := by rw [decide_eq_false_iff_not]; exact hlt
    clear hlt
    have hcell : ∀ i (h : i < t.length), w.cell? ⟨b, o + (i + 1), none⟩ = some (.int .u8 (t[i].toNat : Int)) := by
      intro i h
      have := Hb.out.cell (i + 1) (by simp at h ⊢; omega)
      simpa using this
    have hlen1 : t.length = L - 1 := by have := hL.out; omega
    obtain ⟨T, rfl⟩ : ∃ T, L = T + 1 := ⟨L - 1, by omega⟩
    have Hlen1 : Bx (t.length = T) := ⟨by omega⟩
    have Hcell : Bx (∀ i (h : i < t.length), w.cell? ⟨b, o + (i + 1), none⟩ = some (.int .u8 (t[i].toNat : Int))) := ⟨hcell⟩
    have hT : T ≤ 1000000 := by simp at hm; omega
    have Hm : Bx ((x :: t).length ≤ 1000000) := ⟨hm⟩
    have Hv : Bx (v0 < 256) := ⟨by have : (2:Nat) ^ 8 = 256 := rfl; omega⟩
    have hne2 : ((T : Int) + 1 == 0) = false := by rw [beq_eq_false_iff_ne]; omega
    clear hlen1 hcell hm hL hne
    go_enter Try.func39, Try.ntmps39
    go_wp2
    go_loop [8, 9] (fun vv iv => RefRel R t T vv iv) (fun _ i => T + 1 - (intOf i).toNat)
    case atStart => exact ⟨0, v0, rfl, rfl, by omega, by have := Hv.out; omega, by omega, .inl ⟨by omega, by simpa using Hrp.out.symm⟩⟩
    case round =>
      obtain ⟨i, v, rfl, rfl, hv0, hv1, hi, hR⟩ := hrel
      have Hv0 : Bx (0 ≤ v) := ⟨hv0⟩
      have Hv1 : Bx (v ≤ 4611686018427387903) := ⟨hv1⟩
      clear hv0 hv1 hc hand
      rcases hR with ⟨hi9, hR⟩ | ⟨hi10, hR⟩
      · have h10 : decide (10 < (i : Int) + 1) = false := by rw [decide_eq_false_iff_not]; omega
        by_cases hiT : i < T
        · have hTb : decide ((T : Int) + 1 ≤ (i : Int) + 1) = false := by rw [decide_eq_false_iff_not]; omega
          have hit : i < t.length := by have := Hlen1.out; omega
          have hd : t.drop i = t[i] :: t.drop (i + 1) := List.drop_eq_getElem_cons hit
          rw [hd] at hR
          have hc := Hcell.out i hit
          have hy : t[i].toNat < 256 := t[i].toNat_lt
          clear hd
          generalize t[i] = y at hc hy hR
          obtain ⟨p, hpe⟩ : ∃ p, y.toNat % 128 = p := ⟨_, rfl⟩
          have hpand : bits .and .u8 (y.toNat : Int) 127 = (p : Int) := by rw [and127 y, hpe]
          have h128 := and128 y.toNat hy
          have hp : p < 128 := by omega
          have HR4 : Bx (rpAns y.toNat (t.drop (i + 1)) i v.toNat p = R) := ⟨by rw [rpGo_ans, hpe] at hR; exact hR⟩
          clear hR hpe
          generalize y.toNat = z at hc hpand HR4 h128 hy
          obtain ⟨D, hD⟩ : ∃ D, IntKind.u64.wrap (4611686018427387903 - v) = D := ⟨_, rfl⟩
          have HD : Bx (D = 4611686018427387903 - v) := ⟨by have := Hv0.out; have := Hv1.out; rw [← hD, IntKind.wrap_u64]; omega⟩
          obtain ⟨Q, hQ⟩ : ∃ Q, D / 2 ^ (7 * i) = Q := ⟨_, rfl⟩
          have hi0 : i = 9 ∨ i ≤ 8 := by omega
          rcases hi0 with hi8 | hi8
          · -- the tenth byte behind the first: no bit of it counts
            have h62 : decide (62 ≤ 7 * (i : Int)) = true := by rw [decide_eq_true_iff]; omega
            have h62' : decide (7 * (i : Int) < 62) = false := by rw [decide_eq_false_iff_not]; omega
            have hq0 : Q = 0 := by
              have a := HD.out; have b := Hv0.out; have c := Hv1.out
              rw [← hQ, hi8, show (2 : Int) ^ (7 * 9) = 9223372036854775808 from by decide]
              omega
            rcases Nat.eq_zero_or_pos p with hp0 | hp0
            · subst hp0
              have HQ := div_fits v D Q i 0 HD.out Hv0.out Hv1.out hQ (by omega)
              have HQ2 : Bx _ := ⟨HQ⟩
              have Hi8 : Bx (i = 9) := ⟨hi8⟩
              have Hq0 : Bx (Q = 0) := ⟨hq0⟩
              clear HQ hi8 hq0 hQ hD
              have hz0 : z < 128 ∨ 128 ≤ z := by omega
              rcases hz0 with hz | hz
              · have hzb : decide (z < 128) = true := by rw [decide_eq_true_iff]; exact hz
                rw [hzb] at h128
                have Hz : Bx (z < 128) := ⟨hz⟩
                clear hzb hz hi9
                go_wp2
                go_ret3
                exact ⟨ans3 (HR4.out.symm.trans (rpAns_last z _ i _ 0 v HQ2.out Hz.out (by have := Hv0.out; omega))), rfl⟩
              · have hzb : decide (z < 128) = false := by rw [decide_eq_false_iff_not]; omega
                rw [hzb] at h128
                have Hz : Bx (¬ z < 128) := ⟨by omega⟩
                clear hzb hz hi9
                go_wp2
                go_round
                case rel =>
                  have h := HR4.out
                  have hq := HQ2.out
                  rw [Hi8.out] at h hq
                  rw [rpAns_ten z _ _ 0 hq Hz.out] at h
                  exact ⟨i + 1, v, by go_num, rfl, Hv0.out, Hv1.out, by omega, .inr ⟨by have := Hi8.out; omega, h.symm⟩⟩
                case measure => simp [intOf]; omega
            · have hpb : decide (0 < p) = true := by rw [decide_eq_true_iff]; exact hp0
              have HQb : Bx (Q < (p : Int)) := ⟨by omega⟩
              clear hq0 hi8 hi9
              go_wp2
              go_ret3
              exact ⟨ans3 (HR4.out.symm.trans (rpAns_big z _ i _ p (div_small v D Q i p HD.out Hv0.out Hv1.out hQ HQb.out))), rfl⟩
          · have h62 : decide (62 ≤ 7 * (i : Int)) = false := by rw [decide_eq_false_iff_not]; omega
            have h62' : decide (7 * (i : Int) < 62) = true := by rw [decide_eq_true_iff]; omega
            have hbig0 : Q < (p : Int) ∨ ¬ Q < (p : Int) := by omega
            rcases hbig0 with hbig | hbig
            · have hbb : decide (Q < (p : Int)) = true := by rw [decide_eq_true_iff]; exact hbig
              have HQb : Bx (Q < (p : Int)) := ⟨hbig⟩
              clear hbig hi9
              go_wp2
              go_ret3
              exact ⟨ans3 (HR4.out.symm.trans (rpAns_big z _ i _ p (div_small v D Q i p HD.out Hv0.out Hv1.out hQ HQb.out))), rfl⟩
            · have HQ := div_fits v D Q i p HD.out Hv0.out Hv1.out hQ hbig
              have hfit := pfits p v.toNat i (by have := Hv0.out; have := Hv1.out; unfold maxVar; omega) HQ
              obtain ⟨S, hS⟩ : ∃ S, IntKind.u64.wrap ((p : Int) * 2 ^ (7 * i)) = S := ⟨_, rfl⟩
              have hSe := shl_fit p v.toNat i S hfit hS
              have HS0 : Bx (0 ≤ S) := ⟨by omega⟩
              have HVS : Bx (v + S ≤ 4611686018427387903) := ⟨by have := Hv0.out; unfold maxVar at hfit; omega⟩
              obtain ⟨V, hV⟩ : ∃ V, IntKind.u64.wrap (v + S) = V := ⟨_, rfl⟩
              have HV : Bx (V = v + S) := ⟨by have := Hv0.out; have := HVS.out; have := HS0.out; rw [← hV, IntKind.wrap_u64]; omega⟩
              have HSe : Bx (((v.toNat + p * 2 ^ (7 * i) : Nat) : Int) = V) := ⟨by have := Hv0.out; have := HV.out; omega⟩
              have HVr : Bx (V = IntKind.u64.wrap (v + IntKind.u64.wrap ((p : Int) * 2 ^ (7 * i)))) := ⟨by rw [hS]; exact hV.symm⟩
              have HQ2 : Bx _ := ⟨HQ⟩
              have hbb : decide (Q < (p : Int)) = false := by rw [decide_eq_false_iff_not]; exact hbig
              clear hSe HQ hfit hS hV hbig hi9
              have hz0 : z < 128 ∨ 128 ≤ z := by omega
              rcases hz0 with hz | hz
              · have hzb : decide (z < 128) = true := by rw [decide_eq_true_iff]; exact hz
                rw [hzb] at h128
                have Hz : Bx (z < 128) := ⟨hz⟩
                clear hzb hz
                go_wp2
                go_ret3
                exact ⟨ans3 (HR4.out.symm.trans (rpAns_last z _ i _ p _ HQ2.out Hz.out (HSe.out.trans HVr.out))), rfl⟩
              · have hzb : decide (z < 128) = false := by rw [decide_eq_false_iff_not]; omega
                rw [hzb] at h128
                have Hz : Bx (¬ z < 128) := ⟨by omega⟩
                clear hzb hz
                go_wp2
                go_round
                case rel =>
                  have := HS0.out; have := HV.out; have := HVS.out; have := Hv0.out
                  refine ⟨i + 1, V, by go_num, by rw [HVr.out], by omega, by omega, by omega, .inl ⟨by omega, ?_⟩⟩
                  have h := HR4.out
                  rw [rpAns_on z _ i _ p _ HQ2.out Hz.out (by omega) rfl, show v.toNat + p * 2 ^ (7 * i) = V.toNat from by have := HSe.out; omega] at h
                  exact h
                case measure => simp [intOf]; omega
        · have hTb : decide ((T : Int) + 1 ≤ (i : Int) + 1) = true := by rw [decide_eq_true_iff]; omega
          obtain rfl : i = T := by omega
          have h := hR
          rw [List.drop_of_length_le (by have := Hlen1.out; omega)] at h
          have H : Bx (R = (0, 0, 20)) := ⟨by rw [← h]; rfl⟩
          clear hR h
          go_wp2
          go_ret3
          exact ⟨ans3 H.out, rfl⟩
      · have h10 : decide (10 < (i : Int) + 1) = true := by rw [decide_eq_true_iff]; omega
        have H : Bx (R = (0, 0, 21)) := ⟨hR⟩
        clear hR hi10
        go_wp2
        go_ret3
        exact ⟨ans3 H.out, rfl⟩

theorem refReadPrefix_any (bV : Value) (l : List UInt8) (n : Int) (w : World) (hb : Bs w bV l) (hm : l.length ≤ 1000000) :
    Calls Try.prog 39 #[bV, .int .i64 n] w fun e w' => e = Ans3 (rp (bitsOf n) l) ∧ w = w' := by
  cases l with
  | nil => exact refReadPrefix_nil bV n w hb
  | cons x t => exact refReadPrefix_cons bV x t n w hb hm

end Go.Proofs.Ythnaapjefedalaa

/-
  The contract of huff.Decode.
-/
namespace Go.Proofs.Ythnaapjefedalaa
open Go.RowKit
set_option linter.unusedVariables false

def Ans (R : List UInt8 × Nat) : Ending := .returned (.tuple #[.string (bstr R.1), .int .i64 (R.2 : Int)])

/-- Between two bytes. -/
def DecRel (w : World) (l : List UInt8) (R : List UInt8 × Nat) (o wd n i : Value) (wr : World) : Prop :=
  ∃ (k x m : Nat) (l1 : List UInt8), i = .int .i64 (k : Int) ∧ k ≤ l.length ∧ wd = .int .u32 (x : Int) ∧ n = .int .i64 (m : Int) ∧ Open m x ∧
    dec (allBits (l.drop k)) l1 x m = R ∧ l1.length ≤ 4096 ∧ ApB wr w.heap.size o l1 ∧ Below w.heap.size w wr
/-- Between two bits of byte c. -/
def BitRel (w : World) (c : Nat) (T : List Nat) (R : List UInt8 × Nat) (o wd n i : Value) (wr : World) : Prop :=
  ∃ (j x m : Nat) (l1 : List UInt8), i = .int .i64 ((j : Int) - 1) ∧ j ≤ 8 ∧ wd = .int .u32 (x : Int) ∧ n = .int .i64 (m : Int) ∧ Open m x ∧
    dec (msb j c ++ T) l1 x m = R ∧ l1.length ≤ 4096 ∧ ApB wr w.heap.size o l1 ∧ Below w.heap.size w wr

theorem bit_of (c q : Nat) (hc : c < 256) : bits .and .u8 ((c : Int) / 2 ^ q) 1 = ((c / 2 ^ q % 2 : Nat) : Int) := by
  have h : c / 2 ^ q ≤ c := Nat.div_le_self _ _
  rw [show ((c : Int) / 2 ^ q) = ((c / 2 ^ q : Nat) : Int) from by simp, show (1 : Int) = ((1 : Nat) : Int) from rfl, u8_and_nat _ _ (by omega) (by omega), Nat.and_one_is_mod]
theorem or_bit (x b : Nat) (hx : x < 1073741824) (hb : b < 2) : bits .or .u32 ((x : Int) * 2) (b : Int) = ((2 * x + b : Nat) : Int) := by
  rw [show ((x : Int) * 2) = ((x * 2 ^ 1 : Nat) : Int) from by omega, u32_or_nat _ _ (by omega) (by omega), ← Nat.shiftLeft_eq, ← Nat.shiftLeft_add_eq_or_of_lt (by omega), Nat.shiftLeft_eq]
  omega

theorem m8 {m : Nat} (h : m < 8) : m = 0 ∨ m = 1 ∨ m = 2 ∨ m = 3 ∨ m = 4 ∨ m = 5 ∨ m = 6 ∨ m = 7 := by omega
theorem ones_word (m : Nat) (h : m < 8) : ((2 : Int) ^ m - 1) % 4294967296 = ((2 ^ m - 1 : Nat) : Int) := by
  rcases m8 h with rfl | rfl | rfl | rfl | rfl | rfl | rfl | rfl <;> rfl

end Go.Proofs.Ythnaapjefedalaa
