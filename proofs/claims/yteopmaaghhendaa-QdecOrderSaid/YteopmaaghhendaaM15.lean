/-
  Texts put together: OwR.
-/
import Derived.Test.YteopmaaghhendaaM09
import Derived.Test.YteopmaaghhendaaM06

/-
  Contract of the document's Huffman, over a row of bytes of its own.
-/
namespace Go.Proofs.Yteopmaaghhendaa
open Go.RowKit
set_option linter.unusedVariables false

def RefEncN (w : World) (B m0 : Nat) (s : ByteArray) (G : List UInt8) (o wd n i : Value) (wr : World) : Prop :=
  ∃ (k x m : Nat) (l1 : List UInt8), i = .int .i64 (k : Int) ∧ k ≤ s.size ∧ wd = .int .u64 (x : Int) ∧ n = .int .i64 (m : Int) ∧ m < 8 ∧ x < 2 ^ m ∧
    l1 ++ enc (s.data.toList.drop k) x m = G ∧ OwB wr B o l1 ∧ Below B w wr ∧ wr.heap[m0]? = w.heap[m0]? ∧ NonB w wr
def EmitRelN (w : World) (B m0 : Nat) (G T : List UInt8) (y r : Nat) (o n : Value) (wr : World) : Prop :=
  ∃ (t : Nat) (l1 : List UInt8), n = .int .i64 (t : Int) ∧ t ≤ 37 ∧ t % 8 = r ∧ l1 ++ (emit (t / 8) y t ++ T) = G ∧ OwB wr B o l1 ∧ Below B w wr ∧ wr.heap[m0]? = w.heap[m0]? ∧ NonB w wr

set_option maxRecDepth 100000 in
set_option maxHeartbeats 1000000 in
theorem huffman_non (B : Nat) (bV : Value) (l : List UInt8) (s : ByteArray) (w : World) (hb : OwB w B bV l) (hBs : B ≤ w.heap.size) (hl : l.length ≤ 100000) (hs : s.size ≤ 100000) :
    Calls Try.prog 49 #[bV, .string s] w fun e w' => ∃ v', e = .returned v' ∧ OwB w' B v' (l ++ enc s.data.toList 0 0) ∧ Below B w w' ∧ NonB w w' := by
  obtain ⟨i0, hi, hz, hz1, hz2⟩ := info_parts infoU8
  have Hi := Lib.hid hi
  have Hz := Lib.hid hz
  have Hz1 := Lib.hid hz1
  have Hz2 := Lib.hid hz2
  clear hi hz hz1 hz2
  have HBV := Bx.mk hb
  have hbl := bitLen_le s.data.toList
  have hsl : s.data.toList.length = s.size := by simp
  obtain ⟨G, hGd⟩ : ∃ G, l ++ enc s.data.toList 0 0 = G := ⟨_, rfl⟩
  rw [hGd]
  have hGL : G.length ≤ 500000 := by rw [← hGd, List.length_append, enc_length _ _ _ (by omega)]; omega
  have HGD := Bx.mk hGd
  have HGL := Bx.mk hGL
  have HBS := Bx.mk hBs
  clear hb hBs hbl hsl hGd hGL
  go_enter Try.func49, Try.ntmps49
  go_wp2_with (go_at_call 67; refine (codes_any _).mono ?_; rintro e w1 ⟨g, rfl, hm, b1⟩)
  have HC := Bx.mk hm
  have HB1 := Bx.mk (b1.mono HBS.out)
  have HN1 := Bx.mk (NonB.of_below b1)
  have HS1 : Bx (B ≤ w1.heap.size) := ⟨Nat.le_trans HBS.out b1.size⟩
  have HBV := Bx.mk (HBV.out.keep b1)
  have HGW : Bx (g < w1.heap.size) := ⟨World.rowIs.lt hm⟩
  clear hm b1
  go_loopw [0, 6, 7, 8] (fun o wd n i wr => RefEncN w1 B g s G o wd n i wr) (fun _ _ _ i _ => s.size - (intOf i).toNat)
  case atStart => exact ⟨0, 0, 0, l, rfl, by omega, rfl, rfl, by omega, by omega, HGD.out, HBV.out, Below.refl _ _, rfl, NonB.refl _⟩
  case round =>
    obtain ⟨k, x, m, l1, rfl, hk, rfl, rfl, hm, hx, hG1, hap1, hb1, hgb, hnb⟩ := hrel
    have HNB := Bx.mk hnb
    have HX := Bx.mk hx
    have HM := Bx.mk hm
    have HG1 := Bx.mk hG1
    have HAP := Bx.mk hap1
    have HB := Bx.mk hb1
    have hsz : B ≤ wr.heap.size := Nat.le_trans HS1.out hb1.size
    have hcode : CodesAt wr g := World.rowIs.of_block HC.out hgb
    have HGB := Bx.mk hgb
    have HGZ : Bx (g < wr.heap.size) := ⟨Nat.lt_of_lt_of_le HGW.out hb1.size⟩
    clear hx hG1 hap1 hb1 hgb hnb
    by_cases hlt : k < s.size
    · have hck : s[k].toNat < 256 := s[k].toNat_lt
      have hll := ll_byte s[k]
      obtain ⟨hc1, hc2⟩ := hcode.cells s[k].toNat (by omega)
      clear hcode
      have HLB := Bx.mk hll
      obtain ⟨-, hll2, -⟩ := hll
      generalize hcl : ll s[k].toNat = n at hc2 hll2 HLB
      generalize hcc : cw s[k].toNat = v at hc1 HLB
      have HE : Bx (ll s[k].toNat = n ∧ cw s[k].toNat = v) := ⟨hcl, hcc⟩
      clear hcl hcc
      go_wp2
      go_region
      rw [word_or x n v hll2 HLB.out.2.2, nw_small x m n v HM.out hll2 HX.out]
      have HY := Bx.mk (y_lt x m n v HM.out hll2 HX.out HLB.out.2.2)
      have HG2 : Bx (l1 ++ (emit ((m + n) / 8) (x * 2 ^ n + v) (m + n) ++ enc (s.data.toList.drop (k + 1)) ((x * 2 ^ n + v) % 2 ^ ((m + n) % 8)) ((m + n) % 8)) = G) := ⟨by
        have h := HG1.out
        rw [List.drop_eq_getElem_cons (by simpa using hlt)] at h
        have e : enc (s[k] :: s.data.toList.drop (k + 1)) x m = _ := enc.eq_2 ..
        rw [HE.out.1, HE.out.2] at e
        exact (congrArg (l1 ++ ·) e).symm.trans h⟩
      have HAP2 : Bx (OwB (wr.alloc (Obj.cells #[Value.int IntKind.u32 v, Value.int IntKind.i64 n] 127)).drew B u0 l1) := ⟨(HAP.out.alloc _).drew⟩
      have HB2 : Bx (Below B w1 (wr.alloc (Obj.cells #[Value.int IntKind.u32 v, Value.int IntKind.i64 n] 127)).drew) := ⟨(HB.out.alloc hsz _).drew⟩
      have HN5 : Bx (NonB w1 (wr.alloc (Obj.cells #[Value.int IntKind.u32 v, Value.int IntKind.i64 n] 127)).drew) := ⟨HNB.out.trans ((NonB.alloc wr _).trans (NonB.drew _))⟩
      have HG5 : Bx ((wr.alloc (Obj.cells #[Value.int IntKind.u32 v, Value.int IntKind.i64 n] 127)).drew.heap[g]? = w1.heap[g]?) := ⟨(((Below.refl wr.heap.size wr).alloc (Nat.le_refl _) (Obj.cells #[Value.int IntKind.u32 v, Value.int IntKind.i64 n] 127)).drew.block g HGZ.out).trans HGB.out⟩
      have hmn : m + n ≤ 37 := by omega
      clear hc1 hc2 HG1 HAP HB HX HLB HE hck hll2 hsz
      generalize (wr.alloc (Obj.cells #[Value.int IntKind.u32 v, Value.int IntKind.i64 n] 127)).drew = w5 at HAP2 HB2 HG5 HN5 ⊢
      generalize x * 2 ^ n + v = y at HY HG2 ⊢
      go_wp2
      go_loopw [0, 7] (fun o n' wr' => EmitRelN w1 B g G (enc (s.data.toList.drop (k + 1)) (y % 2 ^ ((m + n) % 8)) ((m + n) % 8)) y ((m + n) % 8) o n' wr') (fun _ n' _ => (intOf n').toNat)
      case atStart => exact ⟨m + n, l1, by go_num, hmn, rfl, HG2.out, HAP2.out, HB2.out, HG5.out, HN5.out⟩
      case round =>
        obtain ⟨t, l2, rfl, ht, ht8, hG2, hap2, hb2, hgb2, hnb2⟩ := hrel
        have HNB2 := Bx.mk hnb2
        clear hnb2
        have HGB2 := Bx.mk hgb2
        clear hgb2
        have HT8 := Bx.mk ht8
        have HG3 := Bx.mk hG2
        have HAP3 := Bx.mk hap2
        have HB3 := Bx.mk hb2
        clear ht8 hG2 hap2 hb2 HG2 HAP2 HB2
        have hlen : l2.length ≤ 500000 := by
          have h := congrArg List.length HG3.out
          have h2 := HGL.out
          rw [← h, List.length_append] at h2
          omega
        have hsz : B ≤ wr.heap.size := Nat.le_trans HS1.out HB3.out.size
        by_cases h8 : 8 ≤ t
        · go_wp2_with (first
            | (at_builtin
               refine wpList_append_og _ rfl _ _ 23 rfl B 5 i0 (.int .u8 0) 1 Try.underlying23 Hi.out Hz.out Hz1.out Hz2.out rfl _ _ (l2.map bv) _ rfl rfl (HAP3.out.alloc _) (Rd.lit wr 5 _ 1 rfl (by simp [maxLen])) (by simp [Value.oneCell']) (by simp; omega) (by simp [maxLen]; omega) (by simp; omega) ?_
               intro v6 w6 hap6 hb6 hgr6))
          have HAP6 := Bx.mk (OwB.snoc hap6 (UInt8.ofNat (y / 2 ^ (t - 8) % 256)) (by rw [← byte_nat (by omega)]; simp))
          have HB6 : Bx (Below B w1 w6) := ⟨HB3.out.trans (((Below.refl _ _).alloc hsz _).trans hb6)⟩
          have HG6 : Bx (w6.heap[g]? = w1.heap[g]?) := ⟨by
            have hlt : g < wr.heap.size := Nat.lt_of_lt_of_le HGW.out HB3.out.size
            rw [hgr6.block g (by simp; omega) (fun e => HAP3.out.ne (World.rowIs.of_block HC.out HGB2.out) (by decide) e.symm), ((Below.refl wr.heap.size wr).alloc (Nat.le_refl _) _).block g hlt]
            exact HGB2.out⟩
          have HN6 : Bx (NonB w1 w6) := ⟨HNB2.out.trans ((NonB.alloc wr _).trans (OwB.nonB (HAP3.out.alloc _) hgr6))⟩
          clear hap6 hb6 hgr6
          go_wp2
          go_roundw
          case rel =>
            refine ⟨t - 8, l2 ++ [UInt8.ofNat (y / 2 ^ (t - 8) % 256)], by go_num, by omega, by have := HT8.out; omega, ?_, HAP6.out, HB6.out, HG6.out, HN6.out⟩
            have h := HG3.out
            rw [emit_next y t h8] at h
            rw [← h]
            simp
          case measure => simp [intOf]; omega
        · have HG4 : Bx (l2 ++ enc (s.data.toList.drop (k + 1)) (y % 2 ^ t) t = G) := ⟨by
            have h := HG3.out
            rw [emit_done y t (by omega), List.nil_append] at h
            have e := HT8.out
            rw [Nat.mod_eq_of_lt (by omega)] at e
            rw [e]; exact h⟩
          clear HG3 HT8
          have HW := Bx.mk (mask_low y t HY.out (by omega))
          have HL := Bx.mk (Nat.mod_lt y (Nat.two_pow_pos t))
          go_wp2
          go_roundw
          case rel => exact ⟨k + 1, y % 2 ^ t, t, l2, by go_num, by omega, by rw [HW.out], rfl, by omega, HL.out, HG4.out, HAP3.out, HB3.out, HGB2.out, HNB2.out⟩
          case measure => simp [intOf]; omega
    · clear hcode
      obtain rfl : k = s.size := by omega
      have HG4 : Bx (l1 ++ last (x % 2 ^ m) m = G) := ⟨by
        have h := HG1.out
        rw [List.drop_of_length_le (by simp)] at h
        rw [Nat.mod_eq_of_lt HX.out]
        exact h⟩
      have hlen : l1.length ≤ 500000 := by
        have h := congrArg List.length HG4.out
        have h2 := HGL.out
        rw [← h, List.length_append] at h2
        omega
      clear HG1
      by_cases h0 : 0 < m
      · have hw8 : IntKind.i64.wrap (8 - (m : Int)) = 8 - (m : Int) := by rw [IntKind.wrap_i64]; omega
        have hw0 : (0 : Int) ≤ 8 - (m : Int) := by omega
        have hw9 : (8 - (m : Int)).toNat = 8 - m := by omega
        go_wp2
        go_region_law (refine step_append_og rfl (.tmp 53) (.tmp 64) 23 rfl B 5 i0 (.int .u8 0) 1 Try.underlying23 Hi.out Hz.out Hz1.out Hz2.out rfl _ _ (l1.map bv) _ rfl rfl (HAP.out.drew.alloc _) (Rd.lit wr.drew 5 _ 1 rfl (by simp [maxLen])) (by simp [Value.oneCell']) (by simp; omega) (by simp [maxLen]; omega) (by simp; omega) ?_; intro v2 w2 hap2 hb2 hg2)
        have HAP2 := Bx.mk (OwB.snoc hap2 (UInt8.ofNat (x % 2 ^ m * 2 ^ (8 - m) + (2 ^ (8 - m) - 1))) (by rw [last_byte x m h0 hm]; exact byte_nat (last_lt x m h0 hm)))
        have HB2 : Bx (Below B w1 w2) := ⟨HB.out.trans (((Below.refl _ _).alloc hsz _).drew.trans hb2)⟩
        have HN2 : Bx (NonB w1 w2) := ⟨HNB.out.trans (((NonB.drew wr).trans (NonB.alloc _ _)).trans (OwB.nonB (HAP.out.drew.alloc _) hg2))⟩
        clear hap2 hb2 hg2
        go_wp2
        go_ret
        refine ⟨_, rfl, ?_, HB1.out.trans HB2.out, HN1.out.trans HN2.out⟩
        have h := HG4.out
        rw [last, if_neg (by omega)] at h
        rw [← h]
        exact HAP2.out
      · obtain rfl : m = 0 := by omega
        go_wp2
        go_ret
        refine ⟨_, rfl, ?_, HB1.out.trans HB.out, HN1.out.trans HNB.out⟩
        have h := HG4.out
        simp only [last, if_true, List.append_nil] at h
        rw [← h]
        exact HAP.out

end Go.Proofs.Yteopmaaghhendaa
