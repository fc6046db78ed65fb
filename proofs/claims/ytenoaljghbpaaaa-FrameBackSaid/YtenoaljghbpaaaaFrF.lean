/-
  Frames: the program's Write.
-/
import Derived.Test.YtenoaljghbpaaaaFrE
import Derived.Test.YtenoaljghbpaaaaFrB
namespace Go.Proofs.Ytenoaljghbpaaaa
open Go.RowKit
set_option linter.unusedVariables false
set_option linter.unusedSimpArgs false

set_option maxRecDepth 100000 in
set_option maxHeartbeats 8000000 in
theorem pWrite_any (bV v : Value) (b0 : List UInt8) (l : List Frm) (w : World) (hb : Bs w bV b0) (hv : Rows 4 frvl w v l) (hok : ∀ a ∈ l, frOk a ∧ frBs w a) (hbl : b0.length ≤ 100000) (hll : l.length ≤ 20) :
    Calls Try.prog 22 #[bV, v] w (WritesPost w b0 l) := by
  have HV := Bx.mk hv
  have HOK := Bx.mk hok
  have hlen := fun tr W => frs_len hv tr W
  have hlenb := fun tr W => hb.run_len tr W
  obtain ⟨m, hm⟩ : ∃ n, l.length = n := ⟨_, rfl⟩
  rw [hm] at hlen hll
  have HM := Bx.mk (And.intro hm (And.intro hbl hll))
  have HBV := Bx.mk hb
  obtain ⟨i0, hi, hz, hz1, hz2⟩ := info_parts infoU8a
  have Hi := Lib.hid hi
  have Hz := Lib.hid hz
  have Hz1 := Lib.hid hz1
  have Hz2 := Lib.hid hz2
  clear hi hz hz1 hz2
  clear hv hok hm hb hbl hll
  go_enter Try.func22, Try.ntmps22
  go_upto_region 3 with fail
  go_loopg [6, 16] m (fun g s6 s16 wx => ∃ (k z : Nat), k + g = m ∧ s16 = .int .i64 k ∧ s6 = .int .i64 (z : Int) ∧ Bx (z ≤ 100000 + 16393 * k) ∧ Bx (Below w.heap.size w wx) ∧ Bx (frFits (l.take k)))
  case atStart => exact ⟨0, b0.length, by omega, rfl, rfl, ⟨by have := HM.out.2.1; omega⟩, ⟨Below.refl _ _⟩, ⟨fun a ha => by simp at ha⟩⟩
  case round =>
    obtain ⟨k, z, hkg, rfl, rfl, HZ, HK, HF⟩ := hrel
    cases gk with
    | zero =>
      obtain rfl : k = m := by omega
      have hkd : decide ((k : Int) < (k : Int)) = false := by simp
      have hkd' : decide (k < k) = false := by simp
      have HT : Bx (l.take k = l) := ⟨List.take_of_length_le (by have := HM.out.1; omega)⟩
      have HFI : Bx (frFits l) := ⟨by have := HF.out; rw [HT.out] at this; exact this⟩
      have HZZ : Bx (z ≤ 500000) := ⟨by have := HZ.out; have := HM.out.2.2; omega⟩
      clear hkg
      go_upto_region 11 with (first
        | (at_make
           refine wpList_make_own _ rfl _ _ _ rfl w.heap.size 5 i0 (.int .u8 0) 1 Try.underlying22 Hi.out Hz.out Hz1.out .i64 .i64 _ z rfl rfl (by simp) (by rw [Hz2.out]; have := HZZ.out; omega) (by have := HZZ.out; simp only [maxLen]; omega) HK.out.size ?_
           intro w1 hown hg
           have HO1 : Bx (OwB w1 w.heap.size _ []) := ⟨hown⟩
           have HK1 := Bx.mk (HK.out.grown hg HK.out.size (by simp))
           clear hown hg)
        | (at_builtin; obtain ⟨v3, w3, hr3, o3, g3⟩ := run_bytes_own w1 22 w.heap.size _ bV [] b0 HO1.out (HBV.out.keep HK1.out) (by simp) (by have := HM.out.2.1; omega) HK1.out.size; refine Lib.wpList_append_run _ rfl _ _ _ _ rfl _ _ rfl rfl _ _ hr3 ?_; have HO3 := Bx.mk o3; have HK3 := Bx.mk (HK1.out.grown g3 HK1.out.size (fun j hj => HO1.out.ge hj)); clear hr3 o3 g3))
      go_loopg [9, 37] k (fun g2 s9 s37 wx => ∃ j : Nat, j + g2 = k ∧ s37 = .int .i64 j ∧ Bx (OwB wx w.heap.size s9 (b0 ++ frsB (l.take j))) ∧ Bx (Below w.heap.size w wx))
      case atStart => exact ⟨0, by omega, rfl, ⟨by rw [List.take_zero]; unfold frsB; rw [List.flatMap_nil, List.append_nil]; exact HO3.out⟩, HK3⟩
      case round =>
        obtain ⟨j, hjg, rfl, HB, HJ⟩ := hrel
        cases gk with
        | zero =>
          obtain rfl : j = k := by omega
          clear hjg
          go_wp2_with fail
          go_ret2
          exact .inl ⟨HFI.out, _, rfl, by have := HB.out; rw [HT.out] at this; exact this.apB, HJ.out⟩
        | succ g2 =>
          have hjm : j < k := by omega
          have hjl : j < l.length := by have := HM.out.1; omega
          have hjd : decide ((j : Int) < (k : Int)) = true := decide_eq_true (by omega)
          have hjd' : decide (j < k) = true := decide_eq_true hjm
          have hml := HM.out.2.2
          have hwj : wrap64 ((j : Int) + 1) = ((j + 1 : Nat) : Int) := by unfold wrap64; omega
          have HJG := Bx.mk hjg
          obtain ⟨b, o, hix0, hcs⟩ := frs_at HV.out j hjl
          have hix := hix0 .i64
          have hao := HOK.out l[j] (List.getElem_mem hjl)
          have HSN := Bx.mk (frsB_snoc l j hjl)
          have hfa := HFI.out l[j] (List.getElem_mem hjl)
          have HBL : Bx ((b0 ++ frsB (l.take j)).length ≤ 500000) := ⟨by
            have h1 := frsB_len (l.take j) (fun x hx => HFI.out x (List.mem_of_mem_take hx))
            have h2 := HM.out.2.1
            rw [List.length_take] at h1
            rw [List.length_append]
            have : 16393 * min j l.length ≤ 16393 * 20 := Nat.mul_le_mul_left _ (by omega)
            omega⟩
          obtain ⟨c0, c1, c2, c3⟩ := hcs wr (HV.out.keep HJ.out)
          obtain ⟨a, ha⟩ : ∃ a, l[j] = a := ⟨_, rfl⟩
          rw [ha] at hao HSN hfa c0 c1 c2 c3
          obtain ⟨Ar, nr, cr, hraw, -⟩ := Bs.open_ (show Bs w a.raw a.rawb from hao.2)
          have HRW := Bx.mk hraw
          have HFAe : Bx (frA a = #[.int .u8 (a.ty : Int), .int .u8 (a.fl : Int), .int .u32 (a.st : Int), .slice Ar nr cr]) := ⟨by rw [← hraw]; rfl⟩
          have HHD := Bx.mk (fun W (h : Below w.heap.size w W) => headOf_any a W hao.1 (Rd.keep hao.2 h) hfa)
          rw [HFAe.out] at HHD
          obtain ⟨hd, hhd⟩ : ∃ x, bes (a.rawb.length : Int) 3 ++ [UInt8.ofNat a.ty, UInt8.ofNat a.fl] ++ bes ((a.st % 2147483648 : Nat) : Int) 4 = x := ⟨_, rfl⟩
          rw [hhd] at HHD
          have HHL : Bx (hd.length = 9) := ⟨by rw [← hhd]; simp [bes_lenF]⟩
          have HHE : Bx (frB a = hd ++ a.rawb) := ⟨by rw [← hhd]; rfl⟩
          clear hhd
          have HRB : Bx (Bs w (.slice Ar nr cr) a.rawb) := ⟨by rw [← hraw]; exact hao.2⟩
          rw [hraw] at c3
          have HFR := Bx.mk hfa
          have HS4 : Bx (Sb 28 (wr.alloc (.cells #[.int .u8 (a.ty : Int), .int .u8 (a.fl : Int), .int .u32 (a.st : Int), .slice Ar nr cr] 28)) wr.heap.size #[.int .u8 (a.ty : Int), .int .u8 (a.fl : Int), .int .u32 (a.st : Int), .slice Ar nr cr]) := ⟨Sb.new _ wr _⟩
          have HB4 := Bx.mk (HB.out.alloc (.cells #[.int .u8 (a.ty : Int), .int .u8 (a.fl : Int), .int .u32 (a.st : Int), .slice Ar nr cr] 28))
          have HJ4 := Bx.mk (HJ.out.alloc HJ.out.size (.cells #[.int .u8 (a.ty : Int), .int .u8 (a.fl : Int), .int .u32 (a.st : Int), .slice Ar nr cr] 28))
          clear ha hcs hix0 hjl hjg hao hfa hraw hml hjm
          go_wp2_with (first
            | (go_at_call 73; refine (HHD.out _ HJ4.out).mono ?_; rintro e w5 ⟨v5, rfl, h5, b5⟩; have HV5 := Bx.mk h5; have HS5 := Bx.mk (HS4.out.below b5 HS4.out.lt); have HB5 := Bx.mk (HB4.out.keep b5); have HJ5 := Bx.mk (HJ4.out.trans (b5.mono HJ4.out.size)); clear h5 b5)
            | (at_builtin; obtain ⟨v7, w7, hr7, o7, g7⟩ := run_bytes_own w6 22 w.heap.size v6 (.slice Ar nr cr) (b0 ++ frsB (l.take j) ++ hd) a.rawb HB6.out (HRB.out.keep HJ6.out) (by rw [List.length_append, HHL.out]; have := HBL.out; omega) (by have := HFR.out; omega) HJ6.out.size; refine Lib.wpList_append_run _ rfl _ _ _ _ rfl _ _ rfl rfl _ _ hr7 ?_; have HB7 := Bx.mk o7; have HJ7 := Bx.mk (HJ6.out.grown g7 HJ6.out.size (fun i hi => HB6.out.ge hi)); clear hr7 o7 g7)
            | (at_builtin; obtain ⟨v6, w6, hr6, o6, g6⟩ := run_bytes_own w5 22 w.heap.size _ v5 (b0 ++ frsB (l.take j)) hd HB5.out HV5.out (by have := HBL.out; omega) (by rw [HHL.out]; decide) HJ5.out.size; refine Lib.wpList_append_run _ rfl _ _ _ _ rfl _ _ rfl rfl _ _ hr6 ?_; have HB6 := Bx.mk o6; have HS6 := Bx.mk (HS5.out.grown g6 (HB5.out.neSb HS5.out (by decide))); have HJ6 := Bx.mk (HJ5.out.grown g6 HJ5.out.size (fun i hi => HB5.out.ge hi)); have k3 : w6.cell? ⟨wr.heap.size, 3, none⟩ = some (.slice Ar nr cr) := HS6.out.cell 3; clear hr6 o6 g6))
          go_roundg g2
          case measure => omega
          case rel =>
            refine ⟨j + 1, by have := HJG.out; omega, by first | rfl | rw [hwj], ⟨?_⟩, HJ7⟩
            have h := HB7.out
            rw [HSN.out, HHE.out]
            simpa only [List.append_assoc] using h
    | succ g =>
      have hkm : k < m := by omega
      have hkl : k < l.length := by have := HM.out.1; omega
      have hkd : decide ((k : Int) < (m : Int)) = true := decide_eq_true (by omega)
      have hkd' : decide (k < m) = true := decide_eq_true hkm
      have hml := HM.out.2.2
      have hwk : wrap64 ((k : Int) + 1) = ((k + 1 : Nat) : Int) := by unfold wrap64; omega
      have hwk2 : IntKind.i64.wrap ((k : Int) + 1) = ((k + 1 : Nat) : Int) := by rw [IntKind.wrap_i64]; omega
      have HKG := Bx.mk hkg
      obtain ⟨b, o, hix0, hcs⟩ := frs_at HV.out k hkl
      have hix := hix0 .i64
      have hao := HOK.out l[k] (List.getElem_mem hkl)
      have HTK : Bx (l.take (k + 1) = l.take k ++ [l[k]]) := ⟨List.take_succ_eq_append_getElem hkl⟩
      have HIN : Bx (l[k] ∈ l) := ⟨List.getElem_mem hkl⟩
      obtain ⟨c0, c1, c2, c3⟩ := hcs wr (HV.out.keep HK.out)
      obtain ⟨a, ha⟩ : ∃ a, l[k] = a := ⟨_, rfl⟩
      rw [ha] at hao HTK HIN c0 c1 c2 c3
      have hlena : ∀ (tr : TypeId) (W : World), (Builtin.len_ #[22] tr #[a.raw]).run Try.prog W = .ok (.int .i64 (a.rawb.length : Int)) W := fun tr W => Bs.run_len hao.2 tr W
      obtain ⟨n, hn⟩ : ∃ n, a.rawb.length = n := ⟨_, rfl⟩
      rw [hn] at hlena
      obtain ⟨Ar, nr, cr, hraw, -⟩ := Bs.open_ (show Bs w a.raw a.rawb from hao.2)
      rw [hraw] at hlena c3
      have HN := Bx.mk hn
      have HKm := Bx.mk hkm
      by_cases hfit : n ≤ 16384
      · have hdf : decide ((16384 : Int) < (n : Int)) = false := decide_eq_false (by omega)
        have hs1 : wrap64 (9 + (n : Int)) = ((9 + n : Nat) : Int) := by unfold wrap64; omega
        have hs2 : wrap64 ((z : Int) + ((9 + n : Nat) : Int)) = ((z + (9 + n) : Nat) : Int) := by have := HZ.out; unfold wrap64; omega
        have hs3 : wrap64 ((z : Int) + (9 + (n : Int))) = ((z + (9 + n) : Nat) : Int) := by have := HZ.out; unfold wrap64; omega
        have HFT := Bx.mk hfit
        clear ha hcs hix0 hkm hkl hkg hao hn hfit hml hraw
        go_wp2_with fail
        go_roundg g
        case measure => omega
        case rel =>
          refine ⟨k + 1, z + (9 + n), by have := HKG.out; omega, ?_, ?_, ⟨by have := HZ.out; have := HFT.out; omega⟩, ⟨HK.out.alloc HK.out.size _⟩, ⟨?_⟩⟩
          · first | rfl | rw [hwk] | rw [hwk2]
          · first | rfl | rw [hs2] | rw [hs3]
          · rw [HTK.out]
            intro x hx
            rcases List.mem_append.1 hx with h | h
            · exact HF.out x h
            · rw [List.mem_singleton] at h; rw [h, HN.out]; exact HFT.out
      · have hdf : decide ((16384 : Int) < (n : Int)) = true := decide_eq_true (by omega)
        have HFT := Bx.mk hfit
        clear ha hcs hix0 hkm hkl hkg hao hn hfit hml hraw
        go_wp2_with fail
        go_ret2
        exact .inr ⟨fun h => HFT.out (by rw [← HN.out]; exact h a HIN.out), rfl, HK.out.alloc HK.out.size _⟩
end Go.Proofs.Ytenoaljghbpaaaa
