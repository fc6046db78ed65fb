/-
  Texts put together: NumE, HuffH, HuffF, NumF, HuffK, HuffJ.
-/
import Derived.Test.YteopmaaghhendaaM05

/-
  Contracts of num.Var and of the document's Var, Vars.
-/
namespace Go.Proofs.Yteopmaaghhendaa
open Go.RowKit
set_option linter.unusedVariables false

def small (x : UInt64) : Prop := x.toNat < 4611686018427387904
instance (x : UInt64) : Decidable (small x) := inferInstanceAs (Decidable (_ < _))
end Go.Proofs.Yteopmaaghhendaa

/-
  The contract of the document's Codes.
-/
namespace Go.Proofs.Yteopmaaghhendaa
open Go.RowKit
set_option linter.unusedVariables false

set_option maxRecDepth 100000 in
set_option maxHeartbeats 1000000 in
theorem codes_any (w : World) :
    Calls Try.prog 67 #[] w fun e w' => ∃ m, e = .returned (.slice (some ⟨m, 0, none⟩) 257 257) ∧ CodesAt w' m ∧ Below w.heap.size w w' := by
  go_enter Try.func67, Try.ntmps67
  go_wp2_with (first
    | (go_at_call 84; refine (refLengths_any _).mono ?_; rintro e w1 ⟨g, rfl, hg, b1⟩)
    | (with_reducible refine wpList_makeRun (t := 123) (by with_unfolding_all exact makeOZ _) ?_))
  have hrow := oz_row w1
  have hg2 := hg.alloc (.cells OZ 127)
  have b2 := b1.alloc b1.size (.cells OZ 127)
  have hgm : g ≠ w1.heap.size := by have := hg.lt; omega
  have hwm : w.heap.size ≤ w1.heap.size := b1.size
  generalize w1.alloc (.cells OZ 127) = w2 at hrow hg2 b2 ⊢
  generalize w1.heap.size = m at hrow hgm hwm ⊢
  have he := ends_facts
  clear b1 hg
  go_loopw [5, 3, 4] (fun n c h wr => RowRel g m w n c h wr) (fun n _ _ _ => 31 - (intOf n).toNat)
  case atStart => exact ⟨5, rfl, by omega, by omega, by rw [he.1, he.2.2.1]; rfl, by rw [he.1, he.2.2.2]; rfl, by rw [he.1]; exact hrow, hg2, b2⟩
  case round =>
    obtain ⟨n, rfl, hn5, hn31, rfl, rfl, hr, hg3, hb⟩ := hrel
    have HE := Bx.mk he
    have HR := Bx.mk hr
    have HG := Bx.mk hg3
    have HB := Bx.mk hb
    clear hrow hg2 b2 he hr hg3 hb
    by_cases hlt : n < 31
    · go_wp2
      have hpq := pq_all n (by omega)
      go_loopw [6, 3, 4] (fun s c h wr => ColRel g m n w s c h wr) (fun s _ _ _ => 257 - (intOf s).toNat)
      case atStart => exact ⟨0, pq n, rfl, by omega, by simp, rfl, rfl, HR.out, HG.out, HB.out⟩
      case round =>
        obtain ⟨k, q, rfl, hk, hq, rfl, rfl, hr, hg3, hb⟩ := hrel
        have HQ := Bx.mk hq
        have HR3 := Bx.mk hr
        have HG3 := Bx.mk hg3
        have HB3 := Bx.mk hb
        clear hq hr hg3 hb HR HG HB
        by_cases hlk : k < 257
        · have hc := HG3.out.cell hlk
          unfold intF at hc
          by_cases hln : ll k = n
          · rw [hln] at hc
            have hpos : q = pos k := by rw [HQ.out, ← hln, here_facts k hlk]
            have hst := step_facts k hlk
            have haf := after_facts k hlk
            rw [hln] at hst haf
            subst hpos
            obtain ⟨z0, hz0⟩ : ∃ z, wr.cell? ⟨m, k * 2, none⟩ = some z := ⟨_, HR3.out.cell (by omega)⟩
            obtain ⟨z1, hz1⟩ : ∃ z, wr.cell? ⟨m, k * 2 + 1, none⟩ = some z := ⟨_, HR3.out.cell (by omega)⟩
            have hf0 := HR3.out.frozen (k * 2)
            have hf1 := HR3.out.frozen (k * 2 + 1)
            have HR5 := Bx.mk (outF_set HR3.out hlk)
            rw [hln] at HR5
            have hcw : cw k < 4294967296 := by
              have h1 := sign_facts k hlk
              have h2 : (2:Nat) ^ ll k ≤ 2 ^ 30 := Nat.pow_le_pow_right (by omega) h1.2.1
              have h3 : (2:Nat) ^ 30 = 1073741824 := by decide
              omega
            have HAF := Bx.mk haf
            clear HR3 haf
            have HG5 : ∀ v0 v1, ((wr.setCell ⟨m, k * 2, none⟩ v0).setCell ⟨m, k * 2 + 1, none⟩ v1).rowIs g 3 257 intF := fun v0 v1 => (HG3.out.setOther hgm _).setOther hgm _
            have HB5 : ∀ v0 v1, Below w.heap.size w ((wr.setCell ⟨m, k * 2, none⟩ v0).setCell ⟨m, k * 2 + 1, none⟩ v1) := fun v0 v1 => (HB3.out.setCell hwm _).setCell hwm _
            have HG6 := Bx.mk HG5
            have HB6 := Bx.mk HB5
            clear HG5 HB5 HG3 HB3
            by_cases hq0 : pos k = 0
            · have hv := hst.1 hq0
              rw [hv] at HR5 HAF
              rw [hq0]
              have hh : hs 0 = 0 := HE.out.2.2.2
              have hcc : cs 0 = 0 := HE.out.2.2.1
              rw [hh, hcc]
              clear hst hv hh hcc hcw
              go_wp2
              go_roundw
              case rel => exact ⟨k + 1, pos k + 1, by go_num, by omega, by rw [HQ.out, count_snoc k n hlk, if_pos hln]; omega, by rw [HAF.out.1], by rw [HAF.out.2], HR5.out, HG6.out _ _, HB6.out _ _⟩
              case measure => simp [intOf]; omega
            · obtain ⟨h5, hle, hval, hcs⟩ := hst.2 (by omega)
              clear hst
              generalize hhq : hs (pos k) = hq at *
              generalize hcq : cs (pos k) = cq at *
              clear hhq hcq
              generalize hv : cw k = v at *
              have hval2 : ((cq : Int) + 1) * 2 ^ (n - hq) % 4294967296 = (v : Int) := by
                have e : ((cq : Int) + 1) * 2 ^ (n - hq) = (((cq + 1) * 2 ^ (n - hq) : Nat) : Int) := by simp
                rw [e, hval]; omega
              have HV2 := Bx.mk hval2
              clear hval hv hcw hval2
              go_wp2
              rw [HV2.out]
              go_roundw
              case rel => exact ⟨k + 1, pos k + 1, by go_num, by omega, by rw [HQ.out, count_snoc k n hlk, if_pos hln]; omega, by rw [HAF.out.1], by rw [HAF.out.2], HR5.out, HG6.out _ _, HB6.out _ _⟩
              case measure => simp [intOf]; omega
          · have hne : ((ll k : Int) == (n : Int)) = false := by simp; omega
            have hne2 : ((ll k : Int) != (n : Int)) = true := by simp; omega
            have HNE : Bx (¬ ll k = n) := ⟨hln⟩
            generalize ll k = x at hc hne hne2 hln
            go_wp2
            go_roundw
            case rel => exact ⟨k + 1, q, by go_num, by omega, by rw [HQ.out, count_snoc k n hlk, if_neg HNE.out, Nat.add_zero], rfl, rfl, HR3.out, HG3.out, HB3.out⟩
            case measure => simp [intOf]; omega
        · obtain rfl : k = 257 := by omega
          have hq : q = pq (n + 1) := by rw [HQ.out, row_facts n (by omega) hn5]
          subst hq
          go_wp2
          go_roundw
          case rel => exact ⟨n + 1, by go_num, by omega, by omega, rfl, rfl, HR3.out, HG3.out, HB3.out⟩
          case measure => simp [intOf]; omega
    · obtain rfl : n = 31 := by omega
      have hr := HR.out
      rw [HE.out.2.1] at hr
      have HR5 := Bx.mk hr
      clear hr
      go_wp2
      go_ret
      exact ⟨m, rfl, HR5.out, HB.out⟩

end Go.Proofs.Yteopmaaghhendaa

/-
  The contract of huff.Decode.
-/
namespace Go.Proofs.Yteopmaaghhendaa
open Go.RowKit
set_option linter.unusedVariables false

def Ans (R : List UInt8 × Nat) : Ending := .returned (.tuple #[.string (bstr R.1), .int .i64 (R.2 : Int)])

/-- Between two bytes. -/
def DecRel (w : World) (l : List UInt8) (R : List UInt8 × Nat) (o wd n i : Value) (wr : World) : Prop :=
  ∃ (k x m : Nat) (l1 : List UInt8), i = .int .i64 (k : Int) ∧ k ≤ l.length ∧ wd = .int .u32 (x : Int) ∧ n = .int .i64 (m : Int) ∧ Open m x ∧
    dec (allBits (l.drop k)) l1 x m = R ∧ l1.length ≤ 4096 ∧ ApB wr w.heap.size o l1 ∧ Below w.heap.size w wr
/-- Between two bits of byte c. -/
def BitRel (w : World) (c : Nat) (T : List Nat) (R : List UInt8 × Nat) (o wd n i : Value) (wr : World) : Prop :=
  ∃ (j x m : Nat) (l1 : List UInt8), i = .int .i64 ((j : Int) - 1) ∧ j ≤ 8 ∧ wd = .int .u32 (x : Int) ∧ n = .int .i64 (m : Int) ∧ Open m x ∧
    dec (msb j c ++ T) l1 x m = R ∧ l1.length ≤ 4096 ∧ ApB wr w.heap.size o l1 ∧ Below w.heap.size w wr

theorem bit_of (c q : Nat) (hc : c < 256) : bits .and .u8 ((c : Int) / 2 ^ q) 1 = ((c / 2 ^ q % 2 : Nat) : Int) := by
  have h : c / 2 ^ q ≤ c := Nat.div_le_self _ _
  rw [show ((c : Int) / 2 ^ q) = ((c / 2 ^ q : Nat) : Int) from by simp, show (1 : Int) = ((1 : Nat) : Int) from rfl, u8_and_nat _ _ (by omega) (by omega), Nat.and_one_is_mod]
theorem or_bit (x b : Nat) (hx : x < 1073741824) (hb : b < 2) : bits .or .u32 ((x : Int) * 2) (b : Int) = ((2 * x + b : Nat) : Int) := by
  rw [show ((x : Int) * 2) = ((x * 2 ^ 1 : Nat) : Int) from by omega, u32_or_nat _ _ (by omega) (by omega), ← Nat.shiftLeft_eq, ← Nat.shiftLeft_add_eq_or_of_lt (by omega), Nat.shiftLeft_eq]
  omega

theorem m8 {m : Nat} (h : m < 8) : m = 0 ∨ m = 1 ∨ m = 2 ∨ m = 3 ∨ m = 4 ∨ m = 5 ∨ m = 6 ∨ m = 7 := by omega
theorem ones_word (m : Nat) (h : m < 8) : ((2 : Int) ^ m - 1) % 4294967296 = ((2 ^ m - 1 : Nat) : Int) := by
  rcases m8 h with rfl | rfl | rfl | rfl | rfl | rfl | rfl | rfl <;> rfl

set_option maxRecDepth 100000 in
set_option maxHeartbeats 1000000 in
theorem decode_any (bV : Value) (l : List UInt8) (w : World) (hb : Bs w bV l) (hl : l.length ≤ 100000) :
    Calls Try.prog 85 #[bV] w fun e w' => e = Ans (dec (allBits l) [] 0 0) ∧ Below w.heap.size w w' := by
  obtain ⟨i0, hi, hz, hz1, hz2⟩ := info_parts infoU8
  have Hi := Lib.hid hi
  have Hz := Lib.hid hz
  have Hz1 := Lib.hid hz1
  have Hz2 := Lib.hid hz2
  clear hi hz hz1 hz2
  have HBV := Bx.mk hb
  have hlenb := fun ty W => hb.run_len ty W
  obtain ⟨R, hR⟩ : ∃ R, dec (allBits l) [] 0 0 = R := ⟨_, rfl⟩
  rw [hR]
  have HR := Bx.mk hR
  generalize hL : l.length = L at hl hlenb
  have HL := Bx.mk hL
  clear hb hL hR
  obtain ⟨C, hC⟩ : ∃ C : Nat, min ((L : Int) * 8 / 5) 4096 = (C : Int) := ⟨(min ((L : Int) * 8 / 5) 4096).toNat, by omega⟩
  have hC2 : C ≤ 4096 := by omega
  go_enter Try.func85, Try.ntmps85
  go_wp2_with (first
    | (go_at_call 97; refine (newCode_any _).mono ?_; rintro e w1 ⟨g, rfl, hg, b1⟩)
    | (at_make
       refine wpList_make_own _ rfl _ _ _ rfl w1.heap.size 5 i0 (.int .u8 0) 1 Try.underlying23 Hi.out Hz.out Hz1.out .i64 .i64 _ C rfl rfl (by simp) (by rw [Hz2.out]; omega) (by simp only [maxLen]; omega) (Nat.le_refl _) ?_
       intro w3 hown hg3
       have b3 : Below w1.heap.size w1 w3 := (Below.refl _ _).grown hg3 (Nat.le_refl _) (by simp)
       clear hg3))
  have HG := Bx.mk hg
  have HB1 := Bx.mk b1
  have HGL : Bx (g < w1.heap.size) := ⟨hg.lt⟩
  clear hC hC2 hg b1
  have hR0 : dec (allBits (l.drop 0)) [] 0 0 = R := HR.out
  go_loopw [5, 6, 7, 22] (fun o wd n i wr => DecRel w1 l R o wd n i wr) (fun _ _ _ i _ => L - (intOf i).toNat)
  case atStart => exact ⟨0, 0, 0, [], rfl, by omega, rfl, rfl, open_zero, hR0, by simp, .inl hown, b3⟩
  case round =>
    obtain ⟨k, x, m, l1, rfl, hk, rfl, rfl, hop, hR1, hl1, hap1, hb1⟩ := hrel
    clear hown b3 hR0
    have HOP := Bx.mk hop
    have HR1 := Bx.mk hR1
    have HAP := Bx.mk hap1
    have HB := Bx.mk hb1
    have hkL : k ≤ L := by rw [← HL.out]; exact hk
    clear hop hR1 hap1 hb1 hk
    by_cases hlt : k < L
    · have hkl : k < l.length := by rw [HL.out]; exact hlt
      obtain ⟨p, hix, hcp⟩ := HBV.out.at_ k hkl
      have hc := hcp wr (Rd.keep (Rd.keep HBV.out HB1.out) HB.out)
      have hc256 : l[k].toNat < 256 := l[k].toNat_lt
      have HR2 : Bx (dec (msb 8 l[k].toNat ++ allBits (l.drop (k + 1))) l1 x m = R) := ⟨by
        have h := HR1.out
        rw [List.drop_eq_getElem_cons hkl] at h
        exact h⟩
      clear hcp HR1
      generalize l[k].toNat = c at hc hc256 HR2
      go_wp2_with (with_reducible refine wpList_indexAddr (v := .pointer (some p)) (by with_unfolding_all exact hix _) ?_)
      go_loopw [5, 6, 7, 10] (fun o wd n i wr' => BitRel w1 c (allBits (l.drop (k + 1))) R o wd n i wr') (fun _ _ _ i _ => (intOf i + 1).toNat)
      case atStart => exact ⟨8, x, m, l1, rfl, by omega, rfl, rfl, HOP.out, HR2.out, hl1, HAP.out, HB.out⟩
      case round =>
        obtain ⟨j, x, m, l1, rfl, hj, rfl, rfl, hop, hR3, hl1, hap1, hb1⟩ := hrel
        have HOP3 := Bx.mk hop
        have HR3 := Bx.mk hR3
        have HAP3 := Bx.mk hap1
        have HB3 := Bx.mk hb1
        have hsz := hb1.size
        clear hop hR3 hap1 hb1 HAP HB HR2 HOP hix hc
        rcases Nat.eq_zero_or_pos j with h0 | h0
        · subst h0
          go_wp2
          go_roundw
          case rel => exact ⟨k + 1, x, m, l1, by go_num, by omega, rfl, rfl, HOP3.out, HR3.out, hl1, HAP3.out, HB3.out⟩
          case measure => simp [intOf]; omega
        · obtain ⟨q, rfl⟩ : ∃ q, j = q + 1 := ⟨j - 1, by omega⟩
          rw [show (((q + 1 : Nat) : Int) - 1) = (q : Int) from by omega]
          have hbit := bit_of c q hc256
          have HB2 : Bx (c / 2 ^ q % 2 < 2) := ⟨Nat.mod_lt _ (by omega)⟩
          have HR4 : Bx (dec (c / 2 ^ q % 2 :: (msb q c ++ allBits (l.drop (k + 1)))) l1 x m = R) := ⟨HR3.out⟩
          clear HR3
          generalize c / 2 ^ q % 2 = b at hbit HB2 HR4
          have hb2 : b ≤ 1 := by have := HB2.out; omega
          have hw := open_word HOP3.out HB2.out
          have h30 : (2:Nat) ^ (m + 1) ≤ 2 ^ 30 := Nat.pow_le_pow_right (by omega) hw.1
          have hx30 : 2 * x + b < 1073741824 := by have h : (2:Nat) ^ 30 = 1073741824 := by decide
                                                   omega
          have hm30 := hw.1
          have hor := or_bit x b (by omega) HB2.out
          clear hw h30
          go_wp2_with fail
          have hcode : CodeAt wr g := HG.out.keep HB3.out
          cases hs : sgn (m + 1) (2 * x + b) with
          | none =>
            have hcall := sign_none g (m + 1) (2 * x + b) wr hcode (by omega) (by omega) hs
            rw [show ((2 * x + b : Nat) : Int) = 2 * (x : Int) + (b : Int) from by omega, show ((m + 1 : Nat) : Int) = (m : Int) + 1 from by omega] at hcall
            refine hcall.mono ?_
            rintro e w5 ⟨rfl, b5⟩
            have HB5 : Bx (Below w1.heap.size w1 w5) := ⟨HB3.out.trans (b5.mono hsz)⟩
            have HAP5 : Bx (ApB w5 w1.heap.size u5 l1) := ⟨HAP3.out.keep b5⟩
            have HOP5 := Bx.mk (open_next HOP3.out HB2.out hs)
            have HR5 : Bx (dec (msb q c ++ allBits (l.drop (k + 1))) l1 (2 * x + b) (m + 1) = R) := ⟨by rw [← HR4.out, dec_none hs]⟩
            clear hcall hcode hs b5 HR4 HAP3 HB3 HOP3 hor hbit
            go_wp2
            go_roundw
            case rel => exact ⟨q, 2 * x + b, m + 1, l1, by go_num, by omega, by go_num, by go_num, HOP5.out, HR5.out, hl1, HAP5.out, HB5.out⟩
            case measure => simp [intOf]
          | some sg =>
            have hsg := (sgn_some (by omega) hs).1
            have hcall := sign_some g (m + 1) (2 * x + b) sg wr hcode (by omega) (by omega) hs
            rw [show ((2 * x + b : Nat) : Int) = 2 * (x : Int) + (b : Int) from by omega, show ((m + 1 : Nat) : Int) = (m : Int) + 1 from by omega] at hcall
            refine hcall.mono ?_
            rintro e w5 ⟨rfl, b5⟩
            have HB5 : Bx (Below w1.heap.size w1 w5) := ⟨HB3.out.trans (b5.mono hsz)⟩
            have HAP5 : Bx (ApB w5 w1.heap.size u5 l1) := ⟨HAP3.out.keep b5⟩
            have hsz5 := HB5.out.size
            by_cases h256 : sg = 256
            · subst h256
              have HR5 : Bx (R = ([], 22)) := ⟨by rw [← HR4.out, dec_end hs]⟩
              clear hcall hcode hs b5 HR4 HAP3 HB3 HOP3 hor hbit
              go_wp2
              go_ret2
              exact ⟨by rw [HR5.out]; rfl, HB1.out.trans (HB5.out.mono HB1.out.size)⟩
            · have hlen5 := fun ty W => (show Bs w5 u5 l1 from HAP5.out.rd).run_len ty W
              by_cases hfull : l1.length = 4096
              · have HR5 : Bx (R = ([], 23)) := ⟨by rw [← HR4.out, dec_long hs h256 hfull]⟩
                rw [hfull] at hlen5
                have hn256 : ((sg : Int) == 256) = false := by simp; omega
                clear hcall hcode hs b5 HR4 HAP3 HB3 HOP3 hor hbit hfull h256
                go_wp2
                go_ret2
                exact ⟨by rw [HR5.out]; rfl, HB1.out.trans (HB5.out.mono HB1.out.size)⟩
              · have HR5 : Bx (dec (msb q c ++ allBits (l.drop (k + 1))) (l1 ++ [UInt8.ofNat sg]) 0 0 = R) := ⟨by rw [← HR4.out, dec_some hs h256 hfull]⟩
                have hn256 : ((sg : Int) == 256) = false := by simp; omega
                have hsg8 : sg < 256 := by omega
                generalize hln : l1.length = ln at hlen5 hl1 hfull
                have HLN := Bx.mk hln
                have hnf : ((ln : Int) == 4096) = false := by simp; omega
                have hlnl : ln < 4096 := by omega
                clear hcall hcode hs b5 HR4 HAP3 HB3 HOP3 hor hbit hfull h256 hln
                go_wp2_with (first
                  | (at_builtin
                     refine wpList_append_ap _ rfl _ _ 23 rfl w1.heap.size 5 i0 (.int .u8 0) 1 Try.underlying23 Hi.out Hz.out Hz1.out Hz2.out rfl _ _ (l1.map bv) _ rfl rfl (HAP5.out.alloc _) (Rd.lit w5 5 _ 1 rfl (by simp [maxLen])) (by simp [Value.oneCell']) (by have := HLN.out; simp; omega) (by have := HLN.out; simp [maxLen]; omega) (by simp; omega) ?_
                     intro v6 w6 hap6 hb6))
                have HAP6 := Bx.mk (snoc_any hap6 (UInt8.ofNat sg) (byte_nat hsg8))
                have HB6 : Bx (Below w1.heap.size w1 w6) := ⟨HB5.out.trans (((Below.refl _ _).alloc hsz5 _).trans hb6)⟩
                clear hap6 hb6 hlen5
                go_wp2
                go_roundw
                case rel => exact ⟨q, 0, 0, l1 ++ [UInt8.ofNat sg], by go_num, by omega, rfl, rfl, open_zero, HR5.out, by rw [List.length_append, HLN.out]; simp; omega, HAP6.out, HB6.out⟩
                case measure => simp [intOf]
    · have HR2 : Bx (dec [] l1 x m = R) := ⟨by
        have h := HR1.out
        rw [List.drop_of_length_le (by rw [HL.out]; omega)] at h
        exact h⟩
      have hm30 := open_lt HOP.out
      clear HR1 HOP
      by_cases h8 : 8 ≤ m
      · have HR5 : Bx (R = ([], 22)) := ⟨by rw [← HR2.out, dec, if_pos (.inl h8)]⟩
        go_wp2
        go_ret2
        exact ⟨by rw [HR5.out]; rfl, HB1.out.trans (HB.out.mono HB1.out.size)⟩
      · have hstr := conv_str (show Bs wr u5 l1 from HAP.out.rd)
        have hY := ones_word m (by omega)
        by_cases hxy : x = 2 ^ m - 1
        · have HR5 : Bx (R = (l1, 0)) := ⟨by rw [← HR2.out, dec, if_neg (by omega)]⟩
          have ht : ((x : Int) != (2 ^ m - 1) % 4294967296) = false := by rw [hY, ← hxy]; simp
          clear hxy hY
          go_wp2
          go_ret2
          exact ⟨by rw [HR5.out]; rfl, HB1.out.trans (HB.out.mono HB1.out.size)⟩
        · have HR5 : Bx (R = ([], 22)) := ⟨by rw [← HR2.out, dec, if_pos (.inr hxy)]⟩
          have ht : ((x : Int) != (2 ^ m - 1) % 4294967296) = true := by rw [hY]; simp; omega
          clear hxy hY
          go_wp2
          go_ret2
          exact ⟨by rw [HR5.out]; rfl, HB1.out.trans (HB.out.mono HB1.out.size)⟩

end Go.Proofs.Yteopmaaghhendaa

/-
  Contracts of the document's Var, Vars.
-/
namespace Go.Proofs.Yteopmaaghhendaa
open Go.RowKit
set_option linter.unusedVariables false

end Go.Proofs.Yteopmaaghhendaa

/-
  Contracts of the document's sign and Unhuffman.
-/
namespace Go.Proofs.Yteopmaaghhendaa
open Go.RowKit
set_option linter.unusedVariables false

end Go.Proofs.Yteopmaaghhendaa

/-
  Contracts of the document's HuffLen and Huffman.
-/
namespace Go.Proofs.Yteopmaaghhendaa
open Go.RowKit
set_option linter.unusedVariables false

set_option maxRecDepth 100000 in
set_option maxHeartbeats 1000000 in
theorem huffLen_any (s : ByteArray) (w : World) (hs : s.size ≤ 1000000) :
    Calls Try.prog 48 #[.string s] w fun e w' => e = .returned (.int .i64 (((bitLen s.data.toList + 7) / 8 : Nat) : Int)) ∧ Below w.heap.size w w' := by
  go_enter Try.func48, Try.ntmps48
  go_wp2_with (go_at_call 67; refine (codes_any _).mono ?_; rintro e w1 ⟨m, rfl, hm, b1⟩)
  have HC := Bx.mk hm
  clear hm
  go_loop [4, 5] (fun t i => ∃ k : Nat, k ≤ s.size ∧ i = .int .i64 k ∧ t = .int .i64 (bitLen (s.data.toList.take k))) (fun _ i => s.size - (intOf i).toNat)
  case atStart => exact ⟨0, Nat.zero_le _, rfl, rfl⟩
  case round =>
    obtain ⟨k, hk, rfl, rfl⟩ := hrel
    have hb := bitLen_le (s.data.toList.take k)
    have hl : (s.data.toList.take k).length ≤ k := List.length_take_le _ _
    by_cases hlt : k < s.size
    · have hx : s[k].toNat < 257 := by have := s[k].toNat_lt; omega
      have hc := (HC.out.cells s[k].toNat hx).2
      have hll := ll_byte s[k]
      have HS := Lib.hid (bitLen_snoc s k hlt)
      go_wp2
      go_round
      case rel => exact ⟨k + 1, by omega, by go_num, by rw [HS.out]; go_num⟩
      case measure => simp [intOf]; omega
    · go_wp2
      go_ret
      have he : s.data.toList.take k = s.data.toList := List.take_of_length_le (by simp; omega)
      refine ⟨hret_int (by rw [he]), b1⟩

theorem y_lt (x m n v : Nat) (hm : m < 8) (hn : n ≤ 30) (hx : x < 2 ^ m) (hv : v < 2 ^ n) : x * 2 ^ n + v < 18446744073709551616 := by
  have h1 : (x + 1) * 2 ^ n ≤ 2 ^ m * 2 ^ n := Nat.mul_le_mul_right _ hx
  rw [Nat.add_mul, Nat.one_mul, ← Nat.pow_add] at h1
  have h2 : (2:Nat) ^ (m + n) ≤ 2 ^ 37 := Nat.pow_le_pow_right (by omega) (by omega)
  have h3 : (2:Nat) ^ 37 < 18446744073709551616 := by decide
  omega
theorem nw_small (x m n v : Nat) (hm : m < 8) (hn : n ≤ 30) (hx : x < 2 ^ m) : hnw x n v = x * 2 ^ n + v := by
  have h := y_lt x m n 0 hm hn hx (Nat.two_pow_pos n)
  unfold hnw
  rw [Nat.mod_eq_of_lt (by omega)]

theorem mask_low (y t : Nat) (hy : y < 18446744073709551616) (ht : t < 8) : bits .and .u64 (y : Int) (IntKind.u64.wrap (IntKind.u64.wrap (2 ^ t) - 1)) = ((y % 2 ^ t : Nat) : Int) := by
  have h1 : IntKind.u64.wrap (IntKind.u64.wrap (2 ^ t) - 1) = ((2 ^ t - 1 : Nat) : Int) := by
    have : t = 0 ∨ t = 1 ∨ t = 2 ∨ t = 3 ∨ t = 4 ∨ t = 5 ∨ t = 6 ∨ t = 7 := by omega
    rcases this with rfl | rfl | rfl | rfl | rfl | rfl | rfl | rfl <;> rfl
  have h2 : (2:Nat) ^ t ≤ 2 ^ 8 := Nat.pow_le_pow_right (by omega) (by omega)
  have h3 : (2:Nat) ^ 8 = 256 := rfl
  rw [h1, u64_and_nat _ _ hy (by omega), Nat.and_two_pow_sub_one_eq_mod]

end Go.Proofs.Yteopmaaghhendaa
