/-
  Packets: the program's good, shortHead, longHead (written by mkqka.py).
-/
import Derived.Test.YtcakppdabolfiaaPwB
namespace Go.Proofs.Ytcakppdabolfiaa
open Go.RowKit
set_option linter.unusedVariables false
set_option linter.unusedSimpArgs false

theorem Ap.litP (w : World) (g : Nat) (hg : w.heap.size = g) (B : Nat) (hB : B ≤ g) (e : TypeId) (cs : Array Value) (n : Nat) (hn : cs.size = n) (hm : n ≤ maxLen) : Ap (w.alloc (.cells cs e)) B e (.slice (some ⟨g, 0, none⟩) n n) cs.toList := by
  subst hg; exact (Ap.lit w e cs n hn hm).mono hB
/-- Whether a head can be so. -/
def goodB (a : Hdr) : Bool := decide (1 ≤ a.pl ∧ a.pl ≤ 4 ∧ a.pn < 256 ^ a.pl.toNat ∧ (if a.long = true then 0 ≤ a.ty ∧ a.ty ≤ 3 ∧ a.dstb.length ≤ 20 ∧ a.srcb.length ≤ 20 else a.dstb.length = 8))
set_option maxRecDepth 100000 in
set_option maxHeartbeats 4000000 in
theorem qGood_any (a : Hdr) (w : World) (ho : hdOk a) (hd : Bs w a.dst a.dstb) (hs : Bs w a.src a.srcb) :
    Calls Try.prog 59 #[.agg (hdA a)] w fun e w' => e = .returned (.bool (goodB a)) ∧ Below w.heap.size w w' := by
  have SQ : Bx (Sb 38 (w.alloc (.cells (hdA a) 38)) w.heap.size (hdA a)) := ⟨Sb.new _ w _⟩
  obtain ⟨p0, p1, p2, p3, p4, p5, p6⟩ := SQ.out.hdc
  have hld := fun tr W => (show Bs w a.dst a.dstb from hd).run_len tr W
  have hls := fun tr W => (show Bs w a.src a.srcb from hs).run_len tr W
  obtain ⟨d, hdl⟩ : ∃ n, a.dstb.length = n := ⟨_, rfl⟩
  obtain ⟨s, hsl⟩ : ∃ n, a.srcb.length = n := ⟨_, rfl⟩
  rw [hdl] at hld
  rw [hsl] at hls
  obtain ⟨A, hA⟩ : ∃ A, hdA a = A := ⟨_, rfl⟩
  obtain ⟨G, hG⟩ : ∃ G, goodB a = G := ⟨_, rfl⟩
  rw [hG]
  unfold goodB at hG
  rw [hdl, hsl] at hG
  rw [hA] at p0 p1 p2 p3 p4 p5 p6 ⊢
  unfold hdOk at ho
  clear SQ hA hdl hsl hd hs
  by_cases h1 : a.pl < 1
  · have f1 : decide (a.pl < 1) = true := decide_eq_true h1
    have hGv : G = false := by rw [← hG]; exact decide_eq_false (by omega)
    subst hGv
    clear hG ho h1
    go_enter Try.func59, Try.ntmps59
    go_wp2_with fail
    go_ret
    exact ⟨rfl, (Below.refl _ _).alloc (Nat.le_refl _) _⟩
  have f1 : decide (a.pl < 1) = false := decide_eq_false h1
  by_cases h2 : 4 < a.pl
  · have f2 : decide (4 < a.pl) = true := decide_eq_true h2
    have hGv : G = false := by rw [← hG]; exact decide_eq_false (by omega)
    subst hGv
    clear hG ho h1 h2
    go_enter Try.func59, Try.ntmps59
    go_wp2_with fail
    go_ret
    exact ⟨rfl, (Below.refl _ _).alloc (Nat.le_refl _) _⟩
  have f2 : decide (4 < a.pl) = false := decide_eq_false h2
  obtain ⟨k, hk⟩ := Int.eq_ofNat_of_zero_le (show 0 ≤ a.pl by omega)
  have hw8 : wrap64 (8 * (k : Int)) = 8 * (k : Int) := by unfold wrap64; omega
  have e3 := shift_pk a.pn k (by omega)
  obtain ⟨q, hq⟩ : ∃ q, a.pn / 256 ^ k = q := ⟨_, rfl⟩
  rw [hq] at e3
  rw [hk, Int.toNat_natCast] at hG
  rw [hk] at p6 f1 f2
  have hpos : 0 < 256 ^ k := Nat.pow_pos (by omega)
  by_cases h3 : q = 0
  · have hq2 : a.pn < 256 ^ k := by
      rcases Nat.div_eq_zero_iff.1 (hq.trans h3) with h | h
      · omega
      · exact h
    subst h3
    rw [show ((0 : Nat) : Int) = 0 from rfl] at e3
    cases hlo : a.long
    · rw [hlo] at p0 hG
      simp only [Bool.false_eq_true, if_false] at hG
      by_cases h8 : d = 8
      · have f8 : ((d : Int) == 8) = true := by rw [beq_iff_eq]; omega
        have f8e : (d : Int) = 8 := by omega
        have hGv : G = true := by rw [← hG]; exact decide_eq_true (⟨by omega, by omega, hq2, h8⟩)
        subst hGv
        clear hG ho h1 h2 hq hk hpos hlo h8 hq2
        go_enter Try.func59, Try.ntmps59
        go_wp2_with fail
        go_ret
        exact ⟨rfl, (Below.refl _ _).alloc (Nat.le_refl _) _⟩
      · have f8 : ((d : Int) == 8) = false := by rw [beq_eq_false_iff_ne]; omega
        have f8e : ¬ (d : Int) = 8 := by omega
        have hGv : G = false := by rw [← hG]; exact decide_eq_false (fun h => h8 h.2.2.2)
        subst hGv
        clear hG ho h1 h2 hq hk hpos hlo h8 hq2
        go_enter Try.func59, Try.ntmps59
        go_wp2_with fail
        go_ret
        exact ⟨rfl, (Below.refl _ _).alloc (Nat.le_refl _) _⟩
    · rw [hlo] at p0 hG
      simp only [if_true] at hG
      by_cases h4 : 0 ≤ a.ty
      · have g1 : decide (0 ≤ a.ty) = true := decide_eq_true h4
        by_cases h5 : a.ty < 4
        · have g2 : decide (a.ty < 4) = true := decide_eq_true h5
          by_cases h6 : d ≤ 20
          · have g3 : decide ((d : Int) ≤ 20) = true := decide_eq_true (by omega)
            have g3n : decide (d ≤ 20) = true := decide_eq_true h6
            by_cases h7 : s ≤ 20
            · have g4 : decide ((s : Int) ≤ 20) = true := decide_eq_true (by omega)
              have g4n : decide (s ≤ 20) = true := decide_eq_true h7
              have hGv : G = true := by rw [← hG]; exact decide_eq_true (⟨by omega, by omega, hq2, h4, by omega, h6, h7⟩)
              subst hGv
              clear hG ho h1 h2 hq hk hpos hlo hq2 h4 h5 h6 h7
              go_enter Try.func59, Try.ntmps59
              go_wp2_with fail
              go_ret
              exact ⟨rfl, (Below.refl _ _).alloc (Nat.le_refl _) _⟩
            · have g4 : decide ((s : Int) ≤ 20) = false := decide_eq_false (by omega)
              have g4n : decide (s ≤ 20) = false := decide_eq_false h7
              have hGv : G = false := by rw [← hG]; exact decide_eq_false (fun h => h7 h.2.2.2.2.2.2)
              subst hGv
              clear hG ho h1 h2 hq hk hpos hlo hq2 h4 h5 h6 h7
              go_enter Try.func59, Try.ntmps59
              go_wp2_with fail
              go_ret
              exact ⟨rfl, (Below.refl _ _).alloc (Nat.le_refl _) _⟩
          · have g3 : decide ((d : Int) ≤ 20) = false := decide_eq_false (by omega)
            have g3n : decide (d ≤ 20) = false := decide_eq_false h6
            have hGv : G = false := by rw [← hG]; exact decide_eq_false (fun h => h6 h.2.2.2.2.2.1)
            subst hGv
            clear hG ho h1 h2 hq hk hpos hlo hq2 h4 h5 h6
            go_enter Try.func59, Try.ntmps59
            go_wp2_with fail
            go_ret
            exact ⟨rfl, (Below.refl _ _).alloc (Nat.le_refl _) _⟩
        · have g2 : decide (a.ty < 4) = false := decide_eq_false h5
          have hGv : G = false := by rw [← hG]; exact decide_eq_false (fun h => h5 (by have := h.2.2.2.2.1; omega))
          subst hGv
          clear hG ho h1 h2 hq hk hpos hlo hq2 h4 h5
          go_enter Try.func59, Try.ntmps59
          go_wp2_with fail
          go_ret
          exact ⟨rfl, (Below.refl _ _).alloc (Nat.le_refl _) _⟩
      · have g1 : decide (0 ≤ a.ty) = false := decide_eq_false h4
        have hGv : G = false := by rw [← hG]; exact decide_eq_false (fun h => h4 h.2.2.2.1)
        subst hGv
        clear hG ho h1 h2 hq hk hpos hlo hq2 h4
        go_enter Try.func59, Try.ntmps59
        go_wp2_with fail
        go_ret
        exact ⟨rfl, (Below.refl _ _).alloc (Nat.le_refl _) _⟩
  · have f3 : ((q : Int) == 0) = false := by rw [beq_eq_false_iff_ne]; omega
    have f4 : ¬ (q : Int) = 0 := by omega
    have hq2 : ¬ a.pn < 256 ^ k := fun h => h3 (by rw [← hq]; exact Nat.div_eq_of_lt h)
    have hGv : G = false := by rw [← hG]; exact decide_eq_false (fun h => hq2 h.2.2.1)
    subst hGv
    clear hG ho h1 h2 hq hk hpos h3 hq2
    go_enter Try.func59, Try.ntmps59
    go_wp2_with fail
    go_ret
    exact ⟨rfl, (Below.refl _ _).alloc (Nat.le_refl _) _⟩
set_option maxRecDepth 100000 in
set_option maxHeartbeats 4000000 in
theorem qShort_any (a : Hdr) (k : Nat) (w : World) (hk : a.pl = (k : Int)) (hk1 : 1 ≤ k) (hk4 : k ≤ 4) (hd : Bs w a.dst a.dstb) (hs : Bs w a.src a.srcb) (hdL : a.dstb.length ≤ 20) :
    Calls Try.prog 60 #[.agg (hdA a)] w fun e w' => ∃ v', e = .returned v' ∧ ApB w' w.heap.size v' (UInt8.ofNat (64 + (k - 1)) :: a.dstb) ∧ Below w.heap.size w w' := by
  obtain ⟨i0, hi, hz, hz1, hz2⟩ := info_parts infoU8pw
  have Hi := Lib.hid hi
  have Hz := Lib.hid hz
  have Hz1 := Lib.hid hz1
  have Hz2 := Lib.hid hz2
  clear hi hz hz1 hz2
  have SQ : Bx (Sb 38 (w.alloc (.cells (hdA a) 38)) w.heap.size (hdA a)) := ⟨Sb.new _ w _⟩
  obtain ⟨p0, p1, p2, p3, p4, p5, p6⟩ := SQ.out.hdc
  have hld := fun tr W => (show Bs w a.dst a.dstb from hd).run_len tr W
  have hls := fun tr W => (show Bs w a.src a.srcb from hs).run_len tr W
  obtain ⟨d, hdl⟩ : ∃ n, a.dstb.length = n := ⟨_, rfl⟩
  obtain ⟨s, hsl⟩ : ∃ n, a.srcb.length = n := ⟨_, rfl⟩
  rw [hdl] at hld
  rw [hsl] at hls
  obtain ⟨A, hA⟩ : ∃ A, hdA a = A := ⟨_, rfl⟩
  have r3 : ∀ o, ((w.alloc (.cells (hdA a) 38)).alloc o).cell? ⟨w.heap.size, 3, none⟩ = some a.dst := fun o => (SQ.out.alloc o).hdc.c3
  rw [hA] at p0 p1 p2 p3 p4 p5 p6 r3 ⊢
  rw [hk] at p6
  obtain ⟨j, hj⟩ : ∃ j, k - 1 = j := ⟨_, rfl⟩
  have j0 : (k : Int) - 1 = (j : Int) := by omega
  have hj3 : j < 4 := by omega
  rw [hj]
  obtain ⟨c, hc⟩ : ∃ c, 64 + j = c := ⟨_, rfl⟩
  have hc1 : c < 256 := by omega
  rw [hc]
  have HDB0 := Bx.mk hd
  have HDL : Bx (a.dstb.length ≤ 20) := ⟨hdL⟩
  have HCBc : Bx (bv (UInt8.ofNat c) = .int .u8 (c : Int)) := ⟨bv_ofNat c hc1⟩
  have j4 : j < 256 := by omega
  have o1 : bits .or .u8 64 (j : Int) = (c : Int) := by
    subst hc
    rw [show (64 : Int) = ((64 : Nat) : Int) from rfl, u8_or_nat _ _ (by decide) (by omega), or_64 j (by omega)]
  have j3 : IntKind.u8.wrap (j : Int) = (j : Int) := u8s j j4
  have j2 : wrap64 (j : Int) = (j : Int) := w64s j (Nat.lt_trans j4 (by decide))
  clear SQ hA hdl hsl hd hs hk hk1 hk4 hj hj3 hc hc1 hdL j4
  go_enter Try.func60, Try.ntmps60
  go_wp2_with (first
    | (at_builtin
       clear o1 j3 j2 j0
       refine wpList_append_apn _ rfl _ _ 36 rfl w.heap.size i0 (.int .u8 0) 1 Try.underlying36 Hi.out Hz.out Hz1.out Hz2.out rfl _ a.dst [Value.int .u8 (c : Int)] (a.dstb.map bv) rfl rfl (Ap.litP _ _ (by simp) _ (by omega) 5 _ 1 rfl (by simp [maxLen])) (HDB0.out.keep (((Below.refl w.heap.size w).alloc (Nat.le_refl _) _).alloc (by simp) _)) one_bv (by have := HDL.out; simp; omega) (by have := HDL.out; simp; unfold maxLen; omega) (by simp <;> omega) ?_
       intro v1 w1 h1 b1 n1
       have HQ1 : Bx (ApB w1 w.heap.size v1 (UInt8.ofNat c :: a.dstb)) := ⟨by unfold ApB; rw [List.map_cons, HCBc.out]; exact h1⟩
       have HBa := Bx.mk ((((Below.refl w.heap.size w).alloc (Nat.le_refl _) (.cells A 38)).alloc (by simp) _).trans b1)
       clear h1 b1 n1))
  go_ret
  exact ⟨v1, rfl, HQ1.out, HBa.out⟩
end Go.Proofs.Ytcakppdabolfiaa
