/-
  Texts put together: HuffG, HuffI, HuffC, HuffD.
-/
import Derived.Test.YtebakjdeighdnaaGreatM06
import Derived.BigQuiet
import Derived.Test.YtebakjdeighdnaaGreatM03
import Derived.BigRegion
import Derived.RegionTactic

/-
  Contracts of the document's lengths and Codes.
-/
namespace Go.Proofs.YtebakjdeighdnaaGreat
open Go.RowKit
set_option linter.unusedVariables false

/-- The document's lengths, as a slice's cells. -/
def IA : Array Value := (LL.map fun (n : Nat) => Value.int .i64 (n : Int)).toArray
def intF (i : Nat) : Value := .int .i64 (ll i : Int)
theorem ia_row (w : World) : (w.alloc (.cells IA 3)).rowIs w.heap.size 3 257 intF := by
  have h : IA.size = 257 := by decide +kernel
  have := World.rowIs_alloc w IA 3 intF (fun i hi => by
    rw [h] at hi
    unfold IA
    rw [List.getElem?_toArray, List.getElem?_map, ll_get i hi]
    rfl)
  rwa [h] at this

set_option maxRecDepth 100000 in
set_option maxHeartbeats 1000000 in
theorem refLengths_any (w : World) :
    Calls Tryz.prog 122 #[] w fun e w' => ∃ g, e = .returned (.slice (some ⟨g, 0, none⟩) 257 257) ∧ w'.rowIs g 3 257 intF ∧ Below w.heap.size w w' := by
  have hr := ia_row w
  go_enter Tryz.func122, Tryz.ntmps122
  go_wp2_with (with_reducible refine wpList_buildSlice (v := .slice (some ⟨w.heap.size, 0, none⟩) 257 257) (w' := w.alloc (.cells IA 3)) (by kernel_rfl) ?_)
  go_ret
  exact ⟨w.heap.size, rfl, hr, (Below.refl _ _).alloc (Nat.le_refl _) _⟩

end Go.Proofs.YtebakjdeighdnaaGreat

/-
  The document's codes as cells.
-/
namespace Go.Proofs.YtebakjdeighdnaaGreat
open Go.RowKit
set_option linter.unusedVariables false

/-- The codes' cells where the first q places are written. -/
def outF (q i : Nat) : Value :=
  if i % 2 = 0 then .int .u32 (if pos (i / 2) < q then (cw (i / 2) : Int) else 0) else .int .i64 (if pos (i / 2) < q then (ll (i / 2) : Int) else 0)
def OZ : Array Value := ((List.range 514).map (outF 0)).toArray
theorem oz_row (w : World) : (w.alloc (.cells OZ 161)).rowIs w.heap.size 161 514 (outF 0) := by
  have h : OZ.size = 514 := by unfold OZ; simp
  have := World.rowIs_alloc w OZ 161 (outF 0) (fun i hi => by
    rw [h] at hi
    unfold OZ
    simp [hi])
  rwa [h] at this
theorem makeOZ (W : World) : (Instr.makeSlice 157 (.int .i64 257) (.int .i64 257)).run Tryz.prog W = .ok (.slice (some ⟨W.heap.size, 0, none⟩) 257 257) (W.alloc (.cells OZ 161)) := by kernel_rfl

theorem outF_set {w : World} {m s : Nat} (h : w.rowIs m 161 514 (outF (pos s))) (hs : s < 257) :
    ((w.setCell ⟨m, s * 2, none⟩ (.int .u32 (cw s : Int))).setCell ⟨m, s * 2 + 1, none⟩ (.int .i64 (ll s : Int))).rowIs m 161 514 (outF (pos s + 1)) :=
  ((h.set _ _).set _ _).congr fun i hi => by
    have hx : i / 2 < 257 := by omega
    by_cases h1 : i = s * 2 + 1
    · rw [if_pos h1]
      have e : i / 2 = s := by omega
      unfold outF
      rw [if_neg (by omega), e, if_pos (by omega)]
    · rw [if_neg h1]
      by_cases h0 : i = s * 2
      · rw [if_pos h0]
        have e : i / 2 = s := by omega
        unfold outF
        rw [if_pos (by omega), e, if_pos (by omega)]
      · rw [if_neg h0]
        have hne : pos (i / 2) ≠ pos s := fun e => by have := pos_inj hx hs e; omega
        unfold outF
        have hiff : pos (i / 2) < pos s ↔ pos (i / 2) < pos s + 1 := by omega
        simp only [hiff]

/-- The document's codes lie in block m. -/
def CodesAt (w : World) (m : Nat) : Prop := w.rowIs m 161 514 (outF 257)
theorem CodesAt.cells {w : World} {m : Nat} (h : CodesAt w m) (s : Nat) (hs : s < 257) :
    w.cell? ⟨m, s * 2, none⟩ = some (.int .u32 (cw s : Int)) ∧ w.cell? ⟨m, s * 2 + 1, none⟩ = some (.int .i64 (ll s : Int)) := by
  have hp := pos_lt hs
  have h0 := World.rowIs.cell h (i := s * 2) (by omega)
  have h1 := World.rowIs.cell h (i := s * 2 + 1) (by omega)
  unfold outF at h0 h1
  rw [if_pos (by omega), show s * 2 / 2 = s from by omega, if_pos hp] at h0
  rw [if_neg (by omega), show (s * 2 + 1) / 2 = s from by omega, if_pos hp] at h1
  exact ⟨h0, h1⟩
theorem CodesAt.keep {w w' : World} {g : Nat} (h : CodesAt w g) (hb : Below w.heap.size w w') : CodesAt w' g := World.rowIs.of_block h (hb.block g (World.rowIs.lt h))

/-- At a row's beginning, within a row. -/
def RowRel (g m : Nat) (w : World) (n c h : Value) (wr : World) : Prop :=
  ∃ k : Nat, n = .int .i64 (k : Int) ∧ 5 ≤ k ∧ k ≤ 31 ∧ c = .int .u32 (cs (pq k) : Int) ∧ h = .int .i64 (hs (pq k) : Int) ∧ wr.rowIs m 161 514 (outF (pq k)) ∧ wr.rowIs g 3 257 intF ∧ Below w.heap.size w wr
def ColRel (g m n : Nat) (w : World) (s c h : Value) (wr : World) : Prop :=
  ∃ k q : Nat, s = .int .i64 (k : Int) ∧ k ≤ 257 ∧ q = pq n + (LL.take k).count n ∧ c = .int .u32 (cs q : Int) ∧ h = .int .i64 (hs q : Int) ∧ wr.rowIs m 161 514 (outF q) ∧ wr.rowIs g 3 257 intF ∧ Below w.heap.size w wr

theorem pq_all : ∀ n, n < 32 → pq n ≤ 257 := by decide +kernel
end Go.Proofs.YtebakjdeighdnaaGreat

/-
  The contract of huff.newCode: what the code's struct holds.
-/
namespace Go.Proofs.YtebakjdeighdnaaGreat
open Go.RowKit
set_option linter.unusedVariables false

/-- The whole code lies in block g. -/
def CodeAt (w : World) (g : Nat) : Prop := w.rowIs g 185 864 (codeF cw orr fi co pl)

theorem place_ne {s k : Nat} (hs : s < 257) (hk : k < 257) (h : s ≠ k) : pl (ll s) + (cw s - fi (ll s)) ≠ pl (ll k) + (cw k - fi (ll k)) := by
  intro e
  have h1 := (sign_facts s hs).2.2.2.2.2
  have h2 := (sign_facts k hk).2.2.2.2.2
  rw [e] at h1
  exact h (h1.symm.trans h2)

set_option maxRecDepth 100000 in
set_option maxHeartbeats 1000000 in
theorem newCode_any (w : World) :
    Calls Tryz.prog 127 #[] w fun e w' => ∃ g, e = .returned (.pointer (some ⟨g, 0, none⟩)) ∧ CodeAt w' g ∧ Below w.heap.size w w' := by
  go_enter Tryz.func127, Tryz.ntmps127
  go_wp2_with (first
    | (go_at_call 126; refine (lengths_any _).mono ?_; rintro e w1 ⟨rfl, b1⟩)
    | (with_reducible refine wpList_build (v := .agg CZ) (by rw [parts1 (v := .agg LA) (by with_unfolding_all rfl)]; exact buildCode _) ?_)
    | (with_reducible refine wpList_boxAgg (t := 185) (cs := CZ) (by with_unfolding_all rfl) ?_
       intro w2 g hw2 hg
       have hrow := cz_row w1
       rw [← hw2, ← hg] at hrow
       have b2 : Below w.heap.size w w2 := by rw [hw2]; exact b1.alloc b1.size _
       have hgw : w.heap.size ≤ g := by rw [hg]; exact b1.size
       clear hw2 hg b1)
    | (with_reducible refine wpList_load (t := 176) (v := .agg LA) (by with_unfolding_all exact load_lengths hrow) ?_))
  go_loopw [15] (fun i wr => Loop1 g w i wr) (fun i _ => 257 - (intOf i).toNat)
  case atStart => exact ⟨0, zf, rfl, by omega, fun n _ => by simp [zf], hrow, b2⟩
  case round =>
    obtain ⟨k, N, rfl, hk, hN, hr, hb⟩ := hrel
    have HN : Bx (∀ n, n < 31 → N n = (LL.take k).count n) := ⟨hN⟩
    have HR := Bx.mk hr
    have HB := Bx.mk hb
    clear hrow b2 hN hb
    by_cases hlt : k < 257
    · have hla := index_la k hlt
      have hl := (sign_facts k hlt).2.1
      have hc := (codeF_cell hr).2.2.2.2.1 (ll k) (by omega)
      have hf := hr.frozen (802 + ll k)
      have hNk : N (ll k) ≤ 257 := by rw [HN.out _ (by omega)]; have := count_le k (ll k); omega
      generalize hlk : ll k = n at hla hl hc hf hNk
      have HLK := Bx.mk hlk
      clear hr hlk
      go_wp2
      go_region
      go_wp2
      go_roundw
      case rel =>
        refine ⟨k + 1, up N n (N n + 1), by go_num, by omega, fun x hx => ?_, (codeF_setN HR.out n (N n + 1) (by omega)).drew, (HB.out.setCell hgw _).drew⟩
        rw [count_snoc k x hlt, HLK.out]
        unfold up
        split
        · subst_vars; rw [HN.out _ hx, if_pos rfl]
        · rw [HN.out _ hx, if_neg (fun e => by omega)]; rfl
      case measure => simp [intOf]; omega
    · obtain rfl : k = 257 := by omega
      have hrow : wr.rowIs g 185 864 (codeF zf zf zf co zf) := codeF_congr HR.out (fun _ _ => rfl) (fun _ _ => rfl) (fun _ _ => rfl) (fun i hi => by rw [HN.out i hi, count_all i hi]) (fun _ _ => rfl)
      have HR := Bx.mk hrow
      clear hr hrow HN
      go_wp2
      go_loopw [4] (fun i wr => Loop2 g w i wr) (fun i _ => 31 - (intOf i).toNat)
      case atStart => exact ⟨0, zf, zf, rfl, by omega, fun n h => (zf_start n h).1, fun n h => (zf_start n h).2, HR.out, HB.out⟩
      case round =>
        obtain ⟨j, F, P, rfl, hj, hF, hP, hr, hb⟩ := hrel
        have HF := Bx.mk hF
        have HP := Bx.mk hP
        have HB := Bx.mk hb
        clear hF hP hb HR
        by_cases hlt : j < 30
        · have hsm := small_facts j (by omega)
          have hc1 := (codeF_cell hr).2.2.2.1 j (by omega)
          have hc2 := (codeF_cell hr).2.2.2.2.1 j (by omega)
          have hc0 := (codeF_cell hr).2.2.2.1 (j + 1) (by omega)
          have hf := hr.frozen (771 + (j + 1))
          rw [HF.out j (by omega)] at hc1
          have HN := Bx.mk (next_facts j hlt)
          have HR := Bx.mk hr
          obtain ⟨hs1, hs2⟩ := hsm
          clear hr
          generalize hfi : fi j = f at hc1 hs1
          generalize hco : co j = c at hc2 hs1 hs2
          generalize hpl : pl j = p at hs2
          have HE : Bx (fi j = f ∧ co j = c ∧ pl j = p) := ⟨hfi, hco, hpl⟩
          clear hfi hco hpl
          go_wp2
          go_region
          have hr3 := (codeF_setF HR.out (j + 1) ((f + c) * 2) (by omega)).drew
          have hb3 : Below w.heap.size w (wr.setCell ⟨g, 771 + (j + 1), none⟩ (.int .u32 (((f + c) * 2 : Nat) : Int))).drew := (HB.out.setCell hgw _).drew
          rw [show ((((f + c) * 2 : Nat)) : Int) = ((f : Int) + (c : Int)) * 2 from by omega] at hr3 hb3
          generalize (wr.setCell ⟨g, 771 + (j + 1), none⟩ (.int .u32 (((f : Int) + (c : Int)) * 2))).drew = w3 at hr3 hb3 ⊢
          have hd1 := (codeF_cell hr3).2.2.2.2.2 j (by omega)
          have hd2 := (codeF_cell hr3).2.2.2.2.1 j (by omega)
          have hd0 := (codeF_cell hr3).2.2.2.2.2 (j + 1) (by omega)
          have hdf := hr3.frozen (833 + (j + 1))
          rw [HP.out j (by omega), HE.out.2.2] at hd1
          rw [HE.out.2.1] at hd2
          have HR3 := Bx.mk hr3
          have HB3 := Bx.mk hb3
          clear hr3 hb3 hc0 hf hc1 hc2 HR HB
          go_wp2
          go_region
          have hr4 := (codeF_setP HR3.out (j + 1) (p + c) (by omega)).drew
          have hb4 : Below w.heap.size w (w3.setCell ⟨g, 833 + (j + 1), none⟩ (.int .u32 ((p + c : Nat) : Int))).drew := (HB3.out.setCell hgw _).drew
          rw [show ((p + c : Nat) : Int) = (p : Int) + (c : Int) from by omega] at hr4 hb4
          have HR4 := Bx.mk hr4
          have HB4 := Bx.mk hb4
          clear hr4 hb4 hd0 hdf hd1 hd2 HR3 HB3
          go_wp2
          go_roundw
          case rel =>
            refine ⟨j + 1, _, _, by go_num, by omega, fun x hx => ?_, fun x hx => ?_, HR4.out, HB4.out⟩
            · unfold up
              split
              · subst_vars; rw [HN.out.1, HE.out.1, HE.out.2.1]; omega
              · exact HF.out x (by omega)
            · unfold up
              split
              · subst_vars; rw [HN.out.2, HE.out.2.1, HE.out.2.2]
              · exact HP.out x (by omega)
          case measure => simp [intOf]; omega
        · obtain rfl : j = 30 := by omega
          have hrow : wr.rowIs g 185 864 (codeF zf zf fi co pl) := codeF_congr hr (fun _ _ => rfl) (fun _ _ => rfl) (fun i hi => HF.out i (by omega)) (fun i hi => rfl) (fun i hi => HP.out i (by omega))
          have HR := Bx.mk hrow
          clear hr HF HP
          go_wp2_with (first
            | (with_reducible refine wpList_allocAgg (t := 183) (cs := MZ) ((zero_of_info infoMet).1 _) ?_
               intro w4 m hw4 hm
               have hgm : g ≠ m := by rw [hm]; have := HR.out.lt; omega
               have hwm : w.heap.size ≤ m := by rw [hm]; exact HB.out.size
               have hrm := mz_row wr
               have hr4 := HR.out.alloc (.cells MZ 183)
               have hb4 := HB.out.alloc HB.out.size (.cells MZ 183)
               rw [← hw4, ← hm] at hrm
               rw [← hw4] at hr4 hb4
               clear hw4 hm)
            | (with_reducible refine wpList_load (t := 176) (v := .agg LA) (by with_unfolding_all exact load_lengths hr4) ?_))
          go_loopw [78] (fun i wr => Loop3 g m w i wr) (fun i _ => 257 - (intOf i).toNat)
          case atStart => exact ⟨0, zf, zf, zf, rfl, by omega, fun s h => by omega, fun s h => by omega, fun n _ => by simp [zf], hr4, hrm, hb4⟩
          case round =>
            clear hr4 hrm hb4 HR HB
            obtain ⟨k, W, O, M, rfl, hk, hW, hO, hM, hr, hrm, hb⟩ := hrel
            have HW := Bx.mk hW
            have HO := Bx.mk hO
            have HM := Bx.mk hM
            have HR := Bx.mk hr
            have HRM := Bx.mk hrm
            have HB := Bx.mk hb
            clear hW hO hM hr hrm hb
            by_cases hlt : k < 257
            · have hla := index_la k hlt
              have hsf := sign_facts k hlt
              have hMk := HM.out (ll k) (by omega)
              have hwf := word_facts k hlt
              have hsm := small_facts (ll k) (by omega)
              have HPN := Bx.mk (fun s (hs : s < 257) (h : s ≠ k) => place_ne hs hlt h)
              have hq : pl (ll k) + (cw k - fi (ll k)) = pl (ll k) + M (ll k) := by omega
              have hqlt : pl (ll k) + M (ll k) < 257 := by omega
              have hsum : fi (ll k) + M (ll k) = cw k := by omega
              have hcw : fi (ll k) + M (ll k) ≤ 1073741824 := by omega
              have hc1 := (codeF_cell HR.out).2.2.2.1 (ll k) (by omega)
              have hc2 : wr.cell? ⟨m, ll k, none⟩ = some (.int .u32 (M (ll k) : Int)) := HRM.out.cell (by omega)
              have hc0 := (codeF_cell HR.out).2.1 k hlt
              have hf := HR.out.frozen (257 + k)
              have hn30 : ll k ≤ 30 := hsf.2.1
              rw [hq] at HPN
              have HSUM := Bx.mk hsum
              have HQ := Bx.mk hq
              generalize hlk : ll k = n at hla hqlt hcw hc1 hc2 hn30 HPN HSUM HQ
              have HLK := Bx.mk hlk
              clear hsf hMk hwf hsm hq hsum hlk
              generalize hmn : M n = mn at hqlt hcw hc2 HPN HSUM HQ
              generalize hfn : fi n = fn at hcw hc1
              generalize hpn : pl n = pn at hqlt HPN
              have HE : Bx (M n = mn ∧ fi n = fn ∧ pl n = pn) := ⟨hmn, hfn, hpn⟩
              clear hmn hfn hpn
              go_wp2
              go_region
              have hr3 := (codeF_setW HR.out k (fn + mn) hlt).drew
              have hrm3 : (wr.setCell ⟨g, 257 + k, none⟩ (.int .u32 ((fn + mn : Nat) : Int))).drew.rowIs m 183 31 (metF M) := (HRM.out.setOther (a := ⟨g, 257 + k, none⟩) (fun e => hgm e.symm) _).drew
              have hb3 : Below w.heap.size w (wr.setCell ⟨g, 257 + k, none⟩ (.int .u32 ((fn + mn : Nat) : Int))).drew := (HB.out.setCell hgw _).drew
              rw [show ((fn + mn : Nat) : Int) = (fn : Int) + (mn : Int) from by omega] at hr3 hrm3 hb3
              generalize (wr.setCell ⟨g, 257 + k, none⟩ (.int .u32 ((fn : Int) + (mn : Int)))).drew = w5 at hr3 hrm3 hb3 ⊢
              clear hc1 hc2 hc0 hf
              have hc1 := (codeF_cell hr3).2.2.2.2.2 n (by omega)
              have hc2 : w5.cell? ⟨m, n, none⟩ = some (.int .u32 (M n : Int)) := hrm3.cell (by omega)
              rw [HE.out.2.2] at hc1
              rw [HE.out.1] at hc2
              have hc0 := (codeF_cell hr3).2.2.1 (pn + mn) hqlt
              have hf := hr3.frozen (514 + (pn + mn))
              have HR3 := Bx.mk hr3
              have HRM3 := Bx.mk hrm3
              have HB3 := Bx.mk hb3
              clear hr3 hrm3 hb3 HR HRM HB
              go_wp2
              go_region
              have hr4 := (codeF_setO HR3.out (pn + mn) k hqlt).drew
              have hrm4 : (w5.setCell ⟨g, 514 + (pn + mn), none⟩ (.int .u16 (k : Int))).drew.rowIs m 183 31 (metF M) := (HRM3.out.setOther (a := ⟨g, 514 + (pn + mn), none⟩) (fun e => hgm e.symm) _).drew
              have hb4 : Below w.heap.size w (w5.setCell ⟨g, 514 + (pn + mn), none⟩ (.int .u16 (k : Int))).drew := (HB3.out.setCell hgw _).drew
              generalize (w5.setCell ⟨g, 514 + (pn + mn), none⟩ (.int .u16 (k : Int))).drew = w6 at hr4 hrm4 hb4 ⊢
              clear hc1 hc2 hc0 hf
              have hc2 : w6.cell? ⟨m, n, none⟩ = some (.int .u32 (M n : Int)) := hrm4.cell (by omega)
              rw [HE.out.1] at hc2
              have hf := hrm4.frozen n
              have HR4 := Bx.mk hr4
              have HRM4 := Bx.mk hrm4
              have HB4 := Bx.mk hb4
              clear hr4 hrm4 hb4 HR3 HRM3 HB3
              go_wp2
              have hr5 : (w6.setCell ⟨m, n, none⟩ (.int .u32 ((mn + 1 : Nat) : Int))).rowIs g 185 864 (codeF (up W k (fn + mn)) (up O (pn + mn) k) fi co pl) := HR4.out.setOther hgm _
              have hrm5 := metF_set HRM4.out n (mn + 1)
              have hb5 : Below w.heap.size w (w6.setCell ⟨m, n, none⟩ (.int .u32 ((mn + 1 : Nat) : Int))) := HB4.out.setCell hwm _
              rw [show ((mn + 1 : Nat) : Int) = (mn : Int) + 1 from by omega] at hr5 hrm5 hb5
              go_roundw
              case rel =>
                refine ⟨k + 1, _, _, _, by go_num, by omega, fun s hs => ?_, fun s hs => ?_, fun x hx => ?_, hr5, hrm5, hb5⟩
                · unfold up
                  split
                  · subst_vars; rw [← HSUM.out, HE.out.2.1]
                  · exact HW.out s (by omega)
                · unfold up
                  by_cases e : s = k
                  · subst e
                    rw [if_pos]
                    rw [HLK.out, HQ.out, HE.out.2.2]
                  · rw [if_neg (HPN.out s (by omega) e)]
                    exact HO.out s (by omega)
                · rw [count_snoc k x hlt, HLK.out]
                  unfold up
                  split
                  · subst_vars
                    rw [if_pos rfl, ← HM.out _ hx, HE.out.1]
                  · rw [HM.out _ hx, if_neg (fun e => by omega)]; rfl
              case measure => simp [intOf]; omega
            · obtain rfl : k = 257 := by omega
              go_wp2
              go_ret
              refine ⟨g, rfl, codeF_congr HR.out (fun i hi => HW.out i hi) (fun q hq => ?_) (fun _ _ => rfl) (fun _ _ => rfl) (fun _ _ => rfl), HB.out⟩
              have ho := order_facts q hq
              have := HO.out (orr q) ho.1
              rw [ho.2] at this
              exact this

end Go.Proofs.YtebakjdeighdnaaGreat

/-
  Contracts of the code's method sign and of huff.Bits.
-/
namespace Go.Proofs.YtebakjdeighdnaaGreat
open Go.RowKit
set_option linter.unusedVariables false

theorem CodeAt.keep {w w' : World} {g : Nat} (h : CodeAt w g) (hb : Below w.heap.size w w') : CodeAt w' g := World.rowIs.of_block h (hb.block g h.lt)

end Go.Proofs.YtebakjdeighdnaaGreat
