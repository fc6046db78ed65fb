/-
  Texts put together: FdQ, FdL2, HkC, HdB, HdC.
-/
import Derived.Test.YthnaapjefedalaaM05
import Derived.BigRegion
import Derived.Test.YthnaapjefedalaaM14
import Derived.IntWalk
import Derived.RegionTactic
import Derived.Test.YthnaapjefedalaaM21
import Derived.Test.YthnaapjefedalaaM16
import Derived.Test.YthnaapjefedalaaM04

/-
  Contract of bifoldhelp.Fields alone.
-/
namespace Go.Proofs.Ythnaapjefedalaa
open Go.RowKit
set_option linter.unusedVariables false

theorem ret_bool {a b : Bool} (h : a = b) : Ending.returned (.bool a) = .returned (.bool b) := by rw [h]
theorem at_ne {α : Type} {a b : List α} {k : Nat} (ha : k < a.length) (hb : k < b.length) (h : ¬ a[k] = b[k]) : ¬ a = b := by
  rintro rfl; exact h rfl

set_option maxRecDepth 100000 in
set_option maxHeartbeats 1000000 in
theorem fields_any (va vb : Value) (a b : List Fd) (w : World) (ha : Fs w va a) (hb : Fs w vb b) :
    Calls Try.prog 20 #[va, vb] w fun e w' => e = .returned (.bool (decide (a = b))) ∧ Below w.heap.size w w' := by
  have HA := Bx.mk ha
  have HBb := Bx.mk hb
  have hlena := fun ty W => ha.run_len ty W
  have hlenb := fun ty W => hb.run_len ty W
  have hlm := ha.len
  unfold maxLen at hlm
  clear ha hb
  by_cases hll : a.length = b.length
  · have hd : ((a.length : Int) == (b.length : Int)) = true := by rw [beq_iff_eq]; omega
    have hd2 : ((a.length : Int) != (b.length : Int)) = false := by rw [bne, hd]; rfl
    have HLL := Bx.mk hll
    clear hll
    obtain ⟨R, hR⟩ : ∃ R, decide (a = b) = R := ⟨_, rfl⟩
    rw [hR]
    have HR := Bx.mk hR
    clear hR
    go_enter Try.func20, Try.ntmps20
    go_wp2
    clear hd hd2
    go_loopg [5] a.length (fun g s5 wx => ∃ k : Nat, k + g = a.length ∧ s5 = .int .i64 k ∧ Bx (AgreeTo a b k) ∧ Bx (Below w.heap.size w wx))
    case atStart => exact ⟨0, by omega, rfl, ⟨AgreeTo.zero _ _⟩, ⟨Below.refl _ _⟩⟩
    case round =>
      obtain ⟨k, hkg, rfl, HG, HB⟩ := hrel
      cases gk with
      | zero =>
        obtain rfl : k = a.length := by omega
        go_wp2
        go_ret
        exact ⟨ret_bool (by rw [← HR.out]; exact (decide_eq_true (AgreeTo.eq HLL.out HG.out)).symm), HB.out⟩
      | succ g =>
        have hk : k < a.length := by omega
        have hkb : k < b.length := by have := HLL.out; omega
        have hkz : (k : Int) < (a.length : Int) := by omega
        obtain ⟨b1, o1, hix1, hcs1⟩ := HA.out.at_ k hk
        obtain ⟨b2, o2, hix2, hcs2⟩ := HBb.out.at_ k hkb
        obtain ⟨hc1, hc1'⟩ := hcs1 wr (HA.out.keep HB.out)
        obtain ⟨hc2, hc2'⟩ := hcs2 wr (HBb.out.keep HB.out)
        have HSU := Bx.mk (show a[k] = b[k] → AgreeTo a b (k + 1) from fun h => HG.out.succ (by rw [List.getElem?_eq_getElem hk, List.getElem?_eq_getElem hkb, h]))
        have HNE := Bx.mk (fun h => at_ne hk hkb h)
        clear hcs1 hcs2
        generalize a[k] = x at hc1 hc1' HSU HNE
        obtain ⟨x1, x2⟩ := x
        generalize b[k] = y at hc2 hc2' HSU HNE
        obtain ⟨y1, y2⟩ := y
        simp only at hc1 hc1' hc2 hc2'
        by_cases h1 : x1 = y1
        · subst h1
          by_cases h2 : x2 = y2
          · subst h2
            go_wp2
            go_region
            go_wp2
            go_roundg g
            case measure => omega
            case rel => exact ⟨k + 1, by omega, by go_num, ⟨HSU.out (by simp)⟩, ⟨HB.out.drew⟩⟩
          · have hn : ¬ x2.toList = y2.toList := fun h => h2 (str_eq _ _ h)
            have HX := Bx.mk (show ¬ ((x1, x2) : Fd) = (x1, y2) from fun h => h2 (by injection h))
            clear h2
            go_wp2
            go_region
            go_wp2
            go_ret
            exact ⟨ret_bool (by rw [← HR.out]; exact (decide_eq_false (HNE.out HX.out)).symm), HB.out.drew⟩
        · have hn : ¬ x1.toList = y1.toList := fun h => h1 (str_eq _ _ h)
          have HX := Bx.mk (show ¬ ((x1, x2) : Fd) = (y1, y2) from fun h => h1 (by injection h))
          clear h1
          go_wp2
          go_region
          go_wp2
          go_ret
          exact ⟨ret_bool (by rw [← HR.out]; exact (decide_eq_false (HNE.out HX.out)).symm), HB.out.drew⟩
  · have hd : ((a.length : Int) == (b.length : Int)) = false := by rw [beq_eq_false_iff_ne]; omega
    have hd2 : ((a.length : Int) != (b.length : Int)) = true := by rw [bne, hd]; rfl
    have hr : decide (a = b) = false := by rw [decide_eq_false_iff_not]; rintro rfl; exact hll rfl
    rw [hr]
    clear hll hr
    go_enter Try.func20, Try.ntmps20
    go_wp2
    go_ret
    exact ⟨rfl, Below.refl _ _⟩

end Go.Proofs.Ythnaapjefedalaa

/-
  Contract of bifoldhelp.Light (beside the table's texts).
-/
namespace Go.Proofs.Ythnaapjefedalaa
open Go.RowKit
set_option linter.unusedVariables false

theorem Small.at_ {l : List Fd} (h : Small l) (k : Nat) (hk : k < l.length) : l[k].1.size ≤ 140737488351232 ∧ l[k].2.size ≤ 140737488351232 := h _ (List.getElem_mem hk)
def lightB (l : List Fd) : Bool := decide (l.length ≤ 70 ∧ sumF l ≤ 3000)

set_option maxRecDepth 100000 in
set_option maxHeartbeats 1000000 in
theorem light_any (v : Value) (l : List Fd) (w : World) (hv : Fs w v l) (hs : Small l) :
    Calls Try.prog 12 #[v] w fun e w' => e = .returned (.bool (lightB l)) ∧ Below w.heap.size w w' := by
  have HV := Bx.mk hv
  have HS := Bx.mk hs
  have hlen := fun ty W => hv.run_len ty W
  have hlm := hv.len
  unfold maxLen at hlm
  clear hv hs
  by_cases hbig : 70 < l.length
  · have hbb : decide (70 < (l.length : Int)) = true := by rw [decide_eq_true_iff]; omega
    have hr : lightB l = false := by unfold lightB; rw [decide_eq_false_iff_not]; omega
    rw [hr]
    clear hr hbig
    go_enter Try.func12, Try.ntmps12
    go_wp2
    go_ret
    exact ⟨rfl, Below.refl _ _⟩
  have hbb : decide (70 < (l.length : Int)) = false := by rw [decide_eq_false_iff_not]; omega
  obtain ⟨R, hR⟩ : ∃ R, lightB l = R := ⟨_, rfl⟩
  rw [hR]
  have HR := Bx.mk hR
  have HL : Bx (l.length ≤ 70) := ⟨by omega⟩
  clear hR hbig
  go_enter Try.func12, Try.ntmps12
  go_wp2
  clear hbb
  go_loopg [3, 4] l.length (fun g s3 s4 wx => ∃ k : Nat, k + g = l.length ∧ s4 = .int .i64 k ∧ s3 = .int .i64 (sumF (l.take k) : Int) ∧ Bx (sumF (l.take k) ≤ 3000) ∧ Bx (Below w.heap.size w wx))
  case atStart => exact ⟨0, by omega, rfl, rfl, ⟨by simp [sumF]⟩, ⟨Below.refl _ _⟩⟩
  case round =>
    obtain ⟨k, hkg, rfl, rfl, HQ, HB⟩ := hrel
    cases gk with
    | zero =>
      obtain rfl : k = l.length := by omega
      go_wp2
      go_ret
      refine ⟨ret_bool ?_, HB.out⟩
      rw [← HR.out]
      unfold lightB
      have := HQ.out
      rw [List.take_length] at this
      exact (decide_eq_true ⟨HL.out, this⟩).symm
    | succ g =>
      have hk : k < l.length := by omega
      have hkz : (k : Int) < (l.length : Int) := by omega
      obtain ⟨b, o, hix, hcs⟩ := HV.out.at_ k hk
      obtain ⟨hc1, hc2⟩ := hcs wr (HV.out.keep HB.out)
      obtain ⟨hs1, hs2⟩ := HS.out.at_ k hk
      have hst := sumF_take_succ l k hk
      have HST := Bx.mk hst
      have hq := HQ.out
      have HTL := Bx.mk (sumF_take_le l (k + 1))
      unfold fsz at hst
      obtain ⟨f1, hf1⟩ : ∃ f1, l[k].1 = f1 := ⟨_, rfl⟩
      obtain ⟨f2, hf2⟩ : ∃ f2, l[k].2 = f2 := ⟨_, rfl⟩
      rw [hf1] at hc1 hst hs1
      rw [hf2] at hc2 hst hs2
      have HF1 := Bx.mk hf1
      have HF2 := Bx.mk hf2
      clear hcs hf1 hf2
      generalize hT : sumF (l.take k) = T at hst hq
      have HT := Bx.mk hT
      have HTS := Bx.mk hst
      clear hT hst
      have w1 : IntKind.i64.wrap ((f1.size : Int) + (f2.size : Int)) = (f1.size : Int) + (f2.size : Int) := IntWalk.i64_in _ (by omega)
      have w2 : IntKind.i64.wrap ((T : Int) + ((f1.size : Int) + (f2.size : Int))) = (T : Int) + ((f1.size : Int) + (f2.size : Int)) := IntWalk.i64_in _ (by omega)
      by_cases hgt : 3000 < T + (f1.size + f2.size)
      · have hd : decide (3000 < (T : Int) + ((f1.size : Int) + (f2.size : Int))) = true := by rw [decide_eq_true_iff]; omega
        have hfin : R = false := by
          rw [← HR.out]
          unfold lightB
          rw [decide_eq_false_iff_not]
          have h1 := HTL.out
          have h2 := HTS.out
          omega
        have HFIN := Bx.mk hfin
        clear hfin hgt
        go_wp2
        go_region
        clear w1 w2
        go_wp2
        go_ret
        exact ⟨ret_bool HFIN.out.symm, HB.out.drew⟩
      · have hd : decide (3000 < (T : Int) + ((f1.size : Int) + (f2.size : Int))) = false := by rw [decide_eq_false_iff_not]; omega
        have HG : Bx (T + (f1.size + f2.size) ≤ 3000) := ⟨by omega⟩
        clear hgt
        go_wp2
        go_region
        clear w1 w2
        go_wp2
        go_roundg g
        case measure => omega
        case rel => exact ⟨k + 1, by omega, by go_num, by rw [HTS.out]; go_num, ⟨by have := HTS.out; have := HG.out; omega⟩, ⟨HB.out.drew⟩⟩

end Go.Proofs.Ythnaapjefedalaa

/-
  The program's encoder, as the laws use it: written to, its capacity changed.
-/
namespace Go.Proofs.Ythnaapjefedalaa
open Go.RowKit Go.Maps
set_option linter.unusedVariables false

section
variable {B q p : Nat} {T : Tab} {le : Option Nat} {w wA : World} {C : Nat → Prop}
theorem pe_enc (hm : ∀ m, le = some m → m ≤ 65535) (hc : T.cap ≤ 65535) {v : Value} {l : List Fd} (hv : ∀ S W, (∀ k, S k → C k) → Fp S wA W → Fs W v l) (hl : l.length ≤ 1000) (hz : ∀ f ∈ l, f.1.size ≤ 20000 ∧ f.2.size ≤ 20000) (hsum : sumF l ≤ 100000) (ht : T.tot + l.length ≤ 1000000) :
    ∀ S, Ep q p T le wA S → (∀ k, S k → C k) → Calls Try.prog 13 #[.pointer (some ⟨q, 0, none⟩), v] wA fun e w' => ∃ v', (e = .returned v' ∧ OwB w' wA.heap.size v' (encB le T l)) ∧ Turn (Ep q p (encL T l).2 none) S wA w' := fun S hS hs => by
  refine (pencode_any hS hm hc (fun W hf => hv S W hs hf) hl hz hsum ht).mono ?_
  rintro e w' ⟨v', rfl, ho, ht⟩
  exact ⟨v', ⟨rfl, ho⟩, ht⟩
theorem pe_resize (n : Int) :
    ∀ S, Ep q p T le wA S → (∀ k, S k → C k) → Calls Try.prog 21 #[.pointer (some ⟨q, 0, none⟩), .int .i64 n] wA fun e w' => ∃ u : Unit, e = .returned (.tuple #[]) ∧ Turn (Ep q p (T.resize (clampN n : Int)) (some (lessN le (clampN n)))) S wA w' := fun S hS hs => by
  refine (presize_any hS n).mono ?_
  rintro e w' ⟨rfl, ht⟩
  exact ⟨(), rfl, ht⟩
theorem enc_enc (h : Up B (Ep q p T le) w) (hB : B ≤ w.heap.size) (hm : ∀ m, le = some m → m ≤ 65535) (hc : T.cap ≤ 65535) {v : Value} {l : List Fd} (hv : ∀ W, Below B w W → Fs W v l) (hl : l.length ≤ 1000) (hz : ∀ f ∈ l, f.1.size ≤ 20000 ∧ f.2.size ≤ 20000) (hsum : sumF l ≤ 100000) (ht : T.tot + l.length ≤ 1000000) :
    Calls Try.prog 13 #[.pointer (some ⟨q, 0, none⟩), v] w fun e w' => ∃ v', (e = .returned v' ∧ OwB w' w.heap.size v' (encB le T l)) ∧ Up B (Ep q p (encL T l).2 none) w' ∧ Below B w w' ∧ RowB w w' :=
  Up.call (R := fun v' e w' => e = .returned v' ∧ OwB w' w.heap.size v' (encB le T l)) (X' := fun _ => Ep q p (encL T l).2 none) (Ex.ep _ _ _ _) (Wd.ep _ _ _ _) h hB (Below.refl _ _) (pe_enc hm hc (fun S W hs hf => hv W (hf.below hB (Cn.ge hs))) hl hz hsum ht)
end
end Go.Proofs.Ythnaapjefedalaa

/-
  The document's decoder as a word; its making.
-/
namespace Go.Proofs.Ythnaapjefedalaa
open Go.RowKit Go.Maps
set_option linter.unusedVariables false

/-- The cells of the document's decoder. -/
def dF (t mx : Nat) (mu bd : Bool) (i : Nat) : Value := if i = 0 then .pointer (some ⟨t, 0, none⟩) else if i = 1 then .int .i64 (mx : Int) else if i = 2 then .bool mu else .bool bd
/-- The document's decoder behind the pointer to block q, its table at block t. -/
def Dc (q t : Nat) (T : Tab) (mx : Nat) (mu bd : Bool) (w : World) (S : Nat → Prop) : Prop :=
  ∃ S', w.rowIs q 51 4 (dF t mx mu bd) ∧ Rt t T w S' ∧ ¬ S' q ∧ (∀ k, S k ↔ S' k ∨ k = q) ∧ q < w.heap.size
section
variable {q t : Nat} {T : Tab} {mx : Nat} {mu bd : Bool} {w w' : World} {S : Nat → Prop}
theorem Dc.ok (h : Dc q t T mx mu bd w S) : T.ok := by obtain ⟨_, _, h, _⟩ := h; exact h.ok
theorem Dc.lt (h : Dc q t T mx mu bd w S) : ∀ k, S k → k < w.heap.size := by
  obtain ⟨S', h1, h2, h3, h4, h5⟩ := h
  intro k hk
  rcases (h4 k).1 hk with h | rfl
  · exact h2.lt k h
  · exact h5
theorem Dc.kept (h : Dc q t T mx mu bd w S) (hs : w.heap.size ≤ w'.heap.size) (hb : ∀ k, S k → w'.heap[k]? = w.heap[k]?) : Dc q t T mx mu bd w' S := by
  obtain ⟨S', h1, h2, h3, h4, h5⟩ := h
  exact ⟨S', h1.of_block (hb _ ((h4 q).2 (.inr rfl))), h2.kept hs (fun k hk => hb k ((h4 k).2 (.inl hk))), h3, h4, by omega⟩
theorem Dc.keep (h : Dc q t T mx mu bd w S) (hb : Below w.heap.size w w') : Dc q t T mx mu bd w' S := h.kept hb.size fun k hk => hb.block k (h.lt k hk)
theorem Dc.besides {S' : Nat → Prop} (h : Dc q t T mx mu bd w S) (hf : Fp S' w w') (hd : ∀ k, S k → ¬ S' k) : Dc q t T mx mu bd w' S := h.kept hf.size fun k hk => hf.block k (h.lt k hk) (hd k hk)
theorem Dc.cells (h : Dc q t T mx mu bd w S) : w.cell? ⟨q, 0, none⟩ = some (.pointer (some ⟨t, 0, none⟩)) ∧ w.cell? ⟨q, 1, none⟩ = some (.int .i64 (mx : Int)) ∧ w.cell? ⟨q, 2, none⟩ = some (.bool mu) ∧ w.cell? ⟨q, 3, none⟩ = some (.bool bd) := by
  obtain ⟨S', h1, _⟩ := h
  exact ⟨h1.cell (by omega), h1.cell (by omega), h1.cell (by omega), h1.cell (by omega)⟩
theorem Dc.setMax (h : Dc q t T mx mu bd w S) (n : Nat) : Turn (Dc q t T n mu bd) S w (w.setCell ⟨q, 1, none⟩ (.int .i64 (n : Int))) := by
  have hd := h
  obtain ⟨S', h1, h2, h3, h4, h5⟩ := h
  have hf : Fp (fun k => k = q) w (w.setCell ⟨q, 1, none⟩ (.int .i64 (n : Int))) := Fp.set _ _ _ _ rfl
  exact ⟨S, ⟨S', (h1.set 1 _).congr (fun j hj => by unfold dF; match j, hj with | 0, _ => rfl | 1, _ => rfl | 2, _ => rfl | 3, _ => rfl), h2.besides hf (fun k hk e => h3 (e ▸ hk)), h3, h4, by simp [World.setCell]; exact h5⟩, fun k hk => .inl hk, hf.mono fun k hk => (h4 k).2 (.inr hk)⟩
theorem Dc.setMust (h : Dc q t T mx mu bd w S) (b : Bool) : Turn (Dc q t T mx b bd) S w (w.setCell ⟨q, 2, none⟩ (.bool b)) := by
  obtain ⟨S', h1, h2, h3, h4, h5⟩ := h
  have hf : Fp (fun k => k = q) w (w.setCell ⟨q, 2, none⟩ (.bool b)) := Fp.set _ _ _ _ rfl
  exact ⟨S, ⟨S', (h1.set 2 _).congr (fun j hj => by unfold dF; match j, hj with | 0, _ => rfl | 1, _ => rfl | 2, _ => rfl | 3, _ => rfl), h2.besides hf (fun k hk e => h3 (e ▸ hk)), h3, h4, by simp [World.setCell]; exact h5⟩, fun k hk => .inl hk, hf.mono fun k hk => (h4 k).2 (.inr hk)⟩
theorem Dc.setBad (h : Dc q t T mx mu bd w S) (b : Bool) : Turn (Dc q t T mx mu b) S w (w.setCell ⟨q, 3, none⟩ (.bool b)) := by
  obtain ⟨S', h1, h2, h3, h4, h5⟩ := h
  have hf : Fp (fun k => k = q) w (w.setCell ⟨q, 3, none⟩ (.bool b)) := Fp.set _ _ _ _ rfl
  exact ⟨S, ⟨S', (h1.set 3 _).congr (fun j hj => by unfold dF; match j, hj with | 0, _ => rfl | 1, _ => rfl | 2, _ => rfl | 3, _ => rfl), h2.besides hf (fun k hk e => h3 (e ▸ hk)), h3, h4, by simp [World.setCell]; exact h5⟩, fun k hk => .inl hk, hf.mono fun k hk => (h4 k).2 (.inr hk)⟩
/-- Its table turns. -/
theorem Dc.tab {T' : Tab} (h : Dc q t T mx mu bd w S) (ht : ∀ S', Rt t T w S' → Turn (Rt t T') S' w w') : Turn (Dc q t T' mx mu bd) S w w' := by
  obtain ⟨S', h1, h2, h3, h4, h5⟩ := h
  obtain ⟨S2, r2, s2, f2⟩ := ht S' h2
  have hsz := f2.size
  refine ⟨fun k => S2 k ∨ k = q, ⟨S2, h1.of_block (f2.block q h5 h3), r2, fun hq => ?_, fun k => Iff.rfl, by omega⟩, fun k hk => ?_, f2.mono fun k hk => (h4 k).2 (.inl hk)⟩
  · rcases s2 q hq with h | h
    · exact h3 h
    · omega
  · rcases hk with hk | rfl
    · rcases s2 k hk with h | h
      · exact .inl ((h4 k).2 (.inl h))
      · exact .inr h
    · exact .inl ((h4 k).2 (.inr rfl))
end

set_option maxRecDepth 100000 in
set_option maxHeartbeats 1000000 in
theorem newDecoder_any (n : Int) (w : World) :
    Calls Try.prog 11 #[.int .i64 n] w fun e w' => ∃ q t S, e = .returned (.pointer (some ⟨q, 0, none⟩)) ∧ Dc q t (Tab.new (clampN n : Int)) (clampN n) false false w' S ∧ (∀ k, S k → w.heap.size ≤ k) ∧ Below w.heap.size w w' := by
  have hle := clampN_le n
  have HC := Bx.mk (clampD_any n)
  have HN := Bx.mk (fun W => newTable_any (clampN n : Int) W (by omega))
  generalize clampN n = c at HC HN hle ⊢
  go_enter Try.func11, Try.ntmps11
  go_wp2_with (first
    | (go_at_call 30; refine (HC.out _).mono ?_; rintro e w1 ⟨rfl, rfl⟩)
    | (go_at_call 29; refine (HN.out _).mono ?_; rintro e w1 ⟨t, S, rfl, hrt, hS, hb⟩; have hsz := hb.size))
  go_ret
  have hrow := World.rowIs_alloc w1 #[.pointer (some ⟨t, 0, none⟩), .int .i64 (c : Int), .bool false, .bool false] 51 (dF t c false false) (fun j hj => by
    have : j < 4 := hj
    unfold dF
    match j, this with
    | 0, _ => rfl
    | 1, _ => rfl
    | 2, _ => rfl
    | 3, _ => rfl)
  have hn : Below w1.heap.size w1 (w1.alloc (.cells #[.pointer (some ⟨t, 0, none⟩), .int .i64 (c : Int), .bool false, .bool false] 51)) := (Below.refl _ _).alloc (Nat.le_refl _) _
  exact ⟨w1.heap.size, t, fun k => S k ∨ k = w1.heap.size, rfl, ⟨S, hrow, hrt.keep hn, fun h => by have := hrt.lt _ h; omega, fun k => Iff.rfl, by simp⟩, fun k hk => by rcases hk with h | rfl; exact hS k h; exact hsz, hb.trans (hn.mono hsz)⟩

end Go.Proofs.Ythnaapjefedalaa

/-
  Contracts of the document's Limit and bad.
-/
namespace Go.Proofs.Ythnaapjefedalaa
open Go.RowKit Go.Maps
set_option linter.unusedVariables false

section
variable {q t : Nat} {T : Tab} {mx : Nat} {mu bd : Bool} {w w' : World} {S : Nat → Prop}
theorem Dc.free (h : Dc q t T mx mu bd w S) (i : Nat) : w.frozen? ⟨q, i, none⟩ = false := by
  obtain ⟨S', h1, _⟩ := h
  exact h1.frozen i
theorem Dc.tcells (h : Dc q t T mx mu bd w S) : w.cell? ⟨t, 1, none⟩ = some (.int .i64 (T.cap : Int)) ∧ w.cell? ⟨t, 2, none⟩ = some (.int .u64 (T.tot : Int)) := by
  obtain ⟨S', h1, h2, _⟩ := h
  obtain ⟨v, _, c1, c2, _⟩ := h2.cells
  exact ⟨c1, c2⟩

set_option maxRecDepth 100000 in
set_option maxHeartbeats 1000000 in
theorem bad_any (h : Dc q t T mx mu bd w S) :
    Calls Try.prog 40 #[.pointer (some ⟨q, 0, none⟩)] w fun e w' => e = .returned (.tuple #[.slice none 0 0, .int .i64 26]) ∧ Turn (Dc q t T mx mu true) S w w' := by
  have HT := Bx.mk (h.setBad true)
  obtain ⟨c0, c1, c2, c3⟩ := h.cells
  have f3 := h.free 3
  clear h
  go_enter Try.func40, Try.ntmps40
  go_wp2
  go_ret2
  exact ⟨rfl, HT.out⟩
/-- What a limit makes of the table. -/
def limT (T : Tab) (n : Nat) : Tab := if n < T.cap then T.resize (n : Int) else T

end

end Go.Proofs.Ythnaapjefedalaa
