/-
  Texts put together: StI, StE.
-/
import Derived.Test.YtebakjdeighdnaaGreatM01
import Derived.BigRegion
import Derived.Deep.RegionWith
import Derived.WalkArith

/-
  Contract of static.find.
-/
namespace Go.Proofs.YtebakjdeighdnaaGreat
open Go.RowKit Go.Maps
set_option linter.unusedVariables false

theorem zeroInt (w : World) : (zeroValue 3).run Tryz.prog w = .ok (.int .i64 0) w := by kernel_rfl

/-- What find answers. -/
def findP (l : List Fd) (fr : Nat) (f : Fd) : Value :=
  if (findS l f).2.1 then .tuple #[.int .u64 ((fr + (findS l f).1 : Nat) : Int), .bool true, .bool (findS l f).2.2] else .tuple #[.int .u64 0, .bool false, .bool false]

theorem PlD.at_ {l : List Fd} {D : DataW Unit} (h : PlD l l.length D) {f : Fd} (hf : SizedS f) {c : Int} (hc : D.atKey (kfS f) (.lit (.int .i64 0)) = .lit (.int .i64 c)) :
    (Maps.has D (kfS f) = true ∧ ∃ i, ∃ hi : i < l.length, l[i] = f ∧ c = (i : Int)) ∨ (Maps.has D (kfS f) = false ∧ ∀ j (hj : j < l.length), l[j] ≠ f) := by
  obtain ⟨h0, h1, h2⟩ := h
  have e := h1 f hf
  rw [List.take_length] at e
  cases hb : l.any (fun g => decide (g = f))
  · refine .inr ⟨e.trans hb, fun j hj he => ?_⟩
    have := List.any_eq_false.1 hb l[j] (List.getElem_mem hj)
    simp [he] at this
  · refine .inl ⟨e.trans hb, ?_⟩
    obtain ⟨g, hg, hgf⟩ := List.any_eq_true.1 hb
    obtain ⟨i, hi, rfl⟩ := List.getElem_of_mem hg
    have hgf : l[i] = f := by simpa using hgf
    refine ⟨i, hi, hgf, ?_⟩
    have h3 := h2 i hi hi
    rw [hgf, hc] at h3
    simpa using h3

theorem look_fact {l : List Fd} {D : DataW Unit} {w : World} {b n : Nat} (ho : w.ownsMap Tryz.prog 148 (plainElem Tryz.prog 3) b n D) (h : PlD l l.length D) {f : Fd} (hf : SizedS f) :
    ∃ (c : Int) (t : Bool), (Instr.lookup 165 (.map (some b)) (.agg #[.string f.1, .string f.2]) true).run Tryz.prog w = .ok (.tuple #[.int .i64 c, .bool t]) w ∧
      ((t = true ∧ ∃ i, ∃ hi : i < l.length, l[i] = f ∧ c = (i : Int)) ∨ (t = false ∧ ∀ j (hj : j < l.length), l[j] ≠ f)) := by
  obtain ⟨v, ps, hrun, hv⟩ := ho.look_ok rowLaw Tryz.underlying165 (zeroInt w) (plainElem_int Tryz.underlying3 (by decide)) (keyOf_fdS f hf)
  obtain ⟨c, rfl, hc, hw⟩ := plainElem_int_inv Tryz.underlying3 hv
  simp only [Prod.mk.injEq] at hc
  exact ⟨c, _, hrun, h.at_ hf hc.1⟩

theorem namedI_none {l : List Fd} {f : Fd} (h : l.findIdx? (fun g => decide (g.1 = f.1)) = none) : namedI l f = -1 ∧ findS l f = (0, false, false) := by
  constructor
  · unfold namedI; rw [h]
  · rw [List.findIdx?_eq_none_iff] at h
    exact findS_none fun j hj e => by have := h l[j] (List.getElem_mem hj); simp [e] at this
theorem namedI_some {l : List Fd} {f : Fd} {m : Nat} (h : l.findIdx? (fun g => decide (g.1 = f.1)) = some m) : namedI l f = (m : Int) ∧ m < l.length ∧ ((∀ j (hj : j < l.length), l[j] ≠ f) → findS l f = (m, true, false)) := by
  obtain ⟨hm, h1, h2⟩ := List.findIdx?_eq_some_iff_getElem.1 h
  refine ⟨by unfold namedI; rw [h], hm, fun hn => ?_⟩
  exact findS_named hn hm (by simpa using h1) fun j hj => by simpa using h2 j hj

set_option maxRecDepth 100000 in
set_option maxHeartbeats 1000000 in
theorem sfind_any (v : Value) (l : List Fd) (fr : Nat) (f : Fd) (w : World) (hv : Fs w v l) (hl : l.length ≤ 1000) (hn : l.Nodup) (hs : ∀ f ∈ l, SizedS f) (hfr : fr ≤ 1) (hf : SizedS f) :
    Calls Tryz.prog 83 #[v, .int .u64 (fr : Int), .agg #[.string f.1, .string f.2]] w fun e w' => e = .returned (findP l fr f) ∧ Below w.heap.size w w' := by
  have hmf : ∀ (fn : Fn) (first cap : Array Value) (w : World), (Instr.makeFunc fn first cap).run Tryz.prog w = .ok (.func fn first cap) w := fun _ _ _ _ => rfl
  have HV := Bx.mk hv
  have HL := Bx.mk hl
  have HN := Bx.mk hn
  have HS := Bx.mk hs
  have HSF := Bx.mk hf
  have HFR := Bx.mk hfr
  obtain ⟨f1, f2⟩ := f
  have HB1 := Bx.mk ((Below.refl w.heap.size w).alloc (Nat.le_refl _) (.cells #[.string f1, .string f2] 148))
  have HF1 := Bx.mk (Fb.new 148 w (f1, f2))
  have HV1 := Bx.mk (hv.keep HB1.out)
  clear hv hn hs hf hl hfr
  cases hi : l.findIdx? (fun g => decide (g.1 = (f1, f2).1)) with
  | none =>
    obtain ⟨h1, h2⟩ := namedI_none hi
    have H1 := Bx.mk h1
    have H2 := Bx.mk h2
    clear h1 h2 hi
    go_enter Tryz.func83, Tryz.ntmps83
    go_wp2_with fail
    refine (index_any v l (f1, f2) w.heap.size _ HV1.out HL.out HF1.out).mono ?_
    rintro e w2 ⟨rfl, hb⟩
    rw [H1.out]
    have HB2 := Bx.mk (HB1.out.trans (hb.mono HB1.out.size))
    clear hb
    go_wp2
    go_ret3
    exact ⟨by unfold findP; rw [H2.out]; rfl, HB2.out⟩
  | some m =>
    obtain ⟨h1, hm, h2⟩ := namedI_some hi
    have H1 := Bx.mk h1
    have H2 := Bx.mk h2
    have HM := Bx.mk hm
    have HK := Bx.mk (keyOf_fdS (f1, f2) HSF.out)
    clear h1 h2 hi hm
    go_enter Tryz.func83, Tryz.ntmps83
    go_wp2_with fail
    refine (index_any v l (f1, f2) w.heap.size _ HV1.out HL.out HF1.out).mono ?_
    rintro e w2 ⟨rfl, hb⟩
    rw [H1.out]
    have HB2 := Bx.mk (HB1.out.trans (hb.mono HB1.out.size))
    have HF2 := Bx.mk (HF1.out.below hb (by simp))
    have HV2 := Bx.mk (HV1.out.keep hb)
    obtain ⟨hca, hcb⟩ := HF2.out.cells
    clear hb
    go_wp2
    go_region_with (first
      | (go_at_call 106; refine (places_any v l _ (HV2.out.keep (Below.refl _ _).drew) HL.out HN.out HS.out).mono ?_; rintro e w3 ⟨D, rfl, ho3, hp3, hb3⟩; obtain ⟨hca3, hcb3⟩ := (HF2.out.keep ((Below.refl _ _).drew.trans hb3)).cells; obtain ⟨c, t, hlk, hat⟩ := look_fact (b := w2.heap.size) ho3 hp3 HSF.out))
    all_goals
      have HB3 := Bx.mk (HB2.out.trans (((Below.refl _ _).drew.trans hb3).mono HB2.out.size))
      clear hb3 hlk ho3 hp3 hca3 hcb3 hca hcb
      rcases hat with ⟨rfl, i, hi, hli, rfl⟩ | ⟨rfl, hno⟩
      · have HFS := Bx.mk (findS_at HN.out hi hli)
        have hwi : IntKind.u64.wrap (i : Int) = (i : Int) := by have := HL.out; simp [IntKind.wrap, IntKind.signed, IntKind.bits]; omega
        have hws : IntKind.u64.wrap ((fr : Int) + (i : Int)) = ((fr + i : Nat) : Int) := by have := HL.out; have := HFR.out; simp [IntKind.wrap, IntKind.signed, IntKind.bits]; omega
        clear hi hli
        go_wp2
        go_ret3
        exact ⟨by unfold findP; rw [HFS.out]; rfl, HB3.out⟩
      · have HFS := Bx.mk (H2.out hno)
        have hwi : IntKind.u64.wrap (m : Int) = (m : Int) := by have := HL.out; have := HM.out; simp [IntKind.wrap, IntKind.signed, IntKind.bits]; omega
        have hws : IntKind.u64.wrap ((fr : Int) + (m : Int)) = ((fr + m : Nat) : Int) := by have := HL.out; have := HFR.out; have := HM.out; simp [IntKind.wrap, IntKind.signed, IntKind.bits]; omega
        clear hno
        go_wp2
        go_ret3
        exact ⟨by unfold findP; rw [HFS.out]; rfl, HB3.out⟩

end Go.Proofs.YtebakjdeighdnaaGreat

/-
  Contracts of static.entry, the document's At.
-/
namespace Go.Proofs.YtebakjdeighdnaaGreat
open Go.RowKit
set_option linter.unusedVariables false


set_option maxRecDepth 100000 in
set_option maxHeartbeats 1000000 in
theorem refAt_any (v : Value) (l : List Fd) (i : Nat) (w : World) (hv : Fs w v l) (hl : l.length ≤ 1000) (hi : i < 18446744073709551616) :
    Calls Tryz.prog 62 #[v, .int .u64 (i : Int)] w fun e w' => e = .returned (.tuple #[aggF (entF l 0 i), .bool (isF l 0 i)]) ∧ Below w.heap.size w w' := by
  have HV := Bx.mk hv
  have HL := Bx.mk hl
  have HI := Bx.mk hi
  have hlen := fun ty W => hv.run_len ty W
  obtain ⟨e0, he0⟩ : ∃ e0, entF l 0 i = e0 := ⟨_, rfl⟩
  obtain ⟨b0, hb0⟩ : ∃ b0, isF l 0 i = b0 := ⟨_, rfl⟩
  rw [he0, hb0]
  have HE0 := Bx.mk he0
  have HB0 := Bx.mk hb0
  have hwl : IntKind.u64.wrap (l.length : Int) = (l.length : Int) := by have := HL.out; simp [IntKind.wrap, IntKind.signed, IntKind.bits]; omega
  clear hv he0 hb0
  by_cases h2 : l.length ≤ i
  · have hd2 : decide (l.length ≤ i) = true := by simp; omega
    obtain rfl : emp = e0 := by rw [← HE0.out]; unfold entF; rw [dif_neg (by omega)]
    obtain rfl : false = b0 := by rw [← HB0.out]; unfold isF; simp; omega
    clear h2 hi hl
    go_enter Tryz.func62, Tryz.ntmps62
    go_wp2
    exact bodyPost_ret (ret_field Tryz.results62 _ _ w.heap.size emp false rfl rfl (Fb.new _ w emp)) rfl ⟨rfl, (Below.refl _ _).alloc (Nat.le_refl _) _⟩
  · have hd2 : decide (l.length ≤ i) = false := by simp; omega
    have hlt : i < l.length := by omega
    obtain ⟨f1, hf1⟩ : ∃ f1, l[i].1 = f1 := ⟨_, rfl⟩
    obtain ⟨f2, hf2⟩ : ∃ f2, l[i].2 = f2 := ⟨_, rfl⟩
    obtain rfl : (f1, f2) = e0 := by rw [← HE0.out]; unfold entF; rw [dif_pos ⟨by omega, by omega⟩, ← hf1, ← hf2]; rfl
    obtain rfl : true = b0 := by rw [← HB0.out]; unfold isF; simp; omega
    obtain ⟨b, o, hix, hcs⟩ := HV.out.at_ i hlt
    have hB := (Below.refl w.heap.size w).alloc (Nat.le_refl _) (.cells #[.string ⟨#[]⟩, .string ⟨#[]⟩] 53)
    obtain ⟨hc1, hc2⟩ := hcs _ (HV.out.keep hB)
    rw [hf1] at hc1
    rw [hf2] at hc2
    clear h2 hi hl hcs hf1 hf2 hB hlt
    go_enter Tryz.func62, Tryz.ntmps62
    go_wp2
    exact bodyPost_ret (ret_field Tryz.results62 _ _ w.heap.size (f1, f2) true rfl rfl (Fb.new _ w (f1, f2))) rfl ⟨rfl, (Below.refl _ _).alloc (Nat.le_refl _) _⟩

end Go.Proofs.YtebakjdeighdnaaGreat
