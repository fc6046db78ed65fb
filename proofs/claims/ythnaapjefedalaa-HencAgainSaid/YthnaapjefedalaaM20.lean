/-
  Texts put together: StK, HfG.
-/
import Derived.Test.YthnaapjefedalaaM16
import Derived.Deep.QuietTactic
import Derived.BigQuiet
import Derived.Test.YthnaapjefedalaaM04
import Derived.Test.YthnaapjefedalaaM19
import Derived.Deep.RegionHeld

/-
  Contract of the document's FindIn.
-/
namespace Go.Proofs.Ythnaapjefedalaa
open Go.RowKit
set_option linter.unusedVariables false

def findV (l : List Fd) (f : Fd) : Value := .tuple #[.int .i64 ((findS l f).1 : Int), .bool (findS l f).2.1, .bool (findS l f).2.2]

theorem findS_lt (l : List Fd) (f : Fd) : (∃ m q, m < l.length ∧ findS l f = (m, true, q)) ∨ findS l f = (0, false, false) := by
  unfold findS
  split
  · rename_i m h
    exact .inl ⟨m, true, (List.findIdx?_eq_some_iff_getElem.1 h).1, rfl⟩
  · split
    · rename_i m h
      exact .inl ⟨m, false, (List.findIdx?_eq_some_iff_getElem.1 h).1, rfl⟩
    · exact .inr rfl

set_option maxRecDepth 100000 in
set_option maxHeartbeats 2000000 in
theorem findIn_any (v : Value) (l : List Fd) (f : Fd) (w : World) (hv : Fs w v l) (hl : l.length ≤ 1000) (hn : l.Nodup) :
    Calls Try.prog 35 #[v, .agg #[.string f.1, .string f.2]] w fun e w' => e = .returned (findV l f) ∧ Below w.heap.size w w' := by
  have HN := Bx.mk hn
  obtain ⟨f1, f2⟩ := f
  have HB1 := Bx.mk ((Below.refl w.heap.size w).alloc (Nat.le_refl _) (.cells #[.string f1, .string f2] 58))
  have HF1 := Bx.mk (Fb.new 58 w (f1, f2))
  have HV1 := Bx.mk (hv.keep HB1.out)
  have hlen := fun ty W => hv.run_len ty W
  clear hv hn
  go_enter Try.func35, Try.ntmps35
  go_wp2
  go_loopg [7] l.length (fun n s7 wx => ∃ k : Nat, k + n = l.length ∧ s7 = .int .i64 k ∧ Bx (∀ j (hj : j < k) (hjl : j < l.length), l[j] ≠ (f1, f2)) ∧ Bx (Below (w.heap.size + 1) (w.alloc (.cells #[.string f1, .string f2] 58)) wx))
  case atStart => exact ⟨0, by omega, rfl, ⟨fun j hj => absurd hj (Nat.not_lt_zero _)⟩, ⟨Below.refl _ _⟩⟩
  case round =>
    obtain ⟨k, hkg, rfl, HP, HB⟩ := hrel
    have HFW := Bx.mk (HF1.out.below HB.out (by omega))
    have HVW := Bx.mk (HV1.out.keep (HB.out.mono (by simp)))
    cases gk with
    | zero =>
      obtain rfl : k = l.length := by omega
      have HNO := Bx.mk (fun j (hj : j < l.length) => HP.out j hj hj)
      clear HP
      go_wp2
      go_loopg [8] l.length (fun n s8 wx => ∃ k : Nat, k + n = l.length ∧ s8 = .int .i64 k ∧ Bx (∀ j (hj : j < k) (hjl : j < l.length), l[j].1 ≠ f1) ∧ Bx (Below (w.heap.size + 1) (w.alloc (.cells #[.string f1, .string f2] 58)) wx))
      case atStart => exact ⟨0, by omega, rfl, ⟨fun j hj => absurd hj (Nat.not_lt_zero _)⟩, HB⟩
      case round =>
        clear HFW HVW HB hkg
        obtain ⟨k, hkg, rfl, HP, HB⟩ := hrel
        have HFW := Bx.mk (HF1.out.below HB.out (by omega))
        have HVW := Bx.mk (HV1.out.keep (HB.out.mono (by simp)))
        cases gk with
        | zero =>
          obtain rfl : k = l.length := by omega
          go_wp2
          go_ret3
          exact ⟨by unfold findV; rw [findS_none (fun j hj => HP.out j hj hj)]; rfl, HB1.out.trans (HB.out.mono (by omega))⟩
        | succ n =>
          have hk : k < l.length := by omega
          obtain ⟨b, o, hix, hcs⟩ := HVW.out.at_ k hk
          obtain ⟨hc1, hc2⟩ := hcs _ HVW.out
          obtain ⟨hca, hcb⟩ := HFW.out.cells
          have HK := Bx.mk hk
          obtain ⟨g1, hf1⟩ : ∃ g1, l[k].1 = g1 := ⟨_, rfl⟩
          rw [hf1] at hc1
          have HG := Bx.mk hf1
          clear hcs hc2 hf1
          by_cases he : g1 = f1
          · have hd := str_beq_trueS he
            have HE := Bx.mk he
            clear he
            go_wp2
            go_region
            all_goals go_wp2
            all_goals go_ret3
            all_goals exact ⟨by unfold findV; rw [findS_named HNO.out HK.out (by rw [HG.out, HE.out]) (fun j hj => HP.out j hj (by have := HK.out; omega))]; rfl, HB1.out.trans ((HB.out.trans (Below.refl _ _).drew).mono (by omega))⟩
          · have hd := str_beq_falseS he
            have HE := Bx.mk he
            clear he
            go_wp2
            go_region
            all_goals go_wp2
            all_goals go_roundg n
            all_goals first
              | omega
              | exact ⟨k + 1, by omega, by go_num, ⟨fun j hj hjl => by
                  rcases Nat.lt_or_ge j k with h1 | h1
                  · exact HP.out j h1 hjl
                  · obtain rfl : j = k := by omega
                    rw [HG.out]; exact HE.out⟩, ⟨HB.out.drew⟩⟩
    | succ n =>
      have hk : k < l.length := by omega
      obtain ⟨b, o, hix, hcs⟩ := HVW.out.at_ k hk
      obtain ⟨hc1, hc2⟩ := hcs wr HVW.out
      obtain ⟨hca, hcb⟩ := HFW.out.cells
      have HK := Bx.mk hk
      obtain ⟨g1, hf1⟩ : ∃ g1, l[k].1 = g1 := ⟨_, rfl⟩
      obtain ⟨g2, hf2⟩ : ∃ g2, l[k].2 = g2 := ⟨_, rfl⟩
      rw [hf1] at hc1
      rw [hf2] at hc2
      have HG := Bx.mk (show l[k] = (g1, g2) by rw [← hf1, ← hf2])
      clear hcs hf1 hf2
      have HIN := Bx.mk (fun (e : l[k] = (f1, f2)) => findS_at HN.out hk e)
      by_cases he1 : g1 = f1
      · subst he1
        by_cases he2 : g2 = f2
        · subst he2
          go_wp2
          go_region
          all_goals go_wp2
          all_goals go_ret3
          all_goals exact ⟨by unfold findV; rw [HIN.out HG.out]; rfl, HB1.out.trans ((HB.out.trans (Below.refl _ _).drew).mono (by omega))⟩
        · have hd : ¬ g2.toList = f2.toList := fun e => he2 (str_eqS _ _ e)
          have HE := Bx.mk he2
          clear he2
          go_wp2
          go_region
          all_goals go_wp2
          all_goals go_roundg n
          all_goals first
            | omega
            | exact ⟨k + 1, by omega, by go_num, ⟨fun j hj hjl => by
                rcases Nat.lt_or_ge j k with h1 | h1
                · exact HP.out j h1 hjl
                · obtain rfl : j = k := by omega
                  rw [HG.out]; exact fun e => HE.out (Prod.mk.inj e).2⟩, ⟨HB.out.drew⟩⟩
      · have hd : ¬ g1.toList = f1.toList := fun e => he1 (str_eqS _ _ e)
        have HE := Bx.mk he1
        clear he1
        go_wp2
        go_region
        all_goals go_wp2
        all_goals go_roundg n
        all_goals first
          | omega
          | exact ⟨k + 1, by omega, by go_num, ⟨fun j hj hjl => by
              rcases Nat.lt_or_ge j k with h1 | h1
              · exact HP.out j h1 hjl
              · obtain rfl : j = k := by omega
                rw [HG.out]; exact fun e => HE.out (Prod.mk.inj e).1⟩, ⟨HB.out.drew⟩⟩

end Go.Proofs.Ythnaapjefedalaa

/-
  Contract of the encoder's place.
-/
namespace Go.Proofs.Ythnaapjefedalaa
open Go.RowKit Go.Maps
set_option linter.unusedVariables false

/-- The index that a field has, or its name has; 0: none. -/
def pixT (T : Tab) (f : Fd) : Nat := if (findS T2 f).2.2 then (findS T2 f).1 + 1 else if (findT T.l T.first f).2.2 then dixT T f else nixT T f
def pwhT (T : Tab) (f : Fd) : Bool := (findS T2 f).2.2 || (findT T.l T.first f).2.2
theorem pixT_lt {T : Tab} (h : T.tot ≤ 1000000) (f : Fd) : pixT T f ≤ 1000061 := by
  have h1 := dixT_le (T := T) f
  have h2 := nixT_le (T := T) f
  unfold pixT
  split
  · rename_i hs
    obtain ⟨hi, _⟩ := findS_both hs
    have := t2_len
    omega
  · split <;> omega
theorem findT_cases (l : List Fd) (b : Nat) (f : Fd) : (∃ a, findT l b f = (a, true, true) ∧ b ≤ a ∧ a < b + l.length) ∨ (∃ a, findT l b f = (a, true, false) ∧ b ≤ a ∧ a < b + l.length) ∨ findT l b f = (0, false, false) := by
  unfold findT
  cases h1 : nw (hasF f) b l with
  | some a => exact .inl ⟨a, rfl, nw_bound _ _ _ _ h1⟩
  | none =>
    cases h2 : nw (hasN f.1) b l with
    | some a => exact .inr (.inl ⟨a, rfl, nw_bound _ _ _ _ h2⟩)
    | none => exact .inr (.inr rfl)

section
variable {q p : Nat} {T T' : Tab} {le : Option Nat} {w w' : World} {S : Nat → Prop}
set_option maxRecDepth 100000 in
set_option maxHeartbeats 4000000 in
theorem place_any (h : Ep q p T le w S) (f : Fd) (hf : fsz f ≤ 1000000) :
    Calls Try.prog 51 #[.pointer (some ⟨q, 0, none⟩), .agg #[.string f.1, .string f.2]] w fun e w' => e = .returned (.tuple #[.int .u64 (pixT T f : Int), .bool (pwhT T f)]) ∧ Below w.heap.size w w' := by
  have hok := h.ok
  have hlen := hok.len
  have htot := hok.tot
  have hszS : SizedS f := by unfold fsz at hf; unfold SizedS maxLen; omega
  have hszD : Sized f := by unfold fsz at hf; unfold Sized maxLen; omega
  have HS2 := Bx.mk (fun W => findH2_any f W hszS)
  have HEP := Bx.mk h
  have HTB : Bx (∃ S', Tb p T w S') := ⟨by obtain ⟨a, b, _, S', _, h2, _⟩ := h; exact ⟨S', h2⟩⟩
  have HFD : Bx (∀ W, Below w.heap.size w W → Calls Try.prog 69 #[.pointer (some ⟨p, 0, none⟩), .agg #[.string f.1, .string f.2]] W fun e w' => e = .returned (find3 (findT T.l T.first f)) ∧ Below W.heap.size W w') := ⟨fun W hW => by
    obtain ⟨S', h2⟩ := HTB.out
    exact find_any (h2.keep hW) f hszD⟩
  have HCT : Bx (∀ W, Below w.heap.size w W → Calls Try.prog 17 #[.pointer (some ⟨p, 0, none⟩)] W fun e w' => e = .returned (.int .u64 (T.tot : Int)) ∧ Below W.heap.size W w') := ⟨fun W hW => by
    obtain ⟨S', h2⟩ := HTB.out
    exact count_any (h2.keep hW)⟩
  have HPT : Bx (∀ W, Below w.heap.size w W → W.cell? ⟨q, 0, none⟩ = some (.pointer (some ⟨p, 0, none⟩))) := ⟨fun W hW => ((Wd.ep q p T le).keep HEP.out hW).ptr⟩
  obtain ⟨wh, hwh⟩ : ∃ wh, pwhT T f = wh := ⟨_, rfl⟩
  obtain ⟨ix, hix⟩ : ∃ ix, pixT T f = ix := ⟨_, rfl⟩
  rw [hwh, hix]
  have HWH := Bx.mk hwh
  have HIX := Bx.mk hix
  unfold pwhT at hwh
  unfold pixT nixT dixT at hix
  unfold findP at HS2
  have hft := findT_cases T.l T.first f
  have hfs := findS_lt T2 f
  rw [t2_len] at hfs
  obtain ⟨FT, hFT⟩ : ∃ FT, findT T.l T.first f = FT := ⟨_, rfl⟩
  obtain ⟨FS, hFS⟩ : ∃ FS, findS T2 f = FS := ⟨_, rfl⟩
  rw [hFT] at hft hwh hix HFD
  rw [hFS] at hfs hwh hix HS2
  have HB1 := Bx.mk ((Below.refl w.heap.size w).alloc (Nat.le_refl _) (.cells #[.string f.1, .string f.2] 58))
  have HF1 := Bx.mk (Fb.new 58 w f)
  obtain ⟨f1, f2⟩ := f
  obtain ⟨hca, hcb⟩ := HF1.out.cells
  have hfirst : T.first + T.l.length = T.tot := by unfold Tab.first; omega
  obtain ⟨tot, htt⟩ : ∃ tot, T.tot = tot := ⟨_, rfl⟩
  rw [htt] at hix htot hfirst HCT
  obtain ⟨L, hL⟩ : ∃ L, T.l.length = L := ⟨_, rfl⟩
  obtain ⟨b0, hb0⟩ : ∃ b0, T.first = b0 := ⟨_, rfl⟩
  rw [hL, hb0] at hfirst hft
  have HTOT := Bx.mk (show tot ≤ 1000000 ∧ b0 + L = tot from ⟨htot, hfirst⟩)
  clear h hok hlen htot hszS hszD hFT hFS hf hfirst htt hL hb0
  have hkey : (∃ m, FS = (m, true, true)) ∨ ∃ (i0 : Nat) (nm : Bool), (if FS.2.1 = true then Value.tuple #[.int .u64 ((1 + FS.1 : Nat) : Int), .bool true, .bool FS.2.2] else .tuple #[.int .u64 0, .bool false, .bool false]) = .tuple #[.int .u64 (i0 : Int), .bool nm, .bool false] ∧
      FS.2.2 = false ∧ (if FS.2.1 = true then FS.1 + 1 else if FT.2.1 = true then 61 + tot - FT.1 else 0) = (if nm = true then i0 else if FT.2.1 = true then 61 + tot - FT.1 else 0) ∧ (nm = false → i0 = 0) ∧ i0 ≤ 61 := by
    rcases hfs with ⟨m, wq, hm, rfl⟩ | rfl
    · cases wq with
      | true => exact .inl ⟨m, rfl⟩
      | false => exact .inr ⟨m + 1, true, by simp; omega, rfl, by simp, by simp, by omega⟩
    · exact .inr ⟨0, false, rfl, rfl, rfl, fun _ => rfl, by omega⟩
  clear hfs
  rcases hkey with ⟨m, rfl⟩ | ⟨i0, nm, k1, k2, k3, k4, k5⟩
  · simp at hwh hix
    subst hwh; subst hix
    simp only [if_true] at HS2
    have e1 : ((1 + m : Nat) : Int) = ((m + 1 : Nat) : Int) := by omega
    rw [e1] at HS2
    clear e1 hft
    go_enter Try.func51, Try.ntmps51
    go_wp2_with fail
    refine (HS2.out _).mono ?_
    rintro e w1 ⟨rfl, b1⟩
    have HB2 := Bx.mk (HB1.out.trans (b1.mono HB1.out.size))
    clear b1 hca hcb
    go_wp2_with fail
    go_ret2
    exact ⟨rfl, HB2.out⟩
  · rw [k1] at HS2
    simp only [k2, Bool.false_or, Bool.false_eq_true, if_false] at hwh hix
    rw [k3] at hix
    clear k1 k2 k3
    have HK := Bx.mk (show (nm = false → i0 = 0) ∧ i0 ≤ 61 from ⟨k4, k5⟩)
    clear k4 k5
    go_enter Try.func51, Try.ntmps51
    go_wp2_with fail
    refine (HS2.out _).mono ?_
    rintro e w1 ⟨rfl, b1⟩
    have HB2 := Bx.mk (HB1.out.trans (b1.mono HB1.out.size))
    have HF2 := Bx.mk (HF1.out.keep b1)
    clear b1 hca hcb HB1 HF1 HS2
    obtain ⟨hca, hcb⟩ := HF2.out.cells
    have hq0 := HPT.out w1 HB2.out
    have hS0 : w1.drew.cell? ⟨q, 0, none⟩ = some (.pointer (some ⟨p, 0, none⟩)) ∧ w1.drew.cell? ⟨w.heap.size, 0, none⟩ = some (.string f1) ∧ w1.drew.cell? ⟨w.heap.size, 1, none⟩ = some (.string f2) := ⟨hq0, hca, hcb⟩
    have HBD := Bx.mk (HB2.out.drew)
    rcases hft with ⟨a, rfl, h1, h2⟩ | ⟨a, rfl, h1, h2⟩ | rfl
    · simp only [if_true] at hwh hix
      subst hwh
      have HA := Bx.mk (show a < tot from by have := HTOT.out; omega)
      clear h1 h2
      have HFD2 : Bx (∀ W, Below w.heap.size w W → Calls Try.prog 69 #[.pointer (some ⟨p, 0, none⟩), .agg #[.string f1, .string f2]] W fun e w' => e = .returned (.tuple #[.int .u64 (a : Int), .bool true, .bool true]) ∧ Below W.heap.size W w') := HFD
      clear HFD
      go_wp2_with fail
      go_region_held (fun W => W.cell? ⟨q, 0, none⟩ = some (.pointer (some ⟨p, 0, none⟩)) ∧ W.cell? ⟨w.heap.size, 0, none⟩ = some (.string f1) ∧ W.cell? ⟨w.heap.size, 1, none⟩ = some (.string f2)) (first | assumption) (first
        | (go_at_call 69; refine (HFD2.out _ ?_).mono ?_; (with_reducible exact HBD.out); rintro e w3 ⟨rfl, b3⟩; have HB3 := Bx.mk (HBD.out.trans (b3.mono HBD.out.size)); have hq3 := HPT.out w3 HB3.out; have HF3 := Bx.mk ((HF2.out.keep (Below.refl _ _).drew).keep b3); have hS3 : w3.cell? ⟨q, 0, none⟩ = some (.pointer (some ⟨p, 0, none⟩)) ∧ w3.cell? ⟨w.heap.size, 0, none⟩ = some (.string f1) ∧ w3.cell? ⟨w.heap.size, 1, none⟩ = some (.string f2) := ⟨hq3, HF3.out.cells⟩))
      clear hS0 hca hcb hq0
      go_wp2_with fail
      refine (HCT.out _ HB3.out).mono ?_
      rintro e w4 ⟨rfl, b4⟩
      have HB4 := Bx.mk (HB3.out.trans (b4.mono HB3.out.size))
      have hx : IntKind.u64.wrap (IntKind.u64.wrap (IntKind.u64.wrap (62 + (tot : Int)) - 1) - (a : Int)) = (ix : Int) := by have := HTOT.out; have := HA.out; rw [IntKind.wrap_u64, IntKind.wrap_u64, IntKind.wrap_u64]; omega
      clear b4
      go_wp2_with fail
      go_ret2
      exact ⟨rfl, HB4.out⟩
    · simp only [Bool.false_eq_true, if_false, if_true] at hwh hix
      subst hwh
      have HA := Bx.mk (show a < tot from by have := HTOT.out; omega)
      clear h1 h2
      have HFD2 : Bx (∀ W, Below w.heap.size w W → Calls Try.prog 69 #[.pointer (some ⟨p, 0, none⟩), .agg #[.string f1, .string f2]] W fun e w' => e = .returned (.tuple #[.int .u64 (a : Int), .bool true, .bool false]) ∧ Below W.heap.size W w') := HFD
      clear HFD
      cases nm with
      | false =>
        simp only [Bool.false_eq_true, if_false] at hix
        go_wp2_with fail
        go_region_held (fun W => W.cell? ⟨q, 0, none⟩ = some (.pointer (some ⟨p, 0, none⟩)) ∧ W.cell? ⟨w.heap.size, 0, none⟩ = some (.string f1) ∧ W.cell? ⟨w.heap.size, 1, none⟩ = some (.string f2)) (first | assumption) (first
          | (go_at_call 69; refine (HFD2.out _ ?_).mono ?_; (with_reducible exact HBD.out); rintro e w3 ⟨rfl, b3⟩; have HB3 := Bx.mk (HBD.out.trans (b3.mono HBD.out.size)); have hq3 := HPT.out w3 HB3.out; have HF3 := Bx.mk ((HF2.out.keep (Below.refl _ _).drew).keep b3); have hS3 : w3.cell? ⟨q, 0, none⟩ = some (.pointer (some ⟨p, 0, none⟩)) ∧ w3.cell? ⟨w.heap.size, 0, none⟩ = some (.string f1) ∧ w3.cell? ⟨w.heap.size, 1, none⟩ = some (.string f2) := ⟨hq3, HF3.out.cells⟩))
        clear hS0 hca hcb hq0
        go_wp2_with fail
        refine (HCT.out _ HB3.out).mono ?_
        rintro e w4 ⟨rfl, b4⟩
        have HB4 := Bx.mk (HB3.out.trans (b4.mono HB3.out.size))
        have hx : IntKind.u64.wrap (IntKind.u64.wrap (IntKind.u64.wrap (62 + (tot : Int)) - 1) - (a : Int)) = (ix : Int) := by have := HTOT.out; have := HA.out; rw [IntKind.wrap_u64, IntKind.wrap_u64, IntKind.wrap_u64]; omega
        clear b4
        go_wp2_with fail
        go_ret2
        exact ⟨rfl, HB4.out⟩
      | true =>
        simp only [if_true] at hix
        subst hix
        go_wp2_with fail
        go_region_held (fun W => W.cell? ⟨q, 0, none⟩ = some (.pointer (some ⟨p, 0, none⟩)) ∧ W.cell? ⟨w.heap.size, 0, none⟩ = some (.string f1) ∧ W.cell? ⟨w.heap.size, 1, none⟩ = some (.string f2)) (first | assumption) (first
          | (go_at_call 69; refine (HFD2.out _ ?_).mono ?_; (with_reducible exact HBD.out); rintro e w3 ⟨rfl, b3⟩; have HB3 := Bx.mk (HBD.out.trans (b3.mono HBD.out.size)); have hq3 := HPT.out w3 HB3.out; have HF3 := Bx.mk ((HF2.out.keep (Below.refl _ _).drew).keep b3); have hS3 : w3.cell? ⟨q, 0, none⟩ = some (.pointer (some ⟨p, 0, none⟩)) ∧ w3.cell? ⟨w.heap.size, 0, none⟩ = some (.string f1) ∧ w3.cell? ⟨w.heap.size, 1, none⟩ = some (.string f2) := ⟨hq3, HF3.out.cells⟩))
        clear hS0 hca hcb hq0
        go_wp2_with fail
        go_ret2
        exact ⟨rfl, HB3.out⟩
    · simp only [Bool.false_eq_true, if_false] at hwh hix
      subst hwh
      obtain rfl : ix = i0 := by
        have := HK.out.1
        cases nm with
        | true => rw [← hix]; rfl
        | false => rw [← hix, this rfl]; rfl
      have HFD2 : Bx (∀ W, Below w.heap.size w W → Calls Try.prog 69 #[.pointer (some ⟨p, 0, none⟩), .agg #[.string f1, .string f2]] W fun e w' => e = .returned (.tuple #[.int .u64 0, .bool false, .bool false]) ∧ Below W.heap.size W w') := HFD
      clear HFD
      go_wp2_with fail
      go_region_held (fun W => W.cell? ⟨q, 0, none⟩ = some (.pointer (some ⟨p, 0, none⟩)) ∧ W.cell? ⟨w.heap.size, 0, none⟩ = some (.string f1) ∧ W.cell? ⟨w.heap.size, 1, none⟩ = some (.string f2)) (first | assumption) (first
        | (go_at_call 69; refine (HFD2.out _ ?_).mono ?_; (with_reducible exact HBD.out); rintro e w3 ⟨rfl, b3⟩; have HB3 := Bx.mk (HBD.out.trans (b3.mono HBD.out.size)); have hq3 := HPT.out w3 HB3.out; have HF3 := Bx.mk ((HF2.out.keep (Below.refl _ _).drew).keep b3); have hS3 : w3.cell? ⟨q, 0, none⟩ = some (.pointer (some ⟨p, 0, none⟩)) ∧ w3.cell? ⟨w.heap.size, 0, none⟩ = some (.string f1) ∧ w3.cell? ⟨w.heap.size, 1, none⟩ = some (.string f2) := ⟨hq3, HF3.out.cells⟩))
      clear hS0 hca hcb hq0
      go_wp2_with fail
      go_ret2
      exact ⟨rfl, HB3.out⟩
end
end Go.Proofs.Ythnaapjefedalaa
