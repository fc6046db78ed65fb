/-
  Texts put together: HfH, HfI, HfJ, Up, HkA, HgT, OpenB, HkB.
-/
import Derived.Test.YthnaapjefedalaaM20
import Derived.Test.YthnaapjefedalaaM14
import Derived.Deep.LoopGhost
import Derived.Test.YthnaapjefedalaaM04
import Derived.Test.YthnaapjefedalaaM15
import Derived.Test.YthnaapjefedalaaM01
import Derived.ProofKit
import Derived.OpenShut
import Derived.ShutString
import Derived.ChangeOld

/-
  Contract of the encoder's field.
-/
namespace Go.Proofs.Ythnaapjefedalaa
open Go.RowKit Go.Maps
set_option linter.unusedVariables false

theorem encF_pix (T : Tab) (f : Fd) : encF T f = if pwhT T f = true then (pre 128 7 (pixT T f), T)
    else if secN f.1 = true then (litW 16 4 (pixT T f) true f.1.data.toList f.2.data.toList, T)
    else if T.cap / 2 < fsz f + 32 then (litW 0 4 (pixT T f) true f.1.data.toList f.2.data.toList, T)
    else (litW 64 6 (pixT T f) true f.1.data.toList f.2.data.toList, T.add f) := by
  unfold encF pwhT pixT
  cases h1 : (findS T2 f).2.2 with
  | true => simp
  | false =>
    cases h2 : (findT T.l T.first f).2.2 with
    | true => simp
    | false => simp
theorem encF_cap (T : Tab) (f : Fd) : (encF T f).2.cap = T.cap := by
  rw [encF_pix]
  split
  · rfl
  · split
    · rfl
    · split
      · rfl
      · exact T.add_cap f

theorem fadd_any {q p G : Nat} {T : Tab} {le : Option Nat} {w : World} {S : Nat → Prop} {f : Fd} (h : Ep q p T le w S) (hf : Fb 58 w G f) (hG : ¬ S G) (w0 : World) (hw : w = w0.alloc (.cells #[.string f.1, .string f.2] 58)) (ht : T.tot + 1 ≤ 1000000) (hz : fsz f ≤ 1000000) (hn : ∀ k, S k → k < w0.heap.size) :
    Calls Try.prog 55 #[.pointer (some ⟨p, 0, none⟩), .slice (some ⟨w0.heap.size, 0, none⟩) 1 1] w fun e w' => (∃ r, e = .returned r) ∧ Turn (Ep q p (T.add f) le) S w w' ∧ Fb 58 w' G f ∧ w'.cell? ⟨q, 0, none⟩ = some (.pointer (some ⟨p, 0, none⟩)) := by
  obtain ⟨S', h2, h3, h4, h5⟩ := h.opens
  have hv : Fs w (.slice (some ⟨w0.heap.size, 0, none⟩) 1 1) [f] := by
    rw [hw]
    exact Fs.lits w0 #[.string f.1, .string f.2] [f] rfl (by simp)
  refine (add_any h2 hv (fun g hg => ?_) (by simpa using ht) (by simpa using hz)).mono ?_
  · simp only [Value.ownBlock, Option.some.injEq] at hg
    subst hg
    exact ⟨by rw [hw]; simp, fun hs => Nat.lt_irrefl _ (hn _ (h4 _ hs))⟩
  · rintro e w' ⟨rfl, hturn⟩
    have ht2 := h5 w' (T.add f) (T.add_cap f) hturn
    obtain ⟨S2, x, s, fp⟩ := ht2
    exact ⟨⟨_, rfl⟩, ⟨S2, x, s, fp⟩, hf.besides fp hG, x.ptr⟩

section
variable {q p : Nat} {T T' : Tab} {le : Option Nat} {w w' : World} {S : Nat → Prop}
set_option maxRecDepth 100000 in
set_option maxHeartbeats 4000000 in
theorem field_any (h : Ep q p T le w S) (f : Fd) (h1 : f.1.size ≤ 20000) (h2 : f.2.size ≤ 20000) (ht : T.tot + 1 ≤ 1000000) :
    Calls Try.prog 32 #[.pointer (some ⟨q, 0, none⟩), .agg #[.string f.1, .string f.2]] w fun e w' => ∃ v', e = .returned v' ∧ OwB w' w.heap.size v' (encF T f).1 ∧ Turn (Ep q p (encF T f).2 le) S w w' := by
  have hfz : fsz f ≤ 40000 := by unfold fsz; omega
  have hpx := pixT_lt h.ok.tot f
  have HLT := Bx.mk ((Wd.ep q p T le).lt h)
  have HG : Bx (¬ S w.heap.size) := ⟨fun hs => Nat.lt_irrefl _ (HLT.out _ hs)⟩
  have HEP := Bx.mk h
  have HKEEP : Bx (∀ W, Below w.heap.size w W → Ep q p T le W S) := ⟨fun W hW => (Wd.ep q p T le).keep h hW⟩
  have HPL : Bx (∀ W, Below w.heap.size w W → Calls Try.prog 51 #[.pointer (some ⟨q, 0, none⟩), .agg #[.string f.1, .string f.2]] W fun e w' => e = .returned (.tuple #[.int .u64 (pixT T f : Int), .bool (pwhT T f)]) ∧ Below W.heap.size W w') := ⟨fun W hW => place_any (HKEEP.out W hW) f (by omega)⟩
  have HEN := Bx.mk (encF_pix T f)
  have HSEC := Bx.mk (fun W => secret_any f.1 W)
  have HNUM := Bx.mk (fun W => number_any (.slice none 0 0) [] 1 128 7 (by omega) (by omega) (by rfl) (pixT T f) W (Rd.nil W) (by simp) (by omega))
  have HL1 := Bx.mk (fun W => literal_any 1 16 4 (by omega) (by omega) (by rfl) (pixT T f) (by omega) f h1 h2 W)
  have HL2 := Bx.mk (fun W => literal_any 0 0 4 (by omega) (by omega) (by rfl) (pixT T f) (by omega) f h1 h2 W)
  have HL3 := Bx.mk (fun W => literal_any 1 64 6 (by omega) (by omega) (by rfl) (pixT T f) (by omega) f h1 h2 W)
  have HSZ := Bx.mk (fun W => fsize_any f W (by omega))
  have HTB : Bx (∃ S', Tb p T w S') := ⟨by obtain ⟨a, b, _, S', _, h2, _⟩ := h; exact ⟨S', h2⟩⟩
  have HCAP : Bx (∀ W, Below w.heap.size w W → Calls Try.prog 18 #[.pointer (some ⟨p, 0, none⟩)] W fun e w' => e = .returned (.int .i64 (T.cap : Int)) ∧ Below W.heap.size W w') := ⟨fun W hW => by
    obtain ⟨S', h2⟩ := HTB.out
    exact cap_any (h2.keep hW)⟩
  have HCL := Bx.mk h.ok.cap
  obtain ⟨wh, hwh⟩ : ∃ wh, pwhT T f = wh := ⟨_, rfl⟩
  obtain ⟨ix, hix⟩ : ∃ ix, pixT T f = ix := ⟨_, rfl⟩
  obtain ⟨sc, hsc⟩ : ∃ sc, secN f.1 = sc := ⟨_, rfl⟩
  obtain ⟨E, hE⟩ : ∃ E, encF T f = E := ⟨_, rfl⟩
  obtain ⟨nz, hnz⟩ : ∃ nz, fsz f + 32 = nz := ⟨_, rfl⟩
  rw [hwh, hix, hsc, hE, hnz] at HEN
  rw [hwh, hix] at HPL
  rw [hsc] at HSEC
  rw [hix] at HNUM HL1 HL2 HL3
  rw [hnz] at HSZ
  rw [hE]
  have HB1 := Bx.mk ((Below.refl w.heap.size w).alloc (Nat.le_refl _) (.cells #[.string f.1, .string f.2] 58))
  have HF1 := Bx.mk (Fb.new 58 w f)
  obtain ⟨f1, f2⟩ := f
  obtain ⟨hca, hcb⟩ := HF1.out.cells
  simp only at HEN HSEC HNUM HL1 HL2 HL3 HSZ HPL hnz
  have HT := Bx.mk ht
  have HNZ := Bx.mk hnz
  have HFZ := Bx.mk hfz
  have hnzl : nz ≤ 50000 := by omega
  clear h h1 h2 ht hfz hpx hwh hix hsc hE hnz
  cases wh with
  | true =>
    have HE2 := HEN.out
    simp only [if_true] at HE2
    subst HE2
    go_enter Try.func32, Try.ntmps32
    go_wp2_with fail
    refine (HPL.out _ HB1.out).mono ?_
    rintro e w2 ⟨rfl, b2⟩
    have HB2 := Bx.mk (HB1.out.trans (b2.mono HB1.out.size))
    clear b2 hca hcb
    go_wp2_with fail
    refine (HNUM.out _).mono ?_
    rintro e w3 ⟨v3, rfl, ho3, b3⟩
    rw [List.nil_append] at ho3
    have HO3 := Bx.mk (ho3.mono HB2.out.size)
    have HB3 := Bx.mk (HB2.out.trans (b3.mono HB2.out.size))
    clear ho3 b3
    go_wp2_with fail
    go_ret
    exact ⟨_, rfl, HO3.out, S, HKEEP.out _ HB3.out, fun k hk => .inl hk, Fp.of_below HB3.out⟩
  | false =>
    have HE2 := HEN.out
    simp only [Bool.false_eq_true, if_false] at HE2
    have HE3 := Bx.mk HE2
    clear HEN HE2 HNUM
    go_enter Try.func32, Try.ntmps32
    go_wp2_with fail
    refine (HPL.out _ HB1.out).mono ?_
    rintro e w2 ⟨rfl, b2⟩
    have HB2 := Bx.mk (HB1.out.trans (b2.mono HB1.out.size))
    have HF2 := Bx.mk (HF1.out.keep b2)
    clear b2 hca hcb HB1 HF1 HPL
    obtain ⟨hca, hcb⟩ := HF2.out.cells
    go_wp2_with fail
    refine (HSEC.out _).mono ?_
    rintro e w2' ⟨rfl, rfl⟩
    cases sc with
    | true =>
      have HE2 := HE3.out
      simp only [if_true] at HE2
      subst HE2
      go_wp2_with fail
      refine (HL1.out _).mono ?_
      rintro e w3 ⟨v3, rfl, ho3, b3⟩
      have HO3 := Bx.mk (ho3.mono HB2.out.size)
      have HB3 := Bx.mk (HB2.out.trans (b3.mono HB2.out.size))
      clear ho3 b3
      go_wp2_with fail
      go_ret
      exact ⟨_, rfl, HO3.out, S, HKEEP.out _ HB3.out, fun k hk => .inl hk, Fp.of_below HB3.out⟩
    | false =>
      have HE2 := HE3.out
      simp only [Bool.false_eq_true, if_false] at HE2
      have HE4 := Bx.mk HE2
      clear HE3 HE2
      have hX0 : ∀ W, Below w2.heap.size w2 W → W.cell? ⟨q, 0, none⟩ = some (.pointer (some ⟨p, 0, none⟩)) := fun W hW => (HKEEP.out W (HB2.out.trans (hW.mono HB2.out.size))).ptr
      have hX1 : ∀ W, Below w2.heap.size w2 W → W.cell? ⟨w.heap.size, 0, none⟩ = some (.string f1) := fun W hW => (HF2.out.keep hW).cells.1
      have hX2 : ∀ W, Below w2.heap.size w2 W → W.cell? ⟨w.heap.size, 1, none⟩ = some (.string f2) := fun W hW => (HF2.out.keep hW).cells.2
      have hS0 : Below w2.heap.size w2 w2.drew := (Below.refl _ _).drew
      clear hca hcb
      by_cases hgt : T.cap / 2 < nz
      · have HE2 := HE4.out
        rw [if_pos hgt] at HE2
        subst HE2
        have hd : decide ((T.cap : Int) / 2 < (nz : Int)) = true := by rw [decide_eq_true_iff]; omega
        go_wp2_with fail
        go_region_held (fun W => Below w2.heap.size w2 W) (first | assumption) (first
          | (go_at_call 54; refine (HSZ.out _).mono ?_; rintro e w3 ⟨rfl, hb3⟩; have hS3 := below_next (by assumption) hb3)
          | (go_at_call 18; refine (HCAP.out _ ?_).mono ?_; exact HB2.out.trans (Below.mono (by assumption) HB2.out.size); rintro e w3 ⟨rfl, hb3⟩; have hS3 := below_next (by assumption) hb3))
        all_goals clear hX0 hX1 hX2 hS0
        all_goals have HF3 := Bx.mk (HF2.out.keep hS3)
        all_goals obtain ⟨hca, hcb⟩ := HF3.out.cells
        all_goals go_wp2_with fail
        all_goals refine (HL2.out _).mono ?_
        all_goals rintro e w4 ⟨v4, rfl, ho4, b4⟩
        all_goals have HB3 := Bx.mk (HB2.out.trans (hS3.mono HB2.out.size))
        all_goals have HO4 := Bx.mk (ho4.mono HB3.out.size)
        all_goals have HB4 := Bx.mk (HB3.out.trans (b4.mono HB3.out.size))
        all_goals clear ho4 b4
        all_goals go_wp2_with fail
        all_goals go_ret
        all_goals exact ⟨_, rfl, HO4.out, S, HKEEP.out _ HB4.out, fun k hk => .inl hk, Fp.of_below HB4.out⟩
      · have HE2 := HE4.out
        rw [if_neg hgt] at HE2
        subst HE2
        have hd : decide ((T.cap : Int) / 2 < (nz : Int)) = false := by rw [decide_eq_false_iff_not]; omega
        go_wp2_with fail
        go_region_held (fun W => Below w2.heap.size w2 W) (first | assumption) (first
          | (go_at_call 54; refine (HSZ.out _).mono ?_; rintro e w3 ⟨rfl, hb3⟩; have hS3 := below_next (by assumption) hb3)
          | (go_at_call 18; refine (HCAP.out _ ?_).mono ?_; exact HB2.out.trans (Below.mono (by assumption) HB2.out.size); rintro e w3 ⟨rfl, hb3⟩; have hS3 := below_next (by assumption) hb3))
        all_goals clear hX0 hX1 hX2 hS0
        all_goals have HB3 := Bx.mk (HB2.out.trans (hS3.mono HB2.out.size))
        all_goals have HF3 := Bx.mk (HF2.out.keep hS3)
        all_goals obtain ⟨hca, hcb⟩ := HF3.out.cells
        all_goals have hq0 := (HKEEP.out _ HB3.out).ptr
        all_goals clear hS3
        all_goals have hA0 := (Below.refl w3.heap.size w3).drew.alloc (Nat.le_refl _) (.cells #[.string f1, .string f2] 58)
        all_goals have HA0 := Bx.mk hA0
        all_goals have HADD := Bx.mk (fadd_any (HKEEP.out _ (HB3.out.trans (hA0.mono HB3.out.size))) (HF3.out.keep hA0) HG.out w3.drew rfl HT.out (by have := HFZ.out; omega) (fun k hk => Nat.lt_of_lt_of_le (HLT.out k hk) HB3.out.size))
        all_goals have hS0 : w3.drew.cell? ⟨q, 0, none⟩ = some (.pointer (some ⟨p, 0, none⟩)) ∧ w3.drew.cell? ⟨w.heap.size, 0, none⟩ = some (.string f1) ∧ w3.drew.cell? ⟨w.heap.size, 1, none⟩ = some (.string f2) := ⟨hq0, hca, hcb⟩
        all_goals have hS1 : (w3.drew.alloc (.cells #[.string f1, .string f2] 58)).cell? ⟨q, 0, none⟩ = some (.pointer (some ⟨p, 0, none⟩)) ∧ (w3.drew.alloc (.cells #[.string f1, .string f2] 58)).cell? ⟨w.heap.size, 0, none⟩ = some (.string f1) ∧ (w3.drew.alloc (.cells #[.string f1, .string f2] 58)).cell? ⟨w.heap.size, 1, none⟩ = some (.string f2) := ⟨(HKEEP.out _ (HB3.out.trans (hA0.mono HB3.out.size))).ptr, (HF3.out.keep hA0).cells⟩
        all_goals clear hA0
        all_goals go_wp2_with fail
        all_goals go_region_held (fun W => W.cell? ⟨q, 0, none⟩ = some (.pointer (some ⟨p, 0, none⟩)) ∧ W.cell? ⟨w.heap.size, 0, none⟩ = some (.string f1) ∧ W.cell? ⟨w.heap.size, 1, none⟩ = some (.string f2)) (first | assumption) (first
          | (go_at_call 55; refine (HADD.out).mono ?_; rintro e w5 ⟨⟨r, rfl⟩, hturn, hf5, hq5⟩; have hS5 : w5.cell? ⟨q, 0, none⟩ = some (.pointer (some ⟨p, 0, none⟩)) ∧ w5.cell? ⟨w.heap.size, 0, none⟩ = some (.string f1) ∧ w5.cell? ⟨w.heap.size, 1, none⟩ = some (.string f2) := ⟨hq5, hf5.cells⟩))
        all_goals clear hS0 hS1 hca hcb hq0
        all_goals have HTURN := Bx.mk (Turn.before (HB3.out.trans (HA0.out.mono HB3.out.size)) hturn)
        all_goals obtain ⟨_, hca, hcb⟩ := hS5
        all_goals clear hturn
        all_goals go_wp2_with fail
        all_goals refine (HL3.out _).mono ?_
        all_goals rintro e w6 ⟨v6, rfl, ho6, b6⟩
        all_goals have HO6 := Bx.mk (ho6.mono HTURN.out.size)
        all_goals have HT6 := Bx.mk ((Wd.ep q p _ le).after HTURN.out b6)
        all_goals clear ho6 b6
        all_goals go_wp2_with fail
        all_goals go_ret
        all_goals exact ⟨_, rfl, HO6.out, HT6.out⟩
end
end Go.Proofs.Ythnaapjefedalaa

/-
  Contracts of henc.New, Encode, Resize, Table.
-/
namespace Go.Proofs.Ythnaapjefedalaa
open Go.RowKit Go.Maps
set_option linter.unusedVariables false

section
variable {q p : Nat} {T T' : Tab} {le : Option Nat} {w w' : World} {S : Nat → Prop}
theorem encL_cap : ∀ (l : List Fd) (T : Tab), (encL T l).2.cap = T.cap
  | [], T => rfl
  | f :: l, T => by
    show (encL (encF T f).2 l).2.cap = T.cap
    rw [encL_cap l, encF_cap]
theorem encF_tot (T : Tab) (f : Fd) : (encF T f).2.tot ≤ T.tot + 1 := by
  rw [encF_pix]
  split
  · simp
  · split
    · simp
    · split
      · simp
      · exact T.add_tot_le f
theorem encL_tot : ∀ (l : List Fd) (T : Tab), (encL T l).2.tot ≤ T.tot + l.length
  | [], T => Nat.le_refl _
  | f :: l, T => by
    show (encL (encF T f).2 l).2.tot ≤ _
    have h1 := encL_tot l (encF T f).2
    have h2 := encF_tot T f
    simp only [List.length_cons]
    omega
theorem encF_blen (T : Tab) (f : Fd) : (encF T f).1.length ≤ fsz f + 33 := by
  rw [encF_pix]
  have e1 : f.1.data.toList.length = f.1.size := by simp
  have e2 : f.2.data.toList.length = f.2.size := by simp
  have hl := fun (fb : UInt8) (k i : Nat) => (litW_len fb k i true f.1.data.toList f.2.data.toList).2
  have hp := (pre_len 128 7 (pixT T f)).2
  unfold fsz
  split
  · simp only; omega
  · split
    · have := hl 16 4 (pixT T f); simp only; omega
    · split
      · have := hl 0 4 (pixT T f); simp only; omega
      · have := hl 64 6 (pixT T f); simp only; omega
theorem encL_blen : ∀ (l : List Fd) (T : Tab), (encL T l).1.length ≤ sumF l + 33 * l.length
  | [], T => by simp [encL]
  | f :: l, T => by
    show ((encF T f).1 ++ (encL (encF T f).2 l).1).length ≤ _
    have h1 := encL_blen l (encF T f).2
    have h2 := encF_blen T f
    simp only [List.length_append, List.length_cons, sumF]
    omega
theorem encL_take (T : Tab) (l : List Fd) (k : Nat) (hk : k < l.length) : encL T (l.take (k + 1)) = ((encL T (l.take k)).1 ++ (encF (encL T (l.take k)).2 l[k]).1, (encF (encL T (l.take k)).2 l[k]).2) := by
  rw [List.take_succ_eq_append_getElem hk, encL_snoc]

theorem ptable_any (h : Ep q p T le w S) : Calls Try.prog 15 #[.pointer (some ⟨q, 0, none⟩)] w fun e w' => e = .returned (.pointer (some ⟨p, 0, none⟩)) ∧ w = w' := by
  have c0 := h.ptr
  go_enter Try.func15, Try.ntmps15
  go_wp2
  go_ret
  exact ⟨rfl, rfl⟩

set_option maxRecDepth 100000 in
set_option maxHeartbeats 1000000 in
theorem penc_new (n : Int) (w : World) : Calls Try.prog 9 #[.int .i64 n] w fun e w' => ∃ q p S, e = .returned (.pointer (some ⟨q, 0, none⟩)) ∧ Ep q p (Tab.new (clampN n : Int)) none w' S ∧ (∀ k, S k → w.heap.size ≤ k) ∧ Below w.heap.size w w' := by
  have hle := clampN_le n
  have HC := Bx.mk (nearest_any n)
  have HN := Bx.mk (fun W => new_any (clampN n : Int) W (by omega))
  generalize clampN n = c at HC HN hle ⊢
  go_enter Try.func9, Try.ntmps9
  go_wp2_with (first
    | (go_at_call 28; refine (HC.out _).mono ?_; rintro e w1 ⟨rfl, rfl⟩)
    | (go_at_call 27; refine (HN.out _).mono ?_; rintro e w1 ⟨t, S, rfl, hrt, hS, hb⟩; have hsz := hb.size))
  go_ret
  have hn := Hd.new (ty := 69) (F := eF t false 0 0) (Wd.tb t _) hrt #[.pointer (some ⟨t, 0, none⟩), .bool false, .int .i64 0, .int .i64 0] (fun j hj => by
    have : j < 4 := hj
    unfold eF
    match j, this with
    | 0, _ => rfl
    | 1, _ => rfl
    | 2, _ => rfl
    | 3, _ => rfl)
  exact ⟨w1.heap.size, t, _, rfl, ⟨0, 0, (fun m hm => by cases hm), hn⟩, fun k hk => by rcases hk with h | rfl; exact hS k h; exact hsz, hb.trans (((Below.refl _ _).alloc (Nat.le_refl _) _).mono hsz)⟩

theorem eF_1 (p a b : Nat) (rs : Bool) : ∀ j, j < 4 → (if j = 1 then Value.bool true else eF p rs a b j) = eF p true a b j := fun j hj => by unfold eF; match j, hj with | 0, _ => rfl | 1, _ => rfl | 2, _ => rfl | 3, _ => rfl
theorem eF_2 (p a b c : Nat) (rs : Bool) : ∀ j, j < 4 → (if j = 2 then Value.int .i64 (c : Int) else eF p rs a b j) = eF p rs c b j := fun j hj => by unfold eF; match j, hj with | 0, _ => rfl | 1, _ => rfl | 2, _ => rfl | 3, _ => rfl
theorem eF_3 (p a b c : Nat) (rs : Bool) : ∀ j, j < 4 → (if j = 3 then Value.int .i64 (c : Int) else eF p rs a b j) = eF p rs a c j := fun j hj => by unfold eF; match j, hj with | 0, _ => rfl | 1, _ => rfl | 2, _ => rfl | 3, _ => rfl

set_option maxRecDepth 100000 in
set_option maxHeartbeats 2000000 in
theorem presize_any (h : Ep q p T le w S) (n : Int) :
    Calls Try.prog 21 #[.pointer (some ⟨q, 0, none⟩), .int .i64 n] w fun e w' => e = .returned (.tuple #[]) ∧ Turn (Ep q p (T.resize (clampN n : Int)) (some (lessN le (clampN n)))) S w w' := by
  have hcl := clampN_le n
  have HC := Bx.mk (nearest_any n)
  generalize clampN n = c at HC hcl ⊢
  have hq0 := h.ptr
  obtain ⟨a, b, h0, h1⟩ := h
  obtain ⟨S', h2, h3, h4, h5⟩ := h1.opens
  have HR := Bx.mk (resize_any h2 (c : Int) (by omega))
  have HO := Bx.mk h5
  have HM : Bx (∀ m, le = some m → a = m) := ⟨fun m hm => (h0 m hm).1⟩
  clear h0 h1 h2 h3 h4 h5
  go_enter Try.func21, Try.ntmps21
  go_wp2_with fail
  refine (HC.out _).mono ?_
  rintro e w1' ⟨rfl, rfl⟩
  go_wp2_with fail
  refine HR.out.mono ?_
  rintro e w1 ⟨rfl, ht⟩
  obtain ⟨S1, x1, s1, g1⟩ := HO.out w1 _ ht
  have HS := Bx.mk s1
  have HG := Bx.mk g1
  have HX := Bx.mk x1
  have hq1 : w1.cell? ⟨q, 1, none⟩ = some (.bool le.isSome) := x1.row.cell (by omega)
  have hq2 : w1.cell? ⟨q, 2, none⟩ = some (.int .i64 (a : Int)) := x1.row.cell (by omega)
  clear ht x1 s1 g1 HO HR hq0
  cases le with
  | none =>
    simp only [Option.isSome_none] at hq1 HX
    have p1 := HX.out.put (Wd.tb p _) 2 (.int .i64 (c : Int)) (eF_2 p a b c false)
    have p2 := p1.1.put (Wd.tb p _) 1 (.bool true) (eF_1 p c b false)
    have p3 := p2.1.put (Wd.tb p _) 2 (.int .i64 (c : Int)) (eF_2 p c b c true)
    have p4 := p3.1.put (Wd.tb p _) 3 (.int .i64 (c : Int)) (eF_3 p c b c true)
    have hf1 := HX.out.row.frozen 2
    have hf2 := p1.1.row.frozen 1
    have hf3 := p2.1.row.frozen 2
    have hf4 := p3.1.row.frozen 3
    have k1 : (w1.setCell ⟨q, 2, none⟩ (.int .i64 (c : Int))).cell? ⟨q, 2, none⟩ = some (.int .i64 (c : Int)) := p1.1.row.cell (by omega)
    have k1' : (w1.setCell ⟨q, 2, none⟩ (.int .i64 (c : Int))).cell? ⟨q, 1, none⟩ = some (.bool false) := p1.1.row.cell (by omega)
    have k2 : ((w1.setCell ⟨q, 2, none⟩ (.int .i64 (c : Int))).setCell ⟨q, 1, none⟩ (.bool true)).cell? ⟨q, 2, none⟩ = some (.int .i64 (c : Int)) := p2.1.row.cell (by omega)
    have k3 : (((w1.setCell ⟨q, 2, none⟩ (.int .i64 (c : Int))).setCell ⟨q, 1, none⟩ (.bool true)).setCell ⟨q, 2, none⟩ (.int .i64 (c : Int))).cell? ⟨q, 3, none⟩ = some (.int .i64 (b : Int)) := p3.1.row.cell (by omega)
    have HFIN : Bx (Turn (Ep q p (T.resize (c : Int)) (some (lessN none c))) S w ((((w1.setCell ⟨q, 2, none⟩ (.int .i64 (c : Int))).setCell ⟨q, 1, none⟩ (.bool true)).setCell ⟨q, 2, none⟩ (.int .i64 (c : Int))).setCell ⟨q, 3, none⟩ (.int .i64 (c : Int)))) := ⟨Turn.step HS.out HG.out ⟨S1, ⟨c, c, fun m hm => by injection hm with hm; subst hm; exact ⟨rfl, by simp [Tab.resize]⟩, p4.1⟩, fun k hk => .inl hk, p1.2.then (p2.2.then (p3.2.then p4.2))⟩⟩
    clear p1 p2 p3 p4 HX HS HG
    go_wp2_with fail
    go_end0
    exact ⟨rfl, HFIN.out⟩
  | some m =>
    obtain rfl := HM.out m rfl
    simp only [Option.isSome_some] at hq1 HX
    have hmin : min (a : Int) (c : Int) = ((min c a : Nat) : Int) := by omega
    obtain ⟨d, hd⟩ : ∃ d, min c a = d := ⟨_, rfl⟩
    rw [hd] at hmin
    have p2 := HX.out.put (Wd.tb p _) 1 (.bool true) (eF_1 p a b true)
    have p3 := p2.1.put (Wd.tb p _) 2 (.int .i64 (d : Int)) (eF_2 p a b d true)
    have p4 := p3.1.put (Wd.tb p _) 3 (.int .i64 (c : Int)) (eF_3 p d b c true)
    have hf2 := HX.out.row.frozen 1
    have hf3 := p2.1.row.frozen 2
    have hf4 := p3.1.row.frozen 3
    have k2 : (w1.setCell ⟨q, 1, none⟩ (.bool true)).cell? ⟨q, 2, none⟩ = some (.int .i64 (a : Int)) := p2.1.row.cell (by omega)
    have k3 : ((w1.setCell ⟨q, 1, none⟩ (.bool true)).setCell ⟨q, 2, none⟩ (.int .i64 (d : Int))).cell? ⟨q, 3, none⟩ = some (.int .i64 (b : Int)) := p3.1.row.cell (by omega)
    have HFIN : Bx (Turn (Ep q p (T.resize (c : Int)) (some (lessN (some a) c))) S w (((w1.setCell ⟨q, 1, none⟩ (.bool true)).setCell ⟨q, 2, none⟩ (.int .i64 (d : Int))).setCell ⟨q, 3, none⟩ (.int .i64 (c : Int)))) := ⟨Turn.step HS.out HG.out ⟨S1, ⟨d, c, fun m hm => by injection hm with hm; subst hm; exact ⟨by rw [← hd]; rfl, by simp [Tab.resize]⟩, p4.1⟩, fun k hk => .inl hk, p2.2.then (p3.2.then p4.2)⟩⟩
    clear p2 p3 p4 HX HS HG hd
    go_wp2_with fail
    go_end0
    exact ⟨rfl, HFIN.out⟩
end
end Go.Proofs.Ythnaapjefedalaa

/-
  Contract of the program's Encode.
-/
namespace Go.Proofs.Ythnaapjefedalaa
open Go.RowKit Go.Maps
set_option linter.unusedVariables false

section
variable {q p : Nat} {T T' : Tab} {le : Option Nat} {w w' : World} {S : Nat → Prop}
/-- Behind k fields: the encoder, and the bytes so far. -/
def PRel (q p : Nat) (T : Tab) (S : Nat → Prop) (w : World) (U : List UInt8) (l : List Fd) (k : Nat) (bv : Value) (wx : World) : Prop :=
  ∃ E, Ep q p (encL T (l.take k)).2 none wx E ∧ (∀ i, E i → S i ∨ w.heap.size ≤ i) ∧ NoB wx E ∧ Fp S w wx ∧ OwB wx w.heap.size bv (U ++ (encL T (l.take k)).1)
theorem upsW_len2 (ns : List Nat) : (upsW ns).length ≤ 11 * ns.length := by
  induction ns with
  | nil => simp [upsW]
  | cons n ns ih =>
    unfold upsW at *
    rw [List.flatMap_cons, List.length_append, List.length_cons]
    have := (pre_len 32 5 n).2
    omega

set_option maxRecDepth 100000 in
set_option maxHeartbeats 2000000 in
theorem pencode_any (h : Ep q p T le w S) (hm : ∀ m, le = some m → m ≤ 65535) (hc : T.cap ≤ 65535) {v : Value} {l : List Fd} (hv : ∀ W, Fp S w W → Fs W v l) (hl : l.length ≤ 1000) (hz : ∀ f ∈ l, f.1.size ≤ 20000 ∧ f.2.size ≤ 20000) (hsum : sumF l ≤ 100000) (ht : T.tot + l.length ≤ 1000000) :
    Calls Try.prog 13 #[.pointer (some ⟨q, 0, none⟩), v] w fun e w' => ∃ v', e = .returned v' ∧ OwB w' w.heap.size v' (encB le T l) ∧ Turn (Ep q p (encL T l).2 none) S w w' := by
  have HV := Bx.mk hv
  have HV0 := Bx.mk (hv w (Fp.refl _ _))
  have hlen := fun ty W => HV0.out.run_len ty W
  have HUP := Bx.mk (updates_any h hm hc)
  have HZ := Bx.mk hz
  obtain ⟨U, hU⟩ : ∃ U, upsW (toldN le T.cap) = U := ⟨_, rfl⟩
  have hul : U.length ≤ 22 := by have h1 := upsW_len2 (toldN le T.cap); have h2 := toldN_len le T.cap; rw [hU] at h1; omega
  have HEB : Bx (encB le T l = U ++ (encL T l).1) := ⟨by unfold encB; rw [hU]⟩
  rw [hU] at HUP
  have HBL : Bx (∀ k, (U ++ (encL T (l.take k)).1).length ≤ 140000) := ⟨fun k => by
    have h1 := encL_blen (l.take k) T
    have h2 := sumF_take_le l k
    rw [List.length_append]
    simp only [List.length_take] at h1
    omega⟩
  have HTO : Bx (∀ k, k < l.length → (encL T (l.take k)).2.tot + 1 ≤ 1000000) := ⟨fun k hk => by
    have h1 := encL_tot (l.take k) T
    simp only [List.length_take] at h1
    omega⟩
  obtain ⟨i0, hi, hz0, hz1, hz2⟩ := info_parts infoU8
  have HI : Bx (Try.prog.info? 5 = some i0 ∧ i0.zero = some (.int .u8 0) ∧ i0.size = 1 ∧ i0.bytes = 1) := ⟨hi, hz0, hz1, hz2⟩
  clear h hm hc hv hz hsum ht hU hul hi hz0 hz1 hz2
  go_enter Try.func13, Try.ntmps13
  go_wp2_with fail
  refine HUP.out.mono ?_
  rintro e w1 ⟨v1, rfl, ho1, he1, hf1⟩
  have HR1 : Bx (PRel q p T S w U l 0 v1 w1) := ⟨by
    obtain ⟨E, e1, e2, e3⟩ := Ex.ep _ _ _ _ _ _ he1
    exact ⟨E, e1, fun i hi => .inl (e2 i hi), e3, hf1, by simpa [encL] using ho1⟩⟩
  clear ho1 he1 hf1 HUP
  go_wp2_with fail
  go_loopg [5, 12] l.length (fun g s5 s12 wx => ∃ k : Nat, k + g = l.length ∧ s12 = .int .i64 k ∧ Bx (PRel q p T S w U l k s5 wx))
  case atStart => exact ⟨0, by omega, rfl, HR1⟩
  case round =>
    obtain ⟨k, hkg, rfl, HR⟩ := hrel
    clear HR1
    cases gk with
    | zero =>
      obtain rfl : k = l.length := by omega
      go_wp2_with fail
      go_ret
      obtain ⟨E, e1, e2, e3, e4, e5⟩ := HR.out
      rw [List.take_length] at e1 e5
      rw [HEB.out]
      exact ⟨_, rfl, e5, E, e1, e2, e4⟩
    | succ g =>
      have hk : k < l.length := by omega
      obtain ⟨E, e1, e2, e3, e4, e5⟩ := HR.out
      obtain ⟨b, o, hix, hcs⟩ := HV0.out.at_ k hk
      obtain ⟨hc1, hc2⟩ := hcs wr (HV.out wr e4)
      have HFZ := Bx.mk (HZ.out l[k] (List.getElem_mem hk))
      have HTK := Bx.mk (encL_take T l k hk)
      have HTO2 := Bx.mk (HTO.out k hk)
      obtain ⟨f1, hf1⟩ : ∃ f1, l[k].1 = f1 := ⟨_, rfl⟩
      obtain ⟨f2, hf2⟩ : ∃ f2, l[k].2 = f2 := ⟨_, rfl⟩
      rw [hf1] at hc1
      rw [hf2] at hc2
      rw [show l[k] = (f1, f2) from by rw [← hf1, ← hf2]] at HFZ HTK
      have hb0 := (Below.refl wr.heap.size wr).alloc (Nat.le_refl _) (.cells #[.string f1, .string f2] 58)
      have HFD := Bx.mk (field_any ((Wd.ep _ _ _ _).keep e1 hb0) (f1, f2) HFZ.out.1 HFZ.out.2 HTO2.out)
      have HE := Bx.mk (show Ep q p (encL T (l.take k)).2 none (wr.alloc (.cells #[.string f1, .string f2] 58)) E ∧ (∀ i, E i → S i ∨ w.heap.size ≤ i) ∧ NoB (wr.alloc (.cells #[.string f1, .string f2] 58)) E ∧ Fp S w (wr.alloc (.cells #[.string f1, .string f2] 58)) ∧ OwB (wr.alloc (.cells #[.string f1, .string f2] 58)) w.heap.size u5 (U ++ (encL T (l.take k)).1) from ⟨(Wd.ep _ _ _ _).keep e1 hb0, e2, e3.keep hb0, e4.then (Fp.of_below hb0), e5.keep hb0⟩)
      clear hf1 hf2 hcs e1 e2 e3 e4 e5 HR hb0
      go_wp2_with fail
      refine HFD.out.mono ?_
      rintro e w2 ⟨v2, rfl, ho2, ht2⟩
      obtain ⟨E2, x2, s2, g2, n2⟩ := ht2.close (Ex.ep _ _ _ _)
      have HO2 := Bx.mk ho2.bs
      have HU2 := Bx.mk (HE.out.2.2.2.2.besides HE.out.2.2.1 g2)
      have HS2 : Bx (w.heap.size ≤ w2.heap.size) := ⟨Nat.le_trans HE.out.2.2.2.1.size g2.size⟩
      have HX2 : Bx (Ep q p (encL T (l.take (k + 1))).2 none w2 E2 ∧ (∀ i, E2 i → S i ∨ w.heap.size ≤ i) ∧ NoB w2 E2 ∧ Fp S w w2) := ⟨by rw [HTK.out]; exact x2, fun i hi => (s2 i hi).elim (HE.out.2.1 i) fun h => .inr (Nat.le_trans HE.out.2.2.2.1.size h), n2, HE.out.2.2.2.1.trans g2 HE.out.2.1⟩
      have hbk := HBL.out k
      have hbk2 := HBL.out (k + 1)
      rw [HTK.out] at hbk2
      simp only [← List.append_assoc] at hbk2
      have HBK2 := Bx.mk hbk2
      have HBK := Bx.mk hbk
      clear ho2 ht2 x2 s2 g2 n2 hc1 hc2 hbk hbk2
      go_wp2_with (at_builtin; refine wpList_append_og _ rfl _ _ 33 rfl w.heap.size 5 i0 (.int .u8 0) 1 Try.underlying33 HI.out.1 HI.out.2.1 HI.out.2.2.1 HI.out.2.2.2 rfl _ _ _ _ rfl rfl HU2.out HO2.out one_bv (by have := HBK2.out; simp only [List.length_map, List.length_append] at this ⊢; omega) (by have := HBK2.out; simp only [List.length_map, List.length_append, maxLen] at this ⊢; omega) HS2.out ?_; intro v3 w3 ho3 hb3 hg3)
      have HR3 : Bx (PRel q p T S w U l (k + 1) v3 w3) := ⟨by
        have hn := OwB.nonB HU2.out hg3
        refine ⟨E2, (Wd.ep _ _ _ _).kept HX2.out.1 hb3.size (HX2.out.2.2.1.same hn), HX2.out.2.1, HX2.out.2.2.1.non hn, HX2.out.2.2.2.trans (Fp.up hb3) fun i hi => .inr hi, ?_⟩
        rw [HTK.out]
        rw [← List.append_assoc]
        exact OwB.cat ho3⟩
      clear ho3 hb3 hg3
      go_roundg g
      case measure => omega
      case rel => exact ⟨k + 1, by omega, by go_num, HR3⟩
end
end Go.Proofs.Ythnaapjefedalaa

/-
  Calls that turn one of several words; rows of bytes stand beside them.
-/
namespace Go.Proofs.Ythnaapjefedalaa
open Go.RowKit
set_option linter.unusedVariables false

/-- Rows of bytes stand. -/
def RowB (w w' : World) : Prop := ∀ (k : Nat) (c : Array Value) (z : Nat × Nat), w.heap[k]? = some (.cells c 5 z) → w'.heap[k]? = some (.cells c 5 z)
theorem RowB.refl (w : World) : RowB w w := fun _ _ _ h => h
theorem RowB.trans {a b c : World} (h : RowB a b) (k : RowB b c) : RowB a c := fun i x z hi => k i x z (h i x z hi)
theorem RowB.of_below {w w' : World} (h : Below w.heap.size w w') : RowB w w' := fun k c z hk => by rw [h.block k (Array.getElem?_eq_some_iff.1 hk).1]; exact hk
theorem RowB.of_fp {w w' : World} {S : Nat → Prop} (hn : NoB w S) (h : Fp S w w') : RowB w w' := fun k c z hk => by
  rw [h.block k (Array.getElem?_eq_some_iff.1 hk).1 fun hs => ?_]
  · exact hk
  · obtain ⟨o, h1, h2⟩ := hn k hs
    rw [h1] at hk
    injection hk with hk
    exact h2 _ _ hk
theorem OwB.rows {w w' : World} {B : Nat} {v : Value} {l : List UInt8} (h : OwB w B v l) (hr : RowB w w') : OwB w' B v l := by
  refine h.kept fun k hk => ?_
  rcases h.2 with ⟨rfl, _⟩ | ⟨g, cap, cur, rfl, hg, hh, rest⟩
  · simp [Value.ownBlock] at hk
  · simp only [Value.ownBlock, Option.some.injEq] at hk
    subst hk
    rw [hh]
    exact hr _ _ _ hh

section
variable {α : Type} {X Y : Wx} {X' Y' : α → Wx} {R : α → Ending → World → Prop} {P : Program} {f : FuncId} {args : Array Value} {w wA : World} {B : Nat} {C : Nat → Prop}
/-- A call that turns the first of two. -/
theorem lift1 (hY : Wd Y) (hc : ∀ S, X w S → (∀ k, S k → C k) → Calls P f args w fun e w' => ∃ x, R x e w' ∧ Turn (X' x) S w w') :
    ∀ S, Both X Y w S → (∀ k, S k → C k) → Calls P f args w fun e w' => ∃ x, R x e w' ∧ Turn (Both (X' x) Y) S w w' := by
  rintro S ⟨S1, S2, h1, h2, h3, h4⟩ hs
  refine (hc S1 h1 fun k hk => hs k ((h4 k).2 (.inl hk))).mono ?_
  rintro e w' ⟨x, hr, ht⟩
  exact ⟨x, hr, Both.left hY h2 h3 h4 ht⟩
theorem lift2 (hX : Wd X) (hc : ∀ S, Y w S → (∀ k, S k → C k) → Calls P f args w fun e w' => ∃ x, R x e w' ∧ Turn (Y' x) S w w') :
    ∀ S, Both X Y w S → (∀ k, S k → C k) → Calls P f args w fun e w' => ∃ x, R x e w' ∧ Turn (Both X (Y' x)) S w w' := by
  rintro S ⟨S1, S2, h1, h2, h3, h4⟩ hs
  refine (hc S2 h2 fun k hk => hs k ((h4 k).2 (.inr hk))).mono ?_
  rintro e w' ⟨x, hr, ht⟩
  exact ⟨x, hr, Both.right hX h1 h3 h4 ht⟩
/-- What is known of the blocks that a call may turn. -/
def Cn (B : Nat) (w wA : World) (k : Nat) : Prop := B ≤ k ∧ k < w.heap.size ∧ ∃ o, wA.heap[k]? = some o ∧ ∀ (c : Array Value) (z : Nat × Nat), o ≠ Obj.cells c 5 z
theorem Cn.noB {S : Nat → Prop} (h : ∀ k, S k → Cn B w wA k) : NoB wA S := fun k hk => (h k hk).2.2
theorem Cn.ge {S : Nat → Prop} (h : ∀ k, S k → Cn B w wA k) : ∀ k, S k → B ≤ k := fun k hk => (h k hk).1
theorem Cn.old {S : Nat → Prop} (h : ∀ k, S k → Cn B w wA k) : ∀ k, S k → k < w.heap.size := fun k hk => (h k hk).2.1
/-- A call that turns what stands; new blocks may have been made for it. -/
theorem Up.call (hX : Ex X) (hW : Wd X) (h : Up B X w) (hB : B ≤ w.heap.size) (hA : Below w.heap.size w wA) (hc : ∀ S, X wA S → (∀ k, S k → Cn B w wA k) → Calls P f args wA fun e w' => ∃ x, R x e w' ∧ Turn (X' x) S wA w') :
    Calls P f args wA fun e w' => ∃ x, R x e w' ∧ Up B (X' x) w' ∧ Below B w w' ∧ RowB w w' := by
  obtain ⟨S, h1, h2⟩ := h
  obtain ⟨E, e1, e2, e3⟩ := hX w S h1
  refine (hc E (hW.keep e1 hA) fun k hk => ⟨h2 k (e2 k hk), hW.lt e1 k hk, e3.keep hA k hk⟩).mono ?_
  rintro e w' ⟨x, hr, ht⟩
  have hf : Fp E wA w' := by obtain ⟨_, _, _, hf⟩ := ht; exact hf
  obtain ⟨hu, hb⟩ := Up.turn (fun k hk => h2 k (e2 k hk)) (Nat.le_trans hB hA.size) ht
  exact ⟨x, hr, hu, (hA.mono hB).trans hb, (RowB.of_below hA).trans (RowB.of_fp (e3.keep hA) hf)⟩
/-- A call that reads. -/
theorem Up.read {Q : Ending → World → Prop} (h : Up B X w) (hc : ∀ S, X w S → Calls P f args w Q) : Calls P f args w Q := by
  obtain ⟨S, h1, _⟩ := h
  exact hc S h1
end
end Go.Proofs.Ythnaapjefedalaa

/-
  bifoldlaw7.known answers true; the program's encoder, as the laws use it.
-/
namespace Go.Proofs.Ythnaapjefedalaa
open Go.RowKit Go.Maps
set_option linter.unusedVariables false

theorem Up.keepB {X : Wx} {w w' : World} {B : Nat} (hX : Wd X) (h : Up B X w) (hb : Below w.heap.size w w') : Up B X w' := h.keep hX hb
theorem enc_new (n : Int) (w : World) : Calls Try.prog 9 #[.int .i64 n] w fun e w' => ∃ q p, e = .returned (.pointer (some ⟨q, 0, none⟩)) ∧ Up w.heap.size (Ep q p (Tab.new (clampN n : Int)) none) w' ∧ Below w.heap.size w w' := by
  refine (penc_new n w).mono ?_
  rintro e w' ⟨q, p, S, rfl, h1, h2, h3⟩
  exact ⟨q, p, rfl, ⟨S, h1, h2⟩, h3⟩

def hM : Fd := (⟨#[58, 109, 101, 116, 104, 111, 100]⟩, ⟨#[71, 69, 84]⟩)
def hAB : Fd := (⟨#[97]⟩, ⟨#[98]⟩)
theorem hkn1 : encB none (Tab.new 4096) [hM, hAB, hAB] = [130, 64, 1, 97, 1, 98, 190] := by decide +kernel
theorem hkn2 : (encL (Tab.new 4096) [hM, hAB, hAB]).2.l.length = 1 := by decide +kernel
theorem hkn3 : ([] : List UInt8) ++ putS (⟨#[51, 48, 50]⟩ : ByteArray).data.toList = [130, 100, 2] := by decide +kernel
theorem hkn4 : ((bstr [130, 64, 1, 97, 1, 98, 190]).toList == [130, 64, 1, 97, 1, 98, 190]) = true := by decide +kernel
theorem hkn5 : ((bstr [130, 100, 2]).toList == [130, 100, 2]) = true := by decide +kernel

set_option maxRecDepth 100000 in
set_option maxHeartbeats 1000000 in
theorem eknown_any (w : World) : Calls Try.prog 8 #[] w fun e w' => e = .returned (.bool true) ∧ Below w.heap.size w w' := by
  go_enter Try.func8, Try.ntmps8
  go_wp2_with fail
  refine (penc_new 4096 w).mono ?_
  rintro e w1 ⟨q, p, S, rfl, h1, h2, b1⟩
  rw [show ((clampN 4096 : Nat) : Int) = 4096 from rfl] at h1
  have hA := (Below.refl w1.heap.size w1).alloc (Nat.le_refl _) (.cells #[.string hM.1, .string hM.2, .string hAB.1, .string hAB.2, .string hAB.1, .string hAB.2] 58)
  have hfs := Fs.lits w1 #[.string hM.1, .string hM.2, .string hAB.1, .string hAB.2, .string hAB.1, .string hAB.2] [hM, hAB, hAB] rfl (by simp)
  have hlt := (Wd.ep _ _ _ _).lt h1
  have HENC := Bx.mk (pencode_any ((Wd.ep _ _ _ _).keep h1 hA) (fun m hm => by cases hm) (by simp [Tab.new]) (fun W hf => hfs.besides hf (fun g hg => by
    simp only [Value.ownBlock, Option.some.injEq] at hg
    subst hg
    exact ⟨by simp, fun hs => Nat.lt_irrefl _ (hlt _ hs)⟩)) (by simp) (by intro f hf; simp at hf; rcases hf with rfl | rfl <;> simp [hM, hAB, ByteArray.size]) (by decide) (by simp [Tab.new]))
  have HB1 := Bx.mk b1
  have HA := Bx.mk hA
  have HH2 := Bx.mk h2
  clear h1 h2 b1 hA hfs hlt
  go_wp2_with fail
  refine HENC.out.mono ?_
  rintro e w2 ⟨v2, rfl, ho2, ht2⟩
  rw [hkn1] at ho2
  have HS2 : Bx (Below w.heap.size w w2) := ⟨by
    obtain ⟨_, _, _, hf⟩ := ht2
    exact (HB1.out.trans (HA.out.mono HB1.out.size)).trans (hf.below (Nat.le_trans HB1.out.size HA.out.size) HH2.out)⟩
  have HE2 : Bx (∃ E, Ep q p (encL (Tab.new 4096) [hM, hAB, hAB]).2 none w2 E) := ⟨by obtain ⟨E, x, _⟩ := ht2; exact ⟨E, x⟩⟩
  have hcv := conv_str ho2.bs
  have hkk := hkn4
  clear ho2 ht2 HENC
  go_wp2_with fail
  obtain ⟨E, hE⟩ := HE2.out
  refine (ptable_any hE).mono ?_
  rintro e w2' ⟨rfl, rfl⟩
  go_wp2_with fail
  obtain ⟨S', hT, _⟩ := hE.opens
  refine (dlen_any hT).mono ?_
  rintro e w3 ⟨rfl, b3⟩
  rw [hkn2]
  have HB3 := Bx.mk (HS2.out.trans (b3.mono HS2.out.size))
  clear b3 hE hT hcv hkk
  go_wp2_with fail
  refine (hstr_any (.slice none 0 0) [] ⟨#[51, 48, 50]⟩ _ (Rd.nil _) (by simp) (by decide)).mono ?_
  rintro e w4 ⟨v4, rfl, ho4, b4⟩
  rw [hkn3] at ho4
  have hcv := conv_str ho4.bs
  have hkk := hkn5
  have HB4 := Bx.mk (HB3.out.trans (b4.mono HB3.out.size))
  clear ho4 b4
  go_wp2_with fail
  go_ret
  exact ⟨rfl, HB4.out⟩
end Go.Proofs.Ythnaapjefedalaa

/-
  Contracts of the document's Prefix and PutStr over a slice with no room: what they hand back is a row of its own.
-/
namespace Go.Proofs.Ythnaapjefedalaa
open Go.RowKit
set_option linter.unusedVariables false

section
variable {P : Program} (w : World)
theorem run_append_tt (t ty e : TypeId) (i : TypeInfo) (z : Value) (bytes : Nat) (ht : P.underlying t = some (.slice e)) (hi : P.info? e = some i) (hz : i.zero = some z)
    (hsize : i.size = 1) (hby : i.bytes = bytes) (hzs : z.cells.size = 1)
    (A : Option Addr) (u : Value) (xs news : List Value) (hr : Rd w (.slice A xs.length xs.length) xs) (hu : Rd w u news) (hn : 0 < news.length) (h1 : ∀ x ∈ news, x.oneCell' = true)
    (hbytes : (xs.length + news.length) * bytes ≤ 140737488355328) (hmax : xs.length + news.length ≤ maxLen) :
    ∃ v' w', (Builtin.append_ #[t, t] ty #[.slice A xs.length xs.length, u]).run P w = .ok v' w' ∧ w'.ownsRow w.heap.size e 1 v' (xs ++ news).length (xs ++ news) ∧ Below w.heap.size w w' := by
  obtain ⟨b, o, c, rfl, c1, c2, _, hcu⟩ := hu.at_ hn
  obtain ⟨A', c', hv', _, _, h3⟩ := hr
  injection hv' with hA _ hc'
  subst hA; subst hc'
  rcases h3 with ⟨rfl, h0⟩ | ⟨x, rfl, hcx⟩
  · obtain rfl : xs = [] := List.eq_nil_of_length_eq_zero (by omega)
    obtain ⟨v', w', hrun, r1, r2, _⟩ := run_append_own (P := P) w w.heap.size t ty e i z 1 bytes ht hi hz hsize hby hzs (by omega) (.slice none 0 0) 0 [] (World.ownsRow_nil w w.heap.size e 1) ⟨b, o, none⟩ news.length c news (by omega) (by simpa only [Addr.add_lit] using hcu) h1 (by simpa using hmax) (by simpa using hbytes) (Nat.le_refl _)
    exact ⟨v', w', hrun, by rw [List.length_append]; exact r1, (Below.refl _ _).grown r2 (Nat.le_refl _) (by simp [Value.ownBlock])⟩
  · obtain ⟨v', w', hrun, r1, r2⟩ := run_append_arg_grows (P := P) w t ty e i z 1 bytes ht hi hz hsize hby hzs (by omega) x xs.length xs.length xs (by omega) hcx ⟨b, o, none⟩ news.length c news (by omega) (by simpa only [Addr.add_lit] using hcu) (by omega) hmax hbytes
    exact ⟨v', w', hrun, by rw [List.length_append]; exact r1, (Below.refl _ _).grown r2 (Nat.le_refl _) (by simp)⟩
theorem wp_append_tt {o : Oper} {a : Act} {K : Act → World → Prop} {Q : Exit → Act → World → Prop} (s x : Operand) (t : TypeId)
    (ho : o.op = .call { callee := .builtin .append, args := #[s, x], argTypes := #[t, t] })
    (e : TypeId) (i : TypeInfo) (z : Value) (bytes : Nat) (ht : P.underlying t = some (.slice e)) (hi : P.info? e = some i) (hz : i.zero = some z)
    (hsize : i.size = 1) (hby : i.bytes = bytes) (hzs : z.cells.size = 1)
    (A : Option Addr) (u : Value) (xs news : List Value) (m : Nat) (hm : m = xs.length) (hs : a.eval s = .slice A m m) (hx : a.eval x = u) (hv : Rd w (.slice A m m) xs) (hu : Rd w u news) (hn : 0 < news.length) (h1 : ∀ x ∈ news, x.oneCell' = true)
    (hbytes : (xs.length + news.length) * bytes ≤ 140737488355328) (hmax : xs.length + news.length ≤ maxLen)
    (h : ∀ v' w', w'.ownsRow w.heap.size e 1 v' (xs ++ news).length (xs ++ news) → Below w.heap.size w w' → K (a.put o.dst v') w') : o.wp P a w K Q := by
  subst hm
  obtain ⟨v', w', hr, h2, h3⟩ := run_append_tt (P := P) w t o.type e i z bytes ht hi hz hsize hby hzs A u xs news hv hu hn h1 hbytes hmax
  unfold Oper.wp execOp
  simp only [ho, resolve, invoke, builtin, Sem.run_bind, Sem.run_pure, Result.andThen_ok, List.map_toArray, List.map_cons, List.map_nil, hs, hx, hr]
  exact h v' w' h2 h3
theorem wpList_append_tt {ops : Array Oper} {rest : List Oper} {o : Oper} {a : Act} {Q : Exit → Act → World → Prop} (hgd : o.guard = none) (s x : Operand) (t : TypeId)
    (ho : o.op = .call { callee := .builtin .append, args := #[s, x], argTypes := #[t, t] })
    (e : TypeId) (i : TypeInfo) (z : Value) (bytes : Nat) (ht : P.underlying t = some (.slice e)) (hi : P.info? e = some i) (hz : i.zero = some z)
    (hsize : i.size = 1) (hby : i.bytes = bytes) (hzs : z.cells.size = 1)
    (A : Option Addr) (u : Value) (xs news : List Value) (m : Nat) (hm : m = xs.length) (hs : a.eval s = .slice A m m) (hx : a.eval x = u) (hv : Rd w (.slice A m m) xs) (hu : Rd w u news) (hn : 0 < news.length) (h1 : ∀ x ∈ news, x.oneCell' = true)
    (hbytes : (xs.length + news.length) * bytes ≤ 140737488355328) (hmax : xs.length + news.length ≤ maxLen)
    (h : ∀ v' w', w'.ownsRow w.heap.size e 1 v' (xs ++ news).length (xs ++ news) → Below w.heap.size w w' → wpList P ops Q rest (a.put o.dst v') w') : wpList P ops Q (o :: rest) a w :=
  wpList_plain hgd fun _ hK => wp_append_tt w s x t ho e i z bytes ht hi hz hsize hby hzs A u xs news m hm hs hx hv hu hn h1 hbytes hmax fun v' w' h2 h3 => hK _ _ (h v' w' h2 h3)
end
theorem OwB_mono0 {w : World} {B B' : Nat} {v : Value} {n : Nat} {xs : List Value} (hB : B' ≤ B) (h : w.ownsRow B 5 1 v n xs) : w.ownsRow B' 5 1 v n xs := by
  refine ⟨h.1, h.2.imp id ?_⟩
  rintro ⟨g, cap, cur, a, b, c⟩
  exact ⟨g, cap, cur, a, by omega, c⟩

set_option maxRecDepth 100000 in
set_option maxHeartbeats 1000000 in
theorem refPrefix_tight (A : Option Addr) (bl : List UInt8) (f : UInt8) (n : Int) (v : Nat) (w : World) (hb : Bs w (.slice A bl.length bl.length) bl) (hbl : bl.length ≤ 200000) (hv : v < 18446744073709551616) :
    Calls Try.prog 33 #[.slice A bl.length bl.length, .int .u8 f.toNat, .int .i64 n, .int .u64 v] w fun e w' => ∃ v', e = .returned v' ∧ OwB w' w.heap.size v' (bl ++ pre f (bitsOf n) v) ∧ Below w.heap.size w w' := by
  have hb0 : Rd w (.slice A bl.length bl.length) (bl.map bv) := hb
  obtain ⟨i0, hi, hz, hz1, hz2⟩ := info_parts infoU8n
  have Hi := Lib.hid hi
  have Hz := Lib.hid hz
  have Hz1 := Lib.hid hz1
  have Hz2 := Lib.hid hz2
  clear hi hz hz1 hz2
  
  obtain ⟨hk1, hk8, hkn⟩ := bitsOf_range n
  generalize bitsOf n = k at hk1 hk8 hkn ⊢
  have hM := full_range hk1 hk8
  have hfull : full (min (max n 1) 8) = ((2 ^ k - 1 : Nat) : Int) := by rw [hkn, full_nat]
  have ha := hi_andNot f hk1 hk8
  have hlt := hi_lt f hk1 hk8
  have Hor := Lib.hid (hi_or f hk1 hk8)
  have Hpf := Lib.hid (preFirst_val f hk1 hk8 v)
  have Hpre : Hid (pre f k v = if v < 2 ^ k - 1 then [preFirst f k v] else preFirst f k v :: cont 10 (v - (2 ^ k - 1))) := rfl
  
  have hfw := full_wrap (k : Int) (by omega) (by omega)
  rw [full_nat, Int.toNat_natCast] at hfw
  generalize pre f k v = PL at Hpre ⊢
  generalize preFirst f k v = pf at Hpf Hpre
  generalize hiOf f k = hi at ha hlt Hor Hpf
  generalize 2 ^ k - 1 = M at hM ha hlt Hor Hpf Hpre hfull hfw
  have Hfull := Lib.hid hfull
  clear hfull
  obtain ⟨hM1, hM2⟩ := hM
  
  have horM := Hor.out M (by omega)
  by_cases hvM : v < M
  · have hw8v : IntKind.u8.wrap (v : Int) = (v : Int) := by rw [IntKind.wrap_u8]; omega
    have horv := Hor.out v (by omega)
    have Hf := Hpf.out
    have Hp := Hpre.out
    rw [if_pos hvM] at Hp
    rw [show min v M = v from by omega] at Hf
    subst Hp
    have Hf2 := Lib.hid Hf
    clear Hpf Hpre Hf
    go_enter Try.func33, Try.ntmps33
    go_wp2_with (first
        | (at_builtin
           refine wpList_append_tt _ rfl _ _ 33 rfl 5 i0 (.int .u8 0) 1 Try.underlying33 Hi.out Hz.out Hz1.out Hz2.out rfl A _ (bl.map bv) _ bl.length (by simp) rfl rfl (hb0.alloc _) (Rd.lit w 5 _ 1 rfl (by simp [maxLen])) (by simp) (by simp [Value.oneCell']) (by simp; omega) (by simp [maxLen]; omega) ?_
           intro v2 w2 hap2' hb2'
           have hap2 := OwB_mono0 (by simp : w.heap.size ≤ (w.alloc (.cells #[_] 5)).heap.size) hap2'
           have hb2 := Below.mono hb2' (by simp : w.heap.size ≤ _)))
    go_ret
    refine ⟨v2, rfl, ?_, (Below.refl w.heap.size w).trans (((Below.refl _ _).alloc (Nat.le_refl _) _).trans hb2)⟩
    exact OwB.snoc hap2 pf Hf2.out.symm
  · have Hf := Hpf.out
    have Hp := Hpre.out
    rw [if_neg hvM] at Hp
    rw [show min v M = M from by omega] at Hf
    have Hp2 := Lib.hid Hp
    have Hf2 := Lib.hid Hf
    clear Hpf Hpre Hf Hp
    have hsub : IntKind.u64.wrap ((v : Int) - (M : Int)) = ((v - M : Nat) : Int) := by rw [IntKind.wrap_u64]; omega
    go_enter Try.func33, Try.ntmps33
    go_wp2_with (first
        | (at_builtin
           refine wpList_append_tt _ rfl _ _ 33 rfl 5 i0 (.int .u8 0) 1 Try.underlying33 Hi.out Hz.out Hz1.out Hz2.out rfl A _ (bl.map bv) _ bl.length (by simp) rfl rfl (hb0.alloc _) (Rd.lit w 5 _ 1 rfl (by simp [maxLen])) (by simp) (by simp [Value.oneCell']) (by simp; omega) (by simp [maxLen]; omega) ?_
           intro v2 w2 hap2' hb2'
           have hap2 := OwB_mono0 (by simp : w.heap.size ≤ (w.alloc (.cells #[_] 5)).heap.size) hap2'
           have hb2 := Below.mono hb2' (by simp : w.heap.size ≤ _)))
    have hap3 := OwB.snoc hap2 pf Hf2.out.symm
    have hb3 : Below w.heap.size w w2 := (Below.refl w.heap.size w).trans (((Below.refl _ _).alloc (Nat.le_refl _) _).trans hb2)
    clear hap2 hb2
    have hlen3 : (bl ++ [pf]).length = bl.length + 1 := by simp
    have Hgoal : Hid ((bl ++ [pf]) ++ cont 10 (v - M) = bl ++ PL) := by rw [Hp2.out]; simp [Hid]
    have hl1 : (bl ++ [pf]).length ≤ bl.length + 1 := by omega
    clear hlen3
    generalize bl ++ [pf] = l0 at hap3 Hgoal hl1
    have hq : v - M < 128 ^ (9 + 1) := by have : (18446744073709551616 : Nat) ≤ 128 ^ (9 + 1) := by decide
                                          omega
    clear ha horM Hor hsub hvM Hf2 Hfull Hp2
    have hq64 : v - M < 18446744073709551616 := by omega
    generalize v - M = q at hq hq64 Hgoal ⊢
    have Hgoal2 := Lib.hid Hgoal.out
    clear Hgoal
    go_wp2
    go_loopw [0, 3] (fun ov xv wr => PrefRelO (bl ++ PL) bl w.heap.size w ov xv wr) (fun _ xv _ => (intOf xv).toNat)
    case atStart => exact ⟨9, q, l0, rfl, hq64, hq, by omega, Hgoal2.out, by omega, hap3, hb3⟩
    case round =>
      obtain ⟨m, x, l1, rfl, hxq, hxm, hm9, hG, hl, hap4, hb4⟩ := hrel
      have HG := Lib.hid hG
      clear hG hap3 hb3
      have hxi : (x : Int) < 18446744073709551616 := by omega
      have Hxq := Lib.hid hxq
      have Hxm := Lib.hid hxm
      have Hr0 : Hid (¬ x < 128 → ∃ q, m = q + 1 ∧ x / 128 < 128 ^ (q + 1)) := fun h => pow128 x m hxm (by omega)
      clear hxq hxm hv hq hq64 hxi
      have hsz := hb4.size
      by_cases hx : x < 128
      · have hx' : (x : Int) < 256 := by omega
        go_wp2_with (first
          | (at_builtin
             refine wpList_append_og _ rfl _ _ 33 rfl w.heap.size 5 i0 (.int .u8 0) 1 Try.underlying33 Hi.out Hz.out Hz1.out Hz2.out rfl _ _ (l1.map bv) _ rfl rfl (hap4.alloc _) (Rd.lit wr 5 _ 1 rfl (by simp [maxLen])) (by simp [Value.oneCell']) (by simp; omega) (by simp [maxLen]; omega) (by have := hb4.size; simp; omega) ?_
             intro v2 w2 hap2 hb2 _))
        go_ret
        have hap5 := OwB.snoc hap2 (UInt8.ofNat x) (by rw [UInt8.toNat_ofNat', Nat.mod_eq_of_lt (by have : (2:Nat) ^ 8 = 256 := rfl; omega)])
        refine ⟨_, rfl, ?_, hb4.trans (((Below.refl _ _).alloc (by have := hb4.size; omega) _).trans hb2)⟩
        rw [← HG.out, cont_last _ _ hx]
        exact hap5
      · obtain ⟨r, rfl, hr⟩ := Hr0.out hx
        have Hr := Lib.hid hr
        clear hr
        have ho := or128 x
        have hand := u64_mask x 7 127 (by rfl) (by omega) Hxq.out
        have ho2 : bits .or .u8 ((x : Int) % 128) 128 = ((x % 128 + 128 : Nat) : Int) := by have h := or128 (x % 128); rw [show (((x % 128 : Nat) : Int) % 256) = (x : Int) % 128 from by omega] at h; rw [h]; omega
        go_wp2_with (first
          | (at_builtin
             refine wpList_append_og _ rfl _ _ 33 rfl w.heap.size 5 i0 (.int .u8 0) 1 Try.underlying33 Hi.out Hz.out Hz1.out Hz2.out rfl _ _ (l1.map bv) _ rfl rfl (hap4.alloc _) (Rd.lit wr 5 _ 1 rfl (by simp [maxLen])) (by simp [Value.oneCell']) (by simp; omega) (by simp [maxLen]; omega) (by have := hb4.size; simp; omega) ?_
             intro v2 w2 hap2 hb2 _))
        have hap5 := OwB.snoc hap2 (UInt8.ofNat (x % 128 + 128)) (by rw [UInt8.toNat_ofNat', Nat.mod_eq_of_lt (by have : (2:Nat) ^ 8 = 256 := rfl; omega)]; omega)
        clear hap2
        go_roundw
        case rel =>
          refine ⟨r, x / 128, l1 ++ [UInt8.ofNat (x % 128 + 128)], by go_num, by have := Hxq.out; omega, Hr.out, by omega, ?_, by simp; omega, hap5, hb4.trans (((Below.refl _ _).alloc (by have := hb4.size; omega) _).trans hb2)⟩
          rw [← HG.out, cont_more (r + 1) x (by omega), List.append_assoc]
          rfl
        case measure => simp [intOf]; omega

set_option maxRecDepth 100000 in
set_option maxHeartbeats 1000000 in
theorem putStr_tight (A : Option Addr) (l : List UInt8) (f : UInt8) (k : Nat) (hk1 : 1 ≤ k) (hk7 : k ≤ 7) (s : ByteArray) (w : World) (hb : Bs w (.slice A l.length l.length) l) (hl : l.length ≤ 50000) (hs : s.size ≤ 20000) :
    Calls Try.prog 24 #[.slice A l.length l.length, .int .u8 f.toNat, .int .i64 (k : Int), .string s] w fun e w' => ∃ v', e = .returned v' ∧ OwB w' w.heap.size v' (l ++ putSk f k s.data.toList) ∧ Below w.heap.size w w' := by
  have hsl : s.data.toList.length = s.size := by simp
  have hbl := bitLen_le s.data.toList
  have hhl := fun W => huffLen_any s W (by omega)
  have hel := enc0_length s.data.toList
  obtain ⟨n, hn⟩ : ∃ n, (bitLen s.data.toList + 7) / 8 = n := ⟨_, rfl⟩
  rw [hn] at hhl hel
  have hn2 : n ≤ 100000 := by omega
  have hshl := shl_u8 k hk7 1
  rw [shl_one8 k hk7] at hshl
  have hor := hiB_val f k hk7
  obtain ⟨p2, hp2⟩ : ∃ p2, 2 ^ k = p2 := ⟨_, rfl⟩
  rw [hp2] at hshl hor
  clear hp2
  have hbk : bitsOf (k : Int) = k := by unfold bitsOf; omega
  have hwn : IntKind.u64.wrap (n : Int) = (n : Int) := by simp only [IntKind.wrap_u64]; omega
  have hws : IntKind.u64.wrap (s.size : Int) = (s.size : Int) := by simp only [IntKind.wrap_u64]; omega
  have HL := Bx.mk hhl
  have HB := Bx.mk hb
  have HE := Bx.mk hel
  have HK : Bx (1 ≤ k ∧ k ≤ 7 ∧ l.length ≤ 50000 ∧ s.size ≤ 20000 ∧ n ≤ 100000 ∧ bitsOf (k : Int) = k) := ⟨hk1, hk7, hl, hs, hn2, hbk⟩
  obtain ⟨i0, hi, hz, hz1, hz2⟩ := info_parts infoU8
  have HI : Bx (Try.prog.info? 5 = some i0 ∧ i0.zero = some (.int .u8 0) ∧ i0.size = 1 ∧ i0.bytes = 1) := ⟨hi, hz, hz1, hz2⟩
  have HPUT : Bx (putSk f k s.data.toList = if n < s.size then pre (hiB f k) k (enc s.data.toList 0 0).length ++ enc s.data.toList 0 0 else pre f k s.size ++ s.data.toList) := ⟨by unfold putSk; rw [hn, hsl]⟩
  have HPL : Bx ((pre (hiB f k) k n).length ≤ 11 ∧ (pre f k s.size).length ≤ 11) := ⟨(pre_len _ _ _).2, (pre_len _ _ _).2⟩
  clear hhl hb hel hk1 hk7 hl hs hn2 hbk hi hz hz1 hz2 hbl hn
  by_cases hlt : n < s.size
  · have hd : decide (n < s.size) = true := decide_eq_true (by omega)
    have HP := HPUT.out
    rw [if_pos hlt, HE.out] at HP
    have HP2 := Bx.mk HP
    clear HPUT HP hlt
    go_enter Try.func24, Try.ntmps24
    go_wp2_with fail
    refine (HL.out w).mono ?_
    rintro e w1 ⟨rfl, b1⟩
    have HB1 := Bx.mk (HB.out.keep b1)
    have HW1 := Bx.mk b1
    clear b1
    go_wp2_with fail
    refine (refPrefix_tight A l (hiB f k) (k : Int) n w1 HB1.out (by have := HK.out; omega) (by have := HK.out; omega)).mono ?_
    rintro e w2 ⟨v2, rfl, ho2, b2⟩
    rw [HK.out.2.2.2.2.2] at ho2
    have HB2 := Bx.mk (ho2.mono HW1.out.size)
    have HW2 := Bx.mk (HW1.out.trans (b2.mono HW1.out.size))
    have HB2S := Bx.mk HW2.out.size
    clear ho2 b2
    go_wp2_with fail
    refine (huffman_own w.heap.size v2 _ s w2 HB2.out HB2S.out (by have := HK.out; have := HPL.out.1; rw [List.length_append]; omega) (by have := HK.out; omega)).mono ?_
    rintro e w3 ⟨v3, rfl, ho3, b3⟩
    have HB3 := Bx.mk ho3
    have HW3 := Bx.mk (HW2.out.trans b3)
    clear ho3 b3
    go_wp2_with fail
    go_ret
    refine ⟨_, rfl, ?_, HW3.out⟩
    rw [HP2.out, ← List.append_assoc]
    exact HB3.out
  · have hd : decide (n < s.size) = false := decide_eq_false (by omega)
    have HP := HPUT.out
    rw [if_neg hlt] at HP
    have HP2 := Bx.mk HP
    clear HPUT HP hlt
    go_enter Try.func24, Try.ntmps24
    go_wp2_with fail
    refine (HL.out w).mono ?_
    rintro e w1 ⟨rfl, b1⟩
    have HB1 := Bx.mk (HB.out.keep b1)
    have HW1 := Bx.mk b1
    clear b1
    go_wp2_with fail
    refine (refPrefix_tight A l f (k : Int) s.size w1 HB1.out (by have := HK.out; omega) (by have := HK.out; omega)).mono ?_
    rintro e w2 ⟨v2, rfl, ho2, b2⟩
    rw [HK.out.2.2.2.2.2] at ho2
    have HB2 := Bx.mk (ho2.mono HW1.out.size)
    have HW2 := Bx.mk (HW1.out.trans (b2.mono HW1.out.size))
    have HB2S := Bx.mk HW2.out.size
    have HL2 : Bx ((l ++ pre f k s.size).length ≤ 60000) := ⟨by have := HK.out; have := HPL.out.2; rw [List.length_append]; omega⟩
    clear ho2 b2
    go_wp2_with (at_builtin; refine Lib.wpList_append_own_string _ rfl _ _ 33 9 rfl w.heap.size 5 i0 Try.underlying33 Try.underlying9 HI.out.1 HI.out.2.1 HI.out.2.2.1 HI.out.2.2.2 v2 _ _ rfl HB2.out s rfl (by have := HK.out; have := HL2.out; unfold maxLen; rw [List.length_map]; omega) (by have := HK.out; have := HL2.out; rw [List.length_map]; omega) HB2S.out ?_; intro v3 w3 ho3 hg3 _)
    have HB3 := Bx.mk (OwB.str ho3)
    have HW3 : Bx (Below w.heap.size w w3) := ⟨HW2.out.trans ((Below.refl _ _).grown hg3 HB2S.out fun k hk => HB2.out.ge hk)⟩
    go_ret
    refine ⟨_, rfl, ?_, HW3.out⟩
    rw [HP2.out, ← List.append_assoc]
    exact HB3.out

end Go.Proofs.Ythnaapjefedalaa

/-
  What the arguments of a law are, as lists: from the row's reading to Bs and to lists of numbers.
-/
namespace Go.Proofs.Ythnaapjefedalaa
open Go.ChangeShapes Go.WideShapes Go.ChangeAt Go.RowKit
set_option linter.unusedVariables false

/-- A slice of integers that came in: nil, or a row of cap cells that hold the numbers zs, each of its kind. -/
def IsRow (k : IntKind) (w : World) (a : Option Addr) (len cap : Nat) (zs : List Int) : Prop :=
  (a = none ∧ len = 0 ∧ cap = 0 ∧ zs = []) ∨
  ∃ x, a = some x ∧ len ≤ cap ∧ cap ≤ maxLen ∧ zs.length = cap ∧ (∀ i, i < zs.length → w.cell? (x.add i) = some (.int k (zs.getD i 0))) ∧ ∀ n ∈ zs, (Lit.int k n).wf = true

theorem wf_range {k : IntKind} {n : Int} (h : (Lit.int k n).wf = true) : k.min ≤ n ∧ n ≤ k.max := by
  simpa [Lit.wf] using h

theorem IsRow.rd {k : IntKind} {w : World} {a : Option Addr} {len cap : Nat} {zs : List Int} (h : IsRow k w a len cap zs) : Rd w (.slice a len cap) ((zs.take len).map (Value.int k)) := by
  rcases h with ⟨rfl, rfl, rfl, rfl⟩ | ⟨x, rfl, h1, h2, h3, h4, h5⟩
  · exact Rd.nil w
  · refine ⟨some x, cap, ?_, ?_, h2, .inr ⟨x, rfl, fun j u hu => ?_⟩⟩
    · simp; omega
    · simp; omega
    · rw [List.getElem?_map] at hu
      have hj : j < (zs.take len).length := by
        rcases Nat.lt_or_ge j (zs.take len).length with h | h
        · exact h
        · rw [List.getElem?_eq_none h] at hu; simp at hu
      have hj2 : j < zs.length := by simp at hj; omega
      rw [List.getElem?_eq_getElem hj] at hu
      simp at hu
      rw [h4 j hj2, ← hu]
      simp [List.getD, hj2]

theorem IsRow.all {k : IntKind} {w : World} {a : Option Addr} {len cap : Nat} {zs : List Int} (h : IsRow k w a len cap zs) : ∀ n ∈ zs.take len, k.min ≤ n ∧ n ≤ k.max := by
  rcases h with ⟨rfl, rfl, rfl, rfl⟩ | ⟨x, rfl, h1, h2, h3, h4, h5⟩
  · simp
  · intro n hn; exact wf_range (h5 n (List.mem_of_mem_take hn))

theorem IsRow.len {k : IntKind} {w : World} {a : Option Addr} {len cap : Nat} {zs : List Int} (h : IsRow k w a len cap zs) : (zs.take len).length = len := by
  rcases h with ⟨rfl, rfl, rfl, rfl⟩ | ⟨x, rfl, h1, h2, h3, h4, h5⟩
  · simp
  · simp; omega

/-- Bytes that came in. -/
theorem IsRow.bytes {w : World} {a : Option Addr} {len cap : Nat} {zs : List Int} (h : IsRow .u8 w a len cap zs) : ∃ l : List UInt8, Bs w (.slice a len cap) l ∧ l.length = len := by
  refine ⟨(zs.take len).map fun n => UInt8.ofNat n.toNat, ?_, by rw [List.length_map]; exact h.len⟩
  have hr := h.rd
  have e : ((zs.take len).map fun n => UInt8.ofNat n.toNat).map bv = (zs.take len).map (Value.int .u8) := by
    rw [List.map_map]
    apply List.map_congr_left
    intro n hn
    have := h.all n hn
    simp [IntKind.min, IntKind.max, IntKind.signed, IntKind.bits] at this
    simp only [Function.comp, bv]
    congr 1
    rw [UInt8.toNat_ofNat', Nat.mod_eq_of_lt (by have : (2:Nat) ^ 8 = 256 := rfl; omega)]
    omega
  unfold Bs
  rw [e]
  exact hr

end Go.Proofs.Ythnaapjefedalaa

/-
  A slice of fields copied; a name stored into it.
-/
namespace Go.Proofs.Ythnaapjefedalaa
open Go.RowKit
set_option linter.unusedVariables false

/-- append(nil, l...). -/
theorem Fs.copy {w : World} {v : Value} {l : List Fd} (h : Fs w v l) (hl : l.length ≤ 100000) (ty : TypeId) :
    ∃ v' w', (Builtin.append_ #[31, 31] ty #[.slice none 0 0, v]).run Try.prog w = .ok v' w' ∧ St w' v' l ∧ (∀ k, v'.ownBlock = some k → w.heap.size ≤ k) ∧ Below w.heap.size w w' := by
  obtain ⟨i, hi, hz, hs, hb⟩ := infoF_get
  have hone : ∀ x ∈ l.flatMap fvl, x.oneCell' = true := one_fvl
  have fresh : ∀ (v' : Value) (w' : World), w'.ownsRow w.heap.size 58 2 v' l.length (l.flatMap fvl) → St w' v' l ∧ ∀ k, v'.ownBlock = some k → w.heap.size ≤ k := by
    intro v' w' ho
    refine ⟨St.of_own ho, fun k hk => ?_⟩
    rcases ho.2 with ⟨rfl, h0⟩ | ⟨g, cap, cur, rfl, hb, _⟩
    · simp [Value.ownBlock] at hk
    · simp only [Value.ownBlock, Option.some.injEq] at hk
      subst hk
      exact hb
  obtain ⟨A, c, rfl, h1, h2, hlen, h3⟩ := h
  rcases h3 with ⟨rfl, h0⟩ | ⟨x, rfl, hc⟩
  · obtain rfl : l = [] := List.eq_nil_of_length_eq_zero (by omega)
    exact ⟨.slice none 0 0, w, run_append_owned_none w w.heap.size 31 ty 58 i 2 Try.underlying31 hi (.slice none 0 0) 0 [] (World.ownsRow_nil w _ _ 2), St.nil w, fun k hk => by simp [Value.ownBlock] at hk, Below.refl _ _⟩
  · obtain ⟨v', w', hrun, r1, r2, _⟩ := run_append_own (P := Try.prog) w w.heap.size 31 ty 58 i _ 2 32 Try.underlying31 hi hz hs hb rfl (by omega) (.slice none 0 0) 0 [] (World.ownsRow_nil w _ _ 2) x l.length c (l.flatMap fvl) hlen hc hone (by unfold maxLen; omega) (by omega) (Nat.le_refl _)
    obtain ⟨a, b⟩ := fresh v' w' (by simpa using r1)
    exact ⟨v', w', hrun, a, b, (Below.refl _ _).grown r2 (Nat.le_refl _) (by simp [Value.ownBlock])⟩

set_option maxRecDepth 100000 in
/-- A field's name, stored. -/
theorem St.putName {w : World} {v : Value} {L : List Fd} (h : St w v L) (i : Nat) (hi : i < L.length) :
    ∃ g o, v.ownBlock = some g ∧ (∀ (q : IntKind) (W : World), (Instr.indexAt 31 v (.int q (i : Int))).run Try.prog W = .ok (.pointer (some ⟨g, o, none⟩)) W) ∧
      ∀ W, St W v L → (∃ x, W.cell? ⟨g, o, none⟩ = some (.string x)) ∧ W.frozen? ⟨g, o, none⟩ = false ∧ ∀ a : ByteArray, St (W.setCell ⟨g, o, none⟩ (.string a)) v (L.set i (a, L[i].2)) := by
  rcases h with ⟨rfl, rfl⟩ | ⟨g, o, cap, m, F, rfl, hr, h1, h2, h3, h4⟩
  · simp at hi
  · have hsz : ∀ W : World, (sizeOf (Try.prog.elem 31)).run Try.prog W = .ok 2 W := fun W => by kernel_rfl
    refine ⟨g, o + i * 2, rfl, fun q W => ?_, fun W hW => ?_⟩
    · simp [Instr.indexAt, asIntOf, run_underlying Try.underlying31, Sem.run_bind, hi, Result.andThen]
      simp [Addr.add]
    · rcases hW with ⟨e, _⟩ | ⟨g', o', cap', m', F', e, hr', k1, k2, k3, k4⟩
      · cases e
      · injection e with e1 e2 e3
        injection e1 with e1
        injection e1 with e1 e4
        subst e1; subst e4; subst e3
        have hv := fvl_at L i hi
        refine ⟨⟨L[i].1, by rw [hr'.cell (by omega)]; congr 1; exact k4 _ _ hv.1⟩, hr'.frozen _, fun a => ?_⟩
        refine .inr ⟨g, o, cap, m', _, by rw [List.length_set], hr'.set (o + i * 2) (.string a), by rw [List.length_set]; exact k1, k2, k3, fun j u hu => ?_⟩
        have hjl : j < (L.set i (a, L[i].2)).length * 2 := by
          have := (List.getElem?_eq_some_iff.1 hu).1
          rwa [fvl_length] at this
        rw [List.length_set] at hjl
        have hd : j / 2 < L.length := by omega
        have hv2 := fvl_at (L.set i (a, L[i].2)) (j / 2) (by rw [List.length_set]; exact hd)
        have hv3 := fvl_at L (j / 2) hd
        by_cases hji : j / 2 = i
        · rcases Nat.mod_two_eq_zero_or_one j with hm | hm
          · have ej : j / 2 * 2 = j := by omega
            rw [ej] at hv2
            rw [hv2.1] at hu
            rw [if_pos (by omega), ← Option.some.inj hu]
            simp [hji]
          · have ej : j / 2 * 2 + 1 = j := by omega
            rw [ej] at hv2 hv3
            rw [hv2.2] at hu
            rw [if_neg (by omega), ← Option.some.inj hu, k4 j _ hv3.2]
            simp [hji]
        · rw [if_neg (by omega)]
          refine k4 j u ?_
          rw [← hu]
          rcases Nat.mod_two_eq_zero_or_one j with hm | hm
          · have ej : j / 2 * 2 = j := by omega
            rw [ej] at hv2 hv3
            rw [hv2.1, hv3.1]
            simp [List.getElem_set_ne (Ne.symm hji)]
          · have ej : j / 2 * 2 + 1 = j := by omega
            rw [ej] at hv2 hv3
            rw [hv2.2, hv3.2]
            simp [List.getElem_set_ne (Ne.symm hji)]
end Go.Proofs.Ythnaapjefedalaa
