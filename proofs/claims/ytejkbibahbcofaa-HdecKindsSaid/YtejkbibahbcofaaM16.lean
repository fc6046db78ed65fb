/-
  Texts put together: PdA, HdC, StFds, StC0.
-/
import Derived.Test.YtejkbibahbcofaaM11
import Derived.Test.YtejkbibahbcofaaM09
import Derived.Test.YtejkbibahbcofaaM14
import Derived.Test.YtejkbibahbcofaaM15
import Derived.WalkKit
import Derived.WalkSpells
import Derived.WalkLawsBesides
import Derived.Handy
import Derived.Deep.WholeRow

/-
  Contract of hdec.Str.
-/
namespace Go.Proofs.Ytejkbibahbcofaa
open Go.RowKit
set_option linter.unusedVariables false

set_option maxRecDepth 100000 in
set_option maxHeartbeats 1000000 in
theorem str_any (bV : Value) (l : List UInt8) (w : World) (hb : Bs w bV l) (hlm : l.length ≤ 1000000) :
    Calls Try.prog 20 #[bV] w fun e w' => e = AnsS (sb 7 l) ∧ Below w.heap.size w w' := by
  have hcall := readPrefix_any bV l 7 w hb hlm
  rw [show bitsOf 7 = 7 from rfl] at hcall
  have HBV := Bx.mk hb
  have hlenb := fun ty W => hb.run_len ty W
  clear hb
  rcases rp_cases 7 l with hr | hr | ⟨n, m, hr, hm1, hml, hnv⟩
  · have HR := Bx.mk (sb_err hr (by decide))
    rw [hr] at hcall
    unfold Ans3 at hcall
    dsimp only at hcall
    have HCALL := Bx.mk hcall
    clear hr hcall hlenb
    go_enter Try.func20, Try.ntmps20
    go_wp2_with (go_at_call 44; refine HCALL.out.mono ?_; rintro e w1 ⟨rfl, rfl⟩)

    go_ret3
    exact ⟨by rw [HR.out]; rfl, Below.refl _ _⟩
  · have HR := Bx.mk (sb_err hr (by decide))
    rw [hr] at hcall
    unfold Ans3 at hcall
    dsimp only at hcall
    have HCALL := Bx.mk hcall
    clear hr hcall hlenb
    go_enter Try.func20, Try.ntmps20
    go_wp2_with (go_at_call 44; refine HCALL.out.mono ?_; rintro e w1 ⟨rfl, rfl⟩)
    go_ret3
    exact ⟨by rw [HR.out]; rfl, Below.refl _ _⟩
  · rw [hr] at hcall
    unfold Ans3 at hcall
    dsimp only at hcall
    have HCALL := Bx.mk hcall
    clear hcall
    have hnl : n < 9223372036854775808 := by unfold maxVar at hnv; omega
    by_cases hn : 4096 < n
    · have HR := Bx.mk (sb_long hr (by omega : (4096 : Int) < (n : Int)))
      have hd : decide ((4096 : Int) < (n : Int)) = true := by rw [decide_eq_true_iff]; omega
      clear hr hlenb
      go_enter Try.func20, Try.ntmps20
      go_wp2_with (go_at_call 44; refine HCALL.out.mono ?_; rintro e w1 ⟨rfl, rfl⟩)
      go_ret3
      exact ⟨by rw [HR.out]; rfl, Below.refl _ _⟩
    · have hd : decide ((4096 : Int) < (n : Int)) = false := by rw [decide_eq_false_iff_not]; omega
      obtain ⟨r, hr1⟩ : ∃ r : Nat, l.length = m + r := ⟨l.length - m, by omega⟩
      have hwn : IntKind.i64.wrap (n : Int) = (n : Int) := by simp only [IntKind.wrap_i64]; omega
      obtain ⟨s, hs⟩ : ∃ s : Nat, m + n = s := ⟨_, rfl⟩
      have hs' : (m : Int) + (n : Int) = (s : Int) := by omega
      obtain ⟨nl, hnl⟩ : ∃ nl, l.length = nl := ⟨_, rfl⟩
      have hws : IntKind.i64.wrap (s : Int) = (s : Int) := by simp only [IntKind.wrap_i64]; omega
      rw [hnl] at hlenb
      by_cases hrn : r < n
      · have HR := Bx.mk (sb_more hr (by omega : ¬ (4096 : Int) < (n : Int)) (by omega))
        have hd2 : nl < s := by omega
        have hd3 : decide (nl < s) = true := decide_eq_true hd2
        clear hr hr1 hnl hs
        go_enter Try.func20, Try.ntmps20
        go_wp2_with (go_at_call 44; refine HCALL.out.mono ?_; rintro e w1 ⟨rfl, rfl⟩)
        go_ret3
        exact ⟨by rw [HR.out]; rfl, Below.refl _ _⟩
      · have hd2 : ¬ nl < s := by omega
        have hd3 : decide (nl < s) = false := decide_eq_false hd2
        obtain ⟨v', hsl, hbs⟩ := HBV.out.mid (m : Int) (s : Int) (by omega) (by omega) (by omega)
        have HB' := Bx.mk (hbs w HBV.out)
        obtain ⟨p, hix, hcp⟩ := HBV.out.at_ 0 (by omega)
        have hc := hcp w HBV.out
        have hc256 : l[0].toNat < 256 := l[0].toNat_lt
        have hhd : l.headD 0 = l[0]'(by omega) := by cases l with | nil => simp at hr1; omega | cons x t => rfl
        rw [Int.toNat_natCast, Int.toNat_natCast] at HB'
        have hbl : ((l.take s).drop m).length = n := by simp; omega
        clear hcp hbs
        by_cases hbit : l[0].toNat / 2 ^ 7 % 2 = 0
        · have HR := Bx.mk (sb_plain hr (by omega : ¬ (4096 : Int) < (n : Int)) (by omega) (by rw [hhd]; exact hbit))
          rw [hs', Int.toNat_natCast, Int.toNat_natCast] at HR
          have hab : ((l[0].toNat : Nat) : Int) / 2 ^ 7 = 0 := by omega
          have hab2 : ((l[0].toNat : Nat) : Int) / 128 = 0 := by omega
          generalize l[0].toNat = c at hc hc256 hab hab2
          have hstr := conv_str HB'.out
          clear hr hbit hhd hr1 hnl hs
          generalize (l.take s).drop m = body at HR HB' hstr
          go_enter Try.func20, Try.ntmps20
          go_wp2_with (first
            | (go_at_call 44; refine HCALL.out.mono ?_; rintro e w1 ⟨rfl, rfl⟩)
            | (with_reducible refine wpList_indexAddr (v := .pointer (some p)) (by with_unfolding_all exact hix _) ?_))
          go_ret3
          exact ⟨by rw [HR.out]; rfl, Below.refl _ _⟩
        · obtain ⟨Rs, Re, hR⟩ : ∃ Rs Re, dec (allBits ((l.take s).drop m)) [] 0 0 = (Rs, Re) := ⟨_, _, rfl⟩
          have hR' : dec (allBits ((l.take ((m : Int) + (n : Int)).toNat).drop (m : Int).toNat)) [] 0 0 = (Rs, Re) := by rw [hs', Int.toNat_natCast, Int.toNat_natCast]; exact hR
          have hbit1 : l[0].toNat / 2 ^ 7 % 2 = 1 := by omega
          have hab : ((l[0].toNat : Nat) : Int) / 2 ^ 7 = 1 := by omega
          have hab2 : ((l[0].toNat : Nat) : Int) / 128 = 1 := by omega
          have hun := decode_any v' _ w HB'.out (by omega)
          rw [hR] at hun
          unfold Ans at hun
          dsimp only at hun
          have HUN := Bx.mk hun
          clear hun
          by_cases he : Re = 0
          · have HR := Bx.mk (sb_coded hr (by omega : ¬ (4096 : Int) < (n : Int)) (by omega) (by rw [hhd]; exact hbit) hR' he)
            rw [hs'] at HR
            subst he
            generalize l[0].toNat = c at hc hc256 hab hab2
            clear hr hbit hbit1 hhd hr1 hR hR' HB' hbl hnl hs
            go_enter Try.func20, Try.ntmps20
            go_wp2_with (first
              | (go_at_call 44; refine HCALL.out.mono ?_; rintro e w1 ⟨rfl, rfl⟩)
              | (go_at_call 45; refine HUN.out.mono ?_; rintro e w2 ⟨rfl, hb2⟩)
              | (with_reducible refine wpList_indexAddr (v := .pointer (some p)) (by with_unfolding_all exact hix _) ?_))
            go_ret3
            exact ⟨by rw [HR.out]; rfl, hb2⟩
          · have HR := Bx.mk (sb_bad hr (by omega : ¬ (4096 : Int) < (n : Int)) (by omega) (by rw [hhd]; exact hbit) hR' he)
            have hbe : ((Re : Int) == 0) = false := by simp; exact he
            generalize l[0].toNat = c at hc hc256 hab hab2
            clear hr hbit hbit1 hhd hr1 hR hR' HB' hbl hnl hs
            go_enter Try.func20, Try.ntmps20
            go_wp2_with (first
              | (go_at_call 44; refine HCALL.out.mono ?_; rintro e w1 ⟨rfl, rfl⟩)
              | (go_at_call 45; refine HUN.out.mono ?_; rintro e w2 ⟨rfl, hb2⟩)
              | (with_reducible refine wpList_indexAddr (v := .pointer (some p)) (by with_unfolding_all exact hix _) ?_))
            go_ret3
            exact ⟨by rw [HR.out]; rfl, hb2⟩

end Go.Proofs.Ytejkbibahbcofaa

/-
  Contracts of the document's Limit and bad.
-/
namespace Go.Proofs.Ytejkbibahbcofaa
open Go.RowKit Go.Maps
set_option linter.unusedVariables false

section
variable {q t : Nat} {T : Tab} {mx : Nat} {mu bd : Bool} {w w' : World} {S : Nat → Prop}
theorem Dc.free (h : Dc q t T mx mu bd w S) (i : Nat) : w.frozen? ⟨q, i, none⟩ = false := by
  obtain ⟨S', h1, _⟩ := h
  exact h1.frozen i
theorem Dc.tcells (h : Dc q t T mx mu bd w S) : w.cell? ⟨t, 1, none⟩ = some (.int .i64 (T.cap : Int)) ∧ w.cell? ⟨t, 2, none⟩ = some (.int .u64 (T.tot : Int)) := by
  obtain ⟨S', h1, h2, _⟩ := h
  obtain ⟨v, _, c1, c2, _⟩ := h2.cells
  exact ⟨c1, c2⟩

set_option maxRecDepth 100000 in
set_option maxHeartbeats 1000000 in
theorem bad_any (h : Dc q t T mx mu bd w S) :
    Calls Try.prog 36 #[.pointer (some ⟨q, 0, none⟩)] w fun e w' => e = .returned (.tuple #[.slice none 0 0, .int .i64 26]) ∧ Turn (Dc q t T mx mu true) S w w' := by
  have HT := Bx.mk (h.setBad true)
  obtain ⟨c0, c1, c2, c3⟩ := h.cells
  have f3 := h.free 3
  clear h
  go_enter Try.func36, Try.ntmps36
  go_wp2
  go_ret2
  exact ⟨rfl, HT.out⟩
/-- What a limit makes of the table. -/
def limT (T : Tab) (n : Nat) : Tab := if n < T.cap then T.resize (n : Int) else T

set_option maxRecDepth 100000 in
set_option maxHeartbeats 1000000 in
theorem limit_any (h : Dc q t T mx mu bd w S) (n : Int) :
    Calls Try.prog 19 #[.pointer (some ⟨q, 0, none⟩), .int .i64 n] w fun e w' => e = .returned (.tuple #[]) ∧ Turn (Dc q t (limT T (clampN n)) (clampN n) (mu || decide (clampN n < T.cap)) bd) S w w' := by
  have hle := clampN_le n
  have HC := Bx.mk (clampD_any n)
  generalize clampN n = c at HC hle ⊢
  obtain ⟨c0, c1, c2, c3⟩ := h.cells
  have f1 := h.free 1
  obtain ⟨t1, _⟩ := h.tcells
  have HT0 := Bx.mk h
  obtain ⟨S1, x1, s1, g1⟩ := h.setMax c
  obtain ⟨d0, d1, d2, d3⟩ := x1.cells
  obtain ⟨u1, _⟩ := x1.tcells
  have HX := Bx.mk (x1.keep (Below.refl _ _).drew)
  have HS := Bx.mk s1
  have HG := Bx.mk (g1.then (Fp.of_below (S := S) (Below.refl _ (w.setCell ⟨q, 1, none⟩ (.int .i64 (c : Int)))).drew))
  clear h x1 s1 g1
  by_cases hlt : c < T.cap
  · have hd : decide (c < T.cap) = true := by rw [decide_eq_true_iff]; omega
    have HL : Bx (limT T c = T.resize (c : Int) ∧ (mu || decide (c < T.cap)) = true) := ⟨by unfold limT; rw [if_pos hlt], by simp [hlt]⟩
    rw [HL.out.1, HL.out.2]
    clear hlt
    go_enter Try.func19, Try.ntmps19
    go_wp2_with (go_at_call 32; refine (HC.out _).mono ?_; rintro e w1 ⟨rfl, rfl⟩)
    go_region
    clear c0 c1 c2 c3 f1 t1 d0 d1 d2 d3 u1
    generalize (w.setCell ⟨q, 1, none⟩ (.int .i64 (c : Int))).drew = w5 at HX HG ⊢
    obtain ⟨d0, d1, d2, d3⟩ := HX.out.cells
    obtain ⟨S2, k1, k2, k3, k4, k5⟩ := HX.out
    have HRS := Bx.mk (fun W (hW : Below w5.heap.size w5 W) => refResize_any (k2.keep hW) (c : Int) (by omega))
    have HD := Bx.mk (fun W (hW : Below w5.heap.size w5 W) => HX.out.keep hW)
    have HTR : Bx (∀ W wx, Below w5.heap.size w5 W → Turn (Rt t (T.resize (c : Int))) S2 W wx → Turn (Dc q t (T.resize (c : Int)) c mu bd) S1 w5 wx) := ⟨fun W wx hW hwx => by
      refine Turn.step (fun k hk => .inl hk) (Fp.of_below hW) ?_
      have hk5 := Nat.lt_of_lt_of_le k5 hW.size
      obtain ⟨S3, r2, q2, f2⟩ := hwx
      have hsz := f2.size
      have k1 := k1.of_block (hW.block q k5)
      refine ⟨fun k => S3 k ∨ k = q, ⟨S3, k1.of_block (f2.block q hk5 k3), r2, fun hq => ?_, fun k => Iff.rfl, by omega⟩, fun k hk => ?_, f2.mono fun k hk => (k4 k).2 (.inl hk)⟩
      · rcases q2 q hq with h | h
        · exact k3 h
        · omega
      · rcases hk with hk | rfl
        · rcases q2 k hk with h | h
          · exact .inl ((k4 k).2 (.inl h))
          · exact .inr h
        · exact .inl ((k4 k).2 (.inr rfl))⟩
    clear k1 k2 k3 k4 k5
    go_wp2_with fail

    go_region_with (go_at_call 37
                    refine (HRS.out _ (Below.refl _ _).drew).mono ?_
                    rintro e w2 ⟨rfl, ht⟩
                    obtain ⟨S3, y3, s3, g3⟩ := HTR.out _ _ (Below.refl _ _).drew ht
                    obtain ⟨e0, e1, e2, e3⟩ := y3.cells
                    have f2 := y3.free 2
                    have HY := Bx.mk (y3.setMust true)
                    have HS3 := Bx.mk s3
                    have HG3 := Bx.mk g3
                    clear ht y3 s3 g3)
    all_goals go_wp2_with fail
    all_goals go_end0
    all_goals exact ⟨rfl, Turn.step HS.out HG.out (Turn.step HS3.out HG3.out HY.out)⟩
  · have hd : decide (c < T.cap) = false := by rw [decide_eq_false_iff_not]; omega
    have HL : Bx (limT T c = T ∧ (mu || decide (c < T.cap)) = mu) := ⟨by unfold limT; rw [if_neg hlt], by simp [hlt]⟩
    rw [HL.out.1, HL.out.2]
    clear hlt
    go_enter Try.func19, Try.ntmps19
    go_wp2_with (go_at_call 32; refine (HC.out _).mono ?_; rintro e w1 ⟨rfl, rfl⟩)
    go_region
    go_wp2_with fail
    go_end0
    exact ⟨rfl, S1, HX.out, HS.out, HG.out⟩
end

end Go.Proofs.Ytejkbibahbcofaa

/-
  Slices of the static tables' rows: what they read as.
-/
namespace Go.Proofs.Ytejkbibahbcofaa
open Go.RowKit
set_option linter.unusedVariables false

theorem Fs.row_len {w : World} {v : Value} {l : List Fd} (h : Fs w v l) (ty : TypeId) (W : World) : (Builtin.len_ #[136] ty #[v]).run Try.prog W = .ok (.int .i64 (l.length : Int)) W := by
  obtain ⟨A, c, rfl, h1, h2, h3⟩ := h
  simp [Builtin.len_, run_underlying Try.underlying136, goInt]
/-- The place of v[i], and what lies there. -/
theorem Fs.row_at {w : World} {v : Value} {l : List Fd} (h : Fs w v l) (i : Nat) (hi : i < l.length) :
    ∃ b o : Nat, (∀ (q : IntKind) (W : World), (Instr.indexAt 136 v (.int q (i : Int))).run Try.prog W = .ok (.pointer (some ⟨b, o, none⟩)) W) ∧
      ∀ W : World, Fs W v l → W.cell? ⟨b, o, none⟩ = some (.string l[i].1) ∧ W.cell? ⟨b, o + 1, none⟩ = some (.string l[i].2) := by
  obtain ⟨b, o, c, rfl, h1, h2, h3, hc⟩ := Rn.at_ h (by omega) (by omega)
  have hsz : ∀ W : World, (sizeOf (Try.prog.elem 136)).run Try.prog W = .ok 2 W := fun W => by kernel_rfl
  refine ⟨b, o + i * 2, fun q W => ?_, fun W hW => ?_⟩
  · simp [Instr.indexAt, asIntOf, run_underlying Try.underlying136, Sem.run_bind, hi, Result.andThen]
    simp [Addr.add]
  · obtain ⟨b', o', c', e, _, _, _, hc'⟩ := Rn.at_ hW (by omega) (by omega)
    injection e with e1 e2 e3
    injection e1 with e1
    injection e1 with e1 e4
    subst e1; subst e4
    have := fvl_at l i hi
    exact ⟨hc' _ _ this.1, hc' _ _ this.2⟩


end Go.Proofs.Ytejkbibahbcofaa

/-
  The tables as cells.
-/
namespace Go.Proofs.Ytejkbibahbcofaa
open Go.RowKit
set_option linter.unusedVariables false

def C2 : Array Value := (T2.flatMap fvl).toArray
theorem c2_size : C2.size = 122 := by decide +kernel

def C3 : Array Value := (T3.flatMap fvl).toArray
theorem c3_size : C3.size = 198 := by decide +kernel

theorem Fs.lit (w : World) (e : TypeId) (l : List Fd) (n : Nat) (hn : l.length = n) (hm : n ≤ maxLen) (cs : Array Value) (hc : cs.toList = l.flatMap fvl) :
    Fs (w.alloc (.cells cs e)) (.slice (some ⟨w.heap.size, 0, none⟩) n n) l := by
  subst hn
  have h := An.lit (k := 2) w e cs l.length (by rw [← Array.length_toList, hc, fvl_length]) hm
  have := An.rd h
  rw [hc] at this
  exact this

end Go.Proofs.Ytejkbibahbcofaa
