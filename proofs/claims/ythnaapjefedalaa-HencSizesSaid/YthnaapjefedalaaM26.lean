/-
  Texts put together: HdF8, HkD, HkM, Us, HgA, OwQ, OwR, OwT.
-/
import Derived.Test.YthnaapjefedalaaM25
import Derived.Test.YthnaapjefedalaaM16
import Derived.Test.YthnaapjefedalaaM21
import Derived.Test.YthnaapjefedalaaM15
import Derived.Test.YthnaapjefedalaaM04
import Derived.Test.YthnaapjefedalaaM09
import Derived.Test.YthnaapjefedalaaM12

/-
  Contract of the document's Decode.
-/
namespace Go.Proofs.Ythnaapjefedalaa
open Go.RowKit Go.Maps
set_option linter.unusedVariables false

section
variable {q t mx : Nat} {mu : Bool} {T0 T1 : Tab} {S : Nat → Prop} {w wx : World} {l : List UInt8} {ss : List Nat} {ad out : List Fd} {c : UInt8} {r : List UInt8} {bw ow : Value}

/-- A return with what Decode comes to. -/
def Ends (q t mx : Nat) (mu : Bool) (T0 : Tab) (S : Nat → Prop) (w : World) (l : List UInt8) (a : Act) (w' : World) : Prop :=
  a.defers = [] ∧ DPost q t mx mu T0 S w l (.returned (.tuple #[a.tmps.getD 4 undef, a.tmps.getD 5 undef])) w'

set_option maxRecDepth 100000 in
set_option maxHeartbeats 40000000 in
/-- Behind the last line. -/
theorem tail_any (a : Act) (hA : At15 a q bw ow ss.length) (hR : Rel q t mx mu T0 S w l T1 ss ad out [] bw ow wx) :
    Code.wp Try.prog (dstmt 51) (Kx (fun _ _ => False) (Ends q t mx mu T0 S w l) (fun _ _ _ => False)) a wx := by
  obtain ⟨ns, hns⟩ : ∃ ns, ss.length = ns := ⟨_, rfl⟩
  rw [hns] at hA
  have HNS := Bx.mk hns
  have HR := Bx.mk hR
  have HE := Bx.mk (ldec_end hR.run)
  obtain ⟨d0, d1, d2, d3⟩ := hR.dr.cells
  have df2 := hR.dr.free 2
  obtain ⟨u, hu, ha⟩ := dframe a hA.s hA.d
  have h0 := (hu 0).symm.trans hA.t0
  have h6 := (hu 6).symm.trans hA.t6
  have h7 := (hu 7).symm.trans hA.t7
  rw [ha]
  clear ha hA
  rw [h0, h6, h7]
  clear h0 h6 h7 hu
  conv => arg 2; whnf
  clear hns hR
  by_cases hmu : mu = true ∧ ns = 0
  · obtain ⟨rfl, rfl⟩ := hmu
    have HN : Bx (ldec mx true T0 l = none) := ⟨by rw [HE.out, if_pos ⟨rfl, List.eq_nil_of_length_eq_zero HNS.out⟩]⟩
    go_wp2_with fail
    refine (HR.out.dr.bad HN.out).mono ?_
    rintro e w2 ⟨rfl, hp⟩
    go_wp2_with fail
    exact Kx.ret ⟨rfl, hp⟩
  · have hn : ldec mx mu T0 l = some ⟨T1, ss, ad, out, []⟩ := by
      rw [HE.out, if_neg]
      rintro ⟨h1, h2⟩
      exact hmu ⟨h1, by have := HNS.out; rw [h2] at this; exact this.symm⟩
    have hand : (mu && ((ns : Int) == 0)) = false := by
      cases mu with
      | false => rfl
      | true => simp; intro h; exact hmu ⟨rfl, by omega⟩
    have HFIN : Bx (DPost q t mx mu T0 S w l (.returned (.tuple #[ow, .int .i64 0])) (wx.setCell ⟨q, 2, none⟩ (.bool false))) := ⟨by
      obtain ⟨⟨S', h1, h2, h3⟩, h4, h5, h6⟩ := HR.out.dr
      have ht := h1.setMust false
      obtain ⟨S2, x2, s2, f2⟩ := ht
      exact .inr ⟨_, ow, hn, rfl, (h5.kept fun k hk => f2.block k (h5.lt hk) (h3 k hk).2).fs, fun k hk => (h3 k hk).1, Turn.step h2 h4 ⟨S2, x2, s2, f2⟩⟩⟩
    clear hn hmu
    cases mu with
    | false =>
      go_wp2_with fail
      exact Kx.ret ⟨rfl, HFIN.out⟩
    | true =>
      have hns : ((ns : Int) == 0) = false := by simpa using hand
      clear hand
      go_wp2_with fail
      exact Kx.ret ⟨rfl, HFIN.out⟩
end

set_option maxRecDepth 100000 in
set_option maxHeartbeats 40000000 in
theorem ddecode_any {q t mx : Nat} {mu : Bool} {T : Tab} {w : World} {S : Nat → Prop} (h : Dc q t T mx mu false w S) (hgd : T.gd) (htot : T.tot + 64 ≤ 1000000) (hmx : mx ≤ 4096) {bV : Value} {l : List UInt8} (hb : ∀ W, Fp S w W → Bs W bV l) (hl : l.length ≤ 100000) :
    Calls Try.prog 19 #[.pointer (some ⟨q, 0, none⟩), bV] w fun e w' => DPost q t mx mu T S w l e w' := by
  obtain ⟨c0, c1, c2, c3⟩ := h.cells
  have HD : Bx (Rel q t mx mu T S w l T [] [] [] l bV (.slice none 0 0) w) := ⟨⟨⟨S, h, fun k hk => .inl hk, fun k hk => by simp [Value.ownBlock] at hk⟩, Fp.refl _ _, St.nil _, hb⟩, inv_start hgd l, rfl, hl, hmx, htot⟩
  clear h hgd hb hl htot hmx c0 c1 c2
  go_enter Try.func19, Try.ntmps19
  go_wp2_with fail
  rename_i hKq
  refine wp_loop_ghost (fun n a wx => ∃ T1 ss ad out b bw ow, At15 a q bw ow ss.length ∧ Rel q t mx mu T S w l T1 ss ad out b bw ow wx ∧ b.length = n) l.length ?_ ?_
  · exact ⟨T, [], [], [], l, _, _, ⟨rfl, rfl, rfl, rfl, rfl, rfl⟩, HD.out, rfl⟩
  · rintro n a wx ⟨T1, ss, ad, out, b, bw, ow, hA, hR, hn⟩
    cases b with
    | nil =>
      refine Kx.use (roundN_any a hA hR) ?_ ?_ ?_
      · intro a2 w2 h; exact h.elim
      · intro a2 w2 h; exact h.elim
      · rintro i a2 w2 ⟨rfl, hA2, rfl⟩
        refine hKq _ _ ?_
        refine Kx.use (tail_any a2 hA2 hR) ?_ ?_ ?_
        · intro a3 w3 h; exact h.elim
        · intro a3 w3 h; exact ⟨h.1, _, results_tmp2 Try.results19 _ _ _, h.2⟩
        · intro i a3 w3 h; exact h.elim
    | cons c r =>
      refine Kx.use (roundC_any a hA hR) ?_ ?_ ?_
      · rintro a2 w2 ⟨T2, ss2, ad2, out2, b2, bw2, ow2, hA2, hR2, hl2⟩
        exact ⟨_, by omega, T2, ss2, ad2, out2, b2, bw2, ow2, hA2, hR2, rfl⟩
      · rintro a2 w2 ⟨h1, h2, h3, h4⟩
        exact ⟨h1, _, results_tmp2 Try.results19 _ _ _, by rw [h2, h3]; exact h4⟩
      · intro i a2 w2 h; exact h.elim

end Go.Proofs.Ythnaapjefedalaa

/-
  The document's decoder as one of several words.
-/
namespace Go.Proofs.Ythnaapjefedalaa
open Go.RowKit Go.Maps
set_option linter.unusedVariables false

theorem Wd.dc (q t : Nat) (T : Tab) (mx : Nat) (mu bd : Bool) : Wd (Dc q t T mx mu bd) := ⟨fun h => h.lt, fun h => h.kept⟩
theorem Ex.dc (q t : Nat) (T : Tab) (mx : Nat) (mu bd : Bool) : Ex (Dc q t T mx mu bd) := by
  rintro w S ⟨S', h1, h2, h3, h4, h5⟩
  obtain ⟨E, e1, e2, e3⟩ := Ex.rt _ _ w S' h2
  refine ⟨fun k => E k ∨ k = q, ⟨E, h1, e1, fun h => h3 (e2 _ h), fun k => Iff.rfl, h5⟩, fun k hk => (h4 k).2 (hk.imp (e2 k) id), fun k hk => ?_⟩
  rcases hk with hk | rfl
  · exact e3 k hk
  · exact NoB.row h1 (by decide)
section
variable {B q t mx : Nat} {T : Tab} {mu : Bool} {w wA : World}
theorem dd_dec (hgd : T.gd) (htot : T.tot + 64 ≤ 1000000) (hmx : mx ≤ 4096) {bV : Value} {l : List UInt8} {s : Ls} (hs : ldec mx mu T l = some s) {B0 : Nat} (hb : OwB wA B0 bV l) (hl : l.length ≤ 100000) :
    ∀ S, Dc q t T mx mu false wA S → (∀ k, S k → Cn B w wA k) → Calls Try.prog 19 #[.pointer (some ⟨q, 0, none⟩), bV] wA fun e w' => ∃ v, (e = .returned (.tuple #[v, .int .i64 0]) ∧ Fs w' v s.out) ∧ Turn (Dc q t s.T mx false false) S wA w' := fun S hS hC => by
  refine (ddecode_any hS hgd htot hmx (fun W hf => (hb.besides (Cn.noB hC) hf).bs) hl).mono ?_
  rintro e w' (⟨hn, _, _⟩ | ⟨s', v, hn, rfl, hf, hv, ht⟩)
  · rw [hs] at hn
    cases hn
  · rw [hs] at hn
    obtain rfl := Option.some.inj hn
    exact ⟨v, ⟨rfl, hf⟩, ht⟩
end
end Go.Proofs.Ythnaapjefedalaa

/-
  Capacities, one behind another, and how they are told: plain mathematics.
-/
namespace Go.Proofs.Ythnaapjefedalaa
open Go.RowKit
set_option linter.unusedVariables false

/-! ### where the sizes end -/
theorem isUp_encF (T : Tab) (f : Fd) (r : List UInt8) : ¬ isUp ((encF T f).1 ++ r) := by
  have h7 : ∀ i, ¬ isUp (pre 128 7 i ++ r) := fun i h => by
    have hh := head_pre 128 7 i (by omega) (by omega) r
    have e : hiOf 128 7 = 128 := by decide
    unfold isUp at h
    omega
  have h16 : ∀ i t, ¬ isUp (pre 16 4 i ++ t) := fun i t h => by
    have hh := head_pre 16 4 i (by omega) (by omega) t
    have e : hiOf 16 4 = 16 := by decide
    have e2 : (2 : Nat) ^ 4 = 16 := rfl
    unfold isUp at h
    omega
  have h0 : ∀ i t, ¬ isUp (pre 0 4 i ++ t) := fun i t h => by
    have hh := head_pre 0 4 i (by omega) (by omega) t
    have e : hiOf 0 4 = 0 := by decide
    have e2 : (2 : Nat) ^ 4 = 16 := rfl
    unfold isUp at h
    omega
  have h64 : ∀ i t, ¬ isUp (pre 64 6 i ++ t) := fun i t h => by
    have hh := head_pre 64 6 i (by omega) (by omega) t
    have e : hiOf 64 6 = 64 := by decide
    unfold isUp at h
    omega
  unfold encF
  split
  · exact h7 _
  · split
    · exact h7 _
    · split
      · unfold litW; rw [List.append_assoc]; exact h16 _ _
      · split
        · unfold litW; rw [List.append_assoc]; exact h0 _ _
        · unfold litW; rw [List.append_assoc]; exact h64 _ _
theorem cont_more' (n v : Nat) (h : 128 ≤ v) : cont (n + 1) v = UInt8.ofNat (v % 128 + 128) :: cont n (v / 128) := by
  rw [cont, if_neg (by omega)]
theorem cont_last' (n v : Nat) (h : v < 128) : cont (n + 1) v = [UInt8.ofNat v] := by
  rw [cont, if_pos h]
/-- What stands behind a full prefix: bytes that go on, and one that does not. -/
theorem cont_split : ∀ (n x : Nat), x < 128 ^ (n + 1) → ∃ (hs : List UInt8) (c : UInt8), cont (n + 1) x = hs ++ [c] ∧ (∀ h ∈ hs, 128 ≤ h.toNat) ∧ c.toNat < 128
  | n, x, hx => by
    by_cases h : x < 128
    · refine ⟨[], UInt8.ofNat x, by rw [cont_last' _ _ h]; rfl, by simp, ?_⟩
      rw [UInt8.toNat_ofNat', Nat.mod_eq_of_lt (by have : (2:Nat) ^ 8 = 256 := rfl; omega)]
      exact h
    · cases n with
      | zero => simp at hx; omega
      | succ n =>
        obtain ⟨hs, c, h1, h2, h3⟩ := cont_split n (x / 128) (by rw [Nat.pow_succ] at hx; omega)
        refine ⟨UInt8.ofNat (x % 128 + 128) :: hs, c, by rw [cont_more' _ _ (by omega), h1]; rfl, fun k hk => ?_, h3⟩
        rcases List.mem_cons.1 hk with rfl | hk
        · rw [UInt8.toNat_ofNat', Nat.mod_eq_of_lt (by have : (2:Nat) ^ 8 = 256 := rfl; omega)]
          omega
        · exact h2 k hk
/-- A size, told: one byte, or a full one and what stands behind it. -/
theorem pre5_cases (v : Nat) (hv : v ≤ 65535) (r : List UInt8) : (∃ c : UInt8, pre 32 5 v ++ r = c :: r ∧ c.toNat / 32 = 1 ∧ c.toNat % 32 ≠ 31) ∨
    ∃ (c : UInt8) (hs : List UInt8) (d : UInt8), pre 32 5 v ++ r = c :: (hs ++ d :: r) ∧ c.toNat / 32 = 1 ∧ c.toNat % 32 = 31 ∧ (∀ h ∈ hs, 128 ≤ h.toNat) ∧ d.toNat < 128 := by
  have hval := preFirst_val 32 (k := 5) (by omega) (by omega) v
  have e : hiOf 32 5 = 32 := by decide
  have e2 : (2 : Nat) ^ 5 = 32 := rfl
  rw [e, e2] at hval
  have hval2 : (preFirst 32 5 v).toNat = 32 + min v 31 := by omega
  unfold pre
  by_cases h : v < 2 ^ 5 - 1
  · rw [if_pos h]
    exact .inl ⟨preFirst 32 5 v, rfl, by omega, by omega⟩
  · rw [if_neg h]
    have h128 : (65536 : Nat) ≤ 128 ^ (9 + 1) := by decide
    obtain ⟨hs, d, h1, h2, h3⟩ := cont_split 9 (v - (2 ^ 5 - 1)) (by omega)
    exact .inr ⟨preFirst 32 5 v, hs, d, by rw [h1]; simp, by omega, by omega, h2, h3⟩
theorem head_at {l : List UInt8} {p : Nat} {c : UInt8} {r : List UInt8} (h : l.drop p = c :: r) : ∃ hp : p < l.length, l[p] = c ∧ l.drop (p + 1) = r := by
  have hp : p < l.length := by
    apply Decidable.byContradiction
    intro hn
    rw [List.drop_of_length_le (by omega)] at h
    cases h
  rw [List.drop_eq_getElem_cons hp] at h
  injection h with h1 h2
  exact ⟨hp, h1, h2⟩
theorem drop_app {l a b : List UInt8} {p : Nat} (h : l.drop p = a ++ b) : l.drop (p + a.length) = b := by
  rw [← List.drop_drop, h, List.drop_left]

/-! ### capacities, one behind another -/
def rsT (T : Tab) (le : Option Nat) : List Nat → Tab × Option Nat
  | [] => (T, le)
  | n :: l => rsT (T.resize (n : Int)) (some (lessN le n)) l
theorem rsT_snoc : ∀ (l : List Nat) (T : Tab) (le : Option Nat) (n : Nat), rsT T le (l ++ [n]) = ((rsT T le l).1.resize (n : Int), some (lessN (rsT T le l).2 n))
  | [], T, le, n => rfl
  | m :: l, T, le, n => by simp only [List.cons_append, rsT]; exact rsT_snoc l _ _ n
theorem rsT_enc {U : Tab} : ∀ (l : List Nat) {T : Tab} {le : Option Nat}, Enc U T le → Enc U (rsT T le l).1 (rsT T le l).2
  | [], T, le, h => h
  | n :: l, T, le, h => rsT_enc l (h.resize n)
theorem rsT_le : ∀ (l : List Nat) {T : Tab} {le : Option Nat} {b : Nat}, (∀ n ∈ l, n ≤ b) → T.cap ≤ b → (∀ m, le = some m → m ≤ b) → (rsT T le l).1.cap ≤ b ∧ ∀ m, (rsT T le l).2 = some m → m ≤ b
  | [], T, le, b, _, hc, hm => ⟨hc, hm⟩
  | n :: l, T, le, b, h, hc, hm => by
    refine rsT_le l (fun k hk => h k (by simp [hk])) (by simp only [Tab.resize]; have := h n (by simp); omega) fun m hm' => ?_
    injection hm' with hm'
    have hn := h n (by simp)
    subst hm'
    cases le with
    | none => exact hn
    | some k => have := hm k rfl; simp only [lessN]; omega
theorem rsT_tot : ∀ (l : List Nat) (T : Tab) (le : Option Nat), (rsT T le l).1.tot = T.tot
  | [], T, le => rfl
  | n :: l, T, le => by rw [rsT, rsT_tot l]; rfl
theorem rsT_len : ∀ (l : List Nat) (T : Tab) (le : Option Nat), (rsT T le l).1.l.length ≤ T.l.length
  | [], T, le => Nat.le_refl _
  | n :: l, T, le => by
    rw [rsT]
    exact Nat.le_trans (rsT_len l _ _) (by simp only [Tab.resize]; exact fits_len _ _)
theorem rsT_take (T : Tab) (le : Option Nat) (l : List Nat) (k : Nat) (hk : k < l.length) : rsT T le (l.take (k + 1)) = ((rsT T le (l.take k)).1.resize (l[k] : Int), some (lessN (rsT T le (l.take k)).2 l[k])) := by
  rw [List.take_succ_eq_append_getElem hk, rsT_snoc]
/-- The least capacity as the statement reckons it. -/
def leastN (le : Option Nat) : Nat := match le with
  | none => 4097
  | some m => m
theorem leastN_less (le : Option Nat) (n : Nat) (hn : n ≤ 4096) : leastN (some (lessN le n)) = min (leastN le) n := by
  cases le with
  | none => simp only [leastN, lessN]; omega
  | some m => simp only [leastN, lessN]; omega
theorem toldN_count (le : Option Nat) (cap : Nat) : (toldN le cap).length = match le with
    | none => 0
    | some m => if m < cap then 2 else 1 := by
  unfold toldN
  cases le with
  | none => rfl
  | some m => simp only; split <;> rfl
theorem clampN_nat (n : Nat) (h : n ≤ 4096) : clampN (n : Int) = n := by unfold clampN; omega
theorem resize_cap (T : Tab) (n : Nat) : (T.resize (n : Int)).cap = n := by simp [Tab.resize]
end Go.Proofs.Ythnaapjefedalaa

/-
  Numbers of sixteen bits that came in, as lists.
-/
namespace Go.Proofs.Ythnaapjefedalaa
open Go.RowKit
set_option linter.unusedVariables false
set_option linter.unusedSimpArgs false

/-- Numbers of sixteen bits. -/
def Us (w : World) (v : Value) (ns : List Nat) : Prop := Rd w v (ns.map fun (n : Nat) => Value.int .u16 (n : Int)) ∧ ∀ n ∈ ns, n < 65536
theorem Us.keep {w w' : World} {v : Value} {ns : List Nat} (h : Us w v ns) (hb : Below w.heap.size w w') : Us w' v ns := ⟨Rd.keep h.1 hb, h.2⟩
theorem Us.run_len {w : World} {v : Value} {ns : List Nat} (h : Us w v ns) (ty : TypeId) (W : World) : (Builtin.len_ #[63] ty #[v]).run Try.prog W = .ok (.int .i64 (ns.length : Int)) W := by
  obtain ⟨⟨A, c, rfl, h1, h2, h3⟩, _⟩ := h
  simp [Builtin.len_, run_underlying Try.underlying63, goInt]
theorem Us.at_ {w : World} {v : Value} {ns : List Nat} (h : Us w v ns) (i : Nat) (hi : i < ns.length) :
    ∃ b o : Nat, (∀ W : World, (Instr.indexAt 63 v (.int .i64 (i : Int))).run Try.prog W = .ok (.pointer (some ⟨b, o, none⟩)) W) ∧ ∀ W : World, Us W v ns → W.cell? ⟨b, o, none⟩ = some (.int .u16 (ns[i] : Int)) := by
  obtain ⟨b, o, c, rfl, h1, h2, h3, hc⟩ := Rd.at_ h.1 (by simp; omega)
  refine ⟨b, o + i, fun W => ?_, fun W hW => ?_⟩
  · simp [Instr.indexAt, asIntOf, run_underlying Try.underlying63, List.length_map, Sem.run_bind, hi, Result.andThen]
    simp [Addr.add]
  · obtain ⟨b', o', c', e, _, _, _, hc'⟩ := Rd.at_ hW.1 (by simp; omega)
    injection e with e1 e2 e3
    injection e1 with e1
    injection e1 with e1 e4
    subst e1; subst e4
    exact hc' i _ (by simp [hi])

theorem IsRow.us {w : World} {a : Option Addr} {len cap : Nat} {zs : List Int} (h : IsRow .u16 w a len cap zs) : Us w (.slice a len cap) ((zs.take len).map Int.toNat) := by
  have hall : ∀ n ∈ zs.take len, 0 ≤ n ∧ n ≤ 65535 := fun n hn => by
    have := h.all n hn
    simpa [IntKind.min, IntKind.max, IntKind.signed, IntKind.bits] using this
  have e : ((zs.take len).map Int.toNat).map (fun (n : Nat) => Value.int .u16 (n : Int)) = (zs.take len).map (Value.int .u16) := by
    rw [List.map_map]
    apply List.map_congr_left
    intro n hn
    have := hall n hn
    simp only [Function.comp]
    congr 1
    omega
  refine ⟨by rw [e]; exact h.rd, fun n hn => ?_⟩
  obtain ⟨z, hz, rfl⟩ := List.mem_map.1 hn
  have := hall z hz
  omega

end Go.Proofs.Ythnaapjefedalaa

/-
  The document's encoder as a word; its making, its Resize.
-/
namespace Go.Proofs.Ythnaapjefedalaa
open Go.RowKit Go.Maps
set_option linter.unusedVariables false

/-- The least capacity as the document keeps it. -/
def leZ (le : Option Nat) : Int := match le with
  | none => -1
  | some m => (m : Int)
/-- The cells of the document's encoder. -/
def gF (t : Nat) (z : Int) (i : Nat) : Value := if i = 0 then .pointer (some ⟨t, 0, none⟩) else .int .i64 z
/-- The document's encoder behind the pointer to block q, its table at block t. -/
def Ec (q t : Nat) (T : Tab) (le : Option Nat) : Wx := Hd q 44 2 (gF t (leZ le)) (Rt t T)
theorem Wd.ec (q t : Nat) (T : Tab) (le : Option Nat) : Wd (Ec q t T le) := (Wd.rt t T).hd
theorem Ex.ec (q t : Nat) (T : Tab) (le : Option Nat) : Ex (Ec q t T le) := Ex.hd (Ex.rt t T) (by decide)
theorem gF_1 (t : Nat) (z y : Int) : ∀ j, j < 2 → (if j = 1 then Value.int .i64 y else gF t z j) = gF t y j := fun j hj => by unfold gF; match j, hj with | 0, _ => rfl | 1, _ => rfl
section
variable {q t : Nat} {T T' : Tab} {le : Option Nat} {w w' : World} {S : Nat → Prop}
theorem Ec.cells (h : Ec q t T le w S) : w.cell? ⟨q, 0, none⟩ = some (.pointer (some ⟨t, 0, none⟩)) ∧ w.cell? ⟨q, 1, none⟩ = some (.int .i64 (leZ le)) ∧ w.frozen? ⟨q, 1, none⟩ = false :=
  ⟨h.row.cell (by omega), h.row.cell (by omega), h.row.frozen 1⟩
theorem Ec.tcells (h : Ec q t T le w S) : w.cell? ⟨t, 1, none⟩ = some (.int .i64 (T.cap : Int)) ∧ w.cell? ⟨t, 2, none⟩ = some (.int .u64 (T.tot : Int)) := by
  obtain ⟨S', _, h2, _⟩ := h
  obtain ⟨v, _, c1, c2, _⟩ := h2.cells
  exact ⟨c1, c2⟩
theorem Ec.ok (h : Ec q t T le w S) : T.ok := by
  obtain ⟨S', _, h2, _⟩ := h
  exact h2.ok

set_option maxRecDepth 100000 in
set_option maxHeartbeats 1000000 in
theorem newEncoder_any (n : Int) (w : World) :
    Calls Try.prog 10 #[.int .i64 n] w fun e w' => ∃ q t S, e = .returned (.pointer (some ⟨q, 0, none⟩)) ∧ Ec q t (Tab.new (clampN n : Int)) none w' S ∧ (∀ k, S k → w.heap.size ≤ k) ∧ Below w.heap.size w w' := by
  have hle := clampN_le n
  have HC := Bx.mk (clampD_any n)
  have HN := Bx.mk (fun W => newTable_any (clampN n : Int) W (by omega))
  generalize clampN n = c at HC HN hle ⊢
  go_enter Try.func10, Try.ntmps10
  go_wp2_with (first
    | (go_at_call 30; refine (HC.out _).mono ?_; rintro e w1 ⟨rfl, rfl⟩)
    | (go_at_call 29; refine (HN.out _).mono ?_; rintro e w1 ⟨t, S, rfl, hrt, hS, hb⟩; have hsz := hb.size))
  go_ret
  have hn := Hd.new (ty := 44) (F := gF t (-1)) (Wd.rt t _) hrt #[.pointer (some ⟨t, 0, none⟩), .int .i64 (-1)] (fun j hj => by
    have : j < 2 := hj
    unfold gF
    match j, this with
    | 0, _ => rfl
    | 1, _ => rfl)
  exact ⟨w1.heap.size, t, _, rfl, hn, fun k hk => by rcases hk with h | rfl; exact hS k h; exact hsz, hb.trans (((Below.refl _ _).alloc (Nat.le_refl _) _).mono hsz)⟩

set_option maxRecDepth 100000 in
set_option maxHeartbeats 2000000 in
theorem eresize_any (h : Ec q t T le w S) (n : Int) :
    Calls Try.prog 22 #[.pointer (some ⟨q, 0, none⟩), .int .i64 n] w fun e w' => e = .returned (.tuple #[]) ∧ Turn (Ec q t (T.resize (clampN n : Int)) (some (lessN le (clampN n)))) S w w' := by
  have hcl := clampN_le n
  have HC := Bx.mk (clampD_any n)
  generalize clampN n = c at HC hcl ⊢
  obtain ⟨c0, c1, f1⟩ := h.cells
  have HPUT := Bx.mk (h.put (Wd.rt t T) 1 (.int .i64 (c : Int)) (gF_1 t (leZ le) c))
  have HSAME := Bx.mk h
  have HRES : Bx (∀ W x, Hd q 44 2 (gF t x) (Rt t T) W S → Calls Try.prog 41 #[.pointer (some ⟨t, 0, none⟩), .int .i64 (c : Int)] W fun e w' => (∃ r, e = .returned r) ∧ Turn (Hd q 44 2 (gF t x) (Rt t (T.resize (c : Int)))) S W w') := ⟨fun W x hx => by
    obtain ⟨S', h2, h3, h4, h5⟩ := hx.opens
    refine (refResize_any h2 (c : Int) (by omega)).mono ?_
    rintro e w' ⟨rfl, ht⟩
    exact ⟨⟨_, rfl⟩, h5 w' _ ht⟩⟩
  have hl1 : ∀ m : Nat, le = some m → decide ((c : Int) < (m : Int)) = decide (c < m) := fun m _ => by by_cases hh : c < m <;> simp [hh] <;> omega
  cases le with
  | none =>
    clear h hl1
    simp only [leZ] at c1
    have d0 : (w.setCell ⟨q, 1, none⟩ (.int .i64 (c : Int))).cell? ⟨q, 0, none⟩ = some (.pointer (some ⟨t, 0, none⟩)) := HPUT.out.1.row.cell (by omega)
    go_enter Try.func22, Try.ntmps22
    go_wp2_with fail
    refine (HC.out _).mono ?_
    rintro e w1' ⟨rfl, rfl⟩
    go_wp2_with fail
    refine (HRES.out _ _ HPUT.out.1).mono ?_
    rintro e w1 ⟨⟨r, rfl⟩, ht⟩
    have HT := Bx.mk ht
    clear ht
    go_wp2_with fail
    go_end0
    exact ⟨rfl, Turn.step (fun k hk => .inl hk) HPUT.out.2 HT.out⟩
  | some m =>
    have hneg : decide ((m : Int) < 0) = false := by rw [decide_eq_false_iff_not]; omega
    have hd := hl1 m rfl
    clear h hl1
    simp only [leZ] at c1
    by_cases hlt : c < m
    · have hd2 : decide (c < m) = true := decide_eq_true hlt
      have d0 : (w.setCell ⟨q, 1, none⟩ (.int .i64 (c : Int))).cell? ⟨q, 0, none⟩ = some (.pointer (some ⟨t, 0, none⟩)) := HPUT.out.1.row.cell (by omega)
      have HL : Bx (lessN (some m) c = c) := ⟨by simp only [lessN]; omega⟩
      rw [HL.out]
      clear hlt
      go_enter Try.func22, Try.ntmps22
      go_wp2_with fail
      refine (HC.out _).mono ?_
      rintro e w1' ⟨rfl, rfl⟩
      go_wp2_with fail
      refine (HRES.out _ _ HPUT.out.1).mono ?_
      rintro e w1 ⟨⟨r, rfl⟩, ht⟩
      have HT := Bx.mk ht
      clear ht
      go_wp2_with fail
      go_end0
      exact ⟨rfl, Turn.step (fun k hk => .inl hk) HPUT.out.2 HT.out⟩
    · have hd2 : decide (c < m) = false := decide_eq_false hlt
      have HL : Bx (lessN (some m) c = m) := ⟨by simp only [lessN]; omega⟩
      rw [HL.out]
      clear hlt
      go_enter Try.func22, Try.ntmps22
      go_wp2_with fail
      refine (HC.out _).mono ?_
      rintro e w1' ⟨rfl, rfl⟩
      go_wp2_with fail
      refine (HRES.out _ _ HSAME.out).mono ?_
      rintro e w1 ⟨⟨r, rfl⟩, ht⟩
      have HT := Bx.mk ht
      clear ht
      go_wp2_with fail
      go_end0
      exact ⟨rfl, HT.out⟩
end
end Go.Proofs.Ythnaapjefedalaa

/-
  Contract of the document's Prefix, over a row of bytes of its own.
-/
namespace Go.Proofs.Ythnaapjefedalaa
open Go.RowKit
set_option linter.unusedVariables false

/-- The loop's relation: what is still to write. -/
def PrefRelN (G : List UInt8) (bl : List UInt8) (B : Nat) (w : World) (ov xv : Value) (wr : World) : Prop :=
  ∃ (m x : Nat) (l1 : List UInt8), xv = .int .u64 x ∧ x < 18446744073709551616 ∧ x < 128 ^ (m + 1) ∧ m ≤ 9 ∧ l1 ++ cont (m + 1) x = G ∧ l1.length + m ≤ bl.length + 10 ∧ OwB wr B ov l1 ∧ Below B w wr ∧ NonB w wr

set_option maxRecDepth 100000 in
set_option maxHeartbeats 1000000 in
theorem refPrefix_non (B : Nat) (bV : Value) (bl : List UInt8) (f : UInt8) (n : Int) (v : Nat) (w : World) (hb : OwB w B bV bl) (hB : B ≤ w.heap.size) (hbl : bl.length ≤ 200000) (hv : v < 18446744073709551616) :
    Calls Try.prog 33 #[bV, .int .u8 f.toNat, .int .i64 n, .int .u64 v] w fun e w' => ∃ v', e = .returned v' ∧ OwB w' B v' (bl ++ pre f (bitsOf n) v) ∧ Below B w w' ∧ NonB w w' := by
  obtain ⟨i0, hi, hz, hz1, hz2⟩ := info_parts infoU8n
  have Hi := Lib.hid hi
  have Hz := Lib.hid hz
  have Hz1 := Lib.hid hz1
  have Hz2 := Lib.hid hz2
  clear hi hz hz1 hz2
  
  obtain ⟨hk1, hk8, hkn⟩ := bitsOf_range n
  generalize bitsOf n = k at hk1 hk8 hkn ⊢
  have hM := full_range hk1 hk8
  have hfull : full (min (max n 1) 8) = ((2 ^ k - 1 : Nat) : Int) := by rw [hkn, full_nat]
  have ha := hi_andNot f hk1 hk8
  have hlt := hi_lt f hk1 hk8
  have Hor := Lib.hid (hi_or f hk1 hk8)
  have Hpf := Lib.hid (preFirst_val f hk1 hk8 v)
  have Hpre : Hid (pre f k v = if v < 2 ^ k - 1 then [preFirst f k v] else preFirst f k v :: cont 10 (v - (2 ^ k - 1))) := rfl
  
  have hfw := full_wrap (k : Int) (by omega) (by omega)
  rw [full_nat, Int.toNat_natCast] at hfw
  generalize pre f k v = PL at Hpre ⊢
  generalize preFirst f k v = pf at Hpf Hpre
  generalize hiOf f k = hi at ha hlt Hor Hpf
  generalize 2 ^ k - 1 = M at hM ha hlt Hor Hpf Hpre hfull hfw
  have Hfull := Lib.hid hfull
  clear hfull
  obtain ⟨hM1, hM2⟩ := hM
  
  have horM := Hor.out M (by omega)
  by_cases hvM : v < M
  · have hw8v : IntKind.u8.wrap (v : Int) = (v : Int) := by rw [IntKind.wrap_u8]; omega
    have horv := Hor.out v (by omega)
    have Hf := Hpf.out
    have Hp := Hpre.out
    rw [if_pos hvM] at Hp
    rw [show min v M = v from by omega] at Hf
    subst Hp
    have Hf2 := Lib.hid Hf
    clear Hpf Hpre Hf
    go_enter Try.func33, Try.ntmps33
    go_wp2_with (first
        | (at_builtin
           refine wpList_append_og _ rfl _ _ 33 rfl B 5 i0 (.int .u8 0) 1 Try.underlying33 Hi.out Hz.out Hz1.out Hz2.out rfl _ _ (bl.map bv) _ rfl rfl (hb.alloc _) (Rd.lit w 5 _ 1 rfl (by simp [maxLen])) (by simp [Value.oneCell']) (by simp; omega) (by simp [maxLen]; omega) (by have := hB; simp; omega) ?_
           intro v2 w2 hap2 hb2 hg2))
    go_ret
    refine ⟨v2, rfl, ?_, (Below.refl B w).trans (((Below.refl _ _).alloc hB _).trans hb2), (NonB.alloc w _).trans (OwB.nonB (hb.alloc _) hg2)⟩
    exact OwB.snoc hap2 pf Hf2.out.symm
  · have Hf := Hpf.out
    have Hp := Hpre.out
    rw [if_neg hvM] at Hp
    rw [show min v M = M from by omega] at Hf
    have Hp2 := Lib.hid Hp
    have Hf2 := Lib.hid Hf
    clear Hpf Hpre Hf Hp
    have hsub : IntKind.u64.wrap ((v : Int) - (M : Int)) = ((v - M : Nat) : Int) := by rw [IntKind.wrap_u64]; omega
    go_enter Try.func33, Try.ntmps33
    go_wp2_with (first
        | (at_builtin
           refine wpList_append_og _ rfl _ _ 33 rfl B 5 i0 (.int .u8 0) 1 Try.underlying33 Hi.out Hz.out Hz1.out Hz2.out rfl _ _ (bl.map bv) _ rfl rfl (hb.alloc _) (Rd.lit w 5 _ 1 rfl (by simp [maxLen])) (by simp [Value.oneCell']) (by simp; omega) (by simp [maxLen]; omega) (by have := hB; simp; omega) ?_
           intro v2 w2 hap2 hb2 hg2))
    have hap3 := OwB.snoc hap2 pf Hf2.out.symm
    have hb3 : Below B w w2 := (Below.refl B w).trans (((Below.refl _ _).alloc hB _).trans hb2)
    have hn3 : NonB w w2 := (NonB.alloc w _).trans (OwB.nonB (hb.alloc _) hg2)
    clear hap2 hb2 hg2
    have hlen3 : (bl ++ [pf]).length = bl.length + 1 := by simp
    have Hgoal : Hid ((bl ++ [pf]) ++ cont 10 (v - M) = bl ++ PL) := by rw [Hp2.out]; simp [Hid]
    have hl1 : (bl ++ [pf]).length ≤ bl.length + 1 := by omega
    clear hlen3
    generalize bl ++ [pf] = l0 at hap3 Hgoal hl1
    have hq : v - M < 128 ^ (9 + 1) := by have : (18446744073709551616 : Nat) ≤ 128 ^ (9 + 1) := by decide
                                          omega
    clear ha horM Hor hsub hvM Hf2 Hfull Hp2
    have hq64 : v - M < 18446744073709551616 := by omega
    generalize v - M = q at hq hq64 Hgoal ⊢
    have Hgoal2 := Lib.hid Hgoal.out
    clear Hgoal
    go_wp2
    go_loopw [0, 3] (fun ov xv wr => PrefRelN (bl ++ PL) bl B w ov xv wr) (fun _ xv _ => (intOf xv).toNat)
    case atStart => exact ⟨9, q, l0, rfl, hq64, hq, by omega, Hgoal2.out, by omega, hap3, hb3, hn3⟩
    case round =>
      obtain ⟨m, x, l1, rfl, hxq, hxm, hm9, hG, hl, hap4, hb4, hn4⟩ := hrel
      have HG := Lib.hid hG
      clear hG hap3 hb3 hn3
      have hxi : (x : Int) < 18446744073709551616 := by omega
      have Hxq := Lib.hid hxq
      have Hxm := Lib.hid hxm
      have Hr0 : Hid (¬ x < 128 → ∃ q, m = q + 1 ∧ x / 128 < 128 ^ (q + 1)) := fun h => pow128 x m hxm (by omega)
      clear hxq hxm hv hq hq64 hxi
      have hsz := hb4.size
      by_cases hx : x < 128
      · have hx' : (x : Int) < 256 := by omega
        go_wp2_with (first
          | (at_builtin
             refine wpList_append_og _ rfl _ _ 33 rfl B 5 i0 (.int .u8 0) 1 Try.underlying33 Hi.out Hz.out Hz1.out Hz2.out rfl _ _ (l1.map bv) _ rfl rfl (hap4.alloc _) (Rd.lit wr 5 _ 1 rfl (by simp [maxLen])) (by simp [Value.oneCell']) (by simp; omega) (by simp [maxLen]; omega) (by have := hb4.size; simp; omega) ?_
             intro v2 w2 hap2 hb2 hg2))
        go_ret
        have hap5 := OwB.snoc hap2 (UInt8.ofNat x) (by rw [UInt8.toNat_ofNat', Nat.mod_eq_of_lt (by have : (2:Nat) ^ 8 = 256 := rfl; omega)])
        refine ⟨_, rfl, ?_, hb4.trans (((Below.refl _ _).alloc (by have := hb4.size; omega) _).trans hb2), hn4.trans ((NonB.alloc wr _).trans (OwB.nonB (hap4.alloc _) hg2))⟩
        rw [← HG.out, cont_last _ _ hx]
        exact hap5
      · obtain ⟨r, rfl, hr⟩ := Hr0.out hx
        have Hr := Lib.hid hr
        clear hr
        have ho := or128 x
        have hand := u64_mask x 7 127 (by rfl) (by omega) Hxq.out
        have ho2 : bits .or .u8 ((x : Int) % 128) 128 = ((x % 128 + 128 : Nat) : Int) := by have h := or128 (x % 128); rw [show (((x % 128 : Nat) : Int) % 256) = (x : Int) % 128 from by omega] at h; rw [h]; omega
        go_wp2_with (first
          | (at_builtin
             refine wpList_append_og _ rfl _ _ 33 rfl B 5 i0 (.int .u8 0) 1 Try.underlying33 Hi.out Hz.out Hz1.out Hz2.out rfl _ _ (l1.map bv) _ rfl rfl (hap4.alloc _) (Rd.lit wr 5 _ 1 rfl (by simp [maxLen])) (by simp [Value.oneCell']) (by simp; omega) (by simp [maxLen]; omega) (by have := hb4.size; simp; omega) ?_
             intro v2 w2 hap2 hb2 hg2))
        have hap5 := OwB.snoc hap2 (UInt8.ofNat (x % 128 + 128)) (by rw [UInt8.toNat_ofNat', Nat.mod_eq_of_lt (by have : (2:Nat) ^ 8 = 256 := rfl; omega)]; omega)
        clear hap2
        go_roundw
        case rel =>
          refine ⟨r, x / 128, l1 ++ [UInt8.ofNat (x % 128 + 128)], by go_num, by have := Hxq.out; omega, Hr.out, by omega, ?_, by simp; omega, hap5, hb4.trans (((Below.refl _ _).alloc (by have := hb4.size; omega) _).trans hb2), hn4.trans ((NonB.alloc wr _).trans (OwB.nonB (hap4.alloc _) hg2))⟩
          rw [← HG.out, cont_more (r + 1) x (by omega), List.append_assoc]
          rfl
        case measure => simp [intOf]; omega

end Go.Proofs.Ythnaapjefedalaa

/-
  Contract of the document's Huffman, over a row of bytes of its own.
-/
namespace Go.Proofs.Ythnaapjefedalaa
open Go.RowKit
set_option linter.unusedVariables false

def RefEncN (w : World) (B m0 : Nat) (s : ByteArray) (G : List UInt8) (o wd n i : Value) (wr : World) : Prop :=
  ∃ (k x m : Nat) (l1 : List UInt8), i = .int .i64 (k : Int) ∧ k ≤ s.size ∧ wd = .int .u64 (x : Int) ∧ n = .int .i64 (m : Int) ∧ m < 8 ∧ x < 2 ^ m ∧
    l1 ++ enc (s.data.toList.drop k) x m = G ∧ OwB wr B o l1 ∧ Below B w wr ∧ wr.heap[m0]? = w.heap[m0]? ∧ NonB w wr
def EmitRelN (w : World) (B m0 : Nat) (G T : List UInt8) (y r : Nat) (o n : Value) (wr : World) : Prop :=
  ∃ (t : Nat) (l1 : List UInt8), n = .int .i64 (t : Int) ∧ t ≤ 37 ∧ t % 8 = r ∧ l1 ++ (emit (t / 8) y t ++ T) = G ∧ OwB wr B o l1 ∧ Below B w wr ∧ wr.heap[m0]? = w.heap[m0]? ∧ NonB w wr

set_option maxRecDepth 100000 in
set_option maxHeartbeats 1000000 in
theorem huffman_non (B : Nat) (bV : Value) (l : List UInt8) (s : ByteArray) (w : World) (hb : OwB w B bV l) (hBs : B ≤ w.heap.size) (hl : l.length ≤ 100000) (hs : s.size ≤ 100000) :
    Calls Try.prog 49 #[bV, .string s] w fun e w' => ∃ v', e = .returned v' ∧ OwB w' B v' (l ++ enc s.data.toList 0 0) ∧ Below B w w' ∧ NonB w w' := by
  obtain ⟨i0, hi, hz, hz1, hz2⟩ := info_parts infoU8
  have Hi := Lib.hid hi
  have Hz := Lib.hid hz
  have Hz1 := Lib.hid hz1
  have Hz2 := Lib.hid hz2
  clear hi hz hz1 hz2
  have HBV := Bx.mk hb
  have hbl := bitLen_le s.data.toList
  have hsl : s.data.toList.length = s.size := by simp
  obtain ⟨G, hGd⟩ : ∃ G, l ++ enc s.data.toList 0 0 = G := ⟨_, rfl⟩
  rw [hGd]
  have hGL : G.length ≤ 500000 := by rw [← hGd, List.length_append, enc_length _ _ _ (by omega)]; omega
  have HGD := Bx.mk hGd
  have HGL := Bx.mk hGL
  have HBS := Bx.mk hBs
  clear hb hBs hbl hsl hGd hGL
  go_enter Try.func49, Try.ntmps49
  go_wp2_with (go_at_call 66; refine (codes_any _).mono ?_; rintro e w1 ⟨g, rfl, hm, b1⟩)
  have HC := Bx.mk hm
  have HB1 := Bx.mk (b1.mono HBS.out)
  have HN1 := Bx.mk (NonB.of_below b1)
  have HS1 : Bx (B ≤ w1.heap.size) := ⟨Nat.le_trans HBS.out b1.size⟩
  have HBV := Bx.mk (HBV.out.keep b1)
  have HGW : Bx (g < w1.heap.size) := ⟨World.rowIs.lt hm⟩
  clear hm b1
  go_loopw [0, 6, 7, 8] (fun o wd n i wr => RefEncN w1 B g s G o wd n i wr) (fun _ _ _ i _ => s.size - (intOf i).toNat)
  case atStart => exact ⟨0, 0, 0, l, rfl, by omega, rfl, rfl, by omega, by omega, HGD.out, HBV.out, Below.refl _ _, rfl, NonB.refl _⟩
  case round =>
    obtain ⟨k, x, m, l1, rfl, hk, rfl, rfl, hm, hx, hG1, hap1, hb1, hgb, hnb⟩ := hrel
    have HNB := Bx.mk hnb
    have HX := Bx.mk hx
    have HM := Bx.mk hm
    have HG1 := Bx.mk hG1
    have HAP := Bx.mk hap1
    have HB := Bx.mk hb1
    have hsz : B ≤ wr.heap.size := Nat.le_trans HS1.out hb1.size
    have hcode : CodesAt wr g := World.rowIs.of_block HC.out hgb
    have HGB := Bx.mk hgb
    have HGZ : Bx (g < wr.heap.size) := ⟨Nat.lt_of_lt_of_le HGW.out hb1.size⟩
    clear hx hG1 hap1 hb1 hgb hnb
    by_cases hlt : k < s.size
    · have hck : s[k].toNat < 256 := s[k].toNat_lt
      have hll := ll_byte s[k]
      obtain ⟨hc1, hc2⟩ := hcode.cells s[k].toNat (by omega)
      clear hcode
      have HLB := Bx.mk hll
      obtain ⟨-, hll2, -⟩ := hll
      generalize hcl : ll s[k].toNat = n at hc2 hll2 HLB
      generalize hcc : cw s[k].toNat = v at hc1 HLB
      have HE : Bx (ll s[k].toNat = n ∧ cw s[k].toNat = v) := ⟨hcl, hcc⟩
      clear hcl hcc
      go_wp2
      go_region
      rw [word_or x n v hll2 HLB.out.2.2, nw_small x m n v HM.out hll2 HX.out]
      have HY := Bx.mk (y_lt x m n v HM.out hll2 HX.out HLB.out.2.2)
      have HG2 : Bx (l1 ++ (emit ((m + n) / 8) (x * 2 ^ n + v) (m + n) ++ enc (s.data.toList.drop (k + 1)) ((x * 2 ^ n + v) % 2 ^ ((m + n) % 8)) ((m + n) % 8)) = G) := ⟨by
        have h := HG1.out
        rw [List.drop_eq_getElem_cons (by simpa using hlt)] at h
        have e : enc (s[k] :: s.data.toList.drop (k + 1)) x m = _ := enc.eq_2 ..
        rw [HE.out.1, HE.out.2] at e
        exact (congrArg (l1 ++ ·) e).symm.trans h⟩
      have HAP2 : Bx (OwB (wr.alloc (Obj.cells #[Value.int IntKind.u32 v, Value.int IntKind.i64 n] 112)).drew B u0 l1) := ⟨(HAP.out.alloc _).drew⟩
      have HB2 : Bx (Below B w1 (wr.alloc (Obj.cells #[Value.int IntKind.u32 v, Value.int IntKind.i64 n] 112)).drew) := ⟨(HB.out.alloc hsz _).drew⟩
      have HN5 : Bx (NonB w1 (wr.alloc (Obj.cells #[Value.int IntKind.u32 v, Value.int IntKind.i64 n] 112)).drew) := ⟨HNB.out.trans ((NonB.alloc wr _).trans (NonB.drew _))⟩
      have HG5 : Bx ((wr.alloc (Obj.cells #[Value.int IntKind.u32 v, Value.int IntKind.i64 n] 112)).drew.heap[g]? = w1.heap[g]?) := ⟨(((Below.refl wr.heap.size wr).alloc (Nat.le_refl _) (Obj.cells #[Value.int IntKind.u32 v, Value.int IntKind.i64 n] 112)).drew.block g HGZ.out).trans HGB.out⟩
      have hmn : m + n ≤ 37 := by omega
      clear hc1 hc2 HG1 HAP HB HX HLB HE hck hll2 hsz
      generalize (wr.alloc (Obj.cells #[Value.int IntKind.u32 v, Value.int IntKind.i64 n] 112)).drew = w5 at HAP2 HB2 HG5 HN5 ⊢
      generalize x * 2 ^ n + v = y at HY HG2 ⊢
      go_wp2
      go_loopw [0, 7] (fun o n' wr' => EmitRelN w1 B g G (enc (s.data.toList.drop (k + 1)) (y % 2 ^ ((m + n) % 8)) ((m + n) % 8)) y ((m + n) % 8) o n' wr') (fun _ n' _ => (intOf n').toNat)
      case atStart => exact ⟨m + n, l1, by go_num, hmn, rfl, HG2.out, HAP2.out, HB2.out, HG5.out, HN5.out⟩
      case round =>
        obtain ⟨t, l2, rfl, ht, ht8, hG2, hap2, hb2, hgb2, hnb2⟩ := hrel
        have HNB2 := Bx.mk hnb2
        clear hnb2
        have HGB2 := Bx.mk hgb2
        clear hgb2
        have HT8 := Bx.mk ht8
        have HG3 := Bx.mk hG2
        have HAP3 := Bx.mk hap2
        have HB3 := Bx.mk hb2
        clear ht8 hG2 hap2 hb2 HG2 HAP2 HB2
        have hlen : l2.length ≤ 500000 := by
          have h := congrArg List.length HG3.out
          have h2 := HGL.out
          rw [← h, List.length_append] at h2
          omega
        have hsz : B ≤ wr.heap.size := Nat.le_trans HS1.out HB3.out.size
        by_cases h8 : 8 ≤ t
        · go_wp2_with (first
            | (at_builtin
               refine wpList_append_og _ rfl _ _ 33 rfl B 5 i0 (.int .u8 0) 1 Try.underlying33 Hi.out Hz.out Hz1.out Hz2.out rfl _ _ (l2.map bv) _ rfl rfl (HAP3.out.alloc _) (Rd.lit wr 5 _ 1 rfl (by simp [maxLen])) (by simp [Value.oneCell']) (by simp; omega) (by simp [maxLen]; omega) (by simp; omega) ?_
               intro v6 w6 hap6 hb6 hgr6))
          have HAP6 := Bx.mk (OwB.snoc hap6 (UInt8.ofNat (y / 2 ^ (t - 8) % 256)) (by rw [← byte_nat (by omega)]; simp))
          have HB6 : Bx (Below B w1 w6) := ⟨HB3.out.trans (((Below.refl _ _).alloc hsz _).trans hb6)⟩
          have HG6 : Bx (w6.heap[g]? = w1.heap[g]?) := ⟨by
            have hlt : g < wr.heap.size := Nat.lt_of_lt_of_le HGW.out HB3.out.size
            rw [hgr6.block g (by simp; omega) (fun e => HAP3.out.ne (World.rowIs.of_block HC.out HGB2.out) (by decide) e.symm), ((Below.refl wr.heap.size wr).alloc (Nat.le_refl _) _).block g hlt]
            exact HGB2.out⟩
          have HN6 : Bx (NonB w1 w6) := ⟨HNB2.out.trans ((NonB.alloc wr _).trans (OwB.nonB (HAP3.out.alloc _) hgr6))⟩
          clear hap6 hb6 hgr6
          go_wp2
          go_roundw
          case rel =>
            refine ⟨t - 8, l2 ++ [UInt8.ofNat (y / 2 ^ (t - 8) % 256)], by go_num, by omega, by have := HT8.out; omega, ?_, HAP6.out, HB6.out, HG6.out, HN6.out⟩
            have h := HG3.out
            rw [emit_next y t h8] at h
            rw [← h]
            simp
          case measure => simp [intOf]; omega
        · have HG4 : Bx (l2 ++ enc (s.data.toList.drop (k + 1)) (y % 2 ^ t) t = G) := ⟨by
            have h := HG3.out
            rw [emit_done y t (by omega), List.nil_append] at h
            have e := HT8.out
            rw [Nat.mod_eq_of_lt (by omega)] at e
            rw [e]; exact h⟩
          clear HG3 HT8
          have HW := Bx.mk (mask_low y t HY.out (by omega))
          have HL := Bx.mk (Nat.mod_lt y (Nat.two_pow_pos t))
          go_wp2
          go_roundw
          case rel => exact ⟨k + 1, y % 2 ^ t, t, l2, by go_num, by omega, by rw [HW.out], rfl, by omega, HL.out, HG4.out, HAP3.out, HB3.out, HGB2.out, HNB2.out⟩
          case measure => simp [intOf]; omega
    · clear hcode
      obtain rfl : k = s.size := by omega
      have HG4 : Bx (l1 ++ last (x % 2 ^ m) m = G) := ⟨by
        have h := HG1.out
        rw [List.drop_of_length_le (by simp)] at h
        rw [Nat.mod_eq_of_lt HX.out]
        exact h⟩
      have hlen : l1.length ≤ 500000 := by
        have h := congrArg List.length HG4.out
        have h2 := HGL.out
        rw [← h, List.length_append] at h2
        omega
      clear HG1
      by_cases h0 : 0 < m
      · have hw8 : IntKind.i64.wrap (8 - (m : Int)) = 8 - (m : Int) := by rw [IntKind.wrap_i64]; omega
        have hw0 : (0 : Int) ≤ 8 - (m : Int) := by omega
        have hw9 : (8 - (m : Int)).toNat = 8 - m := by omega
        go_wp2
        go_region_law (refine step_append_og rfl (.tmp 53) (.tmp 64) 33 rfl B 5 i0 (.int .u8 0) 1 Try.underlying33 Hi.out Hz.out Hz1.out Hz2.out rfl _ _ (l1.map bv) _ rfl rfl (HAP.out.drew.alloc _) (Rd.lit wr.drew 5 _ 1 rfl (by simp [maxLen])) (by simp [Value.oneCell']) (by simp; omega) (by simp [maxLen]; omega) (by simp; omega) ?_; intro v2 w2 hap2 hb2 hg2)
        have HAP2 := Bx.mk (OwB.snoc hap2 (UInt8.ofNat (x % 2 ^ m * 2 ^ (8 - m) + (2 ^ (8 - m) - 1))) (by rw [last_byte x m h0 hm]; exact byte_nat (last_lt x m h0 hm)))
        have HB2 : Bx (Below B w1 w2) := ⟨HB.out.trans (((Below.refl _ _).alloc hsz _).drew.trans hb2)⟩
        have HN2 : Bx (NonB w1 w2) := ⟨HNB.out.trans (((NonB.drew wr).trans (NonB.alloc _ _)).trans (OwB.nonB (HAP.out.drew.alloc _) hg2))⟩
        clear hap2 hb2 hg2
        go_wp2
        go_ret
        refine ⟨_, rfl, ?_, HB1.out.trans HB2.out, HN1.out.trans HN2.out⟩
        have h := HG4.out
        rw [last, if_neg (by omega)] at h
        rw [← h]
        exact HAP2.out
      · obtain rfl : m = 0 := by omega
        go_wp2
        go_ret
        refine ⟨_, rfl, ?_, HB1.out.trans HB.out, HN1.out.trans HNB.out⟩
        have h := HG4.out
        simp only [last, if_true, List.append_nil] at h
        rw [← h]
        exact HAP.out

end Go.Proofs.Ythnaapjefedalaa

/-
  Contract of the document's PutStr, over a row of bytes of its own: what is no row of bytes stands.
-/
namespace Go.Proofs.Ythnaapjefedalaa
open Go.RowKit
set_option linter.unusedVariables false

set_option maxRecDepth 100000 in
set_option maxHeartbeats 1000000 in
theorem putStr_non (B : Nat) (bV : Value) (l : List UInt8) (f : UInt8) (k : Nat) (hk1 : 1 ≤ k) (hk7 : k ≤ 7) (s : ByteArray) (w : World) (hb : OwB w B bV l) (hB : B ≤ w.heap.size) (hl : l.length ≤ 50000) (hs : s.size ≤ 20000) :
    Calls Try.prog 24 #[bV, .int .u8 f.toNat, .int .i64 (k : Int), .string s] w fun e w' => ∃ v', e = .returned v' ∧ OwB w' B v' (l ++ putSk f k s.data.toList) ∧ Below B w w' ∧ NonB w w' := by
  have hsl : s.data.toList.length = s.size := by simp
  have hbl := bitLen_le s.data.toList
  have hhl := fun W => huffLen_any s W (by omega)
  have hel := enc0_length s.data.toList
  obtain ⟨n, hn⟩ : ∃ n, (bitLen s.data.toList + 7) / 8 = n := ⟨_, rfl⟩
  rw [hn] at hhl hel
  have hn2 : n ≤ 100000 := by omega
  have hshl := shl_u8 k hk7 1
  rw [shl_one8 k hk7] at hshl
  have hor := hiB_val f k hk7
  obtain ⟨p2, hp2⟩ : ∃ p2, 2 ^ k = p2 := ⟨_, rfl⟩
  rw [hp2] at hshl hor
  clear hp2
  have hbk : bitsOf (k : Int) = k := by unfold bitsOf; omega
  have hwn : IntKind.u64.wrap (n : Int) = (n : Int) := by simp only [IntKind.wrap_u64]; omega
  have hws : IntKind.u64.wrap (s.size : Int) = (s.size : Int) := by simp only [IntKind.wrap_u64]; omega
  have HL := Bx.mk hhl
  have HB := Bx.mk hb
  have HBS := Bx.mk hB
  have HE := Bx.mk hel
  have HK : Bx (1 ≤ k ∧ k ≤ 7 ∧ l.length ≤ 50000 ∧ s.size ≤ 20000 ∧ n ≤ 100000 ∧ bitsOf (k : Int) = k) := ⟨hk1, hk7, hl, hs, hn2, hbk⟩
  obtain ⟨i0, hi, hz, hz1, hz2⟩ := info_parts infoU8
  have HI : Bx (Try.prog.info? 5 = some i0 ∧ i0.zero = some (.int .u8 0) ∧ i0.size = 1 ∧ i0.bytes = 1) := ⟨hi, hz, hz1, hz2⟩
  have HPUT : Bx (putSk f k s.data.toList = if n < s.size then pre (hiB f k) k (enc s.data.toList 0 0).length ++ enc s.data.toList 0 0 else pre f k s.size ++ s.data.toList) := ⟨by unfold putSk; rw [hn, hsl]⟩
  have HPL : Bx ((pre (hiB f k) k n).length ≤ 11 ∧ (pre f k s.size).length ≤ 11) := ⟨(pre_len _ _ _).2, (pre_len _ _ _).2⟩
  clear hhl hb hB hel hk1 hk7 hl hs hn2 hbk hi hz hz1 hz2 hbl hn
  by_cases hlt : n < s.size
  · have hd : decide (n < s.size) = true := decide_eq_true (by omega)
    have HP := HPUT.out
    rw [if_pos hlt, HE.out] at HP
    have HP2 := Bx.mk HP
    clear HPUT HP hlt
    go_enter Try.func24, Try.ntmps24
    go_wp2_with fail
    refine (HL.out w).mono ?_
    rintro e w1 ⟨rfl, b1⟩
    have HB1 := Bx.mk (HB.out.keep b1)
    have HB1S : Bx (B ≤ w1.heap.size) := ⟨Nat.le_trans HBS.out b1.size⟩
    have HW1 := Bx.mk (b1.mono HBS.out)
    have HN1 := Bx.mk (NonB.of_below b1)
    clear b1
    go_wp2_with fail
    refine (refPrefix_non B bV l (hiB f k) (k : Int) n w1 HB1.out HB1S.out (by have := HK.out; omega) (by have := HK.out; omega)).mono ?_
    rintro e w2 ⟨v2, rfl, ho2, b2, n2⟩
    have HN2 := Bx.mk (HN1.out.trans n2)
    rw [HK.out.2.2.2.2.2] at ho2
    have HB2 := Bx.mk ho2
    have HB2S : Bx (B ≤ w2.heap.size) := ⟨Nat.le_trans HB1S.out b2.size⟩
    have HW2 := Bx.mk (HW1.out.trans b2)
    clear ho2 b2
    go_wp2_with fail
    refine (huffman_non B v2 _ s w2 HB2.out HB2S.out (by have := HK.out; have := HPL.out.1; rw [List.length_append]; omega) (by have := HK.out; omega)).mono ?_
    rintro e w3 ⟨v3, rfl, ho3, b3, n3⟩
    have HN3 := Bx.mk (HN2.out.trans n3)
    have HB3 := Bx.mk ho3
    have HW3 := Bx.mk (HW2.out.trans b3)
    clear ho3 b3
    go_wp2_with fail
    go_ret
    refine ⟨_, rfl, ?_, HW3.out, HN3.out⟩
    rw [HP2.out, ← List.append_assoc]
    exact HB3.out
  · have hd : decide (n < s.size) = false := decide_eq_false (by omega)
    have HP := HPUT.out
    rw [if_neg hlt] at HP
    have HP2 := Bx.mk HP
    clear HPUT HP hlt
    go_enter Try.func24, Try.ntmps24
    go_wp2_with fail
    refine (HL.out w).mono ?_
    rintro e w1 ⟨rfl, b1⟩
    have HB1 := Bx.mk (HB.out.keep b1)
    have HB1S : Bx (B ≤ w1.heap.size) := ⟨Nat.le_trans HBS.out b1.size⟩
    have HW1 := Bx.mk (b1.mono HBS.out)
    have HN1 := Bx.mk (NonB.of_below b1)
    clear b1
    go_wp2_with fail
    refine (refPrefix_non B bV l f (k : Int) s.size w1 HB1.out HB1S.out (by have := HK.out; omega) (by have := HK.out; omega)).mono ?_
    rintro e w2 ⟨v2, rfl, ho2, b2, n2⟩
    have HN2 := Bx.mk (HN1.out.trans n2)
    rw [HK.out.2.2.2.2.2] at ho2
    have HB2 := Bx.mk ho2
    have HB2S : Bx (B ≤ w2.heap.size) := ⟨Nat.le_trans HB1S.out b2.size⟩
    have HW2 := Bx.mk (HW1.out.trans b2)
    have HL2 : Bx ((l ++ pre f k s.size).length ≤ 60000) := ⟨by have := HK.out; have := HPL.out.2; rw [List.length_append]; omega⟩
    clear ho2 b2
    go_wp2_with (at_builtin; refine Lib.wpList_append_own_string _ rfl _ _ 33 9 rfl B 5 i0 Try.underlying33 Try.underlying9 HI.out.1 HI.out.2.1 HI.out.2.2.1 HI.out.2.2.2 v2 _ _ rfl HB2.out s rfl (by have := HK.out; have := HL2.out; unfold maxLen; rw [List.length_map]; omega) (by have := HK.out; have := HL2.out; rw [List.length_map]; omega) HB2S.out ?_; intro v3 w3 ho3 hg3 _)
    have HB3 := Bx.mk (OwB.str ho3)
    have HN3 : Bx (NonB w w3) := ⟨HN2.out.trans (OwB.nonB HB2.out hg3)⟩
    have HW3 : Bx (Below B w w3) := ⟨HW2.out.trans ((Below.refl _ _).grown hg3 HB2S.out fun k hk => HB2.out.ge hk)⟩
    go_ret
    refine ⟨_, rfl, ?_, HW3.out, HN3.out⟩
    rw [HP2.out, ← List.append_assoc]
    exact HB3.out

end Go.Proofs.Ythnaapjefedalaa
