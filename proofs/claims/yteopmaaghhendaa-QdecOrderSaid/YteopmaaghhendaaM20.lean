/-
  Texts put together: QdMath, QdA, QdB, QdC, QdD, QdE, QrMath, QdF, QdG, QdH, QdI, QoA.
-/
import Derived.Test.YteopmaaghhendaaM17
import Derived.Test.YteopmaaghhendaaM01
import Derived.Test.YteopmaaghhendaaM06
import Derived.Test.YteopmaaghhendaaM13
import Derived.Test.YteopmaaghhendaaM07
import Derived.Test.YteopmaaghhendaaM05
import Derived.Deep.RegionHeld
import Derived.Handy
import Derived.Deep.QuietTactic
import Derived.BigQuiet
import Derived.Deep.CutBlock
import Derived.Test.YteopmaaghhendaaM12
import Derived.Test.YteopmaaghhendaaM16

/-
  QPACK, read, as plain mathematics: one instruction of the encoder stream; masks.
-/
namespace Go.Proofs.Yteopmaaghhendaa
open Go.RowKit
set_option linter.unusedVariables false

theorem sb_casesK (k : Nat) (l : List UInt8) : (∃ e : Int, e ≠ 0 ∧ sb k l = ([], 0, e)) ∨ ∃ (s : List UInt8) (m : Nat), sb k l = (s, (m : Int), 0) ∧ 1 ≤ m ∧ m ≤ l.length ∧ s.length ≤ 4096 := by
  rcases rp_cases k l with hr | hr | ⟨n, m, hr, h1, h2, h3⟩
  · exact .inl ⟨20, by decide, sb_err hr (by decide)⟩
  · exact .inl ⟨21, by decide, sb_err hr (by decide)⟩
  · by_cases hn : 4096 < n
    · exact .inl ⟨23, by decide, sb_long hr (by omega)⟩
    · by_cases hm : l.length < m + n
      · exact .inl ⟨20, by decide, sb_more hr (by omega) (by omega)⟩
      · by_cases hc : (l.headD 0).toNat / 2 ^ k % 2 = 0
        · refine .inr ⟨_, m + n, by rw [sb_plain hr (by omega) (by omega) hc]; rfl, by omega, by omega, ?_⟩
          simp; omega
        · by_cases he : (dec (allBits ((l.take ((m : Int) + (n : Int)).toNat).drop (m : Int).toNat)) [] 0 0).2 = 0
          · refine .inr ⟨_, m + n, by rw [sb_coded hr (by omega) (by omega) hc rfl he]; rfl, by omega, by omega, ?_⟩
            exact dec_short _ _ _ _ (by simp)
          · exact .inl ⟨_, by exact_mod_cast he, sb_bad hr (by omega) (by omega) hc rfl he⟩
/-- A value behind its name: how many bytes, the error, the table. -/
def tailP (T : Tab) (name : ByteArray) (k : Nat) (b : List UInt8) : Nat × Int × Tab :=
  if (sb 7 (b.drop k)).2.2 ≠ 0 then (0, (sb 7 (b.drop k)).2.2, T)
  else if T.cap < fsz (name, bstr (sb 7 (b.drop k)).1) + 32 then (0, 26, T)
  else (k + (sb 7 (b.drop k)).2.1.toNat, 0, T.add (name, bstr (sb 7 (b.drop k)).1))
/-- One instruction: how many bytes, the error, the table. -/
def insP (mx : Nat) (T : Tab) (b : List UInt8) : Nat × Int × Tab :=
  if 128 ≤ headN b then
    if (rp 6 b).2.2 ≠ 0 then (0, (rp 6 b).2.2, T)
    else if headN b < 192 then (if isN T.l (rp 6 b).1.toNat then tailP T (entN T.l (rp 6 b).1.toNat).1 (rp 6 b).2.1.toNat b else (0, 26, T))
    else (if isF T3 0 (rp 6 b).1.toNat then tailP T (entF T3 0 (rp 6 b).1.toNat).1 (rp 6 b).2.1.toNat b else (0, 26, T))
  else if 64 ≤ headN b then
    if (sb 5 b).2.2 ≠ 0 then (0, (sb 5 b).2.2, T) else tailP T (bstr (sb 5 b).1) (sb 5 b).2.1.toNat b
  else if 32 ≤ headN b then
    if (rp 5 b).2.2 ≠ 0 then (0, (rp 5 b).2.2, T) else if mx < (rp 5 b).1.toNat then (0, 26, T) else ((rp 5 b).2.1.toNat, 0, T.resize (rp 5 b).1)
  else
    if (rp 5 b).2.2 ≠ 0 then (0, (rp 5 b).2.2, T)
    else if isN T.l (rp 5 b).1.toNat then (if T.cap < fsz (entN T.l (rp 5 b).1.toNat) + 32 then (0, 26, T) else ((rp 5 b).2.1.toNat, 0, T.add (entN T.l (rp 5 b).1.toNat)))
    else (0, 26, T)
theorem qmask : ∀ c, c < 256 → (128 ≤ c → c &&& 128 ≠ 0) ∧ (c < 128 → c &&& 128 = 0) ∧ ((128 ≤ c ∧ c < 192 ∨ c < 64) → c &&& 64 = 0) ∧ ((192 ≤ c ∨ 64 ≤ c ∧ c < 128) → c &&& 64 ≠ 0) ∧ (c < 32 → c &&& 32 = 0) ∧ (32 ≤ c ∧ c < 64 → c &&& 32 ≠ 0) := by decide +kernel
theorem entN_size {T : Tab} {i : Nat} (h : sizeF T.l ≤ 1000000) : fsz (entN T.l i) ≤ 1000000 := by
  unfold entN
  split
  · rename_i hi
    have : ∀ (l : List Fd) (f : Fd), f ∈ l → fsz f ≤ sizeF l := fun l => by
      induction l with
      | nil => intro f hf; cases hf
      | cons x l ih =>
        intro f hf
        simp only [sizeF]
        rcases List.mem_cons.1 hf with rfl | hf
        · omega
        · have := ih f hf; omega
    have := this _ _ (List.getElem_mem (show T.l.length - 1 - i < T.l.length by omega))
    omega
  · exact (by decide : 0 + 0 ≤ 1000000)
end Go.Proofs.Yteopmaaghhendaa

/-
  The document's one instruction of the encoder stream, in pieces: its code, its frame; a value behind its name.
-/
namespace Go.Proofs.Yteopmaaghhendaa
open Go.RowKit Go.Maps
set_option linter.unusedVariables false

/-- Behind the name. -/
structure Ao (ac : Act) (q G k : Nat) (bV : Value) : Prop where
  d : ac.defers = []
  z : ac.tmps.size = 185
  t0 : ac.tmps.getD 0 undef = .pointer (some ⟨q, 0, none⟩)
  t1 : ac.tmps.getD 1 undef = bV
  t7 : ac.tmps.getD 7 undef = .pointer (some ⟨G, 0, none⟩)
  t8 : ac.tmps.getD 8 undef = .int .i64 (k : Int)
section
variable {q t mx : Nat} {T : Tab} {S1 : Nat → Prop} {w wx : World} {bV : Value} {b : List UInt8} {G k : Nat} {f1 : ByteArray}
end
end Go.Proofs.Yteopmaaghhendaa

/-
  The document's one instruction of the encoder stream, in pieces: a name's place; a name; the capacity; an entry again.
-/
namespace Go.Proofs.Yteopmaaghhendaa
open Go.RowKit Go.Maps
set_option linter.unusedVariables false

/-- Behind the switch. -/
def Tn (q G : Nat) (T : Tab) (w : World) (bV : Value) (b : List UInt8) (x : Nat × Int × Tab) (ac : Act) (w' : World) : Prop :=
  ∃ k name, Ao ac q G k bV ∧ Fb 56 w' G (name, ⟨#[]⟩) ∧ Below w.heap.size w w' ∧ k ≤ b.length ∧ name.size ≤ 200000 ∧ x = tailP T name k b
section
variable {q t mx : Nat} {T : Tab} {S1 : Nat → Prop} {w wx : World} {bV : Value} {b : List UInt8} {G : Nat}
end
end Go.Proofs.Yteopmaaghhendaa

/-
  The document's one instruction of the encoder stream: an entry again; the whole.
-/
namespace Go.Proofs.Yteopmaaghhendaa
open Go.RowKit Go.Maps
set_option linter.unusedVariables false

section
variable {q t mx : Nat} {T : Tab} {S1 : Nat → Prop} {w wx : World} {bV : Value} {b : List UInt8} {G : Nat}
end
end Go.Proofs.Yteopmaaghhendaa

/-
  Contract of the document's one instruction of the encoder stream.
-/
namespace Go.Proofs.Yteopmaaghhendaa
open Go.RowKit Go.Maps
set_option linter.unusedVariables false

section
variable {q t mx : Nat} {T : Tab} {S1 : Nat → Prop} {w wx : World} {bV : Value} {b : List UInt8} {G : Nat}
end
end Go.Proofs.Yteopmaaghhendaa

/-
  Bytes that are appended to a slice cut tight; the document's decoder as a word; its making.
-/
namespace Go.Proofs.Yteopmaaghhendaa
open Go.RowKit Go.Maps
set_option linter.unusedVariables false

theorem infoB8 : ∃ i z, Try.prog.info? 5 = some i ∧ i.zero = some z ∧ z.cells.size = 1 ∧ i.size = 1 ∧ i.bytes = 1 := by
  obtain ⟨i0, hi, hz, hz1, hz2⟩ := info_parts infoU8n
  exact ⟨i0, _, hi, hz, rfl, hz1, hz2⟩
/-- append(v[:n:n], b...) -/
theorem bs_push {w : World} {vR : Value} {rest : List UInt8} (h : Bs w vR rest) (hl : rest.length ≤ 100000) :
    ∃ A, (∀ W : World, (Instr.slice 23 vR none (some (.int .i64 (rest.length : Int))) (some (.int .i64 (rest.length : Int)))).run Try.prog W = .ok (.slice A rest.length rest.length) W) ∧
      ∀ (W : World) (bV : Value) (b : List UInt8) (ty : TypeId) (S2 : Nat → Prop), Ob (fun W => Bs W vR rest) W S2 → Bs W bV b → b.length ≤ 100000 →
        ∃ v' w', (Builtin.append_ #[23, 23] ty #[.slice A rest.length rest.length, bV]).run Try.prog W = .ok v' w' ∧ Below W.heap.size W w' ∧
          ∃ S3, Ob (fun W => Bs W v' (rest ++ b)) w' S3 ∧ ∀ k, S3 k → S2 k ∨ W.heap.size ≤ k := by
  obtain ⟨A, n, c, rfl, hn, h1, h2, h3, h4⟩ := h.open_
  have hnl : n = rest.length := hn.out
  subst hnl
  have hs : sliced A 0 rest.length rest.length 1 = .slice A rest.length rest.length := by
    have hA : (if rest.length = 0 then A else A.map (·.add (0 * 1))) = A := by
      split
      · rfl
      · cases A with
        | none => rfl
        | some x => simp [Addr.add]
    unfold sliced
    rw [hA]
    rfl
  have htight : ∀ W, Bs W (.slice A rest.length c) rest → Bs W (.slice A rest.length rest.length) rest := fun W hW => by
    obtain ⟨A', c', e, r1, r2, r3⟩ := hW
    injection e with e1 e2 e3
    subst e1; subst e3
    refine ⟨A, rest.length, by rw [List.length_map], by rw [List.length_map]; omega, by unfold maxLen; omega, ?_⟩
    rcases r3 with ⟨rfl, hc⟩ | ⟨x, rfl, hx⟩
    · exact .inl ⟨rfl, by omega⟩
    · exact .inr ⟨x, rfl, hx⟩
  refine ⟨A, fun W => ?_, ?_⟩
  · rw [run_slice_hm W 23 A rest.length c elemB .i64 .i64 (rest.length : Int) (rest.length : Int) (by omega) (by omega) (by omega), sizeB]
    simp only [Result.andThen, Int.toNat_natCast, hs]
  · intro W bV b ty S2 hob hb hbl
    obtain ⟨i, z, i1, i2, i3, i4, i5⟩ := infoB8
    have hW := hob.get
    have hbl2 : (b.map bv).length = b.length := by simp
    have hrl : (rest.map bv).length = rest.length := by simp
    obtain ⟨Au, cu, rfl, c1, c2, c3⟩ := hb
    rw [hbl2] at *
    by_cases hb0 : b = []
    · subst hb0
      have hrun : ∃ v', (Builtin.append_ #[23, 23] ty #[.slice A rest.length rest.length, .slice Au 0 cu]).run Try.prog W = .ok v' W ∧ v' = .slice A rest.length rest.length := by
        obtain ⟨A', c', e, r1, r2, r3⟩ := hW
        injection e with e1 e2 e3
        subst e1; subst e3
        refine ⟨_, ?_, rfl⟩
        rcases r3 with ⟨rfl, hc⟩ | ⟨x, rfl, _⟩
        · have : rest.length = 0 := by omega
          rcases c3 with ⟨rfl, hc2⟩ | ⟨y, rfl, _⟩ <;> simp [Builtin.append_, run_underlying Try.underlying23, sizeOf, typeInfo, i1, Builtin.lenOf, Builtin.firstCells, this, loadCells, loadCellsFrom]
        · rcases c3 with ⟨rfl, hc2⟩ | ⟨y, rfl, _⟩ <;> simp [Builtin.append_, run_underlying Try.underlying23, sizeOf, typeInfo, i1, Builtin.lenOf, Builtin.firstCells, storeCells, loadCells, loadCellsFrom]
      obtain ⟨v', hr, rfl⟩ := hrun
      exact ⟨_, W, hr, Below.refl _ _, S2, hob.map fun W' h' => by rw [List.append_nil]; exact htight W' h', fun k hk => .inl hk⟩
    · have hbpos : 0 < b.length := List.length_pos_iff.2 hb0
      obtain ⟨x, rfl, hx⟩ : ∃ x, Au = some x ∧ ∀ j u, (b.map bv)[j]? = some u → W.cell? (x.add j) = some u := by
        rcases c3 with ⟨_, hc2⟩ | ⟨x, e, hx⟩
        · omega
        · exact ⟨x, e, hx⟩
      have hfin : ∀ v' w', w'.ownsRow W.heap.size 5 1 v' (rest.length + b.length) (rest.map bv ++ b.map bv) → Ob (fun W => Bs W v' (rest ++ b)) w' (fun g => v'.ownBlock = some g) := fun v' w' hown => (Ob.own hown).map fun W' h' => by
        have : Rn 1 W' v' ((rest ++ b).map bv).length ((rest ++ b).map bv) := by rw [List.length_map, List.length_append, List.map_append]; exact h'
        exact Rd.of_rn this
      obtain ⟨A', c', e, r1, r2, r3⟩ := hW
      injection e with e1 e2 e3
      subst e1; subst e3
      rcases r3 with ⟨rfl, hc⟩ | ⟨y, rfl, hy⟩
      · have h0 : rest.length = 0 := by omega
        obtain rfl : rest = [] := List.eq_nil_of_length_eq_zero h0
        obtain ⟨v', w', hrun, q1, q2, _⟩ := run_append_own (P := Try.prog) W W.heap.size 23 ty 5 i z 1 1 Try.underlying23 i1 i2 i4 i5 i3 (by omega) (.slice none 0 0) 0 [] (World.ownsRow_nil W _ _ _) x b.length cu (b.map bv) (by simp) hx one_bv (by unfold maxLen; omega) (by omega) (Nat.le_refl _)
        exact ⟨v', w', hrun, (Below.refl _ _).grown q2 (Nat.le_refl _) (by simp [Value.ownBlock]), _, hfin v' w' q1, fun k hk => .inr (q1.lt k hk).1⟩
      · obtain ⟨v', w', hrun, q1, q2⟩ := run_append_arg_grows (P := Try.prog) W 23 ty 5 i z 1 1 Try.underlying23 i1 i2 i4 i5 i3 (by omega) y rest.length rest.length (rest.map bv) (by simp) hy x b.length cu (b.map bv) (by simp) hx (by omega) (by unfold maxLen; omega) (by omega)
        exact ⟨v', w', hrun, (Below.refl _ _).grown q2 (Nat.le_refl _) (by simp), _, hfin v' w' q1, fun k hk => .inr (q1.lt k hk).1⟩

/-! ### the decoder -/
/-- A row of bytes of its own, by its block. -/
def Owb (v : Value) (l : List UInt8) : Wx := fun w S => OwB w 0 v l ∧ ∀ k, S k ↔ v.ownBlock = some k
theorem Wd.owb (v : Value) (l : List UInt8) : Wd (Owb v l) := by
  constructor
  · rintro w S ⟨h1, h2⟩ k hk
    exact h1.lt ((h2 k).1 hk)
  · rintro w w' S ⟨h1, h2⟩ hs hb
    exact ⟨h1.kept fun k hk => hb k ((h2 k).2 hk), h2⟩
section
variable {q t : Nat} {T T' : Tab} {mx B told : Nat} {rest out : List UInt8} {w w' : World} {S : Nat → Prop}
end
end Go.Proofs.Yteopmaaghhendaa

/-
  QPACK, read by the program, as plain mathematics: one step of the encoder stream; bytes fed, in any pieces; a section's lines.
-/
namespace Go.Proofs.Yteopmaaghhendaa
open Go.RowKit
set_option linter.unusedVariables false

/-! ### the encoder stream -/
/-- One step: how many bytes, the error, the table, the name that waits for its value. -/
def stpP (mx : Nat) (T : Tab) (nm : Option ByteArray) (b : List UInt8) : Nat × Int × Tab × Option ByteArray :=
  match nm with
  | some x =>
    if (sb 7 b).2.2 ≠ 0 then (0, (sb 7 b).2.2, T, some x)
    else if T.cap < fsz (x, bstr (sb 7 b).1) + 32 then (0, 26, T, some x)
    else ((sb 7 b).2.1.toNat, 0, T.add (x, bstr (sb 7 b).1), none)
  | none =>
    if 128 ≤ headN b then
      if (rp 6 b).2.2 ≠ 0 then (0, (rp 6 b).2.2, T, none)
      else if headN b < 192 then (if isN T.l (rp 6 b).1.toNat then ((rp 6 b).2.1.toNat, 0, T, some (entN T.l (rp 6 b).1.toNat).1) else (0, 26, T, none))
      else (if isF T3 0 (rp 6 b).1.toNat then ((rp 6 b).2.1.toNat, 0, T, some (entF T3 0 (rp 6 b).1.toNat).1) else (0, 26, T, none))
    else if 64 ≤ headN b then
      if (sb 5 b).2.2 ≠ 0 then (0, (sb 5 b).2.2, T, none) else ((sb 5 b).2.1.toNat, 0, T, some (bstr (sb 5 b).1))
    else if 32 ≤ headN b then
      if (rp 5 b).2.2 ≠ 0 then (0, (rp 5 b).2.2, T, none) else if mx < (rp 5 b).1.toNat then (0, 26, T, none) else ((rp 5 b).2.1.toNat, 0, T.resize (rp 5 b).1, none)
    else
      if (rp 5 b).2.2 ≠ 0 then (0, (rp 5 b).2.2, T, none)
      else if isN T.l (rp 5 b).1.toNat then ((rp 5 b).2.1.toNat, 0, T.add (entN T.l (rp 5 b).1.toNat), none) else (0, 26, T, none)
/-- Bytes, the first n steps at most: the table, the name that waits, the bytes that wait, whether it broke. -/
def feedR (mx : Nat) : Nat → Tab → Option ByteArray → List UInt8 → Tab × Option ByteArray × List UInt8 × Bool
  | 0, T, nm, r => (T, nm, r, false)
  | n + 1, T, nm, r => if r = [] then (T, nm, [], false)
    else if (stpP mx T nm r).2.1 = 20 then (T, nm, r, false)
    else if (stpP mx T nm r).2.1 ≠ 0 then (T, none, [], true)
    else feedR mx n (stpP mx T nm r).2.2.1 (stpP mx T nm r).2.2.2 (r.drop (stpP mx T nm r).1)
theorem feedR_step (mx n : Nat) (T : Tab) (nm : Option ByteArray) (r : List UInt8) : feedR mx (n + 1) T nm r = if r = [] then (T, nm, [], false)
    else if (stpP mx T nm r).2.1 = 20 then (T, nm, r, false)
    else if (stpP mx T nm r).2.1 ≠ 0 then (T, none, [], true)
    else feedR mx n (stpP mx T nm r).2.2.1 (stpP mx T nm r).2.2.2 (r.drop (stpP mx T nm r).1) := rfl
theorem feedR_nil (mx n : Nat) (T : Tab) (nm : Option ByteArray) : feedR mx n T nm [] = (T, nm, [], false) := by cases n <;> rfl

/-- What a step comes to. -/
theorem stpP_len (mx : Nat) (T : Tab) (nm : Option ByteArray) (b : List UInt8) : ((stpP mx T nm b).2.1 = 0 → 1 ≤ (stpP mx T nm b).1) ∧ (stpP mx T nm b).1 ≤ b.length ∧ ((stpP mx T nm b).2.1 ≠ 0 → (stpP mx T nm b).2.2 = (T, nm) ∧ (stpP mx T nm b).1 = 0) := by
  have H6 := rp_cases 6 b
  have H5 := rp_cases 5 b
  have S5 := sb_casesK 5 b
  have S7 := sb_casesK 7 b
  unfold stpP
  cases nm with
  | some x =>
    dsimp only
    rcases S7 with ⟨e, he, hs⟩ | ⟨s, m, hs, h1, h2, h3⟩
    · rw [hs]; simp [he]
    · rw [hs]; simp only [ne_eq, not_true, if_false]
      split
      · exact ⟨fun h => by simp at h, Nat.zero_le _, fun _ => ⟨rfl, rfl⟩⟩
      · exact ⟨fun _ => by simpa using h1, by simpa using h2, fun h => by simp at h⟩
  | none =>
    dsimp only
    split
    · rcases H6 with hr | hr | ⟨n, m, hr, h1, h2, h3⟩
      · rw [hr]; simp
      · rw [hr]; simp
      · rw [hr]; simp only [ne_eq, not_true, if_false, Int.toNat_natCast]
        split
        · split
          · exact ⟨fun _ => h1, h2, fun h => by simp at h⟩
          · simp
        · split
          · exact ⟨fun _ => h1, h2, fun h => by simp at h⟩
          · simp
    · split
      · rcases S5 with ⟨e, he, hs⟩ | ⟨s, m, hs, h1, h2, h3⟩
        · rw [hs]; simp [he]
        · rw [hs]; simp only [ne_eq, not_true, if_false, Int.toNat_natCast]
          exact ⟨fun _ => h1, h2, fun h => by simp at h⟩
      · split
        · rcases H5 with hr | hr | ⟨n, m, hr, h1, h2, h3⟩
          · rw [hr]; simp
          · rw [hr]; simp
          · rw [hr]; simp only [ne_eq, not_true, if_false, Int.toNat_natCast]
            split
            · simp
            · exact ⟨fun _ => h1, h2, fun h => by simp at h⟩
        · rcases H5 with hr | hr | ⟨n, m, hr, h1, h2, h3⟩
          · rw [hr]; simp
          · rw [hr]; simp
          · rw [hr]; simp only [ne_eq, not_true, if_false, Int.toNat_natCast]
            split
            · exact ⟨fun _ => h1, h2, fun h => by simp at h⟩
            · simp

/-! ### bytes that come behind -/
theorem rpGo_app (y : List UInt8) : ∀ (t : List UInt8) (i v : Nat), (rpGo t i v).2.2 ≠ 20 → rpGo (t ++ y) i v = rpGo t i v
  | [], i, v, h => by exact absurd rfl h
  | c :: t, i, v, h => by
    have ih := rpGo_app y t (i + 1) (v + c.toNat % 128 * 2 ^ (7 * i))
    rw [List.cons_append]
    unfold rpGo at h ⊢
    split
    · rfl
    · rename_i h1
      rw [if_neg h1] at h
      split
      · rfl
      · rename_i h2
        rw [if_neg h2] at h
        split
        · rfl
        · rename_i h3
          rw [if_neg h3] at h
          exact ih h
theorem rp_app (k : Nat) (l y : List UInt8) (h : (rp k l).2.2 ≠ 20) : rp k (l ++ y) = rp k l := by
  cases l with
  | nil => exact absurd rfl h
  | cons c t =>
    have e : ∀ t : List UInt8, rp k (c :: t) = if c.toNat % 2 ^ k < 2 ^ k - 1 then (((c.toNat % 2 ^ k : Nat) : Int), 1, 0) else rpGo t 0 (c.toNat % 2 ^ k) := fun t => rfl
    rw [List.cons_append, e]
    rw [e] at h ⊢
    by_cases h1 : c.toNat % 2 ^ k < 2 ^ k - 1
    · rw [if_pos h1, if_pos h1]
    · rw [if_neg h1] at h ⊢
      rw [if_neg h1]
      exact rpGo_app y t _ _ h
theorem sb_app (k : Nat) (l y : List UInt8) (h : (sb k l).2.2 ≠ 20) : sb k (l ++ y) = sb k l := by
  have hr : (rp k l).2.2 ≠ 20 := fun hh => h (by unfold sb; rw [if_pos (by rw [hh]; decide), hh])
  have hrp := rp_app k l y hr
  have hl : l ≠ [] := fun e => by subst e; exact hr rfl
  have hhd : (l ++ y).headD 0 = l.headD 0 := by cases l with
    | nil => exact (hl rfl).elim
    | cons c t => rfl
  rcases rp_cases k l with hc | hc | ⟨n, m, hc, h1, h2, h3⟩
  · rw [hc] at hr; exact absurd rfl hr
  · rw [hc] at hrp; rw [sb_err hrp (by decide), sb_err hc (by decide)]
  · rw [hc] at hrp
    by_cases hn : (4096 : Int) < (n : Int)
    · rw [sb_long hrp hn, sb_long hc hn]
    · have hm : ¬ (l.length : Int) - (m : Int) < (n : Int) := fun hm => h (by rw [sb_more hc hn hm])
      have hm' : ¬ ((l ++ y).length : Int) - (m : Int) < (n : Int) := by rw [List.length_append]; omega
      have ht : (l ++ y).take ((m : Int) + (n : Int)).toNat = l.take ((m : Int) + (n : Int)).toNat := List.take_append_of_le_length (by omega)
      unfold sb
      rw [hrp, hc, hhd, ht]
      simp only [ne_eq, not_true, if_false, hn, hm, hm']
theorem headN_app {l : List UInt8} (y : List UInt8) (h : l ≠ []) : headN (l ++ y) = headN l := by
  cases l with
  | nil => exact (h rfl).elim
  | cons c t => rfl
theorem stpP_app (mx : Nat) (T : Tab) (nm : Option ByteArray) {l : List UInt8} (y : List UInt8) (hl : l ≠ []) (h : (stpP mx T nm l).2.1 ≠ 20) : stpP mx T nm (l ++ y) = stpP mx T nm l := by
  unfold stpP at h ⊢
  cases nm with
  | some x =>
    dsimp only at h ⊢
    have hs : (sb 7 l).2.2 ≠ 20 := fun hh => h (by rw [hh, if_pos (by decide)])
    rw [sb_app 7 l y hs]
  | none =>
    dsimp only at h ⊢
    rw [headN_app y hl]
    by_cases h1 : 128 ≤ headN l
    · simp only [h1, if_true] at h ⊢
      have hs : (rp 6 l).2.2 ≠ 20 := fun hh => h (by rw [hh, if_pos (by decide)])
      rw [rp_app 6 l y hs]
    · simp only [h1, if_false] at h ⊢
      by_cases h2 : 64 ≤ headN l
      · simp only [h2, if_true] at h ⊢
        have hs : (sb 5 l).2.2 ≠ 20 := fun hh => h (by rw [hh, if_pos (by decide)])
        rw [sb_app 5 l y hs]
      · simp only [h2, if_false] at h ⊢
        have hs : (rp 5 l).2.2 ≠ 20 := fun hh => h (by rw [hh]; split <;> rw [if_pos (by decide)])
        rw [rp_app 5 l y hs]
theorem feedR_fuel (mx : Nat) : ∀ (n n' : Nat) (T : Tab) (nm : Option ByteArray) (r : List UInt8), r.length ≤ n → r.length ≤ n' → feedR mx n T nm r = feedR mx n' T nm r
  | 0, n', T, nm, r, h, h' => by
    obtain rfl := List.eq_nil_of_length_eq_zero (Nat.le_zero.1 h)
    rw [feedR_nil, feedR_nil]
  | n + 1, 0, T, nm, r, h, h' => by
    obtain rfl := List.eq_nil_of_length_eq_zero (Nat.le_zero.1 h')
    rw [feedR_nil, feedR_nil]
  | n + 1, n' + 1, T, nm, r, h, h' => by
    rw [feedR_step, feedR_step]
    split
    · rfl
    · split
      · rfl
      · split
        · rfl
        · rename_i h1 h2 h3
          have hl := (stpP_len mx T nm r).1 (Decidable.not_not.1 h3)
          exact feedR_fuel mx n n' _ _ _ (by rw [List.length_drop]; omega) (by rw [List.length_drop]; omega)
/-- Bytes that come behind what went well are fed as if they had come with it. -/
theorem feedR_app (mx : Nat) (y : List UInt8) : ∀ (n : Nat) (T : Tab) (nm : Option ByteArray) (r : List UInt8), r.length ≤ n →
    ((feedR mx n T nm r).2.2.2 = false → feedR mx (r ++ y).length T nm (r ++ y) = feedR mx ((feedR mx n T nm r).2.2.1 ++ y).length (feedR mx n T nm r).1 (feedR mx n T nm r).2.1 ((feedR mx n T nm r).2.2.1 ++ y)) ∧
    ((feedR mx n T nm r).2.2.2 = true → (feedR mx (r ++ y).length T nm (r ++ y)).2.2.2 = true)
  | 0, T, nm, r, h => by
    obtain rfl := List.eq_nil_of_length_eq_zero (Nat.le_zero.1 h)
    exact ⟨fun _ => rfl, fun h => by cases h⟩
  | n + 1, T, nm, r, h => by
    by_cases hr : r = []
    · subst hr
      rw [feedR_nil]
      exact ⟨fun _ => rfl, fun h => by cases h⟩
    · rw [feedR_step, if_neg hr]
      by_cases h20 : (stpP mx T nm r).2.1 = 20
      · rw [if_pos h20]
        exact ⟨fun _ => rfl, fun h => by cases h⟩
      · rw [if_neg h20]
        have hst := stpP_app mx T nm y hr h20
        have hry : r ++ y ≠ [] := fun e => hr (List.append_eq_nil_iff.1 e).1
        have hL : ∃ L, (r ++ y).length = L + 1 := ⟨(r ++ y).length - 1, by have := List.length_pos_iff.2 hry; omega⟩
        obtain ⟨L, hL⟩ := hL
        by_cases h0 : (stpP mx T nm r).2.1 = 0
        · rw [if_neg (by simp [h0])]
          obtain ⟨l1, l2, _⟩ := stpP_len mx T nm r
          have l1 := l1 h0
          obtain ⟨i1, i2⟩ := feedR_app mx y n (stpP mx T nm r).2.2.1 (stpP mx T nm r).2.2.2 (r.drop (stpP mx T nm r).1) (by rw [List.length_drop]; omega)
          have hall : feedR mx (r ++ y).length T nm (r ++ y) = feedR mx (r.drop (stpP mx T nm r).1 ++ y).length (stpP mx T nm r).2.2.1 (stpP mx T nm r).2.2.2 (r.drop (stpP mx T nm r).1 ++ y) := by
            rw [hL, feedR_step, if_neg hry, hst, if_neg h20, if_neg (by simp [h0]), List.drop_append_of_le_length l2]
            refine feedR_fuel mx _ _ _ _ _ ?_ (Nat.le_refl _)
            rw [List.length_append, List.length_drop] at *
            omega
          rw [hall]
          exact ⟨i1, i2⟩
        · rw [if_pos h0]
          refine ⟨fun h => (by cases h), fun _ => ?_⟩
          rw [hL, feedR_step, if_neg hry, hst, if_neg h20, if_pos h0]

/-! ### the decoder's state -/
/-- What the decoder holds: its table, its limits, the streams that wait, the name that waits for its value, the bytes that wait, whether it broke, what it has to say, what it told. -/
structure Qr where
  T : Tab
  mx : Nat
  bk : Nat
  wl : List Nat
  nm : Option ByteArray
  rest : List UInt8
  br : Bool
  says : List UInt8
  told : Nat
def Qr.new (mx bk : Nat) : Qr := ⟨⟨[], 0, 0⟩, mx, bk, [], none, [], false, [], 0⟩
/-- Bytes of the encoder stream. -/
def Qr.feed (X : Qr) (b : List UInt8) : Qr × Int :=
  if X.br then (X, 26) else
  ({ X with T := (feedR X.mx (X.rest ++ b).length X.T X.nm (X.rest ++ b)).1, nm := (feedR X.mx (X.rest ++ b).length X.T X.nm (X.rest ++ b)).2.1, rest := (feedR X.mx (X.rest ++ b).length X.T X.nm (X.rest ++ b)).2.2.1, br := (feedR X.mx (X.rest ++ b).length X.T X.nm (X.rest ++ b)).2.2.2 },
    if (feedR X.mx (X.rest ++ b).length X.T X.nm (X.rest ++ b)).2.2.2 then 26 else 0)
/-- What comes in two pieces is fed as if it had come in one. -/
theorem Qr.feed_app (X : Qr) (hX : X.br = false) (x y : List UInt8) : ((X.feed x).1.br = false → X.feed (x ++ y) = (X.feed x).1.feed y) ∧ ((X.feed x).1.br = true → (X.feed (x ++ y)).1.br = true) := by
  obtain ⟨h1, h2⟩ := feedR_app X.mx y (X.rest ++ x).length X.T X.nm (X.rest ++ x) (Nat.le_refl _)
  unfold Qr.feed
  simp only [hX, Bool.false_eq_true, if_false]
  rw [← List.append_assoc]
  refine ⟨fun h => ?_, fun h => h2 h⟩
  rw [h1 h, h]
  simp
/-- What is sent. -/
def Qr.send (X : Qr) : List UInt8 := if X.told < X.T.tot then X.says ++ pre 0 6 (X.T.tot - X.told) else X.says
def Qr.sent (X : Qr) : Qr := { X with says := [], told := max X.told X.T.tot }
/-- A section of stream s that needs more than there is. -/
def Qr.wait (X : Qr) (s : Nat) : Qr × Int := if s ∈ X.wl then (X, 27) else if X.bk ≤ X.wl.length then (X, 50) else ({ X with wl := s :: X.wl }, 27)
/-- A section of stream s, of count c, was read. -/
def Qr.ack (X : Qr) (s c : Nat) : Qr := { X with wl := X.wl.erase s, says := if 0 < c then X.says ++ pre 128 7 s else X.says, told := if 0 < c then max X.told c else X.told }

/-! ### a section's lines -/
def atR (T : Tab) (c : Nat) (o : Option Nat) : Option Fd :=
  match o with
  | none => none
  | some a => if a < c then (if isF T.l T.first a then some (entF T.l T.first a) else none) else none
/-- An index that has k bits; the bit ahead of them says of which table it is. -/
def entR (k : Nat) (T : Tab) (c base : Nat) (b : List UInt8) : Option (Fd × List UInt8) :=
  match numP k b with
  | none => none
  | some (i, r) => if headN b / 2 ^ k % 2 = 1 then (if isF T3 0 i then some (entF T3 0 i, r) else none)
    else match atR T c (relN base i) with
      | none => none
      | some f => some (f, r)
/-- An index from the base upwards. -/
def abvR (k : Nat) (T : Tab) (c base : Nat) (b : List UInt8) : Option (Fd × List UInt8) :=
  match numP k b with
  | none => none
  | some (i, r) => match atR T c (sumN base i 4611686018427387903) with
    | none => none
    | some f => some (f, r)
def nmdR (b : List UInt8) : Option (Fd × List UInt8) := if (sb 3 b).2.2 = 0 then some ((bstr (sb 3 b).1, ⟨#[]⟩), b.drop (sb 3 b).2.1.toNat) else none
def valR (o : Option (Fd × List UInt8)) : Option (Fd × List UInt8) :=
  match o with
  | none => none
  | some (f, r) => match txtP r with
    | none => none
    | some (v, r') => some ((f.1, v), r')
/-- One line. -/
def lineR (T : Tab) (c base : Nat) (b : List UInt8) : Option (Fd × List UInt8) :=
  if 128 ≤ headN b then entR 6 T c base b
  else if 64 ≤ headN b then valR (entR 4 T c base b)
  else if 32 ≤ headN b then valR (nmdR b)
  else if 16 ≤ headN b then abvR 4 T c base b
  else valR (abvR 3 T c base b)
/-- All lines, the first n at most. -/
def linesR (T : Tab) (c base : Nat) : Nat → List Fd → List UInt8 → Option (List Fd)
  | 0, out, b => if b = [] then some out else none
  | n + 1, out, b => if b = [] then some out else
    match lineR T c base b with
    | none => none
    | some (f, r) => if out.length = 64 then none else linesR T c base n (out ++ [f]) r
end Go.Proofs.Yteopmaaghhendaa

/-
  Whole instructions, one behind another; contract of the document's Feed (of the decoder) for these.
-/
namespace Go.Proofs.Yteopmaaghhendaa
open Go.RowKit Go.Maps
set_option linter.unusedVariables false
set_option linter.unusedSimpArgs false

/-- The bytes are at most n whole instructions, and lead from one table to the other. -/
def Feeds (mx : Nat) : Nat → Tab → List UInt8 → Tab → Prop
  | 0, T, b, T' => b = [] ∧ T = T'
  | n + 1, T, b, T' => (b = [] ∧ T = T') ∨ ∃ k T1, b ≠ [] ∧ insP mx T b = (k, 0, T1) ∧ 1 ≤ k ∧ k ≤ b.length ∧ Feeds mx n T1 (b.drop k) T'
theorem Feeds.nil {mx n : Nat} {T T' : Tab} (h : Feeds mx n T [] T') : T = T' := by
  cases n with
  | zero => exact h.2
  | succ n =>
    rcases h with h | ⟨k, T1, h, _⟩
    · exact h.2
    · exact absurd rfl h
theorem Feeds.cons {mx n : Nat} {T T' : Tab} {b : List UInt8} (h : Feeds mx n T b T') (hb : b ≠ []) : ∃ m k T1, n = m + 1 ∧ insP mx T b = (k, 0, T1) ∧ 1 ≤ k ∧ k ≤ b.length ∧ Feeds mx m T1 (b.drop k) T' := by
  cases n with
  | zero => exact absurd h.1 hb
  | succ n =>
    rcases h with h | ⟨k, T1, _, h1, h2, h3, h4⟩
    · exact absurd h.1 hb
    · exact ⟨n, k, T1, rfl, h1, h2, h3, h4⟩
section
variable {q t : Nat} {T T' : Tab} {mx B told : Nat} {rest rest' out : List UInt8} {w w' : World} {S : Nat → Prop} {v' : Value}
end
end Go.Proofs.Yteopmaaghhendaa

/-
  Contract of the document's Feed (of the decoder), of whole instructions.
-/
namespace Go.Proofs.Yteopmaaghhendaa
open Go.RowKit Go.Maps
set_option linter.unusedVariables false
set_option linter.unusedSimpArgs false

section
variable {q t : Nat} {T T' : Tab} {mx B told : Nat} {rest rest' out : List UInt8} {w w' : World} {S : Nat → Prop} {v' : Value}
end
end Go.Proofs.Yteopmaaghhendaa

/-
  The document's ReadPrefix of a section, where its base is its count; entry.
-/
namespace Go.Proofs.Yteopmaaghhendaa
open Go.RowKit Go.Maps
set_option linter.unusedVariables false

end Go.Proofs.Yteopmaaghhendaa

/-
  The document's entry, waits, forget (no stream waits), of the decoder.
-/
namespace Go.Proofs.Yteopmaaghhendaa
open Go.RowKit Go.Maps
set_option linter.unusedVariables false

end Go.Proofs.Yteopmaaghhendaa

/-
  What the document's encoder writes, as the program's decoder reads it: one instruction is one or two steps.
-/
namespace Go.Proofs.Yteopmaaghhendaa
open Go.RowKit
set_option linter.unusedVariables false

theorem feedR_one {mx : Nat} {T : Tab} {nm : Option ByteArray} {r : List UInt8} (hr : r ≠ []) (h : (stpP mx T nm r).2.1 = 0) :
    feedR mx r.length T nm r = feedR mx (r.drop (stpP mx T nm r).1).length (stpP mx T nm r).2.2.1 (stpP mx T nm r).2.2.2 (r.drop (stpP mx T nm r).1) := by
  obtain ⟨L, hL⟩ : ∃ L, r.length = L + 1 := ⟨r.length - 1, by have := List.length_pos_iff.2 hr; omega⟩
  obtain ⟨l1, l2, _⟩ := stpP_len mx T nm r
  have l1 := l1 h
  rw [hL, feedR_step, if_neg hr, if_neg (by omega), if_neg (by simp [h])]
  exact feedR_fuel mx _ _ _ _ _ (by rw [List.length_drop]; omega) (Nat.le_refl _)
theorem stp_tail {mx : Nat} {T T1 : Tab} {x : ByteArray} {k j : Nat} {b : List UInt8} (h : tailP T x j b = (k, 0, T1)) : ∃ m, k = j + m ∧ stpP mx T (some x) (b.drop j) = (m, 0, T1, none) := by
  unfold tailP at h
  unfold stpP
  dsimp only
  by_cases h1 : (sb 7 (b.drop j)).2.2 ≠ 0
  · rw [if_pos h1] at h
    injection h with _ h
    injection h with h _
    exact absurd h h1
  rw [if_neg h1] at h ⊢
  by_cases h2 : T.cap < fsz (x, bstr (sb 7 (b.drop j)).1) + 32
  · rw [if_pos h2] at h
    injection h with _ h
    injection h with h _
    exact absurd h (by decide)
  rw [if_neg h2] at h ⊢
  injection h with h3 h
  injection h with _ h4
  exact ⟨_, h3.symm, by rw [h4]⟩
/-- A name, and the value behind it. -/
theorem feed_two {mx : Nat} {T T1 : Tab} {x : ByteArray} {k j : Nat} {b : List UInt8} (hb : b ≠ []) (hs : stpP mx T none b = (j, 0, T, some x)) (h : tailP T x j b = (k, 0, T1)) :
    feedR mx b.length T none b = feedR mx (b.drop k).length T1 none (b.drop k) := by
  obtain ⟨m, rfl, h2⟩ := stp_tail (mx := mx) h
  have a1 := feedR_one (mx := mx) (T := T) (nm := none) hb (by rw [hs])
  rw [hs] at a1
  dsimp only at a1
  have hne : b.drop j ≠ [] := fun e => by
    have := (stpP_len mx T (some x) (b.drop j)).2.1
    have h0 := (stpP_len mx T (some x) (b.drop j)).1 (by rw [h2])
    rw [e] at this h0
    simp at this
    omega
  have a2 := feedR_one (mx := mx) (T := T) (nm := some x) hne (by rw [h2])
  rw [h2] at a2
  dsimp only at a2
  rw [a1, a2, List.drop_drop]
theorem feed_ins {mx : Nat} {T T1 : Tab} {k : Nat} {b : List UInt8} (hb : b ≠ []) (h : insP mx T b = (k, 0, T1)) : feedR mx b.length T none b = feedR mx (b.drop k).length T1 none (b.drop k) := by
  have hone : stpP mx T none b = (k, 0, T1, none) → feedR mx b.length T none b = feedR mx (b.drop k).length T1 none (b.drop k) := fun hs => by
    have a1 := feedR_one (mx := mx) (T := T) (nm := none) hb (by rw [hs])
    rw [hs] at a1
    exact a1
  unfold insP at h
  by_cases h128 : 128 ≤ headN b
  · rw [if_pos h128] at h
    by_cases he : (rp 6 b).2.2 ≠ 0
    · rw [if_pos he] at h
      injection h with _ h
      injection h with h _
      exact absurd h he
    rw [if_neg he] at h
    by_cases h192 : headN b < 192
    · rw [if_pos h192] at h
      by_cases hi : isN T.l (rp 6 b).1.toNat
      · rw [if_pos hi] at h
        exact feed_two hb (by unfold stpP; dsimp only; rw [if_pos h128, if_neg he, if_pos h192, if_pos hi]) h
      · rw [if_neg hi] at h
        injection h with _ h
        injection h with h _
        exact absurd h (by decide)
    · rw [if_neg h192] at h
      by_cases hi : isF T3 0 (rp 6 b).1.toNat
      · rw [if_pos hi] at h
        exact feed_two hb (by unfold stpP; dsimp only; rw [if_pos h128, if_neg he, if_neg h192, if_pos hi]) h
      · rw [if_neg hi] at h
        injection h with _ h
        injection h with h _
        exact absurd h (by decide)
  rw [if_neg h128] at h
  by_cases h64 : 64 ≤ headN b
  · rw [if_pos h64] at h
    by_cases he : (sb 5 b).2.2 ≠ 0
    · rw [if_pos he] at h
      injection h with _ h
      injection h with h _
      exact absurd h he
    rw [if_neg he] at h
    exact feed_two hb (by unfold stpP; dsimp only; rw [if_neg h128, if_pos h64, if_neg he]) h
  rw [if_neg h64] at h
  by_cases h32 : 32 ≤ headN b
  · rw [if_pos h32] at h
    by_cases he : (rp 5 b).2.2 ≠ 0
    · rw [if_pos he] at h
      injection h with _ h
      injection h with h _
      exact absurd h he
    rw [if_neg he] at h
    by_cases hm : mx < (rp 5 b).1.toNat
    · rw [if_pos hm] at h
      injection h with _ h
      injection h with h _
      exact absurd h (by decide)
    rw [if_neg hm] at h
    injection h with h1 h
    injection h with _ h2
    exact hone (by unfold stpP; dsimp only; rw [if_neg h128, if_neg h64, if_pos h32, if_neg he, if_neg hm, h1, h2])
  rw [if_neg h32] at h
  by_cases he : (rp 5 b).2.2 ≠ 0
  · rw [if_pos he] at h
    injection h with _ h
    injection h with h _
    exact absurd h he
  rw [if_neg he] at h
  by_cases hi : isN T.l (rp 5 b).1.toNat
  · rw [if_pos hi] at h
    by_cases hc : T.cap < fsz (entN T.l (rp 5 b).1.toNat) + 32
    · rw [if_pos hc] at h
      injection h with _ h
      injection h with h _
      exact absurd h (by decide)
    rw [if_neg hc] at h
    injection h with h1 h
    injection h with _ h2
    exact hone (by unfold stpP; dsimp only; rw [if_neg h128, if_neg h64, if_neg h32, if_neg he, if_pos hi, h1, h2])
  · rw [if_neg hi] at h
    injection h with _ h
    injection h with h _
    exact absurd h (by decide)
/-- All that the document's encoder writes is read to the end, into its table. -/
theorem feeds_feedR {mx : Nat} : ∀ (n : Nat) {T T' : Tab} {b : List UInt8}, Feeds mx n T b T' → feedR mx b.length T none b = (T', none, [], false)
  | n, T, T', [], h => by
    rw [Feeds.nil h, feedR_nil]
  | n, T, T', x :: b, h => by
    obtain ⟨m, k, T1, rfl, h1, h2, h3, h4⟩ := h.cons (by simp)
    rw [feed_ins (by simp) h1]
    exact feeds_feedR m h4
end Go.Proofs.Yteopmaaghhendaa
