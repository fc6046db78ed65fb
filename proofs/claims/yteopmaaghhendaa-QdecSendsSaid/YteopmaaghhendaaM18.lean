/-
  Texts put together: QdMath, QdA, QdB, QdC, QdD, QdE, QrMath, QdF, QdG, QdH, QdI, QdJ, QdK, QdL.
-/
import Derived.Test.YteopmaaghhendaaM14
import Derived.Test.YteopmaaghhendaaM13
import Derived.Test.YteopmaaghhendaaM01
import Derived.Test.YteopmaaghhendaaM08
import Derived.Deep.RegionHeld
import Derived.Handy
import Derived.Deep.QuietTactic
import Derived.BigQuiet
import Derived.Deep.CutBlock
import Derived.Test.YteopmaaghhendaaM07

/-
  QPACK, read, as plain mathematics: one instruction of the encoder stream; masks.
-/
namespace Go.Proofs.Yteopmaaghhendaa
open Go.RowKit
set_option linter.unusedVariables false

theorem sb_casesK (k : Nat) (l : List UInt8) : (∃ e : Int, e ≠ 0 ∧ sb k l = ([], 0, e)) ∨ ∃ (s : List UInt8) (m : Nat), sb k l = (s, (m : Int), 0) ∧ 1 ≤ m ∧ m ≤ l.length ∧ s.length ≤ 4096 := by
  rcases rp_cases k l with hr | hr | ⟨n, m, hr, h1, h2, h3⟩
  · exact .inl ⟨20, by decide, sb_err hr (by decide)⟩
  · exact .inl ⟨21, by decide, sb_err hr (by decide)⟩
  · by_cases hn : 4096 < n
    · exact .inl ⟨23, by decide, sb_long hr (by omega)⟩
    · by_cases hm : l.length < m + n
      · exact .inl ⟨20, by decide, sb_more hr (by omega) (by omega)⟩
      · by_cases hc : (l.headD 0).toNat / 2 ^ k % 2 = 0
        · refine .inr ⟨_, m + n, by rw [sb_plain hr (by omega) (by omega) hc]; rfl, by omega, by omega, ?_⟩
          simp; omega
        · by_cases he : (dec (allBits ((l.take ((m : Int) + (n : Int)).toNat).drop (m : Int).toNat)) [] 0 0).2 = 0
          · refine .inr ⟨_, m + n, by rw [sb_coded hr (by omega) (by omega) hc rfl he]; rfl, by omega, by omega, ?_⟩
            exact dec_short _ _ _ _ (by simp)
          · exact .inl ⟨_, by exact_mod_cast he, sb_bad hr (by omega) (by omega) hc rfl he⟩
theorem entN_size {T : Tab} {i : Nat} (h : sizeF T.l ≤ 1000000) : fsz (entN T.l i) ≤ 1000000 := by
  unfold entN
  split
  · rename_i hi
    have : ∀ (l : List Fd) (f : Fd), f ∈ l → fsz f ≤ sizeF l := fun l => by
      induction l with
      | nil => intro f hf; cases hf
      | cons x l ih =>
        intro f hf
        simp only [sizeF]
        rcases List.mem_cons.1 hf with rfl | hf
        · omega
        · have := ih f hf; omega
    have := this _ _ (List.getElem_mem (show T.l.length - 1 - i < T.l.length by omega))
    omega
  · exact (by decide : 0 + 0 ≤ 1000000)
end Go.Proofs.Yteopmaaghhendaa

/-
  The document's one instruction of the encoder stream, in pieces: its code, its frame; a value behind its name.
-/
namespace Go.Proofs.Yteopmaaghhendaa
open Go.RowKit Go.Maps
set_option linter.unusedVariables false

section
variable {q t mx : Nat} {T : Tab} {S1 : Nat → Prop} {w wx : World} {bV : Value} {b : List UInt8} {G k : Nat} {f1 : ByteArray}
end
end Go.Proofs.Yteopmaaghhendaa

/-
  The document's one instruction of the encoder stream, in pieces: a name's place; a name; the capacity; an entry again.
-/
namespace Go.Proofs.Yteopmaaghhendaa
open Go.RowKit Go.Maps
set_option linter.unusedVariables false

section
variable {q t mx : Nat} {T : Tab} {S1 : Nat → Prop} {w wx : World} {bV : Value} {b : List UInt8} {G : Nat}
end
end Go.Proofs.Yteopmaaghhendaa

/-
  The document's one instruction of the encoder stream: an entry again; the whole.
-/
namespace Go.Proofs.Yteopmaaghhendaa
open Go.RowKit Go.Maps
set_option linter.unusedVariables false

section
variable {q t mx : Nat} {T : Tab} {S1 : Nat → Prop} {w wx : World} {bV : Value} {b : List UInt8} {G : Nat}
end
end Go.Proofs.Yteopmaaghhendaa

/-
  Contract of the document's one instruction of the encoder stream.
-/
namespace Go.Proofs.Yteopmaaghhendaa
open Go.RowKit Go.Maps
set_option linter.unusedVariables false

section
variable {q t mx : Nat} {T : Tab} {S1 : Nat → Prop} {w wx : World} {bV : Value} {b : List UInt8} {G : Nat}
end
end Go.Proofs.Yteopmaaghhendaa

/-
  Bytes that are appended to a slice cut tight; the document's decoder as a word; its making.
-/
namespace Go.Proofs.Yteopmaaghhendaa
open Go.RowKit Go.Maps
set_option linter.unusedVariables false

/-! ### the decoder -/
/-- A row of bytes of its own, by its block. -/
def Owb (v : Value) (l : List UInt8) : Wx := fun w S => OwB w 0 v l ∧ ∀ k, S k ↔ v.ownBlock = some k
theorem Wd.owb (v : Value) (l : List UInt8) : Wd (Owb v l) := by
  constructor
  · rintro w S ⟨h1, h2⟩ k hk
    exact h1.lt ((h2 k).1 hk)
  · rintro w w' S ⟨h1, h2⟩ hs hb
    exact ⟨h1.kept fun k hk => hb k ((h2 k).2 hk), h2⟩
section
variable {q t : Nat} {T T' : Tab} {mx B told : Nat} {rest out : List UInt8} {w w' : World} {S : Nat → Prop}
end
end Go.Proofs.Yteopmaaghhendaa

/-
  QPACK, read by the program, as plain mathematics: one step of the encoder stream; bytes fed, in any pieces; a section's lines.
-/
namespace Go.Proofs.Yteopmaaghhendaa
open Go.RowKit
set_option linter.unusedVariables false

/-! ### the encoder stream -/
/-- One step: how many bytes, the error, the table, the name that waits for its value. -/
def stpP (mx : Nat) (T : Tab) (nm : Option ByteArray) (b : List UInt8) : Nat × Int × Tab × Option ByteArray :=
  match nm with
  | some x =>
    if (sb 7 b).2.2 ≠ 0 then (0, (sb 7 b).2.2, T, some x)
    else if T.cap < fsz (x, bstr (sb 7 b).1) + 32 then (0, 26, T, some x)
    else ((sb 7 b).2.1.toNat, 0, T.add (x, bstr (sb 7 b).1), none)
  | none =>
    if 128 ≤ headN b then
      if (rp 6 b).2.2 ≠ 0 then (0, (rp 6 b).2.2, T, none)
      else if headN b < 192 then (if isN T.l (rp 6 b).1.toNat then ((rp 6 b).2.1.toNat, 0, T, some (entN T.l (rp 6 b).1.toNat).1) else (0, 26, T, none))
      else (if isF T3 0 (rp 6 b).1.toNat then ((rp 6 b).2.1.toNat, 0, T, some (entF T3 0 (rp 6 b).1.toNat).1) else (0, 26, T, none))
    else if 64 ≤ headN b then
      if (sb 5 b).2.2 ≠ 0 then (0, (sb 5 b).2.2, T, none) else ((sb 5 b).2.1.toNat, 0, T, some (bstr (sb 5 b).1))
    else if 32 ≤ headN b then
      if (rp 5 b).2.2 ≠ 0 then (0, (rp 5 b).2.2, T, none) else if mx < (rp 5 b).1.toNat then (0, 26, T, none) else ((rp 5 b).2.1.toNat, 0, T.resize (rp 5 b).1, none)
    else
      if (rp 5 b).2.2 ≠ 0 then (0, (rp 5 b).2.2, T, none)
      else if isN T.l (rp 5 b).1.toNat then ((rp 5 b).2.1.toNat, 0, T.add (entN T.l (rp 5 b).1.toNat), none) else (0, 26, T, none)
/-- Bytes, the first n steps at most: the table, the name that waits, the bytes that wait, whether it broke. -/
def feedR (mx : Nat) : Nat → Tab → Option ByteArray → List UInt8 → Tab × Option ByteArray × List UInt8 × Bool
  | 0, T, nm, r => (T, nm, r, false)
  | n + 1, T, nm, r => if r = [] then (T, nm, [], false)
    else if (stpP mx T nm r).2.1 = 20 then (T, nm, r, false)
    else if (stpP mx T nm r).2.1 ≠ 0 then (T, none, [], true)
    else feedR mx n (stpP mx T nm r).2.2.1 (stpP mx T nm r).2.2.2 (r.drop (stpP mx T nm r).1)
theorem feedR_step (mx n : Nat) (T : Tab) (nm : Option ByteArray) (r : List UInt8) : feedR mx (n + 1) T nm r = if r = [] then (T, nm, [], false)
    else if (stpP mx T nm r).2.1 = 20 then (T, nm, r, false)
    else if (stpP mx T nm r).2.1 ≠ 0 then (T, none, [], true)
    else feedR mx n (stpP mx T nm r).2.2.1 (stpP mx T nm r).2.2.2 (r.drop (stpP mx T nm r).1) := rfl
theorem feedR_nil (mx n : Nat) (T : Tab) (nm : Option ByteArray) : feedR mx n T nm [] = (T, nm, [], false) := by cases n <;> rfl

/-- What a step comes to. -/
theorem stpP_len (mx : Nat) (T : Tab) (nm : Option ByteArray) (b : List UInt8) : ((stpP mx T nm b).2.1 = 0 → 1 ≤ (stpP mx T nm b).1) ∧ (stpP mx T nm b).1 ≤ b.length ∧ ((stpP mx T nm b).2.1 ≠ 0 → (stpP mx T nm b).2.2 = (T, nm) ∧ (stpP mx T nm b).1 = 0) := by
  have H6 := rp_cases 6 b
  have H5 := rp_cases 5 b
  have S5 := sb_casesK 5 b
  have S7 := sb_casesK 7 b
  unfold stpP
  cases nm with
  | some x =>
    dsimp only
    rcases S7 with ⟨e, he, hs⟩ | ⟨s, m, hs, h1, h2, h3⟩
    · rw [hs]; simp [he]
    · rw [hs]; simp only [ne_eq, not_true, if_false]
      split
      · exact ⟨fun h => by simp at h, Nat.zero_le _, fun _ => ⟨rfl, rfl⟩⟩
      · exact ⟨fun _ => by simpa using h1, by simpa using h2, fun h => by simp at h⟩
  | none =>
    dsimp only
    split
    · rcases H6 with hr | hr | ⟨n, m, hr, h1, h2, h3⟩
      · rw [hr]; simp
      · rw [hr]; simp
      · rw [hr]; simp only [ne_eq, not_true, if_false, Int.toNat_natCast]
        split
        · split
          · exact ⟨fun _ => h1, h2, fun h => by simp at h⟩
          · simp
        · split
          · exact ⟨fun _ => h1, h2, fun h => by simp at h⟩
          · simp
    · split
      · rcases S5 with ⟨e, he, hs⟩ | ⟨s, m, hs, h1, h2, h3⟩
        · rw [hs]; simp [he]
        · rw [hs]; simp only [ne_eq, not_true, if_false, Int.toNat_natCast]
          exact ⟨fun _ => h1, h2, fun h => by simp at h⟩
      · split
        · rcases H5 with hr | hr | ⟨n, m, hr, h1, h2, h3⟩
          · rw [hr]; simp
          · rw [hr]; simp
          · rw [hr]; simp only [ne_eq, not_true, if_false, Int.toNat_natCast]
            split
            · simp
            · exact ⟨fun _ => h1, h2, fun h => by simp at h⟩
        · rcases H5 with hr | hr | ⟨n, m, hr, h1, h2, h3⟩
          · rw [hr]; simp
          · rw [hr]; simp
          · rw [hr]; simp only [ne_eq, not_true, if_false, Int.toNat_natCast]
            split
            · exact ⟨fun _ => h1, h2, fun h => by simp at h⟩
            · simp

/-! ### bytes that come behind -/
/-! ### the decoder's state -/
/-- What the decoder holds: its table, its limits, the streams that wait, the name that waits for its value, the bytes that wait, whether it broke, what it has to say, what it told. -/
structure Qr where
  T : Tab
  mx : Nat
  bk : Nat
  wl : List Nat
  nm : Option ByteArray
  rest : List UInt8
  br : Bool
  says : List UInt8
  told : Nat
def Qr.new (mx bk : Nat) : Qr := ⟨⟨[], 0, 0⟩, mx, bk, [], none, [], false, [], 0⟩
/-- Bytes of the encoder stream. -/
def Qr.feed (X : Qr) (b : List UInt8) : Qr × Int :=
  if X.br then (X, 26) else
  ({ X with T := (feedR X.mx (X.rest ++ b).length X.T X.nm (X.rest ++ b)).1, nm := (feedR X.mx (X.rest ++ b).length X.T X.nm (X.rest ++ b)).2.1, rest := (feedR X.mx (X.rest ++ b).length X.T X.nm (X.rest ++ b)).2.2.1, br := (feedR X.mx (X.rest ++ b).length X.T X.nm (X.rest ++ b)).2.2.2 },
    if (feedR X.mx (X.rest ++ b).length X.T X.nm (X.rest ++ b)).2.2.2 then 26 else 0)
/-- What is sent. -/
def Qr.send (X : Qr) : List UInt8 := if X.told < X.T.tot then X.says ++ pre 0 6 (X.T.tot - X.told) else X.says
def Qr.sent (X : Qr) : Qr := { X with says := [], told := max X.told X.T.tot }
def Qr.cancel (X : Qr) (s : Nat) : Qr := { X with wl := X.wl.erase s, says := if 0 < X.mx then X.says ++ pre 64 6 s else X.says }
/-- A section of stream s that needs more than there is. -/
def Qr.wait (X : Qr) (s : Nat) : Qr × Int := if s ∈ X.wl then (X, 27) else if X.bk ≤ X.wl.length then (X, 50) else ({ X with wl := s :: X.wl }, 27)
/-- A section of stream s, of count c, was read. -/
def Qr.ack (X : Qr) (s c : Nat) : Qr := { X with wl := X.wl.erase s, says := if 0 < c then X.says ++ pre 128 7 s else X.says, told := if 0 < c then max X.told c else X.told }

/-! ### a section's lines -/
def atR (T : Tab) (c : Nat) (o : Option Nat) : Option Fd :=
  match o with
  | none => none
  | some a => if a < c then (if isF T.l T.first a then some (entF T.l T.first a) else none) else none
/-- An index that has k bits; the bit ahead of them says of which table it is. -/
def entR (k : Nat) (T : Tab) (c base : Nat) (b : List UInt8) : Option (Fd × List UInt8) :=
  match numP k b with
  | none => none
  | some (i, r) => if headN b / 2 ^ k % 2 = 1 then (if isF T3 0 i then some (entF T3 0 i, r) else none)
    else match atR T c (relN base i) with
      | none => none
      | some f => some (f, r)
/-- An index from the base upwards. -/
def abvR (k : Nat) (T : Tab) (c base : Nat) (b : List UInt8) : Option (Fd × List UInt8) :=
  match numP k b with
  | none => none
  | some (i, r) => match atR T c (sumN base i 4611686018427387903) with
    | none => none
    | some f => some (f, r)
def nmdR (b : List UInt8) : Option (Fd × List UInt8) := if (sb 3 b).2.2 = 0 then some ((bstr (sb 3 b).1, ⟨#[]⟩), b.drop (sb 3 b).2.1.toNat) else none
def valR (o : Option (Fd × List UInt8)) : Option (Fd × List UInt8) :=
  match o with
  | none => none
  | some (f, r) => match txtP r with
    | none => none
    | some (v, r') => some ((f.1, v), r')
/-- One line. -/
def lineR (T : Tab) (c base : Nat) (b : List UInt8) : Option (Fd × List UInt8) :=
  if 128 ≤ headN b then entR 6 T c base b
  else if 64 ≤ headN b then valR (entR 4 T c base b)
  else if 32 ≤ headN b then valR (nmdR b)
  else if 16 ≤ headN b then abvR 4 T c base b
  else valR (abvR 3 T c base b)
/-- All lines, the first n at most. -/
def linesR (T : Tab) (c base : Nat) : Nat → List Fd → List UInt8 → Option (List Fd)
  | 0, out, b => if b = [] then some out else none
  | n + 1, out, b => if b = [] then some out else
    match lineR T c base b with
    | none => none
    | some (f, r) => if out.length = 64 then none else linesR T c base n (out ++ [f]) r
end Go.Proofs.Yteopmaaghhendaa

/-
  Whole instructions, one behind another; contract of the document's Feed (of the decoder) for these.
-/
namespace Go.Proofs.Yteopmaaghhendaa
open Go.RowKit Go.Maps
set_option linter.unusedVariables false
set_option linter.unusedSimpArgs false

section
variable {q t : Nat} {T T' : Tab} {mx B told : Nat} {rest rest' out : List UInt8} {w w' : World} {S : Nat → Prop} {v' : Value}
end
end Go.Proofs.Yteopmaaghhendaa

/-
  Contract of the document's Feed (of the decoder), of whole instructions.
-/
namespace Go.Proofs.Yteopmaaghhendaa
open Go.RowKit Go.Maps
set_option linter.unusedVariables false
set_option linter.unusedSimpArgs false

section
variable {q t : Nat} {T T' : Tab} {mx B told : Nat} {rest rest' out : List UInt8} {w w' : World} {S : Nat → Prop} {v' : Value}
end
end Go.Proofs.Yteopmaaghhendaa

/-
  The document's ReadPrefix of a section, where its base is its count; entry.
-/
namespace Go.Proofs.Yteopmaaghhendaa
open Go.RowKit Go.Maps
set_option linter.unusedVariables false

end Go.Proofs.Yteopmaaghhendaa

/-
  The document's entry, waits, forget (no stream waits), of the decoder.
-/
namespace Go.Proofs.Yteopmaaghhendaa
open Go.RowKit Go.Maps
set_option linter.unusedVariables false

end Go.Proofs.Yteopmaaghhendaa

/-
  The document's lines of a section, in pieces: its code, its frame; what a line is read as; behind the switch.
-/
namespace Go.Proofs.Yteopmaaghhendaa
open Go.RowKit Go.Maps
set_option linter.unusedVariables false

def OwF (w : World) (B : Nat) (v : Value) (l : List Fd) : Prop := w.ownsRow B 56 2 v l.length (l.flatMap fvl)
theorem OwF.fs {w : World} {B : Nat} {v : Value} {l : List Fd} (h : OwF w B v l) : Fs w v l := Rn.of_own h
theorem OwF.run_len {w : World} {B : Nat} {v : Value} {l : List Fd} (h : OwF w B v l) (ty : TypeId) (W : World) : (Builtin.len_ #[38] ty #[v]).run Try.prog W = .ok (.int .i64 (l.length : Int)) W := h.fs.run_len ty W
section
variable {q c g0 G k : Nat} {w2 wx : World} {b : List UInt8} {out : List Fd} {bw ov : Value} {f : Fd}
/-- A field more. -/
theorem wpList_pushF {ops : Array Oper} {rest : List Oper} {o : Oper} {a : Act} {Q : Exit → Act → World → Prop} {B : Nat} {f1 f2 : ByteArray} (hgd : o.guard = none) (so xo : Operand)
    (ho : o.op = .call { callee := .builtin .append, args := #[so, xo], argTypes := #[38, 38] })
    (h : OwF wx B ov out) (hB : B ≤ wx.heap.size) (hl : out.length ≤ 1000) (hs : a.eval so = ov) (hx : a.eval xo = .slice (some ⟨wx.heap.size, 0, none⟩) 1 1)
    (hK : ∀ v' w', OwF w' B v' (out ++ [(f1, f2)]) → Below B (wx.alloc (.cells #[.string f1, .string f2] 56)) w' → wpList Try.prog ops Q rest (a.put o.dst v') w') :
    wpList Try.prog ops Q (o :: rest) a (wx.alloc (.cells #[.string f1, .string f2] 56)) := by
  obtain ⟨i, h1, h2, h3, h4⟩ := infoF_get
  have hb := (Below.refl wx.heap.size wx).alloc (Nat.le_refl _) (.cells #[.string f1, .string f2] 56)
  refine wpList_append_ok _ 2 (by omega) hgd so xo 38 ho B 56 i _ 32 Try.underlying38 h1 h2 h3 h4 rfl _ _ out.length 1 (out.flatMap fvl) (fvl (f1, f2)) hs hx (ownN_keep h hb) (Rn.lit1 wx _ _ rfl) ?_ (by omega) (by unfold maxLen; omega) (Nat.le_trans hB hb.size) ?_
  · intro x hx
    simp only [fvl, List.mem_cons, List.not_mem_nil, or_false] at hx
    rcases hx with rfl | rfl <;> rfl
  · intro v' w' hap hb2 _
    refine hK v' w' ?_ hb2
    unfold OwF
    rw [List.length_append, List.flatMap_append]
    simpa using hap
end
end Go.Proofs.Yteopmaaghhendaa

/-
  The document's lines of a section, in pieces: the switch.
-/
namespace Go.Proofs.Yteopmaaghhendaa
open Go.RowKit Go.Maps
set_option linter.unusedVariables false

section
variable {q t c g0 G k : Nat} {T : Tab} {S1 : Nat → Prop} {w2 wx : World} {b b' : List UInt8} {out : List Fd} {bw ov : Value} {f : Fd}
end
end Go.Proofs.Yteopmaaghhendaa

/-
  Contract of the document's lines of a section, for lines as they are written.
-/
namespace Go.Proofs.Yteopmaaghhendaa
open Go.RowKit Go.Maps
set_option linter.unusedVariables false

section
variable {q t c g0 G k : Nat} {T : Tab} {S1 : Nat → Prop} {w w2 wx : World} {b b' : List UInt8} {out : List Fd} {bw ov : Value} {f : Fd}
end
end Go.Proofs.Yteopmaaghhendaa
