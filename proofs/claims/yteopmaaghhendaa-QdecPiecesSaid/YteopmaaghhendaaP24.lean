/-
  Texts put together: QrMath.
-/
import Derived.Test.YteopmaaghhendaaP21
import Derived.Test.YteopmaaghhendaaP19

/-
  QPACK, read by the program, as plain mathematics: one step of the encoder stream; bytes fed, in any pieces; a section's lines.
-/
namespace Go.Proofs.Yteopmaaghhendaa
open Go.RowKit
set_option linter.unusedVariables false

/-! ### the encoder stream -/
/-- One step: how many bytes, the error, the table, the name that waits for its value. -/
def stpP (mx : Nat) (T : Tab) (nm : Option ByteArray) (b : List UInt8) : Nat × Int × Tab × Option ByteArray :=
  match nm with
  | some x =>
    if (sb 7 b).2.2 ≠ 0 then (0, (sb 7 b).2.2, T, some x)
    else if T.cap < fsz (x, bstr (sb 7 b).1) + 32 then (0, 26, T, some x)
    else ((sb 7 b).2.1.toNat, 0, T.add (x, bstr (sb 7 b).1), none)
  | none =>
    if 128 ≤ headN b then
      if (rp 6 b).2.2 ≠ 0 then (0, (rp 6 b).2.2, T, none)
      else if headN b < 192 then (if isN T.l (rp 6 b).1.toNat then ((rp 6 b).2.1.toNat, 0, T, some (entN T.l (rp 6 b).1.toNat).1) else (0, 26, T, none))
      else (if isF T3 0 (rp 6 b).1.toNat then ((rp 6 b).2.1.toNat, 0, T, some (entF T3 0 (rp 6 b).1.toNat).1) else (0, 26, T, none))
    else if 64 ≤ headN b then
      if (sb 5 b).2.2 ≠ 0 then (0, (sb 5 b).2.2, T, none) else ((sb 5 b).2.1.toNat, 0, T, some (bstr (sb 5 b).1))
    else if 32 ≤ headN b then
      if (rp 5 b).2.2 ≠ 0 then (0, (rp 5 b).2.2, T, none) else if mx < (rp 5 b).1.toNat then (0, 26, T, none) else ((rp 5 b).2.1.toNat, 0, T.resize (rp 5 b).1, none)
    else
      if (rp 5 b).2.2 ≠ 0 then (0, (rp 5 b).2.2, T, none)
      else if isN T.l (rp 5 b).1.toNat then ((rp 5 b).2.1.toNat, 0, T.add (entN T.l (rp 5 b).1.toNat), none) else (0, 26, T, none)
/-- Bytes, the first n steps at most: the table, the name that waits, the bytes that wait, whether it broke. -/
def feedR (mx : Nat) : Nat → Tab → Option ByteArray → List UInt8 → Tab × Option ByteArray × List UInt8 × Bool
  | 0, T, nm, r => (T, nm, r, false)
  | n + 1, T, nm, r => if r = [] then (T, nm, [], false)
    else if (stpP mx T nm r).2.1 = 20 then (T, nm, r, false)
    else if (stpP mx T nm r).2.1 ≠ 0 then (T, none, [], true)
    else feedR mx n (stpP mx T nm r).2.2.1 (stpP mx T nm r).2.2.2 (r.drop (stpP mx T nm r).1)
theorem feedR_step (mx n : Nat) (T : Tab) (nm : Option ByteArray) (r : List UInt8) : feedR mx (n + 1) T nm r = if r = [] then (T, nm, [], false)
    else if (stpP mx T nm r).2.1 = 20 then (T, nm, r, false)
    else if (stpP mx T nm r).2.1 ≠ 0 then (T, none, [], true)
    else feedR mx n (stpP mx T nm r).2.2.1 (stpP mx T nm r).2.2.2 (r.drop (stpP mx T nm r).1) := rfl
theorem feedR_nil (mx n : Nat) (T : Tab) (nm : Option ByteArray) : feedR mx n T nm [] = (T, nm, [], false) := by cases n <;> rfl

/-- What a step comes to. -/
theorem stpP_len (mx : Nat) (T : Tab) (nm : Option ByteArray) (b : List UInt8) : ((stpP mx T nm b).2.1 = 0 → 1 ≤ (stpP mx T nm b).1) ∧ (stpP mx T nm b).1 ≤ b.length ∧ ((stpP mx T nm b).2.1 ≠ 0 → (stpP mx T nm b).2.2 = (T, nm) ∧ (stpP mx T nm b).1 = 0) := by
  have H6 := rp_cases 6 b
  have H5 := rp_cases 5 b
  have S5 := sb_casesK 5 b
  have S7 := sb_casesK 7 b
  unfold stpP
  cases nm with
  | some x =>
    dsimp only
    rcases S7 with ⟨e, he, hs⟩ | ⟨s, m, hs, h1, h2, h3⟩
    · rw [hs]; simp [he]
    · rw [hs]; simp only [ne_eq, not_true, if_false]
      split
      · exact ⟨fun h => by simp at h, Nat.zero_le _, fun _ => ⟨rfl, rfl⟩⟩
      · exact ⟨fun _ => by simpa using h1, by simpa using h2, fun h => by simp at h⟩
  | none =>
    dsimp only
    split
    · rcases H6 with hr | hr | ⟨n, m, hr, h1, h2, h3⟩
      · rw [hr]; simp
      · rw [hr]; simp
      · rw [hr]; simp only [ne_eq, not_true, if_false, Int.toNat_natCast]
        split
        · split
          · exact ⟨fun _ => h1, h2, fun h => by simp at h⟩
          · simp
        · split
          · exact ⟨fun _ => h1, h2, fun h => by simp at h⟩
          · simp
    · split
      · rcases S5 with ⟨e, he, hs⟩ | ⟨s, m, hs, h1, h2, h3⟩
        · rw [hs]; simp [he]
        · rw [hs]; simp only [ne_eq, not_true, if_false, Int.toNat_natCast]
          exact ⟨fun _ => h1, h2, fun h => by simp at h⟩
      · split
        · rcases H5 with hr | hr | ⟨n, m, hr, h1, h2, h3⟩
          · rw [hr]; simp
          · rw [hr]; simp
          · rw [hr]; simp only [ne_eq, not_true, if_false, Int.toNat_natCast]
            split
            · simp
            · exact ⟨fun _ => h1, h2, fun h => by simp at h⟩
        · rcases H5 with hr | hr | ⟨n, m, hr, h1, h2, h3⟩
          · rw [hr]; simp
          · rw [hr]; simp
          · rw [hr]; simp only [ne_eq, not_true, if_false, Int.toNat_natCast]
            split
            · exact ⟨fun _ => h1, h2, fun h => by simp at h⟩
            · simp

/-! ### bytes that come behind -/
theorem rpGo_app (y : List UInt8) : ∀ (t : List UInt8) (i v : Nat), (rpGo t i v).2.2 ≠ 20 → rpGo (t ++ y) i v = rpGo t i v
  | [], i, v, h => by exact absurd rfl h
  | c :: t, i, v, h => by
    have ih := rpGo_app y t (i + 1) (v + c.toNat % 128 * 2 ^ (7 * i))
    rw [List.cons_append]
    unfold rpGo at h ⊢
    split
    · rfl
    · rename_i h1
      rw [if_neg h1] at h
      split
      · rfl
      · rename_i h2
        rw [if_neg h2] at h
        split
        · rfl
        · rename_i h3
          rw [if_neg h3] at h
          exact ih h
theorem rp_app (k : Nat) (l y : List UInt8) (h : (rp k l).2.2 ≠ 20) : rp k (l ++ y) = rp k l := by
  cases l with
  | nil => exact absurd rfl h
  | cons c t =>
    have e : ∀ t : List UInt8, rp k (c :: t) = if c.toNat % 2 ^ k < 2 ^ k - 1 then (((c.toNat % 2 ^ k : Nat) : Int), 1, 0) else rpGo t 0 (c.toNat % 2 ^ k) := fun t => rfl
    rw [List.cons_append, e]
    rw [e] at h ⊢
    by_cases h1 : c.toNat % 2 ^ k < 2 ^ k - 1
    · rw [if_pos h1, if_pos h1]
    · rw [if_neg h1] at h ⊢
      rw [if_neg h1]
      exact rpGo_app y t _ _ h
theorem sb_app (k : Nat) (l y : List UInt8) (h : (sb k l).2.2 ≠ 20) : sb k (l ++ y) = sb k l := by
  have hr : (rp k l).2.2 ≠ 20 := fun hh => h (by unfold sb; rw [if_pos (by rw [hh]; decide), hh])
  have hrp := rp_app k l y hr
  have hl : l ≠ [] := fun e => by subst e; exact hr rfl
  have hhd : (l ++ y).headD 0 = l.headD 0 := by cases l with
    | nil => exact (hl rfl).elim
    | cons c t => rfl
  rcases rp_cases k l with hc | hc | ⟨n, m, hc, h1, h2, h3⟩
  · rw [hc] at hr; exact absurd rfl hr
  · rw [hc] at hrp; rw [sb_err hrp (by decide), sb_err hc (by decide)]
  · rw [hc] at hrp
    by_cases hn : (4096 : Int) < (n : Int)
    · rw [sb_long hrp hn, sb_long hc hn]
    · have hm : ¬ (l.length : Int) - (m : Int) < (n : Int) := fun hm => h (by rw [sb_more hc hn hm])
      have hm' : ¬ ((l ++ y).length : Int) - (m : Int) < (n : Int) := by rw [List.length_append]; omega
      have ht : (l ++ y).take ((m : Int) + (n : Int)).toNat = l.take ((m : Int) + (n : Int)).toNat := List.take_append_of_le_length (by omega)
      unfold sb
      rw [hrp, hc, hhd, ht]
      simp only [ne_eq, not_true, if_false, hn, hm, hm']
theorem headN_app {l : List UInt8} (y : List UInt8) (h : l ≠ []) : headN (l ++ y) = headN l := by
  cases l with
  | nil => exact (h rfl).elim
  | cons c t => rfl
theorem stpP_app (mx : Nat) (T : Tab) (nm : Option ByteArray) {l : List UInt8} (y : List UInt8) (hl : l ≠ []) (h : (stpP mx T nm l).2.1 ≠ 20) : stpP mx T nm (l ++ y) = stpP mx T nm l := by
  unfold stpP at h ⊢
  cases nm with
  | some x =>
    dsimp only at h ⊢
    have hs : (sb 7 l).2.2 ≠ 20 := fun hh => h (by rw [hh, if_pos (by decide)])
    rw [sb_app 7 l y hs]
  | none =>
    dsimp only at h ⊢
    rw [headN_app y hl]
    by_cases h1 : 128 ≤ headN l
    · simp only [h1, if_true] at h ⊢
      have hs : (rp 6 l).2.2 ≠ 20 := fun hh => h (by rw [hh, if_pos (by decide)])
      rw [rp_app 6 l y hs]
    · simp only [h1, if_false] at h ⊢
      by_cases h2 : 64 ≤ headN l
      · simp only [h2, if_true] at h ⊢
        have hs : (sb 5 l).2.2 ≠ 20 := fun hh => h (by rw [hh, if_pos (by decide)])
        rw [sb_app 5 l y hs]
      · simp only [h2, if_false] at h ⊢
        have hs : (rp 5 l).2.2 ≠ 20 := fun hh => h (by rw [hh]; split <;> rw [if_pos (by decide)])
        rw [rp_app 5 l y hs]
theorem feedR_fuel (mx : Nat) : ∀ (n n' : Nat) (T : Tab) (nm : Option ByteArray) (r : List UInt8), r.length ≤ n → r.length ≤ n' → feedR mx n T nm r = feedR mx n' T nm r
  | 0, n', T, nm, r, h, h' => by
    obtain rfl := List.eq_nil_of_length_eq_zero (Nat.le_zero.1 h)
    rw [feedR_nil, feedR_nil]
  | n + 1, 0, T, nm, r, h, h' => by
    obtain rfl := List.eq_nil_of_length_eq_zero (Nat.le_zero.1 h')
    rw [feedR_nil, feedR_nil]
  | n + 1, n' + 1, T, nm, r, h, h' => by
    rw [feedR_step, feedR_step]
    split
    · rfl
    · split
      · rfl
      · split
        · rfl
        · rename_i h1 h2 h3
          have hl := (stpP_len mx T nm r).1 (Decidable.not_not.1 h3)
          exact feedR_fuel mx n n' _ _ _ (by rw [List.length_drop]; omega) (by rw [List.length_drop]; omega)
/-- Bytes that come behind what went well are fed as if they had come with it. -/
theorem feedR_app (mx : Nat) (y : List UInt8) : ∀ (n : Nat) (T : Tab) (nm : Option ByteArray) (r : List UInt8), r.length ≤ n →
    ((feedR mx n T nm r).2.2.2 = false → feedR mx (r ++ y).length T nm (r ++ y) = feedR mx ((feedR mx n T nm r).2.2.1 ++ y).length (feedR mx n T nm r).1 (feedR mx n T nm r).2.1 ((feedR mx n T nm r).2.2.1 ++ y)) ∧
    ((feedR mx n T nm r).2.2.2 = true → (feedR mx (r ++ y).length T nm (r ++ y)).2.2.2 = true)
  | 0, T, nm, r, h => by
    obtain rfl := List.eq_nil_of_length_eq_zero (Nat.le_zero.1 h)
    exact ⟨fun _ => rfl, fun h => by cases h⟩
  | n + 1, T, nm, r, h => by
    by_cases hr : r = []
    · subst hr
      rw [feedR_nil]
      exact ⟨fun _ => rfl, fun h => by cases h⟩
    · rw [feedR_step, if_neg hr]
      by_cases h20 : (stpP mx T nm r).2.1 = 20
      · rw [if_pos h20]
        exact ⟨fun _ => rfl, fun h => by cases h⟩
      · rw [if_neg h20]
        have hst := stpP_app mx T nm y hr h20
        have hry : r ++ y ≠ [] := fun e => hr (List.append_eq_nil_iff.1 e).1
        have hL : ∃ L, (r ++ y).length = L + 1 := ⟨(r ++ y).length - 1, by have := List.length_pos_iff.2 hry; omega⟩
        obtain ⟨L, hL⟩ := hL
        by_cases h0 : (stpP mx T nm r).2.1 = 0
        · rw [if_neg (by simp [h0])]
          obtain ⟨l1, l2, _⟩ := stpP_len mx T nm r
          have l1 := l1 h0
          obtain ⟨i1, i2⟩ := feedR_app mx y n (stpP mx T nm r).2.2.1 (stpP mx T nm r).2.2.2 (r.drop (stpP mx T nm r).1) (by rw [List.length_drop]; omega)
          have hall : feedR mx (r ++ y).length T nm (r ++ y) = feedR mx (r.drop (stpP mx T nm r).1 ++ y).length (stpP mx T nm r).2.2.1 (stpP mx T nm r).2.2.2 (r.drop (stpP mx T nm r).1 ++ y) := by
            rw [hL, feedR_step, if_neg hry, hst, if_neg h20, if_neg (by simp [h0]), List.drop_append_of_le_length l2]
            refine feedR_fuel mx _ _ _ _ _ ?_ (Nat.le_refl _)
            rw [List.length_append, List.length_drop] at *
            omega
          rw [hall]
          exact ⟨i1, i2⟩
        · rw [if_pos h0]
          refine ⟨fun h => (by cases h), fun _ => ?_⟩
          rw [hL, feedR_step, if_neg hry, hst, if_neg h20, if_pos h0]

/-! ### the decoder's state -/
/-- What the decoder holds: its table, its limits, the streams that wait, the name that waits for its value, the bytes that wait, whether it broke, what it has to say, what it told. -/
structure Qr where
  T : Tab
  mx : Nat
  bk : Nat
  wl : List Nat
  nm : Option ByteArray
  rest : List UInt8
  br : Bool
  says : List UInt8
  told : Nat
def Qr.new (mx bk : Nat) : Qr := ⟨⟨[], 0, 0⟩, mx, bk, [], none, [], false, [], 0⟩
/-- Bytes of the encoder stream. -/
def Qr.feed (X : Qr) (b : List UInt8) : Qr × Int :=
  if X.br then (X, 26) else
  ({ X with T := (feedR X.mx (X.rest ++ b).length X.T X.nm (X.rest ++ b)).1, nm := (feedR X.mx (X.rest ++ b).length X.T X.nm (X.rest ++ b)).2.1, rest := (feedR X.mx (X.rest ++ b).length X.T X.nm (X.rest ++ b)).2.2.1, br := (feedR X.mx (X.rest ++ b).length X.T X.nm (X.rest ++ b)).2.2.2 },
    if (feedR X.mx (X.rest ++ b).length X.T X.nm (X.rest ++ b)).2.2.2 then 26 else 0)
theorem Qr.feed_err (X : Qr) (b : List UInt8) : (X.feed b).2 = if (X.feed b).1.br then 26 else 0 := by
  unfold Qr.feed
  cases h : X.br with
  | true => simp [h]
  | false => simp
/-- What comes in two pieces is fed as if it had come in one. -/
theorem Qr.feed_app (X : Qr) (hX : X.br = false) (x y : List UInt8) : ((X.feed x).1.br = false → X.feed (x ++ y) = (X.feed x).1.feed y) ∧ ((X.feed x).1.br = true → (X.feed (x ++ y)).1.br = true) := by
  obtain ⟨h1, h2⟩ := feedR_app X.mx y (X.rest ++ x).length X.T X.nm (X.rest ++ x) (Nat.le_refl _)
  unfold Qr.feed
  simp only [hX, Bool.false_eq_true, if_false]
  rw [← List.append_assoc]
  refine ⟨fun h => ?_, fun h => h2 h⟩
  rw [h1 h, h]
  simp
/-- What is sent. -/
def Qr.send (X : Qr) : List UInt8 := if X.told < X.T.tot then X.says ++ pre 0 6 (X.T.tot - X.told) else X.says
def Qr.sent (X : Qr) : Qr := { X with says := [], told := max X.told X.T.tot }
/-- A section of stream s that needs more than there is. -/
def Qr.wait (X : Qr) (s : Nat) : Qr × Int := if s ∈ X.wl then (X, 27) else if X.bk ≤ X.wl.length then (X, 50) else ({ X with wl := s :: X.wl }, 27)
/-- A section of stream s, of count c, was read. -/
def Qr.ack (X : Qr) (s c : Nat) : Qr := { X with wl := X.wl.erase s, says := if 0 < c then X.says ++ pre 128 7 s else X.says, told := if 0 < c then max X.told c else X.told }

/-! ### a section's lines -/
def atR (T : Tab) (c : Nat) (o : Option Nat) : Option Fd :=
  match o with
  | none => none
  | some a => if a < c then (if isF T.l T.first a then some (entF T.l T.first a) else none) else none
/-- An index that has k bits; the bit ahead of them says of which table it is. -/
def entR (k : Nat) (T : Tab) (c base : Nat) (b : List UInt8) : Option (Fd × List UInt8) :=
  match numP k b with
  | none => none
  | some (i, r) => if headN b / 2 ^ k % 2 = 1 then (if isF T3 0 i then some (entF T3 0 i, r) else none)
    else match atR T c (relN base i) with
      | none => none
      | some f => some (f, r)
/-- An index from the base upwards. -/
def abvR (k : Nat) (T : Tab) (c base : Nat) (b : List UInt8) : Option (Fd × List UInt8) :=
  match numP k b with
  | none => none
  | some (i, r) => match atR T c (sumN base i 4611686018427387903) with
    | none => none
    | some f => some (f, r)
def nmdR (b : List UInt8) : Option (Fd × List UInt8) := if (sb 3 b).2.2 = 0 then some ((bstr (sb 3 b).1, ⟨#[]⟩), b.drop (sb 3 b).2.1.toNat) else none
def valR (o : Option (Fd × List UInt8)) : Option (Fd × List UInt8) :=
  match o with
  | none => none
  | some (f, r) => match txtP r with
    | none => none
    | some (v, r') => some ((f.1, v), r')
/-- One line. -/
def lineR (T : Tab) (c base : Nat) (b : List UInt8) : Option (Fd × List UInt8) :=
  if 128 ≤ headN b then entR 6 T c base b
  else if 64 ≤ headN b then valR (entR 4 T c base b)
  else if 32 ≤ headN b then valR (nmdR b)
  else if 16 ≤ headN b then abvR 4 T c base b
  else valR (abvR 3 T c base b)
/-- All lines, the first n at most. -/
def linesR (T : Tab) (c base : Nat) : Nat → List Fd → List UInt8 → Option (List Fd)
  | 0, out, b => if b = [] then some out else none
  | n + 1, out, b => if b = [] then some out else
    match lineR T c base b with
    | none => none
    | some (f, r) => if out.length = 64 then none else linesR T c base n (out ++ [f]) r
end Go.Proofs.Yteopmaaghhendaa
