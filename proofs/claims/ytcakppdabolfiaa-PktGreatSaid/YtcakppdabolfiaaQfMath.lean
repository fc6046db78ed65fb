/-
  QUIC's frames as mathematics: how one is written, how one is read; what is written is read back.
-/
import Derived.Test.YtcakppdabolfiaaNumMath
namespace Go.Proofs.Ytcakppdabolfiaa
open Go.RowKit
set_option linter.unusedVariables false
set_option linter.unusedSimpArgs false

/-- A frame of QUIC's. -/
structure QF where
  ty : Nat
  id : Nat := 0
  off : Nat := 0
  fin : Bool := false
  max : Nat := 0
  code : Nat := 0
  delay : Nat := 0
  rs : List (Nat × Nat) := []
  b : List UInt8 := []
  uni : Bool := false
  app : Bool := false
  n : Int := 0
abbrev mv : Nat := 4611686018427387903
/-- The next number, and what stands behind it. -/
def numQ (l : List UInt8) : Option (Nat × List UInt8) := if (rv l).2.2 = 0 then some ((rv l).1.toNat, l.drop (rv l).2.1.toNat) else none
/-- The next n bytes, and what stands behind them. -/
def cutQ (n : Nat) (l : List UInt8) : Option (List UInt8 × List UInt8) := if n ≤ l.length then some (l.take n, l.drop n) else none
theorem numQ_varB (x : Nat) (h : x ≤ mv) (rest : List UInt8) : numQ (varB (x : Int) ++ rest) = some (x, rest) := by
  obtain ⟨h1, h2⟩ := rv_varB x (by unfold mv at h; omega) rest
  unfold numQ
  rw [h1, if_pos rfl]
  show some (((x : Int)).toNat, (varB (x : Int) ++ rest).drop (clsLen (x : Int)).toNat) = _
  rw [← h2, Int.toNat_natCast, Int.toNat_natCast, List.drop_left]
theorem cutQ_app (l rest : List UInt8) : cutQ l.length (l ++ rest) = some (l, rest) := by
  unfold cutQ
  rw [if_pos (by simp), List.take_left, List.drop_left]
def wVars (l : List Nat) : List UInt8 := l.flatMap fun x : Nat => varB (x : Int)
theorem wVars_nil : wVars [] = [] := rfl
theorem wVars_cons (x : Nat) (l : List Nat) : wVars (x :: l) = varB (x : Int) ++ wVars l := by unfold wVars; rw [List.flatMap_cons]
def b2n (b : Bool) : Nat := if b then 1 else 0
/-- Ranges as they may be told: from the greatest down. -/
def rsOk : List (Nat × Nat) → Bool
  | [] => true
  | [r] => decide (r.1 ≤ r.2)
  | r :: s :: l => decide (r.1 ≤ r.2) && decide (2 ≤ r.1) && decide (s.2 ≤ r.1 - 2) && rsOk (s :: l)
/-- Gaps and lengths behind the first range. -/
def rsW : List (Nat × Nat) → List Nat
  | [] => []
  | [_] => []
  | r :: s :: l => (r.1 - s.2 - 2) :: (s.2 - s.1) :: rsW (s :: l)
def wAck (f : QF) : Option (List UInt8) :=
  match f.rs with
  | [] => none
  | r :: l => if f.rs.length ≤ 32 ∧ f.delay ≤ mv ∧ r.2 ≤ mv ∧ rsOk (r :: l) = true then some (wVars ([2, r.2, f.delay, l.length, r.2 - r.1] ++ rsW (r :: l))) else none
/-- One frame written. -/
def wOne (f : QF) : Option (List UInt8) :=
  if f.ty = 0 then some (List.replicate (Max.max f.n 1).toNat 0)
  else if f.ty = 1 ∨ f.ty = 30 then some [UInt8.ofNat f.ty]
  else if f.ty = 2 then wAck f
  else if f.ty = 4 then (if f.id ≤ mv ∧ f.code ≤ mv ∧ f.max ≤ mv then some (wVars [4, f.id, f.code, f.max]) else none)
  else if f.ty = 5 then (if f.id ≤ mv ∧ f.code ≤ mv then some (wVars [5, f.id, f.code]) else none)
  else if f.ty = 6 then (if f.off + f.b.length ≤ mv then some (wVars [6, f.off, f.b.length] ++ f.b) else none)
  else if f.ty = 7 then (if f.b.length = 0 then none else some (wVars [7, f.b.length] ++ f.b))
  else if f.ty = 8 then (if f.id ≤ mv ∧ f.off + f.b.length ≤ mv then some (wVars ([8 + 2 + (if 0 < f.off then 4 else 0) + b2n f.fin, f.id] ++ (if 0 < f.off then [f.off] else []) ++ [f.b.length]) ++ f.b) else none)
  else if f.ty = 16 ∨ f.ty = 20 then (if f.max ≤ mv then some (wVars [f.ty, f.max]) else none)
  else if f.ty = 17 ∨ f.ty = 21 then (if f.id ≤ mv ∧ f.max ≤ mv then some (wVars [f.ty, f.id, f.max]) else none)
  else if f.ty = 18 ∨ f.ty = 22 then (if f.max ≤ 1152921504606846976 then some (wVars [f.ty + b2n f.uni, f.max]) else none)
  else if f.ty = 24 then (if 17 ≤ f.b.length ∧ f.b.length ≤ 36 ∧ f.max ≤ f.id ∧ f.id ≤ mv then some (wVars [24, f.id, f.max] ++ [UInt8.ofNat (f.b.length - 16)] ++ f.b) else none)
  else if f.ty = 25 then (if f.id ≤ mv then some (wVars [25, f.id]) else none)
  else if f.ty = 26 ∨ f.ty = 27 then (if f.b.length = 8 then some ([UInt8.ofNat f.ty] ++ f.b) else none)
  else if f.ty = 28 then (if f.code ≤ mv ∧ (f.app = true ∨ f.off ≤ mv) then some (wVars ([28 + b2n f.app, f.code] ++ (if f.app then [] else [f.off]) ++ [f.b.length]) ++ f.b) else none)
  else none
/-- Ranges behind the first, read: i of them, below p. -/
def rsR : Nat → Nat → List UInt8 → Option (List (Nat × Nat) × List UInt8)
  | 0, _, l => some ([], l)
  | i + 1, p, l => (numQ l).bind fun g => (numQ g.2).bind fun d => if 2 ≤ p ∧ g.1 ≤ p - 2 ∧ d.1 ≤ p - 2 - g.1 then (rsR i (p - 2 - g.1 - d.1) d.2).bind fun x => some ((p - 2 - g.1 - d.1, p - 2 - g.1) :: x.1, x.2) else none
/-- What stands behind a frame's type. -/
def readB (t : Nat) (l : List UInt8) : Option (QF × List UInt8) :=
  if t = 1 ∨ t = 30 then some ({ ty := t }, l)
  else if t = 2 then (numQ l).bind fun a => (numQ a.2).bind fun dl => (numQ dl.2).bind fun n => (numQ n.2).bind fun d => if n.1 < 32 ∧ d.1 ≤ a.1 then (rsR n.1 (a.1 - d.1) d.2).bind fun x => some ({ ty := 2, delay := dl.1, rs := (a.1 - d.1, a.1) :: x.1 }, x.2) else none
  else if t = 4 then (numQ l).bind fun a => (numQ a.2).bind fun c => (numQ c.2).bind fun m => some ({ ty := 4, id := a.1, code := c.1, max := m.1 }, m.2)
  else if t = 5 then (numQ l).bind fun a => (numQ a.2).bind fun c => some ({ ty := 5, id := a.1, code := c.1 }, c.2)
  else if t = 6 then (numQ l).bind fun o => (numQ o.2).bind fun n => if n.1 ≤ mv - o.1 then (cutQ n.1 n.2).bind fun x => some ({ ty := 6, off := o.1, b := x.1 }, x.2) else none
  else if t = 7 then (numQ l).bind fun n => if 0 < n.1 then (cutQ n.1 n.2).bind fun x => some ({ ty := 7, b := x.1 }, x.2) else none
  else if 8 ≤ t ∧ t ≤ 15 then (numQ l).bind fun a => (if t / 4 % 2 = 1 then numQ a.2 else some (0, a.2)).bind fun o => (if t / 2 % 2 = 1 then numQ o.2 else some (o.2.length, o.2)).bind fun n =>
    if n.1 ≤ mv - o.1 then (cutQ n.1 n.2).bind fun x => some ({ ty := 8, id := a.1, off := o.1, fin := decide (t % 2 = 1), b := x.1 }, x.2) else none
  else if t = 16 ∨ t = 20 then (numQ l).bind fun m => some ({ ty := t, max := m.1 }, m.2)
  else if t = 17 ∨ t = 21 then (numQ l).bind fun a => (numQ a.2).bind fun m => some ({ ty := t, id := a.1, max := m.1 }, m.2)
  else if t = 18 ∨ t = 19 ∨ t = 22 ∨ t = 23 then (numQ l).bind fun m => if m.1 ≤ 1152921504606846976 then some ({ ty := t - t % 2, uni := decide (t % 2 = 1), max := m.1 }, m.2) else none
  else if t = 24 then (numQ l).bind fun a => (numQ a.2).bind fun m => (cutQ 1 m.2).bind fun c => if m.1 ≤ a.1 ∧ 1 ≤ (c.1.headD 0).toNat ∧ (c.1.headD 0).toNat ≤ 20 then (cutQ ((c.1.headD 0).toNat + 16) c.2).bind fun x => some ({ ty := 24, id := a.1, max := m.1, b := x.1 }, x.2) else none
  else if t = 25 then (numQ l).bind fun a => some ({ ty := 25, id := a.1 }, a.2)
  else if t = 26 ∨ t = 27 then (cutQ 8 l).bind fun x => some ({ ty := t, b := x.1 }, x.2)
  else if t = 28 ∨ t = 29 then (numQ l).bind fun c => (if t = 28 then numQ c.2 else some (0, c.2)).bind fun o => (numQ o.2).bind fun n => (cutQ n.1 n.2).bind fun x => some ({ ty := 28, code := c.1, off := o.1, app := decide (t = 29), b := x.1 }, x.2)
  else none
/-- How many noughts stand ahead. -/
def zerosN : List UInt8 → Nat
  | [] => 0
  | c :: l => if c = 0 then zerosN l + 1 else 0
/-- The first frame, and how many bytes it took. -/
def readF (l : List UInt8) : Option (QF × Nat) :=
  match l with
  | [] => none
  | c :: _ => if c = 0 then some ({ ty := 0, n := (zerosN l : Int) }, zerosN l)
    else (numQ l).bind fun t => if ((l.length - t.2.length : Nat) : Int) = clsLen (t.1 : Int) then (readB t.1 t.2).bind fun x => some (x.1, l.length - x.2.length) else none
/-- A frame of which only what its type has is told. -/
def normF (f : QF) : QF :=
  if f.ty = 0 then { ty := 0, n := Max.max f.n 1 }
  else if f.ty = 1 ∨ f.ty = 30 then { ty := f.ty }
  else if f.ty = 2 then { ty := 2, delay := f.delay, rs := f.rs }
  else if f.ty = 4 then { ty := 4, id := f.id, code := f.code, max := f.max }
  else if f.ty = 5 then { ty := 5, id := f.id, code := f.code }
  else if f.ty = 6 then { ty := 6, off := f.off, b := f.b }
  else if f.ty = 7 then { ty := 7, b := f.b }
  else if f.ty = 8 then { ty := 8, id := f.id, off := f.off, fin := f.fin, b := f.b }
  else if f.ty = 16 ∨ f.ty = 20 then { ty := f.ty, max := f.max }
  else if f.ty = 17 ∨ f.ty = 21 then { ty := f.ty, id := f.id, max := f.max }
  else if f.ty = 18 ∨ f.ty = 22 then { ty := f.ty, uni := f.uni, max := f.max }
  else if f.ty = 24 then { ty := 24, id := f.id, max := f.max, b := f.b }
  else if f.ty = 25 then { ty := 25, id := f.id }
  else if f.ty = 26 ∨ f.ty = 27 then { ty := f.ty, b := f.b }
  else { ty := 28, code := f.code, off := if f.app then 0 else f.off, app := f.app, b := f.b }
theorem varB_small (x : Nat) (h : x < 64) : varB (x : Int) = [UInt8.ofNat x] ∧ clsLen (x : Int) = 1 := by
  obtain ⟨q, n, hq, hn, hx, he, hl⟩ := clsOf x (by omega)
  have h1 := (clsLen_at (x : Int)).1 (by omega)
  have hn1 : n = 1 := by omega
  subst hn1
  have hq0 : q = 0 := by
    rcases q with _ | _ | _ | _ | q
    · rfl
    · simp at hn
    · simp at hn
    · simp at hn
    · omega
  subst hq0
  refine ⟨?_, h1⟩
  rw [he, Nat.zero_mul, Nat.add_zero]
  unfold bes bes byteAt
  have e : ((x : Int) / 2 ^ (8 * 0) % 256).toNat = x := by
    simp
    omega
  rw [e]
/-- A frame whose type is one byte is read by what stands behind its type. -/
theorem readF_of (t : Nat) (f : QF) (body rest : List UInt8) (ht0 : 0 < t) (ht : t < 64) (h : readB t (body ++ rest) = some (f, rest)) : readF ((varB (t : Int) ++ body) ++ rest) = some (f, (varB (t : Int) ++ body).length) := by
  have hn := numQ_varB t (by unfold mv; omega) (body ++ rest)
  obtain ⟨hv, hc⟩ := varB_small t ht
  rw [List.append_assoc]
  rw [hv] at hn ⊢
  show readF (UInt8.ofNat t :: (body ++ rest)) = _
  unfold readF
  have hne : ¬ UInt8.ofNat t = 0 := by
    intro h0
    have h1 := congrArg UInt8.toNat h0
    rw [UInt8.toNat_ofNat'] at h1
    have : (0 : UInt8).toNat = 0 := rfl
    omega
  have hn' : numQ (UInt8.ofNat t :: (body ++ rest)) = some (t, body ++ rest) := hn
  simp only [if_neg hne, hn', Option.bind_some]
  rw [if_pos (by rw [hc]; simp)]
  rw [h]
  simp only [Option.bind_some]
  congr 2
  simp
  omega
theorem rsR_rsW (l : List (Nat × Nat)) : ∀ (r : Nat × Nat) (rest : List UInt8), rsOk (r :: l) = true → r.2 ≤ mv → rsR l.length r.1 (wVars (rsW (r :: l)) ++ rest) = some (l, rest) := by
  induction l with
  | nil => intro r rest _ _; rfl
  | cons s l ih =>
    intro r rest h hm
    unfold rsOk at h
    simp only [Bool.and_eq_true, decide_eq_true_eq] at h
    obtain ⟨⟨⟨h1, h2⟩, h3⟩, h4⟩ := h
    have hs : s.1 ≤ s.2 := by
      cases l with
      | nil => unfold rsOk at h4; exact of_decide_eq_true h4
      | cons u l => unfold rsOk at h4; simp only [Bool.and_eq_true, decide_eq_true_eq] at h4; exact h4.1.1.1
    have e1 : rsW (r :: s :: l) = (r.1 - s.2 - 2) :: (s.2 - s.1) :: rsW (s :: l) := rfl
    rw [e1, wVars_cons, wVars_cons, List.append_assoc, List.append_assoc]
    show rsR (l.length + 1) r.1 _ = _
    unfold rsR
    rw [numQ_varB _ (by omega)]
    simp only [Option.bind_some]
    rw [numQ_varB _ (by omega)]
    simp only [Option.bind_some]
    rw [if_pos ⟨h2, by omega, by omega⟩]
    have e2 : r.1 - 2 - (r.1 - s.2 - 2) - (s.2 - s.1) = s.1 := by omega
    have e3 : r.1 - 2 - (r.1 - s.2 - 2) = s.2 := by omega
    rw [e2, e3, ih s rest h4 (by omega)]
    rfl
/-! readB -/
theorem rB4 (l : List UInt8) : readB 4 l = (numQ l).bind fun a => (numQ a.2).bind fun c => (numQ c.2).bind fun m => some ({ ty := 4, id := a.1, code := c.1, max := m.1 }, m.2) := rfl
theorem rB5 (l : List UInt8) : readB 5 l = (numQ l).bind fun a => (numQ a.2).bind fun c => some ({ ty := 5, id := a.1, code := c.1 }, c.2) := rfl
theorem rB6 (l : List UInt8) : readB 6 l = (numQ l).bind fun o => (numQ o.2).bind fun n => if n.1 ≤ mv - o.1 then (cutQ n.1 n.2).bind fun x => some ({ ty := 6, off := o.1, b := x.1 }, x.2) else none := rfl
theorem rB7 (l : List UInt8) : readB 7 l = (numQ l).bind fun n => if 0 < n.1 then (cutQ n.1 n.2).bind fun x => some ({ ty := 7, b := x.1 }, x.2) else none := rfl
theorem rB10 (l : List UInt8) : readB 10 l = (numQ l).bind fun a => (some (0, a.2)).bind fun o => (numQ o.2).bind fun n => if n.1 ≤ mv - o.1 then (cutQ n.1 n.2).bind fun x => some ({ ty := 8, id := a.1, off := o.1, fin := false, b := x.1 }, x.2) else none := rfl
theorem rB11 (l : List UInt8) : readB 11 l = (numQ l).bind fun a => (some (0, a.2)).bind fun o => (numQ o.2).bind fun n => if n.1 ≤ mv - o.1 then (cutQ n.1 n.2).bind fun x => some ({ ty := 8, id := a.1, off := o.1, fin := true, b := x.1 }, x.2) else none := rfl
theorem rB14 (l : List UInt8) : readB 14 l = (numQ l).bind fun a => (numQ a.2).bind fun o => (numQ o.2).bind fun n => if n.1 ≤ mv - o.1 then (cutQ n.1 n.2).bind fun x => some ({ ty := 8, id := a.1, off := o.1, fin := false, b := x.1 }, x.2) else none := rfl
theorem rB15 (l : List UInt8) : readB 15 l = (numQ l).bind fun a => (numQ a.2).bind fun o => (numQ o.2).bind fun n => if n.1 ≤ mv - o.1 then (cutQ n.1 n.2).bind fun x => some ({ ty := 8, id := a.1, off := o.1, fin := true, b := x.1 }, x.2) else none := rfl
theorem rB16 (l : List UInt8) : readB 16 l = (numQ l).bind fun m => some ({ ty := 16, max := m.1 }, m.2) := rfl
theorem rB17 (l : List UInt8) : readB 17 l = (numQ l).bind fun a => (numQ a.2).bind fun m => some ({ ty := 17, id := a.1, max := m.1 }, m.2) := rfl
theorem rB18 (l : List UInt8) : readB 18 l = (numQ l).bind fun m => if m.1 ≤ 1152921504606846976 then some ({ ty := 18, uni := false, max := m.1 }, m.2) else none := rfl
theorem rB19 (l : List UInt8) : readB 19 l = (numQ l).bind fun m => if m.1 ≤ 1152921504606846976 then some ({ ty := 18, uni := true, max := m.1 }, m.2) else none := rfl
theorem rB20 (l : List UInt8) : readB 20 l = (numQ l).bind fun m => some ({ ty := 20, max := m.1 }, m.2) := rfl
theorem rB21 (l : List UInt8) : readB 21 l = (numQ l).bind fun a => (numQ a.2).bind fun m => some ({ ty := 21, id := a.1, max := m.1 }, m.2) := rfl
theorem rB22 (l : List UInt8) : readB 22 l = (numQ l).bind fun m => if m.1 ≤ 1152921504606846976 then some ({ ty := 22, uni := false, max := m.1 }, m.2) else none := rfl
theorem rB23 (l : List UInt8) : readB 23 l = (numQ l).bind fun m => if m.1 ≤ 1152921504606846976 then some ({ ty := 22, uni := true, max := m.1 }, m.2) else none := rfl
theorem rB24 (l : List UInt8) : readB 24 l = (numQ l).bind fun a => (numQ a.2).bind fun m => (cutQ 1 m.2).bind fun c => if m.1 ≤ a.1 ∧ 1 ≤ (c.1.headD 0).toNat ∧ (c.1.headD 0).toNat ≤ 20 then (cutQ ((c.1.headD 0).toNat + 16) c.2).bind fun x => some ({ ty := 24, id := a.1, max := m.1, b := x.1 }, x.2) else none := rfl
theorem rB25 (l : List UInt8) : readB 25 l = (numQ l).bind fun a => some ({ ty := 25, id := a.1 }, a.2) := rfl
theorem rB26 (l : List UInt8) : readB 26 l = (cutQ 8 l).bind fun x => some ({ ty := 26, b := x.1 }, x.2) := rfl
theorem rB27 (l : List UInt8) : readB 27 l = (cutQ 8 l).bind fun x => some ({ ty := 27, b := x.1 }, x.2) := rfl
theorem rB28 (l : List UInt8) : readB 28 l = (numQ l).bind fun c => (numQ c.2).bind fun o => (numQ o.2).bind fun n => (cutQ n.1 n.2).bind fun x => some ({ ty := 28, code := c.1, off := o.1, app := false, b := x.1 }, x.2) := rfl
theorem rB29 (l : List UInt8) : readB 29 l = (numQ l).bind fun c => (some (0, c.2)).bind fun o => (numQ o.2).bind fun n => (cutQ n.1 n.2).bind fun x => some ({ ty := 28, code := c.1, off := o.1, app := true, b := x.1 }, x.2) := rfl
set_option maxHeartbeats 4000000 in
/-- What is written is read back, whatever stands behind. -/
theorem readF_wOne (f : QF) (w rest : List UInt8) (h : wOne f = some w) (h0 : ¬ f.ty = 0) (hb : f.b.length ≤ 1000000) : readF (w ++ rest) = some (normF f, w.length) := by
  obtain ⟨ty, id, off, fin, mx, code, delay, rs, b, uni, app, n⟩ := f
  simp only at h0 hb
  have hbm : b.length ≤ mv := by unfold mv; omega
  unfold wOne at h
  simp only at h
  rw [if_neg h0] at h
  by_cases ht : ty = 1 ∨ ty = 30
  · rw [if_pos ht] at h
    injection h with h
    subst h
    have hv := (varB_small ty (by omega)).1
    have hr := readF_of ty { ty := ty } [] rest (by omega) (by omega) (by rcases ht with rfl | rfl <;> rfl)
    rw [hv] at hr
    have e : normF ⟨ty, id, off, fin, mx, code, delay, rs, b, uni, app, n⟩ = { ty := ty } := by rcases ht with rfl | rfl <;> rfl
    rw [e]
    exact hr
  rw [if_neg ht] at h
  clear ht
  by_cases ht : ty = 2
  · rw [if_pos ht] at h
    subst ht
    unfold wAck at h
    simp only at h
    cases rs with
    | nil => simp at h
    | cons r l =>
      simp only at h
      by_cases hc : (r :: l).length ≤ 32 ∧ delay ≤ mv ∧ r.2 ≤ mv ∧ rsOk (r :: l) = true
      · rw [if_pos hc] at h
        obtain ⟨c1, c2, c3, c4⟩ := hc
        injection h with h
        subst h
        have hr1 : r.1 ≤ r.2 := by
          cases l with
          | nil => unfold rsOk at c4; exact of_decide_eq_true c4
          | cons u l => unfold rsOk at c4; simp only [Bool.and_eq_true, decide_eq_true_eq] at c4; exact c4.1.1.1
        have hw : wVars ([2, r.2, delay, l.length, r.2 - r.1] ++ rsW (r :: l)) = varB ((2 : Nat) : Int) ++ wVars ([r.2, delay, l.length, r.2 - r.1] ++ rsW (r :: l)) := wVars_cons _ _
        rw [hw]
        refine readF_of 2 _ _ rest (by omega) (by omega) ?_
        have hl : l.length ≤ mv := by simp at c1; unfold mv; omega
        have e0 : ∀ l0 : List UInt8, readB 2 l0 = (numQ l0).bind fun a => (numQ a.2).bind fun dl => (numQ dl.2).bind fun n => (numQ n.2).bind fun d => if n.1 < 32 ∧ d.1 ≤ a.1 then (rsR n.1 (a.1 - d.1) d.2).bind fun x => some ({ ty := 2, delay := dl.1, rs := (a.1 - d.1, a.1) :: x.1 }, x.2) else none := fun _ => rfl
        simp only [List.cons_append, List.nil_append, wVars_cons, List.append_assoc]
        rw [e0, numQ_varB _ c3]
        simp only [Option.bind_some]
        rw [numQ_varB _ c2]
        simp only [Option.bind_some]
        rw [numQ_varB _ hl]
        simp only [Option.bind_some]
        rw [numQ_varB _ (by omega)]
        simp only [Option.bind_some]
        have e1 : r.2 - (r.2 - r.1) = r.1 := by omega
        rw [if_pos ⟨by simp at c1; omega, by omega⟩, e1, rsR_rsW l r rest c4 c3]
        rfl
      · rw [if_neg hc] at h
        cases h
  rw [if_neg ht] at h
  clear ht
  by_cases ht : ty = 4
  · rw [if_pos ht] at h
    subst ht
    by_cases hc : id ≤ mv ∧ code ≤ mv ∧ mx ≤ mv
    · rw [if_pos hc] at h
      obtain ⟨c1, c2, c3⟩ := hc
      injection h with h
      subst h
      rw [wVars_cons]
      refine readF_of 4 _ _ rest (by omega) (by omega) ?_
      simp only [wVars_cons, wVars_nil, List.append_assoc, List.nil_append, List.cons_append]
      rw [rB4]
      rw [numQ_varB _ c1]
      simp only [Option.bind_some]
      rw [numQ_varB _ c2]
      simp only [Option.bind_some]
      rw [numQ_varB _ c3]
      simp only [Option.bind_some]
      rfl
    · rw [if_neg hc] at h
      cases h
  rw [if_neg ht] at h
  clear ht
  by_cases ht : ty = 5
  · rw [if_pos ht] at h
    subst ht
    by_cases hc : id ≤ mv ∧ code ≤ mv
    · rw [if_pos hc] at h
      obtain ⟨c1, c2⟩ := hc
      injection h with h
      subst h
      rw [wVars_cons]
      refine readF_of 5 _ _ rest (by omega) (by omega) ?_
      simp only [wVars_cons, wVars_nil, List.append_assoc, List.nil_append, List.cons_append]
      rw [rB5]
      rw [numQ_varB _ c1]
      simp only [Option.bind_some]
      rw [numQ_varB _ c2]
      simp only [Option.bind_some]
      rfl
    · rw [if_neg hc] at h
      cases h
  rw [if_neg ht] at h
  clear ht
  by_cases ht : ty = 6
  · rw [if_pos ht] at h
    subst ht
    by_cases hc : off + b.length ≤ mv
    · rw [if_pos hc] at h
      injection h with h
      subst h
      rw [wVars_cons, List.append_assoc (varB ((6 : Nat) : Int))]
      refine readF_of 6 _ _ rest (by omega) (by omega) ?_
      simp only [wVars_cons, wVars_nil, List.append_assoc, List.nil_append, List.cons_append]
      rw [rB6]
      rw [numQ_varB _ (by omega)]
      simp only [Option.bind_some]
      rw [numQ_varB _ (by omega)]
      simp only [Option.bind_some]
      rw [if_pos (by omega), cutQ_app]
      rfl
    · rw [if_neg hc] at h
      cases h
  rw [if_neg ht] at h
  clear ht
  by_cases ht : ty = 7
  · rw [if_pos ht] at h
    subst ht
    by_cases hc : b.length = 0
    · rw [if_pos hc] at h
      cases h
    · rw [if_neg hc] at h
      injection h with h
      subst h
      rw [wVars_cons, List.append_assoc (varB ((7 : Nat) : Int))]
      refine readF_of 7 _ _ rest (by omega) (by omega) ?_
      simp only [wVars_cons, wVars_nil, List.append_assoc, List.nil_append, List.cons_append]
      rw [rB7]
      rw [numQ_varB _ hbm]
      simp only [Option.bind_some]
      rw [if_pos (by omega), cutQ_app]
      rfl
  rw [if_neg ht] at h
  clear ht
  by_cases ht : ty = 8
  · rw [if_pos ht] at h
    subst ht
    by_cases hc : id ≤ mv ∧ off + b.length ≤ mv
    · rw [if_pos hc] at h
      obtain ⟨c1, c2⟩ := hc
      injection h with h
      subst h
      by_cases ho : 0 < off
      · cases fin with
        | true =>
          have e : ([8 + 2 + (if 0 < off then 4 else 0) + b2n true, id] ++ (if 0 < off then [off] else []) ++ [b.length]) = 15 :: ([id] ++ [off] ++ [b.length]) := by rw [if_pos ho, if_pos ho]; rfl
          rw [e, wVars_cons, List.append_assoc (varB ((15 : Nat) : Int))]
          refine readF_of 15 _ _ rest (by omega) (by omega) ?_
          simp only [wVars_cons, wVars_nil, List.append_assoc, List.nil_append, List.cons_append]
          rw [rB15, numQ_varB _ c1]
          simp only [Option.bind_some]
          rw [numQ_varB _ (by omega)]
          simp only [Option.bind_some]
          rw [numQ_varB _ hbm]
          simp only [Option.bind_some]
          rw [if_pos (by omega), cutQ_app]
          rfl
        | false =>
          have e : ([8 + 2 + (if 0 < off then 4 else 0) + b2n false, id] ++ (if 0 < off then [off] else []) ++ [b.length]) = 14 :: ([id] ++ [off] ++ [b.length]) := by rw [if_pos ho, if_pos ho]; rfl
          rw [e, wVars_cons, List.append_assoc (varB ((14 : Nat) : Int))]
          refine readF_of 14 _ _ rest (by omega) (by omega) ?_
          simp only [wVars_cons, wVars_nil, List.append_assoc, List.nil_append, List.cons_append]
          rw [rB14, numQ_varB _ c1]
          simp only [Option.bind_some]
          rw [numQ_varB _ (by omega)]
          simp only [Option.bind_some]
          rw [numQ_varB _ hbm]
          simp only [Option.bind_some]
          rw [if_pos (by omega), cutQ_app]
          rfl
      · have ho0 : off = 0 := by omega
        subst ho0
        cases fin with
        | true =>
          have e : ([8 + 2 + (if 0 < 0 then 4 else 0) + b2n true, id] ++ (if 0 < 0 then [0] else []) ++ [b.length]) = 11 :: ([id] ++ [] ++ [b.length]) := rfl
          rw [e, wVars_cons, List.append_assoc (varB ((11 : Nat) : Int))]
          refine readF_of 11 _ _ rest (by omega) (by omega) ?_
          simp only [wVars_cons, wVars_nil, List.append_assoc, List.nil_append, List.cons_append]
          rw [rB11, numQ_varB _ c1]
          simp only [Option.bind_some]
          rw [numQ_varB _ hbm]
          simp only [Option.bind_some]
          rw [if_pos (by omega), cutQ_app]
          rfl
        | false =>
          have e : ([8 + 2 + (if 0 < 0 then 4 else 0) + b2n false, id] ++ (if 0 < 0 then [0] else []) ++ [b.length]) = 10 :: ([id] ++ [] ++ [b.length]) := rfl
          rw [e, wVars_cons, List.append_assoc (varB ((10 : Nat) : Int))]
          refine readF_of 10 _ _ rest (by omega) (by omega) ?_
          simp only [wVars_cons, wVars_nil, List.append_assoc, List.nil_append, List.cons_append]
          rw [rB10, numQ_varB _ c1]
          simp only [Option.bind_some]
          rw [numQ_varB _ hbm]
          simp only [Option.bind_some]
          rw [if_pos (by omega), cutQ_app]
          rfl
    · rw [if_neg hc] at h
      cases h
  rw [if_neg ht] at h
  clear ht
  by_cases ht : ty = 16 ∨ ty = 20
  · rw [if_pos ht] at h
    rcases ht with rfl | rfl
    · by_cases hc : mx ≤ mv
      · rw [if_pos hc] at h
        injection h with h
        subst h
        rw [wVars_cons]
        refine readF_of 16 _ _ rest (by omega) (by omega) ?_
        simp only [wVars_cons, wVars_nil, List.append_assoc, List.nil_append, List.cons_append]
        rw [rB16]
        rw [numQ_varB _ hc]
        simp only [Option.bind_some]
        rfl
      · rw [if_neg hc] at h
        cases h
    · by_cases hc : mx ≤ mv
      · rw [if_pos hc] at h
        injection h with h
        subst h
        rw [wVars_cons]
        refine readF_of 20 _ _ rest (by omega) (by omega) ?_
        simp only [wVars_cons, wVars_nil, List.append_assoc, List.nil_append, List.cons_append]
        rw [rB20]
        rw [numQ_varB _ hc]
        simp only [Option.bind_some]
        rfl
      · rw [if_neg hc] at h
        cases h
  rw [if_neg ht] at h
  clear ht
  by_cases ht : ty = 17 ∨ ty = 21
  · rw [if_pos ht] at h
    rcases ht with rfl | rfl
    · by_cases hc : id ≤ mv ∧ mx ≤ mv
      · rw [if_pos hc] at h
        obtain ⟨c1, c2⟩ := hc
        injection h with h
        subst h
        rw [wVars_cons]
        refine readF_of 17 _ _ rest (by omega) (by omega) ?_
        simp only [wVars_cons, wVars_nil, List.append_assoc, List.nil_append, List.cons_append]
        rw [rB17]
        rw [numQ_varB _ c1]
        simp only [Option.bind_some]
        rw [numQ_varB _ c2]
        simp only [Option.bind_some]
        rfl
      · rw [if_neg hc] at h
        cases h
    · by_cases hc : id ≤ mv ∧ mx ≤ mv
      · rw [if_pos hc] at h
        obtain ⟨c1, c2⟩ := hc
        injection h with h
        subst h
        rw [wVars_cons]
        refine readF_of 21 _ _ rest (by omega) (by omega) ?_
        simp only [wVars_cons, wVars_nil, List.append_assoc, List.nil_append, List.cons_append]
        rw [rB21]
        rw [numQ_varB _ c1]
        simp only [Option.bind_some]
        rw [numQ_varB _ c2]
        simp only [Option.bind_some]
        rfl
      · rw [if_neg hc] at h
        cases h
  rw [if_neg ht] at h
  clear ht
  by_cases ht : ty = 18 ∨ ty = 22
  · rw [if_pos ht] at h
    rcases ht with rfl | rfl
    · by_cases hc : mx ≤ 1152921504606846976
      · rw [if_pos hc] at h
        injection h with h
        subst h
        cases uni with
        | true =>
          have e : [18 + b2n true, mx] = [19, mx] := rfl
          rw [e, wVars_cons]
          refine readF_of 19 _ _ rest (by omega) (by omega) ?_
          simp only [wVars_cons, wVars_nil, List.append_assoc, List.nil_append, List.cons_append]
          rw [rB19, numQ_varB _ (by unfold mv; omega)]
          simp only [Option.bind_some]
          rw [if_pos hc]
          rfl
        | false =>
          have e : [18 + b2n false, mx] = [18, mx] := rfl
          rw [e, wVars_cons]
          refine readF_of 18 _ _ rest (by omega) (by omega) ?_
          simp only [wVars_cons, wVars_nil, List.append_assoc, List.nil_append, List.cons_append]
          rw [rB18, numQ_varB _ (by unfold mv; omega)]
          simp only [Option.bind_some]
          rw [if_pos hc]
          rfl
      · rw [if_neg hc] at h
        cases h
    · by_cases hc : mx ≤ 1152921504606846976
      · rw [if_pos hc] at h
        injection h with h
        subst h
        cases uni with
        | true =>
          have e : [22 + b2n true, mx] = [23, mx] := rfl
          rw [e, wVars_cons]
          refine readF_of 23 _ _ rest (by omega) (by omega) ?_
          simp only [wVars_cons, wVars_nil, List.append_assoc, List.nil_append, List.cons_append]
          rw [rB23, numQ_varB _ (by unfold mv; omega)]
          simp only [Option.bind_some]
          rw [if_pos hc]
          rfl
        | false =>
          have e : [22 + b2n false, mx] = [22, mx] := rfl
          rw [e, wVars_cons]
          refine readF_of 22 _ _ rest (by omega) (by omega) ?_
          simp only [wVars_cons, wVars_nil, List.append_assoc, List.nil_append, List.cons_append]
          rw [rB22, numQ_varB _ (by unfold mv; omega)]
          simp only [Option.bind_some]
          rw [if_pos hc]
          rfl
      · rw [if_neg hc] at h
        cases h
  rw [if_neg ht] at h
  clear ht
  by_cases ht : ty = 24
  · rw [if_pos ht] at h
    subst ht
    by_cases hc : 17 ≤ b.length ∧ b.length ≤ 36 ∧ mx ≤ id ∧ id ≤ mv
    · rw [if_pos hc] at h
      obtain ⟨c1, c2, c3, c4⟩ := hc
      injection h with h
      subst h
      rw [wVars_cons, List.append_assoc (varB ((24 : Nat) : Int)), List.append_assoc (varB ((24 : Nat) : Int))]
      refine readF_of 24 _ _ rest (by omega) (by omega) ?_
      simp only [wVars_cons, wVars_nil, List.append_assoc, List.nil_append, List.cons_append]
      rw [rB24]
      rw [numQ_varB _ c4]
      simp only [Option.bind_some]
      rw [numQ_varB _ (by omega)]
      simp only [Option.bind_some]
      have hcut : cutQ 1 (UInt8.ofNat (b.length - 16) :: (b ++ rest)) = some ([UInt8.ofNat (b.length - 16)], b ++ rest) := cutQ_app [UInt8.ofNat (b.length - 16)] (b ++ rest)
      rw [hcut]
      show (if mx ≤ id ∧ 1 ≤ (UInt8.ofNat (b.length - 16)).toNat ∧ (UInt8.ofNat (b.length - 16)).toNat ≤ 20 then (cutQ ((UInt8.ofNat (b.length - 16)).toNat + 16) (b ++ rest)).bind fun x => some (({ ty := 24, id := id, max := mx, b := x.1 } : QF), x.2) else none) = _
      have hn : (UInt8.ofNat (b.length - 16)).toNat = b.length - 16 := by rw [UInt8.toNat_ofNat']; omega
      rw [if_pos ⟨c3, by rw [hn]; omega, by rw [hn]; omega⟩, hn, show b.length - 16 + 16 = b.length from by omega, cutQ_app]
      rfl
    · rw [if_neg hc] at h
      cases h
  rw [if_neg ht] at h
  clear ht
  by_cases ht : ty = 25
  · rw [if_pos ht] at h
    subst ht
    by_cases hc : id ≤ mv
    · rw [if_pos hc] at h
      injection h with h
      subst h
      rw [wVars_cons]
      refine readF_of 25 _ _ rest (by omega) (by omega) ?_
      simp only [wVars_cons, wVars_nil, List.append_assoc, List.nil_append, List.cons_append]
      rw [rB25]
      rw [numQ_varB _ hc]
      simp only [Option.bind_some]
      rfl
    · rw [if_neg hc] at h
      cases h
  rw [if_neg ht] at h
  clear ht
  by_cases ht : ty = 26 ∨ ty = 27
  · rw [if_pos ht] at h
    rcases ht with rfl | rfl
    · by_cases hc : b.length = 8
      · rw [if_pos hc] at h
        injection h with h
        subst h
        have hv := (varB_small 26 (by omega)).1
        rw [← hv]
        refine readF_of 26 _ _ rest (by omega) (by omega) ?_
        have hcut := cutQ_app b rest
        rw [hc] at hcut
        rw [rB26, hcut]
        rfl
      · rw [if_neg hc] at h
        cases h
    · by_cases hc : b.length = 8
      · rw [if_pos hc] at h
        injection h with h
        subst h
        have hv := (varB_small 27 (by omega)).1
        rw [← hv]
        refine readF_of 27 _ _ rest (by omega) (by omega) ?_
        have hcut := cutQ_app b rest
        rw [hc] at hcut
        rw [rB27, hcut]
        rfl
      · rw [if_neg hc] at h
        cases h
  rw [if_neg ht] at h
  clear ht
  by_cases ht : ty = 28
  · rw [if_pos ht] at h
    subst ht
    by_cases hc : code ≤ mv ∧ (app = true ∨ off ≤ mv)
    · rw [if_pos hc] at h
      obtain ⟨c1, c2⟩ := hc
      injection h with h
      subst h
      cases app with
      | true =>
        have e : ([28 + b2n true, code] ++ (if true = true then [] else [off]) ++ [b.length]) = 29 :: ([code] ++ [] ++ [b.length]) := rfl
        rw [e, wVars_cons, List.append_assoc (varB ((29 : Nat) : Int))]
        refine readF_of 29 _ _ rest (by omega) (by omega) ?_
        simp only [wVars_cons, wVars_nil, List.append_assoc, List.nil_append, List.cons_append]
        rw [rB29, numQ_varB _ c1]
        simp only [Option.bind_some]
        rw [numQ_varB _ hbm]
        simp only [Option.bind_some]
        rw [cutQ_app]
        rfl
      | false =>
        have c3 : off ≤ mv := by
          rcases c2 with h | h
          · cases h
          · exact h
        have e : ([28 + b2n false, code] ++ (if false = true then [] else [off]) ++ [b.length]) = 28 :: ([code] ++ [off] ++ [b.length]) := rfl
        rw [e, wVars_cons, List.append_assoc (varB ((28 : Nat) : Int))]
        refine readF_of 28 _ _ rest (by omega) (by omega) ?_
        simp only [wVars_cons, wVars_nil, List.append_assoc, List.nil_append, List.cons_append]
        rw [rB28, numQ_varB _ c1]
        simp only [Option.bind_some]
        rw [numQ_varB _ c3]
        simp only [Option.bind_some]
        rw [numQ_varB _ hbm]
        simp only [Option.bind_some]
        rw [cutQ_app]
        rfl
    · rw [if_neg hc] at h
      cases h
  rw [if_neg ht] at h
  clear ht
  cases h
end Go.Proofs.Ytcakppdabolfiaa
