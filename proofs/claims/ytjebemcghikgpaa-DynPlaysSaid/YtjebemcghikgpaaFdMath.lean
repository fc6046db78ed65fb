/-
  Names, values, lists of fields as plain mathematics. No program is named here.
-/
import GoSem.Core.Utf8
namespace Go.Proofs.Ytjebemcghikgpaa
set_option linter.unusedVariables false

def marks : List UInt8 := [33, 35, 36, 37, 38, 39, 42, 43, 45, 46, 94, 95, 96, 124, 126]
/-- May the byte stand in a name? -/
def okB (c : UInt8) : Bool := (97 ≤ c && c ≤ 122) || (48 ≤ c && c ≤ 57) || marks.contains c
def nameB (l : List UInt8) : Bool := l.all okB && !l.isEmpty
def brk (c : UInt8) : Bool := c == 0 || c == 10 || c == 13
def blnk (c : UInt8) : Bool := c == 32 || c == 9
def valueB (l : List UInt8) : Bool := l.all (fun c => !brk c) && (match l.head?, l.getLast? with | some a, some b => !blnk a && !blnk b | _, _ => true)
def pseudoB (l : List UInt8) : Bool := l.head? == some 58

abbrev Fd := ByteArray × ByteArray
def fsz (f : Fd) : Nat := f.1.size + f.2.size
/-- What a list of fields takes up. -/
def sizeF : List Fd → Nat
  | [] => 0
  | f :: l => fsz f + 32 + sizeF l
/-- The bytes alone. -/
def sumF : List Fd → Nat
  | [] => 0
  | f :: l => fsz f + sumF l
theorem sizeF_append (a b : List Fd) : sizeF (a ++ b) = sizeF a + sizeF b := by
  induction a with
  | nil => simp [sizeF]
  | cons x a ih => simp only [List.cons_append, sizeF, ih]; omega
theorem sumF_append (a b : List Fd) : sumF (a ++ b) = sumF a + sumF b := by
  induction a with
  | nil => simp [sumF]
  | cons x a ih => simp only [List.cons_append, sumF, ih]; omega
theorem sizeF_sum (a : List Fd) : sizeF a = sumF a + 32 * a.length := by
  induction a with
  | nil => rfl
  | cons x a ih => simp only [sizeF, sumF, ih, List.length_cons]; omega
theorem sizeF_take_succ (l : List Fd) (k : Nat) (h : k < l.length) : sizeF (l.take (k + 1)) = sizeF (l.take k) + (fsz l[k] + 32) := by
  rw [List.take_succ_eq_append_getElem h, sizeF_append]; simp [sizeF]
theorem sumF_take_succ (l : List Fd) (k : Nat) (h : k < l.length) : sumF (l.take (k + 1)) = sumF (l.take k) + fsz l[k] := by
  rw [List.take_succ_eq_append_getElem h, sumF_append]; simp [sumF]
theorem sumF_take_le (l : List Fd) (k : Nat) : sumF (l.take k) ≤ sumF l := by
  have := sumF_append (l.take k) (l.drop k)
  rw [List.take_append_drop] at this
  omega
theorem fsz_le (l : List Fd) (k : Nat) (h : k < l.length) : fsz l[k] ≤ sumF l := by
  have h1 := sumF_take_succ l k h
  have h2 := sumF_take_le l (k + 1)
  omega

/-- The values of that name, in order. -/
def findF (l : List Fd) (name : ByteArray) : List ByteArray := (l.filter fun f => decide (f.1 = name)).map (·.2)
theorem findF_append (a b : List Fd) (n : ByteArray) : findF (a ++ b) n = findF a n ++ findF b n := by simp [findF]
theorem findF_one (f : Fd) (n : ByteArray) : findF [f] n = if f.1 = n then [f.2] else [] := by
  unfold findF
  by_cases h : f.1 = n <;> simp [h]
theorem findF_take_succ (l : List Fd) (k : Nat) (h : k < l.length) (n : ByteArray) : findF (l.take (k + 1)) n = findF (l.take k) n ++ (if l[k].1 = n then [l[k].2] else []) := by
  rw [List.take_succ_eq_append_getElem h, findF_append, findF_one]
theorem findF_length_le (l : List Fd) (n : ByteArray) : (findF l n).length ≤ l.length := by
  unfold findF
  rw [List.length_map]
  exact List.length_filter_le _ _

/-- Do two lists agree in the first k places? -/
def AgreeTo {α : Type} (a b : List α) (k : Nat) : Prop := ∀ i, i < k → a[i]? = b[i]?
theorem AgreeTo.zero {α : Type} (a b : List α) : AgreeTo a b 0 := fun i h => absurd h (Nat.not_lt_zero _)
theorem AgreeTo.succ {α : Type} {a b : List α} {k : Nat} (h : AgreeTo a b k) (hk : a[k]? = b[k]?) : AgreeTo a b (k + 1) := fun i hi => by
  rcases Nat.lt_or_ge i k with h1 | h1
  · exact h i h1
  · obtain rfl : i = k := by omega
    exact hk
theorem AgreeTo.eq {α : Type} {a b : List α} (hl : a.length = b.length) (h : AgreeTo a b a.length) : a = b := by
  apply List.ext_getElem?
  intro i
  rcases Nat.lt_or_ge i a.length with h1 | h1
  · exact h i h1
  · rw [List.getElem?_eq_none h1, List.getElem?_eq_none (by omega)]

end Go.Proofs.Ytjebemcghikgpaa
