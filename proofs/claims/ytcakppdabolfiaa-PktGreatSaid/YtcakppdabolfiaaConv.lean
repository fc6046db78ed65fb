/-
  A slice of bytes made a string; the byte type's row.
-/
import Derived.Test.YtcakppdabolfiaaSl
import Derived.Test.YtcakppdabolfiaaRows
import Derived.Laws.BytesArg
namespace Go.Proofs.Ytcakppdabolfiaa
open Go.RowKit
set_option linter.unusedVariables false

theorem infoU8 : (Try.prog.info? 5).map (fun i => (i.zero, i.size, i.bytes)) = some (some (.int .u8 0), 1, 1) := by kernel_rfl

/-- The string of some bytes. -/
def bstr (l : List UInt8) : ByteArray := ⟨l.toArray⟩
theorem bstr_inj {a b : List UInt8} (h : bstr a = bstr b) : a = b := by
  unfold bstr at h
  injection h with h
  exact List.toArray_inj h

set_option maxRecDepth 100000 in
theorem conv_str {w : World} {v : Value} {l : List UInt8} (h : Bs w v l) : (convert 36 9 v).run Try.prog w = .ok (.string (bstr l)) w := by
  rcases Nat.eq_zero_or_pos l.length with h0 | h0
  · obtain rfl : l = [] := List.eq_nil_of_length_eq_zero h0
    obtain ⟨A, c, rfl, h1, h2, h3⟩ := h
    rcases h3 with ⟨rfl, rfl⟩ | ⟨x, rfl, _⟩
    · exact run_convert_bytes_nil (P := Try.prog) w 36 5 Try.underlying36 Try.underlying5 _ _ 9 Try.underlying9
    · rw [run_convert_bytes_string w 36 9 5 _ _ _ Try.underlying36 Try.underlying5 Try.underlying9]
      have := run_bytesToString (P := Try.prog) w x 0 c [] (by simp [loadCells, loadCellsFrom])
      exact this
  · obtain ⟨b, o, c, rfl, h1, h2, h3, hc⟩ := Rd.at_ h (by simpa using h0)
    rw [List.length_map]
    have := run_convert_bytes_arg (P := Try.prog) w 36 5 Try.underlying36 Try.underlying5 b o l.length c (l.map fun x => (x.toNat : Int)) (by simp) (fun i hi => by
      have := hc i (.int .u8 (l[i].toNat : Int)) (by simp [bv, hi])
      rw [this]
      simp [List.getD, hi]) 9 Try.underlying9
    rw [this]
    congr 2
    unfold strOfNums bstr
    congr 2
    rw [List.map_map]
    conv => rhs; rw [← List.map_id l]
    apply List.map_congr_left
    intro x _
    simp

theorem snoc_any {w : World} {B : Nat} {x : Value} {l : List UInt8} {n : Int} (h : Ap w B 5 x (l.map bv ++ #[Value.int .u8 n].toList)) (b : UInt8) (hb : n = (b.toNat : Int)) : ApB w B x (l ++ [b]) := by
  unfold ApB
  rw [List.map_append, List.map_cons, List.map_nil]
  subst hb
  exact h
theorem byte_nat {n : Nat} (h : n < 256) : (n : Int) = ((UInt8.ofNat n).toNat : Int) := by
  rw [UInt8.toNat_ofNat', Nat.mod_eq_of_lt (by have : (2:Nat) ^ 8 = 256 := rfl; omega)]

end Go.Proofs.Ytcakppdabolfiaa
