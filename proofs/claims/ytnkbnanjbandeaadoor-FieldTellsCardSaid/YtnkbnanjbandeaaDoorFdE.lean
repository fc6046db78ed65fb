/-
  strings.IndexAny, strings.ContainsAny of any text at two or more ASCII bytes.
-/
import Derived.Test.YtnkbnanjbandeaaDoorFdD
import Derived.Lib.DecodeN
import Derived.Lib.OthersKept
import Derived.Lib.IndexAny
namespace Go.Proofs.YtnkbnanjbandeaaDoor
open Go.RowKit
set_option linter.unusedVariables false

theorem get_list (s : ByteArray) (k : Nat) (h : k < s.size) (b : UInt8) (hb : s.data.toList[k]? = some b) : s.get! k = b := by
  have h1 : s.data.toList[k]? = some (s[k]) := by rw [List.getElem?_eq_getElem (by simpa using h)]; rfl
  rw [h1] at hb
  injection hb with hb
  rw [← hb]
  have := get_at s k h
  rwa [Nat.add_zero] at this

set_option maxHeartbeats 1000000 in
theorem decode_run (s : ByteArray) (pos : Nat) (h : pos < s.size) (ha : 128 ≤ s[pos].toNat) :
    128 ≤ (Utf8.decode s pos).1 ∧ (Utf8.decode s pos).1 ≤ 1114111 ∧ 1 ≤ (Utf8.decode s pos).2 ∧ pos + (Utf8.decode s pos).2 ≤ s.size ∧
      ∀ (j : Nat) b, pos ≤ j → j < pos + (Utf8.decode s pos).2 → s.data.toList[j]? = some b → 128 ≤ b.toNat := by
  have hg := fun j hj b hb => get_list s j hj b hb
  have h0 : (s.get! pos).toNat = s[pos].toNat := by have := get_at s pos h; rw [Nat.add_zero] at this; rw [this]
  rw [Lib.decode_at]
  have b0 := (s.get! pos).toNat_lt
  have b1 := (s.get! (pos + 1)).toNat_lt
  have b2 := (s.get! (pos + 2)).toNat_lt
  have b3 := (s.get! (pos + 3)).toNat_lt
  rw [← h0] at ha
  have one : ∀ (j : Nat) b, pos ≤ j → j < pos + 1 → s.data.toList[j]? = some b → 128 ≤ b.toNat := fun j b h1 h2 hb => by
    obtain rfl : j = pos := by omega
    rw [← hg j h b hb]; exact ha
  have step : ∀ k, pos + k < s.size → (s.get! (pos + k)).toNat / 64 = 2 → (∀ (j : Nat) b, pos ≤ j → j < pos + k → s.data.toList[j]? = some b → 128 ≤ b.toNat) → ∀ (j : Nat) b, pos ≤ j → j < pos + (k + 1) → s.data.toList[j]? = some b → 128 ≤ b.toNat := fun k hk h64 hp j b h1 h2 hb => by
    rcases Nat.lt_or_ge j (pos + k) with h3 | h3
    · exact hp j b h1 h3 hb
    · obtain rfl : j = pos + k := by omega
      rw [← hg _ hk b hb]; omega
  unfold Lib.decodeN
  rw [if_neg (by omega)]
  split
  · rename_i hc
    split
    · exact ⟨by simp only; omega, by simp only; omega, by simp only; omega, by simp only; omega, step 1 (by omega) hc.2.2 one⟩
    · exact ⟨by simp only; omega, by simp only; omega, by simp only; omega, by simp only; omega, one⟩
  · split
    · rename_i hc
      split
      · exact ⟨by simp only; omega, by simp only; omega, by simp only; omega, by simp only; omega, step 2 (by omega) hc.2.2.2 (step 1 (by omega) hc.2.1.2 one)⟩
      · exact ⟨by simp only; omega, by simp only; omega, by simp only; omega, by simp only; omega, one⟩
    · split
      · rename_i hc
        split
        · exact ⟨by simp only; omega, by simp only; omega, by simp only; omega, by simp only; omega, step 3 (by omega) hc.2.2.2.2 (step 2 (by omega) hc.2.2.1.2 (step 1 (by omega) hc.2.1.2 one))⟩
        · exact ⟨by simp only; omega, by simp only; omega, by simp only; omega, by simp only; omega, one⟩
      · exact ⟨by simp only; omega, by simp only; omega, by simp only; omega, by simp only; omega, one⟩

theorem noAny_skip {s chars : ByteArray} {i n : Nat} (h : Lib.NoAny s.data.toList chars.data.toList i) (ha : Ascii chars)
    (hb : ∀ (j : Nat) b, i ≤ j → j < i + n → s.data.toList[j]? = some b → 128 ≤ b.toNat) : Lib.NoAny s.data.toList chars.data.toList (i + n) := fun j b hj hjb => by
  rcases Nat.lt_or_ge j i with h1 | h1
  · exact h j b h1 hjb
  · have h128 := hb j b h1 hj hjb
    rw [Bool.eq_false_iff]
    intro hc
    rw [List.contains_iff_mem] at hc
    obtain ⟨q, hq⟩ := List.mem_iff_getElem?.1 hc
    have := ha q b hq
    omega

set_option maxHeartbeats 8000000 in
set_option maxRecDepth 1000000 in
theorem indexAny_short (s chars : ByteArray) (w : World) (h2 : 2 ≤ chars.size) (h8 : s.size ≤ 8) (hcs : chars.size ≤ 9223372036854775807) (hac : Ascii chars) :
    Calls Tryd.prog 29 #[.string s, .string chars] w fun e w' => e = .returned (.int .i64 (Lib.indexAny s.data.toList chars.data.toList)) ∧ Below w.heap.size w w' := by
  have HC := Bx.mk hac
  clear hac
  have hemp : chars.toList.isEmpty = false := by
    rw [Lib.toList_data]
    cases h : chars.data.toList with
    | nil => have := Lib.size_eq chars; rw [h, List.length_nil] at this; omega
    | cons _ _ => rfl
  have hn1 : ((chars.size : Int) == 1) = false := beq_eq_false_iff_ne.2 (by omega)
  have h8z : decide ((8 : Int) < (s.size : Int)) = false := decide_eq_false (by omega)
  go_enter Tryd.func29, Tryd.ntmps29
  go_wp2_with (go_at_call 40; refine (strings_shouldUseASCIISet _ _).mono ?_; rintro e w' ⟨rfl, hw⟩; rw [hw, h8z])
  go_loopg [9, 10] s.size (fun g _ _ wx => ∃ i : Nat, i + g = s.size ∧ wx.heap[w.heap.size]? = some (.stringIter s i) ∧ Bx (Below w.heap.size w wx) ∧ Lib.NoAny s.data.toList chars.data.toList i)
  case atStart => exact ⟨0, by omega, World.iter_heap w s 0, ⟨(Below.refl _ _).alloc (Nat.le_refl _) _⟩, Lib.NoAny.zero _ _⟩
  case round =>
    obtain ⟨i, hig, hit, HB, hno⟩ := hrel
    have HN := Bx.mk hno
    have HI := Bx.mk hit
    clear hno
    cases gk with
    | zero =>
      obtain rfl : i = s.size := by omega
      have hnx := fun ty => Lib.run_next_end_at (P := Tryd.prog) wr w.heap.size s s.size ty hit (by omega)
      clear hit
      go_wp2
      go_ret
      exact ⟨by rw [Lib.indexAny_none (by rw [← Lib.size_eq]; exact HN.out)]; rfl, HB.out⟩
    | succ g =>
      have hi : i < s.size := by omega
      obtain ⟨x, hx⟩ : ∃ x : UInt8, s[i]'hi = x := ⟨_, rfl⟩
      have hxl : s.data.toList[i]? = some x := by rw [← hx]; exact Lib.data_getElem? s i hi
      have Hx := Bx.mk hxl
      clear hxl
      by_cases hx128 : x.toNat < 128
      · have hnx := fun ty => Lib.run_next_ascii_at (P := Tryd.prog) wr w.heap.size s i ty hit hi (by rw [hx]; exact hx128)
        rw [hx] at hnx
        have HI2 := Bx.mk (Lib.iterAt_heap wr w.heap.size s i (i + 1) hit)
        have HB2 := Bx.mk (Lib.below_iterAt HB.out (Nat.le_refl _) s (i + 1))
        clear hit hx
        have hcon := Lib.contains_iff_indexByte chars.data.toList x
        have hback : ((x.toNat : Int)).toNat.toUInt8 = x := by simp
        cases hin : chars.data.toList.contains x
        · rw [hin] at hcon
          have hlt : ¬ ((0 : Int) ≤ Lib.indexByte chars.data.toList x) := of_decide_eq_false hcon.symm
          clear hcon
          go_wp2_with (go_at_call 39; refine (strings_IndexRune_ascii _ _ _ (by omega) (by omega)).mono ?_; rintro e w' ⟨rfl, hw⟩; rw [hw, hback])
          go_roundg g
          case measure => omega
          case rel => exact ⟨i + 1, by omega, HI2.out, HB2, HN.out.succ Hx.out hin⟩
        · rw [hin] at hcon
          have hge : (0 : Int) ≤ Lib.indexByte chars.data.toList x := of_decide_eq_true hcon.symm
          clear hcon
          go_wp2_with (go_at_call 39; refine (strings_IndexRune_ascii _ _ _ (by omega) (by omega)).mono ?_; rintro e w' ⟨rfl, hw⟩; rw [hw, hback])
          go_ret
          exact ⟨by rw [Lib.indexAny_hit HN.out Hx.out hin]; rfl, HB2.out⟩
      · obtain ⟨d1, d2, d3, d4, d5⟩ := decode_run s i hi (by rw [hx]; omega)
        have hnx := fun ty => Lib.run_next_any_at (P := Tryd.prog) wr w.heap.size s i ty hit hi
        have hI2 := Lib.iterAt_heap wr w.heap.size s i (i + (Utf8.decode s i).2) hit
        have hB2 := Lib.below_iterAt HB.out (Nat.le_refl _) s (i + (Utf8.decode s i).2)
        have hN2 := noAny_skip HN.out HC.out d5
        clear hit hx d5
        generalize (Utf8.decode s i).1 = r at d1 d2 hnx
        generalize (Utf8.decode s i).2 = n at d3 d4 hnx hI2 hB2 hN2
        have HI2 := Bx.mk hI2
        have HB2 := Bx.mk hB2
        have HN2 := Bx.mk hN2
        clear hI2 hB2 hN2
        have hr1 : (128 : Int) ≤ (r : Int) := by omega
        have hr2 : (r : Int) ≤ 1114111 := by omega
        go_wp2_with (go_at_call 39; refine (indexRune_high _ _ _ hr1 hr2 hcs HC.out).mono ?_; rintro e w2 ⟨rfl, b2⟩)
        have hsz2 := HB2.out.size
        have hw2 : w2.heap[w.heap.size]? = some (.stringIter s (i + n)) := by
          have hlt : w.heap.size < (wr.iterAt w.heap.size s (i + n)).heap.size := (Array.getElem?_eq_some_iff.1 HI2.out).1
          rw [b2.block _ hlt]
          exact HI2.out
        have HW2 := Bx.mk hw2
        have HB3 := Bx.mk (HB2.out.trans (b2.mono hsz2))
        clear hw2 b2 hsz2
        go_roundg (s.size - (i + n))
        case measure => omega
        case rel => exact ⟨i + n, by omega, HW2.out, HB3, HN2.out⟩

theorem setInfo : (Tryd.prog.info? 46).map (fun i => (i.zero, i.size)) = some (some (.agg (Array.replicate 256 (.bool false))), 256) := by kernel_rfl

theorem containsAny_any (s chars : ByteArray) (w : World) (h2 : 2 ≤ chars.size) (hs : s.size < 4294967281) (hcs : chars.size < 4294967281) (hac : Ascii chars) :
    Calls Tryd.prog 23 #[.string s, .string chars] w fun e w' => e = .returned (.bool (Lib.containsAny s.data.toList chars.data.toList)) ∧ Below w.heap.size w w' := by
  have c : Calls Tryd.prog 29 #[.string s, .string chars] w fun e w' => e = .returned (.int .i64 (Lib.indexAny s.data.toList chars.data.toList)) ∧ Below w.heap.size w w' := by
    by_cases h8 : s.size ≤ 8
    · exact indexAny_short s chars w h2 h8 (by omega) hac
    · refine (strings_IndexAny_long (zero_of_info setInfo).1 s chars w h2 (by omega) hs hcs hac).mono fun e w' ⟨h1, h2⟩ => ⟨h1, ?_⟩
      rw [h2]
      exact ((Below.refl _ _).alloc (Nat.le_refl _) _).alloc (by simp) _
  go_enter Tryd.func23, Tryd.ntmps23
  go_wp2_with (go_at_call 29; refine c.mono ?_; rintro e w' ⟨rfl, hw⟩)
  go_ret
  exact ⟨rfl, hw⟩

end Go.Proofs.YtnkbnanjbandeaaDoor
