/-
  strings.IndexRune of a text of ASCII bytes at a rune that is none; strings.IndexAny, ContainsAny of any text at ASCII bytes.
-/
import Derived.Test.YtnkbnanjbandeaaDoorFdA
import Derived.Deep.QuietTactic
import Derived.BigQuiet
import Derived.Laws.RangeAny
import Derived.Deep.LoopGhost
import Derived.IntWalk
namespace Go.Proofs.YtnkbnanjbandeaaDoor
open Go.RowKit
set_option linter.unusedVariables false

def Ascii (s : ByteArray) : Prop := ∀ (j : Nat) b, s.data.toList[j]? = some b → b.toNat < 128
theorem Ascii.at_ {s : ByteArray} (h : Ascii s) (k : Nat) (hk : k < s.size) : s[k].toNat < 128 := h k s[k] (by rw [List.getElem?_eq_getElem (by simpa using hk)]; rfl)

/-- The bytes of a rune beyond ASCII: two to four, the last one beyond ASCII. -/
theorem encode_high (r : Int) (h0 : 128 ≤ r) : ∃ (L : Nat) (rs : ByteArray), 1 ≤ L ∧ L ≤ 3 ∧ Utf8.encode r = rs ∧ ∃ h : rs.size = L + 1, 128 ≤ (rs[L]'(by omega)).toNat := by
  obtain ⟨c, hc, hc0, hc1⟩ : ∃ c : Nat, (if Utf8.valid r then r.toNat else Utf8.runeError) = c ∧ 128 ≤ c ∧ c ≤ 1114111 := by
    refine ⟨_, rfl, ?_, ?_⟩
    · split
      · omega
      · simp [Utf8.runeError]
    · split
      · rename_i h
        simp [Utf8.valid] at h
        omega
      · simp [Utf8.runeError]
  have e : Utf8.encode r = if c < 128 then ⟨#[UInt8.ofNat c]⟩
      else if c < 2048 then ⟨#[UInt8.ofNat (192 + c / 64), UInt8.ofNat (128 + c % 64)]⟩
      else if c < 65536 then ⟨#[UInt8.ofNat (224 + c / 4096), UInt8.ofNat (128 + c / 64 % 64), UInt8.ofNat (128 + c % 64)]⟩
      else ⟨#[UInt8.ofNat (240 + c / 262144), UInt8.ofNat (128 + c / 4096 % 64), UInt8.ofNat (128 + c / 64 % 64), UInt8.ofNat (128 + c % 64)]⟩ := by
    rw [← hc]; rfl
  rw [if_neg (by omega)] at e
  have hb : ∀ x : Nat, 128 ≤ (UInt8.ofNat (128 + x % 64)).toNat := fun x => by
    rw [UInt8.toNat_ofNat', Nat.mod_eq_of_lt (by have : (2:Nat) ^ 8 = 256 := rfl; omega)]; omega
  split at e
  · exact ⟨1, _, by omega, by omega, e, rfl, hb c⟩
  · split at e
    · exact ⟨2, _, by omega, by omega, e, rfl, hb c⟩
    · exact ⟨3, _, by omega, by omega, e, rfl, hb c⟩

theorem indexByte_none (l : List UInt8) (b : UInt8) (h : ∀ x ∈ l, x ≠ b) : Lib.indexByte l b = -1 := by
  have hc := Lib.contains_iff_indexByte l b
  have hn : l.contains b = false := by
    rw [Bool.eq_false_iff]
    intro h2
    rw [List.contains_iff_mem] at h2
    exact h b h2 rfl
  rw [hn] at hc
  have hlt : ¬ (0 ≤ Lib.indexByte l b) := of_decide_eq_false hc.symm
  have := Lib.indexByte_ge l b
  omega

set_option maxHeartbeats 4000000 in
set_option maxRecDepth 100000 in
theorem indexRune_high (s : ByteArray) (r : Int) (w : World) (h0 : 128 ≤ r) (h1 : r ≤ 1114111) (hs : s.size ≤ 9223372036854775807) (ha : Ascii s) :
    Calls Tryd.prog 39 #[.string s, .int .i32 r] w fun e w' => e = .returned (.int .i64 (-1)) ∧ Below w.heap.size w w' := by
  have HA := Bx.mk ha
  clear ha
  by_cases h2 : r = 65533
  · subst h2
    clear h0 h1
    go_enter Tryd.func39, Tryd.ntmps39
    go_wp2
    go_loopg [5, 6] s.size (fun g _ _ wx => ∃ i : Nat, i + g = s.size ∧ wx = w.iter s i)
    case atStart => exact ⟨0, by omega, rfl⟩
    case round =>
      obtain ⟨i, hig, rfl⟩ := hrel
      cases gk with
      | zero =>
        obtain rfl : i = s.size := by omega
        have hnx := run_next_end (P := Tryd.prog) w s s.size
        go_wp2
        go_ret
        exact ⟨rfl, (Below.refl _ _).alloc (Nat.le_refl _) _⟩
      | succ g =>
        have hi : i < s.size := by omega
        have hx128 := HA.out.at_ i hi
        have hnx := fun ty => run_next_ascii (P := Tryd.prog) w s i ty hi hx128
        go_wp2
        go_roundg g
        case measure => omega
        case rel => exact ⟨i + 1, by omega, rfl⟩
  · have hne : (r == 65533) = false := by rw [beq_eq_false_iff_ne]; exact h2
    cases hv : Lib.validRune r
    · go_enter Tryd.func39, Tryd.ntmps39
      go_wp2_with (go_at_call 46; refine (utf8_ValidRune _ _).mono ?_; rintro e w' ⟨rfl, hw⟩; rw [hw, hv])
      go_ret
      exact ⟨rfl, Below.refl _ _⟩
    · obtain ⟨L, rs, hL1, hL3, hrs, hsz, hlast⟩ := encode_high r h0
      have HLB := Lib.hid hlast
      have hd : (L : Int) + 1 - 1 = L := by omega
      go_enter Tryd.func39, Tryd.ntmps39
      go_wp2_with (go_at_call 46; refine (utf8_ValidRune _ _).mono ?_; rintro e w' ⟨rfl, hw⟩; rw [hw, hv])
      go_step3
      go_wp2
      go_loopg [9] 1 (fun g s9 wx => s9 = .int .i64 L ∧ wx = w)
      case atStart => exact ⟨rfl, rfl⟩
      case round =>
        obtain ⟨rfl, rfl⟩ := hrel
        by_cases hlt : L < s.size
        · have hx := HA.out.at_ L hlt
          go_wp2
          go_step3
          have hl1 : (L : Int) < (L : Int) + 1 := by omega
          have hsr : (((s[L].toNat : Nat) : Int) == ((rs[L].toNat : Nat) : Int)) = false := by rw [beq_eq_false_iff_ne]; omega
          have hsr2 : (((s[L].toNat : Nat) : Int) != ((rs[L].toNat : Nat) : Int)) = true := by rw [bne_iff_ne]; omega
          go_wp2
          go_region
          go_wp2
          clear hsr hsr2
          have hwr : IntKind.i64.wrap ((L : Int) + 1) = (L : Int) + 1 := IntWalk.i64_in _ (by omega)
          have hp0 : (0 : Int) ≤ (L : Int) + 1 := by omega
          have htn : ((L : Int) + 1).toNat = L + 1 := by omega
          have hle : (L : Int) + 1 ≤ (s.size : Int) := by omega
          go_region_with (go_at_call 28; refine (strings_IndexByte _ _ _).mono ?_; rintro e w' ⟨rfl, hw⟩; rw [hw])
          have HIB : Bx (Lib.indexByte (List.take (s.size - (L + 1)) (List.drop (L + 1) s.data.toList)) rs[L] = -1) := ⟨indexByte_none _ _ fun x hx2 he => by
            obtain ⟨j, hj⟩ := List.mem_iff_getElem?.1 (List.mem_of_mem_drop (List.mem_of_mem_take hx2))
            have h128 := HA.out j x hj
            have h129 := HLB.out
            rw [he] at h128
            omega⟩
          rw [HIB.out]
          go_wp2
          rw [Exit.noGoto_ret]
          go_wp2
          rw [Exit.noGoto_ret]
          go_ret
          exact ⟨rfl, (Below.refl _ _).drew.drew⟩
        · go_wp2
          rw [Exit.noGoto_ret]
          go_ret
          exact ⟨rfl, Below.refl _ _⟩

end Go.Proofs.YtnkbnanjbandeaaDoor
