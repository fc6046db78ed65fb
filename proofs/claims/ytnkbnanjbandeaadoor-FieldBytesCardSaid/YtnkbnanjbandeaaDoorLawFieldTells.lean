/-
  bifoldlaw3.FieldTells answers true, whatever its arguments: the walk.
-/
import Derived.Test.YtnkbnanjbandeaaDoorFdL
import Derived.Test.YtnkbnanjbandeaaDoorFdB
import Derived.Test.YtnkbnanjbandeaaDoorFdI
import Derived.Test.YtnkbnanjbandeaaDoorConv
import Derived.Test.YtnkbnanjbandeaaDoorOpenB
namespace Go.Proofs.YtnkbnanjbandeaaDoor
open Go.RowKit
set_option linter.unusedVariables false

/-- A string of one byte. -/
def oneS (c : UInt8) : ByteArray := ⟨#[c]⟩
/-- string([]byte{c}) -/
theorem conv_one (W : World) (g : Nat) (hg : W.heap.size = g) (c : UInt8) : (convert 23 9 (.slice (some ⟨g, 0, none⟩) 1 1)).run Tryd.prog (W.alloc (.cells #[.int .u8 (c.toNat : Int)] 5)) = .ok (.string (oneS c)) (W.alloc (.cells #[.int .u8 (c.toNat : Int)] 5)) := by
  subst hg
  exact conv_str (show Bs (W.alloc (.cells #[.int .u8 (c.toNat : Int)] 5)) (.slice (some ⟨W.heap.size, 0, none⟩) 1 1) [c] from Rd.lit W 5 #[.int .u8 (c.toNat : Int)] 1 rfl (by simp [maxLen]))

set_option maxRecDepth 100000 in
set_option maxHeartbeats 2000000 in
theorem fieldTells_walk (a0 : ByteArray) (a1 : Int) (w0 : a0.size ≤ maxLen) (w1 : (Lit.int .u8 a1).wf = true) (w : World) :
    Calls Tryd.prog 3 #[.string a0, .int .u8 a1] w fun e w' => e = .returned (.bool true) ∧ Below w.heap.size w w' := by
  unfold maxLen at w0
  have hr := wf_range w1
  simp [IntKind.min, IntKind.max, IntKind.signed, IntKind.bits] at hr
  obtain ⟨c, hc⟩ : ∃ c : UInt8, a1 = (c.toNat : Int) := ⟨UInt8.ofNat a1.toNat, by rw [UInt8.toNat_ofNat', Nat.mod_eq_of_lt (by have : (2:Nat) ^ 8 = 256 := rfl; omega)]; omega⟩
  subst hc
  clear w1 hr
  by_cases hbig : 300 < a0.size
  · have hbb : decide (300 < (a0.size : Int)) = true := by rw [decide_eq_true_iff]; omega
    clear hbig
    go_enter Tryd.func3, Tryd.ntmps3
    go_wp2_with (go_at_call 7; refine (known_any _).mono ?_; rintro e w1 ⟨rfl, b1⟩)
    go_ret
    exact ⟨rfl, b1⟩
  · have hbb : decide (300 < (a0.size : Int)) = false := by rw [decide_eq_false_iff_not]; omega
    have HS : Bx (a0.size ≤ 300) := ⟨by omega⟩
    clear hbig
    go_enter Tryd.func3, Tryd.ntmps3
    go_wp2_with fail
    refine (known_any w).mono ?_
    rintro e w1 ⟨rfl, b1⟩
    have hus : (oneS c).size = 1 := rfl
    have k1 := conv_one w1 _ rfl c
    have k2 := conv_one (w1.alloc (.cells #[.int .u8 (c.toNat : Int)] 5)) (w1.heap.size + 1) (by simp) c
    have k3 := conv_one ((w1.alloc (.cells #[.int .u8 (c.toNat : Int)] 5)).alloc (.cells #[.int .u8 (c.toNat : Int)] 5)) (w1.heap.size + 2) (by simp) c
    have hcat : ¬ 9223372036854775807 < a0.size + 1 := by have := HS.out; omega
    have hcat2 : ¬ 9223372036854775807 < 1 + a0.size := by have := HS.out; omega
    go_wp2
    clear k1 k2 k3
    have HUS := Bx.mk hus
    clear hus
    have hss : Ss ((((w1.alloc (.cells #[.int .u8 (c.toNat : Int)] 5)).alloc (.cells #[.int .u8 (c.toNat : Int)] 5)).alloc (.cells #[.int .u8 (c.toNat : Int)] 5)).alloc
        (.cells #[.string a0, .string (a0 ++ oneS c), .string (oneS c ++ a0), .string (oneS c)] 9)) (.slice (some ⟨w1.heap.size + 1 + 1 + 1, 0, none⟩) 4 4) [a0, a0 ++ oneS c, oneS c ++ a0, oneS c] :=
      Rd.litg _ _ (by simp) 9 #[.string a0, .string (a0 ++ oneS c), .string (oneS c ++ a0), .string (oneS c)] 4 rfl (by simp [maxLen])
    have hbel : Below w.heap.size w ((((w1.alloc (.cells #[.int .u8 (c.toNat : Int)] 5)).alloc (.cells #[.int .u8 (c.toNat : Int)] 5)).alloc (.cells #[.int .u8 (c.toNat : Int)] 5)).alloc
        (.cells #[.string a0, .string (a0 ++ oneS c), .string (oneS c ++ a0), .string (oneS c)] 9)) :=
      (((b1.alloc b1.size _).alloc (by have := b1.size; simp; omega) _).alloc (by have := b1.size; simp; omega) _).alloc (by have := b1.size; simp; omega) _
    generalize ((((w1.alloc (.cells #[.int .u8 (c.toNat : Int)] 5)).alloc (.cells #[.int .u8 (c.toNat : Int)] 5)).alloc (.cells #[.int .u8 (c.toNat : Int)] 5)).alloc
        (.cells #[.string a0, .string (a0 ++ oneS c), .string (oneS c ++ a0), .string (oneS c)] 9)) = W4 at hss hbel ⊢
    generalize Value.slice (some ⟨w1.heap.size + 1 + 1 + 1, 0, none⟩) 4 4 = lv at hss ⊢
    have hxs : ∀ x ∈ [a0, a0 ++ oneS c, oneS c ++ a0, oneS c], x.size ≤ 301 := by
      have := HS.out
      have e := HUS.out
      intro x hx
      simp only [List.mem_cons, List.not_mem_nil, or_false] at hx
      rcases hx with rfl | rfl | rfl | rfl <;> (try rw [ByteArray.size_append]) <;> omega
    have hxl : [a0, a0 ++ oneS c, oneS c ++ a0, oneS c].length = 4 := rfl
    generalize [a0, a0 ++ oneS c, oneS c ++ a0, oneS c] = xs at hss hxs hxl
    have HSS := Bx.mk hss
    have HXS := Bx.mk hxs
    have HXL := Bx.mk hxl
    have HB4 := Bx.mk hbel
    clear hss hxs hxl hbel hcat hcat2 hbb b1
    go_loopg [28] 4 (fun g s28 wx => ∃ k : Nat, k + g = 4 ∧ s28 = .int .i64 k ∧ Bx (Below W4.heap.size W4 wx))
    case atStart => exact ⟨0, by omega, rfl, ⟨Below.refl _ _⟩⟩
    case round =>
      obtain ⟨k, hkg, rfl, HB⟩ := hrel
      cases gk with
      | zero =>
        obtain rfl : k = 4 := by omega
        go_wp2
        go_ret
        exact ⟨rfl, HB4.out.trans (HB.out.mono HB4.out.size)⟩
      | succ g =>
        have hk : k < xs.length := by rw [HXL.out]; omega
        have hkz : (k : Int) < 4 := by omega
        obtain ⟨b, o, hix, hcs⟩ := HSS.out.at_ k hk
        have hc1 := hcs wr (HSS.out.keep HB.out)
        have hsz := HXS.out _ (List.getElem_mem hk)
        clear hcs
        generalize xs[k] = x at hc1 hsz
        have HSZ := Bx.mk hsz
        clear hsz
        go_wp2_with fail
        refine (name_any x wr (by have := HSZ.out; omega)).mono ?_
        rintro e w' ⟨rfl, hw⟩
        rw [hw]
        clear hw w'
        go_wp2_with fail
        refine (refName_any x wr (by have := HSZ.out; omega)).mono ?_
        rintro e w' ⟨rfl, hw⟩
        rw [hw]
        clear hw w'
        generalize nameB x.data.toList = n
        have hn : (n != n) = false := by cases n <;> rfl
        go_wp2_with fail
        refine (value_any x wr (by have := HSZ.out; omega)).mono ?_
        rintro e w2 ⟨rfl, b2⟩
        clear hn
        go_wp2_with fail
        refine (refValue_any x w2 (by have := HSZ.out; omega)).mono ?_
        rintro e w' ⟨rfl, hw⟩
        rw [hw]
        clear hw w'
        generalize valueB x.data.toList = n
        have hn : (n != n) = false := by cases n <;> rfl
        go_wp2_with fail
        refine (pseudo_any x w2).mono ?_
        rintro e w' ⟨rfl, hw⟩
        rw [hw]
        clear hw w' hn
        go_wp2_with fail
        refine (refPseudo_any x w2).mono ?_
        rintro e w' ⟨rfl, hw⟩
        rw [hw]
        clear hw w'
        generalize pseudoB x.data.toList = n
        have hn : (n != n) = false := by cases n <;> rfl
        go_wp2
        go_roundg g
        case measure => omega
        case rel => exact ⟨k + 1, by omega, by go_num, ⟨HB.out.trans (b2.mono HB.out.size)⟩⟩

end Go.Proofs.YtnkbnanjbandeaaDoor
