/-
  The walk of DynMany.
-/
import Derived.Test.YtjebemcghikgpaaDnL
namespace Go.Proofs.Ytjebemcghikgpaa
open Go.RowKit Go.Maps
set_option linter.unusedVariables false

theorem sized_of {f : Fd} (h : fsz f ≤ 1000000) : Sized f := by unfold Sized maxLen fsz at *; omega

set_option maxRecDepth 100000 in
set_option maxHeartbeats 2000000 in
theorem dynMany_walk (a : Int) (v : Value) (l : List Fd) (w : World) (ha : (Lit.int .u16 a).wf = true) (hv : Fs w v l) (hs : Small l) :
    Calls Try.prog 4 #[.int .u16 a, v] w fun e w' => e = .returned (.bool true) ∧ Below w.heap.size w w' := by
  obtain ⟨n, rfl, hn⟩ := u16n ha
  have HV := Bx.mk hv
  have HS := Bx.mk hs
  have HN := Bx.mk hn
  have hlen := fun ty W => hv.run_len ty W
  clear ha hv hs hn
  go_enter Try.func4, Try.ntmps4
  go_wp2_with fail
  refine (known_any w).mono ?_
  rintro e w1 ⟨rfl, b1⟩
  have B1 := Bx.mk b1
  clear b1
  by_cases hL : 20 < l.length
  · have hd1 : decide ((20 : Int) < (l.length : Int)) = true := decide_eq_true (by omega)
    have hd2 : decide (20 < l.length) = true := decide_eq_true hL
    go_wp2_with fail
    go_ret
    exact ⟨rfl, B1.out⟩
  · have hd1 : decide ((20 : Int) < (l.length : Int)) = false := decide_eq_false (by omega)
    have hd2 : decide (20 < l.length) = false := decide_eq_false hL
    have HL : Bx (l.length ≤ 20) := ⟨by omega⟩
    clear hL
    go_wp2_with fail
    clear hd1 hd2
    go_loopg [5] l.length (fun g s5 wx => ∃ k : Nat, k + g = l.length ∧ s5 = .int .i64 k ∧ Bx (∀ f ∈ l.take k, fsz f ≤ 200) ∧ Bx (Below w.heap.size w wx))
    case atStart => exact ⟨0, by omega, rfl, ⟨fun f hf => by simp at hf⟩, B1⟩
    case round =>
      clear B1
      obtain ⟨k, hkg, rfl, HP, HB⟩ := hrel
      cases gk with
      | zero =>
        obtain rfl : k = l.length := by omega
        have HZ : Bx (∀ f ∈ l, fsz f ≤ 1000000) := ⟨fun f hf => by have := HP.out f (by rw [List.take_length]; exact hf); omega⟩
        have hwn : IntKind.i64.wrap (n : Int) = (n : Int) := by have := HN.out; simp only [IntKind.wrap_i64]; omega
        clear HP hkg
        go_wp2_with fail
        refine (One.new (n : Int) (by have := HN.out; omega) wr).mono ?_
        rintro e w2 ⟨p, rfl, h2, b2⟩
        have H2 := Bx.mk h2
        have B2 := Bx.mk b2
        clear h2 b2
        go_wp2_with fail
        refine (H2.out.newRef B2.out.size (n : Int) (by have := HN.out; omega)).mono ?_
        rintro e w3 ⟨q, rfl, h3, b3⟩
        have H3 := Bx.mk h3
        have B3 := Bx.mk (B2.out.trans b3)
        clear h3 b3 hwn
        have HTOT : Bx (∀ k, ((Tab.new (n : Int)).adds (l.take k)).tot ≤ 20) := ⟨fun k => by
          have h1 := Tab.adds_tot (l.take k) (Tab.new (n : Int))
          have h2 := HL.out
          simp only [Tab.new, List.length_take] at *
          omega⟩
        go_wp2_with fail
        go_loopg [8, 9] l.length (fun g s8 s9 wx => ∃ k : Nat, k + g = l.length ∧ s9 = .int .i64 k ∧ s8 = .int .i64 ((Tab.new (n : Int)).wents (l.take k) : Int) ∧ Bx ((Tab.new (n : Int)).wents (l.take k) ≤ 31250 * k) ∧ Bx (Two wr.heap.size p q (Tab.new (n : Int)) ((Tab.new (n : Int)).adds (l.take k)) wx) ∧ Bx (Below wr.heap.size wr wx))
        case atStart => exact ⟨0, by omega, rfl, rfl, ⟨Nat.le_refl _⟩, H3, B3⟩
        case round =>
          clear H3 B3 H2 B2
          obtain ⟨k, hkg, rfl, rfl, HW, H4, B4⟩ := hrel
          have HV4 := Bx.mk (HV.out.keep (HB.out.trans (B4.out.mono HB.out.size)))
          cases gk with
          | zero =>
            obtain rfl : k = l.length := by omega
            rw [List.take_length] at H4 HW
            have HTK : Bx ((Tab.new (n : Int)).wents (l.take l.length) = (Tab.new (n : Int)).wents l) := ⟨by rw [List.take_length]⟩
            rw [HTK.out]
            obtain ⟨R, hR⟩ : ∃ R, (Tab.new (n : Int)).wents l = R := ⟨_, rfl⟩
            rw [hR]
            have HR := Bx.mk hR
            clear hR
            go_wp2_with fail
            refine (H4.out.addArg B4.out.size (v := v) (fs := l) (fun W hW => HV.out.keep (HB.out.trans ((B4.out.trans hW).mono HB.out.size))) (by have := HL.out; simp only [Tab.new]; omega) HZ.out).mono ?_
            rintro e w5 ⟨rfl, h5, b5⟩
            rw [HR.out]
            have H5 := Bx.mk h5
            have B5 := Bx.mk (B4.out.trans b5)
            clear h5 b5
            go_wp2_with fail
            refine (alike_any H5.out (⟨#[97]⟩, ⟨#[]⟩) (by unfold Sized maxLen; simp [ByteArray.size]) 3 (by omega)).mono ?_
            rintro e w6 ⟨rfl, b6⟩
            have B6 := Bx.mk (B5.out.trans (b6.mono B5.out.size))
            clear b6
            go_wp2_with fail
            go_ret
            exact ⟨rfl, HB.out.trans (B6.out.mono HB.out.size)⟩
          | succ g =>
            have hk : k < l.length := by omega
            obtain ⟨b, o, hix, hcs⟩ := HV4.out.at_ k hk
            obtain ⟨hc1, hc2⟩ := hcs _ HV4.out
            have HK := Bx.mk hk
            have HAT := Bx.mk (Tab.adds_take l (Tab.new (n : Int)) k hk)
            have HWT := Bx.mk (Tab.wents_take l (Tab.new (n : Int)) k hk)
            have HFZ := Bx.mk (HZ.out l[k] (List.getElem_mem hk))
            have HOK := Bx.mk H4.out
            obtain ⟨f1, hf1⟩ : ∃ f1, l[k].1 = f1 := ⟨_, rfl⟩
            obtain ⟨f2, hf2⟩ : ∃ f2, l[k].2 = f2 := ⟨_, rfl⟩
            rw [hf1] at hc1
            rw [hf2] at hc2
            have hff : l[k] = (f1, f2) := by rw [← hf1, ← hf2]
            rw [hff] at HAT HWT HFZ
            obtain ⟨U, hU⟩ : ∃ U, (Tab.new (n : Int)).adds (l.take k) = U := ⟨_, rfl⟩
            rw [hU] at H4 HAT HWT
            obtain ⟨r, hr⟩ : ∃ r, (Tab.new (n : Int)).wents (l.take k) = r := ⟨_, rfl⟩
            rw [hr] at HW HWT ⊢
            have HTU : Bx (U.tot + 1 ≤ 1000000) := ⟨by have := HTOT.out k; rw [hU] at this; omega⟩
            have hok : U.ok := by obtain ⟨S, S', _, k2, _⟩ := H4.out; exact k2.ok
            obtain ⟨x, hx⟩ : ∃ x, U.went (U.room (f1, f2)) = x := ⟨_, rfl⟩
            have hxb : x ≤ 31250 := by rw [← hx]; exact Tab.went_le hok _
            have HX := Bx.mk hx
            rw [hx] at HWT
            have hk20 : k < 20 := by have := HL.out; omega
            obtain ⟨t, ht⟩ : ∃ t, r + x = t := ⟨_, rfl⟩
            have hwr : IntKind.i64.wrap ((r : Int) + (x : Int)) = (t : Int) := by have := HW.out; simp only [IntKind.wrap_i64]; omega
            rw [ht] at HWT
            have hwt : t ≤ 31250 * (k + 1) := by have := HW.out; omega
            have HWTT := Bx.mk hwt
            clear ht hwt
            clear hcs hf1 hf2 hff hU hr hx hok HOK
            go_wp2_with fail
            refine (H4.out.refAdd B4.out.size (f1, f2) HFZ.out HTU.out).mono ?_
            rintro e w5 ⟨rfl, h5, b5⟩
            rw [HX.out]
            have H5 := Bx.mk h5
            have B5 := Bx.mk (B4.out.trans b5)
            clear h5 b5
            go_wp2_with fail
            go_roundg g
            case measure => omega
            case rel => exact ⟨k + 1, by omega, by go_num, by rw [HWT.out], ⟨by rw [HWT.out]; exact HWTT.out⟩, ⟨by rw [HAT.out]; exact H5.out⟩, B5⟩
      | succ g =>
        have hk : k < l.length := by omega
        have HVW := Bx.mk (HV.out.keep HB.out)
        obtain ⟨b, o, hix, hcs⟩ := HVW.out.at_ k hk
        obtain ⟨hc1, hc2⟩ := hcs _ HVW.out
        have hsm := HS.out l[k] (List.getElem_mem hk)
        have HTK : Bx (l.take (k + 1) = l.take k ++ [l[k]]) := ⟨List.take_succ_eq_append_getElem hk⟩
        obtain ⟨f1, hf1⟩ : ∃ f1, l[k].1 = f1 := ⟨_, rfl⟩
        obtain ⟨f2, hf2⟩ : ∃ f2, l[k].2 = f2 := ⟨_, rfl⟩
        rw [hf1] at hc1 hsm
        rw [hf2] at hc2 hsm
        have hff : l[k] = (f1, f2) := by rw [← hf1, ← hf2]
        rw [hff] at HTK
        obtain ⟨m, hm⟩ : ∃ m, f1.size + f2.size = m := ⟨_, rfl⟩
        have hwm : IntKind.i64.wrap ((f1.size : Int) + (f2.size : Int)) = (m : Int) := by simp only [IntKind.wrap_i64]; omega
        have HM := Bx.mk hm
        have hkz : (k : Int) < (l.length : Int) := by omega
        have hk20 : k < 20 := by have := HL.out; omega
        clear hcs hf1 hf2 hff hm hsm
        by_cases hbig : 200 < m
        · have hd1 : decide ((200 : Int) < (m : Int)) = true := decide_eq_true (by omega)
          have hd2 : decide (200 < m) = true := decide_eq_true hbig
          go_wp2_with fail
          go_region
          go_wp2_with fail
          go_ret
          exact ⟨rfl, HB.out.drew⟩
        · have hd1 : decide ((200 : Int) < (m : Int)) = false := decide_eq_false (by omega)
          have hd2 : decide (200 < m) = false := decide_eq_false hbig
          go_wp2_with fail
          go_region
          go_wp2_with fail
          go_roundg g
          case measure => omega
          case rel => exact ⟨k + 1, by omega, by go_num, ⟨fun f hf => by
              rw [HTK.out] at hf
              rcases List.mem_append.1 hf with h | h
              · exact HP.out f h
              · rw [List.mem_singleton.1 h]
                have := HM.out
                show f1.size + f2.size ≤ 200
                omega⟩, ⟨HB.out.drew⟩⟩

end Go.Proofs.Ytjebemcghikgpaa
