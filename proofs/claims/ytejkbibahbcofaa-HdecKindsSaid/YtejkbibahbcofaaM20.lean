/-
  Texts put together: StE, StF, PdD, PdE, PdF, PdG.
-/
import Derived.Test.YtejkbibahbcofaaM16
import Derived.Test.YtejkbibahbcofaaM11
import Derived.WalkArith
import Derived.Test.YtejkbibahbcofaaM19
import Derived.Test.YtejkbibahbcofaaM15
import Derived.Test.YtejkbibahbcofaaM18

/-
  Contracts of static.entry, the document's At.
-/
namespace Go.Proofs.Ytejkbibahbcofaa
open Go.RowKit
set_option linter.unusedVariables false


set_option maxRecDepth 100000 in
set_option maxHeartbeats 1000000 in
theorem entry_any (v : Value) (l : List Fd) (fr i : Nat) (w : World) (hv : Fs w v l) (hl : l.length ≤ 1000) (hfr : fr ≤ 1) (hi : i < 18446744073709551616) :
    Calls Try.prog 81 #[v, .int .u64 (fr : Int), .int .u64 (i : Int)] w fun e w' => e = .returned (.tuple #[aggF (entF l fr i), .bool (isF l fr i)]) ∧ Below w.heap.size w w' := by
  have HV := Bx.mk hv
  have HL := Bx.mk hl
  have HI := Bx.mk hi
  have hlen := fun ty W => hv.row_len ty W
  obtain ⟨e0, he0⟩ : ∃ e0, entF l fr i = e0 := ⟨_, rfl⟩
  obtain ⟨b0, hb0⟩ : ∃ b0, isF l fr i = b0 := ⟨_, rfl⟩
  rw [he0, hb0]
  have HE0 := Bx.mk he0
  have HB0 := Bx.mk hb0
  have hwl : IntKind.u64.wrap (l.length : Int) = (l.length : Int) := by have := HL.out; simp [IntKind.wrap, IntKind.signed, IntKind.bits]; omega
  clear hv he0 hb0
  by_cases h1 : i < fr
  · obtain rfl : fr = 1 := by omega
    obtain rfl : i = 0 := by omega
    obtain rfl : emp = e0 := by rw [← HE0.out]; unfold entF; rw [dif_neg (by omega)]
    obtain rfl : false = b0 := by rw [← HB0.out]; unfold isF; simp
    clear h1 hi hl hfr
    go_enter Try.func81, Try.ntmps81
    go_wp2
    exact bodyPost_ret (ret_field Try.results81 _ _ w.heap.size emp false rfl rfl (Fb.new _ w emp)) rfl ⟨rfl, (Below.refl _ _).alloc (Nat.le_refl _) _⟩
  · have hd : decide (i < fr) = false := by simp; omega
    have hw : IntKind.u64.wrap ((i : Int) - (fr : Int)) = ((i - fr : Nat) : Int) := by
      have := HI.out
      simp [IntKind.wrap, IntKind.signed, IntKind.bits]; omega
    by_cases h2 : l.length ≤ i - fr
    · have hd2 : decide (l.length ≤ i - fr) = true := by simp; omega
      obtain rfl : emp = e0 := by rw [← HE0.out]; unfold entF; rw [dif_neg (by omega)]
      obtain rfl : false = b0 := by rw [← HB0.out]; unfold isF; simp; omega
      clear h1 h2 hi hl hfr
      go_enter Try.func81, Try.ntmps81
      go_wp2
      exact bodyPost_ret (ret_field Try.results81 _ _ w.heap.size emp false rfl rfl (Fb.new _ w emp)) rfl ⟨rfl, (Below.refl _ _).alloc (Nat.le_refl _) _⟩
    · have hd2 : decide (l.length ≤ i - fr) = false := by simp; omega
      have hlt : i - fr < l.length := by omega
      obtain ⟨f1, hf1⟩ : ∃ f1, l[i - fr].1 = f1 := ⟨_, rfl⟩
      obtain ⟨f2, hf2⟩ : ∃ f2, l[i - fr].2 = f2 := ⟨_, rfl⟩
      obtain rfl : (f1, f2) = e0 := by rw [← HE0.out]; unfold entF; rw [dif_pos ⟨by omega, hlt⟩, ← hf1, ← hf2]
      obtain rfl : true = b0 := by rw [← HB0.out]; unfold isF; simp; omega
      obtain ⟨b, o, hix, hcs⟩ := HV.out.row_at (i - fr) hlt
      have hB := (Below.refl w.heap.size w).alloc (Nat.le_refl _) (.cells #[.string ⟨#[]⟩, .string ⟨#[]⟩] 61)
      obtain ⟨hc1, hc2⟩ := hcs _ (HV.out.keep hB)
      rw [hf1] at hc1
      rw [hf2] at hc2
      clear h1 h2 hi hl hfr hcs hf1 hf2 hB hlt
      go_enter Try.func81, Try.ntmps81
      go_wp2
      exact bodyPost_ret (ret_field Try.results81 _ _ w.heap.size (f1, f2) true rfl rfl (Fb.new _ w (f1, f2))) rfl ⟨rfl, (Below.refl _ _).alloc (Nat.le_refl _) _⟩

end Go.Proofs.Ytejkbibahbcofaa

/-
  Contracts of static.H2, static.H3.
-/
namespace Go.Proofs.Ytejkbibahbcofaa
open Go.RowKit
set_option linter.unusedVariables false

set_option maxRecDepth 100000 in
set_option maxHeartbeats 1000000 in
theorem h2_any (i : Nat) (w : World) (hi : i < 18446744073709551616) :
    Calls Try.prog 79 #[.int .u64 (i : Int)] w fun e w' => e = .returned (.tuple #[aggF (entF T2 1 i), .bool (isF T2 1 i)]) ∧ Below w.heap.size w w' := by
  have HI := Bx.mk hi
  clear hi
  obtain ⟨e0, he0⟩ : ∃ e0, entF T2 1 i = e0 := ⟨_, rfl⟩
  obtain ⟨b0, hb0⟩ : ∃ b0, isF T2 1 i = b0 := ⟨_, rfl⟩
  rw [he0, hb0]
  have HE0 := Bx.mk he0
  have HB0 := Bx.mk hb0
  clear he0 hb0
  obtain ⟨f1, f2⟩ := e0
  have hag : aggF (f1, f2) = .agg #[.string f1, .string f2] := rfl
  go_enter Try.func79, Try.ntmps79
  go_wp2_with fail
  have HF := Bx.mk (Fb.new 61 w emp)
  refine (rows2_any _).mono ?_
  rintro e w2 ⟨v, rfl, hv, hb⟩
  have HF2 := Bx.mk (HF.out.keep hb)
  have HV := Bx.mk hv
  have HB := Bx.mk (((Below.refl w.heap.size w).alloc (Nat.le_refl _) _).trans (hb.mono (by simp)))
  clear hv hb HF
  go_wp2_with fail
  refine (entry_any v T2 1 i _ HV.out (by rw [t2_len]; omega) (by omega) HI.out).mono ?_
  rintro e w3 ⟨rfl, hb⟩
  rw [HE0.out, HB0.out, hag]
  have HF3 := Bx.mk (HF2.out.keep hb)
  have HB3 := Bx.mk (HB.out.trans (hb.mono HB.out.size))
  clear hb HF2 HV HB
  go_wp2_with (with_reducible refine wpList_storeF 61 w.heap.size emp (f1, f2) rfl rfl HF3.out ?_; intro w4 hf4 hg4)
  exact bodyPost_ret (ret_field Try.results79 _ _ w.heap.size (f1, f2) b0 rfl rfl hf4) rfl ⟨rfl, HB3.out.grown hg4 HB3.out.size (fun k hk => by cases hk; exact Nat.le_refl _)⟩

end Go.Proofs.Ytejkbibahbcofaa

/-
  Contracts of the draft's number, text, entry, name.
-/
namespace Go.Proofs.Ytejkbibahbcofaa
open Go.RowKit Go.Maps
set_option linter.unusedVariables false

section
variable {w0 w w' : World} {p t0 mx : Nat} {T0 T : Tab} {o : Bool} {ss : List Nat} {ad out : List Fd} {b : List UInt8}

set_option maxRecDepth 100000 in
set_option maxHeartbeats 1000000 in
theorem number_none (h : Df w0 p t0 T0 mx o T ss ad out b w) (k : Nat) (hk : 1 ≤ k ∧ k ≤ 8) (hl : b.length ≤ 100000) (hn : numP k b = none) :
    Calls Try.prog 63 #[.pointer (some ⟨p, 0, none⟩), .int .i64 (k : Int)] w fun e w' => e = .returned (.tuple #[.int .u64 0, .bool false]) ∧ Below w0.heap.size w0 w' := by
  obtain ⟨rv, tp, fv, sv, av, S, h⟩ := h
  obtain ⟨er, he, hrp⟩ := numP_none hn
  have hcall := readPrefix_any rv b (k : Int) w h.bytes (by omega)
  rw [show bitsOf (k : Int) = k by unfold bitsOf; omega, hrp] at hcall
  unfold Ans3 at hcall
  dsimp only at hcall
  have HCALL := Bx.mk hcall
  have hne : (er == 0) = false := by simpa using he
  obtain ⟨rv', hsl, hbs⟩ := h.bytes.from_ 0 (by omega) (by omega)
  have HD := Bx.mk (h.below 0 rv')
  obtain ⟨c0, _⟩ := h.cells
  have f0 := h.free 0
  obtain ⟨A, nn, cc, rfl⟩ : ∃ A n c, rv' = .slice A n c := by
    obtain ⟨A, c, e, _⟩ := hbs w h.bytes
    exact ⟨_, _, _, e⟩
  clear h hn hrp hcall hbs hk
  go_enter Try.func63, Try.ntmps63
  go_wp2_with (go_at_call 44; refine HCALL.out.mono ?_; rintro e w1 ⟨rfl, rfl⟩)
  go_ret2
  exact ⟨rfl, HD.out⟩

set_option maxRecDepth 100000 in
set_option maxHeartbeats 1000000 in
theorem number_some (h : Df w0 p t0 T0 mx o T ss ad out b w) (k : Nat) (hk : 1 ≤ k ∧ k ≤ 8) (hl : b.length ≤ 100000) {i : Nat} {r : List UInt8} (hn : numP k b = some (i, r)) :
    Calls Try.prog 63 #[.pointer (some ⟨p, 0, none⟩), .int .i64 (k : Int)] w fun e w' => e = .returned (.tuple #[.int .u64 (i : Int), .bool true]) ∧ Df w0 p t0 T0 mx o T ss ad out r w' := by
  obtain ⟨rv, tp, fv, sv, av, S, h⟩ := h
  obtain ⟨m, hrp, hr, hm1, hml, hnv⟩ := numP_some hn
  have hcall := readPrefix_any rv b (k : Int) w h.bytes (by omega)
  rw [show bitsOf (k : Int) = k by unfold bitsOf; omega, hrp] at hcall
  unfold Ans3 at hcall
  dsimp only at hcall
  have HCALL := Bx.mk hcall
  obtain ⟨rv', hsl, hbs⟩ := h.bytes.from_ (m : Int) (by omega) (by omega)
  rw [Int.toNat_natCast, ← hr] at hbs
  have HD := Bx.mk ((h.setRest hbs).df (T0 := T0) (Nat.le_refl _))
  obtain ⟨c0, _⟩ := h.cells
  have f0 := h.free 0
  obtain ⟨A, nn, cc, rfl⟩ : ∃ A n c, rv' = .slice A n c := by
    obtain ⟨A, c, e, _⟩ := hbs w h.bytes
    exact ⟨_, _, _, e⟩
  clear h hn hrp hcall hbs hk hr hm1 hml hnv
  go_enter Try.func63, Try.ntmps63
  go_wp2_with (go_at_call 44; refine HCALL.out.mono ?_; rintro e w1 ⟨rfl, rfl⟩)
  go_ret2
  exact ⟨rfl, HD.out⟩

set_option maxRecDepth 100000 in
set_option maxHeartbeats 1000000 in
theorem text_none (h : Df w0 p t0 T0 mx o T ss ad out b w) (hl : b.length ≤ 100000) (hn : txtP b = none) :
    Calls Try.prog 77 #[.pointer (some ⟨p, 0, none⟩)] w fun e w' => e = .returned (.tuple #[.string ⟨#[]⟩, .bool false]) ∧ Below w0.heap.size w0 w' := by
  obtain ⟨rv, tp, fv, sv, av, S, h⟩ := h
  obtain ⟨er, he, hsb⟩ := txtP_none hn
  have hcall := str_any rv b w h.bytes (by omega)
  rw [hsb] at hcall
  unfold AnsS at hcall
  dsimp only at hcall
  have HCALL := Bx.mk hcall
  have hne : (er == 0) = false := by simpa using he
  obtain ⟨rv', hsl, hbs⟩ := h.bytes.from_ 0 (by omega) (by omega)
  have HP := Bx.mk h
  obtain ⟨c0, _⟩ := h.cells
  obtain ⟨A, nn, cc, rfl⟩ : ∃ A n c, rv' = .slice A n c := by
    obtain ⟨A, c, e, _⟩ := hbs w h.bytes
    exact ⟨_, _, _, e⟩
  clear h hn hsb hcall hbs
  go_enter Try.func77, Try.ntmps77
  go_wp2_with fail
  refine HCALL.out.mono ?_
  rintro e w1 ⟨rfl, hb1⟩
  have HP1 := Bx.mk (HP.out.keep hb1)
  clear hb1 c0
  obtain ⟨c0, _⟩ := HP1.out.cells
  have f0 := HP1.out.free 0
  go_wp2_with fail
  go_ret2
  exact ⟨rfl, HP1.out.below 0 _⟩

set_option maxRecDepth 100000 in
set_option maxHeartbeats 1000000 in
theorem text_some (h : Df w0 p t0 T0 mx o T ss ad out b w) (hl : b.length ≤ 100000) {x : ByteArray} {r : List UInt8} (hn : txtP b = some (x, r)) :
    Calls Try.prog 77 #[.pointer (some ⟨p, 0, none⟩)] w fun e w' => e = .returned (.tuple #[.string x, .bool true]) ∧ Df w0 p t0 T0 mx o T ss ad out r w' := by
  obtain ⟨rv, tp, fv, sv, av, S, h⟩ := h
  obtain ⟨sB, m, hsb, hx, hr, hm1, hml, _⟩ := txtP_some hn
  have hcall := str_any rv b w h.bytes (by omega)
  rw [hsb] at hcall
  unfold AnsS at hcall
  dsimp only at hcall
  rw [← hx] at hcall
  have HCALL := Bx.mk hcall
  obtain ⟨rv', hsl, hbs⟩ := h.bytes.from_ (m : Int) (by omega) (by omega)
  rw [Int.toNat_natCast, ← hr] at hbs
  have HP := Bx.mk h
  have HBS := Bx.mk hbs
  obtain ⟨c0, _⟩ := h.cells
  obtain ⟨A, nn, cc, rfl⟩ : ∃ A n c, rv' = .slice A n c := by
    obtain ⟨A, c, e, _⟩ := hbs w h.bytes
    exact ⟨_, _, _, e⟩
  clear h hn hsb hcall hbs hr hx hm1 hml
  go_enter Try.func77, Try.ntmps77
  go_wp2_with fail
  refine HCALL.out.mono ?_
  rintro e w1 ⟨rfl, hb1⟩
  have HP1 := Bx.mk (HP.out.keep hb1)
  clear hb1 c0
  obtain ⟨c0, _⟩ := HP1.out.cells
  have f0 := HP1.out.free 0
  go_wp2_with fail
  go_ret2
  exact ⟨rfl, (HP1.out.setRest HBS.out).df (Nat.le_refl _)⟩

theorem entN_l {L L' : List Fd} (h : L = L') (i : Nat) : entN L i = entN L' i ∧ isN L i = isN L' i := by subst h; exact ⟨rfl, rfl⟩

set_option maxRecDepth 100000 in
set_option maxHeartbeats 1000000 in
theorem pentry_any (h : Df w0 p t0 T0 mx o T ss ad out b w) (i : Nat) (hi : i ≤ maxVar) :
    Calls Try.prog 75 #[.pointer (some ⟨p, 0, none⟩), .int .u64 (i : Int)] w fun e w' => e = .returned (.tuple #[aggF (idxF T.l i), .bool (idxB T.l i)]) ∧ Below w.heap.size w w' := by
  obtain ⟨rv, tp, fv, sv, av, S, h⟩ := h
  obtain ⟨e0, he0⟩ : ∃ e0, idxF T.l i = e0 := ⟨_, rfl⟩
  obtain ⟨b0, hb0⟩ : ∃ b0, idxB T.l i = b0 := ⟨_, rfl⟩
  rw [he0, hb0]
  have HE0 := Bx.mk he0
  have HB0 := Bx.mk hb0
  have HI : Bx (i < 4611686018427387904) := ⟨by unfold maxVar at hi; omega⟩
  have HB1 := Bx.mk ((Below.refl w.heap.size w).alloc (Nat.le_refl _) (.cells #[.string ⟨#[]⟩, .string ⟨#[]⟩] 61))
  have HF := Bx.mk (Fb.new 61 w emp)
  have HP := Bx.mk (h.keep HB1.out)
  obtain ⟨c0, c1, c2, _⟩ := HP.out.cells
  obtain ⟨C, htb, hcl, _⟩ := HP.out.tb
  have HTB := Bx.mk htb
  obtain ⟨f1, f2⟩ := e0
  have hag : aggF (f1, f2) = .agg #[.string f1, .string f2] := rfl
  clear h hi he0 hb0 htb
  by_cases h1 : i < 62
  · have hd1 : decide ((i : Int) < 62) = true := decide_eq_true (by omega)
    have HEN : Bx (entF T2 1 i = (f1, f2) ∧ isF T2 1 i = b0) := ⟨by
      refine ⟨?_, ?_⟩
      · rw [← HE0.out]; unfold idxF; rw [if_pos h1]
      · rw [← HB0.out]; unfold idxB; rw [if_pos h1]⟩
    clear h1 hcl
    go_enter Try.func75, Try.ntmps75
    go_wp2_with fail
    refine (h2_any i _ (by have := HI.out; omega)).mono ?_
    rintro e w2 ⟨rfl, hb⟩
    rw [HEN.out.1, HEN.out.2, hag]
    have HX3 := Bx.mk (HF.out.keep hb)
    have HB3 := Bx.mk (HB1.out.trans (hb.mono HB1.out.size))
    obtain ⟨e1, e2⟩ := HX3.out.cells
    obtain ⟨ef1, ef2⟩ := HX3.out.free
    have HX4 := Bx.mk (HX3.out.set2 f1 f2)
    clear hb
    go_wp2_with fail
    exact bodyPost_ret (ret_field Try.results75 _ _ w.heap.size (f1, f2) b0 rfl rfl HX4.out) rfl ⟨rfl, below_put2 HB3.out (Nat.le_refl _) HB3.out.size _ _⟩
  · have hd1 : decide ((i : Int) < 62) = false := decide_eq_false (by omega)
    have hw1 : IntKind.u64.wrap ((i : Int) - 62) = ((i - 62 : Nat) : Int) := by have := HI.out; simp [IntKind.wrap, IntKind.signed, IntKind.bits]; omega
    have HEN : Bx (entN C.l (i - 62) = (f1, f2) ∧ isN C.l (i - 62) = b0 ∧ i - 62 < 18446744073709551616) := ⟨by
      have h2 := HI.out
      rw [hcl]
      refine ⟨?_, ?_, by omega⟩
      · rw [← HE0.out]; unfold idxF; rw [if_neg h1]
      · rw [← HB0.out]; unfold idxB; rw [if_neg h1]⟩
    obtain ⟨k, hk⟩ : ∃ k, i - 62 = k := ⟨_, rfl⟩
    rw [hk] at hw1 HEN
    clear h1 hcl hk
    go_enter Try.func75, Try.ntmps75
    go_wp2_with fail
    refine (newest_any HTB.out k HEN.out.2.2).mono ?_
    rintro e w2 ⟨rfl, hb⟩
    rw [HEN.out.1, HEN.out.2.1, hag]
    have HX3 := Bx.mk (HF.out.keep hb)
    have HB3 := Bx.mk (HB1.out.trans (hb.mono HB1.out.size))
    obtain ⟨e1, e2⟩ := HX3.out.cells
    obtain ⟨ef1, ef2⟩ := HX3.out.free
    have HX4 := Bx.mk (HX3.out.set2 f1 f2)
    clear hb
    go_wp2_with fail
    exact bodyPost_ret (ret_field Try.results75 _ _ w.heap.size (f1, f2) b0 rfl rfl HX4.out) rfl ⟨rfl, below_put2 HB3.out (Nat.le_refl _) HB3.out.size _ _⟩
end

end Go.Proofs.Ytejkbibahbcofaa

/-
  Contracts of copied, own.
-/
namespace Go.Proofs.Ytejkbibahbcofaa
open Go.RowKit Go.Maps
set_option linter.unusedVariables false

theorem Tab.add_next (L : List Fd) (cap k : Nat) (hk : k < L.length) (hs : sizeF L ≤ cap) : (⟨L.take k, cap, k⟩ : Tab).add L[k] = ⟨L.take (k + 1), cap, k + 1⟩ := by
  have h1 : sizeF (L.take (k + 1)) ≤ sizeF L := by
    have := sizeF_append (L.take (k + 1)) (L.drop (k + 1))
    rw [List.take_append_drop] at this
    omega
  have h2 : sizeF (L.take (k + 1)) = sizeF (L.take k) + (fsz L[k] + 32) := by
    rw [List.take_succ_eq_append_getElem hk, sizeF_append]
    simp [sizeF]
  unfold Tab.add
  rw [if_pos (show fsz L[k] + 32 ≤ cap by omega)]
  have h3 : fits (Tab.room ⟨L.take k, cap, k⟩ L[k]) (L.take k) = L.take k := fits_all (by unfold Tab.room; simp only; omega)
  simp only [h3]
  rw [List.take_succ_eq_append_getElem hk]

set_option maxRecDepth 100000 in
set_option maxHeartbeats 1000000 in
theorem copied_any {tp : Nat} {C : Tab} {w : World} {S : Nat → Prop} (h : Tb tp C w S) (hg : C.gd) :
    Calls Try.prog 74 #[.pointer (some ⟨tp, 0, none⟩)] w fun e w' => ∃ c S', e = .returned (.pointer (some ⟨c, 0, none⟩)) ∧ Tb c ⟨C.l, C.cap, C.l.length⟩ w' S' ∧ (∀ k, S' k → w.heap.size ≤ k) ∧ Below w.heap.size w w' := by
  have HT := Bx.mk h
  obtain ⟨n, hn⟩ : ∃ n, C.l.length = n := ⟨_, rfl⟩
  have HGD := Bx.mk hg
  have HLEN : Bx (n ≤ 128) := ⟨by have := sizeF_len C.l; have := hg.1; have := hg.2; omega⟩
  rw [hn]
  have HN := Bx.mk hn
  clear h hg hn
  go_enter Try.func74, Try.ntmps74
  go_wp2_with fail
  refine (cap_any HT.out).mono ?_
  rintro e w1 ⟨rfl, hb1⟩
  have HT1 := Bx.mk (HT.out.keep hb1)
  have HB1 := Bx.mk hb1
  clear hb1
  go_wp2_with fail
  refine (new_any (C.cap : Int) _ (by have := HGD.out.1; omega)).mono ?_
  rintro e w2 ⟨c, S2, rfl, h2, hS2, hb2⟩
  have HT2 := Bx.mk (HT1.out.keep hb2)
  have HB2 := Bx.mk (HB1.out.trans (hb2.mono HB1.out.size))
  have HC2 : Bx (Tb c ⟨C.l.take 0, C.cap, 0⟩ w2 S2) := ⟨by
    have : Tab.new (C.cap : Int) = ⟨C.l.take 0, C.cap, 0⟩ := by unfold Tab.new; simp
    rw [← this]; exact h2⟩
  have HS2 : Bx (∀ k, S2 k → w.heap.size ≤ k) := ⟨fun k hk => Nat.le_trans HB1.out.size (hS2 k hk)⟩
  clear h2 hS2 hb2
  go_wp2_with fail
  refine (dlen_any HT2.out).mono ?_
  rintro e w3 ⟨rfl, hb3⟩
  rw [HN.out]
  have HB3 := Bx.mk (HB2.out.trans (hb3.mono HB2.out.size))
  have HC3 := Bx.mk (HC2.out.keep hb3)
  have HLN := HLEN.out
  clear hb3
  go_wp2_with fail
  go_loopg [4] n (fun g s4 wx => ∃ k, k + g = n ∧ s4 = .int .i64 ((g : Int) - 1) ∧ Bx (Below w.heap.size w wx) ∧ Bx (∃ S', Tb c ⟨C.l.take k, C.cap, k⟩ wx S' ∧ ∀ j, S' j → w.heap.size ≤ j))
  case atStart => exact ⟨0, by omega, by simp, HB3, ⟨S2, HC3.out, HS2.out⟩⟩
  case round =>
    obtain ⟨k, hkg, rfl, HB, HC⟩ := hrel
    cases gk with
    | zero =>
      obtain rfl : k = n := by omega
      have hd : ((0 : Nat) : Int) - 1 = -1 := by omega
      rw [hd]
      go_wp2_with fail
      go_ret
      obtain ⟨S', h1, h2⟩ := HC.out
      refine Exists.intro c (Exists.intro S' ⟨rfl, ?_, h2, HB.out⟩)
      rw [show C.l.take k = C.l by rw [← HN.out, List.take_length]] at h1
      exact h1
    | succ g =>
      have hd : ((g + 1 : Nat) : Int) - 1 = (g : Int) := by omega
      rw [hd]
      have hd0 : decide ((0 : Int) ≤ (g : Int)) = true := decide_eq_true (by omega)
      have hwg : IntKind.u64.wrap (g : Int) = (g : Int) := by have := HLEN.out; simp [IntKind.wrap, IntKind.signed, IntKind.bits]; omega
      have hws : IntKind.i64.wrap ((g : Int) - 1) = (g : Int) - 1 := by have := HLEN.out; simp only [IntKind.wrap_i64]; omega
      have hk : k < C.l.length := by rw [HN.out]; omega
      have HE : Bx (entN C.l g = C.l[k]) := ⟨by
        unfold entN
        rw [dif_pos (by have := HN.out; omega)]
        simp only [show C.l.length - 1 - g = k by have := HN.out; omega]⟩
      obtain ⟨f1, hf1⟩ : ∃ f1, C.l[k].1 = f1 := ⟨_, rfl⟩
      obtain ⟨f2, hf2⟩ : ∃ f2, C.l[k].2 = f2 := ⟨_, rfl⟩
      have HF : Bx (C.l[k] = (f1, f2)) := ⟨by rw [← hf1, ← hf2]⟩
      have HNX : Bx ((⟨C.l.take k, C.cap, k⟩ : Tab).add (f1, f2) = ⟨C.l.take (k + 1), C.cap, k + 1⟩) := ⟨by
        rw [← HF.out]; exact Tab.add_next C.l C.cap k hk HGD.out.2⟩
      have HSZ : Bx (fsz (f1, f2) ≤ 4096) := ⟨by
        have h1 := sizeF_mem (List.getElem_mem hk)
        rw [HF.out] at h1
        have := HGD.out.1
        have := HGD.out.2
        omega⟩
      have hag : aggF (f1, f2) = .agg #[.string f1, .string f2] := rfl
      have HTW := Bx.mk (HT.out.keep HB.out)
      have HKN : Bx (k + (g + 1) = n) := ⟨hkg⟩
      clear hf1 hf2 hd
      go_wp2_with fail
      refine (newest_any HTW.out g (by have := HLEN.out; omega)).mono ?_
      rintro e w4 ⟨rfl, hb4⟩
      rw [HE.out, HF.out, hag]
      have HB4 := Bx.mk (HB.out.trans (hb4.mono HB.out.size))
      obtain ⟨S4, hc4, hS4⟩ := HC.out
      have HC4 := Bx.mk (hc4.keep hb4)
      have HS4 := Bx.mk hS4
      have HF4 := Bx.mk (Fb.new 61 w4 (f1, f2))
      obtain ⟨e1, e2⟩ := HF4.out.cells
      clear hb4 hc4 hS4
      go_wp2_with fail
      have hb5 : Below w4.heap.size w4 ((w4.alloc (.cells #[.string f1, .string f2] 61)).alloc (.cells #[.string f1, .string f2] 61)) := ((Below.refl w4.heap.size w4).alloc (Nat.le_refl _) _).alloc (by simp) _
      refine (add_any (T := ⟨C.l.take k, C.cap, k⟩) (HC4.out.keep hb5) (Fs.one (w4.alloc (.cells #[.string f1, .string f2] 61)) (w4.heap.size + 1) (by simp) (f1, f2)) (fun g hg => ?_) (by have := HLEN.out; have := HKN.out; simp; omega) (by intro f hf; simp at hf; subst hf; have := HSZ.out; omega)).mono ?_
      · simp only [Value.ownBlock, Option.some.injEq] at hg
        subst hg
        exact ⟨by simp, fun hs => by have := HC4.out.lt _ hs; omega⟩
      · rintro e w5 ⟨rfl, ht5⟩
        have ht6 : Turn (Tb c ⟨C.l.take (k + 1), C.cap, k + 1⟩) S4 ((w4.alloc (.cells #[.string f1, .string f2] 61)).alloc (.cells #[.string f1, .string f2] 61)) w5 := by
          have := ht5
          simp only [Tab.adds] at this
          rw [HNX.out] at this
          exact this
        obtain ⟨S6, x6, s6, f6⟩ := ht6
        have hb6 := hb5.size
        have HC6 : Bx (∃ S', Tb c ⟨C.l.take (k + 1), C.cap, k + 1⟩ w5 S' ∧ ∀ j, S' j → w.heap.size ≤ j) := ⟨S6, x6, fun j hj => by
          rcases s6 j hj with h | h
          · exact HS4.out j h
          · have := HB4.out.size; omega⟩
        have HB6 : Bx (Below w.heap.size w w5) := ⟨(HB4.out.trans (hb5.mono HB4.out.size)).trans (f6.below (Nat.le_trans HB4.out.size hb6) HS4.out)⟩
        clear ht5 x6 s6 f6 hb6 hb5
        go_wp2_with fail
        go_roundg g
        case measure => omega
        case rel => exact ⟨k + 1, by omega, rfl, HB6, HC6⟩

/-- Whether the draft's table is its own. -/
def owned (ss : List Nat) (ad : List Fd) : Bool := decide (ss ≠ [] ∨ ad ≠ [])

section
variable {w0 w w' : World} {p t0 nt mx : Nat} {T : Tab} {ss : List Nat} {ad out : List Fd} {b : List UInt8}
set_option maxRecDepth 100000 in
set_option maxHeartbeats 1000000 in
theorem own_any {rv fv sv av : Value} {tp : Nat} {S : Nat → Prop} (h : Dp w0 p t0 nt mx (owned ss ad) T ss ad out b rv tp fv sv av S w) (hnt : 128 ≤ nt) (hg : T.gd) (h2 : ss.length ≤ 2) (h3 : ad.length ≤ 64) :
    Calls Try.prog 64 #[.pointer (some ⟨p, 0, none⟩)] w fun e w' => ∃ tp' S', e = .returned (.pointer (some ⟨tp', 0, none⟩)) ∧ Dp w0 p t0 nt mx true T ss ad out b rv tp' fv sv av S' w' ∧ (∀ k, S' k → S k ∨ w.heap.size ≤ k) ∧ Fp (fun k => k = p) w w' := by
  have HP := Bx.mk h
  obtain ⟨c0, c1, c2, c3, c4, c5⟩ := h.cells
  have f2 := h.free 2
  have hlens := fun ty W => h.n.run_len ty W
  have hlena := fun ty W => h.a.fs.run_len ty W
  obtain ⟨ns, hns⟩ : ∃ ns, ss.length = ns := ⟨_, rfl⟩
  obtain ⟨na, hna⟩ : ∃ na, ad.length = na := ⟨_, rfl⟩
  rw [hns] at hlens h2
  rw [hna] at hlena h3
  have HNS := Bx.mk hns
  have HNA := Bx.mk hna
  have HGD := Bx.mk hg
  have HNT := Bx.mk hnt
  clear h hg hnt hns hna
  by_cases hz : ns = 0 ∧ na = 0
  · obtain ⟨rfl, rfl⟩ := hz
    have HSS : Bx (ss = []) := ⟨List.eq_nil_of_length_eq_zero HNS.out⟩
    have HAD : Bx (ad = []) := ⟨List.eq_nil_of_length_eq_zero HNA.out⟩
    obtain ⟨C, htb, hcl, hcc, _⟩ := HP.out.tb
    have HTB := Bx.mk htb
    have HCC : Bx (C.l = T.l ∧ C.cap = T.cap) := ⟨hcl, hcc⟩
    have HCG : Bx C.gd := ⟨by unfold Tab.gd; rw [hcl, hcc]; exact HGD.out⟩
    clear htb hcl hcc
    go_enter Try.func64, Try.ntmps64
    go_wp2_with fail
    refine (copied_any HTB.out HCG.out).mono ?_
    rintro e w1 ⟨c, S1, rfl, hc, hS1, hb1⟩
    have hlen : C.l.length ≤ 128 := by have := sizeF_len C.l; have := HCG.out.1; have := HCG.out.2; omega
    have HP2 := Bx.mk (HP.out.setT hb1 hc hS1 HCC.out.1 HCC.out.2 (by have := HNT.out; simp only; omega))
    have HP1 := Bx.mk (HP.out.keep hb1)
    have HS1 := Bx.mk hS1
    have HF1 : Bx (Fp (fun k => k = p) w (w1.setCell ⟨p, 2, none⟩ (.pointer (some ⟨c, 0, none⟩)))) := ⟨(Fp.of_below hb1).then (Fp.set _ _ _ _ rfl)⟩
    clear hc hS1 hb1 c0 c1 c2 c3 c4 c5 f2
    obtain ⟨c0, c1, c2, c3, c4, c5⟩ := HP1.out.cells
    have f2 := HP1.out.free 2
    go_wp2_with fail
    go_ret
    exact ⟨_, _, rfl, HP2.out, fun k hk => .inr (HS1.out k hk), HF1.out⟩
  · have ho : owned ss ad = true := by
      unfold owned
      rw [decide_eq_true_iff]
      by_cases h : ss = []
      · refine .inr fun h' => hz ⟨?_, ?_⟩
        · rw [← HNS.out, h]; rfl
        · rw [← HNA.out, h']; rfl
      · exact .inl h
    rw [ho] at HP
    clear ho
    by_cases hs : ns = 0
    · have hd1 : ((ns : Int) == 0) = true := by simp; omega
      have hd2 : ((na : Int) == 0) = false := by simp; omega
      subst hs
      have hna0 : ¬ na = 0 := by omega
      clear hz
      go_enter Try.func64, Try.ntmps64
      go_wp2_with fail
      go_ret
      exact ⟨_, _, rfl, HP.out, fun k hk => .inl hk, Fp.refl _ _⟩
    · have hd1 : ((ns : Int) == 0) = false := by simp; omega
      clear hz
      go_enter Try.func64, Try.ntmps64
      go_wp2_with fail
      go_ret
      exact ⟨_, _, rfl, HP.out, fun k hk => .inl hk, Fp.refl _ _⟩
end

end Go.Proofs.Ytejkbibahbcofaa

/-
  Contracts of the draft's name, update, indexed.
-/
namespace Go.Proofs.Ytejkbibahbcofaa
open Go.RowKit Go.Maps
set_option linter.unusedVariables false

section
variable {w0 w w' : World} {p t0 mx : Nat} {T0 T : Tab} {o : Bool} {ss : List Nat} {ad out : List Fd} {b : List UInt8}

theorem Df.bel (h : Df w0 p t0 T0 mx o T ss ad out b w) : Below w0.heap.size w0 w := by
  obtain ⟨_, _, _, _, _, _, h⟩ := h
  exact h.bel
theorem Df.belk (h : Df w0 p t0 T0 mx o T ss ad out b w) (hb : Below w.heap.size w w') : Below w0.heap.size w0 w' := h.bel.trans (hb.mono h.bel.size)

set_option maxRecDepth 100000 in
set_option maxHeartbeats 1000000 in
theorem name_none (h : Df w0 p t0 T0 mx o T ss ad out b w) (k : Nat) (hk : 1 ≤ k ∧ k ≤ 8) (hl : b.length ≤ 100000) (hn : nameP k T.l b = none) :
    Calls Try.prog 76 #[.pointer (some ⟨p, 0, none⟩), .int .i64 (k : Int)] w fun e w' => ∃ x, e = .returned (.tuple #[.string x, .bool false]) ∧ Below w0.heap.size w0 w' := by
  have HP := Bx.mk h
  have HL := Bx.mk hl
  have HK := Bx.mk hk
  unfold nameP at hn
  clear h hl hk
  cases hnum : numP k b with
  | none =>
    clear hn
    go_enter Try.func76, Try.ntmps76
    go_wp2_with fail
    refine (number_none HP.out k HK.out HL.out hnum).mono ?_
    rintro e w1 ⟨rfl, hb1⟩
    go_wp2_with fail
    go_ret2
    exact ⟨_, rfl, hb1⟩
  | some pr =>
    obtain ⟨i, r⟩ := pr
    rw [hnum] at hn
    simp only at hn
    obtain ⟨m, _, hr, hm1, hml, hiv⟩ := numP_some hnum
    have HNUM := Bx.mk hnum
    have HLR : Bx (r.length ≤ 100000) := ⟨by rw [hr, List.length_drop]; have := HL.out; omega⟩
    have HIV := Bx.mk hiv
    clear hnum hr hm1 hml hiv
    by_cases hi : i = 0
    · subst hi
      rw [if_pos rfl] at hn
      have HN := Bx.mk hn
      clear hn
      go_enter Try.func76, Try.ntmps76
      go_wp2_with fail
      refine (number_some HP.out k HK.out HL.out HNUM.out).mono ?_
      rintro e w1 ⟨rfl, h1⟩
      go_wp2_with fail
      refine (text_none h1 HLR.out HN.out).mono ?_
      rintro e w2 ⟨rfl, hb2⟩
      go_wp2_with fail
      go_ret2
      exact ⟨_, rfl, hb2⟩
    · rw [if_neg hi] at hn
      have hib : idxB T.l i = false := by
        cases hb : idxB T.l i with
        | false => rfl
        | true => rw [if_pos hb] at hn; cases hn
      have HIB := Bx.mk hib
      obtain ⟨f, hf⟩ : ∃ f, idxF T.l i = f := ⟨_, rfl⟩
      obtain ⟨f1, f2⟩ := f
      have HF := Bx.mk hf
      have hz : ((i : Int) == 0) = false := by simp; omega
      clear hn hib hf
      go_enter Try.func76, Try.ntmps76
      go_wp2_with fail
      refine (number_some HP.out k HK.out HL.out HNUM.out).mono ?_
      rintro e w1 ⟨rfl, h1⟩
      go_wp2_with fail
      refine (pentry_any h1 i HIV.out).mono ?_
      rintro e w2 ⟨rfl, hb2⟩
      rw [HF.out, HIB.out, show aggF (f1, f2) = .agg #[.string f1, .string f2] from rfl]
      have HF2 := Bx.mk (Fb.new 61 w2 (f1, f2))
      obtain ⟨e1, e2⟩ := HF2.out.cells
      have HB3 := Bx.mk ((h1.keep hb2).belk ((Below.refl w2.heap.size w2).alloc (Nat.le_refl _) (.cells #[.string f1, .string f2] 61)))
      clear h1 hb2
      go_wp2_with fail
      go_ret2
      exact ⟨_, rfl, HB3.out⟩

set_option maxRecDepth 100000 in
set_option maxHeartbeats 1000000 in
theorem name_some (h : Df w0 p t0 T0 mx o T ss ad out b w) (k : Nat) (hk : 1 ≤ k ∧ k ≤ 8) (hl : b.length ≤ 100000) {x : ByteArray} {r' : List UInt8} (hn : nameP k T.l b = some (x, r')) :
    Calls Try.prog 76 #[.pointer (some ⟨p, 0, none⟩), .int .i64 (k : Int)] w fun e w' => e = .returned (.tuple #[.string x, .bool true]) ∧ Df w0 p t0 T0 mx o T ss ad out r' w' := by
  have HP := Bx.mk h
  have HL := Bx.mk hl
  have HK := Bx.mk hk
  unfold nameP at hn
  clear h hl hk
  cases hnum : numP k b with
  | none => rw [hnum] at hn; cases hn
  | some pr =>
    obtain ⟨i, r⟩ := pr
    rw [hnum] at hn
    simp only at hn
    obtain ⟨m, _, hr, hm1, hml, hiv⟩ := numP_some hnum
    have HNUM := Bx.mk hnum
    have HLR : Bx (r.length ≤ 100000) := ⟨by rw [hr, List.length_drop]; have := HL.out; omega⟩
    have HIV := Bx.mk hiv
    clear hnum hr hm1 hml hiv
    by_cases hi : i = 0
    · subst hi
      rw [if_pos rfl] at hn
      have HN := Bx.mk hn
      clear hn
      go_enter Try.func76, Try.ntmps76
      go_wp2_with fail
      refine (number_some HP.out k HK.out HL.out HNUM.out).mono ?_
      rintro e w1 ⟨rfl, h1⟩
      go_wp2_with fail
      refine (text_some h1 HLR.out HN.out).mono ?_
      rintro e w2 ⟨rfl, h2⟩
      go_wp2_with fail
      go_ret2
      exact ⟨rfl, h2⟩
    · rw [if_neg hi] at hn
      have hib : idxB T.l i = true := by
        cases hb : idxB T.l i with
        | true => rfl
        | false => rw [if_neg (by rw [hb]; simp)] at hn; cases hn
      rw [if_pos hib] at hn
      simp only [Option.some.injEq, Prod.mk.injEq] at hn
      obtain ⟨hx, hr'⟩ := hn
      subst hr'
      obtain ⟨f, hf⟩ : ∃ f, idxF T.l i = f := ⟨_, rfl⟩
      obtain ⟨f1, f2⟩ := f
      rw [hf] at hx
      simp only at hx
      subst hx
      have HIB := Bx.mk hib
      have HF := Bx.mk hf
      have hz : ((i : Int) == 0) = false := by simp; omega
      clear hib hf
      go_enter Try.func76, Try.ntmps76
      go_wp2_with fail
      refine (number_some HP.out k HK.out HL.out HNUM.out).mono ?_
      rintro e w1 ⟨rfl, h1⟩
      go_wp2_with fail
      refine (pentry_any h1 i HIV.out).mono ?_
      rintro e w2 ⟨rfl, hb2⟩
      rw [HF.out, HIB.out, show aggF (f1, f2) = .agg #[.string f1, .string f2] from rfl]
      have HF2 := Bx.mk (Fb.new 61 w2 (f1, f2))
      obtain ⟨e1, e2⟩ := HF2.out.cells
      have HP3 := Bx.mk ((h1.keep hb2).keep ((Below.refl w2.heap.size w2).alloc (Nat.le_refl _) (.cells #[.string f1, .string f2] 61)))
      clear h1 hb2
      go_wp2_with fail
      go_ret2
      exact ⟨rfl, HP3.out⟩

set_option maxRecDepth 100000 in
set_option maxHeartbeats 1000000 in
theorem update_none (h : Df w0 p t0 T0 mx (owned ss ad) T ss ad out b w) (hl : b.length ≤ 100000) (hi : Ls.inv mx T0 ⟨T, ss, ad, out, b⟩) (ho : out = []) (hmx : mx ≤ 4096) (hn : upStep mx ⟨T, ss, ad, out, b⟩ = none) :
    Calls Try.prog 50 #[.pointer (some ⟨p, 0, none⟩)] w fun e w' => e = .returned (.bool false) ∧ Below w0.heap.size w0 w' := by
  have HP := Bx.mk h
  have HL := Bx.mk hl
  have h2 := hi.two
  simp only at h2
  have hwm : IntKind.u64.wrap (mx : Int) = (mx : Int) := by simp [IntKind.wrap, IntKind.signed, IntKind.bits]; omega
  unfold upStep at hn
  simp only at hn
  clear h hl
  cases hnum : numP 5 b with
  | none =>
    have HNUM := Bx.mk hnum
    clear hn hnum
    go_enter Try.func50, Try.ntmps50
    go_wp2_with fail
    refine (number_none HP.out 5 (by omega) HL.out HNUM.out).mono ?_
    rintro e w1 ⟨rfl, hb1⟩
    have HB1 := Bx.mk hb1
    clear hb1
    go_wp2_with fail
    go_ret
    exact ⟨rfl, HB1.out⟩
  | some pr =>
    obtain ⟨n, r⟩ := pr
    rw [hnum] at hn
    simp only at hn
    have hc : mx < n ∨ 2 ≤ ss.length := by
      refine Decidable.byContradiction fun hc => ?_
      rw [if_neg (fun h => by rcases h with h | h | h; exact hc (.inl h); exact h ho; exact hc (.inr h))] at hn
      cases hn
    have HNUM := Bx.mk hnum
    obtain ⟨ns, hns⟩ : ∃ ns, ss.length = ns := ⟨_, rfl⟩
    rw [hns] at h2 hc
    have HNS := Bx.mk hns
    clear hn hnum hns
    by_cases h1 : mx < n
    · have hd : decide ((mx : Int) < (n : Int)) = true := decide_eq_true (by omega)
      clear hc
      go_enter Try.func50, Try.ntmps50
      go_wp2_with fail
      refine (number_some HP.out 5 (by omega) HL.out HNUM.out).mono ?_
      rintro e w1 ⟨rfl, hd1⟩
      obtain ⟨rv, tp, fv, sv, av, S, hd1⟩ := hd1
      have HD1 := Bx.mk hd1
      obtain ⟨c0, c1, c2, c3, c4, c5⟩ := hd1.cells
      clear hd1
      go_wp2_with fail
      go_ret
      exact ⟨rfl, HD1.out.bel⟩
    · have hd : decide ((mx : Int) < (n : Int)) = false := decide_eq_false (by omega)
      obtain rfl : ns = 2 := by omega
      clear hc
      go_enter Try.func50, Try.ntmps50
      go_wp2_with fail
      refine (number_some HP.out 5 (by omega) HL.out HNUM.out).mono ?_
      rintro e w1 ⟨rfl, hd1⟩
      obtain ⟨rv, tp, fv, sv, av, S, hd1⟩ := hd1
      have HD1 := Bx.mk hd1
      obtain ⟨c0, c1, c2, c3, c4, c5⟩ := hd1.cells
      have hlens := fun ty W => hd1.n.run_len ty W
      rw [HNS.out] at hlens
      clear hd1
      go_wp2_with fail
      go_ret
      exact ⟨rfl, HD1.out.bel⟩

theorem owned_snoc (ss : List Nat) (ad : List Fd) (n : Nat) : owned (ss ++ [n]) ad = true := by
  unfold owned; rw [decide_eq_true_iff]; exact .inl (by simp)
theorem owned_more (ss : List Nat) (ad : List Fd) (f : Fd) : owned ss (ad ++ [f]) = true := by
  unfold owned; rw [decide_eq_true_iff]; exact .inr (by simp)

set_option maxRecDepth 100000 in
set_option maxHeartbeats 1000000 in
theorem update_some (h : Df w0 p t0 T0 mx (owned ss ad) T ss ad out b w) (hl : b.length ≤ 100000) (hi : Ls.inv mx T0 ⟨T, ss, ad, out, b⟩) (hmx : mx ≤ 4096) {s' : Ls} (hn : upStep mx ⟨T, ss, ad, out, b⟩ = some s') :
    Calls Try.prog 50 #[.pointer (some ⟨p, 0, none⟩)] w fun e w' => e = .returned (.bool true) ∧ Df w0 p t0 T0 mx (owned s'.ss s'.ad) s'.T s'.ss s'.ad s'.out s'.b w' := by
  have HP := Bx.mk h
  have HL := Bx.mk hl
  obtain ⟨n, r, hnum, h1, h2, h3, rfl⟩ := upStep_some hn
  simp only at hnum h2 h3
  have hal : ad.length ≤ 64 := by have h1 := hi.adds; have h2 := hi.outs; simp only at h1 h2; omega
  have HINV := Bx.mk hi
  have HNUM := Bx.mk hnum
  have hwm : IntKind.u64.wrap (mx : Int) = (mx : Int) := by simp [IntKind.wrap, IntKind.signed, IntKind.bits]; omega
  have hwn : IntKind.i64.wrap (n : Int) = (n : Int) := by simp only [IntKind.wrap_i64]; omega
  have hd : decide ((mx : Int) < (n : Int)) = false := decide_eq_false (by omega)
  obtain ⟨ns, hns⟩ : ∃ ns, ss.length = ns := ⟨_, rfl⟩
  rw [hns] at h3
  have HNS := Bx.mk hns
  have hd2 : ((ns : Int) == 2) = false := by simp; omega
  have HNM : Bx (n ≤ 4096) := ⟨by omega⟩
  have HAL := Bx.mk hal
  have hns2 : ¬ ns = 2 := by omega
  have HNB : Bx (ns < 2) := ⟨h3⟩
  have hd' : decide (mx < n) = false := decide_eq_false (by omega)
  simp only [owned_snoc]
  clear h hl hi hn hnum hns h2 h3 hal hmx
  go_enter Try.func50, Try.ntmps50
  go_wp2_with fail
  refine (number_some HP.out 5 (by omega) HL.out HNUM.out).mono ?_
  rintro e w1 ⟨rfl, hd1⟩
  obtain ⟨rv, tp, fv, sv2, av, S, hd1⟩ := hd1
  have HD1 := Bx.mk hd1
  obtain ⟨c0, c1, c2, c3, c4, c5⟩ := hd1.cells
  have hlens := fun ty W => hd1.n.run_len ty W
  rw [HNS.out] at hlens
  clear hd1
  go_wp2_with fail
  refine (own_any HD1.out (by omega) HINV.out.gd HINV.out.two HAL.out).mono ?_
  rintro e w2 ⟨tp2, S2, rfl, hd2', _, _⟩
  have HD2 := Bx.mk hd2'
  obtain ⟨C, htb, hcl, hcc, hct⟩ := hd2'.tb
  have HTB := Bx.mk htb
  have HC : Bx (C.l = T.l ∧ C.cap = T.cap ∧ C.tot ≤ T0.tot + 200 + out.length) := ⟨hcl, hcc, hct⟩
  clear hd2' htb hcl hcc hct hlens c0 c1 c2 c3 c4 c5
  go_wp2_with fail
  refine (resize_any HTB.out (n : Int) (by have := HNM.out; omega)).mono ?_
  rintro e w3 ⟨rfl, ht3⟩
  obtain ⟨S3, hd3, _⟩ := HD2.out.turned (T' := T.resize (n : Int)) ht3 (by unfold Tab.resize; simp only; rw [HC.out.1]) rfl HC.out.2.2
  have HD3 := Bx.mk hd3
  obtain ⟨c0, c1, c2, c3, c4, c5⟩ := hd3.cells
  have f4 := hd3.free 4
  have hb4 := (Below.refl w3.heap.size w3).alloc (Nat.le_refl _) (.cells #[.int .i64 (n : Int)] 3)
  have hd4 := hd3.keep hb4
  have hrd : Rd (w3.alloc (.cells #[.int .i64 (n : Int)] 3)) (.slice (some ⟨w3.heap.size, 0, none⟩) 1 1) [iv n] := Rd.lit w3 3 #[.int .i64 (n : Int)] 1 rfl (by simp [maxLen])
  obtain ⟨v', w5, hrun, r1, r2, r3⟩ := hd4.n.append hrd (by rw [HNS.out]; have := HNB.out; omega) 59
  have HD5 := Bx.mk (hd4.setN r1 r2 r3)
  obtain ⟨A, nA, cA, rfl⟩ : ∃ A n c, v' = .slice A n c := by
    rcases r1 with ⟨rfl, _⟩ | ⟨g, cap, m, F, rfl, _⟩
    · exact ⟨_, _, _, rfl⟩
    · exact ⟨_, _, _, rfl⟩
  have hpn : some p ≠ sv2.ownBlock := fun e => (hd4.nb p e.symm).2.1 rfl
  have hr5 := hd4.row.of_block (r2.block p hd4.row.lt hpn)
  have k4 : w5.cell? ⟨p, 4, none⟩ = some sv2 := hr5.cell (i := 4) (by omega)
  have kf4 : w5.frozen? ⟨p, 4, none⟩ = false := hr5.frozen 4
  clear ht3 hd3 hb4 hd4 hrd r1 r2 r3 hpn hr5
  go_wp2_with (at_builtin; refine wpList_append_run rfl _ _ 59 rfl _ _ rfl rfl hrun ?_)
  go_ret
  exact ⟨rfl, HD5.out.df (Nat.le_refl _)⟩
end

end Go.Proofs.Ytejkbibahbcofaa

/-
  Contracts of the draft's indexed, literal, field.
-/
namespace Go.Proofs.Ytejkbibahbcofaa
open Go.RowKit Go.Maps
set_option linter.unusedVariables false

theorem St.shaped {w : World} {v : Value} {L : List Fd} (h : St w v L) : ∃ A n c, v = .slice A n c := by
  rcases h with ⟨rfl, _⟩ | ⟨g, o, cap, m, F, rfl, _⟩
  · exact ⟨_, _, _, rfl⟩
  · exact ⟨_, _, _, rfl⟩

section
variable {w0 w w' : World} {p t0 nt mx : Nat} {T0 T : Tab} {o : Bool} {ss : List Nat} {ad out : List Fd} {b : List UInt8} {rv fv sv av : Value} {tp : Nat} {S : Nat → Prop}

theorem Dp.pushF (h : Dp w0 p t0 nt mx o T ss ad out b rv tp fv sv av S w) (hl : out.length ≤ 64) (f : Fd) :
    ∃ A n c w', (Builtin.append_ #[36, 36] 36 #[fv, .slice (some ⟨w.heap.size, 0, none⟩) 1 1]).run Try.prog (w.alloc (.cells #[.string f.1, .string f.2] 61)) = .ok (.slice A n c) w' ∧
      w'.cell? ⟨p, 3, none⟩ = some fv ∧ w'.frozen? ⟨p, 3, none⟩ = false ∧ Dp w0 p t0 nt mx o T ss ad (out ++ [f]) b rv tp (.slice A n c) sv av S (w'.setCell ⟨p, 3, none⟩ (.slice A n c)) ∧
      ∀ g f', Fb 61 w g f' → fv.ownBlock ≠ some g → g ≠ p → Fb 61 (w'.setCell ⟨p, 3, none⟩ (.slice A n c)) g f' := by
  have hb := (Below.refl w.heap.size w).alloc (Nat.le_refl _) (.cells #[.string f.1, .string f.2] 61)
  have h4 := h.keep hb
  obtain ⟨v', w5, hrun, r1, r2, r3, _⟩ := h4.f.append (Fs.one w w.heap.size rfl f) (by omega) 36
  have h5 := h4.setF r1 r2 r3
  obtain ⟨A, n, c, rfl⟩ := r1.shaped
  have hpn : some p ≠ fv.ownBlock := fun e => (h4.fb p e.symm).2.1 rfl
  have hr5 := h4.row.of_block (r2.block p h4.row.lt hpn)
  exact ⟨A, n, c, w5, hrun, hr5.cell (i := 3) (by omega), hr5.frozen 3, h5, fun g f' hf h1 h2 => ((hf.alloc _).grown r2 (fun e => h1 e.symm)).grown (grown_set w5 p 3 _) (fun e => h2 (Option.some.inj e))⟩
theorem Dp.pushA (h : Dp w0 p t0 nt mx o T ss ad out b rv tp fv sv av S w) (hl : ad.length ≤ 64) (f : Fd) :
    ∃ A n c w', (Builtin.append_ #[36, 36] 36 #[av, .slice (some ⟨w.heap.size, 0, none⟩) 1 1]).run Try.prog (w.alloc (.cells #[.string f.1, .string f.2] 61)) = .ok (.slice A n c) w' ∧
      w'.cell? ⟨p, 5, none⟩ = some av ∧ w'.frozen? ⟨p, 5, none⟩ = false ∧ Dp w0 p t0 nt mx o T ss (ad ++ [f]) out b rv tp fv sv (.slice A n c) S (w'.setCell ⟨p, 5, none⟩ (.slice A n c)) := by
  have hb := (Below.refl w.heap.size w).alloc (Nat.le_refl _) (.cells #[.string f.1, .string f.2] 61)
  have h4 := h.keep hb
  obtain ⟨v', w5, hrun, r1, r2, r3, _⟩ := h4.a.append (Fs.one w w.heap.size rfl f) (by omega) 36
  have h5 := h4.setA r1 r2 r3
  obtain ⟨A, n, c, rfl⟩ := r1.shaped
  have hpn : some p ≠ av.ownBlock := fun e => (h4.ab p e.symm).2.1 rfl
  have hr5 := h4.row.of_block (r2.block p h4.row.lt hpn)
  exact ⟨A, n, c, w5, hrun, hr5.cell (i := 5) (by omega), hr5.frozen 5, h5⟩

set_option maxRecDepth 100000 in
set_option maxHeartbeats 1000000 in
theorem indexed_num (h : Df w0 p t0 T0 mx o T ss ad out b w) (hl : b.length ≤ 100000) (hn : numP 7 b = none) :
    Calls Try.prog 65 #[.pointer (some ⟨p, 0, none⟩)] w fun e w' => e = .returned (.bool false) ∧ Below w0.heap.size w0 w' := by
  have HP := Bx.mk h
  have HL := Bx.mk hl
  have HN := Bx.mk hn
  clear h hl hn
  go_enter Try.func65, Try.ntmps65
  go_wp2_with fail
  refine (number_none HP.out 7 (by omega) HL.out HN.out).mono ?_
  rintro e w1 ⟨rfl, hb1⟩
  have HB1 := Bx.mk hb1
  clear hb1
  go_wp2_with fail
  go_ret
  exact ⟨rfl, HB1.out⟩

set_option maxRecDepth 100000 in
set_option maxHeartbeats 1000000 in
theorem indexed_any (h : Df w0 p t0 T0 mx o T ss ad out b w) (hl : b.length ≤ 100000) (ho : out.length < 64) {i : Nat} {r : List UInt8} (hn : numP 7 b = some (i, r)) :
    Calls Try.prog 65 #[.pointer (some ⟨p, 0, none⟩)] w fun e w' => e = .returned (.bool (idxB T.l i)) ∧ Df w0 p t0 T0 mx o T ss ad (out ++ [idxF T.l i]) r w' := by
  have HP := Bx.mk h
  have HL := Bx.mk hl
  have HN := Bx.mk hn
  have HO := Bx.mk ho
  obtain ⟨m, _, hr, hm1, hml, hiv⟩ := numP_some hn
  have HIV := Bx.mk hiv
  obtain ⟨f, hf⟩ : ∃ f, idxF T.l i = f := ⟨_, rfl⟩
  obtain ⟨f1, f2⟩ := f
  have HF := Bx.mk hf
  obtain ⟨bo, hbo⟩ : ∃ bo, idxB T.l i = bo := ⟨_, rfl⟩
  have HBO := Bx.mk hbo
  rw [hf, hbo]
  clear h hl hn ho hr hm1 hml hiv hf hbo
  go_enter Try.func65, Try.ntmps65
  go_wp2_with fail
  refine (number_some HP.out 7 (by omega) HL.out HN.out).mono ?_
  rintro e w1 ⟨rfl, h1⟩
  go_wp2_with fail
  refine (pentry_any h1 i HIV.out).mono ?_
  rintro e w2 ⟨rfl, hb2⟩
  rw [HF.out, HBO.out, show aggF (f1, f2) = .agg #[.string f1, .string f2] from rfl]
  have HQ := Bx.mk ((h1.keep hb2).keep ((Below.refl w2.heap.size w2).alloc (Nat.le_refl _) (.cells #[.string f1, .string f2] 61)))
  have HFQ := Bx.mk (Fb.new 61 w2 (f1, f2))
  clear h1 hb2
  go_wp2_with fail
  generalize w2.alloc (.cells #[.string f1, .string f2] 61) = wq at HQ HFQ ⊢
  generalize w2.heap.size = G at HFQ ⊢
  obtain ⟨rv, tp, fv, sv, av, S, h3⟩ := HQ.out.keep (Below.refl _ _).drew
  obtain ⟨A, nA, cA, w5, hrun, k3, kf3, hd, _⟩ := h3.pushF (by have := HO.out; omega) (f1, f2)
  have HD := Bx.mk hd
  obtain ⟨d0, d1, d2, d3, d4, d5⟩ := h3.cells
  have hd3 : (wq.alloc (.cells #[.string f1, .string f2] 61)).drew.cell? ⟨p, 3, none⟩ = some fv := (h3.keep ((Below.refl _ _).alloc (Nat.le_refl _) (.cells #[.string f1, .string f2] 61))).cells.2.2.2.1
  obtain ⟨e1, e2⟩ := (HFQ.out.keep (Below.refl _ _).drew).cells
  clear h3 hd d0 d1 d2 d4 d5
  go_region_law (refine step_append_run rfl (.tmp 23) (.tmp 25) 36 rfl fv _ rfl rfl hrun ?_)
  all_goals go_wp2_with fail
  all_goals go_ret
  all_goals exact ⟨rfl, HD.out.df (by simp)⟩
end

end Go.Proofs.Ytejkbibahbcofaa
