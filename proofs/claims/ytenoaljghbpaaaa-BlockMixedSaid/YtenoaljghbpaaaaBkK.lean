/-
  Blocks: bifoldlaw16's known answers.
-/
import Derived.Test.YtenoaljghbpaaaaBkY
import Derived.Test.YtenoaljghbpaaaaPyJ
namespace Go.Proofs.Ytenoaljghbpaaaa
open Go.RowKit
set_option linter.unusedVariables false
set_option linter.unusedSimpArgs false

/-- A frame of a split, by its index: where it lies, and what Add makes of it. -/
theorem split_at {w : World} {B0 : Nat} {v : Value} {l : List Frm} (hO : OwF w B0 v l) (i : Nat) (hi : i < l.length) :
    ∃ (T F S : Int) (raw : Value) (bk o : Nat), (∀ (q : IntKind) (W : World), (Instr.indexAt 23 v (.int q (i : Int))).run Try.prog W = .ok (.pointer (some ⟨bk, o, none⟩)) W) ∧
      (∀ W : World, OwF W B0 v l → W.cell? ⟨bk, o, none⟩ = some (.int .u8 T) ∧ W.cell? ⟨bk, o + 1, none⟩ = some (.int .u8 F) ∧ W.cell? ⟨bk, o + 2, none⟩ = some (.int .u32 S) ∧ W.cell? ⟨bk, o + 3, none⟩ = some raw) ∧
      (∀ (W : World) (g B M : Nat) (st : Nat) (en : Bool) (b : List UInt8) (p : Nat) (u : Value), OwF W B0 v l → BkAt W g B M (st : Int) en b p i u → B ≤ W.heap.size → M ≤ 1000000 → b.length ≤ 100000 → SplF st en p b l → (∀ i, 0 < i → i < l.length → i * p < b.length) → st < 2147483648 → 0 < st →
        Calls Try.prog 66 #[.pointer (some ⟨g, 0, none⟩), .agg (fraA T F S raw)] W fun e w' =>
          (e = .returned (.tuple #[.bool (decide (b.length ≤ (i + 1) * p)), .int .i64 0]) ∧ (b.take ((i + 1) * p)).length ≤ M ∧ (∃ v', BkAt w' g B M (st : Int) en b p (i + 1) v') ∧ Fp (Sg g B) W w') ∨
          (e = .returned (.tuple #[.bool false, .int .i64 3]) ∧ M < (b.take ((i + 1) * p)).length ∧ Below W.heap.size W w')) := by
  obtain ⟨bk, o, h1, h2⟩ := frs_at hO.rows i hi
  exact ⟨_, _, _, _, bk, o, h1, fun W hW => h2 W hW.rows, fun W g B M st en b p u hO2 hk hB hM hb hs hg hst hs0 => bkAdd_step hk hB hM hb hs hg hi hst hs0 (hO2.bs _ (List.getElem_mem hi))⟩
theorem OwF.stay {w w' : World} {B0 : Nat} {v : Value} {l : List Frm} {g B : Nat} (h : OwF w B0 v l) (hf : Fp (Sg g B) w w') (hg : g < B0 ∨ w.heap.size ≤ g) (hB : w.heap.size ≤ B) : OwF w' B0 v l :=
  h.fp hf fun k h1 h2 h3 => by
    rcases h3 with h | h
    · rcases hg with h4 | h4 <;> omega
    · omega
theorem abcS : bstr [97, 98, 99] = ⟨#[97, 98, 99]⟩ := rfl
set_option maxRecDepth 100000 in
set_option maxHeartbeats 8000000 in
theorem known16_any (w : World) : Calls Try.prog 64 #[] w fun e w' => e = .returned (.bool true) ∧ Below w.heap.size w w' := by
  have HNEW := Bx.mk (bkNew_any 100 (by omega) w)
  have kc : ∀ W : World, (convert 22 22 (.slice (some ⟨W.heap.size, 0, none⟩) 3 3)).run Try.prog (W.alloc (.cells #[.int .u8 97, .int .u8 98, .int .u8 99] 5)) = .ok (.slice (some ⟨W.heap.size, 0, none⟩) 3 3) (W.alloc (.cells #[.int .u8 97, .int .u8 98, .int .u8 99] 5 (3, 4))) := fun W => Lib.run_convert_bytes_const W 22 5 #[.int .u8 97, .int .u8 98, .int .u8 99] 3 3 Try.underlying22 Try.underlying5
  have HRA := Bx.mk (fun W : World => (show Bs (W.alloc (.cells #[.int .u8 97, .int .u8 98, .int .u8 99] 5 (3, 4))) (.slice (some ⟨W.heap.size, 0, none⟩) 3 3) [97, 98, 99] from Rd.mark W 5 (3, 4) _ 3 rfl (by unfold maxLen; omega)))
  go_enter Try.func64, Try.ntmps64
  go_upto_region 2 with (go_at_call 65; refine HNEW.out.mono ?_; rintro e w1 ⟨rfl, hbk, hb, hs⟩; have HBK1 := Bx.mk hbk; have HB1 := Bx.mk hb; have HS1 := Bx.mk hs; clear hbk hb hs)
  obtain ⟨g, hg⟩ : ∃ g, w.heap.size = g := ⟨_, rfl⟩
  rw [hg] at HBK1 HS1 ⊢
  have HG := Bx.mk hg
  clear hg HNEW
  have HA1 := Bx.mk (HRA.out w1)
  have HB2 := Bx.mk ((Below.refl w1.heap.size w1).alloc (Nat.le_refl _) (.cells #[.int .u8 97, .int .u8 98, .int .u8 99] 5 (3, 4)))
  have HABC : Bx (∃ b : List UInt8, b = [97, 98, 99]) := ⟨_, rfl⟩
  obtain ⟨b, hb3⟩ := HABC.out
  have HB3 := Bx.mk hb3
  rw [← hb3] at HA1
  clear hb3 HABC HRA
  have HSPL := Bx.mk (fun (v : Value) (W : World) (h : Bs W v b) => pSplit_any 3 3 rfl true 2 (by omega) (by omega) 2 rfl v b W h (by rw [HB3.out]; simp))
  go_upto_region 3 with (go_at_call 71; refine (HSPL.out _ _ HA1.out).mono ?_; rintro e w3 ⟨v, l, rfl, ho, hsp, hl0, hl1, hl2, b3⟩; have HO := Bx.mk ho; have HSP := Bx.mk hsp; have HL2 := Bx.mk hl2; have HB4 := Bx.mk (HB2.out.trans (b3.mono HB2.out.size)); have hlen2 : l.length = 2 := (by rw [HB3.out] at hl1 hl2; simp at hl1; have h2 := hl2 2 (by omega); simp at h2; omega); clear ho hsp hl0 hl1 hl2 b3)
  have HBK3 := Bx.mk (fun B => (HBK1.out B).keep HB4.out)
  have HLN := Bx.mk hlen2
  have hlenl : ∀ (tr : TypeId) (W : World), (Builtin.len_ #[23] tr #[v]).run Try.prog W = .ok (.int .i64 2) W := fun tr W => by
    have h := frs_len HO.out.rows tr W
    rw [HLN.out] at h
    exact h
  obtain ⟨T0, F0, S0, R0, k0, o0, hix0, hc0, hadd0⟩ := split_at HO.out 0 (by omega)
  obtain ⟨T1, F1, S1, R1, k1, o1, hix1, hc1, hadd1⟩ := split_at HO.out 1 (by omega)
  have hi0 : ∀ W : World, (Instr.indexAt 23 v (.int .i64 0)).run Try.prog W = .ok (.pointer (some ⟨k0, o0, none⟩)) W := fun W => hix0 .i64 W
  have hi1 : ∀ W : World, (Instr.indexAt 23 v (.int .i64 1)).run Try.prog W = .ok (.pointer (some ⟨k1, o1, none⟩)) W := fun W => hix1 .i64 W
  have HC0 := Bx.mk hc0
  have HC1 := Bx.mk hc1
  have HD0 := Bx.mk hadd0
  have HD1 := Bx.mk hadd1
  clear hix0 hix1 hc0 hc1 hadd0 hadd1 HBK1 HA1 HSPL hlen2
  obtain ⟨B0, hB0⟩ : ∃ B0, (w1.alloc (.cells #[.int .u8 97, .int .u8 98, .int .u8 99] 5 (3, 4))).heap.size = B0 := ⟨_, rfl⟩
  rw [hB0] at HO HC0 HC1 HD0 HD1
  obtain ⟨B, hB⟩ : ∃ B, w3.heap.size = B := ⟨_, rfl⟩
  have HBE := Bx.mk hB
  have HGB : Bx (g < B0) := ⟨by rw [← hB0]; have := HS1.out; simp; omega⟩
  have HBLE : Bx (w3.heap.size ≤ B) := ⟨by omega⟩
  have HAD0 : Bx (∀ W u, OwF W B0 v l → BkAt W g B 100 ((3 : Nat) : Int) true b 2 0 u → B ≤ W.heap.size → Calls Try.prog 66 #[.pointer (some ⟨g, 0, none⟩), .agg (fraA T0 F0 S0 R0)] W fun e w' => e = .returned (.tuple #[.bool false, .int .i64 0]) ∧ (∃ v', BkAt w' g B 100 ((3 : Nat) : Int) true b 2 1 v') ∧ Fp (Sg g B) W w') := ⟨fun W u h1 h2 h3 => (HD0.out W g B 100 3 true b 2 u h1 h2 h3 (by omega) (by rw [HB3.out]; simp) HSP.out HL2.out (by omega) (by omega)).mono (by
    rintro e w' (⟨he, _, hk, hf⟩ | ⟨_, hlt, _⟩)
    · exact ⟨by rw [he, HB3.out]; rfl, hk, hf⟩
    · rw [HB3.out] at hlt; simp at hlt)⟩
  have HAD1 : Bx (∀ W u, OwF W B0 v l → BkAt W g B 100 ((3 : Nat) : Int) true b 2 1 u → B ≤ W.heap.size → Calls Try.prog 66 #[.pointer (some ⟨g, 0, none⟩), .agg (fraA T1 F1 S1 R1)] W fun e w' => e = .returned (.tuple #[.bool true, .int .i64 0]) ∧ (∃ v', BkAt w' g B 100 ((3 : Nat) : Int) true b 2 2 v') ∧ Fp (Sg g B) W w') := ⟨fun W u h1 h2 h3 => (HD1.out W g B 100 3 true b 2 u h1 h2 h3 (by omega) (by rw [HB3.out]; simp) HSP.out HL2.out (by omega) (by omega)).mono (by
    rintro e w' (⟨he, _, hk, hf⟩ | ⟨_, hlt, _⟩)
    · exact ⟨by rw [he, HB3.out]; rfl, hk, hf⟩
    · rw [HB3.out] at hlt; simp at hlt)⟩
  have HK1 : Bx (∀ W u, BkAt W g B 100 ((3 : Nat) : Int) true b 2 1 u → Bk W g B 100 true false 3 true u [97, 98]) := ⟨fun W u h => by
    unfold BkAt at h
    rw [if_neg (by omega), HB3.out] at h
    exact h.1⟩
  have HK2 : Bx (∀ W u, BkAt W g B 100 ((3 : Nat) : Int) true b 2 2 u → Bk W g B 100 false true 3 true u [97, 98, 99]) := ⟨fun W u h => by
    unfold BkAt at h
    rw [if_neg (by omega), HB3.out] at h
    exact h.1⟩
  have HBA3 : Bx (BkAt w3 g B 100 ((3 : Nat) : Int) true b 2 0 nilV) := ⟨by
    unfold BkAt
    rw [if_pos rfl]
    exact ⟨_, _, _, _, HBK3.out B, by simp⟩⟩
  have HSTAY : Bx (∀ W, Fp (Sg g B) w3 W → OwF W B0 v l) := ⟨fun W hW => HO.out.stay hW (.inl HGB.out) HBLE.out⟩
  clear HD0 HD1 HBK3 hB hB0 HB2
  obtain ⟨x0, x1, x2, x3⟩ := HC0.out w3 HO.out
  go_upto_region 6 with (go_at_call 66; refine (HAD0.out w3 _ HO.out HBA3.out (by have := HBE.out; omega)).mono ?_; rintro e w4 ⟨rfl, ⟨v4, hk4⟩, hf4⟩; have HK4 := Bx.mk hk4; have HF4 := Bx.mk hf4; clear hk4 hf4)
  clear x0 x1 x2 x3
  have hmk : ∀ W : World, (Instr.makeSlice 22 (.int .i64 8) (.int .i64 8)).run Try.prog W = .ok (.slice (some ⟨W.heap.size, 0, none⟩) 8 8) (W.alloc (.cells (madeCells #[.int .u8 0] 8) 5)) := fun W => make_u8B 8 (by omega) W
  have HKM : Bx (Bk (w4.alloc (.cells (madeCells #[.int .u8 0] 8) 5)) g B 100 true false 3 true v4 [97, 98]) := ⟨(HK1.out _ _ HK4.out).keep ((Below.refl _ _).alloc (Nat.le_refl _) _)⟩
  have HFM : Bx (Fp (Sg g B) w3 (w4.alloc (.cells (madeCells #[.int .u8 0] 8) 5))) := ⟨HF4.out.then (Fp.of_below ((Below.refl _ _).alloc (Nat.le_refl _) _))⟩
  go_upto_region 7 with (go_at_call 66; refine (bkAdd_order HKM.out _ _ _ _ (.inl (by decide))).mono ?_; rintro e w5 ⟨rfl, hb5⟩; have HK5 := Bx.mk (HKM.out.keep hb5); have HF5 := Bx.mk (HFM.out.then (Fp.of_below hb5)); clear hb5)
  have HST5 := Bx.mk (HSTAY.out _ HF5.out)
  have HBA5 : Bx (BkAt w5 g B 100 ((3 : Nat) : Int) true b 2 1 v4) := ⟨by
    unfold BkAt
    rw [if_neg (by omega), HB3.out]
    exact ⟨HK5.out, by simp⟩⟩
  obtain ⟨x0, x1, x2, x3⟩ := HC1.out w5 HST5.out
  go_upto_region 8 with (go_at_call 66; refine (HAD1.out w5 _ HST5.out HBA5.out (by have h1 := HBE.out; have h2 := HF5.out.size; omega)).mono ?_; rintro e w6 ⟨rfl, ⟨v6, hk6⟩, hf6⟩; have HK6 := Bx.mk (HK2.out _ _ hk6); have HF6 := Bx.mk (HF5.out.then hf6); clear hk6 hf6)
  clear x0 x1 x2 x3
  go_upto_region 9 with (go_at_call 69; refine (bkTake_whole HK6.out).mono ?_; rintro e w7 ⟨rfl, hv7, hk7, hf7⟩; have HV7 := Bx.mk hv7; have HK7 := Bx.mk (hk7 B); have HF7 := Bx.mk (HF6.out.then (hf7.mono fun k h => .inl h)); clear hv7 hk7 hf7)
  have hcv : (convert 22 9 v6).run Try.prog w7 = .ok (.string ⟨#[97, 98, 99]⟩) w7 := by rw [← abcS]; exact conv_str HV7.out
  go_wp2_with (go_at_call 68; refine (bkOpen_any HK7.out).mono ?_; rintro e w8 ⟨rfl, hw8⟩; subst hw8)
  go_ret
  refine ⟨rfl, (HB1.out.trans (HB4.out.mono HB1.out.size)).trans (HF7.out.below ?_ fun k hk => ?_)⟩
  · have h1 := HB1.out.size; have h2 := HB4.out.size; omega
  · have h1 := HG.out
    have h2 := HBE.out
    have h3 := HB1.out.size
    have h4 := HB4.out.size
    rcases hk with h | h <;> omega
end Go.Proofs.Ytenoaljghbpaaaa
