/-
  Payloads: frames of data made, with two bytes of padding; and without.
-/
import Derived.Test.YtenoaljghbpaaaaPyH
import Derived.Laws.CopyRow
import Derived.Lib.SlBuf
namespace Go.Proofs.Ytenoaljghbpaaaa
open Go.RowKit
set_option linter.unusedVariables false
set_option linter.unusedSimpArgs false

theorem infoU8i : (Try.prog.info? 5).map (fun i => (i.zero, i.size, i.bytes)) = some (some (.int .u8 0), 1, 1) := by kernel_rfl
abbrev z5 : Array Value := #[.int .u8 0, .int .u8 0, .int .u8 0, .int .u8 0, .int .u8 0]
abbrev p5 : Array Value := #[.int .u8 2, .int .u8 97, .int .u8 98, .int .u8 0, .int .u8 0]
theorem Sb.own {w : World} {g B n : Nat} {cs : Array Value} {l : List UInt8} (h : Sb 5 w g cs) (hn : cs.size = n) (hc : cs.toList = l.map bv) (hm : n ≤ maxLen) (hB : B ≤ g) : OwB w B (.slice (some ⟨g, 0, none⟩) n n) l := by
  have hl : (l.map bv).length = n := by rw [← hc]; simpa using hn
  unfold OwB
  rw [hl]
  refine ⟨by rw [hl]; omega, .inr ⟨g, n, cs, rfl, hB, h, Nat.le_refl _, hm, by omega, ?_⟩⟩
  rw [← hc]
  exact List.take_of_length_le (by simp; omega)
set_option maxRecDepth 100000 in
set_option maxHeartbeats 4000000 in
theorem padded_two (T F S F8 : Int) (hF8 : bits .or .u8 F 8 = F8) (v : Value) (w : World) (hv : Bs w v [97, 98]) :
    Calls Try.prog 108 #[.agg (fraA T F S nilV), .int .i64 2, v] w fun e w' => ∃ A n c, e = .returned (.agg (fraA T F8 S (.slice A n c))) ∧ OwB w' w.heap.size (.slice A n c) [2, 97, 98, 0, 0] ∧ Below w.heap.size w w' := by
  have hm5 : madeCells #[.int .u8 0] 5 = z5 := by kernel_rfl
  have hmk : ∀ W : World, (Instr.makeSlice 22 (.int .i64 5) (.int .i64 5)).run Try.prog W = .ok (.slice (some ⟨W.heap.size, 0, none⟩) 5 5) (W.alloc (.cells z5 5)) := fun W => by
    have h := run_make_row' (P := Try.prog) 22 5 (.int .u8 0) 1 Try.underlying22 infoU8i rfl .i64 .i64 5 (by omega) (by omega) W
    rw [hm5] at h
    exact h
  have hlen : ∀ (tr : TypeId) (W : World), (Builtin.len_ #[22] tr #[v]).run Try.prog W = .ok (.int .i64 2) W := fun tr W => hv.run_len tr W
  obtain ⟨b, o, c, rfl, hn1, hn2, hblt, hcs⟩ := Rd.at_ hv (by simp)
  have HK : Bx (∀ W, Below w.heap.size w W → ∀ j u, [Value.int .u8 97, .int .u8 98][j]? = some u → W.cell? ((⟨b, o, none⟩ : Addr).add j) = some u) := ⟨fun W hW j u hu => by
    have h := hcs j u hu
    rw [← hW.cell (p := ⟨b, o + j, none⟩) hblt] at h
    by_cases h0 : j = 0
    · subst h0
      simpa [Addr.add] using h
    · simpa [Addr.add, h0] using h⟩
  have HB1 : Bx (Below w.heap.size w ((w.alloc (.cells (fraA T F S nilV) 28)).alloc (.cells (fraA 0 0 0 nilV) 28))) := ⟨((Below.refl _ _).alloc (Nat.le_refl _) _).alloc (by simp) _⟩
  have HF1 : Bx (Sb 28 ((w.alloc (.cells (fraA T F S nilV) 28)).alloc (.cells (fraA 0 0 0 nilV) 28)) w.heap.size (fraA T F S nilV)) := ⟨(Sb.new _ w _).alloc _⟩
  have HZ1 : Bx (Sb 28 ((w.alloc (.cells (fraA T F S nilV) 28)).alloc (.cells (fraA 0 0 0 nilV) 28)) (w.heap.size + 1) (fraA 0 0 0 nilV)) := ⟨Sb.newg _ _ _ (by simp) _⟩
  obtain ⟨vL, hvL⟩ : ∃ vL, ([Value.int .u8 97, .int .u8 98] : List Value).length = vL := ⟨_, rfl⟩
  clear hv hcs hn1 hn2
  go_enter Try.func108, Try.ntmps108
  go_upto_region 4 with fail
  obtain ⟨w1, hw1⟩ : ∃ W, (w.alloc (.cells (fraA T F S nilV) 28)).alloc (.cells (fraA 0 0 0 nilV) 28) = W := ⟨_, rfl⟩
  obtain ⟨g1, hg1⟩ : ∃ g, w.heap.size = g := ⟨_, rfl⟩
  obtain ⟨g2, hg2⟩ : ∃ g, w.heap.size + 1 = g := ⟨_, rfl⟩
  rw [hw1] at HB1 HF1 HZ1 ⊢
  have HBW := HB1
  rw [hg1] at HF1 ⊢
  rw [hg1, show g1 + 1 = g2 by omega] at HZ1
  rw [show g1 + 1 = g2 by omega]
  have HG : Bx (g1 < w1.heap.size ∧ g2 < w1.heap.size ∧ w.heap.size ≤ g2 ∧ w.heap.size ≤ g1 ∧ g1 ≠ g2) := ⟨HF1.out.lt, HZ1.out.lt, by omega, by omega, by omega⟩
  clear hw1 hg1 hg2 HB1
  -- the flags
  have e1 : w1.cell? ⟨g1, 1, none⟩ = some (.int .u8 F) := HF1.out.cell 1
  have f1 := HF1.out.free 1
  go_upto_region 5 with fail
  have HF2 : Bx (Sb 28 (w1.setCell ⟨g1, 1, none⟩ (.int .u8 F8)) g1 (fraA T F8 S nilV)) := ⟨HF1.out.set 1 (.int .u8 F8) (show 1 < 4 by decide)⟩
  have HZ2 := Bx.mk (HZ1.out.fp (Sb.fpset (g := g1) 1 (.int .u8 F8) (fun k => k = g1) rfl) (fun h => HG.out.2.2.2.2 h.symm))
  have HB2 := Bx.mk (HBW.out.setCell (p := ⟨g1, 1, none⟩) HG.out.2.2.2.1 (.int .u8 F8))
  obtain ⟨w2, hw2⟩ : ∃ W, w1.setCell ⟨g1, 1, none⟩ (.int .u8 F8) = W := ⟨_, rfl⟩
  rw [hw2] at HF2 HZ2 HB2 ⊢
  clear hw2 HF1 HZ1 HBW e1 f1
  -- the payload made
  have HF3 := Bx.mk (HF2.out.alloc (.cells z5 5))
  have HP3 : Bx (Sb 5 (w2.alloc (.cells z5 5)) w2.heap.size z5) := ⟨Sb.new _ w2 _⟩
  have HZ3 := Bx.mk (HZ2.out.alloc (.cells z5 5))
  have HB3 := Bx.mk (HB2.out.alloc HB2.out.size (.cells z5 5))
  obtain ⟨g3, hg3⟩ : ∃ g, w2.heap.size = g := ⟨_, rfl⟩
  have HH : Bx (g1 < g3 ∧ g2 < g3 ∧ w.heap.size ≤ g3) := ⟨by have := HF2.out.lt; have := HZ2.out.lt; have := HB2.out.size; omega⟩
  rw [hg3] at HP3
  have e3 : (w2.alloc (.cells z5 5)).cell? ⟨g1, 3, none⟩ = some nilV := HF3.out.cell 3
  have f3 := HF3.out.free 3
  go_upto_region 6 with fail
  have HF4 : Bx (Sb 28 ((w2.alloc (.cells z5 5)).setCell ⟨g1, 3, none⟩ (.slice (some ⟨g3, 0, none⟩) 5 5)) g1 (fraA T F8 S (.slice (some ⟨g3, 0, none⟩) 5 5))) := ⟨HF3.out.set 3 (.slice (some ⟨g3, 0, none⟩) 5 5) (show 3 < 4 by decide)⟩
  have HZ4 := Bx.mk (HZ3.out.fp (Sb.fpset (g := g1) 3 (.slice (some ⟨g3, 0, none⟩) 5 5) (fun k => k = g1) rfl) (fun h => HG.out.2.2.2.2 h.symm))
  have HP4 := Bx.mk (HP3.out.fp (Sb.fpset (g := g1) 3 (.slice (some ⟨g3, 0, none⟩) 5 5) (fun k => k = g1) rfl) (fun h => absurd HH.out.1 (by rw [h]; exact Nat.lt_irrefl _)))
  have HB4 := Bx.mk (HB3.out.setCell (p := ⟨g1, 3, none⟩) HG.out.2.2.2.1 (.slice (some ⟨g3, 0, none⟩) 5 5))
  obtain ⟨w4, hw4⟩ : ∃ W, (w2.alloc (.cells z5 5)).setCell ⟨g1, 3, none⟩ (.slice (some ⟨g3, 0, none⟩) 5 5) = W := ⟨_, rfl⟩
  rw [hw4] at HF4 HZ4 HP4 HB4 ⊢
  clear hw4 HF2 HZ2 HB2 HF3 HZ3 HP3 HB3 e3 f3 hg3 hmk hm5
  -- the pad's length
  have e4 : w4.cell? ⟨g1, 3, none⟩ = some (.slice (some ⟨g3, 0, none⟩) 5 5) := HF4.out.cell 3
  have p4 : w4.cell? ⟨g3, 0, none⟩ = some (.int .u8 0) := HP4.out.cell 0
  have q4 := HP4.out.free 0
  go_upto_region 7 with fail
  have HP5 : Bx (Sb 5 (w4.setCell ⟨g3, 0, none⟩ (.int .u8 2)) g3 #[.int .u8 2, .int .u8 0, .int .u8 0, .int .u8 0, .int .u8 0]) := ⟨HP4.out.set 0 (.int .u8 2) (show 0 < 5 by decide)⟩
  have HF5 := Bx.mk (HF4.out.fp (Sb.fpset (g := g3) 0 (.int .u8 2) (fun k => k = g3) rfl) (fun h => absurd HH.out.1 (by rw [h]; exact Nat.lt_irrefl _)))
  have HZ5 := Bx.mk (HZ4.out.fp (Sb.fpset (g := g3) 0 (.int .u8 2) (fun k => k = g3) rfl) (fun h => absurd HH.out.2.1 (by rw [h]; exact Nat.lt_irrefl _)))
  have HB5 := Bx.mk (HB4.out.setCell (p := ⟨g3, 0, none⟩) HH.out.2.2 (.int .u8 2))
  obtain ⟨w5, hw5⟩ : ∃ W, w4.setCell ⟨g3, 0, none⟩ (.int .u8 2) = W := ⟨_, rfl⟩
  rw [hw5] at HP5 HF5 HZ5 HB5 ⊢
  clear hw5 HF4 HZ4 HP4 HB4 e4 p4 q4
  -- the data
  have e5 : w5.cell? ⟨g1, 3, none⟩ = some (.slice (some ⟨g3, 0, none⟩) 5 5) := HF5.out.cell 3
  have hcp : ∀ ty : TypeId, (Builtin.copy_ #[22, 22] ty #[.slice (some ⟨g3, 1, none⟩) 4 4, .slice (some ⟨b, o, none⟩) 2 c]).run Try.prog w5 = .ok (goInt 2) (w5.setRow g3 p5) := fun ty => run_copy_row (P := Try.prog) w5 22 22 ty 5 g3 1 4 4 ⟨b, o, none⟩ 2 c #[.int .u8 2, .int .u8 0, .int .u8 0, .int .u8 0, .int .u8 0] 5 [.int .u8 97, .int .u8 98] Try.underlying22 (by kernel_rfl) HP5.out rfl (HK.out w5 HB5.out) (by decide) (by intro v hv; simp at hv; rcases hv with rfl | rfl <;> rfl)
  have HG6 := Bx.mk (grownS_setRow w5 g3 p5)
  have HP6 : Bx (Sb 5 (w5.setRow g3 p5) g3 p5) := ⟨setRow_heap w5 g3 _ _ _ (0, 0) HP5.out⟩
  have HF6 := Bx.mk (HF5.out.grown HG6.out (fun h => by injection h with h; exact absurd HH.out.1 (by rw [h]; exact Nat.lt_irrefl _)))
  have HZ6 := Bx.mk (HZ5.out.grown HG6.out (fun h => by injection h with h; exact absurd HH.out.2.1 (by rw [h]; exact Nat.lt_irrefl _)))
  have HB6 := Bx.mk (HB5.out.grown HG6.out HB5.out.size (fun k hk => by injection hk with hk; have := HH.out.2.2; omega))
  go_upto_region 8 with fail
  obtain ⟨w6, hw6⟩ : ∃ W, w5.setRow g3 p5 = W := ⟨_, rfl⟩
  rw [hw6] at HP6 HF6 HZ6 HB6 ⊢
  clear hw6 HP5 HF5 HZ5 HB5 HG6 hcp e5
  go_wp2_with (first
    | (with_reducible refine wpList_loadFra g1 T F8 S (.slice (some ⟨g3, 0, none⟩) 5 5) rfl HF6.out ?_)
    | (with_reducible refine wpList_storeFra g2 _ T F8 S (some ⟨g3, 0, none⟩) 5 5 rfl rfl HZ6.out rfl ?_; intro w8 hs8 hg8; have HS8 := Bx.mk hs8; have HP8 := Bx.mk (HP6.out.grown hg8 (fun h => by injection h with h; exact absurd HH.out.2.1 (by rw [h]; exact Nat.lt_irrefl _))); have HB8 := Bx.mk (HB6.out.grown hg8 HB6.out.size (fun k hk => by injection hk with hk; have := HG.out.2.2.1; omega)); clear hs8 hg8))
  exact bodyPost_ret (ret_S1 Try.results108 _ _ g2 28 (fraA T F8 S (.slice (some ⟨g3, 0, none⟩) 5 5)) _ rfl HS8.out Try.underlying28 rfl fra_size) rfl ⟨some ⟨g3, 0, none⟩, 5, 5, rfl, HP8.out.own rfl rfl (by unfold maxLen; omega) HH.out.2.2, HB8.out⟩
/-- A frame of data with two bytes of padding. -/
theorem pyData_two (S : Int) (v : Value) (w : World) (hv : Bs w v [97, 98]) :
    Calls Try.prog 78 #[.int .u32 S, .bool true, .int .i64 2, v] w fun e w' => ∃ A n c, e = .returned (.agg (fraA 0 9 S (.slice A n c))) ∧ OwB w' w.heap.size (.slice A n c) [2, 97, 98, 0, 0] ∧ Below w.heap.size w w' := by
  have HF := Bx.mk (fun W => flag_any true 1 W)
  rw [if_pos rfl] at HF
  have HP := Bx.mk (fun W (h : Bs W v [97, 98]) => padded_two 0 1 S 9 (by decide) v W h)
  have HV := Bx.mk (hv.keep ((Below.refl w.heap.size w).alloc (Nat.le_refl _) (.cells (fraA 0 0 0 nilV) 28)))
  have HB := Bx.mk ((Below.refl w.heap.size w).alloc (Nat.le_refl _) (.cells (fraA 0 0 0 nilV) 28))
  have HZ : Bx (Sb 28 (w.alloc (.cells (fraA 0 0 0 nilV) 28)) w.heap.size (fraA 0 0 0 nilV)) := ⟨Sb.new _ w _⟩
  clear hv
  go_enter Try.func78, Try.ntmps78
  go_upto_region 1 with fail
  obtain ⟨w1, hw1⟩ : ∃ W, w.alloc (.cells (fraA 0 0 0 nilV) 28) = W := ⟨_, rfl⟩
  obtain ⟨g1, hg1⟩ : ∃ g, w.heap.size = g := ⟨_, rfl⟩
  rw [hw1] at HV HB HZ ⊢
  have HBW := HB
  rw [hg1] at HZ ⊢
  have HG : Bx (g1 < w1.heap.size ∧ w.heap.size ≤ g1) := ⟨HZ.out.lt, by omega⟩
  clear hw1 hg1 HB
  go_wp2_with (first
    | (go_at_call 109; refine (HF.out _).mono ?_; rintro e wf ⟨rfl, hwf⟩; subst hwf)
    | (go_at_call 108; refine (HP.out _ HV.out).mono ?_; rintro e w5 ⟨A0, n0, cc0, rfl, hu, b5⟩; have HC := Bx.mk b5; have HU := Bx.mk hu; clear hu b5)
    | (with_reducible refine wpList_storeFra g1 _ 0 9 S A0 n0 cc0 rfl rfl (HZ.out.below HC.out HG.out.1) rfl ?_; intro w8 hs8 hg8; have HS8 := Bx.mk hs8; have HU8 := Bx.mk (HU.out.grownO hg8 HG.out.1); have HB8 := Bx.mk ((HBW.out.trans (HC.out.mono HBW.out.size)).grown hg8 (HBW.out.trans (HC.out.mono HBW.out.size)).size (fun k hk => by injection hk with hk; have := HG.out.2; omega)); clear hs8 hg8))
  exact bodyPost_ret (ret_S1 Try.results78 _ _ g1 28 (fraA 0 9 S (.slice A0 n0 cc0)) _ rfl HS8.out Try.underlying28 rfl fra_size) rfl ⟨A0, n0, cc0, rfl, HU8.out.mono HBW.out.size, HB8.out⟩
end Go.Proofs.Ytenoaljghbpaaaa
