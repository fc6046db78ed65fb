/-
  bifoldlaw6.HdecReads answers true, whatever its arguments: the walk.
-/
import Derived.Test.YtejkbibahbcofaaM25
import Derived.Handy
namespace Go.Proofs.Ytejkbibahbcofaa
open Go.RowKit Go.Maps
set_option linter.unusedVariables false

/-- The bytes of round k. -/
def ysAt (l1 l2 : List UInt8) (k : Nat) : List UInt8 := if k = 0 then l1 else if k = 1 then l2 else [130]
def ysV (v1 v2 v3 : Value) (k : Nat) : Value := if k = 0 then v1 else if k = 1 then v2 else v3

set_option maxRecDepth 100000 in
set_option maxHeartbeats 4000000 in
theorem hdecReads_walk (a0 : Option Addr) (len0 cap0 : Nat) (z0 : List Int) (a1 : Option Addr) (len1 cap1 : Nat) (z1 : List Int) (a2 : Int) (w : World) (w0 : IsRow .u8 w a0 len0 cap0 z0) (w1 : IsRow .u8 w a1 len1 cap1 z1) (w2 : (Lit.int .u16 a2).wf = true) :
    Calls Try.prog 4 #[.slice a0 len0 cap0, .slice a1 len1 cap1, .int .u16 a2] w fun e w' => e = .returned (.bool true) ∧ Below w.heap.size w w' := by
  obtain ⟨l0, hb0, hlen0⟩ := w0.bytes
  obtain ⟨l1, hb1, hlen1⟩ := w1.bytes
  obtain ⟨lim, rfl, hlim⟩ := u16n w2
  have hcap0 : len0 ≤ maxLen := by have := Rd.len hb0; simpa [hlen0] using this
  have hcap1 : len1 ≤ maxLen := by have := Rd.len hb1; simpa [hlen1] using this
  unfold maxLen at hcap0 hcap1
  have HB0 := Bx.mk hb0
  have HB1 := Bx.mk hb1
  have hwl : IntKind.i64.wrap (lim : Int) = (lim : Int) := by simp only [IntKind.wrap_i64]; omega
  clear w0 w1 w2 hb0 hb1
  by_cases hbig0 : 200 < len0
  · have hbb : decide (200 < (len0 : Int)) = true := by rw [decide_eq_true_iff]; omega
    clear hbig0
    go_enter Try.func4, Try.ntmps4
    go_wp2_with (go_at_call 10; refine (hknown_any _).mono ?_; rintro e w1 ⟨rfl, b1⟩)
    go_ret
    exact ⟨rfl, b1⟩
  · have hbb0 : decide (200 < (len0 : Int)) = false := by rw [decide_eq_false_iff_not]; omega
    by_cases hbig1 : 200 < len1
    · have hbb : decide (200 < (len1 : Int)) = true := by rw [decide_eq_true_iff]; omega
      clear hbig0 hbig1
      go_enter Try.func4, Try.ntmps4
      go_wp2_with (go_at_call 10; refine (hknown_any _).mono ?_; rintro e w1 ⟨rfl, b1⟩)
      go_ret
      exact ⟨rfl, b1⟩
    · have hbb1 : decide (200 < (len1 : Int)) = false := by rw [decide_eq_false_iff_not]; omega
      have HL : Bx (l0.length ≤ 200 ∧ l1.length ≤ 200) := ⟨by omega, by omega⟩
      have hl0 := fun ty W => HB0.out.run_len ty W
      have hl1 := fun ty W => HB1.out.run_len ty W
      rw [hlen0] at hl0
      rw [hlen1] at hl1
      have HCL := Bx.mk (clampN_le (lim : Int))
      clear hbig0 hbig1 hlen0 hlen1
      go_enter Try.func4, Try.ntmps4
      go_wp2_with fail
      refine (hknown_any _).mono ?_
      rintro e w3 ⟨rfl, b3⟩
      have B3 := Bx.mk b3
      clear b3
      go_wp2_with fail
      refine (OneP.new (lim : Int) w3).mono ?_
      rintro e w4 ⟨q, t, rfl, h4, b4⟩
      have H4 := Bx.mk h4
      have B4 := Bx.mk b4
      clear h4 b4
      go_wp2_with fail
      refine (H4.out.newRef B4.out.size (lim : Int)).mono ?_
      rintro e w5 ⟨q', t', rfl, h5, b5⟩
      have H5 := Bx.mk h5
      have B5 := Bx.mk (B4.out.trans b5)
      clear h5 b5
      generalize clampN (lim : Int) = mx at H5 HCL
      go_wp2_with fail
      have hb6 : Below w5.heap.size w5 ((w5.alloc (.cells #[.int .u8 130] 5)).alloc (.cells #[.slice a0 len0 cap0, .slice a1 len1 cap1, .slice (some ⟨w5.heap.size, 0, none⟩) 1 1] 24)) := ((Below.refl w5.heap.size w5).alloc (Nat.le_refl _) _).alloc (by simp) _
      have HS6 := Bx.mk ((Sm.of H5.out (gd_new mx HCL.out) HCL.out).apart (P' := fun k => k = w5.heap.size ∨ k = w5.heap.size + 1) hb6 (fun k hk => .inr (by simp; omega)))
      have HN6 : Bx (Bs ((w5.alloc (.cells #[.int .u8 130] 5)).alloc (.cells #[.slice a0 len0 cap0, .slice a1 len1 cap1, .slice (some ⟨w5.heap.size, 0, none⟩) 1 1] 24)) (.slice (some ⟨w5.heap.size, 0, none⟩) 1 1) [130]) := ⟨(Bs.lits w5 #[.int .u8 130] [130] rfl (by simp)).keep ((Below.refl _ _).alloc (Nat.le_refl _) _)⟩
      have HR6 : Bx (((w5.alloc (.cells #[.int .u8 130] 5)).alloc (.cells #[.slice a0 len0 cap0, .slice a1 len1 cap1, .slice (some ⟨w5.heap.size, 0, none⟩) 1 1] 24)).heap[w5.heap.size + 1]? = some (.cells #[.slice a0 len0 cap0, .slice a1 len1 cap1, .slice (some ⟨w5.heap.size, 0, none⟩) 1 1] 24 (0, 0))) := ⟨by
        have := heap_alloc_last (w5.alloc (.cells #[.int .u8 130] 5)) (.cells #[.slice a0 len0 cap0, .slice a1 len1 cap1, .slice (some ⟨w5.heap.size, 0, none⟩) 1 1] 24)
        simpa using this⟩
      have HBW : Bx (Below w.heap.size w ((w5.alloc (.cells #[.int .u8 130] 5)).alloc (.cells #[.slice a0 len0 cap0, .slice a1 len1 cap1, .slice (some ⟨w5.heap.size, 0, none⟩) 1 1] 24))) := ⟨(B3.out.trans (B5.out.mono B3.out.size)).trans (hb6.mono (Nat.le_trans B3.out.size B5.out.size))⟩
      have HSZ : Bx (w3.heap.size ≤ ((w5.alloc (.cells #[.int .u8 130] 5)).alloc (.cells #[.slice a0 len0 cap0, .slice a1 len1 cap1, .slice (some ⟨w5.heap.size, 0, none⟩) 1 1] 24)).heap.size) := ⟨Nat.le_trans B5.out.size hb6.size⟩
      have HB3 := Bx.mk B3.out.size
      have HLE := Bx.mk (Rs.le_new HCL.out false)
      clear hb6
      generalize ((w5.alloc (.cells #[.int .u8 130] 5)).alloc (.cells #[.slice a0 len0 cap0, .slice a1 len1 cap1, .slice (some ⟨w5.heap.size, 0, none⟩) 1 1] 24)) = wq at HS6 HN6 HR6 HBW HSZ ⊢
      generalize w5.heap.size = N at HS6 HN6 HR6 ⊢
      generalize w3.heap.size = B at HS6 HSZ HB3
      clear H4 B4 H5 B5 B3
      go_loopg [36] 3 (fun g s36 wx => ∃ (k : Nat) (st : Rs), k + g = 3 ∧ s36 = .int .i64 (k : Int) ∧ Bx (Sm B q t q' t' st st (fun k => k = N ∨ k = N + 1) wx) ∧ Bx (Below w.heap.size w wx) ∧ Bx (B ≤ wx.heap.size) ∧ Bx (wx.heap[N]? = wq.heap[N]? ∧ wx.heap[N + 1]? = wq.heap[N + 1]?) ∧ Bx (st.le (64 * k)))
      case atStart => exact ⟨0, _, by omega, rfl, HS6, HBW, HSZ, ⟨rfl, rfl⟩, HLE⟩
      case round =>
        obtain ⟨k, st, hkg, rfl, HS, HBL, HBS, HHP, HST⟩ := hrel
        cases gk with
        | zero =>
          obtain rfl : k = 3 := by omega
          go_wp2_with fail
          go_ret
          exact ⟨rfl, HBL.out⟩
        | succ g =>
          have hk3 : k < 3 := by omega
          have hdk : decide ((k : Int) < 3) = true := decide_eq_true (by omega)
          obtain ⟨yv, hyv⟩ : ∃ yv, ysV (.slice a0 len0 cap0) (.slice a1 len1 cap1) (.slice (some ⟨N, 0, none⟩) 1 1) k = yv := ⟨_, rfl⟩
          obtain ⟨yl, hyl⟩ : ∃ yl, ysAt l0 l1 k = yl := ⟨_, rfl⟩
          have hcell : wr.cell? ⟨N + 1, k, none⟩ = some yv := by
            rw [← hyv]
            have h := HHP.out.2.trans HR6.out
            unfold World.cell?
            simp only [h]
            match k, hk3 with
            | 0, _ => rfl
            | 1, _ => rfl
            | 2, _ => rfl
          have HY : Bx (Bs wr yv yl ∧ yl.length ≤ 200 ∧ (yl = [] ∨ ∀ g, yv.ownBlock = some g → (g = N ∨ g = N + 1) ∨ g < B)) := ⟨by
            rw [← hyv, ← hyl]
            have hB := HB3.out
            match k, hk3 with
            | 0, _ => exact ⟨HB0.out.keep HBL.out, HL.out.1, HB0.out.block.imp id fun h g hg => .inr (by have := h g hg; omega)⟩
            | 1, _ => exact ⟨HB1.out.keep HBL.out, HL.out.2, HB1.out.block.imp id fun h g hg => .inr (by have := h g hg; omega)⟩
            | 2, _ => exact ⟨HN6.out.blk fun g hg => by simp only [Value.ownBlock, Option.some.injEq] at hg; subst hg; exact HHP.out.1, by simp [ysAt], .inr fun g hg => by simp only [ysV, Value.ownBlock] at hg; simp at hg; exact .inl (.inl hg.symm)⟩⟩
          have HX : Bx (st.read yl = st.read yl) := ⟨rfl⟩
          have HTOT := Bx.mk (Rs.le_tot HST.out (by omega))
          have HNX := Bx.mk (Rs.le_next HST.out yl)
          clear hyv hyl
          go_wp2_with fail
          refine (HS.out.decP HBS.out HTOT.out HY.out.1 (by have := HY.out.2.1; omega)).mono ?_
          rintro e w7 ⟨v7, rfl, hf7, hs7, hb7, hg7⟩
          have HS7 := Bx.mk hs7
          have HF7 := Bx.mk hf7
          have HB7 := Bx.mk hb7
          have HP7 : Bx (w7.heap[N]? = wq.heap[N]? ∧ w7.heap[N + 1]? = wq.heap[N + 1]?) := ⟨(hg7 N (.inl rfl)).trans HHP.out.1, (hg7 (N + 1) (.inr rfl)).trans HHP.out.2⟩
          have HY7 : Bx (Bs w7 yv yl) := ⟨by
            rcases HY.out.2.2 with h | h
            · have := HY.out.1
              rw [h] at this ⊢
              exact this.none_ w7
            · refine HY.out.1.blk fun g hg => ?_
              rcases h g hg with h | h
              · exact hg7 g h
              · exact hb7.block g h⟩
          clear hs7 hf7 hb7 hg7
          obtain ⟨en, hen⟩ : ∃ en, errN (st.read yl) = en := ⟨_, rfl⟩
          rw [hen]
          have HEN := Bx.mk hen
          clear hen
          go_wp2_with fail
          refine (HS7.out.decD (Nat.le_trans HBS.out HB7.out.size) HTOT.out HY7.out (HY.out.2.2.imp id fun h g hg => (h g hg).imp (fun h => .inl h) id) (by have := HY.out.2.1; omega)).mono ?_
          rintro e w8 ⟨v8, rfl, hf8, hs8, hb8, hg8⟩
          rw [HEN.out]
          have HF78 := Bx.mk (HF7.out.blk (w' := w8) fun g hg => hg8 g (.inr hg))
          have HF8 := Bx.mk hf8
          have HS8 := Bx.mk (hs8.apart (P' := fun k => k = N ∨ k = N + 1) (Below.refl _ _) (fun k hk => .inl (.inl hk)))
          have HB8 := Bx.mk (HB7.out.trans hb8)
          have HP8 : Bx (w8.heap[N]? = wq.heap[N]? ∧ w8.heap[N + 1]? = wq.heap[N + 1]?) := ⟨(hg8 N (.inl (.inl rfl))).trans HP7.out.1, (hg8 (N + 1) (.inl (.inr rfl))).trans HP7.out.2⟩
          have HNE : Bx (((en : Int) != (en : Int)) = false) := ⟨by simp⟩
          clear hf8 hs8 hb8 hg8
          go_wp2_with fail
          refine (fields_any v7 v8 _ _ _ HF78.out HF8.out).mono ?_
          rintro e w9 ⟨rfl, b9⟩
          rw [decide_eq_true rfl]
          have HS9 := Bx.mk (HS8.out.keep b9)
          have HB9 : Bx (Below w.heap.size w w9) := ⟨(HBL.out.trans (HB8.out.mono HB3.out)).trans (b9.mono (Nat.le_trans HBL.out.size HB8.out.size))⟩
          have HZ9 : Bx (B ≤ w9.heap.size) := ⟨Nat.le_trans HBS.out (Nat.le_trans HB8.out.size b9.size)⟩
          have HP9 : Bx (w9.heap[N]? = wq.heap[N]? ∧ w9.heap[N + 1]? = wq.heap[N + 1]?) := ⟨by
            obtain ⟨_, _, _, _, _, _, _, _, _, _, _, _, _, _, _, h6, _⟩ := HS8.out
            exact ⟨(b9.block N (h6 N (.inl rfl)).2.2).trans HP8.out.1, (b9.block (N + 1) (h6 (N + 1) (.inr rfl)).2.2).trans HP8.out.2⟩⟩
          clear b9
          go_wp2_with fail
          go_roundg g
          case measure => omega
          case rel => exact ⟨k + 1, _, by omega, by go_num, HS9, HB9, HZ9, HP9, ⟨by have := HNX.out; rw [show 64 * (k + 1) = 64 * k + 64 by omega]; exact this⟩⟩

end Go.Proofs.Ytejkbibahbcofaa
