/-
  Blocks: a frame out of turn; the frames of a split, one by one.
-/
import Derived.Test.YtenoaljghbpaaaaBkX
import Derived.Test.YtenoaljghbpaaaaBkT
namespace Go.Proofs.Ytenoaljghbpaaaa
open Go.RowKit
set_option linter.unusedVariables false
set_option linter.unusedSimpArgs false

theorem OwF.fp {w w' : World} {B0 : Nat} {v : Value} {l : List Frm} {S : Nat → Prop} (h : OwF w B0 v l) (hf : Fp S w w') (hS : ∀ k, B0 ≤ k → k < w.heap.size → ¬ S k) : OwF w' B0 v l := by
  refine ⟨⟨h.1.1, ?_⟩, fun a ha => (h.2 a ha).kept fun k hk => hf.block k ((h.2 a ha).lt hk) (hS k ((h.2 a ha).ge hk) ((h.2 a ha).lt hk))⟩
  rcases h.1.2 with h0 | ⟨g, cap, cur, rfl, hg, hh, rest⟩
  · exact .inl h0
  · have hlt : g < w.heap.size := (Array.getElem?_eq_some_iff.1 hh).1
    exact .inr ⟨g, cap, cur, rfl, hg, by rw [hf.block g hlt (hS g hg hlt)]; exact hh, rest⟩
section
variable {w : World} {g B : Nat} {M : Nat} {op wh : Bool} {st : Int} {en : Bool} {v : Value} {D : List UInt8}
set_option maxRecDepth 100000 in
set_option maxHeartbeats 4000000 in
/-- While a block is open nothing may come between. -/
theorem bkAdd_order (h : Bk w g B M true wh st en v D) (T F S : Int) (fv : Value) (hno : ¬ T = 9 ∨ ¬ S = st) :
    Calls Try.prog 66 #[.pointer (some ⟨g, 0, none⟩), .agg (fraA T F S fv)] w fun e w' => e = .returned (.tuple #[.bool false, .int .i64 6]) ∧ Below w.heap.size w w' := by
  have HB1 : Bx (Below w.heap.size w (w.alloc (.cells (fraA T F S fv) 28))) := ⟨(Below.refl _ _).alloc (Nat.le_refl _) _⟩
  have HSF : Bx (Sb 28 (w.alloc (.cells (fraA T F S fv) 28)) w.heap.size (fraA T F S fv)) := ⟨Sb.new _ w _⟩
  have HBK1 := Bx.mk (h.keep HB1.out)
  clear h
  by_cases hT : T = 9
  · subst hT
    have hs : (S != st) = true := by rw [bne_iff_ne]; rcases hno with h | h; exact absurd rfl h; exact h
    clear hno
    go_enter Try.func66, Try.ntmps66
    go_upto_region 1 with fail
    obtain ⟨w1, hw1⟩ : ∃ W, w.alloc (.cells (fraA 9 F S fv) 28) = W := ⟨_, rfl⟩
    obtain ⟨gf, hgf⟩ : ∃ k, w.heap.size = k := ⟨_, rfl⟩
    rw [hw1] at HB1 HSF HBK1 ⊢
    rw [hgf] at HSF ⊢
    clear hw1 hgf
    have c1 := HBK1.out.c1
    have c3 := HBK1.out.c3
    have f0 : w1.cell? ⟨gf, 0, none⟩ = some (.int .u8 9) := HSF.out.cell 0
    have f2 : w1.cell? ⟨gf, 2, none⟩ = some (.int .u32 S) := HSF.out.cell 2
    go_upto_region 2 with fail
    go_quiet (fail)
    go_wp2_with fail
    go_ret2
    exact ⟨rfl, below_drewN HB1.out _⟩
  · have ht : (T == 9) = false := by rw [beq_eq_false_iff_ne]; exact hT
    clear hno hT
    go_enter Try.func66, Try.ntmps66
    go_upto_region 1 with fail
    obtain ⟨w1, hw1⟩ : ∃ W, w.alloc (.cells (fraA T F S fv) 28) = W := ⟨_, rfl⟩
    obtain ⟨gf, hgf⟩ : ∃ k, w.heap.size = k := ⟨_, rfl⟩
    rw [hw1] at HB1 HSF HBK1 ⊢
    rw [hgf] at HSF ⊢
    clear hw1 hgf
    have c1 := HBK1.out.c1
    have f0 : w1.cell? ⟨gf, 0, none⟩ = some (.int .u8 T) := HSF.out.cell 0
    go_upto_region 2 with fail
    go_quiet (fail)
    go_wp2_with fail
    go_ret2
    exact ⟨rfl, below_drewN HB1.out _⟩
end
/-- The block, ahead of frame i of a split. -/
def BkAt (w : World) (g B M : Nat) (st : Int) (en : Bool) (b : List UInt8) (p i : Nat) (v : Value) : Prop :=
  if i = 0 then ∃ wh st0 en0 D, Bk w g B M false wh st0 en0 v D ∧ D.length ≤ M
  else Bk w g B M (!decide (b.length ≤ i * p)) (decide (b.length ≤ i * p)) st en v (b.take (i * p)) ∧ (b.take (i * p)).length ≤ M
theorem spl_flags (x y : Bool) : (bits .and .u8 (((if x = true then 4 else 0) + (if y = true then 1 else 0) : Nat) : Int) 4 != 0) = x ∧ (bits .and .u8 (((if x = true then 4 else 0) + (if y = true then 1 else 0) : Nat) : Int) 1 != 0) = y := by
  cases x <;> cases y <;> decide
/-- Frame i of a split comes. -/
theorem bkAdd_step {w : World} {g B M : Nat} {st : Nat} {en : Bool} {b : List UInt8} {p i : Nat} {v : Value} {l : List Frm} (h : BkAt w g B M (st : Int) en b p i v) (hB : B ≤ w.heap.size) (hM : M ≤ 1000000) (hb : b.length ≤ 100000)
    (hsp : SplF st en p b l) (hgo : ∀ i, 0 < i → i < l.length → i * p < b.length) (hi : i < l.length) (hst : st < 2147483648) (hs0 : 0 < st) (hbs : frBs w l[i]) :
    Calls Try.prog 66 #[.pointer (some ⟨g, 0, none⟩), .agg (fraA (l[i].ty : Int) (l[i].fl : Int) (l[i].st : Int) l[i].raw)] w fun e w' =>
      (e = .returned (.tuple #[.bool (decide (b.length ≤ (i + 1) * p)), .int .i64 0]) ∧ (b.take ((i + 1) * p)).length ≤ M ∧ (∃ v', BkAt w' g B M (st : Int) en b p (i + 1) v') ∧ Fp (Sg g B) w w') ∨
      (e = .returned (.tuple #[.bool false, .int .i64 3]) ∧ M < (b.take ((i + 1) * p)).length ∧ Below w.heap.size w w') := by
  obtain ⟨h1, h2, h3, h4⟩ := hsp i hi
  have hcat : b.take (i * p) ++ (b.drop (i * p)).take p = b.take ((i + 1) * p) := by rw [Nat.succ_mul, List.take_add]
  have hfl : l[i].fl = (if decide (b.length ≤ (i + 1) * p) = true then 4 else 0) + (if decide (i = 0 ∧ en = true) = true then 1 else 0) := by
    rw [h2]; simp
  have hf4 : l[i].fl = 0 ∨ l[i].fl = 1 ∨ l[i].fl = 4 ∨ l[i].fl = 5 := by rw [h2]; split <;> split <;> simp
  obtain ⟨z, hz⟩ : ∃ z, decide (b.length ≤ (i + 1) * p) = z := ⟨_, rfl⟩
  obtain ⟨z1, hz1⟩ : ∃ z, decide (i = 0 ∧ en = true) = z := ⟨_, rfl⟩
  rw [hz, hz1] at hfl
  have hzz := spl_flags z z1
  rw [← hfl] at hzz
  have hll : l[i].rawb.length ≤ 1000000 := by rw [h4, List.length_take, List.length_drop]; omega
  unfold frBs at hbs
  by_cases h0 : i = 0
  · subst h0
    unfold BkAt at h
    rw [if_pos rfl] at h
    obtain ⟨wh, st0, en0, D, hbk, hD⟩ := h
    rw [if_pos rfl] at h1
    have hL : l[0].rawb.length = (b.take ((0 + 1) * p)).length := by rw [h4]; simp
    have hz1e : z1 = en := by rw [← hz1]; cases en <;> rfl
    rw [h1]
    by_cases hfit : (b.take ((0 + 1) * p)).length ≤ M
    · refine (bkAdd_first hbk hB hM hD l[0].fl l[0].st hf4 (by omega) (by rw [h3]; omega) _ _ rfl rfl l[0].raw l[0].rawb hbs hll z z1 hzz.1 hzz.2 (by omega)).mono ?_
      rintro e w' ⟨he, ⟨v', hk⟩, hf⟩
      refine .inl ⟨by rw [hz]; exact he, hfit, ⟨v', ?_⟩, hf⟩
      unfold BkAt
      rw [if_neg (by omega), hz, ← hz1e]
      rw [h4, h3, Nat.zero_mul, List.drop_zero] at hk
      refine ⟨?_, hfit⟩
      rw [Nat.zero_add, Nat.one_mul]
      exact hk
    · refine (bkAdd_firstOver hbk hB hM hD l[0].fl l[0].st hf4 (by omega) (by rw [h3]; omega) _ _ rfl rfl l[0].raw l[0].rawb hbs hll z z1 hzz.1 hzz.2 (by omega)).mono ?_
      rintro e w' ⟨he, hf⟩
      exact .inr ⟨he, by omega, hf⟩
  · unfold BkAt at h
    rw [if_neg h0] at h
    obtain ⟨hbk, hD⟩ := h
    rw [if_neg h0] at h1
    have hop : decide (b.length ≤ i * p) = false := decide_eq_false (by have := hgo i (by omega) hi; omega)
    rw [hop] at hbk
    have hL : (b.take (i * p)).length + l[i].rawb.length = (b.take ((i + 1) * p)).length := by rw [h4, ← hcat, List.length_append]
    rw [h1, h3]
    by_cases hfit : (b.take ((i + 1) * p)).length ≤ M
    · refine (bkAdd_next hbk hB hM hD l[i].fl st hf4 (by omega) (by omega) _ (st : Int) rfl rfl l[i].raw l[i].rawb hbs hll z z1 hzz.1 hzz.2 (by omega)).mono ?_
      rintro e w' ⟨he, ⟨v', hk⟩, hf⟩
      refine .inl ⟨by rw [hz]; exact he, hfit, ⟨v', ?_⟩, hf⟩
      unfold BkAt
      rw [if_neg (by omega), hz]
      rw [h4, hcat] at hk
      exact ⟨hk, hfit⟩
    · refine (bkAdd_nextOver hbk hB hM hD l[i].fl st hf4 (by omega) (by omega) _ (st : Int) rfl rfl l[i].raw l[i].rawb hbs hll z z1 hzz.1 hzz.2 (by omega)).mono ?_
      rintro e w' ⟨he, hf⟩
      exact .inr ⟨he, by omega, hf⟩
end Go.Proofs.Ytenoaljghbpaaaa
