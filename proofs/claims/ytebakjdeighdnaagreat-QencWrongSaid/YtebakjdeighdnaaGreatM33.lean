/-
  Texts put together: QpH, QpI, QpJ, QpK, QpL, QpM, QpN.
-/
import Derived.Test.YtebakjdeighdnaaGreatM25
import Derived.Shelf.SlMaps.DeleteFunc
import Derived.Test.YtebakjdeighdnaaGreatM17
import Derived.Deep.RegionHeld

/-
  Sections as the encoder's two maps hold them; a queue in a block; contract of the encoder's keep.
-/
namespace Go.Proofs.YtebakjdeighdnaaGreat
open Go.RowKit Go.Maps
set_option linter.unusedVariables false

/-! ### a queue in a block of its own -/
def Qb (w : World) (g a b : Nat) : Prop := w.heap[g]? = some (.cells #[.int .u64 (a : Int), .int .u64 (b : Int)] 121 (0, 0))
theorem Qb.new (w : World) (a b : Nat) : Qb (w.alloc (.cells #[.int .u64 (a : Int), .int .u64 (b : Int)] 121)) w.heap.size a b := heap_alloc_last w _
theorem Qb.lt {w : World} {g a b : Nat} (h : Qb w g a b) : g < w.heap.size := (Array.getElem?_eq_some_iff.1 h).1
theorem Qb.keep {w w' : World} {g a b : Nat} (h : Qb w g a b) (hb : Below w.heap.size w w') : Qb w' g a b := (hb.block g h.lt).trans h
theorem Qb.besides {w w' : World} {g a b : Nat} {S : Nat → Prop} (h : Qb w g a b) (hf : Fp S w w') (hn : ¬ S g) : Qb w' g a b := (hf.block g h.lt hn).trans h
theorem Qb.cells {w : World} {g a b : Nat} (h : Qb w g a b) : w.cell? ⟨g, 0, none⟩ = some (.int .u64 (a : Int)) ∧ w.cell? ⟨g, 1, none⟩ = some (.int .u64 (b : Int)) ∧ w.frozen? ⟨g, 0, none⟩ = false ∧ w.frozen? ⟨g, 1, none⟩ = false := by
  unfold Qb at h
  refine ⟨?_, ?_, ?_, ?_⟩ <;> simp [World.cell?, World.frozen?, h]
theorem Qb.put0 {w : World} {g a b : Nat} (h : Qb w g a b) (n : Nat) : Qb (w.setCell ⟨g, 0, none⟩ (.int .u64 (n : Int))) g n b := by
  unfold Qb at *
  simp [World.setCell, Array.getElem?_modify, h]
theorem Qb.put1 {w : World} {g a b : Nat} (h : Qb w g a b) (n : Nat) : Qb (w.setCell ⟨g, 1, none⟩ (.int .u64 (n : Int))) g a n := by
  unfold Qb at *
  simp [World.setCell, Array.getElem?_modify, h]
/-! ### sections in two maps -/
abbrev LvT := Nat → List (Value × Qs)
def secF (a : Nat → Nat) (LV : LvT) : Nat × Nat → Option DU := fun k => if a k.1 ≤ k.2 then ((LV k.1)[k.2 - a k.1]?).map fun x => sD x.1 else none
def queF (a : Nat → Nat) (LV : LvT) : Nat → Option DU := fun s => if (LV s).length = 0 then none else some (qD (a s) (a s + (LV s).length))
structure Lv (op : List Qs) (a : Nat → Nat) (LV : LvT) (N : Nat) : Prop where
  op : ∀ s, (LV s).map Prod.snd = secs op s
  bd : ∀ s, a s + (LV s).length ≤ N
  sl : ∀ s x, x ∈ LV s → ∃ b o n c, x.1 = .slice (some ⟨b, o, none⟩) n c
def Zl (LV : LvT) : World → Prop := fun W => ∀ s, ∀ x ∈ LV s, Un W x.1 (uq x.2.u)
theorem sR_of {v : Value} {b o n c : Nat} (h : v = .slice (some ⟨b, o, none⟩) n c) : sR v = some (sD v, []) := by subst h; rfl
/-- Where a stream's next section comes. -/
def nxt (a : Nat → Nat) (LV : LvT) (s : Nat) : Nat := if (LV s).length = 0 then 0 else a s + (LV s).length
def fst' (a : Nat → Nat) (LV : LvT) (s : Nat) : Nat := if (LV s).length = 0 then 0 else a s
theorem queF_get (a : Nat → Nat) (LV : LvT) (s : Nat) : (queF a LV s).getD (qD 0 0) = qD (fst' a LV s) (nxt a LV s) := by
  unfold queF fst' nxt
  split <;> rfl
def addV (LV : LvT) (s : Nat) (y : Value × Qs) : LvT := fun t => if t = s then LV s ++ [y] else LV t
def addA (a : Nat → Nat) (LV : LvT) (s : Nat) : Nat → Nat := fun t => if t = s then fst' a LV s else a t
theorem secF_add (a : Nat → Nat) (LV : LvT) (s : Nat) (y : Value × Qs) (k : Nat × Nat) : secF (addA a LV s) (addV LV s y) k = if k = (s, nxt a LV s) then some (sD y.1) else secF a LV k := by
  obtain ⟨t, n⟩ := k
  unfold secF addA addV
  simp only
  by_cases ht : t = s
  · subst ht
    rw [if_pos rfl, if_pos rfl]
    unfold fst' nxt
    by_cases h0 : (LV t).length = 0
    · rw [if_pos h0, if_pos h0, if_pos (Nat.zero_le _)]
      have hl : LV t = [] := List.eq_nil_of_length_eq_zero h0
      rw [hl]
      by_cases hn : n = 0
      · subst hn
        rw [if_pos rfl]
        rfl
      · rw [if_neg (show ¬ (t, n) = (t, 0) from fun e => hn (by injection e))]
        rw [List.nil_append, List.getElem?_eq_none (by simp; omega)]
        split <;> simp
    · rw [if_neg h0, if_neg h0]
      by_cases hn : n = a t + (LV t).length
      · subst hn
        rw [if_pos rfl, if_pos (by omega), Nat.add_sub_cancel_left, List.getElem?_append_right (Nat.le_refl _)]
        simp
      · rw [if_neg (show ¬ (t, n) = (t, a t + (LV t).length) from fun e => hn (by injection e))]
        split
        · by_cases hlt : n - a t < (LV t).length
          · rw [List.getElem?_append_left hlt]
          · rw [List.getElem?_eq_none (by simp; omega), List.getElem?_eq_none (by omega)]
        · rfl
  · rw [if_neg ht, if_neg ht, if_neg (show ¬ (t, n) = (s, nxt a LV s) from fun e => ht (by injection e))]
theorem queF_add (a : Nat → Nat) (LV : LvT) (s : Nat) (y : Value × Qs) (t : Nat) : queF (addA a LV s) (addV LV s y) t = if t = s then some (qD (fst' a LV s) (nxt a LV s + 1)) else queF a LV t := by
  unfold queF addA addV
  by_cases ht : t = s
  · subst ht
    rw [if_pos rfl, if_pos rfl, if_pos rfl, if_neg (by simp), List.length_append, List.length_singleton]
    unfold fst' nxt
    by_cases h0 : (LV t).length = 0
    · rw [if_pos h0, if_pos h0, h0]
    · rw [if_neg h0, if_neg h0, Nat.add_assoc]
  · rw [if_neg ht, if_neg ht, if_neg ht]
theorem nxt_le {op : List Qs} {a : Nat → Nat} {LV : LvT} {N : Nat} (h : Lv op a LV N) (s : Nat) : fst' a LV s ≤ N ∧ nxt a LV s ≤ N := by
  have := h.bd s
  unfold fst' nxt
  split <;> omega
theorem Lv.add {op : List Qs} {a : Nat → Nat} {LV : LvT} {N : Nat} (h : Lv op a LV N) {y : Value × Qs} (hy : ∃ b o n c, y.1 = .slice (some ⟨b, o, none⟩) n c) : Lv (op ++ [y.2]) (addA a LV y.2.s) (addV LV y.2.s y) (N + 1) := by
  refine ⟨fun s => ?_, fun s => ?_, fun s x hx => ?_⟩
  · rw [secs_snoc]
    unfold addV
    by_cases hs : s = y.2.s
    · rw [if_pos hs, if_pos hs.symm, List.map_append, ← hs, h.op s]
      rfl
    · rw [if_neg hs, if_neg (fun e => hs e.symm), List.append_nil, h.op s]
  · have := h.bd s
    unfold addA addV fst'
    by_cases hs : s = y.2.s
    · rw [if_pos hs, if_pos hs, List.length_append, List.length_singleton, ← hs]
      split <;> omega
    · rw [if_neg hs, if_neg hs]
      omega
  · unfold addV at hx
    by_cases hs : s = y.2.s
    · rw [if_pos hs] at hx
      rcases List.mem_append.1 hx with hx | hx
      · exact h.sl _ x hx
      · rw [List.mem_singleton.1 hx]; exact hy
    · rw [if_neg hs] at hx
      exact h.sl _ x hx
theorem Zl.add {LV : LvT} {y : Value × Qs} {W : World} (h : Zl LV W) (hy : Un W y.1 (uq y.2.u)) : Zl (addV LV y.2.s y) W := fun s x hx => by
  unfold addV at hx
  by_cases hs : s = y.2.s
  · rw [if_pos hs] at hx
    rcases List.mem_append.1 hx with hx | hx
    · exact h _ x hx
    · rw [List.mem_singleton.1 hx]; exact hy
  · rw [if_neg hs] at hx
    exact h _ x hx

section
variable {q p bs bq bu bb : Nat} {X Y : Qc} {Z Z' : World → Prop} {vR : Value} {S1 S2 S : Nat → Prop} {w w' : World} {a : Nat → Nat} {LV : LvT} {op : List Qs}
theorem Pr.besides (h : Pr q p X Z bs bq bu bb vR S1 S2 w) {S' : Nat → Prop} (hf : Fp S' w w') (hd : ∀ k, Pset q bs bq bu bb S1 S2 k → ¬ S' k) : Pr q p X Z bs bq bu bb vR S1 S2 w' :=
  h.kept hf.size fun k hk => hf.block k (h.lt k hk) (hd k hk)
theorem Pr.lookQ (h : Pr q p X Z bs bq bu bb vR S1 S2 w) {s x y : Nat} (hs : okU s) (hq : (X.gQ s).getD (qD 0 0) = qD x y) :
    (Instr.lookup 59 (.map (some bq)) (.int .u64 (s : Int)) false).run Tryz.prog w = .ok (.agg #[.int .u64 (x : Int), .int .u64 (y : Int)]) w := by
  obtain ⟨v, ps, hrun, hv⟩ := h.mq.look uLaw Tryz.underlying59 hs (zeroQue w) (qR_mk 0 0) (keyOf_u hs)
  rw [hq] at hv
  rw [hrun, qR_inv hv]
theorem Pr.lookQok (h : Pr q p X Z bs bq bu bb vR S1 S2 w) {s x y : Nat} (hs : okU s) (hq : (X.gQ s).getD (qD 0 0) = qD x y) :
    (Instr.lookup 59 (.map (some bq)) (.int .u64 (s : Int)) true).run Tryz.prog w = .ok (.tuple #[.agg #[.int .u64 (x : Int), .int .u64 (y : Int)], .bool (X.gQ s).isSome]) w := by
  obtain ⟨v, ps, hrun, hv⟩ := h.mq.look_ok uLaw Tryz.underlying59 hs (zeroQue w) (qR_mk 0 0) (keyOf_u hs)
  rw [hq] at hv
  rw [hrun, qR_inv hv]
theorem Pr.putS (h : Pr q p X Z bs bq bu bb vR S1 S2 w) (hN : X.N < 1000000000) {s n : Nat} (hk : okM (s, n)) {v : Value} (hv : sR v = some (sD v, [])) :
    ∃ w', (Instr.mapUpdate 58 (.map (some bs)) (.agg #[.int .u64 (s : Int), .int .u64 (n : Int)]) v).run Tryz.prog w = .ok () w' ∧
      Pr q p { X with N := X.N + 1, gS := fun k => if k = (s, n) then some (sD v) else X.gS k } Z bs bq bu bb vR S1 S2 w' ∧ Fp (Pset q bs bq bu bb S1 S2) w w' := by
  obtain ⟨w', hrun, ho, hg⟩ := Mo.put mkLaw klM Tryz.underlying58 h.ms hN hk (keyOf_m hk) hv
  obtain ⟨h1, h2⟩ := (h.more (Nat.le_succ X.N)).turnS hg ho
  exact ⟨w', hrun, h1, h2⟩
theorem Pr.putQ (h : Pr q p X Z bs bq bu bb vR S1 S2 w) (hN : X.N < 1000000000) {s x y : Nat} (hs : okU s) :
    ∃ w', (Instr.mapUpdate 59 (.map (some bq)) (.int .u64 (s : Int)) (.agg #[.int .u64 (x : Int), .int .u64 (y : Int)])).run Tryz.prog w = .ok () w' ∧
      Pr q p { X with N := X.N + 1, gQ := fun k => if k = s then some (qD x y) else X.gQ k } Z bs bq bu bb vR S1 S2 w' ∧ Fp (Pset q bs bq bu bb S1 S2) w w' := by
  obtain ⟨w', hrun, ho, hg⟩ := Mo.put uLaw klU Tryz.underlying59 h.mq hN hs (keyOf_u hs) (qR_mk x y)
  obtain ⟨h1, h2⟩ := (h.more (Nat.le_succ X.N)).turnQ hg ho
  exact ⟨w', hrun, h1, h2⟩
theorem Pr.reS (h : Pr q p X Z bs bq bu bb vR S1 S2 w) {g : Nat × Nat → Option DU} {g' : Nat → Option DU} (hg : ∀ k, X.gS k = g k) (hg' : ∀ k, X.gQ k = g' k) : Pr q p { X with gS := g, gQ := g' } Z bs bq bu bb vR S1 S2 w := by
  have : X.gS = g := funext hg
  subst this
  have : X.gQ = g' := funext hg'
  subst this
  exact h

set_option maxRecDepth 100000 in
set_option maxHeartbeats 4000000 in
/-- A section that uses places is kept. -/
theorem keep_any (h : Raw q p X (Zl LV) w S) (hl : Lv op a LV X.N) (hS : X.gS = secF a LV) (hQ : X.gQ = queF a LV) (hN : X.N + 1 < 1000000000) {v : Value} {x : Qs} (hs : okU x.s) (hv : ∃ b o n c, v = .slice (some ⟨b, o, none⟩) n c) (hne : 0 < (uq x.u).length)
    {S3 : Nat → Prop} (ho : Ob (fun W => Un W v (uq x.u)) w S3) (hd : ∀ k, S3 k → ¬ S k) :
    Calls Tryz.prog 26 #[.pointer (some ⟨q, 0, none⟩), .int .u64 (x.s : Int), v] w fun e w' => e = .returned (.tuple #[]) ∧
      ∃ S', Raw q p { X with N := X.N + 2, gS := secF (addA a LV x.s) (addV LV x.s (v, x)), gQ := queF (addA a LV x.s) (addV LV x.s (v, x)) } (Zl (addV LV x.s (v, x))) w' S' ∧ (∀ k, S' k → S k ∨ S3 k) ∧ Fp S w w' := by
  obtain ⟨bs, bq, bu, bb, vR, S1, S2, h, hSS⟩ := h
  have HS := Bx.mk hSS
  have hlt := h.lt
  have hun := ho.get
  have hlen := fun ty W => hun.run_len ty W
  obtain ⟨hb1, hb2⟩ := nxt_le hl x.s
  obtain ⟨nn, hnn⟩ : ∃ nn, nxt a LV x.s = nn := ⟨_, rfl⟩
  obtain ⟨ff, hff⟩ : ∃ ff, fst' a LV x.s = ff := ⟨_, rfl⟩
  have hlq := h.lookQ (x := ff) (y := nn) hs (by rw [hQ, queF_get, hnn, hff])
  rw [hnn] at hb2
  obtain ⟨n1, hn1⟩ : ∃ n1, nn + 1 = n1 := ⟨_, rfl⟩
  -- the queue's own block
  obtain ⟨g, hg⟩ : ∃ g, w.heap.size = g := ⟨_, rfl⟩
  have hbA := (Below.refl w.heap.size w).alloc (Nat.le_refl _) (.cells #[.int .u64 (ff : Int), .int .u64 (nn : Int)] 121)
  have qbA := Qb.new w ff nn
  obtain ⟨wA, hwA⟩ : ∃ wA, w.alloc (.cells #[.int .u64 (ff : Int), .int .u64 (nn : Int)] 121) = wA := ⟨_, rfl⟩
  rw [hwA] at hbA qbA
  rw [hg] at qbA
  have hgn : ¬ Pset q bs bq bu bb S1 S2 g := fun hk => by have := hlt g hk; omega
  have hA := (h.keep hbA).keep (Below.refl wA.heap.size wA).drew
  have qbA' := qbA.keep (Below.refl wA.heap.size wA).drew
  obtain ⟨w1, r1, h1, f1⟩ := hA.putS (by omega) (s := x.s) (n := nn) ⟨hs, by unfold okU; omega⟩ (sR_of hv.choose_spec.choose_spec.choose_spec.choose_spec)
  have qb1 := qbA'.besides f1 hgn
  have qb2 := qb1.put1 n1
  have f2 : Fp (fun k => k = g) w1 (w1.setCell ⟨g, 1, none⟩ (.int .u64 (n1 : Int))) := Fp.set _ _ _ _ rfl
  have h2 := h1.besides f2 fun k hk e => hgn (e ▸ hk)
  obtain ⟨w2, hw2⟩ : ∃ w2, w1.setCell ⟨g, 1, none⟩ (.int .u64 (n1 : Int)) = w2 := ⟨_, rfl⟩
  rw [hw2] at qb2 f2 h2
  have h2' := h2.keep (Below.refl w2.heap.size w2).drew
  have qb2' := qb2.keep (Below.refl w2.heap.size w2).drew
  obtain ⟨w3, r3, h3, f3⟩ := h2'.putQ (show X.N + 1 < 1000000000 by omega) (x := ff) (y := n1) hs
  -- cells
  obtain ⟨c0, _, _, _, c4, c5, _⟩ := h.cells
  obtain ⟨d0, _, _, _, d4, d5, _⟩ := hA.cells
  obtain ⟨e0, _, _, _, e4, e5, _⟩ := h2'.cells
  obtain ⟨g0, g1, g2, g3⟩ := qbA'.cells
  obtain ⟨k0, k1, k2, k3⟩ := qb1.cells
  obtain ⟨m0, m1, m2, m3⟩ := qb2'.cells
  have hwr : IntKind.u64.wrap ((nn : Int) + 1) = (n1 : Int) := by rw [IntKind.wrap_u64]; omega
  have HFIN : Bx (∃ S', Raw q p { X with N := X.N + 2, gS := secF (addA a LV x.s) (addV LV x.s (v, x)), gQ := queF (addA a LV x.s) (addV LV x.s (v, x)) } (Zl (addV LV x.s (v, x))) w3 S' ∧ (∀ k, S' k → S k ∨ S3 k) ∧ Fp S w w3) := ⟨by
    have fAll : Fp (fun k => Pset q bs bq bu bb S1 S2 k ∨ w.heap.size ≤ k) w w3 :=
      ((Fp.of_below hbA).then (Fp.of_below ((Below.refl wA.heap.size wA).drew.mono (Nat.le_refl _)))).then ((f1.mono fun k hk => .inl hk).then (((f2.mono fun k hk => .inr (by omega)) : Fp (fun k => Pset q bs bq bu bb S1 S2 k ∨ w.heap.size ≤ k) w1 w2).then ((Fp.of_below (Below.refl w2.heap.size w2).drew).then (f3.mono fun k hk => .inl hk))))
    have fS : Fp S w w3 := ⟨fAll.os, fAll.tape, fAll.output, fAll.size, fun k hk hn => fAll.block k hk fun hh => hh.elim (fun hh => hn ((HS.out k).2 hh)) fun hh => by omega⟩
    have hd' : ∀ k, S3 k → ¬ Pset q bs bq bu bb S1 S2 k := fun k hk hp => hd k hk ((HS.out k).2 hp)
    have hob3 : Ob (fun W => Un W v (uq x.u)) w3 S3 := (Wd.ob _).besides ho fS hd
    have hz := (h3.addZ hob3 fun k hk => ⟨fun e => hd' k hk (.inl e), fun e => hd' k hk (.inr (.inr (.inl e))), fun e => hd' k hk (.inr (.inr (.inr (.inl e)))), fun e => hd' k hk (.inr (.inr (.inr (.inr (.inl e))))), fun e => hd' k hk (.inr (.inr (.inr (.inr (.inr (.inl e)))))), fun e => hd' k hk (.inr (.inr (.inr (.inr (.inr (.inr e))))))⟩).reZ (Z' := Zl (addV LV x.s (v, x))) fun W hW => Zl.add (y := (v, x)) hW.1 hW.2
    have hre := hz.reS (g := secF (addA a LV x.s) (addV LV x.s (v, x))) (g' := queF (addA a LV x.s) (addV LV x.s (v, x))) (fun k => by rw [secF_add]; show (if k = (x.s, nn) then _ else X.gS k) = _; rw [hS, hnn]) (fun k => by rw [queF_add]; show (if k = x.s then _ else X.gQ k) = _; rw [hQ, hnn, hff, hn1])
    refine ⟨_, hre.raw, fun k hk => ?_, fS⟩
    rcases hk with hk | (hk | hk) | hk
    · exact .inl ((HS.out k).2 (.inl hk))
    · exact .inl ((HS.out k).2 (.inr (.inl hk)))
    · exact .inr hk
    · exact .inl ((HS.out k).2 (.inr (.inr hk)))⟩
  obtain ⟨SS, hSx⟩ := letter x.s
  obtain ⟨L, hL⟩ := letter (uq x.u).length
  have hd0 : (L == 0) = false := by rw [beq_eq_false_iff_ne]; omega
  simp only [hL] at hlen
  rw [hSx] at hlq r1 r3
  rw [hSx]
  clear h hA h1 h2 h2' h3 f1 f2 f3 qbA qbA' qb1 qb2 qb2' ho hd hl hun hS hQ hN hs hv hne hlt hb1 hb2 hnn hff hbA hgn hSx hL hSS hn1
  go_enter Tryz.func26, Tryz.ntmps26
  go_wp2_with fail
  go_region
  go_wp2_with fail
  go_region
  go_wp2_with fail
  go_end0
  exact ⟨rfl, HFIN.out⟩
end
end Go.Proofs.YtebakjdeighdnaaGreat

/-
  A stream's first section goes: its maps; contract of the encoder's forget.
-/
namespace Go.Proofs.YtebakjdeighdnaaGreat
open Go.RowKit Go.Maps
set_option linter.unusedVariables false

/-! ### a mark in a block of its own -/
def Mk2 (w : World) (g a b : Nat) : Prop := w.heap[g]? = some (.cells #[.int .u64 (a : Int), .int .u64 (b : Int)] 123 (0, 0))
theorem Mk2.new (w : World) (a b : Nat) : Mk2 (w.alloc (.cells #[.int .u64 (a : Int), .int .u64 (b : Int)] 123)) w.heap.size a b := heap_alloc_last w _
theorem Mk2.lt {w : World} {g a b : Nat} (h : Mk2 w g a b) : g < w.heap.size := (Array.getElem?_eq_some_iff.1 h).1
theorem Mk2.keep {w w' : World} {g a b : Nat} (h : Mk2 w g a b) (hb : Below w.heap.size w w') : Mk2 w' g a b := (hb.block g h.lt).trans h
theorem Mk2.cells {w : World} {g a b : Nat} (h : Mk2 w g a b) : w.cell? ⟨g, 0, none⟩ = some (.int .u64 (a : Int)) ∧ w.cell? ⟨g, 1, none⟩ = some (.int .u64 (b : Int)) := by
  unfold Mk2 at h
  refine ⟨?_, ?_⟩ <;> simp [World.cell?, h]

/-! ### the first section goes -/
def popV (LV : LvT) (s : Nat) : LvT := fun t => if t = s then (LV s).tail else LV t
def popA (a : Nat → Nat) (s : Nat) : Nat → Nat := fun t => if t = s then a s + 1 else a t
theorem secF_pop (a : Nat → Nat) (LV : LvT) (s : Nat) (hne : LV s ≠ []) (k : Nat × Nat) : secF (popA a s) (popV LV s) k = if k = (s, a s) then none else secF a LV k := by
  obtain ⟨t, n⟩ := k
  unfold secF popA popV
  simp only
  by_cases ht : t = s
  · subst ht
    rw [if_pos rfl, if_pos rfl]
    by_cases hn : n = a t
    · subst hn
      rw [if_pos (show (t, a t) = (t, a t) from rfl), if_neg (by omega)]
    · rw [if_neg (show ¬ (t, n) = (t, a t) from fun e => hn (by injection e))]
      by_cases h1 : a t + 1 ≤ n
      · rw [if_pos h1, if_pos (by omega)]
        obtain ⟨d, rfl⟩ : ∃ d, n = a t + 1 + d := ⟨n - (a t + 1), by omega⟩
        rw [Nat.add_sub_cancel_left, show a t + 1 + d - a t = d + 1 by omega, List.getElem?_tail]
      · rw [if_neg h1, if_neg (by omega)]
  · rw [if_neg ht, if_neg ht, if_neg (show ¬ (t, n) = (s, a s) from fun e => ht (by injection e))]
theorem queF_pop (a : Nat → Nat) (LV : LvT) (s : Nat) (hne : LV s ≠ []) (t : Nat) : queF (popA a s) (popV LV s) t = if t = s then (if (LV s).length = 1 then none else some (qD (a s + 1) (a s + (LV s).length))) else queF a LV t := by
  have hl : 0 < (LV s).length := List.length_pos_iff.2 hne
  unfold queF popA popV
  by_cases ht : t = s
  · subst ht
    rw [if_pos rfl, if_pos rfl, if_pos rfl, List.length_tail]
    by_cases h1 : (LV t).length = 1
    · rw [if_pos h1, if_pos (by omega)]
    · rw [if_neg h1, if_neg (by omega), show a t + 1 + ((LV t).length - 1) = a t + (LV t).length by omega]
  · rw [if_neg ht, if_neg ht, if_neg ht]
theorem Lv.pop {op : List Qs} {a : Nat → Nat} {LV : LvT} {N s : Nat} (h : Lv op a LV N) (hne : LV s ≠ []) : Lv (dropS op s) (popA a s) (popV LV s) N := by
  have hl : 0 < (LV s).length := List.length_pos_iff.2 hne
  refine ⟨fun t => ?_, fun t => ?_, fun t x hx => ?_⟩
  · unfold popV
    by_cases ht : t = s
    · subst ht
      rw [if_pos rfl, secs_drop_same, ← h.op t, List.map_tail]
    · rw [if_neg ht, secs_drop_other ht, h.op t]
  · have h1 := h.bd t
    have h2 := h.bd s
    unfold popA popV
    by_cases ht : t = s
    · subst ht
      rw [if_pos rfl, if_pos rfl, List.length_tail]
      omega
    · rw [if_neg ht, if_neg ht]; exact h1
  · unfold popV at hx
    by_cases ht : t = s
    · rw [if_pos ht] at hx
      exact h.sl _ x (List.mem_of_mem_tail hx)
    · rw [if_neg ht] at hx
      exact h.sl _ x hx
theorem Zl.pop {LV : LvT} {W : World} (h : Zl LV W) (s : Nat) : Zl (popV LV s) W := fun t x hx => by
  unfold popV at hx
  by_cases ht : t = s
  · rw [if_pos ht] at hx
    exact h _ x (List.mem_of_mem_tail hx)
  · rw [if_neg ht] at hx
    exact h _ x hx
def dropAll (c : Nat → Nat) (l : List Nat) : Nat → Nat := l.foldl dropU c
theorem dropAll_snoc (c : Nat → Nat) (l : List Nat) (i : Nat) : dropAll c (l ++ [i]) = dropU (dropAll c l) i := by unfold dropAll; rw [List.foldl_append]; rfl
theorem dropAll_take {c : Nat → Nat} {l : List Nat} {k : Nat} (hk : k < l.length) : dropAll c (l.take (k + 1)) = dropU (dropAll c (l.take k)) l[k] := by rw [List.take_succ_eq_append_getElem hk, dropAll_snoc]
theorem dropAll_get (j : Nat) : ∀ (l : List Nat) (c : Nat → Nat), l.Nodup → dropAll c l j = if j ∈ l then c j - 1 else c j
  | [], c, _ => by simp [dropAll]
  | i :: l, c, hn => by
    obtain ⟨h1, h2⟩ := List.nodup_cons.1 hn
    show dropAll (dropU c i) l j = _
    rw [dropAll_get j l _ h2]
    unfold dropU
    by_cases hj : j = i
    · subst hj
      rw [if_neg h1, if_pos rfl, if_pos (List.mem_cons_self ..)]
    · rw [if_neg hj]
      by_cases hm : j ∈ l
      · rw [if_pos hm, if_pos (List.mem_cons_of_mem _ hm)]
      · rw [if_neg hm, if_neg (fun h => (List.mem_cons.1 h).elim hj hm)]
theorem dropAll_at {c : Nat → Nat} {l : List Nat} (hn : l.Nodup) {k : Nat} (hk : k < l.length) : dropAll c (l.take k) l[k] = c l[k] := by
  rw [dropAll_get _ _ _ (List.Sublist.nodup (List.take_sublist _ _) hn), if_neg]
  intro hm
  obtain ⟨j, hj, e⟩ := List.getElem_of_mem hm
  rw [List.length_take] at hj
  rw [List.getElem_take] at e
  exact List.pairwise_iff_getElem.1 hn j k (by omega) hk (by omega) e

section
variable {q p bs bq bu bb : Nat} {X Y : Qc} {Z Z' : World → Prop} {vR : Value} {S1 S2 S : Nat → Prop} {w w' : World} {a : Nat → Nat} {LV : LvT} {op : List Qs} {c : Nat → Nat}
theorem Pr.oldQ (h : Pr q p X Z bs bq bu bb vR S1 S2 w) (hN : X.N < 1000000000) {s x y : Nat} (hs : okU s) (ho : (X.gQ s).isSome = true) :
    ∃ w', (Instr.mapUpdate 59 (.map (some bq)) (.int .u64 (s : Int)) (.agg #[.int .u64 (x : Int), .int .u64 (y : Int)])).run Tryz.prog w = .ok () w' ∧
      Pr q p { X with gQ := fun k => if k = s then some (qD x y) else X.gQ k } Z bs bq bu bb vR S1 S2 w' ∧ Fp (Pset q bs bq bu bb S1 S2) w w' := by
  obtain ⟨w', hrun, ho, hg⟩ := Mo.put_old uLaw klU Tryz.underlying59 h.mq hN hs ho (keyOf_u hs) (qR_mk x y)
  obtain ⟨h1, h2⟩ := h.turnQ hg ho
  exact ⟨w', hrun, h1, h2⟩
theorem Pr.delQ (h : Pr q p X Z bs bq bu bb vR S1 S2 w) {s : Nat} (hs : okU s) (ty : TypeId) :
    ∃ w', (Builtin.delete_ #[59, 32] ty #[.map (some bq), .int .u64 (s : Int)]).run Tryz.prog w = .ok (.tuple #[]) w' ∧
      Pr q p { X with gQ := fun j => if j = s then none else X.gQ j } Z bs bq bu bb vR S1 S2 w' ∧ Fp (Pset q bs bq bu bb S1 S2) w w' := by
  obtain ⟨w', hrun, ho, hg⟩ := Mo.drop uLaw klU Tryz.underlying59 h.mq hs (keyOf_u hs) ty
  obtain ⟨h1, h2⟩ := h.turnQ hg ho
  exact ⟨w', hrun, h1, h2⟩
theorem Pr.delS (h : Pr q p X Z bs bq bu bb vR S1 S2 w) {s n : Nat} (hk : okM (s, n)) (ty : TypeId) :
    ∃ w', (Builtin.delete_ #[58, 123] ty #[.map (some bs), .agg #[.int .u64 (s : Int), .int .u64 (n : Int)]]).run Tryz.prog w = .ok (.tuple #[]) w' ∧
      Pr q p { X with gS := fun j => if j = (s, n) then none else X.gS j } Z bs bq bu bb vR S1 S2 w' ∧ Fp (Pset q bs bq bu bb S1 S2) w w' := by
  obtain ⟨w', hrun, ho, hg⟩ := Mo.drop mkLaw klM Tryz.underlying58 h.ms hk (keyOf_m hk) ty
  obtain ⟨h1, h2⟩ := h.turnS hg ho
  exact ⟨w', hrun, h1, h2⟩
theorem Pr.lookS (h : Pr q p X Z bs bq bu bb vR S1 S2 w) {s n : Nat} (hk : okM (s, n)) {v : Value} (hv : sR v = some (sD v, [])) (hg : X.gS (s, n) = some (sD v)) :
    (Instr.lookup 58 (.map (some bs)) (.agg #[.int .u64 (s : Int), .int .u64 (n : Int)]) false).run Tryz.prog w = .ok v w := by
  obtain ⟨u, ps, hrun, hu⟩ := h.ms.look mkLaw Tryz.underlying58 hk (zeroSl w) (show sR (.slice none 0 0) = some (.agg [], []) from rfl) (keyOf_m hk)
  rw [hg] at hu
  rw [hrun, sR_inv hu hv]

set_option maxRecDepth 100000 in
set_option maxHeartbeats 4000000 in
/-- A stream without sections. -/
theorem forget_none (h : Raw q p X Z w S) (hQ : X.gQ = queF a LV) {s : Nat} (hs : okU s) (h0 : LV s = []) :
    Calls Tryz.prog 102 #[.pointer (some ⟨q, 0, none⟩), .int .u64 (s : Int)] w fun e w' => e = .returned (.tuple #[.int .u64 0, .bool false]) ∧ Below w.heap.size w w' := by
  obtain ⟨bs, bq, bu, bb, vR, S1, S2, h, hSS⟩ := h
  have hn : X.gQ s = none := by rw [hQ]; unfold queF; rw [h0]; rfl
  have hlq := h.lookQok (x := 0) (y := 0) hs (by rw [hn]; rfl)
  rw [hn] at hlq
  simp only [Option.isSome_none] at hlq
  rw [show ((0 : Nat) : Int) = 0 from rfl] at hlq
  obtain ⟨c0, _, _, _, _, c5, _⟩ := h.cells
  have HB := Bx.mk ((Below.refl w.heap.size w).alloc (Nat.le_refl _) (.cells #[.int .u64 0, .int .u64 0] 121))
  obtain ⟨SS, hSx⟩ := letter s
  rw [hSx] at hlq ⊢
  clear h hSS hQ h0 hn hs hSx
  go_enter Tryz.func102, Tryz.ntmps102
  go_wp2_with fail
  go_ret2
  exact ⟨rfl, HB.out⟩
end
end Go.Proofs.YtebakjdeighdnaaGreat

/-
  Contract of the encoder's forget: a stream that has sections.
-/
namespace Go.Proofs.YtebakjdeighdnaaGreat
open Go.RowKit Go.Maps
set_option linter.unusedVariables false

section
variable {q p bs bq bu bb : Nat} {X Y : Qc} {Z Z' : World → Prop} {vR : Value} {S1 S2 S : Nat → Prop} {w w' : World} {a : Nat → Nat} {LV : LvT} {op : List Qs} {c : Nat → Nat}
set_option maxRecDepth 100000 in
set_option maxHeartbeats 8000000 in
theorem forget_some (h : Raw q p X (Zl LV) w S) (hl : Lv op a LV X.N) (hS : X.gS = secF a LV) (hQ : X.gQ = queF a LV) (hU : X.gU = useF c) (hN : X.N < 1000000000) {s : Nat} (hs : okU s) {y : Value × Qs} (h0 : (LV s).head? = some y)
    (hpl : ∀ i ∈ y.2.u, i ≤ 1000000 ∧ 0 < c i ∧ c i ≤ 1000000000) :
    Calls Tryz.prog 102 #[.pointer (some ⟨q, 0, none⟩), .int .u64 (s : Int)] w fun e w' => e = .returned (.tuple #[.int .u64 (ctN (uq y.2.u) : Int), .bool true]) ∧
      Turn (Raw q p { X with gS := secF (popA a s) (popV LV s), gQ := queF (popA a s) (popV LV s), gU := useF (dropAll c (uq y.2.u)) } (Zl (popV LV s))) S w w' := by
  obtain ⟨bs, bq, bu, bb, vR, S1, S2, h, hSS⟩ := h
  have HS := Bx.mk hSS
  have hlt := h.lt
  obtain ⟨x0, lt, hLs⟩ : ∃ x0 lt, LV s = x0 :: lt := by
    cases hx : LV s with
    | nil => rw [hx] at h0; cases h0
    | cons x0 lt => exact ⟨x0, lt, rfl⟩
  obtain rfl : x0 = y := by rw [hLs] at h0; exact Option.some.inj h0
  have hne : LV s ≠ [] := by rw [hLs]; exact List.cons_ne_nil _ _
  have hmem : x0 ∈ LV s := by rw [hLs]; exact List.mem_cons_self ..
  have hlen0 : 0 < (LV s).length := List.length_pos_iff.2 hne
  obtain ⟨vb, vo, vn, vc, hv⟩ := hl.sl s x0 hmem
  obtain ⟨v, us⟩ := x0
  simp only at hv
  have hun := h.z s _ hmem
  simp only at hun hpl
  have hbd := hl.bd s
  have HQV := Bx.mk (queF_pop a LV s hne)
  have HSV := Bx.mk (secF_pop a LV s hne)
  obtain ⟨ff, hff⟩ : ∃ ff, a s = ff := ⟨_, rfl⟩
  obtain ⟨nn, hnn⟩ : ∃ nn, a s + (LV s).length = nn := ⟨_, rfl⟩
  obtain ⟨f1, hf1⟩ : ∃ f1, ff + 1 = f1 := ⟨_, rfl⟩
  have hqs : queF a LV s = some (qD ff nn) := by unfold queF; rw [if_neg (by omega), hnn, hff]
  have hlq := h.lookQok (x := ff) (y := nn) hs (by rw [hQ, hqs]; rfl)
  rw [hQ, hqs] at hlq
  simp only [Option.isSome_some] at hlq
  -- two blocks of the call's own
  obtain ⟨g, hg⟩ : ∃ g, w.heap.size = g := ⟨_, rfl⟩
  have hbA := (Below.refl w.heap.size w).alloc (Nat.le_refl _) (.cells #[.int .u64 (ff : Int), .int .u64 (nn : Int)] 121)
  have qbA := Qb.new w ff nn
  obtain ⟨wA, hwA⟩ : ∃ wA, w.alloc (.cells #[.int .u64 (ff : Int), .int .u64 (nn : Int)] 121) = wA := ⟨_, rfl⟩
  rw [hwA] at hbA qbA
  rw [hg] at qbA
  obtain ⟨g2, hg2⟩ : ∃ g2, wA.heap.size = g2 := ⟨_, rfl⟩
  have hbB0 := (Below.refl wA.heap.size wA).alloc (Nat.le_refl _) (.cells #[.int .u64 (s : Int), .int .u64 (ff : Int)] 123)
  have mkB := Mk2.new wA s ff
  obtain ⟨wB, hwB⟩ : ∃ wB, wA.alloc (.cells #[.int .u64 (s : Int), .int .u64 (ff : Int)] 123) = wB := ⟨_, rfl⟩
  rw [hwB] at hbB0 mkB
  rw [hg2] at mkB
  have qbB := qbA.keep hbB0
  have hbB := hbA.trans (hbB0.mono hbA.size)
  have hgn : ¬ Pset q bs bq bu bb S1 S2 g := fun hk => by have := hlt g hk; omega
  have b1 := (Below.refl wB.heap.size wB).drew
  have b2 := (Below.refl wB.drew.heap.size wB.drew).drew
  have hB := h.keep hbB
  have hB1 := hB.keep b1
  have hB2 := hB1.keep b2
  have hlk : okM (s, ff) := ⟨hs, by unfold okU; omega⟩
  have hls := hB1.lookS hlk (sR_of hv) (by
    rw [hS]
    unfold secF
    simp only
    rw [if_pos (by omega), hff, Nat.sub_self, hLs]
    rfl)
  obtain ⟨w1, r1, h1, fd1⟩ := hB2.delS hlk 0
  have qb1 := ((qbB.keep b1).keep b2).besides fd1 hgn
  have fw1 : Fp (Pset q bs bq bu bb S1 S2) w w1 := (Fp.of_below hbB).then ((Fp.of_below b1).then ((Fp.of_below b2).then fd1))
  -- cells
  obtain ⟨c0, _, _, _, c4, c5, _⟩ := h.cells
  obtain ⟨k0, k1, _, _⟩ := qbB.cells
  obtain ⟨k0', k1', _, _⟩ := qbA.cells
  obtain ⟨d0, _, _, _, d4, d5, _⟩ := hB1.cells
  obtain ⟨e0, _, _, _, e4, e5, _⟩ := hB2.cells
  obtain ⟨m0, m1⟩ := (mkB.keep b1).cells
  obtain ⟨n0, n1⟩ := ((mkB.keep b1).keep b2).cells
  have hlen := fun ty W => hun.run_len ty W
  have HUN : Bx (∀ W, Zl LV W → Un W v (uq us.u)) := ⟨fun W hW => hW s _ hmem⟩
  have HAT : Bx (∀ k (hk : k < (uq us.u).length), ∃ b o : Nat, (∀ W : World, (Instr.indexAt 66 v (.int .i64 (k : Int))).run Tryz.prog W = .ok (.pointer (some ⟨b, o, none⟩)) W) ∧ ∀ W : World, Un W v (uq us.u) → W.cell? ⟨b, o, none⟩ = some (.int .u64 ((uq us.u)[k] : Int))) := ⟨fun k hk => hun.at_ k hk⟩
  have HPL : Bx (∀ i ∈ uq us.u, i ≤ 1000000 ∧ 0 < c i ∧ c i ≤ 1000000000) := ⟨fun i hi => hpl i (mem_uq.1 hi)⟩
  have HND := Bx.mk (uq_nodup us.u)
  have hmaxl : (uq us.u).length ≤ maxLen := by have := Rd.len hun; simpa using this
  generalize uq us.u = pl at hun hlen HUN HAT HPL HND hmaxl ⊢
  obtain ⟨L, hL⟩ : ∃ L, pl.length = L := ⟨_, rfl⟩
  rw [hL] at hlen hmaxl
  have HL := Bx.mk hL
  have hmax := Bx.mk hmaxl
  have HW1 := Bx.mk h1
  have HQB1 := Bx.mk qb1
  have HFW1 := Bx.mk fw1
  have HG : Bx (g < w1.heap.size ∧ w.heap.size ≤ g) := ⟨qb1.lt, by omega⟩
  have HGN := Bx.mk hgn
  have HU := Bx.mk hU
  have HN := Bx.mk hN
  have HSX := Bx.mk (And.intro hS hQ)
  have HOK := Bx.mk hs
  have HNUM : Bx (ff + 1 = f1 ∧ a s = ff ∧ a s + (LV s).length = nn ∧ queF a LV s = some (qD ff nn) ∧ f1 ≤ 1000000001) := ⟨hf1, hff, hnn, hqs, by omega⟩
  have hwr : IntKind.u64.wrap ((ff : Int) + 1) = (f1 : Int) := by rw [IntKind.wrap_u64]; omega
  obtain ⟨SS, hSx⟩ := letter s
  have HSX2 := Bx.mk hSx
  rw [hSx] at hlq hwB hls r1 m0 n0
  rw [hSx]
  clear h hB hB1 hB2 h1 fd1 qbA qbB qb1 mkB hl hun hS hQ hU hN hs h0 hpl hLs hne hmem hlen0 hbd hff hnn hf1 hqs hbA hbB0 hbB hgn b1 b2 hlk fw1 hL hmaxl hSx hlt hSS hv
  go_enter Tryz.func102, Tryz.ntmps102
  go_wp2_with fail
  go_region
  go_wp2_with fail
  go_region
  go_wp2_with fail
  have hle1 : w.heap.size ≤ w1.heap.size := HFW1.out.size
  have HLE := Bx.mk hle1
  clear hlq hls r1 c0 c4 c5 k0 k1 k0' k1' d0 d4 d5 e0 e4 e5 m0 m1 n0 n1 hwA hwB hle1
  go_loopg [40] L (fun n s40 wx => ∃ k : Nat, k + n = L ∧ s40 = .int .i64 k ∧ Bx (Turn (Raw q p { X with gS := (fun j => if j = (s, ff) then none else X.gS j), gU := useF (dropAll c (pl.take k)) } (Zl LV)) (Pset q bs bq bu bb S1 S2) w1 wx))
  case atStart => exact ⟨0, by omega, rfl, ⟨⟨_, (HW1.out.reU (g := useF (dropAll c (pl.take 0))) (fun k => by show X.gU k = _; rw [HU.out]; rfl)).raw, fun k hk => .inl hk, Fp.refl _ _⟩⟩⟩
  case round =>
    obtain ⟨k, hkn, rfl, HR⟩ := hrel
    cases gk with
    | succ n =>
      have hkl : k < pl.length := by rw [HL.out]; omega
      have hkz : (k : Int) < (L : Int) := by omega
      have hkb : (k : Int) < 9223372036854775807 := by have := hmax.out; unfold maxLen at this; omega
      obtain ⟨Sx, hx, sx, fx⟩ := HR.out
      obtain ⟨b, o, hix, hcs⟩ := HAT.out k hkl
      have e0 := hcs wr (HUN.out wr hx.z)
      obtain ⟨hp1, hp2, hp3⟩ := HPL.out pl[k] (List.getElem_mem hkl)
      have hat := dropAll_at (c := c) HND.out hkl
      have hrel := release_any hx rfl HN.out (i := pl[k]) (by rw [hat]; exact hp2) (by rw [hat]; exact hp3) (by unfold okU; omega)
      have HREL : Bx (Calls Tryz.prog 121 #[.pointer (some ⟨q, 0, none⟩), .int .u64 (pl[k] : Int)] wr fun e w' => e = .returned (.tuple #[]) ∧ Bx (Turn (Raw q p { X with gS := (fun j => if j = (s, ff) then none else X.gS j), gU := useF (dropAll c (pl.take (k + 1))) } (Zl LV)) (Pset q bs bq bu bb S1 S2) w1 w')) := ⟨hrel.mono fun e w' hh => ⟨hh.1, ⟨by
        rw [dropAll_take hkl]
        exact Turn.step sx fx hh.2⟩⟩⟩
      clear hrel hx sx fx hcs hp1 hp2 hp3 hat HR
      generalize pl[k] = z at e0 HREL
      obtain ⟨ZZ, hZZ⟩ := letter z
      rw [hZZ] at e0 HREL
      clear hZZ
      go_wp2_with (go_at_call 121; refine HREL.out.mono ?_; rintro e w2 ⟨rfl, HR2⟩)
      go_roundg n
      case measure => omega
      case rel => exact ⟨k + 1, by omega, by go_num, HR2⟩
    | zero =>
      obtain rfl : k = L := by omega
      obtain ⟨Sx, hx, sx, fx⟩ := HR.out
      rw [← HL.out, List.take_length] at hx
      obtain ⟨bs', bq', bu', bb', vR', S1', S2', hp, hPS⟩ := hx
      have hgP : ¬ Pset q bs' bq' bu' bb' S1' S2' g := fun hk => (sx g ((hPS g).2 hk)).elim HGN.out fun hge => by have := HG.out.1; omega
      have qbr := HQB1.out.besides fx HGN.out
      have fg : Fp (fun k => k = g) wr (wr.setCell ⟨g, 0, none⟩ (.int .u64 (f1 : Int))) := Fp.set _ _ _ _ rfl
      have qbC := qbr.put0 f1
      have hpC := hp.besides fg fun k hk e => hgP (e ▸ hk)
      obtain ⟨wC, hwC⟩ : ∃ wC, wr.setCell ⟨g, 0, none⟩ (.int .u64 (f1 : Int)) = wC := ⟨_, rfl⟩
      rw [hwC] at fg qbC hpC
      have bD := (Below.refl wC.heap.size wC).drew
      have hpD := hpC.keep bD
      have qbD := qbC.keep bD
      obtain ⟨w3, r3, hp3, fd3⟩ := hpD.oldQ HN.out (x := f1) (y := nn) HOK.out (by show (X.gQ s).isSome = true; rw [HSX.out.2, HNUM.out.2.2.2.1]; rfl)
      have qb3 := qbD.besides fd3 hgP
      obtain ⟨c0, _, _, _, _, _, _⟩ := hp.cells
      obtain ⟨d0, _, _, _, _, d5, _⟩ := hpD.cells
      obtain ⟨e0, _, _, _, _, e5, _⟩ := hp3.cells
      obtain ⟨g0, g1, g2f, _⟩ := qbr.cells
      obtain ⟨m0, m1, _, _⟩ := qbD.cells
      obtain ⟨n0, n1, _, _⟩ := qb3.cells
      have fAll : Fp (fun k => Pset q bs bq bu bb S1 S2 k ∨ w.heap.size ≤ k) w w3 :=
        (HFW1.out.mono fun k hk => .inl hk).then (((fx.mono fun k hk => .inl hk) : Fp (fun k => Pset q bs bq bu bb S1 S2 k ∨ w.heap.size ≤ k) w1 wr).then (((fg.mono fun k hk => .inr (by have := HG.out.2; omega)) : Fp (fun k => Pset q bs bq bu bb S1 S2 k ∨ w.heap.size ≤ k) wr wC).then ((Fp.of_below bD).then (fd3.mono fun k hk => (sx k ((hPS k).2 hk)).imp id fun h => Nat.le_trans HLE.out h))))
      have HFA := Bx.mk fAll
      have HP3 := Bx.mk hp3
      have HSUB : Bx (∀ k, Pset q bs' bq' bu' bb' S1' S2' k → Pset q bs bq bu bb S1 S2 k ∨ w.heap.size ≤ k) := ⟨fun k hk => (sx k ((hPS k).2 hk)).imp id fun h => Nat.le_trans HLE.out h⟩
      have HCNT := Bx.mk (fun (W : World) (hz : Zl LV W) => count_any8 (HUN.out W hz) fun i hi => (HPL.out i hi).1)
      have HFIN := Bx.mk (fun (W : World) (hf : Fp (fun k => Pset q bs bq bu bb S1 S2 k ∨ w.heap.size ≤ k) w W) (gQ : Nat → Option DU) (hq : ∀ t, gQ t = queF (popA a s) (popV LV s) t) (hP : Pr q p { X with gS := (fun j => if j = (s, ff) then none else X.gS j), gQ := gQ, gU := useF (dropAll c pl) } (Zl LV) bs' bq' bu' bb' vR' S1' S2' W) =>
        (show Turn (Raw q p { X with gS := secF (popA a s) (popV LV s), gQ := queF (popA a s) (popV LV s), gU := useF (dropAll c pl) } (Zl (popV LV s))) S w W from
          ⟨_, ((hP.reS (g := secF (popA a s) (popV LV s)) (g' := queF (popA a s) (popV LV s)) (fun k => by rw [HSV.out k, HNUM.out.2.1]; show (if k = (s, ff) then none else X.gS k) = _; rw [HSX.out.1]) hq).reZ fun W hW => Zl.pop hW s).raw,
            fun k hk => (HSUB.out k hk).imp (HS.out k).2 id, ⟨hf.os, hf.tape, hf.output, hf.size, fun k hk hn => hf.block k hk fun hh => hh.elim (fun hh => hn ((HS.out k).2 hh)) fun hh => by omega⟩⟩))
      have HQL : Bx (∀ t, queF (popA a s) (popV LV s) t = if t = s then (if f1 = nn then none else some (qD f1 nn)) else X.gQ t) := ⟨fun t => by
        obtain ⟨q1, q2, q3, q4, _⟩ := HNUM.out
        rw [HQV.out t, HSX.out.2]
        by_cases ht : t = s
        · rw [if_pos ht, if_pos ht, q2, q1]
          by_cases hh : f1 = nn
          · rw [if_pos hh, if_pos (by omega)]
          · rw [if_neg hh, if_neg (by omega), ← q2, q3]
        · rw [if_neg ht, if_neg ht]⟩
      by_cases hfn : f1 = nn
      · obtain ⟨w4, r4, hp4, fd4⟩ := HP3.out.delQ HOK.out 0
        have hd : ((f1 : Int) == (nn : Int)) = true := by rw [beq_iff_eq]; omega
        have HT := Bx.mk (HFIN.out w4 (HFA.out.then (fd4.mono fun k hk => HSUB.out k hk)) _ (fun t => by
          rw [HQL.out t, if_pos hfn]
          show (if t = s then none else if t = s then some (qD f1 nn) else X.gQ t) = _
          by_cases ht : t = s
          · rw [if_pos ht, if_pos ht]
          · rw [if_neg ht, if_neg ht, if_neg ht]) hp4)
        have HC := Bx.mk (HCNT.out w4 hp4.z)
        rw [HSX2.out] at r3 r4
        clear hp hpC hpD hp3 hp4 qbr qbC qbD qb3 fx fg sx bD fd3 fd4 fAll hPS hgP HR HFIN HCNT hfn
        go_wp2_with fail
        go_region
        go_wp2_with (go_at_call 60; refine HC.out.mono ?_; rintro e w9 ⟨rfl, rfl⟩)
        go_ret2
        exact ⟨rfl, HT.out⟩
      · have hd : ((f1 : Int) == (nn : Int)) = false := by rw [beq_eq_false_iff_ne]; omega
        have HT := Bx.mk (HFIN.out w3 HFA.out _ (fun t => by
          rw [HQL.out t, if_neg hfn]) HP3.out)
        have HC := Bx.mk (HCNT.out w3 hp3.z)
        rw [HSX2.out] at r3
        clear hp hpC hpD hp3 qbr qbC qbD qb3 fx fg sx bD fd3 fAll hPS hgP HR HFIN HCNT hfn
        go_wp2_with fail
        go_region
        go_wp2_with (go_at_call 60; refine HC.out.mono ?_; rintro e w9 ⟨rfl, rfl⟩)
        go_ret2
        exact ⟨rfl, HT.out⟩
end
end Go.Proofs.YtebakjdeighdnaaGreat

/-
  Contracts of maps.DeleteFunc at the map of blocked streams, and of the encoder's learn.
-/
namespace Go.Proofs.YtebakjdeighdnaaGreat
open Go.RowKit Go.Maps
set_option linter.unusedVariables false

def dfRen : Go.Shelf.Ren := ⟨fun | 5 => 119 | n => n, fun | 0 => 0 | 4 => 4 | 23 => 61 | 24 => 32 | 26 => 32 | 27 => 119 | n => n, fun n => n⟩
set_option maxRecDepth 100000 in
theorem dfLay : SlLaysDf.n5 Tryz.prog dfRen where
  mixed := by kernel_rfl
  f5 := ⟨(Tryz.f119).name, by kernel_rfl, Tryz.func119.trans (congrArg some (by kernel_rfl))⟩
  t0 := Tryz.underlying0
  a0 := Tryz.isAgg0
  z0 := Tryz.sizeOf0
  v0 := Tryz.zeroValue0
  t4 := Tryz.underlying4
  a4 := Tryz.isAgg4
  z4 := Tryz.sizeOf4
  v4 := Tryz.zeroValue4
  t23 := Tryz.underlying61
  a23 := Tryz.isAgg61
  z23 := Tryz.sizeOf61
  v23 := Tryz.zeroValue61
  a24 := Tryz.isAgg32
  z24 := Tryz.sizeOf32
  a26 := Tryz.isAgg32
  z26 := Tryz.sizeOf32
  t27 := Tryz.underlying119
  a27 := Tryz.isAgg119
  z27 := Tryz.sizeOf119
  v27 := Tryz.zeroValue119

theorem closure_any (key : Value) (x n : Int) (g : Nat) (w : World) (hc : w.cell? ⟨g, 0, none⟩ = some (.int .u64 n)) :
    Calls Tryz.prog 120 #[key, .int .u64 x, .pointer (some ⟨g, 0, none⟩)] w fun e w' => e = .returned (.bool (decide (x < n))) ∧ w' = w := by
  go_enter Tryz.func120, Tryz.ntmps120
  go_wp2
  go_ret
  exact ⟨rfl, rfl⟩
def pdN (n : Int) (_ : Lit) (d : DU) : Bool := match d with | .lit (.int _ v) => decide (v < n) | _ => false
theorem delete_any {f : Nat → Option DU} {b N g : Nat} {n : Int} {w : World} (h : Mo 32 (plainElem Tryz.prog 32) kU okU f b N w) (hc : w.cell? ⟨g, 0, none⟩ = some (.int .u64 n)) (hg : g ≠ b) :
    Calls Tryz.prog 119 #[.map (some b), .func (.func 120) #[] #[.pointer (some ⟨g, 0, none⟩)]] w fun e w' => e = .returned (.tuple #[]) ∧
      Mo 32 (plainElem Tryz.prog 32) kU okU (fun j => (f j).filter fun d => !pdN n (kU j) d) b N w' ∧ w.grownBy w' (some b) := by
  obtain ⟨D, h1, m⟩ := h
  refine (AnyDf.maps_DeleteFunc dfLay uLaw (plainElem Tryz.prog 32) (pdN n) 120 #[.pointer (some ⟨g, 0, none⟩)] b N D w (enters_of Tryz.func120 rfl rfl) h1 ?_).mono ?_
  · intro W key val kl yd yp hgw _ hv
    obtain ⟨x, rfl, e, _⟩ := plainElem_int_inv Tryz.underlying32 hv
    injection e with e1 e2
    subst e1
    have hcW : W.cell? ⟨g, 0, none⟩ = some (.int .u64 n) := by
      have hlt := World.block_lt_of_cell? _ _ hc
      have hk := hgw.block g hlt (fun e => hg (Option.some.inj e))
      unfold World.cell? at hc ⊢
      simp only at hc ⊢
      rw [hk]
      exact hc
    refine (closure_any key x n g W hcW).mono ?_
    rintro e w' ⟨rfl, rfl⟩
    exact ⟨rfl, ⟨rfl, rfl, rfl, Nat.le_refl _, fun _ _ _ => rfl⟩⟩
  · rintro e w' ⟨rfl, h2, h3⟩
    refine ⟨rfl, ⟨_, (ownsMap_tight h2).mono ?_, m.filter klU _⟩, h3⟩
    exact Nat.le_trans (size_filter_le _ m.tidy) h1.size_le

/-- What still blocks, when n are known. -/
def lrnB (f : Nat → Option Nat) (K n : Nat) : Nat → Option Nat := fun s => if K < n then (f s).filter fun v => !decide (v < n) else f s
section
variable {q p bs bq bu bb : Nat} {X Y : Qc} {Z Z' : World → Prop} {vR : Value} {S1 S2 S : Nat → Prop} {w w' : World} {f : Nat → Option Nat}
theorem pF_3 (p : Nat) (sd : Bool) (B K K' bs bq bu bb : Nat) (vR : Value) (er : Nat) : ∀ j, j < 10 → (if j = 3 then Value.int .u64 (K' : Int) else pF p sd B K bs bq bu bb vR er j) = pF p sd B K' bs bq bu bb vR er j := fun j hj => by
  unfold pF
  match j, hj with
  | 0, _ => rfl
  | 1, _ => rfl
  | 2, _ => rfl
  | 3, _ => rfl
  | 4, _ => rfl
  | 5, _ => rfl
  | 6, _ => rfl
  | 7, _ => rfl
  | 8, _ => rfl
  | 9, _ => rfl
set_option maxRecDepth 100000 in
set_option maxHeartbeats 4000000 in
theorem learn_any (h : Raw q p X Z w S) (hf : X.gB = blkD f) (n : Nat) :
    Calls Tryz.prog 101 #[.pointer (some ⟨q, 0, none⟩), .int .u64 (n : Int)] w fun e w' => e = .returned (.tuple #[]) ∧
      Turn (Raw q p { X with K := max X.K n, gB := blkD (lrnB f X.K n) } Z) S w w' := by
  obtain ⟨bs, bq, bu, bb, vR, S1, S2, h, hSS⟩ := h
  have HS := Bx.mk hSS
  have hlt := h.lt
  obtain ⟨g, hg⟩ : ∃ g, w.heap.size = g := ⟨_, rfl⟩
  have hgn : ¬ Pset q bs bq bu bb S1 S2 g := fun hk => by have := hlt g hk; omega
  have bA := (Below.refl w.heap.size w).alloc (Nat.le_refl _) (.cells #[.int .u64 (n : Int)] 32)
  have cA : (w.alloc (.cells #[.int .u64 (n : Int)] 32)).heap[w.heap.size]? = some (.cells #[.int .u64 (n : Int)] 32 (0, 0)) := heap_alloc_last w _
  obtain ⟨wA, hwA⟩ : ∃ wA, w.alloc (.cells #[.int .u64 (n : Int)] 32) = wA := ⟨_, rfl⟩
  rw [hwA] at bA cA
  rw [hg] at cA
  have bD := (Below.refl wA.heap.size wA).drew
  have cell : ∀ W : World, W.heap[g]? = some (.cells #[.int .u64 (n : Int)] 32 (0, 0)) → W.cell? ⟨g, 0, none⟩ = some (.int .u64 (n : Int)) := fun W hW => by simp [World.cell?, hW]
  have hD := (h.keep bA).keep bD
  have kA := cell wA cA
  have cD : wA.drew.heap[g]? = some (.cells #[.int .u64 (n : Int)] 32 (0, 0)) := cA
  have kD := cell wA.drew cD
  obtain ⟨c0, _, _, c3, _⟩ := hD.cells
  have fD : Fp (Pset q bs bq bu bb S1 S2) w wA.drew := (Fp.of_below bA).then (Fp.of_below bD)
  by_cases hk : n ≤ X.K
  · have hd : decide ((n : Int) ≤ (X.K : Int)) = true := decide_eq_true (by omega)
    have hd2 : decide (n ≤ X.K) = true := decide_eq_true hk
    have HFIN : Bx (Turn (Raw q p { X with K := max X.K n, gB := blkD (lrnB f X.K n) } Z) S w wA.drew) := ⟨by
      have e1 : max X.K n = X.K := by omega
      have e2 : lrnB f X.K n = f := funext fun s => if_neg (by omega)
      rw [e1, e2, ← hf]
      exact hD.turn HS.out fD⟩
    obtain ⟨K, hK⟩ : ∃ K, X.K = K := ⟨_, rfl⟩
    rw [hK] at c3 hd hd2
    clear h hD hf hSS hlt bA cA cD bD fD hk hK hgn cell
    go_enter Tryz.func101, Tryz.ntmps101
    go_wp2_with fail
    go_region
    go_wp2_with fail
    refine bodyPost_ret (results_none rfl _ _ _) rfl ?_
    exact ⟨rfl, HFIN.out⟩
  · have hd : decide ((n : Int) ≤ (X.K : Int)) = false := decide_eq_false (by omega)
    have hd2 : decide (n ≤ X.K) = false := decide_eq_false hk
    have hset := hD.set (sd := X.sd) (K := n) (er := X.er) 3 (.int .u64 (n : Int)) (pF_3 _ _ _ _ _ _ _ _ _ _ _)
    obtain ⟨wS, hwS⟩ : ∃ wS, wA.drew.setCell ⟨q, 3, none⟩ (.int .u64 (n : Int)) = wS := ⟨_, rfl⟩
    rw [hwS] at hset
    have hfz := hD.row.frozen 3
    obtain ⟨e0, _, _, _, _, _, _, e7, _⟩ := hset.1.cells
    have hlD := hD.lt
    have cS : wS.heap[g]? = some (.cells #[.int .u64 (n : Int)] 32 (0, 0)) := (hset.2.block g (Array.getElem?_eq_some_iff.1 cD).1 hgn).trans cD
    have HDEL := Bx.mk (delete_any (n := (n : Int)) hset.1.mb (cell wS cS) (fun e => hgn (e ▸ .inr (.inr (.inr (.inr (.inr (.inr rfl))))))))
    have HFIN : Bx (∀ W, Mo 32 (plainElem Tryz.prog 32) kU okU (fun j => (X.gB j).filter fun d => !pdN (n : Int) (kU j) d) bb X.N W → wS.grownBy W (some bb) → Turn (Raw q p { X with K := max X.K n, gB := blkD (lrnB f X.K n) } Z) S w W) := ⟨fun W ho hgw => by
      have ho' : Mo 32 (plainElem Tryz.prog 32) kU okU (blkD (lrnB f X.K n)) bb X.N W := ho.congr fun j _ => by
        rw [hf]
        unfold blkD lrnB
        rw [if_pos (by omega)]
        cases f j with
        | none => rfl
        | some v =>
          show (if (!decide ((v : Int) < (n : Int))) = true then some _ else none) = Option.map _ (if (!decide (v < n)) = true then some v else none)
          by_cases hv : v < n
          · rw [if_neg (by simp; omega), if_neg (by simp; omega)]; rfl
          · rw [if_pos (by simp; omega), if_pos (by simp; omega)]; rfl
      obtain ⟨t1, t2⟩ := hset.1.turnB hgw ho'
      have e1 : max X.K n = n := by omega
      rw [e1]
      exact t1.turn HS.out (fD.then (hset.2.then t2))⟩
    obtain ⟨K, hK⟩ : ∃ K, X.K = K := ⟨_, rfl⟩
    rw [hK] at c3 hd hd2
    clear h hD hf hSS hlt bA cA cD bD fD hk hK hgn cell hset hlD cS
    go_enter Tryz.func101, Tryz.ntmps101
    go_wp2_with fail
    go_region
    go_wp2_with (go_at_call 119; refine HDEL.out.mono ?_; rintro e w2 ⟨rfl, ho, hgw⟩; have HT := Bx.mk (HFIN.out w2 ho hgw); clear ho hgw)
    go_end0
    exact ⟨rfl, HT.out⟩
end
end Go.Proofs.YtebakjdeighdnaaGreat

/-
  The program's encoder as a word over the mathematics; contracts of forget over it.
-/
namespace Go.Proofs.YtebakjdeighdnaaGreat
open Go.RowKit Go.Maps
set_option linter.unusedVariables false

/-- What the encoder holds, told by the mathematics. -/
def qcOf (N : Nat) (E : Qe) (f : Nat → Option Nat) (a : Nat → Nat) (LV : LvT) : Qc := ⟨E.said, E.B, E.K, E.err, N, E.T, secF a LV, queF a LV, useF (cntU E.op), blkD f, E.rest⟩
/-- The encoder; f: what its map of blocked streams tells. -/
def PqB (q p N : Nat) (E : Qe) (f : Nat → Option Nat) : Wx := fun w S => ∃ a LV, Lv E.op a LV N ∧ Raw q p (qcOf N E f a LV) (Zl LV) w S
def Pq (q p N : Nat) (E : Qe) : Wx := PqB q p N E (blkF E.op E.K)
theorem Wd.pqB (q p N : Nat) (E : Qe) (f : Nat → Option Nat) : Wd (PqB q p N E f) := by
  constructor
  · rintro w S ⟨a, LV, h1, h2⟩ k hk
    exact (Wd.raw _ _ _ _).lt h2 k hk
  · rintro w w' S ⟨a, LV, h1, h2⟩ hs hb
    exact ⟨a, LV, h1, (Wd.raw _ _ _ _).kept h2 hs hb⟩
theorem Wd.pq (q p N : Nat) (E : Qe) : Wd (Pq q p N E) := Wd.pqB _ _ _ _ _
/-- An encoder in order. -/
structure Qe.good (E : Qe) : Prop where
  gq : E.T.gq
  sec : ∀ x ∈ E.op, x.s < 18446744073709551616 ∧ 0 < x.c ∧ (∀ i ∈ x.u, i < x.c) ∧ x.c - 1 ∈ x.u ∧ x.c ≤ E.T.tot
  kn : E.K ≤ E.T.tot
  len : E.op.length ≤ 100000
theorem mxN_ge {l : List Nat} {i : Nat} (h : i ∈ l) : i ≤ mxN l := by
  have : ∀ (l : List Nat) (r : Nat), (r ≤ l.foldl max r) ∧ ∀ i ∈ l, i ≤ l.foldl max r := fun l => by
    induction l with
    | nil => intro r; exact ⟨Nat.le_refl _, fun i hi => by cases hi⟩
    | cons a l ih =>
      intro r
      obtain ⟨h1, h2⟩ := ih (max r a)
      show r ≤ l.foldl max (max r a) ∧ ∀ i ∈ a :: l, i ≤ l.foldl max (max r a)
      refine ⟨by omega, fun i hi => ?_⟩
      rcases List.mem_cons.1 hi with rfl | hi
      · omega
      · exact h2 i hi
  exact (this l 0).2 i h
theorem mxN_le {l : List Nat} {n : Nat} (h : ∀ i ∈ l, i ≤ n) : mxN l ≤ n := by
  have : ∀ (l : List Nat) (r : Nat), r ≤ n → (∀ i ∈ l, i ≤ n) → l.foldl max r ≤ n := fun l => by
    induction l with
    | nil => intro r hr _; exact hr
    | cons a l ih => intro r hr hl; exact ih (max r a) (by have := hl a (List.mem_cons_self ..); omega) fun i hi => hl i (List.mem_cons_of_mem _ hi)
  exact this l 0 (Nat.zero_le _) h
/-- The count of a section. -/
theorem ctN_of {u : List Nat} {c : Nat} (h1 : ∀ i ∈ u, i < c) (h2 : c - 1 ∈ u) : ctN (uq u) = c := by
  have h3 := h1 _ h2
  have hm : c - 1 ∈ uq u := mem_uq.2 h2
  unfold ctN
  rw [if_neg (by have := List.length_pos_of_mem hm; omega)]
  have h4 := mxN_ge hm
  have h5 : mxN (uq u) ≤ c - 1 := mxN_le fun i hi => by have := h1 i (mem_uq.1 hi); omega
  omega
theorem mem_dropS {x : Qs} {s : Nat} : ∀ {op : List Qs}, x ∈ dropS op s → x ∈ op
  | [], h => h
  | y :: op, h => by
    unfold dropS at h
    split at h
    · exact List.mem_cons_of_mem _ h
    · rcases List.mem_cons.1 h with rfl | h
      · exact List.mem_cons_self ..
      · exact List.mem_cons_of_mem _ (mem_dropS h)
theorem dropS_len (s : Nat) : ∀ op : List Qs, (dropS op s).length ≤ op.length
  | [] => Nat.le_refl _
  | y :: op => by
    unfold dropS
    split
    · simp
    · have := dropS_len s op
      simp only [List.length_cons]
      omega
def Qe.setOp (E : Qe) (op : List Qs) : Qe := ⟨E.T, E.B, E.K, op, E.rest, E.err, E.said⟩
def Qe.setK (E : Qe) (K : Nat) : Qe := ⟨E.T, E.B, K, E.op, E.rest, E.err, E.said⟩
theorem Qe.good.drop {E : Qe} (h : E.good) (s : Nat) : (E.setOp (dropS E.op s)).good :=
  ⟨h.gq, fun x hx => h.sec x (mem_dropS hx), h.kn, Nat.le_trans (dropS_len s E.op) h.len⟩
theorem head_mem {op : List Qs} {s : Nat} {x : Qs} (h : (secs op s).head? = some x) : x ∈ op ∧ x.s = s := by
  have h1 : x ∈ secs op s := List.mem_of_mem_head? h
  unfold secs at h1
  obtain ⟨h2, h3⟩ := List.mem_filter.1 h1
  exact ⟨h2, of_decide_eq_true h3⟩
theorem Lv.head {op : List Qs} {a : Nat → Nat} {LV : LvT} {N s : Nat} (h : Lv op a LV N) {x : Qs} (hx : (secs op s).head? = some x) : ∃ v, (LV s).head? = some (v, x) := by
  rw [← h.op s] at hx
  cases hl : LV s with
  | nil => rw [hl] at hx; cases hx
  | cons y l =>
    rw [hl] at hx
    injection hx with hx
    obtain ⟨v, y2⟩ := y
    simp only at hx
    subst hx
    exact ⟨v, rfl⟩
theorem Lv.none {op : List Qs} {a : Nat → Nat} {LV : LvT} {N s : Nat} (h : Lv op a LV N) (hx : (secs op s).head? = none) : LV s = [] := by
  rw [← h.op s] at hx
  cases hl : LV s with
  | nil => rfl
  | cons y l => rw [hl] at hx; cases hx

section
variable {q p N : Nat} {E : Qe} {f : Nat → Option Nat} {w w' : World} {S : Nat → Prop}
theorem PqB.ok (h : PqB q p N E f w S) : E.T.ok := by
  obtain ⟨a, LV, h1, h2⟩ := h
  exact h2.ok
theorem pforget_none (h : PqB q p N E f w S) {s : Nat} (hs : okU s) (hx : (secs E.op s).head? = none) :
    Calls Tryz.prog 102 #[.pointer (some ⟨q, 0, none⟩), .int .u64 (s : Int)] w fun e w' => e = .returned (.tuple #[.int .u64 0, .bool false]) ∧ Below w.heap.size w w' := by
  obtain ⟨a, LV, h1, h2⟩ := h
  exact forget_none h2 rfl hs (h1.none hx)
theorem pforget_some (h : PqB q p N E f w S) (hg : E.good) (hN : N < 1000000000) {s : Nat} (hs : okU s) {x : Qs} (hx : (secs E.op s).head? = some x) :
    Calls Tryz.prog 102 #[.pointer (some ⟨q, 0, none⟩), .int .u64 (s : Int)] w fun e w' => e = .returned (.tuple #[.int .u64 (x.c : Int), .bool true]) ∧ Turn (PqB q p N (E.setOp (dropS E.op s)) f) S w w' := by
  obtain ⟨a, LV, h1, h2⟩ := h
  obtain ⟨v, hv⟩ := h1.head hx
  obtain ⟨hm, _⟩ := head_mem hx
  obtain ⟨g0, g1, g2, g3, g4⟩ := hg.sec x hm
  have htot := h2.ok.tot
  refine (forget_some h2 h1 rfl rfl rfl hN hs hv fun i hi => ⟨?_, ?_, ?_⟩).mono ?_
  · have := g2 i hi
    have : E.T.tot ≤ 1000000 := htot
    omega
  · rw [cntU_pos, List.any_eq_true]
    exact ⟨x, hm, by simpa using hi⟩
  · have := cntU_le E.op i
    have := hg.len
    omega
  · rintro e w' ⟨rfl, S', x', s', f'⟩
    rw [ctN_of g2 g3]
    have hc : dropAll (cntU E.op) (uq x.u) = cntU (dropS E.op s) := funext fun j => by
      rw [dropAll_get _ _ _ (uq_nodup _), cntU_drop j hx]
      by_cases hj : j ∈ x.u
      · rw [if_pos (mem_uq.2 hj), if_pos hj]; omega
      · rw [if_neg (fun h => hj (mem_uq.1 h)), if_neg hj]; omega
    have hne : LV s ≠ [] := fun e => by rw [e] at hv; cases hv
    refine ⟨rfl, S', ⟨popA a s, popV LV s, h1.pop hne, ?_⟩, s', f'⟩
    unfold qcOf at x' ⊢
    simp only [hc] at x'
    exact x'
end
end Go.Proofs.YtebakjdeighdnaaGreat

/-
  Contracts of the encoder's acknowledge and increment.
-/
namespace Go.Proofs.YtebakjdeighdnaaGreat
open Go.RowKit Go.Maps
set_option linter.unusedVariables false

def Qe.ack (E : Qe) (s : Nat) : Option Qe := match (secs E.op s).head? with
  | none => none
  | some x => some ((E.setOp (dropS E.op s)).setK (max E.K x.c))
def Qe.inc (E : Qe) (n : Nat) : Option Qe := if n = 0 ∨ E.T.tot - E.K < n then none else some (E.setK (E.K + n))
def Qe.can (E : Qe) (s : Nat) : Qe := E.setOp (goneS E.op s)
/-- What an instruction answers. -/
def ansQ (r : Option Qe) : Nat := if r.isSome then 0 else 26
section
variable {q p N : Nat} {E : Qe} {f : Nat → Option Nat} {w w' : World} {S : Nat → Prop}
theorem lrn_blk (E : Qe) (n : Nat) : lrnB (blkF E.op E.K) E.K n = blkF E.op (max E.K n) := funext fun s => by
  unfold lrnB
  by_cases h : E.K < n
  · rw [if_pos h, show max E.K n = n by omega, blkF_learn _ _ _ _ h]
  · rw [if_neg h, show max E.K n = E.K by omega]
theorem plearn_any (h : PqB q p N E f w S) (n : Nat) :
    Calls Tryz.prog 101 #[.pointer (some ⟨q, 0, none⟩), .int .u64 (n : Int)] w fun e w' => e = .returned (.tuple #[]) ∧ Turn (PqB q p N (E.setK (max E.K n)) (lrnB f E.K n)) S w w' := by
  obtain ⟨a, LV, h1, h2⟩ := h
  refine (learn_any h2 rfl n).mono ?_
  rintro e w' ⟨rfl, S', x', s', f'⟩
  exact ⟨rfl, S', ⟨a, LV, h1, x'⟩, s', f'⟩

set_option maxRecDepth 100000 in
set_option maxHeartbeats 2000000 in
theorem ack_any (h : Pq q p N E w S) (hg : E.good) (hN : N < 1000000000) {s : Nat} (hs : okU s) :
    Calls Tryz.prog 75 #[.pointer (some ⟨q, 0, none⟩), .int .u64 (s : Int)] w fun e w' => e = .returned (.int .i64 (ansQ (E.ack s) : Int)) ∧ Turn (Pq q p N ((E.ack s).getD E)) S w w' := by
  cases hx : (secs E.op s).head? with
  | none =>
    have hf := Bx.mk (pforget_none h hs hx)
    have HE : Bx (E.ack s = none) := ⟨by unfold Qe.ack; rw [hx]⟩
    have HT : Bx (∀ W, Below w.heap.size w W → Turn (Pq q p N E) S w W) := ⟨fun W hW => (Wd.pq _ _ _ _).turned h hW⟩
    rw [HE.out]
    obtain ⟨SS, hSx⟩ := letter s
    rw [hSx] at hf ⊢
    clear h hg hN hs hx hSx
    go_enter Tryz.func75, Tryz.ntmps75
    go_wp2_with (go_at_call 102; refine hf.out.mono ?_; rintro e w1 ⟨rfl, b1⟩; have HB := Bx.mk b1; clear b1)
    go_ret
    exact ⟨rfl, HT.out _ HB.out⟩
  | some x =>
    have hf := Bx.mk (pforget_some h hg hN hs hx)
    have HE : Bx (E.ack s = some ((E.setOp (dropS E.op s)).setK (max E.K x.c))) := ⟨by unfold Qe.ack; rw [hx]⟩
    have HL := Bx.mk (fun (W : World) (S' : Nat → Prop) (h' : PqB q p N (E.setOp (dropS E.op s)) (blkF E.op E.K) W S') => plearn_any h' x.c)
    have HF : Bx (lrnB (blkF E.op E.K) E.K x.c = blkF (dropS E.op s) (max E.K x.c)) := ⟨by
      rw [lrn_blk]
      exact (funext fun u => blkF_drop E.op (max E.K x.c) s u hx (Nat.le_max_right _ _)).symm⟩
    rw [HE.out]
    obtain ⟨SS, hSx⟩ := letter s
    rw [hSx] at hf ⊢
    obtain ⟨C, hC⟩ := letter x.c
    simp only [hC] at hf HL
    clear h hg hN hs hx hSx hC
    go_enter Tryz.func75, Tryz.ntmps75
    go_wp2_with (go_at_call 102; refine hf.out.mono ?_; rintro e w1 ⟨rfl, ht1⟩; have HT1 := Bx.mk ht1; clear ht1)
    obtain ⟨S1, x1, s1, f1⟩ := HT1.out
    have HX1 := Bx.mk (HL.out w1 S1 x1)
    clear x1
    have HS1 := Bx.mk (And.intro s1 f1)
    clear s1 f1
    go_wp2_with (go_at_call 101; refine HX1.out.mono ?_; rintro e w2 ⟨rfl, ht2⟩; have HT2 := Bx.mk (Turn.step HS1.out.1 HS1.out.2 ht2); clear ht2)
    go_ret
    refine ⟨rfl, ?_⟩
    have ht := HT2.out
    rw [show lrnB (blkF E.op E.K) (E.setOp (dropS E.op s)).K x.c = blkF (dropS E.op s) (max E.K x.c) from HF.out] at ht
    exact ht

set_option maxRecDepth 100000 in
set_option maxHeartbeats 4000000 in
theorem inc_any (h : Pq q p N E w S) (hg : E.good) {n : Nat} (hn : okU n) :
    Calls Tryz.prog 73 #[.pointer (some ⟨q, 0, none⟩), .int .u64 (n : Int)] w fun e w' => e = .returned (.int .i64 (ansQ (E.inc n) : Int)) ∧ Turn (Pq q p N ((E.inc n).getD E)) S w w' := by
  have HL := Bx.mk (fun (W : World) (h' : Pq q p N E W S) => plearn_any h' (E.K + n))
  have HKEEP : Bx (∀ W, Below w.heap.size w W → Pq q p N E W S) := ⟨fun W hW => (Wd.pq _ _ _ _).keep h hW⟩
  have HT : Bx (∀ W, Below w.heap.size w W → Turn (Pq q p N E) S w W) := ⟨fun W hW => (Wd.pq _ _ _ _).turned h hW⟩
  have htot := h.ok.tot
  have hkn := hg.kn
  have HF : Bx (0 < n → lrnB (blkF E.op E.K) E.K (E.K + n) = blkF E.op (E.K + n) ∧ max E.K (E.K + n) = E.K + n) := ⟨fun h0 => by
    have := lrn_blk E (E.K + n)
    rw [show max E.K (E.K + n) = E.K + n by omega] at this
    exact ⟨this, by omega⟩⟩
  obtain ⟨a, LV, hlv, bs, bq, bu, bb, vR, S1, S2, hp, _⟩ := h
  have hb0 := (Below.refl w.heap.size w).drew
  have hX0 : ∀ W, Below w.heap.size w W → W.cell? ⟨q, 0, none⟩ = some (.pointer (some ⟨p, 0, none⟩)) := fun W hW => (hp.keep hW).cells.1
  have hX3 : ∀ W, Below w.heap.size w W → W.cell? ⟨q, 3, none⟩ = some (.int .u64 (E.K : Int)) := fun W hW => (hp.keep hW).cells.2.2.2.1
  have HCNT := Bx.mk (fun (W : World) (hW : Below w.heap.size w W) => count_any ((Wd.tb _ _).keep hp.tb hW))
  obtain ⟨c0, _, _, c3, _⟩ := hp.cells
  obtain ⟨K, hK⟩ : ∃ K, E.K = K := ⟨_, rfl⟩
  obtain ⟨t, ht⟩ : ∃ t, E.T.tot = t := ⟨_, rfl⟩
  have HI : Bx (E.inc n = if n = 0 ∨ t - K < n then none else some (E.setK (K + n))) := ⟨by unfold Qe.inc; rw [ht, hK]⟩
  have c3' : w.cell? ⟨q, 3, none⟩ = some (.int .u64 (K : Int)) := by rw [← hK]; exact c3
  have HKK := Bx.mk hK
  rw [hK] at hkn
  rw [ht] at htot hkn
  simp only [hK] at hX3
  have HCNT2 : Bx (∀ W, Below w.heap.size w W → Calls Tryz.prog 54 #[.pointer (some ⟨p, 0, none⟩)] W fun e w' => e = .returned (.int .u64 (t : Int)) ∧ Below W.heap.size W w') := ⟨fun W hW => by rw [← ht]; exact HCNT.out W hW⟩
  clear HCNT hK ht c3 hp hlv hg
  by_cases h0 : n = 0
  · subst h0
    rw [HI.out, if_pos (.inl rfl)]
    have hd : ((0 : Nat) : Int) = 0 := rfl
    rw [hd]
    clear HL HF HI hX0 hX3 hb0
    go_enter Tryz.func73, Tryz.ntmps73
    go_wp2_with fail
    go_quiet (fail)
    go_wp2_with fail
    go_ret
    exact ⟨rfl, HT.out _ (below_drewN (Below.refl _ _) _)⟩
  · obtain ⟨m, hm⟩ : ∃ m, t - K = m := ⟨_, rfl⟩
    have hwm : IntKind.u64.wrap ((t : Int) - (K : Int)) = (m : Int) := by rw [IntKind.wrap_u64]; have : t ≤ 1000000 := htot; omega
    have hwk : IntKind.u64.wrap ((K : Int) + (n : Int)) = ((K + n : Nat) : Int) ∨ m < n := by
      by_cases hh : m < n
      · exact .inr hh
      · refine .inl ?_
        have : t ≤ 1000000 := htot
        rw [IntKind.wrap_u64]; omega
    obtain ⟨NN, hNN⟩ := letter n
    obtain ⟨MM, hMM⟩ := letter m
    obtain ⟨KK, hKK⟩ := letter K
    obtain ⟨TT, hTT⟩ := letter t
    obtain ⟨KN, hKN⟩ := letter (K + n)
    rw [hKK, hNN, hKN] at hwk
    rw [hMM, hTT, hKK] at hwm
    simp only [hKK] at hX3 c3'
    simp only [hTT] at HCNT2
    rw [hNN]
    have hd0 : (NN == 0) = false := by rw [beq_eq_false_iff_ne]; omega
    have HL2 : Bx (∀ W, Pq q p N E W S → Calls Tryz.prog 101 #[.pointer (some ⟨q, 0, none⟩), .int .u64 KN] W fun e w' => e = .returned (.tuple #[]) ∧ Turn (PqB q p N (E.setK (max E.K (E.K + n))) (lrnB (blkF E.op E.K) E.K (E.K + n))) S W w') := ⟨fun W hW => by
      have := HL.out W hW
      rw [HKK.out] at this
      rw [← hKN, HKK.out]
      exact this⟩
    clear HL
    by_cases hlt : m < n
    · have hd1 : decide (NN > MM) = true := decide_eq_true (by omega)
      rw [HI.out, if_pos (.inr (by omega))]
      clear hNN hMM hKK hTT hKN hwk HL2 HF HI hm hlt h0 htot hkn c0 c3'
      go_enter Tryz.func73, Tryz.ntmps73
      go_wp2_with fail
      go_region_held (fun W => Below w.heap.size w W) (first | assumption) (first
        | (go_at_call 54; refine (HCNT2.out _ (by assumption)).mono ?_; rintro e w3 ⟨rfl, hb3⟩; have hS3 := below_next (by assumption) hb3))
      all_goals go_wp2_with fail
      all_goals go_ret
      all_goals exact ⟨rfl, HT.out _ hS3⟩
    · have hd1 : decide (NN > MM) = false := decide_eq_false (by omega)
      have hwk2 : IntKind.u64.wrap (KK + NN) = KN := hwk.elim id fun h => absurd h hlt
      obtain ⟨hF1, hF2⟩ := HF.out (by omega)
      have HFF := Bx.mk (And.intro hF1 hF2)
      have HI2 : Bx (E.inc n = some (E.setK (E.K + n))) := ⟨by rw [HI.out, if_neg (by omega), HKK.out]⟩
      rw [HI2.out]
      clear hNN hMM hKK hTT hKN hwk HF HI hm hlt h0 htot hkn hF1 hF2 c0 c3'
      go_enter Tryz.func73, Tryz.ntmps73
      go_wp2_with fail
      go_region_held (fun W => Below w.heap.size w W) (first | assumption) (first
        | (go_at_call 54; refine (HCNT2.out _ (by assumption)).mono ?_; rintro e w3 ⟨rfl, hb3⟩; have hS3 := below_next (by assumption) hb3))
      all_goals have k3 := hX3 _ hS3
      all_goals go_wp2_with (go_at_call 101; refine (HL2.out _ (HKEEP.out _ hS3)).mono ?_; rintro e w4 ⟨rfl, ht4⟩; have HT4 := Bx.mk (Turn.before hS3 ht4); clear ht4)
      all_goals go_ret
      all_goals refine ⟨rfl, ?_⟩
      all_goals have ht := HT4.out
      all_goals rw [HFF.out.1, HFF.out.2] at ht
      all_goals exact ht
end
end Go.Proofs.YtebakjdeighdnaaGreat

/-
  Contract of the encoder's cancel.
-/
namespace Go.Proofs.YtebakjdeighdnaaGreat
open Go.RowKit Go.Maps
set_option linter.unusedVariables false

def dropN (op : List Qs) (s : Nat) : Nat → List Qs
  | 0 => op
  | k + 1 => dropS (dropN op s k) s
theorem secs_dropN (op : List Qs) (s k : Nat) : secs (dropN op s k) s = (secs op s).drop k := by
  induction k with
  | zero => rfl
  | succ k ih =>
    show secs (dropS (dropN op s k) s) s = _
    rw [secs_drop_same, ih, List.tail_drop]
theorem goneS_dropN (op : List Qs) (s k : Nat) : goneS (dropN op s k) s = goneS op s := by
  induction k with
  | zero => rfl
  | succ k ih =>
    show goneS (dropS (dropN op s k) s) s = _
    rw [goneS_drop, ih]
theorem dropN_all (op : List Qs) (s : Nat) : dropN op s (secs op s).length = goneS op s := by
  rw [← goneS_dropN op s (secs op s).length, goneS_none]
  rw [secs_dropN, List.drop_length]
theorem Qe.good.dropN {E : Qe} (h : E.good) (s k : Nat) : (E.setOp (dropN E.op s k)).good := by
  induction k with
  | zero => exact h
  | succ k ih => exact ih.drop s
section
variable {q p bs bq bu bb N : Nat} {E : Qe} {f : Nat → Option Nat} {w w' : World} {S S1 S2 : Nat → Prop} {X : Qc} {Z : World → Prop} {vR : Value}
theorem Pr.delB (h : Pr q p X Z bs bq bu bb vR S1 S2 w) {s : Nat} (hs : okU s) (ty : TypeId) :
    ∃ w', (Builtin.delete_ #[61, 32] ty #[.map (some bb), .int .u64 (s : Int)]).run Tryz.prog w = .ok (.tuple #[]) w' ∧
      Pr q p { X with gB := fun j => if j = s then none else X.gB j } Z bs bq bu bb vR S1 S2 w' ∧ Fp (Pset q bs bq bu bb S1 S2) w w' := by
  obtain ⟨w', hrun, ho, hg⟩ := Mo.drop uLaw klU Tryz.underlying61 h.mb hs (keyOf_u hs) ty
  obtain ⟨h1, h2⟩ := h.turnB hg ho
  exact ⟨w', hrun, h1, h2⟩
theorem Pr.reB (h : Pr q p X Z bs bq bu bb vR S1 S2 w) {g : Nat → Option DU} (hg : ∀ k, X.gB k = g k) : Pr q p { X with gB := g } Z bs bq bu bb vR S1 S2 w := by
  have : X.gB = g := funext hg
  subst this
  exact h

set_option maxRecDepth 100000 in
set_option maxHeartbeats 4000000 in
theorem cancel_any (h : Pq q p N E w S) (hg : E.good) (hN : N < 1000000000) {s : Nat} (hs : okU s) :
    Calls Tryz.prog 74 #[.pointer (some ⟨q, 0, none⟩), .int .u64 (s : Int)] w fun e w' => e = .returned (.tuple #[]) ∧ Turn (Pq q p N (E.can s)) S w w' := by
  have HPQ := Bx.mk h
  obtain ⟨a, LV, hlv, bs, bq, bu, bb, vR, S1, S2, hp, _⟩ := h
  have hsecs : (LV s).length = (secs E.op s).length := by rw [← hlv.op s, List.length_map]
  obtain ⟨hb1, hb2⟩ := nxt_le hlv s
  have hlen := secs E.op s
  obtain ⟨n, hn⟩ : ∃ n, (secs E.op s).length = n := ⟨_, rfl⟩
  have hnle : n ≤ 100000 := by rw [← hn]; exact Nat.le_trans (List.length_filter_le _ _) hg.len
  have hdiff : nxt a LV s - fst' a LV s = n ∧ fst' a LV s ≤ nxt a LV s := by
    unfold nxt fst'
    rw [hsecs, hn]
    split <;> omega
  have hlq := hp.lookQ (x := fst' a LV s) (y := nxt a LV s) hs (queF_get a LV s)
  obtain ⟨ff, hff⟩ : ∃ ff, fst' a LV s = ff := ⟨_, rfl⟩
  obtain ⟨nn, hnn⟩ : ∃ nn, nxt a LV s = nn := ⟨_, rfl⟩
  rw [hff, hnn] at hlq hdiff
  rw [hff] at hb1
  rw [hnn] at hb2
  have hbA := (Below.refl w.heap.size w).alloc (Nat.le_refl _) (.cells #[.int .u64 (ff : Int), .int .u64 (nn : Int)] 121)
  have qbA := Qb.new w ff nn
  obtain ⟨g, hg'⟩ : ∃ g, w.heap.size = g := ⟨_, rfl⟩
  obtain ⟨wA, hwA⟩ : ∃ wA, w.alloc (.cells #[.int .u64 (ff : Int), .int .u64 (nn : Int)] 121) = wA := ⟨_, rfl⟩
  rw [hwA] at hbA qbA
  rw [hg'] at qbA
  obtain ⟨g0, g1, _, _⟩ := qbA.cells
  obtain ⟨c0, _, _, _, _, c5, _⟩ := hp.cells
  have hwr : IntKind.u64.wrap ((nn : Int) - (ff : Int)) = (n : Int) := by rw [IntKind.wrap_u64]; omega
  have HTA : Bx (Turn (PqB q p N (E.setOp (dropN E.op s 0)) (blkF E.op E.K)) S w wA) := ⟨(Wd.pqB _ _ _ _ _).turned HPQ.out hbA⟩
  have HG := Bx.mk hg
  have HNN := Bx.mk hN
  have HOK := Bx.mk hs
  have HNL := Bx.mk (And.intro hn hnle)
  obtain ⟨SS, hSx⟩ := letter s
  have HSX := Bx.mk hSx
  rw [hSx] at hlq
  rw [hSx]
  clear hp hlv hsecs hb1 hb2 hlen hn hnle hdiff hff hnn hbA qbA hg hN hs hSx HPQ
  go_enter Tryz.func74, Tryz.ntmps74
  go_wp2_with fail
  clear c0 c5 g0 g1 hlq hwA
  go_loopg [16] n (fun m s16 wx => ∃ k : Nat, k + m = n ∧ s16 = .int .u64 k ∧ Bx (Turn (PqB q p N (E.setOp (dropN E.op s k)) (blkF E.op E.K)) S w wx))
  case atStart => exact ⟨0, by omega, rfl, HTA⟩
  case round =>
    obtain ⟨k, hkn, rfl, HR⟩ := hrel
    clear HTA
    cases gk with
    | succ m =>
      have hkz : (k : Int) < (n : Int) := by omega
      obtain ⟨Sx, hx, sx, fx⟩ := HR.out
      have hlt : k < (secs E.op s).length := by rw [HNL.out.1]; omega
      have hkb : (k : Int) < 18446744073709551615 := by have := HNL.out.2; omega
      have hhead : (secs (dropN E.op s k) s).head? = some (secs E.op s)[k] := by rw [secs_dropN, List.head?_drop, List.getElem?_eq_getElem hlt]
      have hrel := pforget_some hx (HG.out.dropN s k) HNN.out HOK.out hhead
      have HREL : Bx (Calls Tryz.prog 102 #[.pointer (some ⟨q, 0, none⟩), .int .u64 SS] wr fun e w' => (∃ v, e = .returned v) ∧ Bx (Turn (PqB q p N (E.setOp (dropN E.op s (k + 1))) (blkF E.op E.K)) S w w')) := ⟨by
        rw [← HSX.out]
        exact hrel.mono fun e w' hh => ⟨⟨_, hh.1⟩, ⟨Turn.step sx fx hh.2⟩⟩⟩
      clear hrel hx sx fx hhead hlt HR
      go_wp2_with (go_at_call 102; refine HREL.out.mono ?_; rintro e w2 ⟨⟨v, rfl⟩, HR2⟩)
      go_roundg m
      case measure => omega
      case rel => exact ⟨k + 1, by omega, by go_num, HR2⟩
    | zero =>
      obtain rfl : k = n := by omega
      have ht := HR.out
      rw [← HNL.out.1, dropN_all] at ht
      obtain ⟨Sx, ⟨a', LV', hlv', hraw⟩, sx, fx⟩ := ht
      obtain ⟨bs', bq', bu', bb', vR', S1', S2', hp, hPS⟩ := hraw
      obtain ⟨c0, _, _, _, _, _, _, c7, _⟩ := hp.cells
      obtain ⟨w3, r3, hp3, f3⟩ := hp.delB HOK.out 0
      have HT : Bx (Turn (Pq q p N (E.can s)) S w w3) := ⟨by
        have hre := hp3.reB (g := blkD (blkF (goneS E.op s) E.K)) fun j => by
          show (if j = s then none else blkD (blkF E.op E.K) j) = _
          unfold blkD
          rw [blkF_gone]
          by_cases hj : j = s
          · rw [if_pos hj, if_pos hj]; rfl
          · rw [if_neg hj, if_neg hj]
        exact Turn.step sx fx ⟨Pset q bs' bq' bu' bb' S1' S2', ⟨a', LV', hlv', hre.raw⟩, fun k hk => .inl ((hPS k).2 hk), f3.mono fun k hk => (hPS k).2 hk⟩⟩
      rw [HSX.out] at r3
      clear hp hp3 hPS sx fx f3 hlv' HR
      go_wp2_with fail
      go_end0
      exact ⟨rfl, HT.out⟩
end
end Go.Proofs.YtebakjdeighdnaaGreat
