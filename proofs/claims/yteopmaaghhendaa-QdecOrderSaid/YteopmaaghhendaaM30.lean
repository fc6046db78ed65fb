/-
  Texts put together: QqS, QqT, QqU, QqW.
-/
import Derived.Test.YteopmaaghhendaaM27
import Derived.Test.YteopmaaghhendaaM24
import Derived.Test.YteopmaaghhendaaM20

/-
  Contract of the document's NewEncoder.
-/
namespace Go.Proofs.Yteopmaaghhendaa
open Go.RowKit Go.Maps
set_option linter.unusedVariables false

theorem clamp8_any (n : Int) (w : World) : Calls Try.prog 37 #[.int .i64 n] w fun e w' => e = .returned (.int .i64 (clampN n : Int)) ∧ w = w' := by
  have hcl := clampN_eq n
  go_enter Try.func37, Try.ntmps37
  go_wp2
  go_ret
  exact ⟨rfl, rfl⟩
set_option maxRecDepth 100000 in
set_option maxHeartbeats 2000000 in
theorem newEnc8_any (n b : Int) (hb : -9223372036854775808 ≤ b ∧ b < 9223372036854775808) (w : World) :
    Calls Try.prog 18 #[.int .i64 n, .int .i64 b] w fun e w' => ∃ q t S, e = .returned (.pointer (some ⟨q, 0, none⟩)) ∧ E8 q t (Qe.new (clampN n) b.toNat) w' S ∧ (∀ k, S k → w.heap.size ≤ k) ∧ Below w.heap.size w w' := by
  have hle := clampN_le n
  have HC := Bx.mk (clamp8_any n)
  have HN := Bx.mk (fun W => newTable_any (clampN n : Int) W (by omega))
  have HMX : Bx (max b 0 = ((b.toNat : Nat) : Int)) := ⟨by omega⟩
  generalize clampN n = c at HC HN hle ⊢
  have HT : Bx (Tab.new (c : Int) = ⟨[], c, 0⟩) := ⟨by unfold Tab.new; simp⟩
  simp only [HT.out] at HN
  clear hb
  go_enter Try.func18, Try.ntmps18
  go_wp2_with (first
    | (go_at_call 37; refine (HC.out _).mono ?_; rintro e w1 ⟨rfl, rfl⟩)
    | (go_at_call 36; refine (HN.out _).mono ?_; rintro e w1 ⟨t, S, rfl, hrt, hS, hb⟩; have hsz := hb.size))
  go_ret
  rw [HMX.out]
  have hob : Ob (fun W => Sr W (.slice none 0 0) [] ∧ Bs W (.slice none 0 0) []) w1 (fun _ => False) := Ob.none fun W => ⟨⟨Rn.nil _ W, fun p hp => (by cases hp)⟩, Rd.nil W⟩
  have hbo : Both (Rt t ⟨[], c, 0⟩) (Ob (fun W => Sr W (.slice none 0 0) [] ∧ Bs W (.slice none 0 0) [])) w1 S := ⟨S, fun _ => False, hrt, hob, fun k _ h => h, fun k => ⟨.inl, fun h => h.elim id fun h => h.elim⟩⟩
  have hn := Hd.new (ty := 84) (F := e8F t (Qe.new c b.toNat) (.slice none 0 0) (.slice none 0 0)) ((Wd.rt t _).both (Wd.ob _)) hbo #[.pointer (some ⟨t, 0, none⟩), .int .i64 (b.toNat : Int), .int .u64 0, .slice none 0 0, .slice none 0 0, .int .i64 0, .bool false] (fun j hj => by
    have : j < 7 := hj
    unfold e8F
    match j, this with
    | 0, _ => rfl
    | 1, _ => rfl
    | 2, _ => rfl
    | 3, _ => rfl
    | 4, _ => rfl
    | 5, _ => rfl
    | 6, _ => rfl)
  exact ⟨w1.heap.size, t, _, rfl, ⟨.slice none 0 0, .slice none 0 0, [], rfl, hn⟩, fun k hk => by rcases hk with h | rfl; exact hS k h; exact hsz, hb.trans (((Below.refl _ _).alloc (Nat.le_refl _) _).mono hsz)⟩
end Go.Proofs.Yteopmaaghhendaa

/-
  One byte of the decoder stream, fed.
-/
namespace Go.Proofs.Yteopmaaghhendaa
open Go.RowKit Go.Maps
set_option linter.unusedVariables false

end Go.Proofs.Yteopmaaghhendaa

/-
  The document's encoder: a cell is stored into.
-/
namespace Go.Proofs.Yteopmaaghhendaa
open Go.RowKit Go.Maps
set_option linter.unusedVariables false

section
variable {q t : Nat} {E E' : Qe} {w w6 : World} {S S1 S2 S4 : Nat → Prop} {vO vR vO' vR' : Value} {ps ps' : List (Qs × Value)}
theorem E8.put (hS : ∀ k, S k ↔ S1 k ∨ S2 k ∨ k = q) (h1 : w.rowIs q 84 7 (e8F t E vO vR)) (a : Rt t E.T w S1) (b : Ob (fun W => Sr W vO ps ∧ Bs W vR E.rest) w S2) (c : ∀ k, S1 k → ¬ S2 k) (d1 : ¬ S1 q) (d2 : ¬ S2 q)
    (hb : Below w.heap.size w w6) (hob : Ob (fun W => Sr W vO' ps' ∧ Bs W vR' E'.rest) w6 S4) (hs4 : ∀ k, S4 k → S2 k ∨ w.heap.size ≤ k) (i : Nat) (v' : Value) (hF : ∀ j, j < 7 → (if j = i then v' else e8F t E vO vR j) = e8F t E' vO' vR' j) (hT : E'.T = E.T) (hps : ps'.map Prod.fst = E'.op) :
    Turn (E8 q t E') S w (w6.setCell ⟨q, i, none⟩ v') := by
  have hq := h1.lt
  have hf : Fp (fun k => k = q) w6 (w6.setCell ⟨q, i, none⟩ v') := Fp.set _ _ _ _ rfl
  have hrow := ((h1.of_block (hb.block q hq)).set i v').congr hF
  have l1 := (Wd.rt t E.T).lt a
  have n4 : ¬ S4 q := by
    intro h
    rcases hs4 q h with h | h
    · exact d2 h
    · omega
  have n41 : ∀ k, S1 k → ¬ S4 k := by
    intro k hk h
    rcases hs4 k h with h | h
    · exact c k hk h
    · have := l1 k hk; omega
  have a' : Rt t E'.T (w6.setCell ⟨q, i, none⟩ v') S1 := by
    rw [hT]
    exact (Wd.rt t E.T).besides ((Wd.rt t E.T).keep a hb) hf fun k hk e => d1 (e ▸ hk)
  have h8 := E8.shut_ (E := E') hps hrow a' ((Wd.ob _).besides hob hf fun k hk e => n4 (e ▸ hk)) n41 d1 n4
  refine ⟨_, h8, fun k hk => ?_, (Fp.of_below hb).then (hf.mono fun k hk => (hS k).2 (.inr (.inr hk)))⟩
  rcases hk with hk | hk | hk
  · exact .inl ((hS k).2 (.inl hk))
  · exact (hs4 k hk).imp (fun h => (hS k).2 (.inr (.inl h))) id
  · exact .inl ((hS k).2 (.inr (.inr hk)))
theorem e8P_4 (t : Nat) (E : Qe) (vO vR vR' : Value) (r : List UInt8) : ∀ j, j < 7 → (if j = 4 then vR' else e8F t E vO vR j) = e8F t (E.setRest r) vO vR' j := fun j hj => by
  unfold e8F Qe.setRest
  match j, hj with
  | 0, _ => rfl
  | 1, _ => rfl
  | 2, _ => rfl
  | 3, _ => rfl
  | 4, _ => rfl
  | 5, _ => rfl
  | 6, _ => rfl
theorem e8P_2 (t : Nat) (E : Qe) (vO vR : Value) (K : Nat) : ∀ j, j < 7 → (if j = 2 then .int .u64 (K : Int) else e8F t E vO vR j) = e8F t (E.setK K) vO vR j := fun j hj => by
  unfold e8F Qe.setK
  match j, hj with
  | 0, _ => rfl
  | 1, _ => rfl
  | 2, _ => rfl
  | 3, _ => rfl
  | 4, _ => rfl
  | 5, _ => rfl
  | 6, _ => rfl
theorem e8P_3 (t : Nat) (E : Qe) (vO vO' vR : Value) (op : List Qs) : ∀ j, j < 7 → (if j = 3 then vO' else e8F t E vO vR j) = e8F t (E.setOp op) vO' vR j := fun j hj => by
  unfold e8F Qe.setOp
  match j, hj with
  | 0, _ => rfl
  | 1, _ => rfl
  | 2, _ => rfl
  | 3, _ => rfl
  | 4, _ => rfl
  | 5, _ => rfl
  | 6, _ => rfl
end
end Go.Proofs.Yteopmaaghhendaa

/-
  The document's encoder: each store of its Feed.
-/
namespace Go.Proofs.Yteopmaaghhendaa
open Go.RowKit Go.Maps
set_option linter.unusedVariables false

section
variable {q t : Nat} {E E' : Qe} {w w6 : World} {S : Nat → Prop} {vO vR vO' vR' : Value}
theorem E8.putK (h : E8 q t E w S) (K : Nat) : Turn (E8 q t (E.setK K)) S w (w.setCell ⟨q, 2, none⟩ (.int .u64 (K : Int))) := by
  obtain ⟨vO, vR, ps, S1, S2, hps, h1, a, b, c, d1, d2, hS⟩ := h.open_
  exact E8.put (E' := E.setK K) hS h1 a b c d1 d2 (Below.refl _ _) b (fun k hk => .inl hk) 2 _ (e8P_2 t E vO vR K) rfl hps
theorem E8.putRest (h : E8 q t E w S) (c4 : w.cell? ⟨q, 4, none⟩ = some vR') {v' : Value} {r : List UInt8} (hm : ∀ W, Bs W vR' E.rest → Bs W v' r) : Turn (E8 q t (E.setRest r)) S w (w.setCell ⟨q, 4, none⟩ v') := by
  obtain ⟨vO, vR, ps, S1, S2, hps, h1, a, b, c, d1, d2, hS⟩ := h.open_
  have e4 : w.cell? ⟨q, 4, none⟩ = some vR := h1.cell (i := 4) (by omega)
  rw [c4] at e4
  injection e4 with e4
  subst e4
  exact E8.put (E' := E.setRest r) (vO' := vO) (vR' := v') (ps' := ps) hS h1 a b c d1 d2 (Below.refl _ _) (b.map fun W hW => ⟨hW.1, hm W hW.2⟩) (fun k hk => .inl hk) 4 _ (e8P_4 t E vO vR' v' r) rfl hps
theorem E8.putOp (h : E8 q t E w S) (c3 : w.cell? ⟨q, 3, none⟩ = some vO') {v' : Value} {op : List Qs} (hm : ∀ ps : List (Qs × Value), ps.map Prod.fst = E.op → ∃ ps' : List (Qs × Value), ps'.map Prod.fst = op ∧ ∀ W, Sr W vO' ps → Sr W v' ps') : Turn (E8 q t (E.setOp op)) S w (w.setCell ⟨q, 3, none⟩ v') := by
  obtain ⟨vO, vR, ps, S1, S2, hps, h1, a, b, c, d1, d2, hS⟩ := h.open_
  have e3 : w.cell? ⟨q, 3, none⟩ = some vO := h1.cell (i := 3) (by omega)
  rw [c3] at e3
  injection e3 with e3
  subst e3
  obtain ⟨ps', hp', hm'⟩ := hm ps hps
  exact E8.put (E' := E.setOp op) (vO' := v') (vR' := vR) (ps' := ps') hS h1 a b c d1 d2 (Below.refl _ _) (b.map fun W hW => ⟨hm' W hW.1, hW.2⟩) (fun k hk => .inl hk) 3 _ (e8P_3 t E vO' v' vR op) rfl hp'
/-- v[:0:0] and v[1:] of one section, and the two together: none. -/
theorem Sr.cut1 {vO : Value} {p : Qs × Value} (h : Sr w vO [p]) :
    ∃ A A' c', (∀ W : World, (Instr.slice 82 vO none (some (.int .i64 0)) (some (.int .i64 0))).run Try.prog W = .ok (.slice A 0 0) W) ∧
      (∀ W : World, (Instr.slice 82 vO (some (.int .i64 1)) none none).run Try.prog W = .ok (.slice A' 0 c') W) ∧
      (∀ (W : World) (ty : TypeId), (Builtin.append_ #[82, 82] ty #[.slice A 0 0, .slice A' 0 c']).run Try.prog W = .ok (.slice A 0 0) W) ∧ ∀ W, Sr W (.slice A 0 0) [] := by
  obtain ⟨⟨A, c, rfl, h1, h2, h3, h4⟩, _⟩ := h
  simp only [List.length_singleton] at h1 h4
  rcases h4 with ⟨rfl, rfl⟩ | ⟨x, rfl, hx⟩
  · omega
  have hm : c ≤ maxLen := h2
  have h63 : c ≤ 9223372036854775807 := by simp only [maxLen] at hm; omega
  obtain ⟨i, z, i1, i2, i3, i4, i5⟩ := infoS
  obtain ⟨A', hA'⟩ : ∃ A', sliced (some x) 1 1 c 3 = .slice (some A') 0 (c - 1) := by
    unfold sliced
    by_cases hc : c = 1
    · rw [if_pos hc]; exact ⟨_, rfl⟩
    · rw [if_neg hc]; exact ⟨_, rfl⟩
  refine ⟨some x, some A', c - 1, fun W => ?_, fun W => ?_, fun W ty => ?_, fun W => ⟨⟨some x, 0, rfl, Nat.le_refl _, by unfold maxLen; omega, rfl, .inr ⟨x, rfl, fun j u hu => by simp at hu⟩⟩, fun p hp => (by cases hp)⟩⟩
  · rw [run_slice_hm W 82 (some x) _ c elemS .i64 .i64 0 0 (by omega) (by omega) (by omega), sizeS]
    simp [Result.andThen, sliced]
  · rw [run_slice_l W 82 (some x) _ c elemS .i64 1 (by omega) (by simp), sizeS]
    exact congrArg (fun v => Result.ok v W) hA'
  · simp [Builtin.append_, run_underlying Try.underlying82, sizeOf, typeInfo, i1, i4, Builtin.lenOf, Builtin.firstCells, storeCells, loadCells, loadCellsFrom, Sem.run_bind, Result.andThen]
end
end Go.Proofs.Yteopmaaghhendaa
