/-
  Texts put together: QbA, QbB.
-/
import Derived.Test.YtebakjdeighdnaaGreatM44
import Derived.Test.YtebakjdeighdnaaGreatM43
import Derived.Test.YtebakjdeighdnaaGreatM13
import Derived.Deep.RegionHeld
import Derived.BigQuiet
import Derived.Deep.CutBlock

/-
  The document's decoder: what Decode and Send store; its making.
-/
namespace Go.Proofs.YtebakjdeighdnaaGreat
open Go.RowKit Go.Maps
set_option linter.unusedVariables false
set_option linter.unusedSimpArgs false

theorem d8F_6 (t mx B : Nat) (vR v' : Value) (vO : Value) (told : Nat) : ∀ j, j < 8 → (if j = 6 then v' else d8F t mx B vR false (.slice none 0 0) vO told j) = d8F t mx B vR false (.slice none 0 0) v' told j := fun j hj => by
  unfold d8F
  match j, hj with
  | 0, _ => rfl
  | 1, _ => rfl
  | 2, _ => rfl
  | 3, _ => rfl
  | 4, _ => rfl
  | 5, _ => rfl
  | 6, _ => rfl
  | 7, _ => rfl
theorem d8F_7 (t mx B : Nat) (vR : Value) (vO : Value) (told n : Nat) : ∀ j, j < 8 → (if j = 7 then .int .u64 (n : Int) else d8F t mx B vR false (.slice none 0 0) vO told j) = d8F t mx B vR false (.slice none 0 0) vO n j := fun j hj => by
  unfold d8F
  match j, hj with
  | 0, _ => rfl
  | 1, _ => rfl
  | 2, _ => rfl
  | 3, _ => rfl
  | 4, _ => rfl
  | 5, _ => rfl
  | 6, _ => rfl
  | 7, _ => rfl
section
variable {q t : Nat} {T : Tab} {mx B told : Nat} {rest out out' : List UInt8} {w w6 : World} {S S3 : Nat → Prop} {v' vO' : Value}
theorem Owb.none_ (w : World) : Owb (.slice none 0 0) [] w (fun _ => False) := ⟨OwB.nil w 0, fun k => ⟨fun h => h.elim, fun h => by simp [Value.ownBlock] at h⟩⟩
/-- What is to be sent has turned, in its row and new ones; then it is stored. -/
theorem D8.putOut (h : D8 q t T mx B rest out told w S) (c6 : w.cell? ⟨q, 6, none⟩ = some vO') (hf : Fp (fun k => vO'.ownBlock = some k) w w6) (ho : OwB w6 0 v' out') (hv : ∀ k, v'.ownBlock = some k → vO'.ownBlock = some k ∨ w.heap.size ≤ k) :
    Turn (D8 q t T mx B rest out' told) S w (w6.setCell ⟨q, 6, none⟩ v') := by
  obtain ⟨vR, vO, S1, S2, S3, h1, a, b, c, d1, d2, e1, e2, e3, hS⟩ := h.open_
  have e6 : w.cell? ⟨q, 6, none⟩ = some vO := h1.cell (i := 6) (by omega)
  rw [c6] at e6
  injection e6 with e6
  subst e6
  have hq := h1.lt
  have l1 := (Wd.rt t T).lt a
  have l2 := (Wd.ob _).lt b
  have hf3 : Fp S3 w w6 := hf.mono fun k hk => (c.2 k).2 hk
  have hg : Fp (fun k => k = q) w6 (w6.setCell ⟨q, 6, none⟩ v') := Fp.set _ _ _ _ rfl
  have hv3 : ∀ k, v'.ownBlock = some k → S3 k ∨ w.heap.size ≤ k := fun k hk => (hv k hk).imp (fun h => (c.2 k).2 h) id
  have hrow := ((h1.of_block (hf3.block q hq e3)).set 6 v').congr (d8F_6 t mx B vR v' vO' told)
  have a6 := (Wd.rt t T).besides ((Wd.rt t T).besides a hf3 fun k hk => (d1 k hk).2) hg fun k hk e => e1 (e ▸ hk)
  have b6 := (Wd.ob _).besides ((Wd.ob _).besides b hf3 fun k hk => d2 k hk) hg fun k hk e => e2 (e ▸ hk)
  have nq : v'.ownBlock ≠ some q := fun e => (hv3 q e).elim e3 fun h => by omega
  have c6' : Owb v' out' (w6.setCell ⟨q, 6, none⟩ v') (fun k => v'.ownBlock = some k) := ⟨ho.kept fun k hk => hg.block k (ho.lt hk) (fun e => nq (e ▸ hk)), fun k => Iff.rfl⟩
  have h8 := D8.shut_ (B := B) hrow a6 b6 c6' (fun k hk => ⟨(d1 k hk).1, fun hv => (hv3 k hv).elim (d1 k hk).2 fun h => by have := l1 k hk; omega⟩) (fun k hk hv => (hv3 k hv).elim (d2 k hk) fun h => by have := l2 k hk; omega) e1 e2 nq
  refine ⟨_, h8, fun k hk => ?_, (hf3.mono fun k hk => (hS k).2 (.inr (.inr (.inl hk)))).then (hg.mono fun k hk => (hS k).2 (.inr (.inr (.inr hk))))⟩
  rcases hk with hk | hk | hk | hk
  · exact .inl ((hS k).2 (.inl hk))
  · exact .inl ((hS k).2 (.inr (.inl hk)))
  · exact (hv3 k hk).imp (fun h => (hS k).2 (.inr (.inr (.inl h)))) id
  · exact .inl ((hS k).2 (.inr (.inr (.inr hk))))
theorem D8.putTold (h : D8 q t T mx B rest out told w S) (n : Nat) : Turn (D8 q t T mx B rest out n) S w (w.setCell ⟨q, 7, none⟩ (.int .u64 (n : Int))) := by
  obtain ⟨vR, vO, h⟩ := h
  obtain ⟨S', x, s, f⟩ := Hd.set ((Wd.rt t T).both ((Wd.ob _).both (Wd.owb _ _))) h 7 (.int .u64 (n : Int)) (d8F_7 t mx B vR vO told n)
  exact ⟨S', ⟨vR, vO, x⟩, s, f⟩
/-- What is to be sent, taken out. -/
theorem D8.takeOut (h : D8 q t T mx B rest out told w S) (c6 : w.cell? ⟨q, 6, none⟩ = some vO') (hf : Fp (fun k => vO'.ownBlock = some k) w w6) (ho : OwB w6 0 v' out') (hv : ∀ k, v'.ownBlock = some k → vO'.ownBlock = some k ∨ w.heap.size ≤ k) :
    Turn (Both (D8 q t T mx B rest [] told) (Owb v' out')) S w (w6.setCell ⟨q, 6, none⟩ (.slice none 0 0)) := by
  obtain ⟨vR, vO, S1, S2, S3, h1, a, b, c, d1, d2, e1, e2, e3, hS⟩ := h.open_
  have e6 : w.cell? ⟨q, 6, none⟩ = some vO := h1.cell (i := 6) (by omega)
  rw [c6] at e6
  injection e6 with e6
  subst e6
  have hq := h1.lt
  have l1 := (Wd.rt t T).lt a
  have l2 := (Wd.ob _).lt b
  have hf3 : Fp S3 w w6 := hf.mono fun k hk => (c.2 k).2 hk
  have hg : Fp (fun k => k = q) w6 (w6.setCell ⟨q, 6, none⟩ (.slice none 0 0)) := Fp.set _ _ _ _ rfl
  have hv3 : ∀ k, v'.ownBlock = some k → S3 k ∨ w.heap.size ≤ k := fun k hk => (hv k hk).imp (fun h => (c.2 k).2 h) id
  have hrow := ((h1.of_block (hf3.block q hq e3)).set 6 (.slice none 0 0)).congr (d8F_6 t mx B vR (.slice none 0 0) vO' told)
  have a6 := (Wd.rt t T).besides ((Wd.rt t T).besides a hf3 fun k hk => (d1 k hk).2) hg fun k hk e => e1 (e ▸ hk)
  have b6 := (Wd.ob _).besides ((Wd.ob _).besides b hf3 fun k hk => d2 k hk) hg fun k hk e => e2 (e ▸ hk)
  have nq : v'.ownBlock ≠ some q := fun e => (hv3 q e).elim e3 fun h => by omega
  have c6' : Owb v' out' (w6.setCell ⟨q, 6, none⟩ (.slice none 0 0)) (fun k => v'.ownBlock = some k) := ⟨ho.kept fun k hk => hg.block k (ho.lt hk) (fun e => nq (e ▸ hk)), fun k => Iff.rfl⟩
  have h8 := D8.shut_ (B := B) hrow a6 b6 (Owb.none_ _) (fun k hk => ⟨(d1 k hk).1, fun h => h⟩) (fun k hk h => h) e1 e2 (fun h => h)
  refine ⟨_, ⟨_, _, h8, c6', ?_, fun k => Iff.rfl⟩, fun k hk => ?_, (hf3.mono fun k hk => (hS k).2 (.inr (.inr (.inl hk)))).then (hg.mono fun k hk => (hS k).2 (.inr (.inr (.inr hk))))⟩
  · rintro k (hk | hk | hk | hk) hv
    · exact (hv3 k hv).elim (d1 k hk).2 fun h => by have := l1 k hk; omega
    · exact (hv3 k hv).elim (d2 k hk) fun h => by have := l2 k hk; omega
    · exact hk
    · subst hk; exact nq hv
  · rcases hk with (hk | hk | hk | hk) | hk
    · exact .inl ((hS k).2 (.inl hk))
    · exact .inl ((hS k).2 (.inr (.inl hk)))
    · exact hk.elim
    · exact .inl ((hS k).2 (.inr (.inr (.inr hk))))
    · exact (hv3 k hk).imp (fun h => (hS k).2 (.inr (.inr (.inl h)))) id
/-- What is to be sent, taken out, all told. -/
theorem D8.takeOut2 (h : D8 q t T mx B rest out told w S) (c6 : w.cell? ⟨q, 6, none⟩ = some vO') (hf : Fp (fun k => vO'.ownBlock = some k) w w6) (ho : OwB w6 0 v' out') (hv : ∀ k, v'.ownBlock = some k → vO'.ownBlock = some k ∨ w.heap.size ≤ k) (n : Nat) :
    Turn (Both (D8 q t T mx B rest [] n) (Owb v' out')) S w ((w6.setCell ⟨q, 7, none⟩ (.int .u64 (n : Int))).setCell ⟨q, 6, none⟩ (.slice none 0 0)) := by
  obtain ⟨vR, vO, S1, S2, S3, h1, a, b, c, d1, d2, e1, e2, e3, hS⟩ := h.open_
  have e6 : w.cell? ⟨q, 6, none⟩ = some vO := h1.cell (i := 6) (by omega)
  rw [c6] at e6
  injection e6 with e6
  subst e6
  have hq := h1.lt
  have l1 := (Wd.rt t T).lt a
  have l2 := (Wd.ob _).lt b
  have hf3 : Fp S3 w w6 := hf.mono fun k hk => (c.2 k).2 hk
  have hg : Fp (fun k => k = q) w6 ((w6.setCell ⟨q, 7, none⟩ (.int .u64 (n : Int))).setCell ⟨q, 6, none⟩ (.slice none 0 0)) := (Fp.set (fun k => k = q) w6 ⟨q, 7, none⟩ (.int .u64 (n : Int)) rfl).then (Fp.set (fun k => k = q) _ ⟨q, 6, none⟩ (.slice none 0 0) rfl)
  have hv3 : ∀ k, v'.ownBlock = some k → S3 k ∨ w.heap.size ≤ k := fun k hk => (hv k hk).imp (fun h => (c.2 k).2 h) id
  have hrow := ((((h1.of_block (hf3.block q hq e3)).set 7 (.int .u64 (n : Int))).congr (d8F_7 t mx B vR vO' told n)).set 6 (.slice none 0 0)).congr (d8F_6 t mx B vR (.slice none 0 0) vO' n)
  have a6 := (Wd.rt t T).besides ((Wd.rt t T).besides a hf3 fun k hk => (d1 k hk).2) hg fun k hk e => e1 (e ▸ hk)
  have b6 := (Wd.ob _).besides ((Wd.ob _).besides b hf3 fun k hk => d2 k hk) hg fun k hk e => e2 (e ▸ hk)
  have nq : v'.ownBlock ≠ some q := fun e => (hv3 q e).elim e3 fun h => by omega
  have c6' : Owb v' out' ((w6.setCell ⟨q, 7, none⟩ (.int .u64 (n : Int))).setCell ⟨q, 6, none⟩ (.slice none 0 0)) (fun k => v'.ownBlock = some k) := ⟨ho.kept fun k hk => hg.block k (ho.lt hk) (fun e => nq (e ▸ hk)), fun k => Iff.rfl⟩
  have h8 := D8.shut_ (B := B) hrow a6 b6 (Owb.none_ _) (fun k hk => ⟨(d1 k hk).1, fun h => h⟩) (fun k hk h => h) e1 e2 (fun h => h)
  refine ⟨_, ⟨_, _, h8, c6', ?_, fun k => Iff.rfl⟩, fun k hk => ?_, (hf3.mono fun k hk => (hS k).2 (.inr (.inr (.inl hk)))).then (hg.mono fun k hk => (hS k).2 (.inr (.inr (.inr hk))))⟩
  · rintro k (hk | hk | hk | hk) hv
    · exact (hv3 k hv).elim (d1 k hk).2 fun h => by have := l1 k hk; omega
    · exact (hv3 k hv).elim (d2 k hk) fun h => by have := l2 k hk; omega
    · exact hk
    · subst hk; exact nq hv
  · rcases hk with (hk | hk | hk | hk) | hk
    · exact .inl ((hS k).2 (.inl hk))
    · exact .inl ((hS k).2 (.inr (.inl hk)))
    · exact hk.elim
    · exact .inl ((hS k).2 (.inr (.inr (.inr hk))))
    · exact (hv3 k hk).imp (fun h => (hS k).2 (.inr (.inr (.inl h)))) id
theorem D8.cells (h : D8 q t T mx B rest out told w S) : ∃ vR vO, w.cell? ⟨q, 0, none⟩ = some (.pointer (some ⟨t, 0, none⟩)) ∧ w.cell? ⟨q, 1, none⟩ = some (.int .i64 (mx : Int)) ∧ w.cell? ⟨q, 3, none⟩ = some vR ∧ w.cell? ⟨q, 4, none⟩ = some (.bool false) ∧ w.cell? ⟨q, 5, none⟩ = some (.slice none 0 0) ∧ w.cell? ⟨q, 6, none⟩ = some vO ∧ w.cell? ⟨q, 7, none⟩ = some (.int .u64 (told : Int)) ∧ OwB w 0 vO out ∧ (∀ k, vO.ownBlock = some k → S k) ∧ (∀ i, w.frozen? ⟨q, i, none⟩ = false) ∧ w.cell? ⟨t, 2, none⟩ = some (.int .u64 (T.tot : Int)) ∧ ∃ S1, Rt t T w S1 := by
  obtain ⟨vR, vO, S1, S2, S3, h1, a, b, c, d1, d2, e1, e2, e3, hS⟩ := h.open_
  obtain ⟨v, k0, k1, k2, _, hst⟩ := a.cells
  exact ⟨vR, vO, h1.cell (i := 0) (by omega), h1.cell (i := 1) (by omega), h1.cell (i := 3) (by omega), h1.cell (i := 4) (by omega), h1.cell (i := 5) (by omega), h1.cell (i := 6) (by omega), h1.cell (i := 7) (by omega), c.1, fun k hk => (hS k).2 (.inr (.inr (.inl ((c.2 k).2 hk)))), fun i => h1.frozen i, k2, S1, a⟩
end
theorem clamp8b_any (n : Int) (w : World) : Calls Tryz.prog 23 #[.int .i64 n] w fun e w' => e = .returned (.int .i64 (clampN n : Int)) ∧ w = w' := by
  have hcl := clampN_eq n
  go_enter Tryz.func23, Tryz.ntmps23
  go_wp2
  go_ret
  exact ⟨rfl, rfl⟩
/-- What Send tells. -/
def sendW (out : List UInt8) (told tot : Nat) : List UInt8 := out ++ (if told < tot then pre 0 6 (tot - told) else [])
set_option maxRecDepth 100000 in
set_option maxHeartbeats 2000000 in
theorem newDec8_any (n b : Int) (hb : -9223372036854775808 ≤ b ∧ b < 9223372036854775808) (w : World) :
    Calls Tryz.prog 7 #[.int .i64 n, .int .i64 b] w fun e w' => ∃ q t S, e = .returned (.pointer (some ⟨q, 0, none⟩)) ∧ D8 q t ⟨[], 0, 0⟩ (clampN n) b.toNat [] [] 0 w' S ∧ (∀ k, S k → w.heap.size ≤ k) ∧ Below w.heap.size w w' := by
  have HC := Bx.mk (clamp8b_any n)
  have HN := Bx.mk (fun W => newTable_any 0 W (by omega))
  have HMX : Bx (max b 0 = ((b.toNat : Nat) : Int)) := ⟨by omega⟩
  generalize clampN n = c at HC ⊢
  have HT : Bx (Tab.new 0 = ⟨[], 0, 0⟩) := ⟨rfl⟩
  simp only [HT.out] at HN
  clear hb
  go_enter Tryz.func7, Tryz.ntmps7
  go_wp2_with (first
    | (go_at_call 23; refine (HC.out _).mono ?_; rintro e w1 ⟨rfl, rfl⟩)
    | (go_at_call 22; refine (HN.out _).mono ?_; rintro e w1 ⟨t, S, rfl, hrt, hS, hb⟩; have hsz := hb.size))
  go_ret
  rw [HMX.out]
  have hob : Ob (fun W => Bs W (.slice none 0 0) []) w1 (fun _ => False) := Ob.none fun W => Rd.nil W
  have hbo : Both (Rt t ⟨[], 0, 0⟩) (Both (Ob (fun W => Bs W (.slice none 0 0) [])) (Owb (.slice none 0 0) [])) w1 S := ⟨S, fun _ => False, hrt, ⟨fun _ => False, fun _ => False, hob, Owb.none_ _, fun k h _ => h, fun k => ⟨fun h => h.elim, fun h => h.elim id id⟩⟩, fun k _ h => h, fun k => ⟨.inl, fun h => h.elim id fun h => h.elim⟩⟩
  have hn := Hd.new (ty := 68) (F := d8F t c b.toNat (.slice none 0 0) false (.slice none 0 0) (.slice none 0 0) 0) ((Wd.rt t _).both ((Wd.ob _).both (Wd.owb _ _))) hbo #[.pointer (some ⟨t, 0, none⟩), .int .i64 (c : Int), .int .i64 (b.toNat : Int), .slice none 0 0, .bool false, .slice none 0 0, .slice none 0 0, .int .u64 0] (fun j hj => by
    have : j < 8 := hj
    unfold d8F
    match j, this with
    | 0, _ => rfl
    | 1, _ => rfl
    | 2, _ => rfl
    | 3, _ => rfl
    | 4, _ => rfl
    | 5, _ => rfl
    | 6, _ => rfl
    | 7, _ => rfl)
  exact ⟨w1.heap.size, t, _, rfl, ⟨.slice none 0 0, .slice none 0 0, hn⟩, fun k hk => by rcases hk with h | rfl; exact hS k h; exact hsz, hb.trans (((Below.refl _ _).alloc (Nat.le_refl _) _).mono hsz)⟩
end Go.Proofs.YtebakjdeighdnaaGreat

/-
  Contracts of the document's Decode, of a section that waits for nothing, and Send.
-/
namespace Go.Proofs.YtebakjdeighdnaaGreat
open Go.RowKit Go.Maps
set_option linter.unusedVariables false
set_option linter.unusedSimpArgs false

section
variable {q t : Nat} {T : Tab} {mx B told : Nat} {rest out : List UInt8} {w : World} {S : Nat → Prop}
theorem Fp.own {B : Nat} {k : Nat} {e : TypeId} {v : Value} {n : Nat} {xs : List Value} {w w' : World} {S : Nat → Prop} (h : w.ownsRow B e k v n xs) (hf : Fp S w w') (hs : ∀ g, v.ownBlock = some g → ¬ S g) : w'.ownsRow B e k v n xs :=
  own_kept h fun g hg => hf.block g (h.lt g hg).2 (hs g hg)
theorem OwB.shp {w : World} {B : Nat} {v : Value} {l : List UInt8} (h : OwB w B v l) : ∃ A n c, v = .slice A n c := by
  obtain ⟨A, n, c, e, _⟩ := h.bs.open_
  exact ⟨_, _, _, e⟩
theorem refPrefix_fwat (bV : Value) (bl : List UInt8) (f : UInt8) (F : Int) (hF : (f.toNat : Int) = F) (n : Int) (k : Nat) (hk : bitsOf n = k) (v : Nat) (V : Int) (hV : (v : Int) = V) (w : World) (hb : OwB w 0 bV bl) (hbl : bl.length ≤ 200000) (hv : v < 18446744073709551616) :
    Calls Tryz.prog 33 #[bV, .int .u8 F, .int .i64 n, .int .u64 V] w fun e w' => ∃ v', e = .returned v' ∧ OwB w' 0 v' (bl ++ pre f k v) ∧ Below 0 w w' ∧ Fp (fun g => bV.ownBlock = some g) w w' ∧ ∀ g, v'.ownBlock = some g → bV.ownBlock = some g ∨ w.heap.size ≤ g := by
  subst hF hk hV
  refine (refPrefix_fw 0 bV bl f n v w hb (Nat.zero_le _) hbl hv).mono ?_
  rintro e w' ⟨v', rfl, h1, h2, h3, h4⟩
  refine ⟨v', rfl, h1, h2, Fp.of_grown h3 fun k h => h, fun g hg => ?_⟩
  rcases h4 with h4 | ⟨g', h4, h5⟩
  · exact .inl (by rw [← h4]; exact hg)
  · rw [h4] at hg
    injection hg with hg
    exact .inr (hg ▸ h5)
/-- Behind a change of what is to be sent, the cell that holds it. -/
theorem d8_q6 {vO : Value} {w5 : World} (h : D8 q t T mx B rest out told w S) (hf : Fp (fun g => vO.ownBlock = some g) w w5) (c6 : w.cell? ⟨q, 6, none⟩ = some vO) : (∀ (i : Nat) (v : Value), w.cell? ⟨q, i, none⟩ = some v → w5.cell? ⟨q, i, none⟩ = some v) ∧ ∀ i : Nat, w5.frozen? ⟨q, i, none⟩ = false := by
  obtain ⟨vR, vO', S1, S2, S3, h1, a, b, c, d1, d2, e1, e2, e3, hS⟩ := h.open_
  have e6 : w.cell? ⟨q, 6, none⟩ = some vO' := h1.cell (i := 6) (by omega)
  rw [c6] at e6
  injection e6 with e6
  subst e6
  have hb := hf.block q h1.lt (fun e => e3 ((c.2 q).2 e))
  refine ⟨fun i v hv => ?_, fun i => (h1.of_block hb).frozen i⟩
  rw [← hv]
  simp only [World.cell?, hb]
set_option maxRecDepth 100000 in
set_option maxHeartbeats 8000000 in
theorem ddecode8_ok (h : D8 q t T mx B rest out told w S) {bV : Value} {b : List UInt8} (hb : ∀ W, Below w.heap.size w W → Bs W bV b) (hl : b.length ≤ 100000) (hmx : mx ≤ 4096) {c n1 m1 : Nat} {l : List Fd} (hr1 : rp 8 b = ((n1 : Int), (m1 : Int), 0)) (hr2 : rp 7 (b.drop m1) = (0, ((1 : Nat) : Int), 0)) (hm : m1 + 1 ≤ b.length) (hx : (b[m1]).toNat < 128) (hn1 : n1 < 18446744073709551616) (hd : dcN n1 T.tot (mostN (mx : Int)) = some c) (hct : c ≤ T.tot) (htt : T.tot ≤ 1000000) (hrd : RdLs T c (b.drop (m1 + 1)) l) (hll : l.length ≤ 64) (s : Nat) (hs : s ≤ 1000000) (hol : out.length ≤ 100000) (htd : told ≤ 1000000) :
    Calls Tryz.prog 11 #[.pointer (some ⟨q, 0, none⟩), .int .u64 (s : Int), bV] w fun e w' => ∃ v, e = .returned (.tuple #[v, .int .i64 0]) ∧ Fs w' v l ∧ Turn (D8 q t T mx B rest (if 0 < c then out ++ pre 128 7 s else out) (if 0 < c then max told c else told)) S w w' := by
  obtain ⟨vR, vO, c0, c1, c3, c4, c5, c6, c7, how, hos, hfz, ct, S1, hrt⟩ := h.cells
  have hsl := (Wd.d8 q t T mx B rest out told).lt h
  have hK : ∀ {a : Addr} {v : Value}, w.cell? a = some v → ∀ W, Below w.heap.size w W → W.cell? a = some v := fun hc W hW => (hW.cell (World.block_lt_of_cell? _ _ hc)).trans hc
  have X0 := hK c0
  have X1 := hK c1
  have X2 := hK ct
  have X4 := hK c4
  have X5 := hK c5
  have X6 := hK c6
  have X7 := hK c7
  have HRP := Bx.mk (fun W (hW : Below w.heap.size w W) => refQRead_ok bV b T.tot mx W (hb W hW) (by omega) (by omega) (by omega) hr1 hr2 (by omega) hm hx hn1 hd (by omega))
  have HFG := Bx.mk (fun W (hW : Below w.heap.size w W) => dforget_none (q := q) (w := W) s (X5 W hW))
  obtain ⟨cV, hfrom, hcV⟩ := (hb w (Below.refl _ _)).from_ ((m1 + 1 : Nat) : Int) (by omega) (by omega)
  rw [Int.toNat_natCast] at hcV
  have HLN := Bx.mk (fun W (hW : Below w.heap.size w W) => lines_ok (q := q) ((Wd.rt t T).keep hrt hW) (X0 W hW) (hcV W (hb W hW)) (by simp; omega) (by omega) hrd hll)
  have HD := Bx.mk h
  have HOW := Bx.mk (And.intro how (And.intro hos hsl))
  have HNUM := Bx.mk (show s ≤ 1000000 ∧ out.length ≤ 100000 ∧ told ≤ 1000000 ∧ c ≤ 1000000 from ⟨hs, hol, htd, by omega⟩)
  obtain ⟨tt, htt'⟩ : ∃ tt, T.tot = tt := ⟨_, rfl⟩
  rw [htt'] at X2 HRP hct ct
  obtain ⟨m2, hm2⟩ : ∃ m2, m1 + 1 = m2 := ⟨_, rfl⟩
  rw [hm2] at HRP hfrom
  have g1 : decide ((tt : Int) < (c : Int)) = false := by rw [decide_eq_false_iff_not]; omega
  have g1' : decide (tt < c) = false := by rw [decide_eq_false_iff_not]; omega
  have HX := Bx.mk (And.intro X0 (And.intro X2 (And.intro X6 X7)))
  have HPF := Bx.mk (fun W (hW : OwB W 0 vO out) (h1 : s ≤ 1000000) (h2 : out.length ≤ 100000) => refPrefix_fwat vO out 128 128 rfl 7 7 rfl s _ rfl W hW (by omega) (by omega))
  clear X0 X1 X2 X4 X5 X6 X7 hK hfz c3
  clear h hb hl hmx hr1 hr2 hm hx hn1 hd hct htt hrd hll hs hol htd how hos hsl hcV hrt c5 c7 htt' hm2 c6
  by_cases hc0 : 0 < c
  · have gc : decide ((0 : Int) < (c : Int)) = true := decide_eq_true (by omega)
    have gc' : decide (0 < c) = true := decide_eq_true hc0
    rw [if_pos hc0, if_pos hc0]
    obtain ⟨MX, hMX⟩ : ∃ MX : Nat, max told c = MX := ⟨_, rfl⟩
    have hmx : max (told : Int) (c : Int) = (MX : Int) := by omega
    rw [hMX]
    clear hc0 hMX
    go_enter Tryz.func11, Tryz.ntmps11
    go_upto_region 3 with fail
    go_quiet (exact (HRP.out _ (below_drewN (Below.refl _ _) _)).mono (fun e w' h => ⟨h.1, _, h.2.symm⟩))
    have hb2 : Below w.heap.size w (w.drewN nq) := below_drewN (Below.refl _ _) _
    obtain ⟨w2, hw2⟩ : ∃ w2, w.drewN nq = w2 := ⟨_, rfl⟩
    rw [hw2] at hb2 ⊢
    have HB2 := Bx.mk hb2
    have d0 := HX.out.1 w2 hb2
    have dt := HX.out.2.1 w2 hb2
    clear c0 ct c1 c4 hw2 hb2
    go_upto_region 17 with (first
      | (go_at_call 31; refine (HFG.out _ HB2.out).mono ?_; rintro r w3 ⟨⟨r, rfl⟩, rfl⟩)
      | (go_at_call 32; refine (HLN.out _ HB2.out).mono ?_; rintro r w4 ⟨v4, rfl, ho4, b4⟩; have HO4 := Bx.mk ho4; have HB4 := Bx.mk (HB2.out.trans (b4.mono HB2.out.size)); clear ho4 b4))
    have d6 := HX.out.2.2.1 w4 HB4.out
    have HD4 := Bx.mk ((Wd.d8 q t T mx B rest out told).keep HD.out HB4.out)
    have HOW4 := Bx.mk (HOW.out.1.keep HB4.out)
    clear d0 dt
    go_upto_region 18 with (go_at_call 33; refine (HPF.out w4 HOW4.out HNUM.out.1 HNUM.out.2.1).mono ?_; rintro r w5 ⟨v5, rfl, ho5, b5, hf5, hs5⟩; obtain ⟨A5, n5, c5, rfl⟩ := OwB.shp ho5; have HF5 := Bx.mk (And.intro ho5 (And.intro hf5 hs5)); obtain ⟨hq5, hz5⟩ := d8_q6 HD4.out hf5 d6; have e6 := hq5 6 vO d6; have e7 := hq5 7 _ (HX.out.2.2.2 w4 HB4.out); have g6 := hz5 6; have HZ5 := Bx.mk (And.intro e7 d6); clear ho5 b5 hf5 hs5 d6 hq5 hz5)
    obtain ⟨w6, hw6⟩ : ∃ w6, w5.setCell ⟨q, 6, none⟩ (.slice A5 n5 c5) = w6 := ⟨_, rfl⟩
    have HT6 := Bx.mk (HD4.out.putOut HZ5.out.2 HF5.out.2.1 HF5.out.1 HF5.out.2.2)
    have d7 : w6.cell? ⟨q, 7, none⟩ = some (.int .u64 (told : Int)) := by rw [← hw6]; exact (World.cell?_setCell_other _ ⟨q, 6, none⟩ ⟨q, 7, none⟩ _ (by intro h; injection h with _ h; cases h)).trans e7
    rw [hw6] at HT6 ⊢
    clear hw6 e6 e7 g6 HZ5 HF5
    obtain ⟨S6, h6, hs6, hf6⟩ := HT6.out
    obtain ⟨_, _, _, _, _, _, _, _, _, _, _, kz, _⟩ := h6.cells
    have g7 : w6.frozen? ⟨q, 7, none⟩ = false := kz 7
    have HT7 := Bx.mk (Turn.step hs6 hf6 (h6.putTold MX))
    clear h6 hs6 hf6 kz HT6
    go_wp2_with fail
    refine bodyPost_ret (results_tmp2 Tryz.results11 _ _ _) rfl ?_
    have hfp : Fp S w4 (w6.setCell ⟨q, 7, none⟩ (.int .u64 (MX : Int))) := by obtain ⟨_, _, _, f⟩ := HT7.out; exact f
    have hof := Fp.own HO4.out hfp (fun g hg hs => by have h1 := (World.ownsRow.lt HO4.out g hg).1; have h2 := HOW.out.2.2 g hs; have h3 := HB2.out.size; omega)
    exact ⟨_, rfl, OwF.fs hof, Turn.before HB4.out HT7.out⟩
  · have gc : decide ((0 : Int) < (c : Int)) = false := decide_eq_false (by omega)
    have gc' : decide (0 < c) = false := decide_eq_false hc0
    rw [if_neg hc0, if_neg hc0]
    clear hc0
    go_enter Tryz.func11, Tryz.ntmps11
    go_upto_region 3 with fail
    go_quiet (exact (HRP.out _ (below_drewN (Below.refl _ _) _)).mono (fun e w' h => ⟨h.1, _, h.2.symm⟩))
    have hb2 : Below w.heap.size w (w.drewN nq) := below_drewN (Below.refl _ _) _
    obtain ⟨w2, hw2⟩ : ∃ w2, w.drewN nq = w2 := ⟨_, rfl⟩
    rw [hw2] at hb2 ⊢
    have HB2 := Bx.mk hb2
    have d0 := HX.out.1 w2 hb2
    have dt := HX.out.2.1 w2 hb2
    clear c0 ct c1 c4 hw2 hb2
    go_wp2_with (first
      | (go_at_call 31; refine (HFG.out _ HB2.out).mono ?_; rintro r w3 ⟨⟨r, rfl⟩, rfl⟩)
      | (go_at_call 32; refine (HLN.out _ HB2.out).mono ?_; rintro r w4 ⟨v4, rfl, ho4, b4⟩; have HO4 := Bx.mk ho4; have HB4 := Bx.mk (HB2.out.trans (b4.mono HB2.out.size)); clear ho4 b4))
    refine bodyPost_ret (results_tmp2 Tryz.results11 _ _ _) rfl ?_
    exact ⟨_, rfl, HO4.out.fs, (Wd.d8 q t T mx B rest out told).turned HD.out HB4.out⟩
theorem d8_t2 {vO : Value} {w5 : World} (h : D8 q t T mx B rest out told w S) (hf : Fp (fun g => vO.ownBlock = some g) w w5) (c6 : w.cell? ⟨q, 6, none⟩ = some vO) : w5.cell? ⟨t, 2, none⟩ = some (.int .u64 (T.tot : Int)) := by
  obtain ⟨vR, vO', S1, S2, S3, h1, a, b, c, d1, d2, e1, e2, e3, hS⟩ := h.open_
  have e6 : w.cell? ⟨q, 6, none⟩ = some vO' := h1.cell (i := 6) (by omega)
  rw [c6] at e6
  injection e6 with e6
  subst e6
  have hr := (Wd.rt t T).besides a hf fun k hk hv => (d1 k hk).2 ((c.2 k).2 hv)
  obtain ⟨v, k0, k1, k2, _, hst⟩ := hr.cells
  exact k2
set_option maxRecDepth 100000 in
set_option maxHeartbeats 8000000 in
theorem dsend8_any (h : D8 q t T mx B rest out told w S) (hol : out.length ≤ 100000) (htd : told ≤ T.tot) (htt : T.tot ≤ 1000000) :
    Calls Tryz.prog 14 #[.pointer (some ⟨q, 0, none⟩)] w fun e w' => ∃ v, e = .returned v ∧ Turn (Both (D8 q t T mx B rest [] T.tot) (Owb v (sendW out told T.tot))) S w w' := by
  obtain ⟨vR, vO, c0, c1, c3, c4, c5, c6, c7, how, hos, hfz, ct, S1, hrt⟩ := h.cells
  have hK : ∀ {a : Addr} {v : Value}, w.cell? a = some v → ∀ W, Below w.heap.size w W → W.cell? a = some v := fun hc W hW => (hW.cell (World.block_lt_of_cell? _ _ hc)).trans hc
  have X0 := hK c0
  have X2 := hK ct
  have X6 := hK c6
  have X7 := hK c7
  obtain ⟨A0, n0, d0, rfl⟩ := OwB.shp how
  obtain ⟨vO, hvO⟩ : ∃ vO, Value.slice A0 n0 d0 = vO := ⟨_, rfl⟩
  have HVO := Bx.mk hvO
  rw [hvO] at how hos X6 c6
  have HD := Bx.mk h
  have HOW := Bx.mk how
  obtain ⟨tt, htt'⟩ : ∃ tt, T.tot = tt := ⟨_, rfl⟩
  have HTT := Bx.mk htt'
  rw [htt'] at htd htt ct X2 ⊢
  by_cases hlt : told < tt
  · have g1 : decide ((told : Int) < (tt : Int)) = true := decide_eq_true (by omega)
    have g2 : decide (told < tt) = true := decide_eq_true hlt
    obtain ⟨df, hdf⟩ : ∃ df : Nat, tt - told = df := ⟨_, rfl⟩
    have hsub : IntKind.u64.wrap ((tt : Int) - (told : Int)) = (df : Int) := by rw [show (tt : Int) - (told : Int) = (df : Int) from by omega]; exact u64_keep (by omega) (by omega)
    have hsub2 : (tt : Int) - (told : Int) = (df : Int) := by omega
    have hsub3 : IntKind.u64.wrap (df : Int) = (df : Int) := u64_keep (by omega) (by omega)
    have HS : Bx (sendW out told tt = out ++ pre 0 6 df) := ⟨by unfold sendW; rw [if_pos hlt, hdf]⟩
    rw [HS.out]
    obtain ⟨DF, hDF⟩ := letter df
    obtain ⟨TT, hTT⟩ := letter tt
    obtain ⟨TO, hTO⟩ := letter told
    have HPF := Bx.mk (fun W (hW : OwB W 0 vO out) => refPrefix_fwat vO out 0 0 rfl 6 6 rfl df DF hDF W hW (by omega) (by omega))
    rw [hDF] at hsub
    rw [hTT] at X2 ct hsub g1
    rw [hTO] at X7 c7 hsub g1
    have HTT2 := Bx.mk hTT
    clear hsub2 hsub3 g2 hDF hTT hTO
    have HX := Bx.mk (And.intro X0 (And.intro X2 (And.intro X6 X7)))
    clear X0 X2 X6 X7 hK h c1 c3 c4 c5 how hos hfz hrt htd htt hlt hol hdf htt' hvO
    go_enter Tryz.func14, Tryz.ntmps14
    go_upto_region 2 with fail
    go_quiet (fail)
    have hb2 : Below w.heap.size w (w.drewN nq) := below_drewN (Below.refl _ _) _
    obtain ⟨w2, hw2⟩ : ∃ w2, w.drewN nq = w2 := ⟨_, rfl⟩
    rw [hw2] at hb2 ⊢
    have HB2 := Bx.mk hb2
    have hb2d := hb2.trans ((Below.refl w2.heap.size w2).drew.mono hb2.size)
    have HD2 := Bx.mk ((Wd.d8 q t T mx B rest out told).keep HD.out hb2d)
    have HOW2 := Bx.mk (HOW.out.keep hb2d)
    have d6 := HX.out.2.2.1 w2.drew hb2d
    have hS0 : w2.drew.cell? ⟨q, 0, none⟩ = some (.pointer (some ⟨t, 0, none⟩)) ∧ w2.drew.cell? ⟨t, 2, none⟩ = some (.int .u64 TT) ∧ w2.drew.cell? ⟨q, 7, none⟩ = some (.int .u64 TO) := ⟨HX.out.1 _ hb2d, HX.out.2.1 _ hb2d, HX.out.2.2.2 _ hb2d⟩
    have HS0 := Bx.mk (And.intro hS0 d6)
    clear c0 ct c6 c7 hw2 hb2 hb2d d6
    go_upto_region 3 with fail
    -- REGION A
    refine wp_region_x 14 (fun W => W.cell? ⟨q, 0, none⟩ = some (.pointer (some ⟨t, 0, none⟩)) ∧ W.cell? ⟨t, 2, none⟩ = some (.int .u64 TT) ∧ W.cell? ⟨q, 7, none⟩ = some (.int .u64 TO)) (by kernel_rfl) (hS0) (fun hHeld => ?_)
    refine wpAnyX_take0 (i := 0) (oi := ⟨some 20, Op.move (Operand.tmp 3), 23, _, _, none⟩) (v := ?v0) rfl (by omega) (by kernel_rfl) (by kernel_rfl) (by kernel_rfl) (fun _ _ _ h => h) (Or.inl ⟨by rfl, ?y0⟩) (by assumption) ?r0
    case y0 =>
      intro W hSw
      try dsimp only at hSw
      go_simp
      try with_reducible rfl
    case r0 =>
    try simp only [Act.put, List.setIfInBounds_toArray, List.set_cons_zero, List.set_cons_succ]
    refine wpAnyX_take0 (i := 1) (oi := ⟨some 21, Op.move (Operand.tmp 0), 28, _, _, none⟩) (v := ?v1) rfl (by omega) (by kernel_rfl) (by kernel_rfl) (by kernel_rfl) (fun _ _ _ h => h) (Or.inl ⟨by rfl, ?y1⟩) (by assumption) ?r1
    case y1 =>
      intro W hSw
      try dsimp only at hSw
      go_simp
      try with_reducible rfl
    case r1 =>
    try simp only [Act.put, List.setIfInBounds_toArray, List.set_cons_zero, List.set_cons_succ]
    refine wpAnyX_take0 (i := 2) (oi := ⟨some 22, Op.nilCheck (Operand.tmp 21), 0, _, _, none⟩) (v := ?v2) rfl (by omega) (by kernel_rfl) (by kernel_rfl) (by kernel_rfl) (fun _ _ _ h => h) (Or.inl ⟨by rfl, ?y2⟩) (by assumption) ?r2
    case y2 =>
      intro W hSw
      try dsimp only at hSw
      go_simp
      try with_reducible rfl
    case r2 =>
    try simp only [Act.put, List.setIfInBounds_toArray, List.set_cons_zero, List.set_cons_succ]
    refine wpAnyX_take0 (i := 3) (oi := ⟨some 23, Op.fieldAddr 68 (Operand.tmp 22) 0, 0, _, _, none⟩) (v := ?v3) rfl (by omega) (by kernel_rfl) (by kernel_rfl) (by kernel_rfl) (fun _ _ _ h => h) (Or.inl ⟨by rfl, ?y3⟩) (by assumption) ?r3
    case y3 =>
      intro W hSw
      try dsimp only at hSw
      go_simp
      try with_reducible rfl
    case r3 =>
    try simp only [Act.put, List.setIfInBounds_toArray, List.set_cons_zero, List.set_cons_succ]
    refine wpAnyX_take (i := 4) (oi := ⟨some 24, Op.load 47 (Operand.tmp 23), 47, _, _, none⟩) (v := ?v4) rfl (by omega) (by kernel_rfl) (by kernel_rfl) (by kernel_rfl) (by kernel_rfl) (by kernel_rfl) (fun _ _ _ h => h) (Or.inl ⟨by rfl, ?y4⟩) (by assumption) ?r4
    case y4 =>
      intro W hSw
      try dsimp only at hSw
      go_simp
      try with_reducible rfl
    case r4 =>
    try simp only [Act.put, List.setIfInBounds_toArray, List.set_cons_zero, List.set_cons_succ]
    refine wpAnyX_take0 (i := 5) (oi := ⟨some 25, Op.nilCheck (Operand.tmp 24), 0, _, _, none⟩) (v := ?v5) rfl (by omega) (by kernel_rfl) (by kernel_rfl) (by kernel_rfl) (fun _ _ _ h => h) (Or.inl ⟨by rfl, ?y5⟩) (by assumption) ?r5
    case y5 =>
      intro W hSw
      try dsimp only at hSw
      go_simp
      try with_reducible rfl
    case r5 =>
    try simp only [Act.put, List.setIfInBounds_toArray, List.set_cons_zero, List.set_cons_succ]
    refine wpAnyX_take0 (i := 6) (oi := ⟨some 26, Op.fieldAddr 79 (Operand.tmp 25) 2, 0, _, _, none⟩) (v := ?v6) rfl (by omega) (by kernel_rfl) (by kernel_rfl) (by kernel_rfl) (fun _ _ _ h => h) (Or.inl ⟨by rfl, ?y6⟩) (by assumption) ?r6
    case y6 =>
      intro W hSw
      try dsimp only at hSw
      go_simp
      try with_reducible rfl
    case r6 =>
    try simp only [Act.put, List.setIfInBounds_toArray, List.set_cons_zero, List.set_cons_succ]
    refine wpAnyX_take (i := 7) (oi := ⟨some 27, Op.load 32 (Operand.tmp 26), 32, _, _, none⟩) (v := ?v7) rfl (by omega) (by kernel_rfl) (by kernel_rfl) (by kernel_rfl) (by kernel_rfl) (by kernel_rfl) (fun _ _ _ h => h) (Or.inl ⟨by rfl, ?y7⟩) (by assumption) ?r7
    case y7 =>
      intro W hSw
      try dsimp only at hSw
      go_simp
      try with_reducible rfl
    case r7 =>
    try simp only [Act.put, List.setIfInBounds_toArray, List.set_cons_zero, List.set_cons_succ]
    refine wpAnyX_take0 (i := 8) (oi := ⟨some 28, Op.move (Operand.tmp 0), 28, _, _, none⟩) (v := ?v8) rfl (by omega) (by kernel_rfl) (by kernel_rfl) (by kernel_rfl) (fun _ _ _ h => h) (Or.inl ⟨by rfl, ?y8⟩) (by assumption) ?r8
    case y8 =>
      intro W hSw
      try dsimp only at hSw
      go_simp
      try with_reducible rfl
    case r8 =>
    try simp only [Act.put, List.setIfInBounds_toArray, List.set_cons_zero, List.set_cons_succ]
    refine wpAnyX_take0 (i := 9) (oi := ⟨some 29, Op.nilCheck (Operand.tmp 28), 0, _, _, none⟩) (v := ?v9) rfl (by omega) (by kernel_rfl) (by kernel_rfl) (by kernel_rfl) (fun _ _ _ h => h) (Or.inl ⟨by rfl, ?y9⟩) (by assumption) ?r9
    case y9 =>
      intro W hSw
      try dsimp only at hSw
      go_simp
      try with_reducible rfl
    case r9 =>
    try simp only [Act.put, List.setIfInBounds_toArray, List.set_cons_zero, List.set_cons_succ]
    refine wpAnyX_take0 (i := 10) (oi := ⟨some 30, Op.fieldAddr 68 (Operand.tmp 29) 7, 0, _, _, none⟩) (v := ?v10) rfl (by omega) (by kernel_rfl) (by kernel_rfl) (by kernel_rfl) (fun _ _ _ h => h) (Or.inl ⟨by rfl, ?y10⟩) (by assumption) ?r10
    case y10 =>
      intro W hSw
      try dsimp only at hSw
      go_simp
      try with_reducible rfl
    case r10 =>
    try simp only [Act.put, List.setIfInBounds_toArray, List.set_cons_zero, List.set_cons_succ]
    refine wpAnyX_take (i := 11) (oi := ⟨some 31, Op.load 32 (Operand.tmp 30), 32, _, _, none⟩) (v := ?v11) rfl (by omega) (by kernel_rfl) (by kernel_rfl) (by kernel_rfl) (by kernel_rfl) (by kernel_rfl) (fun _ _ _ h => h) (Or.inl ⟨by rfl, ?y11⟩) (by assumption) ?r11
    case y11 =>
      intro W hSw
      try dsimp only at hSw
      go_simp
      try with_reducible rfl
    case r11 =>
    try simp only [Act.put, List.setIfInBounds_toArray, List.set_cons_zero, List.set_cons_succ]
    refine wpAnyX_take0 (i := 12) (oi := ⟨some 32, Op.binOp BinOp.sub 32 (Operand.tmp 27) (Operand.tmp 31) 32, 32, _, _, none⟩) (v := ?v12) rfl (by omega) (by kernel_rfl) (by kernel_rfl) (by kernel_rfl) (fun _ _ _ h => h) (Or.inl ⟨by rfl, ?y12⟩) (by assumption) ?r12
    case y12 =>
      intro W hSw
      try dsimp only at hSw
      go_simp
      try with_reducible rfl
    case r12 =>
    try simp only [Act.put, List.setIfInBounds_toArray, List.set_cons_zero, List.set_cons_succ]
    refine wpAnyX_one (i := 13) (by kernel_rfl) rfl (fun K hK => ?_)
    go_simp
    go_at_call 33
    refine (HPF.out _ HOW2.out).mono ?_
    rintro e w5 ⟨v5, rfl, ho5, b5, hf5, hs5⟩
    have HF5 := Bx.mk (And.intro ho5 (And.intro hf5 hs5))
    have hS5 : w5.cell? ⟨q, 0, none⟩ = some (.pointer (some ⟨t, 0, none⟩)) ∧ w5.cell? ⟨t, 2, none⟩ = some (.int .u64 TT) ∧ w5.cell? ⟨q, 7, none⟩ = some (.int .u64 TO) := ⟨(d8_q6 HD2.out hf5 HS0.out.2).1 0 _ HS0.out.1.1, (by rw [← HTT2.out, ← HTT.out]; exact d8_t2 HD2.out hf5 HS0.out.2), (d8_q6 HD2.out hf5 HS0.out.2).1 7 _ HS0.out.1.2.2⟩
    clear ho5 b5 hf5 hs5
    refine hK.out _ _ (fun _ => hS5) ?_
    clear hK K
    try simp only [Act.put, List.setIfInBounds_toArray, List.set_cons_zero, List.set_cons_succ]
    refine wpAnyX_one (i := 14) (by kernel_rfl) rfl (fun K hK => ?_)
    go_simp
    refine hK.out _ _ (fun h => absurd h (by decide)) ?_
    clear hK K
    try simp only [Act.put, List.setIfInBounds_toArray, List.set_cons_zero, List.set_cons_succ]
    refine wpAnyX_done (by kernel_rfl) ?_ _
    -- END A
    have hq := d8_q6 HD2.out HF5.out.2.1 HS0.out.2
    have e7 := hS5.2.2
    have e6 : (w5.setCell ⟨q, 7, none⟩ (.int .u64 TT)).cell? ⟨q, 6, none⟩ = some vO := (World.cell?_setCell_other _ ⟨q, 7, none⟩ ⟨q, 6, none⟩ _ (by intro h; injection h with _ h; cases h)).trans (hq.1 6 _ HS0.out.2)
    have e0 := hS5.1
    have et := hS5.2.1
    have g7 := hq.2 7
    have g6 : (w5.setCell ⟨q, 7, none⟩ (.int .u64 TT)).frozen? ⟨q, 6, none⟩ = false := by simpa using hq.2 6
    have HT := Bx.mk (HD2.out.takeOut2 HS0.out.2 HF5.out.2.1 HF5.out.1 HF5.out.2.2 tt)
    rw [HTT2.out] at HT
    clear hS0 hHeld hS5 hq HF5 HS0
    obtain ⟨A5, n5, c5, rfl⟩ : ∃ A n c, v5 = .slice A n c := by
      obtain ⟨_, ⟨_, _, _, h, _⟩, _⟩ := HT.out
      exact OwB.shp h.1
    go_upto_region 5 with fail
    obtain ⟨w6, hw6⟩ : ∃ w6, w5.setCell ⟨q, 7, none⟩ (.int .u64 TT) = w6 := ⟨_, rfl⟩
    rw [hw6] at e6 g6 HT ⊢
    clear e7 e0 et g7 hw6
    go_wp2_with fail
    go_ret
    exact ⟨_, rfl, Turn.before (HB2.out.trans ((Below.refl w2.heap.size w2).drew.mono HB2.out.size)) HT.out⟩
  · have g1 : decide ((told : Int) < (tt : Int)) = false := decide_eq_false (by omega)
    have g2 : decide (told < tt) = false := decide_eq_false hlt
    have HS : Bx (sendW out told tt = out) := ⟨by unfold sendW; rw [if_neg hlt, List.append_nil]⟩
    rw [HS.out]
    have HEQ : Bx (told = tt) := ⟨by omega⟩
    have HX := Bx.mk (And.intro X0 (And.intro X2 (And.intro X6 X7)))
    clear X0 X2 X6 X7 hK h c1 c3 c4 c5 how hos hfz hrt htd htt hlt hol htt' hvO
    go_enter Tryz.func14, Tryz.ntmps14
    go_upto_region 2 with fail
    go_quiet (fail)
    have hb2 : Below w.heap.size w (w.drewN nq) := below_drewN (Below.refl _ _) _
    obtain ⟨w2, hw2⟩ : ∃ w2, w.drewN nq = w2 := ⟨_, rfl⟩
    rw [hw2] at hb2 ⊢
    have HB2 := Bx.mk hb2
    have h2 := (Wd.d8 q t T mx B rest out told).keep HD.out hb2
    have d6 := HX.out.2.2.1 w2 hb2
    obtain ⟨_, _, _, _, _, _, _, _, _, _, _, kz, _⟩ := h2.cells
    have g6 : w2.frozen? ⟨q, 6, none⟩ = false := kz 6
    have HT := Bx.mk (h2.takeOut d6 (Fp.refl _ _) (HOW.out.keep hb2) (fun k hk => .inl hk))
    clear c0 ct c6 c7 hw2 hb2 kz h2
    go_wp2_with fail
    go_ret
    refine ⟨_, rfl, ?_⟩
    have h9 := Turn.before HB2.out HT.out
    rw [HEQ.out] at h9
    exact h9
end
end Go.Proofs.YtebakjdeighdnaaGreat
