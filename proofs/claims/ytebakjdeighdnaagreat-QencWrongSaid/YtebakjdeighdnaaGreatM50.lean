/-
  Texts put together: QqS, QqT, QqU, QqW.
-/
import Derived.Test.YtebakjdeighdnaaGreatM49
import Derived.Test.YtebakjdeighdnaaGreatM43
import Derived.Test.YtebakjdeighdnaaGreatM31

/-
  Contract of the document's NewEncoder.
-/
namespace Go.Proofs.YtebakjdeighdnaaGreat
open Go.RowKit Go.Maps
set_option linter.unusedVariables false

theorem clamp8_any (n : Int) (w : World) : Calls Tryz.prog 23 #[.int .i64 n] w fun e w' => e = .returned (.int .i64 (clampN n : Int)) ∧ w = w' := by
  have hcl := clampN_eq n
  go_enter Tryz.func23, Tryz.ntmps23
  go_wp2
  go_ret
  exact ⟨rfl, rfl⟩
set_option maxRecDepth 100000 in
set_option maxHeartbeats 2000000 in
theorem newEnc8_any (n b : Int) (hb : -9223372036854775808 ≤ b ∧ b < 9223372036854775808) (w : World) :
    Calls Tryz.prog 15 #[.int .i64 n, .int .i64 b] w fun e w' => ∃ q t S, e = .returned (.pointer (some ⟨q, 0, none⟩)) ∧ E8 q t (Qe.new (clampN n) b.toNat) w' S ∧ (∀ k, S k → w.heap.size ≤ k) ∧ Below w.heap.size w w' := by
  have hle := clampN_le n
  have HC := Bx.mk (clamp8_any n)
  have HN := Bx.mk (fun W => newTable_any (clampN n : Int) W (by omega))
  have HMX : Bx (max b 0 = ((b.toNat : Nat) : Int)) := ⟨by omega⟩
  generalize clampN n = c at HC HN hle ⊢
  have HT : Bx (Tab.new (c : Int) = ⟨[], c, 0⟩) := ⟨by unfold Tab.new; simp⟩
  simp only [HT.out] at HN
  clear hb
  go_enter Tryz.func15, Tryz.ntmps15
  go_wp2_with (first
    | (go_at_call 23; refine (HC.out _).mono ?_; rintro e w1 ⟨rfl, rfl⟩)
    | (go_at_call 22; refine (HN.out _).mono ?_; rintro e w1 ⟨t, S, rfl, hrt, hS, hb⟩; have hsz := hb.size))
  go_ret
  rw [HMX.out]
  have hob : Ob (fun W => Sr W (.slice none 0 0) [] ∧ Bs W (.slice none 0 0) []) w1 (fun _ => False) := Ob.none fun W => ⟨⟨Rn.nil _ W, fun p hp => (by cases hp)⟩, Rd.nil W⟩
  have hbo : Both (Rt t ⟨[], c, 0⟩) (Ob (fun W => Sr W (.slice none 0 0) [] ∧ Bs W (.slice none 0 0) [])) w1 S := ⟨S, fun _ => False, hrt, hob, fun k _ h => h, fun k => ⟨.inl, fun h => h.elim id fun h => h.elim⟩⟩
  have hn := Hd.new (ty := 50) (F := e8F t (Qe.new c b.toNat) (.slice none 0 0) (.slice none 0 0)) ((Wd.rt t _).both (Wd.ob _)) hbo #[.pointer (some ⟨t, 0, none⟩), .int .i64 (b.toNat : Int), .int .u64 0, .slice none 0 0, .slice none 0 0, .int .i64 0, .bool false] (fun j hj => by
    have : j < 7 := hj
    unfold e8F
    match j, this with
    | 0, _ => rfl
    | 1, _ => rfl
    | 2, _ => rfl
    | 3, _ => rfl
    | 4, _ => rfl
    | 5, _ => rfl
    | 6, _ => rfl)
  exact ⟨w1.heap.size, t, _, rfl, ⟨.slice none 0 0, .slice none 0 0, [], rfl, hn⟩, fun k hk => by rcases hk with h | rfl; exact hS k h; exact hsz, hb.trans (((Below.refl _ _).alloc (Nat.le_refl _) _).mono hsz)⟩
end Go.Proofs.YtebakjdeighdnaaGreat

/-
  One byte of the decoder stream, fed.
-/
namespace Go.Proofs.YtebakjdeighdnaaGreat
open Go.RowKit Go.Maps
set_option linter.unusedVariables false

theorem byte_ack (c : UInt8) (h : 128 ≤ c.toNat) (h2 : c.toNat < 255) : rp 7 [c] = (((c.toNat - 128 : Nat) : Int), 1, 0) := by
  have key : ∀ y : Fin 256, 128 ≤ y.val → y.val < 255 → rp 7 [UInt8.ofNat y.val] = (((y.val - 128 : Nat) : Int), 1, 0) := by decide +kernel
  have := key ⟨c.toNat, c.toNat_lt⟩ h h2
  simpa using this
theorem byte_low (c : UInt8) (h : c.toNat < 128) (h2 : c.toNat % 64 < 63) : rp 6 [c] = (((c.toNat % 64 : Nat) : Int), 1, 0) := by
  have key : ∀ y : Fin 256, y.val < 128 → y.val % 64 < 63 → rp 6 [UInt8.ofNat y.val] = (((y.val % 64 : Nat) : Int), 1, 0) := by decide +kernel
  have := key ⟨c.toNat, c.toNat_lt⟩ h h2
  simpa using this
/-- What one whole instruction comes to. -/
def one1 (E : Qe) (c : UInt8) : Option Qe := if 128 ≤ c.toNat then E.ack (c.toNat - 128) else if 64 ≤ c.toNat then some (E.can (c.toNat - 64)) else E.inc c.toNat
def whole1 (c : UInt8) : Prop := (128 ≤ c.toNat ∧ c.toNat < 255) ∨ (c.toNat < 128 ∧ c.toNat % 64 < 63)
theorem inst_one (E : Qe) (c : UInt8) (h : whole1 c) : instQ E [c] = (1, ansQ (one1 E c), (one1 E c).getD E) := by
  have hh : headN [c] = c.toNat := rfl
  rcases h with ⟨h1, h2⟩ | ⟨h1, h2⟩
  · have HI : instQ E [c] = if (rp 7 [c]).2.2 ≠ 0 then (0, (rp 7 [c]).2.2.toNat, E) else ((rp 7 [c]).2.1.toNat, ansQ (E.ack (rp 7 [c]).1.toNat), (E.ack (rp 7 [c]).1.toNat).getD E) := by
      unfold instQ
      rw [hh, if_pos h1, if_neg (show ¬ c.toNat < 64 by omega), if_neg (show ¬ c.toNat < 128 by omega)]
    rw [HI, byte_ack c h1 h2, if_neg (by simp)]
    unfold one1
    rw [if_pos h1]
    rfl
  · by_cases h64 : c.toNat < 64
    · have HI : instQ E [c] = if (rp 6 [c]).2.2 ≠ 0 then (0, (rp 6 [c]).2.2.toNat, E) else ((rp 6 [c]).2.1.toNat, ansQ (E.inc (rp 6 [c]).1.toNat), (E.inc (rp 6 [c]).1.toNat).getD E) := by
        unfold instQ
        rw [hh, if_neg (show ¬ 128 ≤ c.toNat by omega), if_pos h64]
      rw [HI, byte_low c h1 h2, if_neg (by simp)]
      unfold one1
      rw [if_neg (show ¬ 128 ≤ c.toNat by omega), if_neg (show ¬ 64 ≤ c.toNat by omega), show c.toNat % 64 = c.toNat by omega]
      rfl
    · have HI : instQ E [c] = if (rp 6 [c]).2.2 ≠ 0 then (0, (rp 6 [c]).2.2.toNat, E) else ((rp 6 [c]).2.1.toNat, 0, E.can (rp 6 [c]).1.toNat) := by
        unfold instQ
        rw [hh, if_neg (show ¬ 128 ≤ c.toNat by omega), if_neg h64, if_pos h1]
      rw [HI, byte_low c h1 h2, if_neg (by simp)]
      unfold one1
      rw [if_neg (show ¬ 128 ≤ c.toNat by omega), if_pos (show 64 ≤ c.toNat by omega), show c.toNat % 64 = c.toNat - 64 by omega]
      rfl
/-- A byte is fed. -/
theorem feed_one (E : Qe) (c : UInt8) (h : whole1 c) (he : E.err = 0) (hr : E.rest = []) :
    E.feed [c] = match one1 E c with | none => (E.setErr 26, 26) | some F => (F.setRest [], 0) := by
  unfold Qe.feed
  rw [if_neg (by omega), hr, List.nil_append]
  show feedQ 1 E [c] = _
  unfold feedQ
  rw [if_neg (by simp), inst_one E c h]
  cases one1 E c with
  | none => rfl
  | some F =>
    show (if (0 : Nat) = 20 then _ else if (0 : Nat) ≠ 0 then _ else feedQ 0 F _) = _
    rw [if_neg (by decide), if_neg (by decide)]
    rfl
end Go.Proofs.YtebakjdeighdnaaGreat

/-
  The document's encoder: a cell is stored into.
-/
namespace Go.Proofs.YtebakjdeighdnaaGreat
open Go.RowKit Go.Maps
set_option linter.unusedVariables false

section
variable {q t : Nat} {E E' : Qe} {w w6 : World} {S S1 S2 S4 : Nat → Prop} {vO vR vO' vR' : Value} {ps ps' : List (Qs × Value)}
theorem E8.put (hS : ∀ k, S k ↔ S1 k ∨ S2 k ∨ k = q) (h1 : w.rowIs q 50 7 (e8F t E vO vR)) (a : Rt t E.T w S1) (b : Ob (fun W => Sr W vO ps ∧ Bs W vR E.rest) w S2) (c : ∀ k, S1 k → ¬ S2 k) (d1 : ¬ S1 q) (d2 : ¬ S2 q)
    (hb : Below w.heap.size w w6) (hob : Ob (fun W => Sr W vO' ps' ∧ Bs W vR' E'.rest) w6 S4) (hs4 : ∀ k, S4 k → S2 k ∨ w.heap.size ≤ k) (i : Nat) (v' : Value) (hF : ∀ j, j < 7 → (if j = i then v' else e8F t E vO vR j) = e8F t E' vO' vR' j) (hT : E'.T = E.T) (hps : ps'.map Prod.fst = E'.op) :
    Turn (E8 q t E') S w (w6.setCell ⟨q, i, none⟩ v') := by
  have hq := h1.lt
  have hf : Fp (fun k => k = q) w6 (w6.setCell ⟨q, i, none⟩ v') := Fp.set _ _ _ _ rfl
  have hrow := ((h1.of_block (hb.block q hq)).set i v').congr hF
  have l1 := (Wd.rt t E.T).lt a
  have n4 : ¬ S4 q := by
    intro h
    rcases hs4 q h with h | h
    · exact d2 h
    · omega
  have n41 : ∀ k, S1 k → ¬ S4 k := by
    intro k hk h
    rcases hs4 k h with h | h
    · exact c k hk h
    · have := l1 k hk; omega
  have a' : Rt t E'.T (w6.setCell ⟨q, i, none⟩ v') S1 := by
    rw [hT]
    exact (Wd.rt t E.T).besides ((Wd.rt t E.T).keep a hb) hf fun k hk e => d1 (e ▸ hk)
  have h8 := E8.shut_ (E := E') hps hrow a' ((Wd.ob _).besides hob hf fun k hk e => n4 (e ▸ hk)) n41 d1 n4
  refine ⟨_, h8, fun k hk => ?_, (Fp.of_below hb).then (hf.mono fun k hk => (hS k).2 (.inr (.inr hk)))⟩
  rcases hk with hk | hk | hk
  · exact .inl ((hS k).2 (.inl hk))
  · exact (hs4 k hk).imp (fun h => (hS k).2 (.inr (.inl h))) id
  · exact .inl ((hS k).2 (.inr (.inr hk)))
theorem e8P_4 (t : Nat) (E : Qe) (vO vR vR' : Value) (r : List UInt8) : ∀ j, j < 7 → (if j = 4 then vR' else e8F t E vO vR j) = e8F t (E.setRest r) vO vR' j := fun j hj => by
  unfold e8F Qe.setRest
  match j, hj with
  | 0, _ => rfl
  | 1, _ => rfl
  | 2, _ => rfl
  | 3, _ => rfl
  | 4, _ => rfl
  | 5, _ => rfl
  | 6, _ => rfl
theorem e8P_2 (t : Nat) (E : Qe) (vO vR : Value) (K : Nat) : ∀ j, j < 7 → (if j = 2 then .int .u64 (K : Int) else e8F t E vO vR j) = e8F t (E.setK K) vO vR j := fun j hj => by
  unfold e8F Qe.setK
  match j, hj with
  | 0, _ => rfl
  | 1, _ => rfl
  | 2, _ => rfl
  | 3, _ => rfl
  | 4, _ => rfl
  | 5, _ => rfl
  | 6, _ => rfl
theorem e8P_3 (t : Nat) (E : Qe) (vO vO' vR : Value) (op : List Qs) : ∀ j, j < 7 → (if j = 3 then vO' else e8F t E vO vR j) = e8F t (E.setOp op) vO' vR j := fun j hj => by
  unfold e8F Qe.setOp
  match j, hj with
  | 0, _ => rfl
  | 1, _ => rfl
  | 2, _ => rfl
  | 3, _ => rfl
  | 4, _ => rfl
  | 5, _ => rfl
  | 6, _ => rfl
theorem e8P_5 (t : Nat) (E : Qe) (vO vR : Value) (er : Nat) : ∀ j, j < 7 → (if j = 5 then .int .i64 (er : Int) else e8F t E vO vR j) = e8F t ⟨E.T, E.B, E.K, E.op, E.rest, er, E.said⟩ vO vR j := fun j hj => by
  unfold e8F
  match j, hj with
  | 0, _ => rfl
  | 1, _ => rfl
  | 2, _ => rfl
  | 3, _ => rfl
  | 4, _ => rfl
  | 5, _ => rfl
  | 6, _ => rfl
end
end Go.Proofs.YtebakjdeighdnaaGreat

/-
  The document's encoder: each store of its Feed.
-/
namespace Go.Proofs.YtebakjdeighdnaaGreat
open Go.RowKit Go.Maps
set_option linter.unusedVariables false

section
variable {q t : Nat} {E E' : Qe} {w w6 : World} {S : Nat → Prop} {vO vR vO' vR' : Value}
theorem E8.putK (h : E8 q t E w S) (K : Nat) : Turn (E8 q t (E.setK K)) S w (w.setCell ⟨q, 2, none⟩ (.int .u64 (K : Int))) := by
  obtain ⟨vO, vR, ps, S1, S2, hps, h1, a, b, c, d1, d2, hS⟩ := h.open_
  exact E8.put (E' := E.setK K) hS h1 a b c d1 d2 (Below.refl _ _) b (fun k hk => .inl hk) 2 _ (e8P_2 t E vO vR K) rfl hps
theorem E8.putErr (h : E8 q t E w S) (er : Nat) : Turn (E8 q t ⟨E.T, E.B, E.K, E.op, E.rest, er, E.said⟩) S w (w.setCell ⟨q, 5, none⟩ (.int .i64 (er : Int))) := by
  obtain ⟨vO, vR, ps, S1, S2, hps, h1, a, b, c, d1, d2, hS⟩ := h.open_
  exact E8.put (E' := ⟨E.T, E.B, E.K, E.op, E.rest, er, E.said⟩) hS h1 a b c d1 d2 (Below.refl _ _) b (fun k hk => .inl hk) 5 _ (e8P_5 t E vO vR er) rfl hps
theorem E8.putRest (h : E8 q t E w S) (c4 : w.cell? ⟨q, 4, none⟩ = some vR') {v' : Value} {r : List UInt8} (hm : ∀ W, Bs W vR' E.rest → Bs W v' r) : Turn (E8 q t (E.setRest r)) S w (w.setCell ⟨q, 4, none⟩ v') := by
  obtain ⟨vO, vR, ps, S1, S2, hps, h1, a, b, c, d1, d2, hS⟩ := h.open_
  have e4 : w.cell? ⟨q, 4, none⟩ = some vR := h1.cell (i := 4) (by omega)
  rw [c4] at e4
  injection e4 with e4
  subst e4
  exact E8.put (E' := E.setRest r) (vO' := vO) (vR' := v') (ps' := ps) hS h1 a b c d1 d2 (Below.refl _ _) (b.map fun W hW => ⟨hW.1, hm W hW.2⟩) (fun k hk => .inl hk) 4 _ (e8P_4 t E vO vR' v' r) rfl hps
theorem E8.putOp (h : E8 q t E w S) (c3 : w.cell? ⟨q, 3, none⟩ = some vO') {v' : Value} {op : List Qs} (hm : ∀ ps : List (Qs × Value), ps.map Prod.fst = E.op → ∃ ps' : List (Qs × Value), ps'.map Prod.fst = op ∧ ∀ W, Sr W vO' ps → Sr W v' ps') : Turn (E8 q t (E.setOp op)) S w (w.setCell ⟨q, 3, none⟩ v') := by
  obtain ⟨vO, vR, ps, S1, S2, hps, h1, a, b, c, d1, d2, hS⟩ := h.open_
  have e3 : w.cell? ⟨q, 3, none⟩ = some vO := h1.cell (i := 3) (by omega)
  rw [c3] at e3
  injection e3 with e3
  subst e3
  obtain ⟨ps', hp', hm'⟩ := hm ps hps
  exact E8.put (E' := E.setOp op) (vO' := v') (vR' := vR) (ps' := ps') hS h1 a b c d1 d2 (Below.refl _ _) (b.map fun W hW => ⟨hm' W hW.1, hW.2⟩) (fun k hk => .inl hk) 3 _ (e8P_3 t E vO' v' vR op) rfl hp'
/-- A row of its own holds one of the sections. -/
theorem E8.putNew (h : E8 q t E w S) (c3 : w.cell? ⟨q, 3, none⟩ = some vO') {v' pV : Value} {x : Qs} (hx : ∀ ps : List (Qs × Value), ps.map Prod.fst = E.op → Sr w vO' ps → (x, pV) ∈ ps) (hb : Below w.heap.size w w6) (hr : w6.ownsRow w.heap.size 104 3 v' 1 (scl (x, pV))) :
    Turn (E8 q t (E.setOp [x])) S w (w6.setCell ⟨q, 3, none⟩ v') := by
  obtain ⟨vO, vR, ps, S1, S2, hps, h1, a, b, c, d1, d2, hS⟩ := h.open_
  have e3 : w.cell? ⟨q, 3, none⟩ = some vO := h1.cell (i := 3) (by omega)
  rw [c3] at e3
  injection e3 with e3
  subst e3
  have hin := hx ps hps b.get.1
  have hb6 := (Wd.ob _).keep b hb
  have hob : Ob (fun W => Sr W v' [(x, pV)] ∧ Bs W vR E.rest) w6 (fun k => S2 k ∨ v'.ownBlock = some k) := (hb6.and (Ob.own hr)).map fun W hW => ⟨⟨by simpa using hW.2, fun p hp => by rw [List.mem_singleton.1 hp]; exact hW.1.1.2 _ hin⟩, hW.1.2⟩
  exact E8.put (E' := E.setOp [x]) (vO' := v') (vR' := vR) (ps' := [(x, pV)]) hS h1 a b c d1 d2 hb hob (fun k hk => hk.elim .inl fun hk => .inr (hr.lt k hk).1) 3 _ (e8P_3 t E vO' v' vR [x]) rfl rfl
/-- v[:0:0] and v[1:] of one section, and the two together: none. -/
theorem Sr.cut1 {vO : Value} {p : Qs × Value} (h : Sr w vO [p]) :
    ∃ A A' c', (∀ W : World, (Instr.slice 48 vO none (some (.int .i64 0)) (some (.int .i64 0))).run Tryz.prog W = .ok (.slice A 0 0) W) ∧
      (∀ W : World, (Instr.slice 48 vO (some (.int .i64 1)) none none).run Tryz.prog W = .ok (.slice A' 0 c') W) ∧
      (∀ (W : World) (ty : TypeId), (Builtin.append_ #[48, 48] ty #[.slice A 0 0, .slice A' 0 c']).run Tryz.prog W = .ok (.slice A 0 0) W) ∧ ∀ W, Sr W (.slice A 0 0) [] := by
  obtain ⟨⟨A, c, rfl, h1, h2, h3, h4⟩, _⟩ := h
  simp only [List.length_singleton] at h1 h4
  rcases h4 with ⟨rfl, rfl⟩ | ⟨x, rfl, hx⟩
  · omega
  have hm : c ≤ maxLen := h2
  have h63 : c ≤ 9223372036854775807 := by simp only [maxLen] at hm; omega
  obtain ⟨i, z, i1, i2, i3, i4, i5⟩ := infoS
  obtain ⟨A', hA'⟩ : ∃ A', sliced (some x) 1 1 c 3 = .slice (some A') 0 (c - 1) := by
    unfold sliced
    by_cases hc : c = 1
    · rw [if_pos hc]; exact ⟨_, rfl⟩
    · rw [if_neg hc]; exact ⟨_, rfl⟩
  refine ⟨some x, some A', c - 1, fun W => ?_, fun W => ?_, fun W ty => ?_, fun W => ⟨⟨some x, 0, rfl, Nat.le_refl _, by unfold maxLen; omega, rfl, .inr ⟨x, rfl, fun j u hu => by simp at hu⟩⟩, fun p hp => (by cases hp)⟩⟩
  · rw [run_slice_hm W 48 (some x) _ c elemS .i64 .i64 0 0 (by omega) (by omega) (by omega), sizeS]
    simp [Result.andThen, sliced]
  · rw [run_slice_l W 48 (some x) _ c elemS .i64 1 (by omega) (by simp), sizeS]
    exact congrArg (fun v => Result.ok v W) hA'
  · simp [Builtin.append_, run_underlying Tryz.underlying48, sizeOf, typeInfo, i1, i4, Builtin.lenOf, Builtin.firstCells, storeCells, loadCells, loadCellsFrom, Sem.run_bind, Result.andThen]
/-- append(nil, x). -/
theorem push_one (W : World) (g : Nat) (ty : TypeId) (s c : Int) (uV : Value) (h1c : uV.oneCell' = true) (k0 : W.cell? ⟨g, 0, none⟩ = some (.int .u64 s)) (k1 : W.cell? ⟨g, 1, none⟩ = some (.int .u64 c)) (k2 : W.cell? ⟨g, 2, none⟩ = some uV) :
    ∃ v' w', (Builtin.append_ #[48, 48] ty #[.slice none 0 0, .slice (some ⟨g, 0, none⟩) 1 1]).run Tryz.prog W = .ok v' w' ∧
      w'.ownsRow W.heap.size 104 3 v' 1 [.int .u64 s, .int .u64 c, uV] ∧ Below W.heap.size W w' := by
  obtain ⟨i, z, i1, i2, i3, i4, i5⟩ := infoS
  have hnews : ∀ (j : Nat) (u : Value), [Value.int .u64 s, .int .u64 c, uV][j]? = some u → W.cell? ((⟨g, 0, none⟩ : Addr).add j) = some u := fun j u hu => by
    rw [Addr.add_lit, Nat.zero_add]
    match j, hu with
    | 0, hu => simp only [List.getElem?_cons_zero, Option.some.injEq] at hu; rw [← hu]; exact k0
    | 1, hu => simp only [List.getElem?_cons_succ, List.getElem?_cons_zero, Option.some.injEq] at hu; rw [← hu]; exact k1
    | 2, hu => simp only [List.getElem?_cons_succ, List.getElem?_cons_zero, Option.some.injEq] at hu; rw [← hu]; exact k2
    | j + 3, hu => simp at hu
  have hone : ∀ u ∈ [Value.int .u64 s, .int .u64 c, uV], u.oneCell' = true := fun u hu => by
    simp only [List.mem_cons, List.not_mem_nil, or_false] at hu
    rcases hu with rfl | rfl | rfl
    · rfl
    · rfl
    · exact h1c
  obtain ⟨v', w', hrun, q1, q2, _⟩ := run_append_own (P := Tryz.prog) W W.heap.size 48 ty 104 i z 3 40 Tryz.underlying48 i1 i2 i4 i5 i3 (by omega) (.slice none 0 0) 0 [] (World.ownsRow_nil W _ _ _) ⟨g, 0, none⟩ 1 1 _ rfl hnews hone (by unfold maxLen; omega) (by omega) (Nat.le_refl _)
  exact ⟨v', w', hrun, q1, (Below.refl _ _).grown q2 (Nat.le_refl _) (by simp [Value.ownBlock])⟩
end
end Go.Proofs.YtebakjdeighdnaaGreat
