/-
  Texts put together: QwA.
-/
import Derived.Test.YtebakjdeighdnaaGreatM52
import Derived.Test.YtebakjdeighdnaaGreatM53
import Derived.Test.YtebakjdeighdnaaGreatM54
import Derived.Test.YtebakjdeighdnaaGreatM49
import Derived.Test.YtebakjdeighdnaaGreatM36
import Derived.Test.YtebakjdeighdnaaGreatM17

/-
  QencWrong's two objects, and a byte beside them: what the bytes come to; each call of the law.
-/
namespace Go.Proofs.YtebakjdeighdnaaGreat
open Go.RowKit Go.Maps
set_option linter.unusedVariables false
set_option linter.unusedSimpArgs false

theorem Bs.blk9 {w w' : World} {v : Value} {l : List UInt8} (h : Bs w v l) (hb : ∀ g, v.ownBlock = some g → w'.heap[g]? = w.heap[g]?) : Bs w' v l := by
  obtain ⟨A, c, rfl, h1, h2, h3⟩ := h
  refine ⟨A, c, rfl, h1, h2, h3.imp id ?_⟩
  rintro ⟨x, rfl, hc⟩
  refine ⟨x, rfl, fun j u hu => ?_⟩
  have hj := hc j u hu
  have hbk : (Addr.add x j).block = x.block := by unfold Addr.add; split <;> rfl
  have := hb x.block rfl
  unfold World.cell? at hj ⊢
  rw [hbk] at hj ⊢
  rw [this]
  exact hj
structure Wg (E : Qe) : Prop where
  good : E.good
  op : E.op.length ≤ 1
  tot : E.T.tot ≤ 1000000
  rest : E.rest = []
theorem one1_g {E G : Qe} (h : Wg E) (he : E.err = 0) {c : UInt8} (hG : one1 E c = some G) : Wg (G.setRest []) ∧ (G.setRest []).err = 0 := by
  unfold one1 at hG
  by_cases h1 : 128 ≤ c.toNat
  · rw [if_pos h1] at hG
    have hg := h.good.ack (c.toNat - 128)
    rw [hG] at hg
    unfold Qe.ack at hG
    cases hx : (secs E.op (c.toNat - 128)).head? with
    | none => rw [hx] at hG; cases hG
    | some x =>
      rw [hx] at hG
      injection hG with hG
      subst hG
      exact ⟨⟨⟨hg.gq, hg.sec, hg.kn, hg.len⟩, Nat.le_trans (dropS_len _ _) h.op, h.tot, rfl⟩, he⟩
  · rw [if_neg h1] at hG
    by_cases h2 : 64 ≤ c.toNat
    · rw [if_pos h2] at hG
      have hg := h.good.can (c.toNat - 64)
      injection hG with hG
      subst hG
      exact ⟨⟨⟨hg.gq, hg.sec, hg.kn, hg.len⟩, Nat.le_trans (List.length_filter_le _ _) h.op, h.tot, rfl⟩, he⟩
    · rw [if_neg h2] at hG
      have hg := h.good.inc c.toNat
      rw [hG] at hg
      unfold Qe.inc at hG
      by_cases h3 : c.toNat = 0 ∨ E.T.tot - E.K < c.toNat
      · rw [if_pos h3] at hG; cases hG
      · rw [if_neg h3] at hG
        injection hG with hG
        subst hG
        exact ⟨⟨⟨hg.gq, hg.sec, hg.kn, hg.len⟩, h.op, h.tot, rfl⟩, he⟩
/-- What a byte comes to. -/
theorem Wg.feed {E : Qe} (h : Wg E) (he : E.err = 0) (c : UInt8) (hw : whole1 c) : Wg (E.feed [c]).1 ∧ ((E.feed [c]).2 = 0 ∧ (E.feed [c]).1.err = 0 ∨ (E.feed [c]).2 = 26 ∧ (E.feed [c]).1.err = 26) := by
  rw [feed_one E c hw he h.rest]
  cases hG : one1 E c with
  | none => exact ⟨⟨⟨h.good.gq, h.good.sec, h.good.kn, h.good.len⟩, h.op, h.tot, rfl⟩, .inr ⟨rfl, rfl⟩⟩
  | some G =>
    obtain ⟨hg, he2⟩ := one1_g h he hG
    exact ⟨hg, .inl ⟨rfl, he2⟩⟩
theorem Wg.setRest {E : Qe} (h : Wg E) : E.setRest [] = E := by
  have := h.rest
  cases E
  simp only [Qe.setRest] at *
  rw [this]
theorem Wg.start (l : List Fd) (hl : l.length ≤ 6) (hz : ∀ f ∈ l, fsz f ≤ 40000) : Wg ((Qe.new 4096 2).enc 1 l) := by
  have h0 := Qe.good.enc (Qe.good.new 4096 2) 1 (by omega) l (by decide) hz
  refine ⟨h0.1, ?_, ?_, rfl⟩
  · unfold Qe.enc
    show (if _ then _ else _ : List Qs).length ≤ 1
    split <;> simp [Qe.new]
  · have := h0.2.2.2
    have e : (Qe.new 4096 2).T.tot = 0 := rfl
    omega
/-- A cancel is never wrong. -/
theorem feed_can (E : Qe) (h : Wg E) (he : E.err = 0) : (E.feed [65]).2 = 0 := by
  rw [feed_one E 65 (.inr (by decide)) he h.rest]
  rfl
theorem feed_err (E : Qe) (b : List UInt8) (he : E.err = 26) : E.feed b = (E, 26) := by
  unfold Qe.feed
  rw [if_pos (by omega), he]

section
variable {q p N q2 t2 B s : Nat} {E F : Qe} {w : World} {S : Nat → Prop}
/-- The document's Feed of one whole byte. -/
theorem feed8_one (h : E8 q2 t2 F w S) (hg : Wg F) (he : F.err = 0) (c : UInt8) (hw : whole1 c) {bV : Value} (hb : ∀ W, Fp S w W → Bs W bV [c]) :
    Calls Tryz.prog 17 #[.pointer (some ⟨q2, 0, none⟩), bV] w fun r w' => r = .returned (.int .i64 ((F.feed [c]).2 : Int)) ∧ ∃ r', ((F.feed [c]).2 = 0 → r' = []) ∧ Turn (E8 q2 t2 ((F.feed [c]).1.setRest r')) S w w' := by
  by_cases h1 : 128 ≤ c.toNat
  · exact feed8_ack h he hg.rest hg.op hg.good.kn hg.tot c hw h1 hb
  · by_cases h2 : 64 ≤ c.toNat
    · exact feed8_can h he hg.rest hg.op hg.good.kn hg.tot c hw ⟨h2, by omega⟩ hb
    · exact feed8_inc h he hg.rest hg.op hg.good.kn hg.tot c hw (by omega) hb
set_option maxRecDepth 100000 in
set_option maxHeartbeats 2000000 in
theorem feed8_err (h : E8 q2 t2 F w S) (he : F.err = 26) (bV : Value) :
    Calls Tryz.prog 17 #[.pointer (some ⟨q2, 0, none⟩), bV] w fun r w' => r = .returned (.int .i64 26) ∧ w = w' := by
  obtain ⟨_, _, _, _, _, _, _, _, _, _, _, c5, _, _⟩ := h.cells
  rw [he] at c5
  have c5' : w.cell? ⟨q2, 5, none⟩ = some (.int .i64 26) := c5
  clear c5 h he
  go_enter Tryz.func17, Tryz.ntmps17
  go_wp2_with fail
  go_ret
  exact ⟨rfl, rfl⟩

abbrev Ww (q p N : Nat) (E : Qe) (q2 t2 : Nat) (F : Qe) : Wx := Both (Pq q p N E) (E8 q2 t2 F)
theorem Wd.ww : Wd (Ww q p N E q2 t2 F) := (Wd.pq _ _ _ _).both (Wd.e8 _ _ _)
/-- A byte beside them. -/
abbrev Wb (q p N : Nat) (E : Qe) (q2 t2 : Nat) (F : Qe) (v : Value) (x : List UInt8) : Wx := Both (Ww q p N E q2 t2 F) (Ob fun W => Bs W v x)
theorem ob_lit (w : World) (c : UInt8) : Up w.heap.size (Ob fun W => Bs W (.slice (some ⟨w.heap.size, 0, none⟩) 1 1) [c]) (w.alloc (.cells #[.int .u8 (c.toNat : Int)] 5)) := by
  refine ⟨fun k => k = w.heap.size, ⟨fun k hk => by subst hk; simp, fun W hs hk => ?_⟩, fun k hk => Nat.le_of_eq hk.symm⟩
  have h0 : Bs (w.alloc (.cells #[.int .u8 (c.toNat : Int)] 5)) (.slice (some ⟨w.heap.size, 0, none⟩) 1 1) [c] := Rd.lit w 5 #[.int .u8 (c.toNat : Int)] 1 rfl (by simp [maxLen])
  exact h0.blk9 fun g hg => hk g (by simp only [Value.ownBlock, Option.some.injEq] at hg; exact hg.symm)
theorem Ww.lit (h : Up B (Ww q p N E q2 t2 F) w) (hB : B ≤ w.heap.size) (c : UInt8) : Up B (Wb q p N E q2 t2 F (.slice (some ⟨w.heap.size, 0, none⟩) 1 1) [c]) (w.alloc (.cells #[.int .u8 (c.toNat : Int)] 5)) :=
  Up.add Wd.ww h hB ((Below.refl _ _).alloc (Nat.le_refl _) _) (ob_lit w c)
theorem ww_encP (h : Up B (Ww q p N E q2 t2 F) w) (hB : B ≤ w.heap.size) (hg : E.good) (hs : okU s) {v : Value} {l : List Fd} (hv : ∀ W, Below B w W → Fs W v l) (hl : l.length ≤ 10000) (hz : ∀ f ∈ l, f.1.size ≤ 20000 ∧ f.2.size ≤ 20000) (hc : E.T.cap ≤ 1000000) (ht : E.T.tot + 20000 ≤ 1000000) (hN : N + 100000 ≤ 1000000000) :
    Calls Tryz.prog 9 #[.pointer (some ⟨q, 0, none⟩), .int .u64 (s : Int), v] w fun r w' => ∃ a b, r = .returned (.tuple #[a, b]) ∧ ∃ N', N' ≤ N + 2 * l.length + 2 ∧ Up B (Ww q p N' (E.enc s l) q2 t2 F) w' ∧ Below B w w' := by
  obtain ⟨S, ⟨S1, S2, h1, h2, h3, h4⟩, h5⟩ := h
  refine (pqencode_any h1 hg hs (fun W hf => hv W (hf.below hB fun k hk => h5 k ((h4 k).2 (.inl hk)))) hl hz hc ht hN).mono ?_
  rintro r w' ⟨a, b, rfl, N', S', hN', hq, hoa, hob, hsub, hf, ha1, hb1⟩
  obtain ⟨hu, hb⟩ := Up.turn h5 hB (Both.left (X' := Pq q p N' (E.enc s l)) (Wd.e8 q2 t2 F) h2 h3 h4 ⟨S', hq, hsub, hf⟩)
  exact ⟨a, b, rfl, N', hN', hu, hb⟩
theorem ww_encD (h : Up B (Ww q p N E q2 t2 F) w) (hB : B ≤ w.heap.size) (hg : F.good) {v : Value} {l : List Fd} (hv : ∀ W, Below B w W → Fs W v l) (hl : l.length ≤ 100) (hz : wsz l ≤ 6000) (ht : F.T.tot + l.length ≤ 800000) (hf : ∀ f ∈ l, fsz f ≤ 3000) (hop : F.op.length ≤ 100000) (hs : s < 18446744073709551616) :
    Calls Tryz.prog 16 #[.pointer (some ⟨q2, 0, none⟩), .int .u64 (s : Int), v] w fun r w' => ∃ a b, r = .returned (.tuple #[a, b]) ∧ Up B (Ww q p N E q2 t2 (F.enc s l)) w' ∧ Below B w w' := by
  obtain ⟨S, ⟨S1, S2, h1, h2, h3, h4⟩, h5⟩ := h
  refine (encode8_any h2 hg.gq (fun W hf => hv W (hf.below hB fun k hk => h5 k ((h4 k).2 (.inr hk)))) hl hz ht hf hop hs).mono ?_
  rintro r w' ⟨a, b, rfl, e', h8, hsub, hfp, _⟩
  obtain ⟨hu, hb⟩ := Up.turn h5 hB (Both.right (Y' := E8 q2 t2 (F.enc s l)) (Wd.pq q p N E) h1 h3 h4 ⟨e', h8, hsub, hfp⟩)
  exact ⟨a, b, rfl, hu, hb⟩
theorem ww_feedP {v : Value} {x : List UInt8} (h : Up B (Wb q p N E q2 t2 F v x) w) (hB : B ≤ w.heap.size) (hg : E.good) (hN : N < 1000000000) (hx : x.length ≤ 90000) (hr : E.rest.length ≤ 90000) :
    Calls Tryz.prog 13 #[.pointer (some ⟨q, 0, none⟩), v] w fun e w' => e = .returned (.int .i64 ((E.feed x).2 : Int)) ∧ Up B (Wb q p N (E.feed x).1 q2 t2 F v x) w' ∧ Below B w w' := by
  obtain ⟨S, ⟨S1, S2, ⟨S3, S4, k1, k2, k3, k4⟩, m, h3, h4⟩, h5⟩ := h
  refine (feed_any k1 hg hN m.get hx hr).mono ?_
  rintro e w' ⟨rfl, ht⟩
  obtain ⟨hu, hb⟩ := Up.turn h5 hB (Both.left (Wd.ob _) m h3 h4 (Both.left (Wd.e8 q2 t2 F) k2 k3 k4 ht))
  exact ⟨rfl, hu, hb⟩
theorem ww_feedD {v : Value} {c : UInt8} (h : Up B (Wb q p N E q2 t2 F v [c]) w) (hB : B ≤ w.heap.size) (hg : Wg F) (he : F.err = 0) (hw : whole1 c) :
    Calls Tryz.prog 17 #[.pointer (some ⟨q2, 0, none⟩), v] w fun e w' => e = .returned (.int .i64 ((F.feed [c]).2 : Int)) ∧ ∃ r', ((F.feed [c]).2 = 0 → r' = []) ∧ Up B (Ww q p N E q2 t2 ((F.feed [c]).1.setRest r')) w' ∧ Below B w w' := by
  obtain ⟨S, ⟨S1, S2, ⟨S3, S4, k1, k2, k3, k4⟩, m, h3, h4⟩, h5⟩ := h
  refine (feed8_one k2 hg he c hw (fun W hW => ((Wd.ob _).besides m hW fun k a b => h3 k ((k4 k).2 (.inr b)) a).get)).mono ?_
  rintro e w' ⟨rfl, r', hr', ht⟩
  obtain ⟨hu, hb⟩ := Up.turn h5 hB (Both.left (Wd.ob _) m h3 h4 (Both.right (Wd.pq q p N E) k1 k3 k4 ht))
  exact ⟨rfl, r', hr', hu.fst, hb⟩
theorem ww_feedE {v : Value} {x : List UInt8} (h : Up B (Wb q p N E q2 t2 F v x) w) (he : F.err = 26) :
    Calls Tryz.prog 17 #[.pointer (some ⟨q2, 0, none⟩), v] w fun e w' => e = .returned (.int .i64 26) ∧ Up B (Ww q p N E q2 t2 F) w' ∧ w = w' := by
  have hu := h.fst
  obtain ⟨S2, h2, _⟩ := hu.snd
  refine (feed8_err h2 he v).mono ?_
  rintro e w' ⟨rfl, rfl⟩
  exact ⟨rfl, hu, rfl⟩
end
end Go.Proofs.YtebakjdeighdnaaGreat
