/-
  Texts put together: QqR, QbFeed, QbC.
-/
import Derived.Test.YtebakjdeighdnaaGreatM49
import Derived.Test.YtebakjdeighdnaaGreatM46
import Derived.Test.YtebakjdeighdnaaGreatM36
import Derived.Test.YtebakjdeighdnaaGreatM17

/-
  How many streams are blocked, section by section, without a word of the other side.
-/
namespace Go.Proofs.YtebakjdeighdnaaGreat
open Go.RowKit Go.Maps
set_option linter.unusedVariables false

end Go.Proofs.YtebakjdeighdnaaGreat

/-
  What the decoder sends is taken by the encoder: acknowledgments in order, and what was inserted beyond; the invariant of both.
-/
namespace Go.Proofs.YtebakjdeighdnaaGreat
open Go.RowKit
set_option linter.unusedVariables false
set_option linter.unusedSimpArgs false

def acksW (op : List Qs) : List UInt8 := op.flatMap fun x => pre 128 7 x.s
def opMax (K : Nat) (op : List Qs) : Nat := op.foldl (fun m x => max m x.c) K
theorem opMax_snoc (K : Nat) (op : List Qs) (x : Qs) : opMax K (op ++ [x]) = max (opMax K op) x.c := by
  unfold opMax
  rw [List.foldl_append]
  rfl
theorem opMax_le {K n : Nat} : ∀ (op : List Qs), K ≤ n → (∀ x ∈ op, x.c ≤ n) → opMax K op ≤ n := by
  intro op
  induction op generalizing K with
  | nil => intro h _; exact h
  | cons x op ih =>
    intro h hx
    exact ih (K := max K x.c) (by have := hx x (List.mem_cons_self ..); omega) (fun y hy => hx y (List.mem_cons_of_mem _ hy))
theorem inst_ack (E : Qe) (x : Qs) (op : List Qs) (h : E.op = x :: op) (hs : x.s ≤ 1000000) (r : List UInt8) :
    instQ E (pre 128 7 x.s ++ r) = ((pre 128 7 x.s).length, 0, (E.setOp op).setK (max E.K x.c)) := by
  have hh : headN (pre 128 7 x.s ++ r) / 2 ^ 7 = 1 := by rw [pre_headN, preFirst_div _ (by decide) (by decide)]; rfl
  have hr := rp_pre 128 7 x.s (by decide) (by decide) (by omega) r
  rw [if_pos (by unfold maxVar; omega)] at hr
  have ha : E.ack x.s = some ((E.setOp op).setK (max E.K x.c)) := by
    unfold Qe.ack
    rw [h, secs_cons, if_pos rfl]
    show some ((E.setOp (dropS (x :: op) x.s)).setK (max E.K x.c)) = _
    rw [show dropS (x :: op) x.s = op from by unfold dropS; rw [if_pos rfl]]
  unfold instQ
  rw [if_pos (show 128 ≤ headN (pre 128 7 x.s ++ r) by omega), hr, if_neg (by simp), if_neg (by omega), if_neg (by omega)]
  simp only [Int.toNat_natCast, ha]
  rfl
theorem feed_acks (tail : List UInt8) : ∀ (op : List Qs) (E : Qe) (n : Nat), E.op = op → (∀ x ∈ op, x.s ≤ 1000000) → (acksW op ++ tail).length ≤ n → ∃ n', tail.length ≤ n' ∧ feedQ n E (acksW op ++ tail) = feedQ n' ((E.setOp []).setK (opMax E.K op)) tail
  | [], E, n, h, _, hn => ⟨n, hn, by
    have h1 : E.setOp [] = E := by cases E; simp only at h; subst h; rfl
    show feedQ n E tail = feedQ n ((E.setOp []).setK E.K) tail
    rw [h1]
    rfl⟩
  | x :: op, E, n, h, hs, hn => by
    have hin := inst_ack E x op h (hs x (List.mem_cons_self ..)) (acksW op ++ tail)
    have hp := (pre_len 128 7 x.s).1
    have he : acksW (x :: op) ++ tail = pre 128 7 x.s ++ (acksW op ++ tail) := by
      unfold acksW
      rw [List.flatMap_cons, List.append_assoc]
    rw [he] at hn ⊢
    have hlen : (pre 128 7 x.s ++ (acksW op ++ tail)).length = (pre 128 7 x.s).length + (acksW op ++ tail).length := List.length_append
    obtain ⟨m, rfl⟩ : ∃ m, n = m + 1 := ⟨n - 1, by omega⟩
    have hne : pre 128 7 x.s ++ (acksW op ++ tail) ≠ [] := fun e => by rw [e] at hlen; simp at hlen; omega
    obtain ⟨n', h1, h2⟩ := feed_acks tail op ((E.setOp op).setK (max E.K x.c)) m rfl (fun y hy => hs y (List.mem_cons_of_mem _ hy)) (by omega)
    refine ⟨n', h1, ?_⟩
    rw [feedQ_step, if_neg hne, hin]
    simp only [ne_eq, not_true, if_false]
    rw [if_neg (by decide), List.drop_left' rfl, h2]
    rfl
theorem inst_inc (E : Qe) (n : Nat) (h0 : n ≠ 0) (h1 : n ≤ E.T.tot - E.K) (hb : n ≤ 1000000) (r : List UInt8) : instQ E (pre 0 6 n ++ r) = ((pre 0 6 n).length, 0, E.setK (E.K + n)) := by
  have hh : headN (pre 0 6 n ++ r) / 2 ^ 6 = 0 := by rw [pre_headN, preFirst_div _ (by decide) (by decide)]; rfl
  have hr := rp_pre 0 6 n (by decide) (by decide) (by omega) r
  rw [if_pos (by unfold maxVar; omega)] at hr
  have ha : E.inc n = some (E.setK (E.K + n)) := by
    unfold Qe.inc
    rw [if_neg (by omega)]
  unfold instQ
  rw [if_neg (show ¬ 128 ≤ headN (pre 0 6 n ++ r) by omega), hr, if_neg (by simp), if_pos (by omega)]
  simp only [Int.toNat_natCast, ha]
  rfl
theorem feed_send (E : Qe) (he : E.err = 0) (hr : E.rest = []) (hs : ∀ x ∈ E.op, x.s ≤ 1000000) (hm : opMax E.K E.op ≤ E.T.tot) (ht : E.T.tot ≤ 1000000) :
    E.feed (sendW (acksW E.op) (opMax E.K E.op) E.T.tot) = (((E.setOp []).setK E.T.tot).setRest [], 0) := by
  unfold Qe.feed
  rw [if_neg (by omega), hr, List.nil_append]
  unfold sendW
  obtain ⟨n', h1, h2⟩ := feed_acks (if opMax E.K E.op < E.T.tot then pre 0 6 (E.T.tot - opMax E.K E.op) else []) E.op E _ rfl hs (Nat.le_refl _)
  rw [h2]
  split
  · rename_i hlt
    rw [if_pos hlt] at h1
    have hp := (pre_len 0 6 (E.T.tot - opMax E.K E.op)).1
    obtain ⟨m, rfl⟩ : ∃ m, n' = m + 1 := ⟨n' - 1, by omega⟩
    have hin := inst_inc ((E.setOp []).setK (opMax E.K E.op)) (E.T.tot - opMax E.K E.op) (by omega) (Nat.le_refl _) (by omega) []
    rw [List.append_nil] at hin
    have hne : pre 0 6 (E.T.tot - opMax E.K E.op) ≠ [] := fun e => by rw [e] at hp; simp at hp
    rw [feedQ_step, if_neg hne, hin]
    simp only [ne_eq, not_true, if_false]
    rw [if_neg (by decide), List.drop_length, feedQ_nil]
    show ((((E.setOp []).setK (opMax E.K E.op + (E.T.tot - opMax E.K E.op)))).setRest [], 0) = _
    rw [show opMax E.K E.op + (E.T.tot - opMax E.K E.op) = E.T.tot from by omega]
  · rename_i hge
    rw [feedQ_nil, show opMax E.K E.op = E.T.tot from by omega]

/-- Both sides behind k lists. -/
structure Bk9 (cp B k : Nat) (E : Qe) (TD : Tab) (out : List UInt8) (told : Nat) : Prop where
  good : E.good
  cap : E.T.cap = cp
  capl : cp ≤ 4096
  rest : E.rest = []
  err : E.err = 0
  said0 : E.said = false → E.T.l = [] ∧ E.T.tot = 0
  TD : TD = tabD E
  tot : E.T.tot ≤ 8 * k
  out : out = acksW E.op
  told : told = opMax E.K E.op
  small : ∀ x ∈ E.op, x.s ≤ 4
  len : E.op.length ≤ k
theorem Bk9.start (cap B : Nat) (hc : cap ≤ 4096) : Bk9 cap B 0 (Qe.new cap B) ⟨[], 0, 0⟩ [] 0 :=
  ⟨Qe.good.new _ _, rfl, hc, rfl, rfl, fun _ => ⟨rfl, rfl⟩, rfl, Nat.le_refl _, rfl, rfl, fun x hx => (by cases hx), Nat.le_refl _⟩
theorem Bk9.gdD {cap B k : Nat} {E : Qe} {TD : Tab} {out : List UInt8} {told : Nat} (h : Bk9 cap B k E TD out told) : TD.gd ∧ TD.tot ≤ 8 * k := by
  rw [h.TD]
  unfold tabD
  split
  · exact ⟨⟨by rw [h.cap]; exact h.capl, h.good.gq.size⟩, h.tot⟩
  · exact ⟨⟨by decide, by decide⟩, Nat.zero_le _⟩
theorem Bk9.toldle {cap B k : Nat} {E : Qe} {TD : Tab} {out : List UInt8} {told : Nat} (h : Bk9 cap B k E TD out told) : told ≤ E.T.tot := by
  rw [h.told]
  exact opMax_le _ h.good.kn fun x hx => (h.good.sec x hx).2.2.2.2
theorem acksW_len : ∀ (op : List Qs), (acksW op).length ≤ 11 * op.length
  | [] => Nat.le_refl _
  | x :: op => by
    have h1 := (pre_len 128 7 x.s).2
    have h2 := acksW_len op
    show ((pre 128 7 x.s) ++ acksW op).length ≤ _
    rw [List.length_append, List.length_cons]
    omega
/-- A section: what the decoder does with what is written. -/
theorem Bk9.enc {cap B k : Nat} {E : Qe} {TD : Tab} {out : List UInt8} {told : Nat} (h : Bk9 cap B k E TD out told) (hk : k ≤ 10) (s : Nat) (hs : s ≤ 4) (l : List Fd) (hl : l.length ≤ 8) (hz : ∀ f ∈ l, f.1.size ≤ 4000 ∧ f.2.size ≤ 4000) :
    (∃ n, Feeds cap n TD (E.acc s l).ins (E.acc s l).T) ∧
    RdLs (E.acc s l).T (E.acc s l).c (linesW (E.acc s l).c (E.acc s l).all) l ∧
    (E.acc s l).c ≤ (E.acc s l).T.tot ∧
    ((E.acc s l).c ≠ 0 → cap / 32 ≠ 0 ∧ (E.acc s l).T.tot + cap / 32 < (E.acc s l).c + 2 * (cap / 32)) ∧
    (E.acc s l).T.gd ∧ (E.acc s l).T.tot ≤ 8 * (k + 1) ∧
    Bk9 cap B (k + 1) (E.enc s l) (E.acc s l).T (if 0 < (E.acc s l).c then out ++ pre 128 7 s else out) (if 0 < (E.acc s l).c then max told (E.acc s l).c else told) := by
  have hz' : ∀ f ∈ l, fsz f ≤ 40000 := fun f hf => by have := hz f hf; unfold fsz; omega
  have hop : E.op.length + 1 ≤ 100000 := by have := h.len; omega
  obtain ⟨g1, g2, g3, g4⟩ := h.good.enc s (by omega) l hop hz'
  have hi0 : QInv cap (⟨E.T, capW E.said E.T.cap, [], [], 0⟩ : Qa) := ⟨h.good.gq, h.cap, fun x hx => (by cases hx), fun i hi => (by cases hi), .inl rfl⟩
  obtain ⟨hi, hmap⟩ := QInv.run E.op E.K (freeQ E.op E.K E.B s) l hi0
  have hacc : E.acc s l = qrun E.op E.K (freeQ E.op E.K E.B s) l ⟨E.T, capW E.said E.T.cap, [], [], 0⟩ := rfl
  rw [← hacc] at hi hmap
  simp only [List.map_nil, List.nil_append] at hmap
  have htot : (E.acc s l).T.tot ≤ 8 * (k + 1) := by
    have h1 : (E.enc s l).T.tot = (E.acc s l).T.tot := rfl
    have := h.tot
    omega
  obtain ⟨w1, w2⟩ := hi.window
  have hgd : (E.acc s l).T.gd := ⟨by rw [hi.cap]; exact h.capl, hi.gq.size⟩
  refine ⟨?_, ?_, w1, w2, hgd, htot, ?_⟩
  · rw [h.TD]
    exact acc_feeds cap E s l (by rw [h.cap]; exact Nat.le_refl _) h.capl h.said0
  · have hr := linesW_rd (T := (E.acc s l).T) (u := (E.acc s l).u) (c := (E.acc s l).c) (by omega) (E.acc s l).all hi.ok (fun x hx => by
      have hm : x.f ∈ l := by rw [← hmap]; exact List.mem_map_of_mem hx
      have := hz _ hm
      omega)
    rw [hmap] at hr
    exact hr
  · have hT : tabD (E.enc s l) = (E.acc s l).T := rfl
    have hop' : (E.enc s l).op = if 0 < (E.acc s l).c then E.op ++ [⟨s, (E.acc s l).c, (E.acc s l).u⟩] else E.op := rfl
    refine ⟨g1, g2.trans h.cap, h.capl, h.rest, h.err, fun e => (by cases e), hT.symm, htot, ?_, ?_, ?_, ?_⟩
    · rw [hop', h.out]
      split
      · unfold acksW
        rw [List.flatMap_append]
        simp
      · rfl
    · show _ = opMax E.K (E.enc s l).op
      rw [hop', h.told]
      split
      · rw [opMax_snoc]
      · rfl
    · intro x hx
      rw [hop'] at hx
      split at hx
      · rcases List.mem_append.1 hx with hx | hx
        · exact h.small x hx
        · rw [List.mem_singleton.1 hx]; exact hs
      · exact h.small x hx
    · have := h.len
      rw [hop']
      split
      · rw [List.length_append]; simp; omega
      · omega
/-- What is sent, and taken. -/
theorem Bk9.send {cap B k : Nat} {E : Qe} {TD : Tab} {out : List UInt8} {told : Nat} (h : Bk9 cap B k E TD out told) (hk : k ≤ 12) (hsd : E.said = true) :
    E.feed (sendW out told E.T.tot) = (((E.setOp []).setK E.T.tot).setRest [], 0) ∧ TD.tot = E.T.tot ∧ (sendW out told E.T.tot).length ≤ 1000 ∧
    Bk9 cap B k (((E.setOp []).setK E.T.tot).setRest []) TD [] E.T.tot := by
  have ht := h.tot
  have hm := h.toldle
  have hlen := acksW_len E.op
  have hl := h.len
  have hTD : TD = E.T := by rw [h.TD]; unfold tabD; rw [if_pos hsd]
  refine ⟨?_, by rw [hTD], ?_, ?_⟩
  · rw [h.out, h.told]
    exact feed_send E h.err h.rest (fun x hx => by have := h.small x hx; omega) (by rw [← h.told]; exact hm) (by omega)
  · unfold sendW
    have hp := (pre_len 0 6 (E.T.tot - told)).2
    rw [List.length_append, h.out]
    split
    · omega
    · simp only [List.length_nil]; omega
  · refine ⟨⟨h.good.gq, fun x hx => (by cases hx), Nat.le_refl _, Nat.zero_le _⟩, h.cap, h.capl, rfl, h.err, h.said0, ?_, ht, rfl, rfl, fun x hx => (by cases hx), Nat.zero_le _⟩
    rw [h.TD]
    rfl
end Go.Proofs.YtebakjdeighdnaaGreat

/-
  QencBack's two objects, and the rows of bytes between them: each call of the law.
-/
namespace Go.Proofs.YtebakjdeighdnaaGreat
open Go.RowKit Go.Maps
set_option linter.unusedVariables false
set_option linter.unusedSimpArgs false

section
variable {q p N q2 t2 mx Bl told B s : Nat} {E : Qe} {T T' : Tab} {out : List UInt8} {w : World}
abbrev Bw (q p N : Nat) (E : Qe) (q2 t2 : Nat) (T : Tab) (mx Bl : Nat) (out : List UInt8) (told : Nat) : Wx := Both (Pq q p N E) (D8 q2 t2 T mx Bl [] out told)
theorem Wd.bw : Wd (Bw q p N E q2 t2 T mx Bl out told) := (Wd.pq _ _ _ _).both (Wd.d8 _ _ _ _ _ _ _ _)
/-- Encode. -/
theorem bw_enc (h : Up B (Bw q p N E q2 t2 T mx Bl out told) w) (hB : B ≤ w.heap.size) (hg : E.good) (hs : okU s) {v : Value} {l : List Fd} (hv : ∀ W, Below B w W → Fs W v l) (hl : l.length ≤ 10000) (hz : ∀ f ∈ l, f.1.size ≤ 20000 ∧ f.2.size ≤ 20000) (hc : E.T.cap ≤ 1000000) (ht : E.T.tot + 20000 ≤ 1000000) (hN : N + 100000 ≤ 1000000000) :
    Calls Tryz.prog 9 #[.pointer (some ⟨q, 0, none⟩), .int .u64 (s : Int), v] w fun r w' => ∃ a b, r = .returned (.tuple #[a, b]) ∧ ∃ N', N' ≤ N + 2 * l.length + 2 ∧ Up B (Both (Bw q p N' (E.enc s l) q2 t2 T mx Bl out told) (Both (Owb a (E.acc s l).ins) (Owb b (E.sec s l)))) w' ∧ Below B w w' := by
  obtain ⟨S, ⟨S1, S2, h1, h2, h3, h4⟩, h5⟩ := h
  have l2 := (Wd.d8 q2 t2 T mx Bl [] out told).lt h2
  refine (pqencode_any h1 hg hs (fun W hf => hv W (hf.below hB fun k hk => h5 k ((h4 k).2 (.inl hk)))) hl hz hc ht hN).mono ?_
  rintro r w' ⟨a, b, rfl, N', S', hN', hq, hoa, hob, hsub, hf, ha1, hb1⟩
  have hd' := (Wd.d8 q2 t2 T mx Bl [] out told).besides h2 hf fun k hk hk' => h3 k hk' hk
  refine ⟨a, b, rfl, N', hN', ⟨fun k => (S' k ∨ S2 k) ∨ (a.ownBlock = some k ∨ b.ownBlock = some k), ⟨fun k => S' k ∨ S2 k, fun k => a.ownBlock = some k ∨ b.ownBlock = some k, ⟨S', S2, hq, hd', fun k a b => (hsub k a).elim (fun h => h3 k h b) fun h => by have := l2 k b; omega, fun k => Iff.rfl⟩, ⟨fun k => a.ownBlock = some k, fun k => b.ownBlock = some k, ⟨hoa.mono (Nat.zero_le _), fun k => Iff.rfl⟩, ⟨hob.mono (Nat.zero_le _), fun k => Iff.rfl⟩, fun k ha hb => (hb1 k hb).2 ha, fun k => Iff.rfl⟩, ?_, fun k => Iff.rfl⟩, ?_⟩, hf.below hB fun k hk => h5 k ((h4 k).2 (.inl hk))⟩
  · rintro k (hk | hk) (ha | hb)
    · exact ha1 k ha hk
    · exact (hb1 k hb).1 hk
    · have := hoa.ge ha; have := l2 k hk; omega
    · have := hob.ge hb; have := l2 k hk; omega
  · rintro k ((hk | hk) | (hk | hk))
    · exact (hsub k hk).elim (fun h => h5 k ((h4 k).2 (.inl h))) fun h => Nat.le_trans hB h
    · exact h5 k ((h4 k).2 (.inr hk))
    · exact Nat.le_trans hB (hoa.ge hk)
    · exact Nat.le_trans hB (hob.ge hk)
/-- Feed of what was ordered. -/
theorem bw_feed {a b : Value} {x y : List UInt8} (h : Up B (Both (Bw q p N E q2 t2 T mx Bl out told) (Both (Owb a x) (Owb b y))) w) (hB : B ≤ w.heap.size) (hx : x.length ≤ 40000) (hmx : mx ≤ 4096) (hg : T.gd) (ht : T.tot ≤ 800000) {n : Nat} (hf : Feeds mx n T x T') :
    Calls Tryz.prog 10 #[.pointer (some ⟨q2, 0, none⟩), a] w fun e w' => e = .returned (.int .i64 0) ∧ Up B (Both (Bw q p N E q2 t2 T' mx Bl out told) (Owb b y)) w' ∧ Below B w w' := by
  obtain ⟨S, ⟨S1, S2, ⟨S3, S4, k1, k2, k3, k4⟩, ⟨S5, S6, m1, m2, m3, m4⟩, h3, h4⟩, h5⟩ := h
  have l3 := (Wd.pq q p N E).lt k1
  have l6 := (Wd.owb b y).lt m2
  have n5 : ∀ k, S5 k → ¬ S4 k := fun k a b => h3 k ((k4 k).2 (.inr b)) ((m4 k).2 (.inl a))
  have n6 : ∀ k, S6 k → ¬ S4 k := fun k a b => h3 k ((k4 k).2 (.inr b)) ((m4 k).2 (.inr a))
  refine (dfeed8_any k2 (fun W hW => ((Wd.owb a x).besides m1 hW n5).1.bs) (Nat.zero_le _) hx hmx hg ht (n := n) (T' := T') (by rw [List.nil_append]; exact hf)).mono ?_
  rintro e w' ⟨rfl, S', hd, hs, hfp⟩
  have hge : ∀ k, S4 k → B ≤ k := fun k hk => h5 k ((h4 k).2 (.inl ((k4 k).2 (.inr hk))))
  refine ⟨rfl, ⟨fun k => (S3 k ∨ S' k) ∨ S6 k, ⟨fun k => S3 k ∨ S' k, S6, ⟨S3, S', (Wd.pq q p N E).besides k1 hfp k3, hd, fun k a b => (hs k b).elim (k3 k a) fun h => by have := l3 k a; omega, fun k => Iff.rfl⟩, (Wd.owb b y).besides m2 hfp n6, ?_, fun k => Iff.rfl⟩, ?_⟩, hfp.below hB hge⟩
  · rintro k (hk | hk) h6
    · exact h3 k ((k4 k).2 (.inl hk)) ((m4 k).2 (.inr h6))
    · exact (hs k hk).elim (n6 k h6) fun h => by have := l6 k h6; omega
  · rintro k ((hk | hk) | hk)
    · exact h5 k ((h4 k).2 (.inl ((k4 k).2 (.inl hk))))
    · exact (hs k hk).elim (hge k) fun h => Nat.le_trans hB h
    · exact h5 k ((h4 k).2 (.inr ((m4 k).2 (.inr hk))))
/-- Decode. -/
theorem bw_decode {b : Value} {c : Nat} {r : List UInt8} {l : List Fd} (h : Up B (Both (Bw q p N E q2 t2 T mx Bl out told) (Owb b (qpre c c (mx / 32) ++ r))) w) (hB : B ≤ w.heap.size) (hmx : mx ≤ 4096) (hl : (qpre c c (mx / 32) ++ r).length ≤ 100000) (hct : c ≤ T.tot) (hw : c ≠ 0 → mx / 32 ≠ 0 ∧ T.tot + mx / 32 < c + 2 * (mx / 32)) (htt : T.tot ≤ 1000000) (hrd : RdLs T c r l) (hll : l.length ≤ 64) (hs : s ≤ 1000000) (hol : out.length ≤ 100000) (htd : told ≤ 1000000) :
    Calls Tryz.prog 11 #[.pointer (some ⟨q2, 0, none⟩), .int .u64 (s : Int), b] w fun e w' => ∃ v, e = .returned (.tuple #[v, .int .i64 0]) ∧ Fs w' v l ∧ Up B (Bw q p N E q2 t2 T mx Bl (if 0 < c then out ++ pre 128 7 s else out) (if 0 < c then max told c else told)) w' ∧ Below B w w' := by
  obtain ⟨S, ⟨S1, S2, ⟨S3, S4, k1, k2, k3, k4⟩, m, h3, h4⟩, h5⟩ := h
  obtain ⟨m1, r1, r2, r3, ⟨hlt, hx⟩, hd, hn1⟩ := qpre_rd c (mx / 32) T.tot (by omega) ⟨hct, hw⟩ (by omega) r
  have hmost : mostN (mx : Int) = mx / 32 := by unfold mostN; omega
  have hlen : (qpre c c (mx / 32) ++ r).length = (qpre c c (mx / 32)).length + r.length := List.length_append
  refine (ddecode8_ok k2 (fun W hW => ((Wd.owb b _).keep m hW).1.bs) hl hmx r1 r2 (by omega) hx hn1 (by rw [hmost]; exact hd) hct htt (by rw [r3, List.drop_left' rfl]; exact hrd) hll s hs hol htd).mono ?_
  rintro e w' ⟨v, rfl, hfs, ht⟩
  have hsub : ∀ k, (fun k => S3 k ∨ S4 k) k → B ≤ k := fun k hk => h5 k ((h4 k).2 (.inl ((k4 k).2 hk)))
  obtain ⟨hu, hb⟩ := Up.turn hsub hB (Both.right (S := fun k => S3 k ∨ S4 k) (Wd.pq q p N E) k1 k3 (fun k => Iff.rfl) ht)
  exact ⟨v, rfl, hfs, hu, hb⟩
/-- Send. -/
theorem bw_send (h : Up B (Bw q p N E q2 t2 T mx Bl out told) w) (hB : B ≤ w.heap.size) (hol : out.length ≤ 100000) (htd : told ≤ T.tot) (htt : T.tot ≤ 1000000) :
    Calls Tryz.prog 14 #[.pointer (some ⟨q2, 0, none⟩)] w fun e w' => ∃ v, e = .returned v ∧ Up B (Both (Bw q p N E q2 t2 T mx Bl [] T.tot) (Owb v (sendW out told T.tot))) w' ∧ Below B w w' := by
  obtain ⟨S, ⟨S3, S4, k1, k2, k3, k4⟩, h5⟩ := h
  refine (dsend8_any k2 hol htd htt).mono ?_
  rintro e w' ⟨v, rfl, ht⟩
  have hsub : ∀ k, (fun k => S3 k ∨ S4 k) k → B ≤ k := fun k hk => h5 k ((k4 k).2 hk)
  obtain ⟨hu, hb⟩ := Up.turn hsub hB (Both.right (S := fun k => S3 k ∨ S4 k) (Wd.pq q p N E) k1 k3 (fun k => Iff.rfl) ht)
  exact ⟨v, rfl, hu.assoc, hb⟩
/-- Feed of what was sent. -/
theorem bw_efeed {v : Value} {x : List UInt8} (h : Up B (Both (Bw q p N E q2 t2 T mx Bl out told) (Owb v x)) w) (hB : B ≤ w.heap.size) (hg : E.good) (hN : N < 1000000000) (hx : x.length ≤ 90000) (hr : E.rest.length ≤ 90000) :
    Calls Tryz.prog 13 #[.pointer (some ⟨q, 0, none⟩), v] w fun e w' => e = .returned (.int .i64 ((E.feed x).2 : Int)) ∧ Up B (Bw q p N (E.feed x).1 q2 t2 T mx Bl out told) w' ∧ Below B w w' := by
  obtain ⟨S, ⟨S1, S2, ⟨S3, S4, k1, k2, k3, k4⟩, m, h3, h4⟩, h5⟩ := h
  refine (feed_any k1 hg hN m.1.bs hx hr).mono ?_
  rintro e w' ⟨rfl, ht⟩
  have hsub : ∀ k, (fun k => S3 k ∨ S4 k) k → B ≤ k := fun k hk => h5 k ((h4 k).2 (.inl ((k4 k).2 hk)))
  obtain ⟨hu, hb⟩ := Up.turn hsub hB (Both.left (S := fun k => S3 k ∨ S4 k) (Wd.d8 q2 t2 T mx Bl [] out told) k2 k3 (fun k => Iff.rfl) ht)
  exact ⟨rfl, hu, hb⟩
end
end Go.Proofs.YtebakjdeighdnaaGreat
