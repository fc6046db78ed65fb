/-
  Texts put together: QpP, QpQ, QpR.
-/
import Derived.Test.YtebakjdeighdnaaGreatM33
import Derived.Test.YtebakjdeighdnaaGreatM32
import Derived.Test.YtebakjdeighdnaaGreatM24
import Derived.Test.YtebakjdeighdnaaGreatM23

/-
  One instruction of the decoder stream, as mathematics; contract of the encoder's instruction.
-/
namespace Go.Proofs.YtebakjdeighdnaaGreat
open Go.RowKit Go.Maps
set_option linter.unusedVariables false

/-- One instruction: how many bytes, the error, the encoder. -/
def instQ (E : Qe) (b : List UInt8) : Nat × Nat × Qe :=
  if (rp (if 128 ≤ headN b then 7 else 6) b).2.2 ≠ 0 then (0, (rp (if 128 ≤ headN b then 7 else 6) b).2.2.toNat, E)
  else if headN b < 64 then ((rp 6 b).2.1.toNat, ansQ (E.inc (rp 6 b).1.toNat), (E.inc (rp 6 b).1.toNat).getD E)
  else if headN b < 128 then ((rp 6 b).2.1.toNat, 0, E.can (rp 6 b).1.toNat)
  else ((rp 7 b).2.1.toNat, ansQ (E.ack (rp 7 b).1.toNat), (E.ack (rp 7 b).1.toNat).getD E)
section
variable {q p N : Nat} {E : Qe} {w w' : World} {S : Nat → Prop}
set_option maxRecDepth 100000 in
set_option maxHeartbeats 4000000 in
theorem instruction_any (h : Pq q p N E w S) (hg : E.good) (hN : N < 1000000000) {bV : Value} {b : List UInt8} (hb : Bs w bV b) (hne : 0 < b.length) (hl : b.length ≤ 600000) :
    Calls Tryz.prog 35 #[.pointer (some ⟨q, 0, none⟩), bV] w fun e w' => e = .returned (.tuple #[.int .i64 ((instQ E b).1 : Int), .int .i64 ((instQ E b).2.1 : Int)]) ∧ Turn (Pq q p N (instQ E b).2.2) S w w' := by
  have HT : Bx (Turn (Pq q p N E) S w w) := ⟨(Wd.pq _ _ _ _).turned h (Below.refl _ _)⟩
  obtain ⟨pa, hix, hcs⟩ := hb.at_ 0 hne
  have e0 := hcs w hb
  rw [show ((0 : Nat) : Int) = 0 from rfl] at hix
  have hh : headN b = b[0].toNat := by
    cases b with
    | nil => simp at hne
    | cons c t => rfl
  obtain ⟨z, hz⟩ : ∃ z, b[0].toNat = z := ⟨_, rfl⟩
  have hz256 : z < 256 := by rw [← hz]; exact b[0].toNat_lt
  rw [hz] at e0 hh
  obtain ⟨C, hC⟩ := letter z
  rw [hC] at e0
  by_cases h128 : 128 ≤ z
  · have hq1 : (C / 128 == 1) = true := by rw [beq_iff_eq]; omega
    have hq2 : (C / 64 == 0) = false := by rw [beq_eq_false_iff_ne]; omega
    have hq3 : (C / 64 == 1) = false := by rw [beq_eq_false_iff_ne]; omega
    have HI : Bx (instQ E b = if (rp 7 b).2.2 ≠ 0 then (0, (rp 7 b).2.2.toNat, E) else ((rp 7 b).2.1.toNat, ansQ (E.ack (rp 7 b).1.toNat), (E.ack (rp 7 b).1.toNat).getD E)) := ⟨by
      unfold instQ
      rw [hh, if_pos h128, if_neg (show ¬ z < 64 by omega), if_neg (show ¬ z < 128 by omega)]⟩
    rcases rp_cases 7 b with hr | hr | ⟨n, m, hr, h1, h2, h3⟩
    · have HRP := Bx.mk (rpAt_any bV b 7 7 rfl _ hr w hb (by omega))
      rw [HI.out, hr]
      clear h hg hN hb hne hl hcs hh hz hz256 hC h128 hr
      go_enter Tryz.func35, Tryz.ntmps35
      go_wp2_with (go_at_call 72; refine HRP.out.mono ?_; rintro e w1 ⟨rfl, rfl⟩)
      go_ret2
      exact ⟨rfl, HT.out⟩
    · have HRP := Bx.mk (rpAt_any bV b 7 7 rfl _ hr w hb (by omega))
      rw [HI.out, hr]
      clear h hg hN hb hne hl hcs hh hz hz256 hC h128 hr
      go_enter Tryz.func35, Tryz.ntmps35
      go_wp2_with (go_at_call 72; refine HRP.out.mono ?_; rintro e w1 ⟨rfl, rfl⟩)
      go_ret2
      exact ⟨rfl, HT.out⟩
    · have HRP := Bx.mk (rpAt_any bV b 7 7 rfl _ hr w hb (by omega))
      have HACT := Bx.mk (ack_any h hg hN (s := n) (by unfold okU; unfold maxVar at h3; omega))
      have HI2 : Bx (instQ E b = (m, ansQ (E.ack n), (E.ack n).getD E)) := ⟨by rw [HI.out, hr, if_neg (by simp)]; rfl⟩
      rw [HI2.out]
      obtain ⟨NN, hNN⟩ := letter n
      obtain ⟨MM, hMM⟩ := letter m
      obtain ⟨AA, hAA⟩ := letter (ansQ (E.ack n))
      rw [hNN, hAA] at HACT
      simp only [hNN, hMM] at HRP
      simp only [hMM, hAA]
      clear h hg hN hb hne hl hcs hh hz hz256 hC h128 hr hNN hMM hAA h1 h2 h3
      go_enter Tryz.func35, Tryz.ntmps35
      go_wp2_with (first
        | (go_at_call 72; refine HRP.out.mono ?_; rintro e w1 ⟨rfl, rfl⟩)
        | (go_at_call 75; refine HACT.out.mono ?_; rintro e w2 ⟨rfl, ht2⟩; have HT2 := Bx.mk ht2; clear ht2))
      go_ret2
      exact ⟨rfl, HT2.out⟩
  · have hq1 : (C / 128 == 1) = false := by rw [beq_eq_false_iff_ne]; omega
    by_cases h64 : z < 64
    · have hq2 : (C / 64 == 0) = true := by rw [beq_iff_eq]; omega
      have HI : Bx (instQ E b = if (rp 6 b).2.2 ≠ 0 then (0, (rp 6 b).2.2.toNat, E) else ((rp 6 b).2.1.toNat, ansQ (E.inc (rp 6 b).1.toNat), (E.inc (rp 6 b).1.toNat).getD E)) := ⟨by
        unfold instQ
        rw [hh, if_neg h128, if_pos h64]⟩
      rcases rp_cases 6 b with hr | hr | ⟨n, m, hr, h1, h2, h3⟩
      · have HRP := Bx.mk (rpAt_any bV b 6 6 rfl _ hr w hb (by omega))
        rw [HI.out, hr]
        clear h hg hN hb hne hl hcs hh hz hz256 hC h128 h64 hr
        go_enter Tryz.func35, Tryz.ntmps35
        go_wp2_with (go_at_call 72; refine HRP.out.mono ?_; rintro e w1 ⟨rfl, rfl⟩)
        go_ret2
        exact ⟨rfl, HT.out⟩
      · have HRP := Bx.mk (rpAt_any bV b 6 6 rfl _ hr w hb (by omega))
        rw [HI.out, hr]
        clear h hg hN hb hne hl hcs hh hz hz256 hC h128 h64 hr
        go_enter Tryz.func35, Tryz.ntmps35
        go_wp2_with (go_at_call 72; refine HRP.out.mono ?_; rintro e w1 ⟨rfl, rfl⟩)
        go_ret2
        exact ⟨rfl, HT.out⟩
      · have HRP := Bx.mk (rpAt_any bV b 6 6 rfl _ hr w hb (by omega))
        have HACT := Bx.mk (inc_any h hg (n := n) (by unfold okU; unfold maxVar at h3; omega))
        have HI2 : Bx (instQ E b = (m, ansQ (E.inc n), (E.inc n).getD E)) := ⟨by rw [HI.out, hr, if_neg (by simp)]; rfl⟩
        rw [HI2.out]
        obtain ⟨NN, hNN⟩ := letter n
        obtain ⟨MM, hMM⟩ := letter m
        obtain ⟨AA, hAA⟩ := letter (ansQ (E.inc n))
        rw [hNN, hAA] at HACT
        simp only [hNN, hMM] at HRP
        simp only [hMM, hAA]
        clear h hg hN hb hne hl hcs hh hz hz256 hC h128 h64 hr hNN hMM hAA h1 h2 h3
        go_enter Tryz.func35, Tryz.ntmps35
        go_wp2_with (first
          | (go_at_call 72; refine HRP.out.mono ?_; rintro e w1 ⟨rfl, rfl⟩)
          | (go_at_call 73; refine HACT.out.mono ?_; rintro e w2 ⟨rfl, ht2⟩; have HT2 := Bx.mk ht2; clear ht2))
        go_ret2
        exact ⟨rfl, HT2.out⟩
    · have hq2 : (C / 64 == 0) = false := by rw [beq_eq_false_iff_ne]; omega
      have hq3 : (C / 64 == 1) = true := by rw [beq_iff_eq]; omega
      have HI : Bx (instQ E b = if (rp 6 b).2.2 ≠ 0 then (0, (rp 6 b).2.2.toNat, E) else ((rp 6 b).2.1.toNat, 0, E.can (rp 6 b).1.toNat)) := ⟨by
        unfold instQ
        rw [hh, if_neg h128, if_neg h64, if_pos (show z < 128 by omega)]⟩
      rcases rp_cases 6 b with hr | hr | ⟨n, m, hr, h1, h2, h3⟩
      · have HRP := Bx.mk (rpAt_any bV b 6 6 rfl _ hr w hb (by omega))
        rw [HI.out, hr]
        clear h hg hN hb hne hl hcs hh hz hz256 hC h128 h64 hr
        go_enter Tryz.func35, Tryz.ntmps35
        go_wp2_with (go_at_call 72; refine HRP.out.mono ?_; rintro e w1 ⟨rfl, rfl⟩)
        go_ret2
        exact ⟨rfl, HT.out⟩
      · have HRP := Bx.mk (rpAt_any bV b 6 6 rfl _ hr w hb (by omega))
        rw [HI.out, hr]
        clear h hg hN hb hne hl hcs hh hz hz256 hC h128 h64 hr
        go_enter Tryz.func35, Tryz.ntmps35
        go_wp2_with (go_at_call 72; refine HRP.out.mono ?_; rintro e w1 ⟨rfl, rfl⟩)
        go_ret2
        exact ⟨rfl, HT.out⟩
      · have HRP := Bx.mk (rpAt_any bV b 6 6 rfl _ hr w hb (by omega))
        have HACT := Bx.mk (cancel_any h hg hN (s := n) (by unfold okU; unfold maxVar at h3; omega))
        have HI2 : Bx (instQ E b = (m, 0, E.can n)) := ⟨by rw [HI.out, hr, if_neg (by simp)]; rfl⟩
        rw [HI2.out]
        obtain ⟨NN, hNN⟩ := letter n
        obtain ⟨MM, hMM⟩ := letter m
        rw [hNN] at HACT
        simp only [hNN, hMM] at HRP
        simp only [hMM]
        clear h hg hN hb hne hl hcs hh hz hz256 hC h128 h64 hr hNN hMM h1 h2 h3
        go_enter Tryz.func35, Tryz.ntmps35
        go_wp2_with (first
          | (go_at_call 72; refine HRP.out.mono ?_; rintro e w1 ⟨rfl, rfl⟩)
          | (go_at_call 74; refine HACT.out.mono ?_; rintro e w2 ⟨rfl, ht2⟩; have HT2 := Bx.mk ht2; clear ht2))
        go_ret2
        exact ⟨rfl, HT2.out⟩
end
end Go.Proofs.YtebakjdeighdnaaGreat

/-
  The decoder stream fed, as mathematics; contract of the encoder's Feed.
-/
namespace Go.Proofs.YtebakjdeighdnaaGreat
open Go.RowKit Go.Maps
set_option linter.unusedVariables false

def Qe.setRest (E : Qe) (r : List UInt8) : Qe := ⟨E.T, E.B, E.K, E.op, r, E.err, E.said⟩
def Qe.setErr (E : Qe) (er : Nat) : Qe := ⟨E.T, E.B, E.K, E.op, [], er, E.said⟩
/-- Bytes of the decoder stream, the first n instructions at most: the encoder, the error. -/
def feedQ : Nat → Qe → List UInt8 → Qe × Nat
  | 0, E, r => (E.setRest r, 0)
  | n + 1, E, r => if r = [] then (E.setRest [], 0)
    else if (instQ E r).2.1 = 20 then ((instQ E r).2.2.setRest r, 0)
    else if (instQ E r).2.1 ≠ 0 then ((instQ E r).2.2.setErr (instQ E r).2.1, (instQ E r).2.1)
    else feedQ n (instQ E r).2.2 (r.drop (instQ E r).1)
def Qe.feed (E : Qe) (b : List UInt8) : Qe × Nat := if E.err ≠ 0 then (E, E.err) else feedQ (E.rest ++ b).length E (E.rest ++ b)

theorem ansQ_cases (r : Option Qe) : ansQ r = 0 ∨ ansQ r = 26 := by unfold ansQ; split <;> simp
theorem Qe.good.ack {E : Qe} (h : E.good) (s : Nat) : ((E.ack s).getD E).good := by
  unfold Qe.ack
  cases hx : (secs E.op s).head? with
  | none => exact h
  | some x =>
    obtain ⟨hm, _⟩ := head_mem hx
    have h1 := h.drop s
    have h2 := (h.sec x hm).2.2.2.2
    exact ⟨h1.gq, h1.sec, Nat.max_le.2 ⟨h.kn, h2⟩, h1.len⟩
theorem Qe.good.inc {E : Qe} (h : E.good) (n : Nat) : ((E.inc n).getD E).good := by
  unfold Qe.inc
  have := h.kn
  by_cases hc : n = 0 ∨ E.T.tot - E.K < n
  · rw [if_pos hc]; exact h
  · rw [if_neg hc]
    exact ⟨h.gq, h.sec, by show E.K + n ≤ E.T.tot; omega, h.len⟩
theorem Qe.good.can {E : Qe} (h : E.good) (s : Nat) : (E.can s).good :=
  ⟨h.gq, fun x hx => h.sec x ((List.mem_filter.1 hx).1), h.kn, Nat.le_trans (List.length_filter_le _ _) h.len⟩
/-- What an instruction comes to. -/
theorem instQ_cases (E : Qe) (b : List UInt8) : (∃ e, instQ E b = (0, e, E) ∧ (e = 20 ∨ e = 21)) ∨ ∃ n m, 1 ≤ m ∧ m ≤ b.length ∧ n ≤ maxVar ∧
    (instQ E b = (m, ansQ (E.inc n), (E.inc n).getD E) ∨ instQ E b = (m, 0, E.can n) ∨ instQ E b = (m, ansQ (E.ack n), (E.ack n).getD E)) := by
  by_cases h128 : 128 ≤ headN b
  · have HI : instQ E b = if (rp 7 b).2.2 ≠ 0 then (0, (rp 7 b).2.2.toNat, E) else ((rp 7 b).2.1.toNat, ansQ (E.ack (rp 7 b).1.toNat), (E.ack (rp 7 b).1.toNat).getD E) := by
      unfold instQ
      rw [if_pos h128, if_neg (show ¬ headN b < 64 by omega), if_neg (show ¬ headN b < 128 by omega)]
    rcases rp_cases 7 b with hr | hr | ⟨n, m, hr, h1, h2, h3⟩
    · exact .inl ⟨20, by rw [HI, hr]; rfl, .inl rfl⟩
    · exact .inl ⟨21, by rw [HI, hr]; rfl, .inr rfl⟩
    · exact .inr ⟨n, m, h1, h2, h3, .inr (.inr (by rw [HI, hr, if_neg (by simp)]; rfl))⟩
  · by_cases h64 : headN b < 64
    · have HI : instQ E b = if (rp 6 b).2.2 ≠ 0 then (0, (rp 6 b).2.2.toNat, E) else ((rp 6 b).2.1.toNat, ansQ (E.inc (rp 6 b).1.toNat), (E.inc (rp 6 b).1.toNat).getD E) := by
        unfold instQ
        rw [if_neg h128, if_pos h64]
      rcases rp_cases 6 b with hr | hr | ⟨n, m, hr, h1, h2, h3⟩
      · exact .inl ⟨20, by rw [HI, hr]; rfl, .inl rfl⟩
      · exact .inl ⟨21, by rw [HI, hr]; rfl, .inr rfl⟩
      · exact .inr ⟨n, m, h1, h2, h3, .inl (by rw [HI, hr, if_neg (by simp)]; rfl)⟩
    · have HI : instQ E b = if (rp 6 b).2.2 ≠ 0 then (0, (rp 6 b).2.2.toNat, E) else ((rp 6 b).2.1.toNat, 0, E.can (rp 6 b).1.toNat) := by
        unfold instQ
        rw [if_neg h128, if_neg h64, if_pos (show headN b < 128 by omega)]
      rcases rp_cases 6 b with hr | hr | ⟨n, m, hr, h1, h2, h3⟩
      · exact .inl ⟨20, by rw [HI, hr]; rfl, .inl rfl⟩
      · exact .inl ⟨21, by rw [HI, hr]; rfl, .inr rfl⟩
      · exact .inr ⟨n, m, h1, h2, h3, .inr (.inl (by rw [HI, hr, if_neg (by simp)]; rfl))⟩
theorem Qe.good.inst {E : Qe} (h : E.good) (b : List UInt8) : (instQ E b).2.2.good := by
  rcases instQ_cases E b with ⟨e, hi, _⟩ | ⟨n, m, _, _, _, hi | hi | hi⟩
  · rw [hi]; exact h
  · rw [hi]; exact h.inc _
  · rw [hi]; exact h.can _
  · rw [hi]; exact h.ack _
/-- An instruction that is whole takes a byte at least. -/
theorem instQ_len (E : Qe) (b : List UInt8) : ((instQ E b).2.1 = 0 → 1 ≤ (instQ E b).1) ∧ (instQ E b).2.1 ≤ 26 ∧ (instQ E b).1 ≤ b.length ∧ ((instQ E b).2.1 = 20 → (instQ E b).2.2 = E) := by
  rcases instQ_cases E b with ⟨e, hi, he⟩ | ⟨n, m, h1, h2, _, hi | hi | hi⟩
  · rw [hi]
    exact ⟨fun h => by have h : e = 0 := h; omega, by show e ≤ 26; omega, Nat.zero_le _, fun _ => rfl⟩
  · have := ansQ_cases (E.inc n)
    rw [hi]
    exact ⟨fun _ => h1, by show ansQ _ ≤ 26; omega, h2, fun h => by have h : ansQ (E.inc n) = 20 := h; omega⟩
  · rw [hi]
    exact ⟨fun _ => h1, Nat.zero_le _, h2, fun h => by have h : (0 : Nat) = 20 := h; omega⟩
  · have := ansQ_cases (E.ack n)
    rw [hi]
    exact ⟨fun _ => h1, by show ansQ _ ≤ 26; omega, h2, fun h => by have h : ansQ (E.ack n) = 20 := h; omega⟩
section
variable {q p N : Nat} {E : Qe} {w w' : World} {S : Nat → Prop}
theorem pF_9 (p : Nat) (sd : Bool) (B K bs bq bu bb : Nat) (vR : Value) (er er' : Nat) : ∀ j, j < 10 → (if j = 9 then Value.int .i64 (er' : Int) else pF p sd B K bs bq bu bb vR er j) = pF p sd B K bs bq bu bb vR er' j := fun j hj => by
  unfold pF
  match j, hj with
  | 0, _ => rfl
  | 1, _ => rfl
  | 2, _ => rfl
  | 3, _ => rfl
  | 4, _ => rfl
  | 5, _ => rfl
  | 6, _ => rfl
  | 7, _ => rfl
  | 8, _ => rfl
  | 9, _ => rfl
/-- What waits is written. -/
theorem Pq.putRest (h : Pq q p N E w S) {v : Value} {r : List UInt8} {S3 : Nat → Prop} (ho : Ob (fun W => Bs W v r) w S3) (hd : ∀ k, S3 k → ¬ S k) :
    w.frozen? ⟨q, 8, none⟩ = false ∧ (∃ x, w.cell? ⟨q, 8, none⟩ = some x) ∧ w.cell? ⟨q, 0, none⟩ = some (.pointer (some ⟨p, 0, none⟩)) ∧ ∃ S', Pq q p N (E.setRest r) (w.setCell ⟨q, 8, none⟩ v) S' ∧ (∀ k, S' k → S k ∨ S3 k) ∧ Fp S w (w.setCell ⟨q, 8, none⟩ v) := by
  obtain ⟨a, LV, hlv, bs, bq, bu, bb, vR, S1, S2, hp, hS⟩ := h
  have hd' : ∀ k, S3 k → ¬ Pset q bs bq bu bb S1 S2 k := fun k hk hh => hd k hk ((hS k).2 hh)
  have hr := hp.setRest ho (hp.ob.map fun W hW => hW.2) fun k hk => ⟨fun e => hd' k hk (.inl e), fun e => hd' k hk (.inr (.inr (.inl e))), fun e => hd' k hk (.inr (.inr (.inr (.inl e)))), fun e => hd' k hk (.inr (.inr (.inr (.inr (.inl e))))), fun e => hd' k hk (.inr (.inr (.inr (.inr (.inr (.inl e)))))), fun e => hd' k hk (.inr (.inr (.inr (.inr (.inr (.inr e))))))⟩
  obtain ⟨c0, _, _, _, _, _, _, _, c8, _, hf⟩ := hp.cells
  refine ⟨hf 8, ⟨_, c8⟩, c0, _, ⟨a, LV, hlv, hr.raw⟩, fun k hk => ?_, (Fp.set (fun k => k = q) w ⟨q, 8, none⟩ v rfl).mono fun k hk => (hS k).2 (.inr (.inr (.inl hk)))⟩
  rcases hk with hk | (hk | hk) | hk
  · exact .inl ((hS k).2 (.inl hk))
  · exact .inl ((hS k).2 (.inr (.inl hk)))
  · exact .inr hk
  · exact .inl ((hS k).2 (.inr (.inr hk)))
theorem Pq.putErr (h : Pq q p N E w S) (er : Nat) : w.frozen? ⟨q, 9, none⟩ = false ∧ (∃ x, w.cell? ⟨q, 9, none⟩ = some x) ∧ Pq q p N ⟨E.T, E.B, E.K, E.op, E.rest, er, E.said⟩ (w.setCell ⟨q, 9, none⟩ (.int .i64 (er : Int))) S ∧ Fp S w (w.setCell ⟨q, 9, none⟩ (.int .i64 (er : Int))) := by
  obtain ⟨a, LV, hlv, bs, bq, bu, bb, vR, S1, S2, hp, hS⟩ := h
  obtain ⟨_, _, _, _, _, _, _, _, _, c9, hf⟩ := hp.cells
  obtain ⟨h1, h2⟩ := hp.set (sd := E.said) (K := E.K) (er := er) 9 (.int .i64 (er : Int)) (pF_9 _ _ _ _ _ _ _ _ _ _ _)
  exact ⟨hf 9, ⟨_, c9⟩, ⟨a, LV, hlv, bs, bq, bu, bb, vR, S1, S2, h1, hS⟩, h2.mono fun k hk => (hS k).2 hk⟩
end
end Go.Proofs.YtebakjdeighdnaaGreat

/-
  Contract of the encoder's Feed.
-/
namespace Go.Proofs.YtebakjdeighdnaaGreat
open Go.RowKit Go.Maps
set_option linter.unusedVariables false

theorem OwB.shape {w : World} {B : Nat} {v : Value} {l : List UInt8} (h : OwB w B v l) : ∃ A n c, v = .slice A n c := by
  rcases h.2 with ⟨rfl, _⟩ | ⟨g, cap, cur, rfl, _⟩
  · exact ⟨_, _, _, rfl⟩
  · exact ⟨_, _, _, rfl⟩
theorem OwB.ob {w : World} {B : Nat} {v : Value} {l : List UInt8} (h : OwB w B v l) : Ob (fun W => Bs W v l) w (fun k => v.ownBlock = some k) :=
  ⟨fun k hk => h.lt hk, fun W _ hk => (h.kept fun k hh => hk k hh).bs⟩
/-- What Feed's loop keeps. -/
structure FdR (q p N : Nat) (E : Qe) (l0 : List UInt8) (v0 : Value) (S : Nat → Prop) (w w1 : World) (n : Nat) (E' : Qe) (r : List UInt8) (v : Value) (wx : World) : Prop where
  good : E'.good
  fuel : r.length ≤ n
  len : r.length ≤ 200000
  go : feedQ n E' r = feedQ l0.length E l0
  pq : ∃ S', Pq q p N E' wx S' ∧ ∀ k, S' k → S k ∨ w1.heap.size ≤ k
  fp : Fp S w wx
  sz : w.heap.size ≤ w1.heap.size
  sx : w1.heap.size ≤ wx.heap.size
  bs : ∀ W, Bs W v0 l0 → Bs W v r
  b0 : OwB wx w.heap.size v0 l0
  bl : ∀ k, v0.ownBlock = some k → k < w1.heap.size
  sl : ∀ k, S k → k < w.heap.size
section
variable {q p N n : Nat} {E E' : Qe} {w w' w1 wx w2 : World} {S : Nat → Prop} {r l0 : List UInt8} {v0 v v2 : Value}
theorem feedQ_step (n : Nat) (E : Qe) (r : List UInt8) : feedQ (n + 1) E r = if r = [] then (E.setRest [], 0) else if (instQ E r).2.1 = 20 then ((instQ E r).2.2.setRest r, 0) else if (instQ E r).2.1 ≠ 0 then ((instQ E r).2.2.setErr (instQ E r).2.1, (instQ E r).2.1) else feedQ n (instQ E r).2.2 (r.drop (instQ E r).1) := rfl
theorem feedQ_nil (n : Nat) (E : Qe) : feedQ n E [] = (E.setRest [], 0) := by cases n <;> rfl
/-- The end: what is left waits. -/
theorem FdR.ends (h : FdR q p N E l0 v0 S w w1 n E' r v wx) (ho : OwB w2 wx.heap.size v2 r) (hb : Below wx.heap.size wx w2) :
    w2.frozen? ⟨q, 8, none⟩ = false ∧ (∃ x, w2.cell? ⟨q, 8, none⟩ = some x) ∧ Turn (Pq q p N (E'.setRest r)) S w (w2.setCell ⟨q, 8, none⟩ v2) := by
  obtain ⟨S', hpq, hs⟩ := h.pq
  have hlt := (Wd.pq _ _ _ _).lt hpq
  have hs' : ∀ k, S' k → S k ∨ w.heap.size ≤ k := fun k hk => (hs k hk).imp id fun hge => Nat.le_trans h.sz hge
  obtain ⟨f8, c8, c0, S3, h3, s3, f3⟩ := ((Wd.pq _ _ _ _).keep hpq hb).putRest ho.ob (fun k hk hh => by have := ho.ge hk; have := hlt k hh; omega)
  refine ⟨f8, c8, S3, h3, fun k hk => ?_, (h.fp.then (Fp.of_below hb)).trans f3 hs'⟩
  rcases s3 k hk with hk | hk
  · exact hs' k hk
  · exact .inr (Nat.le_trans h.fp.size (ho.ge hk))
/-- An error: nothing waits. -/
theorem FdR.fails (h : FdR q p N E l0 v0 S w w1 n E' r v wx) {S' : Nat → Prop} (hpq : Pq q p N E' wx S') (hs : ∀ k, S' k → S k ∨ w1.heap.size ≤ k) {E2 : Qe} (ht : Turn (Pq q p N E2) S' wx w2) (er : Nat) :
    w2.frozen? ⟨q, 8, none⟩ = false ∧ (∃ x, w2.cell? ⟨q, 8, none⟩ = some x) ∧ (w2.setCell ⟨q, 8, none⟩ (.slice none 0 0)).frozen? ⟨q, 9, none⟩ = false ∧ (∃ x, (w2.setCell ⟨q, 8, none⟩ (.slice none 0 0)).cell? ⟨q, 9, none⟩ = some x) ∧
      Turn (Pq q p N (E2.setErr er)) S w ((w2.setCell ⟨q, 8, none⟩ (.slice none 0 0)).setCell ⟨q, 9, none⟩ (.int .i64 (er : Int))) := by
  have hs' : ∀ k, S' k → S k ∨ w.heap.size ≤ k := fun k hk => (hs k hk).imp id fun hge => Nat.le_trans h.sz hge
  obtain ⟨S2, h2, s2, f2⟩ := ht
  have hs2 : ∀ k, S2 k → S k ∨ w.heap.size ≤ k := fun k hk => (s2 k hk).elim (hs' k) fun hge => .inr (Nat.le_trans h.fp.size hge)
  obtain ⟨f8, c8, c0, S3, h3, s3, f3⟩ := h2.putRest (v := .slice none 0 0) (r := []) (S3 := fun _ => False) (Ob.none fun W => Rd.nil W) (fun k hk => hk.elim)
  obtain ⟨f9, c9, h4, f4⟩ := h3.putErr er
  have hs3 : ∀ k, S3 k → S k ∨ w.heap.size ≤ k := fun k hk => (s3 k hk).elim (hs2 k) fun hh => hh.elim
  exact ⟨f8, c8, f9, c9, S3, h4, hs3, (((h.fp.trans f2 hs').trans f3 hs2).trans f4 hs3)⟩
/-- What Feed keeps stands beside what turns. -/
theorem FdR.b1 (h : FdR q p N E l0 v0 S w w1 n E' r v wx) {S' : Nat → Prop} (hs : ∀ k, S' k → S k ∨ w1.heap.size ≤ k) (f2 : Fp S' wx w2) : OwB w2 w.heap.size v0 l0 :=
  h.b0.kept fun k hk => f2.block k (h.b0.lt hk) fun hh => by
    rcases hs k hh with hh | hh
    · have := h.sl k hh
      have := h.b0.ge hk
      omega
    · have := h.bl k hk
      omega
theorem FdR.same (h : FdR q p N E l0 v0 S w w1 n E' r v wx) {S' : Nat → Prop} (hpq : Pq q p N E' wx S') (hs : ∀ k, S' k → S k ∨ w1.heap.size ≤ k) (ht : Turn (Pq q p N E') S' wx w2) : FdR q p N E l0 v0 S w w1 n E' r v w2 := by
  have hs' : ∀ k, S' k → S k ∨ w.heap.size ≤ k := fun k hk => (hs k hk).imp id fun hge => Nat.le_trans h.sz hge
  obtain ⟨S2, h2, s2, f2⟩ := ht
  exact ⟨h.good, h.fuel, h.len, h.go, ⟨S2, h2, fun k hk => (s2 k hk).elim (hs k) fun hge => .inr (Nat.le_trans h.sx hge)⟩, h.fp.trans f2 hs', h.sz, Nat.le_trans h.sx f2.size, h.bs, h.b1 hs f2, h.bl, h.sl⟩
/-- One instruction more. -/
theorem FdR.next (h : FdR q p N E l0 v0 S w w1 (n + 1) E' r v wx) {S' : Nat → Prop} (hpq : Pq q p N E' wx S') (hs : ∀ k, S' k → S k ∨ w1.heap.size ≤ k) (hne : r ≠ []) (h0 : (instQ E' r).2.1 = 0) (ht : Turn (Pq q p N (instQ E' r).2.2) S' wx w2) {v2 : Value} (hv : ∀ W, Bs W v r → Bs W v2 (r.drop (instQ E' r).1)) :
    FdR q p N E l0 v0 S w w1 n (instQ E' r).2.2 (r.drop (instQ E' r).1) v2 w2 := by
  have hs' : ∀ k, S' k → S k ∨ w.heap.size ≤ k := fun k hk => (hs k hk).imp id fun hge => Nat.le_trans h.sz hge
  obtain ⟨S2, h2, s2, f2⟩ := ht
  obtain ⟨l1, l2, l3, _⟩ := instQ_len E' r
  have l1 := l1 h0
  have hfu := h.fuel
  have hln := h.len
  refine ⟨h.good.inst r, by rw [List.length_drop]; omega, by rw [List.length_drop]; omega, ?_, ⟨S2, h2, fun k hk => (s2 k hk).elim (hs k) fun hge => .inr (Nat.le_trans h.sx hge)⟩, h.fp.trans f2 hs', h.sz, Nat.le_trans h.sx f2.size, fun W hW => hv W (h.bs W hW), ?_, h.bl, h.sl⟩
  · have hg := h.go
    rw [feedQ_step, if_neg hne, if_neg (by omega), if_neg (by omega)] at hg
    exact hg
  · exact h.b1 hs f2

set_option maxRecDepth 100000 in
set_option maxHeartbeats 8000000 in
theorem feed_any (h : Pq q p N E w S) (hg : E.good) (hN : N < 1000000000) {bV : Value} {b : List UInt8} (hb : Bs w bV b) (hl : b.length ≤ 90000) (hr : E.rest.length ≤ 90000) :
    Calls Tryz.prog 13 #[.pointer (some ⟨q, 0, none⟩), bV] w fun e w' => e = .returned (.int .i64 ((E.feed b).2 : Int)) ∧ Turn (Pq q p N (E.feed b).1) S w w' := by
  have hpq := h
  have hlt := (Wd.pq _ _ _ _).lt h
  obtain ⟨a, LV, hlv, bs, bq, bu, bb, vR, S1, S2, hp, hPS⟩ := h
  obtain ⟨c0, _, _, _, _, _, _, _, c8, c9, _⟩ := hp.cells
  by_cases her : E.err = 0
  · have hfe : E.feed b = feedQ (E.rest ++ b).length E (E.rest ++ b) := by unfold Qe.feed; rw [if_neg (by omega)]
    rw [hfe]
    have c9' : w.cell? ⟨q, 9, none⟩ = some (.int .i64 0) := by
      have e : (qcOf N E (blkF E.op E.K) a LV).er = 0 := her
      rw [e] at c9
      exact c9
    have hbs : Bs w vR E.rest := hp.bytes
    have bA := (Below.refl w.heap.size w).alloc (Nat.le_refl _) (.cells #[vR, bV] 23)
    have ccA : Cc (w.alloc (.cells #[vR, bV] 23)) w.heap.size vR bV := heap_alloc_last w _
    obtain ⟨A1, n1, k1, hvR⟩ : ∃ A1 n1 k1, vR = .slice A1 n1 k1 := by obtain ⟨A, n, c, e, _⟩ := hbs.open_; exact ⟨A, n, c, e⟩
    obtain ⟨A2, n2, k2, hbV⟩ : ∃ A2 n2 k2, bV = .slice A2 n2 k2 := by obtain ⟨A, n, c, e, _⟩ := hb.open_; exact ⟨A, n, c, e⟩
    have HCON := Bx.mk (concat_any ccA (Rd.keep hbs bA) (Rd.keep hb bA) (by omega) (by omega))
    obtain ⟨wA, hwA⟩ : ∃ wA, w.alloc (.cells #[vR, bV] 23) = wA := ⟨_, rfl⟩
    rw [hwA] at bA HCON
    obtain ⟨l0, hl0⟩ : ∃ l0, E.rest ++ b = l0 := ⟨_, rfl⟩
    rw [hl0] at HCON ⊢
    have hl0l : l0.length ≤ 200000 := by rw [← hl0, List.length_append]; omega
    have HSTART : Bx (∀ (v0 : Value) (w1 : World), OwB w1 wA.heap.size v0 l0 → Below wA.heap.size wA w1 → FdR q p N E l0 v0 S w w1 l0.length E l0 v0 w1) := ⟨fun v0 w1 ho hb1 =>
      have hbw : Below w.heap.size w w1 := bA.trans (hb1.mono bA.size)
      ⟨hg, Nat.le_refl _, hl0l, rfl, ⟨S, (Wd.pq _ _ _ _).keep hpq hbw, fun k hk => .inl hk⟩, Fp.of_below hbw, hbw.size, Nat.le_refl _, fun W hW => hW, ho.mono bA.size, fun k hk => ho.lt hk, hlt⟩⟩
    have HN := Bx.mk hN
    subst hvR
    subst hbV
    clear hpq hp hPS hlv hg hN hb hl hr her hfe hbs bA ccA hl0 hl0l hlt c9
    go_enter Tryz.func13, Tryz.ntmps13
    go_wp2_with (go_at_call 34; refine HCON.out.mono ?_; rintro e w1 ⟨v0, rfl, ho, hb1⟩; have HS0 := Bx.mk (HSTART.out v0 w1 ho hb1); clear ho hb1)
    clear c0 c8 c9' hwA HSTART HCON
    go_loopg [5] l0.length (fun gk s5 wx => ∃ (E' : Qe) (r : List UInt8), Bx (FdR q p N E l0 v0 S w w1 gk E' r s5 wx))
    case atStart => exact ⟨E, l0, HS0⟩
    case round =>
      obtain ⟨E', r, HR⟩ := hrel
      clear HS0
      have hbr := HR.out.bs wr HR.out.b0.bs
      have hlen := fun ty W => hbr.run_len ty W
      have HBR := Bx.mk hbr
      obtain ⟨L, hL⟩ : ∃ L, r.length = L := ⟨_, rfl⟩
      rw [hL] at hlen
      have HL := Bx.mk hL
      have HQ := Bx.mk HR.out.pq
      have HCLONE := Bx.mk (bclone_any hbr (by have := HR.out.len; omega))
      obtain ⟨Sx, hx, hsx⟩ := HQ.out
      have hx0 := hx
      obtain ⟨ax, LVx, hlvx, bsx, bqx, bux, bbx, vRx, S1x, S2x, hpx, _⟩ := hx0
      obtain ⟨c0, _⟩ := hpx.cells
      clear hpx hlvx
      by_cases h0 : L = 0
      · have hd : decide (0 < L) = false := decide_eq_false (by omega)
        have hr0 : r = [] := List.eq_nil_of_length_eq_zero (by omega)
        have HGO : Bx (feedQ l0.length E l0 = (E'.setRest r, 0)) := ⟨by rw [← HR.out.go, hr0, feedQ_nil]⟩
        clear hbr hL h0 hr0 hx
        go_wp2_with (go_at_call 36; refine HCLONE.out.mono ?_; rintro e w2 ⟨v2, rfl, ho2, hb2⟩; obtain ⟨vA, vn, vc, rfl⟩ := ho2.shape; obtain ⟨f8, ⟨x8, c8⟩, ht⟩ := HR.out.ends ho2 hb2; have HT := Bx.mk ht; clear ht ho2 hb2)
        go_ret
        rw [HGO.out]
        exact ⟨rfl, HT.out⟩
      · have hd : decide (0 < L) = true := decide_eq_true (by omega)
        have hne : r ≠ [] := fun e => by rw [e] at hL; simp at hL; omega
        have HNE := Bx.mk hne
        cases gk with
        | zero => exact absurd HR.out.fuel (by omega)
        | succ n =>
          have hinst := instruction_any hx HR.out.good HN.out hbr (by omega) (by have := HR.out.len; omega)
          obtain ⟨l1, l2, l3, l4⟩ := instQ_len E' r
          have HX := Bx.mk (And.intro hx hsx)
          have HGO := Bx.mk HR.out.go
          rw [feedQ_step, if_neg hne] at HGO
          obtain ⟨m, hm⟩ : ∃ m, (instQ E' r).1 = m := ⟨_, rfl⟩
          obtain ⟨er, her⟩ : ∃ er, (instQ E' r).2.1 = er := ⟨_, rfl⟩
          rw [hm, her] at hinst HGO
          rw [her] at l1 l2 l4
          rw [hm] at l1 l3
          have HM := Bx.mk (And.intro hm her)
          obtain ⟨MM, hMM⟩ := letter m
          obtain ⟨RR, hRR⟩ := letter er
          rw [hMM, hRR] at hinst
          have HINST := Bx.mk hinst
          by_cases h20 : er = 20
          · have hd1 : (RR == 20) = true := by rw [beq_iff_eq]; omega
            have HE := Bx.mk (l4 h20)
            have HGO2 := HGO.out
            rw [if_pos h20, HE.out] at HGO2
            have HG2 := Bx.mk HGO2
            clear hinst hx hsx hbr hL h0 hne l1 l2 l3 l4 hm her hMM hRR h20 HGO2 HGO
            go_wp2_with (first
              | (go_at_call 35; refine HINST.out.mono ?_; rintro e w2 ⟨rfl, ht2⟩; have HR2 := Bx.mk (HR.out.same HX.out.1 HX.out.2 (by rw [HE.out] at ht2; exact ht2)); clear ht2)
              | (go_at_call 36; refine (bclone_any (HR2.out.bs _ HR2.out.b0.bs) (by have := HR2.out.len; omega)).mono ?_; rintro e w3 ⟨v3, rfl, ho3, hb3⟩; obtain ⟨vA, vn, vc, rfl⟩ := ho3.shape; obtain ⟨f8, ⟨x8, c8⟩, ht⟩ := HR2.out.ends ho3 hb3; have HT := Bx.mk ht; clear ht ho3 hb3))
            go_ret
            rw [← HG2.out]
            exact ⟨rfl, HT.out⟩
          · have hd1 : (RR == 20) = false := by rw [beq_eq_false_iff_ne]; omega
            by_cases hz : er = 0
            · have hd2 : (RR != 0) = false := by rw [bne_eq_false_iff_eq]; omega
              have l1 := l1 hz
              obtain ⟨v4, hfrom, hbs4⟩ := hbr.from_ MM (by omega) (by omega)
              have hmm : MM.toNat = m := by omega
              rw [hmm] at hbs4
              have HB4 := Bx.mk hbs4
              have HZ : Bx ((instQ E' r).2.1 = 0) := ⟨by rw [her]; exact hz⟩
              obtain ⟨A4, n4, c4, hv4⟩ : ∃ A4 n4 c4, v4 = .slice A4 n4 c4 := by obtain ⟨A, n, c, e, _⟩ := (hbs4 wr hbr).open_; exact ⟨A, n, c, e⟩
              subst hv4
              clear hinst hx hsx hbr hL h0 hne l1 l2 l3 l4 hm her hMM hRR h20 hz hbs4 HGO hmm
              go_wp2_with (first
                | (go_at_call 35; refine HINST.out.mono ?_; rintro e w2 ⟨rfl, ht2⟩; have HR2 := Bx.mk (HR.out.next HX.out.1 HX.out.2 HNE.out HZ.out ht2 (v2 := .slice A4 n4 c4) (by rw [HM.out.1]; exact HB4.out)); clear ht2))
              go_roundg n
              case measure => omega
              case rel => exact ⟨_, _, HR2⟩
            · have hd2 : (RR != 0) = true := by rw [bne_iff_ne]; omega
              have HGO2 := HGO.out
              rw [if_neg h20, if_pos hz] at HGO2
              have HG2 := Bx.mk HGO2
              have HRR := Bx.mk hRR
              clear hinst hx hsx hbr hL h0 hne l1 l2 l3 l4 hm her hMM h20 hz HGO2 HGO hRR
              go_wp2_with (first
                | (go_at_call 35; refine HINST.out.mono ?_; rintro e w2 ⟨rfl, ht2⟩; obtain ⟨f8, ⟨x8, c8⟩, f9, ⟨x9, c9⟩, ht⟩ := HR.out.fails HX.out.1 HX.out.2 ht2 er; rw [HRR.out] at ht; have HT := Bx.mk ht; clear ht ht2))
              go_ret
              rw [← HG2.out]
              exact ⟨by rw [HRR.out]; rfl, HT.out⟩
  · have hfe : E.feed b = (E, E.err) := by unfold Qe.feed; rw [if_pos her]
    have HT : Bx (Turn (Pq q p N E) S w w) := ⟨(Wd.pq _ _ _ _).turned hpq (Below.refl _ _)⟩
    rw [hfe]
    have c9' : w.cell? ⟨q, 9, none⟩ = some (.int .i64 (E.err : Int)) := c9
    obtain ⟨er, hER⟩ : ∃ er, E.err = er := ⟨_, rfl⟩
    rw [hER] at c9' her
    obtain ⟨RR, hRR⟩ := letter er
    rw [hRR] at c9'
    have hd : (RR != 0) = true := by rw [bne_iff_ne]; omega
    have HRR : Bx (((E.err : Nat) : Int) = RR) := ⟨by rw [hER]; exact hRR⟩
    clear hpq hp hPS hlv hg hN hb hl hr her hfe hlt c9 hER hRR
    go_enter Tryz.func13, Tryz.ntmps13
    go_wp2_with fail
    go_ret
    exact ⟨by rw [HRR.out]; rfl, HT.out⟩
end
end Go.Proofs.YtebakjdeighdnaaGreat
