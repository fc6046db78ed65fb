/-
  Texts put together: StJ, QqA.
-/
import Derived.Test.YtebakjdeighdnaaM13
import Derived.Test.YtebakjdeighdnaaM14

/-
  Contracts of static.FindH2, static.FindH3.
-/
namespace Go.Proofs.Ytebakjdeighdnaa
open Go.RowKit Go.Maps
set_option linter.unusedVariables false

theorem t2_sized : ∀ f ∈ T2, SizedS f := fun f hf => by have := t2_size f hf; unfold SizedS maxLen; omega
theorem t3_sized : ∀ f ∈ T3, SizedS f := fun f hf => by have := t3_size f hf; unfold SizedS maxLen; omega

theorem findP_eq (l : List Fd) (fr : Nat) (f : Fd) : ∃ (n : Int) (p q : Bool), findP l fr f = .tuple #[.int .u64 n, .bool p, .bool q] := by
  unfold findP
  split
  · exact ⟨_, _, _, rfl⟩
  · exact ⟨_, _, _, rfl⟩

set_option maxRecDepth 100000 in
set_option maxHeartbeats 1000000 in
theorem findH3_any (f : Fd) (w : World) (hf : SizedS f) :
    Calls Try.prog 22 #[.agg #[.string f.1, .string f.2]] w fun e w' => e = .returned (findP T3 0 f) ∧ Below w.heap.size w w' := by
  have HSF := Bx.mk hf
  obtain ⟨f1, f2⟩ := f
  have HB1 := Bx.mk ((Below.refl w.heap.size w).alloc (Nat.le_refl _) (.cells #[.string f1, .string f2] 35))
  have HF1 := Bx.mk (Fb.new 35 w (f1, f2))
  obtain ⟨hca, hcb⟩ := HF1.out.cells
  clear hf
  obtain ⟨n, p, q, hr⟩ := findP_eq T3 0 (f1, f2)
  have HR := Bx.mk hr
  rw [hr]
  clear hr
  go_enter Try.func22, Try.ntmps22
  go_wp2
  go_region_with (first
    | (go_at_call 40; refine (rows3_any _).mono ?_; rintro e w3 ⟨v3, rfl, hv3, hb3⟩; obtain ⟨hca3, hcb3⟩ := (HF1.out.keep ((Below.refl _ _).drew.trans hb3)).cells)
    | (go_at_call 39; refine (sfind_any v3 T3 0 (f1, f2) _ hv3 (by rw [t3_len]; omega) t3_nodup t3_sized (by omega) HSF.out).mono ?_; rintro e w4 ⟨rfl, hb4⟩; rw [HR.out]))
  all_goals go_wp2
  all_goals go_ret3
  all_goals exact ⟨rfl, HB1.out.trans ((((Below.refl _ _).drew.trans hb3).mono HB1.out.size).trans (hb4.mono (Nat.le_trans HB1.out.size hb3.size)))⟩

end Go.Proofs.Ytebakjdeighdnaa

/-
  What the draft's field calls, over a section under way.
-/
namespace Go.Proofs.Ytebakjdeighdnaa
open Go.RowKit Go.Maps
set_option linter.unusedVariables false

theorem findP_S (l : List Fd) (f : Fd) : findP l 0 f = .tuple #[.int .u64 ((findS l f).1 : Int), .bool (findS l f).2.1, .bool (findS l f).2.2] := by
  unfold findP
  cases h : (findS l f).2.1 with
  | true => rw [if_pos rfl, Nat.zero_add]
  | false =>
    have : findS l f = (0, false, false) := by
      unfold findS at h ⊢
      split at h
      · cases h
      · split at h
        · cases h
        · rfl
    rw [this]
    rfl
theorem findS_lt3 (f : Fd) : (findS T3 f).1 < 18446744073709551616 := by
  cases h : (findS T3 f).2.1 with
  | true =>
    obtain ⟨hi, _⟩ := findS_name h
    have := t3_len
    omega
  | false =>
    have : findS T3 f = (0, false, false) := by
      unfold findS at h ⊢
      split at h
      · cases h
      · split at h
        · cases h
        · rfl
    rw [this]
    exact (by omega : (0 : Nat) < 18446744073709551616)
theorem insB_W (f : Fd) : insB (findS T3 f).1 (findS T3 f).2.1 f = insW f := rfl
theorem litB_W (f : Fd) : litB (findS T3 f).1 (findS T3 f).2.1 f = lineW 0 (litQ f) := by
  unfold litB litQ
  cases h : (findS T3 f).2.1 with
  | true =>
    unfold lineW
    simp
  | false =>
    unfold lineW
    simp
theorem litQ_k (f : Fd) : (litQ f).k ≠ 1 := by
  unfold litQ
  split
  · exact (by omega : (2 : Nat) ≠ 1)
  · exact (by omega : (3 : Nat) ≠ 1)
/-- A line that is told in full. -/
theorem zd_own {w : World} {B : Nat} {v : Value} {y : Ql} (h : OwB w B v (lineW 0 y)) (hk : y.k ≠ 1) : Ob (Zd [(y, v)]) w (fun k => v.ownBlock = some k) :=
  h.ob.map fun W hW z hz => by
    rw [List.mem_singleton.1 hz]
    exact ⟨h.shape, fun e => absurd e hk, fun _ => hW⟩
theorem pin_eq (op : List Qs) (K : Nat) (s c : Nat) (now : List Nat) : pinC K (cntU (op ++ [⟨s, c, now⟩])) = pinQ op K now := funext fun x => by
  unfold pinC pinQ
  congr 1
  have h : decide (0 < cntU (op ++ [(⟨s, c, now⟩ : Qs)]) x) = (op ++ [(⟨s, c, now⟩ : Qs)]).any (fun y => decide (x ∈ y.u)) := by
    cases hb : (op ++ [(⟨s, c, now⟩ : Qs)]).any (fun y => decide (x ∈ y.u)) with
    | true => exact decide_eq_true (cntU_pos.2 hb)
    | false => exact decide_eq_false fun hh => by rw [cntU_pos.1 hh] at hb; cases hb
  rw [h, List.any_append, Bool.or_comm]
  simp
theorem room_eq (op : List Qs) (K s c : Nat) (T : Tab) (f : Fd) (now : List Nat) : roomC K (cntU (op ++ [⟨s, c, now⟩])) T f = roomQ op K T f now := by
  unfold roomC roomQ
  rw [pin_eq]
section
variable {q p N N' s d : Nat} {E : Qe} {S : Nat → Prop} {w wx wy : World} {a a' : Qa} {e T : Nat → Prop}
theorem pdmayInsert (h : PqD q p N E s a wx e) (hgq : a.T.gq) (hop : E.op.length ≤ 100000) (f : Fd) (hf : fsz f ≤ 100000) :
    Calls Try.prog 25 #[.pointer (some ⟨q, 0, none⟩), .agg #[.string f.1, .string f.2]] wx fun r w' => r = .returned (.bool (roomQ E.op E.K a.T f a.u)) ∧ Below wx.heap.size wx w' := by
  obtain ⟨aa, LV, hlv, hraw⟩ := h
  rw [← room_eq E.op E.K s a.c a.T f a.u]
  exact mayInsert_any hraw rfl hgq (fun x => by have := cntU_le (E.op ++ [⟨s, a.c, a.u⟩]) x; rw [List.length_append, List.length_singleton] at this; omega) f hf
/-- May a section use a place? -/
theorem blkQ_draft (op : List Qs) (K s c : Nat) (u : List Nat) (x : Nat) : blkQ (op ++ [⟨s, c, u⟩]) K x = (blkQ op K x || (decide (s = x) && decide (K < c))) := by
  unfold blkQ
  rw [List.any_append]
  simp
theorem use_free (E : Qe) (s c : Nat) (u bl : List Nat) (i : Nat) (hinv : E.K < c → freeQ E.op E.K E.B s = true) (hb : c ≤ E.K → bl.length = manyQ E.op E.K E.op.length) :
    (decide (i < E.K) || decide (bl.length < E.B) || (blkF (E.op ++ [⟨s, c, u⟩]) E.K s).isSome) = (decide (i < E.K) || freeQ E.op E.K E.B s) := by
  rw [blkF_some, blkQ_draft]
  by_cases hc : E.K < c
  · rw [hinv hc]
    simp [hc]
  · rw [hb (by omega)]
    unfold freeQ
    simp [hc]
    cases decide (i < E.K) <;> cases blkQ E.op E.K s <;> simp
theorem pdmayUse (h : PqD q p N E s a wx e) (hs : okU s) {i : Nat} (hi : okU i) (hinv : E.K < a.c → freeQ E.op E.K E.B s = true) (hop : ∀ x ∈ E.op, x.s < 18446744073709551616) :
    Calls Try.prog 29 #[.pointer (some ⟨q, 0, none⟩), .int .u64 (s : Int), .int .u64 (i : Int)] wx fun r w' => r = .returned (.bool (decide (i < E.K) || freeQ E.op E.K E.B s)) ∧ Below wx.heap.size wx w' := by
  obtain ⟨aa, LV, hlv, hraw⟩ := h
  obtain ⟨bl, b1, b2, b3⟩ : ∃ bl : List Nat, bl.Nodup ∧ (∀ t, t ∈ bl ↔ blkQ (E.op ++ [⟨s, a.c, a.u⟩]) E.K t = true) ∧ (a.c ≤ E.K → bl.length = manyQ E.op E.K E.op.length) := by
    by_cases hc : E.K < a.c
    · obtain ⟨bl, b1, b2, _⟩ := many_keys (E.op ++ [⟨s, a.c, a.u⟩]) E.K
      exact ⟨bl, b1, b2, fun hh => by omega⟩
    · obtain ⟨bl, b1, b2, b3⟩ := many_keys E.op E.K
      refine ⟨bl, b1, fun t => ?_, fun _ => b3⟩
      rw [b2 t, blkQ_draft]
      simp [hc]
  have hok : ∀ t, blkQ (E.op ++ [⟨s, a.c, a.u⟩]) E.K t = true → okU t := fun t ht => by
    unfold blkQ at ht
    obtain ⟨x, hx, hh⟩ := List.any_eq_true.1 ht
    rw [Bool.and_eq_true] at hh
    have e1 := of_decide_eq_true hh.1
    rcases List.mem_append.1 hx with hx | hx
    · have := hop x hx
      unfold okU; omega
    · rw [List.mem_singleton.1 hx] at e1
      rw [← e1]; exact hs
  refine (mayUse_any hraw rfl b1 (fun t => ⟨fun ht => ⟨hok t ((b2 t).1 ht), by rw [blkF_some]; exact (b2 t).1 ht⟩, fun ht => (b2 t).2 (by rw [← blkF_some]; exact ht.2)⟩) hs hi).mono ?_
  rintro r w' ⟨rfl, hb⟩
  exact ⟨by rw [show (qcD N E s a aa LV).K = E.K from rfl, show (qcD N E s a aa LV).B = E.B from rfl, use_free E s a.c a.u bl i hinv b3], hb⟩
/-- An entry more. -/
theorem pdadd (h : PqD q p N E s a wx e) {v : Value} {f : Fd} (hv : Fs wx v [f]) (hs : ∀ g, v.ownBlock = some g → g < wx.heap.size ∧ ¬ e g) (ht : a.T.tot + 1 ≤ 1000000) (hz : fsz f ≤ 1000000) :
    Calls Try.prog 27 #[.pointer (some ⟨p, 0, none⟩), v] wx fun r w' => (∃ x, r = .returned x) ∧ Turn (PqD q p N E s (a.insd f)) e wx w' := by
  obtain ⟨aa, LV, hlv, bs, bq, bu, bb, vR, S1, S2, hp, hS⟩ := h
  refine (add_any hp.tb hv (fun g hg => ⟨(hs g hg).1, fun hh => (hs g hg).2 ((hS g).2 (.inl hh))⟩) (by show a.T.tot + 1 ≤ 1000000; exact ht) (by intro x hx; rw [List.mem_singleton.1 hx]; exact hz)).mono ?_
  rintro r w' ⟨rfl, htt⟩
  obtain ⟨e', x, s', f'⟩ := hp.tab htt
  exact ⟨⟨_, rfl⟩, e', ⟨aa, LV, hlv, x⟩, fun k hk => (s' k hk).imp (hS k).2 id, f'.mono fun k hk => (hS k).2 hk⟩
theorem pdcount (h : PqD q p N E s a wx e) : Calls Try.prog 26 #[.pointer (some ⟨p, 0, none⟩)] wx fun r w' => r = .returned (.int .u64 (a.T.tot : Int)) ∧ Below wx.heap.size wx w' := by
  obtain ⟨aa, LV, hlv, hraw⟩ := h
  obtain ⟨S1, h1⟩ := hraw.tb
  exact count_any h1
theorem pdfind (h : PqD q p N E s a wx e) (f : Fd) (hf : Sized f) : Calls Try.prog 24 #[.pointer (some ⟨p, 0, none⟩), .agg #[.string f.1, .string f.2]] wx fun r w' => r = .returned (find3 (findT a.T.l a.T.first f)) ∧ Below wx.heap.size wx w' := by
  obtain ⟨aa, LV, hlv, hraw⟩ := h
  obtain ⟨S1, h1⟩ := hraw.tb
  exact find_any h1 f hf
end
end Go.Proofs.Ytebakjdeighdnaa
