/-
  Texts put together: QoF, QoG.
-/
import Derived.Test.YteopmaaghhendaaM32
import Derived.Test.YteopmaaghhendaaM27
import Derived.Test.YteopmaaghhendaaM31

/-
  The document's encoder, k sections written, with no word of the other side: what is read of them.
-/
namespace Go.Proofs.Yteopmaaghhendaa
open Go.RowKit
set_option linter.unusedVariables false

/-- k sections were written, none is acknowledged. -/
structure Ro (k : Nat) (E : Qe) : Prop where
  good : E.good
  cap : E.T.cap = 4096
  K : E.K = 0
  rest : E.rest = []
  err : E.err = 0
  said0 : E.said = false → E.T.l = [] ∧ E.T.tot = 0
  tot : E.T.tot ≤ 6 * k
  small : ∀ x ∈ E.op, x.s < k
  len : E.op.length ≤ k
theorem Ro.start (B : Nat) : Ro 0 (Qe.new 4096 B) := ⟨Qe.good.new _ _, rfl, rfl, rfl, rfl, fun _ => ⟨rfl, rfl⟩, Nat.le_refl _, fun x hx => (by cases hx), Nat.le_refl _⟩
theorem Ro.enc {k : Nat} {E : Qe} (h : Ro k E) (hk : k ≤ 10) (l : List Fd) (hl : l.length ≤ 6) (hz : ∀ f ∈ l, f.1.size ≤ 4000 ∧ f.2.size ≤ 4000) :
    (∃ n, Feeds 4096 n (tabD E) (E.acc k l).ins (E.acc k l).T) ∧
    RdLs (E.acc k l).T (E.acc k l).c (linesW (E.acc k l).c (E.acc k l).all) l ∧
    (E.acc k l).c ≤ (E.acc k l).T.tot ∧
    (∀ i g, E.T.has i g → (E.acc k l).T.has i g) ∧
    Ro (k + 1) (E.enc k l) := by
  have hz' : ∀ f ∈ l, fsz f ≤ 40000 := fun f hf => by have := hz f hf; unfold fsz; omega
  have hop : E.op.length + 1 ≤ 100000 := by have := h.len; omega
  obtain ⟨g1, g2, g3, g4⟩ := h.good.enc k (by omega) l hop hz'
  have hi0 : QInv 4096 (⟨E.T, capW E.said E.T.cap, [], [], 0⟩ : Qa) := ⟨h.good.gq, h.cap, fun x hx => (by cases hx), fun i hi => (by cases hi), .inl rfl⟩
  obtain ⟨hi, hmap⟩ := QInv.run E.op E.K (freeQ E.op E.K E.B k) l hi0
  have hacc : E.acc k l = qrun E.op E.K (freeQ E.op E.K E.B k) l ⟨E.T, capW E.said E.T.cap, [], [], 0⟩ := rfl
  have hkeep := qrun_keep0 E.op (freeQ E.op E.K E.B k) l hi0
  rw [← hacc] at hi hmap
  rw [show qrun E.op 0 (freeQ E.op E.K E.B k) l ⟨E.T, capW E.said E.T.cap, [], [], 0⟩ = E.acc k l from by rw [hacc, h.K]] at hkeep
  simp only [List.map_nil, List.nil_append] at hmap
  have htot : (E.acc k l).T.tot ≤ 6 * (k + 1) := by
    have h1 : (E.enc k l).T.tot = (E.acc k l).T.tot := rfl
    have := h.tot
    omega
  obtain ⟨w1, w2⟩ := hi.window
  refine ⟨acc_feeds 4096 E k l (by rw [h.cap]; exact Nat.le_refl _) (Nat.le_refl _) h.said0, ?_, w1, hkeep, ?_⟩
  · have hr := linesW_rd (T := (E.acc k l).T) (u := (E.acc k l).u) (c := (E.acc k l).c) (by omega) (E.acc k l).all hi.ok (fun x hx => by
      have hm : x.f ∈ l := by rw [← hmap]; exact List.mem_map_of_mem hx
      have := hz _ hm
      omega)
    rw [hmap] at hr
    exact hr
  · have hop' : (E.enc k l).op = if 0 < (E.acc k l).c then E.op ++ [⟨k, (E.acc k l).c, (E.acc k l).u⟩] else E.op := rfl
    refine ⟨g1, g2.trans h.cap, h.K, h.rest, h.err, fun e => (by cases e), htot, ?_, ?_⟩
    · intro x hx
      rw [hop'] at hx
      split at hx
      · rcases List.mem_append.1 hx with hx | hx
        · have := h.small x hx; omega
        · rw [List.mem_singleton.1 hx]; exact Nat.lt_succ_self k
      · have := h.small x hx; omega
    · have := h.len
      rw [hop']
      split
      · rw [List.length_append]; simp; omega
      · omega
end Go.Proofs.Yteopmaaghhendaa

/-
  A section kept: read ahead of its entries, and behind them.
-/
namespace Go.Proofs.Yteopmaaghhendaa
open Go.RowKit
set_option linter.unusedVariables false

/-- The section b of the count c says the fields l, over a table that has its entries. -/
def SecO (T : Tab) (c : Nat) (b : List UInt8) (l : List Fd) : Prop := ∃ r, b = qpre c c 128 ++ r ∧ RdLs T c r l ∧ c ≤ T.tot
theorem SecO.mono {T T' : Tab} {c : Nat} {b : List UInt8} {l : List Fd} (h : SecO T c b l) (hT : ∀ i g, T.has i g → T'.has i g) (ht : T.tot ≤ T'.tot) : SecO T' c b l := by
  obtain ⟨r, e, h1, h2⟩ := h
  exact ⟨r, e, h1.mono hT, by omega⟩
theorem SecO.first {T : Tab} {c : Nat} {b : List UInt8} {l : List Fd} (h : SecO T c b l) : ∃ x r, b = x :: r ∧ (x ≠ 0 ↔ 0 < c) := by
  obtain ⟨r, e, _⟩ := h
  obtain ⟨x, y, h1, h2⟩ := qpre_head c r
  exact ⟨x, y, e.trans h1, h2⟩
/-- Its head, at any total near. -/
theorem SecO.head {T : Tab} {c : Nat} {b : List UInt8} {l : List Fd} (h : SecO T c b l) (ht : T.tot ≤ 60) (tot : Nat) (htt : tot ≤ 60) : ∃ (n : Nat) (r : List UInt8), qrd b tot 128 = ((c : Int), (c : Int), (n : Int), 0) ∧ b.drop n = r ∧ RdLs T c r l ∧ n ≤ b.length := by
  obtain ⟨r, e, h1, h2⟩ := h
  subst e
  exact ⟨_, r, qrd_head (by omega) (by omega) (by omega) (fun _ => ⟨by omega, by omega⟩) r, List.drop_left' rfl, h1, by rw [List.length_append]; omega⟩
/-- Lines that name no entry are read over any table. -/
theorem RdL.none_ {T T' : Tab} {b b' : List UInt8} {f : Fd} (h : RdL T 0 b f b') : RdL T' 0 b f b' := by
  rcases h with h | ⟨_, _, i, m, _, hi, _⟩ | h | h
  · exact .inl h
  · omega
  · exact .inr (.inr (.inl h))
  · exact .inr (.inr (.inr h))
theorem RdLs.none_ {T T' : Tab} : ∀ {l : List Fd} {b : List UInt8}, RdLs T 0 b l → RdLs T' 0 b l
  | [], b, h => h
  | f :: l, b, h => by
    obtain ⟨hb, b', h1, h2, h3⟩ := h
    exact ⟨hb, b', h1.none_, h2, RdLs.none_ h3⟩
theorem SecO.read {T : Tab} {c : Nat} {b : List UInt8} {l : List Fd} (h : SecO T c b l) (ht : T.tot ≤ 60) (hl : l.length ≤ 64) : ∃ n : Nat, qrd b T.tot 128 = ((c : Int), (c : Int), (n : Int), 0) ∧ n ≤ b.length ∧ linesR T c c (b.drop n).length [] (b.drop n) = some l := by
  obtain ⟨n, r, h1, h2, h3, h4⟩ := h.head ht T.tot ht
  refine ⟨n, h1, h4, ?_⟩
  rw [h2]
  have := linesR_of l [] r.length r h3 (Nat.le_refl _) (by simpa using hl)
  rw [List.nil_append] at this
  exact this
theorem SecO.read0 {T T' : Tab} {b : List UInt8} {l : List Fd} (h : SecO T 0 b l) (ht : T.tot ≤ 60) (hl : l.length ≤ 64) (tot : Nat) (htt : tot ≤ 60) : ∃ n : Nat, qrd b tot 128 = (((0 : Nat) : Int), ((0 : Nat) : Int), (n : Int), 0) ∧ n ≤ b.length ∧ linesR T' 0 0 (b.drop n).length [] (b.drop n) = some l := by
  obtain ⟨n, r, h1, h2, h3, h4⟩ := h.head ht tot htt
  refine ⟨n, h1, h4, ?_⟩
  rw [h2]
  have := linesR_of l [] r.length r (h3.none_ (T' := T')) (Nat.le_refl _) (by simpa using hl)
  rw [List.nil_append] at this
  exact this
/-- The section just written. -/
theorem Ro.sec {k : Nat} {E : Qe} (h : Ro k E) (hk : k ≤ 10) (l : List Fd) (hl : l.length ≤ 6) (hz : ∀ f ∈ l, f.1.size ≤ 4000 ∧ f.2.size ≤ 4000) : SecO (E.enc k l).T (E.acc k l).c (E.sec k l) l := by
  obtain ⟨_, h2, h3, _⟩ := h.enc hk l hl hz
  exact ⟨_, by unfold Qe.sec; rw [h.cap], h2, h3⟩
end Go.Proofs.Yteopmaaghhendaa
