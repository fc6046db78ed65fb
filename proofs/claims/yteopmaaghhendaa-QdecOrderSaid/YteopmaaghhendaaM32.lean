/-
  Texts put together: QoC, QoD, QoE.
-/
import Derived.Test.YteopmaaghhendaaM25
import Derived.Test.YteopmaaghhendaaM27
import Derived.Test.YteopmaaghhendaaM16
import Derived.Test.YteopmaaghhendaaM17

/-
  A section's beginning, as the program reads it: whether its entries have come or not.
-/
namespace Go.Proofs.Yteopmaaghhendaa
open Go.RowKit Go.Maps
set_option linter.unusedVariables false

theorem qrd_head {c m tot : Nat} (hm : m ≤ 1000000) (hc : c ≤ 1000000) (h1 : c ≤ tot + m) (h2 : c ≠ 0 → m ≠ 0 ∧ tot + m < c + 2 * m) (r : List UInt8) :
    qrd (qpre c c m ++ r) tot m = ((c : Int), (c : Int), ((qpre c c m).length : Int), 0) := by
  have hq : qpre c c m = pre 0 8 (ecN c m) ++ [0] := by
    unfold qpre
    rw [if_pos (Nat.le_refl _), Nat.sub_self]
    rfl
  have he : ecN c m ≤ 3000000 := by
    unfold ecN
    split
    · omega
    · rename_i h
      have := Nat.mod_lt c (show 0 < 2 * m by omega)
      omega
  have hr := rp_pre 0 8 (ecN c m) (by decide) (by decide) (by omega) ([0] ++ r)
  rw [if_pos (by unfold maxVar; omega)] at hr
  have hd : dcN (ecN c m) tot m = some c := by
    by_cases h0 : c = 0
    · subst h0
      rfl
    · obtain ⟨a, b⟩ := h2 h0
      exact dcN_ecN a h0 h1 b
  obtain ⟨L, hL⟩ : ∃ L, (pre 0 8 (ecN c m)).length = L := ⟨_, rfl⟩
  have hdrop : (pre 0 8 (ecN c m) ++ ([0] ++ r)).drop L = [0] ++ r := List.drop_left' hL
  have hget : (pre 0 8 (ecN c m) ++ ([0] ++ r)).getD L 0 = 0 := by
    rw [List.getD_eq_getElem?_getD, List.getElem?_append_right (by omega), hL, Nat.sub_self]
    rfl
  have h7 : rp 7 ([0] ++ r) = (0, 1, 0) := rfl
  rw [hL] at hr
  have hlen : ((qpre c c m).length : Int) = (L : Int) + 1 := by
    rw [hq, List.length_append, hL]
    rfl
  rw [hlen, hq, List.append_assoc]
  unfold qrd
  rw [hr]
  simp only [Int.toNat_natCast, hdrop, h7, hd, hget]
  have hb : baseN c 0 0 = some c := by
    unfold baseN
    rw [if_neg (by decide)]
    unfold sumN
    rw [if_pos (by omega)]
    rfl
  simp only [ne_eq, not_true, if_false, hb, show (0 : UInt8).toNat / 128 = 0 from rfl, show Int.toNat 0 = 0 from rfl]
end Go.Proofs.Yteopmaaghhendaa

/-
  With nothing known no entry is given up: what stands while a section is written stands behind it.
-/
namespace Go.Proofs.Yteopmaaghhendaa
open Go.RowKit
set_option linter.unusedVariables false

theorem insd_keep0 {cap : Nat} {a : Qa} (h : QInv cap a) {op : List Qs} {f : Fd} (hr : roomQ op 0 a.T f a.u = true) : ∀ i g, a.T.has i g → (a.T.add f).has i g := fun i g hg => by
  obtain ⟨_, h1, h2⟩ := roomQ_size hr
  have hc : fsz f + 32 ≤ a.T.cap := by omega
  exact has_add h.gq.len hc hg (roomGo_keep hc a.T.l a.T.first h2 i (by unfold pinQ; simp) hg.1 hg.lt)
theorem qstep_keep0 {cap : Nat} {a : Qa} (h : QInv cap a) (op : List Qs) (free : Bool) (f : Fd) : ∀ i g, a.T.has i g → (qstep op 0 free a f).T.has i g := fun i g hg => by
  unfold qstep
  split
  · exact hg
  · split
    · exact hg
    · split
      · rename_i hr
        simp only [Bool.and_eq_true] at hr
        have := insd_keep0 h hr.2 i g hg
        split
        · exact this
        · exact this
      · exact hg
theorem qrun_keep0 {cap : Nat} (op : List Qs) (free : Bool) : ∀ (l : List Fd) {a : Qa}, QInv cap a → ∀ i g, a.T.has i g → (qrun op 0 free l a).T.has i g
  | [], a, h, i, g, hg => hg
  | f :: l, a, h, i, g, hg => qrun_keep0 op free l (h.step op 0 free f).1 i g (qstep_keep0 h op free f i g hg)
/-- Lines that were read are read from any table that still has the entries. -/
theorem RdL.mono {T T' : Tab} {c : Nat} {b b' : List UInt8} {f : Fd} (hT : ∀ i g, T.has i g → T'.has i g) (h : RdL T c b f b') : RdL T' c b f b' := by
  rcases h with h | ⟨h1, h2, i, m, hr, hi, hh, hm, hb⟩ | h | h
  · exact .inl h
  · exact .inr (.inl ⟨h1, h2, i, m, hr, hi, hT _ _ hh, hm, hb⟩)
  · exact .inr (.inr (.inl h))
  · exact .inr (.inr (.inr h))
theorem RdLs.mono {T T' : Tab} {c : Nat} (hT : ∀ i g, T.has i g → T'.has i g) : ∀ {l : List Fd} {b : List UInt8}, RdLs T c b l → RdLs T' c b l
  | [], b, h => h
  | f :: l, b, h => by
    obtain ⟨hb, b', h1, h2, h3⟩ := h
    exact ⟨hb, b', h1.mono hT, h2, RdLs.mono hT h3⟩
end Go.Proofs.Yteopmaaghhendaa

/-
  Instructions, section by section: the program's decoder is led to the document's encoder's table.
-/
namespace Go.Proofs.Yteopmaaghhendaa
open Go.RowKit
set_option linter.unusedVariables false

theorem feed_feeds {X : Qr} (hb : X.br = false) (hr : X.rest = []) (hn : X.nm = none) {n : Nat} {T' : Tab} {b : List UInt8} (h : Feeds X.mx n X.T b T') : X.feed b = ({ X with T := T' }, 0) := by
  obtain ⟨T, mx, bk, wl, nm, rest, br, says, told⟩ := X
  dsimp only at hb hr hn h
  subst hb hr hn
  have hf := feeds_feedR n h
  unfold Qr.feed
  simp only [Bool.false_eq_true, if_false, List.nil_append, hf]
theorem feed_more {X : Qr} (hb : X.br = false) (hr : X.rest = []) (hn : X.nm = none) {n : Nat} {T1 T2 : Tab} {b d : List UInt8} (h1 : X.feed b = ({ X with T := T1 }, 0)) (h : Feeds X.mx n T1 d T2) : X.feed (b ++ d) = ({ X with T := T2 }, 0) := by
  have h2 := (X.feed_app hb b d).1 (by rw [h1]; exact hb)
  rw [h2, h1]
  exact feed_feeds (X := { X with T := T1 }) hb hr hn h
end Go.Proofs.Yteopmaaghhendaa
