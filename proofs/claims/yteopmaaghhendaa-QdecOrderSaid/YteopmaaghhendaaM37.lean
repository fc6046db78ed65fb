/-
  Texts put together: QoH.
-/
import Derived.Test.YteopmaaghhendaaM33
import Derived.Test.YteopmaaghhendaaM34

/-
  The whole run as functions of the lists: k sections written, what is kept of each; what the decoder is told of them at last.
-/
namespace Go.Proofs.Yteopmaaghhendaa
open Go.RowKit
set_option linter.unusedVariables false

def rE (ll : List (List Fd)) : Nat → Qe
  | 0 => Qe.new 4096 9
  | k + 1 => (rE ll k).enc k (ll.getD k [])
def rA (ll : List (List Fd)) (k : Nat) : Qa := (rE ll k).acc k (ll.getD k [])
def rC (ll : List (List Fd)) (k : Nat) : Nat := (rA ll k).c
def rS (ll : List (List Fd)) (k : Nat) : List UInt8 := (rE ll k).sec k (ll.getD k [])
def rI (ll : List (List Fd)) : Nat → List UInt8
  | 0 => []
  | k + 1 => rI ll k ++ (rA ll k).ins
/-- The first k lists are short and light. -/
def rOk (ll : List (List Fd)) (k : Nat) : Prop := ∀ i, i < k → (ll.getD i []).length ≤ 6 ∧ ∀ f ∈ ll.getD i [], f.1.size ≤ 4000 ∧ f.2.size ≤ 4000
/-- What is told of j sections. -/
def aW (c : Nat → Nat) : Nat → List UInt8
  | 0 => []
  | k + 1 => if 0 < c k then aW c k ++ pre 128 7 k else aW c k
def mW (c : Nat → Nat) : Nat → Nat
  | 0 => 0
  | k + 1 => if 0 < c k then max (mW c k) (c k) else mW c k
theorem aW_len (c : Nat → Nat) : ∀ k, (aW c k).length ≤ 11 * k
  | 0 => Nat.le_refl _
  | k + 1 => by
    have h := aW_len c k
    have hp := (pre_len 128 7 k).2
    unfold aW
    split
    · rw [List.length_append]; omega
    · omega
theorem mW_le (c : Nat → Nat) (M : Nat) : ∀ k, (∀ i, i < k → c i ≤ M) → mW c k ≤ M
  | 0, _ => Nat.zero_le _
  | k + 1, h => by
    have h1 := mW_le c M k fun i hi => h i (by omega)
    have h2 := h k (by omega)
    unfold mW
    split
    · exact Nat.max_le.2 ⟨h1, h2⟩
    · exact h1
/-- Both sides, behind k sections written. -/
structure Rk (ll : List (List Fd)) (k : Nat) : Prop where
  ro : Ro k (rE ll k)
  feed : (Qr.new 4096 9).feed (rI ll k) = ({ Qr.new 4096 9 with T := tabD (rE ll k) }, 0)
  secs : ∀ i, i < k → SecO (rE ll k).T (rC ll i) (rS ll i) (ll.getD i [])
  acks : acksW (rE ll k).op = aW (rC ll) k
  most : opMax 0 (rE ll k).op = mW (rC ll) k
  said : 0 < k → (rE ll k).said = true
theorem Rk.zero (ll : List (List Fd)) : Rk ll 0 := ⟨Ro.start 9, rfl, fun i h => (by omega), rfl, rfl, fun h => (by omega)⟩
theorem Rk.step {ll : List (List Fd)} {k : Nat} (h : Rk ll k) (hk : k ≤ 10) (hl : (ll.getD k []).length ≤ 6) (hz : ∀ f ∈ ll.getD k [], f.1.size ≤ 4000 ∧ f.2.size ≤ 4000) : Rk ll (k + 1) := by
  obtain ⟨⟨n, hf⟩, h2, h3, h4, h5⟩ := h.ro.enc hk _ hl hz
  have hsec := h.ro.sec hk _ hl hz
  have hop' : (rE ll (k + 1)).op = if 0 < rC ll k then (rE ll k).op ++ [⟨k, rC ll k, (rA ll k).u⟩] else (rE ll k).op := rfl
  have hgd := h.ro.good.enc k (by omega) (ll.getD k []) (by have := h.ro.len; omega) (fun f hf => by have := hz f hf; unfold fsz; omega)
  refine ⟨h5, ?_, ?_, ?_, ?_, fun _ => rfl⟩
  · exact feed_more (X := Qr.new 4096 9) rfl rfl rfl h.feed hf
  · intro i hi
    by_cases hik : i = k
    · subst hik
      exact hsec
    · exact (h.secs i (by omega)).mono h4 hgd.2.2.1
  · rw [hop']
    show _ = if 0 < rC ll k then aW (rC ll) k ++ pre 128 7 k else aW (rC ll) k
    split
    · unfold acksW
      rw [List.flatMap_append]
      have := h.acks
      unfold acksW at this
      rw [this]
      simp
    · exact h.acks
  · rw [hop']
    show _ = if 0 < rC ll k then max (mW (rC ll) k) (rC ll k) else mW (rC ll) k
    split
    · rw [opMax_snoc, h.most]
    · exact h.most
theorem rk_all {ll : List (List Fd)} {n : Nat} (hn : n ≤ 10) (h : rOk ll n) : ∀ k, k ≤ n → Rk ll k
  | 0, _ => Rk.zero ll
  | k + 1, hk => (rk_all hn h k (by omega)).step (by omega) (h k (by omega)).1 (h k (by omega)).2
theorem Rk.tabD {ll : List (List Fd)} {k : Nat} (h : Rk ll k) (hk : 0 < k) : tabD (rE ll k) = (rE ll k).T := by
  unfold Go.Proofs.Yteopmaaghhendaa.tabD
  rw [if_pos (h.said hk)]
theorem Rk.cle {ll : List (List Fd)} {k : Nat} (h : Rk ll k) (i : Nat) (hi : i < k) : rC ll i ≤ (rE ll k).T.tot := by
  obtain ⟨_, _, _, h3⟩ := h.secs i hi
  exact h3
theorem Rk.tot {ll : List (List Fd)} {k : Nat} (h : Rk ll k) (hk : k ≤ 6) : (rE ll k).T.tot ≤ 36 := by
  have := h.ro.tot
  omega
theorem Rk.tabD_tot {ll : List (List Fd)} {k : Nat} (h : Rk ll k) : (Go.Proofs.Yteopmaaghhendaa.tabD (rE ll k)).tot = (rE ll k).T.tot := by
  unfold Go.Proofs.Yteopmaaghhendaa.tabD
  split
  · rfl
  · rename_i hs
    exact (h.ro.said0 (by simpa using hs)).2.symm
/-- What is sent at last is what the encoder takes. -/
theorem Rk.sg {ll : List (List Fd)} {k : Nat} (h : Rk ll k) (hk : k ≤ 6) : Sg ((rE ll k).setRest (sendW (aW (rC ll) k) (mW (rC ll) k) (rE ll k).T.tot)) := by
  have ht := h.tot hk
  refine ⟨h.ro.err, ?_, ?_, ?_, ?_, ?_⟩
  · show sendW _ _ _ = sendW (acksW (rE ll k).op) (opMax (rE ll k).K (rE ll k).op) (rE ll k).T.tot
    rw [h.ro.K, h.acks, h.most]
  · have := h.ro.len
    show (rE ll k).op.length ≤ 64
    omega
  · intro x hx
    have := h.ro.small x hx
    omega
  · show (rE ll k).T.tot ≤ 60
    omega
  · show opMax (rE ll k).K (rE ll k).op ≤ (rE ll k).T.tot
    rw [h.ro.K, h.most]
    exact mW_le _ _ _ fun i hi => h.cle i hi

/-! ### the decoder, ahead of its instructions -/
/-- Which section comes as the i-th. -/
def tK (n t i : Nat) : Nat := (i + t) % n
theorem tK_eq {n t i : Nat} (h : i < n) : tK n t i = if i + t % n < n then i + t % n else i + t % n - n := by
  have ht := Nat.mod_lt t (show 0 < n by omega)
  unfold tK
  rw [Nat.add_mod, Nat.mod_eq_of_lt h]
  split
  · rename_i h1
    exact Nat.mod_eq_of_lt h1
  · rename_i h1
    rw [Nat.mod_eq_sub_mod (by omega), Nat.mod_eq_of_lt (by omega)]
theorem tK_lt {n t i : Nat} (h : i < n) : tK n t i < n := Nat.mod_lt _ (by omega)
theorem tK_ne {n t i j : Nat} (hi : i < n) (hj : j < i) : tK n t i ≠ tK n t j := by
  have ht := Nat.mod_lt t (show 0 < n by omega)
  rw [tK_eq hi, tK_eq (show j < n by omega)]
  split <;> split <;> omega
def wl2 (c : Nat → Nat) (n t : Nat) : Nat → List Nat
  | 0 => []
  | i + 1 => if 0 < c (tK n t i) then tK n t i :: wl2 c n t i else wl2 c n t i
theorem wl2_mem {c : Nat → Nat} {n t : Nat} : ∀ (i : Nat), ∀ x ∈ wl2 c n t i, ∃ j, j < i ∧ x = tK n t j
  | 0, x, h => by cases h
  | i + 1, x, h => by
    unfold wl2 at h
    split at h
    · rcases List.mem_cons.1 h with rfl | h
      · exact ⟨i, by omega, rfl⟩
      · obtain ⟨j, h1, h2⟩ := wl2_mem i x h
        exact ⟨j, by omega, h2⟩
    · obtain ⟨j, h1, h2⟩ := wl2_mem i x h
      exact ⟨j, by omega, h2⟩
theorem wl2_not {c : Nat → Nat} {n t i : Nat} (h : i < n) : tK n t i ∉ wl2 c n t i := fun hm => by
  obtain ⟨j, h1, h2⟩ := wl2_mem i _ hm
  exact tK_ne h h1 h2
theorem wl2_len (c : Nat → Nat) (n t : Nat) : ∀ i, (wl2 c n t i).length ≤ i
  | 0 => Nat.le_refl _
  | i + 1 => by
    have := wl2_len c n t i
    unfold wl2
    split
    · rw [List.length_cons]; omega
    · omega
theorem wl2_nodup (c : Nat → Nat) (n t : Nat) : ∀ i, i ≤ n → (wl2 c n t i).Nodup
  | 0, _ => List.nodup_nil
  | i + 1, h => by
    have h1 := wl2_nodup c n t i (by omega)
    unfold wl2
    split
    · exact List.nodup_cons.2 ⟨wl2_not (by omega), h1⟩
    · exact h1
/-- Behind i sections that came ahead. -/
def x2 (c : Nat → Nat) (n t i : Nat) : Qr := { Qr.new 4096 9 with wl := wl2 c n t i }
theorem x2_zero (c : Nat → Nat) (n t : Nat) : Qr.new 4096 9 = x2 c n t 0 := rfl
theorem x2_wait {c : Nat → Nat} {n t i : Nat} (h : i < n) (hn : n ≤ 6) (hc : 0 < c (tK n t i)) : (x2 c n t i).wait (tK n t i) = (x2 c n t (i + 1), 27) ∧ (wl2 c n t (i + 1)).length = (wl2 c n t i).length + 1 := by
  have hl := wl2_len c n t i
  have hm : tK n t i ∉ (x2 c n t i).wl := wl2_not h
  have hb : ¬ (x2 c n t i).bk ≤ (x2 c n t i).wl.length := by
    show ¬ 9 ≤ (wl2 c n t i).length
    omega
  have e : wl2 c n t (i + 1) = tK n t i :: wl2 c n t i := by
    show (if 0 < c (tK n t i) then _ else _) = _
    rw [if_pos hc]
  refine ⟨?_, by rw [e]; rfl⟩
  unfold Qr.wait
  rw [if_neg hm, if_neg hb]
  unfold x2
  rw [e]
theorem x2_read {c : Nat → Nat} {n t i : Nat} (h : i < n) (hc : c (tK n t i) = 0) : (x2 c n t i).ack (tK n t i) 0 = x2 c n t (i + 1) ∧ (wl2 c n t (i + 1)).length = (wl2 c n t i).length := by
  have hm : tK n t i ∉ wl2 c n t i := wl2_not h
  have e : wl2 c n t (i + 1) = wl2 c n t i := by
    show (if 0 < c (tK n t i) then _ else _) = _
    rw [if_neg (by omega)]
  refine ⟨?_, by rw [e]⟩
  unfold Qr.ack x2
  rw [e]
  simp only [Nat.lt_irrefl, if_false, List.erase_of_not_mem hm]
/-! ### and behind them -/
theorem feed_wl {X : Qr} {b : List UInt8} {T : Tab} (h : X.feed b = ({ X with T := T }, 0)) (l : List Nat) : ({ X with wl := l } : Qr).feed b = ({ X with T := T, wl := l }, 0) := by
  have e1 := congrArg (fun p => p.1.T) h
  have e2 := congrArg (fun p => p.1.nm) h
  have e3 := congrArg (fun p => p.1.rest) h
  have e4 := congrArg (fun p => p.1.br) h
  have e5 := congrArg (fun p => p.2) h
  unfold Qr.feed at e1 e2 e3 e4 e5 ⊢
  cases hb : X.br with
  | true =>
    simp only [hb, if_true] at e5
    exact absurd e5 (by decide)
  | false =>
    simp only [hb, Bool.false_eq_true, if_false] at e1 e2 e3 e4 e5 ⊢
    rw [e1, e2, e3, e4]
    simp
def wl3 (c : Nat → Nat) (n t : Nat) : Nat → List Nat
  | 0 => wl2 c n t n
  | k + 1 => (wl3 c n t k).erase k
theorem wl3_ok (c : Nat → Nat) (n t : Nat) : ∀ k, k ≤ n → (wl3 c n t k).Nodup ∧ ∀ x ∈ wl3 c n t k, k ≤ x ∧ x < n
  | 0, _ => ⟨wl2_nodup c n t n (Nat.le_refl _), fun x hx => by
      obtain ⟨j, h1, rfl⟩ := wl2_mem n x hx
      exact ⟨Nat.zero_le _, tK_lt h1⟩⟩
  | k + 1, h => by
    obtain ⟨h1, h2⟩ := wl3_ok c n t k (by omega)
    refine ⟨h1.erase k, fun x hx => ?_⟩
    obtain ⟨h3, h4⟩ := (h1.mem_erase_iff).1 hx
    have := h2 x h4
    omega
theorem wl3_end (c : Nat → Nat) (n t : Nat) : wl3 c n t n = [] := by
  cases h : wl3 c n t n with
  | nil => rfl
  | cons x l =>
    have := (wl3_ok c n t n (Nat.le_refl _)).2 x (by rw [h]; exact List.mem_cons_self)
    omega
/-- Behind the instructions, and k sections read. -/
def x3 (T : Tab) (c : Nat → Nat) (n t k : Nat) : Qr := ⟨T, 4096, 9, wl3 c n t k, none, [], false, aW c k, mW c k⟩
theorem x3_step (T : Tab) (c : Nat → Nat) (n t k : Nat) : (x3 T c n t k).ack k (c k) = x3 T c n t (k + 1) := rfl
theorem x3_feed {ll : List (List Fd)} {n : Nat} (h : Rk ll n) (t : Nat) : (x2 (rC ll) n t n).feed (rI ll n) = (x3 (tabD (rE ll n)) (rC ll) n t 0, 0) := feed_wl (X := Qr.new 4096 9) h.feed (wl2 (rC ll) n t n)
theorem x3_send (T : Tab) (c : Nat → Nat) (n t k : Nat) : (x3 T c n t k).send = sendW (aW c k) (mW c k) T.tot := by
  unfold Qr.send sendW x3
  dsimp only
  split
  · rfl
  · rw [List.append_nil]
end Go.Proofs.Yteopmaaghhendaa
