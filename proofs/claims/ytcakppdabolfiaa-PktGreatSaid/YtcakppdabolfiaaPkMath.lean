/-
  Packets as mathematics: how one is written, how one is read; what is written is read back.
-/
import Derived.Test.YtcakppdabolfiaaQfMath
namespace Go.Proofs.Ytcakppdabolfiaa
open Go.RowKit
set_option linter.unusedVariables false
set_option linter.unusedSimpArgs false

/-- What a packet holds. -/
structure PH where
  lo : Bool
  ty : Int
  ver : Nat
  dst : List UInt8
  src : List UInt8
  pn : Nat
  pl : Int
/-- Ahead of a packet's number. -/
def pkHead (h : PH) (n : Nat) : Option (List UInt8) :=
  if h.lo then
    (if 0 ≤ h.ty ∧ h.ty ≤ 3 ∧ h.dst.length ≤ 20 ∧ h.src.length ≤ 20 then some (UInt8.ofNat (192 + h.ty.toNat * 16 + (h.pl.toNat - 1)) :: (bes (h.ver : Int) 4 ++ (UInt8.ofNat h.dst.length :: (h.dst ++ (UInt8.ofNat h.src.length :: (h.src ++ varB ((h.pl.toNat + n : Nat) : Int))))))) else none)
  else (if h.dst.length = 8 then some (UInt8.ofNat (64 + (h.pl.toNat - 1)) :: h.dst) else none)
/-- A packet written. -/
def pkW (h : PH) (p : List UInt8) : Option (List UInt8) :=
  if 1 ≤ h.pl ∧ h.pl ≤ 4 ∧ h.pn < 256 ^ h.pl.toNat ∧ p.length ≤ 1200 then
    (pkHead h p.length).bind fun b => if (b ++ bes (h.pn : Int) h.pl.toNat ++ p).length ≤ 1200 then some (b ++ bes (h.pn : Int) h.pl.toNat ++ p) else none
  else none
/-- An id, with its length ahead. -/
def idQ (l : List UInt8) : Option (List UInt8 × List UInt8) :=
  match l with
  | [] => none
  | c :: t => if c.toNat ≤ 20 ∧ c.toNat ≤ t.length then some (t.take c.toNat, t.drop c.toNat) else none
/-- The first packet: what it holds, its payload, how many bytes it took. -/
def pkR (b : List UInt8) : Option (PH × List UInt8 × Nat) :=
  match b with
  | [] => none
  | c :: t =>
    if c.toNat / 64 % 2 = 0 then none
    else if c.toNat < 128 then
      (if c.toNat / 4 % 16 = 0 ∧ 8 + (c.toNat % 4 + 1) ≤ t.length then some (⟨false, 0, 0, t.take 8, [], rb ((t.drop 8).take (c.toNat % 4 + 1)), ((c.toNat % 4 + 1 : Nat) : Int)⟩, t.drop (8 + (c.toNat % 4 + 1)), b.length) else none)
    else if c.toNat / 4 % 4 = 0 ∧ 5 ≤ t.length then
      (idQ (t.drop 4)).bind fun d => (idQ d.2).bind fun s => (numQ s.2).bind fun n => if c.toNat % 4 + 1 ≤ n.1 ∧ n.1 ≤ n.2.length then
        some (⟨true, ((c.toNat / 16 % 4 : Nat) : Int), rb (t.take 4), d.1, s.1, rb (n.2.take (c.toNat % 4 + 1)), ((c.toNat % 4 + 1 : Nat) : Int)⟩, (n.2.take n.1).drop (c.toNat % 4 + 1), b.length - n.2.length + n.1) else none
    else none
theorem rbF_bes (v n : Nat) : rb (bes (v : Int) n) = v % 256 ^ n := rb_bes v n
theorem idQ_app (d rest : List UInt8) (h : d.length ≤ 20) : idQ (UInt8.ofNat d.length :: (d ++ rest)) = some (d, rest) := by
  have hn : (UInt8.ofNat d.length).toNat = d.length := by rw [UInt8.toNat_ofNat']; omega
  unfold idQ
  simp only
  rw [if_pos (by rw [hn, List.length_append]; omega), hn, List.take_left, List.drop_left]
/-- A long packet is read back, whatever stands behind. -/
theorem pkR_long (h : PH) (p w rest : List UInt8) (hw : pkW h p = some w) (hl : h.lo = true) (hv : h.ver < 4294967296) : pkR (w ++ rest) = some (h, p, w.length) := by
  obtain ⟨lo, ty, ver, dst, src, pn, pl⟩ := h
  simp only at hl hv
  subst hl
  unfold pkW at hw
  simp only at hw
  by_cases hc : 1 ≤ pl ∧ pl ≤ 4 ∧ pn < 256 ^ pl.toNat ∧ p.length ≤ 1200
  · rw [if_pos hc] at hw
    obtain ⟨c1, c2, c3, c4⟩ := hc
    unfold pkHead at hw
    simp only [if_true] at hw
    by_cases hd : 0 ≤ ty ∧ ty ≤ 3 ∧ dst.length ≤ 20 ∧ src.length ≤ 20
    · rw [if_pos hd] at hw
      obtain ⟨d1, d2, d3, d4⟩ := hd
      simp only [Option.bind_some] at hw
      obtain ⟨k, hk⟩ : ∃ k, pl.toNat = k := ⟨_, rfl⟩
      obtain ⟨t, ht⟩ : ∃ t, ty.toNat = t := ⟨_, rfl⟩
      rw [hk, ht] at hw
      rw [hk] at c3
      split at hw
      · rename_i hlen
        injection hw with hw
        subst hw
        have hcn : (UInt8.ofNat (192 + t * 16 + (k - 1))).toNat = 192 + t * 16 + (k - 1) := by rw [UInt8.toNat_ofNat']; omega
        have hb4 : (bes (ver : Int) 4).length = 4 := bes_len _ _
        have hbk : (bes (pn : Int) k).length = k := bes_len _ _
        obtain ⟨B4, hB4⟩ : ∃ B, bes (ver : Int) 4 = B := ⟨_, rfl⟩
        obtain ⟨BK, hBK⟩ : ∃ B, bes (pn : Int) k = B := ⟨_, rfl⟩
        have hver : rb B4 = ver := by rw [← hB4, rbF_bes]; omega
        have hpn : rb BK = pn := by rw [← hBK, rbF_bes, Nat.mod_eq_of_lt c3]
        rw [hB4] at hb4 hlen ⊢
        rw [hBK] at hbk hlen ⊢
        have hnq := numQ_varB (k + p.length) (by unfold mv; omega) (BK ++ (p ++ rest))
        unfold pkR
        simp only [List.cons_append, List.append_assoc]
        rw [hcn]
        have m1 : ¬ (192 + t * 16 + (k - 1)) / 64 % 2 = 0 := by omega
        have m2 : ¬ 192 + t * 16 + (k - 1) < 128 := by omega
        rw [if_neg m1, if_neg m2, if_pos ⟨by omega, by simp; omega⟩]
        rw [show (4 : Nat) = B4.length from hb4.symm, List.drop_left, List.take_left, hb4]
        rw [idQ_app dst _ d3]
        simp only [Option.bind_some]
        rw [idQ_app src _ d4]
        simp only [Option.bind_some]
        rw [hnq]
        simp only [Option.bind_some]
        have m3 : (192 + t * 16 + (k - 1)) % 4 + 1 = k := by omega
        have m4 : (192 + t * 16 + (k - 1)) / 16 % 4 = t := by omega
        rw [m3, m4, if_pos ⟨by omega, by simp; omega⟩]
        have e1 : (BK ++ (p ++ rest)).take k = BK := by rw [← hbk, List.take_left]
        have e2 : ((BK ++ (p ++ rest)).take (k + p.length)).drop k = p := by
          rw [← List.append_assoc, ← hbk, ← List.length_append, List.take_left, List.drop_left]
        rw [e1, e2, hver, hpn]
        congr 2
        · congr 1
          · omega
          · omega
        · congr 1
          simp only [List.length_cons, List.length_append]
          omega
      · cases hw
    · rw [if_neg hd] at hw
      cases hw
  · rw [if_neg hc] at hw
    cases hw
/-- A short packet is read back. -/
theorem pkR_short (h : PH) (p w : List UInt8) (hw : pkW h p = some w) (hl : h.lo = false) : pkR w = some (⟨false, 0, 0, h.dst, [], h.pn, h.pl⟩, p, w.length) := by
  obtain ⟨lo, ty, ver, dst, src, pn, pl⟩ := h
  simp only at hl
  subst hl
  unfold pkW at hw
  simp only at hw
  by_cases hc : 1 ≤ pl ∧ pl ≤ 4 ∧ pn < 256 ^ pl.toNat ∧ p.length ≤ 1200
  · rw [if_pos hc] at hw
    obtain ⟨c1, c2, c3, c4⟩ := hc
    unfold pkHead at hw
    simp only [Bool.false_eq_true, if_false] at hw
    by_cases hd : dst.length = 8
    · rw [if_pos hd] at hw
      simp only [Option.bind_some] at hw
      obtain ⟨k, hk⟩ : ∃ k, pl.toNat = k := ⟨_, rfl⟩
      rw [hk] at hw c3
      split at hw
      · rename_i hlen
        injection hw with hw
        subst hw
        have hcn : (UInt8.ofNat (64 + (k - 1))).toNat = 64 + (k - 1) := by rw [UInt8.toNat_ofNat']; omega
        have hbk : (bes (pn : Int) k).length = k := bes_len _ _
        obtain ⟨BK, hBK⟩ : ∃ B, bes (pn : Int) k = B := ⟨_, rfl⟩
        have hpn : rb BK = pn := by rw [← hBK, rbF_bes, Nat.mod_eq_of_lt c3]
        rw [hBK] at hbk hlen ⊢
        unfold pkR
        simp only [List.cons_append, List.append_assoc]
        rw [hcn]
        have m3 : (64 + (k - 1)) % 4 + 1 = k := by omega
        rw [if_neg (by omega), if_pos (by omega), m3, if_pos ⟨by omega, by simp; omega⟩]
        have e0 : (dst ++ (BK ++ p)).take 8 = dst := by rw [← hd, List.take_left]
        have e1 : ((dst ++ (BK ++ p)).drop 8).take k = BK := by rw [← hd, List.drop_left, ← hbk, List.take_left]
        have e2 : (dst ++ (BK ++ p)).drop (8 + k) = p := by rw [← hd, ← hbk, ← List.drop_drop, List.drop_left, List.drop_left]
        rw [e0, e1, e2, hpn]
        congr 3
        omega
      · cases hw
    · rw [if_neg hd] at hw
      cases hw
  · rw [if_neg hc] at hw
    cases hw
end Go.Proofs.Ytcakppdabolfiaa
