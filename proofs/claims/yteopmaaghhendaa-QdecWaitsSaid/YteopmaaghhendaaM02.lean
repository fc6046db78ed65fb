/-
  Texts put together: HuffMath, HuffMath3, HuffMath2.
-/

/-
  The Huffman code as plain numbers and lists: its tables, its signs, what a string's bits are, what bits tell. No program is named here.
-/
namespace Go.Proofs.Yteopmaaghhendaa
set_option linter.unusedVariables false

def LL : List Nat := [13, 23, 28, 28, 28, 28, 28, 28, 28, 24, 30, 28, 28, 30, 28, 28, 28, 28, 28, 28, 28, 28, 30, 28, 28, 28, 28, 28, 28, 28, 28, 28, 6, 10, 10, 12, 13, 6, 8, 11, 10, 10, 8, 11, 8, 6, 6, 6, 5, 5, 5, 6, 6, 6, 6, 6, 6, 6, 7, 8, 15, 6, 12, 10, 13, 6, 7, 7, 7, 7, 7, 7, 7, 7, 7, 7, 7, 7, 7, 7, 7, 7, 7, 7, 7, 7, 7, 7, 8, 7, 8, 13, 19, 13, 14, 6, 15, 5, 6, 5, 6, 5, 6, 6, 6, 5, 7, 7, 6, 6, 6, 5, 6, 7, 6, 5, 5, 6, 7, 7, 7, 7, 7, 15, 11, 14, 13, 28, 20, 22, 20, 20, 22, 22, 22, 23, 22, 23, 23, 23, 23, 23, 24, 23, 24, 24, 22, 23, 24, 23, 23, 23, 23, 21, 22, 23, 22, 23, 23, 24, 22, 21, 20, 22, 22, 23, 23, 21, 23, 22, 22, 24, 21, 22, 23, 23, 21, 21, 22, 21, 23, 22, 23, 23, 20, 22, 22, 22, 23, 22, 22, 23, 26, 26, 20, 19, 22, 23, 22, 25, 26, 26, 26, 27, 27, 26, 24, 25, 19, 21, 26, 27, 27, 26, 27, 24, 21, 21, 26, 26, 28, 27, 27, 27, 20, 24, 20, 21, 22, 21, 21, 23, 22, 22, 25, 25, 24, 24, 26, 23, 26, 27, 26, 26, 27, 27, 27, 27, 27, 28, 27, 27, 27, 27, 27, 26, 30]
def CW : List Nat := [8184, 8388568, 268435426, 268435427, 268435428, 268435429, 268435430, 268435431, 268435432, 16777194, 1073741820, 268435433, 268435434, 1073741821, 268435435, 268435436, 268435437, 268435438, 268435439, 268435440, 268435441, 268435442, 1073741822, 268435443, 268435444, 268435445, 268435446, 268435447, 268435448, 268435449, 268435450, 268435451, 20, 1016, 1017, 4090, 8185, 21, 248, 2042, 1018, 1019, 249, 2043, 250, 22, 23, 24, 0, 1, 2, 25, 26, 27, 28, 29, 30, 31, 92, 251, 32764, 32, 4091, 1020, 8186, 33, 93, 94, 95, 96, 97, 98, 99, 100, 101, 102, 103, 104, 105, 106, 107, 108, 109, 110, 111, 112, 113, 114, 252, 115, 253, 8187, 524272, 8188, 16380, 34, 32765, 3, 35, 4, 36, 5, 37, 38, 39, 6, 116, 117, 40, 41, 42, 7, 43, 118, 44, 8, 9, 45, 119, 120, 121, 122, 123, 32766, 2044, 16381, 8189, 268435452, 1048550, 4194258, 1048551, 1048552, 4194259, 4194260, 4194261, 8388569, 4194262, 8388570, 8388571, 8388572, 8388573, 8388574, 16777195, 8388575, 16777196, 16777197, 4194263, 8388576, 16777198, 8388577, 8388578, 8388579, 8388580, 2097116, 4194264, 8388581, 4194265, 8388582, 8388583, 16777199, 4194266, 2097117, 1048553, 4194267, 4194268, 8388584, 8388585, 2097118, 8388586, 4194269, 4194270, 16777200, 2097119, 4194271, 8388587, 8388588, 2097120, 2097121, 4194272, 2097122, 8388589, 4194273, 8388590, 8388591, 1048554, 4194274, 4194275, 4194276, 8388592, 4194277, 4194278, 8388593, 67108832, 67108833, 1048555, 524273, 4194279, 8388594, 4194280, 33554412, 67108834, 67108835, 67108836, 134217694, 134217695, 67108837, 16777201, 33554413, 524274, 2097123, 67108838, 134217696, 134217697, 67108839, 134217698, 16777202, 2097124, 2097125, 67108840, 67108841, 268435453, 134217699, 134217700, 134217701, 1048556, 16777203, 1048557, 2097126, 4194281, 2097127, 2097128, 8388595, 4194282, 4194283, 33554414, 33554415, 16777204, 16777205, 67108842, 8388596, 67108843, 134217702, 67108844, 67108845, 134217703, 134217704, 134217705, 134217706, 134217707, 268435454, 134217708, 134217709, 134217710, 134217711, 134217712, 67108846, 1073741823]
def FI : List Nat := [0, 0, 0, 0, 0, 0, 20, 92, 248, 508, 1016, 2042, 4090, 8184, 16380, 32764, 65534, 131068, 262136, 524272, 1048550, 2097116, 4194258, 8388568, 16777194, 33554412, 67108832, 134217694, 268435426, 536870910, 1073741820]
def CO : List Nat := [0, 0, 0, 0, 0, 10, 26, 32, 6, 0, 5, 3, 2, 6, 2, 3, 0, 0, 0, 3, 8, 13, 26, 29, 12, 4, 15, 19, 29, 0, 4]
def PL : List Nat := [0, 0, 0, 0, 0, 0, 10, 36, 68, 74, 74, 79, 82, 84, 90, 92, 95, 95, 95, 95, 98, 106, 119, 145, 174, 186, 190, 205, 224, 253, 253]
def OR : List Nat := [48, 49, 50, 97, 99, 101, 105, 111, 115, 116, 32, 37, 45, 46, 47, 51, 52, 53, 54, 55, 56, 57, 61, 65, 95, 98, 100, 102, 103, 104, 108, 109, 110, 112, 114, 117, 58, 66, 67, 68, 69, 70, 71, 72, 73, 74, 75, 76, 77, 78, 79, 80, 81, 82, 83, 84, 85, 86, 87, 89, 106, 107, 113, 118, 119, 120, 121, 122, 38, 42, 44, 59, 88, 90, 33, 34, 40, 41, 63, 39, 43, 124, 35, 62, 0, 36, 64, 91, 93, 126, 94, 125, 60, 96, 123, 92, 195, 208, 128, 130, 131, 162, 184, 194, 224, 226, 153, 161, 167, 172, 176, 177, 179, 209, 216, 217, 227, 229, 230, 129, 132, 133, 134, 136, 146, 154, 156, 160, 163, 164, 169, 170, 173, 178, 181, 185, 186, 187, 189, 190, 196, 198, 228, 232, 233, 1, 135, 137, 138, 139, 140, 141, 143, 147, 149, 150, 151, 152, 155, 157, 158, 165, 166, 168, 174, 175, 180, 182, 183, 188, 191, 197, 231, 239, 9, 142, 144, 145, 148, 159, 171, 206, 215, 225, 236, 237, 199, 207, 234, 235, 192, 193, 200, 201, 202, 205, 210, 213, 218, 219, 238, 240, 242, 243, 255, 203, 204, 211, 212, 214, 221, 222, 223, 241, 244, 245, 246, 247, 248, 250, 251, 252, 253, 254, 2, 3, 4, 5, 6, 7, 8, 11, 12, 14, 15, 16, 17, 18, 19, 20, 21, 23, 24, 25, 26, 27, 28, 29, 30, 31, 127, 220, 249, 10, 13, 22, 256]

def ll (s : Nat) : Nat := LL.getD s 0
def cw (s : Nat) : Nat := CW.getD s 0
def fi (n : Nat) : Nat := FI.getD n 0
def co (n : Nat) : Nat := CO.getD n 0
def pl (n : Nat) : Nat := PL.getD n 0
def orr (k : Nat) : Nat := OR.getD k 0

theorem tab_len : LL.length = 257 ∧ CW.length = 257 ∧ FI.length = 31 ∧ CO.length = 31 ∧ PL.length = 31 ∧ OR.length = 257 := by decide +kernel

theorem sign_facts : ∀ s, s < 257 → 5 ≤ ll s ∧ ll s ≤ 30 ∧ cw s < 2 ^ ll s ∧ fi (ll s) ≤ cw s ∧ cw s < fi (ll s) + co (ll s) ∧ orr (pl (ll s) + (cw s - fi (ll s))) = s := by decide +kernel

theorem place_facts : ∀ n, n < 31 → fi n + co n ≤ 2 ^ n ∧ pl n + co n ≤ 257 ∧ ∀ i, i < co n → orr (pl n + i) < 257 ∧ ll (orr (pl n + i)) = n ∧ cw (orr (pl n + i)) = fi n + i := by decide +kernel

theorem next_facts : ∀ n, n < 30 → fi (n + 1) = 2 * (fi n + co n) ∧ pl (n + 1) = pl n + co n := by decide +kernel
theorem start_facts : fi 0 = 0 ∧ co 0 = 0 ∧ pl 0 = 0 ∧ fi 30 + co 30 = 2 ^ 30 := by decide +kernel

/-- The sign of a code of n bits. -/
def sgn (n w : Nat) : Option Nat := if fi n ≤ w ∧ w < fi n + co n then some (orr (pl n + (w - fi n))) else none

theorem sgn_some {n w s : Nat} (hn : n < 31) (h : sgn n w = some s) : s < 257 ∧ ll s = n ∧ cw s = w := by
  unfold sgn at h
  split at h
  · rename_i hc
    injection h with h
    have hp := (place_facts n hn).2.2 (w - fi n) (by omega)
    rw [h] at hp
    refine ⟨hp.1, hp.2.1, ?_⟩
    rw [hp.2.2]; omega
  · cases h

/-- w, of n bits, is neither a code nor begins behind one: codes of more bits begin so. -/
def Open (n w : Nat) : Prop := n ≤ 30 ∧ fi n + co n ≤ w ∧ w < 2 ^ n

theorem open_zero : Open 0 0 := by unfold Open; decide +kernel
theorem open_lt {n w : Nat} (h : Open n w) : n < 30 := by
  obtain ⟨h1, h2, h3⟩ := h
  rcases Nat.lt_or_ge n 30 with h | h
  · exact h
  · obtain rfl : n = 30 := by omega
    have := start_facts.2.2.2
    omega
theorem open_next {n w b : Nat} (h : Open n w) (hb : b < 2) (hn : sgn (n + 1) (2 * w + b) = none) : Open (n + 1) (2 * w + b) := by
  have hlt := open_lt h
  obtain ⟨h1, h2, h3⟩ := h
  have hx := (next_facts n hlt).1
  have hp : 2 ^ (n + 1) = 2 * 2 ^ n := by rw [Nat.pow_succ]; omega
  unfold sgn at hn
  split at hn
  · cases hn
  · refine ⟨by omega, by omega, by omega⟩
theorem open_word {n w b : Nat} (h : Open n w) (hb : b < 2) : n + 1 ≤ 30 ∧ 2 * w + b < 2 ^ (n + 1) := by
  have hlt := open_lt h
  obtain ⟨h1, h2, h3⟩ := h
  have hp : 2 ^ (n + 1) = 2 * 2 ^ n := by rw [Nat.pow_succ]; omega
  omega

/-! ### reading -/
def dec : List Nat → List UInt8 → Nat → Nat → List UInt8 × Nat
  | [], out, w, n => if 8 ≤ n ∨ w ≠ 2 ^ n - 1 then ([], 22) else (out, 0)
  | b :: bs, out, w, n =>
    match sgn (n + 1) (2 * w + b) with
    | none => dec bs out (2 * w + b) (n + 1)
    | some s => if s = 256 then ([], 22) else if out.length = 4096 then ([], 23) else dec bs (out ++ [UInt8.ofNat s]) 0 0

theorem dec_none {b : Nat} {bs : List Nat} {out : List UInt8} {w n : Nat} (h : sgn (n + 1) (2 * w + b) = none) : dec (b :: bs) out w n = dec bs out (2 * w + b) (n + 1) := by
  rw [dec, h]
theorem dec_end {b : Nat} {bs : List Nat} {out : List UInt8} {w n : Nat} (h : sgn (n + 1) (2 * w + b) = some 256) : dec (b :: bs) out w n = ([], 22) := by
  rw [dec, h]; rfl
theorem dec_long {b s : Nat} {bs : List Nat} {out : List UInt8} {w n : Nat} (h : sgn (n + 1) (2 * w + b) = some s) (hs : s ≠ 256) (ho : out.length = 4096) : dec (b :: bs) out w n = ([], 23) := by
  rw [dec, h]; simp [hs, ho]
theorem dec_some {b s : Nat} {bs : List Nat} {out : List UInt8} {w n : Nat} (h : sgn (n + 1) (2 * w + b) = some s) (hs : s ≠ 256) (ho : out.length ≠ 4096) : dec (b :: bs) out w n = dec bs (out ++ [UInt8.ofNat s]) 0 0 := by
  rw [dec, h]; simp [hs, ho]

/-! ### bits -/
/-- v's lowest n bits, the highest first. -/
def msb : Nat → Nat → List Nat
  | 0, _ => []
  | n + 1, v => v / 2 ^ n % 2 :: msb n v

def byteBits (x : UInt8) : List Nat := msb 8 x.toNat
def allBits (l : List UInt8) : List Nat := l.flatMap byteBits
/-! ### writing -/
/-- The whole bytes of w's lowest n bits. -/
def emit : Nat → Nat → Nat → List UInt8
  | 0, _, _ => []
  | k + 1, w, n => UInt8.ofNat (w / 2 ^ (n - 8) % 256) :: emit k w (n - 8)
def last (w n : Nat) : List UInt8 := if n = 0 then [] else [UInt8.ofNat (w * 2 ^ (8 - n) + (2 ^ (8 - n) - 1))]
/-- The bytes of a string behind n bits w that are still to be written. -/
def enc : List UInt8 → Nat → Nat → List UInt8
  | [], w, n => last w n
  | c :: cs, w, n => emit ((n + ll c.toNat) / 8) (w * 2 ^ ll c.toNat + cw c.toNat) (n + ll c.toNat) ++ enc cs ((w * 2 ^ ll c.toNat + cw c.toNat) % 2 ^ ((n + ll c.toNat) % 8)) ((n + ll c.toNat) % 8)

/-! ### back -/
end Go.Proofs.Yteopmaaghhendaa

/-
  The codes in their order: where each sign stands in it. No program is named here.
-/
namespace Go.Proofs.Yteopmaaghhendaa
set_option linter.unusedVariables false

/-- The place of sign s in the order of the codes. -/
def pos (s : Nat) : Nat := pl (ll s) + (cw s - fi (ll s))
/-- The code and the length of the sign at place q - 1. -/
def cs (q : Nat) : Nat := if q = 0 then 0 else cw (orr (q - 1))
def hs (q : Nat) : Nat := if q = 0 then 0 else ll (orr (q - 1))
end Go.Proofs.Yteopmaaghhendaa

/-
  The writer's word of 64 bits against the document's bits. No program is named here.
-/
namespace Go.Proofs.Yteopmaaghhendaa
set_option linter.unusedVariables false

end Go.Proofs.Yteopmaaghhendaa
