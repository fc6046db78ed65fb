/-
  Texts put together: HuffMath, HuffMath3, HuffMath2.
-/

/-
  The Huffman code as plain numbers and lists: its tables, its signs, what a string's bits are, what bits tell. No program is named here.
-/
namespace Go.Proofs.Yteopmaaghhendaa
set_option linter.unusedVariables false

def LL : List Nat := [13, 23, 28, 28, 28, 28, 28, 28, 28, 24, 30, 28, 28, 30, 28, 28, 28, 28, 28, 28, 28, 28, 30, 28, 28, 28, 28, 28, 28, 28, 28, 28, 6, 10, 10, 12, 13, 6, 8, 11, 10, 10, 8, 11, 8, 6, 6, 6, 5, 5, 5, 6, 6, 6, 6, 6, 6, 6, 7, 8, 15, 6, 12, 10, 13, 6, 7, 7, 7, 7, 7, 7, 7, 7, 7, 7, 7, 7, 7, 7, 7, 7, 7, 7, 7, 7, 7, 7, 8, 7, 8, 13, 19, 13, 14, 6, 15, 5, 6, 5, 6, 5, 6, 6, 6, 5, 7, 7, 6, 6, 6, 5, 6, 7, 6, 5, 5, 6, 7, 7, 7, 7, 7, 15, 11, 14, 13, 28, 20, 22, 20, 20, 22, 22, 22, 23, 22, 23, 23, 23, 23, 23, 24, 23, 24, 24, 22, 23, 24, 23, 23, 23, 23, 21, 22, 23, 22, 23, 23, 24, 22, 21, 20, 22, 22, 23, 23, 21, 23, 22, 22, 24, 21, 22, 23, 23, 21, 21, 22, 21, 23, 22, 23, 23, 20, 22, 22, 22, 23, 22, 22, 23, 26, 26, 20, 19, 22, 23, 22, 25, 26, 26, 26, 27, 27, 26, 24, 25, 19, 21, 26, 27, 27, 26, 27, 24, 21, 21, 26, 26, 28, 27, 27, 27, 20, 24, 20, 21, 22, 21, 21, 23, 22, 22, 25, 25, 24, 24, 26, 23, 26, 27, 26, 26, 27, 27, 27, 27, 27, 28, 27, 27, 27, 27, 27, 26, 30]
def CW : List Nat := [8184, 8388568, 268435426, 268435427, 268435428, 268435429, 268435430, 268435431, 268435432, 16777194, 1073741820, 268435433, 268435434, 1073741821, 268435435, 268435436, 268435437, 268435438, 268435439, 268435440, 268435441, 268435442, 1073741822, 268435443, 268435444, 268435445, 268435446, 268435447, 268435448, 268435449, 268435450, 268435451, 20, 1016, 1017, 4090, 8185, 21, 248, 2042, 1018, 1019, 249, 2043, 250, 22, 23, 24, 0, 1, 2, 25, 26, 27, 28, 29, 30, 31, 92, 251, 32764, 32, 4091, 1020, 8186, 33, 93, 94, 95, 96, 97, 98, 99, 100, 101, 102, 103, 104, 105, 106, 107, 108, 109, 110, 111, 112, 113, 114, 252, 115, 253, 8187, 524272, 8188, 16380, 34, 32765, 3, 35, 4, 36, 5, 37, 38, 39, 6, 116, 117, 40, 41, 42, 7, 43, 118, 44, 8, 9, 45, 119, 120, 121, 122, 123, 32766, 2044, 16381, 8189, 268435452, 1048550, 4194258, 1048551, 1048552, 4194259, 4194260, 4194261, 8388569, 4194262, 8388570, 8388571, 8388572, 8388573, 8388574, 16777195, 8388575, 16777196, 16777197, 4194263, 8388576, 16777198, 8388577, 8388578, 8388579, 8388580, 2097116, 4194264, 8388581, 4194265, 8388582, 8388583, 16777199, 4194266, 2097117, 1048553, 4194267, 4194268, 8388584, 8388585, 2097118, 8388586, 4194269, 4194270, 16777200, 2097119, 4194271, 8388587, 8388588, 2097120, 2097121, 4194272, 2097122, 8388589, 4194273, 8388590, 8388591, 1048554, 4194274, 4194275, 4194276, 8388592, 4194277, 4194278, 8388593, 67108832, 67108833, 1048555, 524273, 4194279, 8388594, 4194280, 33554412, 67108834, 67108835, 67108836, 134217694, 134217695, 67108837, 16777201, 33554413, 524274, 2097123, 67108838, 134217696, 134217697, 67108839, 134217698, 16777202, 2097124, 2097125, 67108840, 67108841, 268435453, 134217699, 134217700, 134217701, 1048556, 16777203, 1048557, 2097126, 4194281, 2097127, 2097128, 8388595, 4194282, 4194283, 33554414, 33554415, 16777204, 16777205, 67108842, 8388596, 67108843, 134217702, 67108844, 67108845, 134217703, 134217704, 134217705, 134217706, 134217707, 268435454, 134217708, 134217709, 134217710, 134217711, 134217712, 67108846, 1073741823]
def FI : List Nat := [0, 0, 0, 0, 0, 0, 20, 92, 248, 508, 1016, 2042, 4090, 8184, 16380, 32764, 65534, 131068, 262136, 524272, 1048550, 2097116, 4194258, 8388568, 16777194, 33554412, 67108832, 134217694, 268435426, 536870910, 1073741820]
def CO : List Nat := [0, 0, 0, 0, 0, 10, 26, 32, 6, 0, 5, 3, 2, 6, 2, 3, 0, 0, 0, 3, 8, 13, 26, 29, 12, 4, 15, 19, 29, 0, 4]
def PL : List Nat := [0, 0, 0, 0, 0, 0, 10, 36, 68, 74, 74, 79, 82, 84, 90, 92, 95, 95, 95, 95, 98, 106, 119, 145, 174, 186, 190, 205, 224, 253, 253]
def OR : List Nat := [48, 49, 50, 97, 99, 101, 105, 111, 115, 116, 32, 37, 45, 46, 47, 51, 52, 53, 54, 55, 56, 57, 61, 65, 95, 98, 100, 102, 103, 104, 108, 109, 110, 112, 114, 117, 58, 66, 67, 68, 69, 70, 71, 72, 73, 74, 75, 76, 77, 78, 79, 80, 81, 82, 83, 84, 85, 86, 87, 89, 106, 107, 113, 118, 119, 120, 121, 122, 38, 42, 44, 59, 88, 90, 33, 34, 40, 41, 63, 39, 43, 124, 35, 62, 0, 36, 64, 91, 93, 126, 94, 125, 60, 96, 123, 92, 195, 208, 128, 130, 131, 162, 184, 194, 224, 226, 153, 161, 167, 172, 176, 177, 179, 209, 216, 217, 227, 229, 230, 129, 132, 133, 134, 136, 146, 154, 156, 160, 163, 164, 169, 170, 173, 178, 181, 185, 186, 187, 189, 190, 196, 198, 228, 232, 233, 1, 135, 137, 138, 139, 140, 141, 143, 147, 149, 150, 151, 152, 155, 157, 158, 165, 166, 168, 174, 175, 180, 182, 183, 188, 191, 197, 231, 239, 9, 142, 144, 145, 148, 159, 171, 206, 215, 225, 236, 237, 199, 207, 234, 235, 192, 193, 200, 201, 202, 205, 210, 213, 218, 219, 238, 240, 242, 243, 255, 203, 204, 211, 212, 214, 221, 222, 223, 241, 244, 245, 246, 247, 248, 250, 251, 252, 253, 254, 2, 3, 4, 5, 6, 7, 8, 11, 12, 14, 15, 16, 17, 18, 19, 20, 21, 23, 24, 25, 26, 27, 28, 29, 30, 31, 127, 220, 249, 10, 13, 22, 256]

def ll (s : Nat) : Nat := LL.getD s 0
def cw (s : Nat) : Nat := CW.getD s 0
def fi (n : Nat) : Nat := FI.getD n 0
def co (n : Nat) : Nat := CO.getD n 0
def pl (n : Nat) : Nat := PL.getD n 0
def orr (k : Nat) : Nat := OR.getD k 0

theorem tab_len : LL.length = 257 ∧ CW.length = 257 ∧ FI.length = 31 ∧ CO.length = 31 ∧ PL.length = 31 ∧ OR.length = 257 := by decide +kernel

theorem sign_facts : ∀ s, s < 257 → 5 ≤ ll s ∧ ll s ≤ 30 ∧ cw s < 2 ^ ll s ∧ fi (ll s) ≤ cw s ∧ cw s < fi (ll s) + co (ll s) ∧ orr (pl (ll s) + (cw s - fi (ll s))) = s := by decide +kernel

theorem place_facts : ∀ n, n < 31 → fi n + co n ≤ 2 ^ n ∧ pl n + co n ≤ 257 ∧ ∀ i, i < co n → orr (pl n + i) < 257 ∧ ll (orr (pl n + i)) = n ∧ cw (orr (pl n + i)) = fi n + i := by decide +kernel

theorem next_facts : ∀ n, n < 30 → fi (n + 1) = 2 * (fi n + co n) ∧ pl (n + 1) = pl n + co n := by decide +kernel
theorem start_facts : fi 0 = 0 ∧ co 0 = 0 ∧ pl 0 = 0 ∧ fi 30 + co 30 = 2 ^ 30 := by decide +kernel

/-- The sign of a code of n bits. -/
def sgn (n w : Nat) : Option Nat := if fi n ≤ w ∧ w < fi n + co n then some (orr (pl n + (w - fi n))) else none

theorem sgn_some {n w s : Nat} (hn : n < 31) (h : sgn n w = some s) : s < 257 ∧ ll s = n ∧ cw s = w := by
  unfold sgn at h
  split at h
  · rename_i hc
    injection h with h
    have hp := (place_facts n hn).2.2 (w - fi n) (by omega)
    rw [h] at hp
    refine ⟨hp.1, hp.2.1, ?_⟩
    rw [hp.2.2]; omega
  · cases h

theorem sgn_of {s : Nat} (hs : s < 257) : sgn (ll s) (cw s) = some s := by
  have h := sign_facts s hs
  unfold sgn
  rw [if_pos ⟨h.2.2.2.1, h.2.2.2.2.1⟩, h.2.2.2.2.2]

/-- w, of n bits, is neither a code nor begins behind one: codes of more bits begin so. -/
def Open (n w : Nat) : Prop := n ≤ 30 ∧ fi n + co n ≤ w ∧ w < 2 ^ n

theorem open_zero : Open 0 0 := by unfold Open; decide +kernel
theorem open_lt {n w : Nat} (h : Open n w) : n < 30 := by
  obtain ⟨h1, h2, h3⟩ := h
  rcases Nat.lt_or_ge n 30 with h | h
  · exact h
  · obtain rfl : n = 30 := by omega
    have := start_facts.2.2.2
    omega
theorem open_next {n w b : Nat} (h : Open n w) (hb : b < 2) (hn : sgn (n + 1) (2 * w + b) = none) : Open (n + 1) (2 * w + b) := by
  have hlt := open_lt h
  obtain ⟨h1, h2, h3⟩ := h
  have hx := (next_facts n hlt).1
  have hp : 2 ^ (n + 1) = 2 * 2 ^ n := by rw [Nat.pow_succ]; omega
  unfold sgn at hn
  split at hn
  · cases hn
  · refine ⟨by omega, by omega, by omega⟩
theorem open_word {n w b : Nat} (h : Open n w) (hb : b < 2) : n + 1 ≤ 30 ∧ 2 * w + b < 2 ^ (n + 1) := by
  have hlt := open_lt h
  obtain ⟨h1, h2, h3⟩ := h
  have hp : 2 ^ (n + 1) = 2 * 2 ^ n := by rw [Nat.pow_succ]; omega
  omega

/-! ### reading -/
def dec : List Nat → List UInt8 → Nat → Nat → List UInt8 × Nat
  | [], out, w, n => if 8 ≤ n ∨ w ≠ 2 ^ n - 1 then ([], 22) else (out, 0)
  | b :: bs, out, w, n =>
    match sgn (n + 1) (2 * w + b) with
    | none => dec bs out (2 * w + b) (n + 1)
    | some s => if s = 256 then ([], 22) else if out.length = 4096 then ([], 23) else dec bs (out ++ [UInt8.ofNat s]) 0 0

theorem dec_none {b : Nat} {bs : List Nat} {out : List UInt8} {w n : Nat} (h : sgn (n + 1) (2 * w + b) = none) : dec (b :: bs) out w n = dec bs out (2 * w + b) (n + 1) := by
  rw [dec, h]
theorem dec_end {b : Nat} {bs : List Nat} {out : List UInt8} {w n : Nat} (h : sgn (n + 1) (2 * w + b) = some 256) : dec (b :: bs) out w n = ([], 22) := by
  rw [dec, h]; rfl
theorem dec_long {b s : Nat} {bs : List Nat} {out : List UInt8} {w n : Nat} (h : sgn (n + 1) (2 * w + b) = some s) (hs : s ≠ 256) (ho : out.length = 4096) : dec (b :: bs) out w n = ([], 23) := by
  rw [dec, h]; simp [hs, ho]
theorem dec_some {b s : Nat} {bs : List Nat} {out : List UInt8} {w n : Nat} (h : sgn (n + 1) (2 * w + b) = some s) (hs : s ≠ 256) (ho : out.length ≠ 4096) : dec (b :: bs) out w n = dec bs (out ++ [UInt8.ofNat s]) 0 0 := by
  rw [dec, h]; simp [hs, ho]

/-! ### bits -/
/-- v's lowest n bits, the highest first. -/
def msb : Nat → Nat → List Nat
  | 0, _ => []
  | n + 1, v => v / 2 ^ n % 2 :: msb n v

theorem msb_mod (n v : Nat) : msb n (v % 2 ^ n) = msb n v := by
  have key : ∀ k, k ≤ n → msb k (v % 2 ^ n) = msb k v := by
    intro k
    induction k with
    | zero => intro _; rfl
    | succ k ih =>
      intro hk
      rw [msb, msb, ih (by omega)]
      congr 1
      have e : n = k + 1 + (n - (k + 1)) := by omega
      rw [e, Nat.pow_add, Nat.mod_mul, Nat.pow_succ]
      generalize v / (2 ^ k * 2) % 2 ^ (n - (k + 1)) = r
      have hp := Nat.two_pow_pos k
      rw [Nat.mod_mul, Nat.add_assoc, Nat.mul_assoc, ← Nat.mul_add, Nat.add_mul_div_left _ _ hp, Nat.div_eq_of_lt (Nat.mod_lt _ hp)]
      omega
  exact key n (Nat.le_refl _)
theorem msb_append (n m v c : Nat) (hc : c < 2 ^ m) : msb (n + m) (v * 2 ^ m + c) = msb n v ++ msb m c := by
  induction n with
  | zero =>
    rw [Nat.zero_add]
    show _ = [] ++ _
    rw [List.nil_append, ← msb_mod m (v * 2 ^ m + c), Nat.mul_add_mod_self_right, Nat.mod_eq_of_lt hc]
  | succ n ih =>
    rw [show n + 1 + m = (n + m) + 1 from by omega, msb, ih, msb, List.cons_append]
    congr 2
    rw [Nat.add_comm n m, Nat.pow_add, ← Nat.div_div_eq_div_mul]
    have hp := Nat.two_pow_pos m
    rw [Nat.mul_comm, Nat.mul_add_div hp, Nat.div_eq_of_lt hc, Nat.add_zero]
theorem msb_split (n m v : Nat) : msb (n + m) v = msb n (v / 2 ^ m) ++ msb m v := by
  have h := msb_append n m (v / 2 ^ m) (v % 2 ^ m) (Nat.mod_lt _ (Nat.two_pow_pos m))
  rw [msb_mod] at h
  rw [← h]
  congr 1
  rw [Nat.mul_comm, Nat.div_add_mod]
theorem msb_ones (n : Nat) : msb n (2 ^ n - 1) = List.replicate n 1 := by
  have key : ∀ k, k ≤ n → msb k (2 ^ n - 1) = List.replicate k 1 := by
    intro k
    induction k with
    | zero => intro _; rfl
    | succ k ih =>
      intro hk
      rw [msb, ih (by omega), List.replicate_succ]
      congr 1
      have e : 2 ^ n - 1 = (2 ^ (n - (k + 1)) - 1) * 2 ^ (k + 1) + (2 ^ (k + 1) - 1) := by
        have h1 : 2 ^ n = 2 ^ (n - (k + 1)) * 2 ^ (k + 1) := by rw [← Nat.pow_add]; congr 1; omega
        have h2 := Nat.two_pow_pos (n - (k + 1))
        have h3 := Nat.two_pow_pos (k + 1)
        have h4 := Nat.le_mul_of_pos_left (2 ^ (k + 1)) h2
        rw [h1, Nat.sub_mul, Nat.one_mul]
        omega
      have h5 : 2 ^ (k + 1) - 1 = 2 ^ k + (2 ^ k - 1) := by have := Nat.two_pow_pos k; rw [Nat.pow_succ]; omega
      have hp := Nat.two_pow_pos k
      rw [e, h5, Nat.pow_succ, show (2 ^ (n - (k + 1)) - 1) * (2 ^ k * 2) + (2 ^ k + (2 ^ k - 1)) = 2 ^ k * ((2 ^ (n - (k + 1)) - 1) * 2 + 1) + (2 ^ k - 1) from by
        rw [Nat.mul_add, ← Nat.mul_assoc, Nat.mul_one, Nat.add_assoc, ← Nat.mul_assoc, Nat.mul_comm (2 ^ (n - (k + 1)) - 1) (2 ^ k)], Nat.mul_add_div hp, Nat.div_eq_of_lt (by omega)]
      omega
  exact key n (Nat.le_refl _)
def byteBits (x : UInt8) : List Nat := msb 8 x.toNat
def allBits (l : List UInt8) : List Nat := l.flatMap byteBits
def codeBits (c : UInt8) : List Nat := msb (ll c.toNat) (cw c.toNat)
def strBits (l : List UInt8) : List Nat := l.flatMap codeBits
/-- How many bits. -/
def bitLen (l : List UInt8) : Nat := (l.map fun c => ll c.toNat).sum

theorem allBits_append (a b : List UInt8) : allBits (a ++ b) = allBits a ++ allBits b := by unfold allBits; rw [List.flatMap_append]
theorem bitLen_append (a b : List UInt8) : bitLen (a ++ b) = bitLen a + bitLen b := by simp [bitLen]
theorem ll_byte (c : UInt8) : 5 ≤ ll c.toNat ∧ ll c.toNat ≤ 30 ∧ cw c.toNat < 2 ^ ll c.toNat := by
  have h := sign_facts c.toNat (by have := c.toNat_lt; omega)
  exact ⟨h.1, h.2.1, h.2.2.1⟩
theorem bitLen_le (l : List UInt8) : 5 * l.length ≤ bitLen l ∧ bitLen l ≤ 30 * l.length := by
  induction l with
  | nil => simp [bitLen]
  | cons x l ih =>
    have h := ll_byte x
    have e : bitLen (x :: l) = ll x.toNat + bitLen l := by simp [bitLen]
    rw [e, List.length_cons]
    omega
/-! ### writing -/
/-- The whole bytes of w's lowest n bits. -/
def emit : Nat → Nat → Nat → List UInt8
  | 0, _, _ => []
  | k + 1, w, n => UInt8.ofNat (w / 2 ^ (n - 8) % 256) :: emit k w (n - 8)
def last (w n : Nat) : List UInt8 := if n = 0 then [] else [UInt8.ofNat (w * 2 ^ (8 - n) + (2 ^ (8 - n) - 1))]
/-- The bytes of a string behind n bits w that are still to be written. -/
def enc : List UInt8 → Nat → Nat → List UInt8
  | [], w, n => last w n
  | c :: cs, w, n => emit ((n + ll c.toNat) / 8) (w * 2 ^ ll c.toNat + cw c.toNat) (n + ll c.toNat) ++ enc cs ((w * 2 ^ ll c.toNat + cw c.toNat) % 2 ^ ((n + ll c.toNat) % 8)) ((n + ll c.toNat) % 8)

theorem u8_nat {n : Nat} (h : n < 256) : (UInt8.ofNat n).toNat = n := by
  rw [UInt8.toNat_ofNat', Nat.mod_eq_of_lt (by have : (2:Nat) ^ 8 = 256 := rfl; omega)]

theorem emit_bits (k w n : Nat) (h : n / 8 = k) : allBits (emit k w n) ++ msb (n % 8) (w % 2 ^ (n % 8)) = msb n w := by
  induction k generalizing n with
  | zero =>
    have : n % 8 = n := by omega
    rw [this, msb_mod]
    rfl
  | succ k ih =>
    have e : allBits (emit (k + 1) w n) = byteBits (UInt8.ofNat (w / 2 ^ (n - 8) % 256)) ++ allBits (emit k w (n - 8)) := rfl
    have hm : n % 8 = (n - 8) % 8 := by omega
    rw [e, List.append_assoc, hm, ih (n - 8) (by omega)]
    conv => rhs; rw [show n = 8 + (n - 8) from by omega, msb_split]
    congr 1
    unfold byteBits
    rw [u8_nat (by omega), show (256 : Nat) = 2 ^ 8 from rfl, msb_mod]

theorem last_bits (w n : Nat) (hn : n < 8) (hw : w < 2 ^ n) : allBits (last w n) = msb n w ++ List.replicate ((8 - n) % 8) 1 := by
  unfold last
  split
  · subst_vars
    simp [msb, allBits]
  · have hp := Nat.two_pow_pos (8 - n)
    have h256 : 2 ^ n * 2 ^ (8 - n) = 256 := by rw [← Nat.pow_add, show n + (8 - n) = 8 from by omega]
    have hlt : w * 2 ^ (8 - n) + (2 ^ (8 - n) - 1) < 256 := by
      have h1 : (w + 1) * 2 ^ (8 - n) ≤ 2 ^ n * 2 ^ (8 - n) := Nat.mul_le_mul_right _ hw
      rw [Nat.add_mul, Nat.one_mul] at h1
      omega
    show byteBits _ ++ [] = _
    rw [List.append_nil]
    unfold byteBits
    rw [u8_nat hlt, show msb 8 = msb (n + (8 - n)) from by rw [show n + (8 - n) = 8 from by omega], msb_append _ _ _ _ (by omega), msb_ones, Nat.mod_eq_of_lt (by omega)]

theorem enc_bits (s : List UInt8) : ∀ (w n : Nat), n < 8 → w < 2 ^ n → allBits (enc s w n) = msb n w ++ strBits s ++ List.replicate ((8 - (n + bitLen s) % 8) % 8) 1 := by
  induction s with
  | nil =>
    intro w n hn hw
    rw [enc, last_bits w n hn hw]
    have : strBits [] = [] := rfl
    have h2 : bitLen [] = 0 := rfl
    rw [this, h2, List.append_nil, Nat.add_zero, Nat.mod_eq_of_lt hn]
  | cons c cs ih =>
    intro w n hn hw
    have hl := ll_byte c
    rw [enc, allBits_append, ih _ _ (Nat.mod_lt _ (by omega)) (Nat.mod_lt _ (Nat.two_pow_pos _)), ← List.append_assoc, ← List.append_assoc, emit_bits _ _ _ rfl, msb_append _ _ _ _ hl.2.2]
    have e1 : strBits (c :: cs) = codeBits c ++ strBits cs := rfl
    have e2 : bitLen (c :: cs) = ll c.toNat + bitLen cs := by simp [bitLen]
    rw [e1, e2, ← List.append_assoc]
    congr 3
    omega

theorem emit_length (k w n : Nat) : (emit k w n).length = k := by
  induction k generalizing n with
  | zero => rfl
  | succ k ih => simp [emit, ih]
theorem enc_length (s : List UInt8) : ∀ (w n : Nat), n < 8 → (enc s w n).length = (n + bitLen s + 7) / 8 := by
  induction s with
  | nil =>
    intro w n hn
    have h2 : bitLen [] = 0 := rfl
    rw [enc, last, h2]
    split
    · subst_vars; rfl
    · simp; omega
  | cons c cs ih =>
    intro w n hn
    have e2 : bitLen (c :: cs) = ll c.toNat + bitLen cs := by simp [bitLen]
    rw [enc, List.length_append, emit_length, ih _ _ (Nat.mod_lt _ (by omega)), e2]
    omega

/-! ### back -/
theorem prefix_facts : ∀ c, c < 256 → ∀ m, m < 30 → m < ll c → fi m + co m ≤ cw c / 2 ^ (ll c - m) := by decide +kernel

theorem sgn_prefix {c m : Nat} (hc : c < 256) (hm : m < ll c) : sgn m (cw c / 2 ^ (ll c - m)) = none := by
  have h := sign_facts c (by omega)
  have := prefix_facts c hc m (by omega) hm
  unfold sgn
  rw [if_neg (by omega)]

theorem dec_code (c : UInt8) (rest : List Nat) (out : List UInt8) (hout : out.length ≤ 4096) : dec (codeBits c ++ rest) out 0 0 = if out.length = 4096 then ([], 23) else dec rest (out ++ [c]) 0 0 := by
  have hc := c.toNat_lt
  have hl := ll_byte c
  have key : ∀ j, j ≤ ll c.toNat → 0 < j → dec (msb j (cw c.toNat) ++ rest) out (cw c.toNat / 2 ^ j) (ll c.toNat - j) = if out.length = 4096 then ([], 23) else dec rest (out ++ [c]) 0 0 := by
    intro j
    induction j with
    | zero => intro _ h; omega
    | succ j ih =>
      intro hj _
      have hw : 2 * (cw c.toNat / 2 ^ (j + 1)) + cw c.toNat / 2 ^ j % 2 = cw c.toNat / 2 ^ j := by
        rw [Nat.pow_succ, ← Nat.div_div_eq_div_mul]
        omega
      have hn : ll c.toNat - (j + 1) + 1 = ll c.toNat - j := by omega
      rw [msb, List.cons_append]
      rcases Nat.eq_zero_or_pos j with rfl | hj0
      · have hs : sgn (ll c.toNat - (0 + 1) + 1) (2 * (cw c.toNat / 2 ^ (0 + 1)) + cw c.toNat / 2 ^ 0 % 2) = some c.toNat := by
          rw [hn, hw, Nat.pow_zero, Nat.div_one, Nat.sub_zero]
          exact sgn_of (by omega)
        split
        · exact dec_long hs (by omega) ‹_›
        · rw [dec_some hs (by omega) ‹_›]
          show dec ([] ++ rest) _ 0 0 = _
          rw [List.nil_append, UInt8.ofNat_toNat]
      · have hs : sgn (ll c.toNat - (j + 1) + 1) (2 * (cw c.toNat / 2 ^ (j + 1)) + cw c.toNat / 2 ^ j % 2) = none := by
          rw [hn, hw]
          have := sgn_prefix (c := c.toNat) (m := ll c.toNat - j) hc (by omega)
          rwa [show ll c.toNat - (ll c.toNat - j) = j from by omega] at this
        rw [dec_none hs, hn, hw]
        exact ih (by omega) hj0
  have h := key (ll c.toNat) (Nat.le_refl _) (by omega)
  rw [Nat.div_eq_of_lt hl.2.2, Nat.sub_self] at h
  exact h

theorem dec_str (s : List UInt8) (rest : List Nat) : ∀ out : List UInt8, out.length ≤ 4096 → dec (strBits s ++ rest) out 0 0 = if out.length + s.length ≤ 4096 then dec rest (out ++ s) 0 0 else ([], 23) := by
  induction s with
  | nil => intro out ho; simp [strBits, ho]
  | cons c cs ih =>
    intro out ho
    have e1 : strBits (c :: cs) = codeBits c ++ strBits cs := rfl
    rw [e1, List.append_assoc, dec_code c _ out ho]
    split
    · rw [if_neg (by rw [List.length_cons]; omega)]
    · rw [ih _ (by simp; omega)]
      simp only [List.length_append, List.length_cons, List.length_nil, List.append_assoc, List.cons_append, List.nil_append]
      rw [show out.length + (0 + 1) + cs.length = out.length + (cs.length + 1) from by omega]

theorem ones_facts : ∀ m, m < 16 → sgn m (2 ^ m - 1) = none := by decide +kernel
theorem dec_ones (out : List UInt8) (k n : Nat) (h : n + k < 16) : dec (List.replicate k 1) out (2 ^ n - 1) n = if 8 ≤ n + k then ([], 22) else (out, 0) := by
  induction k generalizing n with
  | zero => rw [List.replicate_zero, dec]; simp
  | succ k ih =>
    have hp := Nat.two_pow_pos n
    have e : 2 * (2 ^ n - 1) + 1 = 2 ^ (n + 1) - 1 := by rw [Nat.pow_succ]; omega
    rw [List.replicate_succ, dec_none (by rw [e]; exact ones_facts _ (by omega)), e, ih (n + 1) (by omega), show n + 1 + k = n + (k + 1) from by omega]

/-- What is written is read back. -/
theorem dec_back (s : List UInt8) : dec (allBits (enc s 0 0)) [] 0 0 = if s.length ≤ 4096 then (s, 0) else ([], 23) := by
  rw [enc_bits s 0 0 (by omega) (by omega)]
  show dec ([] ++ strBits s ++ _) [] 0 0 = _
  rw [List.nil_append, dec_str s _ [] (by simp)]
  simp only [List.length_nil, Nat.zero_add, List.nil_append]
  split
  · have := dec_ones s ((8 - bitLen s % 8) % 8) 0 (by omega)
    rw [Nat.zero_add, if_neg (by omega)] at this
    exact this
  · rfl

end Go.Proofs.Yteopmaaghhendaa

/-
  The codes in their order: where each sign stands in it. No program is named here.
-/
namespace Go.Proofs.Yteopmaaghhendaa
set_option linter.unusedVariables false

/-- The place of sign s in the order of the codes. -/
def pos (s : Nat) : Nat := pl (ll s) + (cw s - fi (ll s))
/-- The code and the length of the sign at place q - 1. -/
def cs (q : Nat) : Nat := if q = 0 then 0 else cw (orr (q - 1))
def hs (q : Nat) : Nat := if q = 0 then 0 else ll (orr (q - 1))
/-- How many signs have fewer than n bits. -/
def pq (n : Nat) : Nat := pl (n - 1) + co (n - 1)

theorem pos_orr {s : Nat} (h : s < 257) : orr (pos s) = s := (sign_facts s h).2.2.2.2.2
theorem pos_lt {s : Nat} (h : s < 257) : pos s < 257 := by
  have h1 := sign_facts s h
  have h2 := (place_facts (ll s) (by omega)).2.1
  unfold pos
  omega
theorem pos_inj {s k : Nat} (hs : s < 257) (hk : k < 257) (h : pos s = pos k) : s = k := by
  have h1 := pos_orr hs
  rw [h, pos_orr hk] at h1
  exact h1.symm
theorem step_facts : ∀ s, s < 257 → (pos s = 0 → cw s = 0) ∧ (0 < pos s → 5 ≤ hs (pos s) ∧ hs (pos s) ≤ ll s ∧ (cs (pos s) + 1) * 2 ^ (ll s - hs (pos s)) = cw s ∧ cs (pos s) < 1073741824) := by decide +kernel
theorem after_facts : ∀ s, s < 257 → cs (pos s + 1) = cw s ∧ hs (pos s + 1) = ll s := by decide +kernel
set_option maxRecDepth 100000 in
theorem here_facts : ∀ s, s < 257 → pq (ll s) + (LL.take s).count (ll s) = pos s := by decide +kernel
set_option maxRecDepth 100000 in
theorem row_facts : ∀ n, n < 31 → 5 ≤ n → pq n + (LL.take 257).count n = pq (n + 1) := by decide +kernel
theorem ends_facts : pq 5 = 0 ∧ pq 31 = 257 ∧ cs 0 = 0 ∧ hs 0 = 0 := by decide +kernel
end Go.Proofs.Yteopmaaghhendaa

/-
  The writer's word of 64 bits against the document's bits. No program is named here.
-/
namespace Go.Proofs.Yteopmaaghhendaa
set_option linter.unusedVariables false

/-- The next word: l bits more, in 64. -/
def hnw (w l c : Nat) : Nat := w * 2 ^ l % 18446744073709551616 + c

theorem p64 : (18446744073709551616 : Nat) = 2 ^ 64 := by decide
theorem nw_split (w l : Nat) (hl : l ≤ 30) : w * 2 ^ l % 18446744073709551616 = w % 2 ^ (64 - l) * 2 ^ l := by
  rw [p64, show (2:Nat) ^ 64 = 2 ^ (64 - l) * 2 ^ l from by rw [← Nat.pow_add]; congr 1; omega, Nat.mul_mod_mul_right]
theorem nw_or (w l c : Nat) (hl : l ≤ 30) (hc : c < 2 ^ l) : w * 2 ^ l % 18446744073709551616 ||| c = hnw w l c := by
  unfold hnw
  rw [nw_split w l hl, ← Nat.shiftLeft_eq, Nat.shiftLeft_add_eq_or_of_lt hc]
/-- The byte that fills up. -/
theorem last_or (w n : Nat) (h0 : 0 < n) (hn : n < 8) : (w * 2 ^ (8 - n)) % 256 ||| (2 ^ (8 - n) - 1) = w % 2 ^ n * 2 ^ (8 - n) + (2 ^ (8 - n) - 1) := by
  have e : w * 2 ^ (8 - n) % 256 = w % 2 ^ n * 2 ^ (8 - n) := by
    rw [show (256 : Nat) = 2 ^ n * 2 ^ (8 - n) from by rw [← Nat.pow_add, show n + (8 - n) = 8 from by omega], Nat.mul_mod_mul_right]
  have hp := Nat.two_pow_pos (8 - n)
  rw [e, ← Nat.shiftLeft_eq, Nat.shiftLeft_add_eq_or_of_lt (by omega)]
theorem last_lt (w n : Nat) (h0 : 0 < n) (hn : n < 8) : w % 2 ^ n * 2 ^ (8 - n) + (2 ^ (8 - n) - 1) < 256 := by
  have h1 : w % 2 ^ n < 2 ^ n := Nat.mod_lt _ (Nat.two_pow_pos _)
  have h2 : (w % 2 ^ n + 1) * 2 ^ (8 - n) ≤ 2 ^ n * 2 ^ (8 - n) := Nat.mul_le_mul_right _ h1
  rw [Nat.add_mul, Nat.one_mul, ← Nat.pow_add, show n + (8 - n) = 8 from by omega] at h2
  have hp := Nat.two_pow_pos (8 - n)
  omega

theorem emit_next (w t : Nat) (h : 8 ≤ t) : emit (t / 8) w t = UInt8.ofNat (w / 2 ^ (t - 8) % 256) :: emit ((t - 8) / 8) w (t - 8) := by
  rw [show t / 8 = (t - 8) / 8 + 1 from by omega, emit]
theorem emit_done (w t : Nat) (h : t < 8) : emit (t / 8) w t = [] := by
  rw [Nat.div_eq_of_lt h]; rfl

end Go.Proofs.Yteopmaaghhendaa
