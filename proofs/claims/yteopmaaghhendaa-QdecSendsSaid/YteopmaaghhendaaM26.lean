/-
  Texts put together: QrY.
-/
import Derived.Test.YteopmaaghhendaaM25
import Derived.Test.YteopmaaghhendaaM07
import Derived.Test.YteopmaaghhendaaM14

/-
  Rows of bytes beside the decoder, as the laws write them; bifoldlaw10.QdecSends as mathematics.
-/
namespace Go.Proofs.Yteopmaaghhendaa
open Go.RowKit Go.Maps
set_option linter.unusedVariables false
set_option linter.unusedSimpArgs false

theorem Fw.turn {v v' : Value} {l l' : List UInt8} {w w' : World} {S : Nat → Prop} (h : Owb v l w S) (hf : Fw w v w' v') (ho : OwB w' 0 v' l') : Turn (Owb v' l') S w w' := by
  obtain ⟨h1, h2⟩ := h
  obtain ⟨hg, hb⟩ := hf
  refine ⟨_, ⟨ho, fun k => Iff.rfl⟩, fun k hk => ?_, Fp.of_grown hg fun k hk => (h2 k).2 hk⟩
  rcases hb with e | ⟨g, e, hge⟩
  · exact .inl ((h2 k).2 (e ▸ hk))
  · rw [e] at hk
    injection hk with hk
    exact .inr (hk ▸ hge)
section
variable {B : Nat} {X : Wx} {w w' : World} {v v' : Value} {l l' : List UInt8}
theorem Up.row (hX : Wd X) (h : Up B (Both X (Owb v l)) w) (hB : B ≤ w.heap.size) (hf : Fw w v w' v') (ho : OwB w' 0 v' l') : Up B (Both X (Owb v' l')) w' ∧ Below B w w' := by
  obtain ⟨S, ⟨S1, S2, h1, h2, h3, h4⟩, h5⟩ := h
  exact Up.turn h5 hB (Both.right hX h1 h3 h4 (Fw.turn h2 hf ho))
theorem Up.owb (h : Up B (Both X (Owb v l)) w) : OwB w 0 v l := by
  obtain ⟨S, h, _⟩ := h.snd
  exact h.1
theorem Up.none_ (h : Up B (Both X Nw) w) : Up B (Both X (Owb (.slice none 0 0) [])) w := by
  obtain ⟨S, ⟨S1, S2, h1, h2, h3, h4⟩, h5⟩ := h
  exact ⟨S, ⟨S1, S2, h1, ⟨OwB.nil _ _, fun k => by simp [Value.ownBlock]; exact h2 k⟩, h3, h4⟩, h5⟩
/-- The document's Prefix, appended to a row beside. -/
theorem up_pref (hX : Wd X) (h : Up B (Both X (Owb v l)) w) (hB : B ≤ w.heap.size) (f : UInt8) (F : Int) (hF : (f.toNat : Int) = F) (n : Int) (k : Nat) (hk : bitsOf n = k) (x : Nat) (V : Int) (hV : (x : Int) = V) (hl : l.length ≤ 200000) (hx : x < 18446744073709551616) :
    Calls Try.prog 23 #[v, .int .u8 F, .int .i64 n, .int .u64 V] w fun e w' => ∃ v', e = .returned v' ∧ Up B (Both X (Owb v' (l ++ pre f k x))) w' ∧ Below B w w' := by
  subst hF hk hV
  refine (refPrefix_fw 0 v l f n x w h.owb (Nat.zero_le _) hl hx).mono ?_
  rintro e w' ⟨v', rfl, ho, _, hf⟩
  obtain ⟨hu, hb⟩ := h.row hX hB hf ho
  exact ⟨v', rfl, hu, hb⟩
end

theorem Up.pick {B : Nat} {X F Y Z : Wx} {w : World} (h : Up B (Both X (Both F (Both Y Z))) w) : Up B (Both X Y) w := by
  obtain ⟨S, ⟨S1, S2, h1, ⟨S3, S4, k1, ⟨S5, S6, m1, m2, m3, m4⟩, k3, k4⟩, h3, h4⟩, h5⟩ := h
  exact ⟨fun k => S1 k ∨ S5 k, ⟨S1, S5, h1, m1, fun k a b => h3 k a ((k4 k).2 (.inr ((m4 k).2 (.inl b)))), fun k => Iff.rfl⟩, fun k hk => hk.elim (fun hk => h5 k ((h4 k).2 (.inl hk))) fun hk => h5 k ((h4 k).2 (.inr ((k4 k).2 (.inr ((m4 k).2 (.inl hk))))))⟩
theorem Up.owbs {B : Nat} {w : World} {v : Value} {l : List UInt8} (h : Up B (Owb v l) w) : Bs w v l := by
  obtain ⟨S, h, _⟩ := h
  exact h.1.bs
theorem Up.ofOwb {B B' : Nat} {w : World} {v : Value} {l : List UInt8} (h : OwB w B v l) (hB : B' ≤ B) : Up B' (Owb v l) w := ⟨_, ⟨h.mono (Nat.zero_le _), fun k => Iff.rfl⟩, fun k hk => Nat.le_trans hB (h.ge hk)⟩

/-! ### QdecSends -/
def sEnt (i : Nat) : Fd := (⟨#[UInt8.ofNat (97 + i)]⟩, ⟨#[]⟩)
def sIns : Nat → List UInt8
  | 0 => pre 32 5 4096
  | i + 1 => sIns i ++ [65, UInt8.ofNat (97 + i), 0]
def sTab (N : Nat) : Tab := ⟨(List.range N).map sEnt, 4096, N⟩
def sQ (N : Nat) : Qr := ⟨sTab N, 4096, 4, [], none, [], false, [], 0⟩
theorem s_feed : ∀ N, N ≤ 5 → (Qr.new 4096 4).feed (sIns N) = (sQ N, 0)
  | 0, _ => by kernel_rfl
  | 1, _ => by kernel_rfl
  | 2, _ => by kernel_rfl
  | 3, _ => by kernel_rfl
  | 4, _ => by kernel_rfl
  | 5, _ => by kernel_rfl
  | n + 6, h => by omega
def sRd (N c : Nat) : Prop := qrd (qpre c c 128 ++ [128]) N (mostN 4096) = ((c : Int), (c : Int), 2, 0) ∧ (qpre c c 128 ++ [128]).length = 3 ∧ linesR (sTab N) c c ((qpre c c 128 ++ [128]).drop 2).length [] ((qpre c c 128 ++ [128]).drop 2) = some [sEnt (c - 1)]
theorem s_read11 : sRd 1 1 := ⟨by kernel_rfl, by kernel_rfl, by kernel_rfl⟩
theorem s_read21 : sRd 2 1 := ⟨by kernel_rfl, by kernel_rfl, by kernel_rfl⟩
theorem s_read22 : sRd 2 2 := ⟨by kernel_rfl, by kernel_rfl, by kernel_rfl⟩
theorem s_read31 : sRd 3 1 := ⟨by kernel_rfl, by kernel_rfl, by kernel_rfl⟩
theorem s_read32 : sRd 3 2 := ⟨by kernel_rfl, by kernel_rfl, by kernel_rfl⟩
theorem s_read33 : sRd 3 3 := ⟨by kernel_rfl, by kernel_rfl, by kernel_rfl⟩
theorem s_read41 : sRd 4 1 := ⟨by kernel_rfl, by kernel_rfl, by kernel_rfl⟩
theorem s_read42 : sRd 4 2 := ⟨by kernel_rfl, by kernel_rfl, by kernel_rfl⟩
theorem s_read43 : sRd 4 3 := ⟨by kernel_rfl, by kernel_rfl, by kernel_rfl⟩
theorem s_read51 : sRd 5 1 := ⟨by kernel_rfl, by kernel_rfl, by kernel_rfl⟩
theorem s_read52 : sRd 5 2 := ⟨by kernel_rfl, by kernel_rfl, by kernel_rfl⟩
theorem s_read53 : sRd 5 3 := ⟨by kernel_rfl, by kernel_rfl, by kernel_rfl⟩
theorem s_read (N c : Nat) (hN : N ≤ 5) (h1 : 1 ≤ c) (h2 : c ≤ N) (h3 : c ≤ 3) : sRd N c := by
  match N, c, hN, h1, h2, h3 with
  | 1, 1, _, _, _, _ => exact s_read11
  | 2, 1, _, _, _, _ => exact s_read21
  | 2, 2, _, _, _, _ => exact s_read22
  | 3, 1, _, _, _, _ => exact s_read31
  | 3, 2, _, _, _, _ => exact s_read32
  | 3, 3, _, _, _, _ => exact s_read33
  | 4, 1, _, _, _, _ => exact s_read41
  | 4, 2, _, _, _, _ => exact s_read42
  | 4, 3, _, _, _, _ => exact s_read43
  | 5, 1, _, _, _, _ => exact s_read51
  | 5, 2, _, _, _, _ => exact s_read52
  | 5, 3, _, _, _, _ => exact s_read53
  | 0, c, _, _, h, _ => omega
  | n + 6, c, h, _, _, _ => omega
  | n, 0, _, h, _, _ => omega
  | n, c + 4, _, _, _, h => omega
  | 1, 2, _, _, h, _ => omega
  | 1, 3, _, _, h, _ => omega
  | 2, 3, _, _, h, _ => omega
/-- What is told of j sections, of N entries. -/
def sAck : Nat → List UInt8
  | 0 => []
  | j + 1 => sAck j ++ pre 128 7 j
def sMost (N : Nat) : Nat → Nat
  | 0 => 0
  | j + 1 => max (sMost N j) (j % N + 1)
def sCan (L : List UInt8) : Nat → List UInt8
  | 0 => L
  | j + 1 => sCan L j ++ pre 64 6 (j + 100)
def aQ (N j : Nat) : Qr := ⟨sTab N, 4096, 4, [], none, [], false, sAck j, sMost N j⟩
def cQ (N j i : Nat) : Qr := ⟨sTab N, 4096, 4, [], none, [], false, sCan (sAck j) i, sMost N j⟩
theorem aQ_zero (N : Nat) : sQ N = aQ N 0 := rfl
theorem aQ_step (N j : Nat) : (aQ N j).ack j (j % N + 1) = aQ N (j + 1) := rfl
theorem cQ_step (N j i : Nat) : (cQ N j i).cancel (i + 100) = cQ N j (i + 1) := rfl
theorem sMost_le (N : Nat) (hN : 0 < N) : ∀ j, sMost N j ≤ N
  | 0 => Nat.zero_le _
  | j + 1 => Nat.max_le.2 ⟨sMost_le N hN j, Nat.mod_lt j hN⟩
theorem sAck_len : ∀ j, (sAck j).length ≤ 11 * j
  | 0 => Nat.le_refl _
  | j + 1 => by
    have := sAck_len j
    have := (pre_len 128 7 j).2
    show (sAck j ++ pre 128 7 j).length ≤ _
    rw [List.length_append]
    omega
theorem sCan_len (L : List UInt8) : ∀ j, (sCan L j).length ≤ L.length + 11 * j
  | 0 => Nat.le_refl _
  | j + 1 => by
    have := sCan_len L j
    have := (pre_len 64 6 (j + 100)).2
    show (sCan L j ++ pre 64 6 (j + 100)).length ≤ _
    rw [List.length_append]
    omega
theorem sIns_len : ∀ j, (sIns j).length ≤ 11 + 3 * j
  | 0 => (pre_len 32 5 4096).2
  | j + 1 => by
    have := sIns_len j
    show (sIns j ++ [65, UInt8.ofNat (97 + j), 0]).length ≤ _
    rw [List.length_append]
    simp
    omega
end Go.Proofs.Yteopmaaghhendaa
