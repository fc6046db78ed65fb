/-
  Texts put together: QdM, QbMath, QoB.
-/
import Derived.Test.YteopmaaghhendaaM23
import Derived.Test.YteopmaaghhendaaM21
import Derived.Test.YteopmaaghhendaaM18
import Derived.Test.YteopmaaghhendaaM17
import Derived.Test.YteopmaaghhendaaM20

/-
  Contract of the document's lines of a section, for lines as they are written: the whole.
-/
namespace Go.Proofs.Yteopmaaghhendaa
open Go.RowKit Go.Maps
set_option linter.unusedVariables false

section
variable {q t c g0 G k : Nat} {T : Tab} {S1 : Nat → Prop} {w w2 wx : World} {b b' : List UInt8} {out l : List Fd} {bw ov : Value} {f : Fd}
end
end Go.Proofs.Yteopmaaghhendaa

/-
  QPACK read back, as plain mathematics: what the encoder writes, the decoder reads: strings, insertions, lines, a section's beginning.
-/
namespace Go.Proofs.Yteopmaaghhendaa
open Go.RowKit
set_option linter.unusedVariables false
set_option linter.unusedSimpArgs false

theorem preFirst_nat (f : UInt8) {k : Nat} (h1 : 1 ≤ k) (h8 : k ≤ 8) (v : Nat) : (preFirst f k v).toNat = f.toNat / 2 ^ k * 2 ^ k + min v (2 ^ k - 1) := by
  have h := preFirst_val f h1 h8 v
  unfold hiOf at h
  omega
theorem preFirst_div (f : UInt8) {k : Nat} (h1 : 1 ≤ k) (h8 : k ≤ 8) (v : Nat) : (preFirst f k v).toNat / 2 ^ k = f.toNat / 2 ^ k := by
  have h := preFirst_nat f h1 h8 v
  have hp := Nat.two_pow_pos k
  have hm : min v (2 ^ k - 1) < 2 ^ k := Nat.lt_of_le_of_lt (Nat.min_le_right _ _) (by omega)
  rw [h, Nat.mul_comm, Nat.mul_add_div hp, Nat.div_eq_of_lt hm, Nat.add_zero]
theorem pre_headN (f : UInt8) (k v : Nat) (r : List UInt8) : headN (pre f k v ++ r) = (preFirst f k v).toNat := by
  obtain ⟨t, ht⟩ := pre_ne f k v
  rw [ht]
  rfl
theorem pre_headD (f : UInt8) (k v : Nat) (r : List UInt8) : (pre f k v ++ r).headD 0 = preFirst f k v := by
  obtain ⟨t, ht⟩ := pre_ne f k v
  rw [ht]
  rfl
/-- A string in a prefix of k bits is read back. -/
theorem sb_putSk (f : UInt8) {k : Nat} (h1 : 1 ≤ k) (h7 : k ≤ 7) (hf : f.toNat / 2 ^ k % 2 = 0) (hh : (hiB f k).toNat / 2 ^ k % 2 = 1) (s rest : List UInt8) (hs : s.length ≤ 4096) : sb k (putSk f k s ++ rest) = (s, ((putSk f k s).length : Int), 0) := by
  unfold putSk
  split
  · rename_i hlt
    have he : (enc s 0 0).length ≤ 4096 := by rw [enc0_length]; omega
    have hr := rp_pre (hiB f k) k (enc s 0 0).length h1 (by omega) (by omega) (enc s 0 0 ++ rest)
    rw [if_pos (by unfold maxVar; omega), ← List.append_assoc] at hr
    have hc : ¬ ((pre (hiB f k) k (enc s 0 0).length ++ enc s 0 0 ++ rest).headD 0).toNat / 2 ^ k % 2 = 0 := by
      rw [List.append_assoc, pre_headD, preFirst_div _ h1 (by omega), hh]
      decide
    have hd := dec_back s
    rw [if_pos hs] at hd
    rw [sb_coded hr (by omega) (by simp only [List.length_append]; omega) hc (R := (s, 0)) (by rw [body_of]; exact hd) rfl, List.length_append]
    simp
  · have hr := rp_pre f k s.length h1 (by omega) (by omega) (s ++ rest)
    rw [if_pos (by unfold maxVar; omega), ← List.append_assoc] at hr
    have hc : ((pre f k s.length ++ s ++ rest).headD 0).toNat / 2 ^ k % 2 = 0 := by
      rw [List.append_assoc, pre_headD, preFirst_div _ h1 (by omega), hf]
    rw [sb_plain hr (by omega) (by simp only [List.length_append]; omega) hc, body_of, List.length_append]
    simp
theorem putSk_head (f : UInt8) {k : Nat} (h1 : 1 ≤ k) (h7 : k ≤ 7) (s r : List UInt8) : headN (putSk f k s ++ r) / 2 ^ k = f.toNat / 2 ^ k ∨ headN (putSk f k s ++ r) / 2 ^ k = (hiB f k).toNat / 2 ^ k := by
  unfold putSk
  split
  · right
    rw [List.append_assoc, pre_headN, preFirst_div _ h1 (by omega)]
  · left
    rw [List.append_assoc, pre_headN, preFirst_div _ h1 (by omega)]
theorem putSk_pos (f : UInt8) (k : Nat) (s : List UInt8) : 1 ≤ (putSk f k s).length := by
  unfold putSk
  split
  · have := (pre_len (hiB f k) k (enc s 0 0).length).1; rw [List.length_append]; omega
  · have := (pre_len f k s.length).1; rw [List.length_append]; omega
theorem fd_eta (f : Fd) : (f.1, bstr f.2.data.toList) = f := by rw [bstr_data]
theorem data_len (u : ByteArray) : u.data.toList.length = u.size := Array.length_toList
theorem ent3 {i : Nat} {g : Fd} (h : T3[i]? = some g) : entF T3 0 i = g ∧ isF T3 0 i = true ∧ i < 99 := by
  obtain ⟨h1, h2⟩ := List.getElem?_eq_some_iff.1 h
  have hl := t3_len
  refine ⟨?_, ?_, by omega⟩
  · unfold entF
    rw [dif_pos ⟨Nat.zero_le _, by omega⟩]
    simpa using h2
  · unfold isF
    exact decide_eq_true ⟨Nat.zero_le _, by omega⟩
theorem tail_W {T : Tab} {name : ByteArray} {p r : List UInt8} {f : Fd} (hn : name = f.1) (hc : fsz f + 32 ≤ T.cap) (h2 : f.2.size ≤ 4096) :
    tailP T name p.length (p ++ (putSk 0 7 f.2.data.toList ++ r)) = ((p ++ putSk 0 7 f.2.data.toList).length, 0, T.add f) := by
  subst hn
  have hs := sb_putSk 0 (k := 7) (by decide) (by decide) rfl (by decide) f.2.data.toList r (by rw [data_len]; exact h2)
  unfold tailP
  rw [List.drop_left' rfl, hs]
  simp only [ne_eq, not_true, if_false, fd_eta, Int.toNat_natCast, List.length_append]
  rw [if_neg (by omega)]
/-- An insertion is read back. -/
theorem insP_W (mx : Nat) {T : Tab} {f : Fd} (hc : fsz f + 32 ≤ T.cap) (h1 : f.1.size ≤ 4096) (h2 : f.2.size ≤ 4096) (r : List UInt8) : insP mx T (insW f ++ r) = ((insW f).length, 0, T.add f) := by
  unfold insW
  cases hn : (findS T3 f).2.1 with
  | true =>
    obtain ⟨hi, he⟩ := findS_name hn
    generalize (findS T3 f).1 = i at hi he
    have h3 := ent3 (List.getElem?_eq_getElem hi)
    simp only [if_true]
    rw [List.append_assoc]
    have hh : 192 ≤ headN (pre 192 6 i ++ (putSk 0 7 f.2.data.toList ++ r)) := by
      rw [pre_headN, preFirst_nat _ (by decide) (by decide)]
      exact Nat.le_add_right _ _
    have hr := rp_pre 192 6 i (by decide) (by decide) (by omega) (putSk 0 7 f.2.data.toList ++ r)
    rw [if_pos (by unfold maxVar; omega)] at hr
    unfold insP
    rw [if_pos (by omega), hr]
    simp only [ne_eq, not_true, if_false, Int.toNat_natCast]
    rw [if_neg (by omega), if_pos h3.2.1]
    exact tail_W (by rw [h3.1]; exact he) hc h2
  | false =>
    simp only [Bool.false_eq_true, if_false]
    rw [List.append_assoc]
    have hh : 64 ≤ headN (putSk 64 5 f.1.data.toList ++ (putSk 0 7 f.2.data.toList ++ r)) ∧ headN (putSk 64 5 f.1.data.toList ++ (putSk 0 7 f.2.data.toList ++ r)) < 128 := by
      have h := putSk_head 64 (k := 5) (by decide) (by decide) f.1.data.toList (putSk 0 7 f.2.data.toList ++ r)
      generalize headN (putSk 64 5 f.1.data.toList ++ (putSk 0 7 f.2.data.toList ++ r)) = x at h
      rw [show (64 : UInt8).toNat / 2 ^ 5 = 2 from rfl, show (hiB 64 5).toNat / 2 ^ 5 = 3 from by decide] at h
      omega
    have hs := sb_putSk 64 (k := 5) (by decide) (by decide) rfl (by decide) f.1.data.toList (putSk 0 7 f.2.data.toList ++ r) (by rw [data_len]; exact h1)
    unfold insP
    rw [if_neg (by omega), if_pos hh.1, hs]
    simp only [ne_eq, not_true, if_false, Int.toNat_natCast]
    exact tail_W (bstr_data _) hc h2
/-- A capacity is read back. -/
theorem insP_cap (mx : Nat) (T : Tab) (cap : Nat) (hc : cap ≤ mx) (hm : mx ≤ 4096) (r : List UInt8) : insP mx T (pre 32 5 cap ++ r) = ((pre 32 5 cap).length, 0, T.resize cap) := by
  have hh : headN (pre 32 5 cap ++ r) / 2 ^ 5 = 1 := by
    rw [pre_headN, preFirst_div _ (by decide) (by decide)]
    rfl
  have hr := rp_pre 32 5 cap (by decide) (by decide) (by omega) r
  rw [if_pos (by unfold maxVar; omega)] at hr
  unfold insP
  rw [if_neg (by omega), if_neg (by omega), if_pos (by omega), hr]
  simp only [ne_eq, not_true, if_false, Int.toNat_natCast]
  rw [if_neg (by omega)]
theorem Feeds.cons_ {mx n : Nat} {T T1 T' : Tab} {x r : List UInt8} (hx : 1 ≤ x.length) (h : insP mx T (x ++ r) = (x.length, 0, T1)) (hf : Feeds mx n T1 r T') : Feeds mx (n + 1) T (x ++ r) T' :=
  .inr ⟨x.length, T1, (fun e => by have := congrArg List.length e; rw [List.length_append] at this; simp at this; simp [this] at hx), h, hx, by rw [List.length_append]; omega, by rw [List.drop_left' rfl]; exact hf⟩
theorem insW_pos (f : Fd) : 1 ≤ (insW f).length := by
  unfold insW
  rw [List.length_append]
  have := putSk_pos 0 7 f.2.data.toList
  omega
theorem qstep_ins (op : List Qs) (K : Nat) (free : Bool) (a : Qa) (f : Fd) : ((qstep op K free a f).ins = a.ins ∧ (qstep op K free a f).T = a.T) ∨ ((qstep op K free a f).ins = a.ins ++ insW f ∧ (qstep op K free a f).T = a.T.add f ∧ roomQ op K a.T f a.u = true) := by
  unfold qstep
  split
  · exact .inl ⟨rfl, rfl⟩
  · split
    · exact .inl ⟨rfl, rfl⟩
    · split
      · rename_i h
        simp only [Bool.and_eq_true] at h
        split
        · exact .inr ⟨rfl, rfl, h.2⟩
        · exact .inr ⟨rfl, rfl, h.2⟩
      · exact .inl ⟨rfl, rfl⟩
/-- What a run orders is read back. -/
theorem qrun_feeds (mx : Nat) (op : List Qs) (K : Nat) (free : Bool) : ∀ (l : List Fd) (a : Qa), a.T.cap ≤ 4096 → ∃ d n, (qrun op K free l a).ins = a.ins ++ d ∧ Feeds mx n a.T d (qrun op K free l a).T
  | [], a, _ => ⟨[], 0, by simp [qrun], rfl, rfl⟩
  | f :: l, a, hc => by
    have hs := qstep_ins op K free a f
    rcases hs with ⟨e1, e2⟩ | ⟨e1, e2, hr⟩
    · obtain ⟨d, n, h1, h2⟩ := qrun_feeds mx op K free l (qstep op K free a f) (by rw [e2]; exact hc)
      refine ⟨d, n, ?_, ?_⟩
      · show (qrun op K free l (qstep op K free a f)).ins = _
        rw [h1, e1]
      · rw [e2] at h2
        exact h2
    · obtain ⟨_, hsz, _⟩ := roomQ_size hr
      have hfit : fsz f + 32 ≤ a.T.cap := by omega
      have hcap := a.T.add_cap f
      obtain ⟨d, n, h1, h2⟩ := qrun_feeds mx op K free l (qstep op K free a f) (by rw [e2, hcap]; exact hc)
      have h1s : f.1.size ≤ 4096 := by unfold fsz at hsz; omega
      have h2s : f.2.size ≤ 4096 := by unfold fsz at hsz; omega
      refine ⟨insW f ++ d, n + 1, ?_, ?_⟩
      · show (qrun op K free l (qstep op K free a f)).ins = _
        rw [h1, e1, List.append_assoc]
      · rw [e2] at h2
        exact Feeds.cons_ (insW_pos f) (insP_W mx hfit h1s h2s d) h2
/-- The decoder's table ahead of a section: none yet, or the encoder's. -/
def tabD (E : Qe) : Tab := if E.said then E.T else ⟨[], 0, 0⟩
theorem acc_feeds (mx : Nat) (E : Qe) (s : Nat) (l : List Fd) (hc : E.T.cap ≤ mx) (hm : mx ≤ 4096) (h0 : E.said = false → E.T.l = [] ∧ E.T.tot = 0) : ∃ n, Feeds mx n (tabD E) (E.acc s l).ins (E.acc s l).T := by
  obtain ⟨d, n, h1, h2⟩ := qrun_feeds mx E.op E.K (freeQ E.op E.K E.B s) l ⟨E.T, capW E.said E.T.cap, [], [], 0⟩ (by show E.T.cap ≤ 4096; omega)
  have h1' : (E.acc s l).ins = capW E.said E.T.cap ++ d := h1
  have h2' : Feeds mx n E.T d (E.acc s l).T := h2
  rw [h1']
  unfold tabD capW
  cases hs : E.said with
  | true => exact ⟨n, by simpa using h2'⟩
  | false =>
    obtain ⟨e1, e2⟩ := h0 hs
    have hT : E.T = ⟨[], E.T.cap, 0⟩ := by
      rw [← e1, ← e2]
    by_cases h : 0 < E.T.cap
    · have hres : (⟨[], 0, 0⟩ : Tab).resize (E.T.cap : Int) = E.T := by
        rw [hT]
        rfl
      refine ⟨n + 1, ?_⟩
      simp only [h, decide_true, Bool.not_false, Bool.and_self, if_true, Bool.false_eq_true, if_false]
      refine Feeds.cons_ (pre_len _ _ _).1 (insP_cap mx _ _ hc hm d) ?_
      rw [hres]
      exact h2'
    · have hz : E.T = ⟨[], 0, 0⟩ := by rw [hT]; congr 1; omega
      refine ⟨n, ?_⟩
      simp only [h, decide_false, Bool.and_false, Bool.false_eq_true, if_false, List.nil_append]
      rw [hz] at h2'
      exact h2'

/-! ### lines -/
theorem mask16 : ∀ c, c < 256 → c / 16 % 2 = 1 → c &&& 16 ≠ 0 := by decide +kernel
theorem lineW_rd {T : Tab} {u : List Nat} {c : Nat} {x : Ql} (h : okL T u c x) (h1 : x.f.1.size ≤ 4096) (h2 : x.f.2.size ≤ 4096) (hc : c ≤ 1000000) (r : List UInt8) : lineW c x ++ r ≠ [] ∧ RdL T c (lineW c x ++ r) x.f r := by
  have hv := sb_putSk 0 (k := 7) (by decide) (by decide) rfl (by decide) x.f.2.data.toList r (by rw [data_len]; exact h2)
  have hpos : ∀ (y : UInt8) (k v : Nat) (z : List UInt8), pre y k v ++ z ≠ [] := fun y k v z e => by
    have := congrArg List.length e
    have h := (pre_len y k v).1
    rw [List.length_append] at this
    simp at this
    simp [this] at h
  rcases h with ⟨hk, hi⟩ | ⟨hk, _, hlt, hh⟩ | ⟨hk, g, hi, hg⟩ | hk
  · have he : lineW c x = pre 192 6 x.i := by unfold lineW; rw [if_pos hk]
    rw [he]
    have hb := (ent3 hi).2.2
    have hr := rp_pre 192 6 x.i (by decide) (by decide) (by omega) r
    rw [if_pos (by unfold maxVar; omega)] at hr
    refine ⟨hpos _ _ _ _, .inl ⟨?_, x.i, _, hr, by omega, hi, by rw [List.length_append]; omega, by rw [List.drop_left' rfl]⟩⟩
    rw [pre_headN, preFirst_nat _ (by decide) (by decide)]
    exact Nat.le_add_right _ _
  · have he : lineW c x = pre 128 6 (c - 1 - x.i) := by unfold lineW; rw [if_neg (by omega), if_pos hk]
    rw [he]
    have hr := rp_pre 128 6 (c - 1 - x.i) (by decide) (by decide) (by omega) r
    rw [if_pos (by unfold maxVar; omega)] at hr
    have hd : headN (pre 128 6 (c - 1 - x.i) ++ r) / 2 ^ 6 = 2 := by
      rw [pre_headN, preFirst_div _ (by decide) (by decide)]
      rfl
    refine ⟨hpos _ _ _ _, .inr (.inl ⟨by omega, by omega, c - 1 - x.i, _, hr, by omega, ?_, by rw [List.length_append]; omega, by rw [List.drop_left' rfl]⟩)⟩
    rw [show c - 1 - (c - 1 - x.i) = x.i from by omega]
    exact hh
  · obtain ⟨y, hy, hy5⟩ : ∃ y : UInt8, (if secN x.f.1 then (112 : UInt8) else 80) = y ∧ (y.toNat / 2 ^ 4 = 5 ∨ y.toNat / 2 ^ 4 = 7) := by
      refine ⟨_, rfl, ?_⟩
      split
      · exact .inr rfl
      · exact .inl rfl
    have he : lineW c x = pre y 4 x.i ++ putSk 0 7 x.f.2.data.toList := by unfold lineW; rw [if_neg (by omega), if_neg (by omega), if_pos hk, hy]
    rw [he, List.append_assoc]
    have hb := (ent3 hi).2.2
    have hr := rp_pre y 4 x.i (by decide) (by decide) (by omega) (putSk 0 7 x.f.2.data.toList ++ r)
    rw [if_pos (by unfold maxVar; omega)] at hr
    have hd : headN (pre y 4 x.i ++ (putSk 0 7 x.f.2.data.toList ++ r)) / 2 ^ 4 = y.toNat / 2 ^ 4 := by
      rw [pre_headN, preFirst_div _ (by decide) (by decide)]
    have h256 : headN (pre y 4 x.i ++ (putSk 0 7 x.f.2.data.toList ++ r)) < 256 := by rw [pre_headN]; exact (preFirst y 4 x.i).toNat_lt
    refine ⟨hpos _ _ _ _, .inr (.inr (.inl ⟨by omega, by omega, mask16 _ h256 (by omega), x.i, _, _, g, _, hr, by omega, hi, hg, by rw [List.length_append]; omega, by rw [List.drop_left' rfl]; exact hv, (bstr_data _).symm, by rw [List.drop_left' rfl, List.length_append]; omega, by rw [List.drop_left' rfl, List.drop_left' rfl]⟩))⟩
  · obtain ⟨y, hy, hy5⟩ : ∃ y : UInt8, (if secN x.f.1 then (48 : UInt8) else 32) = y ∧ (y = 48 ∨ y = 32) := by
      refine ⟨_, rfl, ?_⟩
      split
      · exact .inl rfl
      · exact .inr rfl
    have he : lineW c x = putSk y 3 x.f.1.data.toList ++ putSk 0 7 x.f.2.data.toList := by unfold lineW; rw [if_neg (by omega), if_neg (by omega), if_neg (by omega), hy]
    rw [he, List.append_assoc]
    have hn : sb 3 (putSk y 3 x.f.1.data.toList ++ (putSk 0 7 x.f.2.data.toList ++ r)) = (x.f.1.data.toList, ((putSk y 3 x.f.1.data.toList).length : Int), 0) := by
      rcases hy5 with rfl | rfl
      · exact sb_putSk 48 (k := 3) (by decide) (by decide) rfl (by decide) _ _ (by rw [data_len]; exact h1)
      · exact sb_putSk 32 (k := 3) (by decide) (by decide) rfl (by decide) _ _ (by rw [data_len]; exact h1)
    have hd := putSk_head y (k := 3) (by decide) (by decide) x.f.1.data.toList (putSk 0 7 x.f.2.data.toList ++ r)
    have hd2 : 4 ≤ headN (putSk y 3 x.f.1.data.toList ++ (putSk 0 7 x.f.2.data.toList ++ r)) / 2 ^ 3 ∧ headN (putSk y 3 x.f.1.data.toList ++ (putSk 0 7 x.f.2.data.toList ++ r)) / 2 ^ 3 ≤ 7 := by
      generalize headN (putSk y 3 x.f.1.data.toList ++ (putSk 0 7 x.f.2.data.toList ++ r)) = z at hd
      rcases hy5 with rfl | rfl
      · rw [show (48 : UInt8).toNat / 2 ^ 3 = 6 from rfl, show (hiB 48 3).toNat / 2 ^ 3 = 7 from by decide] at hd
        omega
      · rw [show (32 : UInt8).toNat / 2 ^ 3 = 4 from rfl, show (hiB 32 3).toNat / 2 ^ 3 = 5 from by decide] at hd
        omega
    refine ⟨fun e => ?_, .inr (.inr (.inr ⟨by omega, by omega, _, _, _, _, hn, (bstr_data _).symm, by rw [List.length_append]; omega, by rw [List.drop_left' rfl]; exact hv, (bstr_data _).symm, by rw [List.drop_left' rfl, List.length_append]; omega, by rw [List.drop_left' rfl, List.drop_left' rfl]⟩))⟩
    have := congrArg List.length e
    have h := putSk_pos y 3 x.f.1.data.toList
    rw [List.length_append] at this
    simp at this
    simp [this] at h
/-- Lines are read back. -/
theorem linesW_rd {T : Tab} {u : List Nat} {c : Nat} (hc : c ≤ 1000000) : ∀ (all : List Ql), (∀ x ∈ all, okL T u c x) → (∀ x ∈ all, x.f.1.size ≤ 4096 ∧ x.f.2.size ≤ 4096) → RdLs T c (linesW c all) (all.map (·.f))
  | [], _, _ => rfl
  | x :: all, h, hz => by
    obtain ⟨h1, h2⟩ := lineW_rd (h x (List.mem_cons_self ..)) (hz x (List.mem_cons_self ..)).1 (hz x (List.mem_cons_self ..)).2 hc (linesW c all)
    have ih := linesW_rd hc all (fun y hy => h y (List.mem_cons_of_mem _ hy)) (fun y hy => hz y (List.mem_cons_of_mem _ hy))
    exact ⟨h1, _, h2, by show (linesW c all).length ≤ (lineW c x ++ linesW c all).length; rw [List.length_append]; omega, ih⟩

/-! ### a section's beginning -/
end Go.Proofs.Yteopmaaghhendaa

/-
  A section's lines, as the document's encoder writes them, are what the program's decoder reads.
-/
namespace Go.Proofs.Yteopmaaghhendaa
open Go.RowKit Go.Maps
set_option linter.unusedVariables false

theorem mask16' : ∀ c, c < 256 → c &&& 16 ≠ 0 → c / 16 % 2 = 1 := by decide +kernel
theorem numP_of {k i m : Nat} {b : List UInt8} (h : rp k b = ((i : Int), (m : Int), 0)) : numP k b = some (i, b.drop m) := by
  unfold numP
  rw [h, if_pos rfl]
  simp
theorem txtP_of {m : Nat} {s b : List UInt8} (h : sb 7 b = (s, (m : Int), 0)) : txtP b = some (bstr s, b.drop m) := by
  unfold txtP
  rw [h, if_pos rfl]
  simp
theorem has_at {T : Tab} {c a : Nat} {f : Fd} (h : T.has a f) (ha : a < c) : atR T c (some a) = some f := by
  obtain ⟨h1, h2⟩ := h
  obtain ⟨h3, h4⟩ := List.getElem?_eq_some_iff.1 h2
  unfold atR
  dsimp only
  rw [if_pos ha, if_pos (by unfold isF; exact decide_eq_true ⟨h1, h3⟩)]
  unfold entF
  rw [dif_pos ⟨h1, h3⟩, h4]
theorem lineR_of {T : Tab} {c : Nat} {b b' : List UInt8} {f : Fd} (h : RdL T c b f b') : lineR T c c b = some (f, b') := by
  have h256 : headN b < 256 := (b.headD 0).toNat_lt
  unfold lineR
  rcases h with ⟨h1, i, m, hr, _, ht, _, rfl⟩ | ⟨h1, h2, i, m, hr, hi, hh, _, rfl⟩ | ⟨h1, h2, hm, i, m, m2, g, sv, hr, _, ht, hg, _, hv, hf, _, rfl⟩ | ⟨h1, h2, m, m2, sn, sv, hn, hf1, _, hv, hf2, _, rfl⟩
  · rw [if_pos (by omega)]
    unfold entR
    rw [numP_of hr]
    dsimp only
    obtain ⟨e1, e2, _⟩ := ent3 ht
    rw [if_pos (by show headN b / 64 % 2 = 1; omega), if_pos e2, e1]
  · rw [if_pos h1]
    unfold entR
    rw [numP_of hr]
    dsimp only
    rw [if_neg (by show ¬ headN b / 64 % 2 = 1; omega)]
    have hrel : relN c i = some (c - 1 - i) := by unfold relN; rw [if_pos hi]
    rw [hrel, has_at hh (by omega)]
  · rw [if_neg (by omega), if_pos h1]
    unfold entR
    rw [numP_of hr]
    dsimp only
    obtain ⟨e1, e2, _⟩ := ent3 ht
    rw [if_pos (by show headN b / 16 % 2 = 1; exact mask16' _ h256 hm), if_pos e2, e1]
    unfold valR
    dsimp only
    rw [txtP_of hv]
    dsimp only
    rw [hg, ← hf]
  · rw [if_neg (by omega), if_neg (by omega), if_pos h1]
    unfold nmdR
    rw [hn]
    dsimp only
    rw [if_pos rfl]
    unfold valR
    dsimp only
    rw [Int.toNat_natCast, txtP_of hv]
    dsimp only
    rw [← hf1, ← hf2]
theorem rdl_less {T : Tab} {c : Nat} {b b' : List UInt8} {f : Fd} (h : RdL T c b f b') (hb : b ≠ []) : b'.length < b.length := by
  have hp := List.length_pos_iff.2 hb
  have pos : ∀ {k i m : Nat} {b : List UInt8}, rp k b = ((i : Int), (m : Int), 0) → 1 ≤ m := fun {k i m b} h => by
    rcases rp_cases k b with e | e | ⟨n, m', e, h1, h2, h3⟩
    · rw [h] at e; injection e with _ e; injection e with _ e; exact absurd e (by decide)
    · rw [h] at e; injection e with _ e; injection e with _ e; exact absurd e (by decide)
    · rw [h] at e; injection e with _ e; injection e with e _; omega
  have pos2 : ∀ {k m : Nat} {s b : List UInt8}, sb k b = (s, (m : Int), 0) → 1 ≤ m := fun {k m s b} h => by
    rcases sb_casesK k b with ⟨e, he, hs⟩ | ⟨s', m', hs, h1, h2, h3⟩
    · rw [h] at hs; injection hs with _ hs; injection hs with _ hs; exact absurd hs.symm he
    · rw [h] at hs; injection hs with _ hs; injection hs with hs _; omega
  rcases h with ⟨h1, i, m, hr, _, ht, _, rfl⟩ | ⟨h1, h2, i, m, hr, hi, hh, _, rfl⟩ | ⟨h1, h2, hm, i, m, m2, g, sv, hr, _, ht, hg, _, hv, hf, _, rfl⟩ | ⟨h1, h2, m, m2, sn, sv, hn, hf1, _, hv, hf2, _, rfl⟩
  · have := pos hr; rw [List.length_drop]; omega
  · have := pos hr; rw [List.length_drop]; omega
  · have := pos hr; rw [List.length_drop, List.length_drop]; omega
  · have := pos2 hn; rw [List.length_drop, List.length_drop]; omega
theorem linesR_of {T : Tab} {c : Nat} : ∀ (l out : List Fd) (n : Nat) (b : List UInt8), RdLs T c b l → b.length ≤ n → out.length + l.length ≤ 64 → linesR T c c n out b = some (out ++ l)
  | [], out, n, b, h, _, _ => by
    have h : b = [] := h
    subst h
    cases n <;> simp [linesR]
  | f :: l, out, n, b, h, hn, ho => by
    obtain ⟨hb, b', h1, _, h2⟩ := h
    have hlt := rdl_less h1 hb
    simp only [List.length_cons] at ho
    match n, hn with
    | 0, hn => have := List.length_pos_iff.2 hb; omega
    | n + 1, hn =>
      unfold linesR
      rw [if_neg hb, lineR_of h1]
      dsimp only
      rw [if_neg (by omega), linesR_of l (out ++ [f]) n b' h2 (by omega) (by simp; omega), List.append_assoc]
      rfl
end Go.Proofs.Yteopmaaghhendaa
