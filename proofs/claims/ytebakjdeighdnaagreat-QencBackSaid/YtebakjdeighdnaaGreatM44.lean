/-
  Texts put together: QdM, QbMath.
-/
import Derived.Test.YtebakjdeighdnaaGreatM41
import Derived.Test.YtebakjdeighdnaaGreatM40
import Derived.Test.YtebakjdeighdnaaGreatM32
import Derived.Test.YtebakjdeighdnaaGreatM24

/-
  Contract of the document's lines of a section, for lines as they are written: the whole.
-/
namespace Go.Proofs.YtebakjdeighdnaaGreat
open Go.RowKit Go.Maps
set_option linter.unusedVariables false

section
variable {q t c g0 G k : Nat} {T : Tab} {S1 : Nat → Prop} {w w2 wx : World} {b b' : List UInt8} {out l : List Fd} {bw ov : Value} {f : Fd}
/-- What lines come to. -/
def LinR (w2 : World) (out : List Fd) (ac : Act) (w' : World) : Prop := ac.defers = [] ∧ OwF w' w2.heap.size (ac.tmps.getD 8 undef) out ∧ ac.tmps.getD 9 undef = .int .i64 0 ∧ Below w2.heap.size w2 w'
set_option maxRecDepth 100000 in
set_option maxHeartbeats 40000000 in
theorem lend_any (ac : Act) (hN : Lx q c g0 w2 b out ac wx) :
    Code.wp Tryz.prog (lstmt 56) (Kx (fun _ _ => False) (LinR w2 out) (fun _ _ _ => False)) ac wx := by
  obtain ⟨bw, ov, hA, hb, ho, hB⟩ := hN
  have HARGS := Bx.mk (And.intro ho hB)
  obtain ⟨u, hu, hac⟩ := lframe ac hA.z hA.d
  have h0 := (hu 0).symm.trans hA.t0
  have h1 := (hu 1).symm.trans hA.t1
  have h2 := (hu 2).symm.trans hA.t2
  have h3 := (hu 3).symm.trans hA.t3
  have h10 := (hu 10).symm.trans hA.t10
  have h11 := (hu 11).symm.trans hA.t11
  rw [hac]
  clear hac hA
  rw [h0, h1, h2, h3, h10, h11]
  clear h0 h1 h2 h3 h10 h11 hu
  conv => arg 2; whnf
  clear hb ho hB
  go_wp2_with fail
  exact Kx.ret ⟨rfl, HARGS.out.1, rfl, HARGS.out.2⟩

set_option maxRecDepth 100000 in
set_option maxHeartbeats 40000000 in
theorem lines_ok (hrt : Rt t T w S1) (c0 : w.cell? ⟨q, 0, none⟩ = some (.pointer (some ⟨t, 0, none⟩))) (hb : Bs w bw b) (hbl : b.length ≤ 900000) (hc : c ≤ 1000000) (hr : RdLs T c b l) (hl : l.length ≤ 64) :
    Calls Tryz.prog 32 #[.pointer (some ⟨q, 0, none⟩), bw, .int .u64 (c : Int), .int .u64 (c : Int)] w fun e w' => ∃ v, e = .returned (.tuple #[v, .int .i64 0]) ∧ OwF w' w.heap.size v l ∧ Below w.heap.size w w' := by
  obtain ⟨w2, hw2⟩ : ∃ w2, w.alloc (.cells C3 53) = w2 := ⟨_, rfl⟩
  obtain ⟨g0, hg0⟩ : ∃ g0, w.heap.size = g0 := ⟨_, rfl⟩
  have HH := Bx.mk (h3s_row w)
  rw [hw2, hg0] at HH
  have hb2 : Below w.heap.size w w2 := by rw [← hw2]; exact (Below.refl _ _).alloc (Nat.le_refl _) _
  have hblk : w2.heap[g0]? = some (.cells C3 53 (0, 0)) := by rw [← hw2, ← hg0]; exact heap_alloc_last w _
  have hg2 : g0 < w2.heap.size := (Array.getElem?_eq_some_iff.1 hblk).1
  have hfs3 : ∀ W, Below w2.heap.size w2 W → Fs W (.slice (some ⟨g0, 0, none⟩) 99 99) T3 := fun W hW => by
    have hk := hW.block g0 hg2
    rw [hblk] at hk
    refine ⟨some ⟨g0, 0, none⟩, 99, by rw [t3_len], by rw [t3_len]; omega, by unfold maxLen; omega, by rw [fvl_length], .inr ⟨_, rfl, fun j u hu => ?_⟩⟩
    rw [← c3_list] at hu
    rw [Addr.add_lit]
    simp only [Nat.zero_add, World.cell?, hk]
    simpa using hu
  have hwW : ∀ W, Below w2.heap.size w2 W → Below w.heap.size w W := fun W hW => hb2.trans (hW.mono hb2.size)
  have HLI : Bx (Li q t c g0 T S1 w2) := ⟨⟨fun W hW => (Wd.rt t T).keep hrt (hwW W hW), fun W hW => ((hwW W hW).cell (World.block_lt_of_cell? _ _ c0)).trans c0, hfs3, hc⟩⟩
  have HST : Bx ((∀ W, Below w2.heap.size w2 W → Bs W bw b) ∧ b.length ≤ 900000 ∧ RdLs T c b l ∧ l.length ≤ 64) := ⟨fun W hW => Rd.keep hb (hwW W hW), hbl, hr, hl⟩
  have HB2 := Bx.mk hb2
  clear hrt c0 hb hbl hc hr hl hw2 hb2 hblk hg2 hfs3 hwW hg0
  go_enter Tryz.func32, Tryz.ntmps32
  go_wp2_with (go_at_call 39; refine HH.out.mono ?_; rintro r w9 ⟨rfl, rfl⟩)
  rename_i hKq
  refine wp_loop_ghost (fun n ac2 wy => ∃ rem lr out, out ++ lr = l ∧ lr.length = n ∧ RdLs T c rem lr ∧ rem.length ≤ 900000 ∧ Lx q c g0 w9 rem out ac2 wy) l.length ?_ ?_
  · exact ⟨b, l, [], rfl, rfl, HST.out.2.2.1, HST.out.2.1, _, _, ⟨rfl, rfl, rfl, rfl, rfl, rfl, rfl, rfl⟩, HST.out.1, World.ownsRow_nil _ _ _ _, Below.refl _ _⟩
  · rintro n ac2 wy ⟨rem, lr, out, hol, hn, hrd, hrl, hN⟩
    cases lr with
    | nil =>
      have hrem : rem = [] := hrd
      subst hrem
      rw [List.append_nil] at hol
      subst hol
      refine Kx.use (lroundE_any ac2 hN) ?_ ?_ ?_
      · intro a3 w3 h; exact h.elim
      · intro a3 w3 h; exact h.elim
      · rintro i a3 w3 ⟨rfl, hN3⟩
        refine hKq _ _ ?_
        refine Kx.use (lend_any a3 hN3) ?_ ?_ ?_
        · intro a4 w4 h; exact h.elim
        · intro a4 w4 h
          obtain ⟨h1, h2, h3, h4⟩ := h
          exact ⟨h1, _, results_tmp2 Tryz.results32 _ _ _, _, by rw [h3], own_mono h2 HB2.out.size, HB2.out.trans (h4.mono HB2.out.size)⟩
        · intro i a4 w4 h; exact h.elim
    | cons f lr =>
      obtain ⟨hne, b', hr, hlb, hrest⟩ := hrd
      have hlen : out.length + (lr.length + 1) ≤ 64 := by
        have := HST.out.2.2.2
        rw [← hol] at this
        simpa using this
      refine Kx.use (lround_any ac2 HLI.out hN hrl (by omega) hne hr) ?_ ?_ ?_
      · intro a3 w3 h
        exact ⟨lr.length, by rw [← hn]; simp, b', lr, out ++ [f], by rw [List.append_assoc]; exact hol, rfl, hrest, by omega, h⟩
      · intro a3 w3 h; exact h.elim
      · intro i a3 w3 h; exact h.elim
end
end Go.Proofs.YtebakjdeighdnaaGreat

/-
  QPACK read back, as plain mathematics: what the encoder writes, the decoder reads: strings, insertions, lines, a section's beginning.
-/
namespace Go.Proofs.YtebakjdeighdnaaGreat
open Go.RowKit
set_option linter.unusedVariables false
set_option linter.unusedSimpArgs false

theorem preFirst_nat (f : UInt8) {k : Nat} (h1 : 1 ≤ k) (h8 : k ≤ 8) (v : Nat) : (preFirst f k v).toNat = f.toNat / 2 ^ k * 2 ^ k + min v (2 ^ k - 1) := by
  have h := preFirst_val f h1 h8 v
  unfold hiOf at h
  omega
theorem preFirst_div (f : UInt8) {k : Nat} (h1 : 1 ≤ k) (h8 : k ≤ 8) (v : Nat) : (preFirst f k v).toNat / 2 ^ k = f.toNat / 2 ^ k := by
  have h := preFirst_nat f h1 h8 v
  have hp := Nat.two_pow_pos k
  have hm : min v (2 ^ k - 1) < 2 ^ k := Nat.lt_of_le_of_lt (Nat.min_le_right _ _) (by omega)
  rw [h, Nat.mul_comm, Nat.mul_add_div hp, Nat.div_eq_of_lt hm, Nat.add_zero]
theorem pre_headN (f : UInt8) (k v : Nat) (r : List UInt8) : headN (pre f k v ++ r) = (preFirst f k v).toNat := by
  obtain ⟨t, ht⟩ := pre_ne f k v
  rw [ht]
  rfl
theorem pre_headD (f : UInt8) (k v : Nat) (r : List UInt8) : (pre f k v ++ r).headD 0 = preFirst f k v := by
  obtain ⟨t, ht⟩ := pre_ne f k v
  rw [ht]
  rfl
/-- A string in a prefix of k bits is read back. -/
theorem sb_putSk (f : UInt8) {k : Nat} (h1 : 1 ≤ k) (h7 : k ≤ 7) (hf : f.toNat / 2 ^ k % 2 = 0) (hh : (hiB f k).toNat / 2 ^ k % 2 = 1) (s rest : List UInt8) (hs : s.length ≤ 4096) : sb k (putSk f k s ++ rest) = (s, ((putSk f k s).length : Int), 0) := by
  unfold putSk
  split
  · rename_i hlt
    have he : (enc s 0 0).length ≤ 4096 := by rw [enc0_length]; omega
    have hr := rp_pre (hiB f k) k (enc s 0 0).length h1 (by omega) (by omega) (enc s 0 0 ++ rest)
    rw [if_pos (by unfold maxVar; omega), ← List.append_assoc] at hr
    have hc : ¬ ((pre (hiB f k) k (enc s 0 0).length ++ enc s 0 0 ++ rest).headD 0).toNat / 2 ^ k % 2 = 0 := by
      rw [List.append_assoc, pre_headD, preFirst_div _ h1 (by omega), hh]
      decide
    have hd := dec_back s
    rw [if_pos hs] at hd
    rw [sb_coded hr (by omega) (by simp only [List.length_append]; omega) hc (R := (s, 0)) (by rw [body_of]; exact hd) rfl, List.length_append]
    simp
  · have hr := rp_pre f k s.length h1 (by omega) (by omega) (s ++ rest)
    rw [if_pos (by unfold maxVar; omega), ← List.append_assoc] at hr
    have hc : ((pre f k s.length ++ s ++ rest).headD 0).toNat / 2 ^ k % 2 = 0 := by
      rw [List.append_assoc, pre_headD, preFirst_div _ h1 (by omega), hf]
    rw [sb_plain hr (by omega) (by simp only [List.length_append]; omega) hc, body_of, List.length_append]
    simp
theorem putSk_head (f : UInt8) {k : Nat} (h1 : 1 ≤ k) (h7 : k ≤ 7) (s r : List UInt8) : headN (putSk f k s ++ r) / 2 ^ k = f.toNat / 2 ^ k ∨ headN (putSk f k s ++ r) / 2 ^ k = (hiB f k).toNat / 2 ^ k := by
  unfold putSk
  split
  · right
    rw [List.append_assoc, pre_headN, preFirst_div _ h1 (by omega)]
  · left
    rw [List.append_assoc, pre_headN, preFirst_div _ h1 (by omega)]
theorem putSk_pos (f : UInt8) (k : Nat) (s : List UInt8) : 1 ≤ (putSk f k s).length := by
  unfold putSk
  split
  · have := (pre_len (hiB f k) k (enc s 0 0).length).1; rw [List.length_append]; omega
  · have := (pre_len f k s.length).1; rw [List.length_append]; omega
theorem fd_eta (f : Fd) : (f.1, bstr f.2.data.toList) = f := by rw [bstr_data]
theorem data_len (u : ByteArray) : u.data.toList.length = u.size := Array.length_toList
theorem ent3 {i : Nat} {g : Fd} (h : T3[i]? = some g) : entF T3 0 i = g ∧ isF T3 0 i = true ∧ i < 99 := by
  obtain ⟨h1, h2⟩ := List.getElem?_eq_some_iff.1 h
  have hl := t3_len
  refine ⟨?_, ?_, by omega⟩
  · unfold entF
    rw [dif_pos ⟨Nat.zero_le _, by omega⟩]
    simpa using h2
  · unfold isF
    exact decide_eq_true ⟨Nat.zero_le _, by omega⟩
theorem tail_W {T : Tab} {name : ByteArray} {p r : List UInt8} {f : Fd} (hn : name = f.1) (hc : fsz f + 32 ≤ T.cap) (h2 : f.2.size ≤ 4096) :
    tailP T name p.length (p ++ (putSk 0 7 f.2.data.toList ++ r)) = ((p ++ putSk 0 7 f.2.data.toList).length, 0, T.add f) := by
  subst hn
  have hs := sb_putSk 0 (k := 7) (by decide) (by decide) rfl (by decide) f.2.data.toList r (by rw [data_len]; exact h2)
  unfold tailP
  rw [List.drop_left' rfl, hs]
  simp only [ne_eq, not_true, if_false, fd_eta, Int.toNat_natCast, List.length_append]
  rw [if_neg (by omega)]
/-- An insertion is read back. -/
theorem insP_W (mx : Nat) {T : Tab} {f : Fd} (hc : fsz f + 32 ≤ T.cap) (h1 : f.1.size ≤ 4096) (h2 : f.2.size ≤ 4096) (r : List UInt8) : insP mx T (insW f ++ r) = ((insW f).length, 0, T.add f) := by
  unfold insW
  cases hn : (findS T3 f).2.1 with
  | true =>
    obtain ⟨hi, he⟩ := findS_name hn
    generalize (findS T3 f).1 = i at hi he
    have h3 := ent3 (List.getElem?_eq_getElem hi)
    simp only [if_true]
    rw [List.append_assoc]
    have hh : 192 ≤ headN (pre 192 6 i ++ (putSk 0 7 f.2.data.toList ++ r)) := by
      rw [pre_headN, preFirst_nat _ (by decide) (by decide)]
      exact Nat.le_add_right _ _
    have hr := rp_pre 192 6 i (by decide) (by decide) (by omega) (putSk 0 7 f.2.data.toList ++ r)
    rw [if_pos (by unfold maxVar; omega)] at hr
    unfold insP
    rw [if_pos (by omega), hr]
    simp only [ne_eq, not_true, if_false, Int.toNat_natCast]
    rw [if_neg (by omega), if_pos h3.2.1]
    exact tail_W (by rw [h3.1]; exact he) hc h2
  | false =>
    simp only [Bool.false_eq_true, if_false]
    rw [List.append_assoc]
    have hh : 64 ≤ headN (putSk 64 5 f.1.data.toList ++ (putSk 0 7 f.2.data.toList ++ r)) ∧ headN (putSk 64 5 f.1.data.toList ++ (putSk 0 7 f.2.data.toList ++ r)) < 128 := by
      have h := putSk_head 64 (k := 5) (by decide) (by decide) f.1.data.toList (putSk 0 7 f.2.data.toList ++ r)
      generalize headN (putSk 64 5 f.1.data.toList ++ (putSk 0 7 f.2.data.toList ++ r)) = x at h
      rw [show (64 : UInt8).toNat / 2 ^ 5 = 2 from rfl, show (hiB 64 5).toNat / 2 ^ 5 = 3 from by decide] at h
      omega
    have hs := sb_putSk 64 (k := 5) (by decide) (by decide) rfl (by decide) f.1.data.toList (putSk 0 7 f.2.data.toList ++ r) (by rw [data_len]; exact h1)
    unfold insP
    rw [if_neg (by omega), if_pos hh.1, hs]
    simp only [ne_eq, not_true, if_false, Int.toNat_natCast]
    exact tail_W (bstr_data _) hc h2
/-- A capacity is read back. -/
theorem insP_cap (mx : Nat) (T : Tab) (cap : Nat) (hc : cap ≤ mx) (hm : mx ≤ 4096) (r : List UInt8) : insP mx T (pre 32 5 cap ++ r) = ((pre 32 5 cap).length, 0, T.resize cap) := by
  have hh : headN (pre 32 5 cap ++ r) / 2 ^ 5 = 1 := by
    rw [pre_headN, preFirst_div _ (by decide) (by decide)]
    rfl
  have hr := rp_pre 32 5 cap (by decide) (by decide) (by omega) r
  rw [if_pos (by unfold maxVar; omega)] at hr
  unfold insP
  rw [if_neg (by omega), if_neg (by omega), if_pos (by omega), hr]
  simp only [ne_eq, not_true, if_false, Int.toNat_natCast]
  rw [if_neg (by omega)]
theorem Feeds.cons_ {mx n : Nat} {T T1 T' : Tab} {x r : List UInt8} (hx : 1 ≤ x.length) (h : insP mx T (x ++ r) = (x.length, 0, T1)) (hf : Feeds mx n T1 r T') : Feeds mx (n + 1) T (x ++ r) T' :=
  .inr ⟨x.length, T1, (fun e => by have := congrArg List.length e; rw [List.length_append] at this; simp at this; simp [this] at hx), h, hx, by rw [List.length_append]; omega, by rw [List.drop_left' rfl]; exact hf⟩
theorem insW_pos (f : Fd) : 1 ≤ (insW f).length := by
  unfold insW
  rw [List.length_append]
  have := putSk_pos 0 7 f.2.data.toList
  omega
theorem qstep_ins (op : List Qs) (K : Nat) (free : Bool) (a : Qa) (f : Fd) : ((qstep op K free a f).ins = a.ins ∧ (qstep op K free a f).T = a.T) ∨ ((qstep op K free a f).ins = a.ins ++ insW f ∧ (qstep op K free a f).T = a.T.add f ∧ roomQ op K a.T f a.u = true) := by
  unfold qstep
  split
  · exact .inl ⟨rfl, rfl⟩
  · split
    · exact .inl ⟨rfl, rfl⟩
    · split
      · rename_i h
        simp only [Bool.and_eq_true] at h
        split
        · exact .inr ⟨rfl, rfl, h.2⟩
        · exact .inr ⟨rfl, rfl, h.2⟩
      · exact .inl ⟨rfl, rfl⟩
/-- What a run orders is read back. -/
theorem qrun_feeds (mx : Nat) (op : List Qs) (K : Nat) (free : Bool) : ∀ (l : List Fd) (a : Qa), a.T.cap ≤ 4096 → ∃ d n, (qrun op K free l a).ins = a.ins ++ d ∧ Feeds mx n a.T d (qrun op K free l a).T
  | [], a, _ => ⟨[], 0, by simp [qrun], rfl, rfl⟩
  | f :: l, a, hc => by
    have hs := qstep_ins op K free a f
    rcases hs with ⟨e1, e2⟩ | ⟨e1, e2, hr⟩
    · obtain ⟨d, n, h1, h2⟩ := qrun_feeds mx op K free l (qstep op K free a f) (by rw [e2]; exact hc)
      refine ⟨d, n, ?_, ?_⟩
      · show (qrun op K free l (qstep op K free a f)).ins = _
        rw [h1, e1]
      · rw [e2] at h2
        exact h2
    · obtain ⟨_, hsz, _⟩ := roomQ_size hr
      have hfit : fsz f + 32 ≤ a.T.cap := by omega
      have hcap := a.T.add_cap f
      obtain ⟨d, n, h1, h2⟩ := qrun_feeds mx op K free l (qstep op K free a f) (by rw [e2, hcap]; exact hc)
      have h1s : f.1.size ≤ 4096 := by unfold fsz at hsz; omega
      have h2s : f.2.size ≤ 4096 := by unfold fsz at hsz; omega
      refine ⟨insW f ++ d, n + 1, ?_, ?_⟩
      · show (qrun op K free l (qstep op K free a f)).ins = _
        rw [h1, e1, List.append_assoc]
      · rw [e2] at h2
        exact Feeds.cons_ (insW_pos f) (insP_W mx hfit h1s h2s d) h2
/-- The decoder's table ahead of a section: none yet, or the encoder's. -/
def tabD (E : Qe) : Tab := if E.said then E.T else ⟨[], 0, 0⟩
theorem acc_feeds (mx : Nat) (E : Qe) (s : Nat) (l : List Fd) (hc : E.T.cap ≤ mx) (hm : mx ≤ 4096) (h0 : E.said = false → E.T.l = [] ∧ E.T.tot = 0) : ∃ n, Feeds mx n (tabD E) (E.acc s l).ins (E.acc s l).T := by
  obtain ⟨d, n, h1, h2⟩ := qrun_feeds mx E.op E.K (freeQ E.op E.K E.B s) l ⟨E.T, capW E.said E.T.cap, [], [], 0⟩ (by show E.T.cap ≤ 4096; omega)
  have h1' : (E.acc s l).ins = capW E.said E.T.cap ++ d := h1
  have h2' : Feeds mx n E.T d (E.acc s l).T := h2
  rw [h1']
  unfold tabD capW
  cases hs : E.said with
  | true => exact ⟨n, by simpa using h2'⟩
  | false =>
    obtain ⟨e1, e2⟩ := h0 hs
    have hT : E.T = ⟨[], E.T.cap, 0⟩ := by
      rw [← e1, ← e2]
    by_cases h : 0 < E.T.cap
    · have hres : (⟨[], 0, 0⟩ : Tab).resize (E.T.cap : Int) = E.T := by
        rw [hT]
        rfl
      refine ⟨n + 1, ?_⟩
      simp only [h, decide_true, Bool.not_false, Bool.and_self, if_true, Bool.false_eq_true, if_false]
      refine Feeds.cons_ (pre_len _ _ _).1 (insP_cap mx _ _ hc hm d) ?_
      rw [hres]
      exact h2'
    · have hz : E.T = ⟨[], 0, 0⟩ := by rw [hT]; congr 1; omega
      refine ⟨n, ?_⟩
      simp only [h, decide_false, Bool.and_false, Bool.false_eq_true, if_false, List.nil_append]
      rw [hz] at h2'
      exact h2'

/-! ### lines -/
theorem mask16 : ∀ c, c < 256 → c / 16 % 2 = 1 → c &&& 16 ≠ 0 := by decide +kernel
theorem lineW_rd {T : Tab} {u : List Nat} {c : Nat} {x : Ql} (h : okL T u c x) (h1 : x.f.1.size ≤ 4096) (h2 : x.f.2.size ≤ 4096) (hc : c ≤ 1000000) (r : List UInt8) : lineW c x ++ r ≠ [] ∧ RdL T c (lineW c x ++ r) x.f r := by
  have hv := sb_putSk 0 (k := 7) (by decide) (by decide) rfl (by decide) x.f.2.data.toList r (by rw [data_len]; exact h2)
  have hpos : ∀ (y : UInt8) (k v : Nat) (z : List UInt8), pre y k v ++ z ≠ [] := fun y k v z e => by
    have := congrArg List.length e
    have h := (pre_len y k v).1
    rw [List.length_append] at this
    simp at this
    simp [this] at h
  rcases h with ⟨hk, hi⟩ | ⟨hk, _, hlt, hh⟩ | ⟨hk, g, hi, hg⟩ | hk
  · have he : lineW c x = pre 192 6 x.i := by unfold lineW; rw [if_pos hk]
    rw [he]
    have hb := (ent3 hi).2.2
    have hr := rp_pre 192 6 x.i (by decide) (by decide) (by omega) r
    rw [if_pos (by unfold maxVar; omega)] at hr
    refine ⟨hpos _ _ _ _, .inl ⟨?_, x.i, _, hr, by omega, hi, by rw [List.length_append]; omega, by rw [List.drop_left' rfl]⟩⟩
    rw [pre_headN, preFirst_nat _ (by decide) (by decide)]
    exact Nat.le_add_right _ _
  · have he : lineW c x = pre 128 6 (c - 1 - x.i) := by unfold lineW; rw [if_neg (by omega), if_pos hk]
    rw [he]
    have hr := rp_pre 128 6 (c - 1 - x.i) (by decide) (by decide) (by omega) r
    rw [if_pos (by unfold maxVar; omega)] at hr
    have hd : headN (pre 128 6 (c - 1 - x.i) ++ r) / 2 ^ 6 = 2 := by
      rw [pre_headN, preFirst_div _ (by decide) (by decide)]
      rfl
    refine ⟨hpos _ _ _ _, .inr (.inl ⟨by omega, by omega, c - 1 - x.i, _, hr, by omega, ?_, by rw [List.length_append]; omega, by rw [List.drop_left' rfl]⟩)⟩
    rw [show c - 1 - (c - 1 - x.i) = x.i from by omega]
    exact hh
  · obtain ⟨y, hy, hy5⟩ : ∃ y : UInt8, (if secN x.f.1 then (112 : UInt8) else 80) = y ∧ (y.toNat / 2 ^ 4 = 5 ∨ y.toNat / 2 ^ 4 = 7) := by
      refine ⟨_, rfl, ?_⟩
      split
      · exact .inr rfl
      · exact .inl rfl
    have he : lineW c x = pre y 4 x.i ++ putSk 0 7 x.f.2.data.toList := by unfold lineW; rw [if_neg (by omega), if_neg (by omega), if_pos hk, hy]
    rw [he, List.append_assoc]
    have hb := (ent3 hi).2.2
    have hr := rp_pre y 4 x.i (by decide) (by decide) (by omega) (putSk 0 7 x.f.2.data.toList ++ r)
    rw [if_pos (by unfold maxVar; omega)] at hr
    have hd : headN (pre y 4 x.i ++ (putSk 0 7 x.f.2.data.toList ++ r)) / 2 ^ 4 = y.toNat / 2 ^ 4 := by
      rw [pre_headN, preFirst_div _ (by decide) (by decide)]
    have h256 : headN (pre y 4 x.i ++ (putSk 0 7 x.f.2.data.toList ++ r)) < 256 := by rw [pre_headN]; exact (preFirst y 4 x.i).toNat_lt
    refine ⟨hpos _ _ _ _, .inr (.inr (.inl ⟨by omega, by omega, mask16 _ h256 (by omega), x.i, _, _, g, _, hr, by omega, hi, hg, by rw [List.length_append]; omega, by rw [List.drop_left' rfl]; exact hv, (bstr_data _).symm, by rw [List.drop_left' rfl, List.length_append]; omega, by rw [List.drop_left' rfl, List.drop_left' rfl]⟩))⟩
  · obtain ⟨y, hy, hy5⟩ : ∃ y : UInt8, (if secN x.f.1 then (48 : UInt8) else 32) = y ∧ (y = 48 ∨ y = 32) := by
      refine ⟨_, rfl, ?_⟩
      split
      · exact .inl rfl
      · exact .inr rfl
    have he : lineW c x = putSk y 3 x.f.1.data.toList ++ putSk 0 7 x.f.2.data.toList := by unfold lineW; rw [if_neg (by omega), if_neg (by omega), if_neg (by omega), hy]
    rw [he, List.append_assoc]
    have hn : sb 3 (putSk y 3 x.f.1.data.toList ++ (putSk 0 7 x.f.2.data.toList ++ r)) = (x.f.1.data.toList, ((putSk y 3 x.f.1.data.toList).length : Int), 0) := by
      rcases hy5 with rfl | rfl
      · exact sb_putSk 48 (k := 3) (by decide) (by decide) rfl (by decide) _ _ (by rw [data_len]; exact h1)
      · exact sb_putSk 32 (k := 3) (by decide) (by decide) rfl (by decide) _ _ (by rw [data_len]; exact h1)
    have hd := putSk_head y (k := 3) (by decide) (by decide) x.f.1.data.toList (putSk 0 7 x.f.2.data.toList ++ r)
    have hd2 : 4 ≤ headN (putSk y 3 x.f.1.data.toList ++ (putSk 0 7 x.f.2.data.toList ++ r)) / 2 ^ 3 ∧ headN (putSk y 3 x.f.1.data.toList ++ (putSk 0 7 x.f.2.data.toList ++ r)) / 2 ^ 3 ≤ 7 := by
      generalize headN (putSk y 3 x.f.1.data.toList ++ (putSk 0 7 x.f.2.data.toList ++ r)) = z at hd
      rcases hy5 with rfl | rfl
      · rw [show (48 : UInt8).toNat / 2 ^ 3 = 6 from rfl, show (hiB 48 3).toNat / 2 ^ 3 = 7 from by decide] at hd
        omega
      · rw [show (32 : UInt8).toNat / 2 ^ 3 = 4 from rfl, show (hiB 32 3).toNat / 2 ^ 3 = 5 from by decide] at hd
        omega
    refine ⟨fun e => ?_, .inr (.inr (.inr ⟨by omega, by omega, _, _, _, _, hn, (bstr_data _).symm, by rw [List.length_append]; omega, by rw [List.drop_left' rfl]; exact hv, (bstr_data _).symm, by rw [List.drop_left' rfl, List.length_append]; omega, by rw [List.drop_left' rfl, List.drop_left' rfl]⟩))⟩
    have := congrArg List.length e
    have h := putSk_pos y 3 x.f.1.data.toList
    rw [List.length_append] at this
    simp at this
    simp [this] at h
/-- Lines are read back. -/
theorem linesW_rd {T : Tab} {u : List Nat} {c : Nat} (hc : c ≤ 1000000) : ∀ (all : List Ql), (∀ x ∈ all, okL T u c x) → (∀ x ∈ all, x.f.1.size ≤ 4096 ∧ x.f.2.size ≤ 4096) → RdLs T c (linesW c all) (all.map (·.f))
  | [], _, _ => rfl
  | x :: all, h, hz => by
    obtain ⟨h1, h2⟩ := lineW_rd (h x (List.mem_cons_self ..)) (hz x (List.mem_cons_self ..)).1 (hz x (List.mem_cons_self ..)).2 hc (linesW c all)
    have ih := linesW_rd hc all (fun y hy => h y (List.mem_cons_of_mem _ hy)) (fun y hy => hz y (List.mem_cons_of_mem _ hy))
    exact ⟨h1, _, h2, by show (linesW c all).length ≤ (lineW c x ++ linesW c all).length; rw [List.length_append]; omega, ih⟩

/-! ### a section's beginning -/
theorem qpre_rd (c m tot : Nat) (hm : m ≤ 1000000) (hw : c ≤ tot ∧ (c ≠ 0 → m ≠ 0 ∧ tot + m < c + 2 * m)) (hc : c ≤ 1000000) (r : List UInt8) :
    ∃ m1 : Nat, rp 8 (qpre c c m ++ r) = ((ecN c m : Int), (m1 : Int), 0) ∧ rp 7 ((qpre c c m ++ r).drop m1) = (0, ((1 : Nat) : Int), 0) ∧ m1 + 1 = (qpre c c m).length ∧ (∃ h : m1 < (qpre c c m ++ r).length, ((qpre c c m ++ r)[m1]).toNat < 128) ∧ dcN (ecN c m) tot m = some c ∧ ecN c m < 18446744073709551616 := by
  have hq : qpre c c m = pre 0 8 (ecN c m) ++ [0] := by
    unfold qpre
    rw [if_pos (Nat.le_refl _), Nat.sub_self]
    rfl
  have he : ecN c m ≤ 3000000 := by
    unfold ecN
    split
    · omega
    · rename_i h
      have := Nat.mod_lt c (show 0 < 2 * m by omega)
      omega
  have hr := rp_pre 0 8 (ecN c m) (by decide) (by decide) (by omega) ([0] ++ r)
  rw [if_pos (by unfold maxVar; omega)] at hr
  refine ⟨(pre 0 8 (ecN c m)).length, ?_, ?_, ?_, ?_, ?_, by omega⟩
  · rw [hq, List.append_assoc]
    exact hr
  · rw [hq, List.append_assoc, List.drop_left' rfl]
    rfl
  · rw [hq, List.length_append]
    rfl
  · refine ⟨by rw [hq]; simp only [List.length_append, List.length_singleton]; omega, ?_⟩
    simp only [hq, List.append_assoc]
    rw [List.getElem_append_right (Nat.le_refl _)]
    simp
  · by_cases h0 : c = 0
    · subst h0
      rfl
    · obtain ⟨h1, h2⟩ := hw.2 h0
      exact dcN_ecN h1 h0 (by omega) h2
end Go.Proofs.YtebakjdeighdnaaGreat
