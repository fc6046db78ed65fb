/-
  Texts put together: QrL, QrN, QrO, QrP, QrQ, QrS, QrT, QrU.
-/
import Derived.Test.YteopmaaghhendaaM28
import Derived.Test.YteopmaaghhendaaM06
import Derived.Test.YteopmaaghhendaaM23

/-
  Contract of the program's Feed: the walk.
-/
namespace Go.Proofs.Yteopmaaghhendaa
open Go.RowKit Go.Maps
set_option linter.unusedVariables false
set_option linter.unusedSimpArgs false

section
variable {q p : Nat} {X : Qr} {w : World} {S : Nat → Prop}
theorem Dq.restAt (h : Dq q p X w S) : ∃ A n c, w.cell? ⟨q, 4, none⟩ = some (.slice A n c) ∧ Bs w (.slice A n c) X.rest := by
  obtain ⟨bm, vR, vS, h⟩ := h
  obtain ⟨_, _, _, _, c4, _⟩ := h.cells
  obtain ⟨S1, ⟨o1, _⟩, _⟩ := h.opR
  obtain ⟨A, n, c, rfl⟩ := o1.shape2
  exact ⟨A, n, c, c4, o1.bs⟩
theorem Qr.feed_ok (hb : X.br = false) {b : List UInt8} {T : Tab} {nm : Option ByteArray} {r : List UInt8} (h : feedR X.mx (X.rest ++ b).length X.T X.nm (X.rest ++ b) = (T, nm, r, false)) : X.feed b = ({ X with T := T, nm := nm, rest := r }, 0) := by
  unfold Qr.feed
  rw [hb, h]
  simp [hb]
theorem Qr.feed_bad (hb : X.br = false) {b : List UInt8} {T : Tab} (h : feedR X.mx (X.rest ++ b).length X.T X.nm (X.rest ++ b) = (T, none, [], true)) : X.feed b = ({ X with T := T, nm := none, rest := [], br := true }, 26) := by
  unfold Qr.feed
  rw [hb, h]
  simp
set_option maxRecDepth 100000 in
set_option maxHeartbeats 8000000 in
theorem dfeed_any (h : Dq q p X w S) (hmx : X.mx ≤ 4096) (hgd : X.T.gd) (hnx : ∀ x, X.nm = some x → x.size ≤ 20000) (ht : X.T.tot ≤ 400000) {bV : Value} {b : List UInt8} (hb : Bs w bV b) (hl : b.length ≤ 90000) (hr : X.rest.length ≤ 90000) :
    Calls Try.prog 10 #[.pointer (some ⟨q, 0, none⟩), bV] w fun e w' => e = .returned (.int .i64 (X.feed b).2) ∧ Turn (Dq q p (X.feed b).1) S w w' := by
  have hlt := (Wd.dq _ _ _).lt h
  obtain ⟨_, _, _, _, c7⟩ := h.facts
  cases hbr : X.br with
  | true =>
    have hfe : X.feed b = (X, 26) := by unfold Qr.feed; rw [if_pos hbr]
    have HT := Bx.mk h.here
    rw [hbr] at c7
    rw [hfe]
    clear h hmx hgd hnx ht hb hl hr hlt hbr hfe
    go_enter Try.func10, Try.ntmps10
    go_wp2_with fail
    go_ret
    exact ⟨rfl, HT.out⟩
  | false =>
    rw [hbr] at c7
    obtain ⟨A1, n1, k1, c4, hbs⟩ := h.restAt
    have bA := (Below.refl w.heap.size w).alloc (Nat.le_refl _) (.cells #[.slice A1 n1 k1, bV] 23)
    have ccA : Cc (w.alloc (.cells #[.slice A1 n1 k1, bV] 23)) w.heap.size (.slice A1 n1 k1) bV := heap_alloc_last w _
    obtain ⟨A2, n2, k2, hbV⟩ : ∃ A2 n2 k2, bV = .slice A2 n2 k2 := by obtain ⟨A, n, c, e, _⟩ := hb.open_; exact ⟨A, n, c, e⟩
    have HCON := Bx.mk (concat_any ccA (Rd.keep hbs bA) (Rd.keep hb bA) (by omega) (by omega))
    obtain ⟨wA, hwA⟩ : ∃ wA, w.alloc (.cells #[.slice A1 n1 k1, bV] 23) = wA := ⟨_, rfl⟩
    rw [hwA] at bA HCON
    have HOK := Bx.mk (fun T nm r => Qr.feed_ok (b := b) (T := T) (nm := nm) (r := r) hbr)
    have HBAD := Bx.mk (fun T => Qr.feed_bad (b := b) (T := T) hbr)
    obtain ⟨l0, hl0⟩ : ∃ l0, X.rest ++ b = l0 := ⟨_, rfl⟩
    rw [hl0] at HCON HOK HBAD
    have hl0l : l0.length ≤ 200000 := by rw [← hl0, List.length_append]; omega
    have HSTART : Bx (∀ (v0 : Value) (w1 : World), OwB w1 wA.heap.size v0 l0 → Below wA.heap.size wA w1 → FdD q p X l0 v0 S w w1 l0.length X.T X.nm l0 v0 w1) := ⟨fun v0 w1 ho hb1 =>
      have hbw : Below w.heap.size w w1 := bA.trans (hb1.mono bA.size)
      ⟨hgd, by omega, hnx, Nat.le_refl _, hl0l, rfl, ⟨S, (Wd.dq _ _ _).keep h hbw, fun k hk => .inl hk⟩, Fp.of_below hbw, hbw.size, Nat.le_refl _, fun W hW => hW, ho.mono bA.size, fun k hk => ho.lt hk, hlt⟩⟩
    have HMX := Bx.mk hmx
    subst hbV
    obtain ⟨FE, hFE⟩ : ∃ x, X.feed b = x := ⟨_, rfl⟩
    rw [hFE] at HOK HBAD
    rw [hFE]
    clear h hmx hgd hnx ht hb hl hr hlt hbr hbs bA ccA hl0 hl0l hFE
    go_enter Try.func10, Try.ntmps10
    go_wp2_with (go_at_call 27; refine HCON.out.mono ?_; rintro e w1 ⟨v0, rfl, ho, hb1⟩; have HS0 := Bx.mk (HSTART.out v0 w1 ho hb1); clear ho hb1)
    clear c4 c7 hwA HSTART HCON
    go_loopg [5] l0.length (fun gk s5 wx => ∃ (T' : Tab) (nm' : Option ByteArray) (r : List UInt8), Bx (FdD q p X l0 v0 S w w1 gk T' nm' r s5 wx))
    case atStart => exact ⟨_, _, l0, HS0⟩
    case round =>
      obtain ⟨T', nm', r, HR⟩ := hrel
      clear HS0
      have hbr := HR.out.bs wr HR.out.b0.bs
      have hlen := fun ty W => hbr.run_len ty W
      obtain ⟨L, hL⟩ : ∃ L, r.length = L := ⟨_, rfl⟩
      rw [hL] at hlen
      obtain ⟨Sx, hx, hsx⟩ := HR.out.dq
      by_cases h0 : L = 0
      · have hd : decide (0 < L) = false := decide_eq_false (by omega)
        have hd' : decide ((0 : Int) < (L : Int)) = false := decide_eq_false (by omega)
        have hr0 : r = [] := List.eq_nil_of_length_eq_zero (by omega)
        have HGO : Bx (feedR X.mx l0.length X.T X.nm l0 = (T', nm', r, false)) := ⟨by rw [← HR.out.go, hr0, feedR_nil]⟩
        have HFE := Bx.mk (HOK.out _ _ _ HGO.out)
        have HCLONE := Bx.mk (bclone_any hbr (by have := HR.out.len; omega))
        clear hbr hL h0 hr0 hx
        go_wp2_with (go_at_call 30; refine HCLONE.out.mono ?_; rintro e w2 ⟨v2, rfl, ho2, hb2⟩; obtain ⟨vA, vn, vc, rfl⟩ := ho2.shape2; obtain ⟨f8, ⟨x8, c8⟩, ht⟩ := HR.out.ends HGO.out ho2 hb2; have HT := Bx.mk ht; clear ht ho2 hb2)
        go_ret
        rw [HFE.out]
        exact ⟨rfl, HT.out⟩
      · have hd : decide (0 < L) = true := decide_eq_true (by omega)
        have hd' : decide ((0 : Int) < (L : Int)) = true := decide_eq_true (by omega)
        have hne : r ≠ [] := fun e => by rw [e] at hL; simp at hL; omega
        have HNE := Bx.mk hne
        cases gk with
        | zero => exact absurd HR.out.fuel (by omega)
        | succ n =>
          have hstep := step_any hx HMX.out HR.out.nmx (by have := HR.out.tot; show T'.tot + 1 ≤ 1000000; omega) (by have := HR.out.gd.1; show T'.cap ≤ 1000000; omega) (by have := HR.out.gd.1; have := HR.out.gd.2; show sizeF T'.l ≤ 1000000; omega) hbr (by omega) (by have := HR.out.len; omega)
          unfold StpQ at hstep
          dsimp only at hstep
          obtain ⟨l1, l2, l3⟩ := stpP_len X.mx T' nm' r
          have HGO := Bx.mk HR.out.go
          rw [feedR_step, if_neg hne] at HGO
          have HSX := Bx.mk hsx
          have HNX := Bx.mk (fun (h0 : (stpP X.mx T' nm' r).2.1 = 0) (w2 : World) (v2 : Value) ht (hv : ∀ W, Bs W u5 r → Bs W v2 (r.drop (stpP X.mx T' nm' r).1)) => HR.out.next (w2 := w2) HMX.out HSX.out HNE.out h0 ht hv)
          obtain ⟨P, hP⟩ : ∃ P, stpP X.mx T' nm' r = P := ⟨_, rfl⟩
          simp only [hP] at hstep l1 l2 l3 HGO HNX
          obtain ⟨m, er, T2, nm2⟩ := P
          dsimp only at hstep l1 l2 l3 HGO HNX
          have HSTEP := Bx.mk hstep
          obtain ⟨v4, hfrom, hbs4⟩ := hbr.from_ (m : Int) (by omega) (by omega)
          have hmm : (m : Int).toNat = m := by omega
          rw [hmm] at hbs4
          have HB4 := Bx.mk hbs4
          obtain ⟨A4, n4, c4, hv4⟩ : ∃ A4 n4 c4, v4 = .slice A4 n4 c4 := by obtain ⟨A, n, c, e, _⟩ := (hbs4 wr hbr).open_; exact ⟨A, n, c, e⟩
          subst hv4
          obtain ⟨MM, hMM⟩ := letter m
          rw [hMM] at HSTEP hfrom
          by_cases h20 : er = 20
          · subst h20
            have HGO2 : Bx (feedR X.mx l0.length X.T X.nm l0 = (T', nm', r, false)) := ⟨by rw [← HGO.out, if_pos rfl]⟩
            have HFE := Bx.mk (HOK.out _ _ _ HGO2.out)
            have hTn := (l3 (by decide)).1
            injection hTn with hT2 hn2
            subst hT2 hn2
            clear hstep hbr hL h0 hne l1 l2 l3 hx hsx hP HNX hfrom HB4 hbs4 hMM hmm HGO
            go_wp2_with (first
              | (go_at_call 28; refine HSTEP.out.mono ?_; rintro e w2 ⟨rfl, ht2⟩; have HR2 := Bx.mk (HR.out.same HSX.out ht2); have HCL := Bx.mk (bclone_any (HR2.out.bs _ HR2.out.b0.bs) (by have := HR2.out.len; omega)); clear ht2)
              | (go_at_call 30; refine HCL.out.mono ?_; rintro e w3 ⟨v3, rfl, ho3, hb3⟩; obtain ⟨vA, vn, vc, rfl⟩ := ho3.shape2; obtain ⟨f8, ⟨x8, c8⟩, ht⟩ := HR2.out.ends HGO2.out ho3 hb3; have HT := Bx.mk ht; clear ht ho3 hb3))
            go_ret
            rw [HFE.out]
            exact ⟨rfl, HT.out⟩
          · have hd1 : (er == 20) = false := by rw [beq_eq_false_iff_ne]; exact h20
            by_cases hz : er = 0
            · subst hz
              clear hstep hbr hL h0 hne l1 l2 l3 hx hsx hP hbs4 hmm HGO
              go_wp2_with (first
                | (go_at_call 28; refine HSTEP.out.mono ?_; rintro e w2 ⟨rfl, ht2⟩; have HR2 := Bx.mk (HNX.out rfl w2 (.slice A4 n4 c4) ht2 HB4.out); clear ht2))
              go_roundg n
              case measure => omega
              case rel => exact ⟨_, _, _, HR2⟩
            · have hd2 : (er != 0) = true := by rw [bne_iff_ne]; exact hz
              have HGO2 : Bx (feedR X.mx l0.length X.T X.nm l0 = (T', none, [], true)) := ⟨by rw [← HGO.out, if_neg h20, if_pos hz]⟩
              have HFE := Bx.mk (HBAD.out _ HGO2.out)
              have hTn := (l3 hz).1
              injection hTn with hT2 hn2
              subst hT2 hn2
              clear hstep hbr hL h0 hne l1 l2 l3 hx hsx hP HNX hfrom HB4 hbs4 hMM hmm HGO hz h20
              go_wp2_with (first
                | (go_at_call 28; refine HSTEP.out.mono ?_; rintro e w2 ⟨rfl, ht2⟩; have HT2 := Bx.mk ht2; obtain ⟨S2, k2, s2, f2⟩ := ht2; have HFA := Bx.mk (dfail_any k2); have HSF := Bx.mk (And.intro s2 f2); clear k2 s2 f2)
                | (go_at_call 29; refine HFA.out.mono ?_; rintro e w3 ⟨rfl, ht3⟩; have HT3 := Bx.mk (Turn.step HSF.out.1 HSF.out.2 ht3); clear ht3))
              go_ret
              rw [HFE.out]
              exact ⟨rfl, HR.out.fails (Y := _) HSX.out HT3.out (fun S2 hh => hh.here)⟩
end
end Go.Proofs.Yteopmaaghhendaa

/-
  The reader of a section as a word; contracts of its number, at.
-/
namespace Go.Proofs.Yteopmaaghhendaa
open Go.RowKit Go.Maps
set_option linter.unusedVariables false
set_option linter.unusedSimpArgs false

def rdF (v : Value) (p c base : Nat) (i : Nat) : Value := if i = 0 then v else if i = 1 then .pointer (some ⟨p, 0, none⟩) else if i = 2 then .int .u64 (c : Int) else .int .u64 (base : Int)
/-- The reader in block g, made since world w0: what is left to read. -/
structure Rw (w0 : World) (g p c base : Nat) (b : List UInt8) (w : World) : Prop where
  below : Below w0.heap.size w0 w
  ge : w0.heap.size ≤ g
  len : b.length ≤ 200000
  row : ∃ A n k, w.rowIs g 75 4 (rdF (.slice A n k) p c base) ∧ ∀ W, Below w0.heap.size w0 W → Bs W (.slice A n k) b
/-- What a reading hands back. -/
def RdQ (w0 : World) (g p c base : Nat) (w : World) (o : Option (Fd × List UInt8)) (e : Ending) (w' : World) : Prop :=
  Fp (fun k => k = g) w w' ∧ match o with
  | some (f, r) => e = .returned (.tuple #[.agg #[.string f.1, .string f.2], .bool true]) ∧ Rw w0 g p c base r w'
  | none => (∃ f : Fd, e = .returned (.tuple #[.agg #[.string f.1, .string f.2], .bool false])) ∧ Below w0.heap.size w0 w'
section
variable {w0 w w' : World} {g p c base : Nat} {b : List UInt8} {T : Tab} {S : Nat → Prop}
theorem Rw.keep (h : Rw w0 g p c base b w) (hb : Below w.heap.size w w') : Rw w0 g p c base b w' := by
  obtain ⟨A, n, k, hr, hs⟩ := h.row
  exact ⟨h.below.trans (hb.mono h.below.size), h.ge, h.len, A, n, k, hr.of_block (hb.block _ hr.lt), hs⟩
theorem Rw.cells (h : Rw w0 g p c base b w) : ∃ A n k, w.cell? ⟨g, 0, none⟩ = some (.slice A n k) ∧ w.cell? ⟨g, 1, none⟩ = some (.pointer (some ⟨p, 0, none⟩)) ∧ w.cell? ⟨g, 2, none⟩ = some (.int .u64 (c : Int)) ∧ w.cell? ⟨g, 3, none⟩ = some (.int .u64 (base : Int)) ∧ w.frozen? ⟨g, 0, none⟩ = false ∧ (∀ W, Below w0.heap.size w0 W → Bs W (.slice A n k) b) ∧
    ∀ A' n' k' r, r.length ≤ 200000 → (∀ W, Below w0.heap.size w0 W → Bs W (.slice A' n' k') r) → Rw w0 g p c base r (w.setCell ⟨g, 0, none⟩ (.slice A' n' k')) := by
  obtain ⟨A, n, k, hr, hs⟩ := h.row
  refine ⟨A, n, k, hr.cell (i := 0) (by omega), hr.cell (i := 1) (by omega), hr.cell (i := 2) (by omega), hr.cell (i := 3) (by omega), hr.frozen 0, hs, fun A' n' k' r hl hr' => ⟨?_, h.ge, hl, A', n', k', ?_, hr'⟩⟩
  · have hge := h.ge
    exact (Fp.set (fun k => k = g) w ⟨g, 0, none⟩ (.slice A' n' k') rfl) |> fun hf => ⟨hf.os.trans h.below.os, hf.tape.trans h.below.tape, hf.output.trans h.below.output, Nat.le_trans h.below.size hf.size, fun j hj => (hf.block j (Nat.lt_of_lt_of_le hj h.below.size) (by omega)).trans (h.below.block j hj)⟩
  · exact (hr.set 0 _).congr (fun j hj => by
      unfold rdF
      match j, hj with
      | 0, _ => rfl
      | 1, _ => rfl
      | 2, _ => rfl
      | 3, _ => rfl)
set_option maxRecDepth 100000 in
set_option maxHeartbeats 2000000 in
theorem rnumber_any (h : Rw w0 g p c base b w) (k : Nat) (hk1 : 1 ≤ k) (hk7 : k ≤ 7) (K : Int) (hK : (k : Int) = K) :
    Calls Try.prog 93 #[.pointer (some ⟨g, 0, none⟩), .int .i64 K] w fun e w' => Fp (fun k => k = g) w w' ∧ match numP k b with
      | some (i, r) => e = .returned (.tuple #[.int .u64 (i : Int), .bool true]) ∧ Rw w0 g p c base r w'
      | none => (∃ x : Int, e = .returned (.tuple #[.int .u64 x, .bool false])) ∧ Below w0.heap.size w0 w' := by
  have hbk : bitsOf (k : Int) = k := by unfold bitsOf; omega
  have hlen := h.len
  obtain ⟨A, n, kk, c0, c1, c2, c3, f0, hbs, hset⟩ := h.cells
  have hbw := hbs w h.below
  have hcall := fun r hr => rp_at (.slice A n kk) b (k : Int) k hbk r hr w hbw (by omega)
  rw [hK] at hcall
  have HS := Bx.mk hset
  have HBL := Bx.mk h.below
  rcases rp_cases k b with hr | hr | ⟨i, m, hr, h1, h2, h3⟩
  · have hn : numP k b = none := by unfold numP; rw [hr]; rfl
    rw [hn]
    have HC := Bx.mk (hcall _ hr)
    obtain ⟨v4, hfrom, hbs4⟩ := hbw.from_ 0 (by omega) (by omega)
    obtain ⟨A4, n4, c4, hv4⟩ : ∃ A4 n4 c4, v4 = .slice A4 n4 c4 := by obtain ⟨A, n, c, e, _⟩ := (hbs4 w hbw).open_; exact ⟨A, n, c, e⟩
    subst hv4
    have HFIN := Bx.mk (hset A4 n4 c4 (b.drop 0) (by rw [List.length_drop]; omega) (fun W hW => hbs4 W (hbs W hW)))
    clear h hcall hbs hbs4 hbw hset hr hn hK hbk hk1 hk7
    dsimp only at HC
    go_enter Try.func93, Try.ntmps93
    go_wp2_with (go_at_call 57; refine HC.out.mono ?_; rintro e w1 ⟨rfl, rfl⟩)
    go_ret2
    exact ⟨Fp.set _ _ _ _ rfl, ⟨_, rfl⟩, HFIN.out.below⟩
  · have hn : numP k b = none := by unfold numP; rw [hr]; rfl
    rw [hn]
    have HC := Bx.mk (hcall _ hr)
    obtain ⟨v4, hfrom, hbs4⟩ := hbw.from_ 0 (by omega) (by omega)
    obtain ⟨A4, n4, c4, hv4⟩ : ∃ A4 n4 c4, v4 = .slice A4 n4 c4 := by obtain ⟨A, n, c, e, _⟩ := (hbs4 w hbw).open_; exact ⟨A, n, c, e⟩
    subst hv4
    have HFIN := Bx.mk (hset A4 n4 c4 (b.drop 0) (by rw [List.length_drop]; omega) (fun W hW => hbs4 W (hbs W hW)))
    clear h hcall hbs hbs4 hbw hset hr hn hK hbk hk1 hk7
    dsimp only at HC
    go_enter Try.func93, Try.ntmps93
    go_wp2_with (go_at_call 57; refine HC.out.mono ?_; rintro e w1 ⟨rfl, rfl⟩)
    go_ret2
    exact ⟨Fp.set _ _ _ _ rfl, ⟨_, rfl⟩, HFIN.out.below⟩
  · have hn : numP k b = some (i, b.drop m) := by unfold numP; rw [hr]; simp
    rw [hn]
    have HC := Bx.mk (hcall _ hr)
    obtain ⟨v4, hfrom, hbs4⟩ := hbw.from_ (m : Int) (by omega) (by omega)
    obtain ⟨A4, n4, c4, hv4⟩ : ∃ A4 n4 c4, v4 = .slice A4 n4 c4 := by obtain ⟨A, n, c, e, _⟩ := (hbs4 w hbw).open_; exact ⟨A, n, c, e⟩
    subst hv4
    have hmm : (m : Int).toNat = m := by omega
    rw [hmm] at hbs4
    have HFIN := Bx.mk (hset A4 n4 c4 (b.drop m) (by rw [List.length_drop]; omega) (fun W hW => hbs4 W (hbs W hW)))
    obtain ⟨MM, hMM⟩ := letter m
    obtain ⟨II, hII⟩ := letter i
    dsimp only at HC ⊢
    rw [hMM] at hfrom HC
    rw [hII] at HC ⊢
    clear h hcall hbs hbs4 hbw hset hr hn hK hbk hk1 hk7 hMM hII hmm h1 h2 h3
    go_enter Try.func93, Try.ntmps93
    go_wp2_with (go_at_call 57; refine HC.out.mono ?_; rintro e w1 ⟨rfl, rfl⟩)
    go_ret2
    exact ⟨Fp.set _ _ _ _ rfl, rfl, HFIN.out⟩
end
end Go.Proofs.Yteopmaaghhendaa

/-
  Contracts of the reader's at, entry, above.
-/
namespace Go.Proofs.Yteopmaaghhendaa
open Go.RowKit Go.Maps
set_option linter.unusedVariables false
set_option linter.unusedSimpArgs false

section
variable {w0 w w' : World} {g p c base : Nat} {b : List UInt8} {T : Tab} {S : Nat → Prop}
theorem Rw.lt (h : Rw w0 g p c base b w) : g < w.heap.size := by
  obtain ⟨A, n, k, hr, hs⟩ := h.row
  exact hr.lt
set_option maxRecDepth 100000 in
set_option maxHeartbeats 2000000 in
theorem rat_any (h : Rw w0 g p c base b w) (hT : Tb p T w0 S) (hc : c < 18446744073709551616) (o : Option Nat) (ok : Bool) (x : Int) (ho : o.isSome = ok) (hx : ∀ a, o = some a → (a : Int) = x ∧ a < 18446744073709551616) :
    Calls Try.prog 94 #[.pointer (some ⟨g, 0, none⟩), .int .u64 x, .bool ok] w (RdQ w0 g p c base w ((atR T c o).map fun f => (f, b))) := by
  have HF0 : Bx (Fb 56 (w.alloc (.cells #[.string ⟨#[]⟩, .string ⟨#[]⟩] 56)) w.heap.size emp) := ⟨Fb.new 56 w emp⟩
  have hbA := (Below.refl w.heap.size w).alloc (Nat.le_refl _) (.cells #[.string ⟨#[]⟩, .string ⟨#[]⟩] 56)
  have HBA := Bx.mk hbA
  have hh := h.keep hbA
  obtain ⟨A, n, kk, c0, c1, c2, c3, f0, hbs, hset⟩ := hh.cells
  have HW := Bx.mk (fun W (hW : Below w.heap.size w W) => h.keep hW)
  have HAT := Bx.mk (fun a (ha : a < 18446744073709551616) => at_any (hT.keep (HW.out _ hbA).below) a ha)
  obtain ⟨CC, hCC⟩ := letter c
  rw [hCC] at c2
  cases o with
  | none =>
    simp only [Option.isSome_none] at ho
    subst ho
    have ha : atR T c none = none := rfl
    rw [ha]
    clear hbs hset h hh hT hc hx hCC
    go_enter Try.func94, Try.ntmps94
    go_wp2_with fail
    exact bodyPost_ret (ret_field Try.results94 _ _ w.heap.size emp false rfl rfl HF0.out) rfl ⟨Fp.of_below HBA.out, ⟨emp, rfl⟩, (HW.out _ HBA.out).below⟩
  | some a =>
    simp only [Option.isSome_some] at ho
    subst ho
    obtain ⟨hxa, ha64⟩ := hx a rfl
    by_cases hac : a < c
    · have hd : decide (CC ≤ x) = false := decide_eq_false (by omega)
      have HA := Bx.mk (HAT.out a ha64)
      rw [hxa] at HA
      obtain ⟨f, hf⟩ : ∃ f, entF T.l T.first a = f := ⟨_, rfl⟩
      obtain ⟨nb, hnb⟩ : ∃ nb, isF T.l T.first a = nb := ⟨_, rfl⟩
      have hat : atR T c (some a) = if nb then some f else none := by
        unfold atR
        dsimp only
        rw [if_pos hac]
        simp only [hf, hnb]
      rw [hat]
      rw [hf, hnb] at HA
      obtain ⟨f1, f2⟩ := f
      unfold aggF at HA
      dsimp only at HA
      clear hbs hset h hh hT hc hx hCC hxa ha64 hac hat hf hnb
      cases nb with
      | true =>
        go_enter Try.func94, Try.ntmps94
        go_wp2_with (go_at_call 89; refine HA.out.mono ?_; rintro e w1 ⟨rfl, hb1⟩; have HF1 := Bx.mk (HF0.out.keep hb1); have HB1 := Bx.mk (HBA.out.trans (hb1.mono HBA.out.size)); obtain ⟨e1, e2⟩ := HF1.out.cells; obtain ⟨q1, q2⟩ := HF1.out.free; clear hb1)
        have HB2 := Bx.mk (below_set2 HB1.out w.heap.size (Nat.le_refl _) (.string f1) (.string f2))
        exact bodyPost_ret (ret_field Try.results94 _ _ w.heap.size (f1, f2) true rfl rfl (HF1.out.set2 f1 f2)) rfl ⟨Fp.of_below HB2.out, rfl, HW.out _ HB2.out⟩
      | false =>
        go_enter Try.func94, Try.ntmps94
        go_wp2_with (go_at_call 89; refine HA.out.mono ?_; rintro e w1 ⟨rfl, hb1⟩; have HF1 := Bx.mk (HF0.out.keep hb1); have HB1 := Bx.mk (HBA.out.trans (hb1.mono HBA.out.size)); obtain ⟨e1, e2⟩ := HF1.out.cells; obtain ⟨q1, q2⟩ := HF1.out.free; clear hb1)
        have HB2 := Bx.mk (below_set2 HB1.out w.heap.size (Nat.le_refl _) (.string f1) (.string f2))
        exact bodyPost_ret (ret_field Try.results94 _ _ w.heap.size (f1, f2) false rfl rfl (HF1.out.set2 f1 f2)) rfl ⟨Fp.of_below HB2.out, ⟨(f1, f2), rfl⟩, (HW.out _ HB2.out).below⟩
    · have hd : decide (CC ≤ x) = true := decide_eq_true (by omega)
      have hat : atR T c (some a) = none := by unfold atR; dsimp only; rw [if_neg hac]
      rw [hat]
      clear hbs hset h hh hT hc hx hCC hxa ha64 hac hat HAT
      go_enter Try.func94, Try.ntmps94
      go_wp2_with fail
      exact bodyPost_ret (ret_field Try.results94 _ _ w.heap.size emp false rfl rfl HF0.out) rfl ⟨Fp.of_below HBA.out, ⟨emp, rfl⟩, (HW.out _ HBA.out).below⟩
end
end Go.Proofs.Yteopmaaghhendaa

/-
  Contracts of the reader's entry, above.
-/
namespace Go.Proofs.Yteopmaaghhendaa
open Go.RowKit Go.Maps
set_option linter.unusedVariables false
set_option linter.unusedSimpArgs false

section
variable {w0 w w' : World} {g p c base : Nat} {b : List UInt8} {T : Tab} {S : Nat → Prop}
/-- The result's own block stands beside what a reading does. -/
theorem Fb.read {G : Nat} {f : Fd} {w1 : World} (h : Fb 56 w G f) (hf : Fp (fun k => k = g) w w1) (hne : G ≠ g) : Fb 56 w1 G f := by
  unfold Fb at *
  rw [hf.block G (Array.getElem?_eq_some_iff.1 h).1 hne]
  exact h
theorem fp_res {G : Nat} {w wA w1 : World} (hA : Below w.heap.size w wA) (h1 : Fp (fun k => k = g) wA w1) (hG : w.heap.size ≤ G) (x y : Value) : Fp (fun k => k = g) w ((w1.setCell ⟨G, 0, none⟩ x).setCell ⟨G, 1, none⟩ y) := by
  have h2 : Fp (fun k => k = g) w w1 := (Fp.of_below hA).then h1
  have s1 : Fp (fun k => k = G) w1 (w1.setCell ⟨G, 0, none⟩ x) := Fp.set _ _ _ _ rfl
  have s2 : Fp (fun k => k = G) (w1.setCell ⟨G, 0, none⟩ x) ((w1.setCell ⟨G, 0, none⟩ x).setCell ⟨G, 1, none⟩ y) := Fp.set _ _ _ _ rfl
  exact (h2.trans s1 fun i hi => .inr (hi ▸ hG)).trans s2 fun i hi => .inr (hi ▸ hG)
theorem Rw.res {G : Nat} {w1 : World} (h : Rw w0 g p c base b w1) (hG : G ≠ g) (hge : w0.heap.size ≤ G) (x y : Value) : Rw w0 g p c base b ((w1.setCell ⟨G, 0, none⟩ x).setCell ⟨G, 1, none⟩ y) := by
  obtain ⟨A, n, k, hr, hs⟩ := h.row
  exact ⟨below_set2 h.below G hge x y, h.ge, h.len, A, n, k, hr.of_block (by
    rw [Go.Deep.blk_setCell_other _ _ _ _ (Ne.symm hG), Go.Deep.blk_setCell_other _ _ _ _ (Ne.symm hG)]), hs⟩
theorem rel_bound {a b x : Nat} (h : relN a b = some x) (ha : a < 18446744073709551616) : x < 18446744073709551616 := by
  unfold relN at h
  split at h
  · injection h with h; omega
  · cases h
set_option maxRecDepth 100000 in
set_option maxHeartbeats 4000000 in
theorem rentry_any (h : Rw w0 g p c base b w) (hT : Tb p T w0 S) (hc : c < 18446744073709551616) (hbase : base < 18446744073709551616) (hpos : 0 < b.length) (k : Nat) (hk1 : 1 ≤ k) (hk7 : k ≤ 7) (K : Int) (hK : (k : Int) = K) :
    Calls Try.prog 80 #[.pointer (some ⟨g, 0, none⟩), .int .i64 K] w (RdQ w0 g p c base w (entR k T c base b)) := by
  have HF0 : Bx (Fb 56 (w.alloc (.cells #[.string ⟨#[]⟩, .string ⟨#[]⟩] 56)) w.heap.size emp) := ⟨Fb.new 56 w emp⟩
  have hbA := (Below.refl w.heap.size w).alloc (Nat.le_refl _) (.cells #[.string ⟨#[]⟩, .string ⟨#[]⟩] 56)
  have HBA := Bx.mk hbA
  have hh := h.keep hbA
  have hglt := h.lt
  obtain ⟨A, n, kk, c0, c1, c2, c3, f0, hbs, hset⟩ := hh.cells
  have hbv := hbs _ hh.below
  obtain ⟨p0, hix, hcs⟩ := hbv.at_ 0 hpos
  have hix0 : ∀ W, (Instr.indexAt 23 (.slice A n kk) (.int .i64 0)).run Try.prog W = .ok (.pointer (some p0)) W := hix
  have hcell := hcs _ hbv
  rw [← headD_at hpos] at hcell
  have hhn : headN b = (b.headD 0).toNat := rfl
  rw [← hhn] at hcell
  have h256 : headN b < 256 := (b.headD 0).toNat_lt
  have hshr := shr_u8 k hk7 (headN b : Int)
  rw [hK] at hshr
  have hand := and_bit8 (headN b) k h256
  obtain ⟨C, hC⟩ : ∃ C, headN b / 2 ^ k % 2 = C := ⟨_, rfl⟩
  rw [hC] at hand
  obtain ⟨Z, hZ⟩ := letter (headN b)
  rw [hZ] at hcell hshr hand
  obtain ⟨D, hD⟩ : ∃ D, Z / 2 ^ k = D := ⟨_, rfl⟩
  rw [hD] at hshr hand
  obtain ⟨CI, hCI⟩ := letter C
  rw [hCI] at hand
  have HG := Bx.mk (show w.heap.size ≠ g by omega)
  have HWG : Bx (w0.heap.size ≤ w.heap.size) := ⟨h.below.size⟩
  have HW := Bx.mk (fun W (hW : Below w.heap.size w W) => h.keep hW)
  have HNUM := Bx.mk (rnumber_any hh k hk1 hk7 K hK)
  unfold entR
  cases hn : numP k b with
  | none =>
    rw [hn] at HNUM
    dsimp only at HNUM ⊢
    clear h hT hc hbase hpos hk1 hk7 hK hh hglt hbs hset hbv hix hcs hhn h256 hZ hD hn
    go_enter Try.func80, Try.ntmps80
    go_wp2_with (go_at_call 93; refine HNUM.out.mono ?_; rintro e w1 ⟨hf1, ⟨x, rfl⟩, hb1⟩; have HFP := Bx.mk hf1; have HF1 := Bx.mk (HF0.out.read hf1 HG.out); have HB1 := Bx.mk hb1; obtain ⟨e1, e2⟩ := HF1.out.cells; obtain ⟨q1, q2⟩ := HF1.out.free; clear hb1 hf1)
    have HB2 := Bx.mk (below_set2 HB1.out w.heap.size HWG.out (.string ⟨#[]⟩) (.string ⟨#[]⟩))
    exact bodyPost_ret (ret_field Try.results80 _ _ w.heap.size emp false rfl rfl (HF1.out.set2 _ _)) rfl ⟨fp_res HBA.out HFP.out (Nat.le_refl _) _ _, ⟨emp, rfl⟩, HB2.out⟩
  | some ir =>
    obtain ⟨i, r⟩ := ir
    obtain ⟨m, hrp, rfl, hm1, hm2, hiv⟩ := numP_some hn
    have hi64 : i < 18446744073709551616 := by unfold maxVar at hiv; omega
    rw [hn] at HNUM
    dsimp only at HNUM ⊢
    obtain ⟨r, hr⟩ : ∃ r, b.drop m = r := ⟨_, rfl⟩
    rw [hr] at HNUM
    simp only [hr]
    have HREL := Bx.mk (fun W => relative_any base i hbase W)
    have HH3 := Bx.mk (fun W => h3_any i W hi64)
    have HATC := Bx.mk (fun W (hW : Rw w0 g p c base r W) o ok x ho hx => rat_any hW hT hc o ok x ho hx)
    have HRB := Bx.mk (fun x (hx : relN base i = some x) => rel_bound hx hbase)
    obtain ⟨II, hII⟩ := letter i
    obtain ⟨BB, hBB⟩ := letter base
    simp only [hII] at HNUM HREL HH3
    simp only [hBB] at HREL
    have HBB := Bx.mk hBB
    have HWG2 := HWG
    by_cases hC1 : C = 1
    · have hb1 : (CI == 1) = true := by rw [beq_iff_eq]; omega
      simp only [hC, hC1, if_true]
      obtain ⟨f, hf⟩ : ∃ f, entF T3 0 i = f := ⟨_, rfl⟩
      obtain ⟨nb, hnb⟩ : ∃ nb, isF T3 0 i = nb := ⟨_, rfl⟩
      simp only [hf, hnb] at HH3 ⊢
      obtain ⟨f1, f2⟩ := f
      unfold aggF at HH3
      dsimp only at HH3
      clear h hT hc hbase hpos hk1 hk7 hK hh hglt hbs hset hbv hix hcs hhn h256 hZ hD hn hC hC1 hCI hrp hm1 hm2 hiv hi64 hr hII hBB hf hnb HREL HATC HRB
      cases nb with
      | true =>
        simp only [if_true]
        go_enter Try.func80, Try.ntmps80
        go_wp2_with (first
          | (go_at_call 93; refine HNUM.out.mono ?_; rintro e w1 ⟨hf1, rfl, hr1⟩; have HFP := Bx.mk hf1; have HF1 := Bx.mk (HF0.out.read hf1 HG.out); have HR1 := Bx.mk hr1; clear hf1 hr1)
          | (go_at_call 72; refine (HH3.out _).mono ?_; rintro e w2 ⟨rfl, hb2⟩; have HF2 := Bx.mk (HF1.out.keep hb2); have HFP2 := Bx.mk (HFP.out.then (Fp.of_below hb2)); have HR2 := Bx.mk (HR1.out.keep hb2); obtain ⟨e1, e2⟩ := HF2.out.cells; obtain ⟨q1, q2⟩ := HF2.out.free; clear hb2))
        exact bodyPost_ret (ret_field Try.results80 _ _ w.heap.size (f1, f2) true rfl rfl (HF2.out.set2 _ _)) rfl ⟨fp_res HBA.out HFP2.out (Nat.le_refl _) _ _, rfl, HR2.out.res HG.out HWG.out _ _⟩
      | false =>
        simp only [Bool.false_eq_true, if_false]
        go_enter Try.func80, Try.ntmps80
        go_wp2_with (first
          | (go_at_call 93; refine HNUM.out.mono ?_; rintro e w1 ⟨hf1, rfl, hr1⟩; have HFP := Bx.mk hf1; have HF1 := Bx.mk (HF0.out.read hf1 HG.out); have HR1 := Bx.mk hr1; clear hf1 hr1)
          | (go_at_call 72; refine (HH3.out _).mono ?_; rintro e w2 ⟨rfl, hb2⟩; have HF2 := Bx.mk (HF1.out.keep hb2); have HFP2 := Bx.mk (HFP.out.then (Fp.of_below hb2)); have HR2 := Bx.mk (HR1.out.keep hb2); obtain ⟨e1, e2⟩ := HF2.out.cells; obtain ⟨q1, q2⟩ := HF2.out.free; clear hb2))
        exact bodyPost_ret (ret_field Try.results80 _ _ w.heap.size (f1, f2) false rfl rfl (HF2.out.set2 _ _)) rfl ⟨fp_res HBA.out HFP2.out (Nat.le_refl _) _ _, ⟨(f1, f2), rfl⟩, (HR2.out.res HG.out HWG.out _ _).below⟩
    · have hb1 : (CI == 1) = false := by rw [beq_eq_false_iff_ne]; omega
      simp only [hC, hC1, if_false]
      obtain ⟨o, ho⟩ : ∃ o, relN base i = o := ⟨_, rfl⟩
      rw [ho] at HREL HRB
      rw [ho]
      cases o with
      | none =>
        simp only [Opt_none] at HREL
        have HAT2 := Bx.mk (fun W hW => HATC.out W hW none false 0 rfl (fun a ha => by cases ha))
        have hat : atR T c none = none := rfl
        rw [hat] at HAT2
        rw [hat]
        simp only [Option.map_none] at HAT2
        unfold RdQ at HAT2
        dsimp only at HAT2 ⊢
        clear h hT hc hbase hpos hk1 hk7 hK hh hglt hbs hset hbv hix hcs hhn h256 hZ hD hn hC hC1 hCI hrp hm1 hm2 hiv hi64 hr hII hBB ho hat HH3 HATC HRB
        go_enter Try.func80, Try.ntmps80
        go_wp2_with (first
          | (go_at_call 93; refine HNUM.out.mono ?_; rintro e w1 ⟨hf1, rfl, hr1⟩; have HFP := Bx.mk hf1; have HF1 := Bx.mk (HF0.out.read hf1 HG.out); have HR1 := Bx.mk hr1; obtain ⟨_, _, _, _, _, _, k3, _⟩ := hr1.cells; rw [HBB.out] at k3; clear hf1 hr1)
          | (go_at_call 95; refine (HREL.out _).mono ?_; rintro e w2 ⟨rfl, rfl⟩)
          | (go_at_call 94; refine (HAT2.out _ HR1.out).mono ?_; rintro e w3 ⟨hf3, ⟨⟨f1, f2⟩, rfl⟩, hr3⟩; have HF3 := Bx.mk (HF1.out.read hf3 HG.out); have HFP3 := Bx.mk (HFP.out.then hf3); have HR3 := Bx.mk hr3; obtain ⟨e1, e2⟩ := HF3.out.cells; obtain ⟨q1, q2⟩ := HF3.out.free; clear hf3 hr3))
        exact bodyPost_ret (ret_field Try.results80 _ _ w.heap.size (f1, f2) false rfl rfl (HF3.out.set2 _ _)) rfl ⟨fp_res HBA.out HFP3.out (Nat.le_refl _) _ _, ⟨(f1, f2), rfl⟩, below_set2 HR3.out _ HWG.out _ _⟩
      | some a =>
        simp only [Opt_some] at HREL
        have ha64 := HRB.out a rfl
        have HAT2 := Bx.mk (fun W hW => HATC.out W hW (some a) true (a : Int) rfl (fun a' ha => by injection ha with ha; subst ha; exact ⟨rfl, ha64⟩))
        obtain ⟨AA, hAA⟩ := letter a
        rw [hAA] at HREL HAT2
        unfold RdQ at HAT2
        cases hat : atR T c (some a) with
        | none =>
          rw [hat] at HAT2
          simp only [Option.map_none] at HAT2
          clear h hT hc hbase hpos hk1 hk7 hK hh hglt hbs hset hbv hix hcs hhn h256 hZ hD hn hC hC1 hCI hrp hm1 hm2 hiv hi64 hr hII hBB ho hat HH3 HATC HRB ha64 hAA
          go_enter Try.func80, Try.ntmps80
          go_wp2_with (first
            | (go_at_call 93; refine HNUM.out.mono ?_; rintro e w1 ⟨hf1, rfl, hr1⟩; have HFP := Bx.mk hf1; have HF1 := Bx.mk (HF0.out.read hf1 HG.out); have HR1 := Bx.mk hr1; obtain ⟨_, _, _, _, _, _, k3, _⟩ := hr1.cells; rw [HBB.out] at k3; clear hf1 hr1)
            | (go_at_call 95; refine (HREL.out _).mono ?_; rintro e w2 ⟨rfl, rfl⟩)
            | (go_at_call 94; refine (HAT2.out _ HR1.out).mono ?_; rintro e w3 ⟨hf3, ⟨⟨f1, f2⟩, rfl⟩, hr3⟩; have HF3 := Bx.mk (HF1.out.read hf3 HG.out); have HFP3 := Bx.mk (HFP.out.then hf3); have HR3 := Bx.mk hr3; obtain ⟨e1, e2⟩ := HF3.out.cells; obtain ⟨q1, q2⟩ := HF3.out.free; clear hf3 hr3))
          exact bodyPost_ret (ret_field Try.results80 _ _ w.heap.size (f1, f2) false rfl rfl (HF3.out.set2 _ _)) rfl ⟨fp_res HBA.out HFP3.out (Nat.le_refl _) _ _, ⟨(f1, f2), rfl⟩, below_set2 HR3.out _ HWG.out _ _⟩
        | some f =>
          obtain ⟨f1, f2⟩ := f
          rw [hat] at HAT2
          simp only [Option.map_some] at HAT2
          clear h hT hc hbase hpos hk1 hk7 hK hh hglt hbs hset hbv hix hcs hhn h256 hZ hD hn hC hC1 hCI hrp hm1 hm2 hiv hi64 hr hII hBB ho hat HH3 HATC HRB ha64 hAA
          go_enter Try.func80, Try.ntmps80
          go_wp2_with (first
            | (go_at_call 93; refine HNUM.out.mono ?_; rintro e w1 ⟨hf1, rfl, hr1⟩; have HFP := Bx.mk hf1; have HF1 := Bx.mk (HF0.out.read hf1 HG.out); have HR1 := Bx.mk hr1; obtain ⟨_, _, _, _, _, _, k3, _⟩ := hr1.cells; rw [HBB.out] at k3; clear hf1 hr1)
            | (go_at_call 95; refine (HREL.out _).mono ?_; rintro e w2 ⟨rfl, rfl⟩)
            | (go_at_call 94; refine (HAT2.out _ HR1.out).mono ?_; rintro e w3 ⟨hf3, rfl, hr3⟩; have HF3 := Bx.mk (HF1.out.read hf3 HG.out); have HFP3 := Bx.mk (HFP.out.then hf3); have HR3 := Bx.mk hr3; obtain ⟨e1, e2⟩ := HF3.out.cells; obtain ⟨q1, q2⟩ := HF3.out.free; clear hf3 hr3))
          exact bodyPost_ret (ret_field Try.results80 _ _ w.heap.size (f1, f2) true rfl rfl (HF3.out.set2 _ _)) rfl ⟨fp_res HBA.out HFP3.out (Nat.le_refl _) _ _, rfl, HR3.out.res HG.out HWG.out _ _⟩
end
end Go.Proofs.Yteopmaaghhendaa

/-
  Contracts of the reader's above, named, valued.
-/
namespace Go.Proofs.Yteopmaaghhendaa
open Go.RowKit Go.Maps
set_option linter.unusedVariables false
set_option linter.unusedSimpArgs false

section
variable {w0 w w' : World} {g p c base : Nat} {b : List UInt8} {T : Tab} {S : Nat → Prop}
theorem sum_bound {a b m x : Nat} (h : sumN a b m = some x) (hm : m < 18446744073709551616) : x < 18446744073709551616 := by
  unfold sumN at h
  split at h
  · injection h with h; omega
  · cases h
set_option maxRecDepth 100000 in
set_option maxHeartbeats 4000000 in
theorem rabove_any (h : Rw w0 g p c base b w) (hT : Tb p T w0 S) (hc : c < 18446744073709551616) (hbase : base < 18446744073709551616) (k : Nat) (hk1 : 1 ≤ k) (hk7 : k ≤ 7) (K : Int) (hK : (k : Int) = K) :
    Calls Try.prog 83 #[.pointer (some ⟨g, 0, none⟩), .int .i64 K] w (RdQ w0 g p c base w (abvR k T c base b)) := by
  have HF0 : Bx (Fb 56 (w.alloc (.cells #[.string ⟨#[]⟩, .string ⟨#[]⟩] 56)) w.heap.size emp) := ⟨Fb.new 56 w emp⟩
  have hbA := (Below.refl w.heap.size w).alloc (Nat.le_refl _) (.cells #[.string ⟨#[]⟩, .string ⟨#[]⟩] 56)
  have HBA := Bx.mk hbA
  have hh := h.keep hbA
  have hglt := h.lt
  have HG := Bx.mk (show w.heap.size ≠ g by omega)
  have HWG : Bx (w0.heap.size ≤ w.heap.size) := ⟨h.below.size⟩
  have HNUM := Bx.mk (rnumber_any hh k hk1 hk7 K hK)
  unfold abvR
  cases hn : numP k b with
  | none =>
    rw [hn] at HNUM
    dsimp only at HNUM ⊢
    clear h hT hc hbase hk1 hk7 hK hh hglt hn
    go_enter Try.func83, Try.ntmps83
    go_wp2_with (go_at_call 93; refine HNUM.out.mono ?_; rintro e w1 ⟨hf1, ⟨x, rfl⟩, hb1⟩; have HFP := Bx.mk hf1; have HF1 := Bx.mk (HF0.out.read hf1 HG.out); have HB1 := Bx.mk hb1; obtain ⟨e1, e2⟩ := HF1.out.cells; obtain ⟨q1, q2⟩ := HF1.out.free; clear hb1 hf1)
    have HB2 := Bx.mk (below_set2 HB1.out w.heap.size HWG.out (.string ⟨#[]⟩) (.string ⟨#[]⟩))
    exact bodyPost_ret (ret_field Try.results83 _ _ w.heap.size emp false rfl rfl (HF1.out.set2 _ _)) rfl ⟨fp_res HBA.out HFP.out (Nat.le_refl _) _ _, ⟨emp, rfl⟩, HB2.out⟩
  | some ir =>
    obtain ⟨i, r⟩ := ir
    obtain ⟨m, hrp, rfl, hm1, hm2, hiv⟩ := numP_some hn
    have hi64 : i < 18446744073709551616 := by unfold maxVar at hiv; omega
    rw [hn] at HNUM
    dsimp only at HNUM ⊢
    obtain ⟨r, hr⟩ : ∃ r, b.drop m = r := ⟨_, rfl⟩
    rw [hr] at HNUM
    simp only [hr]
    have HREL := Bx.mk (fun W => post_any base i hbase hi64 W)
    have HATC := Bx.mk (fun W (hW : Rw w0 g p c base r W) o ok x ho hx => rat_any hW hT hc o ok x ho hx)
    have HRB := Bx.mk (fun x (hx : sumN base i 4611686018427387903 = some x) => sum_bound hx (by omega))
    obtain ⟨II, hII⟩ := letter i
    obtain ⟨BB, hBB⟩ := letter base
    simp only [hII] at HNUM HREL
    simp only [hBB] at HREL
    have HBB := Bx.mk hBB
    obtain ⟨o, ho⟩ : ∃ o, sumN base i 4611686018427387903 = o := ⟨_, rfl⟩
    rw [ho] at HREL HRB
    rw [ho]
    cases o with
    | none =>
      simp only [Opt_none] at HREL
      have HAT2 := Bx.mk (fun W hW => HATC.out W hW none false 0 rfl (fun a ha => by cases ha))
      have hat : atR T c none = none := rfl
      rw [hat] at HAT2
      rw [hat]
      simp only [Option.map_none] at HAT2
      unfold RdQ at HAT2
      dsimp only at HAT2 ⊢
      clear h hT hc hbase hk1 hk7 hK hh hglt hn hrp hm1 hm2 hiv hi64 hr hII hBB ho hat HATC HRB
      go_enter Try.func83, Try.ntmps83
      go_wp2_with (first
        | (go_at_call 93; refine HNUM.out.mono ?_; rintro e w1 ⟨hf1, rfl, hr1⟩; have HFP := Bx.mk hf1; have HF1 := Bx.mk (HF0.out.read hf1 HG.out); have HR1 := Bx.mk hr1; obtain ⟨_, _, _, _, _, _, k3, _⟩ := hr1.cells; rw [HBB.out] at k3; clear hf1 hr1)
        | (go_at_call 96; refine (HREL.out _).mono ?_; rintro e w2 ⟨rfl, rfl⟩)
        | (go_at_call 94; refine (HAT2.out _ HR1.out).mono ?_; rintro e w3 ⟨hf3, ⟨⟨f1, f2⟩, rfl⟩, hr3⟩; have HF3 := Bx.mk (HF1.out.read hf3 HG.out); have HFP3 := Bx.mk (HFP.out.then hf3); have HR3 := Bx.mk hr3; obtain ⟨e1, e2⟩ := HF3.out.cells; obtain ⟨q1, q2⟩ := HF3.out.free; clear hf3 hr3))
      exact bodyPost_ret (ret_field Try.results83 _ _ w.heap.size (f1, f2) false rfl rfl (HF3.out.set2 _ _)) rfl ⟨fp_res HBA.out HFP3.out (Nat.le_refl _) _ _, ⟨(f1, f2), rfl⟩, below_set2 HR3.out _ HWG.out _ _⟩
    | some a =>
      simp only [Opt_some] at HREL
      have ha64 := HRB.out a rfl
      have HAT2 := Bx.mk (fun W hW => HATC.out W hW (some a) true (a : Int) rfl (fun a' ha => by injection ha with ha; subst ha; exact ⟨rfl, ha64⟩))
      obtain ⟨AA, hAA⟩ := letter a
      rw [hAA] at HREL HAT2
      unfold RdQ at HAT2
      cases hat : atR T c (some a) with
      | none =>
        rw [hat] at HAT2
        simp only [Option.map_none] at HAT2
        clear h hT hc hbase hk1 hk7 hK hh hglt hn hrp hm1 hm2 hiv hi64 hr hII hBB ho hat HATC HRB ha64 hAA
        go_enter Try.func83, Try.ntmps83
        go_wp2_with (first
          | (go_at_call 93; refine HNUM.out.mono ?_; rintro e w1 ⟨hf1, rfl, hr1⟩; have HFP := Bx.mk hf1; have HF1 := Bx.mk (HF0.out.read hf1 HG.out); have HR1 := Bx.mk hr1; obtain ⟨_, _, _, _, _, _, k3, _⟩ := hr1.cells; rw [HBB.out] at k3; clear hf1 hr1)
          | (go_at_call 96; refine (HREL.out _).mono ?_; rintro e w2 ⟨rfl, rfl⟩)
          | (go_at_call 94; refine (HAT2.out _ HR1.out).mono ?_; rintro e w3 ⟨hf3, ⟨⟨f1, f2⟩, rfl⟩, hr3⟩; have HF3 := Bx.mk (HF1.out.read hf3 HG.out); have HFP3 := Bx.mk (HFP.out.then hf3); have HR3 := Bx.mk hr3; obtain ⟨e1, e2⟩ := HF3.out.cells; obtain ⟨q1, q2⟩ := HF3.out.free; clear hf3 hr3))
        exact bodyPost_ret (ret_field Try.results83 _ _ w.heap.size (f1, f2) false rfl rfl (HF3.out.set2 _ _)) rfl ⟨fp_res HBA.out HFP3.out (Nat.le_refl _) _ _, ⟨(f1, f2), rfl⟩, below_set2 HR3.out _ HWG.out _ _⟩
      | some f =>
        obtain ⟨f1, f2⟩ := f
        rw [hat] at HAT2
        simp only [Option.map_some] at HAT2
        clear h hT hc hbase hk1 hk7 hK hh hglt hn hrp hm1 hm2 hiv hi64 hr hII hBB ho hat HATC HRB ha64 hAA
        go_enter Try.func83, Try.ntmps83
        go_wp2_with (first
          | (go_at_call 93; refine HNUM.out.mono ?_; rintro e w1 ⟨hf1, rfl, hr1⟩; have HFP := Bx.mk hf1; have HF1 := Bx.mk (HF0.out.read hf1 HG.out); have HR1 := Bx.mk hr1; obtain ⟨_, _, _, _, _, _, k3, _⟩ := hr1.cells; rw [HBB.out] at k3; clear hf1 hr1)
          | (go_at_call 96; refine (HREL.out _).mono ?_; rintro e w2 ⟨rfl, rfl⟩)
          | (go_at_call 94; refine (HAT2.out _ HR1.out).mono ?_; rintro e w3 ⟨hf3, rfl, hr3⟩; have HF3 := Bx.mk (HF1.out.read hf3 HG.out); have HFP3 := Bx.mk (HFP.out.then hf3); have HR3 := Bx.mk hr3; obtain ⟨e1, e2⟩ := HF3.out.cells; obtain ⟨q1, q2⟩ := HF3.out.free; clear hf3 hr3))
        exact bodyPost_ret (ret_field Try.results83 _ _ w.heap.size (f1, f2) true rfl rfl (HF3.out.set2 _ _)) rfl ⟨fp_res HBA.out HFP3.out (Nat.le_refl _) _ _, rfl, HR3.out.res HG.out HWG.out _ _⟩
end
end Go.Proofs.Yteopmaaghhendaa

/-
  Contracts of the reader's named, valued.
-/
namespace Go.Proofs.Yteopmaaghhendaa
open Go.RowKit Go.Maps
set_option linter.unusedVariables false
set_option linter.unusedSimpArgs false

section
variable {w0 w w' : World} {g p c base : Nat} {b : List UInt8} {T : Tab} {S : Nat → Prop}
/-- What is left: cut. -/
theorem Rw.cut {w1 : World} (h : Rw w0 g p c base b w1) (m : Nat) (hm : m ≤ b.length) : ∃ A n k A' n' k', w1.cell? ⟨g, 0, none⟩ = some (.slice A n k) ∧ w1.frozen? ⟨g, 0, none⟩ = false ∧ (∀ W : World, (Instr.slice 23 (.slice A n k) (some (.int .i64 (m : Int))) none none).run Try.prog W = .ok (.slice A' n' k') W) ∧
    Rw w0 g p c base (b.drop m) (w1.setCell ⟨g, 0, none⟩ (.slice A' n' k')) ∧ Fp (fun k => k = g) w1 (w1.setCell ⟨g, 0, none⟩ (.slice A' n' k')) := by
  have hl := h.len
  obtain ⟨A, n, kk, c0, _, _, _, f0, hbs, hset⟩ := h.cells
  have hbw := hbs w1 h.below
  obtain ⟨v4, hfrom, hbs4⟩ := hbw.from_ (m : Int) (by omega) (by omega)
  have hmm : (m : Int).toNat = m := by omega
  rw [hmm] at hbs4
  obtain ⟨A4, n4, c4, rfl⟩ : ∃ A4 n4 c4, v4 = .slice A4 n4 c4 := by obtain ⟨A, n, c, e, _⟩ := (hbs4 w1 hbw).open_; exact ⟨A, n, c, e⟩
  exact ⟨A, n, kk, A4, n4, c4, c0, f0, hfrom, hset A4 n4 c4 (b.drop m) (by rw [List.length_drop]; omega) (fun W hW => hbs4 W (hbs W hW)), Fp.set _ _ _ _ rfl⟩
theorem Rw.val {w1 : World} (h : Rw w0 g p c base b w1) : ∃ A n k, w1.cell? ⟨g, 0, none⟩ = some (.slice A n k) ∧ Bs w1 (.slice A n k) b := by
  obtain ⟨A, n, kk, c0, _, _, _, f0, hbs, hset⟩ := h.cells
  exact ⟨A, n, kk, c0, hbs w1 h.below⟩
set_option maxRecDepth 100000 in
set_option maxHeartbeats 4000000 in
theorem rnamed_any (h : Rw w0 g p c base b w) :
    Calls Try.prog 82 #[.pointer (some ⟨g, 0, none⟩)] w (RdQ w0 g p c base w (nmdR b)) := by
  have HF0 : Bx (Fb 56 (w.alloc (.cells #[.string ⟨#[]⟩, .string ⟨#[]⟩] 56)) w.heap.size emp) := ⟨Fb.new 56 w emp⟩
  have hbA := (Below.refl w.heap.size w).alloc (Nat.le_refl _) (.cells #[.string ⟨#[]⟩, .string ⟨#[]⟩] 56)
  have HBA := Bx.mk hbA
  have hh := h.keep hbA
  have hglt := h.lt
  have hlen := h.len
  have HG := Bx.mk (show w.heap.size ≠ g by omega)
  have HWG : Bx (w0.heap.size ≤ w.heap.size) := ⟨h.below.size⟩
  obtain ⟨A, n, kk, c0, hbv⟩ := hh.val
  have HTX := Bx.mk (text_any (.slice A n kk) b 3 (by omega) (by omega) _ hbv hlen 3 rfl)
  have HH := Bx.mk hh
  rcases sb_casesK 3 b with ⟨e0, he0, hs⟩ | ⟨s, m, hs, h1, h2, h3⟩
  · have hn : nmdR b = none := by unfold nmdR; rw [hs, if_neg he0]
    rw [hn]
    rw [hs] at HTX
    dsimp only at HTX
    have hd : (e0 != 0) = true := by rw [bne_iff_ne]; exact he0
    clear h hh hbv hglt hlen hn hs he0
    go_enter Try.func82, Try.ntmps82
    go_wp2_with (go_at_call 73; refine HTX.out.mono ?_; rintro e w1 ⟨⟨z, rfl, hz⟩, hb1⟩; have HB1 := Bx.mk hb1; have HF1 := Bx.mk (HF0.out.keep hb1); have HR1 := Bx.mk (HH.out.keep hb1); obtain ⟨e1, e2⟩ := HF1.out.cells; obtain ⟨q1, q2⟩ := HF1.out.free; clear hb1 hz)
    exact bodyPost_ret (ret_field Try.results82 _ _ w.heap.size emp false rfl rfl (HF1.out.set2 _ _)) rfl ⟨fp_res HBA.out (Fp.of_below HB1.out) (Nat.le_refl _) _ _, ⟨emp, rfl⟩, below_set2 HR1.out.below _ HWG.out _ _⟩
  · have hn : nmdR b = some ((bstr s, ⟨#[]⟩), b.drop m) := by unfold nmdR; rw [hs]; simp
    rw [hn]
    rw [hs] at HTX
    dsimp only at HTX
    have HCUT := Bx.mk (fun W (hW : Rw w0 g p c base b W) => hW.cut m h2)
    obtain ⟨MM, hMM⟩ := letter m
    rw [hMM] at HTX HCUT
    obtain ⟨st, hst⟩ : ∃ st, bstr s = st := ⟨_, rfl⟩
    simp only [hst] at HTX ⊢
    clear h hh hbv hglt hlen hn hs h1 h2 h3 hMM hst
    go_enter Try.func82, Try.ntmps82
    go_wp2_with (go_at_call 73; refine HTX.out.mono ?_; rintro e w1 ⟨⟨z, rfl, hz⟩, hb1⟩; obtain rfl := hz (by trivial); have HB1 := Bx.mk hb1; have HF1 := Bx.mk (HF0.out.keep hb1); obtain ⟨A1, n1, k1, A2, n2, k2, d0, g0, hcut, hr2, hf2⟩ := HCUT.out _ (HH.out.keep hb1); have HR2 := Bx.mk hr2; have HFP2 := Bx.mk ((Fp.of_below hb1).then hf2); have HF2 := Bx.mk (HF1.out.read hf2 HG.out); obtain ⟨e1, e2⟩ := HF2.out.cells; obtain ⟨q1, q2⟩ := HF2.out.free; clear hb1 hz hr2 hf2)
    exact bodyPost_ret (ret_field Try.results82 _ _ w.heap.size (st, ⟨#[]⟩) true rfl rfl (HF2.out.set2 _ _)) rfl ⟨fp_res HBA.out HFP2.out (Nat.le_refl _) _ _, rfl, HR2.out.res HG.out HWG.out _ _⟩
set_option maxRecDepth 100000 in
set_option maxHeartbeats 4000000 in
theorem rvalued_any (h : Rw w0 g p c base b w) (f1 f2 : ByteArray) :
    Calls Try.prog 81 #[.pointer (some ⟨g, 0, none⟩), .agg #[.string f1, .string f2], .bool true] w (RdQ w0 g p c base w (valR (some ((f1, f2), b)))) := by
  obtain ⟨wB, hwB⟩ : ∃ wB, w.alloc (.cells #[.string f1, .string f2] 56) = wB := ⟨_, rfl⟩
  have hbB : Below w.heap.size w wB := by rw [← hwB]; exact (Below.refl w.heap.size w).alloc (Nat.le_refl _) _
  have hfB : Fb 56 wB w.heap.size (f1, f2) := by rw [← hwB]; exact Fb.new 56 w (f1, f2)
  have hsB : wB.heap.size = w.heap.size + 1 := by rw [← hwB]; simp
  have HF0 : Bx (Fb 56 (wB.alloc (.cells #[.string ⟨#[]⟩, .string ⟨#[]⟩] 56)) wB.heap.size emp) := ⟨Fb.new 56 wB emp⟩
  rw [hsB] at HF0
  have hbA := (Below.refl wB.heap.size wB).alloc (Nat.le_refl _) (.cells #[.string ⟨#[]⟩, .string ⟨#[]⟩] 56)
  have HFB := Bx.mk (hfB.keep hbA)
  have hbW : Below w.heap.size w (wB.alloc (.cells #[.string ⟨#[]⟩, .string ⟨#[]⟩] 56)) := hbB.trans (hbA.mono hbB.size)
  have HBA := Bx.mk hbW
  have hh := h.keep hbW
  have hglt := h.lt
  have hlen := h.len
  have HG := Bx.mk (show w.heap.size + 1 ≠ g by omega)
  have HG0 := Bx.mk (show w.heap.size ≠ g by omega)
  have HWG : Bx (w0.heap.size ≤ w.heap.size + 1) := ⟨by have := h.below.size; omega⟩
  obtain ⟨A, n, kk, c0, hbv⟩ := hh.val
  have HTX := Bx.mk (str_any (.slice A n kk) b _ hbv (by omega))
  have HH := Bx.mk hh
  rw [← hwB] at hbW c0 HF0 HFB HBA HTX HH
  unfold AnsS at HTX
  unfold valR
  dsimp only
  cases ht : txtP b with
  | none =>
    obtain ⟨e0, he0, hs⟩ := txtP_none ht
    rw [hs] at HTX
    dsimp only at HTX ⊢
    have hd : (e0 != 0) = true := by rw [bne_iff_ne]; exact he0
    clear h hh hbv hglt hlen hs he0 ht hbB hfB hsB hbA hbW hwB
    go_enter Try.func81, Try.ntmps81
    go_wp2_with (go_at_call 68; refine HTX.out.mono ?_; rintro e w1 ⟨rfl, hb1⟩; have HB1 := Bx.mk hb1; have HF1 := Bx.mk (HF0.out.keep hb1); have HR1 := Bx.mk (HH.out.keep hb1); obtain ⟨e1, e2⟩ := HF1.out.cells; obtain ⟨q1, q2⟩ := HF1.out.free; clear hb1)
    exact bodyPost_ret (ret_field Try.results81 _ _ (w.heap.size + 1) emp false rfl rfl (HF1.out.set2 _ _)) rfl ⟨fp_res HBA.out (Fp.of_below HB1.out) (Nat.le_succ _) _ _, ⟨emp, rfl⟩, below_set2 HR1.out.below _ HWG.out _ _⟩
  | some vr =>
    obtain ⟨st, r⟩ := vr
    obtain ⟨s, m, hs, hst, rfl, h1, h2, h3⟩ := txtP_some ht
    rw [hs] at HTX
    rw [← hst] at HTX
    dsimp only at HTX ⊢
    have HCUT := Bx.mk (fun W (hW : Rw w0 g p c base b W) => hW.cut m h2)
    obtain ⟨MM, hMM⟩ := letter m
    rw [hMM] at HTX HCUT
    clear h hh hbv hglt hlen hs ht h1 h2 h3 hMM hst hbB hfB hsB hbA hbW hwB
    go_enter Try.func81, Try.ntmps81
    go_wp2_with (go_at_call 68; refine HTX.out.mono ?_; rintro e w1 ⟨rfl, hb1⟩; have HB1 := Bx.mk hb1; have HF1 := Bx.mk (HF0.out.keep hb1); obtain ⟨A1, n1, k1, A2, n2, k2, d0, g0, hcut, hr2, hf2⟩ := HCUT.out _ (HH.out.keep hb1); have HR2 := Bx.mk hr2; have HFP2 := Bx.mk ((Fp.of_below hb1).then hf2); have HF2 := Bx.mk (HF1.out.read hf2 HG.out); have HFC := Bx.mk ((HFB.out.keep hb1).read hf2 HG0.out); obtain ⟨e1, e2⟩ := HF2.out.cells; obtain ⟨q1, q2⟩ := HF2.out.free; obtain ⟨i1, _⟩ := HFC.out.cells; clear hb1 hr2 hf2)
    exact bodyPost_ret (ret_field Try.results81 _ _ (w.heap.size + 1) (f1, st) true rfl rfl (HF2.out.set2 _ _)) rfl ⟨fp_res HBA.out HFP2.out (Nat.le_succ _) _ _, rfl, HR2.out.res HG.out HWG.out _ _⟩
set_option maxRecDepth 100000 in
set_option maxHeartbeats 4000000 in
theorem rvalued_no (hB : Below w0.heap.size w0 w) (f1 f2 : ByteArray) :
    Calls Try.prog 81 #[.pointer (some ⟨g, 0, none⟩), .agg #[.string f1, .string f2], .bool false] w (RdQ w0 g p c base w none) := by
  obtain ⟨wB, hwB⟩ : ∃ wB, w.alloc (.cells #[.string f1, .string f2] 56) = wB := ⟨_, rfl⟩
  have hbB : Below w.heap.size w wB := by rw [← hwB]; exact (Below.refl w.heap.size w).alloc (Nat.le_refl _) _
  have hsB : wB.heap.size = w.heap.size + 1 := by rw [← hwB]; simp
  have HF0 : Bx (Fb 56 (wB.alloc (.cells #[.string ⟨#[]⟩, .string ⟨#[]⟩] 56)) wB.heap.size emp) := ⟨Fb.new 56 wB emp⟩
  rw [hsB] at HF0
  have hbA := (Below.refl wB.heap.size wB).alloc (Nat.le_refl _) (.cells #[.string ⟨#[]⟩, .string ⟨#[]⟩] 56)
  have hbW : Below w.heap.size w (wB.alloc (.cells #[.string ⟨#[]⟩, .string ⟨#[]⟩] 56)) := hbB.trans (hbA.mono hbB.size)
  have HBA := Bx.mk hbW
  have HB0 := Bx.mk (hB.trans (hbW.mono hB.size))
  rw [← hwB] at HF0 HBA HB0
  clear hbB hsB hbA hbW hwB
  go_enter Try.func81, Try.ntmps81
  go_wp2_with fail
  exact bodyPost_ret (ret_field Try.results81 _ _ (w.heap.size + 1) emp false rfl rfl HF0.out) rfl ⟨Fp.of_below HBA.out, ⟨emp, rfl⟩, HB0.out⟩
end
end Go.Proofs.Yteopmaaghhendaa

/-
  Contract of the reader's line.
-/
namespace Go.Proofs.Yteopmaaghhendaa
open Go.RowKit Go.Maps
set_option linter.unusedVariables false
set_option linter.unusedSimpArgs false

section
variable {w0 w w' : World} {g p c base : Nat} {b : List UInt8} {T : Tab} {S : Nat → Prop}
/-- A value behind what was read. -/
theorem rvalued_of (o : Option (Fd × List UInt8)) {w1 : World} {f1 f2 : ByteArray} {ok : Bool} (hR : RdQ w0 g p c base w o (.returned (.tuple #[.agg #[.string f1, .string f2], .bool ok])) w1) :
    Calls Try.prog 81 #[.pointer (some ⟨g, 0, none⟩), .agg #[.string f1, .string f2], .bool ok] w1 fun e w' => RdQ w0 g p c base w1 (valR o) e w' ∧ Fp (fun k => k = g) w w' := by
  unfold RdQ at hR
  cases o with
  | none =>
    obtain ⟨hf, ⟨f, he⟩, hb⟩ := hR
    simp only [Ending.returned.injEq, Value.tuple.injEq, Array.mk.injEq, List.cons.injEq, Value.bool.injEq, and_true] at he
    obtain ⟨_, rfl⟩ := he
    exact (rvalued_no hb f1 f2).mono fun e w' h => ⟨h, hf.then h.1⟩
  | some fr =>
    obtain ⟨⟨a1, a2⟩, r⟩ := fr
    obtain ⟨hf, he, hr⟩ := hR
    simp only [Ending.returned.injEq, Value.tuple.injEq, Array.mk.injEq, List.cons.injEq, Value.bool.injEq, and_true, Value.agg.injEq, Value.string.injEq] at he
    obtain ⟨⟨rfl, rfl⟩, rfl⟩ := he
    exact (rvalued_any hr f1 f2).mono fun e w' h => ⟨h, hf.then h.1⟩
/-- The shape of what a reading hands back. -/
theorem RdQ.shape {o : Option (Fd × List UInt8)} {e : Ending} (h : RdQ w0 g p c base w o e w') : ∃ f1 f2 ok, e = .returned (.tuple #[.agg #[.string f1, .string f2], .bool ok]) := by
  unfold RdQ at h
  cases o with
  | none => obtain ⟨_, ⟨f, he⟩, _⟩ := h; exact ⟨_, _, _, he⟩
  | some fr => obtain ⟨f, r⟩ := fr; obtain ⟨_, he, _⟩ := h; exact ⟨_, _, _, he⟩
theorem RdQ.first {o : Option (Fd × List UInt8)} {e : Ending} {wa wb : World} (h : RdQ w0 g p c base wb o e w') (hf : Fp (fun k => k = g) wa w') : RdQ w0 g p c base wa o e w' := ⟨hf, h.2⟩
theorem RdQ.res {G : Nat} {o : Option (Fd × List UInt8)} {e : Ending} {wA w1 : World} (hA : Below w.heap.size w wA) (h : RdQ w0 g p c base wA o e w1) (hG : w.heap.size ≤ G) (hne : G ≠ g) (hge : w0.heap.size ≤ G) (x y : Value) :
    RdQ w0 g p c base w o e ((w1.setCell ⟨G, 0, none⟩ x).setCell ⟨G, 1, none⟩ y) := by
  unfold RdQ at *
  cases o with
  | none =>
    obtain ⟨hf, he, hb⟩ := h
    exact ⟨fp_res hA hf hG x y, he, below_set2 hb G hge x y⟩
  | some fr =>
    obtain ⟨f, r⟩ := fr
    obtain ⟨hf, he, hr⟩ := h
    exact ⟨fp_res hA hf hG x y, he, hr.res hne hge x y⟩
set_option maxRecDepth 100000 in
set_option maxHeartbeats 4000000 in
theorem rline_any (h : Rw w0 g p c base b w) (hT : Tb p T w0 S) (hc : c < 18446744073709551616) (hbase : base < 18446744073709551616) (hpos : 0 < b.length) :
    Calls Try.prog 60 #[.pointer (some ⟨g, 0, none⟩)] w (RdQ w0 g p c base w (lineR T c base b)) := by
  have HF0 : Bx (Fb 56 (w.alloc (.cells #[.string ⟨#[]⟩, .string ⟨#[]⟩] 56)) w.heap.size emp) := ⟨Fb.new 56 w emp⟩
  have hbA := (Below.refl w.heap.size w).alloc (Nat.le_refl _) (.cells #[.string ⟨#[]⟩, .string ⟨#[]⟩] 56)
  have HBA := Bx.mk hbA
  have hh := h.keep hbA
  have hglt := h.lt
  have HG := Bx.mk (show w.heap.size ≠ g by omega)
  have HWG : Bx (w0.heap.size ≤ w.heap.size) := ⟨h.below.size⟩
  obtain ⟨A, n, kk, c0, hbv⟩ := hh.val
  obtain ⟨p0, hix, hcs⟩ := hbv.at_ 0 hpos
  have hix0 : ∀ W, (Instr.indexAt 23 (.slice A n kk) (.int .i64 0)).run Try.prog W = .ok (.pointer (some p0)) W := hix
  have hcell := hcs _ hbv
  rw [← headD_at hpos] at hcell
  have hhn : headN b = (b.headD 0).toNat := rfl
  rw [← hhn] at hcell
  have h256 : headN b < 256 := (b.headD 0).toNat_lt
  obtain ⟨Z, hZ⟩ := letter (headN b)
  rw [hZ] at hcell
  unfold lineR
  by_cases h128 : 128 ≤ headN b
  · have hq1 : (Z / 128 == 1) = true := by rw [beq_iff_eq]; omega
    rw [if_pos h128]
    have HE := Bx.mk (rentry_any hh hT hc hbase hpos 6 (by omega) (by omega) 6 rfl)
    clear h hT hc hbase hpos hh hglt hbv hix hcs hhn h256 hZ h128
    go_enter Try.func60, Try.ntmps60
    go_wp2_with (go_at_call 80; refine HE.out.mono ?_; rintro e w1 hr1; obtain ⟨f1, f2, ok, rfl⟩ := hr1.shape; have HR2 := Bx.mk hr1; have HF2 := Bx.mk (HF0.out.read hr1.1 HG.out); obtain ⟨e1, e2⟩ := HF2.out.cells; obtain ⟨q1, q2⟩ := HF2.out.free; clear hr1)
    exact bodyPost_ret (ret_field Try.results60 _ _ w.heap.size (f1, f2) ok rfl rfl (HF2.out.set2 _ _)) rfl (RdQ.res HBA.out HR2.out (Nat.le_refl _) HG.out HWG.out _ _)
  · have hq1 : (Z / 128 == 1) = false := by rw [beq_eq_false_iff_ne]; omega
    rw [if_neg h128]
    by_cases h64 : 64 ≤ headN b
    · have hq2 : (Z / 64 == 1) = true := by rw [beq_iff_eq]; omega
      rw [if_pos h64]
      have HE := Bx.mk (rentry_any hh hT hc hbase hpos 4 (by omega) (by omega) 4 rfl)
      clear h hT hc hbase hpos hh hglt hbv hix hcs hhn h256 hZ h128 h64
      go_enter Try.func60, Try.ntmps60
      go_wp2_with (first
        | (go_at_call 80; refine HE.out.mono ?_; rintro e w1 hr1; obtain ⟨f1, f2, ok, rfl⟩ := hr1.shape; have HR1 := Bx.mk hr1; clear hr1)
        | (go_at_call 81; refine (rvalued_of _ HR1.out).mono ?_; rintro e w2 ⟨hr2, hf2⟩; obtain ⟨a1, a2, ok2, rfl⟩ := hr2.shape; have HR2 := Bx.mk (hr2.first hf2); have HF2 := Bx.mk (HF0.out.read hf2 HG.out); obtain ⟨e1, e2⟩ := HF2.out.cells; obtain ⟨q1, q2⟩ := HF2.out.free; clear hr2 hf2))
      exact bodyPost_ret (ret_field Try.results60 _ _ w.heap.size (a1, a2) ok2 rfl rfl (HF2.out.set2 _ _)) rfl (RdQ.res HBA.out HR2.out (Nat.le_refl _) HG.out HWG.out _ _)
    · have hq2 : (Z / 64 == 1) = false := by rw [beq_eq_false_iff_ne]; omega
      rw [if_neg h64]
      by_cases h32 : 32 ≤ headN b
      · have hq3 : (Z / 32 == 1) = true := by rw [beq_iff_eq]; omega
        rw [if_pos h32]
        have HE := Bx.mk (rnamed_any hh)
        clear h hT hc hbase hpos hh hglt hbv hix hcs hhn h256 hZ h128 h64 h32
        go_enter Try.func60, Try.ntmps60
        go_wp2_with (first
          | (go_at_call 82; refine HE.out.mono ?_; rintro e w1 hr1; obtain ⟨f1, f2, ok, rfl⟩ := hr1.shape; have HR1 := Bx.mk hr1; clear hr1)
          | (go_at_call 81; refine (rvalued_of _ HR1.out).mono ?_; rintro e w2 ⟨hr2, hf2⟩; obtain ⟨a1, a2, ok2, rfl⟩ := hr2.shape; have HR2 := Bx.mk (hr2.first hf2); have HF2 := Bx.mk (HF0.out.read hf2 HG.out); obtain ⟨e1, e2⟩ := HF2.out.cells; obtain ⟨q1, q2⟩ := HF2.out.free; clear hr2 hf2))
        exact bodyPost_ret (ret_field Try.results60 _ _ w.heap.size (a1, a2) ok2 rfl rfl (HF2.out.set2 _ _)) rfl (RdQ.res HBA.out HR2.out (Nat.le_refl _) HG.out HWG.out _ _)
      · have hq3 : (Z / 32 == 1) = false := by rw [beq_eq_false_iff_ne]; omega
        rw [if_neg h32]
        by_cases h16 : 16 ≤ headN b
        · have hq4 : (Z / 16 == 1) = true := by rw [beq_iff_eq]; omega
          rw [if_pos h16]
          have HE := Bx.mk (rabove_any hh hT hc hbase 4 (by omega) (by omega) 4 rfl)
          clear h hT hc hbase hpos hh hglt hbv hix hcs hhn h256 hZ h128 h64 h32 h16
          go_enter Try.func60, Try.ntmps60
          go_wp2_with (go_at_call 83; refine HE.out.mono ?_; rintro e w1 hr1; obtain ⟨f1, f2, ok, rfl⟩ := hr1.shape; have HR2 := Bx.mk hr1; have HF2 := Bx.mk (HF0.out.read hr1.1 HG.out); obtain ⟨e1, e2⟩ := HF2.out.cells; obtain ⟨q1, q2⟩ := HF2.out.free; clear hr1)
          exact bodyPost_ret (ret_field Try.results60 _ _ w.heap.size (f1, f2) ok rfl rfl (HF2.out.set2 _ _)) rfl (RdQ.res HBA.out HR2.out (Nat.le_refl _) HG.out HWG.out _ _)
        · have hq4 : (Z / 16 == 1) = false := by rw [beq_eq_false_iff_ne]; omega
          rw [if_neg h16]
          have HE := Bx.mk (rabove_any hh hT hc hbase 3 (by omega) (by omega) 3 rfl)
          clear h hT hc hbase hpos hh hglt hbv hix hcs hhn h256 hZ h128 h64 h32 h16
          go_enter Try.func60, Try.ntmps60
          go_wp2_with (first
            | (go_at_call 83; refine HE.out.mono ?_; rintro e w1 hr1; obtain ⟨f1, f2, ok, rfl⟩ := hr1.shape; have HR1 := Bx.mk hr1; clear hr1)
            | (go_at_call 81; refine (rvalued_of _ HR1.out).mono ?_; rintro e w2 ⟨hr2, hf2⟩; obtain ⟨a1, a2, ok2, rfl⟩ := hr2.shape; have HR2 := Bx.mk (hr2.first hf2); have HF2 := Bx.mk (HF0.out.read hf2 HG.out); obtain ⟨e1, e2⟩ := HF2.out.cells; obtain ⟨q1, q2⟩ := HF2.out.free; clear hr2 hf2))
          exact bodyPost_ret (ret_field Try.results60 _ _ w.heap.size (a1, a2) ok2 rfl rfl (HF2.out.set2 _ _)) rfl (RdQ.res HBA.out HR2.out (Nat.le_refl _) HG.out HWG.out _ _)
end
end Go.Proofs.Yteopmaaghhendaa

/-
  Contract of the reader's fields.
-/
namespace Go.Proofs.Yteopmaaghhendaa
open Go.RowKit Go.Maps
set_option linter.unusedVariables false
set_option linter.unusedSimpArgs false

theorem entR_len {k : Nat} {T : Tab} {c base : Nat} {b r : List UInt8} {f : Fd} (h : entR k T c base b = some (f, r)) : r.length < b.length := by
  unfold entR at h
  cases hn : numP k b with
  | none => rw [hn] at h; cases h
  | some ir =>
    obtain ⟨i, r'⟩ := ir
    obtain ⟨m, _, rfl, h1, h2, _⟩ := numP_some hn
    rw [hn] at h
    dsimp only at h
    have hl : (b.drop m).length < b.length := by rw [List.length_drop]; omega
    split at h
    · split at h
      · injection h with h; injection h with _ h; subst h; exact hl
      · cases h
    · split at h
      · cases h
      · injection h with h; injection h with _ h; subst h; exact hl
theorem abvR_len {k : Nat} {T : Tab} {c base : Nat} {b r : List UInt8} {f : Fd} (h : abvR k T c base b = some (f, r)) : r.length < b.length := by
  unfold abvR at h
  cases hn : numP k b with
  | none => rw [hn] at h; cases h
  | some ir =>
    obtain ⟨i, r'⟩ := ir
    obtain ⟨m, _, rfl, h1, h2, _⟩ := numP_some hn
    rw [hn] at h
    dsimp only at h
    have hl : (b.drop m).length < b.length := by rw [List.length_drop]; omega
    split at h
    · cases h
    · injection h with h; injection h with _ h; subst h; exact hl
theorem nmdR_len {b r : List UInt8} {f : Fd} (h : nmdR b = some (f, r)) : r.length < b.length := by
  unfold nmdR at h
  rcases sb_casesK 3 b with ⟨e0, he0, hs⟩ | ⟨s, m, hs, h1, h2, h3⟩
  · rw [hs, if_neg he0] at h; cases h
  · rw [hs] at h
    simp only [if_true, Int.toNat_natCast] at h
    injection h with h; injection h with _ h; subst h
    rw [List.length_drop]; omega
theorem valR_len {o : Option (Fd × List UInt8)} {n : Nat} {r : List UInt8} {f : Fd} (h : valR o = some (f, r)) (ho : ∀ f' r', o = some (f', r') → r'.length < n) : r.length < n := by
  unfold valR at h
  cases o with
  | none => cases h
  | some fr =>
    obtain ⟨f', r'⟩ := fr
    have := ho f' r' rfl
    dsimp only at h
    cases ht : txtP r' with
    | none => rw [ht] at h; cases h
    | some vr =>
      obtain ⟨v, r2⟩ := vr
      rw [ht] at h
      injection h with h; injection h with _ h; subst h
      obtain ⟨s, m, _, _, rfl, h1, h2, _⟩ := txtP_some ht
      rw [List.length_drop]; omega
theorem lineR_len {T : Tab} {c base : Nat} {b r : List UInt8} {f : Fd} (h : lineR T c base b = some (f, r)) : r.length < b.length := by
  unfold lineR at h
  split at h
  · exact entR_len h
  · split at h
    · exact valR_len h fun f' r' ho => entR_len ho
    · split at h
      · exact valR_len h fun f' r' ho => nmdR_len ho
      · split at h
        · exact abvR_len h
        · exact valR_len h fun f' r' ho => abvR_len ho
theorem linesR_step (T : Tab) (c base n : Nat) (out : List Fd) (b : List UInt8) : linesR T c base (n + 1) out b = if b = [] then some out else
    match lineR T c base b with
    | none => none
    | some (f, r) => if out.length = 64 then none else linesR T c base n (out ++ [f]) r := rfl
theorem linesR_nil (T : Tab) (c base n : Nat) (out : List Fd) : linesR T c base n out [] = some out := by cases n <;> rfl
section
variable {w0 w w' : World} {g p c base : Nat} {b : List UInt8} {T : Tab} {S : Nat → Prop}
theorem Rw.under {w1 w2 : World} {B : Nat} (h : Rw w0 g p c base b w1) (hb : Below B w1 w2) (hg : g < B) (hB : w0.heap.size ≤ B) : Rw w0 g p c base b w2 := by
  obtain ⟨A, n, k, hr, hs⟩ := h.row
  exact ⟨h.below.trans (hb.mono hB), h.ge, h.len, A, n, k, hr.of_block (hb.block g hg), hs⟩
theorem fp_under {a b' : World} (h : Fp (fun k => k = g) w a) (hb : Below w.heap.size a b') : Fp (fun k => k = g) w b' :=
  ⟨hb.os.trans h.os, hb.tape.trans h.tape, hb.output.trans h.output, Nat.le_trans h.size hb.size, fun k hk hn => (hb.block k hk).trans (h.block k hk hn)⟩
/-- Between two lines. -/
structure Lr (w0 w : World) (g p c base : Nat) (T : Tab) (b : List UInt8) (n : Nat) (out : List Fd) (rem : List UInt8) (v : Value) (wx : World) : Prop where
  rw_ : Rw w0 g p c base rem wx
  ow : OwF wx w.heap.size v out
  fp : Fp (fun k => k = g) w wx
  glt : g < w.heap.size
  fuel : rem.length ≤ n
  cnt : out.length ≤ 64
  wge : w0.heap.size ≤ w.heap.size
  go : linesR T c base n out rem = linesR T c base b.length [] b
theorem OwF.shape {w : World} {B : Nat} {v : Value} {l : List Fd} (h : OwF w B v l) : ∃ A n c, v = .slice A n c := by
  rcases h.2 with ⟨rfl, _⟩ | ⟨g, cap, cur, rfl, _⟩
  · exact ⟨_, _, _, rfl⟩
  · exact ⟨_, _, _, rfl⟩
theorem wpList_pushG {ops : Array Oper} {rest : List Oper} {o : Oper} {a : Act} {Q : Exit → Act → World → Prop} {B : Nat} {f1 f2 : ByteArray} {wx : World} {ov : Value} {out : List Fd} (G : Nat) (hG : wx.heap.size = G) (hgd : o.guard = none) (so xo : Operand)
    (ho : o.op = .call { callee := .builtin .append, args := #[so, xo], argTypes := #[38, 38] })
    (h : OwF wx B ov out) (hB : B ≤ wx.heap.size) (hl : out.length ≤ 1000) (hs : a.eval so = ov) (hx : a.eval xo = .slice (some ⟨G, 0, none⟩) 1 1)
    (hK : ∀ v' w', OwF w' B v' (out ++ [(f1, f2)]) → Below B (wx.alloc (.cells #[.string f1, .string f2] 56)) w' → wpList Try.prog ops Q rest (a.put o.dst v') w') :
    wpList Try.prog ops Q (o :: rest) a (wx.alloc (.cells #[.string f1, .string f2] 56)) := by
  subst hG
  exact wpList_pushF hgd so xo ho h hB hl hs hx hK
/-- What all lines hand back. -/
def FdsQ (w0 w : World) (o : Option (List Fd)) (e : Ending) (w' : World) : Prop :=
  Below w0.heap.size w0 w' ∧ match o with
    | some l => ∃ v, e = .returned (.tuple #[v, .bool true]) ∧ OwF w' w.heap.size v l ∧ l.length ≤ 64
    | none => e = .returned (.tuple #[.slice none 0 0, .bool false])
theorem OwF.besides {B : Nat} {v : Value} {l : List Fd} {w1 w2 : World} (h : OwF w1 B v l) (hf : Fp (fun k => k = g) w1 w2) (hg : g < B) : OwF w2 B v l := by
  refine ⟨h.1, ?_⟩
  rcases h.2 with h0 | ⟨k, cap, cur, e, hk, hh, rest⟩
  · exact .inl h0
  · exact .inr ⟨k, cap, cur, e, hk, by rw [hf.block k (Array.getElem?_eq_some_iff.1 hh).1 (by omega)]; exact hh, rest⟩
theorem OwF.keep {B : Nat} {v : Value} {l : List Fd} {w1 w2 : World} (h : OwF w1 B v l) (hb : Below w1.heap.size w1 w2) : OwF w2 B v l := ownN_keep h hb
set_option maxRecDepth 100000 in
set_option maxHeartbeats 4000000 in
theorem rfields_any (h : Rw w0 g p c base b w) (hT : Tb p T w0 S) (hc : c < 18446744073709551616) (hbase : base < 18446744073709551616) :
    Calls Try.prog 34 #[.pointer (some ⟨g, 0, none⟩)] w (FdsQ w0 w (linesR T c base b.length [] b)) := by
  have HS : Bx (Lr w0 w g p c base T b b.length [] b (.slice none 0 0) w) := ⟨⟨h, World.ownsRow_nil _ _ _ _, Fp.of_below (Below.refl _ _), h.lt, Nat.le_refl _, by simp, h.below.size, rfl⟩⟩
  have HLN := Bx.mk (fun W rem (hW : Rw w0 g p c base rem W) hp => rline_any hW hT hc hbase hp)
  obtain ⟨R, hR⟩ : ∃ R, linesR T c base b.length [] b = R := ⟨_, rfl⟩
  have HRR := Bx.mk hR
  rw [hR]
  clear h hT hc hbase hR
  go_enter Try.func34, Try.ntmps34
  go_wp2_with fail
  go_loopg [4] b.length (fun gk s4 wx => ∃ (out : List Fd) (rem : List UInt8), Bx (Lr w0 w g p c base T b gk out rem s4 wx))
  case atStart => exact ⟨[], b, HS⟩
  case round =>
    obtain ⟨out, rem, HL⟩ := hrel
    clear HS
    obtain ⟨A, n, kk, c0, hbv⟩ := HL.out.rw_.val
    have hlen := fun ty W => hbv.run_len ty W
    obtain ⟨L, hL⟩ : ∃ L, rem.length = L := ⟨_, rfl⟩
    rw [hL] at hlen
    by_cases h0 : L = 0
    · have hd : decide ((0 : Int) < (L : Int)) = false := decide_eq_false (by omega)
      have hd' : decide (0 < L) = false := decide_eq_false (by omega)
      have hr0 : rem = [] := List.eq_nil_of_length_eq_zero (by omega)
      have HGO : Bx (R = some out) := ⟨by rw [← HRR.out, ← HL.out.go, hr0, linesR_nil]⟩
      clear hbv hL h0 hr0
      go_wp2_with fail
      go_ret2
      rw [HGO.out]
      exact ⟨HL.out.rw_.below, _, rfl, HL.out.ow, HL.out.cnt⟩
    · have hd : decide (0 < L) = true := decide_eq_true (by omega)
      have hd' : decide ((0 : Int) < (L : Int)) = true := decide_eq_true (by omega)
      have hne : rem ≠ [] := fun e => by rw [e] at hL; simp at hL; omega
      cases gk with
      | zero => exact absurd HL.out.fuel (by omega)
      | succ m =>
        have HGO := Bx.mk HL.out.go
        rw [linesR_step, if_neg hne, HRR.out] at HGO
        have HLI := Bx.mk (HLN.out wr rem HL.out.rw_ (by omega))
        have hlen4 := fun ty W => HL.out.ow.run_len ty W
        obtain ⟨N, hN⟩ := letter out.length
        rw [hN] at hlen4
        cases hli : lineR T c base rem with
        | none =>
          rw [hli] at HGO HLI
          dsimp only at HGO
          unfold RdQ at HLI
          dsimp only at HLI
          clear hbv hL h0 hne hli
          go_wp2_with (go_at_call 60; refine HLI.out.mono ?_; rintro e w1 ⟨hf1, ⟨⟨f1, f2⟩, rfl⟩, hb1⟩; have HB1 := Bx.mk (hb1.alloc hb1.size (.cells #[.string f1, .string f2] 56)); clear hf1 hb1)
          go_ret2
          rw [← HGO.out]
          exact ⟨HB1.out, rfl⟩
        | some fr =>
          obtain ⟨⟨f1, f2⟩, r⟩ := fr
          have HLT := Bx.mk (lineR_len hli)
          rw [hli] at HGO HLI
          dsimp only at HGO
          unfold RdQ at HLI
          dsimp only at HLI
          by_cases h64 : out.length = 64
          · rw [if_pos h64] at HGO
            have hd64 : (N == 64) = true := by rw [beq_iff_eq]; omega
            clear hbv hL h0 hne hli hN h64
            go_wp2_with (go_at_call 60; refine HLI.out.mono ?_; rintro e w1 ⟨hf1, rfl, hr1⟩; have HB1 := Bx.mk (hr1.below.alloc hr1.below.size (.cells #[.string f1, .string f2] 56)); clear hf1 hr1)
            go_ret2
            rw [← HGO.out]
            exact ⟨HB1.out, rfl⟩
          · rw [if_neg h64] at HGO
            have hd64 : (N == 64) = false := by rw [beq_eq_false_iff_ne]; omega
            have HC64 : Bx (out.length < 64) := ⟨by have := HL.out.cnt; omega⟩
            clear hbv hL h0 hne hli hN h64
            go_wp2_with (first
              | (go_at_call 60; refine HLI.out.mono ?_; rintro e w1 ⟨hf1, rfl, hr1⟩; have HFB := Bx.mk (Fb.new 56 w1 (f1, f2)); have HA1 := Bx.mk ((Below.refl w1.heap.size w1).alloc (Nat.le_refl _) (.cells #[.string f1, .string f2] 56)); have HO1 := Bx.mk ((HL.out.ow.besides hf1 HL.out.glt).keep HA1.out); have HR1 := Bx.mk (hr1.keep HA1.out); have HFP := Bx.mk ((HL.out.fp.then hf1).then (Fp.of_below HA1.out)); obtain ⟨e1, e2⟩ := HFB.out.cells; simp only at e1 e2; clear hf1 hr1)
              | (at_builtin; refine wpList_pushG (w1.heap.size + 1) (by simp) rfl (.tmp 25) (.tmp 27) rfl HO1.out HFP.out.size (by have := HC64.out; omega) rfl rfl ?_; intro v2 w2 ho2 hb2; have hb3 := (((Below.refl _ _).alloc HFP.out.size (.cells #[.string f1, .string f2] 56)).trans hb2); have HL2 : Bx (Lr w0 w g p c base T b m (out ++ [(f1, f2)]) r v2 w2) := ⟨⟨HR1.out.under hb3 HL.out.glt HL.out.wge, ho2, fp_under HFP.out hb3, HL.out.glt, (by have := HL.out.fuel; have := HLT.out; omega), (by rw [List.length_append]; have := HC64.out; simp; omega), HL.out.wge, HGO.out.trans HRR.out.symm⟩⟩; clear ho2 hb2 hb3))
            go_roundg m
            case measure => omega
            case rel => exact ⟨_, _, HL2⟩
end
end Go.Proofs.Yteopmaaghhendaa
