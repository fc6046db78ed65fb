/-
  Texts put together: QrV, QrW, QrX, QrY.
-/
import Derived.Test.YteopmaaghhendaaM35
import Derived.BigQuiet
import Derived.Test.YteopmaaghhendaaM12
import Derived.Test.YteopmaaghhendaaM01
import Derived.Test.YteopmaaghhendaaM18

/-
  Contract of the program's Decode.
-/
namespace Go.Proofs.Yteopmaaghhendaa
open Go.RowKit Go.Maps
set_option linter.unusedVariables false
set_option linter.unusedSimpArgs false

section
variable {q p : Nat} {X : Qr} {w : World} {S : Nat → Prop}
set_option maxRecDepth 100000 in
set_option maxHeartbeats 4000000 in
theorem ddecode_wait (h : Dq q p X w S) (hbr : X.br = false) (hmx : X.mx ≤ 4096) (htt : X.T.tot ≤ 1000000) (hwl : X.wl.length < 1000000) (hbk : X.bk < 9223372036854775808) (s : Nat) (hs : s < 18446744073709551616) (V : Int) (hV : (s : Int) = V)
    (bV : Value) (sec : List UInt8) (hb : Bs w bV sec) (hl : sec.length ≤ 200000) (c base n : Nat) (hq : qrd sec X.T.tot (mostN (X.mx : Int)) = ((c : Int), (base : Int), (n : Int), 0)) (hc : X.T.tot < c) :
    Calls Try.prog 15 #[.pointer (some ⟨q, 0, none⟩), .int .u64 V, bV] w fun e w' => e = .returned (.tuple #[.slice none 0 0, .int .i64 (X.wait s).2]) ∧ Turn (Dq q p (X.wait s).1) S w w' := by
  have hN : ∀ n, Dq q p X (w.drewN n) S := fun n => (Wd.dq q p X).keep h (below_drewN (Below.refl _ _) n)
  have HB := Bx.mk (fun n => below_drewN (Below.refl w.heap.size w) n)
  obtain ⟨c0, c1, _, _, c7⟩ := h.facts
  rw [hbr] at c7
  obtain ⟨TT, hTT⟩ := letter X.T.tot
  obtain ⟨MX, hMX⟩ := letter X.mx
  obtain ⟨C, hC⟩ := letter c
  have HCT := Bx.mk (fun n => by obtain ⟨_, S1, h1, _⟩ := (hN n).tab; exact count_same h1)
  have HRP := Bx.mk (fun k => qReadPrefix_any bV sec X.T.tot (X.mx : Int) (w.drewN k) (Rd.keep hb (below_drewN (Below.refl _ _) k)) (by omega) (by omega) (by omega))
  rw [hq] at HRP
  unfold Ans4 at HRP
  dsimp only at HRP
  simp only [hTT, hMX, hC] at HRP HCT
  rw [hMX] at c1
  have hd : decide (TT < C) = true := decide_eq_true (by omega)
  have HWT := Bx.mk (fun k => dwait_any (hN k) s hs hwl hbk V hV)
  obtain ⟨R, hR⟩ : ∃ R, X.wait s = R := ⟨_, rfl⟩
  rw [hR] at HWT
  rw [hR]
  clear h hN hb hmx htt hwl hbk hs hV hl hq hc hTT hMX hC hR hbr
  go_enter Try.func15, Try.ntmps15
  go_wp2_with fail
  go_quiet ((first
    | (go_at_call 12; exact Calls.quiet_of_same (HCT.out _))
    | (go_at_call 32; exact Calls.quiet_of_same ((HRP.out _).mono fun e w' h => ⟨h.1, h.2.symm⟩))))
  go_wp2_with (first
    | (go_at_call 12; refine (HCT.out _).mono ?_; rintro e w1 ⟨rfl, rfl⟩)
    | (go_at_call 33; refine (HWT.out _).mono ?_; rintro e w2 ⟨rfl, ht2⟩; have HT2 := Bx.mk ht2; clear ht2))
  go_ret2
  exact ⟨rfl, Turn.before (HB.out _) HT2.out⟩
/-- A row of fields of its own, by its block. -/
def Owf (v : Value) (l : List Fd) : Wx := fun w S => OwF w 0 v l ∧ ∀ k, S k ↔ v.ownBlock = some k
theorem OwF.kept {w w' : World} {B : Nat} {v : Value} {l : List Fd} (h : OwF w B v l) (hb : ∀ k, v.ownBlock = some k → w'.heap[k]? = w.heap[k]?) : OwF w' B v l := by
  refine ⟨h.1, ?_⟩
  rcases h.2 with h0 | ⟨k, cap, cur, rfl, hk, hh, rest⟩
  · exact .inl h0
  · exact .inr ⟨k, cap, cur, rfl, hk, by rw [hb k rfl]; exact hh, rest⟩
theorem OwF.low {w : World} {B : Nat} {v : Value} {l : List Fd} (h : OwF w B v l) : OwF w 0 v l := by
  refine ⟨h.1, ?_⟩
  rcases h.2 with h0 | ⟨k, cap, cur, e, hk, rest⟩
  · exact .inl h0
  · exact .inr ⟨k, cap, cur, e, Nat.zero_le _, rest⟩
theorem Wd.owf (v : Value) (l : List Fd) : Wd (Owf v l) := by
  constructor
  · rintro w S ⟨h1, h2⟩ k hk
    exact (h1.lt k ((h2 k).1 hk)).2
  · rintro w w' S ⟨h1, h2⟩ hs hb
    exact ⟨h1.kept fun k hk => hb k ((h2 k).2 hk), h2⟩
/-- The streams that wait: one goes. -/
theorem Dq.forget (h : Dq q p X w S) (s : Nat) (hs : s < 18446744073709551616) (V : Int) (hV : (s : Int) = V) : ∃ bm, w.cell? ⟨q, 3, none⟩ = some (.map (some bm)) ∧ ∃ wD, (∀ ty, (Builtin.delete_ #[58, 27] ty #[.map (some bm), .int .u64 V]).run Try.prog w = .ok (.tuple #[]) wD) ∧ Turn (Dq q p { X with wl := X.wl.erase s }) S w wD := by
  obtain ⟨bm, vR, vS, h⟩ := h
  obtain ⟨_, _, _, c3, _⟩ := h.cells
  obtain ⟨S1, hm, _, hclose⟩ := h.opM
  obtain ⟨wD, hrun, hD⟩ := hm.drop hs 0
  exact ⟨bm, c3, wD, fun ty => by rw [← hV]; exact hrun, Dq.shut (hclose wD _ hD) rfl rfl rfl rfl rfl rfl rfl rfl⟩
set_option maxRecDepth 100000 in
set_option maxHeartbeats 4000000 in
theorem ddecode_ok (h : Dq q p X w S) (hbr : X.br = false) (hmx : X.mx ≤ 4096) (htt : X.T.tot ≤ 1000000) (htd : X.told ≤ 1000000) (hsl : X.says.length ≤ 1000000) (s : Nat) (hs : s < 18446744073709551616) (V : Int) (hV : (s : Int) = V)
    (bV : Value) (sec : List UInt8) (hb : ∀ W, Fp S w W → Bs W bV sec) (hl : sec.length ≤ 200000) (c base n : Nat) (hq : qrd sec X.T.tot (mostN (X.mx : Int)) = ((c : Int), (base : Int), (n : Int), 0)) (hc : c ≤ X.T.tot) (hba : base < 18446744073709551616) (hn : n ≤ sec.length)
    (l : List Fd) (hli : linesR X.T c base (sec.drop n).length [] (sec.drop n) = some l) :
    Calls Try.prog 15 #[.pointer (some ⟨q, 0, none⟩), .int .u64 V, bV] w fun e w' => ∃ v, e = .returned (.tuple #[v, .int .i64 0]) ∧ Turn (Both (Dq q p (X.ack s c)) (Owf v l)) S w w' := by
  have hN : ∀ n, Dq q p X (w.drewN n) S := fun n => (Wd.dq q p X).keep h (below_drewN (Below.refl _ _) n)
  have HB := Bx.mk (fun n => below_drewN (Below.refl w.heap.size w) n)
  have HLT := Bx.mk ((Wd.dq q p X).lt h)
  obtain ⟨c0, c1, _, _, c7⟩ := h.facts
  rw [hbr] at c7
  have hbw : Bs w bV sec := hb w (Fp.of_below (Below.refl _ _))
  obtain ⟨TT, hTT⟩ := letter X.T.tot
  obtain ⟨MX, hMX⟩ := letter X.mx
  obtain ⟨C, hC⟩ := letter c
  obtain ⟨BA, hBA⟩ := letter base
  obtain ⟨NN, hNN⟩ := letter n
  have HCT := Bx.mk (fun n => by obtain ⟨_, S1, h1, _⟩ := (hN n).tab; exact count_same h1)
  have HRP := Bx.mk (fun k => qReadPrefix_any bV sec X.T.tot (X.mx : Int) (w.drewN k) (Rd.keep hbw (below_drewN (Below.refl _ _) k)) (by omega) (by omega) (by omega))
  rw [hq] at HRP
  unfold Ans4 at HRP
  dsimp only at HRP
  simp only [hTT, hMX, hC, hBA, hNN] at HRP HCT
  rw [hMX] at c1
  have hd : decide (TT < C) = false := decide_eq_false (by omega)
  have HFG := Bx.mk (fun k => (hN k).forget s hs V hV)
  have HBW := Bx.mk hb
  obtain ⟨vm, hfrom, hvm⟩ := hbw.from_ (n : Int) (by omega) (by omega)
  rw [show (n : Int).toNat = n by omega] at hvm
  obtain ⟨A4, n4, k4, hv4⟩ : ∃ A4 n4 k4, vm = .slice A4 n4 k4 := by obtain ⟨A, n, c, e, _⟩ := (hvm w hbw).open_; exact ⟨A, n, c, e⟩
  subst hv4
  have HVM := Bx.mk hvm
  rw [hNN] at hfrom
  have HBD := Bx.mk (show (sec.drop n).length ≤ 200000 ∧ c < 18446744073709551616 ∧ base < 18446744073709551616 ∧ (c : Int) = C ∧ (base : Int) = BA from ⟨by rw [List.length_drop]; omega, by omega, hba, hC, hBA⟩)
  have HLI := Bx.mk hli
  have HAK := Bx.mk (fun W S' (hh : Dq q p { X with wl := X.wl.erase s } W S') => dack_any hh s c hs (by omega) (by show X.told < 18446744073709551616; omega) hsl V C hV hC)
  clear h hN hb hbw hmx htt hs hV hl hq hc hTT hMX hC hBA hNN hbr hvm hli hn hba htd hsl
  go_enter Try.func15, Try.ntmps15
  go_wp2_with fail
  go_quiet ((first
    | (go_at_call 12; exact Calls.quiet_of_same (HCT.out _))
    | (go_at_call 32; exact Calls.quiet_of_same ((HRP.out _).mono fun e w' h => ⟨h.1, h.2.symm⟩))))
  obtain ⟨bm, c3, wD, hdel, htD⟩ := HFG.out nq
  have HTD := Bx.mk htD
  clear htD
  go_wp2_with (first
    | (go_at_call 12; refine (HCT.out _).mono ?_; rintro e w1 ⟨rfl, rfl⟩)
    | (at_builtin; refine wpList_delete_run rfl (.tmp 50) (.tmp 51) 58 27 rfl _ _ rfl rfl (hdel _) ?_))
  obtain ⟨S1, k1, s1, f1⟩ := HTD.out
  have HK1 := Bx.mk (And.intro k1 (And.intro s1 f1))
  have HL1 := Bx.mk ((Wd.dq q p _).lt k1)
  have HRW : Bx (Rw wD wD.heap.size p c base (sec.drop n) (wD.alloc (.cells #[.slice A4 n4 k4, .pointer (some ⟨p, 0, none⟩), .int .u64 C, .int .u64 BA] 75)).drew) := ⟨by
    refine ⟨((Below.refl wD.heap.size wD).alloc (Nat.le_refl _) _).drew, Nat.le_refl _, HBD.out.1, A4, n4, k4, ?_, fun W hW => HVM.out W (HBW.out W ?_)⟩
    · have hr := World.rowIs_alloc wD #[.slice A4 n4 k4, .pointer (some ⟨p, 0, none⟩), .int .u64 C, .int .u64 BA] 75 (rdF (.slice A4 n4 k4) p c base) (fun i hi => by
        have hi : i < 4 := hi
        unfold rdF
        rw [HBD.out.2.2.2.1, HBD.out.2.2.2.2]
        match i, hi with
        | 0, _ => rfl
        | 1, _ => rfl
        | 2, _ => rfl
        | 3, _ => rfl)
      exact hr.of_block rfl
    · exact ((Fp.of_below (HB.out nq)).then HK1.out.2.2).trans (Fp.of_below (S := fun _ => False) hW) (fun i hi => hi.elim)⟩
  obtain ⟨d0, St, ht1, hst, _⟩ := k1.tab
  have HFL := Bx.mk (rfields_any HRW.out ht1 HBD.out.2.1 HBD.out.2.2.1)
  rw [HLI.out] at HFL
  have d0d : wD.drew.cell? ⟨q, 0, none⟩ = some (.pointer (some ⟨p, 0, none⟩)) := d0
  have d0z : (wD.alloc (.cells #[.slice none 0 0, .pointer none, .int .u64 0, .int .u64 0] 75)).drew.cell? ⟨q, 0, none⟩ = some (.pointer (some ⟨p, 0, none⟩)) := ((Wd.dq q p _).keep k1 ((Below.refl wD.heap.size wD).alloc (Nat.le_refl _) (.cells #[.slice none 0 0, .pointer none, .int .u64 0, .int .u64 0] 75)).drew).facts.1
  have d0y : (wD.alloc (.cells #[.slice none 0 0, .pointer none, .int .u64 0, .int .u64 0] 75)).cell? ⟨q, 0, none⟩ = some (.pointer (some ⟨p, 0, none⟩)) := d0z
  clear k1 s1 f1 ht1 hst c0 c1 c7 c3
  go_region
  go_wp2_with (first
    | (go_at_call 34; refine HFL.out.mono ?_; rintro e w5 ⟨hb5, v, rfl, ho5, hl5⟩; have HO5 := Bx.mk ho5; have HB5 := Bx.mk hb5; obtain ⟨vA, vn, vc, rfl⟩ := ho5.shape; have HAK5 := Bx.mk (HAK.out w5 S1 ((Wd.dq q p _).keep HK1.out.1 hb5)); clear ho5 hb5)
    | (go_at_call 35; refine HAK5.out.mono ?_; rintro e w6 ⟨rfl, ht6⟩; have HT6 := Bx.mk ht6; clear ht6))
  go_ret2
  refine ⟨_, rfl, Turn.before (HB.out nq) (Turn.step HK1.out.2.1 HK1.out.2.2 ?_)⟩
  obtain ⟨S6, k6, s6, f6⟩ := HT6.out
  have hsz : (wD.alloc (.cells #[.slice A4 n4 k4, .pointer (some ⟨p, 0, none⟩), .int .u64 C, .int .u64 BA] 75)).drew.heap.size = wD.heap.size + 1 := by
    show (wD.alloc _).heap.size = _
    simp
  have hgt : ∀ k, (Value.slice vA vn vc).ownBlock = some k → k < w5.heap.size ∧ ¬ S1 k ∧ wD.heap.size ≤ k := fun k hk => by
    have hge : (wD.alloc (.cells #[.slice A4 n4 k4, .pointer (some ⟨p, 0, none⟩), .int .u64 C, .int .u64 BA] 75)).drew.heap.size ≤ k ∧ k < w5.heap.size := HO5.out.lt k hk
    exact ⟨hge.2, fun hs => by have := HL1.out k hs; omega, by omega⟩
  exact ⟨fun k => S6 k ∨ (Value.slice vA vn vc).ownBlock = some k, ⟨S6, _, k6, ⟨(HO5.out.kept fun k hk => f6.block k (hgt k hk).1 (hgt k hk).2.1).low, fun k => Iff.rfl⟩, fun k a b => (s6 k a).elim (hgt k b).2.1 fun h => by have := (hgt k b).1; omega, fun k => Iff.rfl⟩, fun k hk => hk.elim (fun h => (s6 k h).imp id fun h => Nat.le_trans HB5.out.size h) fun h => .inr (hgt k h).2.2, (Fp.of_below HB5.out).then f6⟩
end
end Go.Proofs.Yteopmaaghhendaa

/-
  The program's QPACK decoder, as the laws use it: each call, beside what else stands.
-/
namespace Go.Proofs.Yteopmaaghhendaa
open Go.RowKit Go.Maps
set_option linter.unusedVariables false
set_option linter.unusedSimpArgs false

/-- Nothing. -/
def Nw : Wx := fun _ S => ∀ k, ¬ S k
theorem Wd.nw : Wd Nw := ⟨fun h k hk => (h k hk).elim, fun h _ _ => h⟩
theorem Up.nw {B : Nat} {X : Wx} {w : World} (h : Up B X w) : Up B (Both X Nw) w := by
  obtain ⟨S, h1, h2⟩ := h
  exact ⟨S, ⟨S, fun _ => False, h1, fun k hk => hk, fun k _ hk => hk, fun k => by simp⟩, h2⟩
theorem Up.assoc2 {B : Nat} {X Y Z : Wx} {w : World} (h : Up B (Both (Both X Y) Z) w) : Up B (Both X (Both Y Z)) w := by
  obtain ⟨S, ⟨S1, S2, ⟨S3, S4, k1, k2, k3, k4⟩, h2, h3, h4⟩, h5⟩ := h
  refine ⟨S, ⟨S3, fun k => S4 k ∨ S2 k, k1, ⟨S4, S2, k2, h2, fun k a b => h3 k ((k4 k).2 (.inr a)) b, fun k => Iff.rfl⟩, fun k a b => b.elim (k3 k a) (h3 k ((k4 k).2 (.inl a))), fun k => ?_⟩, h5⟩
  rw [h4 k, k4 k, or_assoc]
theorem Bs.blkR {w w' : World} {v : Value} {l : List UInt8} (h : Bs w v l) (hb : ∀ g, v.ownBlock = some g → w'.heap[g]? = w.heap[g]?) : Bs w' v l := by
  obtain ⟨A, c, rfl, h1, h2, h3⟩ := h
  refine ⟨A, c, rfl, h1, h2, h3.imp id ?_⟩
  rintro ⟨x, rfl, hc⟩
  refine ⟨x, rfl, fun j u hu => ?_⟩
  have hj := hc j u hu
  have hbk : (Addr.add x j).block = x.block := by unfold Addr.add; split <;> rfl
  have := hb x.block rfl
  unfold World.cell? at hj ⊢
  rw [hbk] at hj ⊢
  rw [this]
  exact hj
/-- A row of bytes, written out. -/
theorem ob_lits (w : World) (c : Array Value) (l : List UInt8) (n : Nat) (hc : c.toList = l.map bv) (hn : c.size = n) (hm : n ≤ 1000) : Up w.heap.size (Ob fun W => Bs W (.slice (some ⟨w.heap.size, 0, none⟩) n n) l) (w.alloc (.cells c 5)) := by
  refine ⟨fun k => k = w.heap.size, ⟨fun k hk => by subst hk; simp, fun W hs hk => ?_⟩, fun k hk => Nat.le_of_eq hk.symm⟩
  have h0 : Bs (w.alloc (.cells c 5)) (.slice (some ⟨w.heap.size, 0, none⟩) n n) l := by
    have h := Rd.lit w 5 c n hn (by unfold maxLen; omega)
    rw [hc] at h
    exact h
  exact h0.blkR fun g hg => hk g (by simp only [Value.ownBlock, Option.some.injEq] at hg; exact hg.symm)
section
variable {q p B : Nat} {X : Qr} {Y : Wx} {w : World}
theorem uq_start {n b : Int} {e : Ending} {w' : World} (h : ∃ q p S, e = .returned (.pointer (some ⟨q, 0, none⟩)) ∧ Dq q p (Qr.new (clampN n) b.toNat) w' S ∧ (∀ k, S k → w.heap.size ≤ k) ∧ Below w.heap.size w w') :
    ∃ q p, e = .returned (.pointer (some ⟨q, 0, none⟩)) ∧ Up w.heap.size (Both (Dq q p (Qr.new (clampN n) b.toNat)) Nw) w' ∧ Below w.heap.size w w' := by
  obtain ⟨q, p, S, he, h1, h2, h3⟩ := h
  exact ⟨q, p, he, Up.nw ⟨S, h1, h2⟩, h3⟩
/-- A literal row beside. -/
theorem uq_lit (hY : Wd Y) (h : Up B (Both (Dq q p X) Y) w) (hB : B ≤ w.heap.size) (c : Array Value) (l : List UInt8) (n : Nat) (hc : c.toList = l.map bv) (hn : c.size = n) (hm : n ≤ 1000) :
    Up B (Both (Dq q p X) (Both Y (Ob fun W => Bs W (.slice (some ⟨w.heap.size, 0, none⟩) n n) l))) (w.alloc (.cells c 5)) :=
  (Up.add ((Wd.dq q p X).both hY) h hB ((Below.refl _ _).alloc (Nat.le_refl _) _) (ob_lits w c l n hc hn hm)).assoc2
theorem uq_drop {Z : Wx} (h : Up B (Both (Dq q p X) (Both Y Z)) w) : Up B (Both (Dq q p X) Y) w := h.assoc.fst
theorem ob_second (v : Value) (l : List UInt8) : ∀ W S2, Both Y (Ob fun W => Bs W v l) W S2 → Bs W v l := fun W S2 h => by
  obtain ⟨S, h, _⟩ := h.snd
  exact h.get
theorem uq_feed (hY : Wd Y) (h : Up B (Both (Dq q p X) Y) w) (hB : B ≤ w.heap.size) (hmx : X.mx ≤ 4096) (hgd : X.T.gd) (hnx : ∀ x, X.nm = some x → x.size ≤ 20000) (ht : X.T.tot ≤ 400000) {bV : Value} {b : List UInt8} (hb : ∀ W S2, Y W S2 → Bs W bV b) (hl : b.length ≤ 90000) (hr : X.rest.length ≤ 90000) :
    Calls Try.prog 10 #[.pointer (some ⟨q, 0, none⟩), bV] w fun e w' => e = .returned (.int .i64 (X.feed b).2) ∧ Up B (Both (Dq q p (X.feed b).1) Y) w' ∧ Below B w w' := by
  obtain ⟨S, ⟨S1, S2, h1, h2, h3, h4⟩, h5⟩ := h
  refine (dfeed_any h1 hmx hgd hnx ht (hb w S2 h2) hl hr).mono ?_
  rintro e w' ⟨rfl, ht⟩
  obtain ⟨hu, hb⟩ := Up.turn h5 hB (Both.left hY h2 h3 h4 ht)
  exact ⟨rfl, hu, hb⟩
theorem uq_wait (hY : Wd Y) (h : Up B (Both (Dq q p X) Y) w) (hB : B ≤ w.heap.size) (hbr : X.br = false) (hmx : X.mx ≤ 4096) (htt : X.T.tot ≤ 1000000) (hwl : X.wl.length < 1000000) (hbk : X.bk < 9223372036854775808) (s : Nat) (hs : s < 18446744073709551616) (V : Int) (hV : (s : Int) = V)
    (bV : Value) (sec : List UInt8) (hb : ∀ W S2, Y W S2 → Bs W bV sec) (hl : sec.length ≤ 200000) (c base n : Nat) (hq : qrd sec X.T.tot (mostN (X.mx : Int)) = ((c : Int), (base : Int), (n : Int), 0)) (hc : X.T.tot < c) :
    Calls Try.prog 15 #[.pointer (some ⟨q, 0, none⟩), .int .u64 V, bV] w fun e w' => e = .returned (.tuple #[.slice none 0 0, .int .i64 (X.wait s).2]) ∧ Up B (Both (Dq q p (X.wait s).1) Y) w' ∧ Below B w w' := by
  obtain ⟨S, ⟨S1, S2, h1, h2, h3, h4⟩, h5⟩ := h
  refine (ddecode_wait h1 hbr hmx htt hwl hbk s hs V hV bV sec (hb w S2 h2) hl c base n hq hc).mono ?_
  rintro e w' ⟨rfl, ht⟩
  obtain ⟨hu, hb⟩ := Up.turn h5 hB (Both.left hY h2 h3 h4 ht)
  exact ⟨rfl, hu, hb⟩
theorem uq_decode (hY : Wd Y) (h : Up B (Both (Dq q p X) Y) w) (hB : B ≤ w.heap.size) (hbr : X.br = false) (hmx : X.mx ≤ 4096) (htt : X.T.tot ≤ 1000000) (htd : X.told ≤ 1000000) (hsl : X.says.length ≤ 1000000) (s : Nat) (hs : s < 18446744073709551616) (V : Int) (hV : (s : Int) = V)
    (bV : Value) (sec : List UInt8) (hb : ∀ W S2, Y W S2 → Bs W bV sec) (hl : sec.length ≤ 200000) (c base n : Nat) (hq : qrd sec X.T.tot (mostN (X.mx : Int)) = ((c : Int), (base : Int), (n : Int), 0)) (hc : c ≤ X.T.tot) (hba : base < 18446744073709551616) (hn : n ≤ sec.length)
    (l : List Fd) (hli : linesR X.T c base (sec.drop n).length [] (sec.drop n) = some l) :
    Calls Try.prog 15 #[.pointer (some ⟨q, 0, none⟩), .int .u64 V, bV] w fun e w' => ∃ v, e = .returned (.tuple #[v, .int .i64 0]) ∧ Up B (Both (Dq q p (X.ack s c)) (Both (Owf v l) Y)) w' ∧ Below B w w' := by
  obtain ⟨S, ⟨S1, S2, h1, h2, h3, h4⟩, h5⟩ := h
  refine (ddecode_ok h1 hbr hmx htt htd hsl s hs V hV bV sec (fun W hW => hb W S2 (hY.besides h2 hW fun k a b => h3 k b a)) hl c base n hq hc hba hn l hli).mono ?_
  rintro e w' ⟨v, rfl, ht⟩
  obtain ⟨hu, hb⟩ := Up.turn h5 hB (Both.left hY h2 h3 h4 ht)
  exact ⟨v, rfl, hu.assoc2, hb⟩
theorem uq_send (hY : Wd Y) (h : Up B (Both (Dq q p X) Y) w) (hB : B ≤ w.heap.size) (hl : X.says.length ≤ 1000000) (htd : X.told ≤ X.T.tot) (htt : X.T.tot ≤ 1000000) :
    Calls Try.prog 14 #[.pointer (some ⟨q, 0, none⟩)] w fun e w' => ∃ v, e = .returned v ∧ Up B (Both (Dq q p X.sent) (Both (Owb v X.send) Y)) w' ∧ Below B w w' := by
  obtain ⟨S, ⟨S1, S2, h1, h2, h3, h4⟩, h5⟩ := h
  refine (dsend_any h1 hl htd htt).mono ?_
  rintro e w' ⟨v, rfl, ht⟩
  obtain ⟨hu, hb⟩ := Up.turn h5 hB (Both.left hY h2 h3 h4 ht)
  exact ⟨v, rfl, hu.assoc2, hb⟩
theorem uq_waiting (h : Up B (Both (Dq q p X) Y) w) : Calls Try.prog 16 #[.pointer (some ⟨q, 0, none⟩)] w fun e w' => e = .returned (.int .i64 (X.wl.length : Int)) ∧ w' = w := by
  obtain ⟨S, ⟨S1, S2, h1, h2, h3, h4⟩, h5⟩ := h
  exact dwaiting_any h1
theorem uq_table (h : Up B (Both (Dq q p X) Y) w) : Calls Try.prog 11 #[.pointer (some ⟨q, 0, none⟩)] w fun e w' => e = .returned (.pointer (some ⟨p, 0, none⟩)) ∧ w' = w := by
  obtain ⟨S, ⟨S1, S2, h1, h2, h3, h4⟩, h5⟩ := h
  exact dtable_any h1
theorem uq_count (h : Up B (Both (Dq q p X) Y) w) : Calls Try.prog 12 #[.pointer (some ⟨p, 0, none⟩)] w fun e w' => e = .returned (.int .u64 (X.T.tot : Int)) ∧ w' = w := by
  obtain ⟨S, ⟨S1, S2, h1, h2, h3, h4⟩, h5⟩ := h
  obtain ⟨_, S3, k1, _⟩ := h1.tab
  exact count_same k1
theorem uq_keep (hY : Wd Y) (h : Up B (Both (Dq q p X) Y) w) {w' : World} (hb : Below w.heap.size w w') : Up B (Both (Dq q p X) Y) w' := h.keep ((Wd.dq q p X).both hY) hb
end

/-! ### the chapter's example -/
def kXY : Fd := (⟨#[120]⟩, ⟨#[121]⟩)
def kGET : Fd := (⟨#[58, 109, 101, 116, 104, 111, 100]⟩, ⟨#[71, 69, 84]⟩)
def kQ0 : Qr := Qr.new 400 1
def kQ1 : Qr := ⟨⟨[], 0, 0⟩, 400, 1, [4], none, [], false, [], 0⟩
def kQ2 : Qr := ⟨⟨[kXY], 400, 1⟩, 400, 1, [4], none, [], false, [], 0⟩
def kQ3 : Qr := ⟨⟨[kXY], 400, 1⟩, 400, 1, [], none, [], false, [132], 1⟩
theorem k_get : qrd [0, 0, 209] 0 (mostN 400) = (0, 0, 2, 0) ∧ linesR ⟨[], 0, 0⟩ 0 0 1 [] [209] = some [kGET] := ⟨by kernel_rfl, by kernel_rfl⟩
theorem k_wait : qrd [2, 0, 128] 0 (mostN 400) = (1, 1, 2, 0) ∧ kQ0.wait 4 = (kQ1, 27) := ⟨by kernel_rfl, by kernel_rfl⟩
theorem k_feed : kQ1.feed [63, 241, 2, 65, 120, 1, 121] = (kQ2, 0) := by kernel_rfl
theorem k_read : qrd [2, 0, 128] 1 (mostN 400) = (1, 1, 2, 0) ∧ linesR ⟨[kXY], 400, 1⟩ 1 1 1 [] [128] = some [kXY] ∧ kQ2.ack 4 1 = kQ3 ∧ kQ0.ack 0 0 = kQ0 ∧ kQ3.send = [132] := ⟨by kernel_rfl, by kernel_rfl, by kernel_rfl, by kernel_rfl, by kernel_rfl⟩
end Go.Proofs.Yteopmaaghhendaa

/-
  bifoldlaw10.known answers true.
-/
namespace Go.Proofs.Yteopmaaghhendaa
open Go.RowKit Go.Maps
set_option linter.unusedVariables false
set_option linter.unusedSimpArgs false

theorem kQ1_gd : kQ1.T.gd ∧ kQ2.T.tot = 1 := ⟨⟨by decide, by decide⟩, rfl⟩
set_option maxRecDepth 100000 in
set_option maxHeartbeats 4000000 in
theorem known10_any (w : World) : Calls Try.prog 7 #[] w fun e w' => e = .returned (.bool true) ∧ Below w.heap.size w w' := by
  have HNEW := Bx.mk (dnew_any 400 1 (by omega) w)
  go_enter Try.func7, Try.ntmps7
  go_upto_region 4 with (go_at_call 8; refine HNEW.out.mono ?_; rintro e w1 h1; obtain ⟨q, p, rfl, h1, b1⟩ := uq_start h1; have HU1 := Bx.mk h1; have HB1 := Bx.mk b1; clear h1 b1)
  rw [show Qr.new (clampN 400) (Int.toNat 1) = kQ0 from rfl] at HU1
  have HD1 := Bx.mk (uq_decode (B := w.heap.size) (Y := Both Nw (Ob fun W => Bs W (.slice (some ⟨w1.heap.size, 0, none⟩) 3 3) [0, 0, 209])) (Wd.nw.both (Wd.ob _)) (uq_lit Wd.nw HU1.out HB1.out.size #[.int .u8 0, .int .u8 0, .int .u8 209] [0, 0, 209] 3 rfl rfl (by omega)) (by have := HB1.out.size; simp; omega) rfl (by decide) (by decide) (by decide) (by decide) 0 (by omega) 0 rfl _ _ (ob_second _ _) (by decide) 0 0 2 k_get.1 (by decide) (by decide) (by decide) [kGET] k_get.2)
  rw [k_read.2.2.2.1] at HD1
  have HA1 := Bx.mk ((Below.refl w1.heap.size w1).alloc (Nat.le_refl _) (.cells #[.int .u8 0, .int .u8 0, .int .u8 209] 5))
  clear h1 HNEW
  go_upto_region 5 with (go_at_call 15; refine HD1.out.mono ?_; rintro e w2 ⟨v1, rfl, hu2, hb2⟩; have HU2 := Bx.mk hu2; have HB2 := Bx.mk ((HB1.out.trans (HA1.out.mono HB1.out.size)).trans hb2); clear hu2 hb2)
  have hwy : Wd (Both (Owf v1 [kGET]) (Both Nw (Ob fun W => Bs W (.slice (some ⟨w1.heap.size, 0, none⟩) 3 3) [0, 0, 209]))) := (Wd.owf _ _).both (Wd.nw.both (Wd.ob _))
  have HU2' : Bx (Up w.heap.size (Both (Dq q p kQ0) (Owf v1 [kGET])) w2) := ⟨uq_drop HU2.out⟩
  have HD2 := Bx.mk (uq_wait ((Wd.owf v1 [kGET]).both (Wd.ob _)) (uq_lit (Wd.owf _ _) HU2'.out HB2.out.size #[.int .u8 2, .int .u8 0, .int .u8 128] [2, 0, 128] 3 rfl rfl (by omega)) (by have := HB2.out.size; simp; omega) rfl (by decide) (by decide) (by decide) (by decide) 4 (by omega) 4 rfl _ _ (ob_second _ _) (by decide) 1 1 2 k_wait.1 (by decide))
  rw [k_wait.2] at HD2
  have HA2 := Bx.mk ((Below.refl w2.heap.size w2).alloc (Nat.le_refl _) (.cells #[.int .u8 2, .int .u8 0, .int .u8 128] 5))
  clear hwy HU2 HD1 HU1
  go_upto_region 7 with (first
    | (go_at_call 15; refine HD2.out.mono ?_; rintro e w3 ⟨rfl, hu3, hb3⟩; have HU3 := Bx.mk (uq_drop hu3); have HB3 := Bx.mk ((HB2.out.trans (HA2.out.mono HB2.out.size)).trans hb3); clear hu3 hb3)
    | (go_at_call 16; have hW := uq_waiting HU3.out; rw [show ((kQ1.wl.length : Nat) : Int) = 1 from rfl] at hW; refine hW.mono ?_; rintro e w4 ⟨rfl, rfl⟩))
  have HD3 := Bx.mk (uq_feed ((Wd.owf v1 [kGET]).both (Wd.ob _)) (uq_lit (Wd.owf _ _) HU3.out HB3.out.size #[.int .u8 63, .int .u8 241, .int .u8 2, .int .u8 65, .int .u8 120, .int .u8 1, .int .u8 121] [63, 241, 2, 65, 120, 1, 121] 7 rfl rfl (by omega)) (by have := HB3.out.size; simp; omega) (by decide) kQ1_gd.1 (fun x hx => by cases hx) (by decide) (ob_second _ _) (by decide) (by decide))
  rw [k_feed] at HD3
  have HA3 := Bx.mk ((Below.refl w4.heap.size w4).alloc (Nat.le_refl _) (.cells #[.int .u8 63, .int .u8 241, .int .u8 2, .int .u8 65, .int .u8 120, .int .u8 1, .int .u8 121] 5))
  clear HU2' HD2
  go_upto_region 8 with (go_at_call 10; refine HD3.out.mono ?_; rintro e w5 ⟨rfl, hu5, hb5⟩; have HU5 := Bx.mk (uq_drop hu5); have HB5 := Bx.mk ((HB3.out.trans (HA3.out.mono HB3.out.size)).trans hb5); clear hu5 hb5)
  have HD4 := Bx.mk (uq_decode ((Wd.owf v1 [kGET]).both (Wd.ob _)) (uq_lit (Wd.owf _ _) HU5.out HB5.out.size #[.int .u8 2, .int .u8 0, .int .u8 128] [2, 0, 128] 3 rfl rfl (by omega)) (by have := HB5.out.size; simp; omega) rfl (by decide) (by decide) (by decide) (by decide) 4 (by omega) 4 rfl _ _ (ob_second _ _) (by decide) 1 1 2 k_read.1 (by decide) (by decide) (by decide) [kXY] k_read.2.1)
  rw [k_read.2.2.1] at HD4
  have HA5 := Bx.mk ((Below.refl w5.heap.size w5).alloc (Nat.le_refl _) (.cells #[.int .u8 2, .int .u8 0, .int .u8 128] 5))
  clear HU3 HD3
  go_upto_region 9 with (go_at_call 15; refine HD4.out.mono ?_; rintro e w6 ⟨v2, rfl, hu6, hb6⟩; have HU6 := Bx.mk hu6; have HB6 := Bx.mk ((HB5.out.trans (HA5.out.mono HB5.out.size)).trans hb6); clear hu6 hb6)
  obtain ⟨_, ho2, _⟩ := HU6.out.snd.fst
  obtain ⟨_, ho1, _⟩ := HU6.out.snd.snd.fst
  have hlen1 := fun ty W => ho1.1.fs.run_len ty W
  obtain ⟨b1, o1, hix1, hcs1⟩ := ho1.1.fs.at_ 0 (by decide)
  obtain ⟨_, hc1⟩ := hcs1 w6 ho1.1.fs
  have hix1' : ∀ W, (Instr.indexAt 38 v1 (.int .i64 0)).run Try.prog W = .ok (.pointer (some ⟨b1, o1, none⟩)) W := fun W => hix1 .i64 W
  have hc1' : w6.cell? ⟨b1, o1 + 1, none⟩ = some (.string ⟨#[71, 69, 84]⟩) := hc1
  have HF1 := Bx.mk (Fs.one w6 _ rfl kXY)
  have HA6 := Bx.mk ((Below.refl w6.heap.size w6).alloc (Nat.le_refl _) (.cells #[.string kXY.1, .string kXY.2] 56))
  have HFL := Bx.mk (fields_any v2 (.slice (some ⟨w6.heap.size, 0, none⟩) 1 1) [kXY] [kXY] _ (ho2.1.fs.keep HA6.out) HF1.out)
  rw [show decide ([kXY] = [kXY]) = true from by simp] at HFL
  have hlen1' : ∀ ty W, (Builtin.len_ #[38] ty #[v1]).run Try.prog W = .ok (.int .i64 1) W := hlen1
  clear hlen1
  have HU6' : Bx (Up w.heap.size (Both (Dq q p kQ3) Nw) w6) := ⟨Up.nw HU6.out.fst⟩
  clear HD4 HU5 HU6 ho1 ho2 hcs1 hix1 hc1
  go_wp2_with (first
    | (go_at_call 21; refine HFL.out.mono ?_; rintro e w7 ⟨rfl, hb7⟩; have HB7 := Bx.mk (HA6.out.trans (hb7.mono HA6.out.size)); have HSE := Bx.mk (uq_send Wd.nw (uq_keep Wd.nw HU6'.out HB7.out) (Nat.le_trans HB6.out.size HB7.out.size) (by decide) (by decide) (by decide)); clear hb7)
    | (go_at_call 14; refine HSE.out.mono ?_; rintro e w8 ⟨v8, rfl, hu8, hb8⟩; have HU8 := Bx.mk hu8; have HB8 := Bx.mk ((HB6.out.trans (HB7.out.mono HB6.out.size)).trans hb8); obtain ⟨_, ho8, _⟩ := hu8.snd.fst; rw [k_read.2.2.2.2] at ho8; have hconv := conv_str ho8.1.bs; rw [show bstr [132] = ⟨#[132]⟩ from rfl] at hconv; clear hu8 hb8 ho8)
    | (go_at_call 11; refine (uq_table HU8.out).mono ?_; rintro e w9 ⟨rfl, rfl⟩)
    | (go_at_call 12; have hC := uq_count HU8.out; rw [show ((kQ3.sent.T.tot : Nat) : Int) = 1 from rfl] at hC; refine hC.mono ?_; rintro e w9 ⟨rfl, rfl⟩))
  go_ret
  exact ⟨rfl, HB8.out⟩
end Go.Proofs.Yteopmaaghhendaa

/-
  Rows of bytes beside the decoder, as the laws write them; bifoldlaw10.QdecSends as mathematics.
-/
namespace Go.Proofs.Yteopmaaghhendaa
open Go.RowKit Go.Maps
set_option linter.unusedVariables false
set_option linter.unusedSimpArgs false

theorem Fw.turn {v v' : Value} {l l' : List UInt8} {w w' : World} {S : Nat → Prop} (h : Owb v l w S) (hf : Fw w v w' v') (ho : OwB w' 0 v' l') : Turn (Owb v' l') S w w' := by
  obtain ⟨h1, h2⟩ := h
  obtain ⟨hg, hb⟩ := hf
  refine ⟨_, ⟨ho, fun k => Iff.rfl⟩, fun k hk => ?_, Fp.of_grown hg fun k hk => (h2 k).2 hk⟩
  rcases hb with e | ⟨g, e, hge⟩
  · exact .inl ((h2 k).2 (e ▸ hk))
  · rw [e] at hk
    injection hk with hk
    exact .inr (hk ▸ hge)
section
variable {B : Nat} {X : Wx} {w w' : World} {v v' : Value} {l l' : List UInt8}
theorem Up.row (hX : Wd X) (h : Up B (Both X (Owb v l)) w) (hB : B ≤ w.heap.size) (hf : Fw w v w' v') (ho : OwB w' 0 v' l') : Up B (Both X (Owb v' l')) w' ∧ Below B w w' := by
  obtain ⟨S, ⟨S1, S2, h1, h2, h3, h4⟩, h5⟩ := h
  exact Up.turn h5 hB (Both.right hX h1 h3 h4 (Fw.turn h2 hf ho))
theorem Up.owb (h : Up B (Both X (Owb v l)) w) : OwB w 0 v l := by
  obtain ⟨S, h, _⟩ := h.snd
  exact h.1
end

/-! ### QdecSends -/
end Go.Proofs.Yteopmaaghhendaa
