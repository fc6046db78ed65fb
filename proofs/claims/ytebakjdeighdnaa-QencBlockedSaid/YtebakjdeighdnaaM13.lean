/-
  Texts put together: QpX, QpY, QpZ, StH, StI, StA.
-/
import Derived.Test.YtebakjdeighdnaaM12
import Derived.Test.YtebakjdeighdnaaM04
import Derived.Deep.RegionHeld
import Derived.Test.YtebakjdeighdnaaM09
import Derived.Maps.Own
import Derived.Maps.OwnOps
import Derived.Maps.OwnSet
import Derived.Maps.Views
import Derived.DeepKeys4
import Derived.ProofKit
import Derived.BigRegion
import Derived.Deep.RegionWith

/-
  Contract of the draft's use.
-/
namespace Go.Proofs.Ytebakjdeighdnaa
open Go.RowKit Go.Maps
set_option linter.unusedVariables false

theorem blkF_le {U : List Qs} {K s M : Nat} (h : ∀ x ∈ U, x.c ≤ M) : (blkF U K s).getD 0 ≤ M := by
  have hm : mxc U s ≤ M := by
    refine Nat.le_of_not_lt fun hlt => ?_
    unfold mxc at hlt
    obtain ⟨x, hx, hc⟩ := mxGo_lt.1 hlt
    unfold secs at hx
    have := h x (List.mem_filter.1 hx).1
    omega
  unfold blkF
  split
  · show mxc U s - 1 ≤ M; omega
  · exact Nat.zero_le _
theorem cntU_ref (op : List Qs) (s c c' i : Nat) (u : List Nat) : cntU (op ++ [⟨s, c', u ++ [i]⟩]) = if decide (i ∈ uq u) = true then cntU (op ++ [⟨s, c, u⟩]) else bumpU (cntU (op ++ [⟨s, c, u⟩])) i := by
  have l1 : ∀ j, cntU (op ++ [⟨s, c', u ++ [i]⟩]) j = cntU op j + if j ∈ u ++ [i] then 1 else 0 := fun j => cntU_snoc _ _ _
  have l2 : ∀ j, cntU (op ++ [⟨s, c, u⟩]) j = cntU op j + if j ∈ u then 1 else 0 := fun j => cntU_snoc _ _ _
  have hm : ∀ j, j ∈ u ++ [i] ↔ j ∈ u ∨ j = i := fun j => by rw [List.mem_append, List.mem_singleton]
  rw [decide_eq_decide.2 (mem_uq (a := i) (l := u))]
  by_cases hi : i ∈ u
  · rw [if_pos (decide_eq_true hi)]
    funext j
    rw [l1, l2]
    congr 1
    by_cases hj : j ∈ u
    · rw [if_pos hj, if_pos ((hm j).2 (.inl hj))]
    · rw [if_neg hj, if_neg (fun hh => ((hm j).1 hh).elim hj fun e => hj (e ▸ hi))]
  · rw [if_neg (by simpa using hi)]
    funext j
    unfold bumpU
    rw [l1, l2, l2]
    by_cases hj : j = i
    · subst hj
      rw [if_pos ((hm j).2 (.inr rfl)), if_pos rfl, if_neg hi]
    · rw [if_neg hj]
      congr 1
      by_cases hm2 : j ∈ u
      · rw [if_pos hm2, if_pos ((hm j).2 (.inl hm2))]
      · rw [if_neg hm2, if_neg (fun hh => ((hm j).1 hh).elim hm2 hj)]
section
variable {q p N N' s d : Nat} {E : Qe} {S : Nat → Prop} {w wx wy : World} {a a' : Qa} {ins ins' : List UInt8} {pl pl' : List Nat} {ln ln' : List (Ql × Value)} {oV pV lV oV' pV' lV' : Value} {e T : Nat → Prop}
theorem pduse_any {e : Nat → Prop} (h : PqD q p N E s a wx e) (hN : N + 2 ≤ 1000000000) (hs : okU s) {i : Nat} (hi : i ≤ 1000000) (hop : E.op.length ≤ 100000) (hUc : ∀ x ∈ E.op ++ [⟨s, a.c, a.u⟩], x.c ≤ 1000000) (f : Fd) :
    Calls Try.prog 50 #[.pointer (some ⟨q, 0, none⟩), .int .u64 (s : Int), .int .u64 (i : Int), .bool (decide (i ∈ uq a.u))] wx fun r w' => r = .returned (.tuple #[]) ∧ Turn (PqD q p (N + 2) E s (a.ref f i)) e wx w' := by
  obtain ⟨aa, LV, hlv, hraw⟩ := h
  have hcnt := cntU_le (E.op ++ [⟨s, a.c, a.u⟩]) i
  rw [List.length_append, List.length_singleton] at hcnt
  have hb := blkF_le (K := E.K) (s := s) hUc
  refine (puse_any hraw rfl rfl hN (by omega) hs (by unfold okU; omega) (by omega) (by omega) (decide (i ∈ uq a.u))).mono ?_
  rintro r w' ⟨rfl, ht⟩
  refine ⟨rfl, ?_⟩
  have e1 : blkU (blkF (E.op ++ [⟨s, a.c, a.u⟩]) E.K) E.K s i = blkF (E.op ++ [⟨s, max a.c (i + 1), a.u ++ [i]⟩]) E.K := funext fun j => (blkF_use E.op E.K s a.c i j a.u).symm
  have e2 := cntU_ref E.op s a.c (max a.c (i + 1)) i a.u
  obtain ⟨e', x, s', f'⟩ := ht
  refine ⟨e', ⟨aa, LV, ⟨hlv.op, fun t => Nat.le_trans (hlv.bd t) (by omega), hlv.sl⟩, ?_⟩, s', f'⟩
  unfold qcD at x ⊢
  simp only at x
  rw [e1] at x
  show Raw q p ⟨E.said, E.B, E.K, E.err, N + 2, a.T, secF aa LV, queF aa LV, useF (cntU (E.op ++ [⟨s, max a.c (i + 1), a.u ++ [i]⟩])), blkD (blkF (E.op ++ [⟨s, max a.c (i + 1), a.u ++ [i]⟩]) E.K), E.rest⟩ (Zl LV) w' e'
  rw [e2]
  exact x
end
end Go.Proofs.Ytebakjdeighdnaa

/-
  Contract of the draft's use: the walk.
-/
namespace Go.Proofs.Ytebakjdeighdnaa
open Go.RowKit Go.Maps
set_option linter.unusedVariables false

theorem infoU64q : ∃ i z, Try.prog.info? 31 = some i ∧ i.zero = some z ∧ z.cells.size = 1 ∧ i.size = 1 ∧ i.bytes = 8 := by
  have h : (Try.prog.info? 31).map (fun i => (i.zero, i.size, i.bytes)) = some (some (.int .u64 0), 1, 8) := by kernel_rfl
  cases hi : Try.prog.info? 31 with
  | none => rw [hi] at h; simp at h
  | some i =>
    rw [hi] at h
    simp only [Option.map_some, Option.some.injEq, Prod.mk.injEq] at h
    exact ⟨i, _, rfl, h.1, rfl, h.2.1, h.2.2⟩
theorem infoLn : ∃ i z, Try.prog.info? 69 = some i ∧ i.zero = some z ∧ z.cells.size = 3 ∧ i.size = 3 ∧ i.bytes = 40 := by
  have h : (Try.prog.info? 69).map (fun i => (i.zero, i.size, i.bytes)) = some (some (.agg #[.slice none 0 0, .bool false, .int .u64 0]), 3, 40) := by kernel_rfl
  cases hi : Try.prog.info? 69 with
  | none => rw [hi] at h; simp at h
  | some i =>
    rw [hi] at h
    simp only [Option.map_some, Option.some.injEq, Prod.mk.injEq] at h
    exact ⟨i, _, rfl, h.1, rfl, h.2.1, h.2.2⟩
theorem rn_new (w : World) (cs : Array Value) (ty : TypeId) : Rn cs.size (w.alloc (.cells cs ty)) (.slice (some ⟨w.heap.size, 0, none⟩) 1 1) 1 cs.toList := by
  refine ⟨_, 1, rfl, Nat.le_refl _, by unfold maxLen; omega, by simp, .inr ⟨_, rfl, fun j u hu => ?_⟩⟩
  rw [Addr.add_lit, Nat.zero_add]
  have := World.cell?_alloc_mark w cs ty (0, 0) j
  rw [this]
  simpa using hu
theorem lines_one (ln : List (Ql × Value)) (y : Ql × Value) : (ln ++ [y]).flatMap lnc = ln.flatMap lnc ++ lnc y := by simp
section
variable {q p N N' s d : Nat} {E : Qe} {S : Nat → Prop} {w wx wy : World} {a a' : Qa} {ins ins' : List UInt8} {pl pl' : List Nat} {ln ln' : List (Ql × Value)} {oV pV lV oV' pV' lV' : Value} {e T : Nat → Prop}
theorem Dr.at3 (h : Dr q p N s d E S w a ins pl ln oV pV lV e T wx) (hg : wx.grownBy wy pV.ownBlock) : wy.rowIs d 52 5 (drF q s oV pV lV) :=
  h.row.of_block (hg.block d h.dlt fun hh => own_row_ne h.p h.row (by decide) d hh.symm rfl)
theorem Dr.at4 (h : Dr q p N s d E S w a ins pl ln oV pV lV e T wx) (hg : wx.grownBy wy lV.ownBlock) : wy.rowIs d 52 5 (drF q s oV pV lV) :=
  h.row.of_block (hg.block d h.dlt fun hh => own_row_ne h.l h.row (by decide) d hh.symm rfl)
theorem Dr.at2 (h : Dr q p N s d E S w a ins pl ln oV pV lV e T wx) (hg : wx.grownBy wy oV.ownBlock) : wy.rowIs d 52 5 (drF q s oV pV lV) :=
  h.row.of_block (hg.block d h.dlt fun hh => own_row_ne h.o h.row (by decide) d hh.symm rfl)
/-- A line is appended: what the walk wants. -/
theorem Dr.push {w4 : World} (h : Dr q p N s d E S w a ins pl ln oV pV lV e T wx) (hb : Below wx.heap.size wx w4) {y : Ql × Value} {T3 : Nat → Prop} (hz : Ob (Zd [y]) w4 T3) (hT : ∀ k, T3 k → wx.heap.size ≤ k) (hln : ln.length ≤ 1000000) (ty : TypeId) :
    ∃ A c w6, (Builtin.append_ #[50, 50] ty #[lV, .slice (some ⟨w4.heap.size, 0, none⟩) 1 1]).run Try.prog (w4.alloc (.cells (lnc y).toArray 69)) = .ok (.slice A (ln.length + 1) c) w6 ∧
      w6.cell? ⟨d, 4, none⟩ = some lV ∧ w6.frozen? ⟨d, 4, none⟩ = false ∧ w6.cell? ⟨d, 0, none⟩ = some (.pointer (some ⟨q, 0, none⟩)) ∧
      Dr q p N s d E S w a ins pl (ln ++ [y]) oV pV (.slice A (ln.length + 1) c) e (fun k => T k ∨ T3 k) (w6.setCell ⟨d, 4, none⟩ (.slice A (ln.length + 1) c)) := by
  obtain ⟨i, z, i1, i2, i3, i4, i5⟩ := infoLn
  have hb5 := (Below.refl w4.heap.size w4).alloc (Nat.le_refl _) (.cells (lnc y).toArray 69)
  have h5 := (h.keep hb).keep hb5
  have hu := rn_new w4 (lnc y).toArray 69
  have hfp := h5.fp.size
  obtain ⟨A, c, w6, r1, r2, r3, r4, r5⟩ := run_append_full (P := Try.prog) (w4.alloc (.cells (lnc y).toArray 69)) 3 (by omega) w.heap.size 50 ty 69 i z 40 Try.underlying50 i1 i2 i4 i5 i3 lV _ ln.length 1 _ _ h5.l hu
    (by
      intro x hx
      simp only [lnc, List.mem_cons, List.not_mem_nil, or_false] at hx
      rcases hx with rfl | rfl | rfl
      · obtain ⟨⟨A, n, c, e⟩, _⟩ := hz.get y (List.mem_singleton_self _)
        rw [e]; rfl
      · rfl
      · rfl) (by omega) (by unfold maxLen; omega) hfp
  have hrow := h5.at4 r4
  refine ⟨A, c, w6, r1, hrow.cell (i := 4) (by omega), hrow.frozen 4, hrow.cell (i := 0) (by omega), ?_⟩
  refine h.lin (hb.trans (hb5.mono hb.size)) ((Wd.ob _).keep hz hb5) hT r4 r5 ?_
  unfold OwLn
  rw [lines_one, List.length_append, List.length_singleton]
  exact r2
/-- A place is appended. -/
theorem Dr.place (h : Dr q p N s d E S w a ins pl ln oV pV lV e T wx) (i : Nat) (hpl : pl.length ≤ 1000000) (ty : TypeId) :
    ∃ A c w6, (Builtin.append_ #[49, 49] ty #[pV, .slice (some ⟨wx.heap.size, 0, none⟩) 1 1]).run Try.prog (wx.alloc (.cells #[.int .u64 (i : Int)] 31)) = .ok (.slice A (pl.length + 1) c) w6 ∧
      w6.cell? ⟨d, 3, none⟩ = some pV ∧ w6.frozen? ⟨d, 3, none⟩ = false ∧ w6.cell? ⟨d, 0, none⟩ = some (.pointer (some ⟨q, 0, none⟩)) ∧
      Dr q p N s d E S w a ins (pl ++ [i]) ln oV (.slice A (pl.length + 1) c) lV e T (w6.setCell ⟨d, 3, none⟩ (.slice A (pl.length + 1) c)) := by
  obtain ⟨i0, z, i1, i2, i3, i4, i5⟩ := infoU64q
  have hb5 := (Below.refl wx.heap.size wx).alloc (Nat.le_refl _) (.cells #[.int .u64 (i : Int)] 31)
  have h5 := h.keep hb5
  have hu := rn_new wx #[.int .u64 (i : Int)] 31
  have hfp := h5.fp.size
  obtain ⟨A, c, w6, r1, r2, r3, r4, r5⟩ := run_append_full (P := Try.prog) (wx.alloc (.cells #[.int .u64 (i : Int)] 31)) 1 (by omega) w.heap.size 49 ty 31 i0 z 8 Try.underlying49 i1 i2 i4 i5 i3 pV _ pl.length 1 _ _ h5.p hu
    (by intro x hx; rw [List.mem_singleton.1 hx]; rfl) (by omega) (by unfold maxLen; omega) hfp
  have hrow := h5.at3 r4
  refine ⟨A, c, w6, r1, hrow.cell (i := 3) (by omega), hrow.frozen 3, hrow.cell (i := 0) (by omega), ?_⟩
  refine h5.plc r4 r5 ?_
  unfold OwU
  rw [List.length_append, List.length_singleton, List.map_append]
  exact r2
end
end Go.Proofs.Ytebakjdeighdnaa

/-
  Contract of the draft's use: the walk.
-/
namespace Go.Proofs.Ytebakjdeighdnaa
open Go.RowKit Go.Maps
set_option linter.unusedVariables false

section
variable {q p N N' s d : Nat} {E : Qe} {S : Nat → Prop} {w wx wy : World} {a a' : Qa} {ins ins' : List UInt8} {pl pl' : List Nat} {ln ln' : List (Ql × Value)} {oV pV lV oV' pV' lV' : Value} {e T : Nat → Prop}
/-- A line that names a place. -/
theorem zd_dyn (i : Nat) (f : Fd) (w : World) : Ob (Zd [(⟨1, i, f⟩, .slice none 0 0)]) w (fun _ => False) := Ob.none fun W y hy => by
  rw [List.mem_singleton.1 hy]
  exact ⟨⟨_, _, _, rfl⟩, fun _ => rfl, fun h => absurd rfl h⟩
set_option maxRecDepth 100000 in
set_option maxHeartbeats 8000000 in
theorem duse_any (h : Dr q p N s d E S w a ins (uq a.u) ln oV pV lV e T wx) (hN : N + 2 ≤ 1000000000) (hs : okU s) {i : Nat} (hi : i ≤ 1000000) (hop : E.op.length ≤ 100000) (hUc : ∀ x ∈ E.op ++ [⟨s, a.c, a.u⟩], x.c ≤ 1000000) (hpl : (uq a.u).length ≤ 100000) (hln : ln.length ≤ 100000) (f : Fd) :
    Calls Try.prog 30 #[.pointer (some ⟨d, 0, none⟩), .int .u64 (i : Int)] wx fun r w' => r = .returned (.tuple #[]) ∧
      ∃ pV' lV' e' T', Dr q p (N + 2) s d E S w (a.ref f i) ins (uq (a.u ++ [i])) (ln ++ [(⟨1, i, f⟩, .slice none 0 0)]) oV pV' lV' e' T' w' := by
  obtain ⟨c0, c1, c2, c3, c4, _⟩ := h.cells
  have HCON := Bx.mk (ucontains_any h.p.un i)
  have huq := uq_snoc a.u i
  have hsl : ∀ {v : Value} {ty : TypeId} {k n : Nat} {xs : List Value}, wx.ownsRow w.heap.size ty k v n xs → ∃ A c, v = .slice A n c := fun h2 => by
    rcases h2.2 with ⟨rfl, h0⟩ | ⟨g, cap, cur, rfl, _⟩
    · exact ⟨none, 0, by rw [h0]⟩
    · exact ⟨_, _, rfl⟩
  -- behind the places
  have HMID := Bx.mk (fun (pV2 : Value) (w2 : World) (h2 : Dr q p N s d E S w a ins (uq (a.u ++ [i])) ln oV pV2 lV e T w2) => (pduse_any (h2.keep (Below.refl w2.heap.size w2).drew).enc hN hs hi hop hUc f).mono (fun r w4 (hh : r = .returned (.tuple #[]) ∧ Turn (PqD q p (N + 2) E s (a.ref f i)) e w2.drew w4) => And.intro hh.1 ((h2.keep (Below.refl w2.heap.size w2).drew).encT hh.2)))
  have HLIN := Bx.mk (fun (pV2 : Value) (e2 : Nat → Prop) (w4 : World) (h4 : Dr q p (N + 2) s d E S w (a.ref f i) ins (uq (a.u ++ [i])) ln oV pV2 lV e2 T w4) (ty : TypeId) => h4.push (Below.refl _ _) (zd_dyn i f w4) (fun k hk => hk.elim) (by omega) ty)
  simp only [lnc] at HLIN
  obtain ⟨again, hag⟩ : ∃ again, decide (i ∈ uq a.u) = again := ⟨_, rfl⟩
  rw [hag] at HCON HMID
  have HOWN := Bx.mk h
  obtain ⟨lA, lc, hlv⟩ := hsl h.l
  obtain ⟨pA, pc, hpv⟩ := hsl h.p
  subst hlv
  subst hpv
  obtain ⟨II, hII⟩ := letter i
  obtain ⟨SS, hSS⟩ := letter s
  cases again with
  | true =>
    have hm : i ∈ uq a.u := of_decide_eq_true hag
    rw [if_pos hm] at huq
    have H2 := Bx.mk (HMID.out _ wx (by rw [huq]; exact h))
    have hS0 : wx.drew.cell? ⟨d, 0, none⟩ = some (.pointer (some ⟨q, 0, none⟩)) ∧ wx.drew.cell? ⟨d, 1, none⟩ = some (.int .u64 SS) := ⟨c0, by rw [← hSS]; exact c1⟩
    rw [hSS] at c1
    have HLIN2 := Bx.mk (fun (e2 : Nat → Prop) (w4 : World) (h4 : Dr q p (N + 2) s d E S w (a.ref f i) ins (uq (a.u ++ [i])) ln oV (.slice pA (uq a.u).length pc) (.slice lA ln.length lc) e2 T w4) (ty : TypeId) => HLIN.out _ e2 w4 h4 ty)
    simp only [if_true, hII, decide_true] at HLIN2
    rw [hII, hSS] at H2
    rw [hII] at HCON
    rw [hII]
    clear HMID HLIN h hs hi hop hUc hN hag hm hsl huq c2
    go_enter Try.func30, Try.ntmps30
    go_wp2_with (go_at_call 49; refine HCON.out.mono ?_; rintro r w1 ⟨rfl, rfl⟩)
    go_region_held (fun W => W.cell? ⟨d, 0, none⟩ = some (.pointer (some ⟨q, 0, none⟩)) ∧ W.cell? ⟨d, 1, none⟩ = some (.int .u64 SS)) (first | assumption) (first
      | (go_at_call 50; refine H2.out.mono ?_; rintro r w4 ⟨rfl, e2, hd4⟩; have hS4 : w4.cell? ⟨d, 0, none⟩ = some (.pointer (some ⟨q, 0, none⟩)) ∧ w4.cell? ⟨d, 1, none⟩ = some (.int .u64 SS) := ⟨hd4.cells.1, by rw [← hSS]; exact hd4.cells.2.1⟩))
    all_goals obtain ⟨_, _, _, _, m4, _⟩ := hd4.cells
    all_goals obtain ⟨m0, _⟩ := hS4
    all_goals obtain ⟨lA2, lc2, w6, r6, k4, kf, k0, hd6⟩ := HLIN2.out e2 w4 hd4 50
    all_goals have HD6 := Bx.mk hd6
    all_goals clear hd4 hd6 hS0 c0 c1 c3 c4
    all_goals go_wp2_with (at_builtin; refine wpList_append_run rfl _ _ 50 rfl _ _ rfl rfl r6 ?_)
    all_goals go_end0
    all_goals exact ⟨rfl, _, _, _, _, HD6.out⟩
  | false =>
    have hm : ¬ i ∈ uq a.u := of_decide_eq_false hag
    rw [if_neg hm] at huq
    obtain ⟨pA2, pc2, w6, r6, k3, kf, k0, hd6⟩ := h.place i (by omega) 49
    rw [← huq] at hd6
    have HD6 := Bx.mk hd6
    obtain ⟨w7, hw7⟩ : ∃ w7, w6.setCell ⟨d, 3, none⟩ (.slice pA2 ((uq a.u).length + 1) pc2) = w7 := ⟨_, rfl⟩
    rw [hw7] at HD6
    have H2 := Bx.mk (HMID.out _ w7 HD6.out)
    obtain ⟨m0, m1, _, _, m4, _⟩ := HD6.out.cells
    have hS0 : w7.drew.cell? ⟨d, 0, none⟩ = some (.pointer (some ⟨q, 0, none⟩)) ∧ w7.drew.cell? ⟨d, 1, none⟩ = some (.int .u64 SS) := ⟨m0, by rw [← hSS]; exact m1⟩
    have HLIN2 := Bx.mk (fun (e2 : Nat → Prop) (w4 : World) (h4 : Dr q p (N + 2) s d E S w (a.ref f i) ins (uq (a.u ++ [i])) ln oV (.slice pA2 ((uq a.u).length + 1) pc2) (.slice lA ln.length lc) e2 T w4) (ty : TypeId) => HLIN.out _ e2 w4 h4 ty)
    simp only [if_true, hII, decide_true] at HLIN2
    rw [hII, hSS] at H2
    rw [hII] at HCON r6
    rw [hII]
    clear HMID HLIN h hs hi hop hUc hN hag hm hsl huq c2 hd6 m1 c0 c1 c4 m0 m4
    have c0 := HOWN.out.cells.1
    go_enter Try.func30, Try.ntmps30
    go_wp2_with (first
      | (go_at_call 49; refine HCON.out.mono ?_; rintro r w1 ⟨rfl, rfl⟩)
      | (at_builtin; refine wpList_append_run rfl _ _ 49 rfl _ _ rfl rfl r6 ?_))
    go_region_held (fun W => W.cell? ⟨d, 0, none⟩ = some (.pointer (some ⟨q, 0, none⟩)) ∧ W.cell? ⟨d, 1, none⟩ = some (.int .u64 SS)) (first | assumption) (first
      | (go_at_call 50; refine H2.out.mono ?_; rintro r w4 ⟨rfl, e2, hd4⟩; have hS4 : w4.cell? ⟨d, 0, none⟩ = some (.pointer (some ⟨q, 0, none⟩)) ∧ w4.cell? ⟨d, 1, none⟩ = some (.int .u64 SS) := ⟨hd4.cells.1, by rw [← hSS]; exact hd4.cells.2.1⟩))
    all_goals obtain ⟨_, _, _, _, m4, _⟩ := hd4.cells
    all_goals obtain ⟨m0, _⟩ := hS4
    all_goals obtain ⟨lA2, lc2, w6', r6', k4, kf', k0', hd6'⟩ := HLIN2.out e2 w4 hd4 50
    all_goals have HD6' := Bx.mk hd6'
    all_goals clear hd4 hd6' hS0 c0 c3 r6 k3 kf k0
    all_goals go_wp2_with (at_builtin; refine wpList_append_run rfl _ _ 50 rfl _ _ rfl rfl r6' ?_)
    all_goals go_end0
    all_goals exact ⟨rfl, _, _, _, _, HD6'.out⟩
end
end Go.Proofs.Ytebakjdeighdnaa

/-
  Contract of static.places: the map from rows to their places.
-/
namespace Go.Proofs.Ytebakjdeighdnaa
open Go.RowKit Go.Maps
set_option linter.unusedVariables false

theorem rowLaidOut : laidOutB Try.prog = true := by kernel_rfl
theorem rowLaw : Keyed Try.prog 90 := Keyed.of_law (deep_law_laid rowLaidOut (m := 2) (by omega) (of_decide_eq_true (by kernel_rfl)) (by kernel_rfl) (by kernel_rfl))

/-- What a row reads as, as a key. -/
def kfS (f : Fd) : Lit := .string (keyBytes [.string f.1.data.toList, .string f.2.data.toList])
def SizedS (f : Fd) : Prop := f.1.size ≤ maxLen ∧ f.2.size ≤ maxLen

theorem rowCells : Try.prog.cellsOf 90 = 2 := by kernel_rfl
theorem rowStr : Try.prog.cellsOf 9 = 1 := by kernel_rfl
theorem rowKey : Try.prog.keyType 90 = true := by kernel_rfl
theorem keyOf_fdS (f : Fd) (h : SizedS f) : keyOf Try.prog 90 (.agg #[.string f.1, .string f.2]) = some (kfS f) := by
  obtain ⟨f1, f2⟩ := f
  obtain ⟨h1, h2⟩ := h
  simp only at h1 h2
  have hs : ∀ (n : Nat) (s : ByteArray), s.size ≤ maxLen → Try.prog.keyLits (n + 1) 9 [.string s] = some [.string s.data.toList] := fun n s hs => by
    unfold Program.keyLits
    simp only [Try.underlying9, if_pos hs]
  unfold keyOf
  simp only [Try.underlying90]
  obtain ⟨n, hn⟩ : ∃ n, Try.prog.types.size = n + 1 := ⟨Try.prog.types.size - 1, by kernel_rfl⟩
  rw [rowKey, hn]
  have hf : (Value.agg #[.string f1, .string f2]).formed Try.prog 90 = true := by
    simp [Value.formed, Try.underlying90, rowCells]
  rw [hf]
  unfold Program.keyLits
  simp only [Try.underlying90]
  rw [if_pos (show (true && true) = true from rfl), if_pos ⟨by rw [rowCells]; rfl, by kernel_rfl⟩]
  simp only [List.mapM_cons, List.mapM_nil, rowStr, Value.cells, List.drop_zero, List.take_succ_cons, List.take_zero, List.drop_succ_cons, hs _ _ h1, hs _ _ h2]
  rfl

theorem kf_injS {f g : Fd} (hf : SizedS f) (hg : SizedS g) (h : kfS f = kfS g) : f = g := by
  have e := rowLaw.inj (keyOf_fdS f hf) (by rw [h]; exact keyOf_fdS g hg)
  obtain ⟨f1, f2⟩ := f
  obtain ⟨g1, g2⟩ := g
  simp only [Value.agg.injEq, Array.mk.injEq, List.cons.injEq, Value.string.injEq] at e
  rw [e.1, e.2.1]
theorem kf_keyS (f : Fd) (h : SizedS f) : WideAt.IsKeyLit (kfS f) := rowLaw.key (keyOf_fdS f h)

/-- The map tells where each of the first k stands, and nothing else. -/
def PlD (l : List Fd) (k : Nat) (D : DataW Unit) : Prop :=
  IsMap D ∧ (∀ f, SizedS f → Maps.has D (kfS f) = (l.take k).any (fun g => decide (g = f))) ∧ ∀ i (hi : i < k) (hl : i < l.length), D.atKey (kfS l[i]) (.lit (.int .i64 0)) = .lit (.int .i64 (i : Int))

theorem PlD.zero (l : List Fd) : PlD l 0 (.map []) := ⟨isMap_empty, fun f _ => by simp [Maps.has], fun i hi => absurd hi (Nat.not_lt_zero _)⟩

theorem PlD.succ {l : List Fd} (hn : l.Nodup) (hs : ∀ f ∈ l, SizedS f) {k : Nat} {D : DataW Unit} (h : PlD l k D) (hk : k < l.length) : PlD l (k + 1) (D.put (kfS l[k]) (.lit (.int .i64 (k : Int)))) := by
  obtain ⟨h0, h1, h2⟩ := h
  have hsk := hs l[k] (List.getElem_mem hk)
  refine ⟨h0.put _ _, fun f hf => ?_, fun i hi hl => ?_⟩
  · rw [List.take_succ_eq_append_getElem hk]
    by_cases he : f = l[k]
    · rw [he, has_put_same h0 (kf_keyS _ hsk), List.any_append]
      simp
    · rw [has_put_other (fun e => he (kf_injS hf hsk e)), h1 f hf, List.any_append]
      simp
      exact fun e => absurd e.symm he
  · by_cases he : i = k
    · subst he
      rw [atKey_put_same h0 (kf_keyS _ hsk)]
    · rw [atKey_put_other (fun e => he (nodup_idx hn hl hk (kf_injS (hs _ (List.getElem_mem hl)) hsk e)))]
      exact h2 i (by omega) hl

set_option maxRecDepth 100000 in
set_option maxHeartbeats 1000000 in
theorem places_any (v : Value) (l : List Fd) (w : World) (hv : Fs w v l) (hl : l.length ≤ 1000) (hn : l.Nodup) (hs : ∀ f ∈ l, SizedS f) :
    Calls Try.prog 58 #[v] w fun e w' => ∃ D, e = .returned (.map (some w.heap.size)) ∧ w'.ownsMap Try.prog 90 (plainElem Try.prog 3) w.heap.size l.length D ∧ PlD l l.length D ∧ Below w.heap.size w w' := by
  have hmm : ∀ (n : Nat) (W : World), (Instr.makeMap 106 (some (.int .i64 (n : Int)))).run Try.prog W = .ok (.map (some W.heap.size)) (W.alloc (.map #[] 0)) := fun n W => by
    simp [Instr.makeMap, run_underlying Try.underlying106, Sem.run_bind, asInt, asIntOf, Result.andThen]
  have HV := Bx.mk hv
  have HN := Bx.mk hn
  have HS := Bx.mk hs
  have hlen := fun ty W => hv.row_len ty W
  clear hv hn hs
  go_enter Try.func58, Try.ntmps58
  go_wp2
  go_loopg [11] l.length (fun n s11 wx => ∃ (k : Nat) (D : DataW Unit), k + n = l.length ∧ s11 = .int .i64 k ∧ Bx (wx.ownsMap Try.prog 90 (plainElem Try.prog 3) w.heap.size k D) ∧ Bx (PlD l k D) ∧ Bx (Below w.heap.size w wx))
  case atStart => exact ⟨0, _, by omega, rfl, ⟨World.ownsMap_made _ _ _ _⟩, ⟨PlD.zero l⟩, ⟨(Below.refl _ _).alloc (Nat.le_refl _) _⟩⟩
  case round =>
    obtain ⟨k, D, hkg, rfl, HO, HP, HB⟩ := hrel
    cases gk with
    | zero =>
      obtain rfl : k = l.length := by omega
      go_wp2
      go_ret
      exact ⟨_, rfl, HO.out, HP.out, HB.out⟩
    | succ n =>
      have hk : k < l.length := by omega
      obtain ⟨b, o, hix, hcs⟩ := HV.out.row_at k hk
      obtain ⟨hc1, hc2⟩ := hcs wr (HV.out.keep HB.out)
      have HK := Bx.mk hk
      have HKY := Bx.mk (keyOf_fdS l[k] (HS.out _ (List.getElem_mem hk)))
      obtain ⟨f1, hf1⟩ : ∃ f1, l[k].1 = f1 := ⟨_, rfl⟩
      obtain ⟨f2, hf2⟩ : ∃ f2, l[k].2 = f2 := ⟨_, rfl⟩
      rw [hf1, hf2] at HKY
      rw [hf1] at hc1
      rw [hf2] at hc2
      have hBs := HB.out.size
      clear hcs hf1 hf2
      go_wp2_with (first | (at_mapUpdate; refine wpList_mapUpdate_own _ rfl _ _ _ 106 rfl 90 3 rowLaw Try.underlying106 _ w.heap.size k _ rfl (HO.out.alloc _) (by unfold maxLen; omega) _ _ _ rfl rfl HKY.out _ [] (plainElem_int Try.underlying3 (WalkArith.wf_i64 (by omega))) ?_; intro w1 hown1 hgrow1))
      have HO1 := Bx.mk hown1
      have HB1 := Bx.mk ((HB.out.alloc hBs _).grown hgrow1 (HB.out.alloc hBs _).size (fun j hj => by cases hj; exact Nat.le_refl _))
      clear hown1 hgrow1
      go_wp2
      go_roundg n
      case measure => omega
      case rel => exact ⟨k + 1, _, by omega, by go_num, HO1, ⟨PlD.succ HN.out HS.out HP.out HK.out⟩, HB1⟩

end Go.Proofs.Ytebakjdeighdnaa

/-
  Contract of static.find.
-/
namespace Go.Proofs.Ytebakjdeighdnaa
open Go.RowKit Go.Maps
set_option linter.unusedVariables false

theorem zeroInt (w : World) : (zeroValue 3).run Try.prog w = .ok (.int .i64 0) w := by kernel_rfl

/-- What find answers. -/
def findP (l : List Fd) (fr : Nat) (f : Fd) : Value :=
  if (findS l f).2.1 then .tuple #[.int .u64 ((fr + (findS l f).1 : Nat) : Int), .bool true, .bool (findS l f).2.2] else .tuple #[.int .u64 0, .bool false, .bool false]

theorem PlD.at_ {l : List Fd} {D : DataW Unit} (h : PlD l l.length D) {f : Fd} (hf : SizedS f) {c : Int} (hc : D.atKey (kfS f) (.lit (.int .i64 0)) = .lit (.int .i64 c)) :
    (Maps.has D (kfS f) = true ∧ ∃ i, ∃ hi : i < l.length, l[i] = f ∧ c = (i : Int)) ∨ (Maps.has D (kfS f) = false ∧ ∀ j (hj : j < l.length), l[j] ≠ f) := by
  obtain ⟨h0, h1, h2⟩ := h
  have e := h1 f hf
  rw [List.take_length] at e
  cases hb : l.any (fun g => decide (g = f))
  · refine .inr ⟨e.trans hb, fun j hj he => ?_⟩
    have := List.any_eq_false.1 hb l[j] (List.getElem_mem hj)
    simp [he] at this
  · refine .inl ⟨e.trans hb, ?_⟩
    obtain ⟨g, hg, hgf⟩ := List.any_eq_true.1 hb
    obtain ⟨i, hi, rfl⟩ := List.getElem_of_mem hg
    have hgf : l[i] = f := by simpa using hgf
    refine ⟨i, hi, hgf, ?_⟩
    have h3 := h2 i hi hi
    rw [hgf, hc] at h3
    simpa using h3

theorem look_fact {l : List Fd} {D : DataW Unit} {w : World} {b n : Nat} (ho : w.ownsMap Try.prog 90 (plainElem Try.prog 3) b n D) (h : PlD l l.length D) {f : Fd} (hf : SizedS f) :
    ∃ (c : Int) (t : Bool), (Instr.lookup 106 (.map (some b)) (.agg #[.string f.1, .string f.2]) true).run Try.prog w = .ok (.tuple #[.int .i64 c, .bool t]) w ∧
      ((t = true ∧ ∃ i, ∃ hi : i < l.length, l[i] = f ∧ c = (i : Int)) ∨ (t = false ∧ ∀ j (hj : j < l.length), l[j] ≠ f)) := by
  obtain ⟨v, ps, hrun, hv⟩ := ho.look_ok rowLaw Try.underlying106 (zeroInt w) (plainElem_int Try.underlying3 (by decide)) (keyOf_fdS f hf)
  obtain ⟨c, rfl, hc, hw⟩ := plainElem_int_inv Try.underlying3 hv
  simp only [Prod.mk.injEq] at hc
  exact ⟨c, _, hrun, h.at_ hf hc.1⟩

theorem namedI_none {l : List Fd} {f : Fd} (h : l.findIdx? (fun g => decide (g.1 = f.1)) = none) : namedI l f = -1 ∧ findS l f = (0, false, false) := by
  constructor
  · unfold namedI; rw [h]
  · rw [List.findIdx?_eq_none_iff] at h
    exact findS_none fun j hj e => by have := h l[j] (List.getElem_mem hj); simp [e] at this
theorem namedI_some {l : List Fd} {f : Fd} {m : Nat} (h : l.findIdx? (fun g => decide (g.1 = f.1)) = some m) : namedI l f = (m : Int) ∧ m < l.length ∧ ((∀ j (hj : j < l.length), l[j] ≠ f) → findS l f = (m, true, false)) := by
  obtain ⟨hm, h1, h2⟩ := List.findIdx?_eq_some_iff_getElem.1 h
  refine ⟨by unfold namedI; rw [h], hm, fun hn => ?_⟩
  exact findS_named hn hm (by simpa using h1) fun j hj => by simpa using h2 j hj

set_option maxRecDepth 100000 in
set_option maxHeartbeats 1000000 in
theorem sfind_any (v : Value) (l : List Fd) (fr : Nat) (f : Fd) (w : World) (hv : Fs w v l) (hl : l.length ≤ 1000) (hn : l.Nodup) (hs : ∀ f ∈ l, SizedS f) (hfr : fr ≤ 1) (hf : SizedS f) :
    Calls Try.prog 39 #[v, .int .u64 (fr : Int), .agg #[.string f.1, .string f.2]] w fun e w' => e = .returned (findP l fr f) ∧ Below w.heap.size w w' := by
  have hmf : ∀ (fn : Fn) (first cap : Array Value) (w : World), (Instr.makeFunc fn first cap).run Try.prog w = .ok (.func fn first cap) w := fun _ _ _ _ => rfl
  have HV := Bx.mk hv
  have HL := Bx.mk hl
  have HN := Bx.mk hn
  have HS := Bx.mk hs
  have HSF := Bx.mk hf
  have HFR := Bx.mk hfr
  obtain ⟨f1, f2⟩ := f
  have HB1 := Bx.mk ((Below.refl w.heap.size w).alloc (Nat.le_refl _) (.cells #[.string f1, .string f2] 90))
  have HF1 := Bx.mk (Fb.new 90 w (f1, f2))
  have HV1 := Bx.mk (hv.keep HB1.out)
  clear hv hn hs hf hl hfr
  cases hi : l.findIdx? (fun g => decide (g.1 = (f1, f2).1)) with
  | none =>
    obtain ⟨h1, h2⟩ := namedI_none hi
    have H1 := Bx.mk h1
    have H2 := Bx.mk h2
    clear h1 h2 hi
    go_enter Try.func39, Try.ntmps39
    go_wp2_with fail
    refine (index_any v l (f1, f2) w.heap.size _ HV1.out HL.out HF1.out).mono ?_
    rintro e w2 ⟨rfl, hb⟩
    rw [H1.out]
    have HB2 := Bx.mk (HB1.out.trans (hb.mono HB1.out.size))
    clear hb
    go_wp2
    go_ret3
    exact ⟨by unfold findP; rw [H2.out]; rfl, HB2.out⟩
  | some m =>
    obtain ⟨h1, hm, h2⟩ := namedI_some hi
    have H1 := Bx.mk h1
    have H2 := Bx.mk h2
    have HM := Bx.mk hm
    have HK := Bx.mk (keyOf_fdS (f1, f2) HSF.out)
    clear h1 h2 hi hm
    go_enter Try.func39, Try.ntmps39
    go_wp2_with fail
    refine (index_any v l (f1, f2) w.heap.size _ HV1.out HL.out HF1.out).mono ?_
    rintro e w2 ⟨rfl, hb⟩
    rw [H1.out]
    have HB2 := Bx.mk (HB1.out.trans (hb.mono HB1.out.size))
    have HF2 := Bx.mk (HF1.out.below hb (by simp))
    have HV2 := Bx.mk (HV1.out.keep hb)
    obtain ⟨hca, hcb⟩ := HF2.out.cells
    clear hb
    go_wp2
    go_region_with (first
      | (go_at_call 58; refine (places_any v l _ (HV2.out.keep (Below.refl _ _).drew) HL.out HN.out HS.out).mono ?_; rintro e w3 ⟨D, rfl, ho3, hp3, hb3⟩; obtain ⟨hca3, hcb3⟩ := (HF2.out.keep ((Below.refl _ _).drew.trans hb3)).cells; obtain ⟨c, t, hlk, hat⟩ := look_fact (b := w2.heap.size) ho3 hp3 HSF.out))
    all_goals
      have HB3 := Bx.mk (HB2.out.trans (((Below.refl _ _).drew.trans hb3).mono HB2.out.size))
      clear hb3 hlk ho3 hp3 hca3 hcb3 hca hcb
      rcases hat with ⟨rfl, i, hi, hli, rfl⟩ | ⟨rfl, hno⟩
      · have HFS := Bx.mk (findS_at HN.out hi hli)
        have hwi : IntKind.u64.wrap (i : Int) = (i : Int) := by have := HL.out; simp [IntKind.wrap, IntKind.signed, IntKind.bits]; omega
        have hws : IntKind.u64.wrap ((fr : Int) + (i : Int)) = ((fr + i : Nat) : Int) := by have := HL.out; have := HFR.out; simp [IntKind.wrap, IntKind.signed, IntKind.bits]; omega
        clear hi hli
        go_wp2
        go_ret3
        exact ⟨by unfold findP; rw [HFS.out]; rfl, HB3.out⟩
      · have HFS := Bx.mk (H2.out hno)
        have hwi : IntKind.u64.wrap (m : Int) = (m : Int) := by have := HL.out; have := HM.out; simp [IntKind.wrap, IntKind.signed, IntKind.bits]; omega
        have hws : IntKind.u64.wrap ((fr : Int) + (m : Int)) = ((fr + m : Nat) : Int) := by have := HL.out; have := HFR.out; have := HM.out; simp [IntKind.wrap, IntKind.signed, IntKind.bits]; omega
        clear hno
        go_wp2
        go_ret3
        exact ⟨by unfold findP; rw [HFS.out]; rfl, HB3.out⟩

end Go.Proofs.Ytebakjdeighdnaa

/-
  Contract of static.rows2.
-/
namespace Go.Proofs.Ytebakjdeighdnaa
open Go.RowKit
set_option linter.unusedVariables false

end Go.Proofs.Ytebakjdeighdnaa
