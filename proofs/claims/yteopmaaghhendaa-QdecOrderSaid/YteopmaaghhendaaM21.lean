/-
  Texts put together: QnL, QnM, QnN, QnO, QnP.
-/
import Derived.Test.YteopmaaghhendaaM18
import Derived.Test.YteopmaaghhendaaM01

/-
  The document's Encode of QPACK, in pieces: one round of its first loop.
-/
namespace Go.Proofs.Yteopmaaghhendaa
open Go.RowKit Go.Maps
set_option linter.unusedVariables false

section
variable {q t s : Nat} {E : Qe} {S : Nat → Prop} {w wx : World} {lV : Value} {fb : Bool} {g0 k G : Nat} {a : Qa} {f1 f2 : ByteArray} {iV uV aV : Value} {l : List Fd}

set_option maxRecDepth 100000 in
set_option maxHeartbeats 40000000 in
/-- A field. -/
theorem field_any (ac : Act) (hA : At1 ac q s lV fb g0 iV uV aV a.c k) (hv : Fs wx lV l) (hk : k < l.length) (hfz : fsz l[k] ≤ 3000)
    (hQ : QS q t (E.at a.T) S w [(g0, C3)] iV a.ins uV a.u aV a.all wx) (hB : Bd a) (hi : a.ins.length ≤ 20000) (ht : a.T.tot < 900000) :
    Code.wp Try.prog (efrom 13) (Kx (Nx q t s E S w lV fb g0 k (qstep E.op E.K fb a l[k])) (fun _ _ => False) (fun i ac' w' => i = 1 ∧ Nx q t s E S w lV fb g0 k (qstep E.op E.K fb a l[k]) ac' w')) ac wx := by
  obtain ⟨b, o, hix, hcs⟩ := hv.at_ k hk
  obtain ⟨hc1, hc2⟩ := hcs wx hv
  obtain ⟨f1, hf1⟩ : ∃ f1, l[k].1 = f1 := ⟨_, rfl⟩
  obtain ⟨f2, hf2⟩ : ∃ f2, l[k].2 = f2 := ⟨_, rfl⟩
  rw [hf1] at hc1
  rw [hf2] at hc2
  have hlk : l[k] = (f1, f2) := by rw [← hf1, ← hf2]
  rw [hlk] at hfz ⊢
  have hq3 := hQ.new #[.string f1, .string f2]
  obtain ⟨G, hG⟩ : ∃ G, wx.heap.size = G := ⟨_, rfl⟩
  rw [hG] at hq3
  have H3 := Bx.mk hq3
  have HB := Bx.mk hB
  have HFZ := Bx.mk hfz
  have HIT := Bx.mk (And.intro hi ht)
  have hfi := fun W hW => findIn_any (.slice (some ⟨g0, 0, none⟩) 99 99) T3 (f1, f2) W hW (by rw [t3_len]; omega) t3_nodup
  have hfs := findS_lt T3 (f1, f2)
  rw [t3_len] at hfs
  unfold findV at hfi
  obtain ⟨at_, hat⟩ : ∃ at_, (findS T3 (f1, f2)).1 = at_ := ⟨_, rfl⟩
  obtain ⟨nm, hnm⟩ : ∃ nm, (findS T3 (f1, f2)).2.1 = nm := ⟨_, rfl⟩
  obtain ⟨bo, hbo⟩ : ∃ bo, (findS T3 (f1, f2)).2.2 = bo := ⟨_, rfl⟩
  rw [hat, hnm, hbo] at hfi
  have hat99 : at_ ≤ 99 := by
    rw [← hat]
    rcases hfs with ⟨m, q', hm, e⟩ | e <;> rw [e] <;> simp <;> omega
  have HFI := Bx.mk hfi
  have HFS := Bx.mk (show (findS T3 (f1, f2)).1 = at_ ∧ (findS T3 (f1, f2)).2.1 = nm ∧ (findS T3 (f1, f2)).2.2 = bo from ⟨hat, hnm, hbo⟩)
  have HAT := Bx.mk hat99
  have hB3 := hB.all
  have hw : IntKind.u64.wrap (at_ : Int) = (at_ : Int) := u64_keep (by omega) (by omega)
  obtain ⟨hca, hcb⟩ := (hq3.fb (g := G) (f1 := f1) (f2 := f2) (by simp)).cells
  obtain ⟨w3, hw3⟩ : ∃ w3, wx.alloc (.cells #[.string f1, .string f2] 56) = w3 := ⟨_, rfl⟩
  rw [hw3] at H3 hca hcb
  obtain ⟨u, hu, hac⟩ := eframe ac hA.z hA.d
  have h0 := (hu 0).symm.trans hA.t0
  have h1 := (hu 1).symm.trans hA.t1
  have h2 := (hu 2).symm.trans hA.t2
  have h8 := (hu 8).symm.trans hA.t8
  have h10 := (hu 10).symm.trans hA.t10
  have h11 := (hu 11).symm.trans hA.t11
  have h12 := (hu 12).symm.trans hA.t12
  have h13 := (hu 13).symm.trans hA.t13
  have h14 := (hu 14).symm.trans hA.t14
  have h15 := (hu 15).symm.trans hA.t15
  rw [hac]
  clear hac hA
  rw [h0, h1, h2, h8, h10, h11, h12, h13, h14, h15]
  clear h0 h1 h2 h8 h10 h11 h12 h13 h14 h15 hu
  conv => arg 2; whnf
  clear hf1 hf2 hcs hq3 hfi hfs hat hnm hbo hQ hB hfz hi ht hlk hv
  cases bo with
  | true =>
    have HST : Bx (qstep E.op E.K fb a (f1, f2) = a.line ⟨0, at_, (f1, f2)⟩) := ⟨by unfold qstep; rw [HFS.out.2.2, if_pos rfl, HFS.out.1]⟩
    rw [HST.out]
    clear HST
    go_wp2_with (first
      | (go_at_call 41; refine (HFI.out _ (H3.out.fs (by simp))).mono ?_; rintro e w4 ⟨rfl, b4⟩; have H4 := Bx.mk (H3.out.keep b4); obtain ⟨hca2, hcb2⟩ := (H4.out.fb (g := G) (f1 := f1) (f2 := f2) (by simp)).cells; clear b4)
      | (at_builtin; refine wpList_pushL rfl _ _ rfl ⟨0, at_, (f1, f2)⟩ rfl rfl H4.out (by omega) rfl rfl ?_; intro v5 w5 hq5; have H5 := Bx.mk hq5; clear hq5))
    exact Kx.exit ⟨rfl, _, _, _, ⟨rfl, rfl, rfl, rfl, rfl, rfl, rfl, rfl, rfl, rfl, rfl, rfl⟩, H5.out.sub (by simp)⟩
  | false =>
    go_upto_if 85 with (go_at_call 41; refine (HFI.out _ (H3.out.fs (by simp))).mono ?_; rintro e w4 ⟨rfl, b4⟩; have H4 := Bx.mk (H3.out.keep b4); clear b4)
    rename_i hKq
    refine wp_cond_false rfl ?_
    refine wp_skip ?_
    refine hKq _ _ ?_
    refine Kx.use (dyn_any (iV := iV) (uV := uV) (aV := aV) (a := a) (fb := fb) _ ⟨rfl, rfl, rfl, rfl, rfl, rfl, rfl, rfl, rfl, rfl, rfl, rfl⟩ at_ nm ⟨rfl, rfl, rfl⟩ ⟨HFS.out.1, HFS.out.2.1⟩ HAT.out HFZ.out HFS.out.2.2 H4.out HB.out HIT.out.1 HIT.out.2) ?_ ?_ ?_
    · intro a2 w2 h; exact h
    · intro a2 w2 h; exact h
    · intro i a2 w2 h; exact h

set_option maxRecDepth 100000 in
set_option maxHeartbeats 40000000 in
/-- Behind a field. -/
theorem postL_any (ac : Act) (hN : Nx q t s E S w lV fb g0 k a ac wx) (hk : k ≤ 1000) :
    Code.wp Try.prog (efrom 12) (Kx (Nx q t s E S w lV fb g0 (k + 1) a) (fun _ _ => False) (fun _ _ _ => False)) ac wx := by
  obtain ⟨iV, uV, aV, hA, hQ⟩ := hN
  have HQ := Bx.mk hQ
  obtain ⟨u, hu, hac⟩ := eframe ac hA.z hA.d
  have h0 := (hu 0).symm.trans hA.t0
  have h1 := (hu 1).symm.trans hA.t1
  have h2 := (hu 2).symm.trans hA.t2
  have h8 := (hu 8).symm.trans hA.t8
  have h10 := (hu 10).symm.trans hA.t10
  have h11 := (hu 11).symm.trans hA.t11
  have h12 := (hu 12).symm.trans hA.t12
  have h13 := (hu 13).symm.trans hA.t13
  have h14 := (hu 14).symm.trans hA.t14
  have h15 := (hu 15).symm.trans hA.t15
  rw [hac]
  clear hac hA
  rw [h0, h1, h2, h8, h10, h11, h12, h13, h14, h15]
  clear h0 h1 h2 h8 h10 h11 h12 h13 h14 h15 hu
  conv => arg 2; whnf
  clear hQ
  have hw : wrap64 ((k : Int) + 1) = ((k + 1 : Nat) : Int) := by unfold wrap64; omega
  go_wp2_with fail
  exact Kx.norm ⟨_, _, _, ⟨rfl, rfl, rfl, rfl, rfl, rfl, rfl, rfl, rfl, rfl, rfl, by first | rfl | (show Value.int .i64 _ = _; congr 1)⟩, HQ.out⟩

set_option maxRecDepth 100000 in
set_option maxHeartbeats 40000000 in
/-- One round, a field is left. -/
theorem round_any (ac : Act) (hN : Nx q t s E S w lV fb g0 k a ac wx) (hv : Fs wx lV l) (hk : k < l.length) (hl : l.length ≤ 100) (hfz : fsz l[k] ≤ 3000)
    (hB : Bd a) (hi : a.ins.length ≤ 20000) (ht : a.T.tot < 900000) :
    Code.wp Try.prog (eloop 0) (Kx (Nx q t s E S w lV fb g0 (k + 1) (qstep E.op E.K fb a l[k])) (fun _ _ => False) (fun _ _ _ => False)) ac wx := by
  obtain ⟨iV, uV, aV, hA, hQ⟩ := hN
  have HQ := Bx.mk hQ
  have HB := Bx.mk hB
  have HK := Bx.mk hk
  have HL := Bx.mk hl
  have HV := Bx.mk hv
  have HFZ := Bx.mk hfz
  have HIT := Bx.mk (And.intro hi ht)
  have hlen := fun ty W => hv.run_len ty W
  obtain ⟨n, hn⟩ : ∃ n, l.length = n := ⟨_, rfl⟩
  rw [hn] at hlen hk
  have hkd : decide ((k : Int) < (n : Int)) = true := decide_eq_true (by omega)
  have hkd' : decide (k < n) = true := decide_eq_true hk
  obtain ⟨u, hu, hac⟩ := eframe ac hA.z hA.d
  have h0 := (hu 0).symm.trans hA.t0
  have h1 := (hu 1).symm.trans hA.t1
  have h2 := (hu 2).symm.trans hA.t2
  have h8 := (hu 8).symm.trans hA.t8
  have h10 := (hu 10).symm.trans hA.t10
  have h11 := (hu 11).symm.trans hA.t11
  have h12 := (hu 12).symm.trans hA.t12
  have h13 := (hu 13).symm.trans hA.t13
  have h14 := (hu 14).symm.trans hA.t14
  have h15 := (hu 15).symm.trans hA.t15
  rw [hac]
  clear hac hA
  rw [h0, h1, h2, h8, h10, h11, h12, h13, h14, h15]
  clear h0 h1 h2 h8 h10 h11 h12 h13 h14 h15 hu
  conv => arg 2; whnf
  clear hQ hB hl hv hfz hi ht hn hk
  go_upto_block 1 with fail
  rename_i hKq
  refine wp_block ?_
  refine Kx.use (field_any (iV := iV) (uV := uV) (aV := aV) (a := a) (fb := fb) _ ⟨rfl, rfl, rfl, rfl, rfl, rfl, rfl, rfl, rfl, rfl, rfl, rfl⟩ HV.out HK.out HFZ.out HQ.out HB.out HIT.out.1 HIT.out.2) ?_ ?_ ?_
  · intro a2 w2 h
    refine hKq _ _ ?_
    exact postL_any a2 h (by have := HK.out; have := HL.out; omega)
  · intro a2 w2 h; exact h.elim
  · rintro i a2 w2 ⟨rfl, h⟩
    refine hKq _ _ ?_
    exact postL_any a2 h (by have := HK.out; have := HL.out; omega)

set_option maxRecDepth 100000 in
set_option maxHeartbeats 40000000 in
/-- One round, no field is left. -/
theorem roundE_any (ac : Act) (hN : Nx q t s E S w lV fb g0 l.length a ac wx) (hv : Fs wx lV l) :
    Code.wp Try.prog (eloop 0) (Kx (fun _ _ => False) (fun _ _ => False) (fun i ac' w' => i = 0 ∧ Nx q t s E S w lV fb g0 l.length a ac' w')) ac wx := by
  obtain ⟨iV, uV, aV, hA, hQ⟩ := hN
  have HQ := Bx.mk hQ
  have hlen := fun ty W => hv.run_len ty W
  obtain ⟨n, hn⟩ : ∃ n, l.length = n := ⟨_, rfl⟩
  rw [hn] at hlen hA ⊢
  obtain ⟨u, hu, hac⟩ := eframe ac hA.z hA.d
  have h0 := (hu 0).symm.trans hA.t0
  have h1 := (hu 1).symm.trans hA.t1
  have h2 := (hu 2).symm.trans hA.t2
  have h8 := (hu 8).symm.trans hA.t8
  have h10 := (hu 10).symm.trans hA.t10
  have h11 := (hu 11).symm.trans hA.t11
  have h12 := (hu 12).symm.trans hA.t12
  have h13 := (hu 13).symm.trans hA.t13
  have h14 := (hu 14).symm.trans hA.t14
  have h15 := (hu 15).symm.trans hA.t15
  rw [hac]
  clear hac hA
  rw [h0, h1, h2, h8, h10, h11, h12, h13, h14, h15]
  clear h0 h1 h2 h8 h10 h11 h12 h13 h14 h15 hu
  conv => arg 2; whnf
  clear hQ hv hn
  go_wp2_with fail
  exact Kx.exit ⟨rfl, _, _, _, ⟨rfl, rfl, rfl, rfl, rfl, rfl, rfl, rfl, rfl, rfl, rfl, rfl⟩, HQ.out⟩
end
end Go.Proofs.Yteopmaaghhendaa

/-
  The document's Encode of QPACK, in pieces: a line that is written.
-/
namespace Go.Proofs.Yteopmaaghhendaa
open Go.RowKit Go.Maps
set_option linter.unusedVariables false

theorem lcl_at (l : List Ql) (i j : Nat) (h : i < l.length) (hj : j < 4) : (l.flatMap lcl)[i * 4 + j]? = (lcl l[i])[j]? := by
  induction l generalizing i with
  | nil => simp at h
  | cons a l ih =>
    rw [List.flatMap_cons]
    cases i with
    | zero => rw [Nat.zero_mul, Nat.zero_add, List.getElem?_append_left (by simpa [lcl] using hj)]; rfl
    | succ i =>
      have := ih i (by simpa using h)
      have e1 : (i + 1) * 4 + j = (lcl a).length + (i * 4 + j) := by simp [lcl]; omega
      rw [e1, List.getElem?_append_right (by omega), Nat.add_sub_cancel_left]
      simpa using this
section
variable {w : World} {B : Nat} {v : Value} {all : List Ql}
theorem OwL.run_len (h : OwL w B v all) (ty : TypeId) (W : World) : (Builtin.len_ #[90] ty #[v]).run Try.prog W = .ok (.int .i64 (all.length : Int)) W := by
  obtain ⟨A, c, rfl, h1, h2, h3⟩ := Rn.of_own h
  simp [Builtin.len_, run_underlying Try.underlying90, goInt]
theorem OwL.at_ (h : OwL w B v all) (i : Nat) (hi : i < all.length) :
    ∃ b o : Nat, (∀ W : World, (Instr.indexAt 90 v (.int .i64 (i : Int))).run Try.prog W = .ok (.pointer (some ⟨b, o, none⟩)) W) ∧
      ∀ W : World, OwL W B v all → W.cell? ⟨b, o, none⟩ = some (.int .i64 (all[i].k : Int)) ∧ W.cell? ⟨b, o + 1, none⟩ = some (.int .u64 (all[i].i : Int)) ∧ W.cell? ⟨b, o + 2, none⟩ = some (.string all[i].f.1) ∧ W.cell? ⟨b, o + 3, none⟩ = some (.string all[i].f.2) := by
  obtain ⟨b, o, c, rfl, h1, h2, h3, hc⟩ := Rn.at_ (Rn.of_own h) (by omega) (by omega)
  have hsz : ∀ W : World, (sizeOf (Try.prog.elem 90)).run Try.prog W = .ok 4 W := fun W => by kernel_rfl
  refine ⟨b, o + i * 4, fun W => ?_, fun W hW => ?_⟩
  · simp [Instr.indexAt, asIntOf, run_underlying Try.underlying90, Sem.run_bind, hi, Result.andThen]
    simp [Addr.add]
  · obtain ⟨b', o', c', e, _, _, _, hc'⟩ := Rn.at_ (Rn.of_own hW) (by omega) (by omega)
    injection e with e1 e2 e3
    injection e1 with e1
    injection e1 with e1 e4
    subst e1; subst e4
    have g := fun j hj u hu => hc' (i * 4 + j) u (by rw [lcl_at all i j hi hj]; exact hu)
    exact ⟨g 0 (by omega) _ rfl, by have := g 1 (by omega) _ rfl; rwa [← Nat.add_assoc] at this, by have := g 2 (by omega) _ rfl; rwa [← Nat.add_assoc] at this, by have := g 3 (by omega) _ rfl; rwa [← Nat.add_assoc] at this⟩
end

/-- The slots that are read on, behind the fields. -/
structure At3 (a : Act) (q s : Nat) (iV lv uV aV : Value) (c k : Nat) : Prop where
  d : a.defers = []
  z : a.tmps.size = 288
  t0 : a.tmps.getD 0 undef = .pointer (some ⟨q, 0, none⟩)
  t1 : a.tmps.getD 1 undef = .int .u64 (s : Int)
  t8 : a.tmps.getD 8 undef = iV
  t9 : a.tmps.getD 9 undef = lv
  t12 : a.tmps.getD 12 undef = uV
  t13 : a.tmps.getD 13 undef = .int .u64 (c : Int)
  t14 : a.tmps.getD 14 undef = aV
  t24 : a.tmps.getD 24 undef = .int .i64 (k : Int)
/-- Between two lines. -/
def Mx (q s : Nat) (iV uV aV : Value) (c : Nat) (w1 : World) (k : Nat) (ls : List UInt8) (ac : Act) (wx : World) : Prop :=
  ∃ lv, At3 ac q s iV lv uV aV c k ∧ OwB wx w1.heap.size lv ls ∧ Below w1.heap.size w1 wx

section
variable {q t s : Nat} {w w1 wx : World} {k c : Nat} {iV uV aV lv : Value} {all : List Ql} {ls : List UInt8}
set_option maxRecDepth 100000 in
set_option maxHeartbeats 40000000 in
/-- A line. -/
theorem line_any (ac : Act) (hA : At3 ac q s iV lv uV aV c k) (hv : OwL w1 w.heap.size aV all) (hk : k < all.length) (hx : all[k].k ≤ 3 ∧ (all[k].k ≠ 3 → all[k].i < 1000000) ∧ (all[k].k = 1 → all[k].i < c) ∧ fsz all[k].f ≤ 3000) (hc : c ≤ 1000000)
    (ho : OwB wx w1.heap.size lv ls) (hb : Below w1.heap.size w1 wx) (hl : ls.length ≤ 20000) :
    Code.wp Try.prog (efrom 40) (Kx (Mx q s iV uV aV c w1 k (ls ++ lineW c all[k])) (fun _ _ => False) (fun _ _ _ => False)) ac wx := by
  obtain ⟨b, o, hix, hcs⟩ := hv.at_ k hk
  obtain ⟨hc1, hc2, hc3, hc4⟩ := hcs wx (ownN_keep hv hb)
  obtain ⟨⟨kd, pi, f1, f2⟩, hlk⟩ : ∃ x, all[k] = x := ⟨_, rfl⟩
  rw [hlk] at hx hc1 hc2 hc3 hc4 ⊢
  simp only at hc1 hc2 hc3 hc4 hx
  obtain ⟨hx1, hx2, hx3, hx4⟩ := hx
  have hs1 : f1.size ≤ 3000 := by unfold fsz at hx4; simp only at hx4; omega
  have hs2 : f2.size ≤ 3000 := by unfold fsz at hx4; simp only at hx4; omega
  have HB := Bx.mk hb
  have HO := Bx.mk ho
  obtain ⟨sc, hsc⟩ : ∃ sc, secN f1 = sc := ⟨_, rfl⟩
  have HSEC : Bx (∀ W, Calls Try.prog 45 #[.string f1] W fun e w' => e = .returned (.bool sc) ∧ W = w') := ⟨fun W => hsc ▸ refSecret_any f1 W⟩
  have HLW : Bx (lineW c ⟨kd, pi, (f1, f2)⟩ = if kd = 0 then pre 192 6 pi else if kd = 1 then pre 128 6 (c - 1 - pi) else if kd = 2 then pre (if sc then 112 else 80) 4 pi ++ putSk 0 7 f2.data.toList else putSk (if sc then 48 else 32) 3 f1.data.toList ++ putSk 0 7 f2.data.toList) := ⟨by unfold lineW; rw [hsc]⟩
  have HPRE : Bx (∀ (W : World) (V : Value) (l2 : List UInt8) (f : UInt8) (F : Int) (n : Int) (kk : Nat) (v : Nat) (VV : Int), (f.toNat : Int) = F → bitsOf n = kk → (v : Int) = VV → v ≤ 1000000 → OwB W w1.heap.size V l2 → l2.length ≤ 30000 → w1.heap.size ≤ W.heap.size → Calls Try.prog 23 #[V, .int .u8 F, .int .i64 n, .int .u64 VV] W fun e w' => ∃ v', e = .returned v' ∧ OwB w' w1.heap.size v' (l2 ++ pre f kk v) ∧ Below w1.heap.size W w' ∧ NonB W w') :=
    ⟨fun W V l2 f F n kk v VV e1 e2 e3 hv ho2 hl2 hs => refPrefix_at w1.heap.size V l2 f F e1 n kk e2 v VV e3 W ho2 hs (by omega) (by omega)⟩
  have HPUT : Bx (∀ (W : World) (V : Value) (l2 : List UInt8) (f : UInt8) (F : Int) (kk : Nat) (x : ByteArray), (f.toNat : Int) = F → 1 ≤ kk → kk ≤ 7 → x.size ≤ 3000 → OwB W w1.heap.size V l2 → l2.length ≤ 30000 → w1.heap.size ≤ W.heap.size → Calls Try.prog 26 #[V, .int .u8 F, .int .i64 (kk : Int), .string x] W fun e w' => ∃ v', e = .returned v' ∧ OwB w' w1.heap.size v' (l2 ++ putSk f kk x.data.toList) ∧ Below w1.heap.size W w' ∧ NonB W w') :=
    ⟨fun W V l2 f F kk x e1 h1 h7 hx ho2 hl2 hs => by subst e1; exact putStr_non w1.heap.size V l2 f kk h1 h7 x W ho2 hs (by omega) (by omega)⟩
  obtain ⟨KD, hKD⟩ := letter kd
  obtain ⟨PI, hPI⟩ := letter pi
  rw [hKD] at hc1
  rw [hPI] at hc2
  obtain ⟨G, hG⟩ : ∃ G, wx.heap.size = G := ⟨_, rfl⟩
  obtain ⟨w2, hw2⟩ : ∃ w2, wx.alloc (.cells #[.int .i64 KD, .int .u64 PI, .string f1, .string f2] 94) = w2 := ⟨_, rfl⟩
  have hblk : w2.heap[G]? = some (.cells #[.int .i64 KD, .int .u64 PI, .string f1, .string f2] 94 (0, 0)) := by rw [← hw2, ← hG]; exact heap_alloc_last wx _
  have hcell : ∀ W : World, W.heap[G]? = some (.cells #[.int .i64 KD, .int .u64 PI, .string f1, .string f2] 94 (0, 0)) → W.cell? ⟨G, 0, none⟩ = some (.int .i64 KD) ∧ W.cell? ⟨G, 1, none⟩ = some (.int .u64 PI) ∧ W.cell? ⟨G, 2, none⟩ = some (.string f1) ∧ W.cell? ⟨G, 3, none⟩ = some (.string f2) := fun W h => by
    refine ⟨?_, ?_, ?_, ?_⟩ <;> simp [World.cell?, h]
  obtain ⟨k0, k1, k2, k3⟩ := hcell w2 hblk
  have HCELL := Bx.mk hcell
  have HBLK := Bx.mk hblk
  have HB2 : Bx (Below w1.heap.size w1 w2 ∧ OwB w2 w1.heap.size lv ls) := ⟨by
    have h := (Below.refl wx.heap.size wx).alloc (Nat.le_refl _) (.cells #[.int .i64 KD, .int .u64 PI, .string f1, .string f2] 94)
    rw [← hw2]
    exact ⟨hb.trans (h.mono hb.size), ho.keep h⟩⟩
  obtain ⟨u, hu, hac⟩ := eframe ac hA.z hA.d
  have h0 := (hu 0).symm.trans hA.t0
  have h1 := (hu 1).symm.trans hA.t1
  have h8 := (hu 8).symm.trans hA.t8
  have h9 := (hu 9).symm.trans hA.t9
  have h12 := (hu 12).symm.trans hA.t12
  have h13 := (hu 13).symm.trans hA.t13
  have h14 := (hu 14).symm.trans hA.t14
  have h24 := (hu 24).symm.trans hA.t24
  rw [hac]
  clear hac hA
  rw [h0, h1, h8, h9, h12, h13, h14, h24]
  clear h0 h1 h8 h9 h12 h13 h14 h24 hu
  conv => arg 2; whnf
  have HX := Bx.mk (And.intro hx1 hx3)
  have HKD := Bx.mk hKD
  have HPI := Bx.mk hPI
  have HSZ := Bx.mk (And.intro hs1 hs2)
  have HBND := Bx.mk (And.intro hx2 (And.intro hc hl))
  clear hcs hcell hblk hb ho hv hx1 hx3 hx4 hs1 hs2 hlk hsc hx2 hc hl hKD hPI
  rw [HLW.out]
  have HLE : Bx (∀ f : UInt8, (ls ++ pre f 4 pi).length ≤ 30000 ∧ (ls ++ putSk f 3 f1.data.toList).length ≤ 30000) := ⟨fun f => by
    have h1 := HBND.out.2.2
    have h2 := (pre_len f 4 pi).2
    have h3 := putSk_len f 3 f1.data.toList
    have h4 := HSZ.out.1
    have e1 : f1.data.toList.length = f1.size := by simp
    rw [List.length_append, List.length_append]
    omega⟩
  have hcs : kd = 0 ∨ kd = 1 ∨ kd = 2 ∨ kd = 3 := by have := HX.out.1; omega
  cases sc with
  | true =>
    rcases hcs with rfl | rfl | rfl | rfl
    · have hKD := HKD.out
      have ht0 : (KD == 0) = true := by rw [beq_iff_eq]; omega
      clear hKD
      go_wp2_with (first
        | (go_at_call 45; refine (HSEC.out _).mono ?_; rintro e w3 ⟨rfl, rfl⟩)
        | (go_at_call 23; refine (HPRE.out _ _ _ 192 192 6 6 pi _ rfl rfl HPI.out (by have := HBND.out.1 (by omega); omega) HB2.out.2 (by have := HBND.out.2.2; omega) HB2.out.1.size).mono ?_; rintro e w4 ⟨v4, rfl, ho4, b4, n4⟩; have H4 := Bx.mk (And.intro ho4 (HB2.out.1.trans b4)); clear ho4 b4 n4))
      exact Kx.norm ⟨_, ⟨rfl, rfl, rfl, rfl, rfl, rfl, rfl, rfl, rfl, rfl⟩, H4.out.1, H4.out.2⟩
    · have hKD := HKD.out
      have ht0 : (KD == 0) = false := by rw [beq_eq_false_iff_ne]; omega
      have ht1 : (KD == 1) = true := by rw [beq_iff_eq]; omega
      clear hKD
      obtain ⟨C, hC⟩ := letter c
      obtain ⟨D, hD⟩ := letter (c - 1)
      obtain ⟨F, hF⟩ := letter (c - 1 - pi)
      have hpc : pi < c := HX.out.2 rfl
      have hcl := HBND.out.2.1
      have hY := HPI.out
      have hd1 : IntKind.u64.wrap (C - 1) = D := by rw [show C - 1 = D from by omega]; exact u64_keep (by omega) (by omega)
      have hd2 : IntKind.u64.wrap (D - PI) = F := by rw [show D - PI = F from by omega]; exact u64_keep (by omega) (by omega)
      have HF := Bx.mk hF
      have HCC := Bx.mk hC
      rw [hC]
      clear hY hC hD hF hpc hcl
      go_wp2_with (first
        | (go_at_call 45; refine (HSEC.out _).mono ?_; rintro e w3 ⟨rfl, rfl⟩)
        | (go_at_call 23; refine (HPRE.out _ _ _ 128 128 6 6 (c - 1 - pi) _ rfl rfl HF.out (by have := HBND.out.2.1; omega) HB2.out.2 (by have := HBND.out.2.2; omega) HB2.out.1.size).mono ?_; rintro e w4 ⟨v4, rfl, ho4, b4, n4⟩; have H4 := Bx.mk (And.intro ho4 (HB2.out.1.trans b4)); clear ho4 b4 n4))
      exact Kx.norm ⟨_, ⟨rfl, rfl, rfl, rfl, rfl, rfl, rfl, by rw [HCC.out]; rfl, rfl, rfl⟩, H4.out.1, H4.out.2⟩
    · have hKD := HKD.out
      have ht0 : (KD == 0) = false := by rw [beq_eq_false_iff_ne]; omega
      have ht1 : (KD == 1) = false := by rw [beq_eq_false_iff_ne]; omega
      have ht2 : (KD == 2) = true := by rw [beq_iff_eq]; omega
      clear hKD
      have hor : bits .or .u8 80 32 = 112 := by decide
      go_wp2_with (first
        | (go_at_call 45; refine (HSEC.out _).mono ?_; rintro e w3 ⟨rfl, rfl⟩)
        | (go_at_call 23; refine (HPRE.out _ _ _ 112 112 4 4 pi _ rfl rfl HPI.out (by have := HBND.out.1 (by omega); omega) HB2.out.2 (by have := HBND.out.2.2; omega) HB2.out.1.size).mono ?_; rintro e w4 ⟨v4, rfl, ho4, b4, n4⟩; have hk9 := HCELL.out w4 (n4 _ _ HBLK.out fun cc z e => by injection e with _ e2 _; exact absurd e2 (by decide)); obtain ⟨m0, m1, m2, m3⟩ := hk9; have H4 := Bx.mk (And.intro ho4 (HB2.out.1.trans b4)); clear ho4 b4 n4)
        | (go_at_call 26; refine (HPUT.out w4 _ _ 0 0 7 f2 rfl (by omega) (by omega) HSZ.out.2 H4.out.1 (HLE.out 112).1 H4.out.2.size).mono ?_; rintro e w5 ⟨v5, rfl, ho5, b5, n5⟩; have H5 := Bx.mk (And.intro ho5 (H4.out.2.trans b5)); clear ho5 b5 n5))
      exact Kx.norm ⟨_, ⟨rfl, rfl, rfl, rfl, rfl, rfl, rfl, rfl, rfl, rfl⟩, (by have h := H5.out.1; rw [List.append_assoc] at h; exact h), H5.out.2⟩
    · have hKD := HKD.out
      have ht0 : (KD == 0) = false := by rw [beq_eq_false_iff_ne]; omega
      have ht1 : (KD == 1) = false := by rw [beq_eq_false_iff_ne]; omega
      have ht2 : (KD == 2) = false := by rw [beq_eq_false_iff_ne]; omega
      clear hKD
      have hor : bits .or .u8 32 16 = 48 := by decide
      go_wp2_with (first
        | (go_at_call 45; refine (HSEC.out _).mono ?_; rintro e w3 ⟨rfl, rfl⟩))
      (refine (HPUT.out w2 _ _ 48 48 3 f1 rfl (by omega) (by omega) HSZ.out.1 HB2.out.2 (by have := HBND.out.2.2; omega) HB2.out.1.size).mono ?_; rintro e w4 ⟨v4, rfl, ho4, b4, n4⟩; have hk9 := HCELL.out w4 (n4 _ _ HBLK.out fun cc z e => by injection e with _ e2 _; exact absurd e2 (by decide)); obtain ⟨m0, m1, m2, m3⟩ := hk9; have H4 := Bx.mk (And.intro ho4 (HB2.out.1.trans b4)); clear ho4 b4 n4)
      go_wp2_with fail
      (refine (HPUT.out w4 _ _ 0 0 7 f2 rfl (by omega) (by omega) HSZ.out.2 H4.out.1 (HLE.out 48).2 H4.out.2.size).mono ?_; rintro e w5 ⟨v5, rfl, ho5, b5, n5⟩; have H5 := Bx.mk (And.intro ho5 (H4.out.2.trans b5)); clear ho5 b5 n5)
      go_wp2_with fail
      exact Kx.norm ⟨_, ⟨rfl, rfl, rfl, rfl, rfl, rfl, rfl, rfl, rfl, rfl⟩, (by have h := H5.out.1; rw [List.append_assoc] at h; exact h), H5.out.2⟩
  | false =>
    rcases hcs with rfl | rfl | rfl | rfl
    · have hKD := HKD.out
      have ht0 : (KD == 0) = true := by rw [beq_iff_eq]; omega
      clear hKD
      go_wp2_with (first
        | (go_at_call 45; refine (HSEC.out _).mono ?_; rintro e w3 ⟨rfl, rfl⟩)
        | (go_at_call 23; refine (HPRE.out _ _ _ 192 192 6 6 pi _ rfl rfl HPI.out (by have := HBND.out.1 (by omega); omega) HB2.out.2 (by have := HBND.out.2.2; omega) HB2.out.1.size).mono ?_; rintro e w4 ⟨v4, rfl, ho4, b4, n4⟩; have H4 := Bx.mk (And.intro ho4 (HB2.out.1.trans b4)); clear ho4 b4 n4))
      exact Kx.norm ⟨_, ⟨rfl, rfl, rfl, rfl, rfl, rfl, rfl, rfl, rfl, rfl⟩, H4.out.1, H4.out.2⟩
    · have hKD := HKD.out
      have ht0 : (KD == 0) = false := by rw [beq_eq_false_iff_ne]; omega
      have ht1 : (KD == 1) = true := by rw [beq_iff_eq]; omega
      clear hKD
      obtain ⟨C, hC⟩ := letter c
      obtain ⟨D, hD⟩ := letter (c - 1)
      obtain ⟨F, hF⟩ := letter (c - 1 - pi)
      have hpc : pi < c := HX.out.2 rfl
      have hcl := HBND.out.2.1
      have hY := HPI.out
      have hd1 : IntKind.u64.wrap (C - 1) = D := by rw [show C - 1 = D from by omega]; exact u64_keep (by omega) (by omega)
      have hd2 : IntKind.u64.wrap (D - PI) = F := by rw [show D - PI = F from by omega]; exact u64_keep (by omega) (by omega)
      have HF := Bx.mk hF
      have HCC := Bx.mk hC
      rw [hC]
      clear hY hC hD hF hpc hcl
      go_wp2_with (first
        | (go_at_call 45; refine (HSEC.out _).mono ?_; rintro e w3 ⟨rfl, rfl⟩)
        | (go_at_call 23; refine (HPRE.out _ _ _ 128 128 6 6 (c - 1 - pi) _ rfl rfl HF.out (by have := HBND.out.2.1; omega) HB2.out.2 (by have := HBND.out.2.2; omega) HB2.out.1.size).mono ?_; rintro e w4 ⟨v4, rfl, ho4, b4, n4⟩; have H4 := Bx.mk (And.intro ho4 (HB2.out.1.trans b4)); clear ho4 b4 n4))
      exact Kx.norm ⟨_, ⟨rfl, rfl, rfl, rfl, rfl, rfl, rfl, by rw [HCC.out]; rfl, rfl, rfl⟩, H4.out.1, H4.out.2⟩
    · have hKD := HKD.out
      have ht0 : (KD == 0) = false := by rw [beq_eq_false_iff_ne]; omega
      have ht1 : (KD == 1) = false := by rw [beq_eq_false_iff_ne]; omega
      have ht2 : (KD == 2) = true := by rw [beq_iff_eq]; omega
      clear hKD
      have hor : bits .or .u8 80 0 = 80 := by decide
      go_wp2_with (first
        | (go_at_call 45; refine (HSEC.out _).mono ?_; rintro e w3 ⟨rfl, rfl⟩)
        | (go_at_call 23; refine (HPRE.out _ _ _ 80 80 4 4 pi _ rfl rfl HPI.out (by have := HBND.out.1 (by omega); omega) HB2.out.2 (by have := HBND.out.2.2; omega) HB2.out.1.size).mono ?_; rintro e w4 ⟨v4, rfl, ho4, b4, n4⟩; have hk9 := HCELL.out w4 (n4 _ _ HBLK.out fun cc z e => by injection e with _ e2 _; exact absurd e2 (by decide)); obtain ⟨m0, m1, m2, m3⟩ := hk9; have H4 := Bx.mk (And.intro ho4 (HB2.out.1.trans b4)); clear ho4 b4 n4)
        | (go_at_call 26; refine (HPUT.out w4 _ _ 0 0 7 f2 rfl (by omega) (by omega) HSZ.out.2 H4.out.1 (HLE.out 80).1 H4.out.2.size).mono ?_; rintro e w5 ⟨v5, rfl, ho5, b5, n5⟩; have H5 := Bx.mk (And.intro ho5 (H4.out.2.trans b5)); clear ho5 b5 n5))
      exact Kx.norm ⟨_, ⟨rfl, rfl, rfl, rfl, rfl, rfl, rfl, rfl, rfl, rfl⟩, (by have h := H5.out.1; rw [List.append_assoc] at h; exact h), H5.out.2⟩
    · have hKD := HKD.out
      have ht0 : (KD == 0) = false := by rw [beq_eq_false_iff_ne]; omega
      have ht1 : (KD == 1) = false := by rw [beq_eq_false_iff_ne]; omega
      have ht2 : (KD == 2) = false := by rw [beq_eq_false_iff_ne]; omega
      clear hKD
      have hor : bits .or .u8 32 0 = 32 := by decide
      go_wp2_with (first
        | (go_at_call 45; refine (HSEC.out _).mono ?_; rintro e w3 ⟨rfl, rfl⟩))
      (refine (HPUT.out w2 _ _ 32 32 3 f1 rfl (by omega) (by omega) HSZ.out.1 HB2.out.2 (by have := HBND.out.2.2; omega) HB2.out.1.size).mono ?_; rintro e w4 ⟨v4, rfl, ho4, b4, n4⟩; have hk9 := HCELL.out w4 (n4 _ _ HBLK.out fun cc z e => by injection e with _ e2 _; exact absurd e2 (by decide)); obtain ⟨m0, m1, m2, m3⟩ := hk9; have H4 := Bx.mk (And.intro ho4 (HB2.out.1.trans b4)); clear ho4 b4 n4)
      go_wp2_with fail
      (refine (HPUT.out w4 _ _ 0 0 7 f2 rfl (by omega) (by omega) HSZ.out.2 H4.out.1 (HLE.out 32).2 H4.out.2.size).mono ?_; rintro e w5 ⟨v5, rfl, ho5, b5, n5⟩; have H5 := Bx.mk (And.intro ho5 (H4.out.2.trans b5)); clear ho5 b5 n5)
      go_wp2_with fail
      exact Kx.norm ⟨_, ⟨rfl, rfl, rfl, rfl, rfl, rfl, rfl, rfl, rfl, rfl⟩, (by have h := H5.out.1; rw [List.append_assoc] at h; exact h), H5.out.2⟩
end
end Go.Proofs.Yteopmaaghhendaa

/-
  The document's Encode of QPACK, in pieces: one round of its second loop; a section that is kept.
-/
namespace Go.Proofs.Yteopmaaghhendaa
open Go.RowKit Go.Maps
set_option linter.unusedVariables false

section
variable {q t s : Nat} {w w1 wx : World} {k c : Nat} {iV uV aV lv : Value} {all : List Ql} {ls : List UInt8}
set_option maxRecDepth 100000 in
set_option maxHeartbeats 40000000 in
/-- Behind a line. -/
theorem post2_any (ac : Act) (hN : Mx q s iV uV aV c w1 k ls ac wx) (hk : k ≤ 1000) :
    Code.wp Try.prog (efrom 39) (Kx (Mx q s iV uV aV c w1 (k + 1) ls) (fun _ _ => False) (fun _ _ _ => False)) ac wx := by
  obtain ⟨lv, hA, ho, hb⟩ := hN
  have HO := Bx.mk (And.intro ho hb)
  obtain ⟨u, hu, hac⟩ := eframe ac hA.z hA.d
  have h0 := (hu 0).symm.trans hA.t0
  have h1 := (hu 1).symm.trans hA.t1
  have h8 := (hu 8).symm.trans hA.t8
  have h9 := (hu 9).symm.trans hA.t9
  have h12 := (hu 12).symm.trans hA.t12
  have h13 := (hu 13).symm.trans hA.t13
  have h14 := (hu 14).symm.trans hA.t14
  have h24 := (hu 24).symm.trans hA.t24
  rw [hac]
  clear hac hA
  rw [h0, h1, h8, h9, h12, h13, h14, h24]
  clear h0 h1 h8 h9 h12 h13 h14 h24 hu
  conv => arg 2; whnf
  clear ho hb
  have hw : wrap64 ((k : Int) + 1) = ((k + 1 : Nat) : Int) := by unfold wrap64; omega
  go_wp2_with fail
  exact Kx.norm ⟨_, ⟨rfl, rfl, rfl, rfl, rfl, rfl, rfl, rfl, rfl, by first | rfl | (show Value.int .i64 _ = _; congr 1)⟩, HO.out⟩

set_option maxRecDepth 100000 in
set_option maxHeartbeats 40000000 in
/-- One round, a line is left. -/
theorem round2_any (ac : Act) (hN : Mx q s iV uV aV c w1 k ls ac wx) (hv : OwL w1 w.heap.size aV all) (hk : k < all.length) (ha : all.length ≤ 100) (hx : all[k].k ≤ 3 ∧ (all[k].k ≠ 3 → all[k].i < 1000000) ∧ (all[k].k = 1 → all[k].i < c) ∧ fsz all[k].f ≤ 3000) (hc : c ≤ 1000000) (hl : ls.length ≤ 20000) :
    Code.wp Try.prog (eloop 1) (Kx (Mx q s iV uV aV c w1 (k + 1) (ls ++ lineW c all[k])) (fun _ _ => False) (fun _ _ _ => False)) ac wx := by
  obtain ⟨lv, hA, ho, hb⟩ := hN
  have HO := Bx.mk (And.intro ho hb)
  have HV := Bx.mk hv
  have HK := Bx.mk (And.intro hk ha)
  have HX := Bx.mk hx
  have HC := Bx.mk (And.intro hc hl)
  have hlen := fun ty W => hv.run_len ty W
  obtain ⟨n, hn⟩ : ∃ n, all.length = n := ⟨_, rfl⟩
  rw [hn] at hlen
  have hkd : decide ((k : Int) < (n : Int)) = true := decide_eq_true (by omega)
  have hkd' : decide (k < n) = true := decide_eq_true (by omega)
  obtain ⟨u, hu, hac⟩ := eframe ac hA.z hA.d
  have h0 := (hu 0).symm.trans hA.t0
  have h1 := (hu 1).symm.trans hA.t1
  have h8 := (hu 8).symm.trans hA.t8
  have h9 := (hu 9).symm.trans hA.t9
  have h12 := (hu 12).symm.trans hA.t12
  have h13 := (hu 13).symm.trans hA.t13
  have h14 := (hu 14).symm.trans hA.t14
  have h24 := (hu 24).symm.trans hA.t24
  rw [hac]
  clear hac hA
  rw [h0, h1, h8, h9, h12, h13, h14, h24]
  clear h0 h1 h8 h9 h12 h13 h14 h24 hu
  conv => arg 2; whnf
  clear ho hb hv hx hc hl hn ha
  go_upto_block 3 with fail
  rename_i hKq
  refine wp_block ?_
  refine Kx.use (line_any (iV := iV) (uV := uV) (aV := aV) (lv := lv) (w := w) (w1 := w1) (ls := ls) (c := c) _ ⟨rfl, rfl, rfl, rfl, rfl, rfl, rfl, rfl, rfl, rfl⟩ HV.out HK.out.1 HX.out HC.out.1 HO.out.1 HO.out.2 HC.out.2) ?_ ?_ ?_
  · intro a2 w2 h
    refine hKq _ _ ?_
    exact post2_any a2 h (by have := HK.out; omega)
  · intro a2 w2 h; exact h.elim
  · intro i a2 w2 h; exact h.elim

set_option maxRecDepth 100000 in
set_option maxHeartbeats 40000000 in
/-- One round, no line is left. -/
theorem round2E_any (ac : Act) (hN : Mx q s iV uV aV c w1 all.length ls ac wx) (hv : OwL w1 w.heap.size aV all) :
    Code.wp Try.prog (eloop 1) (Kx (fun _ _ => False) (fun _ _ => False) (fun i ac' w' => i = 2 ∧ Mx q s iV uV aV c w1 all.length ls ac' w')) ac wx := by
  obtain ⟨lv, hA, ho, hb⟩ := hN
  have HO := Bx.mk (And.intro ho hb)
  have hlen := fun ty W => hv.run_len ty W
  obtain ⟨n, hn⟩ : ∃ n, all.length = n := ⟨_, rfl⟩
  rw [hn] at hlen hA ⊢
  obtain ⟨u, hu, hac⟩ := eframe ac hA.z hA.d
  have h0 := (hu 0).symm.trans hA.t0
  have h1 := (hu 1).symm.trans hA.t1
  have h8 := (hu 8).symm.trans hA.t8
  have h9 := (hu 9).symm.trans hA.t9
  have h12 := (hu 12).symm.trans hA.t12
  have h13 := (hu 13).symm.trans hA.t13
  have h14 := (hu 14).symm.trans hA.t14
  have h24 := (hu 24).symm.trans hA.t24
  rw [hac]
  clear hac hA
  rw [h0, h1, h8, h9, h12, h13, h14, h24]
  clear h0 h1 h8 h9 h12 h13 h14 h24 hu
  conv => arg 2; whnf
  clear ho hb hv hn
  go_wp2_with fail
  exact Kx.exit ⟨rfl, _, ⟨rfl, rfl, rfl, rfl, rfl, rfl, rfl, rfl, rfl, rfl⟩, HO.out⟩
end

/-! ### a section that is kept -/
theorem infoS : ∃ i z, Try.prog.info? 102 = some i ∧ i.zero = some z ∧ z.cells.size = 3 ∧ i.size = 3 ∧ i.bytes = 40 := by
  have h : (Try.prog.info? 102).map (fun i => (i.zero.map (fun z => z.cells.size), i.size, i.bytes)) = some (some 3, 3, 40) := by kernel_rfl
  cases hi : Try.prog.info? 102 with
  | none => rw [hi] at h; simp at h
  | some i =>
    rw [hi] at h
    simp only [Option.map_some, Option.some.injEq, Prod.mk.injEq] at h
    cases hz : i.zero with
    | none => rw [hz] at h; simp at h
    | some z =>
      rw [hz] at h
      simp only [Option.map_some, Option.some.injEq] at h
      exact ⟨i, z, rfl, hz, h.1, h.2.1, h.2.2⟩
theorem elemS : Try.prog.underlying 82 = some (.slice (Try.prog.elem 82)) := by kernel_rfl
theorem sizeS (W : World) : (sizeOf (Try.prog.elem 82)).run Try.prog W = .ok 3 W := by kernel_rfl
theorem scl_one (ps : List (Qs × Value)) : ∀ u ∈ ps.flatMap scl, (∀ p ∈ ps, p.2.oneCell' = true) → u.oneCell' = true := fun u hu h => by
  obtain ⟨p, hp, hu⟩ := List.mem_flatMap.1 hu
  simp only [scl, List.mem_cons, List.not_mem_nil, or_false] at hu
  rcases hu with rfl | rfl | rfl
  · rfl
  · rfl
  · exact h p hp
/-- v[:n:n], and an append to it. -/
theorem Sr.push {w : World} {vO : Value} {ps : List (Qs × Value)} (h : Sr w vO ps) :
    ∃ A, (∀ W : World, (Instr.slice 82 vO none (some (.int .i64 (ps.length : Int))) (some (.int .i64 (ps.length : Int)))).run Try.prog W = .ok (.slice A ps.length ps.length) W) ∧
      ∀ (W : World) (g : Nat) (ty : TypeId) (S C : Int) (uV : Value), Sr W vO ps → ps.length ≤ 100000 → uV.oneCell' = true → W.cell? ⟨g, 0, none⟩ = some (.int .u64 S) → W.cell? ⟨g, 1, none⟩ = some (.int .u64 C) → W.cell? ⟨g, 2, none⟩ = some uV →
        ∃ v' w', (Builtin.append_ #[82, 82] ty #[.slice A ps.length ps.length, .slice (some ⟨g, 0, none⟩) 1 1]).run Try.prog W = .ok v' w' ∧
          w'.ownsRow W.heap.size 102 3 v' (ps.length + 1) (ps.flatMap scl ++ [.int .u64 S, .int .u64 C, uV]) ∧ Below W.heap.size W w' := by
  obtain ⟨⟨A, c, rfl, h1, h2, h3, h4⟩, _⟩ := h
  have hm : ps.length ≤ maxLen := Nat.le_trans h1 h2
  have h63 : ps.length ≤ 9223372036854775807 := by simp only [maxLen] at hm; omega
  have hs : sliced A 0 ps.length ps.length 3 = .slice A ps.length ps.length := by
    have hA : (if ps.length = 0 then A else A.map (·.add (0 * 3))) = A := by
      split
      · rfl
      · cases A with
        | none => rfl
        | some x => simp [Addr.add]
    unfold sliced
    rw [hA]
    rfl
  refine ⟨A, fun W => ?_, ?_⟩
  · rw [run_slice_hm W 82 A ps.length c elemS .i64 .i64 (ps.length : Int) (ps.length : Int) (by omega) (by omega) (by omega), sizeS]
    simp only [Result.andThen, Int.toNat_natCast, hs]
  · intro W g ty S C uV hW hl h1c k0 k1 k2
    obtain ⟨⟨A', c', e, _, _, r3, r4⟩, r5⟩ := hW
    injection e with e1 e2 e3
    subst e1; subst e3
    obtain ⟨i, z, i1, i2, i3, i4, i5⟩ := infoS
    have hnews : ∀ (j : Nat) (u : Value), [Value.int .u64 S, .int .u64 C, uV][j]? = some u → W.cell? ((⟨g, 0, none⟩ : Addr).add j) = some u := fun j u hu => by
      rw [Addr.add_lit, Nat.zero_add]
      match j, hu with
      | 0, hu => simp only [List.getElem?_cons_zero, Option.some.injEq] at hu; rw [← hu]; exact k0
      | 1, hu => simp only [List.getElem?_cons_succ, List.getElem?_cons_zero, Option.some.injEq] at hu; rw [← hu]; exact k1
      | 2, hu => simp only [List.getElem?_cons_succ, List.getElem?_cons_zero, Option.some.injEq] at hu; rw [← hu]; exact k2
      | j + 3, hu => simp at hu
    have hone : ∀ u ∈ [Value.int .u64 S, .int .u64 C, uV], u.oneCell' = true := fun u hu => by
      simp only [List.mem_cons, List.not_mem_nil, or_false] at hu
      rcases hu with rfl | rfl | rfl
      · rfl
      · rfl
      · exact h1c
    rcases r4 with ⟨rfl, rfl⟩ | ⟨x, rfl, hx⟩
    · have hn0 : ps.length = 0 := by omega
      obtain rfl : ps = [] := List.eq_nil_of_length_eq_zero hn0
      obtain ⟨v', w', hrun, q1, q2, _⟩ := run_append_own (P := Try.prog) W W.heap.size 82 ty 102 i z 3 40 Try.underlying82 i1 i2 i4 i5 i3 (by omega) (.slice none 0 0) 0 [] (World.ownsRow_nil W _ _ _) ⟨g, 0, none⟩ 1 1 _ rfl hnews hone (by unfold maxLen; omega) (by omega) (Nat.le_refl _)
      exact ⟨v', w', hrun, q1, (Below.refl _ _).grown q2 (Nat.le_refl _) (by simp [Value.ownBlock])⟩
    · obtain ⟨v', w', hrun, q1, q2⟩ := run_append_arg_grows (P := Try.prog) W 82 ty 102 i z 3 40 Try.underlying82 i1 i2 i4 i5 i3 (by omega) x ps.length ps.length (ps.flatMap scl) r3 hx ⟨g, 0, none⟩ 1 1 _ rfl hnews (by omega) (by simp only [maxLen] at hm ⊢; omega) (by omega)
      exact ⟨v', w', hrun, q1, (Below.refl _ _).grown q2 (Nat.le_refl _) (by simp)⟩

theorem e8F_3 (t : Nat) (E : Qe) (vO vR v' : Value) (op : List Qs) : ∀ j, j < 7 → (if j = 3 then v' else e8F t E vO vR j) = e8F t ⟨E.T, E.B, E.K, op, E.rest, E.err, E.said⟩ v' vR j := fun j hj => by
  unfold e8F
  match j, hj with
  | 0, _ => rfl
  | 1, _ => rfl
  | 2, _ => rfl
  | 3, _ => rfl
  | 4, _ => rfl
  | 5, _ => rfl
  | 6, _ => rfl
theorem scl_snoc (ps : List (Qs × Value)) (x : Qs) (uV : Value) : (ps ++ [(x, uV)]).flatMap scl = ps.flatMap scl ++ [.int .u64 (x.s : Int), .int .u64 (x.c : Int), uV] := by simp [scl]
/-- A section more. -/
theorem close_push {q t B : Nat} {E : Qe} {wx w6 : World} {vO vR uV v' : Value} {ps : List (Qs × Value)} {S1 S2 e : Nat → Prop} {x : Qs}
    (he : ∀ k, e k ↔ S1 k ∨ S2 k ∨ k = q) (g0 : ps.map Prod.fst = E.op) (g1 : wx.rowIs q 84 7 (e8F t E vO vR)) (g2 : Rt t E.T wx S1) (g3 : Ob (fun W => Sr W vO ps ∧ Bs W vR E.rest) wx S2) (g4 : ∀ k, S1 k → ¬ S2 k) (g5 : ¬ S1 q) (g6 : ¬ S2 q)
    (h3 : NoT B wx e) (h6 : OwU wx B uV x.u) (hB : B ≤ wx.heap.size) (hb : Below wx.heap.size wx w6) (hr : w6.ownsRow wx.heap.size 102 3 v' (ps.length + 1) ((ps ++ [(x, uV)]).flatMap scl)) :
    ∃ e', E8 q t ⟨E.T, E.B, E.K, E.op ++ [x], E.rest, E.err, E.said⟩ (w6.setCell ⟨q, 3, none⟩ v') e' ∧ (∀ k, e' k → e k ∨ B ≤ k) ∧ Fp e wx (w6.setCell ⟨q, 3, none⟩ v') ∧
      ∀ v l, OwB (w6.setCell ⟨q, 3, none⟩ v') B v l → ∀ k, v.ownBlock = some k → ¬ e' k := by
  have hq := g1.lt
  have heq : e q := (he q).2 (.inr (.inr rfl))
  have hlt1 := (Wd.rt t E.T).lt g2
  have hlt2 := (Wd.ob _).lt g3
  have hU := h3.not h6 (.inr (.inl rfl))
  have h6' : OwU w6 B uV x.u := ownN_keep h6 hb
  have hf : Fp (fun k => k = q) w6 (w6.setCell ⟨q, 3, none⟩ v') := Fp.set _ _ _ _ rfl
  have hrow := ((g1.of_block (hb.block q hq)).set 3 v').congr (e8F_3 t E vO vR v' (E.op ++ [x]))
  have hv1 : ∀ k, v'.ownBlock = some k → wx.heap.size ≤ k ∧ k < w6.heap.size := hr.lt
  have hu1 : ∀ k, uV.ownBlock = some k → B ≤ k ∧ k < wx.heap.size := h6.lt
  have hr7 : (w6.setCell ⟨q, 3, none⟩ v').ownsRow wx.heap.size 102 3 v' (ps.length + 1) ((ps ++ [(x, uV)]).flatMap scl) := own_kept hr fun g hg => hf.block g (hv1 g hg).2 (by have := (hv1 g hg).1; omega)
  have hu7 : OwU (w6.setCell ⟨q, 3, none⟩ v') B uV x.u := own_kept h6' fun g hg => hf.block g (Nat.lt_of_lt_of_le (hu1 g hg).2 hb.size) (fun e => hU g hg (e ▸ heq))
  have g2' : Rt t E.T (w6.setCell ⟨q, 3, none⟩ v') S1 := (Wd.rt t E.T).besides ((Wd.rt t E.T).keep g2 hb) hf fun k hk e => g5 (e ▸ hk)
  have g3' := (Wd.ob _).besides ((Wd.ob _).keep g3 hb) hf fun k hk e => g6 (e ▸ hk)
  have hob := (g3'.and (Ob.own hr7)).and (Ob.own (by unfold OwU at hu7; exact hu7))
  have hob2 : Ob (fun W => Sr W v' (ps ++ [(x, uV)]) ∧ Bs W vR E.rest) (w6.setCell ⟨q, 3, none⟩ v') (fun k => (S2 k ∨ v'.ownBlock = some k) ∨ uV.ownBlock = some k) := hob.map fun W hW => by
    obtain ⟨⟨⟨a1, a2⟩, a3⟩, a4⟩ := hW
    refine ⟨⟨by simpa using a3, fun p hp => ?_⟩, a2⟩
    rcases List.mem_append.1 hp with hp | hp
    · exact a1.2 p hp
    · rw [List.mem_singleton.1 hp]
      exact Rd.of_rn (by rw [List.length_map]; exact a4)
  have hE := E8.shut_ (E := ⟨E.T, E.B, E.K, E.op ++ [x], E.rest, E.err, E.said⟩) (by rw [List.map_append, g0]; rfl) hrow g2' hob2 (fun k hk hs => by
    rcases hs with (hs | hs) | hs
    · exact g4 k hk hs
    · have := (hv1 k hs).1; have := hlt1 k hk; omega
    · exact hU k hs ((he k).2 (.inl hk))) g5 (fun hs => by
    rcases hs with (hs | hs) | hs
    · exact g6 hs
    · have := (hv1 q hs).1; omega
    · exact hU q hs heq)
  refine ⟨_, hE, fun k hk => ?_, (Fp.of_below hb).then (hf.mono fun k hk => hk ▸ heq), fun v l ho k hk hs => ?_⟩
  · rcases hk with hk | ((hk | hk) | hk) | hk
    · exact .inl ((he k).2 (.inl hk))
    · exact .inl ((he k).2 (.inr (.inl hk)))
    · exact .inr (Nat.le_trans hB (hv1 k hk).1)
    · exact .inr (hu1 k hk).1
    · exact .inl ((he k).2 (.inr (.inr hk)))
  · obtain ⟨c, hc⟩ := own_blk ho hk
    have hBk := ho.ge hk
    have hne : ∀ j, e j → B ≤ j → j ≠ k := fun j hj hjB e1 => by
      subst e1
      obtain ⟨o, h1, h2⟩ := h3 j hj hjB
      have hjl := (Array.getElem?_eq_some_iff.1 h1).1
      by_cases hjq : j = q
      · subst hjq
        obtain ⟨c2, hc2, _⟩ := hrow
        rw [hc] at hc2
        injection hc2 with hc2
        injection hc2 with _ e2 _
        exact absurd e2 (by decide)
      · rw [hf.block j (Nat.lt_of_lt_of_le hjl hb.size) hjq, hb.block j hjl, h1] at hc
        injection hc with hc
        exact (h2 _ _).1 hc
    rcases hs with hs | ((hs | hs) | hs) | hs
    · exact hne k ((he k).2 (.inl hs)) hBk rfl
    · exact hne k ((he k).2 (.inr (.inl hs))) hBk rfl
    · obtain ⟨c2, hc2⟩ := own_blk hr7 hs
      rw [hc] at hc2
      injection hc2 with hc2
      injection hc2 with _ e2 _
      exact absurd e2 (by decide)
    · obtain ⟨c2, hc2⟩ := own_blk hu7 hs
      rw [hc] at hc2
      injection hc2 with hc2
      injection hc2 with _ e2 _
      exact absurd e2 (by decide)
    · exact hne k ((he k).2 (.inr (.inr hs))) hBk rfl
end Go.Proofs.Yteopmaaghhendaa

/-
  The document's Encode of QPACK, in pieces: its end.
-/
namespace Go.Proofs.Yteopmaaghhendaa
open Go.RowKit Go.Maps
set_option linter.unusedVariables false
set_option linter.unusedSimpArgs false

theorem own_mono {w : World} {B B' k n : Nat} {ty : TypeId} {v : Value} {xs : List Value} (h : w.ownsRow B ty k v n xs) (hB : B' ≤ B) : w.ownsRow B' ty k v n xs := by
  refine ⟨h.1, h.2.imp id ?_⟩
  rintro ⟨g, cap, cur, a, b, c⟩
  exact ⟨g, cap, cur, a, by omega, c⟩
section
variable {q t s : Nat} {E : Qe} {S : Nat → Prop} {w wx : World} {k c : Nat} {iV uV aV lv : Value} {all : List Ql} {ins ls : List UInt8} {us : List Nat} {fx : List (Nat × Array Value)}
/-- What Encode comes to. -/
def EFin (q t s : Nat) (E : Qe) (S : Nat → Prop) (w : World) (c : Nat) (us : List Nat) (ins ls : List UInt8) (iV lv : Value) (w' : World) : Prop :=
  ∃ e', E8 q t ⟨E.T, E.B, E.K, if 0 < c then E.op ++ [⟨s, c, us⟩] else E.op, E.rest, E.err, E.said⟩ w' e' ∧ (∀ k, e' k → S k ∨ w.heap.size ≤ k) ∧ Fp S w w' ∧ OwB w' w.heap.size iV ins ∧ OwB w' w.heap.size lv ls ∧
    (∀ k, iV.ownBlock = some k → ¬ e' k) ∧ ∀ k, lv.ownBlock = some k → ¬ e' k
def ERet (q t s : Nat) (E : Qe) (S : Nat → Prop) (w : World) (c : Nat) (us : List Nat) (ins ls : List UInt8) (ac : Act) (w' : World) : Prop :=
  ac.defers = [] ∧ EFin q t s E S w c us ins ls (ac.tmps.getD 6 undef) (ac.tmps.getD 7 undef) w'

set_option maxRecDepth 100000 in
set_option maxHeartbeats 40000000 in
theorem tail_any8 (ac : Act) (hA : At3 ac q s iV lv uV aV c k) (hQ : QS q t E S w fx iV ins uV us aV all wx) (ho : OwB wx w.heap.size lv ls) (hop : E.op.length ≤ 100000) :
    Code.wp Try.prog (estmt 54) (Kx (fun _ _ => False) (ERet q t s E S w c us ins ls) (fun _ _ _ => False)) ac wx := by
  obtain ⟨u, hu, hac⟩ := eframe ac hA.z hA.d
  have h0 := (hu 0).symm.trans hA.t0
  have h1 := (hu 1).symm.trans hA.t1
  have h8 := (hu 8).symm.trans hA.t8
  have h9 := (hu 9).symm.trans hA.t9
  have h12 := (hu 12).symm.trans hA.t12
  have h13 := (hu 13).symm.trans hA.t13
  have h14 := (hu 14).symm.trans hA.t14
  have h24 := (hu 24).symm.trans hA.t24
  rw [hac]
  clear hac hA
  rw [h0, h1, h8, h9, h12, h13, h14, h24]
  clear h0 h1 h8 h9 h12 h13 h14 h24 hu
  conv => arg 2; whnf
  obtain ⟨C, hC⟩ := letter c
  rw [hC]
  by_cases hc : c = 0
  · have hd : decide (0 < C) = false := by rw [decide_eq_false_iff_not]; omega
    have HF : Bx (EFin q t s E S w c us ins ls iV lv wx) := ⟨by
      obtain ⟨e, h1, h2, h3, h4, h5, h6, h7, h8⟩ := hQ
      refine ⟨e, by rw [if_neg (by omega)]; exact h1, h2, h4, h5, ho, h3.not h5 (.inl rfl), h3.not (show wx.ownsRow w.heap.size 5 1 lv _ _ from ho) (.inl rfl)⟩⟩
    clear hQ ho hC hc
    go_wp2_with fail
    exact Kx.ret ⟨rfl, HF.out⟩
  · have hd : decide (0 < C) = true := by rw [decide_eq_true_iff]; omega
    have hBs := hQ.size
    obtain ⟨UA, un, uc, rfl⟩ := hQ.uses.un.shape
    obtain ⟨e, h1, h2, h3, h4, h5, h6, h7, h8⟩ := hQ
    obtain ⟨vO, vR, ps, S1, S2, g0, g1, g2, g3, g4, g5, g6, g7⟩ := h1.open_
    obtain ⟨hsr, _⟩ := Ob.get g3
    have hlen := fun ty W => hsr.run_len ty W
    obtain ⟨A, hslice, hpush⟩ := hsr.push
    have hpl : ps.length ≤ 100000 := by rw [← g0] at hop; simpa using hop
    have c3 : wx.cell? ⟨q, 3, none⟩ = some vO := g1.cell (i := 3) (by omega)
    have hq := g1.lt
    obtain ⟨w5, hw5⟩ : ∃ w5, wx.drew.alloc (.cells #[.int .u64 (s : Int), .int .u64 C, (Value.slice UA un uc)] 102) = w5 := ⟨_, rfl⟩
    obtain ⟨G, hG⟩ : ∃ G, wx.heap.size = G := ⟨_, rfl⟩
    have hblk : w5.heap[G]? = some (.cells #[.int .u64 (s : Int), .int .u64 C, (Value.slice UA un uc)] 102 (0, 0)) := by rw [← hw5, ← hG]; exact heap_alloc_last wx.drew _
    have hb5 : Below wx.heap.size wx w5 := by rw [← hw5]; exact (Below.refl _ _).drew.alloc (Nat.le_refl _) _
    have hg5 : w5.heap.size = wx.heap.size + 1 := by rw [← hw5]; simp
    have huv : (Value.slice UA un uc).oneCell' = true := rfl
    obtain ⟨v', w6, hrun, hrow, hb6⟩ := hpush w5 G 82 (s : Int) C (Value.slice UA un uc) (hsr.keep hb5) hpl huv (by simp [World.cell?, hblk]) (by simp [World.cell?, hblk]) (by simp [World.cell?, hblk])
    have hbx6 : Below wx.heap.size wx w6 := hb5.trans (hb6.mono (by omega))
    have d0 : wx.drew.cell? ⟨q, 3, none⟩ = some vO := c3
    have d1 : w5.cell? ⟨q, 3, none⟩ = some vO := (hb5.cell hq).trans c3
    have d6 : w6.cell? ⟨q, 3, none⟩ = some vO := (hbx6.cell hq).trans c3
    have df : w6.frozen? ⟨q, 3, none⟩ = false := by
      have := (g1.of_block (hbx6.block q hq)).frozen 3
      exact this
    have hvs : ∃ A2 n2 c2, v' = .slice A2 n2 c2 := by
      obtain ⟨A2, c2, e2, _⟩ := Rn.of_own hrow
      exact ⟨_, _, _, e2⟩
    have HF : Bx (EFin q t s E S w c us ins ls iV lv (w6.setCell ⟨q, 3, none⟩ v')) := ⟨by
      have hrow2 : w6.ownsRow wx.heap.size 102 3 v' (ps.length + 1) ((ps ++ [((⟨s, c, us⟩ : Qs), (Value.slice UA un uc))]).flatMap scl) := by
        rw [scl_snoc, hC]
        exact own_mono hrow (by have := hb5.size; omega)
      obtain ⟨e', a1, a2, a3, a4⟩ := close_push (x := ⟨s, c, us⟩) g7 g0 g1 g2 g3 g4 g5 g6 h3 h6 hBs hbx6 hrow2
      have hne : ∀ v l, OwB wx w.heap.size v l → OwB (w6.setCell ⟨q, 3, none⟩ v') w.heap.size v l := fun v l hv => hv.kept fun k hk => a3.block k (hv.lt hk) (h3.not (show wx.ownsRow w.heap.size 5 1 v _ _ from hv) (.inl rfl) k hk)
      exact ⟨e', by rw [if_pos (by omega)]; exact a1, fun k hk => (a2 k hk).elim (h2 k) .inr, h4.trans a3 h2, hne _ _ h5, hne _ _ ho, a4 _ _ (hne _ _ h5), a4 _ _ (hne _ _ ho)⟩⟩
    obtain ⟨A2, n2, c2, rfl⟩ := hvs
    obtain ⟨n, hn⟩ : ∃ n, ps.length = n := ⟨_, rfl⟩
    rw [hn] at hlen hslice hrun
    clear h1 h2 h3 h4 h5 h6 h7 h8 g0 g1 g2 g3 g4 g5 g6 g7 hsr hpush hpl c3 hBs huv hrow hb6 hbx6 hb5 hblk hn hc hC ho hop hg5
    subst hw5
    subst hG
    go_wp2_with fail
    -- REGION
    refine wp_region_x 24 (fun W => W.cell? ⟨q, 3, none⟩ = some vO) (by kernel_rfl) (d0) (fun hHeld => ?_)
    refine wpAnyX_take0 (i := 0) (oi := ⟨some 262, Op.move (Operand.tmp 0), 44, _, _, none⟩) (v := ?v0) rfl (by omega) (by kernel_rfl) (by kernel_rfl) (by kernel_rfl) (fun _ _ _ h => h) (Or.inl ⟨by rfl, ?y0⟩) (by assumption) ?r0
    case y0 =>
      intro W hSw
      try dsimp only at hSw
      go_simp
      try with_reducible rfl
    case r0 =>
    try simp only [Act.put, List.setIfInBounds_toArray, List.set_cons_zero, List.set_cons_succ]
    refine wpAnyX_take0 (i := 1) (oi := ⟨some 263, Op.move (Operand.tmp 0), 44, _, _, none⟩) (v := ?v1) rfl (by omega) (by kernel_rfl) (by kernel_rfl) (by kernel_rfl) (fun _ _ _ h => h) (Or.inl ⟨by rfl, ?y1⟩) (by assumption) ?r1
    case y1 =>
      intro W hSw
      try dsimp only at hSw
      go_simp
      try with_reducible rfl
    case r1 =>
    try simp only [Act.put, List.setIfInBounds_toArray, List.set_cons_zero, List.set_cons_succ]
    refine wpAnyX_take0 (i := 2) (oi := ⟨some 264, Op.nilCheck (Operand.tmp 263), 0, _, _, none⟩) (v := ?v2) rfl (by omega) (by kernel_rfl) (by kernel_rfl) (by kernel_rfl) (fun _ _ _ h => h) (Or.inl ⟨by rfl, ?y2⟩) (by assumption) ?r2
    case y2 =>
      intro W hSw
      try dsimp only at hSw
      go_simp
      try with_reducible rfl
    case r2 =>
    try simp only [Act.put, List.setIfInBounds_toArray, List.set_cons_zero, List.set_cons_succ]
    refine wpAnyX_take0 (i := 3) (oi := ⟨some 265, Op.fieldAddr 84 (Operand.tmp 264) 3, 0, _, _, none⟩) (v := ?v3) rfl (by omega) (by kernel_rfl) (by kernel_rfl) (by kernel_rfl) (fun _ _ _ h => h) (Or.inl ⟨by rfl, ?y3⟩) (by assumption) ?r3
    case y3 =>
      intro W hSw
      try dsimp only at hSw
      go_simp
      try with_reducible rfl
    case r3 =>
    try simp only [Act.put, List.setIfInBounds_toArray, List.set_cons_zero, List.set_cons_succ]
    refine wpAnyX_take (i := 4) (oi := ⟨some 266, Op.load 82 (Operand.tmp 265), 82, _, _, none⟩) (v := ?v4) rfl (by omega) (by kernel_rfl) (by kernel_rfl) (by kernel_rfl) (by kernel_rfl) (by kernel_rfl) (fun _ _ _ h => h) (Or.inl ⟨by rfl, ?y4⟩) (by assumption) ?r4
    case y4 =>
      intro W hSw
      try dsimp only at hSw
      go_simp
      try with_reducible rfl
    case r4 =>
    try simp only [Act.put, List.setIfInBounds_toArray, List.set_cons_zero, List.set_cons_succ]
    refine wpAnyX_take0 (i := 5) (oi := ⟨some 267, Op.move (Operand.tmp 0), 44, _, _, none⟩) (v := ?v5) rfl (by omega) (by kernel_rfl) (by kernel_rfl) (by kernel_rfl) (fun _ _ _ h => h) (Or.inl ⟨by rfl, ?y5⟩) (by assumption) ?r5
    case y5 =>
      intro W hSw
      try dsimp only at hSw
      go_simp
      try with_reducible rfl
    case r5 =>
    try simp only [Act.put, List.setIfInBounds_toArray, List.set_cons_zero, List.set_cons_succ]
    refine wpAnyX_take0 (i := 6) (oi := ⟨some 268, Op.nilCheck (Operand.tmp 267), 0, _, _, none⟩) (v := ?v6) rfl (by omega) (by kernel_rfl) (by kernel_rfl) (by kernel_rfl) (fun _ _ _ h => h) (Or.inl ⟨by rfl, ?y6⟩) (by assumption) ?r6
    case y6 =>
      intro W hSw
      try dsimp only at hSw
      go_simp
      try with_reducible rfl
    case r6 =>
    try simp only [Act.put, List.setIfInBounds_toArray, List.set_cons_zero, List.set_cons_succ]
    refine wpAnyX_take0 (i := 7) (oi := ⟨some 269, Op.fieldAddr 84 (Operand.tmp 268) 3, 0, _, _, none⟩) (v := ?v7) rfl (by omega) (by kernel_rfl) (by kernel_rfl) (by kernel_rfl) (fun _ _ _ h => h) (Or.inl ⟨by rfl, ?y7⟩) (by assumption) ?r7
    case y7 =>
      intro W hSw
      try dsimp only at hSw
      go_simp
      try with_reducible rfl
    case r7 =>
    try simp only [Act.put, List.setIfInBounds_toArray, List.set_cons_zero, List.set_cons_succ]
    refine wpAnyX_take (i := 8) (oi := ⟨some 270, Op.load 82 (Operand.tmp 269), 82, _, _, none⟩) (v := ?v8) rfl (by omega) (by kernel_rfl) (by kernel_rfl) (by kernel_rfl) (by kernel_rfl) (by kernel_rfl) (fun _ _ _ h => h) (Or.inl ⟨by rfl, ?y8⟩) (by assumption) ?r8
    case y8 =>
      intro W hSw
      try dsimp only at hSw
      go_simp
      try with_reducible rfl
    case r8 =>
    try simp only [Act.put, List.setIfInBounds_toArray, List.set_cons_zero, List.set_cons_succ]
    refine wpAnyX_take (i := 9) (oi := ⟨some 271, Op.call { callee := Callee.builtin Builtin.len, args := #[Operand.tmp 270], argTypes := #[82] }, 3, _, _, none⟩) (v := ?v9) rfl (by omega) (by kernel_rfl) (by kernel_rfl) (by kernel_rfl) (by kernel_rfl) (by kernel_rfl) (fun _ _ _ h => h) (Or.inl ⟨by rfl, ?y9⟩) (by assumption) ?r9
    case y9 =>
      intro W hSw
      try dsimp only at hSw
      go_simp
      try with_reducible rfl
    case r9 =>
    try simp only [Act.put, List.setIfInBounds_toArray, List.set_cons_zero, List.set_cons_succ]
    refine wpAnyX_take0 (i := 10) (oi := ⟨some 272, Op.move (Operand.tmp 0), 44, _, _, none⟩) (v := ?v10) rfl (by omega) (by kernel_rfl) (by kernel_rfl) (by kernel_rfl) (fun _ _ _ h => h) (Or.inl ⟨by rfl, ?y10⟩) (by assumption) ?r10
    case y10 =>
      intro W hSw
      try dsimp only at hSw
      go_simp
      try with_reducible rfl
    case r10 =>
    try simp only [Act.put, List.setIfInBounds_toArray, List.set_cons_zero, List.set_cons_succ]
    refine wpAnyX_take0 (i := 11) (oi := ⟨some 273, Op.nilCheck (Operand.tmp 272), 0, _, _, none⟩) (v := ?v11) rfl (by omega) (by kernel_rfl) (by kernel_rfl) (by kernel_rfl) (fun _ _ _ h => h) (Or.inl ⟨by rfl, ?y11⟩) (by assumption) ?r11
    case y11 =>
      intro W hSw
      try dsimp only at hSw
      go_simp
      try with_reducible rfl
    case r11 =>
    try simp only [Act.put, List.setIfInBounds_toArray, List.set_cons_zero, List.set_cons_succ]
    refine wpAnyX_take0 (i := 12) (oi := ⟨some 274, Op.fieldAddr 84 (Operand.tmp 273) 3, 0, _, _, none⟩) (v := ?v12) rfl (by omega) (by kernel_rfl) (by kernel_rfl) (by kernel_rfl) (fun _ _ _ h => h) (Or.inl ⟨by rfl, ?y12⟩) (by assumption) ?r12
    case y12 =>
      intro W hSw
      try dsimp only at hSw
      go_simp
      try with_reducible rfl
    case r12 =>
    try simp only [Act.put, List.setIfInBounds_toArray, List.set_cons_zero, List.set_cons_succ]
    refine wpAnyX_take (i := 13) (oi := ⟨some 275, Op.load 82 (Operand.tmp 274), 82, _, _, none⟩) (v := ?v13) rfl (by omega) (by kernel_rfl) (by kernel_rfl) (by kernel_rfl) (by kernel_rfl) (by kernel_rfl) (fun _ _ _ h => h) (Or.inl ⟨by rfl, ?y13⟩) (by assumption) ?r13
    case y13 =>
      intro W hSw
      try dsimp only at hSw
      go_simp
      try with_reducible rfl
    case r13 =>
    try simp only [Act.put, List.setIfInBounds_toArray, List.set_cons_zero, List.set_cons_succ]
    refine wpAnyX_take (i := 14) (oi := ⟨some 276, Op.call { callee := Callee.builtin Builtin.len, args := #[Operand.tmp 275], argTypes := #[82] }, 3, _, _, none⟩) (v := ?v14) rfl (by omega) (by kernel_rfl) (by kernel_rfl) (by kernel_rfl) (by kernel_rfl) (by kernel_rfl) (fun _ _ _ h => h) (Or.inl ⟨by rfl, ?y14⟩) (by assumption) ?r14
    case y14 =>
      intro W hSw
      try dsimp only at hSw
      go_simp
      try with_reducible rfl
    case r14 =>
    try simp only [Act.put, List.setIfInBounds_toArray, List.set_cons_zero, List.set_cons_succ]
    refine wpAnyX_take0 (i := 15) (oi := ⟨some 277, Op.slice 82 (Operand.tmp 266) none (some (Operand.tmp 271)) (some (Operand.tmp 276)), 82, _, _, none⟩) (v := ?v15) rfl (by omega) (by kernel_rfl) (by kernel_rfl) (by kernel_rfl) (fun _ _ _ h => h) (Or.inl ⟨by rfl, ?y15⟩) (by assumption) ?r15
    case y15 =>
      intro W hSw
      try dsimp only at hSw
      go_simp
      try with_reducible rfl
    case r15 =>
    try simp only [Act.put, List.setIfInBounds_toArray, List.set_cons_zero, List.set_cons_succ]
    refine wpAnyX_take0 (i := 16) (oi := ⟨some 278, Op.move (Operand.tmp 1), 27, _, _, none⟩) (v := ?v16) rfl (by omega) (by kernel_rfl) (by kernel_rfl) (by kernel_rfl) (fun _ _ _ h => h) (Or.inl ⟨by rfl, ?y16⟩) (by assumption) ?r16
    case y16 =>
      intro W hSw
      try dsimp only at hSw
      go_simp
      try with_reducible rfl
    case r16 =>
    try simp only [Act.put, List.setIfInBounds_toArray, List.set_cons_zero, List.set_cons_succ]
    refine wpAnyX_take0 (i := 17) (oi := ⟨some 279, Op.move (Operand.tmp 13), 27, _, _, none⟩) (v := ?v17) rfl (by omega) (by kernel_rfl) (by kernel_rfl) (by kernel_rfl) (fun _ _ _ h => h) (Or.inl ⟨by rfl, ?y17⟩) (by assumption) ?r17
    case y17 =>
      intro W hSw
      try dsimp only at hSw
      go_simp
      try with_reducible rfl
    case r17 =>
    try simp only [Act.put, List.setIfInBounds_toArray, List.set_cons_zero, List.set_cons_succ]
    refine wpAnyX_take0 (i := 18) (oi := ⟨some 280, Op.move (Operand.tmp 12), 89, _, _, none⟩) (v := ?v18) rfl (by omega) (by kernel_rfl) (by kernel_rfl) (by kernel_rfl) (fun _ _ _ h => h) (Or.inl ⟨by rfl, ?y18⟩) (by assumption) ?r18
    case y18 =>
      intro W hSw
      try dsimp only at hSw
      go_simp
      try with_reducible rfl
    case r18 =>
    try simp only [Act.put, List.setIfInBounds_toArray, List.set_cons_zero, List.set_cons_succ]
    refine wpAnyX_take0 (i := 19) (oi := ⟨some 281, Op.build 102 #[(0, Operand.tmp 278), (1, Operand.tmp 279), (2, Operand.tmp 280)], 102, _, _, none⟩) (v := ?v19) rfl (by omega) (by kernel_rfl) (by kernel_rfl) (by kernel_rfl) (fun _ _ _ h => h) (Or.inl ⟨by rfl, ?y19⟩) (by assumption) ?r19
    case y19 =>
      intro W hSw
      try dsimp only at hSw
      go_simp
      try with_reducible rfl
    case r19 =>
    try simp only [Act.put, List.setIfInBounds_toArray, List.set_cons_zero, List.set_cons_succ]
    refine wpAnyX_one (i := 20) (by kernel_rfl) rfl (fun K hK => ?_)
    go_simp
    refine hK.out _ _ (fun _ => d1) ?_
    clear hK K
    try simp only [Act.put, List.setIfInBounds_toArray, List.set_cons_zero, List.set_cons_succ]
    refine wpAnyX_one (i := 21) (by kernel_rfl) rfl (fun K hK => ?_)
    refine step_append_run rfl (.tmp 277) (.tmp 282) 82 rfl (.slice A n n) _ rfl rfl hrun ?_
    refine hK.out _ _ (fun _ => d6) ?_
    clear hK K
    try simp only [Act.put, List.setIfInBounds_toArray, List.set_cons_zero, List.set_cons_succ]
    refine wpAnyX_take0 (i := 22) (oi := ⟨some 284, Op.nilCheck (Operand.tmp 262), 0, _, _, none⟩) (v := ?v22) rfl (by omega) (by kernel_rfl) (by kernel_rfl) (by kernel_rfl) (fun _ _ _ h => h) (Or.inl ⟨by rfl, ?y22⟩) (by assumption) ?r22
    case y22 =>
      intro W hSw
      try dsimp only at hSw
      go_simp
      try with_reducible rfl
    case r22 =>
    try simp only [Act.put, List.setIfInBounds_toArray, List.set_cons_zero, List.set_cons_succ]
    refine wpAnyX_take0 (i := 23) (oi := ⟨some 285, Op.fieldAddr 84 (Operand.tmp 284) 3, 0, _, _, none⟩) (v := ?v23) rfl (by omega) (by kernel_rfl) (by kernel_rfl) (by kernel_rfl) (fun _ _ _ h => h) (Or.inl ⟨by rfl, ?y23⟩) (by assumption) ?r23
    case y23 =>
      intro W hSw
      try dsimp only at hSw
      go_simp
      try with_reducible rfl
    case r23 =>
    try simp only [Act.put, List.setIfInBounds_toArray, List.set_cons_zero, List.set_cons_succ]
    refine wpAnyX_one (i := 24) (by kernel_rfl) rfl (fun K hK => ?_)
    go_simp
    refine hK.out _ _ (fun h => absurd h (by decide)) ?_
    clear hK K
    try simp only [Act.put, List.setIfInBounds_toArray, List.set_cons_zero, List.set_cons_succ]
    refine wpAnyX_done (by kernel_rfl) ?_ _
    -- END
    go_wp2_with fail
    exact Kx.ret ⟨rfl, HF.out⟩
end
end Go.Proofs.Yteopmaaghhendaa

/-
  Contract of the document's Encode of QPACK.
-/
namespace Go.Proofs.Yteopmaaghhendaa
open Go.RowKit Go.Maps
set_option linter.unusedVariables false

section
variable {q t s : Nat} {E : Qe} {S : Nat → Prop} {w : World} {lV : Value} {l : List Fd} {fb : Bool}
/-- Where the run stands behind k fields. -/
def accK (E : Qe) (fb : Bool) (l : List Fd) (k : Nat) : Qa := qrun E.op E.K fb (l.take k) ⟨E.T, capW E.said E.T.cap, [], [], 0⟩
theorem accK_next (E : Qe) (fb : Bool) (l : List Fd) (k : Nat) (hk : k < l.length) : accK E fb l (k + 1) = qstep E.op E.K fb (accK E fb l k) l[k] := qrun_take _ _ _ _ _ _ hk
theorem accK_bd (hg : E.T.gq) (hl : l.length ≤ 100) (hz : wsz l ≤ 6000) (ht : E.T.tot + l.length ≤ 800000) (k : Nat) : Bd (accK E fb l k) ∧ (accK E fb l k).ins.length ≤ 20000 ∧ (accK E fb l k).T.tot ≤ 800000 ∧ QInv E.T.cap (accK E fb l k) ∧ (accK E fb l k).all.map (·.f) = l.take k := by
  obtain ⟨h1, h2, h3, h4, h5⟩ := qrun_len E.op E.K fb (l.take k) ⟨E.T, capW E.said E.T.cap, [], [], 0⟩
  obtain ⟨i1, i2⟩ := QInv.run E.op E.K fb (l.take k) (QInv.start hg (capW E.said E.T.cap))
  have h6 := wsz_take l k
  have h7 := capW_len E.said E.T.cap
  have h8 := i1.window.1
  simp only [List.length_take, List.length_nil] at h1 h2 h3 h4
  refine ⟨⟨?_, ?_, ?_, ?_, h8⟩, ?_, ?_, i1, by unfold accK; simpa using i2⟩
  · show (qrun _ _ _ _ _).ins.length ≤ _
    omega
  · show (qrun _ _ _ _ _).all.length ≤ _
    omega
  · show (qrun _ _ _ _ _).u.length ≤ _
    omega
  · show (qrun _ _ _ _ _).T.tot ≤ _
    omega
  · show (qrun _ _ _ _ _).ins.length ≤ _
    omega
  · show (qrun _ _ _ _ _).T.tot ≤ _
    omega
theorem accK_line (hg : E.T.gq) (hl : l.length ≤ 100) (hz : wsz l ≤ 6000) (ht : E.T.tot + l.length ≤ 800000) (hf : ∀ f ∈ l, fsz f ≤ 3000) (k : Nat) (j : Nat) (hj : j < (accK E fb l k).all.length) :
    (accK E fb l k).all[j].k ≤ 3 ∧ ((accK E fb l k).all[j].k ≠ 3 → (accK E fb l k).all[j].i < 1000000) ∧ ((accK E fb l k).all[j].k = 1 → (accK E fb l k).all[j].i < (accK E fb l k).c) ∧ fsz (accK E fb l k).all[j].f ≤ 3000 := by
  obtain ⟨hB, _, h2, h3, h4⟩ := accK_bd (E := E) (fb := fb) hg hl hz ht k
  generalize accK E fb l k = a at *
  have hok := h3.ok a.all[j] (List.getElem_mem hj)
  have hm : a.all[j].f ∈ l := by
    have : a.all[j].f ∈ a.all.map (·.f) := List.mem_map.2 ⟨_, List.getElem_mem hj, rfl⟩
    rw [h4] at this
    exact List.mem_of_mem_take this
  have hc := hB.c
  have ht3 : ∀ i g, T3[i]? = some g → i < 1000000 := fun i g h => by
    have := (List.getElem?_eq_some_iff.1 h).1
    rw [t3_len] at this
    omega
  generalize a.all[j] = x at *
  rcases hok with ⟨e, h⟩ | ⟨e, _, h, _⟩ | ⟨e, g, h, _⟩ | e
  · exact ⟨by omega, fun _ => ht3 _ _ h, fun h1 => by omega, hf _ hm⟩
  · exact ⟨by omega, fun _ => by omega, fun _ => h, hf _ hm⟩
  · exact ⟨by omega, fun _ => ht3 _ _ h, fun h1 => by omega, hf _ hm⟩
  · exact ⟨by omega, fun h => absurd e h, fun h1 => by omega, hf _ hm⟩

theorem accK_secs (hg : E.T.gq) (k : Nat) : (accK E fb l k).T.cap = E.T.cap := (qrun_len E.op E.K fb (l.take k) ⟨E.T, capW E.said E.T.cap, [], [], 0⟩).2.2.2.2

set_option maxRecDepth 100000 in
set_option maxHeartbeats 40000000 in
/-- Behind the fields. -/
theorem mid3_any {wx : World} {lV : Value} {g0 k : Nat} {a : Qa} (ac : Act) (hN : Nx q t s E S w lV fb g0 k a ac wx) (hB : Bd a) (hl : ∀ j (hj : j < a.all.length), a.all[j].k ≤ 3 ∧ (a.all[j].k ≠ 3 → a.all[j].i < 1000000) ∧ (a.all[j].k = 1 → a.all[j].i < a.c) ∧ fsz a.all[j].f ≤ 3000)
    (hz : wsz (a.all.map (·.f)) ≤ 6000) (hop : E.op.length ≤ 100000) (hc : a.T.cap = E.T.cap) :
    Code.wp Try.prog (efrom 36) (Kx (fun _ _ => False) (ERet q t s (E.at a.T) S w a.c a.u a.ins (qpre a.c a.c (E.T.cap / 32) ++ linesW a.c a.all)) (fun _ _ _ => False)) ac wx := by
  obtain ⟨iV, uV, aV, hA, hQ⟩ := hN
  have HQ := Bx.mk hQ
  have HB := Bx.mk hB
  have HL := Bx.mk hl
  have HZ := Bx.mk hz
  have HOP := Bx.mk hop
  have hcl := hB.c
  have htl := hB.tot
  obtain ⟨e, he⟩ := hQ.e8
  obtain ⟨_, _, _, _, _, _, c0, _⟩ := he.cells
  obtain ⟨_, _, t0, t1, _⟩ := he.tcells
  have hcap : E.T.cap ≤ 1000000 := by have := he.ok.cap; rw [show (E.at a.T).T.cap = E.T.cap from hc] at this; exact this
  rw [show (E.at a.T).T.cap = E.T.cap from hc] at t1
  obtain ⟨cap, hcp⟩ : ∃ cap, E.T.cap = cap := ⟨_, rfl⟩
  rw [hcp] at t1 hcap ⊢
  have HPRE := Bx.mk (refQPrefix_own wx.heap.size (.slice none 0 0) [] a.c a.c (cap : Int) wx (OwB.nil _ _) (Nat.le_refl _) (by simp) (by omega) (by omega) (by omega))
  rw [List.nil_append, show mostN (cap : Int) = cap / 32 from by unfold mostN; omega] at HPRE
  obtain ⟨P, hP⟩ : ∃ P, qpre a.c a.c (cap / 32) = P := ⟨_, rfl⟩
  have hPl : P.length ≤ 22 := by
    rw [← hP]
    unfold qpre
    have h1 := (pre_len 0 8 (ecN a.c (cap / 32))).2
    have h2 := (pre_len 0 7 (a.c - a.c)).2
    have h3 := (pre_len 128 7 (a.c - a.c - 1)).2
    rw [List.length_append]
    split <;> omega
  rw [hP] at HPRE ⊢
  have HPL := Bx.mk hPl
  obtain ⟨u, hu, hac⟩ := eframe ac hA.z hA.d
  have h0 := (hu 0).symm.trans hA.t0
  have h1 := (hu 1).symm.trans hA.t1
  have h8 := (hu 8).symm.trans hA.t8
  have h12 := (hu 12).symm.trans hA.t12
  have h13 := (hu 13).symm.trans hA.t13
  have h14 := (hu 14).symm.trans hA.t14
  rw [hac]
  clear hac hA
  rw [h0, h1, h8, h12, h13, h14]
  clear h0 h1 h8 h12 h13 h14 hu
  conv => arg 2; whnf
  clear hQ hB hl hz hop hc he hcp hP hPl hcl htl hcap
  go_wp2_with (go_at_call 24; refine HPRE.out.mono ?_; rintro r w2 ⟨v2, rfl, ho2, b2, n2⟩; have HO2 := Bx.mk (And.intro ho2 b2); clear ho2 b2 n2 c0 t0 t1)
  rename_i hKq
  refine wp_loop_ghost (fun n ac2 wy => ∃ k, k + n = a.all.length ∧ Mx q s iV uV aV a.c wx k (P ++ linesW a.c (a.all.take k)) ac2 wy) a.all.length ?_ ?_
  · refine ⟨0, by omega, _, ⟨rfl, rfl, rfl, rfl, rfl, rfl, rfl, rfl, rfl, rfl⟩, ?_, HO2.out.2⟩
    rw [List.take_zero, show linesW a.c [] = [] from rfl, List.append_nil]
    exact HO2.out.1
  · rintro n ac2 wy ⟨k, hk, hM⟩
    have hlw := linesW_len a.c (a.all.take k)
    have hlw2 := wsz_take (a.all.map (·.f)) k
    rw [← List.map_take] at hlw2
    have hls : (P ++ linesW a.c (a.all.take k)).length ≤ 20000 := by rw [List.length_append]; have := HPL.out; have := HZ.out; omega
    cases n with
    | zero =>
      obtain rfl : k = a.all.length := by omega
      refine Kx.use (round2E_any ac2 hM HQ.out.lines) ?_ ?_ ?_
      · intro a3 w3 h; exact h.elim
      · intro a3 w3 h; exact h.elim
      · rintro i a3 w3 ⟨rfl, lv, hA3, ho3, hb3⟩
        rw [List.take_length] at ho3
        refine hKq _ _ ?_
        refine Kx.use (tail_any8 (E := E.at a.T) a3 hA3 (HQ.out.keep hb3) (ho3.mono HQ.out.size) HOP.out) ?_ ?_ ?_
        · intro a4 w4 h; exact h.elim
        · intro a4 w4 h; exact h
        · intro i a4 w4 h; exact h.elim
    | succ n =>
      have hk2 : k < a.all.length := by omega
      refine Kx.use (round2_any ac2 hM HQ.out.lines hk2 HB.out.all (HL.out k hk2) (by have := HB.out.c; have := HB.out.tot; omega) hls) ?_ ?_ ?_
      · intro a3 w3 h
        refine ⟨n, by omega, k + 1, by omega, ?_⟩
        rw [linesW_take _ _ _ hk2, ← List.append_assoc]
        exact h
      · intro a3 w3 h; exact h.elim
      · intro i a3 w3 h; exact h.elim
end
end Go.Proofs.Yteopmaaghhendaa
