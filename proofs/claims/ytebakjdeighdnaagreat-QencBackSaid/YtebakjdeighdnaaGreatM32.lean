/-
  Texts put together: QnD, QnE, QnF, QnG, QpC, QpS.
-/
import Derived.Test.YtebakjdeighdnaaGreatM25
import Derived.Test.YtebakjdeighdnaaGreatM22
import Derived.Test.YtebakjdeighdnaaGreatM11
import Derived.Test.YtebakjdeighdnaaGreatM01
import Derived.Test.YtebakjdeighdnaaGreatM07
import Derived.Test.YtebakjdeighdnaaGreatM26
import Derived.Test.YtebakjdeighdnaaGreatM18
import Derived.Test.YtebakjdeighdnaaGreatM24
import Derived.Test.YtebakjdeighdnaaGreatM13
import Derived.Test.YtebakjdeighdnaaGreatM17
import Derived.Deep.RegionHeld

/-
  Contract of the document's room.
-/
namespace Go.Proofs.YtebakjdeighdnaaGreat
open Go.RowKit Go.Maps
set_option linter.unusedVariables false

/-- v[i:i+1] -/
theorem Fs.cutAt {w : World} {v : Value} {l : List Fd} (h : Fs w v l) (i : Nat) (hi : i < l.length) :
    ∃ v', (∀ W : World, (Instr.slice 30 v (some (.int .i64 (i : Int))) (some (.int .i64 ((i : Int) + 1))) none).run Tryz.prog W = .ok v' W) ∧ ∀ W, Fs W v l → Fs W v' [l[i]] := by
  have helem : Tryz.prog.underlying 30 = some (.slice (Tryz.prog.elem 30)) := by kernel_rfl
  have hsz : ∀ W : World, (sizeOf (Tryz.prog.elem 30)).run Tryz.prog W = .ok 2 W := fun W => by kernel_rfl
  obtain ⟨b, o, c, rfl, h1, h2, _, _⟩ := Rn.at_ h (by omega) (by omega)
  refine ⟨.slice (some ⟨b, o + i * 2, none⟩) 1 (c - i), fun W => ?_, fun W hW => ?_⟩
  · rw [run_slice_lh W 30 (some ⟨b, o, none⟩) l.length c helem .i64 .i64 (i : Int) ((i : Int) + 1) (by omega) (by omega) (by omega), hsz]
    simp only [Result.andThen, sliced, Int.toNat_natCast]
    rw [if_neg (by omega)]
    simp [Addr.add]
  · obtain ⟨b', o', c', e, _, _, _, hc⟩ := Rn.at_ hW (by omega) (by omega)
    injection e with e1 e2 e3
    injection e1 with e1
    injection e1 with e1 e4
    subst e1; subst e4
    refine ⟨_, _, rfl, by show 1 ≤ _; omega, by omega, rfl, .inr ⟨_, rfl, fun j u hu => ?_⟩⟩
    have hv := fvl_at l i hi
    rw [Addr.add_lit]
    match j, hu with
    | 0, hu => rw [Nat.add_zero]; rw [hc _ _ hv.1]; simpa [fvl] using hu
    | 1, hu => rw [Nat.add_assoc, hc _ _ hv.2]; simpa [fvl] using hu
    | j + 2, hu => simp [fvl] at hu

theorem room_out {op : List Qs} {K : Nat} {T : Tab} {f : Fd} {now : List Nat} (h : secN f.1 = true ∨ T.cap / 4 < fsz f + 32) : roomQ op K T f now = false := by
  unfold roomQ
  rcases h with h | h
  · rw [h]; rfl
  · rw [show decide (fsz f + 32 ≤ T.cap / 4) = false from decide_eq_false (by omega)]
    simp
theorem room_in {op : List Qs} {K : Nat} {T : Tab} {f : Fd} {now : List Nat} (h1 : secN f.1 = false) (h2 : fsz f + 32 ≤ T.cap / 4) : roomQ op K T f now = roomGo T.cap (fsz f + 32) (pinQ op K now) T.l T.first := by
  unfold roomQ
  rw [h1, show decide (fsz f + 32 ≤ T.cap / 4) = true from decide_eq_true h2]
  simp
theorem roomGo_cons {cap n : Nat} {pin : Nat → Bool} {g : Fd} {r : List Fd} {a : Nat} : roomGo cap n pin (g :: r) a = if cap < sizeF (g :: r) + n then (if pin a then false else roomGo cap n pin r (a + 1)) else true := rfl

theorem quarter {cap : Nat} {C4 : Int} (h : cap ≤ 1000000) (hC4 : ((cap / 4 : Nat) : Int) = C4) : wrap64 ((cap : Int) / 4) = C4 ∧ ((cap : Int)).tdiv 4 = C4 ∧ wrap64 C4 = C4 ∧ IntKind.i64.wrap C4 = C4 := by
  have e : (cap : Int) / 4 = C4 := by omega
  have h0 : 0 ≤ C4 := by omega
  have h1 : C4 ≤ 1000000 := by omega
  refine ⟨?_, ?_, ?_, ?_⟩
  · rw [e]; unfold wrap64; omega
  · rw [Int.tdiv_eq_ediv_of_nonneg (by omega)]; exact e
  · unfold wrap64; omega
  · rw [IntKind.wrap_i64]; omega
section
variable {q t : Nat} {E : Qe} {w : World} {S : Nat → Prop}
set_option maxRecDepth 100000 in
set_option maxHeartbeats 4000000 in
theorem room_any (h : E8 q t E w S) (f : Fd) (hf : fsz f ≤ 1000000) {nV : Value} {now : List Nat} (hnow : Un w nV now) :
    Calls Tryz.prog 42 #[.pointer (some ⟨q, 0, none⟩), .agg #[.string f.1, .string f.2], nV] w fun e w' => e = .returned (.bool (roomQ E.op E.K E.T f now)) ∧ Below w.heap.size w w' := by
  obtain ⟨f1, f2⟩ := f
  have hok := h.ok
  obtain ⟨w1, hw1⟩ : ∃ w1, w.alloc (.cells #[.string f1, .string f2] 53) = w1 := ⟨_, rfl⟩
  obtain ⟨g0, hg0⟩ : ∃ g0, w.heap.size = g0 := ⟨_, rfl⟩
  have hb01 : Below w.heap.size w w1 := by rw [← hw1]; exact (Below.refl _ _).alloc (Nat.le_refl _) _
  have hsz1 : w1.heap.size = g0 + 1 := by rw [← hw1, ← hg0]; simp
  have HF1 : Bx (Fb 53 w1 g0 (f1, f2)) := ⟨by rw [← hw1, ← hg0]; exact Fb.new _ w (f1, f2)⟩
  have HE1 := Bx.mk ((Wd.e8 q t E).keep h hb01)
  have HN1 := Bx.mk (Un.keep hnow hb01)
  obtain ⟨vO, vR, ps, _, _, _, c0, _, _, _, _, _, _, _⟩ := HE1.out.cells
  obtain ⟨vL, hfs, t0, t1, t2⟩ := HE1.out.tcells
  obtain ⟨T, hT⟩ : ∃ T, E.T = T := ⟨_, rfl⟩
  obtain ⟨op, hop⟩ : ∃ op, E.op = op := ⟨_, rfl⟩
  obtain ⟨K, hK⟩ : ∃ K, E.K = K := ⟨_, rfl⟩
  have HPIN : Bx (∀ W, Below w1.heap.size w1 W → ∀ (a : Nat) (A : Int), (a : Int) = A → Calls Tryz.prog 77 #[.pointer (some ⟨q, 0, none⟩), .int .u64 A, nV] W fun e w' => e = .returned (.bool (pinQ op K now a)) ∧ Below W.heap.size W w') := ⟨fun W hW a A hA => by subst hA hop hK; exact pinned_any ((Wd.e8 q t E).keep HE1.out hW) a (HN1.out.keep hW)⟩
  have HFI : Bx (∀ W, Below w1.heap.size w1 W → Calls Tryz.prog 76 #[.pointer (some ⟨t, 0, none⟩)] W fun e w' => e = .returned (.int .u64 (T.first : Int)) ∧ Below W.heap.size W w') := ⟨fun W hW => by
    obtain ⟨S', hrt⟩ := HE1.out.rt
    rw [hT] at hrt
    exact ((Wd.rt t T).keep hrt hW).first⟩
  rw [hT] at hfs t1 hok
  rw [hT, hop, hK]
  have HC : Bx (∀ W, Below w1.heap.size w1 W → W.cell? ⟨q, 0, none⟩ = some (.pointer (some ⟨t, 0, none⟩)) ∧ W.cell? ⟨t, 0, none⟩ = some vL ∧ W.cell? ⟨t, 1, none⟩ = some (.int .i64 (T.cap : Int)) ∧ W.cell? ⟨g0, 0, none⟩ = some (.string f1) ∧ W.cell? ⟨g0, 1, none⟩ = some (.string f2) ∧ Fs W vL T.l) := ⟨fun W hW => by
    obtain ⟨k1, k2⟩ := (HF1.out.keep hW).cells
    exact ⟨(hW.cell (World.block_lt_of_cell? _ _ c0)).trans c0, (hW.cell (World.block_lt_of_cell? _ _ t0)).trans t0, (hW.cell (World.block_lt_of_cell? _ _ t1)).trans t1, k1, k2, hfs.keep hW⟩⟩
  obtain ⟨vA, vn, vc, hvL⟩ : ∃ A n c, vL = .slice A n c := by obtain ⟨A, c, rfl, _⟩ := hfs; exact ⟨_, _, _, rfl⟩
  have HFS := Bx.mk hfs
  obtain ⟨L, hL⟩ : ∃ L, T.l = L := ⟨_, rfl⟩
  obtain ⟨cap, hcap⟩ : ∃ cap, T.cap = cap := ⟨_, rfl⟩
  obtain ⟨fr, hfr⟩ : ∃ fr, T.first = fr := ⟨_, rfl⟩
  have HFR : Bx (fr + L.length ≤ 1000000 ∧ sizeF L ≤ 1000000 ∧ cap ≤ 1000000) := ⟨by have h1 := hok.len; have h2 := hok.tot; have h3 := hok.size; have h4 := hok.cap; rw [← hfr, ← hL, ← hcap]; unfold Tab.first; exact ⟨by omega, h3, h4⟩⟩
  have HOUT := Bx.mk (fun h => room_out (op := op) (K := K) (T := T) (f := (f1, f2)) (now := now) h)
  have HIN := Bx.mk (fun h1 h2 => room_in (op := op) (K := K) (T := T) (f := (f1, f2)) (now := now) h1 h2)
  generalize roomQ op K T (f1, f2) now = RQ at HOUT HIN ⊢
  rw [hL, hcap] at HC
  rw [hL] at HFS
  rw [hfr] at HFI
  rw [hL, hcap, hfr] at HIN
  rw [hcap] at HOUT
  obtain ⟨n, hn⟩ : ∃ n, fsz (f1, f2) + 32 = n := ⟨_, rfl⟩
  have HSZ := Bx.mk (fun (W : World) (v : Value) (hv : Fs W v [(f1, f2)]) => refSize_any v [(f1, f2)] W hv (by simp only [sizeF]; omega))
  rw [show sizeF [(f1, f2)] = n from by simp only [sizeF]; omega] at HSZ
  rw [hn] at HOUT HIN
  have HNB : Bx (n ≤ 1000032) := ⟨by omega⟩
  have HSEC := Bx.mk (fun W => refSecret_any f1 W)
  obtain ⟨sb, hsb⟩ : ∃ sb, secN f1 = sb := ⟨_, rfl⟩
  rw [hsb] at HSEC
  have HSB := Bx.mk hsb
  obtain ⟨N, hN⟩ := letter n
  simp only [hN] at HSZ
  have HB01 := Bx.mk hb01
  have HSZ1 := Bx.mk hsz1
  obtain ⟨d0, d1, d2, d3, d4, _⟩ := HC.out w1 (Below.refl _ _)
  have hfs1 : Fs (w1.alloc (.cells #[.string f1, .string f2] 53)) (.slice (some ⟨w1.heap.size, 0, none⟩) 1 1) [(f1, f2)] := Fs.one w1 _ rfl (f1, f2)
  have HFO := Bx.mk hfs1
  obtain ⟨C4, hC4⟩ := letter (cap / 4)
  obtain ⟨hq4, hq4', hq4'', hq4i⟩ := quarter HFR.out.2.2 hC4
  have HCN : Bx ((cap / 4 : Nat) = C4 ∧ (n : Int) = N) := ⟨hC4, hN⟩
  clear h hf hnow hok hb01 hsz1 hfs c0 t0 t1 t2 hT hop hK hL hcap hfr hn hsb hN hvL hfs1 hC4
  go_enter Tryz.func42, Tryz.ntmps42
  go_wp2_with fail
  refine (HSZ.out _ _ HFO.out).mono ?_
  rintro e w2 ⟨rfl, b2⟩
  have HW2 := Bx.mk (show Below w1.heap.size w1 w2 from ((Below.refl w1.heap.size w1).alloc (Nat.le_refl _) _).trans (b2.mono (by simp)))
  clear d0 d1 d2 d3 d4 b2
  obtain ⟨d0, d1, d2, d3, d4, _⟩ := HC.out w2 HW2.out
  have h1 := HCN.out.1
  have h2 := HCN.out.2
  cases sb with
  | true =>
    have HF : Bx (RQ = false) := ⟨HOUT.out (.inl HSB.out)⟩
    clear h1 h2
    go_wp2_with (go_at_call 46; refine (HSEC.out _).mono ?_; rintro e w3 ⟨rfl, rfl⟩)
    go_ret
    exact ⟨by rw [HF.out]; rfl, HB01.out.trans (HW2.out.mono HB01.out.size)⟩
  | false =>
    by_cases hq : cap / 4 < n
    · have hd : decide (C4 < N) = true := by rw [decide_eq_true_iff]; omega
      have HF : Bx (RQ = false) := ⟨HOUT.out (.inr hq)⟩
      clear h1 h2 hq
      go_wp2_with (go_at_call 46; refine (HSEC.out _).mono ?_; rintro e w3 ⟨rfl, rfl⟩)
      go_ret
      exact ⟨by rw [HF.out]; rfl, HB01.out.trans (HW2.out.mono HB01.out.size)⟩
    have hd : decide (C4 < N) = false := by rw [decide_eq_false_iff_not]; omega
    have HF : Bx (roomGo cap n (pinQ op K now) L fr = RQ) := ⟨(HIN.out HSB.out (by omega)).symm⟩
    have HNC : Bx (n ≤ cap) := ⟨by omega⟩
    have HALL := Bx.mk (refSize_any vL L w2 (HFS.out.keep HW2.out) (by have := HFR.out.2.1; omega))
    clear h1 h2 hq
    go_wp2_with (first
      | (go_at_call 46; refine (HSEC.out _).mono ?_; rintro e w3 ⟨rfl, rfl⟩)
      | (go_at_call 66; refine HALL.out.mono ?_; rintro e w3 ⟨rfl, b3⟩))
    have HW3 := Bx.mk (below_next HW2.out b3)
    clear d0 d1 d2 d3 d4 b3 hq4 hq4' hq4'' hq4i hd
    go_loopg [8, 9] L.length (fun g s8 s9 wx => ∃ i : Nat, i + g = L.length ∧ s9 = .int .i64 i ∧ (∃ hv : Int, s8 = .int .i64 hv ∧ Bx ((sizeF (L.drop i) : Int) = hv)) ∧ Bx (roomGo cap n (pinQ op K now) (L.drop i) (fr + i) = RQ) ∧ Bx (Below w1.heap.size w1 wx))
    case atStart => exact ⟨0, by omega, rfl, ⟨_, rfl, ⟨rfl⟩⟩, ⟨HF.out⟩, HW3⟩
    case round =>
      clear HW3
      obtain ⟨i, hig, rfl, ⟨hv, rfl, HH⟩, HR, HW⟩ := hrel
      obtain ⟨d0, d1, d2, d3, d4, hfs⟩ := HC.out wr HW.out
      have h0 := HH.out
      have h2 := HCN.out.2
      have h3 := HFR.out
      have h4 := sizeF_drop L i
      obtain ⟨sm, hsm⟩ : ∃ sm, hv + N = sm := ⟨_, rfl⟩
      have HSN : wrap64 (hv + N) = sm := by have := HNB.out; unfold wrap64; omega
      obtain ⟨CP, hCP⟩ := letter cap
      rw [hCP] at d2
      by_cases hlt : cap < sizeF (L.drop i) + n
      · have hd : decide (CP < sm) = true := by rw [decide_eq_true_iff]; omega
        have hi : i < L.length := by
          rcases Nat.lt_or_ge i L.length with hh | hh
          · exact hh
          · rw [List.drop_of_length_le hh] at hlt
            simp only [sizeF] at hlt
            have := HNC.out
            omega
        obtain ⟨g, rfl⟩ : ∃ g, gk = g + 1 := ⟨gk - 1, by clear h0 h2 h3 h4 hd hlt HSN hsm hCP; omega⟩
        have hdr : L.drop i = L[i] :: L.drop (i + 1) := List.drop_eq_getElem_cons hi
        have HR2 := HR.out
        rw [hdr, roomGo_cons, ← hdr, if_pos hlt] at HR2
        have HR3 := Bx.mk HR2
        have hsd : sizeF (L.drop i) = fsz L[i] + 32 + sizeF (L.drop (i + 1)) := by rw [hdr]; rfl
        obtain ⟨v', hsl, hcut⟩ := hfs.cutAt i hi
        have HCUT := Bx.mk (fun W (hW : Below w1.heap.size w1 W) => refSize_any v' [L[i]] W (hcut W (HFS.out.keep hW)) (by have h5 := sizeF_drop L i; simp only [sizeF]; omega))
        rw [show sizeF [L[i]] = fsz L[i] + 32 from rfl] at HCUT
        generalize fsz L[i] + 32 = z at hsd HCUT
        obtain ⟨Z, hZ⟩ := letter z
        simp only [hZ] at HCUT
        obtain ⟨FA, hFA⟩ := letter (fr + i)
        have hwi : IntKind.u64.wrap (i : Int) = (i : Int) := u64_keep (by omega) (by omega)
        have hwa : IntKind.u64.wrap ((fr : Int) + (i : Int)) = FA := by rw [show (fr : Int) + (i : Int) = FA from by omega]; exact u64_keep (by omega) (by omega)
        have hwz : wrap64 (hv - Z) = hv - Z := by unfold wrap64; omega
        have hwi1 : wrap64 ((i : Int) + 1) = (i : Int) + 1 := by unfold wrap64; omega
        have HREM : Bx ((sizeF (L.drop (i + 1)) : Int) = hv - Z) := ⟨by omega⟩
        have HPC := Bx.mk (fun W hW => HPIN.out W hW (fr + i) FA hFA)
        have HI := Bx.mk hi
        obtain ⟨pb, hpb⟩ : ∃ pb, pinQ op K now (fr + i) = pb := ⟨_, rfl⟩
        rw [hpb] at HPC HR3
        clear h0 h2 h3 h4 hsm hCP hlt hdr HR2 hsd hcut hfs hpb hFA hZ HR hi
        cases pb with
        | true =>
          have HF2 : Bx (RQ = false) := ⟨HR3.out.symm⟩
          go_wp2_with (first
            | (go_at_call 76; refine (HFI.out _ HW.out).mono ?_; rintro e w4 ⟨rfl, b4⟩; have HW4 := Bx.mk (below_next HW.out b4))
            | (go_at_call 77; refine (HPC.out _ HW4.out).mono ?_; rintro e w5 ⟨rfl, b5⟩; have HW5 := Bx.mk (below_next HW4.out b5)))
          go_ret
          exact ⟨by rw [HF2.out]; rfl, HB01.out.trans (HW5.out.mono HB01.out.size)⟩
        | false =>
          have HR4 : Bx (roomGo cap n (pinQ op K now) (L.drop (i + 1)) (fr + (i + 1)) = RQ) := ⟨by have := HR3.out; simpa [Nat.add_assoc] using this⟩
          go_wp2_with (first
            | (go_at_call 76; refine (HFI.out _ HW.out).mono ?_; rintro e w4 ⟨rfl, b4⟩; have HW4 := Bx.mk (below_next HW.out b4))
            | (go_at_call 77; refine (HPC.out _ HW4.out).mono ?_; rintro e w5 ⟨rfl, b5⟩; have HW5 := Bx.mk (below_next HW4.out b5); obtain ⟨k0, k1, k2, k3, k4, _⟩ := HC.out w5 HW5.out)
            | (go_at_call 66; refine (HCUT.out _ HW5.out).mono ?_; rintro e w6 ⟨rfl, b6⟩; have HW6 := Bx.mk (below_next HW5.out b6)))
          clear hwi hwa HSN hd
          go_roundg g
          case measure => exact Nat.lt_succ_self _
          case rel => exact ⟨i + 1, by clear hwz hwi1; omega, by rw [hwi1]; rfl, ⟨_, by rw [hwz], HREM⟩, HR4, HW6⟩
      · have hd : decide (CP < sm) = false := by rw [decide_eq_false_iff_not]; omega
        have HF2 : Bx (RQ = true) := ⟨by
          have HR2 := HR.out
          cases hdr : L.drop i with
          | nil => rw [hdr] at HR2; exact HR2.symm
          | cons x r => rw [hdr, roomGo_cons, ← hdr, if_neg hlt] at HR2; exact HR2.symm⟩
        clear h0 h2 h3 h4 hsm hCP hlt hfs HR
        go_wp2_with fail
        go_ret
        exact ⟨by rw [HF2.out]; rfl, HB01.out.trans (HW.out.mono HB01.out.size)⟩
end
end Go.Proofs.YtebakjdeighdnaaGreat

/-
  The document's Encode of QPACK under way: rows of the call's own by their types; the state between two fields as a word.
-/
namespace Go.Proofs.YtebakjdeighdnaaGreat
open Go.RowKit Go.Maps
set_option linter.unusedVariables false

/-! ### rows by their types -/
/-- Blocks that are no rows of the type stand. -/
def NonT (ty : TypeId) (w w' : World) : Prop := ∀ (k : Nat) (o : Obj), w.heap[k]? = some o → (∀ (c : Array Value) (z : Nat × Nat), o ≠ Obj.cells c ty z) → w'.heap[k]? = some o
theorem NonT.of_own {w w' : World} {B k n : Nat} {ty : TypeId} {v : Value} {xs : List Value} (h : w.ownsRow B ty k v n xs) (hg : w.grownBy w' v.ownBlock) : NonT ty w w' := fun j o hj ho => by
  rw [hg.block j (Array.getElem?_eq_some_iff.1 hj).1 (fun e => ?_)]
  · exact hj
  · rcases h.2 with ⟨rfl, _⟩ | ⟨g, cap, cur, rfl, _, hh, _⟩
    · simp [Value.ownBlock] at e
    · simp only [Value.ownBlock, Option.some.injEq] at e
      subst e
      rw [hj] at hh
      injection hh with hh
      exact ho _ _ hh
/-- A row of one's own is such a block. -/
theorem own_blk {w : World} {B k n g : Nat} {ty : TypeId} {v : Value} {xs : List Value} (h : w.ownsRow B ty k v n xs) (hg : v.ownBlock = some g) : ∃ c, w.heap[g]? = some (.cells c ty (0, 0)) := by
  rcases h.2 with ⟨rfl, _⟩ | ⟨g', cap, cur, rfl, _, hh, _⟩
  · simp [Value.ownBlock] at hg
  · simp only [Value.ownBlock, Option.some.injEq] at hg
    subst hg
    exact ⟨_, hh⟩
theorem own_kept {w w' : World} {B k n : Nat} {ty : TypeId} {v : Value} {xs : List Value} (h : w.ownsRow B ty k v n xs) (hb : ∀ g, v.ownBlock = some g → w'.heap[g]? = w.heap[g]?) : w'.ownsRow B ty k v n xs := by
  refine ⟨h.1, ?_⟩
  rcases h.2 with h0 | ⟨g, cap, cur, rfl, hg, hh, rest⟩
  · exact .inl h0
  · exact .inr ⟨g, cap, cur, rfl, hg, by rw [hb g rfl]; exact hh, rest⟩
theorem own_nonT {w w' : World} {B k n : Nat} {ty ty' : TypeId} {v : Value} {xs : List Value} (h : w.ownsRow B ty k v n xs) (hn : NonT ty' w w') (ht : ty ≠ ty') : w'.ownsRow B ty k v n xs :=
  own_kept h fun g hg => by
    obtain ⟨c, hc⟩ := own_blk h hg
    rw [hc]
    exact hn g _ hc fun c z e => by injection e with _ e2 _; exact ht e2
section
variable {P : Program} (w : World)
/-- An append to a row of its own, of k cells an element: what else stood stands. -/
theorem run_append_ok (k : Nat) (hk : 0 < k) (B : Nat) (t ty e : TypeId) (i : TypeInfo) (z : Value) (bytes : Nat) (ht : P.underlying t = some (.slice e)) (hi : P.info? e = some i) (hz : i.zero = some z)
    (hsize : i.size = k) (hby : i.bytes = bytes) (hzs : z.cells.size = k)
    (v u : Value) (n m : Nat) (xs news : List Value) (hv : w.ownsRow B e k v n xs) (hu : Rn k w u m news) (h1 : ∀ x ∈ news, x.oneCell' = true)
    (hbytes : (n + m) * bytes ≤ 140737488355328) (hmax : n + m ≤ maxLen) (hB : B ≤ w.heap.size) :
    ∃ v' w', (Builtin.append_ #[t, t] ty #[v, u]).run P w = .ok v' w' ∧ w'.ownsRow B e k v' (n + m) (xs ++ news) ∧ Below B w w' ∧ w.grownBy w' v.ownBlock := by
  have hul := hu.cells
  obtain ⟨Au, c, rfl, c1, c2, c4, c3⟩ := hu
  rcases c3 with ⟨rfl, rfl⟩ | ⟨x, rfl, hc⟩
  · obtain rfl : m = 0 := by omega
    obtain rfl : news = [] := List.eq_nil_of_length_eq_zero (by omega)
    exact ⟨v, w, run_append_owned_none w B t ty e i k ht hi v _ xs hv, by rw [List.append_nil, Nat.add_zero]; exact hv, Below.refl _ _, ⟨rfl, rfl, rfl, Nat.le_refl _, fun _ _ _ => rfl⟩⟩
  · obtain ⟨v', w', hrun, r1, r2, _⟩ := run_append_own (P := P) w B t ty e i z k bytes ht hi hz hsize hby hzs hk v _ xs hv x m c news (by omega) hc h1 hmax hbytes hB
    refine ⟨v', w', hrun, r1, (Below.refl _ _).grown r2 hB ?_, r2⟩
    intro q hq
    exact (hv.lt q hq).1
theorem wp_append_ok (k : Nat) (hk : 0 < k) {o : Oper} {a : Act} {K : Act → World → Prop} {Q : Exit → Act → World → Prop} (s x : Operand) (t : TypeId)
    (ho : o.op = .call { callee := .builtin .append, args := #[s, x], argTypes := #[t, t] })
    (B : Nat) (e : TypeId) (i : TypeInfo) (z : Value) (bytes : Nat) (ht : P.underlying t = some (.slice e)) (hi : P.info? e = some i) (hz : i.zero = some z)
    (hsize : i.size = k) (hby : i.bytes = bytes) (hzs : z.cells.size = k)
    (v u : Value) (n m : Nat) (xs news : List Value) (hs : a.eval s = v) (hx : a.eval x = u) (hv : w.ownsRow B e k v n xs) (hu : Rn k w u m news) (h1 : ∀ x ∈ news, x.oneCell' = true)
    (hbytes : (n + m) * bytes ≤ 140737488355328) (hmax : n + m ≤ maxLen) (hB : B ≤ w.heap.size)
    (h : ∀ v' w', w'.ownsRow B e k v' (n + m) (xs ++ news) → Below B w w' → w.grownBy w' v.ownBlock → K (a.put o.dst v') w') : o.wp P a w K Q := by
  obtain ⟨v', w', hr, h2, h3, h4⟩ := run_append_ok (P := P) w k hk B t o.type e i z bytes ht hi hz hsize hby hzs v u n m xs news hv hu h1 hbytes hmax hB
  unfold Oper.wp execOp
  simp only [ho, resolve, invoke, builtin, Sem.run_bind, Sem.run_pure, Result.andThen_ok, List.map_toArray, List.map_cons, List.map_nil, hs, hx, hr]
  exact h v' w' h2 h3 h4
theorem wpList_append_ok (k : Nat) (hk : 0 < k) {ops : Array Oper} {rest : List Oper} {o : Oper} {a : Act} {Q : Exit → Act → World → Prop} (hgd : o.guard = none) (s x : Operand) (t : TypeId)
    (ho : o.op = .call { callee := .builtin .append, args := #[s, x], argTypes := #[t, t] })
    (B : Nat) (e : TypeId) (i : TypeInfo) (z : Value) (bytes : Nat) (ht : P.underlying t = some (.slice e)) (hi : P.info? e = some i) (hz : i.zero = some z)
    (hsize : i.size = k) (hby : i.bytes = bytes) (hzs : z.cells.size = k)
    (v u : Value) (n m : Nat) (xs news : List Value) (hs : a.eval s = v) (hx : a.eval x = u) (hv : w.ownsRow B e k v n xs) (hu : Rn k w u m news) (h1 : ∀ x ∈ news, x.oneCell' = true)
    (hbytes : (n + m) * bytes ≤ 140737488355328) (hmax : n + m ≤ maxLen) (hB : B ≤ w.heap.size)
    (h : ∀ v' w', w'.ownsRow B e k v' (n + m) (xs ++ news) → Below B w w' → w.grownBy w' v.ownBlock → wpList P ops Q rest (a.put o.dst v') w') : wpList P ops Q (o :: rest) a w :=
  wpList_plain hgd fun _ hK => wp_append_ok w k hk s x t ho B e i z bytes ht hi hz hsize hby hzs v u n m xs news hs hx hv hu h1 hbytes hmax hB fun v' w' h2 h3 h4 => hK _ _ (h v' w' h2 h3 h4)
end

/-! ### the rows of the call -/
def lcl (x : Ql) : List Value := [.int .i64 (x.k : Int), .int .u64 (x.i : Int), .string x.f.1, .string x.f.2]
def OwU (w : World) (B : Nat) (v : Value) (us : List Nat) : Prop := w.ownsRow B 32 1 v us.length (us.map uN)
def OwL (w : World) (B : Nat) (v : Value) (all : List Ql) : Prop := w.ownsRow B 94 4 v all.length (all.flatMap lcl)
theorem OwU.nil (w : World) (B : Nat) : OwU w B (.slice none 0 0) [] := World.ownsRow_nil w B _ 1
theorem OwL.nil (w : World) (B : Nat) : OwL w B (.slice none 0 0) [] := World.ownsRow_nil w B _ 4
theorem OwU.un {w : World} {B : Nat} {v : Value} {us : List Nat} (h : OwU w B v us) : Un w v us := Rd.of_own (by unfold OwU at h; rw [List.length_map]; exact h)
/-- A block that is none of the rows of the call. -/
def Clr (o : Obj) : Prop := ∀ (c : Array Value) (z : Nat × Nat), o ≠ .cells c 5 z ∧ o ≠ .cells c 32 z ∧ o ≠ .cells c 94 z
def NoT (B : Nat) (w : World) (e : Nat → Prop) : Prop := ∀ k, e k → B ≤ k → ∃ o, w.heap[k]? = some o ∧ Clr o
def rowT (ty : TypeId) : Prop := ty = 5 ∨ ty = 32 ∨ ty = 94
theorem Clr.not {o : Obj} (h : Clr o) {ty : TypeId} (ht : rowT ty) : ∀ (c : Array Value) (z : Nat × Nat), o ≠ .cells c ty z := fun c z => by
  obtain ⟨h1, h2, h3⟩ := h c z
  rcases ht with rfl | rfl | rfl
  · exact h1
  · exact h2
  · exact h3
theorem Clr.of {c : Array Value} {ty : TypeId} {z : Nat × Nat} (h1 : ty ≠ 5) (h2 : ty ≠ 32) (h3 : ty ≠ 94) : Clr (.cells c ty z) := fun c' z' =>
  ⟨fun e => by injection e with _ e _; exact h1 e, fun e => by injection e with _ e _; exact h2 e, fun e => by injection e with _ e _; exact h3 e⟩
theorem Clr.field (c : Array Value) (z : Nat × Nat) : Clr (.cells c 53 z) := Clr.of (by decide) (by decide) (by decide)
theorem NoT.not {w : World} {B k n : Nat} {e : Nat → Prop} {ty : TypeId} {v : Value} {xs : List Value} (hn : NoT B w e) (h : w.ownsRow B ty k v n xs) (ht : rowT ty) : ∀ g, v.ownBlock = some g → ¬ e g := fun g hg he => by
  obtain ⟨c, hc⟩ := own_blk h hg
  obtain ⟨o, ho, hcl⟩ := hn g he (h.lt g hg).1
  rw [hc] at ho
  injection ho with ho
  exact hcl.not ht _ _ ho.symm
/-- The table's blocks, closely told. -/
theorem rt_clr {t : Nat} {T : Tab} {w : World} {S : Nat → Prop} (h : Rt t T w S) : ∃ E, Rt t T w E ∧ (∀ k, E k → S k) ∧ ∀ k, E k → ∃ o, w.heap[k]? = some o ∧ Clr o := by
  obtain ⟨v, h1, h2, h3, h4, h5, h6⟩ := h
  refine ⟨fun k => k = t ∨ v.ownBlock = some k, ⟨v, h1, h2, h3, ⟨.inl rfl, fun k hk => .inr hk⟩, ?_, h6⟩, ?_, ?_⟩
  · rintro k (rfl | hk)
    · exact h5 _ h4.1
    · exact h5 _ (h4.2 k hk)
  · rintro k (rfl | hk)
    · exact h4.1
    · exact h4.2 k hk
  · rintro k (rfl | hk)
    · obtain ⟨c, hc, _⟩ := h1
      exact ⟨_, hc, Clr.of (by decide) (by decide) (by decide)⟩
    · rcases h2 with ⟨rfl, _⟩ | ⟨g, o, cap, m, F, rfl, hr, _⟩
      · simp [Value.ownBlock] at hk
      · simp only [Value.ownBlock, Option.some.injEq] at hk
        subst hk
        obtain ⟨c, hc, _⟩ := hr
        exact ⟨_, hc, Clr.field _ _⟩
end Go.Proofs.YtebakjdeighdnaaGreat

/-
  The document's Encode of QPACK under way: the state as a word, and what each step does to it.
-/
namespace Go.Proofs.YtebakjdeighdnaaGreat
open Go.RowKit Go.Maps
set_option linter.unusedVariables false

/-- The encoder, what was written so far in rows of its own, and blocks of fields that stand. -/
def QS (q t : Nat) (E : Qe) (S : Nat → Prop) (w : World) (fx : List (Nat × Array Value)) (iV : Value) (ins : List UInt8) (uV : Value) (us : List Nat) (aV : Value) (all : List Ql) (wx : World) : Prop :=
  ∃ e, E8 q t E wx e ∧ (∀ k, e k → S k ∨ w.heap.size ≤ k) ∧ NoT w.heap.size wx e ∧ Fp S w wx ∧ OwB wx w.heap.size iV ins ∧ OwU wx w.heap.size uV us ∧ OwL wx w.heap.size aV all ∧
    ∀ x ∈ fx, ¬ e x.1 ∧ wx.heap[x.1]? = some (.cells x.2 53 (0, 0))
section
variable {q t : Nat} {E : Qe} {S : Nat → Prop} {w wx wy : World} {fx fy : List (Nat × Array Value)} {iV iV' uV uV' aV aV' : Value} {ins ins' : List UInt8} {us us' : List Nat} {all all' : List Ql}
theorem e_same {e : Nat → Prop} {B : Nat} {ty : TypeId} (h3 : NoT B wx e) (ht : rowT ty) (hb : Below B wx wy) (hn : NonT ty wx wy) : ∀ k, e k → wy.heap[k]? = wx.heap[k]? := fun k hk => by
  rcases Nat.lt_or_ge k B with h | h
  · exact hb.block k h
  · obtain ⟨o, ho, hc⟩ := h3 k hk h
    rw [ho]
    exact hn k o ho (hc.not ht)
theorem noT_same {e : Nat → Prop} {B : Nat} (h3 : NoT B wx e) (h : ∀ k, e k → wy.heap[k]? = wx.heap[k]?) : NoT B wy e := fun k hk hB => by
  obtain ⟨o, ho, hc⟩ := h3 k hk hB
  exact ⟨o, by rw [h k hk]; exact ho, hc⟩
theorem QS.keep (h : QS q t E S w fx iV ins uV us aV all wx) (hb : Below wx.heap.size wx wy) : QS q t E S w fx iV ins uV us aV all wy := by
  obtain ⟨e, h1, h2, h3, h4, h5, h6, h7, h8⟩ := h
  exact ⟨e, (Wd.e8 _ _ _).keep h1 hb, h2, noT_same h3 fun k hk => hb.block k ((Wd.e8 _ _ _).lt h1 k hk), h4.then (Fp.of_below hb), h5.keep hb, ownN_keep h6 hb, ownN_keep h7 hb,
    fun x hx => ⟨(h8 x hx).1, by rw [hb.block _ (Array.getElem?_eq_some_iff.1 (h8 x hx).2).1]; exact (h8 x hx).2⟩⟩
theorem QS.byte (h : QS q t E S w fx iV ins uV us aV all wx) (ho : OwB wy w.heap.size iV' ins') (hb : Below w.heap.size wx wy) (hn : NonB wx wy) : QS q t E S w fx iV' ins' uV us aV all wy := by
  obtain ⟨e, h1, h2, h3, h4, h5, h6, h7, h8⟩ := h
  have hs := e_same h3 (.inl rfl) hb hn
  exact ⟨e, (Wd.e8 _ _ _).kept h1 hb.size hs, h2, noT_same h3 hs, h4.trans (Fp.up hb) fun i hi => .inr hi, ho, own_nonT h6 (ty' := 5) hn (by decide), own_nonT h7 (ty' := 5) hn (by decide),
    fun x hx => ⟨(h8 x hx).1, hn _ _ (h8 x hx).2 fun c z e => by injection e with _ e2 _; exact absurd e2 (by decide)⟩⟩
theorem QS.use (h : QS q t E S w fx iV ins uV us aV all wx) (ho : OwU wy w.heap.size uV' us') (hb : Below w.heap.size wx wy) (hg : wx.grownBy wy uV.ownBlock) : QS q t E S w fx iV ins uV' us' aV all wy := by
  obtain ⟨e, h1, h2, h3, h4, h5, h6, h7, h8⟩ := h
  have hn := NonT.of_own h6 hg
  have hs := e_same h3 (.inr (.inl rfl)) hb hn
  exact ⟨e, (Wd.e8 _ _ _).kept h1 hb.size hs, h2, noT_same h3 hs, h4.trans (Fp.up hb) fun i hi => .inr hi, own_nonT h5 hn (by decide), ho, own_nonT h7 hn (by decide),
    fun x hx => ⟨(h8 x hx).1, hn _ _ (h8 x hx).2 fun c z e => by injection e with _ e2 _; exact absurd e2 (by decide)⟩⟩
theorem QS.line (h : QS q t E S w fx iV ins uV us aV all wx) (ho : OwL wy w.heap.size aV' all') (hb : Below w.heap.size wx wy) (hg : wx.grownBy wy aV.ownBlock) : QS q t E S w fx iV ins uV us aV' all' wy := by
  obtain ⟨e, h1, h2, h3, h4, h5, h6, h7, h8⟩ := h
  have hn := NonT.of_own h7 hg
  have hs := e_same h3 (.inr (.inr rfl)) hb hn
  exact ⟨e, (Wd.e8 _ _ _).kept h1 hb.size hs, h2, noT_same h3 hs, h4.trans (Fp.up hb) fun i hi => .inr hi, own_nonT h5 hn (by decide), own_nonT h6 hn (by decide), ho,
    fun x hx => ⟨(h8 x hx).1, hn _ _ (h8 x hx).2 fun c z e => by injection e with _ e2 _; exact absurd e2 (by decide)⟩⟩
theorem QS.new (h : QS q t E S w fx iV ins uV us aV all wx) (cs : Array Value) : QS q t E S w ((wx.heap.size, cs) :: fx) iV ins uV us aV all (wx.alloc (.cells cs 53)) := by
  have hb := (Below.refl wx.heap.size wx).alloc (Nat.le_refl _) (.cells cs 53)
  obtain ⟨e, h1, h2, h3, h4, h5, h6, h7, h8⟩ := h
  exact ⟨e, (Wd.e8 _ _ _).keep h1 hb, h2, noT_same h3 fun k hk => hb.block k ((Wd.e8 _ _ _).lt h1 k hk), h4.then (Fp.of_below hb), h5.keep hb, ownN_keep h6 hb, ownN_keep h7 hb, fun x hx => by
    rcases List.mem_cons.1 hx with rfl | hx
    · exact ⟨fun hs => Nat.lt_irrefl _ ((Wd.e8 _ _ _).lt h1 _ hs), heap_alloc_last wx _⟩
    · exact ⟨(h8 x hx).1, by rw [hb.block _ (Array.getElem?_eq_some_iff.1 (h8 x hx).2).1]; exact (h8 x hx).2⟩⟩
theorem QS.sub (h : QS q t E S w fx iV ins uV us aV all wx) (hs : ∀ x ∈ fy, x ∈ fx) : QS q t E S w fy iV ins uV us aV all wx := by
  obtain ⟨e, h1, h2, h3, h4, h5, h6, h7, h8⟩ := h
  exact ⟨e, h1, h2, h3, h4, h5, h6, h7, fun x hx => h8 x (hs x hx)⟩
theorem QS.size (h : QS q t E S w fx iV ins uV us aV all wx) : w.heap.size ≤ wx.heap.size := by obtain ⟨_, _, _, _, h4, _⟩ := h; exact h4.size
theorem QS.bytes (h : QS q t E S w fx iV ins uV us aV all wx) : OwB wx w.heap.size iV ins := by obtain ⟨_, _, _, _, _, h5, _⟩ := h; exact h5
theorem QS.uses (h : QS q t E S w fx iV ins uV us aV all wx) : OwU wx w.heap.size uV us := by obtain ⟨_, _, _, _, _, _, h6, _⟩ := h; exact h6
theorem QS.lines (h : QS q t E S w fx iV ins uV us aV all wx) : OwL wx w.heap.size aV all := by obtain ⟨_, _, _, _, _, _, _, h7, _⟩ := h; exact h7
theorem QS.fp (h : QS q t E S w fx iV ins uV us aV all wx) : Fp S w wx := by obtain ⟨_, _, _, _, h4, _⟩ := h; exact h4
theorem QS.e8 (h : QS q t E S w fx iV ins uV us aV all wx) : ∃ e, E8 q t E wx e := by obtain ⟨e, h1, _⟩ := h; exact ⟨e, h1⟩
theorem QS.rt (h : QS q t E S w fx iV ins uV us aV all wx) : ∃ e, Rt t E.T wx e := by obtain ⟨e, h1, _⟩ := h; exact h1.rt
theorem QS.blk (h : QS q t E S w fx iV ins uV us aV all wx) {g : Nat} {cs : Array Value} (hm : (g, cs) ∈ fx) : wx.heap[g]? = some (.cells cs 53 (0, 0)) := by
  obtain ⟨_, _, _, _, _, _, _, _, h8⟩ := h
  exact (h8 _ hm).2
theorem QS.fb (h : QS q t E S w fx iV ins uV us aV all wx) {g : Nat} {f1 f2 : ByteArray} (hm : (g, #[.string f1, .string f2]) ∈ fx) : Fb 53 wx g (f1, f2) := h.blk hm
theorem QS.fs (h : QS q t E S w fx iV ins uV us aV all wx) {g : Nat} (hm : (g, C3) ∈ fx) : Fs wx (.slice (some ⟨g, 0, none⟩) 99 99) T3 := by
  have hb := h.blk hm
  refine ⟨some ⟨g, 0, none⟩, 99, by rw [t3_len], by rw [t3_len]; omega, by unfold maxLen; omega, by rw [fvl_length], .inr ⟨_, rfl, fun j u hu => ?_⟩⟩
  rw [← c3_list] at hu
  rw [Addr.add_lit]
  simp only [Nat.zero_add, World.cell?, hb]
  simpa using hu
theorem QS.start (h : E8 q t E w S) : QS q t E S w [] (.slice none 0 0) [] (.slice none 0 0) [] (.slice none 0 0) [] w :=
  ⟨S, h, fun k hk => .inl hk, fun k hk hB => by have := (Wd.e8 _ _ _).lt h k hk; omega, Fp.refl _ _, OwB.nil _ _, OwU.nil _ _, OwL.nil _ _, fun x hx => by cases hx⟩
theorem e8F_6 (t : Nat) (E : Qe) (vO vR : Value) (b : Bool) : ∀ j, j < 7 → (if j = 6 then Value.bool b else e8F t E vO vR j) = e8F t ⟨E.T, E.B, E.K, E.op, E.rest, E.err, b⟩ vO vR j := fun j hj => by
  unfold e8F
  match j, hj with
  | 0, _ => rfl
  | 1, _ => rfl
  | 2, _ => rfl
  | 3, _ => rfl
  | 4, _ => rfl
  | 5, _ => rfl
  | 6, _ => rfl
theorem QS.said (h : QS q t E S w fx iV ins uV us aV all wx) (b : Bool) : QS q t ⟨E.T, E.B, E.K, E.op, E.rest, E.err, b⟩ S w fx iV ins uV us aV all (wx.setCell ⟨q, 6, none⟩ (.bool b)) := by
  obtain ⟨e, h1, h2, h3, h4, h5, h6, h7, h8⟩ := h
  obtain ⟨vO, vR, ps, S1, S2, g0, g1, g2, g3, g4, g5, g6, g7⟩ := h1.open_
  have hq : e q := (g7 q).2 (.inr (.inr rfl))
  have hf : Fp (fun k => k = q) wx (wx.setCell ⟨q, 6, none⟩ (.bool b)) := Fp.set _ _ _ _ rfl
  have hk : ∀ k, k < wx.heap.size → k ≠ q → (wx.setCell ⟨q, 6, none⟩ (.bool b)).heap[k]? = wx.heap[k]? := fun k hk hn => hf.block k hk hn
  have hne := h3.not h5 (.inl rfl)
  have hne2 := h3.not h6 (.inr (.inl rfl))
  have hne3 := h3.not h7 (.inr (.inr rfl))
  have hrow := (g1.set 6 (.bool b)).congr (e8F_6 t E vO vR b)
  have h8' := E8.shut_ (E := ⟨E.T, E.B, E.K, E.op, E.rest, E.err, b⟩) g0 hrow ((Wd.rt t E.T).besides g2 hf fun k hk e => g5 (e ▸ hk)) ((Wd.ob _).besides g3 hf fun k hk e => g6 (e ▸ hk)) g4 g5 g6
  refine ⟨_, h8', fun k hk => h2 k ((g7 k).2 hk), fun k hk hB => ?_, h4.trans (hf.mono fun k hk => hk ▸ hq) h2, own_kept h5 fun k hk' => hk k (h5.lt hk') fun e => hne k hk' (e ▸ hq), own_kept h6 fun k hk' => hk k (h6.lt k hk').2 fun e => hne2 k hk' (e ▸ hq),
    own_kept h7 fun k hk' => hk k (h7.lt k hk').2 fun e => hne3 k hk' (e ▸ hq), fun x hx => ⟨fun hs => (h8 x hx).1 ((g7 _).2 hs), by rw [hk _ (Array.getElem?_eq_some_iff.1 (h8 x hx).2).1 fun e => (h8 x hx).1 (e ▸ hq)]; exact (h8 x hx).2⟩⟩
  by_cases hkq : k = q
  · subst hkq
    obtain ⟨c, hc, _⟩ := hrow
    exact ⟨_, hc, Clr.of (by decide) (by decide) (by decide)⟩
  · obtain ⟨o, ho, hc⟩ := h3 k ((g7 k).2 hk) hB
    exact ⟨o, by rw [hf.block k (Array.getElem?_eq_some_iff.1 ho).1 hkq]; exact ho, hc⟩
/-- An entry more. -/
theorem QS.add (h : QS q t E S w fx iV ins uV us aV all wx) (f : Fd) (hf : fsz f ≤ 1000000) (ht : E.T.tot + 1 ≤ 1000000) :
    Calls Tryz.prog 44 #[.pointer (some ⟨t, 0, none⟩), .agg #[.string f.1, .string f.2]] wx fun r w' => (∃ x, r = .returned x) ∧ QS q t ⟨E.T.add f, E.B, E.K, E.op, E.rest, E.err, E.said⟩ S w fx iV ins uV us aV all w' := by
  obtain ⟨e, h1, h2, h3, h4, h5, h6, h7, h8⟩ := h
  obtain ⟨vO, vR, ps, S1, S2, g0, g1, g2, g3, g4, g5, g6, g7⟩ := h1.open_
  have hlt1 := (Wd.rt t E.T).lt g2
  have hlt2 := (Wd.ob _).lt g3
  have hne := h3.not h5 (.inl rfl)
  have hne2 := h3.not h6 (.inr (.inl rfl))
  have hne3 := h3.not h7 (.inr (.inr rfl))
  refine (refAdd_any g2 f hf ht).mono ?_
  rintro r w' ⟨rfl, S1', x, s, hfp⟩
  obtain ⟨E1, a1, a2, a3⟩ := rt_clr x
  have hin : ∀ k, S1 k → e k := fun k hk => (g7 k).2 (.inl hk)
  have hq := g1.lt
  have h8' := E8.shut_ (E := ⟨E.T.add f, E.B, E.K, E.op, E.rest, E.err, E.said⟩) g0 (g1.of_block (hfp.block q hq g5)) a1 ((Wd.ob _).besides g3 hfp fun k hk hs => g4 k hs hk) (fun k hk hs => by
    rcases s k (a2 k hk) with hh | hh
    · exact g4 k hh hs
    · have := hlt2 k hs; omega) (fun hh => by
    rcases s q (a2 q hh) with hh | hh
    · exact g5 hh
    · omega) g6
  refine ⟨⟨_, rfl⟩, _, h8', fun k hk => ?_, fun k hk hB => ?_, h4.trans (hfp.mono hin) h2, own_kept h5 fun k hk' => hfp.block k (h5.lt hk') fun hs => hne k hk' (hin k hs), own_kept h6 fun k hk' => hfp.block k (h6.lt k hk').2 fun hs => hne2 k hk' (hin k hs),
    own_kept h7 fun k hk' => hfp.block k (h7.lt k hk').2 fun hs => hne3 k hk' (hin k hs), fun y hy => ?_⟩
  · rcases hk with hk | hk | hk
    · rcases s k (a2 k hk) with hh | hh
      · exact h2 k (hin k hh)
      · exact .inr (Nat.le_trans h4.size hh)
    · exact h2 k ((g7 k).2 (.inr (.inl hk)))
    · exact h2 k ((g7 k).2 (.inr (.inr hk)))
  · rcases hk with hk | hk
    · exact a3 k hk
    · have he : e k := (g7 k).2 (.inr hk)
      have hns : ¬ S1 k := fun hs => hk.elim (g4 k hs) fun e => g5 (e ▸ hs)
      obtain ⟨o, ho, hc⟩ := h3 k he hB
      exact ⟨o, by rw [hfp.block k (Array.getElem?_eq_some_iff.1 ho).1 hns]; exact ho, hc⟩
  · obtain ⟨b1, b2⟩ := h8 y hy
    have hl := (Array.getElem?_eq_some_iff.1 b2).1
    refine ⟨fun hs => ?_, by rw [hfp.block _ hl fun hs => b1 (hin _ hs)]; exact b2⟩
    rcases hs with hs | hs
    · rcases s _ (a2 _ hs) with hh | hh
      · exact b1 (hin _ hh)
      · omega
    · exact b1 ((g7 _).2 (.inr hs))
end
end Go.Proofs.YtebakjdeighdnaaGreat

/-
  Contract of the document's Prefix of a section, into a row of its own; how long what is written is; what the run keeps.
-/
namespace Go.Proofs.YtebakjdeighdnaaGreat
open Go.RowKit Go.Maps
set_option linter.unusedVariables false

theorem refPrefix_at (B : Nat) (bV : Value) (bl : List UInt8) (f : UInt8) (F : Int) (hF : (f.toNat : Int) = F) (n : Int) (k : Nat) (hk : bitsOf n = k) (v : Nat) (V : Int) (hV : (v : Int) = V) (w : World) (hb : OwB w B bV bl) (hB : B ≤ w.heap.size) (hbl : bl.length ≤ 200000) (hv : v < 18446744073709551616) :
    Calls Tryz.prog 33 #[bV, .int .u8 F, .int .i64 n, .int .u64 V] w fun e w' => ∃ v', e = .returned v' ∧ OwB w' B v' (bl ++ pre f k v) ∧ Below B w w' ∧ NonB w w' := by
  subst hF hk hV
  exact refPrefix_non B bV bl f n v w hb hB hbl hv

set_option maxRecDepth 100000 in
set_option maxHeartbeats 1000000 in
theorem refQPrefix_own (B : Nat) (bV : Value) (bl : List UInt8) (c b : Nat) (cap : Int) (w : World) (hb : OwB w B bV bl) (hB : B ≤ w.heap.size) (hbl : bl.length ≤ 199000) (hc : c < 18446744073709551616) (hb8 : b < 18446744073709551616) (hcap : cap < 9223372036854775808) :
    Calls Tryz.prog 45 #[bV, .int .u64 c, .int .u64 b, .int .i64 cap] w fun e w' => ∃ v', e = .returned v' ∧ OwB w' B v' (bl ++ qpre c b (mostN cap)) ∧ Below B w w' ∧ NonB w w' := by
  have hm := mostN_lt hcap
  have HE := Bx.mk (refEncodeCount_any c cap hc hcap)
  obtain ⟨EC, hEC⟩ := letter (ecN c (mostN cap))
  have hP1 := fun W (h : OwB W B bV bl) (hB : B ≤ W.heap.size) => refPrefix_at B bV bl 0 0 rfl 8 8 rfl _ EC hEC W h hB (by omega) (ecN_lt hm)
  have HP1 := Bx.mk hP1
  have Hpl := Bx.mk (pre_len11 0 8 (ecN c (mostN cap)))
  have Hbl := Bx.mk hbl
  have Hb := Bx.mk hb
  have HBB := Bx.mk hB
  obtain ⟨C, hC⟩ := letter c
  obtain ⟨D, hD⟩ := letter b
  simp only [hC, hEC] at HE
  simp only [hC, hD]
  clear hP1 hEC
  unfold qpre
  by_cases h : c ≤ b
  · rw [if_pos h]
    have h1 : decide (C ≤ D) = true := by rw [decide_eq_true_iff]; omega
    obtain ⟨S, hS⟩ := letter (b - c)
    have hsub : IntKind.u64.wrap (D - C) = S := by rw [show D - C = S from by omega]; exact u64_keep (by omega) (by omega)
    have HP2 := Bx.mk fun W v l (h : OwB W B v l) (hB : B ≤ W.heap.size) (hl : l.length ≤ 200000) => refPrefix_at B v l 0 0 rfl 7 7 rfl (b - c) S hS W h hB hl (by omega)
    clear hS hC hD h hm hb hbl hc hb8 hcap hB
    go_enter Tryz.func45, Tryz.ntmps45
    go_wp2_with fail
    refine (HE.out _).mono ?_
    rintro e w' ⟨rfl, rfl⟩
    go_wp2_with fail
    refine (HP1.out _ Hb.out HBB.out).mono ?_
    rintro e w1 ⟨v1, rfl, h1, b1, n1⟩
    go_wp2_with fail
    refine (HP2.out _ _ _ h1 (Nat.le_trans HBB.out b1.size) (by have := Hbl.out; have := Hpl.out; simp; omega)).mono ?_
    rintro e w2 ⟨v2, rfl, h2, b2, n2⟩
    go_wp2_with fail
    go_ret
    exact ⟨_, rfl, by rw [← List.append_assoc]; exact h2, b1.trans b2, n1.trans n2⟩
  · rw [if_neg h]
    have h1 : decide (C ≤ D) = false := by rw [decide_eq_false_iff_not]; omega
    obtain ⟨S, hS⟩ := letter (c - b)
    obtain ⟨S', hS'⟩ := letter (c - b - 1)
    have hsub : IntKind.u64.wrap (C - D) = S := by rw [show C - D = S from by omega]; exact u64_keep (by omega) (by omega)
    have hsub2 : IntKind.u64.wrap (S - 1) = S' := by rw [show S - 1 = S' from by omega]; exact u64_keep (by omega) (by omega)
    have HP2 := Bx.mk fun W v l (h : OwB W B v l) (hB : B ≤ W.heap.size) (hl : l.length ≤ 200000) => refPrefix_at B v l 128 128 rfl 7 7 rfl (c - b - 1) S' hS' W h hB hl (by omega)
    clear hS hS' hC hD h hm hb hbl hc hb8 hcap hB
    go_enter Tryz.func45, Tryz.ntmps45
    go_wp2_with fail
    refine (HE.out _).mono ?_
    rintro e w' ⟨rfl, rfl⟩
    go_wp2_with fail
    refine (HP1.out _ Hb.out HBB.out).mono ?_
    rintro e w1 ⟨v1, rfl, h1, b1, n1⟩
    go_wp2_with fail
    refine (HP2.out _ _ _ h1 (Nat.le_trans HBB.out b1.size) (by have := Hbl.out; have := Hpl.out; simp; omega)).mono ?_
    rintro e w2 ⟨v2, rfl, h2, b2, n2⟩
    go_wp2_with fail
    go_ret
    exact ⟨_, rfl, by rw [← List.append_assoc]; exact h2, b1.trans b2, n1.trans n2⟩

/-! ### how long -/
theorem putSk_len (f : UInt8) (k : Nat) (s : List UInt8) : (putSk f k s).length ≤ s.length + 11 := by
  have h1 := (pre_len f k s.length).2
  have h2 := (pre_len (hiB f k) k (enc s 0 0).length).2
  have h3 := enc0_length s
  unfold putSk
  split
  · rw [List.length_append]; omega
  · rw [List.length_append]; omega
theorem insW_len (f : Fd) : (insW f).length ≤ fsz f + 22 := by
  have h1 := (pre_len 192 6 (findS T3 f).1).2
  have h2 := putSk_len 64 5 f.1.data.toList
  have h3 := putSk_len 0 7 f.2.data.toList
  have e1 : f.1.data.toList.length = f.1.size := by simp
  have e2 : f.2.data.toList.length = f.2.size := by simp
  unfold insW fsz
  rw [List.length_append]
  split <;> omega
theorem lineW_len (c : Nat) (x : Ql) : (lineW c x).length ≤ fsz x.f + 22 := by
  have h1 := (pre_len 192 6 x.i).2
  have h2 := (pre_len 128 6 (c - 1 - x.i)).2
  have h3 := (pre_len (if secN x.f.1 then 112 else 80) 4 x.i).2
  have h4 := putSk_len (if secN x.f.1 then 48 else 32) 3 x.f.1.data.toList
  have h5 := putSk_len 0 7 x.f.2.data.toList
  have e1 : x.f.1.data.toList.length = x.f.1.size := by simp
  have e2 : x.f.2.data.toList.length = x.f.2.size := by simp
  unfold lineW fsz
  split
  · omega
  · split
    · omega
    · split
      · rw [List.length_append]; omega
      · rw [List.length_append]; omega
theorem qstep_len (op : List Qs) (K : Nat) (free : Bool) (a : Qa) (f : Fd) : (qstep op K free a f).ins.length ≤ a.ins.length + fsz f + 22 ∧ (qstep op K free a f).all.length = a.all.length + 1 ∧ (qstep op K free a f).u.length ≤ a.u.length + 1 ∧ (qstep op K free a f).T.tot ≤ a.T.tot + 1 ∧ (qstep op K free a f).T.cap = a.T.cap := by
  have h1 := insW_len f
  have h2 := a.T.add_tot_le f
  have h3 := a.T.add_cap f
  unfold qstep
  split
  · simp [Qa.line]; omega
  · split
    · simp [Qa.ref]; omega
    · split
      · split
        · simp [Qa.ref, Qa.insd]; omega
        · simp [Qa.line, Qa.insd]; omega
      · simp [Qa.line]; omega
def wsz (l : List Fd) : Nat := (l.map fun f => fsz f + 22).sum
theorem qrun_len (op : List Qs) (K : Nat) (free : Bool) : ∀ (l : List Fd) (a : Qa), (qrun op K free l a).ins.length ≤ a.ins.length + wsz l ∧ (qrun op K free l a).all.length = a.all.length + l.length ∧ (qrun op K free l a).u.length ≤ a.u.length + l.length ∧ (qrun op K free l a).T.tot ≤ a.T.tot + l.length ∧ (qrun op K free l a).T.cap = a.T.cap
  | [], a => by simp [qrun, wsz]
  | f :: l, a => by
    obtain ⟨h1, h2, h3, h4, h5⟩ := qstep_len op K free a f
    obtain ⟨g1, g2, g3, g4, g5⟩ := qrun_len op K free l (qstep op K free a f)
    have e : qrun op K free (f :: l) a = qrun op K free l (qstep op K free a f) := rfl
    rw [e]
    simp only [wsz, List.map_cons, List.sum_cons, List.length_cons] at *
    refine ⟨by omega, by omega, by omega, by omega, by rw [g5, h5]⟩
theorem wsz_take (l : List Fd) (k : Nat) : wsz (l.take k) ≤ wsz l := by
  unfold wsz
  conv => rhs; rw [← List.take_append_drop k l]
  rw [List.map_append, List.sum_append]
  omega
theorem linesW_len (c : Nat) (all : List Ql) : (linesW c all).length ≤ wsz (all.map (·.f)) := by
  unfold linesW wsz
  induction all with
  | nil => simp
  | cons x l ih =>
    have := lineW_len c x
    simp only [List.flatMap_cons, List.length_append, List.map_cons, List.sum_cons]
    omega
theorem linesW_take (c : Nat) (all : List Ql) (k : Nat) (hk : k < all.length) : linesW c (all.take (k + 1)) = linesW c (all.take k) ++ lineW c all[k] := by
  unfold linesW
  rw [List.take_succ_eq_append_getElem hk, List.flatMap_append]
  simp
theorem capW_len (said : Bool) (cap : Nat) : (capW said cap).length ≤ 11 := by
  have := (pre_len 32 5 cap).2
  unfold capW
  split
  · exact this
  · simp
theorem QInv.start {T : Tab} (h : T.gq) (ins : List UInt8) : QInv T.cap ⟨T, ins, [], [], 0⟩ := ⟨h, rfl, fun x hx => absurd hx List.not_mem_nil, fun i hi => absurd hi List.not_mem_nil, .inl rfl⟩
end Go.Proofs.YtebakjdeighdnaaGreat

/-
  Contracts of the program's number, setCapacity, secret, text, insertion, literal.
-/
namespace Go.Proofs.YtebakjdeighdnaaGreat
open Go.RowKit
set_option linter.unusedVariables false

set_option maxRecDepth 100000 in
set_option maxHeartbeats 1000000 in
theorem qnumber_any (m : Nat) (f : UInt8) (k : Nat) (hk1 : 1 ≤ k) (hk7 : k ≤ 7) (hf : IntKind.u8.wrap ((m : Int) * 2 ^ k) = (f.toNat : Int)) (v : Nat) (w : World) (hv : v < 18446744073709551616) :
    Calls Tryz.prog 51 #[.int .u8 (m : Int), .int .i64 (k : Int), .int .u64 (v : Int)] w fun e w' => ∃ v', e = .returned v' ∧ OwB w' w.heap.size v' (pre f k v) ∧ Below w.heap.size w w' := by
  have hshl := shl_u8 k hk7 (m : Int)
  rw [hf] at hshl
  obtain ⟨mi, hmi⟩ : ∃ mi, (m : Int) = mi := ⟨_, rfl⟩
  obtain ⟨fi, hfi⟩ : ∃ fi, (f.toNat : Int) = fi := ⟨_, rfl⟩
  obtain ⟨ki, hki⟩ : ∃ ki, (k : Int) = ki := ⟨_, rfl⟩
  have hbk : bitsOf (k : Int) = k := by unfold bitsOf; omega
  have hc := prefix_own (.slice none 0 0) [] f (k : Int) v w (Rd.nil w) (by simp) hv
  rw [hbk] at hc
  rw [hmi, hki]
  rw [hmi, hki, hfi] at hshl
  rw [hki, hfi] at hc
  have HC := Bx.mk hc
  clear hc hmi hki hfi hk1 hk7 hf hbk hv
  go_enter Tryz.func51, Tryz.ntmps51
  go_wp2_with (go_at_call 85; refine HC.out.mono ?_; rintro e w1 ⟨v1, rfl, h1, b1⟩)
  go_ret
  exact ⟨_, rfl, h1, b1⟩
/-- The same, its numbers under letters. -/
theorem qnumber_at (m : Nat) (f : UInt8) (k : Nat) (hk1 : 1 ≤ k) (hk7 : k ≤ 7) (hf : IntKind.u8.wrap ((m : Int) * 2 ^ k) = (f.toNat : Int)) (v : Nat) (M K V : Int) (hM : (m : Int) = M) (hK : (k : Int) = K) (hV : (v : Int) = V) (hv : v < 18446744073709551616) (w : World) :
    Calls Tryz.prog 51 #[.int .u8 M, .int .i64 K, .int .u64 V] w fun e w' => ∃ v', e = .returned v' ∧ OwB w' w.heap.size v' (pre f k v) ∧ Below w.heap.size w w' := by
  subst hM hK hV
  exact qnumber_any m f k hk1 hk7 hf v w hv

set_option maxRecDepth 100000 in
set_option maxHeartbeats 1000000 in
theorem setCap_any (n : Nat) (w : World) (hn : n ≤ 1000000) :
    Calls Tryz.prog 49 #[.int .i64 (n : Int)] w fun e w' => ∃ v', e = .returned v' ∧ OwB w' w.heap.size v' (pre 32 5 n) ∧ Below w.heap.size w w' := by
  obtain ⟨N, hN⟩ := letter n
  have hw : IntKind.u64.wrap N = N := u64_keep (by omega) (by omega)
  have HC := Bx.mk (qnumber_at 1 32 5 (by omega) (by omega) (by rfl) n 1 5 N rfl rfl hN (by omega) w)
  rw [hN]
  clear hN hn
  go_enter Tryz.func49, Tryz.ntmps49
  go_wp2_with (go_at_call 51; refine HC.out.mono ?_; rintro e w1 ⟨v1, rfl, h1, b1⟩)
  go_ret
  exact ⟨_, rfl, h1, b1⟩

set_option maxRecDepth 100000 in
set_option maxHeartbeats 1000000 in
theorem qsecret_any (n : ByteArray) (w : World) : Calls Tryz.prog 87 #[.string n] w fun e w' => e = .returned (.bool (secN n)) ∧ w = w' := by
  rw [secN_or]
  rw [sAu_l, sCo_l, sSc_l]
  cases h1 : (n.toList == [97, 117, 116, 104, 111, 114, 105, 122, 97, 116, 105, 111, 110]) with
  | true =>
    go_enter Tryz.func87, Tryz.ntmps87
    go_wp2
    go_ret
    exact ⟨rfl, rfl⟩
  | false =>
    cases h2 : (n.toList == [99, 111, 111, 107, 105, 101]) with
    | true =>
      go_enter Tryz.func87, Tryz.ntmps87
      go_wp2
      go_ret
      exact ⟨rfl, rfl⟩
    | false =>
      cases h3 : (n.toList == [115, 101, 116, 45, 99, 111, 111, 107, 105, 101]) with
      | true =>
        go_enter Tryz.func87, Tryz.ntmps87
        go_wp2
        go_ret
        exact ⟨rfl, rfl⟩
      | false =>
        go_enter Tryz.func87, Tryz.ntmps87
        go_wp2
        go_ret
        exact ⟨rfl, rfl⟩

/-- A string as it is written, in its parts: how it is coded, its body. -/
theorem text_parts (f : UInt8) (k : Nat) (s : List UInt8) : ∃ (body : List UInt8) (F f' : UInt8) (c : Nat), c ≤ 1 ∧ F.toNat = 128 * c ∧ putS s = pre F 7 body.length ++ body ∧ putSk f k s = pre f' k body.length ++ body ∧ f' = (if c = 0 then f else hiB f k) ∧ body.length ≤ s.length := by
  unfold putS putSk strH strP
  by_cases h : (bitLen s + 7) / 8 < s.length
  · rw [if_pos h, if_pos h]
    exact ⟨enc s 0 0, 128, hiB f k, 1, Nat.le_refl _, rfl, rfl, rfl, rfl, by rw [enc0_length]; omega⟩
  · rw [if_neg h, if_neg h]
    exact ⟨s, 0, f, 0, Nat.zero_le _, rfl, rfl, rfl, rfl, Nat.le_refl _⟩
theorem pre_head (F : UInt8) (c n : Nat) (hc : c ≤ 1) (hF : F.toNat = 128 * c) (r : List UInt8) : ∃ (h : 0 < (pre F 7 n ++ r).length), (pre F 7 n ++ r)[0].toNat / 128 = c := by
  have hv : (preFirst F 7 n).toNat / 128 = c := by
    unfold preFirst hiOf
    rw [hF, UInt8.toNat_ofNat']
    omega
  unfold pre
  split
  · exact ⟨by simp, by simpa using hv⟩
  · exact ⟨by simp, by simpa using hv⟩
theorem rpAt_any (bV : Value) (l : List UInt8) (n : Int) (k : Nat) (hk : bitsOf n = k) (r : Int × Int × Int) (hr : rp k l = r) (w : World) (hb : Bs w bV l) (hm : l.length ≤ 1000000) :
    Calls Tryz.prog 72 #[bV, .int .i64 n] w fun e w' => e = .returned (.tuple #[.int .u64 r.1, .int .i64 r.2.1, .int .i64 r.2.2]) ∧ w = w' := by
  subst hk hr
  exact readPrefix_any bV l n w hb hm
theorem or_marks : ∀ m, m < 4 → ∀ c, c < 2 → (2 * m) ||| c = 2 * m + c := by decide +kernel

set_option maxRecDepth 100000 in
set_option maxHeartbeats 2000000 in
theorem text_any (m : Nat) (hm : m ≤ 3) (f : UInt8) (k : Nat) (hk1 : 1 ≤ k) (hk7 : k ≤ 7) (hf0 : IntKind.u8.wrap (((2 * m : Nat) : Int) * 2 ^ k) = (f.toNat : Int)) (hf1 : IntKind.u8.wrap (((2 * m + 1 : Nat) : Int) * 2 ^ k) = ((hiB f k).toNat : Int)) (s : ByteArray) (hs : s.size ≤ 20000) (w : World) :
    Calls Tryz.prog 92 #[.int .u8 (m : Int), .int .i64 (k : Int), .string s] w fun e w' => ∃ v', e = .returned v' ∧ OwB w' w.heap.size v' (putSk f k s.data.toList) ∧ Below w.heap.size w w' := by
  obtain ⟨body, F, f', c, hc, hF, hput, hput2, hf', hbl⟩ := text_parts f k s.data.toList
  have hsl : s.data.toList.length = s.size := by simp
  have HSTR := Bx.mk (hstr_any (.slice none 0 0) [] s w (Rd.nil w) (by simp) hs)
  rw [List.nil_append, hput] at HSTR
  rw [hput2]
  have hfm : IntKind.u8.wrap (((2 * m + c : Nat) : Int) * 2 ^ k) = (f'.toNat : Int) := by
    rcases Nat.lt_or_ge c 1 with h | h
    · obtain rfl : c = 0 := by omega
      rw [hf', if_pos rfl]; exact hf0
    · obtain rfl : c = 1 := by omega
      rw [hf', if_neg (by omega)]; exact hf1
  have hpl := (pre_len F 7 body.length).2
  have hrp := rp_pre F 7 body.length (by omega) (by omega) (by omega) body
  rw [if_pos (by unfold maxVar; omega)] at hrp
  obtain ⟨h0, hhd⟩ := pre_head F c body.length hc hF body
  have hdrop : (pre F 7 body.length ++ body).drop (pre F 7 body.length).length = body := by simp
  have hlp : (pre F 7 body.length ++ body).length = (pre F 7 body.length).length + body.length := by simp
  obtain ⟨P, hP⟩ : ∃ P, pre F 7 body.length ++ body = P := ⟨_, rfl⟩
  obtain ⟨n, hn⟩ : ∃ n, body.length = n := ⟨_, rfl⟩
  obtain ⟨j, hj⟩ : ∃ j, (pre F 7 n).length = j := ⟨_, rfl⟩
  simp only [hP] at HSTR hrp h0 hhd hdrop hlp
  rw [hn, hj] at hrp hlp
  rw [hn, hj] at hdrop
  rw [hn] at hput2 ⊢
  rw [hn, hj] at hpl
  obtain ⟨N, hN⟩ := letter n
  obtain ⟨J, hJ⟩ := letter j
  obtain ⟨M, hM⟩ := letter m
  obtain ⟨K, hK⟩ := letter k
  obtain ⟨C, hC⟩ := letter c
  obtain ⟨MC, hMC⟩ := letter (2 * m + c)
  have HNUM := Bx.mk (fun W => qnumber_at (2 * m + c) f' k hk1 hk7 hfm n MC K N hMC hK hN (by omega) W)
  have HRP := Bx.mk (fun (bV : Value) (W : World) (hb : Bs W bV P) => rpAt_any bV P 7 7 rfl _ hrp W hb (by omega))
  have hsh1 : IntKind.u8.wrap (M * 2) = ((2 * m : Nat) : Int) := by rw [IntKind.wrap_u8]; omega
  have hor : bits .or .u8 ((2 * m : Nat) : Int) C = MC := by rw [← hC, u8_or_nat _ _ (by omega) (by omega), or_marks m (by omega) c (by omega)]; exact hMC
  obtain ⟨MM, hMM⟩ := letter (2 * m)
  rw [hMM] at hsh1 hor
  simp only [hN, hJ] at HRP
  have hJ0 : 0 ≤ J ∧ J ≤ (P.length : Int) := by omega
  have hJn : J.toNat = j := by omega
  have HP : Bx (P.length ≤ 20100 ∧ 0 < P.length ∧ P.drop j = body ∧ n ≤ 20000 ∧ body.length = n ∧ J.toNat = j ∧ 0 ≤ J ∧ J ≤ (P.length : Int)) := ⟨by omega, h0, hdrop, by omega, hn, hJn, hJ0⟩
  obtain ⟨Z, hZ⟩ := letter P[0].toNat
  have hshr : Z / 128 = C := by omega
  have HZ := Bx.mk hZ
  rw [hM, hK]
  obtain ⟨i0, hi, hz, hz1, hz2⟩ := info_parts infoU8
  have HI : Bx (Tryz.prog.info? 5 = some i0 ∧ i0.zero = some (.int .u8 0) ∧ i0.size = 1 ∧ i0.bytes = 1) := ⟨hi, hz, hz1, hz2⟩
  have HPL : Bx ((pre f' k n).length ≤ 11) := ⟨(pre_len _ _ _).2⟩
  clear hn hj hN hJ hM hK hC hMC hMM hP hrp hput hput2 hf' hfm hf0 hf1 hhd hdrop hlp hc hF hs hm hk1 hk7 hpl hbl hsl hi hz hz1 hz2 hJ0 hJn
  go_enter Tryz.func92, Tryz.ntmps92
  go_wp2_with fail
  refine HSTR.out.mono ?_
  rintro e w1 ⟨v1, rfl, ho1, b1⟩
  have HB1 := Bx.mk ho1.bs
  have HW1 := Bx.mk b1
  obtain ⟨pa, hix, hcs⟩ := HB1.out.at_ 0 h0
  have e0 := hcs w1 HB1.out
  rw [HZ.out] at e0
  rw [show ((0 : Nat) : Int) = 0 from rfl] at hix
  obtain ⟨v4, hfrom, hbs⟩ := HB1.out.from_ J HP.out.2.2.2.2.2.2.1 HP.out.2.2.2.2.2.2.2
  have HFROM := Bx.mk hbs
  clear ho1 b1 hcs hbs hZ HSTR
  go_wp2_with (go_at_call 72; refine (HRP.out _ _ HB1.out).mono ?_; rintro e w2 ⟨rfl, rfl⟩)
  clear e0 hix
  go_region_law (first
    | (refine step_append_og rfl (.tmp 30) (.tmp 33) 23 rfl w1.heap.size 5 i0 (.int .u8 0) 1 Tryz.underlying23 HI.out.1 HI.out.2.1 HI.out.2.2.1 HI.out.2.2.2 rfl _ _ _ _ rfl rfl ho3 (HFROM.out _ (HB1.out.keep hbd)) one_bv (by have h1 := HPL.out; have h2 := HP.out; simp only [List.length_map, List.length_drop] at *; omega) (by have h1 := HPL.out; have h2 := HP.out; simp only [List.length_map, List.length_drop, maxLen] at *; omega) hbd.size ?_; intro v5 w5 ho5 hb5 hg5)
    | (go_simp; go_at_call 51; refine (HNUM.out _).mono ?_; rintro e w3 ⟨v3, rfl, ho3, b3⟩; have hbd := ((Below.refl w1.heap.size w1).drew).trans b3))
  go_wp2_with fail
  go_ret
  refine ⟨_, rfl, ?_, ?_⟩
  · have := OwB.cat ho5
    rw [HP.out.2.2.2.2.2.1, HP.out.2.2.1] at this
    exact this.mono HW1.out.size
  · exact HW1.out.trans ((hbd.trans hb5).mono HW1.out.size)

end Go.Proofs.YtebakjdeighdnaaGreat

/-
  Contracts of the encoder's hasRoom and mayInsert.
-/
namespace Go.Proofs.YtebakjdeighdnaaGreat
open Go.RowKit Go.Maps
set_option linter.unusedVariables false

theorem i64_keep {x : Int} (h1 : -4611686018427387904 ≤ x) (h2 : x ≤ 4611686018427387904) : wrap64 x = x ∧ IntKind.i64.wrap x = x := by
  refine ⟨?_, ?_⟩
  · unfold wrap64; omega
  · rw [IntKind.wrap_i64]; omega
/-- May an entry not go, told by how many sections use it? -/
def pinC (K : Nat) (c : Nat → Nat) (a : Nat) : Bool := decide (K ≤ a) || decide (0 < c a)
section
variable {q p : Nat} {X : Qc} {Z : World → Prop} {w w' : World} {S : Nat → Prop} {c : Nat → Nat}
set_option maxRecDepth 100000 in
set_option maxHeartbeats 4000000 in
theorem hasRoom_any (h : Raw q p X Z w S) (hc : X.gU = useF c) (n : Nat) (hn : n ≤ X.T.cap) (hgq : X.T.gq) (hcb : ∀ a, c a ≤ 1000000000) :
    Calls Tryz.prog 88 #[.pointer (some ⟨q, 0, none⟩), .int .i64 (n : Int)] w fun e w' => e = .returned (.bool (roomGo X.T.cap n (pinC X.K c) X.T.l X.T.first)) ∧ Below w.heap.size w w' := by
  have hok := h.ok
  obtain ⟨bs, bq, bu, bb, vR, S1, S2, h, _⟩ := h
  have hX0 : ∀ W, Below w.heap.size w W → W.cell? ⟨q, 0, none⟩ = some (.pointer (some ⟨p, 0, none⟩)) := fun W hW => (h.keep hW).cells.1
  have HCS := Bx.mk (fun (W : World) (hW : Below w.heap.size w W) => (h.keep hW).cells)
  have HLU := Bx.mk (fun (W : World) (hW : Below w.heap.size w W) (i : Nat) (hi : okU i) => (h.keep hW).lookU hc hi)
  have HTB := Bx.mk (fun (W : World) (hW : Below w.heap.size w W) => (Wd.tb _ _).keep h.tb hW)
  have hb0 := (Below.refl w.heap.size w).drew
  have hsz := hgq.size
  have hcap : X.T.cap ≤ 1000000 := hok.cap
  have htot : X.T.tot ≤ 1000000 := hok.tot
  have hlt := hok.len
  obtain ⟨cap, hcp⟩ : ∃ cap, X.T.cap = cap := ⟨_, rfl⟩
  obtain ⟨tot, htt⟩ : ∃ tot, X.T.tot = tot := ⟨_, rfl⟩
  obtain ⟨K, hK⟩ : ∃ K, X.K = K := ⟨_, rfl⟩
  have hfirst : X.T.first = tot - X.T.l.length := by rw [← htt]; rfl
  obtain ⟨fr, hfr⟩ : ∃ fr, X.T.first = fr := ⟨_, rfl⟩
  have HSIZE := Bx.mk (fun (W : World) (hW : Below w.heap.size w W) => size_any' (HTB.out W hW))
  have HCAP : Bx (∀ W, Below w.heap.size w W → Calls Tryz.prog 48 #[.pointer (some ⟨p, 0, none⟩)] W fun e w' => e = .returned (.int .i64 (cap : Int)) ∧ Below W.heap.size W w') := ⟨fun W hW => by rw [← hcp]; exact cap_any (HTB.out W hW)⟩
  have HCNT : Bx (∀ W, Below w.heap.size w W → Calls Tryz.prog 54 #[.pointer (some ⟨p, 0, none⟩)] W fun e w' => e = .returned (.int .u64 (tot : Int)) ∧ Below W.heap.size W w') := ⟨fun W hW => by rw [← htt]; exact count_any (HTB.out W hW)⟩
  have HLEN := Bx.mk (fun (W : World) (hW : Below w.heap.size w W) => dlen_any (HTB.out W hW))
  have HAT : Bx (∀ (W : World) (hW : Below w.heap.size w W) (i : Nat) (hi : i < 18446744073709551616), Calls Tryz.prog 109 #[.pointer (some ⟨p, 0, none⟩), .int .u64 (i : Int)] W fun e w' => e = .returned (.tuple #[aggF (entF X.T.l fr i), .bool (isF X.T.l fr i)]) ∧ Below W.heap.size W w') := ⟨fun W hW i hi => by rw [← hfr]; exact at_any (HTB.out W hW) i hi⟩
  rw [hcp] at hn hsz hcap
  rw [hcp, hK, hfr]
  rw [htt] at htot hlt
  rw [hfr] at hfirst
  simp only [hK] at HCS
  generalize X.T.l = l at HSIZE HLEN HAT hsz hlt hfirst ⊢
  obtain ⟨L, hL⟩ : ∃ L, l.length = L := ⟨_, rfl⟩
  rw [hL] at HLEN hlt hfirst
  obtain ⟨s0, hs0⟩ : ∃ s0, sizeF l = s0 := ⟨_, rfl⟩
  rw [hs0] at HSIZE hsz
  have q1 : -4611686018427387904 ≤ (s0 : Int) + (n : Int) ∧ (s0 : Int) + (n : Int) ≤ 4611686018427387904 ∧ -4611686018427387904 ≤ (s0 : Int) + (n : Int) - (cap : Int) ∧ (s0 : Int) + (n : Int) - (cap : Int) ≤ 4611686018427387904 := by omega
  have q2 : (0 : Int) ≤ (L : Int) ∧ (L : Int) < 18446744073709551616 ∧ (0 : Int) ≤ (tot : Int) - (L : Int) ∧ (tot : Int) - (L : Int) < 18446744073709551616 ∧ (tot : Int) - (L : Int) = (fr : Int) := by omega
  obtain ⟨hw1, hw1'⟩ := i64_keep q1.1 q1.2.1
  obtain ⟨hv2, hv2'⟩ := i64_keep q1.2.2.1 q1.2.2.2
  have hw3 : IntKind.u64.wrap (L : Int) = (L : Int) := u64_keep q2.1 q2.2.1
  have hw4 : IntKind.u64.wrap ((tot : Int) - (L : Int)) = (fr : Int) := by rw [u64_keep q2.2.2.1 q2.2.2.2.1]; exact q2.2.2.2.2
  clear q1 q2
  have HNUM : Bx (n ≤ cap ∧ s0 ≤ cap ∧ cap ≤ 1000000 ∧ tot ≤ 1000000 ∧ L ≤ tot ∧ fr = tot - L ∧ l.length = L ∧ sizeF l = s0) := ⟨hn, hsz, hcap, htot, hlt, hfirst, hL, hs0⟩
  have HCB := Bx.mk hcb
  obtain ⟨SN, hSN⟩ : ∃ SN : Int, (s0 : Int) + (n : Int) = SN := ⟨_, rfl⟩
  obtain ⟨OV, hOV⟩ : ∃ OV : Int, SN - (cap : Int) = OV := ⟨_, rfl⟩
  rw [hSN] at hw1 hv2 hw1' hv2'
  have hw2' : IntKind.i64.wrap (SN - (cap : Int)) = OV := hv2'.trans hOV
  have hw2 : wrap64 (SN - (cap : Int)) = OV := hv2.trans hOV
  clear hv2 hv2'
  obtain ⟨R, hR⟩ : ∃ R, roomGo cap n (pinC K c) l fr = R := ⟨_, rfl⟩
  have HR := Bx.mk hR
  rw [hR]
  have HOV : Bx ((s0 : Int) + (n : Int) - (cap : Int) = OV) := ⟨by rw [hSN]; exact hOV⟩
  have hs1 : (s0 : Int) + (n : Int) = SN := hSN
  clear h hc hn hgq hok hcb hcp htt hK hfr hL hs0 hcap htot hlt hfirst hsz hOV hR
  go_enter Tryz.func88, Tryz.ntmps88
  go_upto_region 1 with fail
  go_cut [5] from 10 to 22 (fun s5 wx => s5 = .int .i64 OV ∧ Bx (Below w.heap.size w wx))
  case first =>
    go_region_held (fun W => Below w.heap.size w W) (first | assumption) (first
      | (go_at_call 108; refine (HSIZE.out _ (by assumption)).mono ?_; rintro e w3 ⟨rfl, hb3⟩; have hS3 := below_next (by assumption) hb3)
      | (go_at_call 48; refine (HCAP.out _ (by assumption)).mono ?_; rintro e w3 ⟨rfl, hb3⟩; have hS3 := below_next (by assumption) hb3))
    all_goals go_wp2_with fail
    all_goals go_meet
    all_goals exact ⟨rfl, ⟨hS3⟩⟩
  case rest =>
    obtain ⟨rfl, HB1⟩ := hcut
    clear hb0 hw1 hw2 hw1' hw2' HSIZE HCAP hs1 hSN
    go_upto_region 2 with fail
    go_cut [6] from 23 to 34 (fun s6 wx => s6 = .int .u64 (fr : Int) ∧ Bx (Below w.heap.size w wx))
    case first =>
      have hb1 := HB1.out.drew
      go_region_held (fun W => Below w.heap.size w W) (first | assumption) (first
        | (go_at_call 54; refine (HCNT.out _ (by assumption)).mono ?_; rintro e w3 ⟨rfl, hb3⟩; have hS3 := below_next (by assumption) hb3)
        | (go_at_call 20; refine (HLEN.out _ (by assumption)).mono ?_; rintro e w3 ⟨rfl, hb3⟩; have hS3 := below_next (by assumption) hb3))
      all_goals go_wp2_with fail
      all_goals go_meet
      all_goals exact ⟨rfl, ⟨hS3⟩⟩
    case rest =>
      clear HB1
      obtain ⟨rfl, HB2⟩ := hcut
      clear hw3 hw4 HCNT HLEN
      go_wp2_with fail
      go_loopg [5, 7] L (fun gk s5 s7 wx => ∃ (k : Nat) (O : Int), k + gk = L ∧ s7 = .int .u64 ((fr + k : Nat) : Int) ∧ s5 = .int .i64 O ∧ Bx ((sizeF (l.drop k) : Int) + (n : Int) - (cap : Int) = O) ∧ Bx (roomGo cap n (pinC K c) (l.drop k) (fr + k) = R) ∧ Bx (Below w.heap.size w wx))
      case atStart => exact ⟨0, OV, by omega, rfl, rfl, ⟨by rw [List.drop_zero, HNUM.out.2.2.2.2.2.2.2]; exact HOV.out⟩, ⟨HR.out⟩, HB2⟩
      case round =>
        obtain ⟨k, O, hkg, rfl, rfl, HO, HRK, HB⟩ := hrel
        clear HB2
        by_cases hO : O > 0
        · have hd : decide (O > 0) = true := decide_eq_true hO
          have hkL : k < L := by
            refine Nat.lt_of_not_le fun hge => ?_
            have h1 := HO.out
            have h2 := HNUM.out
            rw [List.drop_of_length_le (by omega)] at h1
            have h3 : ((sizeF ([] : List Fd) : Nat) : Int) = 0 := rfl
            omega
          cases gk with
          | zero => exact absurd hkL (by omega)
          | succ g =>
            have hkl : k < l.length := by have := HNUM.out.2.2.2.2.2.2.1; omega
            have hdk : l.drop k = l[k] :: l.drop (k + 1) := List.drop_eq_getElem_cons hkl
            have hroom := HRK.out
            rw [hdk] at hroom
            unfold roomGo at hroom
            rw [if_pos (by have h1 := HO.out; rw [hdk] at h1; omega)] at hroom
            have HRM := Bx.mk hroom
            have hent : entF l fr (fr + k) = l[k] := by
              unfold entF
              rw [dif_pos ⟨by omega, by omega⟩]
              simp only [Nat.add_sub_cancel_left]
            have hsum : (sizeF (l.drop k) : Int) = (fsz l[k] + 32 : Nat) + (sizeF (l.drop (k + 1)) : Int) := by rw [hdk]; simp only [sizeF]; omega
            have hszk : sizeF (l.drop k) ≤ 1000000 := by
              have h1 : ∀ (l : List Fd) (k : Nat), sizeF (l.drop k) ≤ sizeF l := fun l => by
                induction l with
                | nil => intro k; simp [sizeF]
                | cons x l ih =>
                  intro k
                  cases k with
                  | zero => exact Nat.le_refl _
                  | succ k => have := ih k; simp only [List.drop_succ_cons, sizeF]; omega
              have := h1 l k
              have := HNUM.out
              omega
            have hat := HAT.out
            obtain ⟨pl, hpl⟩ : ∃ pl, fr + k = pl := ⟨_, rfl⟩
            have hplb : pl ≤ 1000000 := by have := HNUM.out; omega
            obtain ⟨f1, hf1⟩ : ∃ f1, l[k].1 = f1 := ⟨_, rfl⟩
            obtain ⟨f2, hf2⟩ : ∃ f2, l[k].2 = f2 := ⟨_, rfl⟩
            have hlk : l[k] = (f1, f2) := by rw [← hf1, ← hf2]
            obtain ⟨nz, hnz⟩ : ∃ nz, fsz l[k] + 32 = nz := ⟨_, rfl⟩
            have hnzb : nz ≤ 1000000 := by rw [hnz] at hsum; omega
            have HATK : Bx (∀ W : World, Below w.heap.size w W → Calls Tryz.prog 109 #[.pointer (some ⟨p, 0, none⟩), .int .u64 (pl : Int)] W fun e w' => (∃ b, e = .returned (.tuple #[.agg #[.string f1, .string f2], .bool b])) ∧ Below W.heap.size W w') := ⟨fun W hW => by
              refine (HAT.out W hW pl (by omega)).mono ?_
              rintro e w' ⟨rfl, hb⟩
              exact ⟨⟨isF l fr pl, by rw [← hpl, hent, hlk]; rfl⟩, hb⟩⟩
            have HSZK : Bx (∀ (W : World) (u : Value), Fs W u [(f1, f2)] → Calls Tryz.prog 86 #[u] W fun e w' => e = .returned (.int .i64 (nz : Int)) ∧ Below W.heap.size W w') := ⟨fun W u hu => by
              have h1 : sizeF [(f1, f2)] = nz := by rw [← hnz, hlk]; simp [sizeF]
              rw [← h1]
              exact size_any u [(f1, f2)] W hu (by rw [h1]; omega)⟩
            obtain ⟨c0, _, _, c3, _, _, c6, _⟩ := HCS.out wr HB.out
            have hlu := HLU.out wr HB.out pl (by unfold okU; omega)
            have hcb := HCB.out pl
            rw [hpl] at hroom
            rw [hpl] at HRM
            have hrv : R = (if pinC K c pl then false else roomGo cap n (pinC K c) (l.drop (k + 1)) (pl + 1)) := HRM.out.symm
            have HPL := Bx.mk hpl
            have HNZ : Bx ((sizeF (l.drop k) : Int) = (nz : Int) + (sizeF (l.drop (k + 1)) : Int)) := ⟨by rw [hsum, hnz]⟩
            have hO2 : -4611686018427387904 ≤ O - (nz : Int) ∧ O - (nz : Int) ≤ 4611686018427387904 := by have := HO.out; have := HNUM.out; omega
            have HO2 := Bx.mk (i64_keep hO2.1 hO2.2)
            obtain ⟨O', hO'⟩ : ∃ O', O - (nz : Int) = O' := ⟨_, rfl⟩
            have hwO : IntKind.i64.wrap (O - (nz : Int)) = O' := HO2.out.2.trans hO'
            have hwO2 : wrap64 (O - (nz : Int)) = O' := HO2.out.1.trans hO'
            have HOO : Bx ((sizeF (l.drop (k + 1)) : Int) + (n : Int) - (cap : Int) = O') := ⟨by have := HO.out; have := HNZ.out; omega⟩
            have HNX : Bx (pinC K c pl = false → roomGo cap n (pinC K c) (l.drop (k + 1)) (fr + (k + 1)) = R) := ⟨fun hp => by rw [hrv, hp, ← Nat.add_assoc, HPL.out]; rfl⟩
            have HYES : Bx (pinC K c pl = true → R = false) := ⟨fun hp => by rw [hrv, hp]; rfl⟩
            obtain ⟨pl1, hpl1⟩ : ∃ pl1, pl + 1 = pl1 := ⟨_, rfl⟩
            have hwp : IntKind.u64.wrap ((pl : Int) + 1) = (pl1 : Int) := by rw [u64_keep (by omega) (by omega)]; omega
            have HPL1 : Bx (fr + (k + 1) = pl1) := ⟨by omega⟩
            simp only [hpl]
            obtain ⟨cc, hcc⟩ : ∃ cc, c pl = cc := ⟨_, rfl⟩
            rw [hcc] at hlu
            have hpin : pinC K c pl = (decide (K ≤ pl) || decide (0 < cc)) := by unfold pinC; rw [hcc]
            rw [hpin] at HNX HYES
            obtain ⟨CC, hCC⟩ := letter cc
            rw [hCC] at hlu
            obtain ⟨PL, hPL⟩ := letter pl
            rw [hPL] at hlu hwp
            simp only [hPL] at HATK
            simp only [hPL]
            obtain ⟨KK, hKK⟩ := letter K
            rw [hKK] at c3
            clear hroom hat hent hsum hszk hpl hf1 hf2 hlk hnz hcb HRM hrv hO2 HO2 hO' hpl1 hcc hpin hdk hkl hO
            by_cases hp1 : K ≤ pl
            · have hd1 : decide (PL ≥ KK) = true := decide_eq_true (by omega)
              have HF := Bx.mk (HYES.out (by rw [decide_eq_true hp1]; rfl))
              clear hp1 HNX HYES hPL hKK hCC hplb hnzb
              go_wp2_with fail
              go_ret
              rw [HF.out]
              exact ⟨rfl, HB.out⟩
            · have hd1 : decide (PL ≥ KK) = false := decide_eq_false (by omega)
              by_cases hp2 : 0 < cc
              · have hd2 : decide (CC > 0) = true := decide_eq_true (by omega)
                have HF := Bx.mk (HYES.out (by rw [decide_eq_true hp2, Bool.or_true]))
                clear hp1 hp2 HNX HYES hPL hKK hCC hplb hnzb
                go_wp2_with fail
                go_ret
                rw [HF.out]
                exact ⟨rfl, HB.out⟩
              · have hd2 : decide (CC > 0) = false := decide_eq_false (by omega)
                have HF := Bx.mk (HNX.out (by rw [decide_eq_false hp1, decide_eq_false hp2]; rfl))
                clear hp1 hp2 HNX HYES hPL hKK hCC hplb hnzb
                go_wp2_with (first
                  | (go_at_call 109; refine (HATK.out _ HB.out).mono ?_; rintro e w3 ⟨⟨bb2, rfl⟩, hb3⟩; have HB3 := Bx.mk (HB.out.trans (hb3.mono HB.out.size)); clear hb3))
                refine (HSZK.out _ _ (Fs.one (w3.alloc (.cells #[.string f1, .string f2] 53)) (w3.heap.size + 1) (by simp) (f1, f2))).mono ?_
                rintro e w4 ⟨rfl, hb4⟩
                have b2 := ((Below.refl w3.heap.size w3).alloc (Nat.le_refl _) (.cells #[.string f1, .string f2] 53)).alloc (Nat.le_trans (Nat.le_succ _) (by simp)) (.cells #[.string f1, .string f2] 53)
                have HB4 := Bx.mk (HB3.out.trans ((b2.trans (hb4.mono b2.size)).mono HB3.out.size))
                clear hb4 b2
                go_wp2_with fail
                go_roundg g
                case measure => omega
                case rel => exact ⟨k + 1, O', by omega, by rw [HPL1.out], rfl, HOO, HF, HB4⟩
        · have hd : decide (O > 0) = false := decide_eq_false hO
          have HF : Bx (R = true) := ⟨by
            rw [← HRK.out]
            have h1 := HO.out
            cases hl : l.drop k with
            | nil => rfl
            | cons x r =>
              unfold roomGo
              rw [if_neg]
              rw [hl] at h1
              omega⟩
          go_wp2_with fail
          go_ret
          rw [HF.out]
          exact ⟨rfl, HB.out⟩
end
end Go.Proofs.YtebakjdeighdnaaGreat
