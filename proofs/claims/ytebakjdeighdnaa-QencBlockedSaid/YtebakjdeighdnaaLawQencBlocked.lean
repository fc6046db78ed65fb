/-
  bifoldlaw9.QencBlocked answers true, whatever its arguments: the walk.
-/
import Derived.Test.YtebakjdeighdnaaM19
import Derived.Deep.CutRange
import Derived.Deep.CutBlock
import Derived.Deep.RegionHeld
import Derived.Handy
namespace Go.Proofs.Ytebakjdeighdnaa
open Go.RowKit Go.Maps
set_option linter.unusedVariables false

theorem light_of9 {l : List Fd} (h : lightB l = true) : l.length ≤ 70 ∧ sumF l ≤ 3000 := by
  unfold lightB at h
  simpa using h
theorem light_each9 {l : List Fd} (h : sumF l ≤ 3000) : ∀ f ∈ l, f.1.size ≤ 3000 ∧ f.2.size ≤ 3000 := by
  intro f hf
  obtain ⟨i, hi, rfl⟩ := List.getElem_of_mem hf
  have := fsz_le l i hi
  unfold fsz at this
  omega
theorem upenc {q p N s B : Nat} {E : Qe} {w : World} (h : Up B (Pq q p N E) w) (hB : B ≤ w.heap.size) (hg : E.good) (hs : okU s) {v : Value} {l : List Fd} (hv : ∀ W, Below B w W → Fs W v l) (hl : l.length ≤ 10000) (hz : ∀ f ∈ l, f.1.size ≤ 20000 ∧ f.2.size ≤ 20000) (hc : E.T.cap ≤ 1000000) (ht : E.T.tot + 20000 ≤ 1000000) (hN : N + 100000 ≤ 1000000000) :
    Calls Try.prog 7 #[.pointer (some ⟨q, 0, none⟩), .int .u64 (s : Int), v] w fun r w' => ∃ a b, r = .returned (.tuple #[a, b]) ∧ ∃ N', N' ≤ N + 2 * l.length + 2 ∧ Up B (Pq q p N' (E.enc s l)) w' ∧ OwB w' w.heap.size a (E.acc s l).ins ∧ OwB w' w.heap.size b (E.sec s l) ∧ Below B w w' := by
  obtain ⟨S, h1, h2⟩ := h
  refine (pqencode_any h1 hg hs (fun W hf => hv W (hf.below hB h2)) hl hz hc ht hN).mono ?_
  rintro r w' ⟨a, b, rfl, N', S', hN', hq, hoa, hob, hsub, hf, _, _⟩
  exact ⟨a, b, rfl, N', hN', ⟨S', hq, fun k hk => (hsub k hk).elim (h2 k) fun hge => Nat.le_trans hB hge⟩, hoa, hob, hf.below hB h2⟩
set_option maxRecDepth 100000 in
set_option maxHeartbeats 8000000 in
theorem qencBlocked_walk (n0 : Int) (hn0 : (Lit.int .u8 n0).wf = true) (v1 : Value) (vs : List Value) (ll : List (List Fd)) (w : World) (hv1 : Fss w v1 vs ll) (hsm : ∀ l ∈ ll, Small l) :
    Calls Try.prog 3 #[.int .u8 n0, v1] w fun e w' => e = .returned (.bool true) ∧ Below w.heap.size w w' := by
  have hr0 : 0 ≤ n0 ∧ n0 < 256 := by
    simp [Lit.wf, IntKind.min, IntKind.max, IntKind.signed, IntKind.bits] at hn0
    omega
  obtain ⟨m0, rfl⟩ : ∃ m0 : Nat, n0 = (m0 : Int) := ⟨n0.toNat, by omega⟩
  have HV1 := Bx.mk hv1
  have HSM := Bx.mk hsm
  have hlen1 := fun ty W => hv1.run_len ty W
  have hm1 := Rd.len hv1.1
  have hvl := hv1.2.1
  simp only [maxLen] at hm1
  obtain ⟨n1, hn1⟩ : ∃ n1, ll.length = n1 := ⟨_, rfl⟩
  rw [hn1] at hlen1 hvl
  rw [hvl] at hm1
  have HN := Bx.mk hn1
  clear hv1 hsm hn1 hvl hn0
  have HK9 := Bx.mk (known9_any w)
  by_cases hbig : 10 < n1
  · have hbb : decide (10 < (n1 : Int)) = true := decide_eq_true (by omega)
    clear hbig hm1 hr0
    go_enter Try.func3, Try.ntmps3
    go_wp2_with (go_at_call 4; refine HK9.out.mono ?_; rintro e w1 ⟨rfl, b1⟩; have HB1 := Bx.mk b1; clear b1)
    go_ret
    exact ⟨rfl, HB1.out⟩
  have hbb : decide (10 < (n1 : Int)) = false := decide_eq_false (by omega)
  have hn10 : n1 ≤ 10 := by omega
  clear hbig hm1
  obtain ⟨kk, hkk⟩ : ∃ kk, m0 % 4 = kk := ⟨_, rfl⟩
  have hk4 : kk ≤ 3 := by omega
  have hrem : (m0 : Int).tmod 4 = (kk : Int) := by
    rw [Int.tmod_eq_emod_of_nonneg (by omega)]
    omega
  have hw8 : IntKind.u8.wrap (kk : Int) = (kk : Int) := by rw [IntKind.wrap_u8]; omega
  have hw64 : IntKind.i64.wrap (kk : Int) = (kk : Int) := by simp [IntKind.wrap, IntKind.signed, IntKind.bits]; omega
  have HNEW := Bx.mk (fun W => pqnew_any 4096 (kk : Int) (by omega) W)
  rw [show clampN 4096 = 4096 from rfl] at HNEW
  simp only [Int.toNat_natCast] at HNEW
  have HKK := Bx.mk hk4
  clear hkk hr0 hk4
  go_enter Try.func3, Try.ntmps3
  go_wp2_with (first
    | (go_at_call 4; refine HK9.out.mono ?_; rintro e w1 ⟨rfl, b1⟩; have HB1 := Bx.mk b1; clear b1)
    | (go_at_call 5; refine (HNEW.out _).mono ?_; rintro e w2 ⟨q, p, S2, rfl, hq2, hs2, b2⟩; have HU2 : Bx (Up w1.heap.size (Pq q p 0 (Qe.new 4096 kk)) w2) := ⟨⟨S2, hq2, hs2⟩⟩; have HB2 := Bx.mk b2; clear hq2 hs2 b2))
  go_loopg [7, 8] n1 (fun g s7 s8 wx => ∃ (k need N : Nat) (E : Qe), k + g = n1 ∧ s8 = .int .i64 k ∧ s7 = .int .i64 need ∧ Bx (N ≤ 100 * k) ∧ Bx (Up w1.heap.size (Pq q p N E) wx) ∧ Bx (Bq kk k need E) ∧ Bx (Below w1.heap.size w1 wx))
  case atStart => exact ⟨0, 0, 0, _, by omega, rfl, rfl, ⟨Nat.zero_le _⟩, HU2, ⟨Bq.start kk⟩, HB2⟩
  case round =>
    obtain ⟨k, need, N, E, hkg, rfl, rfl, HNN, HU, HQ, HB⟩ := hrel
    clear HU2
    cases gk with
    | zero =>
      obtain rfl : k = n1 := by omega
      have hle : decide (need ≤ kk) = true := decide_eq_true HQ.out.le
      obtain ⟨S5, hq5, _⟩ := HU.out
      have HKN := Bx.mk (pqknown hq5)
      rw [HQ.out.K] at HKN
      clear hq5
      go_wp2_with (go_at_call 8; refine HKN.out.mono ?_; rintro r w9 ⟨rfl, rfl⟩)
      go_ret
      exact ⟨rfl, HB1.out.trans (HB.out.mono HB1.out.size)⟩
    | succ g =>
      have hk : k < ll.length := by have := HN.out; omega
      have hkd : decide ((k : Int) < (n1 : Int)) = true := decide_eq_true (by omega)
      have hk10 : k ≤ 10 := by omega
      obtain ⟨b, o, u, hix, ⟨ua, un, uc, rfl⟩, hfu, hcs⟩ := HV1.out.at_ k hk
      have HCS := Bx.mk hcs
      have hcell := (hcs wr (HV1.out.keep (HB1.out.trans (HB.out.mono HB1.out.size)))).1
      obtain ⟨l, hl⟩ : ∃ l, ll[k] = l := ⟨_, rfl⟩
      have hsm := HSM.out ll[k] (List.getElem_mem hk)
      rw [hl] at hfu hsm HCS
      have HFU := Bx.mk hfu
      have HSL := Bx.mk hsm
      have hun : un = l.length := by
        obtain ⟨A, c, e, _⟩ := hfu
        injection e
      clear hcs hfu hsm hl hk
      by_cases hgt : 6 < un
      · have hd : decide (6 < un) = true := decide_eq_true hgt
        have hd2 : decide ((6 : Int) < (un : Int)) = true := decide_eq_true (by omega)
        clear hgt hun
        go_wp2_with fail
        go_ret
        exact ⟨rfl, HB1.out.trans (HB.out.mono HB1.out.size)⟩
      have hd : decide (6 < un) = false := decide_eq_false hgt
      have hd2 : decide ((6 : Int) < (un : Int)) = false := decide_eq_false (by omega)
      have HL6 : Bx (l.length ≤ 6) := ⟨by omega⟩
      obtain ⟨lb, hlb⟩ : ∃ lb, lightB l = lb := ⟨_, rfl⟩
      have HLB := Bx.mk hlb
      clear hgt hun hlb
      have HFSW : Bx (∀ W, Below w1.heap.size w1 W → Fs W (.slice ua un uc) l) := ⟨fun W hW => HFU.out.keep (HB1.out.trans (hW.mono HB1.out.size))⟩
      have HCELL : Bx (∀ W, Below w1.heap.size w1 W → W.cell? ⟨b, o, none⟩ = some (.slice ua un uc)) := ⟨fun W hW => (HCS.out W (HV1.out.keep (HB1.out.trans (hW.mono HB1.out.size)))).1⟩
      have HLG := Bx.mk (light_any (.slice ua un uc) l wr (HFSW.out wr HB.out) HSL.out)
      rw [HLB.out] at HLG
      clear HCS
      cases lb with
      | false =>
        go_wp2_with (go_at_call 6; refine HLG.out.mono ?_; rintro e w5 ⟨rfl, b5⟩; have HB5 := Bx.mk (HB.out.trans (b5.mono HB.out.size)); clear b5)
        go_ret
        exact ⟨rfl, HB1.out.trans (HB5.out.mono HB1.out.size)⟩
      | true =>
        have HLI := Bx.mk (light_of9 HLB.out)
        have HEA := Bx.mk (light_each9 HLI.out.2)
        have hku : IntKind.u64.wrap (k : Int) = (k : Int) := u64_keep (by omega) (by omega)
        obtain ⟨b0, rr, need', hsec, hbq, hnd⟩ := HQ.out.step hk10 l HL6.out (fun f hf => by have := HEA.out f hf; unfold fsz; omega) (by have := HKK.out; omega)
        have HSEC := Bx.mk hsec
        have HBQ := Bx.mk hbq
        have HND := Bx.mk hnd
        obtain ⟨L, hL⟩ : ∃ L, (b0 :: rr).length = L := ⟨_, rfl⟩
        have hl0 : ((L : Int) == 0) = false := by rw [beq_eq_false_iff_ne]; simp only [List.length_cons] at hL; omega
        have HL := Bx.mk hL
        obtain ⟨B0, hB0⟩ := letter b0.toNat
        have HB0 := Bx.mk hB0
        obtain ⟨nz, hnz⟩ : ∃ nz : Bool, (B0 != 0) = nz := ⟨_, rfl⟩
        have HNZ := Bx.mk hnz
        have hz0 : b0 ≠ 0 ↔ nz = true := by
          rw [← hnz, bne_iff_ne]
          constructor
          · intro h e
            have : b0.toNat = 0 := by omega
            exact h (UInt8.toNat_inj.1 (this.trans rfl))
          · intro h e
            exact h (by rw [← hB0, e]; rfl)
        have HZ0 := Bx.mk hz0
        have HRD : Bx (∀ (w6 : World) (v6 : Value) (B : Nat), OwB w6 B v6 (E.sec k l) → ∃ pa : Addr, (∀ W : World, (Instr.indexAt 28 v6 (.int .i64 0)).run Try.prog W = .ok (.pointer (some pa)) W) ∧ w6.cell? pa = some (.int .u8 B0) ∧ ∀ ty W, (Builtin.len_ #[28] ty #[v6]).run Try.prog W = .ok (.int .i64 (L : Int)) W) := ⟨fun w6 v6 B ho => by
          rw [hsec] at ho
          obtain ⟨pa, h1, h2⟩ := ho.bs.at_ 0 (by simp)
          have h3 := h2 w6 ho.bs
          simp only [List.getElem_cons_zero, hB0] at h3
          exact ⟨pa, h1, h3, fun ty W => by rw [← hL]; exact ho.bs.run_len ty W⟩⟩
        clear hL hB0 hz0
        have HWN : Bx (wrap64 ((need : Int) + 1) = ((need + 1 : Nat) : Int)) := ⟨(i64_keep (by have := HQ.out.le; have := HKK.out; omega) (by have := HQ.out.le; have := HKK.out; omega)).1⟩
        have HENC := Bx.mk (fun (w5 : World) (hu : Up w1.heap.size (Pq q p N E) w5) (hb : Below w1.heap.size w1 w5) => upenc (s := k) hu hb.size HQ.out.good (by unfold okU; omega) (fun W hW => HFSW.out W (hb.trans hW)) (by have := HL6.out; omega) (fun f hf => by have := HEA.out f hf; omega) (by rw [HQ.out.cap]; decide) (by have := HQ.out.tot; omega) (by have := HNN.out; omega))
        clear hsec hbq hnd
        cases nz with
        | false =>
          go_wp2_with (first
            | (go_at_call 6; refine HLG.out.mono ?_; rintro e w5 ⟨rfl, b5⟩; have HB5 := Bx.mk (HB.out.trans (b5.mono HB.out.size)); have HU5 := Bx.mk (HU.out.keep (Wd.pq _ _ _ _) b5); have hcell5 := HCELL.out w5 HB5.out; clear b5 hcell)
            | (go_at_call 7; refine (HENC.out w5 HU5.out HB5.out).mono ?_; rintro e w6 ⟨a6, v6, rfl, N6, hn6, hu6, hoa6, hob6, hb6⟩; have HN6 := Bx.mk hn6; have HU6 := Bx.mk hu6; have HO6 := Bx.mk hob6; have HB6 := Bx.mk (HB5.out.trans hb6); obtain ⟨pa, hix6, e6, hlen6⟩ := HRD.out w6 v6 _ hob6; clear hn6 hu6 hoa6 hob6 hb6))
          go_roundg g
          case measure => omega
          case rel => exact ⟨k + 1, need, N6, _, by omega, by go_num, rfl, ⟨by have := HN6.out; have := HNN.out; have := HL6.out; omega⟩, HU6, ⟨by have := HBQ.out; rw [HND.out, if_neg (fun h => Bool.false_ne_true (HZ0.out.1 h))] at this; exact this⟩, HB6⟩
        | true =>
          go_wp2_with (first
            | (go_at_call 6; refine HLG.out.mono ?_; rintro e w5 ⟨rfl, b5⟩; have HB5 := Bx.mk (HB.out.trans (b5.mono HB.out.size)); have HU5 := Bx.mk (HU.out.keep (Wd.pq _ _ _ _) b5); have hcell5 := HCELL.out w5 HB5.out; clear b5 hcell)
            | (go_at_call 7; refine (HENC.out w5 HU5.out HB5.out).mono ?_; rintro e w6 ⟨a6, v6, rfl, N6, hn6, hu6, hoa6, hob6, hb6⟩; have HN6 := Bx.mk hn6; have HU6 := Bx.mk hu6; have HO6 := Bx.mk hob6; have HB6 := Bx.mk (HB5.out.trans hb6); obtain ⟨pa, hix6, e6, hlen6⟩ := HRD.out w6 v6 _ hob6; clear hn6 hu6 hoa6 hob6 hb6))
          go_roundg g
          case measure => omega
          case rel => exact ⟨k + 1, need + 1, N6, _, by omega, by go_num, by rw [HWN.out], ⟨by have := HN6.out; have := HNN.out; have := HL6.out; omega⟩, HU6, ⟨by have := HBQ.out; rw [HND.out, if_pos (HZ0.out.2 (by first | rfl | trivial))] at this; exact this⟩, HB6⟩
end Go.Proofs.Ytebakjdeighdnaa
