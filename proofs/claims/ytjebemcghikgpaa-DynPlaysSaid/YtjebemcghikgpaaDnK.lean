/-
  Contract of the statements' alike.
-/
import Derived.Test.YtjebemcghikgpaaDnH
import Derived.Test.YtjebemcghikgpaaDnJ
import Derived.BigQuiet
namespace Go.Proofs.Ytjebemcghikgpaa
open Go.RowKit Go.Maps
set_option linter.unusedVariables false

theorem below_step {wA W w' : World} (h : Below wA.heap.size wA W) (hb : Below W.heap.size W w') : Below wA.heap.size wA w' := h.trans (hb.mono h.size)

set_option maxRecDepth 100000 in
set_option maxHeartbeats 4000000 in
theorem alike_any {B p q : Nat} {T : Tab} {w : World} (h : Two B p q T T w) (f : Fd) (hf : Sized f) (i : Nat) (hi : i < 18446744073709551616) :
    Calls Try.prog 15 #[.pointer (some ⟨p, 0, none⟩), .pointer (some ⟨q, 0, none⟩), .agg #[.string f.1, .string f.2], .int .u64 (i : Int)] w fun e w' => e = .returned (.bool true) ∧ Below w.heap.size w w' := by
  obtain ⟨f1, f2⟩ := f
  obtain ⟨S, S', h1, h2, _, _, _⟩ := h
  have HSF := Bx.mk hf
  have HI := Bx.mk hi
  have hBA := (Below.refl w.heap.size w).alloc (Nat.le_refl _) (.cells #[.string f1, .string f2] 24)
  have HF0 := Bx.mk (Fb.new 24 w (f1, f2))
  have h1 := h1.keep hBA
  have h2 := h2.keep hBA
  obtain ⟨wA, hwA⟩ : ∃ wA, w.alloc (.cells #[.string f1, .string f2] 24) = wA := ⟨_, rfl⟩
  rw [hwA] at h1 h2 hBA HF0
  have HBA := Bx.mk hBA
  have HWA := Bx.mk hwA
  clear hwA
  have hok := h1.ok
  obtain ⟨v, c0, c1, c2, _, hst⟩ := h2.cells
  obtain ⟨L, cap, tot⟩ := T
  obtain ⟨fr, hfr⟩ : ∃ fr, Tab.first ⟨L, cap, tot⟩ = fr := ⟨_, rfl⟩
  have HSIZE : Bx (∀ W, Below wA.heap.size wA W → Calls Try.prog 16 #[.pointer (some ⟨p, 0, none⟩)] W fun e w' => e = .returned (.int .i64 (sizeF L : Int)) ∧ Below W.heap.size W w') := ⟨fun W hW => size_any' (h1.keep hW)⟩
  have HCAP : Bx (∀ W, Below wA.heap.size wA W → Calls Try.prog 17 #[.pointer (some ⟨p, 0, none⟩)] W fun e w' => e = .returned (.int .i64 (cap : Int)) ∧ Below W.heap.size W w') := ⟨fun W hW => cap_any (h1.keep hW)⟩
  obtain ⟨n, hn⟩ : ∃ n, L.length = n := ⟨_, rfl⟩
  have HLEN : Bx (∀ W, Below wA.heap.size wA W → Calls Try.prog 18 #[.pointer (some ⟨p, 0, none⟩)] W fun e w' => e = .returned (.int .i64 (n : Int)) ∧ Below W.heap.size W w') := ⟨fun W hW => hn ▸ len_any (h1.keep hW)⟩
  have HCOUNT : Bx (∀ W, Below wA.heap.size wA W → Calls Try.prog 19 #[.pointer (some ⟨p, 0, none⟩)] W fun e w' => e = .returned (.int .u64 (tot : Int)) ∧ Below W.heap.size W w') := ⟨fun W hW => count_any (h1.keep hW)⟩
  have HRSIZE : Bx (∀ W, Below wA.heap.size wA W → Calls Try.prog 20 #[v] W fun e w' => e = .returned (.int .i64 (sizeF L : Int)) ∧ Below W.heap.size W w') := ⟨fun W hW => refSize_any v L W (hst.keep hW).fs (by have := hok.size; simp only at this; omega)⟩
  have HNEW : Bx (∀ W k, Below wA.heap.size wA W → k < 18446744073709551616 → Calls Try.prog 22 #[.pointer (some ⟨p, 0, none⟩), .int .u64 (k : Nat)] W fun e w' => e = .returned (.tuple #[aggF (entN L k), .bool (isN L k)]) ∧ Below W.heap.size W w') := ⟨fun W k hW hk => newest_any (h1.keep hW) k hk⟩
  have HRNEW : Bx (∀ W k, Below wA.heap.size wA W → k < 18446744073709551616 → Calls Try.prog 29 #[.pointer (some ⟨q, 0, none⟩), .int .u64 (k : Nat)] W fun e w' => e = .returned (.tuple #[aggF (entN L k), .bool (isN L k)]) ∧ Below W.heap.size W w') := ⟨fun W k hW hk => refNewest_any (h2.keep hW) k hk⟩
  have HAT : Bx (∀ W k, Below wA.heap.size wA W → k < 18446744073709551616 → Calls Try.prog 21 #[.pointer (some ⟨p, 0, none⟩), .int .u64 (k : Nat)] W fun e w' => e = .returned (.tuple #[aggF (entF L fr k), .bool (isF L fr k)]) ∧ Below W.heap.size W w') := ⟨fun W k hW hk => hfr ▸ at_any (h1.keep hW) k hk⟩
  have HABS : Bx (∀ W k, Below wA.heap.size wA W → k < 18446744073709551616 → Calls Try.prog 31 #[.pointer (some ⟨q, 0, none⟩), .int .u64 (k : Nat)] W fun e w' => e = .returned (.tuple #[aggF (entF L fr k), .bool (isF L fr k)]) ∧ Below W.heap.size W w') := ⟨fun W k hW hk => hfr ▸ refAbs_any (h2.keep hW) k hk⟩
  have HFIRST : Bx (∀ W, Below wA.heap.size wA W → Calls Try.prog 30 #[.pointer (some ⟨q, 0, none⟩)] W fun e w' => e = .returned (.int .u64 (fr : Int)) ∧ Below W.heap.size W w') := ⟨fun W hW => hfr ▸ (h2.keep hW).first⟩
  have HFIND : Bx (∀ W, Below wA.heap.size wA W → Calls Try.prog 23 #[.pointer (some ⟨p, 0, none⟩), .agg #[.string f1, .string f2]] W fun e w' => e = .returned (find3 (findT L fr (f1, f2))) ∧ Below W.heap.size W w') := ⟨fun W hW => hfr ▸ find_any (h1.keep hW) (f1, f2) HSF.out⟩
  have HRFIND : Bx (∀ W, Below wA.heap.size wA W → Calls Try.prog 32 #[.pointer (some ⟨q, 0, none⟩), .agg #[.string f1, .string f2]] W fun e w' => e = .returned (find3 (findT L fr (f1, f2))) ∧ Below W.heap.size W w') := ⟨fun W hW => hfr ▸ refFind_any (h2.keep hW) (f1, f2)⟩
  have HFR : Bx (fr + n ≤ 1000000) := ⟨by have a := hok.len; have b := hok.tot; rw [← hfr, ← hn]; unfold Tab.first; simp only at *; omega⟩
  have hX0 : ∀ W, Below wA.heap.size wA W → W.cell? ⟨q, 0, none⟩ = some v := fun W hW => (hW.cell (World.block_lt_of_cell? wA _ c0)).trans c0
  have hX1 : ∀ W, Below wA.heap.size wA W → W.cell? ⟨q, 1, none⟩ = some (.int .i64 (cap : Int)) := fun W hW => (hW.cell (World.block_lt_of_cell? wA _ c1)).trans c1
  have hX2 : ∀ W, Below wA.heap.size wA W → W.cell? ⟨q, 2, none⟩ = some (.int .u64 (tot : Int)) := fun W hW => (hW.cell (World.block_lt_of_cell? wA _ c2)).trans c2
  have hlen := fun ty W => hst.fs.run_len ty W
  simp only [hn] at hlen
  have HX0 := Bx.mk hX0
  obtain ⟨sz, hsz⟩ : ∃ sz, sizeF L = sz := ⟨_, rfl⟩
  rw [hsz] at HSIZE HRSIZE
  have hS0 : Below wA.heap.size wA wA.drew := (Below.refl _ _).drew
  clear h1 h2 hf hi hBA hok c0 c1 c2 hst hfr hn hsz
  go_enter Try.func15, Try.ntmps15
  go_wp2_with fail
  rw [HWA.out]
  obtain ⟨G, hG⟩ : ∃ G, w.heap.size = G := ⟨_, rfl⟩
  rw [hG] at HF0 ⊢
  have HGG := Bx.mk hG
  clear hG
  go_cut [6, 63] from 28 to 63 (fun s6 s63 wx => s6 = .pointer (some ⟨G, 0, none⟩) ∧ s63 = .bool false ∧ Bx (Below wA.heap.size wA wx))
  case first =>
    go_region_held (fun W => Below wA.heap.size wA W) (first | assumption) (first
      | (go_at_call 16; refine (HSIZE.out _ ?_).mono ?_; assumption; rintro e w2 ⟨rfl, hb⟩; have hS2 := below_step (by assumption) hb)
      | (go_at_call 20; refine (HRSIZE.out _ ?_).mono ?_; assumption; rintro e w3 ⟨rfl, hb⟩; have hS3 := below_step (by assumption) hb)
      | (go_at_call 17; refine (HCAP.out _ ?_).mono ?_; assumption; rintro e w4 ⟨rfl, hb⟩; have hS4 := below_step (by assumption) hb)
      | (go_at_call 18; refine (HLEN.out _ ?_).mono ?_; assumption; rintro e w5 ⟨rfl, hb⟩; have hS5 := below_step (by assumption) hb)
      | (go_at_call 19; refine (HCOUNT.out _ ?_).mono ?_; assumption; rintro e w6 ⟨rfl, hb⟩; have hS6 := below_step (by assumption) hb))
    all_goals go_wp2_with fail
    all_goals go_meet
    all_goals exact ⟨rfl, rfl, ⟨hS6⟩⟩
  case rest =>
    obtain ⟨rfl, rfl, HS1⟩ := hcut
    clear hX0 hX1 hX2 hS0 HSIZE HRSIZE HCAP HLEN HCOUNT
    go_wp2_with fail
    go_loopg [9] (n + 1) (fun g s9 wx => ∃ k : Nat, k + g = n + 1 ∧ s9 = .int .i64 k ∧ Bx (Below wA.heap.size wA wx))
    case atStart => exact ⟨0, by omega, rfl, HS1⟩
    case round =>
      clear HS1
      obtain ⟨k, hkg, rfl, HB⟩ := hrel
      have hc0 := HX0.out wr HB.out
      have hk6 : k ≤ 1000001 := by have := HFR.out; omega
      cases gk with
      | zero =>
        have hk1 : decide ((k : Int) ≤ (n : Int)) = false := decide_eq_false (by omega)
        have hk2 : decide (k ≤ n) = false := decide_eq_false (by omega)
        obtain ⟨y1, hy1⟩ : ∃ y1, (entF L fr i).1 = y1 := ⟨_, rfl⟩
        obtain ⟨y2, hy2⟩ : ∃ y2, (entF L fr i).2 = y2 := ⟨_, rfl⟩
        have HAY : Bx (aggF (entF L fr i) = .agg #[.string y1, .string y2]) := ⟨by unfold aggF; rw [hy1, hy2]⟩
        obtain ⟨by_, hby⟩ : ∃ by_, isF L fr i = by_ := ⟨_, rfl⟩
        have HBY := Bx.mk hby
        obtain ⟨m, t, u, hmtu⟩ : ∃ (m : Nat) (t u : Bool), find3 (findT L fr (f1, f2)) = .tuple #[.int .u64 (m : Int), .bool t, .bool u] := ⟨_, _, _, rfl⟩
        have HMT := Bx.mk hmtu
        clear hy1 hy2 hby hmtu
        go_wp2_with fail
        refine (HAT.out _ i HB.out HI.out).mono ?_
        rintro e w1 ⟨rfl, hb1⟩
        rw [HAY.out, HBY.out]
        have HB1 := Bx.mk ((below_step HB.out hb1).alloc (below_step HB.out hb1).size (.cells #[.string y1, .string y2] 24))
        have HF1 := Bx.mk (Fb.new 24 w1 (y1, y2))
        clear hb1
        go_wp2_with fail
        refine (HABS.out _ i HB1.out HI.out).mono ?_
        rintro e w2 ⟨rfl, hb2⟩
        rw [HAY.out, HBY.out]
        have HB2 := Bx.mk ((below_step HB1.out hb2).alloc (below_step HB1.out hb2).size (.cells #[.string y1, .string y2] 24))
        have HF2 := Bx.mk (Fb.new 24 w2 (y1, y2))
        have HF1b := Bx.mk ((HF1.out.keep hb2).alloc (.cells #[.string y1, .string y2] 24))
        have HG2 := Bx.mk (HF0.out.keep HB2.out)
        obtain ⟨e1, e2⟩ := HG2.out.cells
        clear hb2
        go_wp2_with fail
        refine (HFIND.out _ HB2.out).mono ?_
        rintro e w3 ⟨rfl, hb3⟩
        rw [HMT.out]
        have HB3 := Bx.mk (below_step HB2.out hb3)
        have HG3 := Bx.mk (HF0.out.keep HB3.out)
        obtain ⟨e3, e4⟩ := HG3.out.cells
        have HF13 := Bx.mk (HF1b.out.keep hb3)
        have HF23 := Bx.mk (HF2.out.keep hb3)
        clear hb3 e1 e2
        go_wp2_with fail
        refine (HRFIND.out _ HB3.out).mono ?_
        rintro e w4 ⟨rfl, hb4⟩
        rw [HMT.out]
        have HB4 := Bx.mk (below_step HB3.out hb4)
        obtain ⟨g1, g2⟩ := (HF13.out.keep hb4).cells
        obtain ⟨g3, g4⟩ := (HF23.out.keep hb4).cells
        clear hb4 e3 e4
        go_wp2_with fail
        go_ret
        exact ⟨rfl, HBA.out.trans (HB4.out.mono HBA.out.size)⟩
      | succ g =>
        have hk1 : decide ((k : Int) ≤ (n : Int)) = true := decide_eq_true (by omega)
        have hk2 : decide (k ≤ n) = true := decide_eq_true (by omega)
        have hwk : IntKind.u64.wrap (k : Int) = (k : Int) := by simp [IntKind.wrap, IntKind.signed, IntKind.bits]; omega
        have hwf : IntKind.u64.wrap ((fr : Int) + (k : Int)) = ((fr + k : Nat) : Int) := by have := HFR.out; simp [IntKind.wrap, IntKind.signed, IntKind.bits]; omega
        obtain ⟨fk, hfk⟩ : ∃ fk, fr + k = fk := ⟨_, rfl⟩
        rw [hfk] at hwf
        have HFK : Bx (fk < 18446744073709551616) := ⟨by have := HFR.out; omega⟩
        have HKB : Bx (k < 18446744073709551616) := ⟨by omega⟩
        obtain ⟨x1, hx1⟩ : ∃ x1, (entN L k).1 = x1 := ⟨_, rfl⟩
        obtain ⟨x2, hx2⟩ : ∃ x2, (entN L k).2 = x2 := ⟨_, rfl⟩
        have HAX : Bx (aggF (entN L k) = .agg #[.string x1, .string x2]) := ⟨by unfold aggF; rw [hx1, hx2]⟩
        obtain ⟨bx, hbx⟩ : ∃ bx, isN L k = bx := ⟨_, rfl⟩
        have HBX := Bx.mk hbx
        obtain ⟨y1, hy1⟩ : ∃ y1, (entF L fr fk).1 = y1 := ⟨_, rfl⟩
        obtain ⟨y2, hy2⟩ : ∃ y2, (entF L fr fk).2 = y2 := ⟨_, rfl⟩
        have HAY : Bx (aggF (entF L fr fk) = .agg #[.string y1, .string y2]) := ⟨by unfold aggF; rw [hy1, hy2]⟩
        obtain ⟨by_, hby⟩ : ∃ by_, isF L fr fk = by_ := ⟨_, rfl⟩
        have HBY := Bx.mk hby
        clear hx1 hx2 hbx hy1 hy2 hby hfk
        go_wp2_with fail
        refine (HNEW.out _ k HB.out HKB.out).mono ?_
        rintro e w1 ⟨rfl, hb1⟩
        rw [HAX.out, HBX.out]
        have HB1 := Bx.mk ((below_step HB.out hb1).alloc (below_step HB.out hb1).size (.cells #[.string x1, .string x2] 24))
        have HF1 := Bx.mk (Fb.new 24 w1 (x1, x2))
        clear hb1
        go_wp2_with fail
        refine (HRNEW.out _ k HB1.out HKB.out).mono ?_
        rintro e w2 ⟨rfl, hb2⟩
        rw [HAX.out, HBX.out]
        have HB2 := Bx.mk ((below_step HB1.out hb2).alloc (below_step HB1.out hb2).size (.cells #[.string x1, .string x2] 24))
        have HF2 := Bx.mk (Fb.new 24 w2 (x1, x2))
        have HF12 := Bx.mk ((HF1.out.keep hb2).alloc (.cells #[.string x1, .string x2] 24))
        clear hb2
        go_wp2_with fail
        refine (HFIRST.out _ HB2.out).mono ?_
        rintro e w3 ⟨rfl, hb3⟩
        have HB3 := Bx.mk (below_step HB2.out hb3)
        have HF13 := Bx.mk (HF12.out.keep hb3)
        have HF23 := Bx.mk (HF2.out.keep hb3)
        clear hb3
        go_wp2_with fail
        refine (HAT.out _ fk HB3.out HFK.out).mono ?_
        rintro e w4 ⟨rfl, hb4⟩
        rw [HAY.out, HBY.out]
        have HB4 := Bx.mk ((below_step HB3.out hb4).alloc (below_step HB3.out hb4).size (.cells #[.string y1, .string y2] 24))
        have HF14 := Bx.mk ((HF13.out.keep hb4).alloc (.cells #[.string y1, .string y2] 24))
        have HF24 := Bx.mk ((HF23.out.keep hb4).alloc (.cells #[.string y1, .string y2] 24))
        have HF34 := Bx.mk (Fb.new 24 w4 (y1, y2))
        clear hb4
        go_wp2_with fail
        refine (HFIRST.out _ HB4.out).mono ?_
        rintro e w5 ⟨rfl, hb5⟩
        have HB5 := Bx.mk (below_step HB4.out hb5)
        have HF15 := Bx.mk (HF14.out.keep hb5)
        have HF25 := Bx.mk (HF24.out.keep hb5)
        have HF35 := Bx.mk (HF34.out.keep hb5)
        clear hb5
        go_wp2_with fail
        refine (HABS.out _ fk HB5.out HFK.out).mono ?_
        rintro e w6 ⟨rfl, hb6⟩
        rw [HAY.out, HBY.out]
        have HB6 := Bx.mk ((below_step HB5.out hb6).alloc (below_step HB5.out hb6).size (.cells #[.string y1, .string y2] 24))
        obtain ⟨a1, a2⟩ := ((HF15.out.keep hb6).alloc (.cells #[.string y1, .string y2] 24)).cells
        obtain ⟨a3, a4⟩ := ((HF25.out.keep hb6).alloc (.cells #[.string y1, .string y2] 24)).cells
        obtain ⟨a5, a6⟩ := ((HF35.out.keep hb6).alloc (.cells #[.string y1, .string y2] 24)).cells
        obtain ⟨a7, a8⟩ := (Fb.new 24 w6 (y1, y2)).cells
        clear hb6
        go_wp2_with fail
        go_roundg g
        case measure => omega
        case rel => exact ⟨k + 1, by omega, by go_num, HB6⟩

end Go.Proofs.Ytjebemcghikgpaa
