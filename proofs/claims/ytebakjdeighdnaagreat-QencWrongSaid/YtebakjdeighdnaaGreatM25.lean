/-
  Texts put together: QnB, QpW, QpA, QpE, QnC, QpF, QpB, QpG.
-/
import Derived.Test.YtebakjdeighdnaaGreatM24
import Derived.Deep.QuietTactic
import Derived.BigQuiet
import Derived.Deep.RegionWith
import Derived.Handy
import Derived.Test.YtebakjdeighdnaaGreatM01
import Derived.Test.YtebakjdeighdnaaGreatM06
import Derived.BigRegion
import Derived.Lib.MinMax

/-
  Contracts of the document's blocked, many.
-/
namespace Go.Proofs.YtebakjdeighdnaaGreat
open Go.RowKit Go.Maps
set_option linter.unusedVariables false

theorem blk_take (op : List Qs) (K s k : Nat) (hk : k < op.length) : blkQ (op.take (k + 1)) K s = (blkQ (op.take k) K s || (decide (op[k].s = s) && decide (K < op[k].c))) := by
  unfold blkQ
  rw [List.take_succ_eq_append_getElem hk, List.any_append]
  simp
theorem blk_hit {op : List Qs} {K s k : Nat} (hk : k < op.length) (h1 : op[k].s = s) (h2 : K < op[k].c) : blkQ op K s = true := by
  unfold blkQ
  rw [List.any_eq_true]
  exact ⟨op[k], List.getElem_mem hk, by simp [h1, h2]⟩
theorem ps_get {ps : List (Qs × Value)} {op : List Qs} (h : ps.map Prod.fst = op) : ps.length = op.length ∧ ∀ k (h1 : k < ps.length) (h2 : k < op.length), ps[k].1 = op[k] := by
  subst h
  exact ⟨by simp, fun k h1 h2 => by simp⟩

section
variable {q t : Nat} {E : Qe} {w : World} {S : Nat → Prop}
set_option maxRecDepth 100000 in
set_option maxHeartbeats 2000000 in
theorem blocked_any (h : E8 q t E w S) (s : Nat) :
    Calls Tryz.prog 37 #[.pointer (some ⟨q, 0, none⟩), .int .u64 s] w fun e w' => e = .returned (.bool (blkQ E.op E.K s)) ∧ Below w.heap.size w w' := by
  obtain ⟨vO, vR, ps, hps, hsr, _, c0, c1, c2, c3, c4, c5, c6, _⟩ := h.cells
  obtain ⟨hl, hget⟩ := ps_get hps
  have hlen := fun ty W => hsr.run_len ty W
  have HS := Bx.mk hsr
  have HG := Bx.mk hget
  have HC : Bx (∀ W, Below w.heap.size w W → W.cell? ⟨q, 2, none⟩ = some (.int .u64 (E.K : Int)) ∧ W.cell? ⟨q, 3, none⟩ = some vO) := ⟨fun W hW => ⟨(hW.cell (World.block_lt_of_cell? _ _ c2)).trans c2, (hW.cell (World.block_lt_of_cell? _ _ c3)).trans c3⟩⟩
  obtain ⟨op, hop⟩ : ∃ op, E.op = op := ⟨_, rfl⟩
  obtain ⟨K, hK⟩ : ∃ K, E.K = K := ⟨_, rfl⟩
  rw [hop] at hl HG
  rw [hop, hK]
  rw [hK] at HC
  obtain ⟨n, hn⟩ : ∃ n, ps.length = n := ⟨_, rfl⟩
  rw [hn] at hlen hl
  have HN := Bx.mk hn
  have HL := Bx.mk hl
  have hmax : Bx (n ≤ maxLen) := ⟨by rw [← hn]; exact Rn.len hsr.1⟩
  obtain ⟨s', hs'⟩ := letter s
  obtain ⟨K', hK'⟩ := letter K
  rw [hK'] at HC
  rw [hs']
  have Hs := Bx.mk hs'
  have HK := Bx.mk hK'
  clear h hps hsr hget hop hK hn hl c0 c1 c2 c3 c4 c5 c6 hs' hK'
  go_enter Tryz.func37, Tryz.ntmps37
  go_wp2
  go_loopg [5] n (fun g s5 wx => ∃ k : Nat, k + g = n ∧ s5 = .int .i64 k ∧ Bx (blkQ (op.take k) K s = false) ∧ Bx (Below w.heap.size w wx))
  case atStart => exact ⟨0, by omega, rfl, ⟨rfl⟩, ⟨Below.refl _ _⟩⟩
  case round =>
    obtain ⟨k, hkg, rfl, HB, HW⟩ := hrel
    obtain ⟨d2, d3⟩ := HC.out wr HW.out
    cases gk with
    | zero =>
      obtain rfl : k = n := by omega
      go_wp2
      go_ret
      exact ⟨by have := HB.out; rw [HL.out, List.take_length] at this; rw [this]; rfl, HW.out⟩
    | succ g =>
      have hk : k < n := by omega
      have hkz : (k : Int) < (n : Int) := by omega
      have hkn : k < ps.length := by rw [HN.out]; exact hk
      have hko : k < op.length := by rw [← HL.out]; exact hk
      have hkb : (k : Int) < 9223372036854775807 := by have := hmax.out; unfold maxLen at this; omega
      obtain ⟨b, o, hix, hcs⟩ := HS.out.at_ k hkn
      obtain ⟨e0, e1, e2⟩ := hcs wr (HS.out.keep HW.out)
      rw [HG.out k hkn hko] at e0 e1
      have HT := Bx.mk (blk_take op K s k hko)
      have HH := Bx.mk (fun a b => blk_hit (op := op) (K := K) (s := s) hko a b)
      obtain ⟨x, hx⟩ : ∃ x, op[k].s = x := ⟨_, rfl⟩
      obtain ⟨c, hc⟩ : ∃ c, op[k].c = c := ⟨_, rfl⟩
      rw [hx] at e0 HT HH
      rw [hc] at e1 HT HH
      obtain ⟨X, hX⟩ := letter x
      obtain ⟨C, hC'⟩ := letter c
      rw [hX] at e0
      rw [hC'] at e1
      clear hcs hx hc hko
      have hs1 := Hs.out
      have hs2 := HK.out
      by_cases h1 : x = s
      · have hb1 : (X == s') = true := by rw [beq_iff_eq]; omega
        by_cases h2 : K < c
        · have hb2 : decide (K' < C) = true := by rw [decide_eq_true_iff]; omega
          have HF := Bx.mk (HH.out h1 h2)
          clear h1 h2 hX hC' hs1 hs2
          go_wp2
          go_quiet (fail)
          go_wp2
          go_ret
          exact ⟨by rw [HF.out]; rfl, below_drewN HW.out _⟩
        · have hb2 : decide (K' < C) = false := by rw [decide_eq_false_iff_not]; omega
          have HF : Bx (blkQ (op.take (k + 1)) K s = false) := ⟨by rw [HT.out, HB.out]; simp [h2]⟩
          clear h1 h2 hX hC' hs1 hs2
          go_wp2
          go_quiet (fail)
          go_wp2
          go_roundg g
          case measure => omega
          case rel => exact ⟨k + 1, by omega, by go_num, HF, ⟨below_drewN HW.out _⟩⟩
      · have hb1 : (X == s') = false := by rw [beq_eq_false_iff_ne]; omega
        have HF : Bx (blkQ (op.take (k + 1)) K s = false) := ⟨by rw [HT.out, HB.out]; simp [h1]⟩
        clear h1 hX hC' hs1 hs2
        go_wp2
        go_quiet (fail)
        go_wp2
        go_roundg g
        case measure => omega
        case rel => exact ⟨k + 1, by omega, by go_num, HF, ⟨below_drewN HW.out _⟩⟩

def frsQ (op : List Qs) (j x : Nat) : Bool := (op.take j).all fun y => decide (y.s ≠ x)
theorem frs_take (op : List Qs) (j x : Nat) (hj : j < op.length) : frsQ op (j + 1) x = (frsQ op j x && decide (op[j].s ≠ x)) := by
  unfold frsQ
  rw [List.take_succ_eq_append_getElem hj, List.all_append]
  simp
theorem many_take (op : List Qs) (K k : Nat) (hk : k < op.length) : manyQ op K (k + 1) = manyQ op K k + if frsQ op k op[k].s && blkQ op K op[k].s then 1 else 0 := by
  show manyQ op K k + _ = _
  rw [List.getElem?_eq_getElem hk]
  rfl
theorem many_le (op : List Qs) (K : Nat) : ∀ k, manyQ op K k ≤ k
  | 0 => Nat.le_refl _
  | k + 1 => by
    have := many_le op K k
    show manyQ op K k + _ ≤ k + 1
    split
    · split <;> omega
    · omega
set_option maxRecDepth 100000 in
set_option maxHeartbeats 2000000 in
theorem many_any (h : E8 q t E w S) :
    Calls Tryz.prog 38 #[.pointer (some ⟨q, 0, none⟩)] w fun e w' => e = .returned (.int .i64 (manyQ E.op E.K E.op.length : Int)) ∧ Below w.heap.size w w' := by
  obtain ⟨vO, vR, ps, hps, hsr, _, c0, c1, c2, c3, c4, c5, c6, _⟩ := h.cells
  obtain ⟨hl, hget⟩ := ps_get hps
  have hlen := fun ty W => hsr.run_len ty W
  have HS := Bx.mk hsr
  have HG := Bx.mk hget
  have HC : Bx (∀ W, Below w.heap.size w W → W.cell? ⟨q, 3, none⟩ = some vO) := ⟨fun W hW => (hW.cell (World.block_lt_of_cell? _ _ c3)).trans c3⟩
  have HBK : Bx (∀ W, Below w.heap.size w W → ∀ (x : Nat) (X : Int), (x : Int) = X → Calls Tryz.prog 37 #[.pointer (some ⟨q, 0, none⟩), .int .u64 X] W fun e w' => e = .returned (.bool (blkQ E.op E.K x)) ∧ Below W.heap.size W w') := ⟨fun W hW x X hX => by subst hX; exact blocked_any ((Wd.e8 q t E).keep h hW) x⟩
  obtain ⟨op, hop⟩ : ∃ op, E.op = op := ⟨_, rfl⟩
  obtain ⟨K, hK⟩ : ∃ K, E.K = K := ⟨_, rfl⟩
  rw [hop] at hl HG HBK
  rw [hK] at HBK
  rw [hop, hK]
  obtain ⟨n, hn⟩ : ∃ n, ps.length = n := ⟨_, rfl⟩
  rw [hn] at hlen hl
  have HN := Bx.mk hn
  have HL := Bx.mk hl
  have hmax : Bx (n ≤ maxLen) := ⟨by rw [← hn]; exact Rn.len hsr.1⟩
  clear h hps hsr hget hop hK hn hl c0 c1 c2 c3 c4 c5 c6
  go_enter Tryz.func38, Tryz.ntmps38
  go_wp2
  go_loopg [3, 4] n (fun g s3 s4 wx => ∃ k : Nat, k + g = n ∧ s4 = .int .i64 k ∧ (∃ m : Int, s3 = .int .i64 m ∧ Bx ((manyQ op K k : Int) = m)) ∧ Bx (Below w.heap.size w wx))
  case atStart => exact ⟨0, by omega, rfl, ⟨0, rfl, ⟨rfl⟩⟩, ⟨Below.refl _ _⟩⟩
  case round =>
    obtain ⟨k, hkg, rfl, ⟨m, rfl, HM⟩, HW⟩ := hrel
    have d3 := HC.out wr HW.out
    cases gk with
    | zero =>
      obtain rfl : k = n := by omega
      go_wp2
      go_ret
      exact ⟨by have := HM.out; rw [HL.out] at this; rw [this]; rfl, HW.out⟩
    | succ g =>
      have hk : k < n := by omega
      have hkz : (k : Int) < (n : Int) := by omega
      have hkn : k < ps.length := by rw [HN.out]; exact hk
      have hko : k < op.length := by rw [← HL.out]; exact hk
      have hkb : (k : Int) < 9223372036854775807 := by have := hmax.out; unfold maxLen at this; omega
      obtain ⟨b, o, hix, hcs⟩ := HS.out.at_ k hkn
      have HCS := Bx.mk hcs
      have HGK := Bx.mk (HG.out k hkn hko)
      have HMT := Bx.mk (many_take op K k hko)
      have HML := Bx.mk (many_le op K k)
      obtain ⟨x, hx⟩ : ∃ x, op[k].s = x := ⟨_, rfl⟩
      rw [hx] at HMT
      have HX := Bx.mk hx
      obtain ⟨X, hX'⟩ := letter x
      have HXX := Bx.mk hX'
      clear hcs hx hX'
      go_wp2_with fail
      clear d3
      go_loopg [5, 6] k (fun g' s5 s6 wy => ∃ j : Nat, j + g' = k ∧ s6 = .int .i64 j ∧ (∃ fb : Bool, s5 = .bool fb ∧ Bx (frsQ op j x = fb)) ∧ Bx (Below w.heap.size w wy))
      case atStart => exact ⟨0, by omega, rfl, ⟨true, rfl, ⟨rfl⟩⟩, HW⟩
      case round =>
        clear HW
        obtain ⟨j, hjg, rfl, ⟨fb, rfl, HF⟩, HW⟩ := hrel
        have d3 := HC.out wr HW.out
        obtain ⟨e0, _⟩ := HCS.out wr (HS.out.keep HW.out)
        rw [HGK.out, HX.out, HXX.out] at e0
        cases gk with
        | zero =>
          obtain rfl : j = k := by omega
          cases fb with
          | false =>
            have HM2 : Bx ((manyQ op K (j + 1) : Int) = m) := ⟨by rw [HMT.out, HF.out]; simpa using HM.out⟩
            go_wp2_with fail
            go_roundg g
            case measure => omega
            case rel => exact ⟨j + 1, by omega, by go_num, ⟨m, rfl, HM2⟩, HW⟩
          | true =>
            obtain ⟨bb, hbb⟩ : ∃ bb, blkQ op K x = bb := ⟨_, rfl⟩
            have HCALL := Bx.mk (HBK.out wr HW.out x X HXX.out)
            rw [hbb] at HCALL
            have HBB := Bx.mk hbb
            clear hbb
            cases bb with
            | false =>
              have HM2 : Bx ((manyQ op K (j + 1) : Int) = m) := ⟨by rw [HMT.out, HF.out, HBB.out]; simpa using HM.out⟩
              go_wp2_with (go_at_call 37; refine HCALL.out.mono ?_; rintro e w2 ⟨rfl, b2⟩)
              go_roundg g
              case measure => omega
              case rel => exact ⟨j + 1, by omega, by go_num, ⟨m, rfl, HM2⟩, ⟨below_next HW.out b2⟩⟩
            | true =>
              have HM2 : Bx ((manyQ op K (j + 1) : Int) = wrap64 (m + 1)) := ⟨by
                rw [HMT.out, HF.out, HBB.out]
                have h1 := HM.out
                have h2 := HML.out
                simp only [Bool.and_self, if_true]
                unfold wrap64
                omega⟩
              go_wp2_with (go_at_call 37; refine HCALL.out.mono ?_; rintro e w2 ⟨rfl, b2⟩)
              go_roundg g
              case measure => omega
              case rel => exact ⟨j + 1, by omega, by go_num, ⟨_, rfl, HM2⟩, ⟨below_next HW.out b2⟩⟩
        | succ g' =>
          have hj : j < k := by omega
          have hjz : (j : Int) < (k : Int) := by omega
          have hjn : j < ps.length := by omega
          have hjo : j < op.length := by have := HL.out; omega
          obtain ⟨b2, o2, hix2, hcs2⟩ := HS.out.at_ j hjn
          obtain ⟨f0, _⟩ := hcs2 wr (HS.out.keep HW.out)
          rw [HG.out j hjn hjo] at f0
          have HFT := Bx.mk (frs_take op j x hjo)
          obtain ⟨y, hy⟩ : ∃ y, op[j].s = y := ⟨_, rfl⟩
          rw [hy] at f0 HFT
          obtain ⟨Y, hY⟩ := letter y
          rw [hY] at f0
          have hXX := HXX.out
          clear hcs2 hy hjo
          cases fb with
          | false =>
            have HF2 : Bx (frsQ op (j + 1) x = false) := ⟨by rw [HFT.out, HF.out]; rfl⟩
            clear hY hXX
            go_wp2_with fail
            go_quiet (fail)
            go_wp2_with fail
            go_roundg g'
            case measure => omega
            case rel => exact ⟨j + 1, by omega, by go_num, ⟨_, rfl, HF2⟩, ⟨below_drewN HW.out _⟩⟩
          | true =>
            by_cases hyx : y = x
            · have hbn : (Y != X) = false := by rw [bne_eq_false_iff_eq]; omega
              have hbe : (Y == X) = true := by rw [beq_iff_eq]; omega
              have HF2 : Bx (frsQ op (j + 1) x = false) := ⟨by rw [HFT.out, HF.out]; simp [hyx]⟩
              clear hyx hY hXX
              go_wp2_with fail
              go_quiet (fail)
              go_wp2_with fail
              go_roundg g'
              case measure => omega
              case rel => exact ⟨j + 1, by omega, by go_num, ⟨_, rfl, HF2⟩, ⟨below_drewN HW.out _⟩⟩
            · have hbn : (Y != X) = true := by rw [bne_iff_ne]; omega
              have hbe : (Y == X) = false := by rw [beq_eq_false_iff_ne]; omega
              have HF2 : Bx (frsQ op (j + 1) x = true) := ⟨by rw [HFT.out, HF.out]; simp [hyx]⟩
              clear hyx hY hXX
              go_wp2_with fail
              go_quiet (fail)
              go_wp2_with fail
              go_roundg g'
              case measure => omega
              case rel => exact ⟨j + 1, by omega, by go_num, ⟨_, rfl, HF2⟩, ⟨below_drewN HW.out _⟩⟩
end
end Go.Proofs.YtebakjdeighdnaaGreat

/-
  Maps in blocks of their own, told by what they answer; the program's QPACK encoder as a word.
-/
namespace Go.Proofs.YtebakjdeighdnaaGreat
open Go.RowKit Go.Maps
set_option linter.unusedVariables false

/-! ### a map in a block of its own -/
/-- Block b is a map of at most N entries that answers f. -/
def Mo {κ : Type} (kt : TypeId) (R : Value → Option (DataW Unit × List MemPlace)) (kl : κ → Lit) (ok : κ → Prop) (f : κ → Option (DataW Unit)) (b N : Nat) (w : World) : Prop :=
  ∃ D, w.ownsMap Tryz.prog kt R b N D ∧ Mf kl ok f D
section
variable {κ : Type} {kt e t : TypeId} {R : Value → Option (DataW Unit × List MemPlace)} {kl : κ → Lit} {ok : κ → Prop} {f g : κ → Option (DataW Unit)} {b N : Nat} {w w' : World}
theorem Mo.lt (h : Mo kt R kl ok f b N w) : b < w.heap.size := by obtain ⟨D, h, _⟩ := h; exact h.lt
theorem Mo.kept (h : Mo kt R kl ok f b N w) (hb : w'.heap[b]? = w.heap[b]?) : Mo kt R kl ok f b N w' := by
  obtain ⟨D, ⟨es, cl, h1, h2, h3, h4⟩, m⟩ := h
  exact ⟨D, ⟨es, cl, hb.trans h1, h2, h3, h4⟩, m⟩
theorem Mo.mono (h : Mo kt R kl ok f b N w) {N' : Nat} (hn : N ≤ N') : Mo kt R kl ok f b N' w := by
  obtain ⟨D, h1, m⟩ := h
  exact ⟨D, h1.mono hn, m⟩
theorem Mo.congr (h : Mo kt R kl ok f b N w) (hf : ∀ k, ok k → f k = g k) : Mo kt R kl ok g b N w := by
  obtain ⟨D, h1, m⟩ := h
  exact ⟨D, h1, m.congr hf⟩
theorem Mo.made (kt : TypeId) (R : Value → Option (DataW Unit × List MemPlace)) (kl : κ → Lit) (ok : κ → Prop) (w : World) : Mo kt R kl ok (fun _ => none) w.heap.size 0 (w.alloc (.map #[] 0)) :=
  ⟨_, World.ownsMap_made w _ _ _, Mf.new kl ok⟩
theorem ownsMap_tight {D : DataW Unit} {n : Nat} (h : w.ownsMap Tryz.prog kt R b n D) : w.ownsMap Tryz.prog kt R b (Maps.size D) D := by
  obtain ⟨es, cl, h1, h2, h3, h4⟩ := h
  refine ⟨es, cl, h1, h2, ?_, h4⟩
  rw [h4, size_eq, length_sorted]
  simp
theorem Mo.put [DecidableEq κ] (K : Keyed Tryz.prog kt) (KL : Kl kl ok) (ht : Tryz.prog.underlying t = some (.map kt e)) (h : Mo kt R kl ok f b N w) (hN : N < 1000000000) {k : κ} (hk : ok k) {key val : Value} {d : DataW Unit} {ps : List MemPlace}
    (hkey : keyOf Tryz.prog kt key = some (kl k)) (hv : R val = some (d, ps)) :
    ∃ w', (Instr.mapUpdate t (.map (some b)) key val).run Tryz.prog w = .ok () w' ∧ Mo kt R kl ok (fun j => if j = k then some d else f j) b (N + 1) w' ∧ w.grownBy w' (some b) := by
  obtain ⟨D, h1, m⟩ := h
  obtain ⟨w', hrun, ho, hg⟩ := h1.update K ht (by unfold maxLen; omega) hkey hv
  exact ⟨w', hrun, ⟨_, ho, m.put KL hk d⟩, hg⟩
theorem Mo.put_old [DecidableEq κ] (K : Keyed Tryz.prog kt) (KL : Kl kl ok) (ht : Tryz.prog.underlying t = some (.map kt e)) (h : Mo kt R kl ok f b N w) (hN : N < 1000000000) {k : κ} (hk : ok k) (hs : (f k).isSome = true) {key val : Value} {d : DataW Unit} {ps : List MemPlace}
    (hkey : keyOf Tryz.prog kt key = some (kl k)) (hv : R val = some (d, ps)) :
    ∃ w', (Instr.mapUpdate t (.map (some b)) key val).run Tryz.prog w = .ok () w' ∧ Mo kt R kl ok (fun j => if j = k then some d else f j) b N w' ∧ w.grownBy w' (some b) := by
  obtain ⟨D, h1, m⟩ := h
  have hsz := h1.size_le
  obtain ⟨w', hrun, ho, hg⟩ := h1.update K ht (by unfold maxLen; omega) hkey hv
  refine ⟨w', hrun, ⟨_, (ownsMap_tight ho).mono ?_, m.put KL hk d⟩, hg⟩
  rw [size_put_old m.tidy d (by rw [m.has k hk]; exact hs)]
  exact hsz
theorem Mo.drop [DecidableEq κ] (K : Keyed Tryz.prog kt) (KL : Kl kl ok) (ht : Tryz.prog.underlying t = some (.map kt e)) (h : Mo kt R kl ok f b N w) {k : κ} (hk : ok k) {key : Value} (hkey : keyOf Tryz.prog kt key = some (kl k)) (ty : TypeId) :
    ∃ w', (Builtin.delete_ #[t, kt] ty #[.map (some b), key]).run Tryz.prog w = .ok (.tuple #[]) w' ∧ Mo kt R kl ok (fun j => if j = k then none else f j) b N w' ∧ w.grownBy w' (some b) := by
  obtain ⟨D, h1, m⟩ := h
  obtain ⟨w', hrun, ho, hg⟩ := h1.drop K ht hkey ty
  exact ⟨w', hrun, ⟨_, ho, m.del KL hk⟩, hg.grown⟩
theorem Mo.look (K : Keyed Tryz.prog kt) (ht : Tryz.prog.underlying t = some (.map kt e)) (h : Mo kt R kl ok f b N w) {k : κ} (hk : ok k) {key z : Value} (hz : (zeroValue e).run Tryz.prog w = .ok z w) {zd : DataW Unit} {zp : List MemPlace} (hzd : R z = some (zd, zp))
    (hkey : keyOf Tryz.prog kt key = some (kl k)) : ∃ v ps, (Instr.lookup t (.map (some b)) key false).run Tryz.prog w = .ok v w ∧ R v = some ((f k).getD zd, ps) := by
  obtain ⟨D, h1, m⟩ := h
  obtain ⟨v, ps, hrun, hv⟩ := h1.lookup K ht hz hzd hkey
  exact ⟨v, ps, hrun, by rw [← m.at_ k hk]; exact hv⟩
theorem Mo.look_ok (K : Keyed Tryz.prog kt) (ht : Tryz.prog.underlying t = some (.map kt e)) (h : Mo kt R kl ok f b N w) {k : κ} (hk : ok k) {key z : Value} (hz : (zeroValue e).run Tryz.prog w = .ok z w) {zd : DataW Unit} {zp : List MemPlace} (hzd : R z = some (zd, zp))
    (hkey : keyOf Tryz.prog kt key = some (kl k)) : ∃ v ps, (Instr.lookup t (.map (some b)) key true).run Tryz.prog w = .ok (.tuple #[v, .bool (f k).isSome]) w ∧ R v = some ((f k).getD zd, ps) := by
  obtain ⟨D, h1, m⟩ := h
  obtain ⟨v, ps, hrun, hv⟩ := h1.look_ok K ht hz hzd hkey
  exact ⟨v, ps, by rw [← m.has k hk]; exact hrun, by rw [← m.at_ k hk]; exact hv⟩
theorem Mo.len (KL : Kl kl ok) (ht : Tryz.prog.underlying t = some (.map kt e)) (h : Mo kt R kl ok f b N w) {ks : List κ} (hn : ks.Nodup) (hk : ∀ k, k ∈ ks ↔ ok k ∧ (f k).isSome = true) (ty : TypeId) :
    (Builtin.len_ #[t] ty #[.map (some b)]).run Tryz.prog w = .ok (.int .i64 (ks.length : Int)) w := by
  obtain ⟨D, h1, m⟩ := h
  rw [h1.len ht, m.size KL hn hk]
end

/-! ### keys, elements -/
def kU (n : Nat) : Lit := .int .u64 (n : Int)
def okU (n : Nat) : Prop := n < 18446744073709551616
def kMk (x : Nat × Nat) : Lit := .string (keyBytes [.int .u64 (x.1 : Int), .int .u64 (x.2 : Int)])
def okM (x : Nat × Nat) : Prop := okU x.1 ∧ okU x.2
theorem uLaw : Keyed Tryz.prog 32 := int_keyed Tryz.underlying32
theorem wfU {n : Nat} (h : okU n) : (Lit.int .u64 (n : Int)).wf = true := WalkArith.wf_u64 (by unfold okU at h; omega)
theorem keyOf_u {n : Nat} (h : okU n) : keyOf Tryz.prog 32 (.int .u64 (n : Int)) = some (kU n) := keyOf_int_mk Tryz.underlying32 (wfU h)
theorem klU : Kl kU okU := ⟨fun a b _ _ h => by unfold kU at h; simp only [Lit.int.injEq, true_and] at h; omega, fun a h => uLaw.key (keyOf_u h)⟩
theorem mkLaw : Keyed Tryz.prog 123 := Keyed.of_law (deep_law_laid fdLaidOut (m := 2) (by omega) (of_decide_eq_true (by kernel_rfl)) (by kernel_rfl) (by kernel_rfl))
theorem mkCells : Tryz.prog.cellsOf 123 = 2 := by kernel_rfl
theorem mkNum : Tryz.prog.cellsOf 32 = 1 := by kernel_rfl
theorem mkKey : Tryz.prog.keyType 123 = true := by kernel_rfl
theorem keyOf_m {x : Nat × Nat} (h : okM x) : keyOf Tryz.prog 123 (.agg #[.int .u64 (x.1 : Int), .int .u64 (x.2 : Int)]) = some (kMk x) := by
  obtain ⟨a, b⟩ := x
  obtain ⟨h1, h2⟩ := h
  simp only at h1 h2
  have hs : ∀ (n a : Nat), okU a → Tryz.prog.keyLits (n + 1) 32 [.int .u64 (a : Int)] = some [.int .u64 (a : Int)] := fun n a ha => by
    unfold Program.keyLits
    simp only [Tryz.underlying32]
    simp [wfU ha]
  unfold keyOf
  simp only [Tryz.underlying123]
  obtain ⟨n, hn⟩ : ∃ n, Tryz.prog.types.size = n + 1 := ⟨Tryz.prog.types.size - 1, by kernel_rfl⟩
  rw [mkKey, hn]
  have hf : (Value.agg #[.int .u64 (a : Int), .int .u64 (b : Int)]).formed Tryz.prog 123 = true := by
    simp [Value.formed, Tryz.underlying123, mkCells]
  rw [hf]
  unfold Program.keyLits
  simp only [Tryz.underlying123]
  rw [if_pos (show (true && true) = true from rfl), if_pos ⟨by rw [mkCells]; rfl, by kernel_rfl⟩]
  simp only [List.mapM_cons, List.mapM_nil, mkNum, Value.cells, List.drop_zero, List.take_succ_cons, List.take_zero, List.drop_succ_cons, hs _ _ h1, hs _ _ h2]
  rfl
theorem klM : Kl kMk okM := by
  refine ⟨fun x y hx hy h => ?_, fun x h => mkLaw.key (keyOf_m h)⟩
  have e := mkLaw.inj (keyOf_m hx) (by rw [h]; exact keyOf_m hy)
  obtain ⟨a, b⟩ := x
  obtain ⟨c, d⟩ := y
  simp only [Value.agg.injEq, Array.mk.injEq, List.cons.injEq, Value.int.injEq, true_and, and_true] at e
  rw [show a = c by omega, show b = d by omega]

/-- How a queue reads. -/
def qR (v : Value) : Option (DataW Unit × List MemPlace) :=
  match v with
  | .agg ⟨[.int .u64 a, .int .u64 b]⟩ => some (.agg [.lit (.int .u64 a), .lit (.int .u64 b)], [])
  | _ => none
def qD (a b : Nat) : DataW Unit := .agg [.lit (.int .u64 (a : Int)), .lit (.int .u64 (b : Int))]
theorem qR_mk (a b : Nat) : qR (.agg #[.int .u64 (a : Int), .int .u64 (b : Int)]) = some (qD a b, []) := rfl
theorem qR_inv {v : Value} {a b : Nat} {ps : List MemPlace} (h : qR v = some (qD a b, ps)) : v = .agg #[.int .u64 (a : Int), .int .u64 (b : Int)] := by
  unfold qR at h
  split at h
  · simp only [Option.some.injEq, Prod.mk.injEq, qD, DataW.agg.injEq, List.cons.injEq, DataW.lit.injEq, Lit.int.injEq, true_and, and_true] at h
    obtain ⟨⟨h1, h2⟩, _⟩ := h
    rw [h1, h2]
  · cases h
/-- How a slice reads: by where it lies. -/
def sR (v : Value) : Option (DataW Unit × List MemPlace) :=
  match v with
  | .slice none 0 0 => some (.agg [], [])
  | .slice (some ⟨b, o, none⟩) n c => some (.agg [.lit (.int .i64 (b : Int)), .lit (.int .i64 (o : Int)), .lit (.int .i64 (n : Int)), .lit (.int .i64 (c : Int))], [])
  | _ => none
def sD (v : Value) : DataW Unit := ((sR v).map Prod.fst).getD .nil
theorem sR_inv {v u : Value} {d : DataW Unit} {ps qs : List MemPlace} (h : sR v = some (d, ps)) (k : sR u = some (d, qs)) : v = u := by
  unfold sR at h k
  split at h
  · injection h with h
    injection h with h1 h2
    subst h1
    split at k
    · rfl
    · injection k with k
      injection k with k1 k2
      cases k1
    · cases k
  · injection h with h
    injection h with h1 h2
    subst h1
    split at k
    · injection k with k
      injection k with k1 k2
      cases k1
    · injection k with k
      injection k with k1 k2
      simp only [DataW.agg.injEq, List.cons.injEq, DataW.lit.injEq, Lit.int.injEq, true_and, and_true] at k1
      obtain ⟨e1, e2, e3, e4⟩ := k1
      rw [show (_ : Nat) = _ from Int.ofNat.inj e1, show (_ : Nat) = _ from Int.ofNat.inj e2, show (_ : Nat) = _ from Int.ofNat.inj e3, show (_ : Nat) = _ from Int.ofNat.inj e4]
    · cases k
  · cases h

end Go.Proofs.YtebakjdeighdnaaGreat

/-
  The program's QPACK encoder, part by part, and as a word.
-/
namespace Go.Proofs.YtebakjdeighdnaaGreat
open Go.RowKit Go.Maps
set_option linter.unusedVariables false

/-- The cells of the program's encoder. -/
def pF (p : Nat) (sd : Bool) (B K bs bq bu bb : Nat) (vR : Value) (er : Nat) (i : Nat) : Value :=
  if i = 0 then .pointer (some ⟨p, 0, none⟩) else if i = 1 then .bool sd else if i = 2 then .int .i64 (B : Int) else if i = 3 then .int .u64 (K : Int) else if i = 4 then .map (some bs) else if i = 5 then .map (some bq)
  else if i = 6 then .map (some bu) else if i = 7 then .map (some bb) else if i = 8 then vR else .int .i64 (er : Int)
abbrev DU := DataW Unit
/-- What the encoder holds, beside its table: whether it has begun, its limit, what is known, its error, a bound of its maps, what its maps answer, the bytes that wait. -/
structure Qc where
  sd : Bool
  B : Nat
  K : Nat
  er : Nat
  N : Nat
  T : Tab
  gS : Nat × Nat → Option DU
  gQ : Nat → Option DU
  gU : Nat → Option DU
  gB : Nat → Option DU
  rest : List UInt8
/-- The encoder, part by part; Z: what else is only read. -/
structure Pr (q p : Nat) (X : Qc) (Z : World → Prop) (bs bq bu bb : Nat) (vR : Value) (S1 S2 : Nat → Prop) (w : World) : Prop where
  row : w.rowIs q 63 10 (pF p X.sd X.B X.K bs bq bu bb vR X.er)
  tb : Tb p X.T w S1
  ms : Mo 123 sR kMk okM X.gS bs X.N w
  mq : Mo 32 qR kU okU X.gQ bq X.N w
  mu : Mo 32 (plainElem Tryz.prog 3) kU okU X.gU bu X.N w
  mb : Mo 32 (plainElem Tryz.prog 32) kU okU X.gB bb X.N w
  ob : Ob (fun W => Bs W vR X.rest ∧ Z W) w S2
  ne : q ≠ bs ∧ q ≠ bq ∧ q ≠ bu ∧ q ≠ bb ∧ bs ≠ bq ∧ bs ≠ bu ∧ bs ≠ bb ∧ bq ≠ bu ∧ bq ≠ bb ∧ bu ≠ bb
  n1 : ¬ S1 q ∧ ¬ S1 bs ∧ ¬ S1 bq ∧ ¬ S1 bu ∧ ¬ S1 bb
  n2 : ¬ S2 q ∧ ¬ S2 bs ∧ ¬ S2 bq ∧ ¬ S2 bu ∧ ¬ S2 bb
  n12 : ∀ k, S1 k → ¬ S2 k
def Pset (q bs bq bu bb : Nat) (S1 S2 : Nat → Prop) (k : Nat) : Prop := S1 k ∨ S2 k ∨ k = q ∨ k = bs ∨ k = bq ∨ k = bu ∨ k = bb
/-- The encoder behind the pointer to block q, its table at block p. -/
def Raw (q p : Nat) (X : Qc) (Z : World → Prop) : Wx := fun w S => ∃ bs bq bu bb vR S1 S2, Pr q p X Z bs bq bu bb vR S1 S2 w ∧ ∀ k, S k ↔ Pset q bs bq bu bb S1 S2 k
section
variable {q p bs bq bu bb : Nat} {X Y : Qc} {Z Z' : World → Prop} {vR : Value} {S1 S2 S : Nat → Prop} {w w' : World}
theorem Pr.lt (h : Pr q p X Z bs bq bu bb vR S1 S2 w) : ∀ k, Pset q bs bq bu bb S1 S2 k → k < w.heap.size := by
  rintro k (hk | hk | rfl | rfl | rfl | rfl | rfl)
  · exact h.tb.lt k hk
  · exact h.ob.1 k hk
  · exact h.row.lt
  · exact h.ms.lt
  · exact h.mq.lt
  · exact h.mu.lt
  · exact h.mb.lt
theorem Pr.kept (h : Pr q p X Z bs bq bu bb vR S1 S2 w) (hs : w.heap.size ≤ w'.heap.size) (hb : ∀ k, Pset q bs bq bu bb S1 S2 k → w'.heap[k]? = w.heap[k]?) : Pr q p X Z bs bq bu bb vR S1 S2 w' :=
  ⟨h.row.of_block (hb q (.inr (.inr (.inl rfl)))), h.tb.kept hs fun k hk => hb k (.inl hk), h.ms.kept (hb bs (.inr (.inr (.inr (.inl rfl))))), h.mq.kept (hb bq (.inr (.inr (.inr (.inr (.inl rfl)))))),
    h.mu.kept (hb bu (.inr (.inr (.inr (.inr (.inr (.inl rfl))))))), h.mb.kept (hb bb (.inr (.inr (.inr (.inr (.inr (.inr rfl))))))), (Wd.ob _).kept h.ob hs fun k hk => hb k (.inr (.inl hk)), h.ne, h.n1, h.n2, h.n12⟩
theorem Pr.keep (h : Pr q p X Z bs bq bu bb vR S1 S2 w) (hb : Below w.heap.size w w') : Pr q p X Z bs bq bu bb vR S1 S2 w' := h.kept hb.size fun k hk => hb.block k (h.lt k hk)
theorem Pr.raw (h : Pr q p X Z bs bq bu bb vR S1 S2 w) : Raw q p X Z w (Pset q bs bq bu bb S1 S2) := ⟨bs, bq, bu, bb, vR, S1, S2, h, fun _ => Iff.rfl⟩
theorem Wd.raw (q p : Nat) (X : Qc) (Z : World → Prop) : Wd (Raw q p X Z) := by
  constructor
  · rintro w S ⟨bs, bq, bu, bb, vR, S1, S2, h, hS⟩ k hk
    exact h.lt k ((hS k).1 hk)
  · rintro w w' S ⟨bs, bq, bu, bb, vR, S1, S2, h, hS⟩ hs hb
    exact ⟨bs, bq, bu, bb, vR, S1, S2, h.kept hs fun k hk => hb k ((hS k).2 hk), hS⟩
/-- What the encoder's cells hold. -/
theorem Pr.cells (h : Pr q p X Z bs bq bu bb vR S1 S2 w) : w.cell? ⟨q, 0, none⟩ = some (.pointer (some ⟨p, 0, none⟩)) ∧ w.cell? ⟨q, 1, none⟩ = some (.bool X.sd) ∧ w.cell? ⟨q, 2, none⟩ = some (.int .i64 (X.B : Int)) ∧ w.cell? ⟨q, 3, none⟩ = some (.int .u64 (X.K : Int)) ∧
    w.cell? ⟨q, 4, none⟩ = some (.map (some bs)) ∧ w.cell? ⟨q, 5, none⟩ = some (.map (some bq)) ∧ w.cell? ⟨q, 6, none⟩ = some (.map (some bu)) ∧ w.cell? ⟨q, 7, none⟩ = some (.map (some bb)) ∧ w.cell? ⟨q, 8, none⟩ = some vR ∧ w.cell? ⟨q, 9, none⟩ = some (.int .i64 (X.er : Int)) ∧ ∀ i, w.frozen? ⟨q, i, none⟩ = false :=
  ⟨h.row.cell (i := 0) (by omega), h.row.cell (i := 1) (by omega), h.row.cell (i := 2) (by omega), h.row.cell (i := 3) (by omega), h.row.cell (i := 4) (by omega), h.row.cell (i := 5) (by omega), h.row.cell (i := 6) (by omega), h.row.cell (i := 7) (by omega), h.row.cell (i := 8) (by omega), h.row.cell (i := 9) (by omega), fun i => h.row.frozen i⟩
theorem Pr.bytes (h : Pr q p X Z bs bq bu bb vR S1 S2 w) : Bs w vR X.rest := h.ob.get.1
theorem Pr.z (h : Pr q p X Z bs bq bu bb vR S1 S2 w) : Z w := h.ob.get.2

/-! ### what turns -/
/-- A store into one of the encoder's own cells, that holds no map. -/
theorem Pr.set (h : Pr q p X Z bs bq bu bb vR S1 S2 w) (i : Nat) (v : Value) {sd : Bool} {K er : Nat} (hF : ∀ j, j < 10 → (if j = i then v else pF p X.sd X.B X.K bs bq bu bb vR X.er j) = pF p sd X.B K bs bq bu bb vR er j) :
    Pr q p { X with sd := sd, K := K, er := er } Z bs bq bu bb vR S1 S2 (w.setCell ⟨q, i, none⟩ v) ∧ Fp (Pset q bs bq bu bb S1 S2) w (w.setCell ⟨q, i, none⟩ v) := by
  have hf : Fp (fun k => k = q) w (w.setCell ⟨q, i, none⟩ v) := Fp.set _ _ _ _ rfl
  have hb : ∀ k, k < w.heap.size → k ≠ q → (w.setCell ⟨q, i, none⟩ v).heap[k]? = w.heap[k]? := fun k hk hn => hf.block k hk hn
  obtain ⟨e1, e2, e3, e4, _⟩ := h.ne
  exact ⟨⟨(h.row.set i v).congr hF, (Wd.tb p X.T).besides h.tb hf fun k hk e => h.n1.1 (e ▸ hk), h.ms.kept (hb _ h.ms.lt (Ne.symm e1)), h.mq.kept (hb _ h.mq.lt (Ne.symm e2)), h.mu.kept (hb _ h.mu.lt (Ne.symm e3)), h.mb.kept (hb _ h.mb.lt (Ne.symm e4)),
    (Wd.ob _).besides h.ob hf fun k hk e => h.n2.1 (e ▸ hk), h.ne, h.n1, h.n2, h.n12⟩, hf.mono fun k hk => .inr (.inr (.inl hk))⟩
/-- What waits: another slice. -/
theorem Pr.setRest (h : Pr q p X Z bs bq bu bb vR S1 S2 w) {v : Value} {rest : List UInt8} {S3 : Nat → Prop} (ho : Ob (fun W => Bs W v rest) w S3) (hz : Ob Z w S2) (hn : ∀ k, S3 k → ¬ S1 k ∧ k ≠ q ∧ k ≠ bs ∧ k ≠ bq ∧ k ≠ bu ∧ k ≠ bb) :
    Pr q p { X with rest := rest } Z bs bq bu bb v S1 (fun k => S2 k ∨ S3 k) (w.setCell ⟨q, 8, none⟩ v) := by
  have hf : Fp (fun k => k = q) w (w.setCell ⟨q, 8, none⟩ v) := Fp.set _ _ _ _ rfl
  have hb : ∀ k, k < w.heap.size → k ≠ q → (w.setCell ⟨q, 8, none⟩ v).heap[k]? = w.heap[k]? := fun k hk hn => hf.block k hk hn
  obtain ⟨e1, e2, e3, e4, _⟩ := h.ne
  obtain ⟨m1, m2, m3, m4, m5⟩ := h.n2
  exact ⟨(h.row.set 8 v).congr (fun j hj => by
      unfold pF
      match j, hj with
      | 0, _ => rfl
      | 1, _ => rfl
      | 2, _ => rfl
      | 3, _ => rfl
      | 4, _ => rfl
      | 5, _ => rfl
      | 6, _ => rfl
      | 7, _ => rfl
      | 8, _ => rfl
      | 9, _ => rfl), (Wd.tb p X.T).besides h.tb hf fun k hk e => h.n1.1 (e ▸ hk), h.ms.kept (hb _ h.ms.lt (Ne.symm e1)), h.mq.kept (hb _ h.mq.lt (Ne.symm e2)), h.mu.kept (hb _ h.mu.lt (Ne.symm e3)), h.mb.kept (hb _ h.mb.lt (Ne.symm e4)),
    ((Wd.ob _).besides (ho.and hz) hf (fun k hk e => hk.elim (fun hk => (hn k hk).2.1 e) fun hk => h.n2.1 (e ▸ hk))).mono (fun k hk => hk.symm) (fun k hk => by
      have : (w.setCell ⟨q, 8, none⟩ v).heap.size = w.heap.size := by simp [World.setCell]
      rw [this]
      exact hk.elim (h.ob.1 k) (ho.1 k)), h.ne, h.n1,
    ⟨fun hk => hk.elim m1 fun hk => (hn _ hk).2.1 rfl, fun hk => hk.elim m2 fun hk => (hn _ hk).2.2.1 rfl, fun hk => hk.elim m3 fun hk => (hn _ hk).2.2.2.1 rfl, fun hk => hk.elim m4 fun hk => (hn _ hk).2.2.2.2.1 rfl, fun hk => hk.elim m5 fun hk => (hn _ hk).2.2.2.2.2 rfl⟩,
    fun k hk hs => hs.elim (h.n12 k hk) fun hs => (hn k hs).1 hk⟩
theorem Pr.more (h : Pr q p X Z bs bq bu bb vR S1 S2 w) {N : Nat} (hN : X.N ≤ N) : Pr q p { X with N := N } Z bs bq bu bb vR S1 S2 w :=
  ⟨h.row, h.tb, h.ms.mono hN, h.mq.mono hN, h.mu.mono hN, h.mb.mono hN, h.ob, h.ne, h.n1, h.n2, h.n12⟩
theorem Pr.turnS (h : Pr q p X Z bs bq bu bb vR S1 S2 w) (hg : w.grownBy w' (some bs)) {g : Nat × Nat → Option DU} (ho : Mo 123 sR kMk okM g bs X.N w') : Pr q p { X with gS := g } Z bs bq bu bb vR S1 S2 w' ∧ Fp (Pset q bs bq bu bb S1 S2) w w' := by
  obtain ⟨e1, e2, e3, e4, e5, e6, e7, e8, e9, e10⟩ := h.ne
  obtain ⟨m1, m2, m3, m4, m5⟩ := h.n1
  obtain ⟨k1, k2, k3, k4, k5⟩ := h.n2
  have hf : Fp (fun k => k = bs) w w' := Fp.of_grown hg fun k hk => (Option.some.inj hk).symm
  have hb : ∀ k, k < w.heap.size → k ≠ bs → w'.heap[k]? = w.heap[k]? := fun k hk hn => hf.block k hk hn
  exact ⟨⟨h.row.of_block (hb _ h.row.lt e1), (Wd.tb p X.T).besides h.tb hf fun k hk e => m2 (e ▸ hk), ho, h.mq.kept (hb _ h.mq.lt (Ne.symm e5)), h.mu.kept (hb _ h.mu.lt (Ne.symm e6)), h.mb.kept (hb _ h.mb.lt (Ne.symm e7)), (Wd.ob _).besides h.ob hf fun k hk e => k2 (e ▸ hk), h.ne, h.n1, h.n2, h.n12⟩, hf.mono fun k hk => .inr (.inr (.inr (.inl hk)))⟩
theorem Pr.turnQ (h : Pr q p X Z bs bq bu bb vR S1 S2 w) (hg : w.grownBy w' (some bq)) {g : Nat → Option DU} (ho : Mo 32 qR kU okU g bq X.N w') : Pr q p { X with gQ := g } Z bs bq bu bb vR S1 S2 w' ∧ Fp (Pset q bs bq bu bb S1 S2) w w' := by
  obtain ⟨e1, e2, e3, e4, e5, e6, e7, e8, e9, e10⟩ := h.ne
  obtain ⟨m1, m2, m3, m4, m5⟩ := h.n1
  obtain ⟨k1, k2, k3, k4, k5⟩ := h.n2
  have hf : Fp (fun k => k = bq) w w' := Fp.of_grown hg fun k hk => (Option.some.inj hk).symm
  have hb : ∀ k, k < w.heap.size → k ≠ bq → w'.heap[k]? = w.heap[k]? := fun k hk hn => hf.block k hk hn
  exact ⟨⟨h.row.of_block (hb _ h.row.lt e2), (Wd.tb p X.T).besides h.tb hf fun k hk e => m3 (e ▸ hk), h.ms.kept (hb _ h.ms.lt e5), ho, h.mu.kept (hb _ h.mu.lt (Ne.symm e8)), h.mb.kept (hb _ h.mb.lt (Ne.symm e9)), (Wd.ob _).besides h.ob hf fun k hk e => k3 (e ▸ hk), h.ne, h.n1, h.n2, h.n12⟩, hf.mono fun k hk => .inr (.inr (.inr (.inr (.inl hk))))⟩
theorem Pr.turnU (h : Pr q p X Z bs bq bu bb vR S1 S2 w) (hg : w.grownBy w' (some bu)) {g : Nat → Option DU} (ho : Mo 32 (plainElem Tryz.prog 3) kU okU g bu X.N w') : Pr q p { X with gU := g } Z bs bq bu bb vR S1 S2 w' ∧ Fp (Pset q bs bq bu bb S1 S2) w w' := by
  obtain ⟨e1, e2, e3, e4, e5, e6, e7, e8, e9, e10⟩ := h.ne
  obtain ⟨m1, m2, m3, m4, m5⟩ := h.n1
  obtain ⟨k1, k2, k3, k4, k5⟩ := h.n2
  have hf : Fp (fun k => k = bu) w w' := Fp.of_grown hg fun k hk => (Option.some.inj hk).symm
  have hb : ∀ k, k < w.heap.size → k ≠ bu → w'.heap[k]? = w.heap[k]? := fun k hk hn => hf.block k hk hn
  exact ⟨⟨h.row.of_block (hb _ h.row.lt e3), (Wd.tb p X.T).besides h.tb hf fun k hk e => m4 (e ▸ hk), h.ms.kept (hb _ h.ms.lt e6), h.mq.kept (hb _ h.mq.lt e8), ho, h.mb.kept (hb _ h.mb.lt (Ne.symm e10)), (Wd.ob _).besides h.ob hf fun k hk e => k4 (e ▸ hk), h.ne, h.n1, h.n2, h.n12⟩, hf.mono fun k hk => .inr (.inr (.inr (.inr (.inr (.inl hk)))))⟩
theorem Pr.turnB (h : Pr q p X Z bs bq bu bb vR S1 S2 w) (hg : w.grownBy w' (some bb)) {g : Nat → Option DU} (ho : Mo 32 (plainElem Tryz.prog 32) kU okU g bb X.N w') : Pr q p { X with gB := g } Z bs bq bu bb vR S1 S2 w' ∧ Fp (Pset q bs bq bu bb S1 S2) w w' := by
  obtain ⟨e1, e2, e3, e4, e5, e6, e7, e8, e9, e10⟩ := h.ne
  obtain ⟨m1, m2, m3, m4, m5⟩ := h.n1
  obtain ⟨k1, k2, k3, k4, k5⟩ := h.n2
  have hf : Fp (fun k => k = bb) w w' := Fp.of_grown hg fun k hk => (Option.some.inj hk).symm
  have hb : ∀ k, k < w.heap.size → k ≠ bb → w'.heap[k]? = w.heap[k]? := fun k hk hn => hf.block k hk hn
  exact ⟨⟨h.row.of_block (hb _ h.row.lt e4), (Wd.tb p X.T).besides h.tb hf fun k hk e => m5 (e ▸ hk), h.ms.kept (hb _ h.ms.lt e7), h.mq.kept (hb _ h.mq.lt e9), h.mu.kept (hb _ h.mu.lt e10), ho, (Wd.ob _).besides h.ob hf fun k hk e => k5 (e ▸ hk), h.ne, h.n1, h.n2, h.n12⟩, hf.mono fun k hk => .inr (.inr (.inr (.inr (.inr (.inr hk)))))⟩
/-- The table turns. -/
theorem Pr.tab (h : Pr q p X Z bs bq bu bb vR S1 S2 w) {T : Tab} (ht : Turn (Tb p T) S1 w w') : Turn (Raw q p { X with T := T } Z) (Pset q bs bq bu bb S1 S2) w w' := by
  obtain ⟨S3, x, s, f⟩ := ht
  have hlt := h.lt
  have hnew : ∀ k, Pset q bs bq bu bb S1 S2 k → ¬ S1 k → ¬ S3 k := fun k hk hn h3 => (s k h3).elim hn fun hge => by have := hlt k hk; omega
  obtain ⟨m1, m2, m3, m4, m5⟩ := h.n1
  have hq : Pset q bs bq bu bb S1 S2 q := .inr (.inr (.inl rfl))
  have h4 : Pset q bs bq bu bb S1 S2 bs := .inr (.inr (.inr (.inl rfl)))
  have h5 : Pset q bs bq bu bb S1 S2 bq := .inr (.inr (.inr (.inr (.inl rfl))))
  have h6 : Pset q bs bq bu bb S1 S2 bu := .inr (.inr (.inr (.inr (.inr (.inl rfl)))))
  have h7 : Pset q bs bq bu bb S1 S2 bb := .inr (.inr (.inr (.inr (.inr (.inr rfl)))))
  have hb : ∀ k, Pset q bs bq bu bb S1 S2 k → ¬ S1 k → w'.heap[k]? = w.heap[k]? := fun k hk hn => f.block k (hlt k hk) hn
  refine ⟨Pset q bs bq bu bb S3 S2, Pr.raw ⟨h.row.of_block (hb q hq m1), x, h.ms.kept (hb _ h4 m2), h.mq.kept (hb _ h5 m3), h.mu.kept (hb _ h6 m4), h.mb.kept (hb _ h7 m5), (Wd.ob _).besides h.ob f fun k hk hs => h.n12 k hs hk, h.ne,
    ⟨hnew _ hq m1, hnew _ h4 m2, hnew _ h5 m3, hnew _ h6 m4, hnew _ h7 m5⟩, h.n2, fun k hk hs => hnew k (.inr (.inl hs)) (fun h1 => h.n12 k h1 hs) hk⟩, ?_, f.mono fun k hk => .inl hk⟩
  rintro k (hk | hk)
  · exact (s k hk).imp .inl id
  · exact .inl (.inr hk)
/-- What is only read beside: told anew. -/
theorem Pr.reZ (h : Pr q p X Z bs bq bu bb vR S1 S2 w) (hz : ∀ W, Z W → Z' W) : Pr q p X Z' bs bq bu bb vR S1 S2 w :=
  ⟨h.row, h.tb, h.ms, h.mq, h.mu, h.mb, h.ob.map fun W hW => ⟨hW.1, hz W hW.2⟩, h.ne, h.n1, h.n2, h.n12⟩
theorem Pr.addZ (h : Pr q p X Z bs bq bu bb vR S1 S2 w) {S3 : Nat → Prop} (ho : Ob Z' w S3) (hn : ∀ k, S3 k → ¬ S1 k ∧ k ≠ q ∧ k ≠ bs ∧ k ≠ bq ∧ k ≠ bu ∧ k ≠ bb) : Pr q p X (fun W => Z W ∧ Z' W) bs bq bu bb vR S1 (fun k => S2 k ∨ S3 k) w := by
  obtain ⟨m1, m2, m3, m4, m5⟩ := h.n2
  exact ⟨h.row, h.tb, h.ms, h.mq, h.mu, h.mb, (h.ob.and ho).map fun W hW => ⟨hW.1.1, hW.1.2, hW.2⟩, h.ne, h.n1,
    ⟨fun hk => hk.elim m1 fun hk => (hn _ hk).2.1 rfl, fun hk => hk.elim m2 fun hk => (hn _ hk).2.2.1 rfl, fun hk => hk.elim m3 fun hk => (hn _ hk).2.2.2.1 rfl, fun hk => hk.elim m4 fun hk => (hn _ hk).2.2.2.2.1 rfl, fun hk => hk.elim m5 fun hk => (hn _ hk).2.2.2.2.2 rfl⟩,
    fun k hk hs => hs.elim (h.n12 k hk) fun hs => (hn k hs).1 hk⟩
theorem Raw.more (h : Raw q p X Z w S) {N : Nat} (hN : X.N ≤ N) : Raw q p { X with N := N } Z w S := by
  obtain ⟨bs, bq, bu, bb, vR, S1, S2, h, hS⟩ := h
  exact ⟨bs, bq, bu, bb, vR, S1, S2, h.more hN, hS⟩
theorem Raw.tb (h : Raw q p X Z w S) : ∃ S1, Tb p X.T w S1 := by
  obtain ⟨bs, bq, bu, bb, vR, S1, S2, h, hS⟩ := h
  exact ⟨S1, h.tb⟩
theorem Raw.ok (h : Raw q p X Z w S) : X.T.ok := by obtain ⟨S1, h1⟩ := h.tb; exact h1.ok
theorem Raw.z (h : Raw q p X Z w S) : Z w := by
  obtain ⟨bs, bq, bu, bb, vR, S1, S2, h, hS⟩ := h
  exact h.z
/-- Back from the parts: all that was done lies in the encoder's blocks. -/
theorem Pr.turn {Y : Qc} {Z' : World → Prop} {vR' : Value} (h0 : ∀ k, S k ↔ Pset q bs bq bu bb S1 S2 k) (h : Pr q p Y Z' bs bq bu bb vR' S1 S2 w') (hf : Fp (Pset q bs bq bu bb S1 S2) w w') : Turn (Raw q p Y Z') S w w' :=
  ⟨_, h.raw, fun k hk => .inl ((h0 k).2 hk), hf.mono fun k hk => (h0 k).2 hk⟩
end
end Go.Proofs.YtebakjdeighdnaaGreat

/-
  What the encoder's maps answer; contracts of mayUse, use, Known, Table.
-/
namespace Go.Proofs.YtebakjdeighdnaaGreat
open Go.RowKit Go.Maps
set_option linter.unusedVariables false

def useF (c : Nat → Nat) : Nat → Option DU := fun k => if c k = 0 then none else some (.lit (.int .i64 (c k : Int)))
def blkD (f : Nat → Option Nat) : Nat → Option DU := fun s => (f s).map fun v : Nat => .lit (.int .u64 (v : Int))
theorem useF_get (c : Nat → Nat) (i : Nat) : (useF c i).getD (.lit (.int .i64 0)) = .lit (.int .i64 (c i : Int)) := by
  unfold useF
  split
  · rename_i h; rw [h]; rfl
  · rfl
theorem blkD_get (f : Nat → Option Nat) (s : Nat) : (blkD f s).getD (.lit (.int .u64 0)) = .lit (.int .u64 (((f s).getD 0 : Nat) : Int)) := by
  unfold blkD
  cases f s <;> rfl
theorem blkD_some (f : Nat → Option Nat) (s : Nat) : (blkD f s).isSome = (f s).isSome := by unfold blkD; cases f s <;> rfl
theorem zeroI64 (w : World) : (zeroValue 3).run Tryz.prog w = .ok (.int .i64 0) w := by kernel_rfl
theorem zeroU64' (w : World) : (zeroValue 32).run Tryz.prog w = .ok (.int .u64 0) w := by kernel_rfl
theorem zeroQue (w : World) : (zeroValue 121).run Tryz.prog w = .ok (.agg #[.int .u64 0, .int .u64 0]) w := by kernel_rfl
theorem zeroSl (w : World) : (zeroValue 66).run Tryz.prog w = .ok (.slice none 0 0) w := by kernel_rfl
section
variable {q p bs bq bu bb : Nat} {X Y : Qc} {Z Z' : World → Prop} {vR : Value} {S1 S2 S : Nat → Prop} {w w' : World} {c : Nat → Nat} {f : Nat → Option Nat}
theorem Pr.lookU (h : Pr q p X Z bs bq bu bb vR S1 S2 w) (hc : X.gU = useF c) {i : Nat} (hi : okU i) :
    (Instr.lookup 60 (.map (some bu)) (.int .u64 (i : Int)) false).run Tryz.prog w = .ok (.int .i64 (c i : Int)) w := by
  obtain ⟨v, ps, hrun, hv⟩ := h.mu.look uLaw Tryz.underlying60 hi (zeroI64 w) (plainElem_int Tryz.underlying3 (by decide)) (keyOf_u hi)
  obtain ⟨x, rfl, hx, _⟩ := plainElem_int_inv Tryz.underlying3 hv
  rw [hc, useF_get] at hx
  simp only [Prod.mk.injEq, DataW.lit.injEq, Lit.int.injEq, true_and] at hx
  rw [hrun, hx.1]
theorem Pr.lookB (h : Pr q p X Z bs bq bu bb vR S1 S2 w) (hf : X.gB = blkD f) {s : Nat} (hs : okU s) :
    (Instr.lookup 61 (.map (some bb)) (.int .u64 (s : Int)) false).run Tryz.prog w = .ok (.int .u64 (((f s).getD 0 : Nat) : Int)) w := by
  obtain ⟨v, ps, hrun, hv⟩ := h.mb.look uLaw Tryz.underlying61 hs (zeroU64' w) (plainElem_int Tryz.underlying32 (by decide)) (keyOf_u hs)
  obtain ⟨x, rfl, hx, _⟩ := plainElem_int_inv Tryz.underlying32 hv
  rw [hf, blkD_get] at hx
  simp only [Prod.mk.injEq, DataW.lit.injEq, Lit.int.injEq, true_and] at hx
  rw [hrun, hx.1]
theorem Pr.lookBok (h : Pr q p X Z bs bq bu bb vR S1 S2 w) (hf : X.gB = blkD f) {s : Nat} (hs : okU s) :
    (Instr.lookup 61 (.map (some bb)) (.int .u64 (s : Int)) true).run Tryz.prog w = .ok (.tuple #[.int .u64 (((f s).getD 0 : Nat) : Int), .bool (f s).isSome]) w := by
  obtain ⟨v, ps, hrun, hv⟩ := h.mb.look_ok uLaw Tryz.underlying61 hs (zeroU64' w) (plainElem_int Tryz.underlying32 (by decide)) (keyOf_u hs)
  obtain ⟨x, rfl, hx, _⟩ := plainElem_int_inv Tryz.underlying32 hv
  rw [hf, blkD_get] at hx
  simp only [Prod.mk.injEq, DataW.lit.injEq, Lit.int.injEq, true_and] at hx
  rw [hrun, hx.1, hf, blkD_some]
theorem Pr.lenB (h : Pr q p X Z bs bq bu bb vR S1 S2 w) (hf : X.gB = blkD f) {bl : List Nat} (hn : bl.Nodup) (hk : ∀ s, s ∈ bl ↔ okU s ∧ (f s).isSome = true) (ty : TypeId) :
    (Builtin.len_ #[61] ty #[.map (some bb)]).run Tryz.prog w = .ok (.int .i64 (bl.length : Int)) w :=
  h.mb.len klU Tryz.underlying61 hn (fun s => by rw [hf, blkD_some]; exact hk s) ty
/-- A store into the map of uses. -/
theorem Pr.putU (h : Pr q p X Z bs bq bu bb vR S1 S2 w) (hc : X.gU = useF c) (hN : X.N < 1000000000) {i n : Nat} (hi : okU i) (hn : 0 < n ∧ n ≤ 1000000000) :
    ∃ w', (Instr.mapUpdate 60 (.map (some bu)) (.int .u64 (i : Int)) (.int .i64 (n : Int))).run Tryz.prog w = .ok () w' ∧
      Pr q p { X with N := X.N + 1, gU := useF fun j => if j = i then n else c j } Z bs bq bu bb vR S1 S2 w' ∧ Fp (Pset q bs bq bu bb S1 S2) w w' := by
  obtain ⟨w', hrun, ho, hg⟩ := Mo.put uLaw klU Tryz.underlying60 h.mu hN hi (keyOf_u hi) (plainElem_int Tryz.underlying3 (a := (n : Int)) (WalkArith.wf_i64 (by omega)))
  obtain ⟨h1, h2⟩ := (h.more (Nat.le_succ X.N)).turnU hg (g := useF fun j => if j = i then n else c j) (ho.congr fun j hj => by
    rw [hc]
    show _ = if (if j = i then n else c j) = 0 then none else some (DataW.lit (Lit.int IntKind.i64 ((if j = i then n else c j : Nat) : Int)))
    by_cases e : j = i
    · rw [if_pos e, if_pos e, if_neg (by omega)]
    · rw [if_neg e, if_neg e]
      rfl)
  exact ⟨w', hrun, h1, h2⟩
/-- A store into the map of blocked streams. -/
theorem Pr.putB (h : Pr q p X Z bs bq bu bb vR S1 S2 w) (hf : X.gB = blkD f) (hN : X.N < 1000000000) {s n : Nat} (hs : okU s) (hn : okU n) :
    ∃ w', (Instr.mapUpdate 61 (.map (some bb)) (.int .u64 (s : Int)) (.int .u64 (n : Int))).run Tryz.prog w = .ok () w' ∧
      Pr q p { X with N := X.N + 1, gB := blkD fun j => if j = s then some n else f j } Z bs bq bu bb vR S1 S2 w' ∧ Fp (Pset q bs bq bu bb S1 S2) w w' := by
  obtain ⟨w', hrun, ho, hg⟩ := Mo.put uLaw klU Tryz.underlying61 h.mb hN hs (keyOf_u hs) (plainElem_int Tryz.underlying32 (wfU hn))
  obtain ⟨h1, h2⟩ := (h.more (Nat.le_succ X.N)).turnB hg (g := blkD fun j => if j = s then some n else f j) (ho.congr fun j hj => by
    rw [hf]
    show _ = (if j = s then some n else f j).map fun v : Nat => DataW.lit (Lit.int IntKind.u64 (v : Int))
    by_cases e : j = s
    · rw [if_pos e, if_pos e]
      rfl
    · rw [if_neg e, if_neg e]
      rfl)
  exact ⟨w', hrun, h1, h2⟩

theorem qknown_any (h : Raw q p X Z w S) : Calls Tryz.prog 18 #[.pointer (some ⟨q, 0, none⟩)] w fun e w' => e = .returned (.int .u64 (X.K : Int)) ∧ w = w' := by
  obtain ⟨bs, bq, bu, bb, vR, S1, S2, h, _⟩ := h
  obtain ⟨c0, c1, c2, c3, _⟩ := h.cells
  go_enter Tryz.func18, Tryz.ntmps18
  go_wp2
  go_ret
  exact ⟨rfl, rfl⟩

set_option maxRecDepth 100000 in
set_option maxHeartbeats 2000000 in
theorem mayUse_any (h : Raw q p X Z w S) (hf : X.gB = blkD f) {bl : List Nat} (hn : bl.Nodup) (hk : ∀ s, s ∈ bl ↔ okU s ∧ (f s).isSome = true) {s i : Nat} (hs : okU s) (hi : okU i) :
    Calls Tryz.prog 57 #[.pointer (some ⟨q, 0, none⟩), .int .u64 (s : Int), .int .u64 (i : Int)] w fun e w' => e = .returned (.bool (decide (i < X.K) || decide (bl.length < X.B) || (f s).isSome)) ∧ Below w.heap.size w w' := by
  obtain ⟨bs, bq, bu, bb, vR, S1, S2, h, _⟩ := h
  obtain ⟨c0, c1, c2, c3, c4, c5, c6, c7, _⟩ := h.cells
  have hl := fun n ty => (h.keep (below_drewN (Below.refl _ _) n)).lenB hf hn hk ty
  have hlo := fun n => (h.keep (below_drewN (Below.refl _ _) n)).lookBok hf hs
  obtain ⟨x, hx⟩ : ∃ x : Nat, (f s).getD 0 = x := ⟨_, rfl⟩
  obtain ⟨z, hz⟩ : ∃ z, (f s).isSome = z := ⟨_, rfl⟩
  simp only [hx, hz] at hlo
  rw [hz]
  obtain ⟨K, hK⟩ : ∃ K, X.K = K := ⟨_, rfl⟩
  obtain ⟨B, hB⟩ : ∃ B, X.B = B := ⟨_, rfl⟩
  obtain ⟨n, hn'⟩ : ∃ n, bl.length = n := ⟨_, rfl⟩
  rw [hK] at c3
  rw [hB] at c2
  simp only [hn'] at hl
  rw [hK, hB, hn']
  clear h hf hn hk hs hi hx hz hK hB hn' c1
  obtain ⟨SS, hSS⟩ := letter s
  simp only [hSS] at hlo ⊢
  clear hSS
  by_cases h1 : i < K
  · have hd : decide (i < K) = true := decide_eq_true h1
    rw [hd]
    clear h1
    go_enter Tryz.func57, Tryz.ntmps57
    go_wp2_with fail
    go_quiet (fail)
    go_wp2_with fail
    go_ret
    exact ⟨rfl, below_drewN (Below.refl _ _) _⟩
  · have hd : decide (i < K) = false := decide_eq_false h1
    rw [hd]
    clear h1
    by_cases h2 : n < B
    · have hd2 : decide (n < B) = true := decide_eq_true h2
      rw [hd2]
      clear h2
      go_enter Tryz.func57, Tryz.ntmps57
      go_wp2_with fail
      go_quiet (fail)
      go_wp2_with fail
      go_ret
      exact ⟨rfl, below_drewN (Below.refl _ _) _⟩
    · have hd2 : decide (n < B) = false := decide_eq_false h2
      rw [hd2]
      clear h2
      go_enter Tryz.func57, Tryz.ntmps57
      go_wp2_with fail
      go_quiet (fail)
      go_wp2_with fail
      go_ret
      exact ⟨rfl, below_drewN (Below.refl _ _) _⟩
end
end Go.Proofs.YtebakjdeighdnaaGreat

/-
  Contract of the document's pinned.
-/
namespace Go.Proofs.YtebakjdeighdnaaGreat
open Go.RowKit Go.Maps
set_option linter.unusedVariables false

theorem mem_take_succ {l : List Nat} {k a : Nat} (hk : k < l.length) (h1 : ¬ a ∈ l.take k) (h2 : l[k] ≠ a) : ¬ a ∈ l.take (k + 1) := by
  rw [List.take_succ_eq_append_getElem hk, List.mem_append]
  rintro (h | h)
  · exact h1 h
  · exact h2 (List.mem_singleton.1 h).symm
theorem any_take_succ {op : List Qs} {k a : Nat} (hk : k < op.length) (h1 : (op.take k).any (fun x => decide (a ∈ x.u)) = false) (h2 : ¬ a ∈ op[k].u) : (op.take (k + 1)).any (fun x => decide (a ∈ x.u)) = false := by
  rw [List.take_succ_eq_append_getElem hk, List.any_append, h1]
  simp [h2]
theorem pin_known {op : List Qs} {K : Nat} {now : List Nat} {a : Nat} (h : K ≤ a) : pinQ op K now a = true := by unfold pinQ; simp [h]
theorem pin_now {op : List Qs} {K : Nat} {now : List Nat} {a k : Nat} (hk : k < now.length) (h : now[k] = a) : pinQ op K now a = true := by
  unfold pinQ
  have : a ∈ now := by rw [← h]; exact List.getElem_mem hk
  simp [this]
theorem pin_use {op : List Qs} {K : Nat} {now : List Nat} {a k j : Nat} (hk : k < op.length) (hj : j < op[k].u.length) (h : op[k].u[j] = a) : pinQ op K now a = true := by
  unfold pinQ
  have h1 : a ∈ op[k].u := by rw [← h]; exact List.getElem_mem hj
  have h2 : op.any (fun x => decide (a ∈ x.u)) = true := by
    rw [List.any_eq_true]
    exact ⟨op[k], List.getElem_mem hk, by simp [h1]⟩
  rw [h2]
  simp
theorem pin_no {op : List Qs} {K : Nat} {now : List Nat} {a : Nat} (h1 : ¬ K ≤ a) (h2 : ¬ a ∈ now) (h3 : op.any (fun x => decide (a ∈ x.u)) = false) : pinQ op K now a = false := by
  unfold pinQ
  rw [h3]
  simp [h1, h2]

section
variable {q t : Nat} {E : Qe} {w : World} {S : Nat → Prop}
set_option maxRecDepth 100000 in
set_option maxHeartbeats 2000000 in
theorem pinned_any (h : E8 q t E w S) (a : Nat) {nV : Value} {now : List Nat} (hnow : Un w nV now) :
    Calls Tryz.prog 77 #[.pointer (some ⟨q, 0, none⟩), .int .u64 a, nV] w fun e w' => e = .returned (.bool (pinQ E.op E.K now a)) ∧ Below w.heap.size w w' := by
  obtain ⟨vO, vR, ps, hps, hsr, _, c0, c1, c2, c3, c4, c5, c6, _⟩ := h.cells
  obtain ⟨hl, hget⟩ := ps_get hps
  have hlen := fun ty W => hsr.run_len ty W
  have hlenN := fun ty W => hnow.run_len ty W
  have HS := Bx.mk hsr
  have HG := Bx.mk hget
  have HNOW := Bx.mk hnow
  have HC : Bx (∀ W, Below w.heap.size w W → W.cell? ⟨q, 3, none⟩ = some vO) := ⟨fun W hW => (hW.cell (World.block_lt_of_cell? _ _ c3)).trans c3⟩
  obtain ⟨op, hop⟩ : ∃ op, E.op = op := ⟨_, rfl⟩
  obtain ⟨K, hK⟩ : ∃ K, E.K = K := ⟨_, rfl⟩
  rw [hop] at hl HG
  rw [hop, hK]
  rw [hK] at c2
  obtain ⟨n, hn⟩ : ∃ n, ps.length = n := ⟨_, rfl⟩
  rw [hn] at hlen hl
  have HN := Bx.mk hn
  have HL := Bx.mk hl
  have hmax : Bx (n ≤ maxLen) := ⟨by rw [← hn]; exact Rn.len hsr.1⟩
  obtain ⟨m, hm⟩ : ∃ m, now.length = m := ⟨_, rfl⟩
  rw [hm] at hlenN
  have HM := Bx.mk hm
  have hmaxm : Bx (m ≤ maxLen) := ⟨by rw [← hm]; have := Rd.len hnow; simpa using this⟩
  obtain ⟨A, hA⟩ := letter a
  obtain ⟨K', hK'⟩ := letter K
  rw [hK'] at c2
  rw [hA]
  have HA := Bx.mk hA
  have HP1 := Bx.mk (fun h => pin_known (op := op) (K := K) (now := now) (a := a) h)
  have HP2 := Bx.mk (fun k hk h => pin_now (op := op) (K := K) (now := now) (a := a) (k := k) hk h)
  have HP3 := Bx.mk (fun k j hk hj h => pin_use (op := op) (K := K) (now := now) (a := a) (k := k) (j := j) hk hj h)
  have HP4 := Bx.mk (fun h1 h2 h3 => pin_no (op := op) (K := K) (now := now) (a := a) h1 h2 h3)
  clear h hps hsr hget hnow hop hK hn hl hm c0 c1 c3 c4 c5 c6
  by_cases hka : K ≤ a
  · have hd : decide (K' ≤ A) = true := by rw [decide_eq_true_iff]; omega
    have HF := Bx.mk (HP1.out hka)
    clear hka hK' hA
    go_enter Tryz.func77, Tryz.ntmps77
    go_wp2
    go_ret
    exact ⟨by rw [HF.out]; rfl, Below.refl _ _⟩
  have hd : decide (K' ≤ A) = false := by rw [decide_eq_false_iff_not]; omega
  have HKA := Bx.mk hka
  clear hka hK' hA
  go_enter Tryz.func77, Tryz.ntmps77
  go_wp2
  clear c2 hd
  go_loopg [7] m (fun g s7 wx => ∃ k : Nat, k + g = m ∧ s7 = .int .i64 k ∧ Bx (¬ a ∈ now.take k) ∧ Bx (Below w.heap.size w wx))
  case atStart => exact ⟨0, by omega, rfl, ⟨by simp⟩, ⟨Below.refl _ _⟩⟩
  case round =>
    obtain ⟨k, hkg, rfl, HB, HW⟩ := hrel
    cases gk with
    | zero =>
      obtain rfl : k = m := by omega
      have HNO : Bx (¬ a ∈ now) := ⟨by have := HB.out; rwa [← HM.out, List.take_length] at this⟩
      clear HB
      go_wp2
      go_loopg [8] n (fun g s8 wx => ∃ i : Nat, i + g = n ∧ s8 = .int .i64 i ∧ Bx ((op.take i).any (fun x => decide (a ∈ x.u)) = false) ∧ Bx (Below w.heap.size w wx))
      case atStart => exact ⟨0, by omega, rfl, ⟨rfl⟩, HW⟩
      case round =>
        clear HW
        obtain ⟨i, hig, rfl, HB, HW⟩ := hrel
        have d3 := HC.out wr HW.out
        cases gk with
        | zero =>
          obtain rfl : i = n := by omega
          have HF : Bx (pinQ op K now a = false) := ⟨HP4.out HKA.out HNO.out (by have := HB.out; rwa [HL.out, List.take_length] at this)⟩
          go_wp2
          go_ret
          exact ⟨by rw [HF.out]; rfl, HW.out⟩
        | succ g =>
          have hi : i < n := by omega
          have hiz : (i : Int) < (n : Int) := by omega
          have hin : i < ps.length := by rw [HN.out]; exact hi
          have hio : i < op.length := by rw [← HL.out]; exact hi
          have hib : (i : Int) < 9223372036854775807 := by have := hmax.out; unfold maxLen at this; omega
          obtain ⟨b, o, hix, hcs⟩ := HS.out.at_ i hin
          have HCS := Bx.mk hcs
          have hun := HS.out.2 ps[i] (List.getElem_mem hin)
          rw [HG.out i hin hio] at hun
          obtain ⟨uV, huV⟩ : ∃ uV, ps[i].2 = uV := ⟨_, rfl⟩
          rw [huV] at hun HCS
          have HAT := Bx.mk (fun h2 => any_take_succ (op := op) (k := i) (a := a) hio HB.out h2)
          have HPU := Bx.mk (fun j hj h => HP3.out i j hio hj h)
          generalize op[i].u = u at hun HAT HPU
          have hlenU := fun ty W => hun.run_len ty W
          have HUN := Bx.mk hun
          obtain ⟨l, hl⟩ : ∃ l, u.length = l := ⟨_, rfl⟩
          rw [hl] at hlenU
          have HLU := Bx.mk hl
          have hmaxu : Bx (l ≤ maxLen) := ⟨by rw [← hl]; have := Rd.len hun; simpa using this⟩
          obtain ⟨uA, un, uc, rfl⟩ := hun.shape
          clear hcs hun huV hl hio
          go_wp2
          clear d3
          go_loopg [9] l (fun g s9 wy => ∃ j : Nat, j + g = l ∧ s9 = .int .i64 j ∧ Bx (¬ a ∈ u.take j) ∧ Bx (Below w.heap.size w wy))
          case atStart => exact ⟨0, by omega, rfl, ⟨by simp⟩, HW⟩
          case round =>
            clear HW
            obtain ⟨j, hjg, rfl, HBJ, HW⟩ := hrel
            have d3 := HC.out wr HW.out
            obtain ⟨_, _, e2⟩ := HCS.out wr (HS.out.keep HW.out)
            cases gk with
            | zero =>
              obtain rfl : j = l := by omega
              have HF : Bx ((op.take (i + 1)).any (fun x => decide (a ∈ x.u)) = false) := ⟨HAT.out (by have := HBJ.out; rwa [← HLU.out, List.take_length] at this)⟩
              go_wp2
              go_roundg g
              case measure => omega
              case rel => exact ⟨i + 1, by omega, by go_num, HF, HW⟩
            | succ g' =>
              have hj : j < l := by omega
              have hjz : (j : Int) < (l : Int) := by omega
              have hju : j < u.length := by rw [HLU.out]; exact hj
              have hjb : (j : Int) < 9223372036854775807 := by have := hmaxu.out; unfold maxLen at this; omega
              obtain ⟨b2, o2, hix2, hcs2⟩ := HUN.out.at_ j hju
              have f0 := hcs2 wr (HUN.out.keep HW.out)
              have HHIT := Bx.mk (fun h => HPU.out j hju h)
              have HMIS := Bx.mk (fun h => mem_take_succ hju HBJ.out h)
              generalize u[j] = z at f0 HHIT HMIS
              obtain ⟨Z, hZ⟩ := letter z
              rw [hZ] at f0
              have hA := HA.out
              clear hcs2
              by_cases hza : z = a
              · have hb1 : (Z == A) = true := by rw [beq_iff_eq]; omega
                have HF := Bx.mk (HHIT.out hza)
                clear hza hZ hA
                go_wp2
                go_ret
                exact ⟨by rw [HF.out]; rfl, HW.out⟩
              · have hb1 : (Z == A) = false := by rw [beq_eq_false_iff_ne]; omega
                have HF := Bx.mk (HMIS.out hza)
                clear hza hZ hA
                go_wp2
                go_roundg g'
                case measure => omega
                case rel => exact ⟨j + 1, by omega, by go_num, HF, HW⟩
    | succ g =>
      have hk : k < m := by omega
      have hkz : (k : Int) < (m : Int) := by omega
      have hkn : k < now.length := by rw [HM.out]; exact hk
      have hkb : (k : Int) < 9223372036854775807 := by have := hmaxm.out; unfold maxLen at this; omega
      obtain ⟨b, o, hix, hcs⟩ := HNOW.out.at_ k hkn
      have e0 := hcs wr (HNOW.out.keep HW.out)
      have HHIT := Bx.mk (fun h => HP2.out k hkn h)
      have HMIS := Bx.mk (fun h => mem_take_succ hkn HB.out h)
      generalize now[k] = z at e0 HHIT HMIS
      obtain ⟨Z, hZ⟩ := letter z
      rw [hZ] at e0
      have hA := HA.out
      clear hcs
      by_cases hza : z = a
      · have hb1 : (Z == A) = true := by rw [beq_iff_eq]; omega
        have HF := Bx.mk (HHIT.out hza)
        clear hza hZ hA
        go_wp2
        go_ret
        exact ⟨by rw [HF.out]; rfl, HW.out⟩
      · have hb1 : (Z == A) = false := by rw [beq_eq_false_iff_ne]; omega
        have HF := Bx.mk (HMIS.out hza)
        clear hza hZ hA
        go_wp2
        go_roundg g
        case measure => omega
        case rel => exact ⟨k + 1, by omega, by go_num, HF, HW⟩
end
end Go.Proofs.YtebakjdeighdnaaGreat

/-
  Contracts of the encoder's use and release.
-/
namespace Go.Proofs.YtebakjdeighdnaaGreat
open Go.RowKit Go.Maps
set_option linter.unusedVariables false

/-- One section more uses place i. -/
def bumpU (c : Nat → Nat) (i : Nat) : Nat → Nat := fun j => if j = i then c i + 1 else c j
/-- Place i blocks stream s. -/
def blkU (f : Nat → Option Nat) (K s i : Nat) : Nat → Option Nat := fun j => if j = s ∧ K ≤ i then some (max ((f s).getD 0) i) else f j
theorem blkU_no {f : Nat → Option Nat} {K s i : Nat} (h : ¬ K ≤ i) : blkU f K s i = f := funext fun j => if_neg fun hh => h hh.2
theorem blkU_yes {f : Nat → Option Nat} {K s i : Nat} (h : K ≤ i) : blkU f K s i = fun j => if j = s then some (max ((f s).getD 0) i) else f j := funext fun j => by
  unfold blkU
  by_cases e : j = s
  · rw [if_pos ⟨e, h⟩, if_pos e]
  · rw [if_neg (fun hh => e hh.1), if_neg e]
section
variable {q p bs bq bu bb : Nat} {X Y : Qc} {Z Z' : World → Prop} {vR : Value} {S1 S2 S : Nat → Prop} {w w' : World} {c : Nat → Nat} {f : Nat → Option Nat}
set_option maxRecDepth 100000 in
set_option maxHeartbeats 4000000 in
theorem puse_any (h : Raw q p X Z w S) (hc : X.gU = useF c) (hf : X.gB = blkD f) (hN : X.N + 2 ≤ 1000000000) {s i : Nat} (hcb : c i + 1 ≤ 1000000000) (hs : okU s) (hi : okU i) (hfb : (f s).getD 0 ≤ 1000000000) (hib : i ≤ 1000000000) (ag : Bool) :
    Calls Tryz.prog 94 #[.pointer (some ⟨q, 0, none⟩), .int .u64 (s : Int), .int .u64 (i : Int), .bool ag] w fun e w' => e = .returned (.tuple #[]) ∧
      Turn (Raw q p { X with N := X.N + 2, gU := useF (if ag then c else bumpU c i), gB := blkD (blkU f X.K s i) } Z) S w w' := by
  obtain ⟨bs, bq, bu, bb, vR, S1, S2, h, hS⟩ := h
  have HS := Bx.mk hS
  -- the places' counts
  obtain ⟨w1, h1, f1, hfirst⟩ : ∃ w1, Pr q p { X with N := X.N + 1, gU := useF (if ag then c else bumpU c i) } Z bs bq bu bb vR S1 S2 w1 ∧ Fp (Pset q bs bq bu bb S1 S2) w w1 ∧ (if ag then w1 = w else (Instr.mapUpdate 60 (.map (some bu)) (.int .u64 (i : Int)) (.int .i64 ((c i + 1 : Nat) : Int))).run Tryz.prog w = .ok () w1) := by
    cases ag with
    | true => exact ⟨w, by have := h.more (Nat.le_succ X.N); rw [if_pos rfl, ← hc]; exact this, Fp.refl _ _, rfl⟩
    | false =>
      obtain ⟨w1, r1, r2, r3⟩ := h.putU hc (by omega) hi (n := c i + 1) ⟨by omega, by omega⟩
      exact ⟨w1, r2, r3, r1⟩
  have hlu := h.lookU hc hi
  have hwc : IntKind.i64.wrap ((c i : Int) + 1) = ((c i + 1 : Nat) : Int) := by rw [IntKind.wrap_i64]; omega
  have hwc2 : wrap64 ((c i : Int) + 1) = ((c i + 1 : Nat) : Int) := by unfold wrap64; omega
  obtain ⟨c0, _, _, _, _, _, c6, _, _, _, _⟩ := h.cells
  obtain ⟨d0, _, _, d3, _, _, _, d7, _, _, _⟩ := h1.cells
  have HFIN0 : Bx (¬ X.K ≤ i → Turn (Raw q p { X with N := X.N + 2, gU := useF (if ag then c else bumpU c i), gB := blkD (blkU f X.K s i) } Z) S w w1) := ⟨fun hk => by
    rw [blkU_no hk, ← hf]
    exact (h1.more (N := X.N + 2) (by show X.N + 1 ≤ _; omega)).turn HS.out f1⟩
  obtain ⟨C, hC⟩ := letter (c i)
  obtain ⟨C1, hC1⟩ := letter (c i + 1)
  obtain ⟨I, hI⟩ := letter i
  obtain ⟨SS, hSS⟩ := letter s
  obtain ⟨K, hK⟩ := letter X.K
  rw [hC1] at hfirst hwc hwc2
  rw [hC] at hlu hwc hwc2
  rw [hI] at hlu hfirst
  simp only [hK] at d3
  by_cases hk : X.K ≤ i
  · have hd : decide (I ≥ K) = true := decide_eq_true (by omega)
    have hx := h1.keep (Below.refl w1.heap.size w1).drew
    have hlb := hx.lookB hf hs
    obtain ⟨w2, r1, r2, r3⟩ := hx.putB hf (show X.N + 1 < 1000000000 by omega) hs (n := max ((f s).getD 0) i) (by unfold okU; omega)
    obtain ⟨m, hm⟩ : ∃ m, (f s).getD 0 = m := ⟨_, rfl⟩
    rw [hm] at hlb r1
    have HFIN : Bx (Turn (Raw q p { X with N := X.N + 2, gU := useF (if ag then c else bumpU c i), gB := blkD (blkU f X.K s i) } Z) S w w2) := ⟨by
      rw [blkU_yes hk]
      exact r2.turn HS.out (f1.then ((Fp.of_below (Below.refl _ _).drew).then r3))⟩
    have hmx : ((max m i : Nat) : Int) = max (m : Int) I := by omega
    obtain ⟨M, hM⟩ := letter m
    rw [hSS] at hlb r1
    rw [hmx, hM] at r1
    rw [hM] at hlb
    rw [hI, hSS]
    clear hx r2 r3 hk hm hM hK hI hC hC1 h h1 f1 hS hc hf hcb hs hi hfb hib hN HFIN0 hmx hSS
    cases ag with
    | true =>
      simp only [if_true] at hfirst
      subst hfirst
      clear hlu hwc hwc2 c6 c0
      go_enter Tryz.func94, Tryz.ntmps94
      go_wp2_with fail
      go_region
      go_wp2_with fail
      go_end0
      exact ⟨rfl, HFIN.out⟩
    | false =>
      simp only [Bool.false_eq_true, if_false] at hfirst
      go_enter Tryz.func94, Tryz.ntmps94
      go_wp2_with fail
      go_region
      go_wp2_with fail
      go_end0
      exact ⟨rfl, HFIN.out⟩
  · have hd : decide (I ≥ K) = false := decide_eq_false (by omega)
    have HFIN := Bx.mk (HFIN0.out hk)
    rw [hI, hSS]
    clear hk hK hI hC hC1 h h1 f1 hS hc hf hcb hs hi hfb hib hN HFIN0 hSS
    cases ag with
    | true =>
      simp only [if_true] at hfirst
      subst hfirst
      clear hlu hwc hwc2 c6 c0
      go_enter Tryz.func94, Tryz.ntmps94
      go_wp2_with fail
      go_end0
      exact ⟨rfl, HFIN.out⟩
    | false =>
      simp only [Bool.false_eq_true, if_false] at hfirst
      go_enter Tryz.func94, Tryz.ntmps94
      go_wp2_with fail
      go_end0
      exact ⟨rfl, HFIN.out⟩
end
end Go.Proofs.YtebakjdeighdnaaGreat

/-
  Contracts of slices.Index, slices.Contains, slices.Max at numbers of 64 bits, and of the program's count.
-/
namespace Go.Proofs.YtebakjdeighdnaaGreat
open Go.RowKit Go.Maps
set_option linter.unusedVariables false

section
variable {w : World} {v : Value} {ns : List Nat}
set_option maxRecDepth 100000 in
set_option maxHeartbeats 2000000 in
theorem uindex_any (h : Un w v ns) (a : Nat) :
    Calls Tryz.prog 115 #[v, .int .u64 (a : Int)] w fun e w' => (∃ r : Int, e = .returned (.int .i64 r) ∧ decide (r ≥ 0) = decide (a ∈ ns)) ∧ w = w' := by
  have hlen := fun ty W => h.run_len ty W
  have HN := Bx.mk h
  obtain ⟨m, hm⟩ : ∃ m, ns.length = m := ⟨_, rfl⟩
  rw [hm] at hlen
  have HM := Bx.mk hm
  have hmax : Bx (m ≤ maxLen) := ⟨by rw [← hm]; have := Rd.len h; simpa using this⟩
  obtain ⟨A, hA⟩ := letter a
  rw [hA]
  have HA := Bx.mk hA
  clear h hm hA
  go_enter Tryz.func115, Tryz.ntmps115
  go_wp2
  go_loopg [8] m (fun g s8 wx => ∃ k : Nat, k + g = m ∧ s8 = .int .i64 k ∧ Bx (¬ a ∈ ns.take k) ∧ Bx (w = wx))
  case atStart => exact ⟨0, by omega, rfl, ⟨by simp⟩, ⟨rfl⟩⟩
  case round =>
    obtain ⟨k, hkg, rfl, HB, HW⟩ := hrel
    obtain rfl := HW.out
    cases gk with
    | zero =>
      obtain rfl : k = m := by omega
      have HNO : Bx (¬ a ∈ ns) := ⟨by have := HB.out; rwa [← HM.out, List.take_length] at this⟩
      clear HB
      go_wp2
      go_ret
      exact ⟨⟨_, rfl, by constructor; exact fun h => absurd h (by decide); exact fun h => absurd h HNO.out⟩, rfl⟩
    | succ g =>
      have hk : k < m := by omega
      have hkz : (k : Int) < (m : Int) := by omega
      have hkn : k < ns.length := by rw [HM.out]; exact hk
      have hkb : (k : Int) < 9223372036854775807 := by have := hmax.out; unfold maxLen at this; omega
      obtain ⟨b, o, hix, hcs⟩ := HN.out.at_ k hkn
      have e0 := hcs w HN.out
      have HHIT : Bx (ns[k] = a → a ∈ ns) := ⟨fun h => by rw [← h]; exact List.getElem_mem hkn⟩
      have HMIS := Bx.mk (fun h => mem_take_succ hkn HB.out h)
      generalize ns[k] = z at e0 HHIT HMIS
      obtain ⟨Z, hZ⟩ := letter z
      rw [hZ] at e0
      have hA := HA.out
      clear hcs
      by_cases hza : z = a
      · have hb1 : (A == Z) = true := by rw [beq_iff_eq]; omega
        have HF := Bx.mk (HHIT.out hza)
        clear hza hZ hA HHIT HMIS
        go_wp2
        go_ret
        exact ⟨⟨_, rfl, by constructor; exact fun _ => HF.out; exact fun _ => by omega⟩, rfl⟩
      · have hb1 : (A == Z) = false := by rw [beq_eq_false_iff_ne]; omega
        have HF := Bx.mk (HMIS.out hza)
        clear hza hZ hA HHIT HMIS
        go_wp2
        go_roundg g
        case measure => omega
        case rel => exact ⟨k + 1, by omega, by go_num, HF, ⟨rfl⟩⟩

set_option maxRecDepth 100000 in
theorem ucontains_any (h : Un w v ns) (a : Nat) :
    Calls Tryz.prog 93 #[v, .int .u64 (a : Int)] w fun e w' => e = .returned (.bool (decide (a ∈ ns))) ∧ w = w' := by
  have HC := Bx.mk (uindex_any h a)
  obtain ⟨A, hA⟩ := letter a
  rw [hA] at HC ⊢
  obtain ⟨z, hz⟩ : ∃ z, decide (a ∈ ns) = z := ⟨_, rfl⟩
  rw [hz] at HC ⊢
  clear h hA hz
  go_enter Tryz.func93, Tryz.ntmps93
  go_wp2_with (go_at_call 115; refine HC.out.mono ?_; rintro e w1 ⟨⟨r, rfl, hr⟩, rfl⟩; subst hr)
  go_ret
  exact ⟨rfl, rfl⟩

def mxN (l : List Nat) : Nat := l.foldl max 0
theorem mxN_snoc (l : List Nat) (a : Nat) : mxN (l ++ [a]) = max (mxN l) a := by unfold mxN; rw [List.foldl_append]; rfl
theorem mxN_take {l : List Nat} {k : Nat} (hk : k < l.length) : mxN (l.take (k + 1)) = max (mxN (l.take k)) l[k] := by rw [List.take_succ_eq_append_getElem hk, mxN_snoc]
set_option maxRecDepth 100000 in
set_option maxHeartbeats 2000000 in
theorem umax_any (h : Un w v ns) (hne : 0 < ns.length) :
    Calls Tryz.prog 95 #[v] w fun e w' => e = .returned (.int .u64 (mxN ns : Int)) ∧ w = w' := by
  have hlen := fun ty W => h.run_len ty W
  have HN := Bx.mk h
  obtain ⟨b, o, hix, hcs⟩ := h.at_ 0 hne
  have e0 := hcs w h
  have H1 : Bx (mxN (ns.take 1) = ns[0]) := ⟨by rw [mxN_take hne]; simp [mxN]⟩
  obtain ⟨m, hm⟩ : ∃ m, ns.length = m := ⟨_, rfl⟩
  rw [hm] at hlen
  have HM := Bx.mk hm
  have hmax : Bx (m ≤ maxLen) := ⟨by rw [← hm]; have := Rd.len h; simpa using this⟩
  have hmp : 0 < m := by omega
  have hd : decide ((m : Int) < 1) = false := decide_eq_false (by omega)
  rw [show ((0 : Nat) : Int) = 0 from rfl] at hix
  generalize ns[0] = z0 at e0 H1
  clear h hm hcs hne
  obtain ⟨Z0, hZ0⟩ := letter z0
  rw [hZ0] at e0
  have HZ0 := Bx.mk hZ0
  clear hZ0
  go_enter Tryz.func95, Tryz.ntmps95
  go_wp2
  clear e0 hix hd
  go_loopg [3, 4] (m - 1) (fun g s3 s4 wx => ∃ (k : Nat) (Z : Int), k + g = m ∧ 1 ≤ k ∧ s4 = .int .i64 k ∧ s3 = .int .u64 Z ∧ Bx ((mxN (ns.take k) : Int) = Z) ∧ Bx (w = wx))
  case atStart => exact ⟨1, Z0, by omega, Nat.le_refl _, rfl, rfl, ⟨by rw [H1.out]; exact HZ0.out⟩, ⟨rfl⟩⟩
  case round =>
    obtain ⟨k, Z, hkg, hk1, rfl, rfl, HB, HW⟩ := hrel
    obtain rfl := HW.out
    cases gk with
    | zero =>
      obtain rfl : k = m := by omega
      have HF : Bx ((mxN ns : Int) = Z) := ⟨by have := HB.out; rwa [← HM.out, List.take_length] at this⟩
      go_wp2
      go_ret
      exact ⟨by rw [HF.out]; rfl, rfl⟩
    | succ g =>
      have hk : k < m := by omega
      have hkz : (k : Int) < (m : Int) := by omega
      have hkn : k < ns.length := by rw [HM.out]; exact hk
      have hkb : (k : Int) < 9223372036854775807 := by have := hmax.out; unfold maxLen at this; omega
      obtain ⟨b2, o2, hix2, hcs2⟩ := HN.out.at_ k hkn
      have f0 := hcs2 w HN.out
      have HT := Bx.mk (mxN_take hkn)
      generalize ns[k] = y at f0 HT
      obtain ⟨Y, hY⟩ := letter y
      rw [hY] at f0
      have HY := Bx.mk hY
      have HR : Bx ((mxN (ns.take (k + 1)) : Int) = max Z Y) := ⟨by rw [HT.out, ← HB.out, ← hY]; omega⟩
      clear hcs2 hY
      go_wp2
      go_roundg g
      case measure => omega
      case rel => exact ⟨k + 1, max Z Y, by omega, by omega, by go_num, rfl, HR, ⟨rfl⟩⟩

/-- One more than the greatest of them. -/
def ctN (l : List Nat) : Nat := if l.length = 0 then 0 else mxN l + 1
set_option maxRecDepth 100000 in
theorem count_any8 (h : Un w v ns) (hb : ∀ a ∈ ns, a ≤ 1000000) :
    Calls Tryz.prog 60 #[v] w fun e w' => e = .returned (.int .u64 (ctN ns : Int)) ∧ w = w' := by
  have hlen := fun ty W => h.run_len ty W
  unfold ctN
  by_cases h0 : ns.length = 0
  · rw [if_pos h0]
    rw [h0] at hlen
    clear h hb h0
    go_enter Tryz.func60, Tryz.ntmps60
    go_wp2_with fail
    go_ret
    exact ⟨rfl, rfl⟩
  · rw [if_neg h0]
    have HC := Bx.mk (umax_any h (by omega))
    have hmx : mxN ns ≤ 1000000 := by
      have : ∀ (l : List Nat) (r : Nat), r ≤ 1000000 → (∀ a ∈ l, a ≤ 1000000) → l.foldl max r ≤ 1000000 := fun l => by
        induction l with
        | nil => intro r hr _; exact hr
        | cons a l ih => intro r hr hl; exact ih _ (by have := hl a (List.mem_cons_self ..); omega) fun x hx => hl x (List.mem_cons_of_mem _ hx)
      exact this ns 0 (by omega) hb
    obtain ⟨m, hm⟩ : ∃ m, ns.length = m := ⟨_, rfl⟩
    rw [hm] at hlen h0
    have hd : ((m : Int) == 0) = false := by rw [beq_eq_false_iff_ne]; omega
    generalize mxN ns = x at HC hmx ⊢
    have hw : IntKind.u64.wrap ((x : Int) + 1) = ((x + 1 : Nat) : Int) := by rw [IntKind.wrap_u64]; omega
    obtain ⟨X, hX⟩ := letter x
    obtain ⟨Y, hY⟩ := letter (x + 1)
    rw [hX] at HC
    rw [hX, hY] at hw
    rw [hY]
    clear h hb hm hmx h0 hX hY
    go_enter Tryz.func60, Tryz.ntmps60
    go_wp2_with (go_at_call 95; refine HC.out.mono ?_; rintro e w1 ⟨rfl, rfl⟩)
    go_ret
    exact ⟨rfl, rfl⟩
end
end Go.Proofs.YtebakjdeighdnaaGreat

/-
  Contract of the encoder's release.
-/
namespace Go.Proofs.YtebakjdeighdnaaGreat
open Go.RowKit Go.Maps
set_option linter.unusedVariables false

/-- One section fewer uses place i. -/
def dropU (c : Nat → Nat) (i : Nat) : Nat → Nat := fun j => if j = i then c i - 1 else c j
section
variable {q p bs bq bu bb : Nat} {X Y : Qc} {Z Z' : World → Prop} {vR : Value} {S1 S2 S : Nat → Prop} {w w' : World} {c : Nat → Nat} {f : Nat → Option Nat}
theorem Pr.lookU' (h : Pr q p X Z bs bq bu bb vR S1 S2 w) {i : Nat} {n : Int} (hi : okU i) (hc : (X.gU i).getD (.lit (.int .i64 0)) = .lit (.int .i64 n)) :
    (Instr.lookup 60 (.map (some bu)) (.int .u64 (i : Int)) false).run Tryz.prog w = .ok (.int .i64 n) w := by
  obtain ⟨v, ps, hrun, hv⟩ := h.mu.look uLaw Tryz.underlying60 hi (zeroI64 w) (plainElem_int Tryz.underlying3 (by decide)) (keyOf_u hi)
  obtain ⟨x, rfl, hx, _⟩ := plainElem_int_inv Tryz.underlying3 hv
  rw [hc] at hx
  simp only [Prod.mk.injEq, DataW.lit.injEq, Lit.int.injEq, true_and] at hx
  rw [hrun, hx.1]
theorem Pr.oldU (h : Pr q p X Z bs bq bu bb vR S1 S2 w) (hN : X.N < 1000000000) {i n : Nat} (hi : okU i) (hs : (X.gU i).isSome = true) (hn : n ≤ 1000000000) :
    ∃ w', (Instr.mapUpdate 60 (.map (some bu)) (.int .u64 (i : Int)) (.int .i64 (n : Int))).run Tryz.prog w = .ok () w' ∧
      Pr q p { X with gU := fun j => if j = i then some (.lit (.int .i64 (n : Int))) else X.gU j } Z bs bq bu bb vR S1 S2 w' ∧ Fp (Pset q bs bq bu bb S1 S2) w w' := by
  obtain ⟨w', hrun, ho, hg⟩ := Mo.put_old uLaw klU Tryz.underlying60 h.mu hN hi hs (keyOf_u hi) (plainElem_int Tryz.underlying3 (a := (n : Int)) (WalkArith.wf_i64 (by omega)))
  obtain ⟨h1, h2⟩ := h.turnU hg ho
  exact ⟨w', hrun, h1, h2⟩
theorem Pr.delU (h : Pr q p X Z bs bq bu bb vR S1 S2 w) {i : Nat} (hi : okU i) (ty : TypeId) :
    ∃ w', (Builtin.delete_ #[60, 32] ty #[.map (some bu), .int .u64 (i : Int)]).run Tryz.prog w = .ok (.tuple #[]) w' ∧
      Pr q p { X with gU := fun j => if j = i then none else X.gU j } Z bs bq bu bb vR S1 S2 w' ∧ Fp (Pset q bs bq bu bb S1 S2) w w' := by
  obtain ⟨w', hrun, ho, hg⟩ := Mo.drop uLaw klU Tryz.underlying60 h.mu hi (keyOf_u hi) ty
  obtain ⟨h1, h2⟩ := h.turnU hg ho
  exact ⟨w', hrun, h1, h2⟩
theorem Pr.reU (h : Pr q p X Z bs bq bu bb vR S1 S2 w) {g : Nat → Option DU} (hg : ∀ k, X.gU k = g k) : Pr q p { X with gU := g } Z bs bq bu bb vR S1 S2 w := by
  have : X.gU = g := funext hg
  subst this
  exact h

set_option maxRecDepth 100000 in
set_option maxHeartbeats 4000000 in
theorem release_any (h : Raw q p X Z w S) (hc : X.gU = useF c) (hN : X.N < 1000000000) {i : Nat} (hpos : 0 < c i) (hcb : c i ≤ 1000000000) (hi : okU i) :
    Calls Tryz.prog 121 #[.pointer (some ⟨q, 0, none⟩), .int .u64 (i : Int)] w fun e w' => e = .returned (.tuple #[]) ∧ Turn (Raw q p { X with gU := useF (dropU c i) } Z) S w w' := by
  obtain ⟨bs, bq, bu, bb, vR, S1, S2, h, hS⟩ := h
  have HS := Bx.mk hS
  have hlu := h.lookU hc hi
  obtain ⟨w1, r1, h1, f1⟩ := h.oldU hN hi (n := c i - 1) (by rw [hc]; unfold useF; rw [if_neg (by omega)]; rfl) (by omega)
  have hlu2 := h1.lookU' hi (n := ((c i - 1 : Nat) : Int)) (by simp)
  obtain ⟨c0, _, _, _, _, _, c6, _, _, _, _⟩ := h.cells
  obtain ⟨d0, _, _, _, _, _, d6, _, _, _, _⟩ := h1.cells
  have hwc : IntKind.i64.wrap ((c i : Int) - 1) = ((c i - 1 : Nat) : Int) := by rw [IntKind.wrap_i64]; omega
  have hwc2 : wrap64 ((c i : Int) - 1) = ((c i - 1 : Nat) : Int) := by unfold wrap64; omega
  obtain ⟨n, hn⟩ : ∃ n, c i - 1 = n := ⟨_, rfl⟩
  have hother : ∀ j, j ≠ i → (if j = i then some (DataW.lit (Lit.int IntKind.i64 (n : Int))) else X.gU j) = useF (dropU c i) j := fun j e => by
    rw [if_neg e, hc]
    unfold useF dropU
    simp only [if_neg e]
  by_cases h0 : n = 0
  · have hd : ((n : Int) == 0) = true := by rw [beq_iff_eq]; omega
    obtain ⟨w2, r2, h2, f2⟩ := h1.delU hi 0
    have HFIN : Bx (Turn (Raw q p { X with gU := useF (dropU c i) } Z) S w w2) := ⟨by
      refine (h2.reU (g := useF (dropU c i)) fun j => ?_).turn HS.out (f1.then f2)
      by_cases e : j = i
      · subst e
        show (if j = j then none else _) = _
        rw [if_pos rfl]
        unfold useF dropU
        rw [if_pos rfl, hn, if_pos h0]
      · show (if j = i then none else (if j = i then some (DataW.lit (Lit.int IntKind.i64 ((c i - 1 : Nat) : Int))) else X.gU j)) = _
        rw [if_neg e, hn]
        exact hother j e⟩
    obtain ⟨C, hC⟩ := letter (c i)
    obtain ⟨I, hI⟩ := letter i
    rw [hn] at r1 hlu2 hwc hwc2
    rw [hC] at hlu hwc hwc2
    rw [hI] at hlu hlu2 r1 r2
    obtain ⟨M, hM⟩ := letter n
    rw [hM] at r1 hlu2 hwc hwc2 hd
    rw [hI]
    clear h h1 h2 f1 f2 hS hc hN hpos hcb hi hn hother h0 hC hI hM
    go_enter Tryz.func121, Tryz.ntmps121
    go_wp2_with fail
    go_end0
    exact ⟨rfl, HFIN.out⟩
  · have hd : ((n : Int) == 0) = false := by rw [beq_eq_false_iff_ne]; omega
    have HFIN : Bx (Turn (Raw q p { X with gU := useF (dropU c i) } Z) S w w1) := ⟨by
      refine (h1.reU (g := useF (dropU c i)) fun j => ?_).turn HS.out f1
      by_cases e : j = i
      · subst e
        show (if j = j then some (DataW.lit (Lit.int IntKind.i64 ((c j - 1 : Nat) : Int))) else X.gU j) = _
        rw [if_pos rfl]
        unfold useF dropU
        rw [if_pos rfl, hn, if_neg h0]
      · show (if j = i then some (DataW.lit (Lit.int IntKind.i64 ((c i - 1 : Nat) : Int))) else X.gU j) = _
        rw [hn]
        exact hother j e⟩
    obtain ⟨C, hC⟩ := letter (c i)
    obtain ⟨I, hI⟩ := letter i
    rw [hn] at r1 hlu2 hwc hwc2
    rw [hC] at hlu hwc hwc2
    rw [hI] at hlu hlu2 r1
    obtain ⟨M, hM⟩ := letter n
    rw [hM] at r1 hlu2 hwc hwc2 hd
    rw [hI]
    clear h h1 f1 hS hc hN hpos hcb hi hn hother h0 hC hI hM
    go_enter Tryz.func121, Tryz.ntmps121
    go_wp2_with fail
    go_end0
    exact ⟨rfl, HFIN.out⟩
end
end Go.Proofs.YtebakjdeighdnaaGreat
