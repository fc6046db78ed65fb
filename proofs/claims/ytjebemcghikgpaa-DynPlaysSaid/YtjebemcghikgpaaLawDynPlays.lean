/-
  The walk of DynPlays.
-/
import Derived.Test.YtjebemcghikgpaaDnAct
import Derived.Deep.WholeRow
namespace Go.Proofs.Ytjebemcghikgpaa
open Go.RowKit Go.Maps
set_option linter.unusedVariables false
set_option linter.unusedSimpArgs false

/-- Block g holds a step. -/
def Ab (w : World) (g : Nat) (a : Ac) : Prop := w.heap[g]? = some (.cells #[.int .u8 (a.wh : Int), .string a.f.1, .string a.f.2, .int .i64 a.n] 32 (0, 0))
theorem Ab.new (w : World) (a : Ac) : Ab (w.alloc (.cells #[.int .u8 (a.wh : Int), .string a.f.1, .string a.f.2, .int .i64 a.n] 32)) w.heap.size a := heap_alloc_last w _
theorem Ab.lt {w : World} {g : Nat} {a : Ac} (h : Ab w g a) : g < w.heap.size := (Array.getElem?_eq_some_iff.1 h).1
theorem Ab.below {w w' : World} {g : Nat} {a : Ac} (h : Ab w g a) (hb : Below w.heap.size w w') : Ab w' g a := by
  unfold Ab; rw [hb.block g h.lt]; exact h
theorem Ab.cells {w : World} {g : Nat} {a : Ac} (h : Ab w g a) : w.cell? ⟨g, 0, none⟩ = some (.int .u8 (a.wh : Int)) ∧ w.cell? ⟨g, 1, none⟩ = some (.string a.f.1) ∧ w.cell? ⟨g, 2, none⟩ = some (.string a.f.2) ∧ w.cell? ⟨g, 3, none⟩ = some (.int .i64 a.n) := by
  unfold Ab at h
  refine ⟨?_, ?_, ?_, ?_⟩ <;> simp [World.cell?, h]

/-- Both tables, and a block g that is none of theirs. -/
def TwoG (B p q : Nat) (T U : Tab) (g : Nat) (w : World) : Prop :=
  ∃ S S', Tb p T w S ∧ Rt q U w S' ∧ (∀ k, S k → ¬ S' k) ∧ (∀ k, S k → B ≤ k ∧ k ≠ g) ∧ (∀ k, S' k → B ≤ k ∧ k ≠ g) ∧ g < w.heap.size
section
variable {B p q g : Nat} {T T' U U' : Tab} {w w' : World}
theorem TwoG.two (h : TwoG B p q T U g w) : Two B p q T U w := by
  obtain ⟨S, S', h1, h2, h3, h4, h5, _⟩ := h
  exact ⟨S, S', h1, h2, h3, fun k hk => (h4 k hk).1, fun k hk => (h5 k hk).1⟩
theorem Two.withG (h : Two B p q T U w) (o : Obj) : TwoG B p q T U w.heap.size (w.alloc o) := by
  obtain ⟨S, S', h1, h2, h3, h4, h5⟩ := h
  have hb := (Below.refl w.heap.size w).alloc (Nat.le_refl _) o
  exact ⟨S, S', h1.keep hb, h2.keep hb, h3, fun k hk => ⟨h4 k hk, fun e => by have := h1.lt k hk; omega⟩, fun k hk => ⟨h5 k hk, fun e => by have := h2.lt k hk; omega⟩, by simp⟩
theorem TwoG.keep (h : TwoG B p q T U g w) (hb : Below w.heap.size w w') : TwoG B p q T U g w' := by
  obtain ⟨S, S', h1, h2, h3, h4, h5, h6⟩ := h
  exact ⟨S, S', h1.keep hb, h2.keep hb, h3, h4, h5, Nat.lt_of_lt_of_le h6 hb.size⟩
theorem TwoG.left {S S' : Nat → Prop} (h2 : Rt q U w S') (h3 : ∀ k, S k → ¬ S' k) (h4 : ∀ k, S k → B ≤ k ∧ k ≠ g) (h5 : ∀ k, S' k → B ≤ k ∧ k ≠ g) (h6 : g < w.heap.size) (hB : B ≤ w.heap.size) (ht : Turn (Tb p T') S w w') :
    TwoG B p q T' U g w' ∧ Below B w w' ∧ w'.heap[g]? = w.heap[g]? := by
  obtain ⟨S1, x, s, f⟩ := ht
  refine ⟨⟨S1, S', x, h2.besides f (fun k hk hs => h3 k hs hk), fun k hk hs => ?_, fun k hk => ?_, h5, Nat.lt_of_lt_of_le h6 f.size⟩, f.below hB (fun k hk => (h4 k hk).1), f.block g h6 (fun hs => (h4 g hs).2 rfl)⟩
  · rcases s k hk with h | h
    · exact h3 k h hs
    · have := h2.lt k hs; omega
  · rcases s k hk with h | h
    · exact h4 k h
    · exact ⟨by omega, by omega⟩
theorem TwoG.right {S S' : Nat → Prop} (h1 : Tb p T w S) (h3 : ∀ k, S k → ¬ S' k) (h4 : ∀ k, S k → B ≤ k ∧ k ≠ g) (h5 : ∀ k, S' k → B ≤ k ∧ k ≠ g) (h6 : g < w.heap.size) (hB : B ≤ w.heap.size) (ht : Turn (Rt q U') S' w w') :
    TwoG B p q T U' g w' ∧ Below B w w' ∧ w'.heap[g]? = w.heap[g]? := by
  obtain ⟨S1, x, s, f⟩ := ht
  refine ⟨⟨S, S1, h1.besides f (fun k hk hs => h3 k hk hs), x, fun k hk hs => ?_, h4, fun k hk => ?_, Nat.lt_of_lt_of_le h6 f.size⟩, f.below hB (fun k hk => (h5 k hk).1), f.block g h6 (fun hs => (h5 g hs).2 rfl)⟩
  · rcases s k hs with h | h
    · exact h3 k hk h
    · have := h1.lt k hk; omega
  · rcases s k hk with h | h
    · exact h5 k h
    · exact ⟨by omega, by omega⟩
theorem TwoG.addLit (h : TwoG B p q T U g w) (hB : B ≤ w.heap.size) (f : Fd) (ht : T.tot + 1 ≤ 1000000) (hz : fsz f ≤ 1000000) :
    Calls Try.prog 13 #[.pointer (some ⟨p, 0, none⟩), .slice (some ⟨w.heap.size, 0, none⟩) 1 1] (w.alloc (.cells #[.string f.1, .string f.2] 24)) fun e w' => e = .returned (.int .i64 (T.went (T.room f) : Int)) ∧ TwoG B p q (T.add f) U g w' ∧ Below B w w' ∧ w'.heap[g]? = w.heap[g]? := by
  obtain ⟨S, S', h1, h2, h3, h4, h5, h6⟩ := h
  have hb := (Below.refl w.heap.size w).alloc (Nat.le_refl _) (.cells #[.string f.1, .string f.2] 24)
  refine (add_any (h1.keep hb) (Fs.one w _ rfl f) (fun g hg => ?_) (by simpa using ht) (by intro x hx; rw [List.mem_singleton.1 hx]; exact hz)).mono ?_
  · simp only [Value.ownBlock, Option.some.injEq] at hg
    subst hg
    exact ⟨by simp, fun hs => Nat.lt_irrefl _ (h1.lt _ hs)⟩
  · rintro e w2 ⟨rfl, ht2⟩
    obtain ⟨o, b, c⟩ := TwoG.left (h2.keep hb) h3 h4 h5 (Nat.lt_of_lt_of_le h6 hb.size) (Nat.le_trans hB hb.size) ht2
    exact ⟨rfl, o, (hb.mono hB).trans b, c.trans (hb.block g h6)⟩
theorem TwoG.refAdd (h : TwoG B p q T U g w) (hB : B ≤ w.heap.size) (f : Fd) (hf : fsz f ≤ 1000000) (ht : U.tot + 1 ≤ 1000000) :
    Calls Try.prog 14 #[.pointer (some ⟨q, 0, none⟩), .agg #[.string f.1, .string f.2]] w fun e w' => e = .returned (.int .i64 (U.went (U.room f) : Int)) ∧ TwoG B p q T (U.add f) g w' ∧ Below B w w' ∧ w'.heap[g]? = w.heap[g]? := by
  obtain ⟨S, S', h1, h2, h3, h4, h5, h6⟩ := h
  refine (refAdd_any h2 f hf ht).mono ?_
  rintro e w2 ⟨rfl, ht2⟩
  exact ⟨rfl, TwoG.right h1 h3 h4 h5 h6 hB ht2⟩
theorem TwoG.resize (h : TwoG B p q T U g w) (hB : B ≤ w.heap.size) (n : Int) (hn : n ≤ 1000000) :
    Calls Try.prog 11 #[.pointer (some ⟨p, 0, none⟩), .int .i64 n] w fun e w' => e = .returned (.int .i64 (T.went (n.toNat : Int) : Int)) ∧ TwoG B p q (T.resize n) U g w' ∧ Below B w w' ∧ w'.heap[g]? = w.heap[g]? := by
  obtain ⟨S, S', h1, h2, h3, h4, h5, h6⟩ := h
  refine (resize_any h1 n hn).mono ?_
  rintro e w2 ⟨rfl, ht2⟩
  exact ⟨rfl, TwoG.left h2 h3 h4 h5 h6 hB ht2⟩
theorem TwoG.refResize (h : TwoG B p q T U g w) (hB : B ≤ w.heap.size) (n : Int) (hn : n ≤ 1000000) :
    Calls Try.prog 12 #[.pointer (some ⟨q, 0, none⟩), .int .i64 n] w fun e w' => e = .returned (.int .i64 (U.went (n.toNat : Int) : Int)) ∧ TwoG B p q T (U.resize n) g w' ∧ Below B w w' ∧ w'.heap[g]? = w.heap[g]? := by
  obtain ⟨S, S', h1, h2, h3, h4, h5, h6⟩ := h
  refine (refResize_any h2 n hn).mono ?_
  rintro e w2 ⟨rfl, ht2⟩
  exact ⟨rfl, TwoG.right h1 h3 h4 h5 h6 hB ht2⟩
end
theorem Ab.same {w w' : World} {g : Nat} {a : Ac} (h : Ab w g a) (he : w'.heap[g]? = w.heap[g]?) : Ab w' g a := by unfold Ab; rw [he]; exact h
theorem Tab.add_sz (T : Tab) (f : Fd) : sizeF (T.add f).l ≤ (T.add f).cap := by
  unfold Tab.add
  split
  · rename_i h; exact T.add_size f h
  · rename_i h
    rw [fits_neg (by unfold Tab.room; omega)]
    exact Nat.zero_le _
theorem Tab.resize_sz (T : Tab) (n : Int) : sizeF (T.resize n).l ≤ (T.resize n).cap := by
  show sizeF (fits (n.toNat : Int) T.l) ≤ n.toNat
  rcases fits_le (n.toNat : Int) T.l with h | h
  · rw [h]; exact Nat.zero_le _
  · omega

set_option maxRecDepth 100000 in
set_option maxHeartbeats 4000000 in
theorem dynPlays_walk (n0 : Int) (v : Value) (l : List Ac) (f : Fd) (at0 : Int) (w : World) (hn : (Lit.int .i64 n0).wf = true) (hv : As w v l) (hs : SmallA l) (hf : f.1.size ≤ 140737488351232 ∧ f.2.size ≤ 140737488351232) (hat : (Lit.int .u64 at0).wf = true) :
    Calls Try.prog 3 #[.int .i64 n0, v, .agg #[.string f.1, .string f.2], .int .u64 at0] w fun e w' => e = .returned (.bool true) ∧ Below w.heap.size w w' := by
  obtain ⟨f1, f2⟩ := f
  obtain ⟨at1, rfl, hat1⟩ := u64n hat
  have HSF : Bx (Sized (f1, f2)) := ⟨by unfold Sized maxLen; simp only at *; omega⟩
  have HAT := Bx.mk hat1
  have HV := Bx.mk hv
  have HS := Bx.mk hs
  obtain ⟨n, hnn⟩ : ∃ n, n0.tmod 500 = n := ⟨_, rfl⟩
  have HN : Bx (n ≤ 499) := ⟨by have := Int.tmod_lt_of_pos n0 (show (0:Int) < 500 by omega); omega⟩
  have hlen := fun ty W => hv.run_len ty W
  have HB0 := Bx.mk ((Below.refl w.heap.size w).alloc (Nat.le_refl _) (.cells #[.string f1, .string f2] 24))
  have HF0 := Bx.mk (Fb.new 24 w (f1, f2))
  clear hn hv hs hf hat hat1
  go_enter Try.func3, Try.ntmps3
  go_wp2_with fail
  refine (known_any _).mono ?_
  rintro e w1 ⟨rfl, b1⟩
  have B1 := Bx.mk (HB0.out.trans (b1.mono HB0.out.size))
  have HF1 := Bx.mk (HF0.out.keep b1)
  clear b1
  by_cases hL : 40 < l.length
  · have hd1 : decide ((40 : Int) < (l.length : Int)) = true := decide_eq_true (by omega)
    have hd2 : decide (40 < l.length) = true := decide_eq_true hL
    go_wp2_with fail
    go_ret
    exact ⟨rfl, B1.out⟩
  have hd1 : decide ((40 : Int) < (l.length : Int)) = false := decide_eq_false (by omega)
  have hd2 : decide (40 < l.length) = false := decide_eq_false hL
  have HL : Bx (l.length ≤ 40) := ⟨by omega⟩
  clear hL
  go_wp2_with fail
  refine (One.new n (by have := HN.out; omega) w1).mono ?_
  rintro e w2 ⟨p, rfl, h2, b2⟩
  have H2 := Bx.mk h2
  have B2 := Bx.mk b2
  clear h2 b2
  go_wp2_with fail
  refine (H2.out.newRef B2.out.size n (by have := HN.out; omega)).mono ?_
  rintro e w3 ⟨q, rfl, h3, b3⟩
  have H3 := Bx.mk h3
  have B3 := Bx.mk (B2.out.trans b3)
  clear h3 b3 hd1 hd2 hnn
  go_wp2_with fail
  go_loopg [11] l.length (fun g s11 wx => ∃ (k : Nat) (T : Tab), k + g = l.length ∧ s11 = .int .i64 k ∧ Bx (T.tot ≤ k) ∧ Bx (Two w1.heap.size p q T T wx) ∧ Bx (Below w1.heap.size w1 wx))
  case atStart => exact ⟨0, _, by omega, rfl, ⟨Nat.le_refl _⟩, H3, B3⟩
  case round =>
    clear H2 B2 H3 B3
    obtain ⟨k, T, hkg, rfl, HT, H4, B4⟩ := hrel
    cases gk with
    | zero =>
      obtain rfl : k = l.length := by omega
      go_wp2_with fail
      go_ret
      exact ⟨rfl, B1.out.trans (B4.out.mono B1.out.size)⟩
    | succ g =>
      have hk : k < l.length := by omega
      have hkz : (k : Int) < (l.length : Int) := by omega
      have hk40 : k < 40 := by have := HL.out; omega
      have HV4 := Bx.mk (HV.out.keep (B1.out.trans (B4.out.mono B1.out.size)))
      obtain ⟨b, o, hix, hcs⟩ := HV4.out.at_ k hk
      obtain ⟨c0, c1, c2, c3⟩ := hcs _ HV4.out
      have hsm := HS.out l[k] (List.getElem_mem hk)
      obtain ⟨a, ha⟩ : ∃ a, l[k] = a := ⟨_, rfl⟩
      rw [ha] at c0 c1 c2 c3 hsm
      obtain ⟨wh, ⟨x1, x2⟩, nn⟩ := a
      simp only at c0 c1 c2 c3 hsm
      obtain ⟨m, hm⟩ : ∃ m, x1.size + x2.size = m := ⟨_, rfl⟩
      have hwm : wrap64 ((x1.size : Int) + (x2.size : Int)) = (m : Int) := by unfold wrap64; omega
      have hwm2 : IntKind.i64.wrap ((x1.size : Int) + (x2.size : Int)) = (m : Int) := by simp only [IntKind.wrap_i64]; omega
      obtain ⟨r, hr⟩ : ∃ r, wh % 4 = r := ⟨_, rfl⟩
      have hri : (wh : Int) % 4 = (r : Int) := by omega
      have HA := Bx.mk (Ab.new wr ⟨wh, (x1, x2), nn⟩)
      have HG := Bx.mk (H4.out.withG (.cells #[.int .u8 (wh : Int), .string x1, .string x2, .int .i64 nn] 32))
      have HBA := Bx.mk (B4.out.alloc B4.out.size (.cells #[.int .u8 (wh : Int), .string x1, .string x2, .int .i64 nn] 32))
      clear hcs ha hsm hr
      by_cases hbig : 300 < m
      · have hd1 : decide ((300 : Int) < (m : Int)) = true := decide_eq_true (by omega)
        have hd2 : decide (300 < m) = true := decide_eq_true hbig
        go_wp2_with fail
        go_ret
        exact ⟨rfl, B1.out.trans (HBA.out.mono B1.out.size)⟩
      have hd1 : decide ((300 : Int) < (m : Int)) = false := decide_eq_false (by omega)
      have hd2 : decide (300 < m) = false := decide_eq_false hbig
      have HFZ : Bx (fsz (x1, x2) ≤ 1000000) := ⟨by unfold fsz; simp only; omega⟩
      clear hbig hm
      by_cases hr3 : r = 3
      case' pos =>
        subst hr3
        obtain ⟨nm, hnm⟩ : ∃ nm, nn.tmod 500 = nm := ⟨_, rfl⟩
        have HNM : Bx (nm ≤ 499) := ⟨by have := Int.tmod_lt_of_pos nn (show (0:Int) < 500 by omega); omega⟩
        go_wp2_with fail
        obtain ⟨G, hGe⟩ : ∃ G, wr.heap.size = G := ⟨_, rfl⟩
        obtain ⟨wA, hwA⟩ : ∃ wA, wr.alloc (.cells #[.int .u8 (wh : Int), .string x1, .string x2, .int .i64 nn] 32) = wA := ⟨_, rfl⟩
        rw [hwA] at HA HG HBA
        rw [hGe] at HA HG
        rw [hwA, hGe]
        have hHA := HA.out.below (Below.refl wA.heap.size wA).drew
        have hHG := HG.out.keep (Below.refl wA.heap.size wA).drew
        have HHA := Bx.mk hHA
        have HHG := Bx.mk hHG
        obtain ⟨R, hR⟩ : ∃ R, T.went (nm.toNat : Int) = R := ⟨_, rfl⟩
        have HR := Bx.mk hR
        have hS0 := hHA.cells.2.2.2
        clear c0 c1 c2 c3 hHA hHG hR hGe hwA hwm hwm2 hd1 hd2 hix
        go_cut [58] from 24 to 91 (fun s58 wx => s58 = .bool false ∧ Bx (TwoG w1.heap.size p q (T.resize nm) (T.resize nm) G wx) ∧ Bx (Ab wx G ⟨wh, (x1, x2), nn⟩) ∧ Bx (Below w1.heap.size w1 wx))
        case first =>
          go_region_held (fun W => W.cell? ⟨G, 3, none⟩ = some (.int .i64 nn)) (first | assumption) (first
            | (go_at_call 11; refine (HHG.out.resize HBA.out.drew.size nm (by have := HNM.out; omega)).mono ?_; rintro e y2 ⟨rfl, k2, d2, s2⟩; rw [HR.out]; have HA2 := Bx.mk (HHA.out.same s2); have hS2 := HA2.out.cells.2.2.2; have HK2 := Bx.mk k2; have D2 := Bx.mk (HBA.out.drew.trans d2))
            | (go_at_call 12; refine (HK2.out.refResize D2.out.size nm (by have := HNM.out; omega)).mono ?_; rintro e y3 ⟨rfl, k3, d3, s3⟩; rw [HR.out]; have HA3 := Bx.mk (HA2.out.same s3); have hS3 := HA3.out.cells.2.2.2; have HK3 := Bx.mk k3; have D3 := Bx.mk (D2.out.trans d3)))
          all_goals go_wp2_with fail
          all_goals go_meet
          all_goals exact ⟨rfl, HK3, HA3, D3⟩
        case' rest =>
          obtain ⟨rfl, HK5, HA5, D5⟩ := hcut
          have HT5 : Bx ((T.resize nm).tot ≤ k + 1) := ⟨by show T.tot ≤ _; have := HT.out; omega⟩
          have HZ5 := Bx.mk (T.resize_sz nm)
          generalize T.resize nm = T5 at *
          clear hS0 hnm HR
      case' neg =>
        have hd3 : ((r : Int) == 3) = false := by simp; omega
        have hd4 : ¬ ((r : Int) = 3) := by omega
        go_wp2_with fail
        obtain ⟨G, hGe⟩ : ∃ G, wr.heap.size = G := ⟨_, rfl⟩
        obtain ⟨wA, hwA⟩ : ∃ wA, wr.alloc (.cells #[.int .u8 (wh : Int), .string x1, .string x2, .int .i64 nn] 32) = wA := ⟨_, rfl⟩
        rw [hwA] at HA HG HBA
        rw [hGe] at HA HG
        rw [hwA, hGe]
        have hHA := HA.out.below (Below.refl wA.heap.size wA).drew
        have hHG := HG.out.keep (Below.refl wA.heap.size wA).drew
        have HHA := Bx.mk hHA
        have HHG := Bx.mk hHG
        obtain ⟨R, hR⟩ : ∃ R, T.went (T.room (x1, x2)) = R := ⟨_, rfl⟩
        have HR := Bx.mk hR
        have HTT : Bx (T.tot + 1 ≤ 1000000) := ⟨by have := HT.out; omega⟩
        have hS0 := hHA.cells.2.1
        have hS1 := hHA.cells.2.2.1
        have hS01 : wA.drew.cell? ⟨G, 1, none⟩ = some (.string x1) ∧ wA.drew.cell? ⟨G, 2, none⟩ = some (.string x2) := ⟨hS0, hS1⟩
        obtain ⟨hb1, hb2⟩ : (wA.drew.alloc (.cells #[.string x1, .string x2] 24)).cell? ⟨G, 1, none⟩ = some (.string x1) ∧ (wA.drew.alloc (.cells #[.string x1, .string x2] 24)).cell? ⟨G, 2, none⟩ = some (.string x2) := by
          have := HHA.out.below ((Below.refl wA.drew.heap.size wA.drew).alloc (Nat.le_refl _) (.cells #[.string x1, .string x2] 24))
          exact ⟨this.cells.2.1, this.cells.2.2.1⟩
        have hB12 : (wA.alloc (.cells #[.string x1, .string x2] 24)).drew.cell? ⟨G, 1, none⟩ = some (.string x1) ∧ (wA.alloc (.cells #[.string x1, .string x2] 24)).drew.cell? ⟨G, 2, none⟩ = some (.string x2) := ⟨hb1, hb2⟩
        clear c0 c1 c2 c3 hHA hHG hR hGe hwA hwm hwm2 hd1 hd2 hix hb1 hb2 hS0 hS1
        go_cut [68] from 24 to 91 (fun s68 wx => s68 = .bool false ∧ Bx (TwoG w1.heap.size p q (T.add (x1, x2)) (T.add (x1, x2)) G wx) ∧ Bx (Ab wx G ⟨wh, (x1, x2), nn⟩) ∧ Bx (Below w1.heap.size w1 wx))
        case first =>
          go_region_held (fun W => W.cell? ⟨G, 1, none⟩ = some (.string x1) ∧ W.cell? ⟨G, 2, none⟩ = some (.string x2)) (first | assumption) (first
            | (go_at_call 13; refine (HHG.out.addLit HBA.out.drew.size (x1, x2) HTT.out HFZ.out).mono ?_; rintro e y2 ⟨rfl, k2, d2, s2⟩; rw [HR.out]; have HA2 := Bx.mk (HHA.out.same s2); have hS2 : y2.cell? ⟨G, 1, none⟩ = some (.string x1) ∧ y2.cell? ⟨G, 2, none⟩ = some (.string x2) := ⟨HA2.out.cells.2.1, HA2.out.cells.2.2.1⟩; have HK2 := Bx.mk k2; have D2 := Bx.mk (HBA.out.drew.trans d2))
            | (go_at_call 14; refine (HK2.out.refAdd D2.out.size (x1, x2) HFZ.out HTT.out).mono ?_; rintro e y3 ⟨rfl, k3, d3, s3⟩; rw [HR.out]; have HA3 := Bx.mk (HA2.out.same s3); have hS3 : y3.cell? ⟨G, 1, none⟩ = some (.string x1) ∧ y3.cell? ⟨G, 2, none⟩ = some (.string x2) := ⟨HA3.out.cells.2.1, HA3.out.cells.2.2.1⟩; have HK3 := Bx.mk k3; have D3 := Bx.mk (D2.out.trans d3)))
          all_goals go_wp2_with fail
          all_goals go_meet
          all_goals exact ⟨rfl, HK3, HA3, D3⟩
        case' rest =>
          obtain ⟨rfl, HK5, HA5, D5⟩ := hcut
          have HT5 : Bx ((T.add (x1, x2)).tot ≤ k + 1) := ⟨by have := T.add_tot_le (x1, x2); have := HT.out; omega⟩
          have HZ5 := Bx.mk (T.add_sz (x1, x2))
          generalize T.add (x1, x2) = T5 at *
          clear hS01 hB12 HR hd3 hd4
      all_goals
        obtain ⟨g1, g2⟩ := (HF1.out.keep D5.out).cells
        obtain ⟨m5, hm5⟩ : ∃ m5, at1 % 50 = m5 := ⟨_, rfl⟩
        have hmi : (at1 : Int) % 50 = (m5 : Int) := by omega
        have hmt : (at1 : Int).tmod 50 = (m5 : Int) := by rw [Int.tmod_eq_emod_of_nonneg (by omega)]; omega
        have HM5 : Bx (m5 < 18446744073709551616) := ⟨by omega⟩
        obtain ⟨z5, hz5⟩ : ∃ z5, sizeF T5.l = z5 := ⟨_, rfl⟩
        obtain ⟨c5, hc5⟩ : ∃ c5, T5.cap = c5 := ⟨_, rfl⟩
        have hd5 : decide ((c5 : Int) < (z5 : Int)) = false := decide_eq_false (by have := HZ5.out; omega)
        have hd6 : decide (c5 < z5) = false := decide_eq_false (by have := HZ5.out; omega)
        have HZZ := Bx.mk hz5
        have HCC := Bx.mk hc5
        clear hm5 hz5 hc5
        go_wp2_with fail
        refine (alike_any HK5.out.two (f1, f2) HSF.out at1 HAT.out).mono ?_
        rintro e y5 ⟨rfl, e5⟩
        have HK6 := Bx.mk (HK5.out.keep e5)
        have HA6 := Bx.mk (HA5.out.below e5)
        have D6 := Bx.mk (D5.out.trans (e5.mono D5.out.size))
        obtain ⟨_, a1, a2, _⟩ := HA6.out.cells
        simp only at a1 a2
        clear e5 g1 g2
        go_wp2_with fail
        refine (alike_any HK6.out.two (x1, x2) (by have := HFZ.out; unfold Sized maxLen fsz at *; simp only at *; omega) m5 HM5.out).mono ?_
        rintro e y6 ⟨rfl, e6⟩
        have HK7 := Bx.mk (HK6.out.keep e6)
        have D7 := Bx.mk (D6.out.trans (e6.mono D6.out.size))
        clear e6 a1 a2
        go_wp2_with fail
        refine HK7.out.two.left'.size_.mono ?_
        rintro e y7 ⟨rfl, e7⟩
        rw [HZZ.out]
        have HK8 := Bx.mk (HK7.out.keep e7)
        have D8 := Bx.mk (D7.out.trans (e7.mono D7.out.size))
        clear e7
        go_wp2_with fail
        refine HK8.out.two.left'.cap_.mono ?_
        rintro e y8 ⟨rfl, e8⟩
        rw [HCC.out]
        have HK9 := Bx.mk (HK8.out.keep e8)
        have D9 := Bx.mk (D8.out.trans (e8.mono D8.out.size))
        clear e8
        go_wp2_with fail
        go_roundg g
        case measure => omega
        case rel => exact ⟨k + 1, T5, by omega, by go_num, HT5, ⟨HK9.out.two⟩, D9⟩

end Go.Proofs.Ytjebemcghikgpaa
