/-
  The walk of DynShrinks.
-/
import Derived.Test.YtjebemcghikgpaaDnL
import Derived.BigQuiet
import Derived.Deep.QuietTactic
namespace Go.Proofs.Ytjebemcghikgpaa
open Go.RowKit Go.Maps
set_option linter.unusedVariables false
set_option linter.unusedSimpArgs false

/-- Numbers of sixteen bits. -/
def Us (w : World) (v : Value) (ns : List Nat) : Prop := Rd w v (ns.map fun (n : Nat) => Value.int .u16 (n : Int)) ∧ ∀ n ∈ ns, n < 65536
theorem Us.keep {w w' : World} {v : Value} {ns : List Nat} (h : Us w v ns) (hb : Below w.heap.size w w') : Us w' v ns := ⟨Rd.keep h.1 hb, h.2⟩
theorem Us.run_len {w : World} {v : Value} {ns : List Nat} (h : Us w v ns) (ty : TypeId) (W : World) : (Builtin.len_ #[49] ty #[v]).run Try.prog W = .ok (.int .i64 (ns.length : Int)) W := by
  obtain ⟨⟨A, c, rfl, h1, h2, h3⟩, _⟩ := h
  simp [Builtin.len_, run_underlying Try.underlying49, goInt]
theorem Us.at_ {w : World} {v : Value} {ns : List Nat} (h : Us w v ns) (i : Nat) (hi : i < ns.length) :
    ∃ b o : Nat, (∀ W : World, (Instr.indexAt 49 v (.int .i64 (i : Int))).run Try.prog W = .ok (.pointer (some ⟨b, o, none⟩)) W) ∧ ∀ W : World, Us W v ns → W.cell? ⟨b, o, none⟩ = some (.int .u16 (ns[i] : Int)) := by
  obtain ⟨b, o, c, rfl, h1, h2, h3, hc⟩ := Rd.at_ h.1 (by simp; omega)
  refine ⟨b, o + i, fun W => ?_, fun W hW => ?_⟩
  · simp [Instr.indexAt, asIntOf, run_underlying Try.underlying49, List.length_map, Sem.run_bind, hi, Result.andThen]
    simp [Addr.add]
  · obtain ⟨b', o', c', e, _, _, _, hc'⟩ := Rd.at_ hW.1 (by simp; omega)
    injection e with e1 e2 e3
    injection e1 with e1
    injection e1 with e1 e4
    subst e1; subst e4
    exact hc' i _ (by simp [hi])

/-- The table's entries are the last of the first k. -/
def Sfx (l : List Fd) (k : Nat) (T : Tab) : Prop := T.tot = k ∧ T.cap ≤ 2000 ∧ ∃ d, T.l = (l.take k).drop d
theorem drop_snoc (A : List Fd) (x : Fd) (m : Nat) : ∃ d, A.drop m ++ [x] = (A ++ [x]).drop d := by
  rcases Nat.lt_or_ge A.length m with h | h
  · exact ⟨A.length, by rw [List.drop_of_length_le (by omega), List.nil_append, List.drop_left]⟩
  · exact ⟨m, by rw [List.drop_append_of_le_length h]⟩
theorem Sfx.add {l : List Fd} {k : Nat} {T : Tab} (h : Sfx l k T) (hk : k < l.length) (hc : fsz l[k] + 32 ≤ T.cap) : Sfx l (k + 1) (T.add l[k]) := by
  obtain ⟨h1, h2, d, h3⟩ := h
  have hadd : T.add l[k] = ⟨fits (T.room l[k]) T.l ++ [l[k]], T.cap, T.tot + 1⟩ := by unfold Tab.add; rw [if_pos hc]
  rw [hadd]
  refine ⟨by show T.tot + 1 = k + 1; omega, h2, ?_⟩
  obtain ⟨y, hy⟩ : ∃ y, fits (T.room l[k]) T.l = T.l.drop y := ⟨_, fits_drop _ _⟩
  show ∃ d, fits (T.room l[k]) T.l ++ [l[k]] = _
  rw [hy, h3, List.drop_drop, List.take_succ_eq_append_getElem hk]
  exact drop_snoc _ _ _
theorem Sfx.resize {l : List Fd} {T : Tab} (h : Sfx l l.length T) (n : Nat) (hn : n ≤ 2000) : Sfx l l.length (T.resize (n : Int)) := by
  obtain ⟨h1, h2, d, h3⟩ := h
  refine ⟨h1, by show (n : Int).toNat ≤ 2000; omega, ?_⟩
  refine ⟨d + (T.l.length - (fits ((n : Int).toNat : Int) T.l).length), ?_⟩
  show fits ((n : Int).toNat : Int) T.l = _
  rw [← List.drop_drop, ← h3]
  exact fits_drop _ _
theorem Sfx.newest {l : List Fd} {T : Tab} (h : Sfx l l.length T) (j : Nat) (hj : j < T.l.length) : ∃ c, ∃ hc : c < l.length, j + c + 1 = l.length ∧ entN T.l j = l[c] := by
  obtain ⟨h1, h2, d, h3⟩ := h
  rw [List.take_length] at h3
  have hlen : T.l.length = l.length - d := by rw [h3, List.length_drop]
  refine ⟨l.length - 1 - j, by omega, by omega, ?_⟩
  unfold entN
  rw [dif_pos hj]
  have e : T.l[T.l.length - 1 - j]? = (l.drop d)[T.l.length - 1 - j]? := by rw [h3]
  rw [List.getElem?_drop, List.getElem?_eq_getElem (by omega), List.getElem?_eq_getElem (by omega)] at e
  rw [Option.some.inj e]
  congr 1
  omega

set_option maxRecDepth 100000 in
set_option maxHeartbeats 4000000 in
theorem dynShrinks_walk (v u : Value) (l : List Fd) (ns : List Nat) (w : World) (hv : Fs w v l) (hs : Small l) (hu : Us w u ns) :
    Calls Try.prog 7 #[v, u] w fun e w' => e = .returned (.bool true) ∧ Below w.heap.size w w' := by
  have HV := Bx.mk hv
  have HS := Bx.mk hs
  have HU := Bx.mk hu
  have hlen := fun ty W => hv.run_len ty W
  have hlenu := fun ty W => hu.run_len ty W
  clear hv hs hu
  go_enter Try.func7, Try.ntmps7
  go_wp2_with fail
  refine (known_any w).mono ?_
  rintro e w1 ⟨rfl, b1⟩
  have B1 := Bx.mk b1
  clear b1
  by_cases hL : 20 < l.length
  · have hd1 : decide ((20 : Int) < (l.length : Int)) = true := decide_eq_true (by omega)
    have hd2 : decide (20 < l.length) = true := decide_eq_true hL
    go_wp2_with fail
    go_ret
    exact ⟨rfl, B1.out⟩
  have hd1 : decide ((20 : Int) < (l.length : Int)) = false := decide_eq_false (by omega)
  have hd2 : decide (20 < l.length) = false := decide_eq_false hL
  by_cases hL2 : 10 < ns.length
  · have hd3 : decide ((10 : Int) < (ns.length : Int)) = true := decide_eq_true (by omega)
    have hd4 : decide (10 < ns.length) = true := decide_eq_true hL2
    go_wp2_with fail
    go_ret
    exact ⟨rfl, B1.out⟩
  have hd3 : decide ((10 : Int) < (ns.length : Int)) = false := decide_eq_false (by omega)
  have hd4 : decide (10 < ns.length) = false := decide_eq_false hL2
  have HL : Bx (l.length ≤ 20) := ⟨by omega⟩
  have HL2 : Bx (ns.length ≤ 10) := ⟨by omega⟩
  clear hL hL2
  go_wp2_with fail
  refine (One.new 2000 (by omega) w1).mono ?_
  rintro e w2 ⟨p, rfl, h2, b2⟩
  have H2 := Bx.mk h2
  have B2 := Bx.mk b2
  clear h2 b2 hd1 hd2 hd3 hd4
  go_wp2_with fail
  go_loopg [6] l.length (fun g s6 wx => ∃ (k : Nat) (T : Tab), k + g = l.length ∧ s6 = .int .i64 k ∧ Bx (T.cap = 2000) ∧ Bx (Sfx l k T) ∧ Bx (One w1.heap.size p T wx) ∧ Bx (Below w1.heap.size w1 wx))
  case atStart => exact ⟨0, _, by omega, rfl, ⟨rfl⟩, ⟨rfl, by decide, 0, rfl⟩, H2, B2⟩
  case round =>
    clear H2 B2
    obtain ⟨k, T, hkg, rfl, HC, HX, H3, B3⟩ := hrel
    cases gk with
    | zero =>
      obtain rfl : k = l.length := by omega
      clear hkg HC
      go_wp2_with fail
      go_loopg [7] ns.length (fun g s7 wx => ∃ (i : Nat) (T : Tab), i + g = ns.length ∧ s7 = .int .i64 i ∧ Bx (Sfx l l.length T) ∧ Bx (One w1.heap.size p T wx) ∧ Bx (Below w1.heap.size w1 wx))
      case atStart => exact ⟨0, T, by omega, rfl, HX, H3, B3⟩
      case round =>
        clear HX H3 B3
        obtain ⟨i, T, hig, rfl, HX, H3, B3⟩ := hrel
        cases gk with
        | zero =>
          obtain rfl : i = ns.length := by omega
          go_wp2_with fail
          go_ret
          exact ⟨rfl, B1.out.trans (B3.out.mono B1.out.size)⟩
        | succ g =>
          have hi : i < ns.length := by omega
          have hiz : (i : Int) < (ns.length : Int) := by omega
          have hi10 : i < 10 := by have := HL2.out; omega
          obtain ⟨b, o, hix, hcs⟩ := HU.out.at_ i hi
          obtain ⟨x, hx⟩ : ∃ x, ns[i] = x := ⟨_, rfl⟩
          have hxb : x < 65536 := by rw [← hx]; exact HU.out.2 _ (List.getElem_mem hi)
          rw [hx] at hcs
          have HCS : Bx (∀ W, Below w1.heap.size w1 W → W.cell? ⟨b, o, none⟩ = some (.int .u16 (x : Int))) := ⟨fun W hW => hcs W (HU.out.keep (B1.out.trans (hW.mono B1.out.size)))⟩
          obtain ⟨y, hy⟩ : ∃ y, x % 2000 = y := ⟨_, rfl⟩
          have hyi : (x : Int) % 2000 = (y : Int) := by omega
          have hyb : y < 2000 := by omega
          have hmod : (x : Int).tmod 2000 = (y : Int) := by rw [Int.tmod_eq_emod_of_nonneg (by omega)]; omega
          have hwy : wrap64 (y : Int) = (y : Int) := by unfold wrap64; omega
          have HYB := Bx.mk hyb
          clear hcs hx hxb hy hi
          obtain ⟨n, hn⟩ : ∃ n, T.l.length = n := ⟨_, rfl⟩
          have HN := Bx.mk hn
          clear hn
          go_wp2_with fail
          refine H3.out.len_.mono ?_
          rintro e w4 ⟨rfl, b4⟩
          rw [HN.out]
          have H4 := Bx.mk (H3.out.keep b4)
          have B4 := Bx.mk (B3.out.trans (b4.mono B3.out.size))
          clear b4
          have hc4 := HCS.out _ B4.out
          go_wp2_with fail
          obtain ⟨r, hr⟩ : ∃ r, T.went (((y : Int).toNat : Nat) : Int) = r := ⟨_, rfl⟩
          refine (H4.out.resize B4.out.size (y : Int) (by have := HYB.out; omega)).mono ?_
          rintro e w5 ⟨rfl, h5, b5⟩
          rw [hr]
          have HX5 := Bx.mk (HX.out.resize y (by have := HYB.out; omega))
          have hsz : sizeF (T.resize (y : Int)).l ≤ y := by
            show sizeF (fits (((y : Int).toNat : Nat) : Int) T.l) ≤ y
            rcases fits_le (((y : Int).toNat : Nat) : Int) T.l with h | h
            · rw [h]; exact Nat.zero_le _
            · have := h; omega
          have hcap : (T.resize (y : Int)).cap = y := by show (y : Int).toNat = y; omega
          have hlen5 : (T.resize (y : Int)).l.length + r = n := by
            have h1 := fits_len (((y : Int).toNat : Nat) : Int) T.l
            have h2 := HN.out
            show (fits (((y : Int).toNat : Nat) : Int) T.l).length + r = n
            rw [← hr]
            unfold Tab.went
            omega
          obtain ⟨T5, hT5⟩ : ∃ T5, T.resize (y : Int) = T5 := ⟨_, rfl⟩
          rw [hT5] at h5 HX5 hsz hcap hlen5
          have H5 := Bx.mk h5
          have B5 := Bx.mk (B4.out.trans b5)
          obtain ⟨n5, hn5⟩ : ∃ n5, T5.l.length = n5 := ⟨_, rfl⟩
          rw [hn5] at hlen5
          obtain ⟨z5, hz5⟩ : ∃ z5, sizeF T5.l = z5 := ⟨_, rfl⟩
          rw [hz5] at hsz
          have hnb : n ≤ 31250 := by have := H4.out.ok.short; have := HN.out; omega
          have hws : wrap64 ((n : Int) - (r : Int)) = (n5 : Int) := by unfold wrap64; omega
          have hws2 : IntKind.i64.wrap ((n : Int) - (r : Int)) = (n5 : Int) := by simp only [IntKind.wrap_i64]; omega
          have hwy2 : IntKind.i64.wrap (y : Int) = (y : Int) := by simp only [IntKind.wrap_i64]; omega
          have hle : decide ((y : Int) < (z5 : Int)) = false := decide_eq_false (by omega)
          have hle2 : decide (y < z5) = false := decide_eq_false (by omega)
          have HN5 := Bx.mk hn5
          have HZ5 := Bx.mk hz5
          have HC5 := Bx.mk hcap
          have HT5 : Bx (T5.tot = l.length) := ⟨HX5.out.1⟩
          obtain ⟨ll, hll⟩ : ∃ ll, l.length = ll := ⟨_, rfl⟩
          have HLL := Bx.mk hll
          have hwl : IntKind.u64.wrap (ll : Int) = (ll : Int) := by have := HL.out; simp [IntKind.wrap, IntKind.signed, IntKind.bits]; omega
          have HNB5 : Bx (n5 ≤ 31250) := ⟨by omega⟩
          rw [hll] at HT5
          simp only [hll] at hlen
          clear h5 b5 hr hsz hcap hlen5 hT5 hn5 hz5 hnb hc4 H3 B3 H4 B4 HX HN hll
          go_wp2_with fail
          have HLEN : Bx (∀ W, Below w5.heap.size w5 W → Calls Try.prog 18 #[.pointer (some ⟨p, 0, none⟩)] W fun e w' => e = .returned (.int .i64 (n5 : Int)) ∧ Below W.heap.size W w') := ⟨fun W hW => HN5.out ▸ (H5.out.keep hW).len_⟩
          have HSIZE : Bx (∀ W, Below w5.heap.size w5 W → Calls Try.prog 16 #[.pointer (some ⟨p, 0, none⟩)] W fun e w' => e = .returned (.int .i64 (z5 : Int)) ∧ Below W.heap.size W w') := ⟨fun W hW => HZ5.out ▸ (H5.out.keep hW).size_⟩
          have HCAP : Bx (∀ W, Below w5.heap.size w5 W → Calls Try.prog 17 #[.pointer (some ⟨p, 0, none⟩)] W fun e w' => e = .returned (.int .i64 (y : Int)) ∧ Below W.heap.size W w') := ⟨fun W hW => HC5.out ▸ (H5.out.keep hW).cap_⟩
          have HCOUNT : Bx (∀ W, Below w5.heap.size w5 W → Calls Try.prog 19 #[.pointer (some ⟨p, 0, none⟩)] W fun e w' => e = .returned (.int .u64 (ll : Int)) ∧ Below W.heap.size W w') := ⟨fun W hW => HT5.out ▸ (H5.out.keep hW).count_⟩
          have hX0 : ∀ W, Below w5.heap.size w5 W → W.cell? ⟨b, o, none⟩ = some (.int .u16 (x : Int)) := fun W hW => HCS.out W (B5.out.trans (hW.mono B5.out.size))
          have hS0 : Below w5.heap.size w5 w5.drew := (Below.refl _ _).drew
          go_cut [98] from 51 to 125 (fun s98 wx => s98 = .bool false ∧ Bx (Below w5.heap.size w5 wx))
          case first =>
            clear HX5
            go_region_held (fun W => Below w5.heap.size w5 W) (first | assumption) (first
              | (go_at_call 18; refine (HLEN.out _ ?_).mono ?_; assumption; rintro e x2 ⟨rfl, hb⟩; have hS2 := below_step (by assumption) hb)
              | (go_at_call 16; refine (HSIZE.out _ ?_).mono ?_; assumption; rintro e x3 ⟨rfl, hb⟩; have hS3 := below_step (by assumption) hb)
              | (go_at_call 17; refine (HCAP.out _ ?_).mono ?_; assumption; rintro e x4 ⟨rfl, hb⟩; have hS4 := below_step (by assumption) hb)
              | (go_at_call 19; refine (HCOUNT.out _ ?_).mono ?_; assumption; rintro e x6 ⟨rfl, hb⟩; have hS6 := below_step (by assumption) hb))
            all_goals go_wp2_with fail
            all_goals go_meet
            all_goals exact ⟨rfl, ⟨hS6⟩⟩
          case rest =>
            obtain ⟨rfl, HS1⟩ := hcut
            clear hX0 hS0 HLEN HSIZE HCAP HCOUNT hle hle2 hws hws2 hwy2 hyi hmod hwy hix
            have HX6 := Bx.mk (H5.out.keep HS1.out)
            have BX6 := Bx.mk (B5.out.trans (HS1.out.mono B5.out.size))
            clear H5 B5 HS1
            go_wp2_with fail
            go_loopg [10] n5 (fun g s10 wx => ∃ j : Nat, j + g = n5 ∧ s10 = .int .i64 j ∧ Bx (One w1.heap.size p T5 wx) ∧ Bx (Below w1.heap.size w1 wx))
            case atStart => exact ⟨0, by omega, rfl, HX6, BX6⟩
            case round =>
              clear HX6 BX6
              obtain ⟨j, hjg, rfl, HX7, BX7⟩ := hrel
              have hj6 : j ≤ 31250 := by have := HNB5.out; omega
              go_wp2_with fail
              refine HX7.out.len_.mono ?_
              rintro e w7 ⟨rfl, b7⟩
              rw [HN5.out]
              have HX8 := Bx.mk (HX7.out.keep b7)
              have BX8 := Bx.mk (BX7.out.trans (b7.mono BX7.out.size))
              clear b7
              cases gk with
              | zero =>
                obtain rfl : j = n5 := by omega
                go_wp2_with fail
                go_roundg g
                case measure => omega
                case rel => exact ⟨i + 1, T5, by omega, by go_num, HX5, HX8, BX8⟩
              | succ g2 =>
                have hjl : (j : Int) < (n5 : Int) := by omega
                have hwj : IntKind.u64.wrap (j : Int) = (j : Int) := by simp [IntKind.wrap, IntKind.signed, IntKind.bits]; omega
                obtain ⟨c, hh, hjc0, hent⟩ := HX5.out.newest j (by rw [HN5.out]; omega)
                have hN : isN T5.l j = true := by unfold isN; rw [HN5.out]; simp; omega
                obtain ⟨y1, hy1⟩ : ∃ y1, l[c].1 = y1 := ⟨_, rfl⟩
                obtain ⟨y2, hy2⟩ : ∃ y2, l[c].2 = y2 := ⟨_, rfl⟩
                have HE : Bx (entN T5.l j = (y1, y2)) := ⟨by rw [hent, ← hy1, ← hy2]⟩
                have HNN := Bx.mk hN
                have HCL : Bx (c < ll) := ⟨by have := HLL.out; omega⟩
                have hjc : j + c + 1 = ll := by have := HLL.out; omega
                clear hjc0
                have hw1 : wrap64 ((ll : Int) - 1) = ((j + c : Nat) : Int) := by have := HL.out; have := HLL.out; unfold wrap64; omega
                obtain ⟨jc, hjcn⟩ : ∃ jc, j + c = jc := ⟨_, rfl⟩
                rw [hjcn] at hw1
                have hw2 : wrap64 ((jc : Int) - (j : Int)) = (c : Int) := by have := HL.out; have := HLL.out; unfold wrap64; omega
                have hw3 : IntKind.i64.wrap ((ll : Int) - 1) = (jc : Int) := by have := HL.out; have := HLL.out; simp only [IntKind.wrap_i64]; omega
                have hw4 : IntKind.i64.wrap ((jc : Int) - (j : Int)) = (c : Int) := by have := HL.out; have := HLL.out; simp only [IntKind.wrap_i64]; omega
                obtain ⟨bb, oo, hixl, hcsl⟩ := HV.out.at_ c hh
                rw [hy1, hy2] at hcsl
                have HCSL := Bx.mk hcsl
                clear hent hN hy1 hy2 hcsl hjc hjcn hh
                go_wp2_with fail
                refine (HX8.out.newest_ j (by omega)).mono ?_
                rintro e w9 ⟨rfl, b9⟩
                rw [HE.out, HNN.out, show aggF (y1, y2) = .agg #[.string y1, .string y2] from rfl]
                have HX9 := Bx.mk ((HX8.out.keep b9).keep ((Below.refl w9.heap.size w9).alloc (Nat.le_refl _) (.cells #[.string y1, .string y2] 24)))
                have BX9 := Bx.mk ((BX8.out.trans (b9.mono BX8.out.size)).alloc (Nat.le_trans BX8.out.size b9.size) (.cells #[.string y1, .string y2] 24))
                obtain ⟨e1, e2⟩ := (Fb.new 24 w9 (y1, y2)).cells
                obtain ⟨e3, e4⟩ := HCSL.out _ (HV.out.keep (B1.out.trans (BX9.out.mono B1.out.size)))
                clear b9
                have BX10 := Bx.mk BX9.out.drew
                have HX10 := Bx.mk (HX9.out.keep (Below.refl _ _).drew)
                go_wp2_with fail
                go_quiet (fail)
                go_wp2_with fail
                go_roundg g2
                case measure => omega
                case rel => exact ⟨j + 1, by omega, by go_num, ⟨HX9.out.keep (below_drewN (Below.refl _ _) _)⟩, ⟨below_drewN BX9.out _⟩⟩
    | succ g =>
      have hk : k < l.length := by omega
      have HB3 := Bx.mk (B1.out.trans (B3.out.mono B1.out.size))
      have HVW := Bx.mk (HV.out.keep HB3.out)
      obtain ⟨b, o, hix, hcs⟩ := HVW.out.at_ k hk
      obtain ⟨hc1, hc2⟩ := hcs _ HVW.out
      have hsm := HS.out l[k] (List.getElem_mem hk)
      have HCS := Bx.mk hcs
      obtain ⟨f1, hf1⟩ : ∃ f1, l[k].1 = f1 := ⟨_, rfl⟩
      obtain ⟨f2, hf2⟩ : ∃ f2, l[k].2 = f2 := ⟨_, rfl⟩
      rw [hf1, hf2] at HCS
      rw [hf1] at hc1 hsm
      rw [hf2] at hc2 hsm
      have hff : l[k] = (f1, f2) := by rw [← hf1, ← hf2]
      obtain ⟨m, hm⟩ : ∃ m, f1.size + f2.size = m := ⟨_, rfl⟩
      have hwm : IntKind.i64.wrap ((f1.size : Int) + (f2.size : Int)) = (m : Int) := by simp only [IntKind.wrap_i64]; omega
      have hkz : (k : Int) < (l.length : Int) := by omega
      have hk20 : k < 20 := by have := HL.out; omega
      by_cases hbig : 100 < m
      · have hd1 : decide ((100 : Int) < (m : Int)) = true := decide_eq_true (by omega)
        have hd2 : decide (100 < m) = true := decide_eq_true hbig
        clear hcs hf1 hf2 hff hm hsm
        go_wp2_with fail
        go_region
        go_wp2_with fail
        go_ret
        exact ⟨rfl, HB3.out.drew⟩
      · have hd1 : decide ((100 : Int) < (m : Int)) = false := decide_eq_false (by omega)
        have hd2 : decide (100 < m) = false := decide_eq_false hbig
        have HFZ : Bx (fsz (f1, f2) ≤ 100) := ⟨by unfold fsz; simp only; omega⟩
        have HX4 : Bx (Sfx l (k + 1) (T.add (f1, f2))) := ⟨by
          have := HX.out.add hk (by rw [hff, HC.out]; have := HFZ.out; omega)
          rwa [hff] at this⟩
        have HC4 : Bx ((T.add (f1, f2)).cap = 2000) := ⟨by rw [T.add_cap]; exact HC.out⟩
        have HT : Bx (T.tot ≤ 20) := ⟨by have := HX.out.1; omega⟩
        have H4 := Bx.mk (H3.out.keep (Below.refl _ _).drew)
        have B4 := Bx.mk B3.out.drew
        clear hbig hcs hf1 hf2 hff hm hsm
        go_wp2_with fail
        go_region
        generalize wr.drew = w4 at *
        clear hc1 hc2
        obtain ⟨hc3, hc4⟩ := HCS.out w4 (HV.out.keep (B1.out.trans (B4.out.mono B1.out.size)))
        clear hd1 hd2 hwm
        go_wp2_with fail
        refine (H4.out.addLit B4.out.size #[.string f1, .string f2] [(f1, f2)] rfl (by simp) (by have := HT.out; simp only [List.length_singleton]; omega) (by intro f hf; rw [List.mem_singleton.1 hf]; have := HFZ.out; omega)).mono ?_
        rintro e w6 ⟨rfl, h6, b6⟩
        have H6 : Bx (One w1.heap.size p (T.add (f1, f2)) w6) := ⟨h6⟩
        have B6 := Bx.mk (B4.out.trans b6)
        clear h6 b6
        go_wp2_with fail
        go_roundg g
        case measure => omega
        case rel => exact ⟨k + 1, _, by omega, by go_num, HC4, HX4, H6, B6⟩

end Go.Proofs.Ytjebemcghikgpaa
