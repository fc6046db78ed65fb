/-
  bifoldlaw6.HdecKinds answers true, whatever its arguments: the walk.
-/
import Derived.Test.YtejkbibahbcofaaM25
import Derived.Test.YtejkbibahbcofaaM27
import Derived.BigRegion
import Derived.Deep.CutRange
import Derived.Deep.Cut
namespace Go.Proofs.Ytejkbibahbcofaa
open Go.RowKit Go.Maps
set_option linter.unusedVariables false

theorem OwB.litK (w : World) (cs : Array Value) (l : List UInt8) (hc : cs.toList = l.map bv) (hn : l.length ≤ 1000) : OwB (w.alloc (.cells cs 5)) w.heap.size (.slice (some ⟨w.heap.size, 0, none⟩) l.length l.length) l := by
  have hl : cs.size = l.length := by rw [← Array.length_toList, hc, List.length_map]
  have h := World.ownsRow_lit (base := w.heap.size) (e := 5) (size := 1) w cs l.length (Nat.le_refl _) (by unfold maxLen; omega) (by omega)
  rw [hc] at h
  unfold OwB
  rw [List.length_map]
  exact h
theorem Rd.litK (w : World) (g : Nat) (hg : w.heap.size = g) (e : TypeId) (cs : Array Value) (n : Nat) (hn : cs.size = n) (hm : n ≤ maxLen) : Rd (w.alloc (.cells cs e)) (.slice (some ⟨g, 0, none⟩) n n) cs.toList := by
  subst hg; exact Rd.lit w e cs n hn hm
theorem Fb.non {w w' : World} {g : Nat} {f : Fd} (h : Fb 61 w g f) (hn : NonB w w') : Fb 61 w' g f := hn.fb h (by decide)
theorem Fb.set1 {t : TypeId} {w : World} {g : Nat} {f : Fd} (h : Fb t w g f) (a : ByteArray) : Fb t (w.setCell ⟨g, 0, none⟩ (.string a)) g (a, f.2) := by
  unfold Fb at *
  simp [World.setCell, Array.getElem?_modify, h]

/-- The program's reader, all that it holds made since block B and ahead of block C. -/
def OneC (B C q t : Nat) (T : Tab) (mx : Nat) (mu bd : Bool) (w : World) : Prop := ∃ S, Pc q t T mx mu bd w S ∧ ∀ k, S k → B ≤ k ∧ k < C
theorem OneP.ahead {B q t mx : Nat} {T : Tab} {mu bd : Bool} {w : World} (h : OneP B q t T mx mu bd w) : OneC B w.heap.size q t T mx mu bd w := by
  obtain ⟨S, h1, h2⟩ := h
  exact ⟨S, h1, fun k hk => ⟨h2 k hk, h1.lt k hk⟩⟩
theorem OneC.keep {B C q t mx : Nat} {T : Tab} {mu bd : Bool} {w w' : World} (h : OneC B C q t T mx mu bd w) (hb : Below w.heap.size w w') : OneC B C q t T mx mu bd w' := by
  obtain ⟨S, h1, h2⟩ := h
  exact ⟨S, h1.keep hb, h2⟩
theorem OneC.decode {B C q t mx : Nat} {T : Tab} {mu : Bool} {w : World} (h : OneC B C q t T mx mu false w) (hB : B ≤ w.heap.size) (hgd : T.gd) (htot : T.tot + 300 ≤ 1000000) (hmx : mx ≤ 4096) {bV : Value} {l : List UInt8} (hb : Bs w bV l) (hl : l.length ≤ 100000) {s : Ls} (hs : ldec mx mu T l = some s) :
    Calls Try.prog 14 #[.pointer (some ⟨q, 0, none⟩), bV] w fun e w' => Below B w w' ∧ (∀ k, C ≤ k → k < w.heap.size → w'.heap[k]? = w.heap[k]?) ∧
      ∃ v, e = .returned (.tuple #[v, .int .i64 0]) ∧ Fs w' v s.out ∧ OneP B q t s.T mx false false w' := by
  obtain ⟨S, h1, h2⟩ := h
  refine (pdecode_any h1 hgd htot hmx hb hl).mono ?_
  rintro e w' (⟨hn, rfl, ht⟩ | ⟨s', v, hn, rfl, hf, S9, hv9, x9, s9, f9⟩)
  · rw [hs] at hn; cases hn
  · obtain rfl : s = s' := by rw [hs] at hn; injection hn
    obtain ⟨o, b⟩ := OneP.turn (fun k hk => (h2 k hk).1) hB ⟨S9, x9, s9, f9⟩
    exact ⟨b, fun k h3 h4 => f9.block k h4 fun hk => by have := (h2 k hk).2; omega, v, rfl, hf, o⟩

set_option maxRecDepth 100000 in
set_option maxHeartbeats 4000000 in
theorem hdecKinds_walk (a0 a1 : Int) (a2 a3 : ByteArray) (a4 : Bool) (w : World) (w0 : (Lit.int .u8 a0).wf = true) (w1 : (Lit.int .u8 a1).wf = true) (r2 : a2.size ≤ 140737488351232) (r3 : a3.size ≤ 140737488351232) :
    Calls Try.prog 7 #[.int .u8 a0, .int .u8 a1, .string a2, .string a3, .bool a4] w fun e w' => e = .returned (.bool true) ∧ Below w.heap.size w w' := by
  obtain ⟨kk, rfl, hkk⟩ := u8n w0
  obtain ⟨ii, rfl, hii⟩ := u8n w1
  obtain ⟨s, hs⟩ : ∃ s, a2.size + a3.size = s := ⟨_, rfl⟩
  have hs1 : wrap64 ((a2.size : Int) + (a3.size : Int)) = (s : Int) := by unfold wrap64; omega
  have hs2 : IntKind.i64.wrap ((a2.size : Int) + (a3.size : Int)) = (s : Int) := by simp only [IntKind.wrap_i64]; omega
  have HS := Bx.mk hs
  clear w0 w1 r2 r3 hs
  by_cases hbig : 100 < s
  · have hbb : decide (100 < (s : Int)) = true := by rw [decide_eq_true_iff]; omega
    clear hbig
    go_enter Try.func7, Try.ntmps7
    go_wp2_with (go_at_call 10; refine (hknown_any _).mono ?_; rintro e w1 ⟨rfl, b1⟩)
    go_ret
    exact ⟨rfl, b1⟩
  have hbb : decide (100 < (s : Int)) = false := by rw [decide_eq_false_iff_not]; omega
  have HSZ : Bx (a2.size ≤ 100 ∧ a3.size ≤ 100) := ⟨by have := HS.out; omega⟩
  clear hbig HS
  obtain ⟨m, hm⟩ : ∃ m, kk % 3 = m := ⟨_, rfl⟩
  have hm1 : (kk : Int) % 3 = (m : Int) := by omega
  have hm2 : (kk : Int).tmod 3 = (m : Int) := by rw [Int.tmod_eq_emod_of_nonneg (by omega)]; exact hm1
  obtain ⟨a, ha⟩ : ∃ a, ii % 63 = a := ⟨_, rfl⟩
  have ha1 : (ii : Int) % 63 = (a : Int) := by omega
  have ha2 : (ii : Int).tmod 63 = (a : Int) := by rw [Int.tmod_eq_emod_of_nonneg (by omega)]; exact ha1
  have hwa : IntKind.u64.wrap (a : Int) = (a : Int) := by simp only [IntKind.wrap_u64]; omega
  have HA : Bx (a ≤ 62 ∧ m < 3) := ⟨by omega, by omega⟩
  obtain ⟨mz, hmz⟩ : ∃ mz, ((m : Int) == 0) = mz := ⟨_, rfl⟩
  have HMZ : Bx (decide (m = 0) = mz) := ⟨by rw [← hmz, Bool.eq_iff_iff]; simp⟩
  obtain ⟨i0, hi0, hz, hz1, hz2⟩ := info_parts infoU8
  have HI : Bx (Try.prog.info? 5 = some i0 ∧ i0.zero = some (.int .u8 0) ∧ i0.size = 1 ∧ i0.bytes = 1) := ⟨hi0, hz, hz1, hz2⟩
  clear hm ha hi0 hz hz1 hz2 hkk hii
  go_enter Try.func7, Try.ntmps7
  go_wp2_with fail
  refine (hknown_any _).mono ?_
  rintro e w3 ⟨rfl, b3⟩
  have HB3 := Bx.mk b3
  clear b3
  go_wp2_with fail
  refine (OneP.new 4096 w3).mono ?_
  rintro e w4 ⟨q, t, rfl, h4, b4⟩
  rw [show clampN 4096 = 4096 from rfl, show Tab.new ((4096 : Nat) : Int) = Tab.new 4096 from rfl] at h4
  have HP4 := Bx.mk h4
  have HS4 := Bx.mk b4.size
  have HS3 := Bx.mk HB3.out.size
  have HB4 := Bx.mk (HB3.out.trans (b4.mono HB3.out.size))
  clear h4 b4 HB3
  -- the first block
  have HO5 : Bx (OwB ((w4.alloc (.cells #[.int .u8 64, .int .u8 1, .int .u8 100] 5)).alloc (.cells #[.int .u8 1] 5)) w4.heap.size (.slice (some ⟨w4.heap.size, 0, none⟩) 3 3) [64, 1, 100]) := ⟨(OwB.litK w4 #[.int .u8 64, .int .u8 1, .int .u8 100] [64, 1, 100] rfl (by simp)).alloc _⟩
  have HR5 : Bx (Rd ((w4.alloc (.cells #[.int .u8 64, .int .u8 1, .int .u8 100] 5)).alloc (.cells #[.int .u8 1] 5)) (.slice (some ⟨w4.heap.size + 1, 0, none⟩) 1 1) [.int .u8 1]) := ⟨Rd.litK _ _ (by simp) 5 #[.int .u8 1] 1 rfl (by simp [maxLen])⟩
  have HB5 : Bx (Below w4.heap.size w4 ((w4.alloc (.cells #[.int .u8 64, .int .u8 1, .int .u8 100] 5)).alloc (.cells #[.int .u8 1] 5))) := ⟨((Below.refl w4.heap.size w4).alloc (Nat.le_refl _) _).alloc (by simp) _⟩
  go_wp2_with (first
    | (at_builtin; refine wpList_append_og _ rfl _ _ 24 rfl w4.heap.size 5 i0 (.int .u8 0) 1 Try.underlying24 HI.out.1 HI.out.2.1 HI.out.2.2.1 HI.out.2.2.2 rfl _ _ (([64, 1, 100] : List UInt8).map bv) _ rfl rfl HO5.out HR5.out (by simp [Value.oneCell']) (by simp) (by simp [maxLen]) (by simp; omega) ?_; intro v6 w6 ho6 hb6 _; have HO6 := Bx.mk (OwB.snoc ho6 1 rfl); have HB6 := Bx.mk (HB5.out.trans hb6); clear ho6 hb6 HO5 HR5 HB5; have HO6b := Bx.mk (HO6.out.alloc (.cells #[.int .u8 118] 5)); have HR6 := Bx.mk (Rd.lit w6 5 #[.int .u8 118] 1 rfl (by simp [maxLen])); have HB6b := Bx.mk (HB6.out.alloc HB6.out.size (.cells #[.int .u8 118] 5)); obtain ⟨av, nv, cv, rfl⟩ : ∃ av nv cv, v6 = .slice av nv cv := ⟨_, _, _, (HO6.out.bs.choose_spec.choose_spec).1⟩)
    | (at_builtin; refine wpList_append_og _ rfl _ _ 24 rfl w4.heap.size 5 i0 (.int .u8 0) 1 Try.underlying24 HI.out.1 HI.out.2.1 HI.out.2.2.1 HI.out.2.2.2 rfl _ _ (([64, 1, 100, 1] : List UInt8).map bv) _ rfl rfl HO6b.out HR6.out (by simp [Value.oneCell']) (by simp) (by simp [maxLen]) HB6b.out.size ?_; intro v7 w7 ho7 hb7 _; have HO7 := Bx.mk (OwB.snoc ho7 118 rfl); have HB7 := Bx.mk (HB6b.out.trans hb7); clear ho7 hb7 HO6 HO6b HR6 HB6 HB6b; obtain ⟨av7, nv7, cv7, rfl⟩ : ∃ av nv cv, v7 = .slice av nv cv := ⟨_, _, _, (HO7.out.bs.choose_spec.choose_spec).1⟩))
  refine ((HP4.out.keep HB7.out).decode (Nat.le_trans HS4.out HB7.out.size) (gd_new 4096 (Nat.le_refl _)) (by simp [Tab.new]) (Nat.le_refl _) HO7.out.bs (by simp)).mono ?_
  rintro e w8 ⟨b8, hp8⟩
  rw [show (([64, 1, 100, 1] ++ [118] : List UInt8)) = [64, 1, 100, 1, 118] from rfl, kinds1] at hp8
  obtain ⟨v8, rfl, -, h8⟩ := hp8
  have HP8 := Bx.mk h8
  have HB8 : Bx (Below w.heap.size w w8) := ⟨(HB4.out.trans (HB7.out.mono HB4.out.size)).trans (b8.mono HS3.out)⟩
  have HS8 : Bx (w3.heap.size ≤ w8.heap.size) := ⟨Nat.le_trans (Nat.le_trans HS4.out HB7.out.size) b8.size⟩
  clear h8 b8 HP4 HS4 HB4 HO7 HB7
  obtain ⟨B, hB⟩ : ∃ B, w3.heap.size = B := ⟨_, rfl⟩
  rw [hB] at HP8 HS8 HS3
  clear hB
  go_upto_region 7 with fail
  go_cut [12, 13] from 36 to 45 (fun s12 s13 wx => s12 = .int .u8 ((kdF m).toNat : Int) ∧ s13 = .int .i64 (kdK m : Int) ∧ Bx (Below w8.heap.size w8 wx))
  case first =>
    have HF6 : Bx (kdF m = kdF m ∧ kdK m = kdK m) := ⟨rfl, rfl⟩
    rcases (by have := HA.out.2; omega : m = 0 ∨ m = 1 ∨ m = 2) with hm0 | hm0 | hm0
    all_goals subst hm0
    case' inl => replace hm2 : (kk : Int).tmod 3 = 0 := by simpa using hm2
    case' inr.inl => replace hm2 : (kk : Int).tmod 3 = 1 := by simpa using hm2
    case' inr.inr => replace hm2 : (kk : Int).tmod 3 = 2 := by simpa using hm2
    all_goals clear hm1
    all_goals go_region
    all_goals go_wp2_with fail
    all_goals go_meet
    all_goals exact ⟨rfl, rfl, ⟨(((Below.refl w8.heap.size w8).alloc (Nat.le_refl _) _).alloc (by simp) _).drew⟩⟩
  case rest =>
    obtain ⟨rfl, rfl, HBC⟩ := hcut
    have HPC := Bx.mk (HP8.out.keep HBC.out)
    have HBC8 := Bx.mk (HB8.out.trans (HBC.out.mono HB8.out.size))
    have HSC : Bx (B ≤ wc.heap.size) := ⟨Nat.le_trans HS8.out HBC.out.size⟩
    obtain ⟨wb, hwb⟩ : ∃ wb, wb = wc := ⟨_, rfl⟩
    subst hwb
    have hbk : bitsOf (kdK m : Int) = kdK m := by
      unfold kdK
      split <;> rfl
    have HBK := Bx.mk hbk
    have HKD := Bx.mk (kd_kind m)
    rw [HMZ.out] at HKD
    clear hbk HBC HP8 HB8 HS8
    obtain ⟨lf, hlf⟩ : ∃ lf, kdF m = lf := ⟨_, rfl⟩
    obtain ⟨lk, hlk⟩ : ∃ lk, kdK m = lk := ⟨_, rfl⟩
    rw [hlf, hlk] at HKD
    rw [hlk] at HBK
    rw [hlf, hlk]
    clear hlf hlk
    go_wp2_with fail
    refine (refPrefix_non wb.heap.size (.slice none 0 0) [] lf (lk : Int) a wb (OwB.nil _ _) (Nat.le_refl _) (by simp) (by have := HA.out.1; omega)).mono ?_
    rintro e w9 ⟨v9, rfl, ho9, b9, -⟩
    rw [HBK.out, List.nil_append] at ho9
    have HO9 := Bx.mk (ho9.alloc (.cells #[.string a2, .string a3] 61))
    have HB9 := Bx.mk (b9.alloc b9.size (.cells #[.string a2, .string a3] 61))
    have HF9 := Bx.mk (Fb.new 61 w9 (a2, a3))
    obtain ⟨G, hG⟩ : ∃ G, w9.heap.size = G := ⟨_, rfl⟩
    rw [hG] at HF9
    have HG := Bx.mk hG
    have HGS := Bx.mk b9.size
    clear ho9 b9 hG
    obtain ⟨za, hza⟩ : ∃ za, ((a : Int) == 0) = za := ⟨_, rfl⟩
    have HZA : Bx (za = true ↔ a = 0) := ⟨by rw [← hza, beq_iff_eq]; omega⟩
    go_upto_if 57 with fail
    rw [HG.out]
    generalize w9.alloc (.cells #[.string a2, .string a3] 61) = w10 at HO9 HB9 HF9 ⊢
    have HGC : Bx (wb.heap.size ≤ G) := ⟨by rw [← HG.out]; exact HGS.out⟩
    clear HG HGS
    go_cut [15] from 58 to 71 (fun s15 wx => Bx (OwB wx wb.heap.size s15 (pre lf lk a ++ if a = 0 then strW a4 a2.data.toList else [])) ∧ Bx (Fb 61 wx G (wantN a a2, a3)) ∧ Bx (Below wb.heap.size wb wx))
    case first =>
      clear hza
      cases za with
      | true =>
        have h0 : a = 0 := HZA.out.1 rfl
        have HC : Bx ((if a = 0 then strW a4 a2.data.toList else []) = strW a4 a2.data.toList) := ⟨if_pos h0⟩
        have HN : Bx (wantN a a2 = a2) := ⟨if_pos h0⟩
        clear h0
        go_wp2_with fail
        refine (lstr_non wb.heap.size v9 _ a2 a4 w10 HO9.out HB9.out.size (by have := (pre_len lf lk a).2; omega) (by have := HSZ.out.1; omega)).mono ?_
        rintro e w11 ⟨v11, rfl, ho11, b11, n11⟩
        have HO11 := Bx.mk ho11
        have HB11 := Bx.mk (HB9.out.trans b11)
        have HF11 := Bx.mk (HF9.out.non n11)
        clear ho11 b11 n11
        go_wp2_with fail
        go_meet
        exact ⟨by rw [HC.out]; exact HO11, by rw [HN.out]; exact HF11, HB11⟩
      | false =>
        have h0 : ¬ a = 0 := fun h => Bool.noConfusion (HZA.out.2 h)
        have HC : Bx ((if a = 0 then strW a4 a2.data.toList else []) = []) := ⟨if_neg h0⟩
        obtain ⟨e1, e2⟩ := HF9.out.cells
        obtain ⟨ef1, ef2⟩ := HF9.out.free
        by_cases h61 : a ≤ 61
        · have hd61 : decide ((a : Int) ≤ 61) = true := decide_eq_true (by omega)
          obtain ⟨k, hk⟩ : ∃ k, a - 1 = k := ⟨_, rfl⟩
          have hw1 : IntKind.u64.wrap ((a : Int) - 1) = (k : Int) := by simp only [IntKind.wrap_u64]; omega
          have hlt : k < T2.length := by rw [t2_len]; omega
          have HN := Bx.mk (wantN_static a k a2 (by omega) h61 hk hlt)
          have HLT := Bx.mk hlt
          clear h0 h61 hk
          go_wp2_with fail
          refine (h2s_any _).mono ?_
          rintro e w11 ⟨v, rfl, hv, hb⟩
          have hlen := fun ty W => hv.run_len ty W
          rw [t2_len] at hlen
          have HF11 := Bx.mk (HF9.out.keep hb)
          have HO11 := Bx.mk (HO9.out.keep hb)
          have HB11 := Bx.mk (HB9.out.trans (hb.mono HB9.out.size))
          obtain ⟨b, o, hix, hcs⟩ := hv.at_ k HLT.out
          obtain ⟨q1, q2⟩ := hcs w11 hv
          rw [← HN.out] at q1
          clear hv hb hcs e1 e2 ef1 ef2 q2
          obtain ⟨e1, e2⟩ := HF11.out.cells
          obtain ⟨ef1, ef2⟩ := HF11.out.free
          have HF12 := Bx.mk (HF11.out.set1 (wantN a a2))
          have HB12 := Bx.mk (HB11.out.grown (grown_set w11 G 0 (.string (wantN a a2))) HB11.out.size fun k hk => by cases hk; exact HGC.out)
          have HO12 := Bx.mk (HO11.out.kept (w' := w11.setCell ⟨G, 0, none⟩ (.string (wantN a a2))) fun k hk => (grown_set w11 G 0 (.string (wantN a a2))).block k (HO11.out.lt hk) fun e => by
            cases e
            rcases HO11.out.2 with ⟨rfl, _⟩ | ⟨g', cap, cur, rfl, hg, hh, rest⟩
            · simp [Value.ownBlock] at hk
            · simp only [Value.ownBlock, Option.some.injEq] at hk
              subst hk
              have hf := HF11.out
              unfold Fb at hf
              rw [hf] at hh
              injection hh with hh
              injection hh with _ hh2 _
              exact absurd hh2 (by decide))
          go_wp2_with fail
          go_meet
          exact ⟨by rw [HC.out, List.append_nil]; exact HO12, HF12, HB12⟩
        · have hd61 : decide ((a : Int) ≤ 61) = false := decide_eq_false (by omega)
          obtain rfl : a = 62 := by have := HA.out.1; omega
          have HN := Bx.mk (wantN_dyn a2)
          have HF12 := Bx.mk (HF9.out.set1 ⟨#[100]⟩)
          have HB12 := Bx.mk (HB9.out.grown (grown_set w10 G 0 (.string ⟨#[100]⟩)) HB9.out.size fun k hk => by cases hk; exact HGC.out)
          have HO12 := Bx.mk (HO9.out.kept (w' := w10.setCell ⟨G, 0, none⟩ (.string ⟨#[100]⟩)) fun k hk => (grown_set w10 G 0 (.string ⟨#[100]⟩)).block k (HO9.out.lt hk) fun e => by
            cases e
            rcases HO9.out.2 with ⟨rfl, _⟩ | ⟨g', cap, cur, rfl, hg, hh, rest⟩
            · simp [Value.ownBlock] at hk
            · simp only [Value.ownBlock, Option.some.injEq] at hk
              subst hk
              have hf := HF9.out
              unfold Fb at hf
              rw [hf] at hh
              injection hh with hh
              injection hh with _ hh2 _
              exact absurd hh2 (by decide))
          clear h0 h61
          go_wp2_with fail
          go_meet
          exact ⟨by rw [HC.out, List.append_nil]; exact HO12, by rw [HN.out]; exact HF12, HB12⟩
    case rest =>
      clear HO9 HB9 HF9
      obtain ⟨HO9, HF9, HB9⟩ := hcut
      clear hza HZA ha1 ha2 hwa HI hs1 hs2
      have hlen0 : (pre lf lk a ++ if a = 0 then strW a4 a2.data.toList else []).length ≤ 400 := by
        have h1 := (pre_len lf lk a).2
        have h2 := (strW_len a4 a2.data.toList).2
        have h3 : a2.data.toList.length = a2.size := by simp
        have h4 := HSZ.out.1
        rw [List.length_append]
        split
        · omega
        · simp only [List.length_nil]; omega
      have HL0 := Bx.mk hlen0
      clear hlen0
      go_wp2_with fail
      refine (lstr_non wb.heap.size _ _ a3 a4 wc HO9.out HB9.out.size (by have := HL0.out; omega) (by have := HSZ.out.2; omega)).mono ?_
      rintro e wd ⟨vd, rfl, hod, bd, nd⟩
      rw [List.append_assoc, show pre lf lk a ++ ((if a = 0 then strW a4 a2.data.toList else []) ++ strW a4 a3.data.toList) = litW lf lk a a4 a2.data.toList a3.data.toList from rfl] at hod
      have HOD := Bx.mk hod
      have HBD := Bx.mk (HB9.out.trans bd)
      have HFD := Bx.mk (HF9.out.non nd)
      have HPD := Bx.mk (HPC.out.ahead.keep HBD.out)
      have HLD : Bx ((litW lf lk a a4 a2.data.toList a3.data.toList).length ≤ 300) := ⟨by
        have h1 := (litW_len lf lk a a4 a2.data.toList a3.data.toList).2
        have h2 : a2.data.toList.length = a2.size := by simp
        have h3 : a3.data.toList.length = a3.size := by simp
        have h4 := HSZ.out
        omega⟩
      clear hod bd nd HO9 HB9 HF9 HPC HL0
      obtain ⟨s9, hs9, hso, hsT⟩ := kinds_ldec HKD.out a HA.out.1 a4 a2 a3 HSZ.out.1 HSZ.out.2
      have HS9 := Bx.mk hs9
      have HSO := Bx.mk hso
      have HST := Bx.mk hsT
      clear hs9 hso hsT
      go_wp2_with fail
      refine (HPD.out.decode (Nat.le_trans HSC.out HBD.out.size) kT2_gd (by simp [kT2]) (Nat.le_refl _) HOD.out.bs (by have := HLD.out; omega) HS9.out).mono ?_
      rintro e we ⟨be, hce, ve, rfl, hfe, hpe⟩
      rw [HSO.out] at hfe
      have HWE : Bx (Below w.heap.size w we) := ⟨(HBC8.out.trans (HBD.out.mono HBC8.out.size)).trans (be.mono HS3.out)⟩
      obtain ⟨wn, hwn⟩ : ∃ wn, wantN a a2 = wn := ⟨_, rfl⟩
      rw [hwn] at hfe HFD
      have hfw : Fb 61 we G (wn, a3) := by
        unfold Fb
        rw [hce G HGC.out HFD.out.lt]
        exact HFD.out
      have HFW := Bx.mk hfw
      have HPE := Bx.mk hpe
      have HFE := Bx.mk hfe
      clear hwn HSO HFD HOD HPD HBD be hce hfe hfw hpe
      obtain ⟨e1, e2⟩ := HFW.out.cells
      have hfl : Fs (we.alloc (.cells #[.string wn, .string a3] 61)) (.slice (some ⟨we.heap.size, 0, none⟩) 1 1) [(wn, a3)] := Fs.lits we #[.string wn, .string a3] [(wn, a3)] rfl (by simp)
      have hbl := (Below.refl we.heap.size we).alloc (Nat.le_refl _) (.cells #[.string wn, .string a3] 61)
      have hq := fields_any ve _ [(wn, a3)] [(wn, a3)] _ (HFE.out.keep hbl) hfl
      rw [decide_eq_true (rfl : [(wn, a3)] = [(wn, a3)])] at hq
      have HQ := Bx.mk hq
      clear hq
      have HBL := Bx.mk hbl
      clear hfl hbl HFE
      cases mz with
      | true =>
        have HLN : Bx (s9.T.l.length = 2) := HST
        go_wp2_with fail
        refine HQ.out.mono ?_
        rintro e wf ⟨rfl, bf⟩
        have HPF := Bx.mk ((HPE.out.keep HBL.out).keep bf)
        have HWF := Bx.mk ((HWE.out.trans (HBL.out.mono HWE.out.size)).trans (bf.mono (Nat.le_trans HWE.out.size HBL.out.size)))
        clear bf
        go_wp2_with fail
        refine HPF.out.table.mono ?_
        rintro e wg ⟨rfl, bg⟩
        have HPG := Bx.mk (HPF.out.keep bg)
        have HWG := Bx.mk (HWF.out.trans (bg.mono HWF.out.size))
        clear bg
        go_wp2_with fail
        refine HPG.out.len.mono ?_
        rintro e wh ⟨rfl, bh⟩
        rw [HLN.out]
        have HWH := Bx.mk (HWG.out.trans (bh.mono HWG.out.size))
        clear bh
        go_wp2_with fail
        go_ret
        exact ⟨rfl, HWH.out⟩
      | false =>
        have HLN : Bx (s9.T.l.length = 1) := HST
        go_wp2_with fail
        refine HQ.out.mono ?_
        rintro e wf ⟨rfl, bf⟩
        have HPF := Bx.mk ((HPE.out.keep HBL.out).keep bf)
        have HWF := Bx.mk ((HWE.out.trans (HBL.out.mono HWE.out.size)).trans (bf.mono (Nat.le_trans HWE.out.size HBL.out.size)))
        clear bf
        go_wp2_with fail
        refine HPF.out.table.mono ?_
        rintro e wg ⟨rfl, bg⟩
        have HPG := Bx.mk (HPF.out.keep bg)
        have HWG := Bx.mk (HWF.out.trans (bg.mono HWF.out.size))
        clear bg
        go_wp2_with fail
        refine HPG.out.len.mono ?_
        rintro e wh ⟨rfl, bh⟩
        rw [HLN.out]
        have HWH := Bx.mk (HWG.out.trans (bh.mono HWG.out.size))
        clear bh
        go_wp2_with fail
        go_ret
        exact ⟨rfl, HWH.out⟩

end Go.Proofs.Ytejkbibahbcofaa
