/-
  bifoldlaw7.HencSecrets answers true, whatever its arguments: the walk.
-/
import Derived.Test.YthnaapjefedalaaM21
import Derived.Test.YthnaapjefedalaaM22
namespace Go.Proofs.Ythnaapjefedalaa
open Go.RowKit Go.Maps
set_option linter.unusedVariables false

theorem light_fsz {l : List Fd} (h : lightB l = true) : l.length ≤ 70 ∧ sumF l ≤ 3000 := by
  unfold lightB at h
  simpa using h
theorem light_each {l : List Fd} (h : sumF l ≤ 3000) : ∀ f ∈ l, f.1.size ≤ 3000 ∧ f.2.size ≤ 3000 := by
  intro f hf
  obtain ⟨i, hi, rfl⟩ := List.getElem_of_mem hf
  have := fsz_le l i hi
  unfold fsz at this
  omega
theorem sumF_each {l : List Fd} {n : Nat} (h : ∀ f ∈ l, f.1.size ≤ n ∧ f.2.size ≤ n) : sumF l ≤ l.length * (2 * n) := by
  induction l with
  | nil => simp [sumF]
  | cons f l ih =>
    have h1 := h f (by simp)
    have h2 := ih fun g hg => h g (by simp [hg])
    simp only [sumF, List.length_cons, fsz]
    rw [Nat.add_mul]
    omega

theorem St.len3 {w : World} {A : Option Addr} {n c : Nat} {L : List Fd} (h : St w (.slice A n c) L) : n = L.length := by
  rcases h with ⟨e, rfl⟩ | ⟨g, o, cap, m, F, e, _⟩
  · injection e
  · injection e
/-- Loop 1's relation. -/
def SecR (w2 : World) (n : Nat) (v : Value) (wx : World) : Prop :=
  ∃ L : List Fd, L.length = n ∧ St wx v L ∧ (∀ f ∈ L, f.1.size ≤ 3000 ∧ f.2.size ≤ 3000) ∧ (∀ k, v.ownBlock = some k → w2.heap.size ≤ k) ∧ Below w2.heap.size w2 wx

theorem SecR.put {w2 : World} {n : Nat} {v : Value} {wx : World} (h : SecR w2 n v wx) (i : Nat) (hi : i < n) :
    ∃ g o, (∀ (q : IntKind) (W : World), (Instr.indexAt 31 v (.int q (i : Int))).run Try.prog W = .ok (.pointer (some ⟨g, o, none⟩)) W) ∧
      ∀ obj, (∃ x, (wx.alloc obj).cell? ⟨g, o, none⟩ = some (.string x)) ∧ (wx.alloc obj).frozen? ⟨g, o, none⟩ = false ∧ ∀ a : ByteArray, a.size ≤ 3000 → SecR w2 n v ((wx.alloc obj).setCell ⟨g, o, none⟩ (.string a)) := by
  obtain ⟨L, h1, h2, h3, h4, h5⟩ := h
  obtain ⟨g, o, k1, k2, k3⟩ := h2.putName i (by omega)
  refine ⟨g, o, k2, fun obj => ?_⟩
  have hb := (Below.refl wx.heap.size wx).alloc (Nat.le_refl _) obj
  obtain ⟨m1, m2, m3⟩ := k3 (wx.alloc obj) (h2.keep hb)
  refine ⟨m1, m2, fun a ha => ⟨_, by rw [List.length_set]; exact h1, m3 a, fun f hf => ?_, h4, ?_⟩⟩
  · rcases List.mem_or_eq_of_mem_set hf with hf | rfl
    · exact h3 f hf
    · exact ⟨ha, (h3 _ (List.getElem_mem _)).2⟩
  · exact (h5.trans (hb.mono h5.size)).grown (grown_set _ g o _) (Nat.le_trans h5.size hb.size) (fun k hk => by cases hk; exact h4 g k1)

set_option maxRecDepth 100000 in
set_option maxHeartbeats 4000000 in
theorem hencSecrets_walk (va : Value) (l : List Fd) (a1 : Option Addr) (len1 cap1 : Nat) (z1 : List Int) (w : World) (hv : Fs w va l) (hs : Small l) (w1 : IsRow .u8 w a1 len1 cap1 z1) :
    Calls Try.prog 5 #[va, .slice a1 len1 cap1] w fun e w' => e = .returned (.bool true) ∧ Below w.heap.size w w' := by
  obtain ⟨bl, hb, hlen⟩ := w1.bytes
  clear w1 hlen
  generalize Value.slice a1 len1 cap1 = bV at hb ⊢
  have HBV := Bx.mk hb
  have hlenb := fun ty W => hb.run_len ty W
  have HV := Bx.mk hv
  have HSM := Bx.mk hs
  have hlenv := fun ty W => hv.run_len ty W
  have hlm := hv.len
  have hlmb := Rd.len hb
  simp only [List.length_map, maxLen] at hlm hlmb
  obtain ⟨n, hn⟩ : ∃ n, l.length = n := ⟨_, rfl⟩
  obtain ⟨m, hm⟩ : ∃ m, bl.length = m := ⟨_, rfl⟩
  rw [hn] at hlenv hlm
  rw [hm] at hlenb hlmb
  have HN := Bx.mk hn
  have HM := Bx.mk hm
  clear hb hv hs hn hm
  by_cases hbig : 12 < n
  · have hbb : decide (12 < (n : Int)) = true := decide_eq_true (by omega)
    clear hbig hlm hlmb
    go_enter Try.func5, Try.ntmps5
    go_wp2_with fail
    refine (eknown_any _).mono ?_
    rintro e w1 ⟨rfl, b1⟩
    go_wp2_with fail
    go_ret
    exact ⟨rfl, b1⟩
  have hbb : decide (12 < (n : Int)) = false := decide_eq_false (by omega)
  obtain ⟨lb, hlb⟩ : ∃ lb, lightB l = lb := ⟨_, rfl⟩
  have HLB := Bx.mk hlb
  clear hlb
  have HN12 : Bx (n ≤ 12) := ⟨by omega⟩
  clear hbig hlm
  cases lb with
  | false =>
    clear hlmb
    go_enter Try.func5, Try.ntmps5
    go_wp2_with fail
    refine (eknown_any _).mono ?_
    rintro e w1 ⟨rfl, b1⟩
    have HB1 := Bx.mk b1
    clear b1
    go_wp2_with fail
    refine (light_any va l w1 (HV.out.keep HB1.out) HSM.out).mono ?_
    rintro e w2 ⟨rfl, b2⟩
    rw [HLB.out]
    go_wp2_with fail
    go_ret
    exact ⟨rfl, HB1.out.trans (b2.mono HB1.out.size)⟩
  | true =>
    by_cases hlt : m < n
    · have hd : decide (m < n) = true := decide_eq_true hlt
      clear hlmb hlt
      go_enter Try.func5, Try.ntmps5
      go_wp2_with fail
      refine (eknown_any _).mono ?_
      rintro e w1 ⟨rfl, b1⟩
      have HB1 := Bx.mk b1
      clear b1
      go_wp2_with fail
      refine (light_any va l w1 (HV.out.keep HB1.out) HSM.out).mono ?_
      rintro e w2 ⟨rfl, b2⟩
      rw [HLB.out]
      go_wp2_with fail
      go_ret
      exact ⟨rfl, HB1.out.trans (b2.mono HB1.out.size)⟩
    · have hd : decide (m < n) = false := decide_eq_false hlt
      have HMN : Bx (n ≤ m) := ⟨by omega⟩
      clear hlmb hlt
      go_enter Try.func5, Try.ntmps5
      go_wp2_with fail
      refine (eknown_any _).mono ?_
      rintro e w1 ⟨rfl, b1⟩
      have HB1 := Bx.mk b1
      clear b1
      go_wp2_with fail
      refine (light_any va l w1 (HV.out.keep HB1.out) HSM.out).mono ?_
      rintro e w1' ⟨rfl, b2⟩
      rw [HLB.out]
      have HB1' := Bx.mk (HB1.out.trans (b2.mono HB1.out.size))
      clear b2
      go_wp2_with fail
      refine (enc_new 4096 w1').mono ?_
      rintro e w2 ⟨q, p, rfl, hu, b2⟩
      rw [show ((clampN 4096 : Nat) : Int) = 4096 from rfl] at hu
      have HU := Bx.mk hu
      have HB2 := Bx.mk (HB1'.out.trans (b2.mono HB1'.out.size))
      obtain ⟨v3, w3, hrun, hst3, hv3, hb3⟩ := (HV.out.keep HB2.out).copy (by have := HN.out; have := HN12.out; omega) 31
      obtain ⟨A3, n3, c3, rfl⟩ : ∃ A n c, v3 = .slice A n c := by
        rcases hst3 with ⟨rfl, _⟩ | ⟨g, o, cap, m, F, rfl, _⟩
        · exact ⟨_, _, _, rfl⟩
        · exact ⟨_, _, _, rfl⟩
      obtain rfl : n3 = n := by rw [hst3.len3]; exact HN.out
      have HR3 : Bx (SecR w2 n3 (.slice A3 n3 c3) w3) := ⟨l, HN.out, hst3, light_each (light_fsz HLB.out).2, hv3, hb3⟩
      clear hu b2 hst3 hv3 hb3 hbb hd
      go_wp2_with (at_builtin; refine wpList_append_run rfl _ _ 31 rfl _ _ rfl rfl hrun ?_)
      go_loopg [7] n3 (fun g s7 wx => ∃ k : Nat, k + g = n3 ∧ s7 = .int .i64 k ∧ Bx (SecR w2 n3 (.slice A3 n3 c3) wx))
      case atStart => exact ⟨0, by omega, rfl, HR3⟩
      case round =>
        obtain ⟨k, hkg, rfl, HR⟩ := hrel
        clear HR3 hrun
        cases gk with
        | succ g =>
          have hk : k < n3 := by omega
          have hkb : k < bl.length := by have := HM.out; have := HMN.out; omega
          have hkd : decide ((k : Int) < (n3 : Int)) = true := decide_eq_true (by omega)
          obtain ⟨pa, hix, hpc⟩ := HBV.out.at_ k hkb
          have hbw : Below w.heap.size w wr := by
            obtain ⟨L, _, _, _, _, h5⟩ := HR.out
            exact HB2.out.trans (h5.mono HB2.out.size)
          have hpc2 := hpc wr (Rd.keep HBV.out hbw)
          obtain ⟨x, hx⟩ : ∃ x, bl[k].toNat = x := ⟨_, rfl⟩
          rw [hx] at hpc2
          have hx256 : x < 256 := by rw [← hx]; exact bl[k].toNat_lt
          obtain ⟨r, hr⟩ : ∃ r, x % 6 = r := ⟨_, rfl⟩
          have hr1 : (x : Int) % 6 = (r : Int) := by omega
          have hr2 : Int.tmod (x : Int) 6 = (r : Int) := by rw [Int.tmod_eq_emod_of_nonneg (by omega)]; exact hr1
          obtain ⟨g1, o1, hix2, hput⟩ := HR.out.put k hk
          have HPUT := Bx.mk hput
          have hrl : r < 6 := by omega
          have hk12 : k ≤ 12 := by have := HN12.out; omega
          clear hpc hbw hx hr hput hx256 hkb
          by_cases h3 : r < 3
          · have hd3 : decide ((r : Int) < 3) = true := decide_eq_true (by omega)
            obtain ⟨⟨y, m1⟩, m2, m3⟩ := HPUT.out (.cells #[.string ⟨#[97, 117, 116, 104, 111, 114, 105, 122, 97, 116, 105, 111, 110]⟩, .string ⟨#[99, 111, 111, 107, 105, 101]⟩, .string ⟨#[115, 101, 116, 45, 99, 111, 111, 107, 105, 101]⟩] 9)
            have HM3 := Bx.mk m3
            clear m3 HPUT
            have hr3 : r = 0 ∨ r = 1 ∨ r = 2 := by omega
            clear h3 hrl
            rcases hr3 with rfl | rfl | rfl
            · go_wp2_with fail
              go_roundg g
              case measure => omega
              case rel => exact ⟨k + 1, by omega, by go_num, ⟨HM3.out _ (by decide)⟩⟩
            · go_wp2_with fail
              go_roundg g
              case measure => omega
              case rel => exact ⟨k + 1, by omega, by go_num, ⟨HM3.out _ (by decide)⟩⟩
            · go_wp2_with fail
              go_roundg g
              case measure => omega
              case rel => exact ⟨k + 1, by omega, by go_num, ⟨HM3.out _ (by decide)⟩⟩
          · have hd3 : decide ((r : Int) < 3) = false := decide_eq_false (by omega)
            clear HPUT h3 hrl
            go_wp2_with fail
            go_roundg g
            case measure => omega
            case rel => exact ⟨k + 1, by omega, by go_num, HR⟩
        | zero =>
          obtain rfl : k = n3 := by omega
          obtain ⟨L, hL1, hL2, hL3, hL4, hL5⟩ := HR.out
          obtain ⟨S, e1, e2⟩ := HU.out
          have hn12 := HN12.out
          have HENC := Bx.mk (pencode_any ((Wd.ep _ _ _ _).keep e1 hL5) (fun m hm => by cases hm) (by simp [Tab.new]) (fun W hf => hL2.fs.besides hf (fun g hg => ⟨hL2.lt hg, fun hs => by have h1 := (Wd.ep _ _ _ _).lt e1 g hs; have h2 := hL4 g hg; omega⟩)) (by omega) (fun f hf => by have := hL3 f hf; omega) (by have h1 := sumF_each hL3; have h2 : L.length * (2 * 3000) ≤ 12 * (2 * 3000) := Nat.mul_le_mul_right _ (by omega); omega) (by simp [Tab.new]; omega))
          have HBR : Bx (∀ W, Fp S wr W → Below w.heap.size w W) := ⟨fun W hf => (HB2.out.trans (hL5.mono HB2.out.size)).trans (hf.below (Nat.le_trans HB2.out.size hL5.size) fun k hk => Nat.le_trans HB1'.out.size (e2 k hk))⟩
          have HNS := Bx.mk (NoSec.encL L (NoSec.new 4096))
          clear hL1 hL2 hL3 hL4 hL5 e1 e2 HR hn12
          go_wp2_with fail
          refine HENC.out.mono ?_
          rintro e w5 ⟨v5, rfl, ho5, ht5⟩
          obtain ⟨T', hT'⟩ : ∃ T', (encL (Tab.new 4096) L).2 = T' := ⟨_, rfl⟩
          rw [hT'] at ht5 HNS
          have hb5 : Below w.heap.size w w5 := HBR.out w5 (by obtain ⟨_, _, _, hf⟩ := ht5; exact hf)
          have HB5 := Bx.mk hb5
          obtain ⟨E, x5, _⟩ := ht5
          have HEK : Bx (∀ W, Below w5.heap.size w5 W → Ep q p T' none W E) := ⟨fun W hW => (Wd.ep _ _ _ _).keep x5 hW⟩
          obtain ⟨nl, hnl⟩ : ∃ nl, T'.l.length = nl := ⟨_, rfl⟩
          have hshort : nl ≤ 31250 := by rw [← hnl]; exact x5.ok.short
          have HTB : Bx (∃ S', ∀ W, Below w5.heap.size w5 W → Tb p T' W S') := ⟨by
            obtain ⟨S', h1, _⟩ := x5.opens
            exact ⟨S', fun W hW => h1.keep hW⟩⟩
          have HLEN : Bx (∀ W, Below w5.heap.size w5 W → Calls Try.prog 16 #[.pointer (some ⟨p, 0, none⟩)] W fun e w' => e = .returned (.int .i64 (nl : Int)) ∧ Below W.heap.size W w') := ⟨fun W hW => by
            obtain ⟨S', h1⟩ := HTB.out
            rw [← hnl]
            exact dlen_any (h1 W hW)⟩
          have HNL := Bx.mk hnl
          clear hT' ho5 hb5 x5 hnl HENC HBR HU
          go_wp2_with fail
          go_loopg [9] nl (fun g s9 wx => ∃ k : Nat, k + g = nl ∧ s9 = .int .i64 k ∧ Bx (Below w5.heap.size w5 wx))
          case atStart => exact ⟨0, by omega, rfl, ⟨Below.refl _ _⟩⟩
          case round =>
            obtain ⟨j, hjg, rfl, HW⟩ := hrel
            go_wp2_with fail
            refine (ptable_any (HEK.out _ HW.out)).mono ?_
            rintro e w6 ⟨rfl, rfl⟩
            go_wp2_with fail
            refine (HLEN.out _ HW.out).mono ?_
            rintro e w6 ⟨rfl, b6⟩
            have HW6 := Bx.mk (HW.out.trans (b6.mono HW.out.size))
            clear b6
            cases gk with
            | zero =>
              obtain rfl : j = nl := by omega
              go_wp2_with fail
              go_ret
              exact ⟨rfl, HB5.out.trans (HW6.out.mono HB5.out.size)⟩
            | succ g =>
              have hj : j < nl := by omega
              have hjd : decide (j < nl) = true := decide_eq_true hj
              have hju : IntKind.u64.wrap (j : Int) = (j : Int) := by rw [IntKind.wrap_u64]; omega
              have hjl : j < T'.l.length := by rw [HNL.out]; exact hj
              have hmem : entN T'.l j ∈ T'.l := by unfold entN; rw [dif_pos hjl]; exact List.getElem_mem _
              have HSEC := Bx.mk (HNS.out _ hmem)
              have HISN : Bx (isN T'.l j = true) := ⟨by unfold isN; exact decide_eq_true hjl⟩
              obtain ⟨f1, hf1⟩ : ∃ f1, (entN T'.l j).1 = f1 := ⟨_, rfl⟩
              obtain ⟨f2, hf2⟩ : ∃ f2, (entN T'.l j).2 = f2 := ⟨_, rfl⟩
              have HAG : Bx (aggF (entN T'.l j) = .agg #[.string f1, .string f2]) := ⟨by unfold aggF; rw [hf1, hf2]⟩
              rw [hf1] at HSEC
              clear hjl hmem hf1 hf2
              go_wp2_with fail
              refine (ptable_any (HEK.out _ HW6.out)).mono ?_
              rintro e w7 ⟨rfl, rfl⟩
              go_wp2_with fail
              obtain ⟨S', hS'⟩ := HTB.out
              refine (newest_any (hS' _ HW6.out) j (by omega)).mono ?_
              rintro e w7 ⟨rfl, b7⟩
              rw [HAG.out, HISN.out]
              have HW7 := Bx.mk (HW6.out.trans (b7.mono HW6.out.size))
              have HF7 := Bx.mk (Fb.new 58 w7 (f1, f2))
              obtain ⟨c1, c2⟩ := HF7.out.cells
              have HW8 := Bx.mk (HW7.out.alloc HW7.out.size (.cells #[.string f1, .string f2] 58))
              clear b7 hS'
              go_wp2_with fail
              refine (refSecret_any f1 _).mono ?_
              rintro e w8 ⟨rfl, rfl⟩
              rw [HSEC.out]
              go_wp2_with fail
              go_roundg g
              case measure => omega
              case rel => exact ⟨j + 1, by omega, by go_num, HW8⟩
end Go.Proofs.Ythnaapjefedalaa
