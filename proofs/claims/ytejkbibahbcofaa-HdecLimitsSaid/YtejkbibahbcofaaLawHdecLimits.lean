/-
  bifoldlaw6.HdecLimits answers true, whatever its arguments: the walk.
-/
import Derived.Test.YtejkbibahbcofaaM25
import Derived.Test.YtejkbibahbcofaaM26
import Derived.Test.YtejkbibahbcofaaM27
import Derived.Handy
namespace Go.Proofs.Ytejkbibahbcofaa
open Go.RowKit Go.Maps
set_option linter.unusedVariables false

theorem OwB.lit (w : World) (cs : Array Value) (l : List UInt8) (hc : cs.toList = l.map bv) (hn : l.length ≤ 1000) : OwB (w.alloc (.cells cs 5)) w.heap.size (.slice (some ⟨w.heap.size, 0, none⟩) l.length l.length) l := by
  have hl : cs.size = l.length := by rw [← Array.length_toList, hc, List.length_map]
  have h := World.ownsRow_lit (base := w.heap.size) (e := 5) (size := 1) w cs l.length (Nat.le_refl _) (by unfold maxLen; omega) (by omega)
  rw [hc] at h
  unfold OwB
  rw [List.length_map]
  exact h
theorem Bs.of_row {w : World} {g n : Nat} {F : Nat → Value} {l : List UInt8} (h : w.rowIs g 5 n F) (hl : l.length = n) (hF : ∀ j u, (l.map bv)[j]? = some u → F j = u) (hn : n ≤ maxLen) : Bs w (.slice (some ⟨g, 0, none⟩) n n) l := by
  refine ⟨_, n, by rw [List.length_map, hl], by rw [List.length_map]; omega, hn, .inr ⟨_, rfl, fun j u hu => ?_⟩⟩
  have hj : j < (l.map bv).length := (List.getElem?_eq_some_iff.1 hu).1
  rw [List.length_map] at hj
  rw [Addr.add_lit, h.cell (by omega)]
  simp only [Nat.zero_add]
  rw [hF j u hu]
theorem bs_rep {w : World} {g n : Nat} {F : Nat → Value} (b : UInt8) (h : w.rowIs g 5 n F) (hF : ∀ j, j < n → F j = bv b) (hn : n ≤ maxLen) : Bs w (.slice (some ⟨g, 0, none⟩) n n) (List.replicate n b) :=
  Bs.of_row h (by simp) (fun j u hu => by
    have hj : j < ((List.replicate n b).map bv).length := (List.getElem?_eq_some_iff.1 hu).1
    simp only [List.length_map, List.length_replicate] at hj
    rw [hF j hj]
    simp [hj] at hu
    exact hu) hn
/-- The row's bytes behind k stores. -/
def zF (k j : Nat) : Value := if j < k then .int .u8 130 else .int .u8 0

set_option maxRecDepth 100000 in
set_option maxHeartbeats 4000000 in
theorem hdecLimits_walk (a0 : Int) (a1 : Bool) (w : World) (w0 : (Lit.int .u8 a0).wf = true) :
    Calls Try.prog 8 #[.int .u8 a0, .bool a1] w fun e w' => e = .returned (.bool true) ∧ Below w.heap.size w w' := by
  obtain ⟨i, rfl, hi⟩ := u8n w0
  clear w0
  obtain ⟨m, hm⟩ : ∃ m, i % 5 = m := ⟨_, rfl⟩
  have hm5 : m < 5 := by omega
  have hm1 : (i : Int) % 5 = (m : Int) := by omega
  have hm2 : (i : Int).tmod 5 = (m : Int) := by rw [Int.tmod_eq_emod_of_nonneg (by omega)]; exact hm1
  have hwm : IntKind.i64.wrap (m : Int) = (m : Int) := by simp only [IntKind.wrap_i64]; omega
  obtain ⟨kk, hkk⟩ : ∃ kk : Int, (m : Int) - 2 = kk := ⟨_, rfl⟩
  have hk1 : wrap64 ((m : Int) - 2) = kk := by unfold wrap64; omega
  have hk2 : IntKind.i64.wrap ((m : Int) - 2) = kk := by simp only [IntKind.wrap_i64]; omega
  obtain ⟨dk, hdk⟩ : ∃ dk, decide (kk ≤ 0) = dk := ⟨_, rfl⟩
  have hdk2 : decide (0 < kk) = !dk := by rw [← hdk, ← decide_not]; exact decide_eq_decide.2 (by omega)
  obtain ⟨i0, hi0, hz, hz1, hz2⟩ := info_parts infoU8
  have HI : Bx (Try.prog.info? 5 = some i0 ∧ i0.zero = some (.int .u8 0) ∧ i0.size = 1 ∧ i0.bytes = 1) := ⟨hi0, hz, hz1, hz2⟩
  have HM : Bx (m < 5 ∧ (dk = true ↔ m ≤ 2)) := ⟨hm5, by rw [← hdk, decide_eq_true_iff]; omega⟩
  have hnn : ((26 : Int) == 0) = false := rfl
  clear hm hi0 hz hz1 hz2 hi
  cases a1 with
  | true =>
    obtain ⟨n, hn⟩ : ∃ n, 4094 + m = n := ⟨_, rfl⟩
    have hn1 : wrap64 (4096 + kk) = (n : Int) := by unfold wrap64; omega
    have hn2 : IntKind.i64.wrap (4096 + kk) = (n : Int) := by simp only [IntKind.wrap_i64]; omega
    have hnu : IntKind.u64.wrap (n : Int) = (n : Int) := by simp only [IntKind.wrap_u64]; omega
    have hmk : ∀ W, (Instr.makeSlice 24 (.int .i64 (n : Int)) (.int .i64 (n : Int))).run Try.prog W = .ok (.slice (some ⟨W.heap.size, 0, none⟩) n n) (W.alloc (.cells (madeCells #[.int .u8 0] n) 5)) := fun W => run_make_row' 24 5 (.int .u8 0) 1 Try.underlying24 infoU8 rfl .i64 .i64 n (by omega) (by omega) W
    have HN : Bx (n = 4094 + m) := ⟨hn.symm⟩
    clear hn hkk
    go_enter Try.func8, Try.ntmps8
    go_wp2_with fail
    refine (hknown_any _).mono ?_
    rintro e w3 ⟨rfl, b3⟩
    have HB3 := Bx.mk b3
    clear b3
    go_wp2_with fail
    refine (OneP.new 4096 w3).mono ?_
    rintro e w4 ⟨q, t, rfl, h4, b4⟩
    rw [show clampN 4096 = 4096 from rfl, show Tab.new ((4096 : Nat) : Int) = Tab.new 4096 from rfl] at h4
    have HP4 := Bx.mk h4
    have HS4 := Bx.mk b4.size
    have HS3 := Bx.mk HB3.out.size
    have HB4 := Bx.mk (HB3.out.trans (b4.mono HB3.out.size))
    clear h4 b4 HB3
    go_wp2_with fail
    have hbs : Bs (w4.alloc (.cells (madeCells #[.int .u8 0] n) 5)) (.slice (some ⟨w4.heap.size, 0, none⟩) n n) (List.replicate n 0) := bs_rep 0 (World.rowIs_made w4 (.int .u8 0) n 5) (fun j hj => rfl) (by have := HN.out; unfold maxLen; omega)
    have hol := OwB.lit (w4.alloc (.cells (madeCells #[.int .u8 0] n) 5)) #[.int .u8 8] [8] rfl (by simp)
    have hb5 := (Below.refl w4.heap.size w4).alloc (Nat.le_refl _) (.cells (madeCells #[.int .u8 0] n) 5)
    obtain ⟨w5, hw5⟩ : ∃ w5, w4.alloc (.cells (madeCells #[.int .u8 0] n) 5) = w5 := ⟨_, rfl⟩
    have hsz5 : w4.heap.size + 1 = w5.heap.size := by rw [← hw5]; simp
    rw [hw5] at hbs hol hb5 ⊢
    rw [hsz5]
    have hb6 := (Below.refl w5.heap.size w5).alloc (Nat.le_refl _) (.cells #[.int .u8 8] 5)
    have hbs6 := hbs.keep hb6
    obtain ⟨w6, hw6⟩ : ∃ w6, w5.alloc (.cells #[.int .u8 8] 5) = w6 := ⟨_, rfl⟩
    rw [hw6] at hol hb6 hbs6 ⊢
    have HS6 : Bx (w4.heap.size ≤ w5.heap.size ∧ w5.heap.size ≤ w6.heap.size ∧ w4.heap.size < w5.heap.size) := ⟨by omega, by rw [← hw6]; simp, by omega⟩
    have HB6 : Bx (Below w4.heap.size w4 w6) := ⟨hb5.trans (hb6.mono HS6.out.1)⟩
    have HBS6 := Bx.mk hbs6
    have HOL := Bx.mk hol
    clear hw5 hsz5 hbs hbs6 hol hb5 hb6 hw6
    refine (refPrefix_own w5.heap.size _ [8] 0 7 n w6 HOL.out HS6.out.2.1 (by simp) (by have := HN.out; omega)).mono ?_
    rintro e w7 ⟨v7, rfl, ho7, b7⟩
    rw [show bitsOf 7 = 7 from rfl] at ho7
    have HO7 := Bx.mk ho7
    have HS7 : Bx (w5.heap.size ≤ w7.heap.size) := ⟨Nat.le_trans HS6.out.2.1 b7.size⟩
    have HB7 : Bx (Below w4.heap.size w4 w7) := ⟨HB6.out.trans (b7.mono HS6.out.1)⟩
    have hbs7 : Bs w7 (.slice (some ⟨w4.heap.size, 0, none⟩) n n) (List.replicate n 0) := Bs.blk (l := List.replicate n 0) HBS6.out fun g hg => by
      simp only [Value.ownBlock, Option.some.injEq] at hg
      subst hg
      exact b7.block _ HS6.out.2.2
    have HBS7 := Bx.mk hbs7
    have HL7 : Bx (([8] ++ pre 0 7 n).length ≤ 20) := ⟨by have := (pre_len 0 7 n).2; rw [List.length_append]; simp; omega⟩
    clear ho7 b7 hbs7
    go_wp2_with (at_builtin; refine wpList_append_og _ rfl _ _ 24 rfl w5.heap.size 5 i0 (.int .u8 0) 1 Try.underlying24 HI.out.1 HI.out.2.1 HI.out.2.2.1 HI.out.2.2.2 rfl _ _ _ _ rfl rfl HO7.out HBS7.out oneB (by have := HN.out; have := HL7.out; have := HM.out.1; simp only [List.length_map, List.length_replicate] at *; omega) (by have := HN.out; have := HL7.out; have := HM.out.1; unfold maxLen; simp only [List.length_map, List.length_replicate] at *; omega) HS7.out ?_; intro v8 w8 ho8 hb8 _; rw [← List.map_append] at ho8; have HO8 : Bx (OwB w8 w5.heap.size v8 (8 :: strP (List.replicate n 0))) := ⟨by unfold strP; rw [List.length_replicate]; exact ho8⟩; have HB8 : Bx (Below w4.heap.size w4 w8) := ⟨HB7.out.trans (hb8.mono HS6.out.1)⟩; obtain ⟨av, nv, cv, rfl⟩ : ∃ av nv cv, v8 = .slice av nv cv := ⟨_, _, _, (HO8.out.bs.choose_spec.choose_spec).1⟩; clear ho8 hb8)
    refine ((HP4.out.keep HB8.out).decode (Nat.le_trans HS4.out HB8.out.size) (gd_new 4096 (Nat.le_refl _)) (by simp [Tab.new]) (Nat.le_refl _) HO8.out.bs (by have := HN.out; have := HM.out.1; have := (pre_len 0 7 n).2; unfold strP; simp only [List.length_cons, List.length_append, List.length_replicate]; omega)).mono ?_
    rintro e w9 ⟨b9, hp9⟩
    have HB9 : Bx (Below w.heap.size w w9) := ⟨(HB4.out.trans (HB8.out.mono HB4.out.size)).trans (b9.mono HS3.out)⟩
    cases dk with
    | false =>
      rw [ldec_long (List.replicate n 0) 4096 (Tab.new 4096) (by have h1 : ¬ m ≤ 2 := fun h => Bool.noConfusion (HM.out.2.2 h); have := HN.out; rw [List.length_replicate]; omega) (by have := HN.out; have := HM.out.1; rw [List.length_replicate]; unfold maxVar; omega) rfl] at hp9
      obtain ⟨rfl, -⟩ := hp9
      clear b9
      go_wp2_with fail
      go_ret
      exact ⟨rfl, HB9.out⟩
    | true =>
      have hm2' : m ≤ 2 := HM.out.2.1 rfl
      have hk : kindF false 0 4 := .inr ⟨rfl, .inl rfl, rfl⟩
      have hd := hk.ldec 8 false [] (List.replicate n 0) 4096 (Tab.new 4096) (by unfold maxVar; omega) (by simp) (by have := HN.out; rw [List.length_replicate]; omega)
      rw [if_neg (by decide), if_pos (show idxB (Tab.new 4096).l 8 = true from rfl)] at hd
      rw [show (8 :: strP (List.replicate n 0) : List UInt8) = litW 0 4 8 false [] (List.replicate n 0) from rfl, hd] at hp9
      obtain ⟨v9, rfl, h9, -⟩ := hp9
      obtain ⟨nm, hnm⟩ : ∃ nm, (idxF (Tab.new 4096).l 8).1 = nm := ⟨_, rfl⟩
      obtain ⟨x, hx⟩ : ∃ x, bstr (List.replicate n 0) = x := ⟨_, rfl⟩
      have hxs : x.size = n := by rw [← hx]; simp [bstr, ByteArray.size]
      simp only [hnm, hx] at h9
      have HF := Bx.mk h9
      have hlen9 : ∀ ty W, (Builtin.len_ #[36] ty #[v9]).run Try.prog W = .ok (.int .i64 1) W := fun ty W => HF.out.run_len ty W
      obtain ⟨g3, o3, hix3, hc3⟩ := HF.out.at_ 0 (by simp)
      obtain ⟨q1, q2⟩ := hc3 w9 HF.out
      have hix30 : ∀ W : World, (Instr.indexAt 36 v9 (.int .i64 0)).run Try.prog W = .ok (.pointer (some ⟨g3, o3, none⟩)) W := fun W => hix3 .i64 W
      have q20 : w9.cell? ⟨g3, o3 + 1, none⟩ = some (.string x) := q2
      clear b9 h9 hnm hx hd hix3 hc3 q1 q2
      go_wp2_with fail
      go_ret
      exact ⟨by simp, HB9.out⟩
  | false =>
    obtain ⟨n, hn⟩ : ∃ n, 62 + m = n := ⟨_, rfl⟩
    have hn1 : wrap64 (64 + kk) = (n : Int) := by unfold wrap64; omega
    have hn2 : IntKind.i64.wrap (64 + kk) = (n : Int) := by simp only [IntKind.wrap_i64]; omega
    have hmk : ∀ W, (Instr.makeSlice 24 (.int .i64 (n : Int)) (.int .i64 (n : Int))).run Try.prog W = .ok (.slice (some ⟨W.heap.size, 0, none⟩) n n) (W.alloc (.cells (madeCells #[.int .u8 0] n) 5)) := fun W => run_make_row' 24 5 (.int .u8 0) 1 Try.underlying24 infoU8 rfl .i64 .i64 n (by omega) (by omega) W
    have HN : Bx (n = 62 + m) := ⟨hn.symm⟩
    clear hn hkk
    go_enter Try.func8, Try.ntmps8
    go_wp2_with fail
    refine (hknown_any _).mono ?_
    rintro e w3 ⟨rfl, b3⟩
    have HB3 := Bx.mk b3
    clear b3
    go_wp2_with fail
    refine (OneP.new 4096 w3).mono ?_
    rintro e w4 ⟨q, t, rfl, h4, b4⟩
    rw [show clampN 4096 = 4096 from rfl, show Tab.new ((4096 : Nat) : Int) = Tab.new 4096 from rfl] at h4
    have HP4 := Bx.mk h4
    have HS4 := Bx.mk b4.size
    have HS3 := Bx.mk HB3.out.size
    have HB4 := Bx.mk (HB3.out.trans (b4.mono HB3.out.size))
    clear h4 b4 HB3
    go_wp2_with fail
    have HR5 : Bx ((w4.alloc (.cells (madeCells #[.int .u8 0] n) 5)).rowIs w4.heap.size 5 n (zF 0)) := ⟨(World.rowIs_made w4 (.int .u8 0) n 5).congr fun j hj => rfl⟩
    have HB5 := Bx.mk ((Below.refl w4.heap.size w4).alloc (Nat.le_refl _) (.cells (madeCells #[.int .u8 0] n) 5))
    generalize w4.alloc (.cells (madeCells #[.int .u8 0] n) 5) = w5 at HR5 HB5 ⊢
    obtain ⟨G, hG⟩ : ∃ G, w4.heap.size = G := ⟨_, rfl⟩
    rw [hG] at HR5 HB5 ⊢
    have HG := Bx.mk hG
    clear hG
    have hlens : ∀ ty W, (Builtin.len_ #[24] ty #[.slice (some ⟨G, 0, none⟩) n n]).run Try.prog W = .ok (.int .i64 (n : Int)) W := fun ty W => by simp [Builtin.len_, run_underlying Try.underlying24, goInt]
    go_loopg [12] n (fun g s12 wx => ∃ k : Nat, k + g = n ∧ s12 = .int .i64 (k : Int) ∧ Bx (wx.rowIs G 5 n (zF k)) ∧ Bx (Below G w4 wx))
    case atStart => exact ⟨0, by omega, rfl, HR5, HB5⟩
    case round =>
      clear HR5 HB5
      obtain ⟨k, hkg, rfl, HR, HB⟩ := hrel
      cases gk with
      | zero =>
        have hkn : k = n := by omega
        subst hkn
        have hkk : decide (k < k) = false := decide_eq_false (by omega)
        have hbs : Bs wr (.slice (some ⟨G, 0, none⟩) k k) (List.replicate k 130) := bs_rep 130 HR.out (fun j hj => by unfold zF; rw [if_pos hj]; rfl) (by have := HN.out; have := HM.out.1; unfold maxLen; omega)
        have HBS := Bx.mk hbs
        clear hbs
        go_wp2_with fail
        have hb4 : Below w4.heap.size w4 wr := by have h := HB.out; rw [← HG.out] at h; exact h
        refine ((HP4.out.keep hb4).decode (Nat.le_trans HS4.out hb4.size) (gd_new 4096 (Nat.le_refl _)) (by simp [Tab.new]) (Nat.le_refl _) HBS.out (by have := HN.out; have := HM.out.1; rw [List.length_replicate]; omega)).mono ?_
        rintro e w9 ⟨b9, hp9⟩
        have HB9 : Bx (Below w.heap.size w w9) := ⟨(HB4.out.trans (hb4.mono HB4.out.size)).trans (b9.mono HS3.out)⟩
        have hrun := run_many 4096 (Tab.new 4096) [] [] k [] (by simp)
        have hd : ldec 4096 false (Tab.new 4096) (List.replicate k 130) = if k ≤ 64 then some ⟨Tab.new 4096, [], [], List.replicate k (entF T2 1 2), []⟩ else none := by
          unfold ldec
          rw [hrun]
          simp only [List.length_nil, Nat.zero_add, List.nil_append]
          by_cases h64 : k ≤ 64
          · simp only [if_pos h64]
            rw [if_neg (by simp)]
          · simp only [if_neg h64]
        rw [hd] at hp9
        cases dk with
        | false =>
          have h1 : ¬ m ≤ 2 := fun h => Bool.noConfusion (HM.out.2.2 h)
          rw [if_neg (by have := HN.out; omega)] at hp9
          obtain ⟨rfl, -⟩ := hp9
          clear b9 hb4
          go_wp2_with fail
          go_ret
          exact ⟨by simp, HB9.out⟩
        | true =>
          have h1 : m ≤ 2 := HM.out.2.1 rfl
          rw [if_pos (by have := HN.out; omega)] at hp9
          obtain ⟨v9, rfl, h9, -⟩ := hp9
          have HF := Bx.mk h9
          have hlen9 : ∀ ty W, (Builtin.len_ #[36] ty #[v9]).run Try.prog W = .ok (.int .i64 (k : Int)) W := fun ty W => by have := HF.out.run_len ty W; rwa [List.length_replicate] at this
          clear b9 h9 hd hrun hb4
          go_wp2_with fail
          go_ret
          exact ⟨by simp, HB9.out⟩
      | succ g =>
        have hkn : k < n := by omega
        have hk100 : k < 100 := by have := HN.out; have := HM.out.1; omega
        have hkk : decide (k < n) = true := decide_eq_true (by omega)
        have hcell := HR.out.cell hkn
        have hfz := HR.out.frozen k
        have hix : ∀ W, (Instr.indexAt 24 (.slice (some ⟨G, 0, none⟩) n n) (.int .i64 (k : Int))).run Try.prog W = .ok (.pointer (some ⟨G, k, none⟩)) W := fun W => by
          simp [Instr.indexAt, asIntOf, run_underlying Try.underlying24, Sem.run_bind, hkn, Result.andThen]
          simp [Addr.add]
          intro h; exact h.symm
        have HR2 : Bx ((wr.setCell ⟨G, k, none⟩ (.int .u8 130)).rowIs G 5 n (zF (k + 1))) := ⟨(HR.out.set k (.int .u8 130)).congr fun j hj => by
          unfold zF
          by_cases h : j = k
          · rw [if_pos h, if_pos (by omega)]
          · rw [if_neg h]
            by_cases h2 : j < k
            · rw [if_pos h2, if_pos (by omega)]
            · rw [if_neg h2, if_neg (by omega)]⟩
        have HB2 : Bx (Below G w4 (wr.setCell ⟨G, k, none⟩ (.int .u8 130))) := ⟨HB.out.trans ((Fp.set (fun j => j = G) wr ⟨G, k, none⟩ (.int .u8 130) rfl).below (by have := HR.out.lt; omega) (fun j hj => by omega))⟩
        go_wp2_with fail
        go_roundg g
        case measure => omega
        case rel => exact ⟨k + 1, by omega, by go_num, HR2, HB2⟩

end Go.Proofs.Ytejkbibahbcofaa
