/-
  The walk of DynGreat.
-/
import Derived.Test.YtjebemcghikgpaaDnL
import Derived.Test.YtjebemcghikgpaaConv
namespace Go.Proofs.Ytjebemcghikgpaa
open Go.RowKit Go.Maps
set_option linter.unusedVariables false

/-- A string of k zero bytes. -/
def Zs (k : Nat) : ByteArray := bstr (List.replicate k 0)
theorem zs_size (k : Nat) : (Zs k).size = k := by unfold Zs bstr; simp [ByteArray.size]
theorem zeros_bs {W : World} {g k : Nat} (h : W.rowIs g 5 k (fun _ => .int .u8 0)) (hk : k ≤ maxLen) : Bs W (.slice (some ⟨g, 0, none⟩) k k) (List.replicate k 0) := by
  refine ⟨some ⟨g, 0, none⟩, k, by simp, by simp, hk, .inr ⟨_, rfl, fun j u hu => ?_⟩⟩
  have hj : j < k := by have := (List.getElem?_eq_some_iff.1 hu).1; simpa using this
  rw [Addr.add_lit, Nat.zero_add, h.cell hj]
  have : ((List.replicate k (0 : UInt8)).map bv)[j]? = some (.int .u8 0) := by simp [hj, bv]
  rw [← hu, this]
theorem make_run (k : Nat) (hk : k ≤ 100000) (W : World) : (Instr.makeSlice 42 (.int .i64 (k : Int)) (.int .i64 (k : Int))).run Try.prog W = .ok (.slice (some ⟨W.heap.size, 0, none⟩) k k) (W.alloc (.cells (madeCells #[.int .u8 0] k) 5)) := by
  obtain ⟨i0, hi, hz, hz1, hz2⟩ : ∃ i0, Try.prog.info? 5 = some i0 ∧ i0.zero = some (.int .u8 0) ∧ i0.size = 1 ∧ i0.bytes = 1 := by
    have h := infoU8
    cases hi : Try.prog.info? 5 with
    | none => rw [hi] at h; simp at h
    | some i =>
      rw [hi] at h
      simp only [Option.map_some, Option.some.injEq, Prod.mk.injEq] at h
      exact ⟨i, rfl, h.1, h.2.1, h.2.2⟩
  have h := run_make (P := Try.prog) W 42 5 i0 (.int .u8 0) Try.underlying42 hi hz .i64 .i64 (k : Int) (k : Int) (by omega) (by omega) (by rw [hz2]; omega) (by omega)
  rw [hz1, Nat.mul_one, Int.toNat_natCast] at h
  exact h
theorem conv_run (k : Nat) (hk : k ≤ 100000) (W : World) : (convert 42 9 (.slice (some ⟨W.heap.size, 0, none⟩) k k)).run Try.prog (W.alloc (.cells (madeCells #[.int .u8 0] k) 5)) = .ok (.string (Zs k)) (W.alloc (.cells (madeCells #[.int .u8 0] k) 5)) :=
  conv_str (zeros_bs (World.rowIs_made W (.int .u8 0) k 5) (by unfold maxLen; omega))
theorem One.addLitg {B p : Nat} {T : Tab} {w : World} (h : One B p T w) (hB : B ≤ w.heap.size) (g : Nat) (hg : w.heap.size = g) (cs : Array Value) (fs : List Fd) (hc : cs.toList = fs.flatMap fvl) (hn : fs.length ≤ 1000) (ht : T.tot + fs.length ≤ 1000000) (hz : ∀ f ∈ fs, fsz f ≤ 1000000) :
    Calls Try.prog 13 #[.pointer (some ⟨p, 0, none⟩), .slice (some ⟨g, 0, none⟩) fs.length fs.length] (w.alloc (.cells cs 24)) fun e w' => e = .returned (.int .i64 (T.wents fs : Int)) ∧ One B p (T.adds fs) w' ∧ Below B w w' := by
  subst hg
  exact h.addLit hB cs fs hc hn ht hz
theorem great_nums {sz mr : Nat} (h : 33 ≤ sz ∧ sz ≤ 288) (h2 : mr < 3) : ∃ s1 k2 : Nat, wrap64 ((sz : Int) - 32) = (s1 : Int) ∧ wrap64 ((s1 : Int) + (mr : Int)) = (k2 : Int) ∧ k2 ≤ 1000 ∧ k2 + 32 = sz + mr :=
  ⟨sz - 32, sz - 32 + mr, by unfold wrap64; omega, by unfold wrap64; omega, by omega, by omega⟩
theorem fits_none {room : Int} (h : room ≤ 0) : ∀ l, fits room l = []
  | [] => rfl
  | f :: l => by unfold fits; rw [if_pos (by simp only [sizeF]; omega)]; exact fits_none h l

set_option maxRecDepth 100000 in
set_option maxHeartbeats 2000000 in
theorem dynGreat_walk (a b c : Int) (ha : (Lit.int .u8 a).wf = true) (hb : (Lit.int .u8 b).wf = true) (hc : (Lit.int .u8 c).wf = true) (w : World) :
    Calls Try.prog 5 #[.int .u8 a, .int .u8 b, .int .u8 c] w fun e w' => e = .returned (.bool true) ∧ Below w.heap.size w w' := by
  obtain ⟨n, rfl, hn⟩ := u8n ha
  obtain ⟨more, rfl, hm⟩ := u8n hb
  obtain ⟨few, rfl, hf⟩ := u8n hc
  clear ha hb hc
  obtain ⟨sz, hsz⟩ : ∃ sz, 33 + n = sz := ⟨_, rfl⟩
  have hwn : wrap64 (n : Int) = (n : Int) := by unfold wrap64; omega
  have hszi : wrap64 ((33 : Int) + (n : Int)) = (sz : Int) := by unfold wrap64; omega
  obtain ⟨fw, hfw⟩ : ∃ fw, few % 5 = fw := ⟨_, rfl⟩
  have hfwi : (few : Int) % 5 = (fw : Int) := by omega
  obtain ⟨mr, hmr⟩ : ∃ mr, more % 3 = mr := ⟨_, rfl⟩
  have hmri : (more : Int) % 3 = (mr : Int) := by omega
  have HSZ : Bx (33 ≤ sz ∧ sz ≤ 288) := ⟨by omega⟩
  have HFW : Bx (fw < 5) := ⟨by omega⟩
  have HMR : Bx (mr < 3) := ⟨by omega⟩
  have HSI := Bx.mk hszi
  clear hn hm hf hsz hfw hmr
  go_enter Try.func5, Try.ntmps5
  go_wp2_with fail
  refine (known_any w).mono ?_
  rintro e w1 ⟨rfl, b1⟩
  have B1 := Bx.mk b1
  clear b1
  go_wp2_with fail
  refine (One.new (sz : Int) (by have := HSZ.out; omega) w1).mono ?_
  rintro e w2 ⟨p, rfl, h2, b2⟩
  have H2 := Bx.mk h2
  have B2 := Bx.mk b2
  clear h2 b2 hszi hwn
  go_wp2_with fail
  go_loopg [9] fw (fun g s9 wx => ∃ (k : Nat) (T : Tab), k + g = fw ∧ s9 = .int .i64 k ∧ Bx (T.cap = sz) ∧ Bx (T.tot ≤ k) ∧ Bx (One w1.heap.size p T wx) ∧ Bx (Below w1.heap.size w1 wx))
  case atStart => exact ⟨0, _, by omega, rfl, ⟨by simp [Tab.new]⟩, ⟨Nat.le_refl _⟩, H2, B2⟩
  case round =>
    clear H2 B2
    obtain ⟨k, T, hkg, rfl, HC, HT, H3, B3⟩ := hrel
    cases gk with
    | zero =>
      obtain rfl : k = fw := by omega
      obtain ⟨s1, k2, hws, hwp, hk2b, hk2⟩ := great_nums HSZ.out HMR.out
      have hmk := make_run k2 (Nat.le_trans hk2b (by decide))
      have hcv := conv_run k2 (Nat.le_trans hk2b (by decide))
      have hszi := HSI.out
      have HK2 := Bx.mk hk2
      have HKB := Bx.mk hk2b
      clear hk2 hk2b
      go_wp2_with fail
      have hmz : Bx (One w1.heap.size p T (wr.alloc (.cells (madeCells #[.int .u8 0] k2) 5))) := ⟨H3.out.keep ((Below.refl _ _).alloc (Nat.le_refl _) _)⟩
      have hmb : Bx (Below w1.heap.size w1 (wr.alloc (.cells (madeCells #[.int .u8 0] k2) 5))) := ⟨B3.out.alloc B3.out.size _⟩
      refine (hmz.out.addLitg hmb.out.size _ (by simp) #[.string (Zs k2), .string ⟨#[]⟩] [(Zs k2, ⟨#[]⟩)] rfl (by simp) (by have := HT.out; have := HFW.out; simp only [List.length_singleton]; omega) (by intro f hf; rw [List.mem_singleton.1 hf]; unfold fsz; simp only [zs_size]; have := HKB.out; simp [ByteArray.size]; omega)).mono ?_
      rintro e w4 ⟨rfl, h4, b4⟩
      have HFS : Bx (fsz (Zs k2, (⟨#[]⟩ : ByteArray)) = k2) := ⟨by unfold fsz; simp only [zs_size]; rfl⟩
      have HA : Bx (T.adds [(Zs k2, ⟨#[]⟩)] = T.add (Zs k2, ⟨#[]⟩)) := ⟨rfl⟩
      rw [HA.out] at h4
      have hfn : fits (T.room (Zs k2, ⟨#[]⟩)) T.l = [] := fits_none (by unfold Tab.room; rw [HFS.out, HC.out]; have := HK2.out; omega) _
      have B4 := Bx.mk (hmb.out.trans b4)
      clear b4 hmz hmb hmk hcv hws hwp
      by_cases hz : mr = 0
      · have hadd : T.add (Zs k2, ⟨#[]⟩) = ⟨[(Zs k2, ⟨#[]⟩)], sz, T.tot + 1⟩ := by unfold Tab.add; rw [if_pos (by rw [HFS.out, HC.out]; have := HK2.out; omega), hfn, HC.out]; rfl
        rw [hadd] at h4
        have H4 := Bx.mk h4
        have HS4 : Bx (sizeF [(Zs k2, (⟨#[]⟩ : ByteArray))] = sz) := ⟨by simp only [sizeF]; rw [HFS.out]; have := HK2.out; omega⟩
        clear h4 hadd hfn
        subst hz
        go_wp2_with fail
        refine H4.out.len_.mono ?_
        rintro e w5 ⟨rfl, b5⟩
        rw [show (Tab.mk [(Zs k2, ⟨#[]⟩)] sz (T.tot + 1)).l.length = 1 from rfl]
        have H5 := Bx.mk (H4.out.keep b5)
        have B5 := Bx.mk (B4.out.trans (b5.mono B4.out.size))
        clear b5
        go_wp2_with fail
        refine H5.out.size_.mono ?_
        rintro e w6 ⟨rfl, b6⟩
        rw [show sizeF (Tab.mk [(Zs k2, ⟨#[]⟩)] sz (T.tot + 1)).l = sz from HS4.out]
        have B6 := Bx.mk (B5.out.trans (b6.mono B5.out.size))
        clear b6
        go_wp2_with fail
        go_ret
        exact ⟨rfl, B1.out.trans (B6.out.mono B1.out.size)⟩
      · have hadd : T.add (Zs k2, ⟨#[]⟩) = ⟨[], sz, T.tot⟩ := by unfold Tab.add; rw [if_neg (by rw [HFS.out, HC.out]; have := HK2.out; omega), hfn, HC.out]
        rw [hadd] at h4
        have H4 := Bx.mk h4
        have hz1 : ((mr : Int) == 0) = false := by simp; omega
        have hz2 : ¬ ((mr : Int) = 0) := by omega
        clear h4 hadd hfn
        go_wp2_with fail
        refine H4.out.len_.mono ?_
        rintro e w5 ⟨rfl, b5⟩
        rw [show (Tab.mk [] sz T.tot).l.length = 0 from rfl]
        have H5 := Bx.mk (H4.out.keep b5)
        have B5 := Bx.mk (B4.out.trans (b5.mono B4.out.size))
        clear b5
        go_wp2_with fail
        refine H5.out.size_.mono ?_
        rintro e w6 ⟨rfl, b6⟩
        rw [show sizeF (Tab.mk [] sz T.tot).l = 0 from rfl]
        have B6 := Bx.mk (B5.out.trans (b6.mono B5.out.size))
        clear b6
        go_wp2_with fail
        go_ret
        exact ⟨rfl, B1.out.trans (B6.out.mono B1.out.size)⟩
    | succ g =>
      have hk5 : k < 5 := by have := HFW.out; omega
      have hkl : (k : Int) < (fw : Int) := by omega
      have hmk := make_run k (by omega)
      have hcv := conv_run k (by omega)
      go_wp2_with fail
      have hmz : Bx (One w1.heap.size p T (wr.alloc (.cells (madeCells #[.int .u8 0] k) 5))) := ⟨H3.out.keep ((Below.refl _ _).alloc (Nat.le_refl _) _)⟩
      have hmb : Bx (Below w1.heap.size w1 (wr.alloc (.cells (madeCells #[.int .u8 0] k) 5))) := ⟨B3.out.alloc B3.out.size _⟩
      refine (hmz.out.addLitg hmb.out.size _ (by simp) #[.string ⟨#[]⟩, .string (Zs k)] [(⟨#[]⟩, Zs k)] rfl (by simp) (by have := HT.out; simp only [List.length_singleton]; omega) (by intro f hf; rw [List.mem_singleton.1 hf]; unfold fsz; simp only [zs_size]; simp [ByteArray.size]; omega)).mono ?_
      rintro e w4 ⟨rfl, h4, b4⟩
      have H4 : Bx (One w1.heap.size p (T.add (⟨#[]⟩, Zs k)) w4) := ⟨h4⟩
      have B4 := Bx.mk (hmb.out.trans b4)
      have HC4 : Bx ((T.add (⟨#[]⟩, Zs k)).cap = sz) := ⟨by rw [Tab.add_cap]; exact HC.out⟩
      have HT4 : Bx ((T.add (⟨#[]⟩, Zs k)).tot ≤ k + 1) := ⟨by have := T.add_tot_le (⟨#[]⟩, Zs k); have := HT.out; omega⟩
      clear h4 b4 hmz hmb hmk hcv
      go_wp2_with fail
      go_roundg g
      case measure => omega
      case rel => exact ⟨k + 1, _, by omega, by go_num, HC4, HT4, H4, B4⟩

end Go.Proofs.Ytjebemcghikgpaa
