/-
  Texts put together: DnE, Conv, OwB, OwN, Wd, DnF, DnG, DnI.
-/
import Derived.Test.YthnaapjefedalaaM03
import Derived.Lib.MinMax
import Derived.Test.YthnaapjefedalaaM01
import Derived.Test.YthnaapjefedalaaRows
import Derived.Laws.BytesArg
import Derived.Lib.AppendStr
import Derived.Deep.OwnRows

/-
  Contracts of the table's New, Resize, Add.
-/
namespace Go.Proofs.Ythnaapjefedalaa
open Go.RowKit Go.Maps
set_option linter.unusedVariables false
set_option linter.unusedSimpArgs false

theorem Rn.keepB {k : Nat} {w w' : World} {v : Value} {n : Nat} {xs : List Value} (h : Rn k w v n xs) (hb : ∀ g, v.ownBlock = some g → w'.heap[g]? = w.heap[g]?) : Rn k w' v n xs := by
  obtain ⟨A, c, rfl, h1, h2, hl, h3⟩ := h
  refine ⟨A, c, rfl, h1, h2, hl, h3.imp id ?_⟩
  rintro ⟨x, rfl, hc⟩
  refine ⟨x, rfl, fun j u hu => ?_⟩
  rw [World.cell?_of_block (w := w) (by
    have : (x.add j).block = x.block := by unfold Addr.add; split <;> rfl
    rw [this]
    exact hb x.block rfl)]
  exact hc j u hu
theorem Fs.besides {S : Nat → Prop} {w w' : World} {v : Value} {l : List Fd} (h : Fs w v l) (hf : Fp S w w') (hs : ∀ g, v.ownBlock = some g → g < w.heap.size ∧ ¬ S g) : Fs w' v l :=
  Rn.keepB h fun g hg => hf.block g (hs g hg).1 (hs g hg).2
theorem Fb.besides {S : Nat → Prop} {t : TypeId} {w w' : World} {g : Nat} {f : Fd} (h : Fb t w g f) (hf : Fp S w w') (hs : ¬ S g) : Fb t w' g f := by
  unfold Fb; rw [hf.block g h.lt hs]; exact h
theorem Tb.cells {p : Nat} {T : Tab} {w : World} {S : Nat → Prop} (h : Tb p T w S) : w.cell? ⟨p, 4, none⟩ = some (.int .i64 (T.cap : Int)) ∧ w.frozen? ⟨p, 4, none⟩ = false := by
  obtain ⟨v, bw, bn, Dw, Dn, h1, _⟩ := h
  exact ⟨h1.cells.2.2.2.2.1, h1.free 4⟩
theorem Tb.setCap {p : Nat} {T : Tab} {w : World} {S : Nat → Prop} (h : Tb p T w S) (n : Nat) (hn : n ≤ 1000000) : Turn (Tb p ⟨T.l, n, T.tot⟩) S w (w.setCell ⟨p, 4, none⟩ (.int .i64 (n : Int))) := by
  obtain ⟨v, bw, bn, Dw, Dn, h1, h2, h3, h4, h5, h6⟩ := h
  exact ⟨S, ⟨v, bw, bn, Dw, Dn, h1.setCp n, h2, h3, h4, fun k hk => by simp [World.setCell]; exact h5 k hk, ⟨h6.len, h6.size, hn, h6.tot⟩⟩, fun k hk => .inl hk, Fp.set _ _ _ _ h4.1⟩

def Tab.adds : Tab → List Fd → Tab
  | T, [] => T
  | T, f :: l => (T.add f).adds l
def Tab.wents : Tab → List Fd → Nat
  | T, [] => 0
  | T, f :: l => T.went (T.room f) + (T.add f).wents l
theorem Tab.went_le {T : Tab} (h : T.ok) (r : Int) : T.went r ≤ 31250 := by have := h.short; unfold Tab.went; omega

set_option maxRecDepth 100000 in
set_option maxHeartbeats 1000000 in
theorem new_any (n : Int) (w : World) (hn : n ≤ 1000000) :
    Calls Try.prog 27 #[.int .i64 n] w fun e w' => ∃ p S, e = .returned (.pointer (some ⟨p, 0, none⟩)) ∧ Tb p (Tab.new n) w' S ∧ (∀ k, S k → w.heap.size ≤ k) ∧ Below w.heap.size w w' := by
  have hmw : ∀ (W : World), (Instr.makeMap 81 none).run Try.prog W = .ok (.map (some W.heap.size)) (W.alloc (.map #[] 0)) := fun W => by
    simp [Instr.makeMap, run_underlying Try.underlying81, Sem.run_bind, asInt, asIntOf, Result.andThen]
  have hmn : ∀ (W : World), (Instr.makeMap 82 none).run Try.prog W = .ok (.map (some W.heap.size)) (W.alloc (.map #[] 0)) := fun W => by
    simp [Instr.makeMap, run_underlying Try.underlying82, Sem.run_bind, asInt, asIntOf, Result.andThen]
  have HN := Bx.mk hn
  clear hn
  go_enter Try.func27, Try.ntmps27
  go_wp2
  go_ret
  have hmx : max n 0 = ((n.toNat : Nat) : Int) := by omega
  rw [hmx]
  generalize hw1 : (w.alloc (.map #[] 0)).alloc (.map #[] 0) = w1
  have hsz : w1.heap.size = w.heap.size + 1 + 1 := by rw [← hw1]; simp
  have hB1 : Below w.heap.size w w1 := by rw [← hw1]; exact ((Below.refl w.heap.size w).alloc (Nat.le_refl _) _).alloc (by simp) _
  have ho1 : w1.ownsMap Try.prog 58 (plainElem Try.prog 39) w.heap.size 0 (.map [] : DataW Unit) := by rw [← hw1]; exact (World.ownsMap_made w _ _ _).alloc _
  have ho2 : w1.ownsMap Try.prog 9 (plainElem Try.prog 39) (w.heap.size + 1) 0 (.map [] : DataW Unit) := by
    have := World.ownsMap_made (H := Unit) (w.alloc (.map #[] 0)) Try.prog 9 (plainElem Try.prog 39)
    rw [← hw1]
    simpa using this
  have hrow := World.rowIs_alloc w1 #[.slice none 0 0, .map (some w.heap.size), .map (some (w.heap.size + 1)), .int .i64 0, .int .i64 (n.toNat : Int), .int .u64 0] 84 (tF (.slice none 0 0) w.heap.size (w.heap.size + 1) 0 n.toNat 0) (fun j hj => by
    have : j < 6 := hj
    unfold tF
    match j, this with
    | 0, _ => rfl
    | 1, _ => rfl
    | 2, _ => rfl
    | 3, _ => rfl
    | 4, _ => rfl
    | 5, _ => rfl)
  rw [hsz] at hrow
  have HN := HN.out
  refine ⟨w.heap.size + 1 + 1, fun k => w.heap.size ≤ k ∧ k < w.heap.size + 1 + 1 + 1, rfl, ⟨.slice none 0 0, w.heap.size, w.heap.size + 1, .map [], .map [], ⟨hrow, St.nil _, ho1.alloc _, ho2.alloc _, by omega, fun k hk => by simp [Value.ownBlock] at hk⟩, Mp.nil _ _ _ _, Mp.nil _ _ _ _,
    ⟨by omega, by omega, by omega, fun k hk => by simp [Value.ownBlock] at hk⟩, fun k hk => by simp [hsz]; omega, Tab.new_ok HN⟩, fun k hk => hk.1, hB1.alloc hB1.size _⟩

set_option maxRecDepth 100000 in
set_option maxHeartbeats 1000000 in
theorem resize_any {p : Nat} {T : Tab} {w : World} {S : Nat → Prop} (h : Tb p T w S) (n : Int) (hn : n ≤ 1000000) :
    Calls Try.prog 44 #[.pointer (some ⟨p, 0, none⟩), .int .i64 n] w fun e w' => e = .returned (.int .i64 (T.went (n.toNat : Int) : Int)) ∧ Turn (Tb p (T.resize n)) S w w' := by
  have HT := Bx.mk h
  obtain ⟨c4, f4⟩ := h.cells
  have HN := Bx.mk hn
  clear h hn
  go_enter Try.func44, Try.ntmps44
  have hmx : max n 0 = ((n.toNat : Nat) : Int) := by omega
  have HMX := Bx.mk hmx
  obtain ⟨R, hR⟩ : ∃ R, T.went (n.toNat : Int) = R := ⟨_, rfl⟩
  rw [hR]
  have HRR := Bx.mk hR
  clear hmx hR
  go_wp2_with fail
  rw [HMX.out]
  have HT1 := HT.out.setCap n.toNat (by have := HN.out; omega)
  obtain ⟨S1, x1, s1, g1⟩ := HT1
  refine (shrink_any x1 (n.toNat : Int)).mono ?_
  rintro e w2 ⟨rfl, ht⟩
  rw [show Tab.went ⟨T.l, n.toNat, T.tot⟩ (n.toNat : Int) = R from HRR.out]
  have HT2 := Bx.mk (Turn.step s1 g1 ht)
  clear ht x1 s1 g1 c4 f4
  go_wp2
  go_ret
  exact ⟨rfl, HT2.out⟩

theorem Tab.add_fit (T : Tab) (f : Fd) (hc : fsz f + 32 ≤ T.cap) : sizeF (fits (T.room f) T.l) + (fsz f + 32) ≤ T.cap := by
  have := T.add_size f hc
  rw [sizeF_append] at this
  simpa [sizeF] using this

set_option maxRecDepth 100000 in
set_option maxHeartbeats 1000000 in
theorem add_gen {p : Nat} {T : Tab} {w : World} {S : Nat → Prop} {v : Value} {fs : List Fd} (h : Tb p T w S) (hv0 : ∀ W, Fp S w W → Fs W v fs) (ht : T.tot + fs.length ≤ 1000000) (hz : ∀ f ∈ fs, fsz f ≤ 1000000) :
    Calls Try.prog 55 #[.pointer (some ⟨p, 0, none⟩), v] w fun e w' => e = .returned (.int .i64 (T.wents fs : Int)) ∧ Turn (Tb p (T.adds fs)) S w w' := by
  have HT := Bx.mk h
  have HV := Bx.mk hv0
  have hv := hv0 w (Fp.refl _ _)
  have HV0 := Bx.mk hv
  have HTT := Bx.mk ht
  have HZ := Bx.mk hz
  have hlen := fun ty W => hv.run_len ty W
  clear h hv hv0 ht hz
  go_enter Try.func55, Try.ntmps55
  go_wp2
  go_loopg [5, 11] fs.length (fun g s5 s11 wx => ∃ (k r : Nat) (T1 : Tab), k + g = fs.length ∧ s11 = .int .i64 k ∧ s5 = .int .i64 r ∧ Bx (r + T1.wents (fs.drop k) = T.wents fs) ∧ r ≤ 31250 * k ∧ Bx (T1.adds (fs.drop k) = T.adds fs) ∧ Bx (T1.tot + (fs.drop k).length ≤ 1000000) ∧ Bx (Turn (Tb p T1) S w wx))
  case atStart => exact ⟨0, 0, T, by omega, rfl, rfl, ⟨by simp⟩, by omega, ⟨rfl⟩, HTT, ⟨Turn.refl HT.out (Below.refl _ _)⟩⟩
  case round =>
    obtain ⟨k, r, T1, hkg, rfl, rfl, HR, hrk, HA, HTO, HTU⟩ := hrel
    cases gk with
    | zero =>
      obtain rfl : k = fs.length := by omega
      have HR2 : Bx (r = T.wents fs) := ⟨by have := HR.out; rw [List.drop_length] at this; simpa [Tab.wents] using this⟩
      have HA2 : Bx (T1 = T.adds fs) := ⟨by have := HA.out; rw [List.drop_length] at this; simpa [Tab.adds] using this⟩
      go_wp2
      go_ret
      rw [← HR2.out, ← HA2.out]
      exact ⟨rfl, HTU.out⟩
    | succ g =>
      have hk : k < fs.length := by omega
      obtain ⟨S1, x1, s1, g1⟩ := HTU.out
      obtain ⟨b, o, hix, hcs⟩ := HV0.out.at_ k hk
      obtain ⟨hc1, hc2⟩ := hcs wr (HV.out wr g1)
      have hdrop : fs.drop k = fs[k] :: fs.drop (k + 1) := List.drop_eq_getElem_cons hk
      have HFZ := Bx.mk (HZ.out fs[k] (List.getElem_mem hk))
      rw [hdrop] at HR HA HTO
      obtain ⟨f1, hf1⟩ : ∃ f1, fs[k].1 = f1 := ⟨_, rfl⟩
      obtain ⟨f2, hf2⟩ : ∃ f2, fs[k].2 = f2 := ⟨_, rfl⟩
      rw [hf1] at hc1
      rw [hf2] at hc2
      rw [show fs[k] = (f1, f2) from by rw [← hf1, ← hf2]] at HR HA HTO HFZ
      have HX1 := Bx.mk x1
      have HS1 := Bx.mk s1
      have HG1 := Bx.mk g1
      have hkl : k ≤ 1000000 := by have := HTT.out; omega
      clear hf1 hf2 hcs hdrop x1 s1 g1
      go_wp2_with fail
      obtain ⟨n1, hn1⟩ : ∃ n1, fsz (f1, f2) + 32 = n1 := ⟨_, rfl⟩
      refine (size_any _ [(f1, f2)] _ (Fs.one (wr.alloc (.cells #[.string f1, .string f2] 58)) _ (by simp) (f1, f2)) (by have := HFZ.out; simp only [sizeF]; omega)).mono ?_
      rintro e w2 ⟨rfl, hb2⟩
      rw [show sizeF [(f1, f2)] = n1 by rw [← hn1]; simp [sizeF]]
      have HN1 := Bx.mk hn1
      have hB2 : Below wr.heap.size wr w2 := (((Below.refl wr.heap.size wr).alloc (Nat.le_refl _) _).alloc (by simp) _).trans (hb2.mono (by simp; omega))
      have HF2 := Bx.mk (((Fb.new 58 wr (f1, f2)).alloc (.cells #[.string f1, .string f2] 58)).keep hb2)
      have HX2 := Bx.mk (HX1.out.keep hB2)
      have HB2 := Bx.mk hB2
      obtain ⟨c4, f4⟩ := HX2.out.cells
      have hcap := HX2.out.ok.cap
      have hnb : n1 ≤ 1000032 := by have := HFZ.out; have := HN1.out; omega
      have hws : IntKind.i64.wrap ((T1.cap : Int) - (n1 : Int)) = (T1.cap : Int) - (n1 : Int) := by simp only [IntKind.wrap_i64]; omega
      clear hn1 hb2 hB2 hc1 hc2
      go_wp2_with fail
      have hroom : (T1.cap : Int) - (n1 : Int) = T1.room (f1, f2) := by unfold Tab.room; rw [← HN1.out]
      rw [hroom]
      refine (shrink_any HX2.out (T1.room (f1, f2))).mono ?_
      rintro e w3 ⟨rfl, ht3⟩
      obtain ⟨q, hq⟩ : ∃ q, T1.went (T1.room (f1, f2)) = q := ⟨_, rfl⟩
      have hqle : q ≤ 31250 := by rw [← hq]; exact Tab.went_le HX2.out.ok _
      rw [hq]
      have HQ := Bx.mk hq
      obtain ⟨S3, x3, s3, g3⟩ := ht3
      have hnS : ¬ S1 wr.heap.size := fun hc => Nat.lt_irrefl _ (HX1.out.lt _ hc)
      have HF3 := Bx.mk (HF2.out.besides g3 hnS)
      have HX3 := Bx.mk x3
      have hT3 : Turn (Tb p ⟨fits (T1.room (f1, f2)) T1.l, T1.cap, T1.tot⟩) S w w3 := Turn.step HS1.out (HG1.out.then (Fp.of_below HB2.out)) ⟨S3, x3, s3, g3⟩
      have HT3 := Bx.mk hT3
      have hs3 : ∀ k, S3 k → S k ∨ w.heap.size ≤ k := fun k hk => (s3 k hk).elim (HS1.out k) fun h => .inr (Nat.le_trans HG1.out.size (Nat.le_trans HB2.out.size h))
      have hg3 : Fp S w w3 := (HG1.out.then (Fp.of_below HB2.out)).trans g3 HS1.out
      have HS3 := Bx.mk hs3
      have HG3 := Bx.mk hg3
      obtain ⟨c4', f4'⟩ := HX3.out.cells
      obtain ⟨e1, e2⟩ := HF3.out.cells
      have hwr : IntKind.i64.wrap ((r : Int) + (q : Int)) = ((r + q : Nat) : Int) := by simp only [IntKind.wrap_i64]; omega
      have HTO2 : Bx ((T1.add (f1, f2)).tot + (fs.drop (k + 1)).length ≤ 1000000) := ⟨by have h1 := HTO.out; have h2 := T1.add_tot_le (f1, f2); simp only [List.length_cons] at h1; omega⟩
      have HR2 : Bx (r + q + (T1.add (f1, f2)).wents (fs.drop (k + 1)) = T.wents fs) := ⟨by have h := HR.out; rw [Tab.wents, HQ.out] at h; omega⟩
      have HA2 : Bx ((T1.add (f1, f2)).adds (fs.drop (k + 1)) = T.adds fs) := ⟨by have h := HA.out; rw [Tab.adds] at h; exact h⟩
      have HT1O := Bx.mk (show T1.tot + 1 ≤ 1000000 by have h1 := HTO.out; simp only [List.length_cons] at h1; omega)
      clear hq hT3 x3 s3 g3 hs3 hg3 HR HA HTO HTU HX1 HS1 HG1 HX2 HF2 HB2 c4 f4 hws hroom hnS
      by_cases hle : n1 ≤ T1.cap
      · have hd1 : decide ((n1 : Int) ≤ (T1.cap : Int)) = true := decide_eq_true (by omega)
        have hd2 : decide (n1 ≤ T1.cap) = true := decide_eq_true hle
        have hc : fsz (f1, f2) + 32 ≤ T1.cap := by rw [HN1.out]; exact hle
        have hadd : T1.add (f1, f2) = ⟨fits (T1.room (f1, f2)) T1.l ++ [(f1, f2)], T1.cap, T1.tot + 1⟩ := by unfold Tab.add; rw [if_pos hc]
        have HAD := Bx.mk hadd
        have HFI := Bx.mk (T1.add_fit (f1, f2) hc)
        have HCAP := Bx.mk hcap
        clear hadd hle hc hcap
        go_wp2_with fail
        refine (enter_turn (f := (f1, f2)) HX3.out HT1O.out (by have h1 := HFI.out; have h2 := HCAP.out; show sizeF (fits (T1.room (f1, f2)) T1.l) + _ ≤ _; omega)).mono ?_
        rintro e w4 ⟨rfl, ht4⟩
        have HT4 : Bx (Turn (Tb p (T1.add (f1, f2))) S w w4) := ⟨by rw [HAD.out]; exact Turn.step HS3.out HG3.out ht4⟩
        clear ht4
        go_wp2
        go_roundg g
        case measure => omega
        case rel => exact ⟨k + 1, r + q, _, by omega, by go_num, rfl, HR2, by omega, HA2, HTO2, HT4⟩
      · have hd1 : decide ((n1 : Int) ≤ (T1.cap : Int)) = false := decide_eq_false (by omega)
        have hd2 : decide (n1 ≤ T1.cap) = false := decide_eq_false hle
        have hadd : T1.add (f1, f2) = ⟨fits (T1.room (f1, f2)) T1.l, T1.cap, T1.tot⟩ := by unfold Tab.add; rw [if_neg (by rw [HN1.out]; exact hle)]
        have HT4 : Bx (Turn (Tb p (T1.add (f1, f2))) S w w3) := ⟨by rw [hadd]; exact HT3.out⟩
        clear hadd hle hcap
        go_wp2_with fail
        go_roundg g
        case measure => omega
        case rel => exact ⟨k + 1, r + q, _, by omega, by go_num, rfl, HR2, by omega, HA2, HTO2, HT4⟩

theorem add_any {p : Nat} {T : Tab} {w : World} {S : Nat → Prop} {v : Value} {fs : List Fd} (h : Tb p T w S) (hv : Fs w v fs) (hs : ∀ g, v.ownBlock = some g → g < w.heap.size ∧ ¬ S g) (ht : T.tot + fs.length ≤ 1000000) (hz : ∀ f ∈ fs, fsz f ≤ 1000000) :
    Calls Try.prog 55 #[.pointer (some ⟨p, 0, none⟩), v] w fun e w' => e = .returned (.int .i64 (T.wents fs : Int)) ∧ Turn (Tb p (T.adds fs)) S w w' :=
  add_gen h (fun W hf => hv.besides hf hs) ht hz

end Go.Proofs.Ythnaapjefedalaa

/-
  A slice of bytes made a string; the byte type's row.
-/
namespace Go.Proofs.Ythnaapjefedalaa
open Go.RowKit
set_option linter.unusedVariables false

theorem infoU8 : (Try.prog.info? 5).map (fun i => (i.zero, i.size, i.bytes)) = some (some (.int .u8 0), 1, 1) := by kernel_rfl

/-- The string of some bytes. -/
def bstr (l : List UInt8) : ByteArray := ⟨l.toArray⟩
theorem bstr_inj {a b : List UInt8} (h : bstr a = bstr b) : a = b := by
  unfold bstr at h
  injection h with h
  exact List.toArray_inj h

set_option maxRecDepth 100000 in
theorem conv_str {w : World} {v : Value} {l : List UInt8} (h : Bs w v l) : (convert 33 9 v).run Try.prog w = .ok (.string (bstr l)) w := by
  rcases Nat.eq_zero_or_pos l.length with h0 | h0
  · obtain rfl : l = [] := List.eq_nil_of_length_eq_zero h0
    obtain ⟨A, c, rfl, h1, h2, h3⟩ := h
    rcases h3 with ⟨rfl, rfl⟩ | ⟨x, rfl, _⟩
    · exact run_convert_bytes_nil (P := Try.prog) w 33 5 Try.underlying33 Try.underlying5 _ _ 9 Try.underlying9
    · rw [run_convert_bytes_string w 33 9 5 _ _ _ Try.underlying33 Try.underlying5 Try.underlying9]
      have := run_bytesToString (P := Try.prog) w x 0 c [] (by simp [loadCells, loadCellsFrom])
      exact this
  · obtain ⟨b, o, c, rfl, h1, h2, h3, hc⟩ := Rd.at_ h (by simpa using h0)
    rw [List.length_map]
    have := run_convert_bytes_arg (P := Try.prog) w 33 5 Try.underlying33 Try.underlying5 b o l.length c (l.map fun x => (x.toNat : Int)) (by simp) (fun i hi => by
      have := hc i (.int .u8 (l[i].toNat : Int)) (by simp [bv, hi])
      rw [this]
      simp [List.getD, hi]) 9 Try.underlying9
    rw [this]
    congr 2
    unfold strOfNums bstr
    congr 2
    rw [List.map_map]
    conv => rhs; rw [← List.map_id l]
    apply List.map_congr_left
    intro x _
    simp

theorem snoc_any {w : World} {B : Nat} {x : Value} {l : List UInt8} {n : Int} (h : Ap w B 5 x (l.map bv ++ #[Value.int .u8 n].toList)) (b : UInt8) (hb : n = (b.toNat : Int)) : ApB w B x (l ++ [b]) := by
  unfold ApB
  rw [List.map_append, List.map_cons, List.map_nil]
  subst hb
  exact h
theorem byte_nat {n : Nat} (h : n < 256) : (n : Int) = ((UInt8.ofNat n).toNat : Int) := by
  rw [UInt8.toNat_ofNat', Nat.mod_eq_of_lt (by have : (2:Nat) ^ 8 = 256 := rfl; omega)]

end Go.Proofs.Ythnaapjefedalaa

/-
  Byte rows of their own: appended to, by bytes and by strings; read, stored into.
-/
namespace Go.Proofs.Ythnaapjefedalaa
open Go.RowKit
set_option linter.unusedVariables false

/-- The bytes l in a row of its own, from block B on (or nil). -/
def OwB (w : World) (B : Nat) (v : Value) (l : List UInt8) : Prop := w.ownsRow B 5 1 v (l.map bv).length (l.map bv)
section
variable {w w' : World} {B : Nat} {v : Value} {l : List UInt8}
theorem OwB.nil (w : World) (B : Nat) : OwB w B (.slice none 0 0) [] := World.ownsRow_nil w B 5 1
theorem OwB.apB (h : OwB w B v l) : ApB w B v l := .inl h
theorem OwB.bs (h : OwB w B v l) : Bs w v l := Rd.of_own h
theorem OwB.lt (h : OwB w B v l) {k : Nat} (hk : v.ownBlock = some k) : k < w.heap.size := by
  rcases h.2 with ⟨rfl, _⟩ | ⟨g, cap, cur, rfl, hg, hh, rest⟩
  · simp [Value.ownBlock] at hk
  · simp only [Value.ownBlock, Option.some.injEq] at hk
    subst hk
    exact (Array.getElem?_eq_some_iff.1 hh).1
theorem OwB.ge (h : OwB w B v l) {k : Nat} (hk : v.ownBlock = some k) : B ≤ k := by
  rcases h.2 with ⟨rfl, _⟩ | ⟨g, cap, cur, rfl, hg, hh, rest⟩
  · simp [Value.ownBlock] at hk
  · simp only [Value.ownBlock, Option.some.injEq] at hk
    subst hk
    exact hg
theorem OwB.kept (h : OwB w B v l) (hb : ∀ k, v.ownBlock = some k → w'.heap[k]? = w.heap[k]?) : OwB w' B v l := by
  refine ⟨h.1, ?_⟩
  rcases h.2 with h0 | ⟨g, cap, cur, rfl, hg, hh, rest⟩
  · exact .inl h0
  · exact .inr ⟨g, cap, cur, rfl, hg, by rw [hb g rfl]; exact hh, rest⟩
theorem OwB.keep (h : OwB w B v l) (hb : Below w.heap.size w w') : OwB w' B v l := h.kept fun k hk => hb.block k (h.lt hk)
theorem OwB.alloc (h : OwB w B v l) (o : Obj) : OwB (w.alloc o) B v l := h.keep ((Below.refl _ _).alloc (Nat.le_refl _) o)
theorem OwB.drew (h : OwB w B v l) : OwB w.drew B v l := h.keep (Below.refl _ _).drew
theorem OwB.mono {B' : Nat} (h : OwB w B v l) (hB : B' ≤ B) : OwB w B' v l := by
  refine ⟨h.1, h.2.imp id ?_⟩
  rintro ⟨g, cap, cur, a, b, c⟩
  exact ⟨g, cap, cur, a, by omega, c⟩
/-- A block of another type is another block. -/
theorem OwB.ne (h : OwB w B v l) {g : Nat} {t : TypeId} {n : Nat} {F : Nat → Value} (hr : w.rowIs g t n F) (ht : t ≠ 5) : v.ownBlock ≠ some g := by
  intro e
  obtain ⟨c, hc, _⟩ := hr
  rcases h.2 with ⟨rfl, _⟩ | ⟨g', cap, cur, rfl, hg, hh, rest⟩
  · simp [Value.ownBlock] at e
  · simp only [Value.ownBlock, Option.some.injEq] at e
    subst e
    rw [hc] at hh
    injection hh with hh
    injection hh with _ h2 _
    exact ht h2
theorem oneB {l : List UInt8} : ∀ x ∈ l.map bv, x.oneCell' = true := one_bv
theorem OwB.snoc {n : Int} {x : Value} (h : w.ownsRow B 5 1 x (l.map bv ++ #[Value.int .u8 n].toList).length (l.map bv ++ #[Value.int .u8 n].toList)) (b : UInt8) (hb : n = (b.toNat : Int)) : OwB w B x (l ++ [b]) := by
  unfold OwB
  rw [List.map_append, List.map_cons, List.map_nil]
  subst hb
  exact h
theorem OwB.str {n : Nat} {x : Value} {s : ByteArray} (h : w.ownsRow B 5 1 x n (l.map bv ++ Lib.strCells s)) : OwB w B x (l ++ s.data.toList) := by
  have e : l.map bv ++ Lib.strCells s = (l ++ s.data.toList).map bv := by rw [List.map_append]; rfl
  rw [e] at h
  have hn : n = ((l ++ s.data.toList).map bv).length := by have := h.1; omega
  subst hn
  exact h
end
section
variable {P : Program} (w : World)
/-- An append to a row of its own: a row of its own; what else stood stands. -/
theorem run_append_og (B : Nat) (t ty e : TypeId) (i : TypeInfo) (z : Value) (bytes : Nat) (ht : P.underlying t = some (.slice e)) (hi : P.info? e = some i) (hz : i.zero = some z)
    (hsize : i.size = 1) (hby : i.bytes = bytes) (hzs : z.cells.size = 1)
    (v u : Value) (xs news : List Value) (hv : w.ownsRow B e 1 v xs.length xs) (hu : Rd w u news) (h1 : ∀ x ∈ news, x.oneCell' = true)
    (hbytes : (xs.length + news.length) * bytes ≤ 140737488355328) (hmax : xs.length + news.length ≤ maxLen) (hB : B ≤ w.heap.size) :
    ∃ v' w', (Builtin.append_ #[t, t] ty #[v, u]).run P w = .ok v' w' ∧ w'.ownsRow B e 1 v' (xs ++ news).length (xs ++ news) ∧ Below B w w' ∧ w.grownBy w' v.ownBlock := by
  obtain ⟨Au, c, rfl, c1, c2, c3⟩ := hu
  rcases c3 with ⟨rfl, rfl⟩ | ⟨x, rfl, hc⟩
  · obtain rfl : news = [] := List.eq_nil_of_length_eq_zero (by omega)
    exact ⟨v, w, run_append_owned_none w B t ty e i 1 ht hi v _ xs hv, by rw [List.append_nil]; exact hv, Below.refl _ _, ⟨rfl, rfl, rfl, Nat.le_refl _, fun _ _ _ => rfl⟩⟩
  · obtain ⟨v', w', hrun, r1, r2, _⟩ := run_append_own (P := P) w B t ty e i z 1 bytes ht hi hz hsize hby hzs (by omega) v _ xs hv x _ c news (by omega) hc h1 hmax hbytes hB
    refine ⟨v', w', hrun, by rw [List.length_append]; exact r1, (Below.refl _ _).grown r2 hB ?_, r2⟩
    intro k hk
    exact (hv.lt k hk).1
theorem wp_append_og {o : Oper} {a : Act} {K : Act → World → Prop} {Q : Exit → Act → World → Prop} (s x : Operand) (t : TypeId)
    (ho : o.op = .call { callee := .builtin .append, args := #[s, x], argTypes := #[t, t] })
    (B : Nat) (e : TypeId) (i : TypeInfo) (z : Value) (bytes : Nat) (ht : P.underlying t = some (.slice e)) (hi : P.info? e = some i) (hz : i.zero = some z)
    (hsize : i.size = 1) (hby : i.bytes = bytes) (hzs : z.cells.size = 1)
    (v u : Value) (xs news : List Value) (hs : a.eval s = v) (hx : a.eval x = u) (hv : w.ownsRow B e 1 v xs.length xs) (hu : Rd w u news) (h1 : ∀ x ∈ news, x.oneCell' = true)
    (hbytes : (xs.length + news.length) * bytes ≤ 140737488355328) (hmax : xs.length + news.length ≤ maxLen) (hB : B ≤ w.heap.size)
    (h : ∀ v' w', w'.ownsRow B e 1 v' (xs ++ news).length (xs ++ news) → Below B w w' → w.grownBy w' v.ownBlock → K (a.put o.dst v') w') : o.wp P a w K Q := by
  obtain ⟨v', w', hr, h2, h3, h4⟩ := run_append_og (P := P) w B t o.type e i z bytes ht hi hz hsize hby hzs v u xs news hv hu h1 hbytes hmax hB
  unfold Oper.wp execOp
  simp only [ho, resolve, invoke, builtin, Sem.run_bind, Sem.run_pure, Result.andThen_ok, List.map_toArray, List.map_cons, List.map_nil, hs, hx, hr]
  exact h v' w' h2 h3 h4
theorem wpList_append_og {ops : Array Oper} {rest : List Oper} {o : Oper} {a : Act} {Q : Exit → Act → World → Prop} (hgd : o.guard = none) (s x : Operand) (t : TypeId)
    (ho : o.op = .call { callee := .builtin .append, args := #[s, x], argTypes := #[t, t] })
    (B : Nat) (e : TypeId) (i : TypeInfo) (z : Value) (bytes : Nat) (ht : P.underlying t = some (.slice e)) (hi : P.info? e = some i) (hz : i.zero = some z)
    (hsize : i.size = 1) (hby : i.bytes = bytes) (hzs : z.cells.size = 1)
    (v u : Value) (xs news : List Value) (hs : a.eval s = v) (hx : a.eval x = u) (hv : w.ownsRow B e 1 v xs.length xs) (hu : Rd w u news) (h1 : ∀ x ∈ news, x.oneCell' = true)
    (hbytes : (xs.length + news.length) * bytes ≤ 140737488355328) (hmax : xs.length + news.length ≤ maxLen) (hB : B ≤ w.heap.size)
    (h : ∀ v' w', w'.ownsRow B e 1 v' (xs ++ news).length (xs ++ news) → Below B w w' → w.grownBy w' v.ownBlock → wpList P ops Q rest (a.put o.dst v') w') : wpList P ops Q (o :: rest) a w :=
  wpList_plain hgd fun _ hK => wp_append_og w s x t ho B e i z bytes ht hi hz hsize hby hzs v u xs news hs hx hv hu h1 hbytes hmax hB fun v' w' h2 h3 h4 => hK _ _ (h v' w' h2 h3 h4)
end
theorem step_append_og {P : Program} {ops : Array Oper} {o : Oper} {a : Act} {w : World} {K : Act → World → Prop} {Q : Exit → Act → World → Prop} {E : Prop}
    (hgd : o.guard = none) (s x : Operand) (t : TypeId)
    (ho : o.op = .call { callee := .builtin .append, args := #[s, x], argTypes := #[t, t] })
    (B : Nat) (e : TypeId) (i : TypeInfo) (z : Value) (bytes : Nat) (ht : P.underlying t = some (.slice e)) (hi : P.info? e = some i) (hz : i.zero = some z)
    (hsize : i.size = 1) (hby : i.bytes = bytes) (hzs : z.cells.size = 1)
    (v u : Value) (xs news : List Value) (hs : a.eval s = v) (hx : a.eval x = u) (hv : w.ownsRow B e 1 v xs.length xs) (hu : Rd w u news) (h1 : ∀ x ∈ news, x.oneCell' = true)
    (hbytes : (xs.length + news.length) * bytes ≤ 140737488355328) (hmax : xs.length + news.length ≤ maxLen) (hB : B ≤ w.heap.size)
    (h : ∀ v' w', w'.ownsRow B e 1 v' (xs ++ news).length (xs ++ news) → Below B w w' → w.grownBy w' v.ownBlock → K (a.put o.dst v') w') : if Region.wanted o (yielded ops a.tmps) = true then Oper.wp P o a w K Q else E := by
  rw [if_pos (by simp [Region.wanted, hgd])]
  exact wp_append_og w s x t ho B e i z bytes ht hi hz hsize hby hzs v u xs news hs hx hv hu h1 hbytes hmax hB h

end Go.Proofs.Ythnaapjefedalaa

/-
  What is no row of bytes stands, whatever is appended to a row of bytes.
-/
namespace Go.Proofs.Ythnaapjefedalaa
open Go.RowKit
set_option linter.unusedVariables false

/-- Blocks that are no rows of bytes stand. -/
def NonB (w w' : World) : Prop := ∀ (k : Nat) (o : Obj), w.heap[k]? = some o → (∀ (c : Array Value) (z : Nat × Nat), o ≠ Obj.cells c 5 z) → w'.heap[k]? = some o
theorem NonB.refl (w : World) : NonB w w := fun _ _ h _ => h
theorem NonB.trans {a b c : World} (h : NonB a b) (k : NonB b c) : NonB a c := fun i o hi ho => k i o (h i o hi ho) ho
theorem NonB.of_below {w w' : World} (h : Below w.heap.size w w') : NonB w w' := fun k o hk _ => by rw [h.block k (Array.getElem?_eq_some_iff.1 hk).1]; exact hk
theorem NonB.alloc (w : World) (o : Obj) : NonB w (w.alloc o) := NonB.of_below ((Below.refl _ _).alloc (Nat.le_refl _) o)
theorem NonB.drew (w : World) : NonB w w.drew := NonB.of_below (Below.refl _ _).drew
theorem OwB.nonB {w w' : World} {B : Nat} {v : Value} {l : List UInt8} (h : OwB w B v l) (hg : w.grownBy w' v.ownBlock) : NonB w w' := fun k o hk ho => by
  rw [hg.block k (Array.getElem?_eq_some_iff.1 hk).1 (fun e => ?_)]
  · exact hk
  · rcases h.2 with ⟨rfl, _⟩ | ⟨g, cap, cur, rfl, _, hh, _⟩
    · simp [Value.ownBlock] at e
    · simp only [Value.ownBlock, Option.some.injEq] at e
      subst e
      rw [hk] at hh
      injection hh with hh
      exact ho _ _ hh
theorem NonB.fb {w w' : World} (h : NonB w w') {g : Nat} {cs : Array Value} {t : TypeId} {z : Nat × Nat} (hf : w.heap[g]? = some (.cells cs t z)) (ht : t ≠ 5) : w'.heap[g]? = some (.cells cs t z) :=
  h g _ hf fun c z e => by injection e with _ e2 _; exact ht e2

end Go.Proofs.Ythnaapjefedalaa

/-
  Words of what stands in memory, by the blocks that they hold: side by side, behind a head block; what a call does to one of several. No type of the program is named here.
-/
namespace Go.Proofs.Ythnaapjefedalaa
open Go.RowKit
set_option linter.unusedVariables false

theorem below_next {wA W w' : World} (h : Below wA.heap.size wA W) (hb : Below W.heap.size W w') : Below wA.heap.size wA w' := h.trans (hb.mono h.size)
theorem Fp.up {B : Nat} {w w' : World} (h : Below B w w') : Fp (fun k => B ≤ k) w w' := ⟨h.os, h.tape, h.output, h.size, fun k _ hn => h.block k (Nat.lt_of_not_le hn)⟩
theorem OwB.cat {w : World} {B : Nat} {x : Value} {l m : List UInt8} (h : w.ownsRow B 5 1 x (l.map bv ++ m.map bv).length (l.map bv ++ m.map bv)) : OwB w B x (l ++ m) := by
  unfold OwB
  rw [List.map_append]
  exact h
/-- A word: what stands, and a set of blocks that holds all of it. -/
abbrev Wx := World → (Nat → Prop) → Prop
/-- The word tells of its blocks alone. -/
structure Wd (X : Wx) : Prop where
  lt : ∀ {w : World} {S : Nat → Prop}, X w S → ∀ k, S k → k < w.heap.size
  kept : ∀ {w w' : World} {S : Nat → Prop}, X w S → w.heap.size ≤ w'.heap.size → (∀ k, S k → w'.heap[k]? = w.heap[k]?) → X w' S
section
variable {X X' Y Y' : Wx} {w w' : World} {S S' : Nat → Prop} {B : Nat}
theorem Wd.keep (hX : Wd X) (h : X w S) (hb : Below w.heap.size w w') : X w' S := hX.kept h hb.size fun k hk => hb.block k (hX.lt h k hk)
theorem Wd.besides (hX : Wd X) (h : X w S) (hf : Fp S' w w') (hd : ∀ k, S k → ¬ S' k) : X w' S := hX.kept h hf.size fun k hk => hf.block k (hX.lt h k hk) (hd k hk)
theorem Wd.turned (hX : Wd X) (h : X w S) (hb : Below w.heap.size w w') : Turn X S w w' := ⟨S, hX.keep h hb, fun k hk => .inl hk, Fp.of_below hb⟩

theorem Wd.after (hX : Wd X) {a b c : World} (ht : Turn X S a b) (hb : Below b.heap.size b c) : Turn X S a c := by
  obtain ⟨S', x, s, f⟩ := ht
  exact ⟨S', hX.keep x hb, s, f.then (Fp.of_below hb)⟩
theorem Turn.before {a b c : World} (hb : Below a.heap.size a b) (ht : Turn X S b c) : Turn X S a c := Turn.step (fun k hk => .inl hk) (Fp.of_below hb) ht
/-- Both, apart from one another. -/
def Both (X Y : Wx) : Wx := fun w S => ∃ S1 S2, X w S1 ∧ Y w S2 ∧ (∀ k, S1 k → ¬ S2 k) ∧ ∀ k, S k ↔ S1 k ∨ S2 k
theorem Wd.both (hX : Wd X) (hY : Wd Y) : Wd (Both X Y) := by
  constructor
  · rintro w S ⟨S1, S2, h1, h2, h3, h4⟩ k hk
    rcases (h4 k).1 hk with h | h
    · exact hX.lt h1 k h
    · exact hY.lt h2 k h
  · rintro w w' S ⟨S1, S2, h1, h2, h3, h4⟩ hs hb
    exact ⟨S1, S2, hX.kept h1 hs fun k hk => hb k ((h4 k).2 (.inl hk)), hY.kept h2 hs fun k hk => hb k ((h4 k).2 (.inr hk)), h3, h4⟩
theorem Both.swap (h : Both X Y w S) : Both Y X w S := by
  obtain ⟨S1, S2, h1, h2, h3, h4⟩ := h
  exact ⟨S2, S1, h2, h1, fun k a b => h3 k b a, fun k => (h4 k).trans Or.comm⟩
/-- The first one turns. -/
theorem Both.left (hY : Wd Y) {S1 S2 : Nat → Prop} (h2 : Y w S2) (h3 : ∀ k, S1 k → ¬ S2 k) (h4 : ∀ k, S k ↔ S1 k ∨ S2 k) (ht : Turn X' S1 w w') : Turn (Both X' Y) S w w' := by
  obtain ⟨S', x, s, f⟩ := ht
  refine ⟨fun k => S' k ∨ S2 k, ⟨S', S2, x, hY.besides h2 f (fun k hk hs => h3 k hs hk), fun k hk hs => ?_, fun k => Iff.rfl⟩, fun k hk => ?_, f.mono fun k hk => (h4 k).2 (.inl hk)⟩
  · rcases s k hk with h | h
    · exact h3 k h hs
    · have := hY.lt h2 k hs; omega
  · rcases hk with hk | hk
    · rcases s k hk with h | h
      · exact .inl ((h4 k).2 (.inl h))
      · exact .inr h
    · exact .inl ((h4 k).2 (.inr hk))
theorem Both.right (hX : Wd X) {S1 S2 : Nat → Prop} (h1 : X w S1) (h3 : ∀ k, S1 k → ¬ S2 k) (h4 : ∀ k, S k ↔ S1 k ∨ S2 k) (ht : Turn Y' S2 w w') : Turn (Both X Y') S w w' := by
  obtain ⟨S', x, s, f⟩ := Both.left hX h1 (fun k a b => h3 k b a) (fun k => (h4 k).trans Or.comm) ht
  exact ⟨S', x.swap, s, f⟩
theorem Both.fst (h : Both X Y w S) : ∃ S1, X w S1 ∧ ∀ k, S1 k → S k := by
  obtain ⟨S1, S2, h1, h2, h3, h4⟩ := h
  exact ⟨S1, h1, fun k hk => (h4 k).2 (.inl hk)⟩
theorem Both.snd (h : Both X Y w S) : ∃ S2, Y w S2 ∧ ∀ k, S2 k → S k := by
  obtain ⟨S1, S2, h1, h2, h3, h4⟩ := h
  exact ⟨S2, h2, fun k hk => (h4 k).2 (.inr hk)⟩

/-- A head block q of n cells, and what it holds. -/
def Hd (q : Nat) (ty : TypeId) (n : Nat) (F : Nat → Value) (X : Wx) : Wx := fun w S => ∃ S', w.rowIs q ty n F ∧ X w S' ∧ ¬ S' q ∧ ∀ k, S k ↔ S' k ∨ k = q
section
variable {q n : Nat} {ty : TypeId} {F F' : Nat → Value}
theorem Wd.hd (hX : Wd X) : Wd (Hd q ty n F X) := by
  constructor
  · rintro w S ⟨S', h1, h2, h3, h4⟩ k hk
    rcases (h4 k).1 hk with h | rfl
    · exact hX.lt h2 k h
    · exact h1.lt
  · rintro w w' S ⟨S', h1, h2, h3, h4⟩ hs hb
    exact ⟨S', h1.of_block (hb q ((h4 q).2 (.inr rfl))), hX.kept h2 hs (fun k hk => hb k ((h4 k).2 (.inl hk))), h3, h4⟩
theorem Hd.row (h : Hd q ty n F X w S) : w.rowIs q ty n F := by obtain ⟨_, h1, _⟩ := h; exact h1
theorem Hd.lt (h : Hd q ty n F X w S) : q < w.heap.size := h.row.lt
theorem Hd.has (h : Hd q ty n F X w S) : S q := by obtain ⟨S', _, _, _, h4⟩ := h; exact (h4 q).2 (.inr rfl)
theorem Hd.sub (h : Hd q ty n F X w S) : ∃ S', X w S' ∧ ¬ S' q ∧ ∀ k, S' k → S k := by obtain ⟨S', _, h2, h3, h4⟩ := h; exact ⟨S', h2, h3, fun k hk => (h4 k).2 (.inl hk)⟩
/-- A store into one of the head's cells. -/
theorem Hd.put (hX : Wd X) (h : Hd q ty n F X w S) (i : Nat) (v : Value) (hF : ∀ j, j < n → (if j = i then v else F j) = F' j) : Hd q ty n F' X (w.setCell ⟨q, i, none⟩ v) S ∧ Fp S w (w.setCell ⟨q, i, none⟩ v) := by
  obtain ⟨S', h1, h2, h3, h4⟩ := h
  have hf : Fp (fun k => k = q) w (w.setCell ⟨q, i, none⟩ v) := Fp.set _ _ _ _ rfl
  exact ⟨⟨S', (h1.set i v).congr hF, hX.besides h2 hf (fun k hk e => h3 (e ▸ hk)), h3, h4⟩, hf.mono fun k hk => (h4 k).2 (.inr hk)⟩
theorem Hd.set (hX : Wd X) (h : Hd q ty n F X w S) (i : Nat) (v : Value) (hF : ∀ j, j < n → (if j = i then v else F j) = F' j) : Turn (Hd q ty n F' X) S w (w.setCell ⟨q, i, none⟩ v) :=
  ⟨S, (h.put hX i v hF).1, fun k hk => .inl hk, (h.put hX i v hF).2⟩
/-- What the head holds turns. -/
theorem Hd.turn (h : Hd q ty n F X w S) (ht : ∀ S', X w S' → Turn X' S' w w') : Turn (Hd q ty n F X') S w w' := by
  obtain ⟨S', h1, h2, h3, h4⟩ := h
  obtain ⟨S2, r2, s2, f2⟩ := ht S' h2
  have hsz := f2.size
  have hq := h1.lt
  refine ⟨fun k => S2 k ∨ k = q, ⟨S2, h1.of_block (f2.block q hq h3), r2, fun hs => ?_, fun k => Iff.rfl⟩, fun k hk => ?_, f2.mono fun k hk => (h4 k).2 (.inl hk)⟩
  · rcases s2 q hs with h | h
    · exact h3 h
    · omega
  · rcases hk with hk | rfl
    · rcases s2 k hk with h | h
      · exact .inl ((h4 k).2 (.inl h))
      · exact .inr h
    · exact .inl ((h4 k).2 (.inr rfl))
/-- What the head holds, for a call that turns it. -/
theorem Hd.opens (h : Hd q ty n F X w S) : ∃ S', X w S' ∧ ¬ S' q ∧ (∀ k, S' k → S k) ∧ ∀ (w' : World) (X' : Wx), Turn X' S' w w' → Turn (Hd q ty n F X') S w w' := by
  obtain ⟨S', h1, h2, h3, h4⟩ := h
  refine ⟨S', h2, h3, fun k hk => (h4 k).2 (.inl hk), fun w' X' ht => ?_⟩
  obtain ⟨S2, r2, s2, f2⟩ := ht
  have hsz := f2.size
  have hq := h1.lt
  refine ⟨fun k => S2 k ∨ k = q, ⟨S2, h1.of_block (f2.block q hq h3), r2, fun hs => ?_, fun k => Iff.rfl⟩, fun k hk => ?_, f2.mono fun k hk => (h4 k).2 (.inl hk)⟩
  · rcases s2 q hs with h | h
    · exact h3 h
    · omega
  · rcases hk with hk | rfl
    · rcases s2 k hk with h | h
      · exact .inl ((h4 k).2 (.inl h))
      · exact .inr h
    · exact .inl ((h4 k).2 (.inr rfl))
/-- A head that is made. -/
theorem Hd.new (hX : Wd X) (h : X w S) (c : Array Value) (hc : ∀ i, i < c.size → c[i]? = some (F i)) : Hd w.heap.size ty c.size F X (w.alloc (.cells c ty)) (fun k => S k ∨ k = w.heap.size) :=
  ⟨S, World.rowIs_alloc w c ty F hc, hX.keep h ((Below.refl _ _).alloc (Nat.le_refl _) _), fun hs => by have := hX.lt h _ hs; omega, fun k => Iff.rfl⟩
end

/-- All that the word tells of, made since block B. -/
def Up (B : Nat) (X : Wx) (w : World) : Prop := ∃ S, X w S ∧ ∀ k, S k → B ≤ k
theorem Up.keep (hX : Wd X) (h : Up B X w) (hb : Below w.heap.size w w') : Up B X w' := by
  obtain ⟨S, h1, h2⟩ := h
  exact ⟨S, hX.keep h1 hb, h2⟩
theorem Up.turn (hs : ∀ k, S k → B ≤ k) (hB : B ≤ w.heap.size) (ht : Turn X' S w w') : Up B X' w' ∧ Below B w w' := by
  obtain ⟨S1, x, s, f⟩ := ht
  exact ⟨⟨S1, x, fun k hk => (s k hk).elim (hs k) fun h => Nat.le_trans hB h⟩, f.below hB hs⟩
theorem Up.swap (h : Up B (Both X Y) w) : Up B (Both Y X) w := by
  obtain ⟨S, h1, h2⟩ := h
  exact ⟨S, h1.swap, h2⟩
theorem Up.fst (h : Up B (Both X Y) w) : Up B X w := by
  obtain ⟨S, h1, h2⟩ := h
  obtain ⟨S1, a, b⟩ := h1.fst
  exact ⟨S1, a, fun k hk => h2 k (b k hk)⟩
theorem Up.snd (h : Up B (Both X Y) w) : Up B Y w := h.swap.fst
/-- One of two, for a call that turns it. -/
theorem Up.open1 (hY : Wd Y) (h : Up B (Both X Y) w) (hB : B ≤ w.heap.size) : ∃ S1, X w S1 ∧ ∀ (w' : World) (X' : Wx), Turn X' S1 w w' → Up B (Both X' Y) w' ∧ Below B w w' := by
  obtain ⟨S, ⟨S1, S2, h1, h2, h3, h4⟩, h5⟩ := h
  exact ⟨S1, h1, fun w' X' ht => Up.turn h5 hB (Both.left hY h2 h3 h4 ht)⟩
theorem Up.open0 (h : Up B X w) (hB : B ≤ w.heap.size) : ∃ S1, X w S1 ∧ ∀ (w' : World) (X' : Wx), Turn X' S1 w w' → Up B X' w' ∧ Below B w w' := by
  obtain ⟨S, h1, h5⟩ := h
  exact ⟨S, h1, fun w' X' ht => Up.turn h5 hB ht⟩
/-- One more, made behind. -/
theorem Up.add (hX : Wd X) (h : Up B X w) (hB : B ≤ w.heap.size) (hb : Below w.heap.size w w') (hn : Up w.heap.size Y w') : Up B (Both X Y) w' := by
  obtain ⟨S, h1, h2⟩ := h
  obtain ⟨S', k1, k2⟩ := hn
  exact ⟨fun k => S k ∨ S' k, ⟨S, S', hX.keep h1 hb, k1, fun k a b => by have := hX.lt h1 k a; have := k2 k b; omega, fun k => Iff.rfl⟩, fun k hk => hk.elim (h2 k) fun h => Nat.le_trans hB (k2 k h)⟩
theorem Up.mono {B' : Nat} (h : Up B X w) (hB : B' ≤ B) : Up B' X w := by
  obtain ⟨S, h1, h2⟩ := h
  exact ⟨S, h1, fun k hk => Nat.le_trans hB (h2 k hk)⟩
theorem Up.assoc {Z : Wx} (h : Up B (Both X (Both Y Z)) w) : Up B (Both (Both X Y) Z) w := by
  obtain ⟨S, ⟨S1, S2, h1, ⟨S3, S4, k1, k2, k3, k4⟩, h3, h4⟩, h5⟩ := h
  refine ⟨S, ⟨fun k => S1 k ∨ S3 k, S4, ⟨S1, S3, h1, k1, fun k a b => h3 k a ((k4 k).2 (.inl b)), fun k => Iff.rfl⟩, k2, fun k a b => ?_, fun k => ?_⟩, h5⟩
  · rcases a with a | a
    · exact h3 k a ((k4 k).2 (.inr b))
    · exact k3 k a b
  · rw [h4 k, k4 k, or_assoc]

/-! ### what is no row of bytes -/
/-- The blocks of S stand, and none is a row of bytes. -/
def NoB (w : World) (S : Nat → Prop) : Prop := ∀ k, S k → ∃ o, w.heap[k]? = some o ∧ ∀ (c : Array Value) (z : Nat × Nat), o ≠ Obj.cells c 5 z
theorem NoB.same (hn : NoB w S) (h : NonB w w') : ∀ k, S k → w'.heap[k]? = w.heap[k]? := fun k hk => by
  obtain ⟨o, h1, h2⟩ := hn k hk
  rw [h1]; exact h k o h1 h2
theorem NoB.non (hn : NoB w S) (h : NonB w w') : NoB w' S := fun k hk => by
  obtain ⟨o, h1, h2⟩ := hn k hk
  exact ⟨o, h k o h1 h2, h2⟩
theorem NoB.keep (hn : NoB w S) (h : Below w.heap.size w w') : NoB w' S := hn.non (NonB.of_below h)
theorem NoB.not {v : Value} {l : List UInt8} (hn : NoB w S) (h : OwB w B v l) : ∀ k, v.ownBlock = some k → ¬ S k := fun k hk hs => by
  obtain ⟨o, h1, h2⟩ := hn k hs
  rcases h.2 with ⟨rfl, _⟩ | ⟨g, cap, cur, rfl, hg, hh, rest⟩
  · simp [Value.ownBlock] at hk
  · simp only [Value.ownBlock, Option.some.injEq] at hk
    subst hk
    rw [h1] at hh
    injection hh with hh
    exact h2 _ _ hh
theorem OwB.besides {v : Value} {l : List UInt8} (h : OwB w B v l) (hn : NoB w S) (hf : Fp S w w') : OwB w' B v l := h.kept fun k hk => hf.block k (h.lt hk) (hn.not h k hk)
theorem NoB.row {q n : Nat} {ty : TypeId} {F : Nat → Value} (h : w.rowIs q ty n F) (ht : ty ≠ 5) : ∃ o, w.heap[q]? = some o ∧ ∀ (c : Array Value) (z : Nat × Nat), o ≠ Obj.cells c 5 z := by
  obtain ⟨c, hc, _⟩ := h
  exact ⟨_, hc, fun c z e => by injection e with _ e2 _; exact ht e2⟩
/-- The word's blocks can be told so closely that none is a row of bytes. -/
def Ex (X : Wx) : Prop := ∀ (w : World) (S : Nat → Prop), X w S → ∃ E, X w E ∧ (∀ k, E k → S k) ∧ NoB w E
theorem Ex.hd {q n : Nat} {ty : TypeId} {F : Nat → Value} (hX : Ex X) (ht : ty ≠ 5) : Ex (Hd q ty n F X) := by
  rintro w S ⟨S', h1, h2, h3, h4⟩
  obtain ⟨E, e1, e2, e3⟩ := hX w S' h2
  refine ⟨fun k => E k ∨ k = q, ⟨E, h1, e1, fun h => h3 (e2 _ h), fun k => Iff.rfl⟩, fun k hk => (h4 k).2 (hk.imp (e2 k) id), fun k hk => ?_⟩
  rcases hk with hk | rfl
  · exact e3 k hk
  · exact NoB.row h1 ht
theorem Ex.both (hX : Ex X) (hY : Ex Y) : Ex (Both X Y) := by
  rintro w S ⟨S1, S2, h1, h2, h3, h4⟩
  obtain ⟨E, e1, e2, e3⟩ := hX w S1 h1
  obtain ⟨G, g1, g2, g3⟩ := hY w S2 h2
  exact ⟨fun k => E k ∨ G k, ⟨E, G, e1, g1, fun k a b => h3 k (e2 k a) (g2 k b), fun k => Iff.rfl⟩, fun k hk => (h4 k).2 (hk.imp (e2 k) (g2 k)), fun k hk => hk.elim (e3 k) (g3 k)⟩
theorem Turn.sub {E : Nat → Prop} (ht : Turn X E w w') (hs : ∀ k, E k → S k) : Turn X S w w' := by
  obtain ⟨S', x, s, f⟩ := ht
  exact ⟨S', x, fun k hk => (s k hk).imp (hs k) id, f.mono hs⟩
/-- A turn tells its blocks closely, too. -/
theorem Turn.close (hX : Ex X) (ht : Turn X S w w') : ∃ E, X w' E ∧ (∀ k, E k → S k ∨ w.heap.size ≤ k) ∧ Fp S w w' ∧ NoB w' E := by
  obtain ⟨S', x, s, f⟩ := ht
  obtain ⟨E, e1, e2, e3⟩ := hX w' S' x
  exact ⟨E, e1, fun k hk => s k (e2 k hk), f, e3⟩
end
end Go.Proofs.Ythnaapjefedalaa

/-
  Contracts of the table's At, Newest, Find and its numbers.
-/
namespace Go.Proofs.Ythnaapjefedalaa
open Go.RowKit Go.Maps
set_option linter.unusedVariables false

/-- The i-th from the end. -/
def entN (l : List Fd) (i : Nat) : Fd := if h : i < l.length then l[l.length - 1 - i]'(by omega) else emp
def isN (l : List Fd) (i : Nat) : Bool := decide (i < l.length)
/-- What is found of a field. -/
def findT (l : List Fd) (b : Nat) (f : Fd) : Nat × Bool × Bool :=
  match nw (hasF f) b l with
  | some a => (a, true, true)
  | none => match nw (hasN f.1) b l with
    | some a => (a, true, false)
    | none => (0, false, false)
def find3 (x : Nat × Bool × Bool) : Value := .tuple #[.int .u64 (x.1 : Int), .bool x.2.1, .bool x.2.2]

theorem Tb.tr {p : Nat} {T : Tab} {w : World} {S : Nat → Prop} (h : Tb p T w S) : ∃ v bw bn Dw Dn, Tr w p v bw bn (sizeF T.l) T.cap T.tot T.tot T.tot T.l Dw Dn ∧ Mp kf Sized id T.first T.l Dw ∧ Mp ks Short Prod.fst T.first T.l Dn := by
  obtain ⟨v, bw, bn, Dw, Dn, h1, h2, h3, _⟩ := h
  exact ⟨v, bw, bn, Dw, Dn, h1, h2, h3⟩
theorem cap_any {p : Nat} {T : Tab} {w : World} {S : Nat → Prop} (h : Tb p T w S) : Calls Try.prog 18 #[.pointer (some ⟨p, 0, none⟩)] w fun e w' => e = .returned (.int .i64 (T.cap : Int)) ∧ Below w.heap.size w w' := by
  obtain ⟨v, bw, bn, Dw, Dn, h1, _⟩ := h.tr; exact cap0_any h1
theorem dlen_any {p : Nat} {T : Tab} {w : World} {S : Nat → Prop} (h : Tb p T w S) : Calls Try.prog 16 #[.pointer (some ⟨p, 0, none⟩)] w fun e w' => e = .returned (.int .i64 (T.l.length : Int)) ∧ Below w.heap.size w w' := by
  obtain ⟨v, bw, bn, Dw, Dn, h1, _⟩ := h.tr; exact len0_any h1
theorem count_any {p : Nat} {T : Tab} {w : World} {S : Nat → Prop} (h : Tb p T w S) : Calls Try.prog 17 #[.pointer (some ⟨p, 0, none⟩)] w fun e w' => e = .returned (.int .u64 (T.tot : Int)) ∧ Below w.heap.size w w' := by
  obtain ⟨v, bw, bn, Dw, Dn, h1, _⟩ := h.tr; exact count0_any h1

set_option maxRecDepth 100000 in
set_option maxHeartbeats 1000000 in
theorem at_any {p : Nat} {T : Tab} {w : World} {S : Nat → Prop} (h : Tb p T w S) (i : Nat) (hi : i < 18446744073709551616) :
    Calls Try.prog 50 #[.pointer (some ⟨p, 0, none⟩), .int .u64 (i : Int)] w fun e w' => e = .returned (.tuple #[aggF (entF T.l T.first i), .bool (isF T.l T.first i)]) ∧ Below w.heap.size w w' := by
  obtain ⟨v, bw, bn, Dw, Dn, h1, h2, h3⟩ := h.tr
  have hok := h.ok
  obtain ⟨L, cap, tot⟩ := T
  obtain ⟨fr, hfr⟩ : ∃ fr, tot - L.length = fr := ⟨_, rfl⟩
  rw [show Tab.first ⟨L, cap, tot⟩ = fr from hfr]
  simp only at h1 ⊢
  have htot : tot ≤ 1000000 := hok.tot
  have hlen : L.length ≤ tot := hok.len
  have HI := Bx.mk hi
  have HFR : Bx (fr + L.length = tot) := ⟨by omega⟩
  have HTT := Bx.mk htot
  have HOLD : Bx (∀ W, Tr W p v bw bn (sizeF L) cap tot tot tot L Dw Dn → Calls Try.prog 67 #[.pointer (some ⟨p, 0, none⟩)] W fun e w' => e = .returned (.int .u64 (fr : Int)) ∧ Below W.heap.size W w') := ⟨fun W hW => hfr ▸ oldest_any hW hlen htot⟩
  obtain ⟨e0, he0⟩ : ∃ e0, entF L fr i = e0 := ⟨_, rfl⟩
  obtain ⟨b0, hb0⟩ : ∃ b0, isF L fr i = b0 := ⟨_, rfl⟩
  rw [he0, hb0]
  have HE0 := Bx.mk he0
  have HB0 := Bx.mk hb0
  have HT := Bx.mk h1
  have HTA := Bx.mk (h1.alloc (.cells #[.string ⟨#[]⟩, .string ⟨#[]⟩] 58))
  clear h h1 h2 h3 hok htot hlen hi hfr he0 hb0
  have enter : True := trivial
  go_enter Try.func50, Try.ntmps50
  go_wp2_with fail
  refine (HOLD.out _ HTA.out).mono ?_
  rintro e w2 ⟨rfl, hb2⟩
  have HT2 := Bx.mk (HTA.out.keep hb2)
  have HF2 := Bx.mk ((Fb.new 58 w emp).keep hb2)
  have HB2 : Bx (Below w.heap.size w w2) := ⟨((Below.refl w.heap.size w).alloc (Nat.le_refl _) _).trans (hb2.mono (by simp))⟩
  clear hb2 enter
  obtain ⟨d0, d1, d2, d3, d4, d5⟩ := HT2.out.cells
  obtain ⟨e1, e2⟩ := HF2.out.cells
  obtain ⟨ef1, ef2⟩ := HF2.out.free
  by_cases h1 : i < fr
  · have hd1 : decide ((i : Int) < (fr : Int)) = true := decide_eq_true (by omega)
    have hd2 : decide (i < fr) = true := decide_eq_true h1
    obtain rfl : emp = e0 := by rw [← HE0.out]; unfold entF; rw [dif_neg (by omega)]
    obtain rfl : false = b0 := by rw [← HB0.out]; unfold isF; simp; omega
    have HF3 := Bx.mk (HF2.out.set2 ⟨#[]⟩ ⟨#[]⟩)
    clear h1
    go_wp2_with fail
    exact bodyPost_ret (ret_field Try.results50 _ _ w.heap.size emp false rfl rfl HF3.out) rfl ⟨rfl, below_set2 HB2.out _ (Nat.le_refl _) _ _⟩
  · have hd1 : decide ((i : Int) < (fr : Int)) = false := decide_eq_false (by omega)
    have hd2 : decide (i < fr) = false := decide_eq_false h1
    by_cases h2 : tot ≤ i
    · have hd3 : decide ((tot : Int) ≤ (i : Int)) = true := decide_eq_true (by omega)
      have hd4 : decide (tot ≤ i) = true := decide_eq_true h2
      obtain rfl : emp = e0 := by rw [← HE0.out]; unfold entF; rw [dif_neg (by have := HFR.out; omega)]
      obtain rfl : false = b0 := by rw [← HB0.out]; unfold isF; simp; have := HFR.out; omega
      have HF3 := Bx.mk (HF2.out.set2 ⟨#[]⟩ ⟨#[]⟩)
      clear h1 h2
      go_wp2_with fail
      exact bodyPost_ret (ret_field Try.results50 _ _ w.heap.size emp false rfl rfl HF3.out) rfl ⟨rfl, below_set2 HB2.out _ (Nat.le_refl _) _ _⟩
    · have hd3 : decide ((tot : Int) ≤ (i : Int)) = false := decide_eq_false (by omega)
      have hd4 : decide (tot ≤ i) = false := decide_eq_false h2
      have hlt : i - fr < L.length := by have := HFR.out; omega
      obtain ⟨f1, hf1⟩ : ∃ f1, L[i - fr].1 = f1 := ⟨_, rfl⟩
      obtain ⟨f2, hf2⟩ : ∃ f2, L[i - fr].2 = f2 := ⟨_, rfl⟩
      obtain rfl : (f1, f2) = e0 := by rw [← HE0.out]; unfold entF; rw [dif_pos ⟨by omega, hlt⟩, ← hf1, ← hf2]
      obtain rfl : true = b0 := by rw [← HB0.out]; unfold isF; simp; omega
      obtain ⟨b, o, hix, hcs⟩ := HT2.out.st.fs.at_ (i - fr) hlt
      have hws : IntKind.u64.wrap ((i : Int) - (fr : Int)) = ((i - fr : Nat) : Int) := by have := HI.out; simp [IntKind.wrap, IntKind.signed, IntKind.bits]; omega
      rw [hf1, hf2] at hcs
      have HCS := Bx.mk hcs
      have hX0 : ∀ W, Tr W p v bw bn (sizeF L) cap tot tot tot L Dw Dn → W.cell? ⟨p, 0, none⟩ = some v := fun W h => h.cells.1
      have hX1 : ∀ W, Tr W p v bw bn (sizeF L) cap tot tot tot L Dw Dn → W.cell? ⟨b, o, none⟩ = some (.string f1) := fun W h => (HCS.out W h.st.fs).1
      have hX2 : ∀ W, Tr W p v bw bn (sizeF L) cap tot tot tot L Dw Dn → W.cell? ⟨b, o + 1, none⟩ = some (.string f2) := fun W h => (HCS.out W h.st.fs).2
      have hS0 := HT2.out.drew
      clear h1 h2 hlt hf1 hf2 hcs
      go_wp2_with fail
      go_region_held (fun W => Tr W p v bw bn (sizeF L) cap tot tot tot L Dw Dn) (first | assumption) (first
        | (go_at_call 67; refine (HOLD.out _ ?_).mono ?_; (with_reducible exact hS0); rintro e w3 ⟨rfl, hb3⟩; have hT3 := hS0.keep hb3; have HF3 := Bx.mk ((HF2.out.keep (Below.refl _ _).drew).keep hb3); obtain ⟨r1, r2⟩ := HF3.out.cells; obtain ⟨r3, r4⟩ := HF3.out.free; have hT4 := HT.out.away (HT.out.away hT3 w.heap.size (Nat.le_refl _) 0 (.string f1)) w.heap.size (Nat.le_refl _) 1 (.string f2)))
      all_goals go_wp2_with fail
      exact bodyPost_ret (ret_field Try.results50 _ _ w.heap.size (f1, f2) true rfl rfl (HF3.out.set2 f1 f2)) rfl ⟨rfl, below_set2 (HB2.out.trans (((Below.refl w2.heap.size w2).drew.trans hb3).mono HB2.out.size)) _ (Nat.le_refl _) _ _⟩

set_option maxRecDepth 100000 in
set_option maxHeartbeats 1000000 in
theorem newest_any {p : Nat} {T : Tab} {w : World} {S : Nat → Prop} (h : Tb p T w S) (i : Nat) (hi : i < 18446744073709551616) :
    Calls Try.prog 25 #[.pointer (some ⟨p, 0, none⟩), .int .u64 (i : Int)] w fun e w' => e = .returned (.tuple #[aggF (entN T.l i), .bool (isN T.l i)]) ∧ Below w.heap.size w w' := by
  obtain ⟨v, bw, bn, Dw, Dn, h1, h2, h3⟩ := h.tr
  have hok := h.ok
  obtain ⟨e0, he0⟩ : ∃ e0, entN T.l i = e0 := ⟨_, rfl⟩
  obtain ⟨b0, hb0⟩ : ∃ b0, isN T.l i = b0 := ⟨_, rfl⟩
  rw [he0, hb0]
  have HE0 := Bx.mk he0
  have HB0 := Bx.mk hb0
  have HT := Bx.mk h
  have hlen := fun ty W => h1.st.fs.run_len ty W
  obtain ⟨n, hn⟩ : ∃ n, T.l.length = n := ⟨_, rfl⟩
  rw [hn] at hlen
  have HN := Bx.mk hn
  have HI := Bx.mk hi
  obtain ⟨ct, hct⟩ : ∃ ct, T.tot = ct := ⟨_, rfl⟩
  rw [hct] at h1
  have HCT := Bx.mk hct
  have HTT : Bx (n ≤ ct ∧ ct ≤ 1000000) := ⟨by have a := hok.len; have b := hok.tot; omega⟩
  have hwn : IntKind.u64.wrap (n : Int) = (n : Int) := by have := HTT.out; simp [IntKind.wrap, IntKind.signed, IntKind.bits]; omega
  have HTA := Bx.mk (h.keep ((Below.refl w.heap.size w).alloc (Nat.le_refl _) (.cells #[.string ⟨#[]⟩, .string ⟨#[]⟩] 58)))
  obtain ⟨d0, d1, d2, d3, d4, d5⟩ := (h1.alloc (.cells #[.string ⟨#[]⟩, .string ⟨#[]⟩] 58)).cells
  have HF1 := Bx.mk (Fb.new 58 w emp)
  have HB1 := Bx.mk ((Below.refl w.heap.size w).alloc (Nat.le_refl _) (.cells #[.string ⟨#[]⟩, .string ⟨#[]⟩] 58))
  clear h h1 h2 h3 hok hi he0 hb0 hn hct
  by_cases h1 : n ≤ i
  · have hd1 : decide ((n : Int) ≤ (i : Int)) = true := decide_eq_true (by omega)
    have hd2 : decide (n ≤ i) = true := decide_eq_true h1
    obtain rfl : emp = e0 := by rw [← HE0.out]; unfold entN; rw [dif_neg (by have := HN.out; omega)]
    obtain rfl : false = b0 := by rw [← HB0.out]; unfold isN; simp; have := HN.out; omega
    clear h1
    go_enter Try.func25, Try.ntmps25
    go_wp2_with fail
    exact bodyPost_ret (ret_field Try.results25 _ _ w.heap.size emp false rfl rfl (Fb.new _ w emp)) rfl ⟨rfl, (Below.refl _ _).alloc (Nat.le_refl _) _⟩
  · have hd1 : decide ((n : Int) ≤ (i : Int)) = false := decide_eq_false (by omega)
    have hd2 : decide (n ≤ i) = false := decide_eq_false h1
    have hw1 : IntKind.u64.wrap ((ct : Int) - 1) = ((ct - 1 : Nat) : Int) := by have := HTT.out; simp [IntKind.wrap, IntKind.signed, IntKind.bits]; omega
    obtain ⟨c1, hc1⟩ : ∃ c1, ct - 1 = c1 := ⟨_, rfl⟩
    rw [hc1] at hw1
    have hw2 : IntKind.u64.wrap ((c1 : Int) - (i : Int)) = ((c1 - i : Nat) : Int) := by have := HTT.out; simp [IntKind.wrap, IntKind.signed, IntKind.bits]; omega
    obtain ⟨c2, hc2⟩ : ∃ c2, c1 - i = c2 := ⟨_, rfl⟩
    rw [hc2] at hw2
    have hfirst : T.first = ct - n := by show T.tot - T.l.length = _; rw [HCT.out, HN.out]
    have hE : entF T.l T.first c2 = e0 := by
      have a := HTT.out
      have b := HN.out
      rw [← HE0.out]
      unfold entF entN
      rw [dif_pos (by rw [hfirst]; omega), dif_pos (by omega)]
      congr 1
      rw [hfirst]
      omega
    have hBt : isF T.l T.first c2 = true := by
      have a := HTT.out
      have b := HN.out
      unfold isF
      rw [hfirst]
      simp; omega
    obtain rfl : true = b0 := by rw [← HB0.out]; unfold isN; simp; have := HN.out; omega
    have HE := Bx.mk hE
    have HBt := Bx.mk hBt
    have hc2b : c2 < 18446744073709551616 := by have := HTT.out; omega
    have HC2 := Bx.mk hc2b
    clear h1 hc1 hc2 hfirst hE hBt hc2b
    go_enter Try.func25, Try.ntmps25
    go_wp2_with fail
    refine (at_any HTA.out c2 HC2.out).mono ?_
    rintro e w2 ⟨rfl, hb2⟩
    rw [HE.out, HBt.out]
    obtain ⟨x1, x2⟩ := e0
    have HF2 := Bx.mk (HF1.out.keep hb2)
    have HB2 := Bx.mk (HB1.out.trans (hb2.mono HB1.out.size))
    have ha : aggF (x1, x2) = .agg #[.string x1, .string x2] := rfl
    rw [ha]
    obtain ⟨e1, e2⟩ := HF2.out.cells
    obtain ⟨ef1, ef2⟩ := HF2.out.free
    clear hb2 ha
    go_wp2_with fail
    exact bodyPost_ret (ret_field Try.results25 _ _ w.heap.size (x1, x2) true rfl rfl (HF2.out.set2 x1 x2)) rfl ⟨rfl, below_set2 HB2.out _ (Nat.le_refl _) _ _⟩

set_option maxRecDepth 100000 in
set_option maxHeartbeats 1000000 in
theorem find_any {p : Nat} {T : Tab} {w : World} {S : Nat → Prop} (h : Tb p T w S) (f : Fd) (hf : Sized f) :
    Calls Try.prog 69 #[.pointer (some ⟨p, 0, none⟩), .agg #[.string f.1, .string f.2]] w fun e w' => e = .returned (find3 (findT T.l T.first f)) ∧ Below w.heap.size w w' := by
  obtain ⟨f1, f2⟩ := f
  obtain ⟨v, bw, bn, Dw, Dn, h1, h2, h3⟩ := h.tr
  have HSF := Bx.mk hf
  have HSS : Bx (Short f1) := ⟨hf.1⟩
  have HT1 := Bx.mk (h1.alloc (.cells #[.string f1, .string f2] 58))
  have HF1 := Bx.mk (Fb.new 58 w (f1, f2))
  have HW := Bx.mk h2
  have HN := Bx.mk h3
  obtain ⟨fr, hfr⟩ : ∃ fr, T.first = fr := ⟨_, rfl⟩
  rw [hfr] at HW HN ⊢
  clear h h1 h2 h3 hf hfr
  obtain ⟨d0, d1, d2, d3, d4, d5⟩ := HT1.out.drew.cells
  obtain ⟨e1, e2⟩ := (HF1.out.keep (Below.refl _ _).drew).cells
  have hlk := lookWok HT1.out.drew.mw HW.out HSF.out
  cases hx : nw (hasF (f1, f2)) fr T.l with
  | some a =>
    rw [hx] at hlk
    have HFT : Bx (findT T.l fr (f1, f2) = (a, true, true)) := ⟨by unfold findT; rw [hx]⟩
    rw [HFT.out]
    clear hx
    simp only [Option.getD_some, Option.isSome_some] at hlk
    go_enter Try.func69, Try.ntmps69
    go_wp2_with fail
    go_region
    go_wp2_with fail
    go_ret3
    exact ⟨rfl, ((Below.refl w.heap.size w).alloc (Nat.le_refl _) _).drew⟩
  | none =>
    rw [hx] at hlk
    simp only [Option.getD_none, Option.isSome_none] at hlk
    have hlk2 := lookNok HT1.out.drew.drew.mn HN.out HSS.out
    cases hy : nw (hasN f1) fr T.l with
    | some a =>
      rw [hy] at hlk2
      simp only [Option.getD_some, Option.isSome_some] at hlk2
      have HFT : Bx (findT T.l fr (f1, f2) = (a, true, false)) := ⟨by unfold findT; rw [hx, hy]⟩
      rw [HFT.out]
      clear hx hy
      go_enter Try.func69, Try.ntmps69
      go_wp2_with fail
      go_region
      go_wp2_with fail
      go_region
      go_wp2_with fail
      go_ret3
      exact ⟨rfl, ((Below.refl w.heap.size w).alloc (Nat.le_refl _) _).drew.drew⟩
    | none =>
      rw [hy] at hlk2
      simp only [Option.getD_none, Option.isSome_none] at hlk2
      have HFT : Bx (findT T.l fr (f1, f2) = (0, false, false)) := ⟨by unfold findT; rw [hx, hy]⟩
      rw [HFT.out]
      clear hx hy
      go_enter Try.func69, Try.ntmps69
      go_wp2_with fail
      go_region
      go_wp2_with fail
      go_region
      go_wp2_with fail
      go_ret3
      exact ⟨rfl, ((Below.refl w.heap.size w).alloc (Nat.le_refl _) _).drew.drew⟩

end Go.Proofs.Ythnaapjefedalaa

/-
  Contracts of the document's table: NewTable, fit, Resize, Add.
-/
namespace Go.Proofs.Ythnaapjefedalaa
open Go.RowKit Go.Maps
set_option linter.unusedVariables false

section
variable {q : Nat} {T : Tab} {w : World} {S : Nat → Prop}
theorem Rt.cells (h : Rt q T w S) : ∃ v, w.cell? ⟨q, 0, none⟩ = some v ∧ w.cell? ⟨q, 1, none⟩ = some (.int .i64 (T.cap : Int)) ∧ w.cell? ⟨q, 2, none⟩ = some (.int .u64 (T.tot : Int)) ∧ (∀ i, w.frozen? ⟨q, i, none⟩ = false) ∧ St w v T.l := by
  obtain ⟨v, h1, h2, _⟩ := h
  exact ⟨v, h1.cell (by omega), h1.cell (by omega), h1.cell (by omega), fun i => h1.frozen i, h2⟩
theorem Rt.setCap (h : Rt q T w S) (n : Nat) (hn : n ≤ 1000000) : Turn (Rt q ⟨T.l, n, T.tot⟩) S w (w.setCell ⟨q, 1, none⟩ (.int .i64 (n : Int))) := by
  obtain ⟨v, h1, h2, h3, h4, h5, h6⟩ := h
  exact ⟨S, ⟨v, (h1.set 1 _).congr (fun j hj => by unfold rF; match j, hj with | 0, _ => rfl | 1, _ => rfl | 2, _ => rfl), h2.grown (grown_set w q 1 _) (fun k hk e => h3 k hk (Option.some.inj e)), h3, h4, fun k hk => by simp [World.setCell]; exact h5 k hk, ⟨h6.len, h6.size, hn, h6.tot⟩⟩, fun k hk => .inl hk, Fp.set _ _ _ _ h4.1⟩
theorem Rt.setTot (h : Rt q T w S) (n : Nat) (hn : T.l.length ≤ n) (hm : n ≤ 1000000) : Turn (Rt q ⟨T.l, T.cap, n⟩) S w (w.setCell ⟨q, 2, none⟩ (.int .u64 (n : Int))) := by
  obtain ⟨v, h1, h2, h3, h4, h5, h6⟩ := h
  exact ⟨S, ⟨v, (h1.set 2 _).congr (fun j hj => by unfold rF; match j, hj with | 0, _ => rfl | 1, _ => rfl | 2, _ => rfl), h2.grown (grown_set w q 2 _) (fun k hk e => h3 k hk (Option.some.inj e)), h3, h4, fun k hk => by simp [World.setCell]; exact h5 k hk, ⟨hn, h6.size, h6.cap, hm⟩⟩, fun k hk => .inl hk, Fp.set _ _ _ _ h4.1⟩
/-- The oldest one gone. -/
theorem Rt.cut {f : Fd} {l : List Fd} (h : Rt q T w S) (hl : T.l = f :: l) : ∃ v v', w.cell? ⟨q, 0, none⟩ = some v ∧ (∃ A n c, v' = .slice A n c) ∧ (∀ (k : IntKind) (W : World), (Instr.slice 31 v (some (.int k 1)) none none).run Try.prog W = .ok v' W) ∧ Turn (Rt q ⟨l, T.cap, T.tot⟩) S w (w.setCell ⟨q, 0, none⟩ v') := by
  obtain ⟨v, h1, h2, h3, h4, h5, h6⟩ := h
  obtain ⟨L, cap, tot⟩ := T
  simp only at hl
  subst hl
  obtain ⟨g, o, hvo, _, _, _, v', hsl, htl, hvo'⟩ := h2.head
  have hlen := h6.len
  have hsz := h6.size
  simp only [List.length_cons, sizeF] at hlen hsz
  have hsv : ∀ k, v'.ownBlock = some k → v.ownBlock = some k := fun k hk => by rw [hvo, ← hvo', hk]
  obtain ⟨av, nv, cv, rfl⟩ := slice_of_own hvo'
  refine ⟨v, _, h1.cell (by omega), ⟨_, _, _, rfl⟩, hsl, S, ⟨_, (h1.set 0 _).congr (fun j hj => by unfold rF; match j, hj with | 0, _ => rfl | 1, _ => rfl | 2, _ => rfl), (htl w f h2).grown (grown_set w q 0 _) (fun k hk e => h3 k (hsv k hk) (Option.some.inj e)), fun k hk => h3 k (hsv k hk), ⟨h4.1, fun k hk => h4.2 k (hsv k hk)⟩, fun k hk => by simp [World.setCell]; exact h5 k hk, ⟨by show l.length ≤ tot; omega, by show sizeF l ≤ _; omega, h6.cap, h6.tot⟩⟩, fun k hk => .inl hk, Fp.set _ _ _ _ h4.1⟩
end

set_option maxRecDepth 100000 in
set_option maxHeartbeats 1000000 in
theorem newTable_any (n : Int) (w : World) (hn : n ≤ 1000000) :
    Calls Try.prog 29 #[.int .i64 n] w fun e w' => ∃ q S, e = .returned (.pointer (some ⟨q, 0, none⟩)) ∧ Rt q (Tab.new n) w' S ∧ (∀ k, S k → w.heap.size ≤ k) ∧ Below w.heap.size w w' := by
  have HN := Bx.mk hn
  clear hn
  go_enter Try.func29, Try.ntmps29
  go_wp2
  go_ret
  have hmx : max n 0 = ((n.toNat : Nat) : Int) := by omega
  rw [hmx]
  have hrow := World.rowIs_alloc w #[.slice none 0 0, .int .i64 (n.toNat : Int), .int .u64 0] 41 (rF (.slice none 0 0) n.toNat 0) (fun j hj => by
    have : j < 3 := hj
    unfold rF
    match j, this with
    | 0, _ => rfl
    | 1, _ => rfl
    | 2, _ => rfl)
  have HN := HN.out
  exact ⟨w.heap.size, fun k => k = w.heap.size, rfl, ⟨.slice none 0 0, hrow, St.nil _, fun k hk => by simp [Value.ownBlock] at hk, ⟨rfl, fun k hk => by simp [Value.ownBlock] at hk⟩, fun k hk => by subst hk; simp, Tab.new_ok HN⟩, fun k hk => by subst hk; exact Nat.le_refl _, (Below.refl _ _).alloc (Nat.le_refl _) _⟩

set_option maxRecDepth 100000 in
set_option maxHeartbeats 1000000 in
theorem fit_any {q : Nat} {T : Tab} {w : World} {S : Nat → Prop} (h : Rt q T w S) (room : Int) :
    Calls Try.prog 57 #[.pointer (some ⟨q, 0, none⟩), .int .i64 room] w fun e w' => e = .returned (.int .i64 (T.went room : Int)) ∧ Turn (Rt q ⟨fits room T.l, T.cap, T.tot⟩) S w w' := by
  have HT := Bx.mk h
  obtain ⟨L0, cap, tot⟩ := T
  have HLEN : Bx (L0.length ≤ 31250) := ⟨h.ok.short⟩
  obtain ⟨R, hR⟩ : ∃ R, Tab.went ⟨L0, cap, tot⟩ room = R := ⟨_, rfl⟩
  rw [hR]
  have HR : Bx (L0.length - (fits room L0).length = R) := ⟨hR⟩
  clear h hR
  go_enter Try.func57, Try.ntmps57
  go_wp2
  go_loopg [5] L0.length (fun g s5 wx => ∃ (k : Nat) (L : List Fd), k + L.length = L0.length ∧ L.length = g ∧ s5 = .int .i64 k ∧ Bx (fits room L = fits room L0) ∧ Bx (Turn (Rt q ⟨L, cap, tot⟩) S w wx))
  case atStart => exact ⟨0, L0, by omega, rfl, rfl, ⟨rfl⟩, ⟨Turn.refl HT.out (Below.refl _ _)⟩⟩
  case round =>
    obtain ⟨k, L, hk, hg, rfl, HFI, HTU⟩ := hrel
    obtain ⟨S1, hX, hs1, hf1⟩ := HTU.out
    have HX := Bx.mk hX
    have HS1 := Bx.mk hs1
    have HF1 := Bx.mk hf1
    obtain ⟨v, d0, _, _, df, hst⟩ := hX.cells
    have hlen := fun ty W => hst.fs.run_len ty W
    have HFS := Bx.mk hst.fs
    have hsz := hX.ok.size
    clear hs1 hf1 hst df hX
    simp only at hlen hsz
    obtain ⟨m, hm⟩ : ∃ m, L.length = m := ⟨_, rfl⟩
    rw [hm] at hlen
    have HM := Bx.mk hm
    clear hm
    cases L with
    | nil =>
      obtain rfl : 0 = m := HM.out
      have HFI2 : Bx (([] : List Fd) = fits room L0) := ⟨HFI.out⟩
      have HKR : Bx (k = R) := ⟨by have := HR.out; rw [← HFI2.out] at this; simp only [List.length_nil] at *; omega⟩
      rw [HFI2.out] at HTU
      go_wp2_with fail
      go_ret
      exact ⟨by have := HKR.out; subst this; rfl, HTU.out⟩
    | cons f l =>
      have hm0 : 0 < m := by have := HM.out; simp only [List.length_cons] at this; omega
      have hd2 : decide ((0 : Int) < (m : Int)) = true := decide_eq_true (by omega)
      have hd3 : decide (0 < m) = true := decide_eq_true hm0
      obtain ⟨z, hz⟩ : ∃ z, sizeF (f :: l) = z := ⟨_, rfl⟩
      have HZ := Bx.mk hz
      have HSZ := Bx.mk hsz
      clear hsz hz
      go_wp2_with fail
      refine (refSize_any v (f :: l) _ HFS.out (by have := HSZ.out; omega)).mono ?_
      rintro e w2 ⟨rfl, hb2⟩
      rw [HZ.out]
      have HX2 := Bx.mk (HX.out.keep hb2)
      have HB2 := Bx.mk hb2
      clear hb2 d0
      by_cases hgt : room < (z : Int)
      · have hd4 : decide (room < (z : Int)) = true := decide_eq_true hgt
        have HGO := Bx.mk (fits_cons_go (show room < (sizeF (f :: l) : Int) by rw [HZ.out]; exact hgt))
        obtain ⟨v0, v', c0, ⟨A, n, c, rfl⟩, hsl, ht⟩ := HX2.out.cut rfl
        have hsl0 := hsl .i64
        obtain ⟨_, _, _, _, df, _⟩ := HX2.out.cells
        have df0 := df 0
        have HT3 : Bx (Turn (Rt q ⟨l, cap, tot⟩) S w (w2.setCell ⟨q, 0, none⟩ (.slice A n c))) := ⟨Turn.step HS1.out (HF1.out.then (Fp.of_below HB2.out)) ht⟩
        obtain ⟨g', rfl⟩ : ∃ g', gk = g' + 1 := ⟨l.length, by rw [← hg]; rfl⟩
        have hkk : k ≤ 31250 := by have := HLEN.out; omega
        clear ht hsl df hgt hm0
        go_wp2_with fail
        go_roundg g'
        case measure => omega
        case rel => exact ⟨k + 1, l, by simp only [List.length_cons] at hk; omega, by simp only [List.length_cons] at hg; omega, by go_num, ⟨by rw [← HGO.out]; exact HFI.out⟩, HT3⟩
      · have hd4 : decide (room < (z : Int)) = false := decide_eq_false hgt
        have hfin : fits room (f :: l) = f :: l := fits_all (by rw [HZ.out]; omega)
        have HFI2 : Bx (f :: l = fits room L0) := ⟨by rw [← hfin]; exact HFI.out⟩
        have HKR : Bx (k = R) := ⟨by have := HR.out; rw [← HFI2.out] at this; simp only [List.length_cons] at *; omega⟩
        have HT3 : Bx (Turn (Rt q ⟨fits room L0, cap, tot⟩) S w w2) := ⟨by rw [← HFI2.out]; exact Turn.step HS1.out HF1.out (Turn.refl HX2.out HB2.out)⟩
        clear hgt hfin
        go_wp2_with fail
        go_ret
        exact ⟨by have := HKR.out; subst this; rfl, HT3.out⟩

set_option maxRecDepth 100000 in
set_option maxHeartbeats 1000000 in
theorem refResize_any {q : Nat} {T : Tab} {w : World} {S : Nat → Prop} (h : Rt q T w S) (n : Int) (hn : n ≤ 1000000) :
    Calls Try.prog 41 #[.pointer (some ⟨q, 0, none⟩), .int .i64 n] w fun e w' => e = .returned (.int .i64 (T.went (n.toNat : Int) : Int)) ∧ Turn (Rt q (T.resize n)) S w w' := by
  have HT := Bx.mk h
  obtain ⟨_, _, c4, _, df, _⟩ := h.cells
  have f4 := df 1
  have HN := Bx.mk hn
  clear h hn df
  have hmx : max n 0 = ((n.toNat : Nat) : Int) := by omega
  have HMX := Bx.mk hmx
  obtain ⟨R, hR⟩ : ∃ R, T.went (n.toNat : Int) = R := ⟨_, rfl⟩
  rw [hR]
  have HRR := Bx.mk hR
  clear hmx hR
  go_enter Try.func41, Try.ntmps41
  go_wp2_with fail
  rw [HMX.out]
  have HT1 := HT.out.setCap n.toNat (by have := HN.out; omega)
  obtain ⟨S1, x1, s1, g1⟩ := HT1
  refine (fit_any x1 (n.toNat : Int)).mono ?_
  rintro e w2 ⟨rfl, ht⟩
  rw [show Tab.went ⟨T.l, n.toNat, T.tot⟩ (n.toNat : Int) = R from HRR.out]
  have HT2 := Bx.mk (Turn.step s1 g1 ht)
  clear ht x1 s1 g1 c4 f4
  go_wp2
  go_ret
  exact ⟨rfl, HT2.out⟩

end Go.Proofs.Ythnaapjefedalaa

/-
  Contracts of the document's Abs, Newest.
-/
namespace Go.Proofs.Ythnaapjefedalaa
open Go.RowKit Go.Maps
set_option linter.unusedVariables false

theorem Rt.first {q : Nat} {T : Tab} {w : World} {S : Nat → Prop} (h : Rt q T w S) : Calls Try.prog 56 #[.pointer (some ⟨q, 0, none⟩)] w fun e w' => e = .returned (.int .u64 (T.first : Int)) ∧ Below w.heap.size w w' := by
  obtain ⟨v, h1, h2, h3, h4, h5, h6⟩ := h
  exact first_any h1 h2 h6.len h6.tot

set_option maxRecDepth 100000 in
set_option maxHeartbeats 1000000 in
theorem refNewest_any {q : Nat} {T : Tab} {w : World} {S : Nat → Prop} (h : Rt q T w S) (i : Nat) (hi : i < 18446744073709551616) :
    Calls Try.prog 59 #[.pointer (some ⟨q, 0, none⟩), .int .u64 (i : Int)] w fun e w' => e = .returned (.tuple #[aggF (entN T.l i), .bool (isN T.l i)]) ∧ Below w.heap.size w w' := by
  obtain ⟨e0, he0⟩ : ∃ e0, entN T.l i = e0 := ⟨_, rfl⟩
  obtain ⟨b0, hb0⟩ : ∃ b0, isN T.l i = b0 := ⟨_, rfl⟩
  rw [he0, hb0]
  have HE0 := Bx.mk he0
  have HB0 := Bx.mk hb0
  have HSH := Bx.mk h.ok.short
  obtain ⟨v, c0, _, _, _, hst⟩ := (h.keep ((Below.refl w.heap.size w).alloc (Nat.le_refl _) (.cells #[.string ⟨#[]⟩, .string ⟨#[]⟩] 58))).cells
  have hlen := fun ty W => hst.fs.run_len ty W
  obtain ⟨n, hn⟩ : ∃ n, T.l.length = n := ⟨_, rfl⟩
  rw [hn] at hlen
  have HN := Bx.mk hn
  have HI := Bx.mk hi
  have hnb : n ≤ 31250 := by have := HSH.out; omega
  have hwn : IntKind.u64.wrap (n : Int) = (n : Int) := by simp [IntKind.wrap, IntKind.signed, IntKind.bits]; omega
  have HNB := Bx.mk hnb
  clear h hi he0 hb0 hn hnb
  by_cases h1 : n ≤ i
  · have hd1 : decide ((n : Int) ≤ (i : Int)) = true := decide_eq_true (by omega)
    have hd2 : decide (n ≤ i) = true := decide_eq_true h1
    obtain rfl : emp = e0 := by rw [← HE0.out]; unfold entN; rw [dif_neg (by have := HN.out; omega)]
    obtain rfl : false = b0 := by rw [← HB0.out]; unfold isN; simp; have := HN.out; omega
    clear h1 hst
    go_enter Try.func59, Try.ntmps59
    go_wp2_with fail
    exact bodyPost_ret (ret_field Try.results59 _ _ w.heap.size emp false rfl rfl (Fb.new _ w emp)) rfl ⟨rfl, (Below.refl _ _).alloc (Nat.le_refl _) _⟩
  · have hd1 : decide ((n : Int) ≤ (i : Int)) = false := decide_eq_false (by omega)
    have hd2 : decide (n ≤ i) = false := decide_eq_false h1
    have hw1 : IntKind.u64.wrap ((n : Int) - 1) = ((n - 1 : Nat) : Int) := by have := HNB.out; simp [IntKind.wrap, IntKind.signed, IntKind.bits]; omega
    obtain ⟨c1, hc1⟩ : ∃ c1, n - 1 = c1 := ⟨_, rfl⟩
    rw [hc1] at hw1
    have hw2 : IntKind.u64.wrap ((c1 : Int) - (i : Int)) = ((c1 - i : Nat) : Int) := by have := HNB.out; simp [IntKind.wrap, IntKind.signed, IntKind.bits]; omega
    obtain ⟨c2, hc2⟩ : ∃ c2, c1 - i = c2 := ⟨_, rfl⟩
    rw [hc2] at hw2
    have hlt : c2 < T.l.length := by have := HN.out; omega
    obtain ⟨f1, hf1⟩ : ∃ f1, T.l[c2].1 = f1 := ⟨_, rfl⟩
    obtain ⟨f2, hf2⟩ : ∃ f2, T.l[c2].2 = f2 := ⟨_, rfl⟩
    obtain rfl : (f1, f2) = e0 := by
      have b := HN.out
      rw [← HE0.out]
      unfold entN
      rw [dif_pos (by omega), ← hf1, ← hf2]
      simp only [show T.l.length - 1 - i = c2 by omega]
    obtain rfl : true = b0 := by rw [← HB0.out]; unfold isN; simp; have := HN.out; omega
    obtain ⟨b, o, hix, hcs⟩ := hst.fs.at_ c2 hlt
    obtain ⟨q1, q2⟩ := hcs _ hst.fs
    rw [hf1] at q1
    rw [hf2] at q2
    clear h1 hc1 hc2 hst hcs hlt hf1 hf2
    go_enter Try.func59, Try.ntmps59
    go_wp2_with fail
    go_region
    go_wp2_with fail
    exact bodyPost_ret (ret_field Try.results59 _ _ w.heap.size (f1, f2) true rfl rfl ((Fb.new _ w (f1, f2)).keep (Below.refl _ _).drew)) rfl ⟨rfl, ((Below.refl w.heap.size w).alloc (Nat.le_refl _) _).drew⟩

end Go.Proofs.Ythnaapjefedalaa
