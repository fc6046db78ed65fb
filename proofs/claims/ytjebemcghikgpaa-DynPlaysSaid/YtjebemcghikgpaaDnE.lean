/-
  Contracts of the table's New, Resize, Add.
-/
import Derived.Test.YtjebemcghikgpaaDnD
import Derived.Lib.MinMax
namespace Go.Proofs.Ytjebemcghikgpaa
open Go.RowKit Go.Maps
set_option linter.unusedVariables false
set_option linter.unusedSimpArgs false

theorem Rn.keepB {k : Nat} {w w' : World} {v : Value} {n : Nat} {xs : List Value} (h : Rn k w v n xs) (hb : ∀ g, v.ownBlock = some g → w'.heap[g]? = w.heap[g]?) : Rn k w' v n xs := by
  obtain ⟨A, c, rfl, h1, h2, hl, h3⟩ := h
  refine ⟨A, c, rfl, h1, h2, hl, h3.imp id ?_⟩
  rintro ⟨x, rfl, hc⟩
  refine ⟨x, rfl, fun j u hu => ?_⟩
  rw [World.cell?_of_block (w := w) (by
    have : (x.add j).block = x.block := by unfold Addr.add; split <;> rfl
    rw [this]
    exact hb x.block rfl)]
  exact hc j u hu
theorem Fs.besides {S : Nat → Prop} {w w' : World} {v : Value} {l : List Fd} (h : Fs w v l) (hf : Fp S w w') (hs : ∀ g, v.ownBlock = some g → g < w.heap.size ∧ ¬ S g) : Fs w' v l :=
  Rn.keepB h fun g hg => hf.block g (hs g hg).1 (hs g hg).2
theorem Fb.besides {S : Nat → Prop} {t : TypeId} {w w' : World} {g : Nat} {f : Fd} (h : Fb t w g f) (hf : Fp S w w') (hs : ¬ S g) : Fb t w' g f := by
  unfold Fb; rw [hf.block g h.lt hs]; exact h
theorem Tb.cells {p : Nat} {T : Tab} {w : World} {S : Nat → Prop} (h : Tb p T w S) : w.cell? ⟨p, 4, none⟩ = some (.int .i64 (T.cap : Int)) ∧ w.frozen? ⟨p, 4, none⟩ = false := by
  obtain ⟨v, bw, bn, Dw, Dn, h1, _⟩ := h
  exact ⟨h1.cells.2.2.2.2.1, h1.free 4⟩
theorem Tb.setCap {p : Nat} {T : Tab} {w : World} {S : Nat → Prop} (h : Tb p T w S) (n : Nat) (hn : n ≤ 1000000) : Turn (Tb p ⟨T.l, n, T.tot⟩) S w (w.setCell ⟨p, 4, none⟩ (.int .i64 (n : Int))) := by
  obtain ⟨v, bw, bn, Dw, Dn, h1, h2, h3, h4, h5, h6⟩ := h
  exact ⟨S, ⟨v, bw, bn, Dw, Dn, h1.setCp n, h2, h3, h4, fun k hk => by simp [World.setCell]; exact h5 k hk, ⟨h6.len, h6.size, hn, h6.tot⟩⟩, fun k hk => .inl hk, Fp.set _ _ _ _ h4.1⟩

def Tab.adds : Tab → List Fd → Tab
  | T, [] => T
  | T, f :: l => (T.add f).adds l
def Tab.wents : Tab → List Fd → Nat
  | T, [] => 0
  | T, f :: l => T.went (T.room f) + (T.add f).wents l
theorem Tab.went_le {T : Tab} (h : T.ok) (r : Int) : T.went r ≤ 31250 := by have := h.short; unfold Tab.went; omega

set_option maxRecDepth 100000 in
set_option maxHeartbeats 1000000 in
theorem new_any (n : Int) (w : World) (hn : n ≤ 1000000) :
    Calls Try.prog 9 #[.int .i64 n] w fun e w' => ∃ p S, e = .returned (.pointer (some ⟨p, 0, none⟩)) ∧ Tb p (Tab.new n) w' S ∧ (∀ k, S k → w.heap.size ≤ k) ∧ Below w.heap.size w w' := by
  have hmw : ∀ (W : World), (Instr.makeMap 53 none).run Try.prog W = .ok (.map (some W.heap.size)) (W.alloc (.map #[] 0)) := fun W => by
    simp [Instr.makeMap, run_underlying Try.underlying53, Sem.run_bind, asInt, asIntOf, Result.andThen]
  have hmn : ∀ (W : World), (Instr.makeMap 54 none).run Try.prog W = .ok (.map (some W.heap.size)) (W.alloc (.map #[] 0)) := fun W => by
    simp [Instr.makeMap, run_underlying Try.underlying54, Sem.run_bind, asInt, asIntOf, Result.andThen]
  have HN := Bx.mk hn
  clear hn
  go_enter Try.func9, Try.ntmps9
  go_wp2
  go_ret
  have hmx : max n 0 = ((n.toNat : Nat) : Int) := by omega
  rw [hmx]
  generalize hw1 : (w.alloc (.map #[] 0)).alloc (.map #[] 0) = w1
  have hsz : w1.heap.size = w.heap.size + 1 + 1 := by rw [← hw1]; simp
  have hB1 : Below w.heap.size w w1 := by rw [← hw1]; exact ((Below.refl w.heap.size w).alloc (Nat.le_refl _) _).alloc (by simp) _
  have ho1 : w1.ownsMap Try.prog 24 (plainElem Try.prog 25) w.heap.size 0 (.map [] : DataW Unit) := by rw [← hw1]; exact (World.ownsMap_made w _ _ _).alloc _
  have ho2 : w1.ownsMap Try.prog 9 (plainElem Try.prog 25) (w.heap.size + 1) 0 (.map [] : DataW Unit) := by
    have := World.ownsMap_made (H := Unit) (w.alloc (.map #[] 0)) Try.prog 9 (plainElem Try.prog 25)
    rw [← hw1]
    simpa using this
  have hrow := World.rowIs_alloc w1 #[.slice none 0 0, .map (some w.heap.size), .map (some (w.heap.size + 1)), .int .i64 0, .int .i64 (n.toNat : Int), .int .u64 0] 56 (tF (.slice none 0 0) w.heap.size (w.heap.size + 1) 0 n.toNat 0) (fun j hj => by
    have : j < 6 := hj
    unfold tF
    match j, this with
    | 0, _ => rfl
    | 1, _ => rfl
    | 2, _ => rfl
    | 3, _ => rfl
    | 4, _ => rfl
    | 5, _ => rfl)
  rw [hsz] at hrow
  have HN := HN.out
  refine ⟨w.heap.size + 1 + 1, fun k => w.heap.size ≤ k ∧ k < w.heap.size + 1 + 1 + 1, rfl, ⟨.slice none 0 0, w.heap.size, w.heap.size + 1, .map [], .map [], ⟨hrow, St.nil _, ho1.alloc _, ho2.alloc _, by omega, fun k hk => by simp [Value.ownBlock] at hk⟩, Mp.nil _ _ _ _, Mp.nil _ _ _ _,
    ⟨by omega, by omega, by omega, fun k hk => by simp [Value.ownBlock] at hk⟩, fun k hk => by simp [hsz]; omega, Tab.new_ok HN⟩, fun k hk => hk.1, hB1.alloc hB1.size _⟩

set_option maxRecDepth 100000 in
set_option maxHeartbeats 1000000 in
theorem resize_any {p : Nat} {T : Tab} {w : World} {S : Nat → Prop} (h : Tb p T w S) (n : Int) (hn : n ≤ 1000000) :
    Calls Try.prog 11 #[.pointer (some ⟨p, 0, none⟩), .int .i64 n] w fun e w' => e = .returned (.int .i64 (T.went (n.toNat : Int) : Int)) ∧ Turn (Tb p (T.resize n)) S w w' := by
  have HT := Bx.mk h
  obtain ⟨c4, f4⟩ := h.cells
  have HN := Bx.mk hn
  clear h hn
  go_enter Try.func11, Try.ntmps11
  have hmx : max n 0 = ((n.toNat : Nat) : Int) := by omega
  have HMX := Bx.mk hmx
  obtain ⟨R, hR⟩ : ∃ R, T.went (n.toNat : Int) = R := ⟨_, rfl⟩
  rw [hR]
  have HRR := Bx.mk hR
  clear hmx hR
  go_wp2_with fail
  rw [HMX.out]
  have HT1 := HT.out.setCap n.toNat (by have := HN.out; omega)
  obtain ⟨S1, x1, s1, g1⟩ := HT1
  refine (shrink_any x1 (n.toNat : Int)).mono ?_
  rintro e w2 ⟨rfl, ht⟩
  rw [show Tab.went ⟨T.l, n.toNat, T.tot⟩ (n.toNat : Int) = R from HRR.out]
  have HT2 := Bx.mk (Turn.step s1 g1 ht)
  clear ht x1 s1 g1 c4 f4
  go_wp2
  go_ret
  exact ⟨rfl, HT2.out⟩

theorem Tab.add_fit (T : Tab) (f : Fd) (hc : fsz f + 32 ≤ T.cap) : sizeF (fits (T.room f) T.l) + (fsz f + 32) ≤ T.cap := by
  have := T.add_size f hc
  rw [sizeF_append] at this
  simpa [sizeF] using this

set_option maxRecDepth 100000 in
set_option maxHeartbeats 1000000 in
theorem add_gen {p : Nat} {T : Tab} {w : World} {S : Nat → Prop} {v : Value} {fs : List Fd} (h : Tb p T w S) (hv0 : ∀ W, Fp S w W → Fs W v fs) (ht : T.tot + fs.length ≤ 1000000) (hz : ∀ f ∈ fs, fsz f ≤ 1000000) :
    Calls Try.prog 13 #[.pointer (some ⟨p, 0, none⟩), v] w fun e w' => e = .returned (.int .i64 (T.wents fs : Int)) ∧ Turn (Tb p (T.adds fs)) S w w' := by
  have HT := Bx.mk h
  have HV := Bx.mk hv0
  have hv := hv0 w (Fp.refl _ _)
  have HV0 := Bx.mk hv
  have HTT := Bx.mk ht
  have HZ := Bx.mk hz
  have hlen := fun ty W => hv.run_len ty W
  clear h hv hv0 ht hz
  go_enter Try.func13, Try.ntmps13
  go_wp2
  go_loopg [5, 11] fs.length (fun g s5 s11 wx => ∃ (k r : Nat) (T1 : Tab), k + g = fs.length ∧ s11 = .int .i64 k ∧ s5 = .int .i64 r ∧ Bx (r + T1.wents (fs.drop k) = T.wents fs) ∧ r ≤ 31250 * k ∧ Bx (T1.adds (fs.drop k) = T.adds fs) ∧ Bx (T1.tot + (fs.drop k).length ≤ 1000000) ∧ Bx (Turn (Tb p T1) S w wx))
  case atStart => exact ⟨0, 0, T, by omega, rfl, rfl, ⟨by simp⟩, by omega, ⟨rfl⟩, HTT, ⟨Turn.refl HT.out (Below.refl _ _)⟩⟩
  case round =>
    obtain ⟨k, r, T1, hkg, rfl, rfl, HR, hrk, HA, HTO, HTU⟩ := hrel
    cases gk with
    | zero =>
      obtain rfl : k = fs.length := by omega
      have HR2 : Bx (r = T.wents fs) := ⟨by have := HR.out; rw [List.drop_length] at this; simpa [Tab.wents] using this⟩
      have HA2 : Bx (T1 = T.adds fs) := ⟨by have := HA.out; rw [List.drop_length] at this; simpa [Tab.adds] using this⟩
      go_wp2
      go_ret
      rw [← HR2.out, ← HA2.out]
      exact ⟨rfl, HTU.out⟩
    | succ g =>
      have hk : k < fs.length := by omega
      obtain ⟨S1, x1, s1, g1⟩ := HTU.out
      obtain ⟨b, o, hix, hcs⟩ := HV0.out.at_ k hk
      obtain ⟨hc1, hc2⟩ := hcs wr (HV.out wr g1)
      have hdrop : fs.drop k = fs[k] :: fs.drop (k + 1) := List.drop_eq_getElem_cons hk
      have HFZ := Bx.mk (HZ.out fs[k] (List.getElem_mem hk))
      rw [hdrop] at HR HA HTO
      obtain ⟨f1, hf1⟩ : ∃ f1, fs[k].1 = f1 := ⟨_, rfl⟩
      obtain ⟨f2, hf2⟩ : ∃ f2, fs[k].2 = f2 := ⟨_, rfl⟩
      rw [hf1] at hc1
      rw [hf2] at hc2
      rw [show fs[k] = (f1, f2) from by rw [← hf1, ← hf2]] at HR HA HTO HFZ
      have HX1 := Bx.mk x1
      have HS1 := Bx.mk s1
      have HG1 := Bx.mk g1
      have hkl : k ≤ 1000000 := by have := HTT.out; omega
      clear hf1 hf2 hcs hdrop x1 s1 g1
      go_wp2_with fail
      obtain ⟨n1, hn1⟩ : ∃ n1, fsz (f1, f2) + 32 = n1 := ⟨_, rfl⟩
      refine (size_any _ [(f1, f2)] _ (Fs.one (wr.alloc (.cells #[.string f1, .string f2] 24)) _ (by simp) (f1, f2)) (by have := HFZ.out; simp only [sizeF]; omega)).mono ?_
      rintro e w2 ⟨rfl, hb2⟩
      rw [show sizeF [(f1, f2)] = n1 by rw [← hn1]; simp [sizeF]]
      have HN1 := Bx.mk hn1
      have hB2 : Below wr.heap.size wr w2 := (((Below.refl wr.heap.size wr).alloc (Nat.le_refl _) _).alloc (by simp) _).trans (hb2.mono (by simp; omega))
      have HF2 := Bx.mk (((Fb.new 24 wr (f1, f2)).alloc (.cells #[.string f1, .string f2] 24)).keep hb2)
      have HX2 := Bx.mk (HX1.out.keep hB2)
      have HB2 := Bx.mk hB2
      obtain ⟨c4, f4⟩ := HX2.out.cells
      have hcap := HX2.out.ok.cap
      have hnb : n1 ≤ 1000032 := by have := HFZ.out; have := HN1.out; omega
      have hws : IntKind.i64.wrap ((T1.cap : Int) - (n1 : Int)) = (T1.cap : Int) - (n1 : Int) := by simp only [IntKind.wrap_i64]; omega
      clear hn1 hb2 hB2 hc1 hc2
      go_wp2_with fail
      have hroom : (T1.cap : Int) - (n1 : Int) = T1.room (f1, f2) := by unfold Tab.room; rw [← HN1.out]
      rw [hroom]
      refine (shrink_any HX2.out (T1.room (f1, f2))).mono ?_
      rintro e w3 ⟨rfl, ht3⟩
      obtain ⟨q, hq⟩ : ∃ q, T1.went (T1.room (f1, f2)) = q := ⟨_, rfl⟩
      have hqle : q ≤ 31250 := by rw [← hq]; exact Tab.went_le HX2.out.ok _
      rw [hq]
      have HQ := Bx.mk hq
      obtain ⟨S3, x3, s3, g3⟩ := ht3
      have hnS : ¬ S1 wr.heap.size := fun hc => Nat.lt_irrefl _ (HX1.out.lt _ hc)
      have HF3 := Bx.mk (HF2.out.besides g3 hnS)
      have HX3 := Bx.mk x3
      have hT3 : Turn (Tb p ⟨fits (T1.room (f1, f2)) T1.l, T1.cap, T1.tot⟩) S w w3 := Turn.step HS1.out (HG1.out.then (Fp.of_below HB2.out)) ⟨S3, x3, s3, g3⟩
      have HT3 := Bx.mk hT3
      have hs3 : ∀ k, S3 k → S k ∨ w.heap.size ≤ k := fun k hk => (s3 k hk).elim (HS1.out k) fun h => .inr (Nat.le_trans HG1.out.size (Nat.le_trans HB2.out.size h))
      have hg3 : Fp S w w3 := (HG1.out.then (Fp.of_below HB2.out)).trans g3 HS1.out
      have HS3 := Bx.mk hs3
      have HG3 := Bx.mk hg3
      obtain ⟨c4', f4'⟩ := HX3.out.cells
      obtain ⟨e1, e2⟩ := HF3.out.cells
      have hwr : IntKind.i64.wrap ((r : Int) + (q : Int)) = ((r + q : Nat) : Int) := by simp only [IntKind.wrap_i64]; omega
      have HTO2 : Bx ((T1.add (f1, f2)).tot + (fs.drop (k + 1)).length ≤ 1000000) := ⟨by have h1 := HTO.out; have h2 := T1.add_tot_le (f1, f2); simp only [List.length_cons] at h1; omega⟩
      have HR2 : Bx (r + q + (T1.add (f1, f2)).wents (fs.drop (k + 1)) = T.wents fs) := ⟨by have h := HR.out; rw [Tab.wents, HQ.out] at h; omega⟩
      have HA2 : Bx ((T1.add (f1, f2)).adds (fs.drop (k + 1)) = T.adds fs) := ⟨by have h := HA.out; rw [Tab.adds] at h; exact h⟩
      have HT1O := Bx.mk (show T1.tot + 1 ≤ 1000000 by have h1 := HTO.out; simp only [List.length_cons] at h1; omega)
      clear hq hT3 x3 s3 g3 hs3 hg3 HR HA HTO HTU HX1 HS1 HG1 HX2 HF2 HB2 c4 f4 hws hroom hnS
      by_cases hle : n1 ≤ T1.cap
      · have hd1 : decide ((n1 : Int) ≤ (T1.cap : Int)) = true := decide_eq_true (by omega)
        have hd2 : decide (n1 ≤ T1.cap) = true := decide_eq_true hle
        have hc : fsz (f1, f2) + 32 ≤ T1.cap := by rw [HN1.out]; exact hle
        have hadd : T1.add (f1, f2) = ⟨fits (T1.room (f1, f2)) T1.l ++ [(f1, f2)], T1.cap, T1.tot + 1⟩ := by unfold Tab.add; rw [if_pos hc]
        have HAD := Bx.mk hadd
        have HFI := Bx.mk (T1.add_fit (f1, f2) hc)
        have HCAP := Bx.mk hcap
        clear hadd hle hc hcap
        go_wp2_with fail
        refine (enter_turn (f := (f1, f2)) HX3.out HT1O.out (by have h1 := HFI.out; have h2 := HCAP.out; show sizeF (fits (T1.room (f1, f2)) T1.l) + _ ≤ _; omega)).mono ?_
        rintro e w4 ⟨rfl, ht4⟩
        have HT4 : Bx (Turn (Tb p (T1.add (f1, f2))) S w w4) := ⟨by rw [HAD.out]; exact Turn.step HS3.out HG3.out ht4⟩
        clear ht4
        go_wp2
        go_roundg g
        case measure => omega
        case rel => exact ⟨k + 1, r + q, _, by omega, by go_num, rfl, HR2, by omega, HA2, HTO2, HT4⟩
      · have hd1 : decide ((n1 : Int) ≤ (T1.cap : Int)) = false := decide_eq_false (by omega)
        have hd2 : decide (n1 ≤ T1.cap) = false := decide_eq_false hle
        have hadd : T1.add (f1, f2) = ⟨fits (T1.room (f1, f2)) T1.l, T1.cap, T1.tot⟩ := by unfold Tab.add; rw [if_neg (by rw [HN1.out]; exact hle)]
        have HT4 : Bx (Turn (Tb p (T1.add (f1, f2))) S w w3) := ⟨by rw [hadd]; exact HT3.out⟩
        clear hadd hle hcap
        go_wp2_with fail
        go_roundg g
        case measure => omega
        case rel => exact ⟨k + 1, r + q, _, by omega, by go_num, rfl, HR2, by omega, HA2, HTO2, HT4⟩

theorem add_any {p : Nat} {T : Tab} {w : World} {S : Nat → Prop} {v : Value} {fs : List Fd} (h : Tb p T w S) (hv : Fs w v fs) (hs : ∀ g, v.ownBlock = some g → g < w.heap.size ∧ ¬ S g) (ht : T.tot + fs.length ≤ 1000000) (hz : ∀ f ∈ fs, fsz f ≤ 1000000) :
    Calls Try.prog 13 #[.pointer (some ⟨p, 0, none⟩), v] w fun e w' => e = .returned (.int .i64 (T.wents fs : Int)) ∧ Turn (Tb p (T.adds fs)) S w w' :=
  add_gen h (fun W hf => hv.besides hf hs) ht hz

end Go.Proofs.Ytjebemcghikgpaa
