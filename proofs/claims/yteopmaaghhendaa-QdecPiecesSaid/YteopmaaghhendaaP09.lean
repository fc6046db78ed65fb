/-
  Texts put together: DnD, DnE, DnF, DnG, DnH, DnI, DnJ, DnK, DnL, Wd, Up, DnOpenF, QaA, FdQ.
-/
import Derived.Test.YteopmaaghhendaaP05
import Derived.Lib.MinMax
import Derived.BigQuiet
import Derived.Test.YteopmaaghhendaaP07
import Derived.Deep.Slices
import Derived.SizedLaws
import Derived.Test.YteopmaaghhendaaP01
import Derived.Test.YteopmaaghhendaaP08
import Derived.BigRegion

/-
  Contracts of the table's shrink, and of drop and enter as turns of the table.
-/
namespace Go.Proofs.Yteopmaaghhendaa
open Go.RowKit Go.Maps
set_option linter.unusedVariables false

theorem Fp.mono {S S' : Nat → Prop} {w w' : World} (h : Fp S w w') (hs : ∀ k, S k → S' k) : Fp S' w w' := ⟨h.os, h.tape, h.output, h.size, fun k hk hn => h.block k hk fun hk => hn (hs k hk)⟩

theorem Turn.step {Y : World → (Nat → Prop) → Prop} {S S1 : Nat → Prop} {a b c : World} (s1 : ∀ k, S1 k → S k ∨ a.heap.size ≤ k) (f1 : Fp S a b) (ht : Turn Y S1 b c) : Turn Y S a c := by
  obtain ⟨S2, y2, s2, f2⟩ := ht
  refine ⟨S2, y2, fun i hi => ?_, f1.trans f2 s1⟩
  rcases s2 i hi with h | h
  · exact s1 i h
  · exact .inr (Nat.le_trans f1.size h)

theorem drop_turn {p : Nat} {T : Tab} {w : World} {S : Nat → Prop} {f : Fd} {l : List Fd} (h : Tb p T w S) (hl : T.l = f :: l) :
    Calls Try.prog 99 #[.pointer (some ⟨p, 0, none⟩)] w fun e w' => e = .returned (.tuple #[]) ∧ Turn (Tb p ⟨l, T.cap, T.tot⟩) S w w' := by
  obtain ⟨v, bw, bn, Dw, Dn, h1, h2, h3, h4, h5, h6⟩ := h
  obtain ⟨L, cap, tot⟩ := T
  simp only at hl
  subst hl
  have hlen := h6.len
  simp only [List.length_cons] at hlen
  have hfi : Tab.first ⟨f :: l, cap, tot⟩ = tot - (l.length + 1) := rfl
  rw [hfi] at h2 h3
  refine (drop_any h1 h2 h3 (by show tot - (l.length + 1) + (l.length + 1) = tot; omega) h6.tot h6.size).mono ?_
  rintro e w' ⟨rfl, v', Dw', Dn', t1, t2, t3, t4, t5⟩
  have hs : sizeF (f :: l) = fsz f + 32 + sizeF l := rfl
  have hsz := h6.size
  have hcap := h6.cap
  have htot := h6.tot
  simp only at hsz hcap htot
  have hfi2 : Tab.first ⟨l, cap, tot⟩ = tot - (l.length + 1) + 1 := by show tot - l.length = _; omega
  refine ⟨rfl, S, ⟨v', bw, bn, Dw', Dn', t1, ?_, ?_, ⟨h4.1, h4.2.1, h4.2.2.1, fun k hk => h4.2.2.2 k (t2 ▸ hk)⟩, fun k hk => Nat.lt_of_lt_of_le (h5 k hk) t5.size, ⟨by show l.length ≤ tot; omega, by show sizeF l ≤ _; omega, hcap, htot⟩⟩, fun k hk => .inl hk, t5.mono ?_⟩
  · rw [hfi2]; exact t3
  · rw [hfi2]; exact t4
  · rintro k (rfl | rfl | rfl | hk)
    · exact h4.1
    · exact h4.2.1
    · exact h4.2.2.1
    · exact h4.2.2.2 k hk

theorem enter_turn {p : Nat} {T : Tab} {w : World} {S : Nat → Prop} {f : Fd} (h : Tb p T w S) (ht : T.tot + 1 ≤ 1000000) (hs : sizeF T.l + (fsz f + 32) ≤ 1000000) :
    Calls Try.prog 88 #[.pointer (some ⟨p, 0, none⟩), .agg #[.string f.1, .string f.2]] w fun e w' => e = .returned (.tuple #[]) ∧ Turn (Tb p ⟨T.l ++ [f], T.cap, T.tot + 1⟩) S w w' := by
  obtain ⟨v, bw, bn, Dw, Dn, h1, h2, h3, h4, h5, h6⟩ := h
  have hlen := h6.len
  refine (enter_any h1 h2 h3 (show T.tot - T.l.length + T.l.length = T.tot by omega) h6.tot hs h6.tot h6.tot).mono ?_
  rintro e w' ⟨rfl, v', Dw', Dn', t1, t2, t3, t4, t5⟩
  have hfi2 : Tab.first ⟨T.l ++ [f], T.cap, T.tot + 1⟩ = T.first := by show T.tot + 1 - (T.l ++ [f]).length = T.tot - T.l.length; rw [List.length_append, List.length_singleton]; omega
  refine ⟨rfl, fun k => S k ∨ (w.heap.size ≤ k ∧ k < w'.heap.size), ⟨v', bw, bn, Dw', Dn', t1, ?_, ?_, ⟨.inl h4.1, .inl h4.2.1, .inl h4.2.2.1, fun k hk => ?_⟩, ?_, ⟨?_, ?_, h6.cap, ht⟩⟩, ?_, t5.mono ?_⟩
  · rw [hfi2]; exact t3
  · rw [hfi2]; exact t4
  · rcases t2 with e | ⟨g, e, hg⟩
    · exact .inl (h4.2.2.2 k (e ▸ hk))
    · have := t1.st.lt hk
      rw [e] at hk
      injection hk with hk
      subst hk
      exact .inr ⟨hg, this⟩
  · rintro k (hk | hk)
    · exact Nat.lt_of_lt_of_le (h5 k hk) t5.size
    · exact hk.2
  · show (T.l ++ [f]).length ≤ T.tot + 1
    rw [List.length_append, List.length_singleton]; omega
  · show sizeF (T.l ++ [f]) ≤ _
    rw [sizeF_append]
    simp only [sizeF]
    omega
  · rintro k (hk | hk)
    · exact .inl hk
    · exact .inr hk.1
  · rintro k (rfl | rfl | rfl | hk)
    · exact h4.1
    · exact h4.2.1
    · exact h4.2.2.1
    · exact h4.2.2.2 k hk

set_option maxRecDepth 100000 in
set_option maxHeartbeats 1000000 in
theorem shrink_any {p : Nat} {T : Tab} {w : World} {S : Nat → Prop} (h : Tb p T w S) (room : Int) :
    Calls Try.prog 87 #[.pointer (some ⟨p, 0, none⟩), .int .i64 room] w fun e w' => e = .returned (.int .i64 (T.went room : Int)) ∧ Turn (Tb p ⟨fits room T.l, T.cap, T.tot⟩) S w w' := by
  have HT := Bx.mk h
  obtain ⟨L0, cap, tot⟩ := T
  have HLEN : Bx (L0.length ≤ 31250) := ⟨h.ok.short⟩
  obtain ⟨R, hR⟩ : ∃ R, Tab.went ⟨L0, cap, tot⟩ room = R := ⟨_, rfl⟩
  rw [hR]
  have HR : Bx (L0.length - (fits room L0).length = R) := ⟨hR⟩
  clear h hR
  go_enter Try.func87, Try.ntmps87
  go_wp2
  go_loopg [5] L0.length (fun g s5 wx => ∃ (k : Nat) (L : List Fd), k + L.length = L0.length ∧ L.length = g ∧ s5 = .int .i64 k ∧ Bx (fits room L = fits room L0) ∧ Bx (Turn (Tb p ⟨L, cap, tot⟩) S w wx))
  case atStart => exact ⟨0, L0, by omega, rfl, rfl, ⟨rfl⟩, ⟨Turn.refl HT.out (Below.refl _ _)⟩⟩
  case round =>
    obtain ⟨k, L, hk, hg, rfl, HFI, HTU⟩ := hrel
    obtain ⟨S1, hX, hs1, hf1⟩ := HTU.out
    have HX := Bx.mk hX
    have HS1 := Bx.mk hs1
    have HF1 := Bx.mk hf1
    obtain ⟨v, bw, bn, Dw, Dn, h1, _⟩ := hX
    obtain ⟨d0, d1, d2, d3, d4, d5⟩ := h1.cells
    have hlen := fun ty W => h1.st.fs.run_len ty W
    clear h1 hs1 hf1
    simp only at d0 d1 d2 d3 d4 d5 hlen
    obtain ⟨m, hm⟩ : ∃ m, L.length = m := ⟨_, rfl⟩
    rw [hm] at hlen
    have HM := Bx.mk hm
    clear hm
    by_cases hgo : room < (sizeF L : Int) ∧ L ≠ []
    · obtain ⟨hgt, hne⟩ := hgo
      obtain ⟨f, l, rfl⟩ : ∃ f l, L = f :: l := List.exists_cons_of_ne_nil hne
      have HGO := Bx.mk (fits_cons_go hgt)
      have hd1 : decide (room < (sizeF (f :: l) : Int)) = true := by simpa using hgt
      have hm0 : 0 < m := by have := HM.out; simp only [List.length_cons] at this; omega
      have hd2 : decide ((0 : Int) < (m : Int)) = true := decide_eq_true (by omega)
      have hd3 : decide (0 < m) = true := decide_eq_true hm0
      clear hgt hne
      go_wp2_with fail
      refine (drop_turn HX.out rfl).mono ?_
      rintro e w2 ⟨rfl, ht⟩
      have HT2 : Bx (Turn (Tb p ⟨l, cap, tot⟩) S w w2) := ⟨Turn.step HS1.out HF1.out ht⟩
      obtain ⟨g', rfl⟩ : ∃ g', gk = g' + 1 := ⟨l.length, by rw [← hg]; rfl⟩
      have hkk : k ≤ 31250 := by have := HLEN.out; omega
      clear ht hd1 hd2 hd3 hm0 hlen d0 d1 d2 d3 d4 d5
      go_wp2
      go_roundg g'
      case measure => omega
      case rel => exact ⟨k + 1, l, by simp only [List.length_cons] at hk; omega, by simp only [List.length_cons] at hg; omega, by go_num, ⟨by rw [← HGO.out]; exact HFI.out⟩, HT2⟩
    · have hfin : fits room L = L := by
        cases L with
        | nil => rfl
        | cons f l => exact fits_all (by have : ¬ room < (sizeF (f :: l) : Int) := fun h => hgo ⟨h, by simp⟩; omega)
      have HFI2 : Bx (L = fits room L0) := ⟨by rw [← hfin]; exact HFI.out⟩
      have HKR : Bx (k = R) := ⟨by have := HR.out; rw [← HFI2.out] at this; omega⟩
      rw [HFI2.out] at HTU
      by_cases hr : room < (sizeF L : Int)
      case' pos =>
        have hL : L = [] := Classical.byContradiction fun hne => hgo ⟨hr, hne⟩
        have hd1 : decide (room < (sizeF L : Int)) = true := decide_eq_true hr
        have hm0 : m = 0 := by have := HM.out; rw [hL] at this; exact this.symm
        have hd2 : decide ((0 : Int) < (m : Int)) = false := decide_eq_false (by omega)
        have hd3 : decide (0 < m) = false := decide_eq_false (by omega)
        clear hm0
        clear hr hL hgo hfin
      case' neg =>
        have hd1 : decide (room < (sizeF L : Int)) = false := decide_eq_false hr
        clear hr hgo hfin
      all_goals
        go_wp2_with fail
        go_ret
        exact ⟨by have := HKR.out; subst this; rfl, HTU.out⟩

end Go.Proofs.Yteopmaaghhendaa

/-
  Contracts of the table's New, Resize, Add.
-/
namespace Go.Proofs.Yteopmaaghhendaa
open Go.RowKit Go.Maps
set_option linter.unusedVariables false
set_option linter.unusedSimpArgs false

theorem Rn.keepB {k : Nat} {w w' : World} {v : Value} {n : Nat} {xs : List Value} (h : Rn k w v n xs) (hb : ∀ g, v.ownBlock = some g → w'.heap[g]? = w.heap[g]?) : Rn k w' v n xs := by
  obtain ⟨A, c, rfl, h1, h2, hl, h3⟩ := h
  refine ⟨A, c, rfl, h1, h2, hl, h3.imp id ?_⟩
  rintro ⟨x, rfl, hc⟩
  refine ⟨x, rfl, fun j u hu => ?_⟩
  rw [World.cell?_of_block (w := w) (by
    have : (x.add j).block = x.block := by unfold Addr.add; split <;> rfl
    rw [this]
    exact hb x.block rfl)]
  exact hc j u hu
theorem Fs.besides {S : Nat → Prop} {w w' : World} {v : Value} {l : List Fd} (h : Fs w v l) (hf : Fp S w w') (hs : ∀ g, v.ownBlock = some g → g < w.heap.size ∧ ¬ S g) : Fs w' v l :=
  Rn.keepB h fun g hg => hf.block g (hs g hg).1 (hs g hg).2
theorem Fb.besides {S : Nat → Prop} {t : TypeId} {w w' : World} {g : Nat} {f : Fd} (h : Fb t w g f) (hf : Fp S w w') (hs : ¬ S g) : Fb t w' g f := by
  unfold Fb; rw [hf.block g h.lt hs]; exact h
theorem Tb.cells {p : Nat} {T : Tab} {w : World} {S : Nat → Prop} (h : Tb p T w S) : w.cell? ⟨p, 4, none⟩ = some (.int .i64 (T.cap : Int)) ∧ w.frozen? ⟨p, 4, none⟩ = false := by
  obtain ⟨v, bw, bn, Dw, Dn, h1, _⟩ := h
  exact ⟨h1.cells.2.2.2.2.1, h1.free 4⟩
theorem Tb.setCap {p : Nat} {T : Tab} {w : World} {S : Nat → Prop} (h : Tb p T w S) (n : Nat) (hn : n ≤ 1000000) : Turn (Tb p ⟨T.l, n, T.tot⟩) S w (w.setCell ⟨p, 4, none⟩ (.int .i64 (n : Int))) := by
  obtain ⟨v, bw, bn, Dw, Dn, h1, h2, h3, h4, h5, h6⟩ := h
  exact ⟨S, ⟨v, bw, bn, Dw, Dn, h1.setCp n, h2, h3, h4, fun k hk => by simp [World.setCell]; exact h5 k hk, ⟨h6.len, h6.size, hn, h6.tot⟩⟩, fun k hk => .inl hk, Fp.set _ _ _ _ h4.1⟩

def Tab.adds : Tab → List Fd → Tab
  | T, [] => T
  | T, f :: l => (T.add f).adds l
def Tab.wents : Tab → List Fd → Nat
  | T, [] => 0
  | T, f :: l => T.went (T.room f) + (T.add f).wents l
theorem Tab.went_le {T : Tab} (h : T.ok) (r : Int) : T.went r ≤ 31250 := by have := h.short; unfold Tab.went; omega

set_option maxRecDepth 100000 in
set_option maxHeartbeats 1000000 in
theorem new_any (n : Int) (w : World) (hn : n ≤ 1000000) :
    Calls Try.prog 25 #[.int .i64 n] w fun e w' => ∃ p S, e = .returned (.pointer (some ⟨p, 0, none⟩)) ∧ Tb p (Tab.new n) w' S ∧ (∀ k, S k → w.heap.size ≤ k) ∧ Below w.heap.size w w' := by
  have hmw : ∀ (W : World), (Instr.makeMap 66 none).run Try.prog W = .ok (.map (some W.heap.size)) (W.alloc (.map #[] 0)) := fun W => by
    simp [Instr.makeMap, run_underlying Try.underlying66, Sem.run_bind, asInt, asIntOf, Result.andThen]
  have hmn : ∀ (W : World), (Instr.makeMap 67 none).run Try.prog W = .ok (.map (some W.heap.size)) (W.alloc (.map #[] 0)) := fun W => by
    simp [Instr.makeMap, run_underlying Try.underlying67, Sem.run_bind, asInt, asIntOf, Result.andThen]
  have HN := Bx.mk hn
  clear hn
  go_enter Try.func25, Try.ntmps25
  go_wp2
  go_ret
  have hmx : max n 0 = ((n.toNat : Nat) : Int) := by omega
  rw [hmx]
  generalize hw1 : (w.alloc (.map #[] 0)).alloc (.map #[] 0) = w1
  have hsz : w1.heap.size = w.heap.size + 1 + 1 := by rw [← hw1]; simp
  have hB1 : Below w.heap.size w w1 := by rw [← hw1]; exact ((Below.refl w.heap.size w).alloc (Nat.le_refl _) _).alloc (by simp) _
  have ho1 : w1.ownsMap Try.prog 56 (plainElem Try.prog 27) w.heap.size 0 (.map [] : DataW Unit) := by rw [← hw1]; exact (World.ownsMap_made w _ _ _).alloc _
  have ho2 : w1.ownsMap Try.prog 9 (plainElem Try.prog 27) (w.heap.size + 1) 0 (.map [] : DataW Unit) := by
    have := World.ownsMap_made (H := Unit) (w.alloc (.map #[] 0)) Try.prog 9 (plainElem Try.prog 27)
    rw [← hw1]
    simpa using this
  have hrow := World.rowIs_alloc w1 #[.slice none 0 0, .map (some w.heap.size), .map (some (w.heap.size + 1)), .int .i64 0, .int .i64 (n.toNat : Int), .int .u64 0] 69 (tF (.slice none 0 0) w.heap.size (w.heap.size + 1) 0 n.toNat 0) (fun j hj => by
    have : j < 6 := hj
    unfold tF
    match j, this with
    | 0, _ => rfl
    | 1, _ => rfl
    | 2, _ => rfl
    | 3, _ => rfl
    | 4, _ => rfl
    | 5, _ => rfl)
  rw [hsz] at hrow
  have HN := HN.out
  refine ⟨w.heap.size + 1 + 1, fun k => w.heap.size ≤ k ∧ k < w.heap.size + 1 + 1 + 1, rfl, ⟨.slice none 0 0, w.heap.size, w.heap.size + 1, .map [], .map [], ⟨hrow, St.nil _, ho1.alloc _, ho2.alloc _, by omega, fun k hk => by simp [Value.ownBlock] at hk⟩, Mp.nil _ _ _ _, Mp.nil _ _ _ _,
    ⟨by omega, by omega, by omega, fun k hk => by simp [Value.ownBlock] at hk⟩, fun k hk => by simp [hsz]; omega, Tab.new_ok HN⟩, fun k hk => hk.1, hB1.alloc hB1.size _⟩

set_option maxRecDepth 100000 in
set_option maxHeartbeats 1000000 in
theorem resize_any {p : Nat} {T : Tab} {w : World} {S : Nat → Prop} (h : Tb p T w S) (n : Int) (hn : n ≤ 1000000) :
    Calls Try.prog 74 #[.pointer (some ⟨p, 0, none⟩), .int .i64 n] w fun e w' => e = .returned (.int .i64 (T.went (n.toNat : Int) : Int)) ∧ Turn (Tb p (T.resize n)) S w w' := by
  have HT := Bx.mk h
  obtain ⟨c4, f4⟩ := h.cells
  have HN := Bx.mk hn
  clear h hn
  go_enter Try.func74, Try.ntmps74
  have hmx : max n 0 = ((n.toNat : Nat) : Int) := by omega
  have HMX := Bx.mk hmx
  obtain ⟨R, hR⟩ : ∃ R, T.went (n.toNat : Int) = R := ⟨_, rfl⟩
  rw [hR]
  have HRR := Bx.mk hR
  clear hmx hR
  go_wp2_with fail
  rw [HMX.out]
  have HT1 := HT.out.setCap n.toNat (by have := HN.out; omega)
  obtain ⟨S1, x1, s1, g1⟩ := HT1
  refine (shrink_any x1 (n.toNat : Int)).mono ?_
  rintro e w2 ⟨rfl, ht⟩
  rw [show Tab.went ⟨T.l, n.toNat, T.tot⟩ (n.toNat : Int) = R from HRR.out]
  have HT2 := Bx.mk (Turn.step s1 g1 ht)
  clear ht x1 s1 g1 c4 f4
  go_wp2
  go_ret
  exact ⟨rfl, HT2.out⟩

theorem Tab.add_fit (T : Tab) (f : Fd) (hc : fsz f + 32 ≤ T.cap) : sizeF (fits (T.room f) T.l) + (fsz f + 32) ≤ T.cap := by
  have := T.add_size f hc
  rw [sizeF_append] at this
  simpa [sizeF] using this

set_option maxRecDepth 100000 in
set_option maxHeartbeats 1000000 in
theorem add_gen {p : Nat} {T : Tab} {w : World} {S : Nat → Prop} {v : Value} {fs : List Fd} (h : Tb p T w S) (hv0 : ∀ W, Fp S w W → Fs W v fs) (ht : T.tot + fs.length ≤ 1000000) (hz : ∀ f ∈ fs, fsz f ≤ 1000000) :
    Calls Try.prog 70 #[.pointer (some ⟨p, 0, none⟩), v] w fun e w' => e = .returned (.int .i64 (T.wents fs : Int)) ∧ Turn (Tb p (T.adds fs)) S w w' := by
  have HT := Bx.mk h
  have HV := Bx.mk hv0
  have hv := hv0 w (Fp.refl _ _)
  have HV0 := Bx.mk hv
  have HTT := Bx.mk ht
  have HZ := Bx.mk hz
  have hlen := fun ty W => hv.run_len ty W
  clear h hv hv0 ht hz
  go_enter Try.func70, Try.ntmps70
  go_wp2
  go_loopg [5, 11] fs.length (fun g s5 s11 wx => ∃ (k r : Nat) (T1 : Tab), k + g = fs.length ∧ s11 = .int .i64 k ∧ s5 = .int .i64 r ∧ Bx (r + T1.wents (fs.drop k) = T.wents fs) ∧ r ≤ 31250 * k ∧ Bx (T1.adds (fs.drop k) = T.adds fs) ∧ Bx (T1.tot + (fs.drop k).length ≤ 1000000) ∧ Bx (Turn (Tb p T1) S w wx))
  case atStart => exact ⟨0, 0, T, by omega, rfl, rfl, ⟨by simp⟩, by omega, ⟨rfl⟩, HTT, ⟨Turn.refl HT.out (Below.refl _ _)⟩⟩
  case round =>
    obtain ⟨k, r, T1, hkg, rfl, rfl, HR, hrk, HA, HTO, HTU⟩ := hrel
    cases gk with
    | zero =>
      obtain rfl : k = fs.length := by omega
      have HR2 : Bx (r = T.wents fs) := ⟨by have := HR.out; rw [List.drop_length] at this; simpa [Tab.wents] using this⟩
      have HA2 : Bx (T1 = T.adds fs) := ⟨by have := HA.out; rw [List.drop_length] at this; simpa [Tab.adds] using this⟩
      go_wp2
      go_ret
      rw [← HR2.out, ← HA2.out]
      exact ⟨rfl, HTU.out⟩
    | succ g =>
      have hk : k < fs.length := by omega
      obtain ⟨S1, x1, s1, g1⟩ := HTU.out
      obtain ⟨b, o, hix, hcs⟩ := HV0.out.at_ k hk
      obtain ⟨hc1, hc2⟩ := hcs wr (HV.out wr g1)
      have hdrop : fs.drop k = fs[k] :: fs.drop (k + 1) := List.drop_eq_getElem_cons hk
      have HFZ := Bx.mk (HZ.out fs[k] (List.getElem_mem hk))
      rw [hdrop] at HR HA HTO
      obtain ⟨f1, hf1⟩ : ∃ f1, fs[k].1 = f1 := ⟨_, rfl⟩
      obtain ⟨f2, hf2⟩ : ∃ f2, fs[k].2 = f2 := ⟨_, rfl⟩
      rw [hf1] at hc1
      rw [hf2] at hc2
      rw [show fs[k] = (f1, f2) from by rw [← hf1, ← hf2]] at HR HA HTO HFZ
      have HX1 := Bx.mk x1
      have HS1 := Bx.mk s1
      have HG1 := Bx.mk g1
      have hkl : k ≤ 1000000 := by have := HTT.out; omega
      clear hf1 hf2 hcs hdrop x1 s1 g1
      go_wp2_with fail
      obtain ⟨n1, hn1⟩ : ∃ n1, fsz (f1, f2) + 32 = n1 := ⟨_, rfl⟩
      refine (size_any _ [(f1, f2)] _ (Fs.one (wr.alloc (.cells #[.string f1, .string f2] 56)) _ (by simp) (f1, f2)) (by have := HFZ.out; simp only [sizeF]; omega)).mono ?_
      rintro e w2 ⟨rfl, hb2⟩
      rw [show sizeF [(f1, f2)] = n1 by rw [← hn1]; simp [sizeF]]
      have HN1 := Bx.mk hn1
      have hB2 : Below wr.heap.size wr w2 := (((Below.refl wr.heap.size wr).alloc (Nat.le_refl _) _).alloc (by simp) _).trans (hb2.mono (by simp; omega))
      have HF2 := Bx.mk (((Fb.new 56 wr (f1, f2)).alloc (.cells #[.string f1, .string f2] 56)).keep hb2)
      have HX2 := Bx.mk (HX1.out.keep hB2)
      have HB2 := Bx.mk hB2
      obtain ⟨c4, f4⟩ := HX2.out.cells
      have hcap := HX2.out.ok.cap
      have hnb : n1 ≤ 1000032 := by have := HFZ.out; have := HN1.out; omega
      have hws : IntKind.i64.wrap ((T1.cap : Int) - (n1 : Int)) = (T1.cap : Int) - (n1 : Int) := by simp only [IntKind.wrap_i64]; omega
      clear hn1 hb2 hB2 hc1 hc2
      go_wp2_with fail
      have hroom : (T1.cap : Int) - (n1 : Int) = T1.room (f1, f2) := by unfold Tab.room; rw [← HN1.out]
      rw [hroom]
      refine (shrink_any HX2.out (T1.room (f1, f2))).mono ?_
      rintro e w3 ⟨rfl, ht3⟩
      obtain ⟨q, hq⟩ : ∃ q, T1.went (T1.room (f1, f2)) = q := ⟨_, rfl⟩
      have hqle : q ≤ 31250 := by rw [← hq]; exact Tab.went_le HX2.out.ok _
      rw [hq]
      have HQ := Bx.mk hq
      obtain ⟨S3, x3, s3, g3⟩ := ht3
      have hnS : ¬ S1 wr.heap.size := fun hc => Nat.lt_irrefl _ (HX1.out.lt _ hc)
      have HF3 := Bx.mk (HF2.out.besides g3 hnS)
      have HX3 := Bx.mk x3
      have hT3 : Turn (Tb p ⟨fits (T1.room (f1, f2)) T1.l, T1.cap, T1.tot⟩) S w w3 := Turn.step HS1.out (HG1.out.then (Fp.of_below HB2.out)) ⟨S3, x3, s3, g3⟩
      have HT3 := Bx.mk hT3
      have hs3 : ∀ k, S3 k → S k ∨ w.heap.size ≤ k := fun k hk => (s3 k hk).elim (HS1.out k) fun h => .inr (Nat.le_trans HG1.out.size (Nat.le_trans HB2.out.size h))
      have hg3 : Fp S w w3 := (HG1.out.then (Fp.of_below HB2.out)).trans g3 HS1.out
      have HS3 := Bx.mk hs3
      have HG3 := Bx.mk hg3
      obtain ⟨c4', f4'⟩ := HX3.out.cells
      obtain ⟨e1, e2⟩ := HF3.out.cells
      have hwr : IntKind.i64.wrap ((r : Int) + (q : Int)) = ((r + q : Nat) : Int) := by simp only [IntKind.wrap_i64]; omega
      have HTO2 : Bx ((T1.add (f1, f2)).tot + (fs.drop (k + 1)).length ≤ 1000000) := ⟨by have h1 := HTO.out; have h2 := T1.add_tot_le (f1, f2); simp only [List.length_cons] at h1; omega⟩
      have HR2 : Bx (r + q + (T1.add (f1, f2)).wents (fs.drop (k + 1)) = T.wents fs) := ⟨by have h := HR.out; rw [Tab.wents, HQ.out] at h; omega⟩
      have HA2 : Bx ((T1.add (f1, f2)).adds (fs.drop (k + 1)) = T.adds fs) := ⟨by have h := HA.out; rw [Tab.adds] at h; exact h⟩
      have HT1O := Bx.mk (show T1.tot + 1 ≤ 1000000 by have h1 := HTO.out; simp only [List.length_cons] at h1; omega)
      clear hq hT3 x3 s3 g3 hs3 hg3 HR HA HTO HTU HX1 HS1 HG1 HX2 HF2 HB2 c4 f4 hws hroom hnS
      by_cases hle : n1 ≤ T1.cap
      · have hd1 : decide ((n1 : Int) ≤ (T1.cap : Int)) = true := decide_eq_true (by omega)
        have hd2 : decide (n1 ≤ T1.cap) = true := decide_eq_true hle
        have hc : fsz (f1, f2) + 32 ≤ T1.cap := by rw [HN1.out]; exact hle
        have hadd : T1.add (f1, f2) = ⟨fits (T1.room (f1, f2)) T1.l ++ [(f1, f2)], T1.cap, T1.tot + 1⟩ := by unfold Tab.add; rw [if_pos hc]
        have HAD := Bx.mk hadd
        have HFI := Bx.mk (T1.add_fit (f1, f2) hc)
        have HCAP := Bx.mk hcap
        clear hadd hle hc hcap
        go_wp2_with fail
        refine (enter_turn (f := (f1, f2)) HX3.out HT1O.out (by have h1 := HFI.out; have h2 := HCAP.out; show sizeF (fits (T1.room (f1, f2)) T1.l) + _ ≤ _; omega)).mono ?_
        rintro e w4 ⟨rfl, ht4⟩
        have HT4 : Bx (Turn (Tb p (T1.add (f1, f2))) S w w4) := ⟨by rw [HAD.out]; exact Turn.step HS3.out HG3.out ht4⟩
        clear ht4
        go_wp2
        go_roundg g
        case measure => omega
        case rel => exact ⟨k + 1, r + q, _, by omega, by go_num, rfl, HR2, by omega, HA2, HTO2, HT4⟩
      · have hd1 : decide ((n1 : Int) ≤ (T1.cap : Int)) = false := decide_eq_false (by omega)
        have hd2 : decide (n1 ≤ T1.cap) = false := decide_eq_false hle
        have hadd : T1.add (f1, f2) = ⟨fits (T1.room (f1, f2)) T1.l, T1.cap, T1.tot⟩ := by unfold Tab.add; rw [if_neg (by rw [HN1.out]; exact hle)]
        have HT4 : Bx (Turn (Tb p (T1.add (f1, f2))) S w w3) := ⟨by rw [hadd]; exact HT3.out⟩
        clear hadd hle hcap
        go_wp2_with fail
        go_roundg g
        case measure => omega
        case rel => exact ⟨k + 1, r + q, _, by omega, by go_num, rfl, HR2, by omega, HA2, HTO2, HT4⟩

theorem add_any {p : Nat} {T : Tab} {w : World} {S : Nat → Prop} {v : Value} {fs : List Fd} (h : Tb p T w S) (hv : Fs w v fs) (hs : ∀ g, v.ownBlock = some g → g < w.heap.size ∧ ¬ S g) (ht : T.tot + fs.length ≤ 1000000) (hz : ∀ f ∈ fs, fsz f ≤ 1000000) :
    Calls Try.prog 70 #[.pointer (some ⟨p, 0, none⟩), v] w fun e w' => e = .returned (.int .i64 (T.wents fs : Int)) ∧ Turn (Tb p (T.adds fs)) S w w' :=
  add_gen h (fun W hf => hv.besides hf hs) ht hz

end Go.Proofs.Yteopmaaghhendaa

/-
  Contracts of the table's At, Newest, Find and its numbers.
-/
namespace Go.Proofs.Yteopmaaghhendaa
open Go.RowKit Go.Maps
set_option linter.unusedVariables false

/-- The i-th from the end. -/
def entN (l : List Fd) (i : Nat) : Fd := if h : i < l.length then l[l.length - 1 - i]'(by omega) else emp
def isN (l : List Fd) (i : Nat) : Bool := decide (i < l.length)
theorem Tb.tr {p : Nat} {T : Tab} {w : World} {S : Nat → Prop} (h : Tb p T w S) : ∃ v bw bn Dw Dn, Tr w p v bw bn (sizeF T.l) T.cap T.tot T.tot T.tot T.l Dw Dn ∧ Mp kf Sized id T.first T.l Dw ∧ Mp ks Short Prod.fst T.first T.l Dn := by
  obtain ⟨v, bw, bn, Dw, Dn, h1, h2, h3, _⟩ := h
  exact ⟨v, bw, bn, Dw, Dn, h1, h2, h3⟩
set_option maxRecDepth 100000 in
set_option maxHeartbeats 1000000 in
theorem at_any {p : Nat} {T : Tab} {w : World} {S : Nat → Prop} (h : Tb p T w S) (i : Nat) (hi : i < 18446744073709551616) :
    Calls Try.prog 89 #[.pointer (some ⟨p, 0, none⟩), .int .u64 (i : Int)] w fun e w' => e = .returned (.tuple #[aggF (entF T.l T.first i), .bool (isF T.l T.first i)]) ∧ Below w.heap.size w w' := by
  obtain ⟨v, bw, bn, Dw, Dn, h1, h2, h3⟩ := h.tr
  have hok := h.ok
  obtain ⟨L, cap, tot⟩ := T
  obtain ⟨fr, hfr⟩ : ∃ fr, tot - L.length = fr := ⟨_, rfl⟩
  rw [show Tab.first ⟨L, cap, tot⟩ = fr from hfr]
  simp only at h1 ⊢
  have htot : tot ≤ 1000000 := hok.tot
  have hlen : L.length ≤ tot := hok.len
  have HI := Bx.mk hi
  have HFR : Bx (fr + L.length = tot) := ⟨by omega⟩
  have HTT := Bx.mk htot
  have HOLD : Bx (∀ W, Tr W p v bw bn (sizeF L) cap tot tot tot L Dw Dn → Calls Try.prog 101 #[.pointer (some ⟨p, 0, none⟩)] W fun e w' => e = .returned (.int .u64 (fr : Int)) ∧ Below W.heap.size W w') := ⟨fun W hW => hfr ▸ oldest_any hW hlen htot⟩
  obtain ⟨e0, he0⟩ : ∃ e0, entF L fr i = e0 := ⟨_, rfl⟩
  obtain ⟨b0, hb0⟩ : ∃ b0, isF L fr i = b0 := ⟨_, rfl⟩
  rw [he0, hb0]
  have HE0 := Bx.mk he0
  have HB0 := Bx.mk hb0
  have HT := Bx.mk h1
  have HTA := Bx.mk (h1.alloc (.cells #[.string ⟨#[]⟩, .string ⟨#[]⟩] 56))
  clear h h1 h2 h3 hok htot hlen hi hfr he0 hb0
  have enter : True := trivial
  go_enter Try.func89, Try.ntmps89
  go_wp2_with fail
  refine (HOLD.out _ HTA.out).mono ?_
  rintro e w2 ⟨rfl, hb2⟩
  have HT2 := Bx.mk (HTA.out.keep hb2)
  have HF2 := Bx.mk ((Fb.new 56 w emp).keep hb2)
  have HB2 : Bx (Below w.heap.size w w2) := ⟨((Below.refl w.heap.size w).alloc (Nat.le_refl _) _).trans (hb2.mono (by simp))⟩
  clear hb2 enter
  obtain ⟨d0, d1, d2, d3, d4, d5⟩ := HT2.out.cells
  obtain ⟨e1, e2⟩ := HF2.out.cells
  obtain ⟨ef1, ef2⟩ := HF2.out.free
  by_cases h1 : i < fr
  · have hd1 : decide ((i : Int) < (fr : Int)) = true := decide_eq_true (by omega)
    have hd2 : decide (i < fr) = true := decide_eq_true h1
    obtain rfl : emp = e0 := by rw [← HE0.out]; unfold entF; rw [dif_neg (by omega)]
    obtain rfl : false = b0 := by rw [← HB0.out]; unfold isF; simp; omega
    have HF3 := Bx.mk (HF2.out.set2 ⟨#[]⟩ ⟨#[]⟩)
    clear h1
    go_wp2_with fail
    exact bodyPost_ret (ret_field Try.results89 _ _ w.heap.size emp false rfl rfl HF3.out) rfl ⟨rfl, below_set2 HB2.out _ (Nat.le_refl _) _ _⟩
  · have hd1 : decide ((i : Int) < (fr : Int)) = false := decide_eq_false (by omega)
    have hd2 : decide (i < fr) = false := decide_eq_false h1
    by_cases h2 : tot ≤ i
    · have hd3 : decide ((tot : Int) ≤ (i : Int)) = true := decide_eq_true (by omega)
      have hd4 : decide (tot ≤ i) = true := decide_eq_true h2
      obtain rfl : emp = e0 := by rw [← HE0.out]; unfold entF; rw [dif_neg (by have := HFR.out; omega)]
      obtain rfl : false = b0 := by rw [← HB0.out]; unfold isF; simp; have := HFR.out; omega
      have HF3 := Bx.mk (HF2.out.set2 ⟨#[]⟩ ⟨#[]⟩)
      clear h1 h2
      go_wp2_with fail
      exact bodyPost_ret (ret_field Try.results89 _ _ w.heap.size emp false rfl rfl HF3.out) rfl ⟨rfl, below_set2 HB2.out _ (Nat.le_refl _) _ _⟩
    · have hd3 : decide ((tot : Int) ≤ (i : Int)) = false := decide_eq_false (by omega)
      have hd4 : decide (tot ≤ i) = false := decide_eq_false h2
      have hlt : i - fr < L.length := by have := HFR.out; omega
      obtain ⟨f1, hf1⟩ : ∃ f1, L[i - fr].1 = f1 := ⟨_, rfl⟩
      obtain ⟨f2, hf2⟩ : ∃ f2, L[i - fr].2 = f2 := ⟨_, rfl⟩
      obtain rfl : (f1, f2) = e0 := by rw [← HE0.out]; unfold entF; rw [dif_pos ⟨by omega, hlt⟩, ← hf1, ← hf2]
      obtain rfl : true = b0 := by rw [← HB0.out]; unfold isF; simp; omega
      obtain ⟨b, o, hix, hcs⟩ := HT2.out.st.fs.at_ (i - fr) hlt
      have hws : IntKind.u64.wrap ((i : Int) - (fr : Int)) = ((i - fr : Nat) : Int) := by have := HI.out; simp [IntKind.wrap, IntKind.signed, IntKind.bits]; omega
      rw [hf1, hf2] at hcs
      have HCS := Bx.mk hcs
      have hX0 : ∀ W, Tr W p v bw bn (sizeF L) cap tot tot tot L Dw Dn → W.cell? ⟨p, 0, none⟩ = some v := fun W h => h.cells.1
      have hX1 : ∀ W, Tr W p v bw bn (sizeF L) cap tot tot tot L Dw Dn → W.cell? ⟨b, o, none⟩ = some (.string f1) := fun W h => (HCS.out W h.st.fs).1
      have hX2 : ∀ W, Tr W p v bw bn (sizeF L) cap tot tot tot L Dw Dn → W.cell? ⟨b, o + 1, none⟩ = some (.string f2) := fun W h => (HCS.out W h.st.fs).2
      have hS0 := HT2.out.drew
      clear h1 h2 hlt hf1 hf2 hcs
      go_wp2_with fail
      go_region_held (fun W => Tr W p v bw bn (sizeF L) cap tot tot tot L Dw Dn) (first | assumption) (first
        | (go_at_call 101; refine (HOLD.out _ ?_).mono ?_; (with_reducible exact hS0); rintro e w3 ⟨rfl, hb3⟩; have hT3 := hS0.keep hb3; have HF3 := Bx.mk ((HF2.out.keep (Below.refl _ _).drew).keep hb3); obtain ⟨r1, r2⟩ := HF3.out.cells; obtain ⟨r3, r4⟩ := HF3.out.free; have hT4 := HT.out.away (HT.out.away hT3 w.heap.size (Nat.le_refl _) 0 (.string f1)) w.heap.size (Nat.le_refl _) 1 (.string f2)))
      all_goals go_wp2_with fail
      exact bodyPost_ret (ret_field Try.results89 _ _ w.heap.size (f1, f2) true rfl rfl (HF3.out.set2 f1 f2)) rfl ⟨rfl, below_set2 (HB2.out.trans (((Below.refl w2.heap.size w2).drew.trans hb3).mono HB2.out.size)) _ (Nat.le_refl _) _ _⟩

set_option maxRecDepth 100000 in
set_option maxHeartbeats 1000000 in
theorem newest_any {p : Nat} {T : Tab} {w : World} {S : Nat → Prop} (h : Tb p T w S) (i : Nat) (hi : i < 18446744073709551616) :
    Calls Try.prog 71 #[.pointer (some ⟨p, 0, none⟩), .int .u64 (i : Int)] w fun e w' => e = .returned (.tuple #[aggF (entN T.l i), .bool (isN T.l i)]) ∧ Below w.heap.size w w' := by
  obtain ⟨v, bw, bn, Dw, Dn, h1, h2, h3⟩ := h.tr
  have hok := h.ok
  obtain ⟨e0, he0⟩ : ∃ e0, entN T.l i = e0 := ⟨_, rfl⟩
  obtain ⟨b0, hb0⟩ : ∃ b0, isN T.l i = b0 := ⟨_, rfl⟩
  rw [he0, hb0]
  have HE0 := Bx.mk he0
  have HB0 := Bx.mk hb0
  have HT := Bx.mk h
  have hlen := fun ty W => h1.st.fs.run_len ty W
  obtain ⟨n, hn⟩ : ∃ n, T.l.length = n := ⟨_, rfl⟩
  rw [hn] at hlen
  have HN := Bx.mk hn
  have HI := Bx.mk hi
  obtain ⟨ct, hct⟩ : ∃ ct, T.tot = ct := ⟨_, rfl⟩
  rw [hct] at h1
  have HCT := Bx.mk hct
  have HTT : Bx (n ≤ ct ∧ ct ≤ 1000000) := ⟨by have a := hok.len; have b := hok.tot; omega⟩
  have hwn : IntKind.u64.wrap (n : Int) = (n : Int) := by have := HTT.out; simp [IntKind.wrap, IntKind.signed, IntKind.bits]; omega
  have HTA := Bx.mk (h.keep ((Below.refl w.heap.size w).alloc (Nat.le_refl _) (.cells #[.string ⟨#[]⟩, .string ⟨#[]⟩] 56)))
  obtain ⟨d0, d1, d2, d3, d4, d5⟩ := (h1.alloc (.cells #[.string ⟨#[]⟩, .string ⟨#[]⟩] 56)).cells
  have HF1 := Bx.mk (Fb.new 56 w emp)
  have HB1 := Bx.mk ((Below.refl w.heap.size w).alloc (Nat.le_refl _) (.cells #[.string ⟨#[]⟩, .string ⟨#[]⟩] 56))
  clear h h1 h2 h3 hok hi he0 hb0 hn hct
  by_cases h1 : n ≤ i
  · have hd1 : decide ((n : Int) ≤ (i : Int)) = true := decide_eq_true (by omega)
    have hd2 : decide (n ≤ i) = true := decide_eq_true h1
    obtain rfl : emp = e0 := by rw [← HE0.out]; unfold entN; rw [dif_neg (by have := HN.out; omega)]
    obtain rfl : false = b0 := by rw [← HB0.out]; unfold isN; simp; have := HN.out; omega
    clear h1
    go_enter Try.func71, Try.ntmps71
    go_wp2_with fail
    exact bodyPost_ret (ret_field Try.results71 _ _ w.heap.size emp false rfl rfl (Fb.new _ w emp)) rfl ⟨rfl, (Below.refl _ _).alloc (Nat.le_refl _) _⟩
  · have hd1 : decide ((n : Int) ≤ (i : Int)) = false := decide_eq_false (by omega)
    have hd2 : decide (n ≤ i) = false := decide_eq_false h1
    have hw1 : IntKind.u64.wrap ((ct : Int) - 1) = ((ct - 1 : Nat) : Int) := by have := HTT.out; simp [IntKind.wrap, IntKind.signed, IntKind.bits]; omega
    obtain ⟨c1, hc1⟩ : ∃ c1, ct - 1 = c1 := ⟨_, rfl⟩
    rw [hc1] at hw1
    have hw2 : IntKind.u64.wrap ((c1 : Int) - (i : Int)) = ((c1 - i : Nat) : Int) := by have := HTT.out; simp [IntKind.wrap, IntKind.signed, IntKind.bits]; omega
    obtain ⟨c2, hc2⟩ : ∃ c2, c1 - i = c2 := ⟨_, rfl⟩
    rw [hc2] at hw2
    have hfirst : T.first = ct - n := by show T.tot - T.l.length = _; rw [HCT.out, HN.out]
    have hE : entF T.l T.first c2 = e0 := by
      have a := HTT.out
      have b := HN.out
      rw [← HE0.out]
      unfold entF entN
      rw [dif_pos (by rw [hfirst]; omega), dif_pos (by omega)]
      congr 1
      rw [hfirst]
      omega
    have hBt : isF T.l T.first c2 = true := by
      have a := HTT.out
      have b := HN.out
      unfold isF
      rw [hfirst]
      simp; omega
    obtain rfl : true = b0 := by rw [← HB0.out]; unfold isN; simp; have := HN.out; omega
    have HE := Bx.mk hE
    have HBt := Bx.mk hBt
    have hc2b : c2 < 18446744073709551616 := by have := HTT.out; omega
    have HC2 := Bx.mk hc2b
    clear h1 hc1 hc2 hfirst hE hBt hc2b
    go_enter Try.func71, Try.ntmps71
    go_wp2_with fail
    refine (at_any HTA.out c2 HC2.out).mono ?_
    rintro e w2 ⟨rfl, hb2⟩
    rw [HE.out, HBt.out]
    obtain ⟨x1, x2⟩ := e0
    have HF2 := Bx.mk (HF1.out.keep hb2)
    have HB2 := Bx.mk (HB1.out.trans (hb2.mono HB1.out.size))
    have ha : aggF (x1, x2) = .agg #[.string x1, .string x2] := rfl
    rw [ha]
    obtain ⟨e1, e2⟩ := HF2.out.cells
    obtain ⟨ef1, ef2⟩ := HF2.out.free
    clear hb2 ha
    go_wp2_with fail
    exact bodyPost_ret (ret_field Try.results71 _ _ w.heap.size (x1, x2) true rfl rfl (HF2.out.set2 x1 x2)) rfl ⟨rfl, below_set2 HB2.out _ (Nat.le_refl _) _ _⟩

end Go.Proofs.Yteopmaaghhendaa

/-
  Contracts of the document's table: NewTable, fit, Resize, Add.
-/
namespace Go.Proofs.Yteopmaaghhendaa
open Go.RowKit Go.Maps
set_option linter.unusedVariables false

section
variable {q : Nat} {T : Tab} {w : World} {S : Nat → Prop}
end

end Go.Proofs.Yteopmaaghhendaa

/-
  Contract of the document's Add.
-/
namespace Go.Proofs.Yteopmaaghhendaa
open Go.RowKit Go.Maps
set_option linter.unusedVariables false
set_option linter.unusedSimpArgs false

end Go.Proofs.Yteopmaaghhendaa

/-
  Contracts of the document's Abs, Newest.
-/
namespace Go.Proofs.Yteopmaaghhendaa
open Go.RowKit Go.Maps
set_option linter.unusedVariables false

end Go.Proofs.Yteopmaaghhendaa

/-
  Contract of the document's Find.
-/
namespace Go.Proofs.Yteopmaaghhendaa
open Go.RowKit Go.Maps
set_option linter.unusedVariables false

theorem str_eq (a b : ByteArray) (h : a.toList = b.toList) : a = b := by
  rw [Lib.toList_data, Lib.toList_data] at h
  have := Array.toList_inj.1 h
  cases a; cases b; simp_all
end Go.Proofs.Yteopmaaghhendaa

/-
  Contract of the statements' alike.
-/
namespace Go.Proofs.Yteopmaaghhendaa
open Go.RowKit Go.Maps
set_option linter.unusedVariables false

end Go.Proofs.Yteopmaaghhendaa

/-
  A table alone, and the contract of the statements' known.
-/
namespace Go.Proofs.Yteopmaaghhendaa
open Go.RowKit Go.Maps
set_option linter.unusedVariables false

section
variable {B p q : Nat} {T T' U : Tab} {w w' : World}
end

end Go.Proofs.Yteopmaaghhendaa

/-
  Words of what stands in memory, by the blocks that they hold: side by side, behind a head block; what a call does to one of several. No type of the program is named here.
-/
namespace Go.Proofs.Yteopmaaghhendaa
open Go.RowKit
set_option linter.unusedVariables false

theorem OwB.cat {w : World} {B : Nat} {x : Value} {l m : List UInt8} (h : w.ownsRow B 5 1 x (l.map bv ++ m.map bv).length (l.map bv ++ m.map bv)) : OwB w B x (l ++ m) := by
  unfold OwB
  rw [List.map_append]
  exact h
/-- A word: what stands, and a set of blocks that holds all of it. -/
abbrev Wx := World → (Nat → Prop) → Prop
/-- The word tells of its blocks alone. -/
structure Wd (X : Wx) : Prop where
  lt : ∀ {w : World} {S : Nat → Prop}, X w S → ∀ k, S k → k < w.heap.size
  kept : ∀ {w w' : World} {S : Nat → Prop}, X w S → w.heap.size ≤ w'.heap.size → (∀ k, S k → w'.heap[k]? = w.heap[k]?) → X w' S
section
variable {X X' Y Y' : Wx} {w w' : World} {S S' : Nat → Prop} {B : Nat}
theorem Wd.keep (hX : Wd X) (h : X w S) (hb : Below w.heap.size w w') : X w' S := hX.kept h hb.size fun k hk => hb.block k (hX.lt h k hk)
theorem Wd.besides (hX : Wd X) (h : X w S) (hf : Fp S' w w') (hd : ∀ k, S k → ¬ S' k) : X w' S := hX.kept h hf.size fun k hk => hf.block k (hX.lt h k hk) (hd k hk)
theorem Wd.turned (hX : Wd X) (h : X w S) (hb : Below w.heap.size w w') : Turn X S w w' := ⟨S, hX.keep h hb, fun k hk => .inl hk, Fp.of_below hb⟩

theorem Wd.after (hX : Wd X) {a b c : World} (ht : Turn X S a b) (hb : Below b.heap.size b c) : Turn X S a c := by
  obtain ⟨S', x, s, f⟩ := ht
  exact ⟨S', hX.keep x hb, s, f.then (Fp.of_below hb)⟩
theorem Turn.before {a b c : World} (hb : Below a.heap.size a b) (ht : Turn X S b c) : Turn X S a c := Turn.step (fun k hk => .inl hk) (Fp.of_below hb) ht
/-- Both, apart from one another. -/
def Both (X Y : Wx) : Wx := fun w S => ∃ S1 S2, X w S1 ∧ Y w S2 ∧ (∀ k, S1 k → ¬ S2 k) ∧ ∀ k, S k ↔ S1 k ∨ S2 k
theorem Wd.both (hX : Wd X) (hY : Wd Y) : Wd (Both X Y) := by
  constructor
  · rintro w S ⟨S1, S2, h1, h2, h3, h4⟩ k hk
    rcases (h4 k).1 hk with h | h
    · exact hX.lt h1 k h
    · exact hY.lt h2 k h
  · rintro w w' S ⟨S1, S2, h1, h2, h3, h4⟩ hs hb
    exact ⟨S1, S2, hX.kept h1 hs fun k hk => hb k ((h4 k).2 (.inl hk)), hY.kept h2 hs fun k hk => hb k ((h4 k).2 (.inr hk)), h3, h4⟩
theorem Both.swap (h : Both X Y w S) : Both Y X w S := by
  obtain ⟨S1, S2, h1, h2, h3, h4⟩ := h
  exact ⟨S2, S1, h2, h1, fun k a b => h3 k b a, fun k => (h4 k).trans Or.comm⟩
/-- The first one turns. -/
theorem Both.left (hY : Wd Y) {S1 S2 : Nat → Prop} (h2 : Y w S2) (h3 : ∀ k, S1 k → ¬ S2 k) (h4 : ∀ k, S k ↔ S1 k ∨ S2 k) (ht : Turn X' S1 w w') : Turn (Both X' Y) S w w' := by
  obtain ⟨S', x, s, f⟩ := ht
  refine ⟨fun k => S' k ∨ S2 k, ⟨S', S2, x, hY.besides h2 f (fun k hk hs => h3 k hs hk), fun k hk hs => ?_, fun k => Iff.rfl⟩, fun k hk => ?_, f.mono fun k hk => (h4 k).2 (.inl hk)⟩
  · rcases s k hk with h | h
    · exact h3 k h hs
    · have := hY.lt h2 k hs; omega
  · rcases hk with hk | hk
    · rcases s k hk with h | h
      · exact .inl ((h4 k).2 (.inl h))
      · exact .inr h
    · exact .inl ((h4 k).2 (.inr hk))
theorem Both.right (hX : Wd X) {S1 S2 : Nat → Prop} (h1 : X w S1) (h3 : ∀ k, S1 k → ¬ S2 k) (h4 : ∀ k, S k ↔ S1 k ∨ S2 k) (ht : Turn Y' S2 w w') : Turn (Both X Y') S w w' := by
  obtain ⟨S', x, s, f⟩ := Both.left hX h1 (fun k a b => h3 k b a) (fun k => (h4 k).trans Or.comm) ht
  exact ⟨S', x.swap, s, f⟩
theorem Both.fst (h : Both X Y w S) : ∃ S1, X w S1 ∧ ∀ k, S1 k → S k := by
  obtain ⟨S1, S2, h1, h2, h3, h4⟩ := h
  exact ⟨S1, h1, fun k hk => (h4 k).2 (.inl hk)⟩
theorem Both.snd (h : Both X Y w S) : ∃ S2, Y w S2 ∧ ∀ k, S2 k → S k := by
  obtain ⟨S1, S2, h1, h2, h3, h4⟩ := h
  exact ⟨S2, h2, fun k hk => (h4 k).2 (.inr hk)⟩

/-- A head block q of n cells, and what it holds. -/
def Hd (q : Nat) (ty : TypeId) (n : Nat) (F : Nat → Value) (X : Wx) : Wx := fun w S => ∃ S', w.rowIs q ty n F ∧ X w S' ∧ ¬ S' q ∧ ∀ k, S k ↔ S' k ∨ k = q
section
variable {q n : Nat} {ty : TypeId} {F F' : Nat → Value}
theorem Wd.hd (hX : Wd X) : Wd (Hd q ty n F X) := by
  constructor
  · rintro w S ⟨S', h1, h2, h3, h4⟩ k hk
    rcases (h4 k).1 hk with h | rfl
    · exact hX.lt h2 k h
    · exact h1.lt
  · rintro w w' S ⟨S', h1, h2, h3, h4⟩ hs hb
    exact ⟨S', h1.of_block (hb q ((h4 q).2 (.inr rfl))), hX.kept h2 hs (fun k hk => hb k ((h4 k).2 (.inl hk))), h3, h4⟩
theorem Hd.row (h : Hd q ty n F X w S) : w.rowIs q ty n F := by obtain ⟨_, h1, _⟩ := h; exact h1
theorem Hd.has (h : Hd q ty n F X w S) : S q := by obtain ⟨S', _, _, _, h4⟩ := h; exact (h4 q).2 (.inr rfl)
/-- A store into one of the head's cells. -/
theorem Hd.put (hX : Wd X) (h : Hd q ty n F X w S) (i : Nat) (v : Value) (hF : ∀ j, j < n → (if j = i then v else F j) = F' j) : Hd q ty n F' X (w.setCell ⟨q, i, none⟩ v) S ∧ Fp S w (w.setCell ⟨q, i, none⟩ v) := by
  obtain ⟨S', h1, h2, h3, h4⟩ := h
  have hf : Fp (fun k => k = q) w (w.setCell ⟨q, i, none⟩ v) := Fp.set _ _ _ _ rfl
  exact ⟨⟨S', (h1.set i v).congr hF, hX.besides h2 hf (fun k hk e => h3 (e ▸ hk)), h3, h4⟩, hf.mono fun k hk => (h4 k).2 (.inr hk)⟩
theorem Hd.set (hX : Wd X) (h : Hd q ty n F X w S) (i : Nat) (v : Value) (hF : ∀ j, j < n → (if j = i then v else F j) = F' j) : Turn (Hd q ty n F' X) S w (w.setCell ⟨q, i, none⟩ v) :=
  ⟨S, (h.put hX i v hF).1, fun k hk => .inl hk, (h.put hX i v hF).2⟩
/-- What the head holds, for a call that turns it. -/
theorem Hd.opens (h : Hd q ty n F X w S) : ∃ S', X w S' ∧ ¬ S' q ∧ (∀ k, S' k → S k) ∧ ∀ (w' : World) (X' : Wx), Turn X' S' w w' → Turn (Hd q ty n F X') S w w' := by
  obtain ⟨S', h1, h2, h3, h4⟩ := h
  refine ⟨S', h2, h3, fun k hk => (h4 k).2 (.inl hk), fun w' X' ht => ?_⟩
  obtain ⟨S2, r2, s2, f2⟩ := ht
  have hsz := f2.size
  have hq := h1.lt
  refine ⟨fun k => S2 k ∨ k = q, ⟨S2, h1.of_block (f2.block q hq h3), r2, fun hs => ?_, fun k => Iff.rfl⟩, fun k hk => ?_, f2.mono fun k hk => (h4 k).2 (.inl hk)⟩
  · rcases s2 q hs with h | h
    · exact h3 h
    · omega
  · rcases hk with hk | rfl
    · rcases s2 k hk with h | h
      · exact .inl ((h4 k).2 (.inl h))
      · exact .inr h
    · exact .inl ((h4 k).2 (.inr rfl))
/-- A head that is made. -/
theorem Hd.new (hX : Wd X) (h : X w S) (c : Array Value) (hc : ∀ i, i < c.size → c[i]? = some (F i)) : Hd w.heap.size ty c.size F X (w.alloc (.cells c ty)) (fun k => S k ∨ k = w.heap.size) :=
  ⟨S, World.rowIs_alloc w c ty F hc, hX.keep h ((Below.refl _ _).alloc (Nat.le_refl _) _), fun hs => by have := hX.lt h _ hs; omega, fun k => Iff.rfl⟩
end

/-- All that the word tells of, made since block B. -/
def Up (B : Nat) (X : Wx) (w : World) : Prop := ∃ S, X w S ∧ ∀ k, S k → B ≤ k
theorem Up.keep (hX : Wd X) (h : Up B X w) (hb : Below w.heap.size w w') : Up B X w' := by
  obtain ⟨S, h1, h2⟩ := h
  exact ⟨S, hX.keep h1 hb, h2⟩
theorem Up.turn (hs : ∀ k, S k → B ≤ k) (hB : B ≤ w.heap.size) (ht : Turn X' S w w') : Up B X' w' ∧ Below B w w' := by
  obtain ⟨S1, x, s, f⟩ := ht
  exact ⟨⟨S1, x, fun k hk => (s k hk).elim (hs k) fun h => Nat.le_trans hB h⟩, f.below hB hs⟩
theorem Up.swap (h : Up B (Both X Y) w) : Up B (Both Y X) w := by
  obtain ⟨S, h1, h2⟩ := h
  exact ⟨S, h1.swap, h2⟩
theorem Up.fst (h : Up B (Both X Y) w) : Up B X w := by
  obtain ⟨S, h1, h2⟩ := h
  obtain ⟨S1, a, b⟩ := h1.fst
  exact ⟨S1, a, fun k hk => h2 k (b k hk)⟩
theorem Up.snd (h : Up B (Both X Y) w) : Up B Y w := h.swap.fst
/-- One more, made behind. -/
theorem Up.add (hX : Wd X) (h : Up B X w) (hB : B ≤ w.heap.size) (hb : Below w.heap.size w w') (hn : Up w.heap.size Y w') : Up B (Both X Y) w' := by
  obtain ⟨S, h1, h2⟩ := h
  obtain ⟨S', k1, k2⟩ := hn
  exact ⟨fun k => S k ∨ S' k, ⟨S, S', hX.keep h1 hb, k1, fun k a b => by have := hX.lt h1 k a; have := k2 k b; omega, fun k => Iff.rfl⟩, fun k hk => hk.elim (h2 k) fun h => Nat.le_trans hB (k2 k h)⟩
theorem Up.assoc {Z : Wx} (h : Up B (Both X (Both Y Z)) w) : Up B (Both (Both X Y) Z) w := by
  obtain ⟨S, ⟨S1, S2, h1, ⟨S3, S4, k1, k2, k3, k4⟩, h3, h4⟩, h5⟩ := h
  refine ⟨S, ⟨fun k => S1 k ∨ S3 k, S4, ⟨S1, S3, h1, k1, fun k a b => h3 k a ((k4 k).2 (.inl b)), fun k => Iff.rfl⟩, k2, fun k a b => ?_, fun k => ?_⟩, h5⟩
  · rcases a with a | a
    · exact h3 k a ((k4 k).2 (.inr b))
    · exact k3 k a b
  · rw [h4 k, k4 k, or_assoc]

/-! ### what is no row of bytes -/
end
end Go.Proofs.Yteopmaaghhendaa

/-
  Calls that turn one of several words; rows of bytes stand beside them.
-/
namespace Go.Proofs.Yteopmaaghhendaa
open Go.RowKit
set_option linter.unusedVariables false

section
variable {α : Type} {X Y : Wx} {X' Y' : α → Wx} {R : α → Ending → World → Prop} {P : Program} {f : FuncId} {args : Array Value} {w wA : World} {B : Nat} {C : Nat → Prop}
end
end Go.Proofs.Yteopmaaghhendaa

/-
  A slice of fields that came in: from the row's reading to a list of fields, with their sizes.
-/
namespace Go.Proofs.Yteopmaaghhendaa
open Go.RowKit Go.ChangeShapes Go.WideShapes Go.Deep
set_option linter.unusedVariables false

theorem weights_mem_all {H : Type} {P : Program} {e : TypeId} : ∀ {ds : List (DataW H)} {d : DataW H}, d ∈ ds → ∀ n ∈ d.weights P e, n ∈ DataW.weightsAll P e ds
  | d0 :: ds, d, hd, n, hn => by
    simp only [DataW.weightsAll, List.mem_append]
    rcases List.mem_cons.1 hd with rfl | h
    · exact .inl hn
    · exact .inr (weights_mem_all h n hn)

section
variable {H : Type} {enc : TypeId × Value → H} {w : World} {base : Nat} {spare : Nat → Bool} {held : Bool}

end

end Go.Proofs.Yteopmaaghhendaa

/-
  Steps of layer 10's scripts: their values; slices of them; one that came in.
-/
namespace Go.Proofs.Yteopmaaghhendaa
open Go.RowKit Go.ChangeShapes Go.WideShapes Go.Deep
set_option linter.unusedVariables false

/-- A step: what, of which stream, three numbers, two strings, bytes (a value, and what it reads as). -/
structure Qj where
  k : Nat
  s : Nat
  i : Nat
  j : Nat
  m : Nat
  n : ByteArray
  v : ByteArray
  raw : Value
  b : List UInt8
instance : Inhabited Qj := ⟨⟨0, 0, 0, 0, 0, ByteArray.empty, ByteArray.empty, .slice none 0 0, []⟩⟩
def Qj.cs (a : Qj) : Array Value := #[.int .u8 (a.k : Int), .int .u8 (a.s : Int), .int .u64 (a.i : Int), .int .u64 (a.j : Int), .int .u64 (a.m : Int), .string a.n, .string a.v, a.raw]
def qvl (a : Qj) : List Value := [.int .u8 (a.k : Int), .int .u8 (a.s : Int), .int .u64 (a.i : Int), .int .u64 (a.j : Int), .int .u64 (a.m : Int), .string a.n, .string a.v, a.raw]
/-- The value reads as these steps. -/
def Qas (w : World) (v : Value) (l : List Qj) : Prop := Rn 8 w v l.length (l.flatMap qvl) ∧ ∀ a ∈ l, Bs w a.raw a.b
theorem qvl_length (l : List Qj) : (l.flatMap qvl).length = l.length * 8 := by
  induction l with
  | nil => rfl
  | cons a l ih => rw [List.flatMap_cons, List.length_append, ih]; simp [qvl]; omega
theorem qvl_at (l : List Qj) (i j : Nat) (h : i < l.length) (hj : j < 8) : (l.flatMap qvl)[i * 8 + j]? = (qvl l[i])[j]? := by
  induction l generalizing i with
  | nil => simp at h
  | cons a l ih =>
    rw [List.flatMap_cons]
    cases i with
    | zero => rw [Nat.zero_mul, Nat.zero_add, List.getElem?_append_left (by simpa [qvl] using hj)]; rfl
    | succ i =>
      have := ih i (by simpa using h)
      have e1 : (i + 1) * 8 + j = (qvl a).length + (i * 8 + j) := by simp [qvl]; omega
      rw [e1, List.getElem?_append_right (by omega), Nat.add_sub_cancel_left]
      simpa using this
theorem Qas.keep {w w' : World} {v : Value} {l : List Qj} (h : Qas w v l) (hb : Below w.heap.size w w') : Qas w' v l := ⟨Rn.keep h.1 hb, fun a ha => Rd.keep (h.2 a ha) hb⟩
theorem Qas.run_len {w : World} {v : Value} {l : List Qj} (h : Qas w v l) (ty : TypeId) (W : World) : (Builtin.len_ #[22] ty #[v]).run Try.prog W = .ok (.int .i64 (l.length : Int)) W := by
  obtain ⟨⟨A, c, rfl, h1, h2, h3⟩, _⟩ := h
  simp [Builtin.len_, run_underlying Try.underlying22, goInt]
theorem Qas.at_ {w : World} {v : Value} {l : List Qj} (h : Qas w v l) (i : Nat) (hi : i < l.length) :
    ∃ b o : Nat, (∀ (q : IntKind) (W : World), (Instr.indexAt 22 v (.int q (i : Int))).run Try.prog W = .ok (.pointer (some ⟨b, o, none⟩)) W) ∧
      ∀ W : World, Qas W v l → W.cell? ⟨b, o, none⟩ = some (.int .u8 (l[i].k : Int)) ∧ W.cell? ⟨b, o + 1, none⟩ = some (.int .u8 (l[i].s : Int)) ∧ W.cell? ⟨b, o + 2, none⟩ = some (.int .u64 (l[i].i : Int)) ∧ W.cell? ⟨b, o + 3, none⟩ = some (.int .u64 (l[i].j : Int)) ∧ W.cell? ⟨b, o + 4, none⟩ = some (.int .u64 (l[i].m : Int)) ∧ W.cell? ⟨b, o + 5, none⟩ = some (.string l[i].n) ∧ W.cell? ⟨b, o + 6, none⟩ = some (.string l[i].v) ∧ W.cell? ⟨b, o + 7, none⟩ = some l[i].raw := by
  obtain ⟨b, o, c, rfl, h1, h2, h3, hc⟩ := Rn.at_ h.1 (by omega) (by omega)
  have hsz : ∀ W : World, (sizeOf (Try.prog.elem 22)).run Try.prog W = .ok 8 W := fun W => by kernel_rfl
  refine ⟨b, o + i * 8, fun q W => ?_, fun W hW => ?_⟩
  · simp [Instr.indexAt, asIntOf, run_underlying Try.underlying22, Sem.run_bind, hi, Result.andThen]
    simp [Addr.add]
  · obtain ⟨b', o', c', e, _, _, _, hc'⟩ := Rn.at_ hW.1 (by omega) (by omega)
    injection e with e1 e2 e3
    injection e1 with e1
    injection e1 with e1 e4
    subst e1; subst e4
    have g := fun j hj u hu => hc' (i * 8 + j) u (by rw [qvl_at l i j hi hj]; exact hu)
    refine ⟨g 0 (by omega) _ rfl, ?_, ?_, ?_, ?_, ?_, ?_, ?_⟩
    · have := g 1 (by omega) _ rfl; rwa [← Nat.add_assoc] at this
    · have := g 2 (by omega) _ rfl; rwa [← Nat.add_assoc] at this
    · have := g 3 (by omega) _ rfl; rwa [← Nat.add_assoc] at this
    · have := g 4 (by omega) _ rfl; rwa [← Nat.add_assoc] at this
    · have := g 5 (by omega) _ rfl; rwa [← Nat.add_assoc] at this
    · have := g 6 (by omega) _ rfl; rwa [← Nat.add_assoc] at this
    · have := g 7 (by omega) _ rfl; rwa [← Nat.add_assoc] at this
/-- Each step's numbers fit, and its strings are no longer than any machine holds. -/
def SmallQ (l : List Qj) : Prop := ∀ a ∈ l, (a.k < 256 ∧ a.i < 18446744073709551616) ∧ a.n.size ≤ 140737488351232 ∧ a.v.size ≤ 140737488351232
/-- Block g holds the step a. -/
def Qb (w : World) (g : Nat) (a : Qj) : Prop := w.heap[g]? = some (.cells a.cs 29 (0, 0)) ∧ Bs w a.raw a.b
theorem Qb.cells {w : World} {g : Nat} {a : Qj} (h : Qb w g a) : w.cell? ⟨g, 0, none⟩ = some (.int .u8 (a.k : Int)) ∧ w.cell? ⟨g, 2, none⟩ = some (.int .u64 (a.i : Int)) ∧ w.cell? ⟨g, 5, none⟩ = some (.string a.n) ∧ w.cell? ⟨g, 6, none⟩ = some (.string a.v) ∧ w.cell? ⟨g, 7, none⟩ = some a.raw := by
  have h := h.1
  refine ⟨?_, ?_, ?_, ?_, ?_⟩ <;> simp [World.cell?, h, Qj.cs]
theorem Qb.lt {w : World} {g : Nat} {a : Qj} (h : Qb w g a) : g < w.heap.size := (Array.getElem?_eq_some_iff.1 h.1).1
theorem Qb.keep {w w' : World} {g : Nat} {a : Qj} (h : Qb w g a) (hb : Below w.heap.size w w') : Qb w' g a := by
  refine ⟨?_, Rd.keep h.2 hb⟩
  rw [hb.block g h.lt]
  exact h.1

theorem u64nQ {n : Int} (h : (Lit.int .u64 n).wf = true) : ∃ x : Nat, n = (x : Int) ∧ x < 18446744073709551616 := by
  simp [Lit.wf, IntKind.min, IntKind.max, IntKind.signed, IntKind.bits] at h
  exact ⟨n.toNat, by omega, by omega⟩
theorem u8nQ {n : Int} (h : (Lit.int .u8 n).wf = true) : ∃ x : Nat, n = (x : Int) ∧ x < 256 := by
  simp [Lit.wf, IntKind.min, IntKind.max, IntKind.signed, IntKind.bits] at h
  exact ⟨n.toNat, by omega, by omega⟩
section
variable {H : Type} {enc : TypeId × Value → H} {w : World} {base : Nat} {held : Bool}
theorem qaCells : Try.prog.cellsOf 29 = 8 := by kernel_rfl
theorem u8CellsQ : Try.prog.cellsOf 5 = 1 := by kernel_rfl
theorem u64CellsQ : Try.prog.cellsOf 27 = 1 := by kernel_rfl
theorem strCellsQ : Try.prog.cellsOf 9 = 1 := by kernel_rfl
theorem bytesCellsQ : Try.prog.cellsOf 23 = 1 := by kernel_rfl
/-- What came in for a step. -/
structure QaD (H : Type) (a : Qj) (d : DataW H) : Prop where
  eq : ∃ x : DataW H, d = .agg [.lit (.int .u8 (a.k : Int)), .lit (.int .u8 (a.s : Int)), .lit (.int .u64 (a.i : Int)), .lit (.int .u64 (a.j : Int)), .lit (.int .u64 (a.m : Int)), .lit (.string a.n.data.toList), .lit (.string a.v.data.toList), x]

theorem raw_open {fuel : Nat} {c : Value} {x : DataW H × List MemPlace} (h : DataW.trod enc Try.prog w base (fun _ => true) held fuel 23 [c] = some x) : ∃ l : List UInt8, Bs w c l := by
  rcases open_ints Try.underlying23 Try.underlying5 (by kernel_rfl) h with ⟨hcs, _⟩ | ⟨x, l, c2, zs, hcs, _, hl, hm, hz, _, hcell, hwz⟩
  · injection hcs with hcs
    subst hcs
    exact ⟨[], Rd.nil w⟩
  · injection hcs with hcs
    subst hcs
    obtain ⟨l, h1, _⟩ := IsRow.bytes (w := w) (a := some x) (len := l) (cap := c2) (zs := zs) (.inr ⟨_, rfl, hl, hm, by simpa using hz, hcell, hwz⟩)
    exact ⟨l, h1⟩

set_option maxRecDepth 100000 in
theorem qa_open {fuel : Nat} {cs : List Value} {x : DataW H × List MemPlace} (h : DataW.trod enc Try.prog w base (fun _ => true) held fuel 29 cs = some x) :
    ∃ a : Qj, cs = qvl a ∧ QaD H a x.1 ∧ Bs w a.raw a.b ∧ a.k < 256 ∧ a.i < 18446744073709551616 := by
  obtain ⟨xs, n, _, hx, hl, hlen, hf⟩ := DataW.trod_struct Try.underlying29 h
  rw [qaCells] at hl
  match cs, hl with
  | [c0, c1, c2, c3, c4, c5, c6, c7], _ =>
    have e0 := hf 0 _ rfl
    have e1 := hf 1 _ rfl
    have e2 := hf 2 _ rfl
    have e3 := hf 3 _ rfl
    have e4 := hf 4 _ rfl
    have e5 := hf 5 _ rfl
    have e6 := hf 6 _ rfl
    have e7 := hf 7 _ rfl
    change DataW.trod enc Try.prog w base (fun _ => true) held n 5 (([c0, c1, c2, c3, c4, c5, c6, c7].drop 0).take (Try.prog.cellsOf 5)) = xs[0]? at e0
    change DataW.trod enc Try.prog w base (fun _ => true) held n 5 (([c0, c1, c2, c3, c4, c5, c6, c7].drop 1).take (Try.prog.cellsOf 5)) = xs[1]? at e1
    change DataW.trod enc Try.prog w base (fun _ => true) held n 27 (([c0, c1, c2, c3, c4, c5, c6, c7].drop 2).take (Try.prog.cellsOf 27)) = xs[2]? at e2
    change DataW.trod enc Try.prog w base (fun _ => true) held n 27 (([c0, c1, c2, c3, c4, c5, c6, c7].drop 3).take (Try.prog.cellsOf 27)) = xs[3]? at e3
    change DataW.trod enc Try.prog w base (fun _ => true) held n 27 (([c0, c1, c2, c3, c4, c5, c6, c7].drop 4).take (Try.prog.cellsOf 27)) = xs[4]? at e4
    change DataW.trod enc Try.prog w base (fun _ => true) held n 9 (([c0, c1, c2, c3, c4, c5, c6, c7].drop 5).take (Try.prog.cellsOf 9)) = xs[5]? at e5
    change DataW.trod enc Try.prog w base (fun _ => true) held n 9 (([c0, c1, c2, c3, c4, c5, c6, c7].drop 6).take (Try.prog.cellsOf 9)) = xs[6]? at e6
    change DataW.trod enc Try.prog w base (fun _ => true) held n 23 (([c0, c1, c2, c3, c4, c5, c6, c7].drop 7).take (Try.prog.cellsOf 23)) = xs[7]? at e7
    rw [u8CellsQ] at e0 e1
    rw [u64CellsQ] at e2 e3 e4
    rw [strCellsQ] at e5 e6
    rw [bytesCellsQ] at e7
    match xs, hlen with
    | [y0, y1, y2, y3, y4, y5, y6, y7], _ =>
      obtain ⟨n0, h0, d0, w0⟩ := DataW.trod_int Try.underlying5 e0
      obtain ⟨n1, h1, d1, w1⟩ := DataW.trod_int Try.underlying5 e1
      obtain ⟨n2, h2, d2, w2⟩ := DataW.trod_int Try.underlying27 e2
      obtain ⟨n3, h3, d3, w3⟩ := DataW.trod_int Try.underlying27 e3
      obtain ⟨n4, h4, d4, w4⟩ := DataW.trod_int Try.underlying27 e4
      obtain ⟨s5, h5, d5, _⟩ := DataW.trod_string Try.underlying9 e5
      obtain ⟨s6, h6, d6, _⟩ := DataW.trod_string Try.underlying9 e6
      obtain ⟨k, rfl, hk⟩ := u8nQ w0
      obtain ⟨s, rfl, hs⟩ := u8nQ w1
      obtain ⟨i, rfl, hi⟩ := u64nQ w2
      obtain ⟨j, rfl, hj⟩ := u64nQ w3
      obtain ⟨m, rfl, hm⟩ := u64nQ w4
      simp at h0 h1 h2 h3 h4 h5 h6
      obtain ⟨rb, hrb⟩ := raw_open (c := c7) e7
      subst h0 h1 h2 h3 h4 h5 h6
      exact ⟨⟨k, s, i, j, m, s5, s6, c7, rb⟩, rfl, ⟨y7.1, by rw [hx]; simp only [List.map_cons, List.map_nil]; rw [d0, d1, d2, d3, d4, d5, d6]⟩, hrb, hk, hi⟩

theorem qas_open {fuel : Nat} {cs : List Value} {x : DataW H × List MemPlace} (h : DataW.trod enc Try.prog w base (fun _ => true) held fuel 22 cs = some x) :
    ∃ (v : Value) (l : List Qj), cs = [v] ∧ Qas w v l ∧ ((∀ n ∈ x.1.weights Try.prog 22, n ≤ reachBytes) → SmallQ l) := by
  rcases open_slice Try.underlying22 h with ⟨hcs, _⟩ | ⟨p, len, cap, m, n, D, Pl, hcs, hb, hlc, hcm, hm, hx, hi⟩
  · exact ⟨_, [], hcs, ⟨Rn.nil 8 w, fun a ha => by cases ha⟩, fun _ f hf => by cases hf⟩
  · have hlm : len ≤ m := by rw [hm]; split <;> omega
    obtain ⟨F, hF⟩ := choose_lt (α := Qj) (n := len) (p := fun i f => w.cells? base (p.add (i * 8)) 8 = some (qvl f) ∧ QaD H f (D i) ∧ Bs w f.raw f.b ∧ f.k < 256 ∧ f.i < 18446744073709551616) (fun i hil => by
      obtain ⟨cs', h1, h2⟩ := hi i (by omega)
      rw [qaCells] at h1
      obtain ⟨f, rfl, hd, hr⟩ := qa_open h2
      exact ⟨f, h1, hd, hr⟩)
    have hlen : ((List.range len).map F).length = len := by simp
    have hget : ∀ i (hil : i < len), ((List.range len).map F)[i]'(by omega) = F i := fun i hil => by simp
    refine ⟨_, (List.range len).map F, hcs, ⟨⟨some p, cap, by rw [hlen], by rw [hlen]; exact hlc, hcm, by rw [qvl_length], .inr ⟨p, rfl, fun j u hu => ?_⟩⟩, fun a ha => ?_⟩, fun hw f hf => ?_⟩
    · have hj : j < len * 8 := by
        rcases Nat.lt_or_ge j (len * 8) with h1 | h1
        · exact h1
        · rw [List.getElem?_eq_none (by rw [qvl_length, hlen]; exact h1)] at hu; cases hu
      have hil : j / 8 < len := by omega
      obtain ⟨h1, _⟩ := hF (j / 8) hil
      obtain ⟨_, _, hat⟩ := World.cells?_some h1
      have hr : j % 8 < 8 := Nat.mod_lt _ (by omega)
      have ej : j / 8 * 8 + j % 8 = j := by omega
      have hv := qvl_at ((List.range len).map F) (j / 8) (j % 8) (by rw [hlen]; exact hil) hr
      rw [ej, hget _ hil, hu] at hv
      have := hat (j % 8) (by omega)
      rw [add_add, ej] at this
      rw [this, ← hv]
    · obtain ⟨i, hir, rfl⟩ := List.mem_map.1 ha
      exact (hF i (List.mem_range.1 hir)).2.2.1
    · obtain ⟨i, hir, rfl⟩ := List.mem_map.1 hf
      have hil : i < len := List.mem_range.1 hir
      obtain ⟨_, ⟨xr, hd⟩, _, hrw⟩ := hF i hil
      have hmem : ∀ n ∈ (D i).weights Try.prog 29, n ≤ reachBytes := fun n hn => hw n (by
        rw [hx]
        simp only [DataW.weights, Try.underlying22, List.mem_cons, List.mem_append]
        exact .inr (.inl (weights_mem_all (List.mem_map.2 ⟨i, hir, rfl⟩) n hn)))
      rw [hd] at hmem
      have h1 := hmem (F i).n.data.toList.length (by simp only [DataW.weights, Try.underlying29]; simp [DataW.weightsEach, DataW.weights])
      have h2 := hmem (F i).v.data.toList.length (by simp only [DataW.weights, Try.underlying29]; simp [DataW.weightsEach, DataW.weights])
      have hr : reachBytes ≤ 140737488351232 := by decide
      have e1 : (F i).n.data.toList.length = (F i).n.size := by simp
      have e2 : (F i).v.data.toList.length = (F i).v.size := by simp
      exact ⟨hrw, by omega, by omega⟩
end
end Go.Proofs.Yteopmaaghhendaa

/-
  Contract of bifoldhelp.Fields alone.
-/
namespace Go.Proofs.Yteopmaaghhendaa
open Go.RowKit
set_option linter.unusedVariables false

theorem ret_bool {a b : Bool} (h : a = b) : Ending.returned (.bool a) = .returned (.bool b) := by rw [h]
theorem at_ne {α : Type} {a b : List α} {k : Nat} (ha : k < a.length) (hb : k < b.length) (h : ¬ a[k] = b[k]) : ¬ a = b := by
  rintro rfl; exact h rfl

set_option maxRecDepth 100000 in
set_option maxHeartbeats 1000000 in
theorem fields_any (va vb : Value) (a b : List Fd) (w : World) (ha : Fs w va a) (hb : Fs w vb b) :
    Calls Try.prog 21 #[va, vb] w fun e w' => e = .returned (.bool (decide (a = b))) ∧ Below w.heap.size w w' := by
  have HA := Bx.mk ha
  have HBb := Bx.mk hb
  have hlena := fun ty W => ha.run_len ty W
  have hlenb := fun ty W => hb.run_len ty W
  have hlm := ha.len
  unfold maxLen at hlm
  clear ha hb
  by_cases hll : a.length = b.length
  · have hd : ((a.length : Int) == (b.length : Int)) = true := by rw [beq_iff_eq]; omega
    have hd2 : ((a.length : Int) != (b.length : Int)) = false := by rw [bne, hd]; rfl
    have HLL := Bx.mk hll
    clear hll
    obtain ⟨R, hR⟩ : ∃ R, decide (a = b) = R := ⟨_, rfl⟩
    rw [hR]
    have HR := Bx.mk hR
    clear hR
    go_enter Try.func21, Try.ntmps21
    go_wp2
    clear hd hd2
    go_loopg [5] a.length (fun g s5 wx => ∃ k : Nat, k + g = a.length ∧ s5 = .int .i64 k ∧ Bx (AgreeTo a b k) ∧ Bx (Below w.heap.size w wx))
    case atStart => exact ⟨0, by omega, rfl, ⟨AgreeTo.zero _ _⟩, ⟨Below.refl _ _⟩⟩
    case round =>
      obtain ⟨k, hkg, rfl, HG, HB⟩ := hrel
      cases gk with
      | zero =>
        obtain rfl : k = a.length := by omega
        go_wp2
        go_ret
        exact ⟨ret_bool (by rw [← HR.out]; exact (decide_eq_true (AgreeTo.eq HLL.out HG.out)).symm), HB.out⟩
      | succ g =>
        have hk : k < a.length := by omega
        have hkb : k < b.length := by have := HLL.out; omega
        have hkz : (k : Int) < (a.length : Int) := by omega
        obtain ⟨b1, o1, hix1, hcs1⟩ := HA.out.at_ k hk
        obtain ⟨b2, o2, hix2, hcs2⟩ := HBb.out.at_ k hkb
        obtain ⟨hc1, hc1'⟩ := hcs1 wr (HA.out.keep HB.out)
        obtain ⟨hc2, hc2'⟩ := hcs2 wr (HBb.out.keep HB.out)
        have HSU := Bx.mk (show a[k] = b[k] → AgreeTo a b (k + 1) from fun h => HG.out.succ (by rw [List.getElem?_eq_getElem hk, List.getElem?_eq_getElem hkb, h]))
        have HNE := Bx.mk (fun h => at_ne hk hkb h)
        clear hcs1 hcs2
        generalize a[k] = x at hc1 hc1' HSU HNE
        obtain ⟨x1, x2⟩ := x
        generalize b[k] = y at hc2 hc2' HSU HNE
        obtain ⟨y1, y2⟩ := y
        simp only at hc1 hc1' hc2 hc2'
        by_cases h1 : x1 = y1
        · subst h1
          by_cases h2 : x2 = y2
          · subst h2
            go_wp2
            go_region
            go_wp2
            go_roundg g
            case measure => omega
            case rel => exact ⟨k + 1, by omega, by go_num, ⟨HSU.out (by simp)⟩, ⟨HB.out.drew⟩⟩
          · have hn : ¬ x2.toList = y2.toList := fun h => h2 (str_eq _ _ h)
            have HX := Bx.mk (show ¬ ((x1, x2) : Fd) = (x1, y2) from fun h => h2 (by injection h))
            clear h2
            go_wp2
            go_region
            go_wp2
            go_ret
            exact ⟨ret_bool (by rw [← HR.out]; exact (decide_eq_false (HNE.out HX.out)).symm), HB.out.drew⟩
        · have hn : ¬ x1.toList = y1.toList := fun h => h1 (str_eq _ _ h)
          have HX := Bx.mk (show ¬ ((x1, x2) : Fd) = (y1, y2) from fun h => h1 (by injection h))
          clear h1
          go_wp2
          go_region
          go_wp2
          go_ret
          exact ⟨ret_bool (by rw [← HR.out]; exact (decide_eq_false (HNE.out HX.out)).symm), HB.out.drew⟩
  · have hd : ((a.length : Int) == (b.length : Int)) = false := by rw [beq_eq_false_iff_ne]; omega
    have hd2 : ((a.length : Int) != (b.length : Int)) = true := by rw [bne, hd]; rfl
    have hr : decide (a = b) = false := by rw [decide_eq_false_iff_not]; rintro rfl; exact hll rfl
    rw [hr]
    clear hll hr
    go_enter Try.func21, Try.ntmps21
    go_wp2
    go_ret
    exact ⟨rfl, Below.refl _ _⟩

end Go.Proofs.Yteopmaaghhendaa
