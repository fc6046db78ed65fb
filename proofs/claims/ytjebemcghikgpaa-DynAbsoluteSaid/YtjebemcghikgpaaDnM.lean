/-
  A table beside a map from numbers to fields; a slice of one field cut out of another.
-/
import Derived.Test.YtjebemcghikgpaaDnL
import Derived.WalkArith
namespace Go.Proofs.Ytjebemcghikgpaa
open Go.RowKit Go.Maps
set_option linter.unusedVariables false

/-- How a field reads as an element. -/
def fR (v : Value) : Option (DataW Unit × List MemPlace) :=
  match v with
  | .agg ⟨[.string a, .string b]⟩ => some (.agg [.lit (.string a.data.toList), .lit (.string b.data.toList)], [])
  | _ => none
def fD (f : Fd) : DataW Unit := .agg [.lit (.string f.1.data.toList), .lit (.string f.2.data.toList)]
theorem fR_mk (a b : ByteArray) : fR (.agg #[.string a, .string b]) = some (fD (a, b), []) := rfl
theorem ba_inj {a b : ByteArray} (h : a.data.toList = b.data.toList) : a = b := by
  cases a; cases b
  simp only [ByteArray.mk.injEq]
  exact Array.toList_inj.1 h
theorem fR_inv {v : Value} {f : Fd} {ps : List MemPlace} (h : fR v = some (fD f, ps)) : v = .agg #[.string f.1, .string f.2] := by
  unfold fR at h
  split at h
  · rename_i a b
    simp only [Option.some.injEq, Prod.mk.injEq, fD, DataW.agg.injEq, List.cons.injEq, DataW.lit.injEq, Lit.string.injEq, and_true] at h
    obtain ⟨f1, f2⟩ := f
    obtain ⟨⟨h1, h2⟩, _⟩ := h
    rw [ba_inj h1, ba_inj h2]
  · cases h
theorem u64Law : Keyed Try.prog 25 := int_keyed Try.underlying25
theorem keyOf_u64 {n : Nat} (h : n ≤ 1000000) : keyOf Try.prog 25 (.int .u64 (n : Int)) = some (.int .u64 (n : Int)) := keyOf_int_mk Try.underlying25 (WalkArith.wf_u64 (by omega))
theorem u64_key {n : Nat} (h : n ≤ 1000000) : WideAt.IsKeyLit (.int .u64 (n : Int)) := u64Law.key (keyOf_u64 h)
theorem zeroFd (w : World) : (zeroValue 24).run Try.prog w = .ok (.agg #[.string ⟨#[]⟩, .string ⟨#[]⟩]) w := by kernel_rfl

/-- What stands in the table stands in the map, by its number. -/
def Sd (T : Tab) (D : DataW Unit) : Prop := IsMap D ∧ ∀ j (hj : j < T.l.length), D.atKey (.int .u64 ((T.first + j : Nat) : Int)) (fD emp) = fD T.l[j]
theorem Sd.new (n : Int) : Sd (Tab.new n) (.map []) := ⟨isMap_empty, fun j hj => by simp [Tab.new] at hj⟩
theorem fits_get (room : Int) (l : List Fd) (j : Nat) (hj : j < (fits room l).length) : ∃ hk : l.length - (fits room l).length + j < l.length, (fits room l)[j] = l[l.length - (fits room l).length + j] := by
  have hl := fits_len room l
  refine ⟨by omega, ?_⟩
  have h := fits_drop room l
  have e : (fits room l)[j]? = (l.drop (l.length - (fits room l).length))[j]? := by rw [← h]
  rw [List.getElem?_drop, List.getElem?_eq_getElem hj, List.getElem?_eq_getElem (by omega)] at e
  exact Option.some.inj e
theorem Sd.add {T : Tab} {D : DataW Unit} (h : Sd T D) (hok : T.ok) (f : Fd) (hc : fsz f + 32 ≤ T.cap) : Sd (T.add f) (D.put (.int .u64 (T.tot : Int)) (fD f)) := by
  obtain ⟨h0, h1⟩ := h
  have hadd : T.add f = ⟨fits (T.room f) T.l ++ [f], T.cap, T.tot + 1⟩ := by unfold Tab.add; rw [if_pos hc]
  have hl := fits_len (T.room f) T.l
  have hlen := hok.len
  have htot := hok.tot
  refine ⟨h0.put _ _, fun j hj => ?_⟩
  have hfirst : (T.add f).first = T.tot - (fits (T.room f) T.l).length := by rw [hadd]; show T.tot + 1 - (fits (T.room f) T.l ++ [f]).length = _; rw [List.length_append, List.length_singleton]; omega
  have hj' : j < (fits (T.room f) T.l ++ [f]).length := by rw [hadd] at hj; exact hj
  have hget : (T.add f).l[j] = (fits (T.room f) T.l ++ [f])[j] := by simp only [hadd]
  rw [hget, hfirst]
  rw [List.length_append, List.length_singleton] at hj'
  by_cases he : j = (fits (T.room f) T.l).length
  · subst he
    rw [show T.tot - (fits (T.room f) T.l).length + (fits (T.room f) T.l).length = T.tot by omega, atKey_put_same h0 (u64_key htot)]
    simp
  · have hjl : j < (fits (T.room f) T.l).length := by omega
    obtain ⟨hk, e⟩ := fits_get (T.room f) T.l j hjl
    rw [atKey_put_other (fun hc => by simp only [Lit.int.injEq, true_and] at hc; omega), List.getElem_append_left hjl, e]
    have := h1 _ hk
    rw [← this]
    congr 3
    unfold Tab.first
    omega

/-- The program's table, and a map in block bm. -/
def OneM (B p bm n : Nat) (T : Tab) (D : DataW Unit) (w : World) : Prop :=
  ∃ S, Tb p T w S ∧ (∀ k, S k → B ≤ k) ∧ ¬ S bm ∧ B ≤ bm ∧ w.ownsMap Try.prog 25 fR bm n D
section
variable {B p bm n : Nat} {T T' : Tab} {D : DataW Unit} {w w' : World}
theorem OneM.one (h : OneM B p bm n T D w) : One B p T w := by obtain ⟨S, h1, h2, _⟩ := h; exact ⟨S, h1, h2⟩
theorem ownsMap_below {R : Value → Option (DataW Unit × List MemPlace)} {k : TypeId} (h : w.ownsMap Try.prog k R bm n D) (hb : Below w.heap.size w w') : w'.ownsMap Try.prog k R bm n D := by
  have hlt := h.lt
  obtain ⟨es, cl, h1, h2, h3, h4⟩ := h
  exact ⟨es, cl, (hb.block bm hlt).trans h1, h2, h3, h4⟩
theorem OneM.keep (h : OneM B p bm n T D w) (hb : Below w.heap.size w w') : OneM B p bm n T D w' := by
  obtain ⟨S, h1, h2, h3, h4, h5⟩ := h
  exact ⟨S, h1.keep hb, h2, h3, h4, ownsMap_below h5 hb⟩
theorem OneM.addLit (h : OneM B p bm n T D w) (hB : B ≤ w.heap.size) (f : Fd) (ht : T.tot + 1 ≤ 1000000) (hz : fsz f ≤ 1000000) :
    Calls Try.prog 13 #[.pointer (some ⟨p, 0, none⟩), .slice (some ⟨w.heap.size, 0, none⟩) 1 1] (w.alloc (.cells #[.string f.1, .string f.2] 24)) fun e w' => e = .returned (.int .i64 (T.went (T.room f) : Int)) ∧ OneM B p bm n (T.add f) D w' ∧ Below B w w' := by
  obtain ⟨S, h1, h2, h3, h4, h5⟩ := h
  have hb := (Below.refl w.heap.size w).alloc (Nat.le_refl _) (.cells #[.string f.1, .string f.2] 24)
  refine (add_any (h1.keep hb) (Fs.one w _ rfl f) (fun g hg => ?_) (by simpa using ht) (by intro x hx; rw [List.mem_singleton.1 hx]; exact hz)).mono ?_
  · simp only [Value.ownBlock, Option.some.injEq] at hg
    subst hg
    exact ⟨by simp, fun hs => Nat.lt_irrefl _ (h1.lt _ hs)⟩
  · rintro e w2 ⟨rfl, S1, x, s, g⟩
    have hlt := h5.lt
    have h5 := ownsMap_below h5 hb
    refine ⟨rfl, ⟨S1, x, fun k hk => ?_, fun hk => ?_, h4, ?_⟩, (hb.mono hB).trans (g.below (Nat.le_trans hB hb.size) h2)⟩
    · rcases s k hk with h | h
      · exact h2 k h
      · have := hb.size; omega
    · rcases s bm hk with h | h
      · exact h3 h
      · have := hb.size; omega
    · have hlt2 := h5.lt
      obtain ⟨es, cl, k1, k2, k3, k4⟩ := h5
      exact ⟨es, cl, (g.block bm hlt2 h3).trans k1, k2, k3, k4⟩
theorem OneM.put (h : OneM B p bm n T D w) (k : Nat) (hk : k ≤ 1000000) (hn : n < 1000000) (f : Fd) :
    ∃ w', (Instr.mapUpdate 44 (.map (some bm)) (.int .u64 (k : Int)) (.agg #[.string f.1, .string f.2])).run Try.prog w = .ok () w' ∧ OneM B p bm (n + 1) T (D.put (.int .u64 (k : Int)) (fD f)) w' ∧ (B ≤ w.heap.size → Below B w w') := by
  obtain ⟨S, h1, h2, h3, h4, h5⟩ := h
  obtain ⟨w', hrun, ho, hg⟩ := h5.update u64Law Try.underlying44 (by unfold maxLen; omega) (keyOf_u64 hk) (fR_mk f.1 f.2)
  exact ⟨w', hrun, ⟨S, h1.kept hg.size (fun i hi => hg.block i (h1.lt i hi) (fun e => h3 (by injection e with e; exact e ▸ hi))), h2, h3, h4, ho⟩, fun hB => ⟨hg.os, hg.tape, hg.output, hg.size, fun i hi => hg.block i (by omega) (fun e => by injection e with e; omega)⟩⟩
theorem OneM.look (h : OneM B p bm n T D w) (k : Nat) (hk : k ≤ 1000000) (f : Fd) (hf : D.atKey (.int .u64 (k : Int)) (fD emp) = fD f) :
    (Instr.lookup 44 (.map (some bm)) (.int .u64 (k : Int)) false).run Try.prog w = .ok (.agg #[.string f.1, .string f.2]) w := by
  obtain ⟨S, h1, h2, h3, h4, h5⟩ := h
  obtain ⟨v, ps, hrun, hv⟩ := h5.lookup u64Law Try.underlying44 (zeroFd w) (show fR (.agg #[.string ⟨#[]⟩, .string ⟨#[]⟩]) = some (fD emp, []) from rfl) (keyOf_u64 hk)
  rw [hf] at hv
  rw [hrun, fR_inv hv]
theorem One.withMap (h : One B p T w) (hB : B ≤ w.heap.size) : OneM B p w.heap.size 0 T (.map []) (w.alloc (.map #[] 0)) := by
  obtain ⟨S, h1, h2⟩ := h
  exact ⟨S, h1.keep ((Below.refl _ _).alloc (Nat.le_refl _) _), h2, fun hk => Nat.lt_irrefl _ (h1.lt _ hk), hB, World.ownsMap_made w _ _ _⟩
end

/-- v[i:i+1] -/
theorem Fs.cut1 {w : World} {v : Value} {l : List Fd} (h : Fs w v l) (i : Nat) (hi : i < l.length) :
    ∃ v', (∀ W : World, (Instr.slice 40 v (some (.int .i64 (i : Int))) (some (.int .i64 ((i + 1 : Nat) : Int))) none).run Try.prog W = .ok v' W) ∧ ∀ W, Fs W v l → Fs W v' [l[i]] := by
  have helem : Try.prog.underlying 40 = some (.slice (Try.prog.elem 40)) := by kernel_rfl
  have hsz : ∀ W : World, (sizeOf (Try.prog.elem 40)).run Try.prog W = .ok 2 W := fun W => by kernel_rfl
  obtain ⟨b, o, c, rfl, h1, h2, _, _⟩ := Rn.at_ h (by omega) (by omega)
  refine ⟨.slice (some ⟨b, o + i * 2, none⟩) 1 (c - i), fun W => ?_, fun W hW => ?_⟩
  · rw [run_slice_lh W 40 (some ⟨b, o, none⟩) l.length c helem .i64 .i64 (i : Int) ((i + 1 : Nat) : Int) (by omega) (by omega) (by omega), hsz]
    simp only [Result.andThen, sliced, Int.toNat_natCast]
    rw [if_neg (by omega)]
    simp [Addr.add]
  · obtain ⟨b', o', c', e, _, _, _, hc⟩ := Rn.at_ hW (by omega) (by omega)
    injection e with e1 e2 e3
    injection e1 with e1
    injection e1 with e1 e4
    subst e1; subst e4
    refine ⟨_, _, rfl, by show 1 ≤ _; omega, by omega, rfl, .inr ⟨_, rfl, fun j u hu => ?_⟩⟩
    have hv := fvl_at l i hi
    rw [Addr.add_lit]
    match j, hu with
    | 0, hu => rw [Nat.add_zero]; rw [hc _ _ hv.1]; simpa [fvl] using hu
    | 1, hu => rw [Nat.add_assoc, hc _ _ hv.2]; simpa [fvl] using hu
    | j + 2, hu => simp [fvl] at hu

end Go.Proofs.Ytjebemcghikgpaa
