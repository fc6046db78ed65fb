/-
  What a call may write: a set of blocks. A slice of fields in a row of its own, that may begin anywhere within it: read, appended to, its head written, cut.
-/
import Derived.Test.YtjebemcghikgpaaDnFb
import Derived.Deep.OwnRows
import Derived.Laws.IdiomCopy
import Derived.ArgAppend
namespace Go.Proofs.Ytjebemcghikgpaa
open Go.RowKit
set_option linter.unusedVariables false

/-- Of the blocks that stood, those outside S are as they were. -/
structure Fp (S : Nat → Prop) (w w' : World) : Prop where
  os : w'.os = w.os
  tape : w'.tape = w.tape
  output : w'.output = w.output
  size : w.heap.size ≤ w'.heap.size
  block : ∀ k, k < w.heap.size → ¬ S k → w'.heap[k]? = w.heap[k]?

theorem Fp.refl (S : Nat → Prop) (w : World) : Fp S w w := ⟨rfl, rfl, rfl, Nat.le_refl _, fun _ _ _ => rfl⟩
theorem Fp.trans {S S' : Nat → Prop} {a b c : World} (h : Fp S a b) (k : Fp S' b c) (hs : ∀ i, S' i → S i ∨ a.heap.size ≤ i) : Fp S a c :=
  ⟨k.os.trans h.os, k.tape.trans h.tape, k.output.trans h.output, Nat.le_trans h.size k.size, fun i hi hn => (k.block i (Nat.lt_of_lt_of_le hi h.size) (fun hc => (hs i hc).elim hn fun h1 => by omega)).trans (h.block i hi hn)⟩
theorem Fp.then {S : Nat → Prop} {a b c : World} (h : Fp S a b) (k : Fp S b c) : Fp S a c := h.trans k fun _ h => .inl h
theorem Fp.of_below {S : Nat → Prop} {w w' : World} (h : Below w.heap.size w w') : Fp S w w' := ⟨h.os, h.tape, h.output, h.size, fun k hk _ => h.block k hk⟩
theorem Fp.of_grown {S : Nat → Prop} {w w' : World} {row : Option Nat} (h : w.grownBy w' row) (hr : ∀ k, row = some k → S k) : Fp S w w' :=
  ⟨h.os, h.tape, h.output, h.size, fun k hk hn => h.block k hk fun e => hn (hr k e.symm)⟩
theorem Fp.set (S : Nat → Prop) (w : World) (a : Addr) (v : Value) (ha : S a.block) : Fp S w (w.setCell a v) :=
  ⟨rfl, rfl, rfl, by simp [World.setCell], fun k hk hn => Go.Deep.blk_setCell_other _ _ _ _ (fun e => hn (e ▸ ha))⟩
theorem Fp.below {S : Nat → Prop} {w w' : World} {B : Nat} (h : Fp S w w') (hB : B ≤ w.heap.size) (hS : ∀ k, S k → B ≤ k) : Below B w w' :=
  ⟨h.os, h.tape, h.output, h.size, fun k hk => h.block k (by omega) fun hs => by have := hS k hs; omega⟩

theorem grown_set (w : World) (g i : Nat) (v : Value) : w.grownBy (w.setCell ⟨g, i, none⟩ v) (some g) :=
  ⟨rfl, rfl, rfl, by simp [World.setCell], fun k _ hne => Go.Deep.blk_setCell_other _ _ _ _ (fun e => hne (by rw [e]))⟩
theorem grown_trans {a b c : World} {row : Option Nat} (h : a.grownBy b row) (k : b.grownBy c row) : a.grownBy c row :=
  ⟨k.os.trans h.os, k.tape.trans h.tape, k.output.trans h.output, Nat.le_trans h.size k.size, fun i hi hn => (k.block i (Nat.lt_of_lt_of_le hi h.size) hn).trans (h.block i hi hn)⟩

/-- The value reads as these fields, in a row that no other slice is to write. -/
def St (w : World) (v : Value) (L : List Fd) : Prop :=
  (v = .slice none 0 0 ∧ L = []) ∨ ∃ (g o cap m : Nat) (F : Nat → Value), v = .slice (some ⟨g, o, none⟩) L.length cap ∧ w.rowIs g 24 m F ∧ L.length ≤ cap ∧ cap ≤ maxLen ∧ o + cap * 2 ≤ m ∧ ∀ j u, (L.flatMap fvl)[j]? = some u → F (o + j) = u

theorem St.nil (w : World) : St w (.slice none 0 0) [] := .inl ⟨rfl, rfl⟩
theorem St.fs {w : World} {v : Value} {L : List Fd} (h : St w v L) : Fs w v L := by
  rcases h with ⟨rfl, rfl⟩ | ⟨g, o, cap, m, F, rfl, hr, h1, h2, h3, h4⟩
  · exact Rn.nil 2 w
  · refine ⟨_, cap, rfl, h1, h2, fvl_length L, .inr ⟨_, rfl, fun j u hu => ?_⟩⟩
    have hj : j < (L.flatMap fvl).length := (List.getElem?_eq_some_iff.1 hu).1
    rw [fvl_length] at hj
    rw [Addr.add_lit, hr.cell (by omega), h4 j u hu]
theorem St.lt {w : World} {v : Value} {L : List Fd} (h : St w v L) {k : Nat} (hk : v.ownBlock = some k) : k < w.heap.size := by
  rcases h with ⟨rfl, rfl⟩ | ⟨g, o, cap, m, F, rfl, hr, h1, h2, h3, h4⟩
  · simp [Value.ownBlock] at hk
  · simp only [Value.ownBlock, Option.some.injEq] at hk
    subst hk
    exact hr.lt
theorem St.kept {w w' : World} {v : Value} {L : List Fd} (h : St w v L) (hb : ∀ k, v.ownBlock = some k → w'.heap[k]? = w.heap[k]?) : St w' v L := by
  rcases h with h | ⟨g, o, cap, m, F, rfl, hr, h1, h2, h3, h4⟩
  · exact .inl h
  · exact .inr ⟨g, o, cap, m, F, rfl, hr.of_block (hb g rfl), h1, h2, h3, h4⟩
theorem St.keep {w w' : World} {v : Value} {L : List Fd} (h : St w v L) (hb : Below w.heap.size w w') : St w' v L := h.kept fun k hk => hb.block k (h.lt hk)
theorem St.grown {w w' : World} {row : Option Nat} {v : Value} {L : List Fd} (h : St w v L) (hg : w.grownBy w' row) (hn : ∀ k, v.ownBlock = some k → some k ≠ row) : St w' v L :=
  h.kept fun k hk => hg.block k (h.lt hk) (hn k hk)

theorem St.of_own {w : World} {B : Nat} {v : Value} {L : List Fd} (h : w.ownsRow B 24 2 v L.length (L.flatMap fvl)) : St w v L := by
  rcases h.2 with ⟨rfl, h0⟩ | ⟨g, cap, cur, rfl, _, hg, hnc, hcm, hcs, ht⟩
  · exact .inl ⟨rfl, List.eq_nil_of_length_eq_zero h0⟩
  · refine .inr ⟨g, 0, cap, cap * 2, fun i => cur.getD i undef, rfl, ⟨cur, hg, hcs, fun i hi => ?_⟩, hnc, hcm, by omega, fun j u hu => ?_⟩
    · have : i < cur.size := by omega
      simp [Array.getD, this]
    · have hj : j < (L.flatMap fvl).length := (List.getElem?_eq_some_iff.1 hu).1
      rw [fvl_length] at hj
      rw [← ht, List.getElem?_take] at hu
      rw [if_pos hj] at hu
      have : j < cur.size := by omega
      simp only [Nat.zero_add, Array.getD, this, ↓reduceDIte]
      simpa [this] using hu

theorem flatMap_fvl_snoc (L : List Fd) (f : Fd) : (L ++ [f]).flatMap fvl = L.flatMap fvl ++ fvl f := by simp
theorem infoF : (Try.prog.info? 24).map (fun i => (i.zero, i.size, i.bytes)) = some (some (.agg #[.string ⟨#[]⟩, .string ⟨#[]⟩]), 2, 32) := by kernel_rfl
theorem infoF_get : ∃ i, Try.prog.info? 24 = some i ∧ i.zero = some (.agg #[.string ⟨#[]⟩, .string ⟨#[]⟩]) ∧ i.size = 2 ∧ i.bytes = 32 := by
  have h := infoF
  cases hi : Try.prog.info? 24 with
  | none => rw [hi] at h; simp at h
  | some i =>
    rw [hi] at h
    simp only [Option.map_some, Option.some.injEq, Prod.mk.injEq] at h
    exact ⟨i, rfl, h.1, h.2.1, h.2.2⟩

/-- One field more. -/
theorem St.append {w : World} {v u : Value} {L : List Fd} {f : Fd} (h : St w v L) (hu : Fs w u [f]) (hl : L.length ≤ 1000000) (ty : TypeId) :
    ∃ v' w', (Builtin.append_ #[40, 40] ty #[v, u]).run Try.prog w = .ok v' w' ∧ St w' v' (L ++ [f]) ∧ w.grownBy w' v.ownBlock ∧ (v'.ownBlock = v.ownBlock ∨ ∃ g, v'.ownBlock = some g ∧ w.heap.size ≤ g) ∧
      (∀ A n, v = .slice A n n → w.grownBy w' none ∧ ∃ g, v'.ownBlock = some g ∧ w.heap.size ≤ g) := by
  obtain ⟨i, hi, hz, hs, hb⟩ := infoF_get
  obtain ⟨b, o', c', rfl, c1, c2, hbl, hcu⟩ := Rn.at_ hu (by simp) (by omega)
  have hone : ∀ x ∈ fvl f, x.oneCell' = true := by intro x hx; rcases List.mem_cons.1 hx with rfl | hx; · rfl
                                                   · rcases List.mem_cons.1 hx with rfl | hx; · rfl
                                                     · cases hx
  have hnews : ∀ j u, (fvl f)[j]? = some u → w.cell? ((⟨b, o', none⟩ : Addr).add j) = some u := fun j u hj => by
    rw [Addr.add_lit]; exact hcu j u (by simpa using hj)
  have hlen1 : (L ++ [f]).length = L.length + 1 := by simp
  have fresh : ∀ (v' : Value) (w' : World) (row : Option Nat), w'.ownsRow w.heap.size 24 2 v' (L.length + 1) (L.flatMap fvl ++ fvl f) → w.grownBy w' row → St w' v' (L ++ [f]) ∧ ∃ g, v'.ownBlock = some g ∧ w.heap.size ≤ g := by
    intro v' w' row ho hg
    rw [← flatMap_fvl_snoc, ← hlen1] at ho
    refine ⟨St.of_own ho, ?_⟩
    rcases ho.2 with ⟨rfl, h0⟩ | ⟨g, cap, cur, rfl, hb, _⟩
    · simp at h0
    · exact ⟨g, rfl, hb⟩
  rcases h with ⟨rfl, rfl⟩ | ⟨g, o, cap, m, F, rfl, hr, h1, h2, h3, h4⟩
  · obtain ⟨v', w', hrun, r1, r2, _⟩ := run_append_own (P := Try.prog) w w.heap.size 40 ty 24 i _ 2 32 Try.underlying40 hi hz hs hb rfl (by omega) (.slice none 0 0) 0 [] (World.ownsRow_nil w _ _ 2) ⟨b, o', none⟩ 1 c' (fvl f) rfl hnews hone (by simp [maxLen]) (by omega) (Nat.le_refl _)
    obtain ⟨hst, hfr⟩ := fresh v' w' none (by simpa using r1) r2
    exact ⟨v', w', hrun, hst, r2, .inr hfr, fun A n e => ⟨r2, hfr⟩⟩
  · have hlo : (L.flatMap fvl).length = L.length * 2 := fvl_length L
    have holds : ∀ j u, (L.flatMap fvl)[j]? = some u → w.cell? ((⟨g, o, none⟩ : Addr).add j) = some u := fun j u hu => by
      have hj : j < (L.flatMap fvl).length := (List.getElem?_eq_some_iff.1 hu).1
      rw [Addr.add_lit, hr.cell (by omega), h4 j u hu]
    by_cases hroom : L.length + 1 ≤ cap
    · have hrun := run_append_room_cells (P := Try.prog) w 40 ty 24 i Try.underlying40 hi g o L.length cap ⟨b, o', none⟩ 1 c' (fvl f) (by rw [hs]; rfl) hnews hone hroom
        (by intro j hj; have : j < 2 := hj; rw [hs, hr.cell (by omega)]; rfl) (by intro j hj; exact hr.frozen _)
      rw [hs] at hrun
      refine ⟨_, _, hrun, .inr ⟨g, o, cap, m, _, by rw [hlen1], (hr.set (o + L.length * 2) (.string f.1)).set (o + L.length * 2 + 1) (.string f.2), by omega, h2, h3, fun j u hu => ?_⟩, grown_trans (grown_set w g _ _) (grown_set _ g _ _), .inl rfl, fun A n e => ?_⟩
      · rw [flatMap_fvl_snoc] at hu
        rcases Nat.lt_or_ge j (L.length * 2) with hj | hj
        · rw [List.getElem?_append_left (by omega)] at hu
          rw [if_neg (by omega), if_neg (by omega)]
          exact h4 j u hu
        · rw [List.getElem?_append_right (by omega), hlo] at hu
          obtain ⟨d, rfl⟩ : ∃ d, j = L.length * 2 + d := ⟨j - L.length * 2, by omega⟩
          rw [Nat.add_sub_cancel_left] at hu
          have hd : d < 2 := (List.getElem?_eq_some_iff.1 hu).1
          rcases Nat.lt_or_ge d 1 with h0 | h0
          · obtain rfl : d = 0 := by omega
            rw [if_neg (by omega), if_pos (by omega)]
            simpa [fvl] using hu
          · obtain rfl : d = 1 := by omega
            rw [if_pos (by omega)]
            simpa [fvl] using hu
      · injection e with _ e1 e2
        omega
    · obtain ⟨v', w', hrun, r1, r2⟩ := run_append_arg_grows (P := Try.prog) w 40 ty 24 i _ 2 32 Try.underlying40 hi hz hs hb rfl (by omega) ⟨g, o, none⟩ L.length cap (L.flatMap fvl) hlo holds ⟨b, o', none⟩ 1 c' (fvl f) rfl hnews (by omega) (by unfold maxLen; omega) (by omega)
      obtain ⟨hst, hfr⟩ := fresh v' w' none r1 r2
      exact ⟨v', w', hrun, hst, ⟨r2.os, r2.tape, r2.output, r2.size, fun k hk _ => r2.block k hk (by simp)⟩, .inr hfr, fun A n e => ⟨r2, hfr⟩⟩

/-- The head's place, and what lies there; written empty. -/
theorem St.head {w : World} {v : Value} {f : Fd} {L : List Fd} (h : St w v (f :: L)) :
    ∃ g o, v.ownBlock = some g ∧ (∀ (q : IntKind) (W : World), (Instr.indexAt 40 v (.int q 0)).run Try.prog W = .ok (.pointer (some ⟨g, o, none⟩)) W) ∧
      (∀ W, St W v (f :: L) → W.cell? ⟨g, o, none⟩ = some (.string f.1) ∧ W.cell? ⟨g, o + 1, none⟩ = some (.string f.2) ∧ W.frozen? ⟨g, o, none⟩ = false ∧ W.frozen? ⟨g, o + 1, none⟩ = false) ∧
      (∀ W, St W v (f :: L) → St ((W.setCell ⟨g, o, none⟩ (.string ⟨#[]⟩)).setCell ⟨g, o + 1, none⟩ (.string ⟨#[]⟩)) v (emp :: L)) ∧
      ∃ v', (∀ (q : IntKind) (W : World), (Instr.slice 40 v (some (.int q 1)) none none).run Try.prog W = .ok v' W) ∧ (∀ W x, St W v (x :: L) → St W v' L) ∧ v'.ownBlock = some g := by
  rcases h with ⟨rfl, h⟩ | ⟨g, o, cap, m, F, rfl, hr, h1, h2, h3, h4⟩
  · cases h
  · have hsz : ∀ W : World, (sizeOf (Try.prog.elem 40)).run Try.prog W = .ok 2 W := fun W => by kernel_rfl
    have helem : Try.prog.underlying 40 = some (.slice (Try.prog.elem 40)) := by kernel_rfl
    have hopen : ∀ (W : World) (x : Fd), St W (.slice (some ⟨g, o, none⟩) (f :: L).length cap) (x :: L) → ∃ m F, W.rowIs g 24 m F ∧ o + cap * 2 ≤ m ∧ ∀ j u, ((x :: L).flatMap fvl)[j]? = some u → F (o + j) = u := by
      intro W x hW
      rcases hW with ⟨e, _⟩ | ⟨g', o', cap', m', F', e, hr', _, _, h3', h4'⟩
      · cases e
      · injection e with e1 e2 e3
        injection e1 with e1
        injection e1 with e1 e4
        subst e1; subst e4; subst e3
        exact ⟨m', F', hr', h3', h4'⟩
    simp only [List.length_cons] at h1
    refine ⟨g, o, rfl, fun q W => ?_, fun W hW => ?_, fun W hW => ?_, sliced (some ⟨g, o, none⟩) 1 (f :: L).length cap 2, fun q W => ?_, fun W x hW => ?_, ?_⟩
    · simp [Instr.indexAt, asIntOf, run_underlying Try.underlying40, Sem.run_bind, Result.andThen]
      simp [Addr.add]
    · obtain ⟨m, F, hr, hm, hF⟩ := hopen W f hW
      refine ⟨?_, ?_, hr.frozen _, hr.frozen _⟩
      · rw [hr.cell (by omega)]; congr 1; exact hF 0 _ (by simp [fvl])
      · rw [hr.cell (by omega)]; congr 1; exact hF 1 _ (by simp [fvl])
    · obtain ⟨m, F, hr, hm, hF⟩ := hopen W f hW
      refine .inr ⟨g, o, cap, m, _, rfl, (hr.set o (.string ⟨#[]⟩)).set (o + 1) (.string ⟨#[]⟩), by simp only [List.length_cons]; omega, h2, hm, fun j u hu => ?_⟩
      rcases j with _ | _ | j
      · rw [if_neg (by omega), if_pos (by omega)]; simpa [fvl, emp] using hu
      · rw [if_pos (by omega)]; simpa [fvl, emp] using hu
      · rw [if_neg (by omega), if_neg (by omega)]
        exact hF (j + 1 + 1) u (by simpa [fvl] using hu)
    · rw [run_slice_l W 40 (some ⟨g, o, none⟩) (f :: L).length cap helem q 1 (by omega) (by simp only [List.length_cons]; omega), hsz]
      rfl
    · obtain ⟨m, F, hr, hm, hF⟩ := hopen W x hW
      unfold sliced
      simp only [List.length_cons, Nat.add_sub_cancel]
      by_cases hc : cap = 1
      · rw [if_pos hc]
        have hL : L = [] := List.eq_nil_of_length_eq_zero (by omega)
        subst hL
        subst hc
        exact .inr ⟨g, o, 0, m, F, rfl, hr, Nat.le_refl _, Nat.zero_le _, by omega, fun j u hu => by simp at hu⟩
      · rw [if_neg hc]
        refine .inr ⟨g, o + 2, cap - 1, m, F, ?_, hr, by omega, by omega, by omega, fun j u hu => ?_⟩
        · simp [Addr.add]
        · rw [show o + 2 + j = o + (j + 1 + 1) by omega]
          exact hF (j + 1 + 1) u (by simpa [fvl] using hu)
    · unfold sliced
      split
      · rfl
      · simp [Value.ownBlock, Addr.add]

end Go.Proofs.Ytjebemcghikgpaa
