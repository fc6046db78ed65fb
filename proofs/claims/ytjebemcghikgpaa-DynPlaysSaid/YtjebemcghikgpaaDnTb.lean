/-
  The program's table in memory, the document's table in memory, and what a call does to one of them.
-/
import Derived.Test.YtjebemcghikgpaaDnMap
import Derived.Test.YtjebemcghikgpaaStep
namespace Go.Proofs.Ytjebemcghikgpaa
open Go.RowKit Go.Maps
set_option linter.unusedVariables false

/-- The cells of the program's table. -/
def tF (v : Value) (bw bn sz cp ct : Nat) (i : Nat) : Value :=
  if i = 0 then v else if i = 1 then .map (some bw) else if i = 2 then .map (some bn) else if i = 3 then .int .i64 (sz : Int) else if i = 4 then .int .i64 (cp : Int) else .int .u64 (ct : Int)

/-- The program's table, part by part; na, nb: bounds of the two maps. -/
structure Tr (w : World) (p : Nat) (v : Value) (bw bn sz cp ct na nb : Nat) (L : List Fd) (Dw Dn : DataW Unit) : Prop where
  row : w.rowIs p 56 6 (tF v bw bn sz cp ct)
  st : St w v L
  mw : w.ownsMap Try.prog 24 (plainElem Try.prog 25) bw na Dw
  mn : w.ownsMap Try.prog 9 (plainElem Try.prog 25) bn nb Dn
  ne : p ≠ bw ∧ p ≠ bn ∧ bw ≠ bn
  nv : ∀ k, v.ownBlock = some k → k ≠ p ∧ k ≠ bw ∧ k ≠ bn

section
variable {w w' : World} {p : Nat} {v : Value} {bw bn sz cp ct na nb : Nat} {L : List Fd} {Dw Dn : DataW Unit}
theorem Tr.cells (h : Tr w p v bw bn sz cp ct na nb L Dw Dn) : w.cell? ⟨p, 0, none⟩ = some v ∧ w.cell? ⟨p, 1, none⟩ = some (.map (some bw)) ∧ w.cell? ⟨p, 2, none⟩ = some (.map (some bn)) ∧
    w.cell? ⟨p, 3, none⟩ = some (.int .i64 (sz : Int)) ∧ w.cell? ⟨p, 4, none⟩ = some (.int .i64 (cp : Int)) ∧ w.cell? ⟨p, 5, none⟩ = some (.int .u64 (ct : Int)) :=
  ⟨h.row.cell (by omega), h.row.cell (by omega), h.row.cell (by omega), h.row.cell (by omega), h.row.cell (by omega), h.row.cell (by omega)⟩
theorem Tr.free (h : Tr w p v bw bn sz cp ct na nb L Dw Dn) (i : Nat) : w.frozen? ⟨p, i, none⟩ = false := h.row.frozen i
theorem Tr.kept (h : Tr w p v bw bn sz cp ct na nb L Dw Dn) (hb : ∀ k, k < w.heap.size → (k = p ∨ k = bw ∨ k = bn ∨ v.ownBlock = some k) → w'.heap[k]? = w.heap[k]?) : Tr w' p v bw bn sz cp ct na nb L Dw Dn := by
  refine ⟨h.row.of_block (hb p h.row.lt (.inl rfl)), h.st.kept fun k hk => hb k (h.st.lt hk) (.inr (.inr (.inr hk))), ?_, ?_, h.ne, h.nv⟩
  · have hlt := h.mw.lt
    obtain ⟨es, cl, h1, h2, h3, h4⟩ := h.mw
    exact ⟨es, cl, (hb bw hlt (.inr (.inl rfl))).trans h1, h2, h3, h4⟩
  · have hlt := h.mn.lt
    obtain ⟨es, cl, h1, h2, h3, h4⟩ := h.mn
    exact ⟨es, cl, (hb bn hlt (.inr (.inr (.inl rfl)))).trans h1, h2, h3, h4⟩
theorem Tr.keep (h : Tr w p v bw bn sz cp ct na nb L Dw Dn) (hb : Below w.heap.size w w') : Tr w' p v bw bn sz cp ct na nb L Dw Dn := h.kept fun k hk _ => hb.block k hk
theorem Tr.alloc (h : Tr w p v bw bn sz cp ct na nb L Dw Dn) (o : Obj) : Tr (w.alloc o) p v bw bn sz cp ct na nb L Dw Dn := h.keep ((Below.refl _ _).alloc (Nat.le_refl _) o)
theorem Tr.drew (h : Tr w p v bw bn sz cp ct na nb L Dw Dn) : Tr w.drew p v bw bn sz cp ct na nb L Dw Dn := h.keep (Below.refl _ _).drew
theorem Tr.drewN (h : Tr w p v bw bn sz cp ct na nb L Dw Dn) (n : Nat) : Tr (w.drewN n) p v bw bn sz cp ct na nb L Dw Dn := h.keep (below_drewN (Below.refl _ _) n)

/-- A store into one of the table's own cells. -/
theorem Tr.rest (h : Tr w p v bw bn sz cp ct na nb L Dw Dn) (i : Nat) (x : Value) {f : Nat → Value} (hr : (w.setCell ⟨p, i, none⟩ x).rowIs p 56 6 f) {v' : Value} {sz' cp' ct' : Nat}
    (hf : ∀ j, j < 6 → f j = tF v' bw bn sz' cp' ct' j) {L' : List Fd} (hst : St (w.setCell ⟨p, i, none⟩ x) v' L') (hv : v'.ownBlock = v.ownBlock) : Tr (w.setCell ⟨p, i, none⟩ x) p v' bw bn sz' cp' ct' na nb L' Dw Dn :=
  ⟨hr.congr hf, hst, h.mw.setCell (fun e => h.ne.1 e.symm) x, h.mn.setCell (fun e => h.ne.2.1 e.symm) x, h.ne, fun k hk => h.nv k (hv ▸ hk)⟩
theorem Tr.stSet (h : Tr w p v bw bn sz cp ct na nb L Dw Dn) (i : Nat) (x : Value) : St (w.setCell ⟨p, i, none⟩ x) v L :=
  h.st.grown (grown_set w p i x) fun k hk e => (h.nv k hk).1 (Option.some.inj e)
theorem Tr.setSz (h : Tr w p v bw bn sz cp ct na nb L Dw Dn) (n : Nat) : Tr (w.setCell ⟨p, 3, none⟩ (.int .i64 (n : Int))) p v bw bn n cp ct na nb L Dw Dn :=
  h.rest 3 _ (h.row.set 3 _) (fun j hj => by unfold tF; match j, hj with | 0, _ => rfl | 1, _ => rfl | 2, _ => rfl | 3, _ => rfl | 4, _ => rfl | 5, _ => rfl) (h.stSet 3 _) rfl
theorem Tr.setCp (h : Tr w p v bw bn sz cp ct na nb L Dw Dn) (n : Nat) : Tr (w.setCell ⟨p, 4, none⟩ (.int .i64 (n : Int))) p v bw bn sz n ct na nb L Dw Dn :=
  h.rest 4 _ (h.row.set 4 _) (fun j hj => by unfold tF; match j, hj with | 0, _ => rfl | 1, _ => rfl | 2, _ => rfl | 3, _ => rfl | 4, _ => rfl | 5, _ => rfl) (h.stSet 4 _) rfl
theorem Tr.setCt (h : Tr w p v bw bn sz cp ct na nb L Dw Dn) (n : Nat) : Tr (w.setCell ⟨p, 5, none⟩ (.int .u64 (n : Int))) p v bw bn sz cp n na nb L Dw Dn :=
  h.rest 5 _ (h.row.set 5 _) (fun j hj => by unfold tF; match j, hj with | 0, _ => rfl | 1, _ => rfl | 2, _ => rfl | 3, _ => rfl | 4, _ => rfl | 5, _ => rfl) (h.stSet 5 _) rfl
/-- The slice's own cell: another slice, in the same block or in a new one. -/
theorem Tr.setV (h : Tr w p v bw bn sz cp ct na nb L Dw Dn) {v' : Value} {L' : List Fd} (hst : St w v' L') (hv : ∀ k, v'.ownBlock = some k → k ≠ p ∧ k ≠ bw ∧ k ≠ bn) : Tr (w.setCell ⟨p, 0, none⟩ v') p v' bw bn sz cp ct na nb L' Dw Dn :=
  ⟨(h.row.set 0 v').congr (fun j hj => by unfold tF; match j, hj with | 0, _ => rfl | 1, _ => rfl | 2, _ => rfl | 3, _ => rfl | 4, _ => rfl | 5, _ => rfl),
    hst.grown (grown_set w p 0 v') fun k hk e => (hv k hk).1 (Option.some.inj e), h.mw.setCell (fun e => h.ne.1 e.symm) v', h.mn.setCell (fun e => h.ne.2.1 e.symm) v', h.ne, hv⟩
/-- The slice's block written, or a new one made. -/
theorem Tr.slice (h : Tr w p v bw bn sz cp ct na nb L Dw Dn) (hg : w.grownBy w' v.ownBlock) {L' : List Fd} (hst : St w' v L') : Tr w' p v bw bn sz cp ct na nb L' Dw Dn := by
  have hp : some p ≠ v.ownBlock := fun e => (h.nv p e.symm).1 rfl
  have hw : some bw ≠ v.ownBlock := fun e => (h.nv bw e.symm).2.1 rfl
  have hn : some bn ≠ v.ownBlock := fun e => (h.nv bn e.symm).2.2 rfl
  exact ⟨h.row.of_block (hg.block p h.row.lt hp), hst, h.mw.kept hg hw, h.mn.kept hg hn, h.ne, h.nv⟩
theorem Tr.grew (h : Tr w p v bw bn sz cp ct na nb L Dw Dn) (hg : w.grownBy w' v.ownBlock) {v' : Value} {L' : List Fd} (hst : St w' v' L') (hv : v'.ownBlock = v.ownBlock ∨ ∃ g, v'.ownBlock = some g ∧ w.heap.size ≤ g) : Tr (w'.setCell ⟨p, 0, none⟩ v') p v' bw bn sz cp ct na nb L' Dw Dn := by
  have hp : some p ≠ v.ownBlock := fun e => (h.nv p e.symm).1 rfl
  have hw : some bw ≠ v.ownBlock := fun e => (h.nv bw e.symm).2.1 rfl
  have hn : some bn ≠ v.ownBlock := fun e => (h.nv bn e.symm).2.2 rfl
  have hnv : ∀ k, v'.ownBlock = some k → k ≠ p ∧ k ≠ bw ∧ k ≠ bn := by
    intro k hk
    rcases hv with e | ⟨g, e, hge⟩
    · exact h.nv k (e ▸ hk)
    · rw [e] at hk
      injection hk with hk
      have h1 := h.row.lt
      have h2 := h.mw.lt
      have h3 := h.mn.lt
      omega
  have hrow := h.row.of_block (hg.block p h.row.lt hp)
  exact ⟨(hrow.set 0 v').congr (fun j hj => by unfold tF; match j, hj with | 0, _ => rfl | 1, _ => rfl | 2, _ => rfl | 3, _ => rfl | 4, _ => rfl | 5, _ => rfl),
    hst.grown (grown_set w' p 0 v') fun k hk e => (hnv k hk).1 (Option.some.inj e), (h.mw.kept hg hw).setCell (fun e => h.ne.1 e.symm) v', (h.mn.kept hg hn).setCell (fun e => h.ne.2.1 e.symm) v', h.ne, hnv⟩
/-- One of the maps has turned. -/
theorem Tr.turnW (h : Tr w p v bw bn sz cp ct na nb L Dw Dn) (hg : w.grownBy w' (some bw)) {D : DataW Unit} {n : Nat} (ho : w'.ownsMap Try.prog 24 (plainElem Try.prog 25) bw n D) : Tr w' p v bw bn sz cp ct n nb L D Dn :=
  ⟨h.row.of_block (hg.block p h.row.lt (fun e => h.ne.1 (Option.some.inj e))), h.st.grown hg (fun k hk e => (h.nv k hk).2.1 (Option.some.inj e)), ho, h.mn.kept hg (fun e => h.ne.2.2 (Option.some.inj e).symm), h.ne, h.nv⟩
theorem Tr.turnN (h : Tr w p v bw bn sz cp ct na nb L Dw Dn) (hg : w.grownBy w' (some bn)) {D : DataW Unit} {n : Nat} (ho : w'.ownsMap Try.prog 9 (plainElem Try.prog 25) bn n D) : Tr w' p v bw bn sz cp ct na n L Dw D :=
  ⟨h.row.of_block (hg.block p h.row.lt (fun e => h.ne.2.1 (Option.some.inj e))), h.st.grown hg (fun k hk e => (h.nv k hk).2.2 (Option.some.inj e)), h.mw.kept hg (fun e => h.ne.2.2 (Option.some.inj e)), ho, h.ne, h.nv⟩
end

/-- The program's table behind the pointer to block p; S: a set of blocks that holds all of its. -/
def Tb (p : Nat) (T : Tab) (w : World) (S : Nat → Prop) : Prop :=
  ∃ v bw bn Dw Dn, Tr w p v bw bn (sizeF T.l) T.cap T.tot T.tot T.tot T.l Dw Dn ∧ Mp kf Sized id T.first T.l Dw ∧ Mp ks Short Prod.fst T.first T.l Dn ∧
    (S p ∧ S bw ∧ S bn ∧ ∀ k, v.ownBlock = some k → S k) ∧ (∀ k, S k → k < w.heap.size) ∧ T.ok

/-- The cells of the document's table. -/
def rF (v : Value) (cp ct : Nat) (i : Nat) : Value := if i = 0 then v else if i = 1 then .int .i64 (cp : Int) else .int .u64 (ct : Int)
/-- The document's table behind the pointer to block q. -/
def Rt (q : Nat) (T : Tab) (w : World) (S : Nat → Prop) : Prop :=
  ∃ v, w.rowIs q 58 3 (rF v T.cap T.tot) ∧ St w v T.l ∧ (∀ k, v.ownBlock = some k → k ≠ q) ∧ (S q ∧ ∀ k, v.ownBlock = some k → S k) ∧ (∀ k, S k → k < w.heap.size) ∧ T.ok

/-- What a call does to what word X tells of: its blocks, and new ones, alone have turned. -/
def Turn (X : World → (Nat → Prop) → Prop) (S : Nat → Prop) (w w' : World) : Prop :=
  ∃ S', X w' S' ∧ (∀ k, S' k → S k ∨ w.heap.size ≤ k) ∧ Fp S w w'

theorem Tb.ok {p : Nat} {T : Tab} {w : World} {S : Nat → Prop} (h : Tb p T w S) : T.ok := by
  obtain ⟨_, _, _, _, _, _, _, _, _, _, h⟩ := h; exact h
theorem Rt.ok {p : Nat} {T : Tab} {w : World} {S : Nat → Prop} (h : Rt p T w S) : T.ok := by
  obtain ⟨_, _, _, _, _, _, h⟩ := h; exact h
theorem Tb.kept {p : Nat} {T : Tab} {w w' : World} {S : Nat → Prop} (h : Tb p T w S) (hs : w.heap.size ≤ w'.heap.size) (hb : ∀ k, S k → w'.heap[k]? = w.heap[k]?) : Tb p T w' S := by
  obtain ⟨v, bw, bn, Dw, Dn, h1, h2, h3, h4, h5, h6⟩ := h
  refine ⟨v, bw, bn, Dw, Dn, h1.kept ?_, h2, h3, h4, fun k hk => Nat.lt_of_lt_of_le (h5 k hk) hs, h6⟩
  rintro k _ (rfl | rfl | rfl | hk)
  · exact hb _ h4.1
  · exact hb _ h4.2.1
  · exact hb _ h4.2.2.1
  · exact hb _ (h4.2.2.2 k hk)
theorem Rt.kept {p : Nat} {T : Tab} {w w' : World} {S : Nat → Prop} (h : Rt p T w S) (hs : w.heap.size ≤ w'.heap.size) (hb : ∀ k, S k → w'.heap[k]? = w.heap[k]?) : Rt p T w' S := by
  obtain ⟨v, h1, h2, h3, h4, h5, h6⟩ := h
  exact ⟨v, h1.of_block (hb _ h4.1), h2.kept (fun k hk => hb k (h4.2 k hk)), h3, h4, fun k hk => Nat.lt_of_lt_of_le (h5 k hk) hs, h6⟩
theorem Tb.lt {p : Nat} {T : Tab} {w : World} {S : Nat → Prop} (h : Tb p T w S) : ∀ k, S k → k < w.heap.size := by
  obtain ⟨_, _, _, _, _, _, _, _, _, h, _⟩ := h; exact h
theorem Rt.lt {p : Nat} {T : Tab} {w : World} {S : Nat → Prop} (h : Rt p T w S) : ∀ k, S k → k < w.heap.size := by
  obtain ⟨_, _, _, _, _, h, _⟩ := h; exact h
theorem Tb.keep {p : Nat} {T : Tab} {w w' : World} {S : Nat → Prop} (h : Tb p T w S) (hb : Below w.heap.size w w') : Tb p T w' S := h.kept hb.size fun k hk => hb.block k (h.lt k hk)
theorem Rt.keep {p : Nat} {T : Tab} {w w' : World} {S : Nat → Prop} (h : Rt p T w S) (hb : Below w.heap.size w w') : Rt p T w' S := h.kept hb.size fun k hk => hb.block k (h.lt k hk)
theorem Tb.besides {p : Nat} {T : Tab} {w w' : World} {S S' : Nat → Prop} (h : Tb p T w S) (hf : Fp S' w w') (hd : ∀ k, S k → ¬ S' k) : Tb p T w' S := h.kept hf.size fun k hk => hf.block k (h.lt k hk) (hd k hk)
theorem Rt.besides {p : Nat} {T : Tab} {w w' : World} {S S' : Nat → Prop} (h : Rt p T w S) (hf : Fp S' w w') (hd : ∀ k, S k → ¬ S' k) : Rt p T w' S := h.kept hf.size fun k hk => hf.block k (h.lt k hk) (hd k hk)

theorem Turn.refl {X : World → (Nat → Prop) → Prop} {S : Nat → Prop} {w w' : World} (h : X w' S) (hb : Below w.heap.size w w') : Turn X S w w' := ⟨S, h, fun k hk => .inl hk, Fp.of_below hb⟩
/-- One turn behind another. -/
theorem Turn.trans {X Y : World → (Nat → Prop) → Prop} {S : Nat → Prop} {a b c : World} (h : Turn X S a b) (k : ∀ S', X b S' → Turn Y S' b c) : Turn Y S a c := by
  obtain ⟨S1, x1, s1, f1⟩ := h
  obtain ⟨S2, y2, s2, f2⟩ := k S1 x1
  refine ⟨S2, y2, fun i hi => ?_, f1.trans f2 s1⟩
  rcases s2 i hi with h | h
  · exact s1 i h
  · exact .inr (Nat.le_trans f1.size h)
theorem Turn.size {X : World → (Nat → Prop) → Prop} {S : Nat → Prop} {w w' : World} (h : Turn X S w w') : w.heap.size ≤ w'.heap.size := by
  obtain ⟨_, _, _, hf⟩ := h; exact hf.size

/-- Both tables, apart from one another, and all that they hold made since block B. -/
def Two (B p q : Nat) (T U : Tab) (w : World) : Prop :=
  ∃ S S', Tb p T w S ∧ Rt q U w S' ∧ (∀ k, S k → ¬ S' k) ∧ (∀ k, S k → B ≤ k) ∧ ∀ k, S' k → B ≤ k
theorem Two.keep {B p q : Nat} {T U : Tab} {w w' : World} (h : Two B p q T U w) (hb : Below w.heap.size w w') : Two B p q T U w' := by
  obtain ⟨S, S', h1, h2, h3, h4, h5⟩ := h
  exact ⟨S, S', h1.keep hb, h2.keep hb, h3, h4, h5⟩
theorem Two.left {B p q : Nat} {T T' U : Tab} {w w' : World} {S S' : Nat → Prop} (h2 : Rt q U w S') (h3 : ∀ k, S k → ¬ S' k) (h4 : ∀ k, S k → B ≤ k) (h5 : ∀ k, S' k → B ≤ k) (hB : B ≤ w.heap.size) (ht : Turn (Tb p T') S w w') :
    Two B p q T' U w' ∧ Below B w w' := by
  obtain ⟨S1, x, s, f⟩ := ht
  refine ⟨⟨S1, S', x, h2.besides f (fun k hk hs => h3 k hs hk), fun k hk hs => ?_, fun k hk => ?_, h5⟩, f.below hB h4⟩
  · rcases s k hk with h | h
    · exact h3 k h hs
    · have := h2.lt k hs; omega
  · rcases s k hk with h | h
    · exact h4 k h
    · omega
theorem Two.right {B p q : Nat} {T U U' : Tab} {w w' : World} {S S' : Nat → Prop} (h2 : Tb p T w S) (h3 : ∀ k, S k → ¬ S' k) (h4 : ∀ k, S k → B ≤ k) (h5 : ∀ k, S' k → B ≤ k) (hB : B ≤ w.heap.size) (ht : Turn (Rt q U') S' w w') :
    Two B p q T U' w' ∧ Below B w w' := by
  obtain ⟨S1, x, s, f⟩ := ht
  refine ⟨⟨S, S1, h2.besides f (fun k hk hs => h3 k hk hs), x, fun k hk hs => ?_, h4, fun k hk => ?_⟩, f.below hB h5⟩
  · rcases s k hs with h | h
    · exact h3 k hk h
    · have := h2.lt k hk; omega
  · rcases s k hk with h | h
    · exact h5 k h
    · omega

end Go.Proofs.Ytjebemcghikgpaa
