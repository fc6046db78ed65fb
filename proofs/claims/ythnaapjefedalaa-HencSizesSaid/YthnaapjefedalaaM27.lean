/-
  Texts put together: HgR, HgB.
-/
import Derived.Test.YthnaapjefedalaaM17
import Derived.Test.YthnaapjefedalaaM01
import Derived.Test.YthnaapjefedalaaM26
import Derived.Test.YthnaapjefedalaaM21

/-
  Contract of the document's H2s: where its fields lie.
-/
namespace Go.Proofs.Ythnaapjefedalaa
open Go.RowKit
set_option linter.unusedVariables false

set_option maxRecDepth 100000 in
set_option maxHeartbeats 4000000 in
theorem h2s_row (w : World) :
    Calls Try.prog 34 #[] w fun e w' => e = .returned (.slice (some ⟨w.heap.size, 0, none⟩) 61 61) ∧ w' = w.alloc (.cells C2 58) := by
  go_enter Try.func34, Try.ntmps34
  go_wp2_with (first | (with_reducible refine wpList_buildSlice (v := .slice (some ⟨w.heap.size, 0, none⟩) 61 61) (w' := w.alloc (.cells C2 58)) (by kernel_rfl) ?_))
  go_ret
  exact ⟨rfl, rfl⟩

theorem c2_list : C2.toList = T2.flatMap fvl := by simp [C2]

end Go.Proofs.Ythnaapjefedalaa

/-
  The document's Encode under way: the encoder, the bytes so far, blocks of fields that stand.
-/
namespace Go.Proofs.Ythnaapjefedalaa
open Go.RowKit Go.Maps
set_option linter.unusedVariables false

/-- The encoder, the bytes so far in a row of their own, and blocks of fields that stand, apart from it. -/
def DS (q t : Nat) (T : Tab) (S : Nat → Prop) (w : World) (fx : List (Nat × Array Value)) (bv : Value) (bl : List UInt8) (wx : World) : Prop :=
  ∃ E, Ec q t T none wx E ∧ (∀ i, E i → S i ∨ w.heap.size ≤ i) ∧ NoB wx E ∧ Fp S w wx ∧ OwB wx w.heap.size bv bl ∧ ∀ x ∈ fx, ¬ E x.1 ∧ wx.heap[x.1]? = some (.cells x.2 58 (0, 0))
section
variable {q t : Nat} {T T' : Tab} {S : Nat → Prop} {w wx wy : World} {fx fy : List (Nat × Array Value)} {bv bv' : Value} {bl bl' : List UInt8}
theorem DS.keep (h : DS q t T S w fx bv bl wx) (hb : Below wx.heap.size wx wy) : DS q t T S w fx bv bl wy := by
  obtain ⟨E, h1, h2, h3, h4, h5, h6⟩ := h
  exact ⟨E, (Wd.ec _ _ _ _).keep h1 hb, h2, h3.keep hb, h4.then (Fp.of_below hb), h5.keep hb, fun x hx => ⟨(h6 x hx).1, by rw [hb.block _ (Array.getElem?_eq_some_iff.1 (h6 x hx).2).1]; exact (h6 x hx).2⟩⟩
theorem DS.byte (h : DS q t T S w fx bv bl wx) (ho : OwB wy w.heap.size bv' bl') (hb : Below w.heap.size wx wy) (hn : NonB wx wy) : DS q t T S w fx bv' bl' wy := by
  obtain ⟨E, h1, h2, h3, h4, h5, h6⟩ := h
  exact ⟨E, (Wd.ec _ _ _ _).kept h1 hb.size (h3.same hn), h2, h3.non hn, h4.trans (Fp.up hb) fun i hi => .inr hi, ho, fun x hx => ⟨(h6 x hx).1, hn _ _ (h6 x hx).2 fun c z e => by injection e with _ e2 _; exact absurd e2 (by decide)⟩⟩
theorem DS.new (h : DS q t T S w fx bv bl wx) (cs : Array Value) : DS q t T S w ((wx.heap.size, cs) :: fx) bv bl (wx.alloc (.cells cs 58)) := by
  have hb := (Below.refl wx.heap.size wx).alloc (Nat.le_refl _) (.cells cs 58)
  have h1 := h
  obtain ⟨E, e1, _⟩ := h1
  obtain ⟨E2, h1, h2, h3, h4, h5, h6⟩ := h.keep hb
  obtain ⟨E, e1, e2, e3, e4, e5, e6⟩ := h
  exact ⟨E, (Wd.ec _ _ _ _).keep e1 hb, e2, e3.keep hb, e4.then (Fp.of_below hb), e5.keep hb, fun x hx => by
    rcases List.mem_cons.1 hx with rfl | hx
    · exact ⟨fun hs => Nat.lt_irrefl _ ((Wd.ec _ _ _ _).lt e1 _ hs), heap_alloc_last wx _⟩
    · exact ⟨(e6 x hx).1, by rw [hb.block _ (Array.getElem?_eq_some_iff.1 (e6 x hx).2).1]; exact (e6 x hx).2⟩⟩
theorem DS.sub (h : DS q t T S w fx bv bl wx) (hs : ∀ x ∈ fy, x ∈ fx) : DS q t T S w fy bv bl wx := by
  obtain ⟨E, h1, h2, h3, h4, h5, h6⟩ := h
  exact ⟨E, h1, h2, h3, h4, h5, fun x hx => h6 x (hs x hx)⟩
theorem DS.size (h : DS q t T S w fx bv bl wx) : w.heap.size ≤ wx.heap.size := by obtain ⟨_, _, _, _, h4, _⟩ := h; exact h4.size
theorem DS.own (h : DS q t T S w fx bv bl wx) : OwB wx w.heap.size bv bl := by obtain ⟨_, _, _, _, _, h5, _⟩ := h; exact h5
theorem DS.fp (h : DS q t T S w fx bv bl wx) : Fp S w wx := by obtain ⟨_, _, _, _, h4, _⟩ := h; exact h4
theorem DS.ec (h : DS q t T S w fx bv bl wx) : ∃ E, Ec q t T none wx E := by obtain ⟨E, h1, _⟩ := h; exact ⟨E, h1⟩
theorem DS.rt (h : DS q t T S w fx bv bl wx) : ∃ E, Rt t T wx E := by
  obtain ⟨E, h1, _⟩ := h
  obtain ⟨S', _, h2, _⟩ := h1
  exact ⟨S', h2⟩
theorem DS.blk (h : DS q t T S w fx bv bl wx) {g : Nat} {cs : Array Value} (hm : (g, cs) ∈ fx) : wx.heap[g]? = some (.cells cs 58 (0, 0)) := by
  obtain ⟨E, _, _, _, _, _, h6⟩ := h
  exact (h6 _ hm).2
theorem DS.fb (h : DS q t T S w fx bv bl wx) {g : Nat} {f1 f2 : ByteArray} (hm : (g, #[.string f1, .string f2]) ∈ fx) : Fb 58 wx g (f1, f2) := h.blk hm
theorem DS.fs (h : DS q t T S w fx bv bl wx) {g : Nat} (hm : (g, C2) ∈ fx) : Fs wx (.slice (some ⟨g, 0, none⟩) 61 61) T2 := by
  have hb := h.blk hm
  have hg := Array.getElem?_eq_some_iff.1 hb
  refine ⟨some ⟨g, 0, none⟩, 61, by rw [t2_len], by rw [t2_len]; omega, by unfold maxLen; omega, by rw [fvl_length], .inr ⟨_, rfl, fun j u hu => ?_⟩⟩
  rw [← c2_list] at hu
  rw [Addr.add_lit]
  simp only [Nat.zero_add, World.cell?, hb]
  simpa using hu
theorem DS.fin (h : DS q t T S w fx bv bl wx) : OwB wx w.heap.size bv bl ∧ Turn (Ec q t T none) S w wx := by
  obtain ⟨E, h1, h2, h3, h4, h5, h6⟩ := h
  exact ⟨h5, E, h1, h2, h4⟩
/-- An entry more. -/
theorem DS.add (h : DS q t T S w fx bv bl wx) (f : Fd) (hf : fsz f ≤ 1000000) (ht : T.tot + 1 ≤ 1000000) :
    Calls Try.prog 38 #[.pointer (some ⟨t, 0, none⟩), .agg #[.string f.1, .string f.2]] wx fun e w' => (∃ r, e = .returned r) ∧ DS q t (T.add f) S w fx bv bl w' := by
  obtain ⟨E, h1, h2, h3, h4, h5, h6⟩ := h
  obtain ⟨S', k2, k3, k4, k5⟩ := h1.opens
  refine (refAdd_any k2 f hf ht).mono ?_
  rintro e w' ⟨rfl, hturn⟩
  have ht2 : Turn (Ec q t (T.add f) none) E wx w' := k5 w' _ hturn
  obtain ⟨E2, x2, s2, g2, n2⟩ := ht2.close (Ex.ec _ _ _ _)
  refine ⟨⟨_, rfl⟩, E2, x2, fun i hi => (s2 i hi).elim (h2 i) fun h => .inr (Nat.le_trans h4.size h), n2, h4.trans g2 h2, h5.besides h3 g2, fun x hx => ?_⟩
  obtain ⟨a, b⟩ := h6 x hx
  have hlt := (Array.getElem?_eq_some_iff.1 b).1
  exact ⟨fun hs => (s2 _ hs).elim a fun h => by omega, by rw [g2.block _ hlt a]; exact b⟩
end
end Go.Proofs.Ythnaapjefedalaa
