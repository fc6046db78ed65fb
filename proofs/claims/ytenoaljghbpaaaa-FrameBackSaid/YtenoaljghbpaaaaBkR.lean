/-
  Rows of frames of the call's own, each with bytes of its own; one frame more behind them.
-/
import Derived.Test.YtenoaljghbpaaaaPyI
import Derived.Test.YtenoaljghbpaaaaApZ
namespace Go.Proofs.Ytenoaljghbpaaaa
open Go.RowKit
set_option linter.unusedVariables false
set_option linter.unusedSimpArgs false

theorem made_u8B (n : Nat) : (madeCells #[.int .u8 0] n).toList = (List.replicate n (0 : UInt8)).map bv := by
  unfold madeCells
  apply List.ext_getElem
  · simp
  · intro i h1 h2
    simp [bv, Nat.mod_one]
theorem Bs.madeB (W : World) (n : Nat) (hn : n ≤ 1000000) : Bs (W.alloc (.cells (madeCells #[.int .u8 0] n) 5)) (.slice (some ⟨W.heap.size, 0, none⟩) n n) (List.replicate n 0) := by
  have h := Rd.lit W 5 (madeCells #[.int .u8 0] n) n (by simp [madeCells]) (by unfold maxLen; omega)
  rw [made_u8B] at h
  exact h
theorem make_u8B (n : Nat) (hn : n ≤ 1000000) (W : World) : (Instr.makeSlice 22 (.int .i64 (n : Int)) (.int .i64 (n : Int))).run Try.prog W = .ok (.slice (some ⟨W.heap.size, 0, none⟩) n n) (W.alloc (.cells (madeCells #[.int .u8 0] n) 5)) :=
  run_make_row' 22 5 (.int .u8 0) 1 Try.underlying22 infoU8i rfl .i64 .i64 n (by omega) (by omega) W
/-- Frames in a row of their own, each one's bytes in a row of its own. -/
def OwF (w : World) (B : Nat) (v : Value) (l : List Frm) : Prop := w.ownsRow B 28 4 v l.length (l.flatMap frvl) ∧ ∀ a ∈ l, OwB w B a.raw a.rawb
section
variable {w w' : World} {B : Nat} {v : Value} {l : List Frm}
theorem OwF.nil (w : World) (B : Nat) : OwF w B (.slice none 0 0) [] := ⟨World.ownsRow_nil w B 28 4, fun a ha => by cases ha⟩
theorem OwF.keep (h : OwF w B v l) (hb : Below w.heap.size w w') : OwF w' B v l := ⟨ownN_keep h.1 hb, fun a ha => (h.2 a ha).keep hb⟩
theorem OwF.rows (h : OwF w B v l) : Rows 4 frvl w v l := Rn.of_own h.1
theorem OwF.bs (h : OwF w B v l) : ∀ a ∈ l, frBs w a := fun a ha => (h.2 a ha).bs
theorem OwF.ge (h : OwF w B v l) {k : Nat} (hk : v.ownBlock = some k) : B ≤ k := (h.1.lt k hk).1
theorem OwF.shape (h : OwF w B v l) : ∃ A n c, v = .slice A n c := by
  obtain ⟨A, c, e⟩ := h.rows.shape
  exact ⟨A, _, c, e⟩
theorem OwB.neRow {e : TypeId} {n k : Nat} {xs : List Value} {u : Value} {m : List UInt8} (h : OwB w B u m) (hr : w.ownsRow B e k v n xs) (he : e ≠ 5) {g : Nat} (hg : u.ownBlock = some g) : some g ≠ v.ownBlock := by
  intro hc
  rcases h.2 with ⟨rfl, _⟩ | ⟨g', cap, cur, rfl, _, hh, _⟩
  · simp [Value.ownBlock] at hg
  · rcases hr.2 with ⟨rfl, _⟩ | ⟨g2, cap2, cur2, rfl, _, hh2, _⟩
    · simp [Value.ownBlock] at hc
    · have e1 : g = g' := by simpa [Value.ownBlock] using hg.symm
      have e2 : g = g2 := by simpa [Value.ownBlock] using hc
      subst e1; subst e2
      rw [hh] at hh2
      injection hh2 with hh2
      injection hh2 with _ e3
      exact he e3.symm
end
theorem infoFrm : (Try.prog.info? 28).map (fun i => (i.zero, i.size, i.bytes)) = some (some (.agg #[.int .u8 0, .int .u8 0, .int .u32 0, .slice none 0 0]), 4, 32) := by kernel_rfl
theorem frvl_one (a : Frm) (h : a.raw.oneCell' = true) : ∀ u ∈ frvl a, u.oneCell' = true := by
  intro u hu
  unfold frvl at hu
  simp only [List.mem_cons, List.not_mem_nil, or_false] at hu
  rcases hu with rfl | rfl | rfl | rfl
  · rfl
  · rfl
  · rfl
  · exact h
/-- One frame behind a row of its own. -/
theorem run_frames_own (w : World) (ty : TypeId) (B : Nat) (v : Value) (l : List Frm) (a : Frm) (g : Nat) (hv : OwF w B v l) (ha : OwB w B a.raw a.rawb) (hg : Sb 28 w g (frA a)) (hl : l.length ≤ 100000) (hB : B ≤ w.heap.size) :
    ∃ v' w', (Builtin.append_ #[23, 23] ty #[v, .slice (some ⟨g, 0, none⟩) 1 1]).run Try.prog w = .ok v' w' ∧ OwF w' B v' (l ++ [a]) ∧ w.grownBy w' v.ownBlock := by
  obtain ⟨i, hi, hz, hs, hb⟩ := info_parts infoFrm
  obtain ⟨A0, n0, c0, hsh⟩ := ha.shape
  obtain ⟨v', w', hrun, r1, r2, _⟩ := run_append_own (P := Try.prog) w B 23 ty 28 i _ 4 32 Try.underlying23 hi hz hs hb rfl (by omega) v l.length (l.flatMap frvl) hv.1 ⟨g, 0, none⟩ 1 1 (frvl a) rfl
    (fun j u hu => by
      have h := hg.cell j
      rw [Addr.add_lit, Nat.zero_add, h, ← hu]
      unfold frA frvl
      rw [List.getElem?_toArray])
    (frvl_one a (by rw [hsh]; rfl)) (by unfold maxLen; omega) (by omega) hB
  refine ⟨v', w', hrun, ⟨?_, ?_⟩, r2⟩
  · rw [List.length_append, List.flatMap_append]
    simpa using r1
  · intro x hx
    have hx' : OwB w B x.raw x.rawb := by
      rcases List.mem_append.1 hx with h | h
      · exact hv.2 x h
      · rw [List.mem_singleton] at h; rw [h]; exact ha
    exact hx'.kept fun k hk => r2.block k (hx'.lt hk) (hx'.neRow hv.1 (by decide) hk)
/-- A row of one frame that is written out. -/
theorem OwF.one (w : World) (B : Nat) (a : Frm) (ha : OwB w B a.raw a.rawb) (hB : B ≤ w.heap.size) : OwF (w.alloc (.cells (frA a) 28)) B (.slice (some ⟨w.heap.size, 0, none⟩) 1 1) [a] := by
  refine ⟨?_, fun x hx => ?_⟩
  · have h := World.ownsRow_lit (base := B) (e := 28) (size := 4) w (frA a) 1 hB (by unfold maxLen; omega) rfl
    exact h
  · rw [List.mem_singleton] at hx
    rw [hx]
    exact ha.alloc _
/-- The frames of one block: its first is a HEADERS frame, the others go on; the last one ends it. -/
def SplF (st : Nat) (en : Bool) (p : Nat) (b : List UInt8) (l : List Frm) : Prop :=
  ∀ i (h : i < l.length), l[i].ty = (if i = 0 then 1 else 9) ∧ l[i].fl = (if b.length ≤ (i + 1) * p then 4 else 0) + (if i = 0 ∧ en = true then 1 else 0) ∧ l[i].st = st ∧ l[i].rawb = (b.drop (i * p)).take p
end Go.Proofs.Ytenoaljghbpaaaa
