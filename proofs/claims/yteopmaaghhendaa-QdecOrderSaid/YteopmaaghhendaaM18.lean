/-
  Texts put together: OwT, QnE, QnF, QnG, QnH, QnI, QnJ, QnK.
-/
import Derived.Test.YteopmaaghhendaaM12
import Derived.Test.YteopmaaghhendaaM15
import Derived.Test.YteopmaaghhendaaM17
import Derived.Test.YteopmaaghhendaaM06
import Derived.Test.YteopmaaghhendaaM07
import Derived.Deep.RegionHeld
import Derived.Deep.CutBlock
import Derived.BigRegion
import Derived.Handy

/-
  Contract of the document's PutStr, over a row of bytes of its own: what is no row of bytes stands.
-/
namespace Go.Proofs.Yteopmaaghhendaa
open Go.RowKit
set_option linter.unusedVariables false

set_option maxRecDepth 100000 in
set_option maxHeartbeats 1000000 in
theorem putStr_non (B : Nat) (bV : Value) (l : List UInt8) (f : UInt8) (k : Nat) (hk1 : 1 ≤ k) (hk7 : k ≤ 7) (s : ByteArray) (w : World) (hb : OwB w B bV l) (hB : B ≤ w.heap.size) (hl : l.length ≤ 50000) (hs : s.size ≤ 20000) :
    Calls Try.prog 26 #[bV, .int .u8 f.toNat, .int .i64 (k : Int), .string s] w fun e w' => ∃ v', e = .returned v' ∧ OwB w' B v' (l ++ putSk f k s.data.toList) ∧ Below B w w' ∧ NonB w w' := by
  have hsl : s.data.toList.length = s.size := by simp
  have hbl := bitLen_le s.data.toList
  have hhl := fun W => huffLen_any s W (by omega)
  have hel := enc0_length s.data.toList
  obtain ⟨n, hn⟩ : ∃ n, (bitLen s.data.toList + 7) / 8 = n := ⟨_, rfl⟩
  rw [hn] at hhl hel
  have hn2 : n ≤ 100000 := by omega
  have hshl := shl_u8 k hk7 1
  rw [shl_one8 k hk7] at hshl
  have hor := hiB_val f k hk7
  obtain ⟨p2, hp2⟩ : ∃ p2, 2 ^ k = p2 := ⟨_, rfl⟩
  rw [hp2] at hshl hor
  clear hp2
  have hbk : bitsOf (k : Int) = k := by unfold bitsOf; omega
  have hwn : IntKind.u64.wrap (n : Int) = (n : Int) := by simp only [IntKind.wrap_u64]; omega
  have hws : IntKind.u64.wrap (s.size : Int) = (s.size : Int) := by simp only [IntKind.wrap_u64]; omega
  have HL := Bx.mk hhl
  have HB := Bx.mk hb
  have HBS := Bx.mk hB
  have HE := Bx.mk hel
  have HK : Bx (1 ≤ k ∧ k ≤ 7 ∧ l.length ≤ 50000 ∧ s.size ≤ 20000 ∧ n ≤ 100000 ∧ bitsOf (k : Int) = k) := ⟨hk1, hk7, hl, hs, hn2, hbk⟩
  obtain ⟨i0, hi, hz, hz1, hz2⟩ := info_parts infoU8
  have HI : Bx (Try.prog.info? 5 = some i0 ∧ i0.zero = some (.int .u8 0) ∧ i0.size = 1 ∧ i0.bytes = 1) := ⟨hi, hz, hz1, hz2⟩
  have HPUT : Bx (putSk f k s.data.toList = if n < s.size then pre (hiB f k) k (enc s.data.toList 0 0).length ++ enc s.data.toList 0 0 else pre f k s.size ++ s.data.toList) := ⟨by unfold putSk; rw [hn, hsl]⟩
  have HPL : Bx ((pre (hiB f k) k n).length ≤ 11 ∧ (pre f k s.size).length ≤ 11) := ⟨(pre_len _ _ _).2, (pre_len _ _ _).2⟩
  clear hhl hb hB hel hk1 hk7 hl hs hn2 hbk hi hz hz1 hz2 hbl hn
  by_cases hlt : n < s.size
  · have hd : decide (n < s.size) = true := decide_eq_true (by omega)
    have HP := HPUT.out
    rw [if_pos hlt, HE.out] at HP
    have HP2 := Bx.mk HP
    clear HPUT HP hlt
    go_enter Try.func26, Try.ntmps26
    go_wp2_with fail
    refine (HL.out w).mono ?_
    rintro e w1 ⟨rfl, b1⟩
    have HB1 := Bx.mk (HB.out.keep b1)
    have HB1S : Bx (B ≤ w1.heap.size) := ⟨Nat.le_trans HBS.out b1.size⟩
    have HW1 := Bx.mk (b1.mono HBS.out)
    have HN1 := Bx.mk (NonB.of_below b1)
    clear b1
    go_wp2_with fail
    refine (refPrefix_non B bV l (hiB f k) (k : Int) n w1 HB1.out HB1S.out (by have := HK.out; omega) (by have := HK.out; omega)).mono ?_
    rintro e w2 ⟨v2, rfl, ho2, b2, n2⟩
    have HN2 := Bx.mk (HN1.out.trans n2)
    rw [HK.out.2.2.2.2.2] at ho2
    have HB2 := Bx.mk ho2
    have HB2S : Bx (B ≤ w2.heap.size) := ⟨Nat.le_trans HB1S.out b2.size⟩
    have HW2 := Bx.mk (HW1.out.trans b2)
    clear ho2 b2
    go_wp2_with fail
    refine (huffman_non B v2 _ s w2 HB2.out HB2S.out (by have := HK.out; have := HPL.out.1; rw [List.length_append]; omega) (by have := HK.out; omega)).mono ?_
    rintro e w3 ⟨v3, rfl, ho3, b3, n3⟩
    have HN3 := Bx.mk (HN2.out.trans n3)
    have HB3 := Bx.mk ho3
    have HW3 := Bx.mk (HW2.out.trans b3)
    clear ho3 b3
    go_wp2_with fail
    go_ret
    refine ⟨_, rfl, ?_, HW3.out, HN3.out⟩
    rw [HP2.out, ← List.append_assoc]
    exact HB3.out
  · have hd : decide (n < s.size) = false := decide_eq_false (by omega)
    have HP := HPUT.out
    rw [if_neg hlt] at HP
    have HP2 := Bx.mk HP
    clear HPUT HP hlt
    go_enter Try.func26, Try.ntmps26
    go_wp2_with fail
    refine (HL.out w).mono ?_
    rintro e w1 ⟨rfl, b1⟩
    have HB1 := Bx.mk (HB.out.keep b1)
    have HB1S : Bx (B ≤ w1.heap.size) := ⟨Nat.le_trans HBS.out b1.size⟩
    have HW1 := Bx.mk (b1.mono HBS.out)
    have HN1 := Bx.mk (NonB.of_below b1)
    clear b1
    go_wp2_with fail
    refine (refPrefix_non B bV l f (k : Int) s.size w1 HB1.out HB1S.out (by have := HK.out; omega) (by have := HK.out; omega)).mono ?_
    rintro e w2 ⟨v2, rfl, ho2, b2, n2⟩
    have HN2 := Bx.mk (HN1.out.trans n2)
    rw [HK.out.2.2.2.2.2] at ho2
    have HB2 := Bx.mk ho2
    have HB2S : Bx (B ≤ w2.heap.size) := ⟨Nat.le_trans HB1S.out b2.size⟩
    have HW2 := Bx.mk (HW1.out.trans b2)
    have HL2 : Bx ((l ++ pre f k s.size).length ≤ 60000) := ⟨by have := HK.out; have := HPL.out.2; rw [List.length_append]; omega⟩
    clear ho2 b2
    go_wp2_with (at_builtin; refine Lib.wpList_append_own_string _ rfl _ _ 23 9 rfl B 5 i0 Try.underlying23 Try.underlying9 HI.out.1 HI.out.2.1 HI.out.2.2.1 HI.out.2.2.2 v2 _ _ rfl HB2.out s rfl (by have := HK.out; have := HL2.out; unfold maxLen; rw [List.length_map]; omega) (by have := HK.out; have := HL2.out; rw [List.length_map]; omega) HB2S.out ?_; intro v3 w3 ho3 hg3 _)
    have HB3 := Bx.mk (OwB.str ho3)
    have HN3 : Bx (NonB w w3) := ⟨HN2.out.trans (OwB.nonB HB2.out hg3)⟩
    have HW3 : Bx (Below B w w3) := ⟨HW2.out.trans ((Below.refl _ _).grown hg3 HB2S.out fun k hk => HB2.out.ge hk)⟩
    go_ret
    refine ⟨_, rfl, ?_, HW3.out, HN3.out⟩
    rw [HP2.out, ← List.append_assoc]
    exact HB3.out

end Go.Proofs.Yteopmaaghhendaa

/-
  The document's Encode of QPACK under way: rows of the call's own by their types; the state between two fields as a word.
-/
namespace Go.Proofs.Yteopmaaghhendaa
open Go.RowKit Go.Maps
set_option linter.unusedVariables false

/-! ### rows by their types -/
/-- Blocks that are no rows of the type stand. -/
def NonT (ty : TypeId) (w w' : World) : Prop := ∀ (k : Nat) (o : Obj), w.heap[k]? = some o → (∀ (c : Array Value) (z : Nat × Nat), o ≠ Obj.cells c ty z) → w'.heap[k]? = some o
theorem NonT.of_own {w w' : World} {B k n : Nat} {ty : TypeId} {v : Value} {xs : List Value} (h : w.ownsRow B ty k v n xs) (hg : w.grownBy w' v.ownBlock) : NonT ty w w' := fun j o hj ho => by
  rw [hg.block j (Array.getElem?_eq_some_iff.1 hj).1 (fun e => ?_)]
  · exact hj
  · rcases h.2 with ⟨rfl, _⟩ | ⟨g, cap, cur, rfl, _, hh, _⟩
    · simp [Value.ownBlock] at e
    · simp only [Value.ownBlock, Option.some.injEq] at e
      subst e
      rw [hj] at hh
      injection hh with hh
      exact ho _ _ hh
/-- A row of one's own is such a block. -/
theorem own_blk {w : World} {B k n g : Nat} {ty : TypeId} {v : Value} {xs : List Value} (h : w.ownsRow B ty k v n xs) (hg : v.ownBlock = some g) : ∃ c, w.heap[g]? = some (.cells c ty (0, 0)) := by
  rcases h.2 with ⟨rfl, _⟩ | ⟨g', cap, cur, rfl, _, hh, _⟩
  · simp [Value.ownBlock] at hg
  · simp only [Value.ownBlock, Option.some.injEq] at hg
    subst hg
    exact ⟨_, hh⟩
theorem own_kept {w w' : World} {B k n : Nat} {ty : TypeId} {v : Value} {xs : List Value} (h : w.ownsRow B ty k v n xs) (hb : ∀ g, v.ownBlock = some g → w'.heap[g]? = w.heap[g]?) : w'.ownsRow B ty k v n xs := by
  refine ⟨h.1, ?_⟩
  rcases h.2 with h0 | ⟨g, cap, cur, rfl, hg, hh, rest⟩
  · exact .inl h0
  · exact .inr ⟨g, cap, cur, rfl, hg, by rw [hb g rfl]; exact hh, rest⟩
theorem own_nonT {w w' : World} {B k n : Nat} {ty ty' : TypeId} {v : Value} {xs : List Value} (h : w.ownsRow B ty k v n xs) (hn : NonT ty' w w') (ht : ty ≠ ty') : w'.ownsRow B ty k v n xs :=
  own_kept h fun g hg => by
    obtain ⟨c, hc⟩ := own_blk h hg
    rw [hc]
    exact hn g _ hc fun c z e => by injection e with _ e2 _; exact ht e2
section
variable {P : Program} (w : World)
/-- An append to a row of its own, of k cells an element: what else stood stands. -/
theorem run_append_ok (k : Nat) (hk : 0 < k) (B : Nat) (t ty e : TypeId) (i : TypeInfo) (z : Value) (bytes : Nat) (ht : P.underlying t = some (.slice e)) (hi : P.info? e = some i) (hz : i.zero = some z)
    (hsize : i.size = k) (hby : i.bytes = bytes) (hzs : z.cells.size = k)
    (v u : Value) (n m : Nat) (xs news : List Value) (hv : w.ownsRow B e k v n xs) (hu : Rn k w u m news) (h1 : ∀ x ∈ news, x.oneCell' = true)
    (hbytes : (n + m) * bytes ≤ 140737488355328) (hmax : n + m ≤ maxLen) (hB : B ≤ w.heap.size) :
    ∃ v' w', (Builtin.append_ #[t, t] ty #[v, u]).run P w = .ok v' w' ∧ w'.ownsRow B e k v' (n + m) (xs ++ news) ∧ Below B w w' ∧ w.grownBy w' v.ownBlock := by
  have hul := hu.cells
  obtain ⟨Au, c, rfl, c1, c2, c4, c3⟩ := hu
  rcases c3 with ⟨rfl, rfl⟩ | ⟨x, rfl, hc⟩
  · obtain rfl : m = 0 := by omega
    obtain rfl : news = [] := List.eq_nil_of_length_eq_zero (by omega)
    exact ⟨v, w, run_append_owned_none w B t ty e i k ht hi v _ xs hv, by rw [List.append_nil, Nat.add_zero]; exact hv, Below.refl _ _, ⟨rfl, rfl, rfl, Nat.le_refl _, fun _ _ _ => rfl⟩⟩
  · obtain ⟨v', w', hrun, r1, r2, _⟩ := run_append_own (P := P) w B t ty e i z k bytes ht hi hz hsize hby hzs hk v _ xs hv x m c news (by omega) hc h1 hmax hbytes hB
    refine ⟨v', w', hrun, r1, (Below.refl _ _).grown r2 hB ?_, r2⟩
    intro q hq
    exact (hv.lt q hq).1
theorem wp_append_ok (k : Nat) (hk : 0 < k) {o : Oper} {a : Act} {K : Act → World → Prop} {Q : Exit → Act → World → Prop} (s x : Operand) (t : TypeId)
    (ho : o.op = .call { callee := .builtin .append, args := #[s, x], argTypes := #[t, t] })
    (B : Nat) (e : TypeId) (i : TypeInfo) (z : Value) (bytes : Nat) (ht : P.underlying t = some (.slice e)) (hi : P.info? e = some i) (hz : i.zero = some z)
    (hsize : i.size = k) (hby : i.bytes = bytes) (hzs : z.cells.size = k)
    (v u : Value) (n m : Nat) (xs news : List Value) (hs : a.eval s = v) (hx : a.eval x = u) (hv : w.ownsRow B e k v n xs) (hu : Rn k w u m news) (h1 : ∀ x ∈ news, x.oneCell' = true)
    (hbytes : (n + m) * bytes ≤ 140737488355328) (hmax : n + m ≤ maxLen) (hB : B ≤ w.heap.size)
    (h : ∀ v' w', w'.ownsRow B e k v' (n + m) (xs ++ news) → Below B w w' → w.grownBy w' v.ownBlock → K (a.put o.dst v') w') : o.wp P a w K Q := by
  obtain ⟨v', w', hr, h2, h3, h4⟩ := run_append_ok (P := P) w k hk B t o.type e i z bytes ht hi hz hsize hby hzs v u n m xs news hv hu h1 hbytes hmax hB
  unfold Oper.wp execOp
  simp only [ho, resolve, invoke, builtin, Sem.run_bind, Sem.run_pure, Result.andThen_ok, List.map_toArray, List.map_cons, List.map_nil, hs, hx, hr]
  exact h v' w' h2 h3 h4
theorem wpList_append_ok (k : Nat) (hk : 0 < k) {ops : Array Oper} {rest : List Oper} {o : Oper} {a : Act} {Q : Exit → Act → World → Prop} (hgd : o.guard = none) (s x : Operand) (t : TypeId)
    (ho : o.op = .call { callee := .builtin .append, args := #[s, x], argTypes := #[t, t] })
    (B : Nat) (e : TypeId) (i : TypeInfo) (z : Value) (bytes : Nat) (ht : P.underlying t = some (.slice e)) (hi : P.info? e = some i) (hz : i.zero = some z)
    (hsize : i.size = k) (hby : i.bytes = bytes) (hzs : z.cells.size = k)
    (v u : Value) (n m : Nat) (xs news : List Value) (hs : a.eval s = v) (hx : a.eval x = u) (hv : w.ownsRow B e k v n xs) (hu : Rn k w u m news) (h1 : ∀ x ∈ news, x.oneCell' = true)
    (hbytes : (n + m) * bytes ≤ 140737488355328) (hmax : n + m ≤ maxLen) (hB : B ≤ w.heap.size)
    (h : ∀ v' w', w'.ownsRow B e k v' (n + m) (xs ++ news) → Below B w w' → w.grownBy w' v.ownBlock → wpList P ops Q rest (a.put o.dst v') w') : wpList P ops Q (o :: rest) a w :=
  wpList_plain hgd fun _ hK => wp_append_ok w k hk s x t ho B e i z bytes ht hi hz hsize hby hzs v u n m xs news hs hx hv hu h1 hbytes hmax hB fun v' w' h2 h3 h4 => hK _ _ (h v' w' h2 h3 h4)
end

/-! ### the rows of the call -/
def lcl (x : Ql) : List Value := [.int .i64 (x.k : Int), .int .u64 (x.i : Int), .string x.f.1, .string x.f.2]
def OwU (w : World) (B : Nat) (v : Value) (us : List Nat) : Prop := w.ownsRow B 27 1 v us.length (us.map uN)
def OwL (w : World) (B : Nat) (v : Value) (all : List Ql) : Prop := w.ownsRow B 94 4 v all.length (all.flatMap lcl)
theorem OwU.nil (w : World) (B : Nat) : OwU w B (.slice none 0 0) [] := World.ownsRow_nil w B _ 1
theorem OwL.nil (w : World) (B : Nat) : OwL w B (.slice none 0 0) [] := World.ownsRow_nil w B _ 4
theorem OwU.un {w : World} {B : Nat} {v : Value} {us : List Nat} (h : OwU w B v us) : Un w v us := Rd.of_own (by unfold OwU at h; rw [List.length_map]; exact h)
/-- A block that is none of the rows of the call. -/
def Clr (o : Obj) : Prop := ∀ (c : Array Value) (z : Nat × Nat), o ≠ .cells c 5 z ∧ o ≠ .cells c 27 z ∧ o ≠ .cells c 94 z
def NoT (B : Nat) (w : World) (e : Nat → Prop) : Prop := ∀ k, e k → B ≤ k → ∃ o, w.heap[k]? = some o ∧ Clr o
def rowT (ty : TypeId) : Prop := ty = 5 ∨ ty = 27 ∨ ty = 94
theorem Clr.not {o : Obj} (h : Clr o) {ty : TypeId} (ht : rowT ty) : ∀ (c : Array Value) (z : Nat × Nat), o ≠ .cells c ty z := fun c z => by
  obtain ⟨h1, h2, h3⟩ := h c z
  rcases ht with rfl | rfl | rfl
  · exact h1
  · exact h2
  · exact h3
theorem Clr.of {c : Array Value} {ty : TypeId} {z : Nat × Nat} (h1 : ty ≠ 5) (h2 : ty ≠ 27) (h3 : ty ≠ 94) : Clr (.cells c ty z) := fun c' z' =>
  ⟨fun e => by injection e with _ e _; exact h1 e, fun e => by injection e with _ e _; exact h2 e, fun e => by injection e with _ e _; exact h3 e⟩
theorem Clr.field (c : Array Value) (z : Nat × Nat) : Clr (.cells c 56 z) := Clr.of (by decide) (by decide) (by decide)
theorem NoT.not {w : World} {B k n : Nat} {e : Nat → Prop} {ty : TypeId} {v : Value} {xs : List Value} (hn : NoT B w e) (h : w.ownsRow B ty k v n xs) (ht : rowT ty) : ∀ g, v.ownBlock = some g → ¬ e g := fun g hg he => by
  obtain ⟨c, hc⟩ := own_blk h hg
  obtain ⟨o, ho, hcl⟩ := hn g he (h.lt g hg).1
  rw [hc] at ho
  injection ho with ho
  exact hcl.not ht _ _ ho.symm
/-- The table's blocks, closely told. -/
theorem rt_clr {t : Nat} {T : Tab} {w : World} {S : Nat → Prop} (h : Rt t T w S) : ∃ E, Rt t T w E ∧ (∀ k, E k → S k) ∧ ∀ k, E k → ∃ o, w.heap[k]? = some o ∧ Clr o := by
  obtain ⟨v, h1, h2, h3, h4, h5, h6⟩ := h
  refine ⟨fun k => k = t ∨ v.ownBlock = some k, ⟨v, h1, h2, h3, ⟨.inl rfl, fun k hk => .inr hk⟩, ?_, h6⟩, ?_, ?_⟩
  · rintro k (rfl | hk)
    · exact h5 _ h4.1
    · exact h5 _ (h4.2 k hk)
  · rintro k (rfl | hk)
    · exact h4.1
    · exact h4.2 k hk
  · rintro k (rfl | hk)
    · obtain ⟨c, hc, _⟩ := h1
      exact ⟨_, hc, Clr.of (by decide) (by decide) (by decide)⟩
    · rcases h2 with ⟨rfl, _⟩ | ⟨g, o, cap, m, F, rfl, hr, _⟩
      · simp [Value.ownBlock] at hk
      · simp only [Value.ownBlock, Option.some.injEq] at hk
        subst hk
        obtain ⟨c, hc, _⟩ := hr
        exact ⟨_, hc, Clr.field _ _⟩
end Go.Proofs.Yteopmaaghhendaa

/-
  The document's Encode of QPACK under way: the state as a word, and what each step does to it.
-/
namespace Go.Proofs.Yteopmaaghhendaa
open Go.RowKit Go.Maps
set_option linter.unusedVariables false

/-- The encoder, what was written so far in rows of its own, and blocks of fields that stand. -/
def QS (q t : Nat) (E : Qe) (S : Nat → Prop) (w : World) (fx : List (Nat × Array Value)) (iV : Value) (ins : List UInt8) (uV : Value) (us : List Nat) (aV : Value) (all : List Ql) (wx : World) : Prop :=
  ∃ e, E8 q t E wx e ∧ (∀ k, e k → S k ∨ w.heap.size ≤ k) ∧ NoT w.heap.size wx e ∧ Fp S w wx ∧ OwB wx w.heap.size iV ins ∧ OwU wx w.heap.size uV us ∧ OwL wx w.heap.size aV all ∧
    ∀ x ∈ fx, ¬ e x.1 ∧ wx.heap[x.1]? = some (.cells x.2 56 (0, 0))
section
variable {q t : Nat} {E : Qe} {S : Nat → Prop} {w wx wy : World} {fx fy : List (Nat × Array Value)} {iV iV' uV uV' aV aV' : Value} {ins ins' : List UInt8} {us us' : List Nat} {all all' : List Ql}
theorem e_same {e : Nat → Prop} {B : Nat} {ty : TypeId} (h3 : NoT B wx e) (ht : rowT ty) (hb : Below B wx wy) (hn : NonT ty wx wy) : ∀ k, e k → wy.heap[k]? = wx.heap[k]? := fun k hk => by
  rcases Nat.lt_or_ge k B with h | h
  · exact hb.block k h
  · obtain ⟨o, ho, hc⟩ := h3 k hk h
    rw [ho]
    exact hn k o ho (hc.not ht)
theorem noT_same {e : Nat → Prop} {B : Nat} (h3 : NoT B wx e) (h : ∀ k, e k → wy.heap[k]? = wx.heap[k]?) : NoT B wy e := fun k hk hB => by
  obtain ⟨o, ho, hc⟩ := h3 k hk hB
  exact ⟨o, by rw [h k hk]; exact ho, hc⟩
theorem QS.keep (h : QS q t E S w fx iV ins uV us aV all wx) (hb : Below wx.heap.size wx wy) : QS q t E S w fx iV ins uV us aV all wy := by
  obtain ⟨e, h1, h2, h3, h4, h5, h6, h7, h8⟩ := h
  exact ⟨e, (Wd.e8 _ _ _).keep h1 hb, h2, noT_same h3 fun k hk => hb.block k ((Wd.e8 _ _ _).lt h1 k hk), h4.then (Fp.of_below hb), h5.keep hb, ownN_keep h6 hb, ownN_keep h7 hb,
    fun x hx => ⟨(h8 x hx).1, by rw [hb.block _ (Array.getElem?_eq_some_iff.1 (h8 x hx).2).1]; exact (h8 x hx).2⟩⟩
theorem QS.byte (h : QS q t E S w fx iV ins uV us aV all wx) (ho : OwB wy w.heap.size iV' ins') (hb : Below w.heap.size wx wy) (hn : NonB wx wy) : QS q t E S w fx iV' ins' uV us aV all wy := by
  obtain ⟨e, h1, h2, h3, h4, h5, h6, h7, h8⟩ := h
  have hs := e_same h3 (.inl rfl) hb hn
  exact ⟨e, (Wd.e8 _ _ _).kept h1 hb.size hs, h2, noT_same h3 hs, h4.trans (Fp.up hb) fun i hi => .inr hi, ho, own_nonT h6 (ty' := 5) hn (by decide), own_nonT h7 (ty' := 5) hn (by decide),
    fun x hx => ⟨(h8 x hx).1, hn _ _ (h8 x hx).2 fun c z e => by injection e with _ e2 _; exact absurd e2 (by decide)⟩⟩
theorem QS.use (h : QS q t E S w fx iV ins uV us aV all wx) (ho : OwU wy w.heap.size uV' us') (hb : Below w.heap.size wx wy) (hg : wx.grownBy wy uV.ownBlock) : QS q t E S w fx iV ins uV' us' aV all wy := by
  obtain ⟨e, h1, h2, h3, h4, h5, h6, h7, h8⟩ := h
  have hn := NonT.of_own h6 hg
  have hs := e_same h3 (.inr (.inl rfl)) hb hn
  exact ⟨e, (Wd.e8 _ _ _).kept h1 hb.size hs, h2, noT_same h3 hs, h4.trans (Fp.up hb) fun i hi => .inr hi, own_nonT h5 hn (by decide), ho, own_nonT h7 hn (by decide),
    fun x hx => ⟨(h8 x hx).1, hn _ _ (h8 x hx).2 fun c z e => by injection e with _ e2 _; exact absurd e2 (by decide)⟩⟩
theorem QS.line (h : QS q t E S w fx iV ins uV us aV all wx) (ho : OwL wy w.heap.size aV' all') (hb : Below w.heap.size wx wy) (hg : wx.grownBy wy aV.ownBlock) : QS q t E S w fx iV ins uV us aV' all' wy := by
  obtain ⟨e, h1, h2, h3, h4, h5, h6, h7, h8⟩ := h
  have hn := NonT.of_own h7 hg
  have hs := e_same h3 (.inr (.inr rfl)) hb hn
  exact ⟨e, (Wd.e8 _ _ _).kept h1 hb.size hs, h2, noT_same h3 hs, h4.trans (Fp.up hb) fun i hi => .inr hi, own_nonT h5 hn (by decide), own_nonT h6 hn (by decide), ho,
    fun x hx => ⟨(h8 x hx).1, hn _ _ (h8 x hx).2 fun c z e => by injection e with _ e2 _; exact absurd e2 (by decide)⟩⟩
theorem QS.new (h : QS q t E S w fx iV ins uV us aV all wx) (cs : Array Value) : QS q t E S w ((wx.heap.size, cs) :: fx) iV ins uV us aV all (wx.alloc (.cells cs 56)) := by
  have hb := (Below.refl wx.heap.size wx).alloc (Nat.le_refl _) (.cells cs 56)
  obtain ⟨e, h1, h2, h3, h4, h5, h6, h7, h8⟩ := h
  exact ⟨e, (Wd.e8 _ _ _).keep h1 hb, h2, noT_same h3 fun k hk => hb.block k ((Wd.e8 _ _ _).lt h1 k hk), h4.then (Fp.of_below hb), h5.keep hb, ownN_keep h6 hb, ownN_keep h7 hb, fun x hx => by
    rcases List.mem_cons.1 hx with rfl | hx
    · exact ⟨fun hs => Nat.lt_irrefl _ ((Wd.e8 _ _ _).lt h1 _ hs), heap_alloc_last wx _⟩
    · exact ⟨(h8 x hx).1, by rw [hb.block _ (Array.getElem?_eq_some_iff.1 (h8 x hx).2).1]; exact (h8 x hx).2⟩⟩
theorem QS.sub (h : QS q t E S w fx iV ins uV us aV all wx) (hs : ∀ x ∈ fy, x ∈ fx) : QS q t E S w fy iV ins uV us aV all wx := by
  obtain ⟨e, h1, h2, h3, h4, h5, h6, h7, h8⟩ := h
  exact ⟨e, h1, h2, h3, h4, h5, h6, h7, fun x hx => h8 x (hs x hx)⟩
theorem QS.size (h : QS q t E S w fx iV ins uV us aV all wx) : w.heap.size ≤ wx.heap.size := by obtain ⟨_, _, _, _, h4, _⟩ := h; exact h4.size
theorem QS.bytes (h : QS q t E S w fx iV ins uV us aV all wx) : OwB wx w.heap.size iV ins := by obtain ⟨_, _, _, _, _, h5, _⟩ := h; exact h5
theorem QS.uses (h : QS q t E S w fx iV ins uV us aV all wx) : OwU wx w.heap.size uV us := by obtain ⟨_, _, _, _, _, _, h6, _⟩ := h; exact h6
theorem QS.lines (h : QS q t E S w fx iV ins uV us aV all wx) : OwL wx w.heap.size aV all := by obtain ⟨_, _, _, _, _, _, _, h7, _⟩ := h; exact h7
theorem QS.fp (h : QS q t E S w fx iV ins uV us aV all wx) : Fp S w wx := by obtain ⟨_, _, _, _, h4, _⟩ := h; exact h4
theorem QS.e8 (h : QS q t E S w fx iV ins uV us aV all wx) : ∃ e, E8 q t E wx e := by obtain ⟨e, h1, _⟩ := h; exact ⟨e, h1⟩
theorem QS.rt (h : QS q t E S w fx iV ins uV us aV all wx) : ∃ e, Rt t E.T wx e := by obtain ⟨e, h1, _⟩ := h; exact h1.rt
theorem QS.blk (h : QS q t E S w fx iV ins uV us aV all wx) {g : Nat} {cs : Array Value} (hm : (g, cs) ∈ fx) : wx.heap[g]? = some (.cells cs 56 (0, 0)) := by
  obtain ⟨_, _, _, _, _, _, _, _, h8⟩ := h
  exact (h8 _ hm).2
theorem QS.fb (h : QS q t E S w fx iV ins uV us aV all wx) {g : Nat} {f1 f2 : ByteArray} (hm : (g, #[.string f1, .string f2]) ∈ fx) : Fb 56 wx g (f1, f2) := h.blk hm
theorem QS.fs (h : QS q t E S w fx iV ins uV us aV all wx) {g : Nat} (hm : (g, C3) ∈ fx) : Fs wx (.slice (some ⟨g, 0, none⟩) 99 99) T3 := by
  have hb := h.blk hm
  refine ⟨some ⟨g, 0, none⟩, 99, by rw [t3_len], by rw [t3_len]; omega, by unfold maxLen; omega, by rw [fvl_length], .inr ⟨_, rfl, fun j u hu => ?_⟩⟩
  rw [← c3_list] at hu
  rw [Addr.add_lit]
  simp only [Nat.zero_add, World.cell?, hb]
  simpa using hu
theorem QS.start (h : E8 q t E w S) : QS q t E S w [] (.slice none 0 0) [] (.slice none 0 0) [] (.slice none 0 0) [] w :=
  ⟨S, h, fun k hk => .inl hk, fun k hk hB => by have := (Wd.e8 _ _ _).lt h k hk; omega, Fp.refl _ _, OwB.nil _ _, OwU.nil _ _, OwL.nil _ _, fun x hx => by cases hx⟩
theorem e8F_6 (t : Nat) (E : Qe) (vO vR : Value) (b : Bool) : ∀ j, j < 7 → (if j = 6 then Value.bool b else e8F t E vO vR j) = e8F t ⟨E.T, E.B, E.K, E.op, E.rest, E.err, b⟩ vO vR j := fun j hj => by
  unfold e8F
  match j, hj with
  | 0, _ => rfl
  | 1, _ => rfl
  | 2, _ => rfl
  | 3, _ => rfl
  | 4, _ => rfl
  | 5, _ => rfl
  | 6, _ => rfl
theorem QS.said (h : QS q t E S w fx iV ins uV us aV all wx) (b : Bool) : QS q t ⟨E.T, E.B, E.K, E.op, E.rest, E.err, b⟩ S w fx iV ins uV us aV all (wx.setCell ⟨q, 6, none⟩ (.bool b)) := by
  obtain ⟨e, h1, h2, h3, h4, h5, h6, h7, h8⟩ := h
  obtain ⟨vO, vR, ps, S1, S2, g0, g1, g2, g3, g4, g5, g6, g7⟩ := h1.open_
  have hq : e q := (g7 q).2 (.inr (.inr rfl))
  have hf : Fp (fun k => k = q) wx (wx.setCell ⟨q, 6, none⟩ (.bool b)) := Fp.set _ _ _ _ rfl
  have hk : ∀ k, k < wx.heap.size → k ≠ q → (wx.setCell ⟨q, 6, none⟩ (.bool b)).heap[k]? = wx.heap[k]? := fun k hk hn => hf.block k hk hn
  have hne := h3.not h5 (.inl rfl)
  have hne2 := h3.not h6 (.inr (.inl rfl))
  have hne3 := h3.not h7 (.inr (.inr rfl))
  have hrow := (g1.set 6 (.bool b)).congr (e8F_6 t E vO vR b)
  have h8' := E8.shut_ (E := ⟨E.T, E.B, E.K, E.op, E.rest, E.err, b⟩) g0 hrow ((Wd.rt t E.T).besides g2 hf fun k hk e => g5 (e ▸ hk)) ((Wd.ob _).besides g3 hf fun k hk e => g6 (e ▸ hk)) g4 g5 g6
  refine ⟨_, h8', fun k hk => h2 k ((g7 k).2 hk), fun k hk hB => ?_, h4.trans (hf.mono fun k hk => hk ▸ hq) h2, own_kept h5 fun k hk' => hk k (h5.lt hk') fun e => hne k hk' (e ▸ hq), own_kept h6 fun k hk' => hk k (h6.lt k hk').2 fun e => hne2 k hk' (e ▸ hq),
    own_kept h7 fun k hk' => hk k (h7.lt k hk').2 fun e => hne3 k hk' (e ▸ hq), fun x hx => ⟨fun hs => (h8 x hx).1 ((g7 _).2 hs), by rw [hk _ (Array.getElem?_eq_some_iff.1 (h8 x hx).2).1 fun e => (h8 x hx).1 (e ▸ hq)]; exact (h8 x hx).2⟩⟩
  by_cases hkq : k = q
  · subst hkq
    obtain ⟨c, hc, _⟩ := hrow
    exact ⟨_, hc, Clr.of (by decide) (by decide) (by decide)⟩
  · obtain ⟨o, ho, hc⟩ := h3 k ((g7 k).2 hk) hB
    exact ⟨o, by rw [hf.block k (Array.getElem?_eq_some_iff.1 ho).1 hkq]; exact ho, hc⟩
/-- An entry more. -/
theorem QS.add (h : QS q t E S w fx iV ins uV us aV all wx) (f : Fd) (hf : fsz f ≤ 1000000) (ht : E.T.tot + 1 ≤ 1000000) :
    Calls Try.prog 44 #[.pointer (some ⟨t, 0, none⟩), .agg #[.string f.1, .string f.2]] wx fun r w' => (∃ x, r = .returned x) ∧ QS q t ⟨E.T.add f, E.B, E.K, E.op, E.rest, E.err, E.said⟩ S w fx iV ins uV us aV all w' := by
  obtain ⟨e, h1, h2, h3, h4, h5, h6, h7, h8⟩ := h
  obtain ⟨vO, vR, ps, S1, S2, g0, g1, g2, g3, g4, g5, g6, g7⟩ := h1.open_
  have hlt1 := (Wd.rt t E.T).lt g2
  have hlt2 := (Wd.ob _).lt g3
  have hne := h3.not h5 (.inl rfl)
  have hne2 := h3.not h6 (.inr (.inl rfl))
  have hne3 := h3.not h7 (.inr (.inr rfl))
  refine (refAdd_any g2 f hf ht).mono ?_
  rintro r w' ⟨rfl, S1', x, s, hfp⟩
  obtain ⟨E1, a1, a2, a3⟩ := rt_clr x
  have hin : ∀ k, S1 k → e k := fun k hk => (g7 k).2 (.inl hk)
  have hq := g1.lt
  have h8' := E8.shut_ (E := ⟨E.T.add f, E.B, E.K, E.op, E.rest, E.err, E.said⟩) g0 (g1.of_block (hfp.block q hq g5)) a1 ((Wd.ob _).besides g3 hfp fun k hk hs => g4 k hs hk) (fun k hk hs => by
    rcases s k (a2 k hk) with hh | hh
    · exact g4 k hh hs
    · have := hlt2 k hs; omega) (fun hh => by
    rcases s q (a2 q hh) with hh | hh
    · exact g5 hh
    · omega) g6
  refine ⟨⟨_, rfl⟩, _, h8', fun k hk => ?_, fun k hk hB => ?_, h4.trans (hfp.mono hin) h2, own_kept h5 fun k hk' => hfp.block k (h5.lt hk') fun hs => hne k hk' (hin k hs), own_kept h6 fun k hk' => hfp.block k (h6.lt k hk').2 fun hs => hne2 k hk' (hin k hs),
    own_kept h7 fun k hk' => hfp.block k (h7.lt k hk').2 fun hs => hne3 k hk' (hin k hs), fun y hy => ?_⟩
  · rcases hk with hk | hk | hk
    · rcases s k (a2 k hk) with hh | hh
      · exact h2 k (hin k hh)
      · exact .inr (Nat.le_trans h4.size hh)
    · exact h2 k ((g7 k).2 (.inr (.inl hk)))
    · exact h2 k ((g7 k).2 (.inr (.inr hk)))
  · rcases hk with hk | hk
    · exact a3 k hk
    · have he : e k := (g7 k).2 (.inr hk)
      have hns : ¬ S1 k := fun hs => hk.elim (g4 k hs) fun e => g5 (e ▸ hs)
      obtain ⟨o, ho, hc⟩ := h3 k he hB
      exact ⟨o, by rw [hfp.block k (Array.getElem?_eq_some_iff.1 ho).1 hns]; exact ho, hc⟩
  · obtain ⟨b1, b2⟩ := h8 y hy
    have hl := (Array.getElem?_eq_some_iff.1 b2).1
    refine ⟨fun hs => ?_, by rw [hfp.block _ hl fun hs => b1 (hin _ hs)]; exact b2⟩
    rcases hs with hs | hs
    · rcases s _ (a2 _ hs) with hh | hh
      · exact b1 (hin _ hh)
      · omega
    · exact b1 ((g7 _).2 (.inr hs))
end
end Go.Proofs.Yteopmaaghhendaa

/-
  Contract of the document's Prefix of a section, into a row of its own; how long what is written is; what the run keeps.
-/
namespace Go.Proofs.Yteopmaaghhendaa
open Go.RowKit Go.Maps
set_option linter.unusedVariables false

theorem refPrefix_at (B : Nat) (bV : Value) (bl : List UInt8) (f : UInt8) (F : Int) (hF : (f.toNat : Int) = F) (n : Int) (k : Nat) (hk : bitsOf n = k) (v : Nat) (V : Int) (hV : (v : Int) = V) (w : World) (hb : OwB w B bV bl) (hB : B ≤ w.heap.size) (hbl : bl.length ≤ 200000) (hv : v < 18446744073709551616) :
    Calls Try.prog 23 #[bV, .int .u8 F, .int .i64 n, .int .u64 V] w fun e w' => ∃ v', e = .returned v' ∧ OwB w' B v' (bl ++ pre f k v) ∧ Below B w w' ∧ NonB w w' := by
  subst hF hk hV
  exact refPrefix_non B bV bl f n v w hb hB hbl hv

set_option maxRecDepth 100000 in
set_option maxHeartbeats 1000000 in
theorem refQPrefix_own (B : Nat) (bV : Value) (bl : List UInt8) (c b : Nat) (cap : Int) (w : World) (hb : OwB w B bV bl) (hB : B ≤ w.heap.size) (hbl : bl.length ≤ 199000) (hc : c < 18446744073709551616) (hb8 : b < 18446744073709551616) (hcap : cap < 9223372036854775808) :
    Calls Try.prog 24 #[bV, .int .u64 c, .int .u64 b, .int .i64 cap] w fun e w' => ∃ v', e = .returned v' ∧ OwB w' B v' (bl ++ qpre c b (mostN cap)) ∧ Below B w w' ∧ NonB w w' := by
  have hm := mostN_lt hcap
  have HE := Bx.mk (refEncodeCount_any c cap hc hcap)
  obtain ⟨EC, hEC⟩ := letter (ecN c (mostN cap))
  have hP1 := fun W (h : OwB W B bV bl) (hB : B ≤ W.heap.size) => refPrefix_at B bV bl 0 0 rfl 8 8 rfl _ EC hEC W h hB (by omega) (ecN_lt hm)
  have HP1 := Bx.mk hP1
  have Hpl := Bx.mk (pre_len11 0 8 (ecN c (mostN cap)))
  have Hbl := Bx.mk hbl
  have Hb := Bx.mk hb
  have HBB := Bx.mk hB
  obtain ⟨C, hC⟩ := letter c
  obtain ⟨D, hD⟩ := letter b
  simp only [hC, hEC] at HE
  simp only [hC, hD]
  clear hP1 hEC
  unfold qpre
  by_cases h : c ≤ b
  · rw [if_pos h]
    have h1 : decide (C ≤ D) = true := by rw [decide_eq_true_iff]; omega
    obtain ⟨S, hS⟩ := letter (b - c)
    have hsub : IntKind.u64.wrap (D - C) = S := by rw [show D - C = S from by omega]; exact u64_keep (by omega) (by omega)
    have HP2 := Bx.mk fun W v l (h : OwB W B v l) (hB : B ≤ W.heap.size) (hl : l.length ≤ 200000) => refPrefix_at B v l 0 0 rfl 7 7 rfl (b - c) S hS W h hB hl (by omega)
    clear hS hC hD h hm hb hbl hc hb8 hcap hB
    go_enter Try.func24, Try.ntmps24
    go_wp2_with fail
    refine (HE.out _).mono ?_
    rintro e w' ⟨rfl, rfl⟩
    go_wp2_with fail
    refine (HP1.out _ Hb.out HBB.out).mono ?_
    rintro e w1 ⟨v1, rfl, h1, b1, n1⟩
    go_wp2_with fail
    refine (HP2.out _ _ _ h1 (Nat.le_trans HBB.out b1.size) (by have := Hbl.out; have := Hpl.out; simp; omega)).mono ?_
    rintro e w2 ⟨v2, rfl, h2, b2, n2⟩
    go_wp2_with fail
    go_ret
    exact ⟨_, rfl, by rw [← List.append_assoc]; exact h2, b1.trans b2, n1.trans n2⟩
  · rw [if_neg h]
    have h1 : decide (C ≤ D) = false := by rw [decide_eq_false_iff_not]; omega
    obtain ⟨S, hS⟩ := letter (c - b)
    obtain ⟨S', hS'⟩ := letter (c - b - 1)
    have hsub : IntKind.u64.wrap (C - D) = S := by rw [show C - D = S from by omega]; exact u64_keep (by omega) (by omega)
    have hsub2 : IntKind.u64.wrap (S - 1) = S' := by rw [show S - 1 = S' from by omega]; exact u64_keep (by omega) (by omega)
    have HP2 := Bx.mk fun W v l (h : OwB W B v l) (hB : B ≤ W.heap.size) (hl : l.length ≤ 200000) => refPrefix_at B v l 128 128 rfl 7 7 rfl (c - b - 1) S' hS' W h hB hl (by omega)
    clear hS hS' hC hD h hm hb hbl hc hb8 hcap hB
    go_enter Try.func24, Try.ntmps24
    go_wp2_with fail
    refine (HE.out _).mono ?_
    rintro e w' ⟨rfl, rfl⟩
    go_wp2_with fail
    refine (HP1.out _ Hb.out HBB.out).mono ?_
    rintro e w1 ⟨v1, rfl, h1, b1, n1⟩
    go_wp2_with fail
    refine (HP2.out _ _ _ h1 (Nat.le_trans HBB.out b1.size) (by have := Hbl.out; have := Hpl.out; simp; omega)).mono ?_
    rintro e w2 ⟨v2, rfl, h2, b2, n2⟩
    go_wp2_with fail
    go_ret
    exact ⟨_, rfl, by rw [← List.append_assoc]; exact h2, b1.trans b2, n1.trans n2⟩

/-! ### how long -/
theorem putSk_len (f : UInt8) (k : Nat) (s : List UInt8) : (putSk f k s).length ≤ s.length + 11 := by
  have h1 := (pre_len f k s.length).2
  have h2 := (pre_len (hiB f k) k (enc s 0 0).length).2
  have h3 := enc0_length s
  unfold putSk
  split
  · rw [List.length_append]; omega
  · rw [List.length_append]; omega
theorem insW_len (f : Fd) : (insW f).length ≤ fsz f + 22 := by
  have h1 := (pre_len 192 6 (findS T3 f).1).2
  have h2 := putSk_len 64 5 f.1.data.toList
  have h3 := putSk_len 0 7 f.2.data.toList
  have e1 : f.1.data.toList.length = f.1.size := by simp
  have e2 : f.2.data.toList.length = f.2.size := by simp
  unfold insW fsz
  rw [List.length_append]
  split <;> omega
theorem lineW_len (c : Nat) (x : Ql) : (lineW c x).length ≤ fsz x.f + 22 := by
  have h1 := (pre_len 192 6 x.i).2
  have h2 := (pre_len 128 6 (c - 1 - x.i)).2
  have h3 := (pre_len (if secN x.f.1 then 112 else 80) 4 x.i).2
  have h4 := putSk_len (if secN x.f.1 then 48 else 32) 3 x.f.1.data.toList
  have h5 := putSk_len 0 7 x.f.2.data.toList
  have e1 : x.f.1.data.toList.length = x.f.1.size := by simp
  have e2 : x.f.2.data.toList.length = x.f.2.size := by simp
  unfold lineW fsz
  split
  · omega
  · split
    · omega
    · split
      · rw [List.length_append]; omega
      · rw [List.length_append]; omega
theorem qstep_len (op : List Qs) (K : Nat) (free : Bool) (a : Qa) (f : Fd) : (qstep op K free a f).ins.length ≤ a.ins.length + fsz f + 22 ∧ (qstep op K free a f).all.length = a.all.length + 1 ∧ (qstep op K free a f).u.length ≤ a.u.length + 1 ∧ (qstep op K free a f).T.tot ≤ a.T.tot + 1 ∧ (qstep op K free a f).T.cap = a.T.cap := by
  have h1 := insW_len f
  have h2 := a.T.add_tot_le f
  have h3 := a.T.add_cap f
  unfold qstep
  split
  · simp [Qa.line]; omega
  · split
    · simp [Qa.ref]; omega
    · split
      · split
        · simp [Qa.ref, Qa.insd]; omega
        · simp [Qa.line, Qa.insd]; omega
      · simp [Qa.line]; omega
def wsz (l : List Fd) : Nat := (l.map fun f => fsz f + 22).sum
theorem qrun_len (op : List Qs) (K : Nat) (free : Bool) : ∀ (l : List Fd) (a : Qa), (qrun op K free l a).ins.length ≤ a.ins.length + wsz l ∧ (qrun op K free l a).all.length = a.all.length + l.length ∧ (qrun op K free l a).u.length ≤ a.u.length + l.length ∧ (qrun op K free l a).T.tot ≤ a.T.tot + l.length ∧ (qrun op K free l a).T.cap = a.T.cap
  | [], a => by simp [qrun, wsz]
  | f :: l, a => by
    obtain ⟨h1, h2, h3, h4, h5⟩ := qstep_len op K free a f
    obtain ⟨g1, g2, g3, g4, g5⟩ := qrun_len op K free l (qstep op K free a f)
    have e : qrun op K free (f :: l) a = qrun op K free l (qstep op K free a f) := rfl
    rw [e]
    simp only [wsz, List.map_cons, List.sum_cons, List.length_cons] at *
    refine ⟨by omega, by omega, by omega, by omega, by rw [g5, h5]⟩
theorem wsz_take (l : List Fd) (k : Nat) : wsz (l.take k) ≤ wsz l := by
  unfold wsz
  conv => rhs; rw [← List.take_append_drop k l]
  rw [List.map_append, List.sum_append]
  omega
theorem linesW_len (c : Nat) (all : List Ql) : (linesW c all).length ≤ wsz (all.map (·.f)) := by
  unfold linesW wsz
  induction all with
  | nil => simp
  | cons x l ih =>
    have := lineW_len c x
    simp only [List.flatMap_cons, List.length_append, List.map_cons, List.sum_cons]
    omega
theorem linesW_take (c : Nat) (all : List Ql) (k : Nat) (hk : k < all.length) : linesW c (all.take (k + 1)) = linesW c (all.take k) ++ lineW c all[k] := by
  unfold linesW
  rw [List.take_succ_eq_append_getElem hk, List.flatMap_append]
  simp
theorem capW_len (said : Bool) (cap : Nat) : (capW said cap).length ≤ 11 := by
  have := (pre_len 32 5 cap).2
  unfold capW
  split
  · exact this
  · simp
theorem QInv.start {T : Tab} (h : T.gq) (ins : List UInt8) : QInv T.cap ⟨T, ins, [], [], 0⟩ := ⟨h, rfl, fun x hx => absurd hx List.not_mem_nil, fun i hi => absurd hi List.not_mem_nil, .inl rfl⟩
end Go.Proofs.Yteopmaaghhendaa

/-
  The document's Encode of QPACK, in pieces: its code, its frame, the state between two fields; a literal line.
-/
namespace Go.Proofs.Yteopmaaghhendaa
open Go.RowKit Go.Maps
set_option linter.unusedVariables false

noncomputable def ecode : Code := (Try.f20).body.getD .skip
noncomputable def efrom (n : Nat) : Code := (fromR n ecode).getD .skip
noncomputable def estmt (n : Nat) : Code := (fromS n ecode).getD .skip
noncomputable def eloop (n : Nat) : Code := ((loopAt n ecode).1).getD .skip

set_option maxRecDepth 1000000 in
theorem eframe (a : Act) (hs : a.tmps.size = 288) (hd : a.defers = []) : ∃ u : Nat → Value, (∀ i, a.tmps.getD i undef = u i) ∧ a = ⟨#[u 0, u 1, u 2, u 3, u 4, u 5, u 6, u 7, u 8, u 9, u 10, u 11, u 12, u 13, u 14, u 15, u 16, u 17, u 18, u 19, u 20, u 21, u 22, u 23, u 24, u 25, u 26, u 27, u 28, u 29, u 30, u 31, u 32, u 33, u 34, u 35, u 36, u 37, u 38, u 39, u 40, u 41, u 42, u 43, u 44, u 45, u 46, u 47, u 48, u 49, u 50, u 51, u 52, u 53, u 54, u 55, u 56, u 57, u 58, u 59, u 60, u 61, u 62, u 63, u 64, u 65, u 66, u 67, u 68, u 69, u 70, u 71, u 72, u 73, u 74, u 75, u 76, u 77, u 78, u 79, u 80, u 81, u 82, u 83, u 84, u 85, u 86, u 87, u 88, u 89, u 90, u 91, u 92, u 93, u 94, u 95, u 96, u 97, u 98, u 99, u 100, u 101, u 102, u 103, u 104, u 105, u 106, u 107, u 108, u 109, u 110, u 111, u 112, u 113, u 114, u 115, u 116, u 117, u 118, u 119, u 120, u 121, u 122, u 123, u 124, u 125, u 126, u 127, u 128, u 129, u 130, u 131, u 132, u 133, u 134, u 135, u 136, u 137, u 138, u 139, u 140, u 141, u 142, u 143, u 144, u 145, u 146, u 147, u 148, u 149, u 150, u 151, u 152, u 153, u 154, u 155, u 156, u 157, u 158, u 159, u 160, u 161, u 162, u 163, u 164, u 165, u 166, u 167, u 168, u 169, u 170, u 171, u 172, u 173, u 174, u 175, u 176, u 177, u 178, u 179, u 180, u 181, u 182, u 183, u 184, u 185, u 186, u 187, u 188, u 189, u 190, u 191, u 192, u 193, u 194, u 195, u 196, u 197, u 198, u 199, u 200, u 201, u 202, u 203, u 204, u 205, u 206, u 207, u 208, u 209, u 210, u 211, u 212, u 213, u 214, u 215, u 216, u 217, u 218, u 219, u 220, u 221, u 222, u 223, u 224, u 225, u 226, u 227, u 228, u 229, u 230, u 231, u 232, u 233, u 234, u 235, u 236, u 237, u 238, u 239, u 240, u 241, u 242, u 243, u 244, u 245, u 246, u 247, u 248, u 249, u 250, u 251, u 252, u 253, u 254, u 255, u 256, u 257, u 258, u 259, u 260, u 261, u 262, u 263, u 264, u 265, u 266, u 267, u 268, u 269, u 270, u 271, u 272, u 273, u 274, u 275, u 276, u 277, u 278, u 279, u 280, u 281, u 282, u 283, u 284, u 285, u 286, u 287], []⟩ :=
  ⟨fun i => a.tmps.getD i undef, fun _ => rfl, frame_eta 288 a hs hd⟩

/-- The slots that are read on. -/
structure At1 (a : Act) (q s : Nat) (lV : Value) (fb : Bool) (g0 : Nat) (iV uV aV : Value) (c k : Nat) : Prop where
  d : a.defers = []
  z : a.tmps.size = 288
  t0 : a.tmps.getD 0 undef = .pointer (some ⟨q, 0, none⟩)
  t1 : a.tmps.getD 1 undef = .int .u64 (s : Int)
  t2 : a.tmps.getD 2 undef = lV
  t8 : a.tmps.getD 8 undef = iV
  t10 : a.tmps.getD 10 undef = .bool fb
  t11 : a.tmps.getD 11 undef = .slice (some ⟨g0, 0, none⟩) 99 99
  t12 : a.tmps.getD 12 undef = uV
  t13 : a.tmps.getD 13 undef = .int .u64 (c : Int)
  t14 : a.tmps.getD 14 undef = aV
  t15 : a.tmps.getD 15 undef = .int .i64 (k : Int)
/-- The encoder under way. -/
def Qe.at (E : Qe) (T : Tab) : Qe := ⟨T, E.B, E.K, E.op, E.rest, E.err, true⟩
/-- Between two fields. -/
def Nx (q t s : Nat) (E : Qe) (S : Nat → Prop) (w : World) (lV : Value) (fb : Bool) (g0 k : Nat) (a : Qa) (ac : Act) (wx : World) : Prop :=
  ∃ iV uV aV, At1 ac q s lV fb g0 iV uV aV a.c k ∧ QS q t (E.at a.T) S w [(g0, C3)] iV a.ins uV a.u aV a.all wx
/-- Bounds that are enough. -/
structure Bd (a : Qa) : Prop where
  ins : a.ins.length ≤ 25000
  all : a.all.length ≤ 100
  u : a.u.length ≤ 100
  tot : a.T.tot ≤ 900000
  c : a.c ≤ a.T.tot

theorem infoL : ∃ i z, Try.prog.info? 94 = some i ∧ i.zero = some z ∧ z.cells.size = 4 ∧ i.size = 4 ∧ i.bytes = 48 := by
  have h : (Try.prog.info? 94).map (fun i => (i.zero.map (fun z => z.cells.size), i.size, i.bytes)) = some (some 4, 4, 48) := by kernel_rfl
  cases hi : Try.prog.info? 94 with
  | none => rw [hi] at h; simp at h
  | some i =>
    rw [hi] at h
    simp only [Option.map_some, Option.some.injEq, Prod.mk.injEq] at h
    cases hz : i.zero with
    | none => rw [hz] at h; simp at h
    | some z =>
      rw [hz] at h
      simp only [Option.map_some, Option.some.injEq] at h
      exact ⟨i, z, rfl, hz, h.1, h.2.1, h.2.2⟩
theorem infoU : ∃ i z, Try.prog.info? 27 = some i ∧ i.zero = some z ∧ z.cells.size = 1 ∧ i.size = 1 ∧ i.bytes = 8 := by
  have h : (Try.prog.info? 27).map (fun i => (i.zero.map (fun z => z.cells.size), i.size, i.bytes)) = some (some 1, 1, 8) := by kernel_rfl
  cases hi : Try.prog.info? 27 with
  | none => rw [hi] at h; simp at h
  | some i =>
    rw [hi] at h
    simp only [Option.map_some, Option.some.injEq, Prod.mk.injEq] at h
    cases hz : i.zero with
    | none => rw [hz] at h; simp at h
    | some z =>
      rw [hz] at h
      simp only [Option.map_some, Option.some.injEq] at h
      exact ⟨i, z, rfl, hz, h.1, h.2.1, h.2.2⟩

section
variable {q t s : Nat} {E : Qe} {S : Nat → Prop} {w wx : World} {fx : List (Nat × Array Value)} {iV uV aV : Value} {ins : List UInt8} {us : List Nat} {all : List Ql}
theorem Rn.lit1 {k : Nat} (w : World) (e : TypeId) (cs : Array Value) (hn : cs.size = k) : Rn k (w.alloc (.cells cs e)) (.slice (some ⟨w.heap.size, 0, none⟩) 1 1) 1 cs.toList :=
  Rn.of_own (World.ownsRow_lit (base := w.heap.size) (e := e) (size := k) w cs 1 (Nat.le_refl _) (by unfold maxLen; omega) (by omega))
/-- A line more. -/
theorem wpList_pushL {ops : Array Oper} {rest : List Oper} {o : Oper} {a : Act} {Q : Exit → Act → World → Prop} (hgd : o.guard = none) (so xo : Operand)
    (ho : o.op = .call { callee := .builtin .append, args := #[so, xo], argTypes := #[90, 90] }) (y : Ql) {KV IV : Int} (hkv : (y.k : Int) = KV) (hiv : (y.i : Int) = IV)
    (h : QS q t E S w fx iV ins uV us aV all wx) (hl : all.length ≤ 1000) (hs : a.eval so = aV) (hx : a.eval xo = .slice (some ⟨wx.heap.size, 0, none⟩) 1 1)
    (hK : ∀ v' w', QS q t E S w fx iV ins uV us v' (all ++ [y]) w' → wpList Try.prog ops Q rest (a.put o.dst v') w') :
    wpList Try.prog ops Q (o :: rest) a (wx.alloc (.cells #[.int .i64 KV, .int .u64 IV, .string y.f.1, .string y.f.2] 94)) := by
  subst hkv hiv
  obtain ⟨i, z, h1, h2, h3, h4, h5⟩ := infoL
  have hb := (Below.refl wx.heap.size wx).alloc (Nat.le_refl _) (.cells #[.int .i64 (y.k : Int), .int .u64 (y.i : Int), .string y.f.1, .string y.f.2] 94)
  have hq := h.keep hb
  refine wpList_append_ok _ 4 (by omega) hgd so xo 90 ho w.heap.size 94 i z 48 Try.underlying90 h1 h2 h4 h5 h3 _ _ all.length 1 (all.flatMap lcl) (lcl y) hs hx hq.lines (Rn.lit1 wx _ _ rfl) ?_ (by omega) (by unfold maxLen; omega) hq.size ?_
  · intro x hx
    simp only [lcl, List.mem_cons, List.not_mem_nil, or_false] at hx
    rcases hx with rfl | rfl | rfl | rfl <;> rfl
  · intro v' w' hap hb2 hg
    refine hK v' w' (hq.line ?_ hb2 hg)
    unfold OwL
    rw [List.length_append, List.flatMap_append]
    simpa using hap
/-- A place more. -/
theorem wpList_pushU {ops : Array Oper} {rest : List Oper} {o : Oper} {a : Act} {Q : Exit → Act → World → Prop} (hgd : o.guard = none) (so xo : Operand)
    (ho : o.op = .call { callee := .builtin .append, args := #[so, xo], argTypes := #[89, 89] }) (y : Nat) {IV : Int} (hiv : (y : Int) = IV)
    (h : QS q t E S w fx iV ins uV us aV all wx) (hl : us.length ≤ 1000) (hs : a.eval so = uV) (hx : a.eval xo = .slice (some ⟨wx.heap.size, 0, none⟩) 1 1)
    (hK : ∀ v' w', QS q t E S w fx iV ins v' (us ++ [y]) aV all w' → wpList Try.prog ops Q rest (a.put o.dst v') w') :
    wpList Try.prog ops Q (o :: rest) a (wx.alloc (.cells #[.int .u64 IV] 27)) := by
  subst hiv
  obtain ⟨i, z, h1, h2, h3, h4, h5⟩ := infoU
  have hb := (Below.refl wx.heap.size wx).alloc (Nat.le_refl _) (.cells #[.int .u64 (y : Int)] 27)
  have hq := h.keep hb
  refine wpList_append_ok _ 1 (by omega) hgd so xo 89 ho w.heap.size 27 i z 8 Try.underlying89 h1 h2 h4 h5 h3 _ _ us.length 1 (us.map uN) [uN y] hs hx hq.uses (Rn.lit1 wx _ _ rfl) ?_ (by omega) (by unfold maxLen; omega) hq.size ?_
  · intro x hx
    rw [List.mem_singleton.1 hx]
    rfl
  · intro v' w' hap hb2 hg
    refine hK v' w' (hq.use ?_ hb2 hg)
    unfold OwU
    rw [List.length_append, List.map_append]
    exact hap
end

section
variable {q t s : Nat} {E : Qe} {S : Nat → Prop} {w wx : World} {lV : Value} {fb : Bool} {g0 k G : Nat} {a : Qa} {f1 f2 : ByteArray} {iV uV aV : Value}
set_option maxRecDepth 100000 in
set_option maxHeartbeats 40000000 in
/-- A literal line. -/
theorem lit_any (ac : Act) (hA : At1 ac q s lV fb g0 iV uV aV a.c k) (h16 : ac.tmps.getD 16 undef = .pointer (some ⟨G, 0, none⟩)) (at_ : Nat) (nm : Bool) (h17 : ac.tmps.getD 17 undef = .int .i64 (at_ : Int)) (h18 : ac.tmps.getD 18 undef = .bool nm)
    (hfs : (findS T3 (f1, f2)).1 = at_ ∧ (findS T3 (f1, f2)).2.1 = nm) (hat : at_ ≤ 99) (hQ : QS q t (E.at a.T) S w [(G, #[.string f1, .string f2]), (g0, C3)] iV a.ins uV a.u aV a.all wx) (hB : Bd a) :
    Code.wp Try.prog (estmt 33) (Kx (Nx q t s E S w lV fb g0 k (a.line (litQ (f1, f2)))) (fun _ _ => False) (fun _ _ _ => False)) ac wx := by
  have HQ := Bx.mk hQ
  have hB3 := hB.all
  have HL : Bx (litQ (f1, f2) = if nm then ⟨2, at_, (f1, f2)⟩ else ⟨3, 0, (f1, f2)⟩) := ⟨by unfold litQ; rw [hfs.1, hfs.2]⟩
  obtain ⟨ha, hb⟩ := (hQ.fb (g := G) (f1 := f1) (f2 := f2) (by simp)).cells
  obtain ⟨u, hu, hac⟩ := eframe ac hA.z hA.d
  have h0 := (hu 0).symm.trans hA.t0
  have h1 := (hu 1).symm.trans hA.t1
  have h2 := (hu 2).symm.trans hA.t2
  have h8 := (hu 8).symm.trans hA.t8
  have h10 := (hu 10).symm.trans hA.t10
  have h11 := (hu 11).symm.trans hA.t11
  have h12 := (hu 12).symm.trans hA.t12
  have h13 := (hu 13).symm.trans hA.t13
  have h14 := (hu 14).symm.trans hA.t14
  have h15 := (hu 15).symm.trans hA.t15
  have h16' := (hu 16).symm.trans h16
  have h17' := (hu 17).symm.trans h17
  have h18' := (hu 18).symm.trans h18
  rw [hac]
  clear hac hA h16 h17 h18
  rw [h0, h1, h2, h8, h10, h11, h12, h13, h14, h15, h16', h17', h18']
  clear h0 h1 h2 h8 h10 h11 h12 h13 h14 h15 h16' h17' h18' hu
  conv => arg 2; whnf
  have hw : IntKind.u64.wrap (at_ : Int) = (at_ : Int) := u64_keep (by omega) (by omega)
  clear hfs hat hQ
  cases nm with
  | true =>
    have HL2 : Bx (litQ (f1, f2) = ⟨2, at_, (f1, f2)⟩) := ⟨by rw [HL.out, if_pos rfl]⟩
    clear HL
    go_wp2_with (at_builtin; refine wpList_pushL rfl _ _ rfl ⟨2, at_, (f1, f2)⟩ rfl rfl HQ.out (by omega) rfl rfl ?_; intro v2 w2 hq2; have HQ2 := Bx.mk hq2; clear hq2)
    exact Kx.norm ⟨_, _, _, ⟨rfl, rfl, rfl, rfl, rfl, rfl, rfl, rfl, rfl, rfl, rfl, rfl⟩, by rw [HL2.out]; exact HQ2.out.sub (by simp)⟩
  | false =>
    have HL2 : Bx (litQ (f1, f2) = ⟨3, 0, (f1, f2)⟩) := ⟨by rw [HL.out]; rfl⟩
    clear HL
    go_wp2_with (at_builtin; refine wpList_pushL rfl _ _ rfl ⟨3, 0, (f1, f2)⟩ rfl rfl HQ.out (by omega) rfl rfl ?_; intro v2 w2 hq2; have HQ2 := Bx.mk hq2; clear hq2)
    exact Kx.norm ⟨_, _, _, ⟨rfl, rfl, rfl, rfl, rfl, rfl, rfl, rfl, rfl, rfl, rfl, rfl⟩, by rw [HL2.out]; exact HQ2.out.sub (by simp)⟩
end
end Go.Proofs.Yteopmaaghhendaa

/-
  The document's Encode of QPACK, in pieces: an entry that is inserted.
-/
namespace Go.Proofs.Yteopmaaghhendaa
open Go.RowKit Go.Maps
set_option linter.unusedVariables false

section
variable {q t s : Nat} {E : Qe} {S : Nat → Prop} {w wx : World} {lV : Value} {fb : Bool} {g0 k G : Nat} {a : Qa} {f1 f2 : ByteArray} {iV uV aV : Value} {fx : List (Nat × Array Value)} {ins : List UInt8} {us : List Nat} {all : List Ql}
/-- The slots of the field at hand. -/
structure At2 (ac : Act) (G at_ : Nat) (nm : Bool) : Prop where
  t16 : ac.tmps.getD 16 undef = .pointer (some ⟨G, 0, none⟩)
  t17 : ac.tmps.getD 17 undef = .int .i64 (at_ : Int)
  t18 : ac.tmps.getD 18 undef = .bool nm
/-- Behind a field that was inserted and may not be used. -/
def Ix (q t s : Nat) (E : Qe) (S : Nat → Prop) (w : World) (lV : Value) (fb : Bool) (g0 k G at_ : Nat) (nm : Bool) (f1 f2 : ByteArray) (a : Qa) (ac : Act) (wx : World) : Prop :=
  ∃ iV uV aV, At1 ac q s lV fb g0 iV uV aV a.c k ∧ At2 ac G at_ nm ∧ QS q t (E.at a.T) S w [(G, #[.string f1, .string f2]), (g0, C3)] iV a.ins uV a.u aV a.all wx
/-- What the walk reads. -/
theorem QS.reads (h : QS q t E S w fx iV ins uV us aV all wx) (hm : (G, #[.string f1, .string f2]) ∈ fx) : wx.cell? ⟨q, 0, none⟩ = some (.pointer (some ⟨t, 0, none⟩)) ∧ wx.cell? ⟨G, 0, none⟩ = some (.string f1) ∧ wx.cell? ⟨G, 1, none⟩ = some (.string f2) := by
  obtain ⟨e, he⟩ := h.e8
  obtain ⟨_, _, _, _, _, _, c0, _⟩ := he.cells
  exact ⟨c0, (h.fb hm).cells⟩
theorem QS.total (h : QS q t E S w fx iV ins uV us aV all wx) : wx.cell? ⟨t, 2, none⟩ = some (.int .u64 (E.T.tot : Int)) := by
  obtain ⟨e, he⟩ := h.e8
  obtain ⟨_, _, _, _, c2⟩ := he.tcells
  exact c2
set_option maxRecDepth 100000 in
set_option maxHeartbeats 40000000 in
/-- An entry that is inserted. -/
theorem ins_any (ac : Act) (hA : At1 ac q s lV fb g0 iV uV aV a.c k) (at_ : Nat) (nm : Bool) (hA2 : At2 ac G at_ nm) (hfs : (findS T3 (f1, f2)).1 = at_ ∧ (findS T3 (f1, f2)).2.1 = nm) (hat : at_ ≤ 99) (hfz : fsz (f1, f2) ≤ 20000) (hcap : fsz (f1, f2) + 32 ≤ a.T.cap)
    (hQ : QS q t (E.at a.T) S w [(G, #[.string f1, .string f2]), (g0, C3)] iV a.ins uV a.u aV a.all wx) (hB : Bd a) :
    Code.wp Try.prog (estmt 23) (Kx (fun ac' w' => fb = false ∧ Ix q t s E S w lV fb g0 k G at_ nm f1 f2 (a.insd (f1, f2)) ac' w') (fun _ _ => False) (fun i ac' w' => i = 1 ∧ fb = true ∧ Nx q t s E S w lV fb g0 k ((a.insd (f1, f2)).ref (f1, f2) a.T.tot) ac' w')) ac wx := by
  have HQ := Bx.mk hQ
  have hB1 := hB.ins
  have hB2 := hB.u
  have hB3 := hB.all
  have hB4 := hB.tot
  have hB5 := hB.c
  have htot : (a.T.add (f1, f2)).tot = a.T.tot + 1 := by unfold Tab.add; rw [if_pos hcap]
  have hs1 : f1.size ≤ 20000 := by unfold fsz at hfz; simp only at hfz; omega
  have hs2 : f2.size ≤ 20000 := by unfold fsz at hfz; simp only at hfz; omega
  have HPRE := Bx.mk (fun V (hV : (at_ : Int) = V) => refPrefix_at w.heap.size iV a.ins 192 192 rfl 6 6 rfl at_ V hV wx hQ.bytes hQ.size (by omega) (by omega))
  have HPUN := Bx.mk (putStr_non w.heap.size iV a.ins 64 5 (by omega) (by omega) f1 wx hQ.bytes hQ.size (by omega) hs1)
  obtain ⟨nb, hnb0⟩ : ∃ nb, nb = (if nm then pre 192 6 at_ else putSk 64 5 f1.data.toList) := ⟨_, rfl⟩
  have hnb : nb ++ putSk 0 7 f2.data.toList = insW (f1, f2) := by unfold insW; rw [hfs.1, hfs.2, hnb0]
  have hnl : nb.length ≤ 20011 := by
    have h1 := (pre_len 192 6 at_).2
    have h2 := putSk_len 64 5 f1.data.toList
    have e1 : f1.data.toList.length = f1.size := by simp
    rw [hnb0]
    split <;> omega
  have HPUT : Bx (∀ (W : World) (V : Value), OwB W w.heap.size V (a.ins ++ nb) → w.heap.size ≤ W.heap.size → Calls Try.prog 26 #[V, .int .u8 0, .int .i64 7, .string f2] W fun e w' => ∃ v', e = .returned v' ∧ OwB w' w.heap.size v' (a.ins ++ insW (f1, f2)) ∧ Below w.heap.size W w' ∧ NonB W w') := ⟨fun W V ho hs => by
    have h := putStr_non w.heap.size V (a.ins ++ nb) 0 7 (by omega) (by omega) f2 W ho hs (by rw [List.length_append]; omega) hs2
    rw [List.append_assoc, hnb] at h
    exact h⟩
  have HNB := Bx.mk hnb0
  have HTOT := Bx.mk htot
  have hw : IntKind.u64.wrap (at_ : Int) = (at_ : Int) := u64_keep (by omega) (by omega)
  obtain ⟨ha0, ha, hb⟩ := hQ.reads (G := G) (f1 := f1) (f2 := f2) (by simp)
  obtain ⟨u, hu, hac⟩ := eframe ac hA.z hA.d
  have h0 := (hu 0).symm.trans hA.t0
  have h1 := (hu 1).symm.trans hA.t1
  have h2 := (hu 2).symm.trans hA.t2
  have h8 := (hu 8).symm.trans hA.t8
  have h10 := (hu 10).symm.trans hA.t10
  have h11 := (hu 11).symm.trans hA.t11
  have h12 := (hu 12).symm.trans hA.t12
  have h13 := (hu 13).symm.trans hA.t13
  have h14 := (hu 14).symm.trans hA.t14
  have h15 := (hu 15).symm.trans hA.t15
  have h16 := (hu 16).symm.trans hA2.t16
  have h17 := (hu 17).symm.trans hA2.t17
  have h18 := (hu 18).symm.trans hA2.t18
  rw [hac]
  clear hac hA hA2
  rw [h0, h1, h2, h8, h10, h11, h12, h13, h14, h15, h16, h17, h18]
  clear h0 h1 h2 h8 h10 h11 h12 h13 h14 h15 h16 h17 h18 hu
  conv => arg 2; whnf
  have HC5 := Bx.mk (show a.c ≤ a.T.tot ∧ a.T.tot ≤ 900000 from ⟨hB5, hB4⟩)
  clear hnb hnl hB htot hs1 hs2 hB1 hB4 hB5 hcap hQ hnb0 hfs
  go_upto_if 137 with fail
  go_cut [8] from 138 to 145 (fun s8 w0 => Bx (QS q t (E.at a.T) S w [(G, #[.string f1, .string f2]), (g0, C3)] s8 (a.ins ++ nb) uV a.u aV a.all w0))
  case first =>
    cases nm with
    | true =>
      go_wp2_with fail
      refine (HPRE.out _ rfl).mono ?_
      rintro e w1 ⟨v1, rfl, ho1, b1, n1⟩
      have HQ1 : Bx (QS q t (E.at a.T) S w [(G, #[.string f1, .string f2]), (g0, C3)] v1 (a.ins ++ nb) uV a.u aV a.all w1) := ⟨by have h := HNB.out; rw [if_pos trivial] at h; rw [h]; exact HQ.out.byte ho1 b1 n1⟩
      clear ho1 b1 n1 HNB
      go_wp2_with fail
      go_meet
      exact HQ1
    | false =>
      go_wp2_with fail
      refine HPUN.out.mono ?_
      rintro e w1 ⟨v1, rfl, ho1, b1, n1⟩
      have HQ1 : Bx (QS q t (E.at a.T) S w [(G, #[.string f1, .string f2]), (g0, C3)] v1 (a.ins ++ nb) uV a.u aV a.all w1) := ⟨by have h := HNB.out; (first | rw [if_neg Bool.false_ne_true] at h | rw [if_neg not_false] at h); rw [h]; exact HQ.out.byte ho1 b1 n1⟩
      clear ho1 b1 n1 HNB
      go_wp2_with fail
      go_meet
      exact HQ1
  case rest =>
  clear HQ ha0 ha hb HPRE HPUN HNB
  have HQ0 := hcut
  clear hcut
  obtain ⟨ha0, ha, hb⟩ := HQ0.out.reads (G := G) (f1 := f1) (f2 := f2) (by simp)
  go_wp2_with fail
  refine (HPUT.out _ _ HQ0.out.bytes HQ0.out.size).mono ?_
  rintro e w1 ⟨v1, rfl, ho1, b1, n1⟩
  have HQ1 := Bx.mk (HQ0.out.byte ho1 b1 n1)
  clear ho1 b1 n1 ha0 ha hb
  have HQd := Bx.mk (HQ1.out.keep (Below.refl w1.heap.size w1).drew)
  have HADD := Bx.mk (HQd.out.add (f1, f2) (by omega) (by have := HC5.out; show a.T.tot + 1 ≤ 1000000; omega))
  have HRD : Bx (∀ (E' : Qe) (v : Value) (W : World), QS q t E' S w [(G, #[.string f1, .string f2]), (g0, C3)] v (a.ins ++ insW (f1, f2)) uV a.u aV a.all W → W.cell? ⟨q, 0, none⟩ = some (.pointer (some ⟨t, 0, none⟩)) ∧ W.cell? ⟨G, 0, none⟩ = some (.string f1) ∧ W.cell? ⟨G, 1, none⟩ = some (.string f2)) := ⟨fun E' v W h => h.reads (by simp)⟩
  have hS0 := HRD.out _ _ _ HQd.out
  go_wp2_with fail
  go_region_held (fun W => W.cell? ⟨q, 0, none⟩ = some (.pointer (some ⟨t, 0, none⟩)) ∧ W.cell? ⟨G, 0, none⟩ = some (.string f1) ∧ W.cell? ⟨G, 1, none⟩ = some (.string f2)) (first | assumption) (first
    | (go_at_call 44; refine (HADD.out).mono ?_; rintro e w9 ⟨⟨r9, rfl⟩, h9⟩; have HQ2 := Bx.mk h9; have hS9 := HRD.out _ _ w9 h9))
  clear hS0
  obtain ⟨hd0, hd1, hd2⟩ := hS9
  have hd3 := HQ2.out.total
  have hq3 : QS q t (E.at (a.insd (f1, f2)).T) S w [(G, #[.string f1, .string f2]), (g0, C3)] v1 (a.insd (f1, f2)).ins uV a.u aV a.all w9 := HQ2.out
  have HQ3 := Bx.mk hq3
  rw [show (⟨(E.at a.T).T.add (f1, f2), (E.at a.T).B, (E.at a.T).K, (E.at a.T).op, (E.at a.T).rest, (E.at a.T).err, (E.at a.T).said⟩ : Qe).T.tot = a.T.tot + 1 from HTOT.out] at hd3
  clear HADD HQd HQ1 HQ0 HPUT h9 HRD HQ2 hq3
  obtain ⟨X, hX⟩ := letter (a.T.tot + 1)
  obtain ⟨Y, hY⟩ := letter a.T.tot
  obtain ⟨C, hC⟩ := letter a.c
  have hw1 : IntKind.u64.wrap (X - 1) = Y := by have := HC5.out; rw [show X - 1 = Y from by omega]; exact u64_keep (by omega) (by omega)
  have hw2 : IntKind.u64.wrap (Y + 1) = X := by have := HC5.out; rw [show Y + 1 = X from by omega]; exact u64_keep (by omega) (by omega)
  have HMX : Bx ((max a.c (a.T.tot + 1) : Nat) = X) := ⟨by have := HC5.out; omega⟩
  have hcx : C < X := by have := HC5.out; omega
  have hXY := Bx.mk (And.intro hX hY)
  rw [hX] at hd3
  rw [hC]
  have HCC := Bx.mk hC
  clear hX hY hC
  cases fb with
  | true =>
    go_wp2_with (first
      | (at_builtin; refine wpList_pushL rfl _ _ rfl ⟨1, a.T.tot, (f1, f2)⟩ rfl hXY.out.2 HQ3.out (by omega) rfl rfl ?_; intro v2 w2 hq2; have HQ4 := Bx.mk hq2; clear hq2)
      | (at_builtin; refine wpList_pushU rfl _ _ rfl a.T.tot hXY.out.2 HQ4.out (by show a.u.length ≤ 1000; omega) rfl rfl ?_; intro v3 w3 hq2; have HQ5 := Bx.mk hq2; clear hq2))
    refine Kx.exit ⟨rfl, _, _, _, ⟨rfl, rfl, rfl, rfl, rfl, rfl, rfl, rfl, rfl, ?_, rfl, rfl⟩, HQ5.out.sub (by simp)⟩
    have h1 := HMX.out
    have h2 := HCC.out
    show Value.int .u64 (max C X) = Value.int .u64 ((max a.c (a.T.tot + 1) : Nat) : Int)
    congr 1
    omega
  | false =>
    go_wp2_with fail
    refine Kx.norm ⟨_, _, _, ⟨rfl, rfl, rfl, rfl, rfl, rfl, rfl, rfl, rfl, ?_, rfl, rfl⟩, ⟨rfl, rfl, rfl⟩, HQ3.out⟩
    rw [← HCC.out]
    rfl
end
end Go.Proofs.Yteopmaaghhendaa

/-
  The document's Encode of QPACK, in pieces: a field that is in no table whole; one that may be.
-/
namespace Go.Proofs.Yteopmaaghhendaa
open Go.RowKit Go.Maps
set_option linter.unusedVariables false

section
variable {q t s : Nat} {E : Qe} {S : Nat → Prop} {w wx : World} {lV : Value} {fb : Bool} {g0 k G : Nat} {a : Qa} {f1 f2 : ByteArray} {iV uV aV : Value} {fx : List (Nat × Array Value)} {ins : List UInt8} {us : List Nat} {all : List Ql}

theorem Bd.insd {f : Fd} (h : Bd a) (hf : fsz f ≤ 3000) (hcap : fsz f + 32 ≤ a.T.cap) (hi : a.ins.length ≤ 20000) (ht : a.T.tot < 900000) : Bd (a.insd f) := by
  have htot : (a.T.add f).tot = a.T.tot + 1 := by unfold Tab.add; rw [if_pos hcap]
  have := insW_len f
  refine ⟨?_, h.all, h.u, ?_, ?_⟩
  · show (a.ins ++ insW f).length ≤ 25000
    rw [List.length_append]; omega
  · show (a.T.add f).tot ≤ 900000
    omega
  · show a.c ≤ (a.T.add f).tot
    have := h.c
    omega

set_option maxRecDepth 100000 in
set_option maxHeartbeats 40000000 in
/-- A field that is in no table whole, or may not be used. -/
theorem no_any (ac : Act) (hA : At1 ac q s lV fb g0 iV uV aV a.c k) (at_ : Nat) (nm db : Bool) (hA2 : At2 ac G at_ nm) (h22 : ac.tmps.getD 22 undef = .bool db) (hfs : (findS T3 (f1, f2)).1 = at_ ∧ (findS T3 (f1, f2)).2.1 = nm) (hat : at_ ≤ 99) (hfz : fsz (f1, f2) ≤ 3000)
    (hQ : QS q t (E.at a.T) S w [(G, #[.string f1, .string f2]), (g0, C3)] iV a.ins uV a.u aV a.all wx) (hB : Bd a) (hi : a.ins.length ≤ 20000) (ht : a.T.tot < 900000) :
    Code.wp Try.prog (estmt 22) (Kx (Nx q t s E S w lV fb g0 k (if !db && roomQ E.op E.K a.T (f1, f2) a.u then (if fb then (a.insd (f1, f2)).ref (f1, f2) a.T.tot else (a.insd (f1, f2)).line (litQ (f1, f2))) else a.line (litQ (f1, f2)))) (fun _ _ => False) (fun i ac' w' => i = 1 ∧ Nx q t s E S w lV fb g0 k (if !db && roomQ E.op E.K a.T (f1, f2) a.u then (if fb then (a.insd (f1, f2)).ref (f1, f2) a.T.tot else (a.insd (f1, f2)).line (litQ (f1, f2))) else a.line (litQ (f1, f2))) ac' w')) ac wx := by
  have HQ := Bx.mk hQ
  have HB := Bx.mk hB
  have HFZ := Bx.mk hfz
  have HFS := Bx.mk hfs
  have HAT := Bx.mk hat
  obtain ⟨rb, hrb⟩ : ∃ rb, roomQ E.op E.K a.T (f1, f2) a.u = rb := ⟨_, rfl⟩
  have HCAP : Bx (rb = true → fsz (f1, f2) + 32 ≤ a.T.cap) := ⟨fun h => by rw [h] at hrb; have := (roomQ_size hrb).2.1; omega⟩
  have HBI : Bx (rb = true → Bd (a.insd (f1, f2))) := ⟨fun h => hB.insd hfz (HCAP.out h) hi ht⟩
  have HROOM : Bx (Calls Try.prog 43 #[.pointer (some ⟨q, 0, none⟩), .agg #[.string f1, .string f2], uV] wx fun e w' => e = .returned (.bool rb) ∧ Below wx.heap.size wx w') := ⟨by
    obtain ⟨e, he⟩ := hQ.e8
    have h := room_any he (f1, f2) (by omega) hQ.uses.un
    rw [show roomQ (E.at a.T).op (E.at a.T).K (E.at a.T).T (f1, f2) a.u = rb from hrb] at h
    exact h⟩
  rw [hrb]
  obtain ⟨ha0, ha, hb⟩ := hQ.reads (G := G) (f1 := f1) (f2 := f2) (by simp)
  obtain ⟨u, hu, hac⟩ := eframe ac hA.z hA.d
  have h0 := (hu 0).symm.trans hA.t0
  have h1 := (hu 1).symm.trans hA.t1
  have h2 := (hu 2).symm.trans hA.t2
  have h8 := (hu 8).symm.trans hA.t8
  have h10 := (hu 10).symm.trans hA.t10
  have h11 := (hu 11).symm.trans hA.t11
  have h12 := (hu 12).symm.trans hA.t12
  have h13 := (hu 13).symm.trans hA.t13
  have h14 := (hu 14).symm.trans hA.t14
  have h15 := (hu 15).symm.trans hA.t15
  have h16 := (hu 16).symm.trans hA2.t16
  have h17 := (hu 17).symm.trans hA2.t17
  have h18 := (hu 18).symm.trans hA2.t18
  have h22' := (hu 22).symm.trans h22
  rw [hac]
  clear hac hA hA2 h22
  rw [h0, h1, h2, h8, h10, h11, h12, h13, h14, h15, h16, h17, h18, h22']
  clear h0 h1 h2 h8 h10 h11 h12 h13 h14 h15 h16 h17 h18 h22' hu
  conv => arg 2; whnf
  clear hfs hB hfz hat hQ hi ht hrb
  cases db with
  | true =>
    go_upto_if 136 with fail
    rename_i hKq
    refine wp_cond_false rfl ?_
    refine wp_skip ?_
    refine hKq _ _ ?_
    refine Kx.use (lit_any (iV := iV) (uV := uV) (aV := aV) (a := a) (fb := fb) _ ⟨rfl, rfl, rfl, rfl, rfl, rfl, rfl, rfl, rfl, rfl, rfl, rfl⟩ rfl at_ nm rfl rfl HFS.out HAT.out HQ.out HB.out) ?_ ?_ ?_
    · intro a2 w2 h; exact h
    · intro a2 w2 h; exact h
    · intro i a2 w2 h; exact h.elim
  | false =>
    go_upto_if 136 with (go_at_call 43; refine HROOM.out.mono ?_; rintro e w1 ⟨rfl, b1⟩; have HQ1 := Bx.mk (HQ.out.keep b1); clear b1)
    rename_i hKq
    cases rb with
    | true =>
      refine wp_cond_true rfl ?_
      refine Kx.use (ins_any (iV := iV) (uV := uV) (aV := aV) (a := a) (fb := fb) _ ⟨rfl, rfl, rfl, rfl, rfl, rfl, rfl, rfl, rfl, rfl, rfl, rfl⟩ at_ nm ⟨rfl, rfl, rfl⟩ HFS.out HAT.out (by have := HFZ.out; omega) (HCAP.out rfl) HQ1.out HB.out) ?_ ?_ ?_
      · rintro a2 w2 ⟨rfl, iV2, uV2, aV2, hA3, hA4, hQ3⟩
        refine hKq _ _ ?_
        refine Kx.use (lit_any (a := a.insd (f1, f2)) a2 hA3 hA4.t16 at_ nm hA4.t17 hA4.t18 HFS.out HAT.out hQ3 (HBI.out rfl)) ?_ ?_ ?_
        · intro a3 w3 h; exact h
        · intro a3 w3 h; exact h
        · intro i a3 w3 h; exact h.elim
      · intro a2 w2 h; exact h
      · rintro i a2 w2 ⟨rfl, rfl, h⟩; exact ⟨rfl, h⟩
    | false =>
      refine wp_cond_false rfl ?_
      refine wp_skip ?_
      refine hKq _ _ ?_
      refine Kx.use (lit_any (iV := iV) (uV := uV) (aV := aV) (a := a) (fb := fb) _ ⟨rfl, rfl, rfl, rfl, rfl, rfl, rfl, rfl, rfl, rfl, rfl, rfl⟩ rfl at_ nm rfl rfl HFS.out HAT.out HQ1.out HB.out) ?_ ?_ ?_
      · intro a2 w2 h; exact h
      · intro a2 w2 h; exact h
      · intro i a2 w2 h; exact h.elim
end
end Go.Proofs.Yteopmaaghhendaa

/-
  The document's Encode of QPACK, in pieces: a field that isn't in the static table whole; one round.
-/
namespace Go.Proofs.Yteopmaaghhendaa
open Go.RowKit Go.Maps
set_option linter.unusedVariables false

section
variable {q t s : Nat} {E : Qe} {S : Nat → Prop} {w wx : World} {lV : Value} {fb : Bool} {g0 k G : Nat} {a : Qa} {f1 f2 : ByteArray} {iV uV aV : Value} {fx : List (Nat × Array Value)} {ins : List UInt8} {us : List Nat} {all : List Ql}

theorem QS.known (h : QS q t E S w fx iV ins uV us aV all wx) : wx.cell? ⟨q, 2, none⟩ = some (.int .u64 (E.K : Int)) := by
  obtain ⟨e, he⟩ := h.e8
  obtain ⟨_, _, _, _, _, _, _, _, c2, _⟩ := he.cells
  exact c2
theorem insd_tot {f : Fd} (h : fsz f + 32 ≤ a.T.cap) : (a.insd f).T.tot - 1 = a.T.tot := by
  show (a.T.add f).tot - 1 = a.T.tot
  unfold Tab.add
  rw [if_pos h]
  rfl
theorem qstep_dyn {op : List Qs} {K : Nat} {free : Bool} {f : Fd} (h : (findS T3 f).2.2 = false) {dn : Nat} {db : Bool} (h1 : (findT a.T.l a.T.first f).1 = dn) (h2 : (findT a.T.l a.T.first f).2.2 = db) :
    qstep op K free a f = if db && (decide (dn < K) || free) then a.ref f dn else if !db && roomQ op K a.T f a.u then (if free then (a.insd f).ref f a.T.tot else (a.insd f).line (litQ f)) else a.line (litQ f) := by
  unfold qstep
  rw [h, h1, h2]
  simp only [Bool.false_eq_true, if_false]
  split
  · rfl
  · split
    · rename_i hr
      simp only [Bool.and_eq_true] at hr
      have := (roomQ_size hr.2).2.1
      rw [insd_tot (by omega)]
    · rfl

set_option maxRecDepth 100000 in
set_option maxHeartbeats 40000000 in
/-- A field that is told by its place in the dynamic table. -/
theorem ref_any (ac : Act) (hA : At1 ac q s lV fb g0 iV uV aV a.c k) (h16 : ac.tmps.getD 16 undef = .pointer (some ⟨G, 0, none⟩)) (dn : Nat) (h20 : ac.tmps.getD 20 undef = .int .u64 (dn : Int)) (hdn : dn ≤ 1000000)
    (hQ : QS q t (E.at a.T) S w [(G, #[.string f1, .string f2]), (g0, C3)] iV a.ins uV a.u aV a.all wx) (hB : Bd a) :
    Code.wp Try.prog (estmt 19) (Kx (fun _ _ => False) (fun _ _ => False) (fun i ac' w' => i = 1 ∧ Nx q t s E S w lV fb g0 k (a.ref (f1, f2) dn) ac' w')) ac wx := by
  have HQ := Bx.mk hQ
  have hB2 := hB.u
  have hB3 := hB.all
  have hB4 := hB.tot
  have hB5 := hB.c
  obtain ⟨ha0, ha, hb⟩ := hQ.reads (G := G) (f1 := f1) (f2 := f2) (by simp)
  obtain ⟨u, hu, hac⟩ := eframe ac hA.z hA.d
  have h0 := (hu 0).symm.trans hA.t0
  have h1 := (hu 1).symm.trans hA.t1
  have h2 := (hu 2).symm.trans hA.t2
  have h8 := (hu 8).symm.trans hA.t8
  have h10 := (hu 10).symm.trans hA.t10
  have h11 := (hu 11).symm.trans hA.t11
  have h12 := (hu 12).symm.trans hA.t12
  have h13 := (hu 13).symm.trans hA.t13
  have h14 := (hu 14).symm.trans hA.t14
  have h15 := (hu 15).symm.trans hA.t15
  have h16' := (hu 16).symm.trans h16
  have h20' := (hu 20).symm.trans h20
  rw [hac]
  clear hac hA h16 h20
  rw [h0, h1, h2, h8, h10, h11, h12, h13, h14, h15, h16', h20']
  clear h0 h1 h2 h8 h10 h11 h12 h13 h14 h15 h16' h20' hu
  conv => arg 2; whnf
  obtain ⟨Y, hY⟩ := letter dn
  obtain ⟨X, hX⟩ := letter (dn + 1)
  obtain ⟨C, hC⟩ := letter a.c
  have hw2 : IntKind.u64.wrap (Y + 1) = X := by rw [show Y + 1 = X from by omega]; exact u64_keep (by omega) (by omega)
  have HMX : Bx ((max a.c (dn + 1) : Nat) = max C X) := ⟨by omega⟩
  have HY := Bx.mk hY
  rw [hY, hC]
  clear hX hY hC hB hB4 hB5 hdn hQ
  go_wp2_with (first
    | (at_builtin; refine wpList_pushL rfl _ _ rfl ⟨1, dn, (f1, f2)⟩ rfl HY.out HQ.out (by omega) rfl rfl ?_; intro v2 w2 hq2; have HQ4 := Bx.mk hq2; clear hq2)
    | (at_builtin; refine wpList_pushU rfl _ _ rfl dn HY.out HQ4.out (by omega) rfl rfl ?_; intro v3 w3 hq2; have HQ5 := Bx.mk hq2; clear hq2))
  refine Kx.exit ⟨rfl, _, _, _, ⟨rfl, rfl, rfl, rfl, rfl, rfl, rfl, rfl, rfl, ?_, rfl, rfl⟩, HQ5.out.sub (by simp)⟩
  show Value.int .u64 (max C X) = Value.int .u64 ((max a.c (dn + 1) : Nat) : Int)
  rw [HMX.out]

set_option maxRecDepth 100000 in
set_option maxHeartbeats 40000000 in
/-- A field that isn't in the static table whole. -/
theorem dyn_any (ac : Act) (hA : At1 ac q s lV fb g0 iV uV aV a.c k) (at_ : Nat) (nm : Bool) (hA2 : At2 ac G at_ nm) (hfs : (findS T3 (f1, f2)).1 = at_ ∧ (findS T3 (f1, f2)).2.1 = nm) (hat : at_ ≤ 99) (hfz : fsz (f1, f2) ≤ 3000) (hno : (findS T3 (f1, f2)).2.2 = false)
    (hQ : QS q t (E.at a.T) S w [(G, #[.string f1, .string f2]), (g0, C3)] iV a.ins uV a.u aV a.all wx) (hB : Bd a) (hi : a.ins.length ≤ 20000) (ht : a.T.tot < 900000) :
    Code.wp Try.prog (efrom 17) (Kx (Nx q t s E S w lV fb g0 k (qstep E.op E.K fb a (f1, f2))) (fun _ _ => False) (fun i ac' w' => i = 1 ∧ Nx q t s E S w lV fb g0 k (qstep E.op E.K fb a (f1, f2)) ac' w')) ac wx := by
  have HQ := Bx.mk hQ
  have HB := Bx.mk hB
  have HFZ := Bx.mk hfz
  have HFS := Bx.mk hfs
  have HAT := Bx.mk hat
  have HIT := Bx.mk (And.intro hi ht)
  have hB2 := hB.u
  have hB3 := hB.all
  have hB4 := hB.tot
  have hB5 := hB.c
  obtain ⟨dn, hdn⟩ : ∃ dn, (findT a.T.l a.T.first (f1, f2)).1 = dn := ⟨_, rfl⟩
  obtain ⟨db, hdb⟩ : ∃ db, (findT a.T.l a.T.first (f1, f2)).2.2 = db := ⟨_, rfl⟩
  have HST := Bx.mk (qstep_dyn (op := E.op) (K := E.K) (free := fb) hno hdn hdb)
  obtain ⟨R, hR⟩ : ∃ R, qstep E.op E.K fb a (f1, f2) = R := ⟨_, rfl⟩
  rw [hR] at HST ⊢
  have hdl : db = true → dn < a.T.tot := fun h => by
    obtain ⟨e, he⟩ := hQ.e8
    have := (findT_has (T := a.T) (f := (f1, f2)) (by rw [hdb, h])).below he.ok.len
    rw [hdn] at this
    exact this
  have HDL := Bx.mk hdl
  obtain ⟨x2, hx2⟩ : ∃ x2, (findT a.T.l a.T.first (f1, f2)).2.1 = x2 := ⟨_, rfl⟩
  have HFIND : Bx (∀ W, Below wx.heap.size wx W → Calls Try.prog 42 #[.pointer (some ⟨t, 0, none⟩), .agg #[.string f1, .string f2]] W fun e w' => e = .returned (.tuple #[.int .u64 (dn : Int), .bool x2, .bool db]) ∧ Below W.heap.size W w') := ⟨fun W hW => by
    obtain ⟨e, he⟩ := hQ.rt
    have h := refFind_any ((Wd.rt t _).keep he hW) (f1, f2)
    have e3 : find3 (findT a.T.l a.T.first (f1, f2)) = .tuple #[.int .u64 (dn : Int), .bool x2, .bool db] := by unfold find3; rw [hdn, hx2, hdb]
    rw [show find3 (findT (E.at a.T).T.l (E.at a.T).T.first (f1, f2)) = _ from e3] at h
    exact h⟩
  have HRD : Bx (∀ (W : World), Below wx.heap.size wx W → W.cell? ⟨q, 0, none⟩ = some (.pointer (some ⟨t, 0, none⟩)) ∧ W.cell? ⟨G, 0, none⟩ = some (.string f1) ∧ W.cell? ⟨G, 1, none⟩ = some (.string f2)) := ⟨fun W h => (hQ.keep h).reads (by simp)⟩
  have hS0 := HRD.out wx.drew (Below.refl _ _).drew
  obtain ⟨u, hu, hac⟩ := eframe ac hA.z hA.d
  have h0 := (hu 0).symm.trans hA.t0
  have h1 := (hu 1).symm.trans hA.t1
  have h2 := (hu 2).symm.trans hA.t2
  have h8 := (hu 8).symm.trans hA.t8
  have h10 := (hu 10).symm.trans hA.t10
  have h11 := (hu 11).symm.trans hA.t11
  have h12 := (hu 12).symm.trans hA.t12
  have h13 := (hu 13).symm.trans hA.t13
  have h14 := (hu 14).symm.trans hA.t14
  have h15 := (hu 15).symm.trans hA.t15
  have h16 := (hu 16).symm.trans hA2.t16
  have h17 := (hu 17).symm.trans hA2.t17
  have h18 := (hu 18).symm.trans hA2.t18
  rw [hac]
  clear hac hA hA2
  rw [h0, h1, h2, h8, h10, h11, h12, h13, h14, h15, h16, h17, h18]
  clear h0 h1 h2 h8 h10 h11 h12 h13 h14 h15 h16 h17 h18 hu
  conv => arg 2; whnf
  have HC5 := Bx.mk (show a.c ≤ a.T.tot ∧ a.T.tot ≤ 900000 from ⟨hB5, hB4⟩)
  clear hfs hB hfz hat hQ hi ht hno hdn hdb hx2 hR hdl hB4 hB5
  go_wp2_with fail
  go_region_held (fun W => W.cell? ⟨q, 0, none⟩ = some (.pointer (some ⟨t, 0, none⟩)) ∧ W.cell? ⟨G, 0, none⟩ = some (.string f1) ∧ W.cell? ⟨G, 1, none⟩ = some (.string f2)) (first | assumption) (first
    | (go_at_call 42; refine (HFIND.out _ (Below.refl _ _).drew).mono ?_; rintro e w9 ⟨rfl, b9⟩; have HQ2 := Bx.mk (HQ.out.keep ((Below.refl wx.heap.size wx).drew.trans b9)); have hS9 := HRD.out w9 ((Below.refl wx.heap.size wx).drew.trans b9)))
  clear hS0
  obtain ⟨hd0, hd1, hd2⟩ := hS9
  have hd3 := HQ2.out.known
  clear HFIND HRD HQ b9
  obtain ⟨Y, hY⟩ := letter dn
  obtain ⟨KK, hKK⟩ := letter (E.at a.T).K
  rw [hKK] at hd3
  rw [hY]
  obtain ⟨lb, hlb⟩ : ∃ lb, decide (Y < KK) = lb := ⟨_, rfl⟩
  have HST2 : Bx (R = if db && (lb || fb) then a.ref (f1, f2) dn else if !db && roomQ E.op E.K a.T (f1, f2) a.u then (if fb then (a.insd (f1, f2)).ref (f1, f2) a.T.tot else (a.insd (f1, f2)).line (litQ (f1, f2))) else a.line (litQ (f1, f2))) := ⟨by
    rw [HST.out, ← hlb, show decide (dn < E.K) = decide (Y < KK) from by rw [decide_eq_decide, ← hY, ← hKK]; exact Int.ofNat_lt.symm]⟩
  have HY := Bx.mk hY
  clear HST hKK hY
  have HUSE : Bx (db = true → (lb || fb) = true → ∀ (ac : Act), At1 ac q s lV fb g0 iV uV aV a.c k → ac.tmps.getD 16 undef = .pointer (some ⟨G, 0, none⟩) → ac.tmps.getD 20 undef = .int .u64 (dn : Int) → Code.wp Try.prog (estmt 19) (Kx (fun _ _ => False) (fun _ _ => False) (fun i ac' w' => i = 1 ∧ Nx q t s E S w lV fb g0 k R ac' w')) ac w9) := ⟨fun h1 h2 ac hA h16 h20 => by
    have h := ref_any ac hA h16 dn h20 (by have := HDL.out h1; have := HC5.out; omega) HQ2.out HB.out
    rw [HST2.out, h1, h2]
    exact h⟩
  have HNOT : Bx ((db && (lb || fb)) = false → ∀ (ac : Act), At1 ac q s lV fb g0 iV uV aV a.c k → At2 ac G at_ nm → ac.tmps.getD 22 undef = .bool db → Code.wp Try.prog (estmt 22) (Kx (Nx q t s E S w lV fb g0 k R) (fun _ _ => False) (fun i ac' w' => i = 1 ∧ Nx q t s E S w lV fb g0 k R ac' w')) ac w9) := ⟨fun h1 ac hA hA2 h22 => by
    have h := no_any ac hA at_ nm db hA2 h22 HFS.out HAT.out HFZ.out HQ2.out HB.out HIT.out.1 HIT.out.2
    rw [HST2.out, h1]
    exact h⟩
  clear HST2
  cases db with
  | false =>
    go_upto_if 114 with fail
    rename_i hKq
    refine wp_cond_false rfl ?_
    refine wp_skip ?_
    refine hKq _ _ ?_
    refine Kx.use (HNOT.out rfl _ ⟨rfl, rfl, rfl, rfl, rfl, rfl, rfl, rfl, rfl, rfl, rfl, rfl⟩ ⟨rfl, rfl, rfl⟩ rfl) ?_ ?_ ?_
    · intro a2 w2 h; exact h
    · intro a2 w2 h; exact h
    · intro i a2 w2 h; exact h
  | true =>
    cases lb with
    | true =>
      go_upto_if 114 with fail
      refine wp_cond_true rfl ?_
      refine Kx.use (HUSE.out rfl rfl _ ⟨rfl, rfl, rfl, rfl, rfl, rfl, rfl, rfl, rfl, rfl, rfl, rfl⟩ rfl (by rw [HY.out]; rfl)) ?_ ?_ ?_
      · intro a2 w2 h; exact h.elim
      · intro a2 w2 h; exact h.elim
      · intro i a2 w2 h; exact h
    | false =>
      cases fb with
      | true =>
        go_upto_if 114 with fail
        refine wp_cond_true rfl ?_
        refine Kx.use (HUSE.out rfl rfl _ ⟨rfl, rfl, rfl, rfl, rfl, rfl, rfl, rfl, rfl, rfl, rfl, rfl⟩ rfl (by rw [HY.out]; rfl)) ?_ ?_ ?_
        · intro a2 w2 h; exact h.elim
        · intro a2 w2 h; exact h.elim
        · intro i a2 w2 h; exact h
      | false =>
        go_upto_if 114 with fail
        rename_i hKq
        refine wp_cond_false rfl ?_
        refine wp_skip ?_
        refine hKq _ _ ?_
        refine Kx.use (HNOT.out rfl _ ⟨rfl, rfl, rfl, rfl, rfl, rfl, rfl, rfl, rfl, rfl, rfl, rfl⟩ ⟨rfl, rfl, rfl⟩ rfl) ?_ ?_ ?_
        · intro a2 w2 h; exact h
        · intro a2 w2 h; exact h
        · intro i a2 w2 h; exact h
end
end Go.Proofs.Yteopmaaghhendaa
