/-
  A table alone, and the contract of the statements' known.
-/
import Derived.Test.YtjebemcghikgpaaDnK
namespace Go.Proofs.Ytjebemcghikgpaa
open Go.RowKit Go.Maps
set_option linter.unusedVariables false

/-- The program's table, all that it holds made since block B. -/
def One (B p : Nat) (T : Tab) (w : World) : Prop := ∃ S, Tb p T w S ∧ ∀ k, S k → B ≤ k
section
variable {B p q : Nat} {T T' U : Tab} {w w' : World}
theorem One.keep (h : One B p T w) (hb : Below w.heap.size w w') : One B p T w' := by
  obtain ⟨S, h1, h2⟩ := h
  exact ⟨S, h1.keep hb, h2⟩
theorem One.ok (h : One B p T w) : T.ok := by obtain ⟨S, h1, h2⟩ := h; exact h1.ok
theorem One.turn {S : Nat → Prop} (h2 : ∀ k, S k → B ≤ k) (hB : B ≤ w.heap.size) (ht : Turn (Tb p T') S w w') : One B p T' w' ∧ Below B w w' := by
  obtain ⟨S1, x, s, f⟩ := ht
  exact ⟨⟨S1, x, fun k hk => (s k hk).elim (h2 k) fun h => Nat.le_trans hB h⟩, f.below hB h2⟩
theorem Fs.lits (w : World) (cs : Array Value) (fs : List Fd) (hc : cs.toList = fs.flatMap fvl) (hn : fs.length ≤ 1000) : Fs (w.alloc (.cells cs 24)) (.slice (some ⟨w.heap.size, 0, none⟩) fs.length fs.length) fs := by
  have h := (An.lit (k := 2) w 24 cs fs.length (by rw [← Array.length_toList, hc, fvl_length]) (by unfold maxLen; omega)).rd
  rw [hc] at h
  exact h
theorem One.addLit (h : One B p T w) (hB : B ≤ w.heap.size) (cs : Array Value) (fs : List Fd) (hc : cs.toList = fs.flatMap fvl) (hn : fs.length ≤ 1000) (ht : T.tot + fs.length ≤ 1000000) (hz : ∀ f ∈ fs, fsz f ≤ 1000000) :
    Calls Try.prog 13 #[.pointer (some ⟨p, 0, none⟩), .slice (some ⟨w.heap.size, 0, none⟩) fs.length fs.length] (w.alloc (.cells cs 24)) fun e w' => e = .returned (.int .i64 (T.wents fs : Int)) ∧ One B p (T.adds fs) w' ∧ Below B w w' := by
  obtain ⟨S, h1, h2⟩ := h
  have hb := (Below.refl w.heap.size w).alloc (Nat.le_refl _) (.cells cs 24)
  refine (add_any (h1.keep hb) (Fs.lits w cs fs hc hn) (fun g hg => ?_) ht hz).mono ?_
  · simp only [Value.ownBlock, Option.some.injEq] at hg
    subst hg
    exact ⟨by simp, fun hs => Nat.lt_irrefl _ (h1.lt _ hs)⟩
  · rintro e w2 ⟨rfl, ht2⟩
    obtain ⟨o, b⟩ := One.turn h2 (Nat.le_trans hB hb.size) ht2
    exact ⟨rfl, o, (hb.mono hB).trans b⟩
theorem Two.addLit (h : Two B p q T U w) (hB : B ≤ w.heap.size) (cs : Array Value) (fs : List Fd) (hc : cs.toList = fs.flatMap fvl) (hn : fs.length ≤ 1000) (ht : T.tot + fs.length ≤ 1000000) (hz : ∀ f ∈ fs, fsz f ≤ 1000000) :
    Calls Try.prog 13 #[.pointer (some ⟨p, 0, none⟩), .slice (some ⟨w.heap.size, 0, none⟩) fs.length fs.length] (w.alloc (.cells cs 24)) fun e w' => e = .returned (.int .i64 (T.wents fs : Int)) ∧ Two B p q (T.adds fs) U w' ∧ Below B w w' := by
  obtain ⟨S, S', h1, h2, h3, h4, h5⟩ := h
  have hb := (Below.refl w.heap.size w).alloc (Nat.le_refl _) (.cells cs 24)
  refine (add_any (h1.keep hb) (Fs.lits w cs fs hc hn) (fun g hg => ?_) ht hz).mono ?_
  · simp only [Value.ownBlock, Option.some.injEq] at hg
    subst hg
    exact ⟨by simp, fun hs => Nat.lt_irrefl _ (h1.lt _ hs)⟩
  · rintro e w2 ⟨rfl, ht2⟩
    obtain ⟨o, b⟩ := Two.left (T := T) (h2.keep hb) h3 h4 h5 (Nat.le_trans hB hb.size) ht2
    exact ⟨rfl, o, (hb.mono hB).trans b⟩
theorem Two.addArg (h : Two B p q T U w) (hB : B ≤ w.heap.size) {v : Value} {fs : List Fd} (hv : ∀ W, Below B w W → Fs W v fs) (ht : T.tot + fs.length ≤ 1000000) (hz : ∀ f ∈ fs, fsz f ≤ 1000000) :
    Calls Try.prog 13 #[.pointer (some ⟨p, 0, none⟩), v] w fun e w' => e = .returned (.int .i64 (T.wents fs : Int)) ∧ Two B p q (T.adds fs) U w' ∧ Below B w w' := by
  obtain ⟨S, S', h1, h2, h3, h4, h5⟩ := h
  refine (add_gen h1 (fun W hf => hv W (hf.below hB h4)) ht hz).mono ?_
  rintro e w2 ⟨rfl, ht2⟩
  obtain ⟨o, b⟩ := Two.left (T := T) h2 h3 h4 h5 hB ht2
  exact ⟨rfl, o, b⟩
theorem Two.refAdd (h : Two B p q T U w) (hB : B ≤ w.heap.size) (f : Fd) (hf : fsz f ≤ 1000000) (ht : U.tot + 1 ≤ 1000000) :
    Calls Try.prog 14 #[.pointer (some ⟨q, 0, none⟩), .agg #[.string f.1, .string f.2]] w fun e w' => e = .returned (.int .i64 (U.went (U.room f) : Int)) ∧ Two B p q T (U.add f) w' ∧ Below B w w' := by
  obtain ⟨S, S', h1, h2, h3, h4, h5⟩ := h
  refine (refAdd_any h2 f hf ht).mono ?_
  rintro e w2 ⟨rfl, ht2⟩
  obtain ⟨o, b⟩ := Two.right (U := U) h1 h3 h4 h5 hB ht2
  exact ⟨rfl, o, b⟩
theorem Two.resize (h : Two B p q T U w) (hB : B ≤ w.heap.size) (n : Int) (hn : n ≤ 1000000) :
    Calls Try.prog 11 #[.pointer (some ⟨p, 0, none⟩), .int .i64 n] w fun e w' => e = .returned (.int .i64 (T.went (n.toNat : Int) : Int)) ∧ Two B p q (T.resize n) U w' ∧ Below B w w' := by
  obtain ⟨S, S', h1, h2, h3, h4, h5⟩ := h
  refine (resize_any h1 n hn).mono ?_
  rintro e w2 ⟨rfl, ht2⟩
  obtain ⟨o, b⟩ := Two.left (T := T) h2 h3 h4 h5 hB ht2
  exact ⟨rfl, o, b⟩
theorem One.resize (h : One B p T w) (hB : B ≤ w.heap.size) (n : Int) (hn : n ≤ 1000000) :
    Calls Try.prog 11 #[.pointer (some ⟨p, 0, none⟩), .int .i64 n] w fun e w' => e = .returned (.int .i64 (T.went (n.toNat : Int) : Int)) ∧ One B p (T.resize n) w' ∧ Below B w w' := by
  obtain ⟨S, h1, h2⟩ := h
  refine (resize_any h1 n hn).mono ?_
  rintro e w2 ⟨rfl, ht2⟩
  obtain ⟨o, b⟩ := One.turn h2 hB ht2
  exact ⟨rfl, o, b⟩
theorem Two.refResize (h : Two B p q T U w) (hB : B ≤ w.heap.size) (n : Int) (hn : n ≤ 1000000) :
    Calls Try.prog 12 #[.pointer (some ⟨q, 0, none⟩), .int .i64 n] w fun e w' => e = .returned (.int .i64 (U.went (n.toNat : Int) : Int)) ∧ Two B p q T (U.resize n) w' ∧ Below B w w' := by
  obtain ⟨S, S', h1, h2, h3, h4, h5⟩ := h
  refine (refResize_any h2 n hn).mono ?_
  rintro e w2 ⟨rfl, ht2⟩
  obtain ⟨o, b⟩ := Two.right (U := U) h1 h3 h4 h5 hB ht2
  exact ⟨rfl, o, b⟩
theorem Two.left' (h : Two B p q T U w) : One B p T w := by
  obtain ⟨S, S', h1, h2, h3, h4, h5⟩ := h
  exact ⟨S, h1, h4⟩
theorem One.new (n : Int) (hn : n ≤ 1000000) (w : World) : Calls Try.prog 9 #[.int .i64 n] w fun e w' => ∃ p, e = .returned (.pointer (some ⟨p, 0, none⟩)) ∧ One w.heap.size p (Tab.new n) w' ∧ Below w.heap.size w w' := by
  refine (new_any n w hn).mono ?_
  rintro e w2 ⟨p, S, rfl, h1, h2, h3⟩
  exact ⟨p, rfl, ⟨S, h1, h2⟩, h3⟩
theorem One.newRef (h : One B p T w) (hB : B ≤ w.heap.size) (n : Int) (hn : n ≤ 1000000) : Calls Try.prog 10 #[.int .i64 n] w fun e w' => ∃ q, e = .returned (.pointer (some ⟨q, 0, none⟩)) ∧ Two B p q T (Tab.new n) w' ∧ Below B w w' := by
  obtain ⟨S, h1, h2⟩ := h
  refine (newTable_any n w hn).mono ?_
  rintro e w2 ⟨q, S', rfl, k1, k2, k3⟩
  exact ⟨q, rfl, ⟨S, S', h1.keep k3, k1, fun k hk hk' => by have := h1.lt k hk; have := k2 k hk'; omega, h2, fun k hk => Nat.le_trans hB (k2 k hk)⟩, k3.mono hB⟩
theorem One.size_ (h : One B p T w) : Calls Try.prog 16 #[.pointer (some ⟨p, 0, none⟩)] w fun e w' => e = .returned (.int .i64 (sizeF T.l : Int)) ∧ Below w.heap.size w w' := by obtain ⟨S, h1, _⟩ := h; exact size_any' h1
theorem One.cap_ (h : One B p T w) : Calls Try.prog 17 #[.pointer (some ⟨p, 0, none⟩)] w fun e w' => e = .returned (.int .i64 (T.cap : Int)) ∧ Below w.heap.size w w' := by obtain ⟨S, h1, _⟩ := h; exact cap_any h1
theorem One.len_ (h : One B p T w) : Calls Try.prog 18 #[.pointer (some ⟨p, 0, none⟩)] w fun e w' => e = .returned (.int .i64 (T.l.length : Int)) ∧ Below w.heap.size w w' := by obtain ⟨S, h1, _⟩ := h; exact len_any h1
theorem One.count_ (h : One B p T w) : Calls Try.prog 19 #[.pointer (some ⟨p, 0, none⟩)] w fun e w' => e = .returned (.int .u64 (T.tot : Int)) ∧ Below w.heap.size w w' := by obtain ⟨S, h1, _⟩ := h; exact count_any h1
theorem One.at_ (h : One B p T w) (i : Nat) (hi : i < 18446744073709551616) : Calls Try.prog 21 #[.pointer (some ⟨p, 0, none⟩), .int .u64 (i : Int)] w fun e w' => e = .returned (.tuple #[aggF (entF T.l T.first i), .bool (isF T.l T.first i)]) ∧ Below w.heap.size w w' := by obtain ⟨S, h1, _⟩ := h; exact at_any h1 i hi
theorem One.newest_ (h : One B p T w) (i : Nat) (hi : i < 18446744073709551616) : Calls Try.prog 22 #[.pointer (some ⟨p, 0, none⟩), .int .u64 (i : Int)] w fun e w' => e = .returned (.tuple #[aggF (entN T.l i), .bool (isN T.l i)]) ∧ Below w.heap.size w w' := by obtain ⟨S, h1, _⟩ := h; exact newest_any h1 i hi
theorem One.find_ (h : One B p T w) (f : Fd) (hf : Sized f) : Calls Try.prog 23 #[.pointer (some ⟨p, 0, none⟩), .agg #[.string f.1, .string f.2]] w fun e w' => e = .returned (find3 (findT T.l T.first f)) ∧ Below w.heap.size w w' := by obtain ⟨S, h1, _⟩ := h; exact find_any h1 f hf
end

theorem Tab.adds_snoc : ∀ (l : List Fd) (T : Tab) (f : Fd), T.adds (l ++ [f]) = (T.adds l).add f
  | [], T, f => rfl
  | g :: l, T, f => by simp only [List.cons_append, Tab.adds]; exact Tab.adds_snoc l _ f
theorem Tab.wents_snoc : ∀ (l : List Fd) (T : Tab) (f : Fd), T.wents (l ++ [f]) = T.wents l + (T.adds l).went ((T.adds l).room f)
  | [], T, f => by simp [Tab.wents, Tab.adds]
  | g :: l, T, f => by simp only [List.cons_append, Tab.adds, Tab.wents]; rw [Tab.wents_snoc l _ f]; omega
theorem Tab.adds_tot : ∀ (l : List Fd) (T : Tab), (T.adds l).tot ≤ T.tot + l.length
  | [], T => Nat.le_refl _
  | g :: l, T => by simp only [Tab.adds, List.length_cons]; have := Tab.adds_tot l (T.add g); have := T.add_tot_le g; omega
theorem Tab.adds_take (l : List Fd) (T : Tab) (k : Nat) (hk : k < l.length) : T.adds (l.take (k + 1)) = (T.adds (l.take k)).add l[k] := by rw [List.take_succ_eq_append_getElem hk, Tab.adds_snoc]
theorem Tab.wents_take (l : List Fd) (T : Tab) (k : Nat) (hk : k < l.length) : T.wents (l.take (k + 1)) = T.wents (l.take k) + (T.adds (l.take k)).went ((T.adds (l.take k)).room l[k]) := by rw [List.take_succ_eq_append_getElem hk, Tab.wents_snoc]
theorem u16n {a : Int} (h : (Lit.int .u16 a).wf = true) : ∃ i : Nat, a = (i : Int) ∧ i < 65536 := by
  simp [Lit.wf, IntKind.min, IntKind.max, IntKind.signed, IntKind.bits] at h
  exact ⟨a.toNat, by omega, by omega⟩
theorem u8n {a : Int} (h : (Lit.int .u8 a).wf = true) : ∃ i : Nat, a = (i : Int) ∧ i < 256 := by
  simp [Lit.wf, IntKind.min, IntKind.max, IntKind.signed, IntKind.bits] at h
  exact ⟨a.toNat, by omega, by omega⟩
theorem u64n {a : Int} (h : (Lit.int .u64 a).wf = true) : ∃ i : Nat, a = (i : Int) ∧ i < 18446744073709551616 := by
  simp [Lit.wf, IntKind.min, IntKind.max, IntKind.signed, IntKind.bits] at h
  exact ⟨a.toNat, by omega, by omega⟩
/-- What came in: no string longer than any machine holds. -/
def Small (l : List Fd) : Prop := ∀ f ∈ l, f.1.size ≤ 140737488351232 ∧ f.2.size ≤ 140737488351232

def kA : Fd := (⟨#[97]⟩, ⟨#[98]⟩)
def kC : Fd := (⟨#[99]⟩, ⟨#[]⟩)
def kD : Fd := (⟨#[100]⟩, ⟨#[]⟩)
def K1 : Tab := ⟨[kA, kC], 70, 2⟩
def K2 : Tab := ⟨[kC, kD], 70, 3⟩
theorem known_facts : (Tab.new 70).wents [kA, kC] = 0 ∧ (Tab.new 70).adds [kA, kC] = K1 ∧ K1.wents [kD] = 1 ∧ K1.adds [kD] = K2 := ⟨by kernel_rfl, by kernel_rfl, by kernel_rfl, by kernel_rfl⟩
theorem known_facts2 : entF K2.l K2.first 1 = kC ∧ isF K2.l K2.first 1 = true ∧ entF K2.l K2.first 0 = emp ∧ isF K2.l K2.first 0 = false ∧ entN K2.l 0 = kD ∧ isN K2.l 0 = true ∧ findT K2.l K2.first kC = (1, true, true) ∧ sizeF K2.l = 66 := ⟨by kernel_rfl, by kernel_rfl, by kernel_rfl, by kernel_rfl, by kernel_rfl, by kernel_rfl, by kernel_rfl, by kernel_rfl⟩

set_option maxRecDepth 100000 in
set_option maxHeartbeats 1000000 in
theorem known_any (w : World) : Calls Try.prog 8 #[] w fun e w' => e = .returned (.bool true) ∧ Below w.heap.size w w' := by
  have HK := Bx.mk known_facts
  have HK2 := Bx.mk known_facts2
  have hz : Bx (∀ f ∈ [kA, kC], fsz f ≤ 1000000) := ⟨by intro f hf; simp at hf; rcases hf with rfl | rfl <;> simp [fsz, kA, kC, ByteArray.size]⟩
  have hz2 : Bx (∀ f ∈ [kD], fsz f ≤ 1000000) := ⟨by intro f hf; simp at hf; subst hf; simp [fsz, kD, ByteArray.size]⟩
  go_enter Try.func8, Try.ntmps8
  go_wp2_with fail
  refine (One.new 70 (by omega) w).mono ?_
  rintro e w1 ⟨p, rfl, h1, b1⟩
  have H1 := Bx.mk h1
  have B1 := Bx.mk b1
  clear h1 b1
  go_wp2_with fail
  refine (H1.out.addLit B1.out.size #[.string ⟨#[97]⟩, .string ⟨#[98]⟩, .string ⟨#[99]⟩, .string ⟨#[]⟩] [kA, kC] rfl (by simp) (by simp [Tab.new]) hz.out).mono ?_
  rintro e w2 ⟨rfl, h2, b2⟩
  rw [HK.out.1]
  rw [HK.out.2.1] at h2
  have H2 := Bx.mk h2
  have B2 := Bx.mk (B1.out.trans b2)
  clear h2 b2
  go_wp2_with fail
  refine (H2.out.addLit B2.out.size #[.string ⟨#[100]⟩, .string ⟨#[]⟩] [kD] rfl (by simp) (by simp [K1]) hz2.out).mono ?_
  rintro e w3 ⟨rfl, h3, b3⟩
  rw [HK.out.2.2.1]
  rw [HK.out.2.2.2] at h3
  have H3 := Bx.mk h3
  have B3 := Bx.mk (B2.out.trans b3)
  clear h3 b3
  go_wp2_with fail
  refine (H3.out.at_ 1 (by omega)).mono ?_
  rintro e w4 ⟨rfl, b4⟩
  rw [HK2.out.1, HK2.out.2.1, show aggF kC = .agg #[.string ⟨#[99]⟩, .string ⟨#[]⟩] from rfl]
  have H4 := Bx.mk ((H3.out.keep b4).keep ((Below.refl w4.heap.size w4).alloc (Nat.le_refl _) (.cells #[.string ⟨#[99]⟩, .string ⟨#[]⟩] 24)))
  have B4 := Bx.mk ((B3.out.trans (b4.mono B3.out.size)).alloc (Nat.le_trans B3.out.size b4.size) (.cells #[.string ⟨#[99]⟩, .string ⟨#[]⟩] 24))
  have F4 := Bx.mk (Fb.new 24 w4 kC)
  clear b4
  go_wp2_with fail
  refine (H4.out.at_ 0 (by omega)).mono ?_
  rintro e w5 ⟨rfl, b5⟩
  rw [HK2.out.2.2.1, HK2.out.2.2.2.1, show aggF emp = .agg #[.string ⟨#[]⟩, .string ⟨#[]⟩] from rfl]
  have H5 := Bx.mk ((H4.out.keep b5).keep ((Below.refl w5.heap.size w5).alloc (Nat.le_refl _) (.cells #[.string ⟨#[]⟩, .string ⟨#[]⟩] 24)))
  have B5 := Bx.mk ((B4.out.trans (b5.mono B4.out.size)).alloc (Nat.le_trans B4.out.size b5.size) (.cells #[.string ⟨#[]⟩, .string ⟨#[]⟩] 24))
  have F5 := Bx.mk ((F4.out.keep b5).alloc (.cells #[.string ⟨#[]⟩, .string ⟨#[]⟩] 24))
  clear b5
  go_wp2_with fail
  refine (H5.out.newest_ 0 (by omega)).mono ?_
  rintro e w6 ⟨rfl, b6⟩
  rw [HK2.out.2.2.2.2.1, HK2.out.2.2.2.2.2.1, show aggF kD = .agg #[.string ⟨#[100]⟩, .string ⟨#[]⟩] from rfl]
  have H6 := Bx.mk ((H5.out.keep b6).keep ((Below.refl w6.heap.size w6).alloc (Nat.le_refl _) (.cells #[.string ⟨#[100]⟩, .string ⟨#[]⟩] 24)))
  have B6 := Bx.mk ((B5.out.trans (b6.mono B5.out.size)).alloc (Nat.le_trans B5.out.size b6.size) (.cells #[.string ⟨#[100]⟩, .string ⟨#[]⟩] 24))
  have F6 := Bx.mk ((F5.out.keep b6).alloc (.cells #[.string ⟨#[100]⟩, .string ⟨#[]⟩] 24))
  have F6d := Bx.mk (Fb.new 24 w6 kD)
  clear b6
  go_wp2_with fail
  refine (H6.out.find_ kC (by unfold Sized kC maxLen; simp [ByteArray.size])).mono ?_
  rintro e w7 ⟨rfl, b7⟩
  rw [HK2.out.2.2.2.2.2.2.1, show find3 (1, true, true) = .tuple #[.int .u64 1, .bool true, .bool true] from rfl]
  have H7 := Bx.mk (H6.out.keep b7)
  have B7 := Bx.mk (B6.out.trans (b7.mono B6.out.size))
  have F7 := Bx.mk (F6.out.keep b7)
  have F7d := Bx.mk (F6d.out.keep b7)
  obtain ⟨e1, e2⟩ := F7.out.cells
  obtain ⟨e3, e4⟩ := F7d.out.cells
  clear b7
  have hs1 : kC.1.toList = [99] := by rw [Lib.toList_data]; rfl
  have hs2 : kD.1.toList = [100] := by rw [Lib.toList_data]; rfl
  go_wp2_with fail
  refine (H7.out.size_).mono ?_
  rintro e w8 ⟨rfl, b8⟩
  rw [HK2.out.2.2.2.2.2.2.2]
  have H8 := Bx.mk (H7.out.keep b8)
  have B8 := Bx.mk (B7.out.trans (b8.mono B7.out.size))
  clear b8
  go_wp2_with fail
  refine (H8.out.len_).mono ?_
  rintro e w9 ⟨rfl, b9⟩
  rw [show K2.l.length = 2 from rfl]
  have H9 := Bx.mk (H8.out.keep b9)
  have B9 := Bx.mk (B8.out.trans (b9.mono B8.out.size))
  clear b9
  go_wp2_with fail
  refine (H9.out.count_).mono ?_
  rintro e w10 ⟨rfl, b10⟩
  rw [show K2.tot = 3 from rfl]
  have H10 := Bx.mk (H9.out.keep b10)
  have B10 := Bx.mk (B9.out.trans (b10.mono B9.out.size))
  clear b10
  go_wp2_with fail
  refine (H10.out.cap_).mono ?_
  rintro e w11 ⟨rfl, b11⟩
  rw [show K2.cap = 70 from rfl]
  have B11 := Bx.mk (B10.out.trans (b11.mono B10.out.size))
  clear b11
  go_wp2_with fail
  go_ret
  exact ⟨rfl, B11.out⟩

end Go.Proofs.Ytjebemcghikgpaa
