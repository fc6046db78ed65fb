/-
  Texts put together: PdI, Piece, PdJ, PdK, PdL.
-/
import Derived.Test.YtejkbibahbcofaaM21
import Derived.Test.YtejkbibahbcofaaM01
import Derived.Deep.LoopGhost

/-
  Contracts of isUpdate, the draft's field.
-/
namespace Go.Proofs.Ytejkbibahbcofaa
open Go.RowKit Go.Maps
set_option linter.unusedVariables false

set_option maxRecDepth 100000 in
set_option maxHeartbeats 1000000 in
theorem isUpdate_any (c : Nat) (hc : c < 256) (w : World) : Calls Try.prog 49 #[.int .u8 (c : Int)] w fun e w' => e = .returned (.bool (decide (c / 32 = 1))) ∧ w = w' := by
  have h1 : ((c : Int) / 2 ^ 5) = ((c / 32 : Nat) : Int) := by omega
  have h2 : ((c : Int) / 32) = ((c / 32 : Nat) : Int) := by omega
  obtain ⟨q, hq⟩ : ∃ q, c / 32 = q := ⟨_, rfl⟩
  rw [hq] at h1 h2 ⊢
  by_cases h : q = 1
  · subst h
    go_enter Try.func49, Try.ntmps49
    go_wp2_with fail
    go_ret
    exact ⟨rfl, rfl⟩
  · have hd : ((q : Int) == 1) = false := by simp; omega
    have hd2 : decide (q = 1) = false := decide_eq_false h
    rw [hd2]
    go_enter Try.func49, Try.ntmps49
    go_wp2_with fail
    go_ret
    exact ⟨rfl, rfl⟩

section
variable {w0 w w' : World} {p t0 mx : Nat} {T0 T : Tab} {ss : List Nat} {ad out : List Fd} {b : List UInt8}

/-- What a line of a field comes to. -/
def FPost (w0 : World) (p t0 : Nat) (T0 : Tab) (mx : Nat) (x : Option Ls) (e : Ending) (w' : World) : Prop :=
  match x with
  | none => e = .returned (.bool false) ∧ Below w0.heap.size w0 w'
  | some s => e = .returned (.bool true) ∧ Df w0 p t0 T0 mx (owned s.ss s.ad) s.T s.ss s.ad s.out s.b w'
theorem indexed_post (h : Df w0 p t0 T0 mx (owned ss ad) T ss ad out b w) (hl : b.length ≤ 100000) (ho : out.length < 64) :
    Calls Try.prog 65 #[.pointer (some ⟨p, 0, none⟩)] w fun e w' => FPost w0 p t0 T0 mx (ixStep ⟨T, ss, ad, out, b⟩) e w' := by
  unfold ixStep
  cases hn : numP 7 b with
  | none =>
    refine (indexed_num h hl hn).mono ?_
    rintro e w' ⟨rfl, hb⟩
    simp only
    exact ⟨rfl, hb⟩
  | some pr =>
    obtain ⟨i, r⟩ := pr
    refine (indexed_any h hl ho hn).mono ?_
    rintro e w' ⟨rfl, hd⟩
    simp only
    cases hb : idxB T.l i with
    | true => rw [if_pos rfl]; exact ⟨rfl, hd⟩
    | false => rw [if_neg (by simp)]; exact ⟨rfl, hd.bel⟩
theorem add_post (h : Df w0 p t0 T0 mx (owned ss ad) T ss ad out b w) (hl : b.length ≤ 100000) (hg : T.gd) (hss : ss.length ≤ 2) (had : ad.length ≤ 64) (ho : out.length < 64) (htot : T0.tot + 300 ≤ 1000000) :
    Calls Try.prog 66 #[.pointer (some ⟨p, 0, none⟩), .int .i64 6, .bool true] w fun e w' => FPost w0 p t0 T0 mx (adStep ⟨T, ss, ad, out, b⟩) e w' := by
  have hL : sizeF T.l ≤ 4096 := Nat.le_trans hg.2 hg.1
  unfold adStep
  cases hn : litP 6 T.l b with
  | none =>
    refine (literal_none h hl hL 6 (by omega) true hn).mono ?_
    rintro e w' ⟨rfl, hb⟩
    simp only
    exact ⟨rfl, hb⟩
  | some pr =>
    obtain ⟨f, r⟩ := pr
    refine (literal_add h hl hg hss had ho htot 6 (by omega) hn).mono ?_
    rintro e w' ⟨rfl, hd⟩
    simp only
    refine ⟨rfl, ?_⟩
    rw [owned_more]
    exact hd
theorem plain_post (h : Df w0 p t0 T0 mx (owned ss ad) T ss ad out b w) (hl : b.length ≤ 100000) (hL : sizeF T.l ≤ 4096) (ho : out.length < 64) :
    Calls Try.prog 66 #[.pointer (some ⟨p, 0, none⟩), .int .i64 4, .bool false] w fun e w' => FPost w0 p t0 T0 mx (plStep ⟨T, ss, ad, out, b⟩) e w' := by
  unfold plStep
  cases hn : litP 4 T.l b with
  | none =>
    refine (literal_none h hl hL 4 (by omega) false hn).mono ?_
    rintro e w' ⟨rfl, hb⟩
    simp only
    exact ⟨rfl, hb⟩
  | some pr =>
    obtain ⟨f, r⟩ := pr
    refine (literal_plain h hl hL ho 4 (by omega) hn).mono ?_
    rintro e w' ⟨rfl, hd⟩
    simp only
    exact ⟨rfl, hd⟩
theorem FPost.bool {x : Option Ls} {e : Ending} {w' : World} (h : FPost w0 p t0 T0 mx x e w') : e = .returned (.bool x.isSome) := by
  cases x with
  | none => exact h.1
  | some s => exact h.1
/-- The post without its answer. -/
def FMem (w0 : World) (p t0 : Nat) (T0 : Tab) (mx : Nat) (x : Option Ls) (w' : World) : Prop :=
  match x with
  | none => Below w0.heap.size w0 w'
  | some s => Df w0 p t0 T0 mx (owned s.ss s.ad) s.T s.ss s.ad s.out s.b w'
theorem FPost.mem {x : Option Ls} {e : Ending} {w' : World} (h : FPost w0 p t0 T0 mx x e w') : FMem w0 p t0 T0 mx x w' := by
  cases x with
  | none => exact h.2
  | some s => exact h.2

set_option maxRecDepth 100000 in
set_option maxHeartbeats 1000000 in
theorem field_any (h : Df w0 p t0 T0 mx (owned ss ad) T ss ad out b w) (hb : b ≠ []) (hl : b.length ≤ 100000) (hg : T.gd) (hss : ss.length ≤ 2) (had : ad.length ≤ 64) (ho : out.length < 64) (htot : T0.tot + 300 ≤ 1000000) :
    Calls Try.prog 51 #[.pointer (some ⟨p, 0, none⟩)] w fun e w' => e = .returned (.bool (if isUp b then none else fdStep ⟨T, ss, ad, out, b⟩).isSome) ∧ FMem w0 p t0 T0 mx (if isUp b then none else fdStep ⟨T, ss, ad, out, b⟩) w' := by
  have hL : sizeF T.l ≤ 4096 := Nat.le_trans hg.2 hg.1
  have HIX := Bx.mk (indexed_post h hl ho)
  have HAD := Bx.mk (add_post h hl hg hss had ho htot)
  have HPL := Bx.mk (plain_post h hl hL ho)
  have HBEL := Bx.mk h.bel
  obtain ⟨rv, tp, fv, sv, av, S, h⟩ := h
  obtain ⟨c0, _⟩ := h.cells
  obtain ⟨c, r, rfl⟩ : ∃ c r, b = c :: r := by
    cases b with
    | nil => exact absurd rfl hb
    | cons c r => exact ⟨c, r, rfl⟩
  obtain ⟨q, hix, hcp⟩ := h.bytes.at_ 0 (by simp)
  have hcell := hcp w h.bytes
  simp only [List.getElem_cons_zero] at hcell
  have hc := c.toNat_lt
  have hix0 : ∀ W : World, (Instr.indexAt 24 rv (.int .i64 0)).run Try.prog W = .ok (.pointer (some q)) W := hix
  have hup : isUp (c :: r) ↔ c.toNat / 32 = 1 := Iff.rfl
  have hhd : headN (c :: r) = c.toNat := rfl
  clear h hix hcp hl hg hss had ho htot hL hb
  by_cases h128 : 128 ≤ c.toNat
  · have hX : (if isUp (c :: r) then none else fdStep ⟨T, ss, ad, out, c :: r⟩) = ixStep ⟨T, ss, ad, out, c :: r⟩ := by
      rw [if_neg (by rw [hup]; omega)]; unfold fdStep; rw [if_pos (by show 128 ≤ headN (c :: r); rw [hhd]; exact h128)]
    rw [hX]
    have e7 : ((c.toNat : Int) / 2 ^ 7) = 1 := by omega
    have e7' : ((c.toNat : Int) / 128) = 1 := by omega
    clear hX hup hhd HAD HPL
    obtain ⟨cn, hcn⟩ : ∃ cn, c.toNat = cn := ⟨_, rfl⟩
    rw [hcn] at hcell e7 e7'
    clear hcn h128 hc
    go_enter Try.func51, Try.ntmps51
    go_wp2_with fail
    refine HIX.out.mono ?_
    rintro e w1 hp
    obtain rfl := hp.bool
    have HM := Bx.mk hp.mem
    clear hp
    go_wp2_with fail
    go_ret
    exact ⟨rfl, HM.out⟩
  · have e7 : ((c.toNat : Int) / 2 ^ 7) = 0 := by omega
    have e7' : ((c.toNat : Int) / 128) = 0 := by omega
    by_cases h64 : 64 ≤ c.toNat
    · have hX : (if isUp (c :: r) then none else fdStep ⟨T, ss, ad, out, c :: r⟩) = adStep ⟨T, ss, ad, out, c :: r⟩ := by
        rw [if_neg (by rw [hup]; omega)]; unfold fdStep; rw [if_neg (by show ¬ 128 ≤ headN (c :: r); rw [hhd]; exact h128), if_pos (by show 64 ≤ headN (c :: r); rw [hhd]; exact h64)]
      rw [hX]
      have e6 : ((c.toNat : Int) / 2 ^ 6) = 1 := by omega
      have e6' : ((c.toNat : Int) / 64) = 1 := by omega
      clear hX hup hhd HIX HPL
      obtain ⟨cn, hcn⟩ : ∃ cn, c.toNat = cn := ⟨_, rfl⟩
      rw [hcn] at hcell e7 e7' e6 e6'
      clear hcn h128 hc h64
      go_enter Try.func51, Try.ntmps51
      go_wp2_with fail
      refine HAD.out.mono ?_
      rintro e w1 hp
      obtain rfl := hp.bool
      have HM := Bx.mk hp.mem
      clear hp
      go_wp2_with fail
      go_ret
      exact ⟨rfl, HM.out⟩
    · have e6 : ((c.toNat : Int) / 2 ^ 6) = 0 := by omega
      have e6' : ((c.toNat : Int) / 64) = 0 := by omega
      have HIS := Bx.mk (fun W => isUpdate_any c.toNat hc W)
      by_cases h32 : c.toNat / 32 = 1
      · have hX : (if isUp (c :: r) then none else fdStep ⟨T, ss, ad, out, c :: r⟩) = none := by rw [if_pos (hup.2 h32)]
        rw [hX]
        have hd : decide (c.toNat / 32 = 1) = true := decide_eq_true h32
        rw [hd] at HIS
        clear hX hup hhd HIX HPL HAD
        obtain ⟨cn, hcn⟩ : ∃ cn, c.toNat = cn := ⟨_, rfl⟩
        rw [hcn] at hcell e7 e7' e6 e6' HIS
        clear hcn h128 hc h64 h32 hd
        go_enter Try.func51, Try.ntmps51
        go_wp2_with fail
        refine (HIS.out _).mono ?_
        rintro e w1 ⟨rfl, rfl⟩
        go_wp2_with fail
        go_ret
        exact ⟨rfl, HBEL.out⟩
      · have hX : (if isUp (c :: r) then none else fdStep ⟨T, ss, ad, out, c :: r⟩) = plStep ⟨T, ss, ad, out, c :: r⟩ := by
          rw [if_neg (by rw [hup]; exact h32)]; unfold fdStep; rw [if_neg (by show ¬ 128 ≤ headN (c :: r); rw [hhd]; exact h128), if_neg (by show ¬ 64 ≤ headN (c :: r); rw [hhd]; exact h64)]
        rw [hX]
        have hd : decide (c.toNat / 32 = 1) = false := decide_eq_false h32
        rw [hd] at HIS
        clear hX hup hhd HIX HAD
        obtain ⟨cn, hcn⟩ : ∃ cn, c.toNat = cn := ⟨_, rfl⟩
        rw [hcn] at hcell e7 e7' e6 e6' HIS
        clear hcn h128 hc h64 h32 hd
        go_enter Try.func51, Try.ntmps51
        go_wp2_with fail
        refine (HIS.out _).mono ?_
        rintro e w1 ⟨rfl, rfl⟩
        go_wp2_with fail
        refine HPL.out.mono ?_
        rintro e w1 hp
        obtain rfl := hp.bool
        have HM := Bx.mk hp.mem
        clear hp
        go_wp2_with fail
        go_ret
        exact ⟨rfl, HM.out⟩
end

end Go.Proofs.Ytejkbibahbcofaa

/-
  A great function, walked in pieces: the code from a region on, the two ways of an if, a loop's body; a frame out of its slots. No program is named here.
-/
namespace Go.Proofs.Ytejkbibahbcofaa
open Go.RowKit
set_option linter.unusedVariables false

/-- The code that stands from region n on. -/
def fromR (n : Nat) : Code → Option Code
  | .region m ops d => if m = n then some (.region m ops d) else none
  | .seq (.region m ops d) y => if m = n then some (.seq (.region m ops d) y) else fromR n y
  | .seq x y => match fromR n x with
    | some c => some c
    | none => fromR n y
  | .block _ c => fromR n c
  | .loop c => fromR n c
  | .scope c => fromR n c
  | .cond _ x y => match fromR n x with
    | some c => some c
    | none => fromR n y
  | _ => none
def firstR : Code → Option Nat
  | .region m _ _ => some m
  | .seq x _ => firstR x
  | .block _ c => firstR c
  | .loop c => firstR c
  | .scope c => firstR c
  | _ => none
/-- The code that stands from the statement on that begins with region n. -/
def fromS (n : Nat) : Code → Option Code
  | .seq x y => if firstR x = some n then some (.seq x y) else match fromS n x with
    | some c => some c
    | none => fromS n y
  | .block _ c => fromS n c
  | .loop c => fromS n c
  | .scope c => fromS n c
  | .cond _ x y => match fromS n x with
    | some c => some c
    | none => fromS n y
  | _ => none
/-- The if that asks slot n. -/
def condAt (n : Nat) : Code → Option Code
  | .cond (.tmp m) x y => if m = n then some (.cond (.tmp m) x y) else match condAt n x with
    | some c => some c
    | none => condAt n y
  | .cond _ x y => match condAt n x with
    | some c => some c
    | none => condAt n y
  | .seq x y => match condAt n x with
    | some c => some c
    | none => condAt n y
  | .block _ c => condAt n c
  | .loop c => condAt n c
  | .scope c => condAt n c
  | _ => none
/-- The body of loop n, counted from 0 in the text's order, inner ones behind their outer one. -/
def loopAt : Nat → Code → Option Code × Nat
  | n, .loop c => if n = 0 then (some c, 0) else loopAt (n - 1) c
  | n, .seq x y => match loopAt n x with
    | (some c, m) => (some c, m)
    | (none, m) => loopAt m y
  | n, .block _ c => loopAt n c
  | n, .scope c => loopAt n c
  | n, .cond _ x y => match loopAt n x with
    | (some c, m) => (some c, m)
    | (none, m) => loopAt m y
  | n, _ => (none, n)

theorem list_eta (n : Nat) (l : List Value) (h : l.length = n) : l = (List.range n).map fun i => l.getD i undef := by
  subst h
  apply List.ext_getElem
  · simp
  · intro i h1 h2
    simp [List.getElem?_eq_getElem h1]
theorem frame_eta (n : Nat) (a : Act) (hs : a.tmps.size = n) (hd : a.defers = []) : a = ⟨((List.range n).map fun i => a.tmps.getD i undef).toArray, []⟩ := by
  obtain ⟨⟨l⟩, d⟩ := a
  simp only at hd
  subst hd
  have := list_eta n l (by simpa using hs)
  congr 1
  conv => lhs; rw [this]
  congr 1
  apply List.map_congr_left
  intro i _
  simp [Array.getD, List.getD_eq_getElem?_getD]
  split
  · rename_i h; simp [List.getElem?_eq_getElem h]
  · rename_i h; simp [List.getElem?_eq_none (Nat.le_of_not_lt h)]

/-- What a piece comes to: at its end, at a return, at an exit; it never panics. -/
def Kx (N R : Act → World → Prop) (E : Nat → Act → World → Prop) : Exit → Act → World → Prop
  | .normal, a, w => N a w
  | .ret, a, w => R a w
  | .exit i, a, w => E i a w
  | _, _, _ => False
section
variable {N R : Act → World → Prop} {E : Nat → Act → World → Prop} {a : Act} {w : World}
theorem Kx.norm (h : N a w) : Kx N R E .normal a w := h
theorem Kx.ret (h : R a w) : Kx N R E .ret a w := h
theorem Kx.exit {i : Nat} (h : E i a w) : Kx N R E (.exit i) a w := h
end
theorem Kx.use {P : Program} {c : Code} {a : Act} {w : World} {N R : Act → World → Prop} {E : Nat → Act → World → Prop} {K : Exit → Act → World → Prop} (h : c.wp P (Kx N R E) a w)
    (hn : ∀ a' w', N a' w' → K .normal a' w') (hr : ∀ a' w', R a' w' → K .ret a' w') (he : ∀ i a' w', E i a' w' → K (.exit i) a' w') : c.wp P K a w := by
  refine wp_mono h ?_
  intro e a' w' hk
  cases e with
  | normal => exact hn a' w' hk
  | ret => exact hr a' w' hk
  | exit i => exact he i a' w' hk
  | goto l => exact hk.elim
  | panic ch => exact hk.elim
  | outgrown => exact hk.elim

end Go.Proofs.Ytejkbibahbcofaa

/-
  Contract of the draft's read, in pieces.
-/
namespace Go.Proofs.Ytejkbibahbcofaa
open Go.RowKit Go.Maps
set_option linter.unusedVariables false

noncomputable def rcode : Code := (Try.f33).body.getD .skip
noncomputable def rfrom (n : Nat) : Code := (fromR n rcode).getD .skip
noncomputable def rstmt (n : Nat) : Code := (fromS n rcode).getD .skip
noncomputable def rcond (n : Nat) : Code := (condAt n rcode).getD .skip
noncomputable def rloop (n : Nat) : Code := ((loopAt n rcode).1).getD .skip

set_option maxRecDepth 1000000 in
theorem rframe (a : Act) (hs : a.tmps.size = 49) (hd : a.defers = []) : ∃ u : Nat → Value, (∀ i, a.tmps.getD i undef = u i) ∧ a = ⟨#[u 0, u 1, u 2, u 3, u 4, u 5, u 6, u 7, u 8, u 9, u 10, u 11, u 12, u 13, u 14, u 15, u 16, u 17, u 18, u 19, u 20, u 21, u 22, u 23, u 24, u 25, u 26, u 27, u 28, u 29, u 30, u 31, u 32, u 33, u 34, u 35, u 36, u 37, u 38, u 39, u 40, u 41, u 42, u 43, u 44, u 45, u 46, u 47, u 48], []⟩ :=
  ⟨fun i => a.tmps.getD i undef, fun _ => rfl, frame_eta 49 a hs hd⟩

structure At33 (a : Act) (p : Nat) (must : Bool) : Prop where
  d : a.defers = []
  s : a.tmps.size = 49
  t0 : a.tmps.getD 0 undef = .pointer (some ⟨p, 0, none⟩)
  t1 : a.tmps.getD 1 undef = .bool must
/-- Between two lines. -/
structure Rr (w0 : World) (p t0 : Nat) (T0 : Tab) (mx : Nat) (must : Bool) (l : List UInt8) (T1 : Tab) (ss : List Nat) (ad out : List Fd) (b : List UInt8) (wx : World) : Prop where
  df : Df w0 p t0 T0 mx (owned ss ad) T1 ss ad out b wx
  inv : Ls.inv mx T0 ⟨T1, ss, ad, out, b⟩
  run : lrun mx must ⟨T1, ss, ad, out, b⟩ = lrun mx must ⟨T0, [], [], [], l⟩
  len : b.length ≤ 100000
  mx4 : mx ≤ 4096
  tot : T0.tot + 300 ≤ 1000000
section
variable {w0 w wx : World} {p t0 mx : Nat} {T0 T1 : Tab} {must : Bool} {l : List UInt8} {ss : List Nat} {ad out : List Fd} {b : List UInt8}
theorem rnext_of (hmx : mx ≤ 4096) {s s' : Ls} {R : Option Ls} (hi : s.inv mx T0) (hr : lrun mx must s = R) (hb : s.b ≠ []) (hs : lstep mx must s = some s') : s'.inv mx T0 ∧ s'.b.length < s.b.length ∧ lrun mx must s' = R := by
  obtain ⟨h1, h2⟩ := inv_step hmx hi hs
  exact ⟨h1, h2, by rw [← hr, lrun_next hb hs h2]⟩
theorem Rr.none_ (h : Rr w0 p t0 T0 mx must l T1 ss ad out b wx) (hb : b ≠ []) (hs : lstep mx must ⟨T1, ss, ad, out, b⟩ = none) : ldec mx must T0 l = none := by
  unfold ldec
  rw [← h.run, lrun_bad hb hs]
theorem Rr.end_ (h : Rr w0 p t0 T0 mx must l T1 ss ad out [] wx) : ldec mx must T0 l = if must = true ∧ ss = [] then none else some ⟨T1, ss, ad, out, []⟩ := by
  unfold ldec
  rw [← h.run, lrun_nil rfl]
theorem Rr.next (h : Rr w0 p t0 T0 mx must l T1 ss ad out b wx) (hb : b ≠ []) {s' : Ls} (hs : lstep mx must ⟨T1, ss, ad, out, b⟩ = some s') (hd : Df w0 p t0 T0 mx (owned s'.ss s'.ad) s'.T s'.ss s'.ad s'.out s'.b w) :
    Rr w0 p t0 T0 mx must l s'.T s'.ss s'.ad s'.out s'.b w ∧ s'.b.length < b.length := by
  obtain ⟨h1, h2, h3⟩ := rnext_of h.mx4 h.inv h.run hb hs
  simp only at h2
  exact ⟨⟨hd, h1, h3, by have := h.len; omega, h.mx4, h.tot⟩, h2⟩
/-- A return with what read comes to. -/
def REnds (w0 : World) (p t0 : Nat) (T0 : Tab) (mx : Nat) (must : Bool) (l : List UInt8) (a : Act) (w' : World) : Prop :=
  a.defers = [] ∧ FPost w0 p t0 T0 mx (ldec mx must T0 l) (.returned (a.tmps.getD 4 undef)) w'
theorem rends_none {a : Act} {w' : World} (h0 : a.defers = []) (h1 : a.tmps.getD 4 undef = .bool false) (h2 : ldec mx must T0 l = none) (h3 : Below w0.heap.size w0 w') : REnds w0 p t0 T0 mx must l a w' := by
  refine ⟨h0, ?_⟩
  rw [h1, h2]
  exact ⟨rfl, h3⟩
/-- The next line of the sizes. -/
def RGoes1 (w0 : World) (p t0 : Nat) (T0 : Tab) (mx : Nat) (must : Bool) (l : List UInt8) (n : Nat) (a : Act) (w' : World) : Prop :=
  ∃ T1 ss b, At33 a p must ∧ Rr w0 p t0 T0 mx must l T1 ss [] [] b w' ∧ b.length < n
/-- The next line of the fields. -/
def RGoes2 (w0 : World) (p t0 : Nat) (T0 : Tab) (mx : Nat) (must : Bool) (l : List UInt8) (n : Nat) (a : Act) (w' : World) : Prop :=
  ∃ T1 ss ad out b, At33 a p must ∧ Rr w0 p t0 T0 mx must l T1 ss ad out b w' ∧ out ≠ [] ∧ ¬ (must = true ∧ ss = []) ∧ b.length < n

set_option maxRecDepth 100000 in
set_option maxHeartbeats 40000000 in
theorem round1N_any (a : Act) (hA : At33 a p must) (hR : Rr w0 p t0 T0 mx must l T1 ss [] [] b wx) (hb : b = [] ∨ ¬ isUp b) :
    Code.wp Try.prog (rloop 0) (Kx (fun _ _ => False) (fun _ _ => False) (fun i a' w' => i = 0 ∧ At33 a' p must ∧ w' = wx)) a wx := by
  obtain ⟨rv, tp, fv, sv, av, S, hd⟩ := hR.df
  obtain ⟨c0, _⟩ := hd.cells
  have hlen := fun ty W => hd.bytes.run_len ty W
  cases b with
  | nil =>
    clear hd
    obtain ⟨u, hu, ha⟩ := rframe a hA.s hA.d
    have h0 := (hu 0).symm.trans hA.t0
    have h1 := (hu 1).symm.trans hA.t1
    rw [ha]
    clear ha hA
    rw [h0, h1]
    clear h0 h1 hu
    conv => arg 2; whnf
    go_wp2_with fail
    exact Kx.exit ⟨rfl, ⟨rfl, rfl, rfl, rfl⟩, rfl⟩
  | cons c r =>
    obtain ⟨q, hix, hcp⟩ := hd.bytes.at_ 0 (by simp)
    have hcell := hcp wx hd.bytes
    simp only [List.getElem_cons_zero] at hcell
    have hix0 : ∀ W : World, (Instr.indexAt 24 rv (.int .i64 0)).run Try.prog W = .ok (.pointer (some q)) W := hix
    have hup : ¬ c.toNat / 32 = 1 := by
      rcases hb with h | h
      · cases h
      · exact h
    have HIS := Bx.mk (fun W => isUpdate_any c.toNat c.toNat_lt W)
    rw [decide_eq_false hup] at HIS
    obtain ⟨nl, hnl⟩ : ∃ nl, (c :: r).length = nl := ⟨_, rfl⟩
    rw [hnl] at hlen
    have hnl0 : 0 < nl := by rw [← hnl]; simp
    have hdl : decide ((0 : Int) < (nl : Int)) = true := decide_eq_true (by omega)
    have hdl' : decide (0 < nl) = true := decide_eq_true hnl0
    obtain ⟨cn, hcn⟩ : ∃ cn, c.toNat = cn := ⟨_, rfl⟩
    rw [hcn] at hcell HIS
    obtain ⟨u, hu, ha⟩ := rframe a hA.s hA.d
    have h0 := (hu 0).symm.trans hA.t0
    have h1 := (hu 1).symm.trans hA.t1
    rw [ha]
    clear ha hA
    rw [h0, h1]
    clear h0 h1 hu
    conv => arg 2; whnf
    clear hd hix hcp hcn hnl hup hb
    go_wp2_with fail
    refine (HIS.out _).mono ?_
    rintro e w1 ⟨rfl, rfl⟩
    go_wp2_with fail
    exact Kx.exit ⟨rfl, ⟨rfl, rfl, rfl, rfl⟩, rfl⟩

set_option maxRecDepth 100000 in
set_option maxHeartbeats 40000000 in
theorem round1C_any (a : Act) (hA : At33 a p must) (hR : Rr w0 p t0 T0 mx must l T1 ss [] [] b wx) (hb : b ≠ []) (hu : isUp b) :
    Code.wp Try.prog (rloop 0) (Kx (RGoes1 w0 p t0 T0 mx must l b.length) (REnds w0 p t0 T0 mx must l) (fun _ _ _ => False)) a wx := by
  have HR := Bx.mk hR
  have HBN := Bx.mk hb
  have hst : lstep mx must ⟨T1, ss, [], [], b⟩ = upStep mx ⟨T1, ss, [], [], b⟩ := by unfold lstep; rw [if_pos hu]
  have HST := Bx.mk hst
  obtain ⟨rv, tp, fv, sv, av, S, hd⟩ := hR.df
  obtain ⟨c0, _⟩ := hd.cells
  have hlen := fun ty W => hd.bytes.run_len ty W
  obtain ⟨q, hix, hcp⟩ := hd.bytes.at_ 0 (List.length_pos_iff.2 hb)
  have hcell := hcp wx hd.bytes
  have hhd : b[0]'(List.length_pos_iff.2 hb) = b.headD 0 := by cases b with | nil => exact absurd rfl hb | cons c r => rfl
  rw [hhd] at hcell
  have hix0 : ∀ W : World, (Instr.indexAt 24 rv (.int .i64 0)).run Try.prog W = .ok (.pointer (some q)) W := hix
  have hup : (b.headD 0).toNat / 32 = 1 := hu
  have HIS := Bx.mk (fun W => isUpdate_any (b.headD 0).toNat (b.headD 0).toNat_lt W)
  rw [decide_eq_true hup] at HIS
  obtain ⟨nl, hnl⟩ : ∃ nl, b.length = nl := ⟨_, rfl⟩
  rw [hnl] at hlen
  have hnl0 : 0 < nl := by rw [← hnl]; exact List.length_pos_iff.2 hb
  have hdl : decide ((0 : Int) < (nl : Int)) = true := decide_eq_true (by omega)
  have hdl' : decide (0 < nl) = true := decide_eq_true hnl0
  obtain ⟨cn, hcn⟩ : ∃ cn, (b.headD 0).toNat = cn := ⟨_, rfl⟩
  rw [hcn] at hcell HIS
  obtain ⟨u, hu, ha⟩ := rframe a hA.s hA.d
  have h0 := (hu 0).symm.trans hA.t0
  have h1 := (hu 1).symm.trans hA.t1
  rw [ha]
  clear ha hA
  rw [h0, h1]
  clear h0 h1 hu
  conv => arg 2; whnf
  clear hd hix hcp hcn hnl hup hb hhd hR hst hu
  cases hx : upStep mx ⟨T1, ss, [], [], b⟩ with
  | none =>
    have HBAD := Bx.mk (HR.out.none_ HBN.out (by rw [HST.out, hx]))
    have HX := Bx.mk hx
    clear hx
    go_wp2_with fail
    refine (HIS.out _).mono ?_
    rintro e w1 ⟨rfl, rfl⟩
    go_wp2_with fail
    refine (update_none HR.out.df HR.out.len HR.out.inv rfl HR.out.mx4 HX.out).mono ?_
    rintro e w1 ⟨rfl, hb1⟩
    have HB1 := Bx.mk hb1
    clear hb1
    go_wp2_with fail
    exact Kx.ret (rends_none rfl rfl HBAD.out HB1.out)
  | some s' =>
    have HX := Bx.mk hx
    have HO : Bx (s'.out = [] ∧ s'.ad = []) := ⟨by obtain ⟨n, r, _, _, _, _, rfl⟩ := upStep_some hx; exact ⟨rfl, rfl⟩⟩
    clear hx
    go_wp2_with fail
    refine (HIS.out _).mono ?_
    rintro e w1 ⟨rfl, rfl⟩
    go_wp2_with fail
    refine (update_some HR.out.df HR.out.len HR.out.inv HR.out.mx4 HX.out).mono ?_
    rintro e w1 ⟨rfl, hd1⟩
    have HN := Bx.mk (HR.out.next HBN.out (by rw [HST.out, HX.out]) hd1)
    clear hd1
    go_wp2_with fail
    obtain ⟨h1, h2⟩ := HN.out
    rw [HO.out.1, HO.out.2] at h1
    exact Kx.norm ⟨_, _, _, ⟨rfl, rfl, rfl, rfl⟩, h1, h2⟩

theorem lstep_fd (hm : ¬ (must = true ∧ ss = [])) (ho : out ≠ [] ∨ ¬ isUp b) : lstep mx must ⟨T1, ss, ad, out, b⟩ = if 64 ≤ out.length then none else if isUp b then none else fdStep ⟨T1, ss, ad, out, b⟩ := by
  unfold lstep
  by_cases hu : isUp b
  · have hout : out ≠ [] := by rcases ho with h | h; exact h; exact absurd hu h
    rw [if_pos hu]
    simp only [hu, if_true]
    have : upStep mx ⟨T1, ss, ad, out, b⟩ = none := by
      unfold upStep
      simp only
      cases numP 5 b with
      | none => rfl
      | some pr => obtain ⟨n, r⟩ := pr; simp only; rw [if_pos (.inr (.inl hout))]
    rw [this]
    split <;> rfl
  · rw [if_neg hu, if_neg hm]
    simp only [hu, if_false]
theorem fdStep_grow {s s' : Ls} (h : fdStep s = some s') : s'.out ≠ [] ∧ s'.ss = s.ss := by
  unfold fdStep at h
  split at h
  · unfold ixStep at h
    split at h
    · cases h
    · split at h
      · injection h with h; subst h; exact ⟨by simp, rfl⟩
      · cases h
  · split at h
    · unfold adStep at h
      split at h
      · cases h
      · injection h with h; subst h; exact ⟨by simp, rfl⟩
    · unfold plStep at h
      split at h
      · cases h
      · injection h with h; subst h; exact ⟨by simp, rfl⟩

set_option maxRecDepth 100000 in
set_option maxHeartbeats 40000000 in
theorem round2N_any (a : Act) (hA : At33 a p must) (hR : Rr w0 p t0 T0 mx must l T1 ss ad out [] wx) :
    Code.wp Try.prog (rloop 1) (Kx (fun _ _ => False) (fun _ _ => False) (fun i a' w' => i = 2 ∧ At33 a' p must ∧ w' = wx)) a wx := by
  obtain ⟨rv, tp, fv, sv, av, S, hd⟩ := hR.df
  obtain ⟨c0, _⟩ := hd.cells
  have hlen := fun ty W => hd.bytes.run_len ty W
  clear hd
  obtain ⟨u, hu, ha⟩ := rframe a hA.s hA.d
  have h0 := (hu 0).symm.trans hA.t0
  have h1 := (hu 1).symm.trans hA.t1
  rw [ha]
  clear ha hA
  rw [h0, h1]
  clear h0 h1 hu
  conv => arg 2; whnf
  go_wp2_with fail
  exact Kx.exit ⟨rfl, ⟨rfl, rfl, rfl, rfl⟩, rfl⟩

set_option maxRecDepth 100000 in
set_option maxHeartbeats 40000000 in
theorem round2C_any (a : Act) (hA : At33 a p must) (hR : Rr w0 p t0 T0 mx must l T1 ss ad out b wx) (hb : b ≠ []) (hm : ¬ (must = true ∧ ss = [])) (ho : out ≠ [] ∨ ¬ isUp b) :
    Code.wp Try.prog (rloop 1) (Kx (RGoes2 w0 p t0 T0 mx must l b.length) (REnds w0 p t0 T0 mx must l) (fun _ _ _ => False)) a wx := by
  have HR := Bx.mk hR
  have HBN := Bx.mk hb
  have HM := Bx.mk hm
  have HST := Bx.mk (lstep_fd (mx := mx) (T1 := T1) (ad := ad) hm ho)
  obtain ⟨rv, tp, fv, sv, av, S, hd⟩ := hR.df
  obtain ⟨c0, c1, c2, c3, c4, c5⟩ := hd.cells
  have hlen := fun ty W => hd.bytes.run_len ty W
  have hleno := fun ty W => hd.f.fs.run_len ty W
  obtain ⟨nl, hnl⟩ : ∃ nl, b.length = nl := ⟨_, rfl⟩
  rw [hnl] at hlen
  have hnl0 : 0 < nl := by rw [← hnl]; exact List.length_pos_iff.2 hb
  have hdl : decide ((0 : Int) < (nl : Int)) = true := decide_eq_true (by omega)
  have hdl' : decide (0 < nl) = true := decide_eq_true hnl0
  obtain ⟨no, hno⟩ : ∃ no, out.length = no := ⟨_, rfl⟩
  rw [hno] at hleno
  have HNO := Bx.mk hno
  have hno64 : no ≤ 64 := by have := hR.inv.outs; simp only at this; omega
  obtain ⟨u, hu, ha⟩ := rframe a hA.s hA.d
  have h0 := (hu 0).symm.trans hA.t0
  have h1 := (hu 1).symm.trans hA.t1
  rw [ha]
  clear ha hA
  rw [h0, h1]
  clear h0 h1 hu
  conv => arg 2; whnf
  clear hd hnl hb hR hm ho hno
  by_cases h64 : no = 64
  · have HBAD := Bx.mk (HR.out.none_ HBN.out (by rw [HST.out, if_pos (by rw [HNO.out]; omega)]))
    subst h64
    go_wp2_with fail
    exact Kx.ret (rends_none rfl rfl HBAD.out HR.out.df.bel)
  · have h64' : ((no : Int) == 64) = false := by simp; omega
    have HLO : Bx (out.length < 64) := ⟨by rw [HNO.out]; omega⟩
    have HF := Bx.mk (field_any HR.out.df HBN.out HR.out.len HR.out.inv.gd HR.out.inv.two (by have h1 := HR.out.inv.adds; have h2 := HR.out.inv.outs; simp only at h1 h2; omega) HLO.out HR.out.tot)
    have HST2 : Bx (lstep mx must ⟨T1, ss, ad, out, b⟩ = if isUp b then none else fdStep ⟨T1, ss, ad, out, b⟩) := ⟨by rw [HST.out, if_neg (by rw [HNO.out]; omega)]⟩
    have HGR : Bx (∀ s', (if isUp b then none else fdStep ⟨T1, ss, ad, out, b⟩) = some s' → s'.out ≠ [] ∧ s'.ss = ss) := ⟨fun s' h => by
      split at h
      · cases h
      · exact fdStep_grow h⟩
    obtain ⟨x, hx⟩ : ∃ x, (if isUp b then none else fdStep ⟨T1, ss, ad, out, b⟩) = x := ⟨_, rfl⟩
    rw [hx] at HF HST2 HGR
    clear hx
    cases x with
    | none =>
      have HBAD := Bx.mk (HR.out.none_ HBN.out HST2.out)
      go_wp2_with fail
      refine HF.out.mono ?_
      rintro e w1 ⟨rfl, hm1⟩
      have HM1 : Bx (Below w0.heap.size w0 w1) := ⟨hm1⟩
      clear hm1
      rw [show (none : Option Ls).isSome = false from rfl]
      go_wp2_with fail
      exact Kx.ret (rends_none rfl rfl HBAD.out HM1.out)
    | some s' =>
      go_wp2_with fail
      refine HF.out.mono ?_
      rintro e w1 ⟨rfl, hm1⟩
      have HN := Bx.mk (HR.out.next HBN.out HST2.out hm1)
      clear hm1
      rw [show (some s').isSome = true from rfl]
      go_wp2_with fail
      obtain ⟨h1, h2⟩ := HN.out
      obtain ⟨h3, h4⟩ := HGR.out s' rfl
      exact Kx.norm ⟨_, _, _, _, _, ⟨rfl, rfl, rfl, rfl⟩, h1, h3, by rw [h4]; exact HM.out, h2⟩
end

end Go.Proofs.Ytejkbibahbcofaa

/-
  Contract of the draft's read.
-/
namespace Go.Proofs.Ytejkbibahbcofaa
open Go.RowKit Go.Maps
set_option linter.unusedVariables false

section
variable {w0 w wx : World} {p t0 mx : Nat} {T0 T1 : Tab} {must : Bool} {l : List UInt8} {ss : List Nat} {ad out : List Fd} {b : List UInt8}

set_option maxRecDepth 100000 in
set_option maxHeartbeats 40000000 in
theorem rlast_any (a : Act) (hA : At33 a p must) (hR : Rr w0 p t0 T0 mx must l T1 ss ad out [] wx) (hm : ¬ (must = true ∧ ss = [])) :
    Code.wp Try.prog (rstmt 9) (Kx (fun _ _ => False) (REnds w0 p t0 T0 mx must l) (fun _ _ _ => False)) a wx := by
  have HE : Bx (ldec mx must T0 l = some ⟨T1, ss, ad, out, []⟩) := ⟨by rw [hR.end_, if_neg hm]⟩
  have HD := Bx.mk hR.df
  obtain ⟨u, hu, ha⟩ := rframe a hA.s hA.d
  have h0 := (hu 0).symm.trans hA.t0
  have h1 := (hu 1).symm.trans hA.t1
  rw [ha]
  clear ha hA
  rw [h0, h1]
  clear h0 h1 hu
  conv => arg 2; whnf
  clear hR hm
  go_wp2_with fail
  refine Kx.ret ⟨rfl, ?_⟩
  rw [HE.out]
  exact ⟨rfl, HD.out⟩

set_option maxRecDepth 100000 in
set_option maxHeartbeats 40000000 in
theorem rtail2_any (a : Act) (hA : At33 a p must) (hR : Rr w0 p t0 T0 mx must l T1 ss [] [] b wx) (hm : ¬ (must = true ∧ ss = [])) (hb : b = [] ∨ ¬ isUp b) :
    Code.wp Try.prog (rstmt 6) (Kx (fun _ _ => False) (REnds w0 p t0 T0 mx must l) (fun _ _ _ => False)) a wx := by
  have HR := Bx.mk hR
  have HM := Bx.mk hm
  have HB := Bx.mk hb
  obtain ⟨u, hu, ha⟩ := rframe a hA.s hA.d
  have h0 := (hu 0).symm.trans hA.t0
  have h1 := (hu 1).symm.trans hA.t1
  rw [ha]
  clear ha hA
  rw [h0, h1]
  clear h0 h1 hu
  conv => arg 2; whnf
  clear hR hm hb
  go_wp2_with fail
  rename_i hKq
  refine wp_loop_ghost (fun n a wx => ∃ T1 ss ad out b, At33 a p must ∧ Rr w0 p t0 T0 mx must l T1 ss ad out b wx ∧ ¬ (must = true ∧ ss = []) ∧ (out ≠ [] ∨ b = [] ∨ ¬ isUp b) ∧ b.length = n) b.length ?_ ?_
  · exact ⟨T1, ss, [], [], b, ⟨rfl, rfl, rfl, rfl⟩, HR.out, HM.out, .inr HB.out, rfl⟩
  · rintro n a wx ⟨T1, ss, ad, out, b, hA, hR, hm, ho, hn⟩
    by_cases hb : b = []
    · subst hb
      refine Kx.use (round2N_any a hA hR) ?_ ?_ ?_
      · intro a2 w2 h; exact h.elim
      · intro a2 w2 h; exact h.elim
      · rintro i a2 w2 ⟨rfl, hA2, rfl⟩
        refine hKq _ _ ?_
        refine Kx.use (rlast_any a2 hA2 hR hm) ?_ ?_ ?_
        · intro a3 w3 h; exact h.elim
        · intro a3 w3 h; exact h
        · intro i a3 w3 h; exact h.elim
    · refine Kx.use (round2C_any a hA hR hb hm (by rcases ho with h | h | h; exact .inl h; exact absurd h hb; exact .inr h)) ?_ ?_ ?_
      · rintro a2 w2 ⟨T2, ss2, ad2, out2, b2, hA2, hR2, ho2, hm2, hl2⟩
        exact ⟨_, by omega, T2, ss2, ad2, out2, b2, hA2, hR2, hm2, .inl ho2, rfl⟩
      · intro a2 w2 h; exact h
      · intro i a2 w2 h; exact h.elim

set_option maxRecDepth 100000 in
set_option maxHeartbeats 40000000 in
theorem rtail_any (a : Act) (hA : At33 a p must) (hR : Rr w0 p t0 T0 mx must l T1 ss [] [] b wx) (hb : b = [] ∨ ¬ isUp b) :
    Code.wp Try.prog (rstmt 4) (Kx (fun _ _ => False) (REnds w0 p t0 T0 mx must l) (fun _ _ _ => False)) a wx := by
  have HR := Bx.mk hR
  have HB := Bx.mk hb
  obtain ⟨rv, tp, fv, sv, av, S, hd⟩ := hR.df
  obtain ⟨c0, c1, c2, c3, c4, c5⟩ := hd.cells
  have hlens := fun ty W => hd.n.run_len ty W
  obtain ⟨ns, hns⟩ : ∃ ns, ss.length = ns := ⟨_, rfl⟩
  rw [hns] at hlens
  have HNS := Bx.mk hns
  obtain ⟨u, hu, ha⟩ := rframe a hA.s hA.d
  have h0 := (hu 0).symm.trans hA.t0
  have h1 := (hu 1).symm.trans hA.t1
  rw [ha]
  clear ha hA
  rw [h0, h1]
  clear h0 h1 hu
  conv => arg 2; whnf
  clear hd hns hR hb
  by_cases hm : must = true ∧ ns = 0
  · obtain ⟨rfl, rfl⟩ := hm
    have hss : ss = [] := List.eq_nil_of_length_eq_zero HNS.out
    have HBAD : Bx (ldec mx true T0 l = none) := ⟨by
      rcases HB.out with h | h
      · have hR := HR.out
        subst h
        rw [hR.end_, if_pos ⟨rfl, hss⟩]
      · by_cases hb0 : b = []
        · have hR := HR.out
          subst hb0
          rw [hR.end_, if_pos ⟨rfl, hss⟩]
        · exact HR.out.none_ hb0 (by unfold lstep; rw [if_neg h, if_pos ⟨rfl, hss⟩])⟩
    clear hss
    go_wp2_with fail
    exact Kx.ret (rends_none rfl rfl HBAD.out HR.out.df.bel)
  · have HM : Bx (¬ (must = true ∧ ss = [])) := ⟨fun h => hm ⟨h.1, by have := HNS.out; rw [h.2] at this; exact this.symm⟩⟩
    cases must with
    | false =>
      clear hm
      go_upto_if 31 with fail
      rename_i hKq
      refine wp_cond_false rfl ?_
      refine wp_skip ?_
      refine hKq _ _ ?_
      refine Kx.use (rtail2_any _ ⟨rfl, rfl, rfl, rfl⟩ HR.out HM.out HB.out) ?_ ?_ ?_
      · intro a3 w3 h; exact h.elim
      · intro a3 w3 h; exact h
      · intro i a3 w3 h; exact h.elim
    | true =>
      have hns : ((ns : Int) == 0) = false := by simp; intro h; exact hm ⟨rfl, by omega⟩
      clear hm
      go_upto_if 31 with fail
      rename_i hKq
      refine wp_cond_false rfl ?_
      refine wp_skip ?_
      refine hKq _ _ ?_
      refine Kx.use (rtail2_any _ ⟨rfl, rfl, rfl, rfl⟩ HR.out HM.out HB.out) ?_ ?_ ?_
      · intro a3 w3 h; exact h.elim
      · intro a3 w3 h; exact h
      · intro i a3 w3 h; exact h.elim

set_option maxRecDepth 100000 in
set_option maxHeartbeats 40000000 in
theorem read_any (h : Df w0 p t0 T0 mx false T0 [] [] [] l w) (hg : T0.gd) (hl : l.length ≤ 100000) (hmx : mx ≤ 4096) (ht : T0.tot + 300 ≤ 1000000) :
    Calls Try.prog 33 #[.pointer (some ⟨p, 0, none⟩), .bool must] w fun e w' => FPost w0 p t0 T0 mx (ldec mx must T0 l) e w' := by
  have HD : Bx (Rr w0 p t0 T0 mx must l T0 [] [] [] l w) := ⟨⟨h, inv_start hg l, rfl, hl, hmx, ht⟩⟩
  clear h hg hl hmx ht
  go_enter Try.func33, Try.ntmps33
  go_wp2_with fail
  rename_i hKq
  refine wp_loop_ghost (fun n a wx => ∃ T1 ss b, At33 a p must ∧ Rr w0 p t0 T0 mx must l T1 ss [] [] b wx ∧ b.length = n) l.length ?_ ?_
  · exact ⟨T0, [], l, ⟨rfl, rfl, rfl, rfl⟩, HD.out, rfl⟩
  · rintro n a wx ⟨T1, ss, b, hA, hR, hn⟩
    by_cases hb : b = [] ∨ ¬ isUp b
    · refine Kx.use (round1N_any a hA hR hb) ?_ ?_ ?_
      · intro a2 w2 h; exact h.elim
      · intro a2 w2 h; exact h.elim
      · rintro i a2 w2 ⟨rfl, hA2, rfl⟩
        refine hKq _ _ ?_
        refine Kx.use (rtail_any a2 hA2 hR hb) ?_ ?_ ?_
        · intro a3 w3 h; exact h.elim
        · intro a3 w3 h; exact ⟨h.1, _, results_tmp Try.results33 _ _ _, h.2⟩
        · intro i a3 w3 h; exact h.elim
    · have hb1 : b ≠ [] := fun h => hb (.inl h)
      have hu : isUp b := Decidable.byContradiction fun h => hb (.inr h)
      refine Kx.use (round1C_any a hA hR hb1 hu) ?_ ?_ ?_
      · rintro a2 w2 ⟨T2, ss2, b2, hA2, hR2, hl2⟩
        exact ⟨_, by omega, T2, ss2, b2, hA2, hR2, rfl⟩
      · intro a2 w2 h
        exact ⟨h.1, _, results_tmp Try.results33 _ _ _, h.2⟩
      · intro i a2 w2 h; exact h.elim
end

end Go.Proofs.Ytejkbibahbcofaa

/-
  Contracts of the draft's apply, nearest, New, Table.
-/
namespace Go.Proofs.Ytejkbibahbcofaa
open Go.RowKit Go.Maps
set_option linter.unusedVariables false

section
variable {w0 w w' : World} {p t0 nt mx : Nat} {T0 T : Tab} {o : Bool} {ss : List Nat} {ad out : List Fd} {b : List UInt8} {rv fv sv av : Value} {tp : Nat} {S S0 : Nat → Prop}

/-- What of the draft is read behind a change of the decoder's table. -/
structure Da (p : Nat) (ss : List Nat) (ad out : List Fd) (fv sv av : Value) (w : World) : Prop where
  c3 : w.cell? ⟨p, 3, none⟩ = some fv
  c4 : w.cell? ⟨p, 4, none⟩ = some sv
  c5 : w.cell? ⟨p, 5, none⟩ = some av
  f : St w fv out
  n : Si w sv ss
  a : St w av ad
theorem Dp.beside (h : Dp w0 p t0 nt mx o T ss ad out b rv tp fv sv av S w) (hS : ∀ k, S0 k → k < w0.heap.size ∨ w.heap.size ≤ k) (hf : Fp S0 w w') : Da p ss ad out fv sv av w' := by
  have hn : ∀ k, w0.heap.size ≤ k → k < w.heap.size → ¬ S0 k := fun k h1 h2 hs => by rcases hS k hs with h | h <;> omega
  have hr := h.row.of_block (hf.block p h.row.lt (hn p h.hp h.row.lt))
  exact ⟨hr.cell (i := 3) (by omega), hr.cell (i := 4) (by omega), hr.cell (i := 5) (by omega), h.f.kept (fun k hk => hf.block k (h.f.lt hk) (hn k (h.fb k hk).1 (h.f.lt hk))),
    h.n.kept (fun k hk => hf.block k (h.n.lt hk) (hn k (h.nb k hk).1 (h.n.lt hk))), h.a.kept (fun k hk => hf.block k (h.a.lt hk) (hn k (h.ab k hk).1 (h.a.lt hk)))⟩

theorem Tab.sizes_take (T : Tab) (ss : List Nat) (k : Nat) (hk : k < ss.length) : T.sizes (ss.take (k + 1)) = (T.sizes (ss.take k)).resize (ss[k] : Int) := by
  rw [List.take_succ_eq_append_getElem hk, Tab.sizes_snoc]
theorem Tab.sizes_tot : ∀ (l : List Nat) (T : Tab), (T.sizes l).tot = T.tot
  | [], T => rfl
  | n :: l, T => by simp only [Tab.sizes]; rw [Tab.sizes_tot l]; rfl

set_option maxRecDepth 100000 in
set_option maxHeartbeats 1000000 in
theorem apply_any {t : Nat} (h : Dp w0 p t0 nt mx o T ss ad out b rv tp fv sv av S w) (hT : Tb t T0 w S0) (hS : ∀ k, S0 k → k < w0.heap.size) (hn : ∀ n ∈ ss, n ≤ 4096) (h2 : ss.length ≤ 2) (hz : ∀ f ∈ ad, fsz f ≤ 8192) (ht : T0.tot + ad.length ≤ 1000000) :
    Calls Try.prog 34 #[.pointer (some ⟨p, 0, none⟩), .pointer (some ⟨t, 0, none⟩)] w fun e w' => e = .returned (.tuple #[]) ∧ Turn (Tb t ((T0.sizes ss).adds ad)) S0 w w' ∧ Da p ss ad out fv sv av w' := by
  have HP := Bx.mk h
  have HT := Bx.mk hT
  have HS := Bx.mk hS
  have HC : Bx ((∀ n ∈ ss, n ≤ 4096) ∧ (∀ f ∈ ad, fsz f ≤ 8192) ∧ T0.tot + ad.length ≤ 1000000) := ⟨hn, hz, ht⟩
  have hda := h.beside (fun k hk => .inl (hS k hk)) (Fp.refl S0 w)
  have c4 := hda.c4
  have c3 := hda.c3
  have c5 := hda.c5
  have hlens := fun ty W => hda.n.run_len ty W
  obtain ⟨ns, hns⟩ : ∃ ns, ss.length = ns := ⟨_, rfl⟩
  rw [hns] at hlens h2
  have HNS := Bx.mk hns
  clear h hT hS hn hz ht hda hns
  go_enter Try.func34, Try.ntmps34
  go_wp2_with fail
  go_loopg [11] ns (fun g s11 wx => ∃ k, k + g = ns ∧ s11 = .int .i64 (k : Int) ∧ Bx (Turn (Tb t (T0.sizes (ss.take k))) S0 w wx))
  case atStart => exact ⟨0, by omega, rfl, ⟨Turn.refl HT.out (Below.refl _ _)⟩⟩
  case round =>
    obtain ⟨k, hkg, rfl, HTU⟩ := hrel
    obtain ⟨S1, x1, s1, f1⟩ := HTU.out
    have hda := HP.out.beside (fun k hk => .inl (HS.out k hk)) f1
    cases gk with
    | zero =>
      obtain rfl : k = ns := by omega
      have d5 := hda.c5
      have HX1 := Bx.mk x1
      have HS1 := Bx.mk s1
      have HF1 := Bx.mk f1
      have HEQ : Bx (ss.take k = ss) := ⟨by rw [← HNS.out, List.take_length]⟩
      rw [HEQ.out] at HX1
      have hS1 : ∀ k, S1 k → k < w0.heap.size ∨ w.heap.size ≤ k := fun j hj => (s1 j hj).elim (fun h => .inl (HS.out j h)) .inr
      have HV : Bx (∀ W, Fp S1 wr W → Fs W av ad) := ⟨fun W hW => by
        have hf := hda.a
        refine (hf.kept fun j hj => hW.block j (hf.lt hj) fun hs => ?_).fs
        have h1 := (HP.out.ab j hj).1
        have h2 := HP.out.a.lt hj
        rcases hS1 j hs with h | h <;> omega⟩
      have HDA : Bx (∀ W, Fp S1 wr W → Da p ss ad out fv sv av W) := ⟨fun W hW => HP.out.beside (S0 := fun j => S0 j ∨ w.heap.size ≤ j) (fun j hj => hj.elim (fun h => .inl (HS.out j h)) .inr) ((f1.mono fun _ h => .inl h).then (hW.mono fun j hj => s1 j hj))⟩
      clear hda x1 s1 f1 c3 c4 c5 hS1
      go_wp2_with fail
      refine (add_gen HX1.out HV.out (by rw [Tab.sizes_tot]; exact HC.out.2.2) (fun f hf => by have := HC.out.2.1 f hf; omega)).mono ?_
      rintro e w2 ⟨rfl, ht2⟩
      have HT2 : Bx (Turn (Tb t ((T0.sizes ss).adds ad)) S0 w w2) := ⟨Turn.step HS1.out HF1.out ht2⟩
      have HD2 : Bx (Da p ss ad out fv sv av w2) := ⟨by
        obtain ⟨_, _, _, f2⟩ := ht2
        exact HDA.out w2 f2⟩
      clear ht2
      go_wp2_with fail
      go_end0
      exact ⟨rfl, HT2.out, HD2.out⟩
    | succ g =>
      have hk : k < ss.length := by rw [HNS.out]; omega
      obtain ⟨gb, hix, _, hcell⟩ := hda.n.at_ k hk
      have hcl := hcell wr hda.n
      have HX1 := Bx.mk x1
      have HS1 := Bx.mk s1
      have HF1 := Bx.mk f1
      obtain ⟨n, hn⟩ : ∃ n, ss[k] = n := ⟨_, rfl⟩
      rw [hn] at hcl
      have HNN : Bx (n ≤ 4096) := ⟨by rw [← hn]; exact HC.out.1 _ (List.getElem_mem hk)⟩
      have HTK : Bx (T0.sizes (ss.take (k + 1)) = (T0.sizes (ss.take k)).resize (n : Int)) := ⟨by rw [Tab.sizes_take T0 ss k hk, hn]⟩
      have hix0 := fun W => hix .i64 W
      have HKN : Bx (k + (g + 1) = ns) := ⟨hkg⟩
      have hkn : k < ns := by omega
      have hdk : decide ((k : Int) < (ns : Int)) = true := decide_eq_true (by omega)
      have hdk' : decide (k < ns) = true := decide_eq_true hkn
      clear hda x1 s1 f1 hix hcell hn c3 c4 c5
      go_wp2_with fail
      refine (resize_any HX1.out (n : Int) (by have := HNN.out; omega)).mono ?_
      rintro e w2 ⟨rfl, ht2⟩
      have HT2 : Bx (Turn (Tb t (T0.sizes (ss.take (k + 1)))) S0 w w2) := ⟨by rw [HTK.out]; exact Turn.step HS1.out HF1.out ht2⟩
      clear ht2
      go_wp2_with fail
      go_roundg g
      case measure => omega
      case rel => exact ⟨k + 1, by omega, by go_num, HT2⟩
end

set_option maxRecDepth 100000 in
set_option maxHeartbeats 1000000 in
theorem nearest_any (n : Int) (w : World) : Calls Try.prog 29 #[.int .i64 n] w fun e w' => e = .returned (.int .i64 (clampN n : Int)) ∧ w = w' := by
  have h := clampN_eq n
  go_enter Try.func29, Try.ntmps29
  go_wp2
  go_ret
  exact ⟨by rw [← h]; rfl, rfl⟩

set_option maxRecDepth 100000 in
set_option maxHeartbeats 1000000 in
theorem pnew_any (n : Int) (w : World) :
    Calls Try.prog 11 #[.int .i64 n] w fun e w' => ∃ q t S, e = .returned (.pointer (some ⟨q, 0, none⟩)) ∧ Pc q t (Tab.new (clampN n : Int)) (clampN n) false false w' S ∧ (∀ k, S k → w.heap.size ≤ k) ∧ Below w.heap.size w w' := by
  have hle := clampN_le n
  have HC := Bx.mk (nearest_any n)
  have HN := Bx.mk (fun W => new_any (clampN n : Int) W (by omega))
  generalize clampN n = c at HC HN hle ⊢
  go_enter Try.func11, Try.ntmps11
  go_wp2_with (first
    | (go_at_call 29; refine (HC.out _).mono ?_; rintro e w1 ⟨rfl, rfl⟩)
    | (go_at_call 30; refine (HN.out _).mono ?_; rintro e w1 ⟨t, S, rfl, hrt, hS, hb⟩; have hsz := hb.size))
  go_ret
  have hrow := World.rowIs_alloc w1 #[.pointer (some ⟨t, 0, none⟩), .int .i64 (c : Int), .bool false, .bool false] 71 (pF t c false false) (fun j hj => by
    have : j < 4 := hj
    unfold pF
    match j, this with
    | 0, _ => rfl
    | 1, _ => rfl
    | 2, _ => rfl
    | 3, _ => rfl)
  have hn : Below w1.heap.size w1 (w1.alloc (.cells #[.pointer (some ⟨t, 0, none⟩), .int .i64 (c : Int), .bool false, .bool false] 71)) := (Below.refl _ _).alloc (Nat.le_refl _) _
  exact ⟨w1.heap.size, t, fun k => S k ∨ k = w1.heap.size, rfl, ⟨S, hrow, hrt.keep hn, fun h => by have := hrt.lt _ h; omega, fun k => Iff.rfl, by simp⟩, fun k hk => by rcases hk with h | rfl; exact hS k h; exact hsz, hb.trans (hn.mono hsz)⟩

set_option maxRecDepth 100000 in
set_option maxHeartbeats 1000000 in
theorem table_any {q t mx : Nat} {T : Tab} {mu bd : Bool} {w : World} {S : Nat → Prop} (h : Pc q t T mx mu bd w S) : Calls Try.prog 24 #[.pointer (some ⟨q, 0, none⟩)] w fun e w' => e = .returned (.pointer (some ⟨t, 0, none⟩)) ∧ w = w' := by
  obtain ⟨c0, _⟩ := h.cells
  clear h
  go_enter Try.func24, Try.ntmps24
  go_wp2_with fail
  go_ret
  exact ⟨rfl, rfl⟩

end Go.Proofs.Ytejkbibahbcofaa
