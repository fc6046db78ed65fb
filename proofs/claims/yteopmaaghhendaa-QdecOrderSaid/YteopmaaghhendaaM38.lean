/-
  Texts put together: QoI, QoJ.
-/
import Derived.Test.YteopmaaghhendaaM37
import Derived.Test.YteopmaaghhendaaM36
import Derived.Test.YteopmaaghhendaaM34
import Derived.Test.YteopmaaghhendaaM24
import Derived.Test.YteopmaaghhendaaM30
import Derived.Test.YteopmaaghhendaaM12

/-
  QdecOrder's objects: words in any order; sections kept, rows of bytes in a row; each call of the law.
-/
namespace Go.Proofs.Yteopmaaghhendaa
open Go.RowKit Go.Maps
set_option linter.unusedVariables false
set_option linter.unusedSimpArgs false

/-! ### words in any order -/
theorem Both.comm (X Y : Wx) : Both X Y = Both Y X := by
  funext w S
  exact propext ⟨Both.swap, Both.swap⟩
theorem Both.assoc (X Y Z : Wx) : Both (Both X Y) Z = Both X (Both Y Z) := by
  funext w S
  refine propext ⟨?_, ?_⟩
  · rintro ⟨S1, S2, ⟨S3, S4, k1, k2, k3, k4⟩, h2, h3, h4⟩
    exact ⟨S3, fun k => S4 k ∨ S2 k, k1, ⟨S4, S2, k2, h2, fun k a b => h3 k ((k4 k).2 (.inr a)) b, fun k => Iff.rfl⟩, fun k a b => b.elim (k3 k a) (h3 k ((k4 k).2 (.inl a))), fun k => by rw [h4 k, k4 k, or_assoc]⟩
  · rintro ⟨S1, S2, h1, ⟨S3, S4, k1, k2, k3, k4⟩, h3, h4⟩
    exact ⟨fun k => S1 k ∨ S3 k, S4, ⟨S1, S3, h1, k1, fun k a b => h3 k a ((k4 k).2 (.inl b)), fun k => Iff.rfl⟩, k2, fun k a b => a.elim (fun a => h3 k a ((k4 k).2 (.inr b))) fun a => k3 k a b, fun k => by rw [h4 k, k4 k, or_assoc]⟩
instance : Std.Commutative Both := ⟨Both.comm⟩
instance : Std.Associative Both := ⟨Both.assoc⟩
theorem Up.ac {B : Nat} {X X' : Wx} {w : World} (h : Up B X w) (e : X = X') : Up B X' w := e ▸ h
theorem Ob.both {P Q : World → Prop} {w : World} {S : Nat → Prop} (h : Both (Ob P) (Ob Q) w S) : Ob (fun W => P W ∧ Q W) w S := by
  obtain ⟨S1, S2, h1, h2, _, h4⟩ := h
  refine (h1.and h2).mono (fun k hk => (h4 k).2 hk) fun k hk => ?_
  rcases (h4 k).1 hk with h | h
  · exact h1.1 k h
  · exact h2.1 k h
theorem Ob.row {w : World} {B : Nat} {v : Value} {l : List UInt8} (h : OwB w B v l) : Ob (fun W => Bs W v l) w (fun g => v.ownBlock = some g) :=
  (Ob.own h).map fun W hW => Rd.of_rn hW

/-! ### sections -/
/-- The value reads as these values; each of them reads as its bytes. -/
def Bss (w : World) (v : Value) (vs : List Value) (ss : List (List UInt8)) : Prop := Rd w v vs ∧ vs.length = ss.length ∧ ∀ i (h : i < vs.length) (h' : i < ss.length), Bs w vs[i] ss[i]
theorem Bss.run_len {w : World} {v : Value} {vs : List Value} {ss : List (List UInt8)} (h : Bss w v vs ss) (ty : TypeId) (W : World) : (Builtin.len_ #[46] ty #[v]).run Try.prog W = .ok (.int .i64 (ss.length : Int)) W := by
  obtain ⟨⟨A, c, rfl, h1, h2, h3⟩, h4, _⟩ := h
  rw [← h4]
  simp [Builtin.len_, run_underlying Try.underlying46, goInt]
theorem Bss.at_ {w : World} {v : Value} {vs : List Value} {ss : List (List UInt8)} (h : Bss w v vs ss) (i : Nat) (hi : i < ss.length) :
    ∃ (b o : Nat) (u : Value), (∀ (W : World), (Instr.indexAt 46 v (.int .i64 (i : Int))).run Try.prog W = .ok (.pointer (some ⟨b, o, none⟩)) W) ∧ (∃ a n c, u = .slice a n c) ∧ (∃ h : i < vs.length, u = vs[i]) ∧ Bs w u ss[i] ∧
      ∀ W : World, Bss W v vs ss → W.cell? ⟨b, o, none⟩ = some u ∧ Bs W u ss[i] := by
  have hiv : i < vs.length := by have := h.2.1; omega
  obtain ⟨b, o, c, rfl, h1, h2, h3, hc⟩ := Rd.at_ h.1 (by omega)
  refine ⟨b, o + i, vs[i], fun W => ?_, ?_, ⟨hiv, rfl⟩, h.2.2 i hiv hi, fun W hW => ⟨?_, hW.2.2 i hiv hi⟩⟩
  · simp [Instr.indexAt, asIntOf, run_underlying Try.underlying46, Sem.run_bind, hiv, Result.andThen]
    simp [Addr.add]
  · obtain ⟨A, c', e, _⟩ := h.2.2 i hiv hi
    exact ⟨_, _, _, e⟩
  · obtain ⟨b', o', c', e, _, _, _, hc'⟩ := Rd.at_ hW.1 (by omega)
    injection e with e1 e2 e3
    injection e1 with e1
    injection e1 with e1 e4
    subst e1; subst e4
    exact hc' i _ (List.getElem?_eq_getElem hiv)
/-- A row of rows of the call's own. -/
def Orw (v : Value) (vs : List Value) : Wx := fun w S => w.ownsRow 0 23 1 v vs.length vs ∧ ∀ k, S k ↔ v.ownBlock = some k
theorem Wd.orw (v : Value) (vs : List Value) : Wd (Orw v vs) := by
  constructor
  · rintro w S ⟨h1, h2⟩ k hk
    exact (h1.lt k ((h2 k).1 hk)).2
  · rintro w w' S ⟨h1, h2⟩ hs hb
    exact ⟨own_kept h1 fun g hg => hb g ((h2 g).2 hg), h2⟩
def secP (vs : List Value) (ss : List (List UInt8)) (W : World) : Prop := vs.length = ss.length ∧ ∀ i (h : i < vs.length) (h' : i < ss.length), Bs W vs[i] ss[i]
def Rwv (v : Value) (vs : List Value) (ss : List (List UInt8)) : Wx := Both (Orw v vs) (Ob (secP vs ss))
theorem Wd.rwv (v : Value) (vs : List Value) (ss : List (List UInt8)) : Wd (Rwv v vs ss) := (Wd.orw v vs).both (Wd.ob _)
theorem Rwv.bss {v : Value} {vs : List Value} {ss : List (List UInt8)} {w : World} {S : Nat → Prop} (h : Rwv v vs ss w S) : Bss w v vs ss := by
  obtain ⟨S1, S2, h1, h2, _, _⟩ := h
  exact ⟨Rd.of_own h1.1, h2.get.1, h2.get.2⟩
theorem secP.snoc {vs : List Value} {ss : List (List UInt8)} {W : World} (h : secP vs ss W) {b : Value} {y : List UInt8} (hb : Bs W b y) : secP (vs ++ [b]) (ss ++ [y]) W := by
  refine ⟨by simp [h.1], fun i h1 h2 => ?_⟩
  by_cases hi : i < vs.length
  · have hi' : i < ss.length := by have := h.1; omega
    rw [List.getElem_append_left hi, List.getElem_append_left hi']
    exact h.2 i hi hi'
  · have hl := h.1
    simp only [List.length_append, List.length_singleton] at h1 h2
    obtain rfl : i = vs.length := by omega
    rw [List.getElem_append_right (Nat.le_refl _), List.getElem_append_right (by omega)]
    simpa [hl] using hb
theorem Orw.turn {v v' : Value} {vs vs' : List Value} {w w' : World} {S : Nat → Prop} (h : Orw v vs w S) (hf : Fw w v w' v') (ho : w'.ownsRow 0 23 1 v' vs'.length vs') : Turn (Orw v' vs') S w w' := by
  obtain ⟨h1, h2⟩ := h
  obtain ⟨hg, hb⟩ := hf
  refine ⟨_, ⟨ho, fun k => Iff.rfl⟩, fun k hk => ?_, Fp.of_grown hg fun k hk => (h2 k).2 hk⟩
  rcases hb with e | ⟨g, e, hge⟩
  · exact .inl ((h2 k).2 (e ▸ hk))
  · rw [e] at hk
    injection hk with hk
    exact .inr (hk ▸ hge)
section
variable {B : Nat} {X : Wx} {w w' : World}
theorem Up.orw {v : Value} {vs : List Value} (h : Up B (Both X (Orw v vs)) w) : w.ownsRow 0 23 1 v vs.length vs := by
  obtain ⟨S, h, _⟩ := h.snd
  exact h.1
theorem Up.orow {v v' : Value} {vs vs' : List Value} (hX : Wd X) (h : Up B (Both X (Orw v vs)) w) (hB : B ≤ w.heap.size) (hf : Fw w v w' v') (ho : w'.ownsRow 0 23 1 v' vs'.length vs') : Up B (Both X (Orw v' vs')) w' ∧ Below B w w' := by
  obtain ⟨S, ⟨S1, S2, h1, h2, h3, h4⟩, h5⟩ := h
  exact Up.turn h5 hB (Both.right hX h1 h3 h4 (Orw.turn h2 hf ho))
theorem Up.rows0 (h : Up B X w) : Up B (Both X (Both (Owb (.slice none 0 0) []) (Rwv (.slice none 0 0) [] []))) w := by
  obtain ⟨S, h1, h2⟩ := h
  have e1 : Owb (.slice none 0 0) [] w (fun _ => False) := ⟨OwB.nil w 0, fun k => by simp [Value.ownBlock]⟩
  have e2 : Orw (.slice none 0 0) [] w (fun _ => False) := ⟨World.ownsRow_nil w 0 _ 1, fun k => by simp [Value.ownBlock]⟩
  have e3 : Ob (secP [] []) w (fun _ => False) := Ob.none fun W => ⟨rfl, fun i h => (by cases h)⟩
  exact ⟨S, ⟨S, fun _ => False, h1, ⟨fun _ => False, fun _ => False, e1, ⟨fun _ => False, fun _ => False, e2, e3, fun k h => h.elim, fun k => by simp⟩, fun k h => h.elim, fun k => by simp⟩, fun k _ h => h, fun k => by simp⟩, h2⟩
/-- What came of a section is kept. -/
theorem Up.kept_ {v : Value} {vs : List Value} {ss : List (List UInt8)} {a b : Value} {x y : List UInt8} (h : Up B (Both X (Both (Orw v (vs ++ [b])) (Both (Ob (secP vs ss)) (Ob fun W => Bs W a x ∧ Bs W b y)))) w) : Up B (Both X (Rwv v (vs ++ [b]) (ss ++ [y]))) w := by
  obtain ⟨S, ⟨S1, S2, h1, ⟨S3, S4, k1, k2, k3, k4⟩, h3, h4⟩, h5⟩ := h
  exact ⟨S, ⟨S1, S2, h1, ⟨S3, S4, k1, (Ob.both k2).map fun W hW => hW.1.snoc hW.2.2, k3, k4⟩, h3, h4⟩, h5⟩
end

/-! ### what Encode answers is appended -/
section
variable {B : Nat} {E D : Wx} {w w7 w8 w9 : World} {vI vS v7 v9 a b : Value} {I x y : List UInt8} {us : List Value} {ss : List (List UInt8)}
theorem uo_app1 (hE : Wd E) (hD : Wd D) (h : Up B (Both (Both E (Both D (Both (Owb vI I) (Rwv vS us ss)))) (Ob fun W => Bs W a x ∧ Bs W b y)) w) (hB : B ≤ w.heap.size) (hf : Fw w vI w7 v7) (ho : OwB w7 0 v7 (I ++ x)) :
    Up B (Both (Both E (Both D (Both (Owb v7 (I ++ x)) (Both (Ob (secP us ss)) (Ob fun W => Bs W a x ∧ Bs W b y))))) (Orw vS us)) w7 ∧ Below B w w7 := by
  have h1 : Up B (Both (Both E (Both D (Both (Rwv vS us ss) (Ob fun W => Bs W a x ∧ Bs W b y)))) (Owb vI I)) w := h.ac (by ac_rfl)
  obtain ⟨h2, hb⟩ := h1.row (hE.both (hD.both ((Wd.rwv _ _ _).both (Wd.ob _)))) hB hf ho
  exact ⟨h2.ac (by unfold Rwv; ac_rfl), hb⟩
theorem uo_app2 {O : Wx} (hE : Wd E) (hD : Wd D) (hO : Wd O) (h : Up B (Both (Both E (Both D (Both O (Both (Ob (secP us ss)) (Ob fun W => Bs W a x ∧ Bs W b y))))) (Orw vS us)) w7) (hB : B ≤ w7.heap.size) (hA : Below w7.heap.size w7 w8) (hf : Fw w8 vS w9 v9) (ho : w9.ownsRow 0 23 1 v9 (us ++ [b]).length (us ++ [b])) :
    Up B (Both E (Both D (Both O (Rwv v9 (us ++ [b]) (ss ++ [y]))))) w9 ∧ Below B w7 w9 := by
  have hX : Wd (Both E (Both D (Both O (Both (Ob (secP us ss)) (Ob fun W => Bs W a x ∧ Bs W b y))))) := hE.both (hD.both (hO.both ((Wd.ob _).both (Wd.ob _))))
  obtain ⟨h2, hb⟩ := (h.keep (hX.both (Wd.orw _ _)) hA).orow hX (Nat.le_trans hB hA.size) hf ho
  refine ⟨?_, (hA.mono hB).trans hb⟩
  have h3 : Up B (Both (Both E (Both D O)) (Both (Orw v9 (us ++ [b])) (Both (Ob (secP us ss)) (Ob fun W => Bs W a x ∧ Bs W b y)))) w9 := h2.ac (by ac_rfl)
  exact h3.kept_.ac (by ac_rfl)
theorem uo_orw (h : Up B (Both E (Orw vS us)) w7) (o : Obj) : (w7.alloc o).ownsRow 0 23 1 vS us.length us :=
  own_kept h.orw fun g hg => ((Below.refl w7.heap.size w7).alloc (Nat.le_refl _) o).block g ((h.orw.lt g hg).2)
end

/-! ### the document's encoder, beside other words -/
section
variable {q t B s : Nat} {E : Qe} {Y : Wx} {w : World}
theorem uo_new {e : Ending} {w' : World} (h : ∃ q t S, e = .returned (.pointer (some ⟨q, 0, none⟩)) ∧ E8 q t (Qe.new (clampN 4096) (Int.toNat 9)) w' S ∧ (∀ k, S k → w.heap.size ≤ k) ∧ Below w.heap.size w w') :
    ∃ q t, e = .returned (.pointer (some ⟨q, 0, none⟩)) ∧ Up w.heap.size (E8 q t (Qe.new 4096 9)) w' ∧ Below w.heap.size w w' := by
  obtain ⟨q, t, S, he, h1, h2, h3⟩ := h
  exact ⟨q, t, he, ⟨S, h1, h2⟩, h3⟩
theorem uo_enc {lV : Value} {l : List Fd} (hY : Wd Y) (h : Up B (Both (E8 q t E) Y) w) (hB : B ≤ w.heap.size) (hg : E.T.gq) (hv : ∀ W, Below B w W → Fs W lV l) (hl : l.length ≤ 100) (hz : wsz l ≤ 6000) (ht : E.T.tot + l.length ≤ 800000) (hf : ∀ f ∈ l, fsz f ≤ 3000) (hop : E.op.length ≤ 100000) (hs : s < 18446744073709551616) (V : Int) (hV : (s : Int) = V) :
    Calls Try.prog 20 #[.pointer (some ⟨q, 0, none⟩), .int .u64 V, lV] w fun r w' => ∃ a b, r = .returned (.tuple #[a, b]) ∧ Up B (Both (Both (E8 q t (E.enc s l)) Y) (Ob fun W => Bs W a (E.acc s l).ins ∧ Bs W b (E.sec s l))) w' ∧ Below B w w' := by
  subst hV
  obtain ⟨S, ⟨S1, S2, h1, h2, h3, h4⟩, h5⟩ := h
  have hge : ∀ k, S1 k → B ≤ k := fun k hk => h5 k ((h4 k).2 (.inl hk))
  refine (encode8_any h1 hg (fun W hf => hv W (hf.below hB hge)) hl hz ht hf hop hs).mono ?_
  rintro r w' ⟨a, b, rfl, e', he, hsub, hfp, hoa, hob, ha1, hb1⟩
  have l2 := hY.lt h2
  have hd' := hY.besides h2 hfp fun k hk hk' => h3 k hk' hk
  refine ⟨a, b, rfl, ⟨fun k => (e' k ∨ S2 k) ∨ (a.ownBlock = some k ∨ b.ownBlock = some k), ⟨fun k => e' k ∨ S2 k, fun k => a.ownBlock = some k ∨ b.ownBlock = some k, ⟨e', S2, he, hd', fun k a b => (hsub k a).elim (fun h => h3 k h b) fun h => by have := l2 k b; omega, fun k => Iff.rfl⟩, (Ob.row hoa).and (Ob.row hob), ?_, fun k => Iff.rfl⟩, ?_⟩, hfp.below hB hge⟩
  · rintro k (hk | hk) (ha | hb)
    · exact ha1 k ha hk
    · exact hb1 k hb hk
    · have := hoa.ge ha; have := l2 k hk; omega
    · have := hob.ge hb; have := l2 k hk; omega
  · rintro k ((hk | hk) | (hk | hk))
    · exact (hsub k hk).elim (hge k) fun h => Nat.le_trans hB h
    · exact h5 k ((h4 k).2 (.inr hk))
    · exact Nat.le_trans hB (hoa.ge hk)
    · exact Nat.le_trans hB (hob.ge hk)
/-- Feed of what the decoder sent. -/
theorem uo_efeed {bV : Value} {b : List UInt8} (hY : Wd Y) (h : Up B (Both (E8 q t E) Y) w) (hB : B ≤ w.heap.size) (hr : E.rest = []) (hg : Sg (E.setRest b)) (hb : ∀ W S2, Y W S2 → Bs W bV b) :
    Calls Try.prog 22 #[.pointer (some ⟨q, 0, none⟩), bV] w fun r w' => r = .returned (.int .i64 0) ∧ Below B w w' := by
  obtain ⟨S, ⟨S1, S2, h1, h2, h3, h4⟩, h5⟩ := h
  refine (feed8_send h1 hr hg fun W hW => hb W S2 (hY.besides h2 hW fun k a b => h3 k b a)).mono ?_
  rintro r w' ⟨rfl, ht⟩
  obtain ⟨_, _, _, hf⟩ := ht
  exact ⟨rfl, hf.below hB fun k hk => h5 k ((h4 k).2 (.inl hk))⟩
end

/-! ### lengths -/
theorem light_of11 {l : List Fd} (h : lightB l = true) : l.length ≤ 70 ∧ sumF l ≤ 3000 := by
  unfold lightB at h
  simpa using h
theorem light_each11 {l : List Fd} (h : sumF l ≤ 3000) : ∀ f ∈ l, f.1.size ≤ 3000 ∧ f.2.size ≤ 3000 ∧ fsz f ≤ 3000 := by
  intro f hf
  obtain ⟨i, hi, rfl⟩ := List.getElem_of_mem hf
  have := fsz_le l i hi
  unfold fsz at *
  omega
theorem wsz_le11 : ∀ (l : List Fd), wsz l ≤ sumF l + 22 * l.length
  | [] => Nat.le_refl _
  | f :: l => by
    have h := wsz_le11 l
    unfold wsz at *
    simp only [List.map_cons, List.sum_cons, sumF, List.length_cons]
    omega
theorem enc_lens11 (E : Qe) (hg : E.T.gq) (s : Nat) (l : List Fd) (hl : l.length ≤ 8) (hs : sumF l ≤ 3000) : (E.acc s l).ins.length ≤ 4000 ∧ (E.sec s l).length ≤ 4000 := by
  have hw := wsz_le11 l
  have hc := capW_len E.said E.T.cap
  have h := qrun_len E.op E.K (freeQ E.op E.K E.B s) l ⟨E.T, capW E.said E.T.cap, [], [], 0⟩
  have h1 : (E.acc s l).ins.length ≤ (capW E.said E.T.cap).length + wsz l := h.1
  refine ⟨by omega, ?_⟩
  have hm : (E.acc s l).all.map (·.f) = l := by
    have h0 := (QInv.run E.op E.K (freeQ E.op E.K E.B s) l (QInv.start hg (capW E.said E.T.cap))).2
    simp only [List.map_nil, List.nil_append] at h0
    exact h0
  have h2 := linesW_len (E.acc s l).c (E.acc s l).all
  rw [hm] at h2
  have h3 : (E.sec s l).length = (qpre (E.acc s l).c (E.acc s l).c (E.T.cap / 32)).length + (linesW (E.acc s l).c (E.acc s l).all).length := by
    unfold Qe.sec
    rw [List.length_append]
  have h4 : (qpre (E.acc s l).c (E.acc s l).c (E.T.cap / 32)).length ≤ 22 := by
    unfold qpre
    have a1 := (pre_len 0 8 (ecN (E.acc s l).c (E.T.cap / 32))).2
    have a2 := (pre_len 0 7 ((E.acc s l).c - (E.acc s l).c)).2
    rw [List.length_append, if_pos (Nat.le_refl _)]
    omega
  omega
/-- The first k lists are short and light. -/
def rLt (ll : List (List Fd)) (k : Nat) : Prop := ∀ i, i < k → (ll.getD i []).length ≤ 6 ∧ sumF (ll.getD i []) ≤ 3000
theorem rLt.ok {ll : List (List Fd)} {k : Nat} (h : rLt ll k) : rOk ll k := fun i hi => ⟨(h i hi).1, fun f hf => by have := light_each11 (h i hi).2 f hf; omega⟩
theorem rLt.succ {ll : List (List Fd)} {k : Nat} (h : rLt ll k) (h1 : (ll.getD k []).length ≤ 6) (h2 : sumF (ll.getD k []) ≤ 3000) : rLt ll (k + 1) := fun i hi => by
  by_cases e : i = k
  · subst e; exact ⟨h1, h2⟩
  · exact h i (by omega)
theorem rk_of {ll : List (List Fd)} {k : Nat} (hk : k ≤ 6) (h : rLt ll k) : Rk ll k := rk_all (by omega) h.ok k (Nat.le_refl _)
theorem rS_len {ll : List (List Fd)} {k i : Nat} (hk : k ≤ 6) (h : rLt ll k) (hi : i < k) : (rS ll i).length ≤ 4000 := 
  (enc_lens11 (rE ll i) (rk_all (by omega) h.ok i (by omega)).ro.good.gq i _ (by have := (h i hi).1; omega) (h i hi).2).2
theorem rA_len {ll : List (List Fd)} {k i : Nat} (hk : k ≤ 6) (h : rLt ll k) (hi : i < k) : (rA ll i).ins.length ≤ 4000 := 
  (enc_lens11 (rE ll i) (rk_all (by omega) h.ok i (by omega)).ro.good.gq i _ (by have := (h i hi).1; omega) (h i hi).2).1
theorem rI_len {ll : List (List Fd)} : ∀ (k n : Nat), k ≤ n → n ≤ 6 → rLt ll n → (rI ll k).length ≤ 4000 * k
  | 0, n, _, _, _ => Nat.le_refl _
  | k + 1, n, hk, hn, h => by
    have h1 := rI_len k n (by omega) hn h
    have h2 := rA_len hn h (show k < n by omega)
    show (rI ll k ++ (rA ll k).ins).length ≤ _
    rw [List.length_append]
    omega
end Go.Proofs.Yteopmaaghhendaa

/-
  QdecOrder: what the decoder answers of the sections that are kept: ahead of the instructions, and behind them.
-/
namespace Go.Proofs.Yteopmaaghhendaa
open Go.RowKit Go.Maps
set_option linter.unusedVariables false
set_option linter.unusedSimpArgs false

theorem most4096 : mostN ((4096 : Nat) : Int) = 128 := by decide
theorem sec_at {ll : List (List Fd)} {n : Nat} {w : World} {v : Value} {us : List Value} (h : Bss w v us ((List.range n).map (rS ll))) (k : Nat) (hk : k < n) :
    ∃ (b o : Nat) (A : Option Addr) (m c : Nat), (∀ (W : World), (Instr.indexAt 46 v (.int .i64 (k : Int))).run Try.prog W = .ok (.pointer (some ⟨b, o, none⟩)) W) ∧
      ∀ W : World, Bss W v us ((List.range n).map (rS ll)) → W.cell? ⟨b, o, none⟩ = some (.slice A m c) ∧ Bs W (.slice A m c) (rS ll k) := by
  obtain ⟨b, o, u, h1, ⟨A, m, c, rfl⟩, _, _, h3⟩ := h.at_ k (by simpa using hk)
  refine ⟨b, o, A, m, c, h1, fun W hW => ?_⟩
  obtain ⟨a1, a2⟩ := h3 W hW
  refine ⟨a1, ?_⟩
  simpa using a2
section
variable {q p B n t i : Nat} {Y : Wx} {w : World} {ll : List (List Fd)}
/-- A section that needs entries waits. -/
theorem uo_wait (hY : Wd Y) (h : Up B (Both (Dq q p (x2 (rC ll) n t i)) Y) w) (hB : B ≤ w.heap.size) (hn : n ≤ 6) (hlt : rLt ll n) (hi : i < n) (k : Nat) (hk : tK n t i = k) (hc : 0 < rC ll k) (V : Int) (hV : (k : Int) = V) (bV : Value) (hb : ∀ W S2, Y W S2 → Bs W bV (rS ll k)) :
    Calls Try.prog 15 #[.pointer (some ⟨q, 0, none⟩), .int .u64 V, bV] w fun e w' => e = .returned (.tuple #[.slice none 0 0, .int .i64 27]) ∧ Up B (Both (Dq q p (x2 (rC ll) n t (i + 1))) Y) w' ∧ Below B w w' := by
  have hkn : k < n := hk ▸ tK_lt hi
  have R := rk_of hn hlt
  obtain ⟨m, r, h1, _⟩ := (R.secs k hkn).head (by have := R.tot hn; omega) 0 (by omega)
  have h2 := (x2_wait (c := rC ll) hi hn (by rw [hk]; exact hc)).1
  rw [hk] at h2
  have hl := wl2_len (rC ll) n t i
  have hu := uq_wait hY h hB rfl (Nat.le_refl 4096) (Nat.zero_le _) (by show (wl2 (rC ll) n t i).length < 1000000; omega) (show 9 < 9223372036854775808 by decide) k (by omega) V hV bV (rS ll k) hb (by have := rS_len hn hlt hkn; omega) (rC ll k) (rC ll k) m (by
    show qrd (rS ll k) 0 (mostN ((4096 : Nat) : Int)) = _
    rw [most4096]
    exact h1) hc
  rw [h2] at hu
  exact hu
/-- One that needs none is read at once. -/
theorem uo_read0 (hY : Wd Y) (h : Up B (Both (Dq q p (x2 (rC ll) n t i)) Y) w) (hB : B ≤ w.heap.size) (hn : n ≤ 6) (hlt : rLt ll n) (hi : i < n) (k : Nat) (hk : tK n t i = k) (hc : rC ll k = 0) (V : Int) (hV : (k : Int) = V) (bV : Value) (hb : ∀ W S2, Y W S2 → Bs W bV (rS ll k)) :
    Calls Try.prog 15 #[.pointer (some ⟨q, 0, none⟩), .int .u64 V, bV] w fun e w' => ∃ v, e = .returned (.tuple #[v, .int .i64 0]) ∧ Up B (Both (Dq q p (x2 (rC ll) n t (i + 1))) (Both (Owf v (ll.getD k [])) Y)) w' ∧ Below B w w' := by
  have hkn : k < n := hk ▸ tK_lt hi
  have R := rk_of hn hlt
  have hs := R.secs k hkn
  rw [hc] at hs
  have hl6 := (hlt k hkn).1
  obtain ⟨m, h1, h2, h3⟩ := hs.read0 (T' := ⟨[], 0, 0⟩) (by have := R.tot hn; omega) (by omega) 0 (by omega)
  have h4 := (x2_read (c := rC ll) hi (by rw [hk]; exact hc)).1
  rw [hk] at h4
  have hu := uq_decode hY h hB rfl (Nat.le_refl 4096) (Nat.zero_le _) (Nat.zero_le _) (Nat.zero_le _) k (by omega) V hV bV (rS ll k) hb (by have := rS_len hn hlt hkn; omega) 0 0 m (by
    show qrd (rS ll k) 0 (mostN ((4096 : Nat) : Int)) = _
    rw [most4096]
    exact h1) (Nat.le_refl 0) (by decide) h2 (ll.getD k []) h3
  rw [h4] at hu
  exact hu
/-- All are read when the instructions have come. -/
theorem uo_read (hY : Wd Y) (h : Up B (Both (Dq q p (x3 (tabD (rE ll n)) (rC ll) n t i)) Y) w) (hB : B ≤ w.heap.size) (hn : n ≤ 6) (hlt : rLt ll n) (hi : i < n) (V : Int) (hV : (i : Int) = V) (bV : Value) (hb : ∀ W S2, Y W S2 → Bs W bV (rS ll i)) :
    Calls Try.prog 15 #[.pointer (some ⟨q, 0, none⟩), .int .u64 V, bV] w fun e w' => ∃ v, e = .returned (.tuple #[v, .int .i64 0]) ∧ Up B (Both (Dq q p (x3 (tabD (rE ll n)) (rC ll) n t (i + 1))) (Both (Owf v (ll.getD i [])) Y)) w' ∧ Below B w w' := by
  have R := rk_of hn hlt
  have hs := R.secs i hi
  have ht := R.tot hn
  have hl6 := (hlt i hi).1
  have hci := R.cle i hi
  rw [R.tabD (by omega)] at h ⊢
  obtain ⟨m, h1, h2, h3⟩ := hs.read (by omega) (by omega)
  have hmw := mW_le (rC ll) (rE ll n).T.tot i fun j hj => R.cle j (by omega)
  have haw := aW_len (rC ll) i
  have hu := uq_decode hY h hB rfl (Nat.le_refl 4096) (by show (rE ll n).T.tot ≤ 1000000; omega) (by show mW (rC ll) i ≤ 1000000; omega) (by show (aW (rC ll) i).length ≤ 1000000; omega) i (by omega) V hV bV (rS ll i) hb (by have := rS_len hn hlt hi; omega) (rC ll i) (rC ll i) m (by
    show qrd (rS ll i) (rE ll n).T.tot (mostN ((4096 : Nat) : Int)) = _
    rw [most4096]
    exact h1) hci (by omega) h2 (ll.getD i []) h3
  rw [x3_step] at hu
  exact hu
/-- The instructions. -/
theorem uo_feed (hY : Wd Y) (h : Up B (Both (Dq q p (x2 (rC ll) n t n)) Y) w) (hB : B ≤ w.heap.size) (hn : n ≤ 6) (hlt : rLt ll n) (bV : Value) (hb : ∀ W S2, Y W S2 → Bs W bV (rI ll n)) :
    Calls Try.prog 10 #[.pointer (some ⟨q, 0, none⟩), bV] w fun e w' => e = .returned (.int .i64 0) ∧ Up B (Both (Dq q p (x3 (tabD (rE ll n)) (rC ll) n t 0)) Y) w' ∧ Below B w w' := by
  have hu := uq_feed hY h hB (Nat.le_refl 4096) ⟨Nat.zero_le 4096, Nat.le_refl 0⟩ (fun x hx => by cases hx) (Nat.zero_le _) hb (by have := rI_len n n (Nat.le_refl _) hn hlt; omega) (Nat.zero_le _)
  rw [x3_feed (rk_of hn hlt) t] at hu
  exact hu
/-- What is sent. -/
theorem uo_send (hY : Wd Y) (h : Up B (Both (Dq q p (x3 (tabD (rE ll n)) (rC ll) n t n)) Y) w) (hB : B ≤ w.heap.size) (hn : n ≤ 6) (hlt : rLt ll n) :
    Calls Try.prog 14 #[.pointer (some ⟨q, 0, none⟩)] w fun e w' => ∃ v, e = .returned v ∧ Up B (Both (Dq q p (x3 (tabD (rE ll n)) (rC ll) n t n).sent) (Both (Owb v (sendW (aW (rC ll) n) (mW (rC ll) n) (rE ll n).T.tot)) Y)) w' ∧ Below B w w' := by
  have R := rk_of hn hlt
  have ht := R.tot hn
  have hmw := mW_le (rC ll) (rE ll n).T.tot n fun j hj => R.cle j hj
  have haw := aW_len (rC ll) n
  have hu := uq_send hY h hB (by show (aW (rC ll) n).length ≤ 1000000; omega) (by show mW (rC ll) n ≤ (tabD (rE ll n)).tot; rw [R.tabD_tot]; exact hmw) (by show (tabD (rE ll n)).tot ≤ 1000000; rw [R.tabD_tot]; omega)
  rw [x3_send, R.tabD_tot] at hu
  exact hu
theorem uo_waiting3 (h : Up B (Both (Dq q p (x3 (tabD (rE ll n)) (rC ll) n t n)) Y) w) : Calls Try.prog 16 #[.pointer (some ⟨q, 0, none⟩)] w fun e w' => e = .returned (.int .i64 0) ∧ w' = w := by
  have hu := uq_waiting h
  have e : (x3 (tabD (rE ll n)) (rC ll) n t n).wl = [] := wl3_end _ _ _
  rw [e] at hu
  exact hu
theorem uo_waiting2 (h : Up B (Both (Dq q p (x2 (rC ll) n t i)) Y) w) : Calls Try.prog 16 #[.pointer (some ⟨q, 0, none⟩)] w fun e w' => e = .returned (.int .i64 ((wl2 (rC ll) n t i).length : Int)) ∧ w' = w := uq_waiting h
end
theorem uo_drop {B : Nat} {X O Y : Wx} {w : World} (h : Up B (Both X (Both O Y)) w) : Up B (Both X Y) w := (h.ac (show Both X (Both O Y) = Both (Both X Y) O from by ac_rfl)).fst
theorem uo_owf {B : Nat} {X Y : Wx} {w : World} {v : Value} {l : List Fd} (h : Up B (Both X (Both (Owf v l) Y)) w) : Fs w v l := by
  obtain ⟨S, h1, _⟩ := h.snd
  obtain ⟨S2, h2, _⟩ := h1.fst
  exact h2.1.fs
/-- What the decoder sends is taken. -/
theorem uo_last {B q p qe te : Nat} {X : Qr} {E : Qe} {Z : Wx} {w : World} {v : Value} {b : List UInt8} (hZ : Wd Z) (h : Up B (Both (Dq q p X) (Both (Owb v b) (Both (E8 qe te E) Z))) w) (hB : B ≤ w.heap.size) (hr : E.rest = []) (hg : Sg (E.setRest b)) :
    Calls Try.prog 22 #[.pointer (some ⟨qe, 0, none⟩), v] w fun r w' => r = .returned (.int .i64 0) ∧ Below B w w' := by
  have h1 : Up B (Both (E8 qe te E) (Both (Owb v b) (Both (Dq q p X) Z))) w := h.ac (by ac_rfl)
  exact uo_efeed ((Wd.owb _ _).both ((Wd.dq _ _ _).both hZ)) h1 hB hr hg fun W S2 h => by obtain ⟨S3, h3, _⟩ := h.fst; exact h3.1.bs
/-- A section's first byte. -/
theorem rS_first {ll : List (List Fd)} {n k : Nat} (hn : n ≤ 6) (hlt : rLt ll n) (hk : k < n) : ∃ h : 0 < (rS ll k).length, (0 < rC ll k → ((((rS ll k)[0]'h).toNat : Int) != 0) = true ∧ ((((rS ll k)[0]'h).toNat : Int) == 0) = false) ∧ (rC ll k = 0 → (((rS ll k)[0]'h).toNat : Int) = 0) := by
  obtain ⟨x, r, h1, h2⟩ := ((rk_of hn hlt).secs k hk).first
  have hl : 0 < (rS ll k).length := by rw [h1]; simp
  have hx : (rS ll k)[0]'hl = x := by simp only [h1, List.getElem_cons_zero]
  refine ⟨hl, fun hc => ?_, fun hc => ?_⟩
  · have hne := h2.2 hc
    have hn0 : (x.toNat : Int) ≠ 0 := fun e => hne (by
      have : x.toNat = 0 := by omega
      exact UInt8.toNat_inj.1 (by rw [this]; rfl))
    rw [hx]
    exact ⟨bne_iff_ne.2 hn0, beq_eq_false_iff_ne.2 hn0⟩
  · have h0 : x = 0 := Decidable.not_not.1 fun hne => by have := h2.1 hne; omega
    rw [hx, h0]
    rfl
end Go.Proofs.Yteopmaaghhendaa
