/-
  Texts put together: QpU, QpV, QpX, QpY, QpZ, QqA, QqB.
-/
import Derived.Test.YtebakjdeighdnaaGreatM37
import Derived.Test.YtebakjdeighdnaaGreatM36
import Derived.Test.YtebakjdeighdnaaGreatM35
import Derived.Test.YtebakjdeighdnaaGreatM32
import Derived.ArgAppend
import Derived.Test.YtebakjdeighdnaaGreatM01
import Derived.Deep.RegionHeld
import Derived.Test.YtebakjdeighdnaaGreatM14

/-
  An append to a row of its own: in place, or in a new block; a section under way in memory.
-/
namespace Go.Proofs.YtebakjdeighdnaaGreat
open Go.RowKit Go.Maps
set_option linter.unusedVariables false

section
variable {P : Program} (w : World)
theorem append_blk (k : Nat) (hk : 0 < k) (B : Nat) (t ty e : TypeId) (i : TypeInfo) (z : Value) (bytes : Nat) (ht : P.underlying t = some (.slice e)) (hi : P.info? e = some i) (hz : i.zero = some z)
    (hsize : i.size = k) (hby : i.bytes = bytes) (hzs : z.cells.size = k)
    (v u : Value) (n m : Nat) (xs news : List Value) (hv : w.ownsRow B e k v n xs) (hu : Rn k w u m news) (h1 : ∀ x ∈ news, x.oneCell' = true)
    (hbytes : (n + m) * bytes ≤ 140737488355328) (hmax : n + m ≤ maxLen) {v' : Value} {w' : World} (hrun : (Builtin.append_ #[t, t] ty #[v, u]).run P w = .ok v' w') :
    ∀ g, v'.ownBlock = some g → v.ownBlock = some g ∨ w.heap.size ≤ g := by
  have hul := hu.cells
  obtain ⟨Au, c, rfl, c1, c2, c4, c3⟩ := hu
  rcases c3 with ⟨rfl, rfl⟩ | ⟨x, rfl, hc⟩
  · obtain rfl : m = 0 := by omega
    have hr := run_append_owned_none w B t ty e i k ht hi v n xs hv
    rw [hr] at hrun
    injection hrun with e1 e2
    subst e1
    exact fun g hg => .inl hg
  · have hv0 := hv
    rcases hv.2 with ⟨rfl, rfl⟩ | ⟨g, cap, cur, rfl, hB, hh, hnc, hcm, hcs, htk⟩
    · have hxs : xs = [] := List.eq_nil_of_length_eq_zero (by have := hv.1; omega)
      subst hxs
      obtain ⟨v2, w2, hr, r1, _⟩ := run_append_own (P := P) w w.heap.size t ty e i z k bytes ht hi hz hsize hby hzs hk (.slice none 0 0) 0 [] (World.ownsRow_nil w _ e k) x m c news (by omega) hc h1 hmax hbytes (Nat.le_refl _)
      rw [hr] at hrun
      injection hrun with e1 e2
      subst e1
      exact fun g hg => .inr (r1.lt g hg).1
    · by_cases hroom : n + m ≤ cap
      · have hnl : news.length = m * k := by omega
        have hsp : n * k + news.length ≤ cap * k := by rw [hnl, ← Nat.add_mul]; exact Nat.mul_le_mul_right k hroom
        have hr := run_append_room_cells (P := P) w t ty e i ht hi g 0 n cap x m c news (by rw [hsize]; omega) hc h1 hroom (fun j hj => by
          rw [hsize, Nat.zero_add]
          have : n * k + j < cur.size := by omega
          simp [World.cell?, hh, this]) (fun j hj => World.ownsRow.frozenAt hv0 _)
        rw [hr] at hrun
        injection hrun with e1 e2
        subst e1
        exact fun g' hg' => .inl hg'
      · obtain ⟨v2, w2, hr, r1, _⟩ := run_append_arg_grows (P := P) w t ty e i z k bytes ht hi hz hsize hby hzs hk ⟨g, 0, none⟩ n cap xs hv0.1 (fun j u hu => by
          have hj : j < xs.length := (List.getElem?_eq_some_iff.1 hu).1
          rw [Addr.add_lit, Nat.zero_add, World.ownsRow.cellAt hv0 j (by have := hv0.1; omega)]
          exact hu) x m c news (by omega) hc (by omega) hmax hbytes
        rw [hr] at hrun
        injection hrun with e1 e2
        subst e1
        exact fun g' hg' => .inr (r1.lt g' hg').1
/-- The append, with all that is known of it. -/
theorem run_append_full (k : Nat) (hk : 0 < k) (B : Nat) (t ty e : TypeId) (i : TypeInfo) (z : Value) (bytes : Nat) (ht : P.underlying t = some (.slice e)) (hi : P.info? e = some i) (hz : i.zero = some z)
    (hsize : i.size = k) (hby : i.bytes = bytes) (hzs : z.cells.size = k)
    (v u : Value) (n m : Nat) (xs news : List Value) (hv : w.ownsRow B e k v n xs) (hu : Rn k w u m news) (h1 : ∀ x ∈ news, x.oneCell' = true)
    (hbytes : (n + m) * bytes ≤ 140737488355328) (hmax : n + m ≤ maxLen) (hB : B ≤ w.heap.size) :
    ∃ A c w', (Builtin.append_ #[t, t] ty #[v, u]).run P w = .ok (.slice A (n + m) c) w' ∧ w'.ownsRow B e k (.slice A (n + m) c) (n + m) (xs ++ news) ∧ Below B w w' ∧ w.grownBy w' v.ownBlock ∧ ∀ g, (Value.slice A (n + m) c).ownBlock = some g → v.ownBlock = some g ∨ w.heap.size ≤ g := by
  obtain ⟨v', w', hr, h2, h3, h4⟩ := run_append_ok (P := P) w k hk B t ty e i z bytes ht hi hz hsize hby hzs v u n m xs news hv hu h1 hbytes hmax hB
  have hb := append_blk (P := P) w k hk B t ty e i z bytes ht hi hz hsize hby hzs v u n m xs news hv hu h1 hbytes hmax hr
  obtain ⟨A, c, rfl⟩ : ∃ A c, v' = .slice A (n + m) c := by
    rcases h2.2 with ⟨rfl, h0⟩ | ⟨g, cap, cur, rfl, _⟩
    · exact ⟨none, 0, by rw [h0]⟩
    · exact ⟨_, _, rfl⟩
  exact ⟨A, c, w', hr, h2, h3, h4, hb⟩
end
end Go.Proofs.YtebakjdeighdnaaGreat

/-
  A section under way, in memory: the encoder, the draft, its rows.
-/
namespace Go.Proofs.YtebakjdeighdnaaGreat
open Go.RowKit Go.Maps
set_option linter.unusedVariables false

/-- What the encoder holds while a section of stream s is under way. -/
def qcD (N : Nat) (E : Qe) (s : Nat) (a : Qa) (aa : Nat → Nat) (LV : LvT) : Qc := ⟨E.said, E.B, E.K, E.err, N, a.T, secF aa LV, queF aa LV, useF (cntU (E.op ++ [⟨s, a.c, a.u⟩])), blkD (blkF (E.op ++ [⟨s, a.c, a.u⟩]) E.K), E.rest⟩
def PqD (q p N : Nat) (E : Qe) (s : Nat) (a : Qa) : Wx := fun w S => ∃ aa LV, Lv E.op aa LV N ∧ Raw q p (qcD N E s a aa LV) (Zl LV) w S
theorem Wd.pqD (q p N : Nat) (E : Qe) (s : Nat) (a : Qa) : Wd (PqD q p N E s a) := by
  constructor
  · rintro w S ⟨aa, LV, h1, h2⟩ k hk
    exact (Wd.raw _ _ _ _).lt h2 k hk
  · rintro w w' S ⟨aa, LV, h1, h2⟩ hs hb
    exact ⟨aa, LV, h1, (Wd.raw _ _ _ _).kept h2 hs hb⟩
/-- The cells of the draft. -/
def drF (q s : Nat) (oV pV lV : Value) (i : Nat) : Value := if i = 0 then .pointer (some ⟨q, 0, none⟩) else if i = 1 then .int .u64 (s : Int) else if i = 2 then oV else if i = 3 then pV else lV
def lnc (y : Ql × Value) : List Value := [y.2, .bool (decide (y.1.k = 1)), .int .u64 ((if y.1.k = 1 then y.1.i else 0 : Nat) : Int)]
def OwLn (w : World) (B : Nat) (v : Value) (ln : List (Ql × Value)) : Prop := w.ownsRow B 115 3 v ln.length (ln.flatMap lnc)
/-- The lines' bytes. -/
def Zd (ln : List (Ql × Value)) (W : World) : Prop := ∀ y ∈ ln, (∃ A n c, y.2 = .slice A n c) ∧ (y.1.k = 1 → y.2 = .slice none 0 0) ∧ (y.1.k ≠ 1 → Bs W y.2 (lineW 0 y.1))
structure Dr (q p N s d : Nat) (E : Qe) (S : Nat → Prop) (w : World) (a : Qa) (ins : List UInt8) (pl : List Nat) (ln : List (Ql × Value)) (oV pV lV : Value) (e T : Nat → Prop) (wx : World) : Prop where
  enc : PqD q p N E s a wx e
  row : wx.rowIs d 71 5 (drF q s oV pV lV)
  o : OwB wx w.heap.size oV ins
  p : OwU wx w.heap.size pV pl
  l : OwLn wx w.heap.size lV ln
  z : Ob (Zd ln) wx T
  dB : w.heap.size ≤ d
  ed : ¬ e d
  eo : ∀ k, oV.ownBlock = some k → ¬ e k
  ep : ∀ k, pV.ownBlock = some k → ¬ e k
  el : ∀ k, lV.ownBlock = some k → ¬ e k
  et : ∀ k, T k → w.heap.size ≤ k ∧ ¬ e k ∧ k ≠ d ∧ oV.ownBlock ≠ some k ∧ pV.ownBlock ≠ some k ∧ lV.ownBlock ≠ some k
  es : ∀ k, e k → S k ∨ w.heap.size ≤ k
  fp : Fp S w wx
theorem own_ne {w : World} {B B' k k' n n' : Nat} {ty ty' : TypeId} {v v' : Value} {xs xs' : List Value} (h : w.ownsRow B ty k v n xs) (h' : w.ownsRow B' ty' k' v' n' xs') (ht : ty ≠ ty') : ∀ g, v.ownBlock = some g → v'.ownBlock ≠ some g := fun g hg hg' => by
  obtain ⟨c, hc⟩ := own_blk h hg
  obtain ⟨c', hc'⟩ := own_blk h' hg'
  rw [hc] at hc'
  injection hc' with hc'
  injection hc' with _ e _
  exact ht e
theorem own_row_ne {w : World} {B k n d m : Nat} {ty ty' : TypeId} {v : Value} {xs : List Value} {F : Nat → Value} (h : w.ownsRow B ty k v n xs) (hr : w.rowIs d ty' m F) (ht : ty ≠ ty') : ∀ g, v.ownBlock = some g → g ≠ d := fun g hg e => by
  subst e
  obtain ⟨c, hc⟩ := own_blk h hg
  obtain ⟨c', hc', _⟩ := hr
  rw [hc] at hc'
  injection hc' with hc'
  injection hc' with _ e _
  exact ht e
theorem own_keep8 {w w' : World} {B k n : Nat} {ty : TypeId} {v : Value} {xs : List Value} (h : w.ownsRow B ty k v n xs) {S : Nat → Prop} (hf : Fp S w w') (hd : ∀ g, v.ownBlock = some g → ¬ S g) : w'.ownsRow B ty k v n xs :=
  own_kept h fun g hg => hf.block g (h.lt g hg).2 (hd g hg)
section
variable {q p N N' s d : Nat} {E : Qe} {S : Nat → Prop} {w wx wy : World} {a a' : Qa} {ins ins' : List UInt8} {pl pl' : List Nat} {ln ln' : List (Ql × Value)} {oV pV lV oV' pV' lV' : Value} {e T : Nat → Prop}
theorem Dr.keep (h : Dr q p N s d E S w a ins pl ln oV pV lV e T wx) (hb : Below wx.heap.size wx wy) : Dr q p N s d E S w a ins pl ln oV pV lV e T wy :=
  ⟨(Wd.pqD _ _ _ _ _ _).keep h.enc hb, h.row.of_block (hb.block d h.row.lt), h.o.keep hb, ownN_keep h.p hb, ownN_keep h.l hb, (Wd.ob _).keep h.z hb, h.dB, h.ed, h.eo, h.ep, h.el, h.et, h.es, h.fp.then (Fp.of_below hb)⟩
theorem Dr.cells (h : Dr q p N s d E S w a ins pl ln oV pV lV e T wx) : wx.cell? ⟨d, 0, none⟩ = some (.pointer (some ⟨q, 0, none⟩)) ∧ wx.cell? ⟨d, 1, none⟩ = some (.int .u64 (s : Int)) ∧ wx.cell? ⟨d, 2, none⟩ = some oV ∧ wx.cell? ⟨d, 3, none⟩ = some pV ∧ wx.cell? ⟨d, 4, none⟩ = some lV ∧ ∀ i, wx.frozen? ⟨d, i, none⟩ = false :=
  ⟨h.row.cell (i := 0) (by omega), h.row.cell (i := 1) (by omega), h.row.cell (i := 2) (by omega), h.row.cell (i := 3) (by omega), h.row.cell (i := 4) (by omega), fun i => h.row.frozen i⟩
theorem Dr.ecell (h : Dr q p N s d E S w a ins pl ln oV pV lV e T wx) : wx.cell? ⟨q, 0, none⟩ = some (.pointer (some ⟨p, 0, none⟩)) := by
  obtain ⟨aa, LV, _, bs, bq, bu, bb, vR, S1, S2, hp, _⟩ := h.enc
  exact hp.cells.1
theorem Dr.dlt (h : Dr q p N s d E S w a ins pl ln oV pV lV e T wx) : d < wx.heap.size := h.row.lt
theorem Dr.elt (h : Dr q p N s d E S w a ins pl ln oV pV lV e T wx) : ∀ k, e k → k < wx.heap.size := (Wd.pqD _ _ _ _ _ _).lt h.enc
/-- The encoder turns. -/
theorem Dr.encT (h : Dr q p N s d E S w a ins pl ln oV pV lV e T wx) (ht : Turn (PqD q p N' E s a') e wx wy) : ∃ e', Dr q p N' s d E S w a' ins pl ln oV pV lV e' T wy := by
  obtain ⟨e', x, s', f⟩ := ht
  have hnew : ∀ k, k < wx.heap.size → ¬ e k → ¬ e' k := fun k hk hn hh => (s' k hh).elim hn fun hge => by omega
  exact ⟨e', x, h.row.of_block (f.block d h.row.lt h.ed), h.o.kept fun k hk => f.block k (h.o.lt hk) (h.eo k hk), own_keep8 h.p f h.ep, own_keep8 h.l f h.el, (Wd.ob _).besides h.z f fun k hk => (h.et k hk).2.1, h.dB, hnew d h.row.lt h.ed,
    fun k hk => hnew k (h.o.lt hk) (h.eo k hk), fun k hk => hnew k (h.p.lt k hk).2 (h.ep k hk), fun k hk => hnew k (h.l.lt k hk).2 (h.el k hk), fun k hk => by
      obtain ⟨t1, t2, t3⟩ := h.et k hk
      exact ⟨t1, hnew k (h.z.1 k hk) t2, t3⟩, fun k hk => (s' k hk).elim (h.es k) fun hge => .inr (Nat.le_trans h.fp.size hge), h.fp.trans f h.es⟩
theorem drF_2 (q s : Nat) (oV oV' pV lV : Value) : ∀ j, j < 5 → (if j = 2 then oV' else drF q s oV pV lV j) = drF q s oV' pV lV j := fun j hj => by
  unfold drF
  match j, hj with
  | 0, _ => rfl
  | 1, _ => rfl
  | 2, _ => rfl
  | 3, _ => rfl
  | 4, _ => rfl
theorem drF_3 (q s : Nat) (oV pV pV' lV : Value) : ∀ j, j < 5 → (if j = 3 then pV' else drF q s oV pV lV j) = drF q s oV pV' lV j := fun j hj => by
  unfold drF
  match j, hj with
  | 0, _ => rfl
  | 1, _ => rfl
  | 2, _ => rfl
  | 3, _ => rfl
  | 4, _ => rfl
theorem drF_4 (q s : Nat) (oV pV lV lV' : Value) : ∀ j, j < 5 → (if j = 4 then lV' else drF q s oV pV lV j) = drF q s oV pV lV' j := fun j hj => by
  unfold drF
  match j, hj with
  | 0, _ => rfl
  | 1, _ => rfl
  | 2, _ => rfl
  | 3, _ => rfl
  | 4, _ => rfl
theorem fp_set (g i : Nat) (v : Value) (w : World) : Fp (fun k => k = g) w (w.setCell ⟨g, i, none⟩ v) := Fp.set _ _ _ _ rfl
/-- What is ordered has grown. -/
theorem Dr.ord (h : Dr q p N s d E S w a ins pl ln oV pV lV e T wx) (hg : wx.grownBy wy oV.ownBlock) (hv : ∀ g, oV'.ownBlock = some g → oV.ownBlock = some g ∨ wx.heap.size ≤ g) (ho : OwB wy w.heap.size oV' ins') :
    Dr q p N s d E S w a ins' pl ln oV' pV lV e T (wy.setCell ⟨d, 2, none⟩ oV') := by
  have f : Fp (fun k => oV.ownBlock = some k) wx wy := Fp.of_grown hg fun k hk => hk
  have hp' := own_ne h.p h.o (by decide)
  have hl' := own_ne h.l h.o (by decide)
  have hod := own_row_ne h.o h.row (by decide)
  have hpd := own_row_ne h.p h.row (by decide)
  have hld := own_row_ne h.l h.row (by decide)
  have enc1 := (Wd.pqD _ _ _ _ _ _).besides h.enc f fun k hk hh => h.eo k hh hk
  have row1 := h.row.of_block (f.block d h.row.lt fun hh => hod d hh rfl)
  have p1 := own_keep8 h.p f fun g hg => hp' g hg
  have l1 := own_keep8 h.l f fun g hg => hl' g hg
  have z1 := (Wd.ob _).besides h.z f fun k hk => (h.et k hk).2.2.2.1
  have hlt : ∀ k, e k → k < wx.heap.size := h.elt
  have hdlt := h.dlt
  have hvo : ∀ g, oV'.ownBlock = some g → g ≠ d := fun g hg hh => (hv g hg).elim (fun h1 => hod g h1 hh) fun h1 => by omega
  have f2 := fp_set d 2 oV' wy
  refine ⟨(Wd.pqD _ _ _ _ _ _).besides enc1 f2 (fun k hk hh => h.ed (hh ▸ hk)), (row1.set 2 oV').congr (drF_2 q s oV oV' pV lV), ho.kept fun k hk => f2.block k (ho.lt hk) (hvo k hk), own_keep8 p1 f2 hpd, own_keep8 l1 f2 hld, (Wd.ob _).besides z1 f2 (fun k hk => (h.et k hk).2.2.1), h.dB, h.ed,
    fun k hk => (hv k hk).elim (h.eo k) (fun h1 hh => by have := hlt k hh; omega), h.ep, h.el, fun k hk => ?_, h.es, (h.fp.trans f fun k hk => .inr (h.o.ge hk)).trans f2 fun k hk => .inr (by rw [hk]; exact h.dB)⟩
  obtain ⟨t1, t2, t3, t4, t5, t6⟩ := h.et k hk
  exact ⟨t1, t2, t3, fun hh => (hv k hh).elim t4 fun h1 => by have := h.z.1 k hk; omega, t5, t6⟩
/-- The places have grown. -/
theorem Dr.plc (h : Dr q p N s d E S w a ins pl ln oV pV lV e T wx) (hg : wx.grownBy wy pV.ownBlock) (hv : ∀ g, pV'.ownBlock = some g → pV.ownBlock = some g ∨ wx.heap.size ≤ g) (ho : OwU wy w.heap.size pV' pl') :
    Dr q p N s d E S w a ins pl' ln oV pV' lV e T (wy.setCell ⟨d, 3, none⟩ pV') := by
  have f : Fp (fun k => pV.ownBlock = some k) wx wy := Fp.of_grown hg fun k hk => hk
  have ho' := own_ne h.o h.p (by decide)
  have hl' := own_ne h.l h.p (by decide)
  have hod := own_row_ne h.o h.row (by decide)
  have hpd := own_row_ne h.p h.row (by decide)
  have hld := own_row_ne h.l h.row (by decide)
  have enc1 := (Wd.pqD _ _ _ _ _ _).besides h.enc f fun k hk hh => h.ep k hh hk
  have row1 := h.row.of_block (f.block d h.row.lt fun hh => hpd d hh rfl)
  have o1 : OwB wy w.heap.size oV ins := h.o.kept fun k hk => f.block k (h.o.lt hk) (ho' k hk)
  have l1 := own_keep8 h.l f fun g hg => hl' g hg
  have z1 := (Wd.ob _).besides h.z f fun k hk => (h.et k hk).2.2.2.2.1
  have hlt : ∀ k, e k → k < wx.heap.size := h.elt
  have hdlt := h.dlt
  have hvo : ∀ g, pV'.ownBlock = some g → g ≠ d := fun g hg hh => (hv g hg).elim (fun h1 => hpd g h1 hh) fun h1 => by omega
  have f2 := fp_set d 3 pV' wy
  refine ⟨(Wd.pqD _ _ _ _ _ _).besides enc1 f2 (fun k hk hh => h.ed (hh ▸ hk)), (row1.set 3 pV').congr (drF_3 q s oV pV pV' lV), o1.kept fun k hk => f2.block k (o1.lt hk) (hod k hk), own_keep8 ho f2 hvo, own_keep8 l1 f2 hld, (Wd.ob _).besides z1 f2 (fun k hk => (h.et k hk).2.2.1), h.dB, h.ed,
    h.eo, fun k hk => (hv k hk).elim (h.ep k) (fun h1 hh => by have := hlt k hh; omega), h.el, fun k hk => ?_, h.es, (h.fp.trans f fun k hk => .inr (h.p.lt k hk).1).trans f2 fun k hk => .inr (by rw [hk]; exact h.dB)⟩
  obtain ⟨t1, t2, t3, t4, t5, t6⟩ := h.et k hk
  exact ⟨t1, t2, t3, t4, fun hh => (hv k hh).elim t5 fun h1 => by have := h.z.1 k hk; omega, t6⟩
/-- A line more; its bytes lie in blocks that were made since wx. -/
theorem Dr.lin {w4 : World} (h : Dr q p N s d E S w a ins pl ln oV pV lV e T wx) (hb : Below wx.heap.size wx w4) {y : Ql × Value} {T3 : Nat → Prop} (hz : Ob (Zd [y]) w4 T3) (hT : ∀ k, T3 k → wx.heap.size ≤ k) (hg : w4.grownBy wy lV.ownBlock) (hv : ∀ g, lV'.ownBlock = some g → lV.ownBlock = some g ∨ w4.heap.size ≤ g) (ho : OwLn wy w.heap.size lV' (ln ++ [y])) :
    Dr q p N s d E S w a ins pl (ln ++ [y]) oV pV lV' e (fun k => T k ∨ T3 k) (wy.setCell ⟨d, 4, none⟩ lV') := by
  have h4 := h.keep hb
  have f : Fp (fun k => lV.ownBlock = some k) w4 wy := Fp.of_grown hg fun k hk => hk
  have ho' := own_ne h4.o h4.l (by decide)
  have hp' := own_ne h4.p h4.l (by decide)
  have hod := own_row_ne h4.o h4.row (by decide)
  have hpd := own_row_ne h4.p h4.row (by decide)
  have hld := own_row_ne h4.l h4.row (by decide)
  have enc1 := (Wd.pqD _ _ _ _ _ _).besides h4.enc f fun k hk hh => h.el k hh hk
  have row1 := h4.row.of_block (f.block d h4.row.lt fun hh => hld d hh rfl)
  have o1 : OwB wy w.heap.size oV ins := h4.o.kept fun k hk => f.block k (h4.o.lt hk) (ho' k hk)
  have p1 := own_keep8 h4.p f fun g hg => hp' g hg
  have hl3 : ∀ k, T3 k → lV.ownBlock ≠ some k := fun k hk hh => by have := (h.l.lt k hh).2; have := hT k hk; omega
  have z1 := (Wd.ob _).besides h4.z f fun k hk => (h.et k hk).2.2.2.2.2
  have z2 := (Wd.ob _).besides hz f hl3
  have hlt : ∀ k, e k → k < wx.heap.size := h.elt
  have hdlt := h.dlt
  have hsz := hb.size
  have hvo : ∀ g, lV'.ownBlock = some g → g ≠ d := fun g hg hh => (hv g hg).elim (fun h1 => hld g h1 hh) fun h1 => by omega
  have f2 := fp_set d 4 lV' wy
  have hT3d : ∀ k, T3 k → k ≠ d := fun k hk e => by have := hT k hk; omega
  have zz : Ob (Zd (ln ++ [y])) (wy.setCell ⟨d, 4, none⟩ lV') (fun k => T k ∨ T3 k) := (((Wd.ob _).besides z1 f2 (fun k hk => (h.et k hk).2.2.1)).and ((Wd.ob _).besides z2 f2 hT3d)).map fun W hW x hx => (List.mem_append.1 hx).elim (hW.1 x) (hW.2 x)
  refine ⟨(Wd.pqD _ _ _ _ _ _).besides enc1 f2 (fun k hk hh => h.ed (hh ▸ hk)), (row1.set 4 lV').congr (drF_4 q s oV pV lV lV'), o1.kept fun k hk => f2.block k (o1.lt hk) (hod k hk), own_keep8 p1 f2 hpd, own_keep8 ho f2 hvo, zz, h.dB, h.ed,
    h.eo, h.ep, fun k hk => (hv k hk).elim (h.el k) (fun h1 hh => by have := hlt k hh; omega), fun k hk => ?_, h.es, (h4.fp.trans f fun k hk => .inr (h.l.lt k hk).1).trans f2 fun k hk => .inr (by rw [hk]; exact h.dB)⟩
  rcases hk with hk | hk
  · obtain ⟨t1, t2, t3, t4, t5, t6⟩ := h.et k hk
    exact ⟨t1, t2, t3, t4, t5, fun hh => (hv k hh).elim t6 fun h1 => by have := h.z.1 k hk; omega⟩
  · have hge := hT k hk
    have hlt4 := hz.1 k hk
    exact ⟨Nat.le_trans h.fp.size hge, fun hh => by have := hlt k hh; omega, hT3d k hk, fun hh => by have := h.o.lt hh; omega, fun hh => by have := (h.p.lt k hh).2; omega, fun hh => (hv k hh).elim (hl3 k hk) fun h1 => by omega⟩
end
end Go.Proofs.YtebakjdeighdnaaGreat

/-
  Contract of the draft's use.
-/
namespace Go.Proofs.YtebakjdeighdnaaGreat
open Go.RowKit Go.Maps
set_option linter.unusedVariables false

theorem blkF_le {U : List Qs} {K s M : Nat} (h : ∀ x ∈ U, x.c ≤ M) : (blkF U K s).getD 0 ≤ M := by
  have hm : mxc U s ≤ M := by
    refine Nat.le_of_not_lt fun hlt => ?_
    unfold mxc at hlt
    obtain ⟨x, hx, hc⟩ := mxGo_lt.1 hlt
    unfold secs at hx
    have := h x (List.mem_filter.1 hx).1
    omega
  unfold blkF
  split
  · show mxc U s - 1 ≤ M; omega
  · exact Nat.zero_le _
theorem cntU_ref (op : List Qs) (s c c' i : Nat) (u : List Nat) : cntU (op ++ [⟨s, c', u ++ [i]⟩]) = if decide (i ∈ uq u) = true then cntU (op ++ [⟨s, c, u⟩]) else bumpU (cntU (op ++ [⟨s, c, u⟩])) i := by
  have l1 : ∀ j, cntU (op ++ [⟨s, c', u ++ [i]⟩]) j = cntU op j + if j ∈ u ++ [i] then 1 else 0 := fun j => cntU_snoc _ _ _
  have l2 : ∀ j, cntU (op ++ [⟨s, c, u⟩]) j = cntU op j + if j ∈ u then 1 else 0 := fun j => cntU_snoc _ _ _
  have hm : ∀ j, j ∈ u ++ [i] ↔ j ∈ u ∨ j = i := fun j => by rw [List.mem_append, List.mem_singleton]
  rw [decide_eq_decide.2 (mem_uq (a := i) (l := u))]
  by_cases hi : i ∈ u
  · rw [if_pos (decide_eq_true hi)]
    funext j
    rw [l1, l2]
    congr 1
    by_cases hj : j ∈ u
    · rw [if_pos hj, if_pos ((hm j).2 (.inl hj))]
    · rw [if_neg hj, if_neg (fun hh => ((hm j).1 hh).elim hj fun e => hj (e ▸ hi))]
  · rw [if_neg (by simpa using hi)]
    funext j
    unfold bumpU
    rw [l1, l2, l2]
    by_cases hj : j = i
    · subst hj
      rw [if_pos ((hm j).2 (.inr rfl)), if_pos rfl, if_neg hi]
    · rw [if_neg hj]
      congr 1
      by_cases hm2 : j ∈ u
      · rw [if_pos hm2, if_pos ((hm j).2 (.inl hm2))]
      · rw [if_neg hm2, if_neg (fun hh => ((hm j).1 hh).elim hm2 hj)]
section
variable {q p N N' s d : Nat} {E : Qe} {S : Nat → Prop} {w wx wy : World} {a a' : Qa} {ins ins' : List UInt8} {pl pl' : List Nat} {ln ln' : List (Ql × Value)} {oV pV lV oV' pV' lV' : Value} {e T : Nat → Prop}
theorem pduse_any {e : Nat → Prop} (h : PqD q p N E s a wx e) (hN : N + 2 ≤ 1000000000) (hs : okU s) {i : Nat} (hi : i ≤ 1000000) (hop : E.op.length ≤ 100000) (hUc : ∀ x ∈ E.op ++ [⟨s, a.c, a.u⟩], x.c ≤ 1000000) (f : Fd) :
    Calls Tryz.prog 94 #[.pointer (some ⟨q, 0, none⟩), .int .u64 (s : Int), .int .u64 (i : Int), .bool (decide (i ∈ uq a.u))] wx fun r w' => r = .returned (.tuple #[]) ∧ Turn (PqD q p (N + 2) E s (a.ref f i)) e wx w' := by
  obtain ⟨aa, LV, hlv, hraw⟩ := h
  have hcnt := cntU_le (E.op ++ [⟨s, a.c, a.u⟩]) i
  rw [List.length_append, List.length_singleton] at hcnt
  have hb := blkF_le (K := E.K) (s := s) hUc
  refine (puse_any hraw rfl rfl hN (by omega) hs (by unfold okU; omega) (by omega) (by omega) (decide (i ∈ uq a.u))).mono ?_
  rintro r w' ⟨rfl, ht⟩
  refine ⟨rfl, ?_⟩
  have e1 : blkU (blkF (E.op ++ [⟨s, a.c, a.u⟩]) E.K) E.K s i = blkF (E.op ++ [⟨s, max a.c (i + 1), a.u ++ [i]⟩]) E.K := funext fun j => (blkF_use E.op E.K s a.c i j a.u).symm
  have e2 := cntU_ref E.op s a.c (max a.c (i + 1)) i a.u
  obtain ⟨e', x, s', f'⟩ := ht
  refine ⟨e', ⟨aa, LV, ⟨hlv.op, fun t => Nat.le_trans (hlv.bd t) (by omega), hlv.sl⟩, ?_⟩, s', f'⟩
  unfold qcD at x ⊢
  simp only at x
  rw [e1] at x
  show Raw q p ⟨E.said, E.B, E.K, E.err, N + 2, a.T, secF aa LV, queF aa LV, useF (cntU (E.op ++ [⟨s, max a.c (i + 1), a.u ++ [i]⟩])), blkD (blkF (E.op ++ [⟨s, max a.c (i + 1), a.u ++ [i]⟩]) E.K), E.rest⟩ (Zl LV) w' e'
  rw [e2]
  exact x
end
end Go.Proofs.YtebakjdeighdnaaGreat

/-
  Contract of the draft's use: the walk.
-/
namespace Go.Proofs.YtebakjdeighdnaaGreat
open Go.RowKit Go.Maps
set_option linter.unusedVariables false

theorem infoU64q : ∃ i z, Tryz.prog.info? 32 = some i ∧ i.zero = some z ∧ z.cells.size = 1 ∧ i.size = 1 ∧ i.bytes = 8 := by
  have h : (Tryz.prog.info? 32).map (fun i => (i.zero, i.size, i.bytes)) = some (some (.int .u64 0), 1, 8) := by kernel_rfl
  cases hi : Tryz.prog.info? 32 with
  | none => rw [hi] at h; simp at h
  | some i =>
    rw [hi] at h
    simp only [Option.map_some, Option.some.injEq, Prod.mk.injEq] at h
    exact ⟨i, _, rfl, h.1, rfl, h.2.1, h.2.2⟩
theorem infoLn : ∃ i z, Tryz.prog.info? 115 = some i ∧ i.zero = some z ∧ z.cells.size = 3 ∧ i.size = 3 ∧ i.bytes = 40 := by
  have h : (Tryz.prog.info? 115).map (fun i => (i.zero, i.size, i.bytes)) = some (some (.agg #[.slice none 0 0, .bool false, .int .u64 0]), 3, 40) := by kernel_rfl
  cases hi : Tryz.prog.info? 115 with
  | none => rw [hi] at h; simp at h
  | some i =>
    rw [hi] at h
    simp only [Option.map_some, Option.some.injEq, Prod.mk.injEq] at h
    exact ⟨i, _, rfl, h.1, rfl, h.2.1, h.2.2⟩
theorem rn_new (w : World) (cs : Array Value) (ty : TypeId) : Rn cs.size (w.alloc (.cells cs ty)) (.slice (some ⟨w.heap.size, 0, none⟩) 1 1) 1 cs.toList := by
  refine ⟨_, 1, rfl, Nat.le_refl _, by unfold maxLen; omega, by simp, .inr ⟨_, rfl, fun j u hu => ?_⟩⟩
  rw [Addr.add_lit, Nat.zero_add]
  have := World.cell?_alloc_mark w cs ty (0, 0) j
  rw [this]
  simpa using hu
theorem lines_one (ln : List (Ql × Value)) (y : Ql × Value) : (ln ++ [y]).flatMap lnc = ln.flatMap lnc ++ lnc y := by simp
section
variable {q p N N' s d : Nat} {E : Qe} {S : Nat → Prop} {w wx wy : World} {a a' : Qa} {ins ins' : List UInt8} {pl pl' : List Nat} {ln ln' : List (Ql × Value)} {oV pV lV oV' pV' lV' : Value} {e T : Nat → Prop}
theorem Dr.at3 (h : Dr q p N s d E S w a ins pl ln oV pV lV e T wx) (hg : wx.grownBy wy pV.ownBlock) : wy.rowIs d 71 5 (drF q s oV pV lV) :=
  h.row.of_block (hg.block d h.dlt fun hh => own_row_ne h.p h.row (by decide) d hh.symm rfl)
theorem Dr.at4 (h : Dr q p N s d E S w a ins pl ln oV pV lV e T wx) (hg : wx.grownBy wy lV.ownBlock) : wy.rowIs d 71 5 (drF q s oV pV lV) :=
  h.row.of_block (hg.block d h.dlt fun hh => own_row_ne h.l h.row (by decide) d hh.symm rfl)
theorem Dr.at2 (h : Dr q p N s d E S w a ins pl ln oV pV lV e T wx) (hg : wx.grownBy wy oV.ownBlock) : wy.rowIs d 71 5 (drF q s oV pV lV) :=
  h.row.of_block (hg.block d h.dlt fun hh => own_row_ne h.o h.row (by decide) d hh.symm rfl)
/-- A line is appended: what the walk wants. -/
theorem Dr.push {w4 : World} (h : Dr q p N s d E S w a ins pl ln oV pV lV e T wx) (hb : Below wx.heap.size wx w4) {y : Ql × Value} {T3 : Nat → Prop} (hz : Ob (Zd [y]) w4 T3) (hT : ∀ k, T3 k → wx.heap.size ≤ k) (hln : ln.length ≤ 1000000) (ty : TypeId) :
    ∃ A c w6, (Builtin.append_ #[69, 69] ty #[lV, .slice (some ⟨w4.heap.size, 0, none⟩) 1 1]).run Tryz.prog (w4.alloc (.cells (lnc y).toArray 115)) = .ok (.slice A (ln.length + 1) c) w6 ∧
      w6.cell? ⟨d, 4, none⟩ = some lV ∧ w6.frozen? ⟨d, 4, none⟩ = false ∧ w6.cell? ⟨d, 0, none⟩ = some (.pointer (some ⟨q, 0, none⟩)) ∧
      Dr q p N s d E S w a ins pl (ln ++ [y]) oV pV (.slice A (ln.length + 1) c) e (fun k => T k ∨ T3 k) (w6.setCell ⟨d, 4, none⟩ (.slice A (ln.length + 1) c)) := by
  obtain ⟨i, z, i1, i2, i3, i4, i5⟩ := infoLn
  have hb5 := (Below.refl w4.heap.size w4).alloc (Nat.le_refl _) (.cells (lnc y).toArray 115)
  have h5 := (h.keep hb).keep hb5
  have hu := rn_new w4 (lnc y).toArray 115
  have hfp := h5.fp.size
  obtain ⟨A, c, w6, r1, r2, r3, r4, r5⟩ := run_append_full (P := Tryz.prog) (w4.alloc (.cells (lnc y).toArray 115)) 3 (by omega) w.heap.size 69 ty 115 i z 40 Tryz.underlying69 i1 i2 i4 i5 i3 lV _ ln.length 1 _ _ h5.l hu
    (by
      intro x hx
      simp only [lnc, List.mem_cons, List.not_mem_nil, or_false] at hx
      rcases hx with rfl | rfl | rfl
      · obtain ⟨⟨A, n, c, e⟩, _⟩ := hz.get y (List.mem_singleton_self _)
        rw [e]; rfl
      · rfl
      · rfl) (by omega) (by unfold maxLen; omega) hfp
  have hrow := h5.at4 r4
  refine ⟨A, c, w6, r1, hrow.cell (i := 4) (by omega), hrow.frozen 4, hrow.cell (i := 0) (by omega), ?_⟩
  refine h.lin (hb.trans (hb5.mono hb.size)) ((Wd.ob _).keep hz hb5) hT r4 r5 ?_
  unfold OwLn
  rw [lines_one, List.length_append, List.length_singleton]
  exact r2
/-- A place is appended. -/
theorem Dr.place (h : Dr q p N s d E S w a ins pl ln oV pV lV e T wx) (i : Nat) (hpl : pl.length ≤ 1000000) (ty : TypeId) :
    ∃ A c w6, (Builtin.append_ #[66, 66] ty #[pV, .slice (some ⟨wx.heap.size, 0, none⟩) 1 1]).run Tryz.prog (wx.alloc (.cells #[.int .u64 (i : Int)] 32)) = .ok (.slice A (pl.length + 1) c) w6 ∧
      w6.cell? ⟨d, 3, none⟩ = some pV ∧ w6.frozen? ⟨d, 3, none⟩ = false ∧ w6.cell? ⟨d, 0, none⟩ = some (.pointer (some ⟨q, 0, none⟩)) ∧
      Dr q p N s d E S w a ins (pl ++ [i]) ln oV (.slice A (pl.length + 1) c) lV e T (w6.setCell ⟨d, 3, none⟩ (.slice A (pl.length + 1) c)) := by
  obtain ⟨i0, z, i1, i2, i3, i4, i5⟩ := infoU64q
  have hb5 := (Below.refl wx.heap.size wx).alloc (Nat.le_refl _) (.cells #[.int .u64 (i : Int)] 32)
  have h5 := h.keep hb5
  have hu := rn_new wx #[.int .u64 (i : Int)] 32
  have hfp := h5.fp.size
  obtain ⟨A, c, w6, r1, r2, r3, r4, r5⟩ := run_append_full (P := Tryz.prog) (wx.alloc (.cells #[.int .u64 (i : Int)] 32)) 1 (by omega) w.heap.size 66 ty 32 i0 z 8 Tryz.underlying66 i1 i2 i4 i5 i3 pV _ pl.length 1 _ _ h5.p hu
    (by intro x hx; rw [List.mem_singleton.1 hx]; rfl) (by omega) (by unfold maxLen; omega) hfp
  have hrow := h5.at3 r4
  refine ⟨A, c, w6, r1, hrow.cell (i := 3) (by omega), hrow.frozen 3, hrow.cell (i := 0) (by omega), ?_⟩
  refine h5.plc r4 r5 ?_
  unfold OwU
  rw [List.length_append, List.length_singleton, List.map_append]
  exact r2
end
end Go.Proofs.YtebakjdeighdnaaGreat

/-
  Contract of the draft's use: the walk.
-/
namespace Go.Proofs.YtebakjdeighdnaaGreat
open Go.RowKit Go.Maps
set_option linter.unusedVariables false

section
variable {q p N N' s d : Nat} {E : Qe} {S : Nat → Prop} {w wx wy : World} {a a' : Qa} {ins ins' : List UInt8} {pl pl' : List Nat} {ln ln' : List (Ql × Value)} {oV pV lV oV' pV' lV' : Value} {e T : Nat → Prop}
/-- A line that names a place. -/
theorem zd_dyn (i : Nat) (f : Fd) (w : World) : Ob (Zd [(⟨1, i, f⟩, .slice none 0 0)]) w (fun _ => False) := Ob.none fun W y hy => by
  rw [List.mem_singleton.1 hy]
  exact ⟨⟨_, _, _, rfl⟩, fun _ => rfl, fun h => absurd rfl h⟩
set_option maxRecDepth 100000 in
set_option maxHeartbeats 8000000 in
theorem duse_any (h : Dr q p N s d E S w a ins (uq a.u) ln oV pV lV e T wx) (hN : N + 2 ≤ 1000000000) (hs : okU s) {i : Nat} (hi : i ≤ 1000000) (hop : E.op.length ≤ 100000) (hUc : ∀ x ∈ E.op ++ [⟨s, a.c, a.u⟩], x.c ≤ 1000000) (hpl : (uq a.u).length ≤ 100000) (hln : ln.length ≤ 100000) (f : Fd) :
    Calls Tryz.prog 58 #[.pointer (some ⟨d, 0, none⟩), .int .u64 (i : Int)] wx fun r w' => r = .returned (.tuple #[]) ∧
      ∃ pV' lV' e' T', Dr q p (N + 2) s d E S w (a.ref f i) ins (uq (a.u ++ [i])) (ln ++ [(⟨1, i, f⟩, .slice none 0 0)]) oV pV' lV' e' T' w' := by
  obtain ⟨c0, c1, c2, c3, c4, _⟩ := h.cells
  have HCON := Bx.mk (ucontains_any h.p.un i)
  have huq := uq_snoc a.u i
  have hsl : ∀ {v : Value} {ty : TypeId} {k n : Nat} {xs : List Value}, wx.ownsRow w.heap.size ty k v n xs → ∃ A c, v = .slice A n c := fun h2 => by
    rcases h2.2 with ⟨rfl, h0⟩ | ⟨g, cap, cur, rfl, _⟩
    · exact ⟨none, 0, by rw [h0]⟩
    · exact ⟨_, _, rfl⟩
  -- behind the places
  have HMID := Bx.mk (fun (pV2 : Value) (w2 : World) (h2 : Dr q p N s d E S w a ins (uq (a.u ++ [i])) ln oV pV2 lV e T w2) => (pduse_any (h2.keep (Below.refl w2.heap.size w2).drew).enc hN hs hi hop hUc f).mono (fun r w4 (hh : r = .returned (.tuple #[]) ∧ Turn (PqD q p (N + 2) E s (a.ref f i)) e w2.drew w4) => And.intro hh.1 ((h2.keep (Below.refl w2.heap.size w2).drew).encT hh.2)))
  have HLIN := Bx.mk (fun (pV2 : Value) (e2 : Nat → Prop) (w4 : World) (h4 : Dr q p (N + 2) s d E S w (a.ref f i) ins (uq (a.u ++ [i])) ln oV pV2 lV e2 T w4) (ty : TypeId) => h4.push (Below.refl _ _) (zd_dyn i f w4) (fun k hk => hk.elim) (by omega) ty)
  simp only [lnc] at HLIN
  obtain ⟨again, hag⟩ : ∃ again, decide (i ∈ uq a.u) = again := ⟨_, rfl⟩
  rw [hag] at HCON HMID
  have HOWN := Bx.mk h
  obtain ⟨lA, lc, hlv⟩ := hsl h.l
  obtain ⟨pA, pc, hpv⟩ := hsl h.p
  subst hlv
  subst hpv
  obtain ⟨II, hII⟩ := letter i
  obtain ⟨SS, hSS⟩ := letter s
  cases again with
  | true =>
    have hm : i ∈ uq a.u := of_decide_eq_true hag
    rw [if_pos hm] at huq
    have H2 := Bx.mk (HMID.out _ wx (by rw [huq]; exact h))
    have hS0 : wx.drew.cell? ⟨d, 0, none⟩ = some (.pointer (some ⟨q, 0, none⟩)) ∧ wx.drew.cell? ⟨d, 1, none⟩ = some (.int .u64 SS) := ⟨c0, by rw [← hSS]; exact c1⟩
    rw [hSS] at c1
    have HLIN2 := Bx.mk (fun (e2 : Nat → Prop) (w4 : World) (h4 : Dr q p (N + 2) s d E S w (a.ref f i) ins (uq (a.u ++ [i])) ln oV (.slice pA (uq a.u).length pc) (.slice lA ln.length lc) e2 T w4) (ty : TypeId) => HLIN.out _ e2 w4 h4 ty)
    simp only [if_true, hII, decide_true] at HLIN2
    rw [hII, hSS] at H2
    rw [hII] at HCON
    rw [hII]
    clear HMID HLIN h hs hi hop hUc hN hag hm hsl huq c2
    go_enter Tryz.func58, Tryz.ntmps58
    go_wp2_with (go_at_call 93; refine HCON.out.mono ?_; rintro r w1 ⟨rfl, rfl⟩)
    go_region_held (fun W => W.cell? ⟨d, 0, none⟩ = some (.pointer (some ⟨q, 0, none⟩)) ∧ W.cell? ⟨d, 1, none⟩ = some (.int .u64 SS)) (first | assumption) (first
      | (go_at_call 94; refine H2.out.mono ?_; rintro r w4 ⟨rfl, e2, hd4⟩; have hS4 : w4.cell? ⟨d, 0, none⟩ = some (.pointer (some ⟨q, 0, none⟩)) ∧ w4.cell? ⟨d, 1, none⟩ = some (.int .u64 SS) := ⟨hd4.cells.1, by rw [← hSS]; exact hd4.cells.2.1⟩))
    all_goals obtain ⟨_, _, _, _, m4, _⟩ := hd4.cells
    all_goals obtain ⟨m0, _⟩ := hS4
    all_goals obtain ⟨lA2, lc2, w6, r6, k4, kf, k0, hd6⟩ := HLIN2.out e2 w4 hd4 69
    all_goals have HD6 := Bx.mk hd6
    all_goals clear hd4 hd6 hS0 c0 c1 c3 c4
    all_goals go_wp2_with (at_builtin; refine wpList_append_run rfl _ _ 69 rfl _ _ rfl rfl r6 ?_)
    all_goals go_end0
    all_goals exact ⟨rfl, _, _, _, _, HD6.out⟩
  | false =>
    have hm : ¬ i ∈ uq a.u := of_decide_eq_false hag
    rw [if_neg hm] at huq
    obtain ⟨pA2, pc2, w6, r6, k3, kf, k0, hd6⟩ := h.place i (by omega) 66
    rw [← huq] at hd6
    have HD6 := Bx.mk hd6
    obtain ⟨w7, hw7⟩ : ∃ w7, w6.setCell ⟨d, 3, none⟩ (.slice pA2 ((uq a.u).length + 1) pc2) = w7 := ⟨_, rfl⟩
    rw [hw7] at HD6
    have H2 := Bx.mk (HMID.out _ w7 HD6.out)
    obtain ⟨m0, m1, _, _, m4, _⟩ := HD6.out.cells
    have hS0 : w7.drew.cell? ⟨d, 0, none⟩ = some (.pointer (some ⟨q, 0, none⟩)) ∧ w7.drew.cell? ⟨d, 1, none⟩ = some (.int .u64 SS) := ⟨m0, by rw [← hSS]; exact m1⟩
    have HLIN2 := Bx.mk (fun (e2 : Nat → Prop) (w4 : World) (h4 : Dr q p (N + 2) s d E S w (a.ref f i) ins (uq (a.u ++ [i])) ln oV (.slice pA2 ((uq a.u).length + 1) pc2) (.slice lA ln.length lc) e2 T w4) (ty : TypeId) => HLIN.out _ e2 w4 h4 ty)
    simp only [if_true, hII, decide_true] at HLIN2
    rw [hII, hSS] at H2
    rw [hII] at HCON r6
    rw [hII]
    clear HMID HLIN h hs hi hop hUc hN hag hm hsl huq c2 hd6 m1 c0 c1 c4 m0 m4
    have c0 := HOWN.out.cells.1
    go_enter Tryz.func58, Tryz.ntmps58
    go_wp2_with (first
      | (go_at_call 93; refine HCON.out.mono ?_; rintro r w1 ⟨rfl, rfl⟩)
      | (at_builtin; refine wpList_append_run rfl _ _ 66 rfl _ _ rfl rfl r6 ?_))
    go_region_held (fun W => W.cell? ⟨d, 0, none⟩ = some (.pointer (some ⟨q, 0, none⟩)) ∧ W.cell? ⟨d, 1, none⟩ = some (.int .u64 SS)) (first | assumption) (first
      | (go_at_call 94; refine H2.out.mono ?_; rintro r w4 ⟨rfl, e2, hd4⟩; have hS4 : w4.cell? ⟨d, 0, none⟩ = some (.pointer (some ⟨q, 0, none⟩)) ∧ w4.cell? ⟨d, 1, none⟩ = some (.int .u64 SS) := ⟨hd4.cells.1, by rw [← hSS]; exact hd4.cells.2.1⟩))
    all_goals obtain ⟨_, _, _, _, m4, _⟩ := hd4.cells
    all_goals obtain ⟨m0, _⟩ := hS4
    all_goals obtain ⟨lA2, lc2, w6', r6', k4, kf', k0', hd6'⟩ := HLIN2.out e2 w4 hd4 69
    all_goals have HD6' := Bx.mk hd6'
    all_goals clear hd4 hd6' hS0 c0 c3 r6 k3 kf k0
    all_goals go_wp2_with (at_builtin; refine wpList_append_run rfl _ _ 69 rfl _ _ rfl rfl r6' ?_)
    all_goals go_end0
    all_goals exact ⟨rfl, _, _, _, _, HD6'.out⟩
end
end Go.Proofs.YtebakjdeighdnaaGreat

/-
  What the draft's field calls, over a section under way.
-/
namespace Go.Proofs.YtebakjdeighdnaaGreat
open Go.RowKit Go.Maps
set_option linter.unusedVariables false

theorem findP_S (l : List Fd) (f : Fd) : findP l 0 f = .tuple #[.int .u64 ((findS l f).1 : Int), .bool (findS l f).2.1, .bool (findS l f).2.2] := by
  unfold findP
  cases h : (findS l f).2.1 with
  | true => rw [if_pos rfl, Nat.zero_add]
  | false =>
    have : findS l f = (0, false, false) := by
      unfold findS at h ⊢
      split at h
      · cases h
      · split at h
        · cases h
        · rfl
    rw [this]
    rfl
theorem findS_lt3 (f : Fd) : (findS T3 f).1 < 18446744073709551616 := by
  cases h : (findS T3 f).2.1 with
  | true =>
    obtain ⟨hi, _⟩ := findS_name h
    have := t3_len
    omega
  | false =>
    have : findS T3 f = (0, false, false) := by
      unfold findS at h ⊢
      split at h
      · cases h
      · split at h
        · cases h
        · rfl
    rw [this]
    exact (by omega : (0 : Nat) < 18446744073709551616)
theorem insB_W (f : Fd) : insB (findS T3 f).1 (findS T3 f).2.1 f = insW f := rfl
theorem litB_W (f : Fd) : litB (findS T3 f).1 (findS T3 f).2.1 f = lineW 0 (litQ f) := by
  unfold litB litQ
  cases h : (findS T3 f).2.1 with
  | true =>
    unfold lineW
    simp
  | false =>
    unfold lineW
    simp
theorem litQ_k (f : Fd) : (litQ f).k ≠ 1 := by
  unfold litQ
  split
  · exact (by omega : (2 : Nat) ≠ 1)
  · exact (by omega : (3 : Nat) ≠ 1)
/-- A line that is told in full. -/
theorem zd_own {w : World} {B : Nat} {v : Value} {y : Ql} (h : OwB w B v (lineW 0 y)) (hk : y.k ≠ 1) : Ob (Zd [(y, v)]) w (fun k => v.ownBlock = some k) :=
  h.ob.map fun W hW z hz => by
    rw [List.mem_singleton.1 hz]
    exact ⟨h.shape, fun e => absurd e hk, fun _ => hW⟩
theorem pin_eq (op : List Qs) (K : Nat) (s c : Nat) (now : List Nat) : pinC K (cntU (op ++ [⟨s, c, now⟩])) = pinQ op K now := funext fun x => by
  unfold pinC pinQ
  congr 1
  have h : decide (0 < cntU (op ++ [(⟨s, c, now⟩ : Qs)]) x) = (op ++ [(⟨s, c, now⟩ : Qs)]).any (fun y => decide (x ∈ y.u)) := by
    cases hb : (op ++ [(⟨s, c, now⟩ : Qs)]).any (fun y => decide (x ∈ y.u)) with
    | true => exact decide_eq_true (cntU_pos.2 hb)
    | false => exact decide_eq_false fun hh => by rw [cntU_pos.1 hh] at hb; cases hb
  rw [h, List.any_append, Bool.or_comm]
  simp
theorem room_eq (op : List Qs) (K s c : Nat) (T : Tab) (f : Fd) (now : List Nat) : roomC K (cntU (op ++ [⟨s, c, now⟩])) T f = roomQ op K T f now := by
  unfold roomC roomQ
  rw [pin_eq]
section
variable {q p N N' s d : Nat} {E : Qe} {S : Nat → Prop} {w wx wy : World} {a a' : Qa} {e T : Nat → Prop}
theorem pdmayInsert (h : PqD q p N E s a wx e) (hgq : a.T.gq) (hop : E.op.length ≤ 100000) (f : Fd) (hf : fsz f ≤ 100000) :
    Calls Tryz.prog 53 #[.pointer (some ⟨q, 0, none⟩), .agg #[.string f.1, .string f.2]] wx fun r w' => r = .returned (.bool (roomQ E.op E.K a.T f a.u)) ∧ Below wx.heap.size wx w' := by
  obtain ⟨aa, LV, hlv, hraw⟩ := h
  rw [← room_eq E.op E.K s a.c a.T f a.u]
  exact mayInsert_any hraw rfl hgq (fun x => by have := cntU_le (E.op ++ [⟨s, a.c, a.u⟩]) x; rw [List.length_append, List.length_singleton] at this; omega) f hf
/-- May a section use a place? -/
theorem blkQ_draft (op : List Qs) (K s c : Nat) (u : List Nat) (x : Nat) : blkQ (op ++ [⟨s, c, u⟩]) K x = (blkQ op K x || (decide (s = x) && decide (K < c))) := by
  unfold blkQ
  rw [List.any_append]
  simp
theorem use_free (E : Qe) (s c : Nat) (u bl : List Nat) (i : Nat) (hinv : E.K < c → freeQ E.op E.K E.B s = true) (hb : c ≤ E.K → bl.length = manyQ E.op E.K E.op.length) :
    (decide (i < E.K) || decide (bl.length < E.B) || (blkF (E.op ++ [⟨s, c, u⟩]) E.K s).isSome) = (decide (i < E.K) || freeQ E.op E.K E.B s) := by
  rw [blkF_some, blkQ_draft]
  by_cases hc : E.K < c
  · rw [hinv hc]
    simp [hc]
  · rw [hb (by omega)]
    unfold freeQ
    simp [hc]
    cases decide (i < E.K) <;> cases blkQ E.op E.K s <;> simp
theorem pdmayUse (h : PqD q p N E s a wx e) (hs : okU s) {i : Nat} (hi : okU i) (hinv : E.K < a.c → freeQ E.op E.K E.B s = true) (hop : ∀ x ∈ E.op, x.s < 18446744073709551616) :
    Calls Tryz.prog 57 #[.pointer (some ⟨q, 0, none⟩), .int .u64 (s : Int), .int .u64 (i : Int)] wx fun r w' => r = .returned (.bool (decide (i < E.K) || freeQ E.op E.K E.B s)) ∧ Below wx.heap.size wx w' := by
  obtain ⟨aa, LV, hlv, hraw⟩ := h
  obtain ⟨bl, b1, b2, b3⟩ : ∃ bl : List Nat, bl.Nodup ∧ (∀ t, t ∈ bl ↔ blkQ (E.op ++ [⟨s, a.c, a.u⟩]) E.K t = true) ∧ (a.c ≤ E.K → bl.length = manyQ E.op E.K E.op.length) := by
    by_cases hc : E.K < a.c
    · obtain ⟨bl, b1, b2, _⟩ := many_keys (E.op ++ [⟨s, a.c, a.u⟩]) E.K
      exact ⟨bl, b1, b2, fun hh => by omega⟩
    · obtain ⟨bl, b1, b2, b3⟩ := many_keys E.op E.K
      refine ⟨bl, b1, fun t => ?_, fun _ => b3⟩
      rw [b2 t, blkQ_draft]
      simp [hc]
  have hok : ∀ t, blkQ (E.op ++ [⟨s, a.c, a.u⟩]) E.K t = true → okU t := fun t ht => by
    unfold blkQ at ht
    obtain ⟨x, hx, hh⟩ := List.any_eq_true.1 ht
    rw [Bool.and_eq_true] at hh
    have e1 := of_decide_eq_true hh.1
    rcases List.mem_append.1 hx with hx | hx
    · have := hop x hx
      unfold okU; omega
    · rw [List.mem_singleton.1 hx] at e1
      rw [← e1]; exact hs
  refine (mayUse_any hraw rfl b1 (fun t => ⟨fun ht => ⟨hok t ((b2 t).1 ht), by rw [blkF_some]; exact (b2 t).1 ht⟩, fun ht => (b2 t).2 (by rw [← blkF_some]; exact ht.2)⟩) hs hi).mono ?_
  rintro r w' ⟨rfl, hb⟩
  exact ⟨by rw [show (qcD N E s a aa LV).K = E.K from rfl, show (qcD N E s a aa LV).B = E.B from rfl, use_free E s a.c a.u bl i hinv b3], hb⟩
/-- An entry more. -/
theorem pdadd (h : PqD q p N E s a wx e) {v : Value} {f : Fd} (hv : Fs wx v [f]) (hs : ∀ g, v.ownBlock = some g → g < wx.heap.size ∧ ¬ e g) (ht : a.T.tot + 1 ≤ 1000000) (hz : fsz f ≤ 1000000) :
    Calls Tryz.prog 55 #[.pointer (some ⟨p, 0, none⟩), v] wx fun r w' => (∃ x, r = .returned x) ∧ Turn (PqD q p N E s (a.insd f)) e wx w' := by
  obtain ⟨aa, LV, hlv, bs, bq, bu, bb, vR, S1, S2, hp, hS⟩ := h
  refine (add_any hp.tb hv (fun g hg => ⟨(hs g hg).1, fun hh => (hs g hg).2 ((hS g).2 (.inl hh))⟩) (by show a.T.tot + 1 ≤ 1000000; exact ht) (by intro x hx; rw [List.mem_singleton.1 hx]; exact hz)).mono ?_
  rintro r w' ⟨rfl, htt⟩
  obtain ⟨e', x, s', f'⟩ := hp.tab htt
  exact ⟨⟨_, rfl⟩, e', ⟨aa, LV, hlv, x⟩, fun k hk => (s' k hk).imp (hS k).2 id, f'.mono fun k hk => (hS k).2 hk⟩
theorem pdcount (h : PqD q p N E s a wx e) : Calls Tryz.prog 54 #[.pointer (some ⟨p, 0, none⟩)] wx fun r w' => r = .returned (.int .u64 (a.T.tot : Int)) ∧ Below wx.heap.size wx w' := by
  obtain ⟨aa, LV, hlv, hraw⟩ := h
  obtain ⟨S1, h1⟩ := hraw.tb
  exact count_any h1
theorem pdfind (h : PqD q p N E s a wx e) (f : Fd) (hf : Sized f) : Calls Tryz.prog 52 #[.pointer (some ⟨p, 0, none⟩), .agg #[.string f.1, .string f.2]] wx fun r w' => r = .returned (find3 (findT a.T.l a.T.first f)) ∧ Below wx.heap.size wx w' := by
  obtain ⟨aa, LV, hlv, hraw⟩ := h
  obtain ⟨S1, h1⟩ := hraw.tb
  exact find_any h1 f hf
end
end Go.Proofs.YtebakjdeighdnaaGreat

/-
  The draft's field: the ways that end at a line of its own.
-/
namespace Go.Proofs.YtebakjdeighdnaaGreat
open Go.RowKit Go.Maps
set_option linter.unusedVariables false

theorem lnc_own (y : Ql) (v : Value) (hk : y.k ≠ 1) : lnc (y, v) = [v, .bool false, .int .u64 0] := by
  unfold lnc
  simp [hk]
section
variable {q p N N' s d : Nat} {E : Qe} {S : Nat → Prop} {w wx wy : World} {a a' : Qa} {ins ins' : List UInt8} {pl pl' : List Nat} {ln ln' : List (Ql × Value)} {oV pV lV oV' pV' lV' : Value} {e T : Nat → Prop}
/-- A line of its own is appended. -/
theorem Dr.pushO {w4 : World} (h : Dr q p N s d E S w a ins pl ln oV pV lV e T wx) (hb : Below wx.heap.size wx w4) {y : Ql} {v : Value} (ho : OwB w4 wx.heap.size v (lineW 0 y)) (hk : y.k ≠ 1) (hln : ln.length ≤ 1000000) (ty : TypeId) :
    ∃ A c w6, (Builtin.append_ #[69, 69] ty #[lV, .slice (some ⟨w4.heap.size, 0, none⟩) 1 1]).run Tryz.prog (w4.alloc (.cells #[v, .bool false, .int .u64 0] 115)) = .ok (.slice A (ln.length + 1) c) w6 ∧
      (w4.alloc (.cells #[v, .bool false, .int .u64 0] 115)).cell? ⟨d, 4, none⟩ = some lV ∧ w6.cell? ⟨d, 4, none⟩ = some lV ∧ w6.frozen? ⟨d, 4, none⟩ = false ∧ w6.cell? ⟨d, 0, none⟩ = some (.pointer (some ⟨q, 0, none⟩)) ∧
      ∃ lV' T', Dr q p N s d E S w (a.line y) ins pl (ln ++ [(y, v)]) oV pV lV' e T' (w6.setCell ⟨d, 4, none⟩ (.slice A (ln.length + 1) c)) := by
  obtain ⟨A, c, w6, r1, r2, r3, r4, r5⟩ := h.push hb (zd_own ho hk) (fun k hk => ho.ge hk) hln ty
  rw [lnc_own y v hk] at r1
  exact ⟨A, c, w6, r1, ((h.keep hb).keep ((Below.refl w4.heap.size w4).alloc (Nat.le_refl _) _)).cells.2.2.2.2.1, r2, r3, r4, _, _, ⟨r5.enc, r5.row, r5.o, r5.p, r5.l, r5.z, r5.dB, r5.ed, r5.eo, r5.ep, r5.el, r5.et, r5.es, r5.fp⟩⟩
set_option maxRecDepth 100000 in
set_option maxHeartbeats 8000000 in
theorem dfield_whole (h : Dr q p N s d E S w a ins pl ln oV pV lV e T wx) (f : Fd) (hf : SizedS f) (hW : (findS T3 f).2.2 = true) (hln : ln.length ≤ 100000) :
    Calls Tryz.prog 25 #[.pointer (some ⟨d, 0, none⟩), .agg #[.string f.1, .string f.2]] wx fun r w' => r = .returned (.tuple #[]) ∧
      ∃ v lV' T', Dr q p N s d E S w (a.line ⟨0, (findS T3 f).1, f⟩) ins pl (ln ++ [(⟨0, (findS T3 f).1, f⟩, v)]) oV pV lV' e T' w' := by
  have hlt := findS_lt3 f
  have HFIND : Bx (∀ W, Calls Tryz.prog 50 #[.agg #[.string f.1, .string f.2]] W fun e w' => e = .returned (.tuple #[.int .u64 ((findS T3 f).1 : Int), .bool (findS T3 f).2.1, .bool true]) ∧ Below W.heap.size W w') := ⟨fun W => by rw [← hW, ← findP_S]; exact findH3_any f W hf⟩
  obtain ⟨i, hi⟩ : ∃ i, (findS T3 f).1 = i := ⟨_, rfl⟩
  obtain ⟨nm, hnm⟩ : ∃ nm, (findS T3 f).2.1 = nm := ⟨_, rfl⟩
  rw [hi] at hlt HFIND
  rw [hnm] at HFIND
  rw [hi]
  obtain ⟨I, hI⟩ := letter i
  have HNUM := Bx.mk (fun W => qnumber_at 3 192 6 (by omega) (by omega) (by decide) i 3 6 I rfl rfl hI hlt W)
  have HPUSH := Bx.mk (fun (wz w4 : World) (v : Value) (hz : Below wx.heap.size wx wz) (hb : Below wz.heap.size wz w4) (ho : OwB w4 wz.heap.size v (pre 192 6 i)) (ty : TypeId) => (h.keep hz).pushO hb (y := ⟨0, i, f⟩) ho (fun hh => Nat.zero_ne_one hh) (by omega) ty)
  have HC := Bx.mk (fun (wz : World) (hz : Below wx.heap.size wx wz) => (h.keep hz).cells)
  obtain ⟨f1, f2⟩ := f
  simp only [hI] at HFIND HPUSH ⊢
  have HB0 := Bx.mk ((Below.refl wx.heap.size wx).alloc (Nat.le_refl _) (.cells #[.string f1, .string f2] 53))
  obtain ⟨e1, e2⟩ := (Fb.new 53 wx (f1, f2)).cells
  clear h hf hW hln hlt hi hnm hI
  go_enter Tryz.func25, Tryz.ntmps25
  go_wp2_with (go_at_call 50; refine (HFIND.out _).mono ?_; rintro r w1 ⟨rfl, hb1⟩; have HB1 := Bx.mk (HB0.out.trans (hb1.mono HB0.out.size)); obtain ⟨c0, _, _, _, c4, _⟩ := HC.out w1 HB1.out; clear hb1)
  go_region_law (first
    | (refine step_append_run rfl (.tmp 22) (.tmp 26) 69 rfl lV _ rfl rfl r6 ?_)
    | (go_simp; go_at_call 51; refine (HNUM.out _).mono ?_; rintro r w3 ⟨v3, rfl, ho3, b3⟩; obtain ⟨vA, vn, vc, rfl⟩ := ho3.shape; have HB3 := Bx.mk (((Below.refl w1.heap.size w1).drew).trans b3); obtain ⟨m0, _, _, _, m4, _⟩ := HC.out w3 (HB1.out.trans (HB3.out.mono HB1.out.size)); obtain ⟨lA, lc, w6, r6, n4, k4, kf, k0, lV', T', hd6⟩ := HPUSH.out w1 w3 _ HB1.out HB3.out ho3 69; have HD6 := Bx.mk hd6; clear hd6))
  all_goals go_wp2_with fail
  all_goals refine bodyPost_ret (results_none rfl _ _ _) rfl ?_
  all_goals exact ⟨rfl, _, _, _, HD6.out⟩
end
end Go.Proofs.YtebakjdeighdnaaGreat
