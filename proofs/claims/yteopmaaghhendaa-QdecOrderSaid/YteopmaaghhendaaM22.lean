/-
  Texts put together: QpC, QpP, QpQ, QpS, QpT, QpR, QpD, QpU, QpV, QpX, QpY, QrA, QpZ, QrB, QqA, QqB, QqC, QrC, QqD, QqE, QqF, QqG.
-/
import Derived.Test.YteopmaaghhendaaM19
import Derived.Test.YteopmaaghhendaaM17
import Derived.Test.YteopmaaghhendaaM18
import Derived.Test.YteopmaaghhendaaM13
import Derived.Test.YteopmaaghhendaaM12
import Derived.Test.YteopmaaghhendaaM01
import Derived.Deep.RegionHeld
import Derived.ArgAppend
import Derived.Test.YteopmaaghhendaaM20
import Derived.Test.YteopmaaghhendaaM06
import Derived.Deep.RegionLaw
import Derived.Deep.RegionHeldLaw
import Derived.BigQuiet
import Derived.Handy

/-
  Contracts of the program's number, setCapacity, secret, text, insertion, literal.
-/
namespace Go.Proofs.Yteopmaaghhendaa
open Go.RowKit
set_option linter.unusedVariables false

end Go.Proofs.Yteopmaaghhendaa

/-
  One instruction of the decoder stream, as mathematics; contract of the encoder's instruction.
-/
namespace Go.Proofs.Yteopmaaghhendaa
open Go.RowKit Go.Maps
set_option linter.unusedVariables false

section
variable {q p N : Nat} {E : Qe} {w w' : World} {S : Nat → Prop}
end
end Go.Proofs.Yteopmaaghhendaa

/-
  The decoder stream fed, as mathematics; contract of the encoder's Feed.
-/
namespace Go.Proofs.Yteopmaaghhendaa
open Go.RowKit Go.Maps
set_option linter.unusedVariables false

def Qe.setRest (E : Qe) (r : List UInt8) : Qe := ⟨E.T, E.B, E.K, E.op, r, E.err, E.said⟩
section
variable {q p N : Nat} {E : Qe} {w w' : World} {S : Nat → Prop}
end
end Go.Proofs.Yteopmaaghhendaa

/-
  Contracts of the encoder's hasRoom and mayInsert.
-/
namespace Go.Proofs.Yteopmaaghhendaa
open Go.RowKit Go.Maps
set_option linter.unusedVariables false

theorem i64_keep {x : Int} (h1 : -4611686018427387904 ≤ x) (h2 : x ≤ 4611686018427387904) : wrap64 x = x ∧ IntKind.i64.wrap x = x := by
  refine ⟨?_, ?_⟩
  · unfold wrap64; omega
  · rw [IntKind.wrap_i64]; omega
section
variable {q p : Nat} {X : Qc} {Z : World → Prop} {w w' : World} {S : Nat → Prop} {c : Nat → Nat}
end
end Go.Proofs.Yteopmaaghhendaa

/-
  Contract of the encoder's mayInsert.
-/
namespace Go.Proofs.Yteopmaaghhendaa
open Go.RowKit Go.Maps
set_option linter.unusedVariables false

section
variable {q p : Nat} {X : Qc} {Z : World → Prop} {w w' : World} {S : Nat → Prop} {c : Nat → Nat}
end
end Go.Proofs.Yteopmaaghhendaa

/-
  Contract of the encoder's Feed.
-/
namespace Go.Proofs.Yteopmaaghhendaa
open Go.RowKit Go.Maps
set_option linter.unusedVariables false

section
variable {q p N n : Nat} {E E' : Qe} {w w' w1 wx w2 : World} {S : Nat → Prop} {r l0 : List UInt8} {v0 v v2 : Value}
end
end Go.Proofs.Yteopmaaghhendaa

/-
  Contracts of the program's insertion and literal.
-/
namespace Go.Proofs.Yteopmaaghhendaa
open Go.RowKit
set_option linter.unusedVariables false

end Go.Proofs.Yteopmaaghhendaa

/-
  An append to a row of its own: in place, or in a new block; a section under way in memory.
-/
namespace Go.Proofs.Yteopmaaghhendaa
open Go.RowKit Go.Maps
set_option linter.unusedVariables false

section
variable {P : Program} (w : World)
theorem append_blk (k : Nat) (hk : 0 < k) (B : Nat) (t ty e : TypeId) (i : TypeInfo) (z : Value) (bytes : Nat) (ht : P.underlying t = some (.slice e)) (hi : P.info? e = some i) (hz : i.zero = some z)
    (hsize : i.size = k) (hby : i.bytes = bytes) (hzs : z.cells.size = k)
    (v u : Value) (n m : Nat) (xs news : List Value) (hv : w.ownsRow B e k v n xs) (hu : Rn k w u m news) (h1 : ∀ x ∈ news, x.oneCell' = true)
    (hbytes : (n + m) * bytes ≤ 140737488355328) (hmax : n + m ≤ maxLen) {v' : Value} {w' : World} (hrun : (Builtin.append_ #[t, t] ty #[v, u]).run P w = .ok v' w') :
    ∀ g, v'.ownBlock = some g → v.ownBlock = some g ∨ w.heap.size ≤ g := by
  have hul := hu.cells
  obtain ⟨Au, c, rfl, c1, c2, c4, c3⟩ := hu
  rcases c3 with ⟨rfl, rfl⟩ | ⟨x, rfl, hc⟩
  · obtain rfl : m = 0 := by omega
    have hr := run_append_owned_none w B t ty e i k ht hi v n xs hv
    rw [hr] at hrun
    injection hrun with e1 e2
    subst e1
    exact fun g hg => .inl hg
  · have hv0 := hv
    rcases hv.2 with ⟨rfl, rfl⟩ | ⟨g, cap, cur, rfl, hB, hh, hnc, hcm, hcs, htk⟩
    · have hxs : xs = [] := List.eq_nil_of_length_eq_zero (by have := hv.1; omega)
      subst hxs
      obtain ⟨v2, w2, hr, r1, _⟩ := run_append_own (P := P) w w.heap.size t ty e i z k bytes ht hi hz hsize hby hzs hk (.slice none 0 0) 0 [] (World.ownsRow_nil w _ e k) x m c news (by omega) hc h1 hmax hbytes (Nat.le_refl _)
      rw [hr] at hrun
      injection hrun with e1 e2
      subst e1
      exact fun g hg => .inr (r1.lt g hg).1
    · by_cases hroom : n + m ≤ cap
      · have hnl : news.length = m * k := by omega
        have hsp : n * k + news.length ≤ cap * k := by rw [hnl, ← Nat.add_mul]; exact Nat.mul_le_mul_right k hroom
        have hr := run_append_room_cells (P := P) w t ty e i ht hi g 0 n cap x m c news (by rw [hsize]; omega) hc h1 hroom (fun j hj => by
          rw [hsize, Nat.zero_add]
          have : n * k + j < cur.size := by omega
          simp [World.cell?, hh, this]) (fun j hj => World.ownsRow.frozenAt hv0 _)
        rw [hr] at hrun
        injection hrun with e1 e2
        subst e1
        exact fun g' hg' => .inl hg'
      · obtain ⟨v2, w2, hr, r1, _⟩ := run_append_arg_grows (P := P) w t ty e i z k bytes ht hi hz hsize hby hzs hk ⟨g, 0, none⟩ n cap xs hv0.1 (fun j u hu => by
          have hj : j < xs.length := (List.getElem?_eq_some_iff.1 hu).1
          rw [Addr.add_lit, Nat.zero_add, World.ownsRow.cellAt hv0 j (by have := hv0.1; omega)]
          exact hu) x m c news (by omega) hc (by omega) hmax hbytes
        rw [hr] at hrun
        injection hrun with e1 e2
        subst e1
        exact fun g' hg' => .inr (r1.lt g' hg').1
/-- The append, with all that is known of it. -/
theorem run_append_full (k : Nat) (hk : 0 < k) (B : Nat) (t ty e : TypeId) (i : TypeInfo) (z : Value) (bytes : Nat) (ht : P.underlying t = some (.slice e)) (hi : P.info? e = some i) (hz : i.zero = some z)
    (hsize : i.size = k) (hby : i.bytes = bytes) (hzs : z.cells.size = k)
    (v u : Value) (n m : Nat) (xs news : List Value) (hv : w.ownsRow B e k v n xs) (hu : Rn k w u m news) (h1 : ∀ x ∈ news, x.oneCell' = true)
    (hbytes : (n + m) * bytes ≤ 140737488355328) (hmax : n + m ≤ maxLen) (hB : B ≤ w.heap.size) :
    ∃ A c w', (Builtin.append_ #[t, t] ty #[v, u]).run P w = .ok (.slice A (n + m) c) w' ∧ w'.ownsRow B e k (.slice A (n + m) c) (n + m) (xs ++ news) ∧ Below B w w' ∧ w.grownBy w' v.ownBlock ∧ ∀ g, (Value.slice A (n + m) c).ownBlock = some g → v.ownBlock = some g ∨ w.heap.size ≤ g := by
  obtain ⟨v', w', hr, h2, h3, h4⟩ := run_append_ok (P := P) w k hk B t ty e i z bytes ht hi hz hsize hby hzs v u n m xs news hv hu h1 hbytes hmax hB
  have hb := append_blk (P := P) w k hk B t ty e i z bytes ht hi hz hsize hby hzs v u n m xs news hv hu h1 hbytes hmax hr
  obtain ⟨A, c, rfl⟩ : ∃ A c, v' = .slice A (n + m) c := by
    rcases h2.2 with ⟨rfl, h0⟩ | ⟨g, cap, cur, rfl, _⟩
    · exact ⟨none, 0, by rw [h0]⟩
    · exact ⟨_, _, rfl⟩
  exact ⟨A, c, w', hr, h2, h3, h4, hb⟩
end
end Go.Proofs.Yteopmaaghhendaa

/-
  A section under way, in memory: the encoder, the draft, its rows.
-/
namespace Go.Proofs.Yteopmaaghhendaa
open Go.RowKit Go.Maps
set_option linter.unusedVariables false

section
variable {q p N N' s d : Nat} {E : Qe} {S : Nat → Prop} {w wx wy : World} {a a' : Qa} {ins ins' : List UInt8} {pl pl' : List Nat} {ln ln' : List (Ql × Value)} {oV pV lV oV' pV' lV' : Value} {e T : Nat → Prop}
end
end Go.Proofs.Yteopmaaghhendaa

/-
  Contract of the draft's use.
-/
namespace Go.Proofs.Yteopmaaghhendaa
open Go.RowKit Go.Maps
set_option linter.unusedVariables false

section
variable {q p N N' s d : Nat} {E : Qe} {S : Nat → Prop} {w wx wy : World} {a a' : Qa} {ins ins' : List UInt8} {pl pl' : List Nat} {ln ln' : List (Ql × Value)} {oV pV lV oV' pV' lV' : Value} {e T : Nat → Prop}
end
end Go.Proofs.Yteopmaaghhendaa

/-
  Contract of the draft's use: the walk.
-/
namespace Go.Proofs.Yteopmaaghhendaa
open Go.RowKit Go.Maps
set_option linter.unusedVariables false

section
variable {q p N N' s d : Nat} {E : Qe} {S : Nat → Prop} {w wx wy : World} {a a' : Qa} {ins ins' : List UInt8} {pl pl' : List Nat} {ln ln' : List (Ql × Value)} {oV pV lV oV' pV' lV' : Value} {e T : Nat → Prop}
end
end Go.Proofs.Yteopmaaghhendaa

/-
  The program's QPACK decoder as a word: its head, its table, the map of the streams that wait, the bytes that wait, the bytes to say; what a call on one of them does to it.
-/
namespace Go.Proofs.Yteopmaaghhendaa
open Go.RowKit Go.Maps
set_option linter.unusedVariables false

/-! ### maps that hold nothing but keys -/
/-- How an empty struct reads. -/
def uR (v : Value) : Option (DataW Unit × List MemPlace) :=
  match v with
  | .agg ⟨[]⟩ => some (.agg [], [])
  | _ => none
theorem uR_mk : uR (.agg #[]) = some (.agg [], []) := rfl
theorem uR_inv {v : Value} {d : DataW Unit} {ps : List MemPlace} (h : uR v = some (d, ps)) : v = .agg #[] := by
  unfold uR at h
  split at h
  · rfl
  · cases h
def memD (wl : List Nat) (k : Nat) : Option (DataW Unit) := if k ∈ wl then some (.agg []) else none
/-- Block b is a map whose keys are the list. -/
def Wl (b : Nat) (wl : List Nat) : Wx := fun w S => Mo 27 uR kU okU (memD wl) b wl.length w ∧ wl.Nodup ∧ (∀ k ∈ wl, okU k) ∧ wl.length ≤ 1000000 ∧ ∀ k, S k ↔ k = b
theorem Wd.wl (b : Nat) (wl : List Nat) : Wd (Wl b wl) := by
  constructor
  · rintro w S ⟨h1, _, _, _, h2⟩ k hk
    rw [(h2 k).1 hk]
    exact h1.lt
  · rintro w w' S ⟨h1, h3, h4, h5, h2⟩ hs hb
    exact ⟨h1.kept (hb b ((h2 b).2 rfl)), h3, h4, h5, h2⟩
theorem Mo.tight {κ : Type} {kt : TypeId} {R : Value → Option (DataW Unit × List MemPlace)} {kl : κ → Lit} {ok : κ → Prop} {f : κ → Option (DataW Unit)} {b N : Nat} {w : World} (KL : Kl kl ok) (h : Mo kt R kl ok f b N w) {ks : List κ} (hn : ks.Nodup) (hk : ∀ k, k ∈ ks ↔ ok k ∧ (f k).isSome = true) : Mo kt R kl ok f b ks.length w := by
  obtain ⟨D, h1, m⟩ := h
  refine ⟨D, ?_, m⟩
  have := ownsMap_tight h1
  rwa [m.size KL hn hk] at this
theorem memD_some (wl : List Nat) (k : Nat) : (memD wl k).isSome = decide (k ∈ wl) := by unfold memD; split <;> simp_all
theorem memD_iff {wl : List Nat} (h : ∀ k ∈ wl, okU k) (k : Nat) : k ∈ wl ↔ okU k ∧ (memD wl k).isSome = true := by
  rw [memD_some, decide_eq_true_iff]
  exact ⟨fun hk => ⟨h k hk, hk⟩, fun hk => hk.2⟩
section
variable {b s : Nat} {wl : List Nat} {w w' : World} {S : Nat → Prop}
theorem Wl.made (w : World) : Wl w.heap.size [] (w.alloc (.map #[] 0)) (fun k => k = w.heap.size) :=
  ⟨(Mo.made 27 uR kU okU w).congr fun k _ => rfl, List.nodup_nil, fun k hk => (by cases hk), Nat.zero_le _, fun k => Iff.rfl⟩
theorem Wl.len (h : Wl b wl w S) (ty : TypeId) : (Builtin.len_ #[58] ty #[.map (some b)]).run Try.prog w = .ok (.int .i64 (wl.length : Int)) w :=
  h.1.len klU Try.underlying58 h.2.1 (memD_iff h.2.2.1) ty
theorem Wl.turn (h : Wl b wl w S) {f : Nat → Option (DataW Unit)} {N : Nat} (hm : Mo 27 uR kU okU f b N w') (hg : w.grownBy w' (some b)) {wl' : List Nat} (hf : ∀ k, okU k → f k = memD wl' k) (hn : wl'.Nodup) (ho : ∀ k ∈ wl', okU k) (hl : wl'.length ≤ 1000000) : Turn (Wl b wl') S w w' :=
  ⟨S, ⟨(hm.congr hf).tight klU hn (memD_iff ho), hn, ho, hl, h.2.2.2.2⟩, fun k hk => .inl hk, Fp.of_grown hg fun k hk => (h.2.2.2.2 k).2 (Option.some.inj hk).symm⟩
theorem Wl.drop (h : Wl b wl w S) (hs : okU s) (ty : TypeId) : ∃ w', (Builtin.delete_ #[58, 27] ty #[.map (some b), .int .u64 (s : Int)]).run Try.prog w = .ok (.tuple #[]) w' ∧ Turn (Wl b (wl.erase s)) S w w' := by
  obtain ⟨w', hrun, hm, hg⟩ := h.1.drop uLaw klU Try.underlying58 hs (keyOf_u hs) ty
  refine ⟨w', hrun, h.turn hm hg (fun k hk => ?_) (h.2.1.erase s) (fun k hk => h.2.2.1 k (List.mem_of_mem_erase hk)) (Nat.le_trans (List.length_erase_le ..) h.2.2.2.1)⟩
  unfold memD
  by_cases hks : k = s
  · subst hks
    rw [if_pos rfl, if_neg (fun hh => (h.2.1.mem_erase_iff.1 hh).1 rfl)]
  · rw [if_neg hks]
    by_cases hm : k ∈ wl
    · rw [if_pos hm, if_pos ((List.mem_erase_of_ne hks).2 hm)]
    · rw [if_neg hm, if_neg (fun hh => hm (List.mem_of_mem_erase hh))]
theorem Wl.look (h : Wl b wl w S) (hs : okU s) : (Instr.lookup 58 (.map (some b)) (.int .u64 (s : Int)) true).run Try.prog w = .ok (.tuple #[.agg #[], .bool (decide (s ∈ wl))]) w := by
  obtain ⟨v, ps, hrun, hv⟩ := h.1.look_ok uLaw Try.underlying58 hs (z := .agg #[]) (zd := .agg []) (zp := []) (by kernel_rfl) rfl (keyOf_u hs)
  have hv2 : uR v = some (.agg [], ps) := by
    rw [hv]
    unfold memD
    split <;> rfl
  rw [memD_some, uR_inv hv2] at hrun
  exact hrun
theorem Wl.put (h : Wl b wl w S) (hs : okU s) (hl : wl.length < 1000000) : ∃ w', (Instr.mapUpdate 58 (.map (some b)) (.int .u64 (s : Int)) (.agg #[])).run Try.prog w = .ok () w' ∧ Turn (Wl b (if s ∈ wl then wl else s :: wl)) S w w' := by
  obtain ⟨w', hrun, hm, hg⟩ := h.1.put uLaw klU Try.underlying58 (by omega) hs (keyOf_u hs) uR_mk
  refine ⟨w', hrun, ?_⟩
  by_cases hsm : s ∈ wl
  · rw [if_pos hsm]
    refine h.turn hm hg (fun k hk => ?_) h.2.1 h.2.2.1 h.2.2.2.1
    by_cases hks : k = s
    · subst hks
      unfold memD
      rw [if_pos rfl, if_pos hsm]
    · rw [if_neg hks]
  · rw [if_neg hsm]
    refine h.turn hm hg (fun k hk => ?_) (List.nodup_cons.2 ⟨hsm, h.2.1⟩) (fun k hk => (List.mem_cons.1 hk).elim (fun e => e ▸ hs) (h.2.2.1 k)) (by rw [List.length_cons]; omega)
    unfold memD
    by_cases hks : k = s
    · subst hks
      rw [if_pos rfl, if_pos (List.mem_cons_self ..)]
    · rw [if_neg hks]
      by_cases hm : k ∈ wl
      · rw [if_pos hm, if_pos (List.mem_cons_of_mem _ hm)]
      · rw [if_neg hm, if_neg (fun hh => (List.mem_cons.1 hh).elim hks hm)]
end

/-! ### the decoder -/
/-- The cells of the program's decoder. -/
def dF (p mx bk bm : Nat) (vR : Value) (nm : Bool) (na : ByteArray) (br : Bool) (vS : Value) (told : Nat) (i : Nat) : Value :=
  if i = 0 then .pointer (some ⟨p, 0, none⟩) else if i = 1 then .int .i64 (mx : Int) else if i = 2 then .int .i64 (bk : Int) else if i = 3 then .map (some bm) else if i = 4 then vR else if i = 5 then .bool nm
  else if i = 6 then .string na else if i = 7 then .bool br else if i = 8 then vS else .int .u64 (told : Int)
/-- What the decoder holds beside its head. -/
abbrev Din (p bm : Nat) (vR vS : Value) (T : Tab) (wl : List Nat) (rest says : List UInt8) : Wx := Both (Tb p T) (Both (Wl bm wl) (Both (Owb vR rest) (Owb vS says)))
/-- The decoder, its cells told one by one. -/
def Dh (q p bm mx bk : Nat) (vR : Value) (nm : Bool) (na : ByteArray) (br : Bool) (vS : Value) (told : Nat) (T : Tab) (wl : List Nat) (rest says : List UInt8) : Wx := Hd q 60 10 (dF p mx bk bm vR nm na br vS told) (Din p bm vR vS T wl rest says)
/-- The decoder behind the pointer to block q, its table at block p. -/
def Dq (q p : Nat) (X : Qr) : Wx := fun w S => ∃ bm vR vS, Dh q p bm X.mx X.bk vR X.nm.isSome (X.nm.getD ⟨#[]⟩) X.br vS X.told X.T X.wl X.rest X.says w S
theorem Wd.din (p bm : Nat) (vR vS : Value) (T : Tab) (wl : List Nat) (rest says : List UInt8) : Wd (Din p bm vR vS T wl rest says) := (Wd.tb p T).both ((Wd.wl bm wl).both ((Wd.owb vR rest).both (Wd.owb vS says)))
theorem Wd.dh (q p bm mx bk : Nat) (vR : Value) (nm : Bool) (na : ByteArray) (br : Bool) (vS : Value) (told : Nat) (T : Tab) (wl : List Nat) (rest says : List UInt8) : Wd (Dh q p bm mx bk vR nm na br vS told T wl rest says) := (Wd.din ..).hd
theorem Wd.dq (q p : Nat) (X : Qr) : Wd (Dq q p X) := by
  constructor
  · rintro w S ⟨bm, vR, vS, h⟩
    exact (Wd.dh ..).lt h
  · rintro w w' S ⟨bm, vR, vS, h⟩ hs hb
    exact ⟨bm, vR, vS, (Wd.dh ..).kept h hs hb⟩
section
variable {q p bm mx bk told : Nat} {vR vS : Value} {nm br : Bool} {na : ByteArray} {T : Tab} {wl : List Nat} {rest says : List UInt8} {w w' : World} {S : Nat → Prop}
theorem Dh.cells (h : Dh q p bm mx bk vR nm na br vS told T wl rest says w S) : w.cell? ⟨q, 0, none⟩ = some (.pointer (some ⟨p, 0, none⟩)) ∧ w.cell? ⟨q, 1, none⟩ = some (.int .i64 (mx : Int)) ∧ w.cell? ⟨q, 2, none⟩ = some (.int .i64 (bk : Int)) ∧ w.cell? ⟨q, 3, none⟩ = some (.map (some bm)) ∧
    w.cell? ⟨q, 4, none⟩ = some vR ∧ w.cell? ⟨q, 5, none⟩ = some (.bool nm) ∧ w.cell? ⟨q, 6, none⟩ = some (.string na) ∧ w.cell? ⟨q, 7, none⟩ = some (.bool br) ∧ w.cell? ⟨q, 8, none⟩ = some vS ∧ w.cell? ⟨q, 9, none⟩ = some (.int .u64 (told : Int)) ∧ ∀ i, w.frozen? ⟨q, i, none⟩ = false := by
  have hr : w.rowIs q 60 10 (dF p mx bk bm vR nm na br vS told) := Hd.row h
  exact ⟨hr.cell (i := 0) (by omega), hr.cell (i := 1) (by omega), hr.cell (i := 2) (by omega), hr.cell (i := 3) (by omega), hr.cell (i := 4) (by omega), hr.cell (i := 5) (by omega), hr.cell (i := 6) (by omega), hr.cell (i := 7) (by omega), hr.cell (i := 8) (by omega), hr.cell (i := 9) (by omega), fun i => hr.frozen i⟩
/-- The table's blocks, for a call that turns it. -/
theorem Dh.opT (h : Dh q p bm mx bk vR nm na br vS told T wl rest says w S) : ∃ S1, Tb p T w S1 ∧ (∀ k, S1 k → S k) ∧ ∀ w' T', Turn (Tb p T') S1 w w' → Turn (Dh q p bm mx bk vR nm na br vS told T' wl rest says) S w w' := by
  obtain ⟨S', ⟨S1, S2, h1, h2, h3, h4⟩, n, sub, hc⟩ := Hd.opens h
  exact ⟨S1, h1, fun k hk => sub k ((h4 k).2 (.inl hk)), fun w' T' ht => hc w' _ (Both.left ((Wd.wl bm wl).both ((Wd.owb vR rest).both (Wd.owb vS says))) h2 h3 h4 ht)⟩
theorem Dh.opM (h : Dh q p bm mx bk vR nm na br vS told T wl rest says w S) : ∃ S1, Wl bm wl w S1 ∧ (∀ k, S1 k → S k) ∧ ∀ w' wl', Turn (Wl bm wl') S1 w w' → Turn (Dh q p bm mx bk vR nm na br vS told T wl' rest says) S w w' := by
  obtain ⟨S', ⟨S1, S2, h1, ⟨S3, S4, k1, k2, k3, k4⟩, h3, h4⟩, n, sub, hc⟩ := Hd.opens h
  exact ⟨S3, k1, fun k hk => sub k ((h4 k).2 (.inr ((k4 k).2 (.inl hk)))), fun w' wl' ht => hc w' _ (Both.right (Wd.tb p T) h1 h3 h4 (Both.left ((Wd.owb vR rest).both (Wd.owb vS says)) k2 k3 k4 ht))⟩
theorem Dh.opR (h : Dh q p bm mx bk vR nm na br vS told T wl rest says w S) : ∃ S1, Owb vR rest w S1 ∧ (∀ k, S1 k → S k) ∧ ∀ w' v r, Turn (Owb v r) S1 w w' → Turn (Hd q 60 10 (dF p mx bk bm vR nm na br vS told) (Din p bm v vS T wl r says)) S w w' := by
  obtain ⟨S', ⟨S1, S2, h1, ⟨S3, S4, k1, ⟨S5, S6, m1, m2, m3, m4⟩, k3, k4⟩, h3, h4⟩, n, sub, hc⟩ := Hd.opens h
  exact ⟨S5, m1, fun k hk => sub k ((h4 k).2 (.inr ((k4 k).2 (.inr ((m4 k).2 (.inl hk)))))), fun w' v r ht => hc w' _ (Both.right (Wd.tb p T) h1 h3 h4 (Both.right (Wd.wl bm wl) k1 k3 k4 (Both.left (Wd.owb vS says) m2 m3 m4 ht)))⟩
theorem Dh.opS (h : Dh q p bm mx bk vR nm na br vS told T wl rest says w S) : ∃ S1, Owb vS says w S1 ∧ (∀ k, S1 k → S k) ∧ ∀ w' v r, Turn (Owb v r) S1 w w' → Turn (Hd q 60 10 (dF p mx bk bm vR nm na br vS told) (Din p bm vR v T wl rest r)) S w w' := by
  obtain ⟨S', ⟨S1, S2, h1, ⟨S3, S4, k1, ⟨S5, S6, m1, m2, m3, m4⟩, k3, k4⟩, h3, h4⟩, n, sub, hc⟩ := Hd.opens h
  exact ⟨S6, m2, fun k hk => sub k ((h4 k).2 (.inr ((k4 k).2 (.inr ((m4 k).2 (.inr hk)))))), fun w' v r ht => hc w' _ (Both.right (Wd.tb p T) h1 h3 h4 (Both.right (Wd.wl bm wl) k1 k3 k4 (Both.right (Wd.owb vR rest) m1 m3 m4 ht)))⟩
/-- A store into one of the head's cells. -/
theorem Dh.put (h : Dh q p bm mx bk vR nm na br vS told T wl rest says w S) (i : Nat) (v : Value) {nm' br' : Bool} {na' : ByteArray} {told' : Nat} (hF : ∀ j, j < 10 → (if j = i then v else dF p mx bk bm vR nm na br vS told j) = dF p mx bk bm vR nm' na' br' vS told' j) :
    Turn (Dh q p bm mx bk vR nm' na' br' vS told' T wl rest says) S w (w.setCell ⟨q, i, none⟩ v) := Hd.set (Wd.din ..) h i v hF
theorem dF_nm (p mx bk bm : Nat) (vR : Value) (nm nm' : Bool) (na : ByteArray) (br : Bool) (vS : Value) (told : Nat) : ∀ j, j < 10 → (if j = 5 then Value.bool nm' else dF p mx bk bm vR nm na br vS told j) = dF p mx bk bm vR nm' na br vS told j := fun j hj => by
  unfold dF
  match j, hj with
  | 0, _ => rfl
  | 1, _ => rfl
  | 2, _ => rfl
  | 3, _ => rfl
  | 4, _ => rfl
  | 5, _ => rfl
  | 6, _ => rfl
  | 7, _ => rfl
  | 8, _ => rfl
  | 9, _ => rfl
theorem dF_na (p mx bk bm : Nat) (vR : Value) (nm : Bool) (na na' : ByteArray) (br : Bool) (vS : Value) (told : Nat) : ∀ j, j < 10 → (if j = 6 then Value.string na' else dF p mx bk bm vR nm na br vS told j) = dF p mx bk bm vR nm na' br vS told j := fun j hj => by
  unfold dF
  match j, hj with
  | 0, _ => rfl
  | 1, _ => rfl
  | 2, _ => rfl
  | 3, _ => rfl
  | 4, _ => rfl
  | 5, _ => rfl
  | 6, _ => rfl
  | 7, _ => rfl
  | 8, _ => rfl
  | 9, _ => rfl
theorem dF_br (p mx bk bm : Nat) (vR : Value) (nm : Bool) (na : ByteArray) (br br' : Bool) (vS : Value) (told : Nat) : ∀ j, j < 10 → (if j = 7 then Value.bool br' else dF p mx bk bm vR nm na br vS told j) = dF p mx bk bm vR nm na br' vS told j := fun j hj => by
  unfold dF
  match j, hj with
  | 0, _ => rfl
  | 1, _ => rfl
  | 2, _ => rfl
  | 3, _ => rfl
  | 4, _ => rfl
  | 5, _ => rfl
  | 6, _ => rfl
  | 7, _ => rfl
  | 8, _ => rfl
  | 9, _ => rfl
theorem dF_told (p mx bk bm : Nat) (vR : Value) (nm : Bool) (na : ByteArray) (br : Bool) (vS : Value) (told told' : Nat) : ∀ j, j < 10 → (if j = 9 then Value.int .u64 (told' : Int) else dF p mx bk bm vR nm na br vS told j) = dF p mx bk bm vR nm na br vS told' j := fun j hj => by
  unfold dF
  match j, hj with
  | 0, _ => rfl
  | 1, _ => rfl
  | 2, _ => rfl
  | 3, _ => rfl
  | 4, _ => rfl
  | 5, _ => rfl
  | 6, _ => rfl
  | 7, _ => rfl
  | 8, _ => rfl
  | 9, _ => rfl
theorem dF_rest (p mx bk bm : Nat) (vR vR' : Value) (nm : Bool) (na : ByteArray) (br : Bool) (vS : Value) (told : Nat) : ∀ j, j < 10 → (if j = 4 then vR' else dF p mx bk bm vR nm na br vS told j) = dF p mx bk bm vR' nm na br vS told j := fun j hj => by
  unfold dF
  match j, hj with
  | 0, _ => rfl
  | 1, _ => rfl
  | 2, _ => rfl
  | 3, _ => rfl
  | 4, _ => rfl
  | 5, _ => rfl
  | 6, _ => rfl
  | 7, _ => rfl
  | 8, _ => rfl
  | 9, _ => rfl
theorem dF_says (p mx bk bm : Nat) (vR : Value) (nm : Bool) (na : ByteArray) (br : Bool) (vS vS' : Value) (told : Nat) : ∀ j, j < 10 → (if j = 8 then vS' else dF p mx bk bm vR nm na br vS told j) = dF p mx bk bm vR nm na br vS' told j := fun j hj => by
  unfold dF
  match j, hj with
  | 0, _ => rfl
  | 1, _ => rfl
  | 2, _ => rfl
  | 3, _ => rfl
  | 4, _ => rfl
  | 5, _ => rfl
  | 6, _ => rfl
  | 7, _ => rfl
  | 8, _ => rfl
  | 9, _ => rfl
end
end Go.Proofs.Yteopmaaghhendaa

/-
  Contract of the draft's use: the walk.
-/
namespace Go.Proofs.Yteopmaaghhendaa
open Go.RowKit Go.Maps
set_option linter.unusedVariables false

section
variable {q p N N' s d : Nat} {E : Qe} {S : Nat → Prop} {w wx wy : World} {a a' : Qa} {ins ins' : List UInt8} {pl pl' : List Nat} {ln ln' : List (Ql × Value)} {oV pV lV oV' pV' lV' : Value} {e T : Nat → Prop}
end
end Go.Proofs.Yteopmaaghhendaa

/-
  The program's QPACK decoder: what its stores come to; contracts of say, fail, Table, Waiting.
-/
namespace Go.Proofs.Yteopmaaghhendaa
open Go.RowKit Go.Maps
set_option linter.unusedVariables false
set_option linter.unusedSimpArgs false

theorem OwB.shape2 {w : World} {B : Nat} {v : Value} {l : List UInt8} (h : OwB w B v l) : ∃ A n c, v = .slice A n c := by
  rcases h.2 with ⟨rfl, _⟩ | ⟨g, cap, cur, rfl, _⟩
  · exact ⟨_, _, _, rfl⟩
  · exact ⟨_, _, _, rfl⟩
theorem Owb.none_ (w : World) : Owb (.slice none 0 0) [] w (fun _ => False) := ⟨OwB.nil _ _, fun k => by simp [Value.ownBlock]⟩
section
variable {q p bm mx bk told : Nat} {vR vS : Value} {nm br : Bool} {na : ByteArray} {T : Tab} {wl : List Nat} {rest says : List UInt8} {w w' : World} {S : Nat → Prop} {X : Qr}
/-- The bytes that wait: another slice. -/
theorem Dh.putRest (h : Dh q p bm mx bk vR nm na br vS told T wl rest says w S) {v : Value} {r : List UInt8} {B : Nat} (ho : OwB w B v r) (hd : ∀ k, v.ownBlock = some k → ¬ S k) :
    ∃ S', Dh q p bm mx bk v nm na br vS told T wl r says (w.setCell ⟨q, 4, none⟩ v) S' ∧ (∀ k, S' k → S k ∨ v.ownBlock = some k) ∧ Fp S w (w.setCell ⟨q, 4, none⟩ v) := by
  have hS := Hd.has h
  have hf : Fp (fun k => k = q) w (w.setCell ⟨q, 4, none⟩ v) := Fp.set _ _ _ _ rfl
  obtain ⟨S', hrow, ⟨S1, S2, h1, ⟨S3, S4, k1, ⟨S5, S6, m1, m2, m3, m4⟩, k3, k4⟩, h3, h4⟩, hq, hSS⟩ := h
  have hv : Owb v r w (fun k => v.ownBlock = some k) := ⟨ho.mono (Nat.zero_le _), fun k => Iff.rfl⟩
  have hsub1 : ∀ k, S1 k → S k := fun k hk => (hSS k).2 (.inl ((h4 k).2 (.inl hk)))
  have hsub3 : ∀ k, S3 k → S k := fun k hk => (hSS k).2 (.inl ((h4 k).2 (.inr ((k4 k).2 (.inl hk)))))
  have hsub6 : ∀ k, S6 k → S k := fun k hk => (hSS k).2 (.inl ((h4 k).2 (.inr ((k4 k).2 (.inr ((m4 k).2 (.inr hk)))))))
  have hin : Din p bm v vS T wl r says w (fun k => S1 k ∨ S3 k ∨ v.ownBlock = some k ∨ S6 k) :=
    ⟨S1, fun k => S3 k ∨ v.ownBlock = some k ∨ S6 k, h1, ⟨S3, fun k => v.ownBlock = some k ∨ S6 k, k1, ⟨_, S6, hv, m2, fun k a b => hd k a (hsub6 k b), fun k => Iff.rfl⟩, fun k a b => b.elim (fun b => hd k b (hsub3 k a)) (fun b => k3 k a ((m4 k).2 (.inr b))), fun k => Iff.rfl⟩,
      fun k a b => b.elim (fun b => h3 k a ((k4 k).2 (.inl b))) fun b => b.elim (fun b => hd k b (hsub1 k a)) fun b => h3 k a ((k4 k).2 (.inr ((m4 k).2 (.inr b)))), fun k => Iff.rfl⟩
  have hqn : ∀ k, (S1 k ∨ S3 k ∨ v.ownBlock = some k ∨ S6 k) → k ≠ q := by
    rintro k (hk | hk | hk | hk) rfl
    · exact hq ((h4 k).2 (.inl hk))
    · exact hq ((h4 k).2 (.inr ((k4 k).2 (.inl hk))))
    · exact hd k hk hS
    · exact hq ((h4 k).2 (.inr ((k4 k).2 (.inr ((m4 k).2 (.inr hk))))))
  refine ⟨fun k => (S1 k ∨ S3 k ∨ v.ownBlock = some k ∨ S6 k) ∨ k = q, ⟨_, (hrow.set 4 v).congr (dF_rest _ _ _ _ _ _ _ _ _ _ _), (Wd.din ..).besides hin hf fun k hk e => hqn k hk e, fun hh => hqn q hh rfl, fun k => Iff.rfl⟩, ?_, hf.mono fun k hk => hk ▸ hS⟩
  rintro k ((hk | hk | hk | hk) | rfl)
  · exact .inl (hsub1 k hk)
  · exact .inl (hsub3 k hk)
  · exact .inr hk
  · exact .inl (hsub6 k hk)
  · exact .inl hS
theorem Dh.noRest (h : Dh q p bm mx bk vR nm na br vS told T wl rest says w S) : Turn (Dh q p bm mx bk (.slice none 0 0) nm na br vS told T wl [] says) S w (w.setCell ⟨q, 4, none⟩ (.slice none 0 0)) := by
  obtain ⟨S', h', hs, hf⟩ := h.putRest (OwB.nil w 0) (fun k hk => by simp [Value.ownBlock] at hk)
  exact ⟨S', h', fun k hk => (hs k hk).imp id fun hk => by simp [Value.ownBlock] at hk, hf⟩
/-- What was to say goes. -/
theorem Dh.takeSays (h : Dh q p bm mx bk vR nm na br vS told T wl rest says w S) : Turn (Both (Dh q p bm mx bk vR nm na br (.slice none 0 0) told T wl rest []) (Owb vS says)) S w (w.setCell ⟨q, 8, none⟩ (.slice none 0 0)) := by
  have hS := Hd.has h
  have hf : Fp (fun k => k = q) w (w.setCell ⟨q, 8, none⟩ (.slice none 0 0)) := Fp.set _ _ _ _ rfl
  obtain ⟨S', hrow, ⟨S1, S2, h1, ⟨S3, S4, k1, ⟨S5, S6, m1, m2, m3, m4⟩, k3, k4⟩, h3, h4⟩, hq, hSS⟩ := h
  have hin : Din p bm vR (.slice none 0 0) T wl rest [] w (fun k => S1 k ∨ S3 k ∨ S5 k ∨ False) :=
    ⟨S1, fun k => S3 k ∨ S5 k ∨ False, h1, ⟨S3, fun k => S5 k ∨ False, k1, ⟨S5, _, m1, Owb.none_ w, fun k a b => b, fun k => Iff.rfl⟩, fun k a b => b.elim (fun b => k3 k a ((m4 k).2 (.inl b))) id, fun k => Iff.rfl⟩,
      fun k a b => b.elim (fun b => h3 k a ((k4 k).2 (.inl b))) fun b => b.elim (fun b => h3 k a ((k4 k).2 (.inr ((m4 k).2 (.inl b))))) id, fun k => Iff.rfl⟩
  have hqn : ∀ k, (S1 k ∨ S3 k ∨ S5 k ∨ False) → k ≠ q := by
    rintro k (hk | hk | hk | hk) rfl
    · exact hq ((h4 k).2 (.inl hk))
    · exact hq ((h4 k).2 (.inr ((k4 k).2 (.inl hk))))
    · exact hq ((h4 k).2 (.inr ((k4 k).2 (.inr ((m4 k).2 (.inl hk))))))
    · exact hk
  have hq6 : ¬ S6 q := fun hk => hq ((h4 q).2 (.inr ((k4 q).2 (.inr ((m4 q).2 (.inr hk))))))
  refine ⟨fun k => ((S1 k ∨ S3 k ∨ S5 k ∨ False) ∨ k = q) ∨ S6 k, ⟨fun k => (S1 k ∨ S3 k ∨ S5 k ∨ False) ∨ k = q, S6, ⟨_, (hrow.set 8 _).congr (dF_says _ _ _ _ _ _ _ _ _ _ _), (Wd.din ..).besides hin hf fun k hk e => hqn k hk e, fun hh => hqn q hh rfl, fun k => Iff.rfl⟩, (Wd.owb _ _).besides m2 hf fun k hk e => hq6 (e ▸ hk), ?_, fun k => Iff.rfl⟩, fun k hk => .inl ?_, hf.mono fun k hk => hk ▸ hS⟩
  · rintro k ((hk | hk | hk | hk) | rfl) h6
    · exact h3 k hk ((k4 k).2 (.inr ((m4 k).2 (.inr h6))))
    · exact k3 k hk ((m4 k).2 (.inr h6))
    · exact m3 k hk h6
    · exact hk
    · exact hq6 h6
  · rcases hk with ((hk | hk | hk | hk) | rfl) | hk
    · exact (hSS k).2 (.inl ((h4 k).2 (.inl hk)))
    · exact (hSS k).2 (.inl ((h4 k).2 (.inr ((k4 k).2 (.inl hk)))))
    · exact (hSS k).2 (.inl ((h4 k).2 (.inr ((k4 k).2 (.inr ((m4 k).2 (.inl hk)))))))
    · exact hk.elim
    · exact hS
    · exact (hSS k).2 (.inl ((h4 k).2 (.inr ((k4 k).2 (.inr ((m4 k).2 (.inr hk)))))))
/-- More to say. -/
theorem Dh.push (h : Dh q p bm mx bk vR nm na br vS told T wl rest says w S) {w4 : World} (hb : Below w.heap.size w w4) {v : Value} {l : List UInt8} {B : Nat} (ho : OwB w4 B v l) (hl : says.length + l.length ≤ 1000000000) (ty : TypeId) :
    ∃ A n c w6, (Builtin.append_ #[23, 23] ty #[vS, v]).run Try.prog w4 = .ok (.slice A n c) w6 ∧
      w6.cell? ⟨q, 8, none⟩ = some vS ∧ w6.frozen? ⟨q, 8, none⟩ = false ∧
      Turn (Dh q p bm mx bk vR nm na br (.slice A n c) told T wl rest (says ++ l)) S w (w6.setCell ⟨q, 8, none⟩ (.slice A n c)) := by
  have h4 := (Wd.dh ..).keep h hb
  obtain ⟨i0, hi, hz, hz1, hz2⟩ := info_parts infoU8
  have hrn : Rn 1 w4 v (l.map bv).length (l.map bv) := (Ob.own ho).get
  obtain ⟨S6, ⟨o1, o2⟩, osub, hclose⟩ := h4.opS
  obtain ⟨A, c, w6, r1, r2, r3, r4, r5⟩ := run_append_full (P := Try.prog) w4 1 (by omega) 0 23 ty 5 i0 (.int .u8 0) 1 Try.underlying23 hi hz hz1 hz2 rfl vS v (says.map bv).length (l.map bv).length _ _ o1 hrn
    (by intro x hx; exact one_bv x hx) (by simp only [List.length_map]; omega) (by simp only [List.length_map]; unfold maxLen; omega) (Nat.zero_le _)
  have ho2 : OwB w6 0 (.slice A ((says.map bv).length + (l.map bv).length) c) (says ++ l) := OwB.cat (by rw [List.length_append]; exact r2)
  have ht : Turn (Owb (.slice A ((says.map bv).length + (l.map bv).length) c) (says ++ l)) S6 w4 w6 :=
    ⟨_, ⟨ho2, fun k => Iff.rfl⟩, fun k hk => (r5 k hk).imp (fun h => (o2 k).2 h) id, Fp.of_grown r4 fun k hk => (o2 k).2 hk⟩
  have ht2 := hclose w6 _ _ ht
  have hset : ∀ S', Hd q 60 10 (dF p mx bk bm vR nm na br vS told) (Din p bm vR (.slice A ((says.map bv).length + (l.map bv).length) c) T wl rest (says ++ l)) w6 S' →
      Turn (Dh q p bm mx bk vR nm na br (.slice A ((says.map bv).length + (l.map bv).length) c) told T wl rest (says ++ l)) S' w6 (w6.setCell ⟨q, 8, none⟩ (.slice A ((says.map bv).length + (l.map bv).length) c)) :=
    fun S' hh => Hd.set (Wd.din ..) hh 8 _ (dF_says _ _ _ _ _ _ _ _ _ _ _)
  have ht3 := ht2
  obtain ⟨S', hh, _, _⟩ := ht3
  exact ⟨A, _, c, w6, r1, (Hd.row hh).cell (i := 8) (by omega), (Hd.row hh).frozen 8, Turn.before hb (ht2.trans hset)⟩

set_option maxRecDepth 100000 in
set_option maxHeartbeats 2000000 in
theorem say_any (h : Dq q p X w S) (m : Nat) (f : UInt8) (k : Nat) (hk1 : 1 ≤ k) (hk7 : k ≤ 7) (hf : IntKind.u8.wrap ((m : Int) * 2 ^ k) = (f.toNat : Int)) (v : Nat) (hv : v < 18446744073709551616) (hl : X.says.length ≤ 1000000)
    (M K V : Int) (hM : (m : Int) = M) (hK : (k : Int) = K) (hV : (v : Int) = V) :
    Calls Try.prog 31 #[.pointer (some ⟨q, 0, none⟩), .int .u8 M, .int .i64 K, .int .u64 V] w fun e w' => e = .returned (.tuple #[]) ∧ Turn (Dq q p { X with says := X.says ++ pre f k v }) S w w' := by
  obtain ⟨bm, vR, vS, h⟩ := h
  have HH := Bx.mk h
  have hw : Below w.heap.size w w.drew := (Below.refl _ _).drew
  obtain ⟨_, _, _, _, _, _, _, _, c8, _, cf⟩ := ((Wd.dh ..).keep h hw).cells
  have f8 := cf 8
  have hshl := shl_u8 k hk7 (m : Int)
  rw [hf] at hshl
  obtain ⟨fi, hfi⟩ : ∃ fi, (f.toNat : Int) = fi := ⟨_, rfl⟩
  have hbk : bitsOf (k : Int) = k := by unfold bitsOf; omega
  have HC := Bx.mk (fun W => prefix_own (.slice none 0 0) [] f (k : Int) v W (Rd.nil W) (by simp) hv)
  simp only [hbk, List.nil_append] at HC
  rw [hM, hK] at hshl
  rw [hfi] at hshl
  rw [hK, hfi, hV] at HC
  have HL : Bx (∀ n, n ≤ 1000 → X.says.length + n ≤ 1000000000) := ⟨fun n hn => by omega⟩
  have HPL : Bx ((pre f k v).length ≤ 1000) := ⟨by have := (pre_len f k v).2; omega⟩
  obtain ⟨oA, on, oc, hvS⟩ : ∃ A n c, vS = .slice A n c := by
    obtain ⟨_, ⟨o1, _⟩, _⟩ := h.opS
    exact o1.shape2
  subst hvS
  have HC8 : Bx (∀ W, Below w.heap.size w W → W.cell? ⟨q, 8, none⟩ = some (.slice oA on oc)) := ⟨fun W hW => ((Wd.dh ..).keep h hW).cells.2.2.2.2.2.2.2.2.1⟩
  obtain ⟨BY, hBY⟩ : ∃ BY, pre f k v = BY := ⟨_, rfl⟩
  rw [hBY] at HPL HC ⊢
  have HPU := Bx.mk (fun (w4 : World) (hb : Below w.heap.size w w4) (v4 : Value) (B : Nat) (ho : OwB w4 B v4 BY) (ty : TypeId) => h.push hb ho (HL.out _ HPL.out) ty)
  clear h hM hK hV hfi hk1 hk7 hf hbk hv hl cf HL HPL HH hBY
  go_enter Try.func31, Try.ntmps31
  refine wp_region_x 14 (fun W => W.cell? ⟨q, 8, none⟩ = some (.slice oA on oc)) (by kernel_rfl) (c8) (fun hHeld => ?_)
  refine wpAnyX_take0 (i := 0) (oi := ⟨some 8, Op.move (Operand.tmp 0), 25, _, _, none⟩) (v := ?v0) rfl (by omega) (by kernel_rfl) (by kernel_rfl) (by kernel_rfl) (fun _ _ _ h => h) (Or.inl ⟨by rfl, ?y0⟩) (by assumption) ?r0
  case y0 =>
    intro W hSw
    try dsimp only at hSw
    go_simp
    try with_reducible rfl
  case r0 =>
  try simp only [Act.put, List.setIfInBounds_toArray, List.set_cons_zero, List.set_cons_succ]
  refine wpAnyX_take0 (i := 1) (oi := ⟨some 9, Op.move (Operand.tmp 0), 25, _, _, none⟩) (v := ?v1) rfl (by omega) (by kernel_rfl) (by kernel_rfl) (by kernel_rfl) (fun _ _ _ h => h) (Or.inl ⟨by rfl, ?y1⟩) (by assumption) ?r1
  case y1 =>
    intro W hSw
    try dsimp only at hSw
    go_simp
    try with_reducible rfl
  case r1 =>
  try simp only [Act.put, List.setIfInBounds_toArray, List.set_cons_zero, List.set_cons_succ]
  refine wpAnyX_take0 (i := 2) (oi := ⟨some 10, Op.nilCheck (Operand.tmp 9), 0, _, _, none⟩) (v := ?v2) rfl (by omega) (by kernel_rfl) (by kernel_rfl) (by kernel_rfl) (fun _ _ _ h => h) (Or.inl ⟨by rfl, ?y2⟩) (by assumption) ?r2
  case y2 =>
    intro W hSw
    try dsimp only at hSw
    go_simp
    try with_reducible rfl
  case r2 =>
  try simp only [Act.put, List.setIfInBounds_toArray, List.set_cons_zero, List.set_cons_succ]
  refine wpAnyX_take0 (i := 3) (oi := ⟨some 11, Op.fieldAddr 60 (Operand.tmp 10) 8, 0, _, _, none⟩) (v := ?v3) rfl (by omega) (by kernel_rfl) (by kernel_rfl) (by kernel_rfl) (fun _ _ _ h => h) (Or.inl ⟨by rfl, ?y3⟩) (by assumption) ?r3
  case y3 =>
    intro W hSw
    try dsimp only at hSw
    go_simp
    try with_reducible rfl
  case r3 =>
  try simp only [Act.put, List.setIfInBounds_toArray, List.set_cons_zero, List.set_cons_succ]
  refine wpAnyX_take (i := 4) (oi := ⟨some 12, Op.load 23 (Operand.tmp 11), 23, _, _, none⟩) (v := ?v4) rfl (by omega) (by kernel_rfl) (by kernel_rfl) (by kernel_rfl) (by kernel_rfl) (by kernel_rfl) (fun _ _ _ h => h) (Or.inl ⟨by rfl, ?y4⟩) (by assumption) ?r4
  case y4 =>
    intro W hSw
    try dsimp only at hSw
    go_simp
    try with_reducible rfl
  case r4 =>
  try simp only [Act.put, List.setIfInBounds_toArray, List.set_cons_zero, List.set_cons_succ]
  refine wpAnyX_take0 (i := 5) (oi := ⟨some 13, Op.move (Operand.tmp 1), 5, _, _, none⟩) (v := ?v5) rfl (by omega) (by kernel_rfl) (by kernel_rfl) (by kernel_rfl) (fun _ _ _ h => h) (Or.inl ⟨by rfl, ?y5⟩) (by assumption) ?r5
  case y5 =>
    intro W hSw
    try dsimp only at hSw
    go_simp
    try with_reducible rfl
  case r5 =>
  try simp only [Act.put, List.setIfInBounds_toArray, List.set_cons_zero, List.set_cons_succ]
  refine wpAnyX_take0 (i := 6) (oi := ⟨some 14, Op.move (Operand.tmp 2), 3, _, _, none⟩) (v := ?v6) rfl (by omega) (by kernel_rfl) (by kernel_rfl) (by kernel_rfl) (fun _ _ _ h => h) (Or.inl ⟨by rfl, ?y6⟩) (by assumption) ?r6
  case y6 =>
    intro W hSw
    try dsimp only at hSw
    go_simp
    try with_reducible rfl
  case r6 =>
  try simp only [Act.put, List.setIfInBounds_toArray, List.set_cons_zero, List.set_cons_succ]
  refine wpAnyX_take0 (i := 7) (oi := ⟨some 15, Op.binOp BinOp.shl 5 (Operand.tmp 13) (Operand.tmp 14) 3, 5, _, _, none⟩) (v := ?v7) rfl (by omega) (by kernel_rfl) (by kernel_rfl) (by kernel_rfl) (fun _ _ _ h => h) (Or.inl ⟨by rfl, ?y7⟩) (by assumption) ?r7
  case y7 =>
    intro W hSw
    try dsimp only at hSw
    go_simp
    try with_reducible rfl
  case r7 =>
  try simp only [Act.put, List.setIfInBounds_toArray, List.set_cons_zero, List.set_cons_succ]
  refine wpAnyX_take0 (i := 8) (oi := ⟨some 16, Op.move (Operand.tmp 2), 3, _, _, none⟩) (v := ?v8) rfl (by omega) (by kernel_rfl) (by kernel_rfl) (by kernel_rfl) (fun _ _ _ h => h) (Or.inl ⟨by rfl, ?y8⟩) (by assumption) ?r8
  case y8 =>
    intro W hSw
    try dsimp only at hSw
    go_simp
    try with_reducible rfl
  case r8 =>
  try simp only [Act.put, List.setIfInBounds_toArray, List.set_cons_zero, List.set_cons_succ]
  refine wpAnyX_take0 (i := 9) (oi := ⟨some 17, Op.move (Operand.tmp 3), 27, _, _, none⟩) (v := ?v9) rfl (by omega) (by kernel_rfl) (by kernel_rfl) (by kernel_rfl) (fun _ _ _ h => h) (Or.inl ⟨by rfl, ?y9⟩) (by assumption) ?r9
  case y9 =>
    intro W hSw
    try dsimp only at hSw
    go_simp
    try with_reducible rfl
  case r9 =>
  try simp only [Act.put, List.setIfInBounds_toArray, List.set_cons_zero, List.set_cons_succ]
  refine wpAnyX_one (i := 10) (by kernel_rfl) rfl (fun K hK => ?_)
  go_simp
  go_at_call 56
  refine (HC.out _).mono ?_
  rintro r w3 ⟨v3, rfl, ho3, b3⟩
  have m8 := HC8.out _ (hw.trans b3)
  obtain ⟨lA, ln, lc, w6, r6, n8, k8, hd6⟩ := HPU.out _ (hw.trans b3) _ _ ho3 23
  have HD6 := Bx.mk hd6
  clear hd6
  refine hK.out _ _ (fun _ => m8) ?_
  clear hK K
  try simp only [Act.put, List.setIfInBounds_toArray, List.set_cons_zero, List.set_cons_succ]
  refine wpAnyX_one (i := 11) (by kernel_rfl) rfl (fun K hK => ?_)
  refine step_append_run rfl (.tmp 12) (.tmp 18) 23 rfl (.slice oA on oc) _ rfl rfl r6 ?_
  refine hK.out _ _ (fun _ => n8) ?_
  clear hK K
  try simp only [Act.put, List.setIfInBounds_toArray, List.set_cons_zero, List.set_cons_succ]
  refine wpAnyX_take0 (i := 12) (oi := ⟨some 20, Op.nilCheck (Operand.tmp 8), 0, _, _, none⟩) (v := ?v12) rfl (by omega) (by kernel_rfl) (by kernel_rfl) (by kernel_rfl) (fun _ _ _ h => h) (Or.inl ⟨by rfl, ?y12⟩) (by assumption) ?r12
  case y12 =>
    intro W hSw
    try dsimp only at hSw
    go_simp
    try with_reducible rfl
  case r12 =>
  try simp only [Act.put, List.setIfInBounds_toArray, List.set_cons_zero, List.set_cons_succ]
  refine wpAnyX_take0 (i := 13) (oi := ⟨some 21, Op.fieldAddr 60 (Operand.tmp 20) 8, 0, _, _, none⟩) (v := ?v13) rfl (by omega) (by kernel_rfl) (by kernel_rfl) (by kernel_rfl) (fun _ _ _ h => h) (Or.inl ⟨by rfl, ?y13⟩) (by assumption) ?r13
  case y13 =>
    intro W hSw
    try dsimp only at hSw
    go_simp
    try with_reducible rfl
  case r13 =>
  try simp only [Act.put, List.setIfInBounds_toArray, List.set_cons_zero, List.set_cons_succ]
  refine wpAnyX_one (i := 14) (by kernel_rfl) rfl (fun K hK => ?_)
  go_simp
  refine hK.out _ _ (fun h => absurd h (by decide)) ?_
  clear hK K
  try simp only [Act.put, List.setIfInBounds_toArray, List.set_cons_zero, List.set_cons_succ]
  refine wpAnyX_done (by kernel_rfl) ?_ _
  go_wp2_with fail
  go_end0
  exact ⟨rfl, HD6.out.trans fun S' hh => ⟨S', ⟨_, _, _, hh⟩, fun k hk => .inl hk, Fp.of_below (Below.refl _ _)⟩⟩
  --END
end
end Go.Proofs.Yteopmaaghhendaa

/-
  What the draft's field calls, over a section under way.
-/
namespace Go.Proofs.Yteopmaaghhendaa
open Go.RowKit Go.Maps
set_option linter.unusedVariables false

section
variable {q p N N' s d : Nat} {E : Qe} {S : Nat → Prop} {w wx wy : World} {a a' : Qa} {e T : Nat → Prop}
end
end Go.Proofs.Yteopmaaghhendaa

/-
  The draft's field: the ways that end at a line of its own.
-/
namespace Go.Proofs.Yteopmaaghhendaa
open Go.RowKit Go.Maps
set_option linter.unusedVariables false

section
variable {q p N N' s d : Nat} {E : Qe} {S : Nat → Prop} {w wx wy : World} {a a' : Qa} {ins ins' : List UInt8} {pl pl' : List Nat} {ln ln' : List (Ql × Value)} {oV pV lV oV' pV' lV' : Value} {e T : Nat → Prop}
end
end Go.Proofs.Yteopmaaghhendaa

/-
  The draft's field: a line in full, nothing ordered.
-/
namespace Go.Proofs.Yteopmaaghhendaa
open Go.RowKit Go.Maps
set_option linter.unusedVariables false

section
variable {q p N N' s d : Nat} {E : Qe} {S : Nat → Prop} {w wx wy : World} {a a' : Qa} {ins ins' : List UInt8} {pl pl' : List Nat} {ln ln' : List (Ql × Value)} {oV pV lV oV' pV' lV' : Value} {e T : Nat → Prop}
end
end Go.Proofs.Yteopmaaghhendaa

/-
  Contracts of the program's QPACK decoder: fail, Table, Waiting, acknowledge, Cancel.
-/
namespace Go.Proofs.Yteopmaaghhendaa
open Go.RowKit Go.Maps
set_option linter.unusedVariables false
set_option linter.unusedSimpArgs false

section
variable {P : Program} {ops : Array Oper} {Q : Exit → Act → World → Prop} {o : Oper} {a : Act} {w : World}
theorem wpList_delete_run {rest : List Oper} (hg : o.guard = none) (s x : Operand) (t k : TypeId) (ho : o.op = .call { callee := .builtin .delete, args := #[s, x], argTypes := #[t, k] })
    (v u : Value) (hs : a.eval s = v) (hx : a.eval x = u) {w' : World} (hr : (Builtin.delete_ #[t, k] o.type #[v, u]).run P w = .ok (.tuple #[]) w') (hK : wpList P ops Q rest (a.put o.dst (.tuple #[])) w') :
    wpList P ops Q (o :: rest) a w :=
  wpList_plain hg fun _ hK' => by
    unfold Oper.wp execOp
    simp only [ho, resolve, invoke, builtin, Sem.run_bind, Sem.run_pure, Result.andThen_ok, List.map_toArray, List.map_cons, List.map_nil, hs, hx, hr]
    exact hK' _ _ hK
end
section
variable {q p : Nat} {w w' : World} {S : Nat → Prop} {X Y : Qr}
theorem Dq.here (h : Dq q p X w S) : Turn (Dq q p X) S w w := (Wd.dq q p X).turned h (Below.refl _ _)
/-- A word told of its parts. -/
theorem Dq.shut {bm : Nat} {vR vS : Value} {nm br : Bool} {na : ByteArray} {told : Nat} {T : Tab} {wl : List Nat} {rest says : List UInt8} {a b : World} (ht : Turn (Dh q p bm X.mx X.bk vR nm na br vS told T wl rest says) S a b)
    (h1 : X.nm.isSome = nm) (h2 : X.nm.getD ⟨#[]⟩ = na) (h3 : X.br = br) (h4 : X.told = told) (h5 : X.T = T) (h6 : X.wl = wl) (h7 : X.rest = rest) (h8 : X.says = says) : Turn (Dq q p X) S a b := by
  subst h1 h2 h3 h4 h5 h6 h7 h8
  exact ht.trans fun S' hh => ⟨S', ⟨_, _, _, hh⟩, fun k hk => .inl hk, Fp.of_below (Below.refl _ _)⟩
set_option maxRecDepth 100000 in
set_option maxHeartbeats 1000000 in
theorem dfail_any (h : Dq q p X w S) : Calls Try.prog 29 #[.pointer (some ⟨q, 0, none⟩)] w fun e w' => e = .returned (.tuple #[]) ∧ Turn (Dq q p { X with nm := none, rest := [], br := true }) S w w' := by
  obtain ⟨bm, vR, vS, h⟩ := h
  obtain ⟨_, _, _, _, _, _, _, c7, _, _, cf⟩ := h.cells
  have f7 := cf 7
  have t1 := h.put 7 (.bool true) (dF_br _ _ _ _ _ _ _ _ true _ _)
  obtain ⟨S1, h1, _, _⟩ := id t1
  obtain ⟨_, _, _, _, d4, _, _, _, _, _, df⟩ := h1.cells
  have f4 := df 4
  obtain ⟨S2, h2, _, _⟩ := h1.noRest
  obtain ⟨_, _, _, _, _, e5, _, _, _, _, ef⟩ := h2.cells
  have f5 := ef 5
  obtain ⟨S3, h3, _, _⟩ := h2.put 5 (.bool false) (dF_nm _ _ _ _ _ _ false _ _ _ _)
  obtain ⟨_, _, _, _, _, _, g6, _, _, _, gf⟩ := h3.cells
  have f6 := gf 6
  have HT : Bx (Turn (Dq q p { X with nm := none, rest := [], br := true }) S w ((((w.setCell ⟨q, 7, none⟩ (.bool true)).setCell ⟨q, 4, none⟩ (.slice none 0 0)).setCell ⟨q, 5, none⟩ (.bool false)).setCell ⟨q, 6, none⟩ (.string ⟨#[]⟩))) :=
    ⟨Dq.shut (t1.trans fun _ k1 => k1.noRest.trans fun _ k2 => (k2.put 5 (.bool false) (dF_nm _ _ _ _ _ _ false _ _ _ _)).trans fun _ k3 => k3.put 6 (.string ⟨#[]⟩) (dF_na _ _ _ _ _ _ _ ⟨#[]⟩ _ _ _)) rfl rfl rfl rfl rfl rfl rfl rfl⟩
  clear h t1 h1 h2 h3 cf df ef gf
  go_enter Try.func29, Try.ntmps29
  go_wp2_with fail
  go_end0
  exact ⟨rfl, HT.out⟩
theorem dtable_any (h : Dq q p X w S) : Calls Try.prog 11 #[.pointer (some ⟨q, 0, none⟩)] w fun e w' => e = .returned (.pointer (some ⟨p, 0, none⟩)) ∧ w' = w := by
  obtain ⟨bm, vR, vS, h⟩ := h
  obtain ⟨c0, _⟩ := h.cells
  clear h
  go_enter Try.func11, Try.ntmps11
  go_wp2_with fail
  go_ret
  exact ⟨rfl, rfl⟩
theorem dwaiting_any (h : Dq q p X w S) : Calls Try.prog 16 #[.pointer (some ⟨q, 0, none⟩)] w fun e w' => e = .returned (.int .i64 (X.wl.length : Int)) ∧ w' = w := by
  obtain ⟨bm, vR, vS, h⟩ := h
  obtain ⟨_, _, _, c3, _⟩ := h.cells
  obtain ⟨S1, hm, _⟩ := h.opM
  have hlen := fun ty => hm.len ty
  obtain ⟨L, hL⟩ := letter X.wl.length
  rw [hL] at hlen ⊢
  clear h hm hL
  go_enter Try.func16, Try.ntmps16
  go_wp2_with fail
  go_ret
  exact ⟨rfl, rfl⟩
set_option maxRecDepth 100000 in
set_option maxHeartbeats 1000000 in
theorem dack_any (h : Dq q p X w S) (s c : Nat) (hs : s < 18446744073709551616) (hc : c < 18446744073709551616) (htd : X.told < 18446744073709551616) (hl : X.says.length ≤ 1000000) (V C : Int) (hV : (s : Int) = V) (hC : (c : Int) = C) :
    Calls Try.prog 35 #[.pointer (some ⟨q, 0, none⟩), .int .u64 V, .int .u64 C] w fun e w' => e = .returned (.tuple #[]) ∧ Turn (Dq q p { X with says := if 0 < c then X.says ++ pre 128 7 s else X.says, told := if 0 < c then max X.told c else X.told }) S w w' := by
  by_cases h0 : 0 < c
  · simp only [h0, if_true]
    have hd : (C == 0) = false := by rw [beq_eq_false_iff_ne]; omega
    have HSAY := Bx.mk (say_any h 1 128 7 (by omega) (by omega) (by decide) s hs hl 1 7 V rfl rfl hV)
    obtain ⟨K, hK⟩ := letter X.told
    obtain ⟨M, hM⟩ := letter (max X.told c)
    have hmax : max K C = M := by omega
    have HPT : Bx (∀ W S', Dq q p { X with says := X.says ++ pre 128 7 s } W S' → W.cell? ⟨q, 9, none⟩ = some (.int .u64 K) ∧ W.frozen? ⟨q, 9, none⟩ = false ∧ Turn (Dq q p { X with says := X.says ++ pre 128 7 s, told := max X.told c }) S' W (W.setCell ⟨q, 9, none⟩ (.int .u64 M))) := ⟨fun W S' hh => by
      obtain ⟨bm, vR, vS, hh⟩ := hh
      obtain ⟨_, _, _, _, _, _, _, _, _, c9, cf⟩ := hh.cells
      rw [hK] at c9
      refine ⟨c9, cf 9, ?_⟩
      rw [← hM]
      exact Dq.shut (hh.put 9 (.int .u64 ((max X.told c : Nat) : Int)) (dF_told _ _ _ _ _ _ _ _ _ _ _)) rfl rfl rfl rfl rfl rfl rfl rfl⟩
    clear h hV hC hK hM h0 hs hc htd hl
    go_enter Try.func35, Try.ntmps35
    go_wp2_with (go_at_call 31; refine HSAY.out.mono ?_; rintro e w1 ⟨rfl, ht1⟩; have HT1 := Bx.mk ht1; obtain ⟨S1, k1, _, _⟩ := ht1; obtain ⟨c9, f9, ht2⟩ := HPT.out w1 S1 k1; clear k1 ht2)
    go_end0
    exact ⟨rfl, HT1.out.trans fun S' hh => (HPT.out w1 S' hh).2.2⟩
  · simp only [h0, if_false]
    have hd : (C == 0) = true := by rw [beq_iff_eq]; omega
    have HT := Bx.mk h.here
    clear h hV hC h0 hs hc htd hl
    go_enter Try.func35, Try.ntmps35
    go_wp2_with fail
    refine bodyPost_ret (results_none rfl _ _ _) rfl ?_
    exact ⟨rfl, HT.out⟩
set_option maxRecDepth 100000 in
set_option maxHeartbeats 1000000 in
/-- A section's stream that waits. -/
theorem dwait_any (h : Dq q p X w S) (s : Nat) (hs : s < 18446744073709551616) (hl : X.wl.length < 1000000) (hbk : X.bk < 9223372036854775808) (V : Int) (hV : (s : Int) = V) :
    Calls Try.prog 33 #[.pointer (some ⟨q, 0, none⟩), .int .u64 V] w fun e w' => e = .returned (.int .i64 (X.wait s).2) ∧ Turn (Dq q p (X.wait s).1) S w w' := by
  obtain ⟨g, hg⟩ : ∃ g, w.heap.size = g := ⟨_, rfl⟩
  have hb : Below w.heap.size w (w.alloc (.cells #[] 115)) := (Below.refl _ _).alloc (Nat.le_refl _) _
  obtain ⟨wA, hwA⟩ : ∃ wA, w.alloc (.cells #[] 115) = wA := ⟨_, rfl⟩
  obtain ⟨bm, vR, vS, h⟩ := h
  obtain ⟨_, _, c2, c3, _⟩ := h.cells
  obtain ⟨S1, hm, _⟩ := h.opM
  have hlook : (Instr.lookup 58 (.map (some bm)) (.int .u64 V) true).run Try.prog w = .ok (.tuple #[.agg #[], .bool (decide (s ∈ X.wl))]) w := by rw [← hV]; exact hm.look hs
  have hD : Below w.heap.size w wA.drew := by rw [← hwA]; exact hb.drew
  have hAD := (Wd.dh ..).keep h hD
  obtain ⟨_, _, e2, e3, _⟩ := hAD.cells
  obtain ⟨S2, hm2, _, hcl2⟩ := hAD.opM
  have hlen := fun ty => hm2.len ty
  obtain ⟨L, hL⟩ := letter X.wl.length
  obtain ⟨BK, hBK⟩ := letter X.bk
  rw [hL] at hlen
  rw [hBK] at c2 e2
  obtain ⟨wP, hrun, hP⟩ := hm2.put hs hl
  rw [hV] at hrun
  have hput := hcl2 wP _ hP
  have HPT : Bx (Turn (Dq q p { X with wl := if s ∈ X.wl then X.wl else s :: X.wl }) S wA.drew wP) := ⟨Dq.shut hput rfl rfl rfl rfl rfl rfl rfl rfl⟩
  have HD := Bx.mk hD
  have HE : Bx (Turn (Dq q p X) S w wA.drew) := ⟨Turn.before hD (Dq.here ⟨_, _, _, hAD⟩)⟩
  by_cases hsw : s ∈ X.wl
  · rw [decide_eq_true hsw] at hlook
    have hW : X.wait s = (X, 27) := by unfold Qr.wait; rw [if_pos hsw]
    rw [if_pos hsw] at HPT
    rw [hW]
    have hX : ({ X with wl := X.wl } : Qr) = X := rfl
    clear h hm hm2 hcl2 hAD hV hL hBK hs hl hbk hsw hP hput hD hb hlen
    go_enter Try.func33, Try.ntmps33
    go_wp2_with fail
    go_region
    go_wp2_with fail
    go_ret
    exact ⟨rfl, Turn.before HD.out HPT.out⟩
  · rw [decide_eq_false hsw] at hlook
    rw [if_neg hsw] at HPT
    by_cases hf : X.bk ≤ X.wl.length
    · have hW : X.wait s = (X, 50) := by unfold Qr.wait; rw [if_neg hsw, if_pos hf]
      rw [hW]
      have hd : decide (BK ≤ L) = true := decide_eq_true (by omega)
      clear h hm hm2 hcl2 hAD hV hL hBK hs hl hbk hsw hP hput hD hb hrun HPT hf
      go_enter Try.func33, Try.ntmps33
      go_wp2_with fail
      go_region
      go_wp2_with fail
      go_ret
      exact ⟨rfl, HE.out⟩
    · have hW : X.wait s = ({ X with wl := s :: X.wl }, 27) := by unfold Qr.wait; rw [if_neg hsw, if_neg hf]
      rw [hW]
      have hd : decide (BK ≤ L) = false := decide_eq_false (by omega)
      clear h hm hm2 hcl2 hAD hV hL hBK hs hl hbk hsw hP hput hD hb hf
      go_enter Try.func33, Try.ntmps33
      go_wp2_with fail
      go_region
      go_wp2_with fail
      go_ret
      exact ⟨rfl, Turn.before HD.out HPT.out⟩
end
end Go.Proofs.Yteopmaaghhendaa

/-
  The draft's field: an entry stands.
-/
namespace Go.Proofs.Yteopmaaghhendaa
open Go.RowKit Go.Maps
set_option linter.unusedVariables false

section
variable {q p N N' s d : Nat} {E : Qe} {S : Nat → Prop} {w wx wy : World} {a a' : Qa} {ins ins' : List UInt8} {pl pl' : List Nat} {ln ln' : List (Ql × Value)} {oV pV lV oV' pV' lV' : Value} {e T : Nat → Prop}
end
end Go.Proofs.Yteopmaaghhendaa

/-
  The draft's field: an entry stands.
-/
namespace Go.Proofs.Yteopmaaghhendaa
open Go.RowKit Go.Maps
set_option linter.unusedVariables false

section
variable {q p N N' s d : Nat} {E : Qe} {S : Nat → Prop} {w wx wy : World} {a a' : Qa} {ins ins' : List UInt8} {pl pl' : List Nat} {ln ln' : List (Ql × Value)} {oV pV lV oV' pV' lV' : Value} {e T : Nat → Prop}
end
end Go.Proofs.Yteopmaaghhendaa

/-
  The draft's field: an order more, an entry more.
-/
namespace Go.Proofs.Yteopmaaghhendaa
open Go.RowKit Go.Maps
set_option linter.unusedVariables false

section
variable {q p N N' s d : Nat} {E : Qe} {S : Nat → Prop} {w wx wy : World} {a a' : Qa} {ins ins' : List UInt8} {pl pl' : List Nat} {ln ln' : List (Ql × Value)} {oV pV lV oV' pV' lV' : Value} {e T : Nat → Prop}
end
end Go.Proofs.Yteopmaaghhendaa

/-
  The draft's field: an entry is ordered.
-/
namespace Go.Proofs.Yteopmaaghhendaa
open Go.RowKit Go.Maps
set_option linter.unusedVariables false

section
variable {q p N N' s d : Nat} {E : Qe} {S : Nat → Prop} {w wx wy : World} {a a' : Qa} {ins ins' : List UInt8} {pl pl' : List Nat} {ln ln' : List (Ql × Value)} {oV pV lV oV' pV' lV' : Value} {e T : Nat → Prop}
end
end Go.Proofs.Yteopmaaghhendaa
