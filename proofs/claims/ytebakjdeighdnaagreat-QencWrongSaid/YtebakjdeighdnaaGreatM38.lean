/-
  Texts put together: QnH, QnI, QnJ, QnK, QnL.
-/
import Derived.Test.YtebakjdeighdnaaGreatM32
import Derived.Test.YtebakjdeighdnaaGreatM01
import Derived.Deep.RegionHeld
import Derived.Deep.CutBlock
import Derived.BigRegion
import Derived.Handy

/-
  The document's Encode of QPACK, in pieces: its code, its frame, the state between two fields; a literal line.
-/
namespace Go.Proofs.YtebakjdeighdnaaGreat
open Go.RowKit Go.Maps
set_option linter.unusedVariables false

noncomputable def ecode : Code := (Tryz.f16).body.getD .skip
noncomputable def efrom (n : Nat) : Code := (fromR n ecode).getD .skip
noncomputable def estmt (n : Nat) : Code := (fromS n ecode).getD .skip
noncomputable def eloop (n : Nat) : Code := ((loopAt n ecode).1).getD .skip

set_option maxRecDepth 1000000 in
theorem eframe (a : Act) (hs : a.tmps.size = 288) (hd : a.defers = []) : ∃ u : Nat → Value, (∀ i, a.tmps.getD i undef = u i) ∧ a = ⟨#[u 0, u 1, u 2, u 3, u 4, u 5, u 6, u 7, u 8, u 9, u 10, u 11, u 12, u 13, u 14, u 15, u 16, u 17, u 18, u 19, u 20, u 21, u 22, u 23, u 24, u 25, u 26, u 27, u 28, u 29, u 30, u 31, u 32, u 33, u 34, u 35, u 36, u 37, u 38, u 39, u 40, u 41, u 42, u 43, u 44, u 45, u 46, u 47, u 48, u 49, u 50, u 51, u 52, u 53, u 54, u 55, u 56, u 57, u 58, u 59, u 60, u 61, u 62, u 63, u 64, u 65, u 66, u 67, u 68, u 69, u 70, u 71, u 72, u 73, u 74, u 75, u 76, u 77, u 78, u 79, u 80, u 81, u 82, u 83, u 84, u 85, u 86, u 87, u 88, u 89, u 90, u 91, u 92, u 93, u 94, u 95, u 96, u 97, u 98, u 99, u 100, u 101, u 102, u 103, u 104, u 105, u 106, u 107, u 108, u 109, u 110, u 111, u 112, u 113, u 114, u 115, u 116, u 117, u 118, u 119, u 120, u 121, u 122, u 123, u 124, u 125, u 126, u 127, u 128, u 129, u 130, u 131, u 132, u 133, u 134, u 135, u 136, u 137, u 138, u 139, u 140, u 141, u 142, u 143, u 144, u 145, u 146, u 147, u 148, u 149, u 150, u 151, u 152, u 153, u 154, u 155, u 156, u 157, u 158, u 159, u 160, u 161, u 162, u 163, u 164, u 165, u 166, u 167, u 168, u 169, u 170, u 171, u 172, u 173, u 174, u 175, u 176, u 177, u 178, u 179, u 180, u 181, u 182, u 183, u 184, u 185, u 186, u 187, u 188, u 189, u 190, u 191, u 192, u 193, u 194, u 195, u 196, u 197, u 198, u 199, u 200, u 201, u 202, u 203, u 204, u 205, u 206, u 207, u 208, u 209, u 210, u 211, u 212, u 213, u 214, u 215, u 216, u 217, u 218, u 219, u 220, u 221, u 222, u 223, u 224, u 225, u 226, u 227, u 228, u 229, u 230, u 231, u 232, u 233, u 234, u 235, u 236, u 237, u 238, u 239, u 240, u 241, u 242, u 243, u 244, u 245, u 246, u 247, u 248, u 249, u 250, u 251, u 252, u 253, u 254, u 255, u 256, u 257, u 258, u 259, u 260, u 261, u 262, u 263, u 264, u 265, u 266, u 267, u 268, u 269, u 270, u 271, u 272, u 273, u 274, u 275, u 276, u 277, u 278, u 279, u 280, u 281, u 282, u 283, u 284, u 285, u 286, u 287], []⟩ :=
  ⟨fun i => a.tmps.getD i undef, fun _ => rfl, frame_eta 288 a hs hd⟩

/-- The slots that are read on. -/
structure At1 (a : Act) (q s : Nat) (lV : Value) (fb : Bool) (g0 : Nat) (iV uV aV : Value) (c k : Nat) : Prop where
  d : a.defers = []
  z : a.tmps.size = 288
  t0 : a.tmps.getD 0 undef = .pointer (some ⟨q, 0, none⟩)
  t1 : a.tmps.getD 1 undef = .int .u64 (s : Int)
  t2 : a.tmps.getD 2 undef = lV
  t8 : a.tmps.getD 8 undef = iV
  t10 : a.tmps.getD 10 undef = .bool fb
  t11 : a.tmps.getD 11 undef = .slice (some ⟨g0, 0, none⟩) 99 99
  t12 : a.tmps.getD 12 undef = uV
  t13 : a.tmps.getD 13 undef = .int .u64 (c : Int)
  t14 : a.tmps.getD 14 undef = aV
  t15 : a.tmps.getD 15 undef = .int .i64 (k : Int)
/-- The encoder under way. -/
def Qe.at (E : Qe) (T : Tab) : Qe := ⟨T, E.B, E.K, E.op, E.rest, E.err, true⟩
/-- Between two fields. -/
def Nx (q t s : Nat) (E : Qe) (S : Nat → Prop) (w : World) (lV : Value) (fb : Bool) (g0 k : Nat) (a : Qa) (ac : Act) (wx : World) : Prop :=
  ∃ iV uV aV, At1 ac q s lV fb g0 iV uV aV a.c k ∧ QS q t (E.at a.T) S w [(g0, C3)] iV a.ins uV a.u aV a.all wx
/-- Bounds that are enough. -/
structure Bd (a : Qa) : Prop where
  ins : a.ins.length ≤ 25000
  all : a.all.length ≤ 100
  u : a.u.length ≤ 100
  tot : a.T.tot ≤ 900000
  c : a.c ≤ a.T.tot

theorem infoL : ∃ i z, Tryz.prog.info? 94 = some i ∧ i.zero = some z ∧ z.cells.size = 4 ∧ i.size = 4 ∧ i.bytes = 48 := by
  have h : (Tryz.prog.info? 94).map (fun i => (i.zero.map (fun z => z.cells.size), i.size, i.bytes)) = some (some 4, 4, 48) := by kernel_rfl
  cases hi : Tryz.prog.info? 94 with
  | none => rw [hi] at h; simp at h
  | some i =>
    rw [hi] at h
    simp only [Option.map_some, Option.some.injEq, Prod.mk.injEq] at h
    cases hz : i.zero with
    | none => rw [hz] at h; simp at h
    | some z =>
      rw [hz] at h
      simp only [Option.map_some, Option.some.injEq] at h
      exact ⟨i, z, rfl, hz, h.1, h.2.1, h.2.2⟩
theorem infoU : ∃ i z, Tryz.prog.info? 32 = some i ∧ i.zero = some z ∧ z.cells.size = 1 ∧ i.size = 1 ∧ i.bytes = 8 := by
  have h : (Tryz.prog.info? 32).map (fun i => (i.zero.map (fun z => z.cells.size), i.size, i.bytes)) = some (some 1, 1, 8) := by kernel_rfl
  cases hi : Tryz.prog.info? 32 with
  | none => rw [hi] at h; simp at h
  | some i =>
    rw [hi] at h
    simp only [Option.map_some, Option.some.injEq, Prod.mk.injEq] at h
    cases hz : i.zero with
    | none => rw [hz] at h; simp at h
    | some z =>
      rw [hz] at h
      simp only [Option.map_some, Option.some.injEq] at h
      exact ⟨i, z, rfl, hz, h.1, h.2.1, h.2.2⟩

section
variable {q t s : Nat} {E : Qe} {S : Nat → Prop} {w wx : World} {fx : List (Nat × Array Value)} {iV uV aV : Value} {ins : List UInt8} {us : List Nat} {all : List Ql}
theorem Rn.lit1 {k : Nat} (w : World) (e : TypeId) (cs : Array Value) (hn : cs.size = k) : Rn k (w.alloc (.cells cs e)) (.slice (some ⟨w.heap.size, 0, none⟩) 1 1) 1 cs.toList :=
  Rn.of_own (World.ownsRow_lit (base := w.heap.size) (e := e) (size := k) w cs 1 (Nat.le_refl _) (by unfold maxLen; omega) (by omega))
/-- A line more. -/
theorem wpList_pushL {ops : Array Oper} {rest : List Oper} {o : Oper} {a : Act} {Q : Exit → Act → World → Prop} (hgd : o.guard = none) (so xo : Operand)
    (ho : o.op = .call { callee := .builtin .append, args := #[so, xo], argTypes := #[90, 90] }) (y : Ql) {KV IV : Int} (hkv : (y.k : Int) = KV) (hiv : (y.i : Int) = IV)
    (h : QS q t E S w fx iV ins uV us aV all wx) (hl : all.length ≤ 1000) (hs : a.eval so = aV) (hx : a.eval xo = .slice (some ⟨wx.heap.size, 0, none⟩) 1 1)
    (hK : ∀ v' w', QS q t E S w fx iV ins uV us v' (all ++ [y]) w' → wpList Tryz.prog ops Q rest (a.put o.dst v') w') :
    wpList Tryz.prog ops Q (o :: rest) a (wx.alloc (.cells #[.int .i64 KV, .int .u64 IV, .string y.f.1, .string y.f.2] 94)) := by
  subst hkv hiv
  obtain ⟨i, z, h1, h2, h3, h4, h5⟩ := infoL
  have hb := (Below.refl wx.heap.size wx).alloc (Nat.le_refl _) (.cells #[.int .i64 (y.k : Int), .int .u64 (y.i : Int), .string y.f.1, .string y.f.2] 94)
  have hq := h.keep hb
  refine wpList_append_ok _ 4 (by omega) hgd so xo 90 ho w.heap.size 94 i z 48 Tryz.underlying90 h1 h2 h4 h5 h3 _ _ all.length 1 (all.flatMap lcl) (lcl y) hs hx hq.lines (Rn.lit1 wx _ _ rfl) ?_ (by omega) (by unfold maxLen; omega) hq.size ?_
  · intro x hx
    simp only [lcl, List.mem_cons, List.not_mem_nil, or_false] at hx
    rcases hx with rfl | rfl | rfl | rfl <;> rfl
  · intro v' w' hap hb2 hg
    refine hK v' w' (hq.line ?_ hb2 hg)
    unfold OwL
    rw [List.length_append, List.flatMap_append]
    simpa using hap
/-- A place more. -/
theorem wpList_pushU {ops : Array Oper} {rest : List Oper} {o : Oper} {a : Act} {Q : Exit → Act → World → Prop} (hgd : o.guard = none) (so xo : Operand)
    (ho : o.op = .call { callee := .builtin .append, args := #[so, xo], argTypes := #[66, 66] }) (y : Nat) {IV : Int} (hiv : (y : Int) = IV)
    (h : QS q t E S w fx iV ins uV us aV all wx) (hl : us.length ≤ 1000) (hs : a.eval so = uV) (hx : a.eval xo = .slice (some ⟨wx.heap.size, 0, none⟩) 1 1)
    (hK : ∀ v' w', QS q t E S w fx iV ins v' (us ++ [y]) aV all w' → wpList Tryz.prog ops Q rest (a.put o.dst v') w') :
    wpList Tryz.prog ops Q (o :: rest) a (wx.alloc (.cells #[.int .u64 IV] 32)) := by
  subst hiv
  obtain ⟨i, z, h1, h2, h3, h4, h5⟩ := infoU
  have hb := (Below.refl wx.heap.size wx).alloc (Nat.le_refl _) (.cells #[.int .u64 (y : Int)] 32)
  have hq := h.keep hb
  refine wpList_append_ok _ 1 (by omega) hgd so xo 66 ho w.heap.size 32 i z 8 Tryz.underlying66 h1 h2 h4 h5 h3 _ _ us.length 1 (us.map uN) [uN y] hs hx hq.uses (Rn.lit1 wx _ _ rfl) ?_ (by omega) (by unfold maxLen; omega) hq.size ?_
  · intro x hx
    rw [List.mem_singleton.1 hx]
    rfl
  · intro v' w' hap hb2 hg
    refine hK v' w' (hq.use ?_ hb2 hg)
    unfold OwU
    rw [List.length_append, List.map_append]
    exact hap
end

section
variable {q t s : Nat} {E : Qe} {S : Nat → Prop} {w wx : World} {lV : Value} {fb : Bool} {g0 k G : Nat} {a : Qa} {f1 f2 : ByteArray} {iV uV aV : Value}
set_option maxRecDepth 100000 in
set_option maxHeartbeats 40000000 in
/-- A literal line. -/
theorem lit_any (ac : Act) (hA : At1 ac q s lV fb g0 iV uV aV a.c k) (h16 : ac.tmps.getD 16 undef = .pointer (some ⟨G, 0, none⟩)) (at_ : Nat) (nm : Bool) (h17 : ac.tmps.getD 17 undef = .int .i64 (at_ : Int)) (h18 : ac.tmps.getD 18 undef = .bool nm)
    (hfs : (findS T3 (f1, f2)).1 = at_ ∧ (findS T3 (f1, f2)).2.1 = nm) (hat : at_ ≤ 99) (hQ : QS q t (E.at a.T) S w [(G, #[.string f1, .string f2]), (g0, C3)] iV a.ins uV a.u aV a.all wx) (hB : Bd a) :
    Code.wp Tryz.prog (estmt 33) (Kx (Nx q t s E S w lV fb g0 k (a.line (litQ (f1, f2)))) (fun _ _ => False) (fun _ _ _ => False)) ac wx := by
  have HQ := Bx.mk hQ
  have hB3 := hB.all
  have HL : Bx (litQ (f1, f2) = if nm then ⟨2, at_, (f1, f2)⟩ else ⟨3, 0, (f1, f2)⟩) := ⟨by unfold litQ; rw [hfs.1, hfs.2]⟩
  obtain ⟨ha, hb⟩ := (hQ.fb (g := G) (f1 := f1) (f2 := f2) (by simp)).cells
  obtain ⟨u, hu, hac⟩ := eframe ac hA.z hA.d
  have h0 := (hu 0).symm.trans hA.t0
  have h1 := (hu 1).symm.trans hA.t1
  have h2 := (hu 2).symm.trans hA.t2
  have h8 := (hu 8).symm.trans hA.t8
  have h10 := (hu 10).symm.trans hA.t10
  have h11 := (hu 11).symm.trans hA.t11
  have h12 := (hu 12).symm.trans hA.t12
  have h13 := (hu 13).symm.trans hA.t13
  have h14 := (hu 14).symm.trans hA.t14
  have h15 := (hu 15).symm.trans hA.t15
  have h16' := (hu 16).symm.trans h16
  have h17' := (hu 17).symm.trans h17
  have h18' := (hu 18).symm.trans h18
  rw [hac]
  clear hac hA h16 h17 h18
  rw [h0, h1, h2, h8, h10, h11, h12, h13, h14, h15, h16', h17', h18']
  clear h0 h1 h2 h8 h10 h11 h12 h13 h14 h15 h16' h17' h18' hu
  conv => arg 2; whnf
  have hw : IntKind.u64.wrap (at_ : Int) = (at_ : Int) := u64_keep (by omega) (by omega)
  clear hfs hat hQ
  cases nm with
  | true =>
    have HL2 : Bx (litQ (f1, f2) = ⟨2, at_, (f1, f2)⟩) := ⟨by rw [HL.out, if_pos rfl]⟩
    clear HL
    go_wp2_with (at_builtin; refine wpList_pushL rfl _ _ rfl ⟨2, at_, (f1, f2)⟩ rfl rfl HQ.out (by omega) rfl rfl ?_; intro v2 w2 hq2; have HQ2 := Bx.mk hq2; clear hq2)
    exact Kx.norm ⟨_, _, _, ⟨rfl, rfl, rfl, rfl, rfl, rfl, rfl, rfl, rfl, rfl, rfl, rfl⟩, by rw [HL2.out]; exact HQ2.out.sub (by simp)⟩
  | false =>
    have HL2 : Bx (litQ (f1, f2) = ⟨3, 0, (f1, f2)⟩) := ⟨by rw [HL.out]; rfl⟩
    clear HL
    go_wp2_with (at_builtin; refine wpList_pushL rfl _ _ rfl ⟨3, 0, (f1, f2)⟩ rfl rfl HQ.out (by omega) rfl rfl ?_; intro v2 w2 hq2; have HQ2 := Bx.mk hq2; clear hq2)
    exact Kx.norm ⟨_, _, _, ⟨rfl, rfl, rfl, rfl, rfl, rfl, rfl, rfl, rfl, rfl, rfl, rfl⟩, by rw [HL2.out]; exact HQ2.out.sub (by simp)⟩
end
end Go.Proofs.YtebakjdeighdnaaGreat

/-
  The document's Encode of QPACK, in pieces: an entry that is inserted.
-/
namespace Go.Proofs.YtebakjdeighdnaaGreat
open Go.RowKit Go.Maps
set_option linter.unusedVariables false

section
variable {q t s : Nat} {E : Qe} {S : Nat → Prop} {w wx : World} {lV : Value} {fb : Bool} {g0 k G : Nat} {a : Qa} {f1 f2 : ByteArray} {iV uV aV : Value} {fx : List (Nat × Array Value)} {ins : List UInt8} {us : List Nat} {all : List Ql}
/-- The slots of the field at hand. -/
structure At2 (ac : Act) (G at_ : Nat) (nm : Bool) : Prop where
  t16 : ac.tmps.getD 16 undef = .pointer (some ⟨G, 0, none⟩)
  t17 : ac.tmps.getD 17 undef = .int .i64 (at_ : Int)
  t18 : ac.tmps.getD 18 undef = .bool nm
/-- Behind a field that was inserted and may not be used. -/
def Ix (q t s : Nat) (E : Qe) (S : Nat → Prop) (w : World) (lV : Value) (fb : Bool) (g0 k G at_ : Nat) (nm : Bool) (f1 f2 : ByteArray) (a : Qa) (ac : Act) (wx : World) : Prop :=
  ∃ iV uV aV, At1 ac q s lV fb g0 iV uV aV a.c k ∧ At2 ac G at_ nm ∧ QS q t (E.at a.T) S w [(G, #[.string f1, .string f2]), (g0, C3)] iV a.ins uV a.u aV a.all wx
/-- What the walk reads. -/
theorem QS.reads (h : QS q t E S w fx iV ins uV us aV all wx) (hm : (G, #[.string f1, .string f2]) ∈ fx) : wx.cell? ⟨q, 0, none⟩ = some (.pointer (some ⟨t, 0, none⟩)) ∧ wx.cell? ⟨G, 0, none⟩ = some (.string f1) ∧ wx.cell? ⟨G, 1, none⟩ = some (.string f2) := by
  obtain ⟨e, he⟩ := h.e8
  obtain ⟨_, _, _, _, _, _, c0, _⟩ := he.cells
  exact ⟨c0, (h.fb hm).cells⟩
theorem QS.total (h : QS q t E S w fx iV ins uV us aV all wx) : wx.cell? ⟨t, 2, none⟩ = some (.int .u64 (E.T.tot : Int)) := by
  obtain ⟨e, he⟩ := h.e8
  obtain ⟨_, _, _, _, c2⟩ := he.tcells
  exact c2
set_option maxRecDepth 100000 in
set_option maxHeartbeats 40000000 in
/-- An entry that is inserted. -/
theorem ins_any (ac : Act) (hA : At1 ac q s lV fb g0 iV uV aV a.c k) (at_ : Nat) (nm : Bool) (hA2 : At2 ac G at_ nm) (hfs : (findS T3 (f1, f2)).1 = at_ ∧ (findS T3 (f1, f2)).2.1 = nm) (hat : at_ ≤ 99) (hfz : fsz (f1, f2) ≤ 20000) (hcap : fsz (f1, f2) + 32 ≤ a.T.cap)
    (hQ : QS q t (E.at a.T) S w [(G, #[.string f1, .string f2]), (g0, C3)] iV a.ins uV a.u aV a.all wx) (hB : Bd a) :
    Code.wp Tryz.prog (estmt 23) (Kx (fun ac' w' => fb = false ∧ Ix q t s E S w lV fb g0 k G at_ nm f1 f2 (a.insd (f1, f2)) ac' w') (fun _ _ => False) (fun i ac' w' => i = 1 ∧ fb = true ∧ Nx q t s E S w lV fb g0 k ((a.insd (f1, f2)).ref (f1, f2) a.T.tot) ac' w')) ac wx := by
  have HQ := Bx.mk hQ
  have hB1 := hB.ins
  have hB2 := hB.u
  have hB3 := hB.all
  have hB4 := hB.tot
  have hB5 := hB.c
  have htot : (a.T.add (f1, f2)).tot = a.T.tot + 1 := by unfold Tab.add; rw [if_pos hcap]
  have hs1 : f1.size ≤ 20000 := by unfold fsz at hfz; simp only at hfz; omega
  have hs2 : f2.size ≤ 20000 := by unfold fsz at hfz; simp only at hfz; omega
  have HPRE := Bx.mk (fun V (hV : (at_ : Int) = V) => refPrefix_at w.heap.size iV a.ins 192 192 rfl 6 6 rfl at_ V hV wx hQ.bytes hQ.size (by omega) (by omega))
  have HPUN := Bx.mk (putStr_non w.heap.size iV a.ins 64 5 (by omega) (by omega) f1 wx hQ.bytes hQ.size (by omega) hs1)
  obtain ⟨nb, hnb0⟩ : ∃ nb, nb = (if nm then pre 192 6 at_ else putSk 64 5 f1.data.toList) := ⟨_, rfl⟩
  have hnb : nb ++ putSk 0 7 f2.data.toList = insW (f1, f2) := by unfold insW; rw [hfs.1, hfs.2, hnb0]
  have hnl : nb.length ≤ 20011 := by
    have h1 := (pre_len 192 6 at_).2
    have h2 := putSk_len 64 5 f1.data.toList
    have e1 : f1.data.toList.length = f1.size := by simp
    rw [hnb0]
    split <;> omega
  have HPUT : Bx (∀ (W : World) (V : Value), OwB W w.heap.size V (a.ins ++ nb) → w.heap.size ≤ W.heap.size → Calls Tryz.prog 43 #[V, .int .u8 0, .int .i64 7, .string f2] W fun e w' => ∃ v', e = .returned v' ∧ OwB w' w.heap.size v' (a.ins ++ insW (f1, f2)) ∧ Below w.heap.size W w' ∧ NonB W w') := ⟨fun W V ho hs => by
    have h := putStr_non w.heap.size V (a.ins ++ nb) 0 7 (by omega) (by omega) f2 W ho hs (by rw [List.length_append]; omega) hs2
    rw [List.append_assoc, hnb] at h
    exact h⟩
  have HNB := Bx.mk hnb0
  have HTOT := Bx.mk htot
  have hw : IntKind.u64.wrap (at_ : Int) = (at_ : Int) := u64_keep (by omega) (by omega)
  obtain ⟨ha0, ha, hb⟩ := hQ.reads (G := G) (f1 := f1) (f2 := f2) (by simp)
  obtain ⟨u, hu, hac⟩ := eframe ac hA.z hA.d
  have h0 := (hu 0).symm.trans hA.t0
  have h1 := (hu 1).symm.trans hA.t1
  have h2 := (hu 2).symm.trans hA.t2
  have h8 := (hu 8).symm.trans hA.t8
  have h10 := (hu 10).symm.trans hA.t10
  have h11 := (hu 11).symm.trans hA.t11
  have h12 := (hu 12).symm.trans hA.t12
  have h13 := (hu 13).symm.trans hA.t13
  have h14 := (hu 14).symm.trans hA.t14
  have h15 := (hu 15).symm.trans hA.t15
  have h16 := (hu 16).symm.trans hA2.t16
  have h17 := (hu 17).symm.trans hA2.t17
  have h18 := (hu 18).symm.trans hA2.t18
  rw [hac]
  clear hac hA hA2
  rw [h0, h1, h2, h8, h10, h11, h12, h13, h14, h15, h16, h17, h18]
  clear h0 h1 h2 h8 h10 h11 h12 h13 h14 h15 h16 h17 h18 hu
  conv => arg 2; whnf
  have HC5 := Bx.mk (show a.c ≤ a.T.tot ∧ a.T.tot ≤ 900000 from ⟨hB5, hB4⟩)
  clear hnb hnl hB htot hs1 hs2 hB1 hB4 hB5 hcap hQ hnb0 hfs
  go_upto_if 137 with fail
  go_cut [8] from 138 to 145 (fun s8 w0 => Bx (QS q t (E.at a.T) S w [(G, #[.string f1, .string f2]), (g0, C3)] s8 (a.ins ++ nb) uV a.u aV a.all w0))
  case first =>
    cases nm with
    | true =>
      go_wp2_with fail
      refine (HPRE.out _ rfl).mono ?_
      rintro e w1 ⟨v1, rfl, ho1, b1, n1⟩
      have HQ1 : Bx (QS q t (E.at a.T) S w [(G, #[.string f1, .string f2]), (g0, C3)] v1 (a.ins ++ nb) uV a.u aV a.all w1) := ⟨by have h := HNB.out; rw [if_pos trivial] at h; rw [h]; exact HQ.out.byte ho1 b1 n1⟩
      clear ho1 b1 n1 HNB
      go_wp2_with fail
      go_meet
      exact HQ1
    | false =>
      go_wp2_with fail
      refine HPUN.out.mono ?_
      rintro e w1 ⟨v1, rfl, ho1, b1, n1⟩
      have HQ1 : Bx (QS q t (E.at a.T) S w [(G, #[.string f1, .string f2]), (g0, C3)] v1 (a.ins ++ nb) uV a.u aV a.all w1) := ⟨by have h := HNB.out; (first | rw [if_neg Bool.false_ne_true] at h | rw [if_neg not_false] at h); rw [h]; exact HQ.out.byte ho1 b1 n1⟩
      clear ho1 b1 n1 HNB
      go_wp2_with fail
      go_meet
      exact HQ1
  case rest =>
  clear HQ ha0 ha hb HPRE HPUN HNB
  have HQ0 := hcut
  clear hcut
  obtain ⟨ha0, ha, hb⟩ := HQ0.out.reads (G := G) (f1 := f1) (f2 := f2) (by simp)
  go_wp2_with fail
  refine (HPUT.out _ _ HQ0.out.bytes HQ0.out.size).mono ?_
  rintro e w1 ⟨v1, rfl, ho1, b1, n1⟩
  have HQ1 := Bx.mk (HQ0.out.byte ho1 b1 n1)
  clear ho1 b1 n1 ha0 ha hb
  have HQd := Bx.mk (HQ1.out.keep (Below.refl w1.heap.size w1).drew)
  have HADD := Bx.mk (HQd.out.add (f1, f2) (by omega) (by have := HC5.out; show a.T.tot + 1 ≤ 1000000; omega))
  have HRD : Bx (∀ (E' : Qe) (v : Value) (W : World), QS q t E' S w [(G, #[.string f1, .string f2]), (g0, C3)] v (a.ins ++ insW (f1, f2)) uV a.u aV a.all W → W.cell? ⟨q, 0, none⟩ = some (.pointer (some ⟨t, 0, none⟩)) ∧ W.cell? ⟨G, 0, none⟩ = some (.string f1) ∧ W.cell? ⟨G, 1, none⟩ = some (.string f2)) := ⟨fun E' v W h => h.reads (by simp)⟩
  have hS0 := HRD.out _ _ _ HQd.out
  go_wp2_with fail
  go_region_held (fun W => W.cell? ⟨q, 0, none⟩ = some (.pointer (some ⟨t, 0, none⟩)) ∧ W.cell? ⟨G, 0, none⟩ = some (.string f1) ∧ W.cell? ⟨G, 1, none⟩ = some (.string f2)) (first | assumption) (first
    | (go_at_call 44; refine (HADD.out).mono ?_; rintro e w9 ⟨⟨r9, rfl⟩, h9⟩; have HQ2 := Bx.mk h9; have hS9 := HRD.out _ _ w9 h9))
  clear hS0
  obtain ⟨hd0, hd1, hd2⟩ := hS9
  have hd3 := HQ2.out.total
  have hq3 : QS q t (E.at (a.insd (f1, f2)).T) S w [(G, #[.string f1, .string f2]), (g0, C3)] v1 (a.insd (f1, f2)).ins uV a.u aV a.all w9 := HQ2.out
  have HQ3 := Bx.mk hq3
  rw [show (⟨(E.at a.T).T.add (f1, f2), (E.at a.T).B, (E.at a.T).K, (E.at a.T).op, (E.at a.T).rest, (E.at a.T).err, (E.at a.T).said⟩ : Qe).T.tot = a.T.tot + 1 from HTOT.out] at hd3
  clear HADD HQd HQ1 HQ0 HPUT h9 HRD HQ2 hq3
  obtain ⟨X, hX⟩ := letter (a.T.tot + 1)
  obtain ⟨Y, hY⟩ := letter a.T.tot
  obtain ⟨C, hC⟩ := letter a.c
  have hw1 : IntKind.u64.wrap (X - 1) = Y := by have := HC5.out; rw [show X - 1 = Y from by omega]; exact u64_keep (by omega) (by omega)
  have hw2 : IntKind.u64.wrap (Y + 1) = X := by have := HC5.out; rw [show Y + 1 = X from by omega]; exact u64_keep (by omega) (by omega)
  have HMX : Bx ((max a.c (a.T.tot + 1) : Nat) = X) := ⟨by have := HC5.out; omega⟩
  have hcx : C < X := by have := HC5.out; omega
  have hXY := Bx.mk (And.intro hX hY)
  rw [hX] at hd3
  rw [hC]
  have HCC := Bx.mk hC
  clear hX hY hC
  cases fb with
  | true =>
    go_wp2_with (first
      | (at_builtin; refine wpList_pushL rfl _ _ rfl ⟨1, a.T.tot, (f1, f2)⟩ rfl hXY.out.2 HQ3.out (by omega) rfl rfl ?_; intro v2 w2 hq2; have HQ4 := Bx.mk hq2; clear hq2)
      | (at_builtin; refine wpList_pushU rfl _ _ rfl a.T.tot hXY.out.2 HQ4.out (by show a.u.length ≤ 1000; omega) rfl rfl ?_; intro v3 w3 hq2; have HQ5 := Bx.mk hq2; clear hq2))
    refine Kx.exit ⟨rfl, _, _, _, ⟨rfl, rfl, rfl, rfl, rfl, rfl, rfl, rfl, rfl, ?_, rfl, rfl⟩, HQ5.out.sub (by simp)⟩
    have h1 := HMX.out
    have h2 := HCC.out
    show Value.int .u64 (max C X) = Value.int .u64 ((max a.c (a.T.tot + 1) : Nat) : Int)
    congr 1
    omega
  | false =>
    go_wp2_with fail
    refine Kx.norm ⟨_, _, _, ⟨rfl, rfl, rfl, rfl, rfl, rfl, rfl, rfl, rfl, ?_, rfl, rfl⟩, ⟨rfl, rfl, rfl⟩, HQ3.out⟩
    rw [← HCC.out]
    rfl
end
end Go.Proofs.YtebakjdeighdnaaGreat

/-
  The document's Encode of QPACK, in pieces: a field that is in no table whole; one that may be.
-/
namespace Go.Proofs.YtebakjdeighdnaaGreat
open Go.RowKit Go.Maps
set_option linter.unusedVariables false

section
variable {q t s : Nat} {E : Qe} {S : Nat → Prop} {w wx : World} {lV : Value} {fb : Bool} {g0 k G : Nat} {a : Qa} {f1 f2 : ByteArray} {iV uV aV : Value} {fx : List (Nat × Array Value)} {ins : List UInt8} {us : List Nat} {all : List Ql}

theorem Bd.insd {f : Fd} (h : Bd a) (hf : fsz f ≤ 3000) (hcap : fsz f + 32 ≤ a.T.cap) (hi : a.ins.length ≤ 20000) (ht : a.T.tot < 900000) : Bd (a.insd f) := by
  have htot : (a.T.add f).tot = a.T.tot + 1 := by unfold Tab.add; rw [if_pos hcap]
  have := insW_len f
  refine ⟨?_, h.all, h.u, ?_, ?_⟩
  · show (a.ins ++ insW f).length ≤ 25000
    rw [List.length_append]; omega
  · show (a.T.add f).tot ≤ 900000
    omega
  · show a.c ≤ (a.T.add f).tot
    have := h.c
    omega

set_option maxRecDepth 100000 in
set_option maxHeartbeats 40000000 in
/-- A field that is in no table whole, or may not be used. -/
theorem no_any (ac : Act) (hA : At1 ac q s lV fb g0 iV uV aV a.c k) (at_ : Nat) (nm db : Bool) (hA2 : At2 ac G at_ nm) (h22 : ac.tmps.getD 22 undef = .bool db) (hfs : (findS T3 (f1, f2)).1 = at_ ∧ (findS T3 (f1, f2)).2.1 = nm) (hat : at_ ≤ 99) (hfz : fsz (f1, f2) ≤ 3000)
    (hQ : QS q t (E.at a.T) S w [(G, #[.string f1, .string f2]), (g0, C3)] iV a.ins uV a.u aV a.all wx) (hB : Bd a) (hi : a.ins.length ≤ 20000) (ht : a.T.tot < 900000) :
    Code.wp Tryz.prog (estmt 22) (Kx (Nx q t s E S w lV fb g0 k (if !db && roomQ E.op E.K a.T (f1, f2) a.u then (if fb then (a.insd (f1, f2)).ref (f1, f2) a.T.tot else (a.insd (f1, f2)).line (litQ (f1, f2))) else a.line (litQ (f1, f2)))) (fun _ _ => False) (fun i ac' w' => i = 1 ∧ Nx q t s E S w lV fb g0 k (if !db && roomQ E.op E.K a.T (f1, f2) a.u then (if fb then (a.insd (f1, f2)).ref (f1, f2) a.T.tot else (a.insd (f1, f2)).line (litQ (f1, f2))) else a.line (litQ (f1, f2))) ac' w')) ac wx := by
  have HQ := Bx.mk hQ
  have HB := Bx.mk hB
  have HFZ := Bx.mk hfz
  have HFS := Bx.mk hfs
  have HAT := Bx.mk hat
  obtain ⟨rb, hrb⟩ : ∃ rb, roomQ E.op E.K a.T (f1, f2) a.u = rb := ⟨_, rfl⟩
  have HCAP : Bx (rb = true → fsz (f1, f2) + 32 ≤ a.T.cap) := ⟨fun h => by rw [h] at hrb; have := (roomQ_size hrb).2.1; omega⟩
  have HBI : Bx (rb = true → Bd (a.insd (f1, f2))) := ⟨fun h => hB.insd hfz (HCAP.out h) hi ht⟩
  have HROOM : Bx (Calls Tryz.prog 42 #[.pointer (some ⟨q, 0, none⟩), .agg #[.string f1, .string f2], uV] wx fun e w' => e = .returned (.bool rb) ∧ Below wx.heap.size wx w') := ⟨by
    obtain ⟨e, he⟩ := hQ.e8
    have h := room_any he (f1, f2) (by omega) hQ.uses.un
    rw [show roomQ (E.at a.T).op (E.at a.T).K (E.at a.T).T (f1, f2) a.u = rb from hrb] at h
    exact h⟩
  rw [hrb]
  obtain ⟨ha0, ha, hb⟩ := hQ.reads (G := G) (f1 := f1) (f2 := f2) (by simp)
  obtain ⟨u, hu, hac⟩ := eframe ac hA.z hA.d
  have h0 := (hu 0).symm.trans hA.t0
  have h1 := (hu 1).symm.trans hA.t1
  have h2 := (hu 2).symm.trans hA.t2
  have h8 := (hu 8).symm.trans hA.t8
  have h10 := (hu 10).symm.trans hA.t10
  have h11 := (hu 11).symm.trans hA.t11
  have h12 := (hu 12).symm.trans hA.t12
  have h13 := (hu 13).symm.trans hA.t13
  have h14 := (hu 14).symm.trans hA.t14
  have h15 := (hu 15).symm.trans hA.t15
  have h16 := (hu 16).symm.trans hA2.t16
  have h17 := (hu 17).symm.trans hA2.t17
  have h18 := (hu 18).symm.trans hA2.t18
  have h22' := (hu 22).symm.trans h22
  rw [hac]
  clear hac hA hA2 h22
  rw [h0, h1, h2, h8, h10, h11, h12, h13, h14, h15, h16, h17, h18, h22']
  clear h0 h1 h2 h8 h10 h11 h12 h13 h14 h15 h16 h17 h18 h22' hu
  conv => arg 2; whnf
  clear hfs hB hfz hat hQ hi ht hrb
  cases db with
  | true =>
    go_upto_if 136 with fail
    rename_i hKq
    refine wp_cond_false rfl ?_
    refine wp_skip ?_
    refine hKq _ _ ?_
    refine Kx.use (lit_any (iV := iV) (uV := uV) (aV := aV) (a := a) (fb := fb) _ ⟨rfl, rfl, rfl, rfl, rfl, rfl, rfl, rfl, rfl, rfl, rfl, rfl⟩ rfl at_ nm rfl rfl HFS.out HAT.out HQ.out HB.out) ?_ ?_ ?_
    · intro a2 w2 h; exact h
    · intro a2 w2 h; exact h
    · intro i a2 w2 h; exact h.elim
  | false =>
    go_upto_if 136 with (go_at_call 42; refine HROOM.out.mono ?_; rintro e w1 ⟨rfl, b1⟩; have HQ1 := Bx.mk (HQ.out.keep b1); clear b1)
    rename_i hKq
    cases rb with
    | true =>
      refine wp_cond_true rfl ?_
      refine Kx.use (ins_any (iV := iV) (uV := uV) (aV := aV) (a := a) (fb := fb) _ ⟨rfl, rfl, rfl, rfl, rfl, rfl, rfl, rfl, rfl, rfl, rfl, rfl⟩ at_ nm ⟨rfl, rfl, rfl⟩ HFS.out HAT.out (by have := HFZ.out; omega) (HCAP.out rfl) HQ1.out HB.out) ?_ ?_ ?_
      · rintro a2 w2 ⟨rfl, iV2, uV2, aV2, hA3, hA4, hQ3⟩
        refine hKq _ _ ?_
        refine Kx.use (lit_any (a := a.insd (f1, f2)) a2 hA3 hA4.t16 at_ nm hA4.t17 hA4.t18 HFS.out HAT.out hQ3 (HBI.out rfl)) ?_ ?_ ?_
        · intro a3 w3 h; exact h
        · intro a3 w3 h; exact h
        · intro i a3 w3 h; exact h.elim
      · intro a2 w2 h; exact h
      · rintro i a2 w2 ⟨rfl, rfl, h⟩; exact ⟨rfl, h⟩
    | false =>
      refine wp_cond_false rfl ?_
      refine wp_skip ?_
      refine hKq _ _ ?_
      refine Kx.use (lit_any (iV := iV) (uV := uV) (aV := aV) (a := a) (fb := fb) _ ⟨rfl, rfl, rfl, rfl, rfl, rfl, rfl, rfl, rfl, rfl, rfl, rfl⟩ rfl at_ nm rfl rfl HFS.out HAT.out HQ1.out HB.out) ?_ ?_ ?_
      · intro a2 w2 h; exact h
      · intro a2 w2 h; exact h
      · intro i a2 w2 h; exact h.elim
end
end Go.Proofs.YtebakjdeighdnaaGreat

/-
  The document's Encode of QPACK, in pieces: a field that isn't in the static table whole; one round.
-/
namespace Go.Proofs.YtebakjdeighdnaaGreat
open Go.RowKit Go.Maps
set_option linter.unusedVariables false

section
variable {q t s : Nat} {E : Qe} {S : Nat → Prop} {w wx : World} {lV : Value} {fb : Bool} {g0 k G : Nat} {a : Qa} {f1 f2 : ByteArray} {iV uV aV : Value} {fx : List (Nat × Array Value)} {ins : List UInt8} {us : List Nat} {all : List Ql}

theorem QS.known (h : QS q t E S w fx iV ins uV us aV all wx) : wx.cell? ⟨q, 2, none⟩ = some (.int .u64 (E.K : Int)) := by
  obtain ⟨e, he⟩ := h.e8
  obtain ⟨_, _, _, _, _, _, _, _, c2, _⟩ := he.cells
  exact c2
theorem insd_tot {f : Fd} (h : fsz f + 32 ≤ a.T.cap) : (a.insd f).T.tot - 1 = a.T.tot := by
  show (a.T.add f).tot - 1 = a.T.tot
  unfold Tab.add
  rw [if_pos h]
  rfl
theorem qstep_dyn {op : List Qs} {K : Nat} {free : Bool} {f : Fd} (h : (findS T3 f).2.2 = false) {dn : Nat} {db : Bool} (h1 : (findT a.T.l a.T.first f).1 = dn) (h2 : (findT a.T.l a.T.first f).2.2 = db) :
    qstep op K free a f = if db && (decide (dn < K) || free) then a.ref f dn else if !db && roomQ op K a.T f a.u then (if free then (a.insd f).ref f a.T.tot else (a.insd f).line (litQ f)) else a.line (litQ f) := by
  unfold qstep
  rw [h, h1, h2]
  simp only [Bool.false_eq_true, if_false]
  split
  · rfl
  · split
    · rename_i hr
      simp only [Bool.and_eq_true] at hr
      have := (roomQ_size hr.2).2.1
      rw [insd_tot (by omega)]
    · rfl

set_option maxRecDepth 100000 in
set_option maxHeartbeats 40000000 in
/-- A field that is told by its place in the dynamic table. -/
theorem ref_any (ac : Act) (hA : At1 ac q s lV fb g0 iV uV aV a.c k) (h16 : ac.tmps.getD 16 undef = .pointer (some ⟨G, 0, none⟩)) (dn : Nat) (h20 : ac.tmps.getD 20 undef = .int .u64 (dn : Int)) (hdn : dn ≤ 1000000)
    (hQ : QS q t (E.at a.T) S w [(G, #[.string f1, .string f2]), (g0, C3)] iV a.ins uV a.u aV a.all wx) (hB : Bd a) :
    Code.wp Tryz.prog (estmt 19) (Kx (fun _ _ => False) (fun _ _ => False) (fun i ac' w' => i = 1 ∧ Nx q t s E S w lV fb g0 k (a.ref (f1, f2) dn) ac' w')) ac wx := by
  have HQ := Bx.mk hQ
  have hB2 := hB.u
  have hB3 := hB.all
  have hB4 := hB.tot
  have hB5 := hB.c
  obtain ⟨ha0, ha, hb⟩ := hQ.reads (G := G) (f1 := f1) (f2 := f2) (by simp)
  obtain ⟨u, hu, hac⟩ := eframe ac hA.z hA.d
  have h0 := (hu 0).symm.trans hA.t0
  have h1 := (hu 1).symm.trans hA.t1
  have h2 := (hu 2).symm.trans hA.t2
  have h8 := (hu 8).symm.trans hA.t8
  have h10 := (hu 10).symm.trans hA.t10
  have h11 := (hu 11).symm.trans hA.t11
  have h12 := (hu 12).symm.trans hA.t12
  have h13 := (hu 13).symm.trans hA.t13
  have h14 := (hu 14).symm.trans hA.t14
  have h15 := (hu 15).symm.trans hA.t15
  have h16' := (hu 16).symm.trans h16
  have h20' := (hu 20).symm.trans h20
  rw [hac]
  clear hac hA h16 h20
  rw [h0, h1, h2, h8, h10, h11, h12, h13, h14, h15, h16', h20']
  clear h0 h1 h2 h8 h10 h11 h12 h13 h14 h15 h16' h20' hu
  conv => arg 2; whnf
  obtain ⟨Y, hY⟩ := letter dn
  obtain ⟨X, hX⟩ := letter (dn + 1)
  obtain ⟨C, hC⟩ := letter a.c
  have hw2 : IntKind.u64.wrap (Y + 1) = X := by rw [show Y + 1 = X from by omega]; exact u64_keep (by omega) (by omega)
  have HMX : Bx ((max a.c (dn + 1) : Nat) = max C X) := ⟨by omega⟩
  have HY := Bx.mk hY
  rw [hY, hC]
  clear hX hY hC hB hB4 hB5 hdn hQ
  go_wp2_with (first
    | (at_builtin; refine wpList_pushL rfl _ _ rfl ⟨1, dn, (f1, f2)⟩ rfl HY.out HQ.out (by omega) rfl rfl ?_; intro v2 w2 hq2; have HQ4 := Bx.mk hq2; clear hq2)
    | (at_builtin; refine wpList_pushU rfl _ _ rfl dn HY.out HQ4.out (by omega) rfl rfl ?_; intro v3 w3 hq2; have HQ5 := Bx.mk hq2; clear hq2))
  refine Kx.exit ⟨rfl, _, _, _, ⟨rfl, rfl, rfl, rfl, rfl, rfl, rfl, rfl, rfl, ?_, rfl, rfl⟩, HQ5.out.sub (by simp)⟩
  show Value.int .u64 (max C X) = Value.int .u64 ((max a.c (dn + 1) : Nat) : Int)
  rw [HMX.out]

set_option maxRecDepth 100000 in
set_option maxHeartbeats 40000000 in
/-- A field that isn't in the static table whole. -/
theorem dyn_any (ac : Act) (hA : At1 ac q s lV fb g0 iV uV aV a.c k) (at_ : Nat) (nm : Bool) (hA2 : At2 ac G at_ nm) (hfs : (findS T3 (f1, f2)).1 = at_ ∧ (findS T3 (f1, f2)).2.1 = nm) (hat : at_ ≤ 99) (hfz : fsz (f1, f2) ≤ 3000) (hno : (findS T3 (f1, f2)).2.2 = false)
    (hQ : QS q t (E.at a.T) S w [(G, #[.string f1, .string f2]), (g0, C3)] iV a.ins uV a.u aV a.all wx) (hB : Bd a) (hi : a.ins.length ≤ 20000) (ht : a.T.tot < 900000) :
    Code.wp Tryz.prog (efrom 17) (Kx (Nx q t s E S w lV fb g0 k (qstep E.op E.K fb a (f1, f2))) (fun _ _ => False) (fun i ac' w' => i = 1 ∧ Nx q t s E S w lV fb g0 k (qstep E.op E.K fb a (f1, f2)) ac' w')) ac wx := by
  have HQ := Bx.mk hQ
  have HB := Bx.mk hB
  have HFZ := Bx.mk hfz
  have HFS := Bx.mk hfs
  have HAT := Bx.mk hat
  have HIT := Bx.mk (And.intro hi ht)
  have hB2 := hB.u
  have hB3 := hB.all
  have hB4 := hB.tot
  have hB5 := hB.c
  obtain ⟨dn, hdn⟩ : ∃ dn, (findT a.T.l a.T.first (f1, f2)).1 = dn := ⟨_, rfl⟩
  obtain ⟨db, hdb⟩ : ∃ db, (findT a.T.l a.T.first (f1, f2)).2.2 = db := ⟨_, rfl⟩
  have HST := Bx.mk (qstep_dyn (op := E.op) (K := E.K) (free := fb) hno hdn hdb)
  obtain ⟨R, hR⟩ : ∃ R, qstep E.op E.K fb a (f1, f2) = R := ⟨_, rfl⟩
  rw [hR] at HST ⊢
  have hdl : db = true → dn < a.T.tot := fun h => by
    obtain ⟨e, he⟩ := hQ.e8
    have := (findT_has (T := a.T) (f := (f1, f2)) (by rw [hdb, h])).below he.ok.len
    rw [hdn] at this
    exact this
  have HDL := Bx.mk hdl
  obtain ⟨x2, hx2⟩ : ∃ x2, (findT a.T.l a.T.first (f1, f2)).2.1 = x2 := ⟨_, rfl⟩
  have HFIND : Bx (∀ W, Below wx.heap.size wx W → Calls Tryz.prog 41 #[.pointer (some ⟨t, 0, none⟩), .agg #[.string f1, .string f2]] W fun e w' => e = .returned (.tuple #[.int .u64 (dn : Int), .bool x2, .bool db]) ∧ Below W.heap.size W w') := ⟨fun W hW => by
    obtain ⟨e, he⟩ := hQ.rt
    have h := refFind_any ((Wd.rt t _).keep he hW) (f1, f2)
    have e3 : find3 (findT a.T.l a.T.first (f1, f2)) = .tuple #[.int .u64 (dn : Int), .bool x2, .bool db] := by unfold find3; rw [hdn, hx2, hdb]
    rw [show find3 (findT (E.at a.T).T.l (E.at a.T).T.first (f1, f2)) = _ from e3] at h
    exact h⟩
  have HRD : Bx (∀ (W : World), Below wx.heap.size wx W → W.cell? ⟨q, 0, none⟩ = some (.pointer (some ⟨t, 0, none⟩)) ∧ W.cell? ⟨G, 0, none⟩ = some (.string f1) ∧ W.cell? ⟨G, 1, none⟩ = some (.string f2)) := ⟨fun W h => (hQ.keep h).reads (by simp)⟩
  have hS0 := HRD.out wx.drew (Below.refl _ _).drew
  obtain ⟨u, hu, hac⟩ := eframe ac hA.z hA.d
  have h0 := (hu 0).symm.trans hA.t0
  have h1 := (hu 1).symm.trans hA.t1
  have h2 := (hu 2).symm.trans hA.t2
  have h8 := (hu 8).symm.trans hA.t8
  have h10 := (hu 10).symm.trans hA.t10
  have h11 := (hu 11).symm.trans hA.t11
  have h12 := (hu 12).symm.trans hA.t12
  have h13 := (hu 13).symm.trans hA.t13
  have h14 := (hu 14).symm.trans hA.t14
  have h15 := (hu 15).symm.trans hA.t15
  have h16 := (hu 16).symm.trans hA2.t16
  have h17 := (hu 17).symm.trans hA2.t17
  have h18 := (hu 18).symm.trans hA2.t18
  rw [hac]
  clear hac hA hA2
  rw [h0, h1, h2, h8, h10, h11, h12, h13, h14, h15, h16, h17, h18]
  clear h0 h1 h2 h8 h10 h11 h12 h13 h14 h15 h16 h17 h18 hu
  conv => arg 2; whnf
  have HC5 := Bx.mk (show a.c ≤ a.T.tot ∧ a.T.tot ≤ 900000 from ⟨hB5, hB4⟩)
  clear hfs hB hfz hat hQ hi ht hno hdn hdb hx2 hR hdl hB4 hB5
  go_wp2_with fail
  go_region_held (fun W => W.cell? ⟨q, 0, none⟩ = some (.pointer (some ⟨t, 0, none⟩)) ∧ W.cell? ⟨G, 0, none⟩ = some (.string f1) ∧ W.cell? ⟨G, 1, none⟩ = some (.string f2)) (first | assumption) (first
    | (go_at_call 41; refine (HFIND.out _ (Below.refl _ _).drew).mono ?_; rintro e w9 ⟨rfl, b9⟩; have HQ2 := Bx.mk (HQ.out.keep ((Below.refl wx.heap.size wx).drew.trans b9)); have hS9 := HRD.out w9 ((Below.refl wx.heap.size wx).drew.trans b9)))
  clear hS0
  obtain ⟨hd0, hd1, hd2⟩ := hS9
  have hd3 := HQ2.out.known
  clear HFIND HRD HQ b9
  obtain ⟨Y, hY⟩ := letter dn
  obtain ⟨KK, hKK⟩ := letter (E.at a.T).K
  rw [hKK] at hd3
  rw [hY]
  obtain ⟨lb, hlb⟩ : ∃ lb, decide (Y < KK) = lb := ⟨_, rfl⟩
  have HST2 : Bx (R = if db && (lb || fb) then a.ref (f1, f2) dn else if !db && roomQ E.op E.K a.T (f1, f2) a.u then (if fb then (a.insd (f1, f2)).ref (f1, f2) a.T.tot else (a.insd (f1, f2)).line (litQ (f1, f2))) else a.line (litQ (f1, f2))) := ⟨by
    rw [HST.out, ← hlb, show decide (dn < E.K) = decide (Y < KK) from by rw [decide_eq_decide, ← hY, ← hKK]; exact Int.ofNat_lt.symm]⟩
  have HY := Bx.mk hY
  clear HST hKK hY
  have HUSE : Bx (db = true → (lb || fb) = true → ∀ (ac : Act), At1 ac q s lV fb g0 iV uV aV a.c k → ac.tmps.getD 16 undef = .pointer (some ⟨G, 0, none⟩) → ac.tmps.getD 20 undef = .int .u64 (dn : Int) → Code.wp Tryz.prog (estmt 19) (Kx (fun _ _ => False) (fun _ _ => False) (fun i ac' w' => i = 1 ∧ Nx q t s E S w lV fb g0 k R ac' w')) ac w9) := ⟨fun h1 h2 ac hA h16 h20 => by
    have h := ref_any ac hA h16 dn h20 (by have := HDL.out h1; have := HC5.out; omega) HQ2.out HB.out
    rw [HST2.out, h1, h2]
    exact h⟩
  have HNOT : Bx ((db && (lb || fb)) = false → ∀ (ac : Act), At1 ac q s lV fb g0 iV uV aV a.c k → At2 ac G at_ nm → ac.tmps.getD 22 undef = .bool db → Code.wp Tryz.prog (estmt 22) (Kx (Nx q t s E S w lV fb g0 k R) (fun _ _ => False) (fun i ac' w' => i = 1 ∧ Nx q t s E S w lV fb g0 k R ac' w')) ac w9) := ⟨fun h1 ac hA hA2 h22 => by
    have h := no_any ac hA at_ nm db hA2 h22 HFS.out HAT.out HFZ.out HQ2.out HB.out HIT.out.1 HIT.out.2
    rw [HST2.out, h1]
    exact h⟩
  clear HST2
  cases db with
  | false =>
    go_upto_if 114 with fail
    rename_i hKq
    refine wp_cond_false rfl ?_
    refine wp_skip ?_
    refine hKq _ _ ?_
    refine Kx.use (HNOT.out rfl _ ⟨rfl, rfl, rfl, rfl, rfl, rfl, rfl, rfl, rfl, rfl, rfl, rfl⟩ ⟨rfl, rfl, rfl⟩ rfl) ?_ ?_ ?_
    · intro a2 w2 h; exact h
    · intro a2 w2 h; exact h
    · intro i a2 w2 h; exact h
  | true =>
    cases lb with
    | true =>
      go_upto_if 114 with fail
      refine wp_cond_true rfl ?_
      refine Kx.use (HUSE.out rfl rfl _ ⟨rfl, rfl, rfl, rfl, rfl, rfl, rfl, rfl, rfl, rfl, rfl, rfl⟩ rfl (by rw [HY.out]; rfl)) ?_ ?_ ?_
      · intro a2 w2 h; exact h.elim
      · intro a2 w2 h; exact h.elim
      · intro i a2 w2 h; exact h
    | false =>
      cases fb with
      | true =>
        go_upto_if 114 with fail
        refine wp_cond_true rfl ?_
        refine Kx.use (HUSE.out rfl rfl _ ⟨rfl, rfl, rfl, rfl, rfl, rfl, rfl, rfl, rfl, rfl, rfl, rfl⟩ rfl (by rw [HY.out]; rfl)) ?_ ?_ ?_
        · intro a2 w2 h; exact h.elim
        · intro a2 w2 h; exact h.elim
        · intro i a2 w2 h; exact h
      | false =>
        go_upto_if 114 with fail
        rename_i hKq
        refine wp_cond_false rfl ?_
        refine wp_skip ?_
        refine hKq _ _ ?_
        refine Kx.use (HNOT.out rfl _ ⟨rfl, rfl, rfl, rfl, rfl, rfl, rfl, rfl, rfl, rfl, rfl, rfl⟩ ⟨rfl, rfl, rfl⟩ rfl) ?_ ?_ ?_
        · intro a2 w2 h; exact h
        · intro a2 w2 h; exact h
        · intro i a2 w2 h; exact h
end
end Go.Proofs.YtebakjdeighdnaaGreat

/-
  The document's Encode of QPACK, in pieces: one round of its first loop.
-/
namespace Go.Proofs.YtebakjdeighdnaaGreat
open Go.RowKit Go.Maps
set_option linter.unusedVariables false

section
variable {q t s : Nat} {E : Qe} {S : Nat → Prop} {w wx : World} {lV : Value} {fb : Bool} {g0 k G : Nat} {a : Qa} {f1 f2 : ByteArray} {iV uV aV : Value} {l : List Fd}

set_option maxRecDepth 100000 in
set_option maxHeartbeats 40000000 in
/-- A field. -/
theorem field_any (ac : Act) (hA : At1 ac q s lV fb g0 iV uV aV a.c k) (hv : Fs wx lV l) (hk : k < l.length) (hfz : fsz l[k] ≤ 3000)
    (hQ : QS q t (E.at a.T) S w [(g0, C3)] iV a.ins uV a.u aV a.all wx) (hB : Bd a) (hi : a.ins.length ≤ 20000) (ht : a.T.tot < 900000) :
    Code.wp Tryz.prog (efrom 13) (Kx (Nx q t s E S w lV fb g0 k (qstep E.op E.K fb a l[k])) (fun _ _ => False) (fun i ac' w' => i = 1 ∧ Nx q t s E S w lV fb g0 k (qstep E.op E.K fb a l[k]) ac' w')) ac wx := by
  obtain ⟨b, o, hix, hcs⟩ := hv.at_ k hk
  obtain ⟨hc1, hc2⟩ := hcs wx hv
  obtain ⟨f1, hf1⟩ : ∃ f1, l[k].1 = f1 := ⟨_, rfl⟩
  obtain ⟨f2, hf2⟩ : ∃ f2, l[k].2 = f2 := ⟨_, rfl⟩
  rw [hf1] at hc1
  rw [hf2] at hc2
  have hlk : l[k] = (f1, f2) := by rw [← hf1, ← hf2]
  rw [hlk] at hfz ⊢
  have hq3 := hQ.new #[.string f1, .string f2]
  obtain ⟨G, hG⟩ : ∃ G, wx.heap.size = G := ⟨_, rfl⟩
  rw [hG] at hq3
  have H3 := Bx.mk hq3
  have HB := Bx.mk hB
  have HFZ := Bx.mk hfz
  have HIT := Bx.mk (And.intro hi ht)
  have hfi := fun W hW => findIn_any (.slice (some ⟨g0, 0, none⟩) 99 99) T3 (f1, f2) W hW (by rw [t3_len]; omega) t3_nodup
  have hfs := findS_lt T3 (f1, f2)
  rw [t3_len] at hfs
  unfold findV at hfi
  obtain ⟨at_, hat⟩ : ∃ at_, (findS T3 (f1, f2)).1 = at_ := ⟨_, rfl⟩
  obtain ⟨nm, hnm⟩ : ∃ nm, (findS T3 (f1, f2)).2.1 = nm := ⟨_, rfl⟩
  obtain ⟨bo, hbo⟩ : ∃ bo, (findS T3 (f1, f2)).2.2 = bo := ⟨_, rfl⟩
  rw [hat, hnm, hbo] at hfi
  have hat99 : at_ ≤ 99 := by
    rw [← hat]
    rcases hfs with ⟨m, q', hm, e⟩ | e <;> rw [e] <;> simp <;> omega
  have HFI := Bx.mk hfi
  have HFS := Bx.mk (show (findS T3 (f1, f2)).1 = at_ ∧ (findS T3 (f1, f2)).2.1 = nm ∧ (findS T3 (f1, f2)).2.2 = bo from ⟨hat, hnm, hbo⟩)
  have HAT := Bx.mk hat99
  have hB3 := hB.all
  have hw : IntKind.u64.wrap (at_ : Int) = (at_ : Int) := u64_keep (by omega) (by omega)
  obtain ⟨hca, hcb⟩ := (hq3.fb (g := G) (f1 := f1) (f2 := f2) (by simp)).cells
  obtain ⟨w3, hw3⟩ : ∃ w3, wx.alloc (.cells #[.string f1, .string f2] 53) = w3 := ⟨_, rfl⟩
  rw [hw3] at H3 hca hcb
  obtain ⟨u, hu, hac⟩ := eframe ac hA.z hA.d
  have h0 := (hu 0).symm.trans hA.t0
  have h1 := (hu 1).symm.trans hA.t1
  have h2 := (hu 2).symm.trans hA.t2
  have h8 := (hu 8).symm.trans hA.t8
  have h10 := (hu 10).symm.trans hA.t10
  have h11 := (hu 11).symm.trans hA.t11
  have h12 := (hu 12).symm.trans hA.t12
  have h13 := (hu 13).symm.trans hA.t13
  have h14 := (hu 14).symm.trans hA.t14
  have h15 := (hu 15).symm.trans hA.t15
  rw [hac]
  clear hac hA
  rw [h0, h1, h2, h8, h10, h11, h12, h13, h14, h15]
  clear h0 h1 h2 h8 h10 h11 h12 h13 h14 h15 hu
  conv => arg 2; whnf
  clear hf1 hf2 hcs hq3 hfi hfs hat hnm hbo hQ hB hfz hi ht hlk hv
  cases bo with
  | true =>
    have HST : Bx (qstep E.op E.K fb a (f1, f2) = a.line ⟨0, at_, (f1, f2)⟩) := ⟨by unfold qstep; rw [HFS.out.2.2, if_pos rfl, HFS.out.1]⟩
    rw [HST.out]
    clear HST
    go_wp2_with (first
      | (go_at_call 40; refine (HFI.out _ (H3.out.fs (by simp))).mono ?_; rintro e w4 ⟨rfl, b4⟩; have H4 := Bx.mk (H3.out.keep b4); obtain ⟨hca2, hcb2⟩ := (H4.out.fb (g := G) (f1 := f1) (f2 := f2) (by simp)).cells; clear b4)
      | (at_builtin; refine wpList_pushL rfl _ _ rfl ⟨0, at_, (f1, f2)⟩ rfl rfl H4.out (by omega) rfl rfl ?_; intro v5 w5 hq5; have H5 := Bx.mk hq5; clear hq5))
    exact Kx.exit ⟨rfl, _, _, _, ⟨rfl, rfl, rfl, rfl, rfl, rfl, rfl, rfl, rfl, rfl, rfl, rfl⟩, H5.out.sub (by simp)⟩
  | false =>
    go_upto_if 85 with (go_at_call 40; refine (HFI.out _ (H3.out.fs (by simp))).mono ?_; rintro e w4 ⟨rfl, b4⟩; have H4 := Bx.mk (H3.out.keep b4); clear b4)
    rename_i hKq
    refine wp_cond_false rfl ?_
    refine wp_skip ?_
    refine hKq _ _ ?_
    refine Kx.use (dyn_any (iV := iV) (uV := uV) (aV := aV) (a := a) (fb := fb) _ ⟨rfl, rfl, rfl, rfl, rfl, rfl, rfl, rfl, rfl, rfl, rfl, rfl⟩ at_ nm ⟨rfl, rfl, rfl⟩ ⟨HFS.out.1, HFS.out.2.1⟩ HAT.out HFZ.out HFS.out.2.2 H4.out HB.out HIT.out.1 HIT.out.2) ?_ ?_ ?_
    · intro a2 w2 h; exact h
    · intro a2 w2 h; exact h
    · intro i a2 w2 h; exact h

set_option maxRecDepth 100000 in
set_option maxHeartbeats 40000000 in
/-- Behind a field. -/
theorem postL_any (ac : Act) (hN : Nx q t s E S w lV fb g0 k a ac wx) (hk : k ≤ 1000) :
    Code.wp Tryz.prog (efrom 12) (Kx (Nx q t s E S w lV fb g0 (k + 1) a) (fun _ _ => False) (fun _ _ _ => False)) ac wx := by
  obtain ⟨iV, uV, aV, hA, hQ⟩ := hN
  have HQ := Bx.mk hQ
  obtain ⟨u, hu, hac⟩ := eframe ac hA.z hA.d
  have h0 := (hu 0).symm.trans hA.t0
  have h1 := (hu 1).symm.trans hA.t1
  have h2 := (hu 2).symm.trans hA.t2
  have h8 := (hu 8).symm.trans hA.t8
  have h10 := (hu 10).symm.trans hA.t10
  have h11 := (hu 11).symm.trans hA.t11
  have h12 := (hu 12).symm.trans hA.t12
  have h13 := (hu 13).symm.trans hA.t13
  have h14 := (hu 14).symm.trans hA.t14
  have h15 := (hu 15).symm.trans hA.t15
  rw [hac]
  clear hac hA
  rw [h0, h1, h2, h8, h10, h11, h12, h13, h14, h15]
  clear h0 h1 h2 h8 h10 h11 h12 h13 h14 h15 hu
  conv => arg 2; whnf
  clear hQ
  have hw : wrap64 ((k : Int) + 1) = ((k + 1 : Nat) : Int) := by unfold wrap64; omega
  go_wp2_with fail
  exact Kx.norm ⟨_, _, _, ⟨rfl, rfl, rfl, rfl, rfl, rfl, rfl, rfl, rfl, rfl, rfl, by first | rfl | (show Value.int .i64 _ = _; congr 1)⟩, HQ.out⟩

set_option maxRecDepth 100000 in
set_option maxHeartbeats 40000000 in
/-- One round, a field is left. -/
theorem round_any (ac : Act) (hN : Nx q t s E S w lV fb g0 k a ac wx) (hv : Fs wx lV l) (hk : k < l.length) (hl : l.length ≤ 100) (hfz : fsz l[k] ≤ 3000)
    (hB : Bd a) (hi : a.ins.length ≤ 20000) (ht : a.T.tot < 900000) :
    Code.wp Tryz.prog (eloop 0) (Kx (Nx q t s E S w lV fb g0 (k + 1) (qstep E.op E.K fb a l[k])) (fun _ _ => False) (fun _ _ _ => False)) ac wx := by
  obtain ⟨iV, uV, aV, hA, hQ⟩ := hN
  have HQ := Bx.mk hQ
  have HB := Bx.mk hB
  have HK := Bx.mk hk
  have HL := Bx.mk hl
  have HV := Bx.mk hv
  have HFZ := Bx.mk hfz
  have HIT := Bx.mk (And.intro hi ht)
  have hlen := fun ty W => hv.run_len ty W
  obtain ⟨n, hn⟩ : ∃ n, l.length = n := ⟨_, rfl⟩
  rw [hn] at hlen hk
  have hkd : decide ((k : Int) < (n : Int)) = true := decide_eq_true (by omega)
  have hkd' : decide (k < n) = true := decide_eq_true hk
  obtain ⟨u, hu, hac⟩ := eframe ac hA.z hA.d
  have h0 := (hu 0).symm.trans hA.t0
  have h1 := (hu 1).symm.trans hA.t1
  have h2 := (hu 2).symm.trans hA.t2
  have h8 := (hu 8).symm.trans hA.t8
  have h10 := (hu 10).symm.trans hA.t10
  have h11 := (hu 11).symm.trans hA.t11
  have h12 := (hu 12).symm.trans hA.t12
  have h13 := (hu 13).symm.trans hA.t13
  have h14 := (hu 14).symm.trans hA.t14
  have h15 := (hu 15).symm.trans hA.t15
  rw [hac]
  clear hac hA
  rw [h0, h1, h2, h8, h10, h11, h12, h13, h14, h15]
  clear h0 h1 h2 h8 h10 h11 h12 h13 h14 h15 hu
  conv => arg 2; whnf
  clear hQ hB hl hv hfz hi ht hn hk
  go_upto_block 1 with fail
  rename_i hKq
  refine wp_block ?_
  refine Kx.use (field_any (iV := iV) (uV := uV) (aV := aV) (a := a) (fb := fb) _ ⟨rfl, rfl, rfl, rfl, rfl, rfl, rfl, rfl, rfl, rfl, rfl, rfl⟩ HV.out HK.out HFZ.out HQ.out HB.out HIT.out.1 HIT.out.2) ?_ ?_ ?_
  · intro a2 w2 h
    refine hKq _ _ ?_
    exact postL_any a2 h (by have := HK.out; have := HL.out; omega)
  · intro a2 w2 h; exact h.elim
  · rintro i a2 w2 ⟨rfl, h⟩
    refine hKq _ _ ?_
    exact postL_any a2 h (by have := HK.out; have := HL.out; omega)

set_option maxRecDepth 100000 in
set_option maxHeartbeats 40000000 in
/-- One round, no field is left. -/
theorem roundE_any (ac : Act) (hN : Nx q t s E S w lV fb g0 l.length a ac wx) (hv : Fs wx lV l) :
    Code.wp Tryz.prog (eloop 0) (Kx (fun _ _ => False) (fun _ _ => False) (fun i ac' w' => i = 0 ∧ Nx q t s E S w lV fb g0 l.length a ac' w')) ac wx := by
  obtain ⟨iV, uV, aV, hA, hQ⟩ := hN
  have HQ := Bx.mk hQ
  have hlen := fun ty W => hv.run_len ty W
  obtain ⟨n, hn⟩ : ∃ n, l.length = n := ⟨_, rfl⟩
  rw [hn] at hlen hA ⊢
  obtain ⟨u, hu, hac⟩ := eframe ac hA.z hA.d
  have h0 := (hu 0).symm.trans hA.t0
  have h1 := (hu 1).symm.trans hA.t1
  have h2 := (hu 2).symm.trans hA.t2
  have h8 := (hu 8).symm.trans hA.t8
  have h10 := (hu 10).symm.trans hA.t10
  have h11 := (hu 11).symm.trans hA.t11
  have h12 := (hu 12).symm.trans hA.t12
  have h13 := (hu 13).symm.trans hA.t13
  have h14 := (hu 14).symm.trans hA.t14
  have h15 := (hu 15).symm.trans hA.t15
  rw [hac]
  clear hac hA
  rw [h0, h1, h2, h8, h10, h11, h12, h13, h14, h15]
  clear h0 h1 h2 h8 h10 h11 h12 h13 h14 h15 hu
  conv => arg 2; whnf
  clear hQ hv hn
  go_wp2_with fail
  exact Kx.exit ⟨rfl, _, _, _, ⟨rfl, rfl, rfl, rfl, rfl, rfl, rfl, rfl, rfl, rfl, rfl, rfl⟩, HQ.out⟩
end
end Go.Proofs.YtebakjdeighdnaaGreat
