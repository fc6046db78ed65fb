/-
  Texts put together: QdJ, QdK, QdL.
-/
import Derived.Test.YtebakjdeighdnaaGreatM34
import Derived.Test.YtebakjdeighdnaaGreatM38
import Derived.Deep.CutBlock

/-
  The document's lines of a section, in pieces: its code, its frame; what a line is read as; behind the switch.
-/
namespace Go.Proofs.YtebakjdeighdnaaGreat
open Go.RowKit Go.Maps
set_option linter.unusedVariables false

/-- What a line is read as: its field, what is left. -/
def RdL (T : Tab) (c : Nat) (b : List UInt8) (f : Fd) (b' : List UInt8) : Prop :=
  (192 ≤ headN b ∧ ∃ i m : Nat, rp 6 b = ((i : Int), (m : Int), 0) ∧ i < 1000000 ∧ T3[i]? = some f ∧ m ≤ b.length ∧ b' = b.drop m) ∨
  (128 ≤ headN b ∧ headN b < 192 ∧ ∃ i m : Nat, rp 6 b = ((i : Int), (m : Int), 0) ∧ i < c ∧ T.has (c - 1 - i) f ∧ m ≤ b.length ∧ b' = b.drop m) ∨
  (64 ≤ headN b ∧ headN b < 128 ∧ headN b &&& 16 ≠ 0 ∧ ∃ (i m m2 : Nat) (g : Fd) (sv : List UInt8), rp 4 b = ((i : Int), (m : Int), 0) ∧ i < 1000000 ∧ T3[i]? = some g ∧ g.1 = f.1 ∧ m ≤ b.length ∧ sb 7 (b.drop m) = (sv, (m2 : Int), 0) ∧ f.2 = bstr sv ∧ m2 ≤ (b.drop m).length ∧ b' = (b.drop m).drop m2) ∨
  (32 ≤ headN b ∧ headN b < 64 ∧ ∃ (m m2 : Nat) (sn sv : List UInt8), sb 3 b = (sn, (m : Int), 0) ∧ f.1 = bstr sn ∧ m ≤ b.length ∧ sb 7 (b.drop m) = (sv, (m2 : Int), 0) ∧ f.2 = bstr sv ∧ m2 ≤ (b.drop m).length ∧ b' = (b.drop m).drop m2)

noncomputable def lcode : Code := (Tryz.f32).body.getD .skip
noncomputable def lstmt (n : Nat) : Code := (fromS n lcode).getD .skip
noncomputable def lloop (n : Nat) : Code := ((loopAt n lcode).1).getD .skip
set_option maxRecDepth 1000000 in
theorem lframe (a : Act) (hs : a.tmps.size = 215) (hd : a.defers = []) : ∃ u : Nat → Value, (∀ i, a.tmps.getD i undef = u i) ∧ a = ⟨#[u 0, u 1, u 2, u 3, u 4, u 5, u 6, u 7, u 8, u 9, u 10, u 11, u 12, u 13, u 14, u 15, u 16, u 17, u 18, u 19, u 20, u 21, u 22, u 23, u 24, u 25, u 26, u 27, u 28, u 29, u 30, u 31, u 32, u 33, u 34, u 35, u 36, u 37, u 38, u 39, u 40, u 41, u 42, u 43, u 44, u 45, u 46, u 47, u 48, u 49, u 50, u 51, u 52, u 53, u 54, u 55, u 56, u 57, u 58, u 59, u 60, u 61, u 62, u 63, u 64, u 65, u 66, u 67, u 68, u 69, u 70, u 71, u 72, u 73, u 74, u 75, u 76, u 77, u 78, u 79, u 80, u 81, u 82, u 83, u 84, u 85, u 86, u 87, u 88, u 89, u 90, u 91, u 92, u 93, u 94, u 95, u 96, u 97, u 98, u 99, u 100, u 101, u 102, u 103, u 104, u 105, u 106, u 107, u 108, u 109, u 110, u 111, u 112, u 113, u 114, u 115, u 116, u 117, u 118, u 119, u 120, u 121, u 122, u 123, u 124, u 125, u 126, u 127, u 128, u 129, u 130, u 131, u 132, u 133, u 134, u 135, u 136, u 137, u 138, u 139, u 140, u 141, u 142, u 143, u 144, u 145, u 146, u 147, u 148, u 149, u 150, u 151, u 152, u 153, u 154, u 155, u 156, u 157, u 158, u 159, u 160, u 161, u 162, u 163, u 164, u 165, u 166, u 167, u 168, u 169, u 170, u 171, u 172, u 173, u 174, u 175, u 176, u 177, u 178, u 179, u 180, u 181, u 182, u 183, u 184, u 185, u 186, u 187, u 188, u 189, u 190, u 191, u 192, u 193, u 194, u 195, u 196, u 197, u 198, u 199, u 200, u 201, u 202, u 203, u 204, u 205, u 206, u 207, u 208, u 209, u 210, u 211, u 212, u 213, u 214], []⟩ :=
  ⟨fun i => a.tmps.getD i undef, fun _ => rfl, frame_eta 215 a hs hd⟩
/-- The slots that are read on. -/
structure Al (a : Act) (q c g0 : Nat) (bw ov : Value) : Prop where
  d : a.defers = []
  z : a.tmps.size = 215
  t0 : a.tmps.getD 0 undef = .pointer (some ⟨q, 0, none⟩)
  t1 : a.tmps.getD 1 undef = bw
  t2 : a.tmps.getD 2 undef = .int .u64 (c : Int)
  t3 : a.tmps.getD 3 undef = .int .u64 (c : Int)
  t10 : a.tmps.getD 10 undef = .slice (some ⟨g0, 0, none⟩) 99 99
  t11 : a.tmps.getD 11 undef = ov
/-- The slots of the line at hand. -/
structure Al2 (a : Act) (G k : Nat) (whole : Bool) : Prop where
  t13 : a.tmps.getD 13 undef = .pointer (some ⟨G, 0, none⟩)
  t14 : a.tmps.getD 14 undef = .bool true
  t15 : a.tmps.getD 15 undef = .bool whole
  t16 : a.tmps.getD 16 undef = .int .i64 (k : Int)
def OwF (w : World) (B : Nat) (v : Value) (l : List Fd) : Prop := w.ownsRow B 53 2 v l.length (l.flatMap fvl)
theorem OwF.fs {w : World} {B : Nat} {v : Value} {l : List Fd} (h : OwF w B v l) : Fs w v l := Rn.of_own h
theorem OwF.run_len {w : World} {B : Nat} {v : Value} {l : List Fd} (h : OwF w B v l) (ty : TypeId) (W : World) : (Builtin.len_ #[30] ty #[v]).run Tryz.prog W = .ok (.int .i64 (l.length : Int)) W := h.fs.run_len ty W
/-- Between two lines. -/
def Lx (q c g0 : Nat) (w2 : World) (b : List UInt8) (out : List Fd) (ac : Act) (wx : World) : Prop :=
  ∃ bw ov, Al ac q c g0 bw ov ∧ (∀ W, Below w2.heap.size w2 W → Bs W bw b) ∧ OwF wx w2.heap.size ov out ∧ Below w2.heap.size w2 wx

section
variable {q c g0 G k : Nat} {w2 wx : World} {b : List UInt8} {out : List Fd} {bw ov : Value} {f : Fd}
/-- A field more. -/
theorem wpList_pushF {ops : Array Oper} {rest : List Oper} {o : Oper} {a : Act} {Q : Exit → Act → World → Prop} {B : Nat} {f1 f2 : ByteArray} (hgd : o.guard = none) (so xo : Operand)
    (ho : o.op = .call { callee := .builtin .append, args := #[so, xo], argTypes := #[30, 30] })
    (h : OwF wx B ov out) (hB : B ≤ wx.heap.size) (hl : out.length ≤ 1000) (hs : a.eval so = ov) (hx : a.eval xo = .slice (some ⟨wx.heap.size, 0, none⟩) 1 1)
    (hK : ∀ v' w', OwF w' B v' (out ++ [(f1, f2)]) → Below B (wx.alloc (.cells #[.string f1, .string f2] 53)) w' → wpList Tryz.prog ops Q rest (a.put o.dst v') w') :
    wpList Tryz.prog ops Q (o :: rest) a (wx.alloc (.cells #[.string f1, .string f2] 53)) := by
  obtain ⟨i, h1, h2, h3, h4⟩ := infoF_get
  have hb := (Below.refl wx.heap.size wx).alloc (Nat.le_refl _) (.cells #[.string f1, .string f2] 53)
  refine wpList_append_ok _ 2 (by omega) hgd so xo 30 ho B 53 i _ 32 Tryz.underlying30 h1 h2 h3 h4 rfl _ _ out.length 1 (out.flatMap fvl) (fvl (f1, f2)) hs hx (ownN_keep h hb) (Rn.lit1 wx _ _ rfl) ?_ (by omega) (by unfold maxLen; omega) (Nat.le_trans hB hb.size) ?_
  · intro x hx
    simp only [fvl, List.mem_cons, List.not_mem_nil, or_false] at hx
    rcases hx with rfl | rfl <;> rfl
  · intro v' w' hap hb2 _
    refine hK v' w' ?_ hb2
    unfold OwF
    rw [List.length_append, List.flatMap_append]
    simpa using hap
set_option maxRecDepth 100000 in
set_option maxHeartbeats 40000000 in
/-- Behind the switch: a whole field. -/
theorem tailW_any {f1 f2 : ByteArray} (ac : Act) (hA : Al ac q c g0 bw ov) (hA2 : Al2 ac G k true) (hb : ∀ W, Below w2.heap.size w2 W → Bs W bw b) (hk : k ≤ b.length) (hbl : b.length ≤ 1000000) (ho : OwF wx w2.heap.size ov out) (hl : out.length ≤ 1000) (hB : Below w2.heap.size w2 wx) (hF : Fb 53 wx G (f1, f2)) :
    Code.wp Tryz.prog (lstmt 46) (Kx (Lx q c g0 w2 (b.drop k) (out ++ [(f1, f2)])) (fun _ _ => False) (fun _ _ _ => False)) ac wx := by
  obtain ⟨bV', hsl, hbs⟩ := (hb wx hB).from_ (k : Int) (by omega) (by omega)
  rw [Int.toNat_natCast] at hbs
  have HBS := Bx.mk (fun W hW => hbs W (hb W hW))
  have HO := Bx.mk ho
  have HB := Bx.mk hB
  obtain ⟨hca, hcb⟩ := hF.cells
  obtain ⟨u, hu, hac⟩ := lframe ac hA.z hA.d
  have h0 := (hu 0).symm.trans hA.t0
  have h1 := (hu 1).symm.trans hA.t1
  have h2 := (hu 2).symm.trans hA.t2
  have h3 := (hu 3).symm.trans hA.t3
  have h10 := (hu 10).symm.trans hA.t10
  have h11 := (hu 11).symm.trans hA.t11
  have h13 := (hu 13).symm.trans hA2.t13
  have h14 := (hu 14).symm.trans hA2.t14
  have h15 := (hu 15).symm.trans hA2.t15
  have h16 := (hu 16).symm.trans hA2.t16
  rw [hac]
  clear hac hA hA2
  rw [h0, h1, h2, h3, h10, h11, h13, h14, h15, h16]
  clear h0 h1 h2 h3 h10 h11 h13 h14 h15 h16 hu
  conv => arg 2; whnf
  clear hb hbs ho hB hF hk hbl
  go_wp2_with (at_builtin; refine wpList_pushF rfl _ _ rfl HO.out HB.out.size hl rfl rfl ?_; intro v2 w3 ho2 hb2; have HO2 := Bx.mk (And.intro ho2 hb2); clear ho2 hb2)
  have hb3 := HB.out.trans (((Below.refl w2.heap.size wx).alloc HB.out.size _).trans HO2.out.2)
  exact Kx.norm ⟨_, _, ⟨rfl, rfl, rfl, rfl, rfl, rfl, rfl, rfl⟩, HBS.out, HO2.out.1, hb3⟩

set_option maxRecDepth 100000 in
set_option maxHeartbeats 40000000 in
/-- Behind the switch: a value is still to come. -/
theorem tailV_any {f1 x2 : ByteArray} (ac : Act) (hA : Al ac q c g0 bw ov) (hA2 : Al2 ac G k false) (hb : ∀ W, Below w2.heap.size w2 W → Bs W bw b) (hk : k ≤ b.length) (hbl : b.length ≤ 900000) (ho : OwF wx w2.heap.size ov out) (hl : out.length ≤ 1000) (hB : Below w2.heap.size w2 wx) (hG : w2.heap.size ≤ G) (hGo : ∀ j, ov.ownBlock = some j → j ≠ G) (hF : Fb 53 wx G (f1, x2)) {sv : List UInt8} {m2 : Nat} (hsb : sb 7 (b.drop k) = (sv, (m2 : Int), 0)) (hm2 : m2 ≤ (b.drop k).length) :
    Code.wp Tryz.prog (lstmt 46) (Kx (Lx q c g0 w2 ((b.drop k).drop m2) (out ++ [(f1, bstr sv)])) (fun _ _ => False) (fun _ _ _ => False)) ac wx := by
  obtain ⟨bV', hsl, hbs⟩ := (hb wx hB).from_ (k : Int) (by omega) (by omega)
  rw [Int.toNat_natCast] at hbs
  have hbw := hbs wx (hb wx hB)
  have hcall := strBits_any bV' (b.drop k) 7 wx (by omega) (by omega) hbw (by simp; omega)
  rw [hsb] at hcall
  unfold AnsS at hcall
  simp only at hcall
  obtain ⟨f2, hf2⟩ : ∃ f2, bstr sv = f2 := ⟨_, rfl⟩
  rw [hf2] at hcall ⊢
  have HCALL := Bx.mk hcall
  obtain ⟨bV2, hsl2, hbs2⟩ := hbw.from_ (m2 : Int) (by omega) (by omega)
  rw [Int.toNat_natCast] at hbs2
  have HBS := Bx.mk (fun W hW => hbs2 W (hbs W (hb W hW)))
  have HO := Bx.mk ho
  have HB := Bx.mk hB
  have HG := Bx.mk hG
  have HGO := Bx.mk hGo
  have HF := Bx.mk hF
  obtain ⟨u, hu, hac⟩ := lframe ac hA.z hA.d
  have h0 := (hu 0).symm.trans hA.t0
  have h1 := (hu 1).symm.trans hA.t1
  have h2 := (hu 2).symm.trans hA.t2
  have h3 := (hu 3).symm.trans hA.t3
  have h10 := (hu 10).symm.trans hA.t10
  have h11 := (hu 11).symm.trans hA.t11
  have h13 := (hu 13).symm.trans hA2.t13
  have h14 := (hu 14).symm.trans hA2.t14
  have h15 := (hu 15).symm.trans hA2.t15
  have h16 := (hu 16).symm.trans hA2.t16
  rw [hac]
  clear hac hA hA2
  rw [h0, h1, h2, h3, h10, h11, h13, h14, h15, h16]
  clear h0 h1 h2 h3 h10 h11 h13 h14 h15 h16 hu
  conv => arg 2; whnf
  clear hb hbs hbs2 ho hB hF hk hbl hG hGo hsb hm2 hbw hcall hf2
  go_upto_region 55 with (go_at_call 64; refine HCALL.out.mono ?_; rintro r w3 ⟨rfl, b3⟩; have HB3 := Bx.mk (below_next HB.out b3); have HF3 := Bx.mk (HF.out.keep b3); have HO3 := Bx.mk (show OwF w3 w2.heap.size ov out from ownN_keep HO.out b3); obtain ⟨ga, gb⟩ := HF3.out.cells; have hfz : w3.frozen? ⟨G, 1, none⟩ = false := HF3.out.free.2; clear b3)
  obtain ⟨w4, hw4⟩ : ∃ w4, w3.setCell ⟨G, 1, none⟩ (.string f2) = w4 := ⟨_, rfl⟩
  have hf := Fp.set (fun j => j = G) w3 ⟨G, 1, none⟩ (.string f2) rfl
  rw [hw4] at hf
  have HB4 : Bx (Below w2.heap.size w2 w4) := ⟨HB3.out.trans (hf.below HB3.out.size (fun j hj => hj ▸ HG.out))⟩
  have hf4 : Fb 53 w4 G (f1, f2) := by rw [← hw4]; exact fb_put1 HF3.out f2
  have HO4 : Bx (OwF w4 w2.heap.size ov out) := ⟨own_kept HO3.out fun j hj => hf.block j (HO3.out.lt j hj).2 (HGO.out j hj)⟩
  obtain ⟨hca, hcb⟩ := hf4.cells
  rw [hw4]
  clear hw4 ga gb hfz hf hf4 HO3 HF3 HB3
  go_wp2_with (at_builtin; refine wpList_pushF rfl _ _ rfl HO4.out HB4.out.size hl rfl rfl ?_; intro v2 w5 ho2 hb2; have HO2 := Bx.mk (And.intro ho2 hb2); clear ho2 hb2)
  have hb3 := HB4.out.trans (((Below.refl w2.heap.size w4).alloc HB4.out.size _).trans HO2.out.2)
  exact Kx.norm ⟨_, _, ⟨rfl, rfl, rfl, rfl, rfl, rfl, rfl, rfl⟩, (by intro W hW; have h := HBS.out W hW; rw [List.drop_drop] at h; exact h), HO2.out.1, hb3⟩
end
end Go.Proofs.YtebakjdeighdnaaGreat

/-
  The document's lines of a section, in pieces: the switch.
-/
namespace Go.Proofs.YtebakjdeighdnaaGreat
open Go.RowKit Go.Maps
set_option linter.unusedVariables false

/-- Behind the switch. -/
def Sl2 (q c g0 G : Nat) (w2 : World) (b b' : List UInt8) (out : List Fd) (f : Fd) (bw ov : Value) (ac : Act) (wx : World) : Prop :=
  ∃ k f1 x2 wh, Al ac q c g0 bw ov ∧ Al2 ac G k wh ∧ k ≤ b.length ∧ Fb 53 wx G (f1, x2) ∧ Below w2.heap.size w2 wx ∧ OwF wx w2.heap.size ov out ∧
    ((wh = true ∧ (f1, x2) = f ∧ b' = b.drop k) ∨ (wh = false ∧ f.1 = f1 ∧ ∃ (sv : List UInt8) (m2 : Nat), sb 7 (b.drop k) = (sv, (m2 : Int), 0) ∧ f.2 = bstr sv ∧ m2 ≤ (b.drop k).length ∧ b' = (b.drop k).drop m2))
/-- What the lines read. -/
structure Li (q t c g0 : Nat) (T : Tab) (S1 : Nat → Prop) (w2 : World) : Prop where
  rt : ∀ W, Below w2.heap.size w2 W → Rt t T W S1
  hd : ∀ W, Below w2.heap.size w2 W → W.cell? ⟨q, 0, none⟩ = some (.pointer (some ⟨t, 0, none⟩))
  st : ∀ W, Below w2.heap.size w2 W → Fs W (.slice (some ⟨g0, 0, none⟩) 99 99) T3
  c : c ≤ 1000000
section
variable {q t c g0 G k : Nat} {T : Tab} {S1 : Nat → Prop} {w2 wx : World} {b b' : List UInt8} {out : List Fd} {bw ov : Value} {f : Fd}
theorem ent_t3 {i : Nat} {g : Fd} (h : T3[i]? = some g) : entF T3 0 i = g ∧ isF T3 0 i = true := by
  obtain ⟨h1, h2⟩ := List.getElem?_eq_some_iff.1 h
  unfold entF isF
  rw [dif_pos ⟨Nat.zero_le _, by simpa using h1⟩]
  exact ⟨by simpa using h2, decide_eq_true ⟨Nat.zero_le _, by simpa using h1⟩⟩
set_option maxRecDepth 100000 in
set_option maxHeartbeats 40000000 in
/-- A place in the static table. -/
theorem swA_any (ac : Act) (hL : Li q t c g0 T S1 w2) (hA : Al ac q c g0 bw ov) (h12 : ac.tmps.getD 12 undef = .int .u8 (headN b : Int)) (h13 : ac.tmps.getD 13 undef = .pointer (some ⟨G, 0, none⟩)) (h14 : ac.tmps.getD 14 undef = .bool true) (hb : ∀ W, Below w2.heap.size w2 W → Bs W bw b) (hbl : b.length ≤ 900000) (ho : OwF wx w2.heap.size ov out) (hB : Below w2.heap.size w2 wx) (hG : w2.heap.size ≤ G) (hGo : ∀ j, ov.ownBlock = some j → j ≠ G) (hF : Fb 53 wx G (⟨#[]⟩, ⟨#[]⟩)) (hc2 : headN b < 256)
    (hh : 192 ≤ headN b ∧ ∃ i m : Nat, rp 6 b = ((i : Int), (m : Int), 0) ∧ i < 1000000 ∧ T3[i]? = some f ∧ m ≤ b.length ∧ b' = b.drop m) :
    Code.wp Tryz.prog (lstmt 17) (Kx (Sl2 q c g0 G w2 b b' out f bw ov) (fun _ _ => False) (fun _ _ _ => False)) ac wx := by
  obtain ⟨h192, i, m, hrp, hi, ht3, hml, hb'⟩ := hh
  have hcall := refReadPrefix_any bw b 6 wx (hb wx hB) (by omega)
  rw [show bitsOf 6 = 6 from rfl, hrp] at hcall
  unfold Ans3 at hcall
  simp only at hcall
  have hat := refAt_any (.slice (some ⟨g0, 0, none⟩) 99 99) T3 i wx (hL.st wx hB) (by rw [t3_len]; omega) (by omega)
  obtain ⟨e1, e2⟩ := ent_t3 ht3
  rw [e1, e2] at hat
  obtain ⟨f1, f2⟩ := f
  unfold aggF at hat
  simp only at hat
  have HCALL := Bx.mk hcall
  have HAT := Bx.mk hat
  have HO := Bx.mk ho
  have HB := Bx.mk hB
  have HG := Bx.mk hG
  have HGO := Bx.mk hGo
  have HF := Bx.mk hF
  have HM := Bx.mk (And.intro hml hb')
  obtain ⟨C, hC⟩ := letter (headN b)
  have hand : (bits .and .u8 C 64 == 0) = false := by
    have h1 : bits .and .u8 C 64 = ((headN b &&& 64 : Nat) : Int) := by rw [← hC]; exact u8_and_nat _ 64 (by omega) (by decide)
    have h2 := (qmask (headN b) hc2).2.2.2.1 (.inl h192)
    rw [h1, beq_eq_false_iff_ne]
    omega
  rw [hC] at h12
  obtain ⟨u, hu, hac⟩ := lframe ac hA.z hA.d
  have h0 := (hu 0).symm.trans hA.t0
  have h1 := (hu 1).symm.trans hA.t1
  have h2 := (hu 2).symm.trans hA.t2
  have h3 := (hu 3).symm.trans hA.t3
  have h10 := (hu 10).symm.trans hA.t10
  have h11 := (hu 11).symm.trans hA.t11
  have h12' := (hu 12).symm.trans h12
  have h13' := (hu 13).symm.trans h13
  have h14' := (hu 14).symm.trans h14
  rw [hac]
  clear hac hA h12 h13 h14
  rw [h0, h1, h2, h3, h10, h11, h12', h13', h14']
  clear h0 h1 h2 h3 h10 h11 h12' h13' h14' hu
  conv => arg 2; whnf
  clear hL hb hbl ho hB hG hGo hF hc2 h192 hrp hi ht3 hml hb' hcall hat e1 e2 hC
  go_wp2_with (first
    | (go_at_call 47; refine HCALL.out.mono ?_; rintro r w3 ⟨rfl, rfl⟩)
    | (go_at_call 62; refine HAT.out.mono ?_; rintro r w4 ⟨rfl, b4⟩; have HB4 := Bx.mk (below_next HB.out b4); have HF4 := Bx.mk (HF.out.keep b4); have HO4 := Bx.mk (show OwF w4 w2.heap.size ov out from ownN_keep HO.out b4); clear b4)
    | ((with_reducible refine wpList_storeF 53 G (⟨#[]⟩, ⟨#[]⟩) (f1, f2) rfl rfl HF4.out ?_); intro w5 hf5 hg5; have HF5 := Bx.mk hf5; have HB5 := Bx.mk (HB4.out.grown hg5 HB4.out.size (fun k hk => by injection hk with hk; have := HG.out; omega)); have HO5 := Bx.mk (show OwF w5 w2.heap.size ov out from own_kept HO4.out fun j hj => hg5.block j (HO4.out.lt j hj).2 (fun e => HGO.out j hj (by injection e)))))
  exact Kx.norm ⟨m, f1, f2, true, ⟨rfl, rfl, rfl, rfl, rfl, rfl, rfl, rfl⟩, ⟨rfl, rfl, rfl, rfl⟩, HM.out.1, HF5.out, HB5.out, HO5.out, .inl ⟨rfl, rfl, HM.out.2⟩⟩
set_option maxRecDepth 100000 in
set_option maxHeartbeats 40000000 in
/-- A place in the dynamic table. -/
theorem swB_any (ac : Act) (hL : Li q t c g0 T S1 w2) (hA : Al ac q c g0 bw ov) (h12 : ac.tmps.getD 12 undef = .int .u8 (headN b : Int)) (h13 : ac.tmps.getD 13 undef = .pointer (some ⟨G, 0, none⟩)) (h14 : ac.tmps.getD 14 undef = .bool true) (hb : ∀ W, Below w2.heap.size w2 W → Bs W bw b) (hbl : b.length ≤ 900000) (ho : OwF wx w2.heap.size ov out) (hB : Below w2.heap.size w2 wx) (hG : w2.heap.size ≤ G) (hGo : ∀ j, ov.ownBlock = some j → j ≠ G) (hF : Fb 53 wx G (⟨#[]⟩, ⟨#[]⟩)) (hc2 : headN b < 256)
    (hh : 128 ≤ headN b ∧ headN b < 192 ∧ ∃ i m : Nat, rp 6 b = ((i : Int), (m : Int), 0) ∧ i < c ∧ T.has (c - 1 - i) f ∧ m ≤ b.length ∧ b' = b.drop m) :
    Code.wp Tryz.prog (lstmt 17) (Kx (Sl2 q c g0 G w2 b b' out f bw ov) (fun _ _ => False) (fun _ _ _ => False)) ac wx := by
  obtain ⟨h128, h192, i, m, hrp, hi, hhas, hml, hb'⟩ := hh
  have hcl := hL.c
  have hcall := refReadPrefix_any bw b 6 wx (hb wx hB) (by omega)
  rw [show bitsOf 6 = 6 from rfl, hrp] at hcall
  unfold Ans3 at hcall
  simp only at hcall
  have hat := refAt_any (.slice (some ⟨g0, 0, none⟩) 99 99) T3 i wx (hL.st wx hB) (by rw [t3_len]; omega) (by omega)
  obtain ⟨ea, hea⟩ : ∃ ea, entF T3 0 i = ea := ⟨_, rfl⟩
  obtain ⟨ia, hia⟩ : ∃ ia, isF T3 0 i = ia := ⟨_, rfl⟩
  rw [hea, hia] at hat
  obtain ⟨a1, a2⟩ := ea
  have HREL := Bx.mk (fun W => refRelative_any c i (by omega) W)
  rw [show relN c i = some (c - 1 - i) from by unfold relN; rw [if_pos hi]] at HREL
  have HENT := Bx.mk (fun W (hW : Below w2.heap.size w2 W) => entry_ok (q := q) (hL.rt W hW) hhas (show c - 1 - i < c by omega) hL.c (hL.hd W hW))
  obtain ⟨f1, f2⟩ := f
  unfold Opt at HREL
  simp only at HREL HENT
  unfold aggF at hat
  simp only at hat
  have HCALL := Bx.mk hcall
  have HAT := Bx.mk hat
  have HO := Bx.mk ho
  have HB := Bx.mk hB
  have HG := Bx.mk hG
  have HGO := Bx.mk hGo
  have HF := Bx.mk hF
  have HM := Bx.mk (And.intro hml hb')
  obtain ⟨C, hC⟩ := letter (headN b)
  have hand : (bits .and .u8 C 64 == 0) = true := by
    have h1 : bits .and .u8 C 64 = ((headN b &&& 64 : Nat) : Int) := by rw [← hC]; exact u8_and_nat _ 64 (by omega) (by decide)
    have h2 := (qmask (headN b) hc2).2.2.1 (.inl ⟨h128, h192⟩)
    rw [h1, h2]
    rfl
  rw [hC] at h12
  obtain ⟨u, hu, hac⟩ := lframe ac hA.z hA.d
  have h0 := (hu 0).symm.trans hA.t0
  have h1 := (hu 1).symm.trans hA.t1
  have h2 := (hu 2).symm.trans hA.t2
  have h3 := (hu 3).symm.trans hA.t3
  have h10 := (hu 10).symm.trans hA.t10
  have h11 := (hu 11).symm.trans hA.t11
  have h12' := (hu 12).symm.trans h12
  have h13' := (hu 13).symm.trans h13
  have h14' := (hu 14).symm.trans h14
  rw [hac]
  clear hac hA h12 h13 h14
  rw [h0, h1, h2, h3, h10, h11, h12', h13', h14']
  clear h0 h1 h2 h3 h10 h11 h12' h13' h14' hu
  conv => arg 2; whnf
  clear hL hb hbl ho hB hG hGo hF hc2 h128 h192 hrp hi hhas hml hb' hcall hat hea hia hC hcl
  go_wp2_with (first
    | (go_at_call 47; refine HCALL.out.mono ?_; rintro r w3 ⟨rfl, rfl⟩)
    | (go_at_call 62; refine HAT.out.mono ?_; rintro r w4 ⟨rfl, b4⟩; have HB4 := Bx.mk (below_next HB.out b4); have HF4 := Bx.mk (HF.out.keep b4); have HO4 := Bx.mk (show OwF w4 w2.heap.size ov out from ownN_keep HO.out b4); clear b4)
    | (go_at_call 68; refine (HREL.out _).mono ?_; rintro r w6 ⟨rfl, rfl⟩)
    | (go_at_call 69; refine (HENT.out _ HB5.out).mono ?_; rintro r w7 ⟨rfl, b7⟩; have HB7 := Bx.mk (below_next HB5.out b7); have HF7 := Bx.mk (HF5.out.keep b7); have HO7 := Bx.mk (show OwF w7 w2.heap.size ov out from ownN_keep HO5.out b7); clear b7)
    | ((with_reducible refine wpList_storeF 53 G (⟨#[]⟩, ⟨#[]⟩) (a1, a2) rfl rfl HF4.out ?_); intro w5 hf5 hg5; have HF5 := Bx.mk hf5; have HB5 := Bx.mk (HB4.out.grown hg5 HB4.out.size (fun k hk => by injection hk with hk; have := HG.out; omega)); have HO5 := Bx.mk (show OwF w5 w2.heap.size ov out from own_kept HO4.out fun j hj => hg5.block j (HO4.out.lt j hj).2 (fun e => HGO.out j hj (by injection e))))
    | ((with_reducible refine wpList_storeF 53 G (a1, a2) (f1, f2) rfl rfl HF7.out ?_); intro w8 hf8 hg8; have HF8 := Bx.mk hf8; have HB8 := Bx.mk (HB7.out.grown hg8 HB7.out.size (fun k hk => by injection hk with hk; have := HG.out; omega)); have HO8 := Bx.mk (show OwF w8 w2.heap.size ov out from own_kept HO7.out fun j hj => hg8.block j (HO7.out.lt j hj).2 (fun e => HGO.out j hj (by injection e)))))
  exact Kx.norm ⟨m, f1, f2, true, ⟨rfl, rfl, rfl, rfl, rfl, rfl, rfl, rfl⟩, ⟨rfl, rfl, rfl, rfl⟩, HM.out.1, HF8.out, HB8.out, HO8.out, .inl ⟨rfl, rfl, HM.out.2⟩⟩

set_option maxRecDepth 100000 in
set_option maxHeartbeats 40000000 in
/-- A name's place in the static table. -/
theorem swC_any (ac : Act) (hL : Li q t c g0 T S1 w2) (hA : Al ac q c g0 bw ov) (h12 : ac.tmps.getD 12 undef = .int .u8 (headN b : Int)) (h13 : ac.tmps.getD 13 undef = .pointer (some ⟨G, 0, none⟩)) (h14 : ac.tmps.getD 14 undef = .bool true) (hb : ∀ W, Below w2.heap.size w2 W → Bs W bw b) (hbl : b.length ≤ 900000) (ho : OwF wx w2.heap.size ov out) (hB : Below w2.heap.size w2 wx) (hG : w2.heap.size ≤ G) (hGo : ∀ j, ov.ownBlock = some j → j ≠ G) (hF : Fb 53 wx G (⟨#[]⟩, ⟨#[]⟩)) (hc2 : headN b < 256)
    (h15 : ac.tmps.getD 15 undef = .bool false) (hh : 64 ≤ headN b ∧ headN b < 128 ∧ headN b &&& 16 ≠ 0 ∧ ∃ (i m m2 : Nat) (g : Fd) (sv : List UInt8), rp 4 b = ((i : Int), (m : Int), 0) ∧ i < 1000000 ∧ T3[i]? = some g ∧ g.1 = f.1 ∧ m ≤ b.length ∧ sb 7 (b.drop m) = (sv, (m2 : Int), 0) ∧ f.2 = bstr sv ∧ m2 ≤ (b.drop m).length ∧ b' = (b.drop m).drop m2) :
    Code.wp Tryz.prog (lstmt 26) (Kx (Sl2 q c g0 G w2 b b' out f bw ov) (fun _ _ => False) (fun _ _ _ => False)) ac wx := by
  obtain ⟨h64, h128, h16n, i, m, m2, g, sv, hrp, hi, ht3, hg1, hml, hsb, hf2, hm2, hb'⟩ := hh
  have hcall := refReadPrefix_any bw b 4 wx (hb wx hB) (by omega)
  rw [show bitsOf 4 = 4 from rfl, hrp] at hcall
  unfold Ans3 at hcall
  simp only at hcall
  have hat := refAt_any (.slice (some ⟨g0, 0, none⟩) 99 99) T3 i wx (hL.st wx hB) (by rw [t3_len]; omega) (by omega)
  obtain ⟨e1, e2⟩ := ent_t3 ht3
  rw [e1, e2] at hat
  obtain ⟨f1, f2⟩ := g
  unfold aggF at hat
  simp only at hat
  have HCALL := Bx.mk hcall
  have HAT := Bx.mk hat
  have HO := Bx.mk ho
  have HB := Bx.mk hB
  have HG := Bx.mk hG
  have HGO := Bx.mk hGo
  have HF := Bx.mk hF
  have HM := Bx.mk (show m ≤ b.length ∧ f.1 = f1 ∧ ∃ (sv : List UInt8) (m2 : Nat), sb 7 (b.drop m) = (sv, (m2 : Int), 0) ∧ f.2 = bstr sv ∧ m2 ≤ (b.drop m).length ∧ b' = (b.drop m).drop m2 from ⟨hml, hg1.symm, sv, m2, hsb, hf2, hm2, hb'⟩)
  obtain ⟨C, hC⟩ := letter (headN b)
  have hand : (bits .and .u8 C 16 == 0) = false := by
    have h1 : bits .and .u8 C 16 = ((headN b &&& 16 : Nat) : Int) := by rw [← hC]; exact u8_and_nat _ 16 (by omega) (by decide)
    rw [h1, beq_eq_false_iff_ne]
    omega
  rw [hC] at h12
  obtain ⟨u, hu, hac⟩ := lframe ac hA.z hA.d
  have h0 := (hu 0).symm.trans hA.t0
  have h1 := (hu 1).symm.trans hA.t1
  have h2 := (hu 2).symm.trans hA.t2
  have h3 := (hu 3).symm.trans hA.t3
  have h10 := (hu 10).symm.trans hA.t10
  have h11 := (hu 11).symm.trans hA.t11
  have h12' := (hu 12).symm.trans h12
  have h13' := (hu 13).symm.trans h13
  have h14' := (hu 14).symm.trans h14
  have h15' := (hu 15).symm.trans h15
  rw [hac]
  clear hac hA h12 h13 h14 h15
  rw [h0, h1, h2, h3, h10, h11, h12', h13', h14', h15']
  clear h0 h1 h2 h3 h10 h11 h12' h13' h14' h15' hu
  conv => arg 2; whnf
  clear hL hb hbl ho hB hG hGo hF hc2 h64 h128 h16n hrp hi ht3 hml hb' hcall hat e1 e2 hC hg1 hsb hf2 hm2
  go_wp2_with (first
    | (go_at_call 47; refine HCALL.out.mono ?_; rintro r w3 ⟨rfl, rfl⟩)
    | (go_at_call 62; refine HAT.out.mono ?_; rintro r w4 ⟨rfl, b4⟩; have HB4 := Bx.mk (below_next HB.out b4); have HF4 := Bx.mk (HF.out.keep b4); have HO4 := Bx.mk (show OwF w4 w2.heap.size ov out from ownN_keep HO.out b4); clear b4)
    | ((with_reducible refine wpList_storeF 53 G (⟨#[]⟩, ⟨#[]⟩) (f1, f2) rfl rfl HF4.out ?_); intro w5 hf5 hg5; have HF5 := Bx.mk hf5; have HB5 := Bx.mk (HB4.out.grown hg5 HB4.out.size (fun k hk => by injection hk with hk; have := HG.out; omega)); have HO5 := Bx.mk (show OwF w5 w2.heap.size ov out from own_kept HO4.out fun j hj => hg5.block j (HO4.out.lt j hj).2 (fun e => HGO.out j hj (by injection e)))))
  exact Kx.norm ⟨m, f1, f2, false, ⟨rfl, rfl, rfl, rfl, rfl, rfl, rfl, rfl⟩, ⟨rfl, rfl, rfl, rfl⟩, HM.out.1, HF5.out, HB5.out, HO5.out, .inr ⟨rfl, HM.out.2.1, HM.out.2.2⟩⟩

set_option maxRecDepth 100000 in
set_option maxHeartbeats 40000000 in
/-- A name. -/
theorem swD_any (ac : Act) (hL : Li q t c g0 T S1 w2) (hA : Al ac q c g0 bw ov) (h12 : ac.tmps.getD 12 undef = .int .u8 (headN b : Int)) (h13 : ac.tmps.getD 13 undef = .pointer (some ⟨G, 0, none⟩)) (h14 : ac.tmps.getD 14 undef = .bool true) (hb : ∀ W, Below w2.heap.size w2 W → Bs W bw b) (hbl : b.length ≤ 900000) (ho : OwF wx w2.heap.size ov out) (hB : Below w2.heap.size w2 wx) (hG : w2.heap.size ≤ G) (hGo : ∀ j, ov.ownBlock = some j → j ≠ G) (hF : Fb 53 wx G (⟨#[]⟩, ⟨#[]⟩)) (hc2 : headN b < 256)
    (h15 : ac.tmps.getD 15 undef = .bool false) (hh : 32 ≤ headN b ∧ headN b < 64 ∧ ∃ (m m2 : Nat) (sn sv : List UInt8), sb 3 b = (sn, (m : Int), 0) ∧ f.1 = bstr sn ∧ m ≤ b.length ∧ sb 7 (b.drop m) = (sv, (m2 : Int), 0) ∧ f.2 = bstr sv ∧ m2 ≤ (b.drop m).length ∧ b' = (b.drop m).drop m2) :
    Code.wp Tryz.prog (lstmt 35) (Kx (Sl2 q c g0 G w2 b b' out f bw ov) (fun _ _ => False) (fun _ _ _ => False)) ac wx := by
  obtain ⟨h32, h64, m, m2, sn, sv, hsn, hf1, hml, hsb, hf2, hm2, hb'⟩ := hh
  have hcall := strBits_any bw b 3 wx (by omega) (by omega) (hb wx hB) (by omega)
  rw [hsn] at hcall
  unfold AnsS at hcall
  simp only at hcall
  obtain ⟨f1, hf1'⟩ : ∃ f1, bstr sn = f1 := ⟨_, rfl⟩
  rw [hf1'] at hcall hf1
  have HCALL := Bx.mk hcall
  have HO := Bx.mk ho
  have HB := Bx.mk hB
  have HG := Bx.mk hG
  have HGO := Bx.mk hGo
  have HF := Bx.mk hF
  have HM := Bx.mk (show m ≤ b.length ∧ f.1 = f1 ∧ ∃ (sv : List UInt8) (m2 : Nat), sb 7 (b.drop m) = (sv, (m2 : Int), 0) ∧ f.2 = bstr sv ∧ m2 ≤ (b.drop m).length ∧ b' = (b.drop m).drop m2 from ⟨hml, hf1, sv, m2, hsb, hf2, hm2, hb'⟩)
  obtain ⟨u, hu, hac⟩ := lframe ac hA.z hA.d
  have h0 := (hu 0).symm.trans hA.t0
  have h1 := (hu 1).symm.trans hA.t1
  have h2 := (hu 2).symm.trans hA.t2
  have h3 := (hu 3).symm.trans hA.t3
  have h10 := (hu 10).symm.trans hA.t10
  have h11 := (hu 11).symm.trans hA.t11
  have h12' := (hu 12).symm.trans h12
  have h13' := (hu 13).symm.trans h13
  have h14' := (hu 14).symm.trans h14
  have h15' := (hu 15).symm.trans h15
  rw [hac]
  clear hac hA h12 h13 h14 h15
  rw [h0, h1, h2, h3, h10, h11, h12', h13', h14', h15']
  clear h0 h1 h2 h3 h10 h11 h12' h13' h14' h15' hu
  conv => arg 2; whnf
  clear hL hb hbl ho hB hG hGo hF hc2 h32 h64 hsn hf1 hml hb' hcall hsb hf2 hm2 hf1'
  go_wp2_with (go_at_call 64; refine HCALL.out.mono ?_; rintro r w4 ⟨rfl, b4⟩; have HB4 := Bx.mk (below_next HB.out b4); have HF4 := Bx.mk (HF.out.keep b4); have HO4 := Bx.mk (show OwF w4 w2.heap.size ov out from ownN_keep HO.out b4); obtain ⟨ga, gb⟩ := HF4.out.cells; have hfz : w4.frozen? ⟨G, 0, none⟩ = false := HF4.out.free.1; clear b4)
  have hf := Fp.set (fun j => j = G) w4 ⟨G, 0, none⟩ (.string f1) rfl
  exact Kx.norm ⟨m, f1, ⟨#[]⟩, false, ⟨rfl, rfl, rfl, rfl, rfl, rfl, rfl, rfl⟩, ⟨rfl, rfl, rfl, rfl⟩, HM.out.1, fb_put0 HF4.out f1, HB4.out.trans (hf.below HB4.out.size (fun j hj => hj ▸ HG.out)), own_kept HO4.out fun j hj => hf.block j (HO4.out.lt j hj).2 (HGO.out j hj), .inr ⟨rfl, HM.out.2.1, HM.out.2.2⟩⟩

end
end Go.Proofs.YtebakjdeighdnaaGreat

/-
  Contract of the document's lines of a section, for lines as they are written.
-/
namespace Go.Proofs.YtebakjdeighdnaaGreat
open Go.RowKit Go.Maps
set_option linter.unusedVariables false

section
variable {q t c g0 G k : Nat} {T : Tab} {S1 : Nat → Prop} {w w2 wx : World} {b b' : List UInt8} {out : List Fd} {bw ov : Value} {f : Fd}
/-- Behind the switch. -/
theorem behind_any (ac : Act) (hbl : b.length ≤ 900000) (hl : out.length ≤ 1000) (hG : w2.heap.size ≤ G) (hGo : ∀ j, ov.ownBlock = some j → j ≠ G) (hb : ∀ W, Below w2.heap.size w2 W → Bs W bw b) (h : Sl2 q c g0 G w2 b b' out f bw ov ac wx) :
    Code.wp Tryz.prog (lstmt 46) (Kx (Lx q c g0 w2 b' (out ++ [f])) (fun _ _ => False) (fun _ _ _ => False)) ac wx := by
  obtain ⟨k, f1, x2, wh, hA, hA2, hk, hF, hB, ho, h⟩ := h
  rcases h with ⟨rfl, rfl, rfl⟩ | ⟨rfl, rfl, sv, m2, hsb, hf2, hm2, rfl⟩
  · exact tailW_any ac hA hA2 hb hk (by omega) ho hl hB hF
  · have h := tailV_any ac hA hA2 hb hk hbl ho hl hB hG hGo hF hsb hm2
    rw [show f = (f.1, bstr sv) from by rw [← hf2]]
    exact h
set_option maxRecDepth 100000 in
set_option maxHeartbeats 40000000 in
/-- One round, a line is left. -/
theorem lround_any (ac : Act) (hL : Li q t c g0 T S1 w2) (hN : Lx q c g0 w2 b out ac wx) (hbl : b.length ≤ 900000) (hl : out.length < 64) (hne : b ≠ []) (hr : RdL T c b f b') :
    Code.wp Tryz.prog (lloop 0) (Kx (Lx q c g0 w2 b' (out ++ [f])) (fun _ _ => False) (fun _ _ _ => False)) ac wx := by
  obtain ⟨bw, ov, hA, hb, ho, hB⟩ := hN
  have hc2 : headN b < 256 := by unfold headN; exact (b.headD 0).toNat_lt
  have hlenb := fun ty W => (hb wx hB).run_len ty W
  have hleno := fun ty W => ho.run_len ty W
  obtain ⟨nb, hnb⟩ : ∃ nb, b.length = nb := ⟨_, rfl⟩
  obtain ⟨no, hno⟩ : ∃ no, out.length = no := ⟨_, rfl⟩
  rw [hnb] at hlenb
  rw [hno] at hleno
  have hnb0 : 0 < nb := by rw [← hnb]; exact List.length_pos_iff.2 hne
  have hd1 : decide ((0 : Int) < (nb : Int)) = true := decide_eq_true (by omega)
  have hd1' : decide (0 < nb) = true := decide_eq_true hnb0
  have hd2 : decide ((64 : Int) ≤ (no : Int)) = false := decide_eq_false (by omega)
  have hd2' : decide (64 ≤ no) = false := decide_eq_false (by omega)
  obtain ⟨p, hix, hcp⟩ := (hb wx hB).at_ 0 (by omega)
  have hcell := hcp wx (hb wx hB)
  have hhd : b[0]'(by omega) = b.headD 0 := by cases b with
    | nil => exact absurd rfl hne
    | cons x r => rfl
  rw [hhd] at hcell
  have hix0 : ∀ W : World, (Instr.indexAt 23 bw (.int .i64 0)).run Tryz.prog W = .ok (.pointer (some p)) W := hix
  obtain ⟨C, hC⟩ := letter (headN b)
  rw [show ((b.headD 0).toNat : Int) = C from hC] at hcell
  obtain ⟨w3, hw3⟩ : ∃ w3, wx.alloc (.cells #[.string ⟨#[]⟩, .string ⟨#[]⟩] 53) = w3 := ⟨_, rfl⟩
  obtain ⟨G, hG⟩ : ∃ G, wx.heap.size = G := ⟨_, rfl⟩
  have hb3 : Below wx.heap.size wx w3 := by rw [← hw3]; exact (Below.refl _ _).alloc (Nat.le_refl _) _
  have hB3 := below_next hB hb3
  have hF3 : Fb 53 w3 G (⟨#[]⟩, ⟨#[]⟩) := by rw [← hw3, ← hG]; exact Fb.new _ wx (⟨#[]⟩, ⟨#[]⟩)
  have ho3 : OwF w3 w2.heap.size ov out := ownN_keep ho hb3
  have hGG : w2.heap.size ≤ G := by have := hB.size; omega
  have hGo : ∀ j, ov.ownBlock = some j → j ≠ G := fun j hj => by have := (ho.lt j hj).2; omega
  have HBEH := Bx.mk (fun (ac2 : Act) (w4 : World) h => behind_any (q := q) (c := c) (g0 := g0) (G := G) (w2 := w2) (wx := w4) (b := b) (b' := b') (out := out) (bw := bw) (ov := ov) (f := f) ac2 hbl (by omega) hGG hGo hb h)
  obtain ⟨q1, q2, q3, q4, q5, q6⟩ := qmask (headN b) hc2
  have hb1 : bits .and .u8 C 128 = ((headN b &&& 128 : Nat) : Int) := by rw [← hC]; exact u8_and_nat _ 128 (by omega) (by decide)
  have hb2 : bits .and .u8 C 64 = ((headN b &&& 64 : Nat) : Int) := by rw [← hC]; exact u8_and_nat _ 64 (by omega) (by decide)
  have hb32 : bits .and .u8 C 32 = ((headN b &&& 32 : Nat) : Int) := by rw [← hC]; exact u8_and_nat _ 32 (by omega) (by decide)
  obtain ⟨K1, hK1⟩ : ∃ K1, ((headN b &&& 128 : Nat) : Int) = K1 := ⟨_, rfl⟩
  obtain ⟨K2, hK2⟩ : ∃ K2, ((headN b &&& 64 : Nat) : Int) = K2 := ⟨_, rfl⟩
  obtain ⟨K3, hK3⟩ : ∃ K3, ((headN b &&& 32 : Nat) : Int) = K3 := ⟨_, rfl⟩
  rw [hK1] at hb1
  rw [hK2] at hb2
  rw [hK3] at hb32
  have HCC := Bx.mk hC
  obtain ⟨u, hu, hac⟩ := lframe ac hA.z hA.d
  have h0 := (hu 0).symm.trans hA.t0
  have h1 := (hu 1).symm.trans hA.t1
  have h2 := (hu 2).symm.trans hA.t2
  have h3 := (hu 3).symm.trans hA.t3
  have h10 := (hu 10).symm.trans hA.t10
  have h11 := (hu 11).symm.trans hA.t11
  rw [hac]
  clear hac hA
  rw [h0, h1, h2, h3, h10, h11]
  clear h0 h1 h2 h3 h10 h11 hu
  conv => arg 2; whnf
  have HARGS := Bx.mk (And.intro hL (And.intro hb (And.intro hbl (And.intro ho3 (And.intro hB3 (And.intro hGG (And.intro hGo (And.intro hF3 hc2))))))))
  clear hL hb hbl ho hB hl hne hcp hix hnb hno hnb0 hhd hC hb3 hB3 hF3 ho3 hGG hGo
  rcases hr with hr | hr | hr | hr
  · have hz1 : (K1 != 0) = true := by rw [← hK1, bne_iff_ne]; have := q1 (by omega); omega
    have HP := Bx.mk (fun ac hA h12 h13 h14 => swA_any (wx := w3) (b' := b') (f := f) ac HARGS.out.1 hA h12 h13 h14 HARGS.out.2.1 HARGS.out.2.2.1 HARGS.out.2.2.2.1 HARGS.out.2.2.2.2.1 HARGS.out.2.2.2.2.2.1 HARGS.out.2.2.2.2.2.2.1 HARGS.out.2.2.2.2.2.2.2.1 HARGS.out.2.2.2.2.2.2.2.2 hr)
    clear hr q1 q2 q3 q4 q5 q6 hK1 hK2 hK3 hc2
    go_upto_block 2 with fail
    rename_i hKq
    refine wp_block ?_
    go_upto_if 76 with fail
    refine wp_cond_true rfl ?_
    refine Kx.use (HP.out _ ⟨rfl, rfl, rfl, rfl, rfl, rfl, rfl, rfl⟩ (by rw [HCC.out]; rfl) rfl rfl) ?_ ?_ ?_
    · intro a2 w4 h
      refine hKq _ _ ?_
      refine Kx.use (HBEH.out a2 w4 h) ?_ ?_ ?_
      · intro a3 w5 h; exact h
      · intro a3 w5 h; exact h.elim
      · intro i a3 w5 h; exact h.elim
    · intro a2 w4 h; exact h.elim
    · intro i a2 w4 h; exact h.elim
  · have hz1 : (K1 != 0) = true := by rw [← hK1, bne_iff_ne]; have := q1 (by omega); omega
    have HP := Bx.mk (fun ac hA h12 h13 h14 => swB_any (wx := w3) (b' := b') (f := f) ac HARGS.out.1 hA h12 h13 h14 HARGS.out.2.1 HARGS.out.2.2.1 HARGS.out.2.2.2.1 HARGS.out.2.2.2.2.1 HARGS.out.2.2.2.2.2.1 HARGS.out.2.2.2.2.2.2.1 HARGS.out.2.2.2.2.2.2.2.1 HARGS.out.2.2.2.2.2.2.2.2 hr)
    clear hr q1 q2 q3 q4 q5 q6 hK1 hK2 hK3 hc2
    go_upto_block 2 with fail
    rename_i hKq
    refine wp_block ?_
    go_upto_if 76 with fail
    refine wp_cond_true rfl ?_
    refine Kx.use (HP.out _ ⟨rfl, rfl, rfl, rfl, rfl, rfl, rfl, rfl⟩ (by rw [HCC.out]; rfl) rfl rfl) ?_ ?_ ?_
    · intro a2 w4 h
      refine hKq _ _ ?_
      refine Kx.use (HBEH.out a2 w4 h) ?_ ?_ ?_
      · intro a3 w5 h; exact h
      · intro a3 w5 h; exact h.elim
      · intro i a3 w5 h; exact h.elim
    · intro a2 w4 h; exact h.elim
    · intro i a2 w4 h; exact h.elim
  · have hz1 : (K1 != 0) = false := by rw [← hK1, bne_eq_false_iff_eq]; have := q2 (by omega); omega
    have hz2 : (K2 != 0) = true := by rw [← hK2, bne_iff_ne]; have := q4 (by omega); omega
    have HP := Bx.mk (fun ac hA h12 h13 h14 h15 => swC_any (wx := w3) (b' := b') (f := f) ac HARGS.out.1 hA h12 h13 h14 HARGS.out.2.1 HARGS.out.2.2.1 HARGS.out.2.2.2.1 HARGS.out.2.2.2.2.1 HARGS.out.2.2.2.2.2.1 HARGS.out.2.2.2.2.2.2.1 HARGS.out.2.2.2.2.2.2.2.1 HARGS.out.2.2.2.2.2.2.2.2 h15 hr)
    clear hr q1 q2 q3 q4 q5 q6 hK1 hK2 hK3 hc2
    go_upto_block 2 with fail
    rename_i hKq
    refine wp_block ?_
    go_upto_if 112 with fail
    refine wp_cond_true rfl ?_
    refine Kx.use (HP.out _ ⟨rfl, rfl, rfl, rfl, rfl, rfl, rfl, rfl⟩ (by rw [HCC.out]; rfl) rfl rfl rfl) ?_ ?_ ?_
    · intro a2 w4 h
      refine hKq _ _ ?_
      refine Kx.use (HBEH.out a2 w4 h) ?_ ?_ ?_
      · intro a3 w5 h; exact h
      · intro a3 w5 h; exact h.elim
      · intro i a3 w5 h; exact h.elim
    · intro a2 w4 h; exact h.elim
    · intro i a2 w4 h; exact h.elim
  · have hz1 : (K1 != 0) = false := by rw [← hK1, bne_eq_false_iff_eq]; have := q2 (by omega); omega
    have hz2 : (K2 != 0) = false := by rw [← hK2, bne_eq_false_iff_eq]; have := q3 (by omega); omega
    have hz3 : (K3 != 0) = true := by rw [← hK3, bne_iff_ne]; have := q6 (by omega); omega
    have HP := Bx.mk (fun ac hA h12 h13 h14 h15 => swD_any (wx := w3) (b' := b') (f := f) ac HARGS.out.1 hA h12 h13 h14 HARGS.out.2.1 HARGS.out.2.2.1 HARGS.out.2.2.2.1 HARGS.out.2.2.2.2.1 HARGS.out.2.2.2.2.2.1 HARGS.out.2.2.2.2.2.2.1 HARGS.out.2.2.2.2.2.2.2.1 HARGS.out.2.2.2.2.2.2.2.2 h15 hr)
    clear hr q1 q2 q3 q4 q5 q6 hK1 hK2 hK3 hc2
    go_upto_block 2 with fail
    rename_i hKq
    refine wp_block ?_
    go_upto_if 148 with fail
    refine wp_cond_true rfl ?_
    refine Kx.use (HP.out _ ⟨rfl, rfl, rfl, rfl, rfl, rfl, rfl, rfl⟩ (by rw [HCC.out]; rfl) rfl rfl rfl) ?_ ?_ ?_
    · intro a2 w4 h
      refine hKq _ _ ?_
      refine Kx.use (HBEH.out a2 w4 h) ?_ ?_ ?_
      · intro a3 w5 h; exact h
      · intro a3 w5 h; exact h.elim
      · intro i a3 w5 h; exact h.elim
    · intro a2 w4 h; exact h.elim
    · intro i a2 w4 h; exact h.elim

set_option maxRecDepth 100000 in
set_option maxHeartbeats 40000000 in
/-- One round, no line is left. -/
theorem lroundE_any (ac : Act) (hN : Lx q c g0 w2 [] out ac wx) :
    Code.wp Tryz.prog (lloop 0) (Kx (fun _ _ => False) (fun _ _ => False) (fun i ac' w' => i = 0 ∧ Lx q c g0 w2 [] out ac' w')) ac wx := by
  obtain ⟨bw, ov, hA, hb, ho, hB⟩ := hN
  have hlenb := fun ty W => (hb wx hB).run_len ty W
  rw [show (([] : List UInt8).length : Int) = 0 from rfl] at hlenb
  have HARGS := Bx.mk (And.intro hb (And.intro ho hB))
  obtain ⟨u, hu, hac⟩ := lframe ac hA.z hA.d
  have h0 := (hu 0).symm.trans hA.t0
  have h1 := (hu 1).symm.trans hA.t1
  have h2 := (hu 2).symm.trans hA.t2
  have h3 := (hu 3).symm.trans hA.t3
  have h10 := (hu 10).symm.trans hA.t10
  have h11 := (hu 11).symm.trans hA.t11
  rw [hac]
  clear hac hA
  rw [h0, h1, h2, h3, h10, h11]
  clear h0 h1 h2 h3 h10 h11 hu
  conv => arg 2; whnf
  clear hb ho hB
  go_wp2_with fail
  exact Kx.exit ⟨rfl, _, _, ⟨rfl, rfl, rfl, rfl, rfl, rfl, rfl, rfl⟩, HARGS.out.1, HARGS.out.2.1, HARGS.out.2.2⟩
/-- Lines, one behind another. -/
def RdLs (T : Tab) (c : Nat) : List UInt8 → List Fd → Prop
  | b, [] => b = []
  | b, f :: l => b ≠ [] ∧ ∃ b', RdL T c b f b' ∧ b'.length ≤ b.length ∧ RdLs T c b' l
end
end Go.Proofs.YtebakjdeighdnaaGreat
