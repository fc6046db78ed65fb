/-
  Packets: the program's readShort, readHead (written by mkqkd.py).
-/
import Derived.Test.YtcakppdabolfiaaQkD
namespace Go.Proofs.Ytcakppdabolfiaa
open Go.RowKit
set_option linter.unusedVariables false
set_option linter.unusedSimpArgs false

theorem hd_size : (Try.prog.info? 38).map (·.size) = some 7 := by kernel_rfl
/-- A head's cells. -/
def hdV (lo : Bool) (ty : Int) (ver : Nat) (d s : Value) (pn : Nat) (pl : Int) : Array Value := #[.bool lo, .int .i64 ty, .int .u32 (ver : Int), d, s, .int .u64 (pn : Int), .int .i64 pl]
theorem hdV_i (lo : Bool) (ty : Int) (ver : Nat) (d s : Value) (pn : Nat) (pl : Int) : (Try.prog.info? 38).map (·.size) = some (hdV lo ty ver d s pn pl).size := hd_size
theorem hdV_o (lo : Bool) (ty : Int) (ver : Nat) (d s : Value) (pn : Nat) (pl : Int) : (#[.bool false, .int .i64 0, .int .u32 0, .slice none 0 0, .slice none 0 0, .int .u64 0, .int .i64 0] : Array Value).size = (hdV lo ty ver d s pn pl).size := rfl
theorem hdV_1 (lo : Bool) (ty : Int) (ver : Nat) (A A2 : Option Addr) (n c n2 c2 : Nat) (pn : Nat) (pl : Int) : (hdV lo ty ver (.slice A n c) (.slice A2 n2 c2) pn pl).all (·.oneCell') = true := by simp [hdV, Value.oneCell']
theorem ret_Hd {p u u2 : Tmp} {fn : Func} (h : fn.results = #[.cell p 38, .tmp u, .tmp u2]) (tmps : Array Value) (w : World) (g : Nat) (c0 c1 c2 c3 c4 c5 c6 v v2 : Value)
    (hp : tmps.getD p undef = .pointer (some ⟨g, 0, none⟩)) (hv : tmps.getD u undef = v) (hv2 : tmps.getD u2 undef = v2) (hg : Sb 38 w g #[c0, c1, c2, c3, c4, c5, c6]) :
    (results fn tmps).run Try.prog w = .ok (.tuple #[.agg #[c0, c1, c2, c3, c4, c5, c6], v, v2]) w :=
  ret_S3 h tmps w g 38 _ v v2 _ hp hv hv2 hg Try.underlying38 rfl hd_size
theorem ret_Hd4 {p u u2 u3 : Tmp} {fn : Func} (h : fn.results = #[.cell p 38, .tmp u, .tmp u2, .tmp u3]) (tmps : Array Value) (w : World) (g : Nat) (cs : Array Value) (hcs : cs.size = 7) (v v2 v3 : Value)
    (hp : tmps.getD p undef = .pointer (some ⟨g, 0, none⟩)) (hv : tmps.getD u undef = v) (hv2 : tmps.getD u2 undef = v2) (hv3 : tmps.getD u3 undef = v3) (hg : Sb 38 w g cs) :
    (results fn tmps).run Try.prog w = .ok (.tuple #[.agg cs, v, v2, v3]) w := by
  subst hv hv2 hv3
  have hp' : tmps[p]?.getD undef = .pointer (some ⟨g, 0, none⟩) := by simpa using hp
  have hr := run_loadVar_row w g 38 38 cs (0, 0) _ hg Try.underlying38 rfl (by rw [hd_size, hcs])
  simp [results, h, hp', asAddr, hr]
set_option maxRecDepth 100000 in
set_option maxHeartbeats 4000000 in
theorem qRShort_any (v : Value) (c : UInt8) (t : List UInt8) (w : World) (hv : Bs w v (c :: t)) (h60 : c.toNat &&& 60 = 0) (h8 : 8 ≤ t.length) (hl : t.length ≤ 500000) :
    Calls Try.prog 85 #[v] w fun e w' => ∃ A n cc, e = .returned (.tuple #[.agg (hdV false 0 0 (.slice A n cc) (.slice none 0 0) 0 ((c.toNat % 4 + 1 : Nat) : Int)), .int .i64 9, .int .i64 ((t.length + 1 : Nat) : Int)]) ∧ OwB w' w.heap.size (.slice A n cc) (t.take 8) ∧ Below w.heap.size w w' := by
  obtain ⟨x, hx⟩ : ∃ x, c.toNat = x := ⟨_, rfl⟩
  have hx256 : x < 256 := by rw [← hx]; exact c.toNat_lt
  rw [hx] at h60 ⊢
  obtain ⟨v1, r1, k1⟩ := hv.mid 1 9 (by omega) (by omega) (by simp; omega)
  have K1 : Bx (∀ W, Bs W v (c :: t) → Bs W v1 (t.take 8)) := ⟨fun W h => by
    have := k1 W h
    rw [show (9 : Int).toNat = 8 + 1 from rfl, show (1 : Int).toNat = 1 from rfl, List.take_succ_cons, List.drop_succ_cons, List.drop_zero] at this
    exact this⟩
  have HV := Bx.mk hv
  obtain ⟨b, o, L, cc, rfl, hL, h1, h2, h3, h4⟩ := hv.cell0
  rw [hx] at h4
  rw [← hL.out]
  obtain ⟨pl, hpl⟩ : ∃ p, x % 4 + 1 = p := ⟨_, rfl⟩
  have HPn := Bx.mk (fun W => qPnLen_any x hx256 W)
  rw [hpl] at HPn ⊢
  have a60 : bits .and .u8 (x : Int) 60 = 0 := by
    rw [show (60 : Int) = ((60 : Nat) : Int) from rfl, u8_and_nat _ _ hx256 (by decide), h60]; rfl
  have f2 : decide ((L : Int) < 9) = false := decide_eq_false (by have := hL.out; omega)
  have f2n : decide (L < 9) = false := decide_eq_false (by have := hL.out; omega)
  have HTL : Bx ((t.take 8).length ≤ 1000000) := ⟨by rw [List.length_take]; omega⟩
  have HCo := Bx.mk (fun W (h : Bs W v1 (t.take 8)) => qCopied_any v1 (t.take 8) W h HTL.out)
  have HZ0 : Bx (Sb 38 (w.alloc (.cells #[.bool false, .int .i64 0, .int .u32 0, .slice none 0 0, .slice none 0 0, .int .u64 0, .int .i64 0] 38)) w.heap.size #[.bool false, .int .i64 0, .int .u32 0, .slice none 0 0, .slice none 0 0, .int .u64 0, .int .i64 0]) := ⟨Sb.new _ w _⟩
  have HB0 : Bx (Below w.heap.size w (w.alloc (.cells #[.bool false, .int .i64 0, .int .u32 0, .slice none 0 0, .slice none 0 0, .int .u64 0, .int .i64 0] 38))) := ⟨(Below.refl _ _).alloc (Nat.le_refl _) _⟩
  have hBc : ∀ W, Below w.heap.size w W → W.cell? ⟨b, o, none⟩ = some (.int .u8 (x : Int)) := fun W hW => by
    have := Bs.cell (show Bs W (.slice (some ⟨b, o, none⟩) L cc) (c :: t) from HV.out.keep hW) 0 (by simp)
    rw [List.getElem_cons_zero, hx] at this
    exact this
  have h4b : (w.alloc (.cells #[.bool false, .int .i64 0, .int .u32 0, .slice none 0 0, .slice none 0 0, .int .u64 0, .int .i64 0] 38)).cell? ⟨b, o, none⟩ = some (.int .u8 (x : Int)) := hBc _ HB0.out
  have h4c : ∀ W, Below (w.alloc (.cells #[.bool false, .int .i64 0, .int .u32 0, .slice none 0 0, .slice none 0 0, .int .u64 0, .int .i64 0] 38)).heap.size (w.alloc (.cells #[.bool false, .int .i64 0, .int .u32 0, .slice none 0 0, .slice none 0 0, .int .u64 0, .int .i64 0] 38)).drew W → W.cell? ⟨b, o, none⟩ = some (.int .u8 (x : Int)) := fun W hW => hBc W (HB0.out.trans (((Below.refl _ _).drew.trans hW).mono HB0.out.size))
  have hL0 : 0 < L := h1
  have hL0d : decide (0 < L) = true := decide_eq_true h1
  clear hBc
  clear hL hx hl h60 k1 hx256 h8 hpl h4
  go_enter Try.func85, Try.ntmps85
  go_upto_region 4 with fail
  generalize hW0 : w.alloc (.cells #[.bool false, .int .i64 0, .int .u32 0, .slice none 0 0, .slice none 0 0, .int .u64 0, .int .i64 0] 38) = W0 at HZ0 HB0 h4c ⊢
  obtain ⟨g, hg⟩ : ∃ g, w.heap.size = g := ⟨_, rfl⟩
  rw [hg] at HZ0
  have HG : Bx (w.heap.size = g) := ⟨hg⟩
  simp only [hg]
  clear hg hW0 h4b
  refine wp_region_x 12 (fun W => Below W0.heap.size W0.drew W) (by kernel_rfl) (Below.refl _ _) (fun hHeld => ?_)
  refine wpAnyX_take0 (i := 0) (oi := ⟨some 17, Op.move (Operand.tmp 0), 36, _, _, none⟩) (v := ?v0s) rfl (by omega) (by kernel_rfl) (by kernel_rfl) (by kernel_rfl) (fun _ _ _ h => h) (Or.inl ⟨by rfl, ?y0s⟩) (by assumption) ?r0s
  case y0s =>
    intro W hSw
    try dsimp only at hSw
    go_simp
    try with_reducible rfl
  case r0s =>
  try simp only [Act.put, List.setIfInBounds_toArray, List.set_cons_zero, List.set_cons_succ]
  refine wpAnyX_take0 (i := 1) (oi := ⟨some 18, Op.move (Operand.tmp 3), 3, _, _, none⟩) (v := ?v1s) rfl (by omega) (by kernel_rfl) (by kernel_rfl) (by kernel_rfl) (fun _ _ _ h => h) (Or.inl ⟨by rfl, ?y1s⟩) (by assumption) ?r1s
  case y1s =>
    intro W hSw
    try dsimp only at hSw
    go_simp
    try with_reducible rfl
  case r1s =>
  try simp only [Act.put, List.setIfInBounds_toArray, List.set_cons_zero, List.set_cons_succ]
  refine wpAnyX_take0 (i := 2) (oi := ⟨some 19, Op.slice 36 (Operand.tmp 17) (some (Operand.const (Value.int IntKind.i64 1))) (some (Operand.tmp 18)) none, 36, _, _, none⟩) (v := ?v2s) rfl (by omega) (by kernel_rfl) (by kernel_rfl) (by kernel_rfl) (fun _ _ _ h => h) (Or.inl ⟨by rfl, ?y2s⟩) (by assumption) ?r2s
  case y2s =>
    intro W hSw
    try dsimp only at hSw
    go_simp
    try with_reducible rfl
  case r2s =>
  try simp only [Act.put, List.setIfInBounds_toArray, List.set_cons_zero, List.set_cons_succ]
  refine wpAnyX_take0 (i := 4) (oi := ⟨some 21, Op.move (Operand.tmp 0), 36, _, _, none⟩) (v := ?v4s) rfl (by omega) (by kernel_rfl) (by kernel_rfl) (by kernel_rfl) (fun _ _ _ h => h) (Or.inl ⟨by rfl, ?y4s⟩) (by assumption) ?r4s
  case y4s =>
    intro W hSw
    try dsimp only at hSw
    go_simp
    try with_reducible rfl
  case r4s =>
  try simp only [Act.put, List.setIfInBounds_toArray, List.set_cons_zero, List.set_cons_succ]
  refine wpAnyX_take0 (i := 5) (oi := ⟨some 22, Op.indexAddr 36 (Operand.tmp 21) (Operand.const (Value.int IntKind.i64 0)), 0, _, _, none⟩) (v := ?v5s) rfl (by omega) (by kernel_rfl) (by kernel_rfl) (by kernel_rfl) (fun _ _ _ h => h) (Or.inl ⟨by rfl, ?y5s⟩) (by assumption) ?r5s
  case y5s =>
    intro W hSw
    try dsimp only at hSw
    go_simp
    try with_reducible rfl
  case r5s =>
  try simp only [Act.put, List.setIfInBounds_toArray, List.set_cons_zero, List.set_cons_succ]
  refine wpAnyX_take (i := 6) (oi := ⟨some 23, Op.load 5 (Operand.tmp 22), 5, _, _, none⟩) (v := ?v6s) rfl (by omega) (by kernel_rfl) (by kernel_rfl) (by kernel_rfl) (by kernel_rfl) (by kernel_rfl) (fun _ _ _ h => h) (Or.inl ⟨by rfl, ?y6s⟩) (by assumption) ?r6s
  case y6s =>
    intro W hSw
    try dsimp only at hSw
    go_simp
    try with_reducible rfl
  case r6s =>
  try simp only [Act.put, List.setIfInBounds_toArray, List.set_cons_zero, List.set_cons_succ]
  refine wpAnyX_take0 (i := 9) (oi := ⟨some 26, Op.move (Operand.tmp 3), 3, _, _, none⟩) (v := ?v9s) rfl (by omega) (by kernel_rfl) (by kernel_rfl) (by kernel_rfl) (fun _ _ _ h => h) (Or.inl ⟨by rfl, ?y9s⟩) (by assumption) ?r9s
  case y9s =>
    intro W hSw
    try dsimp only at hSw
    go_simp
    try with_reducible rfl
  case r9s =>
  try simp only [Act.put, List.setIfInBounds_toArray, List.set_cons_zero, List.set_cons_succ]
  refine wpAnyX_take0 (i := 10) (oi := ⟨some 27, Op.move (Operand.tmp 0), 36, _, _, none⟩) (v := ?v10s) rfl (by omega) (by kernel_rfl) (by kernel_rfl) (by kernel_rfl) (fun _ _ _ h => h) (Or.inl ⟨by rfl, ?y10s⟩) (by assumption) ?r10s
  case y10s =>
    intro W hSw
    try dsimp only at hSw
    go_simp
    try with_reducible rfl
  case r10s =>
  try simp only [Act.put, List.setIfInBounds_toArray, List.set_cons_zero, List.set_cons_succ]
  refine wpAnyX_take0 (i := 11) (oi := ⟨some 28, Op.call { callee := Callee.builtin Builtin.len, args := #[Operand.tmp 27], argTypes := #[36] }, 3, _, _, none⟩) (v := ?v11s) rfl (by omega) (by kernel_rfl) (by kernel_rfl) (by kernel_rfl) (fun _ _ _ h => h) (Or.inl ⟨by rfl, ?y11s⟩) (by assumption) ?r11s
  case y11s =>
    intro W hSw
    try dsimp only at hSw
    go_simp
    try with_reducible rfl
  case r11s =>
  try simp only [Act.put, List.setIfInBounds_toArray, List.set_cons_zero, List.set_cons_succ]
  refine wpAnyX_one (i := 3) (by kernel_rfl) rfl (fun K hK => ?_)
  go_simp
  go_at_call 58
  refine (HCo.out _ (K1.out _ (HV.out.keep (HB0.out.trans (((Below.refl _ _).drew.trans hHeld).mono HB0.out.size))))).mono ?_
  rintro e w3 ⟨Ad, nd, cd, rfl, h3, b3⟩
  have hS3 : Below W0.heap.size W0.drew w3 := hHeld.trans (b3.mono hHeld.size)
  have HD3 : Bx (OwB w3 W0.heap.size (.slice Ad nd cd) (t.take 8)) := ⟨h3.mono hHeld.size⟩
  clear h3 b3
  refine hK _ _ (fun _ => hS3) ?_
  clear hK K
  try simp only [Act.put, List.setIfInBounds_toArray, List.set_cons_zero, List.set_cons_succ]
  refine wpAnyX_one (i := 7) (by kernel_rfl) rfl (fun K hK => ?_)
  go_simp
  go_at_call 108
  refine (HPn.out _).mono ?_
  rintro e w2 ⟨rfl, hw2⟩
  subst hw2
  refine hK _ _ (fun _ => hS3) ?_
  clear hK K
  try simp only [Act.put, List.setIfInBounds_toArray, List.set_cons_zero, List.set_cons_succ]
  refine wpAnyX_take0 (i := 8) (oi := ⟨some 25, Op.build 38 #[(3, Operand.tmp 20), (6, Operand.tmp 24)], 38, _, _, none⟩) (v := ?v8s) rfl (by omega) (by kernel_rfl) (by kernel_rfl) (by kernel_rfl) (fun _ _ _ h => h) (Or.inl ⟨by rfl, ?y8s⟩) (by assumption) ?r8s
  case y8s =>
    intro W hSw
    try dsimp only at hSw
    go_simp
    try with_reducible rfl
  case r8s =>
  try simp only [Act.put, List.setIfInBounds_toArray, List.set_cons_zero, List.set_cons_succ]
  refine wpAnyX_one (i := 12) (by kernel_rfl) rfl (fun K hK => ?_)
  refine step_storeS rfl 38 _ _ rfl 38 g #[.bool false, .int .i64 0, .int .u32 0, .slice none 0 0, .slice none 0 0, .int .u64 0, .int .i64 0] (hdV false 0 0 (.slice Ad nd cd) (.slice none 0 0) 0 (pl : Int)) rfl rfl (HZ0.out.below ((Below.refl W0.heap.size W0).drew.trans hS3) HZ0.out.lt) hd_size rfl (by simp [hdV, Value.oneCell']) ?_
  intro w5 hs5 hg5
  have HS5 := Bx.mk hs5
  have HGr := Bx.mk hg5
  refine hK _ _ (fun h => absurd h (by decide)) ?_
  clear hK K
  try simp only [Act.put, List.setIfInBounds_toArray, List.set_cons_zero, List.set_cons_succ]
  refine wpAnyX_one (i := 13) (by kernel_rfl) rfl (fun K hK => ?_)
  go_simp
  refine hK _ _ (fun h => absurd h (by decide)) ?_
  clear hK K
  try simp only [Act.put, List.setIfInBounds_toArray, List.set_cons_zero, List.set_cons_succ]
  refine wpAnyX_one (i := 14) (by kernel_rfl) rfl (fun K hK => ?_)
  go_simp
  refine hK _ _ (fun h => absurd h (by decide)) ?_
  clear hK K
  try simp only [Act.put, List.setIfInBounds_toArray, List.set_cons_zero, List.set_cons_succ]
  refine wpAnyX_done (by kernel_rfl) ?_ _
  go_wp2_with fail
  have hb5 : Below w.heap.size w w5 := (HB0.out.trans (((Below.refl W0.heap.size W0).drew.trans hS3).mono HB0.out.size)).grown HGr.out (HB0.out.trans (((Below.refl W0.heap.size W0).drew.trans hS3).mono HB0.out.size)).size (fun k hk => by injection hk with hk; have := HG.out; omega)
  have hd5 : OwB w5 w.heap.size (.slice Ad nd cd) (t.take 8) := (HD3.out.grownQ HGr.out HZ0.out.lt).mono HB0.out.size
  exact bodyPost_ret (ret_Hd Try.results85 _ _ g _ _ _ _ _ _ _ _ _ rfl rfl rfl HS5.out) rfl ⟨Ad, nd, cd, rfl, hd5, hb5⟩
end Go.Proofs.Ytcakppdabolfiaa
