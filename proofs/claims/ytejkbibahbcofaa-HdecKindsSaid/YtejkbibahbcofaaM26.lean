/-
  Texts put together: OwB, OwP, HuffJ, OwH, NumE, NumF, NumMath, NumMath2.
-/
import Derived.Test.YtejkbibahbcofaaM01
import Derived.Test.YtejkbibahbcofaaM08
import Derived.Lib.AppendStr
import Derived.Deep.OwnRows

/-
  Byte rows of their own: appended to, by bytes and by strings; read, stored into.
-/
namespace Go.Proofs.Ytejkbibahbcofaa
open Go.RowKit
set_option linter.unusedVariables false

/-- The bytes l in a row of its own, from block B on (or nil). -/
def OwB (w : World) (B : Nat) (v : Value) (l : List UInt8) : Prop := w.ownsRow B 5 1 v (l.map bv).length (l.map bv)
section
variable {w w' : World} {B : Nat} {v : Value} {l : List UInt8}
theorem OwB.nil (w : World) (B : Nat) : OwB w B (.slice none 0 0) [] := World.ownsRow_nil w B 5 1
theorem OwB.apB (h : OwB w B v l) : ApB w B v l := .inl h
theorem OwB.bs (h : OwB w B v l) : Bs w v l := Rd.of_own h
theorem OwB.lt (h : OwB w B v l) {k : Nat} (hk : v.ownBlock = some k) : k < w.heap.size := by
  rcases h.2 with ⟨rfl, _⟩ | ⟨g, cap, cur, rfl, hg, hh, rest⟩
  · simp [Value.ownBlock] at hk
  · simp only [Value.ownBlock, Option.some.injEq] at hk
    subst hk
    exact (Array.getElem?_eq_some_iff.1 hh).1
theorem OwB.ge (h : OwB w B v l) {k : Nat} (hk : v.ownBlock = some k) : B ≤ k := by
  rcases h.2 with ⟨rfl, _⟩ | ⟨g, cap, cur, rfl, hg, hh, rest⟩
  · simp [Value.ownBlock] at hk
  · simp only [Value.ownBlock, Option.some.injEq] at hk
    subst hk
    exact hg
theorem OwB.kept (h : OwB w B v l) (hb : ∀ k, v.ownBlock = some k → w'.heap[k]? = w.heap[k]?) : OwB w' B v l := by
  refine ⟨h.1, ?_⟩
  rcases h.2 with h0 | ⟨g, cap, cur, rfl, hg, hh, rest⟩
  · exact .inl h0
  · exact .inr ⟨g, cap, cur, rfl, hg, by rw [hb g rfl]; exact hh, rest⟩
theorem OwB.keep (h : OwB w B v l) (hb : Below w.heap.size w w') : OwB w' B v l := h.kept fun k hk => hb.block k (h.lt hk)
theorem OwB.alloc (h : OwB w B v l) (o : Obj) : OwB (w.alloc o) B v l := h.keep ((Below.refl _ _).alloc (Nat.le_refl _) o)
theorem OwB.drew (h : OwB w B v l) : OwB w.drew B v l := h.keep (Below.refl _ _).drew
theorem OwB.mono {B' : Nat} (h : OwB w B v l) (hB : B' ≤ B) : OwB w B' v l := by
  refine ⟨h.1, h.2.imp id ?_⟩
  rintro ⟨g, cap, cur, a, b, c⟩
  exact ⟨g, cap, cur, a, by omega, c⟩
/-- A block of another type is another block. -/
theorem OwB.ne (h : OwB w B v l) {g : Nat} {t : TypeId} {n : Nat} {F : Nat → Value} (hr : w.rowIs g t n F) (ht : t ≠ 5) : v.ownBlock ≠ some g := by
  intro e
  obtain ⟨c, hc, _⟩ := hr
  rcases h.2 with ⟨rfl, _⟩ | ⟨g', cap, cur, rfl, hg, hh, rest⟩
  · simp [Value.ownBlock] at e
  · simp only [Value.ownBlock, Option.some.injEq] at e
    subst e
    rw [hc] at hh
    injection hh with hh
    injection hh with _ h2 _
    exact ht h2
theorem oneB {l : List UInt8} : ∀ x ∈ l.map bv, x.oneCell' = true := one_bv
theorem OwB.snoc {n : Int} {x : Value} (h : w.ownsRow B 5 1 x (l.map bv ++ #[Value.int .u8 n].toList).length (l.map bv ++ #[Value.int .u8 n].toList)) (b : UInt8) (hb : n = (b.toNat : Int)) : OwB w B x (l ++ [b]) := by
  unfold OwB
  rw [List.map_append, List.map_cons, List.map_nil]
  subst hb
  exact h
theorem OwB.str {n : Nat} {x : Value} {s : ByteArray} (h : w.ownsRow B 5 1 x n (l.map bv ++ Lib.strCells s)) : OwB w B x (l ++ s.data.toList) := by
  have e : l.map bv ++ Lib.strCells s = (l ++ s.data.toList).map bv := by rw [List.map_append]; rfl
  rw [e] at h
  have hn : n = ((l ++ s.data.toList).map bv).length := by have := h.1; omega
  subst hn
  exact h
end
section
variable {P : Program} (w : World)
/-- An append to a row of its own: a row of its own; what else stood stands. -/
theorem run_append_og (B : Nat) (t ty e : TypeId) (i : TypeInfo) (z : Value) (bytes : Nat) (ht : P.underlying t = some (.slice e)) (hi : P.info? e = some i) (hz : i.zero = some z)
    (hsize : i.size = 1) (hby : i.bytes = bytes) (hzs : z.cells.size = 1)
    (v u : Value) (xs news : List Value) (hv : w.ownsRow B e 1 v xs.length xs) (hu : Rd w u news) (h1 : ∀ x ∈ news, x.oneCell' = true)
    (hbytes : (xs.length + news.length) * bytes ≤ 140737488355328) (hmax : xs.length + news.length ≤ maxLen) (hB : B ≤ w.heap.size) :
    ∃ v' w', (Builtin.append_ #[t, t] ty #[v, u]).run P w = .ok v' w' ∧ w'.ownsRow B e 1 v' (xs ++ news).length (xs ++ news) ∧ Below B w w' ∧ w.grownBy w' v.ownBlock := by
  obtain ⟨Au, c, rfl, c1, c2, c3⟩ := hu
  rcases c3 with ⟨rfl, rfl⟩ | ⟨x, rfl, hc⟩
  · obtain rfl : news = [] := List.eq_nil_of_length_eq_zero (by omega)
    exact ⟨v, w, run_append_owned_none w B t ty e i 1 ht hi v _ xs hv, by rw [List.append_nil]; exact hv, Below.refl _ _, ⟨rfl, rfl, rfl, Nat.le_refl _, fun _ _ _ => rfl⟩⟩
  · obtain ⟨v', w', hrun, r1, r2, _⟩ := run_append_own (P := P) w B t ty e i z 1 bytes ht hi hz hsize hby hzs (by omega) v _ xs hv x _ c news (by omega) hc h1 hmax hbytes hB
    refine ⟨v', w', hrun, by rw [List.length_append]; exact r1, (Below.refl _ _).grown r2 hB ?_, r2⟩
    intro k hk
    exact (hv.lt k hk).1
theorem wp_append_og {o : Oper} {a : Act} {K : Act → World → Prop} {Q : Exit → Act → World → Prop} (s x : Operand) (t : TypeId)
    (ho : o.op = .call { callee := .builtin .append, args := #[s, x], argTypes := #[t, t] })
    (B : Nat) (e : TypeId) (i : TypeInfo) (z : Value) (bytes : Nat) (ht : P.underlying t = some (.slice e)) (hi : P.info? e = some i) (hz : i.zero = some z)
    (hsize : i.size = 1) (hby : i.bytes = bytes) (hzs : z.cells.size = 1)
    (v u : Value) (xs news : List Value) (hs : a.eval s = v) (hx : a.eval x = u) (hv : w.ownsRow B e 1 v xs.length xs) (hu : Rd w u news) (h1 : ∀ x ∈ news, x.oneCell' = true)
    (hbytes : (xs.length + news.length) * bytes ≤ 140737488355328) (hmax : xs.length + news.length ≤ maxLen) (hB : B ≤ w.heap.size)
    (h : ∀ v' w', w'.ownsRow B e 1 v' (xs ++ news).length (xs ++ news) → Below B w w' → w.grownBy w' v.ownBlock → K (a.put o.dst v') w') : o.wp P a w K Q := by
  obtain ⟨v', w', hr, h2, h3, h4⟩ := run_append_og (P := P) w B t o.type e i z bytes ht hi hz hsize hby hzs v u xs news hv hu h1 hbytes hmax hB
  unfold Oper.wp execOp
  simp only [ho, resolve, invoke, builtin, Sem.run_bind, Sem.run_pure, Result.andThen_ok, List.map_toArray, List.map_cons, List.map_nil, hs, hx, hr]
  exact h v' w' h2 h3 h4
theorem wpList_append_og {ops : Array Oper} {rest : List Oper} {o : Oper} {a : Act} {Q : Exit → Act → World → Prop} (hgd : o.guard = none) (s x : Operand) (t : TypeId)
    (ho : o.op = .call { callee := .builtin .append, args := #[s, x], argTypes := #[t, t] })
    (B : Nat) (e : TypeId) (i : TypeInfo) (z : Value) (bytes : Nat) (ht : P.underlying t = some (.slice e)) (hi : P.info? e = some i) (hz : i.zero = some z)
    (hsize : i.size = 1) (hby : i.bytes = bytes) (hzs : z.cells.size = 1)
    (v u : Value) (xs news : List Value) (hs : a.eval s = v) (hx : a.eval x = u) (hv : w.ownsRow B e 1 v xs.length xs) (hu : Rd w u news) (h1 : ∀ x ∈ news, x.oneCell' = true)
    (hbytes : (xs.length + news.length) * bytes ≤ 140737488355328) (hmax : xs.length + news.length ≤ maxLen) (hB : B ≤ w.heap.size)
    (h : ∀ v' w', w'.ownsRow B e 1 v' (xs ++ news).length (xs ++ news) → Below B w w' → w.grownBy w' v.ownBlock → wpList P ops Q rest (a.put o.dst v') w') : wpList P ops Q (o :: rest) a w :=
  wpList_plain hgd fun _ hK => wp_append_og w s x t ho B e i z bytes ht hi hz hsize hby hzs v u xs news hs hx hv hu h1 hbytes hmax hB fun v' w' h2 h3 h4 => hK _ _ (h v' w' h2 h3 h4)
end
theorem step_append_og {P : Program} {ops : Array Oper} {o : Oper} {a : Act} {w : World} {K : Act → World → Prop} {Q : Exit → Act → World → Prop} {E : Prop}
    (hgd : o.guard = none) (s x : Operand) (t : TypeId)
    (ho : o.op = .call { callee := .builtin .append, args := #[s, x], argTypes := #[t, t] })
    (B : Nat) (e : TypeId) (i : TypeInfo) (z : Value) (bytes : Nat) (ht : P.underlying t = some (.slice e)) (hi : P.info? e = some i) (hz : i.zero = some z)
    (hsize : i.size = 1) (hby : i.bytes = bytes) (hzs : z.cells.size = 1)
    (v u : Value) (xs news : List Value) (hs : a.eval s = v) (hx : a.eval x = u) (hv : w.ownsRow B e 1 v xs.length xs) (hu : Rd w u news) (h1 : ∀ x ∈ news, x.oneCell' = true)
    (hbytes : (xs.length + news.length) * bytes ≤ 140737488355328) (hmax : xs.length + news.length ≤ maxLen) (hB : B ≤ w.heap.size)
    (h : ∀ v' w', w'.ownsRow B e 1 v' (xs ++ news).length (xs ++ news) → Below B w w' → w.grownBy w' v.ownBlock → K (a.put o.dst v') w') : if Region.wanted o (yielded ops a.tmps) = true then Oper.wp P o a w K Q else E := by
  rw [if_pos (by simp [Region.wanted, hgd])]
  exact wp_append_og w s x t ho B e i z bytes ht hi hz hsize hby hzs v u xs news hs hx hv hu h1 hbytes hmax hB h

end Go.Proofs.Ytejkbibahbcofaa

/-
  Contract of the document's Prefix, over a row of bytes of its own.
-/
namespace Go.Proofs.Ytejkbibahbcofaa
open Go.RowKit
set_option linter.unusedVariables false

/-- The loop's relation: what is still to write. -/
def PrefRelO (G : List UInt8) (bl : List UInt8) (B : Nat) (w : World) (ov xv : Value) (wr : World) : Prop :=
  ∃ (m x : Nat) (l1 : List UInt8), xv = .int .u64 x ∧ x < 18446744073709551616 ∧ x < 128 ^ (m + 1) ∧ m ≤ 9 ∧ l1 ++ cont (m + 1) x = G ∧ l1.length + m ≤ bl.length + 10 ∧ OwB wr B ov l1 ∧ Below B w wr

set_option maxRecDepth 100000 in
set_option maxHeartbeats 1000000 in
theorem refPrefix_own (B : Nat) (bV : Value) (bl : List UInt8) (f : UInt8) (n : Int) (v : Nat) (w : World) (hb : OwB w B bV bl) (hB : B ≤ w.heap.size) (hbl : bl.length ≤ 200000) (hv : v < 18446744073709551616) :
    Calls Try.prog 22 #[bV, .int .u8 f.toNat, .int .i64 n, .int .u64 v] w fun e w' => ∃ v', e = .returned v' ∧ OwB w' B v' (bl ++ pre f (bitsOf n) v) ∧ Below B w w' := by
  obtain ⟨i0, hi, hz, hz1, hz2⟩ := info_parts infoU8n
  have Hi := Lib.hid hi
  have Hz := Lib.hid hz
  have Hz1 := Lib.hid hz1
  have Hz2 := Lib.hid hz2
  clear hi hz hz1 hz2
  
  obtain ⟨hk1, hk8, hkn⟩ := bitsOf_range n
  generalize bitsOf n = k at hk1 hk8 hkn ⊢
  have hM := full_range hk1 hk8
  have hfull : full (min (max n 1) 8) = ((2 ^ k - 1 : Nat) : Int) := by rw [hkn, full_nat]
  have ha := hi_andNot f hk1 hk8
  have hlt := hi_lt f hk1 hk8
  have Hor := Lib.hid (hi_or f hk1 hk8)
  have Hpf := Lib.hid (preFirst_val f hk1 hk8 v)
  have Hpre : Hid (pre f k v = if v < 2 ^ k - 1 then [preFirst f k v] else preFirst f k v :: cont 10 (v - (2 ^ k - 1))) := rfl
  
  have hfw := full_wrap (k : Int) (by omega) (by omega)
  rw [full_nat, Int.toNat_natCast] at hfw
  generalize pre f k v = PL at Hpre ⊢
  generalize preFirst f k v = pf at Hpf Hpre
  generalize hiOf f k = hi at ha hlt Hor Hpf
  generalize 2 ^ k - 1 = M at hM ha hlt Hor Hpf Hpre hfull hfw
  have Hfull := Lib.hid hfull
  clear hfull
  obtain ⟨hM1, hM2⟩ := hM
  
  have horM := Hor.out M (by omega)
  by_cases hvM : v < M
  · have hw8v : IntKind.u8.wrap (v : Int) = (v : Int) := by rw [IntKind.wrap_u8]; omega
    have horv := Hor.out v (by omega)
    have Hf := Hpf.out
    have Hp := Hpre.out
    rw [if_pos hvM] at Hp
    rw [show min v M = v from by omega] at Hf
    subst Hp
    have Hf2 := Lib.hid Hf
    clear Hpf Hpre Hf
    go_enter Try.func22, Try.ntmps22
    go_wp2_with (first
        | (at_builtin
           refine wpList_append_og _ rfl _ _ 24 rfl B 5 i0 (.int .u8 0) 1 Try.underlying24 Hi.out Hz.out Hz1.out Hz2.out rfl _ _ (bl.map bv) _ rfl rfl (hb.alloc _) (Rd.lit w 5 _ 1 rfl (by simp [maxLen])) (by simp [Value.oneCell']) (by simp; omega) (by simp [maxLen]; omega) (by have := hB; simp; omega) ?_
           intro v2 w2 hap2 hb2 _))
    go_ret
    refine ⟨v2, rfl, ?_, (Below.refl B w).trans (((Below.refl _ _).alloc hB _).trans hb2)⟩
    exact OwB.snoc hap2 pf Hf2.out.symm
  · have Hf := Hpf.out
    have Hp := Hpre.out
    rw [if_neg hvM] at Hp
    rw [show min v M = M from by omega] at Hf
    have Hp2 := Lib.hid Hp
    have Hf2 := Lib.hid Hf
    clear Hpf Hpre Hf Hp
    have hsub : IntKind.u64.wrap ((v : Int) - (M : Int)) = ((v - M : Nat) : Int) := by rw [IntKind.wrap_u64]; omega
    go_enter Try.func22, Try.ntmps22
    go_wp2_with (first
        | (at_builtin
           refine wpList_append_og _ rfl _ _ 24 rfl B 5 i0 (.int .u8 0) 1 Try.underlying24 Hi.out Hz.out Hz1.out Hz2.out rfl _ _ (bl.map bv) _ rfl rfl (hb.alloc _) (Rd.lit w 5 _ 1 rfl (by simp [maxLen])) (by simp [Value.oneCell']) (by simp; omega) (by simp [maxLen]; omega) (by have := hB; simp; omega) ?_
           intro v2 w2 hap2 hb2 _))
    have hap3 := OwB.snoc hap2 pf Hf2.out.symm
    have hb3 : Below B w w2 := (Below.refl B w).trans (((Below.refl _ _).alloc hB _).trans hb2)
    clear hap2 hb2
    have hlen3 : (bl ++ [pf]).length = bl.length + 1 := by simp
    have Hgoal : Hid ((bl ++ [pf]) ++ cont 10 (v - M) = bl ++ PL) := by rw [Hp2.out]; simp [Hid]
    have hl1 : (bl ++ [pf]).length ≤ bl.length + 1 := by omega
    clear hlen3
    generalize bl ++ [pf] = l0 at hap3 Hgoal hl1
    have hq : v - M < 128 ^ (9 + 1) := by have : (18446744073709551616 : Nat) ≤ 128 ^ (9 + 1) := by decide
                                          omega
    clear ha horM Hor hsub hvM Hf2 Hfull Hp2
    have hq64 : v - M < 18446744073709551616 := by omega
    generalize v - M = q at hq hq64 Hgoal ⊢
    have Hgoal2 := Lib.hid Hgoal.out
    clear Hgoal
    go_wp2
    go_loopw [0, 3] (fun ov xv wr => PrefRelO (bl ++ PL) bl B w ov xv wr) (fun _ xv _ => (intOf xv).toNat)
    case atStart => exact ⟨9, q, l0, rfl, hq64, hq, by omega, Hgoal2.out, by omega, hap3, hb3⟩
    case round =>
      obtain ⟨m, x, l1, rfl, hxq, hxm, hm9, hG, hl, hap4, hb4⟩ := hrel
      have HG := Lib.hid hG
      clear hG hap3 hb3
      have hxi : (x : Int) < 18446744073709551616 := by omega
      have Hxq := Lib.hid hxq
      have Hxm := Lib.hid hxm
      have Hr0 : Hid (¬ x < 128 → ∃ q, m = q + 1 ∧ x / 128 < 128 ^ (q + 1)) := fun h => pow128 x m hxm (by omega)
      clear hxq hxm hv hq hq64 hxi
      have hsz := hb4.size
      by_cases hx : x < 128
      · have hx' : (x : Int) < 256 := by omega
        go_wp2_with (first
          | (at_builtin
             refine wpList_append_og _ rfl _ _ 24 rfl B 5 i0 (.int .u8 0) 1 Try.underlying24 Hi.out Hz.out Hz1.out Hz2.out rfl _ _ (l1.map bv) _ rfl rfl (hap4.alloc _) (Rd.lit wr 5 _ 1 rfl (by simp [maxLen])) (by simp [Value.oneCell']) (by simp; omega) (by simp [maxLen]; omega) (by have := hb4.size; simp; omega) ?_
             intro v2 w2 hap2 hb2 _))
        go_ret
        have hap5 := OwB.snoc hap2 (UInt8.ofNat x) (by rw [UInt8.toNat_ofNat', Nat.mod_eq_of_lt (by have : (2:Nat) ^ 8 = 256 := rfl; omega)])
        refine ⟨_, rfl, ?_, hb4.trans (((Below.refl _ _).alloc (by have := hb4.size; omega) _).trans hb2)⟩
        rw [← HG.out, cont_last _ _ hx]
        exact hap5
      · obtain ⟨r, rfl, hr⟩ := Hr0.out hx
        have Hr := Lib.hid hr
        clear hr
        have ho := or128 x
        have hand := u64_mask x 7 127 (by rfl) (by omega) Hxq.out
        have ho2 : bits .or .u8 ((x : Int) % 128) 128 = ((x % 128 + 128 : Nat) : Int) := by have h := or128 (x % 128); rw [show (((x % 128 : Nat) : Int) % 256) = (x : Int) % 128 from by omega] at h; rw [h]; omega
        go_wp2_with (first
          | (at_builtin
             refine wpList_append_og _ rfl _ _ 24 rfl B 5 i0 (.int .u8 0) 1 Try.underlying24 Hi.out Hz.out Hz1.out Hz2.out rfl _ _ (l1.map bv) _ rfl rfl (hap4.alloc _) (Rd.lit wr 5 _ 1 rfl (by simp [maxLen])) (by simp [Value.oneCell']) (by simp; omega) (by simp [maxLen]; omega) (by have := hb4.size; simp; omega) ?_
             intro v2 w2 hap2 hb2 _))
        have hap5 := OwB.snoc hap2 (UInt8.ofNat (x % 128 + 128)) (by rw [UInt8.toNat_ofNat', Nat.mod_eq_of_lt (by have : (2:Nat) ^ 8 = 256 := rfl; omega)]; omega)
        clear hap2
        go_roundw
        case rel =>
          refine ⟨r, x / 128, l1 ++ [UInt8.ofNat (x % 128 + 128)], by go_num, by have := Hxq.out; omega, Hr.out, by omega, ?_, by simp; omega, hap5, hb4.trans (((Below.refl _ _).alloc (by have := hb4.size; omega) _).trans hb2)⟩
          rw [← HG.out, cont_more (r + 1) x (by omega), List.append_assoc]
          rfl
        case measure => simp [intOf]; omega

end Go.Proofs.Ytejkbibahbcofaa

/-
  Contracts of the document's HuffLen and Huffman.
-/
namespace Go.Proofs.Ytejkbibahbcofaa
open Go.RowKit
set_option linter.unusedVariables false

set_option maxRecDepth 100000 in
set_option maxHeartbeats 1000000 in
theorem huffLen_any (s : ByteArray) (w : World) (hs : s.size ≤ 1000000) :
    Calls Try.prog 62 #[.string s] w fun e w' => e = .returned (.int .i64 (((bitLen s.data.toList + 7) / 8 : Nat) : Int)) ∧ Below w.heap.size w w' := by
  go_enter Try.func62, Try.ntmps62
  go_wp2_with (go_at_call 47; refine (codes_any _).mono ?_; rintro e w1 ⟨m, rfl, hm, b1⟩)
  have HC := Bx.mk hm
  clear hm
  go_loop [4, 5] (fun t i => ∃ k : Nat, k ≤ s.size ∧ i = .int .i64 k ∧ t = .int .i64 (bitLen (s.data.toList.take k))) (fun _ i => s.size - (intOf i).toNat)
  case atStart => exact ⟨0, Nat.zero_le _, rfl, rfl⟩
  case round =>
    obtain ⟨k, hk, rfl, rfl⟩ := hrel
    have hb := bitLen_le (s.data.toList.take k)
    have hl : (s.data.toList.take k).length ≤ k := List.length_take_le _ _
    by_cases hlt : k < s.size
    · have hx : s[k].toNat < 257 := by have := s[k].toNat_lt; omega
      have hc := (HC.out.cells s[k].toNat hx).2
      have hll := ll_byte s[k]
      have HS := Lib.hid (bitLen_snoc s k hlt)
      go_wp2
      go_round
      case rel => exact ⟨k + 1, by omega, by go_num, by rw [HS.out]; go_num⟩
      case measure => simp [intOf]; omega
    · go_wp2
      go_ret
      have he : s.data.toList.take k = s.data.toList := List.take_of_length_le (by simp; omega)
      refine ⟨hret_int (by rw [he]), b1⟩

theorem y_lt (x m n v : Nat) (hm : m < 8) (hn : n ≤ 30) (hx : x < 2 ^ m) (hv : v < 2 ^ n) : x * 2 ^ n + v < 18446744073709551616 := by
  have h1 : (x + 1) * 2 ^ n ≤ 2 ^ m * 2 ^ n := Nat.mul_le_mul_right _ hx
  rw [Nat.add_mul, Nat.one_mul, ← Nat.pow_add] at h1
  have h2 : (2:Nat) ^ (m + n) ≤ 2 ^ 37 := Nat.pow_le_pow_right (by omega) (by omega)
  have h3 : (2:Nat) ^ 37 < 18446744073709551616 := by decide
  omega
theorem nw_small (x m n v : Nat) (hm : m < 8) (hn : n ≤ 30) (hx : x < 2 ^ m) : hnw x n v = x * 2 ^ n + v := by
  have h := y_lt x m n 0 hm hn hx (Nat.two_pow_pos n)
  unfold hnw
  rw [Nat.mod_eq_of_lt (by omega)]

theorem mask_low (y t : Nat) (hy : y < 18446744073709551616) (ht : t < 8) : bits .and .u64 (y : Int) (IntKind.u64.wrap (IntKind.u64.wrap (2 ^ t) - 1)) = ((y % 2 ^ t : Nat) : Int) := by
  have h1 : IntKind.u64.wrap (IntKind.u64.wrap (2 ^ t) - 1) = ((2 ^ t - 1 : Nat) : Int) := by
    have : t = 0 ∨ t = 1 ∨ t = 2 ∨ t = 3 ∨ t = 4 ∨ t = 5 ∨ t = 6 ∨ t = 7 := by omega
    rcases this with rfl | rfl | rfl | rfl | rfl | rfl | rfl | rfl <;> rfl
  have h2 : (2:Nat) ^ t ≤ 2 ^ 8 := Nat.pow_le_pow_right (by omega) (by omega)
  have h3 : (2:Nat) ^ 8 = 256 := rfl
  rw [h1, u64_and_nat _ _ hy (by omega), Nat.and_two_pow_sub_one_eq_mod]

def RefEncRel (w : World) (s : ByteArray) (G : List UInt8) (o wd n i : Value) (wr : World) : Prop :=
  ∃ (k x m : Nat) (l1 : List UInt8), i = .int .i64 (k : Int) ∧ k ≤ s.size ∧ wd = .int .u64 (x : Int) ∧ n = .int .i64 (m : Int) ∧ m < 8 ∧ x < 2 ^ m ∧
    l1 ++ enc (s.data.toList.drop k) x m = G ∧ ApB wr w.heap.size o l1 ∧ Below w.heap.size w wr

set_option maxRecDepth 100000 in
set_option maxHeartbeats 1000000 in
theorem huffman_any (bV : Value) (l : List UInt8) (s : ByteArray) (w : World) (hb : ∀ (B : Nat) (W : World), Below w.heap.size w W → ApB W B bV l) (hl : l.length ≤ 100000) (hs : s.size ≤ 100000) :
    Calls Try.prog 23 #[bV, .string s] w fun e w' => ∃ v', e = .returned v' ∧ ApB w' w.heap.size v' (l ++ enc s.data.toList 0 0) ∧ Below w.heap.size w w' := by
  obtain ⟨i0, hi, hz, hz1, hz2⟩ := info_parts infoU8
  have Hi := Lib.hid hi
  have Hz := Lib.hid hz
  have Hz1 := Lib.hid hz1
  have Hz2 := Lib.hid hz2
  clear hi hz hz1 hz2
  have HBV := Bx.mk hb
  have hbl := bitLen_le s.data.toList
  have hsl : s.data.toList.length = s.size := by simp
  obtain ⟨G, hGd⟩ : ∃ G, l ++ enc s.data.toList 0 0 = G := ⟨_, rfl⟩
  rw [hGd]
  have hGL : G.length ≤ 500000 := by rw [← hGd, List.length_append, enc_length _ _ _ (by omega)]; omega
  have HGD := Bx.mk hGd
  have HGL := Bx.mk hGL
  clear hb hbl hsl hGd hGL
  go_enter Try.func23, Try.ntmps23
  go_wp2_with (go_at_call 47; refine (codes_any _).mono ?_; rintro e w1 ⟨g, rfl, hm, b1⟩)
  have HC := Bx.mk hm
  have HB1 := Bx.mk b1
  have HGW : Bx (g < w1.heap.size) := ⟨World.rowIs.lt hm⟩
  clear hm b1
  go_loopw [0, 6, 7, 8] (fun o wd n i wr => RefEncRel w1 s G o wd n i wr) (fun _ _ _ i _ => s.size - (intOf i).toNat)
  case atStart => exact ⟨0, 0, 0, l, rfl, by omega, rfl, rfl, by omega, by omega, HGD.out, HBV.out _ _ HB1.out, Below.refl _ _⟩
  case round =>
    obtain ⟨k, x, m, l1, rfl, hk, rfl, rfl, hm, hx, hG1, hap1, hb1⟩ := hrel
    have HX := Bx.mk hx
    have HM := Bx.mk hm
    have HG1 := Bx.mk hG1
    have HAP := Bx.mk hap1
    have HB := Bx.mk hb1
    have hsz := hb1.size
    have hcode := HC.out.keep hb1
    clear hx hG1 hap1 hb1
    by_cases hlt : k < s.size
    · have hck : s[k].toNat < 256 := s[k].toNat_lt
      have hll := ll_byte s[k]
      obtain ⟨hc1, hc2⟩ := hcode.cells s[k].toNat (by omega)
      clear hcode
      have HLB := Bx.mk hll
      obtain ⟨-, hll2, -⟩ := hll
      generalize hcl : ll s[k].toNat = n at hc2 hll2 HLB
      generalize hcc : cw s[k].toNat = v at hc1 HLB
      have HE : Bx (ll s[k].toNat = n ∧ cw s[k].toNat = v) := ⟨hcl, hcc⟩
      clear hcl hcc
      go_wp2
      go_region
      rw [word_or x n v hll2 HLB.out.2.2, nw_small x m n v HM.out hll2 HX.out]
      have HY := Bx.mk (y_lt x m n v HM.out hll2 HX.out HLB.out.2.2)
      have HG2 : Bx (l1 ++ (emit ((m + n) / 8) (x * 2 ^ n + v) (m + n) ++ enc (s.data.toList.drop (k + 1)) ((x * 2 ^ n + v) % 2 ^ ((m + n) % 8)) ((m + n) % 8)) = G) := ⟨by
        have h := HG1.out
        rw [List.drop_eq_getElem_cons (by simpa using hlt)] at h
        have e : enc (s[k] :: s.data.toList.drop (k + 1)) x m = _ := enc.eq_2 ..
        rw [HE.out.1, HE.out.2] at e
        exact (congrArg (l1 ++ ·) e).symm.trans h⟩
      have HAP2 : Bx (ApB (wr.alloc (Obj.cells #[Value.int IntKind.u32 v, Value.int IntKind.i64 n] 100)).drew w1.heap.size u0 l1) := ⟨(HAP.out.alloc _).drew⟩
      have HB2 : Bx (Below w1.heap.size w1 (wr.alloc (Obj.cells #[Value.int IntKind.u32 v, Value.int IntKind.i64 n] 100)).drew) := ⟨(HB.out.alloc hsz _).drew⟩
      have hmn : m + n ≤ 37 := by omega
      clear hc1 hc2 HG1 HAP HB HX HLB HE hck hll2 hsz
      generalize (wr.alloc (Obj.cells #[Value.int IntKind.u32 v, Value.int IntKind.i64 n] 100)).drew = w5 at HAP2 HB2 ⊢
      generalize x * 2 ^ n + v = y at HY HG2 ⊢
      go_wp2
      go_loopw [0, 7] (fun o n' wr' => EmitRel w1 G (enc (s.data.toList.drop (k + 1)) (y % 2 ^ ((m + n) % 8)) ((m + n) % 8)) y ((m + n) % 8) o n' wr') (fun _ n' _ => (intOf n').toNat)
      case atStart => exact ⟨m + n, l1, by go_num, hmn, rfl, HG2.out, HAP2.out, HB2.out⟩
      case round =>
        obtain ⟨t, l2, rfl, ht, ht8, hG2, hap2, hb2⟩ := hrel
        have HT8 := Bx.mk ht8
        have HG3 := Bx.mk hG2
        have HAP3 := Bx.mk hap2
        have HB3 := Bx.mk hb2
        clear ht8 hG2 hap2 hb2 HG2 HAP2 HB2
        have hlen : l2.length ≤ 500000 := by
          have h := congrArg List.length HG3.out
          have h2 := HGL.out
          rw [← h, List.length_append] at h2
          omega
        have hsz := HB3.out.size
        by_cases h8 : 8 ≤ t
        · go_wp2_with (first
            | (at_builtin
               refine wpList_append_ap _ rfl _ _ 24 rfl w1.heap.size 5 i0 (.int .u8 0) 1 Try.underlying24 Hi.out Hz.out Hz1.out Hz2.out rfl _ _ (l2.map bv) _ rfl rfl (HAP3.out.alloc _) (Rd.lit wr 5 _ 1 rfl (by simp [maxLen])) (by simp [Value.oneCell']) (by simp; omega) (by simp [maxLen]; omega) (by simp; omega) ?_
               intro v6 w6 hap6 hb6))
          have HAP6 := Bx.mk (snoc_any hap6 (UInt8.ofNat (y / 2 ^ (t - 8) % 256)) (by rw [← byte_nat (by omega)]; simp))
          have HB6 : Bx (Below w1.heap.size w1 w6) := ⟨HB3.out.trans (((Below.refl _ _).alloc hsz _).trans hb6)⟩
          clear hap6 hb6
          go_wp2
          go_roundw
          case rel =>
            refine ⟨t - 8, l2 ++ [UInt8.ofNat (y / 2 ^ (t - 8) % 256)], by go_num, by omega, by have := HT8.out; omega, ?_, HAP6.out, HB6.out⟩
            have h := HG3.out
            rw [emit_next y t h8] at h
            rw [← h]
            simp
          case measure => simp [intOf]; omega
        · have HG4 : Bx (l2 ++ enc (s.data.toList.drop (k + 1)) (y % 2 ^ t) t = G) := ⟨by
            have h := HG3.out
            rw [emit_done y t (by omega), List.nil_append] at h
            have e := HT8.out
            rw [Nat.mod_eq_of_lt (by omega)] at e
            rw [e]; exact h⟩
          clear HG3 HT8
          have HW := Bx.mk (mask_low y t HY.out (by omega))
          have HL := Bx.mk (Nat.mod_lt y (Nat.two_pow_pos t))
          go_wp2
          go_roundw
          case rel => exact ⟨k + 1, y % 2 ^ t, t, l2, by go_num, by omega, by rw [HW.out], rfl, by omega, HL.out, HG4.out, HAP3.out, HB3.out⟩
          case measure => simp [intOf]; omega
    · clear hcode
      obtain rfl : k = s.size := by omega
      have HG4 : Bx (l1 ++ last (x % 2 ^ m) m = G) := ⟨by
        have h := HG1.out
        rw [List.drop_of_length_le (by simp)] at h
        rw [Nat.mod_eq_of_lt HX.out]
        exact h⟩
      have hlen : l1.length ≤ 500000 := by
        have h := congrArg List.length HG4.out
        have h2 := HGL.out
        rw [← h, List.length_append] at h2
        omega
      clear HG1
      by_cases h0 : 0 < m
      · have hw8 : IntKind.i64.wrap (8 - (m : Int)) = 8 - (m : Int) := by rw [IntKind.wrap_i64]; omega
        have hw0 : (0 : Int) ≤ 8 - (m : Int) := by omega
        have hw9 : (8 - (m : Int)).toNat = 8 - m := by omega
        go_wp2
        go_region_law (refine step_append_ap rfl (.tmp 53) (.tmp 64) 24 rfl w1.heap.size 5 i0 (.int .u8 0) 1 Try.underlying24 Hi.out Hz.out Hz1.out Hz2.out rfl _ _ (l1.map bv) _ rfl rfl (HAP.out.drew.alloc _) (Rd.lit wr.drew 5 _ 1 rfl (by simp [maxLen])) (by simp [Value.oneCell']) (by simp; omega) (by simp [maxLen]; omega) (by simp; omega) ?_; intro v2 w2 hap2 hb2)
        have HAP2 := Bx.mk (snoc_any hap2 (UInt8.ofNat (x % 2 ^ m * 2 ^ (8 - m) + (2 ^ (8 - m) - 1))) (by rw [last_byte x m h0 hm]; exact byte_nat (last_lt x m h0 hm)))
        have HB2 : Bx (Below w1.heap.size w1 w2) := ⟨HB.out.trans (((Below.refl _ _).alloc hsz _).drew.trans hb2)⟩
        clear hap2 hb2
        go_wp2
        go_ret
        refine ⟨_, rfl, ?_, HB1.out.trans (HB2.out.mono HB1.out.size)⟩
        have h := HG4.out
        rw [last, if_neg (by omega)] at h
        rw [← h]
        exact HAP2.out.mono HB1.out.size
      · obtain rfl : m = 0 := by omega
        go_wp2
        go_ret
        refine ⟨_, rfl, ?_, HB1.out.trans (HB.out.mono HB1.out.size)⟩
        have h := HG4.out
        simp only [last, if_true, List.append_nil] at h
        rw [← h]
        exact HAP.out.mono HB1.out.size

end Go.Proofs.Ytejkbibahbcofaa

/-
  Contract of the document's Huffman, over a row of bytes of its own.
-/
namespace Go.Proofs.Ytejkbibahbcofaa
open Go.RowKit
set_option linter.unusedVariables false

def RefEncO (w : World) (B m0 : Nat) (s : ByteArray) (G : List UInt8) (o wd n i : Value) (wr : World) : Prop :=
  ∃ (k x m : Nat) (l1 : List UInt8), i = .int .i64 (k : Int) ∧ k ≤ s.size ∧ wd = .int .u64 (x : Int) ∧ n = .int .i64 (m : Int) ∧ m < 8 ∧ x < 2 ^ m ∧
    l1 ++ enc (s.data.toList.drop k) x m = G ∧ OwB wr B o l1 ∧ Below B w wr ∧ wr.heap[m0]? = w.heap[m0]?
def EmitRelO (w : World) (B m0 : Nat) (G T : List UInt8) (y r : Nat) (o n : Value) (wr : World) : Prop :=
  ∃ (t : Nat) (l1 : List UInt8), n = .int .i64 (t : Int) ∧ t ≤ 37 ∧ t % 8 = r ∧ l1 ++ (emit (t / 8) y t ++ T) = G ∧ OwB wr B o l1 ∧ Below B w wr ∧ wr.heap[m0]? = w.heap[m0]?

set_option maxRecDepth 100000 in
set_option maxHeartbeats 1000000 in
theorem huffman_own (B : Nat) (bV : Value) (l : List UInt8) (s : ByteArray) (w : World) (hb : OwB w B bV l) (hBs : B ≤ w.heap.size) (hl : l.length ≤ 100000) (hs : s.size ≤ 100000) :
    Calls Try.prog 23 #[bV, .string s] w fun e w' => ∃ v', e = .returned v' ∧ OwB w' B v' (l ++ enc s.data.toList 0 0) ∧ Below B w w' := by
  obtain ⟨i0, hi, hz, hz1, hz2⟩ := info_parts infoU8
  have Hi := Lib.hid hi
  have Hz := Lib.hid hz
  have Hz1 := Lib.hid hz1
  have Hz2 := Lib.hid hz2
  clear hi hz hz1 hz2
  have HBV := Bx.mk hb
  have hbl := bitLen_le s.data.toList
  have hsl : s.data.toList.length = s.size := by simp
  obtain ⟨G, hGd⟩ : ∃ G, l ++ enc s.data.toList 0 0 = G := ⟨_, rfl⟩
  rw [hGd]
  have hGL : G.length ≤ 500000 := by rw [← hGd, List.length_append, enc_length _ _ _ (by omega)]; omega
  have HGD := Bx.mk hGd
  have HGL := Bx.mk hGL
  have HBS := Bx.mk hBs
  clear hb hBs hbl hsl hGd hGL
  go_enter Try.func23, Try.ntmps23
  go_wp2_with (go_at_call 47; refine (codes_any _).mono ?_; rintro e w1 ⟨g, rfl, hm, b1⟩)
  have HC := Bx.mk hm
  have HB1 := Bx.mk (b1.mono HBS.out)
  have HS1 : Bx (B ≤ w1.heap.size) := ⟨Nat.le_trans HBS.out b1.size⟩
  have HBV := Bx.mk (HBV.out.keep b1)
  have HGW : Bx (g < w1.heap.size) := ⟨World.rowIs.lt hm⟩
  clear hm b1
  go_loopw [0, 6, 7, 8] (fun o wd n i wr => RefEncO w1 B g s G o wd n i wr) (fun _ _ _ i _ => s.size - (intOf i).toNat)
  case atStart => exact ⟨0, 0, 0, l, rfl, by omega, rfl, rfl, by omega, by omega, HGD.out, HBV.out, Below.refl _ _, rfl⟩
  case round =>
    obtain ⟨k, x, m, l1, rfl, hk, rfl, rfl, hm, hx, hG1, hap1, hb1, hgb⟩ := hrel
    have HX := Bx.mk hx
    have HM := Bx.mk hm
    have HG1 := Bx.mk hG1
    have HAP := Bx.mk hap1
    have HB := Bx.mk hb1
    have hsz : B ≤ wr.heap.size := Nat.le_trans HS1.out hb1.size
    have hcode : CodesAt wr g := World.rowIs.of_block HC.out hgb
    have HGB := Bx.mk hgb
    have HGZ : Bx (g < wr.heap.size) := ⟨Nat.lt_of_lt_of_le HGW.out hb1.size⟩
    clear hx hG1 hap1 hb1 hgb
    by_cases hlt : k < s.size
    · have hck : s[k].toNat < 256 := s[k].toNat_lt
      have hll := ll_byte s[k]
      obtain ⟨hc1, hc2⟩ := hcode.cells s[k].toNat (by omega)
      clear hcode
      have HLB := Bx.mk hll
      obtain ⟨-, hll2, -⟩ := hll
      generalize hcl : ll s[k].toNat = n at hc2 hll2 HLB
      generalize hcc : cw s[k].toNat = v at hc1 HLB
      have HE : Bx (ll s[k].toNat = n ∧ cw s[k].toNat = v) := ⟨hcl, hcc⟩
      clear hcl hcc
      go_wp2
      go_region
      rw [word_or x n v hll2 HLB.out.2.2, nw_small x m n v HM.out hll2 HX.out]
      have HY := Bx.mk (y_lt x m n v HM.out hll2 HX.out HLB.out.2.2)
      have HG2 : Bx (l1 ++ (emit ((m + n) / 8) (x * 2 ^ n + v) (m + n) ++ enc (s.data.toList.drop (k + 1)) ((x * 2 ^ n + v) % 2 ^ ((m + n) % 8)) ((m + n) % 8)) = G) := ⟨by
        have h := HG1.out
        rw [List.drop_eq_getElem_cons (by simpa using hlt)] at h
        have e : enc (s[k] :: s.data.toList.drop (k + 1)) x m = _ := enc.eq_2 ..
        rw [HE.out.1, HE.out.2] at e
        exact (congrArg (l1 ++ ·) e).symm.trans h⟩
      have HAP2 : Bx (OwB (wr.alloc (Obj.cells #[Value.int IntKind.u32 v, Value.int IntKind.i64 n] 100)).drew B u0 l1) := ⟨(HAP.out.alloc _).drew⟩
      have HB2 : Bx (Below B w1 (wr.alloc (Obj.cells #[Value.int IntKind.u32 v, Value.int IntKind.i64 n] 100)).drew) := ⟨(HB.out.alloc hsz _).drew⟩
      have HG5 : Bx ((wr.alloc (Obj.cells #[Value.int IntKind.u32 v, Value.int IntKind.i64 n] 100)).drew.heap[g]? = w1.heap[g]?) := ⟨(((Below.refl wr.heap.size wr).alloc (Nat.le_refl _) (Obj.cells #[Value.int IntKind.u32 v, Value.int IntKind.i64 n] 100)).drew.block g HGZ.out).trans HGB.out⟩
      have hmn : m + n ≤ 37 := by omega
      clear hc1 hc2 HG1 HAP HB HX HLB HE hck hll2 hsz
      generalize (wr.alloc (Obj.cells #[Value.int IntKind.u32 v, Value.int IntKind.i64 n] 100)).drew = w5 at HAP2 HB2 HG5 ⊢
      generalize x * 2 ^ n + v = y at HY HG2 ⊢
      go_wp2
      go_loopw [0, 7] (fun o n' wr' => EmitRelO w1 B g G (enc (s.data.toList.drop (k + 1)) (y % 2 ^ ((m + n) % 8)) ((m + n) % 8)) y ((m + n) % 8) o n' wr') (fun _ n' _ => (intOf n').toNat)
      case atStart => exact ⟨m + n, l1, by go_num, hmn, rfl, HG2.out, HAP2.out, HB2.out, HG5.out⟩
      case round =>
        obtain ⟨t, l2, rfl, ht, ht8, hG2, hap2, hb2, hgb2⟩ := hrel
        have HGB2 := Bx.mk hgb2
        clear hgb2
        have HT8 := Bx.mk ht8
        have HG3 := Bx.mk hG2
        have HAP3 := Bx.mk hap2
        have HB3 := Bx.mk hb2
        clear ht8 hG2 hap2 hb2 HG2 HAP2 HB2
        have hlen : l2.length ≤ 500000 := by
          have h := congrArg List.length HG3.out
          have h2 := HGL.out
          rw [← h, List.length_append] at h2
          omega
        have hsz : B ≤ wr.heap.size := Nat.le_trans HS1.out HB3.out.size
        by_cases h8 : 8 ≤ t
        · go_wp2_with (first
            | (at_builtin
               refine wpList_append_og _ rfl _ _ 24 rfl B 5 i0 (.int .u8 0) 1 Try.underlying24 Hi.out Hz.out Hz1.out Hz2.out rfl _ _ (l2.map bv) _ rfl rfl (HAP3.out.alloc _) (Rd.lit wr 5 _ 1 rfl (by simp [maxLen])) (by simp [Value.oneCell']) (by simp; omega) (by simp [maxLen]; omega) (by simp; omega) ?_
               intro v6 w6 hap6 hb6 hgr6))
          have HAP6 := Bx.mk (OwB.snoc hap6 (UInt8.ofNat (y / 2 ^ (t - 8) % 256)) (by rw [← byte_nat (by omega)]; simp))
          have HB6 : Bx (Below B w1 w6) := ⟨HB3.out.trans (((Below.refl _ _).alloc hsz _).trans hb6)⟩
          have HG6 : Bx (w6.heap[g]? = w1.heap[g]?) := ⟨by
            have hlt : g < wr.heap.size := Nat.lt_of_lt_of_le HGW.out HB3.out.size
            rw [hgr6.block g (by simp; omega) (fun e => HAP3.out.ne (World.rowIs.of_block HC.out HGB2.out) (by decide) e.symm), ((Below.refl wr.heap.size wr).alloc (Nat.le_refl _) _).block g hlt]
            exact HGB2.out⟩
          clear hap6 hb6 hgr6
          go_wp2
          go_roundw
          case rel =>
            refine ⟨t - 8, l2 ++ [UInt8.ofNat (y / 2 ^ (t - 8) % 256)], by go_num, by omega, by have := HT8.out; omega, ?_, HAP6.out, HB6.out, HG6.out⟩
            have h := HG3.out
            rw [emit_next y t h8] at h
            rw [← h]
            simp
          case measure => simp [intOf]; omega
        · have HG4 : Bx (l2 ++ enc (s.data.toList.drop (k + 1)) (y % 2 ^ t) t = G) := ⟨by
            have h := HG3.out
            rw [emit_done y t (by omega), List.nil_append] at h
            have e := HT8.out
            rw [Nat.mod_eq_of_lt (by omega)] at e
            rw [e]; exact h⟩
          clear HG3 HT8
          have HW := Bx.mk (mask_low y t HY.out (by omega))
          have HL := Bx.mk (Nat.mod_lt y (Nat.two_pow_pos t))
          go_wp2
          go_roundw
          case rel => exact ⟨k + 1, y % 2 ^ t, t, l2, by go_num, by omega, by rw [HW.out], rfl, by omega, HL.out, HG4.out, HAP3.out, HB3.out, HGB2.out⟩
          case measure => simp [intOf]; omega
    · clear hcode
      obtain rfl : k = s.size := by omega
      have HG4 : Bx (l1 ++ last (x % 2 ^ m) m = G) := ⟨by
        have h := HG1.out
        rw [List.drop_of_length_le (by simp)] at h
        rw [Nat.mod_eq_of_lt HX.out]
        exact h⟩
      have hlen : l1.length ≤ 500000 := by
        have h := congrArg List.length HG4.out
        have h2 := HGL.out
        rw [← h, List.length_append] at h2
        omega
      clear HG1
      by_cases h0 : 0 < m
      · have hw8 : IntKind.i64.wrap (8 - (m : Int)) = 8 - (m : Int) := by rw [IntKind.wrap_i64]; omega
        have hw0 : (0 : Int) ≤ 8 - (m : Int) := by omega
        have hw9 : (8 - (m : Int)).toNat = 8 - m := by omega
        go_wp2
        go_region_law (refine step_append_og rfl (.tmp 53) (.tmp 64) 24 rfl B 5 i0 (.int .u8 0) 1 Try.underlying24 Hi.out Hz.out Hz1.out Hz2.out rfl _ _ (l1.map bv) _ rfl rfl (HAP.out.drew.alloc _) (Rd.lit wr.drew 5 _ 1 rfl (by simp [maxLen])) (by simp [Value.oneCell']) (by simp; omega) (by simp [maxLen]; omega) (by simp; omega) ?_; intro v2 w2 hap2 hb2 _)
        have HAP2 := Bx.mk (OwB.snoc hap2 (UInt8.ofNat (x % 2 ^ m * 2 ^ (8 - m) + (2 ^ (8 - m) - 1))) (by rw [last_byte x m h0 hm]; exact byte_nat (last_lt x m h0 hm)))
        have HB2 : Bx (Below B w1 w2) := ⟨HB.out.trans (((Below.refl _ _).alloc hsz _).drew.trans hb2)⟩
        clear hap2 hb2
        go_wp2
        go_ret
        refine ⟨_, rfl, ?_, HB1.out.trans HB2.out⟩
        have h := HG4.out
        rw [last, if_neg (by omega)] at h
        rw [← h]
        exact HAP2.out
      · obtain rfl : m = 0 := by omega
        go_wp2
        go_ret
        refine ⟨_, rfl, ?_, HB1.out.trans HB.out⟩
        have h := HG4.out
        simp only [last, if_true, List.append_nil] at h
        rw [← h]
        exact HAP.out

end Go.Proofs.Ytejkbibahbcofaa

/-
  Contracts of num.Var and of the document's Var, Vars.
-/
namespace Go.Proofs.Ytejkbibahbcofaa
open Go.RowKit
set_option linter.unusedVariables false

def uv (x : UInt64) : Value := .int .u64 (x.toNat : Int)
/-- The word that is written for v: its mark above it. -/
def varWord (v : Int) : Int := v + cls v * 2 ^ (8 * (clsLen v).toNat - 2)
def varB (v : Int) : List UInt8 := bes (varWord v) (clsLen v).toNat
def small (x : UInt64) : Prop := x.toNat < 4611686018427387904
instance (x : UInt64) : Decidable (small x) := inferInstanceAs (Decidable (_ < _))
def varsB (l : List UInt64) : List UInt8 := l.flatMap fun x => varB x.toNat

theorem varsB_snoc (l : List UInt64) (k : Nat) (h : k < l.length) : varsB (l.take (k + 1)) = varsB (l.take k) ++ varB (l[k].toNat : Int) := by
  unfold varsB
  rw [List.take_succ_eq_append_getElem h, List.flatMap_append]
  simp

theorem bes_length (v : Int) (n : Nat) : (bes v n).length = n := by
  induction n with
  | zero => rfl
  | succ n ih => simp [bes, ih]

theorem clsLen_le (v : Int) : 0 ≤ clsLen v ∧ clsLen v ≤ 8 := by
  unfold clsLen
  repeat' split
  all_goals omega
theorem clsLen_ne (v : Int) (h0 : 0 ≤ v) (h : v < 4611686018427387904) : (clsLen v == 0) = false := by
  rw [beq_eq_false_iff_ne]
  unfold clsLen
  repeat' split
  all_goals omega
theorem clsLen_eq (v : Int) (h : ¬ v < 4611686018427387904) : (clsLen v == 0) = true := by
  rw [beq_iff_eq]
  unfold clsLen
  repeat' split
  all_goals omega
theorem varB_length (v : Int) : (varB v).length ≤ 8 := by
  have := clsLen_le v
  unfold varB; rw [bes_length]; omega
theorem varsB_length (l : List UInt64) : (varsB l).length ≤ 8 * l.length := by
  induction l with
  | nil => simp [varsB]
  | cons x l ih =>
    have := varB_length (x.toNat : Int)
    simp only [varsB, List.flatMap_cons, List.length_append, List.length_cons] at *
    omega

theorem cls_cases (v : Int) (h0 : 0 ≤ v) (h1 : v < 4611686018427387904) :
    (v < 64 ∧ varB v = bes v 1) ∨ (64 ≤ v ∧ v < 16384 ∧ varB v = bes (v + 16384) 2) ∨ (16384 ≤ v ∧ v < 1073741824 ∧ varB v = bes (v + 2147483648) 4) ∨ (1073741824 ≤ v ∧ varB v = bes (v + 13835058055282163712) 8) := by
  unfold varB varWord cls clsLen
  by_cases c1 : v < 64
  · simp only [if_pos c1]; left; refine ⟨c1, ?_⟩; simp
  by_cases c2 : v < 16384
  · simp only [if_neg c1, if_pos c2]; right; left; exact ⟨by omega, c2, rfl⟩
  by_cases c3 : v < 1073741824
  · simp only [if_neg c1, if_neg c2, if_pos c3]; right; right; left; exact ⟨by omega, c3, rfl⟩
  · simp only [if_neg c1, if_neg c2, if_neg c3, if_pos h1]; right; right; right; exact ⟨by omega, rfl⟩

theorem or_mark (x i k : Nat) (m : Int) (hm : m = ((k * 2 ^ i : Nat) : Int)) (h : x < 2 ^ i) (h2 : k * 2 ^ i + x < 18446744073709551616) : bits .or .u64 m (x : Int) = (x : Int) + m := by
  subst hm
  rw [u64_or_add k x i h h2]
  omega
theorem or_mark' (x i k : Nat) (m : Int) (hm : m = ((k * 2 ^ i : Nat) : Int)) (h : x < 2 ^ i) (h2 : k * 2 ^ i + x < 18446744073709551616) : bits .or .u64 (x : Int) m = (x : Int) + m := by
  subst hm
  rw [u64_or_nat _ _ (by omega) (by omega), Nat.or_comm, or_add k x i h]
  omega

/-- A list of numbers, read. -/
theorem Us.cell {w : World} {b o c L : Nat} {l : List UInt64} (h : Rd w (.slice (some ⟨b, o, none⟩) L c) (l.map uv)) (k : Nat) (hk : k < l.length) : w.cell? ⟨b, o + k, none⟩ = some (.int .u64 (l[k].toNat : Int)) := by
  obtain ⟨b', o', c', e, _, _, _, hc⟩ := Rd.at_ h (by simp; omega)
  injection e with e1 e2 e3
  injection e1 with e1
  injection e1 with e1 e4
  subst e1; subst e4
  exact hc k _ (by simp [hk, uv])
theorem Rd.place {w : World} {A : Option Addr} {L c : Nat} {xs : List Value} (h : Rd w (.slice A L c) xs) (hn : 0 < xs.length) : ∃ b o, A = some ⟨b, o, none⟩ := by
  obtain ⟨b, o, c', hv, -, -, -, -⟩ := h.at_ hn
  injection hv with hA _ _
  exact ⟨b, o, hA⟩
/-- Its value: nil or a place. -/
theorem Us.open_ {w : World} {v : Value} {l : List UInt64} (h : Rd w v (l.map uv)) : ∃ A L c, v = .slice A L c ∧ Hid (L = l.length) ∧ L ≤ c ∧ c ≤ maxLen ∧ L ≤ l.length ∧ l.length ≤ L := by
  obtain ⟨A, c, rfl, h1, h2, h3⟩ := h
  rw [List.length_map] at h1
  exact ⟨A, l.length, c, by rw [List.length_map], rfl, h1, h2, Nat.le_refl _, Nat.le_refl _⟩

def VarPost (w : World) (B : Nat) (bl : List UInt8) (l : List UInt64) (e : Ending) (w' : World) : Prop :=
  ((∀ x ∈ l, small x) ∧ ∃ v', e = .returned (.tuple #[v', .int .i64 0]) ∧ ApB w' B v' (bl ++ varsB l) ∧ Below B w w') ∨
  ((¬ ∀ x ∈ l, small x) ∧ e = .returned (.tuple #[.slice none 0 0, .int .i64 21]) ∧ Below B w w')

end Go.Proofs.Ytejkbibahbcofaa

/-
  Contracts of the document's Var, Vars.
-/
namespace Go.Proofs.Ytejkbibahbcofaa
open Go.RowKit
set_option linter.unusedVariables false

theorem clsLen_at (v : Int) : (v < 64 → clsLen v = 1) ∧ (64 ≤ v → v < 16384 → clsLen v = 2) ∧ (16384 ≤ v → v < 1073741824 → clsLen v = 4) ∧ (1073741824 ≤ v → v < 4611686018427387904 → clsLen v = 8) ∧ (4611686018427387904 ≤ v → clsLen v = 0) := by
  unfold clsLen
  refine ⟨?_, ?_, ?_, ?_, ?_⟩ <;> intros <;> (repeat' split) <;> omega

theorem bes_one (v : Int) (h0 : 0 ≤ v) (h1 : v < 256) : (bes v 1).map bv = [.int .u8 v] := by
  simp only [bes, List.map_cons, List.map_nil, byteAt_val]
  simp
  omega

end Go.Proofs.Ytejkbibahbcofaa

/-
  Plain facts on the numbers' bytes: what is written is read back.
-/
namespace Go.Proofs.Ytejkbibahbcofaa
open Go.RowKit
set_option linter.unusedVariables false

theorem rb_cons_from (l : List UInt8) : ∀ a : Nat, l.foldl (fun v c => v * 256 + c.toNat) a = a * 256 ^ l.length + rb l := by
  induction l with
  | nil => intro a; show a = a * 1 + 0; omega
  | cons c l ih =>
    intro a
    have h0 := ih (0 * 256 + c.toNat)
    show l.foldl (fun v c => v * 256 + c.toNat) (a * 256 + c.toNat) = a * 256 ^ (l.length + 1) + l.foldl (fun v c => v * 256 + c.toNat) (0 * 256 + c.toNat)
    rw [ih, h0, Nat.pow_succ, Nat.zero_mul, Nat.zero_add, Nat.add_mul, Nat.mul_assoc a, Nat.mul_comm 256, Nat.add_assoc]
theorem rb_cons (c : UInt8) (l : List UInt8) : rb (c :: l) = c.toNat * 256 ^ l.length + rb l := by
  have := rb_cons_from l (0 * 256 + c.toNat)
  rw [Nat.zero_mul, Nat.zero_add] at this
  rw [← this]
  show l.foldl (fun v c => v * 256 + c.toNat) (0 * 256 + c.toNat) = _
  rw [Nat.zero_mul, Nat.zero_add]

theorem pow256 (i : Nat) : (2 : Nat) ^ (8 * i) = 256 ^ i := by rw [Nat.pow_mul]
theorem byteAt_nat (v i : Nat) : (byteAt (v : Int) i).toNat = v / 256 ^ i % 256 := by
  have h := byteAt_val (v : Int) i
  unfold bv at h
  injection h with _ h
  rw [← Int.natCast_inj, h, ← pow256, Int.natCast_emod, Int.natCast_ediv, Int.natCast_pow]
  rfl

theorem bes_len (v : Int) (n : Nat) : (bes v n).length = n := bes_length v n

theorem rb_bes (v n : Nat) : rb (bes (v : Int) n) = v % 256 ^ n := by
  induction n with
  | zero => show rb [] = v % 1; rw [Nat.mod_one]; rfl
  | succ n ih =>
    rw [bes, rb_cons, ih, bes_len, byteAt_nat, Nat.pow_succ, Nat.mod_mul]
    rw [Nat.mul_comm, Nat.add_comm]

theorem bes_cons (v : Int) (n : Nat) : bes v (n + 1) = byteAt v n :: bes v n := rfl

/-- A marked number of n bytes is read as it is, whatever stands behind. -/
theorem rv_bes (q n V : Nat) (hq : q < 4) (hn : n = 2 ^ q) (hV : V < 2 ^ (8 * n - 2)) (rest : List UInt8) :
    rv (bes ((V + q * 2 ^ (8 * n - 2) : Nat) : Int) n ++ rest) = ((V : Int), (n : Int), 0) := by
  have hn4 : n = 1 ∧ q = 0 ∨ n = 2 ∧ q = 1 ∨ n = 4 ∧ q = 2 ∨ n = 8 ∧ q = 3 := by
    have : q = 0 ∨ q = 1 ∨ q = 2 ∨ q = 3 := by omega
    rcases this with rfl | rfl | rfl | rfl <;> simp_all
  obtain ⟨m, rfl⟩ : ∃ m, n = m + 1 := ⟨n - 1, by omega⟩
  generalize hW : V + q * 2 ^ (8 * (m + 1) - 2) = W
  have hc : (byteAt (W : Int) m).toNat / 64 = q := by
    rw [byteAt_nat]
    rcases hn4 with ⟨h, rfl⟩ | ⟨h, rfl⟩ | ⟨h, rfl⟩ | ⟨h, rfl⟩ <;> (obtain rfl := Nat.succ.inj h) <;> simp at hV hW ⊢ <;> omega
  have hlen : rvLen (byteAt (W : Int) m) = m + 1 := by unfold rvLen; rw [hc, ← hn]
  rw [bes_cons, List.cons_append, rv_ok _ _ (by rw [hlen]; simp [bes_len]), hlen]
  have htake : (byteAt (W : Int) m :: (bes (W : Int) m ++ rest)).take (m + 1) = bes (W : Int) (m + 1) := by
    rw [List.take_succ_cons, bes_cons, List.take_left' (bes_len _ _)]
  rw [htake, rb_bes]
  refine Prod.ext ?_ rfl
  show ((W % 256 ^ (m + 1) : Nat) : Int) % 2 ^ (8 * (m + 1) - 2) = (V : Int)
  rcases hn4 with ⟨h, rfl⟩ | ⟨h, rfl⟩ | ⟨h, rfl⟩ | ⟨h, rfl⟩ <;> (obtain rfl := Nat.succ.inj h) <;> simp at hV hW ⊢ <;> omega

theorem clsOf (x : Nat) (h : x < 4611686018427387904) : ∃ q n : Nat, q < 4 ∧ n = 2 ^ q ∧ x < 2 ^ (8 * n - 2) ∧ varB (x : Int) = bes ((x + q * 2 ^ (8 * n - 2) : Nat) : Int) n ∧ clsLen (x : Int) = (n : Int) := by
  have hl := clsLen_at (x : Int)
  rcases cls_cases (x : Int) (by omega) (by omega) with ⟨h1, he⟩ | ⟨h0, h1, he⟩ | ⟨h0, h1, he⟩ | ⟨h0, he⟩
  · exact ⟨0, 1, by omega, rfl, by simp; omega, by rw [he]; simp, hl.1 h1⟩
  · exact ⟨1, 2, by omega, rfl, by simp; omega, by rw [he]; simp, hl.2.1 h0 h1⟩
  · exact ⟨2, 4, by omega, rfl, by simp; omega, by rw [he]; simp, hl.2.2.1 h0 h1⟩
  · exact ⟨3, 8, by omega, rfl, by simp; omega, by rw [he]; simp, hl.2.2.2.1 h0 (by omega)⟩

/-- What Var writes is read back, whatever stands behind. -/
theorem rv_varB (x : Nat) (h : x < 4611686018427387904) (rest : List UInt8) : rv (varB (x : Int) ++ rest) = ((x : Int), clsLen (x : Int), 0) ∧ ((varB (x : Int)).length : Int) = clsLen (x : Int) := by
  obtain ⟨q, n, hq, hn, hx, he, hl⟩ := clsOf x h
  rw [he, hl, rv_bes q n x hq hn hx rest, bes_len]
  exact ⟨rfl, rfl⟩

end Go.Proofs.Ytejkbibahbcofaa

/-
  Plain facts on numbers in prefixes: what is written is read back; what is cut off goes on.
-/
namespace Go.Proofs.Ytejkbibahbcofaa
open Go.RowKit
set_option linter.unusedVariables false

theorem pow7 (i : Nat) : (2 : Nat) ^ (7 * (i + 1)) = 2 ^ (7 * i) * 128 := by rw [Nat.mul_add, Nat.pow_add]
theorem split128 (x i : Nat) : x * 2 ^ (7 * i) = x % 128 * 2 ^ (7 * i) + x / 128 * 2 ^ (7 * (i + 1)) := by
  rw [pow7, Nat.mul_comm (2 ^ (7 * i)) 128, ← Nat.mul_assoc, ← Nat.add_mul]
  congr 1
  omega

theorem not_big (u p i : Nat) (h : u + p * 2 ^ (7 * i) ≤ maxVar) : ¬ (maxVar - u) / 2 ^ (7 * i) < p := by
  rw [Nat.not_lt, Nat.le_div_iff_mul_le (Nat.two_pow_pos _)]
  omega

theorem low7 (x : Nat) (h : x < 128) : (UInt8.ofNat x).toNat = x := by
  have h8 : x < 2 ^ 8 := by have : (2:Nat) ^ 8 = 256 := rfl; omega
  rw [UInt8.toNat_ofNat', Nat.mod_eq_of_lt h8]
theorem high7 (x : Nat) : (UInt8.ofNat (x % 128 + 128)).toNat = x % 128 + 128 := by
  have h8 : x % 128 + 128 < 2 ^ 8 := by have : (2:Nat) ^ 8 = 256 := rfl; omega
  rw [UInt8.toNat_ofNat', Nat.mod_eq_of_lt h8]

/-- What is written behind a full prefix is read back, or is too great. -/
theorem rpGo_cont (rest : List UInt8) (m : Nat) : ∀ x i u, x < 128 ^ (m + 1) → i + m ≤ 9 → u ≤ maxVar →
    rpGo (cont (m + 1) x ++ rest) i u = if u + x * 2 ^ (7 * i) ≤ maxVar then (((u + x * 2 ^ (7 * i) : Nat) : Int), ((i + 1 + (cont (m + 1) x).length : Nat) : Int), 0) else (0, 0, 21) := by
  induction m with
  | zero =>
    intro x i u hx hi hu
    have hx' : x < 128 := by simpa using hx
    rw [cont_last _ _ hx', List.singleton_append, rpGo_ans, low7 x hx', Nat.mod_eq_of_lt hx']
    by_cases hs : u + x * 2 ^ (7 * i) ≤ maxVar
    · rw [if_pos hs, rpAns_last _ _ _ _ _ _ (not_big u x i hs) hx' rfl]
      rfl
    · rw [if_neg hs]
      by_cases hb : (maxVar - u) / 2 ^ (7 * i) < x
      · rw [rpAns_big _ _ _ _ _ hb]
      · exact absurd (pfits x u i hu hb) hs
  | succ m ih =>
    intro x i u hx hi hu
    by_cases hx' : x < 128
    · rw [cont_last _ _ hx', List.singleton_append, rpGo_ans, low7 x hx', Nat.mod_eq_of_lt hx']
      by_cases hs : u + x * 2 ^ (7 * i) ≤ maxVar
      · rw [if_pos hs, rpAns_last _ _ _ _ _ _ (not_big u x i hs) hx' rfl]
        rfl
      · rw [if_neg hs]
        by_cases hb : (maxVar - u) / 2 ^ (7 * i) < x
        · rw [rpAns_big _ _ _ _ _ hb]
        · exact absurd (pfits x u i hu hb) hs
    · rw [cont_more _ _ (by omega), List.cons_append, rpGo_ans, high7]
      have e1 : (x % 128 + 128) % 128 = x % 128 := by omega
      rw [e1]
      have hsp := split128 x i
      by_cases hb : (maxVar - u) / 2 ^ (7 * i) < x % 128
      · rw [rpAns_big _ _ _ _ _ hb, if_neg]
        intro hs
        exact not_big u (x % 128) i (by omega) hb
      · have hf := pfits (x % 128) u i hu hb
        rw [rpAns_on _ _ _ _ _ _ hb (by omega) (by omega) rfl, ih (x / 128) (i + 1) _ (by rw [Nat.pow_succ] at hx; omega) (by omega) hf]
        have e2 : u + x % 128 * 2 ^ (7 * i) + x / 128 * 2 ^ (7 * (i + 1)) = u + x * 2 ^ (7 * i) := by omega
        rw [e2]
        have e3 : i + 1 + 1 + (cont (m + 1) (x / 128)).length = i + 1 + (UInt8.ofNat (x % 128 + 128) :: cont (m + 1) (x / 128)).length := by simp only [List.length_cons]; omega
        rw [e3]

/-- What is cut off there goes on. -/
theorem rpGo_cut (m : Nat) : ∀ x i u j, x < 128 ^ (m + 1) → i + m ≤ 9 → u + x * 2 ^ (7 * i) ≤ maxVar → j < (cont (m + 1) x).length →
    rpGo ((cont (m + 1) x).take j) i u = (0, 0, 20) := by
  induction m with
  | zero =>
    intro x i u j hx hi hu hj
    have hx' : x < 128 := by simpa using hx
    rw [cont_last _ _ hx'] at hj ⊢
    obtain rfl : j = 0 := by simpa using hj
    rfl
  | succ m ih =>
    intro x i u j hx hi hu hj
    by_cases hx' : x < 128
    · rw [cont_last _ _ hx'] at hj ⊢
      obtain rfl : j = 0 := by simpa using hj
      rfl
    · rw [cont_more _ _ (by omega)] at hj ⊢
      cases j with
      | zero => rfl
      | succ j =>
        rw [List.take_succ_cons, rpGo_ans, high7]
        have e1 : (x % 128 + 128) % 128 = x % 128 := by omega
        have hsp := split128 x i
        rw [e1, rpAns_on _ _ _ _ _ _ (not_big u (x % 128) i (by omega)) (by omega) (by omega) rfl]
        exact ih (x / 128) (i + 1) _ j (by rw [Nat.pow_succ] at hx; omega) (by omega) (by omega) (by simpa using hj)

theorem preFirst_mod (f : UInt8) (k v : Nat) (h1 : 1 ≤ k) (h8 : k ≤ 8) : (preFirst f k v).toNat % 2 ^ k = min v (2 ^ k - 1) := by
  have h := preFirst_val f h1 h8 v
  have h' : (preFirst f k v).toNat = hiOf f k + min v (2 ^ k - 1) := by omega
  have hp := Nat.two_pow_pos k
  rw [h']
  unfold hiOf
  rw [Nat.mul_comm, Nat.mul_add_mod, Nat.mod_eq_of_lt (by omega)]

theorem pow_128_10 : (18446744073709551616 : Nat) ≤ 128 ^ (9 + 1) := by decide

/-- A number in a prefix is read back, whatever stands behind; or it is too great. -/
theorem rp_pre (f : UInt8) (k v : Nat) (h1 : 1 ≤ k) (h8 : k ≤ 8) (hv : v < 18446744073709551616) (rest : List UInt8) :
    rp k (pre f k v ++ rest) = if v ≤ maxVar then ((v : Int), ((pre f k v).length : Int), 0) else (0, 0, 21) := by
  have hr := full_range h1 h8
  have hm := preFirst_mod f k v h1 h8
  have hp := pow_128_10
  unfold pre
  by_cases hlt : v < 2 ^ k - 1
  · rw [if_pos hlt, List.singleton_append]
    show (if (preFirst f k v).toNat % 2 ^ k < 2 ^ k - 1 then ((((preFirst f k v).toNat % 2 ^ k : Nat) : Int), (1 : Int), (0 : Int)) else rpGo rest 0 ((preFirst f k v).toNat % 2 ^ k)) = _
    rw [hm, show min v (2 ^ k - 1) = v from by omega, if_pos hlt, if_pos (by unfold maxVar; omega)]
    rfl
  · rw [if_neg hlt, List.cons_append]
    show (if (preFirst f k v).toNat % 2 ^ k < 2 ^ k - 1 then _ else rpGo (cont 10 (v - (2 ^ k - 1)) ++ rest) 0 ((preFirst f k v).toNat % 2 ^ k)) = _
    rw [hm, show min v (2 ^ k - 1) = 2 ^ k - 1 from by omega, if_neg (by omega), rpGo_cont rest 9 _ 0 _ (by omega) (by omega) (by unfold maxVar; omega)]
    have e : 2 ^ k - 1 + (v - (2 ^ k - 1)) * 2 ^ (7 * 0) = v := by simp; omega
    rw [e]
    congr 3
    show ((0 + 1 + (cont 10 (v - (2 ^ k - 1))).length : Nat) : Int) = _
    simp only [List.length_cons]
    omega

/-- A number in a prefix that is cut off goes on. -/
theorem rp_cut (f : UInt8) (k v j : Nat) (h1 : 1 ≤ k) (h8 : k ≤ 8) (hv : v ≤ maxVar) (hj : j < (pre f k v).length) : rp k ((pre f k v).take j) = (0, 0, 20) := by
  have hr := full_range h1 h8
  have hm := preFirst_mod f k v h1 h8
  have hp := pow_128_10
  unfold pre at hj ⊢
  by_cases hlt : v < 2 ^ k - 1
  · rw [if_pos hlt] at hj ⊢
    obtain rfl : j = 0 := by simpa using hj
    rfl
  · rw [if_neg hlt] at hj ⊢
    cases j with
    | zero => rfl
    | succ j =>
      rw [List.take_succ_cons]
      show (if (preFirst f k v).toNat % 2 ^ k < 2 ^ k - 1 then _ else rpGo ((cont 10 (v - (2 ^ k - 1))).take j) 0 ((preFirst f k v).toNat % 2 ^ k)) = _
      rw [hm, show min v (2 ^ k - 1) = 2 ^ k - 1 from by omega, if_neg (by omega)]
      exact rpGo_cut 9 _ 0 _ j (by unfold maxVar at hv; omega) (by omega) (by simp; omega) (by simpa using hj)

/-- A number that is cut off goes on. -/
theorem rv_cut (x i : Nat) (h : x < 4611686018427387904) (hi : i < (varB (x : Int)).length) : rv ((varB (x : Int)).take i) = (0, 0, 20) := by
  obtain ⟨q, n, hq, hn, hx, he, hl⟩ := clsOf x h
  rw [he] at hi ⊢
  rw [bes_len] at hi
  cases i with
  | zero => rfl
  | succ i =>
    obtain ⟨m, rfl⟩ : ∃ m, n = m + 1 := ⟨n - 1, by omega⟩
    have hn4 : m + 1 = 1 ∧ q = 0 ∨ m + 1 = 2 ∧ q = 1 ∨ m + 1 = 4 ∧ q = 2 ∨ m + 1 = 8 ∧ q = 3 := by
      have : q = 0 ∨ q = 1 ∨ q = 2 ∨ q = 3 := by omega
      rcases this with rfl | rfl | rfl | rfl <;> simp_all
    generalize hW : x + q * 2 ^ (8 * (m + 1) - 2) = W
    have hc : (byteAt (W : Int) m).toNat / 64 = q := by
      rw [byteAt_nat]
      rcases hn4 with ⟨h, rfl⟩ | ⟨h, rfl⟩ | ⟨h, rfl⟩ | ⟨h, rfl⟩ <;> (obtain rfl := Nat.succ.inj h) <;> simp at hx hW ⊢ <;> omega
    have hlen : rvLen (byteAt (W : Int) m) = m + 1 := by unfold rvLen; rw [hc, ← hn]
    rw [bes_cons, List.take_succ_cons]
    exact rv_more _ _ (by rw [hlen, List.length_cons, List.length_take, bes_len]; omega)

end Go.Proofs.Ytejkbibahbcofaa
