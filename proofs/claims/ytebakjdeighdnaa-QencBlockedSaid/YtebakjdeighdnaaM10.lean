/-
  Texts put together: HgS, OwQ, OwR, OwT, QnE, QnF, QnG, QpC, QpS, QpT.
-/
import Derived.Test.YtebakjdeighdnaaM09
import Derived.Test.YtebakjdeighdnaaM01
import Derived.Test.YtebakjdeighdnaaM08
import Derived.Test.YtebakjdeighdnaaM07
import Derived.Test.YtebakjdeighdnaaM06
import Derived.Test.YtebakjdeighdnaaM03
import Derived.Deep.RegionHeld

/-
  Contract of the document's H3s: where its fields lie.
-/
namespace Go.Proofs.Ytebakjdeighdnaa
open Go.RowKit
set_option linter.unusedVariables false

theorem c3_list : C3.toList = T3.flatMap fvl := by simp [C3]

end Go.Proofs.Ytebakjdeighdnaa

/-
  Contract of the document's Prefix, over a row of bytes of its own.
-/
namespace Go.Proofs.Ytebakjdeighdnaa
open Go.RowKit
set_option linter.unusedVariables false

/-- The loop's relation: what is still to write. -/
def PrefRelN (G : List UInt8) (bl : List UInt8) (B : Nat) (w : World) (ov xv : Value) (wr : World) : Prop :=
  ∃ (m x : Nat) (l1 : List UInt8), xv = .int .u64 x ∧ x < 18446744073709551616 ∧ x < 128 ^ (m + 1) ∧ m ≤ 9 ∧ l1 ++ cont (m + 1) x = G ∧ l1.length + m ≤ bl.length + 10 ∧ OwB wr B ov l1 ∧ Below B w wr ∧ NonB w wr

end Go.Proofs.Ytebakjdeighdnaa

/-
  Contract of the document's Huffman, over a row of bytes of its own.
-/
namespace Go.Proofs.Ytebakjdeighdnaa
open Go.RowKit
set_option linter.unusedVariables false

def RefEncN (w : World) (B m0 : Nat) (s : ByteArray) (G : List UInt8) (o wd n i : Value) (wr : World) : Prop :=
  ∃ (k x m : Nat) (l1 : List UInt8), i = .int .i64 (k : Int) ∧ k ≤ s.size ∧ wd = .int .u64 (x : Int) ∧ n = .int .i64 (m : Int) ∧ m < 8 ∧ x < 2 ^ m ∧
    l1 ++ enc (s.data.toList.drop k) x m = G ∧ OwB wr B o l1 ∧ Below B w wr ∧ wr.heap[m0]? = w.heap[m0]? ∧ NonB w wr
def EmitRelN (w : World) (B m0 : Nat) (G T : List UInt8) (y r : Nat) (o n : Value) (wr : World) : Prop :=
  ∃ (t : Nat) (l1 : List UInt8), n = .int .i64 (t : Int) ∧ t ≤ 37 ∧ t % 8 = r ∧ l1 ++ (emit (t / 8) y t ++ T) = G ∧ OwB wr B o l1 ∧ Below B w wr ∧ wr.heap[m0]? = w.heap[m0]? ∧ NonB w wr

end Go.Proofs.Ytebakjdeighdnaa

/-
  Contract of the document's PutStr, over a row of bytes of its own: what is no row of bytes stands.
-/
namespace Go.Proofs.Ytebakjdeighdnaa
open Go.RowKit
set_option linter.unusedVariables false

end Go.Proofs.Ytebakjdeighdnaa

/-
  The document's Encode of QPACK under way: rows of the call's own by their types; the state between two fields as a word.
-/
namespace Go.Proofs.Ytebakjdeighdnaa
open Go.RowKit Go.Maps
set_option linter.unusedVariables false

/-! ### rows by their types -/
/-- Blocks that are no rows of the type stand. -/
def NonT (ty : TypeId) (w w' : World) : Prop := ∀ (k : Nat) (o : Obj), w.heap[k]? = some o → (∀ (c : Array Value) (z : Nat × Nat), o ≠ Obj.cells c ty z) → w'.heap[k]? = some o
theorem NonT.of_own {w w' : World} {B k n : Nat} {ty : TypeId} {v : Value} {xs : List Value} (h : w.ownsRow B ty k v n xs) (hg : w.grownBy w' v.ownBlock) : NonT ty w w' := fun j o hj ho => by
  rw [hg.block j (Array.getElem?_eq_some_iff.1 hj).1 (fun e => ?_)]
  · exact hj
  · rcases h.2 with ⟨rfl, _⟩ | ⟨g, cap, cur, rfl, _, hh, _⟩
    · simp [Value.ownBlock] at e
    · simp only [Value.ownBlock, Option.some.injEq] at e
      subst e
      rw [hj] at hh
      injection hh with hh
      exact ho _ _ hh
/-- A row of one's own is such a block. -/
theorem own_blk {w : World} {B k n g : Nat} {ty : TypeId} {v : Value} {xs : List Value} (h : w.ownsRow B ty k v n xs) (hg : v.ownBlock = some g) : ∃ c, w.heap[g]? = some (.cells c ty (0, 0)) := by
  rcases h.2 with ⟨rfl, _⟩ | ⟨g', cap, cur, rfl, _, hh, _⟩
  · simp [Value.ownBlock] at hg
  · simp only [Value.ownBlock, Option.some.injEq] at hg
    subst hg
    exact ⟨_, hh⟩
theorem own_kept {w w' : World} {B k n : Nat} {ty : TypeId} {v : Value} {xs : List Value} (h : w.ownsRow B ty k v n xs) (hb : ∀ g, v.ownBlock = some g → w'.heap[g]? = w.heap[g]?) : w'.ownsRow B ty k v n xs := by
  refine ⟨h.1, ?_⟩
  rcases h.2 with h0 | ⟨g, cap, cur, rfl, hg, hh, rest⟩
  · exact .inl h0
  · exact .inr ⟨g, cap, cur, rfl, hg, by rw [hb g rfl]; exact hh, rest⟩
theorem own_nonT {w w' : World} {B k n : Nat} {ty ty' : TypeId} {v : Value} {xs : List Value} (h : w.ownsRow B ty k v n xs) (hn : NonT ty' w w') (ht : ty ≠ ty') : w'.ownsRow B ty k v n xs :=
  own_kept h fun g hg => by
    obtain ⟨c, hc⟩ := own_blk h hg
    rw [hc]
    exact hn g _ hc fun c z e => by injection e with _ e2 _; exact ht e2
section
variable {P : Program} (w : World)
/-- An append to a row of its own, of k cells an element: what else stood stands. -/
theorem run_append_ok (k : Nat) (hk : 0 < k) (B : Nat) (t ty e : TypeId) (i : TypeInfo) (z : Value) (bytes : Nat) (ht : P.underlying t = some (.slice e)) (hi : P.info? e = some i) (hz : i.zero = some z)
    (hsize : i.size = k) (hby : i.bytes = bytes) (hzs : z.cells.size = k)
    (v u : Value) (n m : Nat) (xs news : List Value) (hv : w.ownsRow B e k v n xs) (hu : Rn k w u m news) (h1 : ∀ x ∈ news, x.oneCell' = true)
    (hbytes : (n + m) * bytes ≤ 140737488355328) (hmax : n + m ≤ maxLen) (hB : B ≤ w.heap.size) :
    ∃ v' w', (Builtin.append_ #[t, t] ty #[v, u]).run P w = .ok v' w' ∧ w'.ownsRow B e k v' (n + m) (xs ++ news) ∧ Below B w w' ∧ w.grownBy w' v.ownBlock := by
  have hul := hu.cells
  obtain ⟨Au, c, rfl, c1, c2, c4, c3⟩ := hu
  rcases c3 with ⟨rfl, rfl⟩ | ⟨x, rfl, hc⟩
  · obtain rfl : m = 0 := by omega
    obtain rfl : news = [] := List.eq_nil_of_length_eq_zero (by omega)
    exact ⟨v, w, run_append_owned_none w B t ty e i k ht hi v _ xs hv, by rw [List.append_nil, Nat.add_zero]; exact hv, Below.refl _ _, ⟨rfl, rfl, rfl, Nat.le_refl _, fun _ _ _ => rfl⟩⟩
  · obtain ⟨v', w', hrun, r1, r2, _⟩ := run_append_own (P := P) w B t ty e i z k bytes ht hi hz hsize hby hzs hk v _ xs hv x m c news (by omega) hc h1 hmax hbytes hB
    refine ⟨v', w', hrun, r1, (Below.refl _ _).grown r2 hB ?_, r2⟩
    intro q hq
    exact (hv.lt q hq).1
theorem wp_append_ok (k : Nat) (hk : 0 < k) {o : Oper} {a : Act} {K : Act → World → Prop} {Q : Exit → Act → World → Prop} (s x : Operand) (t : TypeId)
    (ho : o.op = .call { callee := .builtin .append, args := #[s, x], argTypes := #[t, t] })
    (B : Nat) (e : TypeId) (i : TypeInfo) (z : Value) (bytes : Nat) (ht : P.underlying t = some (.slice e)) (hi : P.info? e = some i) (hz : i.zero = some z)
    (hsize : i.size = k) (hby : i.bytes = bytes) (hzs : z.cells.size = k)
    (v u : Value) (n m : Nat) (xs news : List Value) (hs : a.eval s = v) (hx : a.eval x = u) (hv : w.ownsRow B e k v n xs) (hu : Rn k w u m news) (h1 : ∀ x ∈ news, x.oneCell' = true)
    (hbytes : (n + m) * bytes ≤ 140737488355328) (hmax : n + m ≤ maxLen) (hB : B ≤ w.heap.size)
    (h : ∀ v' w', w'.ownsRow B e k v' (n + m) (xs ++ news) → Below B w w' → w.grownBy w' v.ownBlock → K (a.put o.dst v') w') : o.wp P a w K Q := by
  obtain ⟨v', w', hr, h2, h3, h4⟩ := run_append_ok (P := P) w k hk B t o.type e i z bytes ht hi hz hsize hby hzs v u n m xs news hv hu h1 hbytes hmax hB
  unfold Oper.wp execOp
  simp only [ho, resolve, invoke, builtin, Sem.run_bind, Sem.run_pure, Result.andThen_ok, List.map_toArray, List.map_cons, List.map_nil, hs, hx, hr]
  exact h v' w' h2 h3 h4
theorem wpList_append_ok (k : Nat) (hk : 0 < k) {ops : Array Oper} {rest : List Oper} {o : Oper} {a : Act} {Q : Exit → Act → World → Prop} (hgd : o.guard = none) (s x : Operand) (t : TypeId)
    (ho : o.op = .call { callee := .builtin .append, args := #[s, x], argTypes := #[t, t] })
    (B : Nat) (e : TypeId) (i : TypeInfo) (z : Value) (bytes : Nat) (ht : P.underlying t = some (.slice e)) (hi : P.info? e = some i) (hz : i.zero = some z)
    (hsize : i.size = k) (hby : i.bytes = bytes) (hzs : z.cells.size = k)
    (v u : Value) (n m : Nat) (xs news : List Value) (hs : a.eval s = v) (hx : a.eval x = u) (hv : w.ownsRow B e k v n xs) (hu : Rn k w u m news) (h1 : ∀ x ∈ news, x.oneCell' = true)
    (hbytes : (n + m) * bytes ≤ 140737488355328) (hmax : n + m ≤ maxLen) (hB : B ≤ w.heap.size)
    (h : ∀ v' w', w'.ownsRow B e k v' (n + m) (xs ++ news) → Below B w w' → w.grownBy w' v.ownBlock → wpList P ops Q rest (a.put o.dst v') w') : wpList P ops Q (o :: rest) a w :=
  wpList_plain hgd fun _ hK => wp_append_ok w k hk s x t ho B e i z bytes ht hi hz hsize hby hzs v u n m xs news hs hx hv hu h1 hbytes hmax hB fun v' w' h2 h3 h4 => hK _ _ (h v' w' h2 h3 h4)
end

/-! ### the rows of the call -/
def lcl (x : Ql) : List Value := [.int .i64 (x.k : Int), .int .u64 (x.i : Int), .string x.f.1, .string x.f.2]
def OwU (w : World) (B : Nat) (v : Value) (us : List Nat) : Prop := w.ownsRow B 31 1 v us.length (us.map uN)
theorem OwU.nil (w : World) (B : Nat) : OwU w B (.slice none 0 0) [] := World.ownsRow_nil w B _ 1
theorem OwU.un {w : World} {B : Nat} {v : Value} {us : List Nat} (h : OwU w B v us) : Un w v us := Rd.of_own (by unfold OwU at h; rw [List.length_map]; exact h)
end Go.Proofs.Ytebakjdeighdnaa

/-
  The document's Encode of QPACK under way: the state as a word, and what each step does to it.
-/
namespace Go.Proofs.Ytebakjdeighdnaa
open Go.RowKit Go.Maps
set_option linter.unusedVariables false

section
variable {q t : Nat} {E : Qe} {S : Nat → Prop} {w wx wy : World} {fx fy : List (Nat × Array Value)} {iV iV' uV uV' aV aV' : Value} {ins ins' : List UInt8} {us us' : List Nat} {all all' : List Ql}
theorem e8F_6 (t : Nat) (E : Qe) (vO vR : Value) (b : Bool) : ∀ j, j < 7 → (if j = 6 then Value.bool b else e8F t E vO vR j) = e8F t ⟨E.T, E.B, E.K, E.op, E.rest, E.err, b⟩ vO vR j := fun j hj => by
  unfold e8F
  match j, hj with
  | 0, _ => rfl
  | 1, _ => rfl
  | 2, _ => rfl
  | 3, _ => rfl
  | 4, _ => rfl
  | 5, _ => rfl
  | 6, _ => rfl
end
end Go.Proofs.Ytebakjdeighdnaa

/-
  Contract of the document's Prefix of a section, into a row of its own; how long what is written is; what the run keeps.
-/
namespace Go.Proofs.Ytebakjdeighdnaa
open Go.RowKit Go.Maps
set_option linter.unusedVariables false

/-! ### how long -/
theorem putSk_len (f : UInt8) (k : Nat) (s : List UInt8) : (putSk f k s).length ≤ s.length + 11 := by
  have h1 := (pre_len f k s.length).2
  have h2 := (pre_len (hiB f k) k (enc s 0 0).length).2
  have h3 := enc0_length s
  unfold putSk
  split
  · rw [List.length_append]; omega
  · rw [List.length_append]; omega
theorem insW_len (f : Fd) : (insW f).length ≤ fsz f + 22 := by
  have h1 := (pre_len 192 6 (findS T3 f).1).2
  have h2 := putSk_len 64 5 f.1.data.toList
  have h3 := putSk_len 0 7 f.2.data.toList
  have e1 : f.1.data.toList.length = f.1.size := by simp
  have e2 : f.2.data.toList.length = f.2.size := by simp
  unfold insW fsz
  rw [List.length_append]
  split <;> omega
theorem lineW_len (c : Nat) (x : Ql) : (lineW c x).length ≤ fsz x.f + 22 := by
  have h1 := (pre_len 192 6 x.i).2
  have h2 := (pre_len 128 6 (c - 1 - x.i)).2
  have h3 := (pre_len (if secN x.f.1 then 112 else 80) 4 x.i).2
  have h4 := putSk_len (if secN x.f.1 then 48 else 32) 3 x.f.1.data.toList
  have h5 := putSk_len 0 7 x.f.2.data.toList
  have e1 : x.f.1.data.toList.length = x.f.1.size := by simp
  have e2 : x.f.2.data.toList.length = x.f.2.size := by simp
  unfold lineW fsz
  split
  · omega
  · split
    · omega
    · split
      · rw [List.length_append]; omega
      · rw [List.length_append]; omega
theorem qstep_len (op : List Qs) (K : Nat) (free : Bool) (a : Qa) (f : Fd) : (qstep op K free a f).ins.length ≤ a.ins.length + fsz f + 22 ∧ (qstep op K free a f).all.length = a.all.length + 1 ∧ (qstep op K free a f).u.length ≤ a.u.length + 1 ∧ (qstep op K free a f).T.tot ≤ a.T.tot + 1 ∧ (qstep op K free a f).T.cap = a.T.cap := by
  have h1 := insW_len f
  have h2 := a.T.add_tot_le f
  have h3 := a.T.add_cap f
  unfold qstep
  split
  · simp [Qa.line]; omega
  · split
    · simp [Qa.ref]; omega
    · split
      · split
        · simp [Qa.ref, Qa.insd]; omega
        · simp [Qa.line, Qa.insd]; omega
      · simp [Qa.line]; omega
def wsz (l : List Fd) : Nat := (l.map fun f => fsz f + 22).sum
theorem qrun_len (op : List Qs) (K : Nat) (free : Bool) : ∀ (l : List Fd) (a : Qa), (qrun op K free l a).ins.length ≤ a.ins.length + wsz l ∧ (qrun op K free l a).all.length = a.all.length + l.length ∧ (qrun op K free l a).u.length ≤ a.u.length + l.length ∧ (qrun op K free l a).T.tot ≤ a.T.tot + l.length ∧ (qrun op K free l a).T.cap = a.T.cap
  | [], a => by simp [qrun, wsz]
  | f :: l, a => by
    obtain ⟨h1, h2, h3, h4, h5⟩ := qstep_len op K free a f
    obtain ⟨g1, g2, g3, g4, g5⟩ := qrun_len op K free l (qstep op K free a f)
    have e : qrun op K free (f :: l) a = qrun op K free l (qstep op K free a f) := rfl
    rw [e]
    simp only [wsz, List.map_cons, List.sum_cons, List.length_cons] at *
    refine ⟨by omega, by omega, by omega, by omega, by rw [g5, h5]⟩
theorem wsz_take (l : List Fd) (k : Nat) : wsz (l.take k) ≤ wsz l := by
  unfold wsz
  conv => rhs; rw [← List.take_append_drop k l]
  rw [List.map_append, List.sum_append]
  omega
theorem linesW_len (c : Nat) (all : List Ql) : (linesW c all).length ≤ wsz (all.map (·.f)) := by
  unfold linesW wsz
  induction all with
  | nil => simp
  | cons x l ih =>
    have := lineW_len c x
    simp only [List.flatMap_cons, List.length_append, List.map_cons, List.sum_cons]
    omega
theorem linesW_take (c : Nat) (all : List Ql) (k : Nat) (hk : k < all.length) : linesW c (all.take (k + 1)) = linesW c (all.take k) ++ lineW c all[k] := by
  unfold linesW
  rw [List.take_succ_eq_append_getElem hk, List.flatMap_append]
  simp
theorem capW_len (said : Bool) (cap : Nat) : (capW said cap).length ≤ 11 := by
  have := (pre_len 32 5 cap).2
  unfold capW
  split
  · exact this
  · simp
theorem QInv.start {T : Tab} (h : T.gq) (ins : List UInt8) : QInv T.cap ⟨T, ins, [], [], 0⟩ := ⟨h, rfl, fun x hx => absurd hx List.not_mem_nil, fun i hi => absurd hi List.not_mem_nil, .inl rfl⟩
end Go.Proofs.Ytebakjdeighdnaa

/-
  Contracts of the program's number, setCapacity, secret, text, insertion, literal.
-/
namespace Go.Proofs.Ytebakjdeighdnaa
open Go.RowKit
set_option linter.unusedVariables false

set_option maxRecDepth 100000 in
set_option maxHeartbeats 1000000 in
theorem qnumber_any (m : Nat) (f : UInt8) (k : Nat) (hk1 : 1 ≤ k) (hk7 : k ≤ 7) (hf : IntKind.u8.wrap ((m : Int) * 2 ^ k) = (f.toNat : Int)) (v : Nat) (w : World) (hv : v < 18446744073709551616) :
    Calls Try.prog 23 #[.int .u8 (m : Int), .int .i64 (k : Int), .int .u64 (v : Int)] w fun e w' => ∃ v', e = .returned v' ∧ OwB w' w.heap.size v' (pre f k v) ∧ Below w.heap.size w w' := by
  have hshl := shl_u8 k hk7 (m : Int)
  rw [hf] at hshl
  obtain ⟨mi, hmi⟩ : ∃ mi, (m : Int) = mi := ⟨_, rfl⟩
  obtain ⟨fi, hfi⟩ : ∃ fi, (f.toNat : Int) = fi := ⟨_, rfl⟩
  obtain ⟨ki, hki⟩ : ∃ ki, (k : Int) = ki := ⟨_, rfl⟩
  have hbk : bitsOf (k : Int) = k := by unfold bitsOf; omega
  have hc := prefix_own (.slice none 0 0) [] f (k : Int) v w (Rd.nil w) (by simp) hv
  rw [hbk] at hc
  rw [hmi, hki]
  rw [hmi, hki, hfi] at hshl
  rw [hki, hfi] at hc
  have HC := Bx.mk hc
  clear hc hmi hki hfi hk1 hk7 hf hbk hv
  go_enter Try.func23, Try.ntmps23
  go_wp2_with (go_at_call 41; refine HC.out.mono ?_; rintro e w1 ⟨v1, rfl, h1, b1⟩)
  go_ret
  exact ⟨_, rfl, h1, b1⟩
/-- The same, its numbers under letters. -/
theorem qnumber_at (m : Nat) (f : UInt8) (k : Nat) (hk1 : 1 ≤ k) (hk7 : k ≤ 7) (hf : IntKind.u8.wrap ((m : Int) * 2 ^ k) = (f.toNat : Int)) (v : Nat) (M K V : Int) (hM : (m : Int) = M) (hK : (k : Int) = K) (hV : (v : Int) = V) (hv : v < 18446744073709551616) (w : World) :
    Calls Try.prog 23 #[.int .u8 M, .int .i64 K, .int .u64 V] w fun e w' => ∃ v', e = .returned v' ∧ OwB w' w.heap.size v' (pre f k v) ∧ Below w.heap.size w w' := by
  subst hM hK hV
  exact qnumber_any m f k hk1 hk7 hf v w hv

set_option maxRecDepth 100000 in
set_option maxHeartbeats 1000000 in
theorem setCap_any (n : Nat) (w : World) (hn : n ≤ 1000000) :
    Calls Try.prog 21 #[.int .i64 (n : Int)] w fun e w' => ∃ v', e = .returned v' ∧ OwB w' w.heap.size v' (pre 32 5 n) ∧ Below w.heap.size w w' := by
  obtain ⟨N, hN⟩ := letter n
  have hw : IntKind.u64.wrap N = N := u64_keep (by omega) (by omega)
  have HC := Bx.mk (qnumber_at 1 32 5 (by omega) (by omega) (by rfl) n 1 5 N rfl rfl hN (by omega) w)
  rw [hN]
  clear hN hn
  go_enter Try.func21, Try.ntmps21
  go_wp2_with (go_at_call 23; refine HC.out.mono ?_; rintro e w1 ⟨v1, rfl, h1, b1⟩)
  go_ret
  exact ⟨_, rfl, h1, b1⟩

set_option maxRecDepth 100000 in
set_option maxHeartbeats 1000000 in
theorem qsecret_any (n : ByteArray) (w : World) : Calls Try.prog 43 #[.string n] w fun e w' => e = .returned (.bool (secN n)) ∧ w = w' := by
  rw [secN_or]
  rw [sAu_l, sCo_l, sSc_l]
  cases h1 : (n.toList == [97, 117, 116, 104, 111, 114, 105, 122, 97, 116, 105, 111, 110]) with
  | true =>
    go_enter Try.func43, Try.ntmps43
    go_wp2
    go_ret
    exact ⟨rfl, rfl⟩
  | false =>
    cases h2 : (n.toList == [99, 111, 111, 107, 105, 101]) with
    | true =>
      go_enter Try.func43, Try.ntmps43
      go_wp2
      go_ret
      exact ⟨rfl, rfl⟩
    | false =>
      cases h3 : (n.toList == [115, 101, 116, 45, 99, 111, 111, 107, 105, 101]) with
      | true =>
        go_enter Try.func43, Try.ntmps43
        go_wp2
        go_ret
        exact ⟨rfl, rfl⟩
      | false =>
        go_enter Try.func43, Try.ntmps43
        go_wp2
        go_ret
        exact ⟨rfl, rfl⟩

/-- A string as it is written, in its parts: how it is coded, its body. -/
theorem text_parts (f : UInt8) (k : Nat) (s : List UInt8) : ∃ (body : List UInt8) (F f' : UInt8) (c : Nat), c ≤ 1 ∧ F.toNat = 128 * c ∧ putS s = pre F 7 body.length ++ body ∧ putSk f k s = pre f' k body.length ++ body ∧ f' = (if c = 0 then f else hiB f k) ∧ body.length ≤ s.length := by
  unfold putS putSk strH strP
  by_cases h : (bitLen s + 7) / 8 < s.length
  · rw [if_pos h, if_pos h]
    exact ⟨enc s 0 0, 128, hiB f k, 1, Nat.le_refl _, rfl, rfl, rfl, rfl, by rw [enc0_length]; omega⟩
  · rw [if_neg h, if_neg h]
    exact ⟨s, 0, f, 0, Nat.zero_le _, rfl, rfl, rfl, rfl, Nat.le_refl _⟩
theorem pre_head (F : UInt8) (c n : Nat) (hc : c ≤ 1) (hF : F.toNat = 128 * c) (r : List UInt8) : ∃ (h : 0 < (pre F 7 n ++ r).length), (pre F 7 n ++ r)[0].toNat / 128 = c := by
  have hv : (preFirst F 7 n).toNat / 128 = c := by
    unfold preFirst hiOf
    rw [hF, UInt8.toNat_ofNat']
    omega
  unfold pre
  split
  · exact ⟨by simp, by simpa using hv⟩
  · exact ⟨by simp, by simpa using hv⟩
theorem rpAt_any (bV : Value) (l : List UInt8) (n : Int) (k : Nat) (hk : bitsOf n = k) (r : Int × Int × Int) (hr : rp k l = r) (w : World) (hb : Bs w bV l) (hm : l.length ≤ 1000000) :
    Calls Try.prog 35 #[bV, .int .i64 n] w fun e w' => e = .returned (.tuple #[.int .u64 r.1, .int .i64 r.2.1, .int .i64 r.2.2]) ∧ w = w' := by
  subst hk hr
  exact readPrefix_any bV l n w hb hm
theorem or_marks : ∀ m, m < 4 → ∀ c, c < 2 → (2 * m) ||| c = 2 * m + c := by decide +kernel

set_option maxRecDepth 100000 in
set_option maxHeartbeats 2000000 in
theorem text_any (m : Nat) (hm : m ≤ 3) (f : UInt8) (k : Nat) (hk1 : 1 ≤ k) (hk7 : k ≤ 7) (hf0 : IntKind.u8.wrap (((2 * m : Nat) : Int) * 2 ^ k) = (f.toNat : Int)) (hf1 : IntKind.u8.wrap (((2 * m + 1 : Nat) : Int) * 2 ^ k) = ((hiB f k).toNat : Int)) (s : ByteArray) (hs : s.size ≤ 20000) (w : World) :
    Calls Try.prog 48 #[.int .u8 (m : Int), .int .i64 (k : Int), .string s] w fun e w' => ∃ v', e = .returned v' ∧ OwB w' w.heap.size v' (putSk f k s.data.toList) ∧ Below w.heap.size w w' := by
  obtain ⟨body, F, f', c, hc, hF, hput, hput2, hf', hbl⟩ := text_parts f k s.data.toList
  have hsl : s.data.toList.length = s.size := by simp
  have HSTR := Bx.mk (hstr_any (.slice none 0 0) [] s w (Rd.nil w) (by simp) hs)
  rw [List.nil_append, hput] at HSTR
  rw [hput2]
  have hfm : IntKind.u8.wrap (((2 * m + c : Nat) : Int) * 2 ^ k) = (f'.toNat : Int) := by
    rcases Nat.lt_or_ge c 1 with h | h
    · obtain rfl : c = 0 := by omega
      rw [hf', if_pos rfl]; exact hf0
    · obtain rfl : c = 1 := by omega
      rw [hf', if_neg (by omega)]; exact hf1
  have hpl := (pre_len F 7 body.length).2
  have hrp := rp_pre F 7 body.length (by omega) (by omega) (by omega) body
  rw [if_pos (by unfold maxVar; omega)] at hrp
  obtain ⟨h0, hhd⟩ := pre_head F c body.length hc hF body
  have hdrop : (pre F 7 body.length ++ body).drop (pre F 7 body.length).length = body := by simp
  have hlp : (pre F 7 body.length ++ body).length = (pre F 7 body.length).length + body.length := by simp
  obtain ⟨P, hP⟩ : ∃ P, pre F 7 body.length ++ body = P := ⟨_, rfl⟩
  obtain ⟨n, hn⟩ : ∃ n, body.length = n := ⟨_, rfl⟩
  obtain ⟨j, hj⟩ : ∃ j, (pre F 7 n).length = j := ⟨_, rfl⟩
  simp only [hP] at HSTR hrp h0 hhd hdrop hlp
  rw [hn, hj] at hrp hlp
  rw [hn, hj] at hdrop
  rw [hn] at hput2 ⊢
  rw [hn, hj] at hpl
  obtain ⟨N, hN⟩ := letter n
  obtain ⟨J, hJ⟩ := letter j
  obtain ⟨M, hM⟩ := letter m
  obtain ⟨K, hK⟩ := letter k
  obtain ⟨C, hC⟩ := letter c
  obtain ⟨MC, hMC⟩ := letter (2 * m + c)
  have HNUM := Bx.mk (fun W => qnumber_at (2 * m + c) f' k hk1 hk7 hfm n MC K N hMC hK hN (by omega) W)
  have HRP := Bx.mk (fun (bV : Value) (W : World) (hb : Bs W bV P) => rpAt_any bV P 7 7 rfl _ hrp W hb (by omega))
  have hsh1 : IntKind.u8.wrap (M * 2) = ((2 * m : Nat) : Int) := by rw [IntKind.wrap_u8]; omega
  have hor : bits .or .u8 ((2 * m : Nat) : Int) C = MC := by rw [← hC, u8_or_nat _ _ (by omega) (by omega), or_marks m (by omega) c (by omega)]; exact hMC
  obtain ⟨MM, hMM⟩ := letter (2 * m)
  rw [hMM] at hsh1 hor
  simp only [hN, hJ] at HRP
  have hJ0 : 0 ≤ J ∧ J ≤ (P.length : Int) := by omega
  have hJn : J.toNat = j := by omega
  have HP : Bx (P.length ≤ 20100 ∧ 0 < P.length ∧ P.drop j = body ∧ n ≤ 20000 ∧ body.length = n ∧ J.toNat = j ∧ 0 ≤ J ∧ J ≤ (P.length : Int)) := ⟨by omega, h0, hdrop, by omega, hn, hJn, hJ0⟩
  obtain ⟨Z, hZ⟩ := letter P[0].toNat
  have hshr : Z / 128 = C := by omega
  have HZ := Bx.mk hZ
  rw [hM, hK]
  obtain ⟨i0, hi, hz, hz1, hz2⟩ := info_parts infoU8
  have HI : Bx (Try.prog.info? 5 = some i0 ∧ i0.zero = some (.int .u8 0) ∧ i0.size = 1 ∧ i0.bytes = 1) := ⟨hi, hz, hz1, hz2⟩
  have HPL : Bx ((pre f' k n).length ≤ 11) := ⟨(pre_len _ _ _).2⟩
  clear hn hj hN hJ hM hK hC hMC hMM hP hrp hput hput2 hf' hfm hf0 hf1 hhd hdrop hlp hc hF hs hm hk1 hk7 hpl hbl hsl hi hz hz1 hz2 hJ0 hJn
  go_enter Try.func48, Try.ntmps48
  go_wp2_with fail
  refine HSTR.out.mono ?_
  rintro e w1 ⟨v1, rfl, ho1, b1⟩
  have HB1 := Bx.mk ho1.bs
  have HW1 := Bx.mk b1
  obtain ⟨pa, hix, hcs⟩ := HB1.out.at_ 0 h0
  have e0 := hcs w1 HB1.out
  rw [HZ.out] at e0
  rw [show ((0 : Nat) : Int) = 0 from rfl] at hix
  obtain ⟨v4, hfrom, hbs⟩ := HB1.out.from_ J HP.out.2.2.2.2.2.2.1 HP.out.2.2.2.2.2.2.2
  have HFROM := Bx.mk hbs
  clear ho1 b1 hcs hbs hZ HSTR
  go_wp2_with (go_at_call 35; refine (HRP.out _ _ HB1.out).mono ?_; rintro e w2 ⟨rfl, rfl⟩)
  clear e0 hix
  go_region_law (first
    | (refine step_append_og rfl (.tmp 30) (.tmp 33) 28 rfl w1.heap.size 5 i0 (.int .u8 0) 1 Try.underlying28 HI.out.1 HI.out.2.1 HI.out.2.2.1 HI.out.2.2.2 rfl _ _ _ _ rfl rfl ho3 (HFROM.out _ (HB1.out.keep hbd)) one_bv (by have h1 := HPL.out; have h2 := HP.out; simp only [List.length_map, List.length_drop] at *; omega) (by have h1 := HPL.out; have h2 := HP.out; simp only [List.length_map, List.length_drop, maxLen] at *; omega) hbd.size ?_; intro v5 w5 ho5 hb5 hg5)
    | (go_simp; go_at_call 23; refine (HNUM.out _).mono ?_; rintro e w3 ⟨v3, rfl, ho3, b3⟩; have hbd := ((Below.refl w1.heap.size w1).drew).trans b3))
  go_wp2_with fail
  go_ret
  refine ⟨_, rfl, ?_, ?_⟩
  · have := OwB.cat ho5
    rw [HP.out.2.2.2.2.2.1, HP.out.2.2.1] at this
    exact this.mono HW1.out.size
  · exact HW1.out.trans ((hbd.trans hb5).mono HW1.out.size)

end Go.Proofs.Ytebakjdeighdnaa

/-
  Contracts of the encoder's hasRoom and mayInsert.
-/
namespace Go.Proofs.Ytebakjdeighdnaa
open Go.RowKit Go.Maps
set_option linter.unusedVariables false

theorem i64_keep {x : Int} (h1 : -4611686018427387904 ≤ x) (h2 : x ≤ 4611686018427387904) : wrap64 x = x ∧ IntKind.i64.wrap x = x := by
  refine ⟨?_, ?_⟩
  · unfold wrap64; omega
  · rw [IntKind.wrap_i64]; omega
/-- May an entry not go, told by how many sections use it? -/
def pinC (K : Nat) (c : Nat → Nat) (a : Nat) : Bool := decide (K ≤ a) || decide (0 < c a)
section
variable {q p : Nat} {X : Qc} {Z : World → Prop} {w w' : World} {S : Nat → Prop} {c : Nat → Nat}
set_option maxRecDepth 100000 in
set_option maxHeartbeats 4000000 in
theorem hasRoom_any (h : Raw q p X Z w S) (hc : X.gU = useF c) (n : Nat) (hn : n ≤ X.T.cap) (hgq : X.T.gq) (hcb : ∀ a, c a ≤ 1000000000) :
    Calls Try.prog 44 #[.pointer (some ⟨q, 0, none⟩), .int .i64 (n : Int)] w fun e w' => e = .returned (.bool (roomGo X.T.cap n (pinC X.K c) X.T.l X.T.first)) ∧ Below w.heap.size w w' := by
  have hok := h.ok
  obtain ⟨bs, bq, bu, bb, vR, S1, S2, h, _⟩ := h
  have hX0 : ∀ W, Below w.heap.size w W → W.cell? ⟨q, 0, none⟩ = some (.pointer (some ⟨p, 0, none⟩)) := fun W hW => (h.keep hW).cells.1
  have HCS := Bx.mk (fun (W : World) (hW : Below w.heap.size w W) => (h.keep hW).cells)
  have HLU := Bx.mk (fun (W : World) (hW : Below w.heap.size w W) (i : Nat) (hi : okU i) => (h.keep hW).lookU hc hi)
  have HTB := Bx.mk (fun (W : World) (hW : Below w.heap.size w W) => (Wd.tb _ _).keep h.tb hW)
  have hb0 := (Below.refl w.heap.size w).drew
  have hsz := hgq.size
  have hcap : X.T.cap ≤ 1000000 := hok.cap
  have htot : X.T.tot ≤ 1000000 := hok.tot
  have hlt := hok.len
  obtain ⟨cap, hcp⟩ : ∃ cap, X.T.cap = cap := ⟨_, rfl⟩
  obtain ⟨tot, htt⟩ : ∃ tot, X.T.tot = tot := ⟨_, rfl⟩
  obtain ⟨K, hK⟩ : ∃ K, X.K = K := ⟨_, rfl⟩
  have hfirst : X.T.first = tot - X.T.l.length := by rw [← htt]; rfl
  obtain ⟨fr, hfr⟩ : ∃ fr, X.T.first = fr := ⟨_, rfl⟩
  have HSIZE := Bx.mk (fun (W : World) (hW : Below w.heap.size w W) => size_any' (HTB.out W hW))
  have HCAP : Bx (∀ W, Below w.heap.size w W → Calls Try.prog 20 #[.pointer (some ⟨p, 0, none⟩)] W fun e w' => e = .returned (.int .i64 (cap : Int)) ∧ Below W.heap.size W w') := ⟨fun W hW => by rw [← hcp]; exact cap_any (HTB.out W hW)⟩
  have HCNT : Bx (∀ W, Below w.heap.size w W → Calls Try.prog 26 #[.pointer (some ⟨p, 0, none⟩)] W fun e w' => e = .returned (.int .u64 (tot : Int)) ∧ Below W.heap.size W w') := ⟨fun W hW => by rw [← htt]; exact count_any (HTB.out W hW)⟩
  have HLEN := Bx.mk (fun (W : World) (hW : Below w.heap.size w W) => dlen_any (HTB.out W hW))
  have HAT : Bx (∀ (W : World) (hW : Below w.heap.size w W) (i : Nat) (hi : i < 18446744073709551616), Calls Try.prog 61 #[.pointer (some ⟨p, 0, none⟩), .int .u64 (i : Int)] W fun e w' => e = .returned (.tuple #[aggF (entF X.T.l fr i), .bool (isF X.T.l fr i)]) ∧ Below W.heap.size W w') := ⟨fun W hW i hi => by rw [← hfr]; exact at_any (HTB.out W hW) i hi⟩
  rw [hcp] at hn hsz hcap
  rw [hcp, hK, hfr]
  rw [htt] at htot hlt
  rw [hfr] at hfirst
  simp only [hK] at HCS
  generalize X.T.l = l at HSIZE HLEN HAT hsz hlt hfirst ⊢
  obtain ⟨L, hL⟩ : ∃ L, l.length = L := ⟨_, rfl⟩
  rw [hL] at HLEN hlt hfirst
  obtain ⟨s0, hs0⟩ : ∃ s0, sizeF l = s0 := ⟨_, rfl⟩
  rw [hs0] at HSIZE hsz
  have q1 : -4611686018427387904 ≤ (s0 : Int) + (n : Int) ∧ (s0 : Int) + (n : Int) ≤ 4611686018427387904 ∧ -4611686018427387904 ≤ (s0 : Int) + (n : Int) - (cap : Int) ∧ (s0 : Int) + (n : Int) - (cap : Int) ≤ 4611686018427387904 := by omega
  have q2 : (0 : Int) ≤ (L : Int) ∧ (L : Int) < 18446744073709551616 ∧ (0 : Int) ≤ (tot : Int) - (L : Int) ∧ (tot : Int) - (L : Int) < 18446744073709551616 ∧ (tot : Int) - (L : Int) = (fr : Int) := by omega
  obtain ⟨hw1, hw1'⟩ := i64_keep q1.1 q1.2.1
  obtain ⟨hv2, hv2'⟩ := i64_keep q1.2.2.1 q1.2.2.2
  have hw3 : IntKind.u64.wrap (L : Int) = (L : Int) := u64_keep q2.1 q2.2.1
  have hw4 : IntKind.u64.wrap ((tot : Int) - (L : Int)) = (fr : Int) := by rw [u64_keep q2.2.2.1 q2.2.2.2.1]; exact q2.2.2.2.2
  clear q1 q2
  have HNUM : Bx (n ≤ cap ∧ s0 ≤ cap ∧ cap ≤ 1000000 ∧ tot ≤ 1000000 ∧ L ≤ tot ∧ fr = tot - L ∧ l.length = L ∧ sizeF l = s0) := ⟨hn, hsz, hcap, htot, hlt, hfirst, hL, hs0⟩
  have HCB := Bx.mk hcb
  obtain ⟨SN, hSN⟩ : ∃ SN : Int, (s0 : Int) + (n : Int) = SN := ⟨_, rfl⟩
  obtain ⟨OV, hOV⟩ : ∃ OV : Int, SN - (cap : Int) = OV := ⟨_, rfl⟩
  rw [hSN] at hw1 hv2 hw1' hv2'
  have hw2' : IntKind.i64.wrap (SN - (cap : Int)) = OV := hv2'.trans hOV
  have hw2 : wrap64 (SN - (cap : Int)) = OV := hv2.trans hOV
  clear hv2 hv2'
  obtain ⟨R, hR⟩ : ∃ R, roomGo cap n (pinC K c) l fr = R := ⟨_, rfl⟩
  have HR := Bx.mk hR
  rw [hR]
  have HOV : Bx ((s0 : Int) + (n : Int) - (cap : Int) = OV) := ⟨by rw [hSN]; exact hOV⟩
  have hs1 : (s0 : Int) + (n : Int) = SN := hSN
  clear h hc hn hgq hok hcb hcp htt hK hfr hL hs0 hcap htot hlt hfirst hsz hOV hR
  go_enter Try.func44, Try.ntmps44
  go_upto_region 1 with fail
  go_cut [5] from 10 to 22 (fun s5 wx => s5 = .int .i64 OV ∧ Bx (Below w.heap.size w wx))
  case first =>
    go_region_held (fun W => Below w.heap.size w W) (first | assumption) (first
      | (go_at_call 60; refine (HSIZE.out _ (by assumption)).mono ?_; rintro e w3 ⟨rfl, hb3⟩; have hS3 := below_next (by assumption) hb3)
      | (go_at_call 20; refine (HCAP.out _ (by assumption)).mono ?_; rintro e w3 ⟨rfl, hb3⟩; have hS3 := below_next (by assumption) hb3))
    all_goals go_wp2_with fail
    all_goals go_meet
    all_goals exact ⟨rfl, ⟨hS3⟩⟩
  case rest =>
    obtain ⟨rfl, HB1⟩ := hcut
    clear hb0 hw1 hw2 hw1' hw2' HSIZE HCAP hs1 hSN
    go_upto_region 2 with fail
    go_cut [6] from 23 to 34 (fun s6 wx => s6 = .int .u64 (fr : Int) ∧ Bx (Below w.heap.size w wx))
    case first =>
      have hb1 := HB1.out.drew
      go_region_held (fun W => Below w.heap.size w W) (first | assumption) (first
        | (go_at_call 26; refine (HCNT.out _ (by assumption)).mono ?_; rintro e w3 ⟨rfl, hb3⟩; have hS3 := below_next (by assumption) hb3)
        | (go_at_call 11; refine (HLEN.out _ (by assumption)).mono ?_; rintro e w3 ⟨rfl, hb3⟩; have hS3 := below_next (by assumption) hb3))
      all_goals go_wp2_with fail
      all_goals go_meet
      all_goals exact ⟨rfl, ⟨hS3⟩⟩
    case rest =>
      clear HB1
      obtain ⟨rfl, HB2⟩ := hcut
      clear hw3 hw4 HCNT HLEN
      go_wp2_with fail
      go_loopg [5, 7] L (fun gk s5 s7 wx => ∃ (k : Nat) (O : Int), k + gk = L ∧ s7 = .int .u64 ((fr + k : Nat) : Int) ∧ s5 = .int .i64 O ∧ Bx ((sizeF (l.drop k) : Int) + (n : Int) - (cap : Int) = O) ∧ Bx (roomGo cap n (pinC K c) (l.drop k) (fr + k) = R) ∧ Bx (Below w.heap.size w wx))
      case atStart => exact ⟨0, OV, by omega, rfl, rfl, ⟨by rw [List.drop_zero, HNUM.out.2.2.2.2.2.2.2]; exact HOV.out⟩, ⟨HR.out⟩, HB2⟩
      case round =>
        obtain ⟨k, O, hkg, rfl, rfl, HO, HRK, HB⟩ := hrel
        clear HB2
        by_cases hO : O > 0
        · have hd : decide (O > 0) = true := decide_eq_true hO
          have hkL : k < L := by
            refine Nat.lt_of_not_le fun hge => ?_
            have h1 := HO.out
            have h2 := HNUM.out
            rw [List.drop_of_length_le (by omega)] at h1
            have h3 : ((sizeF ([] : List Fd) : Nat) : Int) = 0 := rfl
            omega
          cases gk with
          | zero => exact absurd hkL (by omega)
          | succ g =>
            have hkl : k < l.length := by have := HNUM.out.2.2.2.2.2.2.1; omega
            have hdk : l.drop k = l[k] :: l.drop (k + 1) := List.drop_eq_getElem_cons hkl
            have hroom := HRK.out
            rw [hdk] at hroom
            unfold roomGo at hroom
            rw [if_pos (by have h1 := HO.out; rw [hdk] at h1; omega)] at hroom
            have HRM := Bx.mk hroom
            have hent : entF l fr (fr + k) = l[k] := by
              unfold entF
              rw [dif_pos ⟨by omega, by omega⟩]
              simp only [Nat.add_sub_cancel_left]
            have hsum : (sizeF (l.drop k) : Int) = (fsz l[k] + 32 : Nat) + (sizeF (l.drop (k + 1)) : Int) := by rw [hdk]; simp only [sizeF]; omega
            have hszk : sizeF (l.drop k) ≤ 1000000 := by
              have h1 : ∀ (l : List Fd) (k : Nat), sizeF (l.drop k) ≤ sizeF l := fun l => by
                induction l with
                | nil => intro k; simp [sizeF]
                | cons x l ih =>
                  intro k
                  cases k with
                  | zero => exact Nat.le_refl _
                  | succ k => have := ih k; simp only [List.drop_succ_cons, sizeF]; omega
              have := h1 l k
              have := HNUM.out
              omega
            have hat := HAT.out
            obtain ⟨pl, hpl⟩ : ∃ pl, fr + k = pl := ⟨_, rfl⟩
            have hplb : pl ≤ 1000000 := by have := HNUM.out; omega
            obtain ⟨f1, hf1⟩ : ∃ f1, l[k].1 = f1 := ⟨_, rfl⟩
            obtain ⟨f2, hf2⟩ : ∃ f2, l[k].2 = f2 := ⟨_, rfl⟩
            have hlk : l[k] = (f1, f2) := by rw [← hf1, ← hf2]
            obtain ⟨nz, hnz⟩ : ∃ nz, fsz l[k] + 32 = nz := ⟨_, rfl⟩
            have hnzb : nz ≤ 1000000 := by rw [hnz] at hsum; omega
            have HATK : Bx (∀ W : World, Below w.heap.size w W → Calls Try.prog 61 #[.pointer (some ⟨p, 0, none⟩), .int .u64 (pl : Int)] W fun e w' => (∃ b, e = .returned (.tuple #[.agg #[.string f1, .string f2], .bool b])) ∧ Below W.heap.size W w') := ⟨fun W hW => by
              refine (HAT.out W hW pl (by omega)).mono ?_
              rintro e w' ⟨rfl, hb⟩
              exact ⟨⟨isF l fr pl, by rw [← hpl, hent, hlk]; rfl⟩, hb⟩⟩
            have HSZK : Bx (∀ (W : World) (u : Value), Fs W u [(f1, f2)] → Calls Try.prog 42 #[u] W fun e w' => e = .returned (.int .i64 (nz : Int)) ∧ Below W.heap.size W w') := ⟨fun W u hu => by
              have h1 : sizeF [(f1, f2)] = nz := by rw [← hnz, hlk]; simp [sizeF]
              rw [← h1]
              exact size_any u [(f1, f2)] W hu (by rw [h1]; omega)⟩
            obtain ⟨c0, _, _, c3, _, _, c6, _⟩ := HCS.out wr HB.out
            have hlu := HLU.out wr HB.out pl (by unfold okU; omega)
            have hcb := HCB.out pl
            rw [hpl] at hroom
            rw [hpl] at HRM
            have hrv : R = (if pinC K c pl then false else roomGo cap n (pinC K c) (l.drop (k + 1)) (pl + 1)) := HRM.out.symm
            have HPL := Bx.mk hpl
            have HNZ : Bx ((sizeF (l.drop k) : Int) = (nz : Int) + (sizeF (l.drop (k + 1)) : Int)) := ⟨by rw [hsum, hnz]⟩
            have hO2 : -4611686018427387904 ≤ O - (nz : Int) ∧ O - (nz : Int) ≤ 4611686018427387904 := by have := HO.out; have := HNUM.out; omega
            have HO2 := Bx.mk (i64_keep hO2.1 hO2.2)
            obtain ⟨O', hO'⟩ : ∃ O', O - (nz : Int) = O' := ⟨_, rfl⟩
            have hwO : IntKind.i64.wrap (O - (nz : Int)) = O' := HO2.out.2.trans hO'
            have hwO2 : wrap64 (O - (nz : Int)) = O' := HO2.out.1.trans hO'
            have HOO : Bx ((sizeF (l.drop (k + 1)) : Int) + (n : Int) - (cap : Int) = O') := ⟨by have := HO.out; have := HNZ.out; omega⟩
            have HNX : Bx (pinC K c pl = false → roomGo cap n (pinC K c) (l.drop (k + 1)) (fr + (k + 1)) = R) := ⟨fun hp => by rw [hrv, hp, ← Nat.add_assoc, HPL.out]; rfl⟩
            have HYES : Bx (pinC K c pl = true → R = false) := ⟨fun hp => by rw [hrv, hp]; rfl⟩
            obtain ⟨pl1, hpl1⟩ : ∃ pl1, pl + 1 = pl1 := ⟨_, rfl⟩
            have hwp : IntKind.u64.wrap ((pl : Int) + 1) = (pl1 : Int) := by rw [u64_keep (by omega) (by omega)]; omega
            have HPL1 : Bx (fr + (k + 1) = pl1) := ⟨by omega⟩
            simp only [hpl]
            obtain ⟨cc, hcc⟩ : ∃ cc, c pl = cc := ⟨_, rfl⟩
            rw [hcc] at hlu
            have hpin : pinC K c pl = (decide (K ≤ pl) || decide (0 < cc)) := by unfold pinC; rw [hcc]
            rw [hpin] at HNX HYES
            obtain ⟨CC, hCC⟩ := letter cc
            rw [hCC] at hlu
            obtain ⟨PL, hPL⟩ := letter pl
            rw [hPL] at hlu hwp
            simp only [hPL] at HATK
            simp only [hPL]
            obtain ⟨KK, hKK⟩ := letter K
            rw [hKK] at c3
            clear hroom hat hent hsum hszk hpl hf1 hf2 hlk hnz hcb HRM hrv hO2 HO2 hO' hpl1 hcc hpin hdk hkl hO
            by_cases hp1 : K ≤ pl
            · have hd1 : decide (PL ≥ KK) = true := decide_eq_true (by omega)
              have HF := Bx.mk (HYES.out (by rw [decide_eq_true hp1]; rfl))
              clear hp1 HNX HYES hPL hKK hCC hplb hnzb
              go_wp2_with fail
              go_ret
              rw [HF.out]
              exact ⟨rfl, HB.out⟩
            · have hd1 : decide (PL ≥ KK) = false := decide_eq_false (by omega)
              by_cases hp2 : 0 < cc
              · have hd2 : decide (CC > 0) = true := decide_eq_true (by omega)
                have HF := Bx.mk (HYES.out (by rw [decide_eq_true hp2, Bool.or_true]))
                clear hp1 hp2 HNX HYES hPL hKK hCC hplb hnzb
                go_wp2_with fail
                go_ret
                rw [HF.out]
                exact ⟨rfl, HB.out⟩
              · have hd2 : decide (CC > 0) = false := decide_eq_false (by omega)
                have HF := Bx.mk (HNX.out (by rw [decide_eq_false hp1, decide_eq_false hp2]; rfl))
                clear hp1 hp2 HNX HYES hPL hKK hCC hplb hnzb
                go_wp2_with (first
                  | (go_at_call 61; refine (HATK.out _ HB.out).mono ?_; rintro e w3 ⟨⟨bb2, rfl⟩, hb3⟩; have HB3 := Bx.mk (HB.out.trans (hb3.mono HB.out.size)); clear hb3))
                refine (HSZK.out _ _ (Fs.one (w3.alloc (.cells #[.string f1, .string f2] 35)) (w3.heap.size + 1) (by simp) (f1, f2))).mono ?_
                rintro e w4 ⟨rfl, hb4⟩
                have b2 := ((Below.refl w3.heap.size w3).alloc (Nat.le_refl _) (.cells #[.string f1, .string f2] 35)).alloc (Nat.le_trans (Nat.le_succ _) (by simp)) (.cells #[.string f1, .string f2] 35)
                have HB4 := Bx.mk (HB3.out.trans ((b2.trans (hb4.mono b2.size)).mono HB3.out.size))
                clear hb4 b2
                go_wp2_with fail
                go_roundg g
                case measure => omega
                case rel => exact ⟨k + 1, O', by omega, by rw [HPL1.out], rfl, HOO, HF, HB4⟩
        · have hd : decide (O > 0) = false := decide_eq_false hO
          have HF : Bx (R = true) := ⟨by
            rw [← HRK.out]
            have h1 := HO.out
            cases hl : l.drop k with
            | nil => rfl
            | cons x r =>
              unfold roomGo
              rw [if_neg]
              rw [hl] at h1
              omega⟩
          go_wp2_with fail
          go_ret
          rw [HF.out]
          exact ⟨rfl, HB.out⟩
end
end Go.Proofs.Ytebakjdeighdnaa

/-
  Contract of the encoder's mayInsert.
-/
namespace Go.Proofs.Ytebakjdeighdnaa
open Go.RowKit Go.Maps
set_option linter.unusedVariables false

/-- May a field be inserted? -/
def roomC (K : Nat) (c : Nat → Nat) (T : Tab) (f : Fd) : Bool := !secN f.1 && (decide (fsz f + 32 ≤ T.cap / 4) && roomGo T.cap (fsz f + 32) (pinC K c) T.l T.first)
section
variable {q p : Nat} {X : Qc} {Z : World → Prop} {w w' : World} {S : Nat → Prop} {c : Nat → Nat}
set_option maxRecDepth 100000 in
set_option maxHeartbeats 4000000 in
theorem mayInsert_any (h : Raw q p X Z w S) (hc : X.gU = useF c) (hgq : X.T.gq) (hcb : ∀ a, c a ≤ 1000000000) (f : Fd) (hf : fsz f ≤ 100000) :
    Calls Try.prog 25 #[.pointer (some ⟨q, 0, none⟩), .agg #[.string f.1, .string f.2]] w fun e w' => e = .returned (.bool (roomC X.K c X.T f)) ∧ Below w.heap.size w w' := by
  have hcap : X.T.cap ≤ 1000000 := h.ok.cap
  have HROOM := Bx.mk (fun (W : World) (hW : Below w.heap.size w W) (n : Nat) (hn : n ≤ X.T.cap) => hasRoom_any ((Wd.raw _ _ _ _).keep h hW) hc n hn hgq hcb)
  obtain ⟨bs, bq, bu, bb, vR, S1, S2, h, _⟩ := h
  have hX0 : ∀ W, Below w.heap.size w W → W.cell? ⟨q, 0, none⟩ = some (.pointer (some ⟨p, 0, none⟩)) := fun W hW => (h.keep hW).cells.1
  have HCAP := Bx.mk (fun (W : World) (hW : Below w.heap.size w W) => cap_any ((Wd.tb _ _).keep h.tb hW))
  have hroom : roomC X.K c X.T f = (!secN f.1 && (decide (fsz f + 32 ≤ X.T.cap / 4) && roomGo X.T.cap (fsz f + 32) (pinC X.K c) X.T.l X.T.first)) := rfl
  obtain ⟨R, hR⟩ : ∃ R, roomC X.K c X.T f = R := ⟨_, rfl⟩
  obtain ⟨cap, hcp⟩ : ∃ cap, X.T.cap = cap := ⟨_, rfl⟩
  obtain ⟨n, hn⟩ : ∃ n, fsz f + 32 = n := ⟨_, rfl⟩
  rw [hR, hcp, hn] at hroom
  rw [hR]
  simp only [hcp] at HROOM HCAP
  rw [hcp] at hcap
  obtain ⟨RG, hRG⟩ : ∃ RG, roomGo cap n (pinC X.K c) X.T.l X.T.first = RG := ⟨_, rfl⟩
  rw [hRG] at hroom
  have HRM : Bx (n ≤ cap → ∀ W : World, Below w.heap.size w W → Calls Try.prog 44 #[.pointer (some ⟨q, 0, none⟩), .int .i64 (n : Int)] W fun e w' => e = .returned (.bool RG) ∧ Below W.heap.size W w') := ⟨fun hle W hW => by rw [← hRG]; exact HROOM.out W hW n hle⟩
  clear HROOM
  have HB0 := Bx.mk ((Below.refl w.heap.size w).alloc (Nat.le_refl _) (.cells #[.string f.1, .string f.2] 35))
  have HF0 := Bx.mk (Fb.new 35 w f)
  obtain ⟨f1, f2⟩ := f
  simp only at HB0 HF0 hroom ⊢
  have hs1 : sizeF [(f1, f2)] = n := by rw [← hn]; simp [sizeF]
  have HSZ : Bx (∀ (W : World) (u : Value), Fs W u [(f1, f2)] → Calls Try.prog 42 #[u] W fun e w' => e = .returned (.int .i64 (n : Int)) ∧ Below W.heap.size W w') := ⟨fun W u hu => by rw [← hs1]; exact size_any u [(f1, f2)] W hu (by omega)⟩
  have HSEC := Bx.mk (fun W => qsecret_any f1 W)
  obtain ⟨sc, hsc⟩ : ∃ sc, secN f1 = sc := ⟨_, rfl⟩
  rw [hsc] at HSEC hroom
  have hnb : n ≤ 200000 := by omega
  obtain ⟨w1, hw1⟩ : ∃ w1, w.alloc (.cells #[.string f1, .string f2] 35) = w1 := ⟨_, rfl⟩
  rw [hw1] at HB0 HF0
  obtain ⟨g, hg⟩ : ∃ g, w.heap.size = g := ⟨_, rfl⟩
  rw [hg] at HF0
  obtain ⟨e1, e2⟩ := HF0.out.cells
  simp only at e1 e2
  have HB1 := Bx.mk ((Below.refl w1.heap.size w1).alloc (Nat.le_refl _) (.cells #[.string f1, .string f2] 35))
  have HFS := Bx.mk (Fs.one w1 _ rfl (f1, f2))
  clear h hc hgq hcb hf hR hcp hn hRG hs1 hsc
  obtain ⟨CAP, hCAP⟩ := letter cap
  obtain ⟨NN, hNN⟩ := letter n
  simp only [hCAP] at HCAP
  simp only [hNN] at HSZ HRM
  cases sc with
  | true =>
    simp only [Bool.not_true, Bool.false_and] at hroom
    subst hroom
    clear hCAP hNN hcap hnb
    go_enter Try.func25, Try.ntmps25
    go_wp2_with (go_at_call 42; refine (HSZ.out _ _ HFS.out).mono ?_; rintro e w3 ⟨rfl, hb3⟩; have HB3 := Bx.mk (HB0.out.trans ((HB1.out.trans (hb3.mono HB1.out.size)).mono HB0.out.size)); have HF3 := Bx.mk ((HF0.out.keep HB1.out).keep hb3); obtain ⟨k1, k2⟩ := HF3.out.cells; have k0 := hX0 w3 HB3.out; clear hb3)
    go_wp2_with (go_at_call 43; refine (HSEC.out _).mono ?_; rintro e w9 ⟨rfl, rfl⟩)
    go_ret
    exact ⟨rfl, HB3.out⟩
  | false =>
    simp only [Bool.not_false, Bool.true_and] at hroom
    by_cases hle : n ≤ cap / 4
    · rw [decide_eq_true hle, Bool.true_and] at hroom
      subst hroom
      have hd : decide (NN ≤ CAP / 4) = true := decide_eq_true (by omega)
      have HRM2 := Bx.mk (HRM.out (by omega))
      clear hCAP hNN hcap hnb hle HRM
      go_enter Try.func25, Try.ntmps25
      go_wp2_with (go_at_call 42; refine (HSZ.out _ _ HFS.out).mono ?_; rintro e w3 ⟨rfl, hb3⟩; have HB3 := Bx.mk (HB0.out.trans ((HB1.out.trans (hb3.mono HB1.out.size)).mono HB0.out.size)); have HF3 := Bx.mk ((HF0.out.keep HB1.out).keep hb3); obtain ⟨k1, k2⟩ := HF3.out.cells; have k0 := hX0 w3 HB3.out; clear hb3)
      go_wp2_with (first
        | (go_at_call 43; refine (HSEC.out _).mono ?_; rintro e w9 ⟨rfl, rfl⟩)
        | (go_at_call 20; refine (HCAP.out _ HB3.out).mono ?_; rintro e w4 ⟨rfl, hb4⟩; have HB4 := Bx.mk (HB3.out.trans (hb4.mono HB3.out.size)); clear hb4)
        | (go_at_call 44; refine (HRM2.out _ HB4.out).mono ?_; rintro e w5 ⟨rfl, hb5⟩; have HB5 := Bx.mk (HB4.out.trans (hb5.mono HB4.out.size)); clear hb5))
      go_ret
      exact ⟨rfl, HB5.out⟩
    · rw [decide_eq_false hle, Bool.false_and] at hroom
      subst hroom
      have hd : decide (NN ≤ CAP / 4) = false := decide_eq_false (by omega)
      clear hCAP hNN hcap hnb hle HRM
      go_enter Try.func25, Try.ntmps25
      go_wp2_with (go_at_call 42; refine (HSZ.out _ _ HFS.out).mono ?_; rintro e w3 ⟨rfl, hb3⟩; have HB3 := Bx.mk (HB0.out.trans ((HB1.out.trans (hb3.mono HB1.out.size)).mono HB0.out.size)); have HF3 := Bx.mk ((HF0.out.keep HB1.out).keep hb3); obtain ⟨k1, k2⟩ := HF3.out.cells; have k0 := hX0 w3 HB3.out; clear hb3)
      go_wp2_with (first
        | (go_at_call 43; refine (HSEC.out _).mono ?_; rintro e w9 ⟨rfl, rfl⟩)
        | (go_at_call 20; refine (HCAP.out _ HB3.out).mono ?_; rintro e w4 ⟨rfl, hb4⟩; have HB4 := Bx.mk (HB3.out.trans (hb4.mono HB3.out.size)); clear hb4))
      go_ret
      exact ⟨rfl, HB4.out⟩
end
end Go.Proofs.Ytebakjdeighdnaa
