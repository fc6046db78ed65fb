/-
  Append to bytes that may be appended to: whatever is no row of bytes stands; the document's Big so.
-/
import Derived.Test.YtcakppdabolfiaaOwN
import Derived.Test.YtcakppdabolfiaaNumB
import Derived.Maps.AppendAt
namespace Go.Proofs.Ytcakppdabolfiaa
open Go.RowKit
set_option linter.unusedVariables false

theorem nonB_own {w w' : World} {B : Nat} {v : Value} {xs : List Value} (h : w.ownsRow B 5 1 v xs.length xs) (hg : w.grownBy w' v.ownBlock) : NonB w w' := fun k o hk ho => by
  rw [hg.block k (Array.getElem?_eq_some_iff.1 hk).1 (fun e => ?_)]
  · exact hk
  · rcases h.2 with ⟨rfl, _⟩ | ⟨g, cap, cur, rfl, _, hh, _⟩
    · simp [Value.ownBlock] at e
    · simp only [Value.ownBlock, Option.some.injEq] at e
      subst e
      rw [hk] at hh
      injection hh with hh
      exact ho _ _ hh
section
variable {P : Program} (w : World)

theorem run_append_apn (B : Nat) (t ty : TypeId) (i : TypeInfo) (z : Value) (bytes : Nat) (ht : P.underlying t = some (.slice 5)) (hi : P.info? 5 = some i) (hz : i.zero = some z)
    (hsize : i.size = 1) (hby : i.bytes = bytes) (hzs : z.cells.size = 1)
    (v u : Value) (xs news : List Value) (hv : Ap w B 5 v xs) (hu : Rd w u news) (h1 : ∀ x ∈ news, x.oneCell' = true)
    (hbytes : (xs.length + news.length) * bytes ≤ 140737488355328) (hmax : xs.length + news.length ≤ maxLen) (hB : B ≤ w.heap.size) :
    ∃ v' w', (Builtin.append_ #[t, t] ty #[v, u]).run P w = .ok v' w' ∧ Ap w' B 5 v' (xs ++ news) ∧ Below B w w' ∧ NonB w w' := by
  rcases hv with hv | ⟨⟨A, rfl⟩, hr⟩
  · obtain ⟨Au, c, rfl, c1, c2, c3⟩ := hu
    rcases c3 with ⟨rfl, rfl⟩ | ⟨x, rfl, hc⟩
    · obtain rfl : news = [] := List.eq_nil_of_length_eq_zero (by omega)
      exact ⟨v, w, run_append_owned_none w B t ty 5 i 1 ht hi v _ xs hv, by rw [List.append_nil]; exact .inl hv, Below.refl _ _, NonB.refl _⟩
    · obtain ⟨v', w', hrun, r1, r2, _, r3⟩ := run_append_own_at (P := P) w B t ty 5 i z 1 bytes ht hi hz hsize hby hzs (by omega) v _ xs hv x _ c news (by omega) hc h1 hmax hbytes hB
      refine ⟨v', w', hrun, .inl (by rw [List.length_append]; exact r1), (Below.refl _ _).grown r2 hB fun k hk => (hv.lt k hk).1, nonB_own hv r2⟩
  · by_cases hn : news.length = 0
    · obtain rfl : news = [] := List.eq_nil_of_length_eq_zero hn
      obtain ⟨Au, c, rfl, c1, c2, c3⟩ := hu
      refine ⟨.slice A xs.length xs.length, w, ?_, by rw [List.append_nil]; exact .inr ⟨⟨A, rfl⟩, hr⟩, Below.refl _ _, NonB.refl _⟩
      have hr2 := hr
      obtain ⟨A', c', hv', _, _, h3⟩ := hr2
      injection hv' with hA _ hc'
      subst hA; subst hc'
      rcases h3 with ⟨rfl, h0⟩ | ⟨x, rfl, _⟩
      · rcases c3 with ⟨rfl, rfl⟩ | ⟨y, rfl, _⟩ <;> simp [Builtin.append_, run_underlying ht, sizeOf, typeInfo, hi, Builtin.lenOf, Builtin.firstCells, h0, loadCells, loadCellsFrom]
      · rcases c3 with ⟨rfl, rfl⟩ | ⟨y, rfl, _⟩ <;> simp [Builtin.append_, run_underlying ht, sizeOf, typeInfo, hi, Builtin.lenOf, Builtin.firstCells, storeCells, loadCells, loadCellsFrom]
    · obtain ⟨b, o, c, rfl, c1, c2, _, hcu⟩ := hu.at_ (by omega)
      obtain ⟨A', c', hv', _, _, h3⟩ := hr
      injection hv' with hA _ hc'
      subst hA; subst hc'
      rcases h3 with ⟨rfl, h0⟩ | ⟨x, rfl, hcx⟩
      · obtain rfl : xs = [] := List.eq_nil_of_length_eq_zero (by omega)
        obtain ⟨v', w', hrun, r1, r2, _, r3⟩ := run_append_own_at (P := P) w B t ty 5 i z 1 bytes ht hi hz hsize hby hzs (by omega) (.slice none 0 0) 0 [] (World.ownsRow_nil w B 5 1) ⟨b, o, none⟩ news.length c news (by omega) (by simpa only [Addr.add_lit] using hcu) h1 (by simpa using hmax) (by simpa using hbytes) hB
        exact ⟨v', w', hrun, .inl (by rw [List.length_append]; exact r1), (Below.refl _ _).grown r2 hB (by simp [Value.ownBlock]), NonB.of_below ((Below.refl _ _).grown r2 (Nat.le_refl _) (by simp [Value.ownBlock]))⟩
      · obtain ⟨v', w', hrun, r1, r2⟩ := run_append_arg_grows (P := P) w t ty 5 i z 1 bytes ht hi hz hsize hby hzs (by omega) x xs.length xs.length xs (by omega) hcx ⟨b, o, none⟩ news.length c news (by omega) (by simpa only [Addr.add_lit] using hcu) (by omega) hmax hbytes
        refine ⟨v', w', hrun, Ap.mono (B := w.heap.size) (.inl (by rw [List.length_append]; exact r1)) hB, ((Below.refl _ _).grown r2 (Nat.le_refl _) (by simp)).mono hB, NonB.of_below ((Below.refl _ _).grown r2 (Nat.le_refl _) (by simp))⟩

theorem wp_append_apn {o : Oper} {a : Act} {K : Act → World → Prop} {Q : Exit → Act → World → Prop} (s x : Operand) (t : TypeId)
    (ho : o.op = .call { callee := .builtin .append, args := #[s, x], argTypes := #[t, t] })
    (B : Nat) (i : TypeInfo) (z : Value) (bytes : Nat) (ht : P.underlying t = some (.slice 5)) (hi : P.info? 5 = some i) (hz : i.zero = some z)
    (hsize : i.size = 1) (hby : i.bytes = bytes) (hzs : z.cells.size = 1)
    (v u : Value) (xs news : List Value) (hs : a.eval s = v) (hx : a.eval x = u) (hv : Ap w B 5 v xs) (hu : Rd w u news) (h1 : ∀ x ∈ news, x.oneCell' = true)
    (hbytes : (xs.length + news.length) * bytes ≤ 140737488355328) (hmax : xs.length + news.length ≤ maxLen) (hB : B ≤ w.heap.size)
    (h : ∀ v' w', Ap w' B 5 v' (xs ++ news) → Below B w w' → NonB w w' → K (a.put o.dst v') w') : o.wp P a w K Q := by
  obtain ⟨v', w', hr, h2, h3, h4⟩ := run_append_apn (P := P) w B t o.type i z bytes ht hi hz hsize hby hzs v u xs news hv hu h1 hbytes hmax hB
  unfold Oper.wp execOp
  simp only [ho, resolve, invoke, builtin, Sem.run_bind, Sem.run_pure, Result.andThen_ok, List.map_toArray, List.map_cons, List.map_nil, hs, hx, hr]
  exact h v' w' h2 h3 h4

theorem wpList_append_apn {ops : Array Oper} {rest : List Oper} {o : Oper} {a : Act} {Q : Exit → Act → World → Prop} (hgd : o.guard = none) (s x : Operand) (t : TypeId)
    (ho : o.op = .call { callee := .builtin .append, args := #[s, x], argTypes := #[t, t] })
    (B : Nat) (i : TypeInfo) (z : Value) (bytes : Nat) (ht : P.underlying t = some (.slice 5)) (hi : P.info? 5 = some i) (hz : i.zero = some z)
    (hsize : i.size = 1) (hby : i.bytes = bytes) (hzs : z.cells.size = 1)
    (v u : Value) (xs news : List Value) (hs : a.eval s = v) (hx : a.eval x = u) (hv : Ap w B 5 v xs) (hu : Rd w u news) (h1 : ∀ x ∈ news, x.oneCell' = true)
    (hbytes : (xs.length + news.length) * bytes ≤ 140737488355328) (hmax : xs.length + news.length ≤ maxLen) (hB : B ≤ w.heap.size)
    (h : ∀ v' w', Ap w' B 5 v' (xs ++ news) → Below B w w' → NonB w w' → wpList P ops Q rest (a.put o.dst v') w') : wpList P ops Q (o :: rest) a w :=
  wpList_plain hgd fun _ hK => wp_append_apn w s x t ho B i z bytes ht hi hz hsize hby hzs v u xs news hs hx hv hu h1 hbytes hmax hB fun v' w' h2 h3 h4 => hK _ _ (h v' w' h2 h3 h4)
end

/-- append as one step of a region that draws its order. -/
theorem step_append_apn {P : Program} {ops : Array Oper} {o : Oper} {a : Act} {w : World} {K : Act → World → Prop} {Q : Exit → Act → World → Prop} {E : Prop}
    (hgd : o.guard = none) (s x : Operand) (t : TypeId)
    (ho : o.op = .call { callee := .builtin .append, args := #[s, x], argTypes := #[t, t] })
    (B : Nat) (i : TypeInfo) (z : Value) (bytes : Nat) (ht : P.underlying t = some (.slice 5)) (hi : P.info? 5 = some i) (hz : i.zero = some z)
    (hsize : i.size = 1) (hby : i.bytes = bytes) (hzs : z.cells.size = 1)
    (v u : Value) (xs news : List Value) (hs : a.eval s = v) (hx : a.eval x = u) (hv : Ap w B 5 v xs) (hu : Rd w u news) (h1 : ∀ x ∈ news, x.oneCell' = true)
    (hbytes : (xs.length + news.length) * bytes ≤ 140737488355328) (hmax : xs.length + news.length ≤ maxLen) (hB : B ≤ w.heap.size)
    (h : ∀ v' w', Ap w' B 5 v' (xs ++ news) → Below B w w' → NonB w w' → K (a.put o.dst v') w') : if Region.wanted o (yielded ops a.tmps) = true then Oper.wp P o a w K Q else E := by
  rw [if_pos (by simp [Region.wanted, hgd])]
  exact wp_append_apn w s x t ho B i z bytes ht hi hz hsize hby hzs v u xs news hs hx hv hu h1 hbytes hmax hB h

set_option maxHeartbeats 400000 in
theorem refBig_apn (B : Nat) (bV : Value) (l : List UInt8) (v n : Int) (w : World) (hb : ApB w B bV l) (hB : B ≤ w.heap.size) (hl : l.length ≤ 1000000) (hv0 : 0 ≤ v) (hv1 : v < 18446744073709551616) :
    Calls Try.prog 54 #[bV, .int .u64 v, .int .i64 n] w fun e w' => ∃ v', e = .returned v' ∧ ApB w' B v' (l ++ bes v (min (max n 0) 8).toNat) ∧ Below B w w' ∧ NonB w w' := by
  obtain ⟨m, hm⟩ := Int.eq_ofNat_of_zero_le (show 0 ≤ min (max n 0) 8 by omega)
  have hm8 : m ≤ 8 := by omega
  obtain ⟨i0, hi, hz, hz1, hz2⟩ := info_parts infoU8n
  have Hi := Lib.hid hi
  have Hz := Lib.hid hz
  have Hz1 := Lib.hid hz1
  have Hz2 := Lib.hid hz2
  clear hi hz hz1 hz2
  rw [hm, Int.toNat_natCast]
  go_enter Try.func54, Try.ntmps54
  go_wp2
  go_loopw [0, 7] (fun b i wr => ∃ (k : Nat) (l1 : List UInt8), i = .int .i64 ((k : Int) - 1) ∧ k ≤ m ∧ l1.length + k ≤ l.length + m ∧ l1 ++ bes v k = l ++ bes v m ∧ ApB wr B b l1 ∧ Below B w wr ∧ NonB w wr) (fun _ i _ => (intOf i + 1).toNat)
  case atStart => exact ⟨m, l, rfl, Nat.le_refl _, Nat.le_refl _, rfl, hb, Below.refl _ _, NonB.refl _⟩
  case round =>
    obtain ⟨k, l1, rfl, hk, hlen, he, hap, hbw, hnw⟩ := hrel
    have He := Lib.hid he
    clear he hm
    rcases Nat.eq_zero_or_pos k with h0 | h0
    · subst h0
      go_wp2
      go_ret
      refine ⟨_, rfl, ?_, hbw, hnw⟩
      have := He.out
      simp only [bes, List.append_nil] at this
      rw [← this]; exact hap
    · obtain ⟨j, rfl⟩ : ∃ j, k = j + 1 := ⟨k - 1, by omega⟩
      rw [show (((j + 1 : Nat) : Int) - 1) = (j : Int) from by omega]
      go_wp2_with (first
        | (at_builtin
           refine wpList_append_apn _ rfl _ _ 36 rfl B i0 (.int .u8 0) 1 Try.underlying36 Hi.out Hz.out Hz1.out Hz2.out rfl _ _ (l1.map bv) _ rfl rfl (hap.alloc _) (Rd.lit wr 5 _ 1 rfl (by simp [maxLen])) (by simp [Value.oneCell']) (by simp; omega) (by simp [maxLen]; omega) (by have := hbw.size; simp; omega) ?_
           intro v2 w2 hap2 hb2 hn2))
      have hap3 := byte_snoc hap2
      clear hap2
      go_roundw
      case rel =>
        refine ⟨j, l1 ++ [byteAt v j], rfl, by omega, by simp; omega, ?_, hap3, hbw.trans (((Below.refl _ _).alloc (by have := hbw.size; omega) _).trans hb2), hnw.trans ((NonB.alloc _ _).trans hn2)⟩
        rw [List.append_assoc]; exact He.out
      case measure => simp [intOf]

end Go.Proofs.Ytcakppdabolfiaa
