/-
  append(b, make([]byte, k)...) of bytes that are the call's own.
-/
import Derived.Test.YtcakppdabolfiaaPyC
import Derived.Lib.AppendZerosOnto
namespace Go.Proofs.Ytcakppdabolfiaa
open Go.RowKit
set_option linter.unusedVariables false
set_option linter.unusedSimpArgs false

theorem zeroCells_u8 (k : Nat) : (Builtin.zeroCells #[.int .u8 0] k).toList = (List.replicate k (0 : UInt8)).map bv := by
  unfold Builtin.zeroCells
  apply List.ext_getElem
  · simp
  · intro i h1 h2
    simp [bv, Nat.mod_one]
theorem infoU8z : ∃ i, Try.prog.info? 5 = some i ∧ i.zero = some (.int .u8 0) ∧ i.size = 1 ∧ i.bytes = 1 := by
  have h : (Try.prog.info? 5).map (fun i => (i.zero, i.size, i.bytes)) = some (some (.int .u8 0), 1, 1) := by kernel_rfl
  obtain ⟨i, h1, h2⟩ := Option.map_eq_some_iff.1 h
  simp only [Prod.mk.injEq] at h2
  exact ⟨i, h1, h2.1, h2.2.1, h2.2.2⟩
/-- Room for k zeros. -/
theorem run_zeros_room (w : World) (ty : TypeId) (g n cap k : Nat) (cur : Array Value) (hg : w.heap[g]? = some (.cells cur 5 (0, 0))) (h0 : 0 < k) (hk : k ≤ 1000000) (hroom : n + k ≤ cap) (hfit : n + k ≤ cur.size) :
    (Builtin.append_ #[36, 3] ty #[.slice (some ⟨g, 0, none⟩) n cap, .int .i64 k]).run Try.prog w =
      .ok (.slice (some ⟨g, 0, none⟩) (n + k) cap) (w.setRow g (cur.toList.take n ++ (List.replicate k (0 : UInt8)).map bv ++ cur.toList.drop (n + k)).toArray) := by
  obtain ⟨i, hi, hz, hs, hb⟩ := infoU8z
  have hst := run_storeCells_at Try.prog g n 5 ((List.replicate k (0 : UInt8)).map bv) 0 cur w hg (by simpa using hfit) (one_bv)
  simp only [Nat.add_zero, List.length_map, List.length_replicate] at hst
  have hk' : k ≠ 0 := by omega
  have hw : IntKind.i64.wrap (k : Int) = k := by rw [IntKind.wrap_i64]; omega
  have h48i : ¬ (281474976710656 < (k : Int)) := by omega
  have hneg : ¬ ((k : Int) < 0) := by omega
  have hzc : (Builtin.zeroCells (Value.int .u8 0).cells k).toList = (List.replicate k (0 : UInt8)).map bv := zeroCells_u8 k
  have hut : Try.prog.underlying 3 = some (.int .i64) := Try.underlying3
  simp [Builtin.append_, run_underlying Try.underlying36, run_underlying hut, sizeOf, typeInfo, zeroValue, hi, hz, hs, hb, asInt, asIntOf, hw, hneg, h48i, hk', hroom, Addr.add_lit]
  rw [hzc, hst]
  simp
theorem run_zeros_own (w : World) (ty : TypeId) (B : Nat) (v : Value) (l : List UInt8) (k : Nat) (hv : OwB w B v l) (hk : k ≤ 1000000) (hl : l.length ≤ 1000000) (hB : B ≤ w.heap.size) :
    ∃ v' w', (Builtin.append_ #[36, 3] ty #[v, .int .i64 k]).run Try.prog w = .ok v' w' ∧ OwB w' B v' (l ++ List.replicate k 0) ∧ w.grownBy w' v.ownBlock := by
  obtain ⟨i, hi, hz, hs, hb⟩ := infoU8z
  have hut : Try.prog.underlying 3 = some (.int .i64) := Try.underlying3
  by_cases hk0 : k = 0
  · subst hk0
    obtain ⟨A, n, c, rfl⟩ := hv.shape
    have hc : n ≤ c := by
      obtain ⟨A', c', he, h1, _⟩ := hv.bs
      injection he with e1 e2 e3
      omega
    refine ⟨_, w, ?_, by simpa using hv, ⟨rfl, rfl, rfl, Nat.le_refl _, fun _ _ _ => rfl⟩⟩
    have hw : IntKind.i64.wrap 0 = 0 := by decide
    cases A <;> simp [Builtin.append_, run_underlying Try.underlying36, run_underlying hut, sizeOf, typeInfo, hi, hs, hb, asInt, asIntOf, hw, hc, storeCells]
  · have hv0 := hv
    obtain ⟨hlen, hc⟩ := hv
    have hmx : (l.map bv ++ (List.replicate k (0 : UInt8)).map bv).length = (l.length + k) * 1 := by simp
    have grown : ∀ (old : Nat), old < l.length + k →
        OwB (w.drew.alloc (.cells ((l.map bv).toArray ++ Builtin.zeroCells #[.int .u8 0] k ++ Builtin.zeroCells #[.int .u8 0] (grownCap w (l.length + k) old 5 - (l.length + k))) 5)) B
          (.slice (some ⟨w.heap.size, 0, none⟩) (l.length + k) (grownCap w (l.length + k) old 5)) (l ++ List.replicate k 0) := by
      intro old ho
      have hge := grownCap_ge w (l.length + k) old 5
      have hcm : grownCap w (l.length + k) old 5 ≤ maxLen := grownCap_le_maxLen w (l.length + k) old 5 (by unfold maxLen; omega)
      unfold OwB
      rw [List.map_append]
      have e1 : (l.map bv ++ (List.replicate k (0 : UInt8)).map bv).length = l.length + k := by simp
      rw [e1]
      refine ⟨hmx, .inr ⟨w.heap.size, _, _, rfl, hB, heap_alloc_new w.drew _, hge, hcm, ?_, ?_⟩⟩
      · simp only [Array.size_append, List.size_toArray, size_zeroCells, List.length_map]
        simp
        omega
      · simp only [Array.toList_append, zeroCells_u8, List.append_assoc]
        rw [← List.append_assoc, show (l.length + k) * 1 = (l.map bv ++ (List.replicate k (0 : UInt8)).map bv).length by simp]
        exact List.take_left
    have hbel : ∀ o row, w.grownBy (w.drew.alloc o) row := fun o row => ⟨rfl, rfl, rfl, by simp, fun k hk _ => heap_alloc_old w.drew _ hk⟩
    rcases hc with ⟨rfl, h0⟩ | ⟨g, cap, cur, rfl, hbg, hg, hnc, hcm, hcs, htake⟩
    · have hl0 : l = [] := by simpa using h0
      subst hl0
      have hr := Lib.run_append_nil_zeros (P := Try.prog) w 36 3 ty 5 i (.int .u8 0) .i64 .i64 Try.underlying36 hut hi hz k (by omega) (by omega) (by omega) (by rw [hb]; omega)
      have hgr := grown 0 (by simp; omega)
      simp only [List.length_nil, Nat.zero_add, List.map_nil, Array.empty_append] at hgr
      exact ⟨_, _, hr, hgr, hbel _ _⟩
    · rw [List.length_map] at hnc htake ⊢
      by_cases hroom : l.length + k ≤ cap
      · have hr := run_zeros_room w ty g l.length cap k cur hg (by omega) hk hroom (by omega)
        refine ⟨_, _, hr, ⟨by simp, .inr ⟨g, cap, _, ?_, hbg, setRow_heap w g cur _ _ _ hg, ?_, hcm, ?_, ?_⟩⟩, ?_⟩
        · simp
        · simpa using hroom
        · simp only [List.size_toArray, List.length_append, List.length_take, List.length_drop, Array.length_toList, List.length_map, List.length_replicate]
          omega
        · rw [Nat.mul_one] at htake
          rw [htake, List.map_append]
          rw [Nat.mul_one]
          exact List.take_left
        · have hgb : ∀ (c : Array Value), w.grownBy (w.setRow g c) (some g) := fun c => ⟨rfl, rfl, rfl, by simp, fun k _ hk => setRow_other w g k _ (fun e => hk (by rw [e]))⟩
          exact hgb _
      · have hr := Lib.run_append_grow_zeros (P := Try.prog) w 36 3 ty 5 i (.int .u8 0) .i64 .i64 Try.underlying36 hut hi hz (some ⟨g, 0, none⟩) l.length cap (l.map bv) (run_firstCells_some (P := Try.prog) w.drew i.size l.length ⟨g, 0, none⟩ l.length cap (l.map bv) (by simp [hs]) (fun j u h => (hv0.drew).cells (g := g) rfl j u h)) k (by omega) (by omega) (by omega) (by omega) (by rw [hb]; omega) (growslice_fits (by omega) (by rw [hb]; omega))
        exact ⟨_, _, hr, grown cap (by omega), hbel _ _⟩
/-- Bytes behind bytes of a row of its own: which block alone is written. -/
theorem run_bytes_own (w : World) (ty : TypeId) (B : Nat) (v u : Value) (l m : List UInt8) (hv : OwB w B v l) (hu : Bs w u m) (hl : l.length ≤ 1000000) (hm : m.length ≤ 1000000) (hB : B ≤ w.heap.size) :
    ∃ v' w', (Builtin.append_ #[36, 36] ty #[v, u]).run Try.prog w = .ok v' w' ∧ OwB w' B v' (l ++ m) ∧ w.grownBy w' v.ownBlock := by
  obtain ⟨i, hi, hz, hs, hb⟩ := infoU8z
  obtain ⟨Au, c, rfl, c1, c2, c3⟩ := hu
  rcases c3 with ⟨rfl, rfl⟩ | ⟨x, rfl, hc⟩
  · obtain rfl : m = [] := List.length_eq_zero_iff.1 (by simpa using c1)
    exact ⟨v, w, run_append_owned_none w B 36 ty 5 i 1 Try.underlying36 hi v _ (l.map bv) hv, by rw [List.append_nil]; exact hv, ⟨rfl, rfl, rfl, Nat.le_refl _, fun _ _ _ => rfl⟩⟩
  · obtain ⟨v', w', hrun, r1, r2, _⟩ := run_append_own (P := Try.prog) w B 36 ty 5 i (.int .u8 0) 1 1 Try.underlying36 hi hz hs hb rfl (by omega) v _ (l.map bv) hv x (m.map bv).length c (m.map bv) (by omega) hc one_bv (by rw [List.length_map, List.length_map]; unfold maxLen; omega) (by rw [List.length_map, List.length_map]; omega) hB
    refine ⟨v', w', hrun, ?_, r2⟩
    unfold OwB
    rw [List.map_append, List.length_append]
    simpa only [Nat.mul_one] using r1
theorem OwB.neSb {w : World} {B g : Nat} {t : TypeId} {cs : Array Value} {v : Value} {l : List UInt8} (h : OwB w B v l) (hs : Sb t w g cs) (ht : t ≠ 5) : some g ≠ v.ownBlock := by
  intro he
  rcases h.2 with ⟨rfl, _⟩ | ⟨g', cap, cur, rfl, _, hg, _⟩
  · simp [Value.ownBlock] at he
  · have : g = g' := by simpa [Value.ownBlock] using he
    subst this
    unfold Sb at hs
    rw [hs] at hg
    injection hg with hg
    injection hg with _ e2
    exact ht e2
end Go.Proofs.Ytcakppdabolfiaa
