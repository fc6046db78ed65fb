/-
  Contracts of field.Find, the document's Find.
-/
import Derived.Test.YtnkbnanjbandeaaDoorFdG
namespace Go.Proofs.YtnkbnanjbandeaaDoor
open Go.RowKit
set_option linter.unusedVariables false

theorem infoStr : (Tryd.prog.info? 9).map (fun i => (i.zero, i.size, i.bytes)) = some (some (.string ⟨#[]⟩), 1, 16) := by kernel_rfl
/-- Strings that may be appended to. -/
def ApS (w : World) (B : Nat) (v : Value) (l : List ByteArray) : Prop := Ap w B 9 v (l.map Value.string)
theorem ApS.ss {w : World} {B : Nat} {v : Value} {l : List ByteArray} (h : ApS w B v l) : Ss w v l := Ap.rd h

theorem str_eq (a b : ByteArray) (h : a.toList = b.toList) : a = b := by
  rw [Lib.toList_data, Lib.toList_data] at h
  have := Array.toList_inj.1 h
  cases a; cases b; simp_all
theorem str_beq_true {a b : ByteArray} (h : a = b) : (a.toList == b.toList) = true := by rw [h]; exact beq_self_eq_true _
theorem str_beq_false {a b : ByteArray} (h : ¬ a = b) : (a.toList == b.toList) = false := by
  rw [beq_eq_false_iff_ne]
  exact fun h2 => h (str_eq a b h2)

theorem Rd.litg (w : World) (g : Nat) (hg : w.heap.size = g) (e : TypeId) (cs : Array Value) (n : Nat) (hn : cs.size = n) (hm : n ≤ maxLen) : Rd (w.alloc (.cells cs e)) (.slice (some ⟨g, 0, none⟩) n n) cs.toList := by
  subst hg; exact Rd.lit w e cs n hn hm

set_option maxRecDepth 100000 in
set_option maxHeartbeats 1000000 in
theorem find_any (v : Value) (l : List Fd) (name : ByteArray) (w : World) (hv : Fs w v l) (hl : l.length ≤ 100000) :
    Calls Tryd.prog 18 #[v, .string name] w fun e w' => ∃ v', e = .returned v' ∧ ApS w' w.heap.size v' (findF l name) ∧ Below w.heap.size w w' := by
  obtain ⟨i0, hi, hz, hz1, hz2⟩ : ∃ i0, Tryd.prog.info? 9 = some i0 ∧ i0.zero = some (.string ⟨#[]⟩) ∧ i0.size = 1 ∧ i0.bytes = 16 := by
    have h := infoStr
    cases hh : Tryd.prog.info? 9 with
    | none => rw [hh] at h; cases h
    | some i => rw [hh] at h; simp at h; exact ⟨i, rfl, h.1, h.2.1, h.2.2⟩
  have Hi := Bx.mk hi; have Hz := Bx.mk hz; have Hz1 := Bx.mk hz1; have Hz2 := Bx.mk hz2
  clear hi hz hz1 hz2
  have HV := Bx.mk hv
  have HL := Bx.mk hl
  have hlen := fun ty W => hv.run_len ty W
  clear hv
  go_enter Tryd.func18, Tryd.ntmps18
  go_wp2
  go_loopg [5, 10] l.length (fun g s5 s10 wx => ∃ k : Nat, k + g = l.length ∧ s10 = .int .i64 k ∧ Bx (ApS wx w.heap.size s5 (findF (l.take k) name)) ∧ Bx (Below w.heap.size w wx))
  case atStart => exact ⟨0, by omega, rfl, ⟨Ap.nil _ _ _⟩, ⟨Below.refl _ _⟩⟩
  case round =>
    obtain ⟨k, hkg, rfl, HP, HB⟩ := hrel
    cases gk with
    | zero =>
      obtain rfl : k = l.length := by omega
      go_wp2
      go_ret
      have := HP.out
      rw [List.take_length] at this
      exact ⟨_, rfl, this, HB.out⟩
    | succ g =>
      have hk : k < l.length := by omega
      have hkz : (k : Int) < (l.length : Int) := by omega
      obtain ⟨b, o, hix, hcs⟩ := HV.out.at_ k hk
      obtain ⟨hc1, hc2⟩ := hcs wr (HV.out.keep HB.out)
      have HST := Bx.mk (findF_take_succ l k hk name)
      have HFL := Bx.mk (Nat.le_trans (findF_length_le (l.take k) name) (List.length_take_le _ _))
      obtain ⟨f1, hf1⟩ : ∃ f1, l[k].1 = f1 := ⟨_, rfl⟩
      obtain ⟨f2, hf2⟩ : ∃ f2, l[k].2 = f2 := ⟨_, rfl⟩
      rw [hf1] at hc1
      rw [hf2] at hc2
      have HF1 := Bx.mk hf1
      have HF2 := Bx.mk hf2
      clear hcs hf1 hf2
      have hBs := HB.out.size
      by_cases hn : f1 = name
      · have hd := str_beq_true hn
        have HN := Bx.mk hn
        clear hn
        go_wp2_with (at_builtin; refine wpList_append_ap _ rfl _ _ 24 rfl w.heap.size 9 i0 (.string ⟨#[]⟩) 16 Tryd.underlying24 Hi.out Hz.out Hz1.out Hz2.out rfl _ _ ((findF (l.take k) name).map Value.string) _ rfl rfl ((Ap.alloc (Ap.alloc HP.out _) _)) (Rd.litg _ _ (by simp) 9 _ 1 rfl (by simp [maxLen])) (by simp [Value.oneCell']) (by have := HFL.out; have := HL.out; simp; omega) (by have := HFL.out; have := HL.out; simp [maxLen]; omega) (by simp; omega) ?_; intro v2 w2 hap2 hb2)
        have HP2 := Bx.mk hap2
        have HB2 := Bx.mk (((HB.out.alloc hBs _).alloc (by simp; omega) _).trans hb2)
        clear hap2 hb2
        go_roundg g
        case measure => omega
        case rel => exact ⟨k + 1, by omega, by go_num, ⟨by have := HP2.out; rw [HST.out, HF1.out, HF2.out, if_pos HN.out]; unfold ApS; rw [List.map_append]; exact this⟩, HB2⟩
      · have hd := str_beq_false hn
        have HN := Bx.mk hn
        clear hn
        go_wp2
        go_roundg g
        case measure => omega
        case rel => exact ⟨k + 1, by omega, by go_num, ⟨by rw [HST.out, HF1.out, HF2.out, if_neg HN.out, List.append_nil]; exact Ap.alloc HP.out _⟩, ⟨HB.out.alloc hBs _⟩⟩

set_option maxRecDepth 100000 in
set_option maxHeartbeats 1000000 in
theorem refFind_any (v : Value) (l : List Fd) (name : ByteArray) (w : World) (hv : Fs w v l) (hl : l.length ≤ 100000) :
    Calls Tryd.prog 19 #[v, .string name] w fun e w' => ∃ v', e = .returned v' ∧ ApS w' w.heap.size v' (findF l name) ∧ Below w.heap.size w w' := by
  obtain ⟨i0, hi, hz, hz1, hz2⟩ : ∃ i0, Tryd.prog.info? 9 = some i0 ∧ i0.zero = some (.string ⟨#[]⟩) ∧ i0.size = 1 ∧ i0.bytes = 16 := by
    have h := infoStr
    cases hh : Tryd.prog.info? 9 with
    | none => rw [hh] at h; cases h
    | some i => rw [hh] at h; simp at h; exact ⟨i, rfl, h.1, h.2.1, h.2.2⟩
  have Hi := Bx.mk hi; have Hz := Bx.mk hz; have Hz1 := Bx.mk hz1; have Hz2 := Bx.mk hz2
  clear hi hz hz1 hz2
  have HV := Bx.mk hv
  have HL := Bx.mk hl
  have hlen := fun ty W => hv.run_len ty W
  clear hv
  go_enter Tryd.func19, Tryd.ntmps19
  go_wp2
  go_loopg [5, 6] l.length (fun g s5 s10 wx => ∃ k : Nat, k + g = l.length ∧ s10 = .int .i64 k ∧ Bx (ApS wx w.heap.size s5 (findF (l.take k) name)) ∧ Bx (Below w.heap.size w wx))
  case atStart => exact ⟨0, by omega, rfl, ⟨Ap.nil _ _ _⟩, ⟨Below.refl _ _⟩⟩
  case round =>
    obtain ⟨k, hkg, rfl, HP, HB⟩ := hrel
    cases gk with
    | zero =>
      obtain rfl : k = l.length := by omega
      go_wp2
      go_ret
      have := HP.out
      rw [List.take_length] at this
      exact ⟨_, rfl, this, HB.out⟩
    | succ g =>
      have hk : k < l.length := by omega
      have hkz : (k : Int) < (l.length : Int) := by omega
      obtain ⟨b, o, hix, hcs⟩ := HV.out.at_ k hk
      obtain ⟨hc1, hc2⟩ := hcs wr (HV.out.keep HB.out)
      have HST := Bx.mk (findF_take_succ l k hk name)
      have HFL := Bx.mk (Nat.le_trans (findF_length_le (l.take k) name) (List.length_take_le _ _))
      obtain ⟨f1, hf1⟩ : ∃ f1, l[k].1 = f1 := ⟨_, rfl⟩
      obtain ⟨f2, hf2⟩ : ∃ f2, l[k].2 = f2 := ⟨_, rfl⟩
      rw [hf1] at hc1
      rw [hf2] at hc2
      have HF1 := Bx.mk hf1
      have HF2 := Bx.mk hf2
      clear hcs hf1 hf2
      have hBs := HB.out.size
      by_cases hn : f1 = name
      · have hd := str_beq_true hn
        have HN := Bx.mk hn
        clear hn
        go_wp2_with (at_builtin; refine wpList_append_ap _ rfl _ _ 24 rfl w.heap.size 9 i0 (.string ⟨#[]⟩) 16 Tryd.underlying24 Hi.out Hz.out Hz1.out Hz2.out rfl _ _ ((findF (l.take k) name).map Value.string) _ rfl rfl (Ap.alloc HP.out _) (Rd.lit _ 9 _ 1 rfl (by simp [maxLen])) (by simp [Value.oneCell']) (by have := HFL.out; have := HL.out; simp; omega) (by have := HFL.out; have := HL.out; simp [maxLen]; omega) (by simp; omega) ?_; intro v2 w2 hap2 hb2)
        have HP2 := Bx.mk hap2
        have HB2 := Bx.mk ((HB.out.alloc hBs _).trans hb2)
        clear hap2 hb2
        go_roundg g
        case measure => omega
        case rel => exact ⟨k + 1, by omega, by go_num, ⟨by have := HP2.out; rw [HST.out, HF1.out, HF2.out, if_pos HN.out]; unfold ApS; rw [List.map_append]; exact this⟩, HB2⟩
      · have hd := str_beq_false hn
        have HN := Bx.mk hn
        clear hn
        go_wp2
        go_roundg g
        case measure => omega
        case rel => exact ⟨k + 1, by omega, by go_num, ⟨by rw [HST.out, HF1.out, HF2.out, if_neg HN.out, List.append_nil]; exact HP.out⟩, HB⟩

end Go.Proofs.YtnkbnanjbandeaaDoor
