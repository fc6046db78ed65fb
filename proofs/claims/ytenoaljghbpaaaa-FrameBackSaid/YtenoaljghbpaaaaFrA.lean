/-
  The helper that compares frames; the document's Write, Writes; its u32.
-/
import Derived.Test.YtenoaljghbpaaaaSbW
import Derived.Test.YtenoaljghbpaaaaRwFrame
import Derived.Test.YtenoaljghbpaaaaNumC
import Derived.Test.YtenoaljghbpaaaaApN
import Derived.Test.YtenoaljghbpaaaaSlice
import Derived.Test.YtenoaljghbpaaaaConv
import Derived.Deep.RegionWith
import Derived.Deep.RegionLaw
import Derived.Lib.Strings
import Derived.Deep.CutRange
import Derived.Deep.CutBlock
import Derived.BigRegion
import Derived.Handy
namespace Go.Proofs.Ytenoaljghbpaaaa
open Go.RowKit
set_option linter.unusedVariables false
set_option linter.unusedSimpArgs false

def frA (a : Frm) : Array Value := #[.int .u8 (a.ty : Int), .int .u8 (a.fl : Int), .int .u32 (a.st : Int), a.raw]
theorem frA_eq (a : Frm) : (frvl a).toArray = frA a := rfl
theorem str_eqF (a b : ByteArray) (h : a.toList = b.toList) : a = b := by
  rw [Lib.toList_data, Lib.toList_data] at h
  have := Array.toList_inj.1 h
  cases a; cases b; simp_all
theorem str_beqF {a b : List UInt8} (h : a = b) : ((bstr a).toList == (bstr b).toList) = true := by rw [h]; exact beq_self_eq_true _
theorem str_bneF {a b : List UInt8} (h : ¬ a = b) : ((bstr a).toList == (bstr b).toList) = false := by
  rw [beq_eq_false_iff_ne]
  exact fun h2 => h (bstr_inj (str_eqF _ _ h2))
set_option maxRecDepth 100000 in
set_option maxHeartbeats 4000000 in
theorem helpFrame_any (a b : Frm) (w : World) (ha : frBs w a) (hb : frBs w b) :
    Calls Try.prog 25 #[.agg (frA a), .agg (frA b)] w fun e w' => e = .returned (.bool (decide (a.ty = b.ty ∧ a.fl = b.fl ∧ a.st = b.st ∧ a.rawb = b.rawb))) ∧ Below w.heap.size w w' := by
  obtain ⟨A, hA⟩ : ∃ A, frA a = A := ⟨_, rfl⟩
  obtain ⟨B, hB⟩ : ∃ A, frA b = A := ⟨_, rfl⟩
  have hk : Below w.heap.size w ((w.alloc (.cells A 28)).alloc (.cells B 28)) := ((Below.refl _ _).alloc (Nat.le_refl _) _).alloc (by simp) _
  have hsa : Sb 28 ((w.alloc (.cells A 28)).alloc (.cells B 28)) w.heap.size (frA a) := by rw [hA]; exact (Sb.new _ w _).alloc _
  have hsb : Sb 28 ((w.alloc (.cells A 28)).alloc (.cells B 28)) (w.heap.size + 1) (frA b) := by rw [hB]; exact Sb.newg _ _ _ (by simp) _
  have hva := conv_str (show Bs ((w.alloc (.cells A 28)).alloc (.cells B 28)) a.raw a.rawb from Rd.keep ha hk)
  have hvb := conv_str (show Bs ((w.alloc (.cells A 28)).alloc (.cells B 28)) b.raw b.rawb from Rd.keep hb hk)
  have p0 := (hsa.cell 0).trans (show (frA a)[0]? = some (.int .u8 (a.ty : Int)) from rfl)
  have p1 := (hsa.cell 1).trans (show (frA a)[1]? = some (.int .u8 (a.fl : Int)) from rfl)
  have p2 := (hsa.cell 2).trans (show (frA a)[2]? = some (.int .u32 (a.st : Int)) from rfl)
  have p3 := (hsa.cell 3).trans (show (frA a)[3]? = some a.raw from rfl)
  have q0 := (hsb.cell 0).trans (show (frA b)[0]? = some (.int .u8 (b.ty : Int)) from rfl)
  have q1 := (hsb.cell 1).trans (show (frA b)[1]? = some (.int .u8 (b.fl : Int)) from rfl)
  have q2 := (hsb.cell 2).trans (show (frA b)[2]? = some (.int .u32 (b.st : Int)) from rfl)
  have q3 := (hsb.cell 3).trans (show (frA b)[3]? = some b.raw from rfl)
  have HK := Bx.mk hk
  rw [hA, hB]
  clear hsa hsb ha hb hA hB hk
  by_cases h0 : a.ty = b.ty
  · have e0 : ((a.ty : Int) == (b.ty : Int)) = true := by rw [beq_iff_eq]; omega
    by_cases h1 : a.fl = b.fl
    · have e1 : ((a.fl : Int) == (b.fl : Int)) = true := by rw [beq_iff_eq]; omega
      by_cases h2 : a.st = b.st
      · have e2 : ((a.st : Int) == (b.st : Int)) = true := by rw [beq_iff_eq]; omega
        by_cases h3 : a.rawb = b.rawb
        · have e3 := str_beqF h3
          rw [show decide (a.ty = b.ty ∧ a.fl = b.fl ∧ a.st = b.st ∧ a.rawb = b.rawb) = true from decide_eq_true ⟨h0, h1, h2, h3⟩]
          clear h0 h1 h2 h3
          go_enter Try.func25, Try.ntmps25
          go_wp2_with fail
          go_ret
          exact ⟨rfl, HK.out⟩
        · have e3 := str_bneF h3
          rw [show decide (a.ty = b.ty ∧ a.fl = b.fl ∧ a.st = b.st ∧ a.rawb = b.rawb) = false from decide_eq_false (fun h => h3 h.2.2.2)]
          clear h0 h1 h2 h3
          go_enter Try.func25, Try.ntmps25
          go_wp2_with fail
          go_ret
          exact ⟨rfl, HK.out⟩
      · have e2 : ((a.st : Int) == (b.st : Int)) = false := by rw [beq_eq_false_iff_ne]; omega
        rw [show decide (a.ty = b.ty ∧ a.fl = b.fl ∧ a.st = b.st ∧ a.rawb = b.rawb) = false from decide_eq_false (fun h => h2 h.2.2.1)]
        clear h0 h1 h2
        go_enter Try.func25, Try.ntmps25
        go_wp2_with fail
        go_ret
        exact ⟨rfl, HK.out⟩
    · have e1 : ((a.fl : Int) == (b.fl : Int)) = false := by rw [beq_eq_false_iff_ne]; omega
      rw [show decide (a.ty = b.ty ∧ a.fl = b.fl ∧ a.st = b.st ∧ a.rawb = b.rawb) = false from decide_eq_false (fun h => h1 h.2.1)]
      clear h0 h1
      go_enter Try.func25, Try.ntmps25
      go_wp2_with fail
      go_ret
      exact ⟨rfl, HK.out⟩
  · have e0 : ((a.ty : Int) == (b.ty : Int)) = false := by rw [beq_eq_false_iff_ne]; omega
    rw [show decide (a.ty = b.ty ∧ a.fl = b.fl ∧ a.st = b.st ∧ a.rawb = b.rawb) = false from decide_eq_false (fun h => h0 h.1)]
    clear h0
    go_enter Try.func25, Try.ntmps25
    go_wp2_with fail
    go_ret
    exact ⟨rfl, HK.out⟩

/-- Four bytes as a number. -/
theorem u32_any (v : Value) (l : List UInt8) (w : World) (hv : Bs w v l) (h4 : 4 ≤ l.length) (hm : l.length ≤ 1000000) :
    Calls Try.prog 90 #[v] w fun e w' => e = .returned (.int .u32 (rb (l.take 4) : Int)) ∧ w' = w := by
  have hlt : rb (l.take 4) < 256 ^ 4 := rb_lt_n _ 4 (by simp; omega)
  have hw : IntKind.u32.wrap (rb (l.take 4) : Int) = (rb (l.take 4) : Int) := IntWalk.u32_in _ ⟨by omega, by omega⟩
  go_enter Try.func90, Try.ntmps90
  go_wp2_with (go_at_call 77; refine (refReadBig_ok v l 4 w hv (by omega) (by omega) (by omega) hm).mono ?_; rintro e w' ⟨rfl, rfl⟩)
  go_ret
  exact ⟨rfl, rfl⟩

/-- A frame, written. -/
def frB (a : Frm) : List UInt8 := bes (a.rawb.length : Int) 3 ++ [UInt8.ofNat a.ty, UInt8.ofNat a.fl] ++ bes ((a.st % 2147483648 : Nat) : Int) 4 ++ a.rawb
theorem u32_mask31 (x : Nat) (h : x < 4294967296) : bits .and .u32 (x : Int) 2147483647 = ((x % 2147483648 : Nat) : Int) := by
  rw [show (2147483647 : Int) = ((2 ^ 31 - 1 : Nat) : Int) from rfl, u32_and_nat _ _ (by omega) (by omega), Nat.and_two_pow_sub_one_eq_mod]
theorem infoU8a : (Try.prog.info? 5).map (fun i => (i.zero, i.size, i.bytes)) = some (some (.int .u8 0), 1, 1) := by kernel_rfl
theorem bytes_two {w : World} {B : Nat} {x : Value} {l : List UInt8} {p q : Nat} (hp : p < 256) (hq : q < 256) (h : Ap w B 5 x (l.map bv ++ #[Value.int .u8 (p : Int), Value.int .u8 (q : Int)].toList)) : ApB w B x (l ++ [UInt8.ofNat p, UInt8.ofNat q]) := by
  unfold ApB
  rw [List.map_append, List.map_cons, List.map_cons, List.map_nil]
  have e (n : Nat) (hn : n < 256) : bv (UInt8.ofNat n) = .int .u8 (n : Int) := by unfold bv; rw [UInt8.toNat_ofNat']; congr 2; omega
  rw [e p hp, e q hq]
  exact h
theorem nonB_sb {w w' : World} {g : Nat} {cs : Array Value} (h : NonB w w') (hs : Sb 28 w g cs) : Sb 28 w' g cs := h.fb hs (by decide)
set_option maxRecDepth 100000 in
set_option maxHeartbeats 4000000 in
theorem refWrite_great (bV : Value) (a : Frm) (w : World) (hf : frBs w a) (hg : 16384 < a.rawb.length) :
    Calls Try.prog 74 #[bV, .agg (frA a)] w fun e w' => e = .returned (.tuple #[.slice none 0 0, .int .i64 30]) ∧ Below w.heap.size w w' := by
  obtain ⟨A, hA⟩ : ∃ A, frA a = A := ⟨_, rfl⟩
  have hk : Below w.heap.size w (w.alloc (.cells A 28)) := ((Below.refl _ _).alloc (Nat.le_refl _) _)
  have hsa : Sb 28 (w.alloc (.cells A 28)) w.heap.size (frA a) := by rw [hA]; exact (Sb.new _ w _)
  have p3 := (hsa.cell 3).trans (show (frA a)[3]? = some a.raw from rfl)
  have hlen := fun tr W => hf.run_len tr W
  have hd : decide ((16384 : Int) < (a.rawb.length : Int)) = true := decide_eq_true (by omega)
  have HK := Bx.mk hk
  rw [hA]
  clear hsa hf hA hg hk
  go_enter Try.func74, Try.ntmps74
  go_wp2_with fail
  go_ret2
  exact ⟨rfl, HK.out⟩
set_option maxRecDepth 100000 in
set_option maxHeartbeats 8000000 in
theorem refWrite_any (w0 : World) (bV : Value) (l : List UInt8) (a : Frm) (w : World) (hw : Below w0.heap.size w0 w) (hb : ApB w w0.heap.size bV l) (hl : l.length ≤ 500000) (ho : frOk a) (hf : frBs w0 a) (hg : a.rawb.length ≤ 16384) :
    Calls Try.prog 74 #[bV, .agg (frA a)] w fun e w' => ∃ v', e = .returned (.tuple #[v', .int .i64 0]) ∧ ApB w' w0.heap.size v' (l ++ frB a) ∧ Below w0.heap.size w0 w' ∧ NonB w w' := by
  obtain ⟨i0, hi, hz, hz1, hz2⟩ := info_parts infoU8a
  have Hi := Lib.hid hi
  have Hz := Lib.hid hz
  have Hz1 := Lib.hid hz1
  have Hz2 := Lib.hid hz2
  clear hi hz hz1 hz2
  obtain ⟨A, hA⟩ : ∃ A, frA a = A := ⟨_, rfl⟩
  have hsz := hw.size
  have hk1 : Below w0.heap.size w0 (w.alloc (.cells A 28)) := hw.alloc hsz _
  have hn1 : NonB w (w.alloc (.cells A 28)) := NonB.alloc _ _
  have hb1 : ApB (w.alloc (.cells A 28)) w0.heap.size bV l := hb.alloc _
  have hsa : Sb 28 (w.alloc (.cells A 28)) w.heap.size (frA a) := by rw [hA]; exact (Sb.new _ w _)
  obtain ⟨g, hgg⟩ : ∃ g, w.heap.size = g := ⟨_, rfl⟩
  obtain ⟨w1, hw1⟩ : ∃ W, w.alloc (.cells A 28) = W := ⟨_, rfl⟩
  have hlen := fun tr W => hf.run_len tr W
  have hd : decide ((16384 : Int) < (a.rawb.length : Int)) = false := decide_eq_false (by omega)
  have hc1 : IntKind.u64.wrap (a.rawb.length : Int) = (a.rawb.length : Int) := IntWalk.u64_in _ ⟨by omega, by omega⟩
  have hm := u32_mask31 a.st ho.2.2
  have hc2 : IntKind.u64.wrap ((a.st % 2147483648 : Nat) : Int) = ((a.st % 2147483648 : Nat) : Int) := IntWalk.u64_in _ ⟨by omega, by omega⟩
  obtain ⟨n, hn⟩ : ∃ n, a.rawb.length = n := ⟨_, rfl⟩
  rw [hn] at hlen hd hc1 hg
  obtain ⟨s, hs⟩ : ∃ n, a.st % 2147483648 = n := ⟨_, rfl⟩
  rw [hs] at hm hc2
  have HN := Bx.mk (And.intro hn hs)
  have HL := Bx.mk (And.intro hl hg)
  have hs31 : s < 2147483648 := by omega
  rw [hw1] at hsa hb1 hk1 hn1
  rw [hgg] at hsa
  have p0 := (hsa.cell 0).trans (show (frA a)[0]? = some (.int .u8 (a.ty : Int)) from rfl)
  have p1 := (hsa.cell 1).trans (show (frA a)[1]? = some (.int .u8 (a.fl : Int)) from rfl)
  have p2 := (hsa.cell 2).trans (show (frA a)[2]? = some (.int .u32 (a.st : Int)) from rfl)
  have p3 := (hsa.cell 3).trans (show (frA a)[3]? = some a.raw from rfl)
  have HA := Bx.mk hA
  rw [hA]
  go_enter Try.func74, Try.ntmps74
  go_upto_region 1 with fail
  clear hw1 hgg
  go_upto_region 5 with (first
    | (go_at_call 107; refine (refBig_apn w0.heap.size bV l n 3 w1 hb1 hk1.size (by omega) (by omega) (by omega)).mono ?_; rintro e w2 ⟨v2, rfl, h2, b2, n2⟩; have hs2 := nonB_sb n2 hsa; have p0 := (hs2.cell 0).trans (show (frA a)[0]? = some (.int .u8 (a.ty : Int)) from rfl); have p1 := (hs2.cell 1).trans (show (frA a)[1]? = some (.int .u8 (a.fl : Int)) from rfl); have hk2 := hk1.trans b2; have hsz2 := hk2.size; have hl2 : (l ++ bes n 3).length ≤ 500003 := by simp [bes]; omega)
    | (at_builtin; refine wpList_append_apn _ rfl _ _ 22 rfl w0.heap.size i0 (.int .u8 0) 1 Try.underlying22 Hi.out Hz.out Hz1.out Hz2.out rfl v2 _ ((l ++ bes n 3).map bv) _ rfl rfl (h2.alloc _) (Rd.lit w2 5 _ 2 rfl (by simp [maxLen])) (by simp [Value.oneCell']) (by rw [List.length_map]; simp; simp at hl2; omega) (by rw [List.length_map]; simp [maxLen]; simp at hl2; omega) (by simp; omega) ?_; intro v3 w3 h3 b3 n3)
    | fail)
  have h4 := bytes_two ho.1 ho.2.1 h3
  have hs3 := nonB_sb ((NonB.alloc _ _).trans n3) hs2
  have hk3 := hk2.trans (((Below.refl _ _).alloc hsz2 _).trans b3)
  have hn3 := (hn1.trans n2).trans ((NonB.alloc _ _).trans n3)
  have hf3 : Bs w3 a.raw a.rawb := Rd.keep hf hk3
  have HF3 := Bx.mk hf3
  have HS3 := Bx.mk hs3
  have HK3 := Bx.mk hk3
  have HN3 := Bx.mk hn3
  have H4 := Bx.mk h4
  have HF := Bx.mk hf
  have r2 := (hs3.cell 2).trans (show (frA a)[2]? = some (.int .u32 (a.st : Int)) from rfl)
  have r3 := (hs3.cell 3).trans (show (frA a)[3]? = some a.raw from rfl)
  have hl3 : ((l ++ bes n 3) ++ [UInt8.ofNat a.ty, UInt8.ofNat a.fl]).length ≤ 500005 := by simp at hl2; simp; omega
  have hsz3 := hk3.size
  obtain ⟨L3, hL3⟩ : ∃ L, (l ++ bes n 3) ++ [UInt8.ofNat a.ty, UInt8.ofNat a.fl] = L := ⟨_, rfl⟩
  rw [hL3] at H4 hl3
  have HL3 := Bx.mk hL3
  clear hL3 h4 h3 n3 b3 hs3 hs2 p0 p1 p2 p3 h2 b2 n2 hk1 hk2 hk3 hn1 hn3 hb1 hsa hl2 hb hw hf3 hf hA ho hsz hsz2
  have u2 : w3.drew.cell? ⟨g, 2, none⟩ = some (.int .u32 (a.st : Int)) := r2
  have u3 : w3.drew.cell? ⟨g, 3, none⟩ = some a.raw := r3
  go_region_law (first
    | (go_simp; go_at_call 107; refine (refBig_apn w0.heap.size v3 L3 s 4 w3.drew H4.out.drew hsz3 (by omega) (by omega) (by omega)).mono ?_; rintro e w4 ⟨v4, rfl, h4, b4, n4⟩; have hs4 := nonB_sb ((NonB.drew _).trans n4) HS3.out; have t3 := (hs4.cell 3).trans (show (frA a)[3]? = some a.raw from rfl); have hk4 := HK3.out.drew.trans b4; have hf4 : Bs w4 a.raw a.rawb := Rd.keep HF.out hk4; have hl4 : (L3 ++ bes s 4).length ≤ 500009 := by simp [bes]; omega)
    | (refine step_append_apn rfl (.tmp 28) (.tmp 30) 22 rfl w0.heap.size i0 (.int .u8 0) 1 Try.underlying22 Hi.out Hz.out Hz1.out Hz2.out rfl v4 a.raw ((L3 ++ bes s 4).map bv) (a.rawb.map bv) rfl rfl h4 hf4 one_bv (by rw [List.length_map, List.length_map, HN.out.1]; omega) (by rw [List.length_map, List.length_map, HN.out.1]; unfold maxLen; omega) hk4.size ?_; intro v5 w5 h5 b5 n5))
  all_goals go_wp2_with fail
  all_goals go_ret2
  all_goals
    refine ⟨v5, rfl, ?_, hk4.trans b5, (HN3.out.trans ((NonB.drew _).trans n4)).trans n5⟩
    rw [show l ++ frB a = (L3 ++ bes s 4) ++ a.rawb from by rw [← HL3.out]; unfold frB; rw [HN.out.1, HN.out.2]; simp]
    unfold ApB
    rw [List.map_append]
    exact h5
end Go.Proofs.Ytenoaljghbpaaaa
