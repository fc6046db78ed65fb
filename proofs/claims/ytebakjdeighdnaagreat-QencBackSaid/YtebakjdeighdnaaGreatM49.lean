/-
  Texts put together: QqN, QqO, QqP, QqQ.
-/
import Derived.Test.YtebakjdeighdnaaGreatM48
import Derived.Test.YtebakjdeighdnaaGreatM19
import Derived.Test.YtebakjdeighdnaaGreatM36

/-
  Contract of Encode.
-/
namespace Go.Proofs.YtebakjdeighdnaaGreat
open Go.RowKit Go.Maps
set_option linter.unusedVariables false

/-- Behind k fields. -/
def EnR (q p N s d : Nat) (E : Qe) (S : Nat → Prop) (w : World) (a0 : Qa) (l : List Fd) (k : Nat) (wx : World) : Prop :=
  ∃ N', N' ≤ N + 2 * k ∧ DrA q p N' s d E S w (qrun E.op E.K (freeQ E.op E.K E.B s) (l.take k) a0) wx ∧ Gd E s k (qrun E.op E.K (freeQ E.op E.K E.B s) (l.take k) a0)
/-- What Encode leaves. -/
def EnO (q p N s : Nat) (E : Qe) (S : Nat → Prop) (w : World) (l : List Fd) (a b : Value) (w' : World) : Prop :=
  ∃ N' S', N' ≤ N + 2 * l.length + 2 ∧ Pq q p N' (E.enc s l) w' S' ∧ OwB w' w.heap.size a (E.acc s l).ins ∧ OwB w' w.heap.size b (E.sec s l) ∧ (∀ k, S' k → S k ∨ w.heap.size ≤ k) ∧ Fp S w w' ∧ (∀ k, a.ownBlock = some k → ¬ S' k) ∧ ∀ k, b.ownBlock = some k → ¬ S' k ∧ a.ownBlock ≠ some k
theorem hsv4 {q s d : Nat} {oV pV lV : Value} {u : List Nat} {ln : List (Ql × Value)} {w w' : World} (h : Sv q s d oV pV lV u ln w) (hb : Below w.heap.size w w') : w'.cell? ⟨d, 2, none⟩ = some oV := (h.keep hb).row.cell (i := 2) (by omega)
section
variable {q p N s d : Nat} {E : Qe} {S : Nat → Prop} {w w1 wx wy : World} {a : Qa}
set_option maxRecDepth 100000 in
set_option maxHeartbeats 8000000 in
theorem pqencode_any (h : Pq q p N E w S) (hg : E.good) (hs : okU s) {v : Value} {l : List Fd} (hv : ∀ W, Fp S w W → Fs W v l) (hl : l.length ≤ 10000) (hz : ∀ f ∈ l, f.1.size ≤ 20000 ∧ f.2.size ≤ 20000) (hc : E.T.cap ≤ 1000000) (ht : E.T.tot + 20000 ≤ 1000000) (hN : N + 100000 ≤ 1000000000) :
    Calls Tryz.prog 9 #[.pointer (some ⟨q, 0, none⟩), .int .u64 (s : Int), v] w fun r w' => ∃ a b, r = .returned (.tuple #[a, b]) ∧ EnO q p N s E S w l a b w' := by
  have hS : ∀ k, S k → k < w.heap.size := (Wd.pqB _ _ _ _ _).lt h
  have HV := Bx.mk hv
  have HV0 := Bx.mk (hv w (Fp.refl _ _))
  have hlen := fun ty W => HV0.out.run_len ty W
  have HBEG := Bx.mk (begin_any h hc)
  have hgt : E.tell.good := ⟨hg.gq, hg.sec, hg.kn, hg.len⟩
  have hG0 : Gd E.tell s 0 ⟨E.T, capW E.said E.T.cap, [], [], 0⟩ := Gd.zero hgt s E.said
  obtain ⟨a0, ha0⟩ : ∃ a0 : Qa, (⟨E.T, capW E.said E.T.cap, [], [], 0⟩ : Qa) = a0 := ⟨_, rfl⟩
  obtain ⟨F, hF⟩ : ∃ F, E.tell = F := ⟨_, rfl⟩
  have hacc : E.acc s l = qrun F.op F.K (freeQ F.op F.K F.B s) l a0 := by rw [← ha0, ← hF]; rfl
  have henc : E.enc s l = F.fin s (E.acc s l) := by rw [← hF]; rfl
  have hFT : F.T = E.T := by rw [← hF]; rfl
  rw [ha0, hF] at hG0
  simp only [hF] at HBEG
  rw [hF] at hgt
  obtain ⟨CW, hCW⟩ : ∃ CW, capW E.said E.T.cap = CW := ⟨_, rfl⟩
  simp only [hCW] at HBEG
  have HST : Bx (∀ (w1 : World) (v0 : Value), Pq q p N F w1 S → Fp S w w1 → OwB w1 w.heap.size v0 CW → DrA q p N s w1.heap.size F S w a0 (w1.alloc (.cells #[.pointer (some ⟨q, 0, none⟩), .int .u64 (s : Int), v0, .slice none 0 0, .slice none 0 0] 71))) := ⟨fun w1 v0 hp hf ho => by
    rw [← ha0]
    rw [← hCW] at ho
    rw [← hF] at hp ⊢
    exact Dr.start (E := E.tell) hp hS hf ho⟩
  have HACC := Bx.mk hacc
  have HENC := Bx.mk henc
  have HSEC : Bx (E.sec s l = qpre (E.acc s l).c (E.acc s l).c (E.T.cap / 32) ++ linesW (E.acc s l).c (E.acc s l).all) := ⟨rfl⟩
  have HFLD := Bx.mk (fun (k N' : Nat) (hk : k < l.length) (hN' : N' ≤ N + 2 * k) (D : Nat) (W : World) (hd : DrA q p N' s D F S w (qrun F.op F.K (freeQ F.op F.K F.B s) (l.take k) a0) W) (hG : Gd F s k (qrun F.op F.K (freeQ F.op F.K F.B s) (l.take k) a0)) =>
    (dfield_any hd hgt hG hs (by omega) (by rw [hFT]; omega) (by omega) l[k] (hz _ (List.getElem_mem hk)).1 (hz _ (List.getElem_mem hk)).2))
  have HGS := Bx.mk (fun (k : Nat) (hk : k < l.length) (hG : Gd F s k (qrun F.op F.K (freeQ F.op F.K F.B s) (l.take k) a0)) => (by
    rw [qrun_take _ _ _ _ _ _ hk]
    exact hG.step _ (by have := hz _ (List.getElem_mem hk); unfold fsz; omega) : Gd F s (k + 1) (qrun F.op F.K (freeQ F.op F.K F.B s) (l.take (k + 1)) a0)))
  have HTK := Bx.mk (fun (k : Nat) (hk : k < l.length) => qrun_take F.op F.K (freeQ F.op F.K F.B s) l a0 k hk)
  obtain ⟨n, hn⟩ : ∃ n, l.length = n := ⟨_, rfl⟩
  have HN := Bx.mk hn
  rw [hn] at hl hlen
  have hnl : (n : Int) ≤ 10000 := by omega
  obtain ⟨SS, hSS⟩ := letter s
  have HSS := Bx.mk hSS
  -- the end
  have HKEEP := Bx.mk (fun (D N' : Nat) (W : World) (hN' : N' ≤ N + 2 * n) (ln : List (Ql × Value)) (oV pV lV : Value) (e T : Nat → Prop) (hd : Dr q p N' s D F S w (E.acc s l) (E.acc s l).ins (uq (E.acc s l).u) ln oV pV lV e T W) (hG : Gd F s n (E.acc s l)) =>
    dkeep_any hd hG.ends.1 hs (by omega))
  have HSCT := Bx.mk (fun (D N' : Nat) (W : World) (ln : List (Ql × Value)) (oV pV lV : Value) (e' : Nat → Prop) (hq : Pq q p N' (F.fin s (E.acc s l)) W e') (hsv : Sv q s D oV pV lV (uq (E.acc s l).u) ln W) (hln : ln.map (·.1) = (E.acc s l).all) (hG : Gd F s n (E.acc s l)) (hfs : (E.acc s l).all.map (·.f) = l) => (by
    obtain ⟨g1, g2, g3, g4, g5⟩ := hG.ends
    have hcp : (F.fin s (E.acc s l)).T.cap = E.T.cap := by
      have := hG.inv.cap
      rw [hFT] at this
      exact this
    have htot := hG.hi
    rw [hFT] at htot
    have hlnl : ln.length = n := by
      have := congrArg List.length hln
      rw [List.length_map, hG.all] at this
      exact this
    have hR := dsection_any (p := p) hsv E.T.cap hc (fun W' hb => by rw [← hcp]; exact pqcap (Pq.keepB hq hb)) (fun W' hb => (Pq.ecells (Pq.keepB hq hb)).1) (fun i hi => by have := g4 i hi; omega)
      (fun y hy hk => by rw [g2]; exact g5 _ (by rw [← hln]; exact List.mem_map_of_mem hy) hk) (by omega)
      (by
        rw [g2, hln]
        have := linesV_len (E.acc s l).c 40022 (E.acc s l).all (fun x hx => by
          have hxl : x.f ∈ l := by rw [← hfs]; exact List.mem_map_of_mem hx
          have := hz _ hxl
          unfold fsz; omega)
        rw [hG.all] at this
        refine Nat.le_trans this (Nat.le_trans (Nat.mul_le_mul_right 40022 hl) ?_)
        decide)
    rw [g2, hln, ← HSEC.out] at hR
    exact hR : Calls Tryz.prog 27 #[.pointer (some ⟨D, 0, none⟩)] W fun r w' => ∃ v', r = .returned v' ∧ OwB w' W.heap.size v' (E.sec s l) ∧ Below W.heap.size W w'))
  have HFS : Bx ((E.acc s l).all.map (·.f) = l) := ⟨by
    rw [hacc]
    have := (hG0.inv.run F.op F.K (freeQ F.op F.K F.B s) l).2
    rw [← ha0] at this ⊢
    simpa using this⟩
  have HG0 := Bx.mk hG0
  simp only [hSS] at HST HFLD HKEEP ⊢
  clear h hg hs hv hz hc ht hN hS hgt hG0 hacc henc hFT hCW ha0 hF hSS hn
  go_enter Tryz.func9, Tryz.ntmps9
  go_wp2_with (go_at_call 24; refine HBEG.out.mono ?_; rintro r w1 ⟨v0, rfl, ho, hp, hf⟩; obtain ⟨vA, vn, vc, rfl⟩ := ho.shape; have HD := Bx.mk (HST.out w1 _ hp hf ho); obtain ⟨D, hD⟩ : ∃ D, w1.heap.size = D := ⟨_, rfl⟩; rw [hD] at HD; clear ho hp hf)
  go_loopg [18] n (fun g s18 wx => ∃ k : Nat, k + g = n ∧ s18 = .int .i64 k ∧ Bx (EnR q p N s D F S w a0 l k wx))
  case atStart => exact ⟨0, by omega, rfl, ⟨N, by omega, by simpa [qrun] using HD.out, by simpa [qrun] using HG0.out⟩⟩
  case round =>
    obtain ⟨k, hkg, rfl, HR⟩ := hrel
    clear HD
    cases gk with
    | zero =>
      obtain rfl : k = n := by omega
      obtain ⟨N', hN', ⟨ln, oV, pV, lV, e, T, hd, hln⟩, hG⟩ := HR.out
      rw [← HN.out, List.take_length] at hd hln hG
      rw [← HACC.out] at hd hln hG
      rw [HN.out] at hG
      have HDD := Bx.mk hd
      have HLN := Bx.mk hln
      have HGG := Bx.mk hG
      have HN' := Bx.mk hN'
      have c3 := (hd.cells).2.2.2.1
      clear hd hln hG hN'
      go_wp2_with (go_at_call 26; refine (HKEEP.out D N' wr HN'.out ln oV pV lV e T HDD.out HGG.out).mono ?_; rintro r w2 ⟨rfl, e', hq, hsv, how, hfp, hsub, hdis⟩; have HQ := Bx.mk (Pq.keepB hq (Below.refl _ _).drew); have HSV := Bx.mk (hsv.keep (Below.refl _ _).drew); have HOW := Bx.mk how; have HFP := Bx.mk hfp; have HSUB := Bx.mk hsub; have HDIS := Bx.mk hdis; have m2 : w2.cell? ⟨D, 2, none⟩ = some oV := hsv.row.cell (i := 2) (by omega); clear hq hsv how hfp hsub hdis)
      go_region_held (fun W => W.cell? ⟨D, 2, none⟩ = some oV) (first | assumption | exact m2) (first
        | (go_at_call 27; refine (HSCT.out D (N' + 2) w2.drew ln oV pV lV e' HQ.out HSV.out HLN.out HGG.out HFS.out).mono ?_; rintro r w4 ⟨b, rfl, hob, hb4⟩; have HOB := Bx.mk hob; have HB4 := Bx.mk hb4; have hS4 : w4.cell? ⟨D, 2, none⟩ = some oV := (hsv4 HSV.out hb4); clear hob hb4))
      go_wp2_with fail
      go_ret2
      have hHB4 : Below w2.heap.size w2 w4 := ((Below.refl w2.heap.size w2).drew).trans HB4.out
      have hlt := (Wd.pqB _ _ _ _ _).lt HQ.out
      refine ⟨oV, b, rfl, N' + 2, e', by have := HN'.out; have := HN.out; omega, ?_, HOW.out.keep hHB4, HOB.out.mono HFP.out.size, HSUB.out, HFP.out.then (Fp.of_below hHB4), HDIS.out, fun k' hk' => ⟨fun hh => ?_, fun hh => ?_⟩⟩
      · rw [HENC.out]
        exact Pq.keepB HQ.out HB4.out
      · have h1 := HOB.out.ge hk'
        have h2 : k' < w2.drew.heap.size := hlt k' hh
        omega
      · have h1 := HOB.out.ge hk'
        have h2 : k' < w2.heap.size := HOW.out.lt hh
        have h3 : w2.drew.heap.size = w2.heap.size := rfl
        omega
    | succ g =>
      have hk : k < n := by omega
      have hkn : k < l.length := by rw [HN.out]; exact hk
      have hkz : (k : Int) < (n : Int) := by omega
      obtain ⟨N', hN', hda, hG⟩ := HR.out
      obtain ⟨b, o, hix, hcs⟩ := HV0.out.at_ k hkn
      obtain ⟨x0, x1⟩ := hcs wr (HV.out wr hda.fp)
      have HCALL := Bx.mk (HFLD.out k N' hkn hN' D _ (hda.keep ((Below.refl wr.heap.size wr).alloc (Nat.le_refl _) (.cells #[.string l[k].1, .string l[k].2] 53))) hG)
      have HG2 := Bx.mk (HGS.out k hkn hG)
      have HT := Bx.mk (HTK.out k hkn)
      have HN' := Bx.mk hN'
      rw [← HT.out] at HCALL
      obtain ⟨f1, hf1⟩ : ∃ f1, l[k].1 = f1 := ⟨_, rfl⟩
      obtain ⟨f2, hf2⟩ : ∃ f2, l[k].2 = f2 := ⟨_, rfl⟩
      rw [hf1, hf2] at HCALL
      rw [hf1] at x0
      rw [hf2] at x1
      clear hf1 hf2 hda hG hcs hN'
      go_wp2_with (go_at_call 25; refine HCALL.out.mono ?_; rintro r w5 ⟨rfl, N5, hn5, hd5⟩; have HN5 := Bx.mk hn5; have HD5 := Bx.mk hd5; clear hn5 hd5)
      go_roundg g
      case measure => omega
      case rel => exact ⟨k + 1, by omega, by go_num, ⟨N5, by have := HN5.out; have := HN'.out; omega, HD5.out, HG2.out⟩⟩
end
end Go.Proofs.YtebakjdeighdnaaGreat

/-
  Contracts of New, Table, Known; what a section keeps.
-/
namespace Go.Proofs.YtebakjdeighdnaaGreat
open Go.RowKit Go.Maps
set_option linter.unusedVariables false

theorem Mo.below {κ : Type} {kt : TypeId} {R : Value → Option (DataW Unit × List MemPlace)} {kl : κ → Lit} {ok : κ → Prop} {f : κ → Option (DataW Unit)} {b N : Nat} {w w' : World} (h : Mo kt R kl ok f b N w) (hb : Below w.heap.size w w') : Mo kt R kl ok f b N w' := h.kept (hb.block _ h.lt)
theorem pfile (p : Nat) (sd : Bool) (B K bs bq bu bb : Nat) (vR : Value) (er : Nat) (j : Nat) (hj : j < 10) : (#[Value.pointer (some ⟨p, 0, none⟩), .bool sd, .int .i64 (B : Int), .int .u64 (K : Int), .map (some bs), .map (some bq), .map (some bu), .map (some bb), vR, .int .i64 (er : Int)] : Array Value)[j]? = some (pF p sd B K bs bq bu bb vR er j) := by
  unfold pF
  match j, hj with
  | 0, _ => rfl
  | 1, _ => rfl
  | 2, _ => rfl
  | 3, _ => rfl
  | 4, _ => rfl
  | 5, _ => rfl
  | 6, _ => rfl
  | 7, _ => rfl
  | 8, _ => rfl
  | 9, _ => rfl
/-- The new encoder's parts. -/
theorem Pq.made {w1 : World} {p cap B : Nat} {S1 : Nat → Prop} (h : Tb p ⟨[], cap, 0⟩ w1 S1) :
    Pq (w1.heap.size + 4) p 0 (Qe.new cap B) (((((w1.alloc (.map #[] 0)).alloc (.map #[] 0)).alloc (.map #[] 0)).alloc (.map #[] 0)).alloc (.cells #[.pointer (some ⟨p, 0, none⟩), .bool false, .int .i64 (B : Int), .int .u64 0, .map (some w1.heap.size), .map (some (w1.heap.size + 1)), .map (some (w1.heap.size + 2)), .map (some (w1.heap.size + 3)), .slice none 0 0, .int .i64 0] 63))
      (Pset (w1.heap.size + 4) w1.heap.size (w1.heap.size + 1) (w1.heap.size + 2) (w1.heap.size + 3) S1 (fun _ => False)) := by
  obtain ⟨wa, ha⟩ : ∃ wa, w1.alloc (.map #[] 0) = wa := ⟨_, rfl⟩
  obtain ⟨wb, hb⟩ : ∃ wb, wa.alloc (.map #[] 0) = wb := ⟨_, rfl⟩
  obtain ⟨wc, hc⟩ : ∃ wc, wb.alloc (.map #[] 0) = wc := ⟨_, rfl⟩
  obtain ⟨wd, hd⟩ : ∃ wd, wc.alloc (.map #[] 0) = wd := ⟨_, rfl⟩
  have ma := Mo.made 123 sR kMk okM w1
  have mb := Mo.made 32 qR kU okU wa
  have mc := Mo.made 32 (plainElem Tryz.prog 3) kU okU wb
  have md := Mo.made 32 (plainElem Tryz.prog 32) kU okU wc
  have ba := (Below.refl w1.heap.size w1).alloc (Nat.le_refl _) (.map #[] 0)
  have bb := (Below.refl wa.heap.size wa).alloc (Nat.le_refl _) (.map #[] 0)
  have bc := (Below.refl wb.heap.size wb).alloc (Nat.le_refl _) (.map #[] 0)
  have bd := (Below.refl wc.heap.size wc).alloc (Nat.le_refl _) (.map #[] 0)
  have sa : wa.heap.size = w1.heap.size + 1 := by rw [← ha]; simp
  have sb : wb.heap.size = w1.heap.size + 2 := by rw [← hb]; simp [sa]
  have sc : wc.heap.size = w1.heap.size + 3 := by rw [← hc]; simp [sb]
  have sd : wd.heap.size = w1.heap.size + 4 := by rw [← hd]; simp [sc]
  rw [ha] at ma ba
  rw [hb, sa] at mb
  rw [hb] at bb
  rw [hc, sb] at mc
  rw [hc] at bc
  rw [hd, sc] at md
  rw [hd] at bd
  rw [ha, hb, hc, hd]
  have be := (Below.refl wd.heap.size wd).alloc (Nat.le_refl _) (.cells #[.pointer (some ⟨p, 0, none⟩), .bool false, .int .i64 (B : Int), .int .u64 0, .map (some w1.heap.size), .map (some (w1.heap.size + 1)), .map (some (w1.heap.size + 2)), .map (some (w1.heap.size + 3)), .slice none 0 0, .int .i64 0] 63)
  have hT := (Wd.tb _ _).keep ((Wd.tb _ _).keep ((Wd.tb _ _).keep ((Wd.tb _ _).keep ((Wd.tb _ _).keep h ba) bb) bc) bd) be
  have hlt := h.lt
  have e1 : secF (fun _ => 0) (fun _ => []) = fun _ => none := funext fun k => by simp [secF]
  have e2 : queF (fun _ => 0) (fun _ => []) = fun _ => none := funext fun k => by simp [queF]
  have e3 : useF (cntU []) = fun _ => none := funext fun k => by simp [useF, cntU]
  have e4 : blkD (blkF [] 0) = fun _ => none := funext fun k => by simp [blkD, blkF, mxc, mxGo, secs]
  refine ⟨fun _ => 0, fun _ => [], ⟨fun s => rfl, fun s => Nat.le_refl _, fun s x hx => by cases hx⟩, w1.heap.size, w1.heap.size + 1, w1.heap.size + 2, w1.heap.size + 3, .slice none 0 0, S1, fun _ => False, ?_, fun _ => Iff.rfl⟩
  unfold qcOf
  simp only [e1, e2, show (Qe.new cap B).op = [] from rfl, show (Qe.new cap B).K = 0 from rfl, e3, e4]
  refine ⟨?_, hT, ((((ma.below bb).below bc).below bd).below be), (((mb.below bc).below bd).below be), ((mc.below bd).below be), md.below be, Ob.none fun W => ⟨Rd.nil W, fun s x hx => (by cases hx)⟩, by omega, ?_, ⟨fun h => h, fun h => h, fun h => h, fun h => h, fun h => h⟩, fun k _ h => h⟩
  · have hrow := World.rowIs_alloc wd #[.pointer (some ⟨p, 0, none⟩), .bool false, .int .i64 (B : Int), .int .u64 0, .map (some w1.heap.size), .map (some (w1.heap.size + 1)), .map (some (w1.heap.size + 2)), .map (some (w1.heap.size + 3)), .slice none 0 0, .int .i64 0] 63 (pF p false B 0 w1.heap.size (w1.heap.size + 1) (w1.heap.size + 2) (w1.heap.size + 3) (.slice none 0 0) 0) (fun j hj => pfile p false B 0 _ _ _ _ _ 0 j hj)
    rw [sd] at hrow
    exact hrow
  · exact ⟨fun hh => (by have := hlt _ hh; omega), fun hh => (by have := hlt _ hh; omega), fun hh => (by have := hlt _ hh; omega), fun hh => (by have := hlt _ hh; omega), fun hh => (by have := hlt _ hh; omega)⟩
section
variable {q p N s d : Nat} {E : Qe} {S : Nat → Prop} {w w1 wx wy : World}
theorem pqknown (h : Pq q p N E w S) : Calls Tryz.prog 18 #[.pointer (some ⟨q, 0, none⟩)] w fun r w' => r = .returned (.int .u64 (E.K : Int)) ∧ w = w' := by
  obtain ⟨a, LV, hlv, hraw⟩ := h
  exact qknown_any hraw
theorem pqtable (h : Pq q p N E w S) : Calls Tryz.prog 19 #[.pointer (some ⟨q, 0, none⟩)] w fun r w' => r = .returned (.pointer (some ⟨p, 0, none⟩)) ∧ w = w' := by
  obtain ⟨c0, _⟩ := h.ecells
  clear h
  go_enter Tryz.func19, Tryz.ntmps19
  go_wp2
  go_ret
  exact ⟨rfl, rfl⟩
/-- In order behind a section. -/
theorem Qe.good.enc (h : E.good) (s : Nat) (hs : s < 18446744073709551616) (l : List Fd) (hl : E.op.length + 1 ≤ 100000) (hz : ∀ f ∈ l, fsz f ≤ 40000) : (E.enc s l).good ∧ (E.enc s l).T.cap = E.T.cap ∧ E.T.tot ≤ (E.enc s l).T.tot ∧ (E.enc s l).T.tot ≤ E.T.tot + l.length := by
  have hG : ∀ (m : List Fd) (a : Qa) (k : Nat), (∀ f ∈ m, fsz f ≤ 40000) → Gd E s k a → Gd E s (k + m.length) (qrun E.op E.K (freeQ E.op E.K E.B s) m a) := by
    intro m
    induction m with
    | nil => intro a k _ h; exact h
    | cons f m ih =>
      intro a k hm hg
      have := ih _ (k + 1) (fun g hg => hm g (List.mem_cons_of_mem _ hg)) (hg.step f (hm f (List.mem_cons_self ..)))
      rw [show k + (f :: m).length = k + 1 + m.length by simp only [List.length_cons]; omega]
      exact this
  have hg := hG l ⟨E.T, capW E.said E.T.cap, [], [], 0⟩ 0 hz (Gd.zero h s E.said)
  rw [Nat.zero_add] at hg
  have hacc : E.acc s l = qrun E.op E.K (freeQ E.op E.K E.B s) l ⟨E.T, capW E.said E.T.cap, [], [], 0⟩ := rfl
  rw [← hacc] at hg
  obtain ⟨g1, g2, g3, g4, g5⟩ := hg.ends
  have h1 := hg.lo
  have h2 := hg.hi
  have hk := h.kn
  refine ⟨⟨hg.inv.gq, fun x hx => ?_, Nat.le_trans hk h1, ?_⟩, hg.inv.cap, h1, h2⟩
  · show x.s < _ ∧ 0 < x.c ∧ (∀ i ∈ x.u, i < x.c) ∧ x.c - 1 ∈ x.u ∧ x.c ≤ (E.acc s l).T.tot
    have hx' : x ∈ (if 0 < (E.acc s l).c then E.op ++ [⟨s, (E.acc s l).c, (E.acc s l).u⟩] else E.op) := hx
    split at hx'
    · rename_i hc
      rcases List.mem_append.1 hx' with hx' | hx'
      · obtain ⟨a1, a2, a3, a4, a5⟩ := h.sec x hx'
        exact ⟨a1, a2, a3, a4, Nat.le_trans a5 h1⟩
      · rw [List.mem_singleton.1 hx']
        refine ⟨hs, hc, fun i hi => g4 i (mem_uq.2 hi), ?_, g3⟩
        rcases hg.inv.cnt with h0 | ⟨i, hi, e⟩
        · omega
        · show (E.acc s l).c - 1 ∈ _
          rw [e, Nat.add_sub_cancel]; exact hi
    · obtain ⟨a1, a2, a3, a4, a5⟩ := h.sec x hx'
      exact ⟨a1, a2, a3, a4, Nat.le_trans a5 h1⟩
  · show (if 0 < (E.acc s l).c then E.op ++ [⟨s, (E.acc s l).c, (E.acc s l).u⟩] else E.op).length ≤ 100000
    split
    · rw [List.length_append, List.length_singleton]; exact hl
    · exact h.len
end
end Go.Proofs.YtebakjdeighdnaaGreat

/-
  Contract of New.
-/
namespace Go.Proofs.YtebakjdeighdnaaGreat
open Go.RowKit Go.Maps
set_option linter.unusedVariables false

set_option maxRecDepth 100000 in
set_option maxHeartbeats 4000000 in
theorem pqnew_any (n b : Int) (hb : -9223372036854775808 ≤ b ∧ b < 9223372036854775808) (w : World) :
    Calls Tryz.prog 6 #[.int .i64 n, .int .i64 b] w fun r w' => ∃ q p S, r = .returned (.pointer (some ⟨q, 0, none⟩)) ∧ Pq q p 0 (Qe.new (clampN n) b.toNat) w' S ∧ (∀ k, S k → w.heap.size ≤ k) ∧ Below w.heap.size w w' := by
  have h58 : ∀ (W : World), (Instr.makeMap 58 none).run Tryz.prog W = .ok (.map (some W.heap.size)) (W.alloc (.map #[] 0)) := fun W => by
    simp [Instr.makeMap, Result.andThen]
  have h59 : ∀ (W : World), (Instr.makeMap 59 none).run Tryz.prog W = .ok (.map (some W.heap.size)) (W.alloc (.map #[] 0)) := fun W => by
    simp [Instr.makeMap, Result.andThen]
  have h60 : ∀ (W : World), (Instr.makeMap 60 none).run Tryz.prog W = .ok (.map (some W.heap.size)) (W.alloc (.map #[] 0)) := fun W => by
    simp [Instr.makeMap, Result.andThen]
  have h61 : ∀ (W : World), (Instr.makeMap 61 none).run Tryz.prog W = .ok (.map (some W.heap.size)) (W.alloc (.map #[] 0)) := fun W => by
    simp [Instr.makeMap, Result.andThen]
  have hle := clampN_le n
  have hcl := clampN_eq n
  have HN := Bx.mk (fun W => new_any (clampN n : Int) W (by omega))
  have HMX : Bx (max b 0 = ((b.toNat : Nat) : Int)) := ⟨by omega⟩
  generalize clampN n = c at HN hle hcl ⊢
  have HT : Bx (Tab.new (c : Int) = ⟨[], c, 0⟩) := ⟨by unfold Tab.new; simp⟩
  simp only [HT.out] at HN
  clear hb hle
  go_enter Tryz.func6, Tryz.ntmps6
  go_wp2_with (go_at_call 21; refine (HN.out _).mono ?_; rintro e w1 ⟨t, S, rfl, hrt, hS, hb⟩; have HRT := Bx.mk hrt; have HS := Bx.mk hS; have HB := Bx.mk hb; clear hrt hS hb)
  go_ret
  rw [HMX.out]
  have hsz := HB.out.size
  refine ⟨w1.heap.size + 4, t, _, rfl, Pq.made HRT.out, ?_, ?_⟩
  · rintro k (hk | hk | hk | hk | hk | hk | hk)
    · exact HS.out k hk
    · exact hk.elim
    all_goals omega
  · exact HB.out.trans ((((((Below.refl w1.heap.size w1).alloc (Nat.le_refl _) _).alloc (by simp; try omega) _).alloc (by simp; try omega) _).alloc (by simp; try omega) _).alloc (by simp; try omega) _ |>.mono hsz)
end Go.Proofs.YtebakjdeighdnaaGreat

/-
  bifoldlaw9.known answers true.
-/
namespace Go.Proofs.YtebakjdeighdnaaGreat
open Go.RowKit Go.Maps
set_option linter.unusedVariables false

def kF1 : Fd := (⟨#[58, 109, 101, 116, 104, 111, 100]⟩, ⟨#[71, 69, 84]⟩)
def kF2 : Fd := (⟨#[120]⟩, ⟨#[121]⟩)
def kE0 : Qe := Qe.new 400 1
def kE1 : Qe := kE0.enc 0 [kF1]
def kE2 : Qe := kE1.enc 4 [kF2]
theorem kn_ins1 : (kE0.acc 0 [kF1]).ins = [63, 241, 2] := by decide +kernel
theorem kn_sec1 : kE0.sec 0 [kF1] = [0, 0, 209] := by decide +kernel
theorem kn_sec2 : kE1.sec 4 [kF2] = [2, 0, 128] := by decide +kernel
theorem kn_len2 : (kE1.acc 4 [kF2]).ins.length = 4 := by decide +kernel
theorem kn_feed : (kE2.feed [132]).2 = 0 ∧ (kE2.feed [132]).1.K = 1 ∧ (kE2.feed [132]).1.T.l.length = 1 := by decide +kernel
theorem kn_rest : kE2.rest = [] := by decide +kernel
theorem kn_cap : kE1.T.cap = 400 ∧ kE1.T.tot = 0 := by decide +kernel
theorem kn_s1 : ((bstr [63, 241, 2]).toList == [63, 241, 2]) = true := by decide +kernel
theorem kn_s2 : ((bstr [0, 0, 209]).toList == [0, 0, 209]) = true := by decide +kernel
theorem kn_s3 : ((bstr [2, 0, 128]).toList == [2, 0, 128]) = true := by decide +kernel
theorem Qe.good.new (cap B : Nat) : (Qe.new cap B).good := ⟨⟨Nat.le_refl _, Nat.zero_le _⟩, fun x hx => (by cases hx), Nat.le_refl _, Nat.zero_le _⟩
theorem kn_g1 : kE1.good := (Qe.good.enc (Qe.good.new 400 1) 0 (by omega) [kF1] (Nat.le_add_left _ _) (by intro f hf; rw [List.mem_singleton.1 hf]; decide)).1
theorem kn_g2 : kE2.good := (Qe.good.enc kn_g1 4 (by omega) [kF2] (by decide +kernel) (by intro f hf; rw [List.mem_singleton.1 hf]; decide)).1
theorem OwB.beside {w w' : World} {B : Nat} {x : Value} {l : List UInt8} {S : Nat → Prop} (ho : OwB w B x l) (hf : Fp S w w') (hn : ∀ k, x.ownBlock = some k → ¬ S k) : OwB w' B x l := ho.kept fun k hk => hf.block k (ho.lt hk) (hn k hk)
set_option maxRecDepth 100000 in
set_option maxHeartbeats 8000000 in
theorem known9_any (w : World) : Calls Tryz.prog 5 #[] w fun e w' => e = .returned (.bool true) ∧ Below w.heap.size w w' := by
  go_enter Tryz.func5, Tryz.ntmps5
  go_wp2_with fail
  refine (pqnew_any 400 1 (by omega) w).mono ?_
  rintro e w1 ⟨q, p, S, rfl, h1, h2, b1⟩
  rw [show Qe.new (clampN 400) (1 : Int).toNat = kE0 from rfl] at h1
  have hA := (Below.refl w1.heap.size w1).alloc (Nat.le_refl _) (.cells #[.string kF1.1, .string kF1.2] 53)
  have hfs := Fs.one w1 _ rfl kF1
  have hlt := (Wd.pqB _ _ _ _ _).lt h1
  have HENC := Bx.mk (pqencode_any (s := 0) (Pq.keepB h1 hA) (Qe.good.new 400 1) (by unfold okU; omega) (l := [kF1]) (fun W hf => hfs.besides hf (fun g hg => by
    simp only [Value.ownBlock, Option.some.injEq] at hg
    subst hg
    exact ⟨by simp, fun hs => Nat.lt_irrefl _ (hlt _ hs)⟩)) (by simp) (by intro f hf; rw [List.mem_singleton.1 hf]; decide) (by decide) (by decide) (by omega))
  have HB1 := Bx.mk b1
  have HA := Bx.mk hA
  have HH2 := Bx.mk h2
  clear h1 h2 b1 hA hfs hlt
  go_wp2_with fail
  refine HENC.out.mono ?_
  rintro e w2 ⟨a1, s1, rfl, N1, S1, hN1, hq1, hoa, hob, hsub1, hf1, hda1, hdb1⟩
  rw [kn_ins1] at hoa
  rw [kn_sec1] at hob
  have HB2 : Bx (Below w.heap.size w w2) := ⟨(HB1.out.trans (HA.out.mono HB1.out.size)).trans (hf1.below (Nat.le_trans HB1.out.size HA.out.size) HH2.out)⟩
  have HH3 : Bx (∀ k, S1 k → w.heap.size ≤ k) := ⟨fun k hk => (hsub1 k hk).elim (HH2.out k) fun h => Nat.le_trans (Nat.le_trans HB1.out.size HA.out.size) h⟩
  have hq1' : Pq q p N1 kE1 w2 S1 := hq1
  have hA2 := (Below.refl w2.heap.size w2).alloc (Nat.le_refl _) (.cells #[.string kF2.1, .string kF2.2] 53)
  have hfs2 := Fs.one w2 _ rfl kF2
  have hlt2 := (Wd.pqB _ _ _ _ _).lt hq1'
  have HENC2 := Bx.mk (pqencode_any (s := 4) (Pq.keepB hq1' hA2) kn_g1 (by unfold okU; omega) (l := [kF2]) (fun W hf => hfs2.besides hf (fun g hg => by
    simp only [Value.ownBlock, Option.some.injEq] at hg
    subst hg
    exact ⟨by simp, fun hs => Nat.lt_irrefl _ (hlt2 _ hs)⟩)) (by simp) (by intro f hf; rw [List.mem_singleton.1 hf]; decide) (by rw [kn_cap.1]; decide) (by rw [kn_cap.2]; decide) (by simp at hN1; omega))
  have HA2 := Bx.mk hA2
  have HOA := Bx.mk (hoa.keep hA2)
  have HOB := Bx.mk (hob.keep hA2)
  have HDA := Bx.mk hda1
  have HDB := Bx.mk hdb1
  have HN1 := Bx.mk hN1
  clear hq1 hq1' hoa hob hsub1 hf1 hda1 hdb1 hN1 hA2 hfs2 hlt2 HENC
  go_wp2_with fail
  refine HENC2.out.mono ?_
  rintro e w3 ⟨a2, s2, rfl, N2, S2, hN2, hq2, hoa2, hob2, hsub2, hf2, hda2, hdb2⟩
  rw [kn_sec2] at hob2
  have hq2' : Pq q p N2 kE2 w3 S2 := hq2
  have HB3 : Bx (Below w.heap.size w w3) := ⟨(HB2.out.trans (HA2.out.mono HB2.out.size)).trans (hf2.below (Nat.le_trans HB2.out.size HA2.out.size) HH3.out)⟩
  have HH4 : Bx (∀ k, S2 k → w.heap.size ≤ k) := ⟨fun k hk => (hsub2 k hk).elim (HH3.out k) fun h => Nat.le_trans (Nat.le_trans HB2.out.size HA2.out.size) h⟩
  have hA3 := (Below.refl w3.heap.size w3).alloc (Nat.le_refl _) (.cells #[.int .u8 132] 5)
  have hO1 := (HOA.out.beside hf2 HDA.out).keep hA3
  have hO2 := (HOB.out.beside hf2 (fun k hk => (HDB.out k hk).1)).keep hA3
  have hO3 := hob2.keep hA3
  have hO4 := hoa2.keep hA3
  have hn1 : ∀ k, a1.ownBlock = some k → ¬ S2 k := fun k hk hh => (hsub2 k hh).elim (HDA.out k hk) fun hge => by have := HOA.out.lt hk; omega
  have hn2 : ∀ k, s1.ownBlock = some k → ¬ S2 k := fun k hk hh => (hsub2 k hh).elim (HDB.out k hk).1 fun hge => by have := HOB.out.lt hk; omega
  have HFEED := Bx.mk (feed_any (Pq.keepB hq2' hA3) kn_g2 (by have := HN1.out; simp at this hN2; omega) (bV := .slice (some ⟨w3.heap.size, 0, none⟩) 1 1) (b := [132]) (Rd.lit w3 5 #[.int .u8 132] 1 rfl (by simp [maxLen])) (by simp) (by rw [kn_rest]; simp))
  have HO1 := Bx.mk hO1
  have HO2 := Bx.mk hO2
  have HO3 := Bx.mk hO3
  have HO4 := Bx.mk hO4
  have HS1 := Bx.mk hn1
  have HS2 := Bx.mk hn2
  have HS3 := Bx.mk (fun k hk => (hdb2 k hk).1)
  have HS4 := Bx.mk hda2
  have HA3 := Bx.mk hA3
  clear hq2 hq2' hoa2 hob2 hsub2 hf2 hda2 hdb2 hN2 hA3 hO1 hO2 hO3 hO4 hn1 hn2 HENC2 HOA HOB HDA HDB
  go_wp2_with fail
  refine HFEED.out.mono ?_
  rintro e w4 ⟨rfl, S3, hq3, hsub3, hf3⟩
  rw [kn_feed.1]
  have HB4 : Bx (Below w.heap.size w w4) := ⟨(HB3.out.trans (HA3.out.mono HB3.out.size)).trans (hf3.below (Nat.le_trans HB3.out.size HA3.out.size) HH4.out)⟩
  have hP1 := HO1.out.beside hf3 HS1.out
  have hP2 := HO2.out.beside hf3 HS2.out
  have hP3 := HO3.out.beside hf3 HS3.out
  have hP4 := HO4.out.beside hf3 HS4.out
  have hc1 := conv_str hP1.bs
  have hc2 := conv_str hP2.bs
  have hc3 := conv_str hP3.bs
  have hl4 := fun ty W => hP4.bs.run_len ty W
  rw [kn_len2] at hl4
  have HK := Bx.mk (pqknown hq3)
  have HTB := Bx.mk (pqtable hq3)
  rw [kn_feed.2.1] at HK
  obtain ⟨aa, LV, hlv, hraw⟩ := hq3
  obtain ⟨ST, hT⟩ := hraw.tb
  have HLEN := Bx.mk (dlen_any hT)
  rw [show (qcOf N2 (kE2.feed [132]).1 (blkF (kE2.feed [132]).1.op (kE2.feed [132]).1.K) aa LV).T = (kE2.feed [132]).1.T from rfl, kn_feed.2.2] at HLEN
  have z1 := kn_s1
  have z2 := kn_s2
  have z3 := kn_s3
  clear hP1 hP2 hP3 hP4 hlv hraw hT hsub3 hf3 HFEED
  go_wp2_with (first
    | (go_at_call 18; refine HK.out.mono ?_; rintro r w5 ⟨rfl, rfl⟩)
    | (go_at_call 19; refine HTB.out.mono ?_; rintro r w5 ⟨rfl, rfl⟩)
    | (go_at_call 20; refine HLEN.out.mono ?_; rintro r w6 ⟨rfl, hb6⟩))
  go_ret
  exact ⟨rfl, HB4.out.trans (hb6.mono HB4.out.size)⟩
end Go.Proofs.YtebakjdeighdnaaGreat
