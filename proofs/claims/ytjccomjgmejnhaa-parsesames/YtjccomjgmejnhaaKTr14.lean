/-
  provisoplain.Program: a program's copy in memory of its own. Conditions: lengths fit.
-/
import Derived.Test.YtjccomjgmejnhaaKTr13
namespace Go.Proofs.Ytjccomjgmejnhaa
open Go.RowKit

def PgAll (n : Nat) (P : Nat → Prop) (x : Pg) : Prop := RowAll rcN P x.ra x.R ∧ RowAll (fuN n) P x.ua x.U
theorem PgAll.mono {n : Nat} {P Q : Nat → Prop} {x : Pg} (hq : ∀ b, P b → Q b) (h : PgAll n P x) : PgAll n Q x := ⟨h.1.mono hq, h.2.mono hq⟩
theorem PgOk.lt {n : Nat} {W : World} {x : Pg} (h : PgOk n W x) : PgAll n (fun b => b < W.heap.size) x := ⟨h.recs.lt, h.funs.lt⟩
theorem PgOk.far {n : Nat} {W W' : World} {x : Pg} {k : Nat} (h : PgOk n W x) (hg : W.grownBy W' (some k)) (hn : PgAll n (fun b => b ≠ k) x) : PgOk n W' x := ⟨h.recs.far hg hn.1, h.funs.far hg hn.2, h.nilR, h.nilU, h.fitR, h.fitU⟩
theorem RowAt.grownR {α : Type} {N : Nd α} {W W' : World} {ao : Option Addr} {L : List α} {row : Option Nat} (h : RowAt N W ao L) (hg : W.grownBy W' row) (hn : ∀ q, row = some q → RowAll N (fun b => b ≠ q) ao L) : RowAt N W' ao L := by
  cases row with
  | none => exact h.below ⟨hg.os, hg.tape, hg.output, hg.size, fun k hk => hg.block k hk (by simp)⟩
  | some q => exact h.far hg (hn q rfl)

set_option maxRecDepth 20000 in
set_option maxHeartbeats 16000000 in
theorem Program_any (n : Nat) (p : Pg) (w : World) (hp : PgOk n w p) :
    Calls Try.prog 4 #[.agg #[.slice p.ra p.R.length p.rc, .slice p.ua p.U.length p.uc]] w fun e w' => ∃ c : Pg, e = .returned (.agg #[.slice c.ra c.R.length c.rc, .slice c.ua c.U.length c.uc]) ∧ PgOk n w' c ∧ sameG n p c ∧ PgAll n (fun b => w.heap.size ≤ b) c ∧ Below w.heap.size w w' := by
  obtain ⟨i0, hi0, hz0, hz1, hz2⟩ := info_parts infoRc
  obtain ⟨i1, hi1, hy0, hy1, hy2⟩ := info_parts infoFu
  have al1 := (Below.refl w.heap.size w).alloc (Nat.le_refl _) (.cells #[.slice p.ra p.R.length p.rc, .slice p.ua p.U.length p.uc] 25)
  have al2 := al1.alloc (by simp) (.cells #[.slice none 0 0, .slice none 0 0] 25)
  have al3 := al2.alloc (by simp; omega) (.cells #[.slice none 0 0, .slice none 0 0] 25)
  have n1 := heap_alloc_new w (.cells #[.slice p.ra p.R.length p.rc, .slice p.ua p.U.length p.uc] 25)
  have n2 := heap_alloc_new (w.alloc (.cells #[.slice p.ra p.R.length p.rc, .slice p.ua p.U.length p.uc] 25)) (.cells #[.slice none 0 0, .slice none 0 0] 25)
  have n3 := heap_alloc_new ((w.alloc (.cells #[.slice p.ra p.R.length p.rc, .slice p.ua p.U.length p.uc] 25)).alloc (.cells #[.slice none 0 0, .slice none 0 0] 25)) (.cells #[.slice none 0 0, .slice none 0 0] 25)
  rw [World.size_alloc] at n2
  rw [World.size_alloc, World.size_alloc] at n3
  have b23 := (Below.refl ((w.alloc (.cells #[.slice p.ra p.R.length p.rc, .slice p.ua p.U.length p.uc] 25)).alloc (.cells #[.slice none 0 0, .slice none 0 0] 25)).heap.size ((w.alloc (.cells #[.slice p.ra p.R.length p.rc, .slice p.ua p.U.length p.uc] 25)).alloc (.cells #[.slice none 0 0, .slice none 0 0] 25))).alloc (Nat.le_refl _) (.cells #[.slice none 0 0, .slice none 0 0] 25)
  have b12 := (Below.refl (w.alloc (.cells #[.slice p.ra p.R.length p.rc, .slice p.ua p.U.length p.uc] 25)).heap.size (w.alloc (.cells #[.slice p.ra p.R.length p.rc, .slice p.ua p.U.length p.uc] 25))).alloc (Nat.le_refl _) (.cells #[.slice none 0 0, .slice none 0 0] 25)
  have HG0 : Hid (GRun w (((w.alloc (.cells #[.slice p.ra p.R.length p.rc, .slice p.ua p.U.length p.uc] 25)).alloc (.cells #[.slice none 0 0, .slice none 0 0] 25)).alloc (.cells #[.slice none 0 0, .slice none 0 0] 25)) p (.slice none 0 0) (.slice none 0 0)) := hide ⟨((b23.block _ (by simp; omega)).trans (b12.block _ (by simp))).trans n1, (b23.block _ (by simp)).trans n2, n3, al3⟩
  have H := hide hp
  have hlR : p.R.length < 9223372036854775000 := by have := hp.fitR; omega
  have hlU : p.U.length < 9223372036854775000 := by have := hp.fitU; omega
  clear al1 al2 al3 n1 n2 n3 b23 b12 hp
  go_enter Try.func4, Try.ntmps4
  go_upto_region 2 with fail
  generalize (((w.alloc (.cells #[.slice p.ra p.R.length p.rc, .slice p.ua p.U.length p.uc] 25)).alloc (.cells #[.slice none 0 0, .slice none 0 0] 25)).alloc (.cells #[.slice none 0 0, .slice none 0 0] 25)) = W1 at HG0 ⊢
  have k0 := (unhide HG0).par.c 0 rfl
  go_wp2_with fail
  clear k0
  go_loopw [11] (fun i wr => ∃ (k : Nat) (M : List Rcd) (v : Value), k ≤ p.R.length ∧ i = .int .i64 (k : Int) ∧ Hid (M.length = k) ∧ Hid (GRun w wr p v (.slice none 0 0)) ∧ Hid (Bld rcN wr (w.heap.size + 3) v M) ∧ Hid (∀ (i : Nat) a b, p.R[i]? = some a → M[i]? = some b → sameR a b)) (fun i _ => p.R.length - (intOf i).toNat)
  case atStart => exact ⟨0, [], .slice none 0 0, by omega, rfl, hide rfl, HG0, hide (Bld.nil _ _ _), hide (fun i a b _ hb => by simp at hb)⟩
  case round =>
    obtain ⟨k, M, v, hk, rfl, HK, HG, HBL, HC⟩ := hrel
    by_cases hlt : k < p.R.length
    · have j1 : ((k : Nat) : Int) < ((p.R.length : Nat) : Int) := by omega
      have hx := List.getElem?_eq_getElem hlt
      obtain ⟨b, off, eb, hra, hok⟩ := (unhide H).recs.below (unhide HG).bel k _ hx
      generalize p.R[k] = r at hx hra hok
      have hra : wr.rangeAt b (off + k * 4) (rcC r) := hra
      have c0 := hra 0 _ rfl
      have c1 := hra 1 _ rfl
      have c2 := hra 2 _ rfl
      have c3 := hra 3 _ rfl
      rw [Nat.add_zero] at c0
      rw [eb]
      obtain ⟨va0, vc0, rfl⟩ := (unhide HBL).slice
      have HX := hide hx
      have HOK := hide hok
      clear hx hok hra eb
      go_upto_region 5 with fail
      have hal : Below wr.heap.size wr (wr.alloc (.cells #[.int .i64 r.pl, .string r.nm, .string r.par, .slice r.fa r.fs.length r.fc] 30)) := (Below.refl _ _).alloc (Nat.le_refl _) _
      have HF0 : Hid (Bx (wr.alloc (.cells #[.int .i64 r.pl, .string r.nm, .string r.par, .slice r.fa r.fs.length r.fc] 30)) wr.heap.size 30 #[.int .i64 r.pl, .string r.nm, .string r.par, .slice r.fa r.fs.length r.fc]) := hide (heap_alloc_new wr _)
      have HCL := hide (clonePm_any r.fa r.fc r.fs _ ((unhide HOK).2.below hal) (unhide HOK).1.nil (unhide HOK).1.fit)
      have HAL := hide hal
      have hge : w.heap.size + 3 ≤ wr.heap.size := (unhide HG).out.lt
      clear c0 c1 c2 c3 hal
      generalize wr.alloc (.cells #[.int .i64 r.pl, .string r.nm, .string r.par, .slice r.fa r.fs.length r.fc] 30) = Wa at HF0 HCL HAL ⊢
      have k3 := (unhide HF0).c 3 rfl
      go_wp2_with fail
      refine (unhide HCL).mono ?_
      rintro e Wb ⟨v1, rfl, hb1, hbl⟩
      obtain ⟨fa1, fc1, rfl⟩ := hb1.slice
      have HF1 := hide ((unhide HF0).below hbl)
      have hAb : Below wr.heap.size wr Wb := (unhide HAL).trans (hbl.mono (unhide HAL).size)
      have HAB := hide hAb
      have HB1 := hide hb1
      have hAs := (unhide HAL).size
      clear k3 hb1 hbl hAb HCL
      have k3 := (unhide HF1).c 3 rfl
      have f3 := (unhide HF1).f 3
      go_upto_region 6 with fail
      have hset := grownBy_set Wb wr.heap.size 3 (.slice fa1 r.fs.length fc1)
      have HF2 : Hid (Bx (Wb.setCell ⟨wr.heap.size, 3, none⟩ (.slice fa1 r.fs.length fc1)) wr.heap.size 30 #[.int .i64 r.pl, .string r.nm, .string r.par, .slice fa1 r.fs.length fc1]) := hide ((unhide HF1).set 3 _ rfl)
      have HFB : Hid (wr.heap.size < Wa.heap.size) := hide (unhide HF0).lt
      obtain ⟨fa', fc', e2, hrow, hall, hnil⟩ := ((unhide HB1).box hset (unhide HFB)).out
      injection e2 with e3 _ e4
      subst e3
      have HROW := hide (And.intro hrow (And.intro hall hnil))
      have HBW := hide ((unhide HAB).setCell (p := ⟨wr.heap.size, 3, none⟩) (Nat.le_refl _) (.slice fa1 r.fs.length fc1))
      clear hset hrow hall hnil e4 k3 f3
      generalize Wb.setCell ⟨wr.heap.size, 3, none⟩ (.slice fa1 r.fs.length fc1) = Wc at HF2 HROW HBW ⊢
      have HGc := hide ((unhide HG).below (unhide HBW))
      have q0 := (unhide HGc).out.c 0 rfl
      have HOd : Hid ((Wc.alloc (.cells #[.int .i64 r.pl, .string r.nm, .string r.par, .slice fa1 r.fs.length fc1] 30)).ownsRow (w.heap.size + 3) 30 4 (.slice va0 M.length vc0) M.length (vals rcN M)) := hide (rowBelow (unhide HBL).own ((unhide HBW).alloc (unhide HBW).size _))
      have hbase : w.heap.size + 3 ≤ Wc.heap.size := Nat.le_trans hge (unhide HBW).size
      have HMk : Hid (M.length + 1 ≤ maxLen ∧ (M.length + 1) * 64 ≤ 140737488355328) := hide (by have := unhide HK; have := (unhide H).fitR; unfold maxLen; omega)
      have HY : Hid (rcN.ok Wc ({ r with fa := fa1, fc := fc1 } : Rcd) ∧ rcN.all (fun b => wr.heap.size ≤ b) ({ r with fa := fa1, fc := fc1 } : Rcd) ∧ sameR r ({ r with fa := fa1, fc := fc1 } : Rcd)) := hide ⟨⟨⟨(unhide HROW).2.2, (unhide HOK).1.fit, (unhide HOK).1.name, (unhide HOK).1.nmP⟩, (unhide HROW).1⟩, (unhide HROW).2.1.mono (fun b hb => by omega), ⟨rfl, rfl, rfl, rfl⟩⟩
      have hob : w.heap.size + 2 < Wc.heap.size := by omega
      go_wp2_with (first | (refine wpList_load_rowG (by kernel_rfl) 30 (.tmp 5) rfl wr.heap.size rfl 30 #[.int .i64 r.pl, .string r.nm, .string r.par, .slice fa1 r.fs.length fc1] (0, 0) _ (unhide HF2) Try.underlying30 rfl (by kernel_rfl) ?_) | (at_builtin; refine wpList_append_lies _ rfl _ _ 22 rfl (w.heap.size + 3) 30 i0 _ 4 64 Try.underlying22 hi0 hz0 hz1 hz2 rfl (by omega) (.slice va0 M.length vc0) M.length (vals rcN M) rfl (unhide HOd) ⟨Wc.heap.size, 0, none⟩ 1 1 (rcC ({ r with fa := fa1, fc := fc1 } : Rcd)) rfl rfl (World.news_of_block (cs := #[.int .i64 r.pl, .string r.nm, .string r.par, .slice fa1 r.fs.length fc1]) (t := 30) (fr := (0, 0)) (heap_alloc_new Wc _)) (rcC_one _) (by omega) (unhide HMk).1 (unhide HMk).2 ?hb1 (Wc.heap.size + 1) ?hb2 ?_))
      case hb1 => omega
      intro g3 cap3 w3 hown hgrow hat hlt3
      have HVG : Hid (∀ q, (Value.slice va0 M.length vc0).ownBlock = some q → w.heap.size + 3 ≤ q) := hide (fun q e => (World.ownsRow.lt (unhide HBL).own q e).1)
      have HG3 := hide (((unhide HGc).below ((Below.refl Wc.heap.size Wc).alloc (Nat.le_refl _) (.cells #[.int .i64 r.pl, .string r.nm, .string r.par, .slice fa1 r.fs.length fc1] 30))).grown hgrow (unhide HVG))
      have HBL3 := hide ((unhide HBL).step (unhide HBW) (unhide HY).1 (unhide HY).2.1 hge hown hgrow hat)
      have HK2 : Hid ((M ++ [({ r with fa := fa1, fc := fc1 } : Rcd)]).length = k + 1) := hide (by rw [List.length_append, unhide HK]; rfl)
      have HC2 := hide (snoc_two (R := sameR) (unhide HC) (by rw [unhide HK]; exact unhide HX) (unhide HY).2.2)
      have HG4 := hide ((unhide HG3).set0 (.slice (some ⟨g3, 0, none⟩) (M.length + 1) cap3))
      have HBL4 := hide ((unhide HBL3).box (grownBy_set w3 (w.heap.size + 2) 0 (.slice (some ⟨g3, 0, none⟩) (M.length + 1) cap3)) (by omega))
      have r1 := (unhide HG3).out.c 0 rfl
      have f1 := (unhide HG3).out.f 0
      clear hown hgrow hat hlt3 q0
      go_wp2
      go_roundw
      case rel => exact ⟨k + 1, _, _, by omega, by go_num, HK2, HG4, HBL4, HC2⟩
      case measure => simp [intOf]; omega
    · have j1 : ¬ ((k : Nat) : Int) < ((p.R.length : Nat) : Int) := by omega
      have hln : M.length = p.R.length := by have := unhide HK; omega
      obtain ⟨va, vc, rfl, hrow, hall, hnil⟩ := (unhide HBL).out
      have HTW : Hid (Two sameR p.R M) := hide ⟨hln, unhide HC⟩
      have HALL := hide hall
      have HLT := hide hrow.lt
      have HNIL := hide hnil
      have HRW := hide hrow
      have k1 := (unhide HG).par.c 1 rfl
      have hV0 : w.heap.size + 2 < wr.heap.size := (unhide HG).out.lt
      clear hln hrow hall hnil HBL HC HK
      go_wp2_with fail
      clear k1
      obtain ⟨V0, HV0⟩ : ∃ q, q = wr := ⟨_, rfl⟩
      subst HV0
      go_loopw [29] (fun i wr => ∃ (k2 : Nat) (M2 : List Fu) (v2 : Value), k2 ≤ p.U.length ∧ i = .int .i64 (k2 : Int) ∧ Hid (M2.length = k2) ∧ Hid (GRun w wr p (.slice va M.length vc) v2) ∧ Hid (Bld (fuN n) wr V0.heap.size v2 M2) ∧ Hid (∀ (i : Nat) a b, p.U[i]? = some a → M2[i]? = some b → sameU n a b) ∧ Hid (RowAt rcN wr va M) ∧ Hid (V0.heap.size ≤ wr.heap.size)) (fun i _ => p.U.length - (intOf i).toNat)
      case atStart => exact ⟨0, [], .slice none 0 0, by omega, rfl, hide rfl, HG, hide (Bld.nil _ _ _), hide (fun i a b _ hb => by simp at hb), HRW, hide (Nat.le_refl _)⟩
      case round =>
        obtain ⟨k2, M2, v2, hk2, rfl, HK2, HG2, HBL2, HC2, HRR, HVS⟩ := hrel
        clear HG HRW
        by_cases hlt2 : k2 < p.U.length
        · have j2 : ((k2 : Nat) : Int) < ((p.U.length : Nat) : Int) := by omega
          have hx := List.getElem?_eq_getElem hlt2
          obtain ⟨b, off, eb, hra, hok⟩ := (unhide H).funs.below (unhide HG2).bel k2 _ hx
          generalize p.U[k2] = r at hx hra hok
          have hra : wr.rangeAt b (off + k2 * 7) (fuC r) := hra
          have c0 := hra 0 _ rfl
          have c1 := hra 1 _ rfl
          have c2 := hra 2 _ rfl
          have c3 := hra 3 _ rfl
          have c4 := hra 4 _ rfl
          have c5 := hra 5 _ rfl
          have c6 := hra 6 _ rfl
          rw [Nat.add_zero] at c0
          rw [eb]
          obtain ⟨ub0, uc0, rfl⟩ := (unhide HBL2).slice
          have HX := hide hx
          have HOK := hide hok
          clear hx hok hra eb
          go_upto_region 11 with fail
          have hal : Below wr.heap.size wr (wr.alloc (.cells #[.int .i64 r.pl, .string r.nm, .string r.of, .slice r.pa r.ps.length r.pc, .slice r.ba r.bs.length r.bc, .int .u8 (r.res : Int), .int .i64 r.lo] 37)) := (Below.refl _ _).alloc (Nat.le_refl _) _
          have HF0 : Hid (Bx (wr.alloc (.cells #[.int .i64 r.pl, .string r.nm, .string r.of, .slice r.pa r.ps.length r.pc, .slice r.ba r.bs.length r.bc, .int .u8 (r.res : Int), .int .i64 r.lo] 37)) wr.heap.size 37 #[.int .i64 r.pl, .string r.nm, .string r.of, .slice r.pa r.ps.length r.pc, .slice r.ba r.bs.length r.bc, .int .u8 (r.res : Int), .int .i64 r.lo]) := hide (heap_alloc_new wr _)
          have HCL := hide (clonePm_any r.pa r.pc r.ps _ ((unhide HOK).2.1.below hal) (unhide HOK).1.nilP (unhide HOK).1.fitP)
          have HST := hide ((unhide HOK).2.2.below hal)
          have HAL := hide hal
          have hge : V0.heap.size ≤ wr.heap.size := unhide HVS
          clear c0 c1 c2 c3 c4 c5 c6 hal
          generalize wr.alloc (.cells #[.int .i64 r.pl, .string r.nm, .string r.of, .slice r.pa r.ps.length r.pc, .slice r.ba r.bs.length r.bc, .int .u8 (r.res : Int), .int .i64 r.lo] 37) = Wa at HF0 HCL HST HAL ⊢
          have k3 := (unhide HF0).c 3 rfl
          go_wp2_with fail
          refine (unhide HCL).mono ?_
          rintro e Wb ⟨v1, rfl, hb1, hbl⟩
          obtain ⟨fa1, fc1, rfl⟩ := hb1.slice
          have HF1 := hide ((unhide HF0).below hbl)
          have HST1 := hide ((unhide HST).below hbl)
          have hAb : Below wr.heap.size wr Wb := (unhide HAL).trans (hbl.mono (unhide HAL).size)
          have HAB := hide hAb
          have HB1 := hide hb1
          have hAs := (unhide HAL).size
          clear k3 hb1 hbl hAb HCL HST
          have k3 := (unhide HF1).c 3 rfl
          have f3 := (unhide HF1).f 3
          go_upto_region 12 with fail
          have hset := grownBy_set Wb wr.heap.size 3 (.slice fa1 r.ps.length fc1)
          have HF2 : Hid (Bx (Wb.setCell ⟨wr.heap.size, 3, none⟩ (.slice fa1 r.ps.length fc1)) wr.heap.size 37 #[.int .i64 r.pl, .string r.nm, .string r.of, .slice fa1 r.ps.length fc1, .slice r.ba r.bs.length r.bc, .int .u8 (r.res : Int), .int .i64 r.lo]) := hide ((unhide HF1).set 3 _ rfl)
          have HFB : Hid (wr.heap.size < Wa.heap.size) := hide (unhide HF0).lt
          obtain ⟨fa', fc', e2, hrow, hall, hnil⟩ := ((unhide HB1).box hset (unhide HFB)).out
          injection e2 with e3 _ e4
          subst e3
          have HROW := hide (And.intro hrow (And.intro hall hnil))
          have HST2 := hide ((unhide HST1).far hset ((unhide HOK).2.2.lt.mono (fun b hb => by omega)))
          have HBW := hide ((unhide HAB).setCell (p := ⟨wr.heap.size, 3, none⟩) (Nat.le_refl _) (.slice fa1 r.ps.length fc1))
          clear hset hrow hall hnil e4 k3 f3
          generalize Wb.setCell ⟨wr.heap.size, 3, none⟩ (.slice fa1 r.ps.length fc1) = Wc at HF2 HROW HBW HST2 ⊢
          have hcs := (unhide HBW).size
          have HFC := hide (unhide HF2).lt
          have k4 := (unhide HF2).c 4 rfl
          go_wp2_with fail
          refine (Stmts_any n r.ba r.bc r.bs Wc (unhide HST2) (unhide HOK).1.fitB).mono ?_
          rintro e Wd ⟨ba1, bc1, B1, rfl, hr1, ha1, hn1, ht1, hb1⟩
          have HF3 := hide ((unhide HF2).below hb1)
          have HPM := hide ((unhide HROW).1.below hb1)
          have HBD := hide ((unhide HBW).trans (hb1.mono (unhide HBW).size))
          have HS4 := hide (And.intro hr1 (And.intro ha1 (And.intro hn1 ht1)))
          clear k4 hr1 ha1 hn1 ht1 hb1
          have k4 := (unhide HF3).c 4 rfl
          have f4 := (unhide HF3).f 4
          go_upto_region 13 with fail
          have hset := grownBy_set Wd wr.heap.size 4 (.slice ba1 B1.length bc1)
          have HF4 : Hid (Bx (Wd.setCell ⟨wr.heap.size, 4, none⟩ (.slice ba1 B1.length bc1)) wr.heap.size 37 #[.int .i64 r.pl, .string r.nm, .string r.of, .slice fa1 r.ps.length fc1, .slice ba1 B1.length bc1, .int .u8 (r.res : Int), .int .i64 r.lo]) := hide ((unhide HF3).set 4 _ rfl)
          have HPM2 := hide ((unhide HPM).far hset ((unhide HROW).2.1.mono (fun b hb => by have := unhide HFB; omega)))
          have HST4 := hide ((unhide HS4).1.far hset ((unhide HS4).2.1.mono (fun b hb => by have := unhide HFC; omega)))
          have HBE := hide ((unhide HBD).setCell (p := ⟨wr.heap.size, 4, none⟩) (Nat.le_refl _) (.slice ba1 B1.length bc1))
          clear hset k4 f4
          generalize Wd.setCell ⟨wr.heap.size, 4, none⟩ (.slice ba1 B1.length bc1) = We at HF4 HPM2 HST4 HBE ⊢
          have HGc := hide ((unhide HG2).below (unhide HBE))
          have HRc := hide ((unhide HRR).below (unhide HBE))
          have hes := (unhide HBE).size
          have q0 := (unhide HGc).out.c 1 rfl
          have HOd : Hid ((We.alloc (.cells #[.int .i64 r.pl, .string r.nm, .string r.of, .slice fa1 r.ps.length fc1, .slice ba1 B1.length bc1, .int .u8 (r.res : Int), .int .i64 r.lo] 37)).ownsRow V0.heap.size 37 7 (.slice ub0 M2.length uc0) M2.length (vals (fuN n) M2)) := hide (rowBelow (unhide HBL2).own ((unhide HBE).alloc (unhide HBE).size _))
          have hbase : V0.heap.size ≤ We.heap.size := Nat.le_trans hge (unhide HBE).size
          have HMk : Hid (M2.length + 1 ≤ maxLen ∧ (M2.length + 1) * 104 ≤ 140737488355328) := hide (by have := unhide HK2; have := (unhide H).fitU; unfold maxLen; omega)
          have HY : Hid ((fuN n).ok We ({ r with pa := fa1, pc := fc1, ba := ba1, bc := bc1, bs := B1 } : Fu) ∧ (fuN n).all (fun b => wr.heap.size ≤ b) ({ r with pa := fa1, pc := fc1, ba := ba1, bc := bc1, bs := B1 } : Fu) ∧ sameU n r ({ r with pa := fa1, pc := fc1, ba := ba1, bc := bc1, bs := B1 } : Fu)) := hide ⟨⟨⟨(unhide HROW).2.2, (unhide HS4).2.2.1, (unhide HOK).1.fitP, by show B1.length * 144 ≤ _; rw [(unhide HS4).2.2.2.1]; exact (unhide HOK).1.fitB, (unhide HOK).1.name, (unhide HOK).1.nmOf⟩, unhide HPM2, unhide HST4⟩, ⟨(unhide HROW).2.1.mono (fun b hb => by omega), (unhide HS4).2.1.mono (fun b hb => by omega)⟩, ⟨⟨rfl, rfl, rfl, rfl, rfl, rfl⟩, (unhide HS4).2.2.2⟩⟩
          have hob : w.heap.size + 2 < We.heap.size := by omega
          go_wp2_with (first | (refine wpList_load_rowG (by kernel_rfl) 37 (.tmp 7) rfl wr.heap.size rfl 37 #[.int .i64 r.pl, .string r.nm, .string r.of, .slice fa1 r.ps.length fc1, .slice ba1 B1.length bc1, .int .u8 (r.res : Int), .int .i64 r.lo] (0, 0) _ (unhide HF4) Try.underlying37 rfl (by kernel_rfl) ?_) | (at_builtin; (refine wpList_append_lies _ rfl _ _ 23 rfl V0.heap.size 37 i1 _ 7 104 Try.underlying23 hi1 hy0 hy1 hy2 rfl (by omega) (.slice ub0 M2.length uc0) M2.length (vals (fuN n) M2) rfl (unhide HOd) ⟨We.heap.size, 0, none⟩ 1 1 (fuC ({ r with pa := fa1, pc := fc1, ba := ba1, bc := bc1, bs := B1 } : Fu)) rfl rfl (World.news_of_block (cs := #[.int .i64 r.pl, .string r.nm, .string r.of, .slice fa1 r.ps.length fc1, .slice ba1 B1.length bc1, .int .u8 (r.res : Int), .int .i64 r.lo]) (t := 37) (fr := (0, 0)) (heap_alloc_new We _)) (fuC_one _) (by omega) (unhide HMk).1 (unhide HMk).2 ?hc1 (We.heap.size + 1) ?hc2 ?_)))
          case hc1 => simp only [World.size_alloc]; omega
          case hc2 => simp only [World.size_alloc]
          intro g3 cap3 w3 hown hgrow hat hlt3
          have HVG : Hid (∀ q, (Value.slice ub0 M2.length uc0).ownBlock = some q → V0.heap.size ≤ q) := hide (fun q e => (World.ownsRow.lt (unhide HBL2).own q e).1)
          have HG3 := hide (((unhide HGc).below ((Below.refl We.heap.size We).alloc (Nat.le_refl _) (.cells #[.int .i64 r.pl, .string r.nm, .string r.of, .slice fa1 r.ps.length fc1, .slice ba1 B1.length bc1, .int .u8 (r.res : Int), .int .i64 r.lo] 37))).grown hgrow (fun q e => by have := unhide HVG q e; omega))
          have HBL3 := hide ((unhide HBL2).step (unhide HBE) (unhide HY).1 (unhide HY).2.1 hge hown hgrow hat)
          have HRd := hide (((unhide HRc).below ((Below.refl We.heap.size We).alloc (Nat.le_refl _) (.cells #[.int .i64 r.pl, .string r.nm, .string r.of, .slice fa1 r.ps.length fc1, .slice ba1 B1.length bc1, .int .u8 (r.res : Int), .int .i64 r.lo] 37))).grownR hgrow (fun q e => (unhide HLT).mono (fun b hb => by have := unhide HVG q e; omega)))
          have HK3 : Hid ((M2 ++ [({ r with pa := fa1, pc := fc1, ba := ba1, bc := bc1, bs := B1 } : Fu)]).length = k2 + 1) := hide (by rw [List.length_append, unhide HK2]; rfl)
          have HC3 := hide (snoc_two (R := sameU n) (unhide HC2) (by rw [unhide HK2]; exact unhide HX) (unhide HY).2.2)
          have HG4 := hide ((unhide HG3).set1 (.slice (some ⟨g3, 0, none⟩) (M2.length + 1) cap3))
          have hst := grownBy_set w3 (w.heap.size + 2) 1 (.slice (some ⟨g3, 0, none⟩) (M2.length + 1) cap3)
          have HBL4 := hide ((unhide HBL3).box hst hV0)
          have HRe := hide ((unhide HRd).far hst ((unhide HALL).mono (fun b hb => by omega)))
          have HVS2 : Hid (V0.heap.size ≤ (w3.setCell ⟨w.heap.size + 2, 1, none⟩ (.slice (some ⟨g3, 0, none⟩) (M2.length + 1) cap3)).heap.size) := hide (by have h1 := hst.size; have h2 := hgrow.size; simp only [World.size_alloc] at h2; omega)
          have r1 := (unhide HG3).out.c 1 rfl
          have f1 := (unhide HG3).out.f 1
          clear hown hgrow hat hlt3 q0 hst
          go_wp2
          go_roundw
          case rel => exact ⟨k2 + 1, _, _, by omega, by go_num, HK3, HG4, HBL4, HC3, HRe, HVS2⟩
          case measure => simp [intOf]; omega
        · have j2 : ¬ ((k2 : Nat) : Int) < ((p.U.length : Nat) : Int) := by omega
          have hln : M2.length = p.U.length := by have := unhide HK2; omega
          obtain ⟨ub, uc, rfl, hrow, hall, hnil⟩ := (unhide HBL2).out
          have hgw := grown_row (W := wr) (w.heap.size + 1) #[.slice va M.length vc, .slice ub M2.length uc]
          have HRX : Hid (Bx (wr.setRow (w.heap.size + 1) #[.slice va M.length vc, .slice ub M2.length uc]) (w.heap.size + 1) 25 #[.slice va M.length vc, .slice ub M2.length uc]) := hide (setRow_heap _ _ _ _ _ _ (unhide HG2).old)
          have HPG : Hid (PgOk n (wr.setRow (w.heap.size + 1) #[.slice va M.length vc, .slice ub M2.length uc]) ⟨va, vc, M, ub, uc, M2⟩) := hide ⟨(unhide HRR).far hgw ((unhide HALL).mono (fun b hb => by omega)), hrow.far hgw (hall.mono (fun b hb => by omega)), unhide HNIL, hnil, by show M.length * 64 ≤ _; rw [(unhide HTW).1]; exact (unhide H).fitR, by show M2.length * 104 ≤ _; rw [hln]; exact (unhide H).fitU⟩
          have HSG : Hid (sameG n p ⟨va, vc, M, ub, uc, M2⟩) := hide ⟨unhide HTW, ⟨hln, unhide HC2⟩⟩
          have HBF := hide (below_setRow' (unhide HG2).bel (show w.heap.size ≤ w.heap.size + 1 by omega) #[.slice va M.length vc, .slice ub M2.length uc])
          have HPA : Hid (PgAll n (fun b => w.heap.size ≤ b) ⟨va, vc, M, ub, uc, M2⟩) := hide ⟨(unhide HALL).mono (fun b hb => by omega), hall.mono (fun b hb => by omega)⟩
          clear hln hrow hall hnil hgw
          go_upto_region 15 with fail
          go_wp2_with (first | (refine wpList_load_rowG (by kernel_rfl) 25 (.tmp 3) rfl (w.heap.size + 2) rfl 25 #[.slice va M.length vc, .slice ub M2.length uc] (0, 0) _ (unhide HG2).out Try.underlying25 rfl (by kernel_rfl) ?_) | (refine wpList_store_row rfl 25 (.tmp 2) (.tmp 48) rfl (w.heap.size + 1) #[.slice va M.length vc, .slice ub M2.length uc] rfl rfl 25 #[.slice none 0 0, .slice none 0 0] (unhide HG2).old (by kernel_rfl) rfl (by simp [Value.oneCell']) ?_))
          refine bodyPost_ret (results_bx rfl _ _ (w.heap.size + 1) _ rfl (run_loadVar_row _ _ 25 25 _ (0, 0) _ (unhide HRX) Try.underlying25 rfl (by kernel_rfl))) rfl ⟨⟨va, vc, M, ub, uc, M2⟩, rfl, unhide HPG, unhide HSG, unhide HPA, unhide HBF⟩
end Go.Proofs.Ytjccomjgmejnhaa
