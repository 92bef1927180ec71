/-
  The contract of the reader's next: the entry at which it stands, and the reader behind it; or the fault, and the reader as it was. Conditions: the reader is one that Open made, its bytes lie there.
-/
import Derived.Test.YtednnfmomhallaaCr6
import Derived.Deep.Cut
namespace Go.Proofs.Ytednnfmomhallaa
open Go.RowKit

theorem results_en_b_ft {fn : Func} {p u v : Tmp} (h : fn.results = #[.cell p 42, .tmp u, .cell v 58]) (tmps : Array Value) (W : World) (g k : Nat) (y : En) (hy : FrOk y.fr) (b : Value) (x e : Int)
    (hp : tmps.getD p undef = .pointer (some ⟨g, 0, none⟩)) (hu : tmps.getD u undef = b) (hv : tmps.getD v undef = .pointer (some ⟨k, 0, none⟩)) (hg : EAt W g y) (hk : FtAt W k x e) :
    (results fn tmps).run Try.prog W = .ok (.tuple #[.agg (enA y), b, ftV x e]) W := by
  rw [results_cell_tmp_cell h, hp, hu, hv, run_addr, Result.andThen_ok, run_loadVar_row W g 42 42 (enA y) (0, 0) _ hg Try.underlying42 rfl (sizeEn hy), Result.andThen_ok, run_addr, Result.andThen_ok, run_loadFt hk, Result.andThen_ok]
theorem RAt.setAt {W : World} {g : Nat} {v : Value} {lo n at_ told ahead : Int} (h : RAt W g v lo n at_ told ahead) (x : Int) : RAt (W.setCell ⟨g, 3, none⟩ (.int .i64 x)) g v lo n x told ahead := heap_setCell_same _ _ _ _ _ _ h
theorem RAt.setTold {W : World} {g : Nat} {v : Value} {lo n at_ told ahead : Int} (h : RAt W g v lo n at_ told ahead) (x : Int) : RAt (W.setCell ⟨g, 4, none⟩ (.int .i64 x)) g v lo n at_ x ahead := heap_setCell_same _ _ _ _ _ _ h
theorem RAt.setAhead {W : World} {g : Nat} {v : Value} {lo n at_ told ahead : Int} (h : RAt W g v lo n at_ told ahead) (x : Int) : RAt (W.setCell ⟨g, 5, none⟩ (.int .i64 x)) g v lo n at_ told x := heap_setCell_same _ _ _ _ _ _ h
theorem RAt.rowOther {W : World} {g k : Nat} {v : Value} {lo n at_ told ahead : Int} (h : RAt W k v lo n at_ told ahead) (cs : Array Value) (hne : k ≠ g) : RAt (W.setRow g cs) k v lo n at_ told ahead := (setRow_other W g k _ hne).trans h
theorem FtAt.cellOther {W : World} {k : Nat} {p e : Int} (h : FtAt W k p e) (a : Addr) (v : Value) (hne : k ≠ a.block) : FtAt (W.setCell a v) k p e := (heap_setCell_other W a k v hne).trans h
theorem grown_set {w W : World} {g : Nat} (h : w.grownBy W (some g)) (i : Nat) (v : Value) : w.grownBy (W.setCell ⟨g, i, none⟩ v) (some g) := by
  have hb : Below 0 W (W.setCell ⟨g, i, none⟩ v) := (Below.refl 0 W).setCell (Nat.zero_le _) _
  exact ⟨hb.os.trans h.os, hb.tape.trans h.tape, hb.output.trans h.output, Nat.le_trans h.size hb.size, fun k hk hne => (heap_setCell_other W ⟨g, i, none⟩ k v (fun e => hne (by rw [e]))).trans (h.block k hk hne)⟩
theorem grown_row {w W : World} {g : Nat} (h : w.grownBy W (some g)) {k : Nat} (hk : w.heap.size ≤ k) (cs : Array Value) : w.grownBy (W.setRow k cs) (some g) := by
  have hb : Below 0 W (W.setRow k cs) := below_setRow' (Below.refl 0 W) (Nat.zero_le _) _
  exact ⟨hb.os.trans h.os, hb.tape.trans h.tape, hb.output.trans h.output, Nat.le_trans h.size hb.size, fun j hj hne => (setRow_other W k j _ (by omega)).trans (h.block j hj hne)⟩
theorem grown_of {w w' : World} (h : Below w.heap.size w w') (row : Option Nat) : w.grownBy w' row := ⟨h.os, h.tape, h.output, h.size, fun k hk _ => h.block k hk⟩

set_option maxRecDepth 20000 in
set_option maxHeartbeats 4000000 in
theorem next_any {gr : Nat} {ao : Option Addr} {c : Nat} {L : List UInt8} {lo : Nat} {k told ahead : Int} (p : Nat) (w : World) (hR : RAt w gr (.slice ao L.length c) lo k (p : Int) told ahead) (hb : BAt w ao L) (hl : L.length ≤ 562949953421312) (hlo : lo ≤ 16) (hp : p ≤ L.length) (ht : 0 ≤ told ∧ told ≤ 65536) :
    Calls Try.prog 40 #[.pointer (some ⟨gr, 0, none⟩)] w fun e w' => w.grownBy w' (some gr) ∧ (
      (told = k ∧ RAt w' gr (.slice ao L.length c) lo k (p : Int) told ahead ∧ ((p < L.length ∧ e = .returned (.tuple #[.agg (enA enZ), .bool false, ftV p 3])) ∨ (p = L.length ∧ e = .returned (.tuple #[.agg (enA enZ), .bool false, ftV 0 0])))) ∨
      (told ≠ k ∧ (oneE L lo p ahead).2 ≠ 0 ∧ RAt w' gr (.slice ao L.length c) lo k (p : Int) told ahead ∧ e = .returned (.tuple #[.agg (enA enZ), .bool false, ftV (oneE L lo p ahead).1 (oneE L lo p ahead).2])) ∨
      (told ≠ k ∧ (oneE L lo p ahead).2 = 0 ∧ FrOk (oneX L lo p).fr ∧ oneN L lo p ≤ L.length ∧ RAt w' gr (.slice ao L.length c) lo k (oneN L lo p : Int) (told + 1) (oneX L lo p).at_ ∧ e = .returned (.tuple #[.agg (enA (oneX L lo p)), .bool true, ftV 0 0]))) := by
  have HR := hide hR
  have HBt := hide hb
  have hal := ((Below.refl w.heap.size w).alloc (Nat.le_refl _) (.cells (enA enZ) 42))
  have hal2 := hal.alloc (by simp) (.cells #[.int .i64 0, .int .i64 0] 58)
  have HE2 : Hid (EAt ((w.alloc (.cells (enA enZ) 42)).alloc (.cells #[.int .i64 0, .int .i64 0] 58)) w.heap.size enZ) := hide ((EAt.new w enZ).below ((Below.refl _ _).alloc (Nat.le_refl _) _) (by simp))
  have HF4 : Hid (FtAt ((w.alloc (.cells (enA enZ) 42)).alloc (.cells #[.int .i64 0, .int .i64 0] 58)) (w.heap.size + 1) 0 0) := hide (by
    have := heap_alloc_new (w.alloc (.cells (enA enZ) 42)) (.cells #[.int .i64 0, .int .i64 0] 58)
    rw [World.size_alloc] at this
    exact this)
  have HB := hide hal2
  have hrl : gr < w.heap.size := hR.lt
  have HEN := hide (fun W (h : Below w.heap.size w W) => entry_any p W (hR.below h) (hb.below' h) hl hlo hp)
  clear hal hal2 hR hb
  go_enter Try.func40, Try.ntmps40
  go_upto_region 1 with fail
  rw [enZ_eq]
  generalize ((w.alloc (.cells (enA enZ) 42)).alloc (.cells #[.int .i64 0, .int .i64 0] 58)) = W0 at HE2 HF4 HB ⊢
  have r0 := ((unhide HR).below (unhide HB)).c0
  have r2 := ((unhide HR).below (unhide HB)).c2
  have r3 := ((unhide HR).below (unhide HB)).c3
  have r4 := ((unhide HR).below (unhide HB)).c4
  by_cases htk : told = k
  · have b1 : (told == k) = true := beq_iff_eq.2 htk
    have HTK := hide htk
    clear htk
    go_quiet (fail)
    have HE2 : Hid (EAt (W0.drewN nq) w.heap.size enZ) := hide (unhide HE2)
    have HF4 : Hid (FtAt (W0.drewN nq) (w.heap.size + 1) 0 0) := hide (unhide HF4)
    have HB : Hid (Below w.heap.size w (W0.drewN nq)) := hide (belowD (unhide HB) nq)
    have r0 := ((unhide HR).below (unhide HB)).c0
    have r2 := ((unhide HR).below (unhide HB)).c2
    have r3 := ((unhide HR).below (unhide HB)).c3
    have r4 := ((unhide HR).below (unhide HB)).c4
    generalize W0.drewN nq = W1 at HE2 HF4 HB r0 r2 r3 r4 ⊢
    by_cases hpl : p < L.length
    · have i1 : (p : Int) < ((L.length : Nat) : Int) := by omega
      go_wp2_with fail
      go_quiet (fail)
      have HE2 : Hid (EAt (W1.drewN nq) w.heap.size enZ) := hide (unhide HE2)
      have HF4 : Hid (FtAt (W1.drewN nq) (w.heap.size + 1) 0 0) := hide (unhide HF4)
      have HB : Hid (Below w.heap.size w (W1.drewN nq)) := hide (belowD (unhide HB) nq)
      have r0 := ((unhide HR).below (unhide HB)).c0
      have r2 := ((unhide HR).below (unhide HB)).c2
      have r3 := ((unhide HR).below (unhide HB)).c3
      have r4 := ((unhide HR).below (unhide HB)).c4
      generalize W1.drewN nq = W2 at HE2 HF4 HB r0 r2 r3 r4 ⊢
      go_wp2_with fail
      have HE2 : Hid (EAt W2.drew w.heap.size enZ) := hide (unhide HE2)
      have HF4 : Hid (FtAt W2.drew (w.heap.size + 1) 0 0) := hide (unhide HF4)
      have HB : Hid (Below w.heap.size w W2.drew) := hide ((unhide HB).trans ⟨rfl, rfl, rfl, Nat.le_refl _, fun _ _ => rfl⟩)
      refine wp_region_held_drew (S := fun w' => w'.cell? ⟨gr, 3, none⟩ = some (.int .i64 (p : Int))) (by kernel_rfl) (((unhide HR).below (unhide HB)).c3) (fun hS => ?_)
      generalize W2.drew = W6 at HE2 HF4 HB hS ⊢
      refine wpAnyH_take (i := 0) (v := .agg (enA enZ)) rfl (by kernel_rfl) (by kernel_rfl) (by kernel_rfl) (fun _ _ _ h => h) (Or.inl ⟨by rfl, fun w _ => by go_simp; rfl⟩) hS ?_
      refine wpAnyH_take (i := 1) (v := .pointer (some ⟨gr, 0, none⟩)) rfl (by kernel_rfl) (by kernel_rfl) (by kernel_rfl) (fun _ _ _ h => h) (Or.inl ⟨by rfl, fun w _ => by go_simp⟩) hS ?_
      refine wpAnyH_take (i := 2) (v := .pointer (some ⟨gr, 0, none⟩)) rfl (by kernel_rfl) (by kernel_rfl) (by kernel_rfl) (fun _ _ _ h => h) (Or.inl ⟨by rfl, fun w _ => by go_simp⟩) hS ?_
      refine wpAnyH_take (i := 3) (v := .pointer (some ⟨gr, 3, none⟩)) rfl (by kernel_rfl) (by kernel_rfl) (by kernel_rfl) (fun _ _ _ h => h) (Or.inl ⟨by rfl, fun w _ => by go_simp⟩) hS ?_
      refine wpAnyH_take (i := 4) (v := .int .i64 (p : Int)) rfl (by kernel_rfl) (by kernel_rfl) (by kernel_rfl) (fun _ _ _ h => h) (Or.inl ⟨by rfl, fun w hS => by go_simp⟩) hS ?_
      refine wpAnyH_take (i := 5) (v := .agg #[.int .i64 (p : Int), .int .i64 3]) rfl (by kernel_rfl) (by kernel_rfl) (by kernel_rfl) (fun _ _ _ h => h) (Or.inl ⟨by rfl, fun w _ => by go_simp⟩) hS ?_
      go_simp
      refine wpAnyH_ready (rs := [6]) (by kernel_rfl) (by simp) ?_
      refine AllReadyH.cons rfl (fun K hK => ?_) AllReadyH.nil
      rw [if_pos (by rfl)]
      refine wp_store_row 42 _ _ rfl w.heap.size (enA enZ) rfl rfl 42 (enA enZ) (unhide HE2) (sizeEn enZ_ok) rfl (enA_one _) ?_
      have bW : Below w.heap.size W6 (W6.setRow w.heap.size (enA enZ)) := below_setRow' (Below.refl _ _) (Nat.le_refl _) _
      have HE2 := hide ((unhide HE2).row enZ)
      have HF4 : Hid (FtAt (W6.setRow w.heap.size (enA enZ)) (w.heap.size + 1) 0 0) := hide ((setRow_other W6 w.heap.size (w.heap.size + 1) _ (by omega)).trans (unhide HF4))
      have HB := hide (below_setRow' (unhide HB) (Nat.le_refl _) (enA enZ))
      have hSx : (W6.setRow w.heap.size (enA enZ)).cell? ⟨gr, 3, none⟩ = some (.int .i64 (p : Int)) := (bW.cell (p := ⟨gr, 3, none⟩) hrl).trans hS
      refine hK.out _ _ hSx (fun hSb => ?_)
      clear hK K hS bW hSb
      have hS := hSx
      clear hSx
      generalize (W6.setRow w.heap.size (enA enZ)) = W7 at HE2 HF4 HB hS ⊢
      refine wpAnyH_take (i := 7) (v := .bool false) rfl (by kernel_rfl) (by kernel_rfl) (by kernel_rfl) (fun _ _ _ h => h) (Or.inl ⟨by rfl, fun w _ => by go_simp⟩) hS ?_
      go_simp
      refine wpAnyH_ready (rs := [8]) (by kernel_rfl) (by simp) ?_
      refine AllReadyH.cons rfl (fun K hK => ?_) AllReadyH.nil
      rw [if_pos (by rfl)]
      refine wp_store_row 58 _ _ rfl (w.heap.size + 1) #[.int .i64 (p : Int), .int .i64 3] rfl rfl 58 #[.int .i64 0, .int .i64 0] (unhide HF4) (by kernel_rfl) rfl (by simp [Value.oneCell']) ?_
      have bW : Below (w.heap.size + 1) W7 (W7.setRow (w.heap.size + 1) #[.int .i64 (p : Int), .int .i64 3]) := below_setRow' (Below.refl _ _) (Nat.le_refl _) _
      have E2y := hide ((unhide HE2).rowOther #[.int .i64 (p : Int), .int .i64 3] (show w.heap.size ≠ w.heap.size + 1 by omega))
      have F4y : Hid (FtAt (W7.setRow (w.heap.size + 1) #[.int .i64 (p : Int), .int .i64 3]) (w.heap.size + 1) (p : Int) 3) := hide (setRow_heap _ _ _ _ _ _ (unhide HF4))
      have By := hide (below_setRow' (unhide HB) (show w.heap.size ≤ w.heap.size + 1 by omega) #[.int .i64 (p : Int), .int .i64 3])
      have hSx : (W7.setRow (w.heap.size + 1) #[.int .i64 (p : Int), .int .i64 3]).cell? ⟨gr, 3, none⟩ = some (.int .i64 (p : Int)) := (bW.cell (p := ⟨gr, 3, none⟩) (by show gr < w.heap.size + 1; omega)).trans hS
      refine hK.out _ _ hSx (fun hSb => ?_)
      clear hK K hS bW hSb hSx
      refine wpAnyH_done (by kernel_rfl) ?_ _
      go_wp2
      refine bodyPost_ret (v := .tuple #[.agg (enA enZ), .bool false, ftV (p : Int) 3]) (results_en_b_ft rfl _ _ w.heap.size (w.heap.size + 1) enZ enZ_ok (.bool false) (p : Int) 3 rfl rfl rfl (unhide E2y) (unhide F4y)) rfl ⟨grown_of (unhide By) _, Or.inl ⟨unhide HTK, (unhide HR).below (unhide By), Or.inl ⟨hpl, rfl⟩⟩⟩
    · have i1 : ¬ (p : Int) < ((L.length : Nat) : Int) := by omega
      go_wp2_with fail
      go_quiet (fail)
      have HE2 : Hid (EAt (W1.drewN nq) w.heap.size enZ) := hide (unhide HE2)
      have HF4 : Hid (FtAt (W1.drewN nq) (w.heap.size + 1) 0 0) := hide (unhide HF4)
      have HB : Hid (Below w.heap.size w (W1.drewN nq)) := hide (belowD (unhide HB) nq)
      have r0 := ((unhide HR).below (unhide HB)).c0
      have r2 := ((unhide HR).below (unhide HB)).c2
      have r3 := ((unhide HR).below (unhide HB)).c3
      have r4 := ((unhide HR).below (unhide HB)).c4
      generalize W1.drewN nq = W2 at HE2 HF4 HB r0 r2 r3 r4 ⊢
      clear r0 r2 r3 r4
      have E2x := hide ((unhide HE2).row enZ)
      have F4x : Hid (FtAt (W2.setRow w.heap.size (enA enZ)) (w.heap.size + 1) 0 0) := hide ((setRow_other W2 w.heap.size (w.heap.size + 1) _ (by omega)).trans (unhide HF4))
      have Bx := hide (below_setRow' (unhide HB) (Nat.le_refl _) (enA enZ))
      have E2y := hide ((unhide E2x).rowOther #[.int .i64 0, .int .i64 0] (show w.heap.size ≠ (w.heap.size + 1) by omega))
      have F4y : Hid (FtAt ((W2.setRow w.heap.size (enA enZ)).setRow (w.heap.size + 1) #[.int .i64 0, .int .i64 0]) (w.heap.size + 1) 0 0) := hide (setRow_heap _ _ _ _ _ _ (unhide F4x))
      have By := hide (below_setRow' (unhide Bx) (show w.heap.size ≤ (w.heap.size + 1) by omega) #[.int .i64 0, .int .i64 0])
      go_wp2_with (first | (refine wpList_store_row rfl 42 (.tmp 2) (.tmp 33) rfl w.heap.size (enA enZ) rfl rfl 42 (enA enZ) (unhide HE2) (sizeEn enZ_ok) (sizeEqEn enZ_ok enZ_ok) (enA_one _) ?_) | (refine wpList_store_row rfl 58 (.tmp 4) (.tmp 34) rfl (w.heap.size + 1) #[.int .i64 0, .int .i64 0] rfl rfl 58 #[.int .i64 0, .int .i64 0] (unhide F4x) (by kernel_rfl) rfl (by simp [Value.oneCell']) ?_))
      refine bodyPost_ret (v := .tuple #[.agg (enA enZ), .bool false, ftV 0 0]) (results_en_b_ft rfl _ _ w.heap.size (w.heap.size + 1) enZ enZ_ok (.bool false) 0 0 rfl rfl rfl (unhide E2y) (unhide F4y)) rfl ⟨grown_of (unhide By) _, Or.inl ⟨unhide HTK, (unhide HR).below (unhide By), Or.inr ⟨by omega, rfl⟩⟩⟩
  · have b1 : (told == k) = false := beq_f htk
    have HTK := hide htk
    clear htk
    go_quiet (fail)
    have HE2 : Hid (EAt (W0.drewN nq) w.heap.size enZ) := hide (unhide HE2)
    have HF4 : Hid (FtAt (W0.drewN nq) (w.heap.size + 1) 0 0) := hide (unhide HF4)
    have HB : Hid (Below w.heap.size w (W0.drewN nq)) := hide (belowD (unhide HB) nq)
    have r0 := ((unhide HR).below (unhide HB)).c0
    have r2 := ((unhide HR).below (unhide HB)).c2
    have r3 := ((unhide HR).below (unhide HB)).c3
    have r4 := ((unhide HR).below (unhide HB)).c4
    generalize W0.drewN nq = W1 at HE2 HF4 HB r0 r2 r3 r4 ⊢
    go_wp2_with fail
    refine (unhide HEN _ (unhide HB)).mono ?_
    rintro e W2 ⟨hB2, hres⟩
    obtain ⟨y, n, x, er, hy, rfl, HK⟩ : ∃ (y : En) (n x er : Int), FrOk y.fr ∧ e = .returned (.tuple #[.agg (enA y), .int .i64 n, ftV x er]) ∧ Hid ((er = 0 ∧ x = 0 ∧ (oneE L lo p ahead).2 = 0 ∧ y = oneX L lo p ∧ n = (oneN L lo p : Int) ∧ oneN L lo p ≤ L.length) ∨ (er ≠ 0 ∧ x = ((oneE L lo p ahead).1 : Int) ∧ er = (oneE L lo p ahead).2)) := by
      rcases hres with ⟨h0, hfo, hfn, rfl⟩ | ⟨h0, y, hy, rfl⟩
      · exact ⟨_, _, _, _, hfo, rfl, hide (Or.inl ⟨rfl, rfl, h0, rfl, rfl, hfn⟩)⟩
      · exact ⟨_, _, _, _, hy, rfl, hide (Or.inr ⟨h0, rfl, rfl⟩)⟩
    clear hres HEN r0 r2 r3 r4
    have HE2 := hide ((unhide HE2).below hB2 (unhide HE2).lt)
    have HF4 := hide ((unhide HF4).below hB2)
    have HB := hide ((unhide HB).trans (hB2.mono (unhide HB).size))
    clear hB2
    have o2 : w.heap.size < W2.heap.size := (unhide HE2).lt
    have o4 : w.heap.size + 1 < W2.heap.size := (unhide HF4).lt
    have al1 : Below W2.heap.size W2 (W2.alloc (.cells (enA enZ) 42)) := (Below.refl _ _).alloc (Nat.le_refl _) _
    have al2 : Below W2.heap.size W2 ((W2.alloc (.cells (enA enZ) 42)).alloc (.cells #[.int .i64 0, .int .i64 0] 58)) := al1.alloc (by simp) _
    have HE5 : Hid (EAt ((W2.alloc (.cells (enA enZ) 42)).alloc (.cells #[.int .i64 0, .int .i64 0] 58)) W2.heap.size enZ) := hide ((EAt.new W2 enZ).below ((Below.refl _ _).alloc (Nat.le_refl _) _) (by simp))
    have HF7 : Hid (FtAt ((W2.alloc (.cells (enA enZ) 42)).alloc (.cells #[.int .i64 0, .int .i64 0] 58)) (W2.heap.size + 1) 0 0) := hide (by
      have := heap_alloc_new (W2.alloc (.cells (enA enZ) 42)) (.cells #[.int .i64 0, .int .i64 0] 58)
      rw [World.size_alloc] at this
      exact this)
    have HE2 := hide ((unhide HE2).below al2 (unhide HE2).lt)
    have HF4 := hide ((unhide HF4).below al2)
    have HB := hide ((unhide HB).trans (al2.mono (unhide HB).size))
    clear al1 al2
    have E5b := hide ((unhide HE5).row y)
    have F7b : Hid (FtAt (((W2.alloc (.cells (enA enZ) 42)).alloc (.cells #[.int .i64 0, .int .i64 0] 58)).setRow W2.heap.size (enA y)) (W2.heap.size + 1) 0 0) := hide ((setRow_other _ W2.heap.size (W2.heap.size + 1) _ (by omega)).trans (unhide HF7))
    have E2b := hide ((unhide HE2).rowOther (enA y) (show w.heap.size ≠ W2.heap.size by omega))
    have F4b : Hid (FtAt (((W2.alloc (.cells (enA enZ) 42)).alloc (.cells #[.int .i64 0, .int .i64 0] 58)).setRow W2.heap.size (enA y)) (w.heap.size + 1) 0 0) := hide ((setRow_other _ W2.heap.size (w.heap.size + 1) _ (by omega)).trans (unhide HF4))
    have Bb := hide (below_setRow' (unhide HB) (show w.heap.size ≤ W2.heap.size by omega) (enA y))
    have E5c := hide ((unhide E5b).rowOther #[.int .i64 x, .int .i64 er] (show W2.heap.size ≠ W2.heap.size + 1 by omega))
    have F7c : Hid (FtAt ((((W2.alloc (.cells (enA enZ) 42)).alloc (.cells #[.int .i64 0, .int .i64 0] 58)).setRow W2.heap.size (enA y)).setRow (W2.heap.size + 1) #[.int .i64 x, .int .i64 er]) (W2.heap.size + 1) x er) := hide (setRow_heap _ _ _ _ _ _ (unhide F7b))
    have E2c := hide ((unhide E2b).rowOther #[.int .i64 x, .int .i64 er] (show w.heap.size ≠ W2.heap.size + 1 by omega))
    have F4c : Hid (FtAt ((((W2.alloc (.cells (enA enZ) 42)).alloc (.cells #[.int .i64 0, .int .i64 0] 58)).setRow W2.heap.size (enA y)).setRow (W2.heap.size + 1) #[.int .i64 x, .int .i64 er]) (w.heap.size + 1) 0 0) := hide ((setRow_other _ (W2.heap.size + 1) (w.heap.size + 1) _ (by omega)).trans (unhide F4b))
    have Bc := hide (below_setRow' (unhide Bb) (show w.heap.size ≤ W2.heap.size + 1 by omega) #[.int .i64 x, .int .i64 er])
    unfold ftV
    go_upto_region 6 with (first | (refine wpList_store_row rfl 42 (.tmp 5) (.tmp 38) rfl W2.heap.size (enA y) rfl rfl 42 (enA enZ) (unhide HE5) (sizeEn hy) (sizeEqEn enZ_ok hy) (enA_one _) ?_) | (refine wpList_store_row rfl 58 (.tmp 7) (.tmp 40) rfl (W2.heap.size + 1) #[.int .i64 x, .int .i64 er] rfl rfl 58 #[.int .i64 0, .int .i64 0] (unhide F7b) (by kernel_rfl) rfl (by simp [Value.oneCell']) ?_))
    rw [enZ_eq]
    clear HE5 HF7 HE2 HF4 HB E5b F7b E2b F4b Bb
    have HE5 := E5c
    have HF7 := F7c
    have HE2 := E2c
    have HF4 := F4c
    have HB := Bc
    clear E5c F7c E2c F4c Bc
    generalize ((((W2.alloc (.cells (enA enZ) 42)).alloc (.cells #[.int .i64 0, .int .i64 0] 58)).setRow W2.heap.size (enA y)).setRow (W2.heap.size + 1) #[.int .i64 x, .int .i64 er]) = W3 at HE5 HF7 HE2 HF4 HB ⊢
    generalize hg7 : W2.heap.size + 1 = g7 at HF7 ⊢
    generalize hg5 : W2.heap.size = g5 at HE5 o2 o4 hg7 ⊢
    have c7 := (unhide HF7).c1
    rcases unhide HK with ⟨h1, h2, h3, h4, h5, h6⟩ | ⟨h1, h2, h3⟩
    · subst h1 h2
      have HK2 := hide (And.intro h3 (And.intro h4 (And.intro h5 h6)))
      clear h3 h4 h5 h6 HK
      go_wp2_with fail
      clear c7
      have HE5 : Hid (EAt W3.drew g5 y) := hide (unhide HE5)
      have HE2 : Hid (EAt W3.drew w.heap.size enZ) := hide (unhide HE2)
      have HF4 : Hid (FtAt W3.drew (w.heap.size + 1) 0 0) := hide (unhide HF4)
      have HB : Hid (Below w.heap.size w W3.drew) := hide ((unhide HB).trans ⟨rfl, rfl, rfl, Nat.le_refl _, fun _ _ => rfl⟩)
      have HR3 := hide ((unhide HR).below (unhide HB))
      have HG := hide (grown_of (unhide HB) (some gr))
      refine wp_region_held_drew (S := fun w' => EAt w' g5 y) (by kernel_rfl) (unhide HE5) (fun hS => ?_)
      generalize W3.drew = W4 at HE5 HE2 HF4 HB HR3 HG hS ⊢
      refine wpAnyH_take (i := 0) (v := .pointer (some ⟨gr, 0, none⟩)) rfl (by kernel_rfl) (by kernel_rfl) (by kernel_rfl) (fun _ _ _ h => h) (Or.inl ⟨by rfl, fun w _ => by go_simp⟩) hS ?_
      refine wpAnyH_take (i := 1) (v := .pointer (some ⟨gr, 0, none⟩)) rfl (by kernel_rfl) (by kernel_rfl) (by kernel_rfl) (fun _ _ _ h => h) (Or.inl ⟨by rfl, fun w _ => by go_simp⟩) hS ?_
      refine wpAnyH_take (i := 2) (v := .int .i64 n) rfl (by kernel_rfl) (by kernel_rfl) (by kernel_rfl) (fun _ _ _ h => h) (Or.inl ⟨by rfl, fun w _ => by go_simp⟩) hS ?_
      refine wpAnyH_take (i := 3) (v := .pointer (some ⟨g5, 0, none⟩)) rfl (by kernel_rfl) (by kernel_rfl) (by kernel_rfl) (fun _ _ _ h => h) (Or.inl ⟨by rfl, fun w _ => by go_simp⟩) hS ?_
      refine wpAnyH_take (i := 4) (v := .int .i64 y.at_) rfl (by kernel_rfl) (by kernel_rfl) (by kernel_rfl) (fun _ _ _ h => h) (Or.inl ⟨by rfl, fun w hS => by have h0 := EAt.c0 hS; go_simp⟩) hS ?_
      refine wpAnyH_take (i := 5) (v := .pointer (some ⟨gr, 0, none⟩)) rfl (by kernel_rfl) (by kernel_rfl) (by kernel_rfl) (fun _ _ _ h => h) (Or.inl ⟨by rfl, fun w _ => by go_simp⟩) hS ?_
      refine wpAnyH_take (i := 6) (v := .pointer (some ⟨gr, 3, none⟩)) rfl (by kernel_rfl) (by kernel_rfl) (by kernel_rfl) (fun _ _ _ h => h) (Or.inl ⟨by rfl, fun w _ => by go_simp⟩) hS ?_
      go_simp
      have q3 := (unhide HR3).c3
      have z3 := (unhide HR3).f 3
      refine wpAnyH_ready (rs := [7]) (by kernel_rfl) (by simp) ?_
      refine AllReadyH.cons rfl (fun K hK => ?_) AllReadyH.nil
      go_simp
      have HE5 := hide ((unhide HE5).cellOther ⟨gr, 3, none⟩ (.int .i64 n) (show g5 ≠ gr by omega))
      have HE2 := hide ((unhide HE2).cellOther ⟨gr, 3, none⟩ (.int .i64 n) (show w.heap.size ≠ gr by omega))
      have HF4 := hide ((unhide HF4).cellOther ⟨gr, 3, none⟩ (.int .i64 n) (show w.heap.size + 1 ≠ gr by omega))
      have HR3 := hide ((unhide HR3).setAt n)
      have HG := hide (grown_set (unhide HG) 3 (.int .i64 n))
      refine hK.out _ _ (unhide HE5) (fun hSb => ?_)
      clear hK K hSb hS q3 z3
      have hS := unhide HE5
      generalize (W4.setCell ⟨gr, 3, none⟩ (.int .i64 n)) = W5 at HE5 HE2 HF4 HR3 HG hS ⊢
      refine wpAnyH_take (i := 8) (v := .pointer (some ⟨gr, 0, none⟩)) rfl (by kernel_rfl) (by kernel_rfl) (by kernel_rfl) (fun _ _ _ h => h) (Or.inl ⟨by rfl, fun w _ => by go_simp⟩) hS ?_
      refine wpAnyH_take (i := 9) (v := .pointer (some ⟨gr, 5, none⟩)) rfl (by kernel_rfl) (by kernel_rfl) (by kernel_rfl) (fun _ _ _ h => h) (Or.inl ⟨by rfl, fun w _ => by go_simp⟩) hS ?_
      go_simp
      have q5 := (unhide HR3).c5
      have z5 := (unhide HR3).f 5
      refine wpAnyH_ready (rs := [10]) (by kernel_rfl) (by simp) ?_
      refine AllReadyH.cons rfl (fun K hK => ?_) AllReadyH.nil
      go_simp
      have HE5 := hide ((unhide HE5).cellOther ⟨gr, 5, none⟩ (.int .i64 y.at_) (show g5 ≠ gr by omega))
      have HE2 := hide ((unhide HE2).cellOther ⟨gr, 5, none⟩ (.int .i64 y.at_) (show w.heap.size ≠ gr by omega))
      have HF4 := hide ((unhide HF4).cellOther ⟨gr, 5, none⟩ (.int .i64 y.at_) (show w.heap.size + 1 ≠ gr by omega))
      have HR3 := hide ((unhide HR3).setAhead y.at_)
      have HG := hide (grown_set (unhide HG) 5 (.int .i64 y.at_))
      refine hK.out _ _ (unhide HE5) (fun hSb => ?_)
      clear hK K hSb hS q5 z5
      generalize (W5.setCell ⟨gr, 5, none⟩ (.int .i64 y.at_)) = W6 at HE5 HE2 HF4 HR3 HG ⊢
      refine wpAnyH_done (by kernel_rfl) ?_ _
      have q4 := (unhide HR3).c4
      have z4 := (unhide HR3).f 4
      go_upto_region 10 with fail
      have HE5 := hide ((unhide HE5).cellOther ⟨gr, 4, none⟩ (.int .i64 (told + 1)) (show g5 ≠ gr by omega))
      have HE2 := hide ((unhide HE2).cellOther ⟨gr, 4, none⟩ (.int .i64 (told + 1)) (show w.heap.size ≠ gr by omega))
      have HF4 := hide ((unhide HF4).cellOther ⟨gr, 4, none⟩ (.int .i64 (told + 1)) (show w.heap.size + 1 ≠ gr by omega))
      have HR3 := hide ((unhide HR3).setTold (told + 1))
      have HG := hide (grown_set (unhide HG) 4 (.int .i64 (told + 1)))
      clear q4 z4
      generalize (W6.setCell ⟨gr, 4, none⟩ (.int .i64 (told + 1))) = W7 at HE5 HE2 HF4 HR3 HG ⊢
      have E2x := hide ((unhide HE2).row y)
      have F4x : Hid (FtAt (W7.setRow w.heap.size (enA y)) (w.heap.size + 1) 0 0) := hide ((setRow_other W7 w.heap.size (w.heap.size + 1) _ (by omega)).trans (unhide HF4))
      have Rx := hide ((unhide HR3).rowOther (enA y) (show gr ≠ w.heap.size by omega))
      have Gx := hide (grown_row (unhide HG) (Nat.le_refl _) (enA y))
      have E2y := hide ((unhide E2x).rowOther #[.int .i64 0, .int .i64 0] (show w.heap.size ≠ w.heap.size + 1 by omega))
      have F4y : Hid (FtAt ((W7.setRow w.heap.size (enA y)).setRow (w.heap.size + 1) #[.int .i64 0, .int .i64 0]) (w.heap.size + 1) 0 0) := hide (setRow_heap _ _ _ _ _ _ (unhide F4x))
      have Ry := hide ((unhide Rx).rowOther #[.int .i64 0, .int .i64 0] (show gr ≠ w.heap.size + 1 by omega))
      have Gy := hide (grown_row (unhide Gx) (show w.heap.size ≤ w.heap.size + 1 by omega) #[.int .i64 0, .int .i64 0])
      go_wp2_with (first | (refine wpList_load_row rfl 42 (.tmp 5) rfl g5 rfl 42 (enA y) (0, 0) _ (unhide HE5) Try.underlying42 rfl (sizeEn hy) ?_) | (refine wpList_store_row rfl 42 (.tmp 2) (.tmp 62) rfl w.heap.size (enA y) rfl rfl 42 (enA enZ) (unhide HE2) (sizeEn hy) (sizeEqEn enZ_ok hy) (enA_one _) ?_) | (refine wpList_store_row rfl 58 (.tmp 4) (.tmp 63) rfl (w.heap.size + 1) #[.int .i64 0, .int .i64 0] rfl rfl 58 #[.int .i64 0, .int .i64 0] (unhide F4x) (by kernel_rfl) rfl (by simp [Value.oneCell']) ?_))
      obtain ⟨h3, h4, h5, h6⟩ := unhide HK2
      refine bodyPost_ret (v := .tuple #[.agg (enA y), .bool true, ftV 0 0]) (results_en_b_ft rfl _ _ w.heap.size (w.heap.size + 1) y hy (.bool true) 0 0 rfl rfl rfl (unhide E2y) (unhide F4y)) rfl ⟨unhide Gy, Or.inr (Or.inr ⟨unhide HTK, h3, by rw [← h4]; exact hy, h6, ?_, by rw [← h4]⟩)⟩
      rw [← h4, ← h5]
      exact unhide Ry
    · have b2 : (er != 0) = true := bne_t h1
      have HK2 := hide (And.intro h1 (And.intro h2 h3))
      clear h1 h2 h3 HK
      go_wp2_with fail
      have HE2 : Hid (EAt W3.drew w.heap.size enZ) := hide (unhide HE2)
      have HF4 : Hid (FtAt W3.drew (w.heap.size + 1) 0 0) := hide (unhide HF4)
      have HB : Hid (Below w.heap.size w W3.drew) := hide ((unhide HB).trans ⟨rfl, rfl, rfl, Nat.le_refl _, fun _ _ => rfl⟩)
      refine wp_region_held_drew (S := fun w' => FtAt w' g7 x er) (by kernel_rfl) (unhide HF7) (fun hS => ?_)
      generalize W3.drew = W6 at HE2 HF4 HB hS ⊢
      refine wpAnyH_take (i := 0) (v := .agg (enA enZ)) rfl (by kernel_rfl) (by kernel_rfl) (by kernel_rfl) (fun _ _ _ h => h) (Or.inl ⟨by rfl, fun w _ => by go_simp; rfl⟩) hS ?_
      refine wpAnyH_take (i := 1) (v := .agg #[.int .i64 x, .int .i64 er]) rfl (by kernel_rfl) (by kernel_rfl) (by kernel_rfl) (fun _ _ _ h => h) (yieldsIf_load_ft (by rfl) _ rfl g7 rfl x er (fun _ h => h)) hS ?_
      go_simp
      refine wpAnyH_ready (rs := [2]) (by kernel_rfl) (by simp) ?_
      refine AllReadyH.cons rfl (fun K hK => ?_) AllReadyH.nil
      rw [if_pos (by rfl)]
      refine wp_store_row 42 _ _ rfl w.heap.size (enA enZ) rfl rfl 42 (enA enZ) (unhide HE2) (sizeEn enZ_ok) rfl (enA_one _) ?_
      have bW : Below w.heap.size W6 (W6.setRow w.heap.size (enA enZ)) := below_setRow' (Below.refl _ _) (Nat.le_refl _) _
      have HE2 := hide ((unhide HE2).row enZ)
      have HF4 : Hid (FtAt (W6.setRow w.heap.size (enA enZ)) (w.heap.size + 1) 0 0) := hide ((setRow_other W6 w.heap.size (w.heap.size + 1) _ (by omega)).trans (unhide HF4))
      have HB := hide (below_setRow' (unhide HB) (Nat.le_refl _) (enA enZ))
      have hSx : FtAt (W6.setRow w.heap.size (enA enZ)) g7 x er := (setRow_other W6 w.heap.size g7 _ (by omega)).trans hS
      refine hK.out _ _ hSx (fun hSb => ?_)
      clear hK K hS bW hSb
      have hS := hSx
      clear hSx
      generalize (W6.setRow w.heap.size (enA enZ)) = W7 at HE2 HF4 HB hS ⊢
      refine wpAnyH_take (i := 3) (v := .bool false) rfl (by kernel_rfl) (by kernel_rfl) (by kernel_rfl) (fun _ _ _ h => h) (Or.inl ⟨by rfl, fun w _ => by go_simp⟩) hS ?_
      go_simp
      refine wpAnyH_ready (rs := [4]) (by kernel_rfl) (by simp) ?_
      refine AllReadyH.cons rfl (fun K hK => ?_) AllReadyH.nil
      rw [if_pos (by rfl)]
      refine wp_store_row 58 _ _ rfl (w.heap.size + 1) #[.int .i64 x, .int .i64 er] rfl rfl 58 #[.int .i64 0, .int .i64 0] (unhide HF4) (by kernel_rfl) rfl (by simp [Value.oneCell']) ?_
      have bW : Below (w.heap.size + 1) W7 (W7.setRow (w.heap.size + 1) #[.int .i64 x, .int .i64 er]) := below_setRow' (Below.refl _ _) (Nat.le_refl _) _
      have E2y := hide ((unhide HE2).rowOther #[.int .i64 x, .int .i64 er] (show w.heap.size ≠ w.heap.size + 1 by omega))
      have F4y : Hid (FtAt (W7.setRow (w.heap.size + 1) #[.int .i64 x, .int .i64 er]) (w.heap.size + 1) x er) := hide (setRow_heap _ _ _ _ _ _ (unhide HF4))
      have By := hide (below_setRow' (unhide HB) (show w.heap.size ≤ w.heap.size + 1 by omega) #[.int .i64 x, .int .i64 er])
      have hSx : FtAt (W7.setRow (w.heap.size + 1) #[.int .i64 x, .int .i64 er]) g7 x er := (setRow_other W7 (w.heap.size + 1) g7 _ (by omega)).trans hS
      refine hK.out _ _ hSx (fun hSb => ?_)
      clear hK K hS bW hSb hSx
      refine wpAnyH_done (by kernel_rfl) ?_ _
      go_wp2
      refine bodyPost_ret (v := .tuple #[.agg (enA enZ), .bool false, ftV x er]) (results_en_b_ft rfl _ _ w.heap.size (w.heap.size + 1) enZ enZ_ok (.bool false) x er rfl rfl rfl (unhide E2y) (unhide F4y)) rfl ⟨grown_of (unhide By) _, Or.inr (Or.inl ⟨unhide HTK, by rw [← (unhide HK2).2.2]; exact (unhide HK2).1, (unhide HR).below (unhide By), by rw [← (unhide HK2).2.1, ← (unhide HK2).2.2]⟩)⟩
end Go.Proofs.Ytednnfmomhallaa
