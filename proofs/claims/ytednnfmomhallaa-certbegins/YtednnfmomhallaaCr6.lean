/-
  The contract of the reader's entry: the one that begins where the reader stands, or the fault. Conditions: the reader is one that Open made, its bytes lie there.
-/
import Derived.Test.YtednnfmomhallaaCr5
namespace Go.Proofs.Ytednnfmomhallaa
open Go.RowKit

/-- Place and error of the entry at a place, behind one of an address. -/
def oneE (L : List UInt8) (lo p : Nat) (ahead : Int) : Nat × Int :=
  if L.length < p + 2 then (L.length, 2) else if aftD (wdD L p) ahead ≠ 0 then (p, aftD (wdD L p) ahead) else if L.length = p + 2 then (L.length, 2)
  else if at8 L (p + 2) = 0 then (0, 0) else if at8 L (p + 2) = 1 then frE L lo (p + 3) else (p + 2, 63)
def oneX (L : List UInt8) (lo p : Nat) : En := if at8 L (p + 2) = 0 then ⟨wdD L p, true, frZ⟩ else ⟨wdD L p, false, frX L lo (p + 3)⟩
def oneN (L : List UInt8) (lo p : Nat) : Nat := if at8 L (p + 2) = 0 then p + 3 else frN L lo (p + 3)
theorem EAt.chain {W : World} {g k : Nat} {x : En} (h : EAt W g x) (hne : g ≠ k) (v0 v1 : Value) : EAt ((W.setCell ⟨k, 0, none⟩ v0).setCell ⟨k, 1, none⟩ v1) g x := (heap_setCell_other _ ⟨k, 1, none⟩ g v1 hne).trans ((heap_setCell_other _ ⟨k, 0, none⟩ g v0 hne).trans h)
theorem EAt.rowOther {W : World} {g k : Nat} {x : En} (h : EAt W k x) (cs : Array Value) (hne : k ≠ g) : EAt (W.setRow g cs) k x := (setRow_other W g k _ hne).trans h
theorem EAt.cellOther {W : World} {k : Nat} {x : En} (h : EAt W k x) (a : Addr) (v : Value) (hne : k ≠ a.block) : EAt (W.setCell a v) k x := (heap_setCell_other W a k v hne).trans h
theorem EAt.f {W : World} {g : Nat} {x : En} (h : EAt W g x) (i : Nat) : W.frozen? ⟨g, i, none⟩ = false := frozen_of_row _ _ _ _ _ h
theorem EAt.setDead {W : World} {g : Nat} {x : En} (h : EAt W g x) (d : Bool) : EAt (W.setCell ⟨g, 1, none⟩ (.bool d)) g ⟨x.at_, d, x.fr⟩ := by
  exact heap_setCell_same _ _ _ _ _ _ h
theorem rowSet {g : Nat} {t : TypeId} (post : List Value) : ∀ (vs old pre : List Value) (W : World), old.length = vs.length → W.heap[g]? = some (.cells (pre ++ old ++ post).toArray t (0, 0)) → (W.setCells g pre.length vs).heap[g]? = some (.cells (pre ++ vs ++ post).toArray t (0, 0))
  | [], old, pre, W, hl, h => by
    have : old = [] := List.eq_nil_of_length_eq_zero hl
    subst this
    exact h
  | v :: vs, [], pre, W, hl, h => by simp at hl
  | v :: vs, u :: old, pre, W, hl, h => by
    have h1 := heap_setCell_same W g pre.length _ _ v h
    have e1 : (pre ++ u :: old ++ post).toArray.setIfInBounds pre.length v = ((pre ++ [v]) ++ old ++ post).toArray := by simp
    rw [e1] at h1
    have := rowSet post vs old (pre ++ [v]) (W.setCell ⟨g, pre.length, none⟩ v) (by simpa using hl) h1
    rw [List.length_append] at this
    simpa [World.setCells] using this
theorem frL_len {f : Fr} (h : FrOk f) : (frL f).length = 26 := by have := frA_size h; simpa [frA] using this
theorem EAt.setFr {W : World} {g : Nat} {x : En} (h : EAt W g x) (hx : FrOk x.fr) {f : Fr} (hf : FrOk f) : EAt (W.setCells g 2 (frA f).toList) g ⟨x.at_, x.dead, f⟩ := by
  have := rowSet (g := g) (t := 42) [] (frL f) (frL x.fr) [.int .i64 x.at_, .bool x.dead] W (by rw [frL_len hx, frL_len hf]) (by rw [List.append_nil]; exact h)
  rw [List.append_nil] at this
  exact this
theorem cellsOther {g k : Nat} (hne : k ≠ g) : ∀ (vs : List Value) (o : Nat) (W : World), (W.setCells g o vs).heap[k]? = W.heap[k]?
  | [], _, _ => rfl
  | v :: vs, o, W => (cellsOther hne vs (o + 1) (W.setCell ⟨g, o, none⟩ v)).trans (heap_setCell_other W ⟨g, o, none⟩ k v hne)
theorem EAt.there {W : World} {g : Nat} {x : En} (h : EAt W g x) (hx : FrOk x.fr) {f : Fr} (hf : FrOk f) : W.there g 2 (frA f).size := by
  intro j hj
  rw [frA_size hf] at hj
  refine ⟨?_, h.f _⟩
  have : W.cell? ⟨g, 2 + j, none⟩ = (enA x)[2 + j]? := cell_of_row _ _ _ _ _ _ h
  rw [this, Array.getElem?_eq_getElem (by rw [enA_size hx]; omega)]
  rfl
theorem FtAt.other2 {W : World} {g k : Nat} {p e : Int} (h : FtAt W g p e) (hne : g ≠ k) (v0 v1 : Value) : FtAt ((W.setCell ⟨k, 0, none⟩ v0).setCell ⟨k, 1, none⟩ v1) g p e :=
  (heap_setCell_other _ ⟨k, 1, none⟩ g v1 hne).trans ((heap_setCell_other _ ⟨k, 0, none⟩ g v0 hne).trans h)
theorem yieldsIf_load_en {ops : Array Oper} {S : World → Prop} {o : Oper} {c : Act} (hw : Region.wanted o (yielded ops c.tmps) = true) (x : Operand) (ho : o.op = .load 42 x)
    (g : Nat) (hx : c.eval x = .pointer (some ⟨g, 0, none⟩)) (y : En) (hy : FrOk y.fr) (hS : ∀ w, S w → EAt w g y) : YieldsIf Try.prog ops S o (.agg (enA y)) c :=
  .inl ⟨hw, fun w hw' => by
    unfold execOp
    simp only [ho, hx, Instr.loadAt, Instr.sureAddr, Sem.run_bind, Sem.run_pure, Result.andThen_ok, run_loadVar_row w g 42 42 (enA y) (0, 0) _ (hS w hw') Try.underlying42 rfl (sizeEn hy)]⟩
theorem yieldsIf_load_ft {ops : Array Oper} {S : World → Prop} {o : Oper} {c : Act} (hw : Region.wanted o (yielded ops c.tmps) = true) (x : Operand) (ho : o.op = .load 58 x)
    (g : Nat) (hx : c.eval x = .pointer (some ⟨g, 0, none⟩)) (p e : Int) (hS : ∀ w, S w → FtAt w g p e) : YieldsIf Try.prog ops S o (.agg #[.int .i64 p, .int .i64 e]) c :=
  .inl ⟨hw, fun w hw' => by
    unfold execOp
    simp only [ho, hx, Instr.loadAt, Instr.sureAddr, Sem.run_bind, Sem.run_pure, Result.andThen_ok, run_loadFt (hS w hw'), ftV]⟩
theorem results_en_ft {fn : Func} {p u v : Tmp} (h : fn.results = #[.cell p 42, .tmp u, .cell v 58]) (tmps : Array Value) (W : World) (g k : Nat) (y : En) (hy : FrOk y.fr) (n x e : Int)
    (hp : tmps.getD p undef = .pointer (some ⟨g, 0, none⟩)) (hu : tmps.getD u undef = .int .i64 n) (hv : tmps.getD v undef = .pointer (some ⟨k, 0, none⟩)) (hg : EAt W g y) (hk : FtAt W k x e) :
    (results fn tmps).run Try.prog W = .ok (.tuple #[.agg (enA y), .int .i64 n, ftV x e]) W := by
  rw [results_cell_tmp_cell h, hp, hu, hv, run_addr, Result.andThen_ok, run_loadVar_row W g 42 42 (enA y) (0, 0) _ hg Try.underlying42 rfl (sizeEn hy), Result.andThen_ok, run_addr, Result.andThen_ok, run_loadFt hk, Result.andThen_ok]

set_option maxRecDepth 20000 in
set_option maxHeartbeats 8000000 in
theorem entry_any {gr : Nat} {ao : Option Addr} {c : Nat} {L : List UInt8} {lo : Nat} {k told ahead : Int} (p : Nat) (w : World) (hR : RAt w gr (.slice ao L.length c) lo k (p : Int) told ahead) (hb : BAt w ao L) (hl : L.length ≤ 562949953421312) (hlo : lo ≤ 16) (hp : p ≤ L.length) :
    Calls Try.prog 42 #[.pointer (some ⟨gr, 0, none⟩)] w fun e w' => Below w.heap.size w w' ∧ (((oneE L lo p ahead).2 = 0 ∧ FrOk (oneX L lo p).fr ∧ oneN L lo p ≤ L.length ∧ e = .returned (.tuple #[.agg (enA (oneX L lo p)), .int .i64 (oneN L lo p : Int), ftV 0 0])) ∨ ((oneE L lo p ahead).2 ≠ 0 ∧ ∃ y : En, FrOk y.fr ∧ e = .returned (.tuple #[.agg (enA y), .int .i64 0, ftV (oneE L lo p ahead).1 (oneE L lo p ahead).2]))) := by
  have HR := hide hR
  have HBt := hide hb
  have hal := ((Below.refl w.heap.size w).alloc (Nat.le_refl _) (.cells (enA enZ) 42))
  have hal2 := hal.alloc (by simp) (.cells #[.int .i64 0, .int .i64 0] 58)
  have HE2 : Hid (EAt ((w.alloc (.cells (enA enZ) 42)).alloc (.cells #[.int .i64 0, .int .i64 0] 58)) w.heap.size enZ) := hide ((EAt.new w enZ).below ((Below.refl _ _).alloc (Nat.le_refl _) _) (by simp))
  have HF4 : Hid (FtAt ((w.alloc (.cells (enA enZ) 42)).alloc (.cells #[.int .i64 0, .int .i64 0] 58)) (w.heap.size + 1) 0 0) := hide (by
    have := heap_alloc_new (w.alloc (.cells (enA enZ) 42)) (.cells #[.int .i64 0, .int .i64 0] 58)
    rw [World.size_alloc] at this
    exact this)
  have HB := hide hal2
  have hrl : gr < w.heap.size := hR.lt
  clear hal hal2 hR hb
  go_enter Try.func42, Try.ntmps42
  have cr0 := (((unhide HR).below (unhide HB))).c0
  have cr3 := (((unhide HR).below (unhide HB))).c3
  rw [← enZ_eq] at cr0 cr3
  by_cases hlen : L.length < p + 2
  · have e1 : ((L.length : Nat) : Int) < (p : Int) + 2 := by omega
    have HE : Hid (oneE L lo p ahead = (L.length, 2)) := hide (if_pos hlen)
    clear hlen
    go_wp2_with fail
    clear cr0 cr3
    rw [enZ_eq]
    generalize ((w.alloc (.cells (enA enZ) 42)).alloc (.cells #[.int .i64 0, .int .i64 0] 58)) = W0 at HE2 HF4 HB ⊢
    refine (short_any ao c L.length _).mono ?_
    rintro e W9 ⟨rfl, hB9⟩
    have HE2 := hide ((unhide HE2).below hB9 (unhide HE2).lt)
    have HF4 := hide ((unhide HF4).below hB9)
    have HB := hide ((unhide HB).trans (hB9.mono (unhide HB).size))
    clear hB9
    unfold ftV
    have E2' := hide ((unhide HE2).row enZ)
    have F4' : Hid (FtAt (W9.setRow w.heap.size (enA enZ)) (w.heap.size + 1) 0 0) := hide ((setRow_other W9 w.heap.size (w.heap.size + 1) _ (by omega)).trans (unhide HF4))
    have B' := hide (below_setRow' (unhide HB) (Nat.le_refl _) (enA enZ))
    have f0 := (unhide F4').c0
    have f1 := (unhide F4').c1
    have z0 := (unhide F4').f 0
    have z1 := (unhide F4').f 1
    go_wp2_with (refine wpList_store_row rfl 42 _ _ rfl w.heap.size (enA enZ) rfl rfl 42 (enA enZ) (unhide HE2) (sizeEn enZ_ok) (sizeEqEn enZ_ok enZ_ok) (enA_one _) ?_)
    have hE := unhide HE
    exact bodyPost_ret (v := .tuple #[.agg (enA enZ), .int .i64 0, ftV L.length 2]) (results_en_ft rfl _ _ w.heap.size (w.heap.size + 1) enZ enZ_ok 0 L.length 2 rfl rfl rfl ((unhide E2').chain (by omega) _ _) ((unhide F4').chain L.length 2)) rfl ⟨below_chain2 (unhide B') (by omega) _ _, Or.inr ⟨by rw [hE]; simp, enZ, enZ_ok, by rw [hE] <;> rfl⟩⟩
  · have e1 : ¬ ((L.length : Nat) : Int) < (p : Int) + 2 := by omega
    have HE : Hid (oneE L lo p ahead = if aftD (wdD L p) ahead ≠ 0 then (p, aftD (wdD L p) ahead) else if L.length = p + 2 then (L.length, 2) else if at8 L (p + 2) = 0 then (0, 0) else if at8 L (p + 2) = 1 then frE L lo (p + 3) else (p + 2, 63)) := hide (if_neg hlen)
    have HWD : Hid (∀ W, Below w.heap.size w W → Calls Try.prog 38 #[.slice ao L.length c, .int .i64 (p : Int)] W fun e w' => e = .returned (.int .i64 (wdD L p)) ∧ ∃ k, w' = W.drewN k) := hide (fun W h => word_any ao c L p W ((unhide HBt).below' h) (by omega) hl)
    obtain ⟨a, HA⟩ : ∃ a, Hid (wdD L p = a) := ⟨_, hide rfl⟩
    have hab : 0 ≤ a ∧ a ≤ 65535 := by rw [← unhide HA]; exact wdD_bounds L p
    rw [unhide HA] at HE HWD
    go_wp2_with fail
    clear cr0 cr3
    rw [enZ_eq]
    generalize ((w.alloc (.cells (enA enZ) 42)).alloc (.cells #[.int .i64 0, .int .i64 0] 58)) = W0 at HE2 HF4 HB ⊢
    have HE2 : Hid (EAt W0.drew w.heap.size enZ) := hide (unhide HE2)
    have HF4 : Hid (FtAt W0.drew (w.heap.size + 1) 0 0) := hide (unhide HF4)
    have HB : Hid (Below w.heap.size w W0.drew) := hide ((unhide HB).trans ⟨rfl, rfl, rfl, Nat.le_refl _, fun _ _ => rfl⟩)
    have hS0 : W0.drew.cell? ⟨gr, 0, none⟩ = some (.slice ao L.length c) ∧ W0.drew.cell? ⟨gr, 3, none⟩ = some (.int .i64 (p : Int)) := ⟨((unhide HR).below (unhide HB)).c0, ((unhide HR).below (unhide HB)).c3⟩
    refine wp_region_held_drew (S := fun w' => w'.cell? ⟨gr, 0, none⟩ = some (.slice ao L.length c) ∧ w'.cell? ⟨gr, 3, none⟩ = some (.int .i64 (p : Int))) (by kernel_rfl) hS0 (fun hS => ?_)
    clear hS0
    generalize W0.drew = W1 at HE2 HF4 HB hS ⊢
    refine wpAnyH_take (i := 0) (v := .pointer (some ⟨gr, 0, none⟩)) rfl (by kernel_rfl) (by kernel_rfl) (by kernel_rfl) (fun _ _ _ h => h) (Or.inl ⟨by rfl, fun w _ => by go_simp⟩) hS ?_
    refine wpAnyH_take (i := 1) (v := .pointer (some ⟨gr, 0, none⟩)) rfl (by kernel_rfl) (by kernel_rfl) (by kernel_rfl) (fun _ _ _ h => h) (Or.inl ⟨by rfl, fun w _ => by go_simp⟩) hS ?_
    refine wpAnyH_take (i := 2) (v := .pointer (some ⟨gr, 0, none⟩)) rfl (by kernel_rfl) (by kernel_rfl) (by kernel_rfl) (fun _ _ _ h => h) (Or.inl ⟨by rfl, fun w _ => by go_simp⟩) hS ?_
    refine wpAnyH_take (i := 3) (v := .slice ao L.length c) rfl (by kernel_rfl) (by kernel_rfl) (by kernel_rfl) (fun _ _ _ h => h) (Or.inl ⟨by rfl, fun w hS => by obtain ⟨_, _⟩ := hS; go_simp⟩) hS ?_
    refine wpAnyH_take (i := 4) (v := .pointer (some ⟨gr, 0, none⟩)) rfl (by kernel_rfl) (by kernel_rfl) (by kernel_rfl) (fun _ _ _ h => h) (Or.inl ⟨by rfl, fun w _ => by go_simp⟩) hS ?_
    refine wpAnyH_take (i := 5) (v := .pointer (some ⟨gr, 0, none⟩)) rfl (by kernel_rfl) (by kernel_rfl) (by kernel_rfl) (fun _ _ _ h => h) (Or.inl ⟨by rfl, fun w _ => by go_simp⟩) hS ?_
    refine wpAnyH_take (i := 6) (v := .pointer (some ⟨gr, 3, none⟩)) rfl (by kernel_rfl) (by kernel_rfl) (by kernel_rfl) (fun _ _ _ h => h) (Or.inl ⟨by rfl, fun w _ => by go_simp⟩) hS ?_
    refine wpAnyH_take (i := 7) (v := .int .i64 (p : Int)) rfl (by kernel_rfl) (by kernel_rfl) (by kernel_rfl) (fun _ _ _ h => h) (Or.inl ⟨by rfl, fun w hS => by obtain ⟨_, _⟩ := hS; go_simp⟩) hS ?_
    refine wpAnyH_ready (rs := [8, 10]) (by kernel_rfl) (by simp) ?_
    refine AllReadyH.cons rfl (fun K hK => ?_) (AllReadyH.cons rfl (fun K hK => ?_) AllReadyH.nil)
    go_simp
    go_wp2_with (go_at_call 38; refine (unhide HWD _ (unhide HB)).mono ?_; rintro e W2q ⟨rfl, kq, rfl⟩)
    have HE2 : Hid (EAt (W1.drewN kq) w.heap.size enZ) := hide (unhide HE2)
    have HF4 : Hid (FtAt (W1.drewN kq) (w.heap.size + 1) 0 0) := hide (unhide HF4)
    have HB : Hid (Below w.heap.size w (W1.drewN kq)) := hide (belowD (unhide HB) kq)
    refine hK.out _ _ hS (fun hSb => ?_)
    clear hK K hSb
    have hS : (W1.drewN kq).cell? ⟨gr, 0, none⟩ = some (.slice ao L.length c) ∧ (W1.drewN kq).cell? ⟨gr, 3, none⟩ = some (.int .i64 (p : Int)) := hS
    generalize W1.drewN kq = W2 at HE2 HF4 HB hS ⊢
    refine wpAnyH_take (i := 9) (v := .agg (enA ⟨a, false, frZ⟩)) rfl (by kernel_rfl) (by kernel_rfl) (by kernel_rfl) (fun _ _ _ h => h) (Or.inl ⟨by rfl, fun w _ => by go_simp; rfl⟩) hS ?_
    refine wpAnyH_ready (rs := [10]) (by kernel_rfl) (by simp) ?_
    refine AllReadyH.cons rfl (fun K hK => ?_) AllReadyH.nil
    go_simp
    have hal : Below W2.heap.size W2 (W2.alloc (.cells (enA enZ) 42)) := (Below.refl _ _).alloc (Nat.le_refl _) _
    have HE6 : Hid (EAt (W2.alloc (.cells (enA enZ) 42)) W2.heap.size enZ) := hide (EAt.new W2 enZ)
    have o26 : w.heap.size < W2.heap.size := (unhide HE2).lt
    have o46 : w.heap.size + 1 < W2.heap.size := (unhide HF4).lt
    have HE2 := hide ((unhide HE2).below hal (unhide HE2).lt)
    have HF4 := hide ((unhide HF4).below hal)
    have HB := hide ((unhide HB).trans (hal.mono (unhide HB).size))
    have hSa : (W2.alloc (.cells (enA enZ) 42)).cell? ⟨gr, 0, none⟩ = some (.slice ao L.length c) ∧ (W2.alloc (.cells (enA enZ) 42)).cell? ⟨gr, 3, none⟩ = some (.int .i64 (p : Int)) := ⟨(hal.cell (p := ⟨gr, 0, none⟩) (World.block_lt_of_cell? W2 _ hS.1)).trans hS.1, (hal.cell (p := ⟨gr, 3, none⟩) (World.block_lt_of_cell? W2 _ hS.2)).trans hS.2⟩
    clear hS
    refine hK.out _ _ hSa (fun hSb => ?_)
    clear hK K hal hSb
    rw [enZ_eq]
    have hS := hSa
    clear hSa
    generalize (W2.alloc (.cells (enA enZ) 42)) = W2a at HE6 HE2 HF4 HB hS ⊢
    generalize W2.heap.size = g6 at HE6 o26 o46 ⊢
    obtain ⟨W3, hW3⟩ : ∃ W3, W3 = W2a := ⟨_, rfl⟩
    rw [← hW3] at HE6 HE2 HF4 HB hS ⊢
    clear hW3
    rotate_left
    go_simp
    have hal : Below W1.heap.size W1 (W1.alloc (.cells (enA enZ) 42)) := (Below.refl _ _).alloc (Nat.le_refl _) _
    have HE6 : Hid (EAt (W1.alloc (.cells (enA enZ) 42)) W1.heap.size enZ) := hide (EAt.new W1 enZ)
    have o26 : w.heap.size < W1.heap.size := (unhide HE2).lt
    have o46 : w.heap.size + 1 < W1.heap.size := (unhide HF4).lt
    have HE2 := hide ((unhide HE2).below hal (unhide HE2).lt)
    have HF4 := hide ((unhide HF4).below hal)
    have HB := hide ((unhide HB).trans (hal.mono (unhide HB).size))
    have hSa : (W1.alloc (.cells (enA enZ) 42)).cell? ⟨gr, 0, none⟩ = some (.slice ao L.length c) ∧ (W1.alloc (.cells (enA enZ) 42)).cell? ⟨gr, 3, none⟩ = some (.int .i64 (p : Int)) := ⟨(hal.cell (p := ⟨gr, 0, none⟩) (World.block_lt_of_cell? W1 _ hS.1)).trans hS.1, (hal.cell (p := ⟨gr, 3, none⟩) (World.block_lt_of_cell? W1 _ hS.2)).trans hS.2⟩
    clear hS
    refine hK.out _ _ hSa (fun hSb => ?_)
    clear hK K hal hSb
    rw [enZ_eq]
    have hS := hSa
    clear hSa
    generalize (W1.alloc (.cells (enA enZ) 42)) = W1a at HE6 HE2 HF4 HB hS ⊢
    generalize W1.heap.size = g6 at HE6 o26 o46 ⊢
    refine wpAnyH_ready (rs := [8]) (by kernel_rfl) (by simp) ?_
    refine AllReadyH.cons rfl (fun K hK => ?_) AllReadyH.nil
    go_simp
    go_wp2_with (go_at_call 38; refine (unhide HWD _ (unhide HB)).mono ?_; rintro e W2q ⟨rfl, kq, rfl⟩)
    have HE2 : Hid (EAt (W1a.drewN kq) w.heap.size enZ) := hide (unhide HE2)
    have HF4 : Hid (FtAt (W1a.drewN kq) (w.heap.size + 1) 0 0) := hide (unhide HF4)
    have HB : Hid (Below w.heap.size w (W1a.drewN kq)) := hide (belowD (unhide HB) kq)
    have HE6 : Hid (EAt (W1a.drewN kq) g6 enZ) := hide (unhide HE6)
    refine hK.out _ _ hS (fun hSb => ?_)
    clear hK K hSb
    have hS : (W1a.drewN kq).cell? ⟨gr, 0, none⟩ = some (.slice ao L.length c) ∧ (W1a.drewN kq).cell? ⟨gr, 3, none⟩ = some (.int .i64 (p : Int)) := hS
    generalize W1a.drewN kq = W3 at HE6 HE2 HF4 HB hS ⊢
    refine wpAnyH_take (i := 9) (v := .agg (enA ⟨a, false, frZ⟩)) rfl (by kernel_rfl) (by kernel_rfl) (by kernel_rfl) (fun _ _ _ h => h) (Or.inl ⟨by rfl, fun w _ => by go_simp; rfl⟩) hS ?_
    all_goals (
      refine wpAnyH_ready (rs := [11]) (by kernel_rfl) (by simp) ?_
      refine AllReadyH.cons rfl (fun K hK => ?_) AllReadyH.nil
      rw [if_pos (by rfl)]
      refine wp_store_row 42 _ _ rfl g6 (enA ⟨a, false, frZ⟩) rfl rfl 42 (enA enZ) (unhide HE6) (sizeEn frZ_ok) (sizeEqEn enZ_ok frZ_ok) (enA_one _) ?_
      have bW : Below g6 W3 (W3.setRow g6 (enA ⟨a, false, frZ⟩)) := below_setRow' (Below.refl _ _) (Nat.le_refl _) _
      have HE6 := hide ((unhide HE6).row ⟨a, false, frZ⟩)
      have HE2 := hide ((unhide HE2).rowOther (enA ⟨a, false, frZ⟩) (show w.heap.size ≠ g6 by omega))
      have HF4 : Hid (FtAt (W3.setRow g6 (enA ⟨a, false, frZ⟩)) (w.heap.size + 1) 0 0) := hide ((setRow_other W3 g6 (w.heap.size + 1) _ (by omega)).trans (unhide HF4))
      have HB := hide (below_setRow' (unhide HB) (show w.heap.size ≤ g6 by omega) (enA ⟨a, false, frZ⟩))
      have hSa : (W3.setRow g6 (enA ⟨a, false, frZ⟩)).cell? ⟨gr, 0, none⟩ = some (.slice ao L.length c) ∧ (W3.setRow g6 (enA ⟨a, false, frZ⟩)).cell? ⟨gr, 3, none⟩ = some (.int .i64 (p : Int)) := ⟨(bW.cell (p := ⟨gr, 0, none⟩) (by show gr < g6; omega)).trans hS.1, (bW.cell (p := ⟨gr, 3, none⟩) (by show gr < g6; omega)).trans hS.2⟩
      clear hS
      refine hK.out _ _ hSa (fun hSb => ?_)
      clear hK K hSb hSa bW
      generalize (W3.setRow g6 (enA ⟨a, false, frZ⟩)) = W4 at HE6 HE2 HF4 HB ⊢
      refine wpAnyH_done (by kernel_rfl) ?_ _
      have ca := ((unhide HR).below (unhide HB)).c5
      have c6 := (unhide HE6).c0
      simp only at c6
      obtain ⟨er, HER⟩ : ∃ er, Hid (aftD a ahead = er) := ⟨_, hide rfl⟩
      have HFO : Hid (∀ W, Calls Try.prog 19 #[.int .i64 ahead, .int .i64 a] W fun e w' => e = .returned (.int .i64 er) ∧ w' = W) := hide (fun W => by rw [← unhide HER]; exact follows_any ahead a W)
      go_wp2_with fail
      go_quiet ((go_at_call 19; exact Calls.quiet_of_same (unhide HFO _)))
      clear ca c6 HFO
      have HE6 : Hid (EAt (W4.drewN nq) g6 ⟨a, false, frZ⟩) := hide (unhide HE6)
      have HE2 : Hid (EAt (W4.drewN nq) w.heap.size enZ) := hide (unhide HE2)
      have HF4 : Hid (FtAt (W4.drewN nq) (w.heap.size + 1) 0 0) := hide (unhide HF4)
      have HB : Hid (Below w.heap.size w (W4.drewN nq)) := hide (belowD (unhide HB) nq)
      generalize W4.drewN nq = W5 at HE6 HE2 HF4 HB ⊢
      rw [unhide HER] at HE
      by_cases her : er = 0
      rotate_left
      · have HE3 : Hid (oneE L lo p ahead = (p, er)) := hide (by rw [unhide HE, if_pos her])
        have b1 : (er != 0) = true := bne_t her
        go_wp2_with fail
        have HE2 : Hid (EAt W5.drew w.heap.size enZ) := hide (unhide HE2)
        have HF4 : Hid (FtAt W5.drew (w.heap.size + 1) 0 0) := hide (unhide HF4)
        have HB : Hid (Below w.heap.size w W5.drew) := hide ((unhide HB).trans ⟨rfl, rfl, rfl, Nat.le_refl _, fun _ _ => rfl⟩)
        refine wp_region_held_drew (S := fun w' => w'.cell? ⟨gr, 3, none⟩ = some (.int .i64 (p : Int))) (by kernel_rfl) ((unhide HR).below (unhide HB)).c3 (fun hS => ?_)
        generalize W5.drew = W6 at HE2 HF4 HB hS ⊢
        refine wpAnyH_take (i := 0) (v := .agg (enA enZ)) rfl (by kernel_rfl) (by kernel_rfl) (by kernel_rfl) (fun _ _ _ h => h) (Or.inl ⟨by rfl, fun w _ => by go_simp; rfl⟩) hS ?_
        refine wpAnyH_take (i := 1) (v := .pointer (some ⟨gr, 0, none⟩)) rfl (by kernel_rfl) (by kernel_rfl) (by kernel_rfl) (fun _ _ _ h => h) (Or.inl ⟨by rfl, fun w _ => by go_simp⟩) hS ?_
        refine wpAnyH_take (i := 2) (v := .pointer (some ⟨gr, 0, none⟩)) rfl (by kernel_rfl) (by kernel_rfl) (by kernel_rfl) (fun _ _ _ h => h) (Or.inl ⟨by rfl, fun w _ => by go_simp⟩) hS ?_
        refine wpAnyH_take (i := 3) (v := .pointer (some ⟨gr, 3, none⟩)) rfl (by kernel_rfl) (by kernel_rfl) (by kernel_rfl) (fun _ _ _ h => h) (Or.inl ⟨by rfl, fun w _ => by go_simp⟩) hS ?_
        refine wpAnyH_take (i := 4) (v := .int .i64 (p : Int)) rfl (by kernel_rfl) (by kernel_rfl) (by kernel_rfl) (fun _ _ _ h => h) (Or.inl ⟨by rfl, fun w hS => by go_simp⟩) hS ?_
        refine wpAnyH_take (i := 5) (v := .int .i64 er) rfl (by kernel_rfl) (by kernel_rfl) (by kernel_rfl) (fun _ _ _ h => h) (Or.inl ⟨by rfl, fun w _ => by go_simp⟩) hS ?_
        refine wpAnyH_take (i := 6) (v := .agg #[.int .i64 (p : Int), .int .i64 er]) rfl (by kernel_rfl) (by kernel_rfl) (by kernel_rfl) (fun _ _ _ h => h) (Or.inl ⟨by rfl, fun w _ => by go_simp⟩) hS ?_
        go_simp
        refine wpAnyH_ready (rs := [7]) (by kernel_rfl) (by simp) ?_
        refine AllReadyH.cons rfl (fun K hK => ?_) AllReadyH.nil
        rw [if_pos (by rfl)]
        refine wp_store_row 42 _ _ rfl w.heap.size (enA enZ) rfl rfl 42 (enA enZ) (unhide HE2) (sizeEn enZ_ok) rfl (enA_one _) ?_
        have bW : Below w.heap.size W6 (W6.setRow w.heap.size (enA enZ)) := below_setRow' (Below.refl _ _) (Nat.le_refl _) _
        have HE2 := hide ((unhide HE2).row enZ)
        have HF4 : Hid (FtAt (W6.setRow w.heap.size (enA enZ)) (w.heap.size + 1) 0 0) := hide ((setRow_other W6 w.heap.size (w.heap.size + 1) _ (by omega)).trans (unhide HF4))
        have HB := hide (below_setRow' (unhide HB) (Nat.le_refl _) (enA enZ))
        refine hK.out _ _ ((bW.cell (p := ⟨gr, 3, none⟩) hrl).trans hS) (fun hSb => ?_)
        clear hK K hS bW
        have hS : (W6.setRow w.heap.size (enA enZ)).cell? ⟨gr, 3, none⟩ = some (.int .i64 (p : Int)) := hSb
        clear hSb
        generalize (W6.setRow w.heap.size (enA enZ)) = W7 at HE2 HF4 HB hS ⊢
        refine wpAnyH_take (i := 8) (v := .int .i64 0) rfl (by kernel_rfl) (by kernel_rfl) (by kernel_rfl) (fun _ _ _ h => h) (Or.inl ⟨by rfl, fun w _ => by go_simp⟩) hS ?_
        go_simp
        refine wpAnyH_ready (rs := [9]) (by kernel_rfl) (by simp) ?_
        refine AllReadyH.cons rfl (fun K hK => ?_) AllReadyH.nil
        rw [if_pos (by rfl)]
        refine wp_store_row 58 _ _ rfl (w.heap.size + 1) #[.int .i64 (p : Int), .int .i64 er] rfl rfl 58 #[.int .i64 0, .int .i64 0] (unhide HF4) (by kernel_rfl) rfl (by simp [Value.oneCell']) ?_
        have bW : Below (w.heap.size + 1) W7 (W7.setRow (w.heap.size + 1) #[.int .i64 (p : Int), .int .i64 er]) := below_setRow' (Below.refl _ _) (Nat.le_refl _) _
        have HE2 := hide ((unhide HE2).rowOther #[.int .i64 (p : Int), .int .i64 er] (show w.heap.size ≠ w.heap.size + 1 by omega))
        have HF4 : Hid (FtAt (W7.setRow (w.heap.size + 1) #[.int .i64 (p : Int), .int .i64 er]) (w.heap.size + 1) p er) := hide (setRow_heap _ _ _ _ _ _ (unhide HF4))
        have HB := hide (below_setRow' (unhide HB) (show w.heap.size ≤ w.heap.size + 1 by omega) #[.int .i64 (p : Int), .int .i64 er])
        refine hK.out _ _ ((bW.cell (p := ⟨gr, 3, none⟩) (by show gr < w.heap.size + 1; omega)).trans hS) (fun hSb => ?_)
        clear hK K hS bW hSb
        refine wpAnyH_done (by kernel_rfl) ?_ _
        go_wp2
        have hE := unhide HE3
        exact bodyPost_ret (v := .tuple #[.agg (enA enZ), .int .i64 0, ftV p er]) (results_en_ft rfl _ _ w.heap.size (w.heap.size + 1) enZ enZ_ok 0 p er rfl rfl rfl (unhide HE2) (unhide HF4)) rfl ⟨unhide HB, Or.inr ⟨by rw [hE]; exact her, enZ, enZ_ok, by rw [hE]⟩⟩
      have HE : Hid (oneE L lo p ahead = if L.length = p + 2 then (L.length, 2) else if at8 L (p + 2) = 0 then (0, 0) else if at8 L (p + 2) = 1 then frE L lo (p + 3) else (p + 2, 63)) := hide (by rw [unhide HE, if_neg (by rw [her]; simp)])
      have b1 : (er != 0) = false := bne_f her
      have cr0 := ((unhide HR).below (unhide HB)).c0
      by_cases hl2 : L.length = p + 2
      · have HE3 : Hid (oneE L lo p ahead = (L.length, 2)) := hide (by rw [unhide HE, if_pos hl2])
        have e2 : (((L.length : Nat) : Int) == (p : Int) + 2) = true := by simp; omega
        clear hl2 her hlen e1
        go_wp2_with fail
        refine (short_any ao c L.length _).mono ?_
        rintro e W9 ⟨rfl, hB9⟩
        have HE2 := hide ((unhide HE2).below hB9 (unhide HE2).lt)
        have HF4 := hide ((unhide HF4).below hB9)
        have HB := hide ((unhide HB).trans (hB9.mono (unhide HB).size))
        clear hB9
        unfold ftV
        have E2' := hide ((unhide HE2).row enZ)
        have F4' : Hid (FtAt (W9.setRow w.heap.size (enA enZ)) (w.heap.size + 1) 0 0) := hide ((setRow_other W9 w.heap.size (w.heap.size + 1) _ (by omega)).trans (unhide HF4))
        have B' := hide (below_setRow' (unhide HB) (Nat.le_refl _) (enA enZ))
        have f0 := (unhide F4').c0
        have f1 := (unhide F4').c1
        have z0 := (unhide F4').f 0
        have z1 := (unhide F4').f 1
        go_wp2_with (refine wpList_store_row rfl 42 _ _ rfl w.heap.size (enA enZ) rfl rfl 42 (enA enZ) (unhide HE2) (sizeEn enZ_ok) (sizeEqEn enZ_ok enZ_ok) (enA_one _) ?_)
        have hE := unhide HE3
        exact bodyPost_ret (v := .tuple #[.agg (enA enZ), .int .i64 0, ftV L.length 2]) (results_en_ft rfl _ _ w.heap.size (w.heap.size + 1) enZ enZ_ok 0 L.length 2 rfl rfl rfl ((unhide E2').chain (by omega) _ _) ((unhide F4').chain L.length 2)) rfl ⟨below_chain2 (unhide B') (by omega) _ _, Or.inr ⟨by rw [hE]; simp, enZ, enZ_ok, by rw [hE] <;> rfl⟩⟩
      have e2 : (((L.length : Nat) : Int) == (p : Int) + 2) = false := beq_f (by omega)
      have hq : p + 2 < L.length := by omega
      have i2 : (p : Int) + 2 < ((L.length : Nat) : Int) := by omega
      obtain ⟨b, off, rfl, hc⟩ := (unhide HBt).head (by omega)
      obtain ⟨y, HY⟩ : ∃ y, Hid (at8 L (p + 2) = y) := ⟨_, hide rfl⟩
      have hy0 : 0 ≤ y := by rw [← unhide HY]; exact at8_lo L (p + 2)
      have hy1 : y ≤ 255 := by rw [← unhide HY]; exact at8_hi L (p + 2)
      have cy0 : w.cell? ⟨b, off + (p + 2), none⟩ = some (.int .u8 y) := by rw [← unhide HY]; exact hc (p + 2) hq
      have cy : W5.cell? ⟨b, off + (p + 2), none⟩ = some (.int .u8 y) := ((unhide HB).cell (p := ⟨b, off + (p + 2), none⟩) (World.block_lt_of_cell? w _ cy0)).trans cy0
      have HE : Hid (oneE L lo p ahead = if y = 0 then (0, 0) else if y = 1 then frE L lo (p + 3) else (p + 2, 63)) := hide (by rw [unhide HE, if_neg hl2, unhide HY])
      clear hc cy0 hl2 her hlen e1
      by_cases y0 : y = 0
      · subst y0
        have HE3 : Hid ((oneE L lo p ahead).2 = 0) := hide (by rw [unhide HE, if_pos rfl])
        have HX1 : Hid (oneX L lo p = ⟨a, true, frZ⟩ ∧ oneN L lo p = p + 3) := hide (by unfold oneX oneN; rw [unhide HY, unhide HA, if_pos rfl, if_pos rfl]; exact ⟨rfl, rfl⟩)
        have d1 := (unhide HE6).c1
        have dz := (unhide HE6).f 1
        simp only at d1
        have E6' := hide ((unhide HE6).setDead true)
        simp only at E6'
        have E2' := hide ((unhide HE2).cellOther ⟨g6, 1, none⟩ (.bool true) (show w.heap.size ≠ g6 by omega))
        have F4' : Hid (FtAt ((W5.setCell ⟨g6, 1, none⟩ (.bool true)).setRow w.heap.size (enA ⟨a, true, frZ⟩)) (w.heap.size + 1) 0 0) := hide ((setRow_other _ w.heap.size (w.heap.size + 1) _ (by omega)).trans ((heap_setCell_other W5 ⟨g6, 1, none⟩ (w.heap.size + 1) _ (show w.heap.size + 1 ≠ g6 by omega)).trans (unhide HF4)))
        have E2'' := hide ((unhide E2').row ⟨a, true, frZ⟩)
        have B' := hide (below_setRow' ((unhide HB).setCell (p := ⟨g6, 1, none⟩) (show w.heap.size ≤ g6 by omega) (.bool true)) (Nat.le_refl _) (enA ⟨a, true, frZ⟩))
        have f0 := (unhide F4').c0
        have f1 := (unhide F4').c1
        have z0 := (unhide F4').f 0
        have z1 := (unhide F4').f 1
        go_wp2_with (first | (refine wpList_store_row rfl 42 _ _ rfl w.heap.size (enA ⟨a, true, frZ⟩) rfl rfl 42 (enA enZ) (unhide E2') (sizeEn frZ_ok) (sizeEqEn enZ_ok frZ_ok) (enA_one _) ?_) | (refine wpList_load_row rfl 42 _ rfl g6 rfl 42 (enA ⟨a, true, frZ⟩) (0, 0) _ (unhide E6') Try.underlying42 rfl (sizeEn frZ_ok) ?_))
        refine bodyPost_ret (v := .tuple #[.agg (enA ⟨a, true, frZ⟩), .int .i64 ((p : Int) + 2 + 1), ftV 0 0]) (results_en_ft rfl _ _ w.heap.size (w.heap.size + 1) ⟨a, true, frZ⟩ frZ_ok _ 0 0 rfl rfl rfl ((unhide E2'').chain (by omega) _ _) ((unhide F4').chain 0 0)) rfl ⟨below_chain2 (unhide B') (by omega) _ _, Or.inl ⟨unhide HE3, by rw [(unhide HX1).1]; exact frZ_ok, by rw [(unhide HX1).2]; omega, ?_⟩⟩
        rw [(unhide HX1).1, (unhide HX1).2, show ((p + 3 : Nat) : Int) = (p : Int) + 2 + 1 by omega]
      by_cases y1 : y = 1
      · subst y1
        have HFR : Hid (∀ W, Below w.heap.size w W → Calls Try.prog 43 #[.pointer (some ⟨gr, 0, none⟩), .int .i64 ((p : Int) + 2 + 1)] W fun e w' => Below W.heap.size W w' ∧ (((frE L lo (p + 3)).2 = 0 ∧ FrOk (frX L lo (p + 3)) ∧ frN L lo (p + 3) ≤ L.length ∧ e = .returned (.tuple #[.agg (frA (frX L lo (p + 3))), .int .i64 (frN L lo (p + 3) : Int), ftV 0 0])) ∨ ((frE L lo (p + 3)).2 ≠ 0 ∧ e = .returned (.tuple #[.agg (frA frZ), .int .i64 0, ftV (frE L lo (p + 3)).1 (frE L lo (p + 3)).2])))) := hide (fun W h => by
          have := frame_any (p + 3) W ((unhide HR).below h) ((unhide HBt).below' h) hl hlo (by omega)
          rw [show ((p + 3 : Nat) : Int) = (p : Int) + 2 + 1 by omega] at this
          exact this)
        have HE3 : Hid (oneE L lo p ahead = frE L lo (p + 3) ∧ oneX L lo p = ⟨a, false, frX L lo (p + 3)⟩ ∧ oneN L lo p = frN L lo (p + 3)) := hide ⟨by rw [unhide HE, if_neg (by decide), if_pos rfl], by unfold oneX; rw [unhide HY, unhide HA, if_neg (by decide)], by unfold oneN; rw [unhide HY, if_neg (by decide)]⟩
        go_wp2_with fail
        refine (unhide HFR _ (unhide HB)).mono ?_
        rintro e W6 ⟨hB6, hres⟩
        obtain ⟨f, n, x, er2, hf, rfl, HK⟩ : ∃ (f : Fr) (n x er2 : Int), FrOk f ∧ e = .returned (.tuple #[.agg (frA f), .int .i64 n, ftV x er2]) ∧ Hid (((oneE L lo p ahead).2 = 0 ∧ FrOk (oneX L lo p).fr ∧ oneN L lo p ≤ L.length ∧ Ending.returned (.tuple #[.agg (enA ⟨a, false, f⟩), .int .i64 n, ftV x er2]) = .returned (.tuple #[.agg (enA (oneX L lo p)), .int .i64 (oneN L lo p : Int), ftV 0 0])) ∨ ((oneE L lo p ahead).2 ≠ 0 ∧ n = 0 ∧ Ending.returned (.tuple #[.agg (enA ⟨a, false, f⟩), .int .i64 n, ftV x er2]) = .returned (.tuple #[.agg (enA ⟨a, false, f⟩), .int .i64 0, ftV (oneE L lo p ahead).1 (oneE L lo p ahead).2]))) := by
          obtain ⟨k1, k2, k3⟩ := unhide HE3
          rcases hres with ⟨h0, hfo, hfn, rfl⟩ | ⟨h0, rfl⟩
          · exact ⟨_, _, _, _, hfo, rfl, hide (Or.inl ⟨by rw [k1]; exact h0, by rw [k2]; exact hfo, by rw [k3]; exact hfn, by rw [k2, k3]⟩)⟩
          · exact ⟨_, _, _, _, frZ_ok, rfl, hide (Or.inr ⟨by rw [k1]; exact h0, rfl, by rw [k1]⟩)⟩
        clear hres HFR cr0 cy
        have HE6 := hide ((unhide HE6).below hB6 (unhide HE6).lt)
        have HE2 := hide ((unhide HE2).below hB6 (unhide HE2).lt)
        have HF4 := hide ((unhide HF4).below hB6)
        have HB := hide ((unhide HB).trans (hB6.mono (unhide HB).size))
        clear hB6
        have o68 : g6 < W6.heap.size := (unhide HE6).lt
        have al1 : Below W6.heap.size W6 (W6.alloc (.cells (frA frZ) 40)) := (Below.refl _ _).alloc (Nat.le_refl _) _
        have al2 : Below W6.heap.size W6 ((W6.alloc (.cells (frA frZ) 40)).alloc (.cells #[.int .i64 0, .int .i64 0] 58)) := al1.alloc (by simp) _
        have HF8 : Hid (FAt ((W6.alloc (.cells (frA frZ) 40)).alloc (.cells #[.int .i64 0, .int .i64 0] 58)) W6.heap.size frZ) := hide ((FAt.new W6 frZ).below ((Below.refl _ _).alloc (Nat.le_refl _) _) (by simp))
        have HF10 : Hid (FtAt ((W6.alloc (.cells (frA frZ) 40)).alloc (.cells #[.int .i64 0, .int .i64 0] 58)) (W6.heap.size + 1) 0 0) := hide (by
          have := heap_alloc_new (W6.alloc (.cells (frA frZ) 40)) (.cells #[.int .i64 0, .int .i64 0] 58)
          rw [World.size_alloc] at this
          exact this)
        have HE6 := hide ((unhide HE6).below al2 (unhide HE6).lt)
        have HE2 := hide ((unhide HE2).below al2 (unhide HE2).lt)
        have HF4 := hide ((unhide HF4).below al2)
        have HB := hide ((unhide HB).trans (al2.mono (unhide HB).size))
        clear al1 al2
        have F8b := hide ((unhide HF8).row f)
        have F10b : Hid (FtAt (((W6.alloc (.cells (frA frZ) 40)).alloc (.cells #[.int .i64 0, .int .i64 0] 58)).setRow W6.heap.size (frA f)) (W6.heap.size + 1) 0 0) := hide ((setRow_other _ W6.heap.size (W6.heap.size + 1) _ (by omega)).trans (unhide HF10))
        have E6b := hide ((unhide HE6).rowOther (frA f) (show g6 ≠ W6.heap.size by omega))
        have E2b := hide ((unhide HE2).rowOther (frA f) (show w.heap.size ≠ W6.heap.size by omega))
        have F4b : Hid (FtAt (((W6.alloc (.cells (frA frZ) 40)).alloc (.cells #[.int .i64 0, .int .i64 0] 58)).setRow W6.heap.size (frA f)) (w.heap.size + 1) 0 0) := hide ((setRow_other _ W6.heap.size (w.heap.size + 1) _ (by omega)).trans (unhide HF4))
        have Bb := hide (below_setRow' (unhide HB) (show w.heap.size ≤ W6.heap.size by omega) (frA f))
        have F10c : Hid (FtAt ((((W6.alloc (.cells (frA frZ) 40)).alloc (.cells #[.int .i64 0, .int .i64 0] 58)).setRow W6.heap.size (frA f)).setRow (W6.heap.size + 1) #[.int .i64 x, .int .i64 er2]) (W6.heap.size + 1) x er2) := hide (setRow_heap _ _ _ _ _ _ (unhide F10b))
        have F8c : Hid (FAt ((((W6.alloc (.cells (frA frZ) 40)).alloc (.cells #[.int .i64 0, .int .i64 0] 58)).setRow W6.heap.size (frA f)).setRow (W6.heap.size + 1) #[.int .i64 x, .int .i64 er2]) W6.heap.size f) := hide ((setRow_other _ (W6.heap.size + 1) W6.heap.size _ (by omega)).trans (unhide F8b))
        have E6c := hide ((unhide E6b).rowOther #[.int .i64 x, .int .i64 er2] (show g6 ≠ W6.heap.size + 1 by omega))
        have E2c := hide ((unhide E2b).rowOther #[.int .i64 x, .int .i64 er2] (show w.heap.size ≠ W6.heap.size + 1 by omega))
        have F4c : Hid (FtAt ((((W6.alloc (.cells (frA frZ) 40)).alloc (.cells #[.int .i64 0, .int .i64 0] 58)).setRow W6.heap.size (frA f)).setRow (W6.heap.size + 1) #[.int .i64 x, .int .i64 er2]) (w.heap.size + 1) 0 0) := hide ((setRow_other _ (W6.heap.size + 1) (w.heap.size + 1) _ (by omega)).trans (unhide F4b))
        have Bc := hide (below_setRow' (unhide Bb) (show w.heap.size ≤ W6.heap.size + 1 by omega) #[.int .i64 x, .int .i64 er2])
        have E6d := hide ((unhide E6c).setFr frZ_ok hf)
        simp only at E6d
        have E2d : Hid (EAt (((((W6.alloc (.cells (frA frZ) 40)).alloc (.cells #[.int .i64 0, .int .i64 0] 58)).setRow W6.heap.size (frA f)).setRow (W6.heap.size + 1) #[.int .i64 x, .int .i64 er2]).setCells g6 2 (frA f).toList) w.heap.size enZ) := hide ((cellsOther (show w.heap.size ≠ g6 by omega) _ 2 _).trans (unhide E2c))
        have F4d : Hid (FtAt (((((W6.alloc (.cells (frA frZ) 40)).alloc (.cells #[.int .i64 0, .int .i64 0] 58)).setRow W6.heap.size (frA f)).setRow (W6.heap.size + 1) #[.int .i64 x, .int .i64 er2]).setCells g6 2 (frA f).toList) (w.heap.size + 1) 0 0) := hide ((cellsOther (show w.heap.size + 1 ≠ g6 by omega) _ 2 _).trans (unhide F4c))
        have F10d : Hid (FtAt (((((W6.alloc (.cells (frA frZ) 40)).alloc (.cells #[.int .i64 0, .int .i64 0] 58)).setRow W6.heap.size (frA f)).setRow (W6.heap.size + 1) #[.int .i64 x, .int .i64 er2]).setCells g6 2 (frA f).toList) (W6.heap.size + 1) x er2) := hide ((cellsOther (show W6.heap.size + 1 ≠ g6 by omega) _ 2 _).trans (unhide F10c))
        have Bd : Hid (Below w.heap.size w (((((W6.alloc (.cells (frA frZ) 40)).alloc (.cells #[.int .i64 0, .int .i64 0] 58)).setRow W6.heap.size (frA f)).setRow (W6.heap.size + 1) #[.int .i64 x, .int .i64 er2]).setCells g6 2 (frA f).toList)) := hide (below_cells (show w.heap.size ≤ g6 by omega) _ 2 (unhide Bc))
        have HTH := hide ((unhide E6c).there frZ_ok hf)
        unfold ftV
        go_wp2_with (first | (refine wpList_store_row rfl 40 (.tmp 8) (.tmp 89) rfl W6.heap.size (frA f) rfl rfl 40 (frA frZ) (unhide HF8) (sizeFr hf) (sizeEq frZ_ok hf) (frA_one _) ?_) | (refine wpList_load_row rfl 40 (.tmp 8) rfl W6.heap.size rfl 40 (frA f) (0, 0) _ (unhide F8c) Try.underlying40 rfl (sizeFr hf) ?_) | (refine wpList_store_row rfl 58 (.tmp 10) (.tmp 91) rfl (W6.heap.size + 1) #[.int .i64 x, .int .i64 er2] rfl rfl 58 #[.int .i64 0, .int .i64 0] (unhide F10b) (by kernel_rfl) rfl (by simp [Value.oneCell']) ?_) | (refine wpList_store_mid rfl 40 (.tmp 93) (.tmp 92) rfl g6 2 (frA f) rfl rfl (unhide HTH) (sizeFr hf) (frA_one _) ?_))
        rw [frZ_eq]
        clear F8b F10b E6b E2b F4b Bb F10c F8c E6c E2c F4c Bc HTH HF8 HF10
        generalize (((((W6.alloc (.cells (frA frZ) 40)).alloc (.cells #[.int .i64 0, .int .i64 0] 58)).setRow W6.heap.size (frA f)).setRow (W6.heap.size + 1) #[.int .i64 x, .int .i64 er2]).setCells g6 2 (frA f).toList) = W7 at E6d E2d F4d F10d Bd ⊢
        generalize hg10 : W6.heap.size + 1 = g10 at F10d ⊢
        have o10 : g6 < g10 := by omega
        clear hg10
        have E6d : Hid (EAt W7.drew g6 ⟨a, false, f⟩) := hide (unhide E6d)
        have E2d : Hid (EAt W7.drew w.heap.size enZ) := hide (unhide E2d)
        have F4d : Hid (FtAt W7.drew (w.heap.size + 1) 0 0) := hide (unhide F4d)
        have F10d : Hid (FtAt W7.drew g10 x er2) := hide (unhide F10d)
        have Bd : Hid (Below w.heap.size w W7.drew) := hide ((unhide Bd).trans ⟨rfl, rfl, rfl, Nat.le_refl _, fun _ _ => rfl⟩)
        clear hS
        refine wp_region_held_drew (S := fun w' => EAt w' g6 ⟨a, false, f⟩ ∧ FtAt w' g10 x er2) (by kernel_rfl) ⟨unhide E6d, unhide F10d⟩ (fun hS => ?_)
        generalize W7.drew = W8 at E6d E2d F4d F10d Bd hS ⊢
        refine wpAnyH_take (i := 0) (v := .agg (enA ⟨a, false, f⟩)) rfl (by kernel_rfl) (by kernel_rfl) (by kernel_rfl) (fun _ _ _ h => h) (yieldsIf_load_en (by rfl) _ rfl g6 rfl ⟨a, false, f⟩ hf (fun _ h => h.1)) hS ?_
        refine wpAnyH_take (i := 1) (v := .int .i64 n) rfl (by kernel_rfl) (by kernel_rfl) (by kernel_rfl) (fun _ _ _ h => h) (Or.inl ⟨by rfl, fun w _ => by go_simp⟩) hS ?_
        refine wpAnyH_take (i := 2) (v := .agg #[.int .i64 x, .int .i64 er2]) rfl (by kernel_rfl) (by kernel_rfl) (by kernel_rfl) (fun _ _ _ h => h) (yieldsIf_load_ft (by rfl) _ rfl g10 rfl x er2 (fun _ h => h.2)) hS ?_
        go_simp
        refine wpAnyH_ready (rs := [3]) (by kernel_rfl) (by simp) ?_
        refine AllReadyH.cons rfl (fun K hK => ?_) AllReadyH.nil
        rw [if_pos (by rfl)]
        refine wp_store_row 42 _ _ rfl w.heap.size (enA ⟨a, false, f⟩) rfl rfl 42 (enA enZ) (unhide E2d) (sizeEn hf) (sizeEqEn enZ_ok hf) (enA_one _) ?_
        have E6e := hide ((unhide E6d).rowOther (enA ⟨a, false, f⟩) (show g6 ≠ w.heap.size by omega))
        have E2e := hide ((unhide E2d).row ⟨a, false, f⟩)
        have F4e : Hid (FtAt (W8.setRow w.heap.size (enA ⟨a, false, f⟩)) (w.heap.size + 1) 0 0) := hide ((setRow_other W8 w.heap.size (w.heap.size + 1) _ (by omega)).trans (unhide F4d))
        have F10e : Hid (FtAt (W8.setRow w.heap.size (enA ⟨a, false, f⟩)) g10 x er2) := hide ((setRow_other W8 w.heap.size g10 _ (by omega)).trans (unhide F10d))
        have Be := hide (below_setRow' (unhide Bd) (Nat.le_refl _) (enA ⟨a, false, f⟩))
        refine hK.out _ _ ⟨unhide E6e, unhide F10e⟩ (fun hS2 => ?_)
        clear hK K hS E6d E2d F4d F10d Bd
        have hS : EAt (W8.setRow w.heap.size (enA ⟨a, false, f⟩)) g6 ⟨a, false, f⟩ ∧ FtAt (W8.setRow w.heap.size (enA ⟨a, false, f⟩)) g10 x er2 := hS2
        clear hS2
        generalize (W8.setRow w.heap.size (enA ⟨a, false, f⟩)) = W10 at E6e E2e F4e F10e Be hS ⊢
        refine wpAnyH_take (i := 4) (v := .int .i64 n) rfl (by kernel_rfl) (by kernel_rfl) (by kernel_rfl) (fun _ _ _ h => h) (Or.inl ⟨by rfl, fun w _ => by go_simp⟩) hS ?_
        go_simp
        refine wpAnyH_ready (rs := [5]) (by kernel_rfl) (by simp) ?_
        refine AllReadyH.cons rfl (fun K hK => ?_) AllReadyH.nil
        rw [if_pos (by rfl)]
        refine wp_store_row 58 _ _ rfl (w.heap.size + 1) #[.int .i64 x, .int .i64 er2] rfl rfl 58 #[.int .i64 0, .int .i64 0] (unhide F4e) (by kernel_rfl) rfl (by simp [Value.oneCell']) ?_
        have E6g := hide ((unhide E6e).rowOther #[.int .i64 x, .int .i64 er2] (show g6 ≠ w.heap.size + 1 by omega))
        have E2g := hide ((unhide E2e).rowOther #[.int .i64 x, .int .i64 er2] (show w.heap.size ≠ w.heap.size + 1 by omega))
        have F4g : Hid (FtAt (W10.setRow (w.heap.size + 1) #[.int .i64 x, .int .i64 er2]) (w.heap.size + 1) x er2) := hide (setRow_heap _ _ _ _ _ _ (unhide F4e))
        have F10g : Hid (FtAt (W10.setRow (w.heap.size + 1) #[.int .i64 x, .int .i64 er2]) g10 x er2) := hide ((setRow_other W10 (w.heap.size + 1) g10 _ (by omega)).trans (unhide F10e))
        have Bg := hide (below_setRow' (unhide Be) (show w.heap.size ≤ w.heap.size + 1 by omega) #[.int .i64 x, .int .i64 er2])
        refine hK.out _ _ ⟨unhide E6g, unhide F10g⟩ (fun hS2 => ?_)
        clear hK K hS hS2
        refine wpAnyH_done (by kernel_rfl) ?_ _
        go_wp2
        refine bodyPost_ret (v := .tuple #[.agg (enA ⟨a, false, f⟩), .int .i64 n, ftV x er2]) (results_en_ft rfl _ _ w.heap.size (w.heap.size + 1) ⟨a, false, f⟩ hf n x er2 rfl rfl rfl (unhide E2g) (unhide F4g)) rfl ⟨unhide Bg, ?_⟩
        rcases unhide HK with h | ⟨h1, h2, h3⟩
        · exact Or.inl h
        · exact Or.inr ⟨h1, ⟨a, false, f⟩, hf, h3⟩
      have q0 : (y == 0) = false := beq_f y0
      have q1 : (y == 1) = false := beq_f y1
      have HE3 : Hid (oneE L lo p ahead = (p + 2, 63)) := hide (by rw [unhide HE, if_neg y0, if_neg y1])
      have E2' := hide ((unhide HE2).row enZ)
      have F4' : Hid (FtAt (W5.setRow w.heap.size (enA enZ)) (w.heap.size + 1) 0 0) := hide ((setRow_other W5 w.heap.size (w.heap.size + 1) _ (by omega)).trans (unhide HF4))
      have B' := hide (below_setRow' (unhide HB) (Nat.le_refl _) (enA enZ))
      have f0 := (unhide F4').c0
      have f1 := (unhide F4').c1
      have z0 := (unhide F4').f 0
      have z1 := (unhide F4').f 1
      go_wp2_with (refine wpList_store_row rfl 42 _ _ rfl w.heap.size (enA enZ) rfl rfl 42 (enA enZ) (unhide HE2) (sizeEn enZ_ok) (sizeEqEn enZ_ok enZ_ok) (enA_one _) ?_)
      have hE := unhide HE3
      exact bodyPost_ret (v := .tuple #[.agg (enA enZ), .int .i64 0, ftV ((p : Int) + 2) 63]) (results_en_ft rfl _ _ w.heap.size (w.heap.size + 1) enZ enZ_ok 0 ((p : Int) + 2) 63 rfl rfl rfl ((unhide E2').chain (by omega) _ _) ((unhide F4').chain ((p : Int) + 2) 63)) rfl ⟨below_chain2 (unhide B') (by omega) _ _, Or.inr ⟨by rw [hE]; simp, enZ, enZ_ok, by rw [hE]; rw [show ((p + 2 : Nat) : Int) = (p : Int) + 2 by omega]⟩⟩)
end Go.Proofs.Ytednnfmomhallaa
