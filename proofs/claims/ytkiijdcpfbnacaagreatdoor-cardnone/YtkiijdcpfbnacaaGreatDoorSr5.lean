/-
  The contract of slices.Insert of one entry into a row of one's own: at its end, in its room, or in a new row.
-/
import Derived.Test.YtkiijdcpfbnacaaGreatDoorSr4
import Derived.Laws.AppendOwn
import Derived.Laws.NewBlocks
namespace Go.Proofs.YtkiijdcpfbnacaaGreatDoor
open Go.RowKit
set_option maxRecDepth 20000

theorem unKe : Tryz.prog.underlying 162 = some (.slice 242) := Tryz.underlying162
/-- One entry lies in a block of its own. -/
def OneK (w : World) (b : Nat) (e : Ke) : Prop := w.heap[b]? = some (.cells (keC e).toArray 242 (0, 0))
theorem OneK.cells {w : World} {b : Nat} {e : Ke} (h : OneK w b e) : ∀ j u, (keC e)[j]? = some u → w.cell? ((⟨b, 0, none⟩ : Addr).add j) = some u := fun j u hu => by
  rw [Addr.add_lit, Nat.zero_add, cell_of_row _ _ _ _ _ _ h]
  simpa using hu
theorem keC_one (e : Ke) : ∀ v ∈ keC e, v.oneCell' = true := by
  intro v hv
  simp [keC] at hv
  rcases hv with rfl | rfl | rfl <;> simp [Value.oneCell']
def InsPost (w : World) (B : Nat) (v : Value) (K' : List Ke) (e : Ending) (w' : World) : Prop := ∃ v', e = .returned v' ∧ OwnK w' B v' K' ∧ Kept (fun k => v.ownBlock = some k) w w'
set_option maxHeartbeats 4000000 in
theorem Insert_end {w : World} {B : Nat} {a : Option Addr} {cap vb : Nat} {K : List Ke} (e : Ke) (h : OwnK w B (.slice a K.length cap) K) (hv : OneK w vb e) (hl : K.length ≤ 4096) (hB : B ≤ w.heap.size) :
    Calls Tryz.prog 145 #[.slice a K.length cap, .int .i64 ((K.length : Nat) : Int), .slice (some ⟨vb, 0, none⟩) 1 1] w (InsPost w B (.slice a K.length cap) (K ++ [e])) := by
  obtain ⟨i0, hi0, hz0, hz1, hz2⟩ := info_parts infoKe
  have hcap : K.length ≤ cap := by
    rcases h.2 with ⟨h1, h2⟩ | ⟨g', cap', cur, hv, hbg, hh, hn, hm, r⟩
    · omega
    · injection hv with _ _ hv
      subst hv
      exact hn
  have HO := hide h
  have HV := hide hv.cells
  clear h hv
  go_enter Tryz.func145, Tryz.ntmps145
  go_wp2_with (at_builtin; refine wpList_append_own _ rfl _ _ 162 rfl B 242 i0 _ 3 32 unKe hi0 hz0 hz1 hz2 rfl (by decide) _ K.length (keV K) rfl (unhide HO) ⟨vb, 0, none⟩ 1 1 (keC e) rfl rfl (unhide HV) (keC_one e) (by unfold maxLen; omega) (by omega) hB ?_)
  all_goals
    intro v' w' hO hG _
    go_wp2
    go_ret
    exact ⟨v', rfl, by unfold OwnK; rw [keV_app, List.length_append]; simpa [keV] using hO, (Kept.of_grown hG).mono (fun k _ e => by cases a <;> simp_all [Value.ownBlock])⟩
theorem wpList_copy_runS {P : Program} (w : World) {ops : Array Oper} {rest : List Oper} {o : Oper} {a : Act} {Q : Exit → Act → World → Prop} (hgd : o.guard = none) (d s : Operand) (t t' : TypeId)
    (ho : o.op = .call { callee := .builtin .copy, args := #[d, s], argTypes := #[t, t'] }) (v u : Value) (hd : a.eval d = v) (hs : a.eval s = u) {v' : Value} {w' : World}
    (hr : (Builtin.copy_ #[t, t'] o.type #[v, u]).run P w = .ok v' w') (h : wpList P ops Q rest (a.put o.dst v') w') : wpList P ops Q (o :: rest) a w := by
  refine wpList_plain hgd fun K hK => ?_
  unfold Oper.wp execOp
  simp only [ho, resolve, invoke, builtin, Sem.run_bind, Sem.run_pure, Result.andThen_ok, List.map_toArray, List.map_cons, List.map_nil, hd, hs, hr]
  exact hK _ _ h
theorem step_copy_runS {P : Program} {ops : Array Oper} {o : Oper} {a : Act} {w : World} {K : Act → World → Prop} {Q : Exit → Act → World → Prop} {E : Prop}
    (hg : o.guard = none) (d x : Operand) (dT sT : TypeId) (hop : o.op = Op.call { callee := Callee.builtin Builtin.copy, args := #[d, x], argTypes := #[dT, sT] })
    (v u : Value) (hd : a.eval d = v) (hx : a.eval x = u) {v' : Value} {w' : World} (hr : (Builtin.copy_ #[dT, sT] o.type #[v, u]).run P w = .ok v' w') (hK : K (a.put o.dst v') w') :
    if Region.wanted o (yielded ops a.tmps) = true then Oper.wp P o a w K Q else E := by
  have hw : Region.wanted o (yielded ops a.tmps) = true := by simp [Region.wanted, hg]
  rw [if_pos hw]
  unfold Oper.wp
  simp [execOp, hop, resolve, invoke, builtin, hd, hx, hr, Result.andThen]
  exact hK
set_option maxHeartbeats 4000000 in
set_option maxRecDepth 100000 in
theorem Insert_room {w : World} {B g cap vb : Nat} {K : List Ke} (e : Ke) (i : Nat) (h : OwnK w B (.slice (some ⟨g, 0, none⟩) K.length cap) K) (hv : OneK w vb e) (hne : vb ≠ g) (hi : i < K.length) (hroom : K.length + 1 ≤ cap) (hl : K.length ≤ 4096) :
    Calls Tryz.prog 145 #[.slice (some ⟨g, 0, none⟩) K.length cap, .int .i64 ((i : Nat) : Int), .slice (some ⟨vb, 0, none⟩) 1 1] w (InsPost w B (.slice (some ⟨g, 0, none⟩) K.length cap) (K.take i ++ e :: K.drop i)) := by
  obtain ⟨cur, _, hbg, hh, hc1, hc2, hs, ht⟩ := h.row
  have hc3 : cap ≤ 9223372036854775807 := by unfold maxLen at hc2; omega
  have hrl : cur.toList.length = cap * 3 := by rw [Array.length_toList, hs]
  have mixed := mixedS
  have hov : ∀ lb cb, (callFunc 175 #[.slice (some ⟨vb, 0, none⟩) 1 1, .slice (some ⟨g, (i + 1) * 3, none⟩) lb cb]).run Tryz.prog w = .ok (.value (.bool false)) w := fun lb cb => by
    rw [run_callFunc_extern Tryz.func175 (by kernel_rfl) (by kernel_rfl) (by kernel_rfl) (e := Extern.SlicesOverlaps.overlaps #[162, 162] #[4]) (by kernel_rfl),
      Lib.run_overlaps_apart w 162 4 242 unKe 3 (fun w => by have := sizeKe; simp [sizeOf, typeInfo]; cases hq : Tryz.prog.info? 242 with | none => rw [hq] at this; cases this | some x => rw [hq] at this; simp at this; simp [this]) ⟨vb, 0, none⟩ ⟨g, (i + 1) * 3, none⟩ 1 1 lb cb hne 242 242 3 cur.size (by simp [World.shape?, show w.heap[vb]? = _ from hv, keC]) (by simp [World.shape?, hh]) (by omega) (frozen_of_row _ _ _ _ _ hv) (frozen_of_row _ _ _ _ _ hv)]
    rfl
  obtain ⟨cs, hcs⟩ : ∃ cs, cs = keV (K.drop i) := ⟨_, rfl⟩
  have hcl : cs.length = (K.length - i) * 3 := by rw [hcs, kd_len]
  obtain ⟨R1, hR1⟩ : ∃ R1, R1 = spl cur.toList ((i + 1) * 3) cs := ⟨_, rfl⟩
  have hR1l : R1.length = cap * 3 := by rw [hR1, spl_len (by omega)]; exact hrl
  obtain ⟨W1, hW1⟩ : ∃ W1, W1 = w.drew.setRow g R1.toArray := ⟨_, rfl⟩
  have hg1 : W1.heap[g]? = some (.cells R1.toArray 242 (0, 0)) := by rw [hW1]; exact setRow_heap w.drew g cur _ _ _ hh
  have hcp1 : ∀ ty dc sc, (Builtin.copy_ #[162, 162] ty #[.slice (some ⟨g, (i + 1) * 3, none⟩) (K.length - i) dc, .slice (some ⟨g, i * 3, none⟩) (K.length + 1 - i) sc]).run Tryz.prog w.drew = .ok (goInt ((K.length - i : Nat) : Int)) W1 := fun ty dc sc => by
    have hmn : Nat.min (K.length + 1 - i) (K.length - i) = K.length - i := by simp only [Nat.min_def]; split <;> omega
    have := run_copyS (P := Tryz.prog) w.drew 162 162 ty 242 g ((i + 1) * 3) (K.length - i) dc ⟨g, i * 3, none⟩ (K.length + 1 - i) sc 3 cur 242 cs unKe sizeKe hh (by rw [hmn]; exact hcl) (fun j u hu => by
      have hlt := (List.getElem?_eq_some_iff.1 hu).1
      rw [Addr.add_lit]
      show w.cell? _ = _
      rw [World.ownsRow.cellAt h (i * 3 + j) (by omega), ← hu, hcs, keV_drop, List.getElem?_drop]) (by omega) (by rw [hcs]; exact keV_one _)
    rw [hmn, ← hR1, ← hW1] at this
    exact this
  have hov1 : OneK W1 vb e := by
    unfold OneK
    rw [hW1, setRow_other w.drew g vb _ hne]
    exact hv
  have hcp2 : ∀ ty dc, (Builtin.copy_ #[162, 162] ty #[.slice (some ⟨g, i * 3, none⟩) (K.length + 1 - i) dc, .slice (some ⟨vb, 0, none⟩) 1 1]).run Tryz.prog W1 = .ok (goInt 1) (W1.setRow g (spl R1 (i * 3) (keC e)).toArray) := fun ty dc => by
    have hmn : Nat.min 1 (K.length + 1 - i) = 1 := by simp only [Nat.min_def]; split <;> omega
    have := run_copyS (P := Tryz.prog) W1 162 162 ty 242 g (i * 3) (K.length + 1 - i) dc ⟨vb, 0, none⟩ 1 1 3 R1.toArray 242 (keC e) unKe sizeKe hg1 (by rw [hmn]; rfl) hov1.cells (by rw [List.size_toArray, hR1l]; simp [keC]; omega) (keC_one e)
    rw [hmn] at this
    exact this
  have X : Hid (OwnK (W1.setRow g (spl R1 (i * 3) (keC e)).toArray) B (.slice (some ⟨g, 0, none⟩) (K.length + 1) cap) (K.take i ++ e :: K.drop i) ∧ Kept (fun k => (Value.slice (some ⟨g, 0, none⟩) K.length cap).ownBlock = some k) w (W1.setRow g (spl R1 (i * 3) (keC e)).toArray)) := hide (by
    have hln : (K.take i ++ e :: K.drop i).length = K.length + 1 := by rw [List.length_append, List.length_take, List.length_cons, List.length_drop]; omega
    refine ⟨?_, ?_⟩
    · rw [← hln]
      refine OwnK.mk' hbg (setRow_heap W1 g _ _ _ _ hg1) (by omega) hc2 ?_ ?_
      · rw [List.size_toArray, spl_len (by rw [hR1l]; simp [keC]; omega)]; exact hR1l
      · rw [hln, hR1, hcs]
        exact ins_row e ht (by omega) (by omega)
    · rw [hW1]
      exact (((kept_drewR (fun k => k = g) w).trans (kept_row _ _ _) (fun _ _ h => h) (fun _ _ h => h)).trans (kept_row _ _ _) (fun _ _ h => h) (fun _ _ h => h)).mono (fun k _ e => by rw [e]; rfl))
  have j1 : ¬ (((i : Nat) : Int) = ((K.length : Nat) : Int)) := by omega
  have j2 : ((i : Nat) : Int) ≤ ((K.length : Nat) : Int) := by omega
  have j3 : ¬ cap = i := by omega
  have j4 : ¬ cap = i + 1 := by omega
  have j5 : ((i : Int) + 1).toNat = i + 1 := by omega
  have j6 : (0 : Int) ≤ ((i : Nat) : Int) + 1 := by omega
  have j7 : ((K.length : Int) + 1).toNat = K.length + 1 := by omega
  have j8 : ((K.length : Nat) : Int) + 1 ≤ ((cap : Nat) : Int) := by omega
  have j9 : ((i : Nat) : Int) + 1 ≤ ((K.length : Nat) : Int) + 1 := by omega
  have j10 : (0 : Int) ≤ ((K.length : Nat) : Int) + 1 := by omega
  have j11 : ((i : Nat) : Int) ≤ ((K.length : Nat) : Int) + 1 := by omega
  have j12 : IntKind.i64.wrap (((i : Nat) : Int) + 1) = ((i : Nat) : Int) + 1 := by rw [IntKind.wrap_i64]; omega
  clear hW1 hg1 hR1l hR1 hcl hcs hov1 hrl h hh ht hs hv
  go_enter Tryz.func145, Tryz.ntmps145
  go_wp2_with (simp only [hov])
  go_region_law_o (refine step_copy_runS rfl _ _ 162 162 rfl _ _ (by simp [Act.eval, Act.put]) (by simp [Act.eval, Act.put]) (hcp1 _ _ _) ?_)
  go_wp2_with (at_builtin; refine wpList_copy_runS _ rfl _ _ 162 162 rfl _ _ rfl rfl (hcp2 _ _) ?_)
  go_ret
  exact ⟨_, rfl, X.out⟩
set_option maxHeartbeats 4000000 in
set_option maxRecDepth 100000 in
theorem Insert_grow {w : World} {B g cap vb : Nat} {K : List Ke} (e : Ke) (i : Nat) (h : OwnK w B (.slice (some ⟨g, 0, none⟩) K.length cap) K) (hv : OneK w vb e) (hi : i < K.length) (hroom : ¬ K.length + 1 ≤ cap) (hl : K.length ≤ 4096) (hB : B ≤ w.heap.size) :
    Calls Tryz.prog 145 #[.slice (some ⟨g, 0, none⟩) K.length cap, .int .i64 ((i : Nat) : Int), .slice (some ⟨vb, 0, none⟩) 1 1] w (InsPost w B (.slice (some ⟨g, 0, none⟩) K.length cap) (K.take i ++ e :: K.drop i)) := by
  obtain ⟨i0, hi0, hz0, hz1, hz2⟩ := info_parts infoKe
  obtain ⟨cur, _, hbg, hh, hc1, hc2, hs, ht⟩ := h.row
  have hgl : g < w.heap.size := (Array.getElem?_eq_some_iff.1 hh).1
  have hvl : vb < w.heap.size := (Array.getElem?_eq_some_iff.1 hv).1
  obtain rfl : cap = K.length := by omega
  have mixed := mixedS
  have hik : i + (K.length + 1 - i) = K.length + 1 := by omega
  have hkk : ((K.length : Nat) : Int) + 1 - ((i : Nat) : Int) = ((K.length + 1 - i : Nat) : Int) := by omega
  have hold : (Builtin.firstCells i0.size i (.slice (some ⟨g, 0, none⟩) i K.length)).run Tryz.prog w.drew = .ok (keV (K.take i)).toArray w.drew := by
    rw [hz1]
    exact run_firstCells_some w.drew 3 i ⟨g, 0, none⟩ i K.length (keV (K.take i)) (kt_len K (by omega)) (fun j u hu => by
      have hlt := (List.getElem?_eq_some_iff.1 hu).1
      rw [kt_len K (by omega)] at hlt
      rw [Addr.add_lit, Nat.zero_add]
      show w.cell? _ = _
      rw [World.ownsRow.cellAt h j (by omega), ← hu, keV_take, List.getElem?_take, if_pos (by omega)])
  obtain ⟨G, hG⟩ : ∃ G, G = grownCap w (K.length + 1) K.length 242 := ⟨_, rfl⟩
  have hGn : K.length + 1 ≤ G := by rw [hG]; exact grownCap_ge w _ _ _
  have hGm : G ≤ maxLen := by rw [hG]; exact grownCap_le_maxLen w _ _ _ (by unfold maxLen; omega)
  have hG63 : G ≤ 9223372036854775807 := by unfold maxLen at hGm; omega
  obtain ⟨Z, hZ⟩ : ∃ Z : List Value, Z = (Builtin.zeroCells (Value.agg #[.string ⟨#[]⟩, .int .i64 0, .int .i64 0]).cells (K.length + 1 - i)).toList ++ (Builtin.zeroCells (Value.agg #[.string ⟨#[]⟩, .int .i64 0, .int .i64 0]).cells (G - (K.length + 1))).toList := ⟨_, rfl⟩
  have hZl : Z.length = (G - i) * 3 := by
    have hA : ∀ n, (Builtin.zeroCells (Value.agg #[.string ⟨#[]⟩, .int .i64 0, .int .i64 0]).cells n).toList.length = n * 3 := fun n => by rw [Array.length_toList, size_zeroCells]; rfl
    rw [hZ, List.length_append, hA, hA]
    omega
  obtain ⟨W1, hW1⟩ : ∃ W1, W1 = w.drew.alloc (.cells (keV (K.take i) ++ Z).toArray 242) := ⟨_, rfl⟩
  have hrz : ∀ ty, (Builtin.append_ #[162, 3] ty #[.slice (some ⟨g, 0, none⟩) i K.length, .int .i64 (((K.length : Nat) : Int) + 1 - ((i : Nat) : Int))]).run Tryz.prog w = .ok (.slice (some ⟨w.heap.size, 0, none⟩) (K.length + 1) G) W1 := fun ty => by
    have hq := Lib.run_append_grow_zeros w 162 3 ty 242 i0 _ .i64 .i64 unKe Tryz.underlying3 hi0 hz0 (some ⟨g, 0, none⟩) i K.length (keV (K.take i)) hold (K.length + 1 - i) (by omega) (by omega) (by omega) (by omega) (by rw [hz2]; omega) (by rw [hz2, hik]; exact growslice_fits (by omega) (by omega))
    rw [hik, ← hG] at hq
    rw [hkk, hq, hW1, hZ]
    congr 3
    apply Array.ext'
    simp
  have hgN : W1.heap[w.heap.size]? = some (.cells (keV (K.take i) ++ Z).toArray 242 (0, 0)) := by rw [hW1]; exact heap_alloc_new w.drew _
  have hrowl : (keV (K.take i) ++ Z).length = G * 3 := by rw [List.length_append, kt_len K (by omega), hZl]; omega
  obtain ⟨R2, hR2⟩ : ∃ R2, R2 = spl (keV (K.take i) ++ Z) (i * 3) (keC e) := ⟨_, rfl⟩
  have hR2l : R2.length = G * 3 := by rw [hR2, spl_len (by rw [hrowl]; simp [keC]; omega)]; exact hrowl
  obtain ⟨W2, hW2⟩ : ∃ W2, W2 = W1.setRow w.heap.size R2.toArray := ⟨_, rfl⟩
  have hov1 : OneK W1 vb e := by
    unfold OneK
    rw [hW1]
    exact (heap_alloc_old w.drew _ hvl).trans hv
  have hcp1 : ∀ ty dc, (Builtin.copy_ #[162, 162] ty #[.slice (some ⟨w.heap.size, i * 3, none⟩) (K.length + 1 - i) dc, .slice (some ⟨vb, 0, none⟩) 1 1]).run Tryz.prog W1 = .ok (goInt 1) W2 := fun ty dc => by
    have hmn : Nat.min 1 (K.length + 1 - i) = 1 := by simp only [Nat.min_def]; split <;> omega
    have := run_copyS (P := Tryz.prog) W1 162 162 ty 242 w.heap.size (i * 3) (K.length + 1 - i) dc ⟨vb, 0, none⟩ 1 1 3 (keV (K.take i) ++ Z).toArray 242 (keC e) unKe sizeKe hgN (by rw [hmn]; rfl) hov1.cells (by rw [List.size_toArray, hrowl]; simp [keC]; omega) (keC_one e)
    rw [hmn, ← hR2, ← hW2] at this
    exact this
  have hgN2 : W2.heap[w.heap.size]? = some (.cells R2.toArray 242 (0, 0)) := by rw [hW2]; exact setRow_heap W1 _ _ _ _ _ hgN
  have hcell2 : ∀ j, W2.cell? ⟨g, j, none⟩ = w.cell? ⟨g, j, none⟩ := fun j => by
    have e1 : W2.heap[g]? = w.heap[g]? := by
      rw [hW2, setRow_other W1 _ g _ (by omega), hW1]
      exact heap_alloc_old w.drew _ hgl
    exact World.cell?_of_block e1
  have hcp2 : ∀ ty dc sc, (Builtin.copy_ #[162, 162] ty #[.slice (some ⟨w.heap.size, (i + 1) * 3, none⟩) (K.length - i) dc, .slice (some ⟨g, i * 3, none⟩) (K.length - i) sc]).run Tryz.prog W2.drew = .ok (goInt ((K.length - i : Nat) : Int)) (W2.drew.setRow w.heap.size (spl R2 ((i + 1) * 3) (keV (K.drop i))).toArray) := fun ty dc sc => by
    have hmn : Nat.min (K.length - i) (K.length - i) = K.length - i := by simp only [Nat.min_def]; split <;> omega
    have := run_copyS (P := Tryz.prog) W2.drew 162 162 ty 242 w.heap.size ((i + 1) * 3) (K.length - i) dc ⟨g, i * 3, none⟩ (K.length - i) sc 3 R2.toArray 242 (keV (K.drop i)) unKe sizeKe hgN2 (by rw [hmn, kd_len]) (fun j u hu => by
      have hlt := (List.getElem?_eq_some_iff.1 hu).1
      rw [kd_len] at hlt
      rw [Addr.add_lit]
      show W2.cell? _ = _
      rw [hcell2, World.ownsRow.cellAt h (i * 3 + j) (by omega), ← hu, keV_drop, List.getElem?_drop]) (by rw [List.size_toArray, hR2l, kd_len]; omega) (keV_one _)
    rw [hmn] at this
    exact this
  have X : Hid (OwnK (W2.drew.setRow w.heap.size (spl R2 ((i + 1) * 3) (keV (K.drop i))).toArray) B (.slice (some ⟨w.heap.size, 0, none⟩) (K.length + 1) G) (K.take i ++ e :: K.drop i) ∧ Kept (fun k => (Value.slice (some ⟨g, 0, none⟩) K.length K.length).ownBlock = some k) w (W2.drew.setRow w.heap.size (spl R2 ((i + 1) * 3) (keV (K.drop i))).toArray)) := hide (by
    have hln : (K.take i ++ e :: K.drop i).length = K.length + 1 := by rw [List.length_append, List.length_take, List.length_cons, List.length_drop]; omega
    refine ⟨?_, ?_⟩
    · rw [← hln]
      refine OwnK.mk' hB (setRow_heap W2.drew _ _ _ _ _ hgN2) (by omega) hGm ?_ ?_
      · rw [List.size_toArray, spl_len (by rw [hR2l, kd_len]; omega)]; exact hR2l
      · rw [hln, hR2]
        exact grow_row e (by omega) (by rw [hZl]; exact Nat.mul_le_mul_right _ (by omega))
    · refine ⟨by rw [hW2, hW1]; rfl, by rw [hW2, hW1]; rfl, by rw [hW2, hW1]; rfl, ?_, fun k hk _ => ?_⟩
      · rw [hW2, hW1]; simp
      · rw [setRow_other W2.drew _ k _ (by omega)]
        show W2.heap[k]? = _
        rw [hW2, setRow_other W1 _ k _ (by omega), hW1]
        exact heap_alloc_old w.drew _ hk)
  have j1 : ¬ (((i : Nat) : Int) = ((K.length : Nat) : Int)) := by omega
  have j2 : ((i : Nat) : Int) ≤ ((K.length : Nat) : Int) := by omega
  have j3 : ¬ K.length = i := by omega
  have j4 : ¬ G = i + 1 := by omega
  have j4b : ¬ G = i := by omega
  have j5 : ((i : Int) + 1).toNat = i + 1 := by omega
  have j6 : (0 : Int) ≤ ((i : Nat) : Int) + 1 := by omega
  have j8 : ((K.length : Nat) : Int) < ((K.length : Nat) : Int) + 1 := by omega
  have j9 : ((i : Nat) : Int) + 1 ≤ ((K.length : Nat) : Int) + 1 := by omega
  have j11 : ((i : Nat) : Int) ≤ ((K.length : Nat) : Int) + 1 := by omega
  have j12 : IntKind.i64.wrap (((i : Nat) : Int) + 1) = ((i : Nat) : Int) + 1 := by rw [IntKind.wrap_i64]; omega
  clear hW1 hW2 hgN hgN2 hR2l hR2 hov1 h hh ht hs hv hold hG hZ hZl hrowl hcell2 hik hkk
  go_enter Tryz.func145, Tryz.ntmps145
  go_wp2_with (first | (at_builtin; refine Lib.wpList_append_run _ rfl _ _ _ _ rfl _ _ rfl rfl _ _ (hrz _) ?_) | (at_builtin; refine wpList_copy_runS _ rfl _ _ 162 162 rfl _ _ rfl rfl (hcp1 _ _) ?_))
  go_region_law_o (refine step_copy_runS rfl _ _ 162 162 rfl _ _ (by simp [Act.eval, Act.put]) (by simp [Act.eval, Act.put]) (hcp2 _ _ _) ?_)
  go_wp2
  go_ret
  exact ⟨_, rfl, X.out⟩
end Go.Proofs.YtkiijdcpfbnacaaGreatDoor
