/-
  Contract of the heap's Reach: the references of just what is come to, rising as they stand, in memory of its own; or that one is no object's.
  Contract of the heap's Collect: what is not come to is taken away. Conditions: the heap is one that calls made.
  Contract of the heap's Collect, the walk.
-/
import Derived.Test.YtbbfnampjbdnbaaDoorKHq8
import Derived.Lib.AppendZeros
namespace Go.Proofs.YtbbfnampjbdnbaaDoor
open Go.RowKit
set_option maxRecDepth 20000

theorem bo_at {W : World} {cb : Nat} {C : List Bool} (h : Bx W cb 4 (C.map (fun b => Value.bool b)).toArray) : BoAt W (some ⟨cb, 0, none⟩) C := fun i x hx => ⟨cb, 0, rfl, by rw [Nat.zero_add]; exact h.c i (by simp [hx])⟩
set_option maxHeartbeats 1000000 in
theorem Reach_any (B g : Nat) (h : Hm) (ao : Option Addr) (cap : Nat) (R : List Int) (w : World) (H : HpAt B w g h) (hok : HmOk h) (hR : JsAt w ao R) (hRl : R.length * 8 ≤ 140737488351232) :
    Calls Tryd.prog 26 #[.pointer (some ⟨g, 0, none⟩), .slice ao R.length cap] w fun e w' => ((e = .returned (.tuple #[.slice none 0 0, .int .i64 141]) ∧ badR h R) ∨ (¬ badR h R ∧ ∃ v C, e = .returned (.tuple #[v, .int .i64 0]) ∧ ComIs h R C ∧ OwnJ w' w.heap.size v (sel h.O C))) ∧ Below w.heap.size w w' := by
  have HC := hide (come_any B g h ao cap R w H hok hR hRl)
  have HH := hide H
  have hlen := hok.len
  clear H hok hR hRl
  go_enter Tryd.func26, Tryd.ntmps26
  go_wp2_with fail
  refine (unhide HC).mono ?_
  rintro e W2 ⟨hc, hb2⟩
  have hs2 := hb2.size
  rcases hc with ⟨rfl, hbad⟩ | ⟨hnb, cb, C, rfl, hci, hbx, hge⟩
  · have HBD := hide hbad
    have al : Below w.heap.size w (W2.alloc (.cells #[.slice none 0 0] 56)) := hb2.alloc hb2.size _
    have HB := hide al
    clear hbad hb2 al HC
    go_wp2
    go_ret2
    exact ⟨Or.inl ⟨rfl, unhide HBD⟩, unhide HB⟩
  · have hal : Below W2.heap.size W2 (W2.alloc (.cells #[.slice (some ⟨cb, 0, none⟩) C.length C.length] 56)) := (Below.refl _ _).alloc (Nat.le_refl _) _
    have HQ : Hid (Bx (W2.alloc (.cells #[.slice (some ⟨cb, 0, none⟩) C.length C.length] 56)) W2.heap.size 56 #[.slice (some ⟨cb, 0, none⟩) C.length C.length]) := hide (heap_alloc_new W2 _)
    have HB3 := hide (hb2.trans (hal.mono hb2.size))
    have HBX3 := hide (hbx.below hal)
    have HH3 := hide ((unhide HH).below (unhide HB3))
    have HCI := hide (And.intro hnb hci)
    have hs3 := (unhide HB3).size
    clear hal hb2 hbx hci hnb hge HC
    go_upto_region 4 with fail
    generalize W2.alloc (.cells #[.slice (some ⟨cb, 0, none⟩) C.length C.length] 56) = W3 at HQ HB3 HBX3 HH3 hs3 ⊢
    generalize W2.heap.size = q at HQ hs2 ⊢
    have HT := hide (thoseReach_any B g h q (some ⟨cb, 0, none⟩) C.length C W3 (unhide HH3) hlen (unhide HCI).2.1 ((unhide HQ).c 0 rfl) (bo_at (unhide HBX3)))
    go_wp2_with fail
    refine (unhide HT).mono ?_
    rintro e W4 ⟨v, rfl, hO, hb4⟩
    have HO : Hid (OwnJ W4 w.heap.size v (sel h.O C)) := hide (rowMono (base' := w.heap.size) hO hs3)
    have HB4 := hide ((unhide HB3).trans (hb4.mono (unhide HB3).size))
    clear hO hb4 HT
    go_wp2
    go_ret2
    exact ⟨Or.inr ⟨(unhide HCI).1, v, C, rfl, (unhide HCI).2, unhide HO⟩, unhide HB4⟩
def keepO : List Ob → List Bool → List Ob
  | o :: O, true :: C => o :: keepO O C
  | _ :: O, false :: C => keepO O C
  | _, _ => []
def goneN : List Ob → List Bool → Nat
  | _ :: O, true :: C => goneN O C
  | o :: O, false :: C => (1 + o.ps.length) + goneN O C
  | _, _ => 0
theorem keep_snoc : ∀ (O : List Ob) (C : List Bool) (o : Ob) (b : Bool), O.length = C.length → keepO (O ++ [o]) (C ++ [b]) = keepO O C ++ (if b then [o] else []) ∧ goneN (O ++ [o]) (C ++ [b]) = goneN O C + (if b then 0 else 1 + o.ps.length)
  | [], [], o, b, _ => by cases b <;> simp [keepO, goneN]
  | x :: O, c :: C, o, b, h => by
    have ih := keep_snoc O C o b (by simpa using h)
    cases c
    · simp only [List.cons_append, keepO, goneN]; exact ⟨ih.1, by rw [ih.2]; omega⟩
    · simp only [List.cons_append, keepO, goneN]; exact ⟨by rw [ih.1], ih.2⟩
theorem keep_step {O : List Ob} {C : List Bool} {k : Nat} {o : Ob} {b : Bool} (ho : O[k]? = some o) (hb : C[k]? = some b) : keepO (O.take (k + 1)) (C.take (k + 1)) = keepO (O.take k) (C.take k) ++ (if b then [o] else []) ∧ goneN (O.take (k + 1)) (C.take (k + 1)) = goneN (O.take k) (C.take k) + (if b then 0 else 1 + o.ps.length) := by
  rw [take_step ho, take_step hb]
  refine keep_snoc _ _ _ _ ?_
  have h1 := (List.getElem?_eq_some_iff.1 ho).1
  have h2 := (List.getElem?_eq_some_iff.1 hb).1
  simp; omega
theorem keep_sub : ∀ (O : List Ob) (C : List Bool), (keepO O C).Sublist O
  | [], [] => by simp [keepO]
  | [], _ :: _ => by simp [keepO]
  | _ :: _, [] => by simp [keepO]
  | o :: O, true :: C => by simp only [keepO]; exact (keep_sub O C).cons_cons o
  | o :: O, false :: C => by simp only [keepO]; exact (keep_sub O C).cons o
theorem keep_cells : ∀ (O : List Ob) (C : List Bool), O.length = C.length → cellsO O = cellsO (keepO O C) + goneN O C
  | [], [], _ => rfl
  | o :: O, true :: C, h => by have := keep_cells O C (by simpa using h); unfold cellsO at this ⊢; simp only [keepO, goneN, List.map_cons, List.sum_cons]; omega
  | o :: O, false :: C, h => by have := keep_cells O C (by simpa using h); unfold cellsO at this ⊢; simp only [keepO, goneN, List.map_cons, List.sum_cons]; omega
theorem keep_sel : ∀ (O : List Ob) (C : List Bool), (keepO O C).map Ob.ref = sel O C
  | [], [] => rfl
  | [], _ :: _ => rfl
  | _ :: _, [] => rfl
  | o :: O, true :: C => by simp only [keepO, sel, List.map_cons, keep_sel O C]
  | o :: O, false :: C => by simp only [keepO, sel, keep_sel O C]
def colH (h : Hm) (C : List Bool) (ov : Value) : Hm := { h with used := h.used - (goneN h.O C : Int), ov := ov, O := keepO h.O C }
theorem HmOk.col {h : Hm} (H : HmOk h) {C : List Bool} (hC : C.length = h.O.length) (ov : Value) : HmOk (colH h C ov) := by
  have hs := keep_sub h.O C
  have hc := keep_cells h.O C hC.symm
  refine ⟨H.room, ?_, ?_, H.last, ?_, fun o ho => H.refs o (hs.subset ho), fun o ho => H.cls o (hs.subset ho), fun o ho => H.i32 o (hs.subset ho), H.lds⟩
  · show h.used - (goneN h.O C : Int) = (cellsO (keepO h.O C) : Int)
    rw [H.used]; omega
  · show h.used - (goneN h.O C : Int) ≤ h.room
    have := H.fits; omega
  · exact H.asc.sublist hs
/-- The objects' block while it is gone over: first those that stay, from a place on what was. -/
def CL (W : World) (ob cap : Nat) (O : List Ob) (i : Nat) (K : List Ob) : Prop := ∃ cur, W.heap[ob]? = some (.cells cur 83 (0, 0)) ∧ cur.size = cap * 3 ∧ cur.toList.take (K.length * 3) = obvals K ∧ ∀ (t : Nat) (o : Ob), i ≤ t → O[t]? = some o → ∀ j, j < 3 → cur[t * 3 + j]? = (obC o)[j]?
theorem CL.below {W W' : World} {ob cap : Nat} {O : List Ob} {i : Nat} {K : List Ob} (h : CL W ob cap O i K) (hb : Below W.heap.size W W') : CL W' ob cap O i K := by
  obtain ⟨cur, h1, h2⟩ := h
  exact ⟨cur, (hb.block ob (Array.getElem?_eq_some_iff.1 h1).1).trans h1, h2⟩
theorem CL.cell {W : World} {ob cap : Nat} {O : List Ob} {i : Nat} {K : List Ob} (h : CL W ob cap O i K) {t : Nat} {o : Ob} (ht : i ≤ t) (ho : O[t]? = some o) : W.cell? ⟨ob, t * 3, none⟩ = some (.int .i64 o.ref) ∧ W.cell? ⟨ob, t * 3 + 1, none⟩ = some (.int .i64 o.cls) ∧ W.cell? ⟨ob, t * 3 + 2, none⟩ = some (.slice (some ⟨o.pb, 0, none⟩) o.ps.length o.ps.length) := by
  obtain ⟨cur, h1, _, _, h4⟩ := h
  exact ⟨(cell_of_row _ _ _ _ _ _ h1).trans (h4 t o ht ho 0 (by omega)), (cell_of_row _ _ _ _ _ _ h1).trans (h4 t o ht ho 1 (by omega)), (cell_of_row _ _ _ _ _ _ h1).trans (h4 t o ht ho 2 (by omega))⟩
theorem CL.next {W : World} {ob cap : Nat} {O : List Ob} {i : Nat} {K : List Ob} (h : CL W ob cap O i K) : CL W ob cap O (i + 1) K := by
  obtain ⟨cur, h1, h2, h3, h4⟩ := h
  exact ⟨cur, h1, h2, h3, fun t o ht => h4 t o (by omega)⟩
theorem CL.app {W : World} {ob cap : Nat} {O : List Ob} {i : Nat} {K : List Ob} {o : Ob} {ty : TypeId} (h : CL W ob cap O i K) (hK : K.length ≤ i) (hi : i < cap) (ad : Addr) (hn : ∀ j u, (obC o)[j]? = some u → W.cell? (ad.add j) = some u) :
    ∃ W', (Builtin.append_ #[53, 53] ty #[.slice (some ⟨ob, 0, none⟩) K.length cap, .slice (some ad) 1 1]).run Tryd.prog W = .ok (.slice (some ⟨ob, 0, none⟩) (K.length + 1) cap) W' ∧ CL W' ob cap O (i + 1) (K ++ [o]) ∧ W.grownBy W' (some ob) := by
  obtain ⟨i0, hi0, hz0, hz1, hz2⟩ := info_parts infoOb
  obtain ⟨cur, h1, h2, h3, h4⟩ := h
  have hfit : K.length * i0.size + (obC o).length ≤ cur.size := by rw [hz1, h2]; simp [obC]; omega
  refine ⟨_, run_append_room (P := Tryd.prog) W 53 ty 83 i0 Tryd.underlying53 hi0 ob K.length cap cur h1 ad 1 1 (obC o) (by rw [hz1]; rfl) hn (obC_one o) (by omega) hfit, ⟨_, setRow_heap _ _ _ _ _ _ h1, ?_, ?_, ?_⟩, ⟨rfl, rfl, rfl, by simp, fun k _ hk => setRow_other _ _ _ _ (fun e => hk (by rw [e]))⟩⟩
  · rw [hz1]
    simp [obC, h2]
    omega
  · rw [hz1]
    have e1 : (cur.toList.take (K.length * 3) ++ obC o).length = (K ++ [o]).length * 3 := by simp [obC, h2]; omega
    rw [← e1]
    simp only [List.take_left']
    rw [h3, obvals_snoc]
  · intro t x ht hx j hj
    rw [hz1, List.getElem?_toArray]
    have hl : (cur.toList.take (K.length * 3) ++ obC o).length = K.length * 3 + 3 := by simp [obC, h2]; omega
    rw [List.getElem?_append_right (by omega), hl, List.getElem?_drop]
    rw [show K.length * 3 + (obC o).length + (t * 3 + j - (K.length * 3 + 3)) = t * 3 + j by simp [obC]; omega]
    have := h4 t x (by omega) hx j hj
    simpa using this
theorem CL.own {B : Nat} {W : World} {ob cap : Nat} {O : List Ob} {i : Nat} {K : List Ob} (h : CL W ob cap O i K) (hB : B ≤ ob) (hc : K.length ≤ cap) (hm : cap ≤ maxLen) : W.ownsRow B 83 3 (.slice (some ⟨ob, 0, none⟩) K.length cap) K.length (obvals K) := by
  obtain ⟨cur, h1, h2, h3, _⟩ := h
  exact ⟨obvals_len K, Or.inr ⟨ob, cap, cur, rfl, hB, h1, hc, hm, h2, h3⟩⟩
theorem CL.clear {W : World} {ob cap N : Nat} {O : List Ob} {i : Nat} {K : List Ob} (h : CL W ob cap O i K) (hK : K.length < N) (hN : N ≤ cap) (c : Nat) : ∃ W', (∀ ty, (Builtin.clear_ #[53] ty #[.slice (some ⟨ob, K.length * 3, none⟩) (N - K.length) c]).run Tryd.prog W = .ok (.tuple #[]) W') ∧ CL W' ob cap O O.length K ∧ W.grownBy W' (some ob) := by
  obtain ⟨cur, h1, h2, h3, h4⟩ := h
  have hzl : (Builtin.zeroCells #[.int .i64 0, .int .i64 0, .slice none 0 0] (N - K.length)).size = (N - K.length) * 3 := size_zeroCells _ _
  have hz1 : ∀ v ∈ (Builtin.zeroCells #[.int .i64 0, .int .i64 0, .slice none 0 0] (N - K.length)).toList, v.oneCell' = true := by
    intro v hv
    obtain ⟨k, hk, e⟩ := List.mem_iff_getElem.1 hv
    rw [← e]
    simp [Builtin.zeroCells]
    have : k % 3 < 3 := Nat.mod_lt _ (by omega)
    generalize k % 3 = q at this
    match q, this with
    | 0, _ => rfl
    | 1, _ => rfl
    | 2, _ => rfl
  have hst := run_storeCells_at Tryd.prog ob (K.length * 3) 83 (Builtin.zeroCells #[.int .i64 0, .int .i64 0, .slice none 0 0] (N - K.length)).toList 0 cur W h1 (by simp [hzl, h2]; omega) hz1
  have hzv : (zeroValue 83).run Tryd.prog W = .ok (.agg #[.int .i64 0, .int .i64 0, .slice none 0 0]) W := by kernel_rfl
  simp only [Nat.add_zero] at hst
  refine ⟨W.setRow ob (cur.toList.take (K.length * 3) ++ (Builtin.zeroCells #[.int .i64 0, .int .i64 0, .slice none 0 0] (N - K.length)).toList ++ cur.toList.drop (K.length * 3 + (Builtin.zeroCells #[.int .i64 0, .int .i64 0, .slice none 0 0] (N - K.length)).toList.length)).toArray, fun ty => ?_, ⟨_, setRow_heap _ _ _ _ _ _ h1, ?_, ?_, ?_⟩, ⟨rfl, rfl, rfl, by simp, fun k _ hk => setRow_other _ _ _ _ (fun e => hk (by rw [e]))⟩⟩
  · obtain ⟨m, hm⟩ : ∃ m, N - K.length = m + 1 := ⟨N - K.length - 1, by omega⟩
    rw [hm] at hst ⊢
    simp only [Builtin.clear_]
    simp [hzv, Value.cells, hst]
  · simp [hzl, h2]; omega
  · have e1 : (cur.toList.take (K.length * 3)).length = K.length * 3 := by simp [h2]; omega
    show List.take (K.length * 3) (_ ++ _ ++ _) = _
    rw [List.append_assoc, List.take_left' e1, h3]
  · intro t o ht ho
    have := (List.getElem?_eq_some_iff.1 ho).1
    omega
theorem keep_le (O : List Ob) (C : List Bool) : (keepO O C).length ≤ O.length := (keep_sub O C).length_le
theorem gone_take (O : List Ob) (C : List Bool) (k : Nat) : goneN (O.take k) (C.take k) ≤ goneN O C := by
  induction O generalizing C k with
  | nil => cases C <;> simp [goneN]
  | cons o O ih =>
    cases C with
    | nil => cases k <;> simp [goneN]
    | cons b C =>
      cases k with
      | zero => simp [goneN]
      | succ k =>
        have := ih C k
        cases b
        · simp only [List.take_succ_cons, goneN]; omega
        · simp only [List.take_succ_cons, goneN]; exact this
theorem clear_none (a : Option Addr) (c : Nat) (w : World) : (Builtin.clear_ #[53] 0 #[.slice a 0 c]).run Tryd.prog w = .ok (.tuple #[]) w := by
  cases a <;> simp [Builtin.clear_, run_underlying Tryd.underlying53]
/-- What Collect answers, and the heap behind it. -/
def ColIs (h : Hm) (R : List Int) (h' : Hm) (n er : Int) : Prop := (badR h R ∧ n = 0 ∧ er = 141 ∧ h' = h) ∨ (¬ badR h R ∧ er = 0 ∧ ∃ C ov, ComIs h R C ∧ n = (goneN h.O C : Int) ∧ h' = colH h C ov)
theorem HpAt.col {B : Nat} {W0 W : World} {g : Nat} {h : Hm} (H : HpAt B W0 g h) {ob cap : Nat} {C : List Bool} (hk : Kp B [83] W0 W) (hcl : CL W ob cap h.O h.O.length (keepO h.O C)) (hB : B ≤ ob) (hc : (keepO h.O C).length ≤ cap) (hm : cap ≤ maxLen) :
    HpAt B (W.setCell ⟨g, 4, none⟩ (.slice (some ⟨ob, 0, none⟩) (keepO h.O C).length cap)) g { h with ov := .slice (some ⟨ob, 0, none⟩) (keepO h.O C).length cap, O := keepO h.O C } ∧ Kp B [55, 83] W0 (W.setCell ⟨g, 4, none⟩ (.slice (some ⟨ob, 0, none⟩) (keepO h.O C).length cap)) ∧ Bx W g 55 (hpC h) := by
  have b3 := H.box.kp hk (by decide)
  have k2 : Kp B [55] W (W.setCell ⟨g, 4, none⟩ (.slice (some ⟨ob, 0, none⟩) (keepO h.O C).length cap)) := Kp.set b3 H.lo (by simp) 4 _
  have hs := keep_sub h.O C
  refine ⟨⟨H.lo, b3.set 4 _ rfl, own_kp (own_kp H.lds hk (by decide)) k2 (by decide), fun x hx => own_kp (own_kp (H.each x hx) hk (by decide)) k2 (by decide), own_kp (hcl.own hB hc hm) k2 (by decide), fun o ho => ?_, ?_⟩, (hk.mono (Nat.le_refl _) (by simp)).trans (k2.mono (Nat.le_refl _) (by simp)), b3⟩
  · have := H.pls o (hs.subset ho)
    exact ⟨this.1, (this.2.kp hk (by decide)).kp k2 (by decide)⟩
  · exact H.nd.sublist (hs.map _)
set_option maxRecDepth 20000 in
set_option maxHeartbeats 4000000 in
theorem Collect_any (B g : Nat) (h : Hm) (ao : Option Addr) (cp : Nat) (R : List Int) (w : World) (H : HpAt B w g h) (hok : HmOk h) (hB : B ≤ w.heap.size) (hR : JsAt w ao R) (hRl : R.length * 8 ≤ 140737488351232) :
    Calls Tryd.prog 29 #[.pointer (some ⟨g, 0, none⟩), .slice ao R.length cp] w fun e w' => ∃ h' n er, e = .returned (.tuple #[.int .i64 n, .int .i64 er]) ∧ ColIs h R h' n er ∧ HpAt B w' g h' ∧ Kp B [55, 83] w w' := by
  have HC := hide (come_any B g h ao cp R w H hok hR hRl)
  have HH := hide H
  have HK := hide hok
  have HBB := hide hB
  have hlen := hok.len
  have hu : 0 ≤ h.used := by have := hok.used; omega
  have hur : h.used ≤ 4096 := by have := hok.fits; have := hok.room.2; omega
  clear H hok hR hRl hB
  go_enter Tryd.func29, Tryd.ntmps29
  go_wp2_with fail
  refine (unhide HC).mono ?_
  rintro e W2 ⟨hc, hb2⟩
  rcases hc with ⟨rfl, hbad⟩ | ⟨hnb, cb, C, rfl, hci, hbx, hge⟩
  · have HBD := hide hbad
    have HB := hide hb2
    clear hbad hb2 HC
    go_wp2
    go_ret2
    exact ⟨h, 0, 141, rfl, Or.inl ⟨unhide HBD, rfl, rfl, rfl⟩, (unhide HH).below (unhide HB), Kp.of_below (unhide HB) (unhide HBB)⟩
  · have HH2 := hide ((unhide HH).below hb2)
    have HK2 : Hid (Kp B [55, 83] w W2) := hide (Kp.of_below hb2 (unhide HBB))
    have HB2 : Hid (B ≤ W2.heap.size) := hide (Nat.le_trans (unhide HBB) hb2.size)
    have HCI := hide (And.intro hnb hci)
    have HBX := hide hbx
    have hCl1 : C.length ≤ h.O.length := by have := hci.1; omega
    have hCl2 : h.O.length ≤ C.length := by have := hci.1; omega
    clear hnb hci hbx hge hb2 HC HH HBB
    have HGO : Hid (goneN h.O C ≤ 4096 ∧ h.used = (cellsO h.O : Int) ∧ goneN h.O C ≤ cellsO h.O) := hide (by have h1 := keep_cells h.O C (unhide HCI).2.1.symm; have h2 := (unhide HK).used; refine ⟨by omega, h2, by omega⟩)
    have c4 := (unhide HH2).c4
    rcases (unhide HH2).own.2 with ⟨hov, hn0⟩ | ⟨ob, cap, cur, hov, hBo, hcur, hnc, hcm, hsz, htk⟩
    · have hO : h.O = [] := List.eq_nil_of_length_eq_zero hn0
      have HE : Hid (ColIs h R h 0 0) := hide (Or.inr ⟨(unhide HCI).1, rfl, C, h.ov, (unhide HCI).2, by rw [hO]; cases C <;> rfl, by
        unfold colH
        rw [hO]
        have : keepO [] C = [] := by cases C <;> rfl
        have g0 : goneN [] C = 0 := by cases C <;> rfl
        rw [this, g0, ← hO]
        simp⟩)
      rw [hov] at c4
      have hcl0 : (Builtin.clear_ #[53] 0 #[.slice none 0 0]).run Tryd.prog W2 = .ok (.tuple #[]) W2 := clear_none none 0 W2
      have hn0' : h.O.length ≤ 0 := by omega
      have f4 := (unhide HH2).box.f 4
      have HU := hide ((unhide HH2).upd h 4 (.slice none 0 0) rfl rfl rfl rfl (by unfold hpC; rw [hov]; rfl))
      clear hov hn0 hO
      go_wp2_with fail
      go_loopw [8, 9, 31] (fun s8 s9 i wr => s8 = .slice none 0 0 ∧ s9 = .int .i64 0 ∧ i = .int .i64 0 ∧ wr = W2) (fun _ _ _ _ => 0)
      case atStart => exact ⟨rfl, rfl, rfl, rfl⟩
      case round =>
        obtain ⟨rfl, rfl, rfl, hwr⟩ := hrel
        rw [hwr]
        clear hwr
        go_upto_region 14 with fail
        have HH3 := hide (unhide HU).1
        have HK3 := hide ((unhide HK2).trans ((unhide HU).2.mono (Nat.le_refl _) (by simp)))
        clear HU f4 c4 hcl0
        generalize W2.setCell ⟨g, 4, none⟩ (.slice none 0 0) = W4 at HH3 HK3 ⊢
        have c2 := (unhide HH3).c2
        have f2 := (unhide HH3).box.f 2
        have HU2 := hide ((unhide HH3).upd h 2 (.int .i64 h.used) rfl rfl rfl rfl rfl)
        go_wp2
        go_ret2
        exact ⟨h, 0, 0, rfl, unhide HE, (unhide HU2).1, (unhide HK3).trans ((unhide HU2).2.mono (Nat.le_refl _) (by simp))⟩
    · rw [hov] at c4
      have HCL0 : Hid (CL W2 ob cap h.O 0 []) := hide ⟨cur, hcur, hsz, by simp [obvals], fun t o _ ho j hj => by
        have h1 := World.ownsRow.cellAt (by have := (unhide HH2).own; rw [hov] at this; exact this) (t * 3 + j) (by have := (List.getElem?_eq_some_iff.1 ho).1; omega)
        rw [cell_of_row _ _ _ _ _ _ hcur] at h1
        rw [h1, obvals_get ho j hj]⟩
      have HOV := hide hov
      have HBo := hide hBo
      have HCM := hide hcm
      clear hcur hsz htk hov hBo hcm
      go_wp2_with fail
      go_loopw [8, 9, 31] (fun s8 s9 i wr => ∃ (k : Nat) (K : List Ob) (gn : Nat), k ≤ h.O.length ∧ i = .int .i64 (k : Int) ∧ s8 = .slice (some ⟨ob, 0, none⟩) K.length cap ∧ s9 = .int .i64 (gn : Int) ∧ K.length ≤ k ∧ gn ≤ 4096 ∧ Hid (K = keepO (h.O.take k) (C.take k) ∧ gn = goneN (h.O.take k) (C.take k)) ∧ Hid (CL wr ob cap h.O k K) ∧ Hid (Kp B [83] W2 wr)) (fun _ _ i _ => h.O.length - (intOf i).toNat)
      case atStart => exact ⟨0, [], 0, by omega, rfl, by simp, rfl, by simp, by omega, hide ⟨rfl, rfl⟩, HCL0, hide (Kp.refl _ _ _)⟩
      case round =>
        obtain ⟨k, K, gn, hk, rfl, rfl, rfl, hKk, hgn, HE, HCL, HKr⟩ := hrel
        clear HCL0
        by_cases hlt : k < h.O.length
        · have i1 : ((k : Nat) : Int) < ((h.O.length : Nat) : Int) := by omega
          have hx := List.getElem?_eq_getElem hlt
          generalize h.O[k] = o at hx
          obtain ⟨c0, c1, c2⟩ := (unhide HCL).cell (Nat.le_refl _) hx
          have hbk := List.getElem?_eq_getElem (show k < C.length by omega)
          generalize C[k] = bb at hbk
          have hal : Below wr.heap.size wr (wr.alloc (.cells #[.int .i64 o.ref, .int .i64 o.cls, .slice (some ⟨o.pb, 0, none⟩) o.ps.length o.ps.length] 83)) := (Below.refl _ _).alloc (Nat.le_refl _) _
          have HBXo : Hid (Bx (wr.alloc (.cells #[.int .i64 o.ref, .int .i64 o.cls, .slice (some ⟨o.pb, 0, none⟩) o.ps.length o.ps.length] 83)) wr.heap.size 83 #[.int .i64 o.ref, .int .i64 o.cls, .slice (some ⟨o.pb, 0, none⟩) o.ps.length o.ps.length]) := hide (heap_alloc_new wr _)
          have HCLa := hide ((unhide HCL).below hal)
          have HBr : Hid (B ≤ (wr.alloc (.cells #[.int .i64 o.ref, .int .i64 o.cls, .slice (some ⟨o.pb, 0, none⟩) o.ps.length o.ps.length] 83)).heap.size) := hide (Nat.le_trans (unhide HB2) (Nat.le_trans (unhide HKr).size hal.size))
          have HKa := hide ((unhide HKr).trans (Kp.of_below hal (Nat.le_trans (unhide HB2) (unhide HKr).size)))
          have HST := hide (keep_step hx hbk)
          have hpl := (unhide HK).plen (List.mem_of_getElem? hx)
          clear hal HCL HKr hx
          go_upto_region 8 with fail
          clear c0 c1 c2
          generalize wr.alloc (.cells #[.int .i64 o.ref, .int .i64 o.cls, .slice (some ⟨o.pb, 0, none⟩) o.ps.length o.ps.length] 83) = Wa at HBXo HCLa HKa HBr ⊢
          generalize wr.heap.size = gb at HBXo ⊢
          have cbk := ((unhide HBX).kp (unhide HKa) (by decide)).c k (v := .bool bb) (by simp [hbk])
          have i2 : ((k : Nat) : Int) < ((C.length : Nat) : Int) := by omega
          clear hbk
          cases bb with
          | true =>
            have hal2 : Below Wa.heap.size Wa (Wa.alloc (.cells #[.int .i64 o.ref, .int .i64 o.cls, .slice (some ⟨o.pb, 0, none⟩) o.ps.length o.ps.length] 83)) := (Below.refl _ _).alloc (Nat.le_refl _) _
            obtain ⟨W', hrun, hcl, hgr⟩ := ((unhide HCLa).below hal2).app (o := o) (ty := 53) hKk (by omega) ⟨Wa.heap.size, 0, none⟩ (news_ob (heap_alloc_new Wa (.cells (obC o).toArray 83)))
            have HRUN := hide hrun
            have HCL2 := hide hcl
            have HK3 : Hid (Kp B [83] W2 W') := hide (((unhide HKa).trans (Kp.of_below hal2 (unhide HBr))).trans (Kp.of_grown hgr (Nat.le_trans (unhide HBr) hal2.size) (fun q e => by
              injection e with e
              subst e
              obtain ⟨cr, h1, _⟩ := (unhide HCLa).below hal2
              exact ⟨unhide HBo, cr, 83, (0, 0), h1, by simp⟩)))
            have HE2 : Hid (K ++ [o] = keepO (h.O.take (k + 1)) (C.take (k + 1)) ∧ gn = goneN (h.O.take (k + 1)) (C.take (k + 1))) := hide ⟨by rw [(unhide HST).1, (unhide HE).1]; rfl, by rw [(unhide HST).2, (unhide HE).2]; rfl⟩
            clear hrun hcl hgr hal2
            go_wp2_with (first | (refine wpList_load_rowH (by kernel_rfl) 83 (.tmp 11) rfl gb rfl 83 #[.int .i64 o.ref, .int .i64 o.cls, .slice (some ⟨o.pb, 0, none⟩) o.ps.length o.ps.length] (0, 0) _ (unhide HBXo) Tryd.underlying83 rfl (by kernel_rfl) ?_) | (at_builtin; refine Lib.wpList_append_run _ rfl _ _ 53 53 rfl _ _ rfl rfl _ _ (unhide HRUN) ?_))
            go_wp2
            go_roundw
            case rel => exact ⟨k + 1, K ++ [o], gn, by omega, by go_num, by simp, rfl, by simp; omega, hgn, HE2, HCL2, HK3⟩
            case measure => simp [intOf]; omega
          | false =>
            have HE2 : Hid (K = keepO (h.O.take (k + 1)) (C.take (k + 1)) ∧ gn + (1 + o.ps.length) = goneN (h.O.take (k + 1)) (C.take (k + 1))) := hide ⟨by have := (unhide HST).1; rw [this, ← (unhide HE).1]; simp, by have := (unhide HST).2; rw [this, ← (unhide HE).2]; simp⟩
            have hg2 : gn + (1 + o.ps.length) ≤ 4096 := by
              rw [(unhide HE2).2]
              exact Nat.le_trans (gone_take h.O C (k + 1)) (unhide HGO).1
            go_wp2_with (first | (refine wpList_load_rowH (by kernel_rfl) 83 (.tmp 11) rfl gb rfl 83 #[.int .i64 o.ref, .int .i64 o.cls, .slice (some ⟨o.pb, 0, none⟩) o.ps.length o.ps.length] (0, 0) _ (unhide HBXo) Tryd.underlying83 rfl (by kernel_rfl) ?_) | (go_at_call 53; refine (cells_any o.ref o.cls (some ⟨o.pb, 0, none⟩) o.ps.length o.ps.length Wa hpl).mono ?_; rintro e Wb ⟨rfl, hb⟩))
            have HCL2 := hide ((unhide HCLa).below hb).next
            have HK3 := hide ((unhide HKa).trans (Kp.of_below hb (unhide HBr)))
            clear hb
            go_wp2
            go_roundw
            case rel => exact ⟨k + 1, K, gn + (1 + o.ps.length), by omega, by go_num, rfl, by go_num, by omega, hg2, HE2, HCL2, HK3⟩
            case measure => simp [intOf]; omega
        · have i1 : ¬ ((k : Nat) : Int) < ((h.O.length : Nat) : Int) := by omega
          have HKE : Hid (K = keepO h.O C ∧ gn = goneN h.O C) := hide (by have := unhide HE; rw [List.take_of_length_le (by omega), List.take_of_length_le (by omega)] at this; exact this)
          have hKl : K.length ≤ h.O.length := by omega
          have d4 := ((unhide HH2).box.kp (unhide HKr) (by decide)).c 4 (v := h.ov) rfl
          rw [unhide HOV] at d4
          by_cases hKN : K.length < h.O.length
          · obtain ⟨W', hrun, hcl, hgr⟩ := (unhide HCL).clear hKN hnc (cap - K.length)
            have HRUN := hide hrun
            have hne : ¬ K.length = cap := by omega
            have i3 : ((K.length : Nat) : Int) ≤ ((h.O.length : Nat) : Int) := by omega
            have hr0 := hrun 0
            have HCL2 := hide hcl
            have HK5 : Hid (Kp B [83] W2 W') := hide ((unhide HKr).trans (Kp.of_grown hgr (Nat.le_trans (unhide HB2) (unhide HKr).size) (fun q e => by
              injection e with e
              subst e
              obtain ⟨cr, h1, _⟩ := unhide HCL
              exact ⟨unhide HBo, cr, 83, (0, 0), h1, by simp⟩)))
            clear hrun hcl hgr HRUN
            go_upto_region 13 with fail
            clear hr0
            have HF := hide ((unhide HH2).col (C := C) (unhide HK5) (by rw [← (unhide HKE).1]; exact unhide HCL2) (unhide HBo) (by rw [← (unhide HKE).1]; omega) (unhide HCM))
            rw [← (unhide HKE).1] at HF
            have k4 := (unhide HF).2.2.c 4 (v := h.ov) rfl
            have f4 := (unhide HF).2.2.f 4
            go_upto_region 14 with fail
            have HH3 := hide (unhide HF).1
            have HK3 := hide ((unhide HK2).trans (unhide HF).2.1)
            clear k4 f4 HF d4 
            generalize W'.setCell ⟨g, 4, none⟩ (.slice (some ⟨ob, 0, none⟩) K.length cap) = W4 at HH3 HK3 ⊢
            have c2 := (unhide HH3).c2
            have f2 := (unhide HH3).box.f 2
            have HU := hide ((unhide HH3).upd { h with used := h.used - (gn : Int), ov := .slice (some ⟨ob, 0, none⟩) K.length cap, O := K } 2 (.int .i64 (h.used - (gn : Int))) rfl rfl rfl rfl rfl)
            have HCOL : Hid (ColIs h R { h with used := h.used - (gn : Int), ov := .slice (some ⟨ob, 0, none⟩) K.length cap, O := K } (gn : Int) 0) := hide (Or.inr ⟨(unhide HCI).1, rfl, C, .slice (some ⟨ob, 0, none⟩) K.length cap, (unhide HCI).2, by rw [(unhide HKE).2], by unfold colH; rw [← (unhide HKE).1, ← (unhide HKE).2]⟩)
            go_wp2
            go_ret2
            exact ⟨_, (gn : Int), 0, rfl, unhide HCOL, (unhide HU).1, (unhide HK3).trans ((unhide HU).2.mono (Nat.le_refl _) (by simp))⟩
          · have hKN2 : K.length = h.O.length := by omega
            have HCL2 : Hid (CL wr ob cap h.O h.O.length K) := hide (by have := unhide HCL; rw [show k = h.O.length by omega] at this; exact this)
            have hz : h.O.length - K.length = 0 := by omega
            have hcl0 : ∀ a c, (Builtin.clear_ #[53] 0 #[.slice a 0 c]).run Tryd.prog wr = .ok (.tuple #[]) wr := fun a c => clear_none a c wr
            · have i3 : ((K.length : Nat) : Int) ≤ ((h.O.length : Nat) : Int) := by omega
              clear hKN2
              go_upto_region 13 with fail
              clear hcl0 hz d4
              have HF := hide ((unhide HH2).col (C := C) (unhide HKr) (by rw [← (unhide HKE).1]; exact unhide HCL2) (unhide HBo) (by rw [← (unhide HKE).1]; omega) (unhide HCM))
              rw [← (unhide HKE).1] at HF
              have k4 := (unhide HF).2.2.c 4 (v := h.ov) rfl
              have f4 := (unhide HF).2.2.f 4
              go_upto_region 14 with fail
              have HH3 := hide (unhide HF).1
              have HK3 := hide ((unhide HK2).trans (unhide HF).2.1)
              clear k4 f4 HF 
              generalize wr.setCell ⟨g, 4, none⟩ (.slice (some ⟨ob, 0, none⟩) K.length cap) = W4 at HH3 HK3 ⊢
              have c2 := (unhide HH3).c2
              have f2 := (unhide HH3).box.f 2
              have HU := hide ((unhide HH3).upd { h with used := h.used - (gn : Int), ov := .slice (some ⟨ob, 0, none⟩) K.length cap, O := K } 2 (.int .i64 (h.used - (gn : Int))) rfl rfl rfl rfl rfl)
              have HCOL : Hid (ColIs h R { h with used := h.used - (gn : Int), ov := .slice (some ⟨ob, 0, none⟩) K.length cap, O := K } (gn : Int) 0) := hide (Or.inr ⟨(unhide HCI).1, rfl, C, .slice (some ⟨ob, 0, none⟩) K.length cap, (unhide HCI).2, by rw [(unhide HKE).2], by unfold colH; rw [← (unhide HKE).1, ← (unhide HKE).2]⟩)
              go_wp2
              all_goals (go_ret2; exact ⟨_, (gn : Int), 0, rfl, unhide HCOL, (unhide HU).1, (unhide HK3).trans ((unhide HU).2.mono (Nat.le_refl _) (by simp))⟩)
end Go.Proofs.YtbbfnampjbdnbaaDoor
