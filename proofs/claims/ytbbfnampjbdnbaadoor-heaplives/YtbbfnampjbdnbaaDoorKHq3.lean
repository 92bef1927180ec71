/-
  Contracts of the heap's Get and Put. Conditions: the heap is one that calls made.
-/
import Derived.Test.YtbbfnampjbdnbaaDoorKHq2
namespace Go.Proofs.YtbbfnampjbdnbaaDoor
open Go.RowKit
set_option maxRecDepth 20000

theorem plC_get (l : List Int) (j : Nat) (hj : j < l.length) : (plC l)[j]? = some (.int .i32 l[j]) := by unfold plC; simp [hj]
theorem plC_set (l : List Int) (j : Nat) (v : Int) : plC (l.set j v) = (plC l).setIfInBounds j (.int .i32 v) := by
  apply Array.ext'
  unfold plC
  rw [Array.toList_setIfInBounds]
  simp [List.map_set]
/-- Why there is no such place: 0 if there is. -/
def plE (O : List Ob) (ref i : Int) : Int := match objD O ref with | none => if ref = 0 then 140 else 141 | some o => if 0 ≤ i ∧ i < o.ps.length then 0 else 142
def getD (O : List Ob) (ref i : Int) : Int := match objD O ref with | none => 0 | some o => if 0 ≤ i then o.ps.getD i.toNat 0 else 0
def getV (O : List Ob) (ref i : Int) : Int := if plE O ref i = 0 then getD O ref i else 0
theorem AtIs.e {O : List Ob} {ref i : Int} {a : Option Addr} {n cp : Nat} {er : Int} (H : AtIs O ref i a n cp er) : er = plE O ref i := by
  unfold plE
  rcases H with ⟨rfl, o, ho, _, h1, h2, _⟩ | ⟨rfl, o, ho, h1⟩ | ⟨ho, h1⟩
  · rw [ho]; simp [h1, h2]
  · rw [ho]
    have : ¬ (0 ≤ i ∧ i < (o.ps.length : Int)) := by omega
    simp [this]
  · rw [ho]
    rcases h1 with ⟨rfl, h1⟩ | ⟨rfl, h1⟩ <;> simp [h1]
def putO (O : List Ob) (ref : Int) (j : Nat) (v : Int) : List Ob := O.map (fun o => if o.ref == ref then { o with ps := o.ps.set j v } else o)
theorem putO_vals (O : List Ob) (ref : Int) (j : Nat) (v : Int) : obvals (putO O ref j v) = obvals O := by
  unfold obvals putO
  induction O with
  | nil => rfl
  | cons x l ih =>
    rw [List.map_cons, List.flatMap_cons, List.flatMap_cons, ih]
    congr 1
    split <;> simp [obC]
theorem putO_pb (O : List Ob) (ref : Int) (j : Nat) (v : Int) : (putO O ref j v).map Ob.pb = O.map Ob.pb := by
  unfold putO
  rw [List.map_map]
  apply List.map_congr_left
  intro o _
  simp only [Function.comp]
  split <;> rfl
theorem putO_cells (O : List Ob) (ref : Int) (j : Nat) (v : Int) : cellsO (putO O ref j v) = cellsO O := by
  unfold cellsO putO
  rw [List.map_map]
  congr 1
  apply List.map_congr_left
  intro o _
  simp only [Function.comp]
  split <;> simp
/-- A heap with a place written. -/
def putH (h : Hm) (ref i v : Int) : Hm := { h with O := putO h.O ref i.toNat v }
theorem putO_mem {O : List Ob} {ref : Int} {j : Nat} {v : Int} {x : Ob} (hx : x ∈ putO O ref j v) : ∃ o ∈ O, x.ref = o.ref ∧ x.cls = o.cls ∧ x.pb = o.pb ∧ x.ps.length = o.ps.length ∧ ∀ y ∈ x.ps, y ∈ o.ps ∨ y = v := by
  unfold putO at hx
  obtain ⟨o, ho, rfl⟩ := List.mem_map.1 hx
  refine ⟨o, ho, ?_⟩
  split
  · refine ⟨rfl, rfl, rfl, by simp, fun y hy => ?_⟩
    exact List.mem_or_eq_of_mem_set hy
  · exact ⟨rfl, rfl, rfl, rfl, fun y hy => Or.inl hy⟩
theorem HmOk.put {h : Hm} (H : HmOk h) (ref i v : Int) (hv : -2147483648 ≤ v ∧ v ≤ 2147483647) : HmOk (putH h ref i v) := by
  refine ⟨H.room, by show h.used = _; rw [H.used]; unfold putH; rw [putO_cells], H.fits, H.last, ?_, ?_, ?_, ?_, H.lds⟩
  · unfold putH putO
    rw [List.pairwise_map]
    refine H.asc.imp ?_
    intro a b hab
    split <;> split <;> exact hab
  · intro x hx
    obtain ⟨o, ho, e, _⟩ := putO_mem hx
    rw [e]
    exact H.refs o ho
  · intro x hx
    obtain ⟨o, ho, _, e, _, el, _⟩ := putO_mem hx
    rw [e, el]
    exact H.cls o ho
  · intro x hx y hy
    obtain ⟨o, ho, _, _, _, _, hh⟩ := putO_mem hx
    rcases hh y hy with h1 | rfl
    · exact H.i32 o ho y h1
    · exact hv
theorem HpAt.put {B : Nat} {W : World} {g : Nat} {h : Hm} (H : HpAt B W g h) (hok : HmOk h) {ref v : Int} {j : Nat} {o : Ob} (ho : objD h.O ref = some o) : HpAt B (W.setCell ⟨o.pb, j, none⟩ (.int .i32 v)) g (putH h ref (j : Int) v) ∧ Kp B [21] W (W.setCell ⟨o.pb, j, none⟩ (.int .i32 v)) := by
  obtain ⟨hm, hr⟩ := obj_mem ho
  have hp := H.pls o hm
  have hk : Kp B [21] W (W.setCell ⟨o.pb, j, none⟩ (.int .i32 v)) := Kp.set hp.2 hp.1 (by simp) j _
  refine ⟨⟨H.lo, H.box.kp hk (by decide), own_kp H.lds hk (by decide), fun x hx => own_kp (H.each x hx) hk (by decide), ?_, ?_, by show ((putO h.O ref _ v).map Ob.pb).Nodup; rw [putO_pb]; exact H.nd⟩, hk⟩
  · have e1 : (putH h ref (j : Int) v).O.length = h.O.length := by unfold putH putO; simp
    have e2 : obvals (putH h ref (j : Int) v).O = obvals h.O := putO_vals _ _ _ _
    rw [e1, e2]
    exact own_kp H.own hk (by decide)
  · intro x hx
    have hx : x ∈ putO h.O ref ((j : Int).toNat) v := hx
    unfold putO at hx
    obtain ⟨y, hy, rfl⟩ := List.mem_map.1 hx
    by_cases e : y.ref = ref
    · have : y = o := by
        obtain ⟨t, ht, et⟩ := List.mem_iff_getElem.1 hy
        have h2 := obj_at hok.asc (List.getElem?_eq_getElem ht)
        rw [et, e, ho] at h2
        injection h2 with h2
        exact h2.symm
      subst this
      rw [if_pos (by simp [e])]
      refine ⟨hp.1, ?_⟩
      show Bx _ y.pb _ (plC (y.ps.set _ v))
      rw [plC_set]
      exact hp.2.set j _ rfl
    · rw [if_neg (by simp [e])]
      refine ⟨(H.pls y hy).1, (H.pls y hy).2.other _ _ (fun e2 => e ?_)⟩
      have e2 : y.pb = o.pb := e2
      obtain ⟨t, ht, et⟩ := List.mem_iff_getElem.1 hy
      obtain ⟨u, hu, eu⟩ := List.mem_iff_getElem.1 hm
      have hnd := List.pairwise_iff_getElem.1 H.nd
      have htu : t = u := by
        rcases Nat.lt_trichotomy t u with h1 | h1 | h1
        · exact absurd (by rw [List.getElem_map, List.getElem_map, et, eu]; exact e2) (hnd t u (by simpa using ht) (by simpa using hu) h1)
        · exact h1
        · exact absurd (by rw [List.getElem_map, List.getElem_map, et, eu]; exact e2.symm) (hnd u t (by simpa using hu) (by simpa using ht) h1)
      subst htu
      rw [et] at eu
      rw [eu, hr]
set_option maxHeartbeats 1000000 in
theorem Get_any (B g : Nat) (h : Hm) (ref i : Int) (w : World) (H : HpAt B w g h) (hok : HmOk h) : Calls Tryd.prog 20 #[.pointer (some ⟨g, 0, none⟩), .int .i64 ref, .int .i64 i] w fun e w' => e = .returned (.tuple #[.int .i64 (getV h.O ref i), .int .i64 (plE h.O ref i)]) ∧ Below w.heap.size w w' := by
  have HM := hide (at_any B g h ref i w H hok)
  have HH := hide H
  have HK := hide hok
  clear H hok
  go_enter Tryd.func20, Tryd.ntmps20
  go_wp2_with fail
  refine (unhide HM).mono ?_
  rintro e W2 ⟨⟨r, c, a, n, cp, er, rfl, hI⟩, hB2⟩
  have al2 := (Below.refl W2.heap.size W2).alloc (Nat.le_refl _) (.cells #[.int .i64 r, .int .i64 c, .slice a n cp] 83)
  have hB3 := hB2.trans (al2.mono hB2.size)
  have HB3 := hide hB3
  have HN : Hid (Bx (W2.alloc (.cells #[.int .i64 r, .int .i64 c, .slice a n cp] 83)) W2.heap.size 83 #[.int .i64 r, .int .i64 c, .slice a n cp]) := hide (heap_alloc_new W2 _)
  have HH3 := hide ((unhide HH).below hB3)
  have HI := hide hI
  clear al2 hB2 hB3 hI HM HH
  go_upto_region 2 with fail
  generalize (W2.alloc (.cells #[.int .i64 r, .int .i64 c, .slice a n cp] 83)) = W3 at HB3 HN HH3 ⊢
  generalize W2.heap.size = g3 at HN ⊢
  have HE := hide (AtIs.e (unhide HI))
  by_cases h0 : er = 0
  · have t0 : (er != 0) = false := bne_f h0
    have HE0 : Hid (plE h.O ref i = 0) := hide (by rw [← unhide HE]; exact h0)
    rcases unhide HI with ⟨_, o, ho, hm, i1, i2, rfl, rfl, rfl⟩ | ⟨h1, _⟩ | ⟨_, h1⟩
    · obtain ⟨j, rfl⟩ : ∃ j : Nat, i = (j : Int) := ⟨i.toNat, by omega⟩
      have hj : j < o.ps.length := by omega
      have hp := ((unhide HH3).pls o hm).2.c j (plC_get _ _ hj)
      have hr := (unhide HK).i32 o hm _ (List.getElem_mem hj)
      have HV : Hid (getD h.O ref (j : Int) = o.ps[j]) := hide (by unfold getD; rw [ho]; simp [hj])
      have c2 := (unhide HN).c 2 rfl
      clear HE h0 ho hm
      generalize o.ps[j] = x at hp hr HV
      go_wp2
      go_ret2
      exact ⟨by unfold getV; rw [if_pos (unhide HE0), unhide HV, unhide HE0]; rfl, unhide HB3⟩
    · omega
    · omega
  · have t0 : (er != 0) = true := bne_t h0
    have HE0 : Hid (¬ plE h.O ref i = 0) := hide (by rw [← unhide HE]; exact h0)
    clear h0
    go_wp2
    go_ret2
    exact ⟨by unfold getV; rw [if_neg (unhide HE0), ← unhide HE]; rfl, unhide HB3⟩
/-- What Put answers. -/
def putE (O : List Ob) (ref i v : Int) : Int := if plE O ref i = 0 then (if v < -2147483648 ∨ 2147483647 < v then 5 else 0) else plE O ref i
def putD (h : Hm) (ref i v : Int) : Hm := if putE h.O ref i v = 0 then putH h ref i v else h
theorem HmOk.putD {h : Hm} (H : HmOk h) (ref i v : Int) : HmOk (putD h ref i v) := by
  unfold Go.Proofs.YtbbfnampjbdnbaaDoor.putD putE
  by_cases h1 : plE h.O ref i = 0
  · rw [if_pos h1]
    by_cases h2 : v < -2147483648 ∨ 2147483647 < v
    · rw [if_pos h2, if_neg (by omega)]; exact H
    · rw [if_neg h2, if_pos rfl]; exact H.put ref i v (by omega)
  · rw [if_neg h1, if_neg h1]; exact H
set_option maxHeartbeats 1000000 in
theorem Put_any (B g : Nat) (h : Hm) (ref i v : Int) (w : World) (H : HpAt B w g h) (hok : HmOk h) (hB : B ≤ w.heap.size) : Calls Tryd.prog 22 #[.pointer (some ⟨g, 0, none⟩), .int .i64 ref, .int .i64 i, .int .i64 v] w fun e w' => e = .returned (.int .i64 (putE h.O ref i v)) ∧ HpAt B w' g (putD h ref i v) ∧ Kp B [21] w w' := by
  have HM := hide (at_any B g h ref i w H hok)
  have HH := hide H
  have HK := hide hok
  have HBB := hide hB
  clear H hok hB
  go_enter Tryd.func22, Tryd.ntmps22
  go_wp2_with fail
  refine (unhide HM).mono ?_
  rintro e W2 ⟨⟨r, c, a, n, cp, er, rfl, hI⟩, hB2⟩
  have al2 := (Below.refl W2.heap.size W2).alloc (Nat.le_refl _) (.cells #[.int .i64 r, .int .i64 c, .slice a n cp] 83)
  have hB3 := hB2.trans (al2.mono hB2.size)
  have HB3 : Hid (Kp B [21] w (W2.alloc (.cells #[.int .i64 r, .int .i64 c, .slice a n cp] 83))) := hide (Kp.of_below hB3 (unhide HBB))
  have HN : Hid (Bx (W2.alloc (.cells #[.int .i64 r, .int .i64 c, .slice a n cp] 83)) W2.heap.size 83 #[.int .i64 r, .int .i64 c, .slice a n cp]) := hide (heap_alloc_new W2 _)
  have HH3 := hide ((unhide HH).below hB3)
  have HI := hide hI
  clear al2 hB2 hB3 hI HM HH
  go_upto_region 2 with fail
  generalize (W2.alloc (.cells #[.int .i64 r, .int .i64 c, .slice a n cp] 83)) = W3 at HB3 HN HH3 ⊢
  generalize W2.heap.size = g3 at HN ⊢
  have HE := hide (AtIs.e (unhide HI))
  by_cases h0 : er = 0
  · have t0 : (er != 0) = false := bne_f h0
    have HE0 : Hid (plE h.O ref i = 0) := hide (by rw [← unhide HE]; exact h0)
    rcases unhide HI with ⟨_, o, ho, hm, i1, i2, rfl, rfl, rfl⟩ | ⟨h1, _⟩ | ⟨_, h1⟩
    · obtain ⟨j, rfl⟩ : ∃ j : Nat, i = (j : Int) := ⟨i.toNat, by omega⟩
      have hj : j < o.ps.length := by omega
      have c2 := (unhide HN).c 2 rfl
      by_cases hv : v < -2147483648 ∨ 2147483647 < v
      · have HP : Hid (putE h.O ref (j : Int) v = 5 ∧ putD h ref (j : Int) v = h) := hide (by
          have : putE h.O ref (j : Int) v = 5 := by unfold putE; rw [if_pos (unhide HE0), if_pos hv]
          exact ⟨this, by unfold putD; rw [this]; simp⟩)
        clear HE h0 ho hm
        rcases hv with hv | hv
        · go_wp2
          go_ret
          rw [(unhide HP).1, (unhide HP).2]
          exact ⟨rfl, unhide HH3, unhide HB3⟩
        · have hv' : ¬ v < -2147483648 := by omega
          go_wp2
          go_ret
          rw [(unhide HP).1, (unhide HP).2]
          exact ⟨rfl, unhide HH3, unhide HB3⟩
      · have HP : Hid (putE h.O ref (j : Int) v = 0 ∧ putD h ref (j : Int) v = putH h ref (j : Int) v) := hide (by
          have : putE h.O ref (j : Int) v = 0 := by unfold putE; rw [if_pos (unhide HE0), if_neg hv]
          exact ⟨this, by unfold putD; rw [if_pos this]⟩)
        have v1 : ¬ v < -2147483648 := by omega
        have v2 : ¬ 2147483647 < v := by omega
        have HF := hide ((unhide HH3).put (unhide HK) (v := v) (j := j) ho)
        have bx := ((unhide HH3).pls o hm).2
        have hp := bx.c j (plC_get _ _ hj)
        have hf := bx.f j
        clear HE h0 ho hm hv bx
        generalize o.ps[j] = x at hp
        go_wp2
        go_ret
        rw [(unhide HP).1, (unhide HP).2]
        exact ⟨rfl, (unhide HF).1, (unhide HB3).trans (unhide HF).2⟩
    · omega
    · omega
  · have t0 : (er != 0) = true := bne_t h0
    have HE0 : Hid (putE h.O ref i v = er ∧ putD h ref i v = h) := hide (by
      have h1 : ¬ plE h.O ref i = 0 := by rw [← unhide HE]; exact h0
      have : putE h.O ref i v = er := by unfold putE; rw [if_neg h1, unhide HE]
      exact ⟨this, by unfold putD; rw [this, if_neg h0]⟩)
    clear h0
    go_wp2
    go_ret
    rw [(unhide HE0).1, (unhide HE0).2]
    exact ⟨rfl, unhide HH3, unhide HB3⟩
end Go.Proofs.YtbbfnampjbdnbaaDoor
