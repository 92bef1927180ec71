/-
  flow.among: those of a row of numbers at which an instruction stands; slices.IndexFunc and DeleteFunc with its closure.
-/
import Derived.Test.YtdpfinnclnapbaaDoorBk2
import Derived.Lib.SliceRun
import Derived.Deep.AppendLies
namespace Go.Proofs.YtdpfinnclnapbaaDoor
open Go.RowKit Go.Maps
set_option maxRecDepth 20000

/-- The closure's box, and the map that it names. -/
structure Std (W : World) (B m : Nat) (l : List Ix) : Prop where
  box : W.cell? ⟨B, 0, none⟩ = some (.map (some m))
  map : MapAt W m l.length (bks l)
theorem Std.grown {W w : World} {B m : Nat} {row : Option Nat} {l : List Ix} (h : Std W B m l) (hg : W.grownBy w row) (hB : some B ≠ row) (hm : some m ≠ row) : Std w B m l :=
  ⟨(hg.cell_far ⟨B, 0, none⟩ (World.block_lt_of_cell? W _ h.box) hB).trans h.box, World.ownsMap.kept h.map hg hm⟩
theorem grown_two {a b c : World} {row : Option Nat} (h1 : a.grownBy b row) (h2 : b.grownBy c row) : a.grownBy c row :=
  ⟨h2.os.trans h1.os, h2.tape.trans h1.tape, h2.output.trans h1.output, Nat.le_trans h1.size h2.size, fun k hk hn => (h2.block k (Nat.lt_of_lt_of_le hk h1.size) hn).trans (h1.block k hk hn)⟩
theorem grown_same (a : World) (row : Option Nat) : a.grownBy a row := ⟨rfl, rfl, rfl, Nat.le_refl _, fun _ _ _ => rfl⟩

set_option maxRecDepth 20000 in
set_option maxHeartbeats 1000000 in
theorem among1_any (a : Int) (B m : Nat) (l : List Ix) (w : World) (h : Std w B m l) (ha : -9223372036854775808 ≤ a ∧ a ≤ 9223372036854775807) :
    Calls Tryd.prog 51 #[.int .i64 a, .pointer (some ⟨B, 0, none⟩)] w fun e w' => e = .returned (.bool (!hasP l a)) ∧ w' = w := by
  have hwf := wf_of ha
  have k0 := h.box
  have HM := hide h.map
  clear h
  go_enter Tryd.func51, Tryd.ntmps51
  go_upto_region 2 with (at_lookup; refine wpList_lookup_own_ok_int _ rfl _ _ 55 rfl 3 3 .i64 lawK Tryd.underlying55 Tryd.underlying3 (zeroX _) m l.length (fMap (bks l)) rfl (unhide HM) _ _ rfl (keyOf_int_mk Tryd.underlying3 hwf) ?_; intro cc hat hwc; clear hat hwc)
  rw [has_fMap]
  go_wp2
  go_ret
  exact ⟨rfl, rfl⟩

set_option maxRecDepth 20000 in
set_option maxHeartbeats 1000000 in
theorem IndexFuncJ_any (oa : Option Addr) (oc : Nat) (L : List Int) (B m : Nat) (l : List Ix) (w : World) (hO : JsAt w oa L) (hz : L.length ≤ 4400000000000) (hs : Std w B m l) (hb : ∀ a ∈ L, -9223372036854775808 ≤ a ∧ a ≤ 9223372036854775807) :
    Calls Tryd.prog 59 #[.slice oa L.length oc, .func (.func 51) #[] #[.pointer (some ⟨B, 0, none⟩)]] w fun e w' => (∃ i : Int, e = .returned (.int .i64 i) ∧ ((i = -1 ∧ ∀ a ∈ L, hasP l a = true) ∨ ∃ k : Nat, i = (k : Int) ∧ k < L.length ∧ (∀ a ∈ L.take k, hasP l a = true) ∧ ∀ a, L[k]? = some a → hasP l a = false)) ∧ w' = w := by
  have HT := hide hO
  have HS := hide hs
  have HB := hide hb
  clear hO hs hb
  go_enter Tryd.func59, Tryd.ntmps59
  go_wp2
  go_loopw [5, 8] (fun _ i wr => ∃ k : Nat, k ≤ L.length ∧ i = .int .i64 (k : Int) ∧ Hid (∀ a ∈ L.take k, hasP l a = true) ∧ Hid (wr = w)) (fun _ i _ => L.length - (intOf i).toNat)
  case atStart => exact ⟨0, by omega, rfl, hide (fun a h => by simp at h), hide rfl⟩
  case round =>
    obtain ⟨k, hk, rfl, HK, HW⟩ := hrel
    by_cases hlt : k < L.length
    · have i1 : ((k : Nat) : Int) < ((L.length : Nat) : Int) := by omega
      have hx := List.getElem?_eq_getElem hlt
      obtain ⟨b, off, rfl, hc⟩ := unhide HT k _ hx
      rw [← unhide HW] at hc
      have hbd := unhide HB _ (List.getElem_mem hlt)
      have HX := hide hx
      have HTK : Hid (L.take (k + 1) = L.take k ++ [L[k]]) := hide (List.take_append_getElem hlt).symm
      generalize L[k] = a at hc hbd HX HTK
      have HC := hide (among1_any a B m l wr (by rw [unhide HW]; exact unhide HS) hbd)
      clear hx hbd
      go_wp2_with fail
      refine (unhide HC).mono ?_
      rintro e w2 ⟨rfl, rfl⟩
      cases hh : hasP l a
      · have HR : Hid (∀ y, L[k]? = some y → hasP l y = false) := hide (fun y hy => by rw [unhide HX] at hy; injection hy with hy; rw [← hy]; exact hh)
        clear hh
        go_wp2
        go_ret
        exact ⟨⟨_, rfl, .inr ⟨k, rfl, hlt, unhide HK, unhide HR⟩⟩, unhide HW⟩
      · have HK2 : Hid (∀ y ∈ L.take (k + 1), hasP l y = true) := hide (fun y hy => by
          rw [unhide HTK] at hy
          rcases List.mem_append.1 hy with h | h
          · exact unhide HK y h
          · simp at h; rw [h]; exact hh)
        clear hh HTK
        go_wp2
        go_roundw
        case rel => exact ⟨k + 1, by omega, by go_num, HK2, HW⟩
        case measure => simp [intOf]; omega
    · have i1 : ¬ ((k : Nat) : Int) < ((L.length : Nat) : Int) := by omega
      have HR : Hid (∀ a ∈ L, hasP l a = true) := hide (by have := unhide HK; rwa [List.take_of_length_le (by omega)] at this)
      go_wp2
      go_ret
      exact ⟨⟨_, rfl, .inl ⟨rfl, unhide HR⟩⟩, unhide HW⟩

/-! ### A row cut short -/
theorem own_cut {w : World} {base g n cap i : Nat} {xs : List Value} (h : w.ownsRow base 3 1 (.slice (some ⟨g, 0, none⟩) n cap) n xs) (hi : i ≤ n) : w.ownsRow base 3 1 (.slice (some ⟨g, 0, none⟩) i cap) i (xs.take i) := by
  rcases h with ⟨hl, ⟨h1, _⟩ | ⟨g', cap', cur, hv, hb, hh, hn, hm, hs, ht⟩⟩
  · simp at h1
  · injection hv with e1 _ e2
    injection e1 with e1
    injection e1 with e1
    subst e1 e2
    refine ⟨by simp; omega, Or.inr ⟨g, cap, cur, rfl, hb, hh, by omega, hm, hs, ?_⟩⟩
    rw [← ht, List.take_take, Nat.mul_one, Nat.mul_one, Nat.min_eq_left hi]
theorem own_clear {base g n cap : Nat} {z : Value} : ∀ (m i : Nat) (w : World) (xs : List Value), w.ownsRow base 3 1 (.slice (some ⟨g, 0, none⟩) n cap) n xs → ∃ ys, (w.setCells g i (List.replicate m z)).ownsRow base 3 1 (.slice (some ⟨g, 0, none⟩) n cap) n ys ∧ ys.take i = xs.take i ∧ w.grownBy (w.setCells g i (List.replicate m z)) (some g)
  | 0, i, w, xs, h => ⟨xs, h, rfl, ⟨rfl, rfl, rfl, Nat.le_refl _, fun _ _ _ => rfl⟩⟩
  | m + 1, i, w, xs, h => by
    obtain ⟨h1, h2⟩ := h.stored i z
    obtain ⟨ys, h3, h4, h5⟩ := own_clear m (i + 1) _ _ h1
    refine ⟨ys, h3, ?_, ⟨h5.os.trans h2.os, h5.tape.trans h2.tape, h5.output.trans h2.output, Nat.le_trans h2.size h5.size, fun k hk hn => (h5.block k (Nat.lt_of_lt_of_le hk h2.size) hn).trans (h2.block k hk hn)⟩⟩
    have := congrArg (List.take i) h4
    rw [List.take_take, List.take_take, Nat.min_eq_left (by omega)] at this
    rw [this]
    exact List.take_set_of_le (by omega)

/-- While a row is thinned out: the first i of C are what is kept of the first j of L, the rest is as it was. -/
structure Thn (L C : List Int) (p : Int → Bool) (i j : Nat) : Prop where
  len : C.length = L.length
  le : i < j
  ahead : C.take i = (L.take j).filter p
  rest : C.drop j = L.drop j
theorem Thn.skip {L C : List Int} {p : Int → Bool} {i j : Nat} {a : Int} (h : Thn L C p i j) (ha : L[j]? = some a) (hp : p a = false) : Thn L C p i (j + 1) := by
  have hj := (List.getElem?_eq_some_iff.1 ha).1
  refine ⟨h.len, by have := h.le; omega, ?_, ?_⟩
  · rw [← List.take_append_getElem hj, List.filter_append, h.ahead]
    have : L[j] = a := by rw [List.getElem?_eq_getElem hj] at ha; injection ha
    simp [this, hp]
  · have := congrArg (List.drop 1) h.rest
    rwa [List.drop_drop, List.drop_drop] at this
theorem Thn.keep {L C : List Int} {p : Int → Bool} {i j : Nat} {a : Int} (h : Thn L C p i j) (ha : L[j]? = some a) (hp : p a = true) : Thn L (C.set i a) p (i + 1) (j + 1) := by
  have hj := (List.getElem?_eq_some_iff.1 ha).1
  have hl := h.len
  have hle := h.le
  refine ⟨by simp [h.len], by omega, ?_, ?_⟩
  · rw [← List.take_append_getElem hj, List.filter_append, ← h.ahead]
    have : L[j] = a := by rw [List.getElem?_eq_getElem hj] at ha; injection ha
    have hi : i < (C.set i a).length := by simp; omega
    rw [← List.take_append_getElem hi]
    simp [this, hp]
    exact List.take_set_of_le (Nat.le_refl _)
  · rw [List.drop_set_of_lt (by omega)]
    have := congrArg (List.drop 1) h.rest
    rwa [List.drop_drop, List.drop_drop] at this
theorem Thn.at {L C : List Int} {p : Int → Bool} {i j : Nat} (h : Thn L C p i j) {a : Int} (ha : L[j]? = some a) : C[j]? = some a := by
  have h1 : (C.drop j)[0]? = (L.drop j)[0]? := by rw [h.rest]
  rw [List.getElem?_drop, List.getElem?_drop] at h1
  simpa [ha] using h1

theorem jvals_set (C : List Int) (i : Nat) (a : Int) : jvals (C.set i a) = (jvals C).set i (.int .i64 a) := by unfold jvals; rw [List.map_set]
set_option maxRecDepth 20000 in
set_option maxHeartbeats 4000000 in
theorem DeleteFuncJ_any (v : Value) (base : Nat) (L : List Int) (B m : Nat) (l : List Ix) (w : World) (hO : OwnJ w base v L) (hbs : base ≤ w.heap.size) (hz : L.length ≤ 4400000000000) (hs : Std w B m l) (hB : some B ≠ v.ownBlock) (hm : some m ≠ v.ownBlock) (hb : ∀ a ∈ L, -9223372036854775808 ≤ a ∧ a ≤ 9223372036854775807) :
    Calls Tryd.prog 50 #[v, .func (.func 51) #[] #[.pointer (some ⟨B, 0, none⟩)]] w fun e w' => ∃ v', e = .returned v' ∧ OwnJ w' base v' (L.filter (hasP l)) ∧ w.grownBy w' v.ownBlock := by
  obtain ⟨oa, oc, rfl, hJ, _⟩ := hO.at
  have HIX := hide (IndexFuncJ_any oa oc L B m l w hJ hz hs hb)
  have HO := hide hO
  have HS := hide hs
  have HBD := hide hb
  clear hO hs hJ hb
  go_enter Tryd.func50, Tryd.ntmps50
  go_wp2_with fail
  refine (unhide HIX).mono ?_
  rintro e w1 ⟨⟨i, rfl, hi⟩, rfl⟩
  rcases hi with ⟨rfl, hall⟩ | ⟨k, rfl, hk, hah, hat⟩
  · have HF : Hid (L.filter (hasP l) = L) := hide (List.filter_eq_self.2 hall)
    clear hall HIX
    go_wp2
    go_ret
    exact ⟨_, rfl, by rw [unhide HF]; exact unhide HO, grown_same _ _⟩
  have ht0 : Thn L L (hasP l) k (k + 1) := ⟨rfl, by omega, by
    rw [← List.take_append_getElem hk, List.filter_append, List.filter_eq_self.2 hah]
    simp [hat _ (List.getElem?_eq_getElem hk)], rfl⟩
  have HT0 := hide ht0
  have b1 : (((k : Nat) : Int) == -1) = false := by simp
  clear ht0 hah hat HIX
  rcases (unhide HO).shape with ⟨h1, h2⟩ | ⟨g, cap, hv, hgb, hgl, hcap, hcell, hfz⟩
  · rw [h2] at hk; simp at hk
  injection hv with e1 e2 e3
  subst e1 e3
  clear hcell hfz e2
  go_wp2_with fail
  go_loopw [5, 6] (fun vi vj wr => ∃ (i j : Nat) (C : List Int), vi = .int .i64 (i : Int) ∧ vj = .int .i64 (j : Int) ∧ j ≤ L.length ∧ Hid (Thn L C (hasP l) i j) ∧ Hid (wr.ownsRow base 3 1 (.slice (some ⟨g, 0, none⟩) L.length oc) L.length (jvals C)) ∧ Hid (w1.grownBy wr (some g))) (fun _ vj _ => L.length - (intOf vj).toNat)
  case atStart => exact ⟨k, k + 1, L, rfl, by go_num, by omega, HT0, HO, hide (grown_same _ _)⟩
  case round =>
    obtain ⟨i, j, C, rfl, rfl, hj, HT, HR, HBW⟩ := hrel
    have hij := (unhide HT).le
    by_cases hlt : j < L.length
    · have j1 : ((j : Nat) : Int) < ((L.length : Nat) : Int) := by omega
      have j2 : ((i : Nat) : Int) < ((L.length : Nat) : Int) := by omega
      have hx := List.getElem?_eq_getElem hlt
      have hbd := unhide HBD _ (List.getElem_mem hlt)
      generalize L[j] = a at hx hbd
      have hcj : wr.cell? ⟨g, j, none⟩ = some (.int .i64 a) := by
        rw [World.ownsRow.cellAt (unhide HR) j (by omega)]
        unfold jvals
        rw [List.getElem?_map, (unhide HT).at hx]
        rfl
      have hci : ∃ y, wr.cell? ⟨g, i, none⟩ = some y := by
        rw [World.ownsRow.cellAt (unhide HR) i (by omega)]
        have : i < (jvals C).length := by unfold jvals; rw [List.length_map, (unhide HT).len]; omega
        exact ⟨_, List.getElem?_eq_getElem this⟩
      obtain ⟨y, hci⟩ := hci
      have hfi := World.ownsRow.frozenAt (unhide HR) i
      have HC := hide (among1_any a B m l wr ((unhide HS).grown (unhide HBW) hB hm) hbd)
      go_wp2_with fail
      refine (unhide HC).mono ?_
      rintro e w2 ⟨rfl, rfl⟩
      cases hh : hasP l a
      · have HT2 := hide ((unhide HT).skip hx hh)
        clear hh hx
        go_wp2
        go_roundw
        case rel => exact ⟨i, j + 1, C, rfl, by go_num, by omega, HT2, HR, HBW⟩
        case measure => simp [intOf]; omega
      · have HT2 := hide ((unhide HT).keep hx hh)
        have hst := World.ownsRow.stored (unhide HR) i (.int .i64 a)
        rw [← jvals_set] at hst
        have HR2 := hide hst.1
        have HB2 := hide (grown_two (unhide HBW) hst.2)
        clear hh hx hst
        go_wp2
        go_roundw
        case rel => exact ⟨i + 1, j + 1, C.set i a, by go_num, by go_num, by omega, HT2, HR2, HB2⟩
        case measure => simp [intOf]; omega
    · have j1 : ¬ ((j : Nat) : Int) < ((L.length : Nat) : Int) := by omega
      have hjl : j = L.length := by omega
      subst hjl
      have p1 : ((i : Nat) : Int) ≤ ((L.length : Nat) : Int) := by omega
      have p0 : (0 : Int) ≤ ((i : Nat) : Int) := by omega
      have p2 : ((L.length : Nat) : Int) ≤ ((oc : Nat) : Int) := by omega
      have p3 : ((i : Nat) : Int) ≤ ((oc : Nat) : Int) := by omega
      have p4 : ¬ oc = i := by omega
      have hlen : (jvals C).length = L.length := by unfold jvals; rw [List.length_map, (unhide HT).len]
      have hclr : (Builtin.clear_ #[32] 0 #[.slice (some ⟨g, i, none⟩) (L.length - i) (oc - i)]).run Tryd.prog wr = .ok (.tuple #[]) (wr.setCells g i (List.replicate (L.length - i) (.int .i64 0))) :=
        Lib.run_clear_slice wr 32 3 0 (.int .i64 0) Tryd.underlying32 zeroX rfl rfl g i (L.length - i) (oc - i) (by omega) (fun q hq => by
          rw [World.ownsRow.cellAt (unhide HR) (i + q) (by omega), List.getElem?_eq_getElem (by rw [hlen]; omega)]
          rfl) (fun q _ => World.ownsRow.frozenAt (unhide HR) (i + q))
      obtain ⟨ys, hO9, hys, hG9⟩ := own_clear (z := .int .i64 0) (L.length - i) i wr _ (unhide HR)
      have hcut := own_cut hO9 (show i ≤ L.length by omega)
      rw [hys, show (jvals C).take i = jvals (L.filter (hasP l)) from by
        unfold jvals
        rw [← List.map_take, (unhide HT).ahead, List.take_of_length_le (Nat.le_refl _)]] at hcut
      have hfl : (L.filter (hasP l)).length = i := by
        have := congrArg List.length (unhide HT).ahead
        rw [List.length_take, List.take_of_length_le (Nat.le_refl _), (unhide HT).len] at this
        omega
      have HO9 : Hid (OwnJ (wr.setCells g i (List.replicate (L.length - i) (.int .i64 0))) base (.slice (some ⟨g, 0, none⟩) i oc) (L.filter (hasP l))) := hide (by unfold OwnJ; rw [hfl]; exact hcut)
      have HB9 : Hid (w1.grownBy (wr.setCells g i (List.replicate (L.length - i) (.int .i64 0))) (some g)) := hide (grown_two (unhide HBW) hG9)
      generalize wr.setCells g i (List.replicate (L.length - i) (.int .i64 0)) = W9 at hclr HO9 HB9
      clear hO9 hys hG9 hcut hfl hlen HT HR
      go_wp2
      go_ret
      exact ⟨_, rfl, unhide HO9, unhide HB9⟩

set_option maxRecDepth 20000 in
set_option maxHeartbeats 1000000 in
theorem among_any (v : Value) (base : Nat) (L : List Int) (m : Nat) (l : List Ix) (w : World) (hO : OwnJ w base v L) (hbs : base ≤ w.heap.size) (hz : L.length ≤ 4400000000000) (hs : MapAt w m l.length (bks l)) (hm : some m ≠ v.ownBlock) (hb : ∀ a ∈ L, -9223372036854775808 ≤ a ∧ a ≤ 9223372036854775807) :
    Calls Tryd.prog 28 #[.map (some m), v] w fun e w' => ∃ v', e = .returned v' ∧ OwnJ w' base v' (L.filter (hasP l)) ∧ w.grownBy w' v.ownBlock := by
  have n1 := heap_alloc_new w (.cells #[.map (some m)] 55)
  have HD := hide (DeleteFuncJ_any v base L w.heap.size m l (w.alloc (.cells #[.map (some m)] 55)) (hO.below ((Below.refl _ _).alloc (Nat.le_refl _) _)) (by simp; omega) hz ⟨cell_of_row _ _ 0 _ _ _ n1, World.ownsMap.alloc hs _⟩ (fun e => by have := (World.ownsRow.lt hO _ e.symm).2; omega) hm hb)
  have HG : Hid (w.grownBy (w.alloc (.cells #[.map (some m)] 55)) v.ownBlock) := hide (World.grownBy_alloc w _ _)
  obtain ⟨oa, oc, rfl, _, _⟩ := hO.at
  clear n1 hO hs hm hb
  go_enter Tryd.func28, Tryd.ntmps28
  go_wp2_with fail
  refine (unhide HD).mono ?_
  rintro e w2 ⟨v2, rfl, hO2, hG2⟩
  have HO2 := hide hO2
  have HG2 := hide (grown_two (unhide HG) hG2)
  clear hO2 hG2
  go_wp2
  go_ret
  exact ⟨_, rfl, unhide HO2, unhide HG2⟩
end Go.Proofs.YtdpfinnclnapbaaDoor
